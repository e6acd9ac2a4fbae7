import Derived.Test.YtnnkcjolgbpklaaGreatC7
set_option linter.unusedVariables false
section
open Go Go.Ev
set_option maxRecDepth 1000000
noncomputable section
namespace Go.Proofs.YtnnkcjolgbpklaaGreat.G
variable (cal:Cal) (k:Nat)
noncomputable def uw:Code:=ak 84
noncomputable def gZ:List ResultVar:=bw 84
noncomputable def Dw:KR:=(cutK (Lv.b (Lv.b (A 84))).c (bZ P cal (aZ P cal k) none 84 (cR (cR (cR uw))) (Lv.b (Lv.b (Lv.b (A 84)))) (ay P gZ) X0 (ay P gZ)))
noncomputable def mY:XR:=(upX 0 (Dw cal k) X0)
noncomputable def yV(m1:Nat):KR:=(fun T H n D=>aZ P cal m1 (Lv.a (Lv.b (Lv.a (Lv.b (Lv.b (A 84)))))) none 84 (cL (cR (cL (cR (cR uw))))) (Dw cal k) (mY cal k) (ay P gZ) (cutT (Lv.a (Lv.b (Lv.a (Lv.b (Lv.b (A 84)))))).c T) H n D)
noncomputable def T84_2(m1:Nat):=fun(u0 u3 u5:Value) (H:Hp) (n:Nat)=>labK (bZ P cal (aZ P cal m1) none 84 (cR (cR (cR (cL (cL (cR (cL (cR (cR uw))))))))) (Lv.b (Lv.b (Lv.b (Lv.a (Lv.a (Lv.b (Lv.a (Lv.b (Lv.b (A 84)))))))))) (yV cal k m1) (mY cal k) (ay P gZ)) (Tr.set (Tr.set (Tr.set Tr.nil 5 (some u5)) 3 (some u3)) 0 (some u0)) H n []
noncomputable def T84_1(m1:Nat):=fun(u0 u3 u5:Value) (H:Hp) (n:Nat)=>labK (bZ P cal (aZ P cal m1) none 84 (cL (cL (cR (cL (cR (cR uw)))))) (Lv.a (Lv.a (Lv.b (Lv.a (Lv.b (Lv.b (A 84))))))) (yV cal k m1) (mY cal k) (ay P gZ)) (Tr.set (Tr.set (Tr.set Tr.nil 5 (some u5)) 3 (some u3)) 0 (some u0)) H n []
noncomputable def R84_1(m1:Nat):V3:=fun u0 u3 u5 H n=>aZ P cal m1 (Lv.a (Lv.b (Lv.a (Lv.b (Lv.b (A 84)))))) none 84 (cL (cR (cL (cR (cR uw))))) (Dw cal k) (mY cal k) (ay P gZ) (Tr.set (Tr.set (Tr.set Tr.nil 5 (some u5)) 3 (some u3)) 0 (some u0)) H n []
noncomputable def B84_2(cal:Cal)(k m1:Nat)(b1:V3)(u0 u3 u5:Value)(H:Hp)(n:Nat):Res:=
binK P BinOp.add 3 (Operand.tmp 5) (Operand.const (Value.int IntKind.i64 1)) u5 (Value.int IntKind.i64 1) fun v_5=>
b1 u0 u3 v_5 H n
noncomputable def C84_2(m1:Nat):=B84_2 cal k m1
theorem h84_2(m1:Nat):T84_2 cal k m1=C84_2 cal k m1 (R84_1 cal k m1):=by kernel_rfl
noncomputable def B84_1(cal:Cal)(k m1:Nat)(j2:V3)(b1:V3)(u0 u3 u5:Value)(H:Hp)(n:Nat):Res:=
binK P BinOp.lss 3 (Operand.tmp 5) (Operand.const (Value.int IntKind.i64 8)) u5 (Value.int IntKind.i64 8) fun v_4=>
ifK v_4 (
aK P cal 94 [u0,u5] H n fun v_b H_c n_d=>
ifK v_b (
rowK P 27 1 [(0,u5)] H_c n_d fun v_g H_h n_i=>
stK (eJ P (bare H_h n_i) 27 27 u3 v_g) fun v_j H_k n_l=>
j2 u0 v_j u5 H_k n_l) (
j2 u0 u3 u5 H_c n_d)) (
some (u3,H,n))
noncomputable def XV(m1:Nat)(b1:V3):=B84_1 cal k m1 (C84_2 cal k m1 b1) b1
noncomputable def XW:Nat→V3:=recF (XV cal k) (fun _ _ _ _ _=>none)
theorem h84_1(m1:Nat):T84_1 cal k m1=XV cal k m1 (R84_1 cal k m1):=Eq.trans (b:=B84_1 cal k m1 (T84_2 cal k m1) (R84_1 cal k m1)) (by kernel_rfl) (by rw[h84_2]; rfl)
theorem q84_1(m:Nat):T84_1 cal k m=XW cal k m:=recS (h84_1 cal k) (by kernel_rfl) (fun m=>by kernel_rfl) m
noncomputable def B84_0(cal:Cal)(k:Nat)(j1:V3)(v0:Value)(H:Hp)(n:Nat):Res:=
j1 v0 (Value.slice none 0 0) (Value.int IntKind.i64 0) H n
noncomputable def C84_0:=B84_0 cal k (XW cal k k)
theorem h84_0(v0:Value)(H:Hp)(n:Nat):aX P cal A (k+1) 84 [v0] H n=C84_0 cal k v0 H n:=(bq Go.Proofs.Tryz.f84 uw gZ (by kernel_rfl)).trans (Eq.trans (b:=B84_0 cal k (T84_1 cal k k) v0 H n) (by kernel_rfl) (by rw[q84_1]; rfl))
noncomputable def code86:Code:=ak 86
noncomputable def RY:List ResultVar:=bw 86
noncomputable def B86_0(cal:Cal)(k:Nat)(v0 v1:Value)(H:Hp)(n:Nat):Res:=
binK P BinOp.andNot 106 (Operand.tmp 5) (Operand.tmp 6) v0 v1 fun v_4=>
some (v_4,H,n)
noncomputable def C86_0:=B86_0 cal k
theorem h86_0(v0 v1:Value)(H:Hp)(n:Nat):aX P cal A (k+1) 86 [v0,v1] H n=C86_0 cal k v0 v1 H n:=(bq Go.Proofs.Tryz.f86 code86 RY (by kernel_rfl)).trans (by kernel_rfl)
noncomputable def qY:Code:=ak 90
noncomputable def eK:List ResultVar:=bw 90
noncomputable def yW:KR:=(cutK (Lv.b (Lv.b (Lv.b (A 90)))).c (bZ P cal (aZ P cal k) none 90 (cR (cR (cR (cR qY)))) (Lv.b (Lv.b (Lv.b (Lv.b (A 90))))) (ay P eK) X0 (ay P eK)))
noncomputable def kY:XR:=(upX 0 (yW cal k) X0)
noncomputable def uZ(m1:Nat):KR:=(fun T H n D=>aZ P cal m1 (Lv.a (Lv.b (Lv.a (Lv.b (Lv.b (Lv.b (A 90))))))) none 90 (cL (cR (cL (cR (cR (cR qY)))))) (yW cal k) (kY cal k) (ay P eK) (cutT (Lv.a (Lv.b (Lv.a (Lv.b (Lv.b (Lv.b (A 90))))))).c T) H n D)
noncomputable def T90_3(m1:Nat):=fun(u0 u1 u5 u6:Value) (H:Hp) (n:Nat)=>labK (bZ P cal (aZ P cal m1) none 90 (cR (cR (cL (cL (cR (cL (cR (cR (cR qY))))))))) (Lv.b (Lv.b (Lv.a (Lv.a (Lv.b (Lv.a (Lv.b (Lv.b (Lv.b (A 90)))))))))) (uZ cal k m1) (kY cal k) (ay P eK)) (Tr.set (Tr.set (Tr.set (Tr.set Tr.nil 6 (some u6)) 5 (some u5)) 1 (some u1)) 0 (some u0)) H n []
noncomputable def T90_2(m1:Nat):=fun(u0 u1 u5 u6:Value) (H:Hp) (n:Nat)=>labK (bZ P cal (aZ P cal m1) none 90 (cL (cL (cR (cL (cR (cR (cR qY))))))) (Lv.a (Lv.a (Lv.b (Lv.a (Lv.b (Lv.b (Lv.b (A 90)))))))) (uZ cal k m1) (kY cal k) (ay P eK)) (Tr.set (Tr.set (Tr.set (Tr.set Tr.nil 6 (some u6)) 5 (some u5)) 1 (some u1)) 0 (some u0)) H n []
noncomputable def R90_2(m1:Nat):V4:=fun u0 u1 u5 u6 H n=>aZ P cal m1 (Lv.a (Lv.b (Lv.a (Lv.b (Lv.b (Lv.b (A 90))))))) none 90 (cL (cR (cL (cR (cR (cR qY)))))) (yW cal k) (kY cal k) (ay P eK) (Tr.set (Tr.set (Tr.set (Tr.set Tr.nil 6 (some u6)) 5 (some u5)) 1 (some u1)) 0 (some u0)) H n []
noncomputable def T90_1:=fun(u0 u1:Value) (H:Hp) (n:Nat)=>labK (bZ P cal (aZ P cal k) none 90 (cR (cR qY)) (Lv.b (Lv.b (A 90))) (ay P eK) X0 (ay P eK)) (Tr.set (Tr.set Tr.nil 1 (some u1)) 0 (some u0)) H n []
noncomputable def B90_3(cal:Cal)(k m1:Nat)(b2:V4)(u0 u1 u5 u6:Value)(H:Hp)(n:Nat):Res:=
binK P BinOp.add 3 (Operand.tmp 18) (Operand.const (Value.int IntKind.i64 1)) u6 (Value.int IntKind.i64 1) fun v_d=>
b2 u0 u1 u5 v_d H n
noncomputable def C90_3(m1:Nat):=B90_3 cal k m1
theorem h90_3(m1:Nat):T90_3 cal k m1=C90_3 cal k m1 (R90_2 cal k m1):=by kernel_rfl
noncomputable def B90_2(cal:Cal)(k m1:Nat)(j3:V4)(b2:V4)(u0 u1 u5 u6:Value)(H:Hp)(n:Nat):Res:=
bindO (lenV P 27 u0) fun v_a=>
binK P BinOp.lss 3 (Operand.tmp 14) (Operand.tmp 16) u6 v_a fun v_b=>
ifK v_b (
bindO (aQ P 27 u0 u6) fun v_i=>
bindO (aY v_i) fun a_k=>bindO (aJ P H 3 a_k) fun v_j=>
iW P cal u1 [v_j,u5] H n fun v_m H_n n_o=>
binK P BinOp.gtr 3 (Operand.tmp 26) (Operand.const (Value.int IntKind.i64 0)) v_m (Value.int IntKind.i64 0) fun v_p=>
ifK v_p (
bindO (aQ P 27 u0 u6) fun v_s=>
bindO (aY v_s) fun a_u=>bindO (aJ P H_n 3 a_u) fun v_t=>
j3 u0 u1 v_t u6 H_n n_o) (
j3 u0 u1 u5 u6 H_n n_o)) (
some (u5,H,n))
noncomputable def Yw(m1:Nat)(b2:V4):=B90_2 cal k m1 (C90_3 cal k m1 b2) b2
noncomputable def Yx:Nat→V4:=recF (Yw cal k) (fun _ _ _ _ _ _=>none)
theorem h90_2(m1:Nat):T90_2 cal k m1=Yw cal k m1 (R90_2 cal k m1):=Eq.trans (b:=B90_2 cal k m1 (T90_3 cal k m1) (R90_2 cal k m1)) (by kernel_rfl) (by rw[h90_3]; rfl)
theorem q90_2(m:Nat):T90_2 cal k m=Yx cal k m:=recS (h90_2 cal k) (by kernel_rfl) (fun m=>by kernel_rfl) m
noncomputable def B90_1(cal:Cal)(k:Nat)(j2:V4)(u0 u1:Value)(H:Hp)(n:Nat):Res:=
bindO (aQ P 27 u0 (Value.int IntKind.i64 0)) fun v_3=>
bindO (aY v_3) fun a_5=>bindO (aJ P H 3 a_5) fun v_4=>
j2 u0 u1 v_4 (Value.int IntKind.i64 1) H n
noncomputable def C90_1:=B90_1 cal k (Yx cal k k)
theorem h90_1:T90_1 cal k=C90_1 cal k:=Eq.trans (b:=B90_1 cal k (T90_2 cal k k)) (by kernel_rfl) (by rw[q90_2]; rfl)
noncomputable def B90_0(cal:Cal)(k:Nat)(j1:V2)(v0 v1:Value)(H:Hp)(n:Nat):Res:=
bindO (lenV P 27 v0) fun v_z=>
binK P BinOp.lss 3 (Operand.tmp 8) (Operand.const (Value.int IntKind.i64 1)) v_z (Value.int IntKind.i64 1) fun v_10=>
ifK v_10 (
none) (
j1 v0 v1 H n)
noncomputable def C90_0:=B90_0 cal k (C90_1 cal k)
theorem h90_0(v0 v1:Value)(H:Hp)(n:Nat):aX P cal A (k+1) 90 [v0,v1] H n=C90_0 cal k v0 v1 H n:=(bq Go.Proofs.Tryz.f90 qY eK (by kernel_rfl)).trans (Eq.trans (b:=B90_0 cal k (T90_1 cal k) v0 v1 H n) (by kernel_rfl) (by rw[h90_1]; rfl))
noncomputable def code91:Code:=ak 91
noncomputable def Sq:List ResultVar:=bw 91
noncomputable def B91_0(cal:Cal)(k:Nat)(v0 v1 v2 v3:Value)(H:Hp)(n:Nat):Res:=
bindO (aY v2) fun a_2=>bindO (aJ P H 147 a_2) fun v_3=>
bindO (aY v3) fun a_4=>bindO (aJ P H 3 a_4) fun v_5=>
bindO (nV P 152 [(0,v_5),(1,v0)]) fun v_7=>
bindO (gj P H 147 v_3 v_7 false) fun v_8=>
bindO (aY v2) fun a_9=>bindO (aJ P H 147 a_9) fun v_a=>
bindO (aY v3) fun a_b=>bindO (aJ P H 3 a_b) fun v_c=>
bindO (nV P 152 [(0,v_c),(1,v1)]) fun v_e=>
bindO (gj P H 147 v_a v_e false) fun v_f=>
aK P cal 92 [v_8,v_f] H n fun v_g H_h n_i=>
some (v_g,H_h,n_i)
noncomputable def C91_0:=B91_0 cal k
theorem h91_0(v0 v1 v2 v3:Value)(H:Hp)(n:Nat):aX P cal A (k+1) 91 [v0,v1,v2,v3] H n=C91_0 cal k v0 v1 v2 v3 H n:=(bq Go.Proofs.Tryz.f91 code91 Sq (by kernel_rfl)).trans (by kernel_rfl)
noncomputable def code92:Code:=ak 92
noncomputable def Sv:List ResultVar:=bw 92
noncomputable def B92_0(cal:Cal)(k:Nat)(v0 v1:Value)(H:Hp)(n:Nat):Res:=
aK P cal 107 [v0] H n fun v_3 H_4 n_5=>
aK P cal 107 [v1] H_4 n_5 fun v_8 H_9 n_a=>
ifK v_3 (
ifK v_8 (
some ((Value.int IntKind.i64 0),H_9,n_a)) (
some ((Value.int IntKind.i64 (-1)),H_9,n_a))) (
ifK v_8 (
some ((Value.int IntKind.i64 1),H_9,n_a)) (
binK P BinOp.lss 3 (Operand.tmp 14) (Operand.tmp 15) v0 v1 fun v_k=>
ifK v_k (
some ((Value.int IntKind.i64 (-1)),H_9,n_a)) (
binK P BinOp.gtr 3 (Operand.tmp 17) (Operand.tmp 18) v0 v1 fun v_o=>
ifK v_o (
some ((Value.int IntKind.i64 1),H_9,n_a)) (
some ((Value.int IntKind.i64 0),H_9,n_a)))))
noncomputable def C92_0:=B92_0 cal k
theorem h92_0(v0 v1:Value)(H:Hp)(n:Nat):aX P cal A (k+1) 92 [v0,v1] H n=C92_0 cal k v0 v1 H n:=(bq Go.Proofs.Tryz.f92 code92 Sv (by kernel_rfl)).trans (by kernel_rfl)
noncomputable def code93:Code:=ak 93
noncomputable def Sw:List ResultVar:=bw 93
noncomputable def B93_0(cal:Cal)(k:Nat)(v0 v1:Value)(H:Hp)(n:Nat):Res:=
boxK 41 v0 H n fun v_1 H_2 n_3=>
binK P BinOp.geq 3 (Operand.tmp 5) (Operand.const (Value.int IntKind.i64 0)) v1 (Value.int IntKind.i64 0) fun v_6=>
bx v_6 true (fun k_8=>
k_8 v1 H_2 n_3) H_2 n_3 fun v_9 H_a n_b=>
bx v_6 true (fun k_d=>
bindO (ax P 41 v_1 0) fun v_h=>
k_d v_h H_a n_b) H_a n_b fun v_e H_f n_g=>
bx v_6 true (fun k_i=>
bindO (ax P 39 v_e 0) fun v_m=>
k_i v_m H_f n_g) H_f n_g fun v_j H_k n_l=>
bx v_6 true (fun k_n=>
bindO (aY v_j) fun a_s=>bindO (aJ P H_k 35 a_s) fun v_r=>
k_n v_r H_k n_l) H_k n_l fun v_o H_p n_q=>
bx v_6 true (fun k_t=>
bindO (lenV P 35 v_o) fun v_x=>
k_t v_x H_p n_q) H_p n_q fun v_u H_v n_w=>
bx v_6 true (fun k_y=>
binK P BinOp.lss 3 (Operand.tmp 8) (Operand.tmp 12) v_9 v_u fun v_12=>
k_y v_12 H_v n_w) H_v n_w fun v_z H_10 n_11=>
bindO (fX v_6 v_z (Value.bool false)) fun v_13=>
some (v_13,H_10,n_11)
noncomputable def C93_0:=B93_0 cal k
theorem h93_0(v0 v1:Value)(H:Hp)(n:Nat):aX P cal A (k+1) 93 [v0,v1] H n=C93_0 cal k v0 v1 H n:=(bq Go.Proofs.Tryz.f93 code93 Sw (by kernel_rfl)).trans (by kernel_rfl)
noncomputable def code94:Code:=ak 94
noncomputable def Sx:List ResultVar:=bw 94
noncomputable def B94_0(cal:Cal)(k:Nat)(v0 v1:Value)(H:Hp)(n:Nat):Res:=
rowK P 27 1 [(0,v1)] H n fun v_4 H_5 n_6=>
aK P cal 83 [v_4] H_5 n_6 fun v_7 H_8 n_9=>
aK P cal 95 [v0,v_7] H_8 n_9 fun v_a H_b n_c=>
some (v_a,H_b,n_c)
noncomputable def C94_0:=B94_0 cal k
theorem h94_0(v0 v1:Value)(H:Hp)(n:Nat):aX P cal A (k+1) 94 [v0,v1] H n=C94_0 cal k v0 v1 H n:=(bq Go.Proofs.Tryz.f94 code94 Sx (by kernel_rfl)).trans (by kernel_rfl)
noncomputable def code95:Code:=ak 95
noncomputable def Sy:List ResultVar:=bw 95
noncomputable def B95_0(cal:Cal)(k:Nat)(v0 v1:Value)(H:Hp)(n:Nat):Res:=
binK P BinOp.and 106 (Operand.tmp 5) (Operand.tmp 6) v0 v1 fun v_4=>
binK P BinOp.neq 106 (Operand.tmp 7) (Operand.const (Value.int IntKind.u64 0)) v_4 (Value.int IntKind.u64 0) fun v_5=>
some (v_5,H,n)
noncomputable def C95_0:=B95_0 cal k
theorem h95_0(v0 v1:Value)(H:Hp)(n:Nat):aX P cal A (k+1) 95 [v0,v1] H n=C95_0 cal k v0 v1 H n:=(bq Go.Proofs.Tryz.f95 code95 Sy (by kernel_rfl)).trans (by kernel_rfl)
noncomputable def Wv:Code:=ak 96
noncomputable def uJ:List ResultVar:=bw 96
noncomputable def K96_prr:KR:=(cutK (Lv.b (Lv.b (A 96))).c (bZ P cal (aZ P cal k) none 96 (cR (cR (cR Wv))) (Lv.b (Lv.b (Lv.b (A 96)))) (ay P uJ) X0 (ay P uJ)))
noncomputable def Ek:XR:=(upX 0 (K96_prr cal k) X0)
noncomputable def K96_prrlrl(m1:Nat):KR:=(fun T H n D=>aZ P cal m1 (Lv.a (Lv.b (Lv.a (Lv.b (Lv.b (A 96)))))) none 96 (cL (cR (cL (cR (cR Wv))))) (K96_prr cal k) (Ek cal k) (ay P uJ) (cutT (Lv.a (Lv.b (Lv.a (Lv.b (Lv.b (A 96)))))).c T) H n D)
noncomputable def T96_2(m1:Nat):=fun(u1 u5 u13 u14:Value) (H:Hp) (n:Nat)=>labK (bZ P cal (aZ P cal m1) none 96 (cR (cR (cR (cL (cL (cR (cL (cR (cR Wv))))))))) (Lv.b (Lv.b (Lv.b (Lv.a (Lv.a (Lv.b (Lv.a (Lv.b (Lv.b (A 96)))))))))) (K96_prrlrl cal k m1) (Ek cal k) (ay P uJ)) (Tr.set (Tr.set (Tr.set (Tr.set Tr.nil 14 (some u14)) 13 (some u13)) 5 (some u5)) 1 (some u1)) H n []
noncomputable def T96_1(m1:Nat):=fun(u1 u5 u13 u14:Value) (H:Hp) (n:Nat)=>labK (bZ P cal (aZ P cal m1) none 96 (cL (cL (cR (cL (cR (cR Wv)))))) (Lv.a (Lv.a (Lv.b (Lv.a (Lv.b (Lv.b (A 96))))))) (K96_prrlrl cal k m1) (Ek cal k) (ay P uJ)) (Tr.set (Tr.set (Tr.set (Tr.set Tr.nil 14 (some u14)) 13 (some u13)) 5 (some u5)) 1 (some u1)) H n []
noncomputable def R96_1(m1:Nat):V4:=fun u1 u5 u13 u14 H n=>aZ P cal m1 (Lv.a (Lv.b (Lv.a (Lv.b (Lv.b (A 96)))))) none 96 (cL (cR (cL (cR (cR Wv))))) (K96_prr cal k) (Ek cal k) (ay P uJ) (Tr.set (Tr.set (Tr.set (Tr.set Tr.nil 14 (some u14)) 13 (some u13)) 5 (some u5)) 1 (some u1)) H n []
noncomputable def B96_2(cal:Cal)(k m1:Nat)(b1:V4)(u1 u5 u13 u14:Value)(H:Hp)(n:Nat):Res:=
binK P BinOp.add 106 (Operand.tmp 14) (Operand.const (Value.int IntKind.u64 1)) u14 (Value.int IntKind.u64 1) fun v_d=>
b1 u1 u5 u13 v_d H n
noncomputable def C96_2(m1:Nat):=B96_2 cal k m1
theorem h96_2(m1:Nat):T96_2 cal k m1=C96_2 cal k m1 (R96_1 cal k m1):=by kernel_rfl
noncomputable def B96_1(cal:Cal)(k m1:Nat)(j2:V4)(b1:V4)(u1 u5 u13 u14:Value)(H:Hp)(n:Nat):Res:=
binK P BinOp.lss 106 (Operand.tmp 14) (Operand.tmp 13) u14 u13 fun v_c=>
ifK v_c (
aK P cal 99 [u14] H n fun v_i H_j n_k=>
binK P BinOp.leq 3 (Operand.tmp 18) (Operand.tmp 19) v_i u1 fun v_m=>
ifK v_m (
rowK P 98 1 [(0,u14)] H_j n_k fun v_p H_q n_r=>
stK (eJ P (bare H_q n_r) 98 98 u5 v_p) fun v_s H_t n_u=>
j2 u1 v_s u13 u14 H_t n_u) (
j2 u1 u5 u13 u14 H_j n_k)) (
aK P cal 109 [] H n fun v_x H_y n_z=>
aK P cal 108 [u5,(Value.func (Fn.func 110) ⟨[v_x]⟩ ⟨[]⟩)] H_y n_z fun v_11 H_12 n_13=>
some (u5,H_12,n_13))
noncomputable def C96_1(m1:Nat)(b1:V4):=B96_1 cal k m1 (C96_2 cal k m1 b1) b1
noncomputable def S96_1:Nat→V4:=recF (C96_1 cal k) (fun _ _ _ _ _ _=>none)
theorem h96_1(m1:Nat):T96_1 cal k m1=C96_1 cal k m1 (R96_1 cal k m1):=Eq.trans (b:=B96_1 cal k m1 (T96_2 cal k m1) (R96_1 cal k m1)) (by kernel_rfl) (by rw[h96_2]; rfl)
theorem q96_1(m:Nat):T96_1 cal k m=S96_1 cal k m:=recS (h96_1 cal k) (by kernel_rfl) (fun m=>by kernel_rfl) m
noncomputable def B96_0(cal:Cal)(k:Nat)(j1:V4)(v0 v1:Value)(H:Hp)(n:Nat):Res:=
bindO (nilV v0) fun v_4=>
bindO (ax P 109 v_4 0) fun v_5=>
bindO (ax P 41 v_5 2) fun v_6=>
bindO (aY v_6) fun a_8=>bindO (aJ P H 27 a_8) fun v_7=>
bindO (lenV P 27 v_7) fun v_9=>
binK P BinOp.shl 106 (Operand.const (Value.int IntKind.u64 1)) (Operand.tmp 12) (Value.int IntKind.u64 1) v_9 fun v_a=>
j1 v1 (Value.slice none 0 0) v_a (Value.int IntKind.u64 0) H n
noncomputable def C96_0:=B96_0 cal k (S96_1 cal k k)
theorem h96_0(v0 v1:Value)(H:Hp)(n:Nat):aX P cal A (k+1) 96 [v0,v1] H n=C96_0 cal k v0 v1 H n:=(bq Go.Proofs.Tryz.f96 Wv uJ (by kernel_rfl)).trans (Eq.trans (b:=B96_0 cal k (T96_1 cal k k) v0 v1 H n) (by kernel_rfl) (by rw[q96_1]; rfl))
noncomputable def Oz:Code:=ak 97
noncomputable def kQ:List ResultVar:=bw 97
noncomputable def K97_p:KR:=(cutK (A 97).c (bZ P cal (aZ P cal k) none 97 (cR Oz) (Lv.b (A 97)) (ay P kQ) X0 (ay P kQ)))
noncomputable def OJ(cal:Cal)(k:Nat):XR:=(upX 0 (ay P kQ) X0)
noncomputable def K97_prrrrl(m1:Nat):KR:=(fun T H n D=>aZ P cal m1 (Lv.a (Lv.b (Lv.b (Lv.b (Lv.b (A 97)))))) none 97 (cL (cR (cR (cR (cR Oz))))) (ay P kQ) (OJ cal k) (ay P kQ) (cutT (Lv.a (Lv.b (Lv.b (Lv.b (Lv.b (A 97)))))).c T) H n D)
noncomputable def T97_1:=fun(H:Hp) (n:Nat)=>labK (bZ P cal (aZ P cal k) none 97 (cR (cL (cR (cL Oz)))) (Lv.b (Lv.a (Lv.b (Lv.a (A 97))))) (K97_p cal k) X0 (ay P kQ)) Tr.nil H n []
noncomputable def T97_3(m1:Nat):=fun(u0 u6 u35 u36 u37:Value) (H:Hp) (n:Nat)=>labK (bZ P cal (aZ P cal m1) none 97 (cL (cL (cR (cR (cR (cR Oz)))))) (Lv.a (Lv.a (Lv.b (Lv.b (Lv.b (Lv.b (A 97))))))) (K97_prrrrl cal k m1) (OJ cal k) (ay P kQ)) (Tr.set (Tr.set (Tr.set (Tr.set (Tr.set Tr.nil 37 (some u37)) 36 (some u36)) 35 (some u35)) 6 (some u6)) 0 (some u0)) H n []
noncomputable def R97_3(m1:Nat):V5:=fun u0 u6 u35 u36 u37 H n=>aZ P cal m1 (Lv.a (Lv.b (Lv.b (Lv.b (Lv.b (A 97)))))) none 97 (cL (cR (cR (cR (cR Oz))))) (ay P kQ) (OJ cal k) (ay P kQ) (Tr.set (Tr.set (Tr.set (Tr.set (Tr.set Tr.nil 37 (some u37)) 36 (some u36)) 35 (some u35)) 6 (some u6)) 0 (some u0)) H n []
noncomputable def T97_2:=fun(u0 u6 u9:Value) (H:Hp) (n:Nat)=>labK (bZ P cal (aZ P cal k) none 97 (cR (cR (cR Oz))) (Lv.b (Lv.b (Lv.b (A 97)))) (ay P kQ) X0 (ay P kQ)) (Tr.set (Tr.set (Tr.set Tr.nil 9 (some u9)) 6 (some u6)) 0 (some u0)) H n []
noncomputable def B97_1(cal:Cal)(k:Nat)(H:Hp)(n:Nat):Res:=
some ((Value.tuple ⟨[]⟩),H,n)
noncomputable def C97_1:=B97_1 cal k 
theorem h97_1:T97_1 cal k=C97_1 cal k  := by kernel_rfl
noncomputable def B97_3(cal:Cal)(k m1:Nat)(b3:V5)(u0 u6 u35 u36 u37:Value)(H:Hp)(n:Nat):Res:=
binK P BinOp.lss 3 (Operand.tmp 37) (Operand.tmp 36) u37 u36 fun v_17=>
ifK v_17 (
bindO (aQ P 98 u35 u37) fun v_18=>
bindO (aY v_18) fun a_1a=>bindO (aJ P H 106 a_1a) fun v_19=>
bindO (aY u6) fun a_1c=>bindO (aJ P H 155 a_1c) fun v_1d=>
bindO (zK P 98 1 [(0,v_19)]) fun q_1i=>newK q_1i.1 q_1i.2 H n fun H_1g n_1h=>
effK P [(.l 155 a_1c)] H_1g n_1h (fun H_1j n_1k k_1l=>
stK (eJ P (bare H_1j n_1k) 98 98 u0 (.slice (some ⟨n,0,none⟩) 1 1)) fun v_1p H_1q n_1r=>
k_1l v_1p H_1q n_1r) fun v_1m H_1n n_1o=>
iW P cal v_1d [v_1m] H_1n n_1o fun v_1s H_1t n_1u=>
binK P BinOp.add 3 (Operand.tmp 37) (Operand.const (Value.int IntKind.i64 1)) u37 (Value.int IntKind.i64 1) fun v_1v=>
b3 u0 u6 u35 u36 v_1v H_1t n_1u) (
some ((Value.tuple ⟨[]⟩),H,n))
noncomputable def C97_3(m1:Nat):=B97_3 cal k m1
noncomputable def S97_3:Nat→V5:=recF (C97_3 cal k) (fun _ _ _ _ _ _ _=>none)
theorem h97_3(m1:Nat):T97_3 cal k m1=C97_3 cal k m1 (R97_3 cal k m1):=by kernel_rfl
theorem q97_3(m:Nat):T97_3 cal k m=S97_3 cal k m:=recS (h97_3 cal k) (by kernel_rfl) (fun m=>by kernel_rfl) m
noncomputable def B97_2(cal:Cal)(k:Nat)(j3:V5)(u0 u6 u9:Value)(H:Hp)(n:Nat):Res:=
bindO (lenV P 98 u9) fun v_15=>
j3 u0 u6 u9 v_15 (Value.int IntKind.i64 0) H n
noncomputable def C97_2:=B97_2 cal k (S97_3 cal k k)
theorem h97_2:T97_2 cal k=C97_2 cal k:=Eq.trans (b:=B97_2 cal k (T97_3 cal k k)) (by kernel_rfl) (by rw[q97_3]; rfl)
noncomputable def B97_0(cal:Cal)(k:Nat)(j1:V0)(j2:V3)(v0 v1 v2 v3 v4 v5 v6:Value)(H:Hp)(n:Nat):Res:=
bindO (lenV P 98 v0) fun v_2=>
bindO (aY v1) fun a_4=>bindO (aJ P H 3 a_4) fun v_3=>
binK P BinOp.eql 3 (Operand.tmp 13) (Operand.tmp 14) v_2 v_3 fun v_5=>
ifK v_5 (
bindO (aY v2) fun a_6=>bindO (aJ P H 97 a_6) fun v_7=>
bindO (aY v2) fun a_8=>bindO (aJ P H 97 a_8) fun v_9=>
effK P [(.l 97 a_6)] H n (fun H_b n_c k_d=>
aK P cal 63 [v_9,v0] H_b n_c fun v_h H_i n_j=>
k_d v_h H_i n_j) fun v_e H_f n_g=>
aK P cal 64 [v_7,v_e] H_f n_g fun v_k H_l n_m=>
bindO (aY v3) fun a_q=>bindO (aJ P H_l 3 a_q) fun v_p=>
binK P BinOp.lss 3 (Operand.tmp 21) (Operand.tmp 22) v_k v_p fun v_r=>
ifK v_r (
aK P cal 98 [v0] H_l n_m fun v_t H_u n_v=>
bindO (dQ P 98 v4 v_t H_u) fun H_y=>
bindO (dQ P 3 v3 v_k H_y) fun H_10=>
j1  H_10 n_v) (
j1  H_l n_m)) (
bindO (aY v5) fun a_12=>bindO (aJ P H 98 a_12) fun v_11=>
bindO (lenV P 98 v0) fun v_1y=>
bindO (aY v1) fun a_20=>bindO (aJ P H 3 a_20) fun v_1z=>
binK P BinOp.sub 3 (Operand.tmp 30) (Operand.const (Value.int IntKind.i64 1)) v_1z (Value.int IntKind.i64 1) fun v_21=>
binK P BinOp.eql 3 (Operand.tmp 29) (Operand.tmp 31) v_1y v_21 fun v_22=>
ifK v_22 (
bindO (aY v5) fun a_24=>bindO (aJ P H 98 a_24) fun v_23=>
bindO (lV P 98 v_23 none (some (Value.int IntKind.i64 1))) fun v_25=>
j2 v0 v6 v_25 H n) (
j2 v0 v6 v_11 H n))
noncomputable def C97_0:=B97_0 cal k (C97_1 cal k) (C97_2 cal k)
theorem h97_0(v0 v1 v2 v3 v4 v5 v6:Value)(H:Hp)(n:Nat):aX P cal A (k+1) 97 [v0,v1,v2,v3,v4,v5,v6] H n=C97_0 cal k v0 v1 v2 v3 v4 v5 v6 H n:=(bq Go.Proofs.Tryz.f97 Oz kQ (by kernel_rfl)).trans (Eq.trans (b:=B97_0 cal k (fun  H n=>T97_1 cal k H n) (T97_2 cal k) v0 v1 v2 v3 v4 v5 v6 H n) (by kernel_rfl) (by rw[h97_1,h97_2]; rfl))
noncomputable def code98:Code:=ak 98
noncomputable def results98:List ResultVar:=bw 98
noncomputable def B98_0(cal:Cal)(k:Nat)(v0:Value)(H:Hp)(n:Nat):Res:=
binK P BinOp.eql 98 (Operand.tmp 3) (Operand.const (Value.slice none 0 0)) v0 (Value.slice none 0 0) fun v_3=>
ifK v_3 (
some ((Value.slice none 0 0),H,n)) (
rowK P 98 0 [] H n fun v_5 H_6 n_7=>
stK (eJ P (bare H_6 n_7) 98 98 v_5 v0) fun v_9 H_a n_b=>
some (v_9,H_a,n_b))
noncomputable def C98_0:=B98_0 cal k
theorem h98_0(v0:Value)(H:Hp)(n:Nat):aX P cal A (k+1) 98 [v0] H n=C98_0 cal k v0 H n:=(bq Go.Proofs.Tryz.f98 code98 results98 (by kernel_rfl)).trans (by kernel_rfl)
noncomputable def code99:Code:=ak 99
noncomputable def Sz:List ResultVar:=bw 99
noncomputable def B99_0(cal:Cal)(k:Nat)(v0:Value)(H:Hp)(n:Nat):Res:=
aK P cal 111 [v0] H n fun v_3 H_4 n_5=>
some (v_3,H_4,n_5)
noncomputable def C99_0:=B99_0 cal k
theorem h99_0(v0:Value)(H:Hp)(n:Nat):aX P cal A (k+1) 99 [v0] H n=C99_0 cal k v0 H n:=(bq Go.Proofs.Tryz.f99 code99 Sz (by kernel_rfl)).trans (by kernel_rfl)
noncomputable def sW:Code:=ak 100
noncomputable def hQ:List ResultVar:=bw 100
noncomputable def Dy:KR:=(cutK (Lv.b (A 100)).c (bZ P cal (aZ P cal k) none 100 (cR (cR sW)) (Lv.b (Lv.b (A 100))) (ay P hQ) X0 (ay P hQ)))
noncomputable def qZ:XR:=(upX 0 (Dy cal k) X0)
noncomputable def LZ(m1:Nat):KR:=(fun T H n D=>aZ P cal m1 (Lv.a (Lv.b (Lv.a (Lv.b (A 100))))) none 100 (cL (cR (cL (cR sW)))) (Dy cal k) (qZ cal k) (ay P hQ) (cutT (Lv.a (Lv.b (Lv.a (Lv.b (A 100))))).c T) H n D)
noncomputable def Mj(m1:Nat):=fun(u0 u7 u8 u9:Value) (H:Hp) (n:Nat)=>labK (bZ P cal (aZ P cal m1) none 100 (cL (cL (cR (cL (cR sW))))) (Lv.a (Lv.a (Lv.b (Lv.a (Lv.b (A 100)))))) (LZ cal k m1) (qZ cal k) (ay P hQ)) (Tr.set (Tr.set (Tr.set (Tr.set Tr.nil 9 (some u9)) 8 (some u8)) 7 (some u7)) 0 (some u0)) H n []
noncomputable def R100_1(m1:Nat):V4:=fun u0 u7 u8 u9 H n=>aZ P cal m1 (Lv.a (Lv.b (Lv.a (Lv.b (A 100))))) none 100 (cL (cR (cL (cR sW)))) (Dy cal k) (qZ cal k) (ay P hQ) (Tr.set (Tr.set (Tr.set (Tr.set Tr.nil 9 (some u9)) 8 (some u8)) 7 (some u7)) 0 (some u0)) H n []
noncomputable def B100_1(cal:Cal)(k m1:Nat)(b1:V4)(u0 u7 u8 u9:Value)(H:Hp)(n:Nat):Res:=
binK P BinOp.lss 3 (Operand.tmp 9) (Operand.tmp 8) u9 u8 fun v_5=>
ifK v_5 (
bindO (aQ P 27 u7 u9) fun v_6=>
bindO (aY v_6) fun a_8=>bindO (aJ P H 3 a_8) fun v_7=>
ik P .max [3,3] (Call.mk (Callee.builtin Builtin.max) #[(Operand.tmp 13),(Operand.tmp 14)] #[3,3]) 3 [u0,v_7] H n fun v_c H_d n_e=>
binK P BinOp.add 3 (Operand.tmp 9) (Operand.const (Value.int IntKind.i64 1)) u9 (Value.int IntKind.i64 1) fun v_g=>
b1 v_c u7 u8 v_g H_d n_e) (
some (u0,H,n))
noncomputable def Gj(m1:Nat):=B100_1 cal k m1
noncomputable def Gq:Nat→V4:=recF (Gj cal k) (fun _ _ _ _ _ _=>none)
theorem h100_1(m1:Nat):Mj cal k m1=Gj cal k m1 (R100_1 cal k m1):=by kernel_rfl
theorem q100_1(m:Nat):Mj cal k m=Gq cal k m:=recS (h100_1 cal k) (by kernel_rfl) (fun m=>by kernel_rfl) m
noncomputable def Sk(cal:Cal)(k:Nat)(j1:V4)(v0 v1:Value)(H:Hp)(n:Nat):Res:=
bindO (lenV P 27 v1) fun v_3=>
j1 v0 v1 v_3 (Value.int IntKind.i64 0) H n
noncomputable def SJ:=Sk cal k (Gq cal k k)
theorem h100_0(v0 v1:Value)(H:Hp)(n:Nat):aX P cal A (k+1) 100 [v0,v1] H n=SJ cal k v0 v1 H n:=(bq Go.Proofs.Tryz.f100 sW hQ (by kernel_rfl)).trans (Eq.trans (b:=Sk cal k (Mj cal k k) v0 v1 H n) (by kernel_rfl) (by rw[q100_1]; rfl))
noncomputable def QW:Code:=ak 101
noncomputable def uQ:List ResultVar:=bw 101
noncomputable def qoj:KR:=(cutK (Lv.b (Lv.b (A 101))).c (bZ P cal (aZ P cal k) none 101 (cR (cR (cR QW))) (Lv.b (Lv.b (Lv.b (A 101)))) (ay P uQ) X0 (ay P uQ)))
noncomputable def OQ:XR:=(upX 0 (qoj cal k) X0)
noncomputable def K101_prrll(m1:Nat):KR:=(fun T H n D=>aZ P cal m1 (Lv.a (Lv.a (Lv.b (Lv.b (A 101))))) none 101 (cL (cL (cR (cR QW)))) (qoj cal k) (OQ cal k) (ay P uQ) (cutT (Lv.a (Lv.a (Lv.b (Lv.b (A 101))))).c T) H n D)
noncomputable def T101_1(m1:Nat):=fun(u0 u3:Value) (H:Hp) (n:Nat)=>labK (bZ P cal (aZ P cal m1) none 101 (cL (cL (cL (cR (cR QW))))) (Lv.a (Lv.a (Lv.a (Lv.b (Lv.b (A 101)))))) (K101_prrll cal k m1) (OQ cal k) (ay P uQ)) (Tr.set (Tr.set Tr.nil 3 (some u3)) 0 (some u0)) H n []
noncomputable def R101_1(m1:Nat):V2:=fun u0 u3 H n=>aZ P cal m1 (Lv.a (Lv.a (Lv.b (Lv.b (A 101))))) none 101 (cL (cL (cR (cR QW)))) (qoj cal k) (OQ cal k) (ay P uQ) (Tr.set (Tr.set Tr.nil 3 (some u3)) 0 (some u0)) H n []
noncomputable def B101_1(cal:Cal)(k m1:Nat)(b1:V2)(u0 u3:Value)(H:Hp)(n:Nat):Res:=
bindO (nilV u0) fun v_4=>
bindO (ax P 159 v_4 0) fun v_5=>
bindO (aY v_5) fun a_7=>bindO (aJ P H 157 a_7) fun v_6=>
binK P BinOp.neq 157 (Operand.tmp 7) (Operand.const (Value.pointer none)) v_6 (Value.pointer none) fun v_8=>
ifK v_8 (
bindO (nilV u0) fun v_b=>
bindO (ax P 159 v_b 1) fun v_c=>
bindO (aY v_c) fun a_e=>bindO (aJ P H 106 a_e) fun v_d=>
rowK P 98 1 [(0,v_d)] H n fun v_f H_g n_h=>
stK (eJ P (bare H_g n_h) 98 98 u3 v_f) fun v_i H_j n_k=>
bindO (nilV u0) fun v_n=>
bindO (ax P 159 v_n 0) fun v_o=>
bindO (aY v_o) fun a_q=>bindO (aJ P H_j 157 a_q) fun v_p=>
b1 v_p v_i H_j n_k) (
aK P cal 112 [u3] H n fun v_t H_u n_v=>
some (u3,H_u,n_v))
noncomputable def C101_1(m1:Nat):=B101_1 cal k m1
noncomputable def S101_1:Nat→V2:=recF (C101_1 cal k) (fun _ _ _ _=>none)
theorem h101_1(m1:Nat):T101_1 cal k m1=C101_1 cal k m1 (R101_1 cal k m1):=by kernel_rfl
theorem q101_1(m:Nat):T101_1 cal k m=S101_1 cal k m:=recS (h101_1 cal k) (by kernel_rfl) (fun m=>by kernel_rfl) m
noncomputable def B101_0(cal:Cal)(k:Nat)(j1:V2)(v0:Value)(H:Hp)(n:Nat):Res:=
j1 v0 (Value.slice none 0 0) H n
noncomputable def C101_0:=B101_0 cal k (S101_1 cal k k)
theorem h101_0(v0:Value)(H:Hp)(n:Nat):aX P cal A (k+1) 101 [v0] H n=C101_0 cal k v0 H n:=(bq Go.Proofs.Tryz.f101 QW uQ (by kernel_rfl)).trans (Eq.trans (b:=B101_0 cal k (T101_1 cal k k) v0 H n) (by kernel_rfl) (by rw[q101_1]; rfl))
noncomputable def sX:Code:=ak 102
noncomputable def hY:List ResultVar:=bw 102
noncomputable def wJ:KR:=(cutK (Lv.b (A 102)).c (bZ P cal (aZ P cal k) none 102 (cR (cR sX)) (Lv.b (Lv.b (A 102))) (ay P hY) X0 (ay P hY)))
noncomputable def uy:XR:=(upX 0 (wJ cal k) X0)
noncomputable def T102_3:=fun(u25:Value) (H:Hp) (n:Nat)=>labK (bZ P cal (aZ P cal k) none 102 (cR (cR (cR (cR (cR (cL (cL (cR sX)))))))) (Lv.b (Lv.b (Lv.b (Lv.b (Lv.b (Lv.a (Lv.a (Lv.b (A 102))))))))) (wJ cal k) (uy cal k) (ay P hY)) (Tr.set Tr.nil 25 (some u25)) H n []
noncomputable def T102_2:=fun(u1 u16:Value) (H:Hp) (n:Nat)=>labK (bZ P cal (aZ P cal k) none 102 (cR (cR (cR (cL (cL (cR sX)))))) (Lv.b (Lv.b (Lv.b (Lv.a (Lv.a (Lv.b (A 102))))))) (wJ cal k) (uy cal k) (ay P hY)) (Tr.set (Tr.set Tr.nil 16 (some u16)) 1 (some u1)) H n []
noncomputable def T102_1:=fun(u1 u3:Value) (H:Hp) (n:Nat)=>labK (bZ P cal (aZ P cal k) none 102 (cR (cL (cL (cR sX)))) (Lv.b (Lv.a (Lv.a (Lv.b (A 102))))) (wJ cal k) (uy cal k) (ay P hY)) (Tr.set (Tr.set Tr.nil 3 (some u3)) 1 (some u1)) H n []
noncomputable def B102_3(cal:Cal)(k:Nat)(u25:Value)(H:Hp)(n:Nat):Res:=
ifK u25 (
some ((Value.int IntKind.i64 1),H,n)) (
some ((Value.int IntKind.i64 0),H,n))
noncomputable def SQ:=B102_3 cal k
theorem h102_3:T102_3 cal k=SQ cal k:=by kernel_rfl
noncomputable def SV(cal:Cal)(k:Nat)(j3:V1)(u1 u16:Value)(H:Hp)(n:Nat):Res:=
ifK u16 (
some ((Value.int IntKind.i64 1),H,n)) (
bindO (ax P 39 u1 0) fun v_9=>
bindO (aY v_9) fun a_b=>bindO (aJ P H 35 a_b) fun v_a=>
aK P cal 113 [v_a,(Value.func (.func 114) #[] #[])] H n fun v_c H_d n_e=>
bindO (dX P v_c (Op.unary UnOp.not v_c)) fun v_f=>
ifK v_f (
j3 v_f H_d n_e) (
bindO (ax P 39 u1 1) fun v_h=>
bindO (aY v_h) fun a_j=>bindO (aJ P H_d 36 a_j) fun v_i=>
bindO (aY u1) fun a_l=>bindO (aJ P H_d 39 a_l) fun v_k=>
aK P cal 115 [v_i,(Value.func (Fn.func 116) ⟨[v_k]⟩ ⟨[]⟩)] H_d n_e fun v_n H_o n_p=>
bindO (dX P v_n (Op.unary UnOp.not v_n)) fun v_q=>
ifK v_q (
j3 v_q H_o n_p) (
bindO (ax P 39 u1 2) fun v_s=>
bindO (aY v_s) fun a_u=>bindO (aJ P H_o 37 a_u) fun v_t=>
aK P cal 117 [v_t,(Value.func (.func 118) #[] #[])] H_o n_p fun v_v H_w n_x=>
bindO (dX P v_v (Op.unary UnOp.not v_v)) fun v_y=>
j3 v_y H_w n_x)))
noncomputable def SW:=SV cal k (SQ cal k)
theorem h102_2:T102_2 cal k=SW cal k:=Eq.trans (b:=SV cal k (T102_3 cal k)) (by kernel_rfl) (by rw[h102_3]; rfl)
noncomputable def SX(cal:Cal)(k:Nat)(j2:V2)(u1 u3:Value)(H:Hp)(n:Nat):Res:=
ifK u3 (
some ((Value.int IntKind.i64 3),H,n)) (
bindO (ax P 39 u1 0) fun v_10=>
bindO (aY v_10) fun a_12=>bindO (aJ P H 35 a_12) fun v_11=>
bindO (lenV P 35 v_11) fun v_13=>
binK P BinOp.eql 3 (Operand.tmp 19) (Operand.const (Value.int IntKind.i64 0)) v_13 (Value.int IntKind.i64 0) fun v_14=>
ifK v_14 (
j2 u1 v_14 H n) (
bindO (ax P 39 u1 2) fun v_16=>
bindO (aY v_16) fun a_18=>bindO (aJ P H 37 a_18) fun v_17=>
bindO (lenV P 37 v_17) fun v_19=>
binK P BinOp.eql 3 (Operand.tmp 23) (Operand.const (Value.int IntKind.i64 0)) v_19 (Value.int IntKind.i64 0) fun v_1a=>
j2 u1 v_1a H n))
noncomputable def SY:=SX cal k (SW cal k)
theorem h102_1:T102_1 cal k=SY cal k:=Eq.trans (b:=SX cal k (T102_2 cal k)) (by kernel_rfl) (by rw[h102_2]; rfl)
noncomputable def SZ(cal:Cal)(k:Nat)(j1:V2)(v0:Value)(H:Hp)(n:Nat):Res:=
boxK 39 v0 H n fun v_1 H_2 n_3=>
bindO (ax P 39 v_1 0) fun v_1c=>
bindO (aY v_1c) fun a_1e=>bindO (aJ P H_2 35 a_1e) fun v_1d=>
bindO (lenV P 35 v_1d) fun v_1f=>
binK P BinOp.gtr 3 (Operand.tmp 6) (Operand.const (Value.int IntKind.i64 8)) v_1f (Value.int IntKind.i64 8) fun v_1g=>
ifK v_1g (
j1 v_1 v_1g H_2 n_3) (
bindO (ax P 39 v_1 1) fun v_1i=>
bindO (aY v_1i) fun a_1k=>bindO (aJ P H_2 36 a_1k) fun v_1j=>
bindO (lenV P 36 v_1j) fun v_1l=>
binK P BinOp.gtr 3 (Operand.tmp 10) (Operand.const (Value.int IntKind.i64 16)) v_1l (Value.int IntKind.i64 16) fun v_1m=>
ifK v_1m (
j1 v_1 v_1m H_2 n_3) (
bindO (ax P 39 v_1 2) fun v_1o=>
bindO (aY v_1o) fun a_1q=>bindO (aJ P H_2 37 a_1q) fun v_1p=>
bindO (lenV P 37 v_1p) fun v_1r=>
binK P BinOp.gtr 3 (Operand.tmp 14) (Operand.const (Value.int IntKind.i64 3)) v_1r (Value.int IntKind.i64 3) fun v_1s=>
j1 v_1 v_1s H_2 n_3))
noncomputable def SK:=SZ cal k (SY cal k)
theorem h102_0(v0:Value)(H:Hp)(n:Nat):aX P cal A (k+1) 102 [v0] H n=SK cal k v0 H n:=(bq Go.Proofs.Tryz.f102 sX hY (by kernel_rfl)).trans (Eq.trans (b:=SZ cal k (T102_1 cal k) v0 H n) (by kernel_rfl) (by rw[h102_1]; rfl))
noncomputable def sY:Code:=ak 103
noncomputable def ij:List ResultVar:=bw 103
noncomputable def Dz:KR:=(cutK (Lv.b (A 103)).c (bZ P cal (aZ P cal k) none 103 (cR (cR sY)) (Lv.b (Lv.b (A 103))) (ay P ij) X0 (ay P ij)))
noncomputable def qK:XR:=(upX 0 (Dz cal k) X0)
noncomputable def Mq(m1:Nat):KR:=(fun T H n D=>aZ P cal m1 (Lv.a (Lv.b (Lv.a (Lv.b (A 103))))) none 103 (cL (cR (cL (cR sY)))) (Dz cal k) (qK cal k) (ay P ij) (cutT (Lv.a (Lv.b (Lv.a (Lv.b (A 103))))).c T) H n D)
noncomputable def Mv(m1:Nat):=fun(u0 u3:Value) (H:Hp) (n:Nat)=>labK (bZ P cal (aZ P cal m1) none 103 (cL (cL (cR (cL (cR sY))))) (Lv.a (Lv.a (Lv.b (Lv.a (Lv.b (A 103)))))) (Mq cal k m1) (qK cal k) (ay P ij)) (Tr.set (Tr.set Tr.nil 3 (some u3)) 0 (some u0)) H n []
noncomputable def R103_1(m1:Nat):V2:=fun u0 u3 H n=>aZ P cal m1 (Lv.a (Lv.b (Lv.a (Lv.b (A 103))))) none 103 (cL (cR (cL (cR sY)))) (Dz cal k) (qK cal k) (ay P ij) (Tr.set (Tr.set Tr.nil 3 (some u3)) 0 (some u0)) H n []
noncomputable def B103_1(cal:Cal)(k m1:Nat)(b1:V2)(u0 u3:Value)(H:Hp)(n:Nat):Res:=
bindO (lenV P 27 u0) fun v_5=>
binK P BinOp.lss 3 (Operand.tmp 4) (Operand.tmp 6) u3 v_5 fun v_6=>
ifK v_6 (
bindO (aQ P 27 u0 u3) fun v_9=>
bindO (aY v_9) fun a_a=>bindO (aJ P H 3 a_a) fun v_b=>
binK P BinOp.sub 3 (Operand.tmp 15) (Operand.const (Value.int IntKind.i64 1)) u3 (Value.int IntKind.i64 1) fun v_e=>
bindO (aQ P 27 u0 v_e) fun v_f=>
bindO (aY v_f) fun a_g=>bindO (aJ P H 3 a_g) fun v_h=>
binK P BinOp.leq 3 (Operand.tmp 13) (Operand.tmp 18) v_b v_h fun v_i=>
ifK v_i (
some ((Value.bool false),H,n)) (
binK P BinOp.add 3 (Operand.tmp 8) (Operand.const (Value.int IntKind.i64 1)) u3 (Value.int IntKind.i64 1) fun v_l=>
b1 u0 v_l H n)) (
some ((Value.bool true),H,n))
noncomputable def Gv(m1:Nat):=B103_1 cal k m1
noncomputable def Gw:Nat→V2:=recF (Gv cal k) (fun _ _ _ _=>none)
theorem h103_1(m1:Nat):Mv cal k m1=Gv cal k m1 (R103_1 cal k m1):=by kernel_rfl
theorem q103_1(m:Nat):Mv cal k m=Gw cal k m:=recS (h103_1 cal k) (by kernel_rfl) (fun m=>by kernel_rfl) m
noncomputable def Tj(cal:Cal)(k:Nat)(j1:V2)(v0:Value)(H:Hp)(n:Nat):Res:=
j1 v0 (Value.int IntKind.i64 1) H n
noncomputable def Tq:=Tj cal k (Gw cal k k)
theorem h103_0(v0:Value)(H:Hp)(n:Nat):aX P cal A (k+1) 103 [v0] H n=Tq cal k v0 H n:=(bq Go.Proofs.Tryz.f103 sY ij (by kernel_rfl)).trans (Eq.trans (b:=Tj cal k (Mv cal k k) v0 H n) (by kernel_rfl) (by rw[q103_1]; rfl))
noncomputable def code104:Code:=ak 104
noncomputable def Mw:List ResultVar:=bw 104
noncomputable def B104_0(cal:Cal)(k:Nat)(v0 v1:Value)(H:Hp)(n:Nat):Res:=
boxK 97 v0 H n fun v_1 H_2 n_3=>
boxK 106 v1 H_2 n_3 fun v_4 H_5 n_6=>
some ((Value.func (Fn.func 119) ⟨[]⟩ ⟨[v_1,v_4]⟩),H_5,n_6)
noncomputable def Tv:=B104_0 cal k
theorem h104_0(v0 v1:Value)(H:Hp)(n:Nat):aX P cal A (k+1) 104 [v0,v1] H n=Tv cal k v0 v1 H n:=(bq Go.Proofs.Tryz.f104 code104 Mw (by kernel_rfl)).trans (by kernel_rfl)
noncomputable def code106:Code:=ak 106
noncomputable def Mx:List ResultVar:=bw 106
noncomputable def B106_0(cal:Cal)(k:Nat)(v0:Value)(H:Hp)(n:Nat):Res:=
boxK 98 v0 H n fun v_1 H_2 n_3=>
some ((Value.func (Fn.func 120) ⟨[]⟩ ⟨[v_1]⟩),H_2,n_3)
noncomputable def Tw:=B106_0 cal k
theorem h106_0(v0:Value)(H:Hp)(n:Nat):aX P cal A (k+1) 106 [v0] H n=Tw cal k v0 H n:=(bq Go.Proofs.Tryz.f106 code106 Mx (by kernel_rfl)).trans (by kernel_rfl)
noncomputable def code107:Code:=ak 107
noncomputable def My:List ResultVar:=bw 107
noncomputable def B107_0(cal:Cal)(k:Nat)(v0:Value)(H:Hp)(n:Nat):Res:=
binK P BinOp.neq 3 (Operand.tmp 3) (Operand.tmp 4) v0 v0 fun v_4=>
some (v_4,H,n)
noncomputable def Tx:=B107_0 cal k
theorem h107_0(v0:Value)(H:Hp)(n:Nat):aX P cal A (k+1) 107 [v0] H n=Tx cal k v0 H n:=(bq Go.Proofs.Tryz.f107 code107 My (by kernel_rfl)).trans (by kernel_rfl)
noncomputable def code108:Code:=ak 108
noncomputable def results108:List ResultVar:=bw 108
noncomputable def B108_0(cal:Cal)(k:Nat)(v0 v1:Value)(H:Hp)(n:Nat):Res:=
bindO (lenV P 98 v0) fun v_2=>
bindO (dX P v_2 (convert 3 80 v_2)) fun v_7=>
aK P cal 122 [v_7] H n fun v_8 H_9 n_a=>
aK P cal 121 [v0,(Value.int IntKind.i64 0),v_2,v_8,v1] H_9 n_a fun v_c H_d n_e=>
some ((Value.tuple ⟨[]⟩),H_d,n_e)
noncomputable def C108_0:=B108_0 cal k
theorem h108_0(v0 v1:Value)(H:Hp)(n:Nat):aX P cal A (k+1) 108 [v0,v1] H n=C108_0 cal k v0 v1 H n:=(bq Go.Proofs.Tryz.f108 code108 results108 (by kernel_rfl)).trans (by kernel_rfl)
noncomputable def code109:Code:=ak 109
noncomputable def results109:List ResultVar:=bw 109
noncomputable def B109_0(cal:Cal)(k:Nat)(H:Hp)(n:Nat):Res:=
jK P 173 H n fun v_1 H_2 n_3=>
bindO (nV P 173 [(0,(Value.func (.func 123) #[] #[])),(1,(Value.func (.func 124) #[] #[]))]) fun v_4=>
bindO (dQ P 173 v_1 v_4 H_2) fun H_6=>
bindO (resV P (Tr.set Tr.nil 0 (some v_1)) H_6 results109) fun v_7=>some (oneV v_7,H_6,n_3)
noncomputable def C109_0:=B109_0 cal k 
theorem h109_0(H:Hp)(n:Nat):aX P cal A (k+1) 109 [] H n=C109_0 cal k  H n:=(bq Go.Proofs.Tryz.f109 code109 results109 (by kernel_rfl)).trans (by kernel_rfl)
noncomputable def code110:Code:=ak 110
noncomputable def results110:List ResultVar:=bw 110
noncomputable def B110_0(cal:Cal)(k:Nat)(v0 v1 v2:Value)(H:Hp)(n:Nat):Res:=
boxK 173 v0 H n fun v_1 H_2 n_3=>
bindO (ax P 173 v_1 0) fun v_5=>
bindO (aY v_5) fun a_6=>bindO (aJ P H_2 171 a_6) fun v_7=>
bindO (ax P 173 v_1 1) fun v_a=>
bindO (aY v_a) fun a_b=>bindO (aJ P H_2 171 a_b) fun v_c=>
effK P [(.l 171 a_b)] H_2 n_3 (fun H_f n_g k_h=>
iW P cal v_7 [v1,v2] H_f n_g fun v_l H_m n_n=>
k_h v_l H_m n_n) fun v_i H_j n_k=>
iW P cal v_c [v1,v2] H_j n_k fun v_o H_p n_q=>
bindO (zK P 27 2 [(0,v_i),(1,v_o)]) fun q_t=>newK q_t.1 q_t.2 H_p n_q fun H_r n_s=>
aK P cal 125 [(.slice (some ⟨n_q,0,none⟩) 2 2)] H_r n_s fun v_u H_v n_w=>
some (v_u,H_v,n_w)
noncomputable def C110_0:=B110_0 cal k
theorem h110_0(v0 v1 v2:Value)(H:Hp)(n:Nat):aX P cal A (k+1) 110 [v0,v1,v2] H n=C110_0 cal k v0 v1 v2 H n:=(bq Go.Proofs.Tryz.f110 code110 results110 (by kernel_rfl)).trans (by kernel_rfl)
noncomputable def code111:Code:=ak 111
noncomputable def Mz:List ResultVar:=bw 111
noncomputable def B111_0(cal:Cal)(k:Nat)(v0:Value)(H:Hp)(n:Nat):Res:=
ifK (Value.bool false) (
bindO (dX P v0 (convert 80 187 v0)) fun v_3=>
aK P cal 126 [v_3] H n fun v_4 H_5 n_6=>
some (v_4,H_5,n_6)) (
aK P cal 127 [v0] H n fun v_9 H_a n_b=>
some (v_9,H_a,n_b))
noncomputable def Tz:=B111_0 cal k
theorem h111_0(v0:Value)(H:Hp)(n:Nat):aX P cal A (k+1) 111 [v0] H n=Tz cal k v0 H n:=(bq Go.Proofs.Tryz.f111 code111 Mz (by kernel_rfl)).trans (by kernel_rfl)
noncomputable def ZK:Code:=ak 112
noncomputable def rJ:List ResultVar:=bw 112
noncomputable def qok(cal:Cal)(k:Nat):XR:=(upX 0 (ay P rJ) X0)
noncomputable def K112_prl(m1:Nat):KR:=(fun T H n D=>aZ P cal m1 (Lv.a (Lv.b (A 112))) none 112 (cL (cR ZK)) (ay P rJ) (qok cal k) (ay P rJ) (cutT (Lv.a (Lv.b (A 112))).c T) H n D)
noncomputable def T112_1(m1:Nat):=fun(u0 u2 u3:Value) (H:Hp) (n:Nat)=>labK (bZ P cal (aZ P cal m1) none 112 (cL (cL (cR ZK))) (Lv.a (Lv.a (Lv.b (A 112)))) (K112_prl cal k m1) (qok cal k) (ay P rJ)) (Tr.set (Tr.set (Tr.set Tr.nil 3 (some u3)) 2 (some u2)) 0 (some u0)) H n []
noncomputable def R112_1(m1:Nat):V3:=fun u0 u2 u3 H n=>aZ P cal m1 (Lv.a (Lv.b (A 112))) none 112 (cL (cR ZK)) (ay P rJ) (qok cal k) (ay P rJ) (Tr.set (Tr.set (Tr.set Tr.nil 3 (some u3)) 2 (some u2)) 0 (some u0)) H n []
noncomputable def B112_1(cal:Cal)(k m1:Nat)(b1:V3)(u0 u2 u3:Value)(H:Hp)(n:Nat):Res:=
binK P BinOp.lss 3 (Operand.tmp 7) (Operand.tmp 8) u2 u3 fun v_8=>
ifK v_8 (
bindO (aQ P 98 u0 u3) fun v_f=>
bindO (aY v_f) fun a_g=>bindO (aJ P H 106 a_g) fun v_h=>
bindO (aQ P 98 u0 u2) fun v_k=>
bindO (aY v_k) fun a_l=>bindO (aJ P H 106 a_l) fun v_m=>
bindO (aQ P 98 u0 u2) fun v_n=>
bindO (dQ P 106 v_n v_h H) fun H_p=>
bindO (aQ P 98 u0 u3) fun v_q=>
bindO (dQ P 106 v_q v_m H_p) fun H_s=>
binK P BinOp.add 3 (Operand.tmp 10) (Operand.const (Value.int IntKind.i64 1)) u2 (Value.int IntKind.i64 1) fun v_u=>
binK P BinOp.sub 3 (Operand.tmp 12) (Operand.const (Value.int IntKind.i64 1)) u3 (Value.int IntKind.i64 1) fun v_w=>
b1 u0 v_u v_w H_s n) (
some ((Value.tuple ⟨[]⟩),H,n))
noncomputable def C112_1(m1:Nat):=B112_1 cal k m1
noncomputable def S112_1:Nat→V3:=recF (C112_1 cal k) (fun _ _ _ _ _=>none)
theorem h112_1(m1:Nat):T112_1 cal k m1=C112_1 cal k m1 (R112_1 cal k m1):=by kernel_rfl
theorem q112_1(m:Nat):T112_1 cal k m=S112_1 cal k m:=recS (h112_1 cal k) (by kernel_rfl) (fun m=>by kernel_rfl) m
noncomputable def B112_0(cal:Cal)(k:Nat)(j1:V3)(v0:Value)(H:Hp)(n:Nat):Res:=
bindO (lenV P 98 v0) fun v_2=>
binK P BinOp.sub 3 (Operand.tmp 5) (Operand.const (Value.int IntKind.i64 1)) v_2 (Value.int IntKind.i64 1) fun v_3=>
j1 v0 (Value.int IntKind.i64 0) v_3 H n
noncomputable def C112_0:=B112_0 cal k (S112_1 cal k k)
theorem h112_0(v0:Value)(H:Hp)(n:Nat):aX P cal A (k+1) 112 [v0] H n=C112_0 cal k v0 H n:=(bq Go.Proofs.Tryz.f112 ZK rJ (by kernel_rfl)).trans (Eq.trans (b:=B112_0 cal k (T112_1 cal k k) v0 H n) (by kernel_rfl) (by rw[q112_1]; rfl))
end Go.Proofs.YtnnkcjolgbpklaaGreat.G
end
end
section
open Go Go.Ev
set_option maxRecDepth 1000000
noncomputable section
namespace Go.Proofs.YtnnkcjolgbpklaaGreat.G
variable (cal:Cal) (k:Nat)
noncomputable def sZ:Code:=ak 113
noncomputable def iq:List ResultVar:=bw 113
noncomputable def Dk:KR:=(cutK (Lv.b (A 113)).c (bZ P cal (aZ P cal k) none 113 (cR (cR sZ)) (Lv.b (Lv.b (A 113))) (ay P iq) X0 (ay P iq)))
noncomputable def rj:XR:=(upX 0 (Dk cal k) X0)
noncomputable def Mk(m1:Nat):KR:=(fun T H n D=>aZ P cal m1 (Lv.a (Lv.b (Lv.a (Lv.b (A 113))))) none 113 (cL (cR (cL (cR sZ)))) (Dk cal k) (rj cal k) (ay P iq) (cutT (Lv.a (Lv.b (Lv.a (Lv.b (A 113))))).c T) H n D)
noncomputable def MJ(m1:Nat):=fun(u1 u7 u8 u9:Value) (H:Hp) (n:Nat)=>labK (bZ P cal (aZ P cal m1) none 113 (cL (cL (cR (cL (cR sZ))))) (Lv.a (Lv.a (Lv.b (Lv.a (Lv.b (A 113)))))) (Mk cal k m1) (rj cal k) (ay P iq)) (Tr.set (Tr.set (Tr.set (Tr.set Tr.nil 9 (some u9)) 8 (some u8)) 7 (some u7)) 1 (some u1)) H n []
noncomputable def R113_1(m1:Nat):V4:=fun u1 u7 u8 u9 H n=>aZ P cal m1 (Lv.a (Lv.b (Lv.a (Lv.b (A 113))))) none 113 (cL (cR (cL (cR sZ)))) (Dk cal k) (rj cal k) (ay P iq) (Tr.set (Tr.set (Tr.set (Tr.set Tr.nil 9 (some u9)) 8 (some u8)) 7 (some u7)) 1 (some u1)) H n []
noncomputable def B113_1(cal:Cal)(k m1:Nat)(b1:V4)(u1 u7 u8 u9:Value)(H:Hp)(n:Nat):Res:=
binK P BinOp.lss 3 (Operand.tmp 9) (Operand.tmp 8) u9 u8 fun v_5=>
ifK v_5 (
bindO (aQ P 35 u7 u9) fun v_6=>
bindO (aY v_6) fun a_8=>bindO (aJ P H 130 a_8) fun v_7=>
jK P 130 H n fun v_9 H_a n_b=>
bindO (dQ P 130 v_9 v_7 H_a) fun H_d=>
bindO (aY v_9) fun a_g=>bindO (aJ P H_d 130 a_g) fun v_f=>
iW P cal u1 [v_f] H_d n_b fun v_h H_i n_j=>
bindO (dX P v_h (Op.unary UnOp.not v_h)) fun v_k=>
ifK v_k (
some ((Value.bool false),H_i,n_j)) (
binK P BinOp.add 3 (Operand.tmp 9) (Operand.const (Value.int IntKind.i64 1)) u9 (Value.int IntKind.i64 1) fun v_m=>
b1 u1 u7 u8 v_m H_i n_j)) (
some ((Value.bool true),H,n))
noncomputable def Gx(m1:Nat):=B113_1 cal k m1
noncomputable def Gy:Nat→V4:=recF (Gx cal k) (fun _ _ _ _ _ _=>none)
theorem h113_1(m1:Nat):MJ cal k m1=Gx cal k m1 (R113_1 cal k m1):=by kernel_rfl
theorem q113_1(m:Nat):MJ cal k m=Gy cal k m:=recS (h113_1 cal k) (by kernel_rfl) (fun m=>by kernel_rfl) m
noncomputable def Tk(cal:Cal)(k:Nat)(j1:V4)(v0 v1:Value)(H:Hp)(n:Nat):Res:=
bindO (lenV P 35 v0) fun v_3=>
j1 v1 v0 v_3 (Value.int IntKind.i64 0) H n
noncomputable def TJ:=Tk cal k (Gy cal k k)
theorem h113_0(v0 v1:Value)(H:Hp)(n:Nat):aX P cal A (k+1) 113 [v0,v1] H n=TJ cal k v0 v1 H n:=(bq Go.Proofs.Tryz.f113 sZ iq (by kernel_rfl)).trans (Eq.trans (b:=Tk cal k (MJ cal k k) v0 v1 H n) (by kernel_rfl) (by rw[q113_1]; rfl))
noncomputable def code114:Code:=ak 114
noncomputable def MQ:List ResultVar:=bw 114
noncomputable def B114_0(cal:Cal)(k:Nat)(v0:Value)(H:Hp)(n:Nat):Res:=
boxK 130 v0 H n fun v_1 H_2 n_3=>
bindO (ax P 130 v_1 0) fun v_5=>
bindO (aY v_5) fun a_7=>bindO (aJ P H_2 3 a_7) fun v_6=>
binK P BinOp.geq 3 (Operand.tmp 4) (Operand.const (Value.int IntKind.i64 0)) v_6 (Value.int IntKind.i64 0) fun v_8=>
bx v_8 true (fun k_a=>
bindO (ax P 130 v_1 0) fun v_e=>
k_a v_e H_2 n_3) H_2 n_3 fun v_b H_c n_d=>
bx v_8 true (fun k_f=>
bindO (aY v_b) fun a_k=>bindO (aJ P H_c 3 a_k) fun v_j=>
k_f v_j H_c n_d) H_c n_d fun v_g H_h n_i=>
bx v_8 true (fun k_l=>
bindO (ax P 130 v_1 1) fun v_p=>
k_l v_p H_h n_i) H_h n_i fun v_m H_n n_o=>
bx v_8 true (fun k_q=>
bindO (aY v_m) fun a_v=>bindO (aJ P H_n 3 a_v) fun v_u=>
k_q v_u H_n n_o) H_n n_o fun v_r H_s n_t=>
bx v_8 true (fun k_w=>
binK P BinOp.leq 3 (Operand.tmp 8) (Operand.tmp 10) v_g v_r fun v_10=>
k_w v_10 H_s n_t) H_s n_t fun v_x H_y n_z=>
bindO (fX v_8 v_x (Value.bool false)) fun v_11=>
bx v_11 true (fun k_13=>
bindO (ax P 130 v_1 1) fun v_17=>
k_13 v_17 H_y n_z) H_y n_z fun v_14 H_15 n_16=>
bx v_11 true (fun k_18=>
bindO (aY v_14) fun a_1d=>bindO (aJ P H_15 3 a_1d) fun v_1c=>
k_18 v_1c H_15 n_16) H_15 n_16 fun v_19 H_1a n_1b=>
bx v_11 true (fun k_1e=>
binK P BinOp.leq 3 (Operand.tmp 15) (Operand.const (Value.int IntKind.i64 1000)) v_19 (Value.int IntKind.i64 1000) fun v_1i=>
k_1e v_1i H_1a n_1b) H_1a n_1b fun v_1f H_1g n_1h=>
bindO (fX v_11 v_1f (Value.bool false)) fun v_1j=>
some (v_1j,H_1g,n_1h)
noncomputable def TQ:=B114_0 cal k
theorem h114_0(v0:Value)(H:Hp)(n:Nat):aX P cal A (k+1) 114 [v0] H n=TQ cal k v0 H n:=(bq Go.Proofs.Tryz.f114 code114 MQ (by kernel_rfl)).trans (by kernel_rfl)
noncomputable def sK:Code:=ak 115
noncomputable def iw:List ResultVar:=bw 115
noncomputable def DJ:KR:=(cutK (Lv.b (A 115)).c (bZ P cal (aZ P cal k) none 115 (cR (cR sK)) (Lv.b (Lv.b (A 115))) (ay P iw) X0 (ay P iw)))
noncomputable def rq:XR:=(upX 0 (DJ cal k) X0)
noncomputable def MV(m1:Nat):KR:=(fun T H n D=>aZ P cal m1 (Lv.a (Lv.b (Lv.a (Lv.b (A 115))))) none 115 (cL (cR (cL (cR sK)))) (DJ cal k) (rq cal k) (ay P iw) (cutT (Lv.a (Lv.b (Lv.a (Lv.b (A 115))))).c T) H n D)
noncomputable def MW(m1:Nat):=fun(u1 u7 u8 u9:Value) (H:Hp) (n:Nat)=>labK (bZ P cal (aZ P cal m1) none 115 (cL (cL (cR (cL (cR sK))))) (Lv.a (Lv.a (Lv.b (Lv.a (Lv.b (A 115)))))) (MV cal k m1) (rq cal k) (ay P iw)) (Tr.set (Tr.set (Tr.set (Tr.set Tr.nil 9 (some u9)) 8 (some u8)) 7 (some u7)) 1 (some u1)) H n []
noncomputable def R115_1(m1:Nat):V4:=fun u1 u7 u8 u9 H n=>aZ P cal m1 (Lv.a (Lv.b (Lv.a (Lv.b (A 115))))) none 115 (cL (cR (cL (cR sK)))) (DJ cal k) (rq cal k) (ay P iw) (Tr.set (Tr.set (Tr.set (Tr.set Tr.nil 9 (some u9)) 8 (some u8)) 7 (some u7)) 1 (some u1)) H n []
noncomputable def B115_1(cal:Cal)(k m1:Nat)(b1:V4)(u1 u7 u8 u9:Value)(H:Hp)(n:Nat):Res:=
binK P BinOp.lss 3 (Operand.tmp 9) (Operand.tmp 8) u9 u8 fun v_5=>
ifK v_5 (
bindO (aQ P 36 u7 u9) fun v_6=>
bindO (aY v_6) fun a_8=>bindO (aJ P H 131 a_8) fun v_7=>
jK P 131 H n fun v_9 H_a n_b=>
bindO (dQ P 131 v_9 v_7 H_a) fun H_d=>
bindO (aY v_9) fun a_g=>bindO (aJ P H_d 131 a_g) fun v_f=>
iW P cal u1 [v_f] H_d n_b fun v_h H_i n_j=>
bindO (dX P v_h (Op.unary UnOp.not v_h)) fun v_k=>
ifK v_k (
some ((Value.bool false),H_i,n_j)) (
binK P BinOp.add 3 (Operand.tmp 9) (Operand.const (Value.int IntKind.i64 1)) u9 (Value.int IntKind.i64 1) fun v_m=>
b1 u1 u7 u8 v_m H_i n_j)) (
some ((Value.bool true),H,n))
noncomputable def Gz(m1:Nat):=B115_1 cal k m1
noncomputable def Gk:Nat→V4:=recF (Gz cal k) (fun _ _ _ _ _ _=>none)
theorem h115_1(m1:Nat):MW cal k m1=Gz cal k m1 (R115_1 cal k m1):=by kernel_rfl
theorem q115_1(m:Nat):MW cal k m=Gk cal k m:=recS (h115_1 cal k) (by kernel_rfl) (fun m=>by kernel_rfl) m
noncomputable def TV(cal:Cal)(k:Nat)(j1:V4)(v0 v1:Value)(H:Hp)(n:Nat):Res:=
bindO (lenV P 36 v0) fun v_3=>
j1 v1 v0 v_3 (Value.int IntKind.i64 0) H n
noncomputable def TW:=TV cal k (Gk cal k k)
theorem h115_0(v0 v1:Value)(H:Hp)(n:Nat):aX P cal A (k+1) 115 [v0,v1] H n=TW cal k v0 v1 H n:=(bq Go.Proofs.Tryz.f115 sK iw (by kernel_rfl)).trans (Eq.trans (b:=TV cal k (MW cal k k) v0 v1 H n) (by kernel_rfl) (by rw[q115_1]; rfl))
noncomputable def lJ:Code:=ak 116
noncomputable def eV:List ResultVar:=bw 116
noncomputable def yX:KR:=(cutK (Lv.b (Lv.b (A 116))).c (bZ P cal (aZ P cal k) none 116 (cR (cR (cR lJ))) (Lv.b (Lv.b (Lv.b (A 116)))) (ay P eV) X0 (ay P eV)))
noncomputable def fW:XR:=(upX 0 (yX cal k) X0)
noncomputable def ox(m1:Nat):KR:=(fun T H n D=>aZ P cal m1 (Lv.a (Lv.b (Lv.a (Lv.b (Lv.b (A 116)))))) none 116 (cL (cR (cL (cR (cR lJ))))) (yX cal k) (fW cal k) (ay P eV) (cutT (Lv.a (Lv.b (Lv.a (Lv.b (Lv.b (A 116)))))).c T) H n D)
noncomputable def tj(m1:Nat):KR:=(cutK (Lv.b (Lv.b (Lv.a (Lv.a (Lv.b (Lv.a (Lv.b (Lv.b (A 116))))))))).c (bZ P cal (aZ P cal m1) none 116 (cR (cR (cR (cL (cL (cR (cL (cR (cR lJ))))))))) (Lv.b (Lv.b (Lv.b (Lv.a (Lv.a (Lv.b (Lv.a (Lv.b (Lv.b (A 116)))))))))) (ox cal k m1) (fW cal k) (ay P eV)))
noncomputable def K116_pxrrlrllrrl(m1:Nat):XR:=(upX 1 (tj cal k m1) (fW cal k))
noncomputable def T116_2(m1:Nat):=fun(u2 u3 u5 u9 u10 u11:Value) (H:Hp) (n:Nat)=>labK (bZ P cal (aZ P cal m1) none 116 (cR (cR (cR (cL (cL (cR (cL (cR (cR lJ))))))))) (Lv.b (Lv.b (Lv.b (Lv.a (Lv.a (Lv.b (Lv.a (Lv.b (Lv.b (A 116)))))))))) (ox cal k m1) (fW cal k) (ay P eV)) (Tr.set (Tr.set (Tr.set (Tr.set (Tr.set (Tr.set Tr.nil 11 (some u11)) 10 (some u10)) 9 (some u9)) 5 (some u5)) 3 (some u3)) 2 (some u2)) H n []
noncomputable def MX(m1:Nat):=fun(u2 u3 u5 u9 u10 u11:Value) (H:Hp) (n:Nat)=>labK (bZ P cal (aZ P cal m1) none 116 (cL (cL (cR (cL (cR (cR lJ)))))) (Lv.a (Lv.a (Lv.b (Lv.a (Lv.b (Lv.b (A 116))))))) (ox cal k m1) (fW cal k) (ay P eV)) (Tr.set (Tr.set (Tr.set (Tr.set (Tr.set (Tr.set Tr.nil 11 (some u11)) 10 (some u10)) 9 (some u9)) 5 (some u5)) 3 (some u3)) 2 (some u2)) H n []
noncomputable def DQ(m1:Nat):V6:=fun u2 u3 u5 u9 u10 u11 H n=>aZ P cal m1 (Lv.a (Lv.b (Lv.a (Lv.b (Lv.b (A 116)))))) none 116 (cL (cR (cL (cR (cR lJ))))) (yX cal k) (fW cal k) (ay P eV) (Tr.set (Tr.set (Tr.set (Tr.set (Tr.set (Tr.set Tr.nil 11 (some u11)) 10 (some u10)) 9 (some u9)) 5 (some u5)) 3 (some u3)) 2 (some u2)) H n []
noncomputable def B116_2(cal:Cal)(k m1:Nat)(b1:V6)(u2 u3 u5 u9 u10 u11:Value)(H:Hp)(n:Nat):Res:=
binK P BinOp.add 3 (Operand.tmp 11) (Operand.const (Value.int IntKind.i64 1)) u11 (Value.int IntKind.i64 1) fun v_f=>
b1 u2 u3 u5 u9 u10 v_f H n
noncomputable def TX(m1:Nat):=B116_2 cal k m1
theorem h116_2(m1:Nat):T116_2 cal k m1=TX cal k m1 (DQ cal k m1):=by kernel_rfl
noncomputable def MY(cal:Cal)(k m1:Nat)(j2:V6)(b1:V6)(u2 u3 u5 u9 u10 u11:Value)(H:Hp)(n:Nat):Res:=
binK P BinOp.lss 3 (Operand.tmp 11) (Operand.tmp 10) u11 u10 fun v_e=>
ifK v_e (
bindO (aQ P 36 u9 u11) fun v_h=>
bindO (aY v_h) fun a_j=>bindO (aJ P H 131 a_j) fun v_i=>
jK P 131 H n fun v_k H_l n_m=>
bindO (dQ P 131 v_k v_i H_l) fun H_o=>
bindO (aY v_k) fun a_q=>bindO (aJ P H_o 131 a_q) fun v_p=>
bindO (aY u3) fun a_s=>bindO (aJ P H_o 131 a_s) fun v_r=>
binK P BinOp.eql 131 (Operand.tmp 15) (Operand.tmp 16) v_p v_r fun v_t=>
bx v_t false (fun k_v=>
bindO (aY v_k) fun a_10=>bindO (aJ P H_o 131 a_10) fun v_z=>
k_v v_z H_o n_m) H_o n_m fun v_w H_x n_y=>
bx v_t false (fun k_11=>
bindO (ax P 131 u3 1) fun v_15=>
k_11 v_15 H_x n_y) H_x n_y fun v_12 H_13 n_14=>
bx v_t false (fun k_16=>
bindO (aY v_12) fun a_1b=>bindO (aJ P H_13 3 a_1b) fun v_1a=>
k_16 v_1a H_13 n_14) H_13 n_14 fun v_17 H_18 n_19=>
bx v_t false (fun k_1c=>
bindO (ax P 131 u3 0) fun v_1g=>
k_1c v_1g H_18 n_19) H_18 n_19 fun v_1d H_1e n_1f=>
bx v_t false (fun k_1h=>
bindO (aY v_1d) fun a_1m=>bindO (aJ P H_1e 3 a_1m) fun v_1l=>
k_1h v_1l H_1e n_1f) H_1e n_1f fun v_1i H_1j n_1k=>
bx v_t false (fun k_1n=>
bindO (nV P 131 [(0,v_17),(1,v_1i)]) fun v_1r=>
k_1n v_1r H_1j n_1k) H_1j n_1k fun v_1o H_1p n_1q=>
bx v_t false (fun k_1s=>
binK P BinOp.eql 131 (Operand.tmp 19) (Operand.tmp 24) v_w v_1o fun v_1w=>
k_1s v_1w H_1p n_1q) H_1p n_1q fun v_1t H_1u n_1v=>
bindO (fX v_t (Value.bool true) v_1t) fun v_1x=>
ifK v_1x (
binK P BinOp.add 3 (Operand.tmp 27) (Operand.const (Value.int IntKind.i64 1)) u5 (Value.int IntKind.i64 1) fun v_1z=>
j2 u2 u3 v_1z u9 u10 u11 H_1u n_1v) (
j2 u2 u3 u5 u9 u10 u11 H_1u n_1v)) (
bindO (aY u2) fun a_22=>bindO (aJ P H 39 a_22) fun v_21=>
bindO (ax P 131 u3 0) fun v_23=>
bindO (aY v_23) fun a_25=>bindO (aJ P H 3 a_25) fun v_24=>
aK P cal 128 [v_21,v_24] H n fun v_26 H_27 n_28=>
bx v_26 true (fun k_2a=>
bindO (aY u2) fun a_2f=>bindO (aJ P H_27 39 a_2f) fun v_2e=>
k_2a v_2e H_27 n_28) H_27 n_28 fun v_2b H_2c n_2d=>
bx v_26 true (fun k_2g=>
bindO (ax P 131 u3 1) fun v_2k=>
k_2g v_2k H_2c n_2d) H_2c n_2d fun v_2h H_2i n_2j=>
bx v_26 true (fun k_2l=>
bindO (aY v_2h) fun a_2q=>bindO (aJ P H_2i 3 a_2q) fun v_2p=>
k_2l v_2p H_2i n_2j) H_2i n_2j fun v_2m H_2n n_2o=>
bx v_26 true (fun k_2r=>
aK P cal 128 [v_2b,v_2m] H_2n n_2o fun v_2v H_2w n_2x=>
k_2r v_2v H_2w n_2x) H_2n n_2o fun v_2s H_2t n_2u=>
bindO (fX v_26 v_2s (Value.bool false)) fun v_2y=>
bx v_2y true (fun k_30=>
bindO (ax P 131 u3 0) fun v_34=>
k_30 v_34 H_2t n_2u) H_2t n_2u fun v_31 H_32 n_33=>
bx v_2y true (fun k_35=>
bindO (aY v_31) fun a_3a=>bindO (aJ P H_32 3 a_3a) fun v_39=>
k_35 v_39 H_32 n_33) H_32 n_33 fun v_36 H_37 n_38=>
bx v_2y true (fun k_3b=>
bindO (ax P 131 u3 1) fun v_3f=>
k_3b v_3f H_37 n_38) H_37 n_38 fun v_3c H_3d n_3e=>
bx v_2y true (fun k_3g=>
bindO (aY v_3c) fun a_3l=>bindO (aJ P H_3d 3 a_3l) fun v_3k=>
k_3g v_3k H_3d n_3e) H_3d n_3e fun v_3h H_3i n_3j=>
bx v_2y true (fun k_3m=>
binK P BinOp.neq 3 (Operand.tmp 42) (Operand.tmp 44) v_36 v_3h fun v_3q=>
k_3m v_3q H_3i n_3j) H_3i n_3j fun v_3n H_3o n_3p=>
bindO (fX v_2y v_3n (Value.bool false)) fun v_3r=>
bx v_3r true (fun k_3t=>
k_3t u5 H_3o n_3p) H_3o n_3p fun v_3u H_3v n_3w=>
bx v_3r true (fun k_3y=>
binK P BinOp.eql 3 (Operand.tmp 48) (Operand.const (Value.int IntKind.i64 1)) v_3u (Value.int IntKind.i64 1) fun v_42=>
k_3y v_42 H_3v n_3w) H_3v n_3w fun v_3z H_40 n_41=>
bindO (fX v_3r v_3z (Value.bool false)) fun v_43=>
some (v_43,H_40,n_41))
noncomputable def GJ(m1:Nat)(b1:V6):=MY cal k m1 (TX cal k m1 b1) b1
noncomputable def GQ:Nat→V6:=recF (GJ cal k) (fun _ _ _ _ _ _ _ _=>none)
theorem h116_1(m1:Nat):MX cal k m1=GJ cal k m1 (DQ cal k m1):=Eq.trans (b:=MY cal k m1 (T116_2 cal k m1) (DQ cal k m1)) (by kernel_rfl) (by rw[h116_2]; rfl)
theorem q116_1(m:Nat):MX cal k m=GQ cal k m:=recS (h116_1 cal k) (by kernel_rfl) (fun m=>by kernel_rfl) m
noncomputable def TY(cal:Cal)(k:Nat)(j1:V6)(v0 v1:Value)(H:Hp)(n:Nat):Res:=
boxK 39 v0 H n fun v_1 H_2 n_3=>
boxK 131 v1 H_2 n_3 fun v_4 H_5 n_6=>
bindO (ax P 39 v_1 1) fun v_9=>
bindO (aY v_9) fun a_b=>bindO (aJ P H_5 36 a_b) fun v_a=>
bindO (lenV P 36 v_a) fun v_c=>
j1 v_1 v_4 (Value.int IntKind.i64 0) v_a v_c (Value.int IntKind.i64 0) H_5 n_6
noncomputable def TZ:=TY cal k (GQ cal k k)
theorem h116_0(v0 v1:Value)(H:Hp)(n:Nat):aX P cal A (k+1) 116 [v0,v1] H n=TZ cal k v0 v1 H n:=(bq Go.Proofs.Tryz.f116 lJ eV (by kernel_rfl)).trans (Eq.trans (b:=TY cal k (MX cal k k) v0 v1 H n) (by kernel_rfl) (by rw[q116_1]; rfl))
noncomputable def tq:Code:=ak 117
noncomputable def ix:List ResultVar:=bw 117
noncomputable def DV:KR:=(cutK (Lv.b (A 117)).c (bZ P cal (aZ P cal k) none 117 (cR (cR tq)) (Lv.b (Lv.b (A 117))) (ay P ix) X0 (ay P ix)))
noncomputable def rv:XR:=(upX 0 (DV cal k) X0)
noncomputable def MZ(m1:Nat):KR:=(fun T H n D=>aZ P cal m1 (Lv.a (Lv.b (Lv.a (Lv.b (A 117))))) none 117 (cL (cR (cL (cR tq)))) (DV cal k) (rv cal k) (ay P ix) (cutT (Lv.a (Lv.b (Lv.a (Lv.b (A 117))))).c T) H n D)
noncomputable def MK(m1:Nat):=fun(u1 u7 u8 u9:Value) (H:Hp) (n:Nat)=>labK (bZ P cal (aZ P cal m1) none 117 (cL (cL (cR (cL (cR tq))))) (Lv.a (Lv.a (Lv.b (Lv.a (Lv.b (A 117)))))) (MZ cal k m1) (rv cal k) (ay P ix)) (Tr.set (Tr.set (Tr.set (Tr.set Tr.nil 9 (some u9)) 8 (some u8)) 7 (some u7)) 1 (some u1)) H n []
noncomputable def R117_1(m1:Nat):V4:=fun u1 u7 u8 u9 H n=>aZ P cal m1 (Lv.a (Lv.b (Lv.a (Lv.b (A 117))))) none 117 (cL (cR (cL (cR tq)))) (DV cal k) (rv cal k) (ay P ix) (Tr.set (Tr.set (Tr.set (Tr.set Tr.nil 9 (some u9)) 8 (some u8)) 7 (some u7)) 1 (some u1)) H n []
noncomputable def B117_1(cal:Cal)(k m1:Nat)(b1:V4)(u1 u7 u8 u9:Value)(H:Hp)(n:Nat):Res:=
binK P BinOp.lss 3 (Operand.tmp 9) (Operand.tmp 8) u9 u8 fun v_5=>
ifK v_5 (
bindO (aQ P 37 u7 u9) fun v_6=>
bindO (aY v_6) fun a_8=>bindO (aJ P H 128 a_8) fun v_7=>
jK P 128 H n fun v_9 H_a n_b=>
bindO (dQ P 128 v_9 v_7 H_a) fun H_d=>
bindO (aY v_9) fun a_g=>bindO (aJ P H_d 128 a_g) fun v_f=>
iW P cal u1 [v_f] H_d n_b fun v_h H_i n_j=>
bindO (dX P v_h (Op.unary UnOp.not v_h)) fun v_k=>
ifK v_k (
some ((Value.bool false),H_i,n_j)) (
binK P BinOp.add 3 (Operand.tmp 9) (Operand.const (Value.int IntKind.i64 1)) u9 (Value.int IntKind.i64 1) fun v_m=>
b1 u1 u7 u8 v_m H_i n_j)) (
some ((Value.bool true),H,n))
noncomputable def GV(m1:Nat):=B117_1 cal k m1
noncomputable def GW:Nat→V4:=recF (GV cal k) (fun _ _ _ _ _ _=>none)
theorem h117_1(m1:Nat):MK cal k m1=GV cal k m1 (R117_1 cal k m1):=by kernel_rfl
theorem q117_1(m:Nat):MK cal k m=GW cal k m:=recS (h117_1 cal k) (by kernel_rfl) (fun m=>by kernel_rfl) m
noncomputable def Uj(cal:Cal)(k:Nat)(j1:V4)(v0 v1:Value)(H:Hp)(n:Nat):Res:=
bindO (lenV P 37 v0) fun v_3=>
j1 v1 v0 v_3 (Value.int IntKind.i64 0) H n
noncomputable def Uq:=Uj cal k (GW cal k k)
theorem h117_0(v0 v1:Value)(H:Hp)(n:Nat):aX P cal A (k+1) 117 [v0,v1] H n=Uq cal k v0 v1 H n:=(bq Go.Proofs.Tryz.f117 tq ix (by kernel_rfl)).trans (Eq.trans (b:=Uj cal k (MK cal k k) v0 v1 H n) (by kernel_rfl) (by rw[q117_1]; rfl))
noncomputable def code118:Code:=ak 118
noncomputable def Nj:List ResultVar:=bw 118
noncomputable def B118_0(cal:Cal)(k:Nat)(v0:Value)(H:Hp)(n:Nat):Res:=
boxK 128 v0 H n fun v_1 H_2 n_3=>
bindO (ax P 128 v_1 0) fun v_5=>
bindO (aY v_5) fun a_7=>bindO (aJ P H_2 3 a_7) fun v_6=>
binK P BinOp.geq 3 (Operand.tmp 4) (Operand.const (Value.int IntKind.i64 0)) v_6 (Value.int IntKind.i64 0) fun v_8=>
bx v_8 true (fun k_a=>
bindO (ax P 128 v_1 0) fun v_e=>
k_a v_e H_2 n_3) H_2 n_3 fun v_b H_c n_d=>
bx v_8 true (fun k_f=>
bindO (aY v_b) fun a_k=>bindO (aJ P H_c 3 a_k) fun v_j=>
k_f v_j H_c n_d) H_c n_d fun v_g H_h n_i=>
bx v_8 true (fun k_l=>
binK P BinOp.leq 3 (Operand.tmp 8) (Operand.const (Value.int IntKind.i64 1000)) v_g (Value.int IntKind.i64 1000) fun v_p=>
k_l v_p H_h n_i) H_h n_i fun v_m H_n n_o=>
bindO (fX v_8 v_m (Value.bool false)) fun v_q=>
bx v_q true (fun k_s=>
bindO (ax P 128 v_1 1) fun v_w=>
k_s v_w H_n n_o) H_n n_o fun v_t H_u n_v=>
bx v_q true (fun k_x=>
bindO (aY v_t) fun a_12=>bindO (aJ P H_u 126 a_12) fun v_11=>
k_x v_11 H_u n_v) H_u n_v fun v_y H_z n_10=>
bx v_q true (fun k_13=>
aK P cal 129 [v_y] H_z n_10 fun v_17 H_18 n_19=>
k_13 v_17 H_18 n_19) H_z n_10 fun v_14 H_15 n_16=>
bindO (fX v_q v_14 (Value.bool false)) fun v_1a=>
bx v_1a true (fun k_1c=>
bindO (ax P 128 v_1 2) fun v_1g=>
k_1c v_1g H_15 n_16) H_15 n_16 fun v_1d H_1e n_1f=>
bx v_1a true (fun k_1h=>
bindO (aY v_1d) fun a_1m=>bindO (aJ P H_1e 126 a_1m) fun v_1l=>
k_1h v_1l H_1e n_1f) H_1e n_1f fun v_1i H_1j n_1k=>
bx v_1a true (fun k_1n=>
aK P cal 129 [v_1i] H_1j n_1k fun v_1r H_1s n_1t=>
k_1n v_1r H_1s n_1t) H_1j n_1k fun v_1o H_1p n_1q=>
bindO (fX v_1a v_1o (Value.bool false)) fun v_1u=>
some (v_1u,H_1p,n_1q)
noncomputable def Uv:=B118_0 cal k
theorem h118_0(v0:Value)(H:Hp)(n:Nat):aX P cal A (k+1) 118 [v0] H n=Uv cal k v0 H n:=(bq Go.Proofs.Tryz.f118 code118 Nj (by kernel_rfl)).trans (by kernel_rfl)
noncomputable def qy:Code:=ak 119
noncomputable def eX:List ResultVar:=bw 119
noncomputable def oy(cal:Cal)(k:Nat):XR:=(upX 0 (ay P eX) X0)
noncomputable def GX(m1:Nat):KR:=(fun T H n D=>aZ P cal m1 (Lv.a (Lv.b (A 119))) none 119 (cL (cR qy)) (ay P eX) (oy cal k) (ay P eX) (cutT (Lv.a (Lv.b (A 119))).c T) H n D)
noncomputable def zX(m1:Nat):KR:=(cutK (Lv.b (Lv.b (Lv.a (Lv.a (Lv.b (A 119)))))).c (bZ P cal (aZ P cal m1) none 119 (cR (cR (cR (cL (cL (cR qy)))))) (Lv.b (Lv.b (Lv.b (Lv.a (Lv.a (Lv.b (A 119))))))) (GX cal k m1) (oy cal k) (ay P eX)))
noncomputable def K119_pxrllrrl(m1:Nat):XR:=(upX 1 (zX cal k m1) (oy cal k))
noncomputable def Nq(m1:Nat):=fun(u0 u1 u2 u10 u11:Value) (H:Hp) (n:Nat)=>labK (bZ P cal (aZ P cal m1) none 119 (cL (cL (cR qy))) (Lv.a (Lv.a (Lv.b (A 119)))) (GX cal k m1) (oy cal k) (ay P eX)) (Tr.set (Tr.set (Tr.set (Tr.set (Tr.set Tr.nil 11 (some u11)) 10 (some u10)) 2 (some u2)) 1 (some u1)) 0 (some u0)) H n []
noncomputable def R119_1(m1:Nat):V5:=fun u0 u1 u2 u10 u11 H n=>aZ P cal m1 (Lv.a (Lv.b (A 119))) none 119 (cL (cR qy)) (ay P eX) (oy cal k) (ay P eX) (Tr.set (Tr.set (Tr.set (Tr.set (Tr.set Tr.nil 11 (some u11)) 10 (some u10)) 2 (some u2)) 1 (some u1)) 0 (some u0)) H n []
noncomputable def Uw(cal:Cal)(k m1:Nat)(b1:V5)(u0 u1 u2 u10 u11:Value)(H:Hp)(n:Nat):Res:=
binK P BinOp.lss 3 (Operand.tmp 11) (Operand.tmp 10) u11 u10 fun v_a=>
ifK v_a (
bindO (aY u1) fun a_d=>bindO (aJ P H 97 a_d) fun v_e=>
bindO (nilV v_e) fun v_g=>
bindO (ax P 109 v_g 1) fun v_h=>
bindO (aQ P 107 v_h u11) fun v_i=>
bindO (aY v_i) fun a_j=>bindO (aJ P H 106 a_j) fun v_k=>
bindO (aY u2) fun a_l=>bindO (aJ P H 106 a_l) fun v_m=>
aK P cal 95 [v_k,v_m] H n fun v_n H_o n_p=>
fq v_n true (fun k_r=>
k_r u0 .p H_o n_p) .p H_o n_p fun v_s x_t H_u n_v=>
fq v_n true (fun k_x=>
k_x u11 .p H_u n_v) .p H_u n_v fun v_y x_z H_10 n_11=>
fq v_n true (fun k_13=>
iW P cal v_s [v_y] H_10 n_11 fun v_18 H_19 n_1a=>
k_13 v_18 .e H_19 n_1a) .e H_10 n_11 fun v_14 x_15 H_16 n_17=>
fq v_n true (fun k_1b=>
bindO (dX P v_14 (Op.unary UnOp.not v_14)) fun v_1g=>
k_1b v_1g .p H_16 n_17) .p H_16 n_17 fun v_1c x_1d H_1e n_1f=>
bindO (fX v_n v_1c (Value.bool false)) fun v_1h=>
ifK v_1h (
some ((Value.tuple ⟨[]⟩),H_1e,n_1f)) (
binK P BinOp.add 3 (Operand.tmp 11) (Operand.const (Value.int IntKind.i64 1)) u11 (Value.int IntKind.i64 1) fun v_1i=>
b1 u0 u1 u2 u10 v_1i H_1e n_1f)) (
some ((Value.tuple ⟨[]⟩),H,n))
noncomputable def GY(m1:Nat):=Uw cal k m1
noncomputable def GZ:Nat→V5:=recF (GY cal k) (fun _ _ _ _ _ _ _=>none)
theorem h119_1(m1:Nat):Nq cal k m1=GY cal k m1 (R119_1 cal k m1):=by kernel_rfl
theorem q119_1(m:Nat):Nq cal k m=GZ cal k m:=recS (h119_1 cal k) (by kernel_rfl) (fun m=>by kernel_rfl) m
noncomputable def Ux(cal:Cal)(k:Nat)(j1:V5)(v0 v1 v2:Value)(H:Hp)(n:Nat):Res:=
bindO (aY v1) fun a_2=>bindO (aJ P H 97 a_2) fun v_1=>
bindO (nilV v_1) fun v_3=>
bindO (ax P 109 v_3 0) fun v_4=>
bindO (ax P 41 v_4 2) fun v_5=>
bindO (aY v_5) fun a_7=>bindO (aJ P H 27 a_7) fun v_6=>
bindO (lenV P 27 v_6) fun v_8=>
j1 v0 v1 v2 v_8 (Value.int IntKind.i64 0) H n
noncomputable def Uy:=Ux cal k (GZ cal k k)
theorem h119_0(v0 v1 v2:Value)(H:Hp)(n:Nat):aX P cal A (k+1) 119 [v0,v1,v2] H n=Uy cal k v0 v1 v2 H n:=(bq Go.Proofs.Tryz.f119 qy eX (by kernel_rfl)).trans (Eq.trans (b:=Ux cal k (Nq cal k k) v0 v1 v2 H n) (by kernel_rfl) (by rw[q119_1]; rfl))
noncomputable def wQ:Code:=ak 120
noncomputable def fQ:List ResultVar:=bw 120
noncomputable def yY(cal:Cal)(k:Nat):XR:=(upX 0 (ay P fQ) X0)
noncomputable def qhk(m1:Nat):KR:=(fun T H n D=>aZ P cal m1 (Lv.a (Lv.b (A 120))) none 120 (cL (cR wQ)) (ay P fQ) (yY cal k) (ay P fQ) (cutT (Lv.a (Lv.b (A 120))).c T) H n D)
noncomputable def Nv(m1:Nat):=fun(u0 u1 u3:Value) (H:Hp) (n:Nat)=>labK (bZ P cal (aZ P cal m1) none 120 (cL (cL (cR wQ))) (Lv.a (Lv.a (Lv.b (A 120)))) (qhk cal k m1) (yY cal k) (ay P fQ)) (Tr.set (Tr.set (Tr.set Tr.nil 3 (some u3)) 1 (some u1)) 0 (some u0)) H n []
noncomputable def R120_1(m1:Nat):V3:=fun u0 u1 u3 H n=>aZ P cal m1 (Lv.a (Lv.b (A 120))) none 120 (cL (cR wQ)) (ay P fQ) (yY cal k) (ay P fQ) (Tr.set (Tr.set (Tr.set Tr.nil 3 (some u3)) 1 (some u1)) 0 (some u0)) H n []
noncomputable def B120_1(cal:Cal)(k m1:Nat)(b1:V3)(u0 u1 u3:Value)(H:Hp)(n:Nat):Res:=
binK P BinOp.geq 3 (Operand.tmp 7) (Operand.const (Value.int IntKind.i64 0)) u3 (Value.int IntKind.i64 0) fun v_7=>
ifK v_7 (
bindO (aY u1) fun a_b=>bindO (aJ P H 98 a_b) fun v_a=>
bindO (aQ P 98 v_a u3) fun v_d=>
bindO (aY v_d) fun a_f=>bindO (aJ P H 106 a_f) fun v_e=>
iW P cal u0 [u3,v_e] H n fun v_g H_h n_i=>
bindO (dX P v_g (Op.unary UnOp.not v_g)) fun v_j=>
ifK v_j (
some ((Value.tuple ⟨[]⟩),H_h,n_i)) (
binK P BinOp.sub 3 (Operand.tmp 9) (Operand.const (Value.int IntKind.i64 1)) u3 (Value.int IntKind.i64 1) fun v_l=>
b1 u0 u1 v_l H_h n_i)) (
some ((Value.tuple ⟨[]⟩),H,n))
noncomputable def GK(m1:Nat):=B120_1 cal k m1
noncomputable def Hj:Nat→V3:=recF (GK cal k) (fun _ _ _ _ _=>none)
theorem h120_1(m1:Nat):Nv cal k m1=GK cal k m1 (R120_1 cal k m1):=by kernel_rfl
theorem q120_1(m:Nat):Nv cal k m=Hj cal k m:=recS (h120_1 cal k) (by kernel_rfl) (fun m=>by kernel_rfl) m
noncomputable def Uz(cal:Cal)(k:Nat)(j1:V3)(v0 v1:Value)(H:Hp)(n:Nat):Res:=
bindO (aY v1) fun a_2=>bindO (aJ P H 98 a_2) fun v_1=>
bindO (lenV P 98 v_1) fun v_3=>
binK P BinOp.sub 3 (Operand.tmp 5) (Operand.const (Value.int IntKind.i64 1)) v_3 (Value.int IntKind.i64 1) fun v_4=>
j1 v0 v1 v_4 H n
noncomputable def Uk:=Uz cal k (Hj cal k k)
theorem h120_0(v0 v1:Value)(H:Hp)(n:Nat):aX P cal A (k+1) 120 [v0,v1] H n=Uk cal k v0 v1 H n:=(bq Go.Proofs.Tryz.f120 wQ fQ (by kernel_rfl)).trans (Eq.trans (b:=Uz cal k (Nv cal k k) v0 v1 H n) (by kernel_rfl) (by rw[q120_1]; rfl))
noncomputable def EJ:Code:=ak 121
noncomputable def lk:List ResultVar:=bw 121
noncomputable def JQ(cal:Cal)(k:Nat):XR:=(upX 0 (ay P lk) X0)
noncomputable def Cx(m1:Nat):KR:=(fun T H n D=>aZ P cal m1 (Lv.a (Lv.b (Lv.b (A 121)))) none 121 (cL (cR (cR EJ))) (ay P lk) (JQ cal k) (ay P lk) (cutT (Lv.a (Lv.b (Lv.b (A 121)))).c T) H n D)
noncomputable def Iy(m1:Nat):XR:=(upX 1 (Cx cal k m1) (JQ cal k))
noncomputable def T121_4(m1:Nat):=fun(u0 u1 u2 u3 u4 u10 u11 u12 u13:Value) (H:Hp) (n:Nat)=>labK (bZ P cal (aZ P cal m1) none 121 (cR (cR (cR (cR (cR (cR (cR (cL (cL (cL (cR (cR EJ)))))))))))) (Lv.b (Lv.b (Lv.b (Lv.b (Lv.b (Lv.b (Lv.b (Lv.a (Lv.a (Lv.a (Lv.b (Lv.b (A 121))))))))))))) (Cx cal k m1) (Iy cal k m1) (ay P lk)) (Tr.set (Tr.set (Tr.set (Tr.set (Tr.set (Tr.set (Tr.set (Tr.set (Tr.set Tr.nil 13 (some u13)) 12 (some u12)) 11 (some u11)) 10 (some u10)) 4 (some u4)) 3 (some u3)) 2 (some u2)) 1 (some u1)) 0 (some u0)) H n []
noncomputable def T121_3(m1:Nat):=fun(u0 u1 u2 u3 u4 u10 u11 u12 u13 u14:Value) (H:Hp) (n:Nat)=>labK (bZ P cal (aZ P cal m1) none 121 (cR (cR (cR (cR (cR (cR (cL (cL (cL (cR (cR EJ))))))))))) (Lv.b (Lv.b (Lv.b (Lv.b (Lv.b (Lv.b (Lv.a (Lv.a (Lv.a (Lv.b (Lv.b (A 121)))))))))))) (Cx cal k m1) (Iy cal k m1) (ay P lk)) (Tr.set (Tr.set (Tr.set (Tr.set (Tr.set (Tr.set (Tr.set (Tr.set (Tr.set (Tr.set Tr.nil 14 (some u14)) 13 (some u13)) 12 (some u12)) 11 (some u11)) 10 (some u10)) 4 (some u4)) 3 (some u3)) 2 (some u2)) 1 (some u1)) 0 (some u0)) H n []
noncomputable def T121_2(m1:Nat):=fun(u0 u1 u2 u3 u4 u10 u11 u12:Value) (H:Hp) (n:Nat)=>labK (bZ P cal (aZ P cal m1) none 121 (cR (cR (cR (cR (cL (cL (cL (cR (cR EJ))))))))) (Lv.b (Lv.b (Lv.b (Lv.b (Lv.a (Lv.a (Lv.a (Lv.b (Lv.b (A 121)))))))))) (Cx cal k m1) (Iy cal k m1) (ay P lk)) (Tr.set (Tr.set (Tr.set (Tr.set (Tr.set (Tr.set (Tr.set (Tr.set Tr.nil 12 (some u12)) 11 (some u11)) 10 (some u10)) 4 (some u4)) 3 (some u3)) 2 (some u2)) 1 (some u1)) 0 (some u0)) H n []
noncomputable def T121_1(m1:Nat):=fun(u0 u1 u2 u3 u4 u10 u11:Value) (H:Hp) (n:Nat)=>labK (bZ P cal (aZ P cal m1) none 121 (cL (cL (cR (cR EJ)))) (Lv.a (Lv.a (Lv.b (Lv.b (A 121))))) (Cx cal k m1) (JQ cal k) (ay P lk)) (Tr.set (Tr.set (Tr.set (Tr.set (Tr.set (Tr.set (Tr.set Tr.nil 11 (some u11)) 10 (some u10)) 4 (some u4)) 3 (some u3)) 2 (some u2)) 1 (some u1)) 0 (some u0)) H n []
noncomputable def OV(m1:Nat):V7:=fun u0 u1 u2 u3 u4 u10 u11 H n=>aZ P cal m1 (Lv.a (Lv.b (Lv.b (A 121)))) none 121 (cL (cR (cR EJ))) (ay P lk) (JQ cal k) (ay P lk) (Tr.set (Tr.set (Tr.set (Tr.set (Tr.set (Tr.set (Tr.set Tr.nil 11 (some u11)) 10 (some u10)) 4 (some u4)) 3 (some u3)) 2 (some u2)) 1 (some u1)) 0 (some u0)) H n []
noncomputable def B121_4(cal:Cal)(k m1:Nat)(b1:V7)(u0 u1 u2 u3 u4 u10 u11 u12 u13:Value)(H:Hp)(n:Nat):Res:=
binK P BinOp.gtr 3 (Operand.tmp 81) (Operand.const (Value.int IntKind.i64 0)) u1 (Value.int IntKind.i64 0) fun v_12=>
fq v_12 true (fun k_14=>
k_14 u4 .p H n) .p H n fun v_15 x_16 H_17 n_18=>
fq v_12 true (fun k_1a=>
k_1a u0 .p H_17 n_18) .p H_17 n_18 fun v_1b x_1c H_1d n_1e=>
fq v_12 true (fun k_1g=>
k_1g u1 .p H_1d n_1e) .p H_1d n_1e fun v_1h x_1i H_1j n_1k=>
fq v_12 true (fun k_1m=>
binK P BinOp.sub 3 (Operand.tmp 86) (Operand.const (Value.int IntKind.i64 1)) v_1h (Value.int IntKind.i64 1) fun v_1r=>
k_1m v_1r .p H_1j n_1k) .p H_1j n_1k fun v_1n x_1o H_1p n_1q=>
fq v_12 true (fun k_1s=>
bindO (aQ P 98 v_1b v_1n) fun v_1x=>
k_1s v_1x .p H_1p n_1q) .p H_1p n_1q fun v_1t x_1u H_1v n_1w=>
fq v_12 true (fun k_1y=>
bindO (aY v_1t) fun a_23=>bindO (aJ P H_1v 106 a_23) fun v_24=>
k_1y v_24 (.l 106 a_23) H_1v n_1w) .p H_1v n_1w fun v_1z x_20 H_21 n_22=>
fq v_12 true (fun k_25=>
k_25 u0 .p H_21 n_22) .p H_21 n_22 fun v_26 x_27 H_28 n_29=>
fq v_12 true (fun k_2b=>
k_2b u13 .p H_28 n_29) .p H_28 n_29 fun v_2c x_2d H_2e n_2f=>
fq v_12 true (fun k_2h=>
bindO (aQ P 98 v_26 v_2c) fun v_2m=>
k_2h v_2m .p H_2e n_2f) .p H_2e n_2f fun v_2i x_2j H_2k n_2l=>
fq v_12 true (fun k_2n=>
bindO (aY v_2i) fun a_2s=>bindO (aJ P H_2k 106 a_2s) fun v_2t=>
k_2n v_2t (.l 106 a_2s) H_2k n_2l) .p H_2k n_2l fun v_2o x_2p H_2q n_2r=>
fq v_12 true (fun k_2u=>
iW P cal v_15 [v_1z,v_2o] H_2q n_2r fun v_2z H_30 n_31=>
k_2u v_2z .e H_30 n_31) .e H_2q n_2r fun v_2v x_2w H_2x n_2y=>
fq v_12 true (fun k_32=>
binK P BinOp.lss 3 (Operand.tmp 94) (Operand.const (Value.int IntKind.i64 0)) v_2v (Value.int IntKind.i64 0) fun v_37=>
k_32 v_37 .p H_2x n_2y) .p H_2x n_2y fun v_33 x_34 H_35 n_36=>
fq v_12 true (fun k_38=>
bindO (dX P v_33 (Op.unary UnOp.not v_33)) fun v_3d=>
k_38 v_3d .p H_35 n_36) .p H_35 n_36 fun v_39 x_3a H_3b n_3c=>
bindO (fX v_12 v_39 (Value.bool false)) fun v_3e=>
ifK v_3e (
aK P cal 136 [u0,u1,u2,u13,u4] H_3b n_3c fun v_3k H_3l n_3m=>
b1 u0 v_3k u2 u3 u4 u10 u11 H_3l n_3m) (
aK P cal 137 [u0,u1,u2,u13,u4] H_3b n_3c fun v_3v H_3w n_3x=>
bindO (tupV v_3v 0) fun v_3z=>
bindO (tupV v_3v 1) fun v_40=>
binK P BinOp.sub 3 (Operand.tmp 115) (Operand.tmp 116) v_3z u1 fun v_47=>
binK P BinOp.sub 3 (Operand.tmp 118) (Operand.tmp 119) u2 v_3z fun v_4a=>
binK P BinOp.quo 3 (Operand.tmp 121) (Operand.const (Value.int IntKind.i64 8)) u12 (Value.int IntKind.i64 8) fun v_4e=>
binK P BinOp.lss 3 (Operand.tmp 123) (Operand.tmp 124) v_47 v_4a fun v_4i=>
ifK v_4i (
binK P BinOp.geq 3 (Operand.tmp 126) (Operand.tmp 127) v_47 v_4e fun v_4l=>
aK P cal 121 [u0,u1,v_3z,u3,u4] H_3w n_3x fun v_4s H_4t n_4u=>
binK P BinOp.add 3 (Operand.tmp 135) (Operand.const (Value.int IntKind.i64 1)) v_3z (Value.int IntKind.i64 1) fun v_4w=>
b1 u0 v_4w u2 u3 u4 v_4l v_40 H_4t n_4u) (
binK P BinOp.geq 3 (Operand.tmp 137) (Operand.tmp 138) v_4a v_4e fun v_50=>
binK P BinOp.add 3 (Operand.tmp 141) (Operand.const (Value.int IntKind.i64 1)) v_3z (Value.int IntKind.i64 1) fun v_54=>
aK P cal 121 [u0,v_54,u2,u3,u4] H_3w n_3x fun v_58 H_59 n_5a=>
b1 u0 u1 v_3z u3 u4 v_50 v_40 H_59 n_5a))
noncomputable def C121_4(m1:Nat):=B121_4 cal k m1
theorem h121_4(m1:Nat):T121_4 cal k m1=C121_4 cal k m1 (OV cal k m1):=by kernel_rfl
noncomputable def B121_3(cal:Cal)(k m1:Nat)(j4:V9)(b1:V7)(u0 u1 u2 u3 u4 u10 u11 u12 u13 u14:Value)(H:Hp)(n:Nat):Res:=
bx u10 true (fun k_5f=>
k_5f u11 H n) H n fun v_5g H_5h n_5i=>
bindO (fX u10 v_5g (Value.bool false)) fun v_5k=>
bx v_5k true (fun k_5m=>
k_5m u14 H_5h n_5i) H_5h n_5i fun v_5n H_5o n_5p=>
bx v_5k true (fun k_5r=>
binK P BinOp.eql 191 (Operand.tmp 73) (Operand.const (Value.int IntKind.i64 1)) v_5n (Value.int IntKind.i64 1) fun v_5v=>
k_5r v_5v H_5o n_5p) H_5o n_5p fun v_5s H_5t n_5u=>
bindO (fX v_5k v_5s (Value.bool false)) fun v_5w=>
ifK v_5w (
aK P cal 135 [u0,u1,u2,u4] H_5t n_5u fun v_61 H_62 n_63=>
ifK v_61 (
some ((Value.tuple ⟨[]⟩),H_62,n_63)) (
j4 u0 u1 u2 u3 u4 u10 u11 u12 u13 H_62 n_63)) (
j4 u0 u1 u2 u3 u4 u10 u11 u12 u13 H_5t n_5u)
noncomputable def C121_3(m1:Nat)(b1:V7):=B121_3 cal k m1 (C121_4 cal k m1 b1) b1
theorem h121_3(m1:Nat):T121_3 cal k m1=C121_3 cal k m1 (OV cal k m1):=Eq.trans (b:=B121_3 cal k m1 (T121_4 cal k m1) (OV cal k m1)) (by kernel_rfl) (by rw[h121_4]; rfl)
noncomputable def B121_2(cal:Cal)(k m1:Nat)(j3:V10)(b1:V7)(u0 u1 u2 u3 u4 u10 u11 u12:Value)(H:Hp)(n:Nat):Res:=
aK P cal 133 [u0,u1,u2,u4] H n fun v_t H_u n_v=>
bindO (tupV v_t 0) fun v_x=>
bindO (tupV v_t 1) fun v_y=>
binK P BinOp.eql 191 (Operand.tmp 55) (Operand.const (Value.int IntKind.i64 2)) v_y (Value.int IntKind.i64 2) fun v_65=>
ifK v_65 (
aK P cal 134 [u0,u1,u2,u4] H_u n_v fun v_6a H_6b n_6c=>
binK P BinOp.sub 3 (Operand.tmp 62) (Operand.const (Value.int IntKind.i64 1)) u2 (Value.int IntKind.i64 1) fun v_6e=>
binK P BinOp.sub 3 (Operand.tmp 64) (Operand.tmp 65) v_x u1 fun v_6h=>
binK P BinOp.sub 3 (Operand.tmp 63) (Operand.tmp 66) v_6e v_6h fun v_6i=>
j3 u0 u1 u2 u3 u4 u10 u11 u12 v_6i (Value.int IntKind.i64 1) H_6b n_6c) (
j3 u0 u1 u2 u3 u4 u10 u11 u12 v_x v_y H_u n_v)
noncomputable def C121_2(m1:Nat)(b1:V7):=B121_2 cal k m1 (C121_3 cal k m1 b1) b1
theorem h121_2(m1:Nat):T121_2 cal k m1=C121_2 cal k m1 (OV cal k m1):=Eq.trans (b:=B121_2 cal k m1 (T121_3 cal k m1) (OV cal k m1)) (by kernel_rfl) (by rw[h121_3]; rfl)
noncomputable def B121_1(cal:Cal)(k m1:Nat)(j2:V8)(b1:V7)(u0 u1 u2 u3 u4 u10 u11:Value)(H:Hp)(n:Nat):Res:=
binK P BinOp.sub 3 (Operand.tmp 21) (Operand.tmp 22) u2 u1 fun v_5=>
binK P BinOp.leq 3 (Operand.tmp 24) (Operand.const (Value.int IntKind.i64 12)) v_5 (Value.int IntKind.i64 12) fun v_8=>
ifK v_8 (
aK P cal 130 [u0,u1,u2,u4] H n fun v_d H_e n_f=>
some ((Value.tuple ⟨[]⟩),H_e,n_f)) (
binK P BinOp.eql 3 (Operand.tmp 31) (Operand.const (Value.int IntKind.i64 0)) u3 (Value.int IntKind.i64 0) fun v_h=>
ifK v_h (
aK P cal 131 [u0,u1,u2,u4] H n fun v_m H_n n_o=>
some ((Value.tuple ⟨[]⟩),H_n,n_o)) (
bindO (dX P u10 (Op.unary UnOp.not u10)) fun v_6m=>
ifK v_6m (
aK P cal 132 [u0,u1,u2,u4] H n fun v_6r H_6s n_6t=>
binK P BinOp.sub 3 (Operand.tmp 45) (Operand.const (Value.int IntKind.i64 1)) u3 (Value.int IntKind.i64 1) fun v_6v=>
j2 u0 u1 u2 v_6v u4 u10 u11 v_5 H_6s n_6t) (
j2 u0 u1 u2 u3 u4 u10 u11 v_5 H n)))
noncomputable def C121_1(m1:Nat)(b1:V7):=B121_1 cal k m1 (C121_2 cal k m1 b1) b1
noncomputable def S121_1:Nat→V7:=recF (C121_1 cal k) (fun _ _ _ _ _ _ _ _ _=>none)
theorem h121_1(m1:Nat):T121_1 cal k m1=C121_1 cal k m1 (OV cal k m1):=Eq.trans (b:=B121_1 cal k m1 (T121_2 cal k m1) (OV cal k m1)) (by kernel_rfl) (by rw[h121_2]; rfl)
theorem q121_1(m:Nat):T121_1 cal k m=S121_1 cal k m:=recS (h121_1 cal k) (by kernel_rfl) (fun m=>by kernel_rfl) m
noncomputable def B121_0(cal:Cal)(k:Nat)(j1:V7)(v0 v1 v2 v3 v4:Value)(H:Hp)(n:Nat):Res:=
j1 v0 v1 v2 v3 v4 (Value.bool true) (Value.bool true) H n
noncomputable def C121_0:=B121_0 cal k (S121_1 cal k k)
theorem h121_0(v0 v1 v2 v3 v4:Value)(H:Hp)(n:Nat):aX P cal A (k+1) 121 [v0,v1,v2,v3,v4] H n=C121_0 cal k v0 v1 v2 v3 v4 H n:=(bq Go.Proofs.Tryz.f121 EJ lk (by kernel_rfl)).trans (Eq.trans (b:=B121_0 cal k (T121_1 cal k k) v0 v1 v2 v3 v4 H n) (by kernel_rfl) (by rw[q121_1]; rfl))
noncomputable def code122:Code:=ak 122
noncomputable def results122:List ResultVar:=bw 122
noncomputable def B122_0(cal:Cal)(k:Nat)(v0:Value)(H:Hp)(n:Nat):Res:=
ifK (Value.bool false) (
bindO (dX P v0 (convert 80 187 v0)) fun v_3=>
aK P cal 138 [v_3] H n fun v_4 H_5 n_6=>
some (v_4,H_5,n_6)) (
aK P cal 139 [v0] H n fun v_9 H_a n_b=>
some (v_9,H_a,n_b))
noncomputable def C122_0:=B122_0 cal k
theorem h122_0(v0:Value)(H:Hp)(n:Nat):aX P cal A (k+1) 122 [v0] H n=C122_0 cal k v0 H n:=(bq Go.Proofs.Tryz.f122 code122 results122 (by kernel_rfl)).trans (by kernel_rfl)
noncomputable def code123:Code:=ak 123
noncomputable def results123:List ResultVar:=bw 123
noncomputable def B123_0(cal:Cal)(k:Nat)(v0 v1:Value)(H:Hp)(n:Nat):Res:=
aK P cal 99 [v0] H n fun v_3 H_4 n_5=>
aK P cal 99 [v1] H_4 n_5 fun v_7 H_8 n_9=>
aK P cal 92 [v_3,v_7] H_8 n_9 fun v_a H_b n_c=>
some (v_a,H_b,n_c)
noncomputable def C123_0:=B123_0 cal k
theorem h123_0(v0 v1:Value)(H:Hp)(n:Nat):aX P cal A (k+1) 123 [v0,v1] H n=C123_0 cal k v0 v1 H n:=(bq Go.Proofs.Tryz.f123 code123 results123 (by kernel_rfl)).trans (by kernel_rfl)
noncomputable def code124:Code:=ak 124
noncomputable def results124:List ResultVar:=bw 124
noncomputable def B124_0(cal:Cal)(k:Nat)(v0 v1:Value)(H:Hp)(n:Nat):Res:=
binK P BinOp.xor 106 (Operand.tmp 7) (Operand.tmp 8) v0 v1 fun v_4=>
bindO (dX P v_4 (Op.unary UnOp.neg v_4)) fun v_8=>
binK P BinOp.and 106 (Operand.tmp 10) (Operand.tmp 12) v_4 v_8 fun v_9=>
binK P BinOp.and 106 (Operand.tmp 14) (Operand.tmp 15) v1 v_9 fun v_d=>
binK P BinOp.and 106 (Operand.tmp 17) (Operand.tmp 18) v0 v_9 fun v_g=>
aK P cal 140 [v_d,v_g] H n fun v_h H_i n_j=>
some (v_h,H_i,n_j)
noncomputable def C124_0:=B124_0 cal k
theorem h124_0(v0 v1:Value)(H:Hp)(n:Nat):aX P cal A (k+1) 124 [v0,v1] H n=C124_0 cal k v0 v1 H n:=(bq Go.Proofs.Tryz.f124 code124 results124 (by kernel_rfl)).trans (by kernel_rfl)
noncomputable def QX:Code:=ak 125
noncomputable def uV:List ResultVar:=bw 125
noncomputable def qov:KR:=(cutK (Lv.b (Lv.b (A 125))).c (bZ P cal (aZ P cal k) none 125 (cR (cR (cR QX))) (Lv.b (Lv.b (Lv.b (A 125)))) (ay P uV) X0 (ay P uV)))
noncomputable def Iz:XR:=(upX 0 (qov cal k) X0)
noncomputable def K125_prrlrl(m1:Nat):KR:=(fun T H n D=>aZ P cal m1 (Lv.a (Lv.b (Lv.a (Lv.b (Lv.b (A 125)))))) none 125 (cL (cR (cL (cR (cR QX))))) (qov cal k) (Iz cal k) (ay P uV) (cutT (Lv.a (Lv.b (Lv.a (Lv.b (Lv.b (A 125)))))).c T) H n D)
noncomputable def T125_1(m1:Nat):=fun(u3 u6 u7 u8:Value) (H:Hp) (n:Nat)=>labK (bZ P cal (aZ P cal m1) none 125 (cL (cL (cR (cL (cR (cR QX)))))) (Lv.a (Lv.a (Lv.b (Lv.a (Lv.b (Lv.b (A 125))))))) (K125_prrlrl cal k m1) (Iz cal k) (ay P uV)) (Tr.set (Tr.set (Tr.set (Tr.set Tr.nil 8 (some u8)) 7 (some u7)) 6 (some u6)) 3 (some u3)) H n []
noncomputable def R125_1(m1:Nat):V4:=fun u3 u6 u7 u8 H n=>aZ P cal m1 (Lv.a (Lv.b (Lv.a (Lv.b (Lv.b (A 125)))))) none 125 (cL (cR (cL (cR (cR QX))))) (qov cal k) (Iz cal k) (ay P uV) (Tr.set (Tr.set (Tr.set (Tr.set Tr.nil 8 (some u8)) 7 (some u7)) 6 (some u6)) 3 (some u3)) H n []
noncomputable def B125_1(cal:Cal)(k m1:Nat)(b1:V4)(u3 u6 u7 u8:Value)(H:Hp)(n:Nat):Res:=
binK P BinOp.lss 3 (Operand.tmp 8) (Operand.tmp 7) u8 u7 fun v_6=>
ifK v_6 (
bindO (aQ P 27 u6 u8) fun v_7=>
bindO (aY v_7) fun a_9=>bindO (aJ P H 3 a_9) fun v_8=>
binK P BinOp.neq 3 (Operand.tmp 12) (Operand.tmp 13) v_8 u3 fun v_d=>
ifK v_d (
some (v_8,H,n)) (
binK P BinOp.add 3 (Operand.tmp 8) (Operand.const (Value.int IntKind.i64 1)) u8 (Value.int IntKind.i64 1) fun v_g=>
b1 u3 u6 u7 v_g H n)) (
some (u3,H,n))
noncomputable def C125_1(m1:Nat):=B125_1 cal k m1
noncomputable def S125_1:Nat→V4:=recF (C125_1 cal k) (fun _ _ _ _ _ _=>none)
theorem h125_1(m1:Nat):T125_1 cal k m1=C125_1 cal k m1 (R125_1 cal k m1):=by kernel_rfl
theorem q125_1(m:Nat):T125_1 cal k m=S125_1 cal k m:=recS (h125_1 cal k) (by kernel_rfl) (fun m=>by kernel_rfl) m
noncomputable def B125_0(cal:Cal)(k:Nat)(j1:V4)(v0:Value)(H:Hp)(n:Nat):Res:=
bindO (lenV P 27 v0) fun v_4=>
j1 (Value.int IntKind.i64 0) v0 v_4 (Value.int IntKind.i64 0) H n
noncomputable def C125_0:=B125_0 cal k (S125_1 cal k k)
theorem h125_0(v0:Value)(H:Hp)(n:Nat):aX P cal A (k+1) 125 [v0] H n=C125_0 cal k v0 H n:=(bq Go.Proofs.Tryz.f125 QX uV (by kernel_rfl)).trans (Eq.trans (b:=B125_0 cal k (T125_1 cal k k) v0 H n) (by kernel_rfl) (by rw[q125_1]; rfl))
noncomputable def code126:Code:=ak 126
noncomputable def results126:List ResultVar:=bw 126
noncomputable def B126_0(cal:Cal)(k:Nat)(v0:Value)(H:Hp)(n:Nat):Res:=
binK P BinOp.shr 187 (Operand.tmp 3) (Operand.const (Value.int IntKind.u64 24)) v0 (Value.int IntKind.u64 24) fun v_3=>
bindO (vk P 9 (Value.string (ByteArray.mk #[0,1,1,2,1,2,2,3,1,2,2,3,2,3,3,4,1,2,2,3,2,3,3,4,2,3,3,4,3,4,4,5,1,2,2,3,2,3,3,4,2,3,3,4,3,4,4,5,2,3,3,4,3,4,4,5,3,4,4,5,4,5,5,6,1,2,2,3,2,3,3,4,2,3,3,4,3,4,4,5,2,3,3,4,3,4,4,5,3,4,4,5,4,5,5,6,2,3,3,4,3,4,4,5,3,4,4,5,4,5,5,6,3,4,4,5,4,5,5,6,4,5,5,6,5,6,6,7,1,2,2,3,2,3,3,4,2,3,3,4,3,4,4,5,2,3,3,4,3,4,4,5,3,4,4,5,4,5,5,6,2,3,3,4,3,4,4,5,3,4,4,5,4,5,5,6,3,4,4,5,4,5,5,6,4,5,5,6,5,6,6,7,2,3,3,4,3,4,4,5,3,4,4,5,4,5,5,6,3,4,4,5,4,5,5,6,4,5,5,6,5,6,6,7,3,4,4,5,4,5,5,6,4,5,5,6,5,6,6,7,4,5,5,6,5,6,6,7,5,6,6,7,6,7,7,8])) v_3) fun v_4=>
binK P BinOp.shr 187 (Operand.tmp 6) (Operand.const (Value.int IntKind.u64 16)) v0 (Value.int IntKind.u64 16) fun v_6=>
binK P BinOp.and 187 (Operand.tmp 7) (Operand.const (Value.int IntKind.u32 255)) v_6 (Value.int IntKind.u32 255) fun v_7=>
bindO (vk P 9 (Value.string (ByteArray.mk #[0,1,1,2,1,2,2,3,1,2,2,3,2,3,3,4,1,2,2,3,2,3,3,4,2,3,3,4,3,4,4,5,1,2,2,3,2,3,3,4,2,3,3,4,3,4,4,5,2,3,3,4,3,4,4,5,3,4,4,5,4,5,5,6,1,2,2,3,2,3,3,4,2,3,3,4,3,4,4,5,2,3,3,4,3,4,4,5,3,4,4,5,4,5,5,6,2,3,3,4,3,4,4,5,3,4,4,5,4,5,5,6,3,4,4,5,4,5,5,6,4,5,5,6,5,6,6,7,1,2,2,3,2,3,3,4,2,3,3,4,3,4,4,5,2,3,3,4,3,4,4,5,3,4,4,5,4,5,5,6,2,3,3,4,3,4,4,5,3,4,4,5,4,5,5,6,3,4,4,5,4,5,5,6,4,5,5,6,5,6,6,7,2,3,3,4,3,4,4,5,3,4,4,5,4,5,5,6,3,4,4,5,4,5,5,6,4,5,5,6,5,6,6,7,3,4,4,5,4,5,5,6,4,5,5,6,5,6,6,7,4,5,5,6,5,6,6,7,5,6,6,7,6,7,7,8])) v_7) fun v_8=>
binK P BinOp.add 5 (Operand.tmp 5) (Operand.tmp 9) v_4 v_8 fun v_9=>
binK P BinOp.shr 187 (Operand.tmp 11) (Operand.const (Value.int IntKind.u64 8)) v0 (Value.int IntKind.u64 8) fun v_b=>
binK P BinOp.and 187 (Operand.tmp 12) (Operand.const (Value.int IntKind.u32 255)) v_b (Value.int IntKind.u32 255) fun v_c=>
bindO (vk P 9 (Value.string (ByteArray.mk #[0,1,1,2,1,2,2,3,1,2,2,3,2,3,3,4,1,2,2,3,2,3,3,4,2,3,3,4,3,4,4,5,1,2,2,3,2,3,3,4,2,3,3,4,3,4,4,5,2,3,3,4,3,4,4,5,3,4,4,5,4,5,5,6,1,2,2,3,2,3,3,4,2,3,3,4,3,4,4,5,2,3,3,4,3,4,4,5,3,4,4,5,4,5,5,6,2,3,3,4,3,4,4,5,3,4,4,5,4,5,5,6,3,4,4,5,4,5,5,6,4,5,5,6,5,6,6,7,1,2,2,3,2,3,3,4,2,3,3,4,3,4,4,5,2,3,3,4,3,4,4,5,3,4,4,5,4,5,5,6,2,3,3,4,3,4,4,5,3,4,4,5,4,5,5,6,3,4,4,5,4,5,5,6,4,5,5,6,5,6,6,7,2,3,3,4,3,4,4,5,3,4,4,5,4,5,5,6,3,4,4,5,4,5,5,6,4,5,5,6,5,6,6,7,3,4,4,5,4,5,5,6,4,5,5,6,5,6,6,7,4,5,5,6,5,6,6,7,5,6,6,7,6,7,7,8])) v_c) fun v_d=>
binK P BinOp.add 5 (Operand.tmp 10) (Operand.tmp 14) v_9 v_d fun v_e=>
binK P BinOp.and 187 (Operand.tmp 16) (Operand.const (Value.int IntKind.u32 255)) v0 (Value.int IntKind.u32 255) fun v_g=>
bindO (vk P 9 (Value.string (ByteArray.mk #[0,1,1,2,1,2,2,3,1,2,2,3,2,3,3,4,1,2,2,3,2,3,3,4,2,3,3,4,3,4,4,5,1,2,2,3,2,3,3,4,2,3,3,4,3,4,4,5,2,3,3,4,3,4,4,5,3,4,4,5,4,5,5,6,1,2,2,3,2,3,3,4,2,3,3,4,3,4,4,5,2,3,3,4,3,4,4,5,3,4,4,5,4,5,5,6,2,3,3,4,3,4,4,5,3,4,4,5,4,5,5,6,3,4,4,5,4,5,5,6,4,5,5,6,5,6,6,7,1,2,2,3,2,3,3,4,2,3,3,4,3,4,4,5,2,3,3,4,3,4,4,5,3,4,4,5,4,5,5,6,2,3,3,4,3,4,4,5,3,4,4,5,4,5,5,6,3,4,4,5,4,5,5,6,4,5,5,6,5,6,6,7,2,3,3,4,3,4,4,5,3,4,4,5,4,5,5,6,3,4,4,5,4,5,5,6,4,5,5,6,5,6,6,7,3,4,4,5,4,5,5,6,4,5,5,6,5,6,6,7,4,5,5,6,5,6,6,7,5,6,6,7,6,7,7,8])) v_g) fun v_h=>
binK P BinOp.add 5 (Operand.tmp 15) (Operand.tmp 18) v_e v_h fun v_i=>
bindO (dX P v_i (convert 5 3 v_i)) fun v_j=>
some (v_j,H,n)
noncomputable def C126_0:=B126_0 cal k
theorem h126_0(v0:Value)(H:Hp)(n:Nat):aX P cal A (k+1) 126 [v0] H n=C126_0 cal k v0 H n:=(bq Go.Proofs.Tryz.f126 code126 results126 (by kernel_rfl)).trans (by kernel_rfl)
end Go.Proofs.YtnnkcjolgbpklaaGreat.G
end
end
section
open Go Go.Ev
set_option maxRecDepth 1000000
noncomputable section
namespace Go.Proofs.YtnnkcjolgbpklaaGreat.G
variable (cal:Cal) (k:Nat)
noncomputable def code127:Code:=ak 127
noncomputable def Nw:List ResultVar:=bw 127
noncomputable def B127_0(cal:Cal)(k:Nat)(v0:Value)(H:Hp)(n:Nat):Res:=
binK P BinOp.shr 189 (Operand.tmp 3) (Operand.const (Value.int IntKind.u64 1)) v0 (Value.int IntKind.u64 1) fun v_3=>
binK P BinOp.and 189 (Operand.tmp 4) (Operand.const (Value.int IntKind.u64 6148914691236517205)) v_3 (Value.int IntKind.u64 6148914691236517205) fun v_4=>
binK P BinOp.and 189 (Operand.tmp 6) (Operand.const (Value.int IntKind.u64 6148914691236517205)) v0 (Value.int IntKind.u64 6148914691236517205) fun v_6=>
binK P BinOp.add 189 (Operand.tmp 5) (Operand.tmp 7) v_4 v_6 fun v_7=>
binK P BinOp.shr 189 (Operand.tmp 9) (Operand.const (Value.int IntKind.u64 2)) v_7 (Value.int IntKind.u64 2) fun v_a=>
binK P BinOp.and 189 (Operand.tmp 10) (Operand.const (Value.int IntKind.u64 3689348814741910323)) v_a (Value.int IntKind.u64 3689348814741910323) fun v_b=>
binK P BinOp.and 189 (Operand.tmp 12) (Operand.const (Value.int IntKind.u64 3689348814741910323)) v_7 (Value.int IntKind.u64 3689348814741910323) fun v_d=>
binK P BinOp.add 189 (Operand.tmp 11) (Operand.tmp 13) v_b v_d fun v_e=>
binK P BinOp.shr 189 (Operand.tmp 15) (Operand.const (Value.int IntKind.u64 4)) v_e (Value.int IntKind.u64 4) fun v_h=>
binK P BinOp.add 189 (Operand.tmp 16) (Operand.tmp 17) v_h v_e fun v_j=>
binK P BinOp.and 189 (Operand.tmp 18) (Operand.const (Value.int IntKind.u64 1085102592571150095)) v_j (Value.int IntKind.u64 1085102592571150095) fun v_k=>
binK P BinOp.shr 189 (Operand.tmp 21) (Operand.const (Value.int IntKind.u64 8)) v_k (Value.int IntKind.u64 8) fun v_o=>
binK P BinOp.add 189 (Operand.tmp 20) (Operand.tmp 22) v_k v_o fun v_p=>
binK P BinOp.shr 189 (Operand.tmp 25) (Operand.const (Value.int IntKind.u64 16)) v_p (Value.int IntKind.u64 16) fun v_t=>
binK P BinOp.add 189 (Operand.tmp 24) (Operand.tmp 26) v_p v_t fun v_u=>
binK P BinOp.shr 189 (Operand.tmp 29) (Operand.const (Value.int IntKind.u64 32)) v_u (Value.int IntKind.u64 32) fun v_y=>
binK P BinOp.add 189 (Operand.tmp 28) (Operand.tmp 30) v_u v_y fun v_z=>
bindO (dX P v_z (convert 189 3 v_z)) fun v_12=>
binK P BinOp.and 3 (Operand.tmp 33) (Operand.const (Value.int IntKind.i64 127)) v_12 (Value.int IntKind.i64 127) fun v_13=>
some (v_13,H,n)
noncomputable def DW:=B127_0 cal k
theorem h127_0(v0:Value)(H:Hp)(n:Nat):aX P cal A (k+1) 127 [v0] H n=DW cal k v0 H n:=(bq Go.Proofs.Tryz.f127 code127 Nw (by kernel_rfl)).trans (by kernel_rfl)
noncomputable def code128:Code:=ak 128
noncomputable def Ny:List ResultVar:=bw 128
noncomputable def B128_0(cal:Cal)(k:Nat)(v0 v1:Value)(H:Hp)(n:Nat):Res:=
boxK 39 v0 H n fun v_1 H_2 n_3=>
binK P BinOp.geq 3 (Operand.tmp 5) (Operand.const (Value.int IntKind.i64 0)) v1 (Value.int IntKind.i64 0) fun v_6=>
bx v_6 true (fun k_8=>
k_8 v1 H_2 n_3) H_2 n_3 fun v_9 H_a n_b=>
bx v_6 true (fun k_d=>
bindO (ax P 39 v_1 0) fun v_h=>
k_d v_h H_a n_b) H_a n_b fun v_e H_f n_g=>
bx v_6 true (fun k_i=>
bindO (aY v_e) fun a_n=>bindO (aJ P H_f 35 a_n) fun v_m=>
k_i v_m H_f n_g) H_f n_g fun v_j H_k n_l=>
bx v_6 true (fun k_o=>
bindO (lenV P 35 v_j) fun v_s=>
k_o v_s H_k n_l) H_k n_l fun v_p H_q n_r=>
bx v_6 true (fun k_t=>
binK P BinOp.lss 3 (Operand.tmp 8) (Operand.tmp 11) v_9 v_p fun v_x=>
k_t v_x H_q n_r) H_q n_r fun v_u H_v n_w=>
bindO (fX v_6 v_u (Value.bool false)) fun v_y=>
some (v_y,H_v,n_w)
noncomputable def UJ:=B128_0 cal k
theorem h128_0(v0 v1:Value)(H:Hp)(n:Nat):aX P cal A (k+1) 128 [v0,v1] H n=UJ cal k v0 v1 H n:=(bq Go.Proofs.Tryz.f128 code128 Ny (by kernel_rfl)).trans (by kernel_rfl)
noncomputable def code129:Code:=ak 129
noncomputable def Nz:List ResultVar:=bw 129
noncomputable def B129_0(cal:Cal)(k:Nat)(v0:Value)(H:Hp)(n:Nat):Res:=
boxK 126 v0 H n fun v_1 H_2 n_3=>
bindO (ax P 126 v_1 0) fun v_5=>
bindO (aY v_5) fun a_7=>bindO (aJ P H_2 3 a_7) fun v_6=>
binK P BinOp.geq 3 (Operand.tmp 4) (Operand.const (Value.int IntKind.i64 0)) v_6 (Value.int IntKind.i64 0) fun v_8=>
bx v_8 true (fun k_a=>
bindO (ax P 126 v_1 0) fun v_e=>
k_a v_e H_2 n_3) H_2 n_3 fun v_b H_c n_d=>
bx v_8 true (fun k_f=>
bindO (aY v_b) fun a_k=>bindO (aJ P H_c 3 a_k) fun v_j=>
k_f v_j H_c n_d) H_c n_d fun v_g H_h n_i=>
bx v_8 true (fun k_l=>
bindO (ax P 126 v_1 1) fun v_p=>
k_l v_p H_h n_i) H_h n_i fun v_m H_n n_o=>
bx v_8 true (fun k_q=>
bindO (aY v_m) fun a_v=>bindO (aJ P H_n 3 a_v) fun v_u=>
k_q v_u H_n n_o) H_n n_o fun v_r H_s n_t=>
bx v_8 true (fun k_w=>
binK P BinOp.leq 3 (Operand.tmp 8) (Operand.tmp 10) v_g v_r fun v_10=>
k_w v_10 H_s n_t) H_s n_t fun v_x H_y n_z=>
bindO (fX v_8 v_x (Value.bool false)) fun v_11=>
bx v_11 true (fun k_13=>
bindO (ax P 126 v_1 1) fun v_17=>
k_13 v_17 H_y n_z) H_y n_z fun v_14 H_15 n_16=>
bx v_11 true (fun k_18=>
bindO (aY v_14) fun a_1d=>bindO (aJ P H_15 3 a_1d) fun v_1c=>
k_18 v_1c H_15 n_16) H_15 n_16 fun v_19 H_1a n_1b=>
bx v_11 true (fun k_1e=>
binK P BinOp.leq 3 (Operand.tmp 15) (Operand.const (Value.int IntKind.i64 1000)) v_19 (Value.int IntKind.i64 1000) fun v_1i=>
k_1e v_1i H_1a n_1b) H_1a n_1b fun v_1f H_1g n_1h=>
bindO (fX v_11 v_1f (Value.bool false)) fun v_1j=>
some (v_1j,H_1g,n_1h)
noncomputable def UQ:=B129_0 cal k
theorem h129_0(v0:Value)(H:Hp)(n:Nat):aX P cal A (k+1) 129 [v0] H n=UQ cal k v0 H n:=(bq Go.Proofs.Tryz.f129 code129 Nz (by kernel_rfl)).trans (by kernel_rfl)
noncomputable def Av:Code:=ak 130
noncomputable def jZ:List ResultVar:=bw 130
noncomputable def Ik(cal:Cal)(k:Nat):XR:=(upX 0 (ay P jZ) X0)
noncomputable def K130_prl(m1:Nat):KR:=(fun T H n D=>aZ P cal m1 (Lv.a (Lv.b (A 130))) none 130 (cL (cR Av)) (ay P jZ) (Ik cal k) (ay P jZ) (cutT (Lv.a (Lv.b (A 130))).c T) H n D)
noncomputable def EQ(m1:Nat):KR:=(cutK (Lv.b (Lv.a (Lv.a (Lv.b (A 130))))).c (bZ P cal (aZ P cal m1) none 130 (cR (cR (cL (cL (cR Av))))) (Lv.b (Lv.b (Lv.a (Lv.a (Lv.b (A 130)))))) (K130_prl cal k m1) (Ik cal k) (ay P jZ)))
noncomputable def K130_pxrllrl(m1:Nat):XR:=(upX 1 (EQ cal k m1) (Ik cal k))
noncomputable def zz(m1:Nat):XR:=(upX 2 (EQ cal k m1) (K130_pxrllrl cal k m1))
noncomputable def K130_prllrllrl(m1:Nat)(m2:Nat):KR:=(fun T H n D=>aZ P cal m2 (Lv.a (Lv.b (Lv.a (Lv.a (Lv.b (Lv.a (Lv.a (Lv.b (A 130))))))))) none 130 (cL (cR (cL (cL (cR (cL (cL (cR Av)))))))) (EQ cal k m1) (zz cal k m1) (ay P jZ) (cutT (Lv.a (Lv.b (Lv.a (Lv.a (Lv.b (Lv.a (Lv.a (Lv.b (A 130))))))))).c T) H n D)
noncomputable def T130_2(m1 m2:Nat):=fun(u0 u1 u2 u3 u8 u9:Value) (H:Hp) (n:Nat)=>labK (bZ P cal (aZ P cal m2) none 130 (cL (cL (cR (cL (cL (cR (cL (cL (cR Av))))))))) (Lv.a (Lv.a (Lv.b (Lv.a (Lv.a (Lv.b (Lv.a (Lv.a (Lv.b (A 130)))))))))) (K130_prllrllrl cal k m1 m2) (zz cal k m1) (ay P jZ)) (Tr.set (Tr.set (Tr.set (Tr.set (Tr.set (Tr.set Tr.nil 9 (some u9)) 8 (some u8)) 3 (some u3)) 2 (some u2)) 1 (some u1)) 0 (some u0)) H n []
noncomputable def R130_2(m1 m2:Nat):V6:=fun u0 u1 u2 u3 u8 u9 H n=>aZ P cal m2 (Lv.a (Lv.b (Lv.a (Lv.a (Lv.b (Lv.a (Lv.a (Lv.b (A 130))))))))) none 130 (cL (cR (cL (cL (cR (cL (cL (cR Av)))))))) (EQ cal k m1) (zz cal k m1) (ay P jZ) (Tr.set (Tr.set (Tr.set (Tr.set (Tr.set (Tr.set Tr.nil 9 (some u9)) 8 (some u8)) 3 (some u3)) 2 (some u2)) 1 (some u1)) 0 (some u0)) H n []
noncomputable def T130_1(m1:Nat):=fun(u0 u1 u2 u3 u8:Value) (H:Hp) (n:Nat)=>labK (bZ P cal (aZ P cal m1) none 130 (cL (cL (cR Av))) (Lv.a (Lv.a (Lv.b (A 130)))) (K130_prl cal k m1) (Ik cal k) (ay P jZ)) (Tr.set (Tr.set (Tr.set (Tr.set (Tr.set Tr.nil 8 (some u8)) 3 (some u3)) 2 (some u2)) 1 (some u1)) 0 (some u0)) H n []
noncomputable def R130_1(m1:Nat):V5:=fun u0 u1 u2 u3 u8 H n=>aZ P cal m1 (Lv.a (Lv.b (A 130))) none 130 (cL (cR Av)) (ay P jZ) (Ik cal k) (ay P jZ) (Tr.set (Tr.set (Tr.set (Tr.set (Tr.set Tr.nil 8 (some u8)) 3 (some u3)) 2 (some u2)) 1 (some u1)) 0 (some u0)) H n []
noncomputable def B130_2(cal:Cal)(k m1 m2:Nat)(b1:V5)(b2:V6)(u0 u1 u2 u3 u8 u9:Value)(H:Hp)(n:Nat):Res:=
binK P BinOp.gtr 3 (Operand.tmp 18) (Operand.tmp 19) u9 u1 fun v_b=>
fq v_b true (fun k_d=>
k_d u3 .p H n) .p H n fun v_e x_f H_g n_h=>
fq v_b true (fun k_j=>
k_j u0 .p H_g n_h) .p H_g n_h fun v_k x_l H_m n_n=>
fq v_b true (fun k_p=>
k_p u9 .p H_m n_n) .p H_m n_n fun v_q x_r H_s n_t=>
fq v_b true (fun k_v=>
bindO (aQ P 98 v_k v_q) fun v_10=>
k_v v_10 .p H_s n_t) .p H_s n_t fun v_w x_x H_y n_z=>
fq v_b true (fun k_11=>
bindO (aY v_w) fun a_16=>bindO (aJ P H_y 106 a_16) fun v_17=>
k_11 v_17 (.l 106 a_16) H_y n_z) .p H_y n_z fun v_12 x_13 H_14 n_15=>
fq v_b true (fun k_18=>
k_18 u0 .p H_14 n_15) .p H_14 n_15 fun v_19 x_1a H_1b n_1c=>
fq v_b true (fun k_1e=>
k_1e u9 .p H_1b n_1c) .p H_1b n_1c fun v_1f x_1g H_1h n_1i=>
fq v_b true (fun k_1k=>
binK P BinOp.sub 3 (Operand.tmp 28) (Operand.const (Value.int IntKind.i64 1)) v_1f (Value.int IntKind.i64 1) fun v_1p=>
k_1k v_1p .p H_1h n_1i) .p H_1h n_1i fun v_1l x_1m H_1n n_1o=>
fq v_b true (fun k_1q=>
bindO (aQ P 98 v_19 v_1l) fun v_1v=>
k_1q v_1v .p H_1n n_1o) .p H_1n n_1o fun v_1r x_1s H_1t n_1u=>
fq v_b true (fun k_1w=>
bindO (aY v_1r) fun a_21=>bindO (aJ P H_1t 106 a_21) fun v_22=>
k_1w v_22 (.l 106 a_21) H_1t n_1u) .p H_1t n_1u fun v_1x x_1y H_1z n_20=>
fq v_b true (fun k_23=>
iW P cal v_e [v_12,v_1x] H_1z n_20 fun v_28 H_29 n_2a=>
k_23 v_28 .e H_29 n_2a) .e H_1z n_20 fun v_24 x_25 H_26 n_27=>
fq v_b true (fun k_2b=>
binK P BinOp.lss 3 (Operand.tmp 32) (Operand.const (Value.int IntKind.i64 0)) v_24 (Value.int IntKind.i64 0) fun v_2g=>
k_2b v_2g .p H_26 n_27) .p H_26 n_27 fun v_2c x_2d H_2e n_2f=>
bindO (fX v_b v_2c (Value.bool false)) fun v_2h=>
ifK v_2h (
binK P BinOp.sub 3 (Operand.tmp 40) (Operand.const (Value.int IntKind.i64 1)) u9 (Value.int IntKind.i64 1) fun v_2m=>
binK P BinOp.sub 3 (Operand.tmp 43) (Operand.const (Value.int IntKind.i64 1)) u9 (Value.int IntKind.i64 1) fun v_2p=>
bindO (aQ P 98 u0 v_2p) fun v_2q=>
bindO (aY v_2q) fun a_2r=>bindO (aJ P H_2e 106 a_2r) fun v_2s=>
bindO (aQ P 98 u0 u9) fun v_2v=>
bindO (aY v_2v) fun a_2w=>bindO (aJ P H_2e 106 a_2w) fun v_2x=>
bindO (aQ P 98 u0 u9) fun v_2y=>
bindO (dQ P 106 v_2y v_2s H_2e) fun H_30=>
bindO (aQ P 98 u0 v_2m) fun v_31=>
bindO (dQ P 106 v_31 v_2x H_30) fun H_33=>
binK P BinOp.sub 3 (Operand.tmp 35) (Operand.const (Value.int IntKind.i64 1)) u9 (Value.int IntKind.i64 1) fun v_35=>
b2 u0 u1 u2 u3 u8 v_35 H_33 n_2f) (
binK P BinOp.add 3 (Operand.tmp 15) (Operand.const (Value.int IntKind.i64 1)) u8 (Value.int IntKind.i64 1) fun v_38=>
b1 u0 u1 u2 u3 v_38 H_2e n_2f)
noncomputable def C130_2(m1 m2:Nat):=B130_2 cal k m1 m2
noncomputable def S130_2(m1:Nat)(b1:V5):Nat→V6:=fun m=>Nat.rec (motive:=fun _=>V6) (C130_2 cal k m1 0 b1 (fun _ _ _ _ _ _ _ _=>none)) (fun m ih=>C130_2 cal k m1 (m+1) b1 ih) m
theorem h130_2(m1 m2:Nat):T130_2 cal k m1 m2=C130_2 cal k m1 m2 (R130_1 cal k m1) (R130_2 cal k m1 m2):=by kernel_rfl
theorem q130_2(m1:Nat)(m:Nat):T130_2 cal k m1 m=S130_2 cal k m1 (R130_1 cal k m1) m:=recS (h130_2 cal k m1) (by kernel_rfl) (fun m=>by kernel_rfl) m
noncomputable def B130_1(cal:Cal)(k m1:Nat)(j2:V6)(b1:V5)(u0 u1 u2 u3 u8:Value)(H:Hp)(n:Nat):Res:=
binK P BinOp.lss 3 (Operand.tmp 12) (Operand.tmp 13) u8 u2 fun v_6=>
ifK v_6 (
j2 u0 u1 u2 u3 u8 u8 H n) (
some ((Value.tuple ⟨[]⟩),H,n))
noncomputable def C130_1(m1:Nat)(b1:V5):=B130_1 cal k m1 (S130_2 cal k m1 b1 m1) b1
noncomputable def S130_1:Nat→V5:=recF (C130_1 cal k) (fun _ _ _ _ _ _ _=>none)
theorem h130_1(m1:Nat):T130_1 cal k m1=C130_1 cal k m1 (R130_1 cal k m1):=Eq.trans (b:=B130_1 cal k m1 (T130_2 cal k m1 m1) (R130_1 cal k m1)) (by kernel_rfl) (by rw[q130_2]; rfl)
theorem q130_1(m:Nat):T130_1 cal k m=S130_1 cal k m:=recS (h130_1 cal k) (by kernel_rfl) (fun m=>by kernel_rfl) m
noncomputable def B130_0(cal:Cal)(k:Nat)(j1:V5)(v0 v1 v2 v3:Value)(H:Hp)(n:Nat):Res:=
binK P BinOp.add 3 (Operand.tmp 10) (Operand.const (Value.int IntKind.i64 1)) v1 (Value.int IntKind.i64 1) fun v_2=>
j1 v0 v1 v2 v3 v_2 H n
noncomputable def C130_0:=B130_0 cal k (S130_1 cal k k)
theorem h130_0(v0 v1 v2 v3:Value)(H:Hp)(n:Nat):aX P cal A (k+1) 130 [v0,v1,v2,v3] H n=C130_0 cal k v0 v1 v2 v3 H n:=(bq Go.Proofs.Tryz.f130 Av jZ (by kernel_rfl)).trans (Eq.trans (b:=B130_0 cal k (T130_1 cal k k) v0 v1 v2 v3 H n) (by kernel_rfl) (by rw[q130_1]; rfl))
noncomputable def qaq:Code:=ak 134
noncomputable def rQ:List ResultVar:=bw 134
noncomputable def Ww(cal:Cal)(k:Nat):XR:=(upX 0 (ay P rQ) X0)
noncomputable def K134_prrl(m1:Nat):KR:=(fun T H n D=>aZ P cal m1 (Lv.a (Lv.b (Lv.b (A 134)))) none 134 (cL (cR (cR qaq))) (ay P rQ) (Ww cal k) (ay P rQ) (cutT (Lv.a (Lv.b (Lv.b (A 134)))).c T) H n D)
noncomputable def T134_1(m1:Nat):=fun(u0 u8 u9:Value) (H:Hp) (n:Nat)=>labK (bZ P cal (aZ P cal m1) none 134 (cL (cL (cR (cR qaq)))) (Lv.a (Lv.a (Lv.b (Lv.b (A 134))))) (K134_prrl cal k m1) (Ww cal k) (ay P rQ)) (Tr.set (Tr.set (Tr.set Tr.nil 9 (some u9)) 8 (some u8)) 0 (some u0)) H n []
noncomputable def R134_1(m1:Nat):V3:=fun u0 u8 u9 H n=>aZ P cal m1 (Lv.a (Lv.b (Lv.b (A 134)))) none 134 (cL (cR (cR qaq))) (ay P rQ) (Ww cal k) (ay P rQ) (Tr.set (Tr.set (Tr.set Tr.nil 9 (some u9)) 8 (some u8)) 0 (some u0)) H n []
noncomputable def B134_1(cal:Cal)(k m1:Nat)(b1:V3)(u0 u8 u9:Value)(H:Hp)(n:Nat):Res:=
binK P BinOp.lss 3 (Operand.tmp 13) (Operand.tmp 14) u8 u9 fun v_8=>
ifK v_8 (
bindO (aQ P 98 u0 u9) fun v_f=>
bindO (aY v_f) fun a_g=>bindO (aJ P H 106 a_g) fun v_h=>
bindO (aQ P 98 u0 u8) fun v_k=>
bindO (aY v_k) fun a_l=>bindO (aJ P H 106 a_l) fun v_m=>
bindO (aQ P 98 u0 u8) fun v_n=>
bindO (dQ P 106 v_n v_h H) fun H_p=>
bindO (aQ P 98 u0 u9) fun v_q=>
bindO (dQ P 106 v_q v_m H_p) fun H_s=>
binK P BinOp.add 3 (Operand.tmp 30) (Operand.const (Value.int IntKind.i64 1)) u8 (Value.int IntKind.i64 1) fun v_u=>
binK P BinOp.sub 3 (Operand.tmp 32) (Operand.const (Value.int IntKind.i64 1)) u9 (Value.int IntKind.i64 1) fun v_x=>
b1 u0 v_u v_x H_s n) (
some ((Value.tuple ⟨[]⟩),H,n))
noncomputable def C134_1(m1:Nat):=B134_1 cal k m1
noncomputable def S134_1:Nat→V3:=recF (C134_1 cal k) (fun _ _ _ _ _=>none)
theorem h134_1(m1:Nat):T134_1 cal k m1=C134_1 cal k m1 (R134_1 cal k m1):=by kernel_rfl
theorem q134_1(m:Nat):T134_1 cal k m=S134_1 cal k m:=recS (h134_1 cal k) (by kernel_rfl) (fun m=>by kernel_rfl) m
noncomputable def B134_0(cal:Cal)(k:Nat)(j1:V3)(v0 v1 v2 v3:Value)(H:Hp)(n:Nat):Res:=
binK P BinOp.sub 3 (Operand.tmp 11) (Operand.const (Value.int IntKind.i64 1)) v2 (Value.int IntKind.i64 1) fun v_4=>
j1 v0 v1 v_4 H n
noncomputable def C134_0:=B134_0 cal k (S134_1 cal k k)
theorem h134_0(v0 v1 v2 v3:Value)(H:Hp)(n:Nat):aX P cal A (k+1) 134 [v0,v1,v2,v3] H n=C134_0 cal k v0 v1 v2 v3 H n:=(bq Go.Proofs.Tryz.f134 qaq rQ (by kernel_rfl)).trans (Eq.trans (b:=B134_0 cal k (T134_1 cal k k) v0 v1 v2 v3 H n) (by kernel_rfl) (by rw[q134_1]; rfl))
noncomputable def code138:Code:=ak 138
noncomputable def zk:List ResultVar:=bw 138
noncomputable def T138_2:=fun(u0 u2:Value) (H:Hp) (n:Nat)=>labK (bZ P cal (aZ P cal k) none 138 (cR (cR (cR code138))) (Lv.b (Lv.b (Lv.b (A 138)))) (ay P zk) X0 (ay P zk)) (Tr.set (Tr.set Tr.nil 2 (some u2)) 0 (some u0)) H n []
noncomputable def T138_1:=fun(u0 u2:Value) (H:Hp) (n:Nat)=>labK (bZ P cal (aZ P cal k) none 138 (cR (cR code138)) (Lv.b (Lv.b (A 138))) (ay P zk) X0 (ay P zk)) (Tr.set (Tr.set Tr.nil 2 (some u2)) 0 (some u0)) H n []
noncomputable def B138_2(cal:Cal)(k:Nat)(u0 u2:Value)(H:Hp)(n:Nat):Res:=
bindO (dX P u0 (convert 187 5 u0)) fun v_4=>
bindO (vk P 9 (Value.string (ByteArray.mk #[0,1,2,2,3,3,3,3,4,4,4,4,4,4,4,4,5,5,5,5,5,5,5,5,5,5,5,5,5,5,5,5,6,6,6,6,6,6,6,6,6,6,6,6,6,6,6,6,6,6,6,6,6,6,6,6,6,6,6,6,6,6,6,6,7,7,7,7,7,7,7,7,7,7,7,7,7,7,7,7,7,7,7,7,7,7,7,7,7,7,7,7,7,7,7,7,7,7,7,7,7,7,7,7,7,7,7,7,7,7,7,7,7,7,7,7,7,7,7,7,7,7,7,7,7,7,7,7,8,8,8,8,8,8,8,8,8,8,8,8,8,8,8,8,8,8,8,8,8,8,8,8,8,8,8,8,8,8,8,8,8,8,8,8,8,8,8,8,8,8,8,8,8,8,8,8,8,8,8,8,8,8,8,8,8,8,8,8,8,8,8,8,8,8,8,8,8,8,8,8,8,8,8,8,8,8,8,8,8,8,8,8,8,8,8,8,8,8,8,8,8,8,8,8,8,8,8,8,8,8,8,8,8,8,8,8,8,8,8,8,8,8,8,8,8,8,8,8,8,8,8,8,8,8,8,8])) v_4) fun v_5=>
bindO (dX P v_5 (convert 5 3 v_5)) fun v_6=>
binK P BinOp.add 3 (Operand.tmp 13) (Operand.tmp 17) u2 v_6 fun v_7=>
some (v_7,H,n)
noncomputable def C138_2:=B138_2 cal k
theorem h138_2:T138_2 cal k=C138_2 cal k:=by kernel_rfl
noncomputable def B138_1(cal:Cal)(k:Nat)(j2:V2)(u0 u2:Value)(H:Hp)(n:Nat):Res:=
binK P BinOp.geq 187 (Operand.tmp 7) (Operand.const (Value.int IntKind.u32 256)) u0 (Value.int IntKind.u32 256) fun v_a=>
ifK v_a (
binK P BinOp.shr 187 (Operand.tmp 9) (Operand.const (Value.int IntKind.u64 8)) u0 (Value.int IntKind.u64 8) fun v_c=>
binK P BinOp.add 3 (Operand.tmp 11) (Operand.const (Value.int IntKind.i64 8)) u2 (Value.int IntKind.i64 8) fun v_f=>
j2 v_c v_f H n) (
j2 u0 u2 H n)
noncomputable def C138_1:=B138_1 cal k (C138_2 cal k)
theorem h138_1:T138_1 cal k=C138_1 cal k:=Eq.trans (b:=B138_1 cal k (T138_2 cal k)) (by kernel_rfl) (by rw[h138_2]; rfl)
noncomputable def B138_0(cal:Cal)(k:Nat)(j1:V2)(v0:Value)(H:Hp)(n:Nat):Res:=
binK P BinOp.geq 187 (Operand.tmp 3) (Operand.const (Value.int IntKind.u32 65536)) v0 (Value.int IntKind.u32 65536) fun v_i=>
ifK v_i (
binK P BinOp.shr 187 (Operand.tmp 5) (Operand.const (Value.int IntKind.u64 16)) v0 (Value.int IntKind.u64 16) fun v_k=>
j1 v_k (Value.int IntKind.i64 16) H n) (
j1 v0 (Value.int IntKind.i64 0) H n)
noncomputable def C138_0:=B138_0 cal k (C138_1 cal k)
theorem h138_0(v0:Value)(H:Hp)(n:Nat):aX P cal A (k+1) 138 [v0] H n=C138_0 cal k v0 H n:=(bq Go.Proofs.Tryz.f138 code138 zk (by kernel_rfl)).trans (Eq.trans (b:=B138_0 cal k (T138_1 cal k) v0 H n) (by kernel_rfl) (by rw[h138_1]; rfl))
noncomputable def qaz:Code:=ak 139
noncomputable def rV:List ResultVar:=bw 139
noncomputable def T139_3:=fun(u0 u2:Value) (H:Hp) (n:Nat)=>labK (bZ P cal (aZ P cal k) none 139 (cR (cR (cR (cR qaz)))) (Lv.b (Lv.b (Lv.b (Lv.b (A 139))))) (ay P rV) X0 (ay P rV)) (Tr.set (Tr.set Tr.nil 2 (some u2)) 0 (some u0)) H n []
noncomputable def T139_2:=fun(u0 u2:Value) (H:Hp) (n:Nat)=>labK (bZ P cal (aZ P cal k) none 139 (cR (cR (cR qaz))) (Lv.b (Lv.b (Lv.b (A 139)))) (ay P rV) X0 (ay P rV)) (Tr.set (Tr.set Tr.nil 2 (some u2)) 0 (some u0)) H n []
noncomputable def T139_1:=fun(u0 u2:Value) (H:Hp) (n:Nat)=>labK (bZ P cal (aZ P cal k) none 139 (cR (cR qaz)) (Lv.b (Lv.b (A 139))) (ay P rV) X0 (ay P rV)) (Tr.set (Tr.set Tr.nil 2 (some u2)) 0 (some u0)) H n []
noncomputable def B139_3(cal:Cal)(k:Nat)(u0 u2:Value)(H:Hp)(n:Nat):Res:=
bindO (dX P u0 (convert 189 5 u0)) fun v_4=>
bindO (vk P 9 (Value.string (ByteArray.mk #[0,1,2,2,3,3,3,3,4,4,4,4,4,4,4,4,5,5,5,5,5,5,5,5,5,5,5,5,5,5,5,5,6,6,6,6,6,6,6,6,6,6,6,6,6,6,6,6,6,6,6,6,6,6,6,6,6,6,6,6,6,6,6,6,7,7,7,7,7,7,7,7,7,7,7,7,7,7,7,7,7,7,7,7,7,7,7,7,7,7,7,7,7,7,7,7,7,7,7,7,7,7,7,7,7,7,7,7,7,7,7,7,7,7,7,7,7,7,7,7,7,7,7,7,7,7,7,7,8,8,8,8,8,8,8,8,8,8,8,8,8,8,8,8,8,8,8,8,8,8,8,8,8,8,8,8,8,8,8,8,8,8,8,8,8,8,8,8,8,8,8,8,8,8,8,8,8,8,8,8,8,8,8,8,8,8,8,8,8,8,8,8,8,8,8,8,8,8,8,8,8,8,8,8,8,8,8,8,8,8,8,8,8,8,8,8,8,8,8,8,8,8,8,8,8,8,8,8,8,8,8,8,8,8,8,8,8,8,8,8,8,8,8,8,8,8,8,8,8,8,8,8,8,8,8,8])) v_4) fun v_5=>
bindO (dX P v_5 (convert 5 3 v_5)) fun v_6=>
binK P BinOp.add 3 (Operand.tmp 19) (Operand.tmp 23) u2 v_6 fun v_7=>
some (v_7,H,n)
noncomputable def C139_3:=B139_3 cal k
theorem h139_3:T139_3 cal k=C139_3 cal k:=by kernel_rfl
noncomputable def B139_2(cal:Cal)(k:Nat)(j3:V2)(u0 u2:Value)(H:Hp)(n:Nat):Res:=
binK P BinOp.geq 189 (Operand.tmp 13) (Operand.const (Value.int IntKind.u64 256)) u0 (Value.int IntKind.u64 256) fun v_a=>
ifK v_a (
binK P BinOp.shr 189 (Operand.tmp 15) (Operand.const (Value.int IntKind.u64 8)) u0 (Value.int IntKind.u64 8) fun v_c=>
binK P BinOp.add 3 (Operand.tmp 17) (Operand.const (Value.int IntKind.i64 8)) u2 (Value.int IntKind.i64 8) fun v_f=>
j3 v_c v_f H n) (
j3 u0 u2 H n)
noncomputable def C139_2:=B139_2 cal k (C139_3 cal k)
theorem h139_2:T139_2 cal k=C139_2 cal k:=Eq.trans (b:=B139_2 cal k (T139_3 cal k)) (by kernel_rfl) (by rw[h139_3]; rfl)
noncomputable def B139_1(cal:Cal)(k:Nat)(j2:V2)(u0 u2:Value)(H:Hp)(n:Nat):Res:=
binK P BinOp.geq 189 (Operand.tmp 7) (Operand.const (Value.int IntKind.u64 65536)) u0 (Value.int IntKind.u64 65536) fun v_i=>
ifK v_i (
binK P BinOp.shr 189 (Operand.tmp 9) (Operand.const (Value.int IntKind.u64 16)) u0 (Value.int IntKind.u64 16) fun v_k=>
binK P BinOp.add 3 (Operand.tmp 11) (Operand.const (Value.int IntKind.i64 16)) u2 (Value.int IntKind.i64 16) fun v_n=>
j2 v_k v_n H n) (
j2 u0 u2 H n)
noncomputable def C139_1:=B139_1 cal k (C139_2 cal k)
theorem h139_1:T139_1 cal k=C139_1 cal k:=Eq.trans (b:=B139_1 cal k (T139_2 cal k)) (by kernel_rfl) (by rw[h139_2]; rfl)
noncomputable def B139_0(cal:Cal)(k:Nat)(j1:V2)(v0:Value)(H:Hp)(n:Nat):Res:=
binK P BinOp.geq 189 (Operand.tmp 3) (Operand.const (Value.int IntKind.u64 4294967296)) v0 (Value.int IntKind.u64 4294967296) fun v_q=>
ifK v_q (
binK P BinOp.shr 189 (Operand.tmp 5) (Operand.const (Value.int IntKind.u64 32)) v0 (Value.int IntKind.u64 32) fun v_s=>
j1 v_s (Value.int IntKind.i64 32) H n) (
j1 v0 (Value.int IntKind.i64 0) H n)
noncomputable def C139_0:=B139_0 cal k (C139_1 cal k)
theorem h139_0(v0:Value)(H:Hp)(n:Nat):aX P cal A (k+1) 139 [v0] H n=C139_0 cal k v0 H n:=(bq Go.Proofs.Tryz.f139 qaz rV (by kernel_rfl)).trans (Eq.trans (b:=B139_0 cal k (T139_1 cal k) v0 H n) (by kernel_rfl) (by rw[h139_1]; rfl))
noncomputable def code140:Code:=ak 140
noncomputable def results140:List ResultVar:=bw 140
noncomputable def B140_0(cal:Cal)(k:Nat)(v0 v1:Value)(H:Hp)(n:Nat):Res:=
aK P cal 146 [v0] H n fun v_3 H_4 n_5=>
aK P cal 146 [v1] H_4 n_5 fun v_8 H_9 n_a=>
ifK v_3 (
ifK v_8 (
some ((Value.int IntKind.i64 0),H_9,n_a)) (
some ((Value.int IntKind.i64 (-1)),H_9,n_a))) (
ifK v_8 (
some ((Value.int IntKind.i64 1),H_9,n_a)) (
binK P BinOp.lss 106 (Operand.tmp 14) (Operand.tmp 15) v0 v1 fun v_k=>
ifK v_k (
some ((Value.int IntKind.i64 (-1)),H_9,n_a)) (
binK P BinOp.gtr 106 (Operand.tmp 17) (Operand.tmp 18) v0 v1 fun v_o=>
ifK v_o (
some ((Value.int IntKind.i64 1),H_9,n_a)) (
some ((Value.int IntKind.i64 0),H_9,n_a)))))
noncomputable def C140_0:=B140_0 cal k
theorem h140_0(v0 v1:Value)(H:Hp)(n:Nat):aX P cal A (k+1) 140 [v0,v1] H n=C140_0 cal k v0 v1 H n:=(bq Go.Proofs.Tryz.f140 code140 results140 (by kernel_rfl)).trans (by kernel_rfl)
noncomputable def code142:Code:=ak 142
noncomputable def results142:List ResultVar:=bw 142
noncomputable def B142_0(cal:Cal)(k:Nat)(v0:Value)(H:Hp)(n:Nat):Res:=
bindO (dX P v0 (convert 3 80 v0)) fun v_3=>
aK P cal 122 [v_3] H n fun v_4 H_5 n_6=>
binK P BinOp.shl 80 (Operand.const (Value.int IntKind.u64 1)) (Operand.tmp 5) (Value.int IntKind.u64 1) v_4 fun v_7=>
some (v_7,H_5,n_6)
noncomputable def C142_0:=B142_0 cal k
theorem h142_0(v0:Value)(H:Hp)(n:Nat):aX P cal A (k+1) 142 [v0] H n=C142_0 cal k v0 H n:=(bq Go.Proofs.Tryz.f142 code142 results142 (by kernel_rfl)).trans (by kernel_rfl)
noncomputable def code143:Code:=ak 143
noncomputable def results143:List ResultVar:=bw 143
noncomputable def B143_0(cal:Cal)(k:Nat)(v0:Value)(H:Hp)(n:Nat):Res:=
bindO (nilV v0) fun v_3=>
bindO (aY v_3) fun a_4=>bindO (aJ P H 197 a_4) fun v_5=>
bindO (nilV v0) fun v_7=>
bindO (aY v_7) fun a_8=>bindO (aJ P H 197 a_8) fun v_9=>
binK P BinOp.shl 197 (Operand.tmp 8) (Operand.const (Value.int IntKind.u64 13)) v_9 (Value.int IntKind.u64 13) fun v_a=>
binK P BinOp.xor 197 (Operand.tmp 5) (Operand.tmp 9) v_5 v_a fun v_b=>
bindO (nilV v0) fun v_c=>
bindO (dQ P 197 v_c v_b H) fun H_e=>
bindO (nilV v0) fun v_g=>
bindO (aY v_g) fun a_h=>bindO (aJ P H_e 197 a_h) fun v_i=>
bindO (nilV v0) fun v_k=>
bindO (aY v_k) fun a_l=>bindO (aJ P H_e 197 a_l) fun v_m=>
binK P BinOp.shr 197 (Operand.tmp 17) (Operand.const (Value.int IntKind.u64 7)) v_m (Value.int IntKind.u64 7) fun v_n=>
binK P BinOp.xor 197 (Operand.tmp 14) (Operand.tmp 18) v_i v_n fun v_o=>
bindO (nilV v0) fun v_p=>
bindO (dQ P 197 v_p v_o H_e) fun H_r=>
bindO (nilV v0) fun v_t=>
bindO (aY v_t) fun a_u=>bindO (aJ P H_r 197 a_u) fun v_v=>
bindO (nilV v0) fun v_x=>
bindO (aY v_x) fun a_y=>bindO (aJ P H_r 197 a_y) fun v_z=>
binK P BinOp.shl 197 (Operand.tmp 26) (Operand.const (Value.int IntKind.u64 17)) v_z (Value.int IntKind.u64 17) fun v_10=>
binK P BinOp.xor 197 (Operand.tmp 23) (Operand.tmp 27) v_v v_10 fun v_11=>
bindO (nilV v0) fun v_12=>
bindO (dQ P 197 v_12 v_11 H_r) fun H_14=>
bindO (nilV v0) fun v_16=>
bindO (aY v_16) fun a_18=>bindO (aJ P H_14 197 a_18) fun v_17=>
some (v_17,H_14,n)
noncomputable def C143_0:=B143_0 cal k
theorem h143_0(v0:Value)(H:Hp)(n:Nat):aX P cal A (k+1) 143 [v0] H n=C143_0 cal k v0 H n:=(bq Go.Proofs.Tryz.f143 code143 results143 (by kernel_rfl)).trans (by kernel_rfl)
noncomputable def code144:Code:=ak 144
noncomputable def results144:List ResultVar:=bw 144
noncomputable def B144_0(cal:Cal)(k:Nat)(v0 v1 v2 v3:Value)(H:Hp)(n:Nat):Res:=
binK P BinOp.sub 3 (Operand.tmp 10) (Operand.const (Value.int IntKind.i64 1)) v1 (Value.int IntKind.i64 1) fun v_4=>
binK P BinOp.add 3 (Operand.tmp 13) (Operand.const (Value.int IntKind.i64 1)) v1 (Value.int IntKind.i64 1) fun v_7=>
aK P cal 145 [v0,v_4,v1,v_7,v2,v3] H n fun v_a H_b n_c=>
some (v_a,H_b,n_c)
noncomputable def C144_0:=B144_0 cal k
theorem h144_0(v0 v1 v2 v3:Value)(H:Hp)(n:Nat):aX P cal A (k+1) 144 [v0,v1,v2,v3] H n=C144_0 cal k v0 v1 v2 v3 H n:=(bq Go.Proofs.Tryz.f144 code144 results144 (by kernel_rfl)).trans (by kernel_rfl)
noncomputable def code145:Code:=ak 145
noncomputable def results145:List ResultVar:=bw 145
noncomputable def B145_0(cal:Cal)(k:Nat)(v0 v1 v2 v3 v4 v5:Value)(H:Hp)(n:Nat):Res:=
aK P cal 147 [v0,v1,v2,v4,v5] H n fun v_7 H_8 n_9=>
bindO (tupV v_7 0) fun v_b=>
bindO (tupV v_7 1) fun v_c=>
aK P cal 147 [v0,v_c,v3,v4,v5] H_8 n_9 fun v_k H_l n_m=>
bindO (tupV v_k 0) fun v_o=>
bindO (tupV v_k 1) fun v_p=>
aK P cal 147 [v0,v_b,v_o,v4,v5] H_l n_m fun v_x H_y n_z=>
bindO (tupV v_x 0) fun v_11=>
bindO (tupV v_x 1) fun v_12=>
some (v_12,H_y,n_z)
noncomputable def C145_0:=B145_0 cal k
theorem h145_0(v0 v1 v2 v3 v4 v5:Value)(H:Hp)(n:Nat):aX P cal A (k+1) 145 [v0,v1,v2,v3,v4,v5] H n=C145_0 cal k v0 v1 v2 v3 v4 v5 H n:=(bq Go.Proofs.Tryz.f145 code145 results145 (by kernel_rfl)).trans (by kernel_rfl)
noncomputable def code146:Code:=ak 146
noncomputable def results146:List ResultVar:=bw 146
noncomputable def B146_0(cal:Cal)(k:Nat)(v0:Value)(H:Hp)(n:Nat):Res:=
binK P BinOp.neq 106 (Operand.tmp 3) (Operand.tmp 4) v0 v0 fun v_4=>
some (v_4,H,n)
noncomputable def C146_0:=B146_0 cal k
theorem h146_0(v0:Value)(H:Hp)(n:Nat):aX P cal A (k+1) 146 [v0] H n=C146_0 cal k v0 H n:=(bq Go.Proofs.Tryz.f146 code146 results146 (by kernel_rfl)).trans (by kernel_rfl)
noncomputable def code147:Code:=ak 147
noncomputable def results147:List ResultVar:=bw 147
noncomputable def B147_0(cal:Cal)(k:Nat)(v0 v1 v2 v3 v4:Value)(H:Hp)(n:Nat):Res:=
bindO (aQ P 98 v0 v2) fun v_6=>
bindO (aY v_6) fun a_7=>bindO (aJ P H 106 a_7) fun v_8=>
bindO (aQ P 98 v0 v1) fun v_b=>
bindO (aY v_b) fun a_c=>bindO (aJ P H 106 a_c) fun v_d=>
iW P cal v4 [v_8,v_d] H n fun v_e H_f n_g=>
binK P BinOp.lss 3 (Operand.tmp 21) (Operand.const (Value.int IntKind.i64 0)) v_e (Value.int IntKind.i64 0) fun v_h=>
ifK v_h (
bindO (nilV v3) fun v_j=>
bindO (aY v_j) fun a_l=>bindO (aJ P H_f 3 a_l) fun v_k=>
binK P BinOp.add 3 (Operand.tmp 25) (Operand.const (Value.int IntKind.i64 1)) v_k (Value.int IntKind.i64 1) fun v_m=>
bindO (nilV v3) fun v_n=>
bindO (dQ P 3 v_n v_m H_f) fun H_p=>
some ((Value.tuple ⟨[v2,v1]⟩),H_p,n_g)) (
some ((Value.tuple ⟨[v1,v2]⟩),H_f,n_g))
noncomputable def C147_0:=B147_0 cal k
theorem h147_0(v0 v1 v2 v3 v4:Value)(H:Hp)(n:Nat):aX P cal A (k+1) 147 [v0,v1,v2,v3,v4] H n=C147_0 cal k v0 v1 v2 v3 v4 H n:=(bq Go.Proofs.Tryz.f147 code147 results147 (by kernel_rfl)).trans (by kernel_rfl)
end Go.Proofs.YtnnkcjolgbpklaaGreat.G
end
end
