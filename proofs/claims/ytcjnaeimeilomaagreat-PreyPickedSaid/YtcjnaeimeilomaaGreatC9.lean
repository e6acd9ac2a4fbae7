import Derived.Test.YtcjnaeimeilomaaGreatC8
set_option linter.unusedVariables false
section
open Go Go.Ev
set_option maxRecDepth 1000000
noncomputable section
namespace Go.Proofs.YtcjnaeimeilomaaGreat.G
variable (cal:Cal) (k:Nat)
noncomputable def rY:Code:=ak 113
noncomputable def hY:List ResultVar:=bw 113
noncomputable def Cx:KR:=(cutK (Lv.b (A 113)).c (bW P cal (aY P cal k) none 113 (cR (cR rY)) (Lv.b (Lv.b (A 113))) (ay P hY) X0 (ay P hY)))
noncomputable def qy:XR:=(upX 0 (Cx cal k) X0)
noncomputable def LJ(m1:Nat):KR:=(fun T H n D=>aY P cal m1 (Lv.a (Lv.b (Lv.a (Lv.b (A 113))))) none 113 (cL (cR (cL (cR rY)))) (Cx cal k) (qy cal k) (ay P hY) (cutT (Lv.a (Lv.b (Lv.a (Lv.b (A 113))))).c T) H n D)
noncomputable def LQ(m1:Nat):=fun(u1 u7 u8 u9:Value) (H:Hp) (n:Nat)=>labK (bW P cal (aY P cal m1) none 113 (cL (cL (cR (cL (cR rY))))) (Lv.a (Lv.a (Lv.b (Lv.a (Lv.b (A 113)))))) (LJ cal k m1) (qy cal k) (ay P hY)) (Tr.set (Tr.set (Tr.set (Tr.set Tr.nil 9 (some u9)) 8 (some u8)) 7 (some u7)) 1 (some u1)) H n []
noncomputable def R113_1(m1:Nat):V4:=fun u1 u7 u8 u9 H n=>aY P cal m1 (Lv.a (Lv.b (Lv.a (Lv.b (A 113))))) none 113 (cL (cR (cL (cR rY)))) (Cx cal k) (qy cal k) (ay P hY) (Tr.set (Tr.set (Tr.set (Tr.set Tr.nil 9 (some u9)) 8 (some u8)) 7 (some u7)) 1 (some u1)) H n []
noncomputable def B113_1(cal:Cal)(k m1:Nat)(b1:V4)(u1 u7 u8 u9:Value)(H:Hp)(n:Nat):Res:=
binK P BinOp.lss 3 (Operand.tmp 9) (Operand.tmp 8) u9 u8 fun v_5=>
ifK v_5 (
bindO (aJ P 35 u7 u9) fun v_6=>
bindO (aX v_6) fun a_8=>bindO (az P H 130 a_8) fun v_7=>
jY P 130 H n fun v_9 H_a n_b=>
bindO (dz P 130 v_9 v_7 H_a) fun H_d=>
bindO (aX v_9) fun a_g=>bindO (az P H_d 130 a_g) fun v_f=>
iQ P cal u1 [v_f] H_d n_b fun v_h H_i n_j=>
bindO (dk P v_h (Op.unary UnOp.not v_h)) fun v_k=>
ifK v_k (
some ((Value.bool false),H_i,n_j)) (
binK P BinOp.add 3 (Operand.tmp 9) (Operand.const (Value.int IntKind.i64 1)) u9 (Value.int IntKind.i64 1) fun v_m=>
b1 u1 u7 u8 v_m H_i n_j)) (
some ((Value.bool true),H,n))
noncomputable def Fv(m1:Nat):=B113_1 cal k m1
noncomputable def Fw:Nat→V4:=recF (Fv cal k) (fun _ _ _ _ _ _=>none)
theorem h113_1(m1:Nat):LQ cal k m1=Fv cal k m1 (R113_1 cal k m1):=by kernel_rfl
theorem q113_1(m:Nat):LQ cal k m=Fw cal k m:=recS (h113_1 cal k) (by kernel_rfl) (fun m=>by kernel_rfl) m
noncomputable def SX(cal:Cal)(k:Nat)(j1:V4)(v0 v1:Value)(H:Hp)(n:Nat):Res:=
bindO (lenV P 35 v0) fun v_3=>
j1 v1 v0 v_3 (Value.int IntKind.i64 0) H n
noncomputable def SY:=SX cal k (Fw cal k k)
theorem h113_0(v0 v1:Value)(H:Hp)(n:Nat):aW P cal A (k+1) 113 [v0,v1] H n=SY cal k v0 v1 H n:=(bq Go.Proofs.Tryz.f113 rY hY (by kernel_rfl)).trans (Eq.trans (b:=SX cal k (LQ cal k k) v0 v1 H n) (by kernel_rfl) (by rw[q113_1]; rfl))
noncomputable def code114:Code:=ak 114
noncomputable def LV:List ResultVar:=bw 114
noncomputable def B114_0(cal:Cal)(k:Nat)(v0:Value)(H:Hp)(n:Nat):Res:=
boxK 130 v0 H n fun v_1 H_2 n_3=>
bindO (ax P 130 v_1 0) fun v_5=>
bindO (aX v_5) fun a_7=>bindO (az P H_2 3 a_7) fun v_6=>
binK P BinOp.geq 3 (Operand.tmp 4) (Operand.const (Value.int IntKind.i64 0)) v_6 (Value.int IntKind.i64 0) fun v_8=>
bj v_8 true (fun k_a=>
bindO (ax P 130 v_1 0) fun v_e=>
k_a v_e H_2 n_3) H_2 n_3 fun v_b H_c n_d=>
bj v_8 true (fun k_f=>
bindO (aX v_b) fun a_k=>bindO (az P H_c 3 a_k) fun v_j=>
k_f v_j H_c n_d) H_c n_d fun v_g H_h n_i=>
bj v_8 true (fun k_l=>
bindO (ax P 130 v_1 1) fun v_p=>
k_l v_p H_h n_i) H_h n_i fun v_m H_n n_o=>
bj v_8 true (fun k_q=>
bindO (aX v_m) fun a_v=>bindO (az P H_n 3 a_v) fun v_u=>
k_q v_u H_n n_o) H_n n_o fun v_r H_s n_t=>
bj v_8 true (fun k_w=>
binK P BinOp.leq 3 (Operand.tmp 8) (Operand.tmp 10) v_g v_r fun v_10=>
k_w v_10 H_s n_t) H_s n_t fun v_x H_y n_z=>
bindO (fV v_8 v_x (Value.bool false)) fun v_11=>
bj v_11 true (fun k_13=>
bindO (ax P 130 v_1 1) fun v_17=>
k_13 v_17 H_y n_z) H_y n_z fun v_14 H_15 n_16=>
bj v_11 true (fun k_18=>
bindO (aX v_14) fun a_1d=>bindO (az P H_15 3 a_1d) fun v_1c=>
k_18 v_1c H_15 n_16) H_15 n_16 fun v_19 H_1a n_1b=>
bj v_11 true (fun k_1e=>
binK P BinOp.leq 3 (Operand.tmp 15) (Operand.const (Value.int IntKind.i64 1000)) v_19 (Value.int IntKind.i64 1000) fun v_1i=>
k_1e v_1i H_1a n_1b) H_1a n_1b fun v_1f H_1g n_1h=>
bindO (fV v_11 v_1f (Value.bool false)) fun v_1j=>
some (v_1j,H_1g,n_1h)
noncomputable def SZ:=B114_0 cal k
theorem h114_0(v0:Value)(H:Hp)(n:Nat):aW P cal A (k+1) 114 [v0] H n=SZ cal k v0 H n:=(bq Go.Proofs.Tryz.f114 code114 LV (by kernel_rfl)).trans (by kernel_rfl)
noncomputable def rK:Code:=ak 115
noncomputable def ij:List ResultVar:=bw 115
noncomputable def Cy:KR:=(cutK (Lv.b (A 115)).c (bW P cal (aY P cal k) none 115 (cR (cR rK)) (Lv.b (Lv.b (A 115))) (ay P ij) X0 (ay P ij)))
noncomputable def qz:XR:=(upX 0 (Cy cal k) X0)
noncomputable def LW(m1:Nat):KR:=(fun T H n D=>aY P cal m1 (Lv.a (Lv.b (Lv.a (Lv.b (A 115))))) none 115 (cL (cR (cL (cR rK)))) (Cy cal k) (qz cal k) (ay P ij) (cutT (Lv.a (Lv.b (Lv.a (Lv.b (A 115))))).c T) H n D)
noncomputable def LX(m1:Nat):=fun(u1 u7 u8 u9:Value) (H:Hp) (n:Nat)=>labK (bW P cal (aY P cal m1) none 115 (cL (cL (cR (cL (cR rK))))) (Lv.a (Lv.a (Lv.b (Lv.a (Lv.b (A 115)))))) (LW cal k m1) (qz cal k) (ay P ij)) (Tr.set (Tr.set (Tr.set (Tr.set Tr.nil 9 (some u9)) 8 (some u8)) 7 (some u7)) 1 (some u1)) H n []
noncomputable def R115_1(m1:Nat):V4:=fun u1 u7 u8 u9 H n=>aY P cal m1 (Lv.a (Lv.b (Lv.a (Lv.b (A 115))))) none 115 (cL (cR (cL (cR rK)))) (Cy cal k) (qz cal k) (ay P ij) (Tr.set (Tr.set (Tr.set (Tr.set Tr.nil 9 (some u9)) 8 (some u8)) 7 (some u7)) 1 (some u1)) H n []
noncomputable def B115_1(cal:Cal)(k m1:Nat)(b1:V4)(u1 u7 u8 u9:Value)(H:Hp)(n:Nat):Res:=
binK P BinOp.lss 3 (Operand.tmp 9) (Operand.tmp 8) u9 u8 fun v_5=>
ifK v_5 (
bindO (aJ P 36 u7 u9) fun v_6=>
bindO (aX v_6) fun a_8=>bindO (az P H 131 a_8) fun v_7=>
jY P 131 H n fun v_9 H_a n_b=>
bindO (dz P 131 v_9 v_7 H_a) fun H_d=>
bindO (aX v_9) fun a_g=>bindO (az P H_d 131 a_g) fun v_f=>
iQ P cal u1 [v_f] H_d n_b fun v_h H_i n_j=>
bindO (dk P v_h (Op.unary UnOp.not v_h)) fun v_k=>
ifK v_k (
some ((Value.bool false),H_i,n_j)) (
binK P BinOp.add 3 (Operand.tmp 9) (Operand.const (Value.int IntKind.i64 1)) u9 (Value.int IntKind.i64 1) fun v_m=>
b1 u1 u7 u8 v_m H_i n_j)) (
some ((Value.bool true),H,n))
noncomputable def Fx(m1:Nat):=B115_1 cal k m1
noncomputable def Fy:Nat→V4:=recF (Fx cal k) (fun _ _ _ _ _ _=>none)
theorem h115_1(m1:Nat):LX cal k m1=Fx cal k m1 (R115_1 cal k m1):=by kernel_rfl
theorem q115_1(m:Nat):LX cal k m=Fy cal k m:=recS (h115_1 cal k) (by kernel_rfl) (fun m=>by kernel_rfl) m
noncomputable def SK(cal:Cal)(k:Nat)(j1:V4)(v0 v1:Value)(H:Hp)(n:Nat):Res:=
bindO (lenV P 36 v0) fun v_3=>
j1 v1 v0 v_3 (Value.int IntKind.i64 0) H n
noncomputable def Tj:=SK cal k (Fy cal k k)
theorem h115_0(v0 v1:Value)(H:Hp)(n:Nat):aW P cal A (k+1) 115 [v0,v1] H n=Tj cal k v0 v1 H n:=(bq Go.Proofs.Tryz.f115 rK ij (by kernel_rfl)).trans (Eq.trans (b:=SK cal k (LX cal k k) v0 v1 H n) (by kernel_rfl) (by rw[q115_1]; rfl))
noncomputable def kK:Code:=ak 116
noncomputable def eJ:List ResultVar:=bw 116
noncomputable def xY:KR:=(cutK (Lv.b (Lv.b (A 116))).c (bW P cal (aY P cal k) none 116 (cR (cR (cR kK))) (Lv.b (Lv.b (Lv.b (A 116)))) (ay P eJ) X0 (ay P eJ)))
noncomputable def fQ:XR:=(upX 0 (xY cal k) X0)
noncomputable def nY(m1:Nat):KR:=(fun T H n D=>aY P cal m1 (Lv.a (Lv.b (Lv.a (Lv.b (Lv.b (A 116)))))) none 116 (cL (cR (cL (cR (cR kK))))) (xY cal k) (fQ cal k) (ay P eJ) (cutT (Lv.a (Lv.b (Lv.a (Lv.b (Lv.b (A 116)))))).c T) H n D)
noncomputable def sj(m1:Nat):KR:=(cutK (Lv.b (Lv.b (Lv.a (Lv.a (Lv.b (Lv.a (Lv.b (Lv.b (A 116))))))))).c (bW P cal (aY P cal m1) none 116 (cR (cR (cR (cL (cL (cR (cL (cR (cR kK))))))))) (Lv.b (Lv.b (Lv.b (Lv.a (Lv.a (Lv.b (Lv.a (Lv.b (Lv.b (A 116)))))))))) (nY cal k m1) (fQ cal k) (ay P eJ)))
noncomputable def K116_pxrrlrllrrl(m1:Nat):XR:=(upX 1 (sj cal k m1) (fQ cal k))
noncomputable def T116_2(m1:Nat):=fun(u2 u3 u5 u9 u10 u11:Value) (H:Hp) (n:Nat)=>labK (bW P cal (aY P cal m1) none 116 (cR (cR (cR (cL (cL (cR (cL (cR (cR kK))))))))) (Lv.b (Lv.b (Lv.b (Lv.a (Lv.a (Lv.b (Lv.a (Lv.b (Lv.b (A 116)))))))))) (nY cal k m1) (fQ cal k) (ay P eJ)) (Tr.set (Tr.set (Tr.set (Tr.set (Tr.set (Tr.set Tr.nil 11 (some u11)) 10 (some u10)) 9 (some u9)) 5 (some u5)) 3 (some u3)) 2 (some u2)) H n []
noncomputable def LY(m1:Nat):=fun(u2 u3 u5 u9 u10 u11:Value) (H:Hp) (n:Nat)=>labK (bW P cal (aY P cal m1) none 116 (cL (cL (cR (cL (cR (cR kK)))))) (Lv.a (Lv.a (Lv.b (Lv.a (Lv.b (Lv.b (A 116))))))) (nY cal k m1) (fQ cal k) (ay P eJ)) (Tr.set (Tr.set (Tr.set (Tr.set (Tr.set (Tr.set Tr.nil 11 (some u11)) 10 (some u10)) 9 (some u9)) 5 (some u5)) 3 (some u3)) 2 (some u2)) H n []
noncomputable def Cz(m1:Nat):V6:=fun u2 u3 u5 u9 u10 u11 H n=>aY P cal m1 (Lv.a (Lv.b (Lv.a (Lv.b (Lv.b (A 116)))))) none 116 (cL (cR (cL (cR (cR kK))))) (xY cal k) (fQ cal k) (ay P eJ) (Tr.set (Tr.set (Tr.set (Tr.set (Tr.set (Tr.set Tr.nil 11 (some u11)) 10 (some u10)) 9 (some u9)) 5 (some u5)) 3 (some u3)) 2 (some u2)) H n []
noncomputable def B116_2(cal:Cal)(k m1:Nat)(b1:V6)(u2 u3 u5 u9 u10 u11:Value)(H:Hp)(n:Nat):Res:=
binK P BinOp.add 3 (Operand.tmp 11) (Operand.const (Value.int IntKind.i64 1)) u11 (Value.int IntKind.i64 1) fun v_f=>
b1 u2 u3 u5 u9 u10 v_f H n
noncomputable def Tq(m1:Nat):=B116_2 cal k m1
theorem h116_2(m1:Nat):T116_2 cal k m1=Tq cal k m1 (Cz cal k m1):=by kernel_rfl
noncomputable def LZ(cal:Cal)(k m1:Nat)(j2:V6)(b1:V6)(u2 u3 u5 u9 u10 u11:Value)(H:Hp)(n:Nat):Res:=
binK P BinOp.lss 3 (Operand.tmp 11) (Operand.tmp 10) u11 u10 fun v_e=>
ifK v_e (
bindO (aJ P 36 u9 u11) fun v_h=>
bindO (aX v_h) fun a_j=>bindO (az P H 131 a_j) fun v_i=>
jY P 131 H n fun v_k H_l n_m=>
bindO (dz P 131 v_k v_i H_l) fun H_o=>
bindO (aX v_k) fun a_q=>bindO (az P H_o 131 a_q) fun v_p=>
bindO (aX u3) fun a_s=>bindO (az P H_o 131 a_s) fun v_r=>
binK P BinOp.eql 131 (Operand.tmp 15) (Operand.tmp 16) v_p v_r fun v_t=>
bj v_t false (fun k_v=>
bindO (aX v_k) fun a_10=>bindO (az P H_o 131 a_10) fun v_z=>
k_v v_z H_o n_m) H_o n_m fun v_w H_x n_y=>
bj v_t false (fun k_11=>
bindO (ax P 131 u3 1) fun v_15=>
k_11 v_15 H_x n_y) H_x n_y fun v_12 H_13 n_14=>
bj v_t false (fun k_16=>
bindO (aX v_12) fun a_1b=>bindO (az P H_13 3 a_1b) fun v_1a=>
k_16 v_1a H_13 n_14) H_13 n_14 fun v_17 H_18 n_19=>
bj v_t false (fun k_1c=>
bindO (ax P 131 u3 0) fun v_1g=>
k_1c v_1g H_18 n_19) H_18 n_19 fun v_1d H_1e n_1f=>
bj v_t false (fun k_1h=>
bindO (aX v_1d) fun a_1m=>bindO (az P H_1e 3 a_1m) fun v_1l=>
k_1h v_1l H_1e n_1f) H_1e n_1f fun v_1i H_1j n_1k=>
bj v_t false (fun k_1n=>
bindO (nx P 131 [(0,v_17),(1,v_1i)]) fun v_1r=>
k_1n v_1r H_1j n_1k) H_1j n_1k fun v_1o H_1p n_1q=>
bj v_t false (fun k_1s=>
binK P BinOp.eql 131 (Operand.tmp 19) (Operand.tmp 24) v_w v_1o fun v_1w=>
k_1s v_1w H_1p n_1q) H_1p n_1q fun v_1t H_1u n_1v=>
bindO (fV v_t (Value.bool true) v_1t) fun v_1x=>
ifK v_1x (
binK P BinOp.add 3 (Operand.tmp 27) (Operand.const (Value.int IntKind.i64 1)) u5 (Value.int IntKind.i64 1) fun v_1z=>
j2 u2 u3 v_1z u9 u10 u11 H_1u n_1v) (
j2 u2 u3 u5 u9 u10 u11 H_1u n_1v)) (
bindO (aX u2) fun a_22=>bindO (az P H 39 a_22) fun v_21=>
bindO (ax P 131 u3 0) fun v_23=>
bindO (aX v_23) fun a_25=>bindO (az P H 3 a_25) fun v_24=>
aZ P cal 128 [v_21,v_24] H n fun v_26 H_27 n_28=>
bj v_26 true (fun k_2a=>
bindO (aX u2) fun a_2f=>bindO (az P H_27 39 a_2f) fun v_2e=>
k_2a v_2e H_27 n_28) H_27 n_28 fun v_2b H_2c n_2d=>
bj v_26 true (fun k_2g=>
bindO (ax P 131 u3 1) fun v_2k=>
k_2g v_2k H_2c n_2d) H_2c n_2d fun v_2h H_2i n_2j=>
bj v_26 true (fun k_2l=>
bindO (aX v_2h) fun a_2q=>bindO (az P H_2i 3 a_2q) fun v_2p=>
k_2l v_2p H_2i n_2j) H_2i n_2j fun v_2m H_2n n_2o=>
bj v_26 true (fun k_2r=>
aZ P cal 128 [v_2b,v_2m] H_2n n_2o fun v_2v H_2w n_2x=>
k_2r v_2v H_2w n_2x) H_2n n_2o fun v_2s H_2t n_2u=>
bindO (fV v_26 v_2s (Value.bool false)) fun v_2y=>
bj v_2y true (fun k_30=>
bindO (ax P 131 u3 0) fun v_34=>
k_30 v_34 H_2t n_2u) H_2t n_2u fun v_31 H_32 n_33=>
bj v_2y true (fun k_35=>
bindO (aX v_31) fun a_3a=>bindO (az P H_32 3 a_3a) fun v_39=>
k_35 v_39 H_32 n_33) H_32 n_33 fun v_36 H_37 n_38=>
bj v_2y true (fun k_3b=>
bindO (ax P 131 u3 1) fun v_3f=>
k_3b v_3f H_37 n_38) H_37 n_38 fun v_3c H_3d n_3e=>
bj v_2y true (fun k_3g=>
bindO (aX v_3c) fun a_3l=>bindO (az P H_3d 3 a_3l) fun v_3k=>
k_3g v_3k H_3d n_3e) H_3d n_3e fun v_3h H_3i n_3j=>
bj v_2y true (fun k_3m=>
binK P BinOp.neq 3 (Operand.tmp 42) (Operand.tmp 44) v_36 v_3h fun v_3q=>
k_3m v_3q H_3i n_3j) H_3i n_3j fun v_3n H_3o n_3p=>
bindO (fV v_2y v_3n (Value.bool false)) fun v_3r=>
bj v_3r true (fun k_3t=>
k_3t u5 H_3o n_3p) H_3o n_3p fun v_3u H_3v n_3w=>
bj v_3r true (fun k_3y=>
binK P BinOp.eql 3 (Operand.tmp 48) (Operand.const (Value.int IntKind.i64 1)) v_3u (Value.int IntKind.i64 1) fun v_42=>
k_3y v_42 H_3v n_3w) H_3v n_3w fun v_3z H_40 n_41=>
bindO (fV v_3r v_3z (Value.bool false)) fun v_43=>
some (v_43,H_40,n_41))
noncomputable def Fk(m1:Nat)(b1:V6):=LZ cal k m1 (Tq cal k m1 b1) b1
noncomputable def FJ:Nat→V6:=recF (Fk cal k) (fun _ _ _ _ _ _ _ _=>none)
theorem h116_1(m1:Nat):LY cal k m1=Fk cal k m1 (Cz cal k m1):=Eq.trans (b:=LZ cal k m1 (T116_2 cal k m1) (Cz cal k m1)) (by kernel_rfl) (by rw[h116_2]; rfl)
theorem q116_1(m:Nat):LY cal k m=FJ cal k m:=recS (h116_1 cal k) (by kernel_rfl) (fun m=>by kernel_rfl) m
noncomputable def Tv(cal:Cal)(k:Nat)(j1:V6)(v0 v1:Value)(H:Hp)(n:Nat):Res:=
boxK 39 v0 H n fun v_1 H_2 n_3=>
boxK 131 v1 H_2 n_3 fun v_4 H_5 n_6=>
bindO (ax P 39 v_1 1) fun v_9=>
bindO (aX v_9) fun a_b=>bindO (az P H_5 36 a_b) fun v_a=>
bindO (lenV P 36 v_a) fun v_c=>
j1 v_1 v_4 (Value.int IntKind.i64 0) v_a v_c (Value.int IntKind.i64 0) H_5 n_6
noncomputable def Tw:=Tv cal k (FJ cal k k)
theorem h116_0(v0 v1:Value)(H:Hp)(n:Nat):aW P cal A (k+1) 116 [v0,v1] H n=Tw cal k v0 v1 H n:=(bq Go.Proofs.Tryz.f116 kK eJ (by kernel_rfl)).trans (Eq.trans (b:=Tv cal k (LY cal k k) v0 v1 H n) (by kernel_rfl) (by rw[q116_1]; rfl))
noncomputable def sq:Code:=ak 117
noncomputable def iq:List ResultVar:=bw 117
noncomputable def Ck:KR:=(cutK (Lv.b (A 117)).c (bW P cal (aY P cal k) none 117 (cR (cR sq)) (Lv.b (Lv.b (A 117))) (ay P iq) X0 (ay P iq)))
noncomputable def qk:XR:=(upX 0 (Ck cal k) X0)
noncomputable def Mj(m1:Nat):KR:=(fun T H n D=>aY P cal m1 (Lv.a (Lv.b (Lv.a (Lv.b (A 117))))) none 117 (cL (cR (cL (cR sq)))) (Ck cal k) (qk cal k) (ay P iq) (cutT (Lv.a (Lv.b (Lv.a (Lv.b (A 117))))).c T) H n D)
noncomputable def Mq(m1:Nat):=fun(u1 u7 u8 u9:Value) (H:Hp) (n:Nat)=>labK (bW P cal (aY P cal m1) none 117 (cL (cL (cR (cL (cR sq))))) (Lv.a (Lv.a (Lv.b (Lv.a (Lv.b (A 117)))))) (Mj cal k m1) (qk cal k) (ay P iq)) (Tr.set (Tr.set (Tr.set (Tr.set Tr.nil 9 (some u9)) 8 (some u8)) 7 (some u7)) 1 (some u1)) H n []
noncomputable def R117_1(m1:Nat):V4:=fun u1 u7 u8 u9 H n=>aY P cal m1 (Lv.a (Lv.b (Lv.a (Lv.b (A 117))))) none 117 (cL (cR (cL (cR sq)))) (Ck cal k) (qk cal k) (ay P iq) (Tr.set (Tr.set (Tr.set (Tr.set Tr.nil 9 (some u9)) 8 (some u8)) 7 (some u7)) 1 (some u1)) H n []
noncomputable def B117_1(cal:Cal)(k m1:Nat)(b1:V4)(u1 u7 u8 u9:Value)(H:Hp)(n:Nat):Res:=
binK P BinOp.lss 3 (Operand.tmp 9) (Operand.tmp 8) u9 u8 fun v_5=>
ifK v_5 (
bindO (aJ P 37 u7 u9) fun v_6=>
bindO (aX v_6) fun a_8=>bindO (az P H 128 a_8) fun v_7=>
jY P 128 H n fun v_9 H_a n_b=>
bindO (dz P 128 v_9 v_7 H_a) fun H_d=>
bindO (aX v_9) fun a_g=>bindO (az P H_d 128 a_g) fun v_f=>
iQ P cal u1 [v_f] H_d n_b fun v_h H_i n_j=>
bindO (dk P v_h (Op.unary UnOp.not v_h)) fun v_k=>
ifK v_k (
some ((Value.bool false),H_i,n_j)) (
binK P BinOp.add 3 (Operand.tmp 9) (Operand.const (Value.int IntKind.i64 1)) u9 (Value.int IntKind.i64 1) fun v_m=>
b1 u1 u7 u8 v_m H_i n_j)) (
some ((Value.bool true),H,n))
noncomputable def FQ(m1:Nat):=B117_1 cal k m1
noncomputable def FV:Nat→V4:=recF (FQ cal k) (fun _ _ _ _ _ _=>none)
theorem h117_1(m1:Nat):Mq cal k m1=FQ cal k m1 (R117_1 cal k m1):=by kernel_rfl
theorem q117_1(m:Nat):Mq cal k m=FV cal k m:=recS (h117_1 cal k) (by kernel_rfl) (fun m=>by kernel_rfl) m
noncomputable def Tx(cal:Cal)(k:Nat)(j1:V4)(v0 v1:Value)(H:Hp)(n:Nat):Res:=
bindO (lenV P 37 v0) fun v_3=>
j1 v1 v0 v_3 (Value.int IntKind.i64 0) H n
noncomputable def Tz:=Tx cal k (FV cal k k)
theorem h117_0(v0 v1:Value)(H:Hp)(n:Nat):aW P cal A (k+1) 117 [v0,v1] H n=Tz cal k v0 v1 H n:=(bq Go.Proofs.Tryz.f117 sq iq (by kernel_rfl)).trans (Eq.trans (b:=Tx cal k (Mq cal k k) v0 v1 H n) (by kernel_rfl) (by rw[q117_1]; rfl))
noncomputable def code118:Code:=ak 118
noncomputable def Mv:List ResultVar:=bw 118
noncomputable def B118_0(cal:Cal)(k:Nat)(v0:Value)(H:Hp)(n:Nat):Res:=
boxK 128 v0 H n fun v_1 H_2 n_3=>
bindO (ax P 128 v_1 0) fun v_5=>
bindO (aX v_5) fun a_7=>bindO (az P H_2 3 a_7) fun v_6=>
binK P BinOp.geq 3 (Operand.tmp 4) (Operand.const (Value.int IntKind.i64 0)) v_6 (Value.int IntKind.i64 0) fun v_8=>
bj v_8 true (fun k_a=>
bindO (ax P 128 v_1 0) fun v_e=>
k_a v_e H_2 n_3) H_2 n_3 fun v_b H_c n_d=>
bj v_8 true (fun k_f=>
bindO (aX v_b) fun a_k=>bindO (az P H_c 3 a_k) fun v_j=>
k_f v_j H_c n_d) H_c n_d fun v_g H_h n_i=>
bj v_8 true (fun k_l=>
binK P BinOp.leq 3 (Operand.tmp 8) (Operand.const (Value.int IntKind.i64 1000)) v_g (Value.int IntKind.i64 1000) fun v_p=>
k_l v_p H_h n_i) H_h n_i fun v_m H_n n_o=>
bindO (fV v_8 v_m (Value.bool false)) fun v_q=>
bj v_q true (fun k_s=>
bindO (ax P 128 v_1 1) fun v_w=>
k_s v_w H_n n_o) H_n n_o fun v_t H_u n_v=>
bj v_q true (fun k_x=>
bindO (aX v_t) fun a_12=>bindO (az P H_u 126 a_12) fun v_11=>
k_x v_11 H_u n_v) H_u n_v fun v_y H_z n_10=>
bj v_q true (fun k_13=>
aZ P cal 129 [v_y] H_z n_10 fun v_17 H_18 n_19=>
k_13 v_17 H_18 n_19) H_z n_10 fun v_14 H_15 n_16=>
bindO (fV v_q v_14 (Value.bool false)) fun v_1a=>
bj v_1a true (fun k_1c=>
bindO (ax P 128 v_1 2) fun v_1g=>
k_1c v_1g H_15 n_16) H_15 n_16 fun v_1d H_1e n_1f=>
bj v_1a true (fun k_1h=>
bindO (aX v_1d) fun a_1m=>bindO (az P H_1e 126 a_1m) fun v_1l=>
k_1h v_1l H_1e n_1f) H_1e n_1f fun v_1i H_1j n_1k=>
bj v_1a true (fun k_1n=>
aZ P cal 129 [v_1i] H_1j n_1k fun v_1r H_1s n_1t=>
k_1n v_1r H_1s n_1t) H_1j n_1k fun v_1o H_1p n_1q=>
bindO (fV v_1a v_1o (Value.bool false)) fun v_1u=>
some (v_1u,H_1p,n_1q)
noncomputable def Tk:=B118_0 cal k
theorem h118_0(v0:Value)(H:Hp)(n:Nat):aW P cal A (k+1) 118 [v0] H n=Tk cal k v0 H n:=(bq Go.Proofs.Tryz.f118 code118 Mv (by kernel_rfl)).trans (by kernel_rfl)
noncomputable def pV:Code:=ak 119
noncomputable def eQ:List ResultVar:=bw 119
noncomputable def nZ(cal:Cal)(k:Nat):XR:=(upX 0 (ay P eQ) X0)
noncomputable def FW(m1:Nat):KR:=(fun T H n D=>aY P cal m1 (Lv.a (Lv.b (A 119))) none 119 (cL (cR pV)) (ay P eQ) (nZ cal k) (ay P eQ) (cutT (Lv.a (Lv.b (A 119))).c T) H n D)
noncomputable def zj(m1:Nat):KR:=(cutK (Lv.b (Lv.b (Lv.a (Lv.a (Lv.b (A 119)))))).c (bW P cal (aY P cal m1) none 119 (cR (cR (cR (cL (cL (cR pV)))))) (Lv.b (Lv.b (Lv.b (Lv.a (Lv.a (Lv.b (A 119))))))) (FW cal k m1) (nZ cal k) (ay P eQ)))
noncomputable def K119_pxrllrrl(m1:Nat):XR:=(upX 1 (zj cal k m1) (nZ cal k))
noncomputable def Mw(m1:Nat):=fun(u0 u1 u2 u10 u11:Value) (H:Hp) (n:Nat)=>labK (bW P cal (aY P cal m1) none 119 (cL (cL (cR pV))) (Lv.a (Lv.a (Lv.b (A 119)))) (FW cal k m1) (nZ cal k) (ay P eQ)) (Tr.set (Tr.set (Tr.set (Tr.set (Tr.set Tr.nil 11 (some u11)) 10 (some u10)) 2 (some u2)) 1 (some u1)) 0 (some u0)) H n []
noncomputable def R119_1(m1:Nat):V5:=fun u0 u1 u2 u10 u11 H n=>aY P cal m1 (Lv.a (Lv.b (A 119))) none 119 (cL (cR pV)) (ay P eQ) (nZ cal k) (ay P eQ) (Tr.set (Tr.set (Tr.set (Tr.set (Tr.set Tr.nil 11 (some u11)) 10 (some u10)) 2 (some u2)) 1 (some u1)) 0 (some u0)) H n []
noncomputable def TJ(cal:Cal)(k m1:Nat)(b1:V5)(u0 u1 u2 u10 u11:Value)(H:Hp)(n:Nat):Res:=
binK P BinOp.lss 3 (Operand.tmp 11) (Operand.tmp 10) u11 u10 fun v_a=>
ifK v_a (
bindO (aX u1) fun a_d=>bindO (az P H 97 a_d) fun v_e=>
bindO (nilV v_e) fun v_g=>
bindO (ax P 109 v_g 1) fun v_h=>
bindO (aJ P 107 v_h u11) fun v_i=>
bindO (aX v_i) fun a_j=>bindO (az P H 106 a_j) fun v_k=>
bindO (aX u2) fun a_l=>bindO (az P H 106 a_l) fun v_m=>
aZ P cal 95 [v_k,v_m] H n fun v_n H_o n_p=>
fj v_n true (fun k_r=>
k_r u0 .p H_o n_p) .p H_o n_p fun v_s x_t H_u n_v=>
fj v_n true (fun k_x=>
k_x u11 .p H_u n_v) .p H_u n_v fun v_y x_z H_10 n_11=>
fj v_n true (fun k_13=>
iQ P cal v_s [v_y] H_10 n_11 fun v_18 H_19 n_1a=>
k_13 v_18 .e H_19 n_1a) .e H_10 n_11 fun v_14 x_15 H_16 n_17=>
fj v_n true (fun k_1b=>
bindO (dk P v_14 (Op.unary UnOp.not v_14)) fun v_1g=>
k_1b v_1g .p H_16 n_17) .p H_16 n_17 fun v_1c x_1d H_1e n_1f=>
bindO (fV v_n v_1c (Value.bool false)) fun v_1h=>
ifK v_1h (
some ((Value.tuple ⟨[]⟩),H_1e,n_1f)) (
binK P BinOp.add 3 (Operand.tmp 11) (Operand.const (Value.int IntKind.i64 1)) u11 (Value.int IntKind.i64 1) fun v_1i=>
b1 u0 u1 u2 u10 v_1i H_1e n_1f)) (
some ((Value.tuple ⟨[]⟩),H,n))
noncomputable def FX(m1:Nat):=TJ cal k m1
noncomputable def FY:Nat→V5:=recF (FX cal k) (fun _ _ _ _ _ _ _=>none)
theorem h119_1(m1:Nat):Mw cal k m1=FX cal k m1 (R119_1 cal k m1):=by kernel_rfl
theorem q119_1(m:Nat):Mw cal k m=FY cal k m:=recS (h119_1 cal k) (by kernel_rfl) (fun m=>by kernel_rfl) m
noncomputable def TQ(cal:Cal)(k:Nat)(j1:V5)(v0 v1 v2:Value)(H:Hp)(n:Nat):Res:=
bindO (aX v1) fun a_2=>bindO (az P H 97 a_2) fun v_1=>
bindO (nilV v_1) fun v_3=>
bindO (ax P 109 v_3 0) fun v_4=>
bindO (ax P 41 v_4 2) fun v_5=>
bindO (aX v_5) fun a_7=>bindO (az P H 27 a_7) fun v_6=>
bindO (lenV P 27 v_6) fun v_8=>
j1 v0 v1 v2 v_8 (Value.int IntKind.i64 0) H n
noncomputable def TV:=TQ cal k (FY cal k k)
theorem h119_0(v0 v1 v2:Value)(H:Hp)(n:Nat):aW P cal A (k+1) 119 [v0,v1,v2] H n=TV cal k v0 v1 v2 H n:=(bq Go.Proofs.Tryz.f119 pV eQ (by kernel_rfl)).trans (Eq.trans (b:=TQ cal k (Mw cal k k) v0 v1 v2 H n) (by kernel_rfl) (by rw[q119_1]; rfl))
noncomputable def vV:Code:=ak 120
noncomputable def fy:List ResultVar:=bw 120
noncomputable def xZ(cal:Cal)(k:Nat):XR:=(upX 0 (ay P fy) X0)
noncomputable def qfq(m1:Nat):KR:=(fun T H n D=>aY P cal m1 (Lv.a (Lv.b (A 120))) none 120 (cL (cR vV)) (ay P fy) (xZ cal k) (ay P fy) (cutT (Lv.a (Lv.b (A 120))).c T) H n D)
noncomputable def Mx(m1:Nat):=fun(u0 u1 u3:Value) (H:Hp) (n:Nat)=>labK (bW P cal (aY P cal m1) none 120 (cL (cL (cR vV))) (Lv.a (Lv.a (Lv.b (A 120)))) (qfq cal k m1) (xZ cal k) (ay P fy)) (Tr.set (Tr.set (Tr.set Tr.nil 3 (some u3)) 1 (some u1)) 0 (some u0)) H n []
noncomputable def R120_1(m1:Nat):V3:=fun u0 u1 u3 H n=>aY P cal m1 (Lv.a (Lv.b (A 120))) none 120 (cL (cR vV)) (ay P fy) (xZ cal k) (ay P fy) (Tr.set (Tr.set (Tr.set Tr.nil 3 (some u3)) 1 (some u1)) 0 (some u0)) H n []
noncomputable def B120_1(cal:Cal)(k m1:Nat)(b1:V3)(u0 u1 u3:Value)(H:Hp)(n:Nat):Res:=
binK P BinOp.geq 3 (Operand.tmp 7) (Operand.const (Value.int IntKind.i64 0)) u3 (Value.int IntKind.i64 0) fun v_7=>
ifK v_7 (
bindO (aX u1) fun a_b=>bindO (az P H 98 a_b) fun v_a=>
bindO (aJ P 98 v_a u3) fun v_d=>
bindO (aX v_d) fun a_f=>bindO (az P H 106 a_f) fun v_e=>
iQ P cal u0 [u3,v_e] H n fun v_g H_h n_i=>
bindO (dk P v_g (Op.unary UnOp.not v_g)) fun v_j=>
ifK v_j (
some ((Value.tuple ⟨[]⟩),H_h,n_i)) (
binK P BinOp.sub 3 (Operand.tmp 9) (Operand.const (Value.int IntKind.i64 1)) u3 (Value.int IntKind.i64 1) fun v_l=>
b1 u0 u1 v_l H_h n_i)) (
some ((Value.tuple ⟨[]⟩),H,n))
noncomputable def FZ(m1:Nat):=B120_1 cal k m1
noncomputable def FK:Nat→V3:=recF (FZ cal k) (fun _ _ _ _ _=>none)
theorem h120_1(m1:Nat):Mx cal k m1=FZ cal k m1 (R120_1 cal k m1):=by kernel_rfl
theorem q120_1(m:Nat):Mx cal k m=FK cal k m:=recS (h120_1 cal k) (by kernel_rfl) (fun m=>by kernel_rfl) m
noncomputable def TW(cal:Cal)(k:Nat)(j1:V3)(v0 v1:Value)(H:Hp)(n:Nat):Res:=
bindO (aX v1) fun a_2=>bindO (az P H 98 a_2) fun v_1=>
bindO (lenV P 98 v_1) fun v_3=>
binK P BinOp.sub 3 (Operand.tmp 5) (Operand.const (Value.int IntKind.i64 1)) v_3 (Value.int IntKind.i64 1) fun v_4=>
j1 v0 v1 v_4 H n
noncomputable def TX:=TW cal k (FK cal k k)
theorem h120_0(v0 v1:Value)(H:Hp)(n:Nat):aW P cal A (k+1) 120 [v0,v1] H n=TX cal k v0 v1 H n:=(bq Go.Proofs.Tryz.f120 vV fy (by kernel_rfl)).trans (Eq.trans (b:=TW cal k (Mx cal k k) v0 v1 H n) (by kernel_rfl) (by rw[q120_1]; rfl))
noncomputable def Dv:Code:=ak 121
noncomputable def kZ:List ResultVar:=bw 121
noncomputable def IK(cal:Cal)(k:Nat):XR:=(upX 0 (ay P kZ) X0)
noncomputable def Bj(m1:Nat):KR:=(fun T H n D=>aY P cal m1 (Lv.a (Lv.b (Lv.b (A 121)))) none 121 (cL (cR (cR Dv))) (ay P kZ) (IK cal k) (ay P kZ) (cutT (Lv.a (Lv.b (Lv.b (A 121)))).c T) H n D)
noncomputable def HJ(m1:Nat):XR:=(upX 1 (Bj cal k m1) (IK cal k))
noncomputable def T121_4(m1:Nat):=fun(u0 u1 u2 u3 u4 u10 u11 u12 u13:Value) (H:Hp) (n:Nat)=>labK (bW P cal (aY P cal m1) none 121 (cR (cR (cR (cR (cR (cR (cR (cL (cL (cL (cR (cR Dv)))))))))))) (Lv.b (Lv.b (Lv.b (Lv.b (Lv.b (Lv.b (Lv.b (Lv.a (Lv.a (Lv.a (Lv.b (Lv.b (A 121))))))))))))) (Bj cal k m1) (HJ cal k m1) (ay P kZ)) (Tr.set (Tr.set (Tr.set (Tr.set (Tr.set (Tr.set (Tr.set (Tr.set (Tr.set Tr.nil 13 (some u13)) 12 (some u12)) 11 (some u11)) 10 (some u10)) 4 (some u4)) 3 (some u3)) 2 (some u2)) 1 (some u1)) 0 (some u0)) H n []
noncomputable def T121_3(m1:Nat):=fun(u0 u1 u2 u3 u4 u10 u11 u12 u13 u14:Value) (H:Hp) (n:Nat)=>labK (bW P cal (aY P cal m1) none 121 (cR (cR (cR (cR (cR (cR (cL (cL (cL (cR (cR Dv))))))))))) (Lv.b (Lv.b (Lv.b (Lv.b (Lv.b (Lv.b (Lv.a (Lv.a (Lv.a (Lv.b (Lv.b (A 121)))))))))))) (Bj cal k m1) (HJ cal k m1) (ay P kZ)) (Tr.set (Tr.set (Tr.set (Tr.set (Tr.set (Tr.set (Tr.set (Tr.set (Tr.set (Tr.set Tr.nil 14 (some u14)) 13 (some u13)) 12 (some u12)) 11 (some u11)) 10 (some u10)) 4 (some u4)) 3 (some u3)) 2 (some u2)) 1 (some u1)) 0 (some u0)) H n []
noncomputable def T121_2(m1:Nat):=fun(u0 u1 u2 u3 u4 u10 u11 u12:Value) (H:Hp) (n:Nat)=>labK (bW P cal (aY P cal m1) none 121 (cR (cR (cR (cR (cL (cL (cL (cR (cR Dv))))))))) (Lv.b (Lv.b (Lv.b (Lv.b (Lv.a (Lv.a (Lv.a (Lv.b (Lv.b (A 121)))))))))) (Bj cal k m1) (HJ cal k m1) (ay P kZ)) (Tr.set (Tr.set (Tr.set (Tr.set (Tr.set (Tr.set (Tr.set (Tr.set Tr.nil 12 (some u12)) 11 (some u11)) 10 (some u10)) 4 (some u4)) 3 (some u3)) 2 (some u2)) 1 (some u1)) 0 (some u0)) H n []
noncomputable def T121_1(m1:Nat):=fun(u0 u1 u2 u3 u4 u10 u11:Value) (H:Hp) (n:Nat)=>labK (bW P cal (aY P cal m1) none 121 (cL (cL (cR (cR Dv)))) (Lv.a (Lv.a (Lv.b (Lv.b (A 121))))) (Bj cal k m1) (IK cal k) (ay P kZ)) (Tr.set (Tr.set (Tr.set (Tr.set (Tr.set (Tr.set (Tr.set Tr.nil 11 (some u11)) 10 (some u10)) 4 (some u4)) 3 (some u3)) 2 (some u2)) 1 (some u1)) 0 (some u0)) H n []
noncomputable def NY(m1:Nat):V7:=fun u0 u1 u2 u3 u4 u10 u11 H n=>aY P cal m1 (Lv.a (Lv.b (Lv.b (A 121)))) none 121 (cL (cR (cR Dv))) (ay P kZ) (IK cal k) (ay P kZ) (Tr.set (Tr.set (Tr.set (Tr.set (Tr.set (Tr.set (Tr.set Tr.nil 11 (some u11)) 10 (some u10)) 4 (some u4)) 3 (some u3)) 2 (some u2)) 1 (some u1)) 0 (some u0)) H n []
noncomputable def B121_4(cal:Cal)(k m1:Nat)(b1:V7)(u0 u1 u2 u3 u4 u10 u11 u12 u13:Value)(H:Hp)(n:Nat):Res:=
binK P BinOp.gtr 3 (Operand.tmp 81) (Operand.const (Value.int IntKind.i64 0)) u1 (Value.int IntKind.i64 0) fun v_12=>
fj v_12 true (fun k_14=>
k_14 u4 .p H n) .p H n fun v_15 x_16 H_17 n_18=>
fj v_12 true (fun k_1a=>
k_1a u0 .p H_17 n_18) .p H_17 n_18 fun v_1b x_1c H_1d n_1e=>
fj v_12 true (fun k_1g=>
k_1g u1 .p H_1d n_1e) .p H_1d n_1e fun v_1h x_1i H_1j n_1k=>
fj v_12 true (fun k_1m=>
binK P BinOp.sub 3 (Operand.tmp 86) (Operand.const (Value.int IntKind.i64 1)) v_1h (Value.int IntKind.i64 1) fun v_1r=>
k_1m v_1r .p H_1j n_1k) .p H_1j n_1k fun v_1n x_1o H_1p n_1q=>
fj v_12 true (fun k_1s=>
bindO (aJ P 98 v_1b v_1n) fun v_1x=>
k_1s v_1x .p H_1p n_1q) .p H_1p n_1q fun v_1t x_1u H_1v n_1w=>
fj v_12 true (fun k_1y=>
bindO (aX v_1t) fun a_23=>bindO (az P H_1v 106 a_23) fun v_24=>
k_1y v_24 (.l 106 a_23) H_1v n_1w) .p H_1v n_1w fun v_1z x_20 H_21 n_22=>
fj v_12 true (fun k_25=>
k_25 u0 .p H_21 n_22) .p H_21 n_22 fun v_26 x_27 H_28 n_29=>
fj v_12 true (fun k_2b=>
k_2b u13 .p H_28 n_29) .p H_28 n_29 fun v_2c x_2d H_2e n_2f=>
fj v_12 true (fun k_2h=>
bindO (aJ P 98 v_26 v_2c) fun v_2m=>
k_2h v_2m .p H_2e n_2f) .p H_2e n_2f fun v_2i x_2j H_2k n_2l=>
fj v_12 true (fun k_2n=>
bindO (aX v_2i) fun a_2s=>bindO (az P H_2k 106 a_2s) fun v_2t=>
k_2n v_2t (.l 106 a_2s) H_2k n_2l) .p H_2k n_2l fun v_2o x_2p H_2q n_2r=>
fj v_12 true (fun k_2u=>
iQ P cal v_15 [v_1z,v_2o] H_2q n_2r fun v_2z H_30 n_31=>
k_2u v_2z .e H_30 n_31) .e H_2q n_2r fun v_2v x_2w H_2x n_2y=>
fj v_12 true (fun k_32=>
binK P BinOp.lss 3 (Operand.tmp 94) (Operand.const (Value.int IntKind.i64 0)) v_2v (Value.int IntKind.i64 0) fun v_37=>
k_32 v_37 .p H_2x n_2y) .p H_2x n_2y fun v_33 x_34 H_35 n_36=>
fj v_12 true (fun k_38=>
bindO (dk P v_33 (Op.unary UnOp.not v_33)) fun v_3d=>
k_38 v_3d .p H_35 n_36) .p H_35 n_36 fun v_39 x_3a H_3b n_3c=>
bindO (fV v_12 v_39 (Value.bool false)) fun v_3e=>
ifK v_3e (
aZ P cal 136 [u0,u1,u2,u13,u4] H_3b n_3c fun v_3k H_3l n_3m=>
b1 u0 v_3k u2 u3 u4 u10 u11 H_3l n_3m) (
aZ P cal 137 [u0,u1,u2,u13,u4] H_3b n_3c fun v_3v H_3w n_3x=>
bindO (tupV v_3v 0) fun v_3z=>
bindO (tupV v_3v 1) fun v_40=>
binK P BinOp.sub 3 (Operand.tmp 115) (Operand.tmp 116) v_3z u1 fun v_47=>
binK P BinOp.sub 3 (Operand.tmp 118) (Operand.tmp 119) u2 v_3z fun v_4a=>
binK P BinOp.quo 3 (Operand.tmp 121) (Operand.const (Value.int IntKind.i64 8)) u12 (Value.int IntKind.i64 8) fun v_4e=>
binK P BinOp.lss 3 (Operand.tmp 123) (Operand.tmp 124) v_47 v_4a fun v_4i=>
ifK v_4i (
binK P BinOp.geq 3 (Operand.tmp 126) (Operand.tmp 127) v_47 v_4e fun v_4l=>
aZ P cal 121 [u0,u1,v_3z,u3,u4] H_3w n_3x fun v_4s H_4t n_4u=>
binK P BinOp.add 3 (Operand.tmp 135) (Operand.const (Value.int IntKind.i64 1)) v_3z (Value.int IntKind.i64 1) fun v_4w=>
b1 u0 v_4w u2 u3 u4 v_4l v_40 H_4t n_4u) (
binK P BinOp.geq 3 (Operand.tmp 137) (Operand.tmp 138) v_4a v_4e fun v_50=>
binK P BinOp.add 3 (Operand.tmp 141) (Operand.const (Value.int IntKind.i64 1)) v_3z (Value.int IntKind.i64 1) fun v_54=>
aZ P cal 121 [u0,v_54,u2,u3,u4] H_3w n_3x fun v_58 H_59 n_5a=>
b1 u0 u1 v_3z u3 u4 v_50 v_40 H_59 n_5a))
noncomputable def C121_4(m1:Nat):=B121_4 cal k m1
theorem h121_4(m1:Nat):T121_4 cal k m1=C121_4 cal k m1 (NY cal k m1):=by kernel_rfl
noncomputable def B121_3(cal:Cal)(k m1:Nat)(j4:V9)(b1:V7)(u0 u1 u2 u3 u4 u10 u11 u12 u13 u14:Value)(H:Hp)(n:Nat):Res:=
bj u10 true (fun k_5f=>
k_5f u11 H n) H n fun v_5g H_5h n_5i=>
bindO (fV u10 v_5g (Value.bool false)) fun v_5k=>
bj v_5k true (fun k_5m=>
k_5m u14 H_5h n_5i) H_5h n_5i fun v_5n H_5o n_5p=>
bj v_5k true (fun k_5r=>
binK P BinOp.eql 191 (Operand.tmp 73) (Operand.const (Value.int IntKind.i64 1)) v_5n (Value.int IntKind.i64 1) fun v_5v=>
k_5r v_5v H_5o n_5p) H_5o n_5p fun v_5s H_5t n_5u=>
bindO (fV v_5k v_5s (Value.bool false)) fun v_5w=>
ifK v_5w (
aZ P cal 135 [u0,u1,u2,u4] H_5t n_5u fun v_61 H_62 n_63=>
ifK v_61 (
some ((Value.tuple ⟨[]⟩),H_62,n_63)) (
j4 u0 u1 u2 u3 u4 u10 u11 u12 u13 H_62 n_63)) (
j4 u0 u1 u2 u3 u4 u10 u11 u12 u13 H_5t n_5u)
noncomputable def C121_3(m1:Nat)(b1:V7):=B121_3 cal k m1 (C121_4 cal k m1 b1) b1
theorem h121_3(m1:Nat):T121_3 cal k m1=C121_3 cal k m1 (NY cal k m1):=Eq.trans (b:=B121_3 cal k m1 (T121_4 cal k m1) (NY cal k m1)) (by kernel_rfl) (by rw[h121_4]; rfl)
noncomputable def B121_2(cal:Cal)(k m1:Nat)(j3:V10)(b1:V7)(u0 u1 u2 u3 u4 u10 u11 u12:Value)(H:Hp)(n:Nat):Res:=
aZ P cal 133 [u0,u1,u2,u4] H n fun v_t H_u n_v=>
bindO (tupV v_t 0) fun v_x=>
bindO (tupV v_t 1) fun v_y=>
binK P BinOp.eql 191 (Operand.tmp 55) (Operand.const (Value.int IntKind.i64 2)) v_y (Value.int IntKind.i64 2) fun v_65=>
ifK v_65 (
aZ P cal 134 [u0,u1,u2,u4] H_u n_v fun v_6a H_6b n_6c=>
binK P BinOp.sub 3 (Operand.tmp 62) (Operand.const (Value.int IntKind.i64 1)) u2 (Value.int IntKind.i64 1) fun v_6e=>
binK P BinOp.sub 3 (Operand.tmp 64) (Operand.tmp 65) v_x u1 fun v_6h=>
binK P BinOp.sub 3 (Operand.tmp 63) (Operand.tmp 66) v_6e v_6h fun v_6i=>
j3 u0 u1 u2 u3 u4 u10 u11 u12 v_6i (Value.int IntKind.i64 1) H_6b n_6c) (
j3 u0 u1 u2 u3 u4 u10 u11 u12 v_x v_y H_u n_v)
noncomputable def C121_2(m1:Nat)(b1:V7):=B121_2 cal k m1 (C121_3 cal k m1 b1) b1
theorem h121_2(m1:Nat):T121_2 cal k m1=C121_2 cal k m1 (NY cal k m1):=Eq.trans (b:=B121_2 cal k m1 (T121_3 cal k m1) (NY cal k m1)) (by kernel_rfl) (by rw[h121_3]; rfl)
noncomputable def B121_1(cal:Cal)(k m1:Nat)(j2:V8)(b1:V7)(u0 u1 u2 u3 u4 u10 u11:Value)(H:Hp)(n:Nat):Res:=
binK P BinOp.sub 3 (Operand.tmp 21) (Operand.tmp 22) u2 u1 fun v_5=>
binK P BinOp.leq 3 (Operand.tmp 24) (Operand.const (Value.int IntKind.i64 12)) v_5 (Value.int IntKind.i64 12) fun v_8=>
ifK v_8 (
aZ P cal 130 [u0,u1,u2,u4] H n fun v_d H_e n_f=>
some ((Value.tuple ⟨[]⟩),H_e,n_f)) (
binK P BinOp.eql 3 (Operand.tmp 31) (Operand.const (Value.int IntKind.i64 0)) u3 (Value.int IntKind.i64 0) fun v_h=>
ifK v_h (
aZ P cal 131 [u0,u1,u2,u4] H n fun v_m H_n n_o=>
some ((Value.tuple ⟨[]⟩),H_n,n_o)) (
bindO (dk P u10 (Op.unary UnOp.not u10)) fun v_6m=>
ifK v_6m (
aZ P cal 132 [u0,u1,u2,u4] H n fun v_6r H_6s n_6t=>
binK P BinOp.sub 3 (Operand.tmp 45) (Operand.const (Value.int IntKind.i64 1)) u3 (Value.int IntKind.i64 1) fun v_6v=>
j2 u0 u1 u2 v_6v u4 u10 u11 v_5 H_6s n_6t) (
j2 u0 u1 u2 u3 u4 u10 u11 v_5 H n)))
noncomputable def C121_1(m1:Nat)(b1:V7):=B121_1 cal k m1 (C121_2 cal k m1 b1) b1
noncomputable def S121_1:Nat→V7:=recF (C121_1 cal k) (fun _ _ _ _ _ _ _ _ _=>none)
theorem h121_1(m1:Nat):T121_1 cal k m1=C121_1 cal k m1 (NY cal k m1):=Eq.trans (b:=B121_1 cal k m1 (T121_2 cal k m1) (NY cal k m1)) (by kernel_rfl) (by rw[h121_2]; rfl)
theorem q121_1(m:Nat):T121_1 cal k m=S121_1 cal k m:=recS (h121_1 cal k) (by kernel_rfl) (fun m=>by kernel_rfl) m
noncomputable def B121_0(cal:Cal)(k:Nat)(j1:V7)(v0 v1 v2 v3 v4:Value)(H:Hp)(n:Nat):Res:=
j1 v0 v1 v2 v3 v4 (Value.bool true) (Value.bool true) H n
noncomputable def C121_0:=B121_0 cal k (S121_1 cal k k)
theorem h121_0(v0 v1 v2 v3 v4:Value)(H:Hp)(n:Nat):aW P cal A (k+1) 121 [v0,v1,v2,v3,v4] H n=C121_0 cal k v0 v1 v2 v3 v4 H n:=(bq Go.Proofs.Tryz.f121 Dv kZ (by kernel_rfl)).trans (Eq.trans (b:=B121_0 cal k (T121_1 cal k k) v0 v1 v2 v3 v4 H n) (by kernel_rfl) (by rw[q121_1]; rfl))
noncomputable def code122:Code:=ak 122
noncomputable def results122:List ResultVar:=bw 122
noncomputable def B122_0(cal:Cal)(k:Nat)(v0:Value)(H:Hp)(n:Nat):Res:=
ifK (Value.bool false) (
bindO (dk P v0 (convert 80 187 v0)) fun v_3=>
aZ P cal 138 [v_3] H n fun v_4 H_5 n_6=>
some (v_4,H_5,n_6)) (
aZ P cal 139 [v0] H n fun v_9 H_a n_b=>
some (v_9,H_a,n_b))
noncomputable def C122_0:=B122_0 cal k
theorem h122_0(v0:Value)(H:Hp)(n:Nat):aW P cal A (k+1) 122 [v0] H n=C122_0 cal k v0 H n:=(bq Go.Proofs.Tryz.f122 code122 results122 (by kernel_rfl)).trans (by kernel_rfl)
noncomputable def code123:Code:=ak 123
noncomputable def results123:List ResultVar:=bw 123
noncomputable def B123_0(cal:Cal)(k:Nat)(v0 v1:Value)(H:Hp)(n:Nat):Res:=
aZ P cal 99 [v0] H n fun v_3 H_4 n_5=>
aZ P cal 99 [v1] H_4 n_5 fun v_7 H_8 n_9=>
aZ P cal 92 [v_3,v_7] H_8 n_9 fun v_a H_b n_c=>
some (v_a,H_b,n_c)
noncomputable def C123_0:=B123_0 cal k
theorem h123_0(v0 v1:Value)(H:Hp)(n:Nat):aW P cal A (k+1) 123 [v0,v1] H n=C123_0 cal k v0 v1 H n:=(bq Go.Proofs.Tryz.f123 code123 results123 (by kernel_rfl)).trans (by kernel_rfl)
noncomputable def code124:Code:=ak 124
noncomputable def results124:List ResultVar:=bw 124
noncomputable def B124_0(cal:Cal)(k:Nat)(v0 v1:Value)(H:Hp)(n:Nat):Res:=
binK P BinOp.xor 106 (Operand.tmp 7) (Operand.tmp 8) v0 v1 fun v_4=>
bindO (dk P v_4 (Op.unary UnOp.neg v_4)) fun v_8=>
binK P BinOp.and 106 (Operand.tmp 10) (Operand.tmp 12) v_4 v_8 fun v_9=>
binK P BinOp.and 106 (Operand.tmp 14) (Operand.tmp 15) v1 v_9 fun v_d=>
binK P BinOp.and 106 (Operand.tmp 17) (Operand.tmp 18) v0 v_9 fun v_g=>
aZ P cal 140 [v_d,v_g] H n fun v_h H_i n_j=>
some (v_h,H_i,n_j)
noncomputable def C124_0:=B124_0 cal k
theorem h124_0(v0 v1:Value)(H:Hp)(n:Nat):aW P cal A (k+1) 124 [v0,v1] H n=C124_0 cal k v0 v1 H n:=(bq Go.Proofs.Tryz.f124 code124 results124 (by kernel_rfl)).trans (by kernel_rfl)
noncomputable def PZ:Code:=ak 125
noncomputable def uq:List ResultVar:=bw 125
noncomputable def qmz:KR:=(cutK (Lv.b (Lv.b (A 125))).c (bW P cal (aY P cal k) none 125 (cR (cR (cR PZ))) (Lv.b (Lv.b (Lv.b (A 125)))) (ay P uq) X0 (ay P uq)))
noncomputable def HQ:XR:=(upX 0 (qmz cal k) X0)
noncomputable def K125_prrlrl(m1:Nat):KR:=(fun T H n D=>aY P cal m1 (Lv.a (Lv.b (Lv.a (Lv.b (Lv.b (A 125)))))) none 125 (cL (cR (cL (cR (cR PZ))))) (qmz cal k) (HQ cal k) (ay P uq) (cutT (Lv.a (Lv.b (Lv.a (Lv.b (Lv.b (A 125)))))).c T) H n D)
noncomputable def T125_1(m1:Nat):=fun(u3 u6 u7 u8:Value) (H:Hp) (n:Nat)=>labK (bW P cal (aY P cal m1) none 125 (cL (cL (cR (cL (cR (cR PZ)))))) (Lv.a (Lv.a (Lv.b (Lv.a (Lv.b (Lv.b (A 125))))))) (K125_prrlrl cal k m1) (HQ cal k) (ay P uq)) (Tr.set (Tr.set (Tr.set (Tr.set Tr.nil 8 (some u8)) 7 (some u7)) 6 (some u6)) 3 (some u3)) H n []
noncomputable def R125_1(m1:Nat):V4:=fun u3 u6 u7 u8 H n=>aY P cal m1 (Lv.a (Lv.b (Lv.a (Lv.b (Lv.b (A 125)))))) none 125 (cL (cR (cL (cR (cR PZ))))) (qmz cal k) (HQ cal k) (ay P uq) (Tr.set (Tr.set (Tr.set (Tr.set Tr.nil 8 (some u8)) 7 (some u7)) 6 (some u6)) 3 (some u3)) H n []
noncomputable def B125_1(cal:Cal)(k m1:Nat)(b1:V4)(u3 u6 u7 u8:Value)(H:Hp)(n:Nat):Res:=
binK P BinOp.lss 3 (Operand.tmp 8) (Operand.tmp 7) u8 u7 fun v_6=>
ifK v_6 (
bindO (aJ P 27 u6 u8) fun v_7=>
bindO (aX v_7) fun a_9=>bindO (az P H 3 a_9) fun v_8=>
binK P BinOp.neq 3 (Operand.tmp 12) (Operand.tmp 13) v_8 u3 fun v_d=>
ifK v_d (
some (v_8,H,n)) (
binK P BinOp.add 3 (Operand.tmp 8) (Operand.const (Value.int IntKind.i64 1)) u8 (Value.int IntKind.i64 1) fun v_g=>
b1 u3 u6 u7 v_g H n)) (
some (u3,H,n))
noncomputable def C125_1(m1:Nat):=B125_1 cal k m1
noncomputable def S125_1:Nat→V4:=recF (C125_1 cal k) (fun _ _ _ _ _ _=>none)
theorem h125_1(m1:Nat):T125_1 cal k m1=C125_1 cal k m1 (R125_1 cal k m1):=by kernel_rfl
theorem q125_1(m:Nat):T125_1 cal k m=S125_1 cal k m:=recS (h125_1 cal k) (by kernel_rfl) (fun m=>by kernel_rfl) m
noncomputable def B125_0(cal:Cal)(k:Nat)(j1:V4)(v0:Value)(H:Hp)(n:Nat):Res:=
bindO (lenV P 27 v0) fun v_4=>
j1 (Value.int IntKind.i64 0) v0 v_4 (Value.int IntKind.i64 0) H n
noncomputable def C125_0:=B125_0 cal k (S125_1 cal k k)
theorem h125_0(v0:Value)(H:Hp)(n:Nat):aW P cal A (k+1) 125 [v0] H n=C125_0 cal k v0 H n:=(bq Go.Proofs.Tryz.f125 PZ uq (by kernel_rfl)).trans (Eq.trans (b:=B125_0 cal k (T125_1 cal k k) v0 H n) (by kernel_rfl) (by rw[q125_1]; rfl))
noncomputable def code126:Code:=ak 126
noncomputable def results126:List ResultVar:=bw 126
noncomputable def B126_0(cal:Cal)(k:Nat)(v0:Value)(H:Hp)(n:Nat):Res:=
binK P BinOp.shr 187 (Operand.tmp 3) (Operand.const (Value.int IntKind.u64 24)) v0 (Value.int IntKind.u64 24) fun v_3=>
bindO (uX P 9 (Value.string (ByteArray.mk #[0,1,1,2,1,2,2,3,1,2,2,3,2,3,3,4,1,2,2,3,2,3,3,4,2,3,3,4,3,4,4,5,1,2,2,3,2,3,3,4,2,3,3,4,3,4,4,5,2,3,3,4,3,4,4,5,3,4,4,5,4,5,5,6,1,2,2,3,2,3,3,4,2,3,3,4,3,4,4,5,2,3,3,4,3,4,4,5,3,4,4,5,4,5,5,6,2,3,3,4,3,4,4,5,3,4,4,5,4,5,5,6,3,4,4,5,4,5,5,6,4,5,5,6,5,6,6,7,1,2,2,3,2,3,3,4,2,3,3,4,3,4,4,5,2,3,3,4,3,4,4,5,3,4,4,5,4,5,5,6,2,3,3,4,3,4,4,5,3,4,4,5,4,5,5,6,3,4,4,5,4,5,5,6,4,5,5,6,5,6,6,7,2,3,3,4,3,4,4,5,3,4,4,5,4,5,5,6,3,4,4,5,4,5,5,6,4,5,5,6,5,6,6,7,3,4,4,5,4,5,5,6,4,5,5,6,5,6,6,7,4,5,5,6,5,6,6,7,5,6,6,7,6,7,7,8])) v_3) fun v_4=>
binK P BinOp.shr 187 (Operand.tmp 6) (Operand.const (Value.int IntKind.u64 16)) v0 (Value.int IntKind.u64 16) fun v_6=>
binK P BinOp.and 187 (Operand.tmp 7) (Operand.const (Value.int IntKind.u32 255)) v_6 (Value.int IntKind.u32 255) fun v_7=>
bindO (uX P 9 (Value.string (ByteArray.mk #[0,1,1,2,1,2,2,3,1,2,2,3,2,3,3,4,1,2,2,3,2,3,3,4,2,3,3,4,3,4,4,5,1,2,2,3,2,3,3,4,2,3,3,4,3,4,4,5,2,3,3,4,3,4,4,5,3,4,4,5,4,5,5,6,1,2,2,3,2,3,3,4,2,3,3,4,3,4,4,5,2,3,3,4,3,4,4,5,3,4,4,5,4,5,5,6,2,3,3,4,3,4,4,5,3,4,4,5,4,5,5,6,3,4,4,5,4,5,5,6,4,5,5,6,5,6,6,7,1,2,2,3,2,3,3,4,2,3,3,4,3,4,4,5,2,3,3,4,3,4,4,5,3,4,4,5,4,5,5,6,2,3,3,4,3,4,4,5,3,4,4,5,4,5,5,6,3,4,4,5,4,5,5,6,4,5,5,6,5,6,6,7,2,3,3,4,3,4,4,5,3,4,4,5,4,5,5,6,3,4,4,5,4,5,5,6,4,5,5,6,5,6,6,7,3,4,4,5,4,5,5,6,4,5,5,6,5,6,6,7,4,5,5,6,5,6,6,7,5,6,6,7,6,7,7,8])) v_7) fun v_8=>
binK P BinOp.add 5 (Operand.tmp 5) (Operand.tmp 9) v_4 v_8 fun v_9=>
binK P BinOp.shr 187 (Operand.tmp 11) (Operand.const (Value.int IntKind.u64 8)) v0 (Value.int IntKind.u64 8) fun v_b=>
binK P BinOp.and 187 (Operand.tmp 12) (Operand.const (Value.int IntKind.u32 255)) v_b (Value.int IntKind.u32 255) fun v_c=>
bindO (uX P 9 (Value.string (ByteArray.mk #[0,1,1,2,1,2,2,3,1,2,2,3,2,3,3,4,1,2,2,3,2,3,3,4,2,3,3,4,3,4,4,5,1,2,2,3,2,3,3,4,2,3,3,4,3,4,4,5,2,3,3,4,3,4,4,5,3,4,4,5,4,5,5,6,1,2,2,3,2,3,3,4,2,3,3,4,3,4,4,5,2,3,3,4,3,4,4,5,3,4,4,5,4,5,5,6,2,3,3,4,3,4,4,5,3,4,4,5,4,5,5,6,3,4,4,5,4,5,5,6,4,5,5,6,5,6,6,7,1,2,2,3,2,3,3,4,2,3,3,4,3,4,4,5,2,3,3,4,3,4,4,5,3,4,4,5,4,5,5,6,2,3,3,4,3,4,4,5,3,4,4,5,4,5,5,6,3,4,4,5,4,5,5,6,4,5,5,6,5,6,6,7,2,3,3,4,3,4,4,5,3,4,4,5,4,5,5,6,3,4,4,5,4,5,5,6,4,5,5,6,5,6,6,7,3,4,4,5,4,5,5,6,4,5,5,6,5,6,6,7,4,5,5,6,5,6,6,7,5,6,6,7,6,7,7,8])) v_c) fun v_d=>
binK P BinOp.add 5 (Operand.tmp 10) (Operand.tmp 14) v_9 v_d fun v_e=>
binK P BinOp.and 187 (Operand.tmp 16) (Operand.const (Value.int IntKind.u32 255)) v0 (Value.int IntKind.u32 255) fun v_g=>
bindO (uX P 9 (Value.string (ByteArray.mk #[0,1,1,2,1,2,2,3,1,2,2,3,2,3,3,4,1,2,2,3,2,3,3,4,2,3,3,4,3,4,4,5,1,2,2,3,2,3,3,4,2,3,3,4,3,4,4,5,2,3,3,4,3,4,4,5,3,4,4,5,4,5,5,6,1,2,2,3,2,3,3,4,2,3,3,4,3,4,4,5,2,3,3,4,3,4,4,5,3,4,4,5,4,5,5,6,2,3,3,4,3,4,4,5,3,4,4,5,4,5,5,6,3,4,4,5,4,5,5,6,4,5,5,6,5,6,6,7,1,2,2,3,2,3,3,4,2,3,3,4,3,4,4,5,2,3,3,4,3,4,4,5,3,4,4,5,4,5,5,6,2,3,3,4,3,4,4,5,3,4,4,5,4,5,5,6,3,4,4,5,4,5,5,6,4,5,5,6,5,6,6,7,2,3,3,4,3,4,4,5,3,4,4,5,4,5,5,6,3,4,4,5,4,5,5,6,4,5,5,6,5,6,6,7,3,4,4,5,4,5,5,6,4,5,5,6,5,6,6,7,4,5,5,6,5,6,6,7,5,6,6,7,6,7,7,8])) v_g) fun v_h=>
binK P BinOp.add 5 (Operand.tmp 15) (Operand.tmp 18) v_e v_h fun v_i=>
bindO (dk P v_i (convert 5 3 v_i)) fun v_j=>
some (v_j,H,n)
noncomputable def C126_0:=B126_0 cal k
theorem h126_0(v0:Value)(H:Hp)(n:Nat):aW P cal A (k+1) 126 [v0] H n=C126_0 cal k v0 H n:=(bq Go.Proofs.Tryz.f126 code126 results126 (by kernel_rfl)).trans (by kernel_rfl)
end Go.Proofs.YtcjnaeimeilomaaGreat.G
end
end
section
open Go Go.Ev
set_option maxRecDepth 1000000
noncomputable section
namespace Go.Proofs.YtcjnaeimeilomaaGreat.G
variable (cal:Cal) (k:Nat)
noncomputable def code127:Code:=ak 127
noncomputable def results127:List ResultVar:=bw 127
noncomputable def B127_0(cal:Cal)(k:Nat)(v0:Value)(H:Hp)(n:Nat):Res:=
binK P BinOp.shr 189 (Operand.tmp 3) (Operand.const (Value.int IntKind.u64 1)) v0 (Value.int IntKind.u64 1) fun v_3=>
binK P BinOp.and 189 (Operand.tmp 4) (Operand.const (Value.int IntKind.u64 6148914691236517205)) v_3 (Value.int IntKind.u64 6148914691236517205) fun v_4=>
binK P BinOp.and 189 (Operand.tmp 6) (Operand.const (Value.int IntKind.u64 6148914691236517205)) v0 (Value.int IntKind.u64 6148914691236517205) fun v_6=>
binK P BinOp.add 189 (Operand.tmp 5) (Operand.tmp 7) v_4 v_6 fun v_7=>
binK P BinOp.shr 189 (Operand.tmp 9) (Operand.const (Value.int IntKind.u64 2)) v_7 (Value.int IntKind.u64 2) fun v_a=>
binK P BinOp.and 189 (Operand.tmp 10) (Operand.const (Value.int IntKind.u64 3689348814741910323)) v_a (Value.int IntKind.u64 3689348814741910323) fun v_b=>
binK P BinOp.and 189 (Operand.tmp 12) (Operand.const (Value.int IntKind.u64 3689348814741910323)) v_7 (Value.int IntKind.u64 3689348814741910323) fun v_d=>
binK P BinOp.add 189 (Operand.tmp 11) (Operand.tmp 13) v_b v_d fun v_e=>
binK P BinOp.shr 189 (Operand.tmp 15) (Operand.const (Value.int IntKind.u64 4)) v_e (Value.int IntKind.u64 4) fun v_h=>
binK P BinOp.add 189 (Operand.tmp 16) (Operand.tmp 17) v_h v_e fun v_j=>
binK P BinOp.and 189 (Operand.tmp 18) (Operand.const (Value.int IntKind.u64 1085102592571150095)) v_j (Value.int IntKind.u64 1085102592571150095) fun v_k=>
binK P BinOp.shr 189 (Operand.tmp 21) (Operand.const (Value.int IntKind.u64 8)) v_k (Value.int IntKind.u64 8) fun v_o=>
binK P BinOp.add 189 (Operand.tmp 20) (Operand.tmp 22) v_k v_o fun v_p=>
binK P BinOp.shr 189 (Operand.tmp 25) (Operand.const (Value.int IntKind.u64 16)) v_p (Value.int IntKind.u64 16) fun v_t=>
binK P BinOp.add 189 (Operand.tmp 24) (Operand.tmp 26) v_p v_t fun v_u=>
binK P BinOp.shr 189 (Operand.tmp 29) (Operand.const (Value.int IntKind.u64 32)) v_u (Value.int IntKind.u64 32) fun v_y=>
binK P BinOp.add 189 (Operand.tmp 28) (Operand.tmp 30) v_u v_y fun v_z=>
bindO (dk P v_z (convert 189 3 v_z)) fun v_12=>
binK P BinOp.and 3 (Operand.tmp 33) (Operand.const (Value.int IntKind.i64 127)) v_12 (Value.int IntKind.i64 127) fun v_13=>
some (v_13,H,n)
noncomputable def C127_0:=B127_0 cal k
theorem h127_0(v0:Value)(H:Hp)(n:Nat):aW P cal A (k+1) 127 [v0] H n=C127_0 cal k v0 H n:=(bq Go.Proofs.Tryz.f127 code127 results127 (by kernel_rfl)).trans (by kernel_rfl)
noncomputable def code128:Code:=ak 128
noncomputable def My:List ResultVar:=bw 128
noncomputable def B128_0(cal:Cal)(k:Nat)(v0 v1:Value)(H:Hp)(n:Nat):Res:=
boxK 39 v0 H n fun v_1 H_2 n_3=>
binK P BinOp.geq 3 (Operand.tmp 5) (Operand.const (Value.int IntKind.i64 0)) v1 (Value.int IntKind.i64 0) fun v_6=>
bj v_6 true (fun k_8=>
k_8 v1 H_2 n_3) H_2 n_3 fun v_9 H_a n_b=>
bj v_6 true (fun k_d=>
bindO (ax P 39 v_1 0) fun v_h=>
k_d v_h H_a n_b) H_a n_b fun v_e H_f n_g=>
bj v_6 true (fun k_i=>
bindO (aX v_e) fun a_n=>bindO (az P H_f 35 a_n) fun v_m=>
k_i v_m H_f n_g) H_f n_g fun v_j H_k n_l=>
bj v_6 true (fun k_o=>
bindO (lenV P 35 v_j) fun v_s=>
k_o v_s H_k n_l) H_k n_l fun v_p H_q n_r=>
bj v_6 true (fun k_t=>
binK P BinOp.lss 3 (Operand.tmp 8) (Operand.tmp 11) v_9 v_p fun v_x=>
k_t v_x H_q n_r) H_q n_r fun v_u H_v n_w=>
bindO (fV v_6 v_u (Value.bool false)) fun v_y=>
some (v_y,H_v,n_w)
noncomputable def TY:=B128_0 cal k
theorem h128_0(v0 v1:Value)(H:Hp)(n:Nat):aW P cal A (k+1) 128 [v0,v1] H n=TY cal k v0 v1 H n:=(bq Go.Proofs.Tryz.f128 code128 My (by kernel_rfl)).trans (by kernel_rfl)
noncomputable def code129:Code:=ak 129
noncomputable def Mz:List ResultVar:=bw 129
noncomputable def B129_0(cal:Cal)(k:Nat)(v0:Value)(H:Hp)(n:Nat):Res:=
boxK 126 v0 H n fun v_1 H_2 n_3=>
bindO (ax P 126 v_1 0) fun v_5=>
bindO (aX v_5) fun a_7=>bindO (az P H_2 3 a_7) fun v_6=>
binK P BinOp.geq 3 (Operand.tmp 4) (Operand.const (Value.int IntKind.i64 0)) v_6 (Value.int IntKind.i64 0) fun v_8=>
bj v_8 true (fun k_a=>
bindO (ax P 126 v_1 0) fun v_e=>
k_a v_e H_2 n_3) H_2 n_3 fun v_b H_c n_d=>
bj v_8 true (fun k_f=>
bindO (aX v_b) fun a_k=>bindO (az P H_c 3 a_k) fun v_j=>
k_f v_j H_c n_d) H_c n_d fun v_g H_h n_i=>
bj v_8 true (fun k_l=>
bindO (ax P 126 v_1 1) fun v_p=>
k_l v_p H_h n_i) H_h n_i fun v_m H_n n_o=>
bj v_8 true (fun k_q=>
bindO (aX v_m) fun a_v=>bindO (az P H_n 3 a_v) fun v_u=>
k_q v_u H_n n_o) H_n n_o fun v_r H_s n_t=>
bj v_8 true (fun k_w=>
binK P BinOp.leq 3 (Operand.tmp 8) (Operand.tmp 10) v_g v_r fun v_10=>
k_w v_10 H_s n_t) H_s n_t fun v_x H_y n_z=>
bindO (fV v_8 v_x (Value.bool false)) fun v_11=>
bj v_11 true (fun k_13=>
bindO (ax P 126 v_1 1) fun v_17=>
k_13 v_17 H_y n_z) H_y n_z fun v_14 H_15 n_16=>
bj v_11 true (fun k_18=>
bindO (aX v_14) fun a_1d=>bindO (az P H_15 3 a_1d) fun v_1c=>
k_18 v_1c H_15 n_16) H_15 n_16 fun v_19 H_1a n_1b=>
bj v_11 true (fun k_1e=>
binK P BinOp.leq 3 (Operand.tmp 15) (Operand.const (Value.int IntKind.i64 1000)) v_19 (Value.int IntKind.i64 1000) fun v_1i=>
k_1e v_1i H_1a n_1b) H_1a n_1b fun v_1f H_1g n_1h=>
bindO (fV v_11 v_1f (Value.bool false)) fun v_1j=>
some (v_1j,H_1g,n_1h)
noncomputable def TZ:=B129_0 cal k
theorem h129_0(v0:Value)(H:Hp)(n:Nat):aW P cal A (k+1) 129 [v0] H n=TZ cal k v0 H n:=(bq Go.Proofs.Tryz.f129 code129 Mz (by kernel_rfl)).trans (by kernel_rfl)
noncomputable def zz:Code:=ak 130
noncomputable def jX:List ResultVar:=bw 130
noncomputable def HV(cal:Cal)(k:Nat):XR:=(upX 0 (ay P jX) X0)
noncomputable def K130_prl(m1:Nat):KR:=(fun T H n D=>aY P cal m1 (Lv.a (Lv.b (A 130))) none 130 (cL (cR zz)) (ay P jX) (HV cal k) (ay P jX) (cutT (Lv.a (Lv.b (A 130))).c T) H n D)
noncomputable def Dw(m1:Nat):KR:=(cutK (Lv.b (Lv.a (Lv.a (Lv.b (A 130))))).c (bW P cal (aY P cal m1) none 130 (cR (cR (cL (cL (cR zz))))) (Lv.b (Lv.b (Lv.a (Lv.a (Lv.b (A 130)))))) (K130_prl cal k m1) (HV cal k) (ay P jX)))
noncomputable def K130_pxrllrl(m1:Nat):XR:=(upX 1 (Dw cal k m1) (HV cal k))
noncomputable def yQ(m1:Nat):XR:=(upX 2 (Dw cal k m1) (K130_pxrllrl cal k m1))
noncomputable def K130_prllrllrl(m1:Nat)(m2:Nat):KR:=(fun T H n D=>aY P cal m2 (Lv.a (Lv.b (Lv.a (Lv.a (Lv.b (Lv.a (Lv.a (Lv.b (A 130))))))))) none 130 (cL (cR (cL (cL (cR (cL (cL (cR zz)))))))) (Dw cal k m1) (yQ cal k m1) (ay P jX) (cutT (Lv.a (Lv.b (Lv.a (Lv.a (Lv.b (Lv.a (Lv.a (Lv.b (A 130))))))))).c T) H n D)
noncomputable def T130_2(m1 m2:Nat):=fun(u0 u1 u2 u3 u8 u9:Value) (H:Hp) (n:Nat)=>labK (bW P cal (aY P cal m2) none 130 (cL (cL (cR (cL (cL (cR (cL (cL (cR zz))))))))) (Lv.a (Lv.a (Lv.b (Lv.a (Lv.a (Lv.b (Lv.a (Lv.a (Lv.b (A 130)))))))))) (K130_prllrllrl cal k m1 m2) (yQ cal k m1) (ay P jX)) (Tr.set (Tr.set (Tr.set (Tr.set (Tr.set (Tr.set Tr.nil 9 (some u9)) 8 (some u8)) 3 (some u3)) 2 (some u2)) 1 (some u1)) 0 (some u0)) H n []
noncomputable def R130_2(m1 m2:Nat):V6:=fun u0 u1 u2 u3 u8 u9 H n=>aY P cal m2 (Lv.a (Lv.b (Lv.a (Lv.a (Lv.b (Lv.a (Lv.a (Lv.b (A 130))))))))) none 130 (cL (cR (cL (cL (cR (cL (cL (cR zz)))))))) (Dw cal k m1) (yQ cal k m1) (ay P jX) (Tr.set (Tr.set (Tr.set (Tr.set (Tr.set (Tr.set Tr.nil 9 (some u9)) 8 (some u8)) 3 (some u3)) 2 (some u2)) 1 (some u1)) 0 (some u0)) H n []
noncomputable def T130_1(m1:Nat):=fun(u0 u1 u2 u3 u8:Value) (H:Hp) (n:Nat)=>labK (bW P cal (aY P cal m1) none 130 (cL (cL (cR zz))) (Lv.a (Lv.a (Lv.b (A 130)))) (K130_prl cal k m1) (HV cal k) (ay P jX)) (Tr.set (Tr.set (Tr.set (Tr.set (Tr.set Tr.nil 8 (some u8)) 3 (some u3)) 2 (some u2)) 1 (some u1)) 0 (some u0)) H n []
noncomputable def R130_1(m1:Nat):V5:=fun u0 u1 u2 u3 u8 H n=>aY P cal m1 (Lv.a (Lv.b (A 130))) none 130 (cL (cR zz)) (ay P jX) (HV cal k) (ay P jX) (Tr.set (Tr.set (Tr.set (Tr.set (Tr.set Tr.nil 8 (some u8)) 3 (some u3)) 2 (some u2)) 1 (some u1)) 0 (some u0)) H n []
noncomputable def B130_2(cal:Cal)(k m1 m2:Nat)(b1:V5)(b2:V6)(u0 u1 u2 u3 u8 u9:Value)(H:Hp)(n:Nat):Res:=
binK P BinOp.gtr 3 (Operand.tmp 18) (Operand.tmp 19) u9 u1 fun v_b=>
fj v_b true (fun k_d=>
k_d u3 .p H n) .p H n fun v_e x_f H_g n_h=>
fj v_b true (fun k_j=>
k_j u0 .p H_g n_h) .p H_g n_h fun v_k x_l H_m n_n=>
fj v_b true (fun k_p=>
k_p u9 .p H_m n_n) .p H_m n_n fun v_q x_r H_s n_t=>
fj v_b true (fun k_v=>
bindO (aJ P 98 v_k v_q) fun v_10=>
k_v v_10 .p H_s n_t) .p H_s n_t fun v_w x_x H_y n_z=>
fj v_b true (fun k_11=>
bindO (aX v_w) fun a_16=>bindO (az P H_y 106 a_16) fun v_17=>
k_11 v_17 (.l 106 a_16) H_y n_z) .p H_y n_z fun v_12 x_13 H_14 n_15=>
fj v_b true (fun k_18=>
k_18 u0 .p H_14 n_15) .p H_14 n_15 fun v_19 x_1a H_1b n_1c=>
fj v_b true (fun k_1e=>
k_1e u9 .p H_1b n_1c) .p H_1b n_1c fun v_1f x_1g H_1h n_1i=>
fj v_b true (fun k_1k=>
binK P BinOp.sub 3 (Operand.tmp 28) (Operand.const (Value.int IntKind.i64 1)) v_1f (Value.int IntKind.i64 1) fun v_1p=>
k_1k v_1p .p H_1h n_1i) .p H_1h n_1i fun v_1l x_1m H_1n n_1o=>
fj v_b true (fun k_1q=>
bindO (aJ P 98 v_19 v_1l) fun v_1v=>
k_1q v_1v .p H_1n n_1o) .p H_1n n_1o fun v_1r x_1s H_1t n_1u=>
fj v_b true (fun k_1w=>
bindO (aX v_1r) fun a_21=>bindO (az P H_1t 106 a_21) fun v_22=>
k_1w v_22 (.l 106 a_21) H_1t n_1u) .p H_1t n_1u fun v_1x x_1y H_1z n_20=>
fj v_b true (fun k_23=>
iQ P cal v_e [v_12,v_1x] H_1z n_20 fun v_28 H_29 n_2a=>
k_23 v_28 .e H_29 n_2a) .e H_1z n_20 fun v_24 x_25 H_26 n_27=>
fj v_b true (fun k_2b=>
binK P BinOp.lss 3 (Operand.tmp 32) (Operand.const (Value.int IntKind.i64 0)) v_24 (Value.int IntKind.i64 0) fun v_2g=>
k_2b v_2g .p H_26 n_27) .p H_26 n_27 fun v_2c x_2d H_2e n_2f=>
bindO (fV v_b v_2c (Value.bool false)) fun v_2h=>
ifK v_2h (
binK P BinOp.sub 3 (Operand.tmp 40) (Operand.const (Value.int IntKind.i64 1)) u9 (Value.int IntKind.i64 1) fun v_2m=>
binK P BinOp.sub 3 (Operand.tmp 43) (Operand.const (Value.int IntKind.i64 1)) u9 (Value.int IntKind.i64 1) fun v_2p=>
bindO (aJ P 98 u0 v_2p) fun v_2q=>
bindO (aX v_2q) fun a_2r=>bindO (az P H_2e 106 a_2r) fun v_2s=>
bindO (aJ P 98 u0 u9) fun v_2v=>
bindO (aX v_2v) fun a_2w=>bindO (az P H_2e 106 a_2w) fun v_2x=>
bindO (aJ P 98 u0 u9) fun v_2y=>
bindO (dz P 106 v_2y v_2s H_2e) fun H_30=>
bindO (aJ P 98 u0 v_2m) fun v_31=>
bindO (dz P 106 v_31 v_2x H_30) fun H_33=>
binK P BinOp.sub 3 (Operand.tmp 35) (Operand.const (Value.int IntKind.i64 1)) u9 (Value.int IntKind.i64 1) fun v_35=>
b2 u0 u1 u2 u3 u8 v_35 H_33 n_2f) (
binK P BinOp.add 3 (Operand.tmp 15) (Operand.const (Value.int IntKind.i64 1)) u8 (Value.int IntKind.i64 1) fun v_38=>
b1 u0 u1 u2 u3 v_38 H_2e n_2f)
noncomputable def C130_2(m1 m2:Nat):=B130_2 cal k m1 m2
noncomputable def S130_2(m1:Nat)(b1:V5):Nat→V6:=fun m=>Nat.rec (motive:=fun _=>V6) (C130_2 cal k m1 0 b1 (fun _ _ _ _ _ _ _ _=>none)) (fun m ih=>C130_2 cal k m1 (m+1) b1 ih) m
theorem h130_2(m1 m2:Nat):T130_2 cal k m1 m2=C130_2 cal k m1 m2 (R130_1 cal k m1) (R130_2 cal k m1 m2):=by kernel_rfl
theorem q130_2(m1:Nat)(m:Nat):T130_2 cal k m1 m=S130_2 cal k m1 (R130_1 cal k m1) m:=recS (h130_2 cal k m1) (by kernel_rfl) (fun m=>by kernel_rfl) m
noncomputable def B130_1(cal:Cal)(k m1:Nat)(j2:V6)(b1:V5)(u0 u1 u2 u3 u8:Value)(H:Hp)(n:Nat):Res:=
binK P BinOp.lss 3 (Operand.tmp 12) (Operand.tmp 13) u8 u2 fun v_6=>
ifK v_6 (
j2 u0 u1 u2 u3 u8 u8 H n) (
some ((Value.tuple ⟨[]⟩),H,n))
noncomputable def C130_1(m1:Nat)(b1:V5):=B130_1 cal k m1 (S130_2 cal k m1 b1 m1) b1
noncomputable def S130_1:Nat→V5:=recF (C130_1 cal k) (fun _ _ _ _ _ _ _=>none)
theorem h130_1(m1:Nat):T130_1 cal k m1=C130_1 cal k m1 (R130_1 cal k m1):=Eq.trans (b:=B130_1 cal k m1 (T130_2 cal k m1 m1) (R130_1 cal k m1)) (by kernel_rfl) (by rw[q130_2]; rfl)
theorem q130_1(m:Nat):T130_1 cal k m=S130_1 cal k m:=recS (h130_1 cal k) (by kernel_rfl) (fun m=>by kernel_rfl) m
noncomputable def B130_0(cal:Cal)(k:Nat)(j1:V5)(v0 v1 v2 v3:Value)(H:Hp)(n:Nat):Res:=
binK P BinOp.add 3 (Operand.tmp 10) (Operand.const (Value.int IntKind.i64 1)) v1 (Value.int IntKind.i64 1) fun v_2=>
j1 v0 v1 v2 v3 v_2 H n
noncomputable def C130_0:=B130_0 cal k (S130_1 cal k k)
theorem h130_0(v0 v1 v2 v3:Value)(H:Hp)(n:Nat):aW P cal A (k+1) 130 [v0,v1,v2,v3] H n=C130_0 cal k v0 v1 v2 v3 H n:=(bq Go.Proofs.Tryz.f130 zz jX (by kernel_rfl)).trans (Eq.trans (b:=B130_0 cal k (T130_1 cal k k) v0 v1 v2 v3 H n) (by kernel_rfl) (by rw[q130_1]; rfl))
noncomputable def YZ:Code:=ak 134
noncomputable def qX:List ResultVar:=bw 134
noncomputable def Vz(cal:Cal)(k:Nat):XR:=(upX 0 (ay P qX) X0)
noncomputable def K134_prrl(m1:Nat):KR:=(fun T H n D=>aY P cal m1 (Lv.a (Lv.b (Lv.b (A 134)))) none 134 (cL (cR (cR YZ))) (ay P qX) (Vz cal k) (ay P qX) (cutT (Lv.a (Lv.b (Lv.b (A 134)))).c T) H n D)
noncomputable def T134_1(m1:Nat):=fun(u0 u8 u9:Value) (H:Hp) (n:Nat)=>labK (bW P cal (aY P cal m1) none 134 (cL (cL (cR (cR YZ)))) (Lv.a (Lv.a (Lv.b (Lv.b (A 134))))) (K134_prrl cal k m1) (Vz cal k) (ay P qX)) (Tr.set (Tr.set (Tr.set Tr.nil 9 (some u9)) 8 (some u8)) 0 (some u0)) H n []
noncomputable def R134_1(m1:Nat):V3:=fun u0 u8 u9 H n=>aY P cal m1 (Lv.a (Lv.b (Lv.b (A 134)))) none 134 (cL (cR (cR YZ))) (ay P qX) (Vz cal k) (ay P qX) (Tr.set (Tr.set (Tr.set Tr.nil 9 (some u9)) 8 (some u8)) 0 (some u0)) H n []
noncomputable def B134_1(cal:Cal)(k m1:Nat)(b1:V3)(u0 u8 u9:Value)(H:Hp)(n:Nat):Res:=
binK P BinOp.lss 3 (Operand.tmp 13) (Operand.tmp 14) u8 u9 fun v_8=>
ifK v_8 (
bindO (aJ P 98 u0 u9) fun v_f=>
bindO (aX v_f) fun a_g=>bindO (az P H 106 a_g) fun v_h=>
bindO (aJ P 98 u0 u8) fun v_k=>
bindO (aX v_k) fun a_l=>bindO (az P H 106 a_l) fun v_m=>
bindO (aJ P 98 u0 u8) fun v_n=>
bindO (dz P 106 v_n v_h H) fun H_p=>
bindO (aJ P 98 u0 u9) fun v_q=>
bindO (dz P 106 v_q v_m H_p) fun H_s=>
binK P BinOp.add 3 (Operand.tmp 30) (Operand.const (Value.int IntKind.i64 1)) u8 (Value.int IntKind.i64 1) fun v_u=>
binK P BinOp.sub 3 (Operand.tmp 32) (Operand.const (Value.int IntKind.i64 1)) u9 (Value.int IntKind.i64 1) fun v_x=>
b1 u0 v_u v_x H_s n) (
some ((Value.tuple ⟨[]⟩),H,n))
noncomputable def C134_1(m1:Nat):=B134_1 cal k m1
noncomputable def S134_1:Nat→V3:=recF (C134_1 cal k) (fun _ _ _ _ _=>none)
theorem h134_1(m1:Nat):T134_1 cal k m1=C134_1 cal k m1 (R134_1 cal k m1):=by kernel_rfl
theorem q134_1(m:Nat):T134_1 cal k m=S134_1 cal k m:=recS (h134_1 cal k) (by kernel_rfl) (fun m=>by kernel_rfl) m
noncomputable def B134_0(cal:Cal)(k:Nat)(j1:V3)(v0 v1 v2 v3:Value)(H:Hp)(n:Nat):Res:=
binK P BinOp.sub 3 (Operand.tmp 11) (Operand.const (Value.int IntKind.i64 1)) v2 (Value.int IntKind.i64 1) fun v_4=>
j1 v0 v1 v_4 H n
noncomputable def C134_0:=B134_0 cal k (S134_1 cal k k)
theorem h134_0(v0 v1 v2 v3:Value)(H:Hp)(n:Nat):aW P cal A (k+1) 134 [v0,v1,v2,v3] H n=C134_0 cal k v0 v1 v2 v3 H n:=(bq Go.Proofs.Tryz.f134 YZ qX (by kernel_rfl)).trans (Eq.trans (b:=B134_0 cal k (T134_1 cal k k) v0 v1 v2 v3 H n) (by kernel_rfl) (by rw[q134_1]; rfl))
noncomputable def code138:Code:=ak 138
noncomputable def yV:List ResultVar:=bw 138
noncomputable def T138_2:=fun(u0 u2:Value) (H:Hp) (n:Nat)=>labK (bW P cal (aY P cal k) none 138 (cR (cR (cR code138))) (Lv.b (Lv.b (Lv.b (A 138)))) (ay P yV) X0 (ay P yV)) (Tr.set (Tr.set Tr.nil 2 (some u2)) 0 (some u0)) H n []
noncomputable def T138_1:=fun(u0 u2:Value) (H:Hp) (n:Nat)=>labK (bW P cal (aY P cal k) none 138 (cR (cR code138)) (Lv.b (Lv.b (A 138))) (ay P yV) X0 (ay P yV)) (Tr.set (Tr.set Tr.nil 2 (some u2)) 0 (some u0)) H n []
noncomputable def B138_2(cal:Cal)(k:Nat)(u0 u2:Value)(H:Hp)(n:Nat):Res:=
bindO (dk P u0 (convert 187 5 u0)) fun v_4=>
bindO (uX P 9 (Value.string (ByteArray.mk #[0,1,2,2,3,3,3,3,4,4,4,4,4,4,4,4,5,5,5,5,5,5,5,5,5,5,5,5,5,5,5,5,6,6,6,6,6,6,6,6,6,6,6,6,6,6,6,6,6,6,6,6,6,6,6,6,6,6,6,6,6,6,6,6,7,7,7,7,7,7,7,7,7,7,7,7,7,7,7,7,7,7,7,7,7,7,7,7,7,7,7,7,7,7,7,7,7,7,7,7,7,7,7,7,7,7,7,7,7,7,7,7,7,7,7,7,7,7,7,7,7,7,7,7,7,7,7,7,8,8,8,8,8,8,8,8,8,8,8,8,8,8,8,8,8,8,8,8,8,8,8,8,8,8,8,8,8,8,8,8,8,8,8,8,8,8,8,8,8,8,8,8,8,8,8,8,8,8,8,8,8,8,8,8,8,8,8,8,8,8,8,8,8,8,8,8,8,8,8,8,8,8,8,8,8,8,8,8,8,8,8,8,8,8,8,8,8,8,8,8,8,8,8,8,8,8,8,8,8,8,8,8,8,8,8,8,8,8,8,8,8,8,8,8,8,8,8,8,8,8,8,8,8,8,8,8])) v_4) fun v_5=>
bindO (dk P v_5 (convert 5 3 v_5)) fun v_6=>
binK P BinOp.add 3 (Operand.tmp 13) (Operand.tmp 17) u2 v_6 fun v_7=>
some (v_7,H,n)
noncomputable def C138_2:=B138_2 cal k
theorem h138_2:T138_2 cal k=C138_2 cal k:=by kernel_rfl
noncomputable def B138_1(cal:Cal)(k:Nat)(j2:V2)(u0 u2:Value)(H:Hp)(n:Nat):Res:=
binK P BinOp.geq 187 (Operand.tmp 7) (Operand.const (Value.int IntKind.u32 256)) u0 (Value.int IntKind.u32 256) fun v_a=>
ifK v_a (
binK P BinOp.shr 187 (Operand.tmp 9) (Operand.const (Value.int IntKind.u64 8)) u0 (Value.int IntKind.u64 8) fun v_c=>
binK P BinOp.add 3 (Operand.tmp 11) (Operand.const (Value.int IntKind.i64 8)) u2 (Value.int IntKind.i64 8) fun v_f=>
j2 v_c v_f H n) (
j2 u0 u2 H n)
noncomputable def C138_1:=B138_1 cal k (C138_2 cal k)
theorem h138_1:T138_1 cal k=C138_1 cal k:=Eq.trans (b:=B138_1 cal k (T138_2 cal k)) (by kernel_rfl) (by rw[h138_2]; rfl)
noncomputable def B138_0(cal:Cal)(k:Nat)(j1:V2)(v0:Value)(H:Hp)(n:Nat):Res:=
binK P BinOp.geq 187 (Operand.tmp 3) (Operand.const (Value.int IntKind.u32 65536)) v0 (Value.int IntKind.u32 65536) fun v_i=>
ifK v_i (
binK P BinOp.shr 187 (Operand.tmp 5) (Operand.const (Value.int IntKind.u64 16)) v0 (Value.int IntKind.u64 16) fun v_k=>
j1 v_k (Value.int IntKind.i64 16) H n) (
j1 v0 (Value.int IntKind.i64 0) H n)
noncomputable def C138_0:=B138_0 cal k (C138_1 cal k)
theorem h138_0(v0:Value)(H:Hp)(n:Nat):aW P cal A (k+1) 138 [v0] H n=C138_0 cal k v0 H n:=(bq Go.Proofs.Tryz.f138 code138 yV (by kernel_rfl)).trans (Eq.trans (b:=B138_0 cal k (T138_1 cal k) v0 H n) (by kernel_rfl) (by rw[h138_1]; rfl))
noncomputable def Zj:Code:=ak 139
noncomputable def qY:List ResultVar:=bw 139
noncomputable def T139_3:=fun(u0 u2:Value) (H:Hp) (n:Nat)=>labK (bW P cal (aY P cal k) none 139 (cR (cR (cR (cR Zj)))) (Lv.b (Lv.b (Lv.b (Lv.b (A 139))))) (ay P qY) X0 (ay P qY)) (Tr.set (Tr.set Tr.nil 2 (some u2)) 0 (some u0)) H n []
noncomputable def T139_2:=fun(u0 u2:Value) (H:Hp) (n:Nat)=>labK (bW P cal (aY P cal k) none 139 (cR (cR (cR Zj))) (Lv.b (Lv.b (Lv.b (A 139)))) (ay P qY) X0 (ay P qY)) (Tr.set (Tr.set Tr.nil 2 (some u2)) 0 (some u0)) H n []
noncomputable def T139_1:=fun(u0 u2:Value) (H:Hp) (n:Nat)=>labK (bW P cal (aY P cal k) none 139 (cR (cR Zj)) (Lv.b (Lv.b (A 139))) (ay P qY) X0 (ay P qY)) (Tr.set (Tr.set Tr.nil 2 (some u2)) 0 (some u0)) H n []
noncomputable def B139_3(cal:Cal)(k:Nat)(u0 u2:Value)(H:Hp)(n:Nat):Res:=
bindO (dk P u0 (convert 189 5 u0)) fun v_4=>
bindO (uX P 9 (Value.string (ByteArray.mk #[0,1,2,2,3,3,3,3,4,4,4,4,4,4,4,4,5,5,5,5,5,5,5,5,5,5,5,5,5,5,5,5,6,6,6,6,6,6,6,6,6,6,6,6,6,6,6,6,6,6,6,6,6,6,6,6,6,6,6,6,6,6,6,6,7,7,7,7,7,7,7,7,7,7,7,7,7,7,7,7,7,7,7,7,7,7,7,7,7,7,7,7,7,7,7,7,7,7,7,7,7,7,7,7,7,7,7,7,7,7,7,7,7,7,7,7,7,7,7,7,7,7,7,7,7,7,7,7,8,8,8,8,8,8,8,8,8,8,8,8,8,8,8,8,8,8,8,8,8,8,8,8,8,8,8,8,8,8,8,8,8,8,8,8,8,8,8,8,8,8,8,8,8,8,8,8,8,8,8,8,8,8,8,8,8,8,8,8,8,8,8,8,8,8,8,8,8,8,8,8,8,8,8,8,8,8,8,8,8,8,8,8,8,8,8,8,8,8,8,8,8,8,8,8,8,8,8,8,8,8,8,8,8,8,8,8,8,8,8,8,8,8,8,8,8,8,8,8,8,8,8,8,8,8,8,8])) v_4) fun v_5=>
bindO (dk P v_5 (convert 5 3 v_5)) fun v_6=>
binK P BinOp.add 3 (Operand.tmp 19) (Operand.tmp 23) u2 v_6 fun v_7=>
some (v_7,H,n)
noncomputable def C139_3:=B139_3 cal k
theorem h139_3:T139_3 cal k=C139_3 cal k:=by kernel_rfl
noncomputable def B139_2(cal:Cal)(k:Nat)(j3:V2)(u0 u2:Value)(H:Hp)(n:Nat):Res:=
binK P BinOp.geq 189 (Operand.tmp 13) (Operand.const (Value.int IntKind.u64 256)) u0 (Value.int IntKind.u64 256) fun v_a=>
ifK v_a (
binK P BinOp.shr 189 (Operand.tmp 15) (Operand.const (Value.int IntKind.u64 8)) u0 (Value.int IntKind.u64 8) fun v_c=>
binK P BinOp.add 3 (Operand.tmp 17) (Operand.const (Value.int IntKind.i64 8)) u2 (Value.int IntKind.i64 8) fun v_f=>
j3 v_c v_f H n) (
j3 u0 u2 H n)
noncomputable def C139_2:=B139_2 cal k (C139_3 cal k)
theorem h139_2:T139_2 cal k=C139_2 cal k:=Eq.trans (b:=B139_2 cal k (T139_3 cal k)) (by kernel_rfl) (by rw[h139_3]; rfl)
noncomputable def B139_1(cal:Cal)(k:Nat)(j2:V2)(u0 u2:Value)(H:Hp)(n:Nat):Res:=
binK P BinOp.geq 189 (Operand.tmp 7) (Operand.const (Value.int IntKind.u64 65536)) u0 (Value.int IntKind.u64 65536) fun v_i=>
ifK v_i (
binK P BinOp.shr 189 (Operand.tmp 9) (Operand.const (Value.int IntKind.u64 16)) u0 (Value.int IntKind.u64 16) fun v_k=>
binK P BinOp.add 3 (Operand.tmp 11) (Operand.const (Value.int IntKind.i64 16)) u2 (Value.int IntKind.i64 16) fun v_n=>
j2 v_k v_n H n) (
j2 u0 u2 H n)
noncomputable def C139_1:=B139_1 cal k (C139_2 cal k)
theorem h139_1:T139_1 cal k=C139_1 cal k:=Eq.trans (b:=B139_1 cal k (T139_2 cal k)) (by kernel_rfl) (by rw[h139_2]; rfl)
noncomputable def B139_0(cal:Cal)(k:Nat)(j1:V2)(v0:Value)(H:Hp)(n:Nat):Res:=
binK P BinOp.geq 189 (Operand.tmp 3) (Operand.const (Value.int IntKind.u64 4294967296)) v0 (Value.int IntKind.u64 4294967296) fun v_q=>
ifK v_q (
binK P BinOp.shr 189 (Operand.tmp 5) (Operand.const (Value.int IntKind.u64 32)) v0 (Value.int IntKind.u64 32) fun v_s=>
j1 v_s (Value.int IntKind.i64 32) H n) (
j1 v0 (Value.int IntKind.i64 0) H n)
noncomputable def C139_0:=B139_0 cal k (C139_1 cal k)
theorem h139_0(v0:Value)(H:Hp)(n:Nat):aW P cal A (k+1) 139 [v0] H n=C139_0 cal k v0 H n:=(bq Go.Proofs.Tryz.f139 Zj qY (by kernel_rfl)).trans (Eq.trans (b:=B139_0 cal k (T139_1 cal k) v0 H n) (by kernel_rfl) (by rw[h139_1]; rfl))
noncomputable def code140:Code:=ak 140
noncomputable def results140:List ResultVar:=bw 140
noncomputable def B140_0(cal:Cal)(k:Nat)(v0 v1:Value)(H:Hp)(n:Nat):Res:=
aZ P cal 146 [v0] H n fun v_3 H_4 n_5=>
aZ P cal 146 [v1] H_4 n_5 fun v_8 H_9 n_a=>
ifK v_3 (
ifK v_8 (
some ((Value.int IntKind.i64 0),H_9,n_a)) (
some ((Value.int IntKind.i64 (-1)),H_9,n_a))) (
ifK v_8 (
some ((Value.int IntKind.i64 1),H_9,n_a)) (
binK P BinOp.lss 106 (Operand.tmp 14) (Operand.tmp 15) v0 v1 fun v_k=>
ifK v_k (
some ((Value.int IntKind.i64 (-1)),H_9,n_a)) (
binK P BinOp.gtr 106 (Operand.tmp 17) (Operand.tmp 18) v0 v1 fun v_o=>
ifK v_o (
some ((Value.int IntKind.i64 1),H_9,n_a)) (
some ((Value.int IntKind.i64 0),H_9,n_a)))))
noncomputable def C140_0:=B140_0 cal k
theorem h140_0(v0 v1:Value)(H:Hp)(n:Nat):aW P cal A (k+1) 140 [v0,v1] H n=C140_0 cal k v0 v1 H n:=(bq Go.Proofs.Tryz.f140 code140 results140 (by kernel_rfl)).trans (by kernel_rfl)
noncomputable def code142:Code:=ak 142
noncomputable def results142:List ResultVar:=bw 142
noncomputable def B142_0(cal:Cal)(k:Nat)(v0:Value)(H:Hp)(n:Nat):Res:=
bindO (dk P v0 (convert 3 80 v0)) fun v_3=>
aZ P cal 122 [v_3] H n fun v_4 H_5 n_6=>
binK P BinOp.shl 80 (Operand.const (Value.int IntKind.u64 1)) (Operand.tmp 5) (Value.int IntKind.u64 1) v_4 fun v_7=>
some (v_7,H_5,n_6)
noncomputable def C142_0:=B142_0 cal k
theorem h142_0(v0:Value)(H:Hp)(n:Nat):aW P cal A (k+1) 142 [v0] H n=C142_0 cal k v0 H n:=(bq Go.Proofs.Tryz.f142 code142 results142 (by kernel_rfl)).trans (by kernel_rfl)
noncomputable def code143:Code:=ak 143
noncomputable def results143:List ResultVar:=bw 143
noncomputable def B143_0(cal:Cal)(k:Nat)(v0:Value)(H:Hp)(n:Nat):Res:=
bindO (nilV v0) fun v_3=>
bindO (aX v_3) fun a_4=>bindO (az P H 197 a_4) fun v_5=>
bindO (nilV v0) fun v_7=>
bindO (aX v_7) fun a_8=>bindO (az P H 197 a_8) fun v_9=>
binK P BinOp.shl 197 (Operand.tmp 8) (Operand.const (Value.int IntKind.u64 13)) v_9 (Value.int IntKind.u64 13) fun v_a=>
binK P BinOp.xor 197 (Operand.tmp 5) (Operand.tmp 9) v_5 v_a fun v_b=>
bindO (nilV v0) fun v_c=>
bindO (dz P 197 v_c v_b H) fun H_e=>
bindO (nilV v0) fun v_g=>
bindO (aX v_g) fun a_h=>bindO (az P H_e 197 a_h) fun v_i=>
bindO (nilV v0) fun v_k=>
bindO (aX v_k) fun a_l=>bindO (az P H_e 197 a_l) fun v_m=>
binK P BinOp.shr 197 (Operand.tmp 17) (Operand.const (Value.int IntKind.u64 7)) v_m (Value.int IntKind.u64 7) fun v_n=>
binK P BinOp.xor 197 (Operand.tmp 14) (Operand.tmp 18) v_i v_n fun v_o=>
bindO (nilV v0) fun v_p=>
bindO (dz P 197 v_p v_o H_e) fun H_r=>
bindO (nilV v0) fun v_t=>
bindO (aX v_t) fun a_u=>bindO (az P H_r 197 a_u) fun v_v=>
bindO (nilV v0) fun v_x=>
bindO (aX v_x) fun a_y=>bindO (az P H_r 197 a_y) fun v_z=>
binK P BinOp.shl 197 (Operand.tmp 26) (Operand.const (Value.int IntKind.u64 17)) v_z (Value.int IntKind.u64 17) fun v_10=>
binK P BinOp.xor 197 (Operand.tmp 23) (Operand.tmp 27) v_v v_10 fun v_11=>
bindO (nilV v0) fun v_12=>
bindO (dz P 197 v_12 v_11 H_r) fun H_14=>
bindO (nilV v0) fun v_16=>
bindO (aX v_16) fun a_18=>bindO (az P H_14 197 a_18) fun v_17=>
some (v_17,H_14,n)
noncomputable def C143_0:=B143_0 cal k
theorem h143_0(v0:Value)(H:Hp)(n:Nat):aW P cal A (k+1) 143 [v0] H n=C143_0 cal k v0 H n:=(bq Go.Proofs.Tryz.f143 code143 results143 (by kernel_rfl)).trans (by kernel_rfl)
noncomputable def code144:Code:=ak 144
noncomputable def results144:List ResultVar:=bw 144
noncomputable def B144_0(cal:Cal)(k:Nat)(v0 v1 v2 v3:Value)(H:Hp)(n:Nat):Res:=
binK P BinOp.sub 3 (Operand.tmp 10) (Operand.const (Value.int IntKind.i64 1)) v1 (Value.int IntKind.i64 1) fun v_4=>
binK P BinOp.add 3 (Operand.tmp 13) (Operand.const (Value.int IntKind.i64 1)) v1 (Value.int IntKind.i64 1) fun v_7=>
aZ P cal 145 [v0,v_4,v1,v_7,v2,v3] H n fun v_a H_b n_c=>
some (v_a,H_b,n_c)
noncomputable def C144_0:=B144_0 cal k
theorem h144_0(v0 v1 v2 v3:Value)(H:Hp)(n:Nat):aW P cal A (k+1) 144 [v0,v1,v2,v3] H n=C144_0 cal k v0 v1 v2 v3 H n:=(bq Go.Proofs.Tryz.f144 code144 results144 (by kernel_rfl)).trans (by kernel_rfl)
noncomputable def code145:Code:=ak 145
noncomputable def results145:List ResultVar:=bw 145
noncomputable def B145_0(cal:Cal)(k:Nat)(v0 v1 v2 v3 v4 v5:Value)(H:Hp)(n:Nat):Res:=
aZ P cal 147 [v0,v1,v2,v4,v5] H n fun v_7 H_8 n_9=>
bindO (tupV v_7 0) fun v_b=>
bindO (tupV v_7 1) fun v_c=>
aZ P cal 147 [v0,v_c,v3,v4,v5] H_8 n_9 fun v_k H_l n_m=>
bindO (tupV v_k 0) fun v_o=>
bindO (tupV v_k 1) fun v_p=>
aZ P cal 147 [v0,v_b,v_o,v4,v5] H_l n_m fun v_x H_y n_z=>
bindO (tupV v_x 0) fun v_11=>
bindO (tupV v_x 1) fun v_12=>
some (v_12,H_y,n_z)
noncomputable def C145_0:=B145_0 cal k
theorem h145_0(v0 v1 v2 v3 v4 v5:Value)(H:Hp)(n:Nat):aW P cal A (k+1) 145 [v0,v1,v2,v3,v4,v5] H n=C145_0 cal k v0 v1 v2 v3 v4 v5 H n:=(bq Go.Proofs.Tryz.f145 code145 results145 (by kernel_rfl)).trans (by kernel_rfl)
noncomputable def code146:Code:=ak 146
noncomputable def results146:List ResultVar:=bw 146
noncomputable def B146_0(cal:Cal)(k:Nat)(v0:Value)(H:Hp)(n:Nat):Res:=
binK P BinOp.neq 106 (Operand.tmp 3) (Operand.tmp 4) v0 v0 fun v_4=>
some (v_4,H,n)
noncomputable def C146_0:=B146_0 cal k
theorem h146_0(v0:Value)(H:Hp)(n:Nat):aW P cal A (k+1) 146 [v0] H n=C146_0 cal k v0 H n:=(bq Go.Proofs.Tryz.f146 code146 results146 (by kernel_rfl)).trans (by kernel_rfl)
noncomputable def code147:Code:=ak 147
noncomputable def results147:List ResultVar:=bw 147
noncomputable def B147_0(cal:Cal)(k:Nat)(v0 v1 v2 v3 v4:Value)(H:Hp)(n:Nat):Res:=
bindO (aJ P 98 v0 v2) fun v_6=>
bindO (aX v_6) fun a_7=>bindO (az P H 106 a_7) fun v_8=>
bindO (aJ P 98 v0 v1) fun v_b=>
bindO (aX v_b) fun a_c=>bindO (az P H 106 a_c) fun v_d=>
iQ P cal v4 [v_8,v_d] H n fun v_e H_f n_g=>
binK P BinOp.lss 3 (Operand.tmp 21) (Operand.const (Value.int IntKind.i64 0)) v_e (Value.int IntKind.i64 0) fun v_h=>
ifK v_h (
bindO (nilV v3) fun v_j=>
bindO (aX v_j) fun a_l=>bindO (az P H_f 3 a_l) fun v_k=>
binK P BinOp.add 3 (Operand.tmp 25) (Operand.const (Value.int IntKind.i64 1)) v_k (Value.int IntKind.i64 1) fun v_m=>
bindO (nilV v3) fun v_n=>
bindO (dz P 3 v_n v_m H_f) fun H_p=>
some ((Value.tuple ⟨[v2,v1]⟩),H_p,n_g)) (
some ((Value.tuple ⟨[v1,v2]⟩),H_f,n_g))
noncomputable def C147_0:=B147_0 cal k
theorem h147_0(v0 v1 v2 v3 v4:Value)(H:Hp)(n:Nat):aW P cal A (k+1) 147 [v0,v1,v2,v3,v4] H n=C147_0 cal k v0 v1 v2 v3 v4 H n:=(bq Go.Proofs.Tryz.f147 code147 results147 (by kernel_rfl)).trans (by kernel_rfl)
end Go.Proofs.YtcjnaeimeilomaaGreat.G
end
end
section
open Go Go.Ev
set_option maxRecDepth 1000000
noncomputable section
namespace Go.Proofs.YtcjnaeimeilomaaGreat.G
variable (cal:Cal) (k:Nat)
noncomputable def KK:Nat:=19999
theorem tbl_nil(F:Nat):DJ P A F ((Tr.nil:Tr (Cal→List Value→Hp→Nat→Res)).get):=by
 intro f S h
 rw[Tr.get_nil] at h
 cases h
theorem bJ{F:Nat}{t:Tr (Cal→List Value→Hp→Nat→Res)}{f:Nat}{S:Cal→List Value→Hp→Nat→Res}(ht:DJ P A F t.get)
  (h:∀ cal args H n r,S cal args H n=some r→aW P cal A F f args H n=some r):DJ P A F (t.set f (some S)).get:=by
 intro g S' e
 rw[Tr.get_set] at e
 split at e
 ·rename_i e1
  cases e
  rw[e1]
  exact h
 ·exact ht g S' e
section
variable {ρ:Type}
end
noncomputable def ent16(args:List Value)(H:Hp)(n:Nat):Res:=match args with
 | []=>C16_0 cal KK  H n
 | _=>none
theorem ok16(args:List Value)(H:Hp)(n:Nat)(r:Value × Hp × Nat)(e:ent16 cal args H n=some r):aW P cal A (KK+1) 16 args H n=some r:=by
 unfold ent16 at e
 split at e
 ·exact(h16_0 ..).trans e
 ·cases e
noncomputable def ent19(args:List Value)(H:Hp)(n:Nat):Res:=match args with
 | [v0,v1]=>C19_0 cal KK v0 v1 H n
 | _=>none
theorem ok19(args:List Value)(H:Hp)(n:Nat)(r:Value × Hp × Nat)(e:ent19 cal args H n=some r):aW P cal A (KK+1) 19 args H n=some r:=by
 unfold ent19 at e
 split at e
 ·exact(h19_0 ..).trans e
 ·cases e
noncomputable def ent23(args:List Value)(H:Hp)(n:Nat):Res:=match args with
 | [v0,v1]=>C23_0 cal KK v0 v1 H n
 | _=>none
theorem ok23(args:List Value)(H:Hp)(n:Nat)(r:Value × Hp × Nat)(e:ent23 cal args H n=some r):aW P cal A (KK+1) 23 args H n=some r:=by
 unfold ent23 at e
 split at e
 ·exact(h23_0 ..).trans e
 ·cases e
noncomputable def ent25(args:List Value)(H:Hp)(n:Nat):Res:=match args with
 | [v0,v1]=>C25_0 cal KK v0 v1 H n
 | _=>none
theorem ok25(args:List Value)(H:Hp)(n:Nat)(r:Value × Hp × Nat)(e:ent25 cal args H n=some r):aW P cal A (KK+1) 25 args H n=some r:=by
 unfold ent25 at e
 split at e
 ·exact(h25_0 ..).trans e
 ·cases e
noncomputable def ent32(args:List Value)(H:Hp)(n:Nat):Res:=match args with
 | [v0]=>C32_0 cal KK v0 H n
 | _=>none
theorem ok32(args:List Value)(H:Hp)(n:Nat)(r:Value × Hp × Nat)(e:ent32 cal args H n=some r):aW P cal A (KK+1) 32 args H n=some r:=by
 unfold ent32 at e
 split at e
 ·exact(h32_0 ..).trans e
 ·cases e
noncomputable def ent34(args:List Value)(H:Hp)(n:Nat):Res:=match args with
 | [v0,v1,v2]=>C34_0 cal KK v0 v1 v2 H n
 | _=>none
theorem ok34(args:List Value)(H:Hp)(n:Nat)(r:Value × Hp × Nat)(e:ent34 cal args H n=some r):aW P cal A (KK+1) 34 args H n=some r:=by
 unfold ent34 at e
 split at e
 ·exact(h34_0 ..).trans e
 ·cases e
noncomputable def ent42(args:List Value)(H:Hp)(n:Nat):Res:=match args with
 | [v0,v1]=>C42_0 cal KK v0 v1 H n
 | _=>none
theorem ok42(args:List Value)(H:Hp)(n:Nat)(r:Value × Hp × Nat)(e:ent42 cal args H n=some r):aW P cal A (KK+1) 42 args H n=some r:=by
 unfold ent42 at e
 split at e
 ·exact(h42_0 ..).trans e
 ·cases e
noncomputable def ent48(args:List Value)(H:Hp)(n:Nat):Res:=match args with
 | [v0,v1]=>C48_0 cal KK v0 v1 H n
 | _=>none
theorem ok48(args:List Value)(H:Hp)(n:Nat)(r:Value × Hp × Nat)(e:ent48 cal args H n=some r):aW P cal A (KK+1) 48 args H n=some r:=by
 unfold ent48 at e
 split at e
 ·exact(h48_0 ..).trans e
 ·cases e
noncomputable def ent53(args:List Value)(H:Hp)(n:Nat):Res:=match args with
 | []=>C53_0 cal KK  H n
 | _=>none
theorem ok53(args:List Value)(H:Hp)(n:Nat)(r:Value × Hp × Nat)(e:ent53 cal args H n=some r):aW P cal A (KK+1) 53 args H n=some r:=by
 unfold ent53 at e
 split at e
 ·exact(h53_0 ..).trans e
 ·cases e
noncomputable def ent54(args:List Value)(H:Hp)(n:Nat):Res:=match args with
 | []=>C54_0 cal KK  H n
 | _=>none
theorem ok54(args:List Value)(H:Hp)(n:Nat)(r:Value × Hp × Nat)(e:ent54 cal args H n=some r):aW P cal A (KK+1) 54 args H n=some r:=by
 unfold ent54 at e
 split at e
 ·exact(h54_0 ..).trans e
 ·cases e
noncomputable def ent55(args:List Value)(H:Hp)(n:Nat):Res:=match args with
 | [v0]=>C55_0 cal KK v0 H n
 | _=>none
theorem ok55(args:List Value)(H:Hp)(n:Nat)(r:Value × Hp × Nat)(e:ent55 cal args H n=some r):aW P cal A (KK+1) 55 args H n=some r:=by
 unfold ent55 at e
 split at e
 ·exact(h55_0 ..).trans e
 ·cases e
noncomputable def ent57(args:List Value)(H:Hp)(n:Nat):Res:=match args with
 | [v0,v1]=>C57_0 cal KK v0 v1 H n
 | _=>none
theorem ok57(args:List Value)(H:Hp)(n:Nat)(r:Value × Hp × Nat)(e:ent57 cal args H n=some r):aW P cal A (KK+1) 57 args H n=some r:=by
 unfold ent57 at e
 split at e
 ·exact(h57_0 ..).trans e
 ·cases e
noncomputable def ent58(args:List Value)(H:Hp)(n:Nat):Res:=match args with
 | [v0]=>C58_0 cal KK v0 H n
 | _=>none
theorem ok58(args:List Value)(H:Hp)(n:Nat)(r:Value × Hp × Nat)(e:ent58 cal args H n=some r):aW P cal A (KK+1) 58 args H n=some r:=by
 unfold ent58 at e
 split at e
 ·exact(h58_0 ..).trans e
 ·cases e
noncomputable def ent59(args:List Value)(H:Hp)(n:Nat):Res:=match args with
 | [v0,v1]=>C59_0 cal KK v0 v1 H n
 | _=>none
theorem ok59(args:List Value)(H:Hp)(n:Nat)(r:Value × Hp × Nat)(e:ent59 cal args H n=some r):aW P cal A (KK+1) 59 args H n=some r:=by
 unfold ent59 at e
 split at e
 ·exact(h59_0 ..).trans e
 ·cases e
noncomputable def ent63(args:List Value)(H:Hp)(n:Nat):Res:=match args with
 | [v0,v1]=>C63_0 cal KK v0 v1 H n
 | _=>none
theorem ok63(args:List Value)(H:Hp)(n:Nat)(r:Value × Hp × Nat)(e:ent63 cal args H n=some r):aW P cal A (KK+1) 63 args H n=some r:=by
 unfold ent63 at e
 split at e
 ·exact(h63_0 ..).trans e
 ·cases e
noncomputable def ent64(args:List Value)(H:Hp)(n:Nat):Res:=match args with
 | [v0,v1]=>C64_0 cal KK v0 v1 H n
 | _=>none
theorem ok64(args:List Value)(H:Hp)(n:Nat)(r:Value × Hp × Nat)(e:ent64 cal args H n=some r):aW P cal A (KK+1) 64 args H n=some r:=by
 unfold ent64 at e
 split at e
 ·exact(h64_0 ..).trans e
 ·cases e
noncomputable def ent66(args:List Value)(H:Hp)(n:Nat):Res:=match args with
 | [v0]=>C66_0 cal KK v0 H n
 | _=>none
theorem ok66(args:List Value)(H:Hp)(n:Nat)(r:Value × Hp × Nat)(e:ent66 cal args H n=some r):aW P cal A (KK+1) 66 args H n=some r:=by
 unfold ent66 at e
 split at e
 ·exact(h66_0 ..).trans e
 ·cases e
noncomputable def ent67(args:List Value)(H:Hp)(n:Nat):Res:=match args with
 | [v0]=>C67_0 cal KK v0 H n
 | _=>none
theorem ok67(args:List Value)(H:Hp)(n:Nat)(r:Value × Hp × Nat)(e:ent67 cal args H n=some r):aW P cal A (KK+1) 67 args H n=some r:=by
 unfold ent67 at e
 split at e
 ·exact(h67_0 ..).trans e
 ·cases e
noncomputable def ent71(args:List Value)(H:Hp)(n:Nat):Res:=match args with
 | [v0,v1,v2]=>C71_0 cal KK v0 v1 v2 H n
 | _=>none
theorem ok71(args:List Value)(H:Hp)(n:Nat)(r:Value × Hp × Nat)(e:ent71 cal args H n=some r):aW P cal A (KK+1) 71 args H n=some r:=by
 unfold ent71 at e
 split at e
 ·exact(h71_0 ..).trans e
 ·cases e
noncomputable def ent76(args:List Value)(H:Hp)(n:Nat):Res:=match args with
 | [v0,v1]=>C76_0 cal KK v0 v1 H n
 | _=>none
theorem ok76(args:List Value)(H:Hp)(n:Nat)(r:Value × Hp × Nat)(e:ent76 cal args H n=some r):aW P cal A (KK+1) 76 args H n=some r:=by
 unfold ent76 at e
 split at e
 ·exact(h76_0 ..).trans e
 ·cases e
noncomputable def ent77(args:List Value)(H:Hp)(n:Nat):Res:=match args with
 | [v0]=>C77_0 cal KK v0 H n
 | _=>none
theorem ok77(args:List Value)(H:Hp)(n:Nat)(r:Value × Hp × Nat)(e:ent77 cal args H n=some r):aW P cal A (KK+1) 77 args H n=some r:=by
 unfold ent77 at e
 split at e
 ·exact(h77_0 ..).trans e
 ·cases e
noncomputable def ent78(args:List Value)(H:Hp)(n:Nat):Res:=match args with
 | [v0,v1]=>C78_0 cal KK v0 v1 H n
 | _=>none
theorem ok78(args:List Value)(H:Hp)(n:Nat)(r:Value × Hp × Nat)(e:ent78 cal args H n=some r):aW P cal A (KK+1) 78 args H n=some r:=by
 unfold ent78 at e
 split at e
 ·exact(h78_0 ..).trans e
 ·cases e
noncomputable def ent79(args:List Value)(H:Hp)(n:Nat):Res:=match args with
 | [v0,v1]=>C79_0 cal KK v0 v1 H n
 | _=>none
theorem ok79(args:List Value)(H:Hp)(n:Nat)(r:Value × Hp × Nat)(e:ent79 cal args H n=some r):aW P cal A (KK+1) 79 args H n=some r:=by
 unfold ent79 at e
 split at e
 ·exact(h79_0 ..).trans e
 ·cases e
noncomputable def ent80(args:List Value)(H:Hp)(n:Nat):Res:=match args with
 | [v0]=>C80_0 cal KK v0 H n
 | _=>none
theorem ok80(args:List Value)(H:Hp)(n:Nat)(r:Value × Hp × Nat)(e:ent80 cal args H n=some r):aW P cal A (KK+1) 80 args H n=some r:=by
 unfold ent80 at e
 split at e
 ·exact(h80_0 ..).trans e
 ·cases e
noncomputable def ent82(args:List Value)(H:Hp)(n:Nat):Res:=match args with
 | [v0,v1]=>C82_0 cal KK v0 v1 H n
 | _=>none
theorem ok82(args:List Value)(H:Hp)(n:Nat)(r:Value × Hp × Nat)(e:ent82 cal args H n=some r):aW P cal A (KK+1) 82 args H n=some r:=by
 unfold ent82 at e
 split at e
 ·exact(h82_0 ..).trans e
 ·cases e
noncomputable def ent83(args:List Value)(H:Hp)(n:Nat):Res:=match args with
 | [v0]=>C83_0 cal KK v0 H n
 | _=>none
theorem ok83(args:List Value)(H:Hp)(n:Nat)(r:Value × Hp × Nat)(e:ent83 cal args H n=some r):aW P cal A (KK+1) 83 args H n=some r:=by
 unfold ent83 at e
 split at e
 ·exact(h83_0 ..).trans e
 ·cases e
noncomputable def ent84(args:List Value)(H:Hp)(n:Nat):Res:=match args with
 | [v0]=>C84_0 cal KK v0 H n
 | _=>none
theorem ok84(args:List Value)(H:Hp)(n:Nat)(r:Value × Hp × Nat)(e:ent84 cal args H n=some r):aW P cal A (KK+1) 84 args H n=some r:=by
 unfold ent84 at e
 split at e
 ·exact(h84_0 ..).trans e
 ·cases e
noncomputable def ent86(args:List Value)(H:Hp)(n:Nat):Res:=match args with
 | [v0,v1]=>C86_0 cal KK v0 v1 H n
 | _=>none
theorem ok86(args:List Value)(H:Hp)(n:Nat)(r:Value × Hp × Nat)(e:ent86 cal args H n=some r):aW P cal A (KK+1) 86 args H n=some r:=by
 unfold ent86 at e
 split at e
 ·exact(h86_0 ..).trans e
 ·cases e
noncomputable def ent90(args:List Value)(H:Hp)(n:Nat):Res:=match args with
 | [v0,v1]=>C90_0 cal KK v0 v1 H n
 | _=>none
theorem ok90(args:List Value)(H:Hp)(n:Nat)(r:Value × Hp × Nat)(e:ent90 cal args H n=some r):aW P cal A (KK+1) 90 args H n=some r:=by
 unfold ent90 at e
 split at e
 ·exact(h90_0 ..).trans e
 ·cases e
noncomputable def ent91(args:List Value)(H:Hp)(n:Nat):Res:=match args with
 | [v0,v1,v2,v3]=>C91_0 cal KK v0 v1 v2 v3 H n
 | _=>none
theorem ok91(args:List Value)(H:Hp)(n:Nat)(r:Value × Hp × Nat)(e:ent91 cal args H n=some r):aW P cal A (KK+1) 91 args H n=some r:=by
 unfold ent91 at e
 split at e
 ·exact(h91_0 ..).trans e
 ·cases e
noncomputable def ent92(args:List Value)(H:Hp)(n:Nat):Res:=match args with
 | [v0,v1]=>C92_0 cal KK v0 v1 H n
 | _=>none
theorem ok92(args:List Value)(H:Hp)(n:Nat)(r:Value × Hp × Nat)(e:ent92 cal args H n=some r):aW P cal A (KK+1) 92 args H n=some r:=by
 unfold ent92 at e
 split at e
 ·exact(h92_0 ..).trans e
 ·cases e
noncomputable def ent93(args:List Value)(H:Hp)(n:Nat):Res:=match args with
 | [v0,v1]=>C93_0 cal KK v0 v1 H n
 | _=>none
theorem ok93(args:List Value)(H:Hp)(n:Nat)(r:Value × Hp × Nat)(e:ent93 cal args H n=some r):aW P cal A (KK+1) 93 args H n=some r:=by
 unfold ent93 at e
 split at e
 ·exact(h93_0 ..).trans e
 ·cases e
noncomputable def ent94(args:List Value)(H:Hp)(n:Nat):Res:=match args with
 | [v0,v1]=>C94_0 cal KK v0 v1 H n
 | _=>none
theorem ok94(args:List Value)(H:Hp)(n:Nat)(r:Value × Hp × Nat)(e:ent94 cal args H n=some r):aW P cal A (KK+1) 94 args H n=some r:=by
 unfold ent94 at e
 split at e
 ·exact(h94_0 ..).trans e
 ·cases e
noncomputable def ent95(args:List Value)(H:Hp)(n:Nat):Res:=match args with
 | [v0,v1]=>C95_0 cal KK v0 v1 H n
 | _=>none
theorem ok95(args:List Value)(H:Hp)(n:Nat)(r:Value × Hp × Nat)(e:ent95 cal args H n=some r):aW P cal A (KK+1) 95 args H n=some r:=by
 unfold ent95 at e
 split at e
 ·exact(h95_0 ..).trans e
 ·cases e
noncomputable def ent96(args:List Value)(H:Hp)(n:Nat):Res:=match args with
 | [v0,v1]=>C96_0 cal KK v0 v1 H n
 | _=>none
theorem ok96(args:List Value)(H:Hp)(n:Nat)(r:Value × Hp × Nat)(e:ent96 cal args H n=some r):aW P cal A (KK+1) 96 args H n=some r:=by
 unfold ent96 at e
 split at e
 ·exact(h96_0 ..).trans e
 ·cases e
noncomputable def ent97(args:List Value)(H:Hp)(n:Nat):Res:=match args with
 | [v0,v1,v2,v3,v4,v5,v6]=>C97_0 cal KK v0 v1 v2 v3 v4 v5 v6 H n
 | _=>none
theorem ok97(args:List Value)(H:Hp)(n:Nat)(r:Value × Hp × Nat)(e:ent97 cal args H n=some r):aW P cal A (KK+1) 97 args H n=some r:=by
 unfold ent97 at e
 split at e
 ·exact(h97_0 ..).trans e
 ·cases e
noncomputable def ent98(args:List Value)(H:Hp)(n:Nat):Res:=match args with
 | [v0]=>C98_0 cal KK v0 H n
 | _=>none
theorem ok98(args:List Value)(H:Hp)(n:Nat)(r:Value × Hp × Nat)(e:ent98 cal args H n=some r):aW P cal A (KK+1) 98 args H n=some r:=by
 unfold ent98 at e
 split at e
 ·exact(h98_0 ..).trans e
 ·cases e
noncomputable def ent99(args:List Value)(H:Hp)(n:Nat):Res:=match args with
 | [v0]=>C99_0 cal KK v0 H n
 | _=>none
theorem ok99(args:List Value)(H:Hp)(n:Nat)(r:Value × Hp × Nat)(e:ent99 cal args H n=some r):aW P cal A (KK+1) 99 args H n=some r:=by
 unfold ent99 at e
 split at e
 ·exact(h99_0 ..).trans e
 ·cases e
noncomputable def ent100(args:List Value)(H:Hp)(n:Nat):Res:=match args with
 | [v0,v1]=>RZ cal KK v0 v1 H n
 | _=>none
theorem ok100(args:List Value)(H:Hp)(n:Nat)(r:Value × Hp × Nat)(e:ent100 cal args H n=some r):aW P cal A (KK+1) 100 args H n=some r:=by
 unfold ent100 at e
 split at e
 ·exact(h100_0 ..).trans e
 ·cases e
noncomputable def ent101(args:List Value)(H:Hp)(n:Nat):Res:=match args with
 | [v0]=>C101_0 cal KK v0 H n
 | _=>none
theorem ok101(args:List Value)(H:Hp)(n:Nat)(r:Value × Hp × Nat)(e:ent101 cal args H n=some r):aW P cal A (KK+1) 101 args H n=some r:=by
 unfold ent101 at e
 split at e
 ·exact(h101_0 ..).trans e
 ·cases e
noncomputable def ent102(args:List Value)(H:Hp)(n:Nat):Res:=match args with
 | [v0]=>Sz cal KK v0 H n
 | _=>none
theorem ok102(args:List Value)(H:Hp)(n:Nat)(r:Value × Hp × Nat)(e:ent102 cal args H n=some r):aW P cal A (KK+1) 102 args H n=some r:=by
 unfold ent102 at e
 split at e
 ·exact(h102_0 ..).trans e
 ·cases e
noncomputable def ent103(args:List Value)(H:Hp)(n:Nat):Res:=match args with
 | [v0]=>SJ cal KK v0 H n
 | _=>none
theorem ok103(args:List Value)(H:Hp)(n:Nat)(r:Value × Hp × Nat)(e:ent103 cal args H n=some r):aW P cal A (KK+1) 103 args H n=some r:=by
 unfold ent103 at e
 split at e
 ·exact(h103_0 ..).trans e
 ·cases e
noncomputable def ent104(args:List Value)(H:Hp)(n:Nat):Res:=match args with
 | [v0,v1]=>SQ cal KK v0 v1 H n
 | _=>none
theorem ok104(args:List Value)(H:Hp)(n:Nat)(r:Value × Hp × Nat)(e:ent104 cal args H n=some r):aW P cal A (KK+1) 104 args H n=some r:=by
 unfold ent104 at e
 split at e
 ·exact(h104_0 ..).trans e
 ·cases e
noncomputable def ent106(args:List Value)(H:Hp)(n:Nat):Res:=match args with
 | [v0]=>SV cal KK v0 H n
 | _=>none
theorem ok106(args:List Value)(H:Hp)(n:Nat)(r:Value × Hp × Nat)(e:ent106 cal args H n=some r):aW P cal A (KK+1) 106 args H n=some r:=by
 unfold ent106 at e
 split at e
 ·exact(h106_0 ..).trans e
 ·cases e
noncomputable def ent107(args:List Value)(H:Hp)(n:Nat):Res:=match args with
 | [v0]=>SW cal KK v0 H n
 | _=>none
theorem ok107(args:List Value)(H:Hp)(n:Nat)(r:Value × Hp × Nat)(e:ent107 cal args H n=some r):aW P cal A (KK+1) 107 args H n=some r:=by
 unfold ent107 at e
 split at e
 ·exact(h107_0 ..).trans e
 ·cases e
noncomputable def ent108(args:List Value)(H:Hp)(n:Nat):Res:=match args with
 | [v0,v1]=>C108_0 cal KK v0 v1 H n
 | _=>none
theorem ok108(args:List Value)(H:Hp)(n:Nat)(r:Value × Hp × Nat)(e:ent108 cal args H n=some r):aW P cal A (KK+1) 108 args H n=some r:=by
 unfold ent108 at e
 split at e
 ·exact(h108_0 ..).trans e
 ·cases e
noncomputable def ent109(args:List Value)(H:Hp)(n:Nat):Res:=match args with
 | []=>C109_0 cal KK  H n
 | _=>none
theorem ok109(args:List Value)(H:Hp)(n:Nat)(r:Value × Hp × Nat)(e:ent109 cal args H n=some r):aW P cal A (KK+1) 109 args H n=some r:=by
 unfold ent109 at e
 split at e
 ·exact(h109_0 ..).trans e
 ·cases e
noncomputable def ent110(args:List Value)(H:Hp)(n:Nat):Res:=match args with
 | [v0,v1,v2]=>C110_0 cal KK v0 v1 v2 H n
 | _=>none
theorem ok110(args:List Value)(H:Hp)(n:Nat)(r:Value × Hp × Nat)(e:ent110 cal args H n=some r):aW P cal A (KK+1) 110 args H n=some r:=by
 unfold ent110 at e
 split at e
 ·exact(h110_0 ..).trans e
 ·cases e
noncomputable def ent111(args:List Value)(H:Hp)(n:Nat):Res:=match args with
 | [v0]=>C111_0 cal KK v0 H n
 | _=>none
theorem ok111(args:List Value)(H:Hp)(n:Nat)(r:Value × Hp × Nat)(e:ent111 cal args H n=some r):aW P cal A (KK+1) 111 args H n=some r:=by
 unfold ent111 at e
 split at e
 ·exact(h111_0 ..).trans e
 ·cases e
noncomputable def ent112(args:List Value)(H:Hp)(n:Nat):Res:=match args with
 | [v0]=>C112_0 cal KK v0 H n
 | _=>none
theorem ok112(args:List Value)(H:Hp)(n:Nat)(r:Value × Hp × Nat)(e:ent112 cal args H n=some r):aW P cal A (KK+1) 112 args H n=some r:=by
 unfold ent112 at e
 split at e
 ·exact(h112_0 ..).trans e
 ·cases e
noncomputable def ent113(args:List Value)(H:Hp)(n:Nat):Res:=match args with
 | [v0,v1]=>SY cal KK v0 v1 H n
 | _=>none
theorem ok113(args:List Value)(H:Hp)(n:Nat)(r:Value × Hp × Nat)(e:ent113 cal args H n=some r):aW P cal A (KK+1) 113 args H n=some r:=by
 unfold ent113 at e
 split at e
 ·exact(h113_0 ..).trans e
 ·cases e
noncomputable def ent114(args:List Value)(H:Hp)(n:Nat):Res:=match args with
 | [v0]=>SZ cal KK v0 H n
 | _=>none
theorem ok114(args:List Value)(H:Hp)(n:Nat)(r:Value × Hp × Nat)(e:ent114 cal args H n=some r):aW P cal A (KK+1) 114 args H n=some r:=by
 unfold ent114 at e
 split at e
 ·exact(h114_0 ..).trans e
 ·cases e
noncomputable def ent115(args:List Value)(H:Hp)(n:Nat):Res:=match args with
 | [v0,v1]=>Tj cal KK v0 v1 H n
 | _=>none
theorem ok115(args:List Value)(H:Hp)(n:Nat)(r:Value × Hp × Nat)(e:ent115 cal args H n=some r):aW P cal A (KK+1) 115 args H n=some r:=by
 unfold ent115 at e
 split at e
 ·exact(h115_0 ..).trans e
 ·cases e
noncomputable def ent116(args:List Value)(H:Hp)(n:Nat):Res:=match args with
 | [v0,v1]=>Tw cal KK v0 v1 H n
 | _=>none
theorem ok116(args:List Value)(H:Hp)(n:Nat)(r:Value × Hp × Nat)(e:ent116 cal args H n=some r):aW P cal A (KK+1) 116 args H n=some r:=by
 unfold ent116 at e
 split at e
 ·exact(h116_0 ..).trans e
 ·cases e
noncomputable def ent117(args:List Value)(H:Hp)(n:Nat):Res:=match args with
 | [v0,v1]=>Tz cal KK v0 v1 H n
 | _=>none
theorem ok117(args:List Value)(H:Hp)(n:Nat)(r:Value × Hp × Nat)(e:ent117 cal args H n=some r):aW P cal A (KK+1) 117 args H n=some r:=by
 unfold ent117 at e
 split at e
 ·exact(h117_0 ..).trans e
 ·cases e
noncomputable def ent118(args:List Value)(H:Hp)(n:Nat):Res:=match args with
 | [v0]=>Tk cal KK v0 H n
 | _=>none
theorem ok118(args:List Value)(H:Hp)(n:Nat)(r:Value × Hp × Nat)(e:ent118 cal args H n=some r):aW P cal A (KK+1) 118 args H n=some r:=by
 unfold ent118 at e
 split at e
 ·exact(h118_0 ..).trans e
 ·cases e
noncomputable def ent119(args:List Value)(H:Hp)(n:Nat):Res:=match args with
 | [v0,v1,v2]=>TV cal KK v0 v1 v2 H n
 | _=>none
theorem ok119(args:List Value)(H:Hp)(n:Nat)(r:Value × Hp × Nat)(e:ent119 cal args H n=some r):aW P cal A (KK+1) 119 args H n=some r:=by
 unfold ent119 at e
 split at e
 ·exact(h119_0 ..).trans e
 ·cases e
noncomputable def ent120(args:List Value)(H:Hp)(n:Nat):Res:=match args with
 | [v0,v1]=>TX cal KK v0 v1 H n
 | _=>none
theorem ok120(args:List Value)(H:Hp)(n:Nat)(r:Value × Hp × Nat)(e:ent120 cal args H n=some r):aW P cal A (KK+1) 120 args H n=some r:=by
 unfold ent120 at e
 split at e
 ·exact(h120_0 ..).trans e
 ·cases e
noncomputable def ent121(args:List Value)(H:Hp)(n:Nat):Res:=match args with
 | [v0,v1,v2,v3,v4]=>C121_0 cal KK v0 v1 v2 v3 v4 H n
 | _=>none
theorem ok121(args:List Value)(H:Hp)(n:Nat)(r:Value × Hp × Nat)(e:ent121 cal args H n=some r):aW P cal A (KK+1) 121 args H n=some r:=by
 unfold ent121 at e
 split at e
 ·exact(h121_0 ..).trans e
 ·cases e
noncomputable def ent122(args:List Value)(H:Hp)(n:Nat):Res:=match args with
 | [v0]=>C122_0 cal KK v0 H n
 | _=>none
theorem ok122(args:List Value)(H:Hp)(n:Nat)(r:Value × Hp × Nat)(e:ent122 cal args H n=some r):aW P cal A (KK+1) 122 args H n=some r:=by
 unfold ent122 at e
 split at e
 ·exact(h122_0 ..).trans e
 ·cases e
noncomputable def ent123(args:List Value)(H:Hp)(n:Nat):Res:=match args with
 | [v0,v1]=>C123_0 cal KK v0 v1 H n
 | _=>none
theorem ok123(args:List Value)(H:Hp)(n:Nat)(r:Value × Hp × Nat)(e:ent123 cal args H n=some r):aW P cal A (KK+1) 123 args H n=some r:=by
 unfold ent123 at e
 split at e
 ·exact(h123_0 ..).trans e
 ·cases e
noncomputable def ent124(args:List Value)(H:Hp)(n:Nat):Res:=match args with
 | [v0,v1]=>C124_0 cal KK v0 v1 H n
 | _=>none
theorem ok124(args:List Value)(H:Hp)(n:Nat)(r:Value × Hp × Nat)(e:ent124 cal args H n=some r):aW P cal A (KK+1) 124 args H n=some r:=by
 unfold ent124 at e
 split at e
 ·exact(h124_0 ..).trans e
 ·cases e
noncomputable def ent125(args:List Value)(H:Hp)(n:Nat):Res:=match args with
 | [v0]=>C125_0 cal KK v0 H n
 | _=>none
theorem ok125(args:List Value)(H:Hp)(n:Nat)(r:Value × Hp × Nat)(e:ent125 cal args H n=some r):aW P cal A (KK+1) 125 args H n=some r:=by
 unfold ent125 at e
 split at e
 ·exact(h125_0 ..).trans e
 ·cases e
noncomputable def ent126(args:List Value)(H:Hp)(n:Nat):Res:=match args with
 | [v0]=>C126_0 cal KK v0 H n
 | _=>none
theorem ok126(args:List Value)(H:Hp)(n:Nat)(r:Value × Hp × Nat)(e:ent126 cal args H n=some r):aW P cal A (KK+1) 126 args H n=some r:=by
 unfold ent126 at e
 split at e
 ·exact(h126_0 ..).trans e
 ·cases e
noncomputable def ent127(args:List Value)(H:Hp)(n:Nat):Res:=match args with
 | [v0]=>C127_0 cal KK v0 H n
 | _=>none
theorem ok127(args:List Value)(H:Hp)(n:Nat)(r:Value × Hp × Nat)(e:ent127 cal args H n=some r):aW P cal A (KK+1) 127 args H n=some r:=by
 unfold ent127 at e
 split at e
 ·exact(h127_0 ..).trans e
 ·cases e
noncomputable def ent128(args:List Value)(H:Hp)(n:Nat):Res:=match args with
 | [v0,v1]=>TY cal KK v0 v1 H n
 | _=>none
theorem ok128(args:List Value)(H:Hp)(n:Nat)(r:Value × Hp × Nat)(e:ent128 cal args H n=some r):aW P cal A (KK+1) 128 args H n=some r:=by
 unfold ent128 at e
 split at e
 ·exact(h128_0 ..).trans e
 ·cases e
noncomputable def ent129(args:List Value)(H:Hp)(n:Nat):Res:=match args with
 | [v0]=>TZ cal KK v0 H n
 | _=>none
theorem ok129(args:List Value)(H:Hp)(n:Nat)(r:Value × Hp × Nat)(e:ent129 cal args H n=some r):aW P cal A (KK+1) 129 args H n=some r:=by
 unfold ent129 at e
 split at e
 ·exact(h129_0 ..).trans e
 ·cases e
noncomputable def ent130(args:List Value)(H:Hp)(n:Nat):Res:=match args with
 | [v0,v1,v2,v3]=>C130_0 cal KK v0 v1 v2 v3 H n
 | _=>none
theorem ok130(args:List Value)(H:Hp)(n:Nat)(r:Value × Hp × Nat)(e:ent130 cal args H n=some r):aW P cal A (KK+1) 130 args H n=some r:=by
 unfold ent130 at e
 split at e
 ·exact(h130_0 ..).trans e
 ·cases e
noncomputable def ent134(args:List Value)(H:Hp)(n:Nat):Res:=match args with
 | [v0,v1,v2,v3]=>C134_0 cal KK v0 v1 v2 v3 H n
 | _=>none
theorem ok134(args:List Value)(H:Hp)(n:Nat)(r:Value × Hp × Nat)(e:ent134 cal args H n=some r):aW P cal A (KK+1) 134 args H n=some r:=by
 unfold ent134 at e
 split at e
 ·exact(h134_0 ..).trans e
 ·cases e
noncomputable def ent138(args:List Value)(H:Hp)(n:Nat):Res:=match args with
 | [v0]=>C138_0 cal KK v0 H n
 | _=>none
theorem ok138(args:List Value)(H:Hp)(n:Nat)(r:Value × Hp × Nat)(e:ent138 cal args H n=some r):aW P cal A (KK+1) 138 args H n=some r:=by
 unfold ent138 at e
 split at e
 ·exact(h138_0 ..).trans e
 ·cases e
noncomputable def ent139(args:List Value)(H:Hp)(n:Nat):Res:=match args with
 | [v0]=>C139_0 cal KK v0 H n
 | _=>none
theorem ok139(args:List Value)(H:Hp)(n:Nat)(r:Value × Hp × Nat)(e:ent139 cal args H n=some r):aW P cal A (KK+1) 139 args H n=some r:=by
 unfold ent139 at e
 split at e
 ·exact(h139_0 ..).trans e
 ·cases e
noncomputable def ent140(args:List Value)(H:Hp)(n:Nat):Res:=match args with
 | [v0,v1]=>C140_0 cal KK v0 v1 H n
 | _=>none
theorem ok140(args:List Value)(H:Hp)(n:Nat)(r:Value × Hp × Nat)(e:ent140 cal args H n=some r):aW P cal A (KK+1) 140 args H n=some r:=by
 unfold ent140 at e
 split at e
 ·exact(h140_0 ..).trans e
 ·cases e
noncomputable def ent142(args:List Value)(H:Hp)(n:Nat):Res:=match args with
 | [v0]=>C142_0 cal KK v0 H n
 | _=>none
theorem ok142(args:List Value)(H:Hp)(n:Nat)(r:Value × Hp × Nat)(e:ent142 cal args H n=some r):aW P cal A (KK+1) 142 args H n=some r:=by
 unfold ent142 at e
 split at e
 ·exact(h142_0 ..).trans e
 ·cases e
noncomputable def ent143(args:List Value)(H:Hp)(n:Nat):Res:=match args with
 | [v0]=>C143_0 cal KK v0 H n
 | _=>none
theorem ok143(args:List Value)(H:Hp)(n:Nat)(r:Value × Hp × Nat)(e:ent143 cal args H n=some r):aW P cal A (KK+1) 143 args H n=some r:=by
 unfold ent143 at e
 split at e
 ·exact(h143_0 ..).trans e
 ·cases e
noncomputable def ent144(args:List Value)(H:Hp)(n:Nat):Res:=match args with
 | [v0,v1,v2,v3]=>C144_0 cal KK v0 v1 v2 v3 H n
 | _=>none
theorem ok144(args:List Value)(H:Hp)(n:Nat)(r:Value × Hp × Nat)(e:ent144 cal args H n=some r):aW P cal A (KK+1) 144 args H n=some r:=by
 unfold ent144 at e
 split at e
 ·exact(h144_0 ..).trans e
 ·cases e
noncomputable def ent145(args:List Value)(H:Hp)(n:Nat):Res:=match args with
 | [v0,v1,v2,v3,v4,v5]=>C145_0 cal KK v0 v1 v2 v3 v4 v5 H n
 | _=>none
theorem ok145(args:List Value)(H:Hp)(n:Nat)(r:Value × Hp × Nat)(e:ent145 cal args H n=some r):aW P cal A (KK+1) 145 args H n=some r:=by
 unfold ent145 at e
 split at e
 ·exact(h145_0 ..).trans e
 ·cases e
noncomputable def ent146(args:List Value)(H:Hp)(n:Nat):Res:=match args with
 | [v0]=>C146_0 cal KK v0 H n
 | _=>none
theorem ok146(args:List Value)(H:Hp)(n:Nat)(r:Value × Hp × Nat)(e:ent146 cal args H n=some r):aW P cal A (KK+1) 146 args H n=some r:=by
 unfold ent146 at e
 split at e
 ·exact(h146_0 ..).trans e
 ·cases e
noncomputable def ent147(args:List Value)(H:Hp)(n:Nat):Res:=match args with
 | [v0,v1,v2,v3,v4]=>C147_0 cal KK v0 v1 v2 v3 v4 H n
 | _=>none
theorem ok147(args:List Value)(H:Hp)(n:Nat)(r:Value × Hp × Nat)(e:ent147 cal args H n=some r):aW P cal A (KK+1) 147 args H n=some r:=by
 unfold ent147 at e
 split at e
 ·exact(h147_0 ..).trans e
 ·cases e
noncomputable def tab:Tr (Cal→List Value→Hp→Nat→Res):=Tr.set (Tr.set (Tr.set (Tr.set (Tr.set (Tr.set (Tr.set (Tr.set (Tr.set (Tr.set (Tr.set (Tr.set (Tr.set (Tr.set (Tr.set (Tr.set (Tr.set (Tr.set (Tr.set (Tr.set (Tr.set (Tr.set (Tr.set (Tr.set (Tr.set (Tr.set (Tr.set (Tr.set (Tr.set (Tr.set (Tr.set (Tr.set (Tr.set (Tr.set (Tr.set (Tr.set (Tr.set (Tr.set (Tr.set (Tr.set (Tr.set (Tr.set (Tr.set (Tr.set (Tr.set (Tr.set (Tr.set (Tr.set (Tr.set (Tr.set (Tr.set (Tr.set (Tr.set (Tr.set (Tr.set (Tr.set (Tr.set (Tr.set (Tr.set (Tr.set (Tr.set (Tr.set (Tr.set (Tr.set (Tr.set (Tr.set (Tr.set (Tr.set (Tr.set (Tr.set (Tr.set (Tr.set (Tr.set (Tr.set (Tr.set (Tr.set (Tr.set (Tr.set (.nil) 16 (some ent16)) 19 (some ent19)) 23 (some ent23)) 25 (some ent25)) 32 (some ent32)) 34 (some ent34)) 42 (some ent42)) 48 (some ent48)) 53 (some ent53)) 54 (some ent54)) 55 (some ent55)) 57 (some ent57)) 58 (some ent58)) 59 (some ent59)) 63 (some ent63)) 64 (some ent64)) 66 (some ent66)) 67 (some ent67)) 71 (some ent71)) 76 (some ent76)) 77 (some ent77)) 78 (some ent78)) 79 (some ent79)) 80 (some ent80)) 82 (some ent82)) 83 (some ent83)) 84 (some ent84)) 86 (some ent86)) 90 (some ent90)) 91 (some ent91)) 92 (some ent92)) 93 (some ent93)) 94 (some ent94)) 95 (some ent95)) 96 (some ent96)) 97 (some ent97)) 98 (some ent98)) 99 (some ent99)) 100 (some ent100)) 101 (some ent101)) 102 (some ent102)) 103 (some ent103)) 104 (some ent104)) 106 (some ent106)) 107 (some ent107)) 108 (some ent108)) 109 (some ent109)) 110 (some ent110)) 111 (some ent111)) 112 (some ent112)) 113 (some ent113)) 114 (some ent114)) 115 (some ent115)) 116 (some ent116)) 117 (some ent117)) 118 (some ent118)) 119 (some ent119)) 120 (some ent120)) 121 (some ent121)) 122 (some ent122)) 123 (some ent123)) 124 (some ent124)) 125 (some ent125)) 126 (some ent126)) 127 (some ent127)) 128 (some ent128)) 129 (some ent129)) 130 (some ent130)) 134 (some ent134)) 138 (some ent138)) 139 (some ent139)) 140 (some ent140)) 142 (some ent142)) 143 (some ent143)) 144 (some ent144)) 145 (some ent145)) 146 (some ent146)) 147 (some ent147)
theorem tab_ok:DJ P A (KK+1) tab.get:=bJ (bJ (bJ (bJ (bJ (bJ (bJ (bJ (bJ (bJ (bJ (bJ (bJ (bJ (bJ (bJ (bJ (bJ (bJ (bJ (bJ (bJ (bJ (bJ (bJ (bJ (bJ (bJ (bJ (bJ (bJ (bJ (bJ (bJ (bJ (bJ (bJ (bJ (bJ (bJ (bJ (bJ (bJ (bJ (bJ (bJ (bJ (bJ (bJ (bJ (bJ (bJ (bJ (bJ (bJ (bJ (bJ (bJ (bJ (bJ (bJ (bJ (bJ (bJ (bJ (bJ (bJ (bJ (bJ (bJ (bJ (bJ (bJ (bJ (bJ (bJ (bJ (bJ (tbl_nil _) ok16) ok19) ok23) ok25) ok32) ok34) ok42) ok48) ok53) ok54) ok55) ok57) ok58) ok59) ok63) ok64) ok66) ok67) ok71) ok76) ok77) ok78) ok79) ok80) ok82) ok83) ok84) ok86) ok90) ok91) ok92) ok93) ok94) ok95) ok96) ok97) ok98) ok99) ok100) ok101) ok102) ok103) ok104) ok106) ok107) ok108) ok109) ok110) ok111) ok112) ok113) ok114) ok115) ok116) ok117) ok118) ok119) ok120) ok121) ok122) ok123) ok124) ok125) ok126) ok127) ok128) ok129) ok130) ok134) ok138) ok139) ok140) ok142) ok143) ok144) ok145) ok146) ok147
end Go.Proofs.YtcjnaeimeilomaaGreat.G
end
end
