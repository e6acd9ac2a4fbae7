/- Texts G5 to G7. -/
import Derived.Test.YtkmjgabdaikomaaGreatC7
set_option linter.unusedVariables false
section
open Go Go.Ev
set_option maxRecDepth 1000000
noncomputable section
namespace Go.Proofs.YtkmjgabdaikomaaGreat.G
variable (cal:Cal) (k:Nat)
noncomputable def code106:Code:=codeOf 106
noncomputable def results106:List ResultVar:=resOf 106
noncomputable def K106_pr:KR:=(cutK (Lv.b (A 106)).c (codeE P cal (codeF P cal k) none 106 (cR (cR code106)) (Lv.b (Lv.b (A 106))) (doneK P results106) X0 (doneK P results106)))
noncomputable def K106_pxrlr:XR:=(upX 0 (K106_pr cal k) X0)
noncomputable def K106_prlrl (m1:Nat):KR:=(fun T H n D=>codeF P cal m1 (Lv.a (Lv.b (Lv.a (Lv.b (A 106))))) none 106 (cL (cR (cL (cR code106)))) (K106_pr cal k) (K106_pxrlr cal k) (doneK P results106) (cutT (Lv.a (Lv.b (Lv.a (Lv.b (A 106))))).c T) H n D)
noncomputable def T106_1 (m1:Nat):=fun(u1 u7 u8 u9:Value) (H:Hp) (n:Nat)=>labK (codeE P cal (codeF P cal m1) none 106 (cL (cL (cR (cL (cR code106))))) (Lv.a (Lv.a (Lv.b (Lv.a (Lv.b (A 106)))))) (K106_prlrl cal k m1) (K106_pxrlr cal k) (doneK P results106)) (Tr.set (Tr.set (Tr.set (Tr.set Tr.nil 9 (some u9)) 8 (some u8)) 7 (some u7)) 1 (some u1)) H n []
noncomputable def R106_1 (m1:Nat):V4:=fun u1 u7 u8 u9 H n=>codeF P cal m1 (Lv.a (Lv.b (Lv.a (Lv.b (A 106))))) none 106 (cL (cR (cL (cR code106)))) (K106_pr cal k) (K106_pxrlr cal k) (doneK P results106) (Tr.set (Tr.set (Tr.set (Tr.set Tr.nil 9 (some u9)) 8 (some u8)) 7 (some u7)) 1 (some u1)) H n []
noncomputable def B106_1 (cal:Cal) (k m1:Nat) (b1:V4) (u1 u7 u8 u9:Value) (H:Hp) (n:Nat):Res:=
binK P BinOp.lss 3 (Operand.tmp 9) (Operand.tmp 8) u9 u8 fun v_5=>
ifK v_5 (
bindO (indexAddrV P 35 u7 u9) fun v_6=>
bindO (addrV v_6) fun a_8=>bindO (loadV P H 124 a_8) fun v_7=>
allocK P 124 H n fun v_9 H_a n_b=>
bindO (storeP P 124 v_9 v_7 H_a) fun H_d=>
bindO (addrV v_9) fun a_g=>bindO (loadV P H_d 124 a_g) fun v_f=>
callVK P cal u1 [v_f] H_d n_b fun v_h H_i n_j=>
bindO (pureSem P v_h (Op.unary UnOp.not v_h)) fun v_k=>
ifK v_k (
some ((Value.bool false),H_i,n_j)) (
binK P BinOp.add 3 (Operand.tmp 9) (Operand.const (Value.int IntKind.i64 1)) u9 (Value.int IntKind.i64 1) fun v_m=>
b1 u1 u7 u8 v_m H_i n_j)) (
some ((Value.bool true),H,n))
noncomputable def C106_1 (m1:Nat):=B106_1 cal k m1
noncomputable def S106_1:Nat→V4:=recF (C106_1 cal k) (fun _ _ _ _ _ _=>none)
theorem h106_1 (m1:Nat):T106_1 cal k m1=C106_1 cal k m1 (R106_1 cal k m1):=by kernel_rfl
theorem q106_1 (m:Nat):T106_1 cal k m=S106_1 cal k m:=recS (h106_1 cal k) (by kernel_rfl) (fun m=>by kernel_rfl) m
noncomputable def B106_0 (cal:Cal) (k:Nat) (j1:V4) (v0 v1:Value) (H:Hp) (n:Nat):Res:=
bindO (lenV P 35 v0) fun v_3=>
j1 v1 v0 v_3 (Value.int IntKind.i64 0) H n
noncomputable def C106_0:=B106_0 cal k (S106_1 cal k k)
theorem h106_0 (v0 v1:Value) (H:Hp) (n:Nat):bodyE P cal A (k+1) 106 [v0,v1] H n=C106_0 cal k v0 v1 H n:=(bq Go.Proofs.Tryz.f106 code106 results106 (by kernel_rfl)).trans (Eq.trans (b:=B106_0 cal k (T106_1 cal k k) v0 v1 H n) (by kernel_rfl) (by rw[q106_1]; rfl))
noncomputable def code107:Code:=codeOf 107
noncomputable def results107:List ResultVar:=resOf 107
noncomputable def B107_0 (cal:Cal) (k:Nat) (v0:Value) (H:Hp) (n:Nat):Res:=
boxK 124 v0 H n fun v_1 H_2 n_3=>
bindO (fieldAddrV P 124 v_1 0) fun v_5=>
bindO (addrV v_5) fun a_7=>bindO (loadV P H_2 3 a_7) fun v_6=>
binK P BinOp.geq 3 (Operand.tmp 4) (Operand.const (Value.int IntKind.i64 0)) v_6 (Value.int IntKind.i64 0) fun v_8=>
guardK v_8 true (fun k_a=>
bindO (fieldAddrV P 124 v_1 0) fun v_e=>
k_a v_e H_2 n_3) H_2 n_3 fun v_b H_c n_d=>
guardK v_8 true (fun k_f=>
bindO (addrV v_b) fun a_k=>bindO (loadV P H_c 3 a_k) fun v_j=>
k_f v_j H_c n_d) H_c n_d fun v_g H_h n_i=>
guardK v_8 true (fun k_l=>
bindO (fieldAddrV P 124 v_1 1) fun v_p=>
k_l v_p H_h n_i) H_h n_i fun v_m H_n n_o=>
guardK v_8 true (fun k_q=>
bindO (addrV v_m) fun a_v=>bindO (loadV P H_n 3 a_v) fun v_u=>
k_q v_u H_n n_o) H_n n_o fun v_r H_s n_t=>
guardK v_8 true (fun k_w=>
binK P BinOp.leq 3 (Operand.tmp 8) (Operand.tmp 10) v_g v_r fun v_10=>
k_w v_10 H_s n_t) H_s n_t fun v_x H_y n_z=>
bindO (pickV v_8 v_x (Value.bool false)) fun v_11=>
guardK v_11 true (fun k_13=>
bindO (fieldAddrV P 124 v_1 1) fun v_17=>
k_13 v_17 H_y n_z) H_y n_z fun v_14 H_15 n_16=>
guardK v_11 true (fun k_18=>
bindO (addrV v_14) fun a_1d=>bindO (loadV P H_15 3 a_1d) fun v_1c=>
k_18 v_1c H_15 n_16) H_15 n_16 fun v_19 H_1a n_1b=>
guardK v_11 true (fun k_1e=>
binK P BinOp.leq 3 (Operand.tmp 15) (Operand.const (Value.int IntKind.i64 1000)) v_19 (Value.int IntKind.i64 1000) fun v_1i=>
k_1e v_1i H_1a n_1b) H_1a n_1b fun v_1f H_1g n_1h=>
bindO (pickV v_11 v_1f (Value.bool false)) fun v_1j=>
some (v_1j,H_1g,n_1h)
noncomputable def C107_0:=B107_0 cal k
theorem h107_0 (v0:Value) (H:Hp) (n:Nat):bodyE P cal A (k+1) 107 [v0] H n=C107_0 cal k v0 H n:=(bq Go.Proofs.Tryz.f107 code107 results107 (by kernel_rfl)).trans (by kernel_rfl)
noncomputable def code108:Code:=codeOf 108
noncomputable def results108:List ResultVar:=resOf 108
noncomputable def K108_pr:KR:=(cutK (Lv.b (A 108)).c (codeE P cal (codeF P cal k) none 108 (cR (cR code108)) (Lv.b (Lv.b (A 108))) (doneK P results108) X0 (doneK P results108)))
noncomputable def K108_pxrlr:XR:=(upX 0 (K108_pr cal k) X0)
noncomputable def K108_prlrl (m1:Nat):KR:=(fun T H n D=>codeF P cal m1 (Lv.a (Lv.b (Lv.a (Lv.b (A 108))))) none 108 (cL (cR (cL (cR code108)))) (K108_pr cal k) (K108_pxrlr cal k) (doneK P results108) (cutT (Lv.a (Lv.b (Lv.a (Lv.b (A 108))))).c T) H n D)
noncomputable def T108_1 (m1:Nat):=fun(u1 u7 u8 u9:Value) (H:Hp) (n:Nat)=>labK (codeE P cal (codeF P cal m1) none 108 (cL (cL (cR (cL (cR code108))))) (Lv.a (Lv.a (Lv.b (Lv.a (Lv.b (A 108)))))) (K108_prlrl cal k m1) (K108_pxrlr cal k) (doneK P results108)) (Tr.set (Tr.set (Tr.set (Tr.set Tr.nil 9 (some u9)) 8 (some u8)) 7 (some u7)) 1 (some u1)) H n []
noncomputable def R108_1 (m1:Nat):V4:=fun u1 u7 u8 u9 H n=>codeF P cal m1 (Lv.a (Lv.b (Lv.a (Lv.b (A 108))))) none 108 (cL (cR (cL (cR code108)))) (K108_pr cal k) (K108_pxrlr cal k) (doneK P results108) (Tr.set (Tr.set (Tr.set (Tr.set Tr.nil 9 (some u9)) 8 (some u8)) 7 (some u7)) 1 (some u1)) H n []
noncomputable def B108_1 (cal:Cal) (k m1:Nat) (b1:V4) (u1 u7 u8 u9:Value) (H:Hp) (n:Nat):Res:=
binK P BinOp.lss 3 (Operand.tmp 9) (Operand.tmp 8) u9 u8 fun v_5=>
ifK v_5 (
bindO (indexAddrV P 36 u7 u9) fun v_6=>
bindO (addrV v_6) fun a_8=>bindO (loadV P H 125 a_8) fun v_7=>
allocK P 125 H n fun v_9 H_a n_b=>
bindO (storeP P 125 v_9 v_7 H_a) fun H_d=>
bindO (addrV v_9) fun a_g=>bindO (loadV P H_d 125 a_g) fun v_f=>
callVK P cal u1 [v_f] H_d n_b fun v_h H_i n_j=>
bindO (pureSem P v_h (Op.unary UnOp.not v_h)) fun v_k=>
ifK v_k (
some ((Value.bool false),H_i,n_j)) (
binK P BinOp.add 3 (Operand.tmp 9) (Operand.const (Value.int IntKind.i64 1)) u9 (Value.int IntKind.i64 1) fun v_m=>
b1 u1 u7 u8 v_m H_i n_j)) (
some ((Value.bool true),H,n))
noncomputable def C108_1 (m1:Nat):=B108_1 cal k m1
noncomputable def S108_1:Nat→V4:=recF (C108_1 cal k) (fun _ _ _ _ _ _=>none)
theorem h108_1 (m1:Nat):T108_1 cal k m1=C108_1 cal k m1 (R108_1 cal k m1):=by kernel_rfl
theorem q108_1 (m:Nat):T108_1 cal k m=S108_1 cal k m:=recS (h108_1 cal k) (by kernel_rfl) (fun m=>by kernel_rfl) m
noncomputable def B108_0 (cal:Cal) (k:Nat) (j1:V4) (v0 v1:Value) (H:Hp) (n:Nat):Res:=
bindO (lenV P 36 v0) fun v_3=>
j1 v1 v0 v_3 (Value.int IntKind.i64 0) H n
noncomputable def C108_0:=B108_0 cal k (S108_1 cal k k)
theorem h108_0 (v0 v1:Value) (H:Hp) (n:Nat):bodyE P cal A (k+1) 108 [v0,v1] H n=C108_0 cal k v0 v1 H n:=(bq Go.Proofs.Tryz.f108 code108 results108 (by kernel_rfl)).trans (Eq.trans (b:=B108_0 cal k (T108_1 cal k k) v0 v1 H n) (by kernel_rfl) (by rw[q108_1]; rfl))
noncomputable def code109:Code:=codeOf 109
noncomputable def results109:List ResultVar:=resOf 109
noncomputable def K109_prr:KR:=(cutK (Lv.b (Lv.b (A 109))).c (codeE P cal (codeF P cal k) none 109 (cR (cR (cR code109))) (Lv.b (Lv.b (Lv.b (A 109)))) (doneK P results109) X0 (doneK P results109)))
noncomputable def K109_pxrrlr:XR:=(upX 0 (K109_prr cal k) X0)
noncomputable def K109_prrlrl (m1:Nat):KR:=(fun T H n D=>codeF P cal m1 (Lv.a (Lv.b (Lv.a (Lv.b (Lv.b (A 109)))))) none 109 (cL (cR (cL (cR (cR code109))))) (K109_prr cal k) (K109_pxrrlr cal k) (doneK P results109) (cutT (Lv.a (Lv.b (Lv.a (Lv.b (Lv.b (A 109)))))).c T) H n D)
noncomputable def K109_prrlrllrr (m1:Nat):KR:=(cutK (Lv.b (Lv.b (Lv.a (Lv.a (Lv.b (Lv.a (Lv.b (Lv.b (A 109))))))))).c (codeE P cal (codeF P cal m1) none 109 (cR (cR (cR (cL (cL (cR (cL (cR (cR code109))))))))) (Lv.b (Lv.b (Lv.b (Lv.a (Lv.a (Lv.b (Lv.a (Lv.b (Lv.b (A 109)))))))))) (K109_prrlrl cal k m1) (K109_pxrrlr cal k) (doneK P results109)))
noncomputable def K109_pxrrlrllrrl (m1:Nat):XR:=(upX 1 (K109_prrlrllrr cal k m1) (K109_pxrrlr cal k))
noncomputable def T109_2 (m1:Nat):=fun(u2 u3 u5 u9 u10 u11:Value) (H:Hp) (n:Nat)=>labK (codeE P cal (codeF P cal m1) none 109 (cR (cR (cR (cL (cL (cR (cL (cR (cR code109))))))))) (Lv.b (Lv.b (Lv.b (Lv.a (Lv.a (Lv.b (Lv.a (Lv.b (Lv.b (A 109)))))))))) (K109_prrlrl cal k m1) (K109_pxrrlr cal k) (doneK P results109)) (Tr.set (Tr.set (Tr.set (Tr.set (Tr.set (Tr.set Tr.nil 11 (some u11)) 10 (some u10)) 9 (some u9)) 5 (some u5)) 3 (some u3)) 2 (some u2)) H n []
noncomputable def T109_1 (m1:Nat):=fun(u2 u3 u5 u9 u10 u11:Value) (H:Hp) (n:Nat)=>labK (codeE P cal (codeF P cal m1) none 109 (cL (cL (cR (cL (cR (cR code109)))))) (Lv.a (Lv.a (Lv.b (Lv.a (Lv.b (Lv.b (A 109))))))) (K109_prrlrl cal k m1) (K109_pxrrlr cal k) (doneK P results109)) (Tr.set (Tr.set (Tr.set (Tr.set (Tr.set (Tr.set Tr.nil 11 (some u11)) 10 (some u10)) 9 (some u9)) 5 (some u5)) 3 (some u3)) 2 (some u2)) H n []
noncomputable def R109_1 (m1:Nat):V6:=fun u2 u3 u5 u9 u10 u11 H n=>codeF P cal m1 (Lv.a (Lv.b (Lv.a (Lv.b (Lv.b (A 109)))))) none 109 (cL (cR (cL (cR (cR code109))))) (K109_prr cal k) (K109_pxrrlr cal k) (doneK P results109) (Tr.set (Tr.set (Tr.set (Tr.set (Tr.set (Tr.set Tr.nil 11 (some u11)) 10 (some u10)) 9 (some u9)) 5 (some u5)) 3 (some u3)) 2 (some u2)) H n []
noncomputable def B109_2 (cal:Cal) (k m1:Nat) (b1:V6) (u2 u3 u5 u9 u10 u11:Value) (H:Hp) (n:Nat):Res:=
binK P BinOp.add 3 (Operand.tmp 11) (Operand.const (Value.int IntKind.i64 1)) u11 (Value.int IntKind.i64 1) fun v_f=>
b1 u2 u3 u5 u9 u10 v_f H n
noncomputable def C109_2 (m1:Nat):=B109_2 cal k m1
theorem h109_2 (m1:Nat):T109_2 cal k m1=C109_2 cal k m1 (R109_1 cal k m1):=by kernel_rfl
noncomputable def B109_1 (cal:Cal) (k m1:Nat) (j2:V6) (b1:V6) (u2 u3 u5 u9 u10 u11:Value) (H:Hp) (n:Nat):Res:=
binK P BinOp.lss 3 (Operand.tmp 11) (Operand.tmp 10) u11 u10 fun v_e=>
ifK v_e (
bindO (indexAddrV P 36 u9 u11) fun v_h=>
bindO (addrV v_h) fun a_j=>bindO (loadV P H 125 a_j) fun v_i=>
allocK P 125 H n fun v_k H_l n_m=>
bindO (storeP P 125 v_k v_i H_l) fun H_o=>
bindO (addrV v_k) fun a_q=>bindO (loadV P H_o 125 a_q) fun v_p=>
bindO (addrV u3) fun a_s=>bindO (loadV P H_o 125 a_s) fun v_r=>
binK P BinOp.eql 125 (Operand.tmp 15) (Operand.tmp 16) v_p v_r fun v_t=>
guardK v_t false (fun k_v=>
bindO (addrV v_k) fun a_10=>bindO (loadV P H_o 125 a_10) fun v_z=>
k_v v_z H_o n_m) H_o n_m fun v_w H_x n_y=>
guardK v_t false (fun k_11=>
bindO (fieldAddrV P 125 u3 1) fun v_15=>
k_11 v_15 H_x n_y) H_x n_y fun v_12 H_13 n_14=>
guardK v_t false (fun k_16=>
bindO (addrV v_12) fun a_1b=>bindO (loadV P H_13 3 a_1b) fun v_1a=>
k_16 v_1a H_13 n_14) H_13 n_14 fun v_17 H_18 n_19=>
guardK v_t false (fun k_1c=>
bindO (fieldAddrV P 125 u3 0) fun v_1g=>
k_1c v_1g H_18 n_19) H_18 n_19 fun v_1d H_1e n_1f=>
guardK v_t false (fun k_1h=>
bindO (addrV v_1d) fun a_1m=>bindO (loadV P H_1e 3 a_1m) fun v_1l=>
k_1h v_1l H_1e n_1f) H_1e n_1f fun v_1i H_1j n_1k=>
guardK v_t false (fun k_1n=>
bindO (buildP P 125 [(0,v_17),(1,v_1i)]) fun v_1r=>
k_1n v_1r H_1j n_1k) H_1j n_1k fun v_1o H_1p n_1q=>
guardK v_t false (fun k_1s=>
binK P BinOp.eql 125 (Operand.tmp 19) (Operand.tmp 24) v_w v_1o fun v_1w=>
k_1s v_1w H_1p n_1q) H_1p n_1q fun v_1t H_1u n_1v=>
bindO (pickV v_t (Value.bool true) v_1t) fun v_1x=>
ifK v_1x (
binK P BinOp.add 3 (Operand.tmp 27) (Operand.const (Value.int IntKind.i64 1)) u5 (Value.int IntKind.i64 1) fun v_1z=>
j2 u2 u3 v_1z u9 u10 u11 H_1u n_1v) (
j2 u2 u3 u5 u9 u10 u11 H_1u n_1v)) (
bindO (addrV u2) fun a_22=>bindO (loadV P H 39 a_22) fun v_21=>
bindO (fieldAddrV P 125 u3 0) fun v_23=>
bindO (addrV v_23) fun a_25=>bindO (loadV P H 3 a_25) fun v_24=>
callFK P cal 121 [v_21,v_24] H n fun v_26 H_27 n_28=>
guardK v_26 true (fun k_2a=>
bindO (addrV u2) fun a_2f=>bindO (loadV P H_27 39 a_2f) fun v_2e=>
k_2a v_2e H_27 n_28) H_27 n_28 fun v_2b H_2c n_2d=>
guardK v_26 true (fun k_2g=>
bindO (fieldAddrV P 125 u3 1) fun v_2k=>
k_2g v_2k H_2c n_2d) H_2c n_2d fun v_2h H_2i n_2j=>
guardK v_26 true (fun k_2l=>
bindO (addrV v_2h) fun a_2q=>bindO (loadV P H_2i 3 a_2q) fun v_2p=>
k_2l v_2p H_2i n_2j) H_2i n_2j fun v_2m H_2n n_2o=>
guardK v_26 true (fun k_2r=>
callFK P cal 121 [v_2b,v_2m] H_2n n_2o fun v_2v H_2w n_2x=>
k_2r v_2v H_2w n_2x) H_2n n_2o fun v_2s H_2t n_2u=>
bindO (pickV v_26 v_2s (Value.bool false)) fun v_2y=>
guardK v_2y true (fun k_30=>
bindO (fieldAddrV P 125 u3 0) fun v_34=>
k_30 v_34 H_2t n_2u) H_2t n_2u fun v_31 H_32 n_33=>
guardK v_2y true (fun k_35=>
bindO (addrV v_31) fun a_3a=>bindO (loadV P H_32 3 a_3a) fun v_39=>
k_35 v_39 H_32 n_33) H_32 n_33 fun v_36 H_37 n_38=>
guardK v_2y true (fun k_3b=>
bindO (fieldAddrV P 125 u3 1) fun v_3f=>
k_3b v_3f H_37 n_38) H_37 n_38 fun v_3c H_3d n_3e=>
guardK v_2y true (fun k_3g=>
bindO (addrV v_3c) fun a_3l=>bindO (loadV P H_3d 3 a_3l) fun v_3k=>
k_3g v_3k H_3d n_3e) H_3d n_3e fun v_3h H_3i n_3j=>
guardK v_2y true (fun k_3m=>
binK P BinOp.neq 3 (Operand.tmp 42) (Operand.tmp 44) v_36 v_3h fun v_3q=>
k_3m v_3q H_3i n_3j) H_3i n_3j fun v_3n H_3o n_3p=>
bindO (pickV v_2y v_3n (Value.bool false)) fun v_3r=>
guardK v_3r true (fun k_3t=>
k_3t u5 H_3o n_3p) H_3o n_3p fun v_3u H_3v n_3w=>
guardK v_3r true (fun k_3y=>
binK P BinOp.eql 3 (Operand.tmp 48) (Operand.const (Value.int IntKind.i64 1)) v_3u (Value.int IntKind.i64 1) fun v_42=>
k_3y v_42 H_3v n_3w) H_3v n_3w fun v_3z H_40 n_41=>
bindO (pickV v_3r v_3z (Value.bool false)) fun v_43=>
some (v_43,H_40,n_41))
noncomputable def C109_1 (m1:Nat) (b1:V6):=B109_1 cal k m1 (C109_2 cal k m1 b1) b1
noncomputable def S109_1:Nat→V6:=recF (C109_1 cal k) (fun _ _ _ _ _ _ _ _=>none)
theorem h109_1 (m1:Nat):T109_1 cal k m1=C109_1 cal k m1 (R109_1 cal k m1):=Eq.trans (b:=B109_1 cal k m1 (T109_2 cal k m1) (R109_1 cal k m1)) (by kernel_rfl) (by rw[h109_2]; rfl)
theorem q109_1 (m:Nat):T109_1 cal k m=S109_1 cal k m:=recS (h109_1 cal k) (by kernel_rfl) (fun m=>by kernel_rfl) m
noncomputable def B109_0 (cal:Cal) (k:Nat) (j1:V6) (v0 v1:Value) (H:Hp) (n:Nat):Res:=
boxK 39 v0 H n fun v_1 H_2 n_3=>
boxK 125 v1 H_2 n_3 fun v_4 H_5 n_6=>
bindO (fieldAddrV P 39 v_1 1) fun v_9=>
bindO (addrV v_9) fun a_b=>bindO (loadV P H_5 36 a_b) fun v_a=>
bindO (lenV P 36 v_a) fun v_c=>
j1 v_1 v_4 (Value.int IntKind.i64 0) v_a v_c (Value.int IntKind.i64 0) H_5 n_6
noncomputable def C109_0:=B109_0 cal k (S109_1 cal k k)
theorem h109_0 (v0 v1:Value) (H:Hp) (n:Nat):bodyE P cal A (k+1) 109 [v0,v1] H n=C109_0 cal k v0 v1 H n:=(bq Go.Proofs.Tryz.f109 code109 results109 (by kernel_rfl)).trans (Eq.trans (b:=B109_0 cal k (T109_1 cal k k) v0 v1 H n) (by kernel_rfl) (by rw[q109_1]; rfl))
noncomputable def code110:Code:=codeOf 110
noncomputable def results110:List ResultVar:=resOf 110
noncomputable def K110_pr:KR:=(cutK (Lv.b (A 110)).c (codeE P cal (codeF P cal k) none 110 (cR (cR code110)) (Lv.b (Lv.b (A 110))) (doneK P results110) X0 (doneK P results110)))
noncomputable def K110_pxrlr:XR:=(upX 0 (K110_pr cal k) X0)
noncomputable def K110_prlrl (m1:Nat):KR:=(fun T H n D=>codeF P cal m1 (Lv.a (Lv.b (Lv.a (Lv.b (A 110))))) none 110 (cL (cR (cL (cR code110)))) (K110_pr cal k) (K110_pxrlr cal k) (doneK P results110) (cutT (Lv.a (Lv.b (Lv.a (Lv.b (A 110))))).c T) H n D)
noncomputable def T110_1 (m1:Nat):=fun(u1 u7 u8 u9:Value) (H:Hp) (n:Nat)=>labK (codeE P cal (codeF P cal m1) none 110 (cL (cL (cR (cL (cR code110))))) (Lv.a (Lv.a (Lv.b (Lv.a (Lv.b (A 110)))))) (K110_prlrl cal k m1) (K110_pxrlr cal k) (doneK P results110)) (Tr.set (Tr.set (Tr.set (Tr.set Tr.nil 9 (some u9)) 8 (some u8)) 7 (some u7)) 1 (some u1)) H n []
noncomputable def R110_1 (m1:Nat):V4:=fun u1 u7 u8 u9 H n=>codeF P cal m1 (Lv.a (Lv.b (Lv.a (Lv.b (A 110))))) none 110 (cL (cR (cL (cR code110)))) (K110_pr cal k) (K110_pxrlr cal k) (doneK P results110) (Tr.set (Tr.set (Tr.set (Tr.set Tr.nil 9 (some u9)) 8 (some u8)) 7 (some u7)) 1 (some u1)) H n []
noncomputable def B110_1 (cal:Cal) (k m1:Nat) (b1:V4) (u1 u7 u8 u9:Value) (H:Hp) (n:Nat):Res:=
binK P BinOp.lss 3 (Operand.tmp 9) (Operand.tmp 8) u9 u8 fun v_5=>
ifK v_5 (
bindO (indexAddrV P 37 u7 u9) fun v_6=>
bindO (addrV v_6) fun a_8=>bindO (loadV P H 122 a_8) fun v_7=>
allocK P 122 H n fun v_9 H_a n_b=>
bindO (storeP P 122 v_9 v_7 H_a) fun H_d=>
bindO (addrV v_9) fun a_g=>bindO (loadV P H_d 122 a_g) fun v_f=>
callVK P cal u1 [v_f] H_d n_b fun v_h H_i n_j=>
bindO (pureSem P v_h (Op.unary UnOp.not v_h)) fun v_k=>
ifK v_k (
some ((Value.bool false),H_i,n_j)) (
binK P BinOp.add 3 (Operand.tmp 9) (Operand.const (Value.int IntKind.i64 1)) u9 (Value.int IntKind.i64 1) fun v_m=>
b1 u1 u7 u8 v_m H_i n_j)) (
some ((Value.bool true),H,n))
noncomputable def C110_1 (m1:Nat):=B110_1 cal k m1
noncomputable def S110_1:Nat→V4:=recF (C110_1 cal k) (fun _ _ _ _ _ _=>none)
theorem h110_1 (m1:Nat):T110_1 cal k m1=C110_1 cal k m1 (R110_1 cal k m1):=by kernel_rfl
theorem q110_1 (m:Nat):T110_1 cal k m=S110_1 cal k m:=recS (h110_1 cal k) (by kernel_rfl) (fun m=>by kernel_rfl) m
noncomputable def B110_0 (cal:Cal) (k:Nat) (j1:V4) (v0 v1:Value) (H:Hp) (n:Nat):Res:=
bindO (lenV P 37 v0) fun v_3=>
j1 v1 v0 v_3 (Value.int IntKind.i64 0) H n
noncomputable def C110_0:=B110_0 cal k (S110_1 cal k k)
theorem h110_0 (v0 v1:Value) (H:Hp) (n:Nat):bodyE P cal A (k+1) 110 [v0,v1] H n=C110_0 cal k v0 v1 H n:=(bq Go.Proofs.Tryz.f110 code110 results110 (by kernel_rfl)).trans (Eq.trans (b:=B110_0 cal k (T110_1 cal k k) v0 v1 H n) (by kernel_rfl) (by rw[q110_1]; rfl))
noncomputable def code111:Code:=codeOf 111
noncomputable def results111:List ResultVar:=resOf 111
noncomputable def B111_0 (cal:Cal) (k:Nat) (v0:Value) (H:Hp) (n:Nat):Res:=
boxK 122 v0 H n fun v_1 H_2 n_3=>
bindO (fieldAddrV P 122 v_1 0) fun v_5=>
bindO (addrV v_5) fun a_7=>bindO (loadV P H_2 3 a_7) fun v_6=>
binK P BinOp.geq 3 (Operand.tmp 4) (Operand.const (Value.int IntKind.i64 0)) v_6 (Value.int IntKind.i64 0) fun v_8=>
guardK v_8 true (fun k_a=>
bindO (fieldAddrV P 122 v_1 0) fun v_e=>
k_a v_e H_2 n_3) H_2 n_3 fun v_b H_c n_d=>
guardK v_8 true (fun k_f=>
bindO (addrV v_b) fun a_k=>bindO (loadV P H_c 3 a_k) fun v_j=>
k_f v_j H_c n_d) H_c n_d fun v_g H_h n_i=>
guardK v_8 true (fun k_l=>
binK P BinOp.leq 3 (Operand.tmp 8) (Operand.const (Value.int IntKind.i64 1000)) v_g (Value.int IntKind.i64 1000) fun v_p=>
k_l v_p H_h n_i) H_h n_i fun v_m H_n n_o=>
bindO (pickV v_8 v_m (Value.bool false)) fun v_q=>
guardK v_q true (fun k_s=>
bindO (fieldAddrV P 122 v_1 1) fun v_w=>
k_s v_w H_n n_o) H_n n_o fun v_t H_u n_v=>
guardK v_q true (fun k_x=>
bindO (addrV v_t) fun a_12=>bindO (loadV P H_u 120 a_12) fun v_11=>
k_x v_11 H_u n_v) H_u n_v fun v_y H_z n_10=>
guardK v_q true (fun k_13=>
callFK P cal 122 [v_y] H_z n_10 fun v_17 H_18 n_19=>
k_13 v_17 H_18 n_19) H_z n_10 fun v_14 H_15 n_16=>
bindO (pickV v_q v_14 (Value.bool false)) fun v_1a=>
guardK v_1a true (fun k_1c=>
bindO (fieldAddrV P 122 v_1 2) fun v_1g=>
k_1c v_1g H_15 n_16) H_15 n_16 fun v_1d H_1e n_1f=>
guardK v_1a true (fun k_1h=>
bindO (addrV v_1d) fun a_1m=>bindO (loadV P H_1e 120 a_1m) fun v_1l=>
k_1h v_1l H_1e n_1f) H_1e n_1f fun v_1i H_1j n_1k=>
guardK v_1a true (fun k_1n=>
callFK P cal 122 [v_1i] H_1j n_1k fun v_1r H_1s n_1t=>
k_1n v_1r H_1s n_1t) H_1j n_1k fun v_1o H_1p n_1q=>
bindO (pickV v_1a v_1o (Value.bool false)) fun v_1u=>
some (v_1u,H_1p,n_1q)
noncomputable def C111_0:=B111_0 cal k
theorem h111_0 (v0:Value) (H:Hp) (n:Nat):bodyE P cal A (k+1) 111 [v0] H n=C111_0 cal k v0 H n:=(bq Go.Proofs.Tryz.f111 code111 results111 (by kernel_rfl)).trans (by kernel_rfl)
noncomputable def code112:Code:=codeOf 112
noncomputable def results112:List ResultVar:=resOf 112
noncomputable def K112_pxr (cal:Cal) (k:Nat):XR:=(upX 0 (doneK P results112) X0)
noncomputable def K112_prl (m1:Nat):KR:=(fun T H n D=>codeF P cal m1 (Lv.a (Lv.b (A 112))) none 112 (cL (cR code112)) (doneK P results112) (K112_pxr cal k) (doneK P results112) (cutT (Lv.a (Lv.b (A 112))).c T) H n D)
noncomputable def K112_prllrr (m1:Nat):KR:=(cutK (Lv.b (Lv.b (Lv.a (Lv.a (Lv.b (A 112)))))).c (codeE P cal (codeF P cal m1) none 112 (cR (cR (cR (cL (cL (cR code112)))))) (Lv.b (Lv.b (Lv.b (Lv.a (Lv.a (Lv.b (A 112))))))) (K112_prl cal k m1) (K112_pxr cal k) (doneK P results112)))
noncomputable def K112_pxrllrrl (m1:Nat):XR:=(upX 1 (K112_prllrr cal k m1) (K112_pxr cal k))
noncomputable def T112_1 (m1:Nat):=fun(u0 u1 u2 u10 u11:Value) (H:Hp) (n:Nat)=>labK (codeE P cal (codeF P cal m1) none 112 (cL (cL (cR code112))) (Lv.a (Lv.a (Lv.b (A 112)))) (K112_prl cal k m1) (K112_pxr cal k) (doneK P results112)) (Tr.set (Tr.set (Tr.set (Tr.set (Tr.set Tr.nil 11 (some u11)) 10 (some u10)) 2 (some u2)) 1 (some u1)) 0 (some u0)) H n []
noncomputable def R112_1 (m1:Nat):V5:=fun u0 u1 u2 u10 u11 H n=>codeF P cal m1 (Lv.a (Lv.b (A 112))) none 112 (cL (cR code112)) (doneK P results112) (K112_pxr cal k) (doneK P results112) (Tr.set (Tr.set (Tr.set (Tr.set (Tr.set Tr.nil 11 (some u11)) 10 (some u10)) 2 (some u2)) 1 (some u1)) 0 (some u0)) H n []
noncomputable def B112_1 (cal:Cal) (k m1:Nat) (b1:V5) (u0 u1 u2 u10 u11:Value) (H:Hp) (n:Nat):Res:=
binK P BinOp.lss 3 (Operand.tmp 11) (Operand.tmp 10) u11 u10 fun v_a=>
ifK v_a (
bindO (addrV u1) fun a_d=>bindO (loadV P H 92 a_d) fun v_e=>
bindO (nilV v_e) fun v_g=>
bindO (fieldAddrV P 104 v_g 1) fun v_h=>
bindO (indexAddrV P 102 v_h u11) fun v_i=>
bindO (addrV v_i) fun a_j=>bindO (loadV P H 101 a_j) fun v_k=>
bindO (addrV u2) fun a_l=>bindO (loadV P H 101 a_l) fun v_m=>
callFK P cal 88 [v_k,v_m] H n fun v_n H_o n_p=>
guardD v_n true (fun k_r=>
k_r u0 .p H_o n_p) .p H_o n_p fun v_s x_t H_u n_v=>
guardD v_n true (fun k_x=>
k_x u11 .p H_u n_v) .p H_u n_v fun v_y x_z H_10 n_11=>
guardD v_n true (fun k_13=>
callVK P cal v_s [v_y] H_10 n_11 fun v_18 H_19 n_1a=>
k_13 v_18 .e H_19 n_1a) .e H_10 n_11 fun v_14 x_15 H_16 n_17=>
guardD v_n true (fun k_1b=>
bindO (pureSem P v_14 (Op.unary UnOp.not v_14)) fun v_1g=>
k_1b v_1g .p H_16 n_17) .p H_16 n_17 fun v_1c x_1d H_1e n_1f=>
bindO (pickV v_n v_1c (Value.bool false)) fun v_1h=>
ifK v_1h (
some ((Value.tuple ⟨[]⟩),H_1e,n_1f)) (
binK P BinOp.add 3 (Operand.tmp 11) (Operand.const (Value.int IntKind.i64 1)) u11 (Value.int IntKind.i64 1) fun v_1i=>
b1 u0 u1 u2 u10 v_1i H_1e n_1f)) (
some ((Value.tuple ⟨[]⟩),H,n))
noncomputable def C112_1 (m1:Nat):=B112_1 cal k m1
noncomputable def S112_1:Nat→V5:=recF (C112_1 cal k) (fun _ _ _ _ _ _ _=>none)
theorem h112_1 (m1:Nat):T112_1 cal k m1=C112_1 cal k m1 (R112_1 cal k m1):=by kernel_rfl
theorem q112_1 (m:Nat):T112_1 cal k m=S112_1 cal k m:=recS (h112_1 cal k) (by kernel_rfl) (fun m=>by kernel_rfl) m
noncomputable def B112_0 (cal:Cal) (k:Nat) (j1:V5) (v0 v1 v2:Value) (H:Hp) (n:Nat):Res:=
bindO (addrV v1) fun a_2=>bindO (loadV P H 92 a_2) fun v_1=>
bindO (nilV v_1) fun v_3=>
bindO (fieldAddrV P 104 v_3 0) fun v_4=>
bindO (fieldAddrV P 41 v_4 2) fun v_5=>
bindO (addrV v_5) fun a_7=>bindO (loadV P H 27 a_7) fun v_6=>
bindO (lenV P 27 v_6) fun v_8=>
j1 v0 v1 v2 v_8 (Value.int IntKind.i64 0) H n
noncomputable def C112_0:=B112_0 cal k (S112_1 cal k k)
theorem h112_0 (v0 v1 v2:Value) (H:Hp) (n:Nat):bodyE P cal A (k+1) 112 [v0,v1,v2] H n=C112_0 cal k v0 v1 v2 H n:=(bq Go.Proofs.Tryz.f112 code112 results112 (by kernel_rfl)).trans (Eq.trans (b:=B112_0 cal k (T112_1 cal k k) v0 v1 v2 H n) (by kernel_rfl) (by rw[q112_1]; rfl))
noncomputable def code113:Code:=codeOf 113
noncomputable def results113:List ResultVar:=resOf 113
noncomputable def K113_pxr (cal:Cal) (k:Nat):XR:=(upX 0 (doneK P results113) X0)
noncomputable def K113_prl (m1:Nat):KR:=(fun T H n D=>codeF P cal m1 (Lv.a (Lv.b (A 113))) none 113 (cL (cR code113)) (doneK P results113) (K113_pxr cal k) (doneK P results113) (cutT (Lv.a (Lv.b (A 113))).c T) H n D)
noncomputable def T113_1 (m1:Nat):=fun(u0 u1 u3:Value) (H:Hp) (n:Nat)=>labK (codeE P cal (codeF P cal m1) none 113 (cL (cL (cR code113))) (Lv.a (Lv.a (Lv.b (A 113)))) (K113_prl cal k m1) (K113_pxr cal k) (doneK P results113)) (Tr.set (Tr.set (Tr.set Tr.nil 3 (some u3)) 1 (some u1)) 0 (some u0)) H n []
noncomputable def R113_1 (m1:Nat):V3:=fun u0 u1 u3 H n=>codeF P cal m1 (Lv.a (Lv.b (A 113))) none 113 (cL (cR code113)) (doneK P results113) (K113_pxr cal k) (doneK P results113) (Tr.set (Tr.set (Tr.set Tr.nil 3 (some u3)) 1 (some u1)) 0 (some u0)) H n []
noncomputable def B113_1 (cal:Cal) (k m1:Nat) (b1:V3) (u0 u1 u3:Value) (H:Hp) (n:Nat):Res:=
binK P BinOp.geq 3 (Operand.tmp 7) (Operand.const (Value.int IntKind.i64 0)) u3 (Value.int IntKind.i64 0) fun v_7=>
ifK v_7 (
bindO (addrV u1) fun a_b=>bindO (loadV P H 93 a_b) fun v_a=>
bindO (indexAddrV P 93 v_a u3) fun v_d=>
bindO (addrV v_d) fun a_f=>bindO (loadV P H 101 a_f) fun v_e=>
callVK P cal u0 [u3,v_e] H n fun v_g H_h n_i=>
bindO (pureSem P v_g (Op.unary UnOp.not v_g)) fun v_j=>
ifK v_j (
some ((Value.tuple ⟨[]⟩),H_h,n_i)) (
binK P BinOp.sub 3 (Operand.tmp 9) (Operand.const (Value.int IntKind.i64 1)) u3 (Value.int IntKind.i64 1) fun v_l=>
b1 u0 u1 v_l H_h n_i)) (
some ((Value.tuple ⟨[]⟩),H,n))
noncomputable def C113_1 (m1:Nat):=B113_1 cal k m1
noncomputable def S113_1:Nat→V3:=recF (C113_1 cal k) (fun _ _ _ _ _=>none)
theorem h113_1 (m1:Nat):T113_1 cal k m1=C113_1 cal k m1 (R113_1 cal k m1):=by kernel_rfl
theorem q113_1 (m:Nat):T113_1 cal k m=S113_1 cal k m:=recS (h113_1 cal k) (by kernel_rfl) (fun m=>by kernel_rfl) m
noncomputable def B113_0 (cal:Cal) (k:Nat) (j1:V3) (v0 v1:Value) (H:Hp) (n:Nat):Res:=
bindO (addrV v1) fun a_2=>bindO (loadV P H 93 a_2) fun v_1=>
bindO (lenV P 93 v_1) fun v_3=>
binK P BinOp.sub 3 (Operand.tmp 5) (Operand.const (Value.int IntKind.i64 1)) v_3 (Value.int IntKind.i64 1) fun v_4=>
j1 v0 v1 v_4 H n
noncomputable def C113_0:=B113_0 cal k (S113_1 cal k k)
theorem h113_0 (v0 v1:Value) (H:Hp) (n:Nat):bodyE P cal A (k+1) 113 [v0,v1] H n=C113_0 cal k v0 v1 H n:=(bq Go.Proofs.Tryz.f113 code113 results113 (by kernel_rfl)).trans (Eq.trans (b:=B113_0 cal k (T113_1 cal k k) v0 v1 H n) (by kernel_rfl) (by rw[q113_1]; rfl))
noncomputable def code114:Code:=codeOf 114
noncomputable def results114:List ResultVar:=resOf 114
noncomputable def B114_0 (cal:Cal) (k:Nat) (v0:Value) (H:Hp) (n:Nat):Res:=
binK P BinOp.shr 178 (Operand.tmp 3) (Operand.const (Value.int IntKind.u64 24)) v0 (Value.int IntKind.u64 24) fun v_3=>
bindO (indexV P 9 (Value.string (ByteArray.mk #[0,1,1,2,1,2,2,3,1,2,2,3,2,3,3,4,1,2,2,3,2,3,3,4,2,3,3,4,3,4,4,5,1,2,2,3,2,3,3,4,2,3,3,4,3,4,4,5,2,3,3,4,3,4,4,5,3,4,4,5,4,5,5,6,1,2,2,3,2,3,3,4,2,3,3,4,3,4,4,5,2,3,3,4,3,4,4,5,3,4,4,5,4,5,5,6,2,3,3,4,3,4,4,5,3,4,4,5,4,5,5,6,3,4,4,5,4,5,5,6,4,5,5,6,5,6,6,7,1,2,2,3,2,3,3,4,2,3,3,4,3,4,4,5,2,3,3,4,3,4,4,5,3,4,4,5,4,5,5,6,2,3,3,4,3,4,4,5,3,4,4,5,4,5,5,6,3,4,4,5,4,5,5,6,4,5,5,6,5,6,6,7,2,3,3,4,3,4,4,5,3,4,4,5,4,5,5,6,3,4,4,5,4,5,5,6,4,5,5,6,5,6,6,7,3,4,4,5,4,5,5,6,4,5,5,6,5,6,6,7,4,5,5,6,5,6,6,7,5,6,6,7,6,7,7,8])) v_3) fun v_4=>
binK P BinOp.shr 178 (Operand.tmp 6) (Operand.const (Value.int IntKind.u64 16)) v0 (Value.int IntKind.u64 16) fun v_6=>
binK P BinOp.and 178 (Operand.tmp 7) (Operand.const (Value.int IntKind.u32 255)) v_6 (Value.int IntKind.u32 255) fun v_7=>
bindO (indexV P 9 (Value.string (ByteArray.mk #[0,1,1,2,1,2,2,3,1,2,2,3,2,3,3,4,1,2,2,3,2,3,3,4,2,3,3,4,3,4,4,5,1,2,2,3,2,3,3,4,2,3,3,4,3,4,4,5,2,3,3,4,3,4,4,5,3,4,4,5,4,5,5,6,1,2,2,3,2,3,3,4,2,3,3,4,3,4,4,5,2,3,3,4,3,4,4,5,3,4,4,5,4,5,5,6,2,3,3,4,3,4,4,5,3,4,4,5,4,5,5,6,3,4,4,5,4,5,5,6,4,5,5,6,5,6,6,7,1,2,2,3,2,3,3,4,2,3,3,4,3,4,4,5,2,3,3,4,3,4,4,5,3,4,4,5,4,5,5,6,2,3,3,4,3,4,4,5,3,4,4,5,4,5,5,6,3,4,4,5,4,5,5,6,4,5,5,6,5,6,6,7,2,3,3,4,3,4,4,5,3,4,4,5,4,5,5,6,3,4,4,5,4,5,5,6,4,5,5,6,5,6,6,7,3,4,4,5,4,5,5,6,4,5,5,6,5,6,6,7,4,5,5,6,5,6,6,7,5,6,6,7,6,7,7,8])) v_7) fun v_8=>
binK P BinOp.add 5 (Operand.tmp 5) (Operand.tmp 9) v_4 v_8 fun v_9=>
binK P BinOp.shr 178 (Operand.tmp 11) (Operand.const (Value.int IntKind.u64 8)) v0 (Value.int IntKind.u64 8) fun v_b=>
binK P BinOp.and 178 (Operand.tmp 12) (Operand.const (Value.int IntKind.u32 255)) v_b (Value.int IntKind.u32 255) fun v_c=>
bindO (indexV P 9 (Value.string (ByteArray.mk #[0,1,1,2,1,2,2,3,1,2,2,3,2,3,3,4,1,2,2,3,2,3,3,4,2,3,3,4,3,4,4,5,1,2,2,3,2,3,3,4,2,3,3,4,3,4,4,5,2,3,3,4,3,4,4,5,3,4,4,5,4,5,5,6,1,2,2,3,2,3,3,4,2,3,3,4,3,4,4,5,2,3,3,4,3,4,4,5,3,4,4,5,4,5,5,6,2,3,3,4,3,4,4,5,3,4,4,5,4,5,5,6,3,4,4,5,4,5,5,6,4,5,5,6,5,6,6,7,1,2,2,3,2,3,3,4,2,3,3,4,3,4,4,5,2,3,3,4,3,4,4,5,3,4,4,5,4,5,5,6,2,3,3,4,3,4,4,5,3,4,4,5,4,5,5,6,3,4,4,5,4,5,5,6,4,5,5,6,5,6,6,7,2,3,3,4,3,4,4,5,3,4,4,5,4,5,5,6,3,4,4,5,4,5,5,6,4,5,5,6,5,6,6,7,3,4,4,5,4,5,5,6,4,5,5,6,5,6,6,7,4,5,5,6,5,6,6,7,5,6,6,7,6,7,7,8])) v_c) fun v_d=>
binK P BinOp.add 5 (Operand.tmp 10) (Operand.tmp 14) v_9 v_d fun v_e=>
binK P BinOp.and 178 (Operand.tmp 16) (Operand.const (Value.int IntKind.u32 255)) v0 (Value.int IntKind.u32 255) fun v_g=>
bindO (indexV P 9 (Value.string (ByteArray.mk #[0,1,1,2,1,2,2,3,1,2,2,3,2,3,3,4,1,2,2,3,2,3,3,4,2,3,3,4,3,4,4,5,1,2,2,3,2,3,3,4,2,3,3,4,3,4,4,5,2,3,3,4,3,4,4,5,3,4,4,5,4,5,5,6,1,2,2,3,2,3,3,4,2,3,3,4,3,4,4,5,2,3,3,4,3,4,4,5,3,4,4,5,4,5,5,6,2,3,3,4,3,4,4,5,3,4,4,5,4,5,5,6,3,4,4,5,4,5,5,6,4,5,5,6,5,6,6,7,1,2,2,3,2,3,3,4,2,3,3,4,3,4,4,5,2,3,3,4,3,4,4,5,3,4,4,5,4,5,5,6,2,3,3,4,3,4,4,5,3,4,4,5,4,5,5,6,3,4,4,5,4,5,5,6,4,5,5,6,5,6,6,7,2,3,3,4,3,4,4,5,3,4,4,5,4,5,5,6,3,4,4,5,4,5,5,6,4,5,5,6,5,6,6,7,3,4,4,5,4,5,5,6,4,5,5,6,5,6,6,7,4,5,5,6,5,6,6,7,5,6,6,7,6,7,7,8])) v_g) fun v_h=>
binK P BinOp.add 5 (Operand.tmp 15) (Operand.tmp 18) v_e v_h fun v_i=>
bindO (pureSem P v_i (convert 5 3 v_i)) fun v_j=>
some (v_j,H,n)
noncomputable def C114_0:=B114_0 cal k
theorem h114_0 (v0:Value) (H:Hp) (n:Nat):bodyE P cal A (k+1) 114 [v0] H n=C114_0 cal k v0 H n:=(bq Go.Proofs.Tryz.f114 code114 results114 (by kernel_rfl)).trans (by kernel_rfl)
noncomputable def code115:Code:=codeOf 115
noncomputable def results115:List ResultVar:=resOf 115
noncomputable def B115_0 (cal:Cal) (k:Nat) (v0:Value) (H:Hp) (n:Nat):Res:=
binK P BinOp.shr 180 (Operand.tmp 3) (Operand.const (Value.int IntKind.u64 1)) v0 (Value.int IntKind.u64 1) fun v_3=>
binK P BinOp.and 180 (Operand.tmp 4) (Operand.const (Value.int IntKind.u64 6148914691236517205)) v_3 (Value.int IntKind.u64 6148914691236517205) fun v_4=>
binK P BinOp.and 180 (Operand.tmp 6) (Operand.const (Value.int IntKind.u64 6148914691236517205)) v0 (Value.int IntKind.u64 6148914691236517205) fun v_6=>
binK P BinOp.add 180 (Operand.tmp 5) (Operand.tmp 7) v_4 v_6 fun v_7=>
binK P BinOp.shr 180 (Operand.tmp 9) (Operand.const (Value.int IntKind.u64 2)) v_7 (Value.int IntKind.u64 2) fun v_a=>
binK P BinOp.and 180 (Operand.tmp 10) (Operand.const (Value.int IntKind.u64 3689348814741910323)) v_a (Value.int IntKind.u64 3689348814741910323) fun v_b=>
binK P BinOp.and 180 (Operand.tmp 12) (Operand.const (Value.int IntKind.u64 3689348814741910323)) v_7 (Value.int IntKind.u64 3689348814741910323) fun v_d=>
binK P BinOp.add 180 (Operand.tmp 11) (Operand.tmp 13) v_b v_d fun v_e=>
binK P BinOp.shr 180 (Operand.tmp 15) (Operand.const (Value.int IntKind.u64 4)) v_e (Value.int IntKind.u64 4) fun v_h=>
binK P BinOp.add 180 (Operand.tmp 16) (Operand.tmp 17) v_h v_e fun v_j=>
binK P BinOp.and 180 (Operand.tmp 18) (Operand.const (Value.int IntKind.u64 1085102592571150095)) v_j (Value.int IntKind.u64 1085102592571150095) fun v_k=>
binK P BinOp.shr 180 (Operand.tmp 21) (Operand.const (Value.int IntKind.u64 8)) v_k (Value.int IntKind.u64 8) fun v_o=>
binK P BinOp.add 180 (Operand.tmp 20) (Operand.tmp 22) v_k v_o fun v_p=>
binK P BinOp.shr 180 (Operand.tmp 25) (Operand.const (Value.int IntKind.u64 16)) v_p (Value.int IntKind.u64 16) fun v_t=>
binK P BinOp.add 180 (Operand.tmp 24) (Operand.tmp 26) v_p v_t fun v_u=>
binK P BinOp.shr 180 (Operand.tmp 29) (Operand.const (Value.int IntKind.u64 32)) v_u (Value.int IntKind.u64 32) fun v_y=>
binK P BinOp.add 180 (Operand.tmp 28) (Operand.tmp 30) v_u v_y fun v_z=>
bindO (pureSem P v_z (convert 180 3 v_z)) fun v_12=>
binK P BinOp.and 3 (Operand.tmp 33) (Operand.const (Value.int IntKind.i64 127)) v_12 (Value.int IntKind.i64 127) fun v_13=>
some (v_13,H,n)
noncomputable def C115_0:=B115_0 cal k
theorem h115_0 (v0:Value) (H:Hp) (n:Nat):bodyE P cal A (k+1) 115 [v0] H n=C115_0 cal k v0 H n:=(bq Go.Proofs.Tryz.f115 code115 results115 (by kernel_rfl)).trans (by kernel_rfl)
noncomputable def code116:Code:=codeOf 116
noncomputable def results116:List ResultVar:=resOf 116
noncomputable def K116_pxrr (cal:Cal) (k:Nat):XR:=(upX 0 (doneK P results116) X0)
noncomputable def K116_prrl (m1:Nat):KR:=(fun T H n D=>codeF P cal m1 (Lv.a (Lv.b (Lv.b (A 116)))) none 116 (cL (cR (cR code116))) (doneK P results116) (K116_pxrr cal k) (doneK P results116) (cutT (Lv.a (Lv.b (Lv.b (A 116)))).c T) H n D)
noncomputable def K116_pxrrll (m1:Nat):XR:=(upX 1 (K116_prrl cal k m1) (K116_pxrr cal k))
noncomputable def T116_4 (m1:Nat):=fun(u0 u1 u2 u3 u4 u10 u11 u12 u13:Value) (H:Hp) (n:Nat)=>labK (codeE P cal (codeF P cal m1) none 116 (cR (cR (cR (cR (cR (cR (cR (cL (cL (cL (cR (cR code116)))))))))))) (Lv.b (Lv.b (Lv.b (Lv.b (Lv.b (Lv.b (Lv.b (Lv.a (Lv.a (Lv.a (Lv.b (Lv.b (A 116))))))))))))) (K116_prrl cal k m1) (K116_pxrrll cal k m1) (doneK P results116)) (Tr.set (Tr.set (Tr.set (Tr.set (Tr.set (Tr.set (Tr.set (Tr.set (Tr.set Tr.nil 13 (some u13)) 12 (some u12)) 11 (some u11)) 10 (some u10)) 4 (some u4)) 3 (some u3)) 2 (some u2)) 1 (some u1)) 0 (some u0)) H n []
noncomputable def T116_3 (m1:Nat):=fun(u0 u1 u2 u3 u4 u10 u11 u12 u13 u14:Value) (H:Hp) (n:Nat)=>labK (codeE P cal (codeF P cal m1) none 116 (cR (cR (cR (cR (cR (cR (cL (cL (cL (cR (cR code116))))))))))) (Lv.b (Lv.b (Lv.b (Lv.b (Lv.b (Lv.b (Lv.a (Lv.a (Lv.a (Lv.b (Lv.b (A 116)))))))))))) (K116_prrl cal k m1) (K116_pxrrll cal k m1) (doneK P results116)) (Tr.set (Tr.set (Tr.set (Tr.set (Tr.set (Tr.set (Tr.set (Tr.set (Tr.set (Tr.set Tr.nil 14 (some u14)) 13 (some u13)) 12 (some u12)) 11 (some u11)) 10 (some u10)) 4 (some u4)) 3 (some u3)) 2 (some u2)) 1 (some u1)) 0 (some u0)) H n []
noncomputable def T116_2 (m1:Nat):=fun(u0 u1 u2 u3 u4 u10 u11 u12:Value) (H:Hp) (n:Nat)=>labK (codeE P cal (codeF P cal m1) none 116 (cR (cR (cR (cR (cL (cL (cL (cR (cR code116))))))))) (Lv.b (Lv.b (Lv.b (Lv.b (Lv.a (Lv.a (Lv.a (Lv.b (Lv.b (A 116)))))))))) (K116_prrl cal k m1) (K116_pxrrll cal k m1) (doneK P results116)) (Tr.set (Tr.set (Tr.set (Tr.set (Tr.set (Tr.set (Tr.set (Tr.set Tr.nil 12 (some u12)) 11 (some u11)) 10 (some u10)) 4 (some u4)) 3 (some u3)) 2 (some u2)) 1 (some u1)) 0 (some u0)) H n []
noncomputable def T116_1 (m1:Nat):=fun(u0 u1 u2 u3 u4 u10 u11:Value) (H:Hp) (n:Nat)=>labK (codeE P cal (codeF P cal m1) none 116 (cL (cL (cR (cR code116)))) (Lv.a (Lv.a (Lv.b (Lv.b (A 116))))) (K116_prrl cal k m1) (K116_pxrr cal k) (doneK P results116)) (Tr.set (Tr.set (Tr.set (Tr.set (Tr.set (Tr.set (Tr.set Tr.nil 11 (some u11)) 10 (some u10)) 4 (some u4)) 3 (some u3)) 2 (some u2)) 1 (some u1)) 0 (some u0)) H n []
noncomputable def R116_1 (m1:Nat):V7:=fun u0 u1 u2 u3 u4 u10 u11 H n=>codeF P cal m1 (Lv.a (Lv.b (Lv.b (A 116)))) none 116 (cL (cR (cR code116))) (doneK P results116) (K116_pxrr cal k) (doneK P results116) (Tr.set (Tr.set (Tr.set (Tr.set (Tr.set (Tr.set (Tr.set Tr.nil 11 (some u11)) 10 (some u10)) 4 (some u4)) 3 (some u3)) 2 (some u2)) 1 (some u1)) 0 (some u0)) H n []
noncomputable def B116_4 (cal:Cal) (k m1:Nat) (b1:V7) (u0 u1 u2 u3 u4 u10 u11 u12 u13:Value) (H:Hp) (n:Nat):Res:=
binK P BinOp.gtr 3 (Operand.tmp 81) (Operand.const (Value.int IntKind.i64 0)) u1 (Value.int IntKind.i64 0) fun v_12=>
guardD v_12 true (fun k_14=>
k_14 u4 .p H n) .p H n fun v_15 x_16 H_17 n_18=>
guardD v_12 true (fun k_1a=>
k_1a u0 .p H_17 n_18) .p H_17 n_18 fun v_1b x_1c H_1d n_1e=>
guardD v_12 true (fun k_1g=>
k_1g u1 .p H_1d n_1e) .p H_1d n_1e fun v_1h x_1i H_1j n_1k=>
guardD v_12 true (fun k_1m=>
binK P BinOp.sub 3 (Operand.tmp 86) (Operand.const (Value.int IntKind.i64 1)) v_1h (Value.int IntKind.i64 1) fun v_1r=>
k_1m v_1r .p H_1j n_1k) .p H_1j n_1k fun v_1n x_1o H_1p n_1q=>
guardD v_12 true (fun k_1s=>
bindO (indexAddrV P 93 v_1b v_1n) fun v_1x=>
k_1s v_1x .p H_1p n_1q) .p H_1p n_1q fun v_1t x_1u H_1v n_1w=>
guardD v_12 true (fun k_1y=>
bindO (addrV v_1t) fun a_23=>bindO (loadV P H_1v 101 a_23) fun v_24=>
k_1y v_24 (.l 101 a_23) H_1v n_1w) .p H_1v n_1w fun v_1z x_20 H_21 n_22=>
guardD v_12 true (fun k_25=>
k_25 u0 .p H_21 n_22) .p H_21 n_22 fun v_26 x_27 H_28 n_29=>
guardD v_12 true (fun k_2b=>
k_2b u13 .p H_28 n_29) .p H_28 n_29 fun v_2c x_2d H_2e n_2f=>
guardD v_12 true (fun k_2h=>
bindO (indexAddrV P 93 v_26 v_2c) fun v_2m=>
k_2h v_2m .p H_2e n_2f) .p H_2e n_2f fun v_2i x_2j H_2k n_2l=>
guardD v_12 true (fun k_2n=>
bindO (addrV v_2i) fun a_2s=>bindO (loadV P H_2k 101 a_2s) fun v_2t=>
k_2n v_2t (.l 101 a_2s) H_2k n_2l) .p H_2k n_2l fun v_2o x_2p H_2q n_2r=>
guardD v_12 true (fun k_2u=>
callVK P cal v_15 [v_1z,v_2o] H_2q n_2r fun v_2z H_30 n_31=>
k_2u v_2z .e H_30 n_31) .e H_2q n_2r fun v_2v x_2w H_2x n_2y=>
guardD v_12 true (fun k_32=>
binK P BinOp.lss 3 (Operand.tmp 94) (Operand.const (Value.int IntKind.i64 0)) v_2v (Value.int IntKind.i64 0) fun v_37=>
k_32 v_37 .p H_2x n_2y) .p H_2x n_2y fun v_33 x_34 H_35 n_36=>
guardD v_12 true (fun k_38=>
bindO (pureSem P v_33 (Op.unary UnOp.not v_33)) fun v_3d=>
k_38 v_3d .p H_35 n_36) .p H_35 n_36 fun v_39 x_3a H_3b n_3c=>
bindO (pickV v_12 v_39 (Value.bool false)) fun v_3e=>
ifK v_3e (
callFK P cal 129 [u0,u1,u2,u13,u4] H_3b n_3c fun v_3k H_3l n_3m=>
b1 u0 v_3k u2 u3 u4 u10 u11 H_3l n_3m) (
callFK P cal 130 [u0,u1,u2,u13,u4] H_3b n_3c fun v_3v H_3w n_3x=>
bindO (tupV v_3v 0) fun v_3z=>
bindO (tupV v_3v 1) fun v_40=>
binK P BinOp.sub 3 (Operand.tmp 115) (Operand.tmp 116) v_3z u1 fun v_47=>
binK P BinOp.sub 3 (Operand.tmp 118) (Operand.tmp 119) u2 v_3z fun v_4a=>
binK P BinOp.quo 3 (Operand.tmp 121) (Operand.const (Value.int IntKind.i64 8)) u12 (Value.int IntKind.i64 8) fun v_4e=>
binK P BinOp.lss 3 (Operand.tmp 123) (Operand.tmp 124) v_47 v_4a fun v_4i=>
ifK v_4i (
binK P BinOp.geq 3 (Operand.tmp 126) (Operand.tmp 127) v_47 v_4e fun v_4l=>
callFK P cal 116 [u0,u1,v_3z,u3,u4] H_3w n_3x fun v_4s H_4t n_4u=>
binK P BinOp.add 3 (Operand.tmp 135) (Operand.const (Value.int IntKind.i64 1)) v_3z (Value.int IntKind.i64 1) fun v_4w=>
b1 u0 v_4w u2 u3 u4 v_4l v_40 H_4t n_4u) (
binK P BinOp.geq 3 (Operand.tmp 137) (Operand.tmp 138) v_4a v_4e fun v_50=>
binK P BinOp.add 3 (Operand.tmp 141) (Operand.const (Value.int IntKind.i64 1)) v_3z (Value.int IntKind.i64 1) fun v_54=>
callFK P cal 116 [u0,v_54,u2,u3,u4] H_3w n_3x fun v_58 H_59 n_5a=>
b1 u0 u1 v_3z u3 u4 v_50 v_40 H_59 n_5a))
noncomputable def C116_4 (m1:Nat):=B116_4 cal k m1
theorem h116_4 (m1:Nat):T116_4 cal k m1=C116_4 cal k m1 (R116_1 cal k m1):=by kernel_rfl
noncomputable def B116_3 (cal:Cal) (k m1:Nat) (j4:V9) (b1:V7) (u0 u1 u2 u3 u4 u10 u11 u12 u13 u14:Value) (H:Hp) (n:Nat):Res:=
guardK u10 true (fun k_5f=>
k_5f u11 H n) H n fun v_5g H_5h n_5i=>
bindO (pickV u10 v_5g (Value.bool false)) fun v_5k=>
guardK v_5k true (fun k_5m=>
k_5m u14 H_5h n_5i) H_5h n_5i fun v_5n H_5o n_5p=>
guardK v_5k true (fun k_5r=>
binK P BinOp.eql 185 (Operand.tmp 73) (Operand.const (Value.int IntKind.i64 1)) v_5n (Value.int IntKind.i64 1) fun v_5v=>
k_5r v_5v H_5o n_5p) H_5o n_5p fun v_5s H_5t n_5u=>
bindO (pickV v_5k v_5s (Value.bool false)) fun v_5w=>
ifK v_5w (
callFK P cal 128 [u0,u1,u2,u4] H_5t n_5u fun v_61 H_62 n_63=>
ifK v_61 (
some ((Value.tuple ⟨[]⟩),H_62,n_63)) (
j4 u0 u1 u2 u3 u4 u10 u11 u12 u13 H_62 n_63)) (
j4 u0 u1 u2 u3 u4 u10 u11 u12 u13 H_5t n_5u)
noncomputable def C116_3 (m1:Nat) (b1:V7):=B116_3 cal k m1 (C116_4 cal k m1 b1) b1
theorem h116_3 (m1:Nat):T116_3 cal k m1=C116_3 cal k m1 (R116_1 cal k m1):=Eq.trans (b:=B116_3 cal k m1 (T116_4 cal k m1) (R116_1 cal k m1)) (by kernel_rfl) (by rw[h116_4]; rfl)
noncomputable def B116_2 (cal:Cal) (k m1:Nat) (j3:V10) (b1:V7) (u0 u1 u2 u3 u4 u10 u11 u12:Value) (H:Hp) (n:Nat):Res:=
callFK P cal 126 [u0,u1,u2,u4] H n fun v_t H_u n_v=>
bindO (tupV v_t 0) fun v_x=>
bindO (tupV v_t 1) fun v_y=>
binK P BinOp.eql 185 (Operand.tmp 55) (Operand.const (Value.int IntKind.i64 2)) v_y (Value.int IntKind.i64 2) fun v_65=>
ifK v_65 (
callFK P cal 127 [u0,u1,u2,u4] H_u n_v fun v_6a H_6b n_6c=>
binK P BinOp.sub 3 (Operand.tmp 62) (Operand.const (Value.int IntKind.i64 1)) u2 (Value.int IntKind.i64 1) fun v_6e=>
binK P BinOp.sub 3 (Operand.tmp 64) (Operand.tmp 65) v_x u1 fun v_6h=>
binK P BinOp.sub 3 (Operand.tmp 63) (Operand.tmp 66) v_6e v_6h fun v_6i=>
j3 u0 u1 u2 u3 u4 u10 u11 u12 v_6i (Value.int IntKind.i64 1) H_6b n_6c) (
j3 u0 u1 u2 u3 u4 u10 u11 u12 v_x v_y H_u n_v)
noncomputable def C116_2 (m1:Nat) (b1:V7):=B116_2 cal k m1 (C116_3 cal k m1 b1) b1
theorem h116_2 (m1:Nat):T116_2 cal k m1=C116_2 cal k m1 (R116_1 cal k m1):=Eq.trans (b:=B116_2 cal k m1 (T116_3 cal k m1) (R116_1 cal k m1)) (by kernel_rfl) (by rw[h116_3]; rfl)
noncomputable def B116_1 (cal:Cal) (k m1:Nat) (j2:V8) (b1:V7) (u0 u1 u2 u3 u4 u10 u11:Value) (H:Hp) (n:Nat):Res:=
binK P BinOp.sub 3 (Operand.tmp 21) (Operand.tmp 22) u2 u1 fun v_5=>
binK P BinOp.leq 3 (Operand.tmp 24) (Operand.const (Value.int IntKind.i64 12)) v_5 (Value.int IntKind.i64 12) fun v_8=>
ifK v_8 (
callFK P cal 123 [u0,u1,u2,u4] H n fun v_d H_e n_f=>
some ((Value.tuple ⟨[]⟩),H_e,n_f)) (
binK P BinOp.eql 3 (Operand.tmp 31) (Operand.const (Value.int IntKind.i64 0)) u3 (Value.int IntKind.i64 0) fun v_h=>
ifK v_h (
callFK P cal 124 [u0,u1,u2,u4] H n fun v_m H_n n_o=>
some ((Value.tuple ⟨[]⟩),H_n,n_o)) (
bindO (pureSem P u10 (Op.unary UnOp.not u10)) fun v_6m=>
ifK v_6m (
callFK P cal 125 [u0,u1,u2,u4] H n fun v_6r H_6s n_6t=>
binK P BinOp.sub 3 (Operand.tmp 45) (Operand.const (Value.int IntKind.i64 1)) u3 (Value.int IntKind.i64 1) fun v_6v=>
j2 u0 u1 u2 v_6v u4 u10 u11 v_5 H_6s n_6t) (
j2 u0 u1 u2 u3 u4 u10 u11 v_5 H n)))
noncomputable def C116_1 (m1:Nat) (b1:V7):=B116_1 cal k m1 (C116_2 cal k m1 b1) b1
noncomputable def S116_1:Nat→V7:=recF (C116_1 cal k) (fun _ _ _ _ _ _ _ _ _=>none)
theorem h116_1 (m1:Nat):T116_1 cal k m1=C116_1 cal k m1 (R116_1 cal k m1):=Eq.trans (b:=B116_1 cal k m1 (T116_2 cal k m1) (R116_1 cal k m1)) (by kernel_rfl) (by rw[h116_2]; rfl)
theorem q116_1 (m:Nat):T116_1 cal k m=S116_1 cal k m:=recS (h116_1 cal k) (by kernel_rfl) (fun m=>by kernel_rfl) m
noncomputable def B116_0 (cal:Cal) (k:Nat) (j1:V7) (v0 v1 v2 v3 v4:Value) (H:Hp) (n:Nat):Res:=
j1 v0 v1 v2 v3 v4 (Value.bool true) (Value.bool true) H n
noncomputable def C116_0:=B116_0 cal k (S116_1 cal k k)
theorem h116_0 (v0 v1 v2 v3 v4:Value) (H:Hp) (n:Nat):bodyE P cal A (k+1) 116 [v0,v1,v2,v3,v4] H n=C116_0 cal k v0 v1 v2 v3 v4 H n:=(bq Go.Proofs.Tryz.f116 code116 results116 (by kernel_rfl)).trans (Eq.trans (b:=B116_0 cal k (T116_1 cal k k) v0 v1 v2 v3 v4 H n) (by kernel_rfl) (by rw[q116_1]; rfl))
noncomputable def code117:Code:=codeOf 117
noncomputable def results117:List ResultVar:=resOf 117
noncomputable def B117_0 (cal:Cal) (k:Nat) (v0:Value) (H:Hp) (n:Nat):Res:=
ifK (Value.bool false) (
bindO (pureSem P v0 (convert 73 178 v0)) fun v_3=>
callFK P cal 131 [v_3] H n fun v_4 H_5 n_6=>
some (v_4,H_5,n_6)) (
callFK P cal 132 [v0] H n fun v_9 H_a n_b=>
some (v_9,H_a,n_b))
noncomputable def C117_0:=B117_0 cal k
theorem h117_0 (v0:Value) (H:Hp) (n:Nat):bodyE P cal A (k+1) 117 [v0] H n=C117_0 cal k v0 H n:=(bq Go.Proofs.Tryz.f117 code117 results117 (by kernel_rfl)).trans (by kernel_rfl)
noncomputable def code118:Code:=codeOf 118
noncomputable def results118:List ResultVar:=resOf 118
noncomputable def B118_0 (cal:Cal) (k:Nat) (v0 v1:Value) (H:Hp) (n:Nat):Res:=
callFK P cal 89 [v0] H n fun v_3 H_4 n_5=>
callFK P cal 89 [v1] H_4 n_5 fun v_7 H_8 n_9=>
callFK P cal 85 [v_3,v_7] H_8 n_9 fun v_a H_b n_c=>
some (v_a,H_b,n_c)
noncomputable def C118_0:=B118_0 cal k
theorem h118_0 (v0 v1:Value) (H:Hp) (n:Nat):bodyE P cal A (k+1) 118 [v0,v1] H n=C118_0 cal k v0 v1 H n:=(bq Go.Proofs.Tryz.f118 code118 results118 (by kernel_rfl)).trans (by kernel_rfl)
noncomputable def code119:Code:=codeOf 119
noncomputable def results119:List ResultVar:=resOf 119
noncomputable def B119_0 (cal:Cal) (k:Nat) (v0 v1:Value) (H:Hp) (n:Nat):Res:=
binK P BinOp.xor 101 (Operand.tmp 7) (Operand.tmp 8) v0 v1 fun v_4=>
bindO (pureSem P v_4 (Op.unary UnOp.neg v_4)) fun v_8=>
binK P BinOp.and 101 (Operand.tmp 10) (Operand.tmp 12) v_4 v_8 fun v_9=>
binK P BinOp.and 101 (Operand.tmp 14) (Operand.tmp 15) v1 v_9 fun v_d=>
binK P BinOp.and 101 (Operand.tmp 17) (Operand.tmp 18) v0 v_9 fun v_g=>
callFK P cal 133 [v_d,v_g] H n fun v_h H_i n_j=>
some (v_h,H_i,n_j)
noncomputable def C119_0:=B119_0 cal k
theorem h119_0 (v0 v1:Value) (H:Hp) (n:Nat):bodyE P cal A (k+1) 119 [v0,v1] H n=C119_0 cal k v0 v1 H n:=(bq Go.Proofs.Tryz.f119 code119 results119 (by kernel_rfl)).trans (by kernel_rfl)
end Go.Proofs.YtkmjgabdaikomaaGreat.G
end
end
section
open Go Go.Ev
set_option maxRecDepth 1000000
noncomputable section
namespace Go.Proofs.YtkmjgabdaikomaaGreat.G
variable (cal:Cal) (k:Nat)
noncomputable def code120:Code:=codeOf 120
noncomputable def results120:List ResultVar:=resOf 120
noncomputable def K120_prr:KR:=(cutK (Lv.b (Lv.b (A 120))).c (codeE P cal (codeF P cal k) none 120 (cR (cR (cR code120))) (Lv.b (Lv.b (Lv.b (A 120)))) (doneK P results120) X0 (doneK P results120)))
noncomputable def K120_pxrrlr:XR:=(upX 0 (K120_prr cal k) X0)
noncomputable def K120_prrlrl (m1:Nat):KR:=(fun T H n D=>codeF P cal m1 (Lv.a (Lv.b (Lv.a (Lv.b (Lv.b (A 120)))))) none 120 (cL (cR (cL (cR (cR code120))))) (K120_prr cal k) (K120_pxrrlr cal k) (doneK P results120) (cutT (Lv.a (Lv.b (Lv.a (Lv.b (Lv.b (A 120)))))).c T) H n D)
noncomputable def T120_1 (m1:Nat):=fun(u3 u6 u7 u8:Value) (H:Hp) (n:Nat)=>labK (codeE P cal (codeF P cal m1) none 120 (cL (cL (cR (cL (cR (cR code120)))))) (Lv.a (Lv.a (Lv.b (Lv.a (Lv.b (Lv.b (A 120))))))) (K120_prrlrl cal k m1) (K120_pxrrlr cal k) (doneK P results120)) (Tr.set (Tr.set (Tr.set (Tr.set Tr.nil 8 (some u8)) 7 (some u7)) 6 (some u6)) 3 (some u3)) H n []
noncomputable def R120_1 (m1:Nat):V4:=fun u3 u6 u7 u8 H n=>codeF P cal m1 (Lv.a (Lv.b (Lv.a (Lv.b (Lv.b (A 120)))))) none 120 (cL (cR (cL (cR (cR code120))))) (K120_prr cal k) (K120_pxrrlr cal k) (doneK P results120) (Tr.set (Tr.set (Tr.set (Tr.set Tr.nil 8 (some u8)) 7 (some u7)) 6 (some u6)) 3 (some u3)) H n []
noncomputable def B120_1 (cal:Cal) (k m1:Nat) (b1:V4) (u3 u6 u7 u8:Value) (H:Hp) (n:Nat):Res:=
binK P BinOp.lss 3 (Operand.tmp 8) (Operand.tmp 7) u8 u7 fun v_6=>
ifK v_6 (
bindO (indexAddrV P 27 u6 u8) fun v_7=>
bindO (addrV v_7) fun a_9=>bindO (loadV P H 3 a_9) fun v_8=>
binK P BinOp.neq 3 (Operand.tmp 12) (Operand.tmp 13) v_8 u3 fun v_d=>
ifK v_d (
some (v_8,H,n)) (
binK P BinOp.add 3 (Operand.tmp 8) (Operand.const (Value.int IntKind.i64 1)) u8 (Value.int IntKind.i64 1) fun v_g=>
b1 u3 u6 u7 v_g H n)) (
some (u3,H,n))
noncomputable def C120_1 (m1:Nat):=B120_1 cal k m1
noncomputable def S120_1:Nat→V4:=recF (C120_1 cal k) (fun _ _ _ _ _ _=>none)
theorem h120_1 (m1:Nat):T120_1 cal k m1=C120_1 cal k m1 (R120_1 cal k m1):=by kernel_rfl
theorem q120_1 (m:Nat):T120_1 cal k m=S120_1 cal k m:=recS (h120_1 cal k) (by kernel_rfl) (fun m=>by kernel_rfl) m
noncomputable def B120_0 (cal:Cal) (k:Nat) (j1:V4) (v0:Value) (H:Hp) (n:Nat):Res:=
bindO (lenV P 27 v0) fun v_4=>
j1 (Value.int IntKind.i64 0) v0 v_4 (Value.int IntKind.i64 0) H n
noncomputable def C120_0:=B120_0 cal k (S120_1 cal k k)
theorem h120_0 (v0:Value) (H:Hp) (n:Nat):bodyE P cal A (k+1) 120 [v0] H n=C120_0 cal k v0 H n:=(bq Go.Proofs.Tryz.f120 code120 results120 (by kernel_rfl)).trans (Eq.trans (b:=B120_0 cal k (T120_1 cal k k) v0 H n) (by kernel_rfl) (by rw[q120_1]; rfl))
noncomputable def code121:Code:=codeOf 121
noncomputable def results121:List ResultVar:=resOf 121
noncomputable def B121_0 (cal:Cal) (k:Nat) (v0 v1:Value) (H:Hp) (n:Nat):Res:=
boxK 39 v0 H n fun v_1 H_2 n_3=>
binK P BinOp.geq 3 (Operand.tmp 5) (Operand.const (Value.int IntKind.i64 0)) v1 (Value.int IntKind.i64 0) fun v_6=>
guardK v_6 true (fun k_8=>
k_8 v1 H_2 n_3) H_2 n_3 fun v_9 H_a n_b=>
guardK v_6 true (fun k_d=>
bindO (fieldAddrV P 39 v_1 0) fun v_h=>
k_d v_h H_a n_b) H_a n_b fun v_e H_f n_g=>
guardK v_6 true (fun k_i=>
bindO (addrV v_e) fun a_n=>bindO (loadV P H_f 35 a_n) fun v_m=>
k_i v_m H_f n_g) H_f n_g fun v_j H_k n_l=>
guardK v_6 true (fun k_o=>
bindO (lenV P 35 v_j) fun v_s=>
k_o v_s H_k n_l) H_k n_l fun v_p H_q n_r=>
guardK v_6 true (fun k_t=>
binK P BinOp.lss 3 (Operand.tmp 8) (Operand.tmp 11) v_9 v_p fun v_x=>
k_t v_x H_q n_r) H_q n_r fun v_u H_v n_w=>
bindO (pickV v_6 v_u (Value.bool false)) fun v_y=>
some (v_y,H_v,n_w)
noncomputable def C121_0:=B121_0 cal k
theorem h121_0 (v0 v1:Value) (H:Hp) (n:Nat):bodyE P cal A (k+1) 121 [v0,v1] H n=C121_0 cal k v0 v1 H n:=(bq Go.Proofs.Tryz.f121 code121 results121 (by kernel_rfl)).trans (by kernel_rfl)
noncomputable def code122:Code:=codeOf 122
noncomputable def results122:List ResultVar:=resOf 122
noncomputable def B122_0 (cal:Cal) (k:Nat) (v0:Value) (H:Hp) (n:Nat):Res:=
boxK 120 v0 H n fun v_1 H_2 n_3=>
bindO (fieldAddrV P 120 v_1 0) fun v_5=>
bindO (addrV v_5) fun a_7=>bindO (loadV P H_2 3 a_7) fun v_6=>
binK P BinOp.geq 3 (Operand.tmp 4) (Operand.const (Value.int IntKind.i64 0)) v_6 (Value.int IntKind.i64 0) fun v_8=>
guardK v_8 true (fun k_a=>
bindO (fieldAddrV P 120 v_1 0) fun v_e=>
k_a v_e H_2 n_3) H_2 n_3 fun v_b H_c n_d=>
guardK v_8 true (fun k_f=>
bindO (addrV v_b) fun a_k=>bindO (loadV P H_c 3 a_k) fun v_j=>
k_f v_j H_c n_d) H_c n_d fun v_g H_h n_i=>
guardK v_8 true (fun k_l=>
bindO (fieldAddrV P 120 v_1 1) fun v_p=>
k_l v_p H_h n_i) H_h n_i fun v_m H_n n_o=>
guardK v_8 true (fun k_q=>
bindO (addrV v_m) fun a_v=>bindO (loadV P H_n 3 a_v) fun v_u=>
k_q v_u H_n n_o) H_n n_o fun v_r H_s n_t=>
guardK v_8 true (fun k_w=>
binK P BinOp.leq 3 (Operand.tmp 8) (Operand.tmp 10) v_g v_r fun v_10=>
k_w v_10 H_s n_t) H_s n_t fun v_x H_y n_z=>
bindO (pickV v_8 v_x (Value.bool false)) fun v_11=>
guardK v_11 true (fun k_13=>
bindO (fieldAddrV P 120 v_1 1) fun v_17=>
k_13 v_17 H_y n_z) H_y n_z fun v_14 H_15 n_16=>
guardK v_11 true (fun k_18=>
bindO (addrV v_14) fun a_1d=>bindO (loadV P H_15 3 a_1d) fun v_1c=>
k_18 v_1c H_15 n_16) H_15 n_16 fun v_19 H_1a n_1b=>
guardK v_11 true (fun k_1e=>
binK P BinOp.leq 3 (Operand.tmp 15) (Operand.const (Value.int IntKind.i64 1000)) v_19 (Value.int IntKind.i64 1000) fun v_1i=>
k_1e v_1i H_1a n_1b) H_1a n_1b fun v_1f H_1g n_1h=>
bindO (pickV v_11 v_1f (Value.bool false)) fun v_1j=>
some (v_1j,H_1g,n_1h)
noncomputable def C122_0:=B122_0 cal k
theorem h122_0 (v0:Value) (H:Hp) (n:Nat):bodyE P cal A (k+1) 122 [v0] H n=C122_0 cal k v0 H n:=(bq Go.Proofs.Tryz.f122 code122 results122 (by kernel_rfl)).trans (by kernel_rfl)
noncomputable def code123:Code:=codeOf 123
noncomputable def results123:List ResultVar:=resOf 123
noncomputable def K123_pxr (cal:Cal) (k:Nat):XR:=(upX 0 (doneK P results123) X0)
noncomputable def K123_prl (m1:Nat):KR:=(fun T H n D=>codeF P cal m1 (Lv.a (Lv.b (A 123))) none 123 (cL (cR code123)) (doneK P results123) (K123_pxr cal k) (doneK P results123) (cutT (Lv.a (Lv.b (A 123))).c T) H n D)
noncomputable def K123_prllr (m1:Nat):KR:=(cutK (Lv.b (Lv.a (Lv.a (Lv.b (A 123))))).c (codeE P cal (codeF P cal m1) none 123 (cR (cR (cL (cL (cR code123))))) (Lv.b (Lv.b (Lv.a (Lv.a (Lv.b (A 123)))))) (K123_prl cal k m1) (K123_pxr cal k) (doneK P results123)))
noncomputable def K123_pxrllrl (m1:Nat):XR:=(upX 1 (K123_prllr cal k m1) (K123_pxr cal k))
noncomputable def K123_pxrllrllr (m1:Nat):XR:=(upX 2 (K123_prllr cal k m1) (K123_pxrllrl cal k m1))
noncomputable def K123_prllrllrl (m1:Nat) (m2:Nat):KR:=(fun T H n D=>codeF P cal m2 (Lv.a (Lv.b (Lv.a (Lv.a (Lv.b (Lv.a (Lv.a (Lv.b (A 123))))))))) none 123 (cL (cR (cL (cL (cR (cL (cL (cR code123)))))))) (K123_prllr cal k m1) (K123_pxrllrllr cal k m1) (doneK P results123) (cutT (Lv.a (Lv.b (Lv.a (Lv.a (Lv.b (Lv.a (Lv.a (Lv.b (A 123))))))))).c T) H n D)
noncomputable def T123_2 (m1 m2:Nat):=fun(u0 u1 u2 u3 u8 u9:Value) (H:Hp) (n:Nat)=>labK (codeE P cal (codeF P cal m2) none 123 (cL (cL (cR (cL (cL (cR (cL (cL (cR code123))))))))) (Lv.a (Lv.a (Lv.b (Lv.a (Lv.a (Lv.b (Lv.a (Lv.a (Lv.b (A 123)))))))))) (K123_prllrllrl cal k m1 m2) (K123_pxrllrllr cal k m1) (doneK P results123)) (Tr.set (Tr.set (Tr.set (Tr.set (Tr.set (Tr.set Tr.nil 9 (some u9)) 8 (some u8)) 3 (some u3)) 2 (some u2)) 1 (some u1)) 0 (some u0)) H n []
noncomputable def R123_2 (m1 m2:Nat):V6:=fun u0 u1 u2 u3 u8 u9 H n=>codeF P cal m2 (Lv.a (Lv.b (Lv.a (Lv.a (Lv.b (Lv.a (Lv.a (Lv.b (A 123))))))))) none 123 (cL (cR (cL (cL (cR (cL (cL (cR code123)))))))) (K123_prllr cal k m1) (K123_pxrllrllr cal k m1) (doneK P results123) (Tr.set (Tr.set (Tr.set (Tr.set (Tr.set (Tr.set Tr.nil 9 (some u9)) 8 (some u8)) 3 (some u3)) 2 (some u2)) 1 (some u1)) 0 (some u0)) H n []
noncomputable def T123_1 (m1:Nat):=fun(u0 u1 u2 u3 u8:Value) (H:Hp) (n:Nat)=>labK (codeE P cal (codeF P cal m1) none 123 (cL (cL (cR code123))) (Lv.a (Lv.a (Lv.b (A 123)))) (K123_prl cal k m1) (K123_pxr cal k) (doneK P results123)) (Tr.set (Tr.set (Tr.set (Tr.set (Tr.set Tr.nil 8 (some u8)) 3 (some u3)) 2 (some u2)) 1 (some u1)) 0 (some u0)) H n []
noncomputable def R123_1 (m1:Nat):V5:=fun u0 u1 u2 u3 u8 H n=>codeF P cal m1 (Lv.a (Lv.b (A 123))) none 123 (cL (cR code123)) (doneK P results123) (K123_pxr cal k) (doneK P results123) (Tr.set (Tr.set (Tr.set (Tr.set (Tr.set Tr.nil 8 (some u8)) 3 (some u3)) 2 (some u2)) 1 (some u1)) 0 (some u0)) H n []
noncomputable def B123_2 (cal:Cal) (k m1 m2:Nat) (b1:V5) (b2:V6) (u0 u1 u2 u3 u8 u9:Value) (H:Hp) (n:Nat):Res:=
binK P BinOp.gtr 3 (Operand.tmp 18) (Operand.tmp 19) u9 u1 fun v_b=>
guardD v_b true (fun k_d=>
k_d u3 .p H n) .p H n fun v_e x_f H_g n_h=>
guardD v_b true (fun k_j=>
k_j u0 .p H_g n_h) .p H_g n_h fun v_k x_l H_m n_n=>
guardD v_b true (fun k_p=>
k_p u9 .p H_m n_n) .p H_m n_n fun v_q x_r H_s n_t=>
guardD v_b true (fun k_v=>
bindO (indexAddrV P 93 v_k v_q) fun v_10=>
k_v v_10 .p H_s n_t) .p H_s n_t fun v_w x_x H_y n_z=>
guardD v_b true (fun k_11=>
bindO (addrV v_w) fun a_16=>bindO (loadV P H_y 101 a_16) fun v_17=>
k_11 v_17 (.l 101 a_16) H_y n_z) .p H_y n_z fun v_12 x_13 H_14 n_15=>
guardD v_b true (fun k_18=>
k_18 u0 .p H_14 n_15) .p H_14 n_15 fun v_19 x_1a H_1b n_1c=>
guardD v_b true (fun k_1e=>
k_1e u9 .p H_1b n_1c) .p H_1b n_1c fun v_1f x_1g H_1h n_1i=>
guardD v_b true (fun k_1k=>
binK P BinOp.sub 3 (Operand.tmp 28) (Operand.const (Value.int IntKind.i64 1)) v_1f (Value.int IntKind.i64 1) fun v_1p=>
k_1k v_1p .p H_1h n_1i) .p H_1h n_1i fun v_1l x_1m H_1n n_1o=>
guardD v_b true (fun k_1q=>
bindO (indexAddrV P 93 v_19 v_1l) fun v_1v=>
k_1q v_1v .p H_1n n_1o) .p H_1n n_1o fun v_1r x_1s H_1t n_1u=>
guardD v_b true (fun k_1w=>
bindO (addrV v_1r) fun a_21=>bindO (loadV P H_1t 101 a_21) fun v_22=>
k_1w v_22 (.l 101 a_21) H_1t n_1u) .p H_1t n_1u fun v_1x x_1y H_1z n_20=>
guardD v_b true (fun k_23=>
callVK P cal v_e [v_12,v_1x] H_1z n_20 fun v_28 H_29 n_2a=>
k_23 v_28 .e H_29 n_2a) .e H_1z n_20 fun v_24 x_25 H_26 n_27=>
guardD v_b true (fun k_2b=>
binK P BinOp.lss 3 (Operand.tmp 32) (Operand.const (Value.int IntKind.i64 0)) v_24 (Value.int IntKind.i64 0) fun v_2g=>
k_2b v_2g .p H_26 n_27) .p H_26 n_27 fun v_2c x_2d H_2e n_2f=>
bindO (pickV v_b v_2c (Value.bool false)) fun v_2h=>
ifK v_2h (
binK P BinOp.sub 3 (Operand.tmp 40) (Operand.const (Value.int IntKind.i64 1)) u9 (Value.int IntKind.i64 1) fun v_2m=>
binK P BinOp.sub 3 (Operand.tmp 43) (Operand.const (Value.int IntKind.i64 1)) u9 (Value.int IntKind.i64 1) fun v_2p=>
bindO (indexAddrV P 93 u0 v_2p) fun v_2q=>
bindO (addrV v_2q) fun a_2r=>bindO (loadV P H_2e 101 a_2r) fun v_2s=>
bindO (indexAddrV P 93 u0 u9) fun v_2v=>
bindO (addrV v_2v) fun a_2w=>bindO (loadV P H_2e 101 a_2w) fun v_2x=>
bindO (indexAddrV P 93 u0 u9) fun v_2y=>
bindO (storeP P 101 v_2y v_2s H_2e) fun H_30=>
bindO (indexAddrV P 93 u0 v_2m) fun v_31=>
bindO (storeP P 101 v_31 v_2x H_30) fun H_33=>
binK P BinOp.sub 3 (Operand.tmp 35) (Operand.const (Value.int IntKind.i64 1)) u9 (Value.int IntKind.i64 1) fun v_35=>
b2 u0 u1 u2 u3 u8 v_35 H_33 n_2f) (
binK P BinOp.add 3 (Operand.tmp 15) (Operand.const (Value.int IntKind.i64 1)) u8 (Value.int IntKind.i64 1) fun v_38=>
b1 u0 u1 u2 u3 v_38 H_2e n_2f)
noncomputable def C123_2 (m1 m2:Nat):=B123_2 cal k m1 m2
noncomputable def S123_2 (m1:Nat) (b1:V5):Nat→V6:=fun m=>Nat.rec (motive:=fun _=>V6) (C123_2 cal k m1 0 b1 (fun _ _ _ _ _ _ _ _=>none)) (fun m ih=>C123_2 cal k m1 (m+1) b1 ih) m
theorem h123_2 (m1 m2:Nat):T123_2 cal k m1 m2=C123_2 cal k m1 m2 (R123_1 cal k m1) (R123_2 cal k m1 m2):=by kernel_rfl
theorem q123_2 (m1:Nat) (m:Nat):T123_2 cal k m1 m=S123_2 cal k m1 (R123_1 cal k m1) m:=recS (h123_2 cal k m1) (by kernel_rfl) (fun m=>by kernel_rfl) m
noncomputable def B123_1 (cal:Cal) (k m1:Nat) (j2:V6) (b1:V5) (u0 u1 u2 u3 u8:Value) (H:Hp) (n:Nat):Res:=
binK P BinOp.lss 3 (Operand.tmp 12) (Operand.tmp 13) u8 u2 fun v_6=>
ifK v_6 (
j2 u0 u1 u2 u3 u8 u8 H n) (
some ((Value.tuple ⟨[]⟩),H,n))
noncomputable def C123_1 (m1:Nat) (b1:V5):=B123_1 cal k m1 (S123_2 cal k m1 b1 m1) b1
noncomputable def S123_1:Nat→V5:=recF (C123_1 cal k) (fun _ _ _ _ _ _ _=>none)
theorem h123_1 (m1:Nat):T123_1 cal k m1=C123_1 cal k m1 (R123_1 cal k m1):=Eq.trans (b:=B123_1 cal k m1 (T123_2 cal k m1 m1) (R123_1 cal k m1)) (by kernel_rfl) (by rw[q123_2]; rfl)
theorem q123_1 (m:Nat):T123_1 cal k m=S123_1 cal k m:=recS (h123_1 cal k) (by kernel_rfl) (fun m=>by kernel_rfl) m
noncomputable def B123_0 (cal:Cal) (k:Nat) (j1:V5) (v0 v1 v2 v3:Value) (H:Hp) (n:Nat):Res:=
binK P BinOp.add 3 (Operand.tmp 10) (Operand.const (Value.int IntKind.i64 1)) v1 (Value.int IntKind.i64 1) fun v_2=>
j1 v0 v1 v2 v3 v_2 H n
noncomputable def C123_0:=B123_0 cal k (S123_1 cal k k)
theorem h123_0 (v0 v1 v2 v3:Value) (H:Hp) (n:Nat):bodyE P cal A (k+1) 123 [v0,v1,v2,v3] H n=C123_0 cal k v0 v1 v2 v3 H n:=(bq Go.Proofs.Tryz.f123 code123 results123 (by kernel_rfl)).trans (Eq.trans (b:=B123_0 cal k (T123_1 cal k k) v0 v1 v2 v3 H n) (by kernel_rfl) (by rw[q123_1]; rfl))
noncomputable def code124:Code:=codeOf 124
noncomputable def results124:List ResultVar:=resOf 124
noncomputable def K124_prrr:KR:=(cutK (Lv.b (Lv.b (Lv.b (A 124)))).c (codeE P cal (codeF P cal k) none 124 (cR (cR (cR (cR code124)))) (Lv.b (Lv.b (Lv.b (Lv.b (A 124))))) (doneK P results124) X0 (doneK P results124)))
noncomputable def K124_pxrrrlr:XR:=(upX 0 (K124_prrr cal k) X0)
noncomputable def K124_prrrlrl (m1:Nat):KR:=(fun T H n D=>codeF P cal m1 (Lv.a (Lv.b (Lv.a (Lv.b (Lv.b (Lv.b (A 124))))))) none 124 (cL (cR (cL (cR (cR (cR code124)))))) (K124_prrr cal k) (K124_pxrrrlr cal k) (doneK P results124) (cutT (Lv.a (Lv.b (Lv.a (Lv.b (Lv.b (Lv.b (A 124))))))).c T) H n D)
noncomputable def K124_pxrrrrr (cal:Cal) (k:Nat):XR:=(upX 2 (doneK P results124) X0)
noncomputable def K124_prrrrrl (m1:Nat):KR:=(fun T H n D=>codeF P cal m1 (Lv.a (Lv.b (Lv.b (Lv.b (Lv.b (Lv.b (A 124))))))) none 124 (cL (cR (cR (cR (cR (cR code124)))))) (doneK P results124) (K124_pxrrrrr cal k) (doneK P results124) (cutT (Lv.a (Lv.b (Lv.b (Lv.b (Lv.b (Lv.b (A 124))))))).c T) H n D)
noncomputable def T124_2 (m1:Nat):=fun(u0 u3 u8 u9 u12:Value) (H:Hp) (n:Nat)=>labK (codeE P cal (codeF P cal m1) none 124 (cL (cL (cR (cR (cR (cR (cR code124))))))) (Lv.a (Lv.a (Lv.b (Lv.b (Lv.b (Lv.b (Lv.b (A 124)))))))) (K124_prrrrrl cal k m1) (K124_pxrrrrr cal k) (doneK P results124)) (Tr.set (Tr.set (Tr.set (Tr.set (Tr.set Tr.nil 12 (some u12)) 9 (some u9)) 8 (some u8)) 3 (some u3)) 0 (some u0)) H n []
noncomputable def R124_2 (m1:Nat):V5:=fun u0 u3 u8 u9 u12 H n=>codeF P cal m1 (Lv.a (Lv.b (Lv.b (Lv.b (Lv.b (Lv.b (A 124))))))) none 124 (cL (cR (cR (cR (cR (cR code124)))))) (doneK P results124) (K124_pxrrrrr cal k) (doneK P results124) (Tr.set (Tr.set (Tr.set (Tr.set (Tr.set Tr.nil 12 (some u12)) 9 (some u9)) 8 (some u8)) 3 (some u3)) 0 (some u0)) H n []
noncomputable def T124_1 (m1:Nat):=fun(u0 u3 u8 u9 u10 u11:Value) (H:Hp) (n:Nat)=>labK (codeE P cal (codeF P cal m1) none 124 (cL (cL (cR (cL (cR (cR (cR code124))))))) (Lv.a (Lv.a (Lv.b (Lv.a (Lv.b (Lv.b (Lv.b (A 124)))))))) (K124_prrrlrl cal k m1) (K124_pxrrrlr cal k) (doneK P results124)) (Tr.set (Tr.set (Tr.set (Tr.set (Tr.set (Tr.set Tr.nil 11 (some u11)) 10 (some u10)) 9 (some u9)) 8 (some u8)) 3 (some u3)) 0 (some u0)) H n []
noncomputable def R124_1 (m1:Nat):V6:=fun u0 u3 u8 u9 u10 u11 H n=>codeF P cal m1 (Lv.a (Lv.b (Lv.a (Lv.b (Lv.b (Lv.b (A 124))))))) none 124 (cL (cR (cL (cR (cR (cR code124)))))) (K124_prrr cal k) (K124_pxrrrlr cal k) (doneK P results124) (Tr.set (Tr.set (Tr.set (Tr.set (Tr.set (Tr.set Tr.nil 11 (some u11)) 10 (some u10)) 9 (some u9)) 8 (some u8)) 3 (some u3)) 0 (some u0)) H n []
noncomputable def B124_2 (cal:Cal) (k m1:Nat) (b2:V5) (u0 u3 u8 u9 u12:Value) (H:Hp) (n:Nat):Res:=
binK P BinOp.geq 3 (Operand.tmp 32) (Operand.const (Value.int IntKind.i64 0)) u12 (Value.int IntKind.i64 0) fun v_t=>
ifK v_t (
binK P BinOp.add 3 (Operand.tmp 39) (Operand.tmp 40) u8 u12 fun v_z=>
binK P BinOp.add 3 (Operand.tmp 43) (Operand.tmp 44) u8 u12 fun v_13=>
bindO (indexAddrV P 93 u0 v_13) fun v_14=>
bindO (addrV v_14) fun a_15=>bindO (loadV P H 101 a_15) fun v_16=>
bindO (indexAddrV P 93 u0 u8) fun v_19=>
bindO (addrV v_19) fun a_1a=>bindO (loadV P H 101 a_1a) fun v_1b=>
bindO (indexAddrV P 93 u0 u8) fun v_1c=>
bindO (storeP P 101 v_1c v_16 H) fun H_1e=>
bindO (indexAddrV P 93 u0 v_z) fun v_1f=>
bindO (storeP P 101 v_1f v_1b H_1e) fun H_1h=>
callFK P cal 134 [u0,u9,u12,u8,u3] H_1h n fun v_1n H_1o n_1p=>
binK P BinOp.sub 3 (Operand.tmp 34) (Operand.const (Value.int IntKind.i64 1)) u12 (Value.int IntKind.i64 1) fun v_1r=>
b2 u0 u3 u8 u9 v_1r H_1o n_1p) (
some ((Value.tuple ⟨[]⟩),H,n))
noncomputable def C124_2 (m1:Nat):=B124_2 cal k m1
noncomputable def S124_2:Nat→V5:=recF (C124_2 cal k) (fun _ _ _ _ _ _ _=>none)
theorem h124_2 (m1:Nat):T124_2 cal k m1=C124_2 cal k m1 (R124_2 cal k m1):=by kernel_rfl
theorem q124_2 (m:Nat):T124_2 cal k m=S124_2 cal k m:=recS (h124_2 cal k) (by kernel_rfl) (fun m=>by kernel_rfl) m
noncomputable def B124_1 (cal:Cal) (k m1:Nat) (j2:V5) (b1:V6) (u0 u3 u8 u9 u10 u11:Value) (H:Hp) (n:Nat):Res:=
binK P BinOp.geq 3 (Operand.tmp 20) (Operand.const (Value.int IntKind.i64 0)) u11 (Value.int IntKind.i64 0) fun v_d=>
ifK v_d (
callFK P cal 134 [u0,u11,u10,u8,u3] H n fun v_j H_k n_l=>
binK P BinOp.sub 3 (Operand.tmp 22) (Operand.const (Value.int IntKind.i64 1)) u11 (Value.int IntKind.i64 1) fun v_n=>
b1 u0 u3 u8 u9 u10 v_n H_k n_l) (
binK P BinOp.sub 3 (Operand.tmp 30) (Operand.const (Value.int IntKind.i64 1)) u10 (Value.int IntKind.i64 1) fun v_q=>
j2 u0 u3 u8 u9 v_q H n)
noncomputable def C124_1 (m1:Nat):=B124_1 cal k m1 (S124_2 cal k k)
noncomputable def S124_1:Nat→V6:=recF (C124_1 cal k) (fun _ _ _ _ _ _ _ _=>none)
theorem h124_1 (m1:Nat):T124_1 cal k m1=C124_1 cal k m1 (R124_1 cal k m1):=Eq.trans (b:=B124_1 cal k m1 (T124_2 cal k k) (R124_1 cal k m1)) (by kernel_rfl) (by rw[q124_2]; rfl)
theorem q124_1 (m:Nat):T124_1 cal k m=S124_1 cal k m:=recS (h124_1 cal k) (by kernel_rfl) (fun m=>by kernel_rfl) m
noncomputable def B124_0 (cal:Cal) (k:Nat) (j1:V6) (v0 v1 v2 v3:Value) (H:Hp) (n:Nat):Res:=
binK P BinOp.sub 3 (Operand.tmp 14) (Operand.tmp 15) v2 v1 fun v_6=>
binK P BinOp.sub 3 (Operand.tmp 17) (Operand.const (Value.int IntKind.i64 1)) v_6 (Value.int IntKind.i64 1) fun v_9=>
binK P BinOp.quo 3 (Operand.tmp 18) (Operand.const (Value.int IntKind.i64 2)) v_9 (Value.int IntKind.i64 2) fun v_a=>
j1 v0 v3 v1 (Value.int IntKind.i64 0) v_6 v_a H n
noncomputable def C124_0:=B124_0 cal k (S124_1 cal k k)
theorem h124_0 (v0 v1 v2 v3:Value) (H:Hp) (n:Nat):bodyE P cal A (k+1) 124 [v0,v1,v2,v3] H n=C124_0 cal k v0 v1 v2 v3 H n:=(bq Go.Proofs.Tryz.f124 code124 results124 (by kernel_rfl)).trans (Eq.trans (b:=B124_0 cal k (T124_1 cal k k) v0 v1 v2 v3 H n) (by kernel_rfl) (by rw[q124_1]; rfl))
noncomputable def code125:Code:=codeOf 125
noncomputable def results125:List ResultVar:=resOf 125
noncomputable def K125_pxrrlrrr (cal:Cal) (k:Nat):XR:=(upX 0 (doneK P results125) X0)
noncomputable def K125_prrlrrrl (m1:Nat):KR:=(fun T H n D=>codeF P cal m1 (Lv.a (Lv.b (Lv.b (Lv.b (Lv.a (Lv.b (Lv.b (A 125)))))))) none 125 (cL (cR (cR (cR (cL (cR (cR code125))))))) (doneK P results125) (K125_pxrrlrrr cal k) (doneK P results125) (cutT (Lv.a (Lv.b (Lv.b (Lv.b (Lv.a (Lv.b (Lv.b (A 125)))))))).c T) H n D)
noncomputable def K125_prrlrrrllr (m1:Nat):KR:=(cutK (Lv.b (Lv.a (Lv.a (Lv.b (Lv.b (Lv.b (Lv.a (Lv.b (Lv.b (A 125)))))))))).c (codeE P cal (codeF P cal m1) none 125 (cR (cR (cL (cL (cR (cR (cR (cL (cR (cR code125)))))))))) (Lv.b (Lv.b (Lv.a (Lv.a (Lv.b (Lv.b (Lv.b (Lv.a (Lv.b (Lv.b (A 125))))))))))) (K125_prrlrrrl cal k m1) (K125_pxrrlrrr cal k) (doneK P results125)))
noncomputable def K125_pxrrlrrrllrl (m1:Nat):XR:=(upX 1 (K125_prrlrrrllr cal k m1) (K125_pxrrlrrr cal k))
noncomputable def T125_2 (m1:Nat):=fun(u0 u1 u8 u9 u10 u11 u12:Value) (H:Hp) (n:Nat)=>labK (codeE P cal (codeF P cal m1) none 125 (cR (cR (cL (cL (cR (cL (cL (cR (cR (cR (cL (cR (cR code125))))))))))))) (Lv.b (Lv.b (Lv.a (Lv.a (Lv.b (Lv.a (Lv.a (Lv.b (Lv.b (Lv.b (Lv.a (Lv.b (Lv.b (A 125)))))))))))))) (K125_prrlrrrllr cal k m1) (K125_pxrrlrrrllrl cal k m1) (doneK P results125)) (Tr.set (Tr.set (Tr.set (Tr.set (Tr.set (Tr.set (Tr.set Tr.nil 12 (some u12)) 11 (some u11)) 10 (some u10)) 9 (some u9)) 8 (some u8)) 1 (some u1)) 0 (some u0)) H n []
noncomputable def T125_1 (m1:Nat):=fun(u0 u1 u8 u9 u10 u11:Value) (H:Hp) (n:Nat)=>labK (codeE P cal (codeF P cal m1) none 125 (cL (cL (cR (cR (cR (cL (cR (cR code125)))))))) (Lv.a (Lv.a (Lv.b (Lv.b (Lv.b (Lv.a (Lv.b (Lv.b (A 125))))))))) (K125_prrlrrrl cal k m1) (K125_pxrrlrrr cal k) (doneK P results125)) (Tr.set (Tr.set (Tr.set (Tr.set (Tr.set (Tr.set Tr.nil 11 (some u11)) 10 (some u10)) 9 (some u9)) 8 (some u8)) 1 (some u1)) 0 (some u0)) H n []
noncomputable def R125_1 (m1:Nat):V6:=fun u0 u1 u8 u9 u10 u11 H n=>codeF P cal m1 (Lv.a (Lv.b (Lv.b (Lv.b (Lv.a (Lv.b (Lv.b (A 125)))))))) none 125 (cL (cR (cR (cR (cL (cR (cR code125))))))) (doneK P results125) (K125_pxrrlrrr cal k) (doneK P results125) (Tr.set (Tr.set (Tr.set (Tr.set (Tr.set (Tr.set Tr.nil 11 (some u11)) 10 (some u10)) 9 (some u9)) 8 (some u8)) 1 (some u1)) 0 (some u0)) H n []
noncomputable def B125_2 (cal:Cal) (k m1:Nat) (b1:V6) (u0 u1 u8 u9 u10 u11 u12:Value) (H:Hp) (n:Nat):Res:=
binK P BinOp.add 3 (Operand.tmp 52) (Operand.tmp 53) u1 u12 fun v_1b=>
binK P BinOp.add 3 (Operand.tmp 56) (Operand.tmp 57) u1 u12 fun v_1f=>
bindO (indexAddrV P 93 u0 v_1f) fun v_1g=>
bindO (addrV v_1g) fun a_1h=>bindO (loadV P H 101 a_1h) fun v_1i=>
bindO (indexAddrV P 93 u0 u11) fun v_1l=>
bindO (addrV v_1l) fun a_1m=>bindO (loadV P H 101 a_1m) fun v_1n=>
bindO (indexAddrV P 93 u0 u11) fun v_1o=>
bindO (storeP P 101 v_1o v_1i H) fun H_1q=>
bindO (indexAddrV P 93 u0 v_1b) fun v_1r=>
bindO (storeP P 101 v_1r v_1n H_1q) fun H_1t=>
binK P BinOp.add 3 (Operand.tmp 36) (Operand.const (Value.int IntKind.i64 1)) u11 (Value.int IntKind.i64 1) fun v_1v=>
b1 u0 u1 u8 u9 u10 v_1v H_1t n
noncomputable def C125_2 (m1:Nat):=B125_2 cal k m1
theorem h125_2 (m1:Nat):T125_2 cal k m1=C125_2 cal k m1 (R125_1 cal k m1):=by kernel_rfl
noncomputable def B125_1 (cal:Cal) (k m1:Nat) (j2:V7) (b1:V6) (u0 u1 u8 u9 u10 u11:Value) (H:Hp) (n:Nat):Res:=
binK P BinOp.quo 3 (Operand.tmp 30) (Operand.const (Value.int IntKind.i64 4)) u8 (Value.int IntKind.i64 4) fun v_t=>
binK P BinOp.mul 3 (Operand.tmp 31) (Operand.const (Value.int IntKind.i64 2)) v_t (Value.int IntKind.i64 2) fun v_u=>
binK P BinOp.add 3 (Operand.tmp 29) (Operand.tmp 32) u1 v_u fun v_v=>
binK P BinOp.add 3 (Operand.tmp 33) (Operand.const (Value.int IntKind.i64 1)) v_v (Value.int IntKind.i64 1) fun v_w=>
binK P BinOp.leq 3 (Operand.tmp 28) (Operand.tmp 34) u11 v_w fun v_x=>
ifK v_x (
callFK P cal 136 [u9] H n fun v_y H_z n_10=>
binK P BinOp.sub 73 (Operand.tmp 39) (Operand.const (Value.int IntKind.u64 1)) u10 (Value.int IntKind.u64 1) fun v_12=>
binK P BinOp.and 73 (Operand.tmp 38) (Operand.tmp 40) v_y v_12 fun v_13=>
bindO (pureSem P v_13 (convert 73 3 v_13)) fun v_14=>
binK P BinOp.geq 3 (Operand.tmp 43) (Operand.tmp 44) v_14 u8 fun v_1z=>
ifK v_1z (
binK P BinOp.sub 3 (Operand.tmp 46) (Operand.tmp 47) v_14 u8 fun v_22=>
j2 u0 u1 u8 u9 u10 u11 v_22 H_z n_10) (
j2 u0 u1 u8 u9 u10 u11 v_14 H_z n_10)) (
some ((Value.tuple ⟨[]⟩),H,n))
noncomputable def C125_1 (m1:Nat) (b1:V6):=B125_1 cal k m1 (C125_2 cal k m1 b1) b1
noncomputable def S125_1:Nat→V6:=recF (C125_1 cal k) (fun _ _ _ _ _ _ _ _=>none)
theorem h125_1 (m1:Nat):T125_1 cal k m1=C125_1 cal k m1 (R125_1 cal k m1):=Eq.trans (b:=B125_1 cal k m1 (T125_2 cal k m1) (R125_1 cal k m1)) (by kernel_rfl) (by rw[h125_2]; rfl)
theorem q125_1 (m:Nat):T125_1 cal k m=S125_1 cal k m:=recS (h125_1 cal k) (by kernel_rfl) (fun m=>by kernel_rfl) m
noncomputable def B125_0 (cal:Cal) (k:Nat) (j1:V6) (v0 v1 v2 v3:Value) (H:Hp) (n:Nat):Res:=
binK P BinOp.sub 3 (Operand.tmp 13) (Operand.tmp 14) v2 v1 fun v_3=>
binK P BinOp.geq 3 (Operand.tmp 16) (Operand.const (Value.int IntKind.i64 8)) v_3 (Value.int IntKind.i64 8) fun v_6=>
ifK v_6 (
bindO (pureSem P v_3 (convert 3 191 v_3)) fun v_8=>
allocK P 191 H n fun v_9 H_a n_b=>
bindO (storeP P 191 v_9 v_8 H_a) fun H_d=>
callFK P cal 135 [v_3] H_d n_b fun v_f H_g n_h=>
binK P BinOp.quo 3 (Operand.tmp 23) (Operand.const (Value.int IntKind.i64 4)) v_3 (Value.int IntKind.i64 4) fun v_l=>
binK P BinOp.mul 3 (Operand.tmp 24) (Operand.const (Value.int IntKind.i64 2)) v_l (Value.int IntKind.i64 2) fun v_m=>
binK P BinOp.add 3 (Operand.tmp 22) (Operand.tmp 25) v1 v_m fun v_n=>
binK P BinOp.sub 3 (Operand.tmp 26) (Operand.const (Value.int IntKind.i64 1)) v_n (Value.int IntKind.i64 1) fun v_o=>
j1 v0 v1 v_3 v_9 v_f v_o H_g n_h) (
some ((Value.tuple ⟨[]⟩),H,n))
noncomputable def C125_0:=B125_0 cal k (S125_1 cal k k)
theorem h125_0 (v0 v1 v2 v3:Value) (H:Hp) (n:Nat):bodyE P cal A (k+1) 125 [v0,v1,v2,v3] H n=C125_0 cal k v0 v1 v2 v3 H n:=(bq Go.Proofs.Tryz.f125 code125 results125 (by kernel_rfl)).trans (Eq.trans (b:=B125_0 cal k (T125_1 cal k k) v0 v1 v2 v3 H n) (by kernel_rfl) (by rw[q125_1]; rfl))
noncomputable def code126:Code:=codeOf 126
noncomputable def results126:List ResultVar:=resOf 126
noncomputable def K126_prrrrrr:KR:=(cutK (Lv.b (Lv.b (Lv.b (Lv.b (Lv.b (Lv.b (A 126))))))).c (codeE P cal (codeF P cal k) none 126 (cR (cR (cR (cR (cR (cR (cR code126))))))) (Lv.b (Lv.b (Lv.b (Lv.b (Lv.b (Lv.b (Lv.b (A 126)))))))) (doneK P results126) X0 (doneK P results126)))
noncomputable def T126_1:=fun(u11 u13:Value) (H:Hp) (n:Nat)=>labK (codeE P cal (codeF P cal k) none 126 (cR (cR (cR (cR (cR (cR (cR code126))))))) (Lv.b (Lv.b (Lv.b (Lv.b (Lv.b (Lv.b (Lv.b (A 126)))))))) (doneK P results126) X0 (doneK P results126)) (Tr.set (Tr.set Tr.nil 13 (some u13)) 11 (some u11)) H n []
noncomputable def T126_2:=fun(u0 u3 u11 u12 u13 u14:Value) (H:Hp) (n:Nat)=>labK (codeE P cal (codeF P cal k) none 126 (cR (cL (cR (cL (cR (cR (cR (cR (cR (cR code126)))))))))) (Lv.b (Lv.a (Lv.b (Lv.a (Lv.b (Lv.b (Lv.b (Lv.b (Lv.b (Lv.b (A 126))))))))))) (K126_prrrrrr cal k) X0 (doneK P results126)) (Tr.set (Tr.set (Tr.set (Tr.set (Tr.set (Tr.set Tr.nil 14 (some u14)) 13 (some u13)) 12 (some u12)) 11 (some u11)) 3 (some u3)) 0 (some u0)) H n []
noncomputable def B126_1 (cal:Cal) (k:Nat) (u11 u13:Value) (H:Hp) (n:Nat):Res:=
bindO (addrV u11) fun a_t=>bindO (loadV P H 3 a_t) fun v_s=>
binK P BinOp.eql 3 (Operand.tmp 55) (Operand.const (Value.int IntKind.i64 0)) v_s (Value.int IntKind.i64 0) fun v_u=>
ifK v_u (
some ((Value.tuple ⟨[u13,(Value.int IntKind.i64 1)]⟩),H,n)) (
binK P BinOp.eql 3 (Operand.tmp 55) (Operand.const (Value.int IntKind.i64 12)) v_s (Value.int IntKind.i64 12) fun v_z=>
ifK v_z (
some ((Value.tuple ⟨[u13,(Value.int IntKind.i64 2)]⟩),H,n)) (
some ((Value.tuple ⟨[u13,(Value.int IntKind.i64 0)]⟩),H,n)))
noncomputable def C126_1:=B126_1 cal k
theorem h126_1:T126_1 cal k=C126_1 cal k:=by kernel_rfl
noncomputable def B126_2 (cal:Cal) (k:Nat) (j1:V2) (u0 u3 u11 u12 u13 u14:Value) (H:Hp) (n:Nat):Res:=
callFK P cal 138 [u0,u12,u13,u14,u11,u3] H n fun v_1e H_1f n_1g=>
j1 u11 v_1e H_1f n_1g
noncomputable def C126_2:=B126_2 cal k (C126_1 cal k)
theorem h126_2:T126_2 cal k=C126_2 cal k:=Eq.trans (b:=B126_2 cal k (T126_1 cal k)) (by kernel_rfl) (by rw[h126_1]; rfl)
noncomputable def B126_0 (cal:Cal) (k:Nat) (j2:V6) (j1:V2) (v0 v1 v2 v3:Value) (H:Hp) (n:Nat):Res:=
binK P BinOp.sub 3 (Operand.tmp 15) (Operand.tmp 16) v2 v1 fun v_5=>
allocK P 3 H n fun v_7 H_8 n_9=>
binK P BinOp.quo 3 (Operand.tmp 19) (Operand.const (Value.int IntKind.i64 4)) v_5 (Value.int IntKind.i64 4) fun v_c=>
binK P BinOp.mul 3 (Operand.tmp 20) (Operand.const (Value.int IntKind.i64 1)) v_c (Value.int IntKind.i64 1) fun v_d=>
binK P BinOp.add 3 (Operand.tmp 18) (Operand.tmp 21) v1 v_d fun v_e=>
binK P BinOp.quo 3 (Operand.tmp 24) (Operand.const (Value.int IntKind.i64 4)) v_5 (Value.int IntKind.i64 4) fun v_i=>
binK P BinOp.mul 3 (Operand.tmp 25) (Operand.const (Value.int IntKind.i64 2)) v_i (Value.int IntKind.i64 2) fun v_j=>
binK P BinOp.add 3 (Operand.tmp 23) (Operand.tmp 26) v1 v_j fun v_k=>
binK P BinOp.quo 3 (Operand.tmp 29) (Operand.const (Value.int IntKind.i64 4)) v_5 (Value.int IntKind.i64 4) fun v_o=>
binK P BinOp.mul 3 (Operand.tmp 30) (Operand.const (Value.int IntKind.i64 3)) v_o (Value.int IntKind.i64 3) fun v_p=>
binK P BinOp.add 3 (Operand.tmp 28) (Operand.tmp 31) v1 v_p fun v_q=>
binK P BinOp.geq 3 (Operand.tmp 33) (Operand.const (Value.int IntKind.i64 8)) v_5 (Value.int IntKind.i64 8) fun v_18=>
ifK v_18 (
binK P BinOp.geq 3 (Operand.tmp 35) (Operand.const (Value.int IntKind.i64 50)) v_5 (Value.int IntKind.i64 50) fun v_1j=>
ifK v_1j (
callFK P cal 137 [v0,v_e,v_7,v3] H_8 n_9 fun v_1n H_1o n_1p=>
callFK P cal 137 [v0,v_k,v_7,v3] H_1o n_1p fun v_1u H_1v n_1w=>
callFK P cal 137 [v0,v_q,v_7,v3] H_1v n_1w fun v_21 H_22 n_23=>
j2 v0 v3 v_7 v_1n v_1u v_21 H_22 n_23) (
j2 v0 v3 v_7 v_e v_k v_q H_8 n_9)) (
j1 v_7 v_k H_8 n_9)
noncomputable def C126_0:=B126_0 cal k (C126_2 cal k) (C126_1 cal k)
theorem h126_0 (v0 v1 v2 v3:Value) (H:Hp) (n:Nat):bodyE P cal A (k+1) 126 [v0,v1,v2,v3] H n=C126_0 cal k v0 v1 v2 v3 H n:=(bq Go.Proofs.Tryz.f126 code126 results126 (by kernel_rfl)).trans (Eq.trans (b:=B126_0 cal k (T126_2 cal k) (T126_1 cal k) v0 v1 v2 v3 H n) (by kernel_rfl) (by rw[h126_2,h126_1]; rfl))
noncomputable def code127:Code:=codeOf 127
noncomputable def results127:List ResultVar:=resOf 127
noncomputable def K127_pxrr (cal:Cal) (k:Nat):XR:=(upX 0 (doneK P results127) X0)
noncomputable def K127_prrl (m1:Nat):KR:=(fun T H n D=>codeF P cal m1 (Lv.a (Lv.b (Lv.b (A 127)))) none 127 (cL (cR (cR code127))) (doneK P results127) (K127_pxrr cal k) (doneK P results127) (cutT (Lv.a (Lv.b (Lv.b (A 127)))).c T) H n D)
noncomputable def T127_1 (m1:Nat):=fun(u0 u8 u9:Value) (H:Hp) (n:Nat)=>labK (codeE P cal (codeF P cal m1) none 127 (cL (cL (cR (cR code127)))) (Lv.a (Lv.a (Lv.b (Lv.b (A 127))))) (K127_prrl cal k m1) (K127_pxrr cal k) (doneK P results127)) (Tr.set (Tr.set (Tr.set Tr.nil 9 (some u9)) 8 (some u8)) 0 (some u0)) H n []
noncomputable def R127_1 (m1:Nat):V3:=fun u0 u8 u9 H n=>codeF P cal m1 (Lv.a (Lv.b (Lv.b (A 127)))) none 127 (cL (cR (cR code127))) (doneK P results127) (K127_pxrr cal k) (doneK P results127) (Tr.set (Tr.set (Tr.set Tr.nil 9 (some u9)) 8 (some u8)) 0 (some u0)) H n []
noncomputable def B127_1 (cal:Cal) (k m1:Nat) (b1:V3) (u0 u8 u9:Value) (H:Hp) (n:Nat):Res:=
binK P BinOp.lss 3 (Operand.tmp 13) (Operand.tmp 14) u8 u9 fun v_8=>
ifK v_8 (
bindO (indexAddrV P 93 u0 u9) fun v_f=>
bindO (addrV v_f) fun a_g=>bindO (loadV P H 101 a_g) fun v_h=>
bindO (indexAddrV P 93 u0 u8) fun v_k=>
bindO (addrV v_k) fun a_l=>bindO (loadV P H 101 a_l) fun v_m=>
bindO (indexAddrV P 93 u0 u8) fun v_n=>
bindO (storeP P 101 v_n v_h H) fun H_p=>
bindO (indexAddrV P 93 u0 u9) fun v_q=>
bindO (storeP P 101 v_q v_m H_p) fun H_s=>
binK P BinOp.add 3 (Operand.tmp 30) (Operand.const (Value.int IntKind.i64 1)) u8 (Value.int IntKind.i64 1) fun v_u=>
binK P BinOp.sub 3 (Operand.tmp 32) (Operand.const (Value.int IntKind.i64 1)) u9 (Value.int IntKind.i64 1) fun v_x=>
b1 u0 v_u v_x H_s n) (
some ((Value.tuple ⟨[]⟩),H,n))
noncomputable def C127_1 (m1:Nat):=B127_1 cal k m1
noncomputable def S127_1:Nat→V3:=recF (C127_1 cal k) (fun _ _ _ _ _=>none)
theorem h127_1 (m1:Nat):T127_1 cal k m1=C127_1 cal k m1 (R127_1 cal k m1):=by kernel_rfl
theorem q127_1 (m:Nat):T127_1 cal k m=S127_1 cal k m:=recS (h127_1 cal k) (by kernel_rfl) (fun m=>by kernel_rfl) m
noncomputable def B127_0 (cal:Cal) (k:Nat) (j1:V3) (v0 v1 v2 v3:Value) (H:Hp) (n:Nat):Res:=
binK P BinOp.sub 3 (Operand.tmp 11) (Operand.const (Value.int IntKind.i64 1)) v2 (Value.int IntKind.i64 1) fun v_4=>
j1 v0 v1 v_4 H n
noncomputable def C127_0:=B127_0 cal k (S127_1 cal k k)
theorem h127_0 (v0 v1 v2 v3:Value) (H:Hp) (n:Nat):bodyE P cal A (k+1) 127 [v0,v1,v2,v3] H n=C127_0 cal k v0 v1 v2 v3 H n:=(bq Go.Proofs.Tryz.f127 code127 results127 (by kernel_rfl)).trans (Eq.trans (b:=B127_0 cal k (T127_1 cal k k) v0 v1 v2 v3 H n) (by kernel_rfl) (by rw[q127_1]; rfl))
end Go.Proofs.YtkmjgabdaikomaaGreat.G
end
end
section
open Go Go.Ev
set_option maxRecDepth 1000000
noncomputable section
namespace Go.Proofs.YtkmjgabdaikomaaGreat.G
variable (cal:Cal) (k:Nat)
noncomputable def code128:Code:=codeOf 128
noncomputable def results128:List ResultVar:=resOf 128
noncomputable def K128_prr:KR:=(cutK (Lv.b (Lv.b (A 128))).c (codeE P cal (codeF P cal k) none 128 (cR (cR (cR code128))) (Lv.b (Lv.b (Lv.b (A 128)))) (doneK P results128) X0 (doneK P results128)))
noncomputable def K128_pxrrlr:XR:=(upX 0 (K128_prr cal k) X0)
noncomputable def K128_prrlrl (m1:Nat):KR:=(fun T H n D=>codeF P cal m1 (Lv.a (Lv.b (Lv.a (Lv.b (Lv.b (A 128)))))) none 128 (cL (cR (cL (cR (cR code128))))) (K128_prr cal k) (K128_pxrrlr cal k) (doneK P results128) (cutT (Lv.a (Lv.b (Lv.a (Lv.b (Lv.b (A 128)))))).c T) H n D)
noncomputable def K128_prrlrllr (m1:Nat):KR:=(cutK (Lv.b (Lv.a (Lv.a (Lv.b (Lv.a (Lv.b (Lv.b (A 128)))))))).c (codeE P cal (codeF P cal m1) none 128 (cR (cR (cL (cL (cR (cL (cR (cR code128)))))))) (Lv.b (Lv.b (Lv.a (Lv.a (Lv.b (Lv.a (Lv.b (Lv.b (A 128))))))))) (K128_prrlrl cal k m1) (K128_pxrrlr cal k) (doneK P results128)))
noncomputable def K128_pxrrlrllrl (m1:Nat):XR:=(upX 1 (K128_prrlrllr cal k m1) (K128_pxrrlr cal k))
noncomputable def K128_prrlrllrll (m1:Nat):KR:=(cutK (Lv.a (Lv.a (Lv.b (Lv.a (Lv.a (Lv.b (Lv.a (Lv.b (Lv.b (A 128)))))))))).c (codeE P cal (codeF P cal m1) none 128 (cR (cL (cL (cR (cL (cL (cR (cL (cR (cR code128)))))))))) (Lv.b (Lv.a (Lv.a (Lv.b (Lv.a (Lv.a (Lv.b (Lv.a (Lv.b (Lv.b (A 128))))))))))) (K128_prrlrllr cal k m1) (K128_pxrrlrllrl cal k m1) (doneK P results128)))
noncomputable def K128_pxrrlrllrlll (m1:Nat):XR:=(upX 2 (K128_prrlrllrll cal k m1) (K128_pxrrlrllrl cal k m1))
noncomputable def K128_prrlrllrllll (m1:Nat) (m2:Nat):KR:=(fun T H n D=>codeF P cal m2 (Lv.a (Lv.a (Lv.a (Lv.a (Lv.b (Lv.a (Lv.a (Lv.b (Lv.a (Lv.b (Lv.b (A 128)))))))))))) none 128 (cL (cL (cL (cL (cR (cL (cL (cR (cL (cR (cR code128))))))))))) (K128_prrlrllrll cal k m1) (K128_pxrrlrllrlll cal k m1) (doneK P results128) (cutT (Lv.a (Lv.a (Lv.a (Lv.a (Lv.b (Lv.a (Lv.a (Lv.b (Lv.a (Lv.b (Lv.b (A 128)))))))))))).c T) H n D)
noncomputable def K128_pxrrlrllrllrrrrrrlr (m1:Nat):XR:=(upX 6 (K128_prrlrllr cal k m1) (K128_pxrrlrllrl cal k m1))
noncomputable def K128_prrlrllrllrrrrrrlrl (m1:Nat) (m2:Nat):KR:=(fun T H n D=>codeF P cal m2 (Lv.a (Lv.b (Lv.a (Lv.b (Lv.b (Lv.b (Lv.b (Lv.b (Lv.b (Lv.a (Lv.a (Lv.b (Lv.a (Lv.a (Lv.b (Lv.a (Lv.b (Lv.b (A 128))))))))))))))))))) none 128 (cL (cR (cL (cR (cR (cR (cR (cR (cR (cL (cL (cR (cL (cL (cR (cL (cR (cR code128)))))))))))))))))) (K128_prrlrllr cal k m1) (K128_pxrrlrllrllrrrrrrlr cal k m1) (doneK P results128) (cutT (Lv.a (Lv.b (Lv.a (Lv.b (Lv.b (Lv.b (Lv.b (Lv.b (Lv.b (Lv.a (Lv.a (Lv.b (Lv.a (Lv.a (Lv.b (Lv.a (Lv.b (Lv.b (A 128))))))))))))))))))).c T) H n D)
noncomputable def K128_prrlrllrllrrrr (m1:Nat):KR:=(cutK (Lv.b (Lv.b (Lv.b (Lv.b (Lv.a (Lv.a (Lv.b (Lv.a (Lv.a (Lv.b (Lv.a (Lv.b (Lv.b (A 128)))))))))))))).c (codeE P cal (codeF P cal m1) none 128 (cR (cR (cR (cR (cR (cL (cL (cR (cL (cL (cR (cL (cR (cR code128)))))))))))))) (Lv.b (Lv.b (Lv.b (Lv.b (Lv.b (Lv.a (Lv.a (Lv.b (Lv.a (Lv.a (Lv.b (Lv.a (Lv.b (Lv.b (A 128))))))))))))))) (K128_prrlrllr cal k m1) (K128_pxrrlrllrl cal k m1) (doneK P results128)))
noncomputable def K128_pxrrlrllrllrrrrlrlr (m1:Nat):XR:=(upX 4 (K128_prrlrllrllrrrr cal k m1) (K128_pxrrlrllrl cal k m1))
noncomputable def K128_prrlrllrllrrrrlrlrl (m1:Nat) (m2:Nat):KR:=(fun T H n D=>codeF P cal m2 (Lv.a (Lv.b (Lv.a (Lv.b (Lv.a (Lv.b (Lv.b (Lv.b (Lv.b (Lv.a (Lv.a (Lv.b (Lv.a (Lv.a (Lv.b (Lv.a (Lv.b (Lv.b (A 128))))))))))))))))))) none 128 (cL (cR (cL (cR (cL (cR (cR (cR (cR (cL (cL (cR (cL (cL (cR (cL (cR (cR code128)))))))))))))))))) (K128_prrlrllrllrrrr cal k m1) (K128_pxrrlrllrllrrrrlrlr cal k m1) (doneK P results128) (cutT (Lv.a (Lv.b (Lv.a (Lv.b (Lv.a (Lv.b (Lv.b (Lv.b (Lv.b (Lv.a (Lv.a (Lv.b (Lv.a (Lv.a (Lv.b (Lv.a (Lv.b (Lv.b (A 128))))))))))))))))))).c T) H n D)
noncomputable def T128_2 (m1:Nat):=fun(u0 u1 u2 u3 u9 u10:Value) (H:Hp) (n:Nat)=>labK (codeE P cal (codeF P cal m1) none 128 (cR (cR (cL (cL (cR (cL (cR (cR code128)))))))) (Lv.b (Lv.b (Lv.a (Lv.a (Lv.b (Lv.a (Lv.b (Lv.b (A 128))))))))) (K128_prrlrl cal k m1) (K128_pxrrlr cal k) (doneK P results128)) (Tr.set (Tr.set (Tr.set (Tr.set (Tr.set (Tr.set Tr.nil 10 (some u10)) 9 (some u9)) 3 (some u3)) 2 (some u2)) 1 (some u1)) 0 (some u0)) H n []
noncomputable def T128_5 (m1 m2:Nat):=fun(u0 u1 u2 u3 u9 u10 u12:Value) (H:Hp) (n:Nat)=>labK (codeE P cal (codeF P cal m2) none 128 (cL (cL (cR (cL (cR (cR (cR (cR (cR (cR (cL (cL (cR (cL (cL (cR (cL (cR (cR code128))))))))))))))))))) (Lv.a (Lv.a (Lv.b (Lv.a (Lv.b (Lv.b (Lv.b (Lv.b (Lv.b (Lv.b (Lv.a (Lv.a (Lv.b (Lv.a (Lv.a (Lv.b (Lv.a (Lv.b (Lv.b (A 128)))))))))))))))))))) (K128_prrlrllrllrrrrrrlrl cal k m1 m2) (K128_pxrrlrllrllrrrrrrlr cal k m1) (doneK P results128)) (Tr.set (Tr.set (Tr.set (Tr.set (Tr.set (Tr.set (Tr.set Tr.nil 12 (some u12)) 10 (some u10)) 9 (some u9)) 3 (some u3)) 2 (some u2)) 1 (some u1)) 0 (some u0)) H n []
noncomputable def R128_5 (m1 m2:Nat):V7:=fun u0 u1 u2 u3 u9 u10 u12 H n=>codeF P cal m2 (Lv.a (Lv.b (Lv.a (Lv.b (Lv.b (Lv.b (Lv.b (Lv.b (Lv.b (Lv.a (Lv.a (Lv.b (Lv.a (Lv.a (Lv.b (Lv.a (Lv.b (Lv.b (A 128))))))))))))))))))) none 128 (cL (cR (cL (cR (cR (cR (cR (cR (cR (cL (cL (cR (cL (cL (cR (cL (cR (cR code128)))))))))))))))))) (K128_prrlrllr cal k m1) (K128_pxrrlrllrllrrrrrrlr cal k m1) (doneK P results128) (Tr.set (Tr.set (Tr.set (Tr.set (Tr.set (Tr.set (Tr.set Tr.nil 12 (some u12)) 10 (some u10)) 9 (some u9)) 3 (some u3)) 2 (some u2)) 1 (some u1)) 0 (some u0)) H n []
noncomputable def T128_4 (m1:Nat):=fun(u0 u1 u2 u3 u9 u10:Value) (H:Hp) (n:Nat)=>labK (codeE P cal (codeF P cal m1) none 128 (cR (cR (cR (cR (cR (cL (cL (cR (cL (cL (cR (cL (cR (cR code128)))))))))))))) (Lv.b (Lv.b (Lv.b (Lv.b (Lv.b (Lv.a (Lv.a (Lv.b (Lv.a (Lv.a (Lv.b (Lv.a (Lv.b (Lv.b (A 128))))))))))))))) (K128_prrlrllr cal k m1) (K128_pxrrlrllrl cal k m1) (doneK P results128)) (Tr.set (Tr.set (Tr.set (Tr.set (Tr.set (Tr.set Tr.nil 10 (some u10)) 9 (some u9)) 3 (some u3)) 2 (some u2)) 1 (some u1)) 0 (some u0)) H n []
noncomputable def T128_6 (m1 m2:Nat):=fun(u0 u1 u2 u3 u9 u10 u11:Value) (H:Hp) (n:Nat)=>labK (codeE P cal (codeF P cal m2) none 128 (cL (cL (cR (cL (cR (cL (cR (cR (cR (cR (cL (cL (cR (cL (cL (cR (cL (cR (cR code128))))))))))))))))))) (Lv.a (Lv.a (Lv.b (Lv.a (Lv.b (Lv.a (Lv.b (Lv.b (Lv.b (Lv.b (Lv.a (Lv.a (Lv.b (Lv.a (Lv.a (Lv.b (Lv.a (Lv.b (Lv.b (A 128)))))))))))))))))))) (K128_prrlrllrllrrrrlrlrl cal k m1 m2) (K128_pxrrlrllrllrrrrlrlr cal k m1) (doneK P results128)) (Tr.set (Tr.set (Tr.set (Tr.set (Tr.set (Tr.set (Tr.set Tr.nil 11 (some u11)) 10 (some u10)) 9 (some u9)) 3 (some u3)) 2 (some u2)) 1 (some u1)) 0 (some u0)) H n []
noncomputable def R128_6 (m1 m2:Nat):V7:=fun u0 u1 u2 u3 u9 u10 u11 H n=>codeF P cal m2 (Lv.a (Lv.b (Lv.a (Lv.b (Lv.a (Lv.b (Lv.b (Lv.b (Lv.b (Lv.a (Lv.a (Lv.b (Lv.a (Lv.a (Lv.b (Lv.a (Lv.b (Lv.b (A 128))))))))))))))))))) none 128 (cL (cR (cL (cR (cL (cR (cR (cR (cR (cL (cL (cR (cL (cL (cR (cL (cR (cR code128)))))))))))))))))) (K128_prrlrllrllrrrr cal k m1) (K128_pxrrlrllrllrrrrlrlr cal k m1) (doneK P results128) (Tr.set (Tr.set (Tr.set (Tr.set (Tr.set (Tr.set (Tr.set Tr.nil 11 (some u11)) 10 (some u10)) 9 (some u9)) 3 (some u3)) 2 (some u2)) 1 (some u1)) 0 (some u0)) H n []
noncomputable def T128_3 (m1 m2:Nat):=fun(u0 u1 u2 u3 u9 u10:Value) (H:Hp) (n:Nat)=>labK (codeE P cal (codeF P cal m2) none 128 (cL (cL (cL (cL (cL (cR (cL (cL (cR (cL (cR (cR code128)))))))))))) (Lv.a (Lv.a (Lv.a (Lv.a (Lv.a (Lv.b (Lv.a (Lv.a (Lv.b (Lv.a (Lv.b (Lv.b (A 128))))))))))))) (K128_prrlrllrllll cal k m1 m2) (K128_pxrrlrllrlll cal k m1) (doneK P results128)) (Tr.set (Tr.set (Tr.set (Tr.set (Tr.set (Tr.set Tr.nil 10 (some u10)) 9 (some u9)) 3 (some u3)) 2 (some u2)) 1 (some u1)) 0 (some u0)) H n []
noncomputable def R128_3 (m1 m2:Nat):V6:=fun u0 u1 u2 u3 u9 u10 H n=>codeF P cal m2 (Lv.a (Lv.a (Lv.a (Lv.a (Lv.b (Lv.a (Lv.a (Lv.b (Lv.a (Lv.b (Lv.b (A 128)))))))))))) none 128 (cL (cL (cL (cL (cR (cL (cL (cR (cL (cR (cR code128))))))))))) (K128_prrlrllrll cal k m1) (K128_pxrrlrllrlll cal k m1) (doneK P results128) (Tr.set (Tr.set (Tr.set (Tr.set (Tr.set (Tr.set Tr.nil 10 (some u10)) 9 (some u9)) 3 (some u3)) 2 (some u2)) 1 (some u1)) 0 (some u0)) H n []
noncomputable def T128_1 (m1:Nat):=fun(u0 u1 u2 u3 u9 u10:Value) (H:Hp) (n:Nat)=>labK (codeE P cal (codeF P cal m1) none 128 (cL (cL (cR (cL (cR (cR code128)))))) (Lv.a (Lv.a (Lv.b (Lv.a (Lv.b (Lv.b (A 128))))))) (K128_prrlrl cal k m1) (K128_pxrrlr cal k) (doneK P results128)) (Tr.set (Tr.set (Tr.set (Tr.set (Tr.set (Tr.set Tr.nil 10 (some u10)) 9 (some u9)) 3 (some u3)) 2 (some u2)) 1 (some u1)) 0 (some u0)) H n []
noncomputable def R128_1 (m1:Nat):V6:=fun u0 u1 u2 u3 u9 u10 H n=>codeF P cal m1 (Lv.a (Lv.b (Lv.a (Lv.b (Lv.b (A 128)))))) none 128 (cL (cR (cL (cR (cR code128))))) (K128_prr cal k) (K128_pxrrlr cal k) (doneK P results128) (Tr.set (Tr.set (Tr.set (Tr.set (Tr.set (Tr.set Tr.nil 10 (some u10)) 9 (some u9)) 3 (some u3)) 2 (some u2)) 1 (some u1)) 0 (some u0)) H n []
noncomputable def B128_2 (cal:Cal) (k m1:Nat) (b1:V6) (u0 u1 u2 u3 u9 u10:Value) (H:Hp) (n:Nat):Res:=
binK P BinOp.add 3 (Operand.tmp 17) (Operand.const (Value.int IntKind.i64 1)) u10 (Value.int IntKind.i64 1) fun v_9=>
b1 u0 u1 u2 u3 u9 v_9 H n
noncomputable def C128_2 (m1:Nat):=B128_2 cal k m1
theorem h128_2 (m1:Nat):T128_2 cal k m1=C128_2 cal k m1 (R128_1 cal k m1):=by kernel_rfl
noncomputable def B128_5 (cal:Cal) (k m1 m2:Nat) (j2:V6) (b1:V6) (b5:V7) (u0 u1 u2 u3 u9 u10 u12:Value) (H:Hp) (n:Nat):Res:=
binK P BinOp.lss 3 (Operand.tmp 107) (Operand.tmp 108) u12 u2 fun v_3x=>
ifK v_3x (
bindO (indexAddrV P 93 u0 u12) fun v_41=>
bindO (addrV v_41) fun a_42=>bindO (loadV P H 101 a_42) fun v_43=>
binK P BinOp.sub 3 (Operand.tmp 118) (Operand.const (Value.int IntKind.i64 1)) u12 (Value.int IntKind.i64 1) fun v_46=>
bindO (indexAddrV P 93 u0 v_46) fun v_47=>
bindO (addrV v_47) fun a_48=>bindO (loadV P H 101 a_48) fun v_49=>
callVK P cal u3 [v_43,v_49] H n fun v_4a H_4b n_4c=>
binK P BinOp.lss 3 (Operand.tmp 122) (Operand.const (Value.int IntKind.i64 0)) v_4a (Value.int IntKind.i64 0) fun v_4d=>
bindO (pureSem P v_4d (Op.unary UnOp.not v_4d)) fun v_4e=>
ifK v_4e (
j2 u0 u1 u2 u3 u9 u10 H_4b n_4c) (
binK P BinOp.sub 3 (Operand.tmp 128) (Operand.const (Value.int IntKind.i64 1)) u12 (Value.int IntKind.i64 1) fun v_4j=>
binK P BinOp.sub 3 (Operand.tmp 131) (Operand.const (Value.int IntKind.i64 1)) u12 (Value.int IntKind.i64 1) fun v_4m=>
bindO (indexAddrV P 93 u0 v_4m) fun v_4n=>
bindO (addrV v_4n) fun a_4o=>bindO (loadV P H_4b 101 a_4o) fun v_4p=>
bindO (indexAddrV P 93 u0 u12) fun v_4s=>
bindO (addrV v_4s) fun a_4t=>bindO (loadV P H_4b 101 a_4t) fun v_4u=>
bindO (indexAddrV P 93 u0 u12) fun v_4v=>
bindO (storeP P 101 v_4v v_4p H_4b) fun H_4x=>
bindO (indexAddrV P 93 u0 v_4j) fun v_4y=>
bindO (storeP P 101 v_4y v_4u H_4x) fun H_50=>
binK P BinOp.add 3 (Operand.tmp 110) (Operand.const (Value.int IntKind.i64 1)) u12 (Value.int IntKind.i64 1) fun v_52=>
b5 u0 u1 u2 u3 u9 u10 v_52 H_50 n_4c)) (
j2 u0 u1 u2 u3 u9 u10 H n)
noncomputable def C128_5 (m1 m2:Nat) (b1:V6):=B128_5 cal k m1 m2 (C128_2 cal k m1 b1) b1
noncomputable def S128_5 (m1:Nat) (b1:V6):Nat→V7:=fun m=>Nat.rec (motive:=fun _=>V7) (C128_5 cal k m1 0 b1 (fun _ _ _ _ _ _ _ _ _=>none)) (fun m ih=>C128_5 cal k m1 (m+1) b1 ih) m
theorem h128_5 (m1 m2:Nat):T128_5 cal k m1 m2=C128_5 cal k m1 m2 (R128_1 cal k m1) (R128_5 cal k m1 m2):=Eq.trans (b:=B128_5 cal k m1 m2 (T128_2 cal k m1) (R128_1 cal k m1) (R128_5 cal k m1 m2)) (by kernel_rfl) (by rw[h128_2]; rfl)
theorem q128_5 (m1:Nat) (m:Nat):T128_5 cal k m1 m=S128_5 cal k m1 (R128_1 cal k m1) m:=recS (h128_5 cal k m1) (by kernel_rfl) (fun m=>by kernel_rfl) m
noncomputable def B128_4 (cal:Cal) (k m1:Nat) (j5:V7) (j2:V6) (b1:V6) (u0 u1 u2 u3 u9 u10:Value) (H:Hp) (n:Nat):Res:=
binK P BinOp.sub 3 (Operand.tmp 101) (Operand.tmp 102) u2 u9 fun v_3q=>
binK P BinOp.geq 3 (Operand.tmp 103) (Operand.const (Value.int IntKind.i64 2)) v_3q (Value.int IntKind.i64 2) fun v_3r=>
ifK v_3r (
binK P BinOp.add 3 (Operand.tmp 105) (Operand.const (Value.int IntKind.i64 1)) u9 (Value.int IntKind.i64 1) fun v_3t=>
j5 u0 u1 u2 u3 u9 u10 v_3t H n) (
j2 u0 u1 u2 u3 u9 u10 H n)
noncomputable def C128_4 (m1:Nat) (b1:V6):=B128_4 cal k m1 (S128_5 cal k m1 b1 m1) (C128_2 cal k m1 b1) b1
theorem h128_4 (m1:Nat):T128_4 cal k m1=C128_4 cal k m1 (R128_1 cal k m1):=Eq.trans (b:=B128_4 cal k m1 (T128_5 cal k m1 m1) (T128_2 cal k m1) (R128_1 cal k m1)) (by kernel_rfl) (by rw[q128_5,h128_2]; rfl)
noncomputable def B128_6 (cal:Cal) (k m1 m2:Nat) (j4:V6) (b1:V6) (b6:V7) (u0 u1 u2 u3 u9 u10 u11:Value) (H:Hp) (n:Nat):Res:=
binK P BinOp.geq 3 (Operand.tmp 68) (Operand.const (Value.int IntKind.i64 1)) u11 (Value.int IntKind.i64 1) fun v_5c=>
ifK v_5c (
bindO (indexAddrV P 93 u0 u11) fun v_5g=>
bindO (addrV v_5g) fun a_5h=>bindO (loadV P H 101 a_5h) fun v_5i=>
binK P BinOp.sub 3 (Operand.tmp 78) (Operand.const (Value.int IntKind.i64 1)) u11 (Value.int IntKind.i64 1) fun v_5l=>
bindO (indexAddrV P 93 u0 v_5l) fun v_5m=>
bindO (addrV v_5m) fun a_5n=>bindO (loadV P H 101 a_5n) fun v_5o=>
callVK P cal u3 [v_5i,v_5o] H n fun v_5p H_5q n_5r=>
binK P BinOp.lss 3 (Operand.tmp 82) (Operand.const (Value.int IntKind.i64 0)) v_5p (Value.int IntKind.i64 0) fun v_5s=>
bindO (pureSem P v_5s (Op.unary UnOp.not v_5s)) fun v_5t=>
ifK v_5t (
j4 u0 u1 u2 u3 u9 u10 H_5q n_5r) (
binK P BinOp.sub 3 (Operand.tmp 88) (Operand.const (Value.int IntKind.i64 1)) u11 (Value.int IntKind.i64 1) fun v_5y=>
binK P BinOp.sub 3 (Operand.tmp 91) (Operand.const (Value.int IntKind.i64 1)) u11 (Value.int IntKind.i64 1) fun v_61=>
bindO (indexAddrV P 93 u0 v_61) fun v_62=>
bindO (addrV v_62) fun a_63=>bindO (loadV P H_5q 101 a_63) fun v_64=>
bindO (indexAddrV P 93 u0 u11) fun v_67=>
bindO (addrV v_67) fun a_68=>bindO (loadV P H_5q 101 a_68) fun v_69=>
bindO (indexAddrV P 93 u0 u11) fun v_6a=>
bindO (storeP P 101 v_6a v_64 H_5q) fun H_6c=>
bindO (indexAddrV P 93 u0 v_5y) fun v_6d=>
bindO (storeP P 101 v_6d v_69 H_6c) fun H_6f=>
binK P BinOp.sub 3 (Operand.tmp 70) (Operand.const (Value.int IntKind.i64 1)) u11 (Value.int IntKind.i64 1) fun v_6h=>
b6 u0 u1 u2 u3 u9 u10 v_6h H_6f n_5r)) (
j4 u0 u1 u2 u3 u9 u10 H n)
noncomputable def C128_6 (m1 m2:Nat) (b1:V6):=B128_6 cal k m1 m2 (C128_4 cal k m1 b1) b1
noncomputable def S128_6 (m1:Nat) (b1:V6):Nat→V7:=fun m=>Nat.rec (motive:=fun _=>V7) (C128_6 cal k m1 0 b1 (fun _ _ _ _ _ _ _ _ _=>none)) (fun m ih=>C128_6 cal k m1 (m+1) b1 ih) m
theorem h128_6 (m1 m2:Nat):T128_6 cal k m1 m2=C128_6 cal k m1 m2 (R128_1 cal k m1) (R128_6 cal k m1 m2):=Eq.trans (b:=B128_6 cal k m1 m2 (T128_4 cal k m1) (R128_1 cal k m1) (R128_6 cal k m1 m2)) (by kernel_rfl) (by rw[h128_4]; rfl)
theorem q128_6 (m1:Nat) (m:Nat):T128_6 cal k m1 m=S128_6 cal k m1 (R128_1 cal k m1) m:=recS (h128_6 cal k m1) (by kernel_rfl) (fun m=>by kernel_rfl) m
noncomputable def B128_3 (cal:Cal) (k m1 m2:Nat) (j6:V7) (j4:V6) (b1:V6) (b3:V6) (u0 u1 u2 u3 u9 u10:Value) (H:Hp) (n:Nat):Res:=
binK P BinOp.lss 3 (Operand.tmp 19) (Operand.tmp 20) u9 u2 fun v_d=>
guardD v_d true (fun k_f=>
k_f u3 .p H n) .p H n fun v_g x_h H_i n_j=>
guardD v_d true (fun k_l=>
k_l u0 .p H_i n_j) .p H_i n_j fun v_m x_n H_o n_p=>
guardD v_d true (fun k_r=>
k_r u9 .p H_o n_p) .p H_o n_p fun v_s x_t H_u n_v=>
guardD v_d true (fun k_x=>
bindO (indexAddrV P 93 v_m v_s) fun v_12=>
k_x v_12 .p H_u n_v) .p H_u n_v fun v_y x_z H_10 n_11=>
guardD v_d true (fun k_13=>
bindO (addrV v_y) fun a_18=>bindO (loadV P H_10 101 a_18) fun v_19=>
k_13 v_19 (.l 101 a_18) H_10 n_11) .p H_10 n_11 fun v_14 x_15 H_16 n_17=>
guardD v_d true (fun k_1a=>
k_1a u0 .p H_16 n_17) .p H_16 n_17 fun v_1b x_1c H_1d n_1e=>
guardD v_d true (fun k_1g=>
k_1g u9 .p H_1d n_1e) .p H_1d n_1e fun v_1h x_1i H_1j n_1k=>
guardD v_d true (fun k_1m=>
binK P BinOp.sub 3 (Operand.tmp 29) (Operand.const (Value.int IntKind.i64 1)) v_1h (Value.int IntKind.i64 1) fun v_1r=>
k_1m v_1r .p H_1j n_1k) .p H_1j n_1k fun v_1n x_1o H_1p n_1q=>
guardD v_d true (fun k_1s=>
bindO (indexAddrV P 93 v_1b v_1n) fun v_1x=>
k_1s v_1x .p H_1p n_1q) .p H_1p n_1q fun v_1t x_1u H_1v n_1w=>
guardD v_d true (fun k_1y=>
bindO (addrV v_1t) fun a_23=>bindO (loadV P H_1v 101 a_23) fun v_24=>
k_1y v_24 (.l 101 a_23) H_1v n_1w) .p H_1v n_1w fun v_1z x_20 H_21 n_22=>
guardD v_d true (fun k_25=>
callVK P cal v_g [v_14,v_1z] H_21 n_22 fun v_2a H_2b n_2c=>
k_25 v_2a .e H_2b n_2c) .e H_21 n_22 fun v_26 x_27 H_28 n_29=>
guardD v_d true (fun k_2d=>
binK P BinOp.lss 3 (Operand.tmp 33) (Operand.const (Value.int IntKind.i64 0)) v_26 (Value.int IntKind.i64 0) fun v_2i=>
k_2d v_2i .p H_28 n_29) .p H_28 n_29 fun v_2e x_2f H_2g n_2h=>
guardD v_d true (fun k_2j=>
bindO (pureSem P v_2e (Op.unary UnOp.not v_2e)) fun v_2o=>
k_2j v_2o .p H_2g n_2h) .p H_2g n_2h fun v_2k x_2l H_2m n_2n=>
bindO (pickV v_d v_2k (Value.bool false)) fun v_2p=>
ifK v_2p (
binK P BinOp.add 3 (Operand.tmp 37) (Operand.const (Value.int IntKind.i64 1)) u9 (Value.int IntKind.i64 1) fun v_2r=>
b3 u0 u1 u2 u3 v_2r u10 H_2m n_2n) (
binK P BinOp.eql 3 (Operand.tmp 39) (Operand.tmp 40) u9 u2 fun v_2v=>
ifK v_2v (
some ((Value.bool true),H_2m,n_2n)) (
binK P BinOp.sub 3 (Operand.tmp 42) (Operand.tmp 43) u2 u1 fun v_2z=>
binK P BinOp.lss 3 (Operand.tmp 44) (Operand.const (Value.int IntKind.i64 50)) v_2z (Value.int IntKind.i64 50) fun v_30=>
ifK v_30 (
some ((Value.bool false),H_2m,n_2n)) (
binK P BinOp.sub 3 (Operand.tmp 49) (Operand.const (Value.int IntKind.i64 1)) u9 (Value.int IntKind.i64 1) fun v_36=>
binK P BinOp.sub 3 (Operand.tmp 52) (Operand.const (Value.int IntKind.i64 1)) u9 (Value.int IntKind.i64 1) fun v_39=>
bindO (indexAddrV P 93 u0 v_39) fun v_3a=>
bindO (addrV v_3a) fun a_3b=>bindO (loadV P H_2m 101 a_3b) fun v_3c=>
bindO (indexAddrV P 93 u0 u9) fun v_3f=>
bindO (addrV v_3f) fun a_3g=>bindO (loadV P H_2m 101 a_3g) fun v_3h=>
bindO (indexAddrV P 93 u0 u9) fun v_3i=>
bindO (storeP P 101 v_3i v_3c H_2m) fun H_3k=>
bindO (indexAddrV P 93 u0 v_36) fun v_3l=>
bindO (storeP P 101 v_3l v_3h H_3k) fun H_3n=>
binK P BinOp.sub 3 (Operand.tmp 62) (Operand.tmp 63) u9 u1 fun v_56=>
binK P BinOp.geq 3 (Operand.tmp 64) (Operand.const (Value.int IntKind.i64 2)) v_56 (Value.int IntKind.i64 2) fun v_57=>
ifK v_57 (
binK P BinOp.sub 3 (Operand.tmp 66) (Operand.const (Value.int IntKind.i64 1)) u9 (Value.int IntKind.i64 1) fun v_59=>
j6 u0 u1 u2 u3 u9 u10 v_59 H_3n n_2n) (
j4 u0 u1 u2 u3 u9 u10 H_3n n_2n))))
noncomputable def C128_3 (m1 m2:Nat) (b1:V6):=B128_3 cal k m1 m2 (S128_6 cal k m1 b1 m1) (C128_4 cal k m1 b1) b1
noncomputable def S128_3 (m1:Nat) (b1:V6):Nat→V6:=fun m=>Nat.rec (motive:=fun _=>V6) (C128_3 cal k m1 0 b1 (fun _ _ _ _ _ _ _ _=>none)) (fun m ih=>C128_3 cal k m1 (m+1) b1 ih) m
theorem h128_3 (m1 m2:Nat):T128_3 cal k m1 m2=C128_3 cal k m1 m2 (R128_1 cal k m1) (R128_3 cal k m1 m2):=Eq.trans (b:=B128_3 cal k m1 m2 (T128_6 cal k m1 m1) (T128_4 cal k m1) (R128_1 cal k m1) (R128_3 cal k m1 m2)) (by kernel_rfl) (by rw[q128_6,h128_4]; rfl)
theorem q128_3 (m1:Nat) (m:Nat):T128_3 cal k m1 m=S128_3 cal k m1 (R128_1 cal k m1) m:=recS (h128_3 cal k m1) (by kernel_rfl) (fun m=>by kernel_rfl) m
noncomputable def B128_1 (cal:Cal) (k m1:Nat) (j3:V6) (b1:V6) (u0 u1 u2 u3 u9 u10:Value) (H:Hp) (n:Nat):Res:=
binK P BinOp.lss 3 (Operand.tmp 15) (Operand.const (Value.int IntKind.i64 5)) u10 (Value.int IntKind.i64 5) fun v_7=>
ifK v_7 (
j3 u0 u1 u2 u3 u9 u10 H n) (
some ((Value.bool false),H,n))
noncomputable def C128_1 (m1:Nat) (b1:V6):=B128_1 cal k m1 (S128_3 cal k m1 b1 m1) b1
noncomputable def S128_1:Nat→V6:=recF (C128_1 cal k) (fun _ _ _ _ _ _ _ _=>none)
theorem h128_1 (m1:Nat):T128_1 cal k m1=C128_1 cal k m1 (R128_1 cal k m1):=Eq.trans (b:=B128_1 cal k m1 (T128_3 cal k m1 m1) (R128_1 cal k m1)) (by kernel_rfl) (by rw[q128_3]; rfl)
theorem q128_1 (m:Nat):T128_1 cal k m=S128_1 cal k m:=recS (h128_1 cal k) (by kernel_rfl) (fun m=>by kernel_rfl) m
noncomputable def B128_0 (cal:Cal) (k:Nat) (j1:V6) (v0 v1 v2 v3:Value) (H:Hp) (n:Nat):Res:=
binK P BinOp.add 3 (Operand.tmp 13) (Operand.const (Value.int IntKind.i64 1)) v1 (Value.int IntKind.i64 1) fun v_3=>
j1 v0 v1 v2 v3 v_3 (Value.int IntKind.i64 0) H n
noncomputable def C128_0:=B128_0 cal k (S128_1 cal k k)
theorem h128_0 (v0 v1 v2 v3:Value) (H:Hp) (n:Nat):bodyE P cal A (k+1) 128 [v0,v1,v2,v3] H n=C128_0 cal k v0 v1 v2 v3 H n:=(bq Go.Proofs.Tryz.f128 code128 results128 (by kernel_rfl)).trans (Eq.trans (b:=B128_0 cal k (T128_1 cal k k) v0 v1 v2 v3 H n) (by kernel_rfl) (by rw[q128_1]; rfl))
noncomputable def code129:Code:=codeOf 129
noncomputable def results129:List ResultVar:=resOf 129
noncomputable def K129_prrr:KR:=(cutK (Lv.b (Lv.b (Lv.b (A 129)))).c (codeE P cal (codeF P cal k) none 129 (cR (cR (cR (cR code129)))) (Lv.b (Lv.b (Lv.b (Lv.b (A 129))))) (doneK P results129) X0 (doneK P results129)))
noncomputable def K129_pxrrrl:XR:=(upX 0 (K129_prrr cal k) X0)
noncomputable def K129_prrrll (m1:Nat):KR:=(fun T H n D=>codeF P cal m1 (Lv.a (Lv.a (Lv.b (Lv.b (Lv.b (A 129)))))) none 129 (cL (cL (cR (cR (cR code129))))) (K129_prrr cal k) (K129_pxrrrl cal k) (doneK P results129) (cutT (Lv.a (Lv.a (Lv.b (Lv.b (Lv.b (A 129)))))).c T) H n D)
noncomputable def K129_pxrrrlll (m1:Nat):XR:=(upX 1 (K129_prrrll cal k m1) (K129_pxrrrl cal k))
noncomputable def K129_prrrllll (m1:Nat):KR:=(cutK (Lv.a (Lv.a (Lv.a (Lv.a (Lv.b (Lv.b (Lv.b (A 129)))))))).c (codeE P cal (codeF P cal m1) none 129 (cR (cL (cL (cL (cL (cR (cR (cR code129)))))))) (Lv.b (Lv.a (Lv.a (Lv.a (Lv.a (Lv.b (Lv.b (Lv.b (A 129))))))))) (K129_prrrll cal k m1) (K129_pxrrrlll cal k m1) (doneK P results129)))
noncomputable def K129_pxrrrlllll (m1:Nat):XR:=(upX 2 (K129_prrrllll cal k m1) (K129_pxrrrlll cal k m1))
noncomputable def K129_prrrllllll (m1:Nat) (m2:Nat):KR:=(fun T H n D=>codeF P cal m2 (Lv.a (Lv.a (Lv.a (Lv.a (Lv.a (Lv.a (Lv.b (Lv.b (Lv.b (A 129)))))))))) none 129 (cL (cL (cL (cL (cL (cL (cR (cR (cR code129))))))))) (K129_prrrllll cal k m1) (K129_pxrrrlllll cal k m1) (doneK P results129) (cutT (Lv.a (Lv.a (Lv.a (Lv.a (Lv.a (Lv.a (Lv.b (Lv.b (Lv.b (A 129)))))))))).c T) H n D)
noncomputable def K129_prrrllllr (m1:Nat):KR:=(cutK (Lv.b (Lv.a (Lv.a (Lv.a (Lv.a (Lv.b (Lv.b (Lv.b (A 129))))))))).c (codeE P cal (codeF P cal m1) none 129 (cR (cR (cL (cL (cL (cL (cR (cR (cR code129))))))))) (Lv.b (Lv.b (Lv.a (Lv.a (Lv.a (Lv.a (Lv.b (Lv.b (Lv.b (A 129)))))))))) (K129_prrrll cal k m1) (K129_pxrrrlll cal k m1) (doneK P results129)))
noncomputable def K129_pxrrrllllrl (m1:Nat):XR:=(upX 4 (K129_prrrllllr cal k m1) (K129_pxrrrlll cal k m1))
noncomputable def K129_prrrllllrll (m1:Nat) (m2:Nat):KR:=(fun T H n D=>codeF P cal m2 (Lv.a (Lv.a (Lv.b (Lv.a (Lv.a (Lv.a (Lv.a (Lv.b (Lv.b (Lv.b (A 129))))))))))) none 129 (cL (cL (cR (cL (cL (cL (cL (cR (cR (cR code129)))))))))) (K129_prrrllllr cal k m1) (K129_pxrrrllllrl cal k m1) (doneK P results129) (cutT (Lv.a (Lv.a (Lv.b (Lv.a (Lv.a (Lv.a (Lv.a (Lv.b (Lv.b (Lv.b (A 129))))))))))).c T) H n D)
noncomputable def T129_3 (m1 m2:Nat):=fun(u0 u1 u4 u11 u12:Value) (H:Hp) (n:Nat)=>labK (codeE P cal (codeF P cal m2) none 129 (cL (cL (cL (cR (cL (cL (cL (cL (cR (cR (cR code129))))))))))) (Lv.a (Lv.a (Lv.a (Lv.b (Lv.a (Lv.a (Lv.a (Lv.a (Lv.b (Lv.b (Lv.b (A 129)))))))))))) (K129_prrrllllrll cal k m1 m2) (K129_pxrrrllllrl cal k m1) (doneK P results129)) (Tr.set (Tr.set (Tr.set (Tr.set (Tr.set Tr.nil 12 (some u12)) 11 (some u11)) 4 (some u4)) 1 (some u1)) 0 (some u0)) H n []
noncomputable def R129_3 (m1 m2:Nat):V5:=fun u0 u1 u4 u11 u12 H n=>codeF P cal m2 (Lv.a (Lv.a (Lv.b (Lv.a (Lv.a (Lv.a (Lv.a (Lv.b (Lv.b (Lv.b (A 129))))))))))) none 129 (cL (cL (cR (cL (cL (cL (cL (cR (cR (cR code129)))))))))) (K129_prrrllllr cal k m1) (K129_pxrrrllllrl cal k m1) (doneK P results129) (Tr.set (Tr.set (Tr.set (Tr.set (Tr.set Tr.nil 12 (some u12)) 11 (some u11)) 4 (some u4)) 1 (some u1)) 0 (some u0)) H n []
noncomputable def T129_2 (m1 m2:Nat):=fun(u0 u1 u4 u11 u12:Value) (H:Hp) (n:Nat)=>labK (codeE P cal (codeF P cal m2) none 129 (cL (cL (cL (cL (cL (cL (cL (cR (cR (cR code129)))))))))) (Lv.a (Lv.a (Lv.a (Lv.a (Lv.a (Lv.a (Lv.a (Lv.b (Lv.b (Lv.b (A 129))))))))))) (K129_prrrllllll cal k m1 m2) (K129_pxrrrlllll cal k m1) (doneK P results129)) (Tr.set (Tr.set (Tr.set (Tr.set (Tr.set Tr.nil 12 (some u12)) 11 (some u11)) 4 (some u4)) 1 (some u1)) 0 (some u0)) H n []
noncomputable def R129_2 (m1 m2:Nat):V5:=fun u0 u1 u4 u11 u12 H n=>codeF P cal m2 (Lv.a (Lv.a (Lv.a (Lv.a (Lv.a (Lv.a (Lv.b (Lv.b (Lv.b (A 129)))))))))) none 129 (cL (cL (cL (cL (cL (cL (cR (cR (cR code129))))))))) (K129_prrrllll cal k m1) (K129_pxrrrlllll cal k m1) (doneK P results129) (Tr.set (Tr.set (Tr.set (Tr.set (Tr.set Tr.nil 12 (some u12)) 11 (some u11)) 4 (some u4)) 1 (some u1)) 0 (some u0)) H n []
noncomputable def T129_1 (m1:Nat):=fun(u0 u1 u4 u11 u12:Value) (H:Hp) (n:Nat)=>labK (codeE P cal (codeF P cal m1) none 129 (cL (cL (cL (cR (cR (cR code129)))))) (Lv.a (Lv.a (Lv.a (Lv.b (Lv.b (Lv.b (A 129))))))) (K129_prrrll cal k m1) (K129_pxrrrl cal k) (doneK P results129)) (Tr.set (Tr.set (Tr.set (Tr.set (Tr.set Tr.nil 12 (some u12)) 11 (some u11)) 4 (some u4)) 1 (some u1)) 0 (some u0)) H n []
noncomputable def R129_1 (m1:Nat):V5:=fun u0 u1 u4 u11 u12 H n=>codeF P cal m1 (Lv.a (Lv.a (Lv.b (Lv.b (Lv.b (A 129)))))) none 129 (cL (cL (cR (cR (cR code129))))) (K129_prrr cal k) (K129_pxrrrl cal k) (doneK P results129) (Tr.set (Tr.set (Tr.set (Tr.set (Tr.set Tr.nil 12 (some u12)) 11 (some u11)) 4 (some u4)) 1 (some u1)) 0 (some u0)) H n []
noncomputable def B129_3 (cal:Cal) (k m1 m2:Nat) (b1:V5) (b3:V5) (u0 u1 u4 u11 u12:Value) (H:Hp) (n:Nat):Res:=
binK P BinOp.leq 3 (Operand.tmp 50) (Operand.tmp 51) u11 u12 fun v_36=>
guardD v_36 true (fun k_38=>
k_38 u4 .p H n) .p H n fun v_39 x_3a H_3b n_3c=>
guardD v_36 true (fun k_3e=>
k_3e u0 .p H_3b n_3c) .p H_3b n_3c fun v_3f x_3g H_3h n_3i=>
guardD v_36 true (fun k_3k=>
k_3k u1 .p H_3h n_3i) .p H_3h n_3i fun v_3l x_3m H_3n n_3o=>
guardD v_36 true (fun k_3q=>
bindO (indexAddrV P 93 v_3f v_3l) fun v_3v=>
k_3q v_3v .p H_3n n_3o) .p H_3n n_3o fun v_3r x_3s H_3t n_3u=>
guardD v_36 true (fun k_3w=>
bindO (addrV v_3r) fun a_41=>bindO (loadV P H_3t 101 a_41) fun v_42=>
k_3w v_42 (.l 101 a_41) H_3t n_3u) .p H_3t n_3u fun v_3x x_3y H_3z n_40=>
guardD v_36 true (fun k_43=>
k_43 u0 .p H_3z n_40) .p H_3z n_40 fun v_44 x_45 H_46 n_47=>
guardD v_36 true (fun k_49=>
k_49 u12 .p H_46 n_47) .p H_46 n_47 fun v_4a x_4b H_4c n_4d=>
guardD v_36 true (fun k_4f=>
bindO (indexAddrV P 93 v_44 v_4a) fun v_4k=>
k_4f v_4k .p H_4c n_4d) .p H_4c n_4d fun v_4g x_4h H_4i n_4j=>
guardD v_36 true (fun k_4l=>
bindO (addrV v_4g) fun a_4q=>bindO (loadV P H_4i 101 a_4q) fun v_4r=>
k_4l v_4r (.l 101 a_4q) H_4i n_4j) .p H_4i n_4j fun v_4m x_4n H_4o n_4p=>
guardD v_36 true (fun k_4s=>
callVK P cal v_39 [v_3x,v_4m] H_4o n_4p fun v_4x H_4y n_4z=>
k_4s v_4x .e H_4y n_4z) .e H_4o n_4p fun v_4t x_4u H_4v n_4w=>
guardD v_36 true (fun k_50=>
binK P BinOp.lss 3 (Operand.tmp 63) (Operand.const (Value.int IntKind.i64 0)) v_4t (Value.int IntKind.i64 0) fun v_55=>
k_50 v_55 .p H_4v n_4w) .p H_4v n_4w fun v_51 x_52 H_53 n_54=>
bindO (pickV v_36 v_51 (Value.bool false)) fun v_56=>
ifK v_56 (
binK P BinOp.sub 3 (Operand.tmp 66) (Operand.const (Value.int IntKind.i64 1)) u12 (Value.int IntKind.i64 1) fun v_58=>
b3 u0 u1 u4 u11 v_58 H_53 n_54) (
binK P BinOp.gtr 3 (Operand.tmp 68) (Operand.tmp 69) u11 u12 fun v_5c=>
ifK v_5c (
some (u11,H_53,n_54)) (
bindO (indexAddrV P 93 u0 u12) fun v_5l=>
bindO (addrV v_5l) fun a_5m=>bindO (loadV P H_53 101 a_5m) fun v_5n=>
bindO (indexAddrV P 93 u0 u11) fun v_5q=>
bindO (addrV v_5q) fun a_5r=>bindO (loadV P H_53 101 a_5r) fun v_5s=>
bindO (indexAddrV P 93 u0 u11) fun v_5t=>
bindO (storeP P 101 v_5t v_5n H_53) fun H_5v=>
bindO (indexAddrV P 93 u0 u12) fun v_5w=>
bindO (storeP P 101 v_5w v_5s H_5v) fun H_5y=>
binK P BinOp.add 3 (Operand.tmp 85) (Operand.const (Value.int IntKind.i64 1)) u11 (Value.int IntKind.i64 1) fun v_60=>
binK P BinOp.sub 3 (Operand.tmp 87) (Operand.const (Value.int IntKind.i64 1)) u12 (Value.int IntKind.i64 1) fun v_63=>
b1 u0 u1 u4 v_60 v_63 H_5y n_54))
noncomputable def C129_3 (m1 m2:Nat):=B129_3 cal k m1 m2
noncomputable def S129_3 (m1:Nat) (b1:V5):Nat→V5:=fun m=>Nat.rec (motive:=fun _=>V5) (C129_3 cal k m1 0 b1 (fun _ _ _ _ _ _ _=>none)) (fun m ih=>C129_3 cal k m1 (m+1) b1 ih) m
theorem h129_3 (m1 m2:Nat):T129_3 cal k m1 m2=C129_3 cal k m1 m2 (R129_1 cal k m1) (R129_3 cal k m1 m2):=by kernel_rfl
theorem q129_3 (m1:Nat) (m:Nat):T129_3 cal k m1 m=S129_3 cal k m1 (R129_1 cal k m1) m:=recS (h129_3 cal k m1) (by kernel_rfl) (fun m=>by kernel_rfl) m
noncomputable def B129_2 (cal:Cal) (k m1 m2:Nat) (j3:V5) (b1:V5) (b2:V5) (u0 u1 u4 u11 u12:Value) (H:Hp) (n:Nat):Res:=
binK P BinOp.leq 3 (Operand.tmp 31) (Operand.tmp 32) u11 u12 fun v_u=>
guardD v_u true (fun k_w=>
k_w u4 .p H n) .p H n fun v_x x_y H_z n_10=>
guardD v_u true (fun k_12=>
k_12 u0 .p H_z n_10) .p H_z n_10 fun v_13 x_14 H_15 n_16=>
guardD v_u true (fun k_18=>
k_18 u1 .p H_15 n_16) .p H_15 n_16 fun v_19 x_1a H_1b n_1c=>
guardD v_u true (fun k_1e=>
bindO (indexAddrV P 93 v_13 v_19) fun v_1j=>
k_1e v_1j .p H_1b n_1c) .p H_1b n_1c fun v_1f x_1g H_1h n_1i=>
guardD v_u true (fun k_1k=>
bindO (addrV v_1f) fun a_1p=>bindO (loadV P H_1h 101 a_1p) fun v_1q=>
k_1k v_1q (.l 101 a_1p) H_1h n_1i) .p H_1h n_1i fun v_1l x_1m H_1n n_1o=>
guardD v_u true (fun k_1r=>
k_1r u0 .p H_1n n_1o) .p H_1n n_1o fun v_1s x_1t H_1u n_1v=>
guardD v_u true (fun k_1x=>
k_1x u11 .p H_1u n_1v) .p H_1u n_1v fun v_1y x_1z H_20 n_21=>
guardD v_u true (fun k_23=>
bindO (indexAddrV P 93 v_1s v_1y) fun v_28=>
k_23 v_28 .p H_20 n_21) .p H_20 n_21 fun v_24 x_25 H_26 n_27=>
guardD v_u true (fun k_29=>
bindO (addrV v_24) fun a_2e=>bindO (loadV P H_26 101 a_2e) fun v_2f=>
k_29 v_2f (.l 101 a_2e) H_26 n_27) .p H_26 n_27 fun v_2a x_2b H_2c n_2d=>
guardD v_u true (fun k_2g=>
callVK P cal v_x [v_1l,v_2a] H_2c n_2d fun v_2l H_2m n_2n=>
k_2g v_2l .e H_2m n_2n) .e H_2c n_2d fun v_2h x_2i H_2j n_2k=>
guardD v_u true (fun k_2o=>
binK P BinOp.lss 3 (Operand.tmp 44) (Operand.const (Value.int IntKind.i64 0)) v_2h (Value.int IntKind.i64 0) fun v_2t=>
k_2o v_2t .p H_2j n_2k) .p H_2j n_2k fun v_2p x_2q H_2r n_2s=>
guardD v_u true (fun k_2u=>
bindO (pureSem P v_2p (Op.unary UnOp.not v_2p)) fun v_2z=>
k_2u v_2z .p H_2r n_2s) .p H_2r n_2s fun v_2v x_2w H_2x n_2y=>
bindO (pickV v_u v_2v (Value.bool false)) fun v_30=>
ifK v_30 (
binK P BinOp.add 3 (Operand.tmp 48) (Operand.const (Value.int IntKind.i64 1)) u11 (Value.int IntKind.i64 1) fun v_32=>
b2 u0 u1 u4 v_32 u12 H_2x n_2y) (
j3 u0 u1 u4 u11 u12 H_2x n_2y)
noncomputable def C129_2 (m1 m2:Nat) (b1:V5):=B129_2 cal k m1 m2 (S129_3 cal k m1 b1 m1) b1
noncomputable def S129_2 (m1:Nat) (b1:V5):Nat→V5:=fun m=>Nat.rec (motive:=fun _=>V5) (C129_2 cal k m1 0 b1 (fun _ _ _ _ _ _ _=>none)) (fun m ih=>C129_2 cal k m1 (m+1) b1 ih) m
theorem h129_2 (m1 m2:Nat):T129_2 cal k m1 m2=C129_2 cal k m1 m2 (R129_1 cal k m1) (R129_2 cal k m1 m2):=Eq.trans (b:=B129_2 cal k m1 m2 (T129_3 cal k m1 m1) (R129_1 cal k m1) (R129_2 cal k m1 m2)) (by kernel_rfl) (by rw[q129_3]; rfl)
theorem q129_2 (m1:Nat) (m:Nat):T129_2 cal k m1 m=S129_2 cal k m1 (R129_1 cal k m1) m:=recS (h129_2 cal k m1) (by kernel_rfl) (fun m=>by kernel_rfl) m
noncomputable def B129_1 (cal:Cal) (k m1:Nat) (j2:V5) (b1:V5) (u0 u1 u4 u11 u12:Value) (H:Hp) (n:Nat):Res:=
j2 u0 u1 u4 u11 u12 H n
noncomputable def C129_1 (m1:Nat) (b1:V5):=B129_1 cal k m1 (S129_2 cal k m1 b1 m1) b1
noncomputable def S129_1:Nat→V5:=recF (C129_1 cal k) (fun _ _ _ _ _ _ _=>none)
theorem h129_1 (m1:Nat):T129_1 cal k m1=C129_1 cal k m1 (R129_1 cal k m1):=Eq.trans (b:=B129_1 cal k m1 (T129_2 cal k m1 m1) (R129_1 cal k m1)) (by funext u0 u1 u4 u11 u12 H n; kernel_rfl) (by rw[q129_2]; rfl)
theorem q129_1 (m:Nat):T129_1 cal k m=S129_1 cal k m:=recS (h129_1 cal k) (by kernel_rfl) (fun m=>by kernel_rfl) m
noncomputable def B129_0 (cal:Cal) (k:Nat) (j1:V5) (v0 v1 v2 v3 v4:Value) (H:Hp) (n:Nat):Res:=
bindO (indexAddrV P 93 v0 v3) fun v_8=>
bindO (addrV v_8) fun a_9=>bindO (loadV P H 101 a_9) fun v_a=>
bindO (indexAddrV P 93 v0 v1) fun v_d=>
bindO (addrV v_d) fun a_e=>bindO (loadV P H 101 a_e) fun v_f=>
bindO (indexAddrV P 93 v0 v1) fun v_g=>
bindO (storeP P 101 v_g v_a H) fun H_i=>
bindO (indexAddrV P 93 v0 v3) fun v_j=>
bindO (storeP P 101 v_j v_f H_i) fun H_l=>
binK P BinOp.add 3 (Operand.tmp 27) (Operand.const (Value.int IntKind.i64 1)) v1 (Value.int IntKind.i64 1) fun v_n=>
binK P BinOp.sub 3 (Operand.tmp 29) (Operand.const (Value.int IntKind.i64 1)) v2 (Value.int IntKind.i64 1) fun v_p=>
j1 v0 v1 v4 v_n v_p H_l n
noncomputable def C129_0:=B129_0 cal k (S129_1 cal k k)
theorem h129_0 (v0 v1 v2 v3 v4:Value) (H:Hp) (n:Nat):bodyE P cal A (k+1) 129 [v0,v1,v2,v3,v4] H n=C129_0 cal k v0 v1 v2 v3 v4 H n:=(bq Go.Proofs.Tryz.f129 code129 results129 (by kernel_rfl)).trans (Eq.trans (b:=B129_0 cal k (T129_1 cal k k) v0 v1 v2 v3 v4 H n) (by kernel_rfl) (by rw[q129_1]; rfl))
end Go.Proofs.YtkmjgabdaikomaaGreat.G
end
end
