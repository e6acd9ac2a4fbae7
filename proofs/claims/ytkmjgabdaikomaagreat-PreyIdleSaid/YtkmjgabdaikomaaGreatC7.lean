/- Texts G2 to G4. -/
import Derived.Test.YtkmjgabdaikomaaGreatC6
set_option linter.unusedVariables false
section
open Go Go.Ev
set_option maxRecDepth 1000000
noncomputable section
namespace Go.Proofs.YtkmjgabdaikomaaGreat.G
variable (cal:Cal) (k:Nat)
noncomputable def code14:Code:=codeOf 14
noncomputable def results14:List ResultVar:=resOf 14
noncomputable def B14_0 (cal:Cal) (k:Nat) (H:Hp) (n:Nat):Res:=
callFK P cal 47 [] H n fun v_2 H_3 n_4=>
callFK P cal 48 [] H_3 n_4 fun v_5 H_6 n_7=>
bindO (sliceV P 30 v_5 none (some (Value.int IntKind.i64 2))) fun v_8=>
callFK P cal 17 [v_2,v_8] H_6 n_7 fun v_9 H_a n_b=>
bindO (tupV v_9 0) fun v_d=>
bindO (tupV v_9 1) fun v_e=>
callFK P cal 47 [] H_a n_b fun v_h H_i n_j=>
callFK P cal 35 [v_h,(Value.int IntKind.i64 2)] H_i n_j fun v_k H_l n_m=>
bindO (tupV v_k 0) fun v_o=>
bindO (tupV v_k 1) fun v_p=>
callFK P cal 47 [] H_l n_m fun v_s H_t n_u=>
callFK P cal 37 [v_s] H_t n_u fun v_v H_w n_x=>
bindO (tupV v_v 0) fun v_z=>
bindO (tupV v_v 1) fun v_10=>
callFK P cal 47 [] H_w n_x fun v_13 H_14 n_15=>
callFK P cal 48 [] H_14 n_15 fun v_16 H_17 n_18=>
callFK P cal 23 [v_13,v_16] H_17 n_18 fun v_19 H_1a n_1b=>
bindO (tupV v_19 0) fun v_1d=>
bindO (tupV v_19 1) fun v_1e=>
bindO (tupV v_19 2) fun v_1f=>
callFK P cal 47 [] H_1a n_1b fun v_1j H_1k n_1l=>
callFK P cal 38 [v_1j,(Value.int IntKind.i64 1),(Value.int IntKind.i64 2)] H_1k n_1l fun v_1m H_1n n_1o=>
bindO (tupV v_1m 0) fun v_1q=>
bindO (tupV v_1m 1) fun v_1r=>
bindO (tupV v_1m 2) fun v_1s=>
binK P BinOp.eql 33 (Operand.tmp 43) (Operand.const (Value.int IntKind.i64 0)) v_e (Value.int IntKind.i64 0) fun v_1x=>
guardK v_1x true (fun k_1z=>
k_1z v_d H_1n n_1o) H_1n n_1o fun v_20 H_21 n_22=>
guardK v_1x true (fun k_24=>
rowK P 27 5 [(0,(Value.int IntKind.i64 0)),(1,(Value.int IntKind.i64 1)),(2,(Value.int IntKind.i64 2)),(3,(Value.int IntKind.i64 3)),(4,(Value.int IntKind.i64 4))] H_21 n_22 fun v_28 H_29 n_2a=>
k_24 v_28 H_29 n_2a) H_21 n_22 fun v_25 H_26 n_27=>
guardK v_1x true (fun k_2b=>
rowK P 27 3 [(0,(Value.int IntKind.i64 2)),(1,(Value.int IntKind.i64 3)),(2,(Value.int IntKind.i64 4))] H_26 n_27 fun v_2f H_2g n_2h=>
k_2b v_2f H_2g n_2h) H_26 n_27 fun v_2c H_2d n_2e=>
guardK v_1x true (fun k_2i=>
rowK P 27 2 [(0,(Value.int IntKind.i64 3)),(1,(Value.int IntKind.i64 4))] H_2d n_2e fun v_2m H_2n n_2o=>
k_2i v_2m H_2n n_2o) H_2d n_2e fun v_2j H_2k n_2l=>
guardK v_1x true (fun k_2p=>
rowK P 30 3 [(0,v_25),(1,v_2c),(2,v_2j)] H_2k n_2l fun v_2t H_2u n_2v=>
k_2p v_2t H_2u n_2v) H_2k n_2l fun v_2q H_2r n_2s=>
guardK v_1x true (fun k_2w=>
callFK P cal 21 [v_20,v_2q] H_2r n_2s fun v_30 H_31 n_32=>
k_2w v_30 H_31 n_32) H_2r n_2s fun v_2x H_2y n_2z=>
bindO (pickV v_1x v_2x (Value.bool false)) fun v_33=>
guardK v_33 true (fun k_35=>
k_35 v_p H_2y n_2z) H_2y n_2z fun v_36 H_37 n_38=>
guardK v_33 true (fun k_3a=>
binK P BinOp.eql 33 (Operand.tmp 54) (Operand.const (Value.int IntKind.i64 0)) v_36 (Value.int IntKind.i64 0) fun v_3e=>
k_3a v_3e H_37 n_38) H_37 n_38 fun v_3b H_3c n_3d=>
bindO (pickV v_33 v_3b (Value.bool false)) fun v_3f=>
guardK v_3f true (fun k_3h=>
k_3h v_o H_3c n_3d) H_3c n_3d fun v_3i H_3j n_3k=>
guardK v_3f true (fun k_3m=>
callFK P cal 48 [] H_3j n_3k fun v_3q H_3r n_3s=>
k_3m v_3q H_3r n_3s) H_3j n_3k fun v_3n H_3o n_3p=>
guardK v_3f true (fun k_3t=>
callFK P cal 21 [v_3i,v_3n] H_3o n_3p fun v_3x H_3y n_3z=>
k_3t v_3x H_3y n_3z) H_3o n_3p fun v_3u H_3v n_3w=>
bindO (pickV v_3f v_3u (Value.bool false)) fun v_40=>
guardK v_40 true (fun k_42=>
k_42 v_10 H_3v n_3w) H_3v n_3w fun v_43 H_44 n_45=>
guardK v_40 true (fun k_47=>
binK P BinOp.eql 33 (Operand.tmp 63) (Operand.const (Value.int IntKind.i64 0)) v_43 (Value.int IntKind.i64 0) fun v_4b=>
k_47 v_4b H_44 n_45) H_44 n_45 fun v_48 H_49 n_4a=>
bindO (pickV v_40 v_48 (Value.bool false)) fun v_4c=>
guardK v_4c true (fun k_4e=>
k_4e v_z H_49 n_4a) H_49 n_4a fun v_4f H_4g n_4h=>
guardK v_4c true (fun k_4j=>
binK P BinOp.eql 3 (Operand.tmp 67) (Operand.const (Value.int IntKind.i64 2)) v_4f (Value.int IntKind.i64 2) fun v_4n=>
k_4j v_4n H_4g n_4h) H_4g n_4h fun v_4k H_4l n_4m=>
bindO (pickV v_4c v_4k (Value.bool false)) fun v_4o=>
guardK v_4o true (fun k_4q=>
k_4q v_1f H_4l n_4m) H_4l n_4m fun v_4r H_4s n_4t=>
guardK v_4o true (fun k_4v=>
binK P BinOp.eql 33 (Operand.tmp 71) (Operand.const (Value.int IntKind.i64 0)) v_4r (Value.int IntKind.i64 0) fun v_4z=>
k_4v v_4z H_4s n_4t) H_4s n_4t fun v_4w H_4x n_4y=>
bindO (pickV v_4o v_4w (Value.bool false)) fun v_50=>
guardK v_50 true (fun k_52=>
k_52 v_1d H_4x n_4y) H_4x n_4y fun v_53 H_54 n_55=>
guardK v_50 true (fun k_57=>
binK P BinOp.eql 3 (Operand.tmp 75) (Operand.const (Value.int IntKind.i64 20)) v_53 (Value.int IntKind.i64 20) fun v_5b=>
k_57 v_5b H_54 n_55) H_54 n_55 fun v_58 H_59 n_5a=>
bindO (pickV v_50 v_58 (Value.bool false)) fun v_5c=>
guardK v_5c true (fun k_5e=>
k_5e v_1e H_59 n_5a) H_59 n_5a fun v_5f H_5g n_5h=>
guardK v_5c true (fun k_5j=>
rowK P 27 4 [(0,(Value.int IntKind.i64 4)),(1,(Value.int IntKind.i64 4)),(2,(Value.int IntKind.i64 4)),(3,(Value.int IntKind.i64 4))] H_5g n_5h fun v_5n H_5o n_5p=>
k_5j v_5n H_5o n_5p) H_5g n_5h fun v_5k H_5l n_5m=>
guardK v_5c true (fun k_5q=>
callFK P cal 42 [v_5f,v_5k] H_5l n_5m fun v_5u H_5v n_5w=>
k_5q v_5u H_5v n_5w) H_5l n_5m fun v_5r H_5s n_5t=>
bindO (pickV v_5c v_5r (Value.bool false)) fun v_5x=>
guardK v_5x true (fun k_5z=>
k_5z v_1s H_5s n_5t) H_5s n_5t fun v_60 H_61 n_62=>
guardK v_5x true (fun k_64=>
binK P BinOp.eql 33 (Operand.tmp 84) (Operand.const (Value.int IntKind.i64 0)) v_60 (Value.int IntKind.i64 0) fun v_68=>
k_64 v_68 H_61 n_62) H_61 n_62 fun v_65 H_66 n_67=>
bindO (pickV v_5x v_65 (Value.bool false)) fun v_69=>
guardK v_69 true (fun k_6b=>
k_6b v_1q H_66 n_67) H_66 n_67 fun v_6c H_6d n_6e=>
guardK v_69 true (fun k_6g=>
rowK P 27 1 [(0,(Value.int IntKind.i64 4))] H_6d n_6e fun v_6k H_6l n_6m=>
k_6g v_6k H_6l n_6m) H_6d n_6e fun v_6h H_6i n_6j=>
guardK v_69 true (fun k_6n=>
rowK P 30 2 [(0,v_6h),(1,(Value.slice none 0 0))] H_6i n_6j fun v_6r H_6s n_6t=>
k_6n v_6r H_6s n_6t) H_6i n_6j fun v_6o H_6p n_6q=>
guardK v_69 true (fun k_6u=>
callFK P cal 21 [v_6c,v_6o] H_6p n_6q fun v_6y H_6z n_70=>
k_6u v_6y H_6z n_70) H_6p n_6q fun v_6v H_6w n_6x=>
bindO (pickV v_69 v_6v (Value.bool false)) fun v_71=>
guardK v_71 true (fun k_73=>
k_73 v_1r H_6w n_6x) H_6w n_6x fun v_74 H_75 n_76=>
guardK v_71 true (fun k_78=>
binK P BinOp.eql 3 (Operand.tmp 94) (Operand.const (Value.int IntKind.i64 9)) v_74 (Value.int IntKind.i64 9) fun v_7c=>
k_78 v_7c H_75 n_76) H_75 n_76 fun v_79 H_7a n_7b=>
bindO (pickV v_71 v_79 (Value.bool false)) fun v_7d=>
some (v_7d,H_7a,n_7b)
noncomputable def C14_0:=B14_0 cal k 
theorem h14_0 (H:Hp) (n:Nat):bodyE P cal A (k+1) 14 [] H n=C14_0 cal k  H n:=(bq Go.Proofs.Tryz.f14 code14 results14 (by kernel_rfl)).trans (by kernel_rfl)
noncomputable def code17:Code:=codeOf 17
noncomputable def results17:List ResultVar:=resOf 17
noncomputable def B17_0 (cal:Cal) (k:Nat) (v0 v1:Value) (H:Hp) (n:Nat):Res:=
boxK 41 v0 H n fun v_1 H_2 n_3=>
bindO (addrV v_1) fun a_7=>bindO (loadV P H_2 41 a_7) fun v_6=>
callFK P cal 51 [v_6,v1] H_2 n_3 fun v_9 H_a n_b=>
bindO (tupV v_9 0) fun v_d=>
bindO (tupV v_9 1) fun v_e=>
bindO (tupV v_9 2) fun v_f=>
binK P BinOp.neq 33 (Operand.tmp 16) (Operand.const (Value.int IntKind.i64 0)) v_f (Value.int IntKind.i64 0) fun v_k=>
ifK v_k (
some ((Value.tuple ⟨[(Value.slice none 0 0),v_f]⟩),H_a,n_b)) (
callFK P cal 53 [v_d,v_e] H_a n_b fun v_q H_r n_s=>
callFK P cal 52 [v_q] H_r n_s fun v_t H_u n_v=>
some ((Value.tuple ⟨[v_t,(Value.int IntKind.i64 0)]⟩),H_u,n_v))
noncomputable def C17_0:=B17_0 cal k
theorem h17_0 (v0 v1:Value) (H:Hp) (n:Nat):bodyE P cal A (k+1) 17 [v0,v1] H n=C17_0 cal k v0 v1 H n:=(bq Go.Proofs.Tryz.f17 code17 results17 (by kernel_rfl)).trans (by kernel_rfl)
noncomputable def code21:Code:=codeOf 21
noncomputable def results21:List ResultVar:=resOf 21
noncomputable def K21_prr:KR:=(cutK (Lv.b (Lv.b (A 21))).c (codeE P cal (codeF P cal k) none 21 (cR (cR (cR code21))) (Lv.b (Lv.b (Lv.b (A 21)))) (doneK P results21) X0 (doneK P results21)))
noncomputable def K21_pxrrlr:XR:=(upX 0 (K21_prr cal k) X0)
noncomputable def K21_prrlrl (m1:Nat):KR:=(fun T H n D=>codeF P cal m1 (Lv.a (Lv.b (Lv.a (Lv.b (Lv.b (A 21)))))) none 21 (cL (cR (cL (cR (cR code21))))) (K21_prr cal k) (K21_pxrrlr cal k) (doneK P results21) (cutT (Lv.a (Lv.b (Lv.a (Lv.b (Lv.b (A 21)))))).c T) H n D)
noncomputable def T21_1 (m1:Nat):=fun(u0 u1 u5:Value) (H:Hp) (n:Nat)=>labK (codeE P cal (codeF P cal m1) none 21 (cL (cL (cR (cL (cR (cR code21)))))) (Lv.a (Lv.a (Lv.b (Lv.a (Lv.b (Lv.b (A 21))))))) (K21_prrlrl cal k m1) (K21_pxrrlr cal k) (doneK P results21)) (Tr.set (Tr.set (Tr.set Tr.nil 5 (some u5)) 1 (some u1)) 0 (some u0)) H n []
noncomputable def R21_1 (m1:Nat):V3:=fun u0 u1 u5 H n=>codeF P cal m1 (Lv.a (Lv.b (Lv.a (Lv.b (Lv.b (A 21)))))) none 21 (cL (cR (cL (cR (cR code21))))) (K21_prr cal k) (K21_pxrrlr cal k) (doneK P results21) (Tr.set (Tr.set (Tr.set Tr.nil 5 (some u5)) 1 (some u1)) 0 (some u0)) H n []
noncomputable def B21_1 (cal:Cal) (k m1:Nat) (b1:V3) (u0 u1 u5:Value) (H:Hp) (n:Nat):Res:=
bindO (lenV P 30 u0) fun v_b=>
binK P BinOp.lss 3 (Operand.tmp 11) (Operand.tmp 13) u5 v_b fun v_c=>
ifK v_c (
bindO (indexAddrV P 30 u0 u5) fun v_f=>
bindO (addrV v_f) fun a_g=>bindO (loadV P H 27 a_g) fun v_h=>
bindO (indexAddrV P 30 u1 u5) fun v_k=>
bindO (addrV v_k) fun a_l=>bindO (loadV P H 27 a_l) fun v_m=>
callFK P cal 42 [v_h,v_m] H n fun v_n H_o n_p=>
bindO (pureSem P v_n (Op.unary UnOp.not v_n)) fun v_q=>
ifK v_q (
some ((Value.bool false),H_o,n_p)) (
binK P BinOp.add 3 (Operand.tmp 15) (Operand.const (Value.int IntKind.i64 1)) u5 (Value.int IntKind.i64 1) fun v_t=>
b1 u0 u1 v_t H_o n_p)) (
some ((Value.bool true),H,n))
noncomputable def C21_1 (m1:Nat):=B21_1 cal k m1
noncomputable def S21_1:Nat→V3:=recF (C21_1 cal k) (fun _ _ _ _ _=>none)
theorem h21_1 (m1:Nat):T21_1 cal k m1=C21_1 cal k m1 (R21_1 cal k m1):=by kernel_rfl
theorem q21_1 (m:Nat):T21_1 cal k m=S21_1 cal k m:=recS (h21_1 cal k) (by kernel_rfl) (fun m=>by kernel_rfl) m
noncomputable def B21_0 (cal:Cal) (k:Nat) (j1:V3) (v0 v1:Value) (H:Hp) (n:Nat):Res:=
bindO (lenV P 30 v0) fun v_3=>
bindO (lenV P 30 v1) fun v_5=>
binK P BinOp.neq 3 (Operand.tmp 7) (Operand.tmp 9) v_3 v_5 fun v_6=>
ifK v_6 (
some ((Value.bool false),H,n)) (
j1 v0 v1 (Value.int IntKind.i64 0) H n)
noncomputable def C21_0:=B21_0 cal k (S21_1 cal k k)
theorem h21_0 (v0 v1:Value) (H:Hp) (n:Nat):bodyE P cal A (k+1) 21 [v0,v1] H n=C21_0 cal k v0 v1 H n:=(bq Go.Proofs.Tryz.f21 code21 results21 (by kernel_rfl)).trans (Eq.trans (b:=B21_0 cal k (T21_1 cal k k) v0 v1 H n) (by kernel_rfl) (by rw[q21_1]; rfl))
noncomputable def code23:Code:=codeOf 23
noncomputable def results23:List ResultVar:=resOf 23
noncomputable def B23_0 (cal:Cal) (k:Nat) (v0 v1:Value) (H:Hp) (n:Nat):Res:=
boxK 41 v0 H n fun v_1 H_2 n_3=>
bindO (addrV v_1) fun a_8=>bindO (loadV P H_2 41 a_8) fun v_7=>
callFK P cal 51 [v_7,v1] H_2 n_3 fun v_a H_b n_c=>
bindO (tupV v_a 0) fun v_e=>
bindO (tupV v_a 1) fun v_f=>
bindO (tupV v_a 2) fun v_g=>
binK P BinOp.neq 33 (Operand.tmp 16) (Operand.const (Value.int IntKind.i64 0)) v_g (Value.int IntKind.i64 0) fun v_l=>
ifK v_l (
some ((Value.tuple ⟨[(Value.int IntKind.i64 0),(Value.slice none 0 0),v_g]⟩),H_b,n_c)) (
bindO (nilV v_e) fun v_r=>
bindO (fieldAddrV P 104 v_r 0) fun v_s=>
bindO (fieldAddrV P 41 v_s 1) fun v_t=>
bindO (addrV v_t) fun a_v=>bindO (loadV P H_b 27 a_v) fun v_u=>
bindO (lenV P 27 v_u) fun v_w=>
binK P BinOp.eql 3 (Operand.tmp 24) (Operand.const (Value.int IntKind.i64 0)) v_w (Value.int IntKind.i64 0) fun v_x=>
ifK v_x (
some ((Value.tuple ⟨[(Value.int IntKind.i64 0),(Value.slice none 0 0),(Value.int IntKind.i64 7)]⟩),H_b,n_c)) (
callFK P cal 57 [v_e,v_f] H_b n_c fun v_13 H_14 n_15=>
callFK P cal 58 [v_e,v_13] H_14 n_15 fun v_19 H_1a n_1b=>
some ((Value.tuple ⟨[v_19,v_13,(Value.int IntKind.i64 0)]⟩),H_1a,n_1b)))
noncomputable def C23_0:=B23_0 cal k
theorem h23_0 (v0 v1:Value) (H:Hp) (n:Nat):bodyE P cal A (k+1) 23 [v0,v1] H n=C23_0 cal k v0 v1 H n:=(bq Go.Proofs.Tryz.f23 code23 results23 (by kernel_rfl)).trans (by kernel_rfl)
noncomputable def code35:Code:=codeOf 35
noncomputable def results35:List ResultVar:=resOf 35
noncomputable def B35_0 (cal:Cal) (k:Nat) (v0 v1:Value) (H:Hp) (n:Nat):Res:=
boxK 41 v0 H n fun v_1 H_2 n_3=>
bindO (addrV v_1) fun a_7=>bindO (loadV P H_2 41 a_7) fun v_6=>
callFK P cal 65 [v_6] H_2 n_3 fun v_8 H_9 n_a=>
bindO (tupV v_8 0) fun v_c=>
bindO (tupV v_8 1) fun v_d=>
binK P BinOp.neq 33 (Operand.tmp 15) (Operand.const (Value.int IntKind.i64 0)) v_d (Value.int IntKind.i64 0) fun v_h=>
ifK v_h (
some ((Value.tuple ⟨[(Value.slice none 0 0),v_d]⟩),H_9,n_a)) (
binK P BinOp.lss 3 (Operand.tmp 18) (Operand.const (Value.int IntKind.i64 0)) v1 (Value.int IntKind.i64 0) fun v_m=>
guardK v_m false (fun k_o=>
k_o v1 H_9 n_a) H_9 n_a fun v_p H_q n_r=>
guardK v_m false (fun k_t=>
binK P BinOp.gtr 3 (Operand.tmp 21) (Operand.const (Value.int IntKind.i64 8)) v_p (Value.int IntKind.i64 8) fun v_x=>
k_t v_x H_q n_r) H_q n_r fun v_u H_v n_w=>
bindO (pickV v_m (Value.bool true) v_u) fun v_y=>
ifK v_y (
some ((Value.tuple ⟨[(Value.slice none 0 0),(Value.int IntKind.i64 2)]⟩),H_v,n_w)) (
callFK P cal 66 [v_c,v1] H_v n_w fun v_13 H_14 n_15=>
bindO (tupV v_13 0) fun v_17=>
bindO (tupV v_13 1) fun v_18=>
bindO (pureSem P v_18 (Op.unary UnOp.not v_18)) fun v_1c=>
ifK v_1c (
some ((Value.tuple ⟨[(Value.slice none 0 0),(Value.int IntKind.i64 10)]⟩),H_14,n_15)) (
callFK P cal 52 [v_17] H_14 n_15 fun v_1g H_1h n_1i=>
some ((Value.tuple ⟨[v_1g,(Value.int IntKind.i64 0)]⟩),H_1h,n_1i))))
noncomputable def C35_0:=B35_0 cal k
theorem h35_0 (v0 v1:Value) (H:Hp) (n:Nat):bodyE P cal A (k+1) 35 [v0,v1] H n=C35_0 cal k v0 v1 H n:=(bq Go.Proofs.Tryz.f35 code35 results35 (by kernel_rfl)).trans (by kernel_rfl)
noncomputable def code37:Code:=codeOf 37
noncomputable def results37:List ResultVar:=resOf 37
noncomputable def B37_0 (cal:Cal) (k:Nat) (v0:Value) (H:Hp) (n:Nat):Res:=
boxK 41 v0 H n fun v_1 H_2 n_3=>
bindO (addrV v_1) fun a_7=>bindO (loadV P H_2 41 a_7) fun v_6=>
callFK P cal 65 [v_6] H_2 n_3 fun v_8 H_9 n_a=>
bindO (tupV v_8 0) fun v_c=>
bindO (tupV v_8 1) fun v_d=>
binK P BinOp.neq 33 (Operand.tmp 11) (Operand.const (Value.int IntKind.i64 0)) v_d (Value.int IntKind.i64 0) fun v_h=>
ifK v_h (
some ((Value.tuple ⟨[(Value.int IntKind.i64 0),v_d]⟩),H_9,n_a)) (
callFK P cal 68 [v_c] H_9 n_a fun v_m H_n n_o=>
some ((Value.tuple ⟨[v_m,(Value.int IntKind.i64 0)]⟩),H_n,n_o))
noncomputable def C37_0:=B37_0 cal k
theorem h37_0 (v0:Value) (H:Hp) (n:Nat):bodyE P cal A (k+1) 37 [v0] H n=C37_0 cal k v0 H n:=(bq Go.Proofs.Tryz.f37 code37 results37 (by kernel_rfl)).trans (by kernel_rfl)
noncomputable def code38:Code:=codeOf 38
noncomputable def results38:List ResultVar:=resOf 38
noncomputable def B38_0 (cal:Cal) (k:Nat) (v0 v1 v2:Value) (H:Hp) (n:Nat):Res:=
boxK 41 v0 H n fun v_1 H_2 n_3=>
bindO (addrV v_1) fun a_8=>bindO (loadV P H_2 41 a_8) fun v_7=>
callFK P cal 65 [v_7] H_2 n_3 fun v_9 H_a n_b=>
bindO (tupV v_9 0) fun v_d=>
bindO (tupV v_9 1) fun v_e=>
binK P BinOp.neq 33 (Operand.tmp 16) (Operand.const (Value.int IntKind.i64 0)) v_e (Value.int IntKind.i64 0) fun v_i=>
ifK v_i (
some ((Value.tuple ⟨[(Value.slice none 0 0),(Value.int IntKind.i64 0),v_e]⟩),H_a,n_b)) (
binK P BinOp.lss 3 (Operand.tmp 19) (Operand.const (Value.int IntKind.i64 0)) v1 (Value.int IntKind.i64 0) fun v_o=>
guardK v_o false (fun k_q=>
k_q v1 H_a n_b) H_a n_b fun v_r H_s n_t=>
guardK v_o false (fun k_v=>
binK P BinOp.gtr 3 (Operand.tmp 22) (Operand.const (Value.int IntKind.i64 2)) v_r (Value.int IntKind.i64 2) fun v_z=>
k_v v_z H_s n_t) H_s n_t fun v_w H_x n_y=>
bindO (pickV v_o (Value.bool true) v_w) fun v_10=>
guardK v_10 false (fun k_12=>
k_12 v2 H_x n_y) H_x n_y fun v_13 H_14 n_15=>
guardK v_10 false (fun k_17=>
binK P BinOp.lss 3 (Operand.tmp 26) (Operand.const (Value.int IntKind.i64 0)) v_13 (Value.int IntKind.i64 0) fun v_1b=>
k_17 v_1b H_14 n_15) H_14 n_15 fun v_18 H_19 n_1a=>
bindO (pickV v_10 (Value.bool true) v_18) fun v_1c=>
guardK v_1c false (fun k_1e=>
k_1e v2 H_19 n_1a) H_19 n_1a fun v_1f H_1g n_1h=>
guardK v_1c false (fun k_1j=>
binK P BinOp.gtr 3 (Operand.tmp 30) (Operand.const (Value.int IntKind.i64 3)) v_1f (Value.int IntKind.i64 3) fun v_1n=>
k_1j v_1n H_1g n_1h) H_1g n_1h fun v_1k H_1l n_1m=>
bindO (pickV v_1c (Value.bool true) v_1k) fun v_1o=>
ifK v_1o (
some ((Value.tuple ⟨[(Value.slice none 0 0),(Value.int IntKind.i64 0),(Value.int IntKind.i64 2)]⟩),H_1l,n_1m)) (
bindO (nilV v_d) fun v_1t=>
bindO (fieldAddrV P 104 v_1t 0) fun v_1u=>
bindO (fieldAddrV P 41 v_1u 1) fun v_1v=>
bindO (addrV v_1v) fun a_1x=>bindO (loadV P H_1l 27 a_1x) fun v_1w=>
bindO (lenV P 27 v_1w) fun v_1y=>
binK P BinOp.eql 3 (Operand.tmp 38) (Operand.const (Value.int IntKind.i64 0)) v_1y (Value.int IntKind.i64 0) fun v_1z=>
ifK v_1z (
some ((Value.tuple ⟨[(Value.slice none 0 0),(Value.int IntKind.i64 0),(Value.int IntKind.i64 7)]⟩),H_1l,n_1m)) (
callFK P cal 69 [v_d,v1,v2] H_1l n_1m fun v_26 H_27 n_28=>
bindO (tupV v_26 0) fun v_2a=>
bindO (tupV v_26 1) fun v_2b=>
callFK P cal 52 [v_2a] H_27 n_28 fun v_2f H_2g n_2h=>
some ((Value.tuple ⟨[v_2f,v_2b,(Value.int IntKind.i64 0)]⟩),H_2g,n_2h))))
noncomputable def C38_0:=B38_0 cal k
theorem h38_0 (v0 v1 v2:Value) (H:Hp) (n:Nat):bodyE P cal A (k+1) 38 [v0,v1,v2] H n=C38_0 cal k v0 v1 v2 H n:=(bq Go.Proofs.Tryz.f38 code38 results38 (by kernel_rfl)).trans (by kernel_rfl)
noncomputable def code42:Code:=codeOf 42
noncomputable def results42:List ResultVar:=resOf 42
noncomputable def K42_prr:KR:=(cutK (Lv.b (Lv.b (A 42))).c (codeE P cal (codeF P cal k) none 42 (cR (cR (cR code42))) (Lv.b (Lv.b (Lv.b (A 42)))) (doneK P results42) X0 (doneK P results42)))
noncomputable def K42_pxrrlr:XR:=(upX 0 (K42_prr cal k) X0)
noncomputable def K42_prrlrl (m1:Nat):KR:=(fun T H n D=>codeF P cal m1 (Lv.a (Lv.b (Lv.a (Lv.b (Lv.b (A 42)))))) none 42 (cL (cR (cL (cR (cR code42))))) (K42_prr cal k) (K42_pxrrlr cal k) (doneK P results42) (cutT (Lv.a (Lv.b (Lv.a (Lv.b (Lv.b (A 42)))))).c T) H n D)
noncomputable def T42_1 (m1:Nat):=fun(u0 u1 u5:Value) (H:Hp) (n:Nat)=>labK (codeE P cal (codeF P cal m1) none 42 (cL (cL (cR (cL (cR (cR code42)))))) (Lv.a (Lv.a (Lv.b (Lv.a (Lv.b (Lv.b (A 42))))))) (K42_prrlrl cal k m1) (K42_pxrrlr cal k) (doneK P results42)) (Tr.set (Tr.set (Tr.set Tr.nil 5 (some u5)) 1 (some u1)) 0 (some u0)) H n []
noncomputable def R42_1 (m1:Nat):V3:=fun u0 u1 u5 H n=>codeF P cal m1 (Lv.a (Lv.b (Lv.a (Lv.b (Lv.b (A 42)))))) none 42 (cL (cR (cL (cR (cR code42))))) (K42_prr cal k) (K42_pxrrlr cal k) (doneK P results42) (Tr.set (Tr.set (Tr.set Tr.nil 5 (some u5)) 1 (some u1)) 0 (some u0)) H n []
noncomputable def B42_1 (cal:Cal) (k m1:Nat) (b1:V3) (u0 u1 u5:Value) (H:Hp) (n:Nat):Res:=
bindO (lenV P 27 u0) fun v_b=>
binK P BinOp.lss 3 (Operand.tmp 11) (Operand.tmp 13) u5 v_b fun v_c=>
ifK v_c (
bindO (indexAddrV P 27 u0 u5) fun v_f=>
bindO (addrV v_f) fun a_g=>bindO (loadV P H 3 a_g) fun v_h=>
bindO (indexAddrV P 27 u1 u5) fun v_k=>
bindO (addrV v_k) fun a_l=>bindO (loadV P H 3 a_l) fun v_m=>
binK P BinOp.neq 3 (Operand.tmp 20) (Operand.tmp 24) v_h v_m fun v_n=>
ifK v_n (
some ((Value.bool false),H,n)) (
binK P BinOp.add 3 (Operand.tmp 15) (Operand.const (Value.int IntKind.i64 1)) u5 (Value.int IntKind.i64 1) fun v_q=>
b1 u0 u1 v_q H n)) (
some ((Value.bool true),H,n))
noncomputable def C42_1 (m1:Nat):=B42_1 cal k m1
noncomputable def S42_1:Nat→V3:=recF (C42_1 cal k) (fun _ _ _ _ _=>none)
theorem h42_1 (m1:Nat):T42_1 cal k m1=C42_1 cal k m1 (R42_1 cal k m1):=by kernel_rfl
theorem q42_1 (m:Nat):T42_1 cal k m=S42_1 cal k m:=recS (h42_1 cal k) (by kernel_rfl) (fun m=>by kernel_rfl) m
noncomputable def B42_0 (cal:Cal) (k:Nat) (j1:V3) (v0 v1:Value) (H:Hp) (n:Nat):Res:=
bindO (lenV P 27 v0) fun v_3=>
bindO (lenV P 27 v1) fun v_5=>
binK P BinOp.neq 3 (Operand.tmp 7) (Operand.tmp 9) v_3 v_5 fun v_6=>
ifK v_6 (
some ((Value.bool false),H,n)) (
j1 v0 v1 (Value.int IntKind.i64 0) H n)
noncomputable def C42_0:=B42_0 cal k (S42_1 cal k k)
theorem h42_0 (v0 v1:Value) (H:Hp) (n:Nat):bodyE P cal A (k+1) 42 [v0,v1] H n=C42_0 cal k v0 v1 H n:=(bq Go.Proofs.Tryz.f42 code42 results42 (by kernel_rfl)).trans (Eq.trans (b:=B42_0 cal k (T42_1 cal k k) v0 v1 H n) (by kernel_rfl) (by rw[q42_1]; rfl))
noncomputable def code47:Code:=codeOf 47
noncomputable def results47:List ResultVar:=resOf 47
noncomputable def K47_prrr:KR:=(cutK (Lv.b (Lv.b (Lv.b (A 47)))).c (codeE P cal (codeF P cal k) none 47 (cR (cR (cR (cR code47)))) (Lv.b (Lv.b (Lv.b (Lv.b (A 47))))) (doneK P results47) X0 (doneK P results47)))
noncomputable def K47_pxrrrlr:XR:=(upX 0 (K47_prrr cal k) X0)
noncomputable def K47_prrrlrl (m1:Nat):KR:=(fun T H n D=>codeF P cal m1 (Lv.a (Lv.b (Lv.a (Lv.b (Lv.b (Lv.b (A 47))))))) none 47 (cL (cR (cL (cR (cR (cR code47)))))) (K47_prrr cal k) (K47_pxrrrlr cal k) (doneK P results47) (cutT (Lv.a (Lv.b (Lv.a (Lv.b (Lv.b (Lv.b (A 47))))))).c T) H n D)
noncomputable def K47_prrrlrllr (m1:Nat):KR:=(cutK (Lv.b (Lv.a (Lv.a (Lv.b (Lv.a (Lv.b (Lv.b (Lv.b (A 47))))))))).c (codeE P cal (codeF P cal m1) none 47 (cR (cR (cL (cL (cR (cL (cR (cR (cR code47))))))))) (Lv.b (Lv.b (Lv.a (Lv.a (Lv.b (Lv.a (Lv.b (Lv.b (Lv.b (A 47)))))))))) (K47_prrrlrl cal k m1) (K47_pxrrrlr cal k) (doneK P results47)))
noncomputable def K47_pxrrrlrllrl (m1:Nat):XR:=(upX 1 (K47_prrrlrllr cal k m1) (K47_pxrrrlr cal k))
noncomputable def T47_2 (m1:Nat):=fun(u0 u1 u2 u3:Value) (H:Hp) (n:Nat)=>labK (codeE P cal (codeF P cal m1) none 47 (cR (cR (cL (cL (cR (cL (cL (cR (cL (cR (cR (cR code47)))))))))))) (Lv.b (Lv.b (Lv.a (Lv.a (Lv.b (Lv.a (Lv.a (Lv.b (Lv.a (Lv.b (Lv.b (Lv.b (A 47))))))))))))) (K47_prrrlrllr cal k m1) (K47_pxrrrlrllrl cal k m1) (doneK P results47)) (Tr.set (Tr.set (Tr.set (Tr.set Tr.nil 3 (some u3)) 2 (some u2)) 1 (some u1)) 0 (some u0)) H n []
noncomputable def T47_1 (m1:Nat):=fun(u0 u1 u2 u3:Value) (H:Hp) (n:Nat)=>labK (codeE P cal (codeF P cal m1) none 47 (cL (cL (cR (cL (cR (cR (cR code47))))))) (Lv.a (Lv.a (Lv.b (Lv.a (Lv.b (Lv.b (Lv.b (A 47)))))))) (K47_prrrlrl cal k m1) (K47_pxrrrlr cal k) (doneK P results47)) (Tr.set (Tr.set (Tr.set (Tr.set Tr.nil 3 (some u3)) 2 (some u2)) 1 (some u1)) 0 (some u0)) H n []
noncomputable def R47_1 (m1:Nat):V4:=fun u0 u1 u2 u3 H n=>codeF P cal m1 (Lv.a (Lv.b (Lv.a (Lv.b (Lv.b (Lv.b (A 47))))))) none 47 (cL (cR (cL (cR (cR (cR code47)))))) (K47_prrr cal k) (K47_pxrrrlr cal k) (doneK P results47) (Tr.set (Tr.set (Tr.set (Tr.set Tr.nil 3 (some u3)) 2 (some u2)) 1 (some u1)) 0 (some u0)) H n []
noncomputable def B47_2 (cal:Cal) (k m1:Nat) (b1:V4) (u0 u1 u2 u3:Value) (H:Hp) (n:Nat):Res:=
bindO (fieldAddrV P 41 u2 1) fun v_10=>
bindO (addrV v_10) fun a_11=>bindO (loadV P H 27 a_11) fun v_12=>
bindO (rowOf P 27 1 [(0,u3)]) fun q_16=>newK q_16.1 q_16.2 H n fun H_14 n_15=>
bindO (fieldAddrV P 41 u2 2) fun v_17=>
bindO (addrV v_17) fun a_18=>bindO (loadV P H_14 27 a_18) fun v_19=>
binK P BinOp.add 3 (Operand.tmp 36) (Operand.const (Value.int IntKind.i64 1)) u3 (Value.int IntKind.i64 1) fun v_1b=>
bindO (rowOf P 27 1 [(0,v_1b)]) fun q_1e=>newK q_1e.1 q_1e.2 H_14 n_15 fun H_1c n_1d=>
effK P [(.a n_15 q_1e.1 q_1e.2),(.l 27 a_18)] H_1c n_1d (fun H_1f n_1g k_1h=>
stK (appendV P (bare H_1f n_1g) 27 27 v_12 (.slice (some ⟨n,0,none⟩) 1 1)) fun v_1l H_1m n_1n=>
k_1h v_1l H_1m n_1n) fun v_1i H_1j n_1k=>
bindO (fieldAddrV P 41 u2 1) fun v_1o=>
stK (appendV P (bare H_1j n_1k) 27 27 v_19 (.slice (some ⟨n_15,0,none⟩) 1 1)) fun v_1p H_1q n_1r=>
bindO (storeP P 27 v_1o v_1i H_1q) fun H_1t=>
bindO (fieldAddrV P 41 u2 2) fun v_1u=>
bindO (storeP P 27 v_1u v_1p H_1t) fun H_1w=>
binK P BinOp.add 3 (Operand.tmp 10) (Operand.const (Value.int IntKind.i64 1)) u3 (Value.int IntKind.i64 1) fun v_1y=>
b1 u0 u1 u2 v_1y H_1w n_1r
noncomputable def C47_2 (m1:Nat):=B47_2 cal k m1
theorem h47_2 (m1:Nat):T47_2 cal k m1=C47_2 cal k m1 (R47_1 cal k m1):=by kernel_rfl
noncomputable def B47_1 (cal:Cal) (k m1:Nat) (j2:V4) (b1:V4) (u0 u1 u2 u3:Value) (H:Hp) (n:Nat):Res:=
binK P BinOp.lss 3 (Operand.tmp 8) (Operand.const (Value.int IntKind.i64 5)) u3 (Value.int IntKind.i64 5) fun v_m=>
ifK v_m (
bindO (fieldAddrV P 39 u1 0) fun v_n=>
bindO (addrV v_n) fun a_p=>bindO (loadV P H 35 a_p) fun v_o=>
bindO (buildP P 124 []) fun v_q=>
rowK P 35 1 [(0,v_q)] H n fun v_r H_s n_t=>
stK (appendV P (bare H_s n_t) 35 35 v_o v_r) fun v_u H_v n_w=>
bindO (fieldAddrV P 39 u1 0) fun v_x=>
bindO (storeP P 35 v_x v_u H_v) fun H_z=>
binK P BinOp.gtr 3 (Operand.tmp 18) (Operand.const (Value.int IntKind.i64 0)) u3 (Value.int IntKind.i64 0) fun v_21=>
ifK v_21 (
bindO (fieldAddrV P 39 u1 1) fun v_22=>
bindO (addrV v_22) fun a_24=>bindO (loadV P H_z 36 a_24) fun v_23=>
binK P BinOp.sub 3 (Operand.tmp 22) (Operand.const (Value.int IntKind.i64 1)) u3 (Value.int IntKind.i64 1) fun v_26=>
bindO (buildP P 125 [(0,v_26),(1,u3)]) fun v_28=>
rowK P 36 1 [(0,v_28)] H_z n_w fun v_29 H_2a n_2b=>
stK (appendV P (bare H_2a n_2b) 36 36 v_23 v_29) fun v_2c H_2d n_2e=>
bindO (fieldAddrV P 39 u1 1) fun v_2f=>
bindO (storeP P 36 v_2f v_2c H_2d) fun H_2h=>
j2 u0 u1 u2 u3 H_2h n_2e) (
j2 u0 u1 u2 u3 H_z n_w)) (
bindO (addrV u1) fun a_2j=>bindO (loadV P H 39 a_2j) fun v_2i=>
bindO (fieldAddrV P 41 u2 0) fun v_2k=>
bindO (storeP P 39 v_2k v_2i H) fun H_2m=>
bindO (addrV u2) fun a_2o=>bindO (loadV P H_2m 41 a_2o) fun v_2n=>
bindO (storeP P 41 u0 v_2n H_2m) fun H_2q=>
bindO (resV P (Tr.set Tr.nil 0 (some u0)) H_2q results47) fun v_2r=>some (oneV v_2r,H_2q,n))
noncomputable def C47_1 (m1:Nat) (b1:V4):=B47_1 cal k m1 (C47_2 cal k m1 b1) b1
noncomputable def S47_1:Nat→V4:=recF (C47_1 cal k) (fun _ _ _ _ _ _=>none)
theorem h47_1 (m1:Nat):T47_1 cal k m1=C47_1 cal k m1 (R47_1 cal k m1):=Eq.trans (b:=B47_1 cal k m1 (T47_2 cal k m1) (R47_1 cal k m1)) (by kernel_rfl) (by rw[h47_2]; rfl)
theorem q47_1 (m:Nat):T47_1 cal k m=S47_1 cal k m:=recS (h47_1 cal k) (by kernel_rfl) (fun m=>by kernel_rfl) m
noncomputable def B47_0 (cal:Cal) (k:Nat) (j1:V4) (H:Hp) (n:Nat):Res:=
allocK P 41 H n fun v_1 H_2 n_3=>
bindO (buildP P 122 []) fun v_4=>
rowK P 37 1 [(0,v_4)] H_2 n_3 fun v_5 H_6 n_7=>
bindO (buildP P 39 [(2,v_5)]) fun v_8=>
allocK P 39 H_6 n_7 fun v_9 H_a n_b=>
bindO (storeP P 39 v_9 v_8 H_a) fun H_d=>
bindO (buildP P 41 []) fun v_e=>
allocK P 41 H_d n_b fun v_f H_g n_h=>
bindO (storeP P 41 v_f v_e H_g) fun H_j=>
j1 v_1 v_9 v_f (Value.int IntKind.i64 0) H_j n_h
noncomputable def C47_0:=B47_0 cal k (S47_1 cal k k) 
theorem h47_0 (H:Hp) (n:Nat):bodyE P cal A (k+1) 47 [] H n=C47_0 cal k  H n:=(bq Go.Proofs.Tryz.f47 code47 results47 (by kernel_rfl)).trans (Eq.trans (b:=B47_0 cal k (T47_1 cal k k)  H n) (by kernel_rfl) (by rw[q47_1]; rfl))
noncomputable def code48:Code:=codeOf 48
noncomputable def results48:List ResultVar:=resOf 48
noncomputable def B48_0 (cal:Cal) (k:Nat) (H:Hp) (n:Nat):Res:=
rowK P 27 2 [(0,(Value.int IntKind.i64 0)),(1,(Value.int IntKind.i64 1))] H n fun v_2 H_3 n_4=>
rowK P 27 2 [(0,(Value.int IntKind.i64 1)),(1,(Value.int IntKind.i64 2))] H_3 n_4 fun v_5 H_6 n_7=>
rowK P 27 2 [(0,(Value.int IntKind.i64 2)),(1,(Value.int IntKind.i64 3))] H_6 n_7 fun v_8 H_9 n_a=>
rowK P 27 2 [(0,(Value.int IntKind.i64 3)),(1,(Value.int IntKind.i64 4))] H_9 n_a fun v_b H_c n_d=>
rowK P 30 4 [(0,v_2),(1,v_5),(2,v_8),(3,v_b)] H_c n_d fun v_e H_f n_g=>
some (v_e,H_f,n_g)
noncomputable def C48_0:=B48_0 cal k 
theorem h48_0 (H:Hp) (n:Nat):bodyE P cal A (k+1) 48 [] H n=C48_0 cal k  H n:=(bq Go.Proofs.Tryz.f48 code48 results48 (by kernel_rfl)).trans (by kernel_rfl)
noncomputable def code49:Code:=codeOf 49
noncomputable def results49:List ResultVar:=resOf 49
noncomputable def K49_prr:KR:=(cutK (Lv.b (Lv.b (A 49))).c (codeE P cal (codeF P cal k) none 49 (cR (cR (cR code49))) (Lv.b (Lv.b (Lv.b (A 49)))) (doneK P results49) X0 (doneK P results49)))
noncomputable def B49_0 (cal:Cal) (k:Nat) (v0:Value) (H:Hp) (n:Nat):Res:=
boxK 41 v0 H n fun v_1 H_2 n_3=>
bindO (fieldAddrV P 41 v_1 0) fun v_5=>
bindO (addrV v_5) fun a_7=>bindO (loadV P H_2 39 a_7) fun v_6=>
callFK P cal 70 [v_6] H_2 n_3 fun v_8 H_9 n_a=>
binK P BinOp.neq 33 (Operand.tmp 7) (Operand.const (Value.int IntKind.i64 0)) v_8 (Value.int IntKind.i64 0) fun v_d=>
ifK v_d (
some (v_8,H_9,n_a)) (
bindO (addrV v_1) fun a_h=>bindO (loadV P H_9 41 a_h) fun v_g=>
bindO (fieldAddrV P 41 v_1 1) fun v_i=>
bindO (addrV v_i) fun a_k=>bindO (loadV P H_9 27 a_k) fun v_j=>
callFK P cal 71 [v_g,v_j] H_9 n_a fun v_l H_m n_n=>
bindO (pureSem P v_l (Op.unary UnOp.not v_l)) fun v_o=>
guardK v_o false (fun k_q=>
bindO (fieldAddrV P 41 v_1 2) fun v_u=>
k_q v_u H_m n_n) H_m n_n fun v_r H_s n_t=>
guardK v_o false (fun k_v=>
bindO (addrV v_r) fun a_10=>bindO (loadV P H_s 27 a_10) fun v_z=>
k_v v_z H_s n_t) H_s n_t fun v_w H_x n_y=>
guardK v_o false (fun k_11=>
bindO (lenV P 27 v_w) fun v_15=>
k_11 v_15 H_x n_y) H_x n_y fun v_12 H_13 n_14=>
guardK v_o false (fun k_16=>
bindO (fieldAddrV P 41 v_1 0) fun v_1a=>
k_16 v_1a H_13 n_14) H_13 n_14 fun v_17 H_18 n_19=>
guardK v_o false (fun k_1b=>
bindO (fieldAddrV P 39 v_17 0) fun v_1f=>
k_1b v_1f H_18 n_19) H_18 n_19 fun v_1c H_1d n_1e=>
guardK v_o false (fun k_1g=>
bindO (addrV v_1c) fun a_1l=>bindO (loadV P H_1d 35 a_1l) fun v_1k=>
k_1g v_1k H_1d n_1e) H_1d n_1e fun v_1h H_1i n_1j=>
guardK v_o false (fun k_1m=>
bindO (lenV P 35 v_1h) fun v_1q=>
k_1m v_1q H_1i n_1j) H_1i n_1j fun v_1n H_1o n_1p=>
guardK v_o false (fun k_1r=>
binK P BinOp.neq 3 (Operand.tmp 18) (Operand.tmp 22) v_12 v_1n fun v_1v=>
k_1r v_1v H_1o n_1p) H_1o n_1p fun v_1s H_1t n_1u=>
bindO (pickV v_o (Value.bool true) v_1s) fun v_1w=>
guardK v_1w false (fun k_1y=>
bindO (fieldAddrV P 41 v_1 2) fun v_22=>
k_1y v_22 H_1t n_1u) H_1t n_1u fun v_1z H_20 n_21=>
guardK v_1w false (fun k_23=>
bindO (addrV v_1z) fun a_28=>bindO (loadV P H_20 27 a_28) fun v_27=>
k_23 v_27 H_20 n_21) H_20 n_21 fun v_24 H_25 n_26=>
guardK v_1w false (fun k_29=>
callFK P cal 72 [v_24,(Value.func (.func 73) #[] #[])] H_25 n_26 fun v_2d H_2e n_2f=>
k_29 v_2d H_2e n_2f) H_25 n_26 fun v_2a H_2b n_2c=>
guardK v_1w false (fun k_2g=>
bindO (pureSem P v_2a (Op.unary UnOp.not v_2a)) fun v_2k=>
k_2g v_2k H_2b n_2c) H_2b n_2c fun v_2h H_2i n_2j=>
bindO (pickV v_1w (Value.bool true) v_2h) fun v_2l=>
ifK v_2l (
some ((Value.int IntKind.i64 1),H_2i,n_2j)) (
some ((Value.int IntKind.i64 0),H_2i,n_2j)))
noncomputable def C49_0:=B49_0 cal k
theorem h49_0 (v0:Value) (H:Hp) (n:Nat):bodyE P cal A (k+1) 49 [v0] H n=C49_0 cal k v0 H n:=(bq Go.Proofs.Tryz.f49 code49 results49 (by kernel_rfl)).trans (by kernel_rfl)
noncomputable def code51:Code:=codeOf 51
noncomputable def results51:List ResultVar:=resOf 51
noncomputable def K51_prrrrrr:KR:=(cutK (Lv.b (Lv.b (Lv.b (Lv.b (Lv.b (Lv.b (A 51))))))).c (codeE P cal (codeF P cal k) none 51 (cR (cR (cR (cR (cR (cR (cR code51))))))) (Lv.b (Lv.b (Lv.b (Lv.b (Lv.b (Lv.b (Lv.b (A 51)))))))) (doneK P results51) X0 (doneK P results51)))
noncomputable def K51_pxrrrrrrlr:XR:=(upX 0 (K51_prrrrrr cal k) X0)
noncomputable def K51_prrrrrrlrl (m1:Nat):KR:=(fun T H n D=>codeF P cal m1 (Lv.a (Lv.b (Lv.a (Lv.b (Lv.b (Lv.b (Lv.b (Lv.b (Lv.b (A 51)))))))))) none 51 (cL (cR (cL (cR (cR (cR (cR (cR (cR code51))))))))) (K51_prrrrrr cal k) (K51_pxrrrrrrlr cal k) (doneK P results51) (cutT (Lv.a (Lv.b (Lv.a (Lv.b (Lv.b (Lv.b (Lv.b (Lv.b (Lv.b (A 51)))))))))).c T) H n D)
noncomputable def T51_1 (m1:Nat):=fun(u7 u9 u34 u35 u36:Value) (H:Hp) (n:Nat)=>labK (codeE P cal (codeF P cal m1) none 51 (cL (cL (cR (cL (cR (cR (cR (cR (cR (cR code51)))))))))) (Lv.a (Lv.a (Lv.b (Lv.a (Lv.b (Lv.b (Lv.b (Lv.b (Lv.b (Lv.b (A 51))))))))))) (K51_prrrrrrlrl cal k m1) (K51_pxrrrrrrlr cal k) (doneK P results51)) (Tr.set (Tr.set (Tr.set (Tr.set (Tr.set Tr.nil 36 (some u36)) 35 (some u35)) 34 (some u34)) 9 (some u9)) 7 (some u7)) H n []
noncomputable def R51_1 (m1:Nat):V5:=fun u7 u9 u34 u35 u36 H n=>codeF P cal m1 (Lv.a (Lv.b (Lv.a (Lv.b (Lv.b (Lv.b (Lv.b (Lv.b (Lv.b (A 51)))))))))) none 51 (cL (cR (cL (cR (cR (cR (cR (cR (cR code51))))))))) (K51_prrrrrr cal k) (K51_pxrrrrrrlr cal k) (doneK P results51) (Tr.set (Tr.set (Tr.set (Tr.set (Tr.set Tr.nil 36 (some u36)) 35 (some u35)) 34 (some u34)) 9 (some u9)) 7 (some u7)) H n []
noncomputable def B51_1 (cal:Cal) (k m1:Nat) (b1:V5) (u7 u9 u34 u35 u36:Value) (H:Hp) (n:Nat):Res:=
binK P BinOp.lss 3 (Operand.tmp 36) (Operand.tmp 35) u36 u35 fun v_1g=>
ifK v_1g (
bindO (indexAddrV P 30 u34 u36) fun v_1i=>
bindO (addrV v_1i) fun a_1k=>bindO (loadV P H 27 a_1k) fun v_1j=>
callFK P cal 76 [v_1j] H n fun v_1q H_1r n_1s=>
bindO (indexAddrV P 93 u9 u36) fun v_1t=>
bindO (storeP P 101 v_1t v_1q H_1r) fun H_1v=>
binK P BinOp.add 3 (Operand.tmp 36) (Operand.const (Value.int IntKind.i64 1)) u36 (Value.int IntKind.i64 1) fun v_1w=>
b1 u7 u9 u34 u35 v_1w H_1v n_1s) (
some ((Value.tuple ⟨[u7,u9,(Value.int IntKind.i64 0)]⟩),H,n))
noncomputable def C51_1 (m1:Nat):=B51_1 cal k m1
noncomputable def S51_1:Nat→V5:=recF (C51_1 cal k) (fun _ _ _ _ _ _ _=>none)
theorem h51_1 (m1:Nat):T51_1 cal k m1=C51_1 cal k m1 (R51_1 cal k m1):=by kernel_rfl
theorem q51_1 (m:Nat):T51_1 cal k m=S51_1 cal k m:=recS (h51_1 cal k) (by kernel_rfl) (fun m=>by kernel_rfl) m
noncomputable def B51_0 (cal:Cal) (k:Nat) (j1:V5) (v0 v1:Value) (H:Hp) (n:Nat):Res:=
boxK 41 v0 H n fun v_1 H_2 n_3=>
bindO (addrV v_1) fun a_8=>bindO (loadV P H_2 41 a_8) fun v_7=>
callFK P cal 65 [v_7] H_2 n_3 fun v_9 H_a n_b=>
bindO (tupV v_9 0) fun v_d=>
bindO (tupV v_9 1) fun v_e=>
binK P BinOp.neq 33 (Operand.tmp 17) (Operand.const (Value.int IntKind.i64 0)) v_e (Value.int IntKind.i64 0) fun v_i=>
ifK v_i (
some ((Value.tuple ⟨[(Value.pointer none),(Value.slice none 0 0),v_e]⟩),H_a,n_b)) (
bindO (lenV P 30 v1) fun v_o=>
binK P BinOp.gtr 3 (Operand.tmp 21) (Operand.const (Value.int IntKind.i64 300)) v_o (Value.int IntKind.i64 300) fun v_p=>
ifK v_p (
some ((Value.tuple ⟨[(Value.pointer none),(Value.slice none 0 0),(Value.int IntKind.i64 3)]⟩),H_a,n_b)) (
bindO (nilV v_d) fun v_v=>
bindO (fieldAddrV P 104 v_v 0) fun v_w=>
bindO (addrV v_w) fun a_y=>bindO (loadV P H_a 41 a_y) fun v_x=>
callFK P cal 75 [v1,(Value.func (Fn.func 71) ⟨[v_x]⟩ ⟨[]⟩)] H_a n_b fun v_10 H_11 n_12=>
bindO (pureSem P v_10 (Op.unary UnOp.not v_10)) fun v_13=>
ifK v_13 (
some ((Value.tuple ⟨[(Value.pointer none),(Value.slice none 0 0),(Value.int IntKind.i64 2)]⟩),H_11,n_12)) (
bindO (lenV P 30 v1) fun v_18=>
stK (makeSliceP P 93 v_18 v_18 (bare H_11 n_12)) fun v_19 H_1a n_1b=>
bindO (lenV P 30 v1) fun v_1e=>
j1 v_d v_19 v1 v_1e (Value.int IntKind.i64 0) H_1a n_1b)))
noncomputable def C51_0:=B51_0 cal k (S51_1 cal k k)
theorem h51_0 (v0 v1:Value) (H:Hp) (n:Nat):bodyE P cal A (k+1) 51 [v0,v1] H n=C51_0 cal k v0 v1 H n:=(bq Go.Proofs.Tryz.f51 code51 results51 (by kernel_rfl)).trans (Eq.trans (b:=B51_0 cal k (T51_1 cal k k) v0 v1 H n) (by kernel_rfl) (by rw[q51_1]; rfl))
noncomputable def code52:Code:=codeOf 52
noncomputable def results52:List ResultVar:=resOf 52
noncomputable def K52_prr:KR:=(cutK (Lv.b (Lv.b (A 52))).c (codeE P cal (codeF P cal k) none 52 (cR (cR (cR code52))) (Lv.b (Lv.b (Lv.b (A 52)))) (doneK P results52) X0 (doneK P results52)))
noncomputable def K52_pxrrlr:XR:=(upX 0 (K52_prr cal k) X0)
noncomputable def K52_prrlrl (m1:Nat):KR:=(fun T H n D=>codeF P cal m1 (Lv.a (Lv.b (Lv.a (Lv.b (Lv.b (A 52)))))) none 52 (cL (cR (cL (cR (cR code52))))) (K52_prr cal k) (K52_pxrrlr cal k) (doneK P results52) (cutT (Lv.a (Lv.b (Lv.a (Lv.b (Lv.b (A 52)))))).c T) H n D)
noncomputable def T52_1 (m1:Nat):=fun(u3 u6 u7 u8:Value) (H:Hp) (n:Nat)=>labK (codeE P cal (codeF P cal m1) none 52 (cL (cL (cR (cL (cR (cR code52)))))) (Lv.a (Lv.a (Lv.b (Lv.a (Lv.b (Lv.b (A 52))))))) (K52_prrlrl cal k m1) (K52_pxrrlr cal k) (doneK P results52)) (Tr.set (Tr.set (Tr.set (Tr.set Tr.nil 8 (some u8)) 7 (some u7)) 6 (some u6)) 3 (some u3)) H n []
noncomputable def R52_1 (m1:Nat):V4:=fun u3 u6 u7 u8 H n=>codeF P cal m1 (Lv.a (Lv.b (Lv.a (Lv.b (Lv.b (A 52)))))) none 52 (cL (cR (cL (cR (cR code52))))) (K52_prr cal k) (K52_pxrrlr cal k) (doneK P results52) (Tr.set (Tr.set (Tr.set (Tr.set Tr.nil 8 (some u8)) 7 (some u7)) 6 (some u6)) 3 (some u3)) H n []
noncomputable def B52_1 (cal:Cal) (k m1:Nat) (b1:V4) (u3 u6 u7 u8:Value) (H:Hp) (n:Nat):Res:=
binK P BinOp.lss 3 (Operand.tmp 8) (Operand.tmp 7) u8 u7 fun v_6=>
ifK v_6 (
bindO (indexAddrV P 93 u6 u8) fun v_7=>
bindO (addrV v_7) fun a_9=>bindO (loadV P H 101 a_9) fun v_8=>
callFK P cal 77 [v_8] H n fun v_d H_e n_f=>
rowK P 30 1 [(0,v_d)] H_e n_f fun v_g H_h n_i=>
stK (appendV P (bare H_h n_i) 30 30 u3 v_g) fun v_j H_k n_l=>
binK P BinOp.add 3 (Operand.tmp 8) (Operand.const (Value.int IntKind.i64 1)) u8 (Value.int IntKind.i64 1) fun v_n=>
b1 v_j u6 u7 v_n H_k n_l) (
some (u3,H,n))
noncomputable def C52_1 (m1:Nat):=B52_1 cal k m1
noncomputable def S52_1:Nat→V4:=recF (C52_1 cal k) (fun _ _ _ _ _ _=>none)
theorem h52_1 (m1:Nat):T52_1 cal k m1=C52_1 cal k m1 (R52_1 cal k m1):=by kernel_rfl
theorem q52_1 (m:Nat):T52_1 cal k m=S52_1 cal k m:=recS (h52_1 cal k) (by kernel_rfl) (fun m=>by kernel_rfl) m
noncomputable def B52_0 (cal:Cal) (k:Nat) (j1:V4) (v0:Value) (H:Hp) (n:Nat):Res:=
bindO (lenV P 93 v0) fun v_4=>
j1 (Value.slice none 0 0) v0 v_4 (Value.int IntKind.i64 0) H n
noncomputable def C52_0:=B52_0 cal k (S52_1 cal k k)
theorem h52_0 (v0:Value) (H:Hp) (n:Nat):bodyE P cal A (k+1) 52 [v0] H n=C52_0 cal k v0 H n:=(bq Go.Proofs.Tryz.f52 code52 results52 (by kernel_rfl)).trans (Eq.trans (b:=B52_0 cal k (T52_1 cal k k) v0 H n) (by kernel_rfl) (by rw[q52_1]; rfl))
noncomputable def code53:Code:=codeOf 53
noncomputable def results53:List ResultVar:=resOf 53
noncomputable def K53_prr:KR:=(cutK (Lv.b (Lv.b (A 53))).c (codeE P cal (codeF P cal k) none 53 (cR (cR (cR code53))) (Lv.b (Lv.b (Lv.b (A 53)))) (doneK P results53) X0 (doneK P results53)))
noncomputable def K53_pxrrlr:XR:=(upX 0 (K53_prr cal k) X0)
noncomputable def K53_prrlrl (m1:Nat):KR:=(fun T H n D=>codeF P cal m1 (Lv.a (Lv.b (Lv.a (Lv.b (Lv.b (A 53)))))) none 53 (cL (cR (cL (cR (cR code53))))) (K53_prr cal k) (K53_pxrrlr cal k) (doneK P results53) (cutT (Lv.a (Lv.b (Lv.a (Lv.b (Lv.b (A 53)))))).c T) H n D)
noncomputable def T53_1 (m1:Nat):=fun(u0 u5 u15 u16 u17:Value) (H:Hp) (n:Nat)=>labK (codeE P cal (codeF P cal m1) none 53 (cL (cL (cR (cL (cR (cR code53)))))) (Lv.a (Lv.a (Lv.b (Lv.a (Lv.b (Lv.b (A 53))))))) (K53_prrlrl cal k m1) (K53_pxrrlr cal k) (doneK P results53)) (Tr.set (Tr.set (Tr.set (Tr.set (Tr.set Tr.nil 17 (some u17)) 16 (some u16)) 15 (some u15)) 5 (some u5)) 0 (some u0)) H n []
noncomputable def R53_1 (m1:Nat):V5:=fun u0 u5 u15 u16 u17 H n=>codeF P cal m1 (Lv.a (Lv.b (Lv.a (Lv.b (Lv.b (A 53)))))) none 53 (cL (cR (cL (cR (cR code53))))) (K53_prr cal k) (K53_pxrrlr cal k) (doneK P results53) (Tr.set (Tr.set (Tr.set (Tr.set (Tr.set Tr.nil 17 (some u17)) 16 (some u16)) 15 (some u15)) 5 (some u5)) 0 (some u0)) H n []
noncomputable def B53_1 (cal:Cal) (k m1:Nat) (b1:V5) (u0 u5 u15 u16 u17:Value) (H:Hp) (n:Nat):Res:=
binK P BinOp.lss 3 (Operand.tmp 17) (Operand.tmp 16) u17 u16 fun v_i=>
ifK v_i (
bindO (indexAddrV P 93 u15 u17) fun v_k=>
bindO (addrV v_k) fun a_m=>bindO (loadV P H 101 a_m) fun v_l=>
bindO (indexAddrV P 93 u5 u17) fun v_t=>
bindO (addrV v_t) fun a_v=>bindO (loadV P H 101 a_v) fun v_u=>
callFK P cal 78 [u0,v_u] H n fun v_w H_x n_y=>
callFK P cal 79 [v_w,v_l] H_x n_y fun v_10 H_11 n_12=>
rowK P 93 1 [(0,v_10)] H_11 n_12 fun v_13 H_14 n_15=>
stK (appendV P (bare H_14 n_15) 93 93 u5 v_13) fun v_16 H_17 n_18=>
binK P BinOp.add 3 (Operand.tmp 17) (Operand.const (Value.int IntKind.i64 1)) u17 (Value.int IntKind.i64 1) fun v_1a=>
b1 u0 v_16 u15 u16 v_1a H_17 n_18) (
some (u5,H,n))
noncomputable def C53_1 (m1:Nat):=B53_1 cal k m1
noncomputable def S53_1:Nat→V5:=recF (C53_1 cal k) (fun _ _ _ _ _ _ _=>none)
theorem h53_1 (m1:Nat):T53_1 cal k m1=C53_1 cal k m1 (R53_1 cal k m1):=by kernel_rfl
theorem q53_1 (m:Nat):T53_1 cal k m=S53_1 cal k m:=recS (h53_1 cal k) (by kernel_rfl) (fun m=>by kernel_rfl) m
noncomputable def B53_0 (cal:Cal) (k:Nat) (j1:V5) (v0 v1:Value) (H:Hp) (n:Nat):Res:=
bindO (nilV v0) fun v_3=>
bindO (fieldAddrV P 104 v_3 0) fun v_4=>
bindO (fieldAddrV P 41 v_4 1) fun v_5=>
bindO (addrV v_5) fun a_7=>bindO (loadV P H 27 a_7) fun v_6=>
callFK P cal 76 [v_6] H n fun v_8 H_9 n_a=>
rowK P 93 1 [(0,v_8)] H_9 n_a fun v_b H_c n_d=>
bindO (lenV P 93 v1) fun v_g=>
j1 v0 v_b v1 v_g (Value.int IntKind.i64 0) H_c n_d
noncomputable def C53_0:=B53_0 cal k (S53_1 cal k k)
theorem h53_0 (v0 v1:Value) (H:Hp) (n:Nat):bodyE P cal A (k+1) 53 [v0,v1] H n=C53_0 cal k v0 v1 H n:=(bq Go.Proofs.Tryz.f53 code53 results53 (by kernel_rfl)).trans (Eq.trans (b:=B53_0 cal k (T53_1 cal k k) v0 v1 H n) (by kernel_rfl) (by rw[q53_1]; rfl))
noncomputable def code57:Code:=codeOf 57
noncomputable def results57:List ResultVar:=resOf 57
noncomputable def K57_prrrr:KR:=(cutK (Lv.b (Lv.b (Lv.b (Lv.b (A 57))))).c (codeE P cal (codeF P cal k) none 57 (cR (cR (cR (cR (cR code57))))) (Lv.b (Lv.b (Lv.b (Lv.b (Lv.b (A 57)))))) (doneK P results57) X0 (doneK P results57)))
noncomputable def K57_pxrrrrlr:XR:=(upX 0 (K57_prrrr cal k) X0)
noncomputable def K57_prrrrlrl (m1:Nat):KR:=(fun T H n D=>codeF P cal m1 (Lv.a (Lv.b (Lv.a (Lv.b (Lv.b (Lv.b (Lv.b (A 57)))))))) none 57 (cL (cR (cL (cR (cR (cR (cR code57))))))) (K57_prrrr cal k) (K57_pxrrrrlr cal k) (doneK P results57) (cutT (Lv.a (Lv.b (Lv.a (Lv.b (Lv.b (Lv.b (Lv.b (A 57)))))))).c T) H n D)
noncomputable def T57_1:=fun(u6:Value) (H:Hp) (n:Nat)=>labK (codeE P cal (codeF P cal k) none 57 (cR (cR (cR (cR (cR code57))))) (Lv.b (Lv.b (Lv.b (Lv.b (Lv.b (A 57)))))) (doneK P results57) X0 (doneK P results57)) (Tr.set Tr.nil 6 (some u6)) H n []
noncomputable def T57_2 (m1:Nat):=fun(u0 u5 u6 u7 u20 u21 u22:Value) (H:Hp) (n:Nat)=>labK (codeE P cal (codeF P cal m1) none 57 (cL (cL (cR (cL (cR (cR (cR (cR code57)))))))) (Lv.a (Lv.a (Lv.b (Lv.a (Lv.b (Lv.b (Lv.b (Lv.b (A 57))))))))) (K57_prrrrlrl cal k m1) (K57_pxrrrrlr cal k) (doneK P results57)) (Tr.set (Tr.set (Tr.set (Tr.set (Tr.set (Tr.set (Tr.set Tr.nil 22 (some u22)) 21 (some u21)) 20 (some u20)) 7 (some u7)) 6 (some u6)) 5 (some u5)) 0 (some u0)) H n []
noncomputable def R57_2 (m1:Nat):V7:=fun u0 u5 u6 u7 u20 u21 u22 H n=>codeF P cal m1 (Lv.a (Lv.b (Lv.a (Lv.b (Lv.b (Lv.b (Lv.b (A 57)))))))) none 57 (cL (cR (cL (cR (cR (cR (cR code57))))))) (K57_prrrr cal k) (K57_pxrrrrlr cal k) (doneK P results57) (Tr.set (Tr.set (Tr.set (Tr.set (Tr.set (Tr.set (Tr.set Tr.nil 22 (some u22)) 21 (some u21)) 20 (some u20)) 7 (some u7)) 6 (some u6)) 5 (some u5)) 0 (some u0)) H n []
noncomputable def B57_1 (cal:Cal) (k:Nat) (u6:Value) (H:Hp) (n:Nat):Res:=
some (u6,H,n)
noncomputable def C57_1:=B57_1 cal k
theorem h57_1:T57_1 cal k=C57_1 cal k:=by kernel_rfl
noncomputable def B57_2 (cal:Cal) (k m1:Nat) (j1:V1) (b2:V7) (u0 u5 u6 u7 u20 u21 u22:Value) (H:Hp) (n:Nat):Res:=
binK P BinOp.lss 3 (Operand.tmp 22) (Operand.tmp 21) u22 u21 fun v_s=>
ifK v_s (
bindO (indexAddrV P 93 u20 u22) fun v_u=>
bindO (addrV v_u) fun a_w=>bindO (loadV P H 101 a_w) fun v_v=>
allocK P 3 H n fun v_x H_y n_z=>
bindO (storeP P 3 v_x u22 H_y) fun H_11=>
binK P BinOp.eql 101 (Operand.tmp 27) (Operand.const (Value.int IntKind.u64 0)) u7 (Value.int IntKind.u64 0) fun v_14=>
ifK v_14 (
j1 u6 H_11 n_z) (
callFK P cal 77 [u7] H_11 n_z fun v_16 H_17 n_18=>
callFK P cal 83 [v_16,(Value.func (Fn.func 84) ⟨[]⟩ ⟨[u5,v_x]⟩)] H_17 n_18 fun v_1a H_1b n_1c=>
rowK P 27 1 [(0,v_1a)] H_1b n_1c fun v_1g H_1h n_1i=>
stK (appendV P (bare H_1h n_1i) 27 27 u6 v_1g) fun v_1j H_1k n_1l=>
rowK P 27 1 [(0,v_1a)] H_1k n_1l fun v_1p H_1q n_1r=>
callFK P cal 76 [v_1p] H_1q n_1r fun v_1s H_1t n_1u=>
callFK P cal 78 [u0,v_1s] H_1t n_1u fun v_1v H_1w n_1x=>
callFK P cal 79 [v_1v,v_v] H_1w n_1x fun v_1z H_20 n_21=>
binK P BinOp.add 3 (Operand.tmp 22) (Operand.const (Value.int IntKind.i64 1)) u22 (Value.int IntKind.i64 1) fun v_23=>
b2 u0 u5 v_1j v_1z u20 u21 v_23 H_20 n_21)) (
j1 u6 H n)
noncomputable def C57_2 (m1:Nat):=B57_2 cal k m1 (C57_1 cal k)
noncomputable def S57_2:Nat→V7:=recF (C57_2 cal k) (fun _ _ _ _ _ _ _ _ _=>none)
theorem h57_2 (m1:Nat):T57_2 cal k m1=C57_2 cal k m1 (R57_2 cal k m1):=Eq.trans (b:=B57_2 cal k m1 (T57_1 cal k) (R57_2 cal k m1)) (by kernel_rfl) (by rw[h57_1]; rfl)
theorem q57_2 (m:Nat):T57_2 cal k m=S57_2 cal k m:=recS (h57_2 cal k) (by kernel_rfl) (fun m=>by kernel_rfl) m
noncomputable def B57_0 (cal:Cal) (k:Nat) (j2:V7) (v0 v1:Value) (H:Hp) (n:Nat):Res:=
callFK P cal 82 [v0,v1] H n fun v_4 H_5 n_6=>
allocK P 141 H_5 n_6 fun v_7 H_8 n_9=>
bindO (storeP P 141 v_7 v_4 H_8) fun H_b=>
bindO (nilV v0) fun v_e=>
bindO (fieldAddrV P 104 v_e 0) fun v_f=>
bindO (fieldAddrV P 41 v_f 1) fun v_g=>
bindO (addrV v_g) fun a_i=>bindO (loadV P H_b 27 a_i) fun v_h=>
callFK P cal 76 [v_h] H_b n_9 fun v_j H_k n_l=>
bindO (lenV P 93 v1) fun v_q=>
j2 v0 v_7 (Value.slice none 0 0) v_j v1 v_q (Value.int IntKind.i64 0) H_k n_l
noncomputable def C57_0:=B57_0 cal k (S57_2 cal k k)
theorem h57_0 (v0 v1:Value) (H:Hp) (n:Nat):bodyE P cal A (k+1) 57 [v0,v1] H n=C57_0 cal k v0 v1 H n:=(bq Go.Proofs.Tryz.f57 code57 results57 (by kernel_rfl)).trans (Eq.trans (b:=B57_0 cal k (T57_2 cal k k) v0 v1 H n) (by kernel_rfl) (by rw[q57_2]; rfl))
end Go.Proofs.YtkmjgabdaikomaaGreat.G
end
end
section
open Go Go.Ev
set_option maxRecDepth 1000000
noncomputable section
namespace Go.Proofs.YtkmjgabdaikomaaGreat.G
variable (cal:Cal) (k:Nat)
noncomputable def code58:Code:=codeOf 58
noncomputable def results58:List ResultVar:=resOf 58
noncomputable def K58_prr:KR:=(cutK (Lv.b (Lv.b (A 58))).c (codeE P cal (codeF P cal k) none 58 (cR (cR (cR code58))) (Lv.b (Lv.b (Lv.b (A 58)))) (doneK P results58) X0 (doneK P results58)))
noncomputable def K58_pxrrlr:XR:=(upX 0 (K58_prr cal k) X0)
noncomputable def K58_prrlrl (m1:Nat):KR:=(fun T H n D=>codeF P cal m1 (Lv.a (Lv.b (Lv.a (Lv.b (Lv.b (A 58)))))) none 58 (cL (cR (cL (cR (cR code58))))) (K58_prr cal k) (K58_pxrrlr cal k) (doneK P results58) (cutT (Lv.a (Lv.b (Lv.a (Lv.b (Lv.b (A 58)))))).c T) H n D)
noncomputable def T58_1 (m1:Nat):=fun(u0 u5 u8 u9 u10:Value) (H:Hp) (n:Nat)=>labK (codeE P cal (codeF P cal m1) none 58 (cL (cL (cR (cL (cR (cR code58)))))) (Lv.a (Lv.a (Lv.b (Lv.a (Lv.b (Lv.b (A 58))))))) (K58_prrlrl cal k m1) (K58_pxrrlr cal k) (doneK P results58)) (Tr.set (Tr.set (Tr.set (Tr.set (Tr.set Tr.nil 10 (some u10)) 9 (some u9)) 8 (some u8)) 5 (some u5)) 0 (some u0)) H n []
noncomputable def R58_1 (m1:Nat):V5:=fun u0 u5 u8 u9 u10 H n=>codeF P cal m1 (Lv.a (Lv.b (Lv.a (Lv.b (Lv.b (A 58)))))) none 58 (cL (cR (cL (cR (cR code58))))) (K58_prr cal k) (K58_pxrrlr cal k) (doneK P results58) (Tr.set (Tr.set (Tr.set (Tr.set (Tr.set Tr.nil 10 (some u10)) 9 (some u9)) 8 (some u8)) 5 (some u5)) 0 (some u0)) H n []
noncomputable def B58_1 (cal:Cal) (k m1:Nat) (b1:V5) (u0 u5 u8 u9 u10:Value) (H:Hp) (n:Nat):Res:=
binK P BinOp.lss 3 (Operand.tmp 10) (Operand.tmp 9) u10 u9 fun v_6=>
ifK v_6 (
bindO (indexAddrV P 27 u8 u10) fun v_7=>
bindO (addrV v_7) fun a_9=>bindO (loadV P H 3 a_9) fun v_8=>
bindO (nilV u0) fun v_d=>
bindO (fieldAddrV P 104 v_d 0) fun v_e=>
bindO (fieldAddrV P 41 v_e 2) fun v_f=>
bindO (addrV v_f) fun a_h=>bindO (loadV P H 27 a_h) fun v_g=>
bindO (indexAddrV P 27 v_g v_8) fun v_j=>
bindO (addrV v_j) fun a_l=>bindO (loadV P H 3 a_l) fun v_k=>
binK P BinOp.add 3 (Operand.tmp 14) (Operand.tmp 22) u5 v_k fun v_m=>
binK P BinOp.add 3 (Operand.tmp 10) (Operand.const (Value.int IntKind.i64 1)) u10 (Value.int IntKind.i64 1) fun v_o=>
b1 u0 v_m u8 u9 v_o H n) (
some (u5,H,n))
noncomputable def C58_1 (m1:Nat):=B58_1 cal k m1
noncomputable def S58_1:Nat→V5:=recF (C58_1 cal k) (fun _ _ _ _ _ _ _=>none)
theorem h58_1 (m1:Nat):T58_1 cal k m1=C58_1 cal k m1 (R58_1 cal k m1):=by kernel_rfl
theorem q58_1 (m:Nat):T58_1 cal k m=S58_1 cal k m:=recS (h58_1 cal k) (by kernel_rfl) (fun m=>by kernel_rfl) m
noncomputable def B58_0 (cal:Cal) (k:Nat) (j1:V5) (v0 v1:Value) (H:Hp) (n:Nat):Res:=
bindO (lenV P 27 v1) fun v_4=>
j1 v0 (Value.int IntKind.i64 0) v1 v_4 (Value.int IntKind.i64 0) H n
noncomputable def C58_0:=B58_0 cal k (S58_1 cal k k)
theorem h58_0 (v0 v1:Value) (H:Hp) (n:Nat):bodyE P cal A (k+1) 58 [v0,v1] H n=C58_0 cal k v0 v1 H n:=(bq Go.Proofs.Tryz.f58 code58 results58 (by kernel_rfl)).trans (Eq.trans (b:=B58_0 cal k (T58_1 cal k k) v0 v1 H n) (by kernel_rfl) (by rw[q58_1]; rfl))
noncomputable def code65:Code:=codeOf 65
noncomputable def results65:List ResultVar:=resOf 65
noncomputable def K65_prrr:KR:=(cutK (Lv.b (Lv.b (Lv.b (A 65)))).c (codeE P cal (codeF P cal k) none 65 (cR (cR (cR (cR code65)))) (Lv.b (Lv.b (Lv.b (Lv.b (A 65))))) (doneK P results65) X0 (doneK P results65)))
noncomputable def K65_pxrrrlr:XR:=(upX 0 (K65_prrr cal k) X0)
noncomputable def K65_prrrlrl (m1:Nat):KR:=(fun T H n D=>codeF P cal m1 (Lv.a (Lv.b (Lv.a (Lv.b (Lv.b (Lv.b (A 65))))))) none 65 (cL (cR (cL (cR (cR (cR code65)))))) (K65_prrr cal k) (K65_pxrrrlr cal k) (doneK P results65) (cutT (Lv.a (Lv.b (Lv.a (Lv.b (Lv.b (Lv.b (A 65))))))).c T) H n D)
noncomputable def K65_prrrr:KR:=(cutK (Lv.b (Lv.b (Lv.b (Lv.b (A 65))))).c (codeE P cal (codeF P cal k) none 65 (cR (cR (cR (cR (cR code65))))) (Lv.b (Lv.b (Lv.b (Lv.b (Lv.b (A 65)))))) (doneK P results65) X0 (doneK P results65)))
noncomputable def K65_pxrrrrlr:XR:=(upX 2 (K65_prrrr cal k) X0)
noncomputable def K65_prrrrlrl (m1:Nat):KR:=(fun T H n D=>codeF P cal m1 (Lv.a (Lv.b (Lv.a (Lv.b (Lv.b (Lv.b (Lv.b (A 65)))))))) none 65 (cL (cR (cL (cR (cR (cR (cR code65))))))) (K65_prrrr cal k) (K65_pxrrrrlr cal k) (doneK P results65) (cutT (Lv.a (Lv.b (Lv.a (Lv.b (Lv.b (Lv.b (Lv.b (A 65)))))))).c T) H n D)
noncomputable def T65_2 (m1:Nat):=fun(u5 u40 u41 u42:Value) (H:Hp) (n:Nat)=>labK (codeE P cal (codeF P cal m1) none 65 (cL (cL (cR (cL (cR (cR (cR (cR code65)))))))) (Lv.a (Lv.a (Lv.b (Lv.a (Lv.b (Lv.b (Lv.b (Lv.b (A 65))))))))) (K65_prrrrlrl cal k m1) (K65_pxrrrrlr cal k) (doneK P results65)) (Tr.set (Tr.set (Tr.set (Tr.set Tr.nil 42 (some u42)) 41 (some u41)) 40 (some u40)) 5 (some u5)) H n []
noncomputable def R65_2 (m1:Nat):V4:=fun u5 u40 u41 u42 H n=>codeF P cal m1 (Lv.a (Lv.b (Lv.a (Lv.b (Lv.b (Lv.b (Lv.b (A 65)))))))) none 65 (cL (cR (cL (cR (cR (cR (cR code65))))))) (K65_prrrr cal k) (K65_pxrrrrlr cal k) (doneK P results65) (Tr.set (Tr.set (Tr.set (Tr.set Tr.nil 42 (some u42)) 41 (some u41)) 40 (some u40)) 5 (some u5)) H n []
noncomputable def T65_1 (m1:Nat):=fun(u5 u22 u23:Value) (H:Hp) (n:Nat)=>labK (codeE P cal (codeF P cal m1) none 65 (cL (cL (cR (cL (cR (cR (cR code65))))))) (Lv.a (Lv.a (Lv.b (Lv.a (Lv.b (Lv.b (Lv.b (A 65)))))))) (K65_prrrlrl cal k m1) (K65_pxrrrlr cal k) (doneK P results65)) (Tr.set (Tr.set (Tr.set Tr.nil 23 (some u23)) 22 (some u22)) 5 (some u5)) H n []
noncomputable def R65_1 (m1:Nat):V3:=fun u5 u22 u23 H n=>codeF P cal m1 (Lv.a (Lv.b (Lv.a (Lv.b (Lv.b (Lv.b (A 65))))))) none 65 (cL (cR (cL (cR (cR (cR code65)))))) (K65_prrr cal k) (K65_pxrrrlr cal k) (doneK P results65) (Tr.set (Tr.set (Tr.set Tr.nil 23 (some u23)) 22 (some u22)) 5 (some u5)) H n []
noncomputable def B65_2 (cal:Cal) (k m1:Nat) (b2:V4) (u5 u40 u41 u42:Value) (H:Hp) (n:Nat):Res:=
binK P BinOp.lss 3 (Operand.tmp 42) (Operand.tmp 41) u42 u41 fun v_1o=>
ifK v_1o (
bindO (indexAddrV P 36 u40 u42) fun v_1p=>
bindO (addrV v_1p) fun a_1r=>bindO (loadV P H 125 a_1r) fun v_1q=>
allocK P 125 H n fun v_1s H_1t n_1u=>
bindO (storeP P 125 v_1s v_1q H_1t) fun H_1w=>
bindO (fieldAddrV P 125 v_1s 0) fun v_1y=>
bindO (addrV v_1y) fun a_1z=>bindO (loadV P H_1w 3 a_1z) fun v_20=>
bindO (nilV u5) fun v_21=>
bindO (fieldAddrV P 104 v_21 1) fun v_22=>
bindO (indexAddrV P 102 v_22 v_20) fun v_23=>
bindO (addrV v_23) fun a_24=>bindO (loadV P H_1w 101 a_24) fun v_25=>
bindO (fieldAddrV P 125 v_1s 1) fun v_26=>
bindO (addrV v_26) fun a_27=>bindO (loadV P H_1w 3 a_27) fun v_28=>
bindO (rowOf P 27 1 [(0,v_28)]) fun q_2b=>newK q_2b.1 q_2b.2 H_1w n_1u fun H_29 n_2a=>
bindO (nilV u5) fun v_2c=>
bindO (fieldAddrV P 104 v_2c 1) fun v_2d=>
effK P [(.l 101 a_24),(.l 3 a_1z)] H_29 n_2a (fun H_2e n_2f k_2g=>
callFK P cal 76 [(.slice (some ⟨n_1u,0,none⟩) 1 1)] H_2e n_2f fun v_2k H_2l n_2m=>
k_2g v_2k H_2l n_2m) fun v_2h H_2i n_2j=>
binK P BinOp.or 101 (Operand.tmp 52) (Operand.tmp 56) v_25 v_2h fun v_2n=>
bindO (indexAddrV P 102 v_2d v_20) fun v_2o=>
bindO (storeP P 101 v_2o v_2n H_2i) fun H_2q=>
bindO (fieldAddrV P 125 v_1s 1) fun v_2s=>
bindO (addrV v_2s) fun a_2t=>bindO (loadV P H_2q 3 a_2t) fun v_2u=>
bindO (nilV u5) fun v_2v=>
bindO (fieldAddrV P 104 v_2v 1) fun v_2w=>
bindO (indexAddrV P 102 v_2w v_2u) fun v_2x=>
bindO (addrV v_2x) fun a_2y=>bindO (loadV P H_2q 101 a_2y) fun v_2z=>
bindO (fieldAddrV P 125 v_1s 0) fun v_30=>
bindO (addrV v_30) fun a_31=>bindO (loadV P H_2q 3 a_31) fun v_32=>
bindO (rowOf P 27 1 [(0,v_32)]) fun q_35=>newK q_35.1 q_35.2 H_2q n_2j fun H_33 n_34=>
bindO (nilV u5) fun v_36=>
bindO (fieldAddrV P 104 v_36 1) fun v_37=>
effK P [(.l 101 a_2y),(.l 3 a_2t)] H_33 n_34 (fun H_38 n_39 k_3a=>
callFK P cal 76 [(.slice (some ⟨n_2j,0,none⟩) 1 1)] H_38 n_39 fun v_3e H_3f n_3g=>
k_3a v_3e H_3f n_3g) fun v_3b H_3c n_3d=>
binK P BinOp.or 101 (Operand.tmp 67) (Operand.tmp 71) v_2z v_3b fun v_3h=>
bindO (indexAddrV P 102 v_37 v_2u) fun v_3i=>
bindO (storeP P 101 v_3i v_3h H_3c) fun H_3k=>
binK P BinOp.add 3 (Operand.tmp 42) (Operand.const (Value.int IntKind.i64 1)) u42 (Value.int IntKind.i64 1) fun v_3l=>
b2 u5 u40 u41 v_3l H_3k n_3d) (
some ((Value.tuple ⟨[u5,(Value.int IntKind.i64 0)]⟩),H,n))
noncomputable def C65_2 (m1:Nat):=B65_2 cal k m1
noncomputable def S65_2:Nat→V4:=recF (C65_2 cal k) (fun _ _ _ _ _ _=>none)
theorem h65_2 (m1:Nat):T65_2 cal k m1=C65_2 cal k m1 (R65_2 cal k m1):=by kernel_rfl
theorem q65_2 (m:Nat):T65_2 cal k m=S65_2 cal k m:=recS (h65_2 cal k) (by kernel_rfl) (fun m=>by kernel_rfl) m
noncomputable def B65_1 (cal:Cal) (k m1:Nat) (j2:V4) (b1:V3) (u5 u22 u23:Value) (H:Hp) (n:Nat):Res:=
binK P BinOp.lss 3 (Operand.tmp 23) (Operand.tmp 22) u23 u22 fun v_w=>
ifK v_w (
bindO (rowOf P 27 1 [(0,u23)]) fun q_14=>newK q_14.1 q_14.2 H n fun H_12 n_13=>
bindO (nilV u5) fun v_15=>
bindO (fieldAddrV P 104 v_15 1) fun v_16=>
callFK P cal 76 [(.slice (some ⟨n,0,none⟩) 1 1)] H_12 n_13 fun v_17 H_18 n_19=>
bindO (indexAddrV P 102 v_16 u23) fun v_1a=>
bindO (storeP P 101 v_1a v_17 H_18) fun H_1c=>
binK P BinOp.add 3 (Operand.tmp 23) (Operand.const (Value.int IntKind.i64 1)) u23 (Value.int IntKind.i64 1) fun v_1d=>
b1 u5 u22 v_1d H_1c n_19) (
bindO (nilV u5) fun v_1g=>
bindO (fieldAddrV P 104 v_1g 0) fun v_1h=>
bindO (fieldAddrV P 41 v_1h 0) fun v_1i=>
bindO (fieldAddrV P 39 v_1i 1) fun v_1j=>
bindO (addrV v_1j) fun a_1l=>bindO (loadV P H 36 a_1l) fun v_1k=>
bindO (lenV P 36 v_1k) fun v_1m=>
j2 u5 v_1k v_1m (Value.int IntKind.i64 0) H n)
noncomputable def C65_1 (m1:Nat):=B65_1 cal k m1 (S65_2 cal k k)
noncomputable def S65_1:Nat→V3:=recF (C65_1 cal k) (fun _ _ _ _ _=>none)
theorem h65_1 (m1:Nat):T65_1 cal k m1=C65_1 cal k m1 (R65_1 cal k m1):=Eq.trans (b:=B65_1 cal k m1 (T65_2 cal k k) (R65_1 cal k m1)) (by kernel_rfl) (by rw[q65_2]; rfl)
theorem q65_1 (m:Nat):T65_1 cal k m=S65_1 cal k m:=recS (h65_1 cal k) (by kernel_rfl) (fun m=>by kernel_rfl) m
noncomputable def B65_0 (cal:Cal) (k:Nat) (j1:V3) (v0:Value) (H:Hp) (n:Nat):Res:=
boxK 41 v0 H n fun v_1 H_2 n_3=>
bindO (addrV v_1) fun a_7=>bindO (loadV P H_2 41 a_7) fun v_6=>
callFK P cal 49 [v_6] H_2 n_3 fun v_8 H_9 n_a=>
binK P BinOp.neq 33 (Operand.tmp 11) (Operand.const (Value.int IntKind.i64 0)) v_8 (Value.int IntKind.i64 0) fun v_d=>
ifK v_d (
some ((Value.tuple ⟨[(Value.pointer none),v_8]⟩),H_9,n_a)) (
bindO (addrV v_1) fun a_i=>bindO (loadV P H_9 41 a_i) fun v_h=>
bindO (buildP P 104 [(0,v_h)]) fun v_j=>
boxK 104 v_j H_9 n_a fun v_k H_l n_m=>
bindO (nilV v_k) fun v_p=>
bindO (fieldAddrV P 104 v_p 0) fun v_q=>
bindO (fieldAddrV P 41 v_q 2) fun v_r=>
bindO (addrV v_r) fun a_t=>bindO (loadV P H_l 27 a_t) fun v_s=>
bindO (lenV P 27 v_s) fun v_u=>
j1 v_k v_u (Value.int IntKind.i64 0) H_l n_m)
noncomputable def C65_0:=B65_0 cal k (S65_1 cal k k)
theorem h65_0 (v0:Value) (H:Hp) (n:Nat):bodyE P cal A (k+1) 65 [v0] H n=C65_0 cal k v0 H n:=(bq Go.Proofs.Tryz.f65 code65 results65 (by kernel_rfl)).trans (Eq.trans (b:=B65_0 cal k (T65_1 cal k k) v0 H n) (by kernel_rfl) (by rw[q65_1]; rfl))
noncomputable def code66:Code:=codeOf 66
noncomputable def results66:List ResultVar:=resOf 66
noncomputable def K66_prlrrrrrrrr:KR:=(cutK (Lv.b (Lv.b (Lv.b (Lv.b (Lv.b (Lv.b (Lv.b (Lv.b (Lv.a (Lv.b (A 66))))))))))).c (codeE P cal (codeF P cal k) none 66 (cR (cR (cR (cR (cR (cR (cR (cR (cR (cL (cR code66))))))))))) (Lv.b (Lv.b (Lv.b (Lv.b (Lv.b (Lv.b (Lv.b (Lv.b (Lv.b (Lv.a (Lv.b (A 66)))))))))))) (doneK P results66) X0 (doneK P results66)))
noncomputable def K66_pxrlrrrrrrrrlr:XR:=(upX 0 (K66_prlrrrrrrrr cal k) X0)
noncomputable def K66_prlrrrrrrrrlrl (m1:Nat):KR:=(fun T H n D=>codeF P cal m1 (Lv.a (Lv.b (Lv.a (Lv.b (Lv.b (Lv.b (Lv.b (Lv.b (Lv.b (Lv.b (Lv.b (Lv.a (Lv.b (A 66)))))))))))))) none 66 (cL (cR (cL (cR (cR (cR (cR (cR (cR (cR (cR (cL (cR code66))))))))))))) (K66_prlrrrrrrrr cal k) (K66_pxrlrrrrrrrrlr cal k) (doneK P results66) (cutT (Lv.a (Lv.b (Lv.a (Lv.b (Lv.b (Lv.b (Lv.b (Lv.b (Lv.b (Lv.b (Lv.b (Lv.a (Lv.b (A 66)))))))))))))).c T) H n D)
noncomputable def K66_prlrrrrrrrrlrllr (m1:Nat):KR:=(cutK (Lv.b (Lv.a (Lv.a (Lv.b (Lv.a (Lv.b (Lv.b (Lv.b (Lv.b (Lv.b (Lv.b (Lv.b (Lv.b (Lv.a (Lv.b (A 66)))))))))))))))).c (codeE P cal (codeF P cal m1) none 66 (cR (cR (cL (cL (cR (cL (cR (cR (cR (cR (cR (cR (cR (cR (cL (cR code66)))))))))))))))) (Lv.b (Lv.b (Lv.a (Lv.a (Lv.b (Lv.a (Lv.b (Lv.b (Lv.b (Lv.b (Lv.b (Lv.b (Lv.b (Lv.b (Lv.a (Lv.b (A 66))))))))))))))))) (K66_prlrrrrrrrrlrl cal k m1) (K66_pxrlrrrrrrrrlr cal k) (doneK P results66)))
noncomputable def K66_pxrlrrrrrrrrlrllrl (m1:Nat):XR:=(upX 1 (K66_prlrrrrrrrrlrllr cal k m1) (K66_pxrlrrrrrrrrlr cal k))
noncomputable def K66_pxrlrrrrrrrrlrllrllrr (m1:Nat):XR:=(upX 2 (K66_prlrrrrrrrrlrllr cal k m1) (K66_pxrlrrrrrrrrlrllrl cal k m1))
noncomputable def K66_prlrrrrrrrrlrllrllrrl (m1:Nat) (m2:Nat):KR:=(fun T H n D=>codeF P cal m2 (Lv.a (Lv.b (Lv.b (Lv.a (Lv.a (Lv.b (Lv.a (Lv.a (Lv.b (Lv.a (Lv.b (Lv.b (Lv.b (Lv.b (Lv.b (Lv.b (Lv.b (Lv.b (Lv.a (Lv.b (A 66))))))))))))))))))))) none 66 (cL (cR (cR (cL (cL (cR (cL (cL (cR (cL (cR (cR (cR (cR (cR (cR (cR (cR (cL (cR code66)))))))))))))))))))) (K66_prlrrrrrrrrlrllr cal k m1) (K66_pxrlrrrrrrrrlrllrllrr cal k m1) (doneK P results66) (cutT (Lv.a (Lv.b (Lv.b (Lv.a (Lv.a (Lv.b (Lv.a (Lv.a (Lv.b (Lv.a (Lv.b (Lv.b (Lv.b (Lv.b (Lv.b (Lv.b (Lv.b (Lv.b (Lv.a (Lv.b (A 66))))))))))))))))))))).c T) H n D)
noncomputable def T66_1:=fun(u10:Value) (H:Hp) (n:Nat)=>labK (codeE P cal (codeF P cal k) none 66 (cR (cR (cR (cR (cR (cR (cR (cR (cR (cL (cR code66))))))))))) (Lv.b (Lv.b (Lv.b (Lv.b (Lv.b (Lv.b (Lv.b (Lv.b (Lv.b (Lv.a (Lv.b (A 66)))))))))))) (doneK P results66) X0 (doneK P results66)) (Tr.set Tr.nil 10 (some u10)) H n []
noncomputable def T66_4 (m1 m2:Nat):=fun(u0 u7 u8 u9 u10 u11 u12 u54 u55 u56:Value) (H:Hp) (n:Nat)=>labK (codeE P cal (codeF P cal m2) none 66 (cR (cR (cR (cL (cL (cR (cR (cL (cL (cR (cL (cL (cR (cL (cR (cR (cR (cR (cR (cR (cR (cR (cL (cR code66)))))))))))))))))))))))) (Lv.b (Lv.b (Lv.b (Lv.a (Lv.a (Lv.b (Lv.b (Lv.a (Lv.a (Lv.b (Lv.a (Lv.a (Lv.b (Lv.a (Lv.b (Lv.b (Lv.b (Lv.b (Lv.b (Lv.b (Lv.b (Lv.b (Lv.a (Lv.b (A 66))))))))))))))))))))))))) (K66_prlrrrrrrrrlrllrllrrl cal k m1 m2) (K66_pxrlrrrrrrrrlrllrllrr cal k m1) (doneK P results66)) (Tr.set (Tr.set (Tr.set (Tr.set (Tr.set (Tr.set (Tr.set (Tr.set (Tr.set (Tr.set Tr.nil 56 (some u56)) 55 (some u55)) 54 (some u54)) 12 (some u12)) 11 (some u11)) 10 (some u10)) 9 (some u9)) 8 (some u8)) 7 (some u7)) 0 (some u0)) H n []
noncomputable def T66_3 (m1 m2:Nat):=fun(u0 u7 u8 u9 u10 u11 u12 u54 u55 u56:Value) (H:Hp) (n:Nat)=>labK (codeE P cal (codeF P cal m2) none 66 (cL (cL (cR (cR (cL (cL (cR (cL (cL (cR (cL (cR (cR (cR (cR (cR (cR (cR (cR (cL (cR code66))))))))))))))))))))) (Lv.a (Lv.a (Lv.b (Lv.b (Lv.a (Lv.a (Lv.b (Lv.a (Lv.a (Lv.b (Lv.a (Lv.b (Lv.b (Lv.b (Lv.b (Lv.b (Lv.b (Lv.b (Lv.b (Lv.a (Lv.b (A 66)))))))))))))))))))))) (K66_prlrrrrrrrrlrllrllrrl cal k m1 m2) (K66_pxrlrrrrrrrrlrllrllrr cal k m1) (doneK P results66)) (Tr.set (Tr.set (Tr.set (Tr.set (Tr.set (Tr.set (Tr.set (Tr.set (Tr.set (Tr.set Tr.nil 56 (some u56)) 55 (some u55)) 54 (some u54)) 12 (some u12)) 11 (some u11)) 10 (some u10)) 9 (some u9)) 8 (some u8)) 7 (some u7)) 0 (some u0)) H n []
noncomputable def R66_3 (m1 m2:Nat):V10:=fun u0 u7 u8 u9 u10 u11 u12 u54 u55 u56 H n=>codeF P cal m2 (Lv.a (Lv.b (Lv.b (Lv.a (Lv.a (Lv.b (Lv.a (Lv.a (Lv.b (Lv.a (Lv.b (Lv.b (Lv.b (Lv.b (Lv.b (Lv.b (Lv.b (Lv.b (Lv.a (Lv.b (A 66))))))))))))))))))))) none 66 (cL (cR (cR (cL (cL (cR (cL (cL (cR (cL (cR (cR (cR (cR (cR (cR (cR (cR (cL (cR code66)))))))))))))))))))) (K66_prlrrrrrrrrlrllr cal k m1) (K66_pxrlrrrrrrrrlrllrllrr cal k m1) (doneK P results66) (Tr.set (Tr.set (Tr.set (Tr.set (Tr.set (Tr.set (Tr.set (Tr.set (Tr.set (Tr.set Tr.nil 56 (some u56)) 55 (some u55)) 54 (some u54)) 12 (some u12)) 11 (some u11)) 10 (some u10)) 9 (some u9)) 8 (some u8)) 7 (some u7)) 0 (some u0)) H n []
noncomputable def T66_2 (m1:Nat):=fun(u0 u7 u8 u9 u10 u11:Value) (H:Hp) (n:Nat)=>labK (codeE P cal (codeF P cal m1) none 66 (cL (cL (cR (cL (cR (cR (cR (cR (cR (cR (cR (cR (cL (cR code66)))))))))))))) (Lv.a (Lv.a (Lv.b (Lv.a (Lv.b (Lv.b (Lv.b (Lv.b (Lv.b (Lv.b (Lv.b (Lv.b (Lv.a (Lv.b (A 66))))))))))))))) (K66_prlrrrrrrrrlrl cal k m1) (K66_pxrlrrrrrrrrlr cal k) (doneK P results66)) (Tr.set (Tr.set (Tr.set (Tr.set (Tr.set (Tr.set Tr.nil 11 (some u11)) 10 (some u10)) 9 (some u9)) 8 (some u8)) 7 (some u7)) 0 (some u0)) H n []
noncomputable def R66_2 (m1:Nat):V6:=fun u0 u7 u8 u9 u10 u11 H n=>codeF P cal m1 (Lv.a (Lv.b (Lv.a (Lv.b (Lv.b (Lv.b (Lv.b (Lv.b (Lv.b (Lv.b (Lv.b (Lv.a (Lv.b (A 66)))))))))))))) none 66 (cL (cR (cL (cR (cR (cR (cR (cR (cR (cR (cR (cL (cR code66))))))))))))) (K66_prlrrrrrrrr cal k) (K66_pxrlrrrrrrrrlr cal k) (doneK P results66) (Tr.set (Tr.set (Tr.set (Tr.set (Tr.set (Tr.set Tr.nil 11 (some u11)) 10 (some u10)) 9 (some u9)) 8 (some u8)) 7 (some u7)) 0 (some u0)) H n []
noncomputable def B66_1 (cal:Cal) (k:Nat) (u10:Value) (H:Hp) (n:Nat):Res:=
binK P BinOp.eql 149 (Operand.tmp 88) (Operand.const (Value.pointer none)) u10 (Value.pointer none) fun v_1d=>
ifK v_1d (
some ((Value.tuple ⟨[(Value.slice none 0 0),(Value.bool false)]⟩),H,n)) (
callFK P cal 92 [u10] H n fun v_1h H_1i n_1j=>
some ((Value.tuple ⟨[v_1h,(Value.bool true)]⟩),H_1i,n_1j))
noncomputable def C66_1:=B66_1 cal k
theorem h66_1:T66_1 cal k=C66_1 cal k:=by kernel_rfl
noncomputable def B66_4 (cal:Cal) (k m1 m2:Nat) (b2:V6) (b3:V10) (u0 u7 u8 u9 u10 u11 u12 u54 u55 u56:Value) (H:Hp) (n:Nat):Res:=
binK P BinOp.add 3 (Operand.tmp 56) (Operand.const (Value.int IntKind.i64 1)) u56 (Value.int IntKind.i64 1) fun v_29=>
b3 u0 u7 u8 u9 u10 u11 u12 u54 u55 v_29 H n
noncomputable def C66_4 (m1 m2:Nat):=B66_4 cal k m1 m2
theorem h66_4 (m1 m2:Nat):T66_4 cal k m1 m2=C66_4 cal k m1 m2 (R66_2 cal k m1) (R66_3 cal k m1 m2):=by kernel_rfl
noncomputable def B66_3 (cal:Cal) (k m1 m2:Nat) (j4:V10) (j1:V1) (b2:V6) (b3:V10) (u0 u7 u8 u9 u10 u11 u12 u54 u55 u56:Value) (H:Hp) (n:Nat):Res:=
binK P BinOp.lss 3 (Operand.tmp 56) (Operand.tmp 55) u56 u55 fun v_28=>
ifK v_28 (
bindO (indexAddrV P 93 u54 u56) fun v_2b=>
bindO (addrV v_2b) fun a_2d=>bindO (loadV P H 101 a_2d) fun v_2c=>
callFK P cal 79 [u12,v_2c] H n fun v_2h H_2i n_2j=>
bindO (indexAddrV P 154 u9 v_2h) fun v_2m=>
bindO (addrV v_2m) fun a_2o=>bindO (loadV P H_2i 4 a_2o) fun v_2n=>
ifK v_2n (
j4 u0 u7 u8 u9 u10 u11 u12 u54 u55 u56 H_2i n_2j) (
bindO (indexAddrV P 154 u9 v_2h) fun v_2q=>
bindO (storeP P 4 v_2q (Value.bool true) H_2i) fun H_2s=>
bindO (indexAddrV P 153 u8 u11) fun v_2w=>
bindO (addrV v_2w) fun a_2y=>bindO (loadV P H_2s 149 a_2y) fun v_2x=>
bindO (buildP P 151 [(0,v_2x),(1,v_2c),(2,v_2h)]) fun v_31=>
boxK 151 v_31 H_2s n_2j fun v_32 H_33 n_34=>
rowK P 153 1 [(0,v_32)] H_33 n_34 fun v_35 H_36 n_37=>
stK (appendV P (bare H_36 n_37) 153 153 u8 v_35) fun v_38 H_39 n_3a=>
binK P BinOp.eql 101 (Operand.tmp 79) (Operand.const (Value.int IntKind.u64 0)) v_2h (Value.int IntKind.u64 0) fun v_3d=>
ifK v_3d (
bindO (lenV P 153 v_38) fun v_3g=>
binK P BinOp.sub 3 (Operand.tmp 83) (Operand.const (Value.int IntKind.i64 1)) v_3g (Value.int IntKind.i64 1) fun v_3h=>
bindO (indexAddrV P 153 v_38 v_3h) fun v_3i=>
bindO (addrV v_3i) fun a_3k=>bindO (loadV P H_39 149 a_3k) fun v_3j=>
j1 v_3j H_39 n_3a) (
j4 u0 u7 v_38 u9 u10 u11 u12 u54 u55 u56 H_39 n_3a))) (
binK P BinOp.add 3 (Operand.tmp 43) (Operand.const (Value.int IntKind.i64 1)) u11 (Value.int IntKind.i64 1) fun v_3n=>
b2 u0 u7 u8 u9 u10 v_3n H n)
noncomputable def C66_3 (m1 m2:Nat) (b2:V6) (b3:V10):=B66_3 cal k m1 m2 (C66_4 cal k m1 m2 b2 b3) (C66_1 cal k) b2 b3
noncomputable def S66_3 (m1:Nat) (b2:V6):Nat→V10:=fun m=>Nat.rec (motive:=fun _=>V10) (C66_3 cal k m1 0 b2 (fun _ _ _ _ _ _ _ _ _ _ _ _=>none)) (fun m ih=>C66_3 cal k m1 (m+1) b2 ih) m
theorem h66_3 (m1 m2:Nat):T66_3 cal k m1 m2=C66_3 cal k m1 m2 (R66_2 cal k m1) (R66_3 cal k m1 m2):=Eq.trans (b:=B66_3 cal k m1 m2 (T66_4 cal k m1 m2) (T66_1 cal k) (R66_2 cal k m1) (R66_3 cal k m1 m2)) (by kernel_rfl) (by rw[h66_4,h66_1]; rfl)
theorem q66_3 (m1:Nat) (m:Nat):T66_3 cal k m1 m=S66_3 cal k m1 (R66_2 cal k m1) m:=recS (h66_3 cal k m1) (by kernel_rfl) (fun m=>by kernel_rfl) m
noncomputable def B66_2 (cal:Cal) (k m1:Nat) (j3:V10) (j1:V1) (b2:V6) (u0 u7 u8 u9 u10 u11:Value) (H:Hp) (n:Nat):Res:=
bindO (lenV P 153 u8) fun v_1p=>
binK P BinOp.lss 3 (Operand.tmp 39) (Operand.tmp 41) u11 v_1p fun v_1q=>
ifK v_1q (
bindO (indexAddrV P 153 u8 u11) fun v_1u=>
bindO (addrV v_1u) fun a_1w=>bindO (loadV P H 149 a_1w) fun v_1v=>
bindO (nilV v_1v) fun v_1x=>
bindO (fieldAddrV P 151 v_1x 2) fun v_1y=>
bindO (addrV v_1y) fun a_20=>bindO (loadV P H 101 a_20) fun v_1z=>
callFK P cal 78 [u0,v_1z] H n fun v_21 H_22 n_23=>
bindO (lenV P 93 u7) fun v_26=>
j3 u0 u7 u8 u9 u10 u11 v_21 u7 v_26 (Value.int IntKind.i64 0) H_22 n_23) (
j1 u10 H n)
noncomputable def C66_2 (m1:Nat) (b2:V6):=B66_2 cal k m1 (S66_3 cal k m1 b2 m1) (C66_1 cal k) b2
noncomputable def S66_2:Nat→V6:=recF (C66_2 cal k) (fun _ _ _ _ _ _ _ _=>none)
theorem h66_2 (m1:Nat):T66_2 cal k m1=C66_2 cal k m1 (R66_2 cal k m1):=Eq.trans (b:=B66_2 cal k m1 (T66_3 cal k m1 m1) (T66_1 cal k) (R66_2 cal k m1)) (by kernel_rfl) (by rw[q66_3,h66_1]; rfl)
theorem q66_2 (m:Nat):T66_2 cal k m=S66_2 cal k m:=recS (h66_2 cal k) (by kernel_rfl) (fun m=>by kernel_rfl) m
noncomputable def B66_0 (cal:Cal) (k:Nat) (j2:V6) (v0 v1:Value) (H:Hp) (n:Nat):Res:=
bindO (nilV v0) fun v_4=>
bindO (fieldAddrV P 104 v_4 0) fun v_5=>
bindO (fieldAddrV P 41 v_5 1) fun v_6=>
bindO (addrV v_6) fun a_8=>bindO (loadV P H 27 a_8) fun v_7=>
callFK P cal 76 [v_7] H n fun v_9 H_a n_b=>
bindO (buildP P 151 [(2,v_9)]) fun v_c=>
boxK 151 v_c H_a n_b fun v_d H_e n_f=>
bindO (nilV v_d) fun v_i=>
bindO (fieldAddrV P 151 v_i 2) fun v_j=>
bindO (addrV v_j) fun a_l=>bindO (loadV P H_e 101 a_l) fun v_k=>
binK P BinOp.eql 101 (Operand.tmp 27) (Operand.const (Value.int IntKind.u64 0)) v_k (Value.int IntKind.u64 0) fun v_m=>
ifK v_m (
some ((Value.tuple ⟨[(Value.slice none 0 0),(Value.bool true)]⟩),H_e,n_f)) (
callFK P cal 91 [v0,v1] H_e n_f fun v_r H_s n_t=>
rowK P 153 1 [(0,v_d)] H_s n_t fun v_w H_x n_y=>
allocK P 154 H_x n_y fun v_10 H_11 n_12=>
bindO (nilV v_d) fun v_14=>
bindO (fieldAddrV P 151 v_14 2) fun v_15=>
bindO (addrV v_15) fun a_17=>bindO (loadV P H_11 101 a_17) fun v_16=>
bindO (indexAddrV P 154 v_10 v_16) fun v_18=>
bindO (storeP P 4 v_18 (Value.bool true) H_11) fun H_1a=>
j2 v0 v_r v_w v_10 (Value.pointer none) (Value.int IntKind.i64 0) H_1a n_12)
noncomputable def C66_0:=B66_0 cal k (S66_2 cal k k)
theorem h66_0 (v0 v1:Value) (H:Hp) (n:Nat):bodyE P cal A (k+1) 66 [v0,v1] H n=C66_0 cal k v0 v1 H n:=(bq Go.Proofs.Tryz.f66 code66 results66 (by kernel_rfl)).trans (Eq.trans (b:=B66_0 cal k (T66_2 cal k k) v0 v1 H n) (by kernel_rfl) (by rw[q66_2]; rfl))
noncomputable def code68:Code:=codeOf 68
noncomputable def results68:List ResultVar:=resOf 68
noncomputable def K68_prr:KR:=(cutK (Lv.b (Lv.b (A 68))).c (codeE P cal (codeF P cal k) none 68 (cR (cR (cR code68))) (Lv.b (Lv.b (Lv.b (A 68)))) (doneK P results68) X0 (doneK P results68)))
noncomputable def K68_pxrrlr:XR:=(upX 0 (K68_prr cal k) X0)
noncomputable def K68_prrlrl (m1:Nat):KR:=(fun T H n D=>codeF P cal m1 (Lv.a (Lv.b (Lv.a (Lv.b (Lv.b (A 68)))))) none 68 (cL (cR (cL (cR (cR code68))))) (K68_prr cal k) (K68_pxrrlr cal k) (doneK P results68) (cutT (Lv.a (Lv.b (Lv.a (Lv.b (Lv.b (A 68)))))).c T) H n D)
noncomputable def T68_1 (m1:Nat):=fun(u0 u3 u13 u14:Value) (H:Hp) (n:Nat)=>labK (codeE P cal (codeF P cal m1) none 68 (cL (cL (cR (cL (cR (cR code68)))))) (Lv.a (Lv.a (Lv.b (Lv.a (Lv.b (Lv.b (A 68))))))) (K68_prrlrl cal k m1) (K68_pxrrlr cal k) (doneK P results68)) (Tr.set (Tr.set (Tr.set (Tr.set Tr.nil 14 (some u14)) 13 (some u13)) 3 (some u3)) 0 (some u0)) H n []
noncomputable def R68_1 (m1:Nat):V4:=fun u0 u3 u13 u14 H n=>codeF P cal m1 (Lv.a (Lv.b (Lv.a (Lv.b (Lv.b (A 68)))))) none 68 (cL (cR (cL (cR (cR code68))))) (K68_prr cal k) (K68_pxrrlr cal k) (doneK P results68) (Tr.set (Tr.set (Tr.set (Tr.set Tr.nil 14 (some u14)) 13 (some u13)) 3 (some u3)) 0 (some u0)) H n []
noncomputable def B68_1 (cal:Cal) (k m1:Nat) (b1:V4) (u0 u3 u13 u14:Value) (H:Hp) (n:Nat):Res:=
binK P BinOp.lss 3 (Operand.tmp 14) (Operand.tmp 13) u14 u13 fun v_c=>
ifK v_c (
callFK P cal 66 [u0,u14] H n fun v_h H_i n_j=>
bindO (tupV v_h 0) fun v_l=>
bindO (tupV v_h 1) fun v_m=>
ifK v_m (
some (u14,H_i,n_j)) (
binK P BinOp.add 3 (Operand.tmp 14) (Operand.const (Value.int IntKind.i64 1)) u14 (Value.int IntKind.i64 1) fun v_s=>
b1 u0 u3 u13 v_s H_i n_j)) (
some (u3,H,n))
noncomputable def C68_1 (m1:Nat):=B68_1 cal k m1
noncomputable def S68_1:Nat→V4:=recF (C68_1 cal k) (fun _ _ _ _ _ _=>none)
theorem h68_1 (m1:Nat):T68_1 cal k m1=C68_1 cal k m1 (R68_1 cal k m1):=by kernel_rfl
theorem q68_1 (m:Nat):T68_1 cal k m=S68_1 cal k m:=recS (h68_1 cal k) (by kernel_rfl) (fun m=>by kernel_rfl) m
noncomputable def B68_0 (cal:Cal) (k:Nat) (j1:V4) (v0:Value) (H:Hp) (n:Nat):Res:=
bindO (nilV v0) fun v_3=>
bindO (fieldAddrV P 104 v_3 0) fun v_4=>
bindO (fieldAddrV P 41 v_4 2) fun v_5=>
bindO (addrV v_5) fun a_7=>bindO (loadV P H 27 a_7) fun v_6=>
bindO (lenV P 27 v_6) fun v_8=>
j1 v0 v_8 v_8 (Value.int IntKind.i64 0) H n
noncomputable def C68_0:=B68_0 cal k (S68_1 cal k k)
theorem h68_0 (v0:Value) (H:Hp) (n:Nat):bodyE P cal A (k+1) 68 [v0] H n=C68_0 cal k v0 H n:=(bq Go.Proofs.Tryz.f68 code68 results68 (by kernel_rfl)).trans (Eq.trans (b:=B68_0 cal k (T68_1 cal k k) v0 H n) (by kernel_rfl) (by rw[q68_1]; rfl))
noncomputable def code69:Code:=codeOf 69
noncomputable def results69:List ResultVar:=resOf 69
noncomputable def B69_0 (cal:Cal) (k:Nat) (v0 v1 v2:Value) (H:Hp) (n:Nat):Res:=
boxK 92 v0 H n fun v_1 H_2 n_3=>
boxK 3 v2 H_2 n_3 fun v_4 H_5 n_6=>
allocK P 93 H_5 n_6 fun v_9 H_a n_b=>
bindO (addrV v_4) fun a_d=>bindO (loadV P H_a 3 a_d) fun v_c=>
binK P BinOp.mul 3 (Operand.tmp 12) (Operand.const (Value.int IntKind.i64 100)) v_c (Value.int IntKind.i64 100) fun v_e=>
binK P BinOp.add 3 (Operand.tmp 13) (Operand.const (Value.int IntKind.i64 1)) v_e (Value.int IntKind.i64 1) fun v_f=>
allocK P 3 H_a n_b fun v_g H_h n_i=>
bindO (storeP P 3 v_g v_f H_h) fun H_k=>
bindO (addrV v_1) fun a_m=>bindO (loadV P H_k 92 a_m) fun v_l=>
callFK P cal 91 [v_l,v1] H_k n_i fun v_o H_p n_q=>
allocK P 93 H_p n_q fun v_r H_s n_t=>
bindO (storeP P 93 v_r v_o H_s) fun H_v=>
allocK P 156 H_v n_t fun v_w H_x n_y=>
bindO (storeP P 156 v_w (Value.func (Fn.func 93) ⟨[]⟩ ⟨[v_4,v_1,v_g,v_9,v_r,v_w]⟩) H_x) fun H_11=>
bindO (addrV v_w) fun a_13=>bindO (loadV P H_11 156 a_13) fun v_12=>
callVK P cal v_12 [(Value.slice none 0 0)] H_11 n_y fun v_14 H_15 n_16=>
bindO (addrV v_9) fun a_17=>bindO (loadV P H_15 93 a_17) fun v_18=>
bindO (addrV v_g) fun a_19=>bindO (loadV P H_15 3 a_19) fun v_1a=>
some ((Value.tuple ⟨[v_18,v_1a]⟩),H_15,n_16)
noncomputable def C69_0:=B69_0 cal k
theorem h69_0 (v0 v1 v2:Value) (H:Hp) (n:Nat):bodyE P cal A (k+1) 69 [v0,v1,v2] H n=C69_0 cal k v0 v1 v2 H n:=(bq Go.Proofs.Tryz.f69 code69 results69 (by kernel_rfl)).trans (by kernel_rfl)
noncomputable def code70:Code:=codeOf 70
noncomputable def results70:List ResultVar:=resOf 70
noncomputable def B70_0 (cal:Cal) (k:Nat) (v0:Value) (H:Hp) (n:Nat):Res:=
boxK 39 v0 H n fun v_1 H_2 n_3=>
bindO (addrV v_1) fun a_6=>bindO (loadV P H_2 39 a_6) fun v_5=>
callFK P cal 95 [v_5] H_2 n_3 fun v_7 H_8 n_9=>
some (v_7,H_8,n_9)
noncomputable def C70_0:=B70_0 cal k
theorem h70_0 (v0:Value) (H:Hp) (n:Nat):bodyE P cal A (k+1) 70 [v0] H n=C70_0 cal k v0 H n:=(bq Go.Proofs.Tryz.f70 code70 results70 (by kernel_rfl)).trans (by kernel_rfl)
noncomputable def code71:Code:=codeOf 71
noncomputable def results71:List ResultVar:=resOf 71
noncomputable def B71_0 (cal:Cal) (k:Nat) (v0 v1:Value) (H:Hp) (n:Nat):Res:=
boxK 41 v0 H n fun v_1 H_2 n_3=>
bindO (addrV v_1) fun a_7=>bindO (loadV P H_2 41 a_7) fun v_6=>
callFK P cal 72 [v1,(Value.func (Fn.func 86) ⟨[v_6]⟩ ⟨[]⟩)] H_2 n_3 fun v_9 H_a n_b=>
guardK v_9 true (fun k_d=>
k_d v1 H_a n_b) H_a n_b fun v_e H_f n_g=>
guardK v_9 true (fun k_i=>
callFK P cal 96 [v_e] H_f n_g fun v_m H_n n_o=>
k_i v_m H_n n_o) H_f n_g fun v_j H_k n_l=>
bindO (pickV v_9 v_j (Value.bool false)) fun v_p=>
some (v_p,H_k,n_l)
noncomputable def C71_0:=B71_0 cal k
theorem h71_0 (v0 v1:Value) (H:Hp) (n:Nat):bodyE P cal A (k+1) 71 [v0,v1] H n=C71_0 cal k v0 v1 H n:=(bq Go.Proofs.Tryz.f71 code71 results71 (by kernel_rfl)).trans (by kernel_rfl)
noncomputable def code72:Code:=codeOf 72
noncomputable def results72:List ResultVar:=resOf 72
noncomputable def K72_pr:KR:=(cutK (Lv.b (A 72)).c (codeE P cal (codeF P cal k) none 72 (cR (cR code72)) (Lv.b (Lv.b (A 72))) (doneK P results72) X0 (doneK P results72)))
noncomputable def K72_pxrlr:XR:=(upX 0 (K72_pr cal k) X0)
noncomputable def K72_prlrl (m1:Nat):KR:=(fun T H n D=>codeF P cal m1 (Lv.a (Lv.b (Lv.a (Lv.b (A 72))))) none 72 (cL (cR (cL (cR code72)))) (K72_pr cal k) (K72_pxrlr cal k) (doneK P results72) (cutT (Lv.a (Lv.b (Lv.a (Lv.b (A 72))))).c T) H n D)
noncomputable def T72_1 (m1:Nat):=fun(u1 u7 u8 u9:Value) (H:Hp) (n:Nat)=>labK (codeE P cal (codeF P cal m1) none 72 (cL (cL (cR (cL (cR code72))))) (Lv.a (Lv.a (Lv.b (Lv.a (Lv.b (A 72)))))) (K72_prlrl cal k m1) (K72_pxrlr cal k) (doneK P results72)) (Tr.set (Tr.set (Tr.set (Tr.set Tr.nil 9 (some u9)) 8 (some u8)) 7 (some u7)) 1 (some u1)) H n []
noncomputable def R72_1 (m1:Nat):V4:=fun u1 u7 u8 u9 H n=>codeF P cal m1 (Lv.a (Lv.b (Lv.a (Lv.b (A 72))))) none 72 (cL (cR (cL (cR code72)))) (K72_pr cal k) (K72_pxrlr cal k) (doneK P results72) (Tr.set (Tr.set (Tr.set (Tr.set Tr.nil 9 (some u9)) 8 (some u8)) 7 (some u7)) 1 (some u1)) H n []
noncomputable def B72_1 (cal:Cal) (k m1:Nat) (b1:V4) (u1 u7 u8 u9:Value) (H:Hp) (n:Nat):Res:=
binK P BinOp.lss 3 (Operand.tmp 9) (Operand.tmp 8) u9 u8 fun v_5=>
ifK v_5 (
bindO (indexAddrV P 27 u7 u9) fun v_6=>
bindO (addrV v_6) fun a_8=>bindO (loadV P H 3 a_8) fun v_7=>
callVK P cal u1 [v_7] H n fun v_c H_d n_e=>
bindO (pureSem P v_c (Op.unary UnOp.not v_c)) fun v_f=>
ifK v_f (
some ((Value.bool false),H_d,n_e)) (
binK P BinOp.add 3 (Operand.tmp 9) (Operand.const (Value.int IntKind.i64 1)) u9 (Value.int IntKind.i64 1) fun v_h=>
b1 u1 u7 u8 v_h H_d n_e)) (
some ((Value.bool true),H,n))
noncomputable def C72_1 (m1:Nat):=B72_1 cal k m1
noncomputable def S72_1:Nat→V4:=recF (C72_1 cal k) (fun _ _ _ _ _ _=>none)
theorem h72_1 (m1:Nat):T72_1 cal k m1=C72_1 cal k m1 (R72_1 cal k m1):=by kernel_rfl
theorem q72_1 (m:Nat):T72_1 cal k m=S72_1 cal k m:=recS (h72_1 cal k) (by kernel_rfl) (fun m=>by kernel_rfl) m
noncomputable def B72_0 (cal:Cal) (k:Nat) (j1:V4) (v0 v1:Value) (H:Hp) (n:Nat):Res:=
bindO (lenV P 27 v0) fun v_3=>
j1 v1 v0 v_3 (Value.int IntKind.i64 0) H n
noncomputable def C72_0:=B72_0 cal k (S72_1 cal k k)
theorem h72_0 (v0 v1:Value) (H:Hp) (n:Nat):bodyE P cal A (k+1) 72 [v0,v1] H n=C72_0 cal k v0 v1 H n:=(bq Go.Proofs.Tryz.f72 code72 results72 (by kernel_rfl)).trans (Eq.trans (b:=B72_0 cal k (T72_1 cal k k) v0 v1 H n) (by kernel_rfl) (by rw[q72_1]; rfl))
noncomputable def code73:Code:=codeOf 73
noncomputable def results73:List ResultVar:=resOf 73
noncomputable def B73_0 (cal:Cal) (k:Nat) (v0:Value) (H:Hp) (n:Nat):Res:=
binK P BinOp.geq 3 (Operand.tmp 3) (Operand.const (Value.int IntKind.i64 0)) v0 (Value.int IntKind.i64 0) fun v_3=>
guardK v_3 true (fun k_5=>
k_5 v0 H n) H n fun v_6 H_7 n_8=>
guardK v_3 true (fun k_a=>
binK P BinOp.leq 3 (Operand.tmp 6) (Operand.const (Value.int IntKind.i64 100)) v_6 (Value.int IntKind.i64 100) fun v_e=>
k_a v_e H_7 n_8) H_7 n_8 fun v_b H_c n_d=>
bindO (pickV v_3 v_b (Value.bool false)) fun v_f=>
some (v_f,H_c,n_d)
noncomputable def C73_0:=B73_0 cal k
theorem h73_0 (v0:Value) (H:Hp) (n:Nat):bodyE P cal A (k+1) 73 [v0] H n=C73_0 cal k v0 H n:=(bq Go.Proofs.Tryz.f73 code73 results73 (by kernel_rfl)).trans (by kernel_rfl)
noncomputable def code75:Code:=codeOf 75
noncomputable def results75:List ResultVar:=resOf 75
noncomputable def K75_pr:KR:=(cutK (Lv.b (A 75)).c (codeE P cal (codeF P cal k) none 75 (cR (cR code75)) (Lv.b (Lv.b (A 75))) (doneK P results75) X0 (doneK P results75)))
noncomputable def K75_pxrlr:XR:=(upX 0 (K75_pr cal k) X0)
noncomputable def K75_prlrl (m1:Nat):KR:=(fun T H n D=>codeF P cal m1 (Lv.a (Lv.b (Lv.a (Lv.b (A 75))))) none 75 (cL (cR (cL (cR code75)))) (K75_pr cal k) (K75_pxrlr cal k) (doneK P results75) (cutT (Lv.a (Lv.b (Lv.a (Lv.b (A 75))))).c T) H n D)
noncomputable def T75_1 (m1:Nat):=fun(u1 u7 u8 u9:Value) (H:Hp) (n:Nat)=>labK (codeE P cal (codeF P cal m1) none 75 (cL (cL (cR (cL (cR code75))))) (Lv.a (Lv.a (Lv.b (Lv.a (Lv.b (A 75)))))) (K75_prlrl cal k m1) (K75_pxrlr cal k) (doneK P results75)) (Tr.set (Tr.set (Tr.set (Tr.set Tr.nil 9 (some u9)) 8 (some u8)) 7 (some u7)) 1 (some u1)) H n []
noncomputable def R75_1 (m1:Nat):V4:=fun u1 u7 u8 u9 H n=>codeF P cal m1 (Lv.a (Lv.b (Lv.a (Lv.b (A 75))))) none 75 (cL (cR (cL (cR code75)))) (K75_pr cal k) (K75_pxrlr cal k) (doneK P results75) (Tr.set (Tr.set (Tr.set (Tr.set Tr.nil 9 (some u9)) 8 (some u8)) 7 (some u7)) 1 (some u1)) H n []
noncomputable def B75_1 (cal:Cal) (k m1:Nat) (b1:V4) (u1 u7 u8 u9:Value) (H:Hp) (n:Nat):Res:=
binK P BinOp.lss 3 (Operand.tmp 9) (Operand.tmp 8) u9 u8 fun v_5=>
ifK v_5 (
bindO (indexAddrV P 30 u7 u9) fun v_6=>
bindO (addrV v_6) fun a_8=>bindO (loadV P H 27 a_8) fun v_7=>
callVK P cal u1 [v_7] H n fun v_c H_d n_e=>
bindO (pureSem P v_c (Op.unary UnOp.not v_c)) fun v_f=>
ifK v_f (
some ((Value.bool false),H_d,n_e)) (
binK P BinOp.add 3 (Operand.tmp 9) (Operand.const (Value.int IntKind.i64 1)) u9 (Value.int IntKind.i64 1) fun v_h=>
b1 u1 u7 u8 v_h H_d n_e)) (
some ((Value.bool true),H,n))
noncomputable def C75_1 (m1:Nat):=B75_1 cal k m1
noncomputable def S75_1:Nat→V4:=recF (C75_1 cal k) (fun _ _ _ _ _ _=>none)
theorem h75_1 (m1:Nat):T75_1 cal k m1=C75_1 cal k m1 (R75_1 cal k m1):=by kernel_rfl
theorem q75_1 (m:Nat):T75_1 cal k m=S75_1 cal k m:=recS (h75_1 cal k) (by kernel_rfl) (fun m=>by kernel_rfl) m
noncomputable def B75_0 (cal:Cal) (k:Nat) (j1:V4) (v0 v1:Value) (H:Hp) (n:Nat):Res:=
bindO (lenV P 30 v0) fun v_3=>
j1 v1 v0 v_3 (Value.int IntKind.i64 0) H n
noncomputable def C75_0:=B75_0 cal k (S75_1 cal k k)
theorem h75_0 (v0 v1:Value) (H:Hp) (n:Nat):bodyE P cal A (k+1) 75 [v0,v1] H n=C75_0 cal k v0 v1 H n:=(bq Go.Proofs.Tryz.f75 code75 results75 (by kernel_rfl)).trans (Eq.trans (b:=B75_0 cal k (T75_1 cal k k) v0 v1 H n) (by kernel_rfl) (by rw[q75_1]; rfl))
noncomputable def code76:Code:=codeOf 76
noncomputable def results76:List ResultVar:=resOf 76
noncomputable def K76_prr:KR:=(cutK (Lv.b (Lv.b (A 76))).c (codeE P cal (codeF P cal k) none 76 (cR (cR (cR code76))) (Lv.b (Lv.b (Lv.b (A 76)))) (doneK P results76) X0 (doneK P results76)))
noncomputable def K76_pxrrlr:XR:=(upX 0 (K76_prr cal k) X0)
noncomputable def K76_prrlrl (m1:Nat):KR:=(fun T H n D=>codeF P cal m1 (Lv.a (Lv.b (Lv.a (Lv.b (Lv.b (A 76)))))) none 76 (cL (cR (cL (cR (cR code76))))) (K76_prr cal k) (K76_pxrrlr cal k) (doneK P results76) (cutT (Lv.a (Lv.b (Lv.a (Lv.b (Lv.b (A 76)))))).c T) H n D)
noncomputable def T76_1 (m1:Nat):=fun(u3 u6 u7 u8:Value) (H:Hp) (n:Nat)=>labK (codeE P cal (codeF P cal m1) none 76 (cL (cL (cR (cL (cR (cR code76)))))) (Lv.a (Lv.a (Lv.b (Lv.a (Lv.b (Lv.b (A 76))))))) (K76_prrlrl cal k m1) (K76_pxrrlr cal k) (doneK P results76)) (Tr.set (Tr.set (Tr.set (Tr.set Tr.nil 8 (some u8)) 7 (some u7)) 6 (some u6)) 3 (some u3)) H n []
noncomputable def R76_1 (m1:Nat):V4:=fun u3 u6 u7 u8 H n=>codeF P cal m1 (Lv.a (Lv.b (Lv.a (Lv.b (Lv.b (A 76)))))) none 76 (cL (cR (cL (cR (cR code76))))) (K76_prr cal k) (K76_pxrrlr cal k) (doneK P results76) (Tr.set (Tr.set (Tr.set (Tr.set Tr.nil 8 (some u8)) 7 (some u7)) 6 (some u6)) 3 (some u3)) H n []
noncomputable def B76_1 (cal:Cal) (k m1:Nat) (b1:V4) (u3 u6 u7 u8:Value) (H:Hp) (n:Nat):Res:=
binK P BinOp.lss 3 (Operand.tmp 8) (Operand.tmp 7) u8 u7 fun v_6=>
ifK v_6 (
bindO (indexAddrV P 27 u6 u8) fun v_7=>
bindO (addrV v_7) fun a_9=>bindO (loadV P H 3 a_9) fun v_8=>
binK P BinOp.shl 101 (Operand.const (Value.int IntKind.u64 1)) (Operand.tmp 13) (Value.int IntKind.u64 1) v_8 fun v_d=>
binK P BinOp.or 101 (Operand.tmp 12) (Operand.tmp 14) u3 v_d fun v_e=>
binK P BinOp.add 3 (Operand.tmp 8) (Operand.const (Value.int IntKind.i64 1)) u8 (Value.int IntKind.i64 1) fun v_g=>
b1 v_e u6 u7 v_g H n) (
some (u3,H,n))
noncomputable def C76_1 (m1:Nat):=B76_1 cal k m1
noncomputable def S76_1:Nat→V4:=recF (C76_1 cal k) (fun _ _ _ _ _ _=>none)
theorem h76_1 (m1:Nat):T76_1 cal k m1=C76_1 cal k m1 (R76_1 cal k m1):=by kernel_rfl
theorem q76_1 (m:Nat):T76_1 cal k m=S76_1 cal k m:=recS (h76_1 cal k) (by kernel_rfl) (fun m=>by kernel_rfl) m
noncomputable def B76_0 (cal:Cal) (k:Nat) (j1:V4) (v0:Value) (H:Hp) (n:Nat):Res:=
bindO (lenV P 27 v0) fun v_4=>
j1 (Value.int IntKind.u64 0) v0 v_4 (Value.int IntKind.i64 0) H n
noncomputable def C76_0:=B76_0 cal k (S76_1 cal k k)
theorem h76_0 (v0:Value) (H:Hp) (n:Nat):bodyE P cal A (k+1) 76 [v0] H n=C76_0 cal k v0 H n:=(bq Go.Proofs.Tryz.f76 code76 results76 (by kernel_rfl)).trans (Eq.trans (b:=B76_0 cal k (T76_1 cal k k) v0 H n) (by kernel_rfl) (by rw[q76_1]; rfl))
end Go.Proofs.YtkmjgabdaikomaaGreat.G
end
end
section
open Go Go.Ev
set_option maxRecDepth 1000000
noncomputable section
namespace Go.Proofs.YtkmjgabdaikomaaGreat.G
variable (cal:Cal) (k:Nat)
noncomputable def code77:Code:=codeOf 77
noncomputable def results77:List ResultVar:=resOf 77
noncomputable def K77_prr:KR:=(cutK (Lv.b (Lv.b (A 77))).c (codeE P cal (codeF P cal k) none 77 (cR (cR (cR code77))) (Lv.b (Lv.b (Lv.b (A 77)))) (doneK P results77) X0 (doneK P results77)))
noncomputable def K77_pxrrlr:XR:=(upX 0 (K77_prr cal k) X0)
noncomputable def K77_prrlrl (m1:Nat):KR:=(fun T H n D=>codeF P cal m1 (Lv.a (Lv.b (Lv.a (Lv.b (Lv.b (A 77)))))) none 77 (cL (cR (cL (cR (cR code77))))) (K77_prr cal k) (K77_pxrrlr cal k) (doneK P results77) (cutT (Lv.a (Lv.b (Lv.a (Lv.b (Lv.b (A 77)))))).c T) H n D)
noncomputable def T77_2 (m1:Nat):=fun(u0 u3 u5:Value) (H:Hp) (n:Nat)=>labK (codeE P cal (codeF P cal m1) none 77 (cR (cR (cR (cL (cL (cR (cL (cR (cR code77))))))))) (Lv.b (Lv.b (Lv.b (Lv.a (Lv.a (Lv.b (Lv.a (Lv.b (Lv.b (A 77)))))))))) (K77_prrlrl cal k m1) (K77_pxrrlr cal k) (doneK P results77)) (Tr.set (Tr.set (Tr.set Tr.nil 5 (some u5)) 3 (some u3)) 0 (some u0)) H n []
noncomputable def T77_1 (m1:Nat):=fun(u0 u3 u5:Value) (H:Hp) (n:Nat)=>labK (codeE P cal (codeF P cal m1) none 77 (cL (cL (cR (cL (cR (cR code77)))))) (Lv.a (Lv.a (Lv.b (Lv.a (Lv.b (Lv.b (A 77))))))) (K77_prrlrl cal k m1) (K77_pxrrlr cal k) (doneK P results77)) (Tr.set (Tr.set (Tr.set Tr.nil 5 (some u5)) 3 (some u3)) 0 (some u0)) H n []
noncomputable def R77_1 (m1:Nat):V3:=fun u0 u3 u5 H n=>codeF P cal m1 (Lv.a (Lv.b (Lv.a (Lv.b (Lv.b (A 77)))))) none 77 (cL (cR (cL (cR (cR code77))))) (K77_prr cal k) (K77_pxrrlr cal k) (doneK P results77) (Tr.set (Tr.set (Tr.set Tr.nil 5 (some u5)) 3 (some u3)) 0 (some u0)) H n []
noncomputable def B77_2 (cal:Cal) (k m1:Nat) (b1:V3) (u0 u3 u5:Value) (H:Hp) (n:Nat):Res:=
binK P BinOp.add 3 (Operand.tmp 5) (Operand.const (Value.int IntKind.i64 1)) u5 (Value.int IntKind.i64 1) fun v_5=>
b1 u0 u3 v_5 H n
noncomputable def C77_2 (m1:Nat):=B77_2 cal k m1
theorem h77_2 (m1:Nat):T77_2 cal k m1=C77_2 cal k m1 (R77_1 cal k m1):=by kernel_rfl
noncomputable def B77_1 (cal:Cal) (k m1:Nat) (j2:V3) (b1:V3) (u0 u3 u5:Value) (H:Hp) (n:Nat):Res:=
binK P BinOp.lss 3 (Operand.tmp 5) (Operand.const (Value.int IntKind.i64 8)) u5 (Value.int IntKind.i64 8) fun v_4=>
ifK v_4 (
callFK P cal 87 [u0,u5] H n fun v_b H_c n_d=>
ifK v_b (
rowK P 27 1 [(0,u5)] H_c n_d fun v_g H_h n_i=>
stK (appendV P (bare H_h n_i) 27 27 u3 v_g) fun v_j H_k n_l=>
j2 u0 v_j u5 H_k n_l) (
j2 u0 u3 u5 H_c n_d)) (
some (u3,H,n))
noncomputable def C77_1 (m1:Nat) (b1:V3):=B77_1 cal k m1 (C77_2 cal k m1 b1) b1
noncomputable def S77_1:Nat→V3:=recF (C77_1 cal k) (fun _ _ _ _ _=>none)
theorem h77_1 (m1:Nat):T77_1 cal k m1=C77_1 cal k m1 (R77_1 cal k m1):=Eq.trans (b:=B77_1 cal k m1 (T77_2 cal k m1) (R77_1 cal k m1)) (by kernel_rfl) (by rw[h77_2]; rfl)
theorem q77_1 (m:Nat):T77_1 cal k m=S77_1 cal k m:=recS (h77_1 cal k) (by kernel_rfl) (fun m=>by kernel_rfl) m
noncomputable def B77_0 (cal:Cal) (k:Nat) (j1:V3) (v0:Value) (H:Hp) (n:Nat):Res:=
j1 v0 (Value.slice none 0 0) (Value.int IntKind.i64 0) H n
noncomputable def C77_0:=B77_0 cal k (S77_1 cal k k)
theorem h77_0 (v0:Value) (H:Hp) (n:Nat):bodyE P cal A (k+1) 77 [v0] H n=C77_0 cal k v0 H n:=(bq Go.Proofs.Tryz.f77 code77 results77 (by kernel_rfl)).trans (Eq.trans (b:=B77_0 cal k (T77_1 cal k k) v0 H n) (by kernel_rfl) (by rw[q77_1]; rfl))
noncomputable def code79:Code:=codeOf 79
noncomputable def results79:List ResultVar:=resOf 79
noncomputable def B79_0 (cal:Cal) (k:Nat) (v0 v1:Value) (H:Hp) (n:Nat):Res:=
binK P BinOp.andNot 101 (Operand.tmp 5) (Operand.tmp 6) v0 v1 fun v_4=>
some (v_4,H,n)
noncomputable def C79_0:=B79_0 cal k
theorem h79_0 (v0 v1:Value) (H:Hp) (n:Nat):bodyE P cal A (k+1) 79 [v0,v1] H n=C79_0 cal k v0 v1 H n:=(bq Go.Proofs.Tryz.f79 code79 results79 (by kernel_rfl)).trans (by kernel_rfl)
noncomputable def code83:Code:=codeOf 83
noncomputable def results83:List ResultVar:=resOf 83
noncomputable def K83_prrr:KR:=(cutK (Lv.b (Lv.b (Lv.b (A 83)))).c (codeE P cal (codeF P cal k) none 83 (cR (cR (cR (cR code83)))) (Lv.b (Lv.b (Lv.b (Lv.b (A 83))))) (doneK P results83) X0 (doneK P results83)))
noncomputable def K83_pxrrrlr:XR:=(upX 0 (K83_prrr cal k) X0)
noncomputable def K83_prrrlrl (m1:Nat):KR:=(fun T H n D=>codeF P cal m1 (Lv.a (Lv.b (Lv.a (Lv.b (Lv.b (Lv.b (A 83))))))) none 83 (cL (cR (cL (cR (cR (cR code83)))))) (K83_prrr cal k) (K83_pxrrrlr cal k) (doneK P results83) (cutT (Lv.a (Lv.b (Lv.a (Lv.b (Lv.b (Lv.b (A 83))))))).c T) H n D)
noncomputable def T83_3 (m1:Nat):=fun(u0 u1 u5 u6:Value) (H:Hp) (n:Nat)=>labK (codeE P cal (codeF P cal m1) none 83 (cR (cR (cL (cL (cR (cL (cR (cR (cR code83))))))))) (Lv.b (Lv.b (Lv.a (Lv.a (Lv.b (Lv.a (Lv.b (Lv.b (Lv.b (A 83)))))))))) (K83_prrrlrl cal k m1) (K83_pxrrrlr cal k) (doneK P results83)) (Tr.set (Tr.set (Tr.set (Tr.set Tr.nil 6 (some u6)) 5 (some u5)) 1 (some u1)) 0 (some u0)) H n []
noncomputable def T83_2 (m1:Nat):=fun(u0 u1 u5 u6:Value) (H:Hp) (n:Nat)=>labK (codeE P cal (codeF P cal m1) none 83 (cL (cL (cR (cL (cR (cR (cR code83))))))) (Lv.a (Lv.a (Lv.b (Lv.a (Lv.b (Lv.b (Lv.b (A 83)))))))) (K83_prrrlrl cal k m1) (K83_pxrrrlr cal k) (doneK P results83)) (Tr.set (Tr.set (Tr.set (Tr.set Tr.nil 6 (some u6)) 5 (some u5)) 1 (some u1)) 0 (some u0)) H n []
noncomputable def R83_2 (m1:Nat):V4:=fun u0 u1 u5 u6 H n=>codeF P cal m1 (Lv.a (Lv.b (Lv.a (Lv.b (Lv.b (Lv.b (A 83))))))) none 83 (cL (cR (cL (cR (cR (cR code83)))))) (K83_prrr cal k) (K83_pxrrrlr cal k) (doneK P results83) (Tr.set (Tr.set (Tr.set (Tr.set Tr.nil 6 (some u6)) 5 (some u5)) 1 (some u1)) 0 (some u0)) H n []
noncomputable def T83_1:=fun(u0 u1:Value) (H:Hp) (n:Nat)=>labK (codeE P cal (codeF P cal k) none 83 (cR (cR code83)) (Lv.b (Lv.b (A 83))) (doneK P results83) X0 (doneK P results83)) (Tr.set (Tr.set Tr.nil 1 (some u1)) 0 (some u0)) H n []
noncomputable def B83_3 (cal:Cal) (k m1:Nat) (b2:V4) (u0 u1 u5 u6:Value) (H:Hp) (n:Nat):Res:=
binK P BinOp.add 3 (Operand.tmp 18) (Operand.const (Value.int IntKind.i64 1)) u6 (Value.int IntKind.i64 1) fun v_d=>
b2 u0 u1 u5 v_d H n
noncomputable def C83_3 (m1:Nat):=B83_3 cal k m1
theorem h83_3 (m1:Nat):T83_3 cal k m1=C83_3 cal k m1 (R83_2 cal k m1):=by kernel_rfl
noncomputable def B83_2 (cal:Cal) (k m1:Nat) (j3:V4) (b2:V4) (u0 u1 u5 u6:Value) (H:Hp) (n:Nat):Res:=
bindO (lenV P 27 u0) fun v_a=>
binK P BinOp.lss 3 (Operand.tmp 14) (Operand.tmp 16) u6 v_a fun v_b=>
ifK v_b (
bindO (indexAddrV P 27 u0 u6) fun v_i=>
bindO (addrV v_i) fun a_k=>bindO (loadV P H 3 a_k) fun v_j=>
callVK P cal u1 [v_j,u5] H n fun v_m H_n n_o=>
binK P BinOp.gtr 3 (Operand.tmp 26) (Operand.const (Value.int IntKind.i64 0)) v_m (Value.int IntKind.i64 0) fun v_p=>
ifK v_p (
bindO (indexAddrV P 27 u0 u6) fun v_s=>
bindO (addrV v_s) fun a_u=>bindO (loadV P H_n 3 a_u) fun v_t=>
j3 u0 u1 v_t u6 H_n n_o) (
j3 u0 u1 u5 u6 H_n n_o)) (
some (u5,H,n))
noncomputable def C83_2 (m1:Nat) (b2:V4):=B83_2 cal k m1 (C83_3 cal k m1 b2) b2
noncomputable def S83_2:Nat→V4:=recF (C83_2 cal k) (fun _ _ _ _ _ _=>none)
theorem h83_2 (m1:Nat):T83_2 cal k m1=C83_2 cal k m1 (R83_2 cal k m1):=Eq.trans (b:=B83_2 cal k m1 (T83_3 cal k m1) (R83_2 cal k m1)) (by kernel_rfl) (by rw[h83_3]; rfl)
theorem q83_2 (m:Nat):T83_2 cal k m=S83_2 cal k m:=recS (h83_2 cal k) (by kernel_rfl) (fun m=>by kernel_rfl) m
noncomputable def B83_1 (cal:Cal) (k:Nat) (j2:V4) (u0 u1:Value) (H:Hp) (n:Nat):Res:=
bindO (indexAddrV P 27 u0 (Value.int IntKind.i64 0)) fun v_3=>
bindO (addrV v_3) fun a_5=>bindO (loadV P H 3 a_5) fun v_4=>
j2 u0 u1 v_4 (Value.int IntKind.i64 1) H n
noncomputable def C83_1:=B83_1 cal k (S83_2 cal k k)
theorem h83_1:T83_1 cal k=C83_1 cal k:=Eq.trans (b:=B83_1 cal k (T83_2 cal k k)) (by kernel_rfl) (by rw[q83_2]; rfl)
noncomputable def B83_0 (cal:Cal) (k:Nat) (j1:V2) (v0 v1:Value) (H:Hp) (n:Nat):Res:=
bindO (lenV P 27 v0) fun v_z=>
binK P BinOp.lss 3 (Operand.tmp 8) (Operand.const (Value.int IntKind.i64 1)) v_z (Value.int IntKind.i64 1) fun v_10=>
ifK v_10 (
none) (
j1 v0 v1 H n)
noncomputable def C83_0:=B83_0 cal k (C83_1 cal k)
theorem h83_0 (v0 v1:Value) (H:Hp) (n:Nat):bodyE P cal A (k+1) 83 [v0,v1] H n=C83_0 cal k v0 v1 H n:=(bq Go.Proofs.Tryz.f83 code83 results83 (by kernel_rfl)).trans (Eq.trans (b:=B83_0 cal k (T83_1 cal k) v0 v1 H n) (by kernel_rfl) (by rw[h83_1]; rfl))
noncomputable def code84:Code:=codeOf 84
noncomputable def results84:List ResultVar:=resOf 84
noncomputable def B84_0 (cal:Cal) (k:Nat) (v0 v1 v2 v3:Value) (H:Hp) (n:Nat):Res:=
bindO (addrV v2) fun a_2=>bindO (loadV P H 141 a_2) fun v_3=>
bindO (addrV v3) fun a_4=>bindO (loadV P H 3 a_4) fun v_5=>
bindO (buildP P 146 [(0,v_5),(1,v0)]) fun v_7=>
bindO (lookupV P H 141 v_3 v_7 false) fun v_8=>
bindO (addrV v2) fun a_9=>bindO (loadV P H 141 a_9) fun v_a=>
bindO (addrV v3) fun a_b=>bindO (loadV P H 3 a_b) fun v_c=>
bindO (buildP P 146 [(0,v_c),(1,v1)]) fun v_e=>
bindO (lookupV P H 141 v_a v_e false) fun v_f=>
callFK P cal 85 [v_8,v_f] H n fun v_g H_h n_i=>
some (v_g,H_h,n_i)
noncomputable def C84_0:=B84_0 cal k
theorem h84_0 (v0 v1 v2 v3:Value) (H:Hp) (n:Nat):bodyE P cal A (k+1) 84 [v0,v1,v2,v3] H n=C84_0 cal k v0 v1 v2 v3 H n:=(bq Go.Proofs.Tryz.f84 code84 results84 (by kernel_rfl)).trans (by kernel_rfl)
noncomputable def code85:Code:=codeOf 85
noncomputable def results85:List ResultVar:=resOf 85
noncomputable def B85_0 (cal:Cal) (k:Nat) (v0 v1:Value) (H:Hp) (n:Nat):Res:=
callFK P cal 100 [v0] H n fun v_3 H_4 n_5=>
callFK P cal 100 [v1] H_4 n_5 fun v_8 H_9 n_a=>
ifK v_3 (
ifK v_8 (
some ((Value.int IntKind.i64 0),H_9,n_a)) (
some ((Value.int IntKind.i64 (-1)),H_9,n_a))) (
ifK v_8 (
some ((Value.int IntKind.i64 1),H_9,n_a)) (
binK P BinOp.lss 3 (Operand.tmp 14) (Operand.tmp 15) v0 v1 fun v_k=>
ifK v_k (
some ((Value.int IntKind.i64 (-1)),H_9,n_a)) (
binK P BinOp.gtr 3 (Operand.tmp 17) (Operand.tmp 18) v0 v1 fun v_o=>
ifK v_o (
some ((Value.int IntKind.i64 1),H_9,n_a)) (
some ((Value.int IntKind.i64 0),H_9,n_a)))))
noncomputable def C85_0:=B85_0 cal k
theorem h85_0 (v0 v1:Value) (H:Hp) (n:Nat):bodyE P cal A (k+1) 85 [v0,v1] H n=C85_0 cal k v0 v1 H n:=(bq Go.Proofs.Tryz.f85 code85 results85 (by kernel_rfl)).trans (by kernel_rfl)
noncomputable def code86:Code:=codeOf 86
noncomputable def results86:List ResultVar:=resOf 86
noncomputable def B86_0 (cal:Cal) (k:Nat) (v0 v1:Value) (H:Hp) (n:Nat):Res:=
boxK 41 v0 H n fun v_1 H_2 n_3=>
binK P BinOp.geq 3 (Operand.tmp 5) (Operand.const (Value.int IntKind.i64 0)) v1 (Value.int IntKind.i64 0) fun v_6=>
guardK v_6 true (fun k_8=>
k_8 v1 H_2 n_3) H_2 n_3 fun v_9 H_a n_b=>
guardK v_6 true (fun k_d=>
bindO (fieldAddrV P 41 v_1 0) fun v_h=>
k_d v_h H_a n_b) H_a n_b fun v_e H_f n_g=>
guardK v_6 true (fun k_i=>
bindO (fieldAddrV P 39 v_e 0) fun v_m=>
k_i v_m H_f n_g) H_f n_g fun v_j H_k n_l=>
guardK v_6 true (fun k_n=>
bindO (addrV v_j) fun a_s=>bindO (loadV P H_k 35 a_s) fun v_r=>
k_n v_r H_k n_l) H_k n_l fun v_o H_p n_q=>
guardK v_6 true (fun k_t=>
bindO (lenV P 35 v_o) fun v_x=>
k_t v_x H_p n_q) H_p n_q fun v_u H_v n_w=>
guardK v_6 true (fun k_y=>
binK P BinOp.lss 3 (Operand.tmp 8) (Operand.tmp 12) v_9 v_u fun v_12=>
k_y v_12 H_v n_w) H_v n_w fun v_z H_10 n_11=>
bindO (pickV v_6 v_z (Value.bool false)) fun v_13=>
some (v_13,H_10,n_11)
noncomputable def C86_0:=B86_0 cal k
theorem h86_0 (v0 v1:Value) (H:Hp) (n:Nat):bodyE P cal A (k+1) 86 [v0,v1] H n=C86_0 cal k v0 v1 H n:=(bq Go.Proofs.Tryz.f86 code86 results86 (by kernel_rfl)).trans (by kernel_rfl)
noncomputable def code87:Code:=codeOf 87
noncomputable def results87:List ResultVar:=resOf 87
noncomputable def B87_0 (cal:Cal) (k:Nat) (v0 v1:Value) (H:Hp) (n:Nat):Res:=
rowK P 27 1 [(0,v1)] H n fun v_4 H_5 n_6=>
callFK P cal 76 [v_4] H_5 n_6 fun v_7 H_8 n_9=>
callFK P cal 88 [v0,v_7] H_8 n_9 fun v_a H_b n_c=>
some (v_a,H_b,n_c)
noncomputable def C87_0:=B87_0 cal k
theorem h87_0 (v0 v1:Value) (H:Hp) (n:Nat):bodyE P cal A (k+1) 87 [v0,v1] H n=C87_0 cal k v0 v1 H n:=(bq Go.Proofs.Tryz.f87 code87 results87 (by kernel_rfl)).trans (by kernel_rfl)
noncomputable def code88:Code:=codeOf 88
noncomputable def results88:List ResultVar:=resOf 88
noncomputable def B88_0 (cal:Cal) (k:Nat) (v0 v1:Value) (H:Hp) (n:Nat):Res:=
binK P BinOp.and 101 (Operand.tmp 5) (Operand.tmp 6) v0 v1 fun v_4=>
binK P BinOp.neq 101 (Operand.tmp 7) (Operand.const (Value.int IntKind.u64 0)) v_4 (Value.int IntKind.u64 0) fun v_5=>
some (v_5,H,n)
noncomputable def C88_0:=B88_0 cal k
theorem h88_0 (v0 v1:Value) (H:Hp) (n:Nat):bodyE P cal A (k+1) 88 [v0,v1] H n=C88_0 cal k v0 v1 H n:=(bq Go.Proofs.Tryz.f88 code88 results88 (by kernel_rfl)).trans (by kernel_rfl)
noncomputable def code89:Code:=codeOf 89
noncomputable def results89:List ResultVar:=resOf 89
noncomputable def B89_0 (cal:Cal) (k:Nat) (v0:Value) (H:Hp) (n:Nat):Res:=
callFK P cal 101 [v0] H n fun v_3 H_4 n_5=>
some (v_3,H_4,n_5)
noncomputable def C89_0:=B89_0 cal k
theorem h89_0 (v0:Value) (H:Hp) (n:Nat):bodyE P cal A (k+1) 89 [v0] H n=C89_0 cal k v0 H n:=(bq Go.Proofs.Tryz.f89 code89 results89 (by kernel_rfl)).trans (by kernel_rfl)
noncomputable def code90:Code:=codeOf 90
noncomputable def results90:List ResultVar:=resOf 90
noncomputable def K90_pr:KR:=(cutK (Lv.b (A 90)).c (codeE P cal (codeF P cal k) none 90 (cR (cR code90)) (Lv.b (Lv.b (A 90))) (doneK P results90) X0 (doneK P results90)))
noncomputable def K90_pxrlr:XR:=(upX 0 (K90_pr cal k) X0)
noncomputable def K90_prlrl (m1:Nat):KR:=(fun T H n D=>codeF P cal m1 (Lv.a (Lv.b (Lv.a (Lv.b (A 90))))) none 90 (cL (cR (cL (cR code90)))) (K90_pr cal k) (K90_pxrlr cal k) (doneK P results90) (cutT (Lv.a (Lv.b (Lv.a (Lv.b (A 90))))).c T) H n D)
noncomputable def T90_1 (m1:Nat):=fun(u0 u7 u8 u9:Value) (H:Hp) (n:Nat)=>labK (codeE P cal (codeF P cal m1) none 90 (cL (cL (cR (cL (cR code90))))) (Lv.a (Lv.a (Lv.b (Lv.a (Lv.b (A 90)))))) (K90_prlrl cal k m1) (K90_pxrlr cal k) (doneK P results90)) (Tr.set (Tr.set (Tr.set (Tr.set Tr.nil 9 (some u9)) 8 (some u8)) 7 (some u7)) 0 (some u0)) H n []
noncomputable def R90_1 (m1:Nat):V4:=fun u0 u7 u8 u9 H n=>codeF P cal m1 (Lv.a (Lv.b (Lv.a (Lv.b (A 90))))) none 90 (cL (cR (cL (cR code90)))) (K90_pr cal k) (K90_pxrlr cal k) (doneK P results90) (Tr.set (Tr.set (Tr.set (Tr.set Tr.nil 9 (some u9)) 8 (some u8)) 7 (some u7)) 0 (some u0)) H n []
noncomputable def B90_1 (cal:Cal) (k m1:Nat) (b1:V4) (u0 u7 u8 u9:Value) (H:Hp) (n:Nat):Res:=
binK P BinOp.lss 3 (Operand.tmp 9) (Operand.tmp 8) u9 u8 fun v_5=>
ifK v_5 (
bindO (indexAddrV P 27 u7 u9) fun v_6=>
bindO (addrV v_6) fun a_8=>bindO (loadV P H 3 a_8) fun v_7=>
builtinK P .max [3,3] (Call.mk (Callee.builtin Builtin.max) #[(Operand.tmp 13),(Operand.tmp 14)] #[3,3]) 3 [u0,v_7] H n fun v_c H_d n_e=>
binK P BinOp.add 3 (Operand.tmp 9) (Operand.const (Value.int IntKind.i64 1)) u9 (Value.int IntKind.i64 1) fun v_g=>
b1 v_c u7 u8 v_g H_d n_e) (
some (u0,H,n))
noncomputable def C90_1 (m1:Nat):=B90_1 cal k m1
noncomputable def S90_1:Nat→V4:=recF (C90_1 cal k) (fun _ _ _ _ _ _=>none)
theorem h90_1 (m1:Nat):T90_1 cal k m1=C90_1 cal k m1 (R90_1 cal k m1):=by kernel_rfl
theorem q90_1 (m:Nat):T90_1 cal k m=S90_1 cal k m:=recS (h90_1 cal k) (by kernel_rfl) (fun m=>by kernel_rfl) m
noncomputable def B90_0 (cal:Cal) (k:Nat) (j1:V4) (v0 v1:Value) (H:Hp) (n:Nat):Res:=
bindO (lenV P 27 v1) fun v_3=>
j1 v0 v1 v_3 (Value.int IntKind.i64 0) H n
noncomputable def C90_0:=B90_0 cal k (S90_1 cal k k)
theorem h90_0 (v0 v1:Value) (H:Hp) (n:Nat):bodyE P cal A (k+1) 90 [v0,v1] H n=C90_0 cal k v0 v1 H n:=(bq Go.Proofs.Tryz.f90 code90 results90 (by kernel_rfl)).trans (Eq.trans (b:=B90_0 cal k (T90_1 cal k k) v0 v1 H n) (by kernel_rfl) (by rw[q90_1]; rfl))
noncomputable def code91:Code:=codeOf 91
noncomputable def results91:List ResultVar:=resOf 91
noncomputable def K91_prr:KR:=(cutK (Lv.b (Lv.b (A 91))).c (codeE P cal (codeF P cal k) none 91 (cR (cR (cR code91))) (Lv.b (Lv.b (Lv.b (A 91)))) (doneK P results91) X0 (doneK P results91)))
noncomputable def K91_pxrrlr:XR:=(upX 0 (K91_prr cal k) X0)
noncomputable def K91_prrlrl (m1:Nat):KR:=(fun T H n D=>codeF P cal m1 (Lv.a (Lv.b (Lv.a (Lv.b (Lv.b (A 91)))))) none 91 (cL (cR (cL (cR (cR code91))))) (K91_prr cal k) (K91_pxrrlr cal k) (doneK P results91) (cutT (Lv.a (Lv.b (Lv.a (Lv.b (Lv.b (A 91)))))).c T) H n D)
noncomputable def T91_2 (m1:Nat):=fun(u1 u5 u13 u14:Value) (H:Hp) (n:Nat)=>labK (codeE P cal (codeF P cal m1) none 91 (cR (cR (cR (cL (cL (cR (cL (cR (cR code91))))))))) (Lv.b (Lv.b (Lv.b (Lv.a (Lv.a (Lv.b (Lv.a (Lv.b (Lv.b (A 91)))))))))) (K91_prrlrl cal k m1) (K91_pxrrlr cal k) (doneK P results91)) (Tr.set (Tr.set (Tr.set (Tr.set Tr.nil 14 (some u14)) 13 (some u13)) 5 (some u5)) 1 (some u1)) H n []
noncomputable def T91_1 (m1:Nat):=fun(u1 u5 u13 u14:Value) (H:Hp) (n:Nat)=>labK (codeE P cal (codeF P cal m1) none 91 (cL (cL (cR (cL (cR (cR code91)))))) (Lv.a (Lv.a (Lv.b (Lv.a (Lv.b (Lv.b (A 91))))))) (K91_prrlrl cal k m1) (K91_pxrrlr cal k) (doneK P results91)) (Tr.set (Tr.set (Tr.set (Tr.set Tr.nil 14 (some u14)) 13 (some u13)) 5 (some u5)) 1 (some u1)) H n []
noncomputable def R91_1 (m1:Nat):V4:=fun u1 u5 u13 u14 H n=>codeF P cal m1 (Lv.a (Lv.b (Lv.a (Lv.b (Lv.b (A 91)))))) none 91 (cL (cR (cL (cR (cR code91))))) (K91_prr cal k) (K91_pxrrlr cal k) (doneK P results91) (Tr.set (Tr.set (Tr.set (Tr.set Tr.nil 14 (some u14)) 13 (some u13)) 5 (some u5)) 1 (some u1)) H n []
noncomputable def B91_2 (cal:Cal) (k m1:Nat) (b1:V4) (u1 u5 u13 u14:Value) (H:Hp) (n:Nat):Res:=
binK P BinOp.add 101 (Operand.tmp 14) (Operand.const (Value.int IntKind.u64 1)) u14 (Value.int IntKind.u64 1) fun v_d=>
b1 u1 u5 u13 v_d H n
noncomputable def C91_2 (m1:Nat):=B91_2 cal k m1
theorem h91_2 (m1:Nat):T91_2 cal k m1=C91_2 cal k m1 (R91_1 cal k m1):=by kernel_rfl
noncomputable def B91_1 (cal:Cal) (k m1:Nat) (j2:V4) (b1:V4) (u1 u5 u13 u14:Value) (H:Hp) (n:Nat):Res:=
binK P BinOp.lss 101 (Operand.tmp 14) (Operand.tmp 13) u14 u13 fun v_c=>
ifK v_c (
callFK P cal 89 [u14] H n fun v_i H_j n_k=>
binK P BinOp.leq 3 (Operand.tmp 18) (Operand.tmp 19) v_i u1 fun v_m=>
ifK v_m (
rowK P 93 1 [(0,u14)] H_j n_k fun v_p H_q n_r=>
stK (appendV P (bare H_q n_r) 93 93 u5 v_p) fun v_s H_t n_u=>
j2 u1 v_s u13 u14 H_t n_u) (
j2 u1 u5 u13 u14 H_j n_k)) (
callFK P cal 103 [] H n fun v_x H_y n_z=>
callFK P cal 102 [u5,(Value.func (Fn.func 104) ⟨[v_x]⟩ ⟨[]⟩)] H_y n_z fun v_11 H_12 n_13=>
some (u5,H_12,n_13))
noncomputable def C91_1 (m1:Nat) (b1:V4):=B91_1 cal k m1 (C91_2 cal k m1 b1) b1
noncomputable def S91_1:Nat→V4:=recF (C91_1 cal k) (fun _ _ _ _ _ _=>none)
theorem h91_1 (m1:Nat):T91_1 cal k m1=C91_1 cal k m1 (R91_1 cal k m1):=Eq.trans (b:=B91_1 cal k m1 (T91_2 cal k m1) (R91_1 cal k m1)) (by kernel_rfl) (by rw[h91_2]; rfl)
theorem q91_1 (m:Nat):T91_1 cal k m=S91_1 cal k m:=recS (h91_1 cal k) (by kernel_rfl) (fun m=>by kernel_rfl) m
noncomputable def B91_0 (cal:Cal) (k:Nat) (j1:V4) (v0 v1:Value) (H:Hp) (n:Nat):Res:=
bindO (nilV v0) fun v_4=>
bindO (fieldAddrV P 104 v_4 0) fun v_5=>
bindO (fieldAddrV P 41 v_5 2) fun v_6=>
bindO (addrV v_6) fun a_8=>bindO (loadV P H 27 a_8) fun v_7=>
bindO (lenV P 27 v_7) fun v_9=>
binK P BinOp.shl 101 (Operand.const (Value.int IntKind.u64 1)) (Operand.tmp 12) (Value.int IntKind.u64 1) v_9 fun v_a=>
j1 v1 (Value.slice none 0 0) v_a (Value.int IntKind.u64 0) H n
noncomputable def C91_0:=B91_0 cal k (S91_1 cal k k)
theorem h91_0 (v0 v1:Value) (H:Hp) (n:Nat):bodyE P cal A (k+1) 91 [v0,v1] H n=C91_0 cal k v0 v1 H n:=(bq Go.Proofs.Tryz.f91 code91 results91 (by kernel_rfl)).trans (Eq.trans (b:=B91_0 cal k (T91_1 cal k k) v0 v1 H n) (by kernel_rfl) (by rw[q91_1]; rfl))
noncomputable def code92:Code:=codeOf 92
noncomputable def results92:List ResultVar:=resOf 92
noncomputable def K92_prr:KR:=(cutK (Lv.b (Lv.b (A 92))).c (codeE P cal (codeF P cal k) none 92 (cR (cR (cR code92))) (Lv.b (Lv.b (Lv.b (A 92)))) (doneK P results92) X0 (doneK P results92)))
noncomputable def K92_pxrrl:XR:=(upX 0 (K92_prr cal k) X0)
noncomputable def K92_prrll (m1:Nat):KR:=(fun T H n D=>codeF P cal m1 (Lv.a (Lv.a (Lv.b (Lv.b (A 92))))) none 92 (cL (cL (cR (cR code92)))) (K92_prr cal k) (K92_pxrrl cal k) (doneK P results92) (cutT (Lv.a (Lv.a (Lv.b (Lv.b (A 92))))).c T) H n D)
noncomputable def T92_1 (m1:Nat):=fun(u0 u3:Value) (H:Hp) (n:Nat)=>labK (codeE P cal (codeF P cal m1) none 92 (cL (cL (cL (cR (cR code92))))) (Lv.a (Lv.a (Lv.a (Lv.b (Lv.b (A 92)))))) (K92_prrll cal k m1) (K92_pxrrl cal k) (doneK P results92)) (Tr.set (Tr.set Tr.nil 3 (some u3)) 0 (some u0)) H n []
noncomputable def R92_1 (m1:Nat):V2:=fun u0 u3 H n=>codeF P cal m1 (Lv.a (Lv.a (Lv.b (Lv.b (A 92))))) none 92 (cL (cL (cR (cR code92)))) (K92_prr cal k) (K92_pxrrl cal k) (doneK P results92) (Tr.set (Tr.set Tr.nil 3 (some u3)) 0 (some u0)) H n []
noncomputable def B92_1 (cal:Cal) (k m1:Nat) (b1:V2) (u0 u3:Value) (H:Hp) (n:Nat):Res:=
bindO (nilV u0) fun v_4=>
bindO (fieldAddrV P 151 v_4 0) fun v_5=>
bindO (addrV v_5) fun a_7=>bindO (loadV P H 149 a_7) fun v_6=>
binK P BinOp.neq 149 (Operand.tmp 7) (Operand.const (Value.pointer none)) v_6 (Value.pointer none) fun v_8=>
ifK v_8 (
bindO (nilV u0) fun v_b=>
bindO (fieldAddrV P 151 v_b 1) fun v_c=>
bindO (addrV v_c) fun a_e=>bindO (loadV P H 101 a_e) fun v_d=>
rowK P 93 1 [(0,v_d)] H n fun v_f H_g n_h=>
stK (appendV P (bare H_g n_h) 93 93 u3 v_f) fun v_i H_j n_k=>
bindO (nilV u0) fun v_n=>
bindO (fieldAddrV P 151 v_n 0) fun v_o=>
bindO (addrV v_o) fun a_q=>bindO (loadV P H_j 149 a_q) fun v_p=>
b1 v_p v_i H_j n_k) (
callFK P cal 105 [u3] H n fun v_t H_u n_v=>
some (u3,H_u,n_v))
noncomputable def C92_1 (m1:Nat):=B92_1 cal k m1
noncomputable def S92_1:Nat→V2:=recF (C92_1 cal k) (fun _ _ _ _=>none)
theorem h92_1 (m1:Nat):T92_1 cal k m1=C92_1 cal k m1 (R92_1 cal k m1):=by kernel_rfl
theorem q92_1 (m:Nat):T92_1 cal k m=S92_1 cal k m:=recS (h92_1 cal k) (by kernel_rfl) (fun m=>by kernel_rfl) m
noncomputable def B92_0 (cal:Cal) (k:Nat) (j1:V2) (v0:Value) (H:Hp) (n:Nat):Res:=
j1 v0 (Value.slice none 0 0) H n
noncomputable def C92_0:=B92_0 cal k (S92_1 cal k k)
theorem h92_0 (v0:Value) (H:Hp) (n:Nat):bodyE P cal A (k+1) 92 [v0] H n=C92_0 cal k v0 H n:=(bq Go.Proofs.Tryz.f92 code92 results92 (by kernel_rfl)).trans (Eq.trans (b:=B92_0 cal k (T92_1 cal k k) v0 H n) (by kernel_rfl) (by rw[q92_1]; rfl))
noncomputable def code93:Code:=codeOf 93
noncomputable def results93:List ResultVar:=resOf 93
noncomputable def K93_p:KR:=(cutK (A 93).c (codeE P cal (codeF P cal k) none 93 (cR code93) (Lv.b (A 93)) (doneK P results93) X0 (doneK P results93)))
noncomputable def K93_pxrrrr (cal:Cal) (k:Nat):XR:=(upX 0 (doneK P results93) X0)
noncomputable def K93_prrrrl (m1:Nat):KR:=(fun T H n D=>codeF P cal m1 (Lv.a (Lv.b (Lv.b (Lv.b (Lv.b (A 93)))))) none 93 (cL (cR (cR (cR (cR code93))))) (doneK P results93) (K93_pxrrrr cal k) (doneK P results93) (cutT (Lv.a (Lv.b (Lv.b (Lv.b (Lv.b (A 93)))))).c T) H n D)
noncomputable def T93_1:=fun(H:Hp) (n:Nat)=>labK (codeE P cal (codeF P cal k) none 93 (cR (cL (cR (cL code93)))) (Lv.b (Lv.a (Lv.b (Lv.a (A 93))))) (K93_p cal k) X0 (doneK P results93)) Tr.nil H n []
noncomputable def T93_3 (m1:Nat):=fun(u0 u6 u35 u36 u37:Value) (H:Hp) (n:Nat)=>labK (codeE P cal (codeF P cal m1) none 93 (cL (cL (cR (cR (cR (cR code93)))))) (Lv.a (Lv.a (Lv.b (Lv.b (Lv.b (Lv.b (A 93))))))) (K93_prrrrl cal k m1) (K93_pxrrrr cal k) (doneK P results93)) (Tr.set (Tr.set (Tr.set (Tr.set (Tr.set Tr.nil 37 (some u37)) 36 (some u36)) 35 (some u35)) 6 (some u6)) 0 (some u0)) H n []
noncomputable def R93_3 (m1:Nat):V5:=fun u0 u6 u35 u36 u37 H n=>codeF P cal m1 (Lv.a (Lv.b (Lv.b (Lv.b (Lv.b (A 93)))))) none 93 (cL (cR (cR (cR (cR code93))))) (doneK P results93) (K93_pxrrrr cal k) (doneK P results93) (Tr.set (Tr.set (Tr.set (Tr.set (Tr.set Tr.nil 37 (some u37)) 36 (some u36)) 35 (some u35)) 6 (some u6)) 0 (some u0)) H n []
noncomputable def T93_2:=fun(u0 u6 u9:Value) (H:Hp) (n:Nat)=>labK (codeE P cal (codeF P cal k) none 93 (cR (cR (cR code93))) (Lv.b (Lv.b (Lv.b (A 93)))) (doneK P results93) X0 (doneK P results93)) (Tr.set (Tr.set (Tr.set Tr.nil 9 (some u9)) 6 (some u6)) 0 (some u0)) H n []
noncomputable def B93_1 (cal:Cal) (k:Nat) (H:Hp) (n:Nat):Res:=
some ((Value.tuple ⟨[]⟩),H,n)
noncomputable def C93_1:=B93_1 cal k 
theorem h93_1:T93_1 cal k=C93_1 cal k  := by kernel_rfl
noncomputable def B93_3 (cal:Cal) (k m1:Nat) (b3:V5) (u0 u6 u35 u36 u37:Value) (H:Hp) (n:Nat):Res:=
binK P BinOp.lss 3 (Operand.tmp 37) (Operand.tmp 36) u37 u36 fun v_17=>
ifK v_17 (
bindO (indexAddrV P 93 u35 u37) fun v_18=>
bindO (addrV v_18) fun a_1a=>bindO (loadV P H 101 a_1a) fun v_19=>
bindO (addrV u6) fun a_1c=>bindO (loadV P H 156 a_1c) fun v_1d=>
bindO (rowOf P 93 1 [(0,v_19)]) fun q_1i=>newK q_1i.1 q_1i.2 H n fun H_1g n_1h=>
effK P [(.l 156 a_1c)] H_1g n_1h (fun H_1j n_1k k_1l=>
stK (appendV P (bare H_1j n_1k) 93 93 u0 (.slice (some ⟨n,0,none⟩) 1 1)) fun v_1p H_1q n_1r=>
k_1l v_1p H_1q n_1r) fun v_1m H_1n n_1o=>
callVK P cal v_1d [v_1m] H_1n n_1o fun v_1s H_1t n_1u=>
binK P BinOp.add 3 (Operand.tmp 37) (Operand.const (Value.int IntKind.i64 1)) u37 (Value.int IntKind.i64 1) fun v_1v=>
b3 u0 u6 u35 u36 v_1v H_1t n_1u) (
some ((Value.tuple ⟨[]⟩),H,n))
noncomputable def C93_3 (m1:Nat):=B93_3 cal k m1
noncomputable def S93_3:Nat→V5:=recF (C93_3 cal k) (fun _ _ _ _ _ _ _=>none)
theorem h93_3 (m1:Nat):T93_3 cal k m1=C93_3 cal k m1 (R93_3 cal k m1):=by kernel_rfl
theorem q93_3 (m:Nat):T93_3 cal k m=S93_3 cal k m:=recS (h93_3 cal k) (by kernel_rfl) (fun m=>by kernel_rfl) m
noncomputable def B93_2 (cal:Cal) (k:Nat) (j3:V5) (u0 u6 u9:Value) (H:Hp) (n:Nat):Res:=
bindO (lenV P 93 u9) fun v_15=>
j3 u0 u6 u9 v_15 (Value.int IntKind.i64 0) H n
noncomputable def C93_2:=B93_2 cal k (S93_3 cal k k)
theorem h93_2:T93_2 cal k=C93_2 cal k:=Eq.trans (b:=B93_2 cal k (T93_3 cal k k)) (by kernel_rfl) (by rw[q93_3]; rfl)
noncomputable def B93_0 (cal:Cal) (k:Nat) (j1:V0) (j2:V3) (v0 v1 v2 v3 v4 v5 v6:Value) (H:Hp) (n:Nat):Res:=
bindO (lenV P 93 v0) fun v_2=>
bindO (addrV v1) fun a_4=>bindO (loadV P H 3 a_4) fun v_3=>
binK P BinOp.eql 3 (Operand.tmp 13) (Operand.tmp 14) v_2 v_3 fun v_5=>
ifK v_5 (
bindO (addrV v2) fun a_6=>bindO (loadV P H 92 a_6) fun v_7=>
bindO (addrV v2) fun a_8=>bindO (loadV P H 92 a_8) fun v_9=>
effK P [(.l 92 a_6)] H n (fun H_b n_c k_d=>
callFK P cal 57 [v_9,v0] H_b n_c fun v_h H_i n_j=>
k_d v_h H_i n_j) fun v_e H_f n_g=>
callFK P cal 58 [v_7,v_e] H_f n_g fun v_k H_l n_m=>
bindO (addrV v3) fun a_q=>bindO (loadV P H_l 3 a_q) fun v_p=>
binK P BinOp.lss 3 (Operand.tmp 21) (Operand.tmp 22) v_k v_p fun v_r=>
ifK v_r (
callFK P cal 94 [v0] H_l n_m fun v_t H_u n_v=>
bindO (storeP P 93 v4 v_t H_u) fun H_y=>
bindO (storeP P 3 v3 v_k H_y) fun H_10=>
j1  H_10 n_v) (
j1  H_l n_m)) (
bindO (addrV v5) fun a_12=>bindO (loadV P H 93 a_12) fun v_11=>
bindO (lenV P 93 v0) fun v_1y=>
bindO (addrV v1) fun a_20=>bindO (loadV P H 3 a_20) fun v_1z=>
binK P BinOp.sub 3 (Operand.tmp 30) (Operand.const (Value.int IntKind.i64 1)) v_1z (Value.int IntKind.i64 1) fun v_21=>
binK P BinOp.eql 3 (Operand.tmp 29) (Operand.tmp 31) v_1y v_21 fun v_22=>
ifK v_22 (
bindO (addrV v5) fun a_24=>bindO (loadV P H 93 a_24) fun v_23=>
bindO (sliceV P 93 v_23 none (some (Value.int IntKind.i64 1))) fun v_25=>
j2 v0 v6 v_25 H n) (
j2 v0 v6 v_11 H n))
noncomputable def C93_0:=B93_0 cal k (C93_1 cal k) (C93_2 cal k)
theorem h93_0 (v0 v1 v2 v3 v4 v5 v6:Value) (H:Hp) (n:Nat):bodyE P cal A (k+1) 93 [v0,v1,v2,v3,v4,v5,v6] H n=C93_0 cal k v0 v1 v2 v3 v4 v5 v6 H n:=(bq Go.Proofs.Tryz.f93 code93 results93 (by kernel_rfl)).trans (Eq.trans (b:=B93_0 cal k (fun  H n=>T93_1 cal k H n) (T93_2 cal k) v0 v1 v2 v3 v4 v5 v6 H n) (by kernel_rfl) (by rw[h93_1,h93_2]; rfl))
noncomputable def code94:Code:=codeOf 94
noncomputable def results94:List ResultVar:=resOf 94
noncomputable def B94_0 (cal:Cal) (k:Nat) (v0:Value) (H:Hp) (n:Nat):Res:=
binK P BinOp.eql 93 (Operand.tmp 3) (Operand.const (Value.slice none 0 0)) v0 (Value.slice none 0 0) fun v_3=>
ifK v_3 (
some ((Value.slice none 0 0),H,n)) (
rowK P 93 0 [] H n fun v_5 H_6 n_7=>
stK (appendV P (bare H_6 n_7) 93 93 v_5 v0) fun v_9 H_a n_b=>
some (v_9,H_a,n_b))
noncomputable def C94_0:=B94_0 cal k
theorem h94_0 (v0:Value) (H:Hp) (n:Nat):bodyE P cal A (k+1) 94 [v0] H n=C94_0 cal k v0 H n:=(bq Go.Proofs.Tryz.f94 code94 results94 (by kernel_rfl)).trans (by kernel_rfl)
noncomputable def code95:Code:=codeOf 95
noncomputable def results95:List ResultVar:=resOf 95
noncomputable def K95_pr:KR:=(cutK (Lv.b (A 95)).c (codeE P cal (codeF P cal k) none 95 (cR (cR code95)) (Lv.b (Lv.b (A 95))) (doneK P results95) X0 (doneK P results95)))
noncomputable def K95_pxrl:XR:=(upX 0 (K95_pr cal k) X0)
noncomputable def T95_3:=fun(u25:Value) (H:Hp) (n:Nat)=>labK (codeE P cal (codeF P cal k) none 95 (cR (cR (cR (cR (cR (cL (cL (cR code95)))))))) (Lv.b (Lv.b (Lv.b (Lv.b (Lv.b (Lv.a (Lv.a (Lv.b (A 95))))))))) (K95_pr cal k) (K95_pxrl cal k) (doneK P results95)) (Tr.set Tr.nil 25 (some u25)) H n []
noncomputable def T95_2:=fun(u1 u16:Value) (H:Hp) (n:Nat)=>labK (codeE P cal (codeF P cal k) none 95 (cR (cR (cR (cL (cL (cR code95)))))) (Lv.b (Lv.b (Lv.b (Lv.a (Lv.a (Lv.b (A 95))))))) (K95_pr cal k) (K95_pxrl cal k) (doneK P results95)) (Tr.set (Tr.set Tr.nil 16 (some u16)) 1 (some u1)) H n []
noncomputable def T95_1:=fun(u1 u3:Value) (H:Hp) (n:Nat)=>labK (codeE P cal (codeF P cal k) none 95 (cR (cL (cL (cR code95)))) (Lv.b (Lv.a (Lv.a (Lv.b (A 95))))) (K95_pr cal k) (K95_pxrl cal k) (doneK P results95)) (Tr.set (Tr.set Tr.nil 3 (some u3)) 1 (some u1)) H n []
noncomputable def B95_3 (cal:Cal) (k:Nat) (u25:Value) (H:Hp) (n:Nat):Res:=
ifK u25 (
some ((Value.int IntKind.i64 1),H,n)) (
some ((Value.int IntKind.i64 0),H,n))
noncomputable def C95_3:=B95_3 cal k
theorem h95_3:T95_3 cal k=C95_3 cal k:=by kernel_rfl
noncomputable def B95_2 (cal:Cal) (k:Nat) (j3:V1) (u1 u16:Value) (H:Hp) (n:Nat):Res:=
ifK u16 (
some ((Value.int IntKind.i64 1),H,n)) (
bindO (fieldAddrV P 39 u1 0) fun v_9=>
bindO (addrV v_9) fun a_b=>bindO (loadV P H 35 a_b) fun v_a=>
callFK P cal 106 [v_a,(Value.func (.func 107) #[] #[])] H n fun v_c H_d n_e=>
bindO (pureSem P v_c (Op.unary UnOp.not v_c)) fun v_f=>
ifK v_f (
j3 v_f H_d n_e) (
bindO (fieldAddrV P 39 u1 1) fun v_h=>
bindO (addrV v_h) fun a_j=>bindO (loadV P H_d 36 a_j) fun v_i=>
bindO (addrV u1) fun a_l=>bindO (loadV P H_d 39 a_l) fun v_k=>
callFK P cal 108 [v_i,(Value.func (Fn.func 109) ⟨[v_k]⟩ ⟨[]⟩)] H_d n_e fun v_n H_o n_p=>
bindO (pureSem P v_n (Op.unary UnOp.not v_n)) fun v_q=>
ifK v_q (
j3 v_q H_o n_p) (
bindO (fieldAddrV P 39 u1 2) fun v_s=>
bindO (addrV v_s) fun a_u=>bindO (loadV P H_o 37 a_u) fun v_t=>
callFK P cal 110 [v_t,(Value.func (.func 111) #[] #[])] H_o n_p fun v_v H_w n_x=>
bindO (pureSem P v_v (Op.unary UnOp.not v_v)) fun v_y=>
j3 v_y H_w n_x)))
noncomputable def C95_2:=B95_2 cal k (C95_3 cal k)
theorem h95_2:T95_2 cal k=C95_2 cal k:=Eq.trans (b:=B95_2 cal k (T95_3 cal k)) (by kernel_rfl) (by rw[h95_3]; rfl)
noncomputable def B95_1 (cal:Cal) (k:Nat) (j2:V2) (u1 u3:Value) (H:Hp) (n:Nat):Res:=
ifK u3 (
some ((Value.int IntKind.i64 3),H,n)) (
bindO (fieldAddrV P 39 u1 0) fun v_10=>
bindO (addrV v_10) fun a_12=>bindO (loadV P H 35 a_12) fun v_11=>
bindO (lenV P 35 v_11) fun v_13=>
binK P BinOp.eql 3 (Operand.tmp 19) (Operand.const (Value.int IntKind.i64 0)) v_13 (Value.int IntKind.i64 0) fun v_14=>
ifK v_14 (
j2 u1 v_14 H n) (
bindO (fieldAddrV P 39 u1 2) fun v_16=>
bindO (addrV v_16) fun a_18=>bindO (loadV P H 37 a_18) fun v_17=>
bindO (lenV P 37 v_17) fun v_19=>
binK P BinOp.eql 3 (Operand.tmp 23) (Operand.const (Value.int IntKind.i64 0)) v_19 (Value.int IntKind.i64 0) fun v_1a=>
j2 u1 v_1a H n))
noncomputable def C95_1:=B95_1 cal k (C95_2 cal k)
theorem h95_1:T95_1 cal k=C95_1 cal k:=Eq.trans (b:=B95_1 cal k (T95_2 cal k)) (by kernel_rfl) (by rw[h95_2]; rfl)
noncomputable def B95_0 (cal:Cal) (k:Nat) (j1:V2) (v0:Value) (H:Hp) (n:Nat):Res:=
boxK 39 v0 H n fun v_1 H_2 n_3=>
bindO (fieldAddrV P 39 v_1 0) fun v_1c=>
bindO (addrV v_1c) fun a_1e=>bindO (loadV P H_2 35 a_1e) fun v_1d=>
bindO (lenV P 35 v_1d) fun v_1f=>
binK P BinOp.gtr 3 (Operand.tmp 6) (Operand.const (Value.int IntKind.i64 8)) v_1f (Value.int IntKind.i64 8) fun v_1g=>
ifK v_1g (
j1 v_1 v_1g H_2 n_3) (
bindO (fieldAddrV P 39 v_1 1) fun v_1i=>
bindO (addrV v_1i) fun a_1k=>bindO (loadV P H_2 36 a_1k) fun v_1j=>
bindO (lenV P 36 v_1j) fun v_1l=>
binK P BinOp.gtr 3 (Operand.tmp 10) (Operand.const (Value.int IntKind.i64 16)) v_1l (Value.int IntKind.i64 16) fun v_1m=>
ifK v_1m (
j1 v_1 v_1m H_2 n_3) (
bindO (fieldAddrV P 39 v_1 2) fun v_1o=>
bindO (addrV v_1o) fun a_1q=>bindO (loadV P H_2 37 a_1q) fun v_1p=>
bindO (lenV P 37 v_1p) fun v_1r=>
binK P BinOp.gtr 3 (Operand.tmp 14) (Operand.const (Value.int IntKind.i64 3)) v_1r (Value.int IntKind.i64 3) fun v_1s=>
j1 v_1 v_1s H_2 n_3))
noncomputable def C95_0:=B95_0 cal k (C95_1 cal k)
theorem h95_0 (v0:Value) (H:Hp) (n:Nat):bodyE P cal A (k+1) 95 [v0] H n=C95_0 cal k v0 H n:=(bq Go.Proofs.Tryz.f95 code95 results95 (by kernel_rfl)).trans (Eq.trans (b:=B95_0 cal k (T95_1 cal k) v0 H n) (by kernel_rfl) (by rw[h95_1]; rfl))
noncomputable def code96:Code:=codeOf 96
noncomputable def results96:List ResultVar:=resOf 96
noncomputable def K96_pr:KR:=(cutK (Lv.b (A 96)).c (codeE P cal (codeF P cal k) none 96 (cR (cR code96)) (Lv.b (Lv.b (A 96))) (doneK P results96) X0 (doneK P results96)))
noncomputable def K96_pxrlr:XR:=(upX 0 (K96_pr cal k) X0)
noncomputable def K96_prlrl (m1:Nat):KR:=(fun T H n D=>codeF P cal m1 (Lv.a (Lv.b (Lv.a (Lv.b (A 96))))) none 96 (cL (cR (cL (cR code96)))) (K96_pr cal k) (K96_pxrlr cal k) (doneK P results96) (cutT (Lv.a (Lv.b (Lv.a (Lv.b (A 96))))).c T) H n D)
noncomputable def T96_1 (m1:Nat):=fun(u0 u3:Value) (H:Hp) (n:Nat)=>labK (codeE P cal (codeF P cal m1) none 96 (cL (cL (cR (cL (cR code96))))) (Lv.a (Lv.a (Lv.b (Lv.a (Lv.b (A 96)))))) (K96_prlrl cal k m1) (K96_pxrlr cal k) (doneK P results96)) (Tr.set (Tr.set Tr.nil 3 (some u3)) 0 (some u0)) H n []
noncomputable def R96_1 (m1:Nat):V2:=fun u0 u3 H n=>codeF P cal m1 (Lv.a (Lv.b (Lv.a (Lv.b (A 96))))) none 96 (cL (cR (cL (cR code96)))) (K96_pr cal k) (K96_pxrlr cal k) (doneK P results96) (Tr.set (Tr.set Tr.nil 3 (some u3)) 0 (some u0)) H n []
noncomputable def B96_1 (cal:Cal) (k m1:Nat) (b1:V2) (u0 u3:Value) (H:Hp) (n:Nat):Res:=
bindO (lenV P 27 u0) fun v_5=>
binK P BinOp.lss 3 (Operand.tmp 4) (Operand.tmp 6) u3 v_5 fun v_6=>
ifK v_6 (
bindO (indexAddrV P 27 u0 u3) fun v_9=>
bindO (addrV v_9) fun a_a=>bindO (loadV P H 3 a_a) fun v_b=>
binK P BinOp.sub 3 (Operand.tmp 15) (Operand.const (Value.int IntKind.i64 1)) u3 (Value.int IntKind.i64 1) fun v_e=>
bindO (indexAddrV P 27 u0 v_e) fun v_f=>
bindO (addrV v_f) fun a_g=>bindO (loadV P H 3 a_g) fun v_h=>
binK P BinOp.leq 3 (Operand.tmp 13) (Operand.tmp 18) v_b v_h fun v_i=>
ifK v_i (
some ((Value.bool false),H,n)) (
binK P BinOp.add 3 (Operand.tmp 8) (Operand.const (Value.int IntKind.i64 1)) u3 (Value.int IntKind.i64 1) fun v_l=>
b1 u0 v_l H n)) (
some ((Value.bool true),H,n))
noncomputable def C96_1 (m1:Nat):=B96_1 cal k m1
noncomputable def S96_1:Nat→V2:=recF (C96_1 cal k) (fun _ _ _ _=>none)
theorem h96_1 (m1:Nat):T96_1 cal k m1=C96_1 cal k m1 (R96_1 cal k m1):=by kernel_rfl
theorem q96_1 (m:Nat):T96_1 cal k m=S96_1 cal k m:=recS (h96_1 cal k) (by kernel_rfl) (fun m=>by kernel_rfl) m
noncomputable def B96_0 (cal:Cal) (k:Nat) (j1:V2) (v0:Value) (H:Hp) (n:Nat):Res:=
j1 v0 (Value.int IntKind.i64 1) H n
noncomputable def C96_0:=B96_0 cal k (S96_1 cal k k)
theorem h96_0 (v0:Value) (H:Hp) (n:Nat):bodyE P cal A (k+1) 96 [v0] H n=C96_0 cal k v0 H n:=(bq Go.Proofs.Tryz.f96 code96 results96 (by kernel_rfl)).trans (Eq.trans (b:=B96_0 cal k (T96_1 cal k k) v0 H n) (by kernel_rfl) (by rw[q96_1]; rfl))
noncomputable def code97:Code:=codeOf 97
noncomputable def results97:List ResultVar:=resOf 97
noncomputable def B97_0 (cal:Cal) (k:Nat) (v0 v1:Value) (H:Hp) (n:Nat):Res:=
boxK 92 v0 H n fun v_1 H_2 n_3=>
boxK 101 v1 H_2 n_3 fun v_4 H_5 n_6=>
some ((Value.func (Fn.func 112) ⟨[]⟩ ⟨[v_1,v_4]⟩),H_5,n_6)
noncomputable def C97_0:=B97_0 cal k
theorem h97_0 (v0 v1:Value) (H:Hp) (n:Nat):bodyE P cal A (k+1) 97 [v0,v1] H n=C97_0 cal k v0 v1 H n:=(bq Go.Proofs.Tryz.f97 code97 results97 (by kernel_rfl)).trans (by kernel_rfl)
noncomputable def code99:Code:=codeOf 99
noncomputable def results99:List ResultVar:=resOf 99
noncomputable def B99_0 (cal:Cal) (k:Nat) (v0:Value) (H:Hp) (n:Nat):Res:=
boxK 93 v0 H n fun v_1 H_2 n_3=>
some ((Value.func (Fn.func 113) ⟨[]⟩ ⟨[v_1]⟩),H_2,n_3)
noncomputable def C99_0:=B99_0 cal k
theorem h99_0 (v0:Value) (H:Hp) (n:Nat):bodyE P cal A (k+1) 99 [v0] H n=C99_0 cal k v0 H n:=(bq Go.Proofs.Tryz.f99 code99 results99 (by kernel_rfl)).trans (by kernel_rfl)
noncomputable def code100:Code:=codeOf 100
noncomputable def results100:List ResultVar:=resOf 100
noncomputable def B100_0 (cal:Cal) (k:Nat) (v0:Value) (H:Hp) (n:Nat):Res:=
binK P BinOp.neq 3 (Operand.tmp 3) (Operand.tmp 4) v0 v0 fun v_4=>
some (v_4,H,n)
noncomputable def C100_0:=B100_0 cal k
theorem h100_0 (v0:Value) (H:Hp) (n:Nat):bodyE P cal A (k+1) 100 [v0] H n=C100_0 cal k v0 H n:=(bq Go.Proofs.Tryz.f100 code100 results100 (by kernel_rfl)).trans (by kernel_rfl)
noncomputable def code101:Code:=codeOf 101
noncomputable def results101:List ResultVar:=resOf 101
noncomputable def B101_0 (cal:Cal) (k:Nat) (v0:Value) (H:Hp) (n:Nat):Res:=
ifK (Value.bool false) (
bindO (pureSem P v0 (convert 73 178 v0)) fun v_3=>
callFK P cal 114 [v_3] H n fun v_4 H_5 n_6=>
some (v_4,H_5,n_6)) (
callFK P cal 115 [v0] H n fun v_9 H_a n_b=>
some (v_9,H_a,n_b))
noncomputable def C101_0:=B101_0 cal k
theorem h101_0 (v0:Value) (H:Hp) (n:Nat):bodyE P cal A (k+1) 101 [v0] H n=C101_0 cal k v0 H n:=(bq Go.Proofs.Tryz.f101 code101 results101 (by kernel_rfl)).trans (by kernel_rfl)
noncomputable def code102:Code:=codeOf 102
noncomputable def results102:List ResultVar:=resOf 102
noncomputable def B102_0 (cal:Cal) (k:Nat) (v0 v1:Value) (H:Hp) (n:Nat):Res:=
bindO (lenV P 93 v0) fun v_2=>
bindO (pureSem P v_2 (convert 3 73 v_2)) fun v_7=>
callFK P cal 117 [v_7] H n fun v_8 H_9 n_a=>
callFK P cal 116 [v0,(Value.int IntKind.i64 0),v_2,v_8,v1] H_9 n_a fun v_c H_d n_e=>
some ((Value.tuple ⟨[]⟩),H_d,n_e)
noncomputable def C102_0:=B102_0 cal k
theorem h102_0 (v0 v1:Value) (H:Hp) (n:Nat):bodyE P cal A (k+1) 102 [v0,v1] H n=C102_0 cal k v0 v1 H n:=(bq Go.Proofs.Tryz.f102 code102 results102 (by kernel_rfl)).trans (by kernel_rfl)
noncomputable def code103:Code:=codeOf 103
noncomputable def results103:List ResultVar:=resOf 103
noncomputable def B103_0 (cal:Cal) (k:Nat) (H:Hp) (n:Nat):Res:=
allocK P 168 H n fun v_1 H_2 n_3=>
bindO (buildP P 168 [(0,(Value.func (.func 118) #[] #[])),(1,(Value.func (.func 119) #[] #[]))]) fun v_4=>
bindO (storeP P 168 v_1 v_4 H_2) fun H_6=>
bindO (resV P (Tr.set Tr.nil 0 (some v_1)) H_6 results103) fun v_7=>some (oneV v_7,H_6,n_3)
noncomputable def C103_0:=B103_0 cal k 
theorem h103_0 (H:Hp) (n:Nat):bodyE P cal A (k+1) 103 [] H n=C103_0 cal k  H n:=(bq Go.Proofs.Tryz.f103 code103 results103 (by kernel_rfl)).trans (by kernel_rfl)
noncomputable def code104:Code:=codeOf 104
noncomputable def results104:List ResultVar:=resOf 104
noncomputable def B104_0 (cal:Cal) (k:Nat) (v0 v1 v2:Value) (H:Hp) (n:Nat):Res:=
boxK 168 v0 H n fun v_1 H_2 n_3=>
bindO (fieldAddrV P 168 v_1 0) fun v_5=>
bindO (addrV v_5) fun a_6=>bindO (loadV P H_2 166 a_6) fun v_7=>
bindO (fieldAddrV P 168 v_1 1) fun v_a=>
bindO (addrV v_a) fun a_b=>bindO (loadV P H_2 166 a_b) fun v_c=>
effK P [(.l 166 a_b)] H_2 n_3 (fun H_f n_g k_h=>
callVK P cal v_7 [v1,v2] H_f n_g fun v_l H_m n_n=>
k_h v_l H_m n_n) fun v_i H_j n_k=>
callVK P cal v_c [v1,v2] H_j n_k fun v_o H_p n_q=>
bindO (rowOf P 27 2 [(0,v_i),(1,v_o)]) fun q_t=>newK q_t.1 q_t.2 H_p n_q fun H_r n_s=>
callFK P cal 120 [(.slice (some ⟨n_q,0,none⟩) 2 2)] H_r n_s fun v_u H_v n_w=>
some (v_u,H_v,n_w)
noncomputable def C104_0:=B104_0 cal k
theorem h104_0 (v0 v1 v2:Value) (H:Hp) (n:Nat):bodyE P cal A (k+1) 104 [v0,v1,v2] H n=C104_0 cal k v0 v1 v2 H n:=(bq Go.Proofs.Tryz.f104 code104 results104 (by kernel_rfl)).trans (by kernel_rfl)
noncomputable def code105:Code:=codeOf 105
noncomputable def results105:List ResultVar:=resOf 105
noncomputable def K105_pxr (cal:Cal) (k:Nat):XR:=(upX 0 (doneK P results105) X0)
noncomputable def K105_prl (m1:Nat):KR:=(fun T H n D=>codeF P cal m1 (Lv.a (Lv.b (A 105))) none 105 (cL (cR code105)) (doneK P results105) (K105_pxr cal k) (doneK P results105) (cutT (Lv.a (Lv.b (A 105))).c T) H n D)
noncomputable def T105_1 (m1:Nat):=fun(u0 u2 u3:Value) (H:Hp) (n:Nat)=>labK (codeE P cal (codeF P cal m1) none 105 (cL (cL (cR code105))) (Lv.a (Lv.a (Lv.b (A 105)))) (K105_prl cal k m1) (K105_pxr cal k) (doneK P results105)) (Tr.set (Tr.set (Tr.set Tr.nil 3 (some u3)) 2 (some u2)) 0 (some u0)) H n []
noncomputable def R105_1 (m1:Nat):V3:=fun u0 u2 u3 H n=>codeF P cal m1 (Lv.a (Lv.b (A 105))) none 105 (cL (cR code105)) (doneK P results105) (K105_pxr cal k) (doneK P results105) (Tr.set (Tr.set (Tr.set Tr.nil 3 (some u3)) 2 (some u2)) 0 (some u0)) H n []
noncomputable def B105_1 (cal:Cal) (k m1:Nat) (b1:V3) (u0 u2 u3:Value) (H:Hp) (n:Nat):Res:=
binK P BinOp.lss 3 (Operand.tmp 7) (Operand.tmp 8) u2 u3 fun v_8=>
ifK v_8 (
bindO (indexAddrV P 93 u0 u3) fun v_f=>
bindO (addrV v_f) fun a_g=>bindO (loadV P H 101 a_g) fun v_h=>
bindO (indexAddrV P 93 u0 u2) fun v_k=>
bindO (addrV v_k) fun a_l=>bindO (loadV P H 101 a_l) fun v_m=>
bindO (indexAddrV P 93 u0 u2) fun v_n=>
bindO (storeP P 101 v_n v_h H) fun H_p=>
bindO (indexAddrV P 93 u0 u3) fun v_q=>
bindO (storeP P 101 v_q v_m H_p) fun H_s=>
binK P BinOp.add 3 (Operand.tmp 10) (Operand.const (Value.int IntKind.i64 1)) u2 (Value.int IntKind.i64 1) fun v_u=>
binK P BinOp.sub 3 (Operand.tmp 12) (Operand.const (Value.int IntKind.i64 1)) u3 (Value.int IntKind.i64 1) fun v_w=>
b1 u0 v_u v_w H_s n) (
some ((Value.tuple ⟨[]⟩),H,n))
noncomputable def C105_1 (m1:Nat):=B105_1 cal k m1
noncomputable def S105_1:Nat→V3:=recF (C105_1 cal k) (fun _ _ _ _ _=>none)
theorem h105_1 (m1:Nat):T105_1 cal k m1=C105_1 cal k m1 (R105_1 cal k m1):=by kernel_rfl
theorem q105_1 (m:Nat):T105_1 cal k m=S105_1 cal k m:=recS (h105_1 cal k) (by kernel_rfl) (fun m=>by kernel_rfl) m
noncomputable def B105_0 (cal:Cal) (k:Nat) (j1:V3) (v0:Value) (H:Hp) (n:Nat):Res:=
bindO (lenV P 93 v0) fun v_2=>
binK P BinOp.sub 3 (Operand.tmp 5) (Operand.const (Value.int IntKind.i64 1)) v_2 (Value.int IntKind.i64 1) fun v_3=>
j1 v0 (Value.int IntKind.i64 0) v_3 H n
noncomputable def C105_0:=B105_0 cal k (S105_1 cal k k)
theorem h105_0 (v0:Value) (H:Hp) (n:Nat):bodyE P cal A (k+1) 105 [v0] H n=C105_0 cal k v0 H n:=(bq Go.Proofs.Tryz.f105 code105 results105 (by kernel_rfl)).trans (Eq.trans (b:=B105_0 cal k (T105_1 cal k k) v0 H n) (by kernel_rfl) (by rw[q105_1]; rfl))
end Go.Proofs.YtkmjgabdaikomaaGreat.G
end
end
