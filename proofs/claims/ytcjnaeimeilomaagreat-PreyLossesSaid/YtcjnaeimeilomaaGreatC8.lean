import Derived.Test.YtcjnaeimeilomaaGreatC7
set_option linter.unusedVariables false
section
open Go Go.Ev
set_option maxRecDepth 1000000
noncomputable section
namespace Go.Proofs.YtcjnaeimeilomaaGreat.G
variable (cal:Cal) (k:Nat)
noncomputable def code16:Code:=aJ 16
noncomputable def results16:List ResultVar:=bk 16
noncomputable def B16_0(cal:Cal)(k:Nat)(H:Hp)(n:Nat):Res:=
aK P cal 53 [] H n fun v_2 H_3 n_4=>
aK P cal 54 [] H_3 n_4 fun v_5 H_6 n_7=>
bindO (lQ P 30 v_5 none (some (Value.int IntKind.i64 2))) fun v_8=>
aK P cal 19 [v_2,v_8] H_6 n_7 fun v_9 H_a n_b=>
bindO (tupV v_9 0) fun v_d=>
bindO (tupV v_9 1) fun v_e=>
aK P cal 53 [] H_a n_b fun v_h H_i n_j=>
aK P cal 42 [v_h,(Value.int IntKind.i64 2)] H_i n_j fun v_k H_l n_m=>
bindO (tupV v_k 0) fun v_o=>
bindO (tupV v_k 1) fun v_p=>
aK P cal 53 [] H_l n_m fun v_s H_t n_u=>
aK P cal 32 [v_s] H_t n_u fun v_v H_w n_x=>
bindO (tupV v_v 0) fun v_z=>
bindO (tupV v_v 1) fun v_10=>
aK P cal 53 [] H_w n_x fun v_13 H_14 n_15=>
aK P cal 54 [] H_14 n_15 fun v_16 H_17 n_18=>
aK P cal 25 [v_13,v_16] H_17 n_18 fun v_19 H_1a n_1b=>
bindO (tupV v_19 0) fun v_1d=>
bindO (tupV v_19 1) fun v_1e=>
bindO (tupV v_19 2) fun v_1f=>
aK P cal 53 [] H_1a n_1b fun v_1j H_1k n_1l=>
aK P cal 34 [v_1j,(Value.int IntKind.i64 1),(Value.int IntKind.i64 2)] H_1k n_1l fun v_1m H_1n n_1o=>
bindO (tupV v_1m 0) fun v_1q=>
bindO (tupV v_1m 1) fun v_1r=>
bindO (tupV v_1m 2) fun v_1s=>
binK P BinOp.eql 33 (Operand.tmp 43) (Operand.const (Value.int IntKind.i64 0)) v_e (Value.int IntKind.i64 0) fun v_1x=>
bw v_1x true (fun k_1z=>
k_1z v_d H_1n n_1o) H_1n n_1o fun v_20 H_21 n_22=>
bw v_1x true (fun k_24=>
rowK P 27 5 [(0,(Value.int IntKind.i64 0)),(1,(Value.int IntKind.i64 1)),(2,(Value.int IntKind.i64 2)),(3,(Value.int IntKind.i64 3)),(4,(Value.int IntKind.i64 4))] H_21 n_22 fun v_28 H_29 n_2a=>
k_24 v_28 H_29 n_2a) H_21 n_22 fun v_25 H_26 n_27=>
bw v_1x true (fun k_2b=>
rowK P 27 3 [(0,(Value.int IntKind.i64 2)),(1,(Value.int IntKind.i64 3)),(2,(Value.int IntKind.i64 4))] H_26 n_27 fun v_2f H_2g n_2h=>
k_2b v_2f H_2g n_2h) H_26 n_27 fun v_2c H_2d n_2e=>
bw v_1x true (fun k_2i=>
rowK P 27 2 [(0,(Value.int IntKind.i64 3)),(1,(Value.int IntKind.i64 4))] H_2d n_2e fun v_2m H_2n n_2o=>
k_2i v_2m H_2n n_2o) H_2d n_2e fun v_2j H_2k n_2l=>
bw v_1x true (fun k_2p=>
rowK P 30 3 [(0,v_25),(1,v_2c),(2,v_2j)] H_2k n_2l fun v_2t H_2u n_2v=>
k_2p v_2t H_2u n_2v) H_2k n_2l fun v_2q H_2r n_2s=>
bw v_1x true (fun k_2w=>
aK P cal 23 [v_20,v_2q] H_2r n_2s fun v_30 H_31 n_32=>
k_2w v_30 H_31 n_32) H_2r n_2s fun v_2x H_2y n_2z=>
bindO (fW v_1x v_2x (Value.bool false)) fun v_33=>
bw v_33 true (fun k_35=>
k_35 v_p H_2y n_2z) H_2y n_2z fun v_36 H_37 n_38=>
bw v_33 true (fun k_3a=>
binK P BinOp.eql 33 (Operand.tmp 54) (Operand.const (Value.int IntKind.i64 0)) v_36 (Value.int IntKind.i64 0) fun v_3e=>
k_3a v_3e H_37 n_38) H_37 n_38 fun v_3b H_3c n_3d=>
bindO (fW v_33 v_3b (Value.bool false)) fun v_3f=>
bw v_3f true (fun k_3h=>
k_3h v_o H_3c n_3d) H_3c n_3d fun v_3i H_3j n_3k=>
bw v_3f true (fun k_3m=>
aK P cal 54 [] H_3j n_3k fun v_3q H_3r n_3s=>
k_3m v_3q H_3r n_3s) H_3j n_3k fun v_3n H_3o n_3p=>
bw v_3f true (fun k_3t=>
aK P cal 23 [v_3i,v_3n] H_3o n_3p fun v_3x H_3y n_3z=>
k_3t v_3x H_3y n_3z) H_3o n_3p fun v_3u H_3v n_3w=>
bindO (fW v_3f v_3u (Value.bool false)) fun v_40=>
bw v_40 true (fun k_42=>
k_42 v_10 H_3v n_3w) H_3v n_3w fun v_43 H_44 n_45=>
bw v_40 true (fun k_47=>
binK P BinOp.eql 33 (Operand.tmp 63) (Operand.const (Value.int IntKind.i64 0)) v_43 (Value.int IntKind.i64 0) fun v_4b=>
k_47 v_4b H_44 n_45) H_44 n_45 fun v_48 H_49 n_4a=>
bindO (fW v_40 v_48 (Value.bool false)) fun v_4c=>
bw v_4c true (fun k_4e=>
k_4e v_z H_49 n_4a) H_49 n_4a fun v_4f H_4g n_4h=>
bw v_4c true (fun k_4j=>
binK P BinOp.eql 3 (Operand.tmp 67) (Operand.const (Value.int IntKind.i64 2)) v_4f (Value.int IntKind.i64 2) fun v_4n=>
k_4j v_4n H_4g n_4h) H_4g n_4h fun v_4k H_4l n_4m=>
bindO (fW v_4c v_4k (Value.bool false)) fun v_4o=>
bw v_4o true (fun k_4q=>
k_4q v_1f H_4l n_4m) H_4l n_4m fun v_4r H_4s n_4t=>
bw v_4o true (fun k_4v=>
binK P BinOp.eql 33 (Operand.tmp 71) (Operand.const (Value.int IntKind.i64 0)) v_4r (Value.int IntKind.i64 0) fun v_4z=>
k_4v v_4z H_4s n_4t) H_4s n_4t fun v_4w H_4x n_4y=>
bindO (fW v_4o v_4w (Value.bool false)) fun v_50=>
bw v_50 true (fun k_52=>
k_52 v_1d H_4x n_4y) H_4x n_4y fun v_53 H_54 n_55=>
bw v_50 true (fun k_57=>
binK P BinOp.eql 3 (Operand.tmp 75) (Operand.const (Value.int IntKind.i64 20)) v_53 (Value.int IntKind.i64 20) fun v_5b=>
k_57 v_5b H_54 n_55) H_54 n_55 fun v_58 H_59 n_5a=>
bindO (fW v_50 v_58 (Value.bool false)) fun v_5c=>
bw v_5c true (fun k_5e=>
k_5e v_1e H_59 n_5a) H_59 n_5a fun v_5f H_5g n_5h=>
bw v_5c true (fun k_5j=>
rowK P 27 4 [(0,(Value.int IntKind.i64 4)),(1,(Value.int IntKind.i64 4)),(2,(Value.int IntKind.i64 4)),(3,(Value.int IntKind.i64 4))] H_5g n_5h fun v_5n H_5o n_5p=>
k_5j v_5n H_5o n_5p) H_5g n_5h fun v_5k H_5l n_5m=>
bw v_5c true (fun k_5q=>
aK P cal 48 [v_5f,v_5k] H_5l n_5m fun v_5u H_5v n_5w=>
k_5q v_5u H_5v n_5w) H_5l n_5m fun v_5r H_5s n_5t=>
bindO (fW v_5c v_5r (Value.bool false)) fun v_5x=>
bw v_5x true (fun k_5z=>
k_5z v_1s H_5s n_5t) H_5s n_5t fun v_60 H_61 n_62=>
bw v_5x true (fun k_64=>
binK P BinOp.eql 33 (Operand.tmp 84) (Operand.const (Value.int IntKind.i64 0)) v_60 (Value.int IntKind.i64 0) fun v_68=>
k_64 v_68 H_61 n_62) H_61 n_62 fun v_65 H_66 n_67=>
bindO (fW v_5x v_65 (Value.bool false)) fun v_69=>
bw v_69 true (fun k_6b=>
k_6b v_1q H_66 n_67) H_66 n_67 fun v_6c H_6d n_6e=>
bw v_69 true (fun k_6g=>
rowK P 27 1 [(0,(Value.int IntKind.i64 4))] H_6d n_6e fun v_6k H_6l n_6m=>
k_6g v_6k H_6l n_6m) H_6d n_6e fun v_6h H_6i n_6j=>
bw v_69 true (fun k_6n=>
rowK P 30 2 [(0,v_6h),(1,(Value.slice none 0 0))] H_6i n_6j fun v_6r H_6s n_6t=>
k_6n v_6r H_6s n_6t) H_6i n_6j fun v_6o H_6p n_6q=>
bw v_69 true (fun k_6u=>
aK P cal 23 [v_6c,v_6o] H_6p n_6q fun v_6y H_6z n_70=>
k_6u v_6y H_6z n_70) H_6p n_6q fun v_6v H_6w n_6x=>
bindO (fW v_69 v_6v (Value.bool false)) fun v_71=>
bw v_71 true (fun k_73=>
k_73 v_1r H_6w n_6x) H_6w n_6x fun v_74 H_75 n_76=>
bw v_71 true (fun k_78=>
binK P BinOp.eql 3 (Operand.tmp 94) (Operand.const (Value.int IntKind.i64 9)) v_74 (Value.int IntKind.i64 9) fun v_7c=>
k_78 v_7c H_75 n_76) H_75 n_76 fun v_79 H_7a n_7b=>
bindO (fW v_71 v_79 (Value.bool false)) fun v_7d=>
some (v_7d,H_7a,n_7b)
noncomputable def C16_0:=B16_0 cal k 
theorem h16_0(H:Hp)(n:Nat):aW P cal A (k+1) 16 [] H n=C16_0 cal k  H n:=(bq Go.Proofs.Tryz.f16 code16 results16 (by kernel_rfl)).trans (by kernel_rfl)
noncomputable def code19:Code:=aJ 19
noncomputable def results19:List ResultVar:=bk 19
noncomputable def B19_0(cal:Cal)(k:Nat)(v0 v1:Value)(H:Hp)(n:Nat):Res:=
boxK 41 v0 H n fun v_1 H_2 n_3=>
bindO (aX v_1) fun a_7=>bindO (ak P H_2 41 a_7) fun v_6=>
aK P cal 57 [v_6,v1] H_2 n_3 fun v_9 H_a n_b=>
bindO (tupV v_9 0) fun v_d=>
bindO (tupV v_9 1) fun v_e=>
bindO (tupV v_9 2) fun v_f=>
binK P BinOp.neq 33 (Operand.tmp 16) (Operand.const (Value.int IntKind.i64 0)) v_f (Value.int IntKind.i64 0) fun v_k=>
ifK v_k (
some ((Value.tuple ⟨[(Value.slice none 0 0),v_f]⟩),H_a,n_b)) (
aK P cal 59 [v_d,v_e] H_a n_b fun v_q H_r n_s=>
aK P cal 58 [v_q] H_r n_s fun v_t H_u n_v=>
some ((Value.tuple ⟨[v_t,(Value.int IntKind.i64 0)]⟩),H_u,n_v))
noncomputable def C19_0:=B19_0 cal k
theorem h19_0(v0 v1:Value)(H:Hp)(n:Nat):aW P cal A (k+1) 19 [v0,v1] H n=C19_0 cal k v0 v1 H n:=(bq Go.Proofs.Tryz.f19 code19 results19 (by kernel_rfl)).trans (by kernel_rfl)
noncomputable def code23:Code:=aJ 23
noncomputable def wX:List ResultVar:=bk 23
noncomputable def K23_prr:KR:=(cutK (Lv.b (Lv.b (A 23))).c (bY P cal (aY P cal k) none 23 (cR (cR (cR code23))) (Lv.b (Lv.b (Lv.b (A 23)))) (ay P wX) X0 (ay P wX)))
noncomputable def NV:XR:=(upX 0 (K23_prr cal k) X0)
noncomputable def K23_prrlrl(m1:Nat):KR:=(fun T H n D=>aY P cal m1 (Lv.a (Lv.b (Lv.a (Lv.b (Lv.b (A 23)))))) none 23 (cL (cR (cL (cR (cR code23))))) (K23_prr cal k) (NV cal k) (ay P wX) (cutT (Lv.a (Lv.b (Lv.a (Lv.b (Lv.b (A 23)))))).c T) H n D)
noncomputable def T23_1(m1:Nat):=fun(u0 u1 u5:Value) (H:Hp) (n:Nat)=>labK (bY P cal (aY P cal m1) none 23 (cL (cL (cR (cL (cR (cR code23)))))) (Lv.a (Lv.a (Lv.b (Lv.a (Lv.b (Lv.b (A 23))))))) (K23_prrlrl cal k m1) (NV cal k) (ay P wX)) (Tr.set (Tr.set (Tr.set Tr.nil 5 (some u5)) 1 (some u1)) 0 (some u0)) H n []
noncomputable def R23_1(m1:Nat):V3:=fun u0 u1 u5 H n=>aY P cal m1 (Lv.a (Lv.b (Lv.a (Lv.b (Lv.b (A 23)))))) none 23 (cL (cR (cL (cR (cR code23))))) (K23_prr cal k) (NV cal k) (ay P wX) (Tr.set (Tr.set (Tr.set Tr.nil 5 (some u5)) 1 (some u1)) 0 (some u0)) H n []
noncomputable def B23_1(cal:Cal)(k m1:Nat)(b1:V3)(u0 u1 u5:Value)(H:Hp)(n:Nat):Res:=
bindO (lenV P 30 u0) fun v_b=>
binK P BinOp.lss 3 (Operand.tmp 11) (Operand.tmp 13) u5 v_b fun v_c=>
ifK v_c (
bindO (aQ P 30 u0 u5) fun v_f=>
bindO (aX v_f) fun a_g=>bindO (ak P H 27 a_g) fun v_h=>
bindO (aQ P 30 u1 u5) fun v_k=>
bindO (aX v_k) fun a_l=>bindO (ak P H 27 a_l) fun v_m=>
aK P cal 48 [v_h,v_m] H n fun v_n H_o n_p=>
bindO (dX P v_n (Op.unary UnOp.not v_n)) fun v_q=>
ifK v_q (
some ((Value.bool false),H_o,n_p)) (
binK P BinOp.add 3 (Operand.tmp 15) (Operand.const (Value.int IntKind.i64 1)) u5 (Value.int IntKind.i64 1) fun v_t=>
b1 u0 u1 v_t H_o n_p)) (
some ((Value.bool true),H,n))
noncomputable def C23_1(m1:Nat):=B23_1 cal k m1
noncomputable def S23_1:Nat→V3:=recF (C23_1 cal k) (fun _ _ _ _ _=>none)
theorem h23_1(m1:Nat):T23_1 cal k m1=C23_1 cal k m1 (R23_1 cal k m1):=by kernel_rfl
theorem q23_1(m:Nat):T23_1 cal k m=S23_1 cal k m:=recS (h23_1 cal k) (by kernel_rfl) (fun m=>by kernel_rfl) m
noncomputable def B23_0(cal:Cal)(k:Nat)(j1:V3)(v0 v1:Value)(H:Hp)(n:Nat):Res:=
bindO (lenV P 30 v0) fun v_3=>
bindO (lenV P 30 v1) fun v_5=>
binK P BinOp.neq 3 (Operand.tmp 7) (Operand.tmp 9) v_3 v_5 fun v_6=>
ifK v_6 (
some ((Value.bool false),H,n)) (
j1 v0 v1 (Value.int IntKind.i64 0) H n)
noncomputable def C23_0:=B23_0 cal k (S23_1 cal k k)
theorem h23_0(v0 v1:Value)(H:Hp)(n:Nat):aW P cal A (k+1) 23 [v0,v1] H n=C23_0 cal k v0 v1 H n:=(bq Go.Proofs.Tryz.f23 code23 wX (by kernel_rfl)).trans (Eq.trans (b:=B23_0 cal k (T23_1 cal k k) v0 v1 H n) (by kernel_rfl) (by rw[q23_1]; rfl))
noncomputable def code25:Code:=aJ 25
noncomputable def Rj:List ResultVar:=bk 25
noncomputable def B25_0(cal:Cal)(k:Nat)(v0 v1:Value)(H:Hp)(n:Nat):Res:=
boxK 41 v0 H n fun v_1 H_2 n_3=>
bindO (aX v_1) fun a_8=>bindO (ak P H_2 41 a_8) fun v_7=>
aK P cal 57 [v_7,v1] H_2 n_3 fun v_a H_b n_c=>
bindO (tupV v_a 0) fun v_e=>
bindO (tupV v_a 1) fun v_f=>
bindO (tupV v_a 2) fun v_g=>
binK P BinOp.neq 33 (Operand.tmp 16) (Operand.const (Value.int IntKind.i64 0)) v_g (Value.int IntKind.i64 0) fun v_l=>
ifK v_l (
some ((Value.tuple ⟨[(Value.int IntKind.i64 0),(Value.slice none 0 0),v_g]⟩),H_b,n_c)) (
bindO (nilV v_e) fun v_r=>
bindO (ax P 109 v_r 0) fun v_s=>
bindO (ax P 41 v_s 1) fun v_t=>
bindO (aX v_t) fun a_v=>bindO (ak P H_b 27 a_v) fun v_u=>
bindO (lenV P 27 v_u) fun v_w=>
binK P BinOp.eql 3 (Operand.tmp 24) (Operand.const (Value.int IntKind.i64 0)) v_w (Value.int IntKind.i64 0) fun v_x=>
ifK v_x (
some ((Value.tuple ⟨[(Value.int IntKind.i64 0),(Value.slice none 0 0),(Value.int IntKind.i64 7)]⟩),H_b,n_c)) (
aK P cal 63 [v_e,v_f] H_b n_c fun v_13 H_14 n_15=>
aK P cal 64 [v_e,v_13] H_14 n_15 fun v_19 H_1a n_1b=>
some ((Value.tuple ⟨[v_19,v_13,(Value.int IntKind.i64 0)]⟩),H_1a,n_1b)))
noncomputable def C25_0:=B25_0 cal k
theorem h25_0(v0 v1:Value)(H:Hp)(n:Nat):aW P cal A (k+1) 25 [v0,v1] H n=C25_0 cal k v0 v1 H n:=(bq Go.Proofs.Tryz.f25 code25 Rj (by kernel_rfl)).trans (by kernel_rfl)
noncomputable def code32:Code:=aJ 32
noncomputable def results32:List ResultVar:=bk 32
noncomputable def B32_0(cal:Cal)(k:Nat)(v0:Value)(H:Hp)(n:Nat):Res:=
boxK 41 v0 H n fun v_1 H_2 n_3=>
bindO (aX v_1) fun a_7=>bindO (ak P H_2 41 a_7) fun v_6=>
aK P cal 66 [v_6] H_2 n_3 fun v_8 H_9 n_a=>
bindO (tupV v_8 0) fun v_c=>
bindO (tupV v_8 1) fun v_d=>
binK P BinOp.neq 33 (Operand.tmp 11) (Operand.const (Value.int IntKind.i64 0)) v_d (Value.int IntKind.i64 0) fun v_h=>
ifK v_h (
some ((Value.tuple ⟨[(Value.int IntKind.i64 0),v_d]⟩),H_9,n_a)) (
aK P cal 67 [v_c] H_9 n_a fun v_m H_n n_o=>
some ((Value.tuple ⟨[v_m,(Value.int IntKind.i64 0)]⟩),H_n,n_o))
noncomputable def C32_0:=B32_0 cal k
theorem h32_0(v0:Value)(H:Hp)(n:Nat):aW P cal A (k+1) 32 [v0] H n=C32_0 cal k v0 H n:=(bq Go.Proofs.Tryz.f32 code32 results32 (by kernel_rfl)).trans (by kernel_rfl)
noncomputable def code34:Code:=aJ 34
noncomputable def results34:List ResultVar:=bk 34
noncomputable def B34_0(cal:Cal)(k:Nat)(v0 v1 v2:Value)(H:Hp)(n:Nat):Res:=
boxK 41 v0 H n fun v_1 H_2 n_3=>
bindO (aX v_1) fun a_8=>bindO (ak P H_2 41 a_8) fun v_7=>
aK P cal 66 [v_7] H_2 n_3 fun v_9 H_a n_b=>
bindO (tupV v_9 0) fun v_d=>
bindO (tupV v_9 1) fun v_e=>
binK P BinOp.neq 33 (Operand.tmp 16) (Operand.const (Value.int IntKind.i64 0)) v_e (Value.int IntKind.i64 0) fun v_i=>
ifK v_i (
some ((Value.tuple ⟨[(Value.slice none 0 0),(Value.int IntKind.i64 0),v_e]⟩),H_a,n_b)) (
binK P BinOp.lss 3 (Operand.tmp 19) (Operand.const (Value.int IntKind.i64 0)) v1 (Value.int IntKind.i64 0) fun v_o=>
bw v_o false (fun k_q=>
k_q v1 H_a n_b) H_a n_b fun v_r H_s n_t=>
bw v_o false (fun k_v=>
binK P BinOp.gtr 3 (Operand.tmp 22) (Operand.const (Value.int IntKind.i64 2)) v_r (Value.int IntKind.i64 2) fun v_z=>
k_v v_z H_s n_t) H_s n_t fun v_w H_x n_y=>
bindO (fW v_o (Value.bool true) v_w) fun v_10=>
bw v_10 false (fun k_12=>
k_12 v2 H_x n_y) H_x n_y fun v_13 H_14 n_15=>
bw v_10 false (fun k_17=>
binK P BinOp.lss 3 (Operand.tmp 26) (Operand.const (Value.int IntKind.i64 0)) v_13 (Value.int IntKind.i64 0) fun v_1b=>
k_17 v_1b H_14 n_15) H_14 n_15 fun v_18 H_19 n_1a=>
bindO (fW v_10 (Value.bool true) v_18) fun v_1c=>
bw v_1c false (fun k_1e=>
k_1e v2 H_19 n_1a) H_19 n_1a fun v_1f H_1g n_1h=>
bw v_1c false (fun k_1j=>
binK P BinOp.gtr 3 (Operand.tmp 30) (Operand.const (Value.int IntKind.i64 3)) v_1f (Value.int IntKind.i64 3) fun v_1n=>
k_1j v_1n H_1g n_1h) H_1g n_1h fun v_1k H_1l n_1m=>
bindO (fW v_1c (Value.bool true) v_1k) fun v_1o=>
ifK v_1o (
some ((Value.tuple ⟨[(Value.slice none 0 0),(Value.int IntKind.i64 0),(Value.int IntKind.i64 2)]⟩),H_1l,n_1m)) (
bindO (nilV v_d) fun v_1t=>
bindO (ax P 109 v_1t 0) fun v_1u=>
bindO (ax P 41 v_1u 1) fun v_1v=>
bindO (aX v_1v) fun a_1x=>bindO (ak P H_1l 27 a_1x) fun v_1w=>
bindO (lenV P 27 v_1w) fun v_1y=>
binK P BinOp.eql 3 (Operand.tmp 38) (Operand.const (Value.int IntKind.i64 0)) v_1y (Value.int IntKind.i64 0) fun v_1z=>
ifK v_1z (
some ((Value.tuple ⟨[(Value.slice none 0 0),(Value.int IntKind.i64 0),(Value.int IntKind.i64 7)]⟩),H_1l,n_1m)) (
aK P cal 71 [v_d,v1,v2] H_1l n_1m fun v_26 H_27 n_28=>
bindO (tupV v_26 0) fun v_2a=>
bindO (tupV v_26 1) fun v_2b=>
aK P cal 58 [v_2a] H_27 n_28 fun v_2f H_2g n_2h=>
some ((Value.tuple ⟨[v_2f,v_2b,(Value.int IntKind.i64 0)]⟩),H_2g,n_2h))))
noncomputable def C34_0:=B34_0 cal k
theorem h34_0(v0 v1 v2:Value)(H:Hp)(n:Nat):aW P cal A (k+1) 34 [v0,v1,v2] H n=C34_0 cal k v0 v1 v2 H n:=(bq Go.Proofs.Tryz.f34 code34 results34 (by kernel_rfl)).trans (by kernel_rfl)
noncomputable def code42:Code:=aJ 42
noncomputable def results42:List ResultVar:=bk 42
noncomputable def B42_0(cal:Cal)(k:Nat)(v0 v1:Value)(H:Hp)(n:Nat):Res:=
boxK 41 v0 H n fun v_1 H_2 n_3=>
bindO (aX v_1) fun a_7=>bindO (ak P H_2 41 a_7) fun v_6=>
aK P cal 66 [v_6] H_2 n_3 fun v_8 H_9 n_a=>
bindO (tupV v_8 0) fun v_c=>
bindO (tupV v_8 1) fun v_d=>
binK P BinOp.neq 33 (Operand.tmp 15) (Operand.const (Value.int IntKind.i64 0)) v_d (Value.int IntKind.i64 0) fun v_h=>
ifK v_h (
some ((Value.tuple ⟨[(Value.slice none 0 0),v_d]⟩),H_9,n_a)) (
binK P BinOp.lss 3 (Operand.tmp 18) (Operand.const (Value.int IntKind.i64 0)) v1 (Value.int IntKind.i64 0) fun v_m=>
bw v_m false (fun k_o=>
k_o v1 H_9 n_a) H_9 n_a fun v_p H_q n_r=>
bw v_m false (fun k_t=>
binK P BinOp.gtr 3 (Operand.tmp 21) (Operand.const (Value.int IntKind.i64 8)) v_p (Value.int IntKind.i64 8) fun v_x=>
k_t v_x H_q n_r) H_q n_r fun v_u H_v n_w=>
bindO (fW v_m (Value.bool true) v_u) fun v_y=>
ifK v_y (
some ((Value.tuple ⟨[(Value.slice none 0 0),(Value.int IntKind.i64 2)]⟩),H_v,n_w)) (
aK P cal 76 [v_c,v1] H_v n_w fun v_13 H_14 n_15=>
bindO (tupV v_13 0) fun v_17=>
bindO (tupV v_13 1) fun v_18=>
bindO (dX P v_18 (Op.unary UnOp.not v_18)) fun v_1c=>
ifK v_1c (
some ((Value.tuple ⟨[(Value.slice none 0 0),(Value.int IntKind.i64 10)]⟩),H_14,n_15)) (
aK P cal 58 [v_17] H_14 n_15 fun v_1g H_1h n_1i=>
some ((Value.tuple ⟨[v_1g,(Value.int IntKind.i64 0)]⟩),H_1h,n_1i))))
noncomputable def C42_0:=B42_0 cal k
theorem h42_0(v0 v1:Value)(H:Hp)(n:Nat):aW P cal A (k+1) 42 [v0,v1] H n=C42_0 cal k v0 v1 H n:=(bq Go.Proofs.Tryz.f42 code42 results42 (by kernel_rfl)).trans (by kernel_rfl)
noncomputable def code48:Code:=aJ 48
noncomputable def wY:List ResultVar:=bk 48
noncomputable def K48_prr:KR:=(cutK (Lv.b (Lv.b (A 48))).c (bY P cal (aY P cal k) none 48 (cR (cR (cR code48))) (Lv.b (Lv.b (Lv.b (A 48)))) (ay P wY) X0 (ay P wY)))
noncomputable def NW:XR:=(upX 0 (K48_prr cal k) X0)
noncomputable def K48_prrlrl(m1:Nat):KR:=(fun T H n D=>aY P cal m1 (Lv.a (Lv.b (Lv.a (Lv.b (Lv.b (A 48)))))) none 48 (cL (cR (cL (cR (cR code48))))) (K48_prr cal k) (NW cal k) (ay P wY) (cutT (Lv.a (Lv.b (Lv.a (Lv.b (Lv.b (A 48)))))).c T) H n D)
noncomputable def T48_1(m1:Nat):=fun(u0 u1 u5:Value) (H:Hp) (n:Nat)=>labK (bY P cal (aY P cal m1) none 48 (cL (cL (cR (cL (cR (cR code48)))))) (Lv.a (Lv.a (Lv.b (Lv.a (Lv.b (Lv.b (A 48))))))) (K48_prrlrl cal k m1) (NW cal k) (ay P wY)) (Tr.set (Tr.set (Tr.set Tr.nil 5 (some u5)) 1 (some u1)) 0 (some u0)) H n []
noncomputable def R48_1(m1:Nat):V3:=fun u0 u1 u5 H n=>aY P cal m1 (Lv.a (Lv.b (Lv.a (Lv.b (Lv.b (A 48)))))) none 48 (cL (cR (cL (cR (cR code48))))) (K48_prr cal k) (NW cal k) (ay P wY) (Tr.set (Tr.set (Tr.set Tr.nil 5 (some u5)) 1 (some u1)) 0 (some u0)) H n []
noncomputable def B48_1(cal:Cal)(k m1:Nat)(b1:V3)(u0 u1 u5:Value)(H:Hp)(n:Nat):Res:=
bindO (lenV P 27 u0) fun v_b=>
binK P BinOp.lss 3 (Operand.tmp 11) (Operand.tmp 13) u5 v_b fun v_c=>
ifK v_c (
bindO (aQ P 27 u0 u5) fun v_f=>
bindO (aX v_f) fun a_g=>bindO (ak P H 3 a_g) fun v_h=>
bindO (aQ P 27 u1 u5) fun v_k=>
bindO (aX v_k) fun a_l=>bindO (ak P H 3 a_l) fun v_m=>
binK P BinOp.neq 3 (Operand.tmp 20) (Operand.tmp 24) v_h v_m fun v_n=>
ifK v_n (
some ((Value.bool false),H,n)) (
binK P BinOp.add 3 (Operand.tmp 15) (Operand.const (Value.int IntKind.i64 1)) u5 (Value.int IntKind.i64 1) fun v_q=>
b1 u0 u1 v_q H n)) (
some ((Value.bool true),H,n))
noncomputable def C48_1(m1:Nat):=B48_1 cal k m1
noncomputable def S48_1:Nat→V3:=recF (C48_1 cal k) (fun _ _ _ _ _=>none)
theorem h48_1(m1:Nat):T48_1 cal k m1=C48_1 cal k m1 (R48_1 cal k m1):=by kernel_rfl
theorem q48_1(m:Nat):T48_1 cal k m=S48_1 cal k m:=recS (h48_1 cal k) (by kernel_rfl) (fun m=>by kernel_rfl) m
noncomputable def B48_0(cal:Cal)(k:Nat)(j1:V3)(v0 v1:Value)(H:Hp)(n:Nat):Res:=
bindO (lenV P 27 v0) fun v_3=>
bindO (lenV P 27 v1) fun v_5=>
binK P BinOp.neq 3 (Operand.tmp 7) (Operand.tmp 9) v_3 v_5 fun v_6=>
ifK v_6 (
some ((Value.bool false),H,n)) (
j1 v0 v1 (Value.int IntKind.i64 0) H n)
noncomputable def C48_0:=B48_0 cal k (S48_1 cal k k)
theorem h48_0(v0 v1:Value)(H:Hp)(n:Nat):aW P cal A (k+1) 48 [v0,v1] H n=C48_0 cal k v0 v1 H n:=(bq Go.Proofs.Tryz.f48 code48 wY (by kernel_rfl)).trans (Eq.trans (b:=B48_0 cal k (T48_1 cal k k) v0 v1 H n) (by kernel_rfl) (by rw[q48_1]; rfl))
noncomputable def NX:Code:=aJ 53
noncomputable def oY:List ResultVar:=bk 53
noncomputable def qnz:KR:=(cutK (Lv.b (Lv.b (Lv.b (A 53)))).c (bY P cal (aY P cal k) none 53 (cR (cR (cR (cR NX)))) (Lv.b (Lv.b (Lv.b (Lv.b (A 53))))) (ay P oY) X0 (ay P oY)))
noncomputable def vq:XR:=(upX 0 (qnz cal k) X0)
noncomputable def K53_prrrlrl(m1:Nat):KR:=(fun T H n D=>aY P cal m1 (Lv.a (Lv.b (Lv.a (Lv.b (Lv.b (Lv.b (A 53))))))) none 53 (cL (cR (cL (cR (cR (cR NX)))))) (qnz cal k) (vq cal k) (ay P oY) (cutT (Lv.a (Lv.b (Lv.a (Lv.b (Lv.b (Lv.b (A 53))))))).c T) H n D)
noncomputable def K53_prrrlrllr(m1:Nat):KR:=(cutK (Lv.b (Lv.a (Lv.a (Lv.b (Lv.a (Lv.b (Lv.b (Lv.b (A 53))))))))).c (bY P cal (aY P cal m1) none 53 (cR (cR (cL (cL (cR (cL (cR (cR (cR NX))))))))) (Lv.b (Lv.b (Lv.a (Lv.a (Lv.b (Lv.a (Lv.b (Lv.b (Lv.b (A 53)))))))))) (K53_prrrlrl cal k m1) (vq cal k) (ay P oY)))
noncomputable def K53_pxrrrlrllrl(m1:Nat):XR:=(upX 1 (K53_prrrlrllr cal k m1) (vq cal k))
noncomputable def T53_2(m1:Nat):=fun(u0 u1 u2 u3:Value) (H:Hp) (n:Nat)=>labK (bY P cal (aY P cal m1) none 53 (cR (cR (cL (cL (cR (cL (cL (cR (cL (cR (cR (cR NX)))))))))))) (Lv.b (Lv.b (Lv.a (Lv.a (Lv.b (Lv.a (Lv.a (Lv.b (Lv.a (Lv.b (Lv.b (Lv.b (A 53))))))))))))) (K53_prrrlrllr cal k m1) (K53_pxrrrlrllrl cal k m1) (ay P oY)) (Tr.set (Tr.set (Tr.set (Tr.set Tr.nil 3 (some u3)) 2 (some u2)) 1 (some u1)) 0 (some u0)) H n []
noncomputable def T53_1(m1:Nat):=fun(u0 u1 u2 u3:Value) (H:Hp) (n:Nat)=>labK (bY P cal (aY P cal m1) none 53 (cL (cL (cR (cL (cR (cR (cR NX))))))) (Lv.a (Lv.a (Lv.b (Lv.a (Lv.b (Lv.b (Lv.b (A 53)))))))) (K53_prrrlrl cal k m1) (vq cal k) (ay P oY)) (Tr.set (Tr.set (Tr.set (Tr.set Tr.nil 3 (some u3)) 2 (some u2)) 1 (some u1)) 0 (some u0)) H n []
noncomputable def R53_1(m1:Nat):V4:=fun u0 u1 u2 u3 H n=>aY P cal m1 (Lv.a (Lv.b (Lv.a (Lv.b (Lv.b (Lv.b (A 53))))))) none 53 (cL (cR (cL (cR (cR (cR NX)))))) (qnz cal k) (vq cal k) (ay P oY) (Tr.set (Tr.set (Tr.set (Tr.set Tr.nil 3 (some u3)) 2 (some u2)) 1 (some u1)) 0 (some u0)) H n []
noncomputable def B53_2(cal:Cal)(k m1:Nat)(b1:V4)(u0 u1 u2 u3:Value)(H:Hp)(n:Nat):Res:=
bindO (ax P 41 u2 1) fun v_10=>
bindO (aX v_10) fun a_11=>bindO (ak P H 27 a_11) fun v_12=>
bindO (zz P 27 1 [(0,u3)]) fun q_16=>newK q_16.1 q_16.2 H n fun H_14 n_15=>
bindO (ax P 41 u2 2) fun v_17=>
bindO (aX v_17) fun a_18=>bindO (ak P H_14 27 a_18) fun v_19=>
binK P BinOp.add 3 (Operand.tmp 36) (Operand.const (Value.int IntKind.i64 1)) u3 (Value.int IntKind.i64 1) fun v_1b=>
bindO (zz P 27 1 [(0,v_1b)]) fun q_1e=>newK q_1e.1 q_1e.2 H_14 n_15 fun H_1c n_1d=>
effK P [(.a n_15 (some q_1e.1) q_1e.2),(.l 27 a_18)] H_1c n_1d (fun H_1f n_1g k_1h=>
stK (dz P (bare H_1f n_1g) 27 27 v_12 (.slice (some ⟨n,0,none⟩) 1 1)) fun v_1l H_1m n_1n=>
k_1h v_1l H_1m n_1n) fun v_1i H_1j n_1k=>
bindO (ax P 41 u2 1) fun v_1o=>
stK (dz P (bare H_1j n_1k) 27 27 v_19 (.slice (some ⟨n_15,0,none⟩) 1 1)) fun v_1p H_1q n_1r=>
bindO (dW P 27 v_1o v_1i H_1q) fun H_1t=>
bindO (ax P 41 u2 2) fun v_1u=>
bindO (dW P 27 v_1u v_1p H_1t) fun H_1w=>
binK P BinOp.add 3 (Operand.tmp 10) (Operand.const (Value.int IntKind.i64 1)) u3 (Value.int IntKind.i64 1) fun v_1y=>
b1 u0 u1 u2 v_1y H_1w n_1r
noncomputable def C53_2(m1:Nat):=B53_2 cal k m1
theorem h53_2(m1:Nat):T53_2 cal k m1=C53_2 cal k m1 (R53_1 cal k m1):=by kernel_rfl
noncomputable def B53_1(cal:Cal)(k m1:Nat)(j2:V4)(b1:V4)(u0 u1 u2 u3:Value)(H:Hp)(n:Nat):Res:=
binK P BinOp.lss 3 (Operand.tmp 8) (Operand.const (Value.int IntKind.i64 5)) u3 (Value.int IntKind.i64 5) fun v_m=>
ifK v_m (
bindO (ax P 39 u1 0) fun v_n=>
bindO (aX v_n) fun a_p=>bindO (ak P H 35 a_p) fun v_o=>
bindO (ny P 130 []) fun v_q=>
rowK P 35 1 [(0,v_q)] H n fun v_r H_s n_t=>
stK (dz P (bare H_s n_t) 35 35 v_o v_r) fun v_u H_v n_w=>
bindO (ax P 39 u1 0) fun v_x=>
bindO (dW P 35 v_x v_u H_v) fun H_z=>
binK P BinOp.gtr 3 (Operand.tmp 18) (Operand.const (Value.int IntKind.i64 0)) u3 (Value.int IntKind.i64 0) fun v_21=>
ifK v_21 (
bindO (ax P 39 u1 1) fun v_22=>
bindO (aX v_22) fun a_24=>bindO (ak P H_z 36 a_24) fun v_23=>
binK P BinOp.sub 3 (Operand.tmp 22) (Operand.const (Value.int IntKind.i64 1)) u3 (Value.int IntKind.i64 1) fun v_26=>
bindO (ny P 131 [(0,v_26),(1,u3)]) fun v_28=>
rowK P 36 1 [(0,v_28)] H_z n_w fun v_29 H_2a n_2b=>
stK (dz P (bare H_2a n_2b) 36 36 v_23 v_29) fun v_2c H_2d n_2e=>
bindO (ax P 39 u1 1) fun v_2f=>
bindO (dW P 36 v_2f v_2c H_2d) fun H_2h=>
j2 u0 u1 u2 u3 H_2h n_2e) (
j2 u0 u1 u2 u3 H_z n_w)) (
bindO (aX u1) fun a_2j=>bindO (ak P H 39 a_2j) fun v_2i=>
bindO (ax P 41 u2 0) fun v_2k=>
bindO (dW P 39 v_2k v_2i H) fun H_2m=>
bindO (aX u2) fun a_2o=>bindO (ak P H_2m 41 a_2o) fun v_2n=>
bindO (dW P 41 u0 v_2n H_2m) fun H_2q=>
bindO (resV P (Tr.set Tr.nil 0 (some u0)) H_2q oY) fun v_2r=>some (oneV v_2r,H_2q,n))
noncomputable def C53_1(m1:Nat)(b1:V4):=B53_1 cal k m1 (C53_2 cal k m1 b1) b1
noncomputable def S53_1:Nat→V4:=recF (C53_1 cal k) (fun _ _ _ _ _ _=>none)
theorem h53_1(m1:Nat):T53_1 cal k m1=C53_1 cal k m1 (R53_1 cal k m1):=Eq.trans (b:=B53_1 cal k m1 (T53_2 cal k m1) (R53_1 cal k m1)) (by kernel_rfl) (by rw[h53_2]; rfl)
theorem q53_1(m:Nat):T53_1 cal k m=S53_1 cal k m:=recS (h53_1 cal k) (by kernel_rfl) (fun m=>by kernel_rfl) m
noncomputable def B53_0(cal:Cal)(k:Nat)(j1:V4)(H:Hp)(n:Nat):Res:=
kj P 41 H n fun v_1 H_2 n_3=>
bindO (ny P 128 []) fun v_4=>
rowK P 37 1 [(0,v_4)] H_2 n_3 fun v_5 H_6 n_7=>
bindO (ny P 39 [(2,v_5)]) fun v_8=>
kj P 39 H_6 n_7 fun v_9 H_a n_b=>
bindO (dW P 39 v_9 v_8 H_a) fun H_d=>
bindO (ny P 41 []) fun v_e=>
kj P 41 H_d n_b fun v_f H_g n_h=>
bindO (dW P 41 v_f v_e H_g) fun H_j=>
j1 v_1 v_9 v_f (Value.int IntKind.i64 0) H_j n_h
noncomputable def C53_0:=B53_0 cal k (S53_1 cal k k) 
theorem h53_0(H:Hp)(n:Nat):aW P cal A (k+1) 53 [] H n=C53_0 cal k  H n:=(bq Go.Proofs.Tryz.f53 NX oY (by kernel_rfl)).trans (Eq.trans (b:=B53_0 cal k (T53_1 cal k k)  H n) (by kernel_rfl) (by rw[q53_1]; rfl))
noncomputable def code54:Code:=aJ 54
noncomputable def results54:List ResultVar:=bk 54
noncomputable def B54_0(cal:Cal)(k:Nat)(H:Hp)(n:Nat):Res:=
rowK P 27 2 [(0,(Value.int IntKind.i64 0)),(1,(Value.int IntKind.i64 1))] H n fun v_2 H_3 n_4=>
rowK P 27 2 [(0,(Value.int IntKind.i64 1)),(1,(Value.int IntKind.i64 2))] H_3 n_4 fun v_5 H_6 n_7=>
rowK P 27 2 [(0,(Value.int IntKind.i64 2)),(1,(Value.int IntKind.i64 3))] H_6 n_7 fun v_8 H_9 n_a=>
rowK P 27 2 [(0,(Value.int IntKind.i64 3)),(1,(Value.int IntKind.i64 4))] H_9 n_a fun v_b H_c n_d=>
rowK P 30 4 [(0,v_2),(1,v_5),(2,v_8),(3,v_b)] H_c n_d fun v_e H_f n_g=>
some (v_e,H_f,n_g)
noncomputable def C54_0:=B54_0 cal k 
theorem h54_0(H:Hp)(n:Nat):aW P cal A (k+1) 54 [] H n=C54_0 cal k  H n:=(bq Go.Proofs.Tryz.f54 code54 results54 (by kernel_rfl)).trans (by kernel_rfl)
noncomputable def Rx:Code:=aJ 55
noncomputable def rQ:List ResultVar:=bk 55
noncomputable def K55_prr:KR:=(cutK (Lv.b (Lv.b (A 55))).c (bY P cal (aY P cal k) none 55 (cR (cR (cR Rx))) (Lv.b (Lv.b (Lv.b (A 55)))) (ay P rQ) X0 (ay P rQ)))
noncomputable def B55_0(cal:Cal)(k:Nat)(v0:Value)(H:Hp)(n:Nat):Res:=
boxK 41 v0 H n fun v_1 H_2 n_3=>
bindO (ax P 41 v_1 0) fun v_5=>
bindO (aX v_5) fun a_7=>bindO (ak P H_2 39 a_7) fun v_6=>
aK P cal 77 [v_6] H_2 n_3 fun v_8 H_9 n_a=>
binK P BinOp.neq 33 (Operand.tmp 7) (Operand.const (Value.int IntKind.i64 0)) v_8 (Value.int IntKind.i64 0) fun v_d=>
ifK v_d (
some (v_8,H_9,n_a)) (
bindO (aX v_1) fun a_h=>bindO (ak P H_9 41 a_h) fun v_g=>
bindO (ax P 41 v_1 1) fun v_i=>
bindO (aX v_i) fun a_k=>bindO (ak P H_9 27 a_k) fun v_j=>
aK P cal 78 [v_g,v_j] H_9 n_a fun v_l H_m n_n=>
bindO (dX P v_l (Op.unary UnOp.not v_l)) fun v_o=>
bw v_o false (fun k_q=>
bindO (ax P 41 v_1 2) fun v_u=>
k_q v_u H_m n_n) H_m n_n fun v_r H_s n_t=>
bw v_o false (fun k_v=>
bindO (aX v_r) fun a_10=>bindO (ak P H_s 27 a_10) fun v_z=>
k_v v_z H_s n_t) H_s n_t fun v_w H_x n_y=>
bw v_o false (fun k_11=>
bindO (lenV P 27 v_w) fun v_15=>
k_11 v_15 H_x n_y) H_x n_y fun v_12 H_13 n_14=>
bw v_o false (fun k_16=>
bindO (ax P 41 v_1 0) fun v_1a=>
k_16 v_1a H_13 n_14) H_13 n_14 fun v_17 H_18 n_19=>
bw v_o false (fun k_1b=>
bindO (ax P 39 v_17 0) fun v_1f=>
k_1b v_1f H_18 n_19) H_18 n_19 fun v_1c H_1d n_1e=>
bw v_o false (fun k_1g=>
bindO (aX v_1c) fun a_1l=>bindO (ak P H_1d 35 a_1l) fun v_1k=>
k_1g v_1k H_1d n_1e) H_1d n_1e fun v_1h H_1i n_1j=>
bw v_o false (fun k_1m=>
bindO (lenV P 35 v_1h) fun v_1q=>
k_1m v_1q H_1i n_1j) H_1i n_1j fun v_1n H_1o n_1p=>
bw v_o false (fun k_1r=>
binK P BinOp.neq 3 (Operand.tmp 18) (Operand.tmp 22) v_12 v_1n fun v_1v=>
k_1r v_1v H_1o n_1p) H_1o n_1p fun v_1s H_1t n_1u=>
bindO (fW v_o (Value.bool true) v_1s) fun v_1w=>
bw v_1w false (fun k_1y=>
bindO (ax P 41 v_1 2) fun v_22=>
k_1y v_22 H_1t n_1u) H_1t n_1u fun v_1z H_20 n_21=>
bw v_1w false (fun k_23=>
bindO (aX v_1z) fun a_28=>bindO (ak P H_20 27 a_28) fun v_27=>
k_23 v_27 H_20 n_21) H_20 n_21 fun v_24 H_25 n_26=>
bw v_1w false (fun k_29=>
aK P cal 79 [v_24,(Value.func (.func 80) #[] #[])] H_25 n_26 fun v_2d H_2e n_2f=>
k_29 v_2d H_2e n_2f) H_25 n_26 fun v_2a H_2b n_2c=>
bw v_1w false (fun k_2g=>
bindO (dX P v_2a (Op.unary UnOp.not v_2a)) fun v_2k=>
k_2g v_2k H_2b n_2c) H_2b n_2c fun v_2h H_2i n_2j=>
bindO (fW v_1w (Value.bool true) v_2h) fun v_2l=>
ifK v_2l (
some ((Value.int IntKind.i64 1),H_2i,n_2j)) (
some ((Value.int IntKind.i64 0),H_2i,n_2j)))
noncomputable def C55_0:=B55_0 cal k
theorem h55_0(v0:Value)(H:Hp)(n:Nat):aW P cal A (k+1) 55 [v0] H n=C55_0 cal k v0 H n:=(bq Go.Proofs.Tryz.f55 Rx rQ (by kernel_rfl)).trans (by kernel_rfl)
noncomputable def xV:Code:=aJ 57
noncomputable def jv:List ResultVar:=bk 57
noncomputable def nW:KR:=(cutK (Lv.b (Lv.b (Lv.b (Lv.b (Lv.b (Lv.b (A 57))))))).c (bY P cal (aY P cal k) none 57 (cR (cR (cR (cR (cR (cR (cR xV))))))) (Lv.b (Lv.b (Lv.b (Lv.b (Lv.b (Lv.b (Lv.b (A 57)))))))) (ay P jv) X0 (ay P jv)))
noncomputable def jV:XR:=(upX 0 (nW cal k) X0)
noncomputable def xW(m1:Nat):KR:=(fun T H n D=>aY P cal m1 (Lv.a (Lv.b (Lv.a (Lv.b (Lv.b (Lv.b (Lv.b (Lv.b (Lv.b (A 57)))))))))) none 57 (cL (cR (cL (cR (cR (cR (cR (cR (cR xV))))))))) (nW cal k) (jV cal k) (ay P jv) (cutT (Lv.a (Lv.b (Lv.a (Lv.b (Lv.b (Lv.b (Lv.b (Lv.b (Lv.b (A 57)))))))))).c T) H n D)
noncomputable def T57_1(m1:Nat):=fun(u7 u9 u34 u35 u36:Value) (H:Hp) (n:Nat)=>labK (bY P cal (aY P cal m1) none 57 (cL (cL (cR (cL (cR (cR (cR (cR (cR (cR xV)))))))))) (Lv.a (Lv.a (Lv.b (Lv.a (Lv.b (Lv.b (Lv.b (Lv.b (Lv.b (Lv.b (A 57))))))))))) (xW cal k m1) (jV cal k) (ay P jv)) (Tr.set (Tr.set (Tr.set (Tr.set (Tr.set Tr.nil 36 (some u36)) 35 (some u35)) 34 (some u34)) 9 (some u9)) 7 (some u7)) H n []
noncomputable def R57_1(m1:Nat):V5:=fun u7 u9 u34 u35 u36 H n=>aY P cal m1 (Lv.a (Lv.b (Lv.a (Lv.b (Lv.b (Lv.b (Lv.b (Lv.b (Lv.b (A 57)))))))))) none 57 (cL (cR (cL (cR (cR (cR (cR (cR (cR xV))))))))) (nW cal k) (jV cal k) (ay P jv) (Tr.set (Tr.set (Tr.set (Tr.set (Tr.set Tr.nil 36 (some u36)) 35 (some u35)) 34 (some u34)) 9 (some u9)) 7 (some u7)) H n []
noncomputable def B57_1(cal:Cal)(k m1:Nat)(b1:V5)(u7 u9 u34 u35 u36:Value)(H:Hp)(n:Nat):Res:=
binK P BinOp.lss 3 (Operand.tmp 36) (Operand.tmp 35) u36 u35 fun v_1g=>
ifK v_1g (
bindO (aQ P 30 u34 u36) fun v_1i=>
bindO (aX v_1i) fun a_1k=>bindO (ak P H 27 a_1k) fun v_1j=>
aK P cal 83 [v_1j] H n fun v_1q H_1r n_1s=>
bindO (aQ P 98 u9 u36) fun v_1t=>
bindO (dW P 106 v_1t v_1q H_1r) fun H_1v=>
binK P BinOp.add 3 (Operand.tmp 36) (Operand.const (Value.int IntKind.i64 1)) u36 (Value.int IntKind.i64 1) fun v_1w=>
b1 u7 u9 u34 u35 v_1w H_1v n_1s) (
some ((Value.tuple ⟨[u7,u9,(Value.int IntKind.i64 0)]⟩),H,n))
noncomputable def Wx(m1:Nat):=B57_1 cal k m1
noncomputable def Wy:Nat→V5:=recF (Wx cal k) (fun _ _ _ _ _ _ _=>none)
theorem h57_1(m1:Nat):T57_1 cal k m1=Wx cal k m1 (R57_1 cal k m1):=by kernel_rfl
theorem q57_1(m:Nat):T57_1 cal k m=Wy cal k m:=recS (h57_1 cal k) (by kernel_rfl) (fun m=>by kernel_rfl) m
noncomputable def B57_0(cal:Cal)(k:Nat)(j1:V5)(v0 v1:Value)(H:Hp)(n:Nat):Res:=
boxK 41 v0 H n fun v_1 H_2 n_3=>
bindO (aX v_1) fun a_8=>bindO (ak P H_2 41 a_8) fun v_7=>
aK P cal 66 [v_7] H_2 n_3 fun v_9 H_a n_b=>
bindO (tupV v_9 0) fun v_d=>
bindO (tupV v_9 1) fun v_e=>
binK P BinOp.neq 33 (Operand.tmp 17) (Operand.const (Value.int IntKind.i64 0)) v_e (Value.int IntKind.i64 0) fun v_i=>
ifK v_i (
some ((Value.tuple ⟨[(Value.pointer none),(Value.slice none 0 0),v_e]⟩),H_a,n_b)) (
bindO (lenV P 30 v1) fun v_o=>
binK P BinOp.gtr 3 (Operand.tmp 21) (Operand.const (Value.int IntKind.i64 300)) v_o (Value.int IntKind.i64 300) fun v_p=>
ifK v_p (
some ((Value.tuple ⟨[(Value.pointer none),(Value.slice none 0 0),(Value.int IntKind.i64 3)]⟩),H_a,n_b)) (
bindO (nilV v_d) fun v_v=>
bindO (ax P 109 v_v 0) fun v_w=>
bindO (aX v_w) fun a_y=>bindO (ak P H_a 41 a_y) fun v_x=>
aK P cal 82 [v1,(Value.func (Fn.func 78) ⟨[v_x]⟩ ⟨[]⟩)] H_a n_b fun v_10 H_11 n_12=>
bindO (dX P v_10 (Op.unary UnOp.not v_10)) fun v_13=>
ifK v_13 (
some ((Value.tuple ⟨[(Value.pointer none),(Value.slice none 0 0),(Value.int IntKind.i64 2)]⟩),H_11,n_12)) (
bindO (lenV P 30 v1) fun v_18=>
stK (jW P 98 v_18 v_18 (bare H_11 n_12)) fun v_19 H_1a n_1b=>
bindO (lenV P 30 v1) fun v_1e=>
j1 v_d v_19 v1 v_1e (Value.int IntKind.i64 0) H_1a n_1b)))
noncomputable def C57_0:=B57_0 cal k (Wy cal k k)
theorem h57_0(v0 v1:Value)(H:Hp)(n:Nat):aW P cal A (k+1) 57 [v0,v1] H n=C57_0 cal k v0 v1 H n:=(bq Go.Proofs.Tryz.f57 xV jv (by kernel_rfl)).trans (Eq.trans (b:=B57_0 cal k (T57_1 cal k k) v0 v1 H n) (by kernel_rfl) (by rw[q57_1]; rfl))
noncomputable def code58:Code:=aJ 58
noncomputable def wZ:List ResultVar:=bk 58
noncomputable def K58_prr:KR:=(cutK (Lv.b (Lv.b (A 58))).c (bY P cal (aY P cal k) none 58 (cR (cR (cR code58))) (Lv.b (Lv.b (Lv.b (A 58)))) (ay P wZ) X0 (ay P wZ)))
noncomputable def NY:XR:=(upX 0 (K58_prr cal k) X0)
noncomputable def K58_prrlrl(m1:Nat):KR:=(fun T H n D=>aY P cal m1 (Lv.a (Lv.b (Lv.a (Lv.b (Lv.b (A 58)))))) none 58 (cL (cR (cL (cR (cR code58))))) (K58_prr cal k) (NY cal k) (ay P wZ) (cutT (Lv.a (Lv.b (Lv.a (Lv.b (Lv.b (A 58)))))).c T) H n D)
noncomputable def T58_1(m1:Nat):=fun(u3 u6 u7 u8:Value) (H:Hp) (n:Nat)=>labK (bY P cal (aY P cal m1) none 58 (cL (cL (cR (cL (cR (cR code58)))))) (Lv.a (Lv.a (Lv.b (Lv.a (Lv.b (Lv.b (A 58))))))) (K58_prrlrl cal k m1) (NY cal k) (ay P wZ)) (Tr.set (Tr.set (Tr.set (Tr.set Tr.nil 8 (some u8)) 7 (some u7)) 6 (some u6)) 3 (some u3)) H n []
noncomputable def R58_1(m1:Nat):V4:=fun u3 u6 u7 u8 H n=>aY P cal m1 (Lv.a (Lv.b (Lv.a (Lv.b (Lv.b (A 58)))))) none 58 (cL (cR (cL (cR (cR code58))))) (K58_prr cal k) (NY cal k) (ay P wZ) (Tr.set (Tr.set (Tr.set (Tr.set Tr.nil 8 (some u8)) 7 (some u7)) 6 (some u6)) 3 (some u3)) H n []
noncomputable def B58_1(cal:Cal)(k m1:Nat)(b1:V4)(u3 u6 u7 u8:Value)(H:Hp)(n:Nat):Res:=
binK P BinOp.lss 3 (Operand.tmp 8) (Operand.tmp 7) u8 u7 fun v_6=>
ifK v_6 (
bindO (aQ P 98 u6 u8) fun v_7=>
bindO (aX v_7) fun a_9=>bindO (ak P H 106 a_9) fun v_8=>
aK P cal 84 [v_8] H n fun v_d H_e n_f=>
rowK P 30 1 [(0,v_d)] H_e n_f fun v_g H_h n_i=>
stK (dz P (bare H_h n_i) 30 30 u3 v_g) fun v_j H_k n_l=>
binK P BinOp.add 3 (Operand.tmp 8) (Operand.const (Value.int IntKind.i64 1)) u8 (Value.int IntKind.i64 1) fun v_n=>
b1 v_j u6 u7 v_n H_k n_l) (
some (u3,H,n))
noncomputable def C58_1(m1:Nat):=B58_1 cal k m1
noncomputable def S58_1:Nat→V4:=recF (C58_1 cal k) (fun _ _ _ _ _ _=>none)
theorem h58_1(m1:Nat):T58_1 cal k m1=C58_1 cal k m1 (R58_1 cal k m1):=by kernel_rfl
theorem q58_1(m:Nat):T58_1 cal k m=S58_1 cal k m:=recS (h58_1 cal k) (by kernel_rfl) (fun m=>by kernel_rfl) m
noncomputable def B58_0(cal:Cal)(k:Nat)(j1:V4)(v0:Value)(H:Hp)(n:Nat):Res:=
bindO (lenV P 98 v0) fun v_4=>
j1 (Value.slice none 0 0) v0 v_4 (Value.int IntKind.i64 0) H n
noncomputable def C58_0:=B58_0 cal k (S58_1 cal k k)
theorem h58_0(v0:Value)(H:Hp)(n:Nat):aW P cal A (k+1) 58 [v0] H n=C58_0 cal k v0 H n:=(bq Go.Proofs.Tryz.f58 code58 wZ (by kernel_rfl)).trans (Eq.trans (b:=B58_0 cal k (T58_1 cal k k) v0 H n) (by kernel_rfl) (by rw[q58_1]; rfl))
noncomputable def code59:Code:=aJ 59
noncomputable def wK:List ResultVar:=bk 59
noncomputable def K59_prr:KR:=(cutK (Lv.b (Lv.b (A 59))).c (bY P cal (aY P cal k) none 59 (cR (cR (cR code59))) (Lv.b (Lv.b (Lv.b (A 59)))) (ay P wK) X0 (ay P wK)))
noncomputable def NZ:XR:=(upX 0 (K59_prr cal k) X0)
noncomputable def K59_prrlrl(m1:Nat):KR:=(fun T H n D=>aY P cal m1 (Lv.a (Lv.b (Lv.a (Lv.b (Lv.b (A 59)))))) none 59 (cL (cR (cL (cR (cR code59))))) (K59_prr cal k) (NZ cal k) (ay P wK) (cutT (Lv.a (Lv.b (Lv.a (Lv.b (Lv.b (A 59)))))).c T) H n D)
noncomputable def T59_1(m1:Nat):=fun(u0 u5 u15 u16 u17:Value) (H:Hp) (n:Nat)=>labK (bY P cal (aY P cal m1) none 59 (cL (cL (cR (cL (cR (cR code59)))))) (Lv.a (Lv.a (Lv.b (Lv.a (Lv.b (Lv.b (A 59))))))) (K59_prrlrl cal k m1) (NZ cal k) (ay P wK)) (Tr.set (Tr.set (Tr.set (Tr.set (Tr.set Tr.nil 17 (some u17)) 16 (some u16)) 15 (some u15)) 5 (some u5)) 0 (some u0)) H n []
noncomputable def R59_1(m1:Nat):V5:=fun u0 u5 u15 u16 u17 H n=>aY P cal m1 (Lv.a (Lv.b (Lv.a (Lv.b (Lv.b (A 59)))))) none 59 (cL (cR (cL (cR (cR code59))))) (K59_prr cal k) (NZ cal k) (ay P wK) (Tr.set (Tr.set (Tr.set (Tr.set (Tr.set Tr.nil 17 (some u17)) 16 (some u16)) 15 (some u15)) 5 (some u5)) 0 (some u0)) H n []
noncomputable def B59_1(cal:Cal)(k m1:Nat)(b1:V5)(u0 u5 u15 u16 u17:Value)(H:Hp)(n:Nat):Res:=
binK P BinOp.lss 3 (Operand.tmp 17) (Operand.tmp 16) u17 u16 fun v_i=>
ifK v_i (
bindO (aQ P 98 u15 u17) fun v_k=>
bindO (aX v_k) fun a_m=>bindO (ak P H 106 a_m) fun v_l=>
bindO (aQ P 98 u5 u17) fun v_t=>
bindO (aX v_t) fun a_v=>bindO (ak P H 106 a_v) fun v_u=>
aK P cal 85 [u0,v_u] H n fun v_w H_x n_y=>
aK P cal 86 [v_w,v_l] H_x n_y fun v_10 H_11 n_12=>
rowK P 98 1 [(0,v_10)] H_11 n_12 fun v_13 H_14 n_15=>
stK (dz P (bare H_14 n_15) 98 98 u5 v_13) fun v_16 H_17 n_18=>
binK P BinOp.add 3 (Operand.tmp 17) (Operand.const (Value.int IntKind.i64 1)) u17 (Value.int IntKind.i64 1) fun v_1a=>
b1 u0 v_16 u15 u16 v_1a H_17 n_18) (
some (u5,H,n))
noncomputable def C59_1(m1:Nat):=B59_1 cal k m1
noncomputable def S59_1:Nat→V5:=recF (C59_1 cal k) (fun _ _ _ _ _ _ _=>none)
theorem h59_1(m1:Nat):T59_1 cal k m1=C59_1 cal k m1 (R59_1 cal k m1):=by kernel_rfl
theorem q59_1(m:Nat):T59_1 cal k m=S59_1 cal k m:=recS (h59_1 cal k) (by kernel_rfl) (fun m=>by kernel_rfl) m
noncomputable def B59_0(cal:Cal)(k:Nat)(j1:V5)(v0 v1:Value)(H:Hp)(n:Nat):Res:=
bindO (nilV v0) fun v_3=>
bindO (ax P 109 v_3 0) fun v_4=>
bindO (ax P 41 v_4 1) fun v_5=>
bindO (aX v_5) fun a_7=>bindO (ak P H 27 a_7) fun v_6=>
aK P cal 83 [v_6] H n fun v_8 H_9 n_a=>
rowK P 98 1 [(0,v_8)] H_9 n_a fun v_b H_c n_d=>
bindO (lenV P 98 v1) fun v_g=>
j1 v0 v_b v1 v_g (Value.int IntKind.i64 0) H_c n_d
noncomputable def C59_0:=B59_0 cal k (S59_1 cal k k)
theorem h59_0(v0 v1:Value)(H:Hp)(n:Nat):aW P cal A (k+1) 59 [v0,v1] H n=C59_0 cal k v0 v1 H n:=(bq Go.Proofs.Tryz.f59 code59 wK (by kernel_rfl)).trans (Eq.trans (b:=B59_0 cal k (T59_1 cal k k) v0 v1 H n) (by kernel_rfl) (by rw[q59_1]; rfl))
noncomputable def tk:Code:=aJ 63
noncomputable def fQ:List ResultVar:=bk 63
noncomputable def tJ:KR:=(cutK (Lv.b (Lv.b (Lv.b (Lv.b (A 63))))).c (bY P cal (aY P cal k) none 63 (cR (cR (cR (cR (cR tk))))) (Lv.b (Lv.b (Lv.b (Lv.b (Lv.b (A 63)))))) (ay P fQ) X0 (ay P fQ)))
noncomputable def mw:XR:=(upX 0 (tJ cal k) X0)
noncomputable def Cw(m1:Nat):KR:=(fun T H n D=>aY P cal m1 (Lv.a (Lv.b (Lv.a (Lv.b (Lv.b (Lv.b (Lv.b (A 63)))))))) none 63 (cL (cR (cL (cR (cR (cR (cR tk))))))) (tJ cal k) (mw cal k) (ay P fQ) (cutT (Lv.a (Lv.b (Lv.a (Lv.b (Lv.b (Lv.b (Lv.b (A 63)))))))).c T) H n D)
noncomputable def T63_1:=fun(u6:Value) (H:Hp) (n:Nat)=>labK (bY P cal (aY P cal k) none 63 (cR (cR (cR (cR (cR tk))))) (Lv.b (Lv.b (Lv.b (Lv.b (Lv.b (A 63)))))) (ay P fQ) X0 (ay P fQ)) (Tr.set Tr.nil 6 (some u6)) H n []
noncomputable def T63_2(m1:Nat):=fun(u0 u5 u6 u7 u20 u21 u22:Value) (H:Hp) (n:Nat)=>labK (bY P cal (aY P cal m1) none 63 (cL (cL (cR (cL (cR (cR (cR (cR tk)))))))) (Lv.a (Lv.a (Lv.b (Lv.a (Lv.b (Lv.b (Lv.b (Lv.b (A 63))))))))) (Cw cal k m1) (mw cal k) (ay P fQ)) (Tr.set (Tr.set (Tr.set (Tr.set (Tr.set (Tr.set (Tr.set Tr.nil 22 (some u22)) 21 (some u21)) 20 (some u20)) 7 (some u7)) 6 (some u6)) 5 (some u5)) 0 (some u0)) H n []
noncomputable def R63_2(m1:Nat):V7:=fun u0 u5 u6 u7 u20 u21 u22 H n=>aY P cal m1 (Lv.a (Lv.b (Lv.a (Lv.b (Lv.b (Lv.b (Lv.b (A 63)))))))) none 63 (cL (cR (cL (cR (cR (cR (cR tk))))))) (tJ cal k) (mw cal k) (ay P fQ) (Tr.set (Tr.set (Tr.set (Tr.set (Tr.set (Tr.set (Tr.set Tr.nil 22 (some u22)) 21 (some u21)) 20 (some u20)) 7 (some u7)) 6 (some u6)) 5 (some u5)) 0 (some u0)) H n []
noncomputable def B63_1(cal:Cal)(k:Nat)(u6:Value)(H:Hp)(n:Nat):Res:=
some (u6,H,n)
noncomputable def Wz:=B63_1 cal k
theorem h63_1:T63_1 cal k=Wz cal k:=by kernel_rfl
noncomputable def B63_2(cal:Cal)(k m1:Nat)(j1:V1)(b2:V7)(u0 u5 u6 u7 u20 u21 u22:Value)(H:Hp)(n:Nat):Res:=
binK P BinOp.lss 3 (Operand.tmp 22) (Operand.tmp 21) u22 u21 fun v_s=>
ifK v_s (
bindO (aQ P 98 u20 u22) fun v_u=>
bindO (aX v_u) fun a_w=>bindO (ak P H 106 a_w) fun v_v=>
kj P 3 H n fun v_x H_y n_z=>
bindO (dW P 3 v_x u22 H_y) fun H_11=>
binK P BinOp.eql 106 (Operand.tmp 27) (Operand.const (Value.int IntKind.u64 0)) u7 (Value.int IntKind.u64 0) fun v_14=>
ifK v_14 (
j1 u6 H_11 n_z) (
aK P cal 84 [u7] H_11 n_z fun v_16 H_17 n_18=>
aK P cal 90 [v_16,(Value.func (Fn.func 91) ⟨[]⟩ ⟨[u5,v_x]⟩)] H_17 n_18 fun v_1a H_1b n_1c=>
rowK P 27 1 [(0,v_1a)] H_1b n_1c fun v_1g H_1h n_1i=>
stK (dz P (bare H_1h n_1i) 27 27 u6 v_1g) fun v_1j H_1k n_1l=>
rowK P 27 1 [(0,v_1a)] H_1k n_1l fun v_1p H_1q n_1r=>
aK P cal 83 [v_1p] H_1q n_1r fun v_1s H_1t n_1u=>
aK P cal 85 [u0,v_1s] H_1t n_1u fun v_1v H_1w n_1x=>
aK P cal 86 [v_1v,v_v] H_1w n_1x fun v_1z H_20 n_21=>
binK P BinOp.add 3 (Operand.tmp 22) (Operand.const (Value.int IntKind.i64 1)) u22 (Value.int IntKind.i64 1) fun v_23=>
b2 u0 u5 v_1j v_1z u20 u21 v_23 H_20 n_21)) (
j1 u6 H n)
noncomputable def C63_2(m1:Nat):=B63_2 cal k m1 (Wz cal k)
noncomputable def S63_2:Nat→V7:=recF (C63_2 cal k) (fun _ _ _ _ _ _ _ _ _=>none)
theorem h63_2(m1:Nat):T63_2 cal k m1=C63_2 cal k m1 (R63_2 cal k m1):=Eq.trans (b:=B63_2 cal k m1 (T63_1 cal k) (R63_2 cal k m1)) (by kernel_rfl) (by rw[h63_1]; rfl)
theorem q63_2(m:Nat):T63_2 cal k m=S63_2 cal k m:=recS (h63_2 cal k) (by kernel_rfl) (fun m=>by kernel_rfl) m
noncomputable def B63_0(cal:Cal)(k:Nat)(j2:V7)(v0 v1:Value)(H:Hp)(n:Nat):Res:=
aK P cal 89 [v0,v1] H n fun v_4 H_5 n_6=>
kj P 147 H_5 n_6 fun v_7 H_8 n_9=>
bindO (dW P 147 v_7 v_4 H_8) fun H_b=>
bindO (nilV v0) fun v_e=>
bindO (ax P 109 v_e 0) fun v_f=>
bindO (ax P 41 v_f 1) fun v_g=>
bindO (aX v_g) fun a_i=>bindO (ak P H_b 27 a_i) fun v_h=>
aK P cal 83 [v_h] H_b n_9 fun v_j H_k n_l=>
bindO (lenV P 98 v1) fun v_q=>
j2 v0 v_7 (Value.slice none 0 0) v_j v1 v_q (Value.int IntKind.i64 0) H_k n_l
noncomputable def C63_0:=B63_0 cal k (S63_2 cal k k)
theorem h63_0(v0 v1:Value)(H:Hp)(n:Nat):aW P cal A (k+1) 63 [v0,v1] H n=C63_0 cal k v0 v1 H n:=(bq Go.Proofs.Tryz.f63 tk fQ (by kernel_rfl)).trans (Eq.trans (b:=B63_0 cal k (T63_2 cal k k) v0 v1 H n) (by kernel_rfl) (by rw[q63_2]; rfl))
end Go.Proofs.YtcjnaeimeilomaaGreat.G
end
end
section
open Go Go.Ev
set_option maxRecDepth 1000000
noncomputable section
namespace Go.Proofs.YtcjnaeimeilomaaGreat.G
variable (cal:Cal) (k:Nat)
noncomputable def xX:Code:=aJ 64
noncomputable def jw:List ResultVar:=bk 64
noncomputable def Cx:KR:=(cutK (Lv.b (Lv.b (A 64))).c (bY P cal (aY P cal k) none 64 (cR (cR (cR xX))) (Lv.b (Lv.b (Lv.b (A 64)))) (ay P jw) X0 (ay P jw)))
noncomputable def qz:XR:=(upX 0 (Cx cal k) X0)
noncomputable def KY(m1:Nat):KR:=(fun T H n D=>aY P cal m1 (Lv.a (Lv.b (Lv.a (Lv.b (Lv.b (A 64)))))) none 64 (cL (cR (cL (cR (cR xX))))) (Cx cal k) (qz cal k) (ay P jw) (cutT (Lv.a (Lv.b (Lv.a (Lv.b (Lv.b (A 64)))))).c T) H n D)
noncomputable def T64_1(m1:Nat):=fun(u0 u5 u8 u9 u10:Value) (H:Hp) (n:Nat)=>labK (bY P cal (aY P cal m1) none 64 (cL (cL (cR (cL (cR (cR xX)))))) (Lv.a (Lv.a (Lv.b (Lv.a (Lv.b (Lv.b (A 64))))))) (KY cal k m1) (qz cal k) (ay P jw)) (Tr.set (Tr.set (Tr.set (Tr.set (Tr.set Tr.nil 10 (some u10)) 9 (some u9)) 8 (some u8)) 5 (some u5)) 0 (some u0)) H n []
noncomputable def R64_1(m1:Nat):V5:=fun u0 u5 u8 u9 u10 H n=>aY P cal m1 (Lv.a (Lv.b (Lv.a (Lv.b (Lv.b (A 64)))))) none 64 (cL (cR (cL (cR (cR xX))))) (Cx cal k) (qz cal k) (ay P jw) (Tr.set (Tr.set (Tr.set (Tr.set (Tr.set Tr.nil 10 (some u10)) 9 (some u9)) 8 (some u8)) 5 (some u5)) 0 (some u0)) H n []
noncomputable def B64_1(cal:Cal)(k m1:Nat)(b1:V5)(u0 u5 u8 u9 u10:Value)(H:Hp)(n:Nat):Res:=
binK P BinOp.lss 3 (Operand.tmp 10) (Operand.tmp 9) u10 u9 fun v_6=>
ifK v_6 (
bindO (aQ P 27 u8 u10) fun v_7=>
bindO (aX v_7) fun a_9=>bindO (ak P H 3 a_9) fun v_8=>
bindO (nilV u0) fun v_d=>
bindO (ax P 109 v_d 0) fun v_e=>
bindO (ax P 41 v_e 2) fun v_f=>
bindO (aX v_f) fun a_h=>bindO (ak P H 27 a_h) fun v_g=>
bindO (aQ P 27 v_g v_8) fun v_j=>
bindO (aX v_j) fun a_l=>bindO (ak P H 3 a_l) fun v_k=>
binK P BinOp.add 3 (Operand.tmp 14) (Operand.tmp 22) u5 v_k fun v_m=>
binK P BinOp.add 3 (Operand.tmp 10) (Operand.const (Value.int IntKind.i64 1)) u10 (Value.int IntKind.i64 1) fun v_o=>
b1 u0 v_m u8 u9 v_o H n) (
some (u5,H,n))
noncomputable def Wk(m1:Nat):=B64_1 cal k m1
noncomputable def WJ:Nat→V5:=recF (Wk cal k) (fun _ _ _ _ _ _ _=>none)
theorem h64_1(m1:Nat):T64_1 cal k m1=Wk cal k m1 (R64_1 cal k m1):=by kernel_rfl
theorem q64_1(m:Nat):T64_1 cal k m=WJ cal k m:=recS (h64_1 cal k) (by kernel_rfl) (fun m=>by kernel_rfl) m
noncomputable def B64_0(cal:Cal)(k:Nat)(j1:V5)(v0 v1:Value)(H:Hp)(n:Nat):Res:=
bindO (lenV P 27 v1) fun v_4=>
j1 v0 (Value.int IntKind.i64 0) v1 v_4 (Value.int IntKind.i64 0) H n
noncomputable def C64_0:=B64_0 cal k (WJ cal k k)
theorem h64_0(v0 v1:Value)(H:Hp)(n:Nat):aW P cal A (k+1) 64 [v0,v1] H n=C64_0 cal k v0 v1 H n:=(bq Go.Proofs.Tryz.f64 xX jw (by kernel_rfl)).trans (Eq.trans (b:=B64_0 cal k (T64_1 cal k k) v0 v1 H n) (by kernel_rfl) (by rw[q64_1]; rfl))
noncomputable def my:Code:=aJ 66
noncomputable def ew:List ResultVar:=bk 66
noncomputable def xY:KR:=(cutK (Lv.b (Lv.b (Lv.b (A 66)))).c (bY P cal (aY P cal k) none 66 (cR (cR (cR (cR my)))) (Lv.b (Lv.b (Lv.b (Lv.b (A 66))))) (ay P ew) X0 (ay P ew)))
noncomputable def nX:XR:=(upX 0 (xY cal k) X0)
noncomputable def Fv(m1:Nat):KR:=(fun T H n D=>aY P cal m1 (Lv.a (Lv.b (Lv.a (Lv.b (Lv.b (Lv.b (A 66))))))) none 66 (cL (cR (cL (cR (cR (cR my)))))) (xY cal k) (nX cal k) (ay P ew) (cutT (Lv.a (Lv.b (Lv.a (Lv.b (Lv.b (Lv.b (A 66))))))).c T) H n D)
noncomputable def tQ:KR:=(cutK (Lv.b (Lv.b (Lv.b (Lv.b (A 66))))).c (bY P cal (aY P cal k) none 66 (cR (cR (cR (cR (cR my))))) (Lv.b (Lv.b (Lv.b (Lv.b (Lv.b (A 66)))))) (ay P ew) X0 (ay P ew)))
noncomputable def mz:XR:=(upX 2 (tQ cal k) X0)
noncomputable def Cy(m1:Nat):KR:=(fun T H n D=>aY P cal m1 (Lv.a (Lv.b (Lv.a (Lv.b (Lv.b (Lv.b (Lv.b (A 66)))))))) none 66 (cL (cR (cL (cR (cR (cR (cR my))))))) (tQ cal k) (mz cal k) (ay P ew) (cutT (Lv.a (Lv.b (Lv.a (Lv.b (Lv.b (Lv.b (Lv.b (A 66)))))))).c T) H n D)
noncomputable def T66_2(m1:Nat):=fun(u5 u40 u41 u42:Value) (H:Hp) (n:Nat)=>labK (bY P cal (aY P cal m1) none 66 (cL (cL (cR (cL (cR (cR (cR (cR my)))))))) (Lv.a (Lv.a (Lv.b (Lv.a (Lv.b (Lv.b (Lv.b (Lv.b (A 66))))))))) (Cy cal k m1) (mz cal k) (ay P ew)) (Tr.set (Tr.set (Tr.set (Tr.set Tr.nil 42 (some u42)) 41 (some u41)) 40 (some u40)) 5 (some u5)) H n []
noncomputable def R66_2(m1:Nat):V4:=fun u5 u40 u41 u42 H n=>aY P cal m1 (Lv.a (Lv.b (Lv.a (Lv.b (Lv.b (Lv.b (Lv.b (A 66)))))))) none 66 (cL (cR (cL (cR (cR (cR (cR my))))))) (tQ cal k) (mz cal k) (ay P ew) (Tr.set (Tr.set (Tr.set (Tr.set Tr.nil 42 (some u42)) 41 (some u41)) 40 (some u40)) 5 (some u5)) H n []
noncomputable def T66_1(m1:Nat):=fun(u5 u22 u23:Value) (H:Hp) (n:Nat)=>labK (bY P cal (aY P cal m1) none 66 (cL (cL (cR (cL (cR (cR (cR my))))))) (Lv.a (Lv.a (Lv.b (Lv.a (Lv.b (Lv.b (Lv.b (A 66)))))))) (Fv cal k m1) (nX cal k) (ay P ew)) (Tr.set (Tr.set (Tr.set Tr.nil 23 (some u23)) 22 (some u22)) 5 (some u5)) H n []
noncomputable def R66_1(m1:Nat):V3:=fun u5 u22 u23 H n=>aY P cal m1 (Lv.a (Lv.b (Lv.a (Lv.b (Lv.b (Lv.b (A 66))))))) none 66 (cL (cR (cL (cR (cR (cR my)))))) (xY cal k) (nX cal k) (ay P ew) (Tr.set (Tr.set (Tr.set Tr.nil 23 (some u23)) 22 (some u22)) 5 (some u5)) H n []
noncomputable def B66_2(cal:Cal)(k m1:Nat)(b2:V4)(u5 u40 u41 u42:Value)(H:Hp)(n:Nat):Res:=
binK P BinOp.lss 3 (Operand.tmp 42) (Operand.tmp 41) u42 u41 fun v_1o=>
ifK v_1o (
bindO (aQ P 36 u40 u42) fun v_1p=>
bindO (aX v_1p) fun a_1r=>bindO (ak P H 131 a_1r) fun v_1q=>
kj P 131 H n fun v_1s H_1t n_1u=>
bindO (dW P 131 v_1s v_1q H_1t) fun H_1w=>
bindO (ax P 131 v_1s 0) fun v_1y=>
bindO (aX v_1y) fun a_1z=>bindO (ak P H_1w 3 a_1z) fun v_20=>
bindO (nilV u5) fun v_21=>
bindO (ax P 109 v_21 1) fun v_22=>
bindO (aQ P 107 v_22 v_20) fun v_23=>
bindO (aX v_23) fun a_24=>bindO (ak P H_1w 106 a_24) fun v_25=>
bindO (ax P 131 v_1s 1) fun v_26=>
bindO (aX v_26) fun a_27=>bindO (ak P H_1w 3 a_27) fun v_28=>
bindO (zz P 27 1 [(0,v_28)]) fun q_2b=>newK q_2b.1 q_2b.2 H_1w n_1u fun H_29 n_2a=>
bindO (nilV u5) fun v_2c=>
bindO (ax P 109 v_2c 1) fun v_2d=>
effK P [(.l 106 a_24),(.l 3 a_1z)] H_29 n_2a (fun H_2e n_2f k_2g=>
aK P cal 83 [(.slice (some ⟨n_1u,0,none⟩) 1 1)] H_2e n_2f fun v_2k H_2l n_2m=>
k_2g v_2k H_2l n_2m) fun v_2h H_2i n_2j=>
binK P BinOp.or 106 (Operand.tmp 52) (Operand.tmp 56) v_25 v_2h fun v_2n=>
bindO (aQ P 107 v_2d v_20) fun v_2o=>
bindO (dW P 106 v_2o v_2n H_2i) fun H_2q=>
bindO (ax P 131 v_1s 1) fun v_2s=>
bindO (aX v_2s) fun a_2t=>bindO (ak P H_2q 3 a_2t) fun v_2u=>
bindO (nilV u5) fun v_2v=>
bindO (ax P 109 v_2v 1) fun v_2w=>
bindO (aQ P 107 v_2w v_2u) fun v_2x=>
bindO (aX v_2x) fun a_2y=>bindO (ak P H_2q 106 a_2y) fun v_2z=>
bindO (ax P 131 v_1s 0) fun v_30=>
bindO (aX v_30) fun a_31=>bindO (ak P H_2q 3 a_31) fun v_32=>
bindO (zz P 27 1 [(0,v_32)]) fun q_35=>newK q_35.1 q_35.2 H_2q n_2j fun H_33 n_34=>
bindO (nilV u5) fun v_36=>
bindO (ax P 109 v_36 1) fun v_37=>
effK P [(.l 106 a_2y),(.l 3 a_2t)] H_33 n_34 (fun H_38 n_39 k_3a=>
aK P cal 83 [(.slice (some ⟨n_2j,0,none⟩) 1 1)] H_38 n_39 fun v_3e H_3f n_3g=>
k_3a v_3e H_3f n_3g) fun v_3b H_3c n_3d=>
binK P BinOp.or 106 (Operand.tmp 67) (Operand.tmp 71) v_2z v_3b fun v_3h=>
bindO (aQ P 107 v_37 v_2u) fun v_3i=>
bindO (dW P 106 v_3i v_3h H_3c) fun H_3k=>
binK P BinOp.add 3 (Operand.tmp 42) (Operand.const (Value.int IntKind.i64 1)) u42 (Value.int IntKind.i64 1) fun v_3l=>
b2 u5 u40 u41 v_3l H_3k n_3d) (
some ((Value.tuple ⟨[u5,(Value.int IntKind.i64 0)]⟩),H,n))
noncomputable def WQ(m1:Nat):=B66_2 cal k m1
noncomputable def WV:Nat→V4:=recF (WQ cal k) (fun _ _ _ _ _ _=>none)
theorem h66_2(m1:Nat):T66_2 cal k m1=WQ cal k m1 (R66_2 cal k m1):=by kernel_rfl
theorem q66_2(m:Nat):T66_2 cal k m=WV cal k m:=recS (h66_2 cal k) (by kernel_rfl) (fun m=>by kernel_rfl) m
noncomputable def B66_1(cal:Cal)(k m1:Nat)(j2:V4)(b1:V3)(u5 u22 u23:Value)(H:Hp)(n:Nat):Res:=
binK P BinOp.lss 3 (Operand.tmp 23) (Operand.tmp 22) u23 u22 fun v_w=>
ifK v_w (
bindO (zz P 27 1 [(0,u23)]) fun q_14=>newK q_14.1 q_14.2 H n fun H_12 n_13=>
bindO (nilV u5) fun v_15=>
bindO (ax P 109 v_15 1) fun v_16=>
aK P cal 83 [(.slice (some ⟨n,0,none⟩) 1 1)] H_12 n_13 fun v_17 H_18 n_19=>
bindO (aQ P 107 v_16 u23) fun v_1a=>
bindO (dW P 106 v_1a v_17 H_18) fun H_1c=>
binK P BinOp.add 3 (Operand.tmp 23) (Operand.const (Value.int IntKind.i64 1)) u23 (Value.int IntKind.i64 1) fun v_1d=>
b1 u5 u22 v_1d H_1c n_19) (
bindO (nilV u5) fun v_1g=>
bindO (ax P 109 v_1g 0) fun v_1h=>
bindO (ax P 41 v_1h 0) fun v_1i=>
bindO (ax P 39 v_1i 1) fun v_1j=>
bindO (aX v_1j) fun a_1l=>bindO (ak P H 36 a_1l) fun v_1k=>
bindO (lenV P 36 v_1k) fun v_1m=>
j2 u5 v_1k v_1m (Value.int IntKind.i64 0) H n)
noncomputable def WW(m1:Nat):=B66_1 cal k m1 (WV cal k k)
noncomputable def WX:Nat→V3:=recF (WW cal k) (fun _ _ _ _ _=>none)
theorem h66_1(m1:Nat):T66_1 cal k m1=WW cal k m1 (R66_1 cal k m1):=Eq.trans (b:=B66_1 cal k m1 (T66_2 cal k k) (R66_1 cal k m1)) (by kernel_rfl) (by rw[q66_2]; rfl)
theorem q66_1(m:Nat):T66_1 cal k m=WX cal k m:=recS (h66_1 cal k) (by kernel_rfl) (fun m=>by kernel_rfl) m
noncomputable def B66_0(cal:Cal)(k:Nat)(j1:V3)(v0:Value)(H:Hp)(n:Nat):Res:=
boxK 41 v0 H n fun v_1 H_2 n_3=>
bindO (aX v_1) fun a_7=>bindO (ak P H_2 41 a_7) fun v_6=>
aK P cal 55 [v_6] H_2 n_3 fun v_8 H_9 n_a=>
binK P BinOp.neq 33 (Operand.tmp 11) (Operand.const (Value.int IntKind.i64 0)) v_8 (Value.int IntKind.i64 0) fun v_d=>
ifK v_d (
some ((Value.tuple ⟨[(Value.pointer none),v_8]⟩),H_9,n_a)) (
bindO (aX v_1) fun a_i=>bindO (ak P H_9 41 a_i) fun v_h=>
bindO (ny P 109 [(0,v_h)]) fun v_j=>
boxK 109 v_j H_9 n_a fun v_k H_l n_m=>
bindO (nilV v_k) fun v_p=>
bindO (ax P 109 v_p 0) fun v_q=>
bindO (ax P 41 v_q 2) fun v_r=>
bindO (aX v_r) fun a_t=>bindO (ak P H_l 27 a_t) fun v_s=>
bindO (lenV P 27 v_s) fun v_u=>
j1 v_k v_u (Value.int IntKind.i64 0) H_l n_m)
noncomputable def C66_0:=B66_0 cal k (WX cal k k)
theorem h66_0(v0:Value)(H:Hp)(n:Nat):aW P cal A (k+1) 66 [v0] H n=C66_0 cal k v0 H n:=(bq Go.Proofs.Tryz.f66 my ew (by kernel_rfl)).trans (Eq.trans (b:=B66_0 cal k (T66_1 cal k k) v0 H n) (by kernel_rfl) (by rw[q66_1]; rfl))
noncomputable def code67:Code:=aJ 67
noncomputable def xj:List ResultVar:=bk 67
noncomputable def K67_prr:KR:=(cutK (Lv.b (Lv.b (A 67))).c (bY P cal (aY P cal k) none 67 (cR (cR (cR code67))) (Lv.b (Lv.b (Lv.b (A 67)))) (ay P xj) X0 (ay P xj)))
noncomputable def NK:XR:=(upX 0 (K67_prr cal k) X0)
noncomputable def K67_prrlrl(m1:Nat):KR:=(fun T H n D=>aY P cal m1 (Lv.a (Lv.b (Lv.a (Lv.b (Lv.b (A 67)))))) none 67 (cL (cR (cL (cR (cR code67))))) (K67_prr cal k) (NK cal k) (ay P xj) (cutT (Lv.a (Lv.b (Lv.a (Lv.b (Lv.b (A 67)))))).c T) H n D)
noncomputable def T67_1(m1:Nat):=fun(u0 u3 u13 u14:Value) (H:Hp) (n:Nat)=>labK (bY P cal (aY P cal m1) none 67 (cL (cL (cR (cL (cR (cR code67)))))) (Lv.a (Lv.a (Lv.b (Lv.a (Lv.b (Lv.b (A 67))))))) (K67_prrlrl cal k m1) (NK cal k) (ay P xj)) (Tr.set (Tr.set (Tr.set (Tr.set Tr.nil 14 (some u14)) 13 (some u13)) 3 (some u3)) 0 (some u0)) H n []
noncomputable def R67_1(m1:Nat):V4:=fun u0 u3 u13 u14 H n=>aY P cal m1 (Lv.a (Lv.b (Lv.a (Lv.b (Lv.b (A 67)))))) none 67 (cL (cR (cL (cR (cR code67))))) (K67_prr cal k) (NK cal k) (ay P xj) (Tr.set (Tr.set (Tr.set (Tr.set Tr.nil 14 (some u14)) 13 (some u13)) 3 (some u3)) 0 (some u0)) H n []
noncomputable def B67_1(cal:Cal)(k m1:Nat)(b1:V4)(u0 u3 u13 u14:Value)(H:Hp)(n:Nat):Res:=
binK P BinOp.lss 3 (Operand.tmp 14) (Operand.tmp 13) u14 u13 fun v_c=>
ifK v_c (
aK P cal 76 [u0,u14] H n fun v_h H_i n_j=>
bindO (tupV v_h 0) fun v_l=>
bindO (tupV v_h 1) fun v_m=>
ifK v_m (
some (u14,H_i,n_j)) (
binK P BinOp.add 3 (Operand.tmp 14) (Operand.const (Value.int IntKind.i64 1)) u14 (Value.int IntKind.i64 1) fun v_s=>
b1 u0 u3 u13 v_s H_i n_j)) (
some (u3,H,n))
noncomputable def C67_1(m1:Nat):=B67_1 cal k m1
noncomputable def S67_1:Nat→V4:=recF (C67_1 cal k) (fun _ _ _ _ _ _=>none)
theorem h67_1(m1:Nat):T67_1 cal k m1=C67_1 cal k m1 (R67_1 cal k m1):=by kernel_rfl
theorem q67_1(m:Nat):T67_1 cal k m=S67_1 cal k m:=recS (h67_1 cal k) (by kernel_rfl) (fun m=>by kernel_rfl) m
noncomputable def B67_0(cal:Cal)(k:Nat)(j1:V4)(v0:Value)(H:Hp)(n:Nat):Res:=
bindO (nilV v0) fun v_3=>
bindO (ax P 109 v_3 0) fun v_4=>
bindO (ax P 41 v_4 2) fun v_5=>
bindO (aX v_5) fun a_7=>bindO (ak P H 27 a_7) fun v_6=>
bindO (lenV P 27 v_6) fun v_8=>
j1 v0 v_8 v_8 (Value.int IntKind.i64 0) H n
noncomputable def C67_0:=B67_0 cal k (S67_1 cal k k)
theorem h67_0(v0:Value)(H:Hp)(n:Nat):aW P cal A (k+1) 67 [v0] H n=C67_0 cal k v0 H n:=(bq Go.Proofs.Tryz.f67 code67 xj (by kernel_rfl)).trans (Eq.trans (b:=B67_0 cal k (T67_1 cal k k) v0 H n) (by kernel_rfl) (by rw[q67_1]; rfl))
noncomputable def code71:Code:=aJ 71
noncomputable def results71:List ResultVar:=bk 71
noncomputable def B71_0(cal:Cal)(k:Nat)(v0 v1 v2:Value)(H:Hp)(n:Nat):Res:=
boxK 97 v0 H n fun v_1 H_2 n_3=>
boxK 3 v2 H_2 n_3 fun v_4 H_5 n_6=>
kj P 98 H_5 n_6 fun v_9 H_a n_b=>
bindO (aX v_4) fun a_d=>bindO (ak P H_a 3 a_d) fun v_c=>
binK P BinOp.mul 3 (Operand.tmp 12) (Operand.const (Value.int IntKind.i64 100)) v_c (Value.int IntKind.i64 100) fun v_e=>
binK P BinOp.add 3 (Operand.tmp 13) (Operand.const (Value.int IntKind.i64 1)) v_e (Value.int IntKind.i64 1) fun v_f=>
kj P 3 H_a n_b fun v_g H_h n_i=>
bindO (dW P 3 v_g v_f H_h) fun H_k=>
bindO (aX v_1) fun a_m=>bindO (ak P H_k 97 a_m) fun v_l=>
aK P cal 96 [v_l,v1] H_k n_i fun v_o H_p n_q=>
kj P 98 H_p n_q fun v_r H_s n_t=>
bindO (dW P 98 v_r v_o H_s) fun H_v=>
kj P 155 H_v n_t fun v_w H_x n_y=>
bindO (dW P 155 v_w (Value.func (Fn.func 97) ⟨[]⟩ ⟨[v_4,v_1,v_g,v_9,v_r,v_w]⟩) H_x) fun H_11=>
bindO (aX v_w) fun a_13=>bindO (ak P H_11 155 a_13) fun v_12=>
iY P cal v_12 [(Value.slice none 0 0)] H_11 n_y fun v_14 H_15 n_16=>
bindO (aX v_9) fun a_17=>bindO (ak P H_15 98 a_17) fun v_18=>
bindO (aX v_g) fun a_19=>bindO (ak P H_15 3 a_19) fun v_1a=>
some ((Value.tuple ⟨[v_18,v_1a]⟩),H_15,n_16)
noncomputable def C71_0:=B71_0 cal k
theorem h71_0(v0 v1 v2:Value)(H:Hp)(n:Nat):aW P cal A (k+1) 71 [v0,v1,v2] H n=C71_0 cal k v0 v1 v2 H n:=(bq Go.Proofs.Tryz.f71 code71 results71 (by kernel_rfl)).trans (by kernel_rfl)
noncomputable def yQ:Code:=aJ 76
noncomputable def jk:List ResultVar:=bk 76
noncomputable def vz:KR:=(cutK (Lv.b (Lv.b (Lv.b (Lv.b (Lv.b (Lv.b (Lv.b (Lv.b (Lv.a (Lv.b (A 76))))))))))).c (bY P cal (aY P cal k) none 76 (cR (cR (cR (cR (cR (cR (cR (cR (cR (cL (cR yQ))))))))))) (Lv.b (Lv.b (Lv.b (Lv.b (Lv.b (Lv.b (Lv.b (Lv.b (Lv.b (Lv.a (Lv.b (A 76)))))))))))) (ay P jk) X0 (ay P jk)))
noncomputable def jZ:XR:=(upX 0 (vz cal k) X0)
noncomputable def K76_prlrrrrrrrrlrl(m1:Nat):KR:=(fun T H n D=>aY P cal m1 (Lv.a (Lv.b (Lv.a (Lv.b (Lv.b (Lv.b (Lv.b (Lv.b (Lv.b (Lv.b (Lv.b (Lv.a (Lv.b (A 76)))))))))))))) none 76 (cL (cR (cL (cR (cR (cR (cR (cR (cR (cR (cR (cL (cR yQ))))))))))))) (vz cal k) (jZ cal k) (ay P jk) (cutT (Lv.a (Lv.b (Lv.a (Lv.b (Lv.b (Lv.b (Lv.b (Lv.b (Lv.b (Lv.b (Lv.b (Lv.a (Lv.b (A 76)))))))))))))).c T) H n D)
noncomputable def lq(m1:Nat):KR:=(cutK (Lv.b (Lv.a (Lv.a (Lv.b (Lv.a (Lv.b (Lv.b (Lv.b (Lv.b (Lv.b (Lv.b (Lv.b (Lv.b (Lv.a (Lv.b (A 76)))))))))))))))).c (bY P cal (aY P cal m1) none 76 (cR (cR (cL (cL (cR (cL (cR (cR (cR (cR (cR (cR (cR (cR (cL (cR yQ)))))))))))))))) (Lv.b (Lv.b (Lv.a (Lv.a (Lv.b (Lv.a (Lv.b (Lv.b (Lv.b (Lv.b (Lv.b (Lv.b (Lv.b (Lv.b (Lv.a (Lv.b (A 76))))))))))))))))) (K76_prlrrrrrrrrlrl cal k m1) (jZ cal k) (ay P jk)))
noncomputable def K76_pxrlrrrrrrrrlrllrl(m1:Nat):XR:=(upX 1 (lq cal k m1) (jZ cal k))
noncomputable def gJ(m1:Nat):XR:=(upX 2 (lq cal k m1) (K76_pxrlrrrrrrrrlrllrl cal k m1))
noncomputable def K76_prlrrrrrrrrlrllrllrrl(m1:Nat)(m2:Nat):KR:=(fun T H n D=>aY P cal m2 (Lv.a (Lv.b (Lv.b (Lv.a (Lv.a (Lv.b (Lv.a (Lv.a (Lv.b (Lv.a (Lv.b (Lv.b (Lv.b (Lv.b (Lv.b (Lv.b (Lv.b (Lv.b (Lv.a (Lv.b (A 76))))))))))))))))))))) none 76 (cL (cR (cR (cL (cL (cR (cL (cL (cR (cL (cR (cR (cR (cR (cR (cR (cR (cR (cL (cR yQ)))))))))))))))))))) (lq cal k m1) (gJ cal k m1) (ay P jk) (cutT (Lv.a (Lv.b (Lv.b (Lv.a (Lv.a (Lv.b (Lv.a (Lv.a (Lv.b (Lv.a (Lv.b (Lv.b (Lv.b (Lv.b (Lv.b (Lv.b (Lv.b (Lv.b (Lv.a (Lv.b (A 76))))))))))))))))))))).c T) H n D)
noncomputable def T76_1:=fun(u10:Value) (H:Hp) (n:Nat)=>labK (bY P cal (aY P cal k) none 76 (cR (cR (cR (cR (cR (cR (cR (cR (cR (cL (cR yQ))))))))))) (Lv.b (Lv.b (Lv.b (Lv.b (Lv.b (Lv.b (Lv.b (Lv.b (Lv.b (Lv.a (Lv.b (A 76)))))))))))) (ay P jk) X0 (ay P jk)) (Tr.set Tr.nil 10 (some u10)) H n []
noncomputable def T76_4(m1 m2:Nat):=fun(u0 u7 u8 u9 u10 u11 u12 u54 u55 u56:Value) (H:Hp) (n:Nat)=>labK (bY P cal (aY P cal m2) none 76 (cR (cR (cR (cL (cL (cR (cR (cL (cL (cR (cL (cL (cR (cL (cR (cR (cR (cR (cR (cR (cR (cR (cL (cR yQ)))))))))))))))))))))))) (Lv.b (Lv.b (Lv.b (Lv.a (Lv.a (Lv.b (Lv.b (Lv.a (Lv.a (Lv.b (Lv.a (Lv.a (Lv.b (Lv.a (Lv.b (Lv.b (Lv.b (Lv.b (Lv.b (Lv.b (Lv.b (Lv.b (Lv.a (Lv.b (A 76))))))))))))))))))))))))) (K76_prlrrrrrrrrlrllrllrrl cal k m1 m2) (gJ cal k m1) (ay P jk)) (Tr.set (Tr.set (Tr.set (Tr.set (Tr.set (Tr.set (Tr.set (Tr.set (Tr.set (Tr.set Tr.nil 56 (some u56)) 55 (some u55)) 54 (some u54)) 12 (some u12)) 11 (some u11)) 10 (some u10)) 9 (some u9)) 8 (some u8)) 7 (some u7)) 0 (some u0)) H n []
noncomputable def T76_3(m1 m2:Nat):=fun(u0 u7 u8 u9 u10 u11 u12 u54 u55 u56:Value) (H:Hp) (n:Nat)=>labK (bY P cal (aY P cal m2) none 76 (cL (cL (cR (cR (cL (cL (cR (cL (cL (cR (cL (cR (cR (cR (cR (cR (cR (cR (cR (cL (cR yQ))))))))))))))))))))) (Lv.a (Lv.a (Lv.b (Lv.b (Lv.a (Lv.a (Lv.b (Lv.a (Lv.a (Lv.b (Lv.a (Lv.b (Lv.b (Lv.b (Lv.b (Lv.b (Lv.b (Lv.b (Lv.b (Lv.a (Lv.b (A 76)))))))))))))))))))))) (K76_prlrrrrrrrrlrllrllrrl cal k m1 m2) (gJ cal k m1) (ay P jk)) (Tr.set (Tr.set (Tr.set (Tr.set (Tr.set (Tr.set (Tr.set (Tr.set (Tr.set (Tr.set Tr.nil 56 (some u56)) 55 (some u55)) 54 (some u54)) 12 (some u12)) 11 (some u11)) 10 (some u10)) 9 (some u9)) 8 (some u8)) 7 (some u7)) 0 (some u0)) H n []
noncomputable def R76_3(m1 m2:Nat):V10:=fun u0 u7 u8 u9 u10 u11 u12 u54 u55 u56 H n=>aY P cal m2 (Lv.a (Lv.b (Lv.b (Lv.a (Lv.a (Lv.b (Lv.a (Lv.a (Lv.b (Lv.a (Lv.b (Lv.b (Lv.b (Lv.b (Lv.b (Lv.b (Lv.b (Lv.b (Lv.a (Lv.b (A 76))))))))))))))))))))) none 76 (cL (cR (cR (cL (cL (cR (cL (cL (cR (cL (cR (cR (cR (cR (cR (cR (cR (cR (cL (cR yQ)))))))))))))))))))) (lq cal k m1) (gJ cal k m1) (ay P jk) (Tr.set (Tr.set (Tr.set (Tr.set (Tr.set (Tr.set (Tr.set (Tr.set (Tr.set (Tr.set Tr.nil 56 (some u56)) 55 (some u55)) 54 (some u54)) 12 (some u12)) 11 (some u11)) 10 (some u10)) 9 (some u9)) 8 (some u8)) 7 (some u7)) 0 (some u0)) H n []
noncomputable def T76_2(m1:Nat):=fun(u0 u7 u8 u9 u10 u11:Value) (H:Hp) (n:Nat)=>labK (bY P cal (aY P cal m1) none 76 (cL (cL (cR (cL (cR (cR (cR (cR (cR (cR (cR (cR (cL (cR yQ)))))))))))))) (Lv.a (Lv.a (Lv.b (Lv.a (Lv.b (Lv.b (Lv.b (Lv.b (Lv.b (Lv.b (Lv.b (Lv.b (Lv.a (Lv.b (A 76))))))))))))))) (K76_prlrrrrrrrrlrl cal k m1) (jZ cal k) (ay P jk)) (Tr.set (Tr.set (Tr.set (Tr.set (Tr.set (Tr.set Tr.nil 11 (some u11)) 10 (some u10)) 9 (some u9)) 8 (some u8)) 7 (some u7)) 0 (some u0)) H n []
noncomputable def R76_2(m1:Nat):V6:=fun u0 u7 u8 u9 u10 u11 H n=>aY P cal m1 (Lv.a (Lv.b (Lv.a (Lv.b (Lv.b (Lv.b (Lv.b (Lv.b (Lv.b (Lv.b (Lv.b (Lv.a (Lv.b (A 76)))))))))))))) none 76 (cL (cR (cL (cR (cR (cR (cR (cR (cR (cR (cR (cL (cR yQ))))))))))))) (vz cal k) (jZ cal k) (ay P jk) (Tr.set (Tr.set (Tr.set (Tr.set (Tr.set (Tr.set Tr.nil 11 (some u11)) 10 (some u10)) 9 (some u9)) 8 (some u8)) 7 (some u7)) 0 (some u0)) H n []
noncomputable def B76_1(cal:Cal)(k:Nat)(u10:Value)(H:Hp)(n:Nat):Res:=
binK P BinOp.eql 157 (Operand.tmp 88) (Operand.const (Value.pointer none)) u10 (Value.pointer none) fun v_1d=>
ifK v_1d (
some ((Value.tuple ⟨[(Value.slice none 0 0),(Value.bool false)]⟩),H,n)) (
aK P cal 101 [u10] H n fun v_1h H_1i n_1j=>
some ((Value.tuple ⟨[v_1h,(Value.bool true)]⟩),H_1i,n_1j))
noncomputable def C76_1:=B76_1 cal k
theorem h76_1:T76_1 cal k=C76_1 cal k:=by kernel_rfl
noncomputable def B76_4(cal:Cal)(k m1 m2:Nat)(b2:V6)(b3:V10)(u0 u7 u8 u9 u10 u11 u12 u54 u55 u56:Value)(H:Hp)(n:Nat):Res:=
binK P BinOp.add 3 (Operand.tmp 56) (Operand.const (Value.int IntKind.i64 1)) u56 (Value.int IntKind.i64 1) fun v_29=>
b3 u0 u7 u8 u9 u10 u11 u12 u54 u55 v_29 H n
noncomputable def C76_4(m1 m2:Nat):=B76_4 cal k m1 m2
theorem h76_4(m1 m2:Nat):T76_4 cal k m1 m2=C76_4 cal k m1 m2 (R76_2 cal k m1) (R76_3 cal k m1 m2):=by kernel_rfl
noncomputable def B76_3(cal:Cal)(k m1 m2:Nat)(j4:V10)(j1:V1)(b2:V6)(b3:V10)(u0 u7 u8 u9 u10 u11 u12 u54 u55 u56:Value)(H:Hp)(n:Nat):Res:=
binK P BinOp.lss 3 (Operand.tmp 56) (Operand.tmp 55) u56 u55 fun v_28=>
ifK v_28 (
bindO (aQ P 98 u54 u56) fun v_2b=>
bindO (aX v_2b) fun a_2d=>bindO (ak P H 106 a_2d) fun v_2c=>
aK P cal 86 [u12,v_2c] H n fun v_2h H_2i n_2j=>
bindO (aQ P 161 u9 v_2h) fun v_2m=>
bindO (aX v_2m) fun a_2o=>bindO (ak P H_2i 4 a_2o) fun v_2n=>
ifK v_2n (
j4 u0 u7 u8 u9 u10 u11 u12 u54 u55 u56 H_2i n_2j) (
bindO (aQ P 161 u9 v_2h) fun v_2q=>
bindO (dW P 4 v_2q (Value.bool true) H_2i) fun H_2s=>
bindO (aQ P 160 u8 u11) fun v_2w=>
bindO (aX v_2w) fun a_2y=>bindO (ak P H_2s 157 a_2y) fun v_2x=>
bindO (ny P 159 [(0,v_2x),(1,v_2c),(2,v_2h)]) fun v_31=>
boxK 159 v_31 H_2s n_2j fun v_32 H_33 n_34=>
rowK P 160 1 [(0,v_32)] H_33 n_34 fun v_35 H_36 n_37=>
stK (dz P (bare H_36 n_37) 160 160 u8 v_35) fun v_38 H_39 n_3a=>
binK P BinOp.eql 106 (Operand.tmp 79) (Operand.const (Value.int IntKind.u64 0)) v_2h (Value.int IntKind.u64 0) fun v_3d=>
ifK v_3d (
bindO (lenV P 160 v_38) fun v_3g=>
binK P BinOp.sub 3 (Operand.tmp 83) (Operand.const (Value.int IntKind.i64 1)) v_3g (Value.int IntKind.i64 1) fun v_3h=>
bindO (aQ P 160 v_38 v_3h) fun v_3i=>
bindO (aX v_3i) fun a_3k=>bindO (ak P H_39 157 a_3k) fun v_3j=>
j1 v_3j H_39 n_3a) (
j4 u0 u7 v_38 u9 u10 u11 u12 u54 u55 u56 H_39 n_3a))) (
binK P BinOp.add 3 (Operand.tmp 43) (Operand.const (Value.int IntKind.i64 1)) u11 (Value.int IntKind.i64 1) fun v_3n=>
b2 u0 u7 u8 u9 u10 v_3n H n)
noncomputable def C76_3(m1 m2:Nat)(b2:V6)(b3:V10):=B76_3 cal k m1 m2 (C76_4 cal k m1 m2 b2 b3) (C76_1 cal k) b2 b3
noncomputable def S76_3(m1:Nat)(b2:V6):Nat→V10:=fun m=>Nat.rec (motive:=fun _=>V10) (C76_3 cal k m1 0 b2 (fun _ _ _ _ _ _ _ _ _ _ _ _=>none)) (fun m ih=>C76_3 cal k m1 (m+1) b2 ih) m
theorem h76_3(m1 m2:Nat):T76_3 cal k m1 m2=C76_3 cal k m1 m2 (R76_2 cal k m1) (R76_3 cal k m1 m2):=Eq.trans (b:=B76_3 cal k m1 m2 (T76_4 cal k m1 m2) (T76_1 cal k) (R76_2 cal k m1) (R76_3 cal k m1 m2)) (by kernel_rfl) (by rw[h76_4,h76_1]; rfl)
theorem q76_3(m1:Nat)(m:Nat):T76_3 cal k m1 m=S76_3 cal k m1 (R76_2 cal k m1) m:=recS (h76_3 cal k m1) (by kernel_rfl) (fun m=>by kernel_rfl) m
noncomputable def B76_2(cal:Cal)(k m1:Nat)(j3:V10)(j1:V1)(b2:V6)(u0 u7 u8 u9 u10 u11:Value)(H:Hp)(n:Nat):Res:=
bindO (lenV P 160 u8) fun v_1p=>
binK P BinOp.lss 3 (Operand.tmp 39) (Operand.tmp 41) u11 v_1p fun v_1q=>
ifK v_1q (
bindO (aQ P 160 u8 u11) fun v_1u=>
bindO (aX v_1u) fun a_1w=>bindO (ak P H 157 a_1w) fun v_1v=>
bindO (nilV v_1v) fun v_1x=>
bindO (ax P 159 v_1x 2) fun v_1y=>
bindO (aX v_1y) fun a_20=>bindO (ak P H 106 a_20) fun v_1z=>
aK P cal 85 [u0,v_1z] H n fun v_21 H_22 n_23=>
bindO (lenV P 98 u7) fun v_26=>
j3 u0 u7 u8 u9 u10 u11 v_21 u7 v_26 (Value.int IntKind.i64 0) H_22 n_23) (
j1 u10 H n)
noncomputable def C76_2(m1:Nat)(b2:V6):=B76_2 cal k m1 (S76_3 cal k m1 b2 m1) (C76_1 cal k) b2
noncomputable def S76_2:Nat→V6:=recF (C76_2 cal k) (fun _ _ _ _ _ _ _ _=>none)
theorem h76_2(m1:Nat):T76_2 cal k m1=C76_2 cal k m1 (R76_2 cal k m1):=Eq.trans (b:=B76_2 cal k m1 (T76_3 cal k m1 m1) (T76_1 cal k) (R76_2 cal k m1)) (by kernel_rfl) (by rw[q76_3,h76_1]; rfl)
theorem q76_2(m:Nat):T76_2 cal k m=S76_2 cal k m:=recS (h76_2 cal k) (by kernel_rfl) (fun m=>by kernel_rfl) m
noncomputable def B76_0(cal:Cal)(k:Nat)(j2:V6)(v0 v1:Value)(H:Hp)(n:Nat):Res:=
bindO (nilV v0) fun v_4=>
bindO (ax P 109 v_4 0) fun v_5=>
bindO (ax P 41 v_5 1) fun v_6=>
bindO (aX v_6) fun a_8=>bindO (ak P H 27 a_8) fun v_7=>
aK P cal 83 [v_7] H n fun v_9 H_a n_b=>
bindO (ny P 159 [(2,v_9)]) fun v_c=>
boxK 159 v_c H_a n_b fun v_d H_e n_f=>
bindO (nilV v_d) fun v_i=>
bindO (ax P 159 v_i 2) fun v_j=>
bindO (aX v_j) fun a_l=>bindO (ak P H_e 106 a_l) fun v_k=>
binK P BinOp.eql 106 (Operand.tmp 27) (Operand.const (Value.int IntKind.u64 0)) v_k (Value.int IntKind.u64 0) fun v_m=>
ifK v_m (
some ((Value.tuple ⟨[(Value.slice none 0 0),(Value.bool true)]⟩),H_e,n_f)) (
aK P cal 96 [v0,v1] H_e n_f fun v_r H_s n_t=>
rowK P 160 1 [(0,v_d)] H_s n_t fun v_w H_x n_y=>
kj P 161 H_x n_y fun v_10 H_11 n_12=>
bindO (nilV v_d) fun v_14=>
bindO (ax P 159 v_14 2) fun v_15=>
bindO (aX v_15) fun a_17=>bindO (ak P H_11 106 a_17) fun v_16=>
bindO (aQ P 161 v_10 v_16) fun v_18=>
bindO (dW P 4 v_18 (Value.bool true) H_11) fun H_1a=>
j2 v0 v_r v_w v_10 (Value.pointer none) (Value.int IntKind.i64 0) H_1a n_12)
noncomputable def C76_0:=B76_0 cal k (S76_2 cal k k)
theorem h76_0(v0 v1:Value)(H:Hp)(n:Nat):aW P cal A (k+1) 76 [v0,v1] H n=C76_0 cal k v0 v1 H n:=(bq Go.Proofs.Tryz.f76 yQ jk (by kernel_rfl)).trans (Eq.trans (b:=B76_0 cal k (T76_2 cal k k) v0 v1 H n) (by kernel_rfl) (by rw[q76_2]; rfl))
noncomputable def code77:Code:=aJ 77
noncomputable def Rz:List ResultVar:=bk 77
noncomputable def B77_0(cal:Cal)(k:Nat)(v0:Value)(H:Hp)(n:Nat):Res:=
boxK 39 v0 H n fun v_1 H_2 n_3=>
bindO (aX v_1) fun a_6=>bindO (ak P H_2 39 a_6) fun v_5=>
aK P cal 102 [v_5] H_2 n_3 fun v_7 H_8 n_9=>
some (v_7,H_8,n_9)
noncomputable def C77_0:=B77_0 cal k
theorem h77_0(v0:Value)(H:Hp)(n:Nat):aW P cal A (k+1) 77 [v0] H n=C77_0 cal k v0 H n:=(bq Go.Proofs.Tryz.f77 code77 Rz (by kernel_rfl)).trans (by kernel_rfl)
noncomputable def code78:Code:=aJ 78
noncomputable def Rk:List ResultVar:=bk 78
noncomputable def B78_0(cal:Cal)(k:Nat)(v0 v1:Value)(H:Hp)(n:Nat):Res:=
boxK 41 v0 H n fun v_1 H_2 n_3=>
bindO (aX v_1) fun a_7=>bindO (ak P H_2 41 a_7) fun v_6=>
aK P cal 79 [v1,(Value.func (Fn.func 93) ⟨[v_6]⟩ ⟨[]⟩)] H_2 n_3 fun v_9 H_a n_b=>
bw v_9 true (fun k_d=>
k_d v1 H_a n_b) H_a n_b fun v_e H_f n_g=>
bw v_9 true (fun k_i=>
aK P cal 103 [v_e] H_f n_g fun v_m H_n n_o=>
k_i v_m H_n n_o) H_f n_g fun v_j H_k n_l=>
bindO (fW v_9 v_j (Value.bool false)) fun v_p=>
some (v_p,H_k,n_l)
noncomputable def C78_0:=B78_0 cal k
theorem h78_0(v0 v1:Value)(H:Hp)(n:Nat):aW P cal A (k+1) 78 [v0,v1] H n=C78_0 cal k v0 v1 H n:=(bq Go.Proofs.Tryz.f78 code78 Rk (by kernel_rfl)).trans (by kernel_rfl)
noncomputable def xZ:Code:=aJ 79
noncomputable def jx:List ResultVar:=bk 79
noncomputable def Lj:KR:=(cutK (Lv.b (A 79)).c (bY P cal (aY P cal k) none 79 (cR (cR xZ)) (Lv.b (Lv.b (A 79))) (ay P jx) X0 (ay P jx)))
noncomputable def tV:XR:=(upX 0 (Lj cal k) X0)
noncomputable def RJ(m1:Nat):KR:=(fun T H n D=>aY P cal m1 (Lv.a (Lv.b (Lv.a (Lv.b (A 79))))) none 79 (cL (cR (cL (cR xZ)))) (Lj cal k) (tV cal k) (ay P jx) (cutT (Lv.a (Lv.b (Lv.a (Lv.b (A 79))))).c T) H n D)
noncomputable def T79_1(m1:Nat):=fun(u1 u7 u8 u9:Value) (H:Hp) (n:Nat)=>labK (bY P cal (aY P cal m1) none 79 (cL (cL (cR (cL (cR xZ))))) (Lv.a (Lv.a (Lv.b (Lv.a (Lv.b (A 79)))))) (RJ cal k m1) (tV cal k) (ay P jx)) (Tr.set (Tr.set (Tr.set (Tr.set Tr.nil 9 (some u9)) 8 (some u8)) 7 (some u7)) 1 (some u1)) H n []
noncomputable def R79_1(m1:Nat):V4:=fun u1 u7 u8 u9 H n=>aY P cal m1 (Lv.a (Lv.b (Lv.a (Lv.b (A 79))))) none 79 (cL (cR (cL (cR xZ)))) (Lj cal k) (tV cal k) (ay P jx) (Tr.set (Tr.set (Tr.set (Tr.set Tr.nil 9 (some u9)) 8 (some u8)) 7 (some u7)) 1 (some u1)) H n []
noncomputable def B79_1(cal:Cal)(k m1:Nat)(b1:V4)(u1 u7 u8 u9:Value)(H:Hp)(n:Nat):Res:=
binK P BinOp.lss 3 (Operand.tmp 9) (Operand.tmp 8) u9 u8 fun v_5=>
ifK v_5 (
bindO (aQ P 27 u7 u9) fun v_6=>
bindO (aX v_6) fun a_8=>bindO (ak P H 3 a_8) fun v_7=>
iY P cal u1 [v_7] H n fun v_c H_d n_e=>
bindO (dX P v_c (Op.unary UnOp.not v_c)) fun v_f=>
ifK v_f (
some ((Value.bool false),H_d,n_e)) (
binK P BinOp.add 3 (Operand.tmp 9) (Operand.const (Value.int IntKind.i64 1)) u9 (Value.int IntKind.i64 1) fun v_h=>
b1 u1 u7 u8 v_h H_d n_e)) (
some ((Value.bool true),H,n))
noncomputable def WY(m1:Nat):=B79_1 cal k m1
noncomputable def WZ:Nat→V4:=recF (WY cal k) (fun _ _ _ _ _ _=>none)
theorem h79_1(m1:Nat):T79_1 cal k m1=WY cal k m1 (R79_1 cal k m1):=by kernel_rfl
theorem q79_1(m:Nat):T79_1 cal k m=WZ cal k m:=recS (h79_1 cal k) (by kernel_rfl) (fun m=>by kernel_rfl) m
noncomputable def B79_0(cal:Cal)(k:Nat)(j1:V4)(v0 v1:Value)(H:Hp)(n:Nat):Res:=
bindO (lenV P 27 v0) fun v_3=>
j1 v1 v0 v_3 (Value.int IntKind.i64 0) H n
noncomputable def C79_0:=B79_0 cal k (WZ cal k k)
theorem h79_0(v0 v1:Value)(H:Hp)(n:Nat):aW P cal A (k+1) 79 [v0,v1] H n=C79_0 cal k v0 v1 H n:=(bq Go.Proofs.Tryz.f79 xZ jx (by kernel_rfl)).trans (Eq.trans (b:=B79_0 cal k (T79_1 cal k k) v0 v1 H n) (by kernel_rfl) (by rw[q79_1]; rfl))
noncomputable def code80:Code:=aJ 80
noncomputable def RQ:List ResultVar:=bk 80
noncomputable def B80_0(cal:Cal)(k:Nat)(v0:Value)(H:Hp)(n:Nat):Res:=
binK P BinOp.geq 3 (Operand.tmp 3) (Operand.const (Value.int IntKind.i64 0)) v0 (Value.int IntKind.i64 0) fun v_3=>
bw v_3 true (fun k_5=>
k_5 v0 H n) H n fun v_6 H_7 n_8=>
bw v_3 true (fun k_a=>
binK P BinOp.leq 3 (Operand.tmp 6) (Operand.const (Value.int IntKind.i64 100)) v_6 (Value.int IntKind.i64 100) fun v_e=>
k_a v_e H_7 n_8) H_7 n_8 fun v_b H_c n_d=>
bindO (fW v_3 v_b (Value.bool false)) fun v_f=>
some (v_f,H_c,n_d)
noncomputable def C80_0:=B80_0 cal k
theorem h80_0(v0:Value)(H:Hp)(n:Nat):aW P cal A (k+1) 80 [v0] H n=C80_0 cal k v0 H n:=(bq Go.Proofs.Tryz.f80 code80 RQ (by kernel_rfl)).trans (by kernel_rfl)
noncomputable def xK:Code:=aJ 82
noncomputable def jy:List ResultVar:=bk 82
noncomputable def Lq:KR:=(cutK (Lv.b (A 82)).c (bY P cal (aY P cal k) none 82 (cR (cR xK)) (Lv.b (Lv.b (A 82))) (ay P jy) X0 (ay P jy)))
noncomputable def tW:XR:=(upX 0 (Lq cal k) X0)
noncomputable def RV(m1:Nat):KR:=(fun T H n D=>aY P cal m1 (Lv.a (Lv.b (Lv.a (Lv.b (A 82))))) none 82 (cL (cR (cL (cR xK)))) (Lq cal k) (tW cal k) (ay P jy) (cutT (Lv.a (Lv.b (Lv.a (Lv.b (A 82))))).c T) H n D)
noncomputable def T82_1(m1:Nat):=fun(u1 u7 u8 u9:Value) (H:Hp) (n:Nat)=>labK (bY P cal (aY P cal m1) none 82 (cL (cL (cR (cL (cR xK))))) (Lv.a (Lv.a (Lv.b (Lv.a (Lv.b (A 82)))))) (RV cal k m1) (tW cal k) (ay P jy)) (Tr.set (Tr.set (Tr.set (Tr.set Tr.nil 9 (some u9)) 8 (some u8)) 7 (some u7)) 1 (some u1)) H n []
noncomputable def R82_1(m1:Nat):V4:=fun u1 u7 u8 u9 H n=>aY P cal m1 (Lv.a (Lv.b (Lv.a (Lv.b (A 82))))) none 82 (cL (cR (cL (cR xK)))) (Lq cal k) (tW cal k) (ay P jy) (Tr.set (Tr.set (Tr.set (Tr.set Tr.nil 9 (some u9)) 8 (some u8)) 7 (some u7)) 1 (some u1)) H n []
noncomputable def B82_1(cal:Cal)(k m1:Nat)(b1:V4)(u1 u7 u8 u9:Value)(H:Hp)(n:Nat):Res:=
binK P BinOp.lss 3 (Operand.tmp 9) (Operand.tmp 8) u9 u8 fun v_5=>
ifK v_5 (
bindO (aQ P 30 u7 u9) fun v_6=>
bindO (aX v_6) fun a_8=>bindO (ak P H 27 a_8) fun v_7=>
iY P cal u1 [v_7] H n fun v_c H_d n_e=>
bindO (dX P v_c (Op.unary UnOp.not v_c)) fun v_f=>
ifK v_f (
some ((Value.bool false),H_d,n_e)) (
binK P BinOp.add 3 (Operand.tmp 9) (Operand.const (Value.int IntKind.i64 1)) u9 (Value.int IntKind.i64 1) fun v_h=>
b1 u1 u7 u8 v_h H_d n_e)) (
some ((Value.bool true),H,n))
noncomputable def WK(m1:Nat):=B82_1 cal k m1
noncomputable def Xj:Nat→V4:=recF (WK cal k) (fun _ _ _ _ _ _=>none)
theorem h82_1(m1:Nat):T82_1 cal k m1=WK cal k m1 (R82_1 cal k m1):=by kernel_rfl
theorem q82_1(m:Nat):T82_1 cal k m=Xj cal k m:=recS (h82_1 cal k) (by kernel_rfl) (fun m=>by kernel_rfl) m
noncomputable def B82_0(cal:Cal)(k:Nat)(j1:V4)(v0 v1:Value)(H:Hp)(n:Nat):Res:=
bindO (lenV P 30 v0) fun v_3=>
j1 v1 v0 v_3 (Value.int IntKind.i64 0) H n
noncomputable def C82_0:=B82_0 cal k (Xj cal k k)
theorem h82_0(v0 v1:Value)(H:Hp)(n:Nat):aW P cal A (k+1) 82 [v0,v1] H n=C82_0 cal k v0 v1 H n:=(bq Go.Proofs.Tryz.f82 xK jy (by kernel_rfl)).trans (Eq.trans (b:=B82_0 cal k (T82_1 cal k k) v0 v1 H n) (by kernel_rfl) (by rw[q82_1]; rfl))
noncomputable def yj:Code:=aJ 83
noncomputable def jz:List ResultVar:=bk 83
noncomputable def Cz:KR:=(cutK (Lv.b (Lv.b (A 83))).c (bY P cal (aY P cal k) none 83 (cR (cR (cR yj))) (Lv.b (Lv.b (Lv.b (A 83)))) (ay P jz) X0 (ay P jz)))
noncomputable def qk:XR:=(upX 0 (Cz cal k) X0)
noncomputable def Lw(m1:Nat):KR:=(fun T H n D=>aY P cal m1 (Lv.a (Lv.b (Lv.a (Lv.b (Lv.b (A 83)))))) none 83 (cL (cR (cL (cR (cR yj))))) (Cz cal k) (qk cal k) (ay P jz) (cutT (Lv.a (Lv.b (Lv.a (Lv.b (Lv.b (A 83)))))).c T) H n D)
noncomputable def T83_1(m1:Nat):=fun(u3 u6 u7 u8:Value) (H:Hp) (n:Nat)=>labK (bY P cal (aY P cal m1) none 83 (cL (cL (cR (cL (cR (cR yj)))))) (Lv.a (Lv.a (Lv.b (Lv.a (Lv.b (Lv.b (A 83))))))) (Lw cal k m1) (qk cal k) (ay P jz)) (Tr.set (Tr.set (Tr.set (Tr.set Tr.nil 8 (some u8)) 7 (some u7)) 6 (some u6)) 3 (some u3)) H n []
noncomputable def R83_1(m1:Nat):V4:=fun u3 u6 u7 u8 H n=>aY P cal m1 (Lv.a (Lv.b (Lv.a (Lv.b (Lv.b (A 83)))))) none 83 (cL (cR (cL (cR (cR yj))))) (Cz cal k) (qk cal k) (ay P jz) (Tr.set (Tr.set (Tr.set (Tr.set Tr.nil 8 (some u8)) 7 (some u7)) 6 (some u6)) 3 (some u3)) H n []
noncomputable def B83_1(cal:Cal)(k m1:Nat)(b1:V4)(u3 u6 u7 u8:Value)(H:Hp)(n:Nat):Res:=
binK P BinOp.lss 3 (Operand.tmp 8) (Operand.tmp 7) u8 u7 fun v_6=>
ifK v_6 (
bindO (aQ P 27 u6 u8) fun v_7=>
bindO (aX v_7) fun a_9=>bindO (ak P H 3 a_9) fun v_8=>
binK P BinOp.shl 106 (Operand.const (Value.int IntKind.u64 1)) (Operand.tmp 13) (Value.int IntKind.u64 1) v_8 fun v_d=>
binK P BinOp.or 106 (Operand.tmp 12) (Operand.tmp 14) u3 v_d fun v_e=>
binK P BinOp.add 3 (Operand.tmp 8) (Operand.const (Value.int IntKind.i64 1)) u8 (Value.int IntKind.i64 1) fun v_g=>
b1 v_e u6 u7 v_g H n) (
some (u3,H,n))
noncomputable def Xq(m1:Nat):=B83_1 cal k m1
noncomputable def Xv:Nat→V4:=recF (Xq cal k) (fun _ _ _ _ _ _=>none)
theorem h83_1(m1:Nat):T83_1 cal k m1=Xq cal k m1 (R83_1 cal k m1):=by kernel_rfl
theorem q83_1(m:Nat):T83_1 cal k m=Xv cal k m:=recS (h83_1 cal k) (by kernel_rfl) (fun m=>by kernel_rfl) m
noncomputable def B83_0(cal:Cal)(k:Nat)(j1:V4)(v0:Value)(H:Hp)(n:Nat):Res:=
bindO (lenV P 27 v0) fun v_4=>
j1 (Value.int IntKind.u64 0) v0 v_4 (Value.int IntKind.i64 0) H n
noncomputable def C83_0:=B83_0 cal k (Xv cal k k)
theorem h83_0(v0:Value)(H:Hp)(n:Nat):aW P cal A (k+1) 83 [v0] H n=C83_0 cal k v0 H n:=(bq Go.Proofs.Tryz.f83 yj jz (by kernel_rfl)).trans (Eq.trans (b:=B83_0 cal k (T83_1 cal k k) v0 H n) (by kernel_rfl) (by rw[q83_1]; rfl))
end Go.Proofs.YtcjnaeimeilomaaGreat.G
end
end
section
open Go Go.Ev
set_option maxRecDepth 1000000
noncomputable section
namespace Go.Proofs.YtcjnaeimeilomaaGreat.G
variable (cal:Cal) (k:Nat)
noncomputable def tX:Code:=aJ 84
noncomputable def gX:List ResultVar:=bk 84
noncomputable def Ck:KR:=(cutK (Lv.b (Lv.b (A 84))).c (bY P cal (aY P cal k) none 84 (cR (cR (cR tX))) (Lv.b (Lv.b (Lv.b (A 84)))) (ay P gX) X0 (ay P gX)))
noncomputable def mJ:XR:=(upX 0 (Ck cal k) X0)
noncomputable def yq(m1:Nat):KR:=(fun T H n D=>aY P cal m1 (Lv.a (Lv.b (Lv.a (Lv.b (Lv.b (A 84)))))) none 84 (cL (cR (cL (cR (cR tX))))) (Ck cal k) (mJ cal k) (ay P gX) (cutT (Lv.a (Lv.b (Lv.a (Lv.b (Lv.b (A 84)))))).c T) H n D)
noncomputable def T84_2(m1:Nat):=fun(u0 u3 u5:Value) (H:Hp) (n:Nat)=>labK (bY P cal (aY P cal m1) none 84 (cR (cR (cR (cL (cL (cR (cL (cR (cR tX))))))))) (Lv.b (Lv.b (Lv.b (Lv.a (Lv.a (Lv.b (Lv.a (Lv.b (Lv.b (A 84)))))))))) (yq cal k m1) (mJ cal k) (ay P gX)) (Tr.set (Tr.set (Tr.set Tr.nil 5 (some u5)) 3 (some u3)) 0 (some u0)) H n []
noncomputable def T84_1(m1:Nat):=fun(u0 u3 u5:Value) (H:Hp) (n:Nat)=>labK (bY P cal (aY P cal m1) none 84 (cL (cL (cR (cL (cR (cR tX)))))) (Lv.a (Lv.a (Lv.b (Lv.a (Lv.b (Lv.b (A 84))))))) (yq cal k m1) (mJ cal k) (ay P gX)) (Tr.set (Tr.set (Tr.set Tr.nil 5 (some u5)) 3 (some u3)) 0 (some u0)) H n []
noncomputable def R84_1(m1:Nat):V3:=fun u0 u3 u5 H n=>aY P cal m1 (Lv.a (Lv.b (Lv.a (Lv.b (Lv.b (A 84)))))) none 84 (cL (cR (cL (cR (cR tX))))) (Ck cal k) (mJ cal k) (ay P gX) (Tr.set (Tr.set (Tr.set Tr.nil 5 (some u5)) 3 (some u3)) 0 (some u0)) H n []
noncomputable def B84_2(cal:Cal)(k m1:Nat)(b1:V3)(u0 u3 u5:Value)(H:Hp)(n:Nat):Res:=
binK P BinOp.add 3 (Operand.tmp 5) (Operand.const (Value.int IntKind.i64 1)) u5 (Value.int IntKind.i64 1) fun v_5=>
b1 u0 u3 v_5 H n
noncomputable def C84_2(m1:Nat):=B84_2 cal k m1
theorem h84_2(m1:Nat):T84_2 cal k m1=C84_2 cal k m1 (R84_1 cal k m1):=by kernel_rfl
noncomputable def B84_1(cal:Cal)(k m1:Nat)(j2:V3)(b1:V3)(u0 u3 u5:Value)(H:Hp)(n:Nat):Res:=
binK P BinOp.lss 3 (Operand.tmp 5) (Operand.const (Value.int IntKind.i64 8)) u5 (Value.int IntKind.i64 8) fun v_4=>
ifK v_4 (
aK P cal 94 [u0,u5] H n fun v_b H_c n_d=>
ifK v_b (
rowK P 27 1 [(0,u5)] H_c n_d fun v_g H_h n_i=>
stK (dz P (bare H_h n_i) 27 27 u3 v_g) fun v_j H_k n_l=>
j2 u0 v_j u5 H_k n_l) (
j2 u0 u3 u5 H_c n_d)) (
some (u3,H,n))
noncomputable def Xw(m1:Nat)(b1:V3):=B84_1 cal k m1 (C84_2 cal k m1 b1) b1
noncomputable def Xx:Nat→V3:=recF (Xw cal k) (fun _ _ _ _ _=>none)
theorem h84_1(m1:Nat):T84_1 cal k m1=Xw cal k m1 (R84_1 cal k m1):=Eq.trans (b:=B84_1 cal k m1 (T84_2 cal k m1) (R84_1 cal k m1)) (by kernel_rfl) (by rw[h84_2]; rfl)
theorem q84_1(m:Nat):T84_1 cal k m=Xx cal k m:=recS (h84_1 cal k) (by kernel_rfl) (fun m=>by kernel_rfl) m
noncomputable def B84_0(cal:Cal)(k:Nat)(j1:V3)(v0:Value)(H:Hp)(n:Nat):Res:=
j1 v0 (Value.slice none 0 0) (Value.int IntKind.i64 0) H n
noncomputable def C84_0:=B84_0 cal k (Xx cal k k)
theorem h84_0(v0:Value)(H:Hp)(n:Nat):aW P cal A (k+1) 84 [v0] H n=C84_0 cal k v0 H n:=(bq Go.Proofs.Tryz.f84 tX gX (by kernel_rfl)).trans (Eq.trans (b:=B84_0 cal k (T84_1 cal k k) v0 H n) (by kernel_rfl) (by rw[q84_1]; rfl))
noncomputable def code86:Code:=aJ 86
noncomputable def RW:List ResultVar:=bk 86
noncomputable def B86_0(cal:Cal)(k:Nat)(v0 v1:Value)(H:Hp)(n:Nat):Res:=
binK P BinOp.andNot 106 (Operand.tmp 5) (Operand.tmp 6) v0 v1 fun v_4=>
some (v_4,H,n)
noncomputable def C86_0:=B86_0 cal k
theorem h86_0(v0 v1:Value)(H:Hp)(n:Nat):aW P cal A (k+1) 86 [v0,v1] H n=C86_0 cal k v0 v1 H n:=(bq Go.Proofs.Tryz.f86 code86 RW (by kernel_rfl)).trans (by kernel_rfl)
noncomputable def qJ:Code:=aJ 90
noncomputable def fj:List ResultVar:=bk 90
noncomputable def yw:KR:=(cutK (Lv.b (Lv.b (Lv.b (A 90)))).c (bY P cal (aY P cal k) none 90 (cR (cR (cR (cR qJ)))) (Lv.b (Lv.b (Lv.b (Lv.b (A 90))))) (ay P fj) X0 (ay P fj)))
noncomputable def kY:XR:=(upX 0 (yw cal k) X0)
noncomputable def uJ(m1:Nat):KR:=(fun T H n D=>aY P cal m1 (Lv.a (Lv.b (Lv.a (Lv.b (Lv.b (Lv.b (A 90))))))) none 90 (cL (cR (cL (cR (cR (cR qJ)))))) (yw cal k) (kY cal k) (ay P fj) (cutT (Lv.a (Lv.b (Lv.a (Lv.b (Lv.b (Lv.b (A 90))))))).c T) H n D)
noncomputable def T90_3(m1:Nat):=fun(u0 u1 u5 u6:Value) (H:Hp) (n:Nat)=>labK (bY P cal (aY P cal m1) none 90 (cR (cR (cL (cL (cR (cL (cR (cR (cR qJ))))))))) (Lv.b (Lv.b (Lv.a (Lv.a (Lv.b (Lv.a (Lv.b (Lv.b (Lv.b (A 90)))))))))) (uJ cal k m1) (kY cal k) (ay P fj)) (Tr.set (Tr.set (Tr.set (Tr.set Tr.nil 6 (some u6)) 5 (some u5)) 1 (some u1)) 0 (some u0)) H n []
noncomputable def T90_2(m1:Nat):=fun(u0 u1 u5 u6:Value) (H:Hp) (n:Nat)=>labK (bY P cal (aY P cal m1) none 90 (cL (cL (cR (cL (cR (cR (cR qJ))))))) (Lv.a (Lv.a (Lv.b (Lv.a (Lv.b (Lv.b (Lv.b (A 90)))))))) (uJ cal k m1) (kY cal k) (ay P fj)) (Tr.set (Tr.set (Tr.set (Tr.set Tr.nil 6 (some u6)) 5 (some u5)) 1 (some u1)) 0 (some u0)) H n []
noncomputable def R90_2(m1:Nat):V4:=fun u0 u1 u5 u6 H n=>aY P cal m1 (Lv.a (Lv.b (Lv.a (Lv.b (Lv.b (Lv.b (A 90))))))) none 90 (cL (cR (cL (cR (cR (cR qJ)))))) (yw cal k) (kY cal k) (ay P fj) (Tr.set (Tr.set (Tr.set (Tr.set Tr.nil 6 (some u6)) 5 (some u5)) 1 (some u1)) 0 (some u0)) H n []
noncomputable def T90_1:=fun(u0 u1:Value) (H:Hp) (n:Nat)=>labK (bY P cal (aY P cal k) none 90 (cR (cR qJ)) (Lv.b (Lv.b (A 90))) (ay P fj) X0 (ay P fj)) (Tr.set (Tr.set Tr.nil 1 (some u1)) 0 (some u0)) H n []
noncomputable def B90_3(cal:Cal)(k m1:Nat)(b2:V4)(u0 u1 u5 u6:Value)(H:Hp)(n:Nat):Res:=
binK P BinOp.add 3 (Operand.tmp 18) (Operand.const (Value.int IntKind.i64 1)) u6 (Value.int IntKind.i64 1) fun v_d=>
b2 u0 u1 u5 v_d H n
noncomputable def C90_3(m1:Nat):=B90_3 cal k m1
theorem h90_3(m1:Nat):T90_3 cal k m1=C90_3 cal k m1 (R90_2 cal k m1):=by kernel_rfl
noncomputable def B90_2(cal:Cal)(k m1:Nat)(j3:V4)(b2:V4)(u0 u1 u5 u6:Value)(H:Hp)(n:Nat):Res:=
bindO (lenV P 27 u0) fun v_a=>
binK P BinOp.lss 3 (Operand.tmp 14) (Operand.tmp 16) u6 v_a fun v_b=>
ifK v_b (
bindO (aQ P 27 u0 u6) fun v_i=>
bindO (aX v_i) fun a_k=>bindO (ak P H 3 a_k) fun v_j=>
iY P cal u1 [v_j,u5] H n fun v_m H_n n_o=>
binK P BinOp.gtr 3 (Operand.tmp 26) (Operand.const (Value.int IntKind.i64 0)) v_m (Value.int IntKind.i64 0) fun v_p=>
ifK v_p (
bindO (aQ P 27 u0 u6) fun v_s=>
bindO (aX v_s) fun a_u=>bindO (ak P H_n 3 a_u) fun v_t=>
j3 u0 u1 v_t u6 H_n n_o) (
j3 u0 u1 u5 u6 H_n n_o)) (
some (u5,H,n))
noncomputable def XX(m1:Nat)(b2:V4):=B90_2 cal k m1 (C90_3 cal k m1 b2) b2
noncomputable def XY:Nat→V4:=recF (XX cal k) (fun _ _ _ _ _ _=>none)
theorem h90_2(m1:Nat):T90_2 cal k m1=XX cal k m1 (R90_2 cal k m1):=Eq.trans (b:=B90_2 cal k m1 (T90_3 cal k m1) (R90_2 cal k m1)) (by kernel_rfl) (by rw[h90_3]; rfl)
theorem q90_2(m:Nat):T90_2 cal k m=XY cal k m:=recS (h90_2 cal k) (by kernel_rfl) (fun m=>by kernel_rfl) m
noncomputable def B90_1(cal:Cal)(k:Nat)(j2:V4)(u0 u1:Value)(H:Hp)(n:Nat):Res:=
bindO (aQ P 27 u0 (Value.int IntKind.i64 0)) fun v_3=>
bindO (aX v_3) fun a_5=>bindO (ak P H 3 a_5) fun v_4=>
j2 u0 u1 v_4 (Value.int IntKind.i64 1) H n
noncomputable def C90_1:=B90_1 cal k (XY cal k k)
theorem h90_1:T90_1 cal k=C90_1 cal k:=Eq.trans (b:=B90_1 cal k (T90_2 cal k k)) (by kernel_rfl) (by rw[q90_2]; rfl)
noncomputable def B90_0(cal:Cal)(k:Nat)(j1:V2)(v0 v1:Value)(H:Hp)(n:Nat):Res:=
bindO (lenV P 27 v0) fun v_z=>
binK P BinOp.lss 3 (Operand.tmp 8) (Operand.const (Value.int IntKind.i64 1)) v_z (Value.int IntKind.i64 1) fun v_10=>
ifK v_10 (
none) (
j1 v0 v1 H n)
noncomputable def C90_0:=B90_0 cal k (C90_1 cal k)
theorem h90_0(v0 v1:Value)(H:Hp)(n:Nat):aW P cal A (k+1) 90 [v0,v1] H n=C90_0 cal k v0 v1 H n:=(bq Go.Proofs.Tryz.f90 qJ fj (by kernel_rfl)).trans (Eq.trans (b:=B90_0 cal k (T90_1 cal k) v0 v1 H n) (by kernel_rfl) (by rw[h90_1]; rfl))
noncomputable def code91:Code:=aJ 91
noncomputable def RZ:List ResultVar:=bk 91
noncomputable def B91_0(cal:Cal)(k:Nat)(v0 v1 v2 v3:Value)(H:Hp)(n:Nat):Res:=
bindO (aX v2) fun a_2=>bindO (ak P H 147 a_2) fun v_3=>
bindO (aX v3) fun a_4=>bindO (ak P H 3 a_4) fun v_5=>
bindO (ny P 152 [(0,v_5),(1,v0)]) fun v_7=>
bindO (fK P H 147 v_3 v_7 false) fun v_8=>
bindO (aX v2) fun a_9=>bindO (ak P H 147 a_9) fun v_a=>
bindO (aX v3) fun a_b=>bindO (ak P H 3 a_b) fun v_c=>
bindO (ny P 152 [(0,v_c),(1,v1)]) fun v_e=>
bindO (fK P H 147 v_a v_e false) fun v_f=>
aK P cal 92 [v_8,v_f] H n fun v_g H_h n_i=>
some (v_g,H_h,n_i)
noncomputable def C91_0:=B91_0 cal k
theorem h91_0(v0 v1 v2 v3:Value)(H:Hp)(n:Nat):aW P cal A (k+1) 91 [v0,v1,v2,v3] H n=C91_0 cal k v0 v1 v2 v3 H n:=(bq Go.Proofs.Tryz.f91 code91 RZ (by kernel_rfl)).trans (by kernel_rfl)
noncomputable def code92:Code:=aJ 92
noncomputable def Sj:List ResultVar:=bk 92
noncomputable def B92_0(cal:Cal)(k:Nat)(v0 v1:Value)(H:Hp)(n:Nat):Res:=
aK P cal 107 [v0] H n fun v_3 H_4 n_5=>
aK P cal 107 [v1] H_4 n_5 fun v_8 H_9 n_a=>
ifK v_3 (
ifK v_8 (
some ((Value.int IntKind.i64 0),H_9,n_a)) (
some ((Value.int IntKind.i64 (-1)),H_9,n_a))) (
ifK v_8 (
some ((Value.int IntKind.i64 1),H_9,n_a)) (
binK P BinOp.lss 3 (Operand.tmp 14) (Operand.tmp 15) v0 v1 fun v_k=>
ifK v_k (
some ((Value.int IntKind.i64 (-1)),H_9,n_a)) (
binK P BinOp.gtr 3 (Operand.tmp 17) (Operand.tmp 18) v0 v1 fun v_o=>
ifK v_o (
some ((Value.int IntKind.i64 1),H_9,n_a)) (
some ((Value.int IntKind.i64 0),H_9,n_a)))))
noncomputable def C92_0:=B92_0 cal k
theorem h92_0(v0 v1:Value)(H:Hp)(n:Nat):aW P cal A (k+1) 92 [v0,v1] H n=C92_0 cal k v0 v1 H n:=(bq Go.Proofs.Tryz.f92 code92 Sj (by kernel_rfl)).trans (by kernel_rfl)
noncomputable def code93:Code:=aJ 93
noncomputable def Sq:List ResultVar:=bk 93
noncomputable def B93_0(cal:Cal)(k:Nat)(v0 v1:Value)(H:Hp)(n:Nat):Res:=
boxK 41 v0 H n fun v_1 H_2 n_3=>
binK P BinOp.geq 3 (Operand.tmp 5) (Operand.const (Value.int IntKind.i64 0)) v1 (Value.int IntKind.i64 0) fun v_6=>
bw v_6 true (fun k_8=>
k_8 v1 H_2 n_3) H_2 n_3 fun v_9 H_a n_b=>
bw v_6 true (fun k_d=>
bindO (ax P 41 v_1 0) fun v_h=>
k_d v_h H_a n_b) H_a n_b fun v_e H_f n_g=>
bw v_6 true (fun k_i=>
bindO (ax P 39 v_e 0) fun v_m=>
k_i v_m H_f n_g) H_f n_g fun v_j H_k n_l=>
bw v_6 true (fun k_n=>
bindO (aX v_j) fun a_s=>bindO (ak P H_k 35 a_s) fun v_r=>
k_n v_r H_k n_l) H_k n_l fun v_o H_p n_q=>
bw v_6 true (fun k_t=>
bindO (lenV P 35 v_o) fun v_x=>
k_t v_x H_p n_q) H_p n_q fun v_u H_v n_w=>
bw v_6 true (fun k_y=>
binK P BinOp.lss 3 (Operand.tmp 8) (Operand.tmp 12) v_9 v_u fun v_12=>
k_y v_12 H_v n_w) H_v n_w fun v_z H_10 n_11=>
bindO (fW v_6 v_z (Value.bool false)) fun v_13=>
some (v_13,H_10,n_11)
noncomputable def C93_0:=B93_0 cal k
theorem h93_0(v0 v1:Value)(H:Hp)(n:Nat):aW P cal A (k+1) 93 [v0,v1] H n=C93_0 cal k v0 v1 H n:=(bq Go.Proofs.Tryz.f93 code93 Sq (by kernel_rfl)).trans (by kernel_rfl)
noncomputable def code94:Code:=aJ 94
noncomputable def Sv:List ResultVar:=bk 94
noncomputable def B94_0(cal:Cal)(k:Nat)(v0 v1:Value)(H:Hp)(n:Nat):Res:=
rowK P 27 1 [(0,v1)] H n fun v_4 H_5 n_6=>
aK P cal 83 [v_4] H_5 n_6 fun v_7 H_8 n_9=>
aK P cal 95 [v0,v_7] H_8 n_9 fun v_a H_b n_c=>
some (v_a,H_b,n_c)
noncomputable def C94_0:=B94_0 cal k
theorem h94_0(v0 v1:Value)(H:Hp)(n:Nat):aW P cal A (k+1) 94 [v0,v1] H n=C94_0 cal k v0 v1 H n:=(bq Go.Proofs.Tryz.f94 code94 Sv (by kernel_rfl)).trans (by kernel_rfl)
noncomputable def code95:Code:=aJ 95
noncomputable def Sw:List ResultVar:=bk 95
noncomputable def B95_0(cal:Cal)(k:Nat)(v0 v1:Value)(H:Hp)(n:Nat):Res:=
binK P BinOp.and 106 (Operand.tmp 5) (Operand.tmp 6) v0 v1 fun v_4=>
binK P BinOp.neq 106 (Operand.tmp 7) (Operand.const (Value.int IntKind.u64 0)) v_4 (Value.int IntKind.u64 0) fun v_5=>
some (v_5,H,n)
noncomputable def C95_0:=B95_0 cal k
theorem h95_0(v0 v1:Value)(H:Hp)(n:Nat):aW P cal A (k+1) 95 [v0,v1] H n=C95_0 cal k v0 v1 H n:=(bq Go.Proofs.Tryz.f95 code95 Sw (by kernel_rfl)).trans (by kernel_rfl)
noncomputable def VK:Code:=aJ 96
noncomputable def uv:List ResultVar:=bk 96
noncomputable def K96_prr:KR:=(cutK (Lv.b (Lv.b (A 96))).c (bY P cal (aY P cal k) none 96 (cR (cR (cR VK))) (Lv.b (Lv.b (Lv.b (A 96)))) (ay P uv) X0 (ay P uv)))
noncomputable def Dk:XR:=(upX 0 (K96_prr cal k) X0)
noncomputable def K96_prrlrl(m1:Nat):KR:=(fun T H n D=>aY P cal m1 (Lv.a (Lv.b (Lv.a (Lv.b (Lv.b (A 96)))))) none 96 (cL (cR (cL (cR (cR VK))))) (K96_prr cal k) (Dk cal k) (ay P uv) (cutT (Lv.a (Lv.b (Lv.a (Lv.b (Lv.b (A 96)))))).c T) H n D)
noncomputable def T96_2(m1:Nat):=fun(u1 u5 u13 u14:Value) (H:Hp) (n:Nat)=>labK (bY P cal (aY P cal m1) none 96 (cR (cR (cR (cL (cL (cR (cL (cR (cR VK))))))))) (Lv.b (Lv.b (Lv.b (Lv.a (Lv.a (Lv.b (Lv.a (Lv.b (Lv.b (A 96)))))))))) (K96_prrlrl cal k m1) (Dk cal k) (ay P uv)) (Tr.set (Tr.set (Tr.set (Tr.set Tr.nil 14 (some u14)) 13 (some u13)) 5 (some u5)) 1 (some u1)) H n []
noncomputable def T96_1(m1:Nat):=fun(u1 u5 u13 u14:Value) (H:Hp) (n:Nat)=>labK (bY P cal (aY P cal m1) none 96 (cL (cL (cR (cL (cR (cR VK)))))) (Lv.a (Lv.a (Lv.b (Lv.a (Lv.b (Lv.b (A 96))))))) (K96_prrlrl cal k m1) (Dk cal k) (ay P uv)) (Tr.set (Tr.set (Tr.set (Tr.set Tr.nil 14 (some u14)) 13 (some u13)) 5 (some u5)) 1 (some u1)) H n []
noncomputable def R96_1(m1:Nat):V4:=fun u1 u5 u13 u14 H n=>aY P cal m1 (Lv.a (Lv.b (Lv.a (Lv.b (Lv.b (A 96)))))) none 96 (cL (cR (cL (cR (cR VK))))) (K96_prr cal k) (Dk cal k) (ay P uv) (Tr.set (Tr.set (Tr.set (Tr.set Tr.nil 14 (some u14)) 13 (some u13)) 5 (some u5)) 1 (some u1)) H n []
noncomputable def B96_2(cal:Cal)(k m1:Nat)(b1:V4)(u1 u5 u13 u14:Value)(H:Hp)(n:Nat):Res:=
binK P BinOp.add 106 (Operand.tmp 14) (Operand.const (Value.int IntKind.u64 1)) u14 (Value.int IntKind.u64 1) fun v_d=>
b1 u1 u5 u13 v_d H n
noncomputable def C96_2(m1:Nat):=B96_2 cal k m1
theorem h96_2(m1:Nat):T96_2 cal k m1=C96_2 cal k m1 (R96_1 cal k m1):=by kernel_rfl
noncomputable def B96_1(cal:Cal)(k m1:Nat)(j2:V4)(b1:V4)(u1 u5 u13 u14:Value)(H:Hp)(n:Nat):Res:=
binK P BinOp.lss 106 (Operand.tmp 14) (Operand.tmp 13) u14 u13 fun v_c=>
ifK v_c (
aK P cal 99 [u14] H n fun v_i H_j n_k=>
binK P BinOp.leq 3 (Operand.tmp 18) (Operand.tmp 19) v_i u1 fun v_m=>
ifK v_m (
rowK P 98 1 [(0,u14)] H_j n_k fun v_p H_q n_r=>
stK (dz P (bare H_q n_r) 98 98 u5 v_p) fun v_s H_t n_u=>
j2 u1 v_s u13 u14 H_t n_u) (
j2 u1 u5 u13 u14 H_j n_k)) (
aK P cal 109 [] H n fun v_x H_y n_z=>
aK P cal 108 [u5,(Value.func (Fn.func 110) ⟨[v_x]⟩ ⟨[]⟩)] H_y n_z fun v_11 H_12 n_13=>
some (u5,H_12,n_13))
noncomputable def C96_1(m1:Nat)(b1:V4):=B96_1 cal k m1 (C96_2 cal k m1 b1) b1
noncomputable def S96_1:Nat→V4:=recF (C96_1 cal k) (fun _ _ _ _ _ _=>none)
theorem h96_1(m1:Nat):T96_1 cal k m1=C96_1 cal k m1 (R96_1 cal k m1):=Eq.trans (b:=B96_1 cal k m1 (T96_2 cal k m1) (R96_1 cal k m1)) (by kernel_rfl) (by rw[h96_2]; rfl)
theorem q96_1(m:Nat):T96_1 cal k m=S96_1 cal k m:=recS (h96_1 cal k) (by kernel_rfl) (fun m=>by kernel_rfl) m
noncomputable def B96_0(cal:Cal)(k:Nat)(j1:V4)(v0 v1:Value)(H:Hp)(n:Nat):Res:=
bindO (nilV v0) fun v_4=>
bindO (ax P 109 v_4 0) fun v_5=>
bindO (ax P 41 v_5 2) fun v_6=>
bindO (aX v_6) fun a_8=>bindO (ak P H 27 a_8) fun v_7=>
bindO (lenV P 27 v_7) fun v_9=>
binK P BinOp.shl 106 (Operand.const (Value.int IntKind.u64 1)) (Operand.tmp 12) (Value.int IntKind.u64 1) v_9 fun v_a=>
j1 v1 (Value.slice none 0 0) v_a (Value.int IntKind.u64 0) H n
noncomputable def C96_0:=B96_0 cal k (S96_1 cal k k)
theorem h96_0(v0 v1:Value)(H:Hp)(n:Nat):aW P cal A (k+1) 96 [v0,v1] H n=C96_0 cal k v0 v1 H n:=(bq Go.Proofs.Tryz.f96 VK uv (by kernel_rfl)).trans (Eq.trans (b:=B96_0 cal k (T96_1 cal k k) v0 v1 H n) (by kernel_rfl) (by rw[q96_1]; rfl))
noncomputable def Oj:Code:=aJ 97
noncomputable def kV:List ResultVar:=bk 97
noncomputable def K97_p:KR:=(cutK (A 97).c (bY P cal (aY P cal k) none 97 (cR Oj) (Lv.b (A 97)) (ay P kV) X0 (ay P kV)))
noncomputable def Oq(cal:Cal)(k:Nat):XR:=(upX 0 (ay P kV) X0)
noncomputable def K97_prrrrl(m1:Nat):KR:=(fun T H n D=>aY P cal m1 (Lv.a (Lv.b (Lv.b (Lv.b (Lv.b (A 97)))))) none 97 (cL (cR (cR (cR (cR Oj))))) (ay P kV) (Oq cal k) (ay P kV) (cutT (Lv.a (Lv.b (Lv.b (Lv.b (Lv.b (A 97)))))).c T) H n D)
noncomputable def T97_1:=fun(H:Hp) (n:Nat)=>labK (bY P cal (aY P cal k) none 97 (cR (cL (cR (cL Oj)))) (Lv.b (Lv.a (Lv.b (Lv.a (A 97))))) (K97_p cal k) X0 (ay P kV)) Tr.nil H n []
noncomputable def T97_3(m1:Nat):=fun(u0 u6 u35 u36 u37:Value) (H:Hp) (n:Nat)=>labK (bY P cal (aY P cal m1) none 97 (cL (cL (cR (cR (cR (cR Oj)))))) (Lv.a (Lv.a (Lv.b (Lv.b (Lv.b (Lv.b (A 97))))))) (K97_prrrrl cal k m1) (Oq cal k) (ay P kV)) (Tr.set (Tr.set (Tr.set (Tr.set (Tr.set Tr.nil 37 (some u37)) 36 (some u36)) 35 (some u35)) 6 (some u6)) 0 (some u0)) H n []
noncomputable def R97_3(m1:Nat):V5:=fun u0 u6 u35 u36 u37 H n=>aY P cal m1 (Lv.a (Lv.b (Lv.b (Lv.b (Lv.b (A 97)))))) none 97 (cL (cR (cR (cR (cR Oj))))) (ay P kV) (Oq cal k) (ay P kV) (Tr.set (Tr.set (Tr.set (Tr.set (Tr.set Tr.nil 37 (some u37)) 36 (some u36)) 35 (some u35)) 6 (some u6)) 0 (some u0)) H n []
noncomputable def T97_2:=fun(u0 u6 u9:Value) (H:Hp) (n:Nat)=>labK (bY P cal (aY P cal k) none 97 (cR (cR (cR Oj))) (Lv.b (Lv.b (Lv.b (A 97)))) (ay P kV) X0 (ay P kV)) (Tr.set (Tr.set (Tr.set Tr.nil 9 (some u9)) 6 (some u6)) 0 (some u0)) H n []
noncomputable def B97_1(cal:Cal)(k:Nat)(H:Hp)(n:Nat):Res:=
some ((Value.tuple ⟨[]⟩),H,n)
noncomputable def C97_1:=B97_1 cal k 
theorem h97_1:T97_1 cal k=C97_1 cal k  := by kernel_rfl
noncomputable def B97_3(cal:Cal)(k m1:Nat)(b3:V5)(u0 u6 u35 u36 u37:Value)(H:Hp)(n:Nat):Res:=
binK P BinOp.lss 3 (Operand.tmp 37) (Operand.tmp 36) u37 u36 fun v_17=>
ifK v_17 (
bindO (aQ P 98 u35 u37) fun v_18=>
bindO (aX v_18) fun a_1a=>bindO (ak P H 106 a_1a) fun v_19=>
bindO (aX u6) fun a_1c=>bindO (ak P H 155 a_1c) fun v_1d=>
bindO (zz P 98 1 [(0,v_19)]) fun q_1i=>newK q_1i.1 q_1i.2 H n fun H_1g n_1h=>
effK P [(.l 155 a_1c)] H_1g n_1h (fun H_1j n_1k k_1l=>
stK (dz P (bare H_1j n_1k) 98 98 u0 (.slice (some ⟨n,0,none⟩) 1 1)) fun v_1p H_1q n_1r=>
k_1l v_1p H_1q n_1r) fun v_1m H_1n n_1o=>
iY P cal v_1d [v_1m] H_1n n_1o fun v_1s H_1t n_1u=>
binK P BinOp.add 3 (Operand.tmp 37) (Operand.const (Value.int IntKind.i64 1)) u37 (Value.int IntKind.i64 1) fun v_1v=>
b3 u0 u6 u35 u36 v_1v H_1t n_1u) (
some ((Value.tuple ⟨[]⟩),H,n))
noncomputable def C97_3(m1:Nat):=B97_3 cal k m1
noncomputable def S97_3:Nat→V5:=recF (C97_3 cal k) (fun _ _ _ _ _ _ _=>none)
theorem h97_3(m1:Nat):T97_3 cal k m1=C97_3 cal k m1 (R97_3 cal k m1):=by kernel_rfl
theorem q97_3(m:Nat):T97_3 cal k m=S97_3 cal k m:=recS (h97_3 cal k) (by kernel_rfl) (fun m=>by kernel_rfl) m
noncomputable def B97_2(cal:Cal)(k:Nat)(j3:V5)(u0 u6 u9:Value)(H:Hp)(n:Nat):Res:=
bindO (lenV P 98 u9) fun v_15=>
j3 u0 u6 u9 v_15 (Value.int IntKind.i64 0) H n
noncomputable def C97_2:=B97_2 cal k (S97_3 cal k k)
theorem h97_2:T97_2 cal k=C97_2 cal k:=Eq.trans (b:=B97_2 cal k (T97_3 cal k k)) (by kernel_rfl) (by rw[q97_3]; rfl)
noncomputable def B97_0(cal:Cal)(k:Nat)(j1:V0)(j2:V3)(v0 v1 v2 v3 v4 v5 v6:Value)(H:Hp)(n:Nat):Res:=
bindO (lenV P 98 v0) fun v_2=>
bindO (aX v1) fun a_4=>bindO (ak P H 3 a_4) fun v_3=>
binK P BinOp.eql 3 (Operand.tmp 13) (Operand.tmp 14) v_2 v_3 fun v_5=>
ifK v_5 (
bindO (aX v2) fun a_6=>bindO (ak P H 97 a_6) fun v_7=>
bindO (aX v2) fun a_8=>bindO (ak P H 97 a_8) fun v_9=>
effK P [(.l 97 a_6)] H n (fun H_b n_c k_d=>
aK P cal 63 [v_9,v0] H_b n_c fun v_h H_i n_j=>
k_d v_h H_i n_j) fun v_e H_f n_g=>
aK P cal 64 [v_7,v_e] H_f n_g fun v_k H_l n_m=>
bindO (aX v3) fun a_q=>bindO (ak P H_l 3 a_q) fun v_p=>
binK P BinOp.lss 3 (Operand.tmp 21) (Operand.tmp 22) v_k v_p fun v_r=>
ifK v_r (
aK P cal 98 [v0] H_l n_m fun v_t H_u n_v=>
bindO (dW P 98 v4 v_t H_u) fun H_y=>
bindO (dW P 3 v3 v_k H_y) fun H_10=>
j1  H_10 n_v) (
j1  H_l n_m)) (
bindO (aX v5) fun a_12=>bindO (ak P H 98 a_12) fun v_11=>
bindO (lenV P 98 v0) fun v_1y=>
bindO (aX v1) fun a_20=>bindO (ak P H 3 a_20) fun v_1z=>
binK P BinOp.sub 3 (Operand.tmp 30) (Operand.const (Value.int IntKind.i64 1)) v_1z (Value.int IntKind.i64 1) fun v_21=>
binK P BinOp.eql 3 (Operand.tmp 29) (Operand.tmp 31) v_1y v_21 fun v_22=>
ifK v_22 (
bindO (aX v5) fun a_24=>bindO (ak P H 98 a_24) fun v_23=>
bindO (lQ P 98 v_23 none (some (Value.int IntKind.i64 1))) fun v_25=>
j2 v0 v6 v_25 H n) (
j2 v0 v6 v_11 H n))
noncomputable def C97_0:=B97_0 cal k (C97_1 cal k) (C97_2 cal k)
theorem h97_0(v0 v1 v2 v3 v4 v5 v6:Value)(H:Hp)(n:Nat):aW P cal A (k+1) 97 [v0,v1,v2,v3,v4,v5,v6] H n=C97_0 cal k v0 v1 v2 v3 v4 v5 v6 H n:=(bq Go.Proofs.Tryz.f97 Oj kV (by kernel_rfl)).trans (Eq.trans (b:=B97_0 cal k (fun  H n=>T97_1 cal k H n) (T97_2 cal k) v0 v1 v2 v3 v4 v5 v6 H n) (by kernel_rfl) (by rw[h97_1,h97_2]; rfl))
noncomputable def code98:Code:=aJ 98
noncomputable def results98:List ResultVar:=bk 98
noncomputable def B98_0(cal:Cal)(k:Nat)(v0:Value)(H:Hp)(n:Nat):Res:=
binK P BinOp.eql 98 (Operand.tmp 3) (Operand.const (Value.slice none 0 0)) v0 (Value.slice none 0 0) fun v_3=>
ifK v_3 (
some ((Value.slice none 0 0),H,n)) (
rowK P 98 0 [] H n fun v_5 H_6 n_7=>
stK (dz P (bare H_6 n_7) 98 98 v_5 v0) fun v_9 H_a n_b=>
some (v_9,H_a,n_b))
noncomputable def C98_0:=B98_0 cal k
theorem h98_0(v0:Value)(H:Hp)(n:Nat):aW P cal A (k+1) 98 [v0] H n=C98_0 cal k v0 H n:=(bq Go.Proofs.Tryz.f98 code98 results98 (by kernel_rfl)).trans (by kernel_rfl)
noncomputable def code99:Code:=aJ 99
noncomputable def results99:List ResultVar:=bk 99
noncomputable def B99_0(cal:Cal)(k:Nat)(v0:Value)(H:Hp)(n:Nat):Res:=
aK P cal 111 [v0] H n fun v_3 H_4 n_5=>
some (v_3,H_4,n_5)
noncomputable def C99_0:=B99_0 cal k
theorem h99_0(v0:Value)(H:Hp)(n:Nat):aW P cal A (k+1) 99 [v0] H n=C99_0 cal k v0 H n:=(bq Go.Proofs.Tryz.f99 code99 results99 (by kernel_rfl)).trans (by kernel_rfl)
noncomputable def sk:Code:=aJ 100
noncomputable def gZ:List ResultVar:=bk 100
noncomputable def CQ:KR:=(cutK (Lv.b (A 100)).c (bY P cal (aY P cal k) none 100 (cR (cR sk)) (Lv.b (Lv.b (A 100))) (ay P gZ) X0 (ay P gZ)))
noncomputable def qQ:XR:=(upX 0 (CQ cal k) X0)
noncomputable def Lz(m1:Nat):KR:=(fun T H n D=>aY P cal m1 (Lv.a (Lv.b (Lv.a (Lv.b (A 100))))) none 100 (cL (cR (cL (cR sk)))) (CQ cal k) (qQ cal k) (ay P gZ) (cutT (Lv.a (Lv.b (Lv.a (Lv.b (A 100))))).c T) H n D)
noncomputable def Lk(m1:Nat):=fun(u0 u7 u8 u9:Value) (H:Hp) (n:Nat)=>labK (bY P cal (aY P cal m1) none 100 (cL (cL (cR (cL (cR sk))))) (Lv.a (Lv.a (Lv.b (Lv.a (Lv.b (A 100)))))) (Lz cal k m1) (qQ cal k) (ay P gZ)) (Tr.set (Tr.set (Tr.set (Tr.set Tr.nil 9 (some u9)) 8 (some u8)) 7 (some u7)) 0 (some u0)) H n []
noncomputable def R100_1(m1:Nat):V4:=fun u0 u7 u8 u9 H n=>aY P cal m1 (Lv.a (Lv.b (Lv.a (Lv.b (A 100))))) none 100 (cL (cR (cL (cR sk)))) (CQ cal k) (qQ cal k) (ay P gZ) (Tr.set (Tr.set (Tr.set (Tr.set Tr.nil 9 (some u9)) 8 (some u8)) 7 (some u7)) 0 (some u0)) H n []
noncomputable def B100_1(cal:Cal)(k m1:Nat)(b1:V4)(u0 u7 u8 u9:Value)(H:Hp)(n:Nat):Res:=
binK P BinOp.lss 3 (Operand.tmp 9) (Operand.tmp 8) u9 u8 fun v_5=>
ifK v_5 (
bindO (aQ P 27 u7 u9) fun v_6=>
bindO (aX v_6) fun a_8=>bindO (ak P H 3 a_8) fun v_7=>
gj P .max [3,3] (Call.mk (Callee.builtin Builtin.max) #[(Operand.tmp 13),(Operand.tmp 14)] #[3,3]) 3 [u0,v_7] H n fun v_c H_d n_e=>
binK P BinOp.add 3 (Operand.tmp 9) (Operand.const (Value.int IntKind.i64 1)) u9 (Value.int IntKind.i64 1) fun v_g=>
b1 v_c u7 u8 v_g H_d n_e) (
some (u0,H,n))
noncomputable def Fy(m1:Nat):=B100_1 cal k m1
noncomputable def Fk:Nat→V4:=recF (Fy cal k) (fun _ _ _ _ _ _=>none)
theorem h100_1(m1:Nat):Lk cal k m1=Fy cal k m1 (R100_1 cal k m1):=by kernel_rfl
theorem q100_1(m:Nat):Lk cal k m=Fk cal k m:=recS (h100_1 cal k) (by kernel_rfl) (fun m=>by kernel_rfl) m
noncomputable def Sx(cal:Cal)(k:Nat)(j1:V4)(v0 v1:Value)(H:Hp)(n:Nat):Res:=
bindO (lenV P 27 v1) fun v_3=>
j1 v0 v1 v_3 (Value.int IntKind.i64 0) H n
noncomputable def Sy:=Sx cal k (Fk cal k k)
theorem h100_0(v0 v1:Value)(H:Hp)(n:Nat):aW P cal A (k+1) 100 [v0,v1] H n=Sy cal k v0 v1 H n:=(bq Go.Proofs.Tryz.f100 sk gZ (by kernel_rfl)).trans (Eq.trans (b:=Sx cal k (Lk cal k k) v0 v1 H n) (by kernel_rfl) (by rw[q100_1]; rfl))
noncomputable def Qz:Code:=aJ 101
noncomputable def uw:List ResultVar:=bk 101
noncomputable def qnv:KR:=(cutK (Lv.b (Lv.b (A 101))).c (bY P cal (aY P cal k) none 101 (cR (cR (cR Qz))) (Lv.b (Lv.b (Lv.b (A 101)))) (ay P uw) X0 (ay P uw)))
noncomputable def Ow:XR:=(upX 0 (qnv cal k) X0)
noncomputable def K101_prrll(m1:Nat):KR:=(fun T H n D=>aY P cal m1 (Lv.a (Lv.a (Lv.b (Lv.b (A 101))))) none 101 (cL (cL (cR (cR Qz)))) (qnv cal k) (Ow cal k) (ay P uw) (cutT (Lv.a (Lv.a (Lv.b (Lv.b (A 101))))).c T) H n D)
noncomputable def T101_1(m1:Nat):=fun(u0 u3:Value) (H:Hp) (n:Nat)=>labK (bY P cal (aY P cal m1) none 101 (cL (cL (cL (cR (cR Qz))))) (Lv.a (Lv.a (Lv.a (Lv.b (Lv.b (A 101)))))) (K101_prrll cal k m1) (Ow cal k) (ay P uw)) (Tr.set (Tr.set Tr.nil 3 (some u3)) 0 (some u0)) H n []
noncomputable def R101_1(m1:Nat):V2:=fun u0 u3 H n=>aY P cal m1 (Lv.a (Lv.a (Lv.b (Lv.b (A 101))))) none 101 (cL (cL (cR (cR Qz)))) (qnv cal k) (Ow cal k) (ay P uw) (Tr.set (Tr.set Tr.nil 3 (some u3)) 0 (some u0)) H n []
noncomputable def B101_1(cal:Cal)(k m1:Nat)(b1:V2)(u0 u3:Value)(H:Hp)(n:Nat):Res:=
bindO (nilV u0) fun v_4=>
bindO (ax P 159 v_4 0) fun v_5=>
bindO (aX v_5) fun a_7=>bindO (ak P H 157 a_7) fun v_6=>
binK P BinOp.neq 157 (Operand.tmp 7) (Operand.const (Value.pointer none)) v_6 (Value.pointer none) fun v_8=>
ifK v_8 (
bindO (nilV u0) fun v_b=>
bindO (ax P 159 v_b 1) fun v_c=>
bindO (aX v_c) fun a_e=>bindO (ak P H 106 a_e) fun v_d=>
rowK P 98 1 [(0,v_d)] H n fun v_f H_g n_h=>
stK (dz P (bare H_g n_h) 98 98 u3 v_f) fun v_i H_j n_k=>
bindO (nilV u0) fun v_n=>
bindO (ax P 159 v_n 0) fun v_o=>
bindO (aX v_o) fun a_q=>bindO (ak P H_j 157 a_q) fun v_p=>
b1 v_p v_i H_j n_k) (
aK P cal 112 [u3] H n fun v_t H_u n_v=>
some (u3,H_u,n_v))
noncomputable def C101_1(m1:Nat):=B101_1 cal k m1
noncomputable def S101_1:Nat→V2:=recF (C101_1 cal k) (fun _ _ _ _=>none)
theorem h101_1(m1:Nat):T101_1 cal k m1=C101_1 cal k m1 (R101_1 cal k m1):=by kernel_rfl
theorem q101_1(m:Nat):T101_1 cal k m=S101_1 cal k m:=recS (h101_1 cal k) (by kernel_rfl) (fun m=>by kernel_rfl) m
noncomputable def B101_0(cal:Cal)(k:Nat)(j1:V2)(v0:Value)(H:Hp)(n:Nat):Res:=
j1 v0 (Value.slice none 0 0) H n
noncomputable def C101_0:=B101_0 cal k (S101_1 cal k k)
theorem h101_0(v0:Value)(H:Hp)(n:Nat):aW P cal A (k+1) 101 [v0] H n=C101_0 cal k v0 H n:=(bq Go.Proofs.Tryz.f101 Qz uw (by kernel_rfl)).trans (Eq.trans (b:=B101_0 cal k (T101_1 cal k k) v0 H n) (by kernel_rfl) (by rw[q101_1]; rfl))
noncomputable def sJ:Code:=aJ 102
noncomputable def gK:List ResultVar:=bk 102
noncomputable def vY:KR:=(cutK (Lv.b (A 102)).c (bY P cal (aY P cal k) none 102 (cR (cR sJ)) (Lv.b (Lv.b (A 102))) (ay P gK) X0 (ay P gK)))
noncomputable def tZ:XR:=(upX 0 (vY cal k) X0)
noncomputable def T102_3:=fun(u25:Value) (H:Hp) (n:Nat)=>labK (bY P cal (aY P cal k) none 102 (cR (cR (cR (cR (cR (cL (cL (cR sJ)))))))) (Lv.b (Lv.b (Lv.b (Lv.b (Lv.b (Lv.a (Lv.a (Lv.b (A 102))))))))) (vY cal k) (tZ cal k) (ay P gK)) (Tr.set Tr.nil 25 (some u25)) H n []
noncomputable def T102_2:=fun(u1 u16:Value) (H:Hp) (n:Nat)=>labK (bY P cal (aY P cal k) none 102 (cR (cR (cR (cL (cL (cR sJ)))))) (Lv.b (Lv.b (Lv.b (Lv.a (Lv.a (Lv.b (A 102))))))) (vY cal k) (tZ cal k) (ay P gK)) (Tr.set (Tr.set Tr.nil 16 (some u16)) 1 (some u1)) H n []
noncomputable def T102_1:=fun(u1 u3:Value) (H:Hp) (n:Nat)=>labK (bY P cal (aY P cal k) none 102 (cR (cL (cL (cR sJ)))) (Lv.b (Lv.a (Lv.a (Lv.b (A 102))))) (vY cal k) (tZ cal k) (ay P gK)) (Tr.set (Tr.set Tr.nil 3 (some u3)) 1 (some u1)) H n []
noncomputable def B102_3(cal:Cal)(k:Nat)(u25:Value)(H:Hp)(n:Nat):Res:=
ifK u25 (
some ((Value.int IntKind.i64 1),H,n)) (
some ((Value.int IntKind.i64 0),H,n))
noncomputable def Sz:=B102_3 cal k
theorem h102_3:T102_3 cal k=Sz cal k:=by kernel_rfl
noncomputable def Sk(cal:Cal)(k:Nat)(j3:V1)(u1 u16:Value)(H:Hp)(n:Nat):Res:=
ifK u16 (
some ((Value.int IntKind.i64 1),H,n)) (
bindO (ax P 39 u1 0) fun v_9=>
bindO (aX v_9) fun a_b=>bindO (ak P H 35 a_b) fun v_a=>
aK P cal 113 [v_a,(Value.func (.func 114) #[] #[])] H n fun v_c H_d n_e=>
bindO (dX P v_c (Op.unary UnOp.not v_c)) fun v_f=>
ifK v_f (
j3 v_f H_d n_e) (
bindO (ax P 39 u1 1) fun v_h=>
bindO (aX v_h) fun a_j=>bindO (ak P H_d 36 a_j) fun v_i=>
bindO (aX u1) fun a_l=>bindO (ak P H_d 39 a_l) fun v_k=>
aK P cal 115 [v_i,(Value.func (Fn.func 116) ⟨[v_k]⟩ ⟨[]⟩)] H_d n_e fun v_n H_o n_p=>
bindO (dX P v_n (Op.unary UnOp.not v_n)) fun v_q=>
ifK v_q (
j3 v_q H_o n_p) (
bindO (ax P 39 u1 2) fun v_s=>
bindO (aX v_s) fun a_u=>bindO (ak P H_o 37 a_u) fun v_t=>
aK P cal 117 [v_t,(Value.func (.func 118) #[] #[])] H_o n_p fun v_v H_w n_x=>
bindO (dX P v_v (Op.unary UnOp.not v_v)) fun v_y=>
j3 v_y H_w n_x)))
noncomputable def SJ:=Sk cal k (Sz cal k)
theorem h102_2:T102_2 cal k=SJ cal k:=Eq.trans (b:=Sk cal k (T102_3 cal k)) (by kernel_rfl) (by rw[h102_3]; rfl)
noncomputable def SQ(cal:Cal)(k:Nat)(j2:V2)(u1 u3:Value)(H:Hp)(n:Nat):Res:=
ifK u3 (
some ((Value.int IntKind.i64 3),H,n)) (
bindO (ax P 39 u1 0) fun v_10=>
bindO (aX v_10) fun a_12=>bindO (ak P H 35 a_12) fun v_11=>
bindO (lenV P 35 v_11) fun v_13=>
binK P BinOp.eql 3 (Operand.tmp 19) (Operand.const (Value.int IntKind.i64 0)) v_13 (Value.int IntKind.i64 0) fun v_14=>
ifK v_14 (
j2 u1 v_14 H n) (
bindO (ax P 39 u1 2) fun v_16=>
bindO (aX v_16) fun a_18=>bindO (ak P H 37 a_18) fun v_17=>
bindO (lenV P 37 v_17) fun v_19=>
binK P BinOp.eql 3 (Operand.tmp 23) (Operand.const (Value.int IntKind.i64 0)) v_19 (Value.int IntKind.i64 0) fun v_1a=>
j2 u1 v_1a H n))
noncomputable def SV:=SQ cal k (SJ cal k)
theorem h102_1:T102_1 cal k=SV cal k:=Eq.trans (b:=SQ cal k (T102_2 cal k)) (by kernel_rfl) (by rw[h102_2]; rfl)
noncomputable def SW(cal:Cal)(k:Nat)(j1:V2)(v0:Value)(H:Hp)(n:Nat):Res:=
boxK 39 v0 H n fun v_1 H_2 n_3=>
bindO (ax P 39 v_1 0) fun v_1c=>
bindO (aX v_1c) fun a_1e=>bindO (ak P H_2 35 a_1e) fun v_1d=>
bindO (lenV P 35 v_1d) fun v_1f=>
binK P BinOp.gtr 3 (Operand.tmp 6) (Operand.const (Value.int IntKind.i64 8)) v_1f (Value.int IntKind.i64 8) fun v_1g=>
ifK v_1g (
j1 v_1 v_1g H_2 n_3) (
bindO (ax P 39 v_1 1) fun v_1i=>
bindO (aX v_1i) fun a_1k=>bindO (ak P H_2 36 a_1k) fun v_1j=>
bindO (lenV P 36 v_1j) fun v_1l=>
binK P BinOp.gtr 3 (Operand.tmp 10) (Operand.const (Value.int IntKind.i64 16)) v_1l (Value.int IntKind.i64 16) fun v_1m=>
ifK v_1m (
j1 v_1 v_1m H_2 n_3) (
bindO (ax P 39 v_1 2) fun v_1o=>
bindO (aX v_1o) fun a_1q=>bindO (ak P H_2 37 a_1q) fun v_1p=>
bindO (lenV P 37 v_1p) fun v_1r=>
binK P BinOp.gtr 3 (Operand.tmp 14) (Operand.const (Value.int IntKind.i64 3)) v_1r (Value.int IntKind.i64 3) fun v_1s=>
j1 v_1 v_1s H_2 n_3))
noncomputable def SX:=SW cal k (SV cal k)
theorem h102_0(v0:Value)(H:Hp)(n:Nat):aW P cal A (k+1) 102 [v0] H n=SX cal k v0 H n:=(bq Go.Proofs.Tryz.f102 sJ gK (by kernel_rfl)).trans (Eq.trans (b:=SW cal k (T102_1 cal k) v0 H n) (by kernel_rfl) (by rw[h102_1]; rfl))
noncomputable def sQ:Code:=aJ 103
noncomputable def hY:List ResultVar:=bk 103
noncomputable def CV:KR:=(cutK (Lv.b (A 103)).c (bY P cal (aY P cal k) none 103 (cR (cR sQ)) (Lv.b (Lv.b (A 103))) (ay P hY) X0 (ay P hY)))
noncomputable def qV:XR:=(upX 0 (CV cal k) X0)
noncomputable def LJ(m1:Nat):KR:=(fun T H n D=>aY P cal m1 (Lv.a (Lv.b (Lv.a (Lv.b (A 103))))) none 103 (cL (cR (cL (cR sQ)))) (CV cal k) (qV cal k) (ay P hY) (cutT (Lv.a (Lv.b (Lv.a (Lv.b (A 103))))).c T) H n D)
noncomputable def LQ(m1:Nat):=fun(u0 u3:Value) (H:Hp) (n:Nat)=>labK (bY P cal (aY P cal m1) none 103 (cL (cL (cR (cL (cR sQ))))) (Lv.a (Lv.a (Lv.b (Lv.a (Lv.b (A 103)))))) (LJ cal k m1) (qV cal k) (ay P hY)) (Tr.set (Tr.set Tr.nil 3 (some u3)) 0 (some u0)) H n []
noncomputable def R103_1(m1:Nat):V2:=fun u0 u3 H n=>aY P cal m1 (Lv.a (Lv.b (Lv.a (Lv.b (A 103))))) none 103 (cL (cR (cL (cR sQ)))) (CV cal k) (qV cal k) (ay P hY) (Tr.set (Tr.set Tr.nil 3 (some u3)) 0 (some u0)) H n []
noncomputable def B103_1(cal:Cal)(k m1:Nat)(b1:V2)(u0 u3:Value)(H:Hp)(n:Nat):Res:=
bindO (lenV P 27 u0) fun v_5=>
binK P BinOp.lss 3 (Operand.tmp 4) (Operand.tmp 6) u3 v_5 fun v_6=>
ifK v_6 (
bindO (aQ P 27 u0 u3) fun v_9=>
bindO (aX v_9) fun a_a=>bindO (ak P H 3 a_a) fun v_b=>
binK P BinOp.sub 3 (Operand.tmp 15) (Operand.const (Value.int IntKind.i64 1)) u3 (Value.int IntKind.i64 1) fun v_e=>
bindO (aQ P 27 u0 v_e) fun v_f=>
bindO (aX v_f) fun a_g=>bindO (ak P H 3 a_g) fun v_h=>
binK P BinOp.leq 3 (Operand.tmp 13) (Operand.tmp 18) v_b v_h fun v_i=>
ifK v_i (
some ((Value.bool false),H,n)) (
binK P BinOp.add 3 (Operand.tmp 8) (Operand.const (Value.int IntKind.i64 1)) u3 (Value.int IntKind.i64 1) fun v_l=>
b1 u0 v_l H n)) (
some ((Value.bool true),H,n))
noncomputable def FJ(m1:Nat):=B103_1 cal k m1
noncomputable def FQ:Nat→V2:=recF (FJ cal k) (fun _ _ _ _=>none)
theorem h103_1(m1:Nat):LQ cal k m1=FJ cal k m1 (R103_1 cal k m1):=by kernel_rfl
theorem q103_1(m:Nat):LQ cal k m=FQ cal k m:=recS (h103_1 cal k) (by kernel_rfl) (fun m=>by kernel_rfl) m
noncomputable def SY(cal:Cal)(k:Nat)(j1:V2)(v0:Value)(H:Hp)(n:Nat):Res:=
j1 v0 (Value.int IntKind.i64 1) H n
noncomputable def SZ:=SY cal k (FQ cal k k)
theorem h103_0(v0:Value)(H:Hp)(n:Nat):aW P cal A (k+1) 103 [v0] H n=SZ cal k v0 H n:=(bq Go.Proofs.Tryz.f103 sQ hY (by kernel_rfl)).trans (Eq.trans (b:=SY cal k (LQ cal k k) v0 H n) (by kernel_rfl) (by rw[q103_1]; rfl))
noncomputable def code104:Code:=aJ 104
noncomputable def LV:List ResultVar:=bk 104
noncomputable def B104_0(cal:Cal)(k:Nat)(v0 v1:Value)(H:Hp)(n:Nat):Res:=
boxK 97 v0 H n fun v_1 H_2 n_3=>
boxK 106 v1 H_2 n_3 fun v_4 H_5 n_6=>
some ((Value.func (Fn.func 119) ⟨[]⟩ ⟨[v_1,v_4]⟩),H_5,n_6)
noncomputable def SK:=B104_0 cal k
theorem h104_0(v0 v1:Value)(H:Hp)(n:Nat):aW P cal A (k+1) 104 [v0,v1] H n=SK cal k v0 v1 H n:=(bq Go.Proofs.Tryz.f104 code104 LV (by kernel_rfl)).trans (by kernel_rfl)
noncomputable def code106:Code:=aJ 106
noncomputable def LW:List ResultVar:=bk 106
noncomputable def B106_0(cal:Cal)(k:Nat)(v0:Value)(H:Hp)(n:Nat):Res:=
boxK 98 v0 H n fun v_1 H_2 n_3=>
some ((Value.func (Fn.func 120) ⟨[]⟩ ⟨[v_1]⟩),H_2,n_3)
noncomputable def Tj:=B106_0 cal k
theorem h106_0(v0:Value)(H:Hp)(n:Nat):aW P cal A (k+1) 106 [v0] H n=Tj cal k v0 H n:=(bq Go.Proofs.Tryz.f106 code106 LW (by kernel_rfl)).trans (by kernel_rfl)
noncomputable def code107:Code:=aJ 107
noncomputable def LX:List ResultVar:=bk 107
noncomputable def B107_0(cal:Cal)(k:Nat)(v0:Value)(H:Hp)(n:Nat):Res:=
binK P BinOp.neq 3 (Operand.tmp 3) (Operand.tmp 4) v0 v0 fun v_4=>
some (v_4,H,n)
noncomputable def Tq:=B107_0 cal k
theorem h107_0(v0:Value)(H:Hp)(n:Nat):aW P cal A (k+1) 107 [v0] H n=Tq cal k v0 H n:=(bq Go.Proofs.Tryz.f107 code107 LX (by kernel_rfl)).trans (by kernel_rfl)
noncomputable def code108:Code:=aJ 108
noncomputable def results108:List ResultVar:=bk 108
noncomputable def B108_0(cal:Cal)(k:Nat)(v0 v1:Value)(H:Hp)(n:Nat):Res:=
bindO (lenV P 98 v0) fun v_2=>
bindO (dX P v_2 (convert 3 80 v_2)) fun v_7=>
aK P cal 122 [v_7] H n fun v_8 H_9 n_a=>
aK P cal 121 [v0,(Value.int IntKind.i64 0),v_2,v_8,v1] H_9 n_a fun v_c H_d n_e=>
some ((Value.tuple ⟨[]⟩),H_d,n_e)
noncomputable def C108_0:=B108_0 cal k
theorem h108_0(v0 v1:Value)(H:Hp)(n:Nat):aW P cal A (k+1) 108 [v0,v1] H n=C108_0 cal k v0 v1 H n:=(bq Go.Proofs.Tryz.f108 code108 results108 (by kernel_rfl)).trans (by kernel_rfl)
noncomputable def code109:Code:=aJ 109
noncomputable def results109:List ResultVar:=bk 109
noncomputable def B109_0(cal:Cal)(k:Nat)(H:Hp)(n:Nat):Res:=
kj P 173 H n fun v_1 H_2 n_3=>
bindO (ny P 173 [(0,(Value.func (.func 123) #[] #[])),(1,(Value.func (.func 124) #[] #[]))]) fun v_4=>
bindO (dW P 173 v_1 v_4 H_2) fun H_6=>
bindO (resV P (Tr.set Tr.nil 0 (some v_1)) H_6 results109) fun v_7=>some (oneV v_7,H_6,n_3)
noncomputable def C109_0:=B109_0 cal k 
theorem h109_0(H:Hp)(n:Nat):aW P cal A (k+1) 109 [] H n=C109_0 cal k  H n:=(bq Go.Proofs.Tryz.f109 code109 results109 (by kernel_rfl)).trans (by kernel_rfl)
noncomputable def code110:Code:=aJ 110
noncomputable def results110:List ResultVar:=bk 110
noncomputable def B110_0(cal:Cal)(k:Nat)(v0 v1 v2:Value)(H:Hp)(n:Nat):Res:=
boxK 173 v0 H n fun v_1 H_2 n_3=>
bindO (ax P 173 v_1 0) fun v_5=>
bindO (aX v_5) fun a_6=>bindO (ak P H_2 171 a_6) fun v_7=>
bindO (ax P 173 v_1 1) fun v_a=>
bindO (aX v_a) fun a_b=>bindO (ak P H_2 171 a_b) fun v_c=>
effK P [(.l 171 a_b)] H_2 n_3 (fun H_f n_g k_h=>
iY P cal v_7 [v1,v2] H_f n_g fun v_l H_m n_n=>
k_h v_l H_m n_n) fun v_i H_j n_k=>
iY P cal v_c [v1,v2] H_j n_k fun v_o H_p n_q=>
bindO (zz P 27 2 [(0,v_i),(1,v_o)]) fun q_t=>newK q_t.1 q_t.2 H_p n_q fun H_r n_s=>
aK P cal 125 [(.slice (some ⟨n_q,0,none⟩) 2 2)] H_r n_s fun v_u H_v n_w=>
some (v_u,H_v,n_w)
noncomputable def C110_0:=B110_0 cal k
theorem h110_0(v0 v1 v2:Value)(H:Hp)(n:Nat):aW P cal A (k+1) 110 [v0,v1,v2] H n=C110_0 cal k v0 v1 v2 H n:=(bq Go.Proofs.Tryz.f110 code110 results110 (by kernel_rfl)).trans (by kernel_rfl)
noncomputable def code111:Code:=aJ 111
noncomputable def results111:List ResultVar:=bk 111
noncomputable def B111_0(cal:Cal)(k:Nat)(v0:Value)(H:Hp)(n:Nat):Res:=
ifK (Value.bool false) (
bindO (dX P v0 (convert 80 187 v0)) fun v_3=>
aK P cal 126 [v_3] H n fun v_4 H_5 n_6=>
some (v_4,H_5,n_6)) (
aK P cal 127 [v0] H n fun v_9 H_a n_b=>
some (v_9,H_a,n_b))
noncomputable def C111_0:=B111_0 cal k
theorem h111_0(v0:Value)(H:Hp)(n:Nat):aW P cal A (k+1) 111 [v0] H n=C111_0 cal k v0 H n:=(bq Go.Proofs.Tryz.f111 code111 results111 (by kernel_rfl)).trans (by kernel_rfl)
noncomputable def ZQ:Code:=aJ 112
noncomputable def rq:List ResultVar:=bk 112
noncomputable def qnw(cal:Cal)(k:Nat):XR:=(upX 0 (ay P rq) X0)
noncomputable def K112_prl(m1:Nat):KR:=(fun T H n D=>aY P cal m1 (Lv.a (Lv.b (A 112))) none 112 (cL (cR ZQ)) (ay P rq) (qnw cal k) (ay P rq) (cutT (Lv.a (Lv.b (A 112))).c T) H n D)
noncomputable def T112_1(m1:Nat):=fun(u0 u2 u3:Value) (H:Hp) (n:Nat)=>labK (bY P cal (aY P cal m1) none 112 (cL (cL (cR ZQ))) (Lv.a (Lv.a (Lv.b (A 112)))) (K112_prl cal k m1) (qnw cal k) (ay P rq)) (Tr.set (Tr.set (Tr.set Tr.nil 3 (some u3)) 2 (some u2)) 0 (some u0)) H n []
noncomputable def R112_1(m1:Nat):V3:=fun u0 u2 u3 H n=>aY P cal m1 (Lv.a (Lv.b (A 112))) none 112 (cL (cR ZQ)) (ay P rq) (qnw cal k) (ay P rq) (Tr.set (Tr.set (Tr.set Tr.nil 3 (some u3)) 2 (some u2)) 0 (some u0)) H n []
noncomputable def B112_1(cal:Cal)(k m1:Nat)(b1:V3)(u0 u2 u3:Value)(H:Hp)(n:Nat):Res:=
binK P BinOp.lss 3 (Operand.tmp 7) (Operand.tmp 8) u2 u3 fun v_8=>
ifK v_8 (
bindO (aQ P 98 u0 u3) fun v_f=>
bindO (aX v_f) fun a_g=>bindO (ak P H 106 a_g) fun v_h=>
bindO (aQ P 98 u0 u2) fun v_k=>
bindO (aX v_k) fun a_l=>bindO (ak P H 106 a_l) fun v_m=>
bindO (aQ P 98 u0 u2) fun v_n=>
bindO (dW P 106 v_n v_h H) fun H_p=>
bindO (aQ P 98 u0 u3) fun v_q=>
bindO (dW P 106 v_q v_m H_p) fun H_s=>
binK P BinOp.add 3 (Operand.tmp 10) (Operand.const (Value.int IntKind.i64 1)) u2 (Value.int IntKind.i64 1) fun v_u=>
binK P BinOp.sub 3 (Operand.tmp 12) (Operand.const (Value.int IntKind.i64 1)) u3 (Value.int IntKind.i64 1) fun v_w=>
b1 u0 v_u v_w H_s n) (
some ((Value.tuple ⟨[]⟩),H,n))
noncomputable def C112_1(m1:Nat):=B112_1 cal k m1
noncomputable def S112_1:Nat→V3:=recF (C112_1 cal k) (fun _ _ _ _ _=>none)
theorem h112_1(m1:Nat):T112_1 cal k m1=C112_1 cal k m1 (R112_1 cal k m1):=by kernel_rfl
theorem q112_1(m:Nat):T112_1 cal k m=S112_1 cal k m:=recS (h112_1 cal k) (by kernel_rfl) (fun m=>by kernel_rfl) m
noncomputable def B112_0(cal:Cal)(k:Nat)(j1:V3)(v0:Value)(H:Hp)(n:Nat):Res:=
bindO (lenV P 98 v0) fun v_2=>
binK P BinOp.sub 3 (Operand.tmp 5) (Operand.const (Value.int IntKind.i64 1)) v_2 (Value.int IntKind.i64 1) fun v_3=>
j1 v0 (Value.int IntKind.i64 0) v_3 H n
noncomputable def C112_0:=B112_0 cal k (S112_1 cal k k)
theorem h112_0(v0:Value)(H:Hp)(n:Nat):aW P cal A (k+1) 112 [v0] H n=C112_0 cal k v0 H n:=(bq Go.Proofs.Tryz.f112 ZQ rq (by kernel_rfl)).trans (Eq.trans (b:=B112_0 cal k (T112_1 cal k k) v0 H n) (by kernel_rfl) (by rw[q112_1]; rfl))
end Go.Proofs.YtcjnaeimeilomaaGreat.G
end
end
