/- The texts of functions, each with the proof that the evaluator says the same. -/
import Derived.Test.YtekajfobmnedjaaH1
open Go Go.Ev
set_option maxRecDepth 1000000
set_option linter.unusedVariables false
noncomputable section
namespace Go.Proofs.Ytekajfobmnedjaa.G
noncomputable def code14 : Code := codeOf 14
noncomputable def results14 : List ResultVar := resOf 14
noncomputable def K14_p (cal : Cal) (k : Nat) : KR := (cutK (A 14).c (codeE P cal (codeF P cal k) none 14 (cR code14) (Lv.b (A 14)) (doneK P results14) X0 (doneK P results14)))
noncomputable def K14_pr (cal : Cal) (k : Nat) : KR := (cutK (Lv.b (A 14)).c (codeE P cal (codeF P cal k) none 14 (cR (cR code14)) (Lv.b (Lv.b (A 14))) (doneK P results14) X0 (doneK P results14)))
noncomputable def K14_prr (cal : Cal) (k : Nat) : KR := (cutK (Lv.b (Lv.b (A 14))).c (codeE P cal (codeF P cal k) none 14 (cR (cR (cR code14))) (Lv.b (Lv.b (Lv.b (A 14)))) (doneK P results14) X0 (doneK P results14)))
noncomputable def K14_prrr (cal : Cal) (k : Nat) : KR := (cutK (Lv.b (Lv.b (Lv.b (A 14)))).c (codeE P cal (codeF P cal k) none 14 (cR (cR (cR (cR code14)))) (Lv.b (Lv.b (Lv.b (Lv.b (A 14))))) (doneK P results14) X0 (doneK P results14)))
noncomputable def K14_prrrr (cal : Cal) (k : Nat) : KR := (cutK (Lv.b (Lv.b (Lv.b (Lv.b (A 14))))).c (codeE P cal (codeF P cal k) none 14 (cR (cR (cR (cR (cR code14))))) (Lv.b (Lv.b (Lv.b (Lv.b (Lv.b (A 14)))))) (doneK P results14) X0 (doneK P results14)))
noncomputable def K14_prrrrl (cal : Cal) (k : Nat) : KR := (cutK (Lv.a (Lv.b (Lv.b (Lv.b (Lv.b (A 14)))))).c (codeE P cal (codeF P cal k) none 14 (cR (cL (cR (cR (cR (cR code14)))))) (Lv.b (Lv.a (Lv.b (Lv.b (Lv.b (Lv.b (A 14))))))) (K14_prrrr cal k) X0 (doneK P results14)))
noncomputable def K14_prrrrlrl (cal : Cal) (k : Nat) : KR := (cutK (Lv.a (Lv.b (Lv.a (Lv.b (Lv.b (Lv.b (Lv.b (A 14)))))))).c (codeE P cal (codeF P cal k) none 14 (cR (cL (cR (cL (cR (cR (cR (cR code14)))))))) (Lv.b (Lv.a (Lv.b (Lv.a (Lv.b (Lv.b (Lv.b (Lv.b (A 14))))))))) (K14_prrrr cal k) X0 (doneK P results14)))
noncomputable def K14_prrrrr (cal : Cal) (k : Nat) : KR := (cutK (Lv.b (Lv.b (Lv.b (Lv.b (Lv.b (A 14)))))).c (codeE P cal (codeF P cal k) none 14 (cR (cR (cR (cR (cR (cR code14)))))) (Lv.b (Lv.b (Lv.b (Lv.b (Lv.b (Lv.b (A 14))))))) (doneK P results14) X0 (doneK P results14)))
noncomputable def K14_prrrrrr (cal : Cal) (k : Nat) : KR := (cutK (Lv.b (Lv.b (Lv.b (Lv.b (Lv.b (Lv.b (A 14))))))).c (codeE P cal (codeF P cal k) none 14 (cR (cR (cR (cR (cR (cR (cR code14))))))) (Lv.b (Lv.b (Lv.b (Lv.b (Lv.b (Lv.b (Lv.b (A 14)))))))) (doneK P results14) X0 (doneK P results14)))
noncomputable def K14_prrrrrrr (cal : Cal) (k : Nat) : KR := (cutK (Lv.b (Lv.b (Lv.b (Lv.b (Lv.b (Lv.b (Lv.b (A 14)))))))).c (codeE P cal (codeF P cal k) none 14 (cR (cR (cR (cR (cR (cR (cR (cR code14)))))))) (Lv.b (Lv.b (Lv.b (Lv.b (Lv.b (Lv.b (Lv.b (Lv.b (A 14))))))))) (doneK P results14) X0 (doneK P results14)))
noncomputable def K14_prrrrrrrr (cal : Cal) (k : Nat) : KR := (cutK (Lv.b (Lv.b (Lv.b (Lv.b (Lv.b (Lv.b (Lv.b (Lv.b (A 14))))))))).c (codeE P cal (codeF P cal k) none 14 (cR (cR (cR (cR (cR (cR (cR (cR (cR code14))))))))) (Lv.b (Lv.b (Lv.b (Lv.b (Lv.b (Lv.b (Lv.b (Lv.b (Lv.b (A 14)))))))))) (doneK P results14) X0 (doneK P results14)))
noncomputable def K14_prrrrrrrrr (cal : Cal) (k : Nat) : KR := (cutK (Lv.b (Lv.b (Lv.b (Lv.b (Lv.b (Lv.b (Lv.b (Lv.b (Lv.b (A 14)))))))))).c (codeE P cal (codeF P cal k) none 14 (cR (cR (cR (cR (cR (cR (cR (cR (cR (cR code14)))))))))) (Lv.b (Lv.b (Lv.b (Lv.b (Lv.b (Lv.b (Lv.b (Lv.b (Lv.b (Lv.b (A 14))))))))))) (doneK P results14) X0 (doneK P results14)))
noncomputable def K14_prrrrrrrrrr (cal : Cal) (k : Nat) : KR := (cutK (Lv.b (Lv.b (Lv.b (Lv.b (Lv.b (Lv.b (Lv.b (Lv.b (Lv.b (Lv.b (A 14))))))))))).c (codeE P cal (codeF P cal k) none 14 (cR (cR (cR (cR (cR (cR (cR (cR (cR (cR (cR code14))))))))))) (Lv.b (Lv.b (Lv.b (Lv.b (Lv.b (Lv.b (Lv.b (Lv.b (Lv.b (Lv.b (Lv.b (A 14)))))))))))) (doneK P results14) X0 (doneK P results14)))
noncomputable def K14_prrrrrrrrrrl (cal : Cal) (k : Nat) : KR := (cutK (Lv.a (Lv.b (Lv.b (Lv.b (Lv.b (Lv.b (Lv.b (Lv.b (Lv.b (Lv.b (Lv.b (A 14)))))))))))).c (codeE P cal (codeF P cal k) none 14 (cR (cL (cR (cR (cR (cR (cR (cR (cR (cR (cR (cR code14)))))))))))) (Lv.b (Lv.a (Lv.b (Lv.b (Lv.b (Lv.b (Lv.b (Lv.b (Lv.b (Lv.b (Lv.b (Lv.b (A 14))))))))))))) (K14_prrrrrrrrrr cal k) X0 (doneK P results14)))
noncomputable def K14_prrrrrrrrrrlrl (cal : Cal) (k : Nat) : KR := (cutK (Lv.a (Lv.b (Lv.a (Lv.b (Lv.b (Lv.b (Lv.b (Lv.b (Lv.b (Lv.b (Lv.b (Lv.b (Lv.b (A 14)))))))))))))).c (codeE P cal (codeF P cal k) none 14 (cR (cL (cR (cL (cR (cR (cR (cR (cR (cR (cR (cR (cR (cR code14)))))))))))))) (Lv.b (Lv.a (Lv.b (Lv.a (Lv.b (Lv.b (Lv.b (Lv.b (Lv.b (Lv.b (Lv.b (Lv.b (Lv.b (Lv.b (A 14))))))))))))))) (K14_prrrrrrrrrr cal k) X0 (doneK P results14)))
noncomputable def K14_prrrrrrrrrrr (cal : Cal) (k : Nat) : KR := (cutK (Lv.b (Lv.b (Lv.b (Lv.b (Lv.b (Lv.b (Lv.b (Lv.b (Lv.b (Lv.b (Lv.b (A 14)))))))))))).c (codeE P cal (codeF P cal k) none 14 (cR (cR (cR (cR (cR (cR (cR (cR (cR (cR (cR (cR code14)))))))))))) (Lv.b (Lv.b (Lv.b (Lv.b (Lv.b (Lv.b (Lv.b (Lv.b (Lv.b (Lv.b (Lv.b (Lv.b (A 14))))))))))))) (doneK P results14) X0 (doneK P results14)))
noncomputable def B14_0 (cal : Cal) (k : Nat) (v0 v1 v2 v3 : Value) (H : Hp) (n : Nat) : Res :=
boxK 26 v0 H n fun v_1 H_2 n_3 =>
boxK 94 v3 H_2 n_3 fun v_4 H_5 n_6 =>
bindO (addrV v_1) fun a_8 => bindO (loadV P H_5 26 a_8) fun v_9 =>
bindO (addrV v_1) fun a_a => bindO (loadV P H_5 26 a_a) fun v_b =>
bindO (zeroT P 26) fun z_e => newK (cellsV z_e) 26 H_5 n_6 fun H_c n_d =>
bindO (zeroT P 26) fun z_h => newK (cellsV z_h) 26 H_c n_d fun H_f n_g =>
effK P [(.l 26 a_a)] H_f n_g (fun H_i n_j k_k =>
bindO (storeP P 26 (ptr n_6) v_9 H_i) fun H_p =>
k_k undef H_p n_j) fun v_l H_m n_n =>
bindO (storeP P 26 (ptr n_d) v_b H_m) fun H_r =>
rowK P 22 0 [] H_r n_n fun v_s H_t n_u =>
bindO (fieldAddrV P 26 v_1 0) fun v_v =>
bindO (addrV v_v) fun a_x => bindO (loadV P H_t 22 a_x) fun v_w =>
stK (appendV P (bare H_t n_u) 22 22 v_s v_w) fun v_y H_z n_10 =>
bindO (fieldAddrV P 26 (ptr n_6) 0) fun v_11 =>
bindO (storeP P 22 v_11 v_y H_z) fun H_13 =>
bindO (rowOf P 24 0 []) fun q_16 => newK q_16.1 q_16.2 H_13 n_10 fun H_14 n_15 =>
bindO (fieldAddrV P 26 v_1 2) fun v_17 =>
bindO (addrV v_17) fun a_18 => bindO (loadV P H_14 24 a_18) fun v_19 =>
bindO (addrV v_4) fun a_1a => bindO (loadV P H_14 94 a_1a) fun v_1b =>
bindO (rowOf P 24 1 [(0, v_1b)]) fun q_1e => newK q_1e.1 q_1e.2 H_14 n_15 fun H_1c n_1d =>
effK P [(.a n_15 q_1e.1 q_1e.2), (.l 94 a_1a)] H_1c n_1d (fun H_1f n_1g k_1h =>
stK (appendV P (bare H_1f n_1g) 24 24 (.slice (some ⟨n_10, 0, none⟩) 0 0) v_19) fun v_1l H_1m n_1n =>
k_1h v_1l H_1m n_1n) fun v_1i H_1j n_1k =>
stK (appendV P (bare H_1j n_1k) 24 24 v_1i (.slice (some ⟨n_15, 0, none⟩) 1 1)) fun v_1o H_1p n_1q =>
bindO (fieldAddrV P 26 (ptr n_d) 2) fun v_1r =>
bindO (storeP P 24 v_1r v_1o H_1p) fun H_1t =>
bindO (addrV v_1) fun a_1v => bindO (loadV P H_1t 26 a_1v) fun v_1u =>
callFK P cal 15 [v_1u, (.slice none 0 0)] H_1t n_1q fun v_1w H_1x n_1y =>
bindO (pureSem P v_1w (Op.unary UnOp.not v_1w)) fun v_1z =>
guardK v_1z false (fun k_21 =>
bindO (addrV v_1) fun a_26 => bindO (loadV P H_1x 26 a_26) fun v_25 =>
k_21 v_25 H_1x n_1y) H_1x n_1y fun v_22 H_23 n_24 =>
guardK v_1z false (fun k_27 =>
callFK P cal 20 [v_22] H_23 n_24 fun v_2b H_2c n_2d =>
k_27 v_2b H_2c n_2d) H_23 n_24 fun v_28 H_29 n_2a =>
guardK v_1z false (fun k_2e =>
binK P .neq 29 (.tmp 41) (.const (.int .i64 0)) v_28 (.int .i64 0) fun v_2i =>
k_2e v_2i H_29 n_2a) H_29 n_2a fun v_2f H_2g n_2h =>
bindO (pickV v_1z (.bool true) v_2f) fun v_2j =>
guardK v_2j false (fun k_2l =>
bindO (addrV (ptr n_d)) fun a_2q => bindO (loadV P H_2g 26 a_2q) fun v_2p =>
k_2l v_2p H_2g n_2h) H_2g n_2h fun v_2m H_2n n_2o =>
guardK v_2j false (fun k_2r =>
callFK P cal 20 [v_2m] H_2n n_2o fun v_2v H_2w n_2x =>
k_2r v_2v H_2w n_2x) H_2n n_2o fun v_2s H_2t n_2u =>
guardK v_2j false (fun k_2y =>
binK P .neq 29 (.tmp 46) (.const (.int .i64 0)) v_2s (.int .i64 0) fun v_32 =>
k_2y v_32 H_2t n_2u) H_2t n_2u fun v_2z H_30 n_31 =>
bindO (pickV v_2j (.bool true) v_2z) fun v_33 =>
ifK v_33 (
callFK P cal 16 [] H_30 n_31 fun v_34 H_35 n_36 =>
some (v_34, H_35, n_36)) (
bindO (fieldAddrV P 26 (ptr n_6) 0) fun v_38 =>
bindO (addrV v_38) fun a_39 => bindO (loadV P H_30 22 a_39) fun v_3a =>
bindO (pureSem P v1 (convert 5 3 v1)) fun v_3c =>
bindO (fieldAddrV P 26 (ptr n_6) 0) fun v_3d =>
bindO (addrV v_3d) fun a_3e => bindO (loadV P H_30 22 a_3e) fun v_3f =>
bindO (lenV P 22 v_3f) fun v_3g =>
binK P .rem 3 (.tmp 53) (.tmp 56) v_3c v_3g fun v_3h =>
bindO (indexAddrV P 22 v_3a v_3h) fun v_3i =>
bindO (nilV v_3i) fun v_3n =>
bindO (fieldAddrV P 95 v_3n 0) fun v_3o =>
bindO (addrV v_3o) fun a_3p => bindO (loadV P H_30 3 a_3p) fun v_3q =>
bindO (pureSem P v2 (convert 5 3 v2)) fun v_3s =>
binK P .rem 3 (.tmp 66) (.const (.int .i64 16)) v_3s (.int .i64 16) fun v_3t =>
binK P .sub 3 (.tmp 64) (.tmp 67) v_3q v_3t fun v_3u =>
builtinK P .max [3, 3] (Call.mk (Callee.builtin Builtin.max) #[(.const (.int .i64 0)), (.tmp 68)] #[3, 3]) 3 [(.int .i64 0), v_3u] H_30 n_31 fun v_3v H_3w n_3x =>
bindO (nilV v_3i) fun v_3z =>
bindO (fieldAddrV P 95 v_3z 1) fun v_40 =>
bindO (addrV v_40) fun a_41 => bindO (loadV P H_30 3 a_41) fun v_42 =>
bindO (pureSem P v2 (convert 5 3 v2)) fun v_44 =>
binK P .quo 3 (.tmp 75) (.const (.int .i64 16)) v_44 (.int .i64 16) fun v_45 =>
binK P .add 3 (.tmp 73) (.tmp 76) v_42 v_45 fun v_46 =>
builtinK P .min [3, 3] (Call.mk (Callee.builtin Builtin.min) #[(.const (.int .i64 1000)), (.tmp 77)] #[3, 3]) 3 [(.int .i64 1000), v_46] H_30 n_31 fun v_47 H_48 n_49 =>
bindO (nilV v_3i) fun v_4a =>
bindO (fieldAddrV P 95 v_4a 0) fun v_4b =>
bindO (storeP P 3 v_4b v_3v H_30) fun H_4d =>
bindO (nilV v_3i) fun v_4e =>
bindO (fieldAddrV P 95 v_4e 1) fun v_4f =>
bindO (storeP P 3 v_4f v_47 H_4d) fun H_4h =>
bindO (addrV v_1) fun a_4j => bindO (loadV P H_4h 26 a_4j) fun v_4i =>
callFK P cal 18 [v_4i] H_4h n_31 fun v_4k H_4l n_4m =>
callFK P cal 42 [v_4k] H_4l n_4m fun v_4n H_4o n_4p =>
bindO (tupV v_4n 0) fun v_4r =>
bindO (tupV v_4n 1) fun v_4s =>
bindO (tupV v_4n 2) fun v_4t =>
bindO (addrV (ptr n_6)) fun a_4y => bindO (loadV P H_4o 26 a_4y) fun v_4x =>
callFK P cal 18 [v_4x] H_4o n_4p fun v_4z H_50 n_51 =>
callFK P cal 42 [v_4z] H_50 n_51 fun v_52 H_53 n_54 =>
bindO (tupV v_52 0) fun v_56 =>
bindO (tupV v_52 1) fun v_57 =>
bindO (tupV v_52 2) fun v_58 =>
bindO (addrV (ptr n_d)) fun a_5d => bindO (loadV P H_53 26 a_5d) fun v_5c =>
callFK P cal 18 [v_5c] H_53 n_54 fun v_5e H_5f n_5g =>
callFK P cal 42 [v_5e] H_5f n_5g fun v_5h H_5i n_5j =>
bindO (tupV v_5h 0) fun v_5l =>
bindO (tupV v_5h 1) fun v_5m =>
bindO (tupV v_5h 2) fun v_5n =>
binK P .neq 29 (.tmp 104) (.const (.int .i64 0)) v_4t (.int .i64 0) fun v_5s =>
ifK v_5s (
binK P .eql 29 (.tmp 106) (.const (.int .i64 10)) v_4t (.int .i64 10) fun v_5u =>
guardK v_5u true (fun k_5w =>
k_5w v_58 H_5i n_5j) H_5i n_5j fun v_5x H_5y n_5z =>
guardK v_5u true (fun k_61 =>
binK P .eql 29 (.tmp 109) (.const (.int .i64 0)) v_5x (.int .i64 0) fun v_65 =>
k_61 v_65 H_5y n_5z) H_5y n_5z fun v_62 H_63 n_64 =>
guardK v_5u true (fun k_66 =>
k_66 v_62 H_63 n_64) H_63 n_64 fun v_67 H_68 n_69 =>
guardK v_67 false (fun k_6b =>
k_6b v_58 H_68 n_69) H_68 n_69 fun v_6c H_6d n_6e =>
guardK v_67 false (fun k_6g =>
binK P .eql 29 (.tmp 112) (.const (.int .i64 10)) v_6c (.int .i64 10) fun v_6k =>
k_6g v_6k H_6d n_6e) H_6d n_6e fun v_6h H_6i n_6j =>
guardK v_5u true (fun k_6l =>
bindO (pickV v_67 (.bool true) v_6h) fun v_6p =>
k_6l v_6p H_6i n_6j) H_6i n_6j fun v_6m H_6n n_6o =>
bindO (pickV v_5u v_6m (.bool false)) fun v_6q =>
guardK v_6q true (fun k_6s =>
k_6s v_5n H_6n n_6o) H_6n n_6o fun v_6t H_6u n_6v =>
guardK v_6q true (fun k_6x =>
binK P .eql 29 (.tmp 117) (.const (.int .i64 0)) v_6t (.int .i64 0) fun v_71 =>
k_6x v_71 H_6u n_6v) H_6u n_6v fun v_6y H_6z n_70 =>
guardK v_6q true (fun k_72 =>
k_72 v_6y H_6z n_70) H_6z n_70 fun v_73 H_74 n_75 =>
guardK v_73 false (fun k_77 =>
k_77 v_5n H_74 n_75) H_74 n_75 fun v_78 H_79 n_7a =>
guardK v_73 false (fun k_7c =>
binK P .eql 29 (.tmp 120) (.const (.int .i64 10)) v_78 (.int .i64 10) fun v_7g =>
k_7c v_7g H_79 n_7a) H_79 n_7a fun v_7d H_7e n_7f =>
guardK v_6q true (fun k_7h =>
bindO (pickV v_73 (.bool true) v_7d) fun v_7l =>
k_7h v_7l H_7e n_7f) H_7e n_7f fun v_7i H_7j n_7k =>
bindO (pickV v_6q v_7i (.bool false)) fun v_7m =>
guardK v_7m true (fun k_7o =>
callFK P cal 16 [] H_7j n_7k fun v_7s H_7t n_7u =>
k_7o v_7s H_7t n_7u) H_7j n_7k fun v_7p H_7q n_7r =>
bindO (pickV v_7m v_7p (.bool false)) fun v_7v =>
some (v_7v, H_7q, n_7r)) (
binK P .eql 29 (.tmp 127) (.const (.int .i64 0)) v_58 (.int .i64 0) fun v_7y =>
guardK v_7y true (fun k_80 =>
k_80 v_57 H_5i n_5j) H_5i n_5j fun v_81 H_82 n_83 =>
guardK v_7y true (fun k_85 =>
k_85 v_4s H_82 n_83) H_82 n_83 fun v_86 H_87 n_88 =>
guardK v_7y true (fun k_8a =>
binK P .leq 3 (.tmp 130) (.tmp 131) v_81 v_86 fun v_8e =>
k_8a v_8e H_87 n_88) H_87 n_88 fun v_8b H_8c n_8d =>
bindO (pickV v_7y v_8b (.bool false)) fun v_8f =>
guardK v_8f true (fun k_8h =>
k_8h v_5n H_8c n_8d) H_8c n_8d fun v_8i H_8j n_8k =>
guardK v_8f true (fun k_8m =>
binK P .eql 29 (.tmp 135) (.const (.int .i64 0)) v_8i (.int .i64 0) fun v_8q =>
k_8m v_8q H_8j n_8k) H_8j n_8k fun v_8n H_8o n_8p =>
bindO (pickV v_8f v_8n (.bool false)) fun v_8r =>
guardK v_8r true (fun k_8t =>
k_8t v_5m H_8o n_8p) H_8o n_8p fun v_8u H_8v n_8w =>
guardK v_8r true (fun k_8y =>
k_8y v_4s H_8v n_8w) H_8v n_8w fun v_8z H_90 n_91 =>
guardK v_8r true (fun k_93 =>
binK P .leq 3 (.tmp 139) (.tmp 140) v_8u v_8z fun v_97 =>
k_93 v_97 H_90 n_91) H_90 n_91 fun v_94 H_95 n_96 =>
bindO (pickV v_8r v_94 (.bool false)) fun v_98 =>
guardK v_98 true (fun k_9a =>
callFK P cal 16 [] H_95 n_96 fun v_9e H_9f n_9g =>
k_9a v_9e H_9f n_9g) H_95 n_96 fun v_9b H_9c n_9d =>
bindO (pickV v_98 v_9b (.bool false)) fun v_9h =>
some (v_9h, H_9c, n_9d)))
noncomputable def C14_0 (cal : Cal) (k : Nat) (v0 v1 v2 v3 : Value) (H : Hp) (n : Nat) : Res := B14_0 cal k v0 v1 v2 v3 H n
theorem h14_0 (cal : Cal) (k : Nat) (v0 v1 v2 v3 : Value) (H : Hp) (n : Nat) : bodyE P cal A (k + 1) 14 [v0, v1, v2, v3] H n = C14_0 cal k v0 v1 v2 v3 H n := by
  have h : bodyE P cal A (k + 1) 14 [v0, v1, v2, v3] H n = B14_0 cal k v0 v1 v2 v3 H n := by
    rw [body_eq (fn := Go.Proofs.Try.f14) (c := code14) (rs := results14) (by kernel_rfl) (by kernel_rfl) (by kernel_rfl) (by kernel_rfl)]
    kernel_rfl
  rw [h, C14_0]
noncomputable def code15 : Code := codeOf 15
noncomputable def results15 : List ResultVar := resOf 15
noncomputable def K15_p (cal : Cal) (k : Nat) : KR := (cutK (A 15).c (codeE P cal (codeF P cal k) none 15 (cR code15) (Lv.b (A 15)) (doneK P results15) X0 (doneK P results15)))
noncomputable def K15_pr (cal : Cal) (k : Nat) : KR := (cutK (Lv.b (A 15)).c (codeE P cal (codeF P cal k) none 15 (cR (cR code15)) (Lv.b (Lv.b (A 15))) (doneK P results15) X0 (doneK P results15)))
noncomputable def B15_0 (cal : Cal) (k : Nat) (v0 v1 : Value) (H : Hp) (n : Nat) : Res :=
boxK 26 v0 H n fun v_1 H_2 n_3 =>
bindO (fieldAddrV P 26 v_1 0) fun v_5 =>
bindO (addrV v_5) fun a_7 => bindO (loadV P H_2 22 a_7) fun v_6 =>
bindO (lenV P 22 v_6) fun v_8 =>
binK P .leq 3 (.tmp 7) (.const (.int .i64 11)) v_8 (.int .i64 11) fun v_9 =>
guardK v_9 true (fun k_b =>
bindO (fieldAddrV P 26 v_1 1) fun v_f =>
k_b v_f H_2 n_3) H_2 n_3 fun v_c H_d n_e =>
guardK v_9 true (fun k_g =>
bindO (addrV v_c) fun a_l => bindO (loadV P H_d 23 a_l) fun v_k =>
k_g v_k H_d n_e) H_d n_e fun v_h H_i n_j =>
guardK v_9 true (fun k_m =>
bindO (lenV P 23 v_h) fun v_q =>
k_m v_q H_i n_j) H_i n_j fun v_n H_o n_p =>
guardK v_9 true (fun k_r =>
binK P .leq 3 (.tmp 12) (.const (.int .i64 19)) v_n (.int .i64 19) fun v_v =>
k_r v_v H_o n_p) H_o n_p fun v_s H_t n_u =>
bindO (pickV v_9 v_s (.bool false)) fun v_w =>
guardK v_w true (fun k_y =>
bindO (fieldAddrV P 26 v_1 2) fun v_12 =>
k_y v_12 H_t n_u) H_t n_u fun v_z H_10 n_11 =>
guardK v_w true (fun k_13 =>
bindO (addrV v_z) fun a_18 => bindO (loadV P H_10 24 a_18) fun v_17 =>
k_13 v_17 H_10 n_11) H_10 n_11 fun v_14 H_15 n_16 =>
guardK v_w true (fun k_19 =>
bindO (lenV P 24 v_14) fun v_1d =>
k_19 v_1d H_15 n_16) H_15 n_16 fun v_1a H_1b n_1c =>
guardK v_w true (fun k_1e =>
binK P .leq 3 (.tmp 18) (.const (.int .i64 6)) v_1a (.int .i64 6) fun v_1i =>
k_1e v_1i H_1b n_1c) H_1b n_1c fun v_1f H_1g n_1h =>
bindO (pickV v_w v_1f (.bool false)) fun v_1j =>
guardK v_1j true (fun k_1l =>
k_1l v1 H_1g n_1h) H_1g n_1h fun v_1m H_1n n_1o =>
guardK v_1j true (fun k_1q =>
bindO (lenV P 44 v_1m) fun v_1u =>
k_1q v_1u H_1n n_1o) H_1n n_1o fun v_1r H_1s n_1t =>
guardK v_1j true (fun k_1v =>
binK P .leq 3 (.tmp 23) (.const (.int .i64 11)) v_1r (.int .i64 11) fun v_1z =>
k_1v v_1z H_1s n_1t) H_1s n_1t fun v_1w H_1x n_1y =>
bindO (pickV v_1j v_1w (.bool false)) fun v_20 =>
some (v_20, H_1x, n_1y)
noncomputable def C15_0 (cal : Cal) (k : Nat) (v0 v1 : Value) (H : Hp) (n : Nat) : Res := B15_0 cal k v0 v1 H n
theorem h15_0 (cal : Cal) (k : Nat) (v0 v1 : Value) (H : Hp) (n : Nat) : bodyE P cal A (k + 1) 15 [v0, v1] H n = C15_0 cal k v0 v1 H n := by
  have h : bodyE P cal A (k + 1) 15 [v0, v1] H n = B15_0 cal k v0 v1 H n := by
    rw [body_eq (fn := Go.Proofs.Try.f15) (c := code15) (rs := results15) (by kernel_rfl) (by kernel_rfl) (by kernel_rfl) (by kernel_rfl)]
    kernel_rfl
  rw [h, C15_0]
noncomputable def code18 : Code := codeOf 18
noncomputable def results18 : List ResultVar := resOf 18
noncomputable def K18_p (cal : Cal) (k : Nat) : KR := (cutK (A 18).c (codeE P cal (codeF P cal k) none 18 (cR code18) (Lv.b (A 18)) (doneK P results18) X0 (doneK P results18)))
noncomputable def K18_pr (cal : Cal) (k : Nat) : KR := (cutK (Lv.b (A 18)).c (codeE P cal (codeF P cal k) none 18 (cR (cR code18)) (Lv.b (Lv.b (A 18))) (doneK P results18) X0 (doneK P results18)))
noncomputable def K18_prr (cal : Cal) (k : Nat) : KR := (cutK (Lv.b (Lv.b (A 18))).c (codeE P cal (codeF P cal k) none 18 (cR (cR (cR code18))) (Lv.b (Lv.b (Lv.b (A 18)))) (doneK P results18) X0 (doneK P results18)))
noncomputable def K18_prrl (cal : Cal) (k : Nat) : KR := (cutK (Lv.a (Lv.b (Lv.b (A 18)))).c (codeE P cal (codeF P cal k) none 18 (cR (cL (cR (cR code18)))) (Lv.b (Lv.a (Lv.b (Lv.b (A 18))))) (K18_prr cal k) X0 (doneK P results18)))
noncomputable def K18_pxrrlr (cal : Cal) (k : Nat) : XR := (upX 0 (K18_prr cal k) X0)
noncomputable def K18_prrlrl (cal : Cal) (k : Nat) (m1 : Nat) : KR := (fun T H n D => codeF P cal m1 (Lv.a (Lv.b (Lv.a (Lv.b (Lv.b (A 18)))))) none 18 (cL (cR (cL (cR (cR code18))))) (K18_prr cal k) (K18_pxrrlr cal k) (doneK P results18) (cutT (Lv.a (Lv.b (Lv.a (Lv.b (Lv.b (A 18)))))).c T) H n D)
noncomputable def K18_prrlrll (cal : Cal) (k : Nat) (m1 : Nat) : KR := (cutK (Lv.a (Lv.a (Lv.b (Lv.a (Lv.b (Lv.b (A 18))))))).c (codeE P cal (codeF P cal m1) none 18 (cR (cL (cL (cR (cL (cR (cR code18))))))) (Lv.b (Lv.a (Lv.a (Lv.b (Lv.a (Lv.b (Lv.b (A 18)))))))) (K18_prrlrl cal k m1) (K18_pxrrlr cal k) (doneK P results18)))
noncomputable def K18_prrlrlll (cal : Cal) (k : Nat) (m1 : Nat) : KR := (cutK (Lv.a (Lv.a (Lv.a (Lv.b (Lv.a (Lv.b (Lv.b (A 18)))))))).c (codeE P cal (codeF P cal m1) none 18 (cR (cL (cL (cL (cR (cL (cR (cR code18)))))))) (Lv.b (Lv.a (Lv.a (Lv.a (Lv.b (Lv.a (Lv.b (Lv.b (A 18))))))))) (K18_prrlrll cal k m1) (K18_pxrrlr cal k) (doneK P results18)))
noncomputable def K18_prrlrllr (cal : Cal) (k : Nat) (m1 : Nat) : KR := (cutK (Lv.b (Lv.a (Lv.a (Lv.b (Lv.a (Lv.b (Lv.b (A 18)))))))).c (codeE P cal (codeF P cal m1) none 18 (cR (cR (cL (cL (cR (cL (cR (cR code18)))))))) (Lv.b (Lv.b (Lv.a (Lv.a (Lv.b (Lv.a (Lv.b (Lv.b (A 18))))))))) (K18_prrlrl cal k m1) (K18_pxrrlr cal k) (doneK P results18)))
noncomputable def K18_pxrrlrllrl (cal : Cal) (k : Nat) (m1 : Nat) : XR := (upX 1 (K18_prrlrllr cal k m1) (K18_pxrrlr cal k))
noncomputable def K18_prrr (cal : Cal) (k : Nat) : KR := (cutK (Lv.b (Lv.b (Lv.b (A 18)))).c (codeE P cal (codeF P cal k) none 18 (cR (cR (cR (cR code18)))) (Lv.b (Lv.b (Lv.b (Lv.b (A 18))))) (doneK P results18) X0 (doneK P results18)))
noncomputable def K18_prrrl (cal : Cal) (k : Nat) : KR := (cutK (Lv.a (Lv.b (Lv.b (Lv.b (A 18))))).c (codeE P cal (codeF P cal k) none 18 (cR (cL (cR (cR (cR code18))))) (Lv.b (Lv.a (Lv.b (Lv.b (Lv.b (A 18)))))) (K18_prrr cal k) X0 (doneK P results18)))
noncomputable def K18_pxrrrlr (cal : Cal) (k : Nat) : XR := (upX 2 (K18_prrr cal k) X0)
noncomputable def K18_prrrlrl (cal : Cal) (k : Nat) (m1 : Nat) : KR := (fun T H n D => codeF P cal m1 (Lv.a (Lv.b (Lv.a (Lv.b (Lv.b (Lv.b (A 18))))))) none 18 (cL (cR (cL (cR (cR (cR code18)))))) (K18_prrr cal k) (K18_pxrrrlr cal k) (doneK P results18) (cutT (Lv.a (Lv.b (Lv.a (Lv.b (Lv.b (Lv.b (A 18))))))).c T) H n D)
noncomputable def K18_prrrlrll (cal : Cal) (k : Nat) (m1 : Nat) : KR := (cutK (Lv.a (Lv.a (Lv.b (Lv.a (Lv.b (Lv.b (Lv.b (A 18)))))))).c (codeE P cal (codeF P cal m1) none 18 (cR (cL (cL (cR (cL (cR (cR (cR code18)))))))) (Lv.b (Lv.a (Lv.a (Lv.b (Lv.a (Lv.b (Lv.b (Lv.b (A 18))))))))) (K18_prrrlrl cal k m1) (K18_pxrrrlr cal k) (doneK P results18)))
noncomputable def K18_prrrlrlll (cal : Cal) (k : Nat) (m1 : Nat) : KR := (cutK (Lv.a (Lv.a (Lv.a (Lv.b (Lv.a (Lv.b (Lv.b (Lv.b (A 18))))))))).c (codeE P cal (codeF P cal m1) none 18 (cR (cL (cL (cL (cR (cL (cR (cR (cR code18))))))))) (Lv.b (Lv.a (Lv.a (Lv.a (Lv.b (Lv.a (Lv.b (Lv.b (Lv.b (A 18)))))))))) (K18_prrrlrll cal k m1) (K18_pxrrrlr cal k) (doneK P results18)))
noncomputable def K18_prrrlrllr (cal : Cal) (k : Nat) (m1 : Nat) : KR := (cutK (Lv.b (Lv.a (Lv.a (Lv.b (Lv.a (Lv.b (Lv.b (Lv.b (A 18))))))))).c (codeE P cal (codeF P cal m1) none 18 (cR (cR (cL (cL (cR (cL (cR (cR (cR code18))))))))) (Lv.b (Lv.b (Lv.a (Lv.a (Lv.b (Lv.a (Lv.b (Lv.b (Lv.b (A 18)))))))))) (K18_prrrlrl cal k m1) (K18_pxrrrlr cal k) (doneK P results18)))
noncomputable def K18_pxrrrlrllrl (cal : Cal) (k : Nat) (m1 : Nat) : XR := (upX 3 (K18_prrrlrllr cal k m1) (K18_pxrrrlr cal k))
noncomputable def K18_prrrr (cal : Cal) (k : Nat) : KR := (cutK (Lv.b (Lv.b (Lv.b (Lv.b (A 18))))).c (codeE P cal (codeF P cal k) none 18 (cR (cR (cR (cR (cR code18))))) (Lv.b (Lv.b (Lv.b (Lv.b (Lv.b (A 18)))))) (doneK P results18) X0 (doneK P results18)))
noncomputable def K18_prrrrl (cal : Cal) (k : Nat) : KR := (cutK (Lv.a (Lv.b (Lv.b (Lv.b (Lv.b (A 18)))))).c (codeE P cal (codeF P cal k) none 18 (cR (cL (cR (cR (cR (cR code18)))))) (Lv.b (Lv.a (Lv.b (Lv.b (Lv.b (Lv.b (A 18))))))) (K18_prrrr cal k) X0 (doneK P results18)))
noncomputable def K18_pxrrrrlr (cal : Cal) (k : Nat) : XR := (upX 4 (K18_prrrr cal k) X0)
noncomputable def K18_prrrrlrl (cal : Cal) (k : Nat) (m1 : Nat) : KR := (fun T H n D => codeF P cal m1 (Lv.a (Lv.b (Lv.a (Lv.b (Lv.b (Lv.b (Lv.b (A 18)))))))) none 18 (cL (cR (cL (cR (cR (cR (cR code18))))))) (K18_prrrr cal k) (K18_pxrrrrlr cal k) (doneK P results18) (cutT (Lv.a (Lv.b (Lv.a (Lv.b (Lv.b (Lv.b (Lv.b (A 18)))))))).c T) H n D)
noncomputable def K18_prrrrlrll (cal : Cal) (k : Nat) (m1 : Nat) : KR := (cutK (Lv.a (Lv.a (Lv.b (Lv.a (Lv.b (Lv.b (Lv.b (Lv.b (A 18))))))))).c (codeE P cal (codeF P cal m1) none 18 (cR (cL (cL (cR (cL (cR (cR (cR (cR code18))))))))) (Lv.b (Lv.a (Lv.a (Lv.b (Lv.a (Lv.b (Lv.b (Lv.b (Lv.b (A 18)))))))))) (K18_prrrrlrl cal k m1) (K18_pxrrrrlr cal k) (doneK P results18)))
noncomputable def K18_prrrrlrlll (cal : Cal) (k : Nat) (m1 : Nat) : KR := (cutK (Lv.a (Lv.a (Lv.a (Lv.b (Lv.a (Lv.b (Lv.b (Lv.b (Lv.b (A 18)))))))))).c (codeE P cal (codeF P cal m1) none 18 (cR (cL (cL (cL (cR (cL (cR (cR (cR (cR code18)))))))))) (Lv.b (Lv.a (Lv.a (Lv.a (Lv.b (Lv.a (Lv.b (Lv.b (Lv.b (Lv.b (A 18))))))))))) (K18_prrrrlrll cal k m1) (K18_pxrrrrlr cal k) (doneK P results18)))
noncomputable def K18_prrrrlrllr (cal : Cal) (k : Nat) (m1 : Nat) : KR := (cutK (Lv.b (Lv.a (Lv.a (Lv.b (Lv.a (Lv.b (Lv.b (Lv.b (Lv.b (A 18)))))))))).c (codeE P cal (codeF P cal m1) none 18 (cR (cR (cL (cL (cR (cL (cR (cR (cR (cR code18)))))))))) (Lv.b (Lv.b (Lv.a (Lv.a (Lv.b (Lv.a (Lv.b (Lv.b (Lv.b (Lv.b (A 18))))))))))) (K18_prrrrlrl cal k m1) (K18_pxrrrrlr cal k) (doneK P results18)))
noncomputable def K18_pxrrrrlrllrl (cal : Cal) (k : Nat) (m1 : Nat) : XR := (upX 5 (K18_prrrrlrllr cal k m1) (K18_pxrrrrlr cal k))
noncomputable def K18_prrrrlrllrll (cal : Cal) (k : Nat) (m1 : Nat) : KR := (cutK (Lv.a (Lv.a (Lv.b (Lv.a (Lv.a (Lv.b (Lv.a (Lv.b (Lv.b (Lv.b (Lv.b (A 18)))))))))))).c (codeE P cal (codeF P cal m1) none 18 (cR (cL (cL (cR (cL (cL (cR (cL (cR (cR (cR (cR code18)))))))))))) (Lv.b (Lv.a (Lv.a (Lv.b (Lv.a (Lv.a (Lv.b (Lv.a (Lv.b (Lv.b (Lv.b (Lv.b (A 18))))))))))))) (K18_prrrrlrllr cal k m1) (K18_pxrrrrlrllrl cal k m1) (doneK P results18)))
noncomputable def K18_prrrrr (cal : Cal) (k : Nat) : KR := (cutK (Lv.b (Lv.b (Lv.b (Lv.b (Lv.b (A 18)))))).c (codeE P cal (codeF P cal k) none 18 (cR (cR (cR (cR (cR (cR code18)))))) (Lv.b (Lv.b (Lv.b (Lv.b (Lv.b (Lv.b (A 18))))))) (doneK P results18) X0 (doneK P results18)))
noncomputable def E18_3 (cal : Cal) (k m1 : Nat) : KR := codeE P cal (codeF P cal m1) none 18 (cL (cL (cR (cL (cR (cR (cR (cR code18)))))))) (Lv.a (Lv.a (Lv.b (Lv.a (Lv.b (Lv.b (Lv.b (Lv.b (A 18))))))))) (K18_prrrrlrl cal k m1) (K18_pxrrrrlr cal k) (doneK P results18)
noncomputable def R18_3 (cal : Cal) (k m1 : Nat) : V4 := fun u1 u2 u3 u6 H n => codeF P cal m1 (Lv.a (Lv.b (Lv.a (Lv.b (Lv.b (Lv.b (Lv.b (A 18)))))))) none 18 (cL (cR (cL (cR (cR (cR (cR code18))))))) (K18_prrrr cal k) (K18_pxrrrrlr cal k) (doneK P results18) (Tr.set (Tr.set (Tr.set (Tr.set Tr.nil 6 (some u6)) 3 (some u3)) 2 (some u2)) 1 (some u1)) H n []
noncomputable def E18_2 (cal : Cal) (k m1 : Nat) : KR := codeE P cal (codeF P cal m1) none 18 (cL (cL (cR (cL (cR (cR (cR code18))))))) (Lv.a (Lv.a (Lv.b (Lv.a (Lv.b (Lv.b (Lv.b (A 18)))))))) (K18_prrrlrl cal k m1) (K18_pxrrrlr cal k) (doneK P results18)
noncomputable def R18_2 (cal : Cal) (k m1 : Nat) : V4 := fun u1 u2 u3 u5 H n => codeF P cal m1 (Lv.a (Lv.b (Lv.a (Lv.b (Lv.b (Lv.b (A 18))))))) none 18 (cL (cR (cL (cR (cR (cR code18)))))) (K18_prrr cal k) (K18_pxrrrlr cal k) (doneK P results18) (Tr.set (Tr.set (Tr.set (Tr.set Tr.nil 5 (some u5)) 3 (some u3)) 2 (some u2)) 1 (some u1)) H n []
noncomputable def E18_1 (cal : Cal) (k m1 : Nat) : KR := codeE P cal (codeF P cal m1) none 18 (cL (cL (cR (cL (cR (cR code18)))))) (Lv.a (Lv.a (Lv.b (Lv.a (Lv.b (Lv.b (A 18))))))) (K18_prrlrl cal k m1) (K18_pxrrlr cal k) (doneK P results18)
noncomputable def R18_1 (cal : Cal) (k m1 : Nat) : V4 := fun u1 u2 u3 u4 H n => codeF P cal m1 (Lv.a (Lv.b (Lv.a (Lv.b (Lv.b (A 18)))))) none 18 (cL (cR (cL (cR (cR code18))))) (K18_prr cal k) (K18_pxrrlr cal k) (doneK P results18) (Tr.set (Tr.set (Tr.set (Tr.set Tr.nil 4 (some u4)) 3 (some u3)) 2 (some u2)) 1 (some u1)) H n []
noncomputable def B18_3 (cal : Cal) (k m1 : Nat) (b3 : V4) (u1 u2 u3 u6 : Value) (H : Hp) (n : Nat) : Res :=
bindO (fieldAddrV P 26 u1 2) fun v_2i =>
bindO (addrV v_2i) fun a_2k => bindO (loadV P H 24 a_2k) fun v_2j =>
bindO (lenV P 24 v_2j) fun v_2l =>
binK P .lss 3 (.tmp 58) (.tmp 61) u6 v_2l fun v_2m =>
ifK v_2m (
bindO (fieldAddrV P 26 u1 2) fun v_2n =>
bindO (addrV v_2n) fun a_2p => bindO (loadV P H 24 a_2p) fun v_2o =>
bindO (indexAddrV P 24 v_2o u6) fun v_2r =>
bindO (addrV v_2r) fun a_2t => bindO (loadV P H 94 a_2t) fun v_2s =>
allocK P 94 H n fun v_2u H_2v n_2w =>
bindO (storeP P 94 v_2u v_2s H_2v) fun H_2y =>
bindO (fieldAddrV P 35 u3 2) fun v_2z =>
bindO (addrV v_2z) fun a_30 => bindO (loadV P H_2y 33 a_30) fun v_31 =>
bindO (fieldAddrV P 94 v_2u 0) fun v_32 =>
bindO (addrV v_32) fun a_33 => bindO (loadV P H_2y 3 a_33) fun v_34 =>
bindO (fieldAddrV P 94 v_2u 1) fun v_35 =>
bindO (addrV v_35) fun a_36 => bindO (loadV P H_2y 55 a_36) fun v_37 =>
bindO (fieldAddrV P 94 v_2u 2) fun v_38 =>
bindO (addrV v_38) fun a_39 => bindO (loadV P H_2y 55 a_39) fun v_3a =>
effK P [(.l 55 a_39), (.l 3 a_33), (.l 33 a_30)] H_2y n_2w (fun H_3b n_3c k_3d =>
callFK P cal 26 [v_37] H_3b n_3c fun v_3h H_3i n_3j =>
k_3d v_3h H_3i n_3j) fun v_3e H_3f n_3g =>
effK P [(.l 3 a_33), (.l 33 a_30)] H_3f n_3g (fun H_3k n_3l k_3m =>
callFK P cal 26 [v_3a] H_3k n_3l fun v_3q H_3r n_3s =>
k_3m v_3q H_3r n_3s) fun v_3n H_3o n_3p =>
bindO (buildP P 86 [(0, v_34), (1, v_3e), (2, v_3n)]) fun v_3t =>
bindO (rowOf P 33 1 [(0, v_3t)]) fun q_3w => newK q_3w.1 q_3w.2 H_3o n_3p fun H_3u n_3v =>
stK (appendV P (bare H_3u n_3v) 33 33 v_31 (.slice (some ⟨n_3p, 0, none⟩) 1 1)) fun v_3x H_3y n_3z =>
bindO (fieldAddrV P 35 u3 2) fun v_40 =>
bindO (storeP P 33 v_40 v_3x H_3y) fun H_42 =>
binK P .add 3 (.tmp 63) (.const (.int .i64 1)) u6 (.int .i64 1) fun v_44 =>
b3 u1 u2 u3 v_44 H_42 n_3z) (
bindO (addrV u3) fun a_47 => bindO (loadV P H 35 a_47) fun v_46 =>
bindO (storeP P 35 u2 v_46 H) fun H_49 =>
bindO (resV P (Tr.set Tr.nil 2 (some u2)) H_49 results18) fun v_4a => some (oneV v_4a, H_49, n))
noncomputable def C18_3 (cal : Cal) (k m1 : Nat) (b3 : V4) (u1 u2 u3 u6 : Value) (H : Hp) (n : Nat) : Res := B18_3 cal k m1 b3 u1 u2 u3 u6 H n
noncomputable def S18_3 (cal : Cal) (k : Nat) : Nat → V4 := fun m => Nat.rec (motive := fun _ => V4) (C18_3 cal k 0 (fun _ _ _ _ _ _ => none)) (fun m ih => C18_3 cal k (m + 1) ih) m
theorem h18_3 (cal : Cal) (k m1 : Nat) (u1 u2 u3 u6 : Value) (H : Hp) (n : Nat) : labK (E18_3 cal k m1) (Tr.set (Tr.set (Tr.set (Tr.set Tr.nil 6 (some u6)) 3 (some u3)) 2 (some u2)) 1 (some u1)) H n [] = C18_3 cal k m1 (R18_3 cal k m1) u1 u2 u3 u6 H n := by
  refine Eq.trans (b := B18_3 cal k m1 (R18_3 cal k m1) u1 u2 u3 u6 H n) (by kernel_rfl) ?_
  rw [C18_3]
theorem q18_3 (cal : Cal) (k : Nat) : ∀ (m : Nat) (u1 u2 u3 u6 : Value) (H : Hp) (n : Nat), labK (E18_3 cal k m) (Tr.set (Tr.set (Tr.set (Tr.set Tr.nil 6 (some u6)) 3 (some u3)) 2 (some u2)) 1 (some u1)) H n [] = S18_3 cal k m u1 u2 u3 u6 H n
  | 0, u1, u2, u3, u6, H, n => by
    rw [h18_3]
    have e : R18_3 cal k 0 = fun _ _ _ _ _ _ => none := by funext u1 u2 u3 u6 H n; kernel_rfl
    rw [e]; rfl
  | m + 1, u1, u2, u3, u6, H, n => by
    rw [h18_3]
    have e : R18_3 cal k (m + 1) = S18_3 cal k m := by
      funext u1 u2 u3 u6 H n
      have e : R18_3 cal k (m + 1) u1 u2 u3 u6 H n = labK (E18_3 cal k m) (Tr.set (Tr.set (Tr.set (Tr.set Tr.nil 6 (some u6)) 3 (some u3)) 2 (some u2)) 1 (some u1)) H n [] := by kernel_rfl
      rw [e]; exact q18_3 ..
    rw [e]; rfl
noncomputable def B18_2 (cal : Cal) (k m1 : Nat) (j3 : V4) (b2 : V4) (u1 u2 u3 u5 : Value) (H : Hp) (n : Nat) : Res :=
bindO (fieldAddrV P 26 u1 1) fun v_1f =>
bindO (addrV v_1f) fun a_1h => bindO (loadV P H 23 a_1h) fun v_1g =>
bindO (lenV P 23 v_1g) fun v_1i =>
binK P .lss 3 (.tmp 33) (.tmp 36) u5 v_1i fun v_1j =>
ifK v_1j (
bindO (fieldAddrV P 35 u3 1) fun v_1k =>
bindO (addrV v_1k) fun a_1l => bindO (loadV P H 32 a_1l) fun v_1m =>
bindO (fieldAddrV P 26 u1 1) fun v_1n =>
bindO (addrV v_1n) fun a_1o => bindO (loadV P H 23 a_1o) fun v_1p =>
bindO (indexAddrV P 23 v_1p u5) fun v_1r =>
bindO (fieldAddrV P 104 v_1r 0) fun v_1s =>
bindO (addrV v_1s) fun a_1t => bindO (loadV P H 3 a_1t) fun v_1u =>
bindO (fieldAddrV P 26 u1 1) fun v_1v =>
bindO (addrV v_1v) fun a_1w => bindO (loadV P H 23 a_1w) fun v_1x =>
bindO (indexAddrV P 23 v_1x u5) fun v_1z =>
bindO (fieldAddrV P 104 v_1z 1) fun v_20 =>
bindO (addrV v_20) fun a_21 => bindO (loadV P H 3 a_21) fun v_22 =>
bindO (buildP P 88 [(0, v_1u), (1, v_22)]) fun v_23 =>
bindO (rowOf P 32 1 [(0, v_23)]) fun q_26 => newK q_26.1 q_26.2 H n fun H_24 n_25 =>
stK (appendV P (bare H_24 n_25) 32 32 v_1m (.slice (some ⟨n, 0, none⟩) 1 1)) fun v_27 H_28 n_29 =>
bindO (fieldAddrV P 35 u3 1) fun v_2a =>
bindO (storeP P 32 v_2a v_27 H_28) fun H_2c =>
binK P .add 3 (.tmp 38) (.const (.int .i64 1)) u5 (.int .i64 1) fun v_2e =>
b2 u1 u2 u3 v_2e H_2c n_29) (
j3 u1 u2 u3 (.int .i64 0) H n)
noncomputable def C18_2 (cal : Cal) (k m1 : Nat) (b2 : V4) (u1 u2 u3 u5 : Value) (H : Hp) (n : Nat) : Res := B18_2 cal k m1 (S18_3 cal k k) b2 u1 u2 u3 u5 H n
noncomputable def S18_2 (cal : Cal) (k : Nat) : Nat → V4 := fun m => Nat.rec (motive := fun _ => V4) (C18_2 cal k 0 (fun _ _ _ _ _ _ => none)) (fun m ih => C18_2 cal k (m + 1) ih) m
theorem h18_2 (cal : Cal) (k m1 : Nat) (u1 u2 u3 u5 : Value) (H : Hp) (n : Nat) : labK (E18_2 cal k m1) (Tr.set (Tr.set (Tr.set (Tr.set Tr.nil 5 (some u5)) 3 (some u3)) 2 (some u2)) 1 (some u1)) H n [] = C18_2 cal k m1 (R18_2 cal k m1) u1 u2 u3 u5 H n := by
  refine Eq.trans (b := B18_2 cal k m1 (fun u1 u2 u3 u6 H n => labK (E18_3 cal k k) (Tr.set (Tr.set (Tr.set (Tr.set Tr.nil 6 (some u6)) 3 (some u3)) 2 (some u2)) 1 (some u1)) H n []) (R18_2 cal k m1) u1 u2 u3 u5 H n) (by kernel_rfl) ?_
  rw [C18_2]
  have e3 : (fun u1 u2 u3 u6 H n => labK (E18_3 cal k k) (Tr.set (Tr.set (Tr.set (Tr.set Tr.nil 6 (some u6)) 3 (some u3)) 2 (some u2)) 1 (some u1)) H n []) = (S18_3 cal k k) := by funext u1 u2 u3 u6 H n; exact q18_3 ..
  rw [e3]
theorem q18_2 (cal : Cal) (k : Nat) : ∀ (m : Nat) (u1 u2 u3 u5 : Value) (H : Hp) (n : Nat), labK (E18_2 cal k m) (Tr.set (Tr.set (Tr.set (Tr.set Tr.nil 5 (some u5)) 3 (some u3)) 2 (some u2)) 1 (some u1)) H n [] = S18_2 cal k m u1 u2 u3 u5 H n
  | 0, u1, u2, u3, u5, H, n => by
    rw [h18_2]
    have e : R18_2 cal k 0 = fun _ _ _ _ _ _ => none := by funext u1 u2 u3 u5 H n; kernel_rfl
    rw [e]; rfl
  | m + 1, u1, u2, u3, u5, H, n => by
    rw [h18_2]
    have e : R18_2 cal k (m + 1) = S18_2 cal k m := by
      funext u1 u2 u3 u5 H n
      have e : R18_2 cal k (m + 1) u1 u2 u3 u5 H n = labK (E18_2 cal k m) (Tr.set (Tr.set (Tr.set (Tr.set Tr.nil 5 (some u5)) 3 (some u3)) 2 (some u2)) 1 (some u1)) H n [] := by kernel_rfl
      rw [e]; exact q18_2 ..
    rw [e]; rfl
noncomputable def B18_1 (cal : Cal) (k m1 : Nat) (j2 : V4) (b1 : V4) (u1 u2 u3 u4 : Value) (H : Hp) (n : Nat) : Res :=
bindO (fieldAddrV P 26 u1 0) fun v_c =>
bindO (addrV v_c) fun a_e => bindO (loadV P H 22 a_e) fun v_d =>
bindO (lenV P 22 v_d) fun v_f =>
binK P .lss 3 (.tmp 8) (.tmp 11) u4 v_f fun v_g =>
ifK v_g (
bindO (fieldAddrV P 35 u3 0) fun v_h =>
bindO (addrV v_h) fun a_i => bindO (loadV P H 31 a_i) fun v_j =>
bindO (fieldAddrV P 26 u1 0) fun v_k =>
bindO (addrV v_k) fun a_l => bindO (loadV P H 22 a_l) fun v_m =>
bindO (indexAddrV P 22 v_m u4) fun v_o =>
bindO (fieldAddrV P 95 v_o 0) fun v_p =>
bindO (addrV v_p) fun a_q => bindO (loadV P H 3 a_q) fun v_r =>
bindO (fieldAddrV P 26 u1 0) fun v_s =>
bindO (addrV v_s) fun a_t => bindO (loadV P H 22 a_t) fun v_u =>
bindO (indexAddrV P 22 v_u u4) fun v_w =>
bindO (fieldAddrV P 95 v_w 1) fun v_x =>
bindO (addrV v_x) fun a_y => bindO (loadV P H 3 a_y) fun v_z =>
bindO (buildP P 90 [(0, v_r), (1, v_z)]) fun v_10 =>
bindO (rowOf P 31 1 [(0, v_10)]) fun q_13 => newK q_13.1 q_13.2 H n fun H_11 n_12 =>
stK (appendV P (bare H_11 n_12) 31 31 v_j (.slice (some ⟨n, 0, none⟩) 1 1)) fun v_14 H_15 n_16 =>
bindO (fieldAddrV P 35 u3 0) fun v_17 =>
bindO (storeP P 31 v_17 v_14 H_15) fun H_19 =>
binK P .add 3 (.tmp 13) (.const (.int .i64 1)) u4 (.int .i64 1) fun v_1b =>
b1 u1 u2 u3 v_1b H_19 n_16) (
j2 u1 u2 u3 (.int .i64 0) H n)
noncomputable def C18_1 (cal : Cal) (k m1 : Nat) (b1 : V4) (u1 u2 u3 u4 : Value) (H : Hp) (n : Nat) : Res := B18_1 cal k m1 (S18_2 cal k k) b1 u1 u2 u3 u4 H n
noncomputable def S18_1 (cal : Cal) (k : Nat) : Nat → V4 := fun m => Nat.rec (motive := fun _ => V4) (C18_1 cal k 0 (fun _ _ _ _ _ _ => none)) (fun m ih => C18_1 cal k (m + 1) ih) m
theorem h18_1 (cal : Cal) (k m1 : Nat) (u1 u2 u3 u4 : Value) (H : Hp) (n : Nat) : labK (E18_1 cal k m1) (Tr.set (Tr.set (Tr.set (Tr.set Tr.nil 4 (some u4)) 3 (some u3)) 2 (some u2)) 1 (some u1)) H n [] = C18_1 cal k m1 (R18_1 cal k m1) u1 u2 u3 u4 H n := by
  refine Eq.trans (b := B18_1 cal k m1 (fun u1 u2 u3 u5 H n => labK (E18_2 cal k k) (Tr.set (Tr.set (Tr.set (Tr.set Tr.nil 5 (some u5)) 3 (some u3)) 2 (some u2)) 1 (some u1)) H n []) (R18_1 cal k m1) u1 u2 u3 u4 H n) (by kernel_rfl) ?_
  rw [C18_1]
  have e2 : (fun u1 u2 u3 u5 H n => labK (E18_2 cal k k) (Tr.set (Tr.set (Tr.set (Tr.set Tr.nil 5 (some u5)) 3 (some u3)) 2 (some u2)) 1 (some u1)) H n []) = (S18_2 cal k k) := by funext u1 u2 u3 u5 H n; exact q18_2 ..
  rw [e2]
theorem q18_1 (cal : Cal) (k : Nat) : ∀ (m : Nat) (u1 u2 u3 u4 : Value) (H : Hp) (n : Nat), labK (E18_1 cal k m) (Tr.set (Tr.set (Tr.set (Tr.set Tr.nil 4 (some u4)) 3 (some u3)) 2 (some u2)) 1 (some u1)) H n [] = S18_1 cal k m u1 u2 u3 u4 H n
  | 0, u1, u2, u3, u4, H, n => by
    rw [h18_1]
    have e : R18_1 cal k 0 = fun _ _ _ _ _ _ => none := by funext u1 u2 u3 u4 H n; kernel_rfl
    rw [e]; rfl
  | m + 1, u1, u2, u3, u4, H, n => by
    rw [h18_1]
    have e : R18_1 cal k (m + 1) = S18_1 cal k m := by
      funext u1 u2 u3 u4 H n
      have e : R18_1 cal k (m + 1) u1 u2 u3 u4 H n = labK (E18_1 cal k m) (Tr.set (Tr.set (Tr.set (Tr.set Tr.nil 4 (some u4)) 3 (some u3)) 2 (some u2)) 1 (some u1)) H n [] := by kernel_rfl
      rw [e]; exact q18_1 ..
    rw [e]; rfl
noncomputable def B18_0 (cal : Cal) (k : Nat) (j1 : V4) (v0 : Value) (H : Hp) (n : Nat) : Res :=
boxK 26 v0 H n fun v_1 H_2 n_3 =>
allocK P 35 H_2 n_3 fun v_4 H_5 n_6 =>
allocK P 35 H_5 n_6 fun v_7 H_8 n_9 =>
j1 v_1 v_4 v_7 (.int .i64 0) H_8 n_9
noncomputable def C18_0 (cal : Cal) (k : Nat) (v0 : Value) (H : Hp) (n : Nat) : Res := B18_0 cal k (S18_1 cal k k) v0 H n
theorem h18_0 (cal : Cal) (k : Nat) (v0 : Value) (H : Hp) (n : Nat) : bodyE P cal A (k + 1) 18 [v0] H n = C18_0 cal k v0 H n := by
  have h : bodyE P cal A (k + 1) 18 [v0] H n = B18_0 cal k (fun u1 u2 u3 u4 H n => labK (E18_1 cal k k) (Tr.set (Tr.set (Tr.set (Tr.set Tr.nil 4 (some u4)) 3 (some u3)) 2 (some u2)) 1 (some u1)) H n []) v0 H n := by
    rw [body_eq (fn := Go.Proofs.Try.f18) (c := code18) (rs := results18) (by kernel_rfl) (by kernel_rfl) (by kernel_rfl) (by kernel_rfl)]
    kernel_rfl
  rw [h, C18_0]
  have e1 : (fun u1 u2 u3 u4 H n => labK (E18_1 cal k k) (Tr.set (Tr.set (Tr.set (Tr.set Tr.nil 4 (some u4)) 3 (some u3)) 2 (some u2)) 1 (some u1)) H n []) = (S18_1 cal k k) := by funext u1 u2 u3 u4 H n; exact q18_1 ..
  rw [e1]
noncomputable def code20 : Code := codeOf 20
noncomputable def results20 : List ResultVar := resOf 20
noncomputable def K20_p (cal : Cal) (k : Nat) : KR := (cutK (A 20).c (codeE P cal (codeF P cal k) none 20 (cR code20) (Lv.b (A 20)) (doneK P results20) X0 (doneK P results20)))
noncomputable def K20_pr (cal : Cal) (k : Nat) : KR := (cutK (Lv.b (A 20)).c (codeE P cal (codeF P cal k) none 20 (cR (cR code20)) (Lv.b (Lv.b (A 20))) (doneK P results20) X0 (doneK P results20)))
noncomputable def B20_0 (cal : Cal) (k : Nat) (v0 : Value) (H : Hp) (n : Nat) : Res :=
boxK 26 v0 H n fun v_1 H_2 n_3 =>
bindO (addrV v_1) fun a_6 => bindO (loadV P H_2 26 a_6) fun v_5 =>
callFK P cal 63 [v_5] H_2 n_3 fun v_7 H_8 n_9 =>
some (v_7, H_8, n_9)
noncomputable def C20_0 (cal : Cal) (k : Nat) (v0 : Value) (H : Hp) (n : Nat) : Res := B20_0 cal k v0 H n
theorem h20_0 (cal : Cal) (k : Nat) (v0 : Value) (H : Hp) (n : Nat) : bodyE P cal A (k + 1) 20 [v0] H n = C20_0 cal k v0 H n := by
  have h : bodyE P cal A (k + 1) 20 [v0] H n = B20_0 cal k v0 H n := by
    rw [body_eq (fn := Go.Proofs.Try.f20) (c := code20) (rs := results20) (by kernel_rfl) (by kernel_rfl) (by kernel_rfl) (by kernel_rfl)]
    kernel_rfl
  rw [h, C20_0]
noncomputable def code23 : Code := codeOf 23
noncomputable def results23 : List ResultVar := resOf 23
noncomputable def K23_p (cal : Cal) (k : Nat) : KR := (cutK (A 23).c (codeE P cal (codeF P cal k) none 23 (cR code23) (Lv.b (A 23)) (doneK P results23) X0 (doneK P results23)))
noncomputable def K23_pr (cal : Cal) (k : Nat) : KR := (cutK (Lv.b (A 23)).c (codeE P cal (codeF P cal k) none 23 (cR (cR code23)) (Lv.b (Lv.b (A 23))) (doneK P results23) X0 (doneK P results23)))
noncomputable def B23_0 (cal : Cal) (k : Nat) (v0 : Value) (H : Hp) (n : Nat) : Res :=
rowK P 44 0 [] H n fun v_2 H_3 n_4 =>
stK (appendV P (bare H_3 n_4) 44 44 v_2 v0) fun v_6 H_7 n_8 =>
some (v_6, H_7, n_8)
noncomputable def C23_0 (cal : Cal) (k : Nat) (v0 : Value) (H : Hp) (n : Nat) : Res := B23_0 cal k v0 H n
theorem h23_0 (cal : Cal) (k : Nat) (v0 : Value) (H : Hp) (n : Nat) : bodyE P cal A (k + 1) 23 [v0] H n = C23_0 cal k v0 H n := by
  have h : bodyE P cal A (k + 1) 23 [v0] H n = B23_0 cal k v0 H n := by
    rw [body_eq (fn := Go.Proofs.Try.f23) (c := code23) (rs := results23) (by kernel_rfl) (by kernel_rfl) (by kernel_rfl) (by kernel_rfl)]
    kernel_rfl
  rw [h, C23_0]
noncomputable def code26 : Code := codeOf 26
noncomputable def results26 : List ResultVar := resOf 26
noncomputable def K26_p (cal : Cal) (k : Nat) : KR := (cutK (A 26).c (codeE P cal (codeF P cal k) none 26 (cR code26) (Lv.b (A 26)) (doneK P results26) X0 (doneK P results26)))
noncomputable def K26_pr (cal : Cal) (k : Nat) : KR := (cutK (Lv.b (A 26)).c (codeE P cal (codeF P cal k) none 26 (cR (cR code26)) (Lv.b (Lv.b (A 26))) (doneK P results26) X0 (doneK P results26)))
noncomputable def B26_0 (cal : Cal) (k : Nat) (v0 : Value) (H : Hp) (n : Nat) : Res :=
boxK 55 v0 H n fun v_1 H_2 n_3 =>
allocK P 53 H_2 n_3 fun v_4 H_5 n_6 =>
bindO (fieldAddrV P 55 v_1 0) fun v_7 =>
bindO (addrV v_7) fun a_9 => bindO (loadV P H_5 3 a_9) fun v_8 =>
bindO (fieldAddrV P 55 v_1 1) fun v_a =>
bindO (addrV v_a) fun a_c => bindO (loadV P H_5 3 a_c) fun v_b =>
bindO (buildP P 53 [(0, v_8), (1, v_b)]) fun v_d =>
bindO (storeP P 53 v_4 v_d H_5) fun H_f =>
bindO (resV P (Tr.set Tr.nil 2 (some v_4)) H_f results26) fun v_g => some (oneV v_g, H_f, n_6)
noncomputable def C26_0 (cal : Cal) (k : Nat) (v0 : Value) (H : Hp) (n : Nat) : Res := B26_0 cal k v0 H n
theorem h26_0 (cal : Cal) (k : Nat) (v0 : Value) (H : Hp) (n : Nat) : bodyE P cal A (k + 1) 26 [v0] H n = C26_0 cal k v0 H n := by
  have h : bodyE P cal A (k + 1) 26 [v0] H n = B26_0 cal k v0 H n := by
    rw [body_eq (fn := Go.Proofs.Try.f26) (c := code26) (rs := results26) (by kernel_rfl) (by kernel_rfl) (by kernel_rfl) (by kernel_rfl)]
    kernel_rfl
  rw [h, C26_0]
noncomputable def code30 : Code := codeOf 30
noncomputable def results30 : List ResultVar := resOf 30
noncomputable def K30_p (cal : Cal) (k : Nat) : KR := (cutK (A 30).c (codeE P cal (codeF P cal k) none 30 (cR code30) (Lv.b (A 30)) (doneK P results30) X0 (doneK P results30)))
noncomputable def K30_pr (cal : Cal) (k : Nat) : KR := (cutK (Lv.b (A 30)).c (codeE P cal (codeF P cal k) none 30 (cR (cR code30)) (Lv.b (Lv.b (A 30))) (doneK P results30) X0 (doneK P results30)))
noncomputable def K30_prl (cal : Cal) (k : Nat) : KR := (cutK (Lv.a (Lv.b (A 30))).c (codeE P cal (codeF P cal k) none 30 (cR (cL (cR code30))) (Lv.b (Lv.a (Lv.b (A 30)))) (K30_pr cal k) X0 (doneK P results30)))
noncomputable def K30_prlrl (cal : Cal) (k : Nat) : KR := (cutK (Lv.a (Lv.b (Lv.a (Lv.b (A 30))))).c (codeE P cal (codeF P cal k) none 30 (cR (cL (cR (cL (cR code30))))) (Lv.b (Lv.a (Lv.b (Lv.a (Lv.b (A 30)))))) (K30_pr cal k) X0 (doneK P results30)))
noncomputable def K30_prr (cal : Cal) (k : Nat) : KR := (cutK (Lv.b (Lv.b (A 30))).c (codeE P cal (codeF P cal k) none 30 (cR (cR (cR code30))) (Lv.b (Lv.b (Lv.b (A 30)))) (doneK P results30) X0 (doneK P results30)))
noncomputable def K30_prrl (cal : Cal) (k : Nat) : KR := (cutK (Lv.a (Lv.b (Lv.b (A 30)))).c (codeE P cal (codeF P cal k) none 30 (cR (cL (cR (cR code30)))) (Lv.b (Lv.a (Lv.b (Lv.b (A 30))))) (K30_prr cal k) X0 (doneK P results30)))
noncomputable def K30_pxrrlr (cal : Cal) (k : Nat) : XR := (upX 0 (K30_prr cal k) X0)
noncomputable def K30_prrlrl (cal : Cal) (k : Nat) (m1 : Nat) : KR := (fun T H n D => codeF P cal m1 (Lv.a (Lv.b (Lv.a (Lv.b (Lv.b (A 30)))))) none 30 (cL (cR (cL (cR (cR code30))))) (K30_prr cal k) (K30_pxrrlr cal k) (doneK P results30) (cutT (Lv.a (Lv.b (Lv.a (Lv.b (Lv.b (A 30)))))).c T) H n D)
noncomputable def K30_prrlrll (cal : Cal) (k : Nat) (m1 : Nat) : KR := (cutK (Lv.a (Lv.a (Lv.b (Lv.a (Lv.b (Lv.b (A 30))))))).c (codeE P cal (codeF P cal m1) none 30 (cR (cL (cL (cR (cL (cR (cR code30))))))) (Lv.b (Lv.a (Lv.a (Lv.b (Lv.a (Lv.b (Lv.b (A 30)))))))) (K30_prrlrl cal k m1) (K30_pxrrlr cal k) (doneK P results30)))
noncomputable def K30_prrlrlll (cal : Cal) (k : Nat) (m1 : Nat) : KR := (cutK (Lv.a (Lv.a (Lv.a (Lv.b (Lv.a (Lv.b (Lv.b (A 30)))))))).c (codeE P cal (codeF P cal m1) none 30 (cR (cL (cL (cL (cR (cL (cR (cR code30)))))))) (Lv.b (Lv.a (Lv.a (Lv.a (Lv.b (Lv.a (Lv.b (Lv.b (A 30))))))))) (K30_prrlrll cal k m1) (K30_pxrrlr cal k) (doneK P results30)))
noncomputable def K30_prrlrllr (cal : Cal) (k : Nat) (m1 : Nat) : KR := (cutK (Lv.b (Lv.a (Lv.a (Lv.b (Lv.a (Lv.b (Lv.b (A 30)))))))).c (codeE P cal (codeF P cal m1) none 30 (cR (cR (cL (cL (cR (cL (cR (cR code30)))))))) (Lv.b (Lv.b (Lv.a (Lv.a (Lv.b (Lv.a (Lv.b (Lv.b (A 30))))))))) (K30_prrlrl cal k m1) (K30_pxrrlr cal k) (doneK P results30)))
noncomputable def K30_pxrrlrllrl (cal : Cal) (k : Nat) (m1 : Nat) : XR := (upX 1 (K30_prrlrllr cal k m1) (K30_pxrrlr cal k))
noncomputable def K30_prrlrllrll (cal : Cal) (k : Nat) (m1 : Nat) : KR := (cutK (Lv.a (Lv.a (Lv.b (Lv.a (Lv.a (Lv.b (Lv.a (Lv.b (Lv.b (A 30)))))))))).c (codeE P cal (codeF P cal m1) none 30 (cR (cL (cL (cR (cL (cL (cR (cL (cR (cR code30)))))))))) (Lv.b (Lv.a (Lv.a (Lv.b (Lv.a (Lv.a (Lv.b (Lv.a (Lv.b (Lv.b (A 30))))))))))) (K30_prrlrllr cal k m1) (K30_pxrrlrllrl cal k m1) (doneK P results30)))
noncomputable def K30_prrlrllrllrl (cal : Cal) (k : Nat) (m1 : Nat) : KR := (cutK (Lv.a (Lv.b (Lv.a (Lv.a (Lv.b (Lv.a (Lv.a (Lv.b (Lv.a (Lv.b (Lv.b (A 30)))))))))))).c (codeE P cal (codeF P cal m1) none 30 (cR (cL (cR (cL (cL (cR (cL (cL (cR (cL (cR (cR code30)))))))))))) (Lv.b (Lv.a (Lv.b (Lv.a (Lv.a (Lv.b (Lv.a (Lv.a (Lv.b (Lv.a (Lv.b (Lv.b (A 30))))))))))))) (K30_prrlrllr cal k m1) (K30_pxrrlrllrl cal k m1) (doneK P results30)))
noncomputable def K30_prrr (cal : Cal) (k : Nat) : KR := (cutK (Lv.b (Lv.b (Lv.b (A 30)))).c (codeE P cal (codeF P cal k) none 30 (cR (cR (cR (cR code30)))) (Lv.b (Lv.b (Lv.b (Lv.b (A 30))))) (doneK P results30) X0 (doneK P results30)))
noncomputable def E30_1 (cal : Cal) (k m1 : Nat) : KR := codeE P cal (codeF P cal m1) none 30 (cL (cL (cR (cL (cR (cR code30)))))) (Lv.a (Lv.a (Lv.b (Lv.a (Lv.b (Lv.b (A 30))))))) (K30_prrlrl cal k m1) (K30_pxrrlr cal k) (doneK P results30)
noncomputable def R30_1 (cal : Cal) (k m1 : Nat) : V3 := fun u0 u1 u5 H n => codeF P cal m1 (Lv.a (Lv.b (Lv.a (Lv.b (Lv.b (A 30)))))) none 30 (cL (cR (cL (cR (cR code30))))) (K30_prr cal k) (K30_pxrrlr cal k) (doneK P results30) (Tr.set (Tr.set (Tr.set Tr.nil 5 (some u5)) 1 (some u1)) 0 (some u0)) H n []
noncomputable def B30_1 (cal : Cal) (k m1 : Nat) (b1 : V3) (u0 u1 u5 : Value) (H : Hp) (n : Nat) : Res :=
bindO (lenV P 44 u0) fun v_b =>
binK P .lss 3 (.tmp 11) (.tmp 13) u5 v_b fun v_c =>
ifK v_c (
bindO (indexAddrV P 44 u0 u5) fun v_f =>
bindO (addrV v_f) fun a_g => bindO (loadV P H 3 a_g) fun v_h =>
bindO (indexAddrV P 44 u1 u5) fun v_k =>
bindO (addrV v_k) fun a_l => bindO (loadV P H 3 a_l) fun v_m =>
binK P .neq 3 (.tmp 20) (.tmp 24) v_h v_m fun v_n =>
ifK v_n (
some ((.bool false), H, n)) (
binK P .add 3 (.tmp 15) (.const (.int .i64 1)) u5 (.int .i64 1) fun v_q =>
b1 u0 u1 v_q H n)) (
some ((.bool true), H, n))
noncomputable def C30_1 (cal : Cal) (k m1 : Nat) (b1 : V3) (u0 u1 u5 : Value) (H : Hp) (n : Nat) : Res := B30_1 cal k m1 b1 u0 u1 u5 H n
noncomputable def S30_1 (cal : Cal) (k : Nat) : Nat → V3 := fun m => Nat.rec (motive := fun _ => V3) (C30_1 cal k 0 (fun _ _ _ _ _ => none)) (fun m ih => C30_1 cal k (m + 1) ih) m
theorem h30_1 (cal : Cal) (k m1 : Nat) (u0 u1 u5 : Value) (H : Hp) (n : Nat) : labK (E30_1 cal k m1) (Tr.set (Tr.set (Tr.set Tr.nil 5 (some u5)) 1 (some u1)) 0 (some u0)) H n [] = C30_1 cal k m1 (R30_1 cal k m1) u0 u1 u5 H n := by
  refine Eq.trans (b := B30_1 cal k m1 (R30_1 cal k m1) u0 u1 u5 H n) (by kernel_rfl) ?_
  rw [C30_1]
theorem q30_1 (cal : Cal) (k : Nat) : ∀ (m : Nat) (u0 u1 u5 : Value) (H : Hp) (n : Nat), labK (E30_1 cal k m) (Tr.set (Tr.set (Tr.set Tr.nil 5 (some u5)) 1 (some u1)) 0 (some u0)) H n [] = S30_1 cal k m u0 u1 u5 H n
  | 0, u0, u1, u5, H, n => by
    rw [h30_1]
    have e : R30_1 cal k 0 = fun _ _ _ _ _ => none := by funext u0 u1 u5 H n; kernel_rfl
    rw [e]; rfl
  | m + 1, u0, u1, u5, H, n => by
    rw [h30_1]
    have e : R30_1 cal k (m + 1) = S30_1 cal k m := by
      funext u0 u1 u5 H n
      have e : R30_1 cal k (m + 1) u0 u1 u5 H n = labK (E30_1 cal k m) (Tr.set (Tr.set (Tr.set Tr.nil 5 (some u5)) 1 (some u1)) 0 (some u0)) H n [] := by kernel_rfl
      rw [e]; exact q30_1 ..
    rw [e]; rfl
noncomputable def B30_0 (cal : Cal) (k : Nat) (j1 : V3) (v0 v1 : Value) (H : Hp) (n : Nat) : Res :=
bindO (lenV P 44 v0) fun v_3 =>
bindO (lenV P 44 v1) fun v_5 =>
binK P .neq 3 (.tmp 7) (.tmp 9) v_3 v_5 fun v_6 =>
ifK v_6 (
some ((.bool false), H, n)) (
j1 v0 v1 (.int .i64 0) H n)
noncomputable def C30_0 (cal : Cal) (k : Nat) (v0 v1 : Value) (H : Hp) (n : Nat) : Res := B30_0 cal k (S30_1 cal k k) v0 v1 H n
theorem h30_0 (cal : Cal) (k : Nat) (v0 v1 : Value) (H : Hp) (n : Nat) : bodyE P cal A (k + 1) 30 [v0, v1] H n = C30_0 cal k v0 v1 H n := by
  have h : bodyE P cal A (k + 1) 30 [v0, v1] H n = B30_0 cal k (fun u0 u1 u5 H n => labK (E30_1 cal k k) (Tr.set (Tr.set (Tr.set Tr.nil 5 (some u5)) 1 (some u1)) 0 (some u0)) H n []) v0 v1 H n := by
    rw [body_eq (fn := Go.Proofs.Try.f30) (c := code30) (rs := results30) (by kernel_rfl) (by kernel_rfl) (by kernel_rfl) (by kernel_rfl)]
    kernel_rfl
  rw [h, C30_0]
  have e1 : (fun u0 u1 u5 H n => labK (E30_1 cal k k) (Tr.set (Tr.set (Tr.set Tr.nil 5 (some u5)) 1 (some u1)) 0 (some u0)) H n []) = (S30_1 cal k k) := by funext u0 u1 u5 H n; exact q30_1 ..
  rw [e1]
noncomputable def code32 : Code := codeOf 32
noncomputable def results32 : List ResultVar := resOf 32
noncomputable def K32_p (cal : Cal) (k : Nat) : KR := (cutK (A 32).c (codeE P cal (codeF P cal k) none 32 (cR code32) (Lv.b (A 32)) (doneK P results32) X0 (doneK P results32)))
noncomputable def K32_pr (cal : Cal) (k : Nat) : KR := (cutK (Lv.b (A 32)).c (codeE P cal (codeF P cal k) none 32 (cR (cR code32)) (Lv.b (Lv.b (A 32))) (doneK P results32) X0 (doneK P results32)))
noncomputable def B32_0 (cal : Cal) (k : Nat) (v0 v1 v2 : Value) (H : Hp) (n : Nat) : Res :=
binK P .geq 3 (.tmp 7) (.tmp 8) v0 v1 fun v_4 =>
guardK v_4 true (fun k_6 =>
k_6 v0 H n) H n fun v_7 H_8 n_9 =>
guardK v_4 true (fun k_b =>
k_b v2 H_8 n_9) H_8 n_9 fun v_c H_d n_e =>
guardK v_4 true (fun k_g =>
binK P .leq 3 (.tmp 11) (.tmp 12) v_7 v_c fun v_k =>
k_g v_k H_d n_e) H_d n_e fun v_h H_i n_j =>
bindO (pickV v_4 v_h (.bool false)) fun v_l =>
some (v_l, H_i, n_j)
noncomputable def C32_0 (cal : Cal) (k : Nat) (v0 v1 v2 : Value) (H : Hp) (n : Nat) : Res := B32_0 cal k v0 v1 v2 H n
theorem h32_0 (cal : Cal) (k : Nat) (v0 v1 v2 : Value) (H : Hp) (n : Nat) : bodyE P cal A (k + 1) 32 [v0, v1, v2] H n = C32_0 cal k v0 v1 v2 H n := by
  have h : bodyE P cal A (k + 1) 32 [v0, v1, v2] H n = B32_0 cal k v0 v1 v2 H n := by
    rw [body_eq (fn := Go.Proofs.Try.f32) (c := code32) (rs := results32) (by kernel_rfl) (by kernel_rfl) (by kernel_rfl) (by kernel_rfl)]
    kernel_rfl
  rw [h, C32_0]
noncomputable def code42 : Code := codeOf 42
noncomputable def results42 : List ResultVar := resOf 42
noncomputable def K42_p (cal : Cal) (k : Nat) : KR := (cutK (A 42).c (codeE P cal (codeF P cal k) none 42 (cR code42) (Lv.b (A 42)) (doneK P results42) X0 (doneK P results42)))
noncomputable def K42_pr (cal : Cal) (k : Nat) : KR := (cutK (Lv.b (A 42)).c (codeE P cal (codeF P cal k) none 42 (cR (cR code42)) (Lv.b (Lv.b (A 42))) (doneK P results42) X0 (doneK P results42)))
noncomputable def K42_prr (cal : Cal) (k : Nat) : KR := (cutK (Lv.b (Lv.b (A 42))).c (codeE P cal (codeF P cal k) none 42 (cR (cR (cR code42))) (Lv.b (Lv.b (Lv.b (A 42)))) (doneK P results42) X0 (doneK P results42)))
noncomputable def K42_prrl (cal : Cal) (k : Nat) : KR := (cutK (Lv.a (Lv.b (Lv.b (A 42)))).c (codeE P cal (codeF P cal k) none 42 (cR (cL (cR (cR code42)))) (Lv.b (Lv.a (Lv.b (Lv.b (A 42))))) (K42_prr cal k) X0 (doneK P results42)))
noncomputable def K42_prrlrl (cal : Cal) (k : Nat) : KR := (cutK (Lv.a (Lv.b (Lv.a (Lv.b (Lv.b (A 42)))))).c (codeE P cal (codeF P cal k) none 42 (cR (cL (cR (cL (cR (cR code42)))))) (Lv.b (Lv.a (Lv.b (Lv.a (Lv.b (Lv.b (A 42))))))) (K42_prr cal k) X0 (doneK P results42)))
noncomputable def K42_prrr (cal : Cal) (k : Nat) : KR := (cutK (Lv.b (Lv.b (Lv.b (A 42)))).c (codeE P cal (codeF P cal k) none 42 (cR (cR (cR (cR code42)))) (Lv.b (Lv.b (Lv.b (Lv.b (A 42))))) (doneK P results42) X0 (doneK P results42)))
noncomputable def K42_prrrr (cal : Cal) (k : Nat) : KR := (cutK (Lv.b (Lv.b (Lv.b (Lv.b (A 42))))).c (codeE P cal (codeF P cal k) none 42 (cR (cR (cR (cR (cR code42))))) (Lv.b (Lv.b (Lv.b (Lv.b (Lv.b (A 42)))))) (doneK P results42) X0 (doneK P results42)))
noncomputable def K42_prrrrl (cal : Cal) (k : Nat) : KR := (cutK (Lv.a (Lv.b (Lv.b (Lv.b (Lv.b (A 42)))))).c (codeE P cal (codeF P cal k) none 42 (cR (cL (cR (cR (cR (cR code42)))))) (Lv.b (Lv.a (Lv.b (Lv.b (Lv.b (Lv.b (A 42))))))) (K42_prrrr cal k) X0 (doneK P results42)))
noncomputable def K42_prrrrlrl (cal : Cal) (k : Nat) : KR := (cutK (Lv.a (Lv.b (Lv.a (Lv.b (Lv.b (Lv.b (Lv.b (A 42)))))))).c (codeE P cal (codeF P cal k) none 42 (cR (cL (cR (cL (cR (cR (cR (cR code42)))))))) (Lv.b (Lv.a (Lv.b (Lv.a (Lv.b (Lv.b (Lv.b (Lv.b (A 42))))))))) (K42_prrrr cal k) X0 (doneK P results42)))
noncomputable def K42_prrrrr (cal : Cal) (k : Nat) : KR := (cutK (Lv.b (Lv.b (Lv.b (Lv.b (Lv.b (A 42)))))).c (codeE P cal (codeF P cal k) none 42 (cR (cR (cR (cR (cR (cR code42)))))) (Lv.b (Lv.b (Lv.b (Lv.b (Lv.b (Lv.b (A 42))))))) (doneK P results42) X0 (doneK P results42)))
noncomputable def B42_0 (cal : Cal) (k : Nat) (v0 : Value) (H : Hp) (n : Nat) : Res :=
boxK 35 v0 H n fun v_1 H_2 n_3 =>
bindO (addrV v_1) fun a_8 => bindO (loadV P H_2 35 a_8) fun v_7 =>
callFK P cal 61 [v_7] H_2 n_3 fun v_9 H_a n_b =>
bindO (tupV v_9 0) fun v_d =>
bindO (tupV v_9 1) fun v_e =>
binK P .neq 29 (.tmp 13) (.const (.int .i64 0)) v_e (.int .i64 0) fun v_i =>
ifK v_i (
some ((Value.tuple ⟨[(.slice none 0 0), (.int .i64 0), v_e]⟩), H_a, n_b)) (
callFK P cal 81 [v_d] H_a n_b fun v_o H_p n_q =>
bindO (tupV v_o 0) fun v_s =>
bindO (tupV v_o 1) fun v_t =>
allocK P 121 H_p n_q fun v_u H_v n_w =>
bindO (storeP P 121 v_u v_s H_v) fun H_y =>
bindO (pureSem P v_t (Op.unary UnOp.not v_t)) fun v_11 =>
ifK v_11 (
some ((Value.tuple ⟨[(.slice none 0 0), (.int .i64 0), (.int .i64 10)]⟩), H_y, n_w)) (
bindO (nilV v_d) fun v_16 =>
bindO (fieldAddrV P 117 v_16 0) fun v_17 =>
bindO (fieldAddrV P 35 v_17 0) fun v_18 =>
bindO (addrV v_18) fun a_19 => bindO (loadV P H_y 31 a_19) fun v_1a =>
bindO (lenV P 31 v_1a) fun v_1b =>
bindO (sliceV P 121 v_u none (some v_1b)) fun v_1c =>
bindO (addrV v_u) fun a_1e => bindO (loadV P H_y 121 a_1e) fun v_1f =>
effK P [(.l 121 a_1e)] H_y n_w (fun H_1g n_1h k_1i =>
callFK P cal 76 [v_1c] H_1g n_1h fun v_1m H_1n n_1o =>
k_1i v_1m H_1n n_1o) fun v_1j H_1k n_1l =>
callFK P cal 82 [v_d, v_1f] H_1k n_1l fun v_1p H_1q n_1r =>
some ((Value.tuple ⟨[v_1j, v_1p, (.int .i64 0)]⟩), H_1q, n_1r)))
noncomputable def C42_0 (cal : Cal) (k : Nat) (v0 : Value) (H : Hp) (n : Nat) : Res := B42_0 cal k v0 H n
theorem h42_0 (cal : Cal) (k : Nat) (v0 : Value) (H : Hp) (n : Nat) : bodyE P cal A (k + 1) 42 [v0] H n = C42_0 cal k v0 H n := by
  have h : bodyE P cal A (k + 1) 42 [v0] H n = B42_0 cal k v0 H n := by
    rw [body_eq (fn := Go.Proofs.Try.f42) (c := code42) (rs := results42) (by kernel_rfl) (by kernel_rfl) (by kernel_rfl) (by kernel_rfl)]
    kernel_rfl
  rw [h, C42_0]
noncomputable def code48 : Code := codeOf 48
noncomputable def results48 : List ResultVar := resOf 48
noncomputable def K48_p (cal : Cal) (k : Nat) : KR := (cutK (A 48).c (codeE P cal (codeF P cal k) none 48 (cR code48) (Lv.b (A 48)) (doneK P results48) X0 (doneK P results48)))
noncomputable def K48_pr (cal : Cal) (k : Nat) : KR := (cutK (Lv.b (A 48)).c (codeE P cal (codeF P cal k) none 48 (cR (cR code48)) (Lv.b (Lv.b (A 48))) (doneK P results48) X0 (doneK P results48)))
noncomputable def K48_prr (cal : Cal) (k : Nat) : KR := (cutK (Lv.b (Lv.b (A 48))).c (codeE P cal (codeF P cal k) none 48 (cR (cR (cR code48))) (Lv.b (Lv.b (Lv.b (A 48)))) (doneK P results48) X0 (doneK P results48)))
noncomputable def K48_prrl (cal : Cal) (k : Nat) : KR := (cutK (Lv.a (Lv.b (Lv.b (A 48)))).c (codeE P cal (codeF P cal k) none 48 (cR (cL (cR (cR code48)))) (Lv.b (Lv.a (Lv.b (Lv.b (A 48))))) (K48_prr cal k) X0 (doneK P results48)))
noncomputable def K48_prrlrl (cal : Cal) (k : Nat) : KR := (cutK (Lv.a (Lv.b (Lv.a (Lv.b (Lv.b (A 48)))))).c (codeE P cal (codeF P cal k) none 48 (cR (cL (cR (cL (cR (cR code48)))))) (Lv.b (Lv.a (Lv.b (Lv.a (Lv.b (Lv.b (A 48))))))) (K48_prr cal k) X0 (doneK P results48)))
noncomputable def K48_prrr (cal : Cal) (k : Nat) : KR := (cutK (Lv.b (Lv.b (Lv.b (A 48)))).c (codeE P cal (codeF P cal k) none 48 (cR (cR (cR (cR code48)))) (Lv.b (Lv.b (Lv.b (Lv.b (A 48))))) (doneK P results48) X0 (doneK P results48)))
noncomputable def B48_0 (cal : Cal) (k : Nat) (v0 : Value) (H : Hp) (n : Nat) : Res :=
boxK 35 v0 H n fun v_1 H_2 n_3 =>
bindO (addrV v_1) fun a_7 => bindO (loadV P H_2 35 a_7) fun v_6 =>
callFK P cal 61 [v_6] H_2 n_3 fun v_8 H_9 n_a =>
bindO (tupV v_8 0) fun v_c =>
bindO (tupV v_8 1) fun v_d =>
binK P .neq 29 (.tmp 11) (.const (.int .i64 0)) v_d (.int .i64 0) fun v_h =>
ifK v_h (
some ((Value.tuple ⟨[(.slice none 0 0), v_d]⟩), H_9, n_a)) (
callFK P cal 85 [v_c] H_9 n_a fun v_m H_n n_o =>
some ((Value.tuple ⟨[v_m, (.int .i64 0)]⟩), H_n, n_o))
noncomputable def C48_0 (cal : Cal) (k : Nat) (v0 : Value) (H : Hp) (n : Nat) : Res := B48_0 cal k v0 H n
theorem h48_0 (cal : Cal) (k : Nat) (v0 : Value) (H : Hp) (n : Nat) : bodyE P cal A (k + 1) 48 [v0] H n = C48_0 cal k v0 H n := by
  have h : bodyE P cal A (k + 1) 48 [v0] H n = B48_0 cal k v0 H n := by
    rw [body_eq (fn := Go.Proofs.Try.f48) (c := code48) (rs := results48) (by kernel_rfl) (by kernel_rfl) (by kernel_rfl) (by kernel_rfl)]
    kernel_rfl
  rw [h, C48_0]
noncomputable def code54 : Code := codeOf 54
noncomputable def results54 : List ResultVar := resOf 54
noncomputable def K54_p (cal : Cal) (k : Nat) : KR := (cutK (A 54).c (codeE P cal (codeF P cal k) none 54 (cR code54) (Lv.b (A 54)) (doneK P results54) X0 (doneK P results54)))
noncomputable def K54_pr (cal : Cal) (k : Nat) : KR := (cutK (Lv.b (A 54)).c (codeE P cal (codeF P cal k) none 54 (cR (cR code54)) (Lv.b (Lv.b (A 54))) (doneK P results54) X0 (doneK P results54)))
noncomputable def B54_0 (cal : Cal) (k : Nat) (v0 v1 : Value) (H : Hp) (n : Nat) : Res :=
allocK P 53 H n fun v_1 H_2 n_3 =>
bindO (buildP P 53 [(0, v0), (1, v1)]) fun v_6 =>
bindO (storeP P 53 v_1 v_6 H_2) fun H_8 =>
bindO (resV P (Tr.set Tr.nil 4 (some v_1)) H_8 results54) fun v_9 => some (oneV v_9, H_8, n_3)
noncomputable def C54_0 (cal : Cal) (k : Nat) (v0 v1 : Value) (H : Hp) (n : Nat) : Res := B54_0 cal k v0 v1 H n
theorem h54_0 (cal : Cal) (k : Nat) (v0 v1 : Value) (H : Hp) (n : Nat) : bodyE P cal A (k + 1) 54 [v0, v1] H n = C54_0 cal k v0 v1 H n := by
  have h : bodyE P cal A (k + 1) 54 [v0, v1] H n = B54_0 cal k v0 v1 H n := by
    rw [body_eq (fn := Go.Proofs.Try.f54) (c := code54) (rs := results54) (by kernel_rfl) (by kernel_rfl) (by kernel_rfl) (by kernel_rfl)]
    kernel_rfl
  rw [h, C54_0]
noncomputable def code60 : Code := codeOf 60
noncomputable def results60 : List ResultVar := resOf 60
noncomputable def K60_p (cal : Cal) (k : Nat) : KR := (cutK (A 60).c (codeE P cal (codeF P cal k) none 60 (cR code60) (Lv.b (A 60)) (doneK P results60) X0 (doneK P results60)))
noncomputable def K60_pr (cal : Cal) (k : Nat) : KR := (cutK (Lv.b (A 60)).c (codeE P cal (codeF P cal k) none 60 (cR (cR code60)) (Lv.b (Lv.b (A 60))) (doneK P results60) X0 (doneK P results60)))
noncomputable def K60_pxrl (cal : Cal) (k : Nat) : XR := (upX 0 (K60_pr cal k) X0)
noncomputable def K60_prllrl (cal : Cal) (k : Nat) : KR := (cutK (Lv.a (Lv.b (Lv.a (Lv.a (Lv.b (A 60)))))).c (codeE P cal (codeF P cal k) none 60 (cR (cL (cR (cL (cL (cR code60)))))) (Lv.b (Lv.a (Lv.b (Lv.a (Lv.a (Lv.b (A 60))))))) (K60_pr cal k) (K60_pxrl cal k) (doneK P results60)))
noncomputable def K60_prllrrrl (cal : Cal) (k : Nat) : KR := (cutK (Lv.a (Lv.b (Lv.b (Lv.b (Lv.a (Lv.a (Lv.b (A 60)))))))).c (codeE P cal (codeF P cal k) none 60 (cR (cL (cR (cR (cR (cL (cL (cR code60)))))))) (Lv.b (Lv.a (Lv.b (Lv.b (Lv.b (Lv.a (Lv.a (Lv.b (A 60))))))))) (K60_pr cal k) (K60_pxrl cal k) (doneK P results60)))
noncomputable def K60_prllrrrrrl (cal : Cal) (k : Nat) : KR := (cutK (Lv.a (Lv.b (Lv.b (Lv.b (Lv.b (Lv.b (Lv.a (Lv.a (Lv.b (A 60)))))))))).c (codeE P cal (codeF P cal k) none 60 (cR (cL (cR (cR (cR (cR (cR (cL (cL (cR code60)))))))))) (Lv.b (Lv.a (Lv.b (Lv.b (Lv.b (Lv.b (Lv.b (Lv.a (Lv.a (Lv.b (A 60))))))))))) (K60_pr cal k) (K60_pxrl cal k) (doneK P results60)))
noncomputable def K60_prr (cal : Cal) (k : Nat) : KR := (cutK (Lv.b (Lv.b (A 60))).c (codeE P cal (codeF P cal k) none 60 (cR (cR (cR code60))) (Lv.b (Lv.b (Lv.b (A 60)))) (doneK P results60) X0 (doneK P results60)))
noncomputable def K60_prllrrrr (cal : Cal) (k : Nat) : KR := (cutK (Lv.b (Lv.b (Lv.b (Lv.b (Lv.a (Lv.a (Lv.b (A 60)))))))).c (codeE P cal (codeF P cal k) none 60 (cR (cR (cR (cR (cR (cL (cL (cR code60)))))))) (Lv.b (Lv.b (Lv.b (Lv.b (Lv.b (Lv.a (Lv.a (Lv.b (A 60))))))))) (K60_pr cal k) (K60_pxrl cal k) (doneK P results60)))
noncomputable def K60_prllrrrrl (cal : Cal) (k : Nat) : KR := (cutK (Lv.a (Lv.b (Lv.b (Lv.b (Lv.b (Lv.a (Lv.a (Lv.b (A 60))))))))).c (codeE P cal (codeF P cal k) none 60 (cR (cL (cR (cR (cR (cR (cL (cL (cR code60))))))))) (Lv.b (Lv.a (Lv.b (Lv.b (Lv.b (Lv.b (Lv.a (Lv.a (Lv.b (A 60)))))))))) (K60_prllrrrr cal k) (K60_pxrl cal k) (doneK P results60)))
noncomputable def K60_prllrrrrlrr (cal : Cal) (k : Nat) : KR := (cutK (Lv.b (Lv.b (Lv.a (Lv.b (Lv.b (Lv.b (Lv.b (Lv.a (Lv.a (Lv.b (A 60))))))))))).c (codeE P cal (codeF P cal k) none 60 (cR (cR (cR (cL (cR (cR (cR (cR (cL (cL (cR code60))))))))))) (Lv.b (Lv.b (Lv.b (Lv.a (Lv.b (Lv.b (Lv.b (Lv.b (Lv.a (Lv.a (Lv.b (A 60)))))))))))) (K60_prllrrrr cal k) (K60_pxrl cal k) (doneK P results60)))
noncomputable def K60_prllrr (cal : Cal) (k : Nat) : KR := (cutK (Lv.b (Lv.b (Lv.a (Lv.a (Lv.b (A 60)))))).c (codeE P cal (codeF P cal k) none 60 (cR (cR (cR (cL (cL (cR code60)))))) (Lv.b (Lv.b (Lv.b (Lv.a (Lv.a (Lv.b (A 60))))))) (K60_pr cal k) (K60_pxrl cal k) (doneK P results60)))
noncomputable def K60_prllrrl (cal : Cal) (k : Nat) : KR := (cutK (Lv.a (Lv.b (Lv.b (Lv.a (Lv.a (Lv.b (A 60))))))).c (codeE P cal (codeF P cal k) none 60 (cR (cL (cR (cR (cL (cL (cR code60))))))) (Lv.b (Lv.a (Lv.b (Lv.b (Lv.a (Lv.a (Lv.b (A 60)))))))) (K60_prllrr cal k) (K60_pxrl cal k) (doneK P results60)))
noncomputable def K60_prll (cal : Cal) (k : Nat) : KR := (cutK (Lv.a (Lv.a (Lv.b (A 60)))).c (codeE P cal (codeF P cal k) none 60 (cR (cL (cL (cR code60)))) (Lv.b (Lv.a (Lv.a (Lv.b (A 60))))) (K60_pr cal k) (K60_pxrl cal k) (doneK P results60)))
noncomputable def K60_prlll (cal : Cal) (k : Nat) : KR := (cutK (Lv.a (Lv.a (Lv.a (Lv.b (A 60))))).c (codeE P cal (codeF P cal k) none 60 (cR (cL (cL (cL (cR code60))))) (Lv.b (Lv.a (Lv.a (Lv.a (Lv.b (A 60)))))) (K60_prll cal k) (K60_pxrl cal k) (doneK P results60)))
noncomputable def K60_prlllrr (cal : Cal) (k : Nat) : KR := (cutK (Lv.b (Lv.b (Lv.a (Lv.a (Lv.a (Lv.b (A 60))))))).c (codeE P cal (codeF P cal k) none 60 (cR (cR (cR (cL (cL (cL (cR code60))))))) (Lv.b (Lv.b (Lv.b (Lv.a (Lv.a (Lv.a (Lv.b (A 60)))))))) (K60_prll cal k) (K60_pxrl cal k) (doneK P results60)))
noncomputable def E60_3 (cal : Cal) (k : Nat) : KR := codeE P cal (codeF P cal k) none 60 (cR (cR (cR (cR (cR (cL (cL (cR code60)))))))) (Lv.b (Lv.b (Lv.b (Lv.b (Lv.b (Lv.a (Lv.a (Lv.b (A 60))))))))) (K60_pr cal k) (K60_pxrl cal k) (doneK P results60)
noncomputable def E60_2 (cal : Cal) (k : Nat) : KR := codeE P cal (codeF P cal k) none 60 (cR (cR (cR (cL (cL (cR code60)))))) (Lv.b (Lv.b (Lv.b (Lv.a (Lv.a (Lv.b (A 60))))))) (K60_pr cal k) (K60_pxrl cal k) (doneK P results60)
noncomputable def E60_1 (cal : Cal) (k : Nat) : KR := codeE P cal (codeF P cal k) none 60 (cR (cL (cL (cR code60)))) (Lv.b (Lv.a (Lv.a (Lv.b (A 60))))) (K60_pr cal k) (K60_pxrl cal k) (doneK P results60)
noncomputable def B60_3 (cal : Cal) (k : Nat) (u25 : Value) (H : Hp) (n : Nat) : Res :=
ifK u25 (
some ((.int .i64 1), H, n)) (
some ((.int .i64 0), H, n))
noncomputable def C60_3 (cal : Cal) (k : Nat) (u25 : Value) (H : Hp) (n : Nat) : Res := B60_3 cal k u25 H n
theorem h60_3 (cal : Cal) (k : Nat) (u25 : Value) (H : Hp) (n : Nat) : labK (E60_3 cal k) (Tr.set Tr.nil 25 (some u25)) H n [] = C60_3 cal k u25 H n := by
  refine Eq.trans (b := B60_3 cal k u25 H n) (by kernel_rfl) ?_
  rw [C60_3]
noncomputable def B60_2 (cal : Cal) (k : Nat) (j3 : V1) (u1 u16 : Value) (H : Hp) (n : Nat) : Res :=
ifK u16 (
some ((.int .i64 1), H, n)) (
bindO (fieldAddrV P 35 u1 0) fun v_9 =>
bindO (addrV v_9) fun a_b => bindO (loadV P H 31 a_b) fun v_a =>
callFK P cal 91 [v_a, (Value.func (.func 92) #[] #[])] H n fun v_c H_d n_e =>
bindO (pureSem P v_c (Op.unary UnOp.not v_c)) fun v_f =>
ifK v_f (
j3 v_f H_d n_e) (
bindO (fieldAddrV P 35 u1 1) fun v_h =>
bindO (addrV v_h) fun a_j => bindO (loadV P H_d 32 a_j) fun v_i =>
bindO (addrV u1) fun a_l => bindO (loadV P H_d 35 a_l) fun v_k =>
callFK P cal 93 [v_i, (Value.func (Fn.func 94) ⟨[v_k]⟩ ⟨[]⟩)] H_d n_e fun v_n H_o n_p =>
bindO (pureSem P v_n (Op.unary UnOp.not v_n)) fun v_q =>
ifK v_q (
j3 v_q H_o n_p) (
bindO (fieldAddrV P 35 u1 2) fun v_s =>
bindO (addrV v_s) fun a_u => bindO (loadV P H_o 33 a_u) fun v_t =>
callFK P cal 95 [v_t, (Value.func (.func 96) #[] #[])] H_o n_p fun v_v H_w n_x =>
bindO (pureSem P v_v (Op.unary UnOp.not v_v)) fun v_y =>
j3 v_y H_w n_x)))
noncomputable def C60_2 (cal : Cal) (k : Nat) (u1 u16 : Value) (H : Hp) (n : Nat) : Res := B60_2 cal k (C60_3 cal k) u1 u16 H n
theorem h60_2 (cal : Cal) (k : Nat) (u1 u16 : Value) (H : Hp) (n : Nat) : labK (E60_2 cal k) (Tr.set (Tr.set Tr.nil 16 (some u16)) 1 (some u1)) H n [] = C60_2 cal k u1 u16 H n := by
  refine Eq.trans (b := B60_2 cal k (fun u25 H n => labK (E60_3 cal k) (Tr.set Tr.nil 25 (some u25)) H n []) u1 u16 H n) (by kernel_rfl) ?_
  rw [C60_2]
  have e3 : (fun u25 H n => labK (E60_3 cal k) (Tr.set Tr.nil 25 (some u25)) H n []) = (C60_3 cal k) := by funext u25 H n; exact h60_3 ..
  rw [e3]
noncomputable def B60_1 (cal : Cal) (k : Nat) (j2 : V2) (u1 u3 : Value) (H : Hp) (n : Nat) : Res :=
ifK u3 (
some ((.int .i64 3), H, n)) (
bindO (fieldAddrV P 35 u1 0) fun v_10 =>
bindO (addrV v_10) fun a_12 => bindO (loadV P H 31 a_12) fun v_11 =>
bindO (lenV P 31 v_11) fun v_13 =>
binK P .eql 3 (.tmp 19) (.const (.int .i64 0)) v_13 (.int .i64 0) fun v_14 =>
ifK v_14 (
j2 u1 v_14 H n) (
bindO (fieldAddrV P 35 u1 2) fun v_16 =>
bindO (addrV v_16) fun a_18 => bindO (loadV P H 33 a_18) fun v_17 =>
bindO (lenV P 33 v_17) fun v_19 =>
binK P .eql 3 (.tmp 23) (.const (.int .i64 0)) v_19 (.int .i64 0) fun v_1a =>
j2 u1 v_1a H n))
noncomputable def C60_1 (cal : Cal) (k : Nat) (u1 u3 : Value) (H : Hp) (n : Nat) : Res := B60_1 cal k (C60_2 cal k) u1 u3 H n
theorem h60_1 (cal : Cal) (k : Nat) (u1 u3 : Value) (H : Hp) (n : Nat) : labK (E60_1 cal k) (Tr.set (Tr.set Tr.nil 3 (some u3)) 1 (some u1)) H n [] = C60_1 cal k u1 u3 H n := by
  refine Eq.trans (b := B60_1 cal k (fun u1 u16 H n => labK (E60_2 cal k) (Tr.set (Tr.set Tr.nil 16 (some u16)) 1 (some u1)) H n []) u1 u3 H n) (by kernel_rfl) ?_
  rw [C60_1]
  have e2 : (fun u1 u16 H n => labK (E60_2 cal k) (Tr.set (Tr.set Tr.nil 16 (some u16)) 1 (some u1)) H n []) = (C60_2 cal k) := by funext u1 u16 H n; exact h60_2 ..
  rw [e2]
noncomputable def B60_0 (cal : Cal) (k : Nat) (j1 : V2) (v0 : Value) (H : Hp) (n : Nat) : Res :=
boxK 35 v0 H n fun v_1 H_2 n_3 =>
bindO (fieldAddrV P 35 v_1 0) fun v_1c =>
bindO (addrV v_1c) fun a_1e => bindO (loadV P H_2 31 a_1e) fun v_1d =>
bindO (lenV P 31 v_1d) fun v_1f =>
binK P .gtr 3 (.tmp 6) (.const (.int .i64 8)) v_1f (.int .i64 8) fun v_1g =>
ifK v_1g (
j1 v_1 v_1g H_2 n_3) (
bindO (fieldAddrV P 35 v_1 1) fun v_1i =>
bindO (addrV v_1i) fun a_1k => bindO (loadV P H_2 32 a_1k) fun v_1j =>
bindO (lenV P 32 v_1j) fun v_1l =>
binK P .gtr 3 (.tmp 10) (.const (.int .i64 16)) v_1l (.int .i64 16) fun v_1m =>
ifK v_1m (
j1 v_1 v_1m H_2 n_3) (
bindO (fieldAddrV P 35 v_1 2) fun v_1o =>
bindO (addrV v_1o) fun a_1q => bindO (loadV P H_2 33 a_1q) fun v_1p =>
bindO (lenV P 33 v_1p) fun v_1r =>
binK P .gtr 3 (.tmp 14) (.const (.int .i64 3)) v_1r (.int .i64 3) fun v_1s =>
j1 v_1 v_1s H_2 n_3))
noncomputable def C60_0 (cal : Cal) (k : Nat) (v0 : Value) (H : Hp) (n : Nat) : Res := B60_0 cal k (C60_1 cal k) v0 H n
theorem h60_0 (cal : Cal) (k : Nat) (v0 : Value) (H : Hp) (n : Nat) : bodyE P cal A (k + 1) 60 [v0] H n = C60_0 cal k v0 H n := by
  have h : bodyE P cal A (k + 1) 60 [v0] H n = B60_0 cal k (fun u1 u3 H n => labK (E60_1 cal k) (Tr.set (Tr.set Tr.nil 3 (some u3)) 1 (some u1)) H n []) v0 H n := by
    rw [body_eq (fn := Go.Proofs.Try.f60) (c := code60) (rs := results60) (by kernel_rfl) (by kernel_rfl) (by kernel_rfl) (by kernel_rfl)]
    kernel_rfl
  rw [h, C60_0]
  have e1 : (fun u1 u3 H n => labK (E60_1 cal k) (Tr.set (Tr.set Tr.nil 3 (some u3)) 1 (some u1)) H n []) = (C60_1 cal k) := by funext u1 u3 H n; exact h60_1 ..
  rw [e1]
noncomputable def code61 : Code := codeOf 61
noncomputable def results61 : List ResultVar := resOf 61
noncomputable def K61_p (cal : Cal) (k : Nat) : KR := (cutK (A 61).c (codeE P cal (codeF P cal k) none 61 (cR code61) (Lv.b (A 61)) (doneK P results61) X0 (doneK P results61)))
noncomputable def K61_pr (cal : Cal) (k : Nat) : KR := (cutK (Lv.b (A 61)).c (codeE P cal (codeF P cal k) none 61 (cR (cR code61)) (Lv.b (Lv.b (A 61))) (doneK P results61) X0 (doneK P results61)))
noncomputable def K61_prl (cal : Cal) (k : Nat) : KR := (cutK (Lv.a (Lv.b (A 61))).c (codeE P cal (codeF P cal k) none 61 (cR (cL (cR code61))) (Lv.b (Lv.a (Lv.b (A 61)))) (K61_pr cal k) X0 (doneK P results61)))
noncomputable def K61_prlr (cal : Cal) (k : Nat) : KR := (cutK (Lv.b (Lv.a (Lv.b (A 61)))).c (codeE P cal (codeF P cal k) none 61 (cR (cR (cL (cR code61)))) (Lv.b (Lv.b (Lv.a (Lv.b (A 61))))) (K61_pr cal k) X0 (doneK P results61)))
noncomputable def K61_prlrrl (cal : Cal) (k : Nat) : KR := (cutK (Lv.a (Lv.b (Lv.b (Lv.a (Lv.b (A 61)))))).c (codeE P cal (codeF P cal k) none 61 (cR (cL (cR (cR (cL (cR code61)))))) (Lv.b (Lv.a (Lv.b (Lv.b (Lv.a (Lv.b (A 61))))))) (K61_pr cal k) X0 (doneK P results61)))
noncomputable def K61_prr (cal : Cal) (k : Nat) : KR := (cutK (Lv.b (Lv.b (A 61))).c (codeE P cal (codeF P cal k) none 61 (cR (cR (cR code61))) (Lv.b (Lv.b (Lv.b (A 61)))) (doneK P results61) X0 (doneK P results61)))
noncomputable def K61_prrr (cal : Cal) (k : Nat) : KR := (cutK (Lv.b (Lv.b (Lv.b (A 61)))).c (codeE P cal (codeF P cal k) none 61 (cR (cR (cR (cR code61)))) (Lv.b (Lv.b (Lv.b (Lv.b (A 61))))) (doneK P results61) X0 (doneK P results61)))
noncomputable def K61_prrrl (cal : Cal) (k : Nat) : KR := (cutK (Lv.a (Lv.b (Lv.b (Lv.b (A 61))))).c (codeE P cal (codeF P cal k) none 61 (cR (cL (cR (cR (cR code61))))) (Lv.b (Lv.a (Lv.b (Lv.b (Lv.b (A 61)))))) (K61_prrr cal k) X0 (doneK P results61)))
noncomputable def K61_pxrrrlr (cal : Cal) (k : Nat) : XR := (upX 0 (K61_prrr cal k) X0)
noncomputable def K61_prrrlrl (cal : Cal) (k : Nat) (m1 : Nat) : KR := (fun T H n D => codeF P cal m1 (Lv.a (Lv.b (Lv.a (Lv.b (Lv.b (Lv.b (A 61))))))) none 61 (cL (cR (cL (cR (cR (cR code61)))))) (K61_prrr cal k) (K61_pxrrrlr cal k) (doneK P results61) (cutT (Lv.a (Lv.b (Lv.a (Lv.b (Lv.b (Lv.b (A 61))))))).c T) H n D)
noncomputable def K61_prrrlrll (cal : Cal) (k : Nat) (m1 : Nat) : KR := (cutK (Lv.a (Lv.a (Lv.b (Lv.a (Lv.b (Lv.b (Lv.b (A 61)))))))).c (codeE P cal (codeF P cal m1) none 61 (cR (cL (cL (cR (cL (cR (cR (cR code61)))))))) (Lv.b (Lv.a (Lv.a (Lv.b (Lv.a (Lv.b (Lv.b (Lv.b (A 61))))))))) (K61_prrrlrl cal k m1) (K61_pxrrrlr cal k) (doneK P results61)))
noncomputable def K61_prrrlrllr (cal : Cal) (k : Nat) (m1 : Nat) : KR := (cutK (Lv.b (Lv.a (Lv.a (Lv.b (Lv.a (Lv.b (Lv.b (Lv.b (A 61))))))))).c (codeE P cal (codeF P cal m1) none 61 (cR (cR (cL (cL (cR (cL (cR (cR (cR code61))))))))) (Lv.b (Lv.b (Lv.a (Lv.a (Lv.b (Lv.a (Lv.b (Lv.b (Lv.b (A 61)))))))))) (K61_prrrlrl cal k m1) (K61_pxrrrlr cal k) (doneK P results61)))
noncomputable def K61_prrrlrllrr (cal : Cal) (k : Nat) (m1 : Nat) : KR := (cutK (Lv.b (Lv.b (Lv.a (Lv.a (Lv.b (Lv.a (Lv.b (Lv.b (Lv.b (A 61)))))))))).c (codeE P cal (codeF P cal m1) none 61 (cR (cR (cR (cL (cL (cR (cL (cR (cR (cR code61)))))))))) (Lv.b (Lv.b (Lv.b (Lv.a (Lv.a (Lv.b (Lv.a (Lv.b (Lv.b (Lv.b (A 61))))))))))) (K61_prrrlrl cal k m1) (K61_pxrrrlr cal k) (doneK P results61)))
noncomputable def K61_pxrrrlrllrrl (cal : Cal) (k : Nat) (m1 : Nat) : XR := (upX 1 (K61_prrrlrllrr cal k m1) (K61_pxrrrlr cal k))
noncomputable def K61_prrrlrllrrll (cal : Cal) (k : Nat) (m1 : Nat) : KR := (cutK (Lv.a (Lv.a (Lv.b (Lv.b (Lv.a (Lv.a (Lv.b (Lv.a (Lv.b (Lv.b (Lv.b (A 61)))))))))))).c (codeE P cal (codeF P cal m1) none 61 (cR (cL (cL (cR (cR (cL (cL (cR (cL (cR (cR (cR code61)))))))))))) (Lv.b (Lv.a (Lv.a (Lv.b (Lv.b (Lv.a (Lv.a (Lv.b (Lv.a (Lv.b (Lv.b (Lv.b (A 61))))))))))))) (K61_prrrlrllrr cal k m1) (K61_pxrrrlrllrrl cal k m1) (doneK P results61)))
noncomputable def K61_prrrr (cal : Cal) (k : Nat) : KR := (cutK (Lv.b (Lv.b (Lv.b (Lv.b (A 61))))).c (codeE P cal (codeF P cal k) none 61 (cR (cR (cR (cR (cR code61))))) (Lv.b (Lv.b (Lv.b (Lv.b (Lv.b (A 61)))))) (doneK P results61) X0 (doneK P results61)))
noncomputable def K61_prrrrl (cal : Cal) (k : Nat) : KR := (cutK (Lv.a (Lv.b (Lv.b (Lv.b (Lv.b (A 61)))))).c (codeE P cal (codeF P cal k) none 61 (cR (cL (cR (cR (cR (cR code61)))))) (Lv.b (Lv.a (Lv.b (Lv.b (Lv.b (Lv.b (A 61))))))) (K61_prrrr cal k) X0 (doneK P results61)))
noncomputable def K61_pxrrrrlr (cal : Cal) (k : Nat) : XR := (upX 2 (K61_prrrr cal k) X0)
noncomputable def K61_prrrrlrl (cal : Cal) (k : Nat) (m1 : Nat) : KR := (fun T H n D => codeF P cal m1 (Lv.a (Lv.b (Lv.a (Lv.b (Lv.b (Lv.b (Lv.b (A 61)))))))) none 61 (cL (cR (cL (cR (cR (cR (cR code61))))))) (K61_prrrr cal k) (K61_pxrrrrlr cal k) (doneK P results61) (cutT (Lv.a (Lv.b (Lv.a (Lv.b (Lv.b (Lv.b (Lv.b (A 61)))))))).c T) H n D)
noncomputable def K61_prrrrlrll (cal : Cal) (k : Nat) (m1 : Nat) : KR := (cutK (Lv.a (Lv.a (Lv.b (Lv.a (Lv.b (Lv.b (Lv.b (Lv.b (A 61))))))))).c (codeE P cal (codeF P cal m1) none 61 (cR (cL (cL (cR (cL (cR (cR (cR (cR code61))))))))) (Lv.b (Lv.a (Lv.a (Lv.b (Lv.a (Lv.b (Lv.b (Lv.b (Lv.b (A 61)))))))))) (K61_prrrrlrl cal k m1) (K61_pxrrrrlr cal k) (doneK P results61)))
noncomputable def K61_prrrrlrllr (cal : Cal) (k : Nat) (m1 : Nat) : KR := (cutK (Lv.b (Lv.a (Lv.a (Lv.b (Lv.a (Lv.b (Lv.b (Lv.b (Lv.b (A 61)))))))))).c (codeE P cal (codeF P cal m1) none 61 (cR (cR (cL (cL (cR (cL (cR (cR (cR (cR code61)))))))))) (Lv.b (Lv.b (Lv.a (Lv.a (Lv.b (Lv.a (Lv.b (Lv.b (Lv.b (Lv.b (A 61))))))))))) (K61_prrrrlrl cal k m1) (K61_pxrrrrlr cal k) (doneK P results61)))
noncomputable def K61_prrrrlrllrr (cal : Cal) (k : Nat) (m1 : Nat) : KR := (cutK (Lv.b (Lv.b (Lv.a (Lv.a (Lv.b (Lv.a (Lv.b (Lv.b (Lv.b (Lv.b (A 61))))))))))).c (codeE P cal (codeF P cal m1) none 61 (cR (cR (cR (cL (cL (cR (cL (cR (cR (cR (cR code61))))))))))) (Lv.b (Lv.b (Lv.b (Lv.a (Lv.a (Lv.b (Lv.a (Lv.b (Lv.b (Lv.b (Lv.b (A 61)))))))))))) (K61_prrrrlrl cal k m1) (K61_pxrrrrlr cal k) (doneK P results61)))
noncomputable def K61_pxrrrrlrllrrl (cal : Cal) (k : Nat) (m1 : Nat) : XR := (upX 3 (K61_prrrrlrllrr cal k m1) (K61_pxrrrrlr cal k))
noncomputable def K61_prrrrlrllrrll (cal : Cal) (k : Nat) (m1 : Nat) : KR := (cutK (Lv.a (Lv.a (Lv.b (Lv.b (Lv.a (Lv.a (Lv.b (Lv.a (Lv.b (Lv.b (Lv.b (Lv.b (A 61))))))))))))).c (codeE P cal (codeF P cal m1) none 61 (cR (cL (cL (cR (cR (cL (cL (cR (cL (cR (cR (cR (cR code61))))))))))))) (Lv.b (Lv.a (Lv.a (Lv.b (Lv.b (Lv.a (Lv.a (Lv.b (Lv.a (Lv.b (Lv.b (Lv.b (Lv.b (A 61)))))))))))))) (K61_prrrrlrllrr cal k m1) (K61_pxrrrrlrllrrl cal k m1) (doneK P results61)))
noncomputable def K61_prrrrlrllrrllr (cal : Cal) (k : Nat) (m1 : Nat) : KR := (cutK (Lv.b (Lv.a (Lv.a (Lv.b (Lv.b (Lv.a (Lv.a (Lv.b (Lv.a (Lv.b (Lv.b (Lv.b (Lv.b (A 61)))))))))))))).c (codeE P cal (codeF P cal m1) none 61 (cR (cR (cL (cL (cR (cR (cL (cL (cR (cL (cR (cR (cR (cR code61)))))))))))))) (Lv.b (Lv.b (Lv.a (Lv.a (Lv.b (Lv.b (Lv.a (Lv.a (Lv.b (Lv.a (Lv.b (Lv.b (Lv.b (Lv.b (A 61))))))))))))))) (K61_prrrrlrllrr cal k m1) (K61_pxrrrrlrllrrl cal k m1) (doneK P results61)))
noncomputable def K61_pxrrrrlrllrrllrr (cal : Cal) (k : Nat) (m1 : Nat) : XR := (upX 4 (K61_prrrrlrllrr cal k m1) (K61_pxrrrrlrllrrl cal k m1))
noncomputable def K61_prrrrlrllrrllrrl (cal : Cal) (k : Nat) (m1 : Nat) (m2 : Nat) : KR := (fun T H n D => codeF P cal m2 (Lv.a (Lv.b (Lv.b (Lv.a (Lv.a (Lv.b (Lv.b (Lv.a (Lv.a (Lv.b (Lv.a (Lv.b (Lv.b (Lv.b (Lv.b (A 61)))))))))))))))) none 61 (cL (cR (cR (cL (cL (cR (cR (cL (cL (cR (cL (cR (cR (cR (cR code61))))))))))))))) (K61_prrrrlrllrr cal k m1) (K61_pxrrrrlrllrrllrr cal k m1) (doneK P results61) (cutT (Lv.a (Lv.b (Lv.b (Lv.a (Lv.a (Lv.b (Lv.b (Lv.a (Lv.a (Lv.b (Lv.a (Lv.b (Lv.b (Lv.b (Lv.b (A 61)))))))))))))))).c T) H n D)
noncomputable def K61_prrrrlrllrrllrrll (cal : Cal) (k : Nat) (m1 : Nat) (m2 : Nat) : KR := (cutK (Lv.a (Lv.a (Lv.b (Lv.b (Lv.a (Lv.a (Lv.b (Lv.b (Lv.a (Lv.a (Lv.b (Lv.a (Lv.b (Lv.b (Lv.b (Lv.b (A 61))))))))))))))))).c (codeE P cal (codeF P cal m2) none 61 (cR (cL (cL (cR (cR (cL (cL (cR (cR (cL (cL (cR (cL (cR (cR (cR (cR code61))))))))))))))))) (Lv.b (Lv.a (Lv.a (Lv.b (Lv.b (Lv.a (Lv.a (Lv.b (Lv.b (Lv.a (Lv.a (Lv.b (Lv.a (Lv.b (Lv.b (Lv.b (Lv.b (A 61)))))))))))))))))) (K61_prrrrlrllrrllrrl cal k m1 m2) (K61_pxrrrrlrllrrllrr cal k m1) (doneK P results61)))
noncomputable def K61_prrrrlrllrrllrrllr (cal : Cal) (k : Nat) (m1 : Nat) (m2 : Nat) : KR := (cutK (Lv.b (Lv.a (Lv.a (Lv.b (Lv.b (Lv.a (Lv.a (Lv.b (Lv.b (Lv.a (Lv.a (Lv.b (Lv.a (Lv.b (Lv.b (Lv.b (Lv.b (A 61)))))))))))))))))).c (codeE P cal (codeF P cal m2) none 61 (cR (cR (cL (cL (cR (cR (cL (cL (cR (cR (cL (cL (cR (cL (cR (cR (cR (cR code61)))))))))))))))))) (Lv.b (Lv.b (Lv.a (Lv.a (Lv.b (Lv.b (Lv.a (Lv.a (Lv.b (Lv.b (Lv.a (Lv.a (Lv.b (Lv.a (Lv.b (Lv.b (Lv.b (Lv.b (A 61))))))))))))))))))) (K61_prrrrlrllrrllrrl cal k m1 m2) (K61_pxrrrrlrllrrllrr cal k m1) (doneK P results61)))
noncomputable def K61_prrrrlrllrrllrrllrr (cal : Cal) (k : Nat) (m1 : Nat) (m2 : Nat) : KR := (cutK (Lv.b (Lv.b (Lv.a (Lv.a (Lv.b (Lv.b (Lv.a (Lv.a (Lv.b (Lv.b (Lv.a (Lv.a (Lv.b (Lv.a (Lv.b (Lv.b (Lv.b (Lv.b (A 61))))))))))))))))))).c (codeE P cal (codeF P cal m2) none 61 (cR (cR (cR (cL (cL (cR (cR (cL (cL (cR (cR (cL (cL (cR (cL (cR (cR (cR (cR code61))))))))))))))))))) (Lv.b (Lv.b (Lv.b (Lv.a (Lv.a (Lv.b (Lv.b (Lv.a (Lv.a (Lv.b (Lv.b (Lv.a (Lv.a (Lv.b (Lv.a (Lv.b (Lv.b (Lv.b (Lv.b (A 61)))))))))))))))))))) (K61_prrrrlrllrrllrrl cal k m1 m2) (K61_pxrrrrlrllrrllrr cal k m1) (doneK P results61)))
noncomputable def K61_pxrrrrlrllrrllrrllrrl (cal : Cal) (k : Nat) (m1 : Nat) (m2 : Nat) : XR := (upX 5 (K61_prrrrlrllrrllrrllrr cal k m1 m2) (K61_pxrrrrlrllrrllrr cal k m1))
noncomputable def K61_prrrrlrllrrllrrllrrll (cal : Cal) (k : Nat) (m1 : Nat) (m2 : Nat) : KR := (cutK (Lv.a (Lv.a (Lv.b (Lv.b (Lv.a (Lv.a (Lv.b (Lv.b (Lv.a (Lv.a (Lv.b (Lv.b (Lv.a (Lv.a (Lv.b (Lv.a (Lv.b (Lv.b (Lv.b (Lv.b (A 61))))))))))))))))))))).c (codeE P cal (codeF P cal m2) none 61 (cR (cL (cL (cR (cR (cL (cL (cR (cR (cL (cL (cR (cR (cL (cL (cR (cL (cR (cR (cR (cR code61))))))))))))))))))))) (Lv.b (Lv.a (Lv.a (Lv.b (Lv.b (Lv.a (Lv.a (Lv.b (Lv.b (Lv.a (Lv.a (Lv.b (Lv.b (Lv.a (Lv.a (Lv.b (Lv.a (Lv.b (Lv.b (Lv.b (Lv.b (A 61)))))))))))))))))))))) (K61_prrrrlrllrrllrrllrr cal k m1 m2) (K61_pxrrrrlrllrrllrrllrrl cal k m1 m2) (doneK P results61)))
noncomputable def K61_prrrrr (cal : Cal) (k : Nat) : KR := (cutK (Lv.b (Lv.b (Lv.b (Lv.b (Lv.b (A 61)))))).c (codeE P cal (codeF P cal k) none 61 (cR (cR (cR (cR (cR (cR code61)))))) (Lv.b (Lv.b (Lv.b (Lv.b (Lv.b (Lv.b (A 61))))))) (doneK P results61) X0 (doneK P results61)))
noncomputable def E61_3 (cal : Cal) (k m1 m2 : Nat) : KR := codeE P cal (codeF P cal m2) none 61 (cL (cL (cR (cR (cL (cL (cR (cR (cL (cL (cR (cL (cR (cR (cR (cR code61)))))))))))))))) (Lv.a (Lv.a (Lv.b (Lv.b (Lv.a (Lv.a (Lv.b (Lv.b (Lv.a (Lv.a (Lv.b (Lv.a (Lv.b (Lv.b (Lv.b (Lv.b (A 61))))))))))))))))) (K61_prrrrlrllrrllrrl cal k m1 m2) (K61_pxrrrrlrllrrllrr cal k m1) (doneK P results61)
noncomputable def R61_3 (cal : Cal) (k m1 m2 : Nat) : V7 := fun u5 u8 u53 u54 u61 u62 u63 H n => codeF P cal m2 (Lv.a (Lv.b (Lv.b (Lv.a (Lv.a (Lv.b (Lv.b (Lv.a (Lv.a (Lv.b (Lv.a (Lv.b (Lv.b (Lv.b (Lv.b (A 61)))))))))))))))) none 61 (cL (cR (cR (cL (cL (cR (cR (cL (cL (cR (cL (cR (cR (cR (cR code61))))))))))))))) (K61_prrrrlrllrr cal k m1) (K61_pxrrrrlrllrrllrr cal k m1) (doneK P results61) (Tr.set (Tr.set (Tr.set (Tr.set (Tr.set (Tr.set (Tr.set Tr.nil 63 (some u63)) 62 (some u62)) 61 (some u61)) 54 (some u54)) 53 (some u53)) 8 (some u8)) 5 (some u5)) H n []
noncomputable def E61_2 (cal : Cal) (k m1 : Nat) : KR := codeE P cal (codeF P cal m1) none 61 (cL (cL (cR (cL (cR (cR (cR (cR code61)))))))) (Lv.a (Lv.a (Lv.b (Lv.a (Lv.b (Lv.b (Lv.b (Lv.b (A 61))))))))) (K61_prrrrlrl cal k m1) (K61_pxrrrrlr cal k) (doneK P results61)
noncomputable def R61_2 (cal : Cal) (k m1 : Nat) : V3 := fun u5 u53 u54 H n => codeF P cal m1 (Lv.a (Lv.b (Lv.a (Lv.b (Lv.b (Lv.b (Lv.b (A 61)))))))) none 61 (cL (cR (cL (cR (cR (cR (cR code61))))))) (K61_prrrr cal k) (K61_pxrrrrlr cal k) (doneK P results61) (Tr.set (Tr.set (Tr.set Tr.nil 54 (some u54)) 53 (some u53)) 5 (some u5)) H n []
noncomputable def E61_1 (cal : Cal) (k m1 : Nat) : KR := codeE P cal (codeF P cal m1) none 61 (cL (cL (cR (cL (cR (cR (cR code61))))))) (Lv.a (Lv.a (Lv.b (Lv.a (Lv.b (Lv.b (Lv.b (A 61)))))))) (K61_prrrlrl cal k m1) (K61_pxrrrlr cal k) (doneK P results61)
noncomputable def R61_1 (cal : Cal) (k m1 : Nat) : V4 := fun u5 u23 u24 u25 H n => codeF P cal m1 (Lv.a (Lv.b (Lv.a (Lv.b (Lv.b (Lv.b (A 61))))))) none 61 (cL (cR (cL (cR (cR (cR code61)))))) (K61_prrr cal k) (K61_pxrrrlr cal k) (doneK P results61) (Tr.set (Tr.set (Tr.set (Tr.set Tr.nil 25 (some u25)) 24 (some u24)) 23 (some u23)) 5 (some u5)) H n []
noncomputable def B61_3 (cal : Cal) (k m1 m2 : Nat) (b2 : V3) (b3 : V7) (u5 u8 u53 u54 u61 u62 u63 : Value) (H : Hp) (n : Nat) : Res :=
binK P .lss 3 (.tmp 63) (.tmp 62) u63 u62 fun v_2m =>
ifK v_2m (
bindO (indexAddrV P 33 u61 u63) fun v_2o =>
bindO (addrV v_2o) fun a_2q => bindO (loadV P H 86 a_2q) fun v_2p =>
allocK P 86 H n fun v_2r H_2s n_2t =>
bindO (storeP P 86 v_2r v_2p H_2s) fun H_2w =>
bindO (addrV v_2r) fun a_32 => bindO (loadV P H_2w 86 a_32) fun v_33 =>
bindO (nilV u5) fun v_34 =>
bindO (fieldAddrV P 117 v_34 2) fun v_35 =>
bindO (indexAddrV P 115 v_35 u8) fun v_36 =>
callFK P cal 97 [u5, u8, v_33] H_2w n_2t fun v_37 H_38 n_39 =>
bindO (indexAddrV P 114 v_36 u63) fun v_3a =>
bindO (storeP P 113 v_3a v_37 H_38) fun H_3c =>
binK P .add 3 (.tmp 63) (.const (.int .i64 1)) u63 (.int .i64 1) fun v_3d =>
b3 u5 u8 u53 u54 u61 u62 v_3d H_3c n_39) (
binK P .add 3 (.tmp 54) (.const (.int .i64 1)) u54 (.int .i64 1) fun v_3f =>
b2 u5 u53 v_3f H n)
noncomputable def C61_3 (cal : Cal) (k m1 m2 : Nat) (b2 : V3) (b3 : V7) (u5 u8 u53 u54 u61 u62 u63 : Value) (H : Hp) (n : Nat) : Res := B61_3 cal k m1 m2 b2 b3 u5 u8 u53 u54 u61 u62 u63 H n
noncomputable def S61_3 (cal : Cal) (k m1 : Nat) (b2 : V3) : Nat → V7 := fun m => Nat.rec (motive := fun _ => V7) (C61_3 cal k m1 0 b2 (fun _ _ _ _ _ _ _ _ _ => none)) (fun m ih => C61_3 cal k m1 (m + 1) b2 ih) m
theorem h61_3 (cal : Cal) (k m1 m2 : Nat) (u5 u8 u53 u54 u61 u62 u63 : Value) (H : Hp) (n : Nat) : labK (E61_3 cal k m1 m2) (Tr.set (Tr.set (Tr.set (Tr.set (Tr.set (Tr.set (Tr.set Tr.nil 63 (some u63)) 62 (some u62)) 61 (some u61)) 54 (some u54)) 53 (some u53)) 8 (some u8)) 5 (some u5)) H n [] = C61_3 cal k m1 m2 (R61_2 cal k m1) (R61_3 cal k m1 m2) u5 u8 u53 u54 u61 u62 u63 H n := by
  refine Eq.trans (b := B61_3 cal k m1 m2 (R61_2 cal k m1) (R61_3 cal k m1 m2) u5 u8 u53 u54 u61 u62 u63 H n) (by kernel_rfl) ?_
  rw [C61_3]
theorem q61_3 (cal : Cal) (k m1 : Nat) : ∀ (m : Nat) (u5 u8 u53 u54 u61 u62 u63 : Value) (H : Hp) (n : Nat), labK (E61_3 cal k m1 m) (Tr.set (Tr.set (Tr.set (Tr.set (Tr.set (Tr.set (Tr.set Tr.nil 63 (some u63)) 62 (some u62)) 61 (some u61)) 54 (some u54)) 53 (some u53)) 8 (some u8)) 5 (some u5)) H n [] = S61_3 cal k m1 (R61_2 cal k m1) m u5 u8 u53 u54 u61 u62 u63 H n
  | 0, u5, u8, u53, u54, u61, u62, u63, H, n => by
    rw [h61_3]
    have e : R61_3 cal k m1 0 = fun _ _ _ _ _ _ _ _ _ => none := by funext u5 u8 u53 u54 u61 u62 u63 H n; kernel_rfl
    rw [e]; rfl
  | m + 1, u5, u8, u53, u54, u61, u62, u63, H, n => by
    rw [h61_3]
    have e : R61_3 cal k m1 (m + 1) = S61_3 cal k m1 (R61_2 cal k m1) m := by
      funext u5 u8 u53 u54 u61 u62 u63 H n
      have e : R61_3 cal k m1 (m + 1) u5 u8 u53 u54 u61 u62 u63 H n = labK (E61_3 cal k m1 m) (Tr.set (Tr.set (Tr.set (Tr.set (Tr.set (Tr.set (Tr.set Tr.nil 63 (some u63)) 62 (some u62)) 61 (some u61)) 54 (some u54)) 53 (some u53)) 8 (some u8)) 5 (some u5)) H n [] := by kernel_rfl
      rw [e]; exact q61_3 ..
    rw [e]; rfl
noncomputable def B61_2 (cal : Cal) (k m1 : Nat) (j3 : V7) (b2 : V3) (u5 u53 u54 : Value) (H : Hp) (n : Nat) : Res :=
binK P .lss 3 (.tmp 54) (.tmp 53) u54 u53 fun v_2b =>
ifK v_2b (
bindO (nilV u5) fun v_2f =>
bindO (fieldAddrV P 117 v_2f 0) fun v_2g =>
bindO (fieldAddrV P 35 v_2g 2) fun v_2h =>
bindO (addrV v_2h) fun a_2j => bindO (loadV P H 33 a_2j) fun v_2i =>
bindO (lenV P 33 v_2i) fun v_2k =>
j3 u5 u54 u53 u54 v_2i v_2k (.int .i64 0) H n) (
some ((Value.tuple ⟨[u5, (.int .i64 0)]⟩), H, n))
noncomputable def C61_2 (cal : Cal) (k m1 : Nat) (b2 : V3) (u5 u53 u54 : Value) (H : Hp) (n : Nat) : Res := B61_2 cal k m1 (S61_3 cal k m1 b2 m1) b2 u5 u53 u54 H n
noncomputable def S61_2 (cal : Cal) (k : Nat) : Nat → V3 := fun m => Nat.rec (motive := fun _ => V3) (C61_2 cal k 0 (fun _ _ _ _ _ => none)) (fun m ih => C61_2 cal k (m + 1) ih) m
theorem h61_2 (cal : Cal) (k m1 : Nat) (u5 u53 u54 : Value) (H : Hp) (n : Nat) : labK (E61_2 cal k m1) (Tr.set (Tr.set (Tr.set Tr.nil 54 (some u54)) 53 (some u53)) 5 (some u5)) H n [] = C61_2 cal k m1 (R61_2 cal k m1) u5 u53 u54 H n := by
  refine Eq.trans (b := B61_2 cal k m1 (fun u5 u8 u53 u54 u61 u62 u63 H n => labK (E61_3 cal k m1 m1) (Tr.set (Tr.set (Tr.set (Tr.set (Tr.set (Tr.set (Tr.set Tr.nil 63 (some u63)) 62 (some u62)) 61 (some u61)) 54 (some u54)) 53 (some u53)) 8 (some u8)) 5 (some u5)) H n []) (R61_2 cal k m1) u5 u53 u54 H n) (by kernel_rfl) ?_
  rw [C61_2]
  have e3 : (fun u5 u8 u53 u54 u61 u62 u63 H n => labK (E61_3 cal k m1 m1) (Tr.set (Tr.set (Tr.set (Tr.set (Tr.set (Tr.set (Tr.set Tr.nil 63 (some u63)) 62 (some u62)) 61 (some u61)) 54 (some u54)) 53 (some u53)) 8 (some u8)) 5 (some u5)) H n []) = (S61_3 cal k m1 (R61_2 cal k m1) m1) := by funext u5 u8 u53 u54 u61 u62 u63 H n; exact q61_3 ..
  rw [e3]
theorem q61_2 (cal : Cal) (k : Nat) : ∀ (m : Nat) (u5 u53 u54 : Value) (H : Hp) (n : Nat), labK (E61_2 cal k m) (Tr.set (Tr.set (Tr.set Tr.nil 54 (some u54)) 53 (some u53)) 5 (some u5)) H n [] = S61_2 cal k m u5 u53 u54 H n
  | 0, u5, u53, u54, H, n => by
    rw [h61_2]
    have e : R61_2 cal k 0 = fun _ _ _ _ _ => none := by funext u5 u53 u54 H n; kernel_rfl
    rw [e]; rfl
  | m + 1, u5, u53, u54, H, n => by
    rw [h61_2]
    have e : R61_2 cal k (m + 1) = S61_2 cal k m := by
      funext u5 u53 u54 H n
      have e : R61_2 cal k (m + 1) u5 u53 u54 H n = labK (E61_2 cal k m) (Tr.set (Tr.set (Tr.set Tr.nil 54 (some u54)) 53 (some u53)) 5 (some u5)) H n [] := by kernel_rfl
      rw [e]; exact q61_2 ..
    rw [e]; rfl
noncomputable def B61_1 (cal : Cal) (k m1 : Nat) (j2 : V3) (b1 : V4) (u5 u23 u24 u25 : Value) (H : Hp) (n : Nat) : Res :=
binK P .lss 3 (.tmp 25) (.tmp 24) u25 u24 fun v_w =>
ifK v_w (
bindO (indexAddrV P 32 u23 u25) fun v_x =>
bindO (addrV v_x) fun a_z => bindO (loadV P H 88 a_z) fun v_y =>
allocK P 88 H n fun v_10 H_11 n_12 =>
bindO (storeP P 88 v_10 v_y H_11) fun H_14 =>
bindO (fieldAddrV P 88 v_10 0) fun v_16 =>
bindO (addrV v_16) fun a_17 => bindO (loadV P H_14 3 a_17) fun v_18 =>
bindO (fieldAddrV P 88 v_10 1) fun v_19 =>
bindO (addrV v_19) fun a_1a => bindO (loadV P H_14 3 a_1a) fun v_1b =>
bindO (fieldAddrV P 88 v_10 1) fun v_1d =>
bindO (addrV v_1d) fun a_1e => bindO (loadV P H_14 3 a_1e) fun v_1f =>
bindO (fieldAddrV P 88 v_10 0) fun v_1g =>
bindO (addrV v_1g) fun a_1h => bindO (loadV P H_14 3 a_1h) fun v_1i =>
bindO (nilV u5) fun v_1j =>
bindO (fieldAddrV P 117 v_1j 1) fun v_1k =>
bindO (indexAddrV P 109 v_1k v_18) fun v_1l =>
bindO (indexAddrV P 108 v_1l v_1b) fun v_1m =>
bindO (nilV u5) fun v_1n =>
bindO (fieldAddrV P 117 v_1n 1) fun v_1o =>
bindO (indexAddrV P 109 v_1o v_1f) fun v_1p =>
effK P [(.l 3 a_1h), (.l 3 a_1e)] H_14 n_12 (fun H_1q n_1r k_1s =>
bindO (storeP P 4 v_1m (.bool true) H_1q) fun H_1x =>
k_1s undef H_1x n_1r) fun v_1t H_1u n_1v =>
bindO (indexAddrV P 108 v_1p v_1i) fun v_1y =>
bindO (storeP P 4 v_1y (.bool true) H_1u) fun H_20 =>
binK P .add 3 (.tmp 25) (.const (.int .i64 1)) u25 (.int .i64 1) fun v_21 =>
b1 u5 u23 u24 v_21 H_20 n_1v) (
bindO (nilV u5) fun v_24 =>
bindO (fieldAddrV P 117 v_24 0) fun v_25 =>
bindO (fieldAddrV P 35 v_25 0) fun v_26 =>
bindO (addrV v_26) fun a_28 => bindO (loadV P H 31 a_28) fun v_27 =>
bindO (lenV P 31 v_27) fun v_29 =>
j2 u5 v_29 (.int .i64 0) H n)
noncomputable def C61_1 (cal : Cal) (k m1 : Nat) (b1 : V4) (u5 u23 u24 u25 : Value) (H : Hp) (n : Nat) : Res := B61_1 cal k m1 (S61_2 cal k k) b1 u5 u23 u24 u25 H n
noncomputable def S61_1 (cal : Cal) (k : Nat) : Nat → V4 := fun m => Nat.rec (motive := fun _ => V4) (C61_1 cal k 0 (fun _ _ _ _ _ _ => none)) (fun m ih => C61_1 cal k (m + 1) ih) m
theorem h61_1 (cal : Cal) (k m1 : Nat) (u5 u23 u24 u25 : Value) (H : Hp) (n : Nat) : labK (E61_1 cal k m1) (Tr.set (Tr.set (Tr.set (Tr.set Tr.nil 25 (some u25)) 24 (some u24)) 23 (some u23)) 5 (some u5)) H n [] = C61_1 cal k m1 (R61_1 cal k m1) u5 u23 u24 u25 H n := by
  refine Eq.trans (b := B61_1 cal k m1 (fun u5 u53 u54 H n => labK (E61_2 cal k k) (Tr.set (Tr.set (Tr.set Tr.nil 54 (some u54)) 53 (some u53)) 5 (some u5)) H n []) (R61_1 cal k m1) u5 u23 u24 u25 H n) (by kernel_rfl) ?_
  rw [C61_1]
  have e2 : (fun u5 u53 u54 H n => labK (E61_2 cal k k) (Tr.set (Tr.set (Tr.set Tr.nil 54 (some u54)) 53 (some u53)) 5 (some u5)) H n []) = (S61_2 cal k k) := by funext u5 u53 u54 H n; exact q61_2 ..
  rw [e2]
theorem q61_1 (cal : Cal) (k : Nat) : ∀ (m : Nat) (u5 u23 u24 u25 : Value) (H : Hp) (n : Nat), labK (E61_1 cal k m) (Tr.set (Tr.set (Tr.set (Tr.set Tr.nil 25 (some u25)) 24 (some u24)) 23 (some u23)) 5 (some u5)) H n [] = S61_1 cal k m u5 u23 u24 u25 H n
  | 0, u5, u23, u24, u25, H, n => by
    rw [h61_1]
    have e : R61_1 cal k 0 = fun _ _ _ _ _ _ => none := by funext u5 u23 u24 u25 H n; kernel_rfl
    rw [e]; rfl
  | m + 1, u5, u23, u24, u25, H, n => by
    rw [h61_1]
    have e : R61_1 cal k (m + 1) = S61_1 cal k m := by
      funext u5 u23 u24 u25 H n
      have e : R61_1 cal k (m + 1) u5 u23 u24 u25 H n = labK (E61_1 cal k m) (Tr.set (Tr.set (Tr.set (Tr.set Tr.nil 25 (some u25)) 24 (some u24)) 23 (some u23)) 5 (some u5)) H n [] := by kernel_rfl
      rw [e]; exact q61_1 ..
    rw [e]; rfl
noncomputable def B61_0 (cal : Cal) (k : Nat) (j1 : V4) (v0 : Value) (H : Hp) (n : Nat) : Res :=
boxK 35 v0 H n fun v_1 H_2 n_3 =>
bindO (addrV v_1) fun a_7 => bindO (loadV P H_2 35 a_7) fun v_6 =>
callFK P cal 60 [v_6] H_2 n_3 fun v_8 H_9 n_a =>
binK P .neq 29 (.tmp 13) (.const (.int .i64 0)) v_8 (.int .i64 0) fun v_d =>
ifK v_d (
some ((Value.tuple ⟨[(.pointer none), v_8]⟩), H_9, n_a)) (
bindO (addrV v_1) fun a_i => bindO (loadV P H_9 35 a_i) fun v_h =>
bindO (buildP P 117 [(0, v_h)]) fun v_j =>
boxK 117 v_j H_9 n_a fun v_k H_l n_m =>
bindO (nilV v_k) fun v_p =>
bindO (fieldAddrV P 117 v_p 0) fun v_q =>
bindO (fieldAddrV P 35 v_q 1) fun v_r =>
bindO (addrV v_r) fun a_t => bindO (loadV P H_l 32 a_t) fun v_s =>
bindO (lenV P 32 v_s) fun v_u =>
j1 v_k v_s v_u (.int .i64 0) H_l n_m)
noncomputable def C61_0 (cal : Cal) (k : Nat) (v0 : Value) (H : Hp) (n : Nat) : Res := B61_0 cal k (S61_1 cal k k) v0 H n
theorem h61_0 (cal : Cal) (k : Nat) (v0 : Value) (H : Hp) (n : Nat) : bodyE P cal A (k + 1) 61 [v0] H n = C61_0 cal k v0 H n := by
  have h : bodyE P cal A (k + 1) 61 [v0] H n = B61_0 cal k (fun u5 u23 u24 u25 H n => labK (E61_1 cal k k) (Tr.set (Tr.set (Tr.set (Tr.set Tr.nil 25 (some u25)) 24 (some u24)) 23 (some u23)) 5 (some u5)) H n []) v0 H n := by
    rw [body_eq (fn := Go.Proofs.Try.f61) (c := code61) (rs := results61) (by kernel_rfl) (by kernel_rfl) (by kernel_rfl) (by kernel_rfl)]
    kernel_rfl
  rw [h, C61_0]
  have e1 : (fun u5 u23 u24 u25 H n => labK (E61_1 cal k k) (Tr.set (Tr.set (Tr.set (Tr.set Tr.nil 25 (some u25)) 24 (some u24)) 23 (some u23)) 5 (some u5)) H n []) = (S61_1 cal k k) := by funext u5 u23 u24 u25 H n; exact q61_1 ..
  rw [e1]
noncomputable def code62 : Code := codeOf 62
noncomputable def results62 : List ResultVar := resOf 62
noncomputable def K62_p (cal : Cal) (k : Nat) : KR := (cutK (A 62).c (codeE P cal (codeF P cal k) none 62 (cR code62) (Lv.b (A 62)) (doneK P results62) X0 (doneK P results62)))
noncomputable def K62_pr (cal : Cal) (k : Nat) : KR := (cutK (Lv.b (A 62)).c (codeE P cal (codeF P cal k) none 62 (cR (cR code62)) (Lv.b (Lv.b (A 62))) (doneK P results62) X0 (doneK P results62)))
noncomputable def B62_0 (cal : Cal) (k : Nat) (v0 : Value) (H : Hp) (n : Nat) : Res :=
boxK 113 v0 H n fun v_1 H_2 n_3 =>
bindO (addrV v_1) fun a_5 => bindO (loadV P H_2 113 a_5) fun v_6 =>
bindO (addrV v_1) fun a_7 => bindO (loadV P H_2 113 a_7) fun v_8 =>
bindO (fieldAddrV P 113 v_1 0) fun v_9 =>
bindO (addrV v_9) fun a_a => bindO (loadV P H_2 3 a_a) fun v_b =>
effK P [(.l 3 a_a), (.l 113 a_7)] H_2 n_3 (fun H_c n_d k_e =>
callFK P cal 98 [v_6, (Value.func (.func 72) #[] #[])] H_c n_d fun v_i H_j n_k =>
k_e v_i H_j n_k) fun v_f H_g n_h =>
effK P [(.l 3 a_a)] H_g n_h (fun H_l n_m k_n =>
callFK P cal 98 [v_8, (Value.func (.func 73) #[] #[])] H_l n_m fun v_r H_s n_t =>
k_n v_r H_s n_t) fun v_o H_p n_q =>
bindO (buildP P 53 [(0, v_f), (1, v_o)]) fun v_u =>
callFK P cal 99 [v_u, v_b] H_p n_q fun v_v H_w n_x =>
some (v_v, H_w, n_x)
noncomputable def C62_0 (cal : Cal) (k : Nat) (v0 : Value) (H : Hp) (n : Nat) : Res := B62_0 cal k v0 H n
theorem h62_0 (cal : Cal) (k : Nat) (v0 : Value) (H : Hp) (n : Nat) : bodyE P cal A (k + 1) 62 [v0] H n = C62_0 cal k v0 H n := by
  have h : bodyE P cal A (k + 1) 62 [v0] H n = B62_0 cal k v0 H n := by
    rw [body_eq (fn := Go.Proofs.Try.f62) (c := code62) (rs := results62) (by kernel_rfl) (by kernel_rfl) (by kernel_rfl) (by kernel_rfl)]
    kernel_rfl
  rw [h, C62_0]
end Go.Proofs.Ytekajfobmnedjaa.G
