/- The texts of functions, each with the proof that the evaluator says the same. -/
import Derived.Test.YtekajfobmnedjaaH1
open Go Go.Ev
set_option maxRecDepth 1000000
set_option linter.unusedVariables false
noncomputable section
namespace Go.Proofs.Ytekajfobmnedjaa.G
noncomputable def pJ:Code:=cw 12
noncomputable def dz:List ResultVar:=dk 12
noncomputable def K12_p (cal:Cal) (k:Nat):KR:=(cutK (A 12).c (az P cal (ax P cal k) none 12 (cR pJ) (Lv.b (A 12)) (aw P dz) X0 (aw P dz)))
noncomputable def K12_pr (cal:Cal) (k:Nat):KR:=(cutK (Lv.b (A 12)).c (az P cal (ax P cal k) none 12 (cR (cR pJ)) (Lv.b (Lv.b (A 12))) (aw P dz) X0 (aw P dz)))
noncomputable def K12_prl (cal:Cal) (k:Nat):KR:=(cutK (Lv.a (Lv.b (A 12))).c (az P cal (ax P cal k) none 12 (cR (cL (cR pJ))) (Lv.b (Lv.a (Lv.b (A 12)))) (K12_pr cal k) X0 (aw P dz)))
noncomputable def K12_prlrl (cal:Cal) (k:Nat):KR:=(cutK (Lv.a (Lv.b (Lv.a (Lv.b (A 12))))).c (az P cal (ax P cal k) none 12 (cR (cL (cR (cL (cR pJ))))) (Lv.b (Lv.a (Lv.b (Lv.a (Lv.b (A 12)))))) (K12_pr cal k) X0 (aw P dz)))
noncomputable def K12_prr (cal:Cal) (k:Nat):KR:=(cutK (Lv.b (Lv.b (A 12))).c (az P cal (ax P cal k) none 12 (cR (cR (cR pJ))) (Lv.b (Lv.b (Lv.b (A 12)))) (aw P dz) X0 (aw P dz)))
noncomputable def K12_prrr (cal:Cal) (k:Nat):KR:=(cutK (Lv.b (Lv.b (Lv.b (A 12)))).c (az P cal (ax P cal k) none 12 (cR (cR (cR (cR pJ)))) (Lv.b (Lv.b (Lv.b (Lv.b (A 12))))) (aw P dz) X0 (aw P dz)))
noncomputable def K12_prrrr (cal:Cal) (k:Nat):KR:=(cutK (Lv.b (Lv.b (Lv.b (Lv.b (A 12))))).c (az P cal (ax P cal k) none 12 (cR (cR (cR (cR (cR pJ))))) (Lv.b (Lv.b (Lv.b (Lv.b (Lv.b (A 12)))))) (aw P dz) X0 (aw P dz)))
noncomputable def K12_prrrrr (cal:Cal) (k:Nat):KR:=(cutK (Lv.b (Lv.b (Lv.b (Lv.b (Lv.b (A 12)))))).c (az P cal (ax P cal k) none 12 (cR (cR (cR (cR (cR (cR pJ)))))) (Lv.b (Lv.b (Lv.b (Lv.b (Lv.b (Lv.b (A 12))))))) (aw P dz) X0 (aw P dz)))
noncomputable def K12_prrrrrr (cal:Cal) (k:Nat):KR:=(cutK (Lv.b (Lv.b (Lv.b (Lv.b (Lv.b (Lv.b (A 12))))))).c (az P cal (ax P cal k) none 12 (cR (cR (cR (cR (cR (cR (cR pJ))))))) (Lv.b (Lv.b (Lv.b (Lv.b (Lv.b (Lv.b (Lv.b (A 12)))))))) (aw P dz) X0 (aw P dz)))
noncomputable def K12_prrrrrrl (cal:Cal) (k:Nat):KR:=(cutK (Lv.a (Lv.b (Lv.b (Lv.b (Lv.b (Lv.b (Lv.b (A 12)))))))).c (az P cal (ax P cal k) none 12 (cR (cL (cR (cR (cR (cR (cR (cR pJ)))))))) (Lv.b (Lv.a (Lv.b (Lv.b (Lv.b (Lv.b (Lv.b (Lv.b (A 12))))))))) (K12_prrrrrr cal k) X0 (aw P dz)))
noncomputable def K12_prrrrrrlrl (cal:Cal) (k:Nat):KR:=(cutK (Lv.a (Lv.b (Lv.a (Lv.b (Lv.b (Lv.b (Lv.b (Lv.b (Lv.b (A 12)))))))))).c (az P cal (ax P cal k) none 12 (cR (cL (cR (cL (cR (cR (cR (cR (cR (cR pJ)))))))))) (Lv.b (Lv.a (Lv.b (Lv.a (Lv.b (Lv.b (Lv.b (Lv.b (Lv.b (Lv.b (A 12))))))))))) (K12_prrrrrr cal k) X0 (aw P dz)))
noncomputable def K12_prrrrrrr (cal:Cal) (k:Nat):KR:=(cutK (Lv.b (Lv.b (Lv.b (Lv.b (Lv.b (Lv.b (Lv.b (A 12)))))))).c (az P cal (ax P cal k) none 12 (cR (cR (cR (cR (cR (cR (cR (cR pJ)))))))) (Lv.b (Lv.b (Lv.b (Lv.b (Lv.b (Lv.b (Lv.b (Lv.b (A 12))))))))) (aw P dz) X0 (aw P dz)))
noncomputable def K12_prrrrrrrl (cal:Cal) (k:Nat):KR:=(cutK (Lv.a (Lv.b (Lv.b (Lv.b (Lv.b (Lv.b (Lv.b (Lv.b (A 12))))))))).c (az P cal (ax P cal k) none 12 (cR (cL (cR (cR (cR (cR (cR (cR (cR pJ))))))))) (Lv.b (Lv.a (Lv.b (Lv.b (Lv.b (Lv.b (Lv.b (Lv.b (Lv.b (A 12)))))))))) (K12_prrrrrrr cal k) X0 (aw P dz)))
noncomputable def K12_prrrrrrrlrl (cal:Cal) (k:Nat):KR:=(cutK (Lv.a (Lv.b (Lv.a (Lv.b (Lv.b (Lv.b (Lv.b (Lv.b (Lv.b (Lv.b (A 12))))))))))).c (az P cal (ax P cal k) none 12 (cR (cL (cR (cL (cR (cR (cR (cR (cR (cR (cR pJ))))))))))) (Lv.b (Lv.a (Lv.b (Lv.a (Lv.b (Lv.b (Lv.b (Lv.b (Lv.b (Lv.b (Lv.b (A 12)))))))))))) (K12_prrrrrrr cal k) X0 (aw P dz)))
noncomputable def K12_prrrrrrrr (cal:Cal) (k:Nat):KR:=(cutK (Lv.b (Lv.b (Lv.b (Lv.b (Lv.b (Lv.b (Lv.b (Lv.b (A 12))))))))).c (az P cal (ax P cal k) none 12 (cR (cR (cR (cR (cR (cR (cR (cR (cR pJ))))))))) (Lv.b (Lv.b (Lv.b (Lv.b (Lv.b (Lv.b (Lv.b (Lv.b (Lv.b (A 12)))))))))) (aw P dz) X0 (aw P dz)))
noncomputable def K12_prrrrrrrrr (cal:Cal) (k:Nat):KR:=(cutK (Lv.b (Lv.b (Lv.b (Lv.b (Lv.b (Lv.b (Lv.b (Lv.b (Lv.b (A 12)))))))))).c (az P cal (ax P cal k) none 12 (cR (cR (cR (cR (cR (cR (cR (cR (cR (cR pJ)))))))))) (Lv.b (Lv.b (Lv.b (Lv.b (Lv.b (Lv.b (Lv.b (Lv.b (Lv.b (Lv.b (A 12))))))))))) (aw P dz) X0 (aw P dz)))
noncomputable def K12_prrrrrrrrrl (cal:Cal) (k:Nat):KR:=(cutK (Lv.a (Lv.b (Lv.b (Lv.b (Lv.b (Lv.b (Lv.b (Lv.b (Lv.b (Lv.b (A 12))))))))))).c (az P cal (ax P cal k) none 12 (cR (cL (cR (cR (cR (cR (cR (cR (cR (cR (cR pJ))))))))))) (Lv.b (Lv.a (Lv.b (Lv.b (Lv.b (Lv.b (Lv.b (Lv.b (Lv.b (Lv.b (Lv.b (A 12)))))))))))) (K12_prrrrrrrrr cal k) X0 (aw P dz)))
noncomputable def K12_prrrrrrrrrlrl (cal:Cal) (k:Nat):KR:=(cutK (Lv.a (Lv.b (Lv.a (Lv.b (Lv.b (Lv.b (Lv.b (Lv.b (Lv.b (Lv.b (Lv.b (Lv.b (A 12))))))))))))).c (az P cal (ax P cal k) none 12 (cR (cL (cR (cL (cR (cR (cR (cR (cR (cR (cR (cR (cR pJ))))))))))))) (Lv.b (Lv.a (Lv.b (Lv.a (Lv.b (Lv.b (Lv.b (Lv.b (Lv.b (Lv.b (Lv.b (Lv.b (Lv.b (A 12)))))))))))))) (K12_prrrrrrrrr cal k) X0 (aw P dz)))
noncomputable def K12_prrrrrrrrrr (cal:Cal) (k:Nat):KR:=(cutK (Lv.b (Lv.b (Lv.b (Lv.b (Lv.b (Lv.b (Lv.b (Lv.b (Lv.b (Lv.b (A 12))))))))))).c (az P cal (ax P cal k) none 12 (cR (cR (cR (cR (cR (cR (cR (cR (cR (cR (cR pJ))))))))))) (Lv.b (Lv.b (Lv.b (Lv.b (Lv.b (Lv.b (Lv.b (Lv.b (Lv.b (Lv.b (Lv.b (A 12)))))))))))) (aw P dz) X0 (aw P dz)))
noncomputable def B12_0 (cal:Cal) (k:Nat) (v0 v1 v2:Value) (H:Hp) (n:Nat):Res:=
boxK 26 v0 H n fun v_1 H_2 n_3=>
aq (aX v_1) fun a_6=>aq (ak P H_2 26 a_6) fun v_5=>
aW P cal 15 [v_5,v1] H_2 n_3 fun v_8 H_9 n_a=>
aq (cW P v_8 (Op.unary UnOp.not v_8)) fun v_b=>
aV v_b false (fun k_d=>
aq (aX v_1) fun a_i=>aq (ak P H_9 26 a_i) fun v_h=>
k_d v_h H_9 n_a) H_9 n_a fun v_e H_f n_g=>
aV v_b false (fun k_j=>
aW P cal 20 [v_e] H_f n_g fun v_n H_o n_p=>
k_j v_n H_o n_p) H_f n_g fun v_k H_l n_m=>
aV v_b false (fun k_q=>
binK P .neq 29 (.tmp 22) (.const (.int .i64 0)) v_k (.int .i64 0) fun v_u=>
k_q v_u H_l n_m) H_l n_m fun v_r H_s n_t=>
aq (dv v_b (.bool true) v_r) fun v_v=>
ifK v_v (
aW P cal 16 [] H_s n_t fun v_w H_x n_y=>
some (v_w,H_x,n_y)) (
aq (aX v_1) fun a_11=>aq (ak P H_s 26 a_11) fun v_10=>
aW P cal 18 [v_10] H_s n_t fun v_12 H_13 n_14=>
aW P cal 42 [v_12] H_13 n_14 fun v_15 H_16 n_17=>
aq (tupV v_15 0) fun v_19=>
aq (tupV v_15 1) fun v_1a=>
aq (tupV v_15 2) fun v_1b=>
aq (aX v_1) fun a_1g=>aq (ak P H_16 26 a_1g) fun v_1f=>
aW P cal 18 [v_1f] H_16 n_17 fun v_1h H_1i n_1j=>
aW P cal 23 [v1] H_1i n_1j fun v_1l H_1m n_1n=>
aq (lenV P 44 v1) fun v_1p=>
aW P cal 43 [v_1h,v_1l,v_1p] H_1m n_1n fun v_1q H_1r n_1s=>
aq (aX v_1) fun a_1v=>aq (ak P H_1r 26 a_1v) fun v_1u=>
aW P cal 18 [v_1u] H_1r n_1s fun v_1w H_1x n_1y=>
aW P cal 48 [v_1w] H_1x n_1y fun v_1z H_20 n_21=>
aq (tupV v_1z 0) fun v_23=>
aq (tupV v_1z 1) fun v_24=>
aq (cW P v2 (convert 97 3 v2)) fun v_28=>
binK P .rem 3 (.tmp 47) (.const (.int .i64 256)) v_28 (.int .i64 256) fun v_29=>
aW P cal 57 [v_29] H_20 n_21 fun v_2a H_2b n_2c=>
binK P .neq 29 (.tmp 50) (.const (.int .i64 0)) v_24 (.int .i64 0) fun v_2f=>
aV v_2f false (fun k_2h=>
aq (aX v_1) fun a_2m=>aq (ak P H_2b 26 a_2m) fun v_2l=>
k_2h v_2l H_2b n_2c) H_2b n_2c fun v_2i H_2j n_2k=>
aV v_2f false (fun k_2n=>
aW P cal 18 [v_2i] H_2j n_2k fun v_2r H_2s n_2t=>
k_2n v_2r H_2s n_2t) H_2j n_2k fun v_2o H_2p n_2q=>
aV v_2f false (fun k_2u=>
k_2u v_23 H_2p n_2q) H_2p n_2q fun v_2v H_2w n_2x=>
aV v_2f false (fun k_2z=>
aW P cal 23 [v_2v] H_2w n_2x fun v_33 H_34 n_35=>
k_2z v_33 H_34 n_35) H_2w n_2x fun v_30 H_31 n_32=>
aV v_2f false (fun k_36=>
aW P cal 49 [v_2o,v_30] H_31 n_32 fun v_3a H_3b n_3c=>
k_36 v_3a H_3b n_3c) H_31 n_32 fun v_37 H_38 n_39=>
aV v_2f false (fun k_3d=>
aq (cW P v_37 (Op.unary UnOp.not v_37)) fun v_3h=>
k_3d v_3h H_38 n_39) H_38 n_39 fun v_3e H_3f n_3g=>
aq (dv v_2f (.bool true) v_3e) fun v_3i=>
aV v_3i false (fun k_3k=>
aq (aX v_1) fun a_3p=>aq (ak P H_3f 26 a_3p) fun v_3o=>
k_3k v_3o H_3f n_3g) H_3f n_3g fun v_3l H_3m n_3n=>
aV v_3i false (fun k_3q=>
aW P cal 18 [v_3l] H_3m n_3n fun v_3u H_3v n_3w=>
k_3q v_3u H_3v n_3w) H_3m n_3n fun v_3r H_3s n_3t=>
aV v_3i false (fun k_3x=>
k_3x v_2a H_3s n_3t) H_3s n_3t fun v_3y H_3z n_40=>
aV v_3i false (fun k_42=>
aW P cal 23 [v_3y] H_3z n_40 fun v_46 H_47 n_48=>
k_42 v_46 H_47 n_48) H_3z n_40 fun v_43 H_44 n_45=>
aV v_3i false (fun k_49=>
aW P cal 49 [v_3r,v_43] H_44 n_45 fun v_4d H_4e n_4f=>
k_49 v_4d H_4e n_4f) H_44 n_45 fun v_4a H_4b n_4c=>
aV v_3i false (fun k_4g=>
k_4g v_4a H_4b n_4c) H_4b n_4c fun v_4h H_4i n_4j=>
aV v_4h true (fun k_4l=>
k_4l v_2a H_4i n_4j) H_4i n_4j fun v_4m H_4n n_4o=>
aV v_4h true (fun k_4q=>
aq (lenV P 44 v_4m) fun v_4u=>
k_4q v_4u H_4n n_4o) H_4n n_4o fun v_4r H_4s n_4t=>
aV v_4h true (fun k_4v=>
k_4v v_23 H_4s n_4t) H_4s n_4t fun v_4w H_4x n_4y=>
aV v_4h true (fun k_50=>
aq (lenV P 44 v_4w) fun v_54=>
k_50 v_54 H_4x n_4y) H_4x n_4y fun v_51 H_52 n_53=>
aV v_4h true (fun k_55=>
binK P .gtr 3 (.tmp 68) (.tmp 70) v_4r v_51 fun v_59=>
k_55 v_59 H_52 n_53) H_52 n_53 fun v_56 H_57 n_58=>
aV v_3i false (fun k_5a=>
aq (dv v_4h v_56 (.bool false)) fun v_5e=>
k_5a v_5e H_57 n_58) H_57 n_58 fun v_5b H_5c n_5d=>
aq (dv v_3i (.bool true) v_5b) fun v_5f=>
ifK v_5f (
some ((.bool false),H_5c,n_5d)) (
binK P .neq 29 (.tmp 74) (.const (.int .i64 0)) v_1b (.int .i64 0) fun v_5i=>
ifK v_5i (
binK P .eql 29 (.tmp 76) (.const (.int .i64 10)) v_1b (.int .i64 10) fun v_5k=>
aV v_5k true (fun k_5m=>
k_5m v_1q H_5c n_5d) H_5c n_5d fun v_5n H_5o n_5p=>
aV v_5k true (fun k_5r=>
aq (cW P v_5n (Op.unary UnOp.not v_5n)) fun v_5v=>
k_5r v_5v H_5o n_5p) H_5o n_5p fun v_5s H_5t n_5u=>
aq (dv v_5k v_5s (.bool false)) fun v_5w=>
aV v_5w true (fun k_5y=>
aW P cal 16 [] H_5t n_5u fun v_62 H_63 n_64=>
k_5y v_62 H_63 n_64) H_5t n_5u fun v_5z H_60 n_61=>
aq (dv v_5w v_5z (.bool false)) fun v_65=>
some (v_65,H_60,n_61)) (
aq (aX v_1) fun a_68=>aq (ak P H_5c 26 a_68) fun v_67=>
aW P cal 18 [v_67] H_5c n_5d fun v_69 H_6a n_6b=>
aW P cal 23 [v_19] H_6a n_6b fun v_6d H_6e n_6f=>
aW P cal 47 [v_69,v_6d] H_6e n_6f fun v_6g H_6h n_6i=>
aq (tupV v_6g 0) fun v_6k=>
aq (tupV v_6g 1) fun v_6l=>
aq (aX v_1) fun a_6p=>aq (ak P H_6h 26 a_6p) fun v_6o=>
aW P cal 58 [v_6o,v_19] H_6h n_6i fun v_6r H_6s n_6t=>
aq (cW P v_6r (Op.unary UnOp.not v_6r)) fun v_6u=>
aV v_6u false (fun k_6w=>
k_6w v_19 H_6s n_6t) H_6s n_6t fun v_6x H_6y n_6z=>
aV v_6u false (fun k_71=>
aW P cal 45 [v_6x] H_6y n_6z fun v_75 H_76 n_77=>
k_71 v_75 H_76 n_77) H_6y n_6z fun v_72 H_73 n_74=>
aV v_6u false (fun k_78=>
k_78 v_1a H_73 n_74) H_73 n_74 fun v_79 H_7a n_7b=>
aV v_6u false (fun k_7d=>
binK P .neq 3 (.tmp 99) (.tmp 100) v_72 v_79 fun v_7h=>
k_7d v_7h H_7a n_7b) H_7a n_7b fun v_7e H_7f n_7g=>
aq (dv v_6u (.bool true) v_7e) fun v_7i=>
aV v_7i false (fun k_7k=>
aq (aX v_1) fun a_7p=>aq (ak P H_7f 26 a_7p) fun v_7o=>
k_7k v_7o H_7f n_7g) H_7f n_7g fun v_7l H_7m n_7n=>
aV v_7i false (fun k_7q=>
aW P cal 18 [v_7l] H_7m n_7n fun v_7u H_7v n_7w=>
k_7q v_7u H_7v n_7w) H_7m n_7n fun v_7r H_7s n_7t=>
aV v_7i false (fun k_7x=>
k_7x v_19 H_7s n_7t) H_7s n_7t fun v_7y H_7z n_80=>
aV v_7i false (fun k_82=>
aW P cal 23 [v_7y] H_7z n_80 fun v_86 H_87 n_88=>
k_82 v_86 H_87 n_88) H_7z n_80 fun v_83 H_84 n_85=>
aV v_7i false (fun k_89=>
k_89 v_1a H_84 n_85) H_84 n_85 fun v_8a H_8b n_8c=>
aV v_7i false (fun k_8e=>
aW P cal 43 [v_7r,v_83,v_8a] H_8b n_8c fun v_8i H_8j n_8k=>
k_8e v_8i H_8j n_8k) H_8b n_8c fun v_8f H_8g n_8h=>
aV v_7i false (fun k_8l=>
aq (cW P v_8f (Op.unary UnOp.not v_8f)) fun v_8p=>
k_8l v_8p H_8g n_8h) H_8g n_8h fun v_8m H_8n n_8o=>
aq (dv v_7i (.bool true) v_8m) fun v_8q=>
aV v_8q false (fun k_8s=>
aq (aX v_1) fun a_8x=>aq (ak P H_8n 26 a_8x) fun v_8w=>
k_8s v_8w H_8n n_8o) H_8n n_8o fun v_8t H_8u n_8v=>
aV v_8q false (fun k_8y=>
aW P cal 18 [v_8t] H_8u n_8v fun v_92 H_93 n_94=>
k_8y v_92 H_93 n_94) H_8u n_8v fun v_8z H_90 n_91=>
aV v_8q false (fun k_95=>
k_95 v_19 H_90 n_91) H_90 n_91 fun v_96 H_97 n_98=>
aV v_8q false (fun k_9a=>
aW P cal 23 [v_96] H_97 n_98 fun v_9e H_9f n_9g=>
k_9a v_9e H_9f n_9g) H_97 n_98 fun v_9b H_9c n_9d=>
aV v_8q false (fun k_9h=>
k_9h v_1a H_9c n_9d) H_9c n_9d fun v_9i H_9j n_9k=>
aV v_8q false (fun k_9m=>
binK P .sub 3 (.tmp 117) (.const (.int .i64 1)) v_9i (.int .i64 1) fun v_9q=>
k_9m v_9q H_9j n_9k) H_9j n_9k fun v_9n H_9o n_9p=>
aV v_8q false (fun k_9r=>
aW P cal 43 [v_8z,v_9b,v_9n] H_9o n_9p fun v_9v H_9w n_9x=>
k_9r v_9v H_9w n_9x) H_9o n_9p fun v_9s H_9t n_9u=>
aq (dv v_8q (.bool true) v_9s) fun v_9y=>
aV v_9y false (fun k_a0=>
k_a0 v_6l H_9t n_9u) H_9t n_9u fun v_a1 H_a2 n_a3=>
aV v_9y false (fun k_a5=>
binK P .neq 29 (.tmp 122) (.const (.int .i64 0)) v_a1 (.int .i64 0) fun v_a9=>
k_a5 v_a9 H_a2 n_a3) H_a2 n_a3 fun v_a6 H_a7 n_a8=>
aq (dv v_9y (.bool true) v_a6) fun v_aa=>
aV v_aa false (fun k_ac=>
k_ac v_6k H_a7 n_a8) H_a7 n_a8 fun v_ad H_ae n_af=>
aV v_aa false (fun k_ah=>
aq (lenV P 44 v_ad) fun v_al=>
k_ah v_al H_ae n_af) H_ae n_af fun v_ai H_aj n_ak=>
aV v_aa false (fun k_am=>
binK P .neq 3 (.tmp 127) (.const (.int .i64 0)) v_ai (.int .i64 0) fun v_aq=>
k_am v_aq H_aj n_ak) H_aj n_ak fun v_an H_ao n_ap=>
aq (dv v_aa (.bool true) v_an) fun v_ar=>
aV v_ar false (fun k_at=>
k_at v_1a H_ao n_ap) H_ao n_ap fun v_au H_av n_aw=>
aV v_ar false (fun k_ay=>
k_ay v_23 H_av n_aw) H_av n_aw fun v_az H_b0 n_b1=>
aV v_ar false (fun k_b3=>
aq (lenV P 44 v_az) fun v_b7=>
k_b3 v_b7 H_b0 n_b1) H_b0 n_b1 fun v_b4 H_b5 n_b6=>
aV v_ar false (fun k_b8=>
binK P .lss 3 (.tmp 131) (.tmp 133) v_au v_b4 fun v_bc=>
k_b8 v_bc H_b5 n_b6) H_b5 n_b6 fun v_b9 H_ba n_bb=>
aq (dv v_ar (.bool true) v_b9) fun v_bd=>
ifK v_bd (
some ((.bool false),H_ba,n_bb)) (
aq (cW P v_1q (Op.unary UnOp.not v_1q)) fun v_bg=>
aV v_bg false (fun k_bi=>
k_bi v1 H_ba n_bb) H_ba n_bb fun v_bj H_bk n_bl=>
aV v_bg false (fun k_bn=>
k_bn v_19 H_bk n_bl) H_bk n_bl fun v_bo H_bp n_bq=>
aV v_bg false (fun k_bs=>
aW P cal 59 [v_bj,v_bo] H_bp n_bq fun v_bw H_bx n_by=>
k_bs v_bw H_bx n_by) H_bp n_bq fun v_bt H_bu n_bv=>
aV v_bg false (fun k_bz=>
aq (cW P v_bt (Op.unary UnOp.not v_bt)) fun v_c3=>
k_bz v_c3 H_bu n_bv) H_bu n_bv fun v_c0 H_c1 n_c2=>
aV v_bg false (fun k_c4=>
k_c4 v_c0 H_c1 n_c2) H_c1 n_c2 fun v_c5 H_c6 n_c7=>
aV v_c5 true (fun k_c9=>
k_c9 v1 H_c6 n_c7) H_c6 n_c7 fun v_ca H_cb n_cc=>
aV v_c5 true (fun k_ce=>
aW P cal 45 [v_ca] H_cb n_cc fun v_ci H_cj n_ck=>
k_ce v_ci H_cj n_ck) H_cb n_cc fun v_cf H_cg n_ch=>
aV v_c5 true (fun k_cl=>
k_cl v_23 H_cg n_ch) H_cg n_ch fun v_cm H_cn n_co=>
aV v_c5 true (fun k_cq=>
aq (lenV P 44 v_cm) fun v_cu=>
k_cq v_cu H_cn n_co) H_cn n_co fun v_cr H_cs n_ct=>
aV v_c5 true (fun k_cv=>
binK P .geq 3 (.tmp 145) (.tmp 147) v_cf v_cr fun v_cz=>
k_cv v_cz H_cs n_ct) H_cs n_ct fun v_cw H_cx n_cy=>
aV v_bg false (fun k_d0=>
aq (dv v_c5 v_cw (.bool false)) fun v_d4=>
k_d0 v_d4 H_cx n_cy) H_cx n_cy fun v_d1 H_d2 n_d3=>
aq (dv v_bg (.bool true) v_d1) fun v_d5=>
aV v_d5 true (fun k_d7=>
aW P cal 16 [] H_d2 n_d3 fun v_db H_dc n_dd=>
k_d7 v_db H_dc n_dd) H_d2 n_d3 fun v_d8 H_d9 n_da=>
aq (dv v_d5 v_d8 (.bool false)) fun v_de=>
some (v_de,H_d9,n_da)))))
noncomputable def C12_0 (cal:Cal) (k:Nat) (v0 v1 v2:Value) (H:Hp) (n:Nat):Res:=B12_0 cal k v0 v1 v2 H n
theorem h12_0 (cal:Cal) (k:Nat) (v0 v1 v2:Value) (H:Hp) (n:Nat):aK P cal A (k+1) 12 [v0,v1,v2] H n=C12_0 cal k v0 v1 v2 H n:=by
 have h:aK P cal A (k+1) 12 [v0,v1,v2] H n=B12_0 cal k v0 v1 v2 H n:=by
  rw[bQ (fn:=Go.Proofs.Try.f12) (c:=pJ) (rs:=dz) (by kernel_rfl) (by kernel_rfl) (by kernel_rfl) (by kernel_rfl)]
  kernel_rfl
 rw[h,C12_0]
noncomputable def code15:Code:=cw 15
noncomputable def FJ:List ResultVar:=dk 15
noncomputable def K15_p (cal:Cal) (k:Nat):KR:=(cutK (A 15).c (az P cal (ax P cal k) none 15 (cR code15) (Lv.b (A 15)) (aw P FJ) X0 (aw P FJ)))
noncomputable def K15_pr (cal:Cal) (k:Nat):KR:=(cutK (Lv.b (A 15)).c (az P cal (ax P cal k) none 15 (cR (cR code15)) (Lv.b (Lv.b (A 15))) (aw P FJ) X0 (aw P FJ)))
noncomputable def B15_0 (cal:Cal) (k:Nat) (v0 v1:Value) (H:Hp) (n:Nat):Res:=
boxK 26 v0 H n fun v_1 H_2 n_3=>
aq (ay P 26 v_1 0) fun v_5=>
aq (aX v_5) fun a_7=>aq (ak P H_2 22 a_7) fun v_6=>
aq (lenV P 22 v_6) fun v_8=>
binK P .leq 3 (.tmp 7) (.const (.int .i64 11)) v_8 (.int .i64 11) fun v_9=>
aV v_9 true (fun k_b=>
aq (ay P 26 v_1 1) fun v_f=>
k_b v_f H_2 n_3) H_2 n_3 fun v_c H_d n_e=>
aV v_9 true (fun k_g=>
aq (aX v_c) fun a_l=>aq (ak P H_d 23 a_l) fun v_k=>
k_g v_k H_d n_e) H_d n_e fun v_h H_i n_j=>
aV v_9 true (fun k_m=>
aq (lenV P 23 v_h) fun v_q=>
k_m v_q H_i n_j) H_i n_j fun v_n H_o n_p=>
aV v_9 true (fun k_r=>
binK P .leq 3 (.tmp 12) (.const (.int .i64 19)) v_n (.int .i64 19) fun v_v=>
k_r v_v H_o n_p) H_o n_p fun v_s H_t n_u=>
aq (dv v_9 v_s (.bool false)) fun v_w=>
aV v_w true (fun k_y=>
aq (ay P 26 v_1 2) fun v_12=>
k_y v_12 H_t n_u) H_t n_u fun v_z H_10 n_11=>
aV v_w true (fun k_13=>
aq (aX v_z) fun a_18=>aq (ak P H_10 24 a_18) fun v_17=>
k_13 v_17 H_10 n_11) H_10 n_11 fun v_14 H_15 n_16=>
aV v_w true (fun k_19=>
aq (lenV P 24 v_14) fun v_1d=>
k_19 v_1d H_15 n_16) H_15 n_16 fun v_1a H_1b n_1c=>
aV v_w true (fun k_1e=>
binK P .leq 3 (.tmp 18) (.const (.int .i64 6)) v_1a (.int .i64 6) fun v_1i=>
k_1e v_1i H_1b n_1c) H_1b n_1c fun v_1f H_1g n_1h=>
aq (dv v_w v_1f (.bool false)) fun v_1j=>
aV v_1j true (fun k_1l=>
k_1l v1 H_1g n_1h) H_1g n_1h fun v_1m H_1n n_1o=>
aV v_1j true (fun k_1q=>
aq (lenV P 44 v_1m) fun v_1u=>
k_1q v_1u H_1n n_1o) H_1n n_1o fun v_1r H_1s n_1t=>
aV v_1j true (fun k_1v=>
binK P .leq 3 (.tmp 23) (.const (.int .i64 11)) v_1r (.int .i64 11) fun v_1z=>
k_1v v_1z H_1s n_1t) H_1s n_1t fun v_1w H_1x n_1y=>
aq (dv v_1j v_1w (.bool false)) fun v_20=>
some (v_20,H_1x,n_1y)
noncomputable def C15_0 (cal:Cal) (k:Nat) (v0 v1:Value) (H:Hp) (n:Nat):Res:=B15_0 cal k v0 v1 H n
theorem h15_0 (cal:Cal) (k:Nat) (v0 v1:Value) (H:Hp) (n:Nat):aK P cal A (k+1) 15 [v0,v1] H n=C15_0 cal k v0 v1 H n:=by
 have h:aK P cal A (k+1) 15 [v0,v1] H n=B15_0 cal k v0 v1 H n:=by
  rw[bQ (fn:=Go.Proofs.Try.f15) (c:=code15) (rs:=FJ) (by kernel_rfl) (by kernel_rfl) (by kernel_rfl) (by kernel_rfl)]
  kernel_rfl
 rw[h,C15_0]
noncomputable def jK:Code:=cw 18
noncomputable def cJ:List ResultVar:=dk 18
noncomputable def K18_p (cal:Cal) (k:Nat):KR:=(cutK (A 18).c (az P cal (ax P cal k) none 18 (cR jK) (Lv.b (A 18)) (aw P cJ) X0 (aw P cJ)))
noncomputable def K18_pr (cal:Cal) (k:Nat):KR:=(cutK (Lv.b (A 18)).c (az P cal (ax P cal k) none 18 (cR (cR jK)) (Lv.b (Lv.b (A 18))) (aw P cJ) X0 (aw P cJ)))
noncomputable def Yy (cal:Cal) (k:Nat):KR:=(cutK (Lv.b (Lv.b (A 18))).c (az P cal (ax P cal k) none 18 (cR (cR (cR jK))) (Lv.b (Lv.b (Lv.b (A 18)))) (aw P cJ) X0 (aw P cJ)))
noncomputable def K18_prrl (cal:Cal) (k:Nat):KR:=(cutK (Lv.a (Lv.b (Lv.b (A 18)))).c (az P cal (ax P cal k) none 18 (cR (cL (cR (cR jK)))) (Lv.b (Lv.a (Lv.b (Lv.b (A 18))))) (Yy cal k) X0 (aw P cJ)))
noncomputable def uY (cal:Cal) (k:Nat):XR:=(upX 0 (Yy cal k) X0)
noncomputable def PV (cal:Cal) (k:Nat) (m1:Nat):KR:=(fun T H n D=>ax P cal m1 (Lv.a (Lv.b (Lv.a (Lv.b (Lv.b (A 18)))))) none 18 (cL (cR (cL (cR (cR jK))))) (Yy cal k) (uY cal k) (aw P cJ) (cutT (Lv.a (Lv.b (Lv.a (Lv.b (Lv.b (A 18)))))).c T) H n D)
noncomputable def K18_prrlrll (cal:Cal) (k:Nat) (m1:Nat):KR:=(cutK (Lv.a (Lv.a (Lv.b (Lv.a (Lv.b (Lv.b (A 18))))))).c (az P cal (ax P cal m1) none 18 (cR (cL (cL (cR (cL (cR (cR jK))))))) (Lv.b (Lv.a (Lv.a (Lv.b (Lv.a (Lv.b (Lv.b (A 18)))))))) (PV cal k m1) (uY cal k) (aw P cJ)))
noncomputable def K18_prrlrlll (cal:Cal) (k:Nat) (m1:Nat):KR:=(cutK (Lv.a (Lv.a (Lv.a (Lv.b (Lv.a (Lv.b (Lv.b (A 18)))))))).c (az P cal (ax P cal m1) none 18 (cR (cL (cL (cL (cR (cL (cR (cR jK)))))))) (Lv.b (Lv.a (Lv.a (Lv.a (Lv.b (Lv.a (Lv.b (Lv.b (A 18))))))))) (K18_prrlrll cal k m1) (uY cal k) (aw P cJ)))
noncomputable def K18_prrlrllr (cal:Cal) (k:Nat) (m1:Nat):KR:=(cutK (Lv.b (Lv.a (Lv.a (Lv.b (Lv.a (Lv.b (Lv.b (A 18)))))))).c (az P cal (ax P cal m1) none 18 (cR (cR (cL (cL (cR (cL (cR (cR jK)))))))) (Lv.b (Lv.b (Lv.a (Lv.a (Lv.b (Lv.a (Lv.b (Lv.b (A 18))))))))) (PV cal k m1) (uY cal k) (aw P cJ)))
noncomputable def K18_pxrrlrllrl (cal:Cal) (k:Nat) (m1:Nat):XR:=(upX 1 (K18_prrlrllr cal k m1) (uY cal k))
noncomputable def RW (cal:Cal) (k:Nat):KR:=(cutK (Lv.b (Lv.b (Lv.b (A 18)))).c (az P cal (ax P cal k) none 18 (cR (cR (cR (cR jK)))) (Lv.b (Lv.b (Lv.b (Lv.b (A 18))))) (aw P cJ) X0 (aw P cJ)))
noncomputable def K18_prrrl (cal:Cal) (k:Nat):KR:=(cutK (Lv.a (Lv.b (Lv.b (Lv.b (A 18))))).c (az P cal (ax P cal k) none 18 (cR (cL (cR (cR (cR jK))))) (Lv.b (Lv.a (Lv.b (Lv.b (Lv.b (A 18)))))) (RW cal k) X0 (aw P cJ)))
noncomputable def rJ (cal:Cal) (k:Nat):XR:=(upX 2 (RW cal k) X0)
noncomputable def KV (cal:Cal) (k:Nat) (m1:Nat):KR:=(fun T H n D=>ax P cal m1 (Lv.a (Lv.b (Lv.a (Lv.b (Lv.b (Lv.b (A 18))))))) none 18 (cL (cR (cL (cR (cR (cR jK)))))) (RW cal k) (rJ cal k) (aw P cJ) (cutT (Lv.a (Lv.b (Lv.a (Lv.b (Lv.b (Lv.b (A 18))))))).c T) H n D)
noncomputable def K18_prrrlrll (cal:Cal) (k:Nat) (m1:Nat):KR:=(cutK (Lv.a (Lv.a (Lv.b (Lv.a (Lv.b (Lv.b (Lv.b (A 18)))))))).c (az P cal (ax P cal m1) none 18 (cR (cL (cL (cR (cL (cR (cR (cR jK)))))))) (Lv.b (Lv.a (Lv.a (Lv.b (Lv.a (Lv.b (Lv.b (Lv.b (A 18))))))))) (KV cal k m1) (rJ cal k) (aw P cJ)))
noncomputable def K18_prrrlrlll (cal:Cal) (k:Nat) (m1:Nat):KR:=(cutK (Lv.a (Lv.a (Lv.a (Lv.b (Lv.a (Lv.b (Lv.b (Lv.b (A 18))))))))).c (az P cal (ax P cal m1) none 18 (cR (cL (cL (cL (cR (cL (cR (cR (cR jK))))))))) (Lv.b (Lv.a (Lv.a (Lv.a (Lv.b (Lv.a (Lv.b (Lv.b (Lv.b (A 18)))))))))) (K18_prrrlrll cal k m1) (rJ cal k) (aw P cJ)))
noncomputable def K18_prrrlrllr (cal:Cal) (k:Nat) (m1:Nat):KR:=(cutK (Lv.b (Lv.a (Lv.a (Lv.b (Lv.a (Lv.b (Lv.b (Lv.b (A 18))))))))).c (az P cal (ax P cal m1) none 18 (cR (cR (cL (cL (cR (cL (cR (cR (cR jK))))))))) (Lv.b (Lv.b (Lv.a (Lv.a (Lv.b (Lv.a (Lv.b (Lv.b (Lv.b (A 18)))))))))) (KV cal k m1) (rJ cal k) (aw P cJ)))
noncomputable def K18_pxrrrlrllrl (cal:Cal) (k:Nat) (m1:Nat):XR:=(upX 3 (K18_prrrlrllr cal k m1) (rJ cal k))
noncomputable def MK (cal:Cal) (k:Nat):KR:=(cutK (Lv.b (Lv.b (Lv.b (Lv.b (A 18))))).c (az P cal (ax P cal k) none 18 (cR (cR (cR (cR (cR jK))))) (Lv.b (Lv.b (Lv.b (Lv.b (Lv.b (A 18)))))) (aw P cJ) X0 (aw P cJ)))
noncomputable def K18_prrrrl (cal:Cal) (k:Nat):KR:=(cutK (Lv.a (Lv.b (Lv.b (Lv.b (Lv.b (A 18)))))).c (az P cal (ax P cal k) none 18 (cR (cL (cR (cR (cR (cR jK)))))) (Lv.b (Lv.a (Lv.b (Lv.b (Lv.b (Lv.b (A 18))))))) (MK cal k) X0 (aw P cJ)))
noncomputable def qq (cal:Cal) (k:Nat):XR:=(upX 4 (MK cal k) X0)
noncomputable def Hk (cal:Cal) (k:Nat) (m1:Nat):KR:=(fun T H n D=>ax P cal m1 (Lv.a (Lv.b (Lv.a (Lv.b (Lv.b (Lv.b (Lv.b (A 18)))))))) none 18 (cL (cR (cL (cR (cR (cR (cR jK))))))) (MK cal k) (qq cal k) (aw P cJ) (cutT (Lv.a (Lv.b (Lv.a (Lv.b (Lv.b (Lv.b (Lv.b (A 18)))))))).c T) H n D)
noncomputable def K18_prrrrlrll (cal:Cal) (k:Nat) (m1:Nat):KR:=(cutK (Lv.a (Lv.a (Lv.b (Lv.a (Lv.b (Lv.b (Lv.b (Lv.b (A 18))))))))).c (az P cal (ax P cal m1) none 18 (cR (cL (cL (cR (cL (cR (cR (cR (cR jK))))))))) (Lv.b (Lv.a (Lv.a (Lv.b (Lv.a (Lv.b (Lv.b (Lv.b (Lv.b (A 18)))))))))) (Hk cal k m1) (qq cal k) (aw P cJ)))
noncomputable def K18_prrrrlrlll (cal:Cal) (k:Nat) (m1:Nat):KR:=(cutK (Lv.a (Lv.a (Lv.a (Lv.b (Lv.a (Lv.b (Lv.b (Lv.b (Lv.b (A 18)))))))))).c (az P cal (ax P cal m1) none 18 (cR (cL (cL (cL (cR (cL (cR (cR (cR (cR jK)))))))))) (Lv.b (Lv.a (Lv.a (Lv.a (Lv.b (Lv.a (Lv.b (Lv.b (Lv.b (Lv.b (A 18))))))))))) (K18_prrrrlrll cal k m1) (qq cal k) (aw P cJ)))
noncomputable def K18_prrrrlrllr (cal:Cal) (k:Nat) (m1:Nat):KR:=(cutK (Lv.b (Lv.a (Lv.a (Lv.b (Lv.a (Lv.b (Lv.b (Lv.b (Lv.b (A 18)))))))))).c (az P cal (ax P cal m1) none 18 (cR (cR (cL (cL (cR (cL (cR (cR (cR (cR jK)))))))))) (Lv.b (Lv.b (Lv.a (Lv.a (Lv.b (Lv.a (Lv.b (Lv.b (Lv.b (Lv.b (A 18))))))))))) (Hk cal k m1) (qq cal k) (aw P cJ)))
noncomputable def K18_pxrrrrlrllrl (cal:Cal) (k:Nat) (m1:Nat):XR:=(upX 5 (K18_prrrrlrllr cal k m1) (qq cal k))
noncomputable def K18_prrrrlrllrll (cal:Cal) (k:Nat) (m1:Nat):KR:=(cutK (Lv.a (Lv.a (Lv.b (Lv.a (Lv.a (Lv.b (Lv.a (Lv.b (Lv.b (Lv.b (Lv.b (A 18)))))))))))).c (az P cal (ax P cal m1) none 18 (cR (cL (cL (cR (cL (cL (cR (cL (cR (cR (cR (cR jK)))))))))))) (Lv.b (Lv.a (Lv.a (Lv.b (Lv.a (Lv.a (Lv.b (Lv.a (Lv.b (Lv.b (Lv.b (Lv.b (A 18))))))))))))) (K18_prrrrlrllr cal k m1) (K18_pxrrrrlrllrl cal k m1) (aw P cJ)))
noncomputable def K18_prrrrr (cal:Cal) (k:Nat):KR:=(cutK (Lv.b (Lv.b (Lv.b (Lv.b (Lv.b (A 18)))))).c (az P cal (ax P cal k) none 18 (cR (cR (cR (cR (cR (cR jK)))))) (Lv.b (Lv.b (Lv.b (Lv.b (Lv.b (Lv.b (A 18))))))) (aw P cJ) X0 (aw P cJ)))
noncomputable def E18_3 (cal:Cal) (k m1:Nat):KR:=az P cal (ax P cal m1) none 18 (cL (cL (cR (cL (cR (cR (cR (cR jK)))))))) (Lv.a (Lv.a (Lv.b (Lv.a (Lv.b (Lv.b (Lv.b (Lv.b (A 18))))))))) (Hk cal k m1) (qq cal k) (aw P cJ)
noncomputable def R18_3 (cal:Cal) (k m1:Nat):V4:=fun u1 u2 u3 u6 H n=>ax P cal m1 (Lv.a (Lv.b (Lv.a (Lv.b (Lv.b (Lv.b (Lv.b (A 18)))))))) none 18 (cL (cR (cL (cR (cR (cR (cR jK))))))) (MK cal k) (qq cal k) (aw P cJ) (Tr.set (Tr.set (Tr.set (Tr.set Tr.nil 6 (some u6)) 3 (some u3)) 2 (some u2)) 1 (some u1)) H n []
noncomputable def E18_2 (cal:Cal) (k m1:Nat):KR:=az P cal (ax P cal m1) none 18 (cL (cL (cR (cL (cR (cR (cR jK))))))) (Lv.a (Lv.a (Lv.b (Lv.a (Lv.b (Lv.b (Lv.b (A 18)))))))) (KV cal k m1) (rJ cal k) (aw P cJ)
noncomputable def R18_2 (cal:Cal) (k m1:Nat):V4:=fun u1 u2 u3 u5 H n=>ax P cal m1 (Lv.a (Lv.b (Lv.a (Lv.b (Lv.b (Lv.b (A 18))))))) none 18 (cL (cR (cL (cR (cR (cR jK)))))) (RW cal k) (rJ cal k) (aw P cJ) (Tr.set (Tr.set (Tr.set (Tr.set Tr.nil 5 (some u5)) 3 (some u3)) 2 (some u2)) 1 (some u1)) H n []
noncomputable def E18_1 (cal:Cal) (k m1:Nat):KR:=az P cal (ax P cal m1) none 18 (cL (cL (cR (cL (cR (cR jK)))))) (Lv.a (Lv.a (Lv.b (Lv.a (Lv.b (Lv.b (A 18))))))) (PV cal k m1) (uY cal k) (aw P cJ)
noncomputable def R18_1 (cal:Cal) (k m1:Nat):V4:=fun u1 u2 u3 u4 H n=>ax P cal m1 (Lv.a (Lv.b (Lv.a (Lv.b (Lv.b (A 18)))))) none 18 (cL (cR (cL (cR (cR jK))))) (Yy cal k) (uY cal k) (aw P cJ) (Tr.set (Tr.set (Tr.set (Tr.set Tr.nil 4 (some u4)) 3 (some u3)) 2 (some u2)) 1 (some u1)) H n []
noncomputable def B18_3 (cal:Cal) (k m1:Nat) (b3:V4) (u1 u2 u3 u6:Value) (H:Hp) (n:Nat):Res:=
aq (ay P 26 u1 2) fun v_2i=>
aq (aX v_2i) fun a_2k=>aq (ak P H 24 a_2k) fun v_2j=>
aq (lenV P 24 v_2j) fun v_2l=>
binK P .lss 3 (.tmp 58) (.tmp 61) u6 v_2l fun v_2m=>
ifK v_2m (
aq (ay P 26 u1 2) fun v_2n=>
aq (aX v_2n) fun a_2p=>aq (ak P H 24 a_2p) fun v_2o=>
aq (aY P 24 v_2o u6) fun v_2r=>
aq (aX v_2r) fun a_2t=>aq (ak P H 94 a_2t) fun v_2s=>
cQ P 94 H n fun v_2u H_2v n_2w=>
aq (bx P 94 v_2u v_2s H_2v) fun H_2y=>
aq (ay P 35 u3 2) fun v_2z=>
aq (aX v_2z) fun a_30=>aq (ak P H_2y 33 a_30) fun v_31=>
aq (ay P 94 v_2u 0) fun v_32=>
aq (aX v_32) fun a_33=>aq (ak P H_2y 3 a_33) fun v_34=>
aq (ay P 94 v_2u 1) fun v_35=>
aq (aX v_35) fun a_36=>aq (ak P H_2y 55 a_36) fun v_37=>
aq (ay P 94 v_2u 2) fun v_38=>
aq (aX v_38) fun a_39=>aq (ak P H_2y 55 a_39) fun v_3a=>
effK P [(.l 55 a_39),(.l 3 a_33),(.l 33 a_30)] H_2y n_2w (fun H_3b n_3c k_3d=>
aW P cal 26 [v_37] H_3b n_3c fun v_3h H_3i n_3j=>
k_3d v_3h H_3i n_3j) fun v_3e H_3f n_3g=>
effK P [(.l 3 a_33),(.l 33 a_30)] H_3f n_3g (fun H_3k n_3l k_3m=>
aW P cal 26 [v_3a] H_3k n_3l fun v_3q H_3r n_3s=>
k_3m v_3q H_3r n_3s) fun v_3n H_3o n_3p=>
aq (iW P 86 [(0,v_34),(1,v_3e),(2,v_3n)]) fun v_3t=>
aq (Fx P 33 1 [(0,v_3t)]) fun q_3w=>newK q_3w.1 q_3w.2 H_3o n_3p fun H_3u n_3v=>
stK (fk P (bare H_3u n_3v) 33 33 v_31 (.slice (some ⟨n_3p,0,none⟩) 1 1)) fun v_3x H_3y n_3z=>
aq (ay P 35 u3 2) fun v_40=>
aq (bx P 33 v_40 v_3x H_3y) fun H_42=>
binK P .add 3 (.tmp 63) (.const (.int .i64 1)) u6 (.int .i64 1) fun v_44=>
b3 u1 u2 u3 v_44 H_42 n_3z) (
aq (aX u3) fun a_47=>aq (ak P H 35 a_47) fun v_46=>
aq (bx P 35 u2 v_46 H) fun H_49=>
aq (resV P (Tr.set Tr.nil 2 (some u2)) H_49 cJ) fun v_4a=>some (oneV v_4a,H_49,n))
noncomputable def C18_3 (cal:Cal) (k m1:Nat) (b3:V4) (u1 u2 u3 u6:Value) (H:Hp) (n:Nat):Res:=B18_3 cal k m1 b3 u1 u2 u3 u6 H n
noncomputable def S18_3 (cal:Cal) (k:Nat):Nat→V4:=fun m=>Nat.rec (motive:=fun _=>V4) (C18_3 cal k 0 (fun _ _ _ _ _ _=>none)) (fun m ih=>C18_3 cal k (m+1) ih) m
theorem h18_3 (cal:Cal) (k m1:Nat) (u1 u2 u3 u6:Value) (H:Hp) (n:Nat):labK (E18_3 cal k m1) (Tr.set (Tr.set (Tr.set (Tr.set Tr.nil 6 (some u6)) 3 (some u3)) 2 (some u2)) 1 (some u1)) H n []=C18_3 cal k m1 (R18_3 cal k m1) u1 u2 u3 u6 H n:=by
 refine Eq.trans (b:=B18_3 cal k m1 (R18_3 cal k m1) u1 u2 u3 u6 H n) (by kernel_rfl) ?_
 rw[C18_3]
theorem q18_3 (cal:Cal) (k:Nat):∀(m:Nat) (u1 u2 u3 u6:Value) (H:Hp) (n:Nat),labK (E18_3 cal k m) (Tr.set (Tr.set (Tr.set (Tr.set Tr.nil 6 (some u6)) 3 (some u3)) 2 (some u2)) 1 (some u1)) H n []=S18_3 cal k m u1 u2 u3 u6 H n
 | 0,u1,u2,u3,u6,H,n=>by
  rw[h18_3]
  have e:R18_3 cal k 0=fun _ _ _ _ _ _=>none:=by funext u1 u2 u3 u6 H n; kernel_rfl
  rw[e]; rfl
 | m+1,u1,u2,u3,u6,H,n=>by
  rw[h18_3]
  have e:R18_3 cal k (m+1)=S18_3 cal k m:=by
   funext u1 u2 u3 u6 H n
   have e:R18_3 cal k (m+1) u1 u2 u3 u6 H n=labK (E18_3 cal k m) (Tr.set (Tr.set (Tr.set (Tr.set Tr.nil 6 (some u6)) 3 (some u3)) 2 (some u2)) 1 (some u1)) H n []:=by kernel_rfl
   rw[e]; exact q18_3 ..
  rw[e]; rfl
noncomputable def B18_2 (cal:Cal) (k m1:Nat) (j3:V4) (b2:V4) (u1 u2 u3 u5:Value) (H:Hp) (n:Nat):Res:=
aq (ay P 26 u1 1) fun v_1f=>
aq (aX v_1f) fun a_1h=>aq (ak P H 23 a_1h) fun v_1g=>
aq (lenV P 23 v_1g) fun v_1i=>
binK P .lss 3 (.tmp 33) (.tmp 36) u5 v_1i fun v_1j=>
ifK v_1j (
aq (ay P 35 u3 1) fun v_1k=>
aq (aX v_1k) fun a_1l=>aq (ak P H 32 a_1l) fun v_1m=>
aq (ay P 26 u1 1) fun v_1n=>
aq (aX v_1n) fun a_1o=>aq (ak P H 23 a_1o) fun v_1p=>
aq (aY P 23 v_1p u5) fun v_1r=>
aq (ay P 104 v_1r 0) fun v_1s=>
aq (aX v_1s) fun a_1t=>aq (ak P H 3 a_1t) fun v_1u=>
aq (ay P 26 u1 1) fun v_1v=>
aq (aX v_1v) fun a_1w=>aq (ak P H 23 a_1w) fun v_1x=>
aq (aY P 23 v_1x u5) fun v_1z=>
aq (ay P 104 v_1z 1) fun v_20=>
aq (aX v_20) fun a_21=>aq (ak P H 3 a_21) fun v_22=>
aq (iW P 88 [(0,v_1u),(1,v_22)]) fun v_23=>
aq (Fx P 32 1 [(0,v_23)]) fun q_26=>newK q_26.1 q_26.2 H n fun H_24 n_25=>
stK (fk P (bare H_24 n_25) 32 32 v_1m (.slice (some ⟨n,0,none⟩) 1 1)) fun v_27 H_28 n_29=>
aq (ay P 35 u3 1) fun v_2a=>
aq (bx P 32 v_2a v_27 H_28) fun H_2c=>
binK P .add 3 (.tmp 38) (.const (.int .i64 1)) u5 (.int .i64 1) fun v_2e=>
b2 u1 u2 u3 v_2e H_2c n_29) (
j3 u1 u2 u3 (.int .i64 0) H n)
noncomputable def C18_2 (cal:Cal) (k m1:Nat) (b2:V4) (u1 u2 u3 u5:Value) (H:Hp) (n:Nat):Res:=B18_2 cal k m1 (S18_3 cal k k) b2 u1 u2 u3 u5 H n
noncomputable def S18_2 (cal:Cal) (k:Nat):Nat→V4:=fun m=>Nat.rec (motive:=fun _=>V4) (C18_2 cal k 0 (fun _ _ _ _ _ _=>none)) (fun m ih=>C18_2 cal k (m+1) ih) m
theorem h18_2 (cal:Cal) (k m1:Nat) (u1 u2 u3 u5:Value) (H:Hp) (n:Nat):labK (E18_2 cal k m1) (Tr.set (Tr.set (Tr.set (Tr.set Tr.nil 5 (some u5)) 3 (some u3)) 2 (some u2)) 1 (some u1)) H n []=C18_2 cal k m1 (R18_2 cal k m1) u1 u2 u3 u5 H n:=by
 refine Eq.trans (b:=B18_2 cal k m1 (fun u1 u2 u3 u6 H n=>labK (E18_3 cal k k) (Tr.set (Tr.set (Tr.set (Tr.set Tr.nil 6 (some u6)) 3 (some u3)) 2 (some u2)) 1 (some u1)) H n []) (R18_2 cal k m1) u1 u2 u3 u5 H n) (by kernel_rfl) ?_
 rw[C18_2]
 have e3:(fun u1 u2 u3 u6 H n=>labK (E18_3 cal k k) (Tr.set (Tr.set (Tr.set (Tr.set Tr.nil 6 (some u6)) 3 (some u3)) 2 (some u2)) 1 (some u1)) H n [])=(S18_3 cal k k):=by funext u1 u2 u3 u6 H n; exact q18_3 ..
 rw[e3]
theorem q18_2 (cal:Cal) (k:Nat):∀(m:Nat) (u1 u2 u3 u5:Value) (H:Hp) (n:Nat),labK (E18_2 cal k m) (Tr.set (Tr.set (Tr.set (Tr.set Tr.nil 5 (some u5)) 3 (some u3)) 2 (some u2)) 1 (some u1)) H n []=S18_2 cal k m u1 u2 u3 u5 H n
 | 0,u1,u2,u3,u5,H,n=>by
  rw[h18_2]
  have e:R18_2 cal k 0=fun _ _ _ _ _ _=>none:=by funext u1 u2 u3 u5 H n; kernel_rfl
  rw[e]; rfl
 | m+1,u1,u2,u3,u5,H,n=>by
  rw[h18_2]
  have e:R18_2 cal k (m+1)=S18_2 cal k m:=by
   funext u1 u2 u3 u5 H n
   have e:R18_2 cal k (m+1) u1 u2 u3 u5 H n=labK (E18_2 cal k m) (Tr.set (Tr.set (Tr.set (Tr.set Tr.nil 5 (some u5)) 3 (some u3)) 2 (some u2)) 1 (some u1)) H n []:=by kernel_rfl
   rw[e]; exact q18_2 ..
  rw[e]; rfl
noncomputable def B18_1 (cal:Cal) (k m1:Nat) (j2:V4) (b1:V4) (u1 u2 u3 u4:Value) (H:Hp) (n:Nat):Res:=
aq (ay P 26 u1 0) fun v_c=>
aq (aX v_c) fun a_e=>aq (ak P H 22 a_e) fun v_d=>
aq (lenV P 22 v_d) fun v_f=>
binK P .lss 3 (.tmp 8) (.tmp 11) u4 v_f fun v_g=>
ifK v_g (
aq (ay P 35 u3 0) fun v_h=>
aq (aX v_h) fun a_i=>aq (ak P H 31 a_i) fun v_j=>
aq (ay P 26 u1 0) fun v_k=>
aq (aX v_k) fun a_l=>aq (ak P H 22 a_l) fun v_m=>
aq (aY P 22 v_m u4) fun v_o=>
aq (ay P 95 v_o 0) fun v_p=>
aq (aX v_p) fun a_q=>aq (ak P H 3 a_q) fun v_r=>
aq (ay P 26 u1 0) fun v_s=>
aq (aX v_s) fun a_t=>aq (ak P H 22 a_t) fun v_u=>
aq (aY P 22 v_u u4) fun v_w=>
aq (ay P 95 v_w 1) fun v_x=>
aq (aX v_x) fun a_y=>aq (ak P H 3 a_y) fun v_z=>
aq (iW P 90 [(0,v_r),(1,v_z)]) fun v_10=>
aq (Fx P 31 1 [(0,v_10)]) fun q_13=>newK q_13.1 q_13.2 H n fun H_11 n_12=>
stK (fk P (bare H_11 n_12) 31 31 v_j (.slice (some ⟨n,0,none⟩) 1 1)) fun v_14 H_15 n_16=>
aq (ay P 35 u3 0) fun v_17=>
aq (bx P 31 v_17 v_14 H_15) fun H_19=>
binK P .add 3 (.tmp 13) (.const (.int .i64 1)) u4 (.int .i64 1) fun v_1b=>
b1 u1 u2 u3 v_1b H_19 n_16) (
j2 u1 u2 u3 (.int .i64 0) H n)
noncomputable def C18_1 (cal:Cal) (k m1:Nat) (b1:V4) (u1 u2 u3 u4:Value) (H:Hp) (n:Nat):Res:=B18_1 cal k m1 (S18_2 cal k k) b1 u1 u2 u3 u4 H n
noncomputable def S18_1 (cal:Cal) (k:Nat):Nat→V4:=fun m=>Nat.rec (motive:=fun _=>V4) (C18_1 cal k 0 (fun _ _ _ _ _ _=>none)) (fun m ih=>C18_1 cal k (m+1) ih) m
theorem h18_1 (cal:Cal) (k m1:Nat) (u1 u2 u3 u4:Value) (H:Hp) (n:Nat):labK (E18_1 cal k m1) (Tr.set (Tr.set (Tr.set (Tr.set Tr.nil 4 (some u4)) 3 (some u3)) 2 (some u2)) 1 (some u1)) H n []=C18_1 cal k m1 (R18_1 cal k m1) u1 u2 u3 u4 H n:=by
 refine Eq.trans (b:=B18_1 cal k m1 (fun u1 u2 u3 u5 H n=>labK (E18_2 cal k k) (Tr.set (Tr.set (Tr.set (Tr.set Tr.nil 5 (some u5)) 3 (some u3)) 2 (some u2)) 1 (some u1)) H n []) (R18_1 cal k m1) u1 u2 u3 u4 H n) (by kernel_rfl) ?_
 rw[C18_1]
 have e2:(fun u1 u2 u3 u5 H n=>labK (E18_2 cal k k) (Tr.set (Tr.set (Tr.set (Tr.set Tr.nil 5 (some u5)) 3 (some u3)) 2 (some u2)) 1 (some u1)) H n [])=(S18_2 cal k k):=by funext u1 u2 u3 u5 H n; exact q18_2 ..
 rw[e2]
theorem q18_1 (cal:Cal) (k:Nat):∀(m:Nat) (u1 u2 u3 u4:Value) (H:Hp) (n:Nat),labK (E18_1 cal k m) (Tr.set (Tr.set (Tr.set (Tr.set Tr.nil 4 (some u4)) 3 (some u3)) 2 (some u2)) 1 (some u1)) H n []=S18_1 cal k m u1 u2 u3 u4 H n
 | 0,u1,u2,u3,u4,H,n=>by
  rw[h18_1]
  have e:R18_1 cal k 0=fun _ _ _ _ _ _=>none:=by funext u1 u2 u3 u4 H n; kernel_rfl
  rw[e]; rfl
 | m+1,u1,u2,u3,u4,H,n=>by
  rw[h18_1]
  have e:R18_1 cal k (m+1)=S18_1 cal k m:=by
   funext u1 u2 u3 u4 H n
   have e:R18_1 cal k (m+1) u1 u2 u3 u4 H n=labK (E18_1 cal k m) (Tr.set (Tr.set (Tr.set (Tr.set Tr.nil 4 (some u4)) 3 (some u3)) 2 (some u2)) 1 (some u1)) H n []:=by kernel_rfl
   rw[e]; exact q18_1 ..
  rw[e]; rfl
noncomputable def B18_0 (cal:Cal) (k:Nat) (j1:V4) (v0:Value) (H:Hp) (n:Nat):Res:=
boxK 26 v0 H n fun v_1 H_2 n_3=>
cQ P 35 H_2 n_3 fun v_4 H_5 n_6=>
cQ P 35 H_5 n_6 fun v_7 H_8 n_9=>
j1 v_1 v_4 v_7 (.int .i64 0) H_8 n_9
noncomputable def C18_0 (cal:Cal) (k:Nat) (v0:Value) (H:Hp) (n:Nat):Res:=B18_0 cal k (S18_1 cal k k) v0 H n
theorem h18_0 (cal:Cal) (k:Nat) (v0:Value) (H:Hp) (n:Nat):aK P cal A (k+1) 18 [v0] H n=C18_0 cal k v0 H n:=by
 have h:aK P cal A (k+1) 18 [v0] H n=B18_0 cal k (fun u1 u2 u3 u4 H n=>labK (E18_1 cal k k) (Tr.set (Tr.set (Tr.set (Tr.set Tr.nil 4 (some u4)) 3 (some u3)) 2 (some u2)) 1 (some u1)) H n []) v0 H n:=by
  rw[bQ (fn:=Go.Proofs.Try.f18) (c:=jK) (rs:=cJ) (by kernel_rfl) (by kernel_rfl) (by kernel_rfl) (by kernel_rfl)]
  kernel_rfl
 rw[h,C18_0]
 have e1:(fun u1 u2 u3 u4 H n=>labK (E18_1 cal k k) (Tr.set (Tr.set (Tr.set (Tr.set Tr.nil 4 (some u4)) 3 (some u3)) 2 (some u2)) 1 (some u1)) H n [])=(S18_1 cal k k):=by funext u1 u2 u3 u4 H n; exact q18_1 ..
 rw[e1]
noncomputable def code20:Code:=cw 20
noncomputable def FQ:List ResultVar:=dk 20
noncomputable def K20_p (cal:Cal) (k:Nat):KR:=(cutK (A 20).c (az P cal (ax P cal k) none 20 (cR code20) (Lv.b (A 20)) (aw P FQ) X0 (aw P FQ)))
noncomputable def K20_pr (cal:Cal) (k:Nat):KR:=(cutK (Lv.b (A 20)).c (az P cal (ax P cal k) none 20 (cR (cR code20)) (Lv.b (Lv.b (A 20))) (aw P FQ) X0 (aw P FQ)))
noncomputable def B20_0 (cal:Cal) (k:Nat) (v0:Value) (H:Hp) (n:Nat):Res:=
boxK 26 v0 H n fun v_1 H_2 n_3=>
aq (aX v_1) fun a_6=>aq (ak P H_2 26 a_6) fun v_5=>
aW P cal 63 [v_5] H_2 n_3 fun v_7 H_8 n_9=>
some (v_7,H_8,n_9)
noncomputable def C20_0 (cal:Cal) (k:Nat) (v0:Value) (H:Hp) (n:Nat):Res:=B20_0 cal k v0 H n
theorem h20_0 (cal:Cal) (k:Nat) (v0:Value) (H:Hp) (n:Nat):aK P cal A (k+1) 20 [v0] H n=C20_0 cal k v0 H n:=by
 have h:aK P cal A (k+1) 20 [v0] H n=B20_0 cal k v0 H n:=by
  rw[bQ (fn:=Go.Proofs.Try.f20) (c:=code20) (rs:=FQ) (by kernel_rfl) (by kernel_rfl) (by kernel_rfl) (by kernel_rfl)]
  kernel_rfl
 rw[h,C20_0]
noncomputable def yJ:Code:=cw 21
noncomputable def kw:List ResultVar:=dk 21
noncomputable def K21_p (cal:Cal) (k:Nat):KR:=(cutK (A 21).c (az P cal (ax P cal k) none 21 (cR yJ) (Lv.b (A 21)) (aw P kw) X0 (aw P kw)))
noncomputable def K21_pr (cal:Cal) (k:Nat):KR:=(cutK (Lv.b (A 21)).c (az P cal (ax P cal k) none 21 (cR (cR yJ)) (Lv.b (Lv.b (A 21))) (aw P kw) X0 (aw P kw)))
noncomputable def K21_prl (cal:Cal) (k:Nat):KR:=(cutK (Lv.a (Lv.b (A 21))).c (az P cal (ax P cal k) none 21 (cR (cL (cR yJ))) (Lv.b (Lv.a (Lv.b (A 21)))) (K21_pr cal k) X0 (aw P kw)))
noncomputable def yQ (cal:Cal) (k:Nat):XR:=(upX 0 (K21_pr cal k) X0)
noncomputable def Uy (cal:Cal) (k:Nat) (m1:Nat):KR:=(fun T H n D=>ax P cal m1 (Lv.a (Lv.b (Lv.a (Lv.b (A 21))))) none 21 (cL (cR (cL (cR yJ)))) (K21_pr cal k) (yQ cal k) (aw P kw) (cutT (Lv.a (Lv.b (Lv.a (Lv.b (A 21))))).c T) H n D)
noncomputable def K21_prlrll (cal:Cal) (k:Nat) (m1:Nat):KR:=(cutK (Lv.a (Lv.a (Lv.b (Lv.a (Lv.b (A 21)))))).c (az P cal (ax P cal m1) none 21 (cR (cL (cL (cR (cL (cR yJ)))))) (Lv.b (Lv.a (Lv.a (Lv.b (Lv.a (Lv.b (A 21))))))) (Uy cal k m1) (yQ cal k) (aw P kw)))
noncomputable def K21_prlrlll (cal:Cal) (k:Nat) (m1:Nat):KR:=(cutK (Lv.a (Lv.a (Lv.a (Lv.b (Lv.a (Lv.b (A 21))))))).c (az P cal (ax P cal m1) none 21 (cR (cL (cL (cL (cR (cL (cR yJ))))))) (Lv.b (Lv.a (Lv.a (Lv.a (Lv.b (Lv.a (Lv.b (A 21)))))))) (K21_prlrll cal k m1) (yQ cal k) (aw P kw)))
noncomputable def KW (cal:Cal) (k:Nat) (m1:Nat):KR:=(cutK (Lv.b (Lv.a (Lv.a (Lv.b (Lv.a (Lv.b (A 21))))))).c (az P cal (ax P cal m1) none 21 (cR (cR (cL (cL (cR (cL (cR yJ))))))) (Lv.b (Lv.b (Lv.a (Lv.a (Lv.b (Lv.a (Lv.b (A 21)))))))) (Uy cal k m1) (yQ cal k) (aw P kw)))
noncomputable def K21_pxrlrllrl (cal:Cal) (k:Nat) (m1:Nat):XR:=(upX 1 (KW cal k m1) (yQ cal k))
noncomputable def K21_prlrllrll (cal:Cal) (k:Nat) (m1:Nat):KR:=(cutK (Lv.a (Lv.a (Lv.b (Lv.a (Lv.a (Lv.b (Lv.a (Lv.b (A 21))))))))).c (az P cal (ax P cal m1) none 21 (cR (cL (cL (cR (cL (cL (cR (cL (cR yJ))))))))) (Lv.b (Lv.a (Lv.a (Lv.b (Lv.a (Lv.a (Lv.b (Lv.a (Lv.b (A 21)))))))))) (KW cal k m1) (K21_pxrlrllrl cal k m1) (aw P kw)))
noncomputable def K21_prlrllrllrl (cal:Cal) (k:Nat) (m1:Nat):KR:=(cutK (Lv.a (Lv.b (Lv.a (Lv.a (Lv.b (Lv.a (Lv.a (Lv.b (Lv.a (Lv.b (A 21))))))))))).c (az P cal (ax P cal m1) none 21 (cR (cL (cR (cL (cL (cR (cL (cL (cR (cL (cR yJ))))))))))) (Lv.b (Lv.a (Lv.b (Lv.a (Lv.a (Lv.b (Lv.a (Lv.a (Lv.b (Lv.a (Lv.b (A 21)))))))))))) (KW cal k m1) (K21_pxrlrllrl cal k m1) (aw P kw)))
noncomputable def K21_prr (cal:Cal) (k:Nat):KR:=(cutK (Lv.b (Lv.b (A 21))).c (az P cal (ax P cal k) none 21 (cR (cR (cR yJ))) (Lv.b (Lv.b (Lv.b (A 21)))) (aw P kw) X0 (aw P kw)))
noncomputable def E21_1 (cal:Cal) (k m1:Nat):KR:=az P cal (ax P cal m1) none 21 (cL (cL (cR (cL (cR yJ))))) (Lv.a (Lv.a (Lv.b (Lv.a (Lv.b (A 21)))))) (Uy cal k m1) (yQ cal k) (aw P kw)
noncomputable def R21_1 (cal:Cal) (k m1:Nat):V4:=fun u1 u2 u3 u7 H n=>ax P cal m1 (Lv.a (Lv.b (Lv.a (Lv.b (A 21))))) none 21 (cL (cR (cL (cR yJ)))) (K21_pr cal k) (yQ cal k) (aw P kw) (Tr.set (Tr.set (Tr.set (Tr.set Tr.nil 7 (some u7)) 3 (some u3)) 2 (some u2)) 1 (some u1)) H n []
noncomputable def B21_1 (cal:Cal) (k m1:Nat) (b1:V4) (u1 u2 u3 u7:Value) (H:Hp) (n:Nat):Res:=
aq (ay P 26 u3 2) fun v_g=>
aq (aX v_g) fun a_i=>aq (ak P H 24 a_i) fun v_h=>
aq (aY P 24 v_h u1) fun v_k=>
aq (ay P 94 v_k 1) fun v_l=>
aq (ay P 55 v_l 1) fun v_m=>
aq (aX v_m) fun a_o=>aq (ak P H 3 a_o) fun v_n=>
binK P .leq 3 (.tmp 15) (.tmp 22) u7 v_n fun v_p=>
ifK v_p (
aq (aX u3) fun a_r=>aq (ak P H 26 a_r) fun v_q=>
aW P cal 64 [v_q,u1,u2,u2,u7] H n fun v_w H_x n_y=>
ifK v_w (
some ((.bool true),H_x,n_y)) (
binK P .add 3 (.tmp 24) (.const (.int .i64 1)) u7 (.int .i64 1) fun v_11=>
b1 u1 u2 u3 v_11 H_x n_y)) (
some ((.bool false),H,n))
noncomputable def C21_1 (cal:Cal) (k m1:Nat) (b1:V4) (u1 u2 u3 u7:Value) (H:Hp) (n:Nat):Res:=B21_1 cal k m1 b1 u1 u2 u3 u7 H n
noncomputable def S21_1 (cal:Cal) (k:Nat):Nat→V4:=fun m=>Nat.rec (motive:=fun _=>V4) (C21_1 cal k 0 (fun _ _ _ _ _ _=>none)) (fun m ih=>C21_1 cal k (m+1) ih) m
theorem h21_1 (cal:Cal) (k m1:Nat) (u1 u2 u3 u7:Value) (H:Hp) (n:Nat):labK (E21_1 cal k m1) (Tr.set (Tr.set (Tr.set (Tr.set Tr.nil 7 (some u7)) 3 (some u3)) 2 (some u2)) 1 (some u1)) H n []=C21_1 cal k m1 (R21_1 cal k m1) u1 u2 u3 u7 H n:=by
 refine Eq.trans (b:=B21_1 cal k m1 (R21_1 cal k m1) u1 u2 u3 u7 H n) (by kernel_rfl) ?_
 rw[C21_1]
theorem q21_1 (cal:Cal) (k:Nat):∀(m:Nat) (u1 u2 u3 u7:Value) (H:Hp) (n:Nat),labK (E21_1 cal k m) (Tr.set (Tr.set (Tr.set (Tr.set Tr.nil 7 (some u7)) 3 (some u3)) 2 (some u2)) 1 (some u1)) H n []=S21_1 cal k m u1 u2 u3 u7 H n
 | 0,u1,u2,u3,u7,H,n=>by
  rw[h21_1]
  have e:R21_1 cal k 0=fun _ _ _ _ _ _=>none:=by funext u1 u2 u3 u7 H n; kernel_rfl
  rw[e]; rfl
 | m+1,u1,u2,u3,u7,H,n=>by
  rw[h21_1]
  have e:R21_1 cal k (m+1)=S21_1 cal k m:=by
   funext u1 u2 u3 u7 H n
   have e:R21_1 cal k (m+1) u1 u2 u3 u7 H n=labK (E21_1 cal k m) (Tr.set (Tr.set (Tr.set (Tr.set Tr.nil 7 (some u7)) 3 (some u3)) 2 (some u2)) 1 (some u1)) H n []:=by kernel_rfl
   rw[e]; exact q21_1 ..
  rw[e]; rfl
noncomputable def B21_0 (cal:Cal) (k:Nat) (j1:V4) (v0 v1 v2:Value) (H:Hp) (n:Nat):Res:=
boxK 26 v0 H n fun v_1 H_2 n_3=>
aq (ay P 26 v_1 2) fun v_5=>
aq (aX v_5) fun a_7=>aq (ak P H_2 24 a_7) fun v_6=>
aq (aY P 24 v_6 v1) fun v_9=>
aq (ay P 94 v_9 1) fun v_a=>
aq (ay P 55 v_a 0) fun v_b=>
aq (aX v_b) fun a_d=>aq (ak P H_2 3 a_d) fun v_c=>
j1 v1 v2 v_1 v_c H_2 n_3
noncomputable def C21_0 (cal:Cal) (k:Nat) (v0 v1 v2:Value) (H:Hp) (n:Nat):Res:=B21_0 cal k (S21_1 cal k k) v0 v1 v2 H n
theorem h21_0 (cal:Cal) (k:Nat) (v0 v1 v2:Value) (H:Hp) (n:Nat):aK P cal A (k+1) 21 [v0,v1,v2] H n=C21_0 cal k v0 v1 v2 H n:=by
 have h:aK P cal A (k+1) 21 [v0,v1,v2] H n=B21_0 cal k (fun u1 u2 u3 u7 H n=>labK (E21_1 cal k k) (Tr.set (Tr.set (Tr.set (Tr.set Tr.nil 7 (some u7)) 3 (some u3)) 2 (some u2)) 1 (some u1)) H n []) v0 v1 v2 H n:=by
  rw[bQ (fn:=Go.Proofs.Try.f21) (c:=yJ) (rs:=kw) (by kernel_rfl) (by kernel_rfl) (by kernel_rfl) (by kernel_rfl)]
  kernel_rfl
 rw[h,C21_0]
 have e1:(fun u1 u2 u3 u7 H n=>labK (E21_1 cal k k) (Tr.set (Tr.set (Tr.set (Tr.set Tr.nil 7 (some u7)) 3 (some u3)) 2 (some u2)) 1 (some u1)) H n [])=(S21_1 cal k k):=by funext u1 u2 u3 u7 H n; exact q21_1 ..
 rw[e1]
noncomputable def code23:Code:=cw 23
noncomputable def FV:List ResultVar:=dk 23
noncomputable def K23_p (cal:Cal) (k:Nat):KR:=(cutK (A 23).c (az P cal (ax P cal k) none 23 (cR code23) (Lv.b (A 23)) (aw P FV) X0 (aw P FV)))
noncomputable def K23_pr (cal:Cal) (k:Nat):KR:=(cutK (Lv.b (A 23)).c (az P cal (ax P cal k) none 23 (cR (cR code23)) (Lv.b (Lv.b (A 23))) (aw P FV) X0 (aw P FV)))
noncomputable def B23_0 (cal:Cal) (k:Nat) (v0:Value) (H:Hp) (n:Nat):Res:=
rowK P 44 0 [] H n fun v_2 H_3 n_4=>
stK (fk P (bare H_3 n_4) 44 44 v_2 v0) fun v_6 H_7 n_8=>
some (v_6,H_7,n_8)
noncomputable def KX (cal:Cal) (k:Nat) (v0:Value) (H:Hp) (n:Nat):Res:=B23_0 cal k v0 H n
theorem h23_0 (cal:Cal) (k:Nat) (v0:Value) (H:Hp) (n:Nat):aK P cal A (k+1) 23 [v0] H n=KX cal k v0 H n:=by
 have h:aK P cal A (k+1) 23 [v0] H n=B23_0 cal k v0 H n:=by
  rw[bQ (fn:=Go.Proofs.Try.f23) (c:=code23) (rs:=FV) (by kernel_rfl) (by kernel_rfl) (by kernel_rfl) (by kernel_rfl)]
  kernel_rfl
 rw[h,KX]
noncomputable def code26:Code:=cw 26
noncomputable def yV:List ResultVar:=dk 26
noncomputable def K26_p (cal:Cal) (k:Nat):KR:=(cutK (A 26).c (az P cal (ax P cal k) none 26 (cR code26) (Lv.b (A 26)) (aw P yV) X0 (aw P yV)))
noncomputable def K26_pr (cal:Cal) (k:Nat):KR:=(cutK (Lv.b (A 26)).c (az P cal (ax P cal k) none 26 (cR (cR code26)) (Lv.b (Lv.b (A 26))) (aw P yV) X0 (aw P yV)))
noncomputable def B26_0 (cal:Cal) (k:Nat) (v0:Value) (H:Hp) (n:Nat):Res:=
boxK 55 v0 H n fun v_1 H_2 n_3=>
cQ P 53 H_2 n_3 fun v_4 H_5 n_6=>
aq (ay P 55 v_1 0) fun v_7=>
aq (aX v_7) fun a_9=>aq (ak P H_5 3 a_9) fun v_8=>
aq (ay P 55 v_1 1) fun v_a=>
aq (aX v_a) fun a_c=>aq (ak P H_5 3 a_c) fun v_b=>
aq (iW P 53 [(0,v_8),(1,v_b)]) fun v_d=>
aq (bx P 53 v_4 v_d H_5) fun H_f=>
aq (resV P (Tr.set Tr.nil 2 (some v_4)) H_f yV) fun v_g=>some (oneV v_g,H_f,n_6)
noncomputable def C26_0 (cal:Cal) (k:Nat) (v0:Value) (H:Hp) (n:Nat):Res:=B26_0 cal k v0 H n
theorem h26_0 (cal:Cal) (k:Nat) (v0:Value) (H:Hp) (n:Nat):aK P cal A (k+1) 26 [v0] H n=C26_0 cal k v0 H n:=by
 have h:aK P cal A (k+1) 26 [v0] H n=B26_0 cal k v0 H n:=by
  rw[bQ (fn:=Go.Proofs.Try.f26) (c:=code26) (rs:=yV) (by kernel_rfl) (by kernel_rfl) (by kernel_rfl) (by kernel_rfl)]
  kernel_rfl
 rw[h,C26_0]
noncomputable def tw:Code:=cw 30
noncomputable def gQ:List ResultVar:=dk 30
noncomputable def K30_p (cal:Cal) (k:Nat):KR:=(cutK (A 30).c (az P cal (ax P cal k) none 30 (cR tw) (Lv.b (A 30)) (aw P gQ) X0 (aw P gQ)))
noncomputable def K30_pr (cal:Cal) (k:Nat):KR:=(cutK (Lv.b (A 30)).c (az P cal (ax P cal k) none 30 (cR (cR tw)) (Lv.b (Lv.b (A 30))) (aw P gQ) X0 (aw P gQ)))
noncomputable def K30_prl (cal:Cal) (k:Nat):KR:=(cutK (Lv.a (Lv.b (A 30))).c (az P cal (ax P cal k) none 30 (cR (cL (cR tw))) (Lv.b (Lv.a (Lv.b (A 30)))) (K30_pr cal k) X0 (aw P gQ)))
noncomputable def K30_prlrl (cal:Cal) (k:Nat):KR:=(cutK (Lv.a (Lv.b (Lv.a (Lv.b (A 30))))).c (az P cal (ax P cal k) none 30 (cR (cL (cR (cL (cR tw))))) (Lv.b (Lv.a (Lv.b (Lv.a (Lv.b (A 30)))))) (K30_pr cal k) X0 (aw P gQ)))
noncomputable def Yz (cal:Cal) (k:Nat):KR:=(cutK (Lv.b (Lv.b (A 30))).c (az P cal (ax P cal k) none 30 (cR (cR (cR tw))) (Lv.b (Lv.b (Lv.b (A 30)))) (aw P gQ) X0 (aw P gQ)))
noncomputable def K30_prrl (cal:Cal) (k:Nat):KR:=(cutK (Lv.a (Lv.b (Lv.b (A 30)))).c (az P cal (ax P cal k) none 30 (cR (cL (cR (cR tw)))) (Lv.b (Lv.a (Lv.b (Lv.b (A 30))))) (Yz cal k) X0 (aw P gQ)))
noncomputable def uZ (cal:Cal) (k:Nat):XR:=(upX 0 (Yz cal k) X0)
noncomputable def PW (cal:Cal) (k:Nat) (m1:Nat):KR:=(fun T H n D=>ax P cal m1 (Lv.a (Lv.b (Lv.a (Lv.b (Lv.b (A 30)))))) none 30 (cL (cR (cL (cR (cR tw))))) (Yz cal k) (uZ cal k) (aw P gQ) (cutT (Lv.a (Lv.b (Lv.a (Lv.b (Lv.b (A 30)))))).c T) H n D)
noncomputable def K30_prrlrll (cal:Cal) (k:Nat) (m1:Nat):KR:=(cutK (Lv.a (Lv.a (Lv.b (Lv.a (Lv.b (Lv.b (A 30))))))).c (az P cal (ax P cal m1) none 30 (cR (cL (cL (cR (cL (cR (cR tw))))))) (Lv.b (Lv.a (Lv.a (Lv.b (Lv.a (Lv.b (Lv.b (A 30)))))))) (PW cal k m1) (uZ cal k) (aw P gQ)))
noncomputable def K30_prrlrlll (cal:Cal) (k:Nat) (m1:Nat):KR:=(cutK (Lv.a (Lv.a (Lv.a (Lv.b (Lv.a (Lv.b (Lv.b (A 30)))))))).c (az P cal (ax P cal m1) none 30 (cR (cL (cL (cL (cR (cL (cR (cR tw)))))))) (Lv.b (Lv.a (Lv.a (Lv.a (Lv.b (Lv.a (Lv.b (Lv.b (A 30))))))))) (K30_prrlrll cal k m1) (uZ cal k) (aw P gQ)))
noncomputable def HJ (cal:Cal) (k:Nat) (m1:Nat):KR:=(cutK (Lv.b (Lv.a (Lv.a (Lv.b (Lv.a (Lv.b (Lv.b (A 30)))))))).c (az P cal (ax P cal m1) none 30 (cR (cR (cL (cL (cR (cL (cR (cR tw)))))))) (Lv.b (Lv.b (Lv.a (Lv.a (Lv.b (Lv.a (Lv.b (Lv.b (A 30))))))))) (PW cal k m1) (uZ cal k) (aw P gQ)))
noncomputable def K30_pxrrlrllrl (cal:Cal) (k:Nat) (m1:Nat):XR:=(upX 1 (HJ cal k m1) (uZ cal k))
noncomputable def K30_prrlrllrll (cal:Cal) (k:Nat) (m1:Nat):KR:=(cutK (Lv.a (Lv.a (Lv.b (Lv.a (Lv.a (Lv.b (Lv.a (Lv.b (Lv.b (A 30)))))))))).c (az P cal (ax P cal m1) none 30 (cR (cL (cL (cR (cL (cL (cR (cL (cR (cR tw)))))))))) (Lv.b (Lv.a (Lv.a (Lv.b (Lv.a (Lv.a (Lv.b (Lv.a (Lv.b (Lv.b (A 30))))))))))) (HJ cal k m1) (K30_pxrrlrllrl cal k m1) (aw P gQ)))
noncomputable def K30_prrlrllrllrl (cal:Cal) (k:Nat) (m1:Nat):KR:=(cutK (Lv.a (Lv.b (Lv.a (Lv.a (Lv.b (Lv.a (Lv.a (Lv.b (Lv.a (Lv.b (Lv.b (A 30)))))))))))).c (az P cal (ax P cal m1) none 30 (cR (cL (cR (cL (cL (cR (cL (cL (cR (cL (cR (cR tw)))))))))))) (Lv.b (Lv.a (Lv.b (Lv.a (Lv.a (Lv.b (Lv.a (Lv.a (Lv.b (Lv.a (Lv.b (Lv.b (A 30))))))))))))) (HJ cal k m1) (K30_pxrrlrllrl cal k m1) (aw P gQ)))
noncomputable def K30_prrr (cal:Cal) (k:Nat):KR:=(cutK (Lv.b (Lv.b (Lv.b (A 30)))).c (az P cal (ax P cal k) none 30 (cR (cR (cR (cR tw)))) (Lv.b (Lv.b (Lv.b (Lv.b (A 30))))) (aw P gQ) X0 (aw P gQ)))
noncomputable def E30_1 (cal:Cal) (k m1:Nat):KR:=az P cal (ax P cal m1) none 30 (cL (cL (cR (cL (cR (cR tw)))))) (Lv.a (Lv.a (Lv.b (Lv.a (Lv.b (Lv.b (A 30))))))) (PW cal k m1) (uZ cal k) (aw P gQ)
noncomputable def R30_1 (cal:Cal) (k m1:Nat):V3:=fun u0 u1 u5 H n=>ax P cal m1 (Lv.a (Lv.b (Lv.a (Lv.b (Lv.b (A 30)))))) none 30 (cL (cR (cL (cR (cR tw))))) (Yz cal k) (uZ cal k) (aw P gQ) (Tr.set (Tr.set (Tr.set Tr.nil 5 (some u5)) 1 (some u1)) 0 (some u0)) H n []
noncomputable def B30_1 (cal:Cal) (k m1:Nat) (b1:V3) (u0 u1 u5:Value) (H:Hp) (n:Nat):Res:=
aq (lenV P 44 u0) fun v_b=>
binK P .lss 3 (.tmp 11) (.tmp 13) u5 v_b fun v_c=>
ifK v_c (
aq (aY P 44 u0 u5) fun v_f=>
aq (aX v_f) fun a_g=>aq (ak P H 3 a_g) fun v_h=>
aq (aY P 44 u1 u5) fun v_k=>
aq (aX v_k) fun a_l=>aq (ak P H 3 a_l) fun v_m=>
binK P .neq 3 (.tmp 20) (.tmp 24) v_h v_m fun v_n=>
ifK v_n (
some ((.bool false),H,n)) (
binK P .add 3 (.tmp 15) (.const (.int .i64 1)) u5 (.int .i64 1) fun v_q=>
b1 u0 u1 v_q H n)) (
some ((.bool true),H,n))
noncomputable def C30_1 (cal:Cal) (k m1:Nat) (b1:V3) (u0 u1 u5:Value) (H:Hp) (n:Nat):Res:=B30_1 cal k m1 b1 u0 u1 u5 H n
noncomputable def S30_1 (cal:Cal) (k:Nat):Nat→V3:=fun m=>Nat.rec (motive:=fun _=>V3) (C30_1 cal k 0 (fun _ _ _ _ _=>none)) (fun m ih=>C30_1 cal k (m+1) ih) m
theorem h30_1 (cal:Cal) (k m1:Nat) (u0 u1 u5:Value) (H:Hp) (n:Nat):labK (E30_1 cal k m1) (Tr.set (Tr.set (Tr.set Tr.nil 5 (some u5)) 1 (some u1)) 0 (some u0)) H n []=C30_1 cal k m1 (R30_1 cal k m1) u0 u1 u5 H n:=by
 refine Eq.trans (b:=B30_1 cal k m1 (R30_1 cal k m1) u0 u1 u5 H n) (by kernel_rfl) ?_
 rw[C30_1]
theorem q30_1 (cal:Cal) (k:Nat):∀(m:Nat) (u0 u1 u5:Value) (H:Hp) (n:Nat),labK (E30_1 cal k m) (Tr.set (Tr.set (Tr.set Tr.nil 5 (some u5)) 1 (some u1)) 0 (some u0)) H n []=S30_1 cal k m u0 u1 u5 H n
 | 0,u0,u1,u5,H,n=>by
  rw[h30_1]
  have e:R30_1 cal k 0=fun _ _ _ _ _=>none:=by funext u0 u1 u5 H n; kernel_rfl
  rw[e]; rfl
 | m+1,u0,u1,u5,H,n=>by
  rw[h30_1]
  have e:R30_1 cal k (m+1)=S30_1 cal k m:=by
   funext u0 u1 u5 H n
   have e:R30_1 cal k (m+1) u0 u1 u5 H n=labK (E30_1 cal k m) (Tr.set (Tr.set (Tr.set Tr.nil 5 (some u5)) 1 (some u1)) 0 (some u0)) H n []:=by kernel_rfl
   rw[e]; exact q30_1 ..
  rw[e]; rfl
noncomputable def B30_0 (cal:Cal) (k:Nat) (j1:V3) (v0 v1:Value) (H:Hp) (n:Nat):Res:=
aq (lenV P 44 v0) fun v_3=>
aq (lenV P 44 v1) fun v_5=>
binK P .neq 3 (.tmp 7) (.tmp 9) v_3 v_5 fun v_6=>
ifK v_6 (
some ((.bool false),H,n)) (
j1 v0 v1 (.int .i64 0) H n)
noncomputable def C30_0 (cal:Cal) (k:Nat) (v0 v1:Value) (H:Hp) (n:Nat):Res:=B30_0 cal k (S30_1 cal k k) v0 v1 H n
theorem h30_0 (cal:Cal) (k:Nat) (v0 v1:Value) (H:Hp) (n:Nat):aK P cal A (k+1) 30 [v0,v1] H n=C30_0 cal k v0 v1 H n:=by
 have h:aK P cal A (k+1) 30 [v0,v1] H n=B30_0 cal k (fun u0 u1 u5 H n=>labK (E30_1 cal k k) (Tr.set (Tr.set (Tr.set Tr.nil 5 (some u5)) 1 (some u1)) 0 (some u0)) H n []) v0 v1 H n:=by
  rw[bQ (fn:=Go.Proofs.Try.f30) (c:=tw) (rs:=gQ) (by kernel_rfl) (by kernel_rfl) (by kernel_rfl) (by kernel_rfl)]
  kernel_rfl
 rw[h,C30_0]
 have e1:(fun u0 u1 u5 H n=>labK (E30_1 cal k k) (Tr.set (Tr.set (Tr.set Tr.nil 5 (some u5)) 1 (some u1)) 0 (some u0)) H n [])=(S30_1 cal k k):=by funext u0 u1 u5 H n; exact q30_1 ..
 rw[e1]
noncomputable def code32:Code:=cw 32
noncomputable def FW:List ResultVar:=dk 32
noncomputable def K32_p (cal:Cal) (k:Nat):KR:=(cutK (A 32).c (az P cal (ax P cal k) none 32 (cR code32) (Lv.b (A 32)) (aw P FW) X0 (aw P FW)))
noncomputable def K32_pr (cal:Cal) (k:Nat):KR:=(cutK (Lv.b (A 32)).c (az P cal (ax P cal k) none 32 (cR (cR code32)) (Lv.b (Lv.b (A 32))) (aw P FW) X0 (aw P FW)))
noncomputable def B32_0 (cal:Cal) (k:Nat) (v0 v1 v2:Value) (H:Hp) (n:Nat):Res:=
binK P .geq 3 (.tmp 7) (.tmp 8) v0 v1 fun v_4=>
aV v_4 true (fun k_6=>
k_6 v0 H n) H n fun v_7 H_8 n_9=>
aV v_4 true (fun k_b=>
k_b v2 H_8 n_9) H_8 n_9 fun v_c H_d n_e=>
aV v_4 true (fun k_g=>
binK P .leq 3 (.tmp 11) (.tmp 12) v_7 v_c fun v_k=>
k_g v_k H_d n_e) H_d n_e fun v_h H_i n_j=>
aq (dv v_4 v_h (.bool false)) fun v_l=>
some (v_l,H_i,n_j)
noncomputable def C32_0 (cal:Cal) (k:Nat) (v0 v1 v2:Value) (H:Hp) (n:Nat):Res:=B32_0 cal k v0 v1 v2 H n
theorem h32_0 (cal:Cal) (k:Nat) (v0 v1 v2:Value) (H:Hp) (n:Nat):aK P cal A (k+1) 32 [v0,v1,v2] H n=C32_0 cal k v0 v1 v2 H n:=by
 have h:aK P cal A (k+1) 32 [v0,v1,v2] H n=B32_0 cal k v0 v1 v2 H n:=by
  rw[bQ (fn:=Go.Proofs.Try.f32) (c:=code32) (rs:=FW) (by kernel_rfl) (by kernel_rfl) (by kernel_rfl) (by kernel_rfl)]
  kernel_rfl
 rw[h,C32_0]
noncomputable def Cx:Code:=cw 42
noncomputable def jv:List ResultVar:=dk 42
noncomputable def K42_p (cal:Cal) (k:Nat):KR:=(cutK (A 42).c (az P cal (ax P cal k) none 42 (cR Cx) (Lv.b (A 42)) (aw P jv) X0 (aw P jv)))
noncomputable def K42_pr (cal:Cal) (k:Nat):KR:=(cutK (Lv.b (A 42)).c (az P cal (ax P cal k) none 42 (cR (cR Cx)) (Lv.b (Lv.b (A 42))) (aw P jv) X0 (aw P jv)))
noncomputable def K42_prr (cal:Cal) (k:Nat):KR:=(cutK (Lv.b (Lv.b (A 42))).c (az P cal (ax P cal k) none 42 (cR (cR (cR Cx))) (Lv.b (Lv.b (Lv.b (A 42)))) (aw P jv) X0 (aw P jv)))
noncomputable def K42_prrl (cal:Cal) (k:Nat):KR:=(cutK (Lv.a (Lv.b (Lv.b (A 42)))).c (az P cal (ax P cal k) none 42 (cR (cL (cR (cR Cx)))) (Lv.b (Lv.a (Lv.b (Lv.b (A 42))))) (K42_prr cal k) X0 (aw P jv)))
noncomputable def K42_prrlrl (cal:Cal) (k:Nat):KR:=(cutK (Lv.a (Lv.b (Lv.a (Lv.b (Lv.b (A 42)))))).c (az P cal (ax P cal k) none 42 (cR (cL (cR (cL (cR (cR Cx)))))) (Lv.b (Lv.a (Lv.b (Lv.a (Lv.b (Lv.b (A 42))))))) (K42_prr cal k) X0 (aw P jv)))
noncomputable def K42_prrr (cal:Cal) (k:Nat):KR:=(cutK (Lv.b (Lv.b (Lv.b (A 42)))).c (az P cal (ax P cal k) none 42 (cR (cR (cR (cR Cx)))) (Lv.b (Lv.b (Lv.b (Lv.b (A 42))))) (aw P jv) X0 (aw P jv)))
noncomputable def K42_prrrr (cal:Cal) (k:Nat):KR:=(cutK (Lv.b (Lv.b (Lv.b (Lv.b (A 42))))).c (az P cal (ax P cal k) none 42 (cR (cR (cR (cR (cR Cx))))) (Lv.b (Lv.b (Lv.b (Lv.b (Lv.b (A 42)))))) (aw P jv) X0 (aw P jv)))
noncomputable def K42_prrrrl (cal:Cal) (k:Nat):KR:=(cutK (Lv.a (Lv.b (Lv.b (Lv.b (Lv.b (A 42)))))).c (az P cal (ax P cal k) none 42 (cR (cL (cR (cR (cR (cR Cx)))))) (Lv.b (Lv.a (Lv.b (Lv.b (Lv.b (Lv.b (A 42))))))) (K42_prrrr cal k) X0 (aw P jv)))
noncomputable def K42_prrrrlrl (cal:Cal) (k:Nat):KR:=(cutK (Lv.a (Lv.b (Lv.a (Lv.b (Lv.b (Lv.b (Lv.b (A 42)))))))).c (az P cal (ax P cal k) none 42 (cR (cL (cR (cL (cR (cR (cR (cR Cx)))))))) (Lv.b (Lv.a (Lv.b (Lv.a (Lv.b (Lv.b (Lv.b (Lv.b (A 42))))))))) (K42_prrrr cal k) X0 (aw P jv)))
noncomputable def K42_prrrrr (cal:Cal) (k:Nat):KR:=(cutK (Lv.b (Lv.b (Lv.b (Lv.b (Lv.b (A 42)))))).c (az P cal (ax P cal k) none 42 (cR (cR (cR (cR (cR (cR Cx)))))) (Lv.b (Lv.b (Lv.b (Lv.b (Lv.b (Lv.b (A 42))))))) (aw P jv) X0 (aw P jv)))
noncomputable def B42_0 (cal:Cal) (k:Nat) (v0:Value) (H:Hp) (n:Nat):Res:=
boxK 35 v0 H n fun v_1 H_2 n_3=>
aq (aX v_1) fun a_8=>aq (ak P H_2 35 a_8) fun v_7=>
aW P cal 61 [v_7] H_2 n_3 fun v_9 H_a n_b=>
aq (tupV v_9 0) fun v_d=>
aq (tupV v_9 1) fun v_e=>
binK P .neq 29 (.tmp 13) (.const (.int .i64 0)) v_e (.int .i64 0) fun v_i=>
ifK v_i (
some ((Value.tuple ⟨[(.slice none 0 0),(.int .i64 0),v_e]⟩),H_a,n_b)) (
aW P cal 81 [v_d] H_a n_b fun v_o H_p n_q=>
aq (tupV v_o 0) fun v_s=>
aq (tupV v_o 1) fun v_t=>
cQ P 121 H_p n_q fun v_u H_v n_w=>
aq (bx P 121 v_u v_s H_v) fun H_y=>
aq (cW P v_t (Op.unary UnOp.not v_t)) fun v_11=>
ifK v_11 (
some ((Value.tuple ⟨[(.slice none 0 0),(.int .i64 0),(.int .i64 10)]⟩),H_y,n_w)) (
aq (nilV v_d) fun v_16=>
aq (ay P 117 v_16 0) fun v_17=>
aq (ay P 35 v_17 0) fun v_18=>
aq (aX v_18) fun a_19=>aq (ak P H_y 31 a_19) fun v_1a=>
aq (lenV P 31 v_1a) fun v_1b=>
aq (GJ P 121 v_u none (some v_1b)) fun v_1c=>
aq (aX v_u) fun a_1e=>aq (ak P H_y 121 a_1e) fun v_1f=>
effK P [(.l 121 a_1e)] H_y n_w (fun H_1g n_1h k_1i=>
aW P cal 76 [v_1c] H_1g n_1h fun v_1m H_1n n_1o=>
k_1i v_1m H_1n n_1o) fun v_1j H_1k n_1l=>
aW P cal 82 [v_d,v_1f] H_1k n_1l fun v_1p H_1q n_1r=>
some ((Value.tuple ⟨[v_1j,v_1p,(.int .i64 0)]⟩),H_1q,n_1r)))
noncomputable def RX (cal:Cal) (k:Nat) (v0:Value) (H:Hp) (n:Nat):Res:=B42_0 cal k v0 H n
theorem h42_0 (cal:Cal) (k:Nat) (v0:Value) (H:Hp) (n:Nat):aK P cal A (k+1) 42 [v0] H n=RX cal k v0 H n:=by
 have h:aK P cal A (k+1) 42 [v0] H n=B42_0 cal k v0 H n:=by
  rw[bQ (fn:=Go.Proofs.Try.f42) (c:=Cx) (rs:=jv) (by kernel_rfl) (by kernel_rfl) (by kernel_rfl) (by kernel_rfl)]
  kernel_rfl
 rw[h,RX]
noncomputable def code43:Code:=cw 43
noncomputable def yW:List ResultVar:=dk 43
noncomputable def K43_p (cal:Cal) (k:Nat):KR:=(cutK (A 43).c (az P cal (ax P cal k) none 43 (cR code43) (Lv.b (A 43)) (aw P yW) X0 (aw P yW)))
noncomputable def K43_pr (cal:Cal) (k:Nat):KR:=(cutK (Lv.b (A 43)).c (az P cal (ax P cal k) none 43 (cR (cR code43)) (Lv.b (Lv.b (A 43))) (aw P yW) X0 (aw P yW)))
noncomputable def K43_prr (cal:Cal) (k:Nat):KR:=(cutK (Lv.b (Lv.b (A 43))).c (az P cal (ax P cal k) none 43 (cR (cR (cR code43))) (Lv.b (Lv.b (Lv.b (A 43)))) (aw P yW) X0 (aw P yW)))
noncomputable def B43_0 (cal:Cal) (k:Nat) (v0 v1 v2:Value) (H:Hp) (n:Nat):Res:=
boxK 35 v0 H n fun v_1 H_2 n_3=>
aq (aX v_1) fun a_6=>aq (ak P H_2 35 a_6) fun v_5=>
aW P cal 65 [v_5,v1] H_2 n_3 fun v_8 H_9 n_a=>
aq (tupV v_8 0) fun v_c=>
aq (tupV v_8 1) fun v_d=>
aq (tupV v_8 2) fun v_e=>
cQ P 121 H_9 n_a fun v_f H_g n_h=>
aq (bx P 121 v_f v_d H_g) fun H_k=>
binK P .eql 29 (.tmp 17) (.const (.int .i64 0)) v_e (.int .i64 0) fun v_n=>
aV v_n true (fun k_p=>
k_p v_c H_k n_h) H_k n_h fun v_q H_r n_s=>
aV v_n true (fun k_u=>
k_u v_c H_r n_s) H_r n_s fun v_v H_w n_x=>
aV v_n true (fun k_z=>
aq (aX v_f) fun a_14=>aq (ak P H_w 121 a_14) fun v_13=>
k_z v_13 H_w n_x) H_w n_x fun v_10 H_11 n_12=>
aV v_n true (fun k_15=>
aW P cal 66 [v_v,v_10] H_11 n_12 fun v_19 H_1a n_1b=>
k_15 v_19 H_1a n_1b) H_11 n_12 fun v_16 H_17 n_18=>
aV v_n true (fun k_1c=>
aW P cal 83 [v_q,v_16] H_17 n_18 fun v_1g H_1h n_1i=>
k_1c v_1g H_1h n_1i) H_17 n_18 fun v_1d H_1e n_1f=>
aq (dv v_n v_1d (.bool false)) fun v_1j=>
aV v_1j true (fun k_1l=>
k_1l v_c H_1e n_1f) H_1e n_1f fun v_1m H_1n n_1o=>
aV v_1j true (fun k_1q=>
aq (aX v_f) fun a_1v=>aq (ak P H_1n 121 a_1v) fun v_1u=>
k_1q v_1u H_1n n_1o) H_1n n_1o fun v_1r H_1s n_1t=>
aV v_1j true (fun k_1w=>
aW P cal 82 [v_1m,v_1r] H_1s n_1t fun v_20 H_21 n_22=>
k_1w v_20 H_21 n_22) H_1s n_1t fun v_1x H_1y n_1z=>
aV v_1j true (fun k_23=>
k_23 v2 H_1y n_1z) H_1y n_1z fun v_24 H_25 n_26=>
aV v_1j true (fun k_28=>
binK P .leq 3 (.tmp 29) (.tmp 30) v_1x v_24 fun v_2c=>
k_28 v_2c H_25 n_26) H_25 n_26 fun v_29 H_2a n_2b=>
aq (dv v_1j v_29 (.bool false)) fun v_2d=>
some (v_2d,H_2a,n_2b)
noncomputable def C43_0 (cal:Cal) (k:Nat) (v0 v1 v2:Value) (H:Hp) (n:Nat):Res:=B43_0 cal k v0 v1 v2 H n
theorem h43_0 (cal:Cal) (k:Nat) (v0 v1 v2:Value) (H:Hp) (n:Nat):aK P cal A (k+1) 43 [v0,v1,v2] H n=C43_0 cal k v0 v1 v2 H n:=by
 have h:aK P cal A (k+1) 43 [v0,v1,v2] H n=B43_0 cal k v0 v1 v2 H n:=by
  rw[bQ (fn:=Go.Proofs.Try.f43) (c:=code43) (rs:=yW) (by kernel_rfl) (by kernel_rfl) (by kernel_rfl) (by kernel_rfl)]
  kernel_rfl
 rw[h,C43_0]
noncomputable def wX:Code:=cw 45
noncomputable def iQ:List ResultVar:=dk 45
noncomputable def K45_p (cal:Cal) (k:Nat):KR:=(cutK (A 45).c (az P cal (ax P cal k) none 45 (cR wX) (Lv.b (A 45)) (aw P iQ) X0 (aw P iQ)))
noncomputable def K45_pr (cal:Cal) (k:Nat):KR:=(cutK (Lv.b (A 45)).c (az P cal (ax P cal k) none 45 (cR (cR wX)) (Lv.b (Lv.b (A 45))) (aw P iQ) X0 (aw P iQ)))
noncomputable def Yk (cal:Cal) (k:Nat):KR:=(cutK (Lv.b (Lv.b (A 45))).c (az P cal (ax P cal k) none 45 (cR (cR (cR wX))) (Lv.b (Lv.b (Lv.b (A 45)))) (aw P iQ) X0 (aw P iQ)))
noncomputable def K45_prrl (cal:Cal) (k:Nat):KR:=(cutK (Lv.a (Lv.b (Lv.b (A 45)))).c (az P cal (ax P cal k) none 45 (cR (cL (cR (cR wX)))) (Lv.b (Lv.a (Lv.b (Lv.b (A 45))))) (Yk cal k) X0 (aw P iQ)))
noncomputable def rQ (cal:Cal) (k:Nat):XR:=(upX 0 (Yk cal k) X0)
noncomputable def HQ (cal:Cal) (k:Nat) (m1:Nat):KR:=(fun T H n D=>ax P cal m1 (Lv.a (Lv.b (Lv.a (Lv.b (Lv.b (A 45)))))) none 45 (cL (cR (cL (cR (cR wX))))) (Yk cal k) (rQ cal k) (aw P iQ) (cutT (Lv.a (Lv.b (Lv.a (Lv.b (Lv.b (A 45)))))).c T) H n D)
noncomputable def K45_prrlrll (cal:Cal) (k:Nat) (m1:Nat):KR:=(cutK (Lv.a (Lv.a (Lv.b (Lv.a (Lv.b (Lv.b (A 45))))))).c (az P cal (ax P cal m1) none 45 (cR (cL (cL (cR (cL (cR (cR wX))))))) (Lv.b (Lv.a (Lv.a (Lv.b (Lv.a (Lv.b (Lv.b (A 45)))))))) (HQ cal k m1) (rQ cal k) (aw P iQ)))
noncomputable def K45_prrlrlll (cal:Cal) (k:Nat) (m1:Nat):KR:=(cutK (Lv.a (Lv.a (Lv.a (Lv.b (Lv.a (Lv.b (Lv.b (A 45)))))))).c (az P cal (ax P cal m1) none 45 (cR (cL (cL (cL (cR (cL (cR (cR wX)))))))) (Lv.b (Lv.a (Lv.a (Lv.a (Lv.b (Lv.a (Lv.b (Lv.b (A 45))))))))) (K45_prrlrll cal k m1) (rQ cal k) (aw P iQ)))
noncomputable def K45_prrlrllr (cal:Cal) (k:Nat) (m1:Nat):KR:=(cutK (Lv.b (Lv.a (Lv.a (Lv.b (Lv.a (Lv.b (Lv.b (A 45)))))))).c (az P cal (ax P cal m1) none 45 (cR (cR (cL (cL (cR (cL (cR (cR wX)))))))) (Lv.b (Lv.b (Lv.a (Lv.a (Lv.b (Lv.a (Lv.b (Lv.b (A 45))))))))) (HQ cal k m1) (rQ cal k) (aw P iQ)))
noncomputable def K45_pxrrlrllrl (cal:Cal) (k:Nat) (m1:Nat):XR:=(upX 1 (K45_prrlrllr cal k m1) (rQ cal k))
noncomputable def K45_prrlrllrll (cal:Cal) (k:Nat) (m1:Nat):KR:=(cutK (Lv.a (Lv.a (Lv.b (Lv.a (Lv.a (Lv.b (Lv.a (Lv.b (Lv.b (A 45)))))))))).c (az P cal (ax P cal m1) none 45 (cR (cL (cL (cR (cL (cL (cR (cL (cR (cR wX)))))))))) (Lv.b (Lv.a (Lv.a (Lv.b (Lv.a (Lv.a (Lv.b (Lv.a (Lv.b (Lv.b (A 45))))))))))) (K45_prrlrllr cal k m1) (K45_pxrrlrllrl cal k m1) (aw P iQ)))
noncomputable def K45_prrr (cal:Cal) (k:Nat):KR:=(cutK (Lv.b (Lv.b (Lv.b (A 45)))).c (az P cal (ax P cal k) none 45 (cR (cR (cR (cR wX)))) (Lv.b (Lv.b (Lv.b (Lv.b (A 45))))) (aw P iQ) X0 (aw P iQ)))
noncomputable def E45_2 (cal:Cal) (k m1:Nat):KR:=az P cal (ax P cal m1) none 45 (cR (cR (cL (cL (cR (cL (cR (cR wX)))))))) (Lv.b (Lv.b (Lv.a (Lv.a (Lv.b (Lv.a (Lv.b (Lv.b (A 45))))))))) (HQ cal k m1) (rQ cal k) (aw P iQ)
noncomputable def E45_1 (cal:Cal) (k m1:Nat):KR:=az P cal (ax P cal m1) none 45 (cL (cL (cR (cL (cR (cR wX)))))) (Lv.a (Lv.a (Lv.b (Lv.a (Lv.b (Lv.b (A 45))))))) (HQ cal k m1) (rQ cal k) (aw P iQ)
noncomputable def WW (cal:Cal) (k m1:Nat):V3:=fun u0 u3 u4 H n=>ax P cal m1 (Lv.a (Lv.b (Lv.a (Lv.b (Lv.b (A 45)))))) none 45 (cL (cR (cL (cR (cR wX))))) (Yk cal k) (rQ cal k) (aw P iQ) (Tr.set (Tr.set (Tr.set Tr.nil 4 (some u4)) 3 (some u3)) 0 (some u0)) H n []
noncomputable def B45_2 (cal:Cal) (k m1:Nat) (b1:V3) (u0 u3 u4:Value) (H:Hp) (n:Nat):Res:=
binK P .add 3 (.tmp 9) (.const (.int .i64 1)) u4 (.int .i64 1) fun v_9=>
b1 u0 u3 v_9 H n
noncomputable def C45_2 (cal:Cal) (k m1:Nat) (b1:V3) (u0 u3 u4:Value) (H:Hp) (n:Nat):Res:=B45_2 cal k m1 b1 u0 u3 u4 H n
theorem h45_2 (cal:Cal) (k m1:Nat) (u0 u3 u4:Value) (H:Hp) (n:Nat):labK (E45_2 cal k m1) (Tr.set (Tr.set (Tr.set Tr.nil 4 (some u4)) 3 (some u3)) 0 (some u0)) H n []=C45_2 cal k m1 (WW cal k m1) u0 u3 u4 H n:=by
 refine Eq.trans (b:=B45_2 cal k m1 (WW cal k m1) u0 u3 u4 H n) (by kernel_rfl) ?_
 rw[C45_2]
noncomputable def B45_1 (cal:Cal) (k m1:Nat) (j2:V3) (b1:V3) (u0 u3 u4:Value) (H:Hp) (n:Nat):Res:=
aq (lenV P 44 u0) fun v_6=>
binK P .lss 3 (.tmp 5) (.tmp 7) u4 v_6 fun v_7=>
ifK v_7 (
aq (aY P 44 u0 u4) fun v_d=>
aq (aX v_d) fun a_f=>aq (ak P H 3 a_f) fun v_e=>
binK P .geq 3 (.tmp 14) (.const (.int .i64 0)) v_e (.int .i64 0) fun v_g=>
ifK v_g (
binK P .add 3 (.tmp 16) (.const (.int .i64 1)) u3 (.int .i64 1) fun v_i=>
j2 u0 v_i u4 H n) (
j2 u0 u3 u4 H n)) (
some (u3,H,n))
noncomputable def C45_1 (cal:Cal) (k m1:Nat) (b1:V3) (u0 u3 u4:Value) (H:Hp) (n:Nat):Res:=B45_1 cal k m1 (C45_2 cal k m1 b1) b1 u0 u3 u4 H n
noncomputable def S45_1 (cal:Cal) (k:Nat):Nat→V3:=fun m=>Nat.rec (motive:=fun _=>V3) (C45_1 cal k 0 (fun _ _ _ _ _=>none)) (fun m ih=>C45_1 cal k (m+1) ih) m
theorem h45_1 (cal:Cal) (k m1:Nat) (u0 u3 u4:Value) (H:Hp) (n:Nat):labK (E45_1 cal k m1) (Tr.set (Tr.set (Tr.set Tr.nil 4 (some u4)) 3 (some u3)) 0 (some u0)) H n []=C45_1 cal k m1 (WW cal k m1) u0 u3 u4 H n:=by
 refine Eq.trans (b:=B45_1 cal k m1 (fun u0 u3 u4 H n=>labK (E45_2 cal k m1) (Tr.set (Tr.set (Tr.set Tr.nil 4 (some u4)) 3 (some u3)) 0 (some u0)) H n []) (WW cal k m1) u0 u3 u4 H n) (by kernel_rfl) ?_
 rw[C45_1]
 have e2:(fun u0 u3 u4 H n=>labK (E45_2 cal k m1) (Tr.set (Tr.set (Tr.set Tr.nil 4 (some u4)) 3 (some u3)) 0 (some u0)) H n [])=(C45_2 cal k m1 (WW cal k m1)):=by funext u0 u3 u4 H n; exact h45_2 ..
 rw[e2]
theorem q45_1 (cal:Cal) (k:Nat):∀(m:Nat) (u0 u3 u4:Value) (H:Hp) (n:Nat),labK (E45_1 cal k m) (Tr.set (Tr.set (Tr.set Tr.nil 4 (some u4)) 3 (some u3)) 0 (some u0)) H n []=S45_1 cal k m u0 u3 u4 H n
 | 0,u0,u3,u4,H,n=>by
  rw[h45_1]
  have e:WW cal k 0=fun _ _ _ _ _=>none:=by funext u0 u3 u4 H n; kernel_rfl
  rw[e]; rfl
 | m+1,u0,u3,u4,H,n=>by
  rw[h45_1]
  have e:WW cal k (m+1)=S45_1 cal k m:=by
   funext u0 u3 u4 H n
   have e:WW cal k (m+1) u0 u3 u4 H n=labK (E45_1 cal k m) (Tr.set (Tr.set (Tr.set Tr.nil 4 (some u4)) 3 (some u3)) 0 (some u0)) H n []:=by kernel_rfl
   rw[e]; exact q45_1 ..
  rw[e]; rfl
noncomputable def B45_0 (cal:Cal) (k:Nat) (j1:V3) (v0:Value) (H:Hp) (n:Nat):Res:=
j1 v0 (.int .i64 0) (.int .i64 0) H n
noncomputable def C45_0 (cal:Cal) (k:Nat) (v0:Value) (H:Hp) (n:Nat):Res:=B45_0 cal k (S45_1 cal k k) v0 H n
theorem h45_0 (cal:Cal) (k:Nat) (v0:Value) (H:Hp) (n:Nat):aK P cal A (k+1) 45 [v0] H n=C45_0 cal k v0 H n:=by
 have h:aK P cal A (k+1) 45 [v0] H n=B45_0 cal k (fun u0 u3 u4 H n=>labK (E45_1 cal k k) (Tr.set (Tr.set (Tr.set Tr.nil 4 (some u4)) 3 (some u3)) 0 (some u0)) H n []) v0 H n:=by
  rw[bQ (fn:=Go.Proofs.Try.f45) (c:=wX) (rs:=iQ) (by kernel_rfl) (by kernel_rfl) (by kernel_rfl) (by kernel_rfl)]
  kernel_rfl
 rw[h,C45_0]
 have e1:(fun u0 u3 u4 H n=>labK (E45_1 cal k k) (Tr.set (Tr.set (Tr.set Tr.nil 4 (some u4)) 3 (some u3)) 0 (some u0)) H n [])=(S45_1 cal k k):=by funext u0 u3 u4 H n; exact q45_1 ..
 rw[e1]
noncomputable def PX:Code:=cw 48
noncomputable def pQ:List ResultVar:=dk 48
noncomputable def K48_p (cal:Cal) (k:Nat):KR:=(cutK (A 48).c (az P cal (ax P cal k) none 48 (cR PX) (Lv.b (A 48)) (aw P pQ) X0 (aw P pQ)))
noncomputable def K48_pr (cal:Cal) (k:Nat):KR:=(cutK (Lv.b (A 48)).c (az P cal (ax P cal k) none 48 (cR (cR PX)) (Lv.b (Lv.b (A 48))) (aw P pQ) X0 (aw P pQ)))
noncomputable def K48_prr (cal:Cal) (k:Nat):KR:=(cutK (Lv.b (Lv.b (A 48))).c (az P cal (ax P cal k) none 48 (cR (cR (cR PX))) (Lv.b (Lv.b (Lv.b (A 48)))) (aw P pQ) X0 (aw P pQ)))
noncomputable def K48_prrl (cal:Cal) (k:Nat):KR:=(cutK (Lv.a (Lv.b (Lv.b (A 48)))).c (az P cal (ax P cal k) none 48 (cR (cL (cR (cR PX)))) (Lv.b (Lv.a (Lv.b (Lv.b (A 48))))) (K48_prr cal k) X0 (aw P pQ)))
noncomputable def K48_prrlrl (cal:Cal) (k:Nat):KR:=(cutK (Lv.a (Lv.b (Lv.a (Lv.b (Lv.b (A 48)))))).c (az P cal (ax P cal k) none 48 (cR (cL (cR (cL (cR (cR PX)))))) (Lv.b (Lv.a (Lv.b (Lv.a (Lv.b (Lv.b (A 48))))))) (K48_prr cal k) X0 (aw P pQ)))
noncomputable def K48_prrr (cal:Cal) (k:Nat):KR:=(cutK (Lv.b (Lv.b (Lv.b (A 48)))).c (az P cal (ax P cal k) none 48 (cR (cR (cR (cR PX)))) (Lv.b (Lv.b (Lv.b (Lv.b (A 48))))) (aw P pQ) X0 (aw P pQ)))
noncomputable def B48_0 (cal:Cal) (k:Nat) (v0:Value) (H:Hp) (n:Nat):Res:=
boxK 35 v0 H n fun v_1 H_2 n_3=>
aq (aX v_1) fun a_7=>aq (ak P H_2 35 a_7) fun v_6=>
aW P cal 61 [v_6] H_2 n_3 fun v_8 H_9 n_a=>
aq (tupV v_8 0) fun v_c=>
aq (tupV v_8 1) fun v_d=>
binK P .neq 29 (.tmp 11) (.const (.int .i64 0)) v_d (.int .i64 0) fun v_h=>
ifK v_h (
some ((Value.tuple ⟨[(.slice none 0 0),v_d]⟩),H_9,n_a)) (
aW P cal 85 [v_c] H_9 n_a fun v_m H_n n_o=>
some ((Value.tuple ⟨[v_m,(.int .i64 0)]⟩),H_n,n_o))
noncomputable def WX (cal:Cal) (k:Nat) (v0:Value) (H:Hp) (n:Nat):Res:=B48_0 cal k v0 H n
theorem h48_0 (cal:Cal) (k:Nat) (v0:Value) (H:Hp) (n:Nat):aK P cal A (k+1) 48 [v0] H n=WX cal k v0 H n:=by
 have h:aK P cal A (k+1) 48 [v0] H n=B48_0 cal k v0 H n:=by
  rw[bQ (fn:=Go.Proofs.Try.f48) (c:=PX) (rs:=pQ) (by kernel_rfl) (by kernel_rfl) (by kernel_rfl) (by kernel_rfl)]
  kernel_rfl
 rw[h,WX]
noncomputable def code49:Code:=cw 49
noncomputable def yX:List ResultVar:=dk 49
noncomputable def K49_p (cal:Cal) (k:Nat):KR:=(cutK (A 49).c (az P cal (ax P cal k) none 49 (cR code49) (Lv.b (A 49)) (aw P yX) X0 (aw P yX)))
noncomputable def K49_pr (cal:Cal) (k:Nat):KR:=(cutK (Lv.b (A 49)).c (az P cal (ax P cal k) none 49 (cR (cR code49)) (Lv.b (Lv.b (A 49))) (aw P yX) X0 (aw P yX)))
noncomputable def K49_prr (cal:Cal) (k:Nat):KR:=(cutK (Lv.b (Lv.b (A 49))).c (az P cal (ax P cal k) none 49 (cR (cR (cR code49))) (Lv.b (Lv.b (Lv.b (A 49)))) (aw P yX) X0 (aw P yX)))
noncomputable def B49_0 (cal:Cal) (k:Nat) (v0 v1:Value) (H:Hp) (n:Nat):Res:=
boxK 35 v0 H n fun v_1 H_2 n_3=>
aq (aX v_1) fun a_6=>aq (ak P H_2 35 a_6) fun v_5=>
aW P cal 61 [v_5] H_2 n_3 fun v_7 H_8 n_9=>
aq (tupV v_7 0) fun v_b=>
aq (tupV v_7 1) fun v_c=>
binK P .eql 29 (.tmp 12) (.const (.int .i64 0)) v_c (.int .i64 0) fun v_g=>
aV v_g true (fun k_i=>
k_i v1 H_8 n_9) H_8 n_9 fun v_j H_k n_l=>
aV v_g true (fun k_n=>
k_n v_b H_k n_l) H_k n_l fun v_o H_p n_q=>
aV v_g true (fun k_s=>
aq (nilV v_o) fun v_w=>
k_s v_w H_p n_q) H_p n_q fun v_t H_u n_v=>
aV v_g true (fun k_x=>
aq (ay P 117 v_t 0) fun v_11=>
k_x v_11 H_u n_v) H_u n_v fun v_y H_z n_10=>
aV v_g true (fun k_12=>
aq (aX v_y) fun a_17=>aq (ak P H_z 35 a_17) fun v_16=>
k_12 v_16 H_z n_10) H_z n_10 fun v_13 H_14 n_15=>
aV v_g true (fun k_18=>
k_18 (Value.func (Fn.func 71) ⟨[v_13]⟩ ⟨[]⟩) H_14 n_15) H_14 n_15 fun v_19 H_1a n_1b=>
aV v_g true (fun k_1d=>
aW P cal 86 [v_j,v_19] H_1a n_1b fun v_1h H_1i n_1j=>
k_1d v_1h H_1i n_1j) H_1a n_1b fun v_1e H_1f n_1g=>
aq (dv v_g v_1e (.bool false)) fun v_1k=>
aV v_1k true (fun k_1m=>
k_1m v1 H_1f n_1g) H_1f n_1g fun v_1n H_1o n_1p=>
aV v_1k true (fun k_1r=>
aW P cal 87 [v_1n] H_1o n_1p fun v_1v H_1w n_1x=>
k_1r v_1v H_1w n_1x) H_1o n_1p fun v_1s H_1t n_1u=>
aq (dv v_1k v_1s (.bool false)) fun v_1y=>
aV v_1y true (fun k_20=>
k_20 v_b H_1t n_1u) H_1t n_1u fun v_21 H_22 n_23=>
aV v_1y true (fun k_25=>
k_25 v1 H_22 n_23) H_22 n_23 fun v_26 H_27 n_28=>
aV v_1y true (fun k_2a=>
aW P cal 88 [v_21,v_26] H_27 n_28 fun v_2e H_2f n_2g=>
k_2a v_2e H_2f n_2g) H_27 n_28 fun v_2b H_2c n_2d=>
aq (dv v_1y v_2b (.bool false)) fun v_2h=>
some (v_2h,H_2c,n_2d)
noncomputable def C49_0 (cal:Cal) (k:Nat) (v0 v1:Value) (H:Hp) (n:Nat):Res:=B49_0 cal k v0 v1 H n
theorem h49_0 (cal:Cal) (k:Nat) (v0 v1:Value) (H:Hp) (n:Nat):aK P cal A (k+1) 49 [v0,v1] H n=C49_0 cal k v0 v1 H n:=by
 have h:aK P cal A (k+1) 49 [v0,v1] H n=B49_0 cal k v0 v1 H n:=by
  rw[bQ (fn:=Go.Proofs.Try.f49) (c:=code49) (rs:=yX) (by kernel_rfl) (by kernel_rfl) (by kernel_rfl) (by kernel_rfl)]
  kernel_rfl
 rw[h,C49_0]
noncomputable def code54:Code:=cw 54
noncomputable def Bz:List ResultVar:=dk 54
noncomputable def K54_p (cal:Cal) (k:Nat):KR:=(cutK (A 54).c (az P cal (ax P cal k) none 54 (cR code54) (Lv.b (A 54)) (aw P Bz) X0 (aw P Bz)))
noncomputable def K54_pr (cal:Cal) (k:Nat):KR:=(cutK (Lv.b (A 54)).c (az P cal (ax P cal k) none 54 (cR (cR code54)) (Lv.b (Lv.b (A 54))) (aw P Bz) X0 (aw P Bz)))
noncomputable def B54_0 (cal:Cal) (k:Nat) (v0 v1:Value) (H:Hp) (n:Nat):Res:=
cQ P 53 H n fun v_1 H_2 n_3=>
aq (iW P 53 [(0,v0),(1,v1)]) fun v_6=>
aq (bx P 53 v_1 v_6 H_2) fun H_8=>
aq (resV P (Tr.set Tr.nil 4 (some v_1)) H_8 Bz) fun v_9=>some (oneV v_9,H_8,n_3)
noncomputable def C54_0 (cal:Cal) (k:Nat) (v0 v1:Value) (H:Hp) (n:Nat):Res:=B54_0 cal k v0 v1 H n
theorem h54_0 (cal:Cal) (k:Nat) (v0 v1:Value) (H:Hp) (n:Nat):aK P cal A (k+1) 54 [v0,v1] H n=C54_0 cal k v0 v1 H n:=by
 have h:aK P cal A (k+1) 54 [v0,v1] H n=B54_0 cal k v0 v1 H n:=by
  rw[bQ (fn:=Go.Proofs.Try.f54) (c:=code54) (rs:=Bz) (by kernel_rfl) (by kernel_rfl) (by kernel_rfl) (by kernel_rfl)]
  kernel_rfl
 rw[h,C54_0]
noncomputable def wY:Code:=cw 57
noncomputable def iV:List ResultVar:=dk 57
noncomputable def K57_p (cal:Cal) (k:Nat):KR:=(cutK (A 57).c (az P cal (ax P cal k) none 57 (cR wY) (Lv.b (A 57)) (aw P iV) X0 (aw P iV)))
noncomputable def K57_pr (cal:Cal) (k:Nat):KR:=(cutK (Lv.b (A 57)).c (az P cal (ax P cal k) none 57 (cR (cR wY)) (Lv.b (Lv.b (A 57))) (aw P iV) X0 (aw P iV)))
noncomputable def YJ (cal:Cal) (k:Nat):KR:=(cutK (Lv.b (Lv.b (A 57))).c (az P cal (ax P cal k) none 57 (cR (cR (cR wY))) (Lv.b (Lv.b (Lv.b (A 57)))) (aw P iV) X0 (aw P iV)))
noncomputable def K57_prrl (cal:Cal) (k:Nat):KR:=(cutK (Lv.a (Lv.b (Lv.b (A 57)))).c (az P cal (ax P cal k) none 57 (cR (cL (cR (cR wY)))) (Lv.b (Lv.a (Lv.b (Lv.b (A 57))))) (YJ cal k) X0 (aw P iV)))
noncomputable def rV (cal:Cal) (k:Nat):XR:=(upX 0 (YJ cal k) X0)
noncomputable def HV (cal:Cal) (k:Nat) (m1:Nat):KR:=(fun T H n D=>ax P cal m1 (Lv.a (Lv.b (Lv.a (Lv.b (Lv.b (A 57)))))) none 57 (cL (cR (cL (cR (cR wY))))) (YJ cal k) (rV cal k) (aw P iV) (cutT (Lv.a (Lv.b (Lv.a (Lv.b (Lv.b (A 57)))))).c T) H n D)
noncomputable def K57_prrlrll (cal:Cal) (k:Nat) (m1:Nat):KR:=(cutK (Lv.a (Lv.a (Lv.b (Lv.a (Lv.b (Lv.b (A 57))))))).c (az P cal (ax P cal m1) none 57 (cR (cL (cL (cR (cL (cR (cR wY))))))) (Lv.b (Lv.a (Lv.a (Lv.b (Lv.a (Lv.b (Lv.b (A 57)))))))) (HV cal k m1) (rV cal k) (aw P iV)))
noncomputable def K57_prrlrlll (cal:Cal) (k:Nat) (m1:Nat):KR:=(cutK (Lv.a (Lv.a (Lv.a (Lv.b (Lv.a (Lv.b (Lv.b (A 57)))))))).c (az P cal (ax P cal m1) none 57 (cR (cL (cL (cL (cR (cL (cR (cR wY)))))))) (Lv.b (Lv.a (Lv.a (Lv.a (Lv.b (Lv.a (Lv.b (Lv.b (A 57))))))))) (K57_prrlrll cal k m1) (rV cal k) (aw P iV)))
noncomputable def K57_prrlrllr (cal:Cal) (k:Nat) (m1:Nat):KR:=(cutK (Lv.b (Lv.a (Lv.a (Lv.b (Lv.a (Lv.b (Lv.b (A 57)))))))).c (az P cal (ax P cal m1) none 57 (cR (cR (cL (cL (cR (cL (cR (cR wY)))))))) (Lv.b (Lv.b (Lv.a (Lv.a (Lv.b (Lv.a (Lv.b (Lv.b (A 57))))))))) (HV cal k m1) (rV cal k) (aw P iV)))
noncomputable def K57_pxrrlrllrl (cal:Cal) (k:Nat) (m1:Nat):XR:=(upX 1 (K57_prrlrllr cal k m1) (rV cal k))
noncomputable def K57_prrlrllrll (cal:Cal) (k:Nat) (m1:Nat):KR:=(cutK (Lv.a (Lv.a (Lv.b (Lv.a (Lv.a (Lv.b (Lv.a (Lv.b (Lv.b (A 57)))))))))).c (az P cal (ax P cal m1) none 57 (cR (cL (cL (cR (cL (cL (cR (cL (cR (cR wY)))))))))) (Lv.b (Lv.a (Lv.a (Lv.b (Lv.a (Lv.a (Lv.b (Lv.a (Lv.b (Lv.b (A 57))))))))))) (K57_prrlrllr cal k m1) (K57_pxrrlrllrl cal k m1) (aw P iV)))
noncomputable def K57_prrr (cal:Cal) (k:Nat):KR:=(cutK (Lv.b (Lv.b (Lv.b (A 57)))).c (az P cal (ax P cal k) none 57 (cR (cR (cR (cR wY)))) (Lv.b (Lv.b (Lv.b (Lv.b (A 57))))) (aw P iV) X0 (aw P iV)))
noncomputable def E57_2 (cal:Cal) (k m1:Nat):KR:=az P cal (ax P cal m1) none 57 (cR (cR (cL (cL (cR (cL (cR (cR wY)))))))) (Lv.b (Lv.b (Lv.a (Lv.a (Lv.b (Lv.a (Lv.b (Lv.b (A 57))))))))) (HV cal k m1) (rV cal k) (aw P iV)
noncomputable def E57_1 (cal:Cal) (k m1:Nat):KR:=az P cal (ax P cal m1) none 57 (cL (cL (cR (cL (cR (cR wY)))))) (Lv.a (Lv.a (Lv.b (Lv.a (Lv.b (Lv.b (A 57))))))) (HV cal k m1) (rV cal k) (aw P iV)
noncomputable def WY (cal:Cal) (k m1:Nat):V3:=fun u0 u3 u4 H n=>ax P cal m1 (Lv.a (Lv.b (Lv.a (Lv.b (Lv.b (A 57)))))) none 57 (cL (cR (cL (cR (cR wY))))) (YJ cal k) (rV cal k) (aw P iV) (Tr.set (Tr.set (Tr.set Tr.nil 4 (some u4)) 3 (some u3)) 0 (some u0)) H n []
noncomputable def B57_2 (cal:Cal) (k m1:Nat) (b1:V3) (u0 u3 u4:Value) (H:Hp) (n:Nat):Res:=
binK P .add 3 (.tmp 10) (.const (.int .i64 1)) u4 (.int .i64 1) fun v_a=>
b1 u0 u3 v_a H n
noncomputable def C57_2 (cal:Cal) (k m1:Nat) (b1:V3) (u0 u3 u4:Value) (H:Hp) (n:Nat):Res:=B57_2 cal k m1 b1 u0 u3 u4 H n
theorem h57_2 (cal:Cal) (k m1:Nat) (u0 u3 u4:Value) (H:Hp) (n:Nat):labK (E57_2 cal k m1) (Tr.set (Tr.set (Tr.set Tr.nil 4 (some u4)) 3 (some u3)) 0 (some u0)) H n []=C57_2 cal k m1 (WY cal k m1) u0 u3 u4 H n:=by
 refine Eq.trans (b:=B57_2 cal k m1 (WY cal k m1) u0 u3 u4 H n) (by kernel_rfl) ?_
 rw[C57_2]
noncomputable def B57_1 (cal:Cal) (k m1:Nat) (j2:V3) (b1:V3) (u0 u3 u4:Value) (H:Hp) (n:Nat):Res:=
aq (cW P u4 (convert 3 138 u4)) fun v_6=>
binK P .shr 3 (.tmp 5) (.tmp 7) u0 v_6 fun v_7=>
binK P .gtr 3 (.tmp 8) (.const (.int .i64 0)) v_7 (.int .i64 0) fun v_8=>
ifK v_8 (
aq (cW P u4 (convert 3 138 u4)) fun v_e=>
binK P .shr 3 (.tmp 12) (.tmp 14) u0 v_e fun v_f=>
binK P .rem 3 (.tmp 15) (.const (.int .i64 2)) v_f (.int .i64 2) fun v_g=>
binK P .eql 3 (.tmp 16) (.const (.int .i64 1)) v_g (.int .i64 1) fun v_h=>
ifK v_h (
rowK P 44 1 [(0,u4)] H n fun v_k H_l n_m=>
stK (fk P (bare H_l n_m) 44 44 u3 v_k) fun v_n H_o n_p=>
j2 u0 v_n u4 H_o n_p) (
j2 u0 u3 u4 H n)) (
some (u3,H,n))
noncomputable def C57_1 (cal:Cal) (k m1:Nat) (b1:V3) (u0 u3 u4:Value) (H:Hp) (n:Nat):Res:=B57_1 cal k m1 (C57_2 cal k m1 b1) b1 u0 u3 u4 H n
noncomputable def S57_1 (cal:Cal) (k:Nat):Nat→V3:=fun m=>Nat.rec (motive:=fun _=>V3) (C57_1 cal k 0 (fun _ _ _ _ _=>none)) (fun m ih=>C57_1 cal k (m+1) ih) m
theorem h57_1 (cal:Cal) (k m1:Nat) (u0 u3 u4:Value) (H:Hp) (n:Nat):labK (E57_1 cal k m1) (Tr.set (Tr.set (Tr.set Tr.nil 4 (some u4)) 3 (some u3)) 0 (some u0)) H n []=C57_1 cal k m1 (WY cal k m1) u0 u3 u4 H n:=by
 refine Eq.trans (b:=B57_1 cal k m1 (fun u0 u3 u4 H n=>labK (E57_2 cal k m1) (Tr.set (Tr.set (Tr.set Tr.nil 4 (some u4)) 3 (some u3)) 0 (some u0)) H n []) (WY cal k m1) u0 u3 u4 H n) (by kernel_rfl) ?_
 rw[C57_1]
 have e2:(fun u0 u3 u4 H n=>labK (E57_2 cal k m1) (Tr.set (Tr.set (Tr.set Tr.nil 4 (some u4)) 3 (some u3)) 0 (some u0)) H n [])=(C57_2 cal k m1 (WY cal k m1)):=by funext u0 u3 u4 H n; exact h57_2 ..
 rw[e2]
theorem q57_1 (cal:Cal) (k:Nat):∀(m:Nat) (u0 u3 u4:Value) (H:Hp) (n:Nat),labK (E57_1 cal k m) (Tr.set (Tr.set (Tr.set Tr.nil 4 (some u4)) 3 (some u3)) 0 (some u0)) H n []=S57_1 cal k m u0 u3 u4 H n
 | 0,u0,u3,u4,H,n=>by
  rw[h57_1]
  have e:WY cal k 0=fun _ _ _ _ _=>none:=by funext u0 u3 u4 H n; kernel_rfl
  rw[e]; rfl
 | m+1,u0,u3,u4,H,n=>by
  rw[h57_1]
  have e:WY cal k (m+1)=S57_1 cal k m:=by
   funext u0 u3 u4 H n
   have e:WY cal k (m+1) u0 u3 u4 H n=labK (E57_1 cal k m) (Tr.set (Tr.set (Tr.set Tr.nil 4 (some u4)) 3 (some u3)) 0 (some u0)) H n []:=by kernel_rfl
   rw[e]; exact q57_1 ..
  rw[e]; rfl
noncomputable def B57_0 (cal:Cal) (k:Nat) (j1:V3) (v0:Value) (H:Hp) (n:Nat):Res:=
j1 v0 (.slice none 0 0) (.int .i64 0) H n
noncomputable def C57_0 (cal:Cal) (k:Nat) (v0:Value) (H:Hp) (n:Nat):Res:=B57_0 cal k (S57_1 cal k k) v0 H n
theorem h57_0 (cal:Cal) (k:Nat) (v0:Value) (H:Hp) (n:Nat):aK P cal A (k+1) 57 [v0] H n=C57_0 cal k v0 H n:=by
 have h:aK P cal A (k+1) 57 [v0] H n=B57_0 cal k (fun u0 u3 u4 H n=>labK (E57_1 cal k k) (Tr.set (Tr.set (Tr.set Tr.nil 4 (some u4)) 3 (some u3)) 0 (some u0)) H n []) v0 H n:=by
  rw[bQ (fn:=Go.Proofs.Try.f57) (c:=wY) (rs:=iV) (by kernel_rfl) (by kernel_rfl) (by kernel_rfl) (by kernel_rfl)]
  kernel_rfl
 rw[h,C57_0]
 have e1:(fun u0 u3 u4 H n=>labK (E57_1 cal k k) (Tr.set (Tr.set (Tr.set Tr.nil 4 (some u4)) 3 (some u3)) 0 (some u0)) H n [])=(S57_1 cal k k):=by funext u0 u3 u4 H n; exact q57_1 ..
 rw[e1]
noncomputable def tx:Code:=cw 58
noncomputable def gV:List ResultVar:=dk 58
noncomputable def K58_p (cal:Cal) (k:Nat):KR:=(cutK (A 58).c (az P cal (ax P cal k) none 58 (cR tx) (Lv.b (A 58)) (aw P gV) X0 (aw P gV)))
noncomputable def K58_pr (cal:Cal) (k:Nat):KR:=(cutK (Lv.b (A 58)).c (az P cal (ax P cal k) none 58 (cR (cR tx)) (Lv.b (Lv.b (A 58))) (aw P gV) X0 (aw P gV)))
noncomputable def K58_prl (cal:Cal) (k:Nat):KR:=(cutK (Lv.a (Lv.b (A 58))).c (az P cal (ax P cal k) none 58 (cR (cL (cR tx))) (Lv.b (Lv.a (Lv.b (A 58)))) (K58_pr cal k) X0 (aw P gV)))
noncomputable def K58_prlrl (cal:Cal) (k:Nat):KR:=(cutK (Lv.a (Lv.b (Lv.a (Lv.b (A 58))))).c (az P cal (ax P cal k) none 58 (cR (cL (cR (cL (cR tx))))) (Lv.b (Lv.a (Lv.b (Lv.a (Lv.b (A 58)))))) (K58_pr cal k) X0 (aw P gV)))
noncomputable def YQ (cal:Cal) (k:Nat):KR:=(cutK (Lv.b (Lv.b (A 58))).c (az P cal (ax P cal k) none 58 (cR (cR (cR tx))) (Lv.b (Lv.b (Lv.b (A 58)))) (aw P gV) X0 (aw P gV)))
noncomputable def K58_prrl (cal:Cal) (k:Nat):KR:=(cutK (Lv.a (Lv.b (Lv.b (A 58)))).c (az P cal (ax P cal k) none 58 (cR (cL (cR (cR tx)))) (Lv.b (Lv.a (Lv.b (Lv.b (A 58))))) (YQ cal k) X0 (aw P gV)))
noncomputable def uK (cal:Cal) (k:Nat):XR:=(upX 0 (YQ cal k) X0)
noncomputable def PY (cal:Cal) (k:Nat) (m1:Nat):KR:=(fun T H n D=>ax P cal m1 (Lv.a (Lv.b (Lv.a (Lv.b (Lv.b (A 58)))))) none 58 (cL (cR (cL (cR (cR tx))))) (YQ cal k) (uK cal k) (aw P gV) (cutT (Lv.a (Lv.b (Lv.a (Lv.b (Lv.b (A 58)))))).c T) H n D)
noncomputable def K58_prrlrll (cal:Cal) (k:Nat) (m1:Nat):KR:=(cutK (Lv.a (Lv.a (Lv.b (Lv.a (Lv.b (Lv.b (A 58))))))).c (az P cal (ax P cal m1) none 58 (cR (cL (cL (cR (cL (cR (cR tx))))))) (Lv.b (Lv.a (Lv.a (Lv.b (Lv.a (Lv.b (Lv.b (A 58)))))))) (PY cal k m1) (uK cal k) (aw P gV)))
noncomputable def K58_prrlrlll (cal:Cal) (k:Nat) (m1:Nat):KR:=(cutK (Lv.a (Lv.a (Lv.a (Lv.b (Lv.a (Lv.b (Lv.b (A 58)))))))).c (az P cal (ax P cal m1) none 58 (cR (cL (cL (cL (cR (cL (cR (cR tx)))))))) (Lv.b (Lv.a (Lv.a (Lv.a (Lv.b (Lv.a (Lv.b (Lv.b (A 58))))))))) (K58_prrlrll cal k m1) (uK cal k) (aw P gV)))
noncomputable def HW (cal:Cal) (k:Nat) (m1:Nat):KR:=(cutK (Lv.b (Lv.a (Lv.a (Lv.b (Lv.a (Lv.b (Lv.b (A 58)))))))).c (az P cal (ax P cal m1) none 58 (cR (cR (cL (cL (cR (cL (cR (cR tx)))))))) (Lv.b (Lv.b (Lv.a (Lv.a (Lv.b (Lv.a (Lv.b (Lv.b (A 58))))))))) (PY cal k m1) (uK cal k) (aw P gV)))
noncomputable def K58_pxrrlrllrl (cal:Cal) (k:Nat) (m1:Nat):XR:=(upX 1 (HW cal k m1) (uK cal k))
noncomputable def K58_prrlrllrll (cal:Cal) (k:Nat) (m1:Nat):KR:=(cutK (Lv.a (Lv.a (Lv.b (Lv.a (Lv.a (Lv.b (Lv.a (Lv.b (Lv.b (A 58)))))))))).c (az P cal (ax P cal m1) none 58 (cR (cL (cL (cR (cL (cL (cR (cL (cR (cR tx)))))))))) (Lv.b (Lv.a (Lv.a (Lv.b (Lv.a (Lv.a (Lv.b (Lv.a (Lv.b (Lv.b (A 58))))))))))) (HW cal k m1) (K58_pxrrlrllrl cal k m1) (aw P gV)))
noncomputable def K58_prrlrllrllrl (cal:Cal) (k:Nat) (m1:Nat):KR:=(cutK (Lv.a (Lv.b (Lv.a (Lv.a (Lv.b (Lv.a (Lv.a (Lv.b (Lv.a (Lv.b (Lv.b (A 58)))))))))))).c (az P cal (ax P cal m1) none 58 (cR (cL (cR (cL (cL (cR (cL (cL (cR (cL (cR (cR tx)))))))))))) (Lv.b (Lv.a (Lv.b (Lv.a (Lv.a (Lv.b (Lv.a (Lv.a (Lv.b (Lv.a (Lv.b (Lv.b (A 58))))))))))))) (HW cal k m1) (K58_pxrrlrllrl cal k m1) (aw P gV)))
noncomputable def K58_prrr (cal:Cal) (k:Nat):KR:=(cutK (Lv.b (Lv.b (Lv.b (A 58)))).c (az P cal (ax P cal k) none 58 (cR (cR (cR (cR tx)))) (Lv.b (Lv.b (Lv.b (Lv.b (A 58))))) (aw P gV) X0 (aw P gV)))
noncomputable def E58_1 (cal:Cal) (k m1:Nat):KR:=az P cal (ax P cal m1) none 58 (cL (cL (cR (cL (cR (cR tx)))))) (Lv.a (Lv.a (Lv.b (Lv.a (Lv.b (Lv.b (A 58))))))) (PY cal k m1) (uK cal k) (aw P gV)
noncomputable def R58_1 (cal:Cal) (k m1:Nat):V3:=fun u1 u2 u5 H n=>ax P cal m1 (Lv.a (Lv.b (Lv.a (Lv.b (Lv.b (A 58)))))) none 58 (cL (cR (cL (cR (cR tx))))) (YQ cal k) (uK cal k) (aw P gV) (Tr.set (Tr.set (Tr.set Tr.nil 5 (some u5)) 2 (some u2)) 1 (some u1)) H n []
noncomputable def B58_1 (cal:Cal) (k m1:Nat) (b1:V3) (u1 u2 u5:Value) (H:Hp) (n:Nat):Res:=
aq (lenV P 44 u1) fun v_g=>
binK P .lss 3 (.tmp 12) (.tmp 14) u5 v_g fun v_h=>
ifK v_h (
aq (aY P 44 u1 u5) fun v_k=>
aq (aX v_k) fun a_l=>aq (ak P H 3 a_l) fun v_m=>
binK P .neq 3 (.tmp 21) (.const (.int .i64 (-1))) v_m (.int .i64 (-1)) fun v_n=>
iK v_n true (fun k_p=>
k_p u1 .p H n) .p H n fun v_q x_r H_s n_t=>
iK v_n true (fun k_v=>
k_v u5 .p H_s n_t) .p H_s n_t fun v_w x_x H_y n_z=>
iK v_n true (fun k_11=>
aq (aY P 44 v_q v_w) fun v_16=>
k_11 v_16 .p H_y n_z) .p H_y n_z fun v_12 x_13 H_14 n_15=>
iK v_n true (fun k_17=>
aq (aX v_12) fun a_1c=>aq (ak P H_14 3 a_1c) fun v_1d=>
k_17 v_1d (.l 3 a_1c) H_14 n_15) .p H_14 n_15 fun v_18 x_19 H_1a n_1b=>
iK v_n true (fun k_1e=>
aq (ay P 26 u2 2) fun v_1j=>
k_1e v_1j .p H_1a n_1b) .p H_1a n_1b fun v_1f x_1g H_1h n_1i=>
iK v_n true (fun k_1k=>
aq (aX v_1f) fun a_1p=>aq (ak P H_1h 24 a_1p) fun v_1q=>
k_1k v_1q (.l 24 a_1p) H_1h n_1i) .p H_1h n_1i fun v_1l x_1m H_1n n_1o=>
iK v_n true (fun k_1r=>
aq (lenV P 24 v_1l) fun v_1w=>
k_1r v_1w .p H_1n n_1o) .p H_1n n_1o fun v_1s x_1t H_1u n_1v=>
iK v_n true (fun k_1x=>
binK P .sub 3 (.tmp 30) (.const (.int .i64 1)) v_1s (.int .i64 1) fun v_22=>
k_1x v_22 .p H_1u n_1v) .p H_1u n_1v fun v_1y x_1z H_20 n_21=>
iK v_n true (fun k_23=>
aW P cal 32 [v_18,(.int .i64 0),v_1y] H_20 n_21 fun v_28 H_29 n_2a=>
k_23 v_28 .e H_29 n_2a) .e H_20 n_21 fun v_24 x_25 H_26 n_27=>
iK v_n true (fun k_2b=>
aq (cW P v_24 (Op.unary UnOp.not v_24)) fun v_2g=>
k_2b v_2g .p H_26 n_27) .p H_26 n_27 fun v_2c x_2d H_2e n_2f=>
iK v_n true (fun k_2h=>
k_2h v_2c .p H_2e n_2f) .p H_2e n_2f fun v_2i x_2j H_2k n_2l=>
iK v_2i false (fun k_2n=>
aq (aX u2) fun a_2s=>aq (ak P H_2k 26 a_2s) fun v_2t=>
k_2n v_2t (.l 26 a_2s) H_2k n_2l) .p H_2k n_2l fun v_2o x_2p H_2q n_2r=>
iK v_2i false (fun k_2u=>
k_2u u1 .p H_2q n_2r) .p H_2q n_2r fun v_2v x_2w H_2x n_2y=>
iK v_2i false (fun k_30=>
k_30 u5 .p H_2x n_2y) .p H_2x n_2y fun v_31 x_32 H_33 n_34=>
iK v_2i false (fun k_36=>
aq (aY P 44 v_2v v_31) fun v_3b=>
k_36 v_3b .p H_33 n_34) .p H_33 n_34 fun v_37 x_38 H_39 n_3a=>
iK v_2i false (fun k_3c=>
aq (aX v_37) fun a_3h=>aq (ak P H_39 3 a_3h) fun v_3i=>
k_3c v_3i (.l 3 a_3h) H_39 n_3a) .p H_39 n_3a fun v_3d x_3e H_3f n_3g=>
iK v_2i false (fun k_3j=>
k_3j u5 .p H_3f n_3g) .p H_3f n_3g fun v_3k x_3l H_3m n_3n=>
iK v_2i false (fun k_3p=>
aW P cal 21 [v_2o,v_3d,v_3k] H_3m n_3n fun v_3u H_3v n_3w=>
k_3p v_3u .e H_3v n_3w) .e H_3m n_3n fun v_3q x_3r H_3s n_3t=>
iK v_2i false (fun k_3x=>
aq (cW P v_3q (Op.unary UnOp.not v_3q)) fun v_42=>
k_3x v_42 .p H_3s n_3t) .p H_3s n_3t fun v_3y x_3z H_40 n_41=>
iK v_n true (fun k_43=>
aq (dv v_2i (.bool true) v_3y) fun v_48=>
k_43 v_48 .p H_40 n_41) .p H_40 n_41 fun v_44 x_45 H_46 n_47=>
aq (dv v_n v_44 (.bool false)) fun v_49=>
ifK v_49 (
some ((.bool false),H_46,n_47)) (
binK P .add 3 (.tmp 16) (.const (.int .i64 1)) u5 (.int .i64 1) fun v_4c=>
b1 u1 u2 v_4c H_46 n_47)) (
some ((.bool true),H,n))
noncomputable def C58_1 (cal:Cal) (k m1:Nat) (b1:V3) (u1 u2 u5:Value) (H:Hp) (n:Nat):Res:=B58_1 cal k m1 b1 u1 u2 u5 H n
noncomputable def S58_1 (cal:Cal) (k:Nat):Nat→V3:=fun m=>Nat.rec (motive:=fun _=>V3) (C58_1 cal k 0 (fun _ _ _ _ _=>none)) (fun m ih=>C58_1 cal k (m+1) ih) m
theorem h58_1 (cal:Cal) (k m1:Nat) (u1 u2 u5:Value) (H:Hp) (n:Nat):labK (E58_1 cal k m1) (Tr.set (Tr.set (Tr.set Tr.nil 5 (some u5)) 2 (some u2)) 1 (some u1)) H n []=C58_1 cal k m1 (R58_1 cal k m1) u1 u2 u5 H n:=by
 refine Eq.trans (b:=B58_1 cal k m1 (R58_1 cal k m1) u1 u2 u5 H n) (by kernel_rfl) ?_
 rw[C58_1]
theorem q58_1 (cal:Cal) (k:Nat):∀(m:Nat) (u1 u2 u5:Value) (H:Hp) (n:Nat),labK (E58_1 cal k m) (Tr.set (Tr.set (Tr.set Tr.nil 5 (some u5)) 2 (some u2)) 1 (some u1)) H n []=S58_1 cal k m u1 u2 u5 H n
 | 0,u1,u2,u5,H,n=>by
  rw[h58_1]
  have e:R58_1 cal k 0=fun _ _ _ _ _=>none:=by funext u1 u2 u5 H n; kernel_rfl
  rw[e]; rfl
 | m+1,u1,u2,u5,H,n=>by
  rw[h58_1]
  have e:R58_1 cal k (m+1)=S58_1 cal k m:=by
   funext u1 u2 u5 H n
   have e:R58_1 cal k (m+1) u1 u2 u5 H n=labK (E58_1 cal k m) (Tr.set (Tr.set (Tr.set Tr.nil 5 (some u5)) 2 (some u2)) 1 (some u1)) H n []:=by kernel_rfl
   rw[e]; exact q58_1 ..
  rw[e]; rfl
noncomputable def B58_0 (cal:Cal) (k:Nat) (j1:V3) (v0 v1:Value) (H:Hp) (n:Nat):Res:=
boxK 26 v0 H n fun v_1 H_2 n_3=>
aq (lenV P 44 v1) fun v_6=>
aq (ay P 26 v_1 0) fun v_7=>
aq (aX v_7) fun a_9=>aq (ak P H_2 22 a_9) fun v_8=>
aq (lenV P 22 v_8) fun v_a=>
binK P .neq 3 (.tmp 7) (.tmp 10) v_6 v_a fun v_b=>
ifK v_b (
some ((.bool false),H_2,n_3)) (
j1 v1 v_1 (.int .i64 0) H_2 n_3)
noncomputable def C58_0 (cal:Cal) (k:Nat) (v0 v1:Value) (H:Hp) (n:Nat):Res:=B58_0 cal k (S58_1 cal k k) v0 v1 H n
theorem h58_0 (cal:Cal) (k:Nat) (v0 v1:Value) (H:Hp) (n:Nat):aK P cal A (k+1) 58 [v0,v1] H n=C58_0 cal k v0 v1 H n:=by
 have h:aK P cal A (k+1) 58 [v0,v1] H n=B58_0 cal k (fun u1 u2 u5 H n=>labK (E58_1 cal k k) (Tr.set (Tr.set (Tr.set Tr.nil 5 (some u5)) 2 (some u2)) 1 (some u1)) H n []) v0 v1 H n:=by
  rw[bQ (fn:=Go.Proofs.Try.f58) (c:=tx) (rs:=gV) (by kernel_rfl) (by kernel_rfl) (by kernel_rfl) (by kernel_rfl)]
  kernel_rfl
 rw[h,C58_0]
 have e1:(fun u1 u2 u5 H n=>labK (E58_1 cal k k) (Tr.set (Tr.set (Tr.set Tr.nil 5 (some u5)) 2 (some u2)) 1 (some u1)) H n [])=(S58_1 cal k k):=by funext u1 u2 u5 H n; exact q58_1 ..
 rw[e1]
end Go.Proofs.Ytekajfobmnedjaa.G
