/- The texts of functions, each with the proof that the evaluator says the same. -/
import Derived.Test.YtgojjellogiglaaH1
open Go Go.Ev
set_option maxRecDepth 1000000
set_option linter.unusedVariables false
noncomputable section
namespace Go.Proofs.Ytgojjellogiglaa.G
noncomputable def wW:Code:=cq 7
noncomputable def eV:List ResultVar:=dJ 7
noncomputable def K7_p (cal:Cal) (k:Nat):KR:=(cutK (A 7).c (ay P cal (aw P cal k) none 7 (cR wW) (Lv.b (A 7)) (av P eV) X0 (av P eV)))
noncomputable def K7_pr (cal:Cal) (k:Nat):KR:=(cutK (Lv.b (A 7)).c (ay P cal (aw P cal k) none 7 (cR (cR wW)) (Lv.b (Lv.b (A 7))) (av P eV) X0 (av P eV)))
noncomputable def K7_prl (cal:Cal) (k:Nat):KR:=(cutK (Lv.a (Lv.b (A 7))).c (ay P cal (aw P cal k) none 7 (cR (cL (cR wW))) (Lv.b (Lv.a (Lv.b (A 7)))) (K7_pr cal k) X0 (av P eV)))
noncomputable def K7_prlrl (cal:Cal) (k:Nat):KR:=(cutK (Lv.a (Lv.b (Lv.a (Lv.b (A 7))))).c (ay P cal (aw P cal k) none 7 (cR (cL (cR (cL (cR wW))))) (Lv.b (Lv.a (Lv.b (Lv.a (Lv.b (A 7)))))) (K7_pr cal k) X0 (av P eV)))
noncomputable def K7_prr (cal:Cal) (k:Nat):KR:=(cutK (Lv.b (Lv.b (A 7))).c (ay P cal (aw P cal k) none 7 (cR (cR (cR wW))) (Lv.b (Lv.b (Lv.b (A 7)))) (av P eV) X0 (av P eV)))
noncomputable def K7_prrr (cal:Cal) (k:Nat):KR:=(cutK (Lv.b (Lv.b (Lv.b (A 7)))).c (ay P cal (aw P cal k) none 7 (cR (cR (cR (cR wW)))) (Lv.b (Lv.b (Lv.b (Lv.b (A 7))))) (av P eV) X0 (av P eV)))
noncomputable def K7_prrrr (cal:Cal) (k:Nat):KR:=(cutK (Lv.b (Lv.b (Lv.b (Lv.b (A 7))))).c (ay P cal (aw P cal k) none 7 (cR (cR (cR (cR (cR wW))))) (Lv.b (Lv.b (Lv.b (Lv.b (Lv.b (A 7)))))) (av P eV) X0 (av P eV)))
noncomputable def K7_prrrrl (cal:Cal) (k:Nat):KR:=(cutK (Lv.a (Lv.b (Lv.b (Lv.b (Lv.b (A 7)))))).c (ay P cal (aw P cal k) none 7 (cR (cL (cR (cR (cR (cR wW)))))) (Lv.b (Lv.a (Lv.b (Lv.b (Lv.b (Lv.b (A 7))))))) (K7_prrrr cal k) X0 (av P eV)))
noncomputable def K7_prrrrlrl (cal:Cal) (k:Nat):KR:=(cutK (Lv.a (Lv.b (Lv.a (Lv.b (Lv.b (Lv.b (Lv.b (A 7)))))))).c (ay P cal (aw P cal k) none 7 (cR (cL (cR (cL (cR (cR (cR (cR wW)))))))) (Lv.b (Lv.a (Lv.b (Lv.a (Lv.b (Lv.b (Lv.b (Lv.b (A 7))))))))) (K7_prrrr cal k) X0 (av P eV)))
noncomputable def TZ (cal:Cal) (k:Nat):KR:=(cutK (Lv.b (Lv.b (Lv.b (Lv.b (Lv.b (A 7)))))).c (ay P cal (aw P cal k) none 7 (cR (cR (cR (cR (cR (cR wW)))))) (Lv.b (Lv.b (Lv.b (Lv.b (Lv.b (Lv.b (A 7))))))) (av P eV) X0 (av P eV)))
noncomputable def K7_prrrrrl (cal:Cal) (k:Nat):KR:=(cutK (Lv.a (Lv.b (Lv.b (Lv.b (Lv.b (Lv.b (A 7))))))).c (ay P cal (aw P cal k) none 7 (cR (cL (cR (cR (cR (cR (cR wW))))))) (Lv.b (Lv.a (Lv.b (Lv.b (Lv.b (Lv.b (Lv.b (A 7)))))))) (TZ cal k) X0 (av P eV)))
noncomputable def K7_prrrrrlr (cal:Cal) (k:Nat):KR:=(cutK (Lv.b (Lv.a (Lv.b (Lv.b (Lv.b (Lv.b (Lv.b (A 7)))))))).c (ay P cal (aw P cal k) none 7 (cR (cR (cL (cR (cR (cR (cR (cR wW)))))))) (Lv.b (Lv.b (Lv.a (Lv.b (Lv.b (Lv.b (Lv.b (Lv.b (A 7))))))))) (TZ cal k) X0 (av P eV)))
noncomputable def K7_prrrrrlrrl (cal:Cal) (k:Nat):KR:=(cutK (Lv.a (Lv.b (Lv.b (Lv.a (Lv.b (Lv.b (Lv.b (Lv.b (Lv.b (A 7)))))))))).c (ay P cal (aw P cal k) none 7 (cR (cL (cR (cR (cL (cR (cR (cR (cR (cR wW)))))))))) (Lv.b (Lv.a (Lv.b (Lv.b (Lv.a (Lv.b (Lv.b (Lv.b (Lv.b (Lv.b (A 7))))))))))) (TZ cal k) X0 (av P eV)))
noncomputable def K7_prrrrrr (cal:Cal) (k:Nat):KR:=(cutK (Lv.b (Lv.b (Lv.b (Lv.b (Lv.b (Lv.b (A 7))))))).c (ay P cal (aw P cal k) none 7 (cR (cR (cR (cR (cR (cR (cR wW))))))) (Lv.b (Lv.b (Lv.b (Lv.b (Lv.b (Lv.b (Lv.b (A 7)))))))) (av P eV) X0 (av P eV)))
noncomputable def K7_prrrrrrr (cal:Cal) (k:Nat):KR:=(cutK (Lv.b (Lv.b (Lv.b (Lv.b (Lv.b (Lv.b (Lv.b (A 7)))))))).c (ay P cal (aw P cal k) none 7 (cR (cR (cR (cR (cR (cR (cR (cR wW)))))))) (Lv.b (Lv.b (Lv.b (Lv.b (Lv.b (Lv.b (Lv.b (Lv.b (A 7))))))))) (av P eV) X0 (av P eV)))
noncomputable def K7_prrrrrrrl (cal:Cal) (k:Nat):KR:=(cutK (Lv.a (Lv.b (Lv.b (Lv.b (Lv.b (Lv.b (Lv.b (Lv.b (A 7))))))))).c (ay P cal (aw P cal k) none 7 (cR (cL (cR (cR (cR (cR (cR (cR (cR wW))))))))) (Lv.b (Lv.a (Lv.b (Lv.b (Lv.b (Lv.b (Lv.b (Lv.b (Lv.b (A 7)))))))))) (K7_prrrrrrr cal k) X0 (av P eV)))
noncomputable def K7_prrrrrrrlrl (cal:Cal) (k:Nat):KR:=(cutK (Lv.a (Lv.b (Lv.a (Lv.b (Lv.b (Lv.b (Lv.b (Lv.b (Lv.b (Lv.b (A 7))))))))))).c (ay P cal (aw P cal k) none 7 (cR (cL (cR (cL (cR (cR (cR (cR (cR (cR (cR wW))))))))))) (Lv.b (Lv.a (Lv.b (Lv.a (Lv.b (Lv.b (Lv.b (Lv.b (Lv.b (Lv.b (Lv.b (A 7)))))))))))) (K7_prrrrrrr cal k) X0 (av P eV)))
noncomputable def K7_prrrrrrrr (cal:Cal) (k:Nat):KR:=(cutK (Lv.b (Lv.b (Lv.b (Lv.b (Lv.b (Lv.b (Lv.b (Lv.b (A 7))))))))).c (ay P cal (aw P cal k) none 7 (cR (cR (cR (cR (cR (cR (cR (cR (cR wW))))))))) (Lv.b (Lv.b (Lv.b (Lv.b (Lv.b (Lv.b (Lv.b (Lv.b (Lv.b (A 7)))))))))) (av P eV) X0 (av P eV)))
noncomputable def B7_0 (cal:Cal) (k:Nat) (v0 v1 v2:Value) (H:Hp) (n:Nat):Res:=
boxK 26 v0 H n fun v_1 H_2 n_3=>
aq (aW v_1) fun a_6=>aq (az P H_2 26 a_6) fun v_5=>
aV P cal 15 [v_5,v1] H_2 n_3 fun v_8 H_9 n_a=>
aq (ej P v_8 (Op.unary UnOp.not v_8)) fun v_b=>
aQ v_b false (fun k_d=>
aq (aW v_1) fun a_i=>aq (az P H_9 26 a_i) fun v_h=>
k_d v_h H_9 n_a) H_9 n_a fun v_e H_f n_g=>
aQ v_b false (fun k_j=>
aV P cal 20 [v_e] H_f n_g fun v_n H_o n_p=>
k_j v_n H_o n_p) H_f n_g fun v_k H_l n_m=>
aQ v_b false (fun k_q=>
binK P .eql 29 (.tmp 20) (.const (.int .i64 0)) v_k (.int .i64 0) fun v_u=>
k_q v_u H_l n_m) H_l n_m fun v_r H_s n_t=>
aQ v_b false (fun k_v=>
k_v v_r H_s n_t) H_s n_t fun v_w H_x n_y=>
aQ v_w true (fun k_10=>
aq (ax P 26 v_1 0) fun v_14=>
k_10 v_14 H_x n_y) H_x n_y fun v_11 H_12 n_13=>
aQ v_w true (fun k_15=>
aq (aW v_11) fun a_1a=>aq (az P H_12 22 a_1a) fun v_19=>
k_15 v_19 H_12 n_13) H_12 n_13 fun v_16 H_17 n_18=>
aQ v_w true (fun k_1b=>
aq (lenV P 22 v_16) fun v_1f=>
k_1b v_1f H_17 n_18) H_17 n_18 fun v_1c H_1d n_1e=>
aQ v_w true (fun k_1g=>
binK P .gtr 3 (.tmp 25) (.const (.int .i64 5)) v_1c (.int .i64 5) fun v_1k=>
k_1g v_1k H_1d n_1e) H_1d n_1e fun v_1h H_1i n_1j=>
aQ v_b false (fun k_1l=>
aq (cK v_w v_1h (.bool false)) fun v_1p=>
k_1l v_1p H_1i n_1j) H_1i n_1j fun v_1m H_1n n_1o=>
aq (cK v_b (.bool true) v_1m) fun v_1q=>
ifK v_1q (
aV P cal 16 [] H_1n n_1o fun v_1r H_1s n_1t=>
some (v_1r,H_1s,n_1t)) (
aq (aW v_1) fun a_1w=>aq (az P H_1n 26 a_1w) fun v_1v=>
aV P cal 18 [v_1v] H_1n n_1o fun v_1x H_1y n_1z=>
aV P cal 42 [v_1x] H_1y n_1z fun v_20 H_21 n_22=>
aq (tupV v_20 0) fun v_24=>
aq (tupV v_20 1) fun v_25=>
aq (tupV v_20 2) fun v_26=>
aq (aW v_1) fun a_2b=>aq (az P H_21 26 a_2b) fun v_2a=>
aV P cal 18 [v_2a] H_21 n_22 fun v_2c H_2d n_2e=>
aV P cal 23 [v1] H_2d n_2e fun v_2g H_2h n_2i=>
aV P cal 43 [v_2c,v_2g,v2] H_2h n_2i fun v_2k H_2l n_2m=>
aq (aW v_1) fun a_2q=>aq (az P H_2l 26 a_2q) fun v_2p=>
aV P cal 25 [v_2p,v1] H_2l n_2m fun v_2s H_2t n_2u=>
binK P .eql 29 (.tmp 46) (.const (.int .i64 0)) v_2s (.int .i64 0) fun v_2v=>
aQ v_2v true (fun k_2x=>
aq (aW v_1) fun a_32=>aq (az P H_2t 26 a_32) fun v_31=>
k_2x v_31 H_2t n_2u) H_2t n_2u fun v_2y H_2z n_30=>
aQ v_2v true (fun k_33=>
k_33 v1 H_2z n_30) H_2z n_30 fun v_34 H_35 n_36=>
aQ v_2v true (fun k_38=>
aV P cal 44 [v_2y,v_34] H_35 n_36 fun v_3c H_3d n_3e=>
k_38 v_3c H_3d n_3e) H_35 n_36 fun v_39 H_3a n_3b=>
aq (cK v_2v v_39 (.bool false)) fun v_3f=>
aQ v_3f true (fun k_3h=>
k_3h v1 H_3a n_3b) H_3a n_3b fun v_3i H_3j n_3k=>
aQ v_3f true (fun k_3m=>
aV P cal 45 [v_3i] H_3j n_3k fun v_3q H_3r n_3s=>
k_3m v_3q H_3r n_3s) H_3j n_3k fun v_3n H_3o n_3p=>
aQ v_3f true (fun k_3t=>
k_3t v2 H_3o n_3p) H_3o n_3p fun v_3u H_3v n_3w=>
aQ v_3f true (fun k_3y=>
binK P .leq 3 (.tmp 55) (.tmp 56) v_3n v_3u fun v_42=>
k_3y v_42 H_3v n_3w) H_3v n_3w fun v_3z H_40 n_41=>
aq (cK v_3f v_3z (.bool false)) fun v_43=>
binK P .neq 4 (.tmp 43) (.tmp 58) v_2k v_43 fun v_44=>
ifK v_44 (
some ((.bool false),H_40,n_41)) (
aq (aW v_1) fun a_47=>aq (az P H_40 26 a_47) fun v_46=>
aV P cal 20 [v_46] H_40 n_41 fun v_48 H_49 n_4a=>
binK P .neq 29 (.tmp 62) (.const (.int .i64 0)) v_48 (.int .i64 0) fun v_4d=>
ifK v_4d (
binK P .eql 29 (.tmp 64) (.tmp 65) v_26 v_48 fun v_4g=>
aQ v_4g true (fun k_4i=>
k_4i v_24 H_49 n_4a) H_49 n_4a fun v_4j H_4k n_4l=>
aQ v_4g true (fun k_4n=>
aq (lenV P 44 v_4j) fun v_4r=>
k_4n v_4r H_4k n_4l) H_4k n_4l fun v_4o H_4p n_4q=>
aQ v_4g true (fun k_4s=>
binK P .eql 3 (.tmp 69) (.const (.int .i64 0)) v_4o (.int .i64 0) fun v_4w=>
k_4s v_4w H_4p n_4q) H_4p n_4q fun v_4t H_4u n_4v=>
aq (cK v_4g v_4t (.bool false)) fun v_4x=>
aQ v_4x true (fun k_4z=>
k_4z v_25 H_4u n_4v) H_4u n_4v fun v_50 H_51 n_52=>
aQ v_4x true (fun k_54=>
binK P .eql 3 (.tmp 73) (.const (.int .i64 0)) v_50 (.int .i64 0) fun v_58=>
k_54 v_58 H_51 n_52) H_51 n_52 fun v_55 H_56 n_57=>
aq (cK v_4x v_55 (.bool false)) fun v_59=>
aQ v_59 true (fun k_5b=>
aV P cal 16 [] H_56 n_57 fun v_5f H_5g n_5h=>
k_5b v_5f H_5g n_5h) H_56 n_57 fun v_5c H_5d n_5e=>
aq (cK v_59 v_5c (.bool false)) fun v_5i=>
some (v_5i,H_5d,n_5e)) (
aq (aW v_1) fun a_5l=>aq (az P H_49 26 a_5l) fun v_5k=>
aV P cal 46 [v_5k] H_49 n_4a fun v_5m H_5n n_5o=>
aq (tupV v_5m 0) fun v_5q=>
aq (tupV v_5m 1) fun v_5r=>
aq (ej P v_5r (Op.unary UnOp.not v_5r)) fun v_5v=>
ifK v_5v (
binK P .eql 29 (.tmp 86) (.const (.int .i64 10)) v_26 (.int .i64 10) fun v_5x=>
aQ v_5x true (fun k_5z=>
k_5z v_24 H_5n n_5o) H_5n n_5o fun v_60 H_61 n_62=>
aQ v_5x true (fun k_64=>
aq (lenV P 44 v_60) fun v_68=>
k_64 v_68 H_61 n_62) H_61 n_62 fun v_65 H_66 n_67=>
aQ v_5x true (fun k_69=>
binK P .eql 3 (.tmp 90) (.const (.int .i64 0)) v_65 (.int .i64 0) fun v_6d=>
k_69 v_6d H_66 n_67) H_66 n_67 fun v_6a H_6b n_6c=>
aq (cK v_5x v_6a (.bool false)) fun v_6e=>
aQ v_6e true (fun k_6g=>
k_6g v_25 H_6b n_6c) H_6b n_6c fun v_6h H_6i n_6j=>
aQ v_6e true (fun k_6l=>
binK P .eql 3 (.tmp 94) (.const (.int .i64 0)) v_6h (.int .i64 0) fun v_6p=>
k_6l v_6p H_6i n_6j) H_6i n_6j fun v_6m H_6n n_6o=>
aq (cK v_6e v_6m (.bool false)) fun v_6q=>
aQ v_6q true (fun k_6s=>
aV P cal 16 [] H_6n n_6o fun v_6w H_6x n_6y=>
k_6s v_6w H_6x n_6y) H_6n n_6o fun v_6t H_6u n_6v=>
aq (cK v_6q v_6t (.bool false)) fun v_6z=>
some (v_6z,H_6u,n_6v)) (
binK P .eql 29 (.tmp 100) (.const (.int .i64 0)) v_26 (.int .i64 0) fun v_72=>
aQ v_72 true (fun k_74=>
k_74 v_24 H_5n n_5o) H_5n n_5o fun v_75 H_76 n_77=>
aQ v_72 true (fun k_79=>
k_79 v_5q H_76 n_77) H_76 n_77 fun v_7a H_7b n_7c=>
aQ v_72 true (fun k_7e=>
aV P cal 30 [v_75,v_7a] H_7b n_7c fun v_7i H_7j n_7k=>
k_7e v_7i H_7j n_7k) H_7b n_7c fun v_7f H_7g n_7h=>
aq (cK v_72 v_7f (.bool false)) fun v_7l=>
aQ v_7l true (fun k_7n=>
k_7n v_25 H_7g n_7h) H_7g n_7h fun v_7o H_7p n_7q=>
aQ v_7l true (fun k_7s=>
k_7s v_5q H_7p n_7q) H_7p n_7q fun v_7t H_7u n_7v=>
aQ v_7l true (fun k_7x=>
aV P cal 45 [v_7t] H_7u n_7v fun v_81 H_82 n_83=>
k_7x v_81 H_82 n_83) H_7u n_7v fun v_7y H_7z n_80=>
aQ v_7l true (fun k_84=>
binK P .eql 3 (.tmp 108) (.tmp 110) v_7o v_7y fun v_88=>
k_84 v_88 H_7z n_80) H_7z n_80 fun v_85 H_86 n_87=>
aq (cK v_7l v_85 (.bool false)) fun v_89=>
aQ v_89 true (fun k_8b=>
aV P cal 16 [] H_86 n_87 fun v_8f H_8g n_8h=>
k_8b v_8f H_8g n_8h) H_86 n_87 fun v_8c H_8d n_8e=>
aq (cK v_89 v_8c (.bool false)) fun v_8i=>
some (v_8i,H_8d,n_8e)))))
noncomputable def C7_0 (cal:Cal) (k:Nat) (v0 v1 v2:Value) (H:Hp) (n:Nat):Res:=B7_0 cal k v0 v1 v2 H n
theorem h7_0 (cal:Cal) (k:Nat) (v0 v1 v2:Value) (H:Hp) (n:Nat):aZ P cal A (k+1) 7 [v0,v1,v2] H n=C7_0 cal k v0 v1 v2 H n:=by
  have h:aZ P cal A (k+1) 7 [v0,v1,v2] H n=B7_0 cal k v0 v1 v2 H n:=by
    rw[bJ (fn:=Go.Proofs.Try.f7) (c:=wW) (rs:=eV) (by kernel_rfl) (by kernel_rfl) (by kernel_rfl) (by kernel_rfl)]
    kernel_rfl
  rw[h,C7_0]
noncomputable def code15:Code:=cq 15
noncomputable def Fy:List ResultVar:=dJ 15
noncomputable def K15_p (cal:Cal) (k:Nat):KR:=(cutK (A 15).c (ay P cal (aw P cal k) none 15 (cR code15) (Lv.b (A 15)) (av P Fy) X0 (av P Fy)))
noncomputable def K15_pr (cal:Cal) (k:Nat):KR:=(cutK (Lv.b (A 15)).c (ay P cal (aw P cal k) none 15 (cR (cR code15)) (Lv.b (Lv.b (A 15))) (av P Fy) X0 (av P Fy)))
noncomputable def B15_0 (cal:Cal) (k:Nat) (v0 v1:Value) (H:Hp) (n:Nat):Res:=
boxK 26 v0 H n fun v_1 H_2 n_3=>
aq (ax P 26 v_1 0) fun v_5=>
aq (aW v_5) fun a_7=>aq (az P H_2 22 a_7) fun v_6=>
aq (lenV P 22 v_6) fun v_8=>
binK P .leq 3 (.tmp 7) (.const (.int .i64 11)) v_8 (.int .i64 11) fun v_9=>
aQ v_9 true (fun k_b=>
aq (ax P 26 v_1 1) fun v_f=>
k_b v_f H_2 n_3) H_2 n_3 fun v_c H_d n_e=>
aQ v_9 true (fun k_g=>
aq (aW v_c) fun a_l=>aq (az P H_d 23 a_l) fun v_k=>
k_g v_k H_d n_e) H_d n_e fun v_h H_i n_j=>
aQ v_9 true (fun k_m=>
aq (lenV P 23 v_h) fun v_q=>
k_m v_q H_i n_j) H_i n_j fun v_n H_o n_p=>
aQ v_9 true (fun k_r=>
binK P .leq 3 (.tmp 12) (.const (.int .i64 19)) v_n (.int .i64 19) fun v_v=>
k_r v_v H_o n_p) H_o n_p fun v_s H_t n_u=>
aq (cK v_9 v_s (.bool false)) fun v_w=>
aQ v_w true (fun k_y=>
aq (ax P 26 v_1 2) fun v_12=>
k_y v_12 H_t n_u) H_t n_u fun v_z H_10 n_11=>
aQ v_w true (fun k_13=>
aq (aW v_z) fun a_18=>aq (az P H_10 24 a_18) fun v_17=>
k_13 v_17 H_10 n_11) H_10 n_11 fun v_14 H_15 n_16=>
aQ v_w true (fun k_19=>
aq (lenV P 24 v_14) fun v_1d=>
k_19 v_1d H_15 n_16) H_15 n_16 fun v_1a H_1b n_1c=>
aQ v_w true (fun k_1e=>
binK P .leq 3 (.tmp 18) (.const (.int .i64 6)) v_1a (.int .i64 6) fun v_1i=>
k_1e v_1i H_1b n_1c) H_1b n_1c fun v_1f H_1g n_1h=>
aq (cK v_w v_1f (.bool false)) fun v_1j=>
aQ v_1j true (fun k_1l=>
k_1l v1 H_1g n_1h) H_1g n_1h fun v_1m H_1n n_1o=>
aQ v_1j true (fun k_1q=>
aq (lenV P 44 v_1m) fun v_1u=>
k_1q v_1u H_1n n_1o) H_1n n_1o fun v_1r H_1s n_1t=>
aQ v_1j true (fun k_1v=>
binK P .leq 3 (.tmp 23) (.const (.int .i64 11)) v_1r (.int .i64 11) fun v_1z=>
k_1v v_1z H_1s n_1t) H_1s n_1t fun v_1w H_1x n_1y=>
aq (cK v_1j v_1w (.bool false)) fun v_20=>
some (v_20,H_1x,n_1y)
noncomputable def C15_0 (cal:Cal) (k:Nat) (v0 v1:Value) (H:Hp) (n:Nat):Res:=B15_0 cal k v0 v1 H n
theorem h15_0 (cal:Cal) (k:Nat) (v0 v1:Value) (H:Hp) (n:Nat):aZ P cal A (k+1) 15 [v0,v1] H n=C15_0 cal k v0 v1 H n:=by
  have h:aZ P cal A (k+1) 15 [v0,v1] H n=B15_0 cal k v0 v1 H n:=by
    rw[bJ (fn:=Go.Proofs.Try.f15) (c:=code15) (rs:=Fy) (by kernel_rfl) (by kernel_rfl) (by kernel_rfl) (by kernel_rfl)]
    kernel_rfl
  rw[h,C15_0]
noncomputable def jz:Code:=cq 18
noncomputable def cJ:List ResultVar:=dJ 18
noncomputable def K18_p (cal:Cal) (k:Nat):KR:=(cutK (A 18).c (ay P cal (aw P cal k) none 18 (cR jz) (Lv.b (A 18)) (av P cJ) X0 (av P cJ)))
noncomputable def K18_pr (cal:Cal) (k:Nat):KR:=(cutK (Lv.b (A 18)).c (ay P cal (aw P cal k) none 18 (cR (cR jz)) (Lv.b (Lv.b (A 18))) (av P cJ) X0 (av P cJ)))
noncomputable def XQ (cal:Cal) (k:Nat):KR:=(cutK (Lv.b (Lv.b (A 18))).c (ay P cal (aw P cal k) none 18 (cR (cR (cR jz))) (Lv.b (Lv.b (Lv.b (A 18)))) (av P cJ) X0 (av P cJ)))
noncomputable def K18_prrl (cal:Cal) (k:Nat):KR:=(cutK (Lv.a (Lv.b (Lv.b (A 18)))).c (ay P cal (aw P cal k) none 18 (cR (cL (cR (cR jz)))) (Lv.b (Lv.a (Lv.b (Lv.b (A 18))))) (XQ cal k) X0 (av P cJ)))
noncomputable def ux (cal:Cal) (k:Nat):XR:=(upX 0 (XQ cal k) X0)
noncomputable def Pj (cal:Cal) (k:Nat) (m1:Nat):KR:=(fun T H n D=>aw P cal m1 (Lv.a (Lv.b (Lv.a (Lv.b (Lv.b (A 18)))))) none 18 (cL (cR (cL (cR (cR jz))))) (XQ cal k) (ux cal k) (av P cJ) (cutT (Lv.a (Lv.b (Lv.a (Lv.b (Lv.b (A 18)))))).c T) H n D)
noncomputable def K18_prrlrll (cal:Cal) (k:Nat) (m1:Nat):KR:=(cutK (Lv.a (Lv.a (Lv.b (Lv.a (Lv.b (Lv.b (A 18))))))).c (ay P cal (aw P cal m1) none 18 (cR (cL (cL (cR (cL (cR (cR jz))))))) (Lv.b (Lv.a (Lv.a (Lv.b (Lv.a (Lv.b (Lv.b (A 18)))))))) (Pj cal k m1) (ux cal k) (av P cJ)))
noncomputable def K18_prrlrlll (cal:Cal) (k:Nat) (m1:Nat):KR:=(cutK (Lv.a (Lv.a (Lv.a (Lv.b (Lv.a (Lv.b (Lv.b (A 18)))))))).c (ay P cal (aw P cal m1) none 18 (cR (cL (cL (cL (cR (cL (cR (cR jz)))))))) (Lv.b (Lv.a (Lv.a (Lv.a (Lv.b (Lv.a (Lv.b (Lv.b (A 18))))))))) (K18_prrlrll cal k m1) (ux cal k) (av P cJ)))
noncomputable def K18_prrlrllr (cal:Cal) (k:Nat) (m1:Nat):KR:=(cutK (Lv.b (Lv.a (Lv.a (Lv.b (Lv.a (Lv.b (Lv.b (A 18)))))))).c (ay P cal (aw P cal m1) none 18 (cR (cR (cL (cL (cR (cL (cR (cR jz)))))))) (Lv.b (Lv.b (Lv.a (Lv.a (Lv.b (Lv.a (Lv.b (Lv.b (A 18))))))))) (Pj cal k m1) (ux cal k) (av P cJ)))
noncomputable def K18_pxrrlrllrl (cal:Cal) (k:Nat) (m1:Nat):XR:=(upX 1 (K18_prrlrllr cal k m1) (ux cal k))
noncomputable def Rx (cal:Cal) (k:Nat):KR:=(cutK (Lv.b (Lv.b (Lv.b (A 18)))).c (ay P cal (aw P cal k) none 18 (cR (cR (cR (cR jz)))) (Lv.b (Lv.b (Lv.b (Lv.b (A 18))))) (av P cJ) X0 (av P cJ)))
noncomputable def K18_prrrl (cal:Cal) (k:Nat):KR:=(cutK (Lv.a (Lv.b (Lv.b (Lv.b (A 18))))).c (ay P cal (aw P cal k) none 18 (cR (cL (cR (cR (cR jz))))) (Lv.b (Lv.a (Lv.b (Lv.b (Lv.b (A 18)))))) (Rx cal k) X0 (av P cJ)))
noncomputable def rq (cal:Cal) (k:Nat):XR:=(upX 2 (Rx cal k) X0)
noncomputable def KJ (cal:Cal) (k:Nat) (m1:Nat):KR:=(fun T H n D=>aw P cal m1 (Lv.a (Lv.b (Lv.a (Lv.b (Lv.b (Lv.b (A 18))))))) none 18 (cL (cR (cL (cR (cR (cR jz)))))) (Rx cal k) (rq cal k) (av P cJ) (cutT (Lv.a (Lv.b (Lv.a (Lv.b (Lv.b (Lv.b (A 18))))))).c T) H n D)
noncomputable def K18_prrrlrll (cal:Cal) (k:Nat) (m1:Nat):KR:=(cutK (Lv.a (Lv.a (Lv.b (Lv.a (Lv.b (Lv.b (Lv.b (A 18)))))))).c (ay P cal (aw P cal m1) none 18 (cR (cL (cL (cR (cL (cR (cR (cR jz)))))))) (Lv.b (Lv.a (Lv.a (Lv.b (Lv.a (Lv.b (Lv.b (Lv.b (A 18))))))))) (KJ cal k m1) (rq cal k) (av P cJ)))
noncomputable def K18_prrrlrlll (cal:Cal) (k:Nat) (m1:Nat):KR:=(cutK (Lv.a (Lv.a (Lv.a (Lv.b (Lv.a (Lv.b (Lv.b (Lv.b (A 18))))))))).c (ay P cal (aw P cal m1) none 18 (cR (cL (cL (cL (cR (cL (cR (cR (cR jz))))))))) (Lv.b (Lv.a (Lv.a (Lv.a (Lv.b (Lv.a (Lv.b (Lv.b (Lv.b (A 18)))))))))) (K18_prrrlrll cal k m1) (rq cal k) (av P cJ)))
noncomputable def K18_prrrlrllr (cal:Cal) (k:Nat) (m1:Nat):KR:=(cutK (Lv.b (Lv.a (Lv.a (Lv.b (Lv.a (Lv.b (Lv.b (Lv.b (A 18))))))))).c (ay P cal (aw P cal m1) none 18 (cR (cR (cL (cL (cR (cL (cR (cR (cR jz))))))))) (Lv.b (Lv.b (Lv.a (Lv.a (Lv.b (Lv.a (Lv.b (Lv.b (Lv.b (A 18)))))))))) (KJ cal k m1) (rq cal k) (av P cJ)))
noncomputable def K18_pxrrrlrllrl (cal:Cal) (k:Nat) (m1:Nat):XR:=(upX 3 (K18_prrrlrllr cal k m1) (rq cal k))
noncomputable def Mq (cal:Cal) (k:Nat):KR:=(cutK (Lv.b (Lv.b (Lv.b (Lv.b (A 18))))).c (ay P cal (aw P cal k) none 18 (cR (cR (cR (cR (cR jz))))) (Lv.b (Lv.b (Lv.b (Lv.b (Lv.b (A 18)))))) (av P cJ) X0 (av P cJ)))
noncomputable def K18_prrrrl (cal:Cal) (k:Nat):KR:=(cutK (Lv.a (Lv.b (Lv.b (Lv.b (Lv.b (A 18)))))).c (ay P cal (aw P cal k) none 18 (cR (cL (cR (cR (cR (cR jz)))))) (Lv.b (Lv.a (Lv.b (Lv.b (Lv.b (Lv.b (A 18))))))) (Mq cal k) X0 (av P cJ)))
noncomputable def pz (cal:Cal) (k:Nat):XR:=(upX 4 (Mq cal k) X0)
noncomputable def HV (cal:Cal) (k:Nat) (m1:Nat):KR:=(fun T H n D=>aw P cal m1 (Lv.a (Lv.b (Lv.a (Lv.b (Lv.b (Lv.b (Lv.b (A 18)))))))) none 18 (cL (cR (cL (cR (cR (cR (cR jz))))))) (Mq cal k) (pz cal k) (av P cJ) (cutT (Lv.a (Lv.b (Lv.a (Lv.b (Lv.b (Lv.b (Lv.b (A 18)))))))).c T) H n D)
noncomputable def K18_prrrrlrll (cal:Cal) (k:Nat) (m1:Nat):KR:=(cutK (Lv.a (Lv.a (Lv.b (Lv.a (Lv.b (Lv.b (Lv.b (Lv.b (A 18))))))))).c (ay P cal (aw P cal m1) none 18 (cR (cL (cL (cR (cL (cR (cR (cR (cR jz))))))))) (Lv.b (Lv.a (Lv.a (Lv.b (Lv.a (Lv.b (Lv.b (Lv.b (Lv.b (A 18)))))))))) (HV cal k m1) (pz cal k) (av P cJ)))
noncomputable def K18_prrrrlrlll (cal:Cal) (k:Nat) (m1:Nat):KR:=(cutK (Lv.a (Lv.a (Lv.a (Lv.b (Lv.a (Lv.b (Lv.b (Lv.b (Lv.b (A 18)))))))))).c (ay P cal (aw P cal m1) none 18 (cR (cL (cL (cL (cR (cL (cR (cR (cR (cR jz)))))))))) (Lv.b (Lv.a (Lv.a (Lv.a (Lv.b (Lv.a (Lv.b (Lv.b (Lv.b (Lv.b (A 18))))))))))) (K18_prrrrlrll cal k m1) (pz cal k) (av P cJ)))
noncomputable def K18_prrrrlrllr (cal:Cal) (k:Nat) (m1:Nat):KR:=(cutK (Lv.b (Lv.a (Lv.a (Lv.b (Lv.a (Lv.b (Lv.b (Lv.b (Lv.b (A 18)))))))))).c (ay P cal (aw P cal m1) none 18 (cR (cR (cL (cL (cR (cL (cR (cR (cR (cR jz)))))))))) (Lv.b (Lv.b (Lv.a (Lv.a (Lv.b (Lv.a (Lv.b (Lv.b (Lv.b (Lv.b (A 18))))))))))) (HV cal k m1) (pz cal k) (av P cJ)))
noncomputable def K18_pxrrrrlrllrl (cal:Cal) (k:Nat) (m1:Nat):XR:=(upX 5 (K18_prrrrlrllr cal k m1) (pz cal k))
noncomputable def K18_prrrrlrllrll (cal:Cal) (k:Nat) (m1:Nat):KR:=(cutK (Lv.a (Lv.a (Lv.b (Lv.a (Lv.a (Lv.b (Lv.a (Lv.b (Lv.b (Lv.b (Lv.b (A 18)))))))))))).c (ay P cal (aw P cal m1) none 18 (cR (cL (cL (cR (cL (cL (cR (cL (cR (cR (cR (cR jz)))))))))))) (Lv.b (Lv.a (Lv.a (Lv.b (Lv.a (Lv.a (Lv.b (Lv.a (Lv.b (Lv.b (Lv.b (Lv.b (A 18))))))))))))) (K18_prrrrlrllr cal k m1) (K18_pxrrrrlrllrl cal k m1) (av P cJ)))
noncomputable def K18_prrrrr (cal:Cal) (k:Nat):KR:=(cutK (Lv.b (Lv.b (Lv.b (Lv.b (Lv.b (A 18)))))).c (ay P cal (aw P cal k) none 18 (cR (cR (cR (cR (cR (cR jz)))))) (Lv.b (Lv.b (Lv.b (Lv.b (Lv.b (Lv.b (A 18))))))) (av P cJ) X0 (av P cJ)))
noncomputable def E18_3 (cal:Cal) (k m1:Nat):KR:=ay P cal (aw P cal m1) none 18 (cL (cL (cR (cL (cR (cR (cR (cR jz)))))))) (Lv.a (Lv.a (Lv.b (Lv.a (Lv.b (Lv.b (Lv.b (Lv.b (A 18))))))))) (HV cal k m1) (pz cal k) (av P cJ)
noncomputable def R18_3 (cal:Cal) (k m1:Nat):V4:=fun u1 u2 u3 u6 H n=>aw P cal m1 (Lv.a (Lv.b (Lv.a (Lv.b (Lv.b (Lv.b (Lv.b (A 18)))))))) none 18 (cL (cR (cL (cR (cR (cR (cR jz))))))) (Mq cal k) (pz cal k) (av P cJ) (Tr.set (Tr.set (Tr.set (Tr.set Tr.nil 6 (some u6)) 3 (some u3)) 2 (some u2)) 1 (some u1)) H n []
noncomputable def E18_2 (cal:Cal) (k m1:Nat):KR:=ay P cal (aw P cal m1) none 18 (cL (cL (cR (cL (cR (cR (cR jz))))))) (Lv.a (Lv.a (Lv.b (Lv.a (Lv.b (Lv.b (Lv.b (A 18)))))))) (KJ cal k m1) (rq cal k) (av P cJ)
noncomputable def R18_2 (cal:Cal) (k m1:Nat):V4:=fun u1 u2 u3 u5 H n=>aw P cal m1 (Lv.a (Lv.b (Lv.a (Lv.b (Lv.b (Lv.b (A 18))))))) none 18 (cL (cR (cL (cR (cR (cR jz)))))) (Rx cal k) (rq cal k) (av P cJ) (Tr.set (Tr.set (Tr.set (Tr.set Tr.nil 5 (some u5)) 3 (some u3)) 2 (some u2)) 1 (some u1)) H n []
noncomputable def E18_1 (cal:Cal) (k m1:Nat):KR:=ay P cal (aw P cal m1) none 18 (cL (cL (cR (cL (cR (cR jz)))))) (Lv.a (Lv.a (Lv.b (Lv.a (Lv.b (Lv.b (A 18))))))) (Pj cal k m1) (ux cal k) (av P cJ)
noncomputable def R18_1 (cal:Cal) (k m1:Nat):V4:=fun u1 u2 u3 u4 H n=>aw P cal m1 (Lv.a (Lv.b (Lv.a (Lv.b (Lv.b (A 18)))))) none 18 (cL (cR (cL (cR (cR jz))))) (XQ cal k) (ux cal k) (av P cJ) (Tr.set (Tr.set (Tr.set (Tr.set Tr.nil 4 (some u4)) 3 (some u3)) 2 (some u2)) 1 (some u1)) H n []
noncomputable def B18_3 (cal:Cal) (k m1:Nat) (b3:V4) (u1 u2 u3 u6:Value) (H:Hp) (n:Nat):Res:=
aq (ax P 26 u1 2) fun v_2i=>
aq (aW v_2i) fun a_2k=>aq (az P H 24 a_2k) fun v_2j=>
aq (lenV P 24 v_2j) fun v_2l=>
binK P .lss 3 (.tmp 58) (.tmp 61) u6 v_2l fun v_2m=>
ifK v_2m (
aq (ax P 26 u1 2) fun v_2n=>
aq (aW v_2n) fun a_2p=>aq (az P H 24 a_2p) fun v_2o=>
aq (aY P 24 v_2o u6) fun v_2r=>
aq (aW v_2r) fun a_2t=>aq (az P H 94 a_2t) fun v_2s=>
cX P 94 H n fun v_2u H_2v n_2w=>
aq (bx P 94 v_2u v_2s H_2v) fun H_2y=>
aq (ax P 35 u3 2) fun v_2z=>
aq (aW v_2z) fun a_30=>aq (az P H_2y 33 a_30) fun v_31=>
aq (ax P 94 v_2u 0) fun v_32=>
aq (aW v_32) fun a_33=>aq (az P H_2y 3 a_33) fun v_34=>
aq (ax P 94 v_2u 1) fun v_35=>
aq (aW v_35) fun a_36=>aq (az P H_2y 55 a_36) fun v_37=>
aq (ax P 94 v_2u 2) fun v_38=>
aq (aW v_38) fun a_39=>aq (az P H_2y 55 a_39) fun v_3a=>
effK P [(.l 55 a_39),(.l 3 a_33),(.l 33 a_30)] H_2y n_2w (fun H_3b n_3c k_3d=>
aV P cal 26 [v_37] H_3b n_3c fun v_3h H_3i n_3j=>
k_3d v_3h H_3i n_3j) fun v_3e H_3f n_3g=>
effK P [(.l 3 a_33),(.l 33 a_30)] H_3f n_3g (fun H_3k n_3l k_3m=>
aV P cal 26 [v_3a] H_3k n_3l fun v_3q H_3r n_3s=>
k_3m v_3q H_3r n_3s) fun v_3n H_3o n_3p=>
aq (fK P 86 [(0,v_34),(1,v_3e),(2,v_3n)]) fun v_3t=>
aq (EW P 33 1 [(0,v_3t)]) fun q_3w=>newK q_3w.1 q_3w.2 H_3o n_3p fun H_3u n_3v=>
stK (jZ P (bare H_3u n_3v) 33 33 v_31 (.slice (some ⟨n_3p,0,none⟩) 1 1)) fun v_3x H_3y n_3z=>
aq (ax P 35 u3 2) fun v_40=>
aq (bx P 33 v_40 v_3x H_3y) fun H_42=>
binK P .add 3 (.tmp 63) (.const (.int .i64 1)) u6 (.int .i64 1) fun v_44=>
b3 u1 u2 u3 v_44 H_42 n_3z) (
aq (aW u3) fun a_47=>aq (az P H 35 a_47) fun v_46=>
aq (bx P 35 u2 v_46 H) fun H_49=>
aq (resV P (Tr.set Tr.nil 2 (some u2)) H_49 cJ) fun v_4a=>some (oneV v_4a,H_49,n))
noncomputable def C18_3 (cal:Cal) (k m1:Nat) (b3:V4) (u1 u2 u3 u6:Value) (H:Hp) (n:Nat):Res:=B18_3 cal k m1 b3 u1 u2 u3 u6 H n
noncomputable def S18_3 (cal:Cal) (k:Nat):Nat→V4:=fun m=>Nat.rec (motive:=fun _=>V4) (C18_3 cal k 0 (fun _ _ _ _ _ _=>none)) (fun m ih=>C18_3 cal k (m+1) ih) m
theorem h18_3 (cal:Cal) (k m1:Nat) (u1 u2 u3 u6:Value) (H:Hp) (n:Nat):labK (E18_3 cal k m1) (Tr.set (Tr.set (Tr.set (Tr.set Tr.nil 6 (some u6)) 3 (some u3)) 2 (some u2)) 1 (some u1)) H n []=C18_3 cal k m1 (R18_3 cal k m1) u1 u2 u3 u6 H n:=by
  refine Eq.trans (b:=B18_3 cal k m1 (R18_3 cal k m1) u1 u2 u3 u6 H n) (by kernel_rfl) ?_
  rw[C18_3]
theorem q18_3 (cal:Cal) (k:Nat):∀(m:Nat) (u1 u2 u3 u6:Value) (H:Hp) (n:Nat),labK (E18_3 cal k m) (Tr.set (Tr.set (Tr.set (Tr.set Tr.nil 6 (some u6)) 3 (some u3)) 2 (some u2)) 1 (some u1)) H n []=S18_3 cal k m u1 u2 u3 u6 H n
  | 0,u1,u2,u3,u6,H,n=>by
    rw[h18_3]
    have e:R18_3 cal k 0=fun _ _ _ _ _ _=>none:=by funext u1 u2 u3 u6 H n; kernel_rfl
    rw[e]; rfl
  | m+1,u1,u2,u3,u6,H,n=>by
    rw[h18_3]
    have e:R18_3 cal k (m+1)=S18_3 cal k m:=by
      funext u1 u2 u3 u6 H n
      have e:R18_3 cal k (m+1) u1 u2 u3 u6 H n=labK (E18_3 cal k m) (Tr.set (Tr.set (Tr.set (Tr.set Tr.nil 6 (some u6)) 3 (some u3)) 2 (some u2)) 1 (some u1)) H n []:=by kernel_rfl
      rw[e]; exact q18_3 ..
    rw[e]; rfl
noncomputable def B18_2 (cal:Cal) (k m1:Nat) (j3:V4) (b2:V4) (u1 u2 u3 u5:Value) (H:Hp) (n:Nat):Res:=
aq (ax P 26 u1 1) fun v_1f=>
aq (aW v_1f) fun a_1h=>aq (az P H 23 a_1h) fun v_1g=>
aq (lenV P 23 v_1g) fun v_1i=>
binK P .lss 3 (.tmp 33) (.tmp 36) u5 v_1i fun v_1j=>
ifK v_1j (
aq (ax P 35 u3 1) fun v_1k=>
aq (aW v_1k) fun a_1l=>aq (az P H 32 a_1l) fun v_1m=>
aq (ax P 26 u1 1) fun v_1n=>
aq (aW v_1n) fun a_1o=>aq (az P H 23 a_1o) fun v_1p=>
aq (aY P 23 v_1p u5) fun v_1r=>
aq (ax P 104 v_1r 0) fun v_1s=>
aq (aW v_1s) fun a_1t=>aq (az P H 3 a_1t) fun v_1u=>
aq (ax P 26 u1 1) fun v_1v=>
aq (aW v_1v) fun a_1w=>aq (az P H 23 a_1w) fun v_1x=>
aq (aY P 23 v_1x u5) fun v_1z=>
aq (ax P 104 v_1z 1) fun v_20=>
aq (aW v_20) fun a_21=>aq (az P H 3 a_21) fun v_22=>
aq (fK P 88 [(0,v_1u),(1,v_22)]) fun v_23=>
aq (EW P 32 1 [(0,v_23)]) fun q_26=>newK q_26.1 q_26.2 H n fun H_24 n_25=>
stK (jZ P (bare H_24 n_25) 32 32 v_1m (.slice (some ⟨n,0,none⟩) 1 1)) fun v_27 H_28 n_29=>
aq (ax P 35 u3 1) fun v_2a=>
aq (bx P 32 v_2a v_27 H_28) fun H_2c=>
binK P .add 3 (.tmp 38) (.const (.int .i64 1)) u5 (.int .i64 1) fun v_2e=>
b2 u1 u2 u3 v_2e H_2c n_29) (
j3 u1 u2 u3 (.int .i64 0) H n)
noncomputable def C18_2 (cal:Cal) (k m1:Nat) (b2:V4) (u1 u2 u3 u5:Value) (H:Hp) (n:Nat):Res:=B18_2 cal k m1 (S18_3 cal k k) b2 u1 u2 u3 u5 H n
noncomputable def S18_2 (cal:Cal) (k:Nat):Nat→V4:=fun m=>Nat.rec (motive:=fun _=>V4) (C18_2 cal k 0 (fun _ _ _ _ _ _=>none)) (fun m ih=>C18_2 cal k (m+1) ih) m
theorem h18_2 (cal:Cal) (k m1:Nat) (u1 u2 u3 u5:Value) (H:Hp) (n:Nat):labK (E18_2 cal k m1) (Tr.set (Tr.set (Tr.set (Tr.set Tr.nil 5 (some u5)) 3 (some u3)) 2 (some u2)) 1 (some u1)) H n []=C18_2 cal k m1 (R18_2 cal k m1) u1 u2 u3 u5 H n:=by
  refine Eq.trans (b:=B18_2 cal k m1 (fun u1 u2 u3 u6 H n=>labK (E18_3 cal k k) (Tr.set (Tr.set (Tr.set (Tr.set Tr.nil 6 (some u6)) 3 (some u3)) 2 (some u2)) 1 (some u1)) H n []) (R18_2 cal k m1) u1 u2 u3 u5 H n) (by kernel_rfl) ?_
  rw[C18_2]
  have e3:(fun u1 u2 u3 u6 H n=>labK (E18_3 cal k k) (Tr.set (Tr.set (Tr.set (Tr.set Tr.nil 6 (some u6)) 3 (some u3)) 2 (some u2)) 1 (some u1)) H n [])=(S18_3 cal k k):=by funext u1 u2 u3 u6 H n; exact q18_3 ..
  rw[e3]
theorem q18_2 (cal:Cal) (k:Nat):∀(m:Nat) (u1 u2 u3 u5:Value) (H:Hp) (n:Nat),labK (E18_2 cal k m) (Tr.set (Tr.set (Tr.set (Tr.set Tr.nil 5 (some u5)) 3 (some u3)) 2 (some u2)) 1 (some u1)) H n []=S18_2 cal k m u1 u2 u3 u5 H n
  | 0,u1,u2,u3,u5,H,n=>by
    rw[h18_2]
    have e:R18_2 cal k 0=fun _ _ _ _ _ _=>none:=by funext u1 u2 u3 u5 H n; kernel_rfl
    rw[e]; rfl
  | m+1,u1,u2,u3,u5,H,n=>by
    rw[h18_2]
    have e:R18_2 cal k (m+1)=S18_2 cal k m:=by
      funext u1 u2 u3 u5 H n
      have e:R18_2 cal k (m+1) u1 u2 u3 u5 H n=labK (E18_2 cal k m) (Tr.set (Tr.set (Tr.set (Tr.set Tr.nil 5 (some u5)) 3 (some u3)) 2 (some u2)) 1 (some u1)) H n []:=by kernel_rfl
      rw[e]; exact q18_2 ..
    rw[e]; rfl
noncomputable def B18_1 (cal:Cal) (k m1:Nat) (j2:V4) (b1:V4) (u1 u2 u3 u4:Value) (H:Hp) (n:Nat):Res:=
aq (ax P 26 u1 0) fun v_c=>
aq (aW v_c) fun a_e=>aq (az P H 22 a_e) fun v_d=>
aq (lenV P 22 v_d) fun v_f=>
binK P .lss 3 (.tmp 8) (.tmp 11) u4 v_f fun v_g=>
ifK v_g (
aq (ax P 35 u3 0) fun v_h=>
aq (aW v_h) fun a_i=>aq (az P H 31 a_i) fun v_j=>
aq (ax P 26 u1 0) fun v_k=>
aq (aW v_k) fun a_l=>aq (az P H 22 a_l) fun v_m=>
aq (aY P 22 v_m u4) fun v_o=>
aq (ax P 95 v_o 0) fun v_p=>
aq (aW v_p) fun a_q=>aq (az P H 3 a_q) fun v_r=>
aq (ax P 26 u1 0) fun v_s=>
aq (aW v_s) fun a_t=>aq (az P H 22 a_t) fun v_u=>
aq (aY P 22 v_u u4) fun v_w=>
aq (ax P 95 v_w 1) fun v_x=>
aq (aW v_x) fun a_y=>aq (az P H 3 a_y) fun v_z=>
aq (fK P 90 [(0,v_r),(1,v_z)]) fun v_10=>
aq (EW P 31 1 [(0,v_10)]) fun q_13=>newK q_13.1 q_13.2 H n fun H_11 n_12=>
stK (jZ P (bare H_11 n_12) 31 31 v_j (.slice (some ⟨n,0,none⟩) 1 1)) fun v_14 H_15 n_16=>
aq (ax P 35 u3 0) fun v_17=>
aq (bx P 31 v_17 v_14 H_15) fun H_19=>
binK P .add 3 (.tmp 13) (.const (.int .i64 1)) u4 (.int .i64 1) fun v_1b=>
b1 u1 u2 u3 v_1b H_19 n_16) (
j2 u1 u2 u3 (.int .i64 0) H n)
noncomputable def C18_1 (cal:Cal) (k m1:Nat) (b1:V4) (u1 u2 u3 u4:Value) (H:Hp) (n:Nat):Res:=B18_1 cal k m1 (S18_2 cal k k) b1 u1 u2 u3 u4 H n
noncomputable def S18_1 (cal:Cal) (k:Nat):Nat→V4:=fun m=>Nat.rec (motive:=fun _=>V4) (C18_1 cal k 0 (fun _ _ _ _ _ _=>none)) (fun m ih=>C18_1 cal k (m+1) ih) m
theorem h18_1 (cal:Cal) (k m1:Nat) (u1 u2 u3 u4:Value) (H:Hp) (n:Nat):labK (E18_1 cal k m1) (Tr.set (Tr.set (Tr.set (Tr.set Tr.nil 4 (some u4)) 3 (some u3)) 2 (some u2)) 1 (some u1)) H n []=C18_1 cal k m1 (R18_1 cal k m1) u1 u2 u3 u4 H n:=by
  refine Eq.trans (b:=B18_1 cal k m1 (fun u1 u2 u3 u5 H n=>labK (E18_2 cal k k) (Tr.set (Tr.set (Tr.set (Tr.set Tr.nil 5 (some u5)) 3 (some u3)) 2 (some u2)) 1 (some u1)) H n []) (R18_1 cal k m1) u1 u2 u3 u4 H n) (by kernel_rfl) ?_
  rw[C18_1]
  have e2:(fun u1 u2 u3 u5 H n=>labK (E18_2 cal k k) (Tr.set (Tr.set (Tr.set (Tr.set Tr.nil 5 (some u5)) 3 (some u3)) 2 (some u2)) 1 (some u1)) H n [])=(S18_2 cal k k):=by funext u1 u2 u3 u5 H n; exact q18_2 ..
  rw[e2]
theorem q18_1 (cal:Cal) (k:Nat):∀(m:Nat) (u1 u2 u3 u4:Value) (H:Hp) (n:Nat),labK (E18_1 cal k m) (Tr.set (Tr.set (Tr.set (Tr.set Tr.nil 4 (some u4)) 3 (some u3)) 2 (some u2)) 1 (some u1)) H n []=S18_1 cal k m u1 u2 u3 u4 H n
  | 0,u1,u2,u3,u4,H,n=>by
    rw[h18_1]
    have e:R18_1 cal k 0=fun _ _ _ _ _ _=>none:=by funext u1 u2 u3 u4 H n; kernel_rfl
    rw[e]; rfl
  | m+1,u1,u2,u3,u4,H,n=>by
    rw[h18_1]
    have e:R18_1 cal k (m+1)=S18_1 cal k m:=by
      funext u1 u2 u3 u4 H n
      have e:R18_1 cal k (m+1) u1 u2 u3 u4 H n=labK (E18_1 cal k m) (Tr.set (Tr.set (Tr.set (Tr.set Tr.nil 4 (some u4)) 3 (some u3)) 2 (some u2)) 1 (some u1)) H n []:=by kernel_rfl
      rw[e]; exact q18_1 ..
    rw[e]; rfl
noncomputable def B18_0 (cal:Cal) (k:Nat) (j1:V4) (v0:Value) (H:Hp) (n:Nat):Res:=
boxK 26 v0 H n fun v_1 H_2 n_3=>
cX P 35 H_2 n_3 fun v_4 H_5 n_6=>
cX P 35 H_5 n_6 fun v_7 H_8 n_9=>
j1 v_1 v_4 v_7 (.int .i64 0) H_8 n_9
noncomputable def C18_0 (cal:Cal) (k:Nat) (v0:Value) (H:Hp) (n:Nat):Res:=B18_0 cal k (S18_1 cal k k) v0 H n
theorem h18_0 (cal:Cal) (k:Nat) (v0:Value) (H:Hp) (n:Nat):aZ P cal A (k+1) 18 [v0] H n=C18_0 cal k v0 H n:=by
  have h:aZ P cal A (k+1) 18 [v0] H n=B18_0 cal k (fun u1 u2 u3 u4 H n=>labK (E18_1 cal k k) (Tr.set (Tr.set (Tr.set (Tr.set Tr.nil 4 (some u4)) 3 (some u3)) 2 (some u2)) 1 (some u1)) H n []) v0 H n:=by
    rw[bJ (fn:=Go.Proofs.Try.f18) (c:=jz) (rs:=cJ) (by kernel_rfl) (by kernel_rfl) (by kernel_rfl) (by kernel_rfl)]
    kernel_rfl
  rw[h,C18_0]
  have e1:(fun u1 u2 u3 u4 H n=>labK (E18_1 cal k k) (Tr.set (Tr.set (Tr.set (Tr.set Tr.nil 4 (some u4)) 3 (some u3)) 2 (some u2)) 1 (some u1)) H n [])=(S18_1 cal k k):=by funext u1 u2 u3 u4 H n; exact q18_1 ..
  rw[e1]
noncomputable def code20:Code:=cq 20
noncomputable def Fz:List ResultVar:=dJ 20
noncomputable def K20_p (cal:Cal) (k:Nat):KR:=(cutK (A 20).c (ay P cal (aw P cal k) none 20 (cR code20) (Lv.b (A 20)) (av P Fz) X0 (av P Fz)))
noncomputable def K20_pr (cal:Cal) (k:Nat):KR:=(cutK (Lv.b (A 20)).c (ay P cal (aw P cal k) none 20 (cR (cR code20)) (Lv.b (Lv.b (A 20))) (av P Fz) X0 (av P Fz)))
noncomputable def B20_0 (cal:Cal) (k:Nat) (v0:Value) (H:Hp) (n:Nat):Res:=
boxK 26 v0 H n fun v_1 H_2 n_3=>
aq (aW v_1) fun a_6=>aq (az P H_2 26 a_6) fun v_5=>
aV P cal 63 [v_5] H_2 n_3 fun v_7 H_8 n_9=>
some (v_7,H_8,n_9)
noncomputable def C20_0 (cal:Cal) (k:Nat) (v0:Value) (H:Hp) (n:Nat):Res:=B20_0 cal k v0 H n
theorem h20_0 (cal:Cal) (k:Nat) (v0:Value) (H:Hp) (n:Nat):aZ P cal A (k+1) 20 [v0] H n=C20_0 cal k v0 H n:=by
  have h:aZ P cal A (k+1) 20 [v0] H n=B20_0 cal k v0 H n:=by
    rw[bJ (fn:=Go.Proofs.Try.f20) (c:=code20) (rs:=Fz) (by kernel_rfl) (by kernel_rfl) (by kernel_rfl) (by kernel_rfl)]
    kernel_rfl
  rw[h,C20_0]
noncomputable def yw:Code:=cq 21
noncomputable def jW:List ResultVar:=dJ 21
noncomputable def K21_p (cal:Cal) (k:Nat):KR:=(cutK (A 21).c (ay P cal (aw P cal k) none 21 (cR yw) (Lv.b (A 21)) (av P jW) X0 (av P jW)))
noncomputable def K21_pr (cal:Cal) (k:Nat):KR:=(cutK (Lv.b (A 21)).c (ay P cal (aw P cal k) none 21 (cR (cR yw)) (Lv.b (Lv.b (A 21))) (av P jW) X0 (av P jW)))
noncomputable def K21_prl (cal:Cal) (k:Nat):KR:=(cutK (Lv.a (Lv.b (A 21))).c (ay P cal (aw P cal k) none 21 (cR (cL (cR yw))) (Lv.b (Lv.a (Lv.b (A 21)))) (K21_pr cal k) X0 (av P jW)))
noncomputable def yx (cal:Cal) (k:Nat):XR:=(upX 0 (K21_pr cal k) X0)
noncomputable def TK (cal:Cal) (k:Nat) (m1:Nat):KR:=(fun T H n D=>aw P cal m1 (Lv.a (Lv.b (Lv.a (Lv.b (A 21))))) none 21 (cL (cR (cL (cR yw)))) (K21_pr cal k) (yx cal k) (av P jW) (cutT (Lv.a (Lv.b (Lv.a (Lv.b (A 21))))).c T) H n D)
noncomputable def K21_prlrll (cal:Cal) (k:Nat) (m1:Nat):KR:=(cutK (Lv.a (Lv.a (Lv.b (Lv.a (Lv.b (A 21)))))).c (ay P cal (aw P cal m1) none 21 (cR (cL (cL (cR (cL (cR yw)))))) (Lv.b (Lv.a (Lv.a (Lv.b (Lv.a (Lv.b (A 21))))))) (TK cal k m1) (yx cal k) (av P jW)))
noncomputable def K21_prlrlll (cal:Cal) (k:Nat) (m1:Nat):KR:=(cutK (Lv.a (Lv.a (Lv.a (Lv.b (Lv.a (Lv.b (A 21))))))).c (ay P cal (aw P cal m1) none 21 (cR (cL (cL (cL (cR (cL (cR yw))))))) (Lv.b (Lv.a (Lv.a (Lv.a (Lv.b (Lv.a (Lv.b (A 21)))))))) (K21_prlrll cal k m1) (yx cal k) (av P jW)))
noncomputable def KQ (cal:Cal) (k:Nat) (m1:Nat):KR:=(cutK (Lv.b (Lv.a (Lv.a (Lv.b (Lv.a (Lv.b (A 21))))))).c (ay P cal (aw P cal m1) none 21 (cR (cR (cL (cL (cR (cL (cR yw))))))) (Lv.b (Lv.b (Lv.a (Lv.a (Lv.b (Lv.a (Lv.b (A 21)))))))) (TK cal k m1) (yx cal k) (av P jW)))
noncomputable def K21_pxrlrllrl (cal:Cal) (k:Nat) (m1:Nat):XR:=(upX 1 (KQ cal k m1) (yx cal k))
noncomputable def K21_prlrllrll (cal:Cal) (k:Nat) (m1:Nat):KR:=(cutK (Lv.a (Lv.a (Lv.b (Lv.a (Lv.a (Lv.b (Lv.a (Lv.b (A 21))))))))).c (ay P cal (aw P cal m1) none 21 (cR (cL (cL (cR (cL (cL (cR (cL (cR yw))))))))) (Lv.b (Lv.a (Lv.a (Lv.b (Lv.a (Lv.a (Lv.b (Lv.a (Lv.b (A 21)))))))))) (KQ cal k m1) (K21_pxrlrllrl cal k m1) (av P jW)))
noncomputable def K21_prlrllrllrl (cal:Cal) (k:Nat) (m1:Nat):KR:=(cutK (Lv.a (Lv.b (Lv.a (Lv.a (Lv.b (Lv.a (Lv.a (Lv.b (Lv.a (Lv.b (A 21))))))))))).c (ay P cal (aw P cal m1) none 21 (cR (cL (cR (cL (cL (cR (cL (cL (cR (cL (cR yw))))))))))) (Lv.b (Lv.a (Lv.b (Lv.a (Lv.a (Lv.b (Lv.a (Lv.a (Lv.b (Lv.a (Lv.b (A 21)))))))))))) (KQ cal k m1) (K21_pxrlrllrl cal k m1) (av P jW)))
noncomputable def K21_prr (cal:Cal) (k:Nat):KR:=(cutK (Lv.b (Lv.b (A 21))).c (ay P cal (aw P cal k) none 21 (cR (cR (cR yw))) (Lv.b (Lv.b (Lv.b (A 21)))) (av P jW) X0 (av P jW)))
noncomputable def E21_1 (cal:Cal) (k m1:Nat):KR:=ay P cal (aw P cal m1) none 21 (cL (cL (cR (cL (cR yw))))) (Lv.a (Lv.a (Lv.b (Lv.a (Lv.b (A 21)))))) (TK cal k m1) (yx cal k) (av P jW)
noncomputable def R21_1 (cal:Cal) (k m1:Nat):V4:=fun u1 u2 u3 u7 H n=>aw P cal m1 (Lv.a (Lv.b (Lv.a (Lv.b (A 21))))) none 21 (cL (cR (cL (cR yw)))) (K21_pr cal k) (yx cal k) (av P jW) (Tr.set (Tr.set (Tr.set (Tr.set Tr.nil 7 (some u7)) 3 (some u3)) 2 (some u2)) 1 (some u1)) H n []
noncomputable def B21_1 (cal:Cal) (k m1:Nat) (b1:V4) (u1 u2 u3 u7:Value) (H:Hp) (n:Nat):Res:=
aq (ax P 26 u3 2) fun v_g=>
aq (aW v_g) fun a_i=>aq (az P H 24 a_i) fun v_h=>
aq (aY P 24 v_h u1) fun v_k=>
aq (ax P 94 v_k 1) fun v_l=>
aq (ax P 55 v_l 1) fun v_m=>
aq (aW v_m) fun a_o=>aq (az P H 3 a_o) fun v_n=>
binK P .leq 3 (.tmp 15) (.tmp 22) u7 v_n fun v_p=>
ifK v_p (
aq (aW u3) fun a_r=>aq (az P H 26 a_r) fun v_q=>
aV P cal 64 [v_q,u1,u2,u2,u7] H n fun v_w H_x n_y=>
ifK v_w (
some ((.bool true),H_x,n_y)) (
binK P .add 3 (.tmp 24) (.const (.int .i64 1)) u7 (.int .i64 1) fun v_11=>
b1 u1 u2 u3 v_11 H_x n_y)) (
some ((.bool false),H,n))
noncomputable def C21_1 (cal:Cal) (k m1:Nat) (b1:V4) (u1 u2 u3 u7:Value) (H:Hp) (n:Nat):Res:=B21_1 cal k m1 b1 u1 u2 u3 u7 H n
noncomputable def S21_1 (cal:Cal) (k:Nat):Nat→V4:=fun m=>Nat.rec (motive:=fun _=>V4) (C21_1 cal k 0 (fun _ _ _ _ _ _=>none)) (fun m ih=>C21_1 cal k (m+1) ih) m
theorem h21_1 (cal:Cal) (k m1:Nat) (u1 u2 u3 u7:Value) (H:Hp) (n:Nat):labK (E21_1 cal k m1) (Tr.set (Tr.set (Tr.set (Tr.set Tr.nil 7 (some u7)) 3 (some u3)) 2 (some u2)) 1 (some u1)) H n []=C21_1 cal k m1 (R21_1 cal k m1) u1 u2 u3 u7 H n:=by
  refine Eq.trans (b:=B21_1 cal k m1 (R21_1 cal k m1) u1 u2 u3 u7 H n) (by kernel_rfl) ?_
  rw[C21_1]
theorem q21_1 (cal:Cal) (k:Nat):∀(m:Nat) (u1 u2 u3 u7:Value) (H:Hp) (n:Nat),labK (E21_1 cal k m) (Tr.set (Tr.set (Tr.set (Tr.set Tr.nil 7 (some u7)) 3 (some u3)) 2 (some u2)) 1 (some u1)) H n []=S21_1 cal k m u1 u2 u3 u7 H n
  | 0,u1,u2,u3,u7,H,n=>by
    rw[h21_1]
    have e:R21_1 cal k 0=fun _ _ _ _ _ _=>none:=by funext u1 u2 u3 u7 H n; kernel_rfl
    rw[e]; rfl
  | m+1,u1,u2,u3,u7,H,n=>by
    rw[h21_1]
    have e:R21_1 cal k (m+1)=S21_1 cal k m:=by
      funext u1 u2 u3 u7 H n
      have e:R21_1 cal k (m+1) u1 u2 u3 u7 H n=labK (E21_1 cal k m) (Tr.set (Tr.set (Tr.set (Tr.set Tr.nil 7 (some u7)) 3 (some u3)) 2 (some u2)) 1 (some u1)) H n []:=by kernel_rfl
      rw[e]; exact q21_1 ..
    rw[e]; rfl
noncomputable def B21_0 (cal:Cal) (k:Nat) (j1:V4) (v0 v1 v2:Value) (H:Hp) (n:Nat):Res:=
boxK 26 v0 H n fun v_1 H_2 n_3=>
aq (ax P 26 v_1 2) fun v_5=>
aq (aW v_5) fun a_7=>aq (az P H_2 24 a_7) fun v_6=>
aq (aY P 24 v_6 v1) fun v_9=>
aq (ax P 94 v_9 1) fun v_a=>
aq (ax P 55 v_a 0) fun v_b=>
aq (aW v_b) fun a_d=>aq (az P H_2 3 a_d) fun v_c=>
j1 v1 v2 v_1 v_c H_2 n_3
noncomputable def C21_0 (cal:Cal) (k:Nat) (v0 v1 v2:Value) (H:Hp) (n:Nat):Res:=B21_0 cal k (S21_1 cal k k) v0 v1 v2 H n
theorem h21_0 (cal:Cal) (k:Nat) (v0 v1 v2:Value) (H:Hp) (n:Nat):aZ P cal A (k+1) 21 [v0,v1,v2] H n=C21_0 cal k v0 v1 v2 H n:=by
  have h:aZ P cal A (k+1) 21 [v0,v1,v2] H n=B21_0 cal k (fun u1 u2 u3 u7 H n=>labK (E21_1 cal k k) (Tr.set (Tr.set (Tr.set (Tr.set Tr.nil 7 (some u7)) 3 (some u3)) 2 (some u2)) 1 (some u1)) H n []) v0 v1 v2 H n:=by
    rw[bJ (fn:=Go.Proofs.Try.f21) (c:=yw) (rs:=jW) (by kernel_rfl) (by kernel_rfl) (by kernel_rfl) (by kernel_rfl)]
    kernel_rfl
  rw[h,C21_0]
  have e1:(fun u1 u2 u3 u7 H n=>labK (E21_1 cal k k) (Tr.set (Tr.set (Tr.set (Tr.set Tr.nil 7 (some u7)) 3 (some u3)) 2 (some u2)) 1 (some u1)) H n [])=(S21_1 cal k k):=by funext u1 u2 u3 u7 H n; exact q21_1 ..
  rw[e1]
noncomputable def code23:Code:=cq 23
noncomputable def Fk:List ResultVar:=dJ 23
noncomputable def K23_p (cal:Cal) (k:Nat):KR:=(cutK (A 23).c (ay P cal (aw P cal k) none 23 (cR code23) (Lv.b (A 23)) (av P Fk) X0 (av P Fk)))
noncomputable def K23_pr (cal:Cal) (k:Nat):KR:=(cutK (Lv.b (A 23)).c (ay P cal (aw P cal k) none 23 (cR (cR code23)) (Lv.b (Lv.b (A 23))) (av P Fk) X0 (av P Fk)))
noncomputable def B23_0 (cal:Cal) (k:Nat) (v0:Value) (H:Hp) (n:Nat):Res:=
rowK P 44 0 [] H n fun v_2 H_3 n_4=>
stK (jZ P (bare H_3 n_4) 44 44 v_2 v0) fun v_6 H_7 n_8=>
some (v_6,H_7,n_8)
noncomputable def Nw (cal:Cal) (k:Nat) (v0:Value) (H:Hp) (n:Nat):Res:=B23_0 cal k v0 H n
theorem h23_0 (cal:Cal) (k:Nat) (v0:Value) (H:Hp) (n:Nat):aZ P cal A (k+1) 23 [v0] H n=Nw cal k v0 H n:=by
  have h:aZ P cal A (k+1) 23 [v0] H n=B23_0 cal k v0 H n:=by
    rw[bJ (fn:=Go.Proofs.Try.f23) (c:=code23) (rs:=Fk) (by kernel_rfl) (by kernel_rfl) (by kernel_rfl) (by kernel_rfl)]
    kernel_rfl
  rw[h,Nw]
noncomputable def Dk:Code:=cq 25
noncomputable def lJ:List ResultVar:=dJ 25
noncomputable def K25_p (cal:Cal) (k:Nat):KR:=(cutK (A 25).c (ay P cal (aw P cal k) none 25 (cR Dk) (Lv.b (A 25)) (av P lJ) X0 (av P lJ)))
noncomputable def K25_pr (cal:Cal) (k:Nat):KR:=(cutK (Lv.b (A 25)).c (ay P cal (aw P cal k) none 25 (cR (cR Dk)) (Lv.b (Lv.b (A 25))) (av P lJ) X0 (av P lJ)))
noncomputable def K25_prl (cal:Cal) (k:Nat):KR:=(cutK (Lv.a (Lv.b (A 25))).c (ay P cal (aw P cal k) none 25 (cR (cL (cR Dk))) (Lv.b (Lv.a (Lv.b (A 25)))) (K25_pr cal k) X0 (av P lJ)))
noncomputable def K25_prlr (cal:Cal) (k:Nat):KR:=(cutK (Lv.b (Lv.a (Lv.b (A 25)))).c (ay P cal (aw P cal k) none 25 (cR (cR (cL (cR Dk)))) (Lv.b (Lv.b (Lv.a (Lv.b (A 25))))) (K25_pr cal k) X0 (av P lJ)))
noncomputable def K25_prlrrl (cal:Cal) (k:Nat):KR:=(cutK (Lv.a (Lv.b (Lv.b (Lv.a (Lv.b (A 25)))))).c (ay P cal (aw P cal k) none 25 (cR (cL (cR (cR (cL (cR Dk)))))) (Lv.b (Lv.a (Lv.b (Lv.b (Lv.a (Lv.b (A 25))))))) (K25_pr cal k) X0 (av P lJ)))
noncomputable def K25_prr (cal:Cal) (k:Nat):KR:=(cutK (Lv.b (Lv.b (A 25))).c (ay P cal (aw P cal k) none 25 (cR (cR (cR Dk))) (Lv.b (Lv.b (Lv.b (A 25)))) (av P lJ) X0 (av P lJ)))
noncomputable def K25_prrl (cal:Cal) (k:Nat):KR:=(cutK (Lv.a (Lv.b (Lv.b (A 25)))).c (ay P cal (aw P cal k) none 25 (cR (cL (cR (cR Dk)))) (Lv.b (Lv.a (Lv.b (Lv.b (A 25))))) (K25_prr cal k) X0 (av P lJ)))
noncomputable def K25_prrlrl (cal:Cal) (k:Nat):KR:=(cutK (Lv.a (Lv.b (Lv.a (Lv.b (Lv.b (A 25)))))).c (ay P cal (aw P cal k) none 25 (cR (cL (cR (cL (cR (cR Dk)))))) (Lv.b (Lv.a (Lv.b (Lv.a (Lv.b (Lv.b (A 25))))))) (K25_prr cal k) X0 (av P lJ)))
noncomputable def K25_prrr (cal:Cal) (k:Nat):KR:=(cutK (Lv.b (Lv.b (Lv.b (A 25)))).c (ay P cal (aw P cal k) none 25 (cR (cR (cR (cR Dk)))) (Lv.b (Lv.b (Lv.b (Lv.b (A 25))))) (av P lJ) X0 (av P lJ)))
noncomputable def B25_0 (cal:Cal) (k:Nat) (v0 v1:Value) (H:Hp) (n:Nat):Res:=
boxK 26 v0 H n fun v_1 H_2 n_3=>
aq (aW v_1) fun a_6=>aq (az P H_2 26 a_6) fun v_5=>
aV P cal 20 [v_5] H_2 n_3 fun v_7 H_8 n_9=>
binK P .neq 29 (.tmp 8) (.const (.int .i64 0)) v_7 (.int .i64 0) fun v_c=>
ifK v_c (
some (v_7,H_8,n_9)) (
aq (aW v_1) fun a_g=>aq (az P H_8 26 a_g) fun v_f=>
aV P cal 58 [v_f,v1] H_8 n_9 fun v_i H_j n_k=>
aq (ej P v_i (Op.unary UnOp.not v_i)) fun v_l=>
ifK v_l (
some ((.int .i64 2),H_j,n_k)) (
some ((.int .i64 0),H_j,n_k)))
noncomputable def C25_0 (cal:Cal) (k:Nat) (v0 v1:Value) (H:Hp) (n:Nat):Res:=B25_0 cal k v0 v1 H n
theorem h25_0 (cal:Cal) (k:Nat) (v0 v1:Value) (H:Hp) (n:Nat):aZ P cal A (k+1) 25 [v0,v1] H n=C25_0 cal k v0 v1 H n:=by
  have h:aZ P cal A (k+1) 25 [v0,v1] H n=B25_0 cal k v0 v1 H n:=by
    rw[bJ (fn:=Go.Proofs.Try.f25) (c:=Dk) (rs:=lJ) (by kernel_rfl) (by kernel_rfl) (by kernel_rfl) (by kernel_rfl)]
    kernel_rfl
  rw[h,C25_0]
noncomputable def code26:Code:=cq 26
noncomputable def yy:List ResultVar:=dJ 26
noncomputable def K26_p (cal:Cal) (k:Nat):KR:=(cutK (A 26).c (ay P cal (aw P cal k) none 26 (cR code26) (Lv.b (A 26)) (av P yy) X0 (av P yy)))
noncomputable def K26_pr (cal:Cal) (k:Nat):KR:=(cutK (Lv.b (A 26)).c (ay P cal (aw P cal k) none 26 (cR (cR code26)) (Lv.b (Lv.b (A 26))) (av P yy) X0 (av P yy)))
noncomputable def B26_0 (cal:Cal) (k:Nat) (v0:Value) (H:Hp) (n:Nat):Res:=
boxK 55 v0 H n fun v_1 H_2 n_3=>
cX P 53 H_2 n_3 fun v_4 H_5 n_6=>
aq (ax P 55 v_1 0) fun v_7=>
aq (aW v_7) fun a_9=>aq (az P H_5 3 a_9) fun v_8=>
aq (ax P 55 v_1 1) fun v_a=>
aq (aW v_a) fun a_c=>aq (az P H_5 3 a_c) fun v_b=>
aq (fK P 53 [(0,v_8),(1,v_b)]) fun v_d=>
aq (bx P 53 v_4 v_d H_5) fun H_f=>
aq (resV P (Tr.set Tr.nil 2 (some v_4)) H_f yy) fun v_g=>some (oneV v_g,H_f,n_6)
noncomputable def C26_0 (cal:Cal) (k:Nat) (v0:Value) (H:Hp) (n:Nat):Res:=B26_0 cal k v0 H n
theorem h26_0 (cal:Cal) (k:Nat) (v0:Value) (H:Hp) (n:Nat):aZ P cal A (k+1) 26 [v0] H n=C26_0 cal k v0 H n:=by
  have h:aZ P cal A (k+1) 26 [v0] H n=B26_0 cal k v0 H n:=by
    rw[bJ (fn:=Go.Proofs.Try.f26) (c:=code26) (rs:=yy) (by kernel_rfl) (by kernel_rfl) (by kernel_rfl) (by kernel_rfl)]
    kernel_rfl
  rw[h,C26_0]
noncomputable def uy:Code:=cq 27
noncomputable def eY:List ResultVar:=dJ 27
noncomputable def K27_p (cal:Cal) (k:Nat):KR:=(cutK (A 27).c (ay P cal (aw P cal k) none 27 (cR uy) (Lv.b (A 27)) (av P eY) X0 (av P eY)))
noncomputable def K27_pr (cal:Cal) (k:Nat):KR:=(cutK (Lv.b (A 27)).c (ay P cal (aw P cal k) none 27 (cR (cR uy)) (Lv.b (Lv.b (A 27))) (av P eY) X0 (av P eY)))
noncomputable def XV (cal:Cal) (k:Nat):KR:=(cutK (Lv.b (Lv.b (A 27))).c (ay P cal (aw P cal k) none 27 (cR (cR (cR uy))) (Lv.b (Lv.b (Lv.b (A 27)))) (av P eY) X0 (av P eY)))
noncomputable def K27_prrl (cal:Cal) (k:Nat):KR:=(cutK (Lv.a (Lv.b (Lv.b (A 27)))).c (ay P cal (aw P cal k) none 27 (cR (cL (cR (cR uy)))) (Lv.b (Lv.a (Lv.b (Lv.b (A 27))))) (XV cal k) X0 (av P eY)))
noncomputable def rv (cal:Cal) (k:Nat):XR:=(upX 0 (XV cal k) X0)
noncomputable def HW (cal:Cal) (k:Nat) (m1:Nat):KR:=(fun T H n D=>aw P cal m1 (Lv.a (Lv.b (Lv.a (Lv.b (Lv.b (A 27)))))) none 27 (cL (cR (cL (cR (cR uy))))) (XV cal k) (rv cal k) (av P eY) (cutT (Lv.a (Lv.b (Lv.a (Lv.b (Lv.b (A 27)))))).c T) H n D)
noncomputable def K27_prrlrll (cal:Cal) (k:Nat) (m1:Nat):KR:=(cutK (Lv.a (Lv.a (Lv.b (Lv.a (Lv.b (Lv.b (A 27))))))).c (ay P cal (aw P cal m1) none 27 (cR (cL (cL (cR (cL (cR (cR uy))))))) (Lv.b (Lv.a (Lv.a (Lv.b (Lv.a (Lv.b (Lv.b (A 27)))))))) (HW cal k m1) (rv cal k) (av P eY)))
noncomputable def K27_prrlrlll (cal:Cal) (k:Nat) (m1:Nat):KR:=(cutK (Lv.a (Lv.a (Lv.a (Lv.b (Lv.a (Lv.b (Lv.b (A 27)))))))).c (ay P cal (aw P cal m1) none 27 (cR (cL (cL (cL (cR (cL (cR (cR uy)))))))) (Lv.b (Lv.a (Lv.a (Lv.a (Lv.b (Lv.a (Lv.b (Lv.b (A 27))))))))) (K27_prrlrll cal k m1) (rv cal k) (av P eY)))
noncomputable def HX (cal:Cal) (k:Nat) (m1:Nat):KR:=(cutK (Lv.b (Lv.a (Lv.a (Lv.b (Lv.a (Lv.b (Lv.b (A 27)))))))).c (ay P cal (aw P cal m1) none 27 (cR (cR (cL (cL (cR (cL (cR (cR uy)))))))) (Lv.b (Lv.b (Lv.a (Lv.a (Lv.b (Lv.a (Lv.b (Lv.b (A 27))))))))) (HW cal k m1) (rv cal k) (av P eY)))
noncomputable def K27_pxrrlrllrl (cal:Cal) (k:Nat) (m1:Nat):XR:=(upX 1 (HX cal k m1) (rv cal k))
noncomputable def K27_prrlrllrll (cal:Cal) (k:Nat) (m1:Nat):KR:=(cutK (Lv.a (Lv.a (Lv.b (Lv.a (Lv.a (Lv.b (Lv.a (Lv.b (Lv.b (A 27)))))))))).c (ay P cal (aw P cal m1) none 27 (cR (cL (cL (cR (cL (cL (cR (cL (cR (cR uy)))))))))) (Lv.b (Lv.a (Lv.a (Lv.b (Lv.a (Lv.a (Lv.b (Lv.a (Lv.b (Lv.b (A 27))))))))))) (HX cal k m1) (K27_pxrrlrllrl cal k m1) (av P eY)))
noncomputable def K27_prrlrllrllrl (cal:Cal) (k:Nat) (m1:Nat):KR:=(cutK (Lv.a (Lv.b (Lv.a (Lv.a (Lv.b (Lv.a (Lv.a (Lv.b (Lv.a (Lv.b (Lv.b (A 27)))))))))))).c (ay P cal (aw P cal m1) none 27 (cR (cL (cR (cL (cL (cR (cL (cL (cR (cL (cR (cR uy)))))))))))) (Lv.b (Lv.a (Lv.b (Lv.a (Lv.a (Lv.b (Lv.a (Lv.a (Lv.b (Lv.a (Lv.b (Lv.b (A 27))))))))))))) (HX cal k m1) (K27_pxrrlrllrl cal k m1) (av P eY)))
noncomputable def K27_prrr (cal:Cal) (k:Nat):KR:=(cutK (Lv.b (Lv.b (Lv.b (A 27)))).c (ay P cal (aw P cal k) none 27 (cR (cR (cR (cR uy)))) (Lv.b (Lv.b (Lv.b (Lv.b (A 27))))) (av P eY) X0 (av P eY)))
noncomputable def E27_2 (cal:Cal) (k m1:Nat):KR:=ay P cal (aw P cal m1) none 27 (cR (cR (cL (cL (cR (cL (cR (cR uy)))))))) (Lv.b (Lv.b (Lv.a (Lv.a (Lv.b (Lv.a (Lv.b (Lv.b (A 27))))))))) (HW cal k m1) (rv cal k) (av P eY)
noncomputable def E27_1 (cal:Cal) (k m1:Nat):KR:=ay P cal (aw P cal m1) none 27 (cL (cL (cR (cL (cR (cR uy)))))) (Lv.a (Lv.a (Lv.b (Lv.a (Lv.b (Lv.b (A 27))))))) (HW cal k m1) (rv cal k) (av P eY)
noncomputable def Wv (cal:Cal) (k m1:Nat):V6:=fun u1 u2 u3 u6 u7 u8 H n=>aw P cal m1 (Lv.a (Lv.b (Lv.a (Lv.b (Lv.b (A 27)))))) none 27 (cL (cR (cL (cR (cR uy))))) (XV cal k) (rv cal k) (av P eY) (Tr.set (Tr.set (Tr.set (Tr.set (Tr.set (Tr.set Tr.nil 8 (some u8)) 7 (some u7)) 6 (some u6)) 3 (some u3)) 2 (some u2)) 1 (some u1)) H n []
noncomputable def B27_2 (cal:Cal) (k m1:Nat) (b1:V6) (u1 u2 u3 u6 u7 u8:Value) (H:Hp) (n:Nat):Res:=
binK P .add 3 (.tmp 14) (.const (.int .i64 1)) u8 (.int .i64 1) fun v_g=>
b1 u1 u2 u3 u6 u7 v_g H n
noncomputable def C27_2 (cal:Cal) (k m1:Nat) (b1:V6) (u1 u2 u3 u6 u7 u8:Value) (H:Hp) (n:Nat):Res:=B27_2 cal k m1 b1 u1 u2 u3 u6 u7 u8 H n
theorem h27_2 (cal:Cal) (k m1:Nat) (u1 u2 u3 u6 u7 u8:Value) (H:Hp) (n:Nat):labK (E27_2 cal k m1) (Tr.set (Tr.set (Tr.set (Tr.set (Tr.set (Tr.set Tr.nil 8 (some u8)) 7 (some u7)) 6 (some u6)) 3 (some u3)) 2 (some u2)) 1 (some u1)) H n []=C27_2 cal k m1 (Wv cal k m1) u1 u2 u3 u6 u7 u8 H n:=by
  refine Eq.trans (b:=B27_2 cal k m1 (Wv cal k m1) u1 u2 u3 u6 u7 u8 H n) (by kernel_rfl) ?_
  rw[C27_2]
noncomputable def B27_1 (cal:Cal) (k m1:Nat) (j2:V6) (b1:V6) (u1 u2 u3 u6 u7 u8:Value) (H:Hp) (n:Nat):Res:=
aq (lenV P 44 u1) fun v_d=>
binK P .lss 3 (.tmp 10) (.tmp 12) u8 v_d fun v_e=>
ifK v_e (
aq (aY P 44 u1 u8) fun v_k=>
aq (aW v_k) fun a_m=>aq (az P H 3 a_m) fun v_l=>
binK P .geq 3 (.tmp 19) (.const (.int .i64 0)) v_l (.int .i64 0) fun v_n=>
ifK v_n (
aq (aW u3) fun a_o=>aq (az P H 26 a_o) fun v_p=>
aq (aY P 44 u1 u8) fun v_s=>
aq (aW v_s) fun a_t=>aq (az P H 3 a_t) fun v_u=>
aq (kV P 55) fun z_z=>newK (bj z_z) 55 H n fun H_x n_y=>
effK P [(.a n (bj z_z) 55)] H_x n_y (fun H_10 n_11 k_12=>
aV P cal 70 [v_p,v_u,u8,u2] H_10 n_11 fun v_16 H_17 n_18=>
k_12 v_16 H_17 n_18) fun v_13 H_14 n_15=>
aq (bx P 55 (ptr n) v_13 H_14) fun H_1a=>
aq (ax P 55 u7 0) fun v_1b=>
aq (aW v_1b) fun a_1d=>aq (az P H_1a 3 a_1d) fun v_1c=>
aq (ax P 55 (ptr n) 0) fun v_1e=>
aq (aW v_1e) fun a_1g=>aq (az P H_1a 3 a_1g) fun v_1f=>
binK P .add 3 (.tmp 30) (.tmp 32) v_1c v_1f fun v_1h=>
aq (ax P 55 u7 1) fun v_1i=>
aq (aW v_1i) fun a_1k=>aq (az P H_1a 3 a_1k) fun v_1j=>
aq (ax P 55 (ptr n) 1) fun v_1l=>
aq (aW v_1l) fun a_1n=>aq (az P H_1a 3 a_1n) fun v_1m=>
binK P .add 3 (.tmp 35) (.tmp 37) v_1j v_1m fun v_1o=>
aq (fK P 55 [(0,v_1h),(1,v_1o)]) fun v_1p=>
aq (bx P 55 u7 v_1p H_1a) fun H_1r=>
j2 u1 u2 u3 u6 u7 u8 H_1r n_15) (
j2 u1 u2 u3 u6 u7 u8 H n)) (
aq (aW u7) fun a_1t=>aq (az P H 55 a_1t) fun v_1s=>
aq (bx P 55 u6 v_1s H) fun H_1v=>
aq (resV P (Tr.set Tr.nil 6 (some u6)) H_1v eY) fun v_1w=>some (oneV v_1w,H_1v,n))
noncomputable def C27_1 (cal:Cal) (k m1:Nat) (b1:V6) (u1 u2 u3 u6 u7 u8:Value) (H:Hp) (n:Nat):Res:=B27_1 cal k m1 (C27_2 cal k m1 b1) b1 u1 u2 u3 u6 u7 u8 H n
noncomputable def S27_1 (cal:Cal) (k:Nat):Nat→V6:=fun m=>Nat.rec (motive:=fun _=>V6) (C27_1 cal k 0 (fun _ _ _ _ _ _ _ _=>none)) (fun m ih=>C27_1 cal k (m+1) ih) m
theorem h27_1 (cal:Cal) (k m1:Nat) (u1 u2 u3 u6 u7 u8:Value) (H:Hp) (n:Nat):labK (E27_1 cal k m1) (Tr.set (Tr.set (Tr.set (Tr.set (Tr.set (Tr.set Tr.nil 8 (some u8)) 7 (some u7)) 6 (some u6)) 3 (some u3)) 2 (some u2)) 1 (some u1)) H n []=C27_1 cal k m1 (Wv cal k m1) u1 u2 u3 u6 u7 u8 H n:=by
  refine Eq.trans (b:=B27_1 cal k m1 (fun u1 u2 u3 u6 u7 u8 H n=>labK (E27_2 cal k m1) (Tr.set (Tr.set (Tr.set (Tr.set (Tr.set (Tr.set Tr.nil 8 (some u8)) 7 (some u7)) 6 (some u6)) 3 (some u3)) 2 (some u2)) 1 (some u1)) H n []) (Wv cal k m1) u1 u2 u3 u6 u7 u8 H n) (by kernel_rfl) ?_
  rw[C27_1]
  have e2:(fun u1 u2 u3 u6 u7 u8 H n=>labK (E27_2 cal k m1) (Tr.set (Tr.set (Tr.set (Tr.set (Tr.set (Tr.set Tr.nil 8 (some u8)) 7 (some u7)) 6 (some u6)) 3 (some u3)) 2 (some u2)) 1 (some u1)) H n [])=(C27_2 cal k m1 (Wv cal k m1)):=by funext u1 u2 u3 u6 u7 u8 H n; exact h27_2 ..
  rw[e2]
theorem q27_1 (cal:Cal) (k:Nat):∀(m:Nat) (u1 u2 u3 u6 u7 u8:Value) (H:Hp) (n:Nat),labK (E27_1 cal k m) (Tr.set (Tr.set (Tr.set (Tr.set (Tr.set (Tr.set Tr.nil 8 (some u8)) 7 (some u7)) 6 (some u6)) 3 (some u3)) 2 (some u2)) 1 (some u1)) H n []=S27_1 cal k m u1 u2 u3 u6 u7 u8 H n
  | 0,u1,u2,u3,u6,u7,u8,H,n=>by
    rw[h27_1]
    have e:Wv cal k 0=fun _ _ _ _ _ _ _ _=>none:=by funext u1 u2 u3 u6 u7 u8 H n; kernel_rfl
    rw[e]; rfl
  | m+1,u1,u2,u3,u6,u7,u8,H,n=>by
    rw[h27_1]
    have e:Wv cal k (m+1)=S27_1 cal k m:=by
      funext u1 u2 u3 u6 u7 u8 H n
      have e:Wv cal k (m+1) u1 u2 u3 u6 u7 u8 H n=labK (E27_1 cal k m) (Tr.set (Tr.set (Tr.set (Tr.set (Tr.set (Tr.set Tr.nil 8 (some u8)) 7 (some u7)) 6 (some u6)) 3 (some u3)) 2 (some u2)) 1 (some u1)) H n []:=by kernel_rfl
      rw[e]; exact q27_1 ..
    rw[e]; rfl
noncomputable def B27_0 (cal:Cal) (k:Nat) (j1:V6) (v0 v1 v2:Value) (H:Hp) (n:Nat):Res:=
boxK 26 v0 H n fun v_1 H_2 n_3=>
cX P 55 H_2 n_3 fun v_4 H_5 n_6=>
cX P 55 H_5 n_6 fun v_7 H_8 n_9=>
j1 v1 v2 v_1 v_4 v_7 (.int .i64 0) H_8 n_9
noncomputable def C27_0 (cal:Cal) (k:Nat) (v0 v1 v2:Value) (H:Hp) (n:Nat):Res:=B27_0 cal k (S27_1 cal k k) v0 v1 v2 H n
theorem h27_0 (cal:Cal) (k:Nat) (v0 v1 v2:Value) (H:Hp) (n:Nat):aZ P cal A (k+1) 27 [v0,v1,v2] H n=C27_0 cal k v0 v1 v2 H n:=by
  have h:aZ P cal A (k+1) 27 [v0,v1,v2] H n=B27_0 cal k (fun u1 u2 u3 u6 u7 u8 H n=>labK (E27_1 cal k k) (Tr.set (Tr.set (Tr.set (Tr.set (Tr.set (Tr.set Tr.nil 8 (some u8)) 7 (some u7)) 6 (some u6)) 3 (some u3)) 2 (some u2)) 1 (some u1)) H n []) v0 v1 v2 H n:=by
    rw[bJ (fn:=Go.Proofs.Try.f27) (c:=uy) (rs:=eY) (by kernel_rfl) (by kernel_rfl) (by kernel_rfl) (by kernel_rfl)]
    kernel_rfl
  rw[h,C27_0]
  have e1:(fun u1 u2 u3 u6 u7 u8 H n=>labK (E27_1 cal k k) (Tr.set (Tr.set (Tr.set (Tr.set (Tr.set (Tr.set Tr.nil 8 (some u8)) 7 (some u7)) 6 (some u6)) 3 (some u3)) 2 (some u2)) 1 (some u1)) H n [])=(S27_1 cal k k):=by funext u1 u2 u3 u6 u7 u8 H n; exact q27_1 ..
  rw[e1]
noncomputable def code28:Code:=cq 28
noncomputable def FJ:List ResultVar:=dJ 28
noncomputable def K28_p (cal:Cal) (k:Nat):KR:=(cutK (A 28).c (ay P cal (aw P cal k) none 28 (cR code28) (Lv.b (A 28)) (av P FJ) X0 (av P FJ)))
noncomputable def K28_pr (cal:Cal) (k:Nat):KR:=(cutK (Lv.b (A 28)).c (ay P cal (aw P cal k) none 28 (cR (cR code28)) (Lv.b (Lv.b (A 28))) (av P FJ) X0 (av P FJ)))
noncomputable def B28_0 (cal:Cal) (k:Nat) (v0 v1 v2:Value) (H:Hp) (n:Nat):Res:=
boxK 26 v0 H n fun v_1 H_2 n_3=>
aq (aW v_1) fun a_5=>aq (az P H_2 26 a_5) fun v_6=>
aq (ax P 26 v_1 0) fun v_9=>
aq (aW v_9) fun a_a=>aq (az P H_2 22 a_a) fun v_b=>
aq (aY P 22 v_b v2) fun v_d=>
aq (ax P 95 v_d 0) fun v_e=>
aq (aW v_e) fun a_f=>aq (az P H_2 3 a_f) fun v_g=>
effK P [(.l 3 a_f),(.l 22 a_a)] H_2 n_3 (fun H_h n_i k_j=>
aV P cal 27 [v_6,v1,v2] H_h n_i fun v_n H_o n_p=>
k_j v_n H_o n_p) fun v_k H_l n_m=>
aq (Nk P 55 v_k 0) fun v_q=>
binK P .lss 3 (.tmp 11) (.tmp 17) v_q v_g fun v_r=>
some (v_r,H_l,n_m)
noncomputable def C28_0 (cal:Cal) (k:Nat) (v0 v1 v2:Value) (H:Hp) (n:Nat):Res:=B28_0 cal k v0 v1 v2 H n
theorem h28_0 (cal:Cal) (k:Nat) (v0 v1 v2:Value) (H:Hp) (n:Nat):aZ P cal A (k+1) 28 [v0,v1,v2] H n=C28_0 cal k v0 v1 v2 H n:=by
  have h:aZ P cal A (k+1) 28 [v0,v1,v2] H n=B28_0 cal k v0 v1 v2 H n:=by
    rw[bJ (fn:=Go.Proofs.Try.f28) (c:=code28) (rs:=FJ) (by kernel_rfl) (by kernel_rfl) (by kernel_rfl) (by kernel_rfl)]
    kernel_rfl
  rw[h,C28_0]
noncomputable def code29:Code:=cq 29
noncomputable def FQ:List ResultVar:=dJ 29
noncomputable def K29_p (cal:Cal) (k:Nat):KR:=(cutK (A 29).c (ay P cal (aw P cal k) none 29 (cR code29) (Lv.b (A 29)) (av P FQ) X0 (av P FQ)))
noncomputable def K29_pr (cal:Cal) (k:Nat):KR:=(cutK (Lv.b (A 29)).c (ay P cal (aw P cal k) none 29 (cR (cR code29)) (Lv.b (Lv.b (A 29))) (av P FQ) X0 (av P FQ)))
noncomputable def B29_0 (cal:Cal) (k:Nat) (v0 v1 v2:Value) (H:Hp) (n:Nat):Res:=
boxK 26 v0 H n fun v_1 H_2 n_3=>
aq (aW v_1) fun a_5=>aq (az P H_2 26 a_5) fun v_6=>
aq (ax P 26 v_1 0) fun v_9=>
aq (aW v_9) fun a_a=>aq (az P H_2 22 a_a) fun v_b=>
aq (aY P 22 v_b v2) fun v_d=>
aq (ax P 95 v_d 1) fun v_e=>
aq (aW v_e) fun a_f=>aq (az P H_2 3 a_f) fun v_g=>
effK P [(.l 3 a_f),(.l 22 a_a)] H_2 n_3 (fun H_h n_i k_j=>
aV P cal 27 [v_6,v1,v2] H_h n_i fun v_n H_o n_p=>
k_j v_n H_o n_p) fun v_k H_l n_m=>
aq (Nk P 55 v_k 1) fun v_q=>
binK P .gtr 3 (.tmp 11) (.tmp 17) v_q v_g fun v_r=>
some (v_r,H_l,n_m)
noncomputable def C29_0 (cal:Cal) (k:Nat) (v0 v1 v2:Value) (H:Hp) (n:Nat):Res:=B29_0 cal k v0 v1 v2 H n
theorem h29_0 (cal:Cal) (k:Nat) (v0 v1 v2:Value) (H:Hp) (n:Nat):aZ P cal A (k+1) 29 [v0,v1,v2] H n=C29_0 cal k v0 v1 v2 H n:=by
  have h:aZ P cal A (k+1) 29 [v0,v1,v2] H n=B29_0 cal k v0 v1 v2 H n:=by
    rw[bJ (fn:=Go.Proofs.Try.f29) (c:=code29) (rs:=FQ) (by kernel_rfl) (by kernel_rfl) (by kernel_rfl) (by kernel_rfl)]
    kernel_rfl
  rw[h,C29_0]
noncomputable def sY:Code:=cq 30
noncomputable def gq:List ResultVar:=dJ 30
noncomputable def K30_p (cal:Cal) (k:Nat):KR:=(cutK (A 30).c (ay P cal (aw P cal k) none 30 (cR sY) (Lv.b (A 30)) (av P gq) X0 (av P gq)))
noncomputable def K30_pr (cal:Cal) (k:Nat):KR:=(cutK (Lv.b (A 30)).c (ay P cal (aw P cal k) none 30 (cR (cR sY)) (Lv.b (Lv.b (A 30))) (av P gq) X0 (av P gq)))
noncomputable def K30_prl (cal:Cal) (k:Nat):KR:=(cutK (Lv.a (Lv.b (A 30))).c (ay P cal (aw P cal k) none 30 (cR (cL (cR sY))) (Lv.b (Lv.a (Lv.b (A 30)))) (K30_pr cal k) X0 (av P gq)))
noncomputable def K30_prlrl (cal:Cal) (k:Nat):KR:=(cutK (Lv.a (Lv.b (Lv.a (Lv.b (A 30))))).c (ay P cal (aw P cal k) none 30 (cR (cL (cR (cL (cR sY))))) (Lv.b (Lv.a (Lv.b (Lv.a (Lv.b (A 30)))))) (K30_pr cal k) X0 (av P gq)))
noncomputable def XW (cal:Cal) (k:Nat):KR:=(cutK (Lv.b (Lv.b (A 30))).c (ay P cal (aw P cal k) none 30 (cR (cR (cR sY))) (Lv.b (Lv.b (Lv.b (A 30)))) (av P gq) X0 (av P gq)))
noncomputable def K30_prrl (cal:Cal) (k:Nat):KR:=(cutK (Lv.a (Lv.b (Lv.b (A 30)))).c (ay P cal (aw P cal k) none 30 (cR (cL (cR (cR sY)))) (Lv.b (Lv.a (Lv.b (Lv.b (A 30))))) (XW cal k) X0 (av P gq)))
noncomputable def uz (cal:Cal) (k:Nat):XR:=(upX 0 (XW cal k) X0)
noncomputable def Pq (cal:Cal) (k:Nat) (m1:Nat):KR:=(fun T H n D=>aw P cal m1 (Lv.a (Lv.b (Lv.a (Lv.b (Lv.b (A 30)))))) none 30 (cL (cR (cL (cR (cR sY))))) (XW cal k) (uz cal k) (av P gq) (cutT (Lv.a (Lv.b (Lv.a (Lv.b (Lv.b (A 30)))))).c T) H n D)
noncomputable def K30_prrlrll (cal:Cal) (k:Nat) (m1:Nat):KR:=(cutK (Lv.a (Lv.a (Lv.b (Lv.a (Lv.b (Lv.b (A 30))))))).c (ay P cal (aw P cal m1) none 30 (cR (cL (cL (cR (cL (cR (cR sY))))))) (Lv.b (Lv.a (Lv.a (Lv.b (Lv.a (Lv.b (Lv.b (A 30)))))))) (Pq cal k m1) (uz cal k) (av P gq)))
noncomputable def K30_prrlrlll (cal:Cal) (k:Nat) (m1:Nat):KR:=(cutK (Lv.a (Lv.a (Lv.a (Lv.b (Lv.a (Lv.b (Lv.b (A 30)))))))).c (ay P cal (aw P cal m1) none 30 (cR (cL (cL (cL (cR (cL (cR (cR sY)))))))) (Lv.b (Lv.a (Lv.a (Lv.a (Lv.b (Lv.a (Lv.b (Lv.b (A 30))))))))) (K30_prrlrll cal k m1) (uz cal k) (av P gq)))
noncomputable def HY (cal:Cal) (k:Nat) (m1:Nat):KR:=(cutK (Lv.b (Lv.a (Lv.a (Lv.b (Lv.a (Lv.b (Lv.b (A 30)))))))).c (ay P cal (aw P cal m1) none 30 (cR (cR (cL (cL (cR (cL (cR (cR sY)))))))) (Lv.b (Lv.b (Lv.a (Lv.a (Lv.b (Lv.a (Lv.b (Lv.b (A 30))))))))) (Pq cal k m1) (uz cal k) (av P gq)))
noncomputable def K30_pxrrlrllrl (cal:Cal) (k:Nat) (m1:Nat):XR:=(upX 1 (HY cal k m1) (uz cal k))
noncomputable def K30_prrlrllrll (cal:Cal) (k:Nat) (m1:Nat):KR:=(cutK (Lv.a (Lv.a (Lv.b (Lv.a (Lv.a (Lv.b (Lv.a (Lv.b (Lv.b (A 30)))))))))).c (ay P cal (aw P cal m1) none 30 (cR (cL (cL (cR (cL (cL (cR (cL (cR (cR sY)))))))))) (Lv.b (Lv.a (Lv.a (Lv.b (Lv.a (Lv.a (Lv.b (Lv.a (Lv.b (Lv.b (A 30))))))))))) (HY cal k m1) (K30_pxrrlrllrl cal k m1) (av P gq)))
noncomputable def K30_prrlrllrllrl (cal:Cal) (k:Nat) (m1:Nat):KR:=(cutK (Lv.a (Lv.b (Lv.a (Lv.a (Lv.b (Lv.a (Lv.a (Lv.b (Lv.a (Lv.b (Lv.b (A 30)))))))))))).c (ay P cal (aw P cal m1) none 30 (cR (cL (cR (cL (cL (cR (cL (cL (cR (cL (cR (cR sY)))))))))))) (Lv.b (Lv.a (Lv.b (Lv.a (Lv.a (Lv.b (Lv.a (Lv.a (Lv.b (Lv.a (Lv.b (Lv.b (A 30))))))))))))) (HY cal k m1) (K30_pxrrlrllrl cal k m1) (av P gq)))
noncomputable def K30_prrr (cal:Cal) (k:Nat):KR:=(cutK (Lv.b (Lv.b (Lv.b (A 30)))).c (ay P cal (aw P cal k) none 30 (cR (cR (cR (cR sY)))) (Lv.b (Lv.b (Lv.b (Lv.b (A 30))))) (av P gq) X0 (av P gq)))
noncomputable def E30_1 (cal:Cal) (k m1:Nat):KR:=ay P cal (aw P cal m1) none 30 (cL (cL (cR (cL (cR (cR sY)))))) (Lv.a (Lv.a (Lv.b (Lv.a (Lv.b (Lv.b (A 30))))))) (Pq cal k m1) (uz cal k) (av P gq)
noncomputable def R30_1 (cal:Cal) (k m1:Nat):V3:=fun u0 u1 u5 H n=>aw P cal m1 (Lv.a (Lv.b (Lv.a (Lv.b (Lv.b (A 30)))))) none 30 (cL (cR (cL (cR (cR sY))))) (XW cal k) (uz cal k) (av P gq) (Tr.set (Tr.set (Tr.set Tr.nil 5 (some u5)) 1 (some u1)) 0 (some u0)) H n []
noncomputable def B30_1 (cal:Cal) (k m1:Nat) (b1:V3) (u0 u1 u5:Value) (H:Hp) (n:Nat):Res:=
aq (lenV P 44 u0) fun v_b=>
binK P .lss 3 (.tmp 11) (.tmp 13) u5 v_b fun v_c=>
ifK v_c (
aq (aY P 44 u0 u5) fun v_f=>
aq (aW v_f) fun a_g=>aq (az P H 3 a_g) fun v_h=>
aq (aY P 44 u1 u5) fun v_k=>
aq (aW v_k) fun a_l=>aq (az P H 3 a_l) fun v_m=>
binK P .neq 3 (.tmp 20) (.tmp 24) v_h v_m fun v_n=>
ifK v_n (
some ((.bool false),H,n)) (
binK P .add 3 (.tmp 15) (.const (.int .i64 1)) u5 (.int .i64 1) fun v_q=>
b1 u0 u1 v_q H n)) (
some ((.bool true),H,n))
noncomputable def C30_1 (cal:Cal) (k m1:Nat) (b1:V3) (u0 u1 u5:Value) (H:Hp) (n:Nat):Res:=B30_1 cal k m1 b1 u0 u1 u5 H n
noncomputable def S30_1 (cal:Cal) (k:Nat):Nat→V3:=fun m=>Nat.rec (motive:=fun _=>V3) (C30_1 cal k 0 (fun _ _ _ _ _=>none)) (fun m ih=>C30_1 cal k (m+1) ih) m
theorem h30_1 (cal:Cal) (k m1:Nat) (u0 u1 u5:Value) (H:Hp) (n:Nat):labK (E30_1 cal k m1) (Tr.set (Tr.set (Tr.set Tr.nil 5 (some u5)) 1 (some u1)) 0 (some u0)) H n []=C30_1 cal k m1 (R30_1 cal k m1) u0 u1 u5 H n:=by
  refine Eq.trans (b:=B30_1 cal k m1 (R30_1 cal k m1) u0 u1 u5 H n) (by kernel_rfl) ?_
  rw[C30_1]
theorem q30_1 (cal:Cal) (k:Nat):∀(m:Nat) (u0 u1 u5:Value) (H:Hp) (n:Nat),labK (E30_1 cal k m) (Tr.set (Tr.set (Tr.set Tr.nil 5 (some u5)) 1 (some u1)) 0 (some u0)) H n []=S30_1 cal k m u0 u1 u5 H n
  | 0,u0,u1,u5,H,n=>by
    rw[h30_1]
    have e:R30_1 cal k 0=fun _ _ _ _ _=>none:=by funext u0 u1 u5 H n; kernel_rfl
    rw[e]; rfl
  | m+1,u0,u1,u5,H,n=>by
    rw[h30_1]
    have e:R30_1 cal k (m+1)=S30_1 cal k m:=by
      funext u0 u1 u5 H n
      have e:R30_1 cal k (m+1) u0 u1 u5 H n=labK (E30_1 cal k m) (Tr.set (Tr.set (Tr.set Tr.nil 5 (some u5)) 1 (some u1)) 0 (some u0)) H n []:=by kernel_rfl
      rw[e]; exact q30_1 ..
    rw[e]; rfl
noncomputable def B30_0 (cal:Cal) (k:Nat) (j1:V3) (v0 v1:Value) (H:Hp) (n:Nat):Res:=
aq (lenV P 44 v0) fun v_3=>
aq (lenV P 44 v1) fun v_5=>
binK P .neq 3 (.tmp 7) (.tmp 9) v_3 v_5 fun v_6=>
ifK v_6 (
some ((.bool false),H,n)) (
j1 v0 v1 (.int .i64 0) H n)
noncomputable def C30_0 (cal:Cal) (k:Nat) (v0 v1:Value) (H:Hp) (n:Nat):Res:=B30_0 cal k (S30_1 cal k k) v0 v1 H n
theorem h30_0 (cal:Cal) (k:Nat) (v0 v1:Value) (H:Hp) (n:Nat):aZ P cal A (k+1) 30 [v0,v1] H n=C30_0 cal k v0 v1 H n:=by
  have h:aZ P cal A (k+1) 30 [v0,v1] H n=B30_0 cal k (fun u0 u1 u5 H n=>labK (E30_1 cal k k) (Tr.set (Tr.set (Tr.set Tr.nil 5 (some u5)) 1 (some u1)) 0 (some u0)) H n []) v0 v1 H n:=by
    rw[bJ (fn:=Go.Proofs.Try.f30) (c:=sY) (rs:=gq) (by kernel_rfl) (by kernel_rfl) (by kernel_rfl) (by kernel_rfl)]
    kernel_rfl
  rw[h,C30_0]
  have e1:(fun u0 u1 u5 H n=>labK (E30_1 cal k k) (Tr.set (Tr.set (Tr.set Tr.nil 5 (some u5)) 1 (some u1)) 0 (some u0)) H n [])=(S30_1 cal k k):=by funext u0 u1 u5 H n; exact q30_1 ..
  rw[e1]
noncomputable def code32:Code:=cq 32
noncomputable def FV:List ResultVar:=dJ 32
noncomputable def K32_p (cal:Cal) (k:Nat):KR:=(cutK (A 32).c (ay P cal (aw P cal k) none 32 (cR code32) (Lv.b (A 32)) (av P FV) X0 (av P FV)))
noncomputable def K32_pr (cal:Cal) (k:Nat):KR:=(cutK (Lv.b (A 32)).c (ay P cal (aw P cal k) none 32 (cR (cR code32)) (Lv.b (Lv.b (A 32))) (av P FV) X0 (av P FV)))
noncomputable def B32_0 (cal:Cal) (k:Nat) (v0 v1 v2:Value) (H:Hp) (n:Nat):Res:=
binK P .geq 3 (.tmp 7) (.tmp 8) v0 v1 fun v_4=>
aQ v_4 true (fun k_6=>
k_6 v0 H n) H n fun v_7 H_8 n_9=>
aQ v_4 true (fun k_b=>
k_b v2 H_8 n_9) H_8 n_9 fun v_c H_d n_e=>
aQ v_4 true (fun k_g=>
binK P .leq 3 (.tmp 11) (.tmp 12) v_7 v_c fun v_k=>
k_g v_k H_d n_e) H_d n_e fun v_h H_i n_j=>
aq (cK v_4 v_h (.bool false)) fun v_l=>
some (v_l,H_i,n_j)
noncomputable def C32_0 (cal:Cal) (k:Nat) (v0 v1 v2:Value) (H:Hp) (n:Nat):Res:=B32_0 cal k v0 v1 v2 H n
theorem h32_0 (cal:Cal) (k:Nat) (v0 v1 v2:Value) (H:Hp) (n:Nat):aZ P cal A (k+1) 32 [v0,v1,v2] H n=C32_0 cal k v0 v1 v2 H n:=by
  have h:aZ P cal A (k+1) 32 [v0,v1,v2] H n=B32_0 cal k v0 v1 v2 H n:=by
    rw[bJ (fn:=Go.Proofs.Try.f32) (c:=code32) (rs:=FV) (by kernel_rfl) (by kernel_rfl) (by kernel_rfl) (by kernel_rfl)]
    kernel_rfl
  rw[h,C32_0]
noncomputable def BJ:Code:=cq 42
noncomputable def iV:List ResultVar:=dJ 42
noncomputable def K42_p (cal:Cal) (k:Nat):KR:=(cutK (A 42).c (ay P cal (aw P cal k) none 42 (cR BJ) (Lv.b (A 42)) (av P iV) X0 (av P iV)))
noncomputable def K42_pr (cal:Cal) (k:Nat):KR:=(cutK (Lv.b (A 42)).c (ay P cal (aw P cal k) none 42 (cR (cR BJ)) (Lv.b (Lv.b (A 42))) (av P iV) X0 (av P iV)))
noncomputable def K42_prr (cal:Cal) (k:Nat):KR:=(cutK (Lv.b (Lv.b (A 42))).c (ay P cal (aw P cal k) none 42 (cR (cR (cR BJ))) (Lv.b (Lv.b (Lv.b (A 42)))) (av P iV) X0 (av P iV)))
noncomputable def K42_prrl (cal:Cal) (k:Nat):KR:=(cutK (Lv.a (Lv.b (Lv.b (A 42)))).c (ay P cal (aw P cal k) none 42 (cR (cL (cR (cR BJ)))) (Lv.b (Lv.a (Lv.b (Lv.b (A 42))))) (K42_prr cal k) X0 (av P iV)))
noncomputable def K42_prrlrl (cal:Cal) (k:Nat):KR:=(cutK (Lv.a (Lv.b (Lv.a (Lv.b (Lv.b (A 42)))))).c (ay P cal (aw P cal k) none 42 (cR (cL (cR (cL (cR (cR BJ)))))) (Lv.b (Lv.a (Lv.b (Lv.a (Lv.b (Lv.b (A 42))))))) (K42_prr cal k) X0 (av P iV)))
noncomputable def K42_prrr (cal:Cal) (k:Nat):KR:=(cutK (Lv.b (Lv.b (Lv.b (A 42)))).c (ay P cal (aw P cal k) none 42 (cR (cR (cR (cR BJ)))) (Lv.b (Lv.b (Lv.b (Lv.b (A 42))))) (av P iV) X0 (av P iV)))
noncomputable def K42_prrrr (cal:Cal) (k:Nat):KR:=(cutK (Lv.b (Lv.b (Lv.b (Lv.b (A 42))))).c (ay P cal (aw P cal k) none 42 (cR (cR (cR (cR (cR BJ))))) (Lv.b (Lv.b (Lv.b (Lv.b (Lv.b (A 42)))))) (av P iV) X0 (av P iV)))
noncomputable def K42_prrrrl (cal:Cal) (k:Nat):KR:=(cutK (Lv.a (Lv.b (Lv.b (Lv.b (Lv.b (A 42)))))).c (ay P cal (aw P cal k) none 42 (cR (cL (cR (cR (cR (cR BJ)))))) (Lv.b (Lv.a (Lv.b (Lv.b (Lv.b (Lv.b (A 42))))))) (K42_prrrr cal k) X0 (av P iV)))
noncomputable def K42_prrrrlrl (cal:Cal) (k:Nat):KR:=(cutK (Lv.a (Lv.b (Lv.a (Lv.b (Lv.b (Lv.b (Lv.b (A 42)))))))).c (ay P cal (aw P cal k) none 42 (cR (cL (cR (cL (cR (cR (cR (cR BJ)))))))) (Lv.b (Lv.a (Lv.b (Lv.a (Lv.b (Lv.b (Lv.b (Lv.b (A 42))))))))) (K42_prrrr cal k) X0 (av P iV)))
noncomputable def K42_prrrrr (cal:Cal) (k:Nat):KR:=(cutK (Lv.b (Lv.b (Lv.b (Lv.b (Lv.b (A 42)))))).c (ay P cal (aw P cal k) none 42 (cR (cR (cR (cR (cR (cR BJ)))))) (Lv.b (Lv.b (Lv.b (Lv.b (Lv.b (Lv.b (A 42))))))) (av P iV) X0 (av P iV)))
noncomputable def B42_0 (cal:Cal) (k:Nat) (v0:Value) (H:Hp) (n:Nat):Res:=
boxK 35 v0 H n fun v_1 H_2 n_3=>
aq (aW v_1) fun a_8=>aq (az P H_2 35 a_8) fun v_7=>
aV P cal 61 [v_7] H_2 n_3 fun v_9 H_a n_b=>
aq (tupV v_9 0) fun v_d=>
aq (tupV v_9 1) fun v_e=>
binK P .neq 29 (.tmp 13) (.const (.int .i64 0)) v_e (.int .i64 0) fun v_i=>
ifK v_i (
some ((Value.tuple ⟨[(.slice none 0 0),(.int .i64 0),v_e]⟩),H_a,n_b)) (
aV P cal 81 [v_d] H_a n_b fun v_o H_p n_q=>
aq (tupV v_o 0) fun v_s=>
aq (tupV v_o 1) fun v_t=>
cX P 121 H_p n_q fun v_u H_v n_w=>
aq (bx P 121 v_u v_s H_v) fun H_y=>
aq (ej P v_t (Op.unary UnOp.not v_t)) fun v_11=>
ifK v_11 (
some ((Value.tuple ⟨[(.slice none 0 0),(.int .i64 0),(.int .i64 10)]⟩),H_y,n_w)) (
aq (nilV v_d) fun v_16=>
aq (ax P 117 v_16 0) fun v_17=>
aq (ax P 35 v_17 0) fun v_18=>
aq (aW v_18) fun a_19=>aq (az P H_y 31 a_19) fun v_1a=>
aq (lenV P 31 v_1a) fun v_1b=>
aq (Gk P 121 v_u none (some v_1b)) fun v_1c=>
aq (aW v_u) fun a_1e=>aq (az P H_y 121 a_1e) fun v_1f=>
effK P [(.l 121 a_1e)] H_y n_w (fun H_1g n_1h k_1i=>
aV P cal 76 [v_1c] H_1g n_1h fun v_1m H_1n n_1o=>
k_1i v_1m H_1n n_1o) fun v_1j H_1k n_1l=>
aV P cal 82 [v_d,v_1f] H_1k n_1l fun v_1p H_1q n_1r=>
some ((Value.tuple ⟨[v_1j,v_1p,(.int .i64 0)]⟩),H_1q,n_1r)))
noncomputable def Ry (cal:Cal) (k:Nat) (v0:Value) (H:Hp) (n:Nat):Res:=B42_0 cal k v0 H n
theorem h42_0 (cal:Cal) (k:Nat) (v0:Value) (H:Hp) (n:Nat):aZ P cal A (k+1) 42 [v0] H n=Ry cal k v0 H n:=by
  have h:aZ P cal A (k+1) 42 [v0] H n=B42_0 cal k v0 H n:=by
    rw[bJ (fn:=Go.Proofs.Try.f42) (c:=BJ) (rs:=iV) (by kernel_rfl) (by kernel_rfl) (by kernel_rfl) (by kernel_rfl)]
    kernel_rfl
  rw[h,Ry]
noncomputable def code43:Code:=cq 43
noncomputable def yz:List ResultVar:=dJ 43
noncomputable def K43_p (cal:Cal) (k:Nat):KR:=(cutK (A 43).c (ay P cal (aw P cal k) none 43 (cR code43) (Lv.b (A 43)) (av P yz) X0 (av P yz)))
noncomputable def K43_pr (cal:Cal) (k:Nat):KR:=(cutK (Lv.b (A 43)).c (ay P cal (aw P cal k) none 43 (cR (cR code43)) (Lv.b (Lv.b (A 43))) (av P yz) X0 (av P yz)))
noncomputable def K43_prr (cal:Cal) (k:Nat):KR:=(cutK (Lv.b (Lv.b (A 43))).c (ay P cal (aw P cal k) none 43 (cR (cR (cR code43))) (Lv.b (Lv.b (Lv.b (A 43)))) (av P yz) X0 (av P yz)))
noncomputable def B43_0 (cal:Cal) (k:Nat) (v0 v1 v2:Value) (H:Hp) (n:Nat):Res:=
boxK 35 v0 H n fun v_1 H_2 n_3=>
aq (aW v_1) fun a_6=>aq (az P H_2 35 a_6) fun v_5=>
aV P cal 65 [v_5,v1] H_2 n_3 fun v_8 H_9 n_a=>
aq (tupV v_8 0) fun v_c=>
aq (tupV v_8 1) fun v_d=>
aq (tupV v_8 2) fun v_e=>
cX P 121 H_9 n_a fun v_f H_g n_h=>
aq (bx P 121 v_f v_d H_g) fun H_k=>
binK P .eql 29 (.tmp 17) (.const (.int .i64 0)) v_e (.int .i64 0) fun v_n=>
aQ v_n true (fun k_p=>
k_p v_c H_k n_h) H_k n_h fun v_q H_r n_s=>
aQ v_n true (fun k_u=>
k_u v_c H_r n_s) H_r n_s fun v_v H_w n_x=>
aQ v_n true (fun k_z=>
aq (aW v_f) fun a_14=>aq (az P H_w 121 a_14) fun v_13=>
k_z v_13 H_w n_x) H_w n_x fun v_10 H_11 n_12=>
aQ v_n true (fun k_15=>
aV P cal 66 [v_v,v_10] H_11 n_12 fun v_19 H_1a n_1b=>
k_15 v_19 H_1a n_1b) H_11 n_12 fun v_16 H_17 n_18=>
aQ v_n true (fun k_1c=>
aV P cal 83 [v_q,v_16] H_17 n_18 fun v_1g H_1h n_1i=>
k_1c v_1g H_1h n_1i) H_17 n_18 fun v_1d H_1e n_1f=>
aq (cK v_n v_1d (.bool false)) fun v_1j=>
aQ v_1j true (fun k_1l=>
k_1l v_c H_1e n_1f) H_1e n_1f fun v_1m H_1n n_1o=>
aQ v_1j true (fun k_1q=>
aq (aW v_f) fun a_1v=>aq (az P H_1n 121 a_1v) fun v_1u=>
k_1q v_1u H_1n n_1o) H_1n n_1o fun v_1r H_1s n_1t=>
aQ v_1j true (fun k_1w=>
aV P cal 82 [v_1m,v_1r] H_1s n_1t fun v_20 H_21 n_22=>
k_1w v_20 H_21 n_22) H_1s n_1t fun v_1x H_1y n_1z=>
aQ v_1j true (fun k_23=>
k_23 v2 H_1y n_1z) H_1y n_1z fun v_24 H_25 n_26=>
aQ v_1j true (fun k_28=>
binK P .leq 3 (.tmp 29) (.tmp 30) v_1x v_24 fun v_2c=>
k_28 v_2c H_25 n_26) H_25 n_26 fun v_29 H_2a n_2b=>
aq (cK v_1j v_29 (.bool false)) fun v_2d=>
some (v_2d,H_2a,n_2b)
noncomputable def C43_0 (cal:Cal) (k:Nat) (v0 v1 v2:Value) (H:Hp) (n:Nat):Res:=B43_0 cal k v0 v1 v2 H n
theorem h43_0 (cal:Cal) (k:Nat) (v0 v1 v2:Value) (H:Hp) (n:Nat):aZ P cal A (k+1) 43 [v0,v1,v2] H n=C43_0 cal k v0 v1 v2 H n:=by
  have h:aZ P cal A (k+1) 43 [v0,v1,v2] H n=B43_0 cal k v0 v1 v2 H n:=by
    rw[bJ (fn:=Go.Proofs.Try.f43) (c:=code43) (rs:=yz) (by kernel_rfl) (by kernel_rfl) (by kernel_rfl) (by kernel_rfl)]
    kernel_rfl
  rw[h,C43_0]
noncomputable def yk:Code:=cq 44
noncomputable def jX:List ResultVar:=dJ 44
noncomputable def K44_p (cal:Cal) (k:Nat):KR:=(cutK (A 44).c (ay P cal (aw P cal k) none 44 (cR yk) (Lv.b (A 44)) (av P jX) X0 (av P jX)))
noncomputable def K44_pr (cal:Cal) (k:Nat):KR:=(cutK (Lv.b (A 44)).c (ay P cal (aw P cal k) none 44 (cR (cR yk)) (Lv.b (Lv.b (A 44))) (av P jX) X0 (av P jX)))
noncomputable def K44_prl (cal:Cal) (k:Nat):KR:=(cutK (Lv.a (Lv.b (A 44))).c (ay P cal (aw P cal k) none 44 (cR (cL (cR yk))) (Lv.b (Lv.a (Lv.b (A 44)))) (K44_pr cal k) X0 (av P jX)))
noncomputable def yJ (cal:Cal) (k:Nat):XR:=(upX 0 (K44_pr cal k) X0)
noncomputable def Uj (cal:Cal) (k:Nat) (m1:Nat):KR:=(fun T H n D=>aw P cal m1 (Lv.a (Lv.b (Lv.a (Lv.b (A 44))))) none 44 (cL (cR (cL (cR yk)))) (K44_pr cal k) (yJ cal k) (av P jX) (cutT (Lv.a (Lv.b (Lv.a (Lv.b (A 44))))).c T) H n D)
noncomputable def K44_prlrll (cal:Cal) (k:Nat) (m1:Nat):KR:=(cutK (Lv.a (Lv.a (Lv.b (Lv.a (Lv.b (A 44)))))).c (ay P cal (aw P cal m1) none 44 (cR (cL (cL (cR (cL (cR yk)))))) (Lv.b (Lv.a (Lv.a (Lv.b (Lv.a (Lv.b (A 44))))))) (Uj cal k m1) (yJ cal k) (av P jX)))
noncomputable def K44_prlrlll (cal:Cal) (k:Nat) (m1:Nat):KR:=(cutK (Lv.a (Lv.a (Lv.a (Lv.b (Lv.a (Lv.b (A 44))))))).c (ay P cal (aw P cal m1) none 44 (cR (cL (cL (cL (cR (cL (cR yk))))))) (Lv.b (Lv.a (Lv.a (Lv.a (Lv.b (Lv.a (Lv.b (A 44)))))))) (K44_prlrll cal k m1) (yJ cal k) (av P jX)))
noncomputable def KV (cal:Cal) (k:Nat) (m1:Nat):KR:=(cutK (Lv.b (Lv.a (Lv.a (Lv.b (Lv.a (Lv.b (A 44))))))).c (ay P cal (aw P cal m1) none 44 (cR (cR (cL (cL (cR (cL (cR yk))))))) (Lv.b (Lv.b (Lv.a (Lv.a (Lv.b (Lv.a (Lv.b (A 44)))))))) (Uj cal k m1) (yJ cal k) (av P jX)))
noncomputable def K44_pxrlrllrl (cal:Cal) (k:Nat) (m1:Nat):XR:=(upX 1 (KV cal k m1) (yJ cal k))
noncomputable def K44_prlrllrll (cal:Cal) (k:Nat) (m1:Nat):KR:=(cutK (Lv.a (Lv.a (Lv.b (Lv.a (Lv.a (Lv.b (Lv.a (Lv.b (A 44))))))))).c (ay P cal (aw P cal m1) none 44 (cR (cL (cL (cR (cL (cL (cR (cL (cR yk))))))))) (Lv.b (Lv.a (Lv.a (Lv.b (Lv.a (Lv.a (Lv.b (Lv.a (Lv.b (A 44)))))))))) (KV cal k m1) (K44_pxrlrllrl cal k m1) (av P jX)))
noncomputable def K44_prlrllrllrl (cal:Cal) (k:Nat) (m1:Nat):KR:=(cutK (Lv.a (Lv.b (Lv.a (Lv.a (Lv.b (Lv.a (Lv.a (Lv.b (Lv.a (Lv.b (A 44))))))))))).c (ay P cal (aw P cal m1) none 44 (cR (cL (cR (cL (cL (cR (cL (cL (cR (cL (cR yk))))))))))) (Lv.b (Lv.a (Lv.b (Lv.a (Lv.a (Lv.b (Lv.a (Lv.a (Lv.b (Lv.a (Lv.b (A 44)))))))))))) (KV cal k m1) (K44_pxrlrllrl cal k m1) (av P jX)))
noncomputable def K44_prr (cal:Cal) (k:Nat):KR:=(cutK (Lv.b (Lv.b (A 44))).c (ay P cal (aw P cal k) none 44 (cR (cR (cR yk))) (Lv.b (Lv.b (Lv.b (A 44)))) (av P jX) X0 (av P jX)))
noncomputable def E44_1 (cal:Cal) (k m1:Nat):KR:=ay P cal (aw P cal m1) none 44 (cL (cL (cR (cL (cR yk))))) (Lv.a (Lv.a (Lv.b (Lv.a (Lv.b (A 44)))))) (Uj cal k m1) (yJ cal k) (av P jX)
noncomputable def R44_1 (cal:Cal) (k m1:Nat):V3:=fun u1 u2 u5 H n=>aw P cal m1 (Lv.a (Lv.b (Lv.a (Lv.b (A 44))))) none 44 (cL (cR (cL (cR yk)))) (K44_pr cal k) (yJ cal k) (av P jX) (Tr.set (Tr.set (Tr.set Tr.nil 5 (some u5)) 2 (some u2)) 1 (some u1)) H n []
noncomputable def B44_1 (cal:Cal) (k m1:Nat) (b1:V3) (u1 u2 u5:Value) (H:Hp) (n:Nat):Res:=
aq (ax P 26 u2 0) fun v_7=>
aq (aW v_7) fun a_9=>aq (az P H 22 a_9) fun v_8=>
aq (lenV P 22 v_8) fun v_a=>
binK P .lss 3 (.tmp 6) (.tmp 9) u5 v_a fun v_b=>
ifK v_b (
aq (aW u2) fun a_d=>aq (az P H 26 a_d) fun v_c=>
aV P cal 28 [v_c,u1,u5] H n fun v_g H_h n_i=>
aQ v_g false (fun k_k=>
aq (aW u2) fun a_p=>aq (az P H_h 26 a_p) fun v_o=>
k_k v_o H_h n_i) H_h n_i fun v_l H_m n_n=>
aQ v_g false (fun k_q=>
k_q u1 H_m n_n) H_m n_n fun v_r H_s n_t=>
aQ v_g false (fun k_v=>
k_v u5 H_s n_t) H_s n_t fun v_w H_x n_y=>
aQ v_g false (fun k_10=>
aV P cal 29 [v_l,v_r,v_w] H_x n_y fun v_14 H_15 n_16=>
k_10 v_14 H_15 n_16) H_x n_y fun v_11 H_12 n_13=>
aq (cK v_g (.bool true) v_11) fun v_17=>
ifK v_17 (
some ((.bool false),H_12,n_13)) (
binK P .add 3 (.tmp 11) (.const (.int .i64 1)) u5 (.int .i64 1) fun v_1a=>
b1 u1 u2 v_1a H_12 n_13)) (
some ((.bool true),H,n))
noncomputable def C44_1 (cal:Cal) (k m1:Nat) (b1:V3) (u1 u2 u5:Value) (H:Hp) (n:Nat):Res:=B44_1 cal k m1 b1 u1 u2 u5 H n
noncomputable def S44_1 (cal:Cal) (k:Nat):Nat→V3:=fun m=>Nat.rec (motive:=fun _=>V3) (C44_1 cal k 0 (fun _ _ _ _ _=>none)) (fun m ih=>C44_1 cal k (m+1) ih) m
theorem h44_1 (cal:Cal) (k m1:Nat) (u1 u2 u5:Value) (H:Hp) (n:Nat):labK (E44_1 cal k m1) (Tr.set (Tr.set (Tr.set Tr.nil 5 (some u5)) 2 (some u2)) 1 (some u1)) H n []=C44_1 cal k m1 (R44_1 cal k m1) u1 u2 u5 H n:=by
  refine Eq.trans (b:=B44_1 cal k m1 (R44_1 cal k m1) u1 u2 u5 H n) (by kernel_rfl) ?_
  rw[C44_1]
theorem q44_1 (cal:Cal) (k:Nat):∀(m:Nat) (u1 u2 u5:Value) (H:Hp) (n:Nat),labK (E44_1 cal k m) (Tr.set (Tr.set (Tr.set Tr.nil 5 (some u5)) 2 (some u2)) 1 (some u1)) H n []=S44_1 cal k m u1 u2 u5 H n
  | 0,u1,u2,u5,H,n=>by
    rw[h44_1]
    have e:R44_1 cal k 0=fun _ _ _ _ _=>none:=by funext u1 u2 u5 H n; kernel_rfl
    rw[e]; rfl
  | m+1,u1,u2,u5,H,n=>by
    rw[h44_1]
    have e:R44_1 cal k (m+1)=S44_1 cal k m:=by
      funext u1 u2 u5 H n
      have e:R44_1 cal k (m+1) u1 u2 u5 H n=labK (E44_1 cal k m) (Tr.set (Tr.set (Tr.set Tr.nil 5 (some u5)) 2 (some u2)) 1 (some u1)) H n []:=by kernel_rfl
      rw[e]; exact q44_1 ..
    rw[e]; rfl
noncomputable def B44_0 (cal:Cal) (k:Nat) (j1:V3) (v0 v1:Value) (H:Hp) (n:Nat):Res:=
boxK 26 v0 H n fun v_1 H_2 n_3=>
j1 v1 v_1 (.int .i64 0) H_2 n_3
noncomputable def C44_0 (cal:Cal) (k:Nat) (v0 v1:Value) (H:Hp) (n:Nat):Res:=B44_0 cal k (S44_1 cal k k) v0 v1 H n
theorem h44_0 (cal:Cal) (k:Nat) (v0 v1:Value) (H:Hp) (n:Nat):aZ P cal A (k+1) 44 [v0,v1] H n=C44_0 cal k v0 v1 H n:=by
  have h:aZ P cal A (k+1) 44 [v0,v1] H n=B44_0 cal k (fun u1 u2 u5 H n=>labK (E44_1 cal k k) (Tr.set (Tr.set (Tr.set Tr.nil 5 (some u5)) 2 (some u2)) 1 (some u1)) H n []) v0 v1 H n:=by
    rw[bJ (fn:=Go.Proofs.Try.f44) (c:=yk) (rs:=jX) (by kernel_rfl) (by kernel_rfl) (by kernel_rfl) (by kernel_rfl)]
    kernel_rfl
  rw[h,C44_0]
  have e1:(fun u1 u2 u5 H n=>labK (E44_1 cal k k) (Tr.set (Tr.set (Tr.set Tr.nil 5 (some u5)) 2 (some u2)) 1 (some u1)) H n [])=(S44_1 cal k k):=by funext u1 u2 u5 H n; exact q44_1 ..
  rw[e1]
noncomputable def wX:Code:=cq 45
noncomputable def ij:List ResultVar:=dJ 45
noncomputable def K45_p (cal:Cal) (k:Nat):KR:=(cutK (A 45).c (ay P cal (aw P cal k) none 45 (cR wX) (Lv.b (A 45)) (av P ij) X0 (av P ij)))
noncomputable def K45_pr (cal:Cal) (k:Nat):KR:=(cutK (Lv.b (A 45)).c (ay P cal (aw P cal k) none 45 (cR (cR wX)) (Lv.b (Lv.b (A 45))) (av P ij) X0 (av P ij)))
noncomputable def XX (cal:Cal) (k:Nat):KR:=(cutK (Lv.b (Lv.b (A 45))).c (ay P cal (aw P cal k) none 45 (cR (cR (cR wX))) (Lv.b (Lv.b (Lv.b (A 45)))) (av P ij) X0 (av P ij)))
noncomputable def K45_prrl (cal:Cal) (k:Nat):KR:=(cutK (Lv.a (Lv.b (Lv.b (A 45)))).c (ay P cal (aw P cal k) none 45 (cR (cL (cR (cR wX)))) (Lv.b (Lv.a (Lv.b (Lv.b (A 45))))) (XX cal k) X0 (av P ij)))
noncomputable def rx (cal:Cal) (k:Nat):XR:=(upX 0 (XX cal k) X0)
noncomputable def HZ (cal:Cal) (k:Nat) (m1:Nat):KR:=(fun T H n D=>aw P cal m1 (Lv.a (Lv.b (Lv.a (Lv.b (Lv.b (A 45)))))) none 45 (cL (cR (cL (cR (cR wX))))) (XX cal k) (rx cal k) (av P ij) (cutT (Lv.a (Lv.b (Lv.a (Lv.b (Lv.b (A 45)))))).c T) H n D)
noncomputable def K45_prrlrll (cal:Cal) (k:Nat) (m1:Nat):KR:=(cutK (Lv.a (Lv.a (Lv.b (Lv.a (Lv.b (Lv.b (A 45))))))).c (ay P cal (aw P cal m1) none 45 (cR (cL (cL (cR (cL (cR (cR wX))))))) (Lv.b (Lv.a (Lv.a (Lv.b (Lv.a (Lv.b (Lv.b (A 45)))))))) (HZ cal k m1) (rx cal k) (av P ij)))
noncomputable def K45_prrlrlll (cal:Cal) (k:Nat) (m1:Nat):KR:=(cutK (Lv.a (Lv.a (Lv.a (Lv.b (Lv.a (Lv.b (Lv.b (A 45)))))))).c (ay P cal (aw P cal m1) none 45 (cR (cL (cL (cL (cR (cL (cR (cR wX)))))))) (Lv.b (Lv.a (Lv.a (Lv.a (Lv.b (Lv.a (Lv.b (Lv.b (A 45))))))))) (K45_prrlrll cal k m1) (rx cal k) (av P ij)))
noncomputable def K45_prrlrllr (cal:Cal) (k:Nat) (m1:Nat):KR:=(cutK (Lv.b (Lv.a (Lv.a (Lv.b (Lv.a (Lv.b (Lv.b (A 45)))))))).c (ay P cal (aw P cal m1) none 45 (cR (cR (cL (cL (cR (cL (cR (cR wX)))))))) (Lv.b (Lv.b (Lv.a (Lv.a (Lv.b (Lv.a (Lv.b (Lv.b (A 45))))))))) (HZ cal k m1) (rx cal k) (av P ij)))
noncomputable def K45_pxrrlrllrl (cal:Cal) (k:Nat) (m1:Nat):XR:=(upX 1 (K45_prrlrllr cal k m1) (rx cal k))
noncomputable def K45_prrlrllrll (cal:Cal) (k:Nat) (m1:Nat):KR:=(cutK (Lv.a (Lv.a (Lv.b (Lv.a (Lv.a (Lv.b (Lv.a (Lv.b (Lv.b (A 45)))))))))).c (ay P cal (aw P cal m1) none 45 (cR (cL (cL (cR (cL (cL (cR (cL (cR (cR wX)))))))))) (Lv.b (Lv.a (Lv.a (Lv.b (Lv.a (Lv.a (Lv.b (Lv.a (Lv.b (Lv.b (A 45))))))))))) (K45_prrlrllr cal k m1) (K45_pxrrlrllrl cal k m1) (av P ij)))
noncomputable def K45_prrr (cal:Cal) (k:Nat):KR:=(cutK (Lv.b (Lv.b (Lv.b (A 45)))).c (ay P cal (aw P cal k) none 45 (cR (cR (cR (cR wX)))) (Lv.b (Lv.b (Lv.b (Lv.b (A 45))))) (av P ij) X0 (av P ij)))
noncomputable def E45_2 (cal:Cal) (k m1:Nat):KR:=ay P cal (aw P cal m1) none 45 (cR (cR (cL (cL (cR (cL (cR (cR wX)))))))) (Lv.b (Lv.b (Lv.a (Lv.a (Lv.b (Lv.a (Lv.b (Lv.b (A 45))))))))) (HZ cal k m1) (rx cal k) (av P ij)
noncomputable def E45_1 (cal:Cal) (k m1:Nat):KR:=ay P cal (aw P cal m1) none 45 (cL (cL (cR (cL (cR (cR wX)))))) (Lv.a (Lv.a (Lv.b (Lv.a (Lv.b (Lv.b (A 45))))))) (HZ cal k m1) (rx cal k) (av P ij)
noncomputable def Ww (cal:Cal) (k m1:Nat):V3:=fun u0 u3 u4 H n=>aw P cal m1 (Lv.a (Lv.b (Lv.a (Lv.b (Lv.b (A 45)))))) none 45 (cL (cR (cL (cR (cR wX))))) (XX cal k) (rx cal k) (av P ij) (Tr.set (Tr.set (Tr.set Tr.nil 4 (some u4)) 3 (some u3)) 0 (some u0)) H n []
noncomputable def B45_2 (cal:Cal) (k m1:Nat) (b1:V3) (u0 u3 u4:Value) (H:Hp) (n:Nat):Res:=
binK P .add 3 (.tmp 9) (.const (.int .i64 1)) u4 (.int .i64 1) fun v_9=>
b1 u0 u3 v_9 H n
noncomputable def C45_2 (cal:Cal) (k m1:Nat) (b1:V3) (u0 u3 u4:Value) (H:Hp) (n:Nat):Res:=B45_2 cal k m1 b1 u0 u3 u4 H n
theorem h45_2 (cal:Cal) (k m1:Nat) (u0 u3 u4:Value) (H:Hp) (n:Nat):labK (E45_2 cal k m1) (Tr.set (Tr.set (Tr.set Tr.nil 4 (some u4)) 3 (some u3)) 0 (some u0)) H n []=C45_2 cal k m1 (Ww cal k m1) u0 u3 u4 H n:=by
  refine Eq.trans (b:=B45_2 cal k m1 (Ww cal k m1) u0 u3 u4 H n) (by kernel_rfl) ?_
  rw[C45_2]
noncomputable def B45_1 (cal:Cal) (k m1:Nat) (j2:V3) (b1:V3) (u0 u3 u4:Value) (H:Hp) (n:Nat):Res:=
aq (lenV P 44 u0) fun v_6=>
binK P .lss 3 (.tmp 5) (.tmp 7) u4 v_6 fun v_7=>
ifK v_7 (
aq (aY P 44 u0 u4) fun v_d=>
aq (aW v_d) fun a_f=>aq (az P H 3 a_f) fun v_e=>
binK P .geq 3 (.tmp 14) (.const (.int .i64 0)) v_e (.int .i64 0) fun v_g=>
ifK v_g (
binK P .add 3 (.tmp 16) (.const (.int .i64 1)) u3 (.int .i64 1) fun v_i=>
j2 u0 v_i u4 H n) (
j2 u0 u3 u4 H n)) (
some (u3,H,n))
noncomputable def C45_1 (cal:Cal) (k m1:Nat) (b1:V3) (u0 u3 u4:Value) (H:Hp) (n:Nat):Res:=B45_1 cal k m1 (C45_2 cal k m1 b1) b1 u0 u3 u4 H n
noncomputable def S45_1 (cal:Cal) (k:Nat):Nat→V3:=fun m=>Nat.rec (motive:=fun _=>V3) (C45_1 cal k 0 (fun _ _ _ _ _=>none)) (fun m ih=>C45_1 cal k (m+1) ih) m
theorem h45_1 (cal:Cal) (k m1:Nat) (u0 u3 u4:Value) (H:Hp) (n:Nat):labK (E45_1 cal k m1) (Tr.set (Tr.set (Tr.set Tr.nil 4 (some u4)) 3 (some u3)) 0 (some u0)) H n []=C45_1 cal k m1 (Ww cal k m1) u0 u3 u4 H n:=by
  refine Eq.trans (b:=B45_1 cal k m1 (fun u0 u3 u4 H n=>labK (E45_2 cal k m1) (Tr.set (Tr.set (Tr.set Tr.nil 4 (some u4)) 3 (some u3)) 0 (some u0)) H n []) (Ww cal k m1) u0 u3 u4 H n) (by kernel_rfl) ?_
  rw[C45_1]
  have e2:(fun u0 u3 u4 H n=>labK (E45_2 cal k m1) (Tr.set (Tr.set (Tr.set Tr.nil 4 (some u4)) 3 (some u3)) 0 (some u0)) H n [])=(C45_2 cal k m1 (Ww cal k m1)):=by funext u0 u3 u4 H n; exact h45_2 ..
  rw[e2]
theorem q45_1 (cal:Cal) (k:Nat):∀(m:Nat) (u0 u3 u4:Value) (H:Hp) (n:Nat),labK (E45_1 cal k m) (Tr.set (Tr.set (Tr.set Tr.nil 4 (some u4)) 3 (some u3)) 0 (some u0)) H n []=S45_1 cal k m u0 u3 u4 H n
  | 0,u0,u3,u4,H,n=>by
    rw[h45_1]
    have e:Ww cal k 0=fun _ _ _ _ _=>none:=by funext u0 u3 u4 H n; kernel_rfl
    rw[e]; rfl
  | m+1,u0,u3,u4,H,n=>by
    rw[h45_1]
    have e:Ww cal k (m+1)=S45_1 cal k m:=by
      funext u0 u3 u4 H n
      have e:Ww cal k (m+1) u0 u3 u4 H n=labK (E45_1 cal k m) (Tr.set (Tr.set (Tr.set Tr.nil 4 (some u4)) 3 (some u3)) 0 (some u0)) H n []:=by kernel_rfl
      rw[e]; exact q45_1 ..
    rw[e]; rfl
noncomputable def B45_0 (cal:Cal) (k:Nat) (j1:V3) (v0:Value) (H:Hp) (n:Nat):Res:=
j1 v0 (.int .i64 0) (.int .i64 0) H n
noncomputable def C45_0 (cal:Cal) (k:Nat) (v0:Value) (H:Hp) (n:Nat):Res:=B45_0 cal k (S45_1 cal k k) v0 H n
theorem h45_0 (cal:Cal) (k:Nat) (v0:Value) (H:Hp) (n:Nat):aZ P cal A (k+1) 45 [v0] H n=C45_0 cal k v0 H n:=by
  have h:aZ P cal A (k+1) 45 [v0] H n=B45_0 cal k (fun u0 u3 u4 H n=>labK (E45_1 cal k k) (Tr.set (Tr.set (Tr.set Tr.nil 4 (some u4)) 3 (some u3)) 0 (some u0)) H n []) v0 H n:=by
    rw[bJ (fn:=Go.Proofs.Try.f45) (c:=wX) (rs:=ij) (by kernel_rfl) (by kernel_rfl) (by kernel_rfl) (by kernel_rfl)]
    kernel_rfl
  rw[h,C45_0]
  have e1:(fun u0 u3 u4 H n=>labK (E45_1 cal k k) (Tr.set (Tr.set (Tr.set Tr.nil 4 (some u4)) 3 (some u3)) 0 (some u0)) H n [])=(S45_1 cal k k):=by funext u0 u3 u4 H n; exact q45_1 ..
  rw[e1]
end Go.Proofs.Ytgojjellogiglaa.G
