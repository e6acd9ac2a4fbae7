/- The texts of functions, each with the proof that the evaluator says the same. -/
import Derived.Test.YtmjbdjnnojfhkaaH1
open Go Go.Ev
set_option maxRecDepth 1000000
set_option linter.unusedVariables false
noncomputable section
namespace Go.Proofs.Ytmjbdjnnojfhkaa.G
variable (cal:Cal) (k:Nat)
noncomputable def Ay:Code:=dj 6
noncomputable def fZ:List ResultVar:=fk 6
noncomputable def K6_p:KR:=kD cal k 6 Ay (A 6) (av P fZ) X0 (av P fZ)
noncomputable def K6_pr:KR:=kD cal k 6 (cR Ay) (Lb (A 6)) (av P fZ) X0 (av P fZ)
noncomputable def K6_prl:KR:=kD cal k 6 (cL (cR Ay)) (La (Lb (A 6))) (K6_pr cal k) X0 (av P fZ)
noncomputable def K6_prlrl:KR:=kD cal k 6 (cL (cR (cL (cR Ay)))) (La (Lb (La (Lb (A 6))))) (K6_pr cal k) X0 (av P fZ)
noncomputable def K6_prr:KR:=kD cal k 6 (cR (cR Ay)) (Lb (Lb (A 6))) (av P fZ) X0 (av P fZ)
noncomputable def K6_prrr:KR:=kD cal k 6 (cR (cR (cR Ay))) (Lb (Lb (Lb (A 6)))) (av P fZ) X0 (av P fZ)
noncomputable def K6_prrrr:KR:=kD cal k 6 (cR (cR (cR (cR Ay)))) (Lb (Lb (Lb (Lb (A 6))))) (av P fZ) X0 (av P fZ)
noncomputable def K6_prrrrr:KR:=kD cal k 6 (cR (cR (cR (cR (cR Ay))))) (Lb (Lb (Lb (Lb (Lb (A 6)))))) (av P fZ) X0 (av P fZ)
noncomputable def K6_prrrrrl:KR:=kD cal k 6 (cL (cR (cR (cR (cR (cR Ay)))))) (La (Lb (Lb (Lb (Lb (Lb (A 6))))))) (K6_prrrrr cal k) X0 (av P fZ)
noncomputable def K6_prrrrrlrl:KR:=kD cal k 6 (cL (cR (cL (cR (cR (cR (cR (cR Ay)))))))) (La (Lb (La (Lb (Lb (Lb (Lb (Lb (A 6))))))))) (K6_prrrrr cal k) X0 (av P fZ)
noncomputable def K6_prrrrrrr:KR:=kD cal k 6 (cR (cR (cR (cR (cR (cR (cR Ay))))))) (Lb (Lb (Lb (Lb (Lb (Lb (Lb (A 6)))))))) (av P fZ) X0 (av P fZ)
noncomputable def K6_prrrrrrrl:KR:=kD cal k 6 (cL (cR (cR (cR (cR (cR (cR (cR Ay)))))))) (La (Lb (Lb (Lb (Lb (Lb (Lb (Lb (A 6))))))))) (K6_prrrrrrr cal k) X0 (av P fZ)
noncomputable def K6_prrrrrrrlrl:KR:=kD cal k 6 (cL (cR (cL (cR (cR (cR (cR (cR (cR (cR Ay)))))))))) (La (Lb (La (Lb (Lb (Lb (Lb (Lb (Lb (Lb (A 6))))))))))) (K6_prrrrrrr cal k) X0 (av P fZ)
noncomputable def K6_prrrrrrrr:KR:=kD cal k 6 (cR (cR (cR (cR (cR (cR (cR (cR Ay)))))))) (Lb (Lb (Lb (Lb (Lb (Lb (Lb (Lb (A 6))))))))) (av P fZ) X0 (av P fZ)
noncomputable def K6_prrrrrr:KR:=kD cal k 6 (cR (cR (cR (cR (cR (cR Ay)))))) (Lb (Lb (Lb (Lb (Lb (Lb (A 6))))))) (av P fZ) X0 (av P fZ)
noncomputable def K6_prrrrrrl:KR:=kD cal k 6 (cL (cR (cR (cR (cR (cR (cR Ay))))))) (La (Lb (Lb (Lb (Lb (Lb (Lb (A 6)))))))) (K6_prrrrrr cal k) X0 (av P fZ)
noncomputable def E6_1(k:Nat):KR:=cj P cal (aK P cal k) none 6 (cR (cR (cR (cR (cR (cR (cR Ay))))))) (Lb (Lb (Lb (Lb (Lb (Lb (Lb (A 6)))))))) (av P fZ) X0 (av P fZ)
noncomputable def B6_1(cal:Cal)(k:Nat)(u1 u3 u7 u8 u10:Value)(H:Hp)(n:Nat):Res:=
binK P .neq 29 (.tmp 62) (.const (.int .i64 0)) u10 (.int .i64 0) fun v_3j=>
ifK v_3j (
binK P .eql 29 (.tmp 64) (.tmp 65) u8 u10 fun v_3m=>
aQ v_3m true (fun k_3o=>
k_3o u7 H n) H n fun v_3p H_3q n_3r=>
aQ v_3m true (fun k_3t=>
aq (lenV P 59 v_3p) fun v_3x=>
k_3t v_3x H_3q n_3r) H_3q n_3r fun v_3u H_3v n_3w=>
aQ v_3m true (fun k_3y=>
binK P .eql 3 (.tmp 69) (.const (.int .i64 0)) v_3u (.int .i64 0) fun v_42=>
k_3y v_42 H_3v n_3w) H_3v n_3w fun v_3z H_40 n_41=>
aq (fy v_3m v_3z (.bool false)) fun v_43=>
aQ v_43 true (fun k_45=>
aX P cal 16 [] H_40 n_41 fun v_49 H_4a n_4b=>
k_45 v_49 H_4a n_4b) H_40 n_41 fun v_46 H_47 n_48=>
aq (fy v_43 v_46 (.bool false)) fun v_4c=>
some (v_4c,H_47,n_48)) (
binK P .eql 29 (.tmp 75) (.const (.int .i64 0)) u8 (.int .i64 0) fun v_4f=>
aQ v_4f true (fun k_4h=>
aq (aV u3) fun a_4m=>aq (az P H 26 a_4m) fun v_4l=>
k_4h v_4l H n) H n fun v_4i H_4j n_4k=>
aQ v_4f true (fun k_4n=>
k_4n u1 H_4j n_4k) H_4j n_4k fun v_4o H_4p n_4q=>
aQ v_4f true (fun k_4s=>
k_4s u7 H_4p n_4q) H_4p n_4q fun v_4t H_4u n_4v=>
aQ v_4f true (fun k_4x=>
aX P cal 33 [v_4i,v_4o,v_4t] H_4u n_4v fun v_51 H_52 n_53=>
k_4x v_51 H_52 n_53) H_4u n_4v fun v_4y H_4z n_50=>
aq (fy v_4f v_4y (.bool false)) fun v_54=>
aQ v_54 true (fun k_56=>
aq (aV u3) fun a_5b=>aq (az P H_4z 26 a_5b) fun v_5a=>
k_56 v_5a H_4z n_50) H_4z n_50 fun v_57 H_58 n_59=>
aQ v_54 true (fun k_5c=>
k_5c u7 H_58 n_59) H_58 n_59 fun v_5d H_5e n_5f=>
aQ v_54 true (fun k_5h=>
aX P cal 40 [v_57,v_5d] H_5e n_5f fun v_5l H_5m n_5n=>
k_5h v_5l H_5m n_5n) H_5e n_5f fun v_5i H_5j n_5k=>
aq (fy v_54 v_5i (.bool false)) fun v_5o=>
aQ v_5o true (fun k_5q=>
aX P cal 16 [] H_5j n_5k fun v_5u H_5v n_5w=>
k_5q v_5u H_5v n_5w) H_5j n_5k fun v_5r H_5s n_5t=>
aq (fy v_5o v_5r (.bool false)) fun v_5x=>
some (v_5x,H_5s,n_5t))
noncomputable def C6_1(k:Nat)(u1 u3 u7 u8 u10:Value)(H:Hp)(n:Nat):Res:=B6_1 cal k u1 u3 u7 u8 u10 H n
theorem h6_1(k:Nat)(u1 u3 u7 u8 u10:Value)(H:Hp)(n:Nat):labK (E6_1 cal k) (ts (ts (ts (ts (ts Tr.nil 10 u10) 8 u8) 7 u7) 3 u3) 1 u1) H n []=C6_1 cal k u1 u3 u7 u8 u10 H n:=by
 refine Eq.trans (b:=B6_1 cal k u1 u3 u7 u8 u10 H n) (by kernel_rfl) ?_
 rw[C6_1]
noncomputable def B6_0(cal:Cal)(k:Nat)(j1:V5)(v0 v1 v2:Value)(H:Hp)(n:Nat):Res:=
boxK 26 v0 H n fun v_1 H_2 n_3=>
aq (aV v_1) fun a_6=>aq (az P H_2 26 a_6) fun v_5=>
aX P cal 35 [v_5,v1] H_2 n_3 fun v_8 H_9 n_a=>
aq (dX P v_8 (Op.unary UnOp.not v_8)) fun v_b=>
aQ v_b false (fun k_d=>
k_d v2 H_9 n_a) H_9 n_a fun v_e H_f n_g=>
aQ v_b false (fun k_i=>
aX P cal 36 [v_e] H_f n_g fun v_m H_n n_o=>
k_i v_m H_n n_o) H_f n_g fun v_j H_k n_l=>
aQ v_b false (fun k_p=>
aq (dX P v_j (Op.unary UnOp.not v_j)) fun v_t=>
k_p v_t H_k n_l) H_k n_l fun v_q H_r n_s=>
aq (fy v_b (.bool true) v_q) fun v_u=>
ifK v_u (
aX P cal 16 [] H_r n_s fun v_v H_w n_x=>
some (v_v,H_w,n_x)) (
aq (aV v_1) fun a_10=>aq (az P H_r 26 a_10) fun v_z=>
aX P cal 18 [v_z] H_r n_s fun v_11 H_12 n_13=>
aX P cal 23 [v1] H_12 n_13 fun v_15 H_16 n_17=>
aX P cal 37 [v_11,v_15] H_16 n_17 fun v_18 H_19 n_1a=>
aq (tupV v_18 0) fun v_1c=>
aq (tupV v_18 1) fun v_1d=>
aq (aV v_1) fun a_1h=>aq (az P H_19 26 a_1h) fun v_1g=>
aX P cal 18 [v_1g] H_19 n_1a fun v_1i H_1j n_1k=>
aX P cal 23 [v1] H_1j n_1k fun v_1m H_1n n_1o=>
aX P cal 39 [v2] H_1n n_1o fun v_1q H_1r n_1s=>
aX P cal 38 [v_1i,v_1m,v_1q] H_1r n_1s fun v_1t H_1u n_1v=>
aq (aV v_1) fun a_1y=>aq (az P H_1u 26 a_1y) fun v_1x=>
aX P cal 25 [v_1x,v1] H_1u n_1v fun v_20 H_21 n_22=>
binK P .eql 29 (.tmp 40) (.const (.int .i64 0)) v_20 (.int .i64 0) fun v_26=>
aQ v_26 true (fun k_28=>
aq (aV v_1) fun a_2d=>aq (az P H_21 26 a_2d) fun v_2c=>
k_28 v_2c H_21 n_22) H_21 n_22 fun v_29 H_2a n_2b=>
aQ v_26 true (fun k_2e=>
k_2e v1 H_2a n_2b) H_2a n_2b fun v_2f H_2g n_2h=>
aQ v_26 true (fun k_2j=>
k_2j v2 H_2g n_2h) H_2g n_2h fun v_2k H_2l n_2m=>
aQ v_26 true (fun k_2o=>
aX P cal 33 [v_29,v_2f,v_2k] H_2l n_2m fun v_2s H_2t n_2u=>
k_2o v_2s H_2t n_2u) H_2l n_2m fun v_2p H_2q n_2r=>
aq (fy v_26 v_2p (.bool false)) fun v_2v=>
aQ v_2v true (fun k_2x=>
aq (aV v_1) fun a_32=>aq (az P H_2q 26 a_32) fun v_31=>
k_2x v_31 H_2q n_2r) H_2q n_2r fun v_2y H_2z n_30=>
aQ v_2v true (fun k_33=>
k_33 v2 H_2z n_30) H_2z n_30 fun v_34 H_35 n_36=>
aQ v_2v true (fun k_38=>
aX P cal 40 [v_2y,v_34] H_35 n_36 fun v_3c H_3d n_3e=>
k_38 v_3c H_3d n_3e) H_35 n_36 fun v_39 H_3a n_3b=>
aq (fy v_2v v_39 (.bool false)) fun v_3f=>
binK P .neq 4 (.tmp 39) (.tmp 52) v_1t v_3f fun v_3g=>
ifK v_3g (
some ((.bool false),H_3a,n_3b)) (
binK P .eql 29 (.tmp 54) (.const (.int .i64 0)) v_20 (.int .i64 0) fun v_60=>
aQ v_60 true (fun k_62=>
aq (aV v_1) fun a_67=>aq (az P H_3a 26 a_67) fun v_66=>
k_62 v_66 H_3a n_3b) H_3a n_3b fun v_63 H_64 n_65=>
aQ v_60 true (fun k_68=>
k_68 v1 H_64 n_65) H_64 n_65 fun v_69 H_6a n_6b=>
aQ v_60 true (fun k_6d=>
aX P cal 41 [v_63,v_69] H_6a n_6b fun v_6h H_6i n_6j=>
k_6d v_6h H_6i n_6j) H_6a n_6b fun v_6e H_6f n_6g=>
aQ v_60 true (fun k_6k=>
aq (dX P v_6e (Op.unary UnOp.not v_6e)) fun v_6o=>
k_6k v_6o H_6f n_6g) H_6f n_6g fun v_6l H_6m n_6n=>
aq (fy v_60 v_6l (.bool false)) fun v_6p=>
ifK v_6p (
j1 v1 v_1 v_1c v_1d (.int .i64 9) H_6m n_6n) (
j1 v1 v_1 v_1c v_1d v_20 H_6m n_6n)))
noncomputable def C6_0(k:Nat)(v0 v1 v2:Value)(H:Hp)(n:Nat):Res:=B6_0 cal k (C6_1 cal k) v0 v1 v2 H n
theorem h6_0(k:Nat)(v0 v1 v2:Value)(H:Hp)(n:Nat):aY P cal A (k+1) 6 [v0,v1,v2] H n=C6_0 cal k v0 v1 v2 H n:=by
 have h:aY P cal A (k+1) 6 [v0,v1,v2] H n=B6_0 cal k (fun u1 u3 u7 u8 u10 H n=>labK (E6_1 cal k) (ts (ts (ts (ts (ts Tr.nil 10 u10) 8 u8) 7 u7) 3 u3) 1 u1) H n []) v0 v1 v2 H n:=by
  rw[bY (fn:=Go.Proofs.Try.f6) (c:=Ay) (rs:=fZ) (by kernel_rfl) (by kernel_rfl) (by kernel_rfl) (by kernel_rfl)]
  kernel_rfl
 rw[h,C6_0]
 have e1:(fun u1 u3 u7 u8 u10 H n=>labK (E6_1 cal k) (ts (ts (ts (ts (ts Tr.nil 10 u10) 8 u8) 7 u7) 3 u3) 1 u1) H n [])=(C6_1 cal k):=by funext u1 u3 u7 u8 u10 H n; exact h6_1 ..
 rw[e1]
noncomputable def code15:Code:=dj 15
noncomputable def Jj:List ResultVar:=fk 15
noncomputable def K15_p:KR:=kD cal k 15 code15 (A 15) (av P Jj) X0 (av P Jj)
noncomputable def K15_pr:KR:=kD cal k 15 (cR code15) (Lb (A 15)) (av P Jj) X0 (av P Jj)
noncomputable def B15_0(cal:Cal)(k:Nat)(v0 v1:Value)(H:Hp)(n:Nat):Res:=
boxK 26 v0 H n fun v_1 H_2 n_3=>
aq (aw P 26 v_1 0) fun v_5=>
aq (aV v_5) fun a_7=>aq (az P H_2 22 a_7) fun v_6=>
aq (lenV P 22 v_6) fun v_8=>
binK P .leq 3 (.tmp 7) (.const (.int .i64 11)) v_8 (.int .i64 11) fun v_9=>
aQ v_9 true (fun k_b=>
aq (aw P 26 v_1 1) fun v_f=>
k_b v_f H_2 n_3) H_2 n_3 fun v_c H_d n_e=>
aQ v_9 true (fun k_g=>
aq (aV v_c) fun a_l=>aq (az P H_d 23 a_l) fun v_k=>
k_g v_k H_d n_e) H_d n_e fun v_h H_i n_j=>
aQ v_9 true (fun k_m=>
aq (lenV P 23 v_h) fun v_q=>
k_m v_q H_i n_j) H_i n_j fun v_n H_o n_p=>
aQ v_9 true (fun k_r=>
binK P .leq 3 (.tmp 12) (.const (.int .i64 19)) v_n (.int .i64 19) fun v_v=>
k_r v_v H_o n_p) H_o n_p fun v_s H_t n_u=>
aq (fy v_9 v_s (.bool false)) fun v_w=>
aQ v_w true (fun k_y=>
aq (aw P 26 v_1 2) fun v_12=>
k_y v_12 H_t n_u) H_t n_u fun v_z H_10 n_11=>
aQ v_w true (fun k_13=>
aq (aV v_z) fun a_18=>aq (az P H_10 24 a_18) fun v_17=>
k_13 v_17 H_10 n_11) H_10 n_11 fun v_14 H_15 n_16=>
aQ v_w true (fun k_19=>
aq (lenV P 24 v_14) fun v_1d=>
k_19 v_1d H_15 n_16) H_15 n_16 fun v_1a H_1b n_1c=>
aQ v_w true (fun k_1e=>
binK P .leq 3 (.tmp 18) (.const (.int .i64 6)) v_1a (.int .i64 6) fun v_1i=>
k_1e v_1i H_1b n_1c) H_1b n_1c fun v_1f H_1g n_1h=>
aq (fy v_w v_1f (.bool false)) fun v_1j=>
aQ v_1j true (fun k_1l=>
k_1l v1 H_1g n_1h) H_1g n_1h fun v_1m H_1n n_1o=>
aQ v_1j true (fun k_1q=>
aq (lenV P 44 v_1m) fun v_1u=>
k_1q v_1u H_1n n_1o) H_1n n_1o fun v_1r H_1s n_1t=>
aQ v_1j true (fun k_1v=>
binK P .leq 3 (.tmp 23) (.const (.int .i64 11)) v_1r (.int .i64 11) fun v_1z=>
k_1v v_1z H_1s n_1t) H_1s n_1t fun v_1w H_1x n_1y=>
aq (fy v_1j v_1w (.bool false)) fun v_20=>
some (v_20,H_1x,n_1y)
noncomputable def C15_0(k:Nat)(v0 v1:Value)(H:Hp)(n:Nat):Res:=B15_0 cal k v0 v1 H n
theorem h15_0(k:Nat)(v0 v1:Value)(H:Hp)(n:Nat):aY P cal A (k+1) 15 [v0,v1] H n=C15_0 cal k v0 v1 H n:=by
 have h:aY P cal A (k+1) 15 [v0,v1] H n=B15_0 cal k v0 v1 H n:=by
  rw[bY (fn:=Go.Proofs.Try.f15) (c:=code15) (rs:=Jj) (by kernel_rfl) (by kernel_rfl) (by kernel_rfl) (by kernel_rfl)]
  kernel_rfl
 rw[h,C15_0]
noncomputable def lY:Code:=dj 18
noncomputable def cV:List ResultVar:=fk 18
noncomputable def K18_p:KR:=kD cal k 18 lY (A 18) (av P cV) X0 (av P cV)
noncomputable def K18_pr:KR:=kD cal k 18 (cR lY) (Lb (A 18)) (av P cV) X0 (av P cV)
noncomputable def qek:KR:=kD cal k 18 (cR (cR lY)) (Lb (Lb (A 18))) (av P cV) X0 (av P cV)
noncomputable def K18_prrl:KR:=kD cal k 18 (cL (cR (cR lY))) (La (Lb (Lb (A 18)))) (qek cal k) X0 (av P cV)
noncomputable def xy(k:Nat):XR:=(upX 0 (qek cal k) X0)
noncomputable def Tx(k:Nat)(m1:Nat):KR:=(fun T H n D=>aK P cal m1 (La (Lb (La (Lb (Lb (A 18)))))) none 18 (cL (cR (cL (cR (cR lY))))) (qek cal k) (xy cal k) (av P cV) (cutT (La (Lb (La (Lb (Lb (A 18)))))).c T) H n D)
noncomputable def K18_prrlrll(k:Nat)(m1:Nat):KR:=kD cal m1 18 (cL (cL (cR (cL (cR (cR lY)))))) (La (La (Lb (La (Lb (Lb (A 18))))))) (Tx cal k m1) (xy cal k) (av P cV)
noncomputable def K18_prrlrlll(k:Nat)(m1:Nat):KR:=kD cal m1 18 (cL (cL (cL (cR (cL (cR (cR lY))))))) (La (La (La (Lb (La (Lb (Lb (A 18)))))))) (K18_prrlrll cal k m1) (xy cal k) (av P cV)
noncomputable def K18_prrlrllr(k:Nat)(m1:Nat):KR:=kD cal m1 18 (cR (cL (cL (cR (cL (cR (cR lY))))))) (Lb (La (La (Lb (La (Lb (Lb (A 18)))))))) (Tx cal k m1) (xy cal k) (av P cV)
noncomputable def K18_pxrrlrllrl(k:Nat)(m1:Nat):XR:=(upX 1 (K18_prrlrllr cal k m1) (xy cal k))
noncomputable def VV:KR:=kD cal k 18 (cR (cR (cR lY))) (Lb (Lb (Lb (A 18)))) (av P cV) X0 (av P cV)
noncomputable def K18_prrrl:KR:=kD cal k 18 (cL (cR (cR (cR lY)))) (La (Lb (Lb (Lb (A 18))))) (VV cal k) X0 (av P cV)
noncomputable def uw(k:Nat):XR:=(upX 2 (VV cal k) X0)
noncomputable def Ow(k:Nat)(m1:Nat):KR:=(fun T H n D=>aK P cal m1 (La (Lb (La (Lb (Lb (Lb (A 18))))))) none 18 (cL (cR (cL (cR (cR (cR lY)))))) (VV cal k) (uw cal k) (av P cV) (cutT (La (Lb (La (Lb (Lb (Lb (A 18))))))).c T) H n D)
noncomputable def K18_prrrlrll(k:Nat)(m1:Nat):KR:=kD cal m1 18 (cL (cL (cR (cL (cR (cR (cR lY))))))) (La (La (Lb (La (Lb (Lb (Lb (A 18)))))))) (Ow cal k m1) (uw cal k) (av P cV)
noncomputable def K18_prrrlrlll(k:Nat)(m1:Nat):KR:=kD cal m1 18 (cL (cL (cL (cR (cL (cR (cR (cR lY)))))))) (La (La (La (Lb (La (Lb (Lb (Lb (A 18))))))))) (K18_prrrlrll cal k m1) (uw cal k) (av P cV)
noncomputable def K18_prrrlrllr(k:Nat)(m1:Nat):KR:=kD cal m1 18 (cR (cL (cL (cR (cL (cR (cR (cR lY)))))))) (Lb (La (La (Lb (La (Lb (Lb (Lb (A 18))))))))) (Ow cal k m1) (uw cal k) (av P cV)
noncomputable def K18_pxrrrlrllrl(k:Nat)(m1:Nat):XR:=(upX 3 (K18_prrrlrllr cal k m1) (uw cal k))
noncomputable def QW:KR:=kD cal k 18 (cR (cR (cR (cR lY)))) (Lb (Lb (Lb (Lb (A 18))))) (av P cV) X0 (av P cV)
noncomputable def K18_prrrrl:KR:=kD cal k 18 (cL (cR (cR (cR (cR lY))))) (La (Lb (Lb (Lb (Lb (A 18)))))) (QW cal k) X0 (av P cV)
noncomputable def rW(k:Nat):XR:=(upX 4 (QW cal k) X0)
noncomputable def Lq(k:Nat)(m1:Nat):KR:=(fun T H n D=>aK P cal m1 (La (Lb (La (Lb (Lb (Lb (Lb (A 18)))))))) none 18 (cL (cR (cL (cR (cR (cR (cR lY))))))) (QW cal k) (rW cal k) (av P cV) (cutT (La (Lb (La (Lb (Lb (Lb (Lb (A 18)))))))).c T) H n D)
noncomputable def K18_prrrrlrll(k:Nat)(m1:Nat):KR:=kD cal m1 18 (cL (cL (cR (cL (cR (cR (cR (cR lY)))))))) (La (La (Lb (La (Lb (Lb (Lb (Lb (A 18))))))))) (Lq cal k m1) (rW cal k) (av P cV)
noncomputable def K18_prrrrlrlll(k:Nat)(m1:Nat):KR:=kD cal m1 18 (cL (cL (cL (cR (cL (cR (cR (cR (cR lY))))))))) (La (La (La (Lb (La (Lb (Lb (Lb (Lb (A 18)))))))))) (K18_prrrrlrll cal k m1) (rW cal k) (av P cV)
noncomputable def K18_prrrrlrllr(k:Nat)(m1:Nat):KR:=kD cal m1 18 (cR (cL (cL (cR (cL (cR (cR (cR (cR lY))))))))) (Lb (La (La (Lb (La (Lb (Lb (Lb (Lb (A 18)))))))))) (Lq cal k m1) (rW cal k) (av P cV)
noncomputable def K18_pxrrrrlrllrl(k:Nat)(m1:Nat):XR:=(upX 5 (K18_prrrrlrllr cal k m1) (rW cal k))
noncomputable def K18_prrrrlrllrll(k:Nat)(m1:Nat):KR:=kD cal m1 18 (cL (cL (cR (cL (cL (cR (cL (cR (cR (cR (cR lY))))))))))) (La (La (Lb (La (La (Lb (La (Lb (Lb (Lb (Lb (A 18)))))))))))) (K18_prrrrlrllr cal k m1) (K18_pxrrrrlrllrl cal k m1) (av P cV)
noncomputable def K18_prrrrr:KR:=kD cal k 18 (cR (cR (cR (cR (cR lY))))) (Lb (Lb (Lb (Lb (Lb (A 18)))))) (av P cV) X0 (av P cV)
noncomputable def E18_3(k m1:Nat):KR:=cj P cal (aK P cal m1) none 18 (cL (cL (cR (cL (cR (cR (cR (cR lY)))))))) (La (La (Lb (La (Lb (Lb (Lb (Lb (A 18))))))))) (Lq cal k m1) (rW cal k) (av P cV)
noncomputable def R18_3(k m1:Nat):V4:=fun u1 u2 u3 u6 H n=>aK P cal m1 (La (Lb (La (Lb (Lb (Lb (Lb (A 18)))))))) none 18 (cL (cR (cL (cR (cR (cR (cR lY))))))) (QW cal k) (rW cal k) (av P cV) (ts (ts (ts (ts Tr.nil 6 u6) 3 u3) 2 u2) 1 u1) H n []
noncomputable def E18_2(k m1:Nat):KR:=cj P cal (aK P cal m1) none 18 (cL (cL (cR (cL (cR (cR (cR lY))))))) (La (La (Lb (La (Lb (Lb (Lb (A 18)))))))) (Ow cal k m1) (uw cal k) (av P cV)
noncomputable def R18_2(k m1:Nat):V4:=fun u1 u2 u3 u5 H n=>aK P cal m1 (La (Lb (La (Lb (Lb (Lb (A 18))))))) none 18 (cL (cR (cL (cR (cR (cR lY)))))) (VV cal k) (uw cal k) (av P cV) (ts (ts (ts (ts Tr.nil 5 u5) 3 u3) 2 u2) 1 u1) H n []
noncomputable def E18_1(k m1:Nat):KR:=cj P cal (aK P cal m1) none 18 (cL (cL (cR (cL (cR (cR lY)))))) (La (La (Lb (La (Lb (Lb (A 18))))))) (Tx cal k m1) (xy cal k) (av P cV)
noncomputable def R18_1(k m1:Nat):V4:=fun u1 u2 u3 u4 H n=>aK P cal m1 (La (Lb (La (Lb (Lb (A 18)))))) none 18 (cL (cR (cL (cR (cR lY))))) (qek cal k) (xy cal k) (av P cV) (ts (ts (ts (ts Tr.nil 4 u4) 3 u3) 2 u2) 1 u1) H n []
noncomputable def B18_3(cal:Cal)(k m1:Nat)(b3:V4)(u1 u2 u3 u6:Value)(H:Hp)(n:Nat):Res:=
aq (aw P 26 u1 2) fun v_2i=>
aq (aV v_2i) fun a_2k=>aq (az P H 24 a_2k) fun v_2j=>
aq (lenV P 24 v_2j) fun v_2l=>
binK P .lss 3 (.tmp 58) (.tmp 61) u6 v_2l fun v_2m=>
ifK v_2m (
aq (aw P 26 u1 2) fun v_2n=>
aq (aV v_2n) fun a_2p=>aq (az P H 24 a_2p) fun v_2o=>
aq (aJ P 24 v_2o u6) fun v_2r=>
aq (aV v_2r) fun a_2t=>aq (az P H 94 a_2t) fun v_2s=>
eQ P 94 H n fun v_2u H_2v n_2w=>
aq (bX P 94 v_2u v_2s H_2v) fun H_2y=>
aq (aw P 35 u3 2) fun v_2z=>
aq (aV v_2z) fun a_30=>aq (az P H_2y 33 a_30) fun v_31=>
aq (aw P 94 v_2u 0) fun v_32=>
aq (aV v_32) fun a_33=>aq (az P H_2y 3 a_33) fun v_34=>
aq (aw P 94 v_2u 1) fun v_35=>
aq (aV v_35) fun a_36=>aq (az P H_2y 55 a_36) fun v_37=>
aq (aw P 94 v_2u 2) fun v_38=>
aq (aV v_38) fun a_39=>aq (az P H_2y 55 a_39) fun v_3a=>
effK P [(.l 55 a_39),(.l 3 a_33),(.l 33 a_30)] H_2y n_2w (fun H_3b n_3c k_3d=>
aX P cal 26 [v_37] H_3b n_3c fun v_3h H_3i n_3j=>
k_3d v_3h H_3i n_3j) fun v_3e H_3f n_3g=>
effK P [(.l 3 a_33),(.l 33 a_30)] H_3f n_3g (fun H_3k n_3l k_3m=>
aX P cal 26 [v_3a] H_3k n_3l fun v_3q H_3r n_3s=>
k_3m v_3q H_3r n_3s) fun v_3n H_3o n_3p=>
aq (fK P 86 [(0,v_34),(1,v_3e),(2,v_3n)]) fun v_3t=>
aq (zj P 33 1 [(0,v_3t)]) fun q_3w=>newK q_3w.1 q_3w.2 H_3o n_3p fun H_3u n_3v=>
stK (iz P (bare H_3u n_3v) 33 33 v_31 (.slice (some ⟨n_3p,0,none⟩) 1 1)) fun v_3x H_3y n_3z=>
aq (aw P 35 u3 2) fun v_40=>
aq (bX P 33 v_40 v_3x H_3y) fun H_42=>
binK P .add 3 (.tmp 63) (.const (.int .i64 1)) u6 (.int .i64 1) fun v_44=>
b3 u1 u2 u3 v_44 H_42 n_3z) (
aq (aV u3) fun a_47=>aq (az P H 35 a_47) fun v_46=>
aq (bX P 35 u2 v_46 H) fun H_49=>
aq (resV P (ts Tr.nil 2 u2) H_49 cV) fun v_4a=>some (oneV v_4a,H_49,n))
noncomputable def C18_3(k m1:Nat)(b3:V4)(u1 u2 u3 u6:Value)(H:Hp)(n:Nat):Res:=B18_3 cal k m1 b3 u1 u2 u3 u6 H n
noncomputable def S18_3(k:Nat):Nat→V4:=fun m=>Nat.rec (motive:=fun _=>V4) (C18_3 cal k 0 (fun _ _ _ _ _ _=>none)) (fun m ih=>C18_3 cal k (m+1) ih) m
theorem h18_3(k m1:Nat)(u1 u2 u3 u6:Value)(H:Hp)(n:Nat):labK (E18_3 cal k m1) (ts (ts (ts (ts Tr.nil 6 u6) 3 u3) 2 u2) 1 u1) H n []=C18_3 cal k m1 (R18_3 cal k m1) u1 u2 u3 u6 H n:=by
 refine Eq.trans (b:=B18_3 cal k m1 (R18_3 cal k m1) u1 u2 u3 u6 H n) (by kernel_rfl) ?_
 rw[C18_3]
theorem q18_3(k:Nat):∀(m:Nat) (u1 u2 u3 u6:Value) (H:Hp) (n:Nat),labK (E18_3 cal k m) (ts (ts (ts (ts Tr.nil 6 u6) 3 u3) 2 u2) 1 u1) H n []=S18_3 cal k m u1 u2 u3 u6 H n
 | 0,u1,u2,u3,u6,H,n=>by
  rw[h18_3]
  have e:R18_3 cal k 0=fun _ _ _ _ _ _=>none:=by funext u1 u2 u3 u6 H n; kernel_rfl
  rw[e]; rfl
 | m+1,u1,u2,u3,u6,H,n=>by
  rw[h18_3]
  have e:R18_3 cal k (m+1)=S18_3 cal k m:=by
   funext u1 u2 u3 u6 H n
   have e:R18_3 cal k (m+1) u1 u2 u3 u6 H n=labK (E18_3 cal k m) (ts (ts (ts (ts Tr.nil 6 u6) 3 u3) 2 u2) 1 u1) H n []:=by kernel_rfl
   rw[e]; exact q18_3 ..
  rw[e]; rfl
noncomputable def B18_2(cal:Cal)(k m1:Nat)(j3:V4)(b2:V4)(u1 u2 u3 u5:Value)(H:Hp)(n:Nat):Res:=
aq (aw P 26 u1 1) fun v_1f=>
aq (aV v_1f) fun a_1h=>aq (az P H 23 a_1h) fun v_1g=>
aq (lenV P 23 v_1g) fun v_1i=>
binK P .lss 3 (.tmp 33) (.tmp 36) u5 v_1i fun v_1j=>
ifK v_1j (
aq (aw P 35 u3 1) fun v_1k=>
aq (aV v_1k) fun a_1l=>aq (az P H 32 a_1l) fun v_1m=>
aq (aw P 26 u1 1) fun v_1n=>
aq (aV v_1n) fun a_1o=>aq (az P H 23 a_1o) fun v_1p=>
aq (aJ P 23 v_1p u5) fun v_1r=>
aq (aw P 102 v_1r 0) fun v_1s=>
aq (aV v_1s) fun a_1t=>aq (az P H 3 a_1t) fun v_1u=>
aq (aw P 26 u1 1) fun v_1v=>
aq (aV v_1v) fun a_1w=>aq (az P H 23 a_1w) fun v_1x=>
aq (aJ P 23 v_1x u5) fun v_1z=>
aq (aw P 102 v_1z 1) fun v_20=>
aq (aV v_20) fun a_21=>aq (az P H 3 a_21) fun v_22=>
aq (fK P 88 [(0,v_1u),(1,v_22)]) fun v_23=>
aq (zj P 32 1 [(0,v_23)]) fun q_26=>newK q_26.1 q_26.2 H n fun H_24 n_25=>
stK (iz P (bare H_24 n_25) 32 32 v_1m (.slice (some ⟨n,0,none⟩) 1 1)) fun v_27 H_28 n_29=>
aq (aw P 35 u3 1) fun v_2a=>
aq (bX P 32 v_2a v_27 H_28) fun H_2c=>
binK P .add 3 (.tmp 38) (.const (.int .i64 1)) u5 (.int .i64 1) fun v_2e=>
b2 u1 u2 u3 v_2e H_2c n_29) (
j3 u1 u2 u3 (.int .i64 0) H n)
noncomputable def C18_2(k m1:Nat)(b2:V4)(u1 u2 u3 u5:Value)(H:Hp)(n:Nat):Res:=B18_2 cal k m1 (S18_3 cal k k) b2 u1 u2 u3 u5 H n
noncomputable def S18_2(k:Nat):Nat→V4:=fun m=>Nat.rec (motive:=fun _=>V4) (C18_2 cal k 0 (fun _ _ _ _ _ _=>none)) (fun m ih=>C18_2 cal k (m+1) ih) m
theorem h18_2(k m1:Nat)(u1 u2 u3 u5:Value)(H:Hp)(n:Nat):labK (E18_2 cal k m1) (ts (ts (ts (ts Tr.nil 5 u5) 3 u3) 2 u2) 1 u1) H n []=C18_2 cal k m1 (R18_2 cal k m1) u1 u2 u3 u5 H n:=by
 refine Eq.trans (b:=B18_2 cal k m1 (fun u1 u2 u3 u6 H n=>labK (E18_3 cal k k) (ts (ts (ts (ts Tr.nil 6 u6) 3 u3) 2 u2) 1 u1) H n []) (R18_2 cal k m1) u1 u2 u3 u5 H n) (by kernel_rfl) ?_
 rw[C18_2]
 have e3:(fun u1 u2 u3 u6 H n=>labK (E18_3 cal k k) (ts (ts (ts (ts Tr.nil 6 u6) 3 u3) 2 u2) 1 u1) H n [])=(S18_3 cal k k):=by funext u1 u2 u3 u6 H n; exact q18_3 ..
 rw[e3]
theorem q18_2(k:Nat):∀(m:Nat) (u1 u2 u3 u5:Value) (H:Hp) (n:Nat),labK (E18_2 cal k m) (ts (ts (ts (ts Tr.nil 5 u5) 3 u3) 2 u2) 1 u1) H n []=S18_2 cal k m u1 u2 u3 u5 H n
 | 0,u1,u2,u3,u5,H,n=>by
  rw[h18_2]
  have e:R18_2 cal k 0=fun _ _ _ _ _ _=>none:=by funext u1 u2 u3 u5 H n; kernel_rfl
  rw[e]; rfl
 | m+1,u1,u2,u3,u5,H,n=>by
  rw[h18_2]
  have e:R18_2 cal k (m+1)=S18_2 cal k m:=by
   funext u1 u2 u3 u5 H n
   have e:R18_2 cal k (m+1) u1 u2 u3 u5 H n=labK (E18_2 cal k m) (ts (ts (ts (ts Tr.nil 5 u5) 3 u3) 2 u2) 1 u1) H n []:=by kernel_rfl
   rw[e]; exact q18_2 ..
  rw[e]; rfl
noncomputable def B18_1(cal:Cal)(k m1:Nat)(j2:V4)(b1:V4)(u1 u2 u3 u4:Value)(H:Hp)(n:Nat):Res:=
aq (aw P 26 u1 0) fun v_c=>
aq (aV v_c) fun a_e=>aq (az P H 22 a_e) fun v_d=>
aq (lenV P 22 v_d) fun v_f=>
binK P .lss 3 (.tmp 8) (.tmp 11) u4 v_f fun v_g=>
ifK v_g (
aq (aw P 35 u3 0) fun v_h=>
aq (aV v_h) fun a_i=>aq (az P H 31 a_i) fun v_j=>
aq (aw P 26 u1 0) fun v_k=>
aq (aV v_k) fun a_l=>aq (az P H 22 a_l) fun v_m=>
aq (aJ P 22 v_m u4) fun v_o=>
aq (aw P 95 v_o 0) fun v_p=>
aq (aV v_p) fun a_q=>aq (az P H 3 a_q) fun v_r=>
aq (aw P 26 u1 0) fun v_s=>
aq (aV v_s) fun a_t=>aq (az P H 22 a_t) fun v_u=>
aq (aJ P 22 v_u u4) fun v_w=>
aq (aw P 95 v_w 1) fun v_x=>
aq (aV v_x) fun a_y=>aq (az P H 3 a_y) fun v_z=>
aq (fK P 90 [(0,v_r),(1,v_z)]) fun v_10=>
aq (zj P 31 1 [(0,v_10)]) fun q_13=>newK q_13.1 q_13.2 H n fun H_11 n_12=>
stK (iz P (bare H_11 n_12) 31 31 v_j (.slice (some ⟨n,0,none⟩) 1 1)) fun v_14 H_15 n_16=>
aq (aw P 35 u3 0) fun v_17=>
aq (bX P 31 v_17 v_14 H_15) fun H_19=>
binK P .add 3 (.tmp 13) (.const (.int .i64 1)) u4 (.int .i64 1) fun v_1b=>
b1 u1 u2 u3 v_1b H_19 n_16) (
j2 u1 u2 u3 (.int .i64 0) H n)
noncomputable def C18_1(k m1:Nat)(b1:V4)(u1 u2 u3 u4:Value)(H:Hp)(n:Nat):Res:=B18_1 cal k m1 (S18_2 cal k k) b1 u1 u2 u3 u4 H n
noncomputable def S18_1(k:Nat):Nat→V4:=fun m=>Nat.rec (motive:=fun _=>V4) (C18_1 cal k 0 (fun _ _ _ _ _ _=>none)) (fun m ih=>C18_1 cal k (m+1) ih) m
theorem h18_1(k m1:Nat)(u1 u2 u3 u4:Value)(H:Hp)(n:Nat):labK (E18_1 cal k m1) (ts (ts (ts (ts Tr.nil 4 u4) 3 u3) 2 u2) 1 u1) H n []=C18_1 cal k m1 (R18_1 cal k m1) u1 u2 u3 u4 H n:=by
 refine Eq.trans (b:=B18_1 cal k m1 (fun u1 u2 u3 u5 H n=>labK (E18_2 cal k k) (ts (ts (ts (ts Tr.nil 5 u5) 3 u3) 2 u2) 1 u1) H n []) (R18_1 cal k m1) u1 u2 u3 u4 H n) (by kernel_rfl) ?_
 rw[C18_1]
 have e2:(fun u1 u2 u3 u5 H n=>labK (E18_2 cal k k) (ts (ts (ts (ts Tr.nil 5 u5) 3 u3) 2 u2) 1 u1) H n [])=(S18_2 cal k k):=by funext u1 u2 u3 u5 H n; exact q18_2 ..
 rw[e2]
theorem q18_1(k:Nat):∀(m:Nat) (u1 u2 u3 u4:Value) (H:Hp) (n:Nat),labK (E18_1 cal k m) (ts (ts (ts (ts Tr.nil 4 u4) 3 u3) 2 u2) 1 u1) H n []=S18_1 cal k m u1 u2 u3 u4 H n
 | 0,u1,u2,u3,u4,H,n=>by
  rw[h18_1]
  have e:R18_1 cal k 0=fun _ _ _ _ _ _=>none:=by funext u1 u2 u3 u4 H n; kernel_rfl
  rw[e]; rfl
 | m+1,u1,u2,u3,u4,H,n=>by
  rw[h18_1]
  have e:R18_1 cal k (m+1)=S18_1 cal k m:=by
   funext u1 u2 u3 u4 H n
   have e:R18_1 cal k (m+1) u1 u2 u3 u4 H n=labK (E18_1 cal k m) (ts (ts (ts (ts Tr.nil 4 u4) 3 u3) 2 u2) 1 u1) H n []:=by kernel_rfl
   rw[e]; exact q18_1 ..
  rw[e]; rfl
noncomputable def B18_0(cal:Cal)(k:Nat)(j1:V4)(v0:Value)(H:Hp)(n:Nat):Res:=
boxK 26 v0 H n fun v_1 H_2 n_3=>
eQ P 35 H_2 n_3 fun v_4 H_5 n_6=>
eQ P 35 H_5 n_6 fun v_7 H_8 n_9=>
j1 v_1 v_4 v_7 (.int .i64 0) H_8 n_9
noncomputable def C18_0(k:Nat)(v0:Value)(H:Hp)(n:Nat):Res:=B18_0 cal k (S18_1 cal k k) v0 H n
theorem h18_0(k:Nat)(v0:Value)(H:Hp)(n:Nat):aY P cal A (k+1) 18 [v0] H n=C18_0 cal k v0 H n:=by
 have h:aY P cal A (k+1) 18 [v0] H n=B18_0 cal k (fun u1 u2 u3 u4 H n=>labK (E18_1 cal k k) (ts (ts (ts (ts Tr.nil 4 u4) 3 u3) 2 u2) 1 u1) H n []) v0 H n:=by
  rw[bY (fn:=Go.Proofs.Try.f18) (c:=lY) (rs:=cV) (by kernel_rfl) (by kernel_rfl) (by kernel_rfl) (by kernel_rfl)]
  kernel_rfl
 rw[h,C18_0]
 have e1:(fun u1 u2 u3 u4 H n=>labK (E18_1 cal k k) (ts (ts (ts (ts Tr.nil 4 u4) 3 u3) 2 u2) 1 u1) H n [])=(S18_1 cal k k):=by funext u1 u2 u3 u4 H n; exact q18_1 ..
 rw[e1]
noncomputable def code20:Code:=dj 20
noncomputable def Jq:List ResultVar:=fk 20
noncomputable def K20_p:KR:=kD cal k 20 code20 (A 20) (av P Jq) X0 (av P Jq)
noncomputable def K20_pr:KR:=kD cal k 20 (cR code20) (Lb (A 20)) (av P Jq) X0 (av P Jq)
noncomputable def B20_0(cal:Cal)(k:Nat)(v0:Value)(H:Hp)(n:Nat):Res:=
boxK 26 v0 H n fun v_1 H_2 n_3=>
aq (aV v_1) fun a_6=>aq (az P H_2 26 a_6) fun v_5=>
aX P cal 63 [v_5] H_2 n_3 fun v_7 H_8 n_9=>
some (v_7,H_8,n_9)
noncomputable def C20_0(k:Nat)(v0:Value)(H:Hp)(n:Nat):Res:=B20_0 cal k v0 H n
theorem h20_0(k:Nat)(v0:Value)(H:Hp)(n:Nat):aY P cal A (k+1) 20 [v0] H n=C20_0 cal k v0 H n:=by
 have h:aY P cal A (k+1) 20 [v0] H n=B20_0 cal k v0 H n:=by
  rw[bY (fn:=Go.Proofs.Try.f20) (c:=code20) (rs:=Jq) (by kernel_rfl) (by kernel_rfl) (by kernel_rfl) (by kernel_rfl)]
  kernel_rfl
 rw[h,C20_0]
noncomputable def AY:Code:=dj 21
noncomputable def mj:List ResultVar:=fk 21
noncomputable def K21_p:KR:=kD cal k 21 AY (A 21) (av P mj) X0 (av P mj)
noncomputable def K21_pr:KR:=kD cal k 21 (cR AY) (Lb (A 21)) (av P mj) X0 (av P mj)
noncomputable def K21_prl:KR:=kD cal k 21 (cL (cR AY)) (La (Lb (A 21))) (K21_pr cal k) X0 (av P mj)
noncomputable def AZ(k:Nat):XR:=(upX 0 (K21_pr cal k) X0)
noncomputable def Yx(k:Nat)(m1:Nat):KR:=(fun T H n D=>aK P cal m1 (La (Lb (La (Lb (A 21))))) none 21 (cL (cR (cL (cR AY)))) (K21_pr cal k) (AZ cal k) (av P mj) (cutT (La (Lb (La (Lb (A 21))))).c T) H n D)
noncomputable def K21_prlrll(k:Nat)(m1:Nat):KR:=kD cal m1 21 (cL (cL (cR (cL (cR AY))))) (La (La (Lb (La (Lb (A 21)))))) (Yx cal k m1) (AZ cal k) (av P mj)
noncomputable def K21_prlrlll(k:Nat)(m1:Nat):KR:=kD cal m1 21 (cL (cL (cL (cR (cL (cR AY)))))) (La (La (La (Lb (La (Lb (A 21))))))) (K21_prlrll cal k m1) (AZ cal k) (av P mj)
noncomputable def Ox(k:Nat)(m1:Nat):KR:=kD cal m1 21 (cR (cL (cL (cR (cL (cR AY)))))) (Lb (La (La (Lb (La (Lb (A 21))))))) (Yx cal k m1) (AZ cal k) (av P mj)
noncomputable def K21_pxrlrllrl(k:Nat)(m1:Nat):XR:=(upX 1 (Ox cal k m1) (AZ cal k))
noncomputable def K21_prlrllrll(k:Nat)(m1:Nat):KR:=kD cal m1 21 (cL (cL (cR (cL (cL (cR (cL (cR AY)))))))) (La (La (Lb (La (La (Lb (La (Lb (A 21))))))))) (Ox cal k m1) (K21_pxrlrllrl cal k m1) (av P mj)
noncomputable def K21_prlrllrllrl(k:Nat)(m1:Nat):KR:=kD cal m1 21 (cL (cR (cL (cL (cR (cL (cL (cR (cL (cR AY)))))))))) (La (Lb (La (La (Lb (La (La (Lb (La (Lb (A 21))))))))))) (Ox cal k m1) (K21_pxrlrllrl cal k m1) (av P mj)
noncomputable def K21_prr:KR:=kD cal k 21 (cR (cR AY)) (Lb (Lb (A 21))) (av P mj) X0 (av P mj)
noncomputable def E21_1(k m1:Nat):KR:=cj P cal (aK P cal m1) none 21 (cL (cL (cR (cL (cR AY))))) (La (La (Lb (La (Lb (A 21)))))) (Yx cal k m1) (AZ cal k) (av P mj)
noncomputable def R21_1(k m1:Nat):V4:=fun u1 u2 u3 u7 H n=>aK P cal m1 (La (Lb (La (Lb (A 21))))) none 21 (cL (cR (cL (cR AY)))) (K21_pr cal k) (AZ cal k) (av P mj) (ts (ts (ts (ts Tr.nil 7 u7) 3 u3) 2 u2) 1 u1) H n []
noncomputable def B21_1(cal:Cal)(k m1:Nat)(b1:V4)(u1 u2 u3 u7:Value)(H:Hp)(n:Nat):Res:=
aq (aw P 26 u3 2) fun v_g=>
aq (aV v_g) fun a_i=>aq (az P H 24 a_i) fun v_h=>
aq (aJ P 24 v_h u1) fun v_k=>
aq (aw P 94 v_k 1) fun v_l=>
aq (aw P 55 v_l 1) fun v_m=>
aq (aV v_m) fun a_o=>aq (az P H 3 a_o) fun v_n=>
binK P .leq 3 (.tmp 15) (.tmp 22) u7 v_n fun v_p=>
ifK v_p (
aq (aV u3) fun a_r=>aq (az P H 26 a_r) fun v_q=>
aX P cal 64 [v_q,u1,u2,u2,u7] H n fun v_w H_x n_y=>
ifK v_w (
some ((.bool true),H_x,n_y)) (
binK P .add 3 (.tmp 24) (.const (.int .i64 1)) u7 (.int .i64 1) fun v_11=>
b1 u1 u2 u3 v_11 H_x n_y)) (
some ((.bool false),H,n))
noncomputable def C21_1(k m1:Nat)(b1:V4)(u1 u2 u3 u7:Value)(H:Hp)(n:Nat):Res:=B21_1 cal k m1 b1 u1 u2 u3 u7 H n
noncomputable def S21_1(k:Nat):Nat→V4:=fun m=>Nat.rec (motive:=fun _=>V4) (C21_1 cal k 0 (fun _ _ _ _ _ _=>none)) (fun m ih=>C21_1 cal k (m+1) ih) m
theorem h21_1(k m1:Nat)(u1 u2 u3 u7:Value)(H:Hp)(n:Nat):labK (E21_1 cal k m1) (ts (ts (ts (ts Tr.nil 7 u7) 3 u3) 2 u2) 1 u1) H n []=C21_1 cal k m1 (R21_1 cal k m1) u1 u2 u3 u7 H n:=by
 refine Eq.trans (b:=B21_1 cal k m1 (R21_1 cal k m1) u1 u2 u3 u7 H n) (by kernel_rfl) ?_
 rw[C21_1]
theorem q21_1(k:Nat):∀(m:Nat) (u1 u2 u3 u7:Value) (H:Hp) (n:Nat),labK (E21_1 cal k m) (ts (ts (ts (ts Tr.nil 7 u7) 3 u3) 2 u2) 1 u1) H n []=S21_1 cal k m u1 u2 u3 u7 H n
 | 0,u1,u2,u3,u7,H,n=>by
  rw[h21_1]
  have e:R21_1 cal k 0=fun _ _ _ _ _ _=>none:=by funext u1 u2 u3 u7 H n; kernel_rfl
  rw[e]; rfl
 | m+1,u1,u2,u3,u7,H,n=>by
  rw[h21_1]
  have e:R21_1 cal k (m+1)=S21_1 cal k m:=by
   funext u1 u2 u3 u7 H n
   have e:R21_1 cal k (m+1) u1 u2 u3 u7 H n=labK (E21_1 cal k m) (ts (ts (ts (ts Tr.nil 7 u7) 3 u3) 2 u2) 1 u1) H n []:=by kernel_rfl
   rw[e]; exact q21_1 ..
  rw[e]; rfl
noncomputable def B21_0(cal:Cal)(k:Nat)(j1:V4)(v0 v1 v2:Value)(H:Hp)(n:Nat):Res:=
boxK 26 v0 H n fun v_1 H_2 n_3=>
aq (aw P 26 v_1 2) fun v_5=>
aq (aV v_5) fun a_7=>aq (az P H_2 24 a_7) fun v_6=>
aq (aJ P 24 v_6 v1) fun v_9=>
aq (aw P 94 v_9 1) fun v_a=>
aq (aw P 55 v_a 0) fun v_b=>
aq (aV v_b) fun a_d=>aq (az P H_2 3 a_d) fun v_c=>
j1 v1 v2 v_1 v_c H_2 n_3
noncomputable def C21_0(k:Nat)(v0 v1 v2:Value)(H:Hp)(n:Nat):Res:=B21_0 cal k (S21_1 cal k k) v0 v1 v2 H n
theorem h21_0(k:Nat)(v0 v1 v2:Value)(H:Hp)(n:Nat):aY P cal A (k+1) 21 [v0,v1,v2] H n=C21_0 cal k v0 v1 v2 H n:=by
 have h:aY P cal A (k+1) 21 [v0,v1,v2] H n=B21_0 cal k (fun u1 u2 u3 u7 H n=>labK (E21_1 cal k k) (ts (ts (ts (ts Tr.nil 7 u7) 3 u3) 2 u2) 1 u1) H n []) v0 v1 v2 H n:=by
  rw[bY (fn:=Go.Proofs.Try.f21) (c:=AY) (rs:=mj) (by kernel_rfl) (by kernel_rfl) (by kernel_rfl) (by kernel_rfl)]
  kernel_rfl
 rw[h,C21_0]
 have e1:(fun u1 u2 u3 u7 H n=>labK (E21_1 cal k k) (ts (ts (ts (ts Tr.nil 7 u7) 3 u3) 2 u2) 1 u1) H n [])=(S21_1 cal k k):=by funext u1 u2 u3 u7 H n; exact q21_1 ..
 rw[e1]
noncomputable def code23:Code:=dj 23
noncomputable def Jv:List ResultVar:=fk 23
noncomputable def K23_p:KR:=kD cal k 23 code23 (A 23) (av P Jv) X0 (av P Jv)
noncomputable def K23_pr:KR:=kD cal k 23 (cR code23) (Lb (A 23)) (av P Jv) X0 (av P Jv)
noncomputable def B23_0(cal:Cal)(k:Nat)(v0:Value)(H:Hp)(n:Nat):Res:=
rowK P 44 0 [] H n fun v_2 H_3 n_4=>
stK (iz P (bare H_3 n_4) 44 44 v_2 v0) fun v_6 H_7 n_8=>
some (v_6,H_7,n_8)
noncomputable def Oy(k:Nat)(v0:Value)(H:Hp)(n:Nat):Res:=B23_0 cal k v0 H n
theorem h23_0(k:Nat)(v0:Value)(H:Hp)(n:Nat):aY P cal A (k+1) 23 [v0] H n=Oy cal k v0 H n:=by
 have h:aY P cal A (k+1) 23 [v0] H n=B23_0 cal k v0 H n:=by
  rw[bY (fn:=Go.Proofs.Try.f23) (c:=code23) (rs:=Jv) (by kernel_rfl) (by kernel_rfl) (by kernel_rfl) (by kernel_rfl)]
  kernel_rfl
 rw[h,Oy]
noncomputable def HV:Code:=dj 25
noncomputable def ny:List ResultVar:=fk 25
noncomputable def K25_p:KR:=kD cal k 25 HV (A 25) (av P ny) X0 (av P ny)
noncomputable def K25_pr:KR:=kD cal k 25 (cR HV) (Lb (A 25)) (av P ny) X0 (av P ny)
noncomputable def K25_prl:KR:=kD cal k 25 (cL (cR HV)) (La (Lb (A 25))) (K25_pr cal k) X0 (av P ny)
noncomputable def K25_prlr:KR:=kD cal k 25 (cR (cL (cR HV))) (Lb (La (Lb (A 25)))) (K25_pr cal k) X0 (av P ny)
noncomputable def K25_prlrrl:KR:=kD cal k 25 (cL (cR (cR (cL (cR HV))))) (La (Lb (Lb (La (Lb (A 25)))))) (K25_pr cal k) X0 (av P ny)
noncomputable def K25_prr:KR:=kD cal k 25 (cR (cR HV)) (Lb (Lb (A 25))) (av P ny) X0 (av P ny)
noncomputable def K25_prrl:KR:=kD cal k 25 (cL (cR (cR HV))) (La (Lb (Lb (A 25)))) (K25_prr cal k) X0 (av P ny)
noncomputable def K25_prrlrl:KR:=kD cal k 25 (cL (cR (cL (cR (cR HV))))) (La (Lb (La (Lb (Lb (A 25)))))) (K25_prr cal k) X0 (av P ny)
noncomputable def K25_prrr:KR:=kD cal k 25 (cR (cR (cR HV))) (Lb (Lb (Lb (A 25)))) (av P ny) X0 (av P ny)
noncomputable def B25_0(cal:Cal)(k:Nat)(v0 v1:Value)(H:Hp)(n:Nat):Res:=
boxK 26 v0 H n fun v_1 H_2 n_3=>
aq (aV v_1) fun a_6=>aq (az P H_2 26 a_6) fun v_5=>
aX P cal 20 [v_5] H_2 n_3 fun v_7 H_8 n_9=>
binK P .neq 29 (.tmp 8) (.const (.int .i64 0)) v_7 (.int .i64 0) fun v_c=>
ifK v_c (
some (v_7,H_8,n_9)) (
aq (aV v_1) fun a_g=>aq (az P H_8 26 a_g) fun v_f=>
aX P cal 58 [v_f,v1] H_8 n_9 fun v_i H_j n_k=>
aq (dX P v_i (Op.unary UnOp.not v_i)) fun v_l=>
ifK v_l (
some ((.int .i64 2),H_j,n_k)) (
some ((.int .i64 0),H_j,n_k)))
noncomputable def C25_0(k:Nat)(v0 v1:Value)(H:Hp)(n:Nat):Res:=B25_0 cal k v0 v1 H n
theorem h25_0(k:Nat)(v0 v1:Value)(H:Hp)(n:Nat):aY P cal A (k+1) 25 [v0,v1] H n=C25_0 cal k v0 v1 H n:=by
 have h:aY P cal A (k+1) 25 [v0,v1] H n=B25_0 cal k v0 v1 H n:=by
  rw[bY (fn:=Go.Proofs.Try.f25) (c:=HV) (rs:=ny) (by kernel_rfl) (by kernel_rfl) (by kernel_rfl) (by kernel_rfl)]
  kernel_rfl
 rw[h,C25_0]
noncomputable def code26:Code:=dj 26
noncomputable def AK:List ResultVar:=fk 26
noncomputable def K26_p:KR:=kD cal k 26 code26 (A 26) (av P AK) X0 (av P AK)
noncomputable def K26_pr:KR:=kD cal k 26 (cR code26) (Lb (A 26)) (av P AK) X0 (av P AK)
noncomputable def B26_0(cal:Cal)(k:Nat)(v0:Value)(H:Hp)(n:Nat):Res:=
boxK 55 v0 H n fun v_1 H_2 n_3=>
eQ P 53 H_2 n_3 fun v_4 H_5 n_6=>
aq (aw P 55 v_1 0) fun v_7=>
aq (aV v_7) fun a_9=>aq (az P H_5 3 a_9) fun v_8=>
aq (aw P 55 v_1 1) fun v_a=>
aq (aV v_a) fun a_c=>aq (az P H_5 3 a_c) fun v_b=>
aq (fK P 53 [(0,v_8),(1,v_b)]) fun v_d=>
aq (bX P 53 v_4 v_d H_5) fun H_f=>
aq (resV P (Tr.set Tr.nil 2 (some v_4)) H_f AK) fun v_g=>some (oneV v_g,H_f,n_6)
noncomputable def C26_0(k:Nat)(v0:Value)(H:Hp)(n:Nat):Res:=B26_0 cal k v0 H n
theorem h26_0(k:Nat)(v0:Value)(H:Hp)(n:Nat):aY P cal A (k+1) 26 [v0] H n=C26_0 cal k v0 H n:=by
 have h:aY P cal A (k+1) 26 [v0] H n=B26_0 cal k v0 H n:=by
  rw[bY (fn:=Go.Proofs.Try.f26) (c:=code26) (rs:=AK) (by kernel_rfl) (by kernel_rfl) (by kernel_rfl) (by kernel_rfl)]
  kernel_rfl
 rw[h,C26_0]
noncomputable def code32:Code:=dj 32
noncomputable def Jw:List ResultVar:=fk 32
noncomputable def K32_p:KR:=kD cal k 32 code32 (A 32) (av P Jw) X0 (av P Jw)
noncomputable def K32_pr:KR:=kD cal k 32 (cR code32) (Lb (A 32)) (av P Jw) X0 (av P Jw)
noncomputable def B32_0(cal:Cal)(k:Nat)(v0 v1 v2:Value)(H:Hp)(n:Nat):Res:=
binK P .geq 3 (.tmp 7) (.tmp 8) v0 v1 fun v_4=>
aQ v_4 true (fun k_6=>
k_6 v0 H n) H n fun v_7 H_8 n_9=>
aQ v_4 true (fun k_b=>
k_b v2 H_8 n_9) H_8 n_9 fun v_c H_d n_e=>
aQ v_4 true (fun k_g=>
binK P .leq 3 (.tmp 11) (.tmp 12) v_7 v_c fun v_k=>
k_g v_k H_d n_e) H_d n_e fun v_h H_i n_j=>
aq (fy v_4 v_h (.bool false)) fun v_l=>
some (v_l,H_i,n_j)
noncomputable def C32_0(k:Nat)(v0 v1 v2:Value)(H:Hp)(n:Nat):Res:=B32_0 cal k v0 v1 v2 H n
theorem h32_0(k:Nat)(v0 v1 v2:Value)(H:Hp)(n:Nat):aY P cal A (k+1) 32 [v0,v1,v2] H n=C32_0 cal k v0 v1 v2 H n:=by
 have h:aY P cal A (k+1) 32 [v0,v1,v2] H n=B32_0 cal k v0 v1 v2 H n:=by
  rw[bY (fn:=Go.Proofs.Try.f32) (c:=code32) (rs:=Jw) (by kernel_rfl) (by kernel_rfl) (by kernel_rfl) (by kernel_rfl)]
  kernel_rfl
 rw[h,C32_0]
noncomputable def gV:Code:=dj 33
noncomputable def bK:List ResultVar:=fk 33
noncomputable def K33_p:KR:=kD cal k 33 gV (A 33) (av P bK) X0 (av P bK)
noncomputable def K33_pr:KR:=kD cal k 33 (cR gV) (Lb (A 33)) (av P bK) X0 (av P bK)
noncomputable def K33_prl:KR:=kD cal k 33 (cL (cR gV)) (La (Lb (A 33))) (K33_pr cal k) X0 (av P bK)
noncomputable def K33_prlrl:KR:=kD cal k 33 (cL (cR (cL (cR gV)))) (La (Lb (La (Lb (A 33))))) (K33_pr cal k) X0 (av P bK)
noncomputable def qev:KR:=kD cal k 33 (cR (cR gV)) (Lb (Lb (A 33))) (av P bK) X0 (av P bK)
noncomputable def K33_prrl:KR:=kD cal k 33 (cL (cR (cR gV))) (La (Lb (Lb (A 33)))) (qev cal k) X0 (av P bK)
noncomputable def ux(k:Nat):XR:=(upX 0 (qev cal k) X0)
noncomputable def Lw(k:Nat)(m1:Nat):KR:=(fun T H n D=>aK P cal m1 (La (Lb (La (Lb (Lb (A 33)))))) none 33 (cL (cR (cL (cR (cR gV))))) (qev cal k) (ux cal k) (av P bK) (cutT (La (Lb (La (Lb (Lb (A 33)))))).c T) H n D)
noncomputable def K33_prrlrll(k:Nat)(m1:Nat):KR:=kD cal m1 33 (cL (cL (cR (cL (cR (cR gV)))))) (La (La (Lb (La (Lb (Lb (A 33))))))) (Lw cal k m1) (ux cal k) (av P bK)
noncomputable def K33_prrlrlll(k:Nat)(m1:Nat):KR:=kD cal m1 33 (cL (cL (cL (cR (cL (cR (cR gV))))))) (La (La (La (Lb (La (Lb (Lb (A 33)))))))) (K33_prrlrll cal k m1) (ux cal k) (av P bK)
noncomputable def rX(k:Nat)(m1:Nat):KR:=kD cal m1 33 (cR (cL (cL (cR (cL (cR (cR gV))))))) (Lb (La (La (Lb (La (Lb (Lb (A 33)))))))) (Lw cal k m1) (ux cal k) (av P bK)
noncomputable def fQ(k:Nat)(m1:Nat):XR:=(upX 1 (rX cal k m1) (ux cal k))
noncomputable def K33_prrlrllrll(k:Nat)(m1:Nat):KR:=kD cal m1 33 (cL (cL (cR (cL (cL (cR (cL (cR (cR gV))))))))) (La (La (Lb (La (La (Lb (La (Lb (Lb (A 33)))))))))) (rX cal k m1) (fQ cal k m1) (av P bK)
noncomputable def K33_prrlrllrlll(k:Nat)(m1:Nat):KR:=kD cal m1 33 (cL (cL (cL (cR (cL (cL (cR (cL (cR (cR gV)))))))))) (La (La (La (Lb (La (La (Lb (La (Lb (Lb (A 33))))))))))) (K33_prrlrllrll cal k m1) (fQ cal k m1) (av P bK)
noncomputable def K33_prrlrllrlllrl(k:Nat)(m1:Nat):KR:=kD cal m1 33 (cL (cR (cL (cL (cL (cR (cL (cL (cR (cL (cR (cR gV)))))))))))) (La (Lb (La (La (La (Lb (La (La (Lb (La (Lb (Lb (A 33))))))))))))) (K33_prrlrllrll cal k m1) (fQ cal k m1) (av P bK)
noncomputable def K33_prrlrllrlllrll(k:Nat)(m1:Nat):KR:=kD cal m1 33 (cL (cL (cR (cL (cL (cL (cR (cL (cL (cR (cL (cR (cR gV))))))))))))) (La (La (Lb (La (La (La (Lb (La (La (Lb (La (Lb (Lb (A 33)))))))))))))) (K33_prrlrllrlllrl cal k m1) (fQ cal k m1) (av P bK)
noncomputable def K33_prrlrllrlllrllrl(k:Nat)(m1:Nat):KR:=kD cal m1 33 (cL (cR (cL (cL (cR (cL (cL (cL (cR (cL (cL (cR (cL (cR (cR gV))))))))))))))) (La (Lb (La (La (Lb (La (La (La (Lb (La (La (Lb (La (Lb (Lb (A 33)))))))))))))))) (K33_prrlrllrlllrl cal k m1) (fQ cal k m1) (av P bK)
noncomputable def K33_prrlrllrllr(k:Nat)(m1:Nat):KR:=kD cal m1 33 (cR (cL (cL (cR (cL (cL (cR (cL (cR (cR gV)))))))))) (Lb (La (La (Lb (La (La (Lb (La (Lb (Lb (A 33))))))))))) (rX cal k m1) (fQ cal k m1) (av P bK)
noncomputable def K33_prrlrllrllrl(k:Nat)(m1:Nat):KR:=kD cal m1 33 (cL (cR (cL (cL (cR (cL (cL (cR (cL (cR (cR gV))))))))))) (La (Lb (La (La (Lb (La (La (Lb (La (Lb (Lb (A 33)))))))))))) (K33_prrlrllrllr cal k m1) (fQ cal k m1) (av P bK)
noncomputable def K33_prrlrllrllrlrl(k:Nat)(m1:Nat):KR:=kD cal m1 33 (cL (cR (cL (cR (cL (cL (cR (cL (cL (cR (cL (cR (cR gV))))))))))))) (La (Lb (La (Lb (La (La (Lb (La (La (Lb (La (Lb (Lb (A 33)))))))))))))) (K33_prrlrllrllr cal k m1) (fQ cal k m1) (av P bK)
noncomputable def K33_prrlrllrllrr(k:Nat)(m1:Nat):KR:=kD cal m1 33 (cR (cR (cL (cL (cR (cL (cL (cR (cL (cR (cR gV))))))))))) (Lb (Lb (La (La (Lb (La (La (Lb (La (Lb (Lb (A 33)))))))))))) (rX cal k m1) (fQ cal k m1) (av P bK)
noncomputable def tJ(k:Nat)(m1:Nat):KR:=kD cal m1 33 (cR (cR (cR (cL (cL (cR (cL (cL (cR (cL (cR (cR gV)))))))))))) (Lb (Lb (Lb (La (La (Lb (La (La (Lb (La (Lb (Lb (A 33))))))))))))) (rX cal k m1) (fQ cal k m1) (av P bK)
noncomputable def K33_prrlrllrllrrrl(k:Nat)(m1:Nat):KR:=kD cal m1 33 (cL (cR (cR (cR (cL (cL (cR (cL (cL (cR (cL (cR (cR gV))))))))))))) (La (Lb (Lb (Lb (La (La (Lb (La (La (Lb (La (Lb (Lb (A 33)))))))))))))) (tJ cal k m1) (fQ cal k m1) (av P bK)
noncomputable def iK(k:Nat)(m1:Nat):XR:=(upX 2 (tJ cal k m1) (fQ cal k m1))
noncomputable def uy(k:Nat)(m1:Nat)(m2:Nat):KR:=(fun T H n D=>aK P cal m2 (La (Lb (La (Lb (Lb (Lb (La (La (Lb (La (La (Lb (La (Lb (Lb (A 33)))))))))))))))) none 33 (cL (cR (cL (cR (cR (cR (cL (cL (cR (cL (cL (cR (cL (cR (cR gV))))))))))))))) (tJ cal k m1) (iK cal k m1) (av P bK) (cutT (La (Lb (La (Lb (Lb (Lb (La (La (Lb (La (La (Lb (La (Lb (Lb (A 33)))))))))))))))).c T) H n D)
noncomputable def K33_prrlrllrllrrrlrll(k:Nat)(m1:Nat)(m2:Nat):KR:=kD cal m2 33 (cL (cL (cR (cL (cR (cR (cR (cL (cL (cR (cL (cL (cR (cL (cR (cR gV)))))))))))))))) (La (La (Lb (La (Lb (Lb (Lb (La (La (Lb (La (La (Lb (La (Lb (Lb (A 33))))))))))))))))) (uy cal k m1 m2) (iK cal k m1) (av P bK)
noncomputable def K33_prrlrllrllrrrlrlll(k:Nat)(m1:Nat)(m2:Nat):KR:=kD cal m2 33 (cL (cL (cL (cR (cL (cR (cR (cR (cL (cL (cR (cL (cL (cR (cL (cR (cR gV))))))))))))))))) (La (La (La (Lb (La (Lb (Lb (Lb (La (La (Lb (La (La (Lb (La (Lb (Lb (A 33)))))))))))))))))) (K33_prrlrllrllrrrlrll cal k m1 m2) (iK cal k m1) (av P bK)
noncomputable def rY(k:Nat)(m1:Nat)(m2:Nat):KR:=kD cal m2 33 (cR (cL (cL (cR (cL (cR (cR (cR (cL (cL (cR (cL (cL (cR (cL (cR (cR gV))))))))))))))))) (Lb (La (La (Lb (La (Lb (Lb (Lb (La (La (Lb (La (La (Lb (La (Lb (Lb (A 33)))))))))))))))))) (uy cal k m1 m2) (iK cal k m1) (av P bK)
noncomputable def mZ(k:Nat)(m1:Nat)(m2:Nat):XR:=(upX 3 (rY cal k m1 m2) (iK cal k m1))
noncomputable def K33_prrlrllrllrrrlrllrll(k:Nat)(m1:Nat)(m2:Nat):KR:=kD cal m2 33 (cL (cL (cR (cL (cL (cR (cL (cR (cR (cR (cL (cL (cR (cL (cL (cR (cL (cR (cR gV))))))))))))))))))) (La (La (Lb (La (La (Lb (La (Lb (Lb (Lb (La (La (Lb (La (La (Lb (La (Lb (Lb (A 33)))))))))))))))))))) (rY cal k m1 m2) (mZ cal k m1 m2) (av P bK)
noncomputable def K33_prrlrllrllrrrlrllrllr(k:Nat)(m1:Nat)(m2:Nat):KR:=kD cal m2 33 (cR (cL (cL (cR (cL (cL (cR (cL (cR (cR (cR (cL (cL (cR (cL (cL (cR (cL (cR (cR gV)))))))))))))))))))) (Lb (La (La (Lb (La (La (Lb (La (Lb (Lb (Lb (La (La (Lb (La (La (Lb (La (Lb (Lb (A 33))))))))))))))))))))) (rY cal k m1 m2) (mZ cal k m1 m2) (av P bK)
noncomputable def K33_prrlrllrllrrrlrllrllrl(k:Nat)(m1:Nat)(m2:Nat):KR:=kD cal m2 33 (cL (cR (cL (cL (cR (cL (cL (cR (cL (cR (cR (cR (cL (cL (cR (cL (cL (cR (cL (cR (cR gV))))))))))))))))))))) (La (Lb (La (La (Lb (La (La (Lb (La (Lb (Lb (Lb (La (La (Lb (La (La (Lb (La (Lb (Lb (A 33)))))))))))))))))))))) (K33_prrlrllrllrrrlrllrllr cal k m1 m2) (mZ cal k m1 m2) (av P bK)
noncomputable def K33_prrlrllrllrrrlrllrllrlrl(k:Nat)(m1:Nat)(m2:Nat):KR:=kD cal m2 33 (cL (cR (cL (cR (cL (cL (cR (cL (cL (cR (cL (cR (cR (cR (cL (cL (cR (cL (cL (cR (cL (cR (cR gV))))))))))))))))))))))) (La (Lb (La (Lb (La (La (Lb (La (La (Lb (La (Lb (Lb (Lb (La (La (Lb (La (La (Lb (La (Lb (Lb (A 33)))))))))))))))))))))))) (K33_prrlrllrllrrrlrllrllr cal k m1 m2) (mZ cal k m1 m2) (av P bK)
noncomputable def K33_prrlrllrllrrrr(k:Nat)(m1:Nat):KR:=kD cal m1 33 (cR (cR (cR (cR (cL (cL (cR (cL (cL (cR (cL (cR (cR gV))))))))))))) (Lb (Lb (Lb (Lb (La (La (Lb (La (La (Lb (La (Lb (Lb (A 33)))))))))))))) (rX cal k m1) (fQ cal k m1) (av P bK)
noncomputable def K33_prrlrllrllrrrrrl(k:Nat)(m1:Nat):KR:=kD cal m1 33 (cL (cR (cR (cR (cR (cR (cL (cL (cR (cL (cL (cR (cL (cR (cR gV))))))))))))))) (La (Lb (Lb (Lb (Lb (Lb (La (La (Lb (La (La (Lb (La (Lb (Lb (A 33)))))))))))))))) (rX cal k m1) (fQ cal k m1) (av P bK)
noncomputable def K33_prrr:KR:=kD cal k 33 (cR (cR (cR gV))) (Lb (Lb (Lb (A 33)))) (av P bK) X0 (av P bK)
noncomputable def E33_2(k m1:Nat):KR:=cj P cal (aK P cal m1) none 33 (cR (cR (cL (cL (cR (cL (cR (cR gV)))))))) (Lb (Lb (La (La (Lb (La (Lb (Lb (A 33))))))))) (Lw cal k m1) (ux cal k) (av P bK)
noncomputable def E33_3(k m1 m2:Nat):KR:=cj P cal (aK P cal m2) none 33 (cL (cL (cR (cL (cR (cR (cR (cL (cL (cR (cL (cL (cR (cL (cR (cR gV)))))))))))))))) (La (La (Lb (La (Lb (Lb (Lb (La (La (Lb (La (La (Lb (La (Lb (Lb (A 33))))))))))))))))) (uy cal k m1 m2) (iK cal k m1) (av P bK)
noncomputable def R33_3(k m1 m2:Nat):V6:=fun u1 u2 u3 u7 u8 u9 H n=>aK P cal m2 (La (Lb (La (Lb (Lb (Lb (La (La (Lb (La (La (Lb (La (Lb (Lb (A 33)))))))))))))))) none 33 (cL (cR (cL (cR (cR (cR (cL (cL (cR (cL (cL (cR (cL (cR (cR gV))))))))))))))) (tJ cal k m1) (iK cal k m1) (av P bK) (ts (ts (ts (ts (ts (ts Tr.nil 9 u9) 8 u8) 7 u7) 3 u3) 2 u2) 1 u1) H n []
noncomputable def E33_1(k m1:Nat):KR:=cj P cal (aK P cal m1) none 33 (cL (cL (cR (cL (cR (cR gV)))))) (La (La (Lb (La (Lb (Lb (A 33))))))) (Lw cal k m1) (ux cal k) (av P bK)
noncomputable def GQ(k m1:Nat):V4:=fun u1 u2 u3 u7 H n=>aK P cal m1 (La (Lb (La (Lb (Lb (A 33)))))) none 33 (cL (cR (cL (cR (cR gV))))) (qev cal k) (ux cal k) (av P bK) (ts (ts (ts (ts Tr.nil 7 u7) 3 u3) 2 u2) 1 u1) H n []
noncomputable def B33_2(cal:Cal)(k m1:Nat)(b1:V4)(u1 u2 u3 u7:Value)(H:Hp)(n:Nat):Res:=
binK P .add 3 (.tmp 20) (.const (.int .i64 1)) u7 (.int .i64 1) fun v_h=>
b1 u1 u2 u3 v_h H n
noncomputable def C33_2(k m1:Nat)(b1:V4)(u1 u2 u3 u7:Value)(H:Hp)(n:Nat):Res:=B33_2 cal k m1 b1 u1 u2 u3 u7 H n
theorem h33_2(k m1:Nat)(u1 u2 u3 u7:Value)(H:Hp)(n:Nat):labK (E33_2 cal k m1) (ts (ts (ts (ts Tr.nil 7 u7) 3 u3) 2 u2) 1 u1) H n []=C33_2 cal k m1 (GQ cal k m1) u1 u2 u3 u7 H n:=by
 refine Eq.trans (b:=B33_2 cal k m1 (GQ cal k m1) u1 u2 u3 u7 H n) (by kernel_rfl) ?_
 rw[C33_2]
noncomputable def B33_3(cal:Cal)(k m1 m2:Nat)(j2:V4)(b1:V4)(b3:V6)(u1 u2 u3 u7 u8 u9:Value)(H:Hp)(n:Nat):Res:=
aq (lenV P 44 u1) fun v_1b=>
binK P .lss 3 (.tmp 41) (.tmp 43) u9 v_1b fun v_1c=>
ifK v_1c (
aq (aV u3) fun a_1d=>aq (az P H 26 a_1d) fun v_1e=>
aq (aJ P 44 u1 u7) fun v_1h=>
aq (aV v_1h) fun a_1i=>aq (az P H 3 a_1i) fun v_1j=>
aq (iJ P 55) fun z_1o=>newK (aZ z_1o) 55 H n fun H_1m n_1n=>
effK P [(.a n (aZ z_1o) 55)] H_1m n_1n (fun H_1p n_1q k_1r=>
aX P cal 77 [v_1e,v_1j,u7,u9] H_1p n_1q fun v_1v H_1w n_1x=>
k_1r v_1v H_1w n_1x) fun v_1s H_1t n_1u=>
aq (bX P 55 (ptr n) v_1s H_1t) fun H_1z=>
aq (aJ P 59 u2 u7) fun v_22=>
aq (aV v_22) fun a_23=>aq (az P H_1z 44 a_23) fun v_24=>
aq (aJ P 44 v_24 u9) fun v_26=>
aq (aV v_26) fun a_27=>aq (az P H_1z 3 a_27) fun v_28=>
aq (aw P 55 (ptr n) 0) fun v_29=>
aq (aV v_29) fun a_2a=>aq (az P H_1z 3 a_2a) fun v_2b=>
aq (aw P 55 (ptr n) 1) fun v_2c=>
aq (aV v_2c) fun a_2d=>aq (az P H_1z 3 a_2d) fun v_2e=>
aX P cal 32 [v_28,v_2b,v_2e] H_1z n_1u fun v_2f H_2g n_2h=>
aq (dX P v_2f (Op.unary UnOp.not v_2f)) fun v_2i=>
ifK v_2i (
some ((.bool false),H_2g,n_2h)) (
aq (aJ P 59 u2 u7) fun v_2n=>
aq (aV v_2n) fun a_2p=>aq (az P H_2g 44 a_2p) fun v_2o=>
aq (aJ P 44 v_2o u9) fun v_2r=>
aq (aV v_2r) fun a_2t=>aq (az P H_2g 3 a_2t) fun v_2s=>
binK P .add 3 (.tmp 68) (.tmp 75) u8 v_2s fun v_2u=>
binK P .add 3 (.tmp 45) (.const (.int .i64 1)) u9 (.int .i64 1) fun v_2x=>
b3 u1 u2 u3 u7 v_2u v_2x H_2g n_2h)) (
aq (aw P 26 u3 2) fun v_30=>
aq (aV v_30) fun a_31=>aq (az P H 24 a_31) fun v_32=>
aq (aJ P 44 u1 u7) fun v_35=>
aq (aV v_35) fun a_36=>aq (az P H 3 a_36) fun v_37=>
aq (aJ P 24 v_32 v_37) fun v_38=>
aq (aw P 94 v_38 0) fun v_39=>
aq (aV v_39) fun a_3a=>aq (az P H 3 a_3a) fun v_3b=>
binK P .neq 3 (.tmp 77) (.tmp 86) u8 v_3b fun v_3c=>
ifK v_3c (
some ((.bool false),H,n)) (
j2 u1 u2 u3 u7 H n))
noncomputable def C33_3(k m1 m2:Nat)(b1:V4)(b3:V6)(u1 u2 u3 u7 u8 u9:Value)(H:Hp)(n:Nat):Res:=B33_3 cal k m1 m2 (C33_2 cal k m1 b1) b1 b3 u1 u2 u3 u7 u8 u9 H n
noncomputable def S33_3(k m1:Nat)(b1:V4):Nat→V6:=fun m=>Nat.rec (motive:=fun _=>V6) (C33_3 cal k m1 0 b1 (fun _ _ _ _ _ _ _ _=>none)) (fun m ih=>C33_3 cal k m1 (m+1) b1 ih) m
theorem h33_3(k m1 m2:Nat)(u1 u2 u3 u7 u8 u9:Value)(H:Hp)(n:Nat):labK (E33_3 cal k m1 m2) (ts (ts (ts (ts (ts (ts Tr.nil 9 u9) 8 u8) 7 u7) 3 u3) 2 u2) 1 u1) H n []=C33_3 cal k m1 m2 (GQ cal k m1) (R33_3 cal k m1 m2) u1 u2 u3 u7 u8 u9 H n:=by
 refine Eq.trans (b:=B33_3 cal k m1 m2 (fun u1 u2 u3 u7 H n=>labK (E33_2 cal k m1) (ts (ts (ts (ts Tr.nil 7 u7) 3 u3) 2 u2) 1 u1) H n []) (GQ cal k m1) (R33_3 cal k m1 m2) u1 u2 u3 u7 u8 u9 H n) (by kernel_rfl) ?_
 rw[C33_3]
 have e2:(fun u1 u2 u3 u7 H n=>labK (E33_2 cal k m1) (ts (ts (ts (ts Tr.nil 7 u7) 3 u3) 2 u2) 1 u1) H n [])=(C33_2 cal k m1 (GQ cal k m1)):=by funext u1 u2 u3 u7 H n; exact h33_2 ..
 rw[e2]
theorem q33_3(k m1:Nat):∀(m:Nat) (u1 u2 u3 u7 u8 u9:Value) (H:Hp) (n:Nat),labK (E33_3 cal k m1 m) (ts (ts (ts (ts (ts (ts Tr.nil 9 u9) 8 u8) 7 u7) 3 u3) 2 u2) 1 u1) H n []=S33_3 cal k m1 (GQ cal k m1) m u1 u2 u3 u7 u8 u9 H n
 | 0,u1,u2,u3,u7,u8,u9,H,n=>by
  rw[h33_3]
  have e:R33_3 cal k m1 0=fun _ _ _ _ _ _ _ _=>none:=by funext u1 u2 u3 u7 u8 u9 H n; kernel_rfl
  rw[e]; rfl
 | m+1,u1,u2,u3,u7,u8,u9,H,n=>by
  rw[h33_3]
  have e:R33_3 cal k m1 (m+1)=S33_3 cal k m1 (GQ cal k m1) m:=by
   funext u1 u2 u3 u7 u8 u9 H n
   have e:R33_3 cal k m1 (m+1) u1 u2 u3 u7 u8 u9 H n=labK (E33_3 cal k m1 m) (ts (ts (ts (ts (ts (ts Tr.nil 9 u9) 8 u8) 7 u7) 3 u3) 2 u2) 1 u1) H n []:=by kernel_rfl
   rw[e]; exact q33_3 ..
  rw[e]; rfl
noncomputable def B33_1(cal:Cal)(k m1:Nat)(j2:V4)(j3:V6)(b1:V4)(u1 u2 u3 u7:Value)(H:Hp)(n:Nat):Res:=
aq (lenV P 44 u1) fun v_e=>
binK P .lss 3 (.tmp 16) (.tmp 18) u7 v_e fun v_f=>
ifK v_f (
aq (aJ P 44 u1 u7) fun v_l=>
aq (aV v_l) fun a_n=>aq (az P H 3 a_n) fun v_m=>
binK P .lss 3 (.tmp 25) (.const (.int .i64 0)) v_m (.int .i64 0) fun v_o=>
ifK v_o (
aq (aJ P 59 u2 u7) fun v_r=>
aq (aV v_r) fun a_t=>aq (az P H 44 a_t) fun v_s=>
aq (lenV P 44 v_s) fun v_u=>
binK P .neq 3 (.tmp 31) (.const (.int .i64 0)) v_u (.int .i64 0) fun v_v=>
ifK v_v (
some ((.bool false),H,n)) (
j2 u1 u2 u3 u7 H n)) (
aq (aJ P 59 u2 u7) fun v_z=>
aq (aV v_z) fun a_11=>aq (az P H 44 a_11) fun v_10=>
aq (lenV P 44 v_10) fun v_12=>
aq (lenV P 44 u1) fun v_14=>
binK P .neq 3 (.tmp 37) (.tmp 39) v_12 v_14 fun v_15=>
ifK v_15 (
some ((.bool false),H,n)) (
j3 u1 u2 u3 u7 (.int .i64 0) (.int .i64 0) H n))) (
some ((.bool true),H,n))
noncomputable def C33_1(k m1:Nat)(b1:V4)(u1 u2 u3 u7:Value)(H:Hp)(n:Nat):Res:=B33_1 cal k m1 (C33_2 cal k m1 b1) (S33_3 cal k m1 b1 m1) b1 u1 u2 u3 u7 H n
noncomputable def S33_1(k:Nat):Nat→V4:=fun m=>Nat.rec (motive:=fun _=>V4) (C33_1 cal k 0 (fun _ _ _ _ _ _=>none)) (fun m ih=>C33_1 cal k (m+1) ih) m
theorem h33_1(k m1:Nat)(u1 u2 u3 u7:Value)(H:Hp)(n:Nat):labK (E33_1 cal k m1) (ts (ts (ts (ts Tr.nil 7 u7) 3 u3) 2 u2) 1 u1) H n []=C33_1 cal k m1 (GQ cal k m1) u1 u2 u3 u7 H n:=by
 refine Eq.trans (b:=B33_1 cal k m1 (fun u1 u2 u3 u7 H n=>labK (E33_2 cal k m1) (ts (ts (ts (ts Tr.nil 7 u7) 3 u3) 2 u2) 1 u1) H n []) (fun u1 u2 u3 u7 u8 u9 H n=>labK (E33_3 cal k m1 m1) (ts (ts (ts (ts (ts (ts Tr.nil 9 u9) 8 u8) 7 u7) 3 u3) 2 u2) 1 u1) H n []) (GQ cal k m1) u1 u2 u3 u7 H n) (by kernel_rfl) ?_
 rw[C33_1]
 have e2:(fun u1 u2 u3 u7 H n=>labK (E33_2 cal k m1) (ts (ts (ts (ts Tr.nil 7 u7) 3 u3) 2 u2) 1 u1) H n [])=(C33_2 cal k m1 (GQ cal k m1)):=by funext u1 u2 u3 u7 H n; exact h33_2 ..
 rw[e2]
 have e3:(fun u1 u2 u3 u7 u8 u9 H n=>labK (E33_3 cal k m1 m1) (ts (ts (ts (ts (ts (ts Tr.nil 9 u9) 8 u8) 7 u7) 3 u3) 2 u2) 1 u1) H n [])=(S33_3 cal k m1 (GQ cal k m1) m1):=by funext u1 u2 u3 u7 u8 u9 H n; exact q33_3 ..
 rw[e3]
theorem q33_1(k:Nat):∀(m:Nat) (u1 u2 u3 u7:Value) (H:Hp) (n:Nat),labK (E33_1 cal k m) (ts (ts (ts (ts Tr.nil 7 u7) 3 u3) 2 u2) 1 u1) H n []=S33_1 cal k m u1 u2 u3 u7 H n
 | 0,u1,u2,u3,u7,H,n=>by
  rw[h33_1]
  have e:GQ cal k 0=fun _ _ _ _ _ _=>none:=by funext u1 u2 u3 u7 H n; kernel_rfl
  rw[e]; rfl
 | m+1,u1,u2,u3,u7,H,n=>by
  rw[h33_1]
  have e:GQ cal k (m+1)=S33_1 cal k m:=by
   funext u1 u2 u3 u7 H n
   have e:GQ cal k (m+1) u1 u2 u3 u7 H n=labK (E33_1 cal k m) (ts (ts (ts (ts Tr.nil 7 u7) 3 u3) 2 u2) 1 u1) H n []:=by kernel_rfl
   rw[e]; exact q33_1 ..
  rw[e]; rfl
noncomputable def B33_0(cal:Cal)(k:Nat)(j1:V4)(v0 v1 v2:Value)(H:Hp)(n:Nat):Res:=
boxK 26 v0 H n fun v_1 H_2 n_3=>
aq (lenV P 59 v2) fun v_6=>
aq (lenV P 44 v1) fun v_8=>
binK P .neq 3 (.tmp 12) (.tmp 14) v_6 v_8 fun v_9=>
ifK v_9 (
some ((.bool false),H_2,n_3)) (
j1 v1 v2 v_1 (.int .i64 0) H_2 n_3)
noncomputable def C33_0(k:Nat)(v0 v1 v2:Value)(H:Hp)(n:Nat):Res:=B33_0 cal k (S33_1 cal k k) v0 v1 v2 H n
theorem h33_0(k:Nat)(v0 v1 v2:Value)(H:Hp)(n:Nat):aY P cal A (k+1) 33 [v0,v1,v2] H n=C33_0 cal k v0 v1 v2 H n:=by
 have h:aY P cal A (k+1) 33 [v0,v1,v2] H n=B33_0 cal k (fun u1 u2 u3 u7 H n=>labK (E33_1 cal k k) (ts (ts (ts (ts Tr.nil 7 u7) 3 u3) 2 u2) 1 u1) H n []) v0 v1 v2 H n:=by
  rw[bY (fn:=Go.Proofs.Try.f33) (c:=gV) (rs:=bK) (by kernel_rfl) (by kernel_rfl) (by kernel_rfl) (by kernel_rfl)]
  kernel_rfl
 rw[h,C33_0]
 have e1:(fun u1 u2 u3 u7 H n=>labK (E33_1 cal k k) (ts (ts (ts (ts Tr.nil 7 u7) 3 u3) 2 u2) 1 u1) H n [])=(S33_1 cal k k):=by funext u1 u2 u3 u7 H n; exact q33_1 ..
 rw[e1]
noncomputable def zJ:Code:=dj 34
noncomputable def jV:List ResultVar:=fk 34
noncomputable def K34_p:KR:=kD cal k 34 zJ (A 34) (av P jV) X0 (av P jV)
noncomputable def K34_pr:KR:=kD cal k 34 (cR zJ) (Lb (A 34)) (av P jV) X0 (av P jV)
noncomputable def qew:KR:=kD cal k 34 (cR (cR zJ)) (Lb (Lb (A 34))) (av P jV) X0 (av P jV)
noncomputable def K34_prrl:KR:=kD cal k 34 (cL (cR (cR zJ))) (La (Lb (Lb (A 34)))) (qew cal k) X0 (av P jV)
noncomputable def uz(k:Nat):XR:=(upX 0 (qew cal k) X0)
noncomputable def Lx(k:Nat)(m1:Nat):KR:=(fun T H n D=>aK P cal m1 (La (Lb (La (Lb (Lb (A 34)))))) none 34 (cL (cR (cL (cR (cR zJ))))) (qew cal k) (uz cal k) (av P jV) (cutT (La (Lb (La (Lb (Lb (A 34)))))).c T) H n D)
noncomputable def K34_prrlrll(k:Nat)(m1:Nat):KR:=kD cal m1 34 (cL (cL (cR (cL (cR (cR zJ)))))) (La (La (Lb (La (Lb (Lb (A 34))))))) (Lx cal k m1) (uz cal k) (av P jV)
noncomputable def K34_prrlrlll(k:Nat)(m1:Nat):KR:=kD cal m1 34 (cL (cL (cL (cR (cL (cR (cR zJ))))))) (La (La (La (Lb (La (Lb (Lb (A 34)))))))) (K34_prrlrll cal k m1) (uz cal k) (av P jV)
noncomputable def K34_prrlrllr(k:Nat)(m1:Nat):KR:=kD cal m1 34 (cR (cL (cL (cR (cL (cR (cR zJ))))))) (Lb (La (La (Lb (La (Lb (Lb (A 34)))))))) (Lx cal k m1) (uz cal k) (av P jV)
noncomputable def K34_pxrrlrllrl(k:Nat)(m1:Nat):XR:=(upX 1 (K34_prrlrllr cal k m1) (uz cal k))
noncomputable def K34_prrlrllrll(k:Nat)(m1:Nat):KR:=kD cal m1 34 (cL (cL (cR (cL (cL (cR (cL (cR (cR zJ))))))))) (La (La (Lb (La (La (Lb (La (Lb (Lb (A 34)))))))))) (K34_prrlrllr cal k m1) (K34_pxrrlrllrl cal k m1) (av P jV)
noncomputable def K34_prrr:KR:=kD cal k 34 (cR (cR (cR zJ))) (Lb (Lb (Lb (A 34)))) (av P jV) X0 (av P jV)
noncomputable def E34_2(k m1:Nat):KR:=cj P cal (aK P cal m1) none 34 (cR (cR (cL (cL (cR (cL (cR (cR zJ)))))))) (Lb (Lb (La (La (Lb (La (Lb (Lb (A 34))))))))) (Lx cal k m1) (uz cal k) (av P jV)
noncomputable def E34_1(k m1:Nat):KR:=cj P cal (aK P cal m1) none 34 (cL (cL (cR (cL (cR (cR zJ)))))) (La (La (Lb (La (Lb (Lb (A 34))))))) (Lx cal k m1) (uz cal k) (av P jV)
noncomputable def R34_1(k m1:Nat):V4:=fun u0 u1 u5 u6 H n=>aK P cal m1 (La (Lb (La (Lb (Lb (A 34)))))) none 34 (cL (cR (cL (cR (cR zJ))))) (qew cal k) (uz cal k) (av P jV) (ts (ts (ts (ts Tr.nil 6 u6) 5 u5) 1 u1) 0 u0) H n []
noncomputable def B34_2(cal:Cal)(k m1:Nat)(b1:V4)(u0 u1 u5 u6:Value)(H:Hp)(n:Nat):Res:=
binK P .add 3 (.tmp 11) (.const (.int .i64 1)) u6 (.int .i64 1) fun v_9=>
b1 u0 u1 u5 v_9 H n
noncomputable def C34_2(k m1:Nat)(b1:V4)(u0 u1 u5 u6:Value)(H:Hp)(n:Nat):Res:=B34_2 cal k m1 b1 u0 u1 u5 u6 H n
theorem h34_2(k m1:Nat)(u0 u1 u5 u6:Value)(H:Hp)(n:Nat):labK (E34_2 cal k m1) (ts (ts (ts (ts Tr.nil 6 u6) 5 u5) 1 u1) 0 u0) H n []=C34_2 cal k m1 (R34_1 cal k m1) u0 u1 u5 u6 H n:=by
 refine Eq.trans (b:=B34_2 cal k m1 (R34_1 cal k m1) u0 u1 u5 u6 H n) (by kernel_rfl) ?_
 rw[C34_2]
noncomputable def B34_1(cal:Cal)(k m1:Nat)(j2:V4)(b1:V4)(u0 u1 u5 u6:Value)(H:Hp)(n:Nat):Res:=
aq (lenV P 59 u0) fun v_6=>
binK P .lss 3 (.tmp 7) (.tmp 9) u6 v_6 fun v_7=>
ifK v_7 (
aq (aJ P 59 u0 u6) fun v_d=>
aq (aV v_d) fun a_f=>aq (az P H 44 a_f) fun v_e=>
aq (lenV P 44 v_e) fun v_g=>
binK P .gtr 3 (.tmp 17) (.const (.int .i64 0)) v_g (.int .i64 0) fun v_h=>
ifK v_h (
aq (aJ P 59 u0 u6) fun v_l=>
aq (aV v_l) fun a_n=>aq (az P H 44 a_n) fun v_m=>
aq (aJ P 44 v_m u1) fun v_p=>
aq (aV v_p) fun a_r=>aq (az P H 3 a_r) fun v_q=>
binK P .add 3 (.tmp 19) (.tmp 26) u5 v_q fun v_s=>
j2 u0 u1 v_s u6 H n) (
j2 u0 u1 u5 u6 H n)) (
some (u5,H,n))
noncomputable def C34_1(k m1:Nat)(b1:V4)(u0 u1 u5 u6:Value)(H:Hp)(n:Nat):Res:=B34_1 cal k m1 (C34_2 cal k m1 b1) b1 u0 u1 u5 u6 H n
noncomputable def S34_1(k:Nat):Nat→V4:=fun m=>Nat.rec (motive:=fun _=>V4) (C34_1 cal k 0 (fun _ _ _ _ _ _=>none)) (fun m ih=>C34_1 cal k (m+1) ih) m
theorem h34_1(k m1:Nat)(u0 u1 u5 u6:Value)(H:Hp)(n:Nat):labK (E34_1 cal k m1) (ts (ts (ts (ts Tr.nil 6 u6) 5 u5) 1 u1) 0 u0) H n []=C34_1 cal k m1 (R34_1 cal k m1) u0 u1 u5 u6 H n:=by
 refine Eq.trans (b:=B34_1 cal k m1 (fun u0 u1 u5 u6 H n=>labK (E34_2 cal k m1) (ts (ts (ts (ts Tr.nil 6 u6) 5 u5) 1 u1) 0 u0) H n []) (R34_1 cal k m1) u0 u1 u5 u6 H n) (by kernel_rfl) ?_
 rw[C34_1]
 have e2:(fun u0 u1 u5 u6 H n=>labK (E34_2 cal k m1) (ts (ts (ts (ts Tr.nil 6 u6) 5 u5) 1 u1) 0 u0) H n [])=(C34_2 cal k m1 (R34_1 cal k m1)):=by funext u0 u1 u5 u6 H n; exact h34_2 ..
 rw[e2]
theorem q34_1(k:Nat):∀(m:Nat) (u0 u1 u5 u6:Value) (H:Hp) (n:Nat),labK (E34_1 cal k m) (ts (ts (ts (ts Tr.nil 6 u6) 5 u5) 1 u1) 0 u0) H n []=S34_1 cal k m u0 u1 u5 u6 H n
 | 0,u0,u1,u5,u6,H,n=>by
  rw[h34_1]
  have e:R34_1 cal k 0=fun _ _ _ _ _ _=>none:=by funext u0 u1 u5 u6 H n; kernel_rfl
  rw[e]; rfl
 | m+1,u0,u1,u5,u6,H,n=>by
  rw[h34_1]
  have e:R34_1 cal k (m+1)=S34_1 cal k m:=by
   funext u0 u1 u5 u6 H n
   have e:R34_1 cal k (m+1) u0 u1 u5 u6 H n=labK (E34_1 cal k m) (ts (ts (ts (ts Tr.nil 6 u6) 5 u5) 1 u1) 0 u0) H n []:=by kernel_rfl
   rw[e]; exact q34_1 ..
  rw[e]; rfl
noncomputable def B34_0(cal:Cal)(k:Nat)(j1:V4)(v0 v1:Value)(H:Hp)(n:Nat):Res:=
j1 v0 v1 (.int .i64 0) (.int .i64 0) H n
noncomputable def C34_0(k:Nat)(v0 v1:Value)(H:Hp)(n:Nat):Res:=B34_0 cal k (S34_1 cal k k) v0 v1 H n
theorem h34_0(k:Nat)(v0 v1:Value)(H:Hp)(n:Nat):aY P cal A (k+1) 34 [v0,v1] H n=C34_0 cal k v0 v1 H n:=by
 have h:aY P cal A (k+1) 34 [v0,v1] H n=B34_0 cal k (fun u0 u1 u5 u6 H n=>labK (E34_1 cal k k) (ts (ts (ts (ts Tr.nil 6 u6) 5 u5) 1 u1) 0 u0) H n []) v0 v1 H n:=by
  rw[bY (fn:=Go.Proofs.Try.f34) (c:=zJ) (rs:=jV) (by kernel_rfl) (by kernel_rfl) (by kernel_rfl) (by kernel_rfl)]
  kernel_rfl
 rw[h,C34_0]
 have e1:(fun u0 u1 u5 u6 H n=>labK (E34_1 cal k k) (ts (ts (ts (ts Tr.nil 6 u6) 5 u5) 1 u1) 0 u0) H n [])=(S34_1 cal k k):=by funext u0 u1 u5 u6 H n; exact q34_1 ..
 rw[e1]
noncomputable def code35:Code:=dj 35
noncomputable def Jx:List ResultVar:=fk 35
noncomputable def K35_p:KR:=kD cal k 35 code35 (A 35) (av P Jx) X0 (av P Jx)
noncomputable def K35_pr:KR:=kD cal k 35 (cR code35) (Lb (A 35)) (av P Jx) X0 (av P Jx)
noncomputable def B35_0(cal:Cal)(k:Nat)(v0 v1:Value)(H:Hp)(n:Nat):Res:=
boxK 26 v0 H n fun v_1 H_2 n_3=>
aq (aV v_1) fun a_6=>aq (az P H_2 26 a_6) fun v_5=>
aX P cal 15 [v_5,v1] H_2 n_3 fun v_8 H_9 n_a=>
aQ v_8 true (fun k_c=>
aq (aV v_1) fun a_h=>aq (az P H_9 26 a_h) fun v_g=>
k_c v_g H_9 n_a) H_9 n_a fun v_d H_e n_f=>
aQ v_8 true (fun k_i=>
aX P cal 63 [v_d] H_e n_f fun v_m H_n n_o=>
k_i v_m H_n n_o) H_e n_f fun v_j H_k n_l=>
aQ v_8 true (fun k_p=>
binK P .neq 3 (.tmp 10) (.const (.int .i64 0)) v_j (.int .i64 0) fun v_t=>
k_p v_t H_k n_l) H_k n_l fun v_q H_r n_s=>
aQ v_8 true (fun k_u=>
k_u v_q H_r n_s) H_r n_s fun v_v H_w n_x=>
aQ v_v false (fun k_z=>
aq (aw P 26 v_1 0) fun v_13=>
k_z v_13 H_w n_x) H_w n_x fun v_10 H_11 n_12=>
aQ v_v false (fun k_14=>
aq (aV v_10) fun a_19=>aq (az P H_11 22 a_19) fun v_18=>
k_14 v_18 H_11 n_12) H_11 n_12 fun v_15 H_16 n_17=>
aQ v_v false (fun k_1a=>
aq (lenV P 22 v_15) fun v_1e=>
k_1a v_1e H_16 n_17) H_16 n_17 fun v_1b H_1c n_1d=>
aQ v_v false (fun k_1f=>
binK P .leq 3 (.tmp 15) (.const (.int .i64 6)) v_1b (.int .i64 6) fun v_1j=>
k_1f v_1j H_1c n_1d) H_1c n_1d fun v_1g H_1h n_1i=>
aQ v_8 true (fun k_1k=>
aq (fy v_v (.bool true) v_1g) fun v_1o=>
k_1k v_1o H_1h n_1i) H_1h n_1i fun v_1l H_1m n_1n=>
aq (fy v_8 v_1l (.bool false)) fun v_1p=>
some (v_1p,H_1m,n_1n)
noncomputable def C35_0(k:Nat)(v0 v1:Value)(H:Hp)(n:Nat):Res:=B35_0 cal k v0 v1 H n
theorem h35_0(k:Nat)(v0 v1:Value)(H:Hp)(n:Nat):aY P cal A (k+1) 35 [v0,v1] H n=C35_0 cal k v0 v1 H n:=by
 have h:aY P cal A (k+1) 35 [v0,v1] H n=B35_0 cal k v0 v1 H n:=by
  rw[bY (fn:=Go.Proofs.Try.f35) (c:=code35) (rs:=Jx) (by kernel_rfl) (by kernel_rfl) (by kernel_rfl) (by kernel_rfl)]
  kernel_rfl
 rw[h,C35_0]
noncomputable def Bj:Code:=dj 36
noncomputable def mq:List ResultVar:=fk 36
noncomputable def K36_p:KR:=kD cal k 36 Bj (A 36) (av P mq) X0 (av P mq)
noncomputable def K36_pr:KR:=kD cal k 36 (cR Bj) (Lb (A 36)) (av P mq) X0 (av P mq)
noncomputable def K36_prl:KR:=kD cal k 36 (cL (cR Bj)) (La (Lb (A 36))) (K36_pr cal k) X0 (av P mq)
noncomputable def Bq(k:Nat):XR:=(upX 0 (K36_pr cal k) X0)
noncomputable def Yy(k:Nat)(m1:Nat):KR:=(fun T H n D=>aK P cal m1 (La (Lb (La (Lb (A 36))))) none 36 (cL (cR (cL (cR Bj)))) (K36_pr cal k) (Bq cal k) (av P mq) (cutT (La (Lb (La (Lb (A 36))))).c T) H n D)
noncomputable def K36_prlrll(k:Nat)(m1:Nat):KR:=kD cal m1 36 (cL (cL (cR (cL (cR Bj))))) (La (La (Lb (La (Lb (A 36)))))) (Yy cal k m1) (Bq cal k) (av P mq)
noncomputable def K36_prlrlll(k:Nat)(m1:Nat):KR:=kD cal m1 36 (cL (cL (cL (cR (cL (cR Bj)))))) (La (La (La (Lb (La (Lb (A 36))))))) (K36_prlrll cal k m1) (Bq cal k) (av P mq)
noncomputable def Oz(k:Nat)(m1:Nat):KR:=kD cal m1 36 (cR (cL (cL (cR (cL (cR Bj)))))) (Lb (La (La (Lb (La (Lb (A 36))))))) (Yy cal k m1) (Bq cal k) (av P mq)
noncomputable def K36_pxrlrllrl(k:Nat)(m1:Nat):XR:=(upX 1 (Oz cal k m1) (Bq cal k))
noncomputable def K36_prlrllrll(k:Nat)(m1:Nat):KR:=kD cal m1 36 (cL (cL (cR (cL (cL (cR (cL (cR Bj)))))))) (La (La (Lb (La (La (Lb (La (Lb (A 36))))))))) (Oz cal k m1) (K36_pxrlrllrl cal k m1) (av P mq)
noncomputable def K36_prlrllrllrl(k:Nat)(m1:Nat):KR:=kD cal m1 36 (cL (cR (cL (cL (cR (cL (cL (cR (cL (cR Bj)))))))))) (La (Lb (La (La (Lb (La (La (Lb (La (Lb (A 36))))))))))) (Oz cal k m1) (K36_pxrlrllrl cal k m1) (av P mq)
noncomputable def K36_prr:KR:=kD cal k 36 (cR (cR Bj)) (Lb (Lb (A 36))) (av P mq) X0 (av P mq)
noncomputable def E36_1(k m1:Nat):KR:=cj P cal (aK P cal m1) none 36 (cL (cL (cR (cL (cR Bj))))) (La (La (Lb (La (Lb (A 36)))))) (Yy cal k m1) (Bq cal k) (av P mq)
noncomputable def R36_1(k m1:Nat):V2:=fun u0 u3 H n=>aK P cal m1 (La (Lb (La (Lb (A 36))))) none 36 (cL (cR (cL (cR Bj)))) (K36_pr cal k) (Bq cal k) (av P mq) (ts (ts Tr.nil 3 u3) 0 u0) H n []
noncomputable def B36_1(cal:Cal)(k m1:Nat)(b1:V2)(u0 u3:Value)(H:Hp)(n:Nat):Res:=
aq (lenV P 59 u0) fun v_5=>
binK P .lss 3 (.tmp 4) (.tmp 6) u3 v_5 fun v_6=>
aQ v_6 true (fun k_8=>
k_8 u3 H n) H n fun v_9 H_a n_b=>
aQ v_6 true (fun k_d=>
binK P .lss 3 (.tmp 9) (.const (.int .i64 12)) v_9 (.int .i64 12) fun v_h=>
k_d v_h H_a n_b) H_a n_b fun v_e H_f n_g=>
aq (fy v_6 v_e (.bool false)) fun v_i=>
ifK v_i (
aq (aJ P 59 u0 u3) fun v_l=>
aq (aV v_l) fun a_n=>aq (az P H_f 44 a_n) fun v_m=>
aq (lenV P 44 v_m) fun v_o=>
binK P .gtr 3 (.tmp 18) (.const (.int .i64 11)) v_o (.int .i64 11) fun v_p=>
ifK v_p (
some ((.bool false),H_f,n_g)) (
binK P .add 3 (.tmp 12) (.const (.int .i64 1)) u3 (.int .i64 1) fun v_s=>
b1 u0 v_s H_f n_g)) (
aq (lenV P 59 u0) fun v_v=>
binK P .leq 3 (.tmp 21) (.const (.int .i64 11)) v_v (.int .i64 11) fun v_w=>
some (v_w,H_f,n_g))
noncomputable def C36_1(k m1:Nat)(b1:V2)(u0 u3:Value)(H:Hp)(n:Nat):Res:=B36_1 cal k m1 b1 u0 u3 H n
noncomputable def S36_1(k:Nat):Nat→V2:=fun m=>Nat.rec (motive:=fun _=>V2) (C36_1 cal k 0 (fun _ _ _ _=>none)) (fun m ih=>C36_1 cal k (m+1) ih) m
theorem h36_1(k m1:Nat)(u0 u3:Value)(H:Hp)(n:Nat):labK (E36_1 cal k m1) (ts (ts Tr.nil 3 u3) 0 u0) H n []=C36_1 cal k m1 (R36_1 cal k m1) u0 u3 H n:=by
 refine Eq.trans (b:=B36_1 cal k m1 (R36_1 cal k m1) u0 u3 H n) (by kernel_rfl) ?_
 rw[C36_1]
theorem q36_1(k:Nat):∀(m:Nat) (u0 u3:Value) (H:Hp) (n:Nat),labK (E36_1 cal k m) (ts (ts Tr.nil 3 u3) 0 u0) H n []=S36_1 cal k m u0 u3 H n
 | 0,u0,u3,H,n=>by
  rw[h36_1]
  have e:R36_1 cal k 0=fun _ _ _ _=>none:=by funext u0 u3 H n; kernel_rfl
  rw[e]; rfl
 | m+1,u0,u3,H,n=>by
  rw[h36_1]
  have e:R36_1 cal k (m+1)=S36_1 cal k m:=by
   funext u0 u3 H n
   have e:R36_1 cal k (m+1) u0 u3 H n=labK (E36_1 cal k m) (ts (ts Tr.nil 3 u3) 0 u0) H n []:=by kernel_rfl
   rw[e]; exact q36_1 ..
  rw[e]; rfl
noncomputable def B36_0(cal:Cal)(k:Nat)(j1:V2)(v0:Value)(H:Hp)(n:Nat):Res:=
j1 v0 (.int .i64 0) H n
noncomputable def C36_0(k:Nat)(v0:Value)(H:Hp)(n:Nat):Res:=B36_0 cal k (S36_1 cal k k) v0 H n
theorem h36_0(k:Nat)(v0:Value)(H:Hp)(n:Nat):aY P cal A (k+1) 36 [v0] H n=C36_0 cal k v0 H n:=by
 have h:aY P cal A (k+1) 36 [v0] H n=B36_0 cal k (fun u0 u3 H n=>labK (E36_1 cal k k) (ts (ts Tr.nil 3 u3) 0 u0) H n []) v0 H n:=by
  rw[bY (fn:=Go.Proofs.Try.f36) (c:=Bj) (rs:=mq) (by kernel_rfl) (by kernel_rfl) (by kernel_rfl) (by kernel_rfl)]
  kernel_rfl
 rw[h,C36_0]
 have e1:(fun u0 u3 H n=>labK (E36_1 cal k k) (ts (ts Tr.nil 3 u3) 0 u0) H n [])=(S36_1 cal k k):=by funext u0 u3 H n; exact q36_1 ..
 rw[e1]
noncomputable def FV:Code:=dj 37
noncomputable def kW:List ResultVar:=fk 37
noncomputable def K37_p:KR:=kD cal k 37 FV (A 37) (av P kW) X0 (av P kW)
noncomputable def K37_pr:KR:=kD cal k 37 (cR FV) (Lb (A 37)) (av P kW) X0 (av P kW)
noncomputable def K37_prr:KR:=kD cal k 37 (cR (cR FV)) (Lb (Lb (A 37))) (av P kW) X0 (av P kW)
noncomputable def K37_prrl:KR:=kD cal k 37 (cL (cR (cR FV))) (La (Lb (Lb (A 37)))) (K37_prr cal k) X0 (av P kW)
noncomputable def K37_prrlrl:KR:=kD cal k 37 (cL (cR (cL (cR (cR FV))))) (La (Lb (La (Lb (Lb (A 37)))))) (K37_prr cal k) X0 (av P kW)
noncomputable def K37_prrr:KR:=kD cal k 37 (cR (cR (cR FV))) (Lb (Lb (Lb (A 37)))) (av P kW) X0 (av P kW)
noncomputable def K37_prrrr:KR:=kD cal k 37 (cR (cR (cR (cR FV)))) (Lb (Lb (Lb (Lb (A 37))))) (av P kW) X0 (av P kW)
noncomputable def K37_prrrrl:KR:=kD cal k 37 (cL (cR (cR (cR (cR FV))))) (La (Lb (Lb (Lb (Lb (A 37)))))) (K37_prrrr cal k) X0 (av P kW)
noncomputable def K37_prrrrlrl:KR:=kD cal k 37 (cL (cR (cL (cR (cR (cR (cR FV))))))) (La (Lb (La (Lb (Lb (Lb (Lb (A 37)))))))) (K37_prrrr cal k) X0 (av P kW)
noncomputable def K37_prrrrr:KR:=kD cal k 37 (cR (cR (cR (cR (cR FV))))) (Lb (Lb (Lb (Lb (Lb (A 37)))))) (av P kW) X0 (av P kW)
noncomputable def B37_0(cal:Cal)(k:Nat)(v0 v1:Value)(H:Hp)(n:Nat):Res:=
boxK 35 v0 H n fun v_1 H_2 n_3=>
aq (aV v_1) fun a_7=>aq (az P H_2 35 a_7) fun v_6=>
aX P cal 65 [v_6,v1] H_2 n_3 fun v_9 H_a n_b=>
aq (tupV v_9 0) fun v_d=>
aq (tupV v_9 1) fun v_e=>
aq (tupV v_9 2) fun v_f=>
eQ P 119 H_a n_b fun v_g H_h n_i=>
aq (bX P 119 v_g v_e H_h) fun H_l=>
binK P .neq 29 (.tmp 18) (.const (.int .i64 0)) v_f (.int .i64 0) fun v_o=>
ifK v_o (
some ((Value.tuple ⟨[(.slice none 0 0),v_f]⟩),H_l,n_i)) (
aq (aV v_g) fun a_u=>aq (az P H_l 119 a_u) fun v_t=>
aX P cal 78 [v_d,v_t] H_l n_i fun v_v H_w n_x=>
aq (tupV v_v 0) fun v_z=>
aq (tupV v_v 1) fun v_10=>
aq (dX P v_10 (Op.unary UnOp.not v_10)) fun v_14=>
ifK v_14 (
some ((Value.tuple ⟨[(.slice none 0 0),(.int .i64 9)]⟩),H_w,n_x)) (
some ((Value.tuple ⟨[v_z,(.int .i64 0)]⟩),H_w,n_x)))
noncomputable def C37_0(k:Nat)(v0 v1:Value)(H:Hp)(n:Nat):Res:=B37_0 cal k v0 v1 H n
theorem h37_0(k:Nat)(v0 v1:Value)(H:Hp)(n:Nat):aY P cal A (k+1) 37 [v0,v1] H n=C37_0 cal k v0 v1 H n:=by
 have h:aY P cal A (k+1) 37 [v0,v1] H n=B37_0 cal k v0 v1 H n:=by
  rw[bY (fn:=Go.Proofs.Try.f37) (c:=FV) (rs:=kW) (by kernel_rfl) (by kernel_rfl) (by kernel_rfl) (by kernel_rfl)]
  kernel_rfl
 rw[h,C37_0]
noncomputable def code38:Code:=dj 38
noncomputable def Bv:List ResultVar:=fk 38
noncomputable def K38_p:KR:=kD cal k 38 code38 (A 38) (av P Bv) X0 (av P Bv)
noncomputable def K38_pr:KR:=kD cal k 38 (cR code38) (Lb (A 38)) (av P Bv) X0 (av P Bv)
noncomputable def K38_prr:KR:=kD cal k 38 (cR (cR code38)) (Lb (Lb (A 38))) (av P Bv) X0 (av P Bv)
noncomputable def B38_0(cal:Cal)(k:Nat)(v0 v1 v2:Value)(H:Hp)(n:Nat):Res:=
boxK 35 v0 H n fun v_1 H_2 n_3=>
aq (aV v_1) fun a_6=>aq (az P H_2 35 a_6) fun v_5=>
aX P cal 65 [v_5,v1] H_2 n_3 fun v_8 H_9 n_a=>
aq (tupV v_8 0) fun v_c=>
aq (tupV v_8 1) fun v_d=>
aq (tupV v_8 2) fun v_e=>
eQ P 119 H_9 n_a fun v_f H_g n_h=>
aq (bX P 119 v_f v_d H_g) fun H_k=>
binK P .eql 29 (.tmp 17) (.const (.int .i64 0)) v_e (.int .i64 0) fun v_n=>
aQ v_n true (fun k_p=>
k_p v_c H_k n_h) H_k n_h fun v_q H_r n_s=>
aQ v_n true (fun k_u=>
aq (aV v_f) fun a_z=>aq (az P H_r 119 a_z) fun v_y=>
k_u v_y H_r n_s) H_r n_s fun v_v H_w n_x=>
aQ v_n true (fun k_10=>
k_10 v2 H_w n_x) H_w n_x fun v_11 H_12 n_13=>
aQ v_n true (fun k_15=>
aX P cal 79 [v_q,v_v,v_11] H_12 n_13 fun v_19 H_1a n_1b=>
k_15 v_19 H_1a n_1b) H_12 n_13 fun v_16 H_17 n_18=>
aq (fy v_n v_16 (.bool false)) fun v_1c=>
aQ v_1c true (fun k_1e=>
k_1e v_c H_17 n_18) H_17 n_18 fun v_1f H_1g n_1h=>
aQ v_1c true (fun k_1j=>
k_1j v2 H_1g n_1h) H_1g n_1h fun v_1k H_1l n_1m=>
aQ v_1c true (fun k_1o=>
aX P cal 80 [v_1f,v_1k] H_1l n_1m fun v_1s H_1t n_1u=>
k_1o v_1s H_1t n_1u) H_1l n_1m fun v_1p H_1q n_1r=>
aq (fy v_1c v_1p (.bool false)) fun v_1v=>
some (v_1v,H_1q,n_1r)
noncomputable def C38_0(k:Nat)(v0 v1 v2:Value)(H:Hp)(n:Nat):Res:=B38_0 cal k v0 v1 v2 H n
theorem h38_0(k:Nat)(v0 v1 v2:Value)(H:Hp)(n:Nat):aY P cal A (k+1) 38 [v0,v1,v2] H n=C38_0 cal k v0 v1 v2 H n:=by
 have h:aY P cal A (k+1) 38 [v0,v1,v2] H n=B38_0 cal k v0 v1 v2 H n:=by
  rw[bY (fn:=Go.Proofs.Try.f38) (c:=code38) (rs:=Bv) (by kernel_rfl) (by kernel_rfl) (by kernel_rfl) (by kernel_rfl)]
  kernel_rfl
 rw[h,C38_0]
end Go.Proofs.Ytmjbdjnnojfhkaa.G
