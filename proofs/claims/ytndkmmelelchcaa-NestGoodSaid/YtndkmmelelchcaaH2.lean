/- The texts of functions, each with the proof that the evaluator says the same. -/
import Derived.Test.YtndkmmelelchcaaH1
open Go Go.Ev
set_option maxRecDepth 1000000
set_option linter.unusedVariables false
noncomputable section
namespace Go.Proofs.Ytndkmmelelchcaa.G
noncomputable def xz:Code:=cW 14
noncomputable def gj:List ResultVar:=eX 14
noncomputable def K14_p(cal:Cal)(k:Nat):KR:=(cutK (A 14).c (ay P cal (aw P cal k) none 14 (cR xz) (Lv.b (A 14)) (av P gj) X0 (av P gj)))
noncomputable def K14_pr(cal:Cal)(k:Nat):KR:=(cutK (Lv.b (A 14)).c (ay P cal (aw P cal k) none 14 (cR (cR xz)) (Lv.b (Lv.b (A 14))) (av P gj) X0 (av P gj)))
noncomputable def K14_prl(cal:Cal)(k:Nat):KR:=(cutK (Lv.a (Lv.b (A 14))).c (ay P cal (aw P cal k) none 14 (cR (cL (cR xz))) (Lv.b (Lv.a (Lv.b (A 14)))) (K14_pr cal k) X0 (av P gj)))
noncomputable def K14_prlrl(cal:Cal)(k:Nat):KR:=(cutK (Lv.a (Lv.b (Lv.a (Lv.b (A 14))))).c (ay P cal (aw P cal k) none 14 (cR (cL (cR (cL (cR xz))))) (Lv.b (Lv.a (Lv.b (Lv.a (Lv.b (A 14)))))) (K14_pr cal k) X0 (av P gj)))
noncomputable def K14_prr(cal:Cal)(k:Nat):KR:=(cutK (Lv.b (Lv.b (A 14))).c (ay P cal (aw P cal k) none 14 (cR (cR (cR xz))) (Lv.b (Lv.b (Lv.b (A 14)))) (av P gj) X0 (av P gj)))
noncomputable def K14_prrr(cal:Cal)(k:Nat):KR:=(cutK (Lv.b (Lv.b (Lv.b (A 14)))).c (ay P cal (aw P cal k) none 14 (cR (cR (cR (cR xz)))) (Lv.b (Lv.b (Lv.b (Lv.b (A 14))))) (av P gj) X0 (av P gj)))
noncomputable def K14_prrrr(cal:Cal)(k:Nat):KR:=(cutK (Lv.b (Lv.b (Lv.b (Lv.b (A 14))))).c (ay P cal (aw P cal k) none 14 (cR (cR (cR (cR (cR xz))))) (Lv.b (Lv.b (Lv.b (Lv.b (Lv.b (A 14)))))) (av P gj) X0 (av P gj)))
noncomputable def K14_prrrrl(cal:Cal)(k:Nat):KR:=(cutK (Lv.a (Lv.b (Lv.b (Lv.b (Lv.b (A 14)))))).c (ay P cal (aw P cal k) none 14 (cR (cL (cR (cR (cR (cR xz)))))) (Lv.b (Lv.a (Lv.b (Lv.b (Lv.b (Lv.b (A 14))))))) (K14_prrrr cal k) X0 (av P gj)))
noncomputable def K14_prrrrlrl(cal:Cal)(k:Nat):KR:=(cutK (Lv.a (Lv.b (Lv.a (Lv.b (Lv.b (Lv.b (Lv.b (A 14)))))))).c (ay P cal (aw P cal k) none 14 (cR (cL (cR (cL (cR (cR (cR (cR xz)))))))) (Lv.b (Lv.a (Lv.b (Lv.a (Lv.b (Lv.b (Lv.b (Lv.b (A 14))))))))) (K14_prrrr cal k) X0 (av P gj)))
noncomputable def K14_prrrrr(cal:Cal)(k:Nat):KR:=(cutK (Lv.b (Lv.b (Lv.b (Lv.b (Lv.b (A 14)))))).c (ay P cal (aw P cal k) none 14 (cR (cR (cR (cR (cR (cR xz)))))) (Lv.b (Lv.b (Lv.b (Lv.b (Lv.b (Lv.b (A 14))))))) (av P gj) X0 (av P gj)))
noncomputable def K14_prrrrrl(cal:Cal)(k:Nat):KR:=(cutK (Lv.a (Lv.b (Lv.b (Lv.b (Lv.b (Lv.b (A 14))))))).c (ay P cal (aw P cal k) none 14 (cR (cL (cR (cR (cR (cR (cR xz))))))) (Lv.b (Lv.a (Lv.b (Lv.b (Lv.b (Lv.b (Lv.b (A 14)))))))) (K14_prrrrr cal k) X0 (av P gj)))
noncomputable def K14_prrrrrlrl(cal:Cal)(k:Nat):KR:=(cutK (Lv.a (Lv.b (Lv.a (Lv.b (Lv.b (Lv.b (Lv.b (Lv.b (A 14))))))))).c (ay P cal (aw P cal k) none 14 (cR (cL (cR (cL (cR (cR (cR (cR (cR xz))))))))) (Lv.b (Lv.a (Lv.b (Lv.a (Lv.b (Lv.b (Lv.b (Lv.b (Lv.b (A 14)))))))))) (K14_prrrrr cal k) X0 (av P gj)))
noncomputable def K14_prrrrrr(cal:Cal)(k:Nat):KR:=(cutK (Lv.b (Lv.b (Lv.b (Lv.b (Lv.b (Lv.b (A 14))))))).c (ay P cal (aw P cal k) none 14 (cR (cR (cR (cR (cR (cR (cR xz))))))) (Lv.b (Lv.b (Lv.b (Lv.b (Lv.b (Lv.b (Lv.b (A 14)))))))) (av P gj) X0 (av P gj)))
noncomputable def B14_0(cal:Cal)(k:Nat)(v0 v1:Value)(H:Hp)(n:Nat):Res:=
boxK 26 v0 H n fun v_1 H_2 n_3=>
aq (aW v_1) fun a_6=>aq (az P H_2 26 a_6) fun v_5=>
aY P cal 55 [v_5,v1] H_2 n_3 fun v_8 H_9 n_a=>
aq (fY P v_8 (Op.unary UnOp.not v_8)) fun v_b=>
ifK v_b (
aY P cal 16 [] H_9 n_a fun v_c H_d n_e=>
some (v_c,H_d,n_e)) (
aq (aW v_1) fun a_h=>aq (az P H_9 26 a_h) fun v_g=>
aY P cal 18 [v_g] H_9 n_a fun v_i H_j n_k=>
aY P cal 23 [v1] H_j n_k fun v_m H_n n_o=>
aY P cal 37 [v_i,v_m] H_n n_o fun v_p H_q n_r=>
aq (tupV v_p 0) fun v_t=>
aq (tupV v_p 1) fun v_u=>
aq (aW v_1) fun a_y=>aq (az P H_q 26 a_y) fun v_x=>
aY P cal 18 [v_x] H_q n_r fun v_z H_10 n_11=>
aY P cal 23 [v1] H_10 n_11 fun v_13 H_14 n_15=>
aY P cal 24 [v_z,v_13] H_14 n_15 fun v_16 H_17 n_18=>
aq (tupV v_16 0) fun v_1a=>
aq (tupV v_16 1) fun v_1b=>
aq (tupV v_16 2) fun v_1c=>
binK P .neq 29 (.tmp 32) (.const (.int .i64 0)) v_1c (.int .i64 0) fun v_1h=>
ifK v_1h (
some ((.bool false),H_17,n_18)) (
binK P .neq 29 (.tmp 34) (.const (.int .i64 0)) v_u (.int .i64 0) fun v_1k=>
ifK v_1k (
binK P .eql 29 (.tmp 36) (.const (.int .i64 9)) v_u (.int .i64 9) fun v_1m=>
aX v_1m true (fun k_1o=>
k_1o v_1a H_17 n_18) H_17 n_18 fun v_1p H_1q n_1r=>
aX v_1m true (fun k_1t=>
aq (lenV P 44 v_1p) fun v_1x=>
k_1t v_1x H_1q n_1r) H_1q n_1r fun v_1u H_1v n_1w=>
aX v_1m true (fun k_1y=>
k_1y v_1b H_1v n_1w) H_1v n_1w fun v_1z H_20 n_21=>
aX v_1m true (fun k_23=>
aq (lenV P 44 v_1z) fun v_27=>
k_23 v_27 H_20 n_21) H_20 n_21 fun v_24 H_25 n_26=>
aX v_1m true (fun k_28=>
binK P .add 3 (.tmp 40) (.tmp 42) v_1u v_24 fun v_2c=>
k_28 v_2c H_25 n_26) H_25 n_26 fun v_29 H_2a n_2b=>
aX v_1m true (fun k_2d=>
binK P .gtr 3 (.tmp 43) (.const (.int .i64 0)) v_29 (.int .i64 0) fun v_2h=>
k_2d v_2h H_2a n_2b) H_2a n_2b fun v_2e H_2f n_2g=>
aq (fJ v_1m v_2e (.bool false)) fun v_2i=>
aX v_2i true (fun k_2k=>
k_2k v_t H_2f n_2g) H_2f n_2g fun v_2l H_2m n_2n=>
aX v_2i true (fun k_2p=>
aq (lenV P 59 v_2l) fun v_2t=>
k_2p v_2t H_2m n_2n) H_2m n_2n fun v_2q H_2r n_2s=>
aX v_2i true (fun k_2u=>
binK P .eql 3 (.tmp 48) (.const (.int .i64 0)) v_2q (.int .i64 0) fun v_2y=>
k_2u v_2y H_2r n_2s) H_2r n_2s fun v_2v H_2w n_2x=>
aq (fJ v_2i v_2v (.bool false)) fun v_2z=>
aX v_2z true (fun k_31=>
aY P cal 16 [] H_2w n_2x fun v_35 H_36 n_37=>
k_31 v_35 H_36 n_37) H_2w n_2x fun v_32 H_33 n_34=>
aq (fJ v_2z v_32 (.bool false)) fun v_38=>
some (v_38,H_33,n_34)) (
aq (aW v_1) fun a_3b=>aq (az P H_17 26 a_3b) fun v_3a=>
aY P cal 18 [v_3a] H_17 n_18 fun v_3c H_3d n_3e=>
aY P cal 23 [v1] H_3d n_3e fun v_3g H_3h n_3i=>
aY P cal 38 [v_3c,v_3g,v_t] H_3h n_3i fun v_3k H_3l n_3m=>
aX v_3k true (fun k_3o=>
aq (aW v_1) fun a_3t=>aq (az P H_3l 26 a_3t) fun v_3s=>
k_3o v_3s H_3l n_3m) H_3l n_3m fun v_3p H_3q n_3r=>
aX v_3k true (fun k_3u=>
k_3u v_t H_3q n_3r) H_3q n_3r fun v_3v H_3w n_3x=>
aX v_3k true (fun k_3z=>
aY P cal 40 [v_3p,v_3v] H_3w n_3x fun v_43 H_44 n_45=>
k_3z v_43 H_44 n_45) H_3w n_3x fun v_40 H_41 n_42=>
aq (fJ v_3k v_40 (.bool false)) fun v_46=>
aX v_46 true (fun k_48=>
aY P cal 16 [] H_41 n_42 fun v_4c H_4d n_4e=>
k_48 v_4c H_4d n_4e) H_41 n_42 fun v_49 H_4a n_4b=>
aq (fJ v_46 v_49 (.bool false)) fun v_4f=>
some (v_4f,H_4a,n_4b))))
noncomputable def C14_0(cal:Cal)(k:Nat)(v0 v1:Value)(H:Hp)(n:Nat):Res:=B14_0 cal k v0 v1 H n
theorem h14_0(cal:Cal)(k:Nat)(v0 v1:Value)(H:Hp)(n:Nat):aK P cal A (k+1) 14 [v0,v1] H n=C14_0 cal k v0 v1 H n:=by
 have h:aK P cal A (k+1) 14 [v0,v1] H n=B14_0 cal k v0 v1 H n:=by
  rw[bX (fn:=Go.Proofs.Try.f14) (c:=xz) (rs:=gj) (by kernel_rfl) (by kernel_rfl) (by kernel_rfl) (by kernel_rfl)]
  kernel_rfl
 rw[h,C14_0]
noncomputable def code15:Code:=cW 15
noncomputable def HV:List ResultVar:=eX 15
noncomputable def K15_p(cal:Cal)(k:Nat):KR:=(cutK (A 15).c (ay P cal (aw P cal k) none 15 (cR code15) (Lv.b (A 15)) (av P HV) X0 (av P HV)))
noncomputable def K15_pr(cal:Cal)(k:Nat):KR:=(cutK (Lv.b (A 15)).c (ay P cal (aw P cal k) none 15 (cR (cR code15)) (Lv.b (Lv.b (A 15))) (av P HV) X0 (av P HV)))
noncomputable def B15_0(cal:Cal)(k:Nat)(v0 v1:Value)(H:Hp)(n:Nat):Res:=
boxK 26 v0 H n fun v_1 H_2 n_3=>
aq (ax P 26 v_1 0) fun v_5=>
aq (aW v_5) fun a_7=>aq (az P H_2 22 a_7) fun v_6=>
aq (lenV P 22 v_6) fun v_8=>
binK P .leq 3 (.tmp 7) (.const (.int .i64 11)) v_8 (.int .i64 11) fun v_9=>
aX v_9 true (fun k_b=>
aq (ax P 26 v_1 1) fun v_f=>
k_b v_f H_2 n_3) H_2 n_3 fun v_c H_d n_e=>
aX v_9 true (fun k_g=>
aq (aW v_c) fun a_l=>aq (az P H_d 23 a_l) fun v_k=>
k_g v_k H_d n_e) H_d n_e fun v_h H_i n_j=>
aX v_9 true (fun k_m=>
aq (lenV P 23 v_h) fun v_q=>
k_m v_q H_i n_j) H_i n_j fun v_n H_o n_p=>
aX v_9 true (fun k_r=>
binK P .leq 3 (.tmp 12) (.const (.int .i64 19)) v_n (.int .i64 19) fun v_v=>
k_r v_v H_o n_p) H_o n_p fun v_s H_t n_u=>
aq (fJ v_9 v_s (.bool false)) fun v_w=>
aX v_w true (fun k_y=>
aq (ax P 26 v_1 2) fun v_12=>
k_y v_12 H_t n_u) H_t n_u fun v_z H_10 n_11=>
aX v_w true (fun k_13=>
aq (aW v_z) fun a_18=>aq (az P H_10 24 a_18) fun v_17=>
k_13 v_17 H_10 n_11) H_10 n_11 fun v_14 H_15 n_16=>
aX v_w true (fun k_19=>
aq (lenV P 24 v_14) fun v_1d=>
k_19 v_1d H_15 n_16) H_15 n_16 fun v_1a H_1b n_1c=>
aX v_w true (fun k_1e=>
binK P .leq 3 (.tmp 18) (.const (.int .i64 6)) v_1a (.int .i64 6) fun v_1i=>
k_1e v_1i H_1b n_1c) H_1b n_1c fun v_1f H_1g n_1h=>
aq (fJ v_w v_1f (.bool false)) fun v_1j=>
aX v_1j true (fun k_1l=>
k_1l v1 H_1g n_1h) H_1g n_1h fun v_1m H_1n n_1o=>
aX v_1j true (fun k_1q=>
aq (lenV P 44 v_1m) fun v_1u=>
k_1q v_1u H_1n n_1o) H_1n n_1o fun v_1r H_1s n_1t=>
aX v_1j true (fun k_1v=>
binK P .leq 3 (.tmp 23) (.const (.int .i64 11)) v_1r (.int .i64 11) fun v_1z=>
k_1v v_1z H_1s n_1t) H_1s n_1t fun v_1w H_1x n_1y=>
aq (fJ v_1j v_1w (.bool false)) fun v_20=>
some (v_20,H_1x,n_1y)
noncomputable def C15_0(cal:Cal)(k:Nat)(v0 v1:Value)(H:Hp)(n:Nat):Res:=B15_0 cal k v0 v1 H n
theorem h15_0(cal:Cal)(k:Nat)(v0 v1:Value)(H:Hp)(n:Nat):aK P cal A (k+1) 15 [v0,v1] H n=C15_0 cal k v0 v1 H n:=by
 have h:aK P cal A (k+1) 15 [v0,v1] H n=B15_0 cal k v0 v1 H n:=by
  rw[bX (fn:=Go.Proofs.Try.f15) (c:=code15) (rs:=HV) (by kernel_rfl) (by kernel_rfl) (by kernel_rfl) (by kernel_rfl)]
  kernel_rfl
 rw[h,C15_0]
noncomputable def kz:Code:=cW 18
noncomputable def ck:List ResultVar:=eX 18
noncomputable def K18_p(cal:Cal)(k:Nat):KR:=(cutK (A 18).c (ay P cal (aw P cal k) none 18 (cR kz) (Lv.b (A 18)) (av P ck) X0 (av P ck)))
noncomputable def K18_pr(cal:Cal)(k:Nat):KR:=(cutK (Lv.b (A 18)).c (ay P cal (aw P cal k) none 18 (cR (cR kz)) (Lv.b (Lv.b (A 18))) (av P ck) X0 (av P ck)))
noncomputable def qdz(cal:Cal)(k:Nat):KR:=(cutK (Lv.b (Lv.b (A 18))).c (ay P cal (aw P cal k) none 18 (cR (cR (cR kz))) (Lv.b (Lv.b (Lv.b (A 18)))) (av P ck) X0 (av P ck)))
noncomputable def K18_prrl(cal:Cal)(k:Nat):KR:=(cutK (Lv.a (Lv.b (Lv.b (A 18)))).c (ay P cal (aw P cal k) none 18 (cR (cL (cR (cR kz)))) (Lv.b (Lv.a (Lv.b (Lv.b (A 18))))) (qdz cal k) X0 (av P ck)))
noncomputable def vW(cal:Cal)(k:Nat):XR:=(upX 0 (qdz cal k) X0)
noncomputable def SJ(cal:Cal)(k:Nat)(m1:Nat):KR:=(fun T H n D=>aw P cal m1 (Lv.a (Lv.b (Lv.a (Lv.b (Lv.b (A 18)))))) none 18 (cL (cR (cL (cR (cR kz))))) (qdz cal k) (vW cal k) (av P ck) (cutT (Lv.a (Lv.b (Lv.a (Lv.b (Lv.b (A 18)))))).c T) H n D)
noncomputable def K18_prrlrll(cal:Cal)(k:Nat)(m1:Nat):KR:=(cutK (Lv.a (Lv.a (Lv.b (Lv.a (Lv.b (Lv.b (A 18))))))).c (ay P cal (aw P cal m1) none 18 (cR (cL (cL (cR (cL (cR (cR kz))))))) (Lv.b (Lv.a (Lv.a (Lv.b (Lv.a (Lv.b (Lv.b (A 18)))))))) (SJ cal k m1) (vW cal k) (av P ck)))
noncomputable def K18_prrlrlll(cal:Cal)(k:Nat)(m1:Nat):KR:=(cutK (Lv.a (Lv.a (Lv.a (Lv.b (Lv.a (Lv.b (Lv.b (A 18)))))))).c (ay P cal (aw P cal m1) none 18 (cR (cL (cL (cL (cR (cL (cR (cR kz)))))))) (Lv.b (Lv.a (Lv.a (Lv.a (Lv.b (Lv.a (Lv.b (Lv.b (A 18))))))))) (K18_prrlrll cal k m1) (vW cal k) (av P ck)))
noncomputable def K18_prrlrllr(cal:Cal)(k:Nat)(m1:Nat):KR:=(cutK (Lv.b (Lv.a (Lv.a (Lv.b (Lv.a (Lv.b (Lv.b (A 18)))))))).c (ay P cal (aw P cal m1) none 18 (cR (cR (cL (cL (cR (cL (cR (cR kz)))))))) (Lv.b (Lv.b (Lv.a (Lv.a (Lv.b (Lv.a (Lv.b (Lv.b (A 18))))))))) (SJ cal k m1) (vW cal k) (av P ck)))
noncomputable def K18_pxrrlrllrl(cal:Cal)(k:Nat)(m1:Nat):XR:=(upX 1 (K18_prrlrllr cal k m1) (vW cal k))
noncomputable def UV(cal:Cal)(k:Nat):KR:=(cutK (Lv.b (Lv.b (Lv.b (A 18)))).c (ay P cal (aw P cal k) none 18 (cR (cR (cR (cR kz)))) (Lv.b (Lv.b (Lv.b (Lv.b (A 18))))) (av P ck) X0 (av P ck)))
noncomputable def K18_prrrl(cal:Cal)(k:Nat):KR:=(cutK (Lv.a (Lv.b (Lv.b (Lv.b (A 18))))).c (ay P cal (aw P cal k) none 18 (cR (cL (cR (cR (cR kz))))) (Lv.b (Lv.a (Lv.b (Lv.b (Lv.b (A 18)))))) (UV cal k) X0 (av P ck)))
noncomputable def sK(cal:Cal)(k:Nat):XR:=(upX 2 (UV cal k) X0)
noncomputable def Nq(cal:Cal)(k:Nat)(m1:Nat):KR:=(fun T H n D=>aw P cal m1 (Lv.a (Lv.b (Lv.a (Lv.b (Lv.b (Lv.b (A 18))))))) none 18 (cL (cR (cL (cR (cR (cR kz)))))) (UV cal k) (sK cal k) (av P ck) (cutT (Lv.a (Lv.b (Lv.a (Lv.b (Lv.b (Lv.b (A 18))))))).c T) H n D)
noncomputable def K18_prrrlrll(cal:Cal)(k:Nat)(m1:Nat):KR:=(cutK (Lv.a (Lv.a (Lv.b (Lv.a (Lv.b (Lv.b (Lv.b (A 18)))))))).c (ay P cal (aw P cal m1) none 18 (cR (cL (cL (cR (cL (cR (cR (cR kz)))))))) (Lv.b (Lv.a (Lv.a (Lv.b (Lv.a (Lv.b (Lv.b (Lv.b (A 18))))))))) (Nq cal k m1) (sK cal k) (av P ck)))
noncomputable def K18_prrrlrlll(cal:Cal)(k:Nat)(m1:Nat):KR:=(cutK (Lv.a (Lv.a (Lv.a (Lv.b (Lv.a (Lv.b (Lv.b (Lv.b (A 18))))))))).c (ay P cal (aw P cal m1) none 18 (cR (cL (cL (cL (cR (cL (cR (cR (cR kz))))))))) (Lv.b (Lv.a (Lv.a (Lv.a (Lv.b (Lv.a (Lv.b (Lv.b (Lv.b (A 18)))))))))) (K18_prrrlrll cal k m1) (sK cal k) (av P ck)))
noncomputable def K18_prrrlrllr(cal:Cal)(k:Nat)(m1:Nat):KR:=(cutK (Lv.b (Lv.a (Lv.a (Lv.b (Lv.a (Lv.b (Lv.b (Lv.b (A 18))))))))).c (ay P cal (aw P cal m1) none 18 (cR (cR (cL (cL (cR (cL (cR (cR (cR kz))))))))) (Lv.b (Lv.b (Lv.a (Lv.a (Lv.b (Lv.a (Lv.b (Lv.b (Lv.b (A 18)))))))))) (Nq cal k m1) (sK cal k) (av P ck)))
noncomputable def K18_pxrrrlrllrl(cal:Cal)(k:Nat)(m1:Nat):XR:=(upX 3 (K18_prrrlrllr cal k m1) (sK cal k))
noncomputable def Pz(cal:Cal)(k:Nat):KR:=(cutK (Lv.b (Lv.b (Lv.b (Lv.b (A 18))))).c (ay P cal (aw P cal k) none 18 (cR (cR (cR (cR (cR kz))))) (Lv.b (Lv.b (Lv.b (Lv.b (Lv.b (A 18)))))) (av P ck) X0 (av P ck)))
noncomputable def K18_prrrrl(cal:Cal)(k:Nat):KR:=(cutK (Lv.a (Lv.b (Lv.b (Lv.b (Lv.b (A 18)))))).c (ay P cal (aw P cal k) none 18 (cR (cL (cR (cR (cR (cR kz)))))) (Lv.b (Lv.a (Lv.b (Lv.b (Lv.b (Lv.b (A 18))))))) (Pz cal k) X0 (av P ck)))
noncomputable def qQ(cal:Cal)(k:Nat):XR:=(upX 4 (Pz cal k) X0)
noncomputable def JY(cal:Cal)(k:Nat)(m1:Nat):KR:=(fun T H n D=>aw P cal m1 (Lv.a (Lv.b (Lv.a (Lv.b (Lv.b (Lv.b (Lv.b (A 18)))))))) none 18 (cL (cR (cL (cR (cR (cR (cR kz))))))) (Pz cal k) (qQ cal k) (av P ck) (cutT (Lv.a (Lv.b (Lv.a (Lv.b (Lv.b (Lv.b (Lv.b (A 18)))))))).c T) H n D)
noncomputable def K18_prrrrlrll(cal:Cal)(k:Nat)(m1:Nat):KR:=(cutK (Lv.a (Lv.a (Lv.b (Lv.a (Lv.b (Lv.b (Lv.b (Lv.b (A 18))))))))).c (ay P cal (aw P cal m1) none 18 (cR (cL (cL (cR (cL (cR (cR (cR (cR kz))))))))) (Lv.b (Lv.a (Lv.a (Lv.b (Lv.a (Lv.b (Lv.b (Lv.b (Lv.b (A 18)))))))))) (JY cal k m1) (qQ cal k) (av P ck)))
noncomputable def K18_prrrrlrlll(cal:Cal)(k:Nat)(m1:Nat):KR:=(cutK (Lv.a (Lv.a (Lv.a (Lv.b (Lv.a (Lv.b (Lv.b (Lv.b (Lv.b (A 18)))))))))).c (ay P cal (aw P cal m1) none 18 (cR (cL (cL (cL (cR (cL (cR (cR (cR (cR kz)))))))))) (Lv.b (Lv.a (Lv.a (Lv.a (Lv.b (Lv.a (Lv.b (Lv.b (Lv.b (Lv.b (A 18))))))))))) (K18_prrrrlrll cal k m1) (qQ cal k) (av P ck)))
noncomputable def K18_prrrrlrllr(cal:Cal)(k:Nat)(m1:Nat):KR:=(cutK (Lv.b (Lv.a (Lv.a (Lv.b (Lv.a (Lv.b (Lv.b (Lv.b (Lv.b (A 18)))))))))).c (ay P cal (aw P cal m1) none 18 (cR (cR (cL (cL (cR (cL (cR (cR (cR (cR kz)))))))))) (Lv.b (Lv.b (Lv.a (Lv.a (Lv.b (Lv.a (Lv.b (Lv.b (Lv.b (Lv.b (A 18))))))))))) (JY cal k m1) (qQ cal k) (av P ck)))
noncomputable def K18_pxrrrrlrllrl(cal:Cal)(k:Nat)(m1:Nat):XR:=(upX 5 (K18_prrrrlrllr cal k m1) (qQ cal k))
noncomputable def K18_prrrrlrllrll(cal:Cal)(k:Nat)(m1:Nat):KR:=(cutK (Lv.a (Lv.a (Lv.b (Lv.a (Lv.a (Lv.b (Lv.a (Lv.b (Lv.b (Lv.b (Lv.b (A 18)))))))))))).c (ay P cal (aw P cal m1) none 18 (cR (cL (cL (cR (cL (cL (cR (cL (cR (cR (cR (cR kz)))))))))))) (Lv.b (Lv.a (Lv.a (Lv.b (Lv.a (Lv.a (Lv.b (Lv.a (Lv.b (Lv.b (Lv.b (Lv.b (A 18))))))))))))) (K18_prrrrlrllr cal k m1) (K18_pxrrrrlrllrl cal k m1) (av P ck)))
noncomputable def K18_prrrrr(cal:Cal)(k:Nat):KR:=(cutK (Lv.b (Lv.b (Lv.b (Lv.b (Lv.b (A 18)))))).c (ay P cal (aw P cal k) none 18 (cR (cR (cR (cR (cR (cR kz)))))) (Lv.b (Lv.b (Lv.b (Lv.b (Lv.b (Lv.b (A 18))))))) (av P ck) X0 (av P ck)))
noncomputable def E18_3(cal:Cal)(k m1:Nat):KR:=ay P cal (aw P cal m1) none 18 (cL (cL (cR (cL (cR (cR (cR (cR kz)))))))) (Lv.a (Lv.a (Lv.b (Lv.a (Lv.b (Lv.b (Lv.b (Lv.b (A 18))))))))) (JY cal k m1) (qQ cal k) (av P ck)
noncomputable def R18_3(cal:Cal)(k m1:Nat):V4:=fun u1 u2 u3 u6 H n=>aw P cal m1 (Lv.a (Lv.b (Lv.a (Lv.b (Lv.b (Lv.b (Lv.b (A 18)))))))) none 18 (cL (cR (cL (cR (cR (cR (cR kz))))))) (Pz cal k) (qQ cal k) (av P ck) (Tr.set (Tr.set (Tr.set (Tr.set Tr.nil 6 (some u6)) 3 (some u3)) 2 (some u2)) 1 (some u1)) H n []
noncomputable def E18_2(cal:Cal)(k m1:Nat):KR:=ay P cal (aw P cal m1) none 18 (cL (cL (cR (cL (cR (cR (cR kz))))))) (Lv.a (Lv.a (Lv.b (Lv.a (Lv.b (Lv.b (Lv.b (A 18)))))))) (Nq cal k m1) (sK cal k) (av P ck)
noncomputable def R18_2(cal:Cal)(k m1:Nat):V4:=fun u1 u2 u3 u5 H n=>aw P cal m1 (Lv.a (Lv.b (Lv.a (Lv.b (Lv.b (Lv.b (A 18))))))) none 18 (cL (cR (cL (cR (cR (cR kz)))))) (UV cal k) (sK cal k) (av P ck) (Tr.set (Tr.set (Tr.set (Tr.set Tr.nil 5 (some u5)) 3 (some u3)) 2 (some u2)) 1 (some u1)) H n []
noncomputable def E18_1(cal:Cal)(k m1:Nat):KR:=ay P cal (aw P cal m1) none 18 (cL (cL (cR (cL (cR (cR kz)))))) (Lv.a (Lv.a (Lv.b (Lv.a (Lv.b (Lv.b (A 18))))))) (SJ cal k m1) (vW cal k) (av P ck)
noncomputable def R18_1(cal:Cal)(k m1:Nat):V4:=fun u1 u2 u3 u4 H n=>aw P cal m1 (Lv.a (Lv.b (Lv.a (Lv.b (Lv.b (A 18)))))) none 18 (cL (cR (cL (cR (cR kz))))) (qdz cal k) (vW cal k) (av P ck) (Tr.set (Tr.set (Tr.set (Tr.set Tr.nil 4 (some u4)) 3 (some u3)) 2 (some u2)) 1 (some u1)) H n []
noncomputable def B18_3(cal:Cal)(k m1:Nat)(b3:V4)(u1 u2 u3 u6:Value)(H:Hp)(n:Nat):Res:=
aq (ax P 26 u1 2) fun v_2i=>
aq (aW v_2i) fun a_2k=>aq (az P H 24 a_2k) fun v_2j=>
aq (lenV P 24 v_2j) fun v_2l=>
binK P .lss 3 (.tmp 58) (.tmp 61) u6 v_2l fun v_2m=>
ifK v_2m (
aq (ax P 26 u1 2) fun v_2n=>
aq (aW v_2n) fun a_2p=>aq (az P H 24 a_2p) fun v_2o=>
aq (aV P 24 v_2o u6) fun v_2r=>
aq (aW v_2r) fun a_2t=>aq (az P H 94 a_2t) fun v_2s=>
dj P 94 H n fun v_2u H_2v n_2w=>
aq (bV P 94 v_2u v_2s H_2v) fun H_2y=>
aq (ax P 35 u3 2) fun v_2z=>
aq (aW v_2z) fun a_30=>aq (az P H_2y 33 a_30) fun v_31=>
aq (ax P 94 v_2u 0) fun v_32=>
aq (aW v_32) fun a_33=>aq (az P H_2y 3 a_33) fun v_34=>
aq (ax P 94 v_2u 1) fun v_35=>
aq (aW v_35) fun a_36=>aq (az P H_2y 55 a_36) fun v_37=>
aq (ax P 94 v_2u 2) fun v_38=>
aq (aW v_38) fun a_39=>aq (az P H_2y 55 a_39) fun v_3a=>
effK P [(.l 55 a_39),(.l 3 a_33),(.l 33 a_30)] H_2y n_2w (fun H_3b n_3c k_3d=>
aY P cal 26 [v_37] H_3b n_3c fun v_3h H_3i n_3j=>
k_3d v_3h H_3i n_3j) fun v_3e H_3f n_3g=>
effK P [(.l 3 a_33),(.l 33 a_30)] H_3f n_3g (fun H_3k n_3l k_3m=>
aY P cal 26 [v_3a] H_3k n_3l fun v_3q H_3r n_3s=>
k_3m v_3q H_3r n_3s) fun v_3n H_3o n_3p=>
aq (fw P 86 [(0,v_34),(1,v_3e),(2,v_3n)]) fun v_3t=>
aq (yz P 33 1 [(0,v_3t)]) fun q_3w=>newK q_3w.1 q_3w.2 H_3o n_3p fun H_3u n_3v=>
stK (kv P (bare H_3u n_3v) 33 33 v_31 (.slice (some ⟨n_3p,0,none⟩) 1 1)) fun v_3x H_3y n_3z=>
aq (ax P 35 u3 2) fun v_40=>
aq (bV P 33 v_40 v_3x H_3y) fun H_42=>
binK P .add 3 (.tmp 63) (.const (.int .i64 1)) u6 (.int .i64 1) fun v_44=>
b3 u1 u2 u3 v_44 H_42 n_3z) (
aq (aW u3) fun a_47=>aq (az P H 35 a_47) fun v_46=>
aq (bV P 35 u2 v_46 H) fun H_49=>
aq (resV P (Tr.set Tr.nil 2 (some u2)) H_49 ck) fun v_4a=>some (oneV v_4a,H_49,n))
noncomputable def C18_3(cal:Cal)(k m1:Nat)(b3:V4)(u1 u2 u3 u6:Value)(H:Hp)(n:Nat):Res:=B18_3 cal k m1 b3 u1 u2 u3 u6 H n
noncomputable def S18_3(cal:Cal)(k:Nat):Nat→V4:=fun m=>Nat.rec (motive:=fun _=>V4) (C18_3 cal k 0 (fun _ _ _ _ _ _=>none)) (fun m ih=>C18_3 cal k (m+1) ih) m
theorem h18_3(cal:Cal)(k m1:Nat)(u1 u2 u3 u6:Value)(H:Hp)(n:Nat):labK (E18_3 cal k m1) (Tr.set (Tr.set (Tr.set (Tr.set Tr.nil 6 (some u6)) 3 (some u3)) 2 (some u2)) 1 (some u1)) H n []=C18_3 cal k m1 (R18_3 cal k m1) u1 u2 u3 u6 H n:=by
 refine Eq.trans (b:=B18_3 cal k m1 (R18_3 cal k m1) u1 u2 u3 u6 H n) (by kernel_rfl) ?_
 rw[C18_3]
theorem q18_3(cal:Cal)(k:Nat):∀(m:Nat) (u1 u2 u3 u6:Value) (H:Hp) (n:Nat),labK (E18_3 cal k m) (Tr.set (Tr.set (Tr.set (Tr.set Tr.nil 6 (some u6)) 3 (some u3)) 2 (some u2)) 1 (some u1)) H n []=S18_3 cal k m u1 u2 u3 u6 H n
 | 0,u1,u2,u3,u6,H,n=>by
  rw[h18_3]
  have e:R18_3 cal k 0=fun _ _ _ _ _ _=>none:=by funext u1 u2 u3 u6 H n; kernel_rfl
  rw[e]; rfl
 | m+1,u1,u2,u3,u6,H,n=>by
  rw[h18_3]
  have e:R18_3 cal k (m+1)=S18_3 cal k m:=by
   funext u1 u2 u3 u6 H n
   have e:R18_3 cal k (m+1) u1 u2 u3 u6 H n=labK (E18_3 cal k m) (Tr.set (Tr.set (Tr.set (Tr.set Tr.nil 6 (some u6)) 3 (some u3)) 2 (some u2)) 1 (some u1)) H n []:=by kernel_rfl
   rw[e]; exact q18_3 ..
  rw[e]; rfl
noncomputable def B18_2(cal:Cal)(k m1:Nat)(j3:V4)(b2:V4)(u1 u2 u3 u5:Value)(H:Hp)(n:Nat):Res:=
aq (ax P 26 u1 1) fun v_1f=>
aq (aW v_1f) fun a_1h=>aq (az P H 23 a_1h) fun v_1g=>
aq (lenV P 23 v_1g) fun v_1i=>
binK P .lss 3 (.tmp 33) (.tmp 36) u5 v_1i fun v_1j=>
ifK v_1j (
aq (ax P 35 u3 1) fun v_1k=>
aq (aW v_1k) fun a_1l=>aq (az P H 32 a_1l) fun v_1m=>
aq (ax P 26 u1 1) fun v_1n=>
aq (aW v_1n) fun a_1o=>aq (az P H 23 a_1o) fun v_1p=>
aq (aV P 23 v_1p u5) fun v_1r=>
aq (ax P 102 v_1r 0) fun v_1s=>
aq (aW v_1s) fun a_1t=>aq (az P H 3 a_1t) fun v_1u=>
aq (ax P 26 u1 1) fun v_1v=>
aq (aW v_1v) fun a_1w=>aq (az P H 23 a_1w) fun v_1x=>
aq (aV P 23 v_1x u5) fun v_1z=>
aq (ax P 102 v_1z 1) fun v_20=>
aq (aW v_20) fun a_21=>aq (az P H 3 a_21) fun v_22=>
aq (fw P 88 [(0,v_1u),(1,v_22)]) fun v_23=>
aq (yz P 32 1 [(0,v_23)]) fun q_26=>newK q_26.1 q_26.2 H n fun H_24 n_25=>
stK (kv P (bare H_24 n_25) 32 32 v_1m (.slice (some ⟨n,0,none⟩) 1 1)) fun v_27 H_28 n_29=>
aq (ax P 35 u3 1) fun v_2a=>
aq (bV P 32 v_2a v_27 H_28) fun H_2c=>
binK P .add 3 (.tmp 38) (.const (.int .i64 1)) u5 (.int .i64 1) fun v_2e=>
b2 u1 u2 u3 v_2e H_2c n_29) (
j3 u1 u2 u3 (.int .i64 0) H n)
noncomputable def C18_2(cal:Cal)(k m1:Nat)(b2:V4)(u1 u2 u3 u5:Value)(H:Hp)(n:Nat):Res:=B18_2 cal k m1 (S18_3 cal k k) b2 u1 u2 u3 u5 H n
noncomputable def S18_2(cal:Cal)(k:Nat):Nat→V4:=fun m=>Nat.rec (motive:=fun _=>V4) (C18_2 cal k 0 (fun _ _ _ _ _ _=>none)) (fun m ih=>C18_2 cal k (m+1) ih) m
theorem h18_2(cal:Cal)(k m1:Nat)(u1 u2 u3 u5:Value)(H:Hp)(n:Nat):labK (E18_2 cal k m1) (Tr.set (Tr.set (Tr.set (Tr.set Tr.nil 5 (some u5)) 3 (some u3)) 2 (some u2)) 1 (some u1)) H n []=C18_2 cal k m1 (R18_2 cal k m1) u1 u2 u3 u5 H n:=by
 refine Eq.trans (b:=B18_2 cal k m1 (fun u1 u2 u3 u6 H n=>labK (E18_3 cal k k) (Tr.set (Tr.set (Tr.set (Tr.set Tr.nil 6 (some u6)) 3 (some u3)) 2 (some u2)) 1 (some u1)) H n []) (R18_2 cal k m1) u1 u2 u3 u5 H n) (by kernel_rfl) ?_
 rw[C18_2]
 have e3:(fun u1 u2 u3 u6 H n=>labK (E18_3 cal k k) (Tr.set (Tr.set (Tr.set (Tr.set Tr.nil 6 (some u6)) 3 (some u3)) 2 (some u2)) 1 (some u1)) H n [])=(S18_3 cal k k):=by funext u1 u2 u3 u6 H n; exact q18_3 ..
 rw[e3]
theorem q18_2(cal:Cal)(k:Nat):∀(m:Nat) (u1 u2 u3 u5:Value) (H:Hp) (n:Nat),labK (E18_2 cal k m) (Tr.set (Tr.set (Tr.set (Tr.set Tr.nil 5 (some u5)) 3 (some u3)) 2 (some u2)) 1 (some u1)) H n []=S18_2 cal k m u1 u2 u3 u5 H n
 | 0,u1,u2,u3,u5,H,n=>by
  rw[h18_2]
  have e:R18_2 cal k 0=fun _ _ _ _ _ _=>none:=by funext u1 u2 u3 u5 H n; kernel_rfl
  rw[e]; rfl
 | m+1,u1,u2,u3,u5,H,n=>by
  rw[h18_2]
  have e:R18_2 cal k (m+1)=S18_2 cal k m:=by
   funext u1 u2 u3 u5 H n
   have e:R18_2 cal k (m+1) u1 u2 u3 u5 H n=labK (E18_2 cal k m) (Tr.set (Tr.set (Tr.set (Tr.set Tr.nil 5 (some u5)) 3 (some u3)) 2 (some u2)) 1 (some u1)) H n []:=by kernel_rfl
   rw[e]; exact q18_2 ..
  rw[e]; rfl
noncomputable def B18_1(cal:Cal)(k m1:Nat)(j2:V4)(b1:V4)(u1 u2 u3 u4:Value)(H:Hp)(n:Nat):Res:=
aq (ax P 26 u1 0) fun v_c=>
aq (aW v_c) fun a_e=>aq (az P H 22 a_e) fun v_d=>
aq (lenV P 22 v_d) fun v_f=>
binK P .lss 3 (.tmp 8) (.tmp 11) u4 v_f fun v_g=>
ifK v_g (
aq (ax P 35 u3 0) fun v_h=>
aq (aW v_h) fun a_i=>aq (az P H 31 a_i) fun v_j=>
aq (ax P 26 u1 0) fun v_k=>
aq (aW v_k) fun a_l=>aq (az P H 22 a_l) fun v_m=>
aq (aV P 22 v_m u4) fun v_o=>
aq (ax P 95 v_o 0) fun v_p=>
aq (aW v_p) fun a_q=>aq (az P H 3 a_q) fun v_r=>
aq (ax P 26 u1 0) fun v_s=>
aq (aW v_s) fun a_t=>aq (az P H 22 a_t) fun v_u=>
aq (aV P 22 v_u u4) fun v_w=>
aq (ax P 95 v_w 1) fun v_x=>
aq (aW v_x) fun a_y=>aq (az P H 3 a_y) fun v_z=>
aq (fw P 90 [(0,v_r),(1,v_z)]) fun v_10=>
aq (yz P 31 1 [(0,v_10)]) fun q_13=>newK q_13.1 q_13.2 H n fun H_11 n_12=>
stK (kv P (bare H_11 n_12) 31 31 v_j (.slice (some ⟨n,0,none⟩) 1 1)) fun v_14 H_15 n_16=>
aq (ax P 35 u3 0) fun v_17=>
aq (bV P 31 v_17 v_14 H_15) fun H_19=>
binK P .add 3 (.tmp 13) (.const (.int .i64 1)) u4 (.int .i64 1) fun v_1b=>
b1 u1 u2 u3 v_1b H_19 n_16) (
j2 u1 u2 u3 (.int .i64 0) H n)
noncomputable def C18_1(cal:Cal)(k m1:Nat)(b1:V4)(u1 u2 u3 u4:Value)(H:Hp)(n:Nat):Res:=B18_1 cal k m1 (S18_2 cal k k) b1 u1 u2 u3 u4 H n
noncomputable def S18_1(cal:Cal)(k:Nat):Nat→V4:=fun m=>Nat.rec (motive:=fun _=>V4) (C18_1 cal k 0 (fun _ _ _ _ _ _=>none)) (fun m ih=>C18_1 cal k (m+1) ih) m
theorem h18_1(cal:Cal)(k m1:Nat)(u1 u2 u3 u4:Value)(H:Hp)(n:Nat):labK (E18_1 cal k m1) (Tr.set (Tr.set (Tr.set (Tr.set Tr.nil 4 (some u4)) 3 (some u3)) 2 (some u2)) 1 (some u1)) H n []=C18_1 cal k m1 (R18_1 cal k m1) u1 u2 u3 u4 H n:=by
 refine Eq.trans (b:=B18_1 cal k m1 (fun u1 u2 u3 u5 H n=>labK (E18_2 cal k k) (Tr.set (Tr.set (Tr.set (Tr.set Tr.nil 5 (some u5)) 3 (some u3)) 2 (some u2)) 1 (some u1)) H n []) (R18_1 cal k m1) u1 u2 u3 u4 H n) (by kernel_rfl) ?_
 rw[C18_1]
 have e2:(fun u1 u2 u3 u5 H n=>labK (E18_2 cal k k) (Tr.set (Tr.set (Tr.set (Tr.set Tr.nil 5 (some u5)) 3 (some u3)) 2 (some u2)) 1 (some u1)) H n [])=(S18_2 cal k k):=by funext u1 u2 u3 u5 H n; exact q18_2 ..
 rw[e2]
theorem q18_1(cal:Cal)(k:Nat):∀(m:Nat) (u1 u2 u3 u4:Value) (H:Hp) (n:Nat),labK (E18_1 cal k m) (Tr.set (Tr.set (Tr.set (Tr.set Tr.nil 4 (some u4)) 3 (some u3)) 2 (some u2)) 1 (some u1)) H n []=S18_1 cal k m u1 u2 u3 u4 H n
 | 0,u1,u2,u3,u4,H,n=>by
  rw[h18_1]
  have e:R18_1 cal k 0=fun _ _ _ _ _ _=>none:=by funext u1 u2 u3 u4 H n; kernel_rfl
  rw[e]; rfl
 | m+1,u1,u2,u3,u4,H,n=>by
  rw[h18_1]
  have e:R18_1 cal k (m+1)=S18_1 cal k m:=by
   funext u1 u2 u3 u4 H n
   have e:R18_1 cal k (m+1) u1 u2 u3 u4 H n=labK (E18_1 cal k m) (Tr.set (Tr.set (Tr.set (Tr.set Tr.nil 4 (some u4)) 3 (some u3)) 2 (some u2)) 1 (some u1)) H n []:=by kernel_rfl
   rw[e]; exact q18_1 ..
  rw[e]; rfl
noncomputable def B18_0(cal:Cal)(k:Nat)(j1:V4)(v0:Value)(H:Hp)(n:Nat):Res:=
boxK 26 v0 H n fun v_1 H_2 n_3=>
dj P 35 H_2 n_3 fun v_4 H_5 n_6=>
dj P 35 H_5 n_6 fun v_7 H_8 n_9=>
j1 v_1 v_4 v_7 (.int .i64 0) H_8 n_9
noncomputable def C18_0(cal:Cal)(k:Nat)(v0:Value)(H:Hp)(n:Nat):Res:=B18_0 cal k (S18_1 cal k k) v0 H n
theorem h18_0(cal:Cal)(k:Nat)(v0:Value)(H:Hp)(n:Nat):aK P cal A (k+1) 18 [v0] H n=C18_0 cal k v0 H n:=by
 have h:aK P cal A (k+1) 18 [v0] H n=B18_0 cal k (fun u1 u2 u3 u4 H n=>labK (E18_1 cal k k) (Tr.set (Tr.set (Tr.set (Tr.set Tr.nil 4 (some u4)) 3 (some u3)) 2 (some u2)) 1 (some u1)) H n []) v0 H n:=by
  rw[bX (fn:=Go.Proofs.Try.f18) (c:=kz) (rs:=ck) (by kernel_rfl) (by kernel_rfl) (by kernel_rfl) (by kernel_rfl)]
  kernel_rfl
 rw[h,C18_0]
 have e1:(fun u1 u2 u3 u4 H n=>labK (E18_1 cal k k) (Tr.set (Tr.set (Tr.set (Tr.set Tr.nil 4 (some u4)) 3 (some u3)) 2 (some u2)) 1 (some u1)) H n [])=(S18_1 cal k k):=by funext u1 u2 u3 u4 H n; exact q18_1 ..
 rw[e1]
noncomputable def code20:Code:=cW 20
noncomputable def HW:List ResultVar:=eX 20
noncomputable def K20_p(cal:Cal)(k:Nat):KR:=(cutK (A 20).c (ay P cal (aw P cal k) none 20 (cR code20) (Lv.b (A 20)) (av P HW) X0 (av P HW)))
noncomputable def K20_pr(cal:Cal)(k:Nat):KR:=(cutK (Lv.b (A 20)).c (ay P cal (aw P cal k) none 20 (cR (cR code20)) (Lv.b (Lv.b (A 20))) (av P HW) X0 (av P HW)))
noncomputable def B20_0(cal:Cal)(k:Nat)(v0:Value)(H:Hp)(n:Nat):Res:=
boxK 26 v0 H n fun v_1 H_2 n_3=>
aq (aW v_1) fun a_6=>aq (az P H_2 26 a_6) fun v_5=>
aY P cal 63 [v_5] H_2 n_3 fun v_7 H_8 n_9=>
some (v_7,H_8,n_9)
noncomputable def C20_0(cal:Cal)(k:Nat)(v0:Value)(H:Hp)(n:Nat):Res:=B20_0 cal k v0 H n
theorem h20_0(cal:Cal)(k:Nat)(v0:Value)(H:Hp)(n:Nat):aK P cal A (k+1) 20 [v0] H n=C20_0 cal k v0 H n:=by
 have h:aK P cal A (k+1) 20 [v0] H n=B20_0 cal k v0 H n:=by
  rw[bX (fn:=Go.Proofs.Try.f20) (c:=code20) (rs:=HW) (by kernel_rfl) (by kernel_rfl) (by kernel_rfl) (by kernel_rfl)]
  kernel_rfl
 rw[h,C20_0]
noncomputable def zw:Code:=cW 21
noncomputable def kV:List ResultVar:=eX 21
noncomputable def K21_p(cal:Cal)(k:Nat):KR:=(cutK (A 21).c (ay P cal (aw P cal k) none 21 (cR zw) (Lv.b (A 21)) (av P kV) X0 (av P kV)))
noncomputable def K21_pr(cal:Cal)(k:Nat):KR:=(cutK (Lv.b (A 21)).c (ay P cal (aw P cal k) none 21 (cR (cR zw)) (Lv.b (Lv.b (A 21))) (av P kV) X0 (av P kV)))
noncomputable def K21_prl(cal:Cal)(k:Nat):KR:=(cutK (Lv.a (Lv.b (A 21))).c (ay P cal (aw P cal k) none 21 (cR (cL (cR zw))) (Lv.b (Lv.a (Lv.b (A 21)))) (K21_pr cal k) X0 (av P kV)))
noncomputable def zx(cal:Cal)(k:Nat):XR:=(upX 0 (K21_pr cal k) X0)
noncomputable def Xk(cal:Cal)(k:Nat)(m1:Nat):KR:=(fun T H n D=>aw P cal m1 (Lv.a (Lv.b (Lv.a (Lv.b (A 21))))) none 21 (cL (cR (cL (cR zw)))) (K21_pr cal k) (zx cal k) (av P kV) (cutT (Lv.a (Lv.b (Lv.a (Lv.b (A 21))))).c T) H n D)
noncomputable def K21_prlrll(cal:Cal)(k:Nat)(m1:Nat):KR:=(cutK (Lv.a (Lv.a (Lv.b (Lv.a (Lv.b (A 21)))))).c (ay P cal (aw P cal m1) none 21 (cR (cL (cL (cR (cL (cR zw)))))) (Lv.b (Lv.a (Lv.a (Lv.b (Lv.a (Lv.b (A 21))))))) (Xk cal k m1) (zx cal k) (av P kV)))
noncomputable def K21_prlrlll(cal:Cal)(k:Nat)(m1:Nat):KR:=(cutK (Lv.a (Lv.a (Lv.a (Lv.b (Lv.a (Lv.b (A 21))))))).c (ay P cal (aw P cal m1) none 21 (cR (cL (cL (cL (cR (cL (cR zw))))))) (Lv.b (Lv.a (Lv.a (Lv.a (Lv.b (Lv.a (Lv.b (A 21)))))))) (K21_prlrll cal k m1) (zx cal k) (av P kV)))
noncomputable def Nv(cal:Cal)(k:Nat)(m1:Nat):KR:=(cutK (Lv.b (Lv.a (Lv.a (Lv.b (Lv.a (Lv.b (A 21))))))).c (ay P cal (aw P cal m1) none 21 (cR (cR (cL (cL (cR (cL (cR zw))))))) (Lv.b (Lv.b (Lv.a (Lv.a (Lv.b (Lv.a (Lv.b (A 21)))))))) (Xk cal k m1) (zx cal k) (av P kV)))
noncomputable def K21_pxrlrllrl(cal:Cal)(k:Nat)(m1:Nat):XR:=(upX 1 (Nv cal k m1) (zx cal k))
noncomputable def K21_prlrllrll(cal:Cal)(k:Nat)(m1:Nat):KR:=(cutK (Lv.a (Lv.a (Lv.b (Lv.a (Lv.a (Lv.b (Lv.a (Lv.b (A 21))))))))).c (ay P cal (aw P cal m1) none 21 (cR (cL (cL (cR (cL (cL (cR (cL (cR zw))))))))) (Lv.b (Lv.a (Lv.a (Lv.b (Lv.a (Lv.a (Lv.b (Lv.a (Lv.b (A 21)))))))))) (Nv cal k m1) (K21_pxrlrllrl cal k m1) (av P kV)))
noncomputable def K21_prlrllrllrl(cal:Cal)(k:Nat)(m1:Nat):KR:=(cutK (Lv.a (Lv.b (Lv.a (Lv.a (Lv.b (Lv.a (Lv.a (Lv.b (Lv.a (Lv.b (A 21))))))))))).c (ay P cal (aw P cal m1) none 21 (cR (cL (cR (cL (cL (cR (cL (cL (cR (cL (cR zw))))))))))) (Lv.b (Lv.a (Lv.b (Lv.a (Lv.a (Lv.b (Lv.a (Lv.a (Lv.b (Lv.a (Lv.b (A 21)))))))))))) (Nv cal k m1) (K21_pxrlrllrl cal k m1) (av P kV)))
noncomputable def K21_prr(cal:Cal)(k:Nat):KR:=(cutK (Lv.b (Lv.b (A 21))).c (ay P cal (aw P cal k) none 21 (cR (cR (cR zw))) (Lv.b (Lv.b (Lv.b (A 21)))) (av P kV) X0 (av P kV)))
noncomputable def E21_1(cal:Cal)(k m1:Nat):KR:=ay P cal (aw P cal m1) none 21 (cL (cL (cR (cL (cR zw))))) (Lv.a (Lv.a (Lv.b (Lv.a (Lv.b (A 21)))))) (Xk cal k m1) (zx cal k) (av P kV)
noncomputable def R21_1(cal:Cal)(k m1:Nat):V4:=fun u1 u2 u3 u7 H n=>aw P cal m1 (Lv.a (Lv.b (Lv.a (Lv.b (A 21))))) none 21 (cL (cR (cL (cR zw)))) (K21_pr cal k) (zx cal k) (av P kV) (Tr.set (Tr.set (Tr.set (Tr.set Tr.nil 7 (some u7)) 3 (some u3)) 2 (some u2)) 1 (some u1)) H n []
noncomputable def B21_1(cal:Cal)(k m1:Nat)(b1:V4)(u1 u2 u3 u7:Value)(H:Hp)(n:Nat):Res:=
aq (ax P 26 u3 2) fun v_g=>
aq (aW v_g) fun a_i=>aq (az P H 24 a_i) fun v_h=>
aq (aV P 24 v_h u1) fun v_k=>
aq (ax P 94 v_k 1) fun v_l=>
aq (ax P 55 v_l 1) fun v_m=>
aq (aW v_m) fun a_o=>aq (az P H 3 a_o) fun v_n=>
binK P .leq 3 (.tmp 15) (.tmp 22) u7 v_n fun v_p=>
ifK v_p (
aq (aW u3) fun a_r=>aq (az P H 26 a_r) fun v_q=>
aY P cal 64 [v_q,u1,u2,u2,u7] H n fun v_w H_x n_y=>
ifK v_w (
some ((.bool true),H_x,n_y)) (
binK P .add 3 (.tmp 24) (.const (.int .i64 1)) u7 (.int .i64 1) fun v_11=>
b1 u1 u2 u3 v_11 H_x n_y)) (
some ((.bool false),H,n))
noncomputable def C21_1(cal:Cal)(k m1:Nat)(b1:V4)(u1 u2 u3 u7:Value)(H:Hp)(n:Nat):Res:=B21_1 cal k m1 b1 u1 u2 u3 u7 H n
noncomputable def S21_1(cal:Cal)(k:Nat):Nat→V4:=fun m=>Nat.rec (motive:=fun _=>V4) (C21_1 cal k 0 (fun _ _ _ _ _ _=>none)) (fun m ih=>C21_1 cal k (m+1) ih) m
theorem h21_1(cal:Cal)(k m1:Nat)(u1 u2 u3 u7:Value)(H:Hp)(n:Nat):labK (E21_1 cal k m1) (Tr.set (Tr.set (Tr.set (Tr.set Tr.nil 7 (some u7)) 3 (some u3)) 2 (some u2)) 1 (some u1)) H n []=C21_1 cal k m1 (R21_1 cal k m1) u1 u2 u3 u7 H n:=by
 refine Eq.trans (b:=B21_1 cal k m1 (R21_1 cal k m1) u1 u2 u3 u7 H n) (by kernel_rfl) ?_
 rw[C21_1]
theorem q21_1(cal:Cal)(k:Nat):∀(m:Nat) (u1 u2 u3 u7:Value) (H:Hp) (n:Nat),labK (E21_1 cal k m) (Tr.set (Tr.set (Tr.set (Tr.set Tr.nil 7 (some u7)) 3 (some u3)) 2 (some u2)) 1 (some u1)) H n []=S21_1 cal k m u1 u2 u3 u7 H n
 | 0,u1,u2,u3,u7,H,n=>by
  rw[h21_1]
  have e:R21_1 cal k 0=fun _ _ _ _ _ _=>none:=by funext u1 u2 u3 u7 H n; kernel_rfl
  rw[e]; rfl
 | m+1,u1,u2,u3,u7,H,n=>by
  rw[h21_1]
  have e:R21_1 cal k (m+1)=S21_1 cal k m:=by
   funext u1 u2 u3 u7 H n
   have e:R21_1 cal k (m+1) u1 u2 u3 u7 H n=labK (E21_1 cal k m) (Tr.set (Tr.set (Tr.set (Tr.set Tr.nil 7 (some u7)) 3 (some u3)) 2 (some u2)) 1 (some u1)) H n []:=by kernel_rfl
   rw[e]; exact q21_1 ..
  rw[e]; rfl
noncomputable def B21_0(cal:Cal)(k:Nat)(j1:V4)(v0 v1 v2:Value)(H:Hp)(n:Nat):Res:=
boxK 26 v0 H n fun v_1 H_2 n_3=>
aq (ax P 26 v_1 2) fun v_5=>
aq (aW v_5) fun a_7=>aq (az P H_2 24 a_7) fun v_6=>
aq (aV P 24 v_6 v1) fun v_9=>
aq (ax P 94 v_9 1) fun v_a=>
aq (ax P 55 v_a 0) fun v_b=>
aq (aW v_b) fun a_d=>aq (az P H_2 3 a_d) fun v_c=>
j1 v1 v2 v_1 v_c H_2 n_3
noncomputable def C21_0(cal:Cal)(k:Nat)(v0 v1 v2:Value)(H:Hp)(n:Nat):Res:=B21_0 cal k (S21_1 cal k k) v0 v1 v2 H n
theorem h21_0(cal:Cal)(k:Nat)(v0 v1 v2:Value)(H:Hp)(n:Nat):aK P cal A (k+1) 21 [v0,v1,v2] H n=C21_0 cal k v0 v1 v2 H n:=by
 have h:aK P cal A (k+1) 21 [v0,v1,v2] H n=B21_0 cal k (fun u1 u2 u3 u7 H n=>labK (E21_1 cal k k) (Tr.set (Tr.set (Tr.set (Tr.set Tr.nil 7 (some u7)) 3 (some u3)) 2 (some u2)) 1 (some u1)) H n []) v0 v1 v2 H n:=by
  rw[bX (fn:=Go.Proofs.Try.f21) (c:=zw) (rs:=kV) (by kernel_rfl) (by kernel_rfl) (by kernel_rfl) (by kernel_rfl)]
  kernel_rfl
 rw[h,C21_0]
 have e1:(fun u1 u2 u3 u7 H n=>labK (E21_1 cal k k) (Tr.set (Tr.set (Tr.set (Tr.set Tr.nil 7 (some u7)) 3 (some u3)) 2 (some u2)) 1 (some u1)) H n [])=(S21_1 cal k k):=by funext u1 u2 u3 u7 H n; exact q21_1 ..
 rw[e1]
noncomputable def code23:Code:=cW 23
noncomputable def HX:List ResultVar:=eX 23
noncomputable def K23_p(cal:Cal)(k:Nat):KR:=(cutK (A 23).c (ay P cal (aw P cal k) none 23 (cR code23) (Lv.b (A 23)) (av P HX) X0 (av P HX)))
noncomputable def K23_pr(cal:Cal)(k:Nat):KR:=(cutK (Lv.b (A 23)).c (ay P cal (aw P cal k) none 23 (cR (cR code23)) (Lv.b (Lv.b (A 23))) (av P HX) X0 (av P HX)))
noncomputable def B23_0(cal:Cal)(k:Nat)(v0:Value)(H:Hp)(n:Nat):Res:=
rowK P 44 0 [] H n fun v_2 H_3 n_4=>
stK (kv P (bare H_3 n_4) 44 44 v_2 v0) fun v_6 H_7 n_8=>
some (v_6,H_7,n_8)
noncomputable def C23_0(cal:Cal)(k:Nat)(v0:Value)(H:Hp)(n:Nat):Res:=B23_0 cal k v0 H n
theorem h23_0(cal:Cal)(k:Nat)(v0:Value)(H:Hp)(n:Nat):aK P cal A (k+1) 23 [v0] H n=C23_0 cal k v0 H n:=by
 have h:aK P cal A (k+1) 23 [v0] H n=B23_0 cal k v0 H n:=by
  rw[bX (fn:=Go.Proofs.Try.f23) (c:=code23) (rs:=HX) (by kernel_rfl) (by kernel_rfl) (by kernel_rfl) (by kernel_rfl)]
  kernel_rfl
 rw[h,C23_0]
noncomputable def ow:Code:=cW 24
noncomputable def dZ:List ResultVar:=eX 24
noncomputable def K24_p(cal:Cal)(k:Nat):KR:=(cutK (A 24).c (ay P cal (aw P cal k) none 24 (cR ow) (Lv.b (A 24)) (av P dZ) X0 (av P dZ)))
noncomputable def K24_pr(cal:Cal)(k:Nat):KR:=(cutK (Lv.b (A 24)).c (ay P cal (aw P cal k) none 24 (cR (cR ow)) (Lv.b (Lv.b (A 24))) (av P dZ) X0 (av P dZ)))
noncomputable def K24_prr(cal:Cal)(k:Nat):KR:=(cutK (Lv.b (Lv.b (A 24))).c (ay P cal (aw P cal k) none 24 (cR (cR (cR ow))) (Lv.b (Lv.b (Lv.b (A 24)))) (av P dZ) X0 (av P dZ)))
noncomputable def K24_prrl(cal:Cal)(k:Nat):KR:=(cutK (Lv.a (Lv.b (Lv.b (A 24)))).c (ay P cal (aw P cal k) none 24 (cR (cL (cR (cR ow)))) (Lv.b (Lv.a (Lv.b (Lv.b (A 24))))) (K24_prr cal k) X0 (av P dZ)))
noncomputable def K24_prrlrl(cal:Cal)(k:Nat):KR:=(cutK (Lv.a (Lv.b (Lv.a (Lv.b (Lv.b (A 24)))))).c (ay P cal (aw P cal k) none 24 (cR (cL (cR (cL (cR (cR ow)))))) (Lv.b (Lv.a (Lv.b (Lv.a (Lv.b (Lv.b (A 24))))))) (K24_prr cal k) X0 (av P dZ)))
noncomputable def K24_prrr(cal:Cal)(k:Nat):KR:=(cutK (Lv.b (Lv.b (Lv.b (A 24)))).c (ay P cal (aw P cal k) none 24 (cR (cR (cR (cR ow)))) (Lv.b (Lv.b (Lv.b (Lv.b (A 24))))) (av P dZ) X0 (av P dZ)))
noncomputable def Pk(cal:Cal)(k:Nat):KR:=(cutK (Lv.b (Lv.b (Lv.b (Lv.b (A 24))))).c (ay P cal (aw P cal k) none 24 (cR (cR (cR (cR (cR ow))))) (Lv.b (Lv.b (Lv.b (Lv.b (Lv.b (A 24)))))) (av P dZ) X0 (av P dZ)))
noncomputable def K24_prrrrl(cal:Cal)(k:Nat):KR:=(cutK (Lv.a (Lv.b (Lv.b (Lv.b (Lv.b (A 24)))))).c (ay P cal (aw P cal k) none 24 (cR (cL (cR (cR (cR (cR ow)))))) (Lv.b (Lv.a (Lv.b (Lv.b (Lv.b (Lv.b (A 24))))))) (Pk cal k) X0 (av P dZ)))
noncomputable def pz(cal:Cal)(k:Nat):XR:=(upX 0 (Pk cal k) X0)
noncomputable def xJ(cal:Cal)(k:Nat)(m1:Nat):KR:=(fun T H n D=>aw P cal m1 (Lv.a (Lv.b (Lv.a (Lv.b (Lv.b (Lv.b (Lv.b (A 24)))))))) none 24 (cL (cR (cL (cR (cR (cR (cR ow))))))) (Pk cal k) (pz cal k) (av P dZ) (cutT (Lv.a (Lv.b (Lv.a (Lv.b (Lv.b (Lv.b (Lv.b (A 24)))))))).c T) H n D)
noncomputable def K24_prrrrlrll(cal:Cal)(k:Nat)(m1:Nat):KR:=(cutK (Lv.a (Lv.a (Lv.b (Lv.a (Lv.b (Lv.b (Lv.b (Lv.b (A 24))))))))).c (ay P cal (aw P cal m1) none 24 (cR (cL (cL (cR (cL (cR (cR (cR (cR ow))))))))) (Lv.b (Lv.a (Lv.a (Lv.b (Lv.a (Lv.b (Lv.b (Lv.b (Lv.b (A 24)))))))))) (xJ cal k m1) (pz cal k) (av P dZ)))
noncomputable def K24_prrrrlrllr(cal:Cal)(k:Nat)(m1:Nat):KR:=(cutK (Lv.b (Lv.a (Lv.a (Lv.b (Lv.a (Lv.b (Lv.b (Lv.b (Lv.b (A 24)))))))))).c (ay P cal (aw P cal m1) none 24 (cR (cR (cL (cL (cR (cL (cR (cR (cR (cR ow)))))))))) (Lv.b (Lv.b (Lv.a (Lv.a (Lv.b (Lv.a (Lv.b (Lv.b (Lv.b (Lv.b (A 24))))))))))) (xJ cal k m1) (pz cal k) (av P dZ)))
noncomputable def rj(cal:Cal)(k:Nat)(m1:Nat):KR:=(cutK (Lv.b (Lv.b (Lv.a (Lv.a (Lv.b (Lv.a (Lv.b (Lv.b (Lv.b (Lv.b (A 24))))))))))).c (ay P cal (aw P cal m1) none 24 (cR (cR (cR (cL (cL (cR (cL (cR (cR (cR (cR ow))))))))))) (Lv.b (Lv.b (Lv.b (Lv.a (Lv.a (Lv.b (Lv.a (Lv.b (Lv.b (Lv.b (Lv.b (A 24)))))))))))) (xJ cal k m1) (pz cal k) (av P dZ)))
noncomputable def pk(cal:Cal)(k:Nat)(m1:Nat):XR:=(upX 1 (rj cal k m1) (pz cal k))
noncomputable def K24_prrrrlrllrrll(cal:Cal)(k:Nat)(m1:Nat):KR:=(cutK (Lv.a (Lv.a (Lv.b (Lv.b (Lv.a (Lv.a (Lv.b (Lv.a (Lv.b (Lv.b (Lv.b (Lv.b (A 24))))))))))))).c (ay P cal (aw P cal m1) none 24 (cR (cL (cL (cR (cR (cL (cL (cR (cL (cR (cR (cR (cR ow))))))))))))) (Lv.b (Lv.a (Lv.a (Lv.b (Lv.b (Lv.a (Lv.a (Lv.b (Lv.a (Lv.b (Lv.b (Lv.b (Lv.b (A 24)))))))))))))) (rj cal k m1) (pk cal k m1) (av P dZ)))
noncomputable def K24_prrrrlrllrrllrr(cal:Cal)(k:Nat)(m1:Nat):KR:=(cutK (Lv.b (Lv.b (Lv.a (Lv.a (Lv.b (Lv.b (Lv.a (Lv.a (Lv.b (Lv.a (Lv.b (Lv.b (Lv.b (Lv.b (A 24))))))))))))))).c (ay P cal (aw P cal m1) none 24 (cR (cR (cR (cL (cL (cR (cR (cL (cL (cR (cL (cR (cR (cR (cR ow))))))))))))))) (Lv.b (Lv.b (Lv.b (Lv.a (Lv.a (Lv.b (Lv.b (Lv.a (Lv.a (Lv.b (Lv.a (Lv.b (Lv.b (Lv.b (Lv.b (A 24)))))))))))))))) (rj cal k m1) (pk cal k m1) (av P dZ)))
noncomputable def K24_prrrrlrllrrllr(cal:Cal)(k:Nat)(m1:Nat):KR:=(cutK (Lv.b (Lv.a (Lv.a (Lv.b (Lv.b (Lv.a (Lv.a (Lv.b (Lv.a (Lv.b (Lv.b (Lv.b (Lv.b (A 24)))))))))))))).c (ay P cal (aw P cal m1) none 24 (cR (cR (cL (cL (cR (cR (cL (cL (cR (cL (cR (cR (cR (cR ow)))))))))))))) (Lv.b (Lv.b (Lv.a (Lv.a (Lv.b (Lv.b (Lv.a (Lv.a (Lv.b (Lv.a (Lv.b (Lv.b (Lv.b (Lv.b (A 24))))))))))))))) (rj cal k m1) (pk cal k m1) (av P dZ)))
noncomputable def K24_prrrrlrllrrllrl(cal:Cal)(k:Nat)(m1:Nat):KR:=(cutK (Lv.a (Lv.b (Lv.a (Lv.a (Lv.b (Lv.b (Lv.a (Lv.a (Lv.b (Lv.a (Lv.b (Lv.b (Lv.b (Lv.b (A 24))))))))))))))).c (ay P cal (aw P cal m1) none 24 (cR (cL (cR (cL (cL (cR (cR (cL (cL (cR (cL (cR (cR (cR (cR ow))))))))))))))) (Lv.b (Lv.a (Lv.b (Lv.a (Lv.a (Lv.b (Lv.b (Lv.a (Lv.a (Lv.b (Lv.a (Lv.b (Lv.b (Lv.b (Lv.b (A 24)))))))))))))))) (K24_prrrrlrllrrllr cal k m1) (pk cal k m1) (av P dZ)))
noncomputable def K24_prrrrr(cal:Cal)(k:Nat):KR:=(cutK (Lv.b (Lv.b (Lv.b (Lv.b (Lv.b (A 24)))))).c (ay P cal (aw P cal k) none 24 (cR (cR (cR (cR (cR (cR ow)))))) (Lv.b (Lv.b (Lv.b (Lv.b (Lv.b (Lv.b (A 24))))))) (av P dZ) X0 (av P dZ)))
noncomputable def E24_2(cal:Cal)(k m1:Nat):KR:=ay P cal (aw P cal m1) none 24 (cR (cR (cR (cL (cL (cR (cL (cR (cR (cR (cR ow))))))))))) (Lv.b (Lv.b (Lv.b (Lv.a (Lv.a (Lv.b (Lv.a (Lv.b (Lv.b (Lv.b (Lv.b (A 24)))))))))))) (xJ cal k m1) (pz cal k) (av P dZ)
noncomputable def E24_3(cal:Cal)(k m1:Nat):KR:=ay P cal (aw P cal m1) none 24 (cR (cR (cL (cL (cR (cR (cL (cL (cR (cL (cR (cR (cR (cR ow)))))))))))))) (Lv.b (Lv.b (Lv.a (Lv.a (Lv.b (Lv.b (Lv.a (Lv.a (Lv.b (Lv.a (Lv.b (Lv.b (Lv.b (Lv.b (A 24))))))))))))))) (rj cal k m1) (pk cal k m1) (av P dZ)
noncomputable def E24_1(cal:Cal)(k m1:Nat):KR:=ay P cal (aw P cal m1) none 24 (cL (cL (cR (cL (cR (cR (cR (cR ow)))))))) (Lv.a (Lv.a (Lv.b (Lv.a (Lv.b (Lv.b (Lv.b (Lv.b (A 24))))))))) (xJ cal k m1) (pz cal k) (av P dZ)
noncomputable def Nw(cal:Cal)(k m1:Nat):V6:=fun u4 u5 u7 u9 u29 u30 H n=>aw P cal m1 (Lv.a (Lv.b (Lv.a (Lv.b (Lv.b (Lv.b (Lv.b (A 24)))))))) none 24 (cL (cR (cL (cR (cR (cR (cR ow))))))) (Pk cal k) (pz cal k) (av P dZ) (Tr.set (Tr.set (Tr.set (Tr.set (Tr.set (Tr.set Tr.nil 30 (some u30)) 29 (some u29)) 9 (some u9)) 7 (some u7)) 5 (some u5)) 4 (some u4)) H n []
noncomputable def B24_2(cal:Cal)(k m1:Nat)(b1:V6)(u4 u5 u7 u9 u29 u30:Value)(H:Hp)(n:Nat):Res:=
binK P .add 3 (.tmp 30) (.const (.int .i64 1)) u30 (.int .i64 1) fun v_1e=>
b1 u4 u5 u7 u9 u29 v_1e H n
noncomputable def C24_2(cal:Cal)(k m1:Nat)(b1:V6)(u4 u5 u7 u9 u29 u30:Value)(H:Hp)(n:Nat):Res:=B24_2 cal k m1 b1 u4 u5 u7 u9 u29 u30 H n
theorem h24_2(cal:Cal)(k m1:Nat)(u4 u5 u7 u9 u29 u30:Value)(H:Hp)(n:Nat):labK (E24_2 cal k m1) (Tr.set (Tr.set (Tr.set (Tr.set (Tr.set (Tr.set Tr.nil 30 (some u30)) 29 (some u29)) 9 (some u9)) 7 (some u7)) 5 (some u5)) 4 (some u4)) H n []=C24_2 cal k m1 (Nw cal k m1) u4 u5 u7 u9 u29 u30 H n:=by
 refine Eq.trans (b:=B24_2 cal k m1 (Nw cal k m1) u4 u5 u7 u9 u29 u30 H n) (by kernel_rfl) ?_
 rw[C24_2]
noncomputable def B24_3(cal:Cal)(k m1:Nat)(j2:V6)(b1:V6)(u4 u5 u7 u9 u10 u29 u30:Value)(H:Hp)(n:Nat):Res:=
aq (aW u9) fun a_1k=>aq (az P H 109 a_1k) fun v_1j=>
aY P cal 69 [u7,v_1j,u10] H n fun v_1m H_1n n_1o=>
ifK v_1m (
rowK P 44 1 [(0,u10)] H_1n n_1o fun v_1r H_1s n_1t=>
stK (kv P (bare H_1s n_1t) 44 44 u5 v_1r) fun v_1u H_1v n_1w=>
j2 u4 v_1u u7 u9 u29 u30 H_1v n_1w) (
j2 u4 u5 u7 u9 u29 u30 H_1n n_1o)
noncomputable def C24_3(cal:Cal)(k m1:Nat)(b1:V6)(u4 u5 u7 u9 u10 u29 u30:Value)(H:Hp)(n:Nat):Res:=B24_3 cal k m1 (C24_2 cal k m1 b1) b1 u4 u5 u7 u9 u10 u29 u30 H n
theorem h24_3(cal:Cal)(k m1:Nat)(u4 u5 u7 u9 u10 u29 u30:Value)(H:Hp)(n:Nat):labK (E24_3 cal k m1) (Tr.set (Tr.set (Tr.set (Tr.set (Tr.set (Tr.set (Tr.set Tr.nil 30 (some u30)) 29 (some u29)) 10 (some u10)) 9 (some u9)) 7 (some u7)) 5 (some u5)) 4 (some u4)) H n []=C24_3 cal k m1 (Nw cal k m1) u4 u5 u7 u9 u10 u29 u30 H n:=by
 refine Eq.trans (b:=B24_3 cal k m1 (fun u4 u5 u7 u9 u29 u30 H n=>labK (E24_2 cal k m1) (Tr.set (Tr.set (Tr.set (Tr.set (Tr.set (Tr.set Tr.nil 30 (some u30)) 29 (some u29)) 9 (some u9)) 7 (some u7)) 5 (some u5)) 4 (some u4)) H n []) (Nw cal k m1) u4 u5 u7 u9 u10 u29 u30 H n) (by kernel_rfl) ?_
 rw[C24_3]
 have e2:(fun u4 u5 u7 u9 u29 u30 H n=>labK (E24_2 cal k m1) (Tr.set (Tr.set (Tr.set (Tr.set (Tr.set (Tr.set Tr.nil 30 (some u30)) 29 (some u29)) 9 (some u9)) 7 (some u7)) 5 (some u5)) 4 (some u4)) H n [])=(C24_2 cal k m1 (Nw cal k m1)):=by funext u4 u5 u7 u9 u29 u30 H n; exact h24_2 ..
 rw[e2]
noncomputable def B24_1(cal:Cal)(k m1:Nat)(j3:V7)(b1:V6)(u4 u5 u7 u9 u29 u30:Value)(H:Hp)(n:Nat):Res:=
binK P .lss 3 (.tmp 30) (.tmp 29) u30 u29 fun v_1d=>
ifK v_1d (
aq (aW u9) fun a_20=>aq (az P H 109 a_20) fun v_1z=>
aY P cal 68 [u7,v_1z,u30] H n fun v_22 H_23 n_24=>
ifK v_22 (
rowK P 44 1 [(0,u30)] H_23 n_24 fun v_27 H_28 n_29=>
stK (kv P (bare H_28 n_29) 44 44 u4 v_27) fun v_2a H_2b n_2c=>
j3 v_2a u5 u7 u9 u30 u29 u30 H_2b n_2c) (
j3 u4 u5 u7 u9 u30 u29 u30 H_23 n_24)) (
some ((Value.tuple ⟨[u4,u5,(.int .i64 0)]⟩),H,n))
noncomputable def C24_1(cal:Cal)(k m1:Nat)(b1:V6)(u4 u5 u7 u9 u29 u30:Value)(H:Hp)(n:Nat):Res:=B24_1 cal k m1 (C24_3 cal k m1 b1) b1 u4 u5 u7 u9 u29 u30 H n
noncomputable def S24_1(cal:Cal)(k:Nat):Nat→V6:=fun m=>Nat.rec (motive:=fun _=>V6) (C24_1 cal k 0 (fun _ _ _ _ _ _ _ _=>none)) (fun m ih=>C24_1 cal k (m+1) ih) m
theorem h24_1(cal:Cal)(k m1:Nat)(u4 u5 u7 u9 u29 u30:Value)(H:Hp)(n:Nat):labK (E24_1 cal k m1) (Tr.set (Tr.set (Tr.set (Tr.set (Tr.set (Tr.set Tr.nil 30 (some u30)) 29 (some u29)) 9 (some u9)) 7 (some u7)) 5 (some u5)) 4 (some u4)) H n []=C24_1 cal k m1 (Nw cal k m1) u4 u5 u7 u9 u29 u30 H n:=by
 refine Eq.trans (b:=B24_1 cal k m1 (fun u4 u5 u7 u9 u10 u29 u30 H n=>labK (E24_3 cal k m1) (Tr.set (Tr.set (Tr.set (Tr.set (Tr.set (Tr.set (Tr.set Tr.nil 30 (some u30)) 29 (some u29)) 10 (some u10)) 9 (some u9)) 7 (some u7)) 5 (some u5)) 4 (some u4)) H n []) (Nw cal k m1) u4 u5 u7 u9 u29 u30 H n) (by kernel_rfl) ?_
 rw[C24_1]
 have e3:(fun u4 u5 u7 u9 u10 u29 u30 H n=>labK (E24_3 cal k m1) (Tr.set (Tr.set (Tr.set (Tr.set (Tr.set (Tr.set (Tr.set Tr.nil 30 (some u30)) 29 (some u29)) 10 (some u10)) 9 (some u9)) 7 (some u7)) 5 (some u5)) 4 (some u4)) H n [])=(C24_3 cal k m1 (Nw cal k m1)):=by funext u4 u5 u7 u9 u10 u29 u30 H n; exact h24_3 ..
 rw[e3]
theorem q24_1(cal:Cal)(k:Nat):∀(m:Nat) (u4 u5 u7 u9 u29 u30:Value) (H:Hp) (n:Nat),labK (E24_1 cal k m) (Tr.set (Tr.set (Tr.set (Tr.set (Tr.set (Tr.set Tr.nil 30 (some u30)) 29 (some u29)) 9 (some u9)) 7 (some u7)) 5 (some u5)) 4 (some u4)) H n []=S24_1 cal k m u4 u5 u7 u9 u29 u30 H n
 | 0,u4,u5,u7,u9,u29,u30,H,n=>by
  rw[h24_1]
  have e:Nw cal k 0=fun _ _ _ _ _ _ _ _=>none:=by funext u4 u5 u7 u9 u29 u30 H n; kernel_rfl
  rw[e]; rfl
 | m+1,u4,u5,u7,u9,u29,u30,H,n=>by
  rw[h24_1]
  have e:Nw cal k (m+1)=S24_1 cal k m:=by
   funext u4 u5 u7 u9 u29 u30 H n
   have e:Nw cal k (m+1) u4 u5 u7 u9 u29 u30 H n=labK (E24_1 cal k m) (Tr.set (Tr.set (Tr.set (Tr.set (Tr.set (Tr.set Tr.nil 30 (some u30)) 29 (some u29)) 9 (some u9)) 7 (some u7)) 5 (some u5)) 4 (some u4)) H n []:=by kernel_rfl
   rw[e]; exact q24_1 ..
  rw[e]; rfl
noncomputable def B24_0(cal:Cal)(k:Nat)(j1:V6)(v0 v1:Value)(H:Hp)(n:Nat):Res:=
boxK 35 v0 H n fun v_1 H_2 n_3=>
aq (aW v_1) fun a_8=>aq (az P H_2 35 a_8) fun v_7=>
aY P cal 65 [v_7,v1] H_2 n_3 fun v_a H_b n_c=>
aq (tupV v_a 0) fun v_e=>
aq (tupV v_a 1) fun v_f=>
aq (tupV v_a 2) fun v_g=>
dj P 119 H_b n_c fun v_h H_i n_j=>
aq (bV P 119 v_h v_f H_i) fun H_m=>
binK P .neq 29 (.tmp 18) (.const (.int .i64 0)) v_g (.int .i64 0) fun v_p=>
ifK v_p (
some ((Value.tuple ⟨[(.slice none 0 0),(.slice none 0 0),v_g]⟩),H_m,n_j)) (
aq (aW v_h) fun a_w=>aq (az P H_m 119 a_w) fun v_v=>
aY P cal 66 [v_e,v_v] H_m n_j fun v_x H_y n_z=>
dj P 109 H_y n_z fun v_10 H_11 n_12=>
aq (bV P 109 v_10 v_x H_11) fun H_14=>
aq (nilV v_e) fun v_16=>
aq (ax P 115 v_16 0) fun v_17=>
aq (ax P 35 v_17 0) fun v_18=>
aq (aW v_18) fun a_1a=>aq (az P H_14 31 a_1a) fun v_19=>
aq (lenV P 31 v_19) fun v_1b=>
j1 (.slice none 0 0) (.slice none 0 0) v_e v_10 v_1b (.int .i64 0) H_14 n_12)
noncomputable def ZW(cal:Cal)(k:Nat)(v0 v1:Value)(H:Hp)(n:Nat):Res:=B24_0 cal k (S24_1 cal k k) v0 v1 H n
theorem h24_0(cal:Cal)(k:Nat)(v0 v1:Value)(H:Hp)(n:Nat):aK P cal A (k+1) 24 [v0,v1] H n=ZW cal k v0 v1 H n:=by
 have h:aK P cal A (k+1) 24 [v0,v1] H n=B24_0 cal k (fun u4 u5 u7 u9 u29 u30 H n=>labK (E24_1 cal k k) (Tr.set (Tr.set (Tr.set (Tr.set (Tr.set (Tr.set Tr.nil 30 (some u30)) 29 (some u29)) 9 (some u9)) 7 (some u7)) 5 (some u5)) 4 (some u4)) H n []) v0 v1 H n:=by
  rw[bX (fn:=Go.Proofs.Try.f24) (c:=ow) (rs:=dZ) (by kernel_rfl) (by kernel_rfl) (by kernel_rfl) (by kernel_rfl)]
  kernel_rfl
 rw[h,ZW]
 have e1:(fun u4 u5 u7 u9 u29 u30 H n=>labK (E24_1 cal k k) (Tr.set (Tr.set (Tr.set (Tr.set (Tr.set (Tr.set Tr.nil 30 (some u30)) 29 (some u29)) 9 (some u9)) 7 (some u7)) 5 (some u5)) 4 (some u4)) H n [])=(S24_1 cal k k):=by funext u4 u5 u7 u9 u29 u30 H n; exact q24_1 ..
 rw[e1]
noncomputable def Gw:Code:=cW 25
noncomputable def lK:List ResultVar:=eX 25
noncomputable def K25_p(cal:Cal)(k:Nat):KR:=(cutK (A 25).c (ay P cal (aw P cal k) none 25 (cR Gw) (Lv.b (A 25)) (av P lK) X0 (av P lK)))
noncomputable def K25_pr(cal:Cal)(k:Nat):KR:=(cutK (Lv.b (A 25)).c (ay P cal (aw P cal k) none 25 (cR (cR Gw)) (Lv.b (Lv.b (A 25))) (av P lK) X0 (av P lK)))
noncomputable def K25_prl(cal:Cal)(k:Nat):KR:=(cutK (Lv.a (Lv.b (A 25))).c (ay P cal (aw P cal k) none 25 (cR (cL (cR Gw))) (Lv.b (Lv.a (Lv.b (A 25)))) (K25_pr cal k) X0 (av P lK)))
noncomputable def K25_prlr(cal:Cal)(k:Nat):KR:=(cutK (Lv.b (Lv.a (Lv.b (A 25)))).c (ay P cal (aw P cal k) none 25 (cR (cR (cL (cR Gw)))) (Lv.b (Lv.b (Lv.a (Lv.b (A 25))))) (K25_pr cal k) X0 (av P lK)))
noncomputable def K25_prlrrl(cal:Cal)(k:Nat):KR:=(cutK (Lv.a (Lv.b (Lv.b (Lv.a (Lv.b (A 25)))))).c (ay P cal (aw P cal k) none 25 (cR (cL (cR (cR (cL (cR Gw)))))) (Lv.b (Lv.a (Lv.b (Lv.b (Lv.a (Lv.b (A 25))))))) (K25_pr cal k) X0 (av P lK)))
noncomputable def K25_prr(cal:Cal)(k:Nat):KR:=(cutK (Lv.b (Lv.b (A 25))).c (ay P cal (aw P cal k) none 25 (cR (cR (cR Gw))) (Lv.b (Lv.b (Lv.b (A 25)))) (av P lK) X0 (av P lK)))
noncomputable def K25_prrl(cal:Cal)(k:Nat):KR:=(cutK (Lv.a (Lv.b (Lv.b (A 25)))).c (ay P cal (aw P cal k) none 25 (cR (cL (cR (cR Gw)))) (Lv.b (Lv.a (Lv.b (Lv.b (A 25))))) (K25_prr cal k) X0 (av P lK)))
noncomputable def K25_prrlrl(cal:Cal)(k:Nat):KR:=(cutK (Lv.a (Lv.b (Lv.a (Lv.b (Lv.b (A 25)))))).c (ay P cal (aw P cal k) none 25 (cR (cL (cR (cL (cR (cR Gw)))))) (Lv.b (Lv.a (Lv.b (Lv.a (Lv.b (Lv.b (A 25))))))) (K25_prr cal k) X0 (av P lK)))
noncomputable def K25_prrr(cal:Cal)(k:Nat):KR:=(cutK (Lv.b (Lv.b (Lv.b (A 25)))).c (ay P cal (aw P cal k) none 25 (cR (cR (cR (cR Gw)))) (Lv.b (Lv.b (Lv.b (Lv.b (A 25))))) (av P lK) X0 (av P lK)))
noncomputable def B25_0(cal:Cal)(k:Nat)(v0 v1:Value)(H:Hp)(n:Nat):Res:=
boxK 26 v0 H n fun v_1 H_2 n_3=>
aq (aW v_1) fun a_6=>aq (az P H_2 26 a_6) fun v_5=>
aY P cal 20 [v_5] H_2 n_3 fun v_7 H_8 n_9=>
binK P .neq 29 (.tmp 8) (.const (.int .i64 0)) v_7 (.int .i64 0) fun v_c=>
ifK v_c (
some (v_7,H_8,n_9)) (
aq (aW v_1) fun a_g=>aq (az P H_8 26 a_g) fun v_f=>
aY P cal 58 [v_f,v1] H_8 n_9 fun v_i H_j n_k=>
aq (fY P v_i (Op.unary UnOp.not v_i)) fun v_l=>
ifK v_l (
some ((.int .i64 2),H_j,n_k)) (
some ((.int .i64 0),H_j,n_k)))
noncomputable def C25_0(cal:Cal)(k:Nat)(v0 v1:Value)(H:Hp)(n:Nat):Res:=B25_0 cal k v0 v1 H n
theorem h25_0(cal:Cal)(k:Nat)(v0 v1:Value)(H:Hp)(n:Nat):aK P cal A (k+1) 25 [v0,v1] H n=C25_0 cal k v0 v1 H n:=by
 have h:aK P cal A (k+1) 25 [v0,v1] H n=B25_0 cal k v0 v1 H n:=by
  rw[bX (fn:=Go.Proofs.Try.f25) (c:=Gw) (rs:=lK) (by kernel_rfl) (by kernel_rfl) (by kernel_rfl) (by kernel_rfl)]
  kernel_rfl
 rw[h,C25_0]
noncomputable def code26:Code:=cW 26
noncomputable def zy:List ResultVar:=eX 26
noncomputable def K26_p(cal:Cal)(k:Nat):KR:=(cutK (A 26).c (ay P cal (aw P cal k) none 26 (cR code26) (Lv.b (A 26)) (av P zy) X0 (av P zy)))
noncomputable def K26_pr(cal:Cal)(k:Nat):KR:=(cutK (Lv.b (A 26)).c (ay P cal (aw P cal k) none 26 (cR (cR code26)) (Lv.b (Lv.b (A 26))) (av P zy) X0 (av P zy)))
noncomputable def B26_0(cal:Cal)(k:Nat)(v0:Value)(H:Hp)(n:Nat):Res:=
boxK 55 v0 H n fun v_1 H_2 n_3=>
dj P 53 H_2 n_3 fun v_4 H_5 n_6=>
aq (ax P 55 v_1 0) fun v_7=>
aq (aW v_7) fun a_9=>aq (az P H_5 3 a_9) fun v_8=>
aq (ax P 55 v_1 1) fun v_a=>
aq (aW v_a) fun a_c=>aq (az P H_5 3 a_c) fun v_b=>
aq (fw P 53 [(0,v_8),(1,v_b)]) fun v_d=>
aq (bV P 53 v_4 v_d H_5) fun H_f=>
aq (resV P (Tr.set Tr.nil 2 (some v_4)) H_f zy) fun v_g=>some (oneV v_g,H_f,n_6)
noncomputable def C26_0(cal:Cal)(k:Nat)(v0:Value)(H:Hp)(n:Nat):Res:=B26_0 cal k v0 H n
theorem h26_0(cal:Cal)(k:Nat)(v0:Value)(H:Hp)(n:Nat):aK P cal A (k+1) 26 [v0] H n=C26_0 cal k v0 H n:=by
 have h:aK P cal A (k+1) 26 [v0] H n=B26_0 cal k v0 H n:=by
  rw[bX (fn:=Go.Proofs.Try.f26) (c:=code26) (rs:=zy) (by kernel_rfl) (by kernel_rfl) (by kernel_rfl) (by kernel_rfl)]
  kernel_rfl
 rw[h,C26_0]
noncomputable def code32:Code:=cW 32
noncomputable def HY:List ResultVar:=eX 32
noncomputable def K32_p(cal:Cal)(k:Nat):KR:=(cutK (A 32).c (ay P cal (aw P cal k) none 32 (cR code32) (Lv.b (A 32)) (av P HY) X0 (av P HY)))
noncomputable def K32_pr(cal:Cal)(k:Nat):KR:=(cutK (Lv.b (A 32)).c (ay P cal (aw P cal k) none 32 (cR (cR code32)) (Lv.b (Lv.b (A 32))) (av P HY) X0 (av P HY)))
noncomputable def B32_0(cal:Cal)(k:Nat)(v0 v1 v2:Value)(H:Hp)(n:Nat):Res:=
binK P .geq 3 (.tmp 7) (.tmp 8) v0 v1 fun v_4=>
aX v_4 true (fun k_6=>
k_6 v0 H n) H n fun v_7 H_8 n_9=>
aX v_4 true (fun k_b=>
k_b v2 H_8 n_9) H_8 n_9 fun v_c H_d n_e=>
aX v_4 true (fun k_g=>
binK P .leq 3 (.tmp 11) (.tmp 12) v_7 v_c fun v_k=>
k_g v_k H_d n_e) H_d n_e fun v_h H_i n_j=>
aq (fJ v_4 v_h (.bool false)) fun v_l=>
some (v_l,H_i,n_j)
noncomputable def C32_0(cal:Cal)(k:Nat)(v0 v1 v2:Value)(H:Hp)(n:Nat):Res:=B32_0 cal k v0 v1 v2 H n
theorem h32_0(cal:Cal)(k:Nat)(v0 v1 v2:Value)(H:Hp)(n:Nat):aK P cal A (k+1) 32 [v0,v1,v2] H n=C32_0 cal k v0 v1 v2 H n:=by
 have h:aK P cal A (k+1) 32 [v0,v1,v2] H n=B32_0 cal k v0 v1 v2 H n:=by
  rw[bX (fn:=Go.Proofs.Try.f32) (c:=code32) (rs:=HY) (by kernel_rfl) (by kernel_rfl) (by kernel_rfl) (by kernel_rfl)]
  kernel_rfl
 rw[h,C32_0]
noncomputable def xQ:Code:=cW 34
noncomputable def iX:List ResultVar:=eX 34
noncomputable def K34_p(cal:Cal)(k:Nat):KR:=(cutK (A 34).c (ay P cal (aw P cal k) none 34 (cR xQ) (Lv.b (A 34)) (av P iX) X0 (av P iX)))
noncomputable def K34_pr(cal:Cal)(k:Nat):KR:=(cutK (Lv.b (A 34)).c (ay P cal (aw P cal k) none 34 (cR (cR xQ)) (Lv.b (Lv.b (A 34))) (av P iX) X0 (av P iX)))
noncomputable def qdx(cal:Cal)(k:Nat):KR:=(cutK (Lv.b (Lv.b (A 34))).c (ay P cal (aw P cal k) none 34 (cR (cR (cR xQ))) (Lv.b (Lv.b (Lv.b (A 34)))) (av P iX) X0 (av P iX)))
noncomputable def K34_prrl(cal:Cal)(k:Nat):KR:=(cutK (Lv.a (Lv.b (Lv.b (A 34)))).c (ay P cal (aw P cal k) none 34 (cR (cL (cR (cR xQ)))) (Lv.b (Lv.a (Lv.b (Lv.b (A 34))))) (qdx cal k) X0 (av P iX)))
noncomputable def tj(cal:Cal)(k:Nat):XR:=(upX 0 (qdx cal k) X0)
noncomputable def JZ(cal:Cal)(k:Nat)(m1:Nat):KR:=(fun T H n D=>aw P cal m1 (Lv.a (Lv.b (Lv.a (Lv.b (Lv.b (A 34)))))) none 34 (cL (cR (cL (cR (cR xQ))))) (qdx cal k) (tj cal k) (av P iX) (cutT (Lv.a (Lv.b (Lv.a (Lv.b (Lv.b (A 34)))))).c T) H n D)
noncomputable def K34_prrlrll(cal:Cal)(k:Nat)(m1:Nat):KR:=(cutK (Lv.a (Lv.a (Lv.b (Lv.a (Lv.b (Lv.b (A 34))))))).c (ay P cal (aw P cal m1) none 34 (cR (cL (cL (cR (cL (cR (cR xQ))))))) (Lv.b (Lv.a (Lv.a (Lv.b (Lv.a (Lv.b (Lv.b (A 34)))))))) (JZ cal k m1) (tj cal k) (av P iX)))
noncomputable def K34_prrlrlll(cal:Cal)(k:Nat)(m1:Nat):KR:=(cutK (Lv.a (Lv.a (Lv.a (Lv.b (Lv.a (Lv.b (Lv.b (A 34)))))))).c (ay P cal (aw P cal m1) none 34 (cR (cL (cL (cL (cR (cL (cR (cR xQ)))))))) (Lv.b (Lv.a (Lv.a (Lv.a (Lv.b (Lv.a (Lv.b (Lv.b (A 34))))))))) (K34_prrlrll cal k m1) (tj cal k) (av P iX)))
noncomputable def K34_prrlrllr(cal:Cal)(k:Nat)(m1:Nat):KR:=(cutK (Lv.b (Lv.a (Lv.a (Lv.b (Lv.a (Lv.b (Lv.b (A 34)))))))).c (ay P cal (aw P cal m1) none 34 (cR (cR (cL (cL (cR (cL (cR (cR xQ)))))))) (Lv.b (Lv.b (Lv.a (Lv.a (Lv.b (Lv.a (Lv.b (Lv.b (A 34))))))))) (JZ cal k m1) (tj cal k) (av P iX)))
noncomputable def K34_pxrrlrllrl(cal:Cal)(k:Nat)(m1:Nat):XR:=(upX 1 (K34_prrlrllr cal k m1) (tj cal k))
noncomputable def K34_prrlrllrll(cal:Cal)(k:Nat)(m1:Nat):KR:=(cutK (Lv.a (Lv.a (Lv.b (Lv.a (Lv.a (Lv.b (Lv.a (Lv.b (Lv.b (A 34)))))))))).c (ay P cal (aw P cal m1) none 34 (cR (cL (cL (cR (cL (cL (cR (cL (cR (cR xQ)))))))))) (Lv.b (Lv.a (Lv.a (Lv.b (Lv.a (Lv.a (Lv.b (Lv.a (Lv.b (Lv.b (A 34))))))))))) (K34_prrlrllr cal k m1) (K34_pxrrlrllrl cal k m1) (av P iX)))
noncomputable def K34_prrr(cal:Cal)(k:Nat):KR:=(cutK (Lv.b (Lv.b (Lv.b (A 34)))).c (ay P cal (aw P cal k) none 34 (cR (cR (cR (cR xQ)))) (Lv.b (Lv.b (Lv.b (Lv.b (A 34))))) (av P iX) X0 (av P iX)))
noncomputable def E34_2(cal:Cal)(k m1:Nat):KR:=ay P cal (aw P cal m1) none 34 (cR (cR (cL (cL (cR (cL (cR (cR xQ)))))))) (Lv.b (Lv.b (Lv.a (Lv.a (Lv.b (Lv.a (Lv.b (Lv.b (A 34))))))))) (JZ cal k m1) (tj cal k) (av P iX)
noncomputable def E34_1(cal:Cal)(k m1:Nat):KR:=ay P cal (aw P cal m1) none 34 (cL (cL (cR (cL (cR (cR xQ)))))) (Lv.a (Lv.a (Lv.b (Lv.a (Lv.b (Lv.b (A 34))))))) (JZ cal k m1) (tj cal k) (av P iX)
noncomputable def ZX(cal:Cal)(k m1:Nat):V4:=fun u0 u1 u5 u6 H n=>aw P cal m1 (Lv.a (Lv.b (Lv.a (Lv.b (Lv.b (A 34)))))) none 34 (cL (cR (cL (cR (cR xQ))))) (qdx cal k) (tj cal k) (av P iX) (Tr.set (Tr.set (Tr.set (Tr.set Tr.nil 6 (some u6)) 5 (some u5)) 1 (some u1)) 0 (some u0)) H n []
noncomputable def B34_2(cal:Cal)(k m1:Nat)(b1:V4)(u0 u1 u5 u6:Value)(H:Hp)(n:Nat):Res:=
binK P .add 3 (.tmp 11) (.const (.int .i64 1)) u6 (.int .i64 1) fun v_9=>
b1 u0 u1 u5 v_9 H n
noncomputable def C34_2(cal:Cal)(k m1:Nat)(b1:V4)(u0 u1 u5 u6:Value)(H:Hp)(n:Nat):Res:=B34_2 cal k m1 b1 u0 u1 u5 u6 H n
theorem h34_2(cal:Cal)(k m1:Nat)(u0 u1 u5 u6:Value)(H:Hp)(n:Nat):labK (E34_2 cal k m1) (Tr.set (Tr.set (Tr.set (Tr.set Tr.nil 6 (some u6)) 5 (some u5)) 1 (some u1)) 0 (some u0)) H n []=C34_2 cal k m1 (ZX cal k m1) u0 u1 u5 u6 H n:=by
 refine Eq.trans (b:=B34_2 cal k m1 (ZX cal k m1) u0 u1 u5 u6 H n) (by kernel_rfl) ?_
 rw[C34_2]
noncomputable def B34_1(cal:Cal)(k m1:Nat)(j2:V4)(b1:V4)(u0 u1 u5 u6:Value)(H:Hp)(n:Nat):Res:=
aq (lenV P 59 u0) fun v_6=>
binK P .lss 3 (.tmp 7) (.tmp 9) u6 v_6 fun v_7=>
ifK v_7 (
aq (aV P 59 u0 u6) fun v_d=>
aq (aW v_d) fun a_f=>aq (az P H 44 a_f) fun v_e=>
aq (lenV P 44 v_e) fun v_g=>
binK P .gtr 3 (.tmp 17) (.const (.int .i64 0)) v_g (.int .i64 0) fun v_h=>
ifK v_h (
aq (aV P 59 u0 u6) fun v_l=>
aq (aW v_l) fun a_n=>aq (az P H 44 a_n) fun v_m=>
aq (aV P 44 v_m u1) fun v_p=>
aq (aW v_p) fun a_r=>aq (az P H 3 a_r) fun v_q=>
binK P .add 3 (.tmp 19) (.tmp 26) u5 v_q fun v_s=>
j2 u0 u1 v_s u6 H n) (
j2 u0 u1 u5 u6 H n)) (
some (u5,H,n))
noncomputable def C34_1(cal:Cal)(k m1:Nat)(b1:V4)(u0 u1 u5 u6:Value)(H:Hp)(n:Nat):Res:=B34_1 cal k m1 (C34_2 cal k m1 b1) b1 u0 u1 u5 u6 H n
noncomputable def S34_1(cal:Cal)(k:Nat):Nat→V4:=fun m=>Nat.rec (motive:=fun _=>V4) (C34_1 cal k 0 (fun _ _ _ _ _ _=>none)) (fun m ih=>C34_1 cal k (m+1) ih) m
theorem h34_1(cal:Cal)(k m1:Nat)(u0 u1 u5 u6:Value)(H:Hp)(n:Nat):labK (E34_1 cal k m1) (Tr.set (Tr.set (Tr.set (Tr.set Tr.nil 6 (some u6)) 5 (some u5)) 1 (some u1)) 0 (some u0)) H n []=C34_1 cal k m1 (ZX cal k m1) u0 u1 u5 u6 H n:=by
 refine Eq.trans (b:=B34_1 cal k m1 (fun u0 u1 u5 u6 H n=>labK (E34_2 cal k m1) (Tr.set (Tr.set (Tr.set (Tr.set Tr.nil 6 (some u6)) 5 (some u5)) 1 (some u1)) 0 (some u0)) H n []) (ZX cal k m1) u0 u1 u5 u6 H n) (by kernel_rfl) ?_
 rw[C34_1]
 have e2:(fun u0 u1 u5 u6 H n=>labK (E34_2 cal k m1) (Tr.set (Tr.set (Tr.set (Tr.set Tr.nil 6 (some u6)) 5 (some u5)) 1 (some u1)) 0 (some u0)) H n [])=(C34_2 cal k m1 (ZX cal k m1)):=by funext u0 u1 u5 u6 H n; exact h34_2 ..
 rw[e2]
theorem q34_1(cal:Cal)(k:Nat):∀(m:Nat) (u0 u1 u5 u6:Value) (H:Hp) (n:Nat),labK (E34_1 cal k m) (Tr.set (Tr.set (Tr.set (Tr.set Tr.nil 6 (some u6)) 5 (some u5)) 1 (some u1)) 0 (some u0)) H n []=S34_1 cal k m u0 u1 u5 u6 H n
 | 0,u0,u1,u5,u6,H,n=>by
  rw[h34_1]
  have e:ZX cal k 0=fun _ _ _ _ _ _=>none:=by funext u0 u1 u5 u6 H n; kernel_rfl
  rw[e]; rfl
 | m+1,u0,u1,u5,u6,H,n=>by
  rw[h34_1]
  have e:ZX cal k (m+1)=S34_1 cal k m:=by
   funext u0 u1 u5 u6 H n
   have e:ZX cal k (m+1) u0 u1 u5 u6 H n=labK (E34_1 cal k m) (Tr.set (Tr.set (Tr.set (Tr.set Tr.nil 6 (some u6)) 5 (some u5)) 1 (some u1)) 0 (some u0)) H n []:=by kernel_rfl
   rw[e]; exact q34_1 ..
  rw[e]; rfl
noncomputable def B34_0(cal:Cal)(k:Nat)(j1:V4)(v0 v1:Value)(H:Hp)(n:Nat):Res:=
j1 v0 v1 (.int .i64 0) (.int .i64 0) H n
noncomputable def C34_0(cal:Cal)(k:Nat)(v0 v1:Value)(H:Hp)(n:Nat):Res:=B34_0 cal k (S34_1 cal k k) v0 v1 H n
theorem h34_0(cal:Cal)(k:Nat)(v0 v1:Value)(H:Hp)(n:Nat):aK P cal A (k+1) 34 [v0,v1] H n=C34_0 cal k v0 v1 H n:=by
 have h:aK P cal A (k+1) 34 [v0,v1] H n=B34_0 cal k (fun u0 u1 u5 u6 H n=>labK (E34_1 cal k k) (Tr.set (Tr.set (Tr.set (Tr.set Tr.nil 6 (some u6)) 5 (some u5)) 1 (some u1)) 0 (some u0)) H n []) v0 v1 H n:=by
  rw[bX (fn:=Go.Proofs.Try.f34) (c:=xQ) (rs:=iX) (by kernel_rfl) (by kernel_rfl) (by kernel_rfl) (by kernel_rfl)]
  kernel_rfl
 rw[h,C34_0]
 have e1:(fun u0 u1 u5 u6 H n=>labK (E34_1 cal k k) (Tr.set (Tr.set (Tr.set (Tr.set Tr.nil 6 (some u6)) 5 (some u5)) 1 (some u1)) 0 (some u0)) H n [])=(S34_1 cal k k):=by funext u0 u1 u5 u6 H n; exact q34_1 ..
 rw[e1]
noncomputable def DY:Code:=cW 37
noncomputable def jX:List ResultVar:=eX 37
noncomputable def K37_p(cal:Cal)(k:Nat):KR:=(cutK (A 37).c (ay P cal (aw P cal k) none 37 (cR DY) (Lv.b (A 37)) (av P jX) X0 (av P jX)))
noncomputable def K37_pr(cal:Cal)(k:Nat):KR:=(cutK (Lv.b (A 37)).c (ay P cal (aw P cal k) none 37 (cR (cR DY)) (Lv.b (Lv.b (A 37))) (av P jX) X0 (av P jX)))
noncomputable def K37_prr(cal:Cal)(k:Nat):KR:=(cutK (Lv.b (Lv.b (A 37))).c (ay P cal (aw P cal k) none 37 (cR (cR (cR DY))) (Lv.b (Lv.b (Lv.b (A 37)))) (av P jX) X0 (av P jX)))
noncomputable def K37_prrl(cal:Cal)(k:Nat):KR:=(cutK (Lv.a (Lv.b (Lv.b (A 37)))).c (ay P cal (aw P cal k) none 37 (cR (cL (cR (cR DY)))) (Lv.b (Lv.a (Lv.b (Lv.b (A 37))))) (K37_prr cal k) X0 (av P jX)))
noncomputable def K37_prrlrl(cal:Cal)(k:Nat):KR:=(cutK (Lv.a (Lv.b (Lv.a (Lv.b (Lv.b (A 37)))))).c (ay P cal (aw P cal k) none 37 (cR (cL (cR (cL (cR (cR DY)))))) (Lv.b (Lv.a (Lv.b (Lv.a (Lv.b (Lv.b (A 37))))))) (K37_prr cal k) X0 (av P jX)))
noncomputable def K37_prrr(cal:Cal)(k:Nat):KR:=(cutK (Lv.b (Lv.b (Lv.b (A 37)))).c (ay P cal (aw P cal k) none 37 (cR (cR (cR (cR DY)))) (Lv.b (Lv.b (Lv.b (Lv.b (A 37))))) (av P jX) X0 (av P jX)))
noncomputable def K37_prrrr(cal:Cal)(k:Nat):KR:=(cutK (Lv.b (Lv.b (Lv.b (Lv.b (A 37))))).c (ay P cal (aw P cal k) none 37 (cR (cR (cR (cR (cR DY))))) (Lv.b (Lv.b (Lv.b (Lv.b (Lv.b (A 37)))))) (av P jX) X0 (av P jX)))
noncomputable def K37_prrrrl(cal:Cal)(k:Nat):KR:=(cutK (Lv.a (Lv.b (Lv.b (Lv.b (Lv.b (A 37)))))).c (ay P cal (aw P cal k) none 37 (cR (cL (cR (cR (cR (cR DY)))))) (Lv.b (Lv.a (Lv.b (Lv.b (Lv.b (Lv.b (A 37))))))) (K37_prrrr cal k) X0 (av P jX)))
noncomputable def K37_prrrrlrl(cal:Cal)(k:Nat):KR:=(cutK (Lv.a (Lv.b (Lv.a (Lv.b (Lv.b (Lv.b (Lv.b (A 37)))))))).c (ay P cal (aw P cal k) none 37 (cR (cL (cR (cL (cR (cR (cR (cR DY)))))))) (Lv.b (Lv.a (Lv.b (Lv.a (Lv.b (Lv.b (Lv.b (Lv.b (A 37))))))))) (K37_prrrr cal k) X0 (av P jX)))
noncomputable def K37_prrrrr(cal:Cal)(k:Nat):KR:=(cutK (Lv.b (Lv.b (Lv.b (Lv.b (Lv.b (A 37)))))).c (ay P cal (aw P cal k) none 37 (cR (cR (cR (cR (cR (cR DY)))))) (Lv.b (Lv.b (Lv.b (Lv.b (Lv.b (Lv.b (A 37))))))) (av P jX) X0 (av P jX)))
noncomputable def B37_0(cal:Cal)(k:Nat)(v0 v1:Value)(H:Hp)(n:Nat):Res:=
boxK 35 v0 H n fun v_1 H_2 n_3=>
aq (aW v_1) fun a_7=>aq (az P H_2 35 a_7) fun v_6=>
aY P cal 65 [v_6,v1] H_2 n_3 fun v_9 H_a n_b=>
aq (tupV v_9 0) fun v_d=>
aq (tupV v_9 1) fun v_e=>
aq (tupV v_9 2) fun v_f=>
dj P 119 H_a n_b fun v_g H_h n_i=>
aq (bV P 119 v_g v_e H_h) fun H_l=>
binK P .neq 29 (.tmp 18) (.const (.int .i64 0)) v_f (.int .i64 0) fun v_o=>
ifK v_o (
some ((Value.tuple ⟨[(.slice none 0 0),v_f]⟩),H_l,n_i)) (
aq (aW v_g) fun a_u=>aq (az P H_l 119 a_u) fun v_t=>
aY P cal 78 [v_d,v_t] H_l n_i fun v_v H_w n_x=>
aq (tupV v_v 0) fun v_z=>
aq (tupV v_v 1) fun v_10=>
aq (fY P v_10 (Op.unary UnOp.not v_10)) fun v_14=>
ifK v_14 (
some ((Value.tuple ⟨[(.slice none 0 0),(.int .i64 9)]⟩),H_w,n_x)) (
some ((Value.tuple ⟨[v_z,(.int .i64 0)]⟩),H_w,n_x)))
noncomputable def ZY(cal:Cal)(k:Nat)(v0 v1:Value)(H:Hp)(n:Nat):Res:=B37_0 cal k v0 v1 H n
theorem h37_0(cal:Cal)(k:Nat)(v0 v1:Value)(H:Hp)(n:Nat):aK P cal A (k+1) 37 [v0,v1] H n=ZY cal k v0 v1 H n:=by
 have h:aK P cal A (k+1) 37 [v0,v1] H n=B37_0 cal k v0 v1 H n:=by
  rw[bX (fn:=Go.Proofs.Try.f37) (c:=DY) (rs:=jX) (by kernel_rfl) (by kernel_rfl) (by kernel_rfl) (by kernel_rfl)]
  kernel_rfl
 rw[h,ZY]
noncomputable def code38:Code:=cW 38
noncomputable def zk:List ResultVar:=eX 38
noncomputable def K38_p(cal:Cal)(k:Nat):KR:=(cutK (A 38).c (ay P cal (aw P cal k) none 38 (cR code38) (Lv.b (A 38)) (av P zk) X0 (av P zk)))
noncomputable def K38_pr(cal:Cal)(k:Nat):KR:=(cutK (Lv.b (A 38)).c (ay P cal (aw P cal k) none 38 (cR (cR code38)) (Lv.b (Lv.b (A 38))) (av P zk) X0 (av P zk)))
noncomputable def K38_prr(cal:Cal)(k:Nat):KR:=(cutK (Lv.b (Lv.b (A 38))).c (ay P cal (aw P cal k) none 38 (cR (cR (cR code38))) (Lv.b (Lv.b (Lv.b (A 38)))) (av P zk) X0 (av P zk)))
noncomputable def B38_0(cal:Cal)(k:Nat)(v0 v1 v2:Value)(H:Hp)(n:Nat):Res:=
boxK 35 v0 H n fun v_1 H_2 n_3=>
aq (aW v_1) fun a_6=>aq (az P H_2 35 a_6) fun v_5=>
aY P cal 65 [v_5,v1] H_2 n_3 fun v_8 H_9 n_a=>
aq (tupV v_8 0) fun v_c=>
aq (tupV v_8 1) fun v_d=>
aq (tupV v_8 2) fun v_e=>
dj P 119 H_9 n_a fun v_f H_g n_h=>
aq (bV P 119 v_f v_d H_g) fun H_k=>
binK P .eql 29 (.tmp 17) (.const (.int .i64 0)) v_e (.int .i64 0) fun v_n=>
aX v_n true (fun k_p=>
k_p v_c H_k n_h) H_k n_h fun v_q H_r n_s=>
aX v_n true (fun k_u=>
aq (aW v_f) fun a_z=>aq (az P H_r 119 a_z) fun v_y=>
k_u v_y H_r n_s) H_r n_s fun v_v H_w n_x=>
aX v_n true (fun k_10=>
k_10 v2 H_w n_x) H_w n_x fun v_11 H_12 n_13=>
aX v_n true (fun k_15=>
aY P cal 79 [v_q,v_v,v_11] H_12 n_13 fun v_19 H_1a n_1b=>
k_15 v_19 H_1a n_1b) H_12 n_13 fun v_16 H_17 n_18=>
aq (fJ v_n v_16 (.bool false)) fun v_1c=>
aX v_1c true (fun k_1e=>
k_1e v_c H_17 n_18) H_17 n_18 fun v_1f H_1g n_1h=>
aX v_1c true (fun k_1j=>
k_1j v2 H_1g n_1h) H_1g n_1h fun v_1k H_1l n_1m=>
aX v_1c true (fun k_1o=>
aY P cal 80 [v_1f,v_1k] H_1l n_1m fun v_1s H_1t n_1u=>
k_1o v_1s H_1t n_1u) H_1l n_1m fun v_1p H_1q n_1r=>
aq (fJ v_1c v_1p (.bool false)) fun v_1v=>
some (v_1v,H_1q,n_1r)
noncomputable def C38_0(cal:Cal)(k:Nat)(v0 v1 v2:Value)(H:Hp)(n:Nat):Res:=B38_0 cal k v0 v1 v2 H n
theorem h38_0(cal:Cal)(k:Nat)(v0 v1 v2:Value)(H:Hp)(n:Nat):aK P cal A (k+1) 38 [v0,v1,v2] H n=C38_0 cal k v0 v1 v2 H n:=by
 have h:aK P cal A (k+1) 38 [v0,v1,v2] H n=B38_0 cal k v0 v1 v2 H n:=by
  rw[bX (fn:=Go.Proofs.Try.f38) (c:=code38) (rs:=zk) (by kernel_rfl) (by kernel_rfl) (by kernel_rfl) (by kernel_rfl)]
  kernel_rfl
 rw[h,C38_0]
noncomputable def zJ:Code:=cW 40
noncomputable def kW:List ResultVar:=eX 40
noncomputable def K40_p(cal:Cal)(k:Nat):KR:=(cutK (A 40).c (ay P cal (aw P cal k) none 40 (cR zJ) (Lv.b (A 40)) (av P kW) X0 (av P kW)))
noncomputable def K40_pr(cal:Cal)(k:Nat):KR:=(cutK (Lv.b (A 40)).c (ay P cal (aw P cal k) none 40 (cR (cR zJ)) (Lv.b (Lv.b (A 40))) (av P kW) X0 (av P kW)))
noncomputable def K40_prl(cal:Cal)(k:Nat):KR:=(cutK (Lv.a (Lv.b (A 40))).c (ay P cal (aw P cal k) none 40 (cR (cL (cR zJ))) (Lv.b (Lv.a (Lv.b (A 40)))) (K40_pr cal k) X0 (av P kW)))
noncomputable def zQ(cal:Cal)(k:Nat):XR:=(upX 0 (K40_pr cal k) X0)
noncomputable def XJ(cal:Cal)(k:Nat)(m1:Nat):KR:=(fun T H n D=>aw P cal m1 (Lv.a (Lv.b (Lv.a (Lv.b (A 40))))) none 40 (cL (cR (cL (cR zJ)))) (K40_pr cal k) (zQ cal k) (av P kW) (cutT (Lv.a (Lv.b (Lv.a (Lv.b (A 40))))).c T) H n D)
noncomputable def K40_prlrll(cal:Cal)(k:Nat)(m1:Nat):KR:=(cutK (Lv.a (Lv.a (Lv.b (Lv.a (Lv.b (A 40)))))).c (ay P cal (aw P cal m1) none 40 (cR (cL (cL (cR (cL (cR zJ)))))) (Lv.b (Lv.a (Lv.a (Lv.b (Lv.a (Lv.b (A 40))))))) (XJ cal k m1) (zQ cal k) (av P kW)))
noncomputable def K40_prlrlll(cal:Cal)(k:Nat)(m1:Nat):KR:=(cutK (Lv.a (Lv.a (Lv.a (Lv.b (Lv.a (Lv.b (A 40))))))).c (ay P cal (aw P cal m1) none 40 (cR (cL (cL (cL (cR (cL (cR zJ))))))) (Lv.b (Lv.a (Lv.a (Lv.a (Lv.b (Lv.a (Lv.b (A 40)))))))) (K40_prlrll cal k m1) (zQ cal k) (av P kW)))
noncomputable def Nx(cal:Cal)(k:Nat)(m1:Nat):KR:=(cutK (Lv.b (Lv.a (Lv.a (Lv.b (Lv.a (Lv.b (A 40))))))).c (ay P cal (aw P cal m1) none 40 (cR (cR (cL (cL (cR (cL (cR zJ))))))) (Lv.b (Lv.b (Lv.a (Lv.a (Lv.b (Lv.a (Lv.b (A 40)))))))) (XJ cal k m1) (zQ cal k) (av P kW)))
noncomputable def K40_pxrlrllrl(cal:Cal)(k:Nat)(m1:Nat):XR:=(upX 1 (Nx cal k m1) (zQ cal k))
noncomputable def K40_prlrllrll(cal:Cal)(k:Nat)(m1:Nat):KR:=(cutK (Lv.a (Lv.a (Lv.b (Lv.a (Lv.a (Lv.b (Lv.a (Lv.b (A 40))))))))).c (ay P cal (aw P cal m1) none 40 (cR (cL (cL (cR (cL (cL (cR (cL (cR zJ))))))))) (Lv.b (Lv.a (Lv.a (Lv.b (Lv.a (Lv.a (Lv.b (Lv.a (Lv.b (A 40)))))))))) (Nx cal k m1) (K40_pxrlrllrl cal k m1) (av P kW)))
noncomputable def K40_prlrllrllrl(cal:Cal)(k:Nat)(m1:Nat):KR:=(cutK (Lv.a (Lv.b (Lv.a (Lv.a (Lv.b (Lv.a (Lv.a (Lv.b (Lv.a (Lv.b (A 40))))))))))).c (ay P cal (aw P cal m1) none 40 (cR (cL (cR (cL (cL (cR (cL (cL (cR (cL (cR zJ))))))))))) (Lv.b (Lv.a (Lv.b (Lv.a (Lv.a (Lv.b (Lv.a (Lv.a (Lv.b (Lv.a (Lv.b (A 40)))))))))))) (Nx cal k m1) (K40_pxrlrllrl cal k m1) (av P kW)))
noncomputable def K40_prr(cal:Cal)(k:Nat):KR:=(cutK (Lv.b (Lv.b (A 40))).c (ay P cal (aw P cal k) none 40 (cR (cR (cR zJ))) (Lv.b (Lv.b (Lv.b (A 40)))) (av P kW) X0 (av P kW)))
noncomputable def E40_1(cal:Cal)(k m1:Nat):KR:=ay P cal (aw P cal m1) none 40 (cL (cL (cR (cL (cR zJ))))) (Lv.a (Lv.a (Lv.b (Lv.a (Lv.b (A 40)))))) (XJ cal k m1) (zQ cal k) (av P kW)
noncomputable def R40_1(cal:Cal)(k m1:Nat):V3:=fun u1 u2 u5 H n=>aw P cal m1 (Lv.a (Lv.b (Lv.a (Lv.b (A 40))))) none 40 (cL (cR (cL (cR zJ)))) (K40_pr cal k) (zQ cal k) (av P kW) (Tr.set (Tr.set (Tr.set Tr.nil 5 (some u5)) 2 (some u2)) 1 (some u1)) H n []
noncomputable def B40_1(cal:Cal)(k m1:Nat)(b1:V3)(u1 u2 u5:Value)(H:Hp)(n:Nat):Res:=
aq (ax P 26 u2 0) fun v_7=>
aq (aW v_7) fun a_9=>aq (az P H 22 a_9) fun v_8=>
aq (lenV P 22 v_8) fun v_a=>
binK P .lss 3 (.tmp 6) (.tmp 9) u5 v_a fun v_b=>
ifK v_b (
aq (ax P 26 u2 0) fun v_e=>
aq (aW v_e) fun a_f=>aq (az P H 22 a_f) fun v_g=>
aq (aV P 22 v_g u5) fun v_i=>
aq (ax P 95 v_i 0) fun v_j=>
aq (aW v_j) fun a_k=>aq (az P H 3 a_k) fun v_l=>
aq (ax P 26 u2 0) fun v_m=>
aq (aW v_m) fun a_n=>aq (az P H 22 a_n) fun v_o=>
aq (aV P 22 v_o u5) fun v_q=>
aq (ax P 95 v_q 1) fun v_r=>
aq (aW v_r) fun a_s=>aq (az P H 3 a_s) fun v_t=>
effK P [(.l 3 a_s),(.l 22 a_n),(.l 3 a_k),(.l 22 a_f)] H n (fun H_u n_v k_w=>
aY P cal 34 [u1,u5] H_u n_v fun v_10 H_11 n_12=>
k_w v_10 H_11 n_12) fun v_x H_y n_z=>
aY P cal 32 [v_x,v_l,v_t] H_y n_z fun v_13 H_14 n_15=>
aq (fY P v_13 (Op.unary UnOp.not v_13)) fun v_16=>
ifK v_16 (
some ((.bool false),H_14,n_15)) (
binK P .add 3 (.tmp 11) (.const (.int .i64 1)) u5 (.int .i64 1) fun v_19=>
b1 u1 u2 v_19 H_14 n_15)) (
some ((.bool true),H,n))
noncomputable def C40_1(cal:Cal)(k m1:Nat)(b1:V3)(u1 u2 u5:Value)(H:Hp)(n:Nat):Res:=B40_1 cal k m1 b1 u1 u2 u5 H n
noncomputable def S40_1(cal:Cal)(k:Nat):Nat→V3:=fun m=>Nat.rec (motive:=fun _=>V3) (C40_1 cal k 0 (fun _ _ _ _ _=>none)) (fun m ih=>C40_1 cal k (m+1) ih) m
theorem h40_1(cal:Cal)(k m1:Nat)(u1 u2 u5:Value)(H:Hp)(n:Nat):labK (E40_1 cal k m1) (Tr.set (Tr.set (Tr.set Tr.nil 5 (some u5)) 2 (some u2)) 1 (some u1)) H n []=C40_1 cal k m1 (R40_1 cal k m1) u1 u2 u5 H n:=by
 refine Eq.trans (b:=B40_1 cal k m1 (R40_1 cal k m1) u1 u2 u5 H n) (by kernel_rfl) ?_
 rw[C40_1]
theorem q40_1(cal:Cal)(k:Nat):∀(m:Nat) (u1 u2 u5:Value) (H:Hp) (n:Nat),labK (E40_1 cal k m) (Tr.set (Tr.set (Tr.set Tr.nil 5 (some u5)) 2 (some u2)) 1 (some u1)) H n []=S40_1 cal k m u1 u2 u5 H n
 | 0,u1,u2,u5,H,n=>by
  rw[h40_1]
  have e:R40_1 cal k 0=fun _ _ _ _ _=>none:=by funext u1 u2 u5 H n; kernel_rfl
  rw[e]; rfl
 | m+1,u1,u2,u5,H,n=>by
  rw[h40_1]
  have e:R40_1 cal k (m+1)=S40_1 cal k m:=by
   funext u1 u2 u5 H n
   have e:R40_1 cal k (m+1) u1 u2 u5 H n=labK (E40_1 cal k m) (Tr.set (Tr.set (Tr.set Tr.nil 5 (some u5)) 2 (some u2)) 1 (some u1)) H n []:=by kernel_rfl
   rw[e]; exact q40_1 ..
  rw[e]; rfl
noncomputable def B40_0(cal:Cal)(k:Nat)(j1:V3)(v0 v1:Value)(H:Hp)(n:Nat):Res:=
boxK 26 v0 H n fun v_1 H_2 n_3=>
j1 v1 v_1 (.int .i64 0) H_2 n_3
noncomputable def C40_0(cal:Cal)(k:Nat)(v0 v1:Value)(H:Hp)(n:Nat):Res:=B40_0 cal k (S40_1 cal k k) v0 v1 H n
theorem h40_0(cal:Cal)(k:Nat)(v0 v1:Value)(H:Hp)(n:Nat):aK P cal A (k+1) 40 [v0,v1] H n=C40_0 cal k v0 v1 H n:=by
 have h:aK P cal A (k+1) 40 [v0,v1] H n=B40_0 cal k (fun u1 u2 u5 H n=>labK (E40_1 cal k k) (Tr.set (Tr.set (Tr.set Tr.nil 5 (some u5)) 2 (some u2)) 1 (some u1)) H n []) v0 v1 H n:=by
  rw[bX (fn:=Go.Proofs.Try.f40) (c:=zJ) (rs:=kW) (by kernel_rfl) (by kernel_rfl) (by kernel_rfl) (by kernel_rfl)]
  kernel_rfl
 rw[h,C40_0]
 have e1:(fun u1 u2 u5 H n=>labK (E40_1 cal k k) (Tr.set (Tr.set (Tr.set Tr.nil 5 (some u5)) 2 (some u2)) 1 (some u1)) H n [])=(S40_1 cal k k):=by funext u1 u2 u5 H n; exact q40_1 ..
 rw[e1]
noncomputable def code55:Code:=cW 55
noncomputable def HZ:List ResultVar:=eX 55
noncomputable def K55_p(cal:Cal)(k:Nat):KR:=(cutK (A 55).c (ay P cal (aw P cal k) none 55 (cR code55) (Lv.b (A 55)) (av P HZ) X0 (av P HZ)))
noncomputable def K55_pr(cal:Cal)(k:Nat):KR:=(cutK (Lv.b (A 55)).c (ay P cal (aw P cal k) none 55 (cR (cR code55)) (Lv.b (Lv.b (A 55))) (av P HZ) X0 (av P HZ)))
noncomputable def B55_0(cal:Cal)(k:Nat)(v0 v1:Value)(H:Hp)(n:Nat):Res:=
boxK 26 v0 H n fun v_1 H_2 n_3=>
aq (aW v_1) fun a_6=>aq (az P H_2 26 a_6) fun v_5=>
aY P cal 15 [v_5,v1] H_2 n_3 fun v_8 H_9 n_a=>
aX v_8 true (fun k_c=>
aq (aW v_1) fun a_h=>aq (az P H_9 26 a_h) fun v_g=>
k_c v_g H_9 n_a) H_9 n_a fun v_d H_e n_f=>
aX v_8 true (fun k_i=>
k_i v1 H_e n_f) H_e n_f fun v_j H_k n_l=>
aX v_8 true (fun k_n=>
aY P cal 25 [v_d,v_j] H_k n_l fun v_r H_s n_t=>
k_n v_r H_s n_t) H_k n_l fun v_o H_p n_q=>
aX v_8 true (fun k_u=>
binK P .eql 29 (.tmp 11) (.const (.int .i64 0)) v_o (.int .i64 0) fun v_y=>
k_u v_y H_p n_q) H_p n_q fun v_v H_w n_x=>
aq (fJ v_8 v_v (.bool false)) fun v_z=>
some (v_z,H_w,n_x)
noncomputable def C55_0(cal:Cal)(k:Nat)(v0 v1:Value)(H:Hp)(n:Nat):Res:=B55_0 cal k v0 v1 H n
theorem h55_0(cal:Cal)(k:Nat)(v0 v1:Value)(H:Hp)(n:Nat):aK P cal A (k+1) 55 [v0,v1] H n=C55_0 cal k v0 v1 H n:=by
 have h:aK P cal A (k+1) 55 [v0,v1] H n=B55_0 cal k v0 v1 H n:=by
  rw[bX (fn:=Go.Proofs.Try.f55) (c:=code55) (rs:=HZ) (by kernel_rfl) (by kernel_rfl) (by kernel_rfl) (by kernel_rfl)]
  kernel_rfl
 rw[h,C55_0]
noncomputable def uk:Code:=cW 58
noncomputable def gZ:List ResultVar:=eX 58
noncomputable def K58_p(cal:Cal)(k:Nat):KR:=(cutK (A 58).c (ay P cal (aw P cal k) none 58 (cR uk) (Lv.b (A 58)) (av P gZ) X0 (av P gZ)))
noncomputable def K58_pr(cal:Cal)(k:Nat):KR:=(cutK (Lv.b (A 58)).c (ay P cal (aw P cal k) none 58 (cR (cR uk)) (Lv.b (Lv.b (A 58))) (av P gZ) X0 (av P gZ)))
noncomputable def K58_prl(cal:Cal)(k:Nat):KR:=(cutK (Lv.a (Lv.b (A 58))).c (ay P cal (aw P cal k) none 58 (cR (cL (cR uk))) (Lv.b (Lv.a (Lv.b (A 58)))) (K58_pr cal k) X0 (av P gZ)))
noncomputable def K58_prlrl(cal:Cal)(k:Nat):KR:=(cutK (Lv.a (Lv.b (Lv.a (Lv.b (A 58))))).c (ay P cal (aw P cal k) none 58 (cR (cL (cR (cL (cR uk))))) (Lv.b (Lv.a (Lv.b (Lv.a (Lv.b (A 58)))))) (K58_pr cal k) X0 (av P gZ)))
noncomputable def qdj(cal:Cal)(k:Nat):KR:=(cutK (Lv.b (Lv.b (A 58))).c (ay P cal (aw P cal k) none 58 (cR (cR (cR uk))) (Lv.b (Lv.b (Lv.b (A 58)))) (av P gZ) X0 (av P gZ)))
noncomputable def K58_prrl(cal:Cal)(k:Nat):KR:=(cutK (Lv.a (Lv.b (Lv.b (A 58)))).c (ay P cal (aw P cal k) none 58 (cR (cL (cR (cR uk)))) (Lv.b (Lv.a (Lv.b (Lv.b (A 58))))) (qdj cal k) X0 (av P gZ)))
noncomputable def vX(cal:Cal)(k:Nat):XR:=(upX 0 (qdj cal k) X0)
noncomputable def SQ(cal:Cal)(k:Nat)(m1:Nat):KR:=(fun T H n D=>aw P cal m1 (Lv.a (Lv.b (Lv.a (Lv.b (Lv.b (A 58)))))) none 58 (cL (cR (cL (cR (cR uk))))) (qdj cal k) (vX cal k) (av P gZ) (cutT (Lv.a (Lv.b (Lv.a (Lv.b (Lv.b (A 58)))))).c T) H n D)
noncomputable def K58_prrlrll(cal:Cal)(k:Nat)(m1:Nat):KR:=(cutK (Lv.a (Lv.a (Lv.b (Lv.a (Lv.b (Lv.b (A 58))))))).c (ay P cal (aw P cal m1) none 58 (cR (cL (cL (cR (cL (cR (cR uk))))))) (Lv.b (Lv.a (Lv.a (Lv.b (Lv.a (Lv.b (Lv.b (A 58)))))))) (SQ cal k m1) (vX cal k) (av P gZ)))
noncomputable def K58_prrlrlll(cal:Cal)(k:Nat)(m1:Nat):KR:=(cutK (Lv.a (Lv.a (Lv.a (Lv.b (Lv.a (Lv.b (Lv.b (A 58)))))))).c (ay P cal (aw P cal m1) none 58 (cR (cL (cL (cL (cR (cL (cR (cR uk)))))))) (Lv.b (Lv.a (Lv.a (Lv.a (Lv.b (Lv.a (Lv.b (Lv.b (A 58))))))))) (K58_prrlrll cal k m1) (vX cal k) (av P gZ)))
noncomputable def JK(cal:Cal)(k:Nat)(m1:Nat):KR:=(cutK (Lv.b (Lv.a (Lv.a (Lv.b (Lv.a (Lv.b (Lv.b (A 58)))))))).c (ay P cal (aw P cal m1) none 58 (cR (cR (cL (cL (cR (cL (cR (cR uk)))))))) (Lv.b (Lv.b (Lv.a (Lv.a (Lv.b (Lv.a (Lv.b (Lv.b (A 58))))))))) (SQ cal k m1) (vX cal k) (av P gZ)))
noncomputable def K58_pxrrlrllrl(cal:Cal)(k:Nat)(m1:Nat):XR:=(upX 1 (JK cal k m1) (vX cal k))
noncomputable def K58_prrlrllrll(cal:Cal)(k:Nat)(m1:Nat):KR:=(cutK (Lv.a (Lv.a (Lv.b (Lv.a (Lv.a (Lv.b (Lv.a (Lv.b (Lv.b (A 58)))))))))).c (ay P cal (aw P cal m1) none 58 (cR (cL (cL (cR (cL (cL (cR (cL (cR (cR uk)))))))))) (Lv.b (Lv.a (Lv.a (Lv.b (Lv.a (Lv.a (Lv.b (Lv.a (Lv.b (Lv.b (A 58))))))))))) (JK cal k m1) (K58_pxrrlrllrl cal k m1) (av P gZ)))
noncomputable def K58_prrlrllrllrl(cal:Cal)(k:Nat)(m1:Nat):KR:=(cutK (Lv.a (Lv.b (Lv.a (Lv.a (Lv.b (Lv.a (Lv.a (Lv.b (Lv.a (Lv.b (Lv.b (A 58)))))))))))).c (ay P cal (aw P cal m1) none 58 (cR (cL (cR (cL (cL (cR (cL (cL (cR (cL (cR (cR uk)))))))))))) (Lv.b (Lv.a (Lv.b (Lv.a (Lv.a (Lv.b (Lv.a (Lv.a (Lv.b (Lv.a (Lv.b (Lv.b (A 58))))))))))))) (JK cal k m1) (K58_pxrrlrllrl cal k m1) (av P gZ)))
noncomputable def K58_prrr(cal:Cal)(k:Nat):KR:=(cutK (Lv.b (Lv.b (Lv.b (A 58)))).c (ay P cal (aw P cal k) none 58 (cR (cR (cR (cR uk)))) (Lv.b (Lv.b (Lv.b (Lv.b (A 58))))) (av P gZ) X0 (av P gZ)))
noncomputable def E58_1(cal:Cal)(k m1:Nat):KR:=ay P cal (aw P cal m1) none 58 (cL (cL (cR (cL (cR (cR uk)))))) (Lv.a (Lv.a (Lv.b (Lv.a (Lv.b (Lv.b (A 58))))))) (SQ cal k m1) (vX cal k) (av P gZ)
noncomputable def R58_1(cal:Cal)(k m1:Nat):V3:=fun u1 u2 u5 H n=>aw P cal m1 (Lv.a (Lv.b (Lv.a (Lv.b (Lv.b (A 58)))))) none 58 (cL (cR (cL (cR (cR uk))))) (qdj cal k) (vX cal k) (av P gZ) (Tr.set (Tr.set (Tr.set Tr.nil 5 (some u5)) 2 (some u2)) 1 (some u1)) H n []
noncomputable def B58_1(cal:Cal)(k m1:Nat)(b1:V3)(u1 u2 u5:Value)(H:Hp)(n:Nat):Res:=
aq (lenV P 44 u1) fun v_g=>
binK P .lss 3 (.tmp 12) (.tmp 14) u5 v_g fun v_h=>
ifK v_h (
aq (aV P 44 u1 u5) fun v_k=>
aq (aW v_k) fun a_l=>aq (az P H 3 a_l) fun v_m=>
binK P .neq 3 (.tmp 21) (.const (.int .i64 (-1))) v_m (.int .i64 (-1)) fun v_n=>
dw v_n true (fun k_p=>
k_p u1 .p H n) .p H n fun v_q x_r H_s n_t=>
dw v_n true (fun k_v=>
k_v u5 .p H_s n_t) .p H_s n_t fun v_w x_x H_y n_z=>
dw v_n true (fun k_11=>
aq (aV P 44 v_q v_w) fun v_16=>
k_11 v_16 .p H_y n_z) .p H_y n_z fun v_12 x_13 H_14 n_15=>
dw v_n true (fun k_17=>
aq (aW v_12) fun a_1c=>aq (az P H_14 3 a_1c) fun v_1d=>
k_17 v_1d (.l 3 a_1c) H_14 n_15) .p H_14 n_15 fun v_18 x_19 H_1a n_1b=>
dw v_n true (fun k_1e=>
aq (ax P 26 u2 2) fun v_1j=>
k_1e v_1j .p H_1a n_1b) .p H_1a n_1b fun v_1f x_1g H_1h n_1i=>
dw v_n true (fun k_1k=>
aq (aW v_1f) fun a_1p=>aq (az P H_1h 24 a_1p) fun v_1q=>
k_1k v_1q (.l 24 a_1p) H_1h n_1i) .p H_1h n_1i fun v_1l x_1m H_1n n_1o=>
dw v_n true (fun k_1r=>
aq (lenV P 24 v_1l) fun v_1w=>
k_1r v_1w .p H_1n n_1o) .p H_1n n_1o fun v_1s x_1t H_1u n_1v=>
dw v_n true (fun k_1x=>
binK P .sub 3 (.tmp 30) (.const (.int .i64 1)) v_1s (.int .i64 1) fun v_22=>
k_1x v_22 .p H_1u n_1v) .p H_1u n_1v fun v_1y x_1z H_20 n_21=>
dw v_n true (fun k_23=>
aY P cal 32 [v_18,(.int .i64 0),v_1y] H_20 n_21 fun v_28 H_29 n_2a=>
k_23 v_28 .e H_29 n_2a) .e H_20 n_21 fun v_24 x_25 H_26 n_27=>
dw v_n true (fun k_2b=>
aq (fY P v_24 (Op.unary UnOp.not v_24)) fun v_2g=>
k_2b v_2g .p H_26 n_27) .p H_26 n_27 fun v_2c x_2d H_2e n_2f=>
dw v_n true (fun k_2h=>
k_2h v_2c .p H_2e n_2f) .p H_2e n_2f fun v_2i x_2j H_2k n_2l=>
dw v_2i false (fun k_2n=>
aq (aW u2) fun a_2s=>aq (az P H_2k 26 a_2s) fun v_2t=>
k_2n v_2t (.l 26 a_2s) H_2k n_2l) .p H_2k n_2l fun v_2o x_2p H_2q n_2r=>
dw v_2i false (fun k_2u=>
k_2u u1 .p H_2q n_2r) .p H_2q n_2r fun v_2v x_2w H_2x n_2y=>
dw v_2i false (fun k_30=>
k_30 u5 .p H_2x n_2y) .p H_2x n_2y fun v_31 x_32 H_33 n_34=>
dw v_2i false (fun k_36=>
aq (aV P 44 v_2v v_31) fun v_3b=>
k_36 v_3b .p H_33 n_34) .p H_33 n_34 fun v_37 x_38 H_39 n_3a=>
dw v_2i false (fun k_3c=>
aq (aW v_37) fun a_3h=>aq (az P H_39 3 a_3h) fun v_3i=>
k_3c v_3i (.l 3 a_3h) H_39 n_3a) .p H_39 n_3a fun v_3d x_3e H_3f n_3g=>
dw v_2i false (fun k_3j=>
k_3j u5 .p H_3f n_3g) .p H_3f n_3g fun v_3k x_3l H_3m n_3n=>
dw v_2i false (fun k_3p=>
aY P cal 21 [v_2o,v_3d,v_3k] H_3m n_3n fun v_3u H_3v n_3w=>
k_3p v_3u .e H_3v n_3w) .e H_3m n_3n fun v_3q x_3r H_3s n_3t=>
dw v_2i false (fun k_3x=>
aq (fY P v_3q (Op.unary UnOp.not v_3q)) fun v_42=>
k_3x v_42 .p H_3s n_3t) .p H_3s n_3t fun v_3y x_3z H_40 n_41=>
dw v_n true (fun k_43=>
aq (fJ v_2i (.bool true) v_3y) fun v_48=>
k_43 v_48 .p H_40 n_41) .p H_40 n_41 fun v_44 x_45 H_46 n_47=>
aq (fJ v_n v_44 (.bool false)) fun v_49=>
ifK v_49 (
some ((.bool false),H_46,n_47)) (
binK P .add 3 (.tmp 16) (.const (.int .i64 1)) u5 (.int .i64 1) fun v_4c=>
b1 u1 u2 v_4c H_46 n_47)) (
some ((.bool true),H,n))
noncomputable def C58_1(cal:Cal)(k m1:Nat)(b1:V3)(u1 u2 u5:Value)(H:Hp)(n:Nat):Res:=B58_1 cal k m1 b1 u1 u2 u5 H n
noncomputable def S58_1(cal:Cal)(k:Nat):Nat→V3:=fun m=>Nat.rec (motive:=fun _=>V3) (C58_1 cal k 0 (fun _ _ _ _ _=>none)) (fun m ih=>C58_1 cal k (m+1) ih) m
theorem h58_1(cal:Cal)(k m1:Nat)(u1 u2 u5:Value)(H:Hp)(n:Nat):labK (E58_1 cal k m1) (Tr.set (Tr.set (Tr.set Tr.nil 5 (some u5)) 2 (some u2)) 1 (some u1)) H n []=C58_1 cal k m1 (R58_1 cal k m1) u1 u2 u5 H n:=by
 refine Eq.trans (b:=B58_1 cal k m1 (R58_1 cal k m1) u1 u2 u5 H n) (by kernel_rfl) ?_
 rw[C58_1]
theorem q58_1(cal:Cal)(k:Nat):∀(m:Nat) (u1 u2 u5:Value) (H:Hp) (n:Nat),labK (E58_1 cal k m) (Tr.set (Tr.set (Tr.set Tr.nil 5 (some u5)) 2 (some u2)) 1 (some u1)) H n []=S58_1 cal k m u1 u2 u5 H n
 | 0,u1,u2,u5,H,n=>by
  rw[h58_1]
  have e:R58_1 cal k 0=fun _ _ _ _ _=>none:=by funext u1 u2 u5 H n; kernel_rfl
  rw[e]; rfl
 | m+1,u1,u2,u5,H,n=>by
  rw[h58_1]
  have e:R58_1 cal k (m+1)=S58_1 cal k m:=by
   funext u1 u2 u5 H n
   have e:R58_1 cal k (m+1) u1 u2 u5 H n=labK (E58_1 cal k m) (Tr.set (Tr.set (Tr.set Tr.nil 5 (some u5)) 2 (some u2)) 1 (some u1)) H n []:=by kernel_rfl
   rw[e]; exact q58_1 ..
  rw[e]; rfl
noncomputable def B58_0(cal:Cal)(k:Nat)(j1:V3)(v0 v1:Value)(H:Hp)(n:Nat):Res:=
boxK 26 v0 H n fun v_1 H_2 n_3=>
aq (lenV P 44 v1) fun v_6=>
aq (ax P 26 v_1 0) fun v_7=>
aq (aW v_7) fun a_9=>aq (az P H_2 22 a_9) fun v_8=>
aq (lenV P 22 v_8) fun v_a=>
binK P .neq 3 (.tmp 7) (.tmp 10) v_6 v_a fun v_b=>
ifK v_b (
some ((.bool false),H_2,n_3)) (
j1 v1 v_1 (.int .i64 0) H_2 n_3)
noncomputable def C58_0(cal:Cal)(k:Nat)(v0 v1:Value)(H:Hp)(n:Nat):Res:=B58_0 cal k (S58_1 cal k k) v0 v1 H n
theorem h58_0(cal:Cal)(k:Nat)(v0 v1:Value)(H:Hp)(n:Nat):aK P cal A (k+1) 58 [v0,v1] H n=C58_0 cal k v0 v1 H n:=by
 have h:aK P cal A (k+1) 58 [v0,v1] H n=B58_0 cal k (fun u1 u2 u5 H n=>labK (E58_1 cal k k) (Tr.set (Tr.set (Tr.set Tr.nil 5 (some u5)) 2 (some u2)) 1 (some u1)) H n []) v0 v1 H n:=by
  rw[bX (fn:=Go.Proofs.Try.f58) (c:=uk) (rs:=gZ) (by kernel_rfl) (by kernel_rfl) (by kernel_rfl) (by kernel_rfl)]
  kernel_rfl
 rw[h,C58_0]
 have e1:(fun u1 u2 u5 H n=>labK (E58_1 cal k k) (Tr.set (Tr.set (Tr.set Tr.nil 5 (some u5)) 2 (some u2)) 1 (some u1)) H n [])=(S58_1 cal k k):=by funext u1 u2 u5 H n; exact q58_1 ..
 rw[e1]
end Go.Proofs.Ytndkmmelelchcaa.G
