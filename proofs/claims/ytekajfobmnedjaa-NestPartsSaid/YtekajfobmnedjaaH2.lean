/- The texts of functions, each with the proof that the evaluator says the same. -/
import Derived.Test.YtekajfobmnedjaaH1
open Go Go.Ev
set_option maxRecDepth 1000000
set_option linter.unusedVariables false
noncomputable section
namespace Go.Proofs.Ytekajfobmnedjaa.G
noncomputable def xQ:Code:=cw 9
noncomputable def eQ:List ResultVar:=dj 9
noncomputable def K9_p (cal:Cal) (k:Nat):KR:=(cutK (A 9).c (az P cal (ax P cal k) none 9 (cR xQ) (Lv.b (A 9)) (aw P eQ) X0 (aw P eQ)))
noncomputable def K9_pr (cal:Cal) (k:Nat):KR:=(cutK (Lv.b (A 9)).c (az P cal (ax P cal k) none 9 (cR (cR xQ)) (Lv.b (Lv.b (A 9))) (aw P eQ) X0 (aw P eQ)))
noncomputable def K9_prl (cal:Cal) (k:Nat):KR:=(cutK (Lv.a (Lv.b (A 9))).c (az P cal (ax P cal k) none 9 (cR (cL (cR xQ))) (Lv.b (Lv.a (Lv.b (A 9)))) (K9_pr cal k) X0 (aw P eQ)))
noncomputable def K9_prlrl (cal:Cal) (k:Nat):KR:=(cutK (Lv.a (Lv.b (Lv.a (Lv.b (A 9))))).c (az P cal (ax P cal k) none 9 (cR (cL (cR (cL (cR xQ))))) (Lv.b (Lv.a (Lv.b (Lv.a (Lv.b (A 9)))))) (K9_pr cal k) X0 (aw P eQ)))
noncomputable def K9_prr (cal:Cal) (k:Nat):KR:=(cutK (Lv.b (Lv.b (A 9))).c (az P cal (ax P cal k) none 9 (cR (cR (cR xQ))) (Lv.b (Lv.b (Lv.b (A 9)))) (aw P eQ) X0 (aw P eQ)))
noncomputable def K9_prrr (cal:Cal) (k:Nat):KR:=(cutK (Lv.b (Lv.b (Lv.b (A 9)))).c (az P cal (ax P cal k) none 9 (cR (cR (cR (cR xQ)))) (Lv.b (Lv.b (Lv.b (Lv.b (A 9))))) (aw P eQ) X0 (aw P eQ)))
noncomputable def K9_prrrr (cal:Cal) (k:Nat):KR:=(cutK (Lv.b (Lv.b (Lv.b (Lv.b (A 9))))).c (az P cal (ax P cal k) none 9 (cR (cR (cR (cR (cR xQ))))) (Lv.b (Lv.b (Lv.b (Lv.b (Lv.b (A 9)))))) (aw P eQ) X0 (aw P eQ)))
noncomputable def K9_prrrrr (cal:Cal) (k:Nat):KR:=(cutK (Lv.b (Lv.b (Lv.b (Lv.b (Lv.b (A 9)))))).c (az P cal (ax P cal k) none 9 (cR (cR (cR (cR (cR (cR xQ)))))) (Lv.b (Lv.b (Lv.b (Lv.b (Lv.b (Lv.b (A 9))))))) (aw P eQ) X0 (aw P eQ)))
noncomputable def K9_prrrrrl (cal:Cal) (k:Nat):KR:=(cutK (Lv.a (Lv.b (Lv.b (Lv.b (Lv.b (Lv.b (A 9))))))).c (az P cal (ax P cal k) none 9 (cR (cL (cR (cR (cR (cR (cR xQ))))))) (Lv.b (Lv.a (Lv.b (Lv.b (Lv.b (Lv.b (Lv.b (A 9)))))))) (K9_prrrrr cal k) X0 (aw P eQ)))
noncomputable def K9_prrrrrlrl (cal:Cal) (k:Nat):KR:=(cutK (Lv.a (Lv.b (Lv.a (Lv.b (Lv.b (Lv.b (Lv.b (Lv.b (A 9))))))))).c (az P cal (ax P cal k) none 9 (cR (cL (cR (cL (cR (cR (cR (cR (cR xQ))))))))) (Lv.b (Lv.a (Lv.b (Lv.a (Lv.b (Lv.b (Lv.b (Lv.b (Lv.b (A 9)))))))))) (K9_prrrrr cal k) X0 (aw P eQ)))
noncomputable def K9_prrrrrr (cal:Cal) (k:Nat):KR:=(cutK (Lv.b (Lv.b (Lv.b (Lv.b (Lv.b (Lv.b (A 9))))))).c (az P cal (ax P cal k) none 9 (cR (cR (cR (cR (cR (cR (cR xQ))))))) (Lv.b (Lv.b (Lv.b (Lv.b (Lv.b (Lv.b (Lv.b (A 9)))))))) (aw P eQ) X0 (aw P eQ)))
noncomputable def K9_prrrrrrl (cal:Cal) (k:Nat):KR:=(cutK (Lv.a (Lv.b (Lv.b (Lv.b (Lv.b (Lv.b (Lv.b (A 9)))))))).c (az P cal (ax P cal k) none 9 (cR (cL (cR (cR (cR (cR (cR (cR xQ)))))))) (Lv.b (Lv.a (Lv.b (Lv.b (Lv.b (Lv.b (Lv.b (Lv.b (A 9))))))))) (K9_prrrrrr cal k) X0 (aw P eQ)))
noncomputable def K9_prrrrrrlrl (cal:Cal) (k:Nat):KR:=(cutK (Lv.a (Lv.b (Lv.a (Lv.b (Lv.b (Lv.b (Lv.b (Lv.b (Lv.b (A 9)))))))))).c (az P cal (ax P cal k) none 9 (cR (cL (cR (cL (cR (cR (cR (cR (cR (cR xQ)))))))))) (Lv.b (Lv.a (Lv.b (Lv.a (Lv.b (Lv.b (Lv.b (Lv.b (Lv.b (Lv.b (A 9))))))))))) (K9_prrrrrr cal k) X0 (aw P eQ)))
noncomputable def K9_prrrrrrr (cal:Cal) (k:Nat):KR:=(cutK (Lv.b (Lv.b (Lv.b (Lv.b (Lv.b (Lv.b (Lv.b (A 9)))))))).c (az P cal (ax P cal k) none 9 (cR (cR (cR (cR (cR (cR (cR (cR xQ)))))))) (Lv.b (Lv.b (Lv.b (Lv.b (Lv.b (Lv.b (Lv.b (Lv.b (A 9))))))))) (aw P eQ) X0 (aw P eQ)))
noncomputable def B9_0 (cal:Cal) (k:Nat) (v0 v1:Value) (H:Hp) (n:Nat):Res:=
boxK 26 v0 H n fun v_1 H_2 n_3=>
aq (aX v_1) fun a_6=>aq (ak P H_2 26 a_6) fun v_5=>
aY P cal 15 [v_5,v1] H_2 n_3 fun v_8 H_9 n_a=>
aq (dJ P v_8 (Op.unary UnOp.not v_8)) fun v_b=>
ifK v_b (
aY P cal 16 [] H_9 n_a fun v_c H_d n_e=>
some (v_c,H_d,n_e)) (
aq (aX v_1) fun a_h=>aq (ak P H_9 26 a_h) fun v_g=>
aY P cal 18 [v_g] H_9 n_a fun v_i H_j n_k=>
aY P cal 48 [v_i] H_j n_k fun v_l H_m n_n=>
aq (tupV v_l 0) fun v_p=>
aq (tupV v_l 1) fun v_q=>
aq (aX v_1) fun a_u=>aq (ak P H_m 26 a_u) fun v_t=>
aY P cal 18 [v_t] H_m n_n fun v_v H_w n_x=>
aY P cal 23 [v1] H_w n_x fun v_z H_10 n_11=>
aY P cal 49 [v_v,v_z] H_10 n_11 fun v_12 H_13 n_14=>
aq (aX v_1) fun a_17=>aq (ak P H_13 26 a_17) fun v_16=>
aY P cal 20 [v_16] H_13 n_14 fun v_18 H_19 n_1a=>
binK P .eql 29 (.tmp 28) (.const (.int .i64 0)) v_18 (.int .i64 0) fun v_1e=>
aV v_1e true (fun k_1g=>
aq (aX v_1) fun a_1l=>aq (ak P H_19 26 a_1l) fun v_1k=>
k_1g v_1k H_19 n_1a) H_19 n_1a fun v_1h H_1i n_1j=>
aV v_1e true (fun k_1m=>
k_1m v1 H_1i n_1j) H_1i n_1j fun v_1n H_1o n_1p=>
aV v_1e true (fun k_1r=>
aY P cal 50 [v_1h,v_1n] H_1o n_1p fun v_1v H_1w n_1x=>
k_1r v_1v H_1w n_1x) H_1o n_1p fun v_1s H_1t n_1u=>
aq (dq v_1e v_1s (.bool false)) fun v_1y=>
binK P .neq 4 (.tmp 27) (.tmp 34) v_12 v_1y fun v_1z=>
ifK v_1z (
some ((.bool false),H_1t,n_1u)) (
binK P .neq 29 (.tmp 36) (.const (.int .i64 0)) v_18 (.int .i64 0) fun v_22=>
ifK v_22 (
binK P .eql 29 (.tmp 38) (.tmp 39) v_q v_18 fun v_25=>
aV v_25 true (fun k_27=>
k_27 v_p H_1t n_1u) H_1t n_1u fun v_28 H_29 n_2a=>
aV v_25 true (fun k_2c=>
aq (lenV P 44 v_28) fun v_2g=>
k_2c v_2g H_29 n_2a) H_29 n_2a fun v_2d H_2e n_2f=>
aV v_25 true (fun k_2h=>
binK P .eql 3 (.tmp 43) (.const (.int .i64 0)) v_2d (.int .i64 0) fun v_2l=>
k_2h v_2l H_2e n_2f) H_2e n_2f fun v_2i H_2j n_2k=>
aq (dq v_25 v_2i (.bool false)) fun v_2m=>
aV v_2m true (fun k_2o=>
aY P cal 16 [] H_2j n_2k fun v_2s H_2t n_2u=>
k_2o v_2s H_2t n_2u) H_2j n_2k fun v_2p H_2q n_2r=>
aq (dq v_2m v_2p (.bool false)) fun v_2v=>
some (v_2v,H_2q,n_2r)) (
binK P .eql 29 (.tmp 49) (.const (.int .i64 0)) v_q (.int .i64 0) fun v_2y=>
aV v_2y true (fun k_30=>
k_30 v_p H_1t n_1u) H_1t n_1u fun v_31 H_32 n_33=>
aV v_2y true (fun k_35=>
aq (aX v_1) fun a_3a=>aq (ak P H_32 26 a_3a) fun v_39=>
k_35 v_39 H_32 n_33) H_32 n_33 fun v_36 H_37 n_38=>
aV v_2y true (fun k_3b=>
aY P cal 51 [v_36] H_37 n_38 fun v_3f H_3g n_3h=>
k_3b v_3f H_3g n_3h) H_37 n_38 fun v_3c H_3d n_3e=>
aV v_2y true (fun k_3i=>
aY P cal 30 [v_31,v_3c] H_3d n_3e fun v_3m H_3n n_3o=>
k_3i v_3m H_3n n_3o) H_3d n_3e fun v_3j H_3k n_3l=>
aq (dq v_2y v_3j (.bool false)) fun v_3p=>
aV v_3p true (fun k_3r=>
aY P cal 16 [] H_3k n_3l fun v_3v H_3w n_3x=>
k_3r v_3v H_3w n_3x) H_3k n_3l fun v_3s H_3t n_3u=>
aq (dq v_3p v_3s (.bool false)) fun v_3y=>
some (v_3y,H_3t,n_3u))))
noncomputable def C9_0 (cal:Cal) (k:Nat) (v0 v1:Value) (H:Hp) (n:Nat):Res:=B9_0 cal k v0 v1 H n
theorem h9_0 (cal:Cal) (k:Nat) (v0 v1:Value) (H:Hp) (n:Nat):aK P cal A (k+1) 9 [v0,v1] H n=C9_0 cal k v0 v1 H n:=by
 have h:aK P cal A (k+1) 9 [v0,v1] H n=B9_0 cal k v0 v1 H n:=by
  rw[bk (fn:=Go.Proofs.Try.f9) (c:=xQ) (rs:=eQ) (by kernel_rfl) (by kernel_rfl) (by kernel_rfl) (by kernel_rfl)]
  kernel_rfl
 rw[h,C9_0]
noncomputable def code15:Code:=cw 15
noncomputable def AV:List ResultVar:=dj 15
noncomputable def K15_p (cal:Cal) (k:Nat):KR:=(cutK (A 15).c (az P cal (ax P cal k) none 15 (cR code15) (Lv.b (A 15)) (aw P AV) X0 (aw P AV)))
noncomputable def K15_pr (cal:Cal) (k:Nat):KR:=(cutK (Lv.b (A 15)).c (az P cal (ax P cal k) none 15 (cR (cR code15)) (Lv.b (Lv.b (A 15))) (aw P AV) X0 (aw P AV)))
noncomputable def B15_0 (cal:Cal) (k:Nat) (v0 v1:Value) (H:Hp) (n:Nat):Res:=
boxK 26 v0 H n fun v_1 H_2 n_3=>
aq (ay P 26 v_1 0) fun v_5=>
aq (aX v_5) fun a_7=>aq (ak P H_2 22 a_7) fun v_6=>
aq (lenV P 22 v_6) fun v_8=>
binK P .leq 3 (.tmp 7) (.const (.int .i64 11)) v_8 (.int .i64 11) fun v_9=>
aV v_9 true (fun k_b=>
aq (ay P 26 v_1 1) fun v_f=>
k_b v_f H_2 n_3) H_2 n_3 fun v_c H_d n_e=>
aV v_9 true (fun k_g=>
aq (aX v_c) fun a_l=>aq (ak P H_d 23 a_l) fun v_k=>
k_g v_k H_d n_e) H_d n_e fun v_h H_i n_j=>
aV v_9 true (fun k_m=>
aq (lenV P 23 v_h) fun v_q=>
k_m v_q H_i n_j) H_i n_j fun v_n H_o n_p=>
aV v_9 true (fun k_r=>
binK P .leq 3 (.tmp 12) (.const (.int .i64 19)) v_n (.int .i64 19) fun v_v=>
k_r v_v H_o n_p) H_o n_p fun v_s H_t n_u=>
aq (dq v_9 v_s (.bool false)) fun v_w=>
aV v_w true (fun k_y=>
aq (ay P 26 v_1 2) fun v_12=>
k_y v_12 H_t n_u) H_t n_u fun v_z H_10 n_11=>
aV v_w true (fun k_13=>
aq (aX v_z) fun a_18=>aq (ak P H_10 24 a_18) fun v_17=>
k_13 v_17 H_10 n_11) H_10 n_11 fun v_14 H_15 n_16=>
aV v_w true (fun k_19=>
aq (lenV P 24 v_14) fun v_1d=>
k_19 v_1d H_15 n_16) H_15 n_16 fun v_1a H_1b n_1c=>
aV v_w true (fun k_1e=>
binK P .leq 3 (.tmp 18) (.const (.int .i64 6)) v_1a (.int .i64 6) fun v_1i=>
k_1e v_1i H_1b n_1c) H_1b n_1c fun v_1f H_1g n_1h=>
aq (dq v_w v_1f (.bool false)) fun v_1j=>
aV v_1j true (fun k_1l=>
k_1l v1 H_1g n_1h) H_1g n_1h fun v_1m H_1n n_1o=>
aV v_1j true (fun k_1q=>
aq (lenV P 44 v_1m) fun v_1u=>
k_1q v_1u H_1n n_1o) H_1n n_1o fun v_1r H_1s n_1t=>
aV v_1j true (fun k_1v=>
binK P .leq 3 (.tmp 23) (.const (.int .i64 11)) v_1r (.int .i64 11) fun v_1z=>
k_1v v_1z H_1s n_1t) H_1s n_1t fun v_1w H_1x n_1y=>
aq (dq v_1j v_1w (.bool false)) fun v_20=>
some (v_20,H_1x,n_1y)
noncomputable def Vj (cal:Cal) (k:Nat) (v0 v1:Value) (H:Hp) (n:Nat):Res:=B15_0 cal k v0 v1 H n
theorem h15_0 (cal:Cal) (k:Nat) (v0 v1:Value) (H:Hp) (n:Nat):aK P cal A (k+1) 15 [v0,v1] H n=Vj cal k v0 v1 H n:=by
 have h:aK P cal A (k+1) 15 [v0,v1] H n=B15_0 cal k v0 v1 H n:=by
  rw[bk (fn:=Go.Proofs.Try.f15) (c:=code15) (rs:=AV) (by kernel_rfl) (by kernel_rfl) (by kernel_rfl) (by kernel_rfl)]
  kernel_rfl
 rw[h,Vj]
noncomputable def gK:Code:=cw 18
noncomputable def bX:List ResultVar:=dj 18
noncomputable def K18_p (cal:Cal) (k:Nat):KR:=(cutK (A 18).c (az P cal (ax P cal k) none 18 (cR gK) (Lv.b (A 18)) (aw P bX) X0 (aw P bX)))
noncomputable def K18_pr (cal:Cal) (k:Nat):KR:=(cutK (Lv.b (A 18)).c (az P cal (ax P cal k) none 18 (cR (cR gK)) (Lv.b (Lv.b (A 18))) (aw P bX) X0 (aw P bX)))
noncomputable def PJ (cal:Cal) (k:Nat):KR:=(cutK (Lv.b (Lv.b (A 18))).c (az P cal (ax P cal k) none 18 (cR (cR (cR gK))) (Lv.b (Lv.b (Lv.b (A 18)))) (aw P bX) X0 (aw P bX)))
noncomputable def K18_prrl (cal:Cal) (k:Nat):KR:=(cutK (Lv.a (Lv.b (Lv.b (A 18)))).c (az P cal (ax P cal k) none 18 (cR (cL (cR (cR gK)))) (Lv.b (Lv.a (Lv.b (Lv.b (A 18))))) (PJ cal k) X0 (aw P bX)))
noncomputable def qQ (cal:Cal) (k:Nat):XR:=(upX 0 (PJ cal k) X0)
noncomputable def IW (cal:Cal) (k:Nat) (m1:Nat):KR:=(fun T H n D=>ax P cal m1 (Lv.a (Lv.b (Lv.a (Lv.b (Lv.b (A 18)))))) none 18 (cL (cR (cL (cR (cR gK))))) (PJ cal k) (qQ cal k) (aw P bX) (cutT (Lv.a (Lv.b (Lv.a (Lv.b (Lv.b (A 18)))))).c T) H n D)
noncomputable def K18_prrlrll (cal:Cal) (k:Nat) (m1:Nat):KR:=(cutK (Lv.a (Lv.a (Lv.b (Lv.a (Lv.b (Lv.b (A 18))))))).c (az P cal (ax P cal m1) none 18 (cR (cL (cL (cR (cL (cR (cR gK))))))) (Lv.b (Lv.a (Lv.a (Lv.b (Lv.a (Lv.b (Lv.b (A 18)))))))) (IW cal k m1) (qQ cal k) (aw P bX)))
noncomputable def K18_prrlrlll (cal:Cal) (k:Nat) (m1:Nat):KR:=(cutK (Lv.a (Lv.a (Lv.a (Lv.b (Lv.a (Lv.b (Lv.b (A 18)))))))).c (az P cal (ax P cal m1) none 18 (cR (cL (cL (cL (cR (cL (cR (cR gK)))))))) (Lv.b (Lv.a (Lv.a (Lv.a (Lv.b (Lv.a (Lv.b (Lv.b (A 18))))))))) (K18_prrlrll cal k m1) (qQ cal k) (aw P bX)))
noncomputable def K18_prrlrllr (cal:Cal) (k:Nat) (m1:Nat):KR:=(cutK (Lv.b (Lv.a (Lv.a (Lv.b (Lv.a (Lv.b (Lv.b (A 18)))))))).c (az P cal (ax P cal m1) none 18 (cR (cR (cL (cL (cR (cL (cR (cR gK)))))))) (Lv.b (Lv.b (Lv.a (Lv.a (Lv.b (Lv.a (Lv.b (Lv.b (A 18))))))))) (IW cal k m1) (qQ cal k) (aw P bX)))
noncomputable def K18_pxrrlrllrl (cal:Cal) (k:Nat) (m1:Nat):XR:=(upX 1 (K18_prrlrllr cal k m1) (qQ cal k))
noncomputable def KJ (cal:Cal) (k:Nat):KR:=(cutK (Lv.b (Lv.b (Lv.b (A 18)))).c (az P cal (ax P cal k) none 18 (cR (cR (cR (cR gK)))) (Lv.b (Lv.b (Lv.b (Lv.b (A 18))))) (aw P bX) X0 (aw P bX)))
noncomputable def K18_prrrl (cal:Cal) (k:Nat):KR:=(cutK (Lv.a (Lv.b (Lv.b (Lv.b (A 18))))).c (az P cal (ax P cal k) none 18 (cR (cL (cR (cR (cR gK))))) (Lv.b (Lv.a (Lv.b (Lv.b (Lv.b (A 18)))))) (KJ cal k) X0 (aw P bX)))
noncomputable def nZ (cal:Cal) (k:Nat):XR:=(upX 2 (KJ cal k) X0)
noncomputable def EQ (cal:Cal) (k:Nat) (m1:Nat):KR:=(fun T H n D=>ax P cal m1 (Lv.a (Lv.b (Lv.a (Lv.b (Lv.b (Lv.b (A 18))))))) none 18 (cL (cR (cL (cR (cR (cR gK)))))) (KJ cal k) (nZ cal k) (aw P bX) (cutT (Lv.a (Lv.b (Lv.a (Lv.b (Lv.b (Lv.b (A 18))))))).c T) H n D)
noncomputable def K18_prrrlrll (cal:Cal) (k:Nat) (m1:Nat):KR:=(cutK (Lv.a (Lv.a (Lv.b (Lv.a (Lv.b (Lv.b (Lv.b (A 18)))))))).c (az P cal (ax P cal m1) none 18 (cR (cL (cL (cR (cL (cR (cR (cR gK)))))))) (Lv.b (Lv.a (Lv.a (Lv.b (Lv.a (Lv.b (Lv.b (Lv.b (A 18))))))))) (EQ cal k m1) (nZ cal k) (aw P bX)))
noncomputable def K18_prrrlrlll (cal:Cal) (k:Nat) (m1:Nat):KR:=(cutK (Lv.a (Lv.a (Lv.a (Lv.b (Lv.a (Lv.b (Lv.b (Lv.b (A 18))))))))).c (az P cal (ax P cal m1) none 18 (cR (cL (cL (cL (cR (cL (cR (cR (cR gK))))))))) (Lv.b (Lv.a (Lv.a (Lv.a (Lv.b (Lv.a (Lv.b (Lv.b (Lv.b (A 18)))))))))) (K18_prrrlrll cal k m1) (nZ cal k) (aw P bX)))
noncomputable def K18_prrrlrllr (cal:Cal) (k:Nat) (m1:Nat):KR:=(cutK (Lv.b (Lv.a (Lv.a (Lv.b (Lv.a (Lv.b (Lv.b (Lv.b (A 18))))))))).c (az P cal (ax P cal m1) none 18 (cR (cR (cL (cL (cR (cL (cR (cR (cR gK))))))))) (Lv.b (Lv.b (Lv.a (Lv.a (Lv.b (Lv.a (Lv.b (Lv.b (Lv.b (A 18)))))))))) (EQ cal k m1) (nZ cal k) (aw P bX)))
noncomputable def K18_pxrrrlrllrl (cal:Cal) (k:Nat) (m1:Nat):XR:=(upX 3 (K18_prrrlrllr cal k m1) (nZ cal k))
noncomputable def Gx (cal:Cal) (k:Nat):KR:=(cutK (Lv.b (Lv.b (Lv.b (Lv.b (A 18))))).c (az P cal (ax P cal k) none 18 (cR (cR (cR (cR (cR gK))))) (Lv.b (Lv.b (Lv.b (Lv.b (Lv.b (A 18)))))) (aw P bX) X0 (aw P bX)))
noncomputable def K18_prrrrl (cal:Cal) (k:Nat):KR:=(cutK (Lv.a (Lv.b (Lv.b (Lv.b (Lv.b (A 18)))))).c (az P cal (ax P cal k) none 18 (cR (cL (cR (cR (cR (cR gK)))))) (Lv.b (Lv.a (Lv.b (Lv.b (Lv.b (Lv.b (A 18))))))) (Gx cal k) X0 (aw P bX)))
noncomputable def mw (cal:Cal) (k:Nat):XR:=(upX 4 (Gx cal k) X0)
noncomputable def Ck (cal:Cal) (k:Nat) (m1:Nat):KR:=(fun T H n D=>ax P cal m1 (Lv.a (Lv.b (Lv.a (Lv.b (Lv.b (Lv.b (Lv.b (A 18)))))))) none 18 (cL (cR (cL (cR (cR (cR (cR gK))))))) (Gx cal k) (mw cal k) (aw P bX) (cutT (Lv.a (Lv.b (Lv.a (Lv.b (Lv.b (Lv.b (Lv.b (A 18)))))))).c T) H n D)
noncomputable def K18_prrrrlrll (cal:Cal) (k:Nat) (m1:Nat):KR:=(cutK (Lv.a (Lv.a (Lv.b (Lv.a (Lv.b (Lv.b (Lv.b (Lv.b (A 18))))))))).c (az P cal (ax P cal m1) none 18 (cR (cL (cL (cR (cL (cR (cR (cR (cR gK))))))))) (Lv.b (Lv.a (Lv.a (Lv.b (Lv.a (Lv.b (Lv.b (Lv.b (Lv.b (A 18)))))))))) (Ck cal k m1) (mw cal k) (aw P bX)))
noncomputable def K18_prrrrlrlll (cal:Cal) (k:Nat) (m1:Nat):KR:=(cutK (Lv.a (Lv.a (Lv.a (Lv.b (Lv.a (Lv.b (Lv.b (Lv.b (Lv.b (A 18)))))))))).c (az P cal (ax P cal m1) none 18 (cR (cL (cL (cL (cR (cL (cR (cR (cR (cR gK)))))))))) (Lv.b (Lv.a (Lv.a (Lv.a (Lv.b (Lv.a (Lv.b (Lv.b (Lv.b (Lv.b (A 18))))))))))) (K18_prrrrlrll cal k m1) (mw cal k) (aw P bX)))
noncomputable def K18_prrrrlrllr (cal:Cal) (k:Nat) (m1:Nat):KR:=(cutK (Lv.b (Lv.a (Lv.a (Lv.b (Lv.a (Lv.b (Lv.b (Lv.b (Lv.b (A 18)))))))))).c (az P cal (ax P cal m1) none 18 (cR (cR (cL (cL (cR (cL (cR (cR (cR (cR gK)))))))))) (Lv.b (Lv.b (Lv.a (Lv.a (Lv.b (Lv.a (Lv.b (Lv.b (Lv.b (Lv.b (A 18))))))))))) (Ck cal k m1) (mw cal k) (aw P bX)))
noncomputable def K18_pxrrrrlrllrl (cal:Cal) (k:Nat) (m1:Nat):XR:=(upX 5 (K18_prrrrlrllr cal k m1) (mw cal k))
noncomputable def K18_prrrrlrllrll (cal:Cal) (k:Nat) (m1:Nat):KR:=(cutK (Lv.a (Lv.a (Lv.b (Lv.a (Lv.a (Lv.b (Lv.a (Lv.b (Lv.b (Lv.b (Lv.b (A 18)))))))))))).c (az P cal (ax P cal m1) none 18 (cR (cL (cL (cR (cL (cL (cR (cL (cR (cR (cR (cR gK)))))))))))) (Lv.b (Lv.a (Lv.a (Lv.b (Lv.a (Lv.a (Lv.b (Lv.a (Lv.b (Lv.b (Lv.b (Lv.b (A 18))))))))))))) (K18_prrrrlrllr cal k m1) (K18_pxrrrrlrllrl cal k m1) (aw P bX)))
noncomputable def K18_prrrrr (cal:Cal) (k:Nat):KR:=(cutK (Lv.b (Lv.b (Lv.b (Lv.b (Lv.b (A 18)))))).c (az P cal (ax P cal k) none 18 (cR (cR (cR (cR (cR (cR gK)))))) (Lv.b (Lv.b (Lv.b (Lv.b (Lv.b (Lv.b (A 18))))))) (aw P bX) X0 (aw P bX)))
noncomputable def E18_3 (cal:Cal) (k m1:Nat):KR:=az P cal (ax P cal m1) none 18 (cL (cL (cR (cL (cR (cR (cR (cR gK)))))))) (Lv.a (Lv.a (Lv.b (Lv.a (Lv.b (Lv.b (Lv.b (Lv.b (A 18))))))))) (Ck cal k m1) (mw cal k) (aw P bX)
noncomputable def R18_3 (cal:Cal) (k m1:Nat):V4:=fun u1 u2 u3 u6 H n=>ax P cal m1 (Lv.a (Lv.b (Lv.a (Lv.b (Lv.b (Lv.b (Lv.b (A 18)))))))) none 18 (cL (cR (cL (cR (cR (cR (cR gK))))))) (Gx cal k) (mw cal k) (aw P bX) (Tr.set (Tr.set (Tr.set (Tr.set Tr.nil 6 (some u6)) 3 (some u3)) 2 (some u2)) 1 (some u1)) H n []
noncomputable def E18_2 (cal:Cal) (k m1:Nat):KR:=az P cal (ax P cal m1) none 18 (cL (cL (cR (cL (cR (cR (cR gK))))))) (Lv.a (Lv.a (Lv.b (Lv.a (Lv.b (Lv.b (Lv.b (A 18)))))))) (EQ cal k m1) (nZ cal k) (aw P bX)
noncomputable def R18_2 (cal:Cal) (k m1:Nat):V4:=fun u1 u2 u3 u5 H n=>ax P cal m1 (Lv.a (Lv.b (Lv.a (Lv.b (Lv.b (Lv.b (A 18))))))) none 18 (cL (cR (cL (cR (cR (cR gK)))))) (KJ cal k) (nZ cal k) (aw P bX) (Tr.set (Tr.set (Tr.set (Tr.set Tr.nil 5 (some u5)) 3 (some u3)) 2 (some u2)) 1 (some u1)) H n []
noncomputable def E18_1 (cal:Cal) (k m1:Nat):KR:=az P cal (ax P cal m1) none 18 (cL (cL (cR (cL (cR (cR gK)))))) (Lv.a (Lv.a (Lv.b (Lv.a (Lv.b (Lv.b (A 18))))))) (IW cal k m1) (qQ cal k) (aw P bX)
noncomputable def R18_1 (cal:Cal) (k m1:Nat):V4:=fun u1 u2 u3 u4 H n=>ax P cal m1 (Lv.a (Lv.b (Lv.a (Lv.b (Lv.b (A 18)))))) none 18 (cL (cR (cL (cR (cR gK))))) (PJ cal k) (qQ cal k) (aw P bX) (Tr.set (Tr.set (Tr.set (Tr.set Tr.nil 4 (some u4)) 3 (some u3)) 2 (some u2)) 1 (some u1)) H n []
noncomputable def B18_3 (cal:Cal) (k m1:Nat) (b3:V4) (u1 u2 u3 u6:Value) (H:Hp) (n:Nat):Res:=
aq (ay P 26 u1 2) fun v_2i=>
aq (aX v_2i) fun a_2k=>aq (ak P H 24 a_2k) fun v_2j=>
aq (lenV P 24 v_2j) fun v_2l=>
binK P .lss 3 (.tmp 58) (.tmp 61) u6 v_2l fun v_2m=>
ifK v_2m (
aq (ay P 26 u1 2) fun v_2n=>
aq (aX v_2n) fun a_2p=>aq (ak P H 24 a_2p) fun v_2o=>
aq (aW P 24 v_2o u6) fun v_2r=>
aq (aX v_2r) fun a_2t=>aq (ak P H 94 a_2t) fun v_2s=>
dZ P 94 H n fun v_2u H_2v n_2w=>
aq (bz P 94 v_2u v_2s H_2v) fun H_2y=>
aq (ay P 35 u3 2) fun v_2z=>
aq (aX v_2z) fun a_30=>aq (ak P H_2y 33 a_30) fun v_31=>
aq (ay P 94 v_2u 0) fun v_32=>
aq (aX v_32) fun a_33=>aq (ak P H_2y 3 a_33) fun v_34=>
aq (ay P 94 v_2u 1) fun v_35=>
aq (aX v_35) fun a_36=>aq (ak P H_2y 55 a_36) fun v_37=>
aq (ay P 94 v_2u 2) fun v_38=>
aq (aX v_38) fun a_39=>aq (ak P H_2y 55 a_39) fun v_3a=>
effK P [(.l 55 a_39),(.l 3 a_33),(.l 33 a_30)] H_2y n_2w (fun H_3b n_3c k_3d=>
aY P cal 26 [v_37] H_3b n_3c fun v_3h H_3i n_3j=>
k_3d v_3h H_3i n_3j) fun v_3e H_3f n_3g=>
effK P [(.l 3 a_33),(.l 33 a_30)] H_3f n_3g (fun H_3k n_3l k_3m=>
aY P cal 26 [v_3a] H_3k n_3l fun v_3q H_3r n_3s=>
k_3m v_3q H_3r n_3s) fun v_3n H_3o n_3p=>
aq (iQ P 86 [(0,v_34),(1,v_3e),(2,v_3n)]) fun v_3t=>
aq (Ax P 33 1 [(0,v_3t)]) fun q_3w=>newK q_3w.1 q_3w.2 H_3o n_3p fun H_3u n_3v=>
stK (dW P (bare H_3u n_3v) 33 33 v_31 (.slice (some ⟨n_3p,0,none⟩) 1 1)) fun v_3x H_3y n_3z=>
aq (ay P 35 u3 2) fun v_40=>
aq (bz P 33 v_40 v_3x H_3y) fun H_42=>
binK P .add 3 (.tmp 63) (.const (.int .i64 1)) u6 (.int .i64 1) fun v_44=>
b3 u1 u2 u3 v_44 H_42 n_3z) (
aq (aX u3) fun a_47=>aq (ak P H 35 a_47) fun v_46=>
aq (bz P 35 u2 v_46 H) fun H_49=>
aq (resV P (Tr.set Tr.nil 2 (some u2)) H_49 bX) fun v_4a=>some (oneV v_4a,H_49,n))
noncomputable def Vq (cal:Cal) (k m1:Nat) (b3:V4) (u1 u2 u3 u6:Value) (H:Hp) (n:Nat):Res:=B18_3 cal k m1 b3 u1 u2 u3 u6 H n
noncomputable def S18_3 (cal:Cal) (k:Nat):Nat→V4:=fun m=>Nat.rec (motive:=fun _=>V4) (Vq cal k 0 (fun _ _ _ _ _ _=>none)) (fun m ih=>Vq cal k (m+1) ih) m
theorem h18_3 (cal:Cal) (k m1:Nat) (u1 u2 u3 u6:Value) (H:Hp) (n:Nat):labK (E18_3 cal k m1) (Tr.set (Tr.set (Tr.set (Tr.set Tr.nil 6 (some u6)) 3 (some u3)) 2 (some u2)) 1 (some u1)) H n []=Vq cal k m1 (R18_3 cal k m1) u1 u2 u3 u6 H n:=by
 refine Eq.trans (b:=B18_3 cal k m1 (R18_3 cal k m1) u1 u2 u3 u6 H n) (by kernel_rfl) ?_
 rw[Vq]
theorem q18_3 (cal:Cal) (k:Nat):∀(m:Nat) (u1 u2 u3 u6:Value) (H:Hp) (n:Nat),labK (E18_3 cal k m) (Tr.set (Tr.set (Tr.set (Tr.set Tr.nil 6 (some u6)) 3 (some u3)) 2 (some u2)) 1 (some u1)) H n []=S18_3 cal k m u1 u2 u3 u6 H n
 | 0,u1,u2,u3,u6,H,n=>by
  rw[h18_3]
  have e:R18_3 cal k 0=fun _ _ _ _ _ _=>none:=by funext u1 u2 u3 u6 H n; kernel_rfl
  rw[e]; rfl
 | m+1,u1,u2,u3,u6,H,n=>by
  rw[h18_3]
  have e:R18_3 cal k (m+1)=S18_3 cal k m:=by
   funext u1 u2 u3 u6 H n
   have e:R18_3 cal k (m+1) u1 u2 u3 u6 H n=labK (E18_3 cal k m) (Tr.set (Tr.set (Tr.set (Tr.set Tr.nil 6 (some u6)) 3 (some u3)) 2 (some u2)) 1 (some u1)) H n []:=by kernel_rfl
   rw[e]; exact q18_3 ..
  rw[e]; rfl
noncomputable def B18_2 (cal:Cal) (k m1:Nat) (j3:V4) (b2:V4) (u1 u2 u3 u5:Value) (H:Hp) (n:Nat):Res:=
aq (ay P 26 u1 1) fun v_1f=>
aq (aX v_1f) fun a_1h=>aq (ak P H 23 a_1h) fun v_1g=>
aq (lenV P 23 v_1g) fun v_1i=>
binK P .lss 3 (.tmp 33) (.tmp 36) u5 v_1i fun v_1j=>
ifK v_1j (
aq (ay P 35 u3 1) fun v_1k=>
aq (aX v_1k) fun a_1l=>aq (ak P H 32 a_1l) fun v_1m=>
aq (ay P 26 u1 1) fun v_1n=>
aq (aX v_1n) fun a_1o=>aq (ak P H 23 a_1o) fun v_1p=>
aq (aW P 23 v_1p u5) fun v_1r=>
aq (ay P 104 v_1r 0) fun v_1s=>
aq (aX v_1s) fun a_1t=>aq (ak P H 3 a_1t) fun v_1u=>
aq (ay P 26 u1 1) fun v_1v=>
aq (aX v_1v) fun a_1w=>aq (ak P H 23 a_1w) fun v_1x=>
aq (aW P 23 v_1x u5) fun v_1z=>
aq (ay P 104 v_1z 1) fun v_20=>
aq (aX v_20) fun a_21=>aq (ak P H 3 a_21) fun v_22=>
aq (iQ P 88 [(0,v_1u),(1,v_22)]) fun v_23=>
aq (Ax P 32 1 [(0,v_23)]) fun q_26=>newK q_26.1 q_26.2 H n fun H_24 n_25=>
stK (dW P (bare H_24 n_25) 32 32 v_1m (.slice (some ⟨n,0,none⟩) 1 1)) fun v_27 H_28 n_29=>
aq (ay P 35 u3 1) fun v_2a=>
aq (bz P 32 v_2a v_27 H_28) fun H_2c=>
binK P .add 3 (.tmp 38) (.const (.int .i64 1)) u5 (.int .i64 1) fun v_2e=>
b2 u1 u2 u3 v_2e H_2c n_29) (
j3 u1 u2 u3 (.int .i64 0) H n)
noncomputable def Vv (cal:Cal) (k m1:Nat) (b2:V4) (u1 u2 u3 u5:Value) (H:Hp) (n:Nat):Res:=B18_2 cal k m1 (S18_3 cal k k) b2 u1 u2 u3 u5 H n
noncomputable def S18_2 (cal:Cal) (k:Nat):Nat→V4:=fun m=>Nat.rec (motive:=fun _=>V4) (Vv cal k 0 (fun _ _ _ _ _ _=>none)) (fun m ih=>Vv cal k (m+1) ih) m
theorem h18_2 (cal:Cal) (k m1:Nat) (u1 u2 u3 u5:Value) (H:Hp) (n:Nat):labK (E18_2 cal k m1) (Tr.set (Tr.set (Tr.set (Tr.set Tr.nil 5 (some u5)) 3 (some u3)) 2 (some u2)) 1 (some u1)) H n []=Vv cal k m1 (R18_2 cal k m1) u1 u2 u3 u5 H n:=by
 refine Eq.trans (b:=B18_2 cal k m1 (fun u1 u2 u3 u6 H n=>labK (E18_3 cal k k) (Tr.set (Tr.set (Tr.set (Tr.set Tr.nil 6 (some u6)) 3 (some u3)) 2 (some u2)) 1 (some u1)) H n []) (R18_2 cal k m1) u1 u2 u3 u5 H n) (by kernel_rfl) ?_
 rw[Vv]
 have e3:(fun u1 u2 u3 u6 H n=>labK (E18_3 cal k k) (Tr.set (Tr.set (Tr.set (Tr.set Tr.nil 6 (some u6)) 3 (some u3)) 2 (some u2)) 1 (some u1)) H n [])=(S18_3 cal k k):=by funext u1 u2 u3 u6 H n; exact q18_3 ..
 rw[e3]
theorem q18_2 (cal:Cal) (k:Nat):∀(m:Nat) (u1 u2 u3 u5:Value) (H:Hp) (n:Nat),labK (E18_2 cal k m) (Tr.set (Tr.set (Tr.set (Tr.set Tr.nil 5 (some u5)) 3 (some u3)) 2 (some u2)) 1 (some u1)) H n []=S18_2 cal k m u1 u2 u3 u5 H n
 | 0,u1,u2,u3,u5,H,n=>by
  rw[h18_2]
  have e:R18_2 cal k 0=fun _ _ _ _ _ _=>none:=by funext u1 u2 u3 u5 H n; kernel_rfl
  rw[e]; rfl
 | m+1,u1,u2,u3,u5,H,n=>by
  rw[h18_2]
  have e:R18_2 cal k (m+1)=S18_2 cal k m:=by
   funext u1 u2 u3 u5 H n
   have e:R18_2 cal k (m+1) u1 u2 u3 u5 H n=labK (E18_2 cal k m) (Tr.set (Tr.set (Tr.set (Tr.set Tr.nil 5 (some u5)) 3 (some u3)) 2 (some u2)) 1 (some u1)) H n []:=by kernel_rfl
   rw[e]; exact q18_2 ..
  rw[e]; rfl
noncomputable def B18_1 (cal:Cal) (k m1:Nat) (j2:V4) (b1:V4) (u1 u2 u3 u4:Value) (H:Hp) (n:Nat):Res:=
aq (ay P 26 u1 0) fun v_c=>
aq (aX v_c) fun a_e=>aq (ak P H 22 a_e) fun v_d=>
aq (lenV P 22 v_d) fun v_f=>
binK P .lss 3 (.tmp 8) (.tmp 11) u4 v_f fun v_g=>
ifK v_g (
aq (ay P 35 u3 0) fun v_h=>
aq (aX v_h) fun a_i=>aq (ak P H 31 a_i) fun v_j=>
aq (ay P 26 u1 0) fun v_k=>
aq (aX v_k) fun a_l=>aq (ak P H 22 a_l) fun v_m=>
aq (aW P 22 v_m u4) fun v_o=>
aq (ay P 95 v_o 0) fun v_p=>
aq (aX v_p) fun a_q=>aq (ak P H 3 a_q) fun v_r=>
aq (ay P 26 u1 0) fun v_s=>
aq (aX v_s) fun a_t=>aq (ak P H 22 a_t) fun v_u=>
aq (aW P 22 v_u u4) fun v_w=>
aq (ay P 95 v_w 1) fun v_x=>
aq (aX v_x) fun a_y=>aq (ak P H 3 a_y) fun v_z=>
aq (iQ P 90 [(0,v_r),(1,v_z)]) fun v_10=>
aq (Ax P 31 1 [(0,v_10)]) fun q_13=>newK q_13.1 q_13.2 H n fun H_11 n_12=>
stK (dW P (bare H_11 n_12) 31 31 v_j (.slice (some ⟨n,0,none⟩) 1 1)) fun v_14 H_15 n_16=>
aq (ay P 35 u3 0) fun v_17=>
aq (bz P 31 v_17 v_14 H_15) fun H_19=>
binK P .add 3 (.tmp 13) (.const (.int .i64 1)) u4 (.int .i64 1) fun v_1b=>
b1 u1 u2 u3 v_1b H_19 n_16) (
j2 u1 u2 u3 (.int .i64 0) H n)
noncomputable def Vw (cal:Cal) (k m1:Nat) (b1:V4) (u1 u2 u3 u4:Value) (H:Hp) (n:Nat):Res:=B18_1 cal k m1 (S18_2 cal k k) b1 u1 u2 u3 u4 H n
noncomputable def S18_1 (cal:Cal) (k:Nat):Nat→V4:=fun m=>Nat.rec (motive:=fun _=>V4) (Vw cal k 0 (fun _ _ _ _ _ _=>none)) (fun m ih=>Vw cal k (m+1) ih) m
theorem h18_1 (cal:Cal) (k m1:Nat) (u1 u2 u3 u4:Value) (H:Hp) (n:Nat):labK (E18_1 cal k m1) (Tr.set (Tr.set (Tr.set (Tr.set Tr.nil 4 (some u4)) 3 (some u3)) 2 (some u2)) 1 (some u1)) H n []=Vw cal k m1 (R18_1 cal k m1) u1 u2 u3 u4 H n:=by
 refine Eq.trans (b:=B18_1 cal k m1 (fun u1 u2 u3 u5 H n=>labK (E18_2 cal k k) (Tr.set (Tr.set (Tr.set (Tr.set Tr.nil 5 (some u5)) 3 (some u3)) 2 (some u2)) 1 (some u1)) H n []) (R18_1 cal k m1) u1 u2 u3 u4 H n) (by kernel_rfl) ?_
 rw[Vw]
 have e2:(fun u1 u2 u3 u5 H n=>labK (E18_2 cal k k) (Tr.set (Tr.set (Tr.set (Tr.set Tr.nil 5 (some u5)) 3 (some u3)) 2 (some u2)) 1 (some u1)) H n [])=(S18_2 cal k k):=by funext u1 u2 u3 u5 H n; exact q18_2 ..
 rw[e2]
theorem q18_1 (cal:Cal) (k:Nat):∀(m:Nat) (u1 u2 u3 u4:Value) (H:Hp) (n:Nat),labK (E18_1 cal k m) (Tr.set (Tr.set (Tr.set (Tr.set Tr.nil 4 (some u4)) 3 (some u3)) 2 (some u2)) 1 (some u1)) H n []=S18_1 cal k m u1 u2 u3 u4 H n
 | 0,u1,u2,u3,u4,H,n=>by
  rw[h18_1]
  have e:R18_1 cal k 0=fun _ _ _ _ _ _=>none:=by funext u1 u2 u3 u4 H n; kernel_rfl
  rw[e]; rfl
 | m+1,u1,u2,u3,u4,H,n=>by
  rw[h18_1]
  have e:R18_1 cal k (m+1)=S18_1 cal k m:=by
   funext u1 u2 u3 u4 H n
   have e:R18_1 cal k (m+1) u1 u2 u3 u4 H n=labK (E18_1 cal k m) (Tr.set (Tr.set (Tr.set (Tr.set Tr.nil 4 (some u4)) 3 (some u3)) 2 (some u2)) 1 (some u1)) H n []:=by kernel_rfl
   rw[e]; exact q18_1 ..
  rw[e]; rfl
noncomputable def B18_0 (cal:Cal) (k:Nat) (j1:V4) (v0:Value) (H:Hp) (n:Nat):Res:=
boxK 26 v0 H n fun v_1 H_2 n_3=>
dZ P 35 H_2 n_3 fun v_4 H_5 n_6=>
dZ P 35 H_5 n_6 fun v_7 H_8 n_9=>
j1 v_1 v_4 v_7 (.int .i64 0) H_8 n_9
noncomputable def Vx (cal:Cal) (k:Nat) (v0:Value) (H:Hp) (n:Nat):Res:=B18_0 cal k (S18_1 cal k k) v0 H n
theorem h18_0 (cal:Cal) (k:Nat) (v0:Value) (H:Hp) (n:Nat):aK P cal A (k+1) 18 [v0] H n=Vx cal k v0 H n:=by
 have h:aK P cal A (k+1) 18 [v0] H n=B18_0 cal k (fun u1 u2 u3 u4 H n=>labK (E18_1 cal k k) (Tr.set (Tr.set (Tr.set (Tr.set Tr.nil 4 (some u4)) 3 (some u3)) 2 (some u2)) 1 (some u1)) H n []) v0 H n:=by
  rw[bk (fn:=Go.Proofs.Try.f18) (c:=gK) (rs:=bX) (by kernel_rfl) (by kernel_rfl) (by kernel_rfl) (by kernel_rfl)]
  kernel_rfl
 rw[h,Vx]
 have e1:(fun u1 u2 u3 u4 H n=>labK (E18_1 cal k k) (Tr.set (Tr.set (Tr.set (Tr.set Tr.nil 4 (some u4)) 3 (some u3)) 2 (some u2)) 1 (some u1)) H n [])=(S18_1 cal k k):=by funext u1 u2 u3 u4 H n; exact q18_1 ..
 rw[e1]
noncomputable def code20:Code:=cw 20
noncomputable def AW:List ResultVar:=dj 20
noncomputable def K20_p (cal:Cal) (k:Nat):KR:=(cutK (A 20).c (az P cal (ax P cal k) none 20 (cR code20) (Lv.b (A 20)) (aw P AW) X0 (aw P AW)))
noncomputable def K20_pr (cal:Cal) (k:Nat):KR:=(cutK (Lv.b (A 20)).c (az P cal (ax P cal k) none 20 (cR (cR code20)) (Lv.b (Lv.b (A 20))) (aw P AW) X0 (aw P AW)))
noncomputable def B20_0 (cal:Cal) (k:Nat) (v0:Value) (H:Hp) (n:Nat):Res:=
boxK 26 v0 H n fun v_1 H_2 n_3=>
aq (aX v_1) fun a_6=>aq (ak P H_2 26 a_6) fun v_5=>
aY P cal 63 [v_5] H_2 n_3 fun v_7 H_8 n_9=>
some (v_7,H_8,n_9)
noncomputable def Vy (cal:Cal) (k:Nat) (v0:Value) (H:Hp) (n:Nat):Res:=B20_0 cal k v0 H n
theorem h20_0 (cal:Cal) (k:Nat) (v0:Value) (H:Hp) (n:Nat):aK P cal A (k+1) 20 [v0] H n=Vy cal k v0 H n:=by
 have h:aK P cal A (k+1) 20 [v0] H n=B20_0 cal k v0 H n:=by
  rw[bk (fn:=Go.Proofs.Try.f20) (c:=code20) (rs:=AW) (by kernel_rfl) (by kernel_rfl) (by kernel_rfl) (by kernel_rfl)]
  kernel_rfl
 rw[h,Vy]
noncomputable def code23:Code:=cw 23
noncomputable def AX:List ResultVar:=dj 23
noncomputable def K23_p (cal:Cal) (k:Nat):KR:=(cutK (A 23).c (az P cal (ax P cal k) none 23 (cR code23) (Lv.b (A 23)) (aw P AX) X0 (aw P AX)))
noncomputable def K23_pr (cal:Cal) (k:Nat):KR:=(cutK (Lv.b (A 23)).c (az P cal (ax P cal k) none 23 (cR (cR code23)) (Lv.b (Lv.b (A 23))) (aw P AX) X0 (aw P AX)))
noncomputable def B23_0 (cal:Cal) (k:Nat) (v0:Value) (H:Hp) (n:Nat):Res:=
rowK P 44 0 [] H n fun v_2 H_3 n_4=>
stK (dW P (bare H_3 n_4) 44 44 v_2 v0) fun v_6 H_7 n_8=>
some (v_6,H_7,n_8)
noncomputable def KQ (cal:Cal) (k:Nat) (v0:Value) (H:Hp) (n:Nat):Res:=B23_0 cal k v0 H n
theorem h23_0 (cal:Cal) (k:Nat) (v0:Value) (H:Hp) (n:Nat):aK P cal A (k+1) 23 [v0] H n=KQ cal k v0 H n:=by
 have h:aK P cal A (k+1) 23 [v0] H n=B23_0 cal k v0 H n:=by
  rw[bk (fn:=Go.Proofs.Try.f23) (c:=code23) (rs:=AX) (by kernel_rfl) (by kernel_rfl) (by kernel_rfl) (by kernel_rfl)]
  kernel_rfl
 rw[h,KQ]
noncomputable def code26:Code:=cw 26
noncomputable def tZ:List ResultVar:=dj 26
noncomputable def K26_p (cal:Cal) (k:Nat):KR:=(cutK (A 26).c (az P cal (ax P cal k) none 26 (cR code26) (Lv.b (A 26)) (aw P tZ) X0 (aw P tZ)))
noncomputable def K26_pr (cal:Cal) (k:Nat):KR:=(cutK (Lv.b (A 26)).c (az P cal (ax P cal k) none 26 (cR (cR code26)) (Lv.b (Lv.b (A 26))) (aw P tZ) X0 (aw P tZ)))
noncomputable def B26_0 (cal:Cal) (k:Nat) (v0:Value) (H:Hp) (n:Nat):Res:=
boxK 55 v0 H n fun v_1 H_2 n_3=>
dZ P 53 H_2 n_3 fun v_4 H_5 n_6=>
aq (ay P 55 v_1 0) fun v_7=>
aq (aX v_7) fun a_9=>aq (ak P H_5 3 a_9) fun v_8=>
aq (ay P 55 v_1 1) fun v_a=>
aq (aX v_a) fun a_c=>aq (ak P H_5 3 a_c) fun v_b=>
aq (iQ P 53 [(0,v_8),(1,v_b)]) fun v_d=>
aq (bz P 53 v_4 v_d H_5) fun H_f=>
aq (resV P (Tr.set Tr.nil 2 (some v_4)) H_f tZ) fun v_g=>some (oneV v_g,H_f,n_6)
noncomputable def Vz (cal:Cal) (k:Nat) (v0:Value) (H:Hp) (n:Nat):Res:=B26_0 cal k v0 H n
theorem h26_0 (cal:Cal) (k:Nat) (v0:Value) (H:Hp) (n:Nat):aK P cal A (k+1) 26 [v0] H n=Vz cal k v0 H n:=by
 have h:aK P cal A (k+1) 26 [v0] H n=B26_0 cal k v0 H n:=by
  rw[bk (fn:=Go.Proofs.Try.f26) (c:=code26) (rs:=tZ) (by kernel_rfl) (by kernel_rfl) (by kernel_rfl) (by kernel_rfl)]
  kernel_rfl
 rw[h,Vz]
noncomputable def pw:Code:=cw 30
noncomputable def ez:List ResultVar:=dj 30
noncomputable def K30_p (cal:Cal) (k:Nat):KR:=(cutK (A 30).c (az P cal (ax P cal k) none 30 (cR pw) (Lv.b (A 30)) (aw P ez) X0 (aw P ez)))
noncomputable def K30_pr (cal:Cal) (k:Nat):KR:=(cutK (Lv.b (A 30)).c (az P cal (ax P cal k) none 30 (cR (cR pw)) (Lv.b (Lv.b (A 30))) (aw P ez) X0 (aw P ez)))
noncomputable def K30_prl (cal:Cal) (k:Nat):KR:=(cutK (Lv.a (Lv.b (A 30))).c (az P cal (ax P cal k) none 30 (cR (cL (cR pw))) (Lv.b (Lv.a (Lv.b (A 30)))) (K30_pr cal k) X0 (aw P ez)))
noncomputable def K30_prlrl (cal:Cal) (k:Nat):KR:=(cutK (Lv.a (Lv.b (Lv.a (Lv.b (A 30))))).c (az P cal (ax P cal k) none 30 (cR (cL (cR (cL (cR pw))))) (Lv.b (Lv.a (Lv.b (Lv.a (Lv.b (A 30)))))) (K30_pr cal k) X0 (aw P ez)))
noncomputable def PQ (cal:Cal) (k:Nat):KR:=(cutK (Lv.b (Lv.b (A 30))).c (az P cal (ax P cal k) none 30 (cR (cR (cR pw))) (Lv.b (Lv.b (Lv.b (A 30)))) (aw P ez) X0 (aw P ez)))
noncomputable def K30_prrl (cal:Cal) (k:Nat):KR:=(cutK (Lv.a (Lv.b (Lv.b (A 30)))).c (az P cal (ax P cal k) none 30 (cR (cL (cR (cR pw)))) (Lv.b (Lv.a (Lv.b (Lv.b (A 30))))) (PQ cal k) X0 (aw P ez)))
noncomputable def qV (cal:Cal) (k:Nat):XR:=(upX 0 (PQ cal k) X0)
noncomputable def IX (cal:Cal) (k:Nat) (m1:Nat):KR:=(fun T H n D=>ax P cal m1 (Lv.a (Lv.b (Lv.a (Lv.b (Lv.b (A 30)))))) none 30 (cL (cR (cL (cR (cR pw))))) (PQ cal k) (qV cal k) (aw P ez) (cutT (Lv.a (Lv.b (Lv.a (Lv.b (Lv.b (A 30)))))).c T) H n D)
noncomputable def K30_prrlrll (cal:Cal) (k:Nat) (m1:Nat):KR:=(cutK (Lv.a (Lv.a (Lv.b (Lv.a (Lv.b (Lv.b (A 30))))))).c (az P cal (ax P cal m1) none 30 (cR (cL (cL (cR (cL (cR (cR pw))))))) (Lv.b (Lv.a (Lv.a (Lv.b (Lv.a (Lv.b (Lv.b (A 30)))))))) (IX cal k m1) (qV cal k) (aw P ez)))
noncomputable def K30_prrlrlll (cal:Cal) (k:Nat) (m1:Nat):KR:=(cutK (Lv.a (Lv.a (Lv.a (Lv.b (Lv.a (Lv.b (Lv.b (A 30)))))))).c (az P cal (ax P cal m1) none 30 (cR (cL (cL (cL (cR (cL (cR (cR pw)))))))) (Lv.b (Lv.a (Lv.a (Lv.a (Lv.b (Lv.a (Lv.b (Lv.b (A 30))))))))) (K30_prrlrll cal k m1) (qV cal k) (aw P ez)))
noncomputable def CJ (cal:Cal) (k:Nat) (m1:Nat):KR:=(cutK (Lv.b (Lv.a (Lv.a (Lv.b (Lv.a (Lv.b (Lv.b (A 30)))))))).c (az P cal (ax P cal m1) none 30 (cR (cR (cL (cL (cR (cL (cR (cR pw)))))))) (Lv.b (Lv.b (Lv.a (Lv.a (Lv.b (Lv.a (Lv.b (Lv.b (A 30))))))))) (IX cal k m1) (qV cal k) (aw P ez)))
noncomputable def K30_pxrrlrllrl (cal:Cal) (k:Nat) (m1:Nat):XR:=(upX 1 (CJ cal k m1) (qV cal k))
noncomputable def K30_prrlrllrll (cal:Cal) (k:Nat) (m1:Nat):KR:=(cutK (Lv.a (Lv.a (Lv.b (Lv.a (Lv.a (Lv.b (Lv.a (Lv.b (Lv.b (A 30)))))))))).c (az P cal (ax P cal m1) none 30 (cR (cL (cL (cR (cL (cL (cR (cL (cR (cR pw)))))))))) (Lv.b (Lv.a (Lv.a (Lv.b (Lv.a (Lv.a (Lv.b (Lv.a (Lv.b (Lv.b (A 30))))))))))) (CJ cal k m1) (K30_pxrrlrllrl cal k m1) (aw P ez)))
noncomputable def K30_prrlrllrllrl (cal:Cal) (k:Nat) (m1:Nat):KR:=(cutK (Lv.a (Lv.b (Lv.a (Lv.a (Lv.b (Lv.a (Lv.a (Lv.b (Lv.a (Lv.b (Lv.b (A 30)))))))))))).c (az P cal (ax P cal m1) none 30 (cR (cL (cR (cL (cL (cR (cL (cL (cR (cL (cR (cR pw)))))))))))) (Lv.b (Lv.a (Lv.b (Lv.a (Lv.a (Lv.b (Lv.a (Lv.a (Lv.b (Lv.a (Lv.b (Lv.b (A 30))))))))))))) (CJ cal k m1) (K30_pxrrlrllrl cal k m1) (aw P ez)))
noncomputable def K30_prrr (cal:Cal) (k:Nat):KR:=(cutK (Lv.b (Lv.b (Lv.b (A 30)))).c (az P cal (ax P cal k) none 30 (cR (cR (cR (cR pw)))) (Lv.b (Lv.b (Lv.b (Lv.b (A 30))))) (aw P ez) X0 (aw P ez)))
noncomputable def E30_1 (cal:Cal) (k m1:Nat):KR:=az P cal (ax P cal m1) none 30 (cL (cL (cR (cL (cR (cR pw)))))) (Lv.a (Lv.a (Lv.b (Lv.a (Lv.b (Lv.b (A 30))))))) (IX cal k m1) (qV cal k) (aw P ez)
noncomputable def R30_1 (cal:Cal) (k m1:Nat):V3:=fun u0 u1 u5 H n=>ax P cal m1 (Lv.a (Lv.b (Lv.a (Lv.b (Lv.b (A 30)))))) none 30 (cL (cR (cL (cR (cR pw))))) (PQ cal k) (qV cal k) (aw P ez) (Tr.set (Tr.set (Tr.set Tr.nil 5 (some u5)) 1 (some u1)) 0 (some u0)) H n []
noncomputable def B30_1 (cal:Cal) (k m1:Nat) (b1:V3) (u0 u1 u5:Value) (H:Hp) (n:Nat):Res:=
aq (lenV P 44 u0) fun v_b=>
binK P .lss 3 (.tmp 11) (.tmp 13) u5 v_b fun v_c=>
ifK v_c (
aq (aW P 44 u0 u5) fun v_f=>
aq (aX v_f) fun a_g=>aq (ak P H 3 a_g) fun v_h=>
aq (aW P 44 u1 u5) fun v_k=>
aq (aX v_k) fun a_l=>aq (ak P H 3 a_l) fun v_m=>
binK P .neq 3 (.tmp 20) (.tmp 24) v_h v_m fun v_n=>
ifK v_n (
some ((.bool false),H,n)) (
binK P .add 3 (.tmp 15) (.const (.int .i64 1)) u5 (.int .i64 1) fun v_q=>
b1 u0 u1 v_q H n)) (
some ((.bool true),H,n))
noncomputable def Vk (cal:Cal) (k m1:Nat) (b1:V3) (u0 u1 u5:Value) (H:Hp) (n:Nat):Res:=B30_1 cal k m1 b1 u0 u1 u5 H n
noncomputable def VJ (cal:Cal) (k:Nat):Nat→V3:=fun m=>Nat.rec (motive:=fun _=>V3) (Vk cal k 0 (fun _ _ _ _ _=>none)) (fun m ih=>Vk cal k (m+1) ih) m
theorem h30_1 (cal:Cal) (k m1:Nat) (u0 u1 u5:Value) (H:Hp) (n:Nat):labK (E30_1 cal k m1) (Tr.set (Tr.set (Tr.set Tr.nil 5 (some u5)) 1 (some u1)) 0 (some u0)) H n []=Vk cal k m1 (R30_1 cal k m1) u0 u1 u5 H n:=by
 refine Eq.trans (b:=B30_1 cal k m1 (R30_1 cal k m1) u0 u1 u5 H n) (by kernel_rfl) ?_
 rw[Vk]
theorem q30_1 (cal:Cal) (k:Nat):∀(m:Nat) (u0 u1 u5:Value) (H:Hp) (n:Nat),labK (E30_1 cal k m) (Tr.set (Tr.set (Tr.set Tr.nil 5 (some u5)) 1 (some u1)) 0 (some u0)) H n []=VJ cal k m u0 u1 u5 H n
 | 0,u0,u1,u5,H,n=>by
  rw[h30_1]
  have e:R30_1 cal k 0=fun _ _ _ _ _=>none:=by funext u0 u1 u5 H n; kernel_rfl
  rw[e]; rfl
 | m+1,u0,u1,u5,H,n=>by
  rw[h30_1]
  have e:R30_1 cal k (m+1)=VJ cal k m:=by
   funext u0 u1 u5 H n
   have e:R30_1 cal k (m+1) u0 u1 u5 H n=labK (E30_1 cal k m) (Tr.set (Tr.set (Tr.set Tr.nil 5 (some u5)) 1 (some u1)) 0 (some u0)) H n []:=by kernel_rfl
   rw[e]; exact q30_1 ..
  rw[e]; rfl
noncomputable def B30_0 (cal:Cal) (k:Nat) (j1:V3) (v0 v1:Value) (H:Hp) (n:Nat):Res:=
aq (lenV P 44 v0) fun v_3=>
aq (lenV P 44 v1) fun v_5=>
binK P .neq 3 (.tmp 7) (.tmp 9) v_3 v_5 fun v_6=>
ifK v_6 (
some ((.bool false),H,n)) (
j1 v0 v1 (.int .i64 0) H n)
noncomputable def VQ (cal:Cal) (k:Nat) (v0 v1:Value) (H:Hp) (n:Nat):Res:=B30_0 cal k (VJ cal k k) v0 v1 H n
theorem h30_0 (cal:Cal) (k:Nat) (v0 v1:Value) (H:Hp) (n:Nat):aK P cal A (k+1) 30 [v0,v1] H n=VQ cal k v0 v1 H n:=by
 have h:aK P cal A (k+1) 30 [v0,v1] H n=B30_0 cal k (fun u0 u1 u5 H n=>labK (E30_1 cal k k) (Tr.set (Tr.set (Tr.set Tr.nil 5 (some u5)) 1 (some u1)) 0 (some u0)) H n []) v0 v1 H n:=by
  rw[bk (fn:=Go.Proofs.Try.f30) (c:=pw) (rs:=ez) (by kernel_rfl) (by kernel_rfl) (by kernel_rfl) (by kernel_rfl)]
  kernel_rfl
 rw[h,VQ]
 have e1:(fun u0 u1 u5 H n=>labK (E30_1 cal k k) (Tr.set (Tr.set (Tr.set Tr.nil 5 (some u5)) 1 (some u1)) 0 (some u0)) H n [])=(VJ cal k k):=by funext u0 u1 u5 H n; exact q30_1 ..
 rw[e1]
noncomputable def code32:Code:=cw 32
noncomputable def AY:List ResultVar:=dj 32
noncomputable def K32_p (cal:Cal) (k:Nat):KR:=(cutK (A 32).c (az P cal (ax P cal k) none 32 (cR code32) (Lv.b (A 32)) (aw P AY) X0 (aw P AY)))
noncomputable def K32_pr (cal:Cal) (k:Nat):KR:=(cutK (Lv.b (A 32)).c (az P cal (ax P cal k) none 32 (cR (cR code32)) (Lv.b (Lv.b (A 32))) (aw P AY) X0 (aw P AY)))
noncomputable def B32_0 (cal:Cal) (k:Nat) (v0 v1 v2:Value) (H:Hp) (n:Nat):Res:=
binK P .geq 3 (.tmp 7) (.tmp 8) v0 v1 fun v_4=>
aV v_4 true (fun k_6=>
k_6 v0 H n) H n fun v_7 H_8 n_9=>
aV v_4 true (fun k_b=>
k_b v2 H_8 n_9) H_8 n_9 fun v_c H_d n_e=>
aV v_4 true (fun k_g=>
binK P .leq 3 (.tmp 11) (.tmp 12) v_7 v_c fun v_k=>
k_g v_k H_d n_e) H_d n_e fun v_h H_i n_j=>
aq (dq v_4 v_h (.bool false)) fun v_l=>
some (v_l,H_i,n_j)
noncomputable def VV (cal:Cal) (k:Nat) (v0 v1 v2:Value) (H:Hp) (n:Nat):Res:=B32_0 cal k v0 v1 v2 H n
theorem h32_0 (cal:Cal) (k:Nat) (v0 v1 v2:Value) (H:Hp) (n:Nat):aK P cal A (k+1) 32 [v0,v1,v2] H n=VV cal k v0 v1 v2 H n:=by
 have h:aK P cal A (k+1) 32 [v0,v1,v2] H n=B32_0 cal k v0 v1 v2 H n:=by
  rw[bk (fn:=Go.Proofs.Try.f32) (c:=code32) (rs:=AY) (by kernel_rfl) (by kernel_rfl) (by kernel_rfl) (by kernel_rfl)]
  kernel_rfl
 rw[h,VV]
noncomputable def IY:Code:=cw 48
noncomputable def lX:List ResultVar:=dj 48
noncomputable def K48_p (cal:Cal) (k:Nat):KR:=(cutK (A 48).c (az P cal (ax P cal k) none 48 (cR IY) (Lv.b (A 48)) (aw P lX) X0 (aw P lX)))
noncomputable def K48_pr (cal:Cal) (k:Nat):KR:=(cutK (Lv.b (A 48)).c (az P cal (ax P cal k) none 48 (cR (cR IY)) (Lv.b (Lv.b (A 48))) (aw P lX) X0 (aw P lX)))
noncomputable def K48_prr (cal:Cal) (k:Nat):KR:=(cutK (Lv.b (Lv.b (A 48))).c (az P cal (ax P cal k) none 48 (cR (cR (cR IY))) (Lv.b (Lv.b (Lv.b (A 48)))) (aw P lX) X0 (aw P lX)))
noncomputable def K48_prrl (cal:Cal) (k:Nat):KR:=(cutK (Lv.a (Lv.b (Lv.b (A 48)))).c (az P cal (ax P cal k) none 48 (cR (cL (cR (cR IY)))) (Lv.b (Lv.a (Lv.b (Lv.b (A 48))))) (K48_prr cal k) X0 (aw P lX)))
noncomputable def K48_prrlrl (cal:Cal) (k:Nat):KR:=(cutK (Lv.a (Lv.b (Lv.a (Lv.b (Lv.b (A 48)))))).c (az P cal (ax P cal k) none 48 (cR (cL (cR (cL (cR (cR IY)))))) (Lv.b (Lv.a (Lv.b (Lv.a (Lv.b (Lv.b (A 48))))))) (K48_prr cal k) X0 (aw P lX)))
noncomputable def K48_prrr (cal:Cal) (k:Nat):KR:=(cutK (Lv.b (Lv.b (Lv.b (A 48)))).c (az P cal (ax P cal k) none 48 (cR (cR (cR (cR IY)))) (Lv.b (Lv.b (Lv.b (Lv.b (A 48))))) (aw P lX) X0 (aw P lX)))
noncomputable def B48_0 (cal:Cal) (k:Nat) (v0:Value) (H:Hp) (n:Nat):Res:=
boxK 35 v0 H n fun v_1 H_2 n_3=>
aq (aX v_1) fun a_7=>aq (ak P H_2 35 a_7) fun v_6=>
aY P cal 61 [v_6] H_2 n_3 fun v_8 H_9 n_a=>
aq (tupV v_8 0) fun v_c=>
aq (tupV v_8 1) fun v_d=>
binK P .neq 29 (.tmp 11) (.const (.int .i64 0)) v_d (.int .i64 0) fun v_h=>
ifK v_h (
some ((Value.tuple ⟨[(.slice none 0 0),v_d]⟩),H_9,n_a)) (
aY P cal 85 [v_c] H_9 n_a fun v_m H_n n_o=>
some ((Value.tuple ⟨[v_m,(.int .i64 0)]⟩),H_n,n_o))
noncomputable def Ox (cal:Cal) (k:Nat) (v0:Value) (H:Hp) (n:Nat):Res:=B48_0 cal k v0 H n
theorem h48_0 (cal:Cal) (k:Nat) (v0:Value) (H:Hp) (n:Nat):aK P cal A (k+1) 48 [v0] H n=Ox cal k v0 H n:=by
 have h:aK P cal A (k+1) 48 [v0] H n=B48_0 cal k v0 H n:=by
  rw[bk (fn:=Go.Proofs.Try.f48) (c:=IY) (rs:=lX) (by kernel_rfl) (by kernel_rfl) (by kernel_rfl) (by kernel_rfl)]
  kernel_rfl
 rw[h,Ox]
noncomputable def code49:Code:=cw 49
noncomputable def tK:List ResultVar:=dj 49
noncomputable def K49_p (cal:Cal) (k:Nat):KR:=(cutK (A 49).c (az P cal (ax P cal k) none 49 (cR code49) (Lv.b (A 49)) (aw P tK) X0 (aw P tK)))
noncomputable def K49_pr (cal:Cal) (k:Nat):KR:=(cutK (Lv.b (A 49)).c (az P cal (ax P cal k) none 49 (cR (cR code49)) (Lv.b (Lv.b (A 49))) (aw P tK) X0 (aw P tK)))
noncomputable def K49_prr (cal:Cal) (k:Nat):KR:=(cutK (Lv.b (Lv.b (A 49))).c (az P cal (ax P cal k) none 49 (cR (cR (cR code49))) (Lv.b (Lv.b (Lv.b (A 49)))) (aw P tK) X0 (aw P tK)))
noncomputable def B49_0 (cal:Cal) (k:Nat) (v0 v1:Value) (H:Hp) (n:Nat):Res:=
boxK 35 v0 H n fun v_1 H_2 n_3=>
aq (aX v_1) fun a_6=>aq (ak P H_2 35 a_6) fun v_5=>
aY P cal 61 [v_5] H_2 n_3 fun v_7 H_8 n_9=>
aq (tupV v_7 0) fun v_b=>
aq (tupV v_7 1) fun v_c=>
binK P .eql 29 (.tmp 12) (.const (.int .i64 0)) v_c (.int .i64 0) fun v_g=>
aV v_g true (fun k_i=>
k_i v1 H_8 n_9) H_8 n_9 fun v_j H_k n_l=>
aV v_g true (fun k_n=>
k_n v_b H_k n_l) H_k n_l fun v_o H_p n_q=>
aV v_g true (fun k_s=>
aq (nilV v_o) fun v_w=>
k_s v_w H_p n_q) H_p n_q fun v_t H_u n_v=>
aV v_g true (fun k_x=>
aq (ay P 117 v_t 0) fun v_11=>
k_x v_11 H_u n_v) H_u n_v fun v_y H_z n_10=>
aV v_g true (fun k_12=>
aq (aX v_y) fun a_17=>aq (ak P H_z 35 a_17) fun v_16=>
k_12 v_16 H_z n_10) H_z n_10 fun v_13 H_14 n_15=>
aV v_g true (fun k_18=>
k_18 (Value.func (Fn.func 71) ⟨[v_13]⟩ ⟨[]⟩) H_14 n_15) H_14 n_15 fun v_19 H_1a n_1b=>
aV v_g true (fun k_1d=>
aY P cal 86 [v_j,v_19] H_1a n_1b fun v_1h H_1i n_1j=>
k_1d v_1h H_1i n_1j) H_1a n_1b fun v_1e H_1f n_1g=>
aq (dq v_g v_1e (.bool false)) fun v_1k=>
aV v_1k true (fun k_1m=>
k_1m v1 H_1f n_1g) H_1f n_1g fun v_1n H_1o n_1p=>
aV v_1k true (fun k_1r=>
aY P cal 87 [v_1n] H_1o n_1p fun v_1v H_1w n_1x=>
k_1r v_1v H_1w n_1x) H_1o n_1p fun v_1s H_1t n_1u=>
aq (dq v_1k v_1s (.bool false)) fun v_1y=>
aV v_1y true (fun k_20=>
k_20 v_b H_1t n_1u) H_1t n_1u fun v_21 H_22 n_23=>
aV v_1y true (fun k_25=>
k_25 v1 H_22 n_23) H_22 n_23 fun v_26 H_27 n_28=>
aV v_1y true (fun k_2a=>
aY P cal 88 [v_21,v_26] H_27 n_28 fun v_2e H_2f n_2g=>
k_2a v_2e H_2f n_2g) H_27 n_28 fun v_2b H_2c n_2d=>
aq (dq v_1y v_2b (.bool false)) fun v_2h=>
some (v_2h,H_2c,n_2d)
noncomputable def VW (cal:Cal) (k:Nat) (v0 v1:Value) (H:Hp) (n:Nat):Res:=B49_0 cal k v0 v1 H n
theorem h49_0 (cal:Cal) (k:Nat) (v0 v1:Value) (H:Hp) (n:Nat):aK P cal A (k+1) 49 [v0,v1] H n=VW cal k v0 v1 H n:=by
 have h:aK P cal A (k+1) 49 [v0,v1] H n=B49_0 cal k v0 v1 H n:=by
  rw[bk (fn:=Go.Proofs.Try.f49) (c:=code49) (rs:=tK) (by kernel_rfl) (by kernel_rfl) (by kernel_rfl) (by kernel_rfl)]
  kernel_rfl
 rw[h,VW]
noncomputable def gX:Code:=cw 50
noncomputable def cj:List ResultVar:=dj 50
noncomputable def K50_p (cal:Cal) (k:Nat):KR:=(cutK (A 50).c (az P cal (ax P cal k) none 50 (cR gX) (Lv.b (A 50)) (aw P cj) X0 (aw P cj)))
noncomputable def K50_pr (cal:Cal) (k:Nat):KR:=(cutK (Lv.b (A 50)).c (az P cal (ax P cal k) none 50 (cR (cR gX)) (Lv.b (Lv.b (A 50))) (aw P cj) X0 (aw P cj)))
noncomputable def K50_prl (cal:Cal) (k:Nat):KR:=(cutK (Lv.a (Lv.b (A 50))).c (az P cal (ax P cal k) none 50 (cR (cL (cR gX))) (Lv.b (Lv.a (Lv.b (A 50)))) (K50_pr cal k) X0 (aw P cj)))
noncomputable def uj (cal:Cal) (k:Nat):XR:=(upX 0 (K50_pr cal k) X0)
noncomputable def MW (cal:Cal) (k:Nat) (m1:Nat):KR:=(fun T H n D=>ax P cal m1 (Lv.a (Lv.b (Lv.a (Lv.b (A 50))))) none 50 (cL (cR (cL (cR gX)))) (K50_pr cal k) (uj cal k) (aw P cj) (cutT (Lv.a (Lv.b (Lv.a (Lv.b (A 50))))).c T) H n D)
noncomputable def K50_prlrll (cal:Cal) (k:Nat) (m1:Nat):KR:=(cutK (Lv.a (Lv.a (Lv.b (Lv.a (Lv.b (A 50)))))).c (az P cal (ax P cal m1) none 50 (cR (cL (cL (cR (cL (cR gX)))))) (Lv.b (Lv.a (Lv.a (Lv.b (Lv.a (Lv.b (A 50))))))) (MW cal k m1) (uj cal k) (aw P cj)))
noncomputable def K50_prlrlll (cal:Cal) (k:Nat) (m1:Nat):KR:=(cutK (Lv.a (Lv.a (Lv.a (Lv.b (Lv.a (Lv.b (A 50))))))).c (az P cal (ax P cal m1) none 50 (cR (cL (cL (cL (cR (cL (cR gX))))))) (Lv.b (Lv.a (Lv.a (Lv.a (Lv.b (Lv.a (Lv.b (A 50)))))))) (K50_prlrll cal k m1) (uj cal k) (aw P cj)))
noncomputable def rV (cal:Cal) (k:Nat) (m1:Nat):KR:=(cutK (Lv.b (Lv.a (Lv.a (Lv.b (Lv.a (Lv.b (A 50))))))).c (az P cal (ax P cal m1) none 50 (cR (cR (cL (cL (cR (cL (cR gX))))))) (Lv.b (Lv.b (Lv.a (Lv.a (Lv.b (Lv.a (Lv.b (A 50)))))))) (MW cal k m1) (uj cal k) (aw P cj)))
noncomputable def pY (cal:Cal) (k:Nat) (m1:Nat):XR:=(upX 1 (rV cal k m1) (uj cal k))
noncomputable def K50_prlrllrll (cal:Cal) (k:Nat) (m1:Nat):KR:=(cutK (Lv.a (Lv.a (Lv.b (Lv.a (Lv.a (Lv.b (Lv.a (Lv.b (A 50))))))))).c (az P cal (ax P cal m1) none 50 (cR (cL (cL (cR (cL (cL (cR (cL (cR gX))))))))) (Lv.b (Lv.a (Lv.a (Lv.b (Lv.a (Lv.a (Lv.b (Lv.a (Lv.b (A 50)))))))))) (rV cal k m1) (pY cal k m1) (aw P cj)))
noncomputable def K50_prlrllrlll (cal:Cal) (k:Nat) (m1:Nat):KR:=(cutK (Lv.a (Lv.a (Lv.a (Lv.b (Lv.a (Lv.a (Lv.b (Lv.a (Lv.b (A 50)))))))))).c (az P cal (ax P cal m1) none 50 (cR (cL (cL (cL (cR (cL (cL (cR (cL (cR gX)))))))))) (Lv.b (Lv.a (Lv.a (Lv.a (Lv.b (Lv.a (Lv.a (Lv.b (Lv.a (Lv.b (A 50))))))))))) (K50_prlrllrll cal k m1) (pY cal k m1) (aw P cj)))
noncomputable def K50_prlrllrlllrl (cal:Cal) (k:Nat) (m1:Nat):KR:=(cutK (Lv.a (Lv.b (Lv.a (Lv.a (Lv.a (Lv.b (Lv.a (Lv.a (Lv.b (Lv.a (Lv.b (A 50)))))))))))).c (az P cal (ax P cal m1) none 50 (cR (cL (cR (cL (cL (cL (cR (cL (cL (cR (cL (cR gX)))))))))))) (Lv.b (Lv.a (Lv.b (Lv.a (Lv.a (Lv.a (Lv.b (Lv.a (Lv.a (Lv.b (Lv.a (Lv.b (A 50))))))))))))) (K50_prlrllrll cal k m1) (pY cal k m1) (aw P cj)))
noncomputable def K50_prlrllrllr (cal:Cal) (k:Nat) (m1:Nat):KR:=(cutK (Lv.b (Lv.a (Lv.a (Lv.b (Lv.a (Lv.a (Lv.b (Lv.a (Lv.b (A 50)))))))))).c (az P cal (ax P cal m1) none 50 (cR (cR (cL (cL (cR (cL (cL (cR (cL (cR gX)))))))))) (Lv.b (Lv.b (Lv.a (Lv.a (Lv.b (Lv.a (Lv.a (Lv.b (Lv.a (Lv.b (A 50))))))))))) (rV cal k m1) (pY cal k m1) (aw P cj)))
noncomputable def iW (cal:Cal) (k:Nat) (m1:Nat):XR:=(upX 2 (rV cal k m1) (pY cal k m1))
noncomputable def uq (cal:Cal) (k:Nat) (m1:Nat) (m2:Nat):KR:=(fun T H n D=>ax P cal m2 (Lv.a (Lv.b (Lv.b (Lv.a (Lv.a (Lv.b (Lv.a (Lv.a (Lv.b (Lv.a (Lv.b (A 50)))))))))))) none 50 (cL (cR (cR (cL (cL (cR (cL (cL (cR (cL (cR gX))))))))))) (rV cal k m1) (iW cal k m1) (aw P cj) (cutT (Lv.a (Lv.b (Lv.b (Lv.a (Lv.a (Lv.b (Lv.a (Lv.a (Lv.b (Lv.a (Lv.b (A 50)))))))))))).c T) H n D)
noncomputable def K50_prlrllrllrrll (cal:Cal) (k:Nat) (m1:Nat) (m2:Nat):KR:=(cutK (Lv.a (Lv.a (Lv.b (Lv.b (Lv.a (Lv.a (Lv.b (Lv.a (Lv.a (Lv.b (Lv.a (Lv.b (A 50))))))))))))).c (az P cal (ax P cal m2) none 50 (cR (cL (cL (cR (cR (cL (cL (cR (cL (cL (cR (cL (cR gX))))))))))))) (Lv.b (Lv.a (Lv.a (Lv.b (Lv.b (Lv.a (Lv.a (Lv.b (Lv.a (Lv.a (Lv.b (Lv.a (Lv.b (A 50)))))))))))))) (uq cal k m1 m2) (iW cal k m1) (aw P cj)))
noncomputable def K50_prlrllrllrrlll (cal:Cal) (k:Nat) (m1:Nat) (m2:Nat):KR:=(cutK (Lv.a (Lv.a (Lv.a (Lv.b (Lv.b (Lv.a (Lv.a (Lv.b (Lv.a (Lv.a (Lv.b (Lv.a (Lv.b (A 50)))))))))))))).c (az P cal (ax P cal m2) none 50 (cR (cL (cL (cL (cR (cR (cL (cL (cR (cL (cL (cR (cL (cR gX)))))))))))))) (Lv.b (Lv.a (Lv.a (Lv.a (Lv.b (Lv.b (Lv.a (Lv.a (Lv.b (Lv.a (Lv.a (Lv.b (Lv.a (Lv.b (A 50))))))))))))))) (K50_prlrllrllrrll cal k m1 m2) (iW cal k m1) (aw P cj)))
noncomputable def kj (cal:Cal) (k:Nat) (m1:Nat) (m2:Nat):KR:=(cutK (Lv.b (Lv.a (Lv.a (Lv.b (Lv.b (Lv.a (Lv.a (Lv.b (Lv.a (Lv.a (Lv.b (Lv.a (Lv.b (A 50)))))))))))))).c (az P cal (ax P cal m2) none 50 (cR (cR (cL (cL (cR (cR (cL (cL (cR (cL (cL (cR (cL (cR gX)))))))))))))) (Lv.b (Lv.b (Lv.a (Lv.a (Lv.b (Lv.b (Lv.a (Lv.a (Lv.b (Lv.a (Lv.a (Lv.b (Lv.a (Lv.b (A 50))))))))))))))) (uq cal k m1 m2) (iW cal k m1) (aw P cj)))
noncomputable def K50_pxrlrllrllrrllrl (cal:Cal) (k:Nat) (m1:Nat) (m2:Nat):XR:=(upX 3 (kj cal k m1 m2) (iW cal k m1))
noncomputable def K50_prlrllrllrrllrll (cal:Cal) (k:Nat) (m1:Nat) (m2:Nat):KR:=(cutK (Lv.a (Lv.a (Lv.b (Lv.a (Lv.a (Lv.b (Lv.b (Lv.a (Lv.a (Lv.b (Lv.a (Lv.a (Lv.b (Lv.a (Lv.b (A 50)))))))))))))))).c (az P cal (ax P cal m2) none 50 (cR (cL (cL (cR (cL (cL (cR (cR (cL (cL (cR (cL (cL (cR (cL (cR gX)))))))))))))))) (Lv.b (Lv.a (Lv.a (Lv.b (Lv.a (Lv.a (Lv.b (Lv.b (Lv.a (Lv.a (Lv.b (Lv.a (Lv.a (Lv.b (Lv.a (Lv.b (A 50))))))))))))))))) (kj cal k m1 m2) (K50_pxrlrllrllrrllrl cal k m1 m2) (aw P cj)))
noncomputable def dQ (cal:Cal) (k:Nat) (m1:Nat) (m2:Nat):XR:=(upX 4 (kj cal k m1 m2) (K50_pxrlrllrllrrllrl cal k m1 m2))
noncomputable def my (cal:Cal) (k:Nat) (m1:Nat) (m2:Nat) (m3:Nat):KR:=(fun T H n D=>ax P cal m3 (Lv.a (Lv.b (Lv.a (Lv.a (Lv.b (Lv.a (Lv.a (Lv.b (Lv.b (Lv.a (Lv.a (Lv.b (Lv.a (Lv.a (Lv.b (Lv.a (Lv.b (A 50)))))))))))))))))) none 50 (cL (cR (cL (cL (cR (cL (cL (cR (cR (cL (cL (cR (cL (cL (cR (cL (cR gX))))))))))))))))) (kj cal k m1 m2) (dQ cal k m1 m2) (aw P cj) (cutT (Lv.a (Lv.b (Lv.a (Lv.a (Lv.b (Lv.a (Lv.a (Lv.b (Lv.b (Lv.a (Lv.a (Lv.b (Lv.a (Lv.a (Lv.b (Lv.a (Lv.b (A 50)))))))))))))))))).c T) H n D)
noncomputable def K50_prlrllrllrrllrllrll (cal:Cal) (k:Nat) (m1:Nat) (m2:Nat) (m3:Nat):KR:=(cutK (Lv.a (Lv.a (Lv.b (Lv.a (Lv.a (Lv.b (Lv.a (Lv.a (Lv.b (Lv.b (Lv.a (Lv.a (Lv.b (Lv.a (Lv.a (Lv.b (Lv.a (Lv.b (A 50))))))))))))))))))).c (az P cal (ax P cal m3) none 50 (cR (cL (cL (cR (cL (cL (cR (cL (cL (cR (cR (cL (cL (cR (cL (cL (cR (cL (cR gX))))))))))))))))))) (Lv.b (Lv.a (Lv.a (Lv.b (Lv.a (Lv.a (Lv.b (Lv.a (Lv.a (Lv.b (Lv.b (Lv.a (Lv.a (Lv.b (Lv.a (Lv.a (Lv.b (Lv.a (Lv.b (A 50)))))))))))))))))))) (my cal k m1 m2 m3) (dQ cal k m1 m2) (aw P cj)))
noncomputable def K50_prlrllrllrrllrllrlll (cal:Cal) (k:Nat) (m1:Nat) (m2:Nat) (m3:Nat):KR:=(cutK (Lv.a (Lv.a (Lv.a (Lv.b (Lv.a (Lv.a (Lv.b (Lv.a (Lv.a (Lv.b (Lv.b (Lv.a (Lv.a (Lv.b (Lv.a (Lv.a (Lv.b (Lv.a (Lv.b (A 50)))))))))))))))))))).c (az P cal (ax P cal m3) none 50 (cR (cL (cL (cL (cR (cL (cL (cR (cL (cL (cR (cR (cL (cL (cR (cL (cL (cR (cL (cR gX)))))))))))))))))))) (Lv.b (Lv.a (Lv.a (Lv.a (Lv.b (Lv.a (Lv.a (Lv.b (Lv.a (Lv.a (Lv.b (Lv.b (Lv.a (Lv.a (Lv.b (Lv.a (Lv.a (Lv.b (Lv.a (Lv.b (A 50))))))))))))))))))))) (K50_prlrllrllrrllrllrll cal k m1 m2 m3) (dQ cal k m1 m2) (aw P cj)))
noncomputable def lQ (cal:Cal) (k:Nat) (m1:Nat) (m2:Nat) (m3:Nat):KR:=(cutK (Lv.b (Lv.a (Lv.a (Lv.b (Lv.a (Lv.a (Lv.b (Lv.a (Lv.a (Lv.b (Lv.b (Lv.a (Lv.a (Lv.b (Lv.a (Lv.a (Lv.b (Lv.a (Lv.b (A 50)))))))))))))))))))).c (az P cal (ax P cal m3) none 50 (cR (cR (cL (cL (cR (cL (cL (cR (cL (cL (cR (cR (cL (cL (cR (cL (cL (cR (cL (cR gX)))))))))))))))))))) (Lv.b (Lv.b (Lv.a (Lv.a (Lv.b (Lv.a (Lv.a (Lv.b (Lv.a (Lv.a (Lv.b (Lv.b (Lv.a (Lv.a (Lv.b (Lv.a (Lv.a (Lv.b (Lv.a (Lv.b (A 50))))))))))))))))))))) (my cal k m1 m2 m3) (dQ cal k m1 m2) (aw P cj)))
noncomputable def K50_pxrlrllrllrrllrllrllrl (cal:Cal) (k:Nat) (m1:Nat) (m2:Nat) (m3:Nat):XR:=(upX 5 (lQ cal k m1 m2 m3) (dQ cal k m1 m2))
noncomputable def K50_prlrllrllrrllrllrllrll (cal:Cal) (k:Nat) (m1:Nat) (m2:Nat) (m3:Nat):KR:=(cutK (Lv.a (Lv.a (Lv.b (Lv.a (Lv.a (Lv.b (Lv.a (Lv.a (Lv.b (Lv.a (Lv.a (Lv.b (Lv.b (Lv.a (Lv.a (Lv.b (Lv.a (Lv.a (Lv.b (Lv.a (Lv.b (A 50)))))))))))))))))))))).c (az P cal (ax P cal m3) none 50 (cR (cL (cL (cR (cL (cL (cR (cL (cL (cR (cL (cL (cR (cR (cL (cL (cR (cL (cL (cR (cL (cR gX)))))))))))))))))))))) (Lv.b (Lv.a (Lv.a (Lv.b (Lv.a (Lv.a (Lv.b (Lv.a (Lv.a (Lv.b (Lv.a (Lv.a (Lv.b (Lv.b (Lv.a (Lv.a (Lv.b (Lv.a (Lv.a (Lv.b (Lv.a (Lv.b (A 50))))))))))))))))))))))) (lQ cal k m1 m2 m3) (K50_pxrlrllrllrrllrllrllrl cal k m1 m2 m3) (aw P cj)))
noncomputable def K50_prlrllrllrrllrllrllrllrl (cal:Cal) (k:Nat) (m1:Nat) (m2:Nat) (m3:Nat):KR:=(cutK (Lv.a (Lv.b (Lv.a (Lv.a (Lv.b (Lv.a (Lv.a (Lv.b (Lv.a (Lv.a (Lv.b (Lv.a (Lv.a (Lv.b (Lv.b (Lv.a (Lv.a (Lv.b (Lv.a (Lv.a (Lv.b (Lv.a (Lv.b (A 50)))))))))))))))))))))))).c (az P cal (ax P cal m3) none 50 (cR (cL (cR (cL (cL (cR (cL (cL (cR (cL (cL (cR (cL (cL (cR (cR (cL (cL (cR (cL (cL (cR (cL (cR gX)))))))))))))))))))))))) (Lv.b (Lv.a (Lv.b (Lv.a (Lv.a (Lv.b (Lv.a (Lv.a (Lv.b (Lv.a (Lv.a (Lv.b (Lv.a (Lv.a (Lv.b (Lv.b (Lv.a (Lv.a (Lv.b (Lv.a (Lv.a (Lv.b (Lv.a (Lv.b (A 50))))))))))))))))))))))))) (lQ cal k m1 m2 m3) (K50_pxrlrllrllrrllrllrllrl cal k m1 m2 m3) (aw P cj)))
noncomputable def K50_prr (cal:Cal) (k:Nat):KR:=(cutK (Lv.b (Lv.b (A 50))).c (az P cal (ax P cal k) none 50 (cR (cR (cR gX))) (Lv.b (Lv.b (Lv.b (A 50)))) (aw P cj) X0 (aw P cj)))
noncomputable def E50_3 (cal:Cal) (k m1 m2 m3:Nat):KR:=az P cal (ax P cal m3) none 50 (cL (cL (cR (cL (cL (cR (cL (cL (cR (cR (cL (cL (cR (cL (cL (cR (cL (cR gX)))))))))))))))))) (Lv.a (Lv.a (Lv.b (Lv.a (Lv.a (Lv.b (Lv.a (Lv.a (Lv.b (Lv.b (Lv.a (Lv.a (Lv.b (Lv.a (Lv.a (Lv.b (Lv.a (Lv.b (A 50))))))))))))))))))) (my cal k m1 m2 m3) (dQ cal k m1 m2) (aw P cj)
noncomputable def R50_3 (cal:Cal) (k m1 m2 m3:Nat):V5:=fun u1 u2 u5 u6 u7 H n=>ax P cal m3 (Lv.a (Lv.b (Lv.a (Lv.a (Lv.b (Lv.a (Lv.a (Lv.b (Lv.b (Lv.a (Lv.a (Lv.b (Lv.a (Lv.a (Lv.b (Lv.a (Lv.b (A 50)))))))))))))))))) none 50 (cL (cR (cL (cL (cR (cL (cL (cR (cR (cL (cL (cR (cL (cL (cR (cL (cR gX))))))))))))))))) (kj cal k m1 m2) (dQ cal k m1 m2) (aw P cj) (Tr.set (Tr.set (Tr.set (Tr.set (Tr.set Tr.nil 7 (some u7)) 6 (some u6)) 5 (some u5)) 2 (some u2)) 1 (some u1)) H n []
noncomputable def E50_2 (cal:Cal) (k m1 m2:Nat):KR:=az P cal (ax P cal m2) none 50 (cL (cL (cR (cR (cL (cL (cR (cL (cL (cR (cL (cR gX)))))))))))) (Lv.a (Lv.a (Lv.b (Lv.b (Lv.a (Lv.a (Lv.b (Lv.a (Lv.a (Lv.b (Lv.a (Lv.b (A 50))))))))))))) (uq cal k m1 m2) (iW cal k m1) (aw P cj)
noncomputable def HV (cal:Cal) (k m1 m2:Nat):V4:=fun u1 u2 u5 u6 H n=>ax P cal m2 (Lv.a (Lv.b (Lv.b (Lv.a (Lv.a (Lv.b (Lv.a (Lv.a (Lv.b (Lv.a (Lv.b (A 50)))))))))))) none 50 (cL (cR (cR (cL (cL (cR (cL (cL (cR (cL (cR gX))))))))))) (rV cal k m1) (iW cal k m1) (aw P cj) (Tr.set (Tr.set (Tr.set (Tr.set Tr.nil 6 (some u6)) 5 (some u5)) 2 (some u2)) 1 (some u1)) H n []
noncomputable def E50_1 (cal:Cal) (k m1:Nat):KR:=az P cal (ax P cal m1) none 50 (cL (cL (cR (cL (cR gX))))) (Lv.a (Lv.a (Lv.b (Lv.a (Lv.b (A 50)))))) (MW cal k m1) (uj cal k) (aw P cj)
noncomputable def xV (cal:Cal) (k m1:Nat):V3:=fun u1 u2 u5 H n=>ax P cal m1 (Lv.a (Lv.b (Lv.a (Lv.b (A 50))))) none 50 (cL (cR (cL (cR gX)))) (K50_pr cal k) (uj cal k) (aw P cj) (Tr.set (Tr.set (Tr.set Tr.nil 5 (some u5)) 2 (some u2)) 1 (some u1)) H n []
noncomputable def B50_3 (cal:Cal) (k m1 m2 m3:Nat) (b1:V3) (b2:V4) (b3:V5) (u1 u2 u5 u6 u7:Value) (H:Hp) (n:Nat):Res:=
aq (ay P 26 u2 0) fun v_54=>
aq (aX v_54) fun a_56=>aq (ak P H 22 a_56) fun v_55=>
aq (lenV P 22 v_55) fun v_57=>
binK P .lss 3 (.tmp 57) (.tmp 60) u7 v_57 fun v_58=>
ifK v_58 (
aq (aW P 44 u1 u5) fun v_5c=>
aq (aX v_5c) fun a_5d=>aq (ak P H 3 a_5d) fun v_5e=>
binK P .eql 3 (.tmp 64) (.tmp 68) u7 v_5e fun v_5f=>
bJ v_5f false (fun k_5h=>
aq (aX u2) fun a_5m=>aq (ak P H 26 a_5m) fun v_5n=>
k_5h v_5n (.l 26 a_5m) H n) .p H n fun v_5i x_5j H_5k n_5l=>
bJ v_5f false (fun k_5o=>
k_5o u7 .p H_5k n_5l) .p H_5k n_5l fun v_5p x_5q H_5r n_5s=>
bJ v_5f false (fun k_5u=>
k_5u u1 .p H_5r n_5s) .p H_5r n_5s fun v_5v x_5w H_5x n_5y=>
bJ v_5f false (fun k_60=>
k_60 u5 .p H_5x n_5y) .p H_5x n_5y fun v_61 x_62 H_63 n_64=>
bJ v_5f false (fun k_66=>
aq (aW P 44 v_5v v_61) fun v_6b=>
k_66 v_6b .p H_63 n_64) .p H_63 n_64 fun v_67 x_68 H_69 n_6a=>
bJ v_5f false (fun k_6c=>
aq (aX v_67) fun a_6h=>aq (ak P H_69 3 a_6h) fun v_6i=>
k_6c v_6i (.l 3 a_6h) H_69 n_6a) .p H_69 n_6a fun v_6d x_6e H_6f n_6g=>
bJ v_5f false (fun k_6j=>
aY P cal 89 [v_5i,v_5p,v_6d] H_6f n_6g fun v_6o H_6p n_6q=>
k_6j v_6o .e H_6p n_6q) .e H_6f n_6g fun v_6k x_6l H_6m n_6n=>
aq (dq v_5f (.bool true) v_6k) fun v_6r=>
bJ v_6r true (fun k_6t=>
k_6t u7 .p H_6m n_6n) .p H_6m n_6n fun v_6u x_6v H_6w n_6x=>
bJ v_6r true (fun k_6z=>
k_6z u1 .p H_6w n_6x) .p H_6w n_6x fun v_70 x_71 H_72 n_73=>
bJ v_6r true (fun k_75=>
k_75 u6 .p H_72 n_73) .p H_72 n_73 fun v_76 x_77 H_78 n_79=>
bJ v_6r true (fun k_7b=>
aq (aW P 44 v_70 v_76) fun v_7g=>
k_7b v_7g .p H_78 n_79) .p H_78 n_79 fun v_7c x_7d H_7e n_7f=>
bJ v_6r true (fun k_7h=>
aq (aX v_7c) fun a_7m=>aq (ak P H_7e 3 a_7m) fun v_7n=>
k_7h v_7n (.l 3 a_7m) H_7e n_7f) .p H_7e n_7f fun v_7i x_7j H_7k n_7l=>
bJ v_6r true (fun k_7o=>
binK P .eql 3 (.tmp 80) (.tmp 84) v_6u v_7i fun v_7t=>
k_7o v_7t .p H_7k n_7l) .p H_7k n_7l fun v_7p x_7q H_7r n_7s=>
bJ v_6r true (fun k_7u=>
k_7u v_7p .p H_7r n_7s) .p H_7r n_7s fun v_7v x_7w H_7x n_7y=>
bJ v_7v false (fun k_80=>
aq (aX u2) fun a_85=>aq (ak P H_7x 26 a_85) fun v_86=>
k_80 v_86 (.l 26 a_85) H_7x n_7y) .p H_7x n_7y fun v_81 x_82 H_83 n_84=>
bJ v_7v false (fun k_87=>
k_87 u7 .p H_83 n_84) .p H_83 n_84 fun v_88 x_89 H_8a n_8b=>
bJ v_7v false (fun k_8d=>
k_8d u1 .p H_8a n_8b) .p H_8a n_8b fun v_8e x_8f H_8g n_8h=>
bJ v_7v false (fun k_8j=>
k_8j u6 .p H_8g n_8h) .p H_8g n_8h fun v_8k x_8l H_8m n_8n=>
bJ v_7v false (fun k_8p=>
aq (aW P 44 v_8e v_8k) fun v_8u=>
k_8p v_8u .p H_8m n_8n) .p H_8m n_8n fun v_8q x_8r H_8s n_8t=>
bJ v_7v false (fun k_8v=>
aq (aX v_8q) fun a_90=>aq (ak P H_8s 3 a_90) fun v_91=>
k_8v v_91 (.l 3 a_90) H_8s n_8t) .p H_8s n_8t fun v_8w x_8x H_8y n_8z=>
bJ v_7v false (fun k_92=>
aY P cal 89 [v_81,v_88,v_8w] H_8y n_8z fun v_97 H_98 n_99=>
k_92 v_97 .e H_98 n_99) .e H_8y n_8z fun v_93 x_94 H_95 n_96=>
bJ v_6r true (fun k_9a=>
aq (dq v_7v (.bool true) v_93) fun v_9f=>
k_9a v_9f .p H_95 n_96) .p H_95 n_96 fun v_9b x_9c H_9d n_9e=>
aq (dq v_6r v_9b (.bool false)) fun v_9g=>
ifK v_9g (
some ((.bool false),H_9d,n_9e)) (
binK P .add 3 (.tmp 62) (.const (.int .i64 1)) u7 (.int .i64 1) fun v_9j=>
b3 u1 u2 u5 u6 v_9j H_9d n_9e)) (
binK P .add 3 (.tmp 55) (.const (.int .i64 1)) u6 (.int .i64 1) fun v_9m=>
b2 u1 u2 u5 v_9m H n)
noncomputable def SJ (cal:Cal) (k m1 m2 m3:Nat) (b1:V3) (b2:V4) (b3:V5) (u1 u2 u5 u6 u7:Value) (H:Hp) (n:Nat):Res:=B50_3 cal k m1 m2 m3 b1 b2 b3 u1 u2 u5 u6 u7 H n
noncomputable def VX (cal:Cal) (k m1 m2:Nat) (b1:V3) (b2:V4):Nat→V5:=fun m=>Nat.rec (motive:=fun _=>V5) (SJ cal k m1 m2 0 b1 b2 (fun _ _ _ _ _ _ _=>none)) (fun m ih=>SJ cal k m1 m2 (m+1) b1 b2 ih) m
theorem h50_3 (cal:Cal) (k m1 m2 m3:Nat) (u1 u2 u5 u6 u7:Value) (H:Hp) (n:Nat):labK (E50_3 cal k m1 m2 m3) (Tr.set (Tr.set (Tr.set (Tr.set (Tr.set Tr.nil 7 (some u7)) 6 (some u6)) 5 (some u5)) 2 (some u2)) 1 (some u1)) H n []=SJ cal k m1 m2 m3 (xV cal k m1) (HV cal k m1 m2) (R50_3 cal k m1 m2 m3) u1 u2 u5 u6 u7 H n:=by
 refine Eq.trans (b:=B50_3 cal k m1 m2 m3 (xV cal k m1) (HV cal k m1 m2) (R50_3 cal k m1 m2 m3) u1 u2 u5 u6 u7 H n) (by kernel_rfl) ?_
 rw[SJ]
theorem q50_3 (cal:Cal) (k m1 m2:Nat):∀(m:Nat) (u1 u2 u5 u6 u7:Value) (H:Hp) (n:Nat),labK (E50_3 cal k m1 m2 m) (Tr.set (Tr.set (Tr.set (Tr.set (Tr.set Tr.nil 7 (some u7)) 6 (some u6)) 5 (some u5)) 2 (some u2)) 1 (some u1)) H n []=VX cal k m1 m2 (xV cal k m1) (HV cal k m1 m2) m u1 u2 u5 u6 u7 H n
 | 0,u1,u2,u5,u6,u7,H,n=>by
  rw[h50_3]
  have e:R50_3 cal k m1 m2 0=fun _ _ _ _ _ _ _=>none:=by funext u1 u2 u5 u6 u7 H n; kernel_rfl
  rw[e]; rfl
 | m+1,u1,u2,u5,u6,u7,H,n=>by
  rw[h50_3]
  have e:R50_3 cal k m1 m2 (m+1)=VX cal k m1 m2 (xV cal k m1) (HV cal k m1 m2) m:=by
   funext u1 u2 u5 u6 u7 H n
   have e:R50_3 cal k m1 m2 (m+1) u1 u2 u5 u6 u7 H n=labK (E50_3 cal k m1 m2 m) (Tr.set (Tr.set (Tr.set (Tr.set (Tr.set Tr.nil 7 (some u7)) 6 (some u6)) 5 (some u5)) 2 (some u2)) 1 (some u1)) H n []:=by kernel_rfl
   rw[e]; exact q50_3 ..
  rw[e]; rfl
noncomputable def B50_2 (cal:Cal) (k m1 m2:Nat) (j3:V5) (b1:V3) (b2:V4) (u1 u2 u5 u6:Value) (H:Hp) (n:Nat):Res:=
binK P .lss 3 (.tmp 52) (.tmp 53) u6 u5 fun v_51=>
ifK v_51 (
j3 u1 u2 u5 u6 (.int .i64 0) H n) (
binK P .add 3 (.tmp 12) (.const (.int .i64 1)) u5 (.int .i64 1) fun v_9p=>
b1 u1 u2 v_9p H n)
noncomputable def SQ (cal:Cal) (k m1 m2:Nat) (b1:V3) (b2:V4) (u1 u2 u5 u6:Value) (H:Hp) (n:Nat):Res:=B50_2 cal k m1 m2 (VX cal k m1 m2 b1 b2 m2) b1 b2 u1 u2 u5 u6 H n
noncomputable def SV (cal:Cal) (k m1:Nat) (b1:V3):Nat→V4:=fun m=>Nat.rec (motive:=fun _=>V4) (SQ cal k m1 0 b1 (fun _ _ _ _ _ _=>none)) (fun m ih=>SQ cal k m1 (m+1) b1 ih) m
theorem h50_2 (cal:Cal) (k m1 m2:Nat) (u1 u2 u5 u6:Value) (H:Hp) (n:Nat):labK (E50_2 cal k m1 m2) (Tr.set (Tr.set (Tr.set (Tr.set Tr.nil 6 (some u6)) 5 (some u5)) 2 (some u2)) 1 (some u1)) H n []=SQ cal k m1 m2 (xV cal k m1) (HV cal k m1 m2) u1 u2 u5 u6 H n:=by
 refine Eq.trans (b:=B50_2 cal k m1 m2 (fun u1 u2 u5 u6 u7 H n=>labK (E50_3 cal k m1 m2 m2) (Tr.set (Tr.set (Tr.set (Tr.set (Tr.set Tr.nil 7 (some u7)) 6 (some u6)) 5 (some u5)) 2 (some u2)) 1 (some u1)) H n []) (xV cal k m1) (HV cal k m1 m2) u1 u2 u5 u6 H n) (by kernel_rfl) ?_
 rw[SQ]
 have e3:(fun u1 u2 u5 u6 u7 H n=>labK (E50_3 cal k m1 m2 m2) (Tr.set (Tr.set (Tr.set (Tr.set (Tr.set Tr.nil 7 (some u7)) 6 (some u6)) 5 (some u5)) 2 (some u2)) 1 (some u1)) H n [])=(VX cal k m1 m2 (xV cal k m1) (HV cal k m1 m2) m2):=by funext u1 u2 u5 u6 u7 H n; exact q50_3 ..
 rw[e3]
theorem q50_2 (cal:Cal) (k m1:Nat):∀(m:Nat) (u1 u2 u5 u6:Value) (H:Hp) (n:Nat),labK (E50_2 cal k m1 m) (Tr.set (Tr.set (Tr.set (Tr.set Tr.nil 6 (some u6)) 5 (some u5)) 2 (some u2)) 1 (some u1)) H n []=SV cal k m1 (xV cal k m1) m u1 u2 u5 u6 H n
 | 0,u1,u2,u5,u6,H,n=>by
  rw[h50_2]
  have e:HV cal k m1 0=fun _ _ _ _ _ _=>none:=by funext u1 u2 u5 u6 H n; kernel_rfl
  rw[e]; rfl
 | m+1,u1,u2,u5,u6,H,n=>by
  rw[h50_2]
  have e:HV cal k m1 (m+1)=SV cal k m1 (xV cal k m1) m:=by
   funext u1 u2 u5 u6 H n
   have e:HV cal k m1 (m+1) u1 u2 u5 u6 H n=labK (E50_2 cal k m1 m) (Tr.set (Tr.set (Tr.set (Tr.set Tr.nil 6 (some u6)) 5 (some u5)) 2 (some u2)) 1 (some u1)) H n []:=by kernel_rfl
   rw[e]; exact q50_2 ..
  rw[e]; rfl
noncomputable def B50_1 (cal:Cal) (k m1:Nat) (j2:V4) (b1:V3) (u1 u2 u5:Value) (H:Hp) (n:Nat):Res:=
aq (lenV P 44 u1) fun v_8=>
binK P .lss 3 (.tmp 8) (.tmp 10) u5 v_8 fun v_9=>
ifK v_9 (
aq (aW P 44 u1 u5) fun v_c=>
aq (aX v_c) fun a_d=>aq (ak P H 3 a_d) fun v_e=>
aq (ay P 26 u2 0) fun v_f=>
aq (aX v_f) fun a_g=>aq (ak P H 22 a_g) fun v_h=>
aq (lenV P 22 v_h) fun v_i=>
binK P .sub 3 (.tmp 20) (.const (.int .i64 1)) v_i (.int .i64 1) fun v_j=>
aY P cal 32 [v_e,(.int .i64 0),v_j] H n fun v_k H_l n_m=>
aq (dJ P v_k (Op.unary UnOp.not v_k)) fun v_n=>
bJ v_n false (fun k_p=>
k_p u5 .p H_l n_m) .p H_l n_m fun v_q x_r H_s n_t=>
bJ v_n false (fun k_v=>
binK P .gtr 3 (.tmp 25) (.const (.int .i64 0)) v_q (.int .i64 0) fun v_10=>
k_v v_10 .p H_s n_t) .p H_s n_t fun v_w x_x H_y n_z=>
bJ v_n false (fun k_11=>
k_11 v_w .p H_y n_z) .p H_y n_z fun v_12 x_13 H_14 n_15=>
bJ v_12 true (fun k_17=>
k_17 u1 .p H_14 n_15) .p H_14 n_15 fun v_18 x_19 H_1a n_1b=>
bJ v_12 true (fun k_1d=>
k_1d u5 .p H_1a n_1b) .p H_1a n_1b fun v_1e x_1f H_1g n_1h=>
bJ v_12 true (fun k_1j=>
aq (aW P 44 v_18 v_1e) fun v_1o=>
k_1j v_1o .p H_1g n_1h) .p H_1g n_1h fun v_1k x_1l H_1m n_1n=>
bJ v_12 true (fun k_1p=>
aq (aX v_1k) fun a_1u=>aq (ak P H_1m 3 a_1u) fun v_1v=>
k_1p v_1v (.l 3 a_1u) H_1m n_1n) .p H_1m n_1n fun v_1q x_1r H_1s n_1t=>
bJ v_12 true (fun k_1w=>
k_1w u1 .p H_1s n_1t) .p H_1s n_1t fun v_1x x_1y H_1z n_20=>
bJ v_12 true (fun k_22=>
k_22 u5 .p H_1z n_20) .p H_1z n_20 fun v_23 x_24 H_25 n_26=>
bJ v_12 true (fun k_28=>
binK P .sub 3 (.tmp 33) (.const (.int .i64 1)) v_23 (.int .i64 1) fun v_2d=>
k_28 v_2d .p H_25 n_26) .p H_25 n_26 fun v_29 x_2a H_2b n_2c=>
bJ v_12 true (fun k_2e=>
aq (aW P 44 v_1x v_29) fun v_2j=>
k_2e v_2j .p H_2b n_2c) .p H_2b n_2c fun v_2f x_2g H_2h n_2i=>
bJ v_12 true (fun k_2k=>
aq (aX v_2f) fun a_2p=>aq (ak P H_2h 3 a_2p) fun v_2q=>
k_2k v_2q (.l 3 a_2p) H_2h n_2i) .p H_2h n_2i fun v_2l x_2m H_2n n_2o=>
bJ v_12 true (fun k_2r=>
binK P .leq 3 (.tmp 31) (.tmp 36) v_1q v_2l fun v_2w=>
k_2r v_2w .p H_2n n_2o) .p H_2n n_2o fun v_2s x_2t H_2u n_2v=>
bJ v_n false (fun k_2x=>
aq (dq v_12 v_2s (.bool false)) fun v_32=>
k_2x v_32 .p H_2u n_2v) .p H_2u n_2v fun v_2y x_2z H_30 n_31=>
aq (dq v_n (.bool true) v_2y) fun v_33=>
bJ v_33 false (fun k_35=>
aq (ay P 26 u2 0) fun v_3a=>
k_35 v_3a .p H_30 n_31) .p H_30 n_31 fun v_36 x_37 H_38 n_39=>
bJ v_33 false (fun k_3b=>
aq (aX v_36) fun a_3g=>aq (ak P H_38 22 a_3g) fun v_3h=>
k_3b v_3h (.l 22 a_3g) H_38 n_39) .p H_38 n_39 fun v_3c x_3d H_3e n_3f=>
bJ v_33 false (fun k_3i=>
k_3i u1 .p H_3e n_3f) .p H_3e n_3f fun v_3j x_3k H_3l n_3m=>
bJ v_33 false (fun k_3o=>
k_3o u5 .p H_3l n_3m) .p H_3l n_3m fun v_3p x_3q H_3r n_3s=>
bJ v_33 false (fun k_3u=>
aq (aW P 44 v_3j v_3p) fun v_3z=>
k_3u v_3z .p H_3r n_3s) .p H_3r n_3s fun v_3v x_3w H_3x n_3y=>
bJ v_33 false (fun k_40=>
aq (aX v_3v) fun a_45=>aq (ak P H_3x 3 a_45) fun v_46=>
k_40 v_46 (.l 3 a_45) H_3x n_3y) .p H_3x n_3y fun v_41 x_42 H_43 n_44=>
bJ v_33 false (fun k_47=>
aq (aW P 22 v_3c v_41) fun v_4c=>
k_47 v_4c .p H_43 n_44) .p H_43 n_44 fun v_48 x_49 H_4a n_4b=>
bJ v_33 false (fun k_4d=>
aq (ay P 95 v_48 0) fun v_4i=>
k_4d v_4i .p H_4a n_4b) .p H_4a n_4b fun v_4e x_4f H_4g n_4h=>
bJ v_33 false (fun k_4j=>
aq (aX v_4e) fun a_4o=>aq (ak P H_4g 3 a_4o) fun v_4p=>
k_4j v_4p (.l 3 a_4o) H_4g n_4h) .p H_4g n_4h fun v_4k x_4l H_4m n_4n=>
bJ v_33 false (fun k_4q=>
binK P .eql 3 (.tmp 49) (.const (.int .i64 0)) v_4k (.int .i64 0) fun v_4v=>
k_4q v_4v .p H_4m n_4n) .p H_4m n_4n fun v_4r x_4s H_4t n_4u=>
aq (dq v_33 (.bool true) v_4r) fun v_4w=>
ifK v_4w (
some ((.bool false),H_4t,n_4u)) (
j2 u1 u2 u5 (.int .i64 0) H_4t n_4u)) (
some ((.bool true),H,n))
noncomputable def VY (cal:Cal) (k m1:Nat) (b1:V3) (u1 u2 u5:Value) (H:Hp) (n:Nat):Res:=B50_1 cal k m1 (SV cal k m1 b1 m1) b1 u1 u2 u5 H n
noncomputable def S50_1 (cal:Cal) (k:Nat):Nat→V3:=fun m=>Nat.rec (motive:=fun _=>V3) (VY cal k 0 (fun _ _ _ _ _=>none)) (fun m ih=>VY cal k (m+1) ih) m
theorem h50_1 (cal:Cal) (k m1:Nat) (u1 u2 u5:Value) (H:Hp) (n:Nat):labK (E50_1 cal k m1) (Tr.set (Tr.set (Tr.set Tr.nil 5 (some u5)) 2 (some u2)) 1 (some u1)) H n []=VY cal k m1 (xV cal k m1) u1 u2 u5 H n:=by
 refine Eq.trans (b:=B50_1 cal k m1 (fun u1 u2 u5 u6 H n=>labK (E50_2 cal k m1 m1) (Tr.set (Tr.set (Tr.set (Tr.set Tr.nil 6 (some u6)) 5 (some u5)) 2 (some u2)) 1 (some u1)) H n []) (xV cal k m1) u1 u2 u5 H n) (by kernel_rfl) ?_
 rw[VY]
 have e2:(fun u1 u2 u5 u6 H n=>labK (E50_2 cal k m1 m1) (Tr.set (Tr.set (Tr.set (Tr.set Tr.nil 6 (some u6)) 5 (some u5)) 2 (some u2)) 1 (some u1)) H n [])=(SV cal k m1 (xV cal k m1) m1):=by funext u1 u2 u5 u6 H n; exact q50_2 ..
 rw[e2]
theorem q50_1 (cal:Cal) (k:Nat):∀(m:Nat) (u1 u2 u5:Value) (H:Hp) (n:Nat),labK (E50_1 cal k m) (Tr.set (Tr.set (Tr.set Tr.nil 5 (some u5)) 2 (some u2)) 1 (some u1)) H n []=S50_1 cal k m u1 u2 u5 H n
 | 0,u1,u2,u5,H,n=>by
  rw[h50_1]
  have e:xV cal k 0=fun _ _ _ _ _=>none:=by funext u1 u2 u5 H n; kernel_rfl
  rw[e]; rfl
 | m+1,u1,u2,u5,H,n=>by
  rw[h50_1]
  have e:xV cal k (m+1)=S50_1 cal k m:=by
   funext u1 u2 u5 H n
   have e:xV cal k (m+1) u1 u2 u5 H n=labK (E50_1 cal k m) (Tr.set (Tr.set (Tr.set Tr.nil 5 (some u5)) 2 (some u2)) 1 (some u1)) H n []:=by kernel_rfl
   rw[e]; exact q50_1 ..
  rw[e]; rfl
noncomputable def B50_0 (cal:Cal) (k:Nat) (j1:V3) (v0 v1:Value) (H:Hp) (n:Nat):Res:=
boxK 26 v0 H n fun v_1 H_2 n_3=>
j1 v1 v_1 (.int .i64 0) H_2 n_3
noncomputable def C50_0 (cal:Cal) (k:Nat) (v0 v1:Value) (H:Hp) (n:Nat):Res:=B50_0 cal k (S50_1 cal k k) v0 v1 H n
theorem h50_0 (cal:Cal) (k:Nat) (v0 v1:Value) (H:Hp) (n:Nat):aK P cal A (k+1) 50 [v0,v1] H n=C50_0 cal k v0 v1 H n:=by
 have h:aK P cal A (k+1) 50 [v0,v1] H n=B50_0 cal k (fun u1 u2 u5 H n=>labK (E50_1 cal k k) (Tr.set (Tr.set (Tr.set Tr.nil 5 (some u5)) 2 (some u2)) 1 (some u1)) H n []) v0 v1 H n:=by
  rw[bk (fn:=Go.Proofs.Try.f50) (c:=gX) (rs:=cj) (by kernel_rfl) (by kernel_rfl) (by kernel_rfl) (by kernel_rfl)]
  kernel_rfl
 rw[h,C50_0]
 have e1:(fun u1 u2 u5 H n=>labK (E50_1 cal k k) (Tr.set (Tr.set (Tr.set Tr.nil 5 (some u5)) 2 (some u2)) 1 (some u1)) H n [])=(S50_1 cal k k):=by funext u1 u2 u5 H n; exact q50_1 ..
 rw[e1]
noncomputable def hZ:Code:=cw 51
noncomputable def cq:List ResultVar:=dj 51
noncomputable def K51_p (cal:Cal) (k:Nat):KR:=(cutK (A 51).c (az P cal (ax P cal k) none 51 (cR hZ) (Lv.b (A 51)) (aw P cq) X0 (aw P cq)))
noncomputable def K51_pr (cal:Cal) (k:Nat):KR:=(cutK (Lv.b (A 51)).c (az P cal (ax P cal k) none 51 (cR (cR hZ)) (Lv.b (Lv.b (A 51))) (aw P cq) X0 (aw P cq)))
noncomputable def PV (cal:Cal) (k:Nat):KR:=(cutK (Lv.b (Lv.b (A 51))).c (az P cal (ax P cal k) none 51 (cR (cR (cR hZ))) (Lv.b (Lv.b (Lv.b (A 51)))) (aw P cq) X0 (aw P cq)))
noncomputable def K51_prrl (cal:Cal) (k:Nat):KR:=(cutK (Lv.a (Lv.b (Lv.b (A 51)))).c (az P cal (ax P cal k) none 51 (cR (cL (cR (cR hZ)))) (Lv.b (Lv.a (Lv.b (Lv.b (A 51))))) (PV cal k) X0 (aw P cq)))
noncomputable def nK (cal:Cal) (k:Nat):XR:=(upX 0 (PV cal k) X0)
noncomputable def CQ (cal:Cal) (k:Nat) (m1:Nat):KR:=(fun T H n D=>ax P cal m1 (Lv.a (Lv.b (Lv.a (Lv.b (Lv.b (A 51)))))) none 51 (cL (cR (cL (cR (cR hZ))))) (PV cal k) (nK cal k) (aw P cq) (cutT (Lv.a (Lv.b (Lv.a (Lv.b (Lv.b (A 51)))))).c T) H n D)
noncomputable def K51_prrlrll (cal:Cal) (k:Nat) (m1:Nat):KR:=(cutK (Lv.a (Lv.a (Lv.b (Lv.a (Lv.b (Lv.b (A 51))))))).c (az P cal (ax P cal m1) none 51 (cR (cL (cL (cR (cL (cR (cR hZ))))))) (Lv.b (Lv.a (Lv.a (Lv.b (Lv.a (Lv.b (Lv.b (A 51)))))))) (CQ cal k m1) (nK cal k) (aw P cq)))
noncomputable def K51_prrlrlll (cal:Cal) (k:Nat) (m1:Nat):KR:=(cutK (Lv.a (Lv.a (Lv.a (Lv.b (Lv.a (Lv.b (Lv.b (A 51)))))))).c (az P cal (ax P cal m1) none 51 (cR (cL (cL (cL (cR (cL (cR (cR hZ)))))))) (Lv.b (Lv.a (Lv.a (Lv.a (Lv.b (Lv.a (Lv.b (Lv.b (A 51))))))))) (K51_prrlrll cal k m1) (nK cal k) (aw P cq)))
noncomputable def mz (cal:Cal) (k:Nat) (m1:Nat):KR:=(cutK (Lv.b (Lv.a (Lv.a (Lv.b (Lv.a (Lv.b (Lv.b (A 51)))))))).c (az P cal (ax P cal m1) none 51 (cR (cR (cL (cL (cR (cL (cR (cR hZ)))))))) (Lv.b (Lv.b (Lv.a (Lv.a (Lv.b (Lv.a (Lv.b (Lv.b (A 51))))))))) (CQ cal k m1) (nK cal k) (aw P cq)))
noncomputable def ij (cal:Cal) (k:Nat) (m1:Nat):XR:=(upX 1 (mz cal k m1) (nK cal k))
noncomputable def K51_prrlrllrll (cal:Cal) (k:Nat) (m1:Nat):KR:=(cutK (Lv.a (Lv.a (Lv.b (Lv.a (Lv.a (Lv.b (Lv.a (Lv.b (Lv.b (A 51)))))))))).c (az P cal (ax P cal m1) none 51 (cR (cL (cL (cR (cL (cL (cR (cL (cR (cR hZ)))))))))) (Lv.b (Lv.a (Lv.a (Lv.b (Lv.a (Lv.a (Lv.b (Lv.a (Lv.b (Lv.b (A 51))))))))))) (mz cal k m1) (ij cal k m1) (aw P cq)))
noncomputable def K51_prrlrllrllr (cal:Cal) (k:Nat) (m1:Nat):KR:=(cutK (Lv.b (Lv.a (Lv.a (Lv.b (Lv.a (Lv.a (Lv.b (Lv.a (Lv.b (Lv.b (A 51))))))))))).c (az P cal (ax P cal m1) none 51 (cR (cR (cL (cL (cR (cL (cL (cR (cL (cR (cR hZ))))))))))) (Lv.b (Lv.b (Lv.a (Lv.a (Lv.b (Lv.a (Lv.a (Lv.b (Lv.a (Lv.b (Lv.b (A 51)))))))))))) (mz cal k m1) (ij cal k m1) (aw P cq)))
noncomputable def K51_prrlrllrllrl (cal:Cal) (k:Nat) (m1:Nat):KR:=(cutK (Lv.a (Lv.b (Lv.a (Lv.a (Lv.b (Lv.a (Lv.a (Lv.b (Lv.a (Lv.b (Lv.b (A 51)))))))))))).c (az P cal (ax P cal m1) none 51 (cR (cL (cR (cL (cL (cR (cL (cL (cR (cL (cR (cR hZ)))))))))))) (Lv.b (Lv.a (Lv.b (Lv.a (Lv.a (Lv.b (Lv.a (Lv.a (Lv.b (Lv.a (Lv.b (Lv.b (A 51))))))))))))) (K51_prrlrllrllr cal k m1) (ij cal k m1) (aw P cq)))
noncomputable def K51_prrlrllrllrr (cal:Cal) (k:Nat) (m1:Nat):KR:=(cutK (Lv.b (Lv.b (Lv.a (Lv.a (Lv.b (Lv.a (Lv.a (Lv.b (Lv.a (Lv.b (Lv.b (A 51)))))))))))).c (az P cal (ax P cal m1) none 51 (cR (cR (cR (cL (cL (cR (cL (cL (cR (cL (cR (cR hZ)))))))))))) (Lv.b (Lv.b (Lv.b (Lv.a (Lv.a (Lv.b (Lv.a (Lv.a (Lv.b (Lv.a (Lv.b (Lv.b (A 51))))))))))))) (mz cal k m1) (ij cal k m1) (aw P cq)))
noncomputable def K51_prrlrllrllrrrr (cal:Cal) (k:Nat) (m1:Nat):KR:=(cutK (Lv.b (Lv.b (Lv.b (Lv.b (Lv.a (Lv.a (Lv.b (Lv.a (Lv.a (Lv.b (Lv.a (Lv.b (Lv.b (A 51)))))))))))))).c (az P cal (ax P cal m1) none 51 (cR (cR (cR (cR (cR (cL (cL (cR (cL (cL (cR (cL (cR (cR hZ)))))))))))))) (Lv.b (Lv.b (Lv.b (Lv.b (Lv.b (Lv.a (Lv.a (Lv.b (Lv.a (Lv.a (Lv.b (Lv.a (Lv.b (Lv.b (A 51))))))))))))))) (mz cal k m1) (ij cal k m1) (aw P cq)))
noncomputable def nw (cal:Cal) (k:Nat) (m1:Nat):KR:=(cutK (Lv.b (Lv.b (Lv.b (Lv.a (Lv.a (Lv.b (Lv.a (Lv.a (Lv.b (Lv.a (Lv.b (Lv.b (A 51))))))))))))).c (az P cal (ax P cal m1) none 51 (cR (cR (cR (cR (cL (cL (cR (cL (cL (cR (cL (cR (cR hZ))))))))))))) (Lv.b (Lv.b (Lv.b (Lv.b (Lv.a (Lv.a (Lv.b (Lv.a (Lv.a (Lv.b (Lv.a (Lv.b (Lv.b (A 51)))))))))))))) (mz cal k m1) (ij cal k m1) (aw P cq)))
noncomputable def K51_prrlrllrllrrrl (cal:Cal) (k:Nat) (m1:Nat):KR:=(cutK (Lv.a (Lv.b (Lv.b (Lv.b (Lv.a (Lv.a (Lv.b (Lv.a (Lv.a (Lv.b (Lv.a (Lv.b (Lv.b (A 51)))))))))))))).c (az P cal (ax P cal m1) none 51 (cR (cL (cR (cR (cR (cL (cL (cR (cL (cL (cR (cL (cR (cR hZ)))))))))))))) (Lv.b (Lv.a (Lv.b (Lv.b (Lv.b (Lv.a (Lv.a (Lv.b (Lv.a (Lv.a (Lv.b (Lv.a (Lv.b (Lv.b (A 51))))))))))))))) (nw cal k m1) (ij cal k m1) (aw P cq)))
noncomputable def eV (cal:Cal) (k:Nat) (m1:Nat):XR:=(upX 2 (nw cal k m1) (ij cal k m1))
noncomputable def oq (cal:Cal) (k:Nat) (m1:Nat) (m2:Nat):KR:=(fun T H n D=>ax P cal m2 (Lv.a (Lv.b (Lv.a (Lv.b (Lv.b (Lv.b (Lv.a (Lv.a (Lv.b (Lv.a (Lv.a (Lv.b (Lv.a (Lv.b (Lv.b (A 51)))))))))))))))) none 51 (cL (cR (cL (cR (cR (cR (cL (cL (cR (cL (cL (cR (cL (cR (cR hZ))))))))))))))) (nw cal k m1) (eV cal k m1) (aw P cq) (cutT (Lv.a (Lv.b (Lv.a (Lv.b (Lv.b (Lv.b (Lv.a (Lv.a (Lv.b (Lv.a (Lv.a (Lv.b (Lv.a (Lv.b (Lv.b (A 51)))))))))))))))).c T) H n D)
noncomputable def K51_prrlrllrllrrrlrll (cal:Cal) (k:Nat) (m1:Nat) (m2:Nat):KR:=(cutK (Lv.a (Lv.a (Lv.b (Lv.a (Lv.b (Lv.b (Lv.b (Lv.a (Lv.a (Lv.b (Lv.a (Lv.a (Lv.b (Lv.a (Lv.b (Lv.b (A 51))))))))))))))))).c (az P cal (ax P cal m2) none 51 (cR (cL (cL (cR (cL (cR (cR (cR (cL (cL (cR (cL (cL (cR (cL (cR (cR hZ))))))))))))))))) (Lv.b (Lv.a (Lv.a (Lv.b (Lv.a (Lv.b (Lv.b (Lv.b (Lv.a (Lv.a (Lv.b (Lv.a (Lv.a (Lv.b (Lv.a (Lv.b (Lv.b (A 51)))))))))))))))))) (oq cal k m1 m2) (eV cal k m1) (aw P cq)))
noncomputable def K51_prrlrllrllrrrlrlll (cal:Cal) (k:Nat) (m1:Nat) (m2:Nat):KR:=(cutK (Lv.a (Lv.a (Lv.a (Lv.b (Lv.a (Lv.b (Lv.b (Lv.b (Lv.a (Lv.a (Lv.b (Lv.a (Lv.a (Lv.b (Lv.a (Lv.b (Lv.b (A 51)))))))))))))))))).c (az P cal (ax P cal m2) none 51 (cR (cL (cL (cL (cR (cL (cR (cR (cR (cL (cL (cR (cL (cL (cR (cL (cR (cR hZ)))))))))))))))))) (Lv.b (Lv.a (Lv.a (Lv.a (Lv.b (Lv.a (Lv.b (Lv.b (Lv.b (Lv.a (Lv.a (Lv.b (Lv.a (Lv.a (Lv.b (Lv.a (Lv.b (Lv.b (A 51))))))))))))))))))) (K51_prrlrllrllrrrlrll cal k m1 m2) (eV cal k m1) (aw P cq)))
noncomputable def mJ (cal:Cal) (k:Nat) (m1:Nat) (m2:Nat):KR:=(cutK (Lv.b (Lv.a (Lv.a (Lv.b (Lv.a (Lv.b (Lv.b (Lv.b (Lv.a (Lv.a (Lv.b (Lv.a (Lv.a (Lv.b (Lv.a (Lv.b (Lv.b (A 51)))))))))))))))))).c (az P cal (ax P cal m2) none 51 (cR (cR (cL (cL (cR (cL (cR (cR (cR (cL (cL (cR (cL (cL (cR (cL (cR (cR hZ)))))))))))))))))) (Lv.b (Lv.b (Lv.a (Lv.a (Lv.b (Lv.a (Lv.b (Lv.b (Lv.b (Lv.a (Lv.a (Lv.b (Lv.a (Lv.a (Lv.b (Lv.a (Lv.b (Lv.b (A 51))))))))))))))))))) (oq cal k m1 m2) (eV cal k m1) (aw P cq)))
noncomputable def K51_pxrrlrllrllrrrlrllrl (cal:Cal) (k:Nat) (m1:Nat) (m2:Nat):XR:=(upX 3 (mJ cal k m1 m2) (eV cal k m1))
noncomputable def K51_prrlrllrllrrrlrllrll (cal:Cal) (k:Nat) (m1:Nat) (m2:Nat):KR:=(cutK (Lv.a (Lv.a (Lv.b (Lv.a (Lv.a (Lv.b (Lv.a (Lv.b (Lv.b (Lv.b (Lv.a (Lv.a (Lv.b (Lv.a (Lv.a (Lv.b (Lv.a (Lv.b (Lv.b (A 51)))))))))))))))))))).c (az P cal (ax P cal m2) none 51 (cR (cL (cL (cR (cL (cL (cR (cL (cR (cR (cR (cL (cL (cR (cL (cL (cR (cL (cR (cR hZ)))))))))))))))))))) (Lv.b (Lv.a (Lv.a (Lv.b (Lv.a (Lv.a (Lv.b (Lv.a (Lv.b (Lv.b (Lv.b (Lv.a (Lv.a (Lv.b (Lv.a (Lv.a (Lv.b (Lv.a (Lv.b (Lv.b (A 51))))))))))))))))))))) (mJ cal k m1 m2) (K51_pxrrlrllrllrrrlrllrl cal k m1 m2) (aw P cq)))
noncomputable def K51_prrlrllrllrrrlrllrllrl (cal:Cal) (k:Nat) (m1:Nat) (m2:Nat):KR:=(cutK (Lv.a (Lv.b (Lv.a (Lv.a (Lv.b (Lv.a (Lv.a (Lv.b (Lv.a (Lv.b (Lv.b (Lv.b (Lv.a (Lv.a (Lv.b (Lv.a (Lv.a (Lv.b (Lv.a (Lv.b (Lv.b (A 51)))))))))))))))))))))).c (az P cal (ax P cal m2) none 51 (cR (cL (cR (cL (cL (cR (cL (cL (cR (cL (cR (cR (cR (cL (cL (cR (cL (cL (cR (cL (cR (cR hZ)))))))))))))))))))))) (Lv.b (Lv.a (Lv.b (Lv.a (Lv.a (Lv.b (Lv.a (Lv.a (Lv.b (Lv.a (Lv.b (Lv.b (Lv.b (Lv.a (Lv.a (Lv.b (Lv.a (Lv.a (Lv.b (Lv.a (Lv.b (Lv.b (A 51))))))))))))))))))))))) (mJ cal k m1 m2) (K51_pxrrlrllrllrrrlrllrl cal k m1 m2) (aw P cq)))
noncomputable def K51_prrr (cal:Cal) (k:Nat):KR:=(cutK (Lv.b (Lv.b (Lv.b (A 51)))).c (az P cal (ax P cal k) none 51 (cR (cR (cR (cR hZ)))) (Lv.b (Lv.b (Lv.b (Lv.b (A 51))))) (aw P cq) X0 (aw P cq)))
noncomputable def E51_2 (cal:Cal) (k m1:Nat):KR:=az P cal (ax P cal m1) none 51 (cR (cR (cL (cL (cR (cL (cR (cR hZ)))))))) (Lv.b (Lv.b (Lv.a (Lv.a (Lv.b (Lv.a (Lv.b (Lv.b (A 51))))))))) (CQ cal k m1) (nK cal k) (aw P cq)
noncomputable def E51_3 (cal:Cal) (k m1:Nat):KR:=az P cal (ax P cal m1) none 51 (cR (cR (cR (cR (cL (cL (cR (cL (cL (cR (cL (cR (cR hZ))))))))))))) (Lv.b (Lv.b (Lv.b (Lv.b (Lv.a (Lv.a (Lv.b (Lv.a (Lv.a (Lv.b (Lv.a (Lv.b (Lv.b (A 51)))))))))))))) (mz cal k m1) (ij cal k m1) (aw P cq)
noncomputable def E51_4 (cal:Cal) (k m1 m2:Nat):KR:=az P cal (ax P cal m2) none 51 (cL (cL (cR (cL (cR (cR (cR (cL (cL (cR (cL (cL (cR (cL (cR (cR hZ)))))))))))))))) (Lv.a (Lv.a (Lv.b (Lv.a (Lv.b (Lv.b (Lv.b (Lv.a (Lv.a (Lv.b (Lv.a (Lv.a (Lv.b (Lv.a (Lv.b (Lv.b (A 51))))))))))))))))) (oq cal k m1 m2) (eV cal k m1) (aw P cq)
noncomputable def R51_4 (cal:Cal) (k m1 m2:Nat):V6:=fun u1 u3 u4 u5 u6 u7 H n=>ax P cal m2 (Lv.a (Lv.b (Lv.a (Lv.b (Lv.b (Lv.b (Lv.a (Lv.a (Lv.b (Lv.a (Lv.a (Lv.b (Lv.a (Lv.b (Lv.b (A 51)))))))))))))))) none 51 (cL (cR (cL (cR (cR (cR (cL (cL (cR (cL (cL (cR (cL (cR (cR hZ))))))))))))))) (nw cal k m1) (eV cal k m1) (aw P cq) (Tr.set (Tr.set (Tr.set (Tr.set (Tr.set (Tr.set Tr.nil 7 (some u7)) 6 (some u6)) 5 (some u5)) 4 (some u4)) 3 (some u3)) 1 (some u1)) H n []
noncomputable def E51_1 (cal:Cal) (k m1:Nat):KR:=az P cal (ax P cal m1) none 51 (cL (cL (cR (cL (cR (cR hZ)))))) (Lv.a (Lv.a (Lv.b (Lv.a (Lv.b (Lv.b (A 51))))))) (CQ cal k m1) (nK cal k) (aw P cq)
noncomputable def vz (cal:Cal) (k m1:Nat):V3:=fun u1 u3 u4 H n=>ax P cal m1 (Lv.a (Lv.b (Lv.a (Lv.b (Lv.b (A 51)))))) none 51 (cL (cR (cL (cR (cR hZ))))) (PV cal k) (nK cal k) (aw P cq) (Tr.set (Tr.set (Tr.set Tr.nil 4 (some u4)) 3 (some u3)) 1 (some u1)) H n []
noncomputable def VZ (cal:Cal) (k m1:Nat) (b1:V3) (u1 u3 u4:Value) (H:Hp) (n:Nat):Res:=
binK P .add 3 (.tmp 15) (.const (.int .i64 1)) u4 (.int .i64 1) fun v_g=>
b1 u1 u3 v_g H n
noncomputable def HW (cal:Cal) (k m1:Nat) (b1:V3) (u1 u3 u4:Value) (H:Hp) (n:Nat):Res:=VZ cal k m1 b1 u1 u3 u4 H n
theorem h51_2 (cal:Cal) (k m1:Nat) (u1 u3 u4:Value) (H:Hp) (n:Nat):labK (E51_2 cal k m1) (Tr.set (Tr.set (Tr.set Tr.nil 4 (some u4)) 3 (some u3)) 1 (some u1)) H n []=HW cal k m1 (vz cal k m1) u1 u3 u4 H n:=by
 refine Eq.trans (b:=VZ cal k m1 (vz cal k m1) u1 u3 u4 H n) (by kernel_rfl) ?_
 rw[HW]
noncomputable def B51_3 (cal:Cal) (k m1:Nat) (j2:V3) (b1:V3) (u1 u3 u4 u5 u6:Value) (H:Hp) (n:Nat):Res:=
ifK u6 (
j2 u1 u5 u4 H n) (
j2 u1 u3 u4 H n)
noncomputable def Dx (cal:Cal) (k m1:Nat) (b1:V3) (u1 u3 u4 u5 u6:Value) (H:Hp) (n:Nat):Res:=B51_3 cal k m1 (HW cal k m1 b1) b1 u1 u3 u4 u5 u6 H n
theorem h51_3 (cal:Cal) (k m1:Nat) (u1 u3 u4 u5 u6:Value) (H:Hp) (n:Nat):labK (E51_3 cal k m1) (Tr.set (Tr.set (Tr.set (Tr.set (Tr.set Tr.nil 6 (some u6)) 5 (some u5)) 4 (some u4)) 3 (some u3)) 1 (some u1)) H n []=Dx cal k m1 (vz cal k m1) u1 u3 u4 u5 u6 H n:=by
 refine Eq.trans (b:=B51_3 cal k m1 (fun u1 u3 u4 H n=>labK (E51_2 cal k m1) (Tr.set (Tr.set (Tr.set Tr.nil 4 (some u4)) 3 (some u3)) 1 (some u1)) H n []) (vz cal k m1) u1 u3 u4 u5 u6 H n) (by kernel_rfl) ?_
 rw[Dx]
 have e2:(fun u1 u3 u4 H n=>labK (E51_2 cal k m1) (Tr.set (Tr.set (Tr.set Tr.nil 4 (some u4)) 3 (some u3)) 1 (some u1)) H n [])=(HW cal k m1 (vz cal k m1)):=by funext u1 u3 u4 H n; exact h51_2 ..
 rw[e2]
noncomputable def B51_4 (cal:Cal) (k m1 m2:Nat) (j3:V5) (b1:V3) (b4:V6) (u1 u3 u4 u5 u6 u7:Value) (H:Hp) (n:Nat):Res:=
aq (lenV P 44 u5) fun v_1t=>
binK P .lss 3 (.tmp 35) (.tmp 37) u7 v_1t fun v_1u=>
aV v_1u true (fun k_1w=>
k_1w u6 H n) H n fun v_1x H_1y n_1z=>
aV v_1u true (fun k_21=>
aq (dJ P v_1x (Op.unary UnOp.not v_1x)) fun v_25=>
k_21 v_25 H_1y n_1z) H_1y n_1z fun v_22 H_23 n_24=>
aq (dq v_1u v_22 (.bool false)) fun v_26=>
ifK v_26 (
aq (aW P 44 u5 u7) fun v_29=>
aq (aX v_29) fun a_2a=>aq (ak P H_23 3 a_2a) fun v_2b=>
aq (aW P 44 u3 u7) fun v_2e=>
aq (aX v_2e) fun a_2f=>aq (ak P H_23 3 a_2f) fun v_2g=>
binK P .neq 3 (.tmp 48) (.tmp 52) v_2b v_2g fun v_2h=>
ifK v_2h (
aq (aW P 44 u5 u7) fun v_2k=>
aq (aX v_2k) fun a_2l=>aq (ak P H_23 3 a_2l) fun v_2m=>
aq (aW P 44 u3 u7) fun v_2p=>
aq (aX v_2p) fun a_2q=>aq (ak P H_23 3 a_2q) fun v_2r=>
binK P .lss 3 (.tmp 57) (.tmp 61) v_2m v_2r fun v_2s=>
j3 u1 u3 u4 u5 v_2s H_23 n_24) (
binK P .add 3 (.tmp 43) (.const (.int .i64 1)) u7 (.int .i64 1) fun v_2v=>
b4 u1 u3 u4 u5 u6 v_2v H_23 n_24)) (
j3 u1 u3 u4 u5 u6 H_23 n_24)
noncomputable def Oy (cal:Cal) (k m1 m2:Nat) (b1:V3) (b4:V6) (u1 u3 u4 u5 u6 u7:Value) (H:Hp) (n:Nat):Res:=B51_4 cal k m1 m2 (Dx cal k m1 b1) b1 b4 u1 u3 u4 u5 u6 u7 H n
noncomputable def SW (cal:Cal) (k m1:Nat) (b1:V3):Nat→V6:=fun m=>Nat.rec (motive:=fun _=>V6) (Oy cal k m1 0 b1 (fun _ _ _ _ _ _ _ _=>none)) (fun m ih=>Oy cal k m1 (m+1) b1 ih) m
theorem h51_4 (cal:Cal) (k m1 m2:Nat) (u1 u3 u4 u5 u6 u7:Value) (H:Hp) (n:Nat):labK (E51_4 cal k m1 m2) (Tr.set (Tr.set (Tr.set (Tr.set (Tr.set (Tr.set Tr.nil 7 (some u7)) 6 (some u6)) 5 (some u5)) 4 (some u4)) 3 (some u3)) 1 (some u1)) H n []=Oy cal k m1 m2 (vz cal k m1) (R51_4 cal k m1 m2) u1 u3 u4 u5 u6 u7 H n:=by
 refine Eq.trans (b:=B51_4 cal k m1 m2 (fun u1 u3 u4 u5 u6 H n=>labK (E51_3 cal k m1) (Tr.set (Tr.set (Tr.set (Tr.set (Tr.set Tr.nil 6 (some u6)) 5 (some u5)) 4 (some u4)) 3 (some u3)) 1 (some u1)) H n []) (vz cal k m1) (R51_4 cal k m1 m2) u1 u3 u4 u5 u6 u7 H n) (by kernel_rfl) ?_
 rw[Oy]
 have e3:(fun u1 u3 u4 u5 u6 H n=>labK (E51_3 cal k m1) (Tr.set (Tr.set (Tr.set (Tr.set (Tr.set Tr.nil 6 (some u6)) 5 (some u5)) 4 (some u4)) 3 (some u3)) 1 (some u1)) H n [])=(Dx cal k m1 (vz cal k m1)):=by funext u1 u3 u4 u5 u6 H n; exact h51_3 ..
 rw[e3]
theorem q51_4 (cal:Cal) (k m1:Nat):∀(m:Nat) (u1 u3 u4 u5 u6 u7:Value) (H:Hp) (n:Nat),labK (E51_4 cal k m1 m) (Tr.set (Tr.set (Tr.set (Tr.set (Tr.set (Tr.set Tr.nil 7 (some u7)) 6 (some u6)) 5 (some u5)) 4 (some u4)) 3 (some u3)) 1 (some u1)) H n []=SW cal k m1 (vz cal k m1) m u1 u3 u4 u5 u6 u7 H n
 | 0,u1,u3,u4,u5,u6,u7,H,n=>by
  rw[h51_4]
  have e:R51_4 cal k m1 0=fun _ _ _ _ _ _ _ _=>none:=by funext u1 u3 u4 u5 u6 u7 H n; kernel_rfl
  rw[e]; rfl
 | m+1,u1,u3,u4,u5,u6,u7,H,n=>by
  rw[h51_4]
  have e:R51_4 cal k m1 (m+1)=SW cal k m1 (vz cal k m1) m:=by
   funext u1 u3 u4 u5 u6 u7 H n
   have e:R51_4 cal k m1 (m+1) u1 u3 u4 u5 u6 u7 H n=labK (E51_4 cal k m1 m) (Tr.set (Tr.set (Tr.set (Tr.set (Tr.set (Tr.set Tr.nil 7 (some u7)) 6 (some u6)) 5 (some u5)) 4 (some u4)) 3 (some u3)) 1 (some u1)) H n []:=by kernel_rfl
   rw[e]; exact q51_4 ..
  rw[e]; rfl
noncomputable def B51_1 (cal:Cal) (k m1:Nat) (j2:V3) (j4:V6) (b1:V3) (u1 u3 u4:Value) (H:Hp) (n:Nat):Res:=
aq (ay P 26 u1 0) fun v_8=>
aq (aX v_8) fun a_a=>aq (ak P H 22 a_a) fun v_9=>
aq (lenV P 22 v_9) fun v_b=>
aq (dJ P v_b (convert 3 138 v_b)) fun v_c=>
binK P .shl 3 (.const (.int .i64 1)) (.tmp 12) (.int .i64 1) v_c fun v_d=>
binK P .lss 3 (.tmp 8) (.tmp 13) u4 v_d fun v_e=>
ifK v_e (
aY P cal 57 [u4] H n fun v_j H_k n_l=>
aq (lenV P 44 v_j) fun v_o=>
aq (lenV P 44 u3) fun v_q=>
binK P .lss 3 (.tmp 20) (.tmp 22) v_o v_q fun v_r=>
aV v_r false (fun k_t=>
aq (aX u1) fun a_y=>aq (ak P H_k 26 a_y) fun v_x=>
k_t v_x H_k n_l) H_k n_l fun v_u H_v n_w=>
aV v_r false (fun k_z=>
k_z v_j H_v n_w) H_v n_w fun v_10 H_11 n_12=>
aV v_r false (fun k_14=>
aY P cal 50 [v_u,v_10] H_11 n_12 fun v_18 H_19 n_1a=>
k_14 v_18 H_19 n_1a) H_11 n_12 fun v_15 H_16 n_17=>
aV v_r false (fun k_1b=>
aq (dJ P v_15 (Op.unary UnOp.not v_15)) fun v_1f=>
k_1b v_1f H_16 n_17) H_16 n_17 fun v_1c H_1d n_1e=>
aq (dq v_r (.bool true) v_1c) fun v_1g=>
ifK v_1g (
j2 u1 u3 u4 H_1d n_1e) (
aq (lenV P 44 v_j) fun v_1i=>
aq (lenV P 44 u3) fun v_1k=>
binK P .gtr 3 (.tmp 31) (.tmp 33) v_1i v_1k fun v_1l=>
j4 u1 u3 u4 v_j v_1l (.int .i64 0) H_1d n_1e)) (
some (u3,H,n))
noncomputable def VK (cal:Cal) (k m1:Nat) (b1:V3) (u1 u3 u4:Value) (H:Hp) (n:Nat):Res:=B51_1 cal k m1 (HW cal k m1 b1) (SW cal k m1 b1 m1) b1 u1 u3 u4 H n
noncomputable def SX (cal:Cal) (k:Nat):Nat→V3:=fun m=>Nat.rec (motive:=fun _=>V3) (VK cal k 0 (fun _ _ _ _ _=>none)) (fun m ih=>VK cal k (m+1) ih) m
theorem h51_1 (cal:Cal) (k m1:Nat) (u1 u3 u4:Value) (H:Hp) (n:Nat):labK (E51_1 cal k m1) (Tr.set (Tr.set (Tr.set Tr.nil 4 (some u4)) 3 (some u3)) 1 (some u1)) H n []=VK cal k m1 (vz cal k m1) u1 u3 u4 H n:=by
 refine Eq.trans (b:=B51_1 cal k m1 (fun u1 u3 u4 H n=>labK (E51_2 cal k m1) (Tr.set (Tr.set (Tr.set Tr.nil 4 (some u4)) 3 (some u3)) 1 (some u1)) H n []) (fun u1 u3 u4 u5 u6 u7 H n=>labK (E51_4 cal k m1 m1) (Tr.set (Tr.set (Tr.set (Tr.set (Tr.set (Tr.set Tr.nil 7 (some u7)) 6 (some u6)) 5 (some u5)) 4 (some u4)) 3 (some u3)) 1 (some u1)) H n []) (vz cal k m1) u1 u3 u4 H n) (by kernel_rfl) ?_
 rw[VK]
 have e2:(fun u1 u3 u4 H n=>labK (E51_2 cal k m1) (Tr.set (Tr.set (Tr.set Tr.nil 4 (some u4)) 3 (some u3)) 1 (some u1)) H n [])=(HW cal k m1 (vz cal k m1)):=by funext u1 u3 u4 H n; exact h51_2 ..
 rw[e2]
 have e4:(fun u1 u3 u4 u5 u6 u7 H n=>labK (E51_4 cal k m1 m1) (Tr.set (Tr.set (Tr.set (Tr.set (Tr.set (Tr.set Tr.nil 7 (some u7)) 6 (some u6)) 5 (some u5)) 4 (some u4)) 3 (some u3)) 1 (some u1)) H n [])=(SW cal k m1 (vz cal k m1) m1):=by funext u1 u3 u4 u5 u6 u7 H n; exact q51_4 ..
 rw[e4]
theorem q51_1 (cal:Cal) (k:Nat):∀(m:Nat) (u1 u3 u4:Value) (H:Hp) (n:Nat),labK (E51_1 cal k m) (Tr.set (Tr.set (Tr.set Tr.nil 4 (some u4)) 3 (some u3)) 1 (some u1)) H n []=SX cal k m u1 u3 u4 H n
 | 0,u1,u3,u4,H,n=>by
  rw[h51_1]
  have e:vz cal k 0=fun _ _ _ _ _=>none:=by funext u1 u3 u4 H n; kernel_rfl
  rw[e]; rfl
 | m+1,u1,u3,u4,H,n=>by
  rw[h51_1]
  have e:vz cal k (m+1)=SX cal k m:=by
   funext u1 u3 u4 H n
   have e:vz cal k (m+1) u1 u3 u4 H n=labK (E51_1 cal k m) (Tr.set (Tr.set (Tr.set Tr.nil 4 (some u4)) 3 (some u3)) 1 (some u1)) H n []:=by kernel_rfl
   rw[e]; exact q51_1 ..
  rw[e]; rfl
noncomputable def B51_0 (cal:Cal) (k:Nat) (j1:V3) (v0:Value) (H:Hp) (n:Nat):Res:=
boxK 26 v0 H n fun v_1 H_2 n_3=>
j1 v_1 (.slice none 0 0) (.int .i64 0) H_2 n_3
noncomputable def C51_0 (cal:Cal) (k:Nat) (v0:Value) (H:Hp) (n:Nat):Res:=B51_0 cal k (SX cal k k) v0 H n
theorem h51_0 (cal:Cal) (k:Nat) (v0:Value) (H:Hp) (n:Nat):aK P cal A (k+1) 51 [v0] H n=C51_0 cal k v0 H n:=by
 have h:aK P cal A (k+1) 51 [v0] H n=B51_0 cal k (fun u1 u3 u4 H n=>labK (E51_1 cal k k) (Tr.set (Tr.set (Tr.set Tr.nil 4 (some u4)) 3 (some u3)) 1 (some u1)) H n []) v0 H n:=by
  rw[bk (fn:=Go.Proofs.Try.f51) (c:=hZ) (rs:=cq) (by kernel_rfl) (by kernel_rfl) (by kernel_rfl) (by kernel_rfl)]
  kernel_rfl
 rw[h,C51_0]
 have e1:(fun u1 u3 u4 H n=>labK (E51_1 cal k k) (Tr.set (Tr.set (Tr.set Tr.nil 4 (some u4)) 3 (some u3)) 1 (some u1)) H n [])=(SX cal k k):=by funext u1 u3 u4 H n; exact q51_1 ..
 rw[e1]
noncomputable def code54:Code:=cw 54
noncomputable def wW:List ResultVar:=dj 54
noncomputable def K54_p (cal:Cal) (k:Nat):KR:=(cutK (A 54).c (az P cal (ax P cal k) none 54 (cR code54) (Lv.b (A 54)) (aw P wW) X0 (aw P wW)))
noncomputable def K54_pr (cal:Cal) (k:Nat):KR:=(cutK (Lv.b (A 54)).c (az P cal (ax P cal k) none 54 (cR (cR code54)) (Lv.b (Lv.b (A 54))) (aw P wW) X0 (aw P wW)))
noncomputable def B54_0 (cal:Cal) (k:Nat) (v0 v1:Value) (H:Hp) (n:Nat):Res:=
dZ P 53 H n fun v_1 H_2 n_3=>
aq (iQ P 53 [(0,v0),(1,v1)]) fun v_6=>
aq (bz P 53 v_1 v_6 H_2) fun H_8=>
aq (resV P (Tr.set Tr.nil 4 (some v_1)) H_8 wW) fun v_9=>some (oneV v_9,H_8,n_3)
noncomputable def C54_0 (cal:Cal) (k:Nat) (v0 v1:Value) (H:Hp) (n:Nat):Res:=B54_0 cal k v0 v1 H n
theorem h54_0 (cal:Cal) (k:Nat) (v0 v1:Value) (H:Hp) (n:Nat):aK P cal A (k+1) 54 [v0,v1] H n=C54_0 cal k v0 v1 H n:=by
 have h:aK P cal A (k+1) 54 [v0,v1] H n=B54_0 cal k v0 v1 H n:=by
  rw[bk (fn:=Go.Proofs.Try.f54) (c:=code54) (rs:=wW) (by kernel_rfl) (by kernel_rfl) (by kernel_rfl) (by kernel_rfl)]
  kernel_rfl
 rw[h,C54_0]
end Go.Proofs.Ytekajfobmnedjaa.G
