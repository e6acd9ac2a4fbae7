/- The texts of functions, each with the proof that the evaluator says the same. -/
import Derived.Test.YtmjbdjnnojfhkaaH1
open Go Go.Ev
set_option maxRecDepth 1000000
set_option linter.unusedVariables false
noncomputable section
namespace Go.Proofs.Ytmjbdjnnojfhkaa.G
variable (cal:Cal) (k:Nat)
noncomputable def Aj:Code:=dj 93
noncomputable def kZ:List ResultVar:=fk 93
noncomputable def K93_p:KR:=kD cal k 93 Aj (A 93) (av P kZ) X0 (av P kZ)
noncomputable def K93_pr:KR:=kD cal k 93 (cR Aj) (Lb (A 93)) (av P kZ) X0 (av P kZ)
noncomputable def K93_prl:KR:=kD cal k 93 (cL (cR Aj)) (La (Lb (A 93))) (K93_pr cal k) X0 (av P kZ)
noncomputable def BV(k:Nat):XR:=(upX 0 (K93_pr cal k) X0)
noncomputable def Rv(k:Nat)(m1:Nat):KR:=(fun T H n D=>aK P cal m1 (La (Lb (La (Lb (A 93))))) none 93 (cL (cR (cL (cR Aj)))) (K93_pr cal k) (BV cal k) (av P kZ) (cutT (La (Lb (La (Lb (A 93))))).c T) H n D)
noncomputable def K93_prlrll(k:Nat)(m1:Nat):KR:=kD cal m1 93 (cL (cL (cR (cL (cR Aj))))) (La (La (Lb (La (Lb (A 93)))))) (Rv cal k m1) (BV cal k) (av P kZ)
noncomputable def K93_prlrllr(k:Nat)(m1:Nat):KR:=kD cal m1 93 (cR (cL (cL (cR (cL (cR Aj)))))) (Lb (La (La (Lb (La (Lb (A 93))))))) (Rv cal k m1) (BV cal k) (av P kZ)
noncomputable def DY(k:Nat)(m1:Nat):KR:=kD cal m1 93 (cR (cR (cL (cL (cR (cL (cR Aj))))))) (Lb (Lb (La (La (Lb (La (Lb (A 93)))))))) (Rv cal k m1) (BV cal k) (av P kZ)
noncomputable def FX(k:Nat)(m1:Nat):XR:=(upX 1 (DY cal k m1) (BV cal k))
noncomputable def K93_prlrllrrll(k:Nat)(m1:Nat):KR:=kD cal m1 93 (cL (cL (cR (cR (cL (cL (cR (cL (cR Aj))))))))) (La (La (Lb (Lb (La (La (Lb (La (Lb (A 93)))))))))) (DY cal k m1) (FX cal k m1) (av P kZ)
noncomputable def K93_prlrllrrllr(k:Nat)(m1:Nat):KR:=kD cal m1 93 (cR (cL (cL (cR (cR (cL (cL (cR (cL (cR Aj)))))))))) (Lb (La (La (Lb (Lb (La (La (Lb (La (Lb (A 93))))))))))) (DY cal k m1) (FX cal k m1) (av P kZ)
noncomputable def K93_prlrllrrllrrl(k:Nat)(m1:Nat):KR:=kD cal m1 93 (cL (cR (cR (cL (cL (cR (cR (cL (cL (cR (cL (cR Aj)))))))))))) (La (Lb (Lb (La (La (Lb (Lb (La (La (Lb (La (Lb (A 93))))))))))))) (DY cal k m1) (FX cal k m1) (av P kZ)
noncomputable def K93_prr:KR:=kD cal k 93 (cR (cR Aj)) (Lb (Lb (A 93))) (av P kZ) X0 (av P kZ)
noncomputable def E93_1(k m1:Nat):KR:=cj P cal (aK P cal m1) none 93 (cL (cL (cR (cL (cR Aj))))) (La (La (Lb (La (Lb (A 93)))))) (Rv cal k m1) (BV cal k) (av P kZ)
noncomputable def R93_1(k m1:Nat):V4:=fun u1 u7 u8 u9 H n=>aK P cal m1 (La (Lb (La (Lb (A 93))))) none 93 (cL (cR (cL (cR Aj)))) (K93_pr cal k) (BV cal k) (av P kZ) (ts (ts (ts (ts Tr.nil 9 u9) 8 u8) 7 u7) 1 u1) H n []
noncomputable def B93_1(cal:Cal)(k m1:Nat)(b1:V4)(u1 u7 u8 u9:Value)(H:Hp)(n:Nat):Res:=
binK P .lss 3 (.tmp 9) (.tmp 8) u9 u8 fun v_5=>
ifK v_5 (
aq (aJ P 32 u7 u9) fun v_6=>
aq (aV v_6) fun a_8=>aq (az P H 88 a_8) fun v_7=>
eQ P 88 H n fun v_9 H_a n_b=>
aq (bX P 88 v_9 v_7 H_a) fun H_d=>
aq (aV v_9) fun a_g=>aq (az P H_d 88 a_g) fun v_f=>
lQ P cal u1 [v_f] H_d n_b fun v_h H_i n_j=>
aq (dX P v_h (Op.unary UnOp.not v_h)) fun v_k=>
ifK v_k (
some ((.bool false),H_i,n_j)) (
binK P .add 3 (.tmp 9) (.const (.int .i64 1)) u9 (.int .i64 1) fun v_m=>
b1 u1 u7 u8 v_m H_i n_j)) (
some ((.bool true),H,n))
noncomputable def C93_1(k m1:Nat)(b1:V4)(u1 u7 u8 u9:Value)(H:Hp)(n:Nat):Res:=B93_1 cal k m1 b1 u1 u7 u8 u9 H n
noncomputable def S93_1(k:Nat):Nat→V4:=fun m=>Nat.rec (motive:=fun _=>V4) (C93_1 cal k 0 (fun _ _ _ _ _ _=>none)) (fun m ih=>C93_1 cal k (m+1) ih) m
theorem h93_1(k m1:Nat)(u1 u7 u8 u9:Value)(H:Hp)(n:Nat):labK (E93_1 cal k m1) (ts (ts (ts (ts Tr.nil 9 u9) 8 u8) 7 u7) 1 u1) H n []=C93_1 cal k m1 (R93_1 cal k m1) u1 u7 u8 u9 H n:=by
 refine Eq.trans (b:=B93_1 cal k m1 (R93_1 cal k m1) u1 u7 u8 u9 H n) (by kernel_rfl) ?_
 rw[C93_1]
theorem q93_1(k:Nat):∀(m:Nat) (u1 u7 u8 u9:Value) (H:Hp) (n:Nat),labK (E93_1 cal k m) (ts (ts (ts (ts Tr.nil 9 u9) 8 u8) 7 u7) 1 u1) H n []=S93_1 cal k m u1 u7 u8 u9 H n
 | 0,u1,u7,u8,u9,H,n=>by
  rw[h93_1]
  have e:R93_1 cal k 0=fun _ _ _ _ _ _=>none:=by funext u1 u7 u8 u9 H n; kernel_rfl
  rw[e]; rfl
 | m+1,u1,u7,u8,u9,H,n=>by
  rw[h93_1]
  have e:R93_1 cal k (m+1)=S93_1 cal k m:=by
   funext u1 u7 u8 u9 H n
   have e:R93_1 cal k (m+1) u1 u7 u8 u9 H n=labK (E93_1 cal k m) (ts (ts (ts (ts Tr.nil 9 u9) 8 u8) 7 u7) 1 u1) H n []:=by kernel_rfl
   rw[e]; exact q93_1 ..
  rw[e]; rfl
noncomputable def B93_0(cal:Cal)(k:Nat)(j1:V4)(v0 v1:Value)(H:Hp)(n:Nat):Res:=
aq (lenV P 32 v0) fun v_3=>
j1 v1 v0 v_3 (.int .i64 0) H n
noncomputable def C93_0(k:Nat)(v0 v1:Value)(H:Hp)(n:Nat):Res:=B93_0 cal k (S93_1 cal k k) v0 v1 H n
theorem h93_0(k:Nat)(v0 v1:Value)(H:Hp)(n:Nat):aY P cal A (k+1) 93 [v0,v1] H n=C93_0 cal k v0 v1 H n:=by
 have h:aY P cal A (k+1) 93 [v0,v1] H n=B93_0 cal k (fun u1 u7 u8 u9 H n=>labK (E93_1 cal k k) (ts (ts (ts (ts Tr.nil 9 u9) 8 u8) 7 u7) 1 u1) H n []) v0 v1 H n:=by
  rw[bY (fn:=Go.Proofs.Try.f93) (c:=Aj) (rs:=kZ) (by kernel_rfl) (by kernel_rfl) (by kernel_rfl) (by kernel_rfl)]
  kernel_rfl
 rw[h,C93_0]
 have e1:(fun u1 u7 u8 u9 H n=>labK (E93_1 cal k k) (ts (ts (ts (ts Tr.nil 9 u9) 8 u8) 7 u7) 1 u1) H n [])=(S93_1 cal k k):=by funext u1 u7 u8 u9 H n; exact q93_1 ..
 rw[e1]
noncomputable def xW:Code:=dj 94
noncomputable def jz:List ResultVar:=fk 94
noncomputable def K94_p:KR:=kD cal k 94 xW (A 94) (av P jz) X0 (av P jz)
noncomputable def K94_pr:KR:=kD cal k 94 (cR xW) (Lb (A 94)) (av P jz) X0 (av P jz)
noncomputable def qfw:KR:=kD cal k 94 (cR (cR xW)) (Lb (Lb (A 94))) (av P jz) X0 (av P jz)
noncomputable def K94_prrl:KR:=kD cal k 94 (cL (cR (cR xW))) (La (Lb (Lb (A 94)))) (qfw cal k) X0 (av P jz)
noncomputable def uX(k:Nat):XR:=(upX 0 (qfw cal k) X0)
noncomputable def FY(k:Nat)(m1:Nat):KR:=(fun T H n D=>aK P cal m1 (La (Lb (La (Lb (Lb (A 94)))))) none 94 (cL (cR (cL (cR (cR xW))))) (qfw cal k) (uX cal k) (av P jz) (cutT (La (Lb (La (Lb (Lb (A 94)))))).c T) H n D)
noncomputable def K94_prrlrll(k:Nat)(m1:Nat):KR:=kD cal m1 94 (cL (cL (cR (cL (cR (cR xW)))))) (La (La (Lb (La (Lb (Lb (A 94))))))) (FY cal k m1) (uX cal k) (av P jz)
noncomputable def K94_prrlrllr(k:Nat)(m1:Nat):KR:=kD cal m1 94 (cR (cL (cL (cR (cL (cR (cR xW))))))) (Lb (La (La (Lb (La (Lb (Lb (A 94)))))))) (FY cal k m1) (uX cal k) (av P jz)
noncomputable def HK(k:Nat)(m1:Nat):KR:=kD cal m1 94 (cR (cR (cL (cL (cR (cL (cR (cR xW)))))))) (Lb (Lb (La (La (Lb (La (Lb (Lb (A 94))))))))) (FY cal k m1) (uX cal k) (av P jz)
noncomputable def K94_pxrrlrllrrl(k:Nat)(m1:Nat):XR:=(upX 1 (HK cal k m1) (uX cal k))
noncomputable def K94_prrlrllrrll(k:Nat)(m1:Nat):KR:=kD cal m1 94 (cL (cL (cR (cR (cL (cL (cR (cL (cR (cR xW)))))))))) (La (La (Lb (Lb (La (La (Lb (La (Lb (Lb (A 94))))))))))) (HK cal k m1) (K94_pxrrlrllrrl cal k m1) (av P jz)
noncomputable def K94_prrlrllrrllr(k:Nat)(m1:Nat):KR:=kD cal m1 94 (cR (cL (cL (cR (cR (cL (cL (cR (cL (cR (cR xW))))))))))) (Lb (La (La (Lb (Lb (La (La (Lb (La (Lb (Lb (A 94)))))))))))) (HK cal k m1) (K94_pxrrlrllrrl cal k m1) (av P jz)
noncomputable def K94_prrr:KR:=kD cal k 94 (cR (cR (cR xW))) (Lb (Lb (Lb (A 94)))) (av P jz) X0 (av P jz)
noncomputable def E94_2(k m1:Nat):KR:=cj P cal (aK P cal m1) none 94 (cR (cR (cR (cL (cL (cR (cL (cR (cR xW))))))))) (Lb (Lb (Lb (La (La (Lb (La (Lb (Lb (A 94)))))))))) (FY cal k m1) (uX cal k) (av P jz)
noncomputable def E94_1(k m1:Nat):KR:=cj P cal (aK P cal m1) none 94 (cL (cL (cR (cL (cR (cR xW)))))) (La (La (Lb (La (Lb (Lb (A 94))))))) (FY cal k m1) (uX cal k) (av P jz)
noncomputable def R94_1(k m1:Nat):V6:=fun u2 u3 u5 u9 u10 u11 H n=>aK P cal m1 (La (Lb (La (Lb (Lb (A 94)))))) none 94 (cL (cR (cL (cR (cR xW))))) (qfw cal k) (uX cal k) (av P jz) (ts (ts (ts (ts (ts (ts Tr.nil 11 u11) 10 u10) 9 u9) 5 u5) 3 u3) 2 u2) H n []
noncomputable def B94_2(cal:Cal)(k m1:Nat)(b1:V6)(u2 u3 u5 u9 u10 u11:Value)(H:Hp)(n:Nat):Res:=
binK P .add 3 (.tmp 11) (.const (.int .i64 1)) u11 (.int .i64 1) fun v_f=>
b1 u2 u3 u5 u9 u10 v_f H n
noncomputable def C94_2(k m1:Nat)(b1:V6)(u2 u3 u5 u9 u10 u11:Value)(H:Hp)(n:Nat):Res:=B94_2 cal k m1 b1 u2 u3 u5 u9 u10 u11 H n
theorem h94_2(k m1:Nat)(u2 u3 u5 u9 u10 u11:Value)(H:Hp)(n:Nat):labK (E94_2 cal k m1) (ts (ts (ts (ts (ts (ts Tr.nil 11 u11) 10 u10) 9 u9) 5 u5) 3 u3) 2 u2) H n []=C94_2 cal k m1 (R94_1 cal k m1) u2 u3 u5 u9 u10 u11 H n:=by
 refine Eq.trans (b:=B94_2 cal k m1 (R94_1 cal k m1) u2 u3 u5 u9 u10 u11 H n) (by kernel_rfl) ?_
 rw[C94_2]
noncomputable def B94_1(cal:Cal)(k m1:Nat)(j2:V6)(b1:V6)(u2 u3 u5 u9 u10 u11:Value)(H:Hp)(n:Nat):Res:=
binK P .lss 3 (.tmp 11) (.tmp 10) u11 u10 fun v_e=>
ifK v_e (
aq (aJ P 32 u9 u11) fun v_h=>
aq (aV v_h) fun a_j=>aq (az P H 88 a_j) fun v_i=>
eQ P 88 H n fun v_k H_l n_m=>
aq (bX P 88 v_k v_i H_l) fun H_o=>
aq (aV v_k) fun a_q=>aq (az P H_o 88 a_q) fun v_p=>
aq (aV u3) fun a_s=>aq (az P H_o 88 a_s) fun v_r=>
binK P .eql 88 (.tmp 15) (.tmp 16) v_p v_r fun v_t=>
aQ v_t false (fun k_v=>
aq (aV v_k) fun a_10=>aq (az P H_o 88 a_10) fun v_z=>
k_v v_z H_o n_m) H_o n_m fun v_w H_x n_y=>
aQ v_t false (fun k_11=>
aq (aw P 88 u3 1) fun v_15=>
k_11 v_15 H_x n_y) H_x n_y fun v_12 H_13 n_14=>
aQ v_t false (fun k_16=>
aq (aV v_12) fun a_1b=>aq (az P H_13 3 a_1b) fun v_1a=>
k_16 v_1a H_13 n_14) H_13 n_14 fun v_17 H_18 n_19=>
aQ v_t false (fun k_1c=>
aq (aw P 88 u3 0) fun v_1g=>
k_1c v_1g H_18 n_19) H_18 n_19 fun v_1d H_1e n_1f=>
aQ v_t false (fun k_1h=>
aq (aV v_1d) fun a_1m=>aq (az P H_1e 3 a_1m) fun v_1l=>
k_1h v_1l H_1e n_1f) H_1e n_1f fun v_1i H_1j n_1k=>
aQ v_t false (fun k_1n=>
aq (fK P 88 [(0,v_17),(1,v_1i)]) fun v_1r=>
k_1n v_1r H_1j n_1k) H_1j n_1k fun v_1o H_1p n_1q=>
aQ v_t false (fun k_1s=>
binK P .eql 88 (.tmp 19) (.tmp 24) v_w v_1o fun v_1w=>
k_1s v_1w H_1p n_1q) H_1p n_1q fun v_1t H_1u n_1v=>
aq (fy v_t (.bool true) v_1t) fun v_1x=>
ifK v_1x (
binK P .add 3 (.tmp 27) (.const (.int .i64 1)) u5 (.int .i64 1) fun v_1z=>
j2 u2 u3 v_1z u9 u10 u11 H_1u n_1v) (
j2 u2 u3 u5 u9 u10 u11 H_1u n_1v)) (
aq (aV u2) fun a_22=>aq (az P H 35 a_22) fun v_21=>
aq (aw P 88 u3 0) fun v_23=>
aq (aV v_23) fun a_25=>aq (az P H 3 a_25) fun v_24=>
aX P cal 71 [v_21,v_24] H n fun v_26 H_27 n_28=>
aQ v_26 true (fun k_2a=>
aq (aV u2) fun a_2f=>aq (az P H_27 35 a_2f) fun v_2e=>
k_2a v_2e H_27 n_28) H_27 n_28 fun v_2b H_2c n_2d=>
aQ v_26 true (fun k_2g=>
aq (aw P 88 u3 1) fun v_2k=>
k_2g v_2k H_2c n_2d) H_2c n_2d fun v_2h H_2i n_2j=>
aQ v_26 true (fun k_2l=>
aq (aV v_2h) fun a_2q=>aq (az P H_2i 3 a_2q) fun v_2p=>
k_2l v_2p H_2i n_2j) H_2i n_2j fun v_2m H_2n n_2o=>
aQ v_26 true (fun k_2r=>
aX P cal 71 [v_2b,v_2m] H_2n n_2o fun v_2v H_2w n_2x=>
k_2r v_2v H_2w n_2x) H_2n n_2o fun v_2s H_2t n_2u=>
aq (fy v_26 v_2s (.bool false)) fun v_2y=>
aQ v_2y true (fun k_30=>
aq (aw P 88 u3 0) fun v_34=>
k_30 v_34 H_2t n_2u) H_2t n_2u fun v_31 H_32 n_33=>
aQ v_2y true (fun k_35=>
aq (aV v_31) fun a_3a=>aq (az P H_32 3 a_3a) fun v_39=>
k_35 v_39 H_32 n_33) H_32 n_33 fun v_36 H_37 n_38=>
aQ v_2y true (fun k_3b=>
aq (aw P 88 u3 1) fun v_3f=>
k_3b v_3f H_37 n_38) H_37 n_38 fun v_3c H_3d n_3e=>
aQ v_2y true (fun k_3g=>
aq (aV v_3c) fun a_3l=>aq (az P H_3d 3 a_3l) fun v_3k=>
k_3g v_3k H_3d n_3e) H_3d n_3e fun v_3h H_3i n_3j=>
aQ v_2y true (fun k_3m=>
binK P .neq 3 (.tmp 42) (.tmp 44) v_36 v_3h fun v_3q=>
k_3m v_3q H_3i n_3j) H_3i n_3j fun v_3n H_3o n_3p=>
aq (fy v_2y v_3n (.bool false)) fun v_3r=>
aQ v_3r true (fun k_3t=>
k_3t u5 H_3o n_3p) H_3o n_3p fun v_3u H_3v n_3w=>
aQ v_3r true (fun k_3y=>
binK P .eql 3 (.tmp 48) (.const (.int .i64 1)) v_3u (.int .i64 1) fun v_42=>
k_3y v_42 H_3v n_3w) H_3v n_3w fun v_3z H_40 n_41=>
aq (fy v_3r v_3z (.bool false)) fun v_43=>
some (v_43,H_40,n_41))
noncomputable def C94_1(k m1:Nat)(b1:V6)(u2 u3 u5 u9 u10 u11:Value)(H:Hp)(n:Nat):Res:=B94_1 cal k m1 (C94_2 cal k m1 b1) b1 u2 u3 u5 u9 u10 u11 H n
noncomputable def S94_1(k:Nat):Nat→V6:=fun m=>Nat.rec (motive:=fun _=>V6) (C94_1 cal k 0 (fun _ _ _ _ _ _ _ _=>none)) (fun m ih=>C94_1 cal k (m+1) ih) m
theorem h94_1(k m1:Nat)(u2 u3 u5 u9 u10 u11:Value)(H:Hp)(n:Nat):labK (E94_1 cal k m1) (ts (ts (ts (ts (ts (ts Tr.nil 11 u11) 10 u10) 9 u9) 5 u5) 3 u3) 2 u2) H n []=C94_1 cal k m1 (R94_1 cal k m1) u2 u3 u5 u9 u10 u11 H n:=by
 refine Eq.trans (b:=B94_1 cal k m1 (fun u2 u3 u5 u9 u10 u11 H n=>labK (E94_2 cal k m1) (ts (ts (ts (ts (ts (ts Tr.nil 11 u11) 10 u10) 9 u9) 5 u5) 3 u3) 2 u2) H n []) (R94_1 cal k m1) u2 u3 u5 u9 u10 u11 H n) (by kernel_rfl) ?_
 rw[C94_1]
 have e2:(fun u2 u3 u5 u9 u10 u11 H n=>labK (E94_2 cal k m1) (ts (ts (ts (ts (ts (ts Tr.nil 11 u11) 10 u10) 9 u9) 5 u5) 3 u3) 2 u2) H n [])=(C94_2 cal k m1 (R94_1 cal k m1)):=by funext u2 u3 u5 u9 u10 u11 H n; exact h94_2 ..
 rw[e2]
theorem q94_1(k:Nat):∀(m:Nat) (u2 u3 u5 u9 u10 u11:Value) (H:Hp) (n:Nat),labK (E94_1 cal k m) (ts (ts (ts (ts (ts (ts Tr.nil 11 u11) 10 u10) 9 u9) 5 u5) 3 u3) 2 u2) H n []=S94_1 cal k m u2 u3 u5 u9 u10 u11 H n
 | 0,u2,u3,u5,u9,u10,u11,H,n=>by
  rw[h94_1]
  have e:R94_1 cal k 0=fun _ _ _ _ _ _ _ _=>none:=by funext u2 u3 u5 u9 u10 u11 H n; kernel_rfl
  rw[e]; rfl
 | m+1,u2,u3,u5,u9,u10,u11,H,n=>by
  rw[h94_1]
  have e:R94_1 cal k (m+1)=S94_1 cal k m:=by
   funext u2 u3 u5 u9 u10 u11 H n
   have e:R94_1 cal k (m+1) u2 u3 u5 u9 u10 u11 H n=labK (E94_1 cal k m) (ts (ts (ts (ts (ts (ts Tr.nil 11 u11) 10 u10) 9 u9) 5 u5) 3 u3) 2 u2) H n []:=by kernel_rfl
   rw[e]; exact q94_1 ..
  rw[e]; rfl
noncomputable def B94_0(cal:Cal)(k:Nat)(j1:V6)(v0 v1:Value)(H:Hp)(n:Nat):Res:=
boxK 35 v0 H n fun v_1 H_2 n_3=>
boxK 88 v1 H_2 n_3 fun v_4 H_5 n_6=>
aq (aw P 35 v_1 1) fun v_9=>
aq (aV v_9) fun a_b=>aq (az P H_5 32 a_b) fun v_a=>
aq (lenV P 32 v_a) fun v_c=>
j1 v_1 v_4 (.int .i64 0) v_a v_c (.int .i64 0) H_5 n_6
noncomputable def C94_0(k:Nat)(v0 v1:Value)(H:Hp)(n:Nat):Res:=B94_0 cal k (S94_1 cal k k) v0 v1 H n
theorem h94_0(k:Nat)(v0 v1:Value)(H:Hp)(n:Nat):aY P cal A (k+1) 94 [v0,v1] H n=C94_0 cal k v0 v1 H n:=by
 have h:aY P cal A (k+1) 94 [v0,v1] H n=B94_0 cal k (fun u2 u3 u5 u9 u10 u11 H n=>labK (E94_1 cal k k) (ts (ts (ts (ts (ts (ts Tr.nil 11 u11) 10 u10) 9 u9) 5 u5) 3 u3) 2 u2) H n []) v0 v1 H n:=by
  rw[bY (fn:=Go.Proofs.Try.f94) (c:=xW) (rs:=jz) (by kernel_rfl) (by kernel_rfl) (by kernel_rfl) (by kernel_rfl)]
  kernel_rfl
 rw[h,C94_0]
 have e1:(fun u2 u3 u5 u9 u10 u11 H n=>labK (E94_1 cal k k) (ts (ts (ts (ts (ts (ts Tr.nil 11 u11) 10 u10) 9 u9) 5 u5) 3 u3) 2 u2) H n [])=(S94_1 cal k k):=by funext u2 u3 u5 u9 u10 u11 H n; exact q94_1 ..
 rw[e1]
noncomputable def Aq:Code:=dj 95
noncomputable def kK:List ResultVar:=fk 95
noncomputable def K95_p:KR:=kD cal k 95 Aq (A 95) (av P kK) X0 (av P kK)
noncomputable def K95_pr:KR:=kD cal k 95 (cR Aq) (Lb (A 95)) (av P kK) X0 (av P kK)
noncomputable def K95_prl:KR:=kD cal k 95 (cL (cR Aq)) (La (Lb (A 95))) (K95_pr cal k) X0 (av P kK)
noncomputable def BW(k:Nat):XR:=(upX 0 (K95_pr cal k) X0)
noncomputable def Rw(k:Nat)(m1:Nat):KR:=(fun T H n D=>aK P cal m1 (La (Lb (La (Lb (A 95))))) none 95 (cL (cR (cL (cR Aq)))) (K95_pr cal k) (BW cal k) (av P kK) (cutT (La (Lb (La (Lb (A 95))))).c T) H n D)
noncomputable def K95_prlrll(k:Nat)(m1:Nat):KR:=kD cal m1 95 (cL (cL (cR (cL (cR Aq))))) (La (La (Lb (La (Lb (A 95)))))) (Rw cal k m1) (BW cal k) (av P kK)
noncomputable def K95_prlrllr(k:Nat)(m1:Nat):KR:=kD cal m1 95 (cR (cL (cL (cR (cL (cR Aq)))))) (Lb (La (La (Lb (La (Lb (A 95))))))) (Rw cal k m1) (BW cal k) (av P kK)
noncomputable def DZ(k:Nat)(m1:Nat):KR:=kD cal m1 95 (cR (cR (cL (cL (cR (cL (cR Aq))))))) (Lb (Lb (La (La (Lb (La (Lb (A 95)))))))) (Rw cal k m1) (BW cal k) (av P kK)
noncomputable def FZ(k:Nat)(m1:Nat):XR:=(upX 1 (DZ cal k m1) (BW cal k))
noncomputable def K95_prlrllrrll(k:Nat)(m1:Nat):KR:=kD cal m1 95 (cL (cL (cR (cR (cL (cL (cR (cL (cR Aq))))))))) (La (La (Lb (Lb (La (La (Lb (La (Lb (A 95)))))))))) (DZ cal k m1) (FZ cal k m1) (av P kK)
noncomputable def K95_prlrllrrllr(k:Nat)(m1:Nat):KR:=kD cal m1 95 (cR (cL (cL (cR (cR (cL (cL (cR (cL (cR Aq)))))))))) (Lb (La (La (Lb (Lb (La (La (Lb (La (Lb (A 95))))))))))) (DZ cal k m1) (FZ cal k m1) (av P kK)
noncomputable def K95_prlrllrrllrrl(k:Nat)(m1:Nat):KR:=kD cal m1 95 (cL (cR (cR (cL (cL (cR (cR (cL (cL (cR (cL (cR Aq)))))))))))) (La (Lb (Lb (La (La (Lb (Lb (La (La (Lb (La (Lb (A 95))))))))))))) (DZ cal k m1) (FZ cal k m1) (av P kK)
noncomputable def K95_prr:KR:=kD cal k 95 (cR (cR Aq)) (Lb (Lb (A 95))) (av P kK) X0 (av P kK)
noncomputable def E95_1(k m1:Nat):KR:=cj P cal (aK P cal m1) none 95 (cL (cL (cR (cL (cR Aq))))) (La (La (Lb (La (Lb (A 95)))))) (Rw cal k m1) (BW cal k) (av P kK)
noncomputable def R95_1(k m1:Nat):V4:=fun u1 u7 u8 u9 H n=>aK P cal m1 (La (Lb (La (Lb (A 95))))) none 95 (cL (cR (cL (cR Aq)))) (K95_pr cal k) (BW cal k) (av P kK) (ts (ts (ts (ts Tr.nil 9 u9) 8 u8) 7 u7) 1 u1) H n []
noncomputable def B95_1(cal:Cal)(k m1:Nat)(b1:V4)(u1 u7 u8 u9:Value)(H:Hp)(n:Nat):Res:=
binK P .lss 3 (.tmp 9) (.tmp 8) u9 u8 fun v_5=>
ifK v_5 (
aq (aJ P 33 u7 u9) fun v_6=>
aq (aV v_6) fun a_8=>aq (az P H 86 a_8) fun v_7=>
eQ P 86 H n fun v_9 H_a n_b=>
aq (bX P 86 v_9 v_7 H_a) fun H_d=>
aq (aV v_9) fun a_g=>aq (az P H_d 86 a_g) fun v_f=>
lQ P cal u1 [v_f] H_d n_b fun v_h H_i n_j=>
aq (dX P v_h (Op.unary UnOp.not v_h)) fun v_k=>
ifK v_k (
some ((.bool false),H_i,n_j)) (
binK P .add 3 (.tmp 9) (.const (.int .i64 1)) u9 (.int .i64 1) fun v_m=>
b1 u1 u7 u8 v_m H_i n_j)) (
some ((.bool true),H,n))
noncomputable def C95_1(k m1:Nat)(b1:V4)(u1 u7 u8 u9:Value)(H:Hp)(n:Nat):Res:=B95_1 cal k m1 b1 u1 u7 u8 u9 H n
noncomputable def S95_1(k:Nat):Nat→V4:=fun m=>Nat.rec (motive:=fun _=>V4) (C95_1 cal k 0 (fun _ _ _ _ _ _=>none)) (fun m ih=>C95_1 cal k (m+1) ih) m
theorem h95_1(k m1:Nat)(u1 u7 u8 u9:Value)(H:Hp)(n:Nat):labK (E95_1 cal k m1) (ts (ts (ts (ts Tr.nil 9 u9) 8 u8) 7 u7) 1 u1) H n []=C95_1 cal k m1 (R95_1 cal k m1) u1 u7 u8 u9 H n:=by
 refine Eq.trans (b:=B95_1 cal k m1 (R95_1 cal k m1) u1 u7 u8 u9 H n) (by kernel_rfl) ?_
 rw[C95_1]
theorem q95_1(k:Nat):∀(m:Nat) (u1 u7 u8 u9:Value) (H:Hp) (n:Nat),labK (E95_1 cal k m) (ts (ts (ts (ts Tr.nil 9 u9) 8 u8) 7 u7) 1 u1) H n []=S95_1 cal k m u1 u7 u8 u9 H n
 | 0,u1,u7,u8,u9,H,n=>by
  rw[h95_1]
  have e:R95_1 cal k 0=fun _ _ _ _ _ _=>none:=by funext u1 u7 u8 u9 H n; kernel_rfl
  rw[e]; rfl
 | m+1,u1,u7,u8,u9,H,n=>by
  rw[h95_1]
  have e:R95_1 cal k (m+1)=S95_1 cal k m:=by
   funext u1 u7 u8 u9 H n
   have e:R95_1 cal k (m+1) u1 u7 u8 u9 H n=labK (E95_1 cal k m) (ts (ts (ts (ts Tr.nil 9 u9) 8 u8) 7 u7) 1 u1) H n []:=by kernel_rfl
   rw[e]; exact q95_1 ..
  rw[e]; rfl
noncomputable def B95_0(cal:Cal)(k:Nat)(j1:V4)(v0 v1:Value)(H:Hp)(n:Nat):Res:=
aq (lenV P 33 v0) fun v_3=>
j1 v1 v0 v_3 (.int .i64 0) H n
noncomputable def C95_0(k:Nat)(v0 v1:Value)(H:Hp)(n:Nat):Res:=B95_0 cal k (S95_1 cal k k) v0 v1 H n
theorem h95_0(k:Nat)(v0 v1:Value)(H:Hp)(n:Nat):aY P cal A (k+1) 95 [v0,v1] H n=C95_0 cal k v0 v1 H n:=by
 have h:aY P cal A (k+1) 95 [v0,v1] H n=B95_0 cal k (fun u1 u7 u8 u9 H n=>labK (E95_1 cal k k) (ts (ts (ts (ts Tr.nil 9 u9) 8 u8) 7 u7) 1 u1) H n []) v0 v1 H n:=by
  rw[bY (fn:=Go.Proofs.Try.f95) (c:=Aq) (rs:=kK) (by kernel_rfl) (by kernel_rfl) (by kernel_rfl) (by kernel_rfl)]
  kernel_rfl
 rw[h,C95_0]
 have e1:(fun u1 u7 u8 u9 H n=>labK (E95_1 cal k k) (ts (ts (ts (ts Tr.nil 9 u9) 8 u8) 7 u7) 1 u1) H n [])=(S95_1 cal k k):=by funext u1 u7 u8 u9 H n; exact q95_1 ..
 rw[e1]
noncomputable def code96:Code:=dj 96
noncomputable def JW:List ResultVar:=fk 96
noncomputable def K96_p:KR:=kD cal k 96 code96 (A 96) (av P JW) X0 (av P JW)
noncomputable def K96_pr:KR:=kD cal k 96 (cR code96) (Lb (A 96)) (av P JW) X0 (av P JW)
noncomputable def B96_0(cal:Cal)(k:Nat)(v0:Value)(H:Hp)(n:Nat):Res:=
boxK 86 v0 H n fun v_1 H_2 n_3=>
aq (aw P 86 v_1 0) fun v_5=>
aq (aV v_5) fun a_7=>aq (az P H_2 3 a_7) fun v_6=>
binK P .geq 3 (.tmp 4) (.const (.int .i64 0)) v_6 (.int .i64 0) fun v_8=>
aQ v_8 true (fun k_a=>
aq (aw P 86 v_1 0) fun v_e=>
k_a v_e H_2 n_3) H_2 n_3 fun v_b H_c n_d=>
aQ v_8 true (fun k_f=>
aq (aV v_b) fun a_k=>aq (az P H_c 3 a_k) fun v_j=>
k_f v_j H_c n_d) H_c n_d fun v_g H_h n_i=>
aQ v_8 true (fun k_l=>
binK P .leq 3 (.tmp 8) (.const (.int .i64 1000)) v_g (.int .i64 1000) fun v_p=>
k_l v_p H_h n_i) H_h n_i fun v_m H_n n_o=>
aq (fy v_8 v_m (.bool false)) fun v_q=>
aQ v_q true (fun k_s=>
aq (aw P 86 v_1 1) fun v_w=>
k_s v_w H_n n_o) H_n n_o fun v_t H_u n_v=>
aQ v_q true (fun k_x=>
aq (aV v_t) fun a_12=>aq (az P H_u 53 a_12) fun v_11=>
k_x v_11 H_u n_v) H_u n_v fun v_y H_z n_10=>
aQ v_q true (fun k_13=>
aX P cal 114 [v_y] H_z n_10 fun v_17 H_18 n_19=>
k_13 v_17 H_18 n_19) H_z n_10 fun v_14 H_15 n_16=>
aq (fy v_q v_14 (.bool false)) fun v_1a=>
aQ v_1a true (fun k_1c=>
aq (aw P 86 v_1 2) fun v_1g=>
k_1c v_1g H_15 n_16) H_15 n_16 fun v_1d H_1e n_1f=>
aQ v_1a true (fun k_1h=>
aq (aV v_1d) fun a_1m=>aq (az P H_1e 53 a_1m) fun v_1l=>
k_1h v_1l H_1e n_1f) H_1e n_1f fun v_1i H_1j n_1k=>
aQ v_1a true (fun k_1n=>
aX P cal 114 [v_1i] H_1j n_1k fun v_1r H_1s n_1t=>
k_1n v_1r H_1s n_1t) H_1j n_1k fun v_1o H_1p n_1q=>
aq (fy v_1a v_1o (.bool false)) fun v_1u=>
some (v_1u,H_1p,n_1q)
noncomputable def C96_0(k:Nat)(v0:Value)(H:Hp)(n:Nat):Res:=B96_0 cal k v0 H n
theorem h96_0(k:Nat)(v0:Value)(H:Hp)(n:Nat):aY P cal A (k+1) 96 [v0] H n=C96_0 cal k v0 H n:=by
 have h:aY P cal A (k+1) 96 [v0] H n=B96_0 cal k v0 H n:=by
  rw[bY (fn:=Go.Proofs.Try.f96) (c:=code96) (rs:=JW) (by kernel_rfl) (by kernel_rfl) (by kernel_rfl) (by kernel_rfl)]
  kernel_rfl
 rw[h,C96_0]
noncomputable def BX:Code:=dj 98
noncomputable def lj:List ResultVar:=fk 98
noncomputable def K98_p:KR:=kD cal k 98 BX (A 98) (av P lj) X0 (av P lj)
noncomputable def K98_pr:KR:=kD cal k 98 (cR BX) (Lb (A 98)) (av P lj) X0 (av P lj)
noncomputable def qgq:KR:=kD cal k 98 (cR (cR BX)) (Lb (Lb (A 98))) (av P lj) X0 (av P lj)
noncomputable def K98_prrl:KR:=kD cal k 98 (cL (cR (cR BX))) (La (Lb (Lb (A 98)))) (qgq cal k) X0 (av P lj)
noncomputable def xX(k:Nat):XR:=(upX 0 (qgq cal k) X0)
noncomputable def LZ(k:Nat)(m1:Nat):KR:=(fun T H n D=>aK P cal m1 (La (Lb (La (Lb (Lb (A 98)))))) none 98 (cL (cR (cL (cR (cR BX))))) (qgq cal k) (xX cal k) (av P lj) (cutT (La (Lb (La (Lb (Lb (A 98)))))).c T) H n D)
noncomputable def K98_prrlrll(k:Nat)(m1:Nat):KR:=kD cal m1 98 (cL (cL (cR (cL (cR (cR BX)))))) (La (La (Lb (La (Lb (Lb (A 98))))))) (LZ cal k m1) (xX cal k) (av P lj)
noncomputable def K98_prrlrllr(k:Nat)(m1:Nat):KR:=kD cal m1 98 (cR (cL (cL (cR (cL (cR (cR BX))))))) (Lb (La (La (Lb (La (Lb (Lb (A 98)))))))) (LZ cal k m1) (xX cal k) (av P lj)
noncomputable def K98_prrlrllrr(k:Nat)(m1:Nat):KR:=kD cal m1 98 (cR (cR (cL (cL (cR (cL (cR (cR BX)))))))) (Lb (Lb (La (La (Lb (La (Lb (Lb (A 98))))))))) (LZ cal k m1) (xX cal k) (av P lj)
noncomputable def K98_pxrrlrllrrl(k:Nat)(m1:Nat):XR:=(upX 1 (K98_prrlrllrr cal k m1) (xX cal k))
noncomputable def K98_prrlrllrrll(k:Nat)(m1:Nat):KR:=kD cal m1 98 (cL (cL (cR (cR (cL (cL (cR (cL (cR (cR BX)))))))))) (La (La (Lb (Lb (La (La (Lb (La (Lb (Lb (A 98))))))))))) (K98_prrlrllrr cal k m1) (K98_pxrrlrllrrl cal k m1) (av P lj)
noncomputable def K98_prrr:KR:=kD cal k 98 (cR (cR (cR BX))) (Lb (Lb (Lb (A 98)))) (av P lj) X0 (av P lj)
noncomputable def E98_1(k m1:Nat):KR:=cj P cal (aK P cal m1) none 98 (cL (cL (cR (cL (cR (cR BX)))))) (La (La (Lb (La (Lb (Lb (A 98))))))) (LZ cal k m1) (xX cal k) (av P lj)
noncomputable def R98_1(k m1:Nat):V4:=fun u1 u5 u9 u10 H n=>aK P cal m1 (La (Lb (La (Lb (Lb (A 98)))))) none 98 (cL (cR (cL (cR (cR BX))))) (qgq cal k) (xX cal k) (av P lj) (ts (ts (ts (ts Tr.nil 10 u10) 9 u9) 5 u5) 1 u1) H n []
noncomputable def B98_1(cal:Cal)(k m1:Nat)(b1:V4)(u1 u5 u9 u10:Value)(H:Hp)(n:Nat):Res:=
binK P .lss 3 (.tmp 10) (.const (.int .i64 8)) u10 (.int .i64 8) fun v_a=>
ifK v_a (
aq (EJ P 109 u9 u10) fun v_b=>
eQ P 53 H n fun v_c H_d n_e=>
aq (bX P 53 v_c v_b H_d) fun H_g=>
aq (aV v_c) fun a_k=>aq (az P H_g 53 a_k) fun v_j=>
lQ P cal u1 [v_j] H_g n_e fun v_l H_m n_n=>
binK P .add 3 (.tmp 13) (.tmp 16) u5 v_l fun v_o=>
binK P .add 3 (.tmp 10) (.const (.int .i64 1)) u10 (.int .i64 1) fun v_q=>
b1 u1 v_o u9 v_q H_m n_n) (
some (u5,H,n))
noncomputable def C98_1(k m1:Nat)(b1:V4)(u1 u5 u9 u10:Value)(H:Hp)(n:Nat):Res:=B98_1 cal k m1 b1 u1 u5 u9 u10 H n
noncomputable def S98_1(k:Nat):Nat→V4:=fun m=>Nat.rec (motive:=fun _=>V4) (C98_1 cal k 0 (fun _ _ _ _ _ _=>none)) (fun m ih=>C98_1 cal k (m+1) ih) m
theorem h98_1(k m1:Nat)(u1 u5 u9 u10:Value)(H:Hp)(n:Nat):labK (E98_1 cal k m1) (ts (ts (ts (ts Tr.nil 10 u10) 9 u9) 5 u5) 1 u1) H n []=C98_1 cal k m1 (R98_1 cal k m1) u1 u5 u9 u10 H n:=by
 refine Eq.trans (b:=B98_1 cal k m1 (R98_1 cal k m1) u1 u5 u9 u10 H n) (by kernel_rfl) ?_
 rw[C98_1]
theorem q98_1(k:Nat):∀(m:Nat) (u1 u5 u9 u10:Value) (H:Hp) (n:Nat),labK (E98_1 cal k m) (ts (ts (ts (ts Tr.nil 10 u10) 9 u9) 5 u5) 1 u1) H n []=S98_1 cal k m u1 u5 u9 u10 H n
 | 0,u1,u5,u9,u10,H,n=>by
  rw[h98_1]
  have e:R98_1 cal k 0=fun _ _ _ _ _ _=>none:=by funext u1 u5 u9 u10 H n; kernel_rfl
  rw[e]; rfl
 | m+1,u1,u5,u9,u10,H,n=>by
  rw[h98_1]
  have e:R98_1 cal k (m+1)=S98_1 cal k m:=by
   funext u1 u5 u9 u10 H n
   have e:R98_1 cal k (m+1) u1 u5 u9 u10 H n=labK (E98_1 cal k m) (ts (ts (ts (ts Tr.nil 10 u10) 9 u9) 5 u5) 1 u1) H n []:=by kernel_rfl
   rw[e]; exact q98_1 ..
  rw[e]; rfl
noncomputable def B98_0(cal:Cal)(k:Nat)(j1:V4)(v0 v1:Value)(H:Hp)(n:Nat):Res:=
boxK 111 v0 H n fun v_1 H_2 n_3=>
aq (aw P 111 v_1 1) fun v_6=>
aq (aV v_6) fun a_8=>aq (az P H_2 109 a_8) fun v_7=>
j1 v1 (.int .i64 0) v_7 (.int .i64 0) H_2 n_3
noncomputable def C98_0(k:Nat)(v0 v1:Value)(H:Hp)(n:Nat):Res:=B98_0 cal k (S98_1 cal k k) v0 v1 H n
theorem h98_0(k:Nat)(v0 v1:Value)(H:Hp)(n:Nat):aY P cal A (k+1) 98 [v0,v1] H n=C98_0 cal k v0 v1 H n:=by
 have h:aY P cal A (k+1) 98 [v0,v1] H n=B98_0 cal k (fun u1 u5 u9 u10 H n=>labK (E98_1 cal k k) (ts (ts (ts (ts Tr.nil 10 u10) 9 u9) 5 u5) 1 u1) H n []) v0 v1 H n:=by
  rw[bY (fn:=Go.Proofs.Try.f98) (c:=BX) (rs:=lj) (by kernel_rfl) (by kernel_rfl) (by kernel_rfl) (by kernel_rfl)]
  kernel_rfl
 rw[h,C98_0]
 have e1:(fun u1 u5 u9 u10 H n=>labK (E98_1 cal k k) (ts (ts (ts (ts Tr.nil 10 u10) 9 u9) 5 u5) 1 u1) H n [])=(S98_1 cal k k):=by funext u1 u5 u9 u10 H n; exact q98_1 ..
 rw[e1]
noncomputable def code99:Code:=dj 99
noncomputable def JX:List ResultVar:=fk 99
noncomputable def K99_p:KR:=kD cal k 99 code99 (A 99) (av P JX) X0 (av P JX)
noncomputable def K99_pr:KR:=kD cal k 99 (cR code99) (Lb (A 99)) (av P JX) X0 (av P JX)
noncomputable def B99_0(cal:Cal)(k:Nat)(v0 v1:Value)(H:Hp)(n:Nat):Res:=
boxK 53 v0 H n fun v_1 H_2 n_3=>
aq (aw P 53 v_1 0) fun v_5=>
aq (aV v_5) fun a_7=>aq (az P H_2 3 a_7) fun v_6=>
binK P .leq 3 (.tmp 6) (.tmp 7) v_6 v1 fun v_9=>
aQ v_9 true (fun k_b=>
k_b v1 H_2 n_3) H_2 n_3 fun v_c H_d n_e=>
aQ v_9 true (fun k_g=>
aq (aw P 53 v_1 1) fun v_k=>
k_g v_k H_d n_e) H_d n_e fun v_h H_i n_j=>
aQ v_9 true (fun k_l=>
aq (aV v_h) fun a_q=>aq (az P H_i 3 a_q) fun v_p=>
k_l v_p H_i n_j) H_i n_j fun v_m H_n n_o=>
aQ v_9 true (fun k_r=>
binK P .leq 3 (.tmp 10) (.tmp 12) v_c v_m fun v_v=>
k_r v_v H_n n_o) H_n n_o fun v_s H_t n_u=>
aq (fy v_9 v_s (.bool false)) fun v_w=>
some (v_w,H_t,n_u)
noncomputable def C99_0(k:Nat)(v0 v1:Value)(H:Hp)(n:Nat):Res:=B99_0 cal k v0 v1 H n
theorem h99_0(k:Nat)(v0 v1:Value)(H:Hp)(n:Nat):aY P cal A (k+1) 99 [v0,v1] H n=C99_0 cal k v0 v1 H n:=by
 have h:aY P cal A (k+1) 99 [v0,v1] H n=B99_0 cal k v0 v1 H n:=by
  rw[bY (fn:=Go.Proofs.Try.f99) (c:=code99) (rs:=JX) (by kernel_rfl) (by kernel_rfl) (by kernel_rfl) (by kernel_rfl)]
  kernel_rfl
 rw[h,C99_0]
noncomputable def code100:Code:=dj 100
noncomputable def FK:List ResultVar:=fk 100
noncomputable def K100_p:KR:=kD cal k 100 code100 (A 100) (av P FK) X0 (av P FK)
noncomputable def K100_pr:KR:=kD cal k 100 (cR code100) (Lb (A 100)) (av P FK) X0 (av P FK)
noncomputable def B100_0(cal:Cal)(k:Nat)(v0 v1:Value)(H:Hp)(n:Nat):Res:=
aX P cal 32 [v0,(.int .i64 0),v1] H n fun v_4 H_5 n_6=>
aQ v_4 true (fun k_8=>
k_8 v1 H_5 n_6) H_5 n_6 fun v_9 H_a n_b=>
aQ v_4 true (fun k_d=>
binK P .leq 3 (.tmp 9) (.const (.int .i64 1000)) v_9 (.int .i64 1000) fun v_h=>
k_d v_h H_a n_b) H_a n_b fun v_e H_f n_g=>
aq (fy v_4 v_e (.bool false)) fun v_i=>
some (v_i,H_f,n_g)
noncomputable def YJ(k:Nat)(v0 v1:Value)(H:Hp)(n:Nat):Res:=B100_0 cal k v0 v1 H n
theorem h100_0(k:Nat)(v0 v1:Value)(H:Hp)(n:Nat):aY P cal A (k+1) 100 [v0,v1] H n=YJ cal k v0 v1 H n:=by
 have h:aY P cal A (k+1) 100 [v0,v1] H n=B100_0 cal k v0 v1 H n:=by
  rw[bY (fn:=Go.Proofs.Try.f100) (c:=code100) (rs:=FK) (by kernel_rfl) (by kernel_rfl) (by kernel_rfl) (by kernel_rfl)]
  kernel_rfl
 rw[h,YJ]
noncomputable def vv:Code:=dj 101
noncomputable def iy:List ResultVar:=fk 101
noncomputable def K101_p:KR:=kD cal k 101 vv (A 101) (av P iy) X0 (av P iy)
noncomputable def K101_pr:KR:=kD cal k 101 (cR vv) (Lb (A 101)) (av P iy) X0 (av P iy)
noncomputable def Wq:KR:=kD cal k 101 (cR (cR vv)) (Lb (Lb (A 101))) (av P iy) X0 (av P iy)
noncomputable def K101_prrl:KR:=kD cal k 101 (cL (cR (cR vv))) (La (Lb (Lb (A 101)))) (Wq cal k) X0 (av P iy)
noncomputable def uY(k:Nat):XR:=(upX 0 (Wq cal k) X0)
noncomputable def Hj(k:Nat)(m1:Nat):KR:=(fun T H n D=>aK P cal m1 (La (Lb (La (Lb (Lb (A 101)))))) none 101 (cL (cR (cL (cR (cR vv))))) (Wq cal k) (uY cal k) (av P iy) (cutT (La (Lb (La (Lb (Lb (A 101)))))).c T) H n D)
noncomputable def K101_prrlrll(k:Nat)(m1:Nat):KR:=kD cal m1 101 (cL (cL (cR (cL (cR (cR vv)))))) (La (La (Lb (La (Lb (Lb (A 101))))))) (Hj cal k m1) (uY cal k) (av P iy)
noncomputable def K101_prrlrllr(k:Nat)(m1:Nat):KR:=kD cal m1 101 (cR (cL (cL (cR (cL (cR (cR vv))))))) (Lb (La (La (Lb (La (Lb (Lb (A 101)))))))) (Hj cal k m1) (uY cal k) (av P iy)
noncomputable def K101_prrlrllrr(k:Nat)(m1:Nat):KR:=kD cal m1 101 (cR (cR (cL (cL (cR (cL (cR (cR vv)))))))) (Lb (Lb (La (La (Lb (La (Lb (Lb (A 101))))))))) (Hj cal k m1) (uY cal k) (av P iy)
noncomputable def K101_pxrrlrllrrl(k:Nat)(m1:Nat):XR:=(upX 1 (K101_prrlrllrr cal k m1) (uY cal k))
noncomputable def K101_prrlrllrrll(k:Nat)(m1:Nat):KR:=kD cal m1 101 (cL (cL (cR (cR (cL (cL (cR (cL (cR (cR vv)))))))))) (La (La (Lb (Lb (La (La (Lb (La (Lb (Lb (A 101))))))))))) (K101_prrlrllrr cal k m1) (K101_pxrrlrllrrl cal k m1) (av P iy)
noncomputable def K101_prrr:KR:=kD cal k 101 (cR (cR (cR vv))) (Lb (Lb (Lb (A 101)))) (av P iy) X0 (av P iy)
noncomputable def E101_1(k m1:Nat):KR:=cj P cal (aK P cal m1) none 101 (cL (cL (cR (cL (cR (cR vv)))))) (La (La (Lb (La (Lb (Lb (A 101))))))) (Hj cal k m1) (uY cal k) (av P iy)
noncomputable def R101_1(k m1:Nat):V3:=fun u0 u1 u3 H n=>aK P cal m1 (La (Lb (La (Lb (Lb (A 101)))))) none 101 (cL (cR (cL (cR (cR vv))))) (Wq cal k) (uY cal k) (av P iy) (ts (ts (ts Tr.nil 3 u3) 1 u1) 0 u0) H n []
noncomputable def B101_1(cal:Cal)(k m1:Nat)(b1:V3)(u0 u1 u3:Value)(H:Hp)(n:Nat):Res:=
binK P .lss 3 (.tmp 3) (.const (.int .i64 8)) u3 (.int .i64 8) fun v_8=>
ifK v_8 (
aq (aJ P 119 u1 u3) fun v_c=>
aq (bX P 3 v_c (.int .i64 (-1)) H) fun H_e=>
binK P .add 3 (.tmp 3) (.const (.int .i64 1)) u3 (.int .i64 1) fun v_f=>
b1 u0 u1 v_f H_e n) (
aq (aV u1) fun a_i=>aq (az P H 119 a_i) fun v_h=>
aq (bX P 119 u0 v_h H) fun H_k=>
aq (resV P (ts Tr.nil 0 u0) H_k iy) fun v_l=>some (oneV v_l,H_k,n))
noncomputable def C101_1(k m1:Nat)(b1:V3)(u0 u1 u3:Value)(H:Hp)(n:Nat):Res:=B101_1 cal k m1 b1 u0 u1 u3 H n
noncomputable def S101_1(k:Nat):Nat→V3:=fun m=>Nat.rec (motive:=fun _=>V3) (C101_1 cal k 0 (fun _ _ _ _ _=>none)) (fun m ih=>C101_1 cal k (m+1) ih) m
theorem h101_1(k m1:Nat)(u0 u1 u3:Value)(H:Hp)(n:Nat):labK (E101_1 cal k m1) (ts (ts (ts Tr.nil 3 u3) 1 u1) 0 u0) H n []=C101_1 cal k m1 (R101_1 cal k m1) u0 u1 u3 H n:=by
 refine Eq.trans (b:=B101_1 cal k m1 (R101_1 cal k m1) u0 u1 u3 H n) (by kernel_rfl) ?_
 rw[C101_1]
theorem q101_1(k:Nat):∀(m:Nat) (u0 u1 u3:Value) (H:Hp) (n:Nat),labK (E101_1 cal k m) (ts (ts (ts Tr.nil 3 u3) 1 u1) 0 u0) H n []=S101_1 cal k m u0 u1 u3 H n
 | 0,u0,u1,u3,H,n=>by
  rw[h101_1]
  have e:R101_1 cal k 0=fun _ _ _ _ _=>none:=by funext u0 u1 u3 H n; kernel_rfl
  rw[e]; rfl
 | m+1,u0,u1,u3,H,n=>by
  rw[h101_1]
  have e:R101_1 cal k (m+1)=S101_1 cal k m:=by
   funext u0 u1 u3 H n
   have e:R101_1 cal k (m+1) u0 u1 u3 H n=labK (E101_1 cal k m) (ts (ts (ts Tr.nil 3 u3) 1 u1) 0 u0) H n []:=by kernel_rfl
   rw[e]; exact q101_1 ..
  rw[e]; rfl
noncomputable def B101_0(cal:Cal)(k:Nat)(j1:V3)(H:Hp)(n:Nat):Res:=
eQ P 119 H n fun v_1 H_2 n_3=>
eQ P 119 H_2 n_3 fun v_4 H_5 n_6=>
j1 v_1 v_4 (.int .i64 0) H_5 n_6
noncomputable def C101_0(k:Nat)(H:Hp)(n:Nat):Res:=B101_0 cal k (S101_1 cal k k)  H n
theorem h101_0(k:Nat)(H:Hp)(n:Nat):aY P cal A (k+1) 101 [] H n=C101_0 cal k  H n:=by
 have h:aY P cal A (k+1) 101 [] H n=B101_0 cal k (fun u0 u1 u3 H n=>labK (E101_1 cal k k) (ts (ts (ts Tr.nil 3 u3) 1 u1) 0 u0) H n [])  H n:=by
  rw[bY (fn:=Go.Proofs.Try.f101) (c:=vv) (rs:=iy) (by kernel_rfl) (by kernel_rfl) (by kernel_rfl) (by kernel_rfl)]
  kernel_rfl
 rw[h,C101_0]
 have e1:(fun u0 u1 u3 H n=>labK (E101_1 cal k k) (ts (ts (ts Tr.nil 3 u3) 1 u1) 0 u0) H n [])=(S101_1 cal k k):=by funext u0 u1 u3 H n; exact q101_1 ..
 rw[e1]
noncomputable def code102:Code:=dj 102
noncomputable def Gj:List ResultVar:=fk 102
noncomputable def K102_p:KR:=kD cal k 102 code102 (A 102) (av P Gj) X0 (av P Gj)
noncomputable def K102_pr:KR:=kD cal k 102 (cR code102) (Lb (A 102)) (av P Gj) X0 (av P Gj)
noncomputable def B102_0(cal:Cal)(k:Nat)(v0 v1 v2:Value)(H:Hp)(n:Nat):Res:=
binK P .geq 3 (.tmp 7) (.const (.int .i64 0)) v2 (.int .i64 0) fun v_3=>
aQ v_3 true (fun k_5=>
k_5 v2 H n) H n fun v_6 H_7 n_8=>
aQ v_3 true (fun k_a=>
k_a v0 H_7 n_8) H_7 n_8 fun v_b H_c n_d=>
aQ v_3 true (fun k_f=>
aq (nilV v_b) fun v_j=>
k_f v_j H_c n_d) H_c n_d fun v_g H_h n_i=>
aQ v_3 true (fun k_k=>
aq (aw P 115 v_g 0) fun v_o=>
k_k v_o H_h n_i) H_h n_i fun v_l H_m n_n=>
aQ v_3 true (fun k_p=>
aq (aw P 35 v_l 2) fun v_t=>
k_p v_t H_m n_n) H_m n_n fun v_q H_r n_s=>
aQ v_3 true (fun k_u=>
aq (aV v_q) fun a_z=>aq (az P H_r 33 a_z) fun v_y=>
k_u v_y H_r n_s) H_r n_s fun v_v H_w n_x=>
aQ v_3 true (fun k_10=>
aq (lenV P 33 v_v) fun v_14=>
k_10 v_14 H_w n_x) H_w n_x fun v_11 H_12 n_13=>
aQ v_3 true (fun k_15=>
binK P .lss 3 (.tmp 10) (.tmp 16) v_6 v_11 fun v_19=>
k_15 v_19 H_12 n_13) H_12 n_13 fun v_16 H_17 n_18=>
aq (fy v_3 v_16 (.bool false)) fun v_1a=>
aQ v_1a true (fun k_1c=>
k_1c v0 H_17 n_18) H_17 n_18 fun v_1d H_1e n_1f=>
aQ v_1a true (fun k_1h=>
k_1h v1 H_1e n_1f) H_1e n_1f fun v_1i H_1j n_1k=>
aQ v_1a true (fun k_1m=>
k_1m v2 H_1j n_1k) H_1j n_1k fun v_1n H_1o n_1p=>
aQ v_1a true (fun k_1r=>
aq (nilV v_1d) fun v_1v=>
k_1r v_1v H_1o n_1p) H_1o n_1p fun v_1s H_1t n_1u=>
aQ v_1a true (fun k_1w=>
aq (aw P 115 v_1s 2) fun v_20=>
k_1w v_20 H_1t n_1u) H_1t n_1u fun v_1x H_1y n_1z=>
aQ v_1a true (fun k_21=>
aq (aJ P 113 v_1x v_1i) fun v_25=>
k_21 v_25 H_1y n_1z) H_1y n_1z fun v_22 H_23 n_24=>
aQ v_1a true (fun k_26=>
aq (aJ P 112 v_22 v_1n) fun v_2a=>
k_26 v_2a H_23 n_24) H_23 n_24 fun v_27 H_28 n_29=>
aQ v_1a true (fun k_2b=>
aq (aV v_27) fun a_2g=>aq (az P H_28 111 a_2g) fun v_2f=>
k_2b v_2f H_28 n_29) H_28 n_29 fun v_2c H_2d n_2e=>
aQ v_1a true (fun k_2h=>
aX P cal 62 [v_2c] H_2d n_2e fun v_2l H_2m n_2n=>
k_2h v_2l H_2m n_2n) H_2d n_2e fun v_2i H_2j n_2k=>
aq (fy v_1a v_2i (.bool false)) fun v_2o=>
some (v_2o,H_2j,n_2k)
noncomputable def YQ(k:Nat)(v0 v1 v2:Value)(H:Hp)(n:Nat):Res:=B102_0 cal k v0 v1 v2 H n
theorem h102_0(k:Nat)(v0 v1 v2:Value)(H:Hp)(n:Nat):aY P cal A (k+1) 102 [v0,v1,v2] H n=YQ cal k v0 v1 v2 H n:=by
 have h:aY P cal A (k+1) 102 [v0,v1,v2] H n=B102_0 cal k v0 v1 v2 H n:=by
  rw[bY (fn:=Go.Proofs.Try.f102) (c:=code102) (rs:=Gj) (by kernel_rfl) (by kernel_rfl) (by kernel_rfl) (by kernel_rfl)]
  kernel_rfl
 rw[h,YQ]
noncomputable def Cw:Code:=dj 104
noncomputable def lZ:List ResultVar:=fk 104
noncomputable def K104_p:KR:=kD cal k 104 Cw (A 104) (av P lZ) X0 (av P lZ)
noncomputable def Gq(cal:Cal)(k:Nat):XR:=(upX 0 (av P lZ) X0)
noncomputable def Wv(k:Nat)(m1:Nat):KR:=(fun T H n D=>aK P cal m1 (La (Lb (A 104))) none 104 (cL (cR Cw)) (av P lZ) (Gq cal k) (av P lZ) (cutT (La (Lb (A 104))).c T) H n D)
noncomputable def K104_prll(k:Nat)(m1:Nat):KR:=kD cal m1 104 (cL (cL (cR Cw))) (La (La (Lb (A 104)))) (Wv cal k m1) (Gq cal k) (av P lZ)
noncomputable def K104_prllr(k:Nat)(m1:Nat):KR:=kD cal m1 104 (cR (cL (cL (cR Cw)))) (Lb (La (La (Lb (A 104))))) (Wv cal k m1) (Gq cal k) (av P lZ)
noncomputable def OX(k:Nat)(m1:Nat):KR:=kD cal m1 104 (cR (cR (cL (cL (cR Cw))))) (Lb (Lb (La (La (Lb (A 104)))))) (Wv cal k m1) (Gq cal k) (av P lZ)
noncomputable def K104_pxrllrrl(k:Nat)(m1:Nat):XR:=(upX 1 (OX cal k m1) (Gq cal k))
noncomputable def K104_prllrrll(k:Nat)(m1:Nat):KR:=kD cal m1 104 (cL (cL (cR (cR (cL (cL (cR Cw))))))) (La (La (Lb (Lb (La (La (Lb (A 104)))))))) (OX cal k m1) (K104_pxrllrrl cal k m1) (av P lZ)
noncomputable def K104_prllrrllr(k:Nat)(m1:Nat):KR:=kD cal m1 104 (cR (cL (cL (cR (cR (cL (cL (cR Cw)))))))) (Lb (La (La (Lb (Lb (La (La (Lb (A 104))))))))) (OX cal k m1) (K104_pxrllrrl cal k m1) (av P lZ)
noncomputable def E104_1(k m1:Nat):KR:=cj P cal (aK P cal m1) none 104 (cL (cL (cR Cw))) (La (La (Lb (A 104)))) (Wv cal k m1) (Gq cal k) (av P lZ)
noncomputable def R104_1(k m1:Nat):V4:=fun u0 u2 u6 u7 H n=>aK P cal m1 (La (Lb (A 104))) none 104 (cL (cR Cw)) (av P lZ) (Gq cal k) (av P lZ) (ts (ts (ts (ts Tr.nil 7 u7) 6 u6) 2 u2) 0 u0) H n []
noncomputable def B104_1(cal:Cal)(k m1:Nat)(b1:V4)(u0 u2 u6 u7:Value)(H:Hp)(n:Nat):Res:=
binK P .lss 3 (.tmp 7) (.const (.int .i64 8)) u7 (.int .i64 8) fun v_4=>
ifK v_4 (
aq (EJ P 119 u6 u7) fun v_6=>
binK P .neq 3 (.tmp 11) (.const (.int .i64 (-1))) v_6 (.int .i64 (-1)) fun v_a=>
aQ v_a true (fun k_c=>
k_c u0 H n) H n fun v_d H_e n_f=>
aQ v_a true (fun k_h=>
k_h u7 H_e n_f) H_e n_f fun v_i H_j n_k=>
aQ v_a true (fun k_m=>
aq (aV u2) fun a_r=>aq (az P H_j 103 a_r) fun v_q=>
k_m v_q H_j n_k) H_j n_k fun v_n H_o n_p=>
aQ v_a true (fun k_s=>
k_s u7 H_o n_p) H_o n_p fun v_t H_u n_v=>
aQ v_a true (fun k_x=>
k_x v_6 H_u n_v) H_u n_v fun v_y H_z n_10=>
aQ v_a true (fun k_12=>
aq (nilV v_n) fun v_16=>
k_12 v_16 H_z n_10) H_z n_10 fun v_13 H_14 n_15=>
aQ v_a true (fun k_17=>
aq (aw P 115 v_13 2) fun v_1b=>
k_17 v_1b H_14 n_15) H_14 n_15 fun v_18 H_19 n_1a=>
aQ v_a true (fun k_1c=>
aq (aJ P 113 v_18 v_t) fun v_1g=>
k_1c v_1g H_19 n_1a) H_19 n_1a fun v_1d H_1e n_1f=>
aQ v_a true (fun k_1h=>
aq (aJ P 112 v_1d v_y) fun v_1l=>
k_1h v_1l H_1e n_1f) H_1e n_1f fun v_1i H_1j n_1k=>
aQ v_a true (fun k_1m=>
aq (aV v_1i) fun a_1r=>aq (az P H_1j 111 a_1r) fun v_1q=>
k_1m v_1q H_1j n_1k) H_1j n_1k fun v_1n H_1o n_1p=>
aQ v_a true (fun k_1s=>
lQ P cal v_d [v_i,v_1n] H_1o n_1p fun v_1w H_1x n_1y=>
k_1s v_1w H_1x n_1y) H_1o n_1p fun v_1t H_1u n_1v=>
aQ v_a true (fun k_1z=>
aq (dX P v_1t (Op.unary UnOp.not v_1t)) fun v_23=>
k_1z v_23 H_1u n_1v) H_1u n_1v fun v_20 H_21 n_22=>
aq (fy v_a v_20 (.bool false)) fun v_24=>
ifK v_24 (
some ((Value.tuple ⟨[]⟩),H_21,n_22)) (
binK P .add 3 (.tmp 7) (.const (.int .i64 1)) u7 (.int .i64 1) fun v_25=>
b1 u0 u2 u6 v_25 H_21 n_22)) (
some ((Value.tuple ⟨[]⟩),H,n))
noncomputable def YV(k m1:Nat)(b1:V4)(u0 u2 u6 u7:Value)(H:Hp)(n:Nat):Res:=B104_1 cal k m1 b1 u0 u2 u6 u7 H n
noncomputable def S104_1(k:Nat):Nat→V4:=fun m=>Nat.rec (motive:=fun _=>V4) (YV cal k 0 (fun _ _ _ _ _ _=>none)) (fun m ih=>YV cal k (m+1) ih) m
theorem h104_1(k m1:Nat)(u0 u2 u6 u7:Value)(H:Hp)(n:Nat):labK (E104_1 cal k m1) (ts (ts (ts (ts Tr.nil 7 u7) 6 u6) 2 u2) 0 u0) H n []=YV cal k m1 (R104_1 cal k m1) u0 u2 u6 u7 H n:=by
 refine Eq.trans (b:=B104_1 cal k m1 (R104_1 cal k m1) u0 u2 u6 u7 H n) (by kernel_rfl) ?_
 rw[YV]
theorem q104_1(k:Nat):∀(m:Nat) (u0 u2 u6 u7:Value) (H:Hp) (n:Nat),labK (E104_1 cal k m) (ts (ts (ts (ts Tr.nil 7 u7) 6 u6) 2 u2) 0 u0) H n []=S104_1 cal k m u0 u2 u6 u7 H n
 | 0,u0,u2,u6,u7,H,n=>by
  rw[h104_1]
  have e:R104_1 cal k 0=fun _ _ _ _ _ _=>none:=by funext u0 u2 u6 u7 H n; kernel_rfl
  rw[e]; rfl
 | m+1,u0,u2,u6,u7,H,n=>by
  rw[h104_1]
  have e:R104_1 cal k (m+1)=S104_1 cal k m:=by
   funext u0 u2 u6 u7 H n
   have e:R104_1 cal k (m+1) u0 u2 u6 u7 H n=labK (E104_1 cal k m) (ts (ts (ts (ts Tr.nil 7 u7) 6 u6) 2 u2) 0 u0) H n []:=by kernel_rfl
   rw[e]; exact q104_1 ..
  rw[e]; rfl
noncomputable def B104_0(cal:Cal)(k:Nat)(j1:V4)(v0 v1 v2:Value)(H:Hp)(n:Nat):Res:=
aq (aV v1) fun a_2=>aq (az P H 119 a_2) fun v_1=>
j1 v0 v2 v_1 (.int .i64 0) H n
noncomputable def YW(k:Nat)(v0 v1 v2:Value)(H:Hp)(n:Nat):Res:=B104_0 cal k (S104_1 cal k k) v0 v1 v2 H n
theorem h104_0(k:Nat)(v0 v1 v2:Value)(H:Hp)(n:Nat):aY P cal A (k+1) 104 [v0,v1,v2] H n=YW cal k v0 v1 v2 H n:=by
 have h:aY P cal A (k+1) 104 [v0,v1,v2] H n=B104_0 cal k (fun u0 u2 u6 u7 H n=>labK (E104_1 cal k k) (ts (ts (ts (ts Tr.nil 7 u7) 6 u6) 2 u2) 0 u0) H n []) v0 v1 v2 H n:=by
  rw[bY (fn:=Go.Proofs.Try.f104) (c:=Cw) (rs:=lZ) (by kernel_rfl) (by kernel_rfl) (by kernel_rfl) (by kernel_rfl)]
  kernel_rfl
 rw[h,YW]
 have e1:(fun u0 u2 u6 u7 H n=>labK (E104_1 cal k k) (ts (ts (ts (ts Tr.nil 7 u7) 6 u6) 2 u2) 0 u0) H n [])=(S104_1 cal k k):=by funext u0 u2 u6 u7 H n; exact q104_1 ..
 rw[e1]
noncomputable def wY:Code:=dj 105
noncomputable def kw:List ResultVar:=fk 105
noncomputable def K105_p:KR:=kD cal k 105 wY (A 105) (av P kw) X0 (av P kw)
noncomputable def qgz:KR:=kD cal k 105 (cR wY) (Lb (A 105)) (av P kw) X0 (av P kw)
noncomputable def K105_prl:KR:=kD cal k 105 (cL (cR wY)) (La (Lb (A 105))) (qgz cal k) X0 (av P kw)
noncomputable def xY(k:Nat):XR:=(upX 0 (qgz cal k) X0)
noncomputable def LK(k:Nat)(m1:Nat):KR:=(fun T H n D=>aK P cal m1 (La (Lb (La (Lb (A 105))))) none 105 (cL (cR (cL (cR wY)))) (qgz cal k) (xY cal k) (av P kw) (cutT (La (Lb (La (Lb (A 105))))).c T) H n D)
noncomputable def K105_prlrll(k:Nat)(m1:Nat):KR:=kD cal m1 105 (cL (cL (cR (cL (cR wY))))) (La (La (Lb (La (Lb (A 105)))))) (LK cal k m1) (xY cal k) (av P kw)
noncomputable def K105_prlrllr(k:Nat)(m1:Nat):KR:=kD cal m1 105 (cR (cL (cL (cR (cL (cR wY)))))) (Lb (La (La (Lb (La (Lb (A 105))))))) (LK cal k m1) (xY cal k) (av P kw)
noncomputable def K105_prlrllrr(k:Nat)(m1:Nat):KR:=kD cal m1 105 (cR (cR (cL (cL (cR (cL (cR wY))))))) (Lb (Lb (La (La (Lb (La (Lb (A 105)))))))) (LK cal k m1) (xY cal k) (av P kw)
noncomputable def K105_pxrlrllrrl(k:Nat)(m1:Nat):XR:=(upX 1 (K105_prlrllrr cal k m1) (xY cal k))
noncomputable def K105_prlrllrrll(k:Nat)(m1:Nat):KR:=kD cal m1 105 (cL (cL (cR (cR (cL (cL (cR (cL (cR wY))))))))) (La (La (Lb (Lb (La (La (Lb (La (Lb (A 105)))))))))) (K105_prlrllrr cal k m1) (K105_pxrlrllrrl cal k m1) (av P kw)
noncomputable def K105_prr:KR:=kD cal k 105 (cR (cR wY)) (Lb (Lb (A 105))) (av P kw) X0 (av P kw)
noncomputable def E105_1(k m1:Nat):KR:=cj P cal (aK P cal m1) none 105 (cL (cL (cR (cL (cR wY))))) (La (La (Lb (La (Lb (A 105)))))) (LK cal k m1) (xY cal k) (av P kw)
noncomputable def R105_1(k m1:Nat):V4:=fun u0 u7 u8 u9 H n=>aK P cal m1 (La (Lb (La (Lb (A 105))))) none 105 (cL (cR (cL (cR wY)))) (qgz cal k) (xY cal k) (av P kw) (ts (ts (ts (ts Tr.nil 9 u9) 8 u8) 7 u7) 0 u0) H n []
noncomputable def B105_1(cal:Cal)(k m1:Nat)(b1:V4)(u0 u7 u8 u9:Value)(H:Hp)(n:Nat):Res:=
binK P .lss 3 (.tmp 9) (.tmp 8) u9 u8 fun v_5=>
ifK v_5 (
aq (aJ P 44 u7 u9) fun v_6=>
aq (aV v_6) fun a_8=>aq (az P H 3 a_8) fun v_7=>
EY P .min [3,3] (Call.mk (Callee.builtin Builtin.min) #[(.tmp 13),(.tmp 14)] #[3,3]) 3 [u0,v_7] H n fun v_c H_d n_e=>
binK P .add 3 (.tmp 9) (.const (.int .i64 1)) u9 (.int .i64 1) fun v_g=>
b1 v_c u7 u8 v_g H_d n_e) (
some (u0,H,n))
noncomputable def Tk(k m1:Nat)(b1:V4)(u0 u7 u8 u9:Value)(H:Hp)(n:Nat):Res:=B105_1 cal k m1 b1 u0 u7 u8 u9 H n
noncomputable def Ij(k:Nat):Nat→V4:=fun m=>Nat.rec (motive:=fun _=>V4) (Tk cal k 0 (fun _ _ _ _ _ _=>none)) (fun m ih=>Tk cal k (m+1) ih) m
theorem h105_1(k m1:Nat)(u0 u7 u8 u9:Value)(H:Hp)(n:Nat):labK (E105_1 cal k m1) (ts (ts (ts (ts Tr.nil 9 u9) 8 u8) 7 u7) 0 u0) H n []=Tk cal k m1 (R105_1 cal k m1) u0 u7 u8 u9 H n:=by
 refine Eq.trans (b:=B105_1 cal k m1 (R105_1 cal k m1) u0 u7 u8 u9 H n) (by kernel_rfl) ?_
 rw[Tk]
theorem q105_1(k:Nat):∀(m:Nat) (u0 u7 u8 u9:Value) (H:Hp) (n:Nat),labK (E105_1 cal k m) (ts (ts (ts (ts Tr.nil 9 u9) 8 u8) 7 u7) 0 u0) H n []=Ij cal k m u0 u7 u8 u9 H n
 | 0,u0,u7,u8,u9,H,n=>by
  rw[h105_1]
  have e:R105_1 cal k 0=fun _ _ _ _ _ _=>none:=by funext u0 u7 u8 u9 H n; kernel_rfl
  rw[e]; rfl
 | m+1,u0,u7,u8,u9,H,n=>by
  rw[h105_1]
  have e:R105_1 cal k (m+1)=Ij cal k m:=by
   funext u0 u7 u8 u9 H n
   have e:R105_1 cal k (m+1) u0 u7 u8 u9 H n=labK (E105_1 cal k m) (ts (ts (ts (ts Tr.nil 9 u9) 8 u8) 7 u7) 0 u0) H n []:=by kernel_rfl
   rw[e]; exact q105_1 ..
  rw[e]; rfl
noncomputable def B105_0(cal:Cal)(k:Nat)(j1:V4)(v0 v1:Value)(H:Hp)(n:Nat):Res:=
aq (lenV P 44 v1) fun v_3=>
j1 v0 v1 v_3 (.int .i64 0) H n
noncomputable def YX(k:Nat)(v0 v1:Value)(H:Hp)(n:Nat):Res:=B105_0 cal k (Ij cal k k) v0 v1 H n
theorem h105_0(k:Nat)(v0 v1:Value)(H:Hp)(n:Nat):aY P cal A (k+1) 105 [v0,v1] H n=YX cal k v0 v1 H n:=by
 have h:aY P cal A (k+1) 105 [v0,v1] H n=B105_0 cal k (fun u0 u7 u8 u9 H n=>labK (E105_1 cal k k) (ts (ts (ts (ts Tr.nil 9 u9) 8 u8) 7 u7) 0 u0) H n []) v0 v1 H n:=by
  rw[bY (fn:=Go.Proofs.Try.f105) (c:=wY) (rs:=kw) (by kernel_rfl) (by kernel_rfl) (by kernel_rfl) (by kernel_rfl)]
  kernel_rfl
 rw[h,YX]
 have e1:(fun u0 u7 u8 u9 H n=>labK (E105_1 cal k k) (ts (ts (ts (ts Tr.nil 9 u9) 8 u8) 7 u7) 0 u0) H n [])=(Ij cal k k):=by funext u0 u7 u8 u9 H n; exact q105_1 ..
 rw[e1]
noncomputable def wZ:Code:=dj 106
noncomputable def ky:List ResultVar:=fk 106
noncomputable def K106_p:KR:=kD cal k 106 wZ (A 106) (av P ky) X0 (av P ky)
noncomputable def qgx:KR:=kD cal k 106 (cR wZ) (Lb (A 106)) (av P ky) X0 (av P ky)
noncomputable def K106_prl:KR:=kD cal k 106 (cL (cR wZ)) (La (Lb (A 106))) (qgx cal k) X0 (av P ky)
noncomputable def xZ(k:Nat):XR:=(upX 0 (qgx cal k) X0)
noncomputable def Mj(k:Nat)(m1:Nat):KR:=(fun T H n D=>aK P cal m1 (La (Lb (La (Lb (A 106))))) none 106 (cL (cR (cL (cR wZ)))) (qgx cal k) (xZ cal k) (av P ky) (cutT (La (Lb (La (Lb (A 106))))).c T) H n D)
noncomputable def K106_prlrll(k:Nat)(m1:Nat):KR:=kD cal m1 106 (cL (cL (cR (cL (cR wZ))))) (La (La (Lb (La (Lb (A 106)))))) (Mj cal k m1) (xZ cal k) (av P ky)
noncomputable def K106_prlrllr(k:Nat)(m1:Nat):KR:=kD cal m1 106 (cR (cL (cL (cR (cL (cR wZ)))))) (Lb (La (La (Lb (La (Lb (A 106))))))) (Mj cal k m1) (xZ cal k) (av P ky)
noncomputable def K106_prlrllrr(k:Nat)(m1:Nat):KR:=kD cal m1 106 (cR (cR (cL (cL (cR (cL (cR wZ))))))) (Lb (Lb (La (La (Lb (La (Lb (A 106)))))))) (Mj cal k m1) (xZ cal k) (av P ky)
noncomputable def K106_pxrlrllrrl(k:Nat)(m1:Nat):XR:=(upX 1 (K106_prlrllrr cal k m1) (xZ cal k))
noncomputable def K106_prlrllrrll(k:Nat)(m1:Nat):KR:=kD cal m1 106 (cL (cL (cR (cR (cL (cL (cR (cL (cR wZ))))))))) (La (La (Lb (Lb (La (La (Lb (La (Lb (A 106)))))))))) (K106_prlrllrr cal k m1) (K106_pxrlrllrrl cal k m1) (av P ky)
noncomputable def K106_prr:KR:=kD cal k 106 (cR (cR wZ)) (Lb (Lb (A 106))) (av P ky) X0 (av P ky)
noncomputable def E106_1(k m1:Nat):KR:=cj P cal (aK P cal m1) none 106 (cL (cL (cR (cL (cR wZ))))) (La (La (Lb (La (Lb (A 106)))))) (Mj cal k m1) (xZ cal k) (av P ky)
noncomputable def R106_1(k m1:Nat):V4:=fun u0 u7 u8 u9 H n=>aK P cal m1 (La (Lb (La (Lb (A 106))))) none 106 (cL (cR (cL (cR wZ)))) (qgx cal k) (xZ cal k) (av P ky) (ts (ts (ts (ts Tr.nil 9 u9) 8 u8) 7 u7) 0 u0) H n []
noncomputable def B106_1(cal:Cal)(k m1:Nat)(b1:V4)(u0 u7 u8 u9:Value)(H:Hp)(n:Nat):Res:=
binK P .lss 3 (.tmp 9) (.tmp 8) u9 u8 fun v_5=>
ifK v_5 (
aq (aJ P 44 u7 u9) fun v_6=>
aq (aV v_6) fun a_8=>aq (az P H 3 a_8) fun v_7=>
EY P .max [3,3] (Call.mk (Callee.builtin Builtin.max) #[(.tmp 13),(.tmp 14)] #[3,3]) 3 [u0,v_7] H n fun v_c H_d n_e=>
binK P .add 3 (.tmp 9) (.const (.int .i64 1)) u9 (.int .i64 1) fun v_g=>
b1 v_c u7 u8 v_g H_d n_e) (
some (u0,H,n))
noncomputable def TJ(k m1:Nat)(b1:V4)(u0 u7 u8 u9:Value)(H:Hp)(n:Nat):Res:=B106_1 cal k m1 b1 u0 u7 u8 u9 H n
noncomputable def Iq(k:Nat):Nat→V4:=fun m=>Nat.rec (motive:=fun _=>V4) (TJ cal k 0 (fun _ _ _ _ _ _=>none)) (fun m ih=>TJ cal k (m+1) ih) m
theorem h106_1(k m1:Nat)(u0 u7 u8 u9:Value)(H:Hp)(n:Nat):labK (E106_1 cal k m1) (ts (ts (ts (ts Tr.nil 9 u9) 8 u8) 7 u7) 0 u0) H n []=TJ cal k m1 (R106_1 cal k m1) u0 u7 u8 u9 H n:=by
 refine Eq.trans (b:=B106_1 cal k m1 (R106_1 cal k m1) u0 u7 u8 u9 H n) (by kernel_rfl) ?_
 rw[TJ]
theorem q106_1(k:Nat):∀(m:Nat) (u0 u7 u8 u9:Value) (H:Hp) (n:Nat),labK (E106_1 cal k m) (ts (ts (ts (ts Tr.nil 9 u9) 8 u8) 7 u7) 0 u0) H n []=Iq cal k m u0 u7 u8 u9 H n
 | 0,u0,u7,u8,u9,H,n=>by
  rw[h106_1]
  have e:R106_1 cal k 0=fun _ _ _ _ _ _=>none:=by funext u0 u7 u8 u9 H n; kernel_rfl
  rw[e]; rfl
 | m+1,u0,u7,u8,u9,H,n=>by
  rw[h106_1]
  have e:R106_1 cal k (m+1)=Iq cal k m:=by
   funext u0 u7 u8 u9 H n
   have e:R106_1 cal k (m+1) u0 u7 u8 u9 H n=labK (E106_1 cal k m) (ts (ts (ts (ts Tr.nil 9 u9) 8 u8) 7 u7) 0 u0) H n []:=by kernel_rfl
   rw[e]; exact q106_1 ..
  rw[e]; rfl
noncomputable def B106_0(cal:Cal)(k:Nat)(j1:V4)(v0 v1:Value)(H:Hp)(n:Nat):Res:=
aq (lenV P 44 v1) fun v_3=>
j1 v0 v1 v_3 (.int .i64 0) H n
noncomputable def YY(k:Nat)(v0 v1:Value)(H:Hp)(n:Nat):Res:=B106_0 cal k (Iq cal k k) v0 v1 H n
theorem h106_0(k:Nat)(v0 v1:Value)(H:Hp)(n:Nat):aY P cal A (k+1) 106 [v0,v1] H n=YY cal k v0 v1 H n:=by
 have h:aY P cal A (k+1) 106 [v0,v1] H n=B106_0 cal k (fun u0 u7 u8 u9 H n=>labK (E106_1 cal k k) (ts (ts (ts (ts Tr.nil 9 u9) 8 u8) 7 u7) 0 u0) H n []) v0 v1 H n:=by
  rw[bY (fn:=Go.Proofs.Try.f106) (c:=wZ) (rs:=ky) (by kernel_rfl) (by kernel_rfl) (by kernel_rfl) (by kernel_rfl)]
  kernel_rfl
 rw[h,YY]
 have e1:(fun u0 u7 u8 u9 H n=>labK (E106_1 cal k k) (ts (ts (ts (ts Tr.nil 9 u9) 8 u8) 7 u7) 0 u0) H n [])=(Iq cal k k):=by funext u0 u7 u8 u9 H n; exact q106_1 ..
 rw[e1]
noncomputable def Cx:Code:=dj 107
noncomputable def kz:List ResultVar:=fk 107
noncomputable def K107_p:KR:=kD cal k 107 Cx (A 107) (av P kz) X0 (av P kz)
noncomputable def K107_pr:KR:=kD cal k 107 (cR Cx) (Lb (A 107)) (av P kz) X0 (av P kz)
noncomputable def Rx(cal:Cal)(k:Nat):XR:=(upX 0 (av P kz) X0)
noncomputable def Ry(k:Nat)(m1:Nat):KR:=(fun T H n D=>aK P cal m1 (La (Lb (Lb (A 107)))) none 107 (cL (cR (cR Cx))) (av P kz) (Rx cal k) (av P kz) (cutT (La (Lb (Lb (A 107)))).c T) H n D)
noncomputable def Hq(k:Nat)(m1:Nat):XR:=(upX 1 (Ry cal k m1) (Rx cal k))
noncomputable def K107_prrlll(k:Nat)(m1:Nat):KR:=kD cal m1 107 (cL (cL (cL (cR (cR Cx))))) (La (La (La (Lb (Lb (A 107)))))) (Ry cal k m1) (Hq cal k m1) (av P kz)
noncomputable def K107_prrlllr(k:Nat)(m1:Nat):KR:=kD cal m1 107 (cR (cL (cL (cL (cR (cR Cx)))))) (Lb (La (La (La (Lb (Lb (A 107))))))) (Ry cal k m1) (Hq cal k m1) (av P kz)
noncomputable def K107_prrlllrl(k:Nat)(m1:Nat):KR:=kD cal m1 107 (cL (cR (cL (cL (cL (cR (cR Cx))))))) (La (Lb (La (La (La (Lb (Lb (A 107)))))))) (K107_prrlllr cal k m1) (Hq cal k m1) (av P kz)
noncomputable def K107_prrlllrlrl(k:Nat)(m1:Nat):KR:=kD cal m1 107 (cL (cR (cL (cR (cL (cL (cL (cR (cR Cx))))))))) (La (Lb (La (Lb (La (La (La (Lb (Lb (A 107)))))))))) (K107_prrlllr cal k m1) (Hq cal k m1) (av P kz)
noncomputable def E107_1(k m1:Nat):KR:=cj P cal (aK P cal m1) none 107 (cL (cL (cR (cR Cx)))) (La (La (Lb (Lb (A 107))))) (Ry cal k m1) (Rx cal k) (av P kz)
noncomputable def R107_1(k m1:Nat):V2:=fun u0 u3 H n=>aK P cal m1 (La (Lb (Lb (A 107)))) none 107 (cL (cR (cR Cx))) (av P kz) (Rx cal k) (av P kz) (ts (ts Tr.nil 3 u3) 0 u0) H n []
noncomputable def B107_1(cal:Cal)(k m1:Nat)(b1:V2)(u0 u3:Value)(H:Hp)(n:Nat):Res:=
aX P cal 116 [u0] H n fun v_4 H_5 n_6=>
binK P .eql 3 (.tmp 7) (.const (.int .i64 0)) v_4 (.int .i64 0) fun v_9=>
ifK v_9 (
some (u3,H_5,n_6)) (
binK P .add 3 (.tmp 10) (.tmp 11) u3 v_4 fun v_e=>
b1 u0 v_e H_5 n_6)
noncomputable def YZ(k m1:Nat)(b1:V2)(u0 u3:Value)(H:Hp)(n:Nat):Res:=B107_1 cal k m1 b1 u0 u3 H n
noncomputable def TQ(k:Nat):Nat→V2:=fun m=>Nat.rec (motive:=fun _=>V2) (YZ cal k 0 (fun _ _ _ _=>none)) (fun m ih=>YZ cal k (m+1) ih) m
theorem h107_1(k m1:Nat)(u0 u3:Value)(H:Hp)(n:Nat):labK (E107_1 cal k m1) (ts (ts Tr.nil 3 u3) 0 u0) H n []=YZ cal k m1 (R107_1 cal k m1) u0 u3 H n:=by
 refine Eq.trans (b:=B107_1 cal k m1 (R107_1 cal k m1) u0 u3 H n) (by kernel_rfl) ?_
 rw[YZ]
theorem q107_1(k:Nat):∀(m:Nat) (u0 u3:Value) (H:Hp) (n:Nat),labK (E107_1 cal k m) (ts (ts Tr.nil 3 u3) 0 u0) H n []=TQ cal k m u0 u3 H n
 | 0,u0,u3,H,n=>by
  rw[h107_1]
  have e:R107_1 cal k 0=fun _ _ _ _=>none:=by funext u0 u3 H n; kernel_rfl
  rw[e]; rfl
 | m+1,u0,u3,H,n=>by
  rw[h107_1]
  have e:R107_1 cal k (m+1)=TQ cal k m:=by
   funext u0 u3 H n
   have e:R107_1 cal k (m+1) u0 u3 H n=labK (E107_1 cal k m) (ts (ts Tr.nil 3 u3) 0 u0) H n []:=by kernel_rfl
   rw[e]; exact q107_1 ..
  rw[e]; rfl
noncomputable def B107_0(cal:Cal)(k:Nat)(j1:V2)(v0:Value)(H:Hp)(n:Nat):Res:=
j1 v0 (.int .i64 0) H n
noncomputable def YK(k:Nat)(v0:Value)(H:Hp)(n:Nat):Res:=B107_0 cal k (TQ cal k k) v0 H n
theorem h107_0(k:Nat)(v0:Value)(H:Hp)(n:Nat):aY P cal A (k+1) 107 [v0] H n=YK cal k v0 H n:=by
 have h:aY P cal A (k+1) 107 [v0] H n=B107_0 cal k (fun u0 u3 H n=>labK (E107_1 cal k k) (ts (ts Tr.nil 3 u3) 0 u0) H n []) v0 H n:=by
  rw[bY (fn:=Go.Proofs.Try.f107) (c:=Cx) (rs:=kz) (by kernel_rfl) (by kernel_rfl) (by kernel_rfl) (by kernel_rfl)]
  kernel_rfl
 rw[h,YK]
 have e1:(fun u0 u3 H n=>labK (E107_1 cal k k) (ts (ts Tr.nil 3 u3) 0 u0) H n [])=(TQ cal k k):=by funext u0 u3 H n; exact q107_1 ..
 rw[e1]
noncomputable def DK:Code:=dj 108
noncomputable def lK:List ResultVar:=fk 108
noncomputable def qy:Code:=asgR (cL (cR (cL (cR (cR DK)))))
noncomputable def jJ:Code:=bodR (cL (cR (cL (cR (cR DK)))))
noncomputable def K108_p:KR:=kD cal k 108 DK (A 108) (av P lK) X0 (av P lK)
noncomputable def K108_pr:KR:=kD cal k 108 (cR DK) (Lb (A 108)) (av P lK) X0 (av P lK)
noncomputable def CK:KR:=kD cal k 108 (cR (cR DK)) (Lb (Lb (A 108))) (av P lK) X0 (av P lK)
noncomputable def OY(k:Nat):XR:=(upX 0 (CK cal k) X0)
noncomputable def K108_prrr:KR:=kD cal k 108 (cR (cR (cR DK))) (Lb (Lb (Lb (A 108)))) (av P lK) X0 (av P lK)
noncomputable def K108_prrl:KR:=kD cal k 108 (cL (cR (cR DK))) (La (Lb (Lb (A 108)))) (CK cal k) X0 (av P lK)
noncomputable def E108_2(k:Nat):KR:=(CK cal k)
noncomputable def E108_1(k:Nat):KR:=cj P cal (aK P cal k) none 108 (cR (cL (cR (cR DK)))) (Lb (La (Lb (Lb (A 108))))) (CK cal k) X0 (av P lK)
noncomputable def B108_2(cal:Cal)(k:Nat)(u3 u5 u7 u21:Value)(H:Hp)(n:Nat)(D:List Nat):Option (Value × Hp × Nat):=
aq (aV u7) fun a_s=>aq (az P H 59 a_s) fun v_r=>
getK (wj H D) fun H_u=>
some (v_r,H_u,n)
noncomputable def C108_2(k:Nat)(u3 u5 u7 u21:Value)(H:Hp)(n:Nat)(D:List Nat):Option (Value × Hp × Nat):=B108_2 cal k u3 u5 u7 u21 H n D
theorem h108_2(k:Nat)(u3 u5 u7 u21:Value)(H:Hp)(n:Nat)(D:List Nat):labK (E108_2 cal k) (ts (ts (ts (ts Tr.nil 21 u21) 7 u7) 5 u5) 3 u3) H n D=C108_2 cal k u3 u5 u7 u21 H n D:=by
 refine Eq.trans (b:=B108_2 cal k u3 u5 u7 u21 H n D) (by kernel_rfl) ?_
 rw[C108_2]
noncomputable def B108_1(cal:Cal)(k:Nat)(u3 u5 u7 u21:Value)(H:Hp)(n:Nat)(D:List Nat):Option (Value × Hp × Nat):=
EZ P cal none 108 u21 #[22,23] qy jJ (CK cal k) (OY cal k) (av P lK) (ts (ts (ts (ts Tr.nil 21 u21) 7 u7) 5 u5) 3 u3) H n D
noncomputable def C108_1(k:Nat)(u3 u5 u7 u21:Value)(H:Hp)(n:Nat)(D:List Nat):Option (Value × Hp × Nat):=B108_1 cal k u3 u5 u7 u21 H n D
theorem h108_1(k:Nat)(u3 u5 u7 u21:Value)(H:Hp)(n:Nat)(D:List Nat):labK (E108_1 cal k) (ts (ts (ts (ts Tr.nil 21 u21) 7 u7) 5 u5) 3 u3) H n D=C108_1 cal k u3 u5 u7 u21 H n D:=by
 refine Eq.trans (b:=B108_1 cal k u3 u5 u7 u21 H n D) (by kernel_rfl) ?_
 rw[C108_1]
noncomputable def B108_0(cal:Cal)(k:Nat)(j1:W4 (Value × Hp × Nat))(v0 v1 v2:Value)(H:Hp)(n:Nat)(D:List Nat):Option (Value × Hp × Nat):=
boxK 103 v0 H n fun v_1 H_2 n_3=>
boxK 119 v1 H_2 n_3 fun v_4 H_5 n_6=>
boxK 160 v2 H_5 n_6 fun v_7 H_8 n_9=>
aq (aV v_1) fun a_c=>aq (az P H_8 103 a_c) fun v_b=>
aq (nilV v_b) fun v_d=>
aq (aw P 115 v_d 0) fun v_e=>
aq (aw P 35 v_e 0) fun v_f=>
aq (aV v_f) fun a_h=>aq (az P H_8 31 a_h) fun v_g=>
aq (lenV P 31 v_g) fun v_i=>
stK (rJ P 59 v_i v_i (bare H_8 n_9)) fun v_j H_k n_l=>
eQ P 59 H_k n_l fun v_m H_n n_o=>
aq (bX P 59 v_m v_j H_n) fun H_q=>
aq (aV v_1) fun a_w=>aq (az P H_q 103 a_w) fun v_v=>
aq (aV v_4) fun a_y=>aq (az P H_q 119 a_y) fun v_x=>
aX P cal 74 [v_v,v_x] H_q n_o fun v_z H_10 n_11=>
j1 v_1 v_7 v_m v_z H_10 n_11 D
noncomputable def Zj(k:Nat)(v0 v1 v2:Value)(H:Hp)(n:Nat)(D:List Nat):Option (Value × Hp × Nat):=B108_0 cal k (C108_1 cal k) v0 v1 v2 H n D
theorem h108_0(k:Nat)(v0 v1 v2:Value)(H:Hp)(n:Nat)  : aY P cal A (k+1) 108 [v0,v1,v2] H n=Zj cal k v0 v1 v2 H n []:=by
 have h:aY P cal A (k+1) 108 [v0,v1,v2] H n=B108_0 cal k (fun u3 u5 u7 u21 H n D=>labK (E108_1 cal k) (ts (ts (ts (ts Tr.nil 21 u21) 7 u7) 5 u5) 3 u3) H n D) v0 v1 v2 H n []:=by
  rw[bY (fn:=Go.Proofs.Try.f108) (c:=DK) (rs:=lK) (by kernel_rfl) (by kernel_rfl) (by kernel_rfl) (by kernel_rfl)]
  kernel_rfl
 rw[h,Zj]
 have e1:(fun u3 u5 u7 u21 H n D=>labK (E108_1 cal k) (ts (ts (ts (ts Tr.nil 21 u21) 7 u7) 5 u5) 3 u3) H n D)=(C108_1 cal k):=by funext u3 u5 u7 u21 H n D; exact h108_1 ..
 rw[e1]
noncomputable def K108a0_p(k:Nat)(lp:Nat):KC (Ex × St):=(cutK (Lv.leaf).c (cj P cal (aK P cal k) (some lp) 108 (cR qy) (Lb (Lv.leaf)) KNb XNb KRb))
noncomputable def qqq(cal:Cal)(k:Nat)(lp:Nat)(v3 v5 v7 v21 v22 v23:Value)(H:Hp)(n:Nat)(D:List Nat):Option (Ex × St):=
eQ P 111 H n fun v_13 H_14 n_15=>
aq (bX P 111 v_13 v23 H_14) fun H_17=>
some (.norm,{ T:=(Tr.set (Tr.set (Tr.set (Tr.set (Tr.set (Tr.set (Tr.set (Tr.set Tr.nil 23 (some v23)) 22 (some v22)) 21 (some v21)) 9 (some v_13)) 8 (some v22)) 7 (some v7)) 5 (some v5)) 3 (some v3)),H:=H_17,n:=n_15,D:=D })
noncomputable def qqz(k:Nat)(lp:Nat)(v3 v5 v7 v21 v22 v23:Value)(H:Hp)(n:Nat)(D:List Nat):Option (Ex × St):=qqq cal k lp v3 v5 v7 v21 v22 v23 H n D
theorem h108a0_0(k:Nat)(lp:Nat)(v3 v5 v7 v21 v22 v23:Value)(H:Hp)(n:Nat)(D:List Nat):aK P cal (k+1) (Lv.leaf) (some lp) 108 qy KNb XNb KRb (Tr.set (Tr.set (Tr.set (Tr.set (Tr.set (Tr.set Tr.nil 23 (some v23)) 22 (some v22)) 21 (some v21)) 7 (some v7)) 5 (some v5)) 3 (some v3)) H n D=qqz cal k lp v3 v5 v7 v21 v22 v23 H n D:=by
 have h:aK P cal (k+1) (Lv.leaf) (some lp) 108 qy KNb XNb KRb (Tr.set (Tr.set (Tr.set (Tr.set (Tr.set (Tr.set Tr.nil 23 (some v23)) 22 (some v22)) 21 (some v21)) 7 (some v7)) 5 (some v5)) 3 (some v3)) H n D=qqq cal k lp v3 v5 v7 v21 v22 v23 H n D:=by kernel_rfl
 rw[h,qqz]
noncomputable def K108b0_px(cal:Cal)(k:Nat)(lp:Nat):XC (Ex × St):=(upX 1 KNb XNb)
noncomputable def K108b0_pl(k:Nat)(lp:Nat):KC (Ex × St):=(cutK (La (A 131180)).c (cj P cal (aK P cal k) (some lp) 108 (cR (cL jJ)) (Lb (La (A 131180))) KNb (K108b0_px cal k lp) KRb))
noncomputable def uZ(k:Nat)(lp:Nat):XC (Ex × St):=(upX 2 KNb (K108b0_px cal k lp))
noncomputable def Hv(k:Nat)(lp:Nat)(m1:Nat):KC (Ex × St):=(fun T H n D=>aK P cal m1 (La (Lb (La (A 131180)))) (some lp) 108 (cL (cR (cL jJ))) KNb (uZ cal k lp) KRb (cutT (La (Lb (La (A 131180)))).c T) H n D)
noncomputable def K108b0_plrll(k:Nat)(lp:Nat)(m1:Nat):KC (Ex × St):=(cutK (La (La (Lb (La (A 131180))))).c (cj P cal (aK P cal m1) (some lp) 108 (cR (cL (cL (cR (cL jJ))))) (Lb (La (La (Lb (La (A 131180)))))) (Hv cal k lp m1) (uZ cal k lp) KRb))
noncomputable def K108b0_plrllr(k:Nat)(lp:Nat)(m1:Nat):KC (Ex × St):=(cutK (Lb (La (La (Lb (La (A 131180)))))).c (cj P cal (aK P cal m1) (some lp) 108 (cR (cR (cL (cL (cR (cL jJ)))))) (Lb (Lb (La (La (Lb (La (A 131180))))))) (Hv cal k lp m1) (uZ cal k lp) KRb))
noncomputable def Gv(k:Nat)(lp:Nat)(m1:Nat):KC (Ex × St):=(cutK (Lb (Lb (La (La (Lb (La (A 131180))))))).c (cj P cal (aK P cal m1) (some lp) 108 (cR (cR (cR (cL (cL (cR (cL jJ))))))) (Lb (Lb (Lb (La (La (Lb (La (A 131180)))))))) (Hv cal k lp m1) (uZ cal k lp) KRb))
noncomputable def K108b0_pxlrllrrl(k:Nat)(lp:Nat)(m1:Nat):XC (Ex × St):=(upX 3 (Gv cal k lp m1) (uZ cal k lp))
noncomputable def K108b0_plrllrrll(k:Nat)(lp:Nat)(m1:Nat):KC (Ex × St):=(cutK (La (La (Lb (Lb (La (La (Lb (La (A 131180))))))))).c (cj P cal (aK P cal m1) (some lp) 108 (cR (cL (cL (cR (cR (cL (cL (cR (cL jJ))))))))) (Lb (La (La (Lb (Lb (La (La (Lb (La (A 131180)))))))))) (Gv cal k lp m1) (K108b0_pxlrllrrl cal k lp m1) KRb))
noncomputable def K108b0_plrllrrllr(k:Nat)(lp:Nat)(m1:Nat):KC (Ex × St):=(cutK (Lb (La (La (Lb (Lb (La (La (Lb (La (A 131180)))))))))).c (cj P cal (aK P cal m1) (some lp) 108 (cR (cR (cL (cL (cR (cR (cL (cL (cR (cL jJ)))))))))) (Lb (Lb (La (La (Lb (Lb (La (La (Lb (La (A 131180))))))))))) (Gv cal k lp m1) (K108b0_pxlrllrrl cal k lp m1) KRb))
noncomputable def JY(k:Nat)(lp:Nat)(m1:Nat):KC (Ex × St):=cj P cal (aK P cal m1) (some lp) 108 (cL (cL (cR (cL jJ)))) (La (La (Lb (La (A 131180))))) (Hv cal k lp m1) (uZ cal k lp) KRb
noncomputable def OZ(k:Nat)(lp:Nat)(m1:Nat):W6 (Ex × St):=fun u5 u7 u8 u9 u29 u30 H n D=>aK P cal m1 (La (Lb (La (A 131180)))) (some lp) 108 (cL (cR (cL jJ))) KNb (uZ cal k lp) KRb (ts (ts (ts (ts (ts (ts Tr.nil 30 u30) 29 u29) 9 u9) 8 u8) 7 u7) 5 u5) H n D
noncomputable def qqx(cal:Cal)(k:Nat)(lp:Nat)(m1:Nat)(b1:W6 (Ex × St))(u5 u7 u8 u9 u29 u30:Value)(H:Hp)(n:Nat)(D:List Nat):Option (Ex × St):=
binK P .lss 3 (.tmp 30) (.tmp 29) u30 u29 fun v_1h=>
ifK v_1h (
binK P .add 3 (.const (.int .i64 8)) (.tmp 33) (.int .i64 8) u30 fun v_1l=>
binK P .add 3 (.const (.int .i64 0)) (.tmp 35) (.int .i64 0) u8 fun v_1n=>
aq (fK P 162 [(0,v_1l),(1,v_1n)]) fun v_1o=>
eQ P 162 H n fun v_1p H_1q n_1r=>
aq (bX P 162 v_1p v_1o H_1q) fun H_1t=>
aq (aV u7) fun a_1u=>aq (az P H_1t 59 a_1u) fun v_1v=>
aq (aV u7) fun a_1x=>aq (az P H_1t 59 a_1x) fun v_1y=>
aq (aJ P 59 v_1y u8) fun v_20=>
aq (aV v_20) fun a_21=>aq (az P H_1t 44 a_21) fun v_22=>
aq (aw P 111 u9 1) fun v_24=>
aq (aJ P 109 v_24 u30) fun v_25=>
aq (aw P 53 v_25 0) fun v_26=>
aq (aV v_26) fun a_27=>aq (az P H_1t 3 a_27) fun v_28=>
aq (aV u5) fun a_29=>aq (az P H_1t 160 a_29) fun v_2a=>
aq (aV v_1p) fun a_2b=>aq (az P H_1t 162 a_2b) fun v_2c=>
aq (lk P H_1t 160 v_2a v_2c false) fun v_2d=>
binK P .add 3 (.tmp 48) (.tmp 51) v_28 v_2d fun v_2e=>
aq (zj P 44 1 [(0,v_2e)]) fun q_2h=>newK q_2h.1 q_2h.2 H_1t n_1r fun H_2f n_2g=>
effK P [(.l 59 a_1u)] H_2f n_2g (fun H_2i n_2j k_2k=>
stK (iz P (bare H_2i n_2j) 44 44 v_22 (.slice (some ⟨n_1r,0,none⟩) 1 1)) fun v_2o H_2p n_2q=>
k_2k v_2o H_2p n_2q) fun v_2l H_2m n_2n=>
aq (aJ P 59 v_1v u8) fun v_2r=>
aq (bX P 44 v_2r v_2l H_2m) fun H_2t=>
binK P .add 3 (.tmp 30) (.const (.int .i64 1)) u30 (.int .i64 1) fun v_2u=>
b1 u5 u7 u8 u9 u29 v_2u H_2t n_2n D) (
some (.norm,{ T:=(ts (ts (ts (ts (ts (ts (Tr.set Tr.nil 31 (some v_1h)) 30 u30) 29 u29) 9 u9) 8 u8) 7 u7) 5 u5),H:=H,n:=n,D:=D }))
noncomputable def JZ(k:Nat)(lp:Nat)(m1:Nat)(b1:W6 (Ex × St))(u5 u7 u8 u9 u29 u30:Value)(H:Hp)(n:Nat)(D:List Nat):Option (Ex × St):=qqx cal k lp m1 b1 u5 u7 u8 u9 u29 u30 H n D
noncomputable def JK(k:Nat)(lp:Nat):Nat→W6 (Ex × St):=fun m=>Nat.rec (motive:=fun _=>W6 (Ex × St)) (JZ cal k lp 0 (fun _ _ _ _ _ _ _ _ _=>none)) (fun m ih=>JZ cal k lp (m+1) ih) m
theorem h108b0_1(k:Nat)(lp:Nat)(m1:Nat)(u5 u7 u8 u9 u29 u30:Value)(H:Hp)(n:Nat)(D:List Nat):labK (JY cal k lp m1) (ts (ts (ts (ts (ts (ts Tr.nil 30 u30) 29 u29) 9 u9) 8 u8) 7 u7) 5 u5) H n D=JZ cal k lp m1 (OZ cal k lp m1) u5 u7 u8 u9 u29 u30 H n D:=by
 have h:labK (JY cal k lp m1) (ts (ts (ts (ts (ts (ts Tr.nil 30 u30) 29 u29) 9 u9) 8 u8) 7 u7) 5 u5) H n D=qqx cal k lp m1 (OZ cal k lp m1) u5 u7 u8 u9 u29 u30 H n D:=by kernel_rfl
 rw[h,JZ]
theorem q108b0_1(k:Nat)(lp:Nat):∀(m:Nat) (u5 u7 u8 u9 u29 u30:Value) (H:Hp) (n:Nat) (D:List Nat),labK (JY cal k lp m) (ts (ts (ts (ts (ts (ts Tr.nil 30 u30) 29 u29) 9 u9) 8 u8) 7 u7) 5 u5) H n D=JK cal k lp m u5 u7 u8 u9 u29 u30 H n D
 | 0,u5,u7,u8,u9,u29,u30,H,n,D=>by
  rw[h108b0_1]
  have e:OZ cal k lp 0=fun _ _ _ _ _ _ _ _ _=>none:=by funext u5 u7 u8 u9 u29 u30 H n D; kernel_rfl
  rw[e]; rfl
 | m+1,u5,u7,u8,u9,u29,u30,H,n,D=>by
  rw[h108b0_1]
  have e:OZ cal k lp (m+1)=JK cal k lp m:=by
   funext u5 u7 u8 u9 u29 u30 H n D
   have e:OZ cal k lp (m+1) u5 u7 u8 u9 u29 u30 H n D=labK (JY cal k lp m) (ts (ts (ts (ts (ts (ts Tr.nil 30 u30) 29 u29) 9 u9) 8 u8) 7 u7) 5 u5) H n D:=by kernel_rfl
   rw[e]; exact q108b0_1 ..
  rw[e]; rfl
noncomputable def qqj(cal:Cal)(k:Nat)(lp:Nat)(j1:W6 (Ex × St))(v3 v5 v7 v8 v9 v21 v22 v23:Value)(H:Hp)(n:Nat)(D:List Nat):Option (Ex × St):=
aq (aV v3) fun a_19=>aq (az P H 103 a_19) fun v_18=>
aq (nilV v_18) fun v_1a=>
aq (aw P 115 v_1a 0) fun v_1b=>
aq (aw P 35 v_1b 0) fun v_1c=>
aq (aV v_1c) fun a_1e=>aq (az P H 31 a_1e) fun v_1d=>
aq (lenV P 31 v_1d) fun v_1f=>
j1 v5 v7 v8 v9 v_1f (.int .i64 0) H n D
noncomputable def qqk(k:Nat)(lp:Nat)(v3 v5 v7 v8 v9 v21 v22 v23:Value)(H:Hp)(n:Nat)(D:List Nat):Option (Ex × St):=qqj cal k lp (JK cal k lp k) v3 v5 v7 v8 v9 v21 v22 v23 H n D
theorem h108b0_0(k:Nat)(lp:Nat)(v3 v5 v7 v8 v9 v21 v22 v23:Value)(H:Hp)(n:Nat)(D:List Nat):aK P cal (k+1) (A 131180) (some lp) 108 jJ KNb XNb KRb (Tr.set (Tr.set (Tr.set (Tr.set (Tr.set (Tr.set (Tr.set (Tr.set Tr.nil 23 (some v23)) 22 (some v22)) 21 (some v21)) 9 (some v9)) 8 (some v8)) 7 (some v7)) 5 (some v5)) 3 (some v3)) H n D=qqk cal k lp v3 v5 v7 v8 v9 v21 v22 v23 H n D:=by
 have h:aK P cal (k+1) (A 131180) (some lp) 108 jJ KNb XNb KRb (Tr.set (Tr.set (Tr.set (Tr.set (Tr.set (Tr.set (Tr.set (Tr.set Tr.nil 23 (some v23)) 22 (some v22)) 21 (some v21)) 9 (some v9)) 8 (some v8)) 7 (some v7)) 5 (some v5)) 3 (some v3)) H n D=qqj cal k lp (fun u5 u7 u8 u9 u29 u30 H n D=>labK (JY cal k lp k) (ts (ts (ts (ts (ts (ts Tr.nil 30 u30) 29 u29) 9 u9) 8 u8) 7 u7) 5 u5) H n D) v3 v5 v7 v8 v9 v21 v22 v23 H n D:=by kernel_rfl
 rw[h,qqk]
 have e1:(fun u5 u7 u8 u9 u29 u30 H n D=>labK (JY cal k lp k) (ts (ts (ts (ts (ts (ts Tr.nil 30 u30) 29 u29) 9 u9) 8 u8) 7 u7) 5 u5) H n D)=(JK cal k lp k):=by funext u5 u7 u8 u9 u29 u30 H n D; exact q108b0_1 ..
 rw[e1]
noncomputable def nX:Code:=dj 109
noncomputable def eY:List ResultVar:=fk 109
noncomputable def K109_p:KR:=kD cal k 109 nX (A 109) (av P eY) X0 (av P eY)
noncomputable def K109_pr:KR:=kD cal k 109 (cR nX) (Lb (A 109)) (av P eY) X0 (av P eY)
noncomputable def K109_prl:KR:=kD cal k 109 (cL (cR nX)) (La (Lb (A 109))) (K109_pr cal k) X0 (av P eY)
noncomputable def K109_prlrl:KR:=kD cal k 109 (cL (cR (cL (cR nX)))) (La (Lb (La (Lb (A 109))))) (K109_pr cal k) X0 (av P eY)
noncomputable def K109_prr:KR:=kD cal k 109 (cR (cR nX)) (Lb (Lb (A 109))) (av P eY) X0 (av P eY)
noncomputable def Rz:KR:=kD cal k 109 (cR (cR (cR nX))) (Lb (Lb (Lb (A 109)))) (av P eY) X0 (av P eY)
noncomputable def K109_prrrl:KR:=kD cal k 109 (cL (cR (cR (cR nX)))) (La (Lb (Lb (Lb (A 109))))) (Rz cal k) X0 (av P eY)
noncomputable def sw(k:Nat):XR:=(upX 0 (Rz cal k) X0)
noncomputable def Ej(k:Nat)(m1:Nat):KR:=(fun T H n D=>aK P cal m1 (La (Lb (La (Lb (Lb (Lb (A 109))))))) none 109 (cL (cR (cL (cR (cR (cR nX)))))) (Rz cal k) (sw cal k) (av P eY) (cutT (La (Lb (La (Lb (Lb (Lb (A 109))))))).c T) H n D)
noncomputable def K109_prrrlrll(k:Nat)(m1:Nat):KR:=kD cal m1 109 (cL (cL (cR (cL (cR (cR (cR nX))))))) (La (La (Lb (La (Lb (Lb (Lb (A 109)))))))) (Ej cal k m1) (sw cal k) (av P eY)
noncomputable def K109_prrrlrllr(k:Nat)(m1:Nat):KR:=kD cal m1 109 (cR (cL (cL (cR (cL (cR (cR (cR nX)))))))) (Lb (La (La (Lb (La (Lb (Lb (Lb (A 109))))))))) (Ej cal k m1) (sw cal k) (av P eY)
noncomputable def Dy(k:Nat)(m1:Nat):KR:=kD cal m1 109 (cR (cR (cL (cL (cR (cL (cR (cR (cR nX))))))))) (Lb (Lb (La (La (Lb (La (Lb (Lb (Lb (A 109)))))))))) (Ej cal k m1) (sw cal k) (av P eY)
noncomputable def tX(k:Nat)(m1:Nat):XR:=(upX 1 (Dy cal k m1) (sw cal k))
noncomputable def K109_prrrlrllrrll(k:Nat)(m1:Nat):KR:=kD cal m1 109 (cL (cL (cR (cR (cL (cL (cR (cL (cR (cR (cR nX))))))))))) (La (La (Lb (Lb (La (La (Lb (La (Lb (Lb (Lb (A 109)))))))))))) (Dy cal k m1) (tX cal k m1) (av P eY)
noncomputable def K109_prrrlrllrrllr(k:Nat)(m1:Nat):KR:=kD cal m1 109 (cR (cL (cL (cR (cR (cL (cL (cR (cL (cR (cR (cR nX)))))))))))) (Lb (La (La (Lb (Lb (La (La (Lb (La (Lb (Lb (Lb (A 109))))))))))))) (Dy cal k m1) (tX cal k m1) (av P eY)
noncomputable def K109_prrrlrllrrllrl(k:Nat)(m1:Nat):KR:=kD cal m1 109 (cL (cR (cL (cL (cR (cR (cL (cL (cR (cL (cR (cR (cR nX))))))))))))) (La (Lb (La (La (Lb (Lb (La (La (Lb (La (Lb (Lb (Lb (A 109)))))))))))))) (K109_prrrlrllrrllr cal k m1) (tX cal k m1) (av P eY)
noncomputable def K109_prrrlrllrrllrlrl(k:Nat)(m1:Nat):KR:=kD cal m1 109 (cL (cR (cL (cR (cL (cL (cR (cR (cL (cL (cR (cL (cR (cR (cR nX))))))))))))))) (La (Lb (La (Lb (La (La (Lb (Lb (La (La (Lb (La (Lb (Lb (Lb (A 109)))))))))))))))) (K109_prrrlrllrrllr cal k m1) (tX cal k m1) (av P eY)
noncomputable def K109_prrrr:KR:=kD cal k 109 (cR (cR (cR (cR nX)))) (Lb (Lb (Lb (Lb (A 109))))) (av P eY) X0 (av P eY)
noncomputable def E109_1(k m1:Nat):KR:=cj P cal (aK P cal m1) none 109 (cL (cL (cR (cL (cR (cR (cR nX))))))) (La (La (Lb (La (Lb (Lb (Lb (A 109)))))))) (Ej cal k m1) (sw cal k) (av P eY)
noncomputable def R109_1(k m1:Nat):V5:=fun u3 u7 u16 u17 u18 H n=>aK P cal m1 (La (Lb (La (Lb (Lb (Lb (A 109))))))) none 109 (cL (cR (cL (cR (cR (cR nX)))))) (Rz cal k) (sw cal k) (av P eY) (ts (ts (ts (ts (ts Tr.nil 18 u18) 17 u17) 16 u16) 7 u7) 3 u3) H n []
noncomputable def B109_1(cal:Cal)(k m1:Nat)(b1:V5)(u3 u7 u16 u17 u18:Value)(H:Hp)(n:Nat):Res:=
binK P .lss 3 (.tmp 18) (.tmp 17) u18 u17 fun v_h=>
ifK v_h (
aq (aJ P 44 u16 u18) fun v_j=>
aq (aV v_j) fun a_l=>aq (az P H 3 a_l) fun v_k=>
aq (aw P 111 u3 1) fun v_p=>
aq (aJ P 109 v_p u18) fun v_q=>
aq (aV v_q) fun a_s=>aq (az P H 53 a_s) fun v_r=>
aX P cal 99 [v_r,v_k] H n fun v_u H_v n_w=>
aq (dX P v_u (Op.unary UnOp.not v_u)) fun v_x=>
ifK v_x (
some ((.bool false),H_v,n_w)) (
binK P .sub 3 (.tmp 30) (.tmp 31) u7 v_k fun v_11=>
binK P .add 3 (.tmp 18) (.const (.int .i64 1)) u18 (.int .i64 1) fun v_13=>
b1 u3 v_11 u16 u17 v_13 H_v n_w)) (
binK P .eql 3 (.tmp 34) (.const (.int .i64 0)) u7 (.int .i64 0) fun v_16=>
some (v_16,H,n))
noncomputable def Zq(k m1:Nat)(b1:V5)(u3 u7 u16 u17 u18:Value)(H:Hp)(n:Nat):Res:=B109_1 cal k m1 b1 u3 u7 u16 u17 u18 H n
noncomputable def S109_1(k:Nat):Nat→V5:=fun m=>Nat.rec (motive:=fun _=>V5) (Zq cal k 0 (fun _ _ _ _ _ _ _=>none)) (fun m ih=>Zq cal k (m+1) ih) m
theorem h109_1(k m1:Nat)(u3 u7 u16 u17 u18:Value)(H:Hp)(n:Nat):labK (E109_1 cal k m1) (ts (ts (ts (ts (ts Tr.nil 18 u18) 17 u17) 16 u16) 7 u7) 3 u3) H n []=Zq cal k m1 (R109_1 cal k m1) u3 u7 u16 u17 u18 H n:=by
 refine Eq.trans (b:=B109_1 cal k m1 (R109_1 cal k m1) u3 u7 u16 u17 u18 H n) (by kernel_rfl) ?_
 rw[Zq]
theorem q109_1(k:Nat):∀(m:Nat) (u3 u7 u16 u17 u18:Value) (H:Hp) (n:Nat),labK (E109_1 cal k m) (ts (ts (ts (ts (ts Tr.nil 18 u18) 17 u17) 16 u16) 7 u7) 3 u3) H n []=S109_1 cal k m u3 u7 u16 u17 u18 H n
 | 0,u3,u7,u16,u17,u18,H,n=>by
  rw[h109_1]
  have e:R109_1 cal k 0=fun _ _ _ _ _ _ _=>none:=by funext u3 u7 u16 u17 u18 H n; kernel_rfl
  rw[e]; rfl
 | m+1,u3,u7,u16,u17,u18,H,n=>by
  rw[h109_1]
  have e:R109_1 cal k (m+1)=S109_1 cal k m:=by
   funext u3 u7 u16 u17 u18 H n
   have e:R109_1 cal k (m+1) u3 u7 u16 u17 u18 H n=labK (E109_1 cal k m) (ts (ts (ts (ts (ts Tr.nil 18 u18) 17 u17) 16 u16) 7 u7) 3 u3) H n []:=by kernel_rfl
   rw[e]; exact q109_1 ..
  rw[e]; rfl
noncomputable def B109_0(cal:Cal)(k:Nat)(j1:V5)(v0 v1 v2:Value)(H:Hp)(n:Nat):Res:=
boxK 111 v0 H n fun v_1 H_2 n_3=>
aq (lenV P 44 v1) fun v_6=>
binK P .neq 3 (.tmp 11) (.tmp 12) v_6 v2 fun v_8=>
ifK v_8 (
some ((.bool false),H_2,n_3)) (
aq (aw P 111 v_1 0) fun v_a=>
aq (aV v_a) fun a_c=>aq (az P H_2 3 a_c) fun v_b=>
aq (lenV P 44 v1) fun v_f=>
j1 v_1 v_b v1 v_f (.int .i64 0) H_2 n_3)
noncomputable def Zv(k:Nat)(v0 v1 v2:Value)(H:Hp)(n:Nat):Res:=B109_0 cal k (S109_1 cal k k) v0 v1 v2 H n
theorem h109_0(k:Nat)(v0 v1 v2:Value)(H:Hp)(n:Nat):aY P cal A (k+1) 109 [v0,v1,v2] H n=Zv cal k v0 v1 v2 H n:=by
 have h:aY P cal A (k+1) 109 [v0,v1,v2] H n=B109_0 cal k (fun u3 u7 u16 u17 u18 H n=>labK (E109_1 cal k k) (ts (ts (ts (ts (ts Tr.nil 18 u18) 17 u17) 16 u16) 7 u7) 3 u3) H n []) v0 v1 v2 H n:=by
  rw[bY (fn:=Go.Proofs.Try.f109) (c:=nX) (rs:=eY) (by kernel_rfl) (by kernel_rfl) (by kernel_rfl) (by kernel_rfl)]
  kernel_rfl
 rw[h,Zv]
 have e1:(fun u3 u7 u16 u17 u18 H n=>labK (E109_1 cal k k) (ts (ts (ts (ts (ts Tr.nil 18 u18) 17 u17) 16 u16) 7 u7) 3 u3) H n [])=(S109_1 cal k k):=by funext u3 u7 u16 u17 u18 H n; exact q109_1 ..
 rw[e1]
end Go.Proofs.Ytmjbdjnnojfhkaa.G
