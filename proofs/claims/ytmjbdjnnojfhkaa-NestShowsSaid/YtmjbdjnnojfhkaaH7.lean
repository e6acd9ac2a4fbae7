/- The texts of functions, each with the proof that the evaluator says the same. -/
import Derived.Test.YtmjbdjnnojfhkaaH1
open Go Go.Ev
set_option maxRecDepth 1000000
set_option linter.unusedVariables false
noncomputable section
namespace Go.Proofs.Ytmjbdjnnojfhkaa.G
variable (cal:Cal) (k:Nat)
noncomputable def code113:Code:=dj 113
noncomputable def Gw:List ResultVar:=fk 113
noncomputable def K113_p:KR:=kD cal k 113 code113 (A 113) (av P Gw) X0 (av P Gw)
noncomputable def K113_pr:KR:=kD cal k 113 (cR code113) (Lb (A 113)) (av P Gw) X0 (av P Gw)
noncomputable def B113_0(cal:Cal)(k:Nat)(v0 v1:Value)(H:Hp)(n:Nat):Res:=
boxK 103 v0 H n fun v_1 H_2 n_3=>
boxK 3 v1 H_2 n_3 fun v_4 H_5 n_6=>
some ((Value.func (Fn.func 119) ⟨[]⟩ ⟨[v_4,v_1]⟩),H_5,n_6)
noncomputable def C113_0(k:Nat)(v0 v1:Value)(H:Hp)(n:Nat):Res:=B113_0 cal k v0 v1 H n
theorem h113_0(k:Nat)(v0 v1:Value)(H:Hp)(n:Nat):aY P cal A (k+1) 113 [v0,v1] H n=C113_0 cal k v0 v1 H n:=by
 have h:aY P cal A (k+1) 113 [v0,v1] H n=B113_0 cal k v0 v1 H n:=by
  rw[bY (fn:=Go.Proofs.Try.f113) (c:=code113) (rs:=Gw) (by kernel_rfl) (by kernel_rfl) (by kernel_rfl) (by kernel_rfl)]
  kernel_rfl
 rw[h,C113_0]
noncomputable def code114:Code:=dj 114
noncomputable def Gx:List ResultVar:=fk 114
noncomputable def K114_p:KR:=kD cal k 114 code114 (A 114) (av P Gx) X0 (av P Gx)
noncomputable def K114_pr:KR:=kD cal k 114 (cR code114) (Lb (A 114)) (av P Gx) X0 (av P Gx)
noncomputable def B114_0(cal:Cal)(k:Nat)(v0:Value)(H:Hp)(n:Nat):Res:=
boxK 53 v0 H n fun v_1 H_2 n_3=>
aq (aw P 53 v_1 0) fun v_5=>
aq (aV v_5) fun a_7=>aq (az P H_2 3 a_7) fun v_6=>
binK P .geq 3 (.tmp 4) (.const (.int .i64 0)) v_6 (.int .i64 0) fun v_8=>
aQ v_8 true (fun k_a=>
aq (aw P 53 v_1 0) fun v_e=>
k_a v_e H_2 n_3) H_2 n_3 fun v_b H_c n_d=>
aQ v_8 true (fun k_f=>
aq (aV v_b) fun a_k=>aq (az P H_c 3 a_k) fun v_j=>
k_f v_j H_c n_d) H_c n_d fun v_g H_h n_i=>
aQ v_8 true (fun k_l=>
aq (aw P 53 v_1 1) fun v_p=>
k_l v_p H_h n_i) H_h n_i fun v_m H_n n_o=>
aQ v_8 true (fun k_q=>
aq (aV v_m) fun a_v=>aq (az P H_n 3 a_v) fun v_u=>
k_q v_u H_n n_o) H_n n_o fun v_r H_s n_t=>
aQ v_8 true (fun k_w=>
binK P .leq 3 (.tmp 8) (.tmp 10) v_g v_r fun v_10=>
k_w v_10 H_s n_t) H_s n_t fun v_x H_y n_z=>
aq (fy v_8 v_x (.bool false)) fun v_11=>
aQ v_11 true (fun k_13=>
aq (aw P 53 v_1 1) fun v_17=>
k_13 v_17 H_y n_z) H_y n_z fun v_14 H_15 n_16=>
aQ v_11 true (fun k_18=>
aq (aV v_14) fun a_1d=>aq (az P H_15 3 a_1d) fun v_1c=>
k_18 v_1c H_15 n_16) H_15 n_16 fun v_19 H_1a n_1b=>
aQ v_11 true (fun k_1e=>
binK P .leq 3 (.tmp 15) (.const (.int .i64 1000)) v_19 (.int .i64 1000) fun v_1i=>
k_1e v_1i H_1a n_1b) H_1a n_1b fun v_1f H_1g n_1h=>
aq (fy v_11 v_1f (.bool false)) fun v_1j=>
some (v_1j,H_1g,n_1h)
noncomputable def Zw(k:Nat)(v0:Value)(H:Hp)(n:Nat):Res:=B114_0 cal k v0 H n
theorem h114_0(k:Nat)(v0:Value)(H:Hp)(n:Nat):aY P cal A (k+1) 114 [v0] H n=Zw cal k v0 H n:=by
 have h:aY P cal A (k+1) 114 [v0] H n=B114_0 cal k v0 H n:=by
  rw[bY (fn:=Go.Proofs.Try.f114) (c:=code114) (rs:=Gx) (by kernel_rfl) (by kernel_rfl) (by kernel_rfl) (by kernel_rfl)]
  kernel_rfl
 rw[h,Zw]
noncomputable def vw:Code:=dj 115
noncomputable def gJ:List ResultVar:=fk 115
noncomputable def K115_p:KR:=kD cal k 115 vw (A 115) (av P gJ) X0 (av P gJ)
noncomputable def K115_pr:KR:=kD cal k 115 (cR vw) (Lb (A 115)) (av P gJ) X0 (av P gJ)
noncomputable def Ww:KR:=kD cal k 115 (cR (cR vw)) (Lb (Lb (A 115))) (av P gJ) X0 (av P gJ)
noncomputable def K115_prrl:KR:=kD cal k 115 (cL (cR (cR vw))) (La (Lb (Lb (A 115)))) (Ww cal k) X0 (av P gJ)
noncomputable def uK(k:Nat):XR:=(upX 0 (Ww cal k) X0)
noncomputable def Hw(k:Nat)(m1:Nat):KR:=(fun T H n D=>aK P cal m1 (La (Lb (La (Lb (Lb (A 115)))))) none 115 (cL (cR (cL (cR (cR vw))))) (Ww cal k) (uK cal k) (av P gJ) (cutT (La (Lb (La (Lb (Lb (A 115)))))).c T) H n D)
noncomputable def K115_prrlrll(k:Nat)(m1:Nat):KR:=kD cal m1 115 (cL (cL (cR (cL (cR (cR vw)))))) (La (La (Lb (La (Lb (Lb (A 115))))))) (Hw cal k m1) (uK cal k) (av P gJ)
noncomputable def K115_prrlrllr(k:Nat)(m1:Nat):KR:=kD cal m1 115 (cR (cL (cL (cR (cL (cR (cR vw))))))) (Lb (La (La (Lb (La (Lb (Lb (A 115)))))))) (Hw cal k m1) (uK cal k) (av P gJ)
noncomputable def K115_prrlrllrr(k:Nat)(m1:Nat):KR:=kD cal m1 115 (cR (cR (cL (cL (cR (cL (cR (cR vw)))))))) (Lb (Lb (La (La (Lb (La (Lb (Lb (A 115))))))))) (Hw cal k m1) (uK cal k) (av P gJ)
noncomputable def K115_pxrrlrllrrl(k:Nat)(m1:Nat):XR:=(upX 1 (K115_prrlrllrr cal k m1) (uK cal k))
noncomputable def K115_prrlrllrrll(k:Nat)(m1:Nat):KR:=kD cal m1 115 (cL (cL (cR (cR (cL (cL (cR (cL (cR (cR vw)))))))))) (La (La (Lb (Lb (La (La (Lb (La (Lb (Lb (A 115))))))))))) (K115_prrlrllrr cal k m1) (K115_pxrrlrllrrl cal k m1) (av P gJ)
noncomputable def K115_prrr:KR:=kD cal k 115 (cR (cR (cR vw))) (Lb (Lb (Lb (A 115)))) (av P gJ) X0 (av P gJ)
noncomputable def E115_1(k m1:Nat):KR:=cj P cal (aK P cal m1) none 115 (cL (cL (cR (cL (cR (cR vw)))))) (La (La (Lb (La (Lb (Lb (A 115))))))) (Hw cal k m1) (uK cal k) (av P gJ)
noncomputable def R115_1(k m1:Nat):V3:=fun u4 u5 u10 H n=>aK P cal m1 (La (Lb (La (Lb (Lb (A 115)))))) none 115 (cL (cR (cL (cR (cR vw))))) (Ww cal k) (uK cal k) (av P gJ) (ts (ts (ts Tr.nil 10 u10) 5 u5) 4 u4) H n []
noncomputable def B115_1(cal:Cal)(k m1:Nat)(b1:V3)(u4 u5 u10:Value)(H:Hp)(n:Nat):Res:=
binK P .lss 3 (.tmp 10) (.const (.int .i64 8)) u10 (.int .i64 8) fun v_h=>
ifK v_h (
aq (aV u5) fun a_l=>aq (az P H 111 a_l) fun v_m=>
aq (aV u5) fun a_o=>aq (az P H 111 a_o) fun v_p=>
aq (aw P 111 u5 2) fun v_r=>
effK P [(.l 111 a_o),(.l 111 a_l)] H n (fun H_s n_t k_u=>
aX P cal 121 [] H_s n_t fun v_y H_z n_10=>
k_u v_y H_z n_10) fun v_v H_w n_x=>
effK P [(.l 111 a_o)] H_w n_x (fun H_11 n_12 k_13=>
aX P cal 120 [v_m,u10,v_v] H_11 n_12 fun v_17 H_18 n_19=>
k_13 v_17 H_18 n_19) fun v_14 H_15 n_16=>
effK P [(.l 111 a_o)] H_15 n_16 (fun H_1a n_1b k_1c=>
aX P cal 122 [] H_1a n_1b fun v_1g H_1h n_1i=>
k_1c v_1g H_1h n_1i) fun v_1d H_1e n_1f=>
aX P cal 120 [v_p,u10,v_1d] H_1e n_1f fun v_1j H_1k n_1l=>
aq (fK P 53 [(0,v_14),(1,v_1j)]) fun v_1m=>
aq (aJ P 109 v_r u10) fun v_1n=>
aq (bX P 53 v_1n v_1m H_1k) fun H_1p=>
binK P .add 3 (.tmp 10) (.const (.int .i64 1)) u10 (.int .i64 1) fun v_1q=>
b1 u4 u5 v_1q H_1p n_1l) (
aq (aV u5) fun a_1t=>aq (az P H 111 a_1t) fun v_1s=>
aq (bX P 111 u4 v_1s H) fun H_1v=>
aq (resV P (ts Tr.nil 4 u4) H_1v gJ) fun v_1w=>some (oneV v_1w,H_1v,n))
noncomputable def Zx(k m1:Nat)(b1:V3)(u4 u5 u10:Value)(H:Hp)(n:Nat):Res:=B115_1 cal k m1 b1 u4 u5 u10 H n
noncomputable def S115_1(k:Nat):Nat→V3:=fun m=>Nat.rec (motive:=fun _=>V3) (Zx cal k 0 (fun _ _ _ _ _=>none)) (fun m ih=>Zx cal k (m+1) ih) m
theorem h115_1(k m1:Nat)(u4 u5 u10:Value)(H:Hp)(n:Nat):labK (E115_1 cal k m1) (ts (ts (ts Tr.nil 10 u10) 5 u5) 4 u4) H n []=Zx cal k m1 (R115_1 cal k m1) u4 u5 u10 H n:=by
 refine Eq.trans (b:=B115_1 cal k m1 (R115_1 cal k m1) u4 u5 u10 H n) (by kernel_rfl) ?_
 rw[Zx]
theorem q115_1(k:Nat):∀(m:Nat) (u4 u5 u10:Value) (H:Hp) (n:Nat),labK (E115_1 cal k m) (ts (ts (ts Tr.nil 10 u10) 5 u5) 4 u4) H n []=S115_1 cal k m u4 u5 u10 H n
 | 0,u4,u5,u10,H,n=>by
  rw[h115_1]
  have e:R115_1 cal k 0=fun _ _ _ _ _=>none:=by funext u4 u5 u10 H n; kernel_rfl
  rw[e]; rfl
 | m+1,u4,u5,u10,H,n=>by
  rw[h115_1]
  have e:R115_1 cal k (m+1)=S115_1 cal k m:=by
   funext u4 u5 u10 H n
   have e:R115_1 cal k (m+1) u4 u5 u10 H n=labK (E115_1 cal k m) (ts (ts (ts Tr.nil 10 u10) 5 u5) 4 u4) H n []:=by kernel_rfl
   rw[e]; exact q115_1 ..
  rw[e]; rfl
noncomputable def B115_0(cal:Cal)(k:Nat)(j1:V3)(v0 v1:Value)(H:Hp)(n:Nat):Res:=
boxK 109 v1 H n fun v_1 H_2 n_3=>
eQ P 111 H_2 n_3 fun v_4 H_5 n_6=>
aq (aV v_1) fun a_9=>aq (az P H_5 109 a_9) fun v_8=>
aq (fK P 111 [(0,v0),(1,v_8)]) fun v_a=>
eQ P 111 H_5 n_6 fun v_b H_c n_d=>
aq (bX P 111 v_b v_a H_c) fun H_f=>
j1 v_4 v_b (.int .i64 0) H_f n_d
noncomputable def Zy(k:Nat)(v0 v1:Value)(H:Hp)(n:Nat):Res:=B115_0 cal k (S115_1 cal k k) v0 v1 H n
theorem h115_0(k:Nat)(v0 v1:Value)(H:Hp)(n:Nat):aY P cal A (k+1) 115 [v0,v1] H n=Zy cal k v0 v1 H n:=by
 have h:aY P cal A (k+1) 115 [v0,v1] H n=B115_0 cal k (fun u4 u5 u10 H n=>labK (E115_1 cal k k) (ts (ts (ts Tr.nil 10 u10) 5 u5) 4 u4) H n []) v0 v1 H n:=by
  rw[bY (fn:=Go.Proofs.Try.f115) (c:=vw) (rs:=gJ) (by kernel_rfl) (by kernel_rfl) (by kernel_rfl) (by kernel_rfl)]
  kernel_rfl
 rw[h,Zy]
 have e1:(fun u4 u5 u10 H n=>labK (E115_1 cal k k) (ts (ts (ts Tr.nil 10 u10) 5 u5) 4 u4) H n [])=(S115_1 cal k k):=by funext u4 u5 u10 H n; exact q115_1 ..
 rw[e1]
noncomputable def Rk:Code:=dj 116
noncomputable def oV:List ResultVar:=fk 116
noncomputable def K116_p:KR:=kD cal k 116 Rk (A 116) (av P oV) X0 (av P oV)
noncomputable def K116_pr:KR:=kD cal k 116 (cR Rk) (Lb (A 116)) (av P oV) X0 (av P oV)
noncomputable def K116_prr:KR:=kD cal k 116 (cR (cR Rk)) (Lb (Lb (A 116))) (av P oV) X0 (av P oV)
noncomputable def K116_prrr:KR:=kD cal k 116 (cR (cR (cR Rk))) (Lb (Lb (Lb (A 116)))) (av P oV) X0 (av P oV)
noncomputable def K116_prrrr:KR:=kD cal k 116 (cR (cR (cR (cR Rk)))) (Lb (Lb (Lb (Lb (A 116))))) (av P oV) X0 (av P oV)
noncomputable def B116_0(cal:Cal)(k:Nat)(v0:Value)(H:Hp)(n:Nat):Res:=
boxK 160 v0 H n fun v_1 H_2 n_3=>
eQ P 179 H_2 n_3 fun v_5 H_6 n_7=>
eQ P 180 H_6 n_7 fun v_8 H_9 n_a=>
aq (bX P 180 v_8 (Value.func (Fn.func 123) ⟨[]⟩ ⟨[v_5,v_1,v_8]⟩) H_9) fun H_d=>
aq (aV v_8) fun a_f=>aq (az P H_d 180 a_f) fun v_e=>
lQ P cal v_e [(.int .i64 16),(.int .i64 8000)] H_d n_a fun v_g H_h n_i=>
some (v_g,H_h,n_i)
noncomputable def Zz(k:Nat)(v0:Value)(H:Hp)(n:Nat):Res:=B116_0 cal k v0 H n
theorem h116_0(k:Nat)(v0:Value)(H:Hp)(n:Nat):aY P cal A (k+1) 116 [v0] H n=Zz cal k v0 H n:=by
 have h:aY P cal A (k+1) 116 [v0] H n=B116_0 cal k v0 H n:=by
  rw[bY (fn:=Go.Proofs.Try.f116) (c:=Rk) (rs:=oV) (by kernel_rfl) (by kernel_rfl) (by kernel_rfl) (by kernel_rfl)]
  kernel_rfl
 rw[h,Zz]
noncomputable def wK:Code:=dj 119
noncomputable def jq:List ResultVar:=fk 119
noncomputable def K119_p:KR:=kD cal k 119 wK (A 119) (av P jq) X0 (av P jq)
noncomputable def K119_pl:KR:=kD cal k 119 (cL wK) (La (A 119)) (K119_p cal k) X0 (av P jq)
noncomputable def K119_pr:KR:=kD cal k 119 (cR wK) (Lb (A 119)) (av P jq) X0 (av P jq)
noncomputable def BY(cal:Cal)(k:Nat):XR:=(upX 0 (av P jq) X0)
noncomputable def RJ(k:Nat)(m1:Nat):KR:=(fun T H n D=>aK P cal m1 (La (Lb (Lb (A 119)))) none 119 (cL (cR (cR wK))) (av P jq) (BY cal k) (av P jq) (cutT (La (Lb (Lb (A 119)))).c T) H n D)
noncomputable def K119_prrll(k:Nat)(m1:Nat):KR:=kD cal m1 119 (cL (cL (cR (cR wK)))) (La (La (Lb (Lb (A 119))))) (RJ cal k m1) (BY cal k) (av P jq)
noncomputable def K119_prrllr(k:Nat)(m1:Nat):KR:=kD cal m1 119 (cR (cL (cL (cR (cR wK))))) (Lb (La (La (Lb (Lb (A 119)))))) (RJ cal k m1) (BY cal k) (av P jq)
noncomputable def Mq(k:Nat)(m1:Nat):KR:=kD cal m1 119 (cR (cR (cL (cL (cR (cR wK)))))) (Lb (Lb (La (La (Lb (Lb (A 119))))))) (RJ cal k m1) (BY cal k) (av P jq)
noncomputable def K119_pxrrllrrl(k:Nat)(m1:Nat):XR:=(upX 1 (Mq cal k m1) (BY cal k))
noncomputable def K119_prrllrrll(k:Nat)(m1:Nat):KR:=kD cal m1 119 (cL (cL (cR (cR (cL (cL (cR (cR wK)))))))) (La (La (Lb (Lb (La (La (Lb (Lb (A 119))))))))) (Mq cal k m1) (K119_pxrrllrrl cal k m1) (av P jq)
noncomputable def K119_prrllrrllr(k:Nat)(m1:Nat):KR:=kD cal m1 119 (cR (cL (cL (cR (cR (cL (cL (cR (cR wK))))))))) (Lb (La (La (Lb (Lb (La (La (Lb (Lb (A 119)))))))))) (Mq cal k m1) (K119_pxrrllrrl cal k m1) (av P jq)
noncomputable def E119_1(k m1:Nat):KR:=cj P cal (aK P cal m1) none 119 (cL (cL (cR (cR wK)))) (La (La (Lb (Lb (A 119))))) (RJ cal k m1) (BY cal k) (av P jq)
noncomputable def R119_1(k m1:Nat):V5:=fun u0 u1 u2 u14 u15 H n=>aK P cal m1 (La (Lb (Lb (A 119)))) none 119 (cL (cR (cR wK))) (av P jq) (BY cal k) (av P jq) (ts (ts (ts (ts (ts Tr.nil 15 u15) 14 u14) 2 u2) 1 u1) 0 u0) H n []
noncomputable def B119_1(cal:Cal)(k m1:Nat)(b1:V5)(u0 u1 u2 u14 u15:Value)(H:Hp)(n:Nat):Res:=
binK P .lss 3 (.tmp 15) (.tmp 14) u15 u14 fun v_h=>
ifK v_h (
aq (aV u2) fun a_k=>aq (az P H 103 a_k) fun v_l=>
aq (aV u1) fun a_m=>aq (az P H 3 a_m) fun v_n=>
aq (nilV v_l) fun v_p=>
aq (aw P 115 v_p 1) fun v_q=>
aq (aJ P 107 v_q v_n) fun v_r=>
aq (aJ P 106 v_r u15) fun v_s=>
aq (aV v_s) fun a_t=>aq (az P H 4 a_t) fun v_u=>
dJ v_u true (fun k_w=>
k_w u0 .p H n) .p H n fun v_x x_y H_z n_10=>
dJ v_u true (fun k_12=>
k_12 u15 .p H_z n_10) .p H_z n_10 fun v_13 x_14 H_15 n_16=>
dJ v_u true (fun k_18=>
lQ P cal v_x [v_13] H_15 n_16 fun v_1d H_1e n_1f=>
k_18 v_1d .e H_1e n_1f) .e H_15 n_16 fun v_19 x_1a H_1b n_1c=>
dJ v_u true (fun k_1g=>
aq (dX P v_19 (Op.unary UnOp.not v_19)) fun v_1l=>
k_1g v_1l .p H_1b n_1c) .p H_1b n_1c fun v_1h x_1i H_1j n_1k=>
aq (fy v_u v_1h (.bool false)) fun v_1m=>
ifK v_1m (
some ((Value.tuple ⟨[]⟩),H_1j,n_1k)) (
binK P .add 3 (.tmp 15) (.const (.int .i64 1)) u15 (.int .i64 1) fun v_1n=>
b1 u0 u1 u2 u14 v_1n H_1j n_1k)) (
some ((Value.tuple ⟨[]⟩),H,n))
noncomputable def Zk(k m1:Nat)(b1:V5)(u0 u1 u2 u14 u15:Value)(H:Hp)(n:Nat):Res:=B119_1 cal k m1 b1 u0 u1 u2 u14 u15 H n
noncomputable def ZJ(k:Nat):Nat→V5:=fun m=>Nat.rec (motive:=fun _=>V5) (Zk cal k 0 (fun _ _ _ _ _ _ _=>none)) (fun m ih=>Zk cal k (m+1) ih) m
theorem h119_1(k m1:Nat)(u0 u1 u2 u14 u15:Value)(H:Hp)(n:Nat):labK (E119_1 cal k m1) (ts (ts (ts (ts (ts Tr.nil 15 u15) 14 u14) 2 u2) 1 u1) 0 u0) H n []=Zk cal k m1 (R119_1 cal k m1) u0 u1 u2 u14 u15 H n:=by
 refine Eq.trans (b:=B119_1 cal k m1 (R119_1 cal k m1) u0 u1 u2 u14 u15 H n) (by kernel_rfl) ?_
 rw[Zk]
theorem q119_1(k:Nat):∀(m:Nat) (u0 u1 u2 u14 u15:Value) (H:Hp) (n:Nat),labK (E119_1 cal k m) (ts (ts (ts (ts (ts Tr.nil 15 u15) 14 u14) 2 u2) 1 u1) 0 u0) H n []=ZJ cal k m u0 u1 u2 u14 u15 H n
 | 0,u0,u1,u2,u14,u15,H,n=>by
  rw[h119_1]
  have e:R119_1 cal k 0=fun _ _ _ _ _ _ _=>none:=by funext u0 u1 u2 u14 u15 H n; kernel_rfl
  rw[e]; rfl
 | m+1,u0,u1,u2,u14,u15,H,n=>by
  rw[h119_1]
  have e:R119_1 cal k (m+1)=ZJ cal k m:=by
   funext u0 u1 u2 u14 u15 H n
   have e:R119_1 cal k (m+1) u0 u1 u2 u14 u15 H n=labK (E119_1 cal k m) (ts (ts (ts (ts (ts Tr.nil 15 u15) 14 u14) 2 u2) 1 u1) 0 u0) H n []:=by kernel_rfl
   rw[e]; exact q119_1 ..
  rw[e]; rfl
noncomputable def B119_0(cal:Cal)(k:Nat)(j1:V5)(v0 v1 v2:Value)(H:Hp)(n:Nat):Res:=
aq (aV v1) fun a_3=>aq (az P H 3 a_3) fun v_2=>
lQ P cal v0 [v_2] H n fun v_4 H_5 n_6=>
aq (dX P v_4 (Op.unary UnOp.not v_4)) fun v_7=>
ifK v_7 (
some ((Value.tuple ⟨[]⟩),H_5,n_6)) (
aq (aV v2) fun a_9=>aq (az P H_5 103 a_9) fun v_8=>
aq (nilV v_8) fun v_a=>
aq (aw P 115 v_a 0) fun v_b=>
aq (aw P 35 v_b 0) fun v_c=>
aq (aV v_c) fun a_e=>aq (az P H_5 31 a_e) fun v_d=>
aq (lenV P 31 v_d) fun v_f=>
j1 v0 v1 v2 v_f (.int .i64 0) H_5 n_6)
noncomputable def TV(k:Nat)(v0 v1 v2:Value)(H:Hp)(n:Nat):Res:=B119_0 cal k (ZJ cal k k) v0 v1 v2 H n
theorem h119_0(k:Nat)(v0 v1 v2:Value)(H:Hp)(n:Nat):aY P cal A (k+1) 119 [v0,v1,v2] H n=TV cal k v0 v1 v2 H n:=by
 have h:aY P cal A (k+1) 119 [v0,v1,v2] H n=B119_0 cal k (fun u0 u1 u2 u14 u15 H n=>labK (E119_1 cal k k) (ts (ts (ts (ts (ts Tr.nil 15 u15) 14 u14) 2 u2) 1 u1) 0 u0) H n []) v0 v1 v2 H n:=by
  rw[bY (fn:=Go.Proofs.Try.f119) (c:=wK) (rs:=jq) (by kernel_rfl) (by kernel_rfl) (by kernel_rfl) (by kernel_rfl)]
  kernel_rfl
 rw[h,TV]
 have e1:(fun u0 u1 u2 u14 u15 H n=>labK (E119_1 cal k k) (ts (ts (ts (ts (ts Tr.nil 15 u15) 14 u14) 2 u2) 1 u1) 0 u0) H n [])=(ZJ cal k k):=by funext u0 u1 u2 u14 u15 H n; exact q119_1 ..
 rw[e1]
noncomputable def qgj:Code:=dj 120
noncomputable def xK:List ResultVar:=fk 120
noncomputable def K120_p:KR:=kD cal k 120 qgj (A 120) (av P xK) X0 (av P xK)
noncomputable def K120_pr:KR:=kD cal k 120 (cR qgj) (Lb (A 120)) (av P xK) X0 (av P xK)
noncomputable def K120_prr:KR:=kD cal k 120 (cR (cR qgj)) (Lb (Lb (A 120))) (av P xK) X0 (av P xK)
noncomputable def B120_0(cal:Cal)(k:Nat)(v0 v1 v2:Value)(H:Hp)(n:Nat):Res:=
boxK 111 v0 H n fun v_1 H_2 n_3=>
boxK 177 v2 H_2 n_3 fun v_4 H_5 n_6=>
aq (aV v_1) fun a_8=>aq (az P H_5 111 a_8) fun v_9=>
aq (aw P 177 v_4 1) fun v_a=>
aq (aV v_a) fun a_b=>aq (az P H_5 127 a_b) fun v_c=>
aq (aw P 177 v_4 1) fun v_d=>
aq (aV v_d) fun a_e=>aq (az P H_5 127 a_e) fun v_f=>
aq (aw P 111 v_1 1) fun v_h=>
aq (aJ P 109 v_h v1) fun v_i=>
aq (aV v_i) fun a_j=>aq (az P H_5 53 a_j) fun v_k=>
effK P [(.l 53 a_j),(.l 127 a_e)] H_5 n_6 (fun H_l n_m k_n=>
aX P cal 98 [v_9,v_c] H_l n_m fun v_r H_s n_t=>
k_n v_r H_s n_t) fun v_o H_p n_q=>
lQ P cal v_f [v_k] H_p n_q fun v_u H_v n_w=>
binK P .sub 3 (.tmp 11) (.tmp 18) v_o v_u fun v_x=>
aq (aw P 177 v_4 2) fun v_z=>
aq (aV v_z) fun a_10=>aq (az P H_v 158 a_10) fun v_11=>
aq (aw P 177 v_4 0) fun v_12=>
aq (aV v_12) fun a_13=>aq (az P H_v 127 a_13) fun v_14=>
aq (aw P 111 v_1 1) fun v_16=>
aq (aJ P 109 v_16 v1) fun v_17=>
aq (aV v_17) fun a_18=>aq (az P H_v 53 a_18) fun v_19=>
aq (aw P 111 v_1 0) fun v_1a=>
aq (aV v_1a) fun a_1b=>aq (az P H_v 3 a_1b) fun v_1c=>
binK P .sub 3 (.tmp 30) (.tmp 31) v_1c v_x fun v_1e=>
aq (zj P 44 1 [(0,v_1e)]) fun q_1h=>newK q_1h.1 q_1h.2 H_v n_w fun H_1f n_1g=>
effK P [(.a n_w q_1h.1 q_1h.2),(.l 3 a_1b),(.l 158 a_10)] H_1f n_1g (fun H_1i n_1j k_1k=>
lQ P cal v_14 [v_19] H_1i n_1j fun v_1o H_1p n_1q=>
k_1k v_1o H_1p n_1q) fun v_1l H_1m n_1n=>
lQ P cal v_11 [v_1l,(.slice (some ⟨n_w,0,none⟩) 1 1)] H_1m n_1n fun v_1r H_1s n_1t=>
some (v_1r,H_1s,n_1t)
noncomputable def ZQ(k:Nat)(v0 v1 v2:Value)(H:Hp)(n:Nat):Res:=B120_0 cal k v0 v1 v2 H n
theorem h120_0(k:Nat)(v0 v1 v2:Value)(H:Hp)(n:Nat):aY P cal A (k+1) 120 [v0,v1,v2] H n=ZQ cal k v0 v1 v2 H n:=by
 have h:aY P cal A (k+1) 120 [v0,v1,v2] H n=B120_0 cal k v0 v1 v2 H n:=by
  rw[bY (fn:=Go.Proofs.Try.f120) (c:=qgj) (rs:=xK) (by kernel_rfl) (by kernel_rfl) (by kernel_rfl) (by kernel_rfl)]
  kernel_rfl
 rw[h,ZQ]
noncomputable def code121:Code:=dj 121
noncomputable def yj:List ResultVar:=fk 121
noncomputable def K121_p:KR:=kD cal k 121 code121 (A 121) (av P yj) X0 (av P yj)
noncomputable def K121_pr:KR:=kD cal k 121 (cR code121) (Lb (A 121)) (av P yj) X0 (av P yj)
noncomputable def B121_0(cal:Cal)(k:Nat)(H:Hp)(n:Nat):Res:=
eQ P 177 H n fun v_1 H_2 n_3=>
aq (fK P 177 [(0,(Value.func (.func 72) #[] #[])),(1,(Value.func (.func 73) #[] #[])),(2,(Value.func (.func 106) #[] #[]))]) fun v_4=>
aq (bX P 177 v_1 v_4 H_2) fun H_6=>
aq (resV P (Tr.set Tr.nil 0 (some v_1)) H_6 yj) fun v_7=>some (oneV v_7,H_6,n_3)
noncomputable def ZV(k:Nat)(H:Hp)(n:Nat):Res:=B121_0 cal k  H n
theorem h121_0(k:Nat)(H:Hp)(n:Nat):aY P cal A (k+1) 121 [] H n=ZV cal k  H n:=by
 have h:aY P cal A (k+1) 121 [] H n=B121_0 cal k  H n:=by
  rw[bY (fn:=Go.Proofs.Try.f121) (c:=code121) (rs:=yj) (by kernel_rfl) (by kernel_rfl) (by kernel_rfl) (by kernel_rfl)]
  kernel_rfl
 rw[h,ZV]
noncomputable def code122:Code:=dj 122
noncomputable def yq:List ResultVar:=fk 122
noncomputable def K122_p:KR:=kD cal k 122 code122 (A 122) (av P yq) X0 (av P yq)
noncomputable def K122_pr:KR:=kD cal k 122 (cR code122) (Lb (A 122)) (av P yq) X0 (av P yq)
noncomputable def B122_0(cal:Cal)(k:Nat)(H:Hp)(n:Nat):Res:=
eQ P 177 H n fun v_1 H_2 n_3=>
aq (fK P 177 [(0,(Value.func (.func 73) #[] #[])),(1,(Value.func (.func 72) #[] #[])),(2,(Value.func (.func 105) #[] #[]))]) fun v_4=>
aq (bX P 177 v_1 v_4 H_2) fun H_6=>
aq (resV P (Tr.set Tr.nil 0 (some v_1)) H_6 yq) fun v_7=>some (oneV v_7,H_6,n_3)
noncomputable def ZW(k:Nat)(H:Hp)(n:Nat):Res:=B122_0 cal k  H n
theorem h122_0(k:Nat)(H:Hp)(n:Nat):aY P cal A (k+1) 122 [] H n=ZW cal k  H n:=by
 have h:aY P cal A (k+1) 122 [] H n=B122_0 cal k  H n:=by
  rw[bY (fn:=Go.Proofs.Try.f122) (c:=code122) (rs:=yq) (by kernel_rfl) (by kernel_rfl) (by kernel_rfl) (by kernel_rfl)]
  kernel_rfl
 rw[h,ZW]
noncomputable def jK:Code:=dj 123
noncomputable def dq:List ResultVar:=fk 123
noncomputable def K123_p:KR:=kD cal k 123 jK (A 123) (av P dq) X0 (av P dq)
noncomputable def K123_pr:KR:=kD cal k 123 (cR jK) (Lb (A 123)) (av P dq) X0 (av P dq)
noncomputable def K123_prl:KR:=kD cal k 123 (cL (cR jK)) (La (Lb (A 123))) (K123_pr cal k) X0 (av P dq)
noncomputable def K123_prlrl:KR:=kD cal k 123 (cL (cR (cL (cR jK)))) (La (Lb (La (Lb (A 123))))) (K123_pr cal k) X0 (av P dq)
noncomputable def K123_prr:KR:=kD cal k 123 (cR (cR jK)) (Lb (Lb (A 123))) (av P dq) X0 (av P dq)
noncomputable def RQ:KR:=kD cal k 123 (cR (cR (cR jK))) (Lb (Lb (Lb (A 123)))) (av P dq) X0 (av P dq)
noncomputable def K123_prrrl:KR:=kD cal k 123 (cL (cR (cR (cR jK)))) (La (Lb (Lb (Lb (A 123))))) (RQ cal k) X0 (av P dq)
noncomputable def qz(k:Nat):XR:=(upX 0 (RQ cal k) X0)
noncomputable def Av(k:Nat)(m1:Nat):KR:=(fun T H n D=>aK P cal m1 (La (Lb (La (Lb (Lb (Lb (A 123))))))) none 123 (cL (cR (cL (cR (cR (cR jK)))))) (RQ cal k) (qz cal k) (av P dq) (cutT (La (Lb (La (Lb (Lb (Lb (A 123))))))).c T) H n D)
noncomputable def K123_prrrlrll(k:Nat)(m1:Nat):KR:=kD cal m1 123 (cL (cL (cR (cL (cR (cR (cR jK))))))) (La (La (Lb (La (Lb (Lb (Lb (A 123)))))))) (Av cal k m1) (qz cal k) (av P dq)
noncomputable def K123_prrrlrllr(k:Nat)(m1:Nat):KR:=kD cal m1 123 (cR (cL (cL (cR (cL (cR (cR (cR jK)))))))) (Lb (La (La (Lb (La (Lb (Lb (Lb (A 123))))))))) (Av cal k m1) (qz cal k) (av P dq)
noncomputable def kj(k:Nat)(m1:Nat):KR:=kD cal m1 123 (cR (cR (cL (cL (cR (cL (cR (cR (cR jK))))))))) (Lb (Lb (La (La (Lb (La (Lb (Lb (Lb (A 123)))))))))) (Av cal k m1) (qz cal k) (av P dq)
noncomputable def ik(k:Nat)(m1:Nat):XR:=(upX 1 (kj cal k m1) (qz cal k))
noncomputable def K123_prrrlrllrrll(k:Nat)(m1:Nat):KR:=kD cal m1 123 (cL (cL (cR (cR (cL (cL (cR (cL (cR (cR (cR jK))))))))))) (La (La (Lb (Lb (La (La (Lb (La (Lb (Lb (Lb (A 123)))))))))))) (kj cal k m1) (ik cal k m1) (av P dq)
noncomputable def K123_prrrlrllrrllr(k:Nat)(m1:Nat):KR:=kD cal m1 123 (cR (cL (cL (cR (cR (cL (cL (cR (cL (cR (cR (cR jK)))))))))))) (Lb (La (La (Lb (Lb (La (La (Lb (La (Lb (Lb (Lb (A 123))))))))))))) (kj cal k m1) (ik cal k m1) (av P dq)
noncomputable def K123_prrrlrllrrllrr(k:Nat)(m1:Nat):KR:=kD cal m1 123 (cR (cR (cL (cL (cR (cR (cL (cL (cR (cL (cR (cR (cR jK))))))))))))) (Lb (Lb (La (La (Lb (Lb (La (La (Lb (La (Lb (Lb (Lb (A 123)))))))))))))) (kj cal k m1) (ik cal k m1) (av P dq)
noncomputable def K123_prrrlrllrrllrrl(k:Nat)(m1:Nat):KR:=kD cal m1 123 (cL (cR (cR (cL (cL (cR (cR (cL (cL (cR (cL (cR (cR (cR jK)))))))))))))) (La (Lb (Lb (La (La (Lb (Lb (La (La (Lb (La (Lb (Lb (Lb (A 123))))))))))))))) (K123_prrrlrllrrllrr cal k m1) (ik cal k m1) (av P dq)
noncomputable def K123_prrrlrllrrllrrr(k:Nat)(m1:Nat):KR:=kD cal m1 123 (cR (cR (cR (cL (cL (cR (cR (cL (cL (cR (cL (cR (cR (cR jK)))))))))))))) (Lb (Lb (Lb (La (La (Lb (Lb (La (La (Lb (La (Lb (Lb (Lb (A 123))))))))))))))) (kj cal k m1) (ik cal k m1) (av P dq)
noncomputable def K123_prrrlrllrrllrrrr(k:Nat)(m1:Nat):KR:=kD cal m1 123 (cR (cR (cR (cR (cL (cL (cR (cR (cL (cL (cR (cL (cR (cR (cR jK))))))))))))))) (Lb (Lb (Lb (Lb (La (La (Lb (Lb (La (La (Lb (La (Lb (Lb (Lb (A 123)))))))))))))))) (kj cal k m1) (ik cal k m1) (av P dq)
noncomputable def K123_prrrlrllrrllrrrrrl(k:Nat)(m1:Nat):KR:=kD cal m1 123 (cL (cR (cR (cR (cR (cR (cL (cL (cR (cR (cL (cL (cR (cL (cR (cR (cR jK))))))))))))))))) (La (Lb (Lb (Lb (Lb (Lb (La (La (Lb (Lb (La (La (Lb (La (Lb (Lb (Lb (A 123)))))))))))))))))) (kj cal k m1) (ik cal k m1) (av P dq)
noncomputable def K123_prrrlrllrrllrrrrrlr(k:Nat)(m1:Nat):KR:=kD cal m1 123 (cR (cL (cR (cR (cR (cR (cR (cL (cL (cR (cR (cL (cL (cR (cL (cR (cR (cR jK)))))))))))))))))) (Lb (La (Lb (Lb (Lb (Lb (Lb (La (La (Lb (Lb (La (La (Lb (La (Lb (Lb (Lb (A 123))))))))))))))))))) (kj cal k m1) (ik cal k m1) (av P dq)
noncomputable def K123_prrrlrllrrllrrrrrlrr(k:Nat)(m1:Nat):KR:=kD cal m1 123 (cR (cR (cL (cR (cR (cR (cR (cR (cL (cL (cR (cR (cL (cL (cR (cL (cR (cR (cR jK))))))))))))))))))) (Lb (Lb (La (Lb (Lb (Lb (Lb (Lb (La (La (Lb (Lb (La (La (Lb (La (Lb (Lb (Lb (A 123)))))))))))))))))))) (kj cal k m1) (ik cal k m1) (av P dq)
noncomputable def K123_prrrr:KR:=kD cal k 123 (cR (cR (cR (cR jK)))) (Lb (Lb (Lb (Lb (A 123))))) (av P dq) X0 (av P dq)
noncomputable def E123_2(k m1:Nat):KR:=cj P cal (aK P cal m1) none 123 (cR (cR (cR (cL (cL (cR (cL (cR (cR (cR jK)))))))))) (Lb (Lb (Lb (La (La (Lb (La (Lb (Lb (Lb (A 123))))))))))) (Av cal k m1) (qz cal k) (av P dq)
noncomputable def E123_1(k m1:Nat):KR:=cj P cal (aK P cal m1) none 123 (cL (cL (cR (cL (cR (cR (cR jK))))))) (La (La (Lb (La (Lb (Lb (Lb (A 123)))))))) (Av cal k m1) (qz cal k) (av P dq)
noncomputable def OK(k m1:Nat):V6:=fun u0 u1 u2 u3 u4 u16 H n=>aK P cal m1 (La (Lb (La (Lb (Lb (Lb (A 123))))))) none 123 (cL (cR (cL (cR (cR (cR jK)))))) (RQ cal k) (qz cal k) (av P dq) (ts (ts (ts (ts (ts (ts Tr.nil 16 u16) 4 u4) 3 u3) 2 u2) 1 u1) 0 u0) H n []
noncomputable def B123_2(cal:Cal)(k m1:Nat)(b1:V6)(u0 u1 u2 u3 u4 u16:Value)(H:Hp)(n:Nat):Res:=
binK P .add 3 (.tmp 16) (.const (.int .i64 1)) u16 (.int .i64 1) fun v_c=>
b1 u0 u1 u2 u3 u4 v_c H n
noncomputable def ZX(k m1:Nat)(b1:V6)(u0 u1 u2 u3 u4 u16:Value)(H:Hp)(n:Nat):Res:=B123_2 cal k m1 b1 u0 u1 u2 u3 u4 u16 H n
theorem h123_2(k m1:Nat)(u0 u1 u2 u3 u4 u16:Value)(H:Hp)(n:Nat):labK (E123_2 cal k m1) (ts (ts (ts (ts (ts (ts Tr.nil 16 u16) 4 u4) 3 u3) 2 u2) 1 u1) 0 u0) H n []=ZX cal k m1 (OK cal k m1) u0 u1 u2 u3 u4 u16 H n:=by
 refine Eq.trans (b:=B123_2 cal k m1 (OK cal k m1) u0 u1 u2 u3 u4 u16 H n) (by kernel_rfl) ?_
 rw[ZX]
noncomputable def B123_1(cal:Cal)(k m1:Nat)(j2:V6)(b1:V6)(u0 u1 u2 u3 u4 u16:Value)(H:Hp)(n:Nat):Res:=
binK P .lss 3 (.tmp 16) (.const (.int .i64 18)) u16 (.int .i64 18) fun v_b=>
ifK v_b (
aq (aV u3) fun a_h=>aq (az P H 160 a_h) fun v_g=>
aq (fK P 162 [(0,u0),(1,u16)]) fun v_k=>
aq (lk P H 160 v_g v_k false) fun v_l=>
binK P .eql 3 (.tmp 24) (.const (.int .i64 0)) v_l (.int .i64 0) fun v_o=>
aQ v_o false (fun k_q=>
k_q u16 H n) H n fun v_r H_s n_t=>
aQ v_o false (fun k_v=>
aq (aJ P 179 u2 v_r) fun v_z=>
k_v v_z H_s n_t) H_s n_t fun v_w H_x n_y=>
aQ v_o false (fun k_10=>
aq (aV v_w) fun a_15=>aq (az P H_x 4 a_15) fun v_14=>
k_10 v_14 H_x n_y) H_x n_y fun v_11 H_12 n_13=>
aq (fy v_o (.bool true) v_11) fun v_16=>
ifK v_16 (
j2 u0 u1 u2 u3 u4 u16 H_12 n_13) (
aq (aV u4) fun a_17=>aq (az P H_12 180 a_17) fun v_18=>
aq (zj P 44 1 [(0,v_l)]) fun q_1e=>newK q_1e.1 q_1e.2 H_12 n_13 fun H_1c n_1d=>
effK P [(.l 180 a_17)] H_1c n_1d (fun H_1f n_1g k_1h=>
aX P cal 105 [u1,(.slice (some ⟨n_13,0,none⟩) 1 1)] H_1f n_1g fun v_1l H_1m n_1n=>
k_1h v_1l H_1m n_1n) fun v_1i H_1j n_1k=>
lQ P cal v_18 [u16,v_1i] H_1j n_1k fun v_1o H_1p n_1q=>
binK P .gtr 3 (.tmp 38) (.const (.int .i64 0)) v_1o (.int .i64 0) fun v_1t=>
ifK v_1t (
aq (aV u3) fun a_1u=>aq (az P H_1p 160 a_1u) fun v_1v=>
aq (fK P 162 [(0,u0),(1,u16)]) fun v_1y=>
aq (lk P H_1p 160 v_1v v_1y false) fun v_1z=>
binK P .sub 3 (.tmp 44) (.tmp 45) v_1z v_1o fun v_21=>
effK P [(.m 160 v_1v v_1y false v_1z)] H_1p n_1q (fun H_22 n_23 k_24=>
aq (Dk P 160 v_1v v_1y H_22) fun r_29=>
k_24 r_29.1 r_29.2 n_23) fun v_25 H_26 n_27=>
aq (tupV v_25 1) fun v_2a=>
aq (MV v_1v v_2a v_21 H_26) fun H_2c=>
aq (aV u3) fun a_2d=>aq (az P H_2c 160 a_2d) fun v_2e=>
aq (fK P 162 [(0,u16),(1,u0)]) fun v_2h=>
aq (lk P H_2c 160 v_2e v_2h false) fun v_2i=>
binK P .add 3 (.tmp 53) (.tmp 54) v_2i v_1o fun v_2k=>
effK P [(.m 160 v_2e v_2h false v_2i)] H_2c n_27 (fun H_2l n_2m k_2n=>
aq (Dk P 160 v_2e v_2h H_2l) fun r_2s=>
k_2n r_2s.1 r_2s.2 n_2m) fun v_2o H_2p n_2q=>
aq (tupV v_2o 1) fun v_2t=>
aq (MV v_2e v_2t v_2k H_2p) fun H_2v=>
some (v_1o,H_2v,n_2q)) (
j2 u0 u1 u2 u3 u4 u16 H_1p n_1q))) (
some ((.int .i64 0),H,n))
noncomputable def ZY(k m1:Nat)(b1:V6)(u0 u1 u2 u3 u4 u16:Value)(H:Hp)(n:Nat):Res:=B123_1 cal k m1 (ZX cal k m1 b1) b1 u0 u1 u2 u3 u4 u16 H n
noncomputable def ZZ(k:Nat):Nat→V6:=fun m=>Nat.rec (motive:=fun _=>V6) (ZY cal k 0 (fun _ _ _ _ _ _ _ _=>none)) (fun m ih=>ZY cal k (m+1) ih) m
theorem h123_1(k m1:Nat)(u0 u1 u2 u3 u4 u16:Value)(H:Hp)(n:Nat):labK (E123_1 cal k m1) (ts (ts (ts (ts (ts (ts Tr.nil 16 u16) 4 u4) 3 u3) 2 u2) 1 u1) 0 u0) H n []=ZY cal k m1 (OK cal k m1) u0 u1 u2 u3 u4 u16 H n:=by
 refine Eq.trans (b:=B123_1 cal k m1 (fun u0 u1 u2 u3 u4 u16 H n=>labK (E123_2 cal k m1) (ts (ts (ts (ts (ts (ts Tr.nil 16 u16) 4 u4) 3 u3) 2 u2) 1 u1) 0 u0) H n []) (OK cal k m1) u0 u1 u2 u3 u4 u16 H n) (by kernel_rfl) ?_
 rw[ZY]
 have e2:(fun u0 u1 u2 u3 u4 u16 H n=>labK (E123_2 cal k m1) (ts (ts (ts (ts (ts (ts Tr.nil 16 u16) 4 u4) 3 u3) 2 u2) 1 u1) 0 u0) H n [])=(ZX cal k m1 (OK cal k m1)):=by funext u0 u1 u2 u3 u4 u16 H n; exact h123_2 ..
 rw[e2]
theorem q123_1(k:Nat):∀(m:Nat) (u0 u1 u2 u3 u4 u16:Value) (H:Hp) (n:Nat),labK (E123_1 cal k m) (ts (ts (ts (ts (ts (ts Tr.nil 16 u16) 4 u4) 3 u3) 2 u2) 1 u1) 0 u0) H n []=ZZ cal k m u0 u1 u2 u3 u4 u16 H n
 | 0,u0,u1,u2,u3,u4,u16,H,n=>by
  rw[h123_1]
  have e:OK cal k 0=fun _ _ _ _ _ _ _ _=>none:=by funext u0 u1 u2 u3 u4 u16 H n; kernel_rfl
  rw[e]; rfl
 | m+1,u0,u1,u2,u3,u4,u16,H,n=>by
  rw[h123_1]
  have e:OK cal k (m+1)=ZZ cal k m:=by
   funext u0 u1 u2 u3 u4 u16 H n
   have e:OK cal k (m+1) u0 u1 u2 u3 u4 u16 H n=labK (E123_1 cal k m) (ts (ts (ts (ts (ts (ts Tr.nil 16 u16) 4 u4) 3 u3) 2 u2) 1 u1) 0 u0) H n []:=by kernel_rfl
   rw[e]; exact q123_1 ..
  rw[e]; rfl
noncomputable def B123_0(cal:Cal)(k:Nat)(j1:V6)(v0 v1 v2 v3 v4:Value)(H:Hp)(n:Nat):Res:=
binK P .eql 3 (.tmp 11) (.const (.int .i64 17)) v0 (.int .i64 17) fun v_3=>
ifK v_3 (
some (v1,H,n)) (
aq (aJ P 179 v2 v0) fun v_7=>
aq (bX P 4 v_7 (.bool true) H) fun H_9=>
j1 v0 v1 v2 v3 v4 (.int .i64 0) H_9 n)
noncomputable def Pj(k:Nat)(v0 v1 v2 v3 v4:Value)(H:Hp)(n:Nat):Res:=B123_0 cal k (ZZ cal k k) v0 v1 v2 v3 v4 H n
theorem h123_0(k:Nat)(v0 v1 v2 v3 v4:Value)(H:Hp)(n:Nat):aY P cal A (k+1) 123 [v0,v1,v2,v3,v4] H n=Pj cal k v0 v1 v2 v3 v4 H n:=by
 have h:aY P cal A (k+1) 123 [v0,v1,v2,v3,v4] H n=B123_0 cal k (fun u0 u1 u2 u3 u4 u16 H n=>labK (E123_1 cal k k) (ts (ts (ts (ts (ts (ts Tr.nil 16 u16) 4 u4) 3 u3) 2 u2) 1 u1) 0 u0) H n []) v0 v1 v2 v3 v4 H n:=by
  rw[bY (fn:=Go.Proofs.Try.f123) (c:=jK) (rs:=dq) (by kernel_rfl) (by kernel_rfl) (by kernel_rfl) (by kernel_rfl)]
  kernel_rfl
 rw[h,Pj]
 have e1:(fun u0 u1 u2 u3 u4 u16 H n=>labK (E123_1 cal k k) (ts (ts (ts (ts (ts (ts Tr.nil 16 u16) 4 u4) 3 u3) 2 u2) 1 u1) 0 u0) H n [])=(ZZ cal k k):=by funext u0 u1 u2 u3 u4 u16 H n; exact q123_1 ..
 rw[e1]
end Go.Proofs.Ytmjbdjnnojfhkaa.G
