/- The texts of functions, each with the proof that the evaluator says the same. -/
import Derived.Test.YtndkmmelelchcaaH1
open Go Go.Ev
set_option maxRecDepth 1000000
set_option linter.unusedVariables false
noncomputable section
namespace Go.Proofs.Ytndkmmelelchcaa.G
noncomputable def yj:Code:=cW 91
noncomputable def jZ:List ResultVar:=eX 91
noncomputable def K91_p(cal:Cal)(k:Nat):KR:=(cutK (A 91).c (ay P cal (aw P cal k) none 91 (cR yj) (Lv.b (A 91)) (av P jZ) X0 (av P jZ)))
noncomputable def K91_pr(cal:Cal)(k:Nat):KR:=(cutK (Lv.b (A 91)).c (ay P cal (aw P cal k) none 91 (cR (cR yj)) (Lv.b (Lv.b (A 91))) (av P jZ) X0 (av P jZ)))
noncomputable def K91_prl(cal:Cal)(k:Nat):KR:=(cutK (Lv.a (Lv.b (A 91))).c (ay P cal (aw P cal k) none 91 (cR (cL (cR yj))) (Lv.b (Lv.a (Lv.b (A 91)))) (K91_pr cal k) X0 (av P jZ)))
noncomputable def zZ(cal:Cal)(k:Nat):XR:=(upX 0 (K91_pr cal k) X0)
noncomputable def PY(cal:Cal)(k:Nat)(m1:Nat):KR:=(fun T H n D=>aw P cal m1 (Lv.a (Lv.b (Lv.a (Lv.b (A 91))))) none 91 (cL (cR (cL (cR yj)))) (K91_pr cal k) (zZ cal k) (av P jZ) (cutT (Lv.a (Lv.b (Lv.a (Lv.b (A 91))))).c T) H n D)
noncomputable def K91_prlrll(cal:Cal)(k:Nat)(m1:Nat):KR:=(cutK (Lv.a (Lv.a (Lv.b (Lv.a (Lv.b (A 91)))))).c (ay P cal (aw P cal m1) none 91 (cR (cL (cL (cR (cL (cR yj)))))) (Lv.b (Lv.a (Lv.a (Lv.b (Lv.a (Lv.b (A 91))))))) (PY cal k m1) (zZ cal k) (av P jZ)))
noncomputable def K91_prlrllr(cal:Cal)(k:Nat)(m1:Nat):KR:=(cutK (Lv.b (Lv.a (Lv.a (Lv.b (Lv.a (Lv.b (A 91))))))).c (ay P cal (aw P cal m1) none 91 (cR (cR (cL (cL (cR (cL (cR yj))))))) (Lv.b (Lv.b (Lv.a (Lv.a (Lv.b (Lv.a (Lv.b (A 91)))))))) (PY cal k m1) (zZ cal k) (av P jZ)))
noncomputable def Cx(cal:Cal)(k:Nat)(m1:Nat):KR:=(cutK (Lv.b (Lv.b (Lv.a (Lv.a (Lv.b (Lv.a (Lv.b (A 91)))))))).c (ay P cal (aw P cal m1) none 91 (cR (cR (cR (cL (cL (cR (cL (cR yj)))))))) (Lv.b (Lv.b (Lv.b (Lv.a (Lv.a (Lv.b (Lv.a (Lv.b (A 91))))))))) (PY cal k m1) (zZ cal k) (av P jZ)))
noncomputable def DZ(cal:Cal)(k:Nat)(m1:Nat):XR:=(upX 1 (Cx cal k m1) (zZ cal k))
noncomputable def K91_prlrllrrll(cal:Cal)(k:Nat)(m1:Nat):KR:=(cutK (Lv.a (Lv.a (Lv.b (Lv.b (Lv.a (Lv.a (Lv.b (Lv.a (Lv.b (A 91)))))))))).c (ay P cal (aw P cal m1) none 91 (cR (cL (cL (cR (cR (cL (cL (cR (cL (cR yj)))))))))) (Lv.b (Lv.a (Lv.a (Lv.b (Lv.b (Lv.a (Lv.a (Lv.b (Lv.a (Lv.b (A 91))))))))))) (Cx cal k m1) (DZ cal k m1) (av P jZ)))
noncomputable def K91_prlrllrrllr(cal:Cal)(k:Nat)(m1:Nat):KR:=(cutK (Lv.b (Lv.a (Lv.a (Lv.b (Lv.b (Lv.a (Lv.a (Lv.b (Lv.a (Lv.b (A 91))))))))))).c (ay P cal (aw P cal m1) none 91 (cR (cR (cL (cL (cR (cR (cL (cL (cR (cL (cR yj))))))))))) (Lv.b (Lv.b (Lv.a (Lv.a (Lv.b (Lv.b (Lv.a (Lv.a (Lv.b (Lv.a (Lv.b (A 91)))))))))))) (Cx cal k m1) (DZ cal k m1) (av P jZ)))
noncomputable def K91_prlrllrrllrrl(cal:Cal)(k:Nat)(m1:Nat):KR:=(cutK (Lv.a (Lv.b (Lv.b (Lv.a (Lv.a (Lv.b (Lv.b (Lv.a (Lv.a (Lv.b (Lv.a (Lv.b (A 91))))))))))))).c (ay P cal (aw P cal m1) none 91 (cR (cL (cR (cR (cL (cL (cR (cR (cL (cL (cR (cL (cR yj))))))))))))) (Lv.b (Lv.a (Lv.b (Lv.b (Lv.a (Lv.a (Lv.b (Lv.b (Lv.a (Lv.a (Lv.b (Lv.a (Lv.b (A 91)))))))))))))) (Cx cal k m1) (DZ cal k m1) (av P jZ)))
noncomputable def K91_prr(cal:Cal)(k:Nat):KR:=(cutK (Lv.b (Lv.b (A 91))).c (ay P cal (aw P cal k) none 91 (cR (cR (cR yj))) (Lv.b (Lv.b (Lv.b (A 91)))) (av P jZ) X0 (av P jZ)))
noncomputable def E91_1(cal:Cal)(k m1:Nat):KR:=ay P cal (aw P cal m1) none 91 (cL (cL (cR (cL (cR yj))))) (Lv.a (Lv.a (Lv.b (Lv.a (Lv.b (A 91)))))) (PY cal k m1) (zZ cal k) (av P jZ)
noncomputable def R91_1(cal:Cal)(k m1:Nat):V4:=fun u1 u7 u8 u9 H n=>aw P cal m1 (Lv.a (Lv.b (Lv.a (Lv.b (A 91))))) none 91 (cL (cR (cL (cR yj)))) (K91_pr cal k) (zZ cal k) (av P jZ) (Tr.set (Tr.set (Tr.set (Tr.set Tr.nil 9 (some u9)) 8 (some u8)) 7 (some u7)) 1 (some u1)) H n []
noncomputable def B91_1(cal:Cal)(k m1:Nat)(b1:V4)(u1 u7 u8 u9:Value)(H:Hp)(n:Nat):Res:=
binK P .lss 3 (.tmp 9) (.tmp 8) u9 u8 fun v_5=>
ifK v_5 (
aq (aV P 31 u7 u9) fun v_6=>
aq (aW v_6) fun a_8=>aq (az P H 90 a_8) fun v_7=>
dj P 90 H n fun v_9 H_a n_b=>
aq (bV P 90 v_9 v_7 H_a) fun H_d=>
aq (aW v_9) fun a_g=>aq (az P H_d 90 a_g) fun v_f=>
jy P cal u1 [v_f] H_d n_b fun v_h H_i n_j=>
aq (fY P v_h (Op.unary UnOp.not v_h)) fun v_k=>
ifK v_k (
some ((.bool false),H_i,n_j)) (
binK P .add 3 (.tmp 9) (.const (.int .i64 1)) u9 (.int .i64 1) fun v_m=>
b1 u1 u7 u8 v_m H_i n_j)) (
some ((.bool true),H,n))
noncomputable def C91_1(cal:Cal)(k m1:Nat)(b1:V4)(u1 u7 u8 u9:Value)(H:Hp)(n:Nat):Res:=B91_1 cal k m1 b1 u1 u7 u8 u9 H n
noncomputable def S91_1(cal:Cal)(k:Nat):Nat→V4:=fun m=>Nat.rec (motive:=fun _=>V4) (C91_1 cal k 0 (fun _ _ _ _ _ _=>none)) (fun m ih=>C91_1 cal k (m+1) ih) m
theorem h91_1(cal:Cal)(k m1:Nat)(u1 u7 u8 u9:Value)(H:Hp)(n:Nat):labK (E91_1 cal k m1) (Tr.set (Tr.set (Tr.set (Tr.set Tr.nil 9 (some u9)) 8 (some u8)) 7 (some u7)) 1 (some u1)) H n []=C91_1 cal k m1 (R91_1 cal k m1) u1 u7 u8 u9 H n:=by
 refine Eq.trans (b:=B91_1 cal k m1 (R91_1 cal k m1) u1 u7 u8 u9 H n) (by kernel_rfl) ?_
 rw[C91_1]
theorem q91_1(cal:Cal)(k:Nat):∀(m:Nat) (u1 u7 u8 u9:Value) (H:Hp) (n:Nat),labK (E91_1 cal k m) (Tr.set (Tr.set (Tr.set (Tr.set Tr.nil 9 (some u9)) 8 (some u8)) 7 (some u7)) 1 (some u1)) H n []=S91_1 cal k m u1 u7 u8 u9 H n
 | 0,u1,u7,u8,u9,H,n=>by
  rw[h91_1]
  have e:R91_1 cal k 0=fun _ _ _ _ _ _=>none:=by funext u1 u7 u8 u9 H n; kernel_rfl
  rw[e]; rfl
 | m+1,u1,u7,u8,u9,H,n=>by
  rw[h91_1]
  have e:R91_1 cal k (m+1)=S91_1 cal k m:=by
   funext u1 u7 u8 u9 H n
   have e:R91_1 cal k (m+1) u1 u7 u8 u9 H n=labK (E91_1 cal k m) (Tr.set (Tr.set (Tr.set (Tr.set Tr.nil 9 (some u9)) 8 (some u8)) 7 (some u7)) 1 (some u1)) H n []:=by kernel_rfl
   rw[e]; exact q91_1 ..
  rw[e]; rfl
noncomputable def B91_0(cal:Cal)(k:Nat)(j1:V4)(v0 v1:Value)(H:Hp)(n:Nat):Res:=
aq (lenV P 31 v0) fun v_3=>
j1 v1 v0 v_3 (.int .i64 0) H n
noncomputable def C91_0(cal:Cal)(k:Nat)(v0 v1:Value)(H:Hp)(n:Nat):Res:=B91_0 cal k (S91_1 cal k k) v0 v1 H n
theorem h91_0(cal:Cal)(k:Nat)(v0 v1:Value)(H:Hp)(n:Nat):aK P cal A (k+1) 91 [v0,v1] H n=C91_0 cal k v0 v1 H n:=by
 have h:aK P cal A (k+1) 91 [v0,v1] H n=B91_0 cal k (fun u1 u7 u8 u9 H n=>labK (E91_1 cal k k) (Tr.set (Tr.set (Tr.set (Tr.set Tr.nil 9 (some u9)) 8 (some u8)) 7 (some u7)) 1 (some u1)) H n []) v0 v1 H n:=by
  rw[bX (fn:=Go.Proofs.Try.f91) (c:=yj) (rs:=jZ) (by kernel_rfl) (by kernel_rfl) (by kernel_rfl) (by kernel_rfl)]
  kernel_rfl
 rw[h,C91_0]
 have e1:(fun u1 u7 u8 u9 H n=>labK (E91_1 cal k k) (Tr.set (Tr.set (Tr.set (Tr.set Tr.nil 9 (some u9)) 8 (some u8)) 7 (some u7)) 1 (some u1)) H n [])=(S91_1 cal k k):=by funext u1 u7 u8 u9 H n; exact q91_1 ..
 rw[e1]
noncomputable def code92:Code:=cW 92
noncomputable def Iz:List ResultVar:=eX 92
noncomputable def K92_p(cal:Cal)(k:Nat):KR:=(cutK (A 92).c (ay P cal (aw P cal k) none 92 (cR code92) (Lv.b (A 92)) (av P Iz) X0 (av P Iz)))
noncomputable def K92_pr(cal:Cal)(k:Nat):KR:=(cutK (Lv.b (A 92)).c (ay P cal (aw P cal k) none 92 (cR (cR code92)) (Lv.b (Lv.b (A 92))) (av P Iz) X0 (av P Iz)))
noncomputable def B92_0(cal:Cal)(k:Nat)(v0:Value)(H:Hp)(n:Nat):Res:=
boxK 90 v0 H n fun v_1 H_2 n_3=>
aq (ax P 90 v_1 0) fun v_5=>
aq (aW v_5) fun a_7=>aq (az P H_2 3 a_7) fun v_6=>
binK P .geq 3 (.tmp 4) (.const (.int .i64 0)) v_6 (.int .i64 0) fun v_8=>
aX v_8 true (fun k_a=>
aq (ax P 90 v_1 0) fun v_e=>
k_a v_e H_2 n_3) H_2 n_3 fun v_b H_c n_d=>
aX v_8 true (fun k_f=>
aq (aW v_b) fun a_k=>aq (az P H_c 3 a_k) fun v_j=>
k_f v_j H_c n_d) H_c n_d fun v_g H_h n_i=>
aX v_8 true (fun k_l=>
aq (ax P 90 v_1 1) fun v_p=>
k_l v_p H_h n_i) H_h n_i fun v_m H_n n_o=>
aX v_8 true (fun k_q=>
aq (aW v_m) fun a_v=>aq (az P H_n 3 a_v) fun v_u=>
k_q v_u H_n n_o) H_n n_o fun v_r H_s n_t=>
aX v_8 true (fun k_w=>
binK P .leq 3 (.tmp 8) (.tmp 10) v_g v_r fun v_10=>
k_w v_10 H_s n_t) H_s n_t fun v_x H_y n_z=>
aq (fJ v_8 v_x (.bool false)) fun v_11=>
aX v_11 true (fun k_13=>
aq (ax P 90 v_1 1) fun v_17=>
k_13 v_17 H_y n_z) H_y n_z fun v_14 H_15 n_16=>
aX v_11 true (fun k_18=>
aq (aW v_14) fun a_1d=>aq (az P H_15 3 a_1d) fun v_1c=>
k_18 v_1c H_15 n_16) H_15 n_16 fun v_19 H_1a n_1b=>
aX v_11 true (fun k_1e=>
binK P .leq 3 (.tmp 15) (.const (.int .i64 1000)) v_19 (.int .i64 1000) fun v_1i=>
k_1e v_1i H_1a n_1b) H_1a n_1b fun v_1f H_1g n_1h=>
aq (fJ v_11 v_1f (.bool false)) fun v_1j=>
some (v_1j,H_1g,n_1h)
noncomputable def C92_0(cal:Cal)(k:Nat)(v0:Value)(H:Hp)(n:Nat):Res:=B92_0 cal k v0 H n
theorem h92_0(cal:Cal)(k:Nat)(v0:Value)(H:Hp)(n:Nat):aK P cal A (k+1) 92 [v0] H n=C92_0 cal k v0 H n:=by
 have h:aK P cal A (k+1) 92 [v0] H n=B92_0 cal k v0 H n:=by
  rw[bX (fn:=Go.Proofs.Try.f92) (c:=code92) (rs:=Iz) (by kernel_rfl) (by kernel_rfl) (by kernel_rfl) (by kernel_rfl)]
  kernel_rfl
 rw[h,C92_0]
noncomputable def yq:Code:=cW 93
noncomputable def jK:List ResultVar:=eX 93
noncomputable def K93_p(cal:Cal)(k:Nat):KR:=(cutK (A 93).c (ay P cal (aw P cal k) none 93 (cR yq) (Lv.b (A 93)) (av P jK) X0 (av P jK)))
noncomputable def K93_pr(cal:Cal)(k:Nat):KR:=(cutK (Lv.b (A 93)).c (ay P cal (aw P cal k) none 93 (cR (cR yq)) (Lv.b (Lv.b (A 93))) (av P jK) X0 (av P jK)))
noncomputable def K93_prl(cal:Cal)(k:Nat):KR:=(cutK (Lv.a (Lv.b (A 93))).c (ay P cal (aw P cal k) none 93 (cR (cL (cR yq))) (Lv.b (Lv.a (Lv.b (A 93)))) (K93_pr cal k) X0 (av P jK)))
noncomputable def zK(cal:Cal)(k:Nat):XR:=(upX 0 (K93_pr cal k) X0)
noncomputable def PZ(cal:Cal)(k:Nat)(m1:Nat):KR:=(fun T H n D=>aw P cal m1 (Lv.a (Lv.b (Lv.a (Lv.b (A 93))))) none 93 (cL (cR (cL (cR yq)))) (K93_pr cal k) (zK cal k) (av P jK) (cutT (Lv.a (Lv.b (Lv.a (Lv.b (A 93))))).c T) H n D)
noncomputable def K93_prlrll(cal:Cal)(k:Nat)(m1:Nat):KR:=(cutK (Lv.a (Lv.a (Lv.b (Lv.a (Lv.b (A 93)))))).c (ay P cal (aw P cal m1) none 93 (cR (cL (cL (cR (cL (cR yq)))))) (Lv.b (Lv.a (Lv.a (Lv.b (Lv.a (Lv.b (A 93))))))) (PZ cal k m1) (zK cal k) (av P jK)))
noncomputable def K93_prlrllr(cal:Cal)(k:Nat)(m1:Nat):KR:=(cutK (Lv.b (Lv.a (Lv.a (Lv.b (Lv.a (Lv.b (A 93))))))).c (ay P cal (aw P cal m1) none 93 (cR (cR (cL (cL (cR (cL (cR yq))))))) (Lv.b (Lv.b (Lv.a (Lv.a (Lv.b (Lv.a (Lv.b (A 93)))))))) (PZ cal k m1) (zK cal k) (av P jK)))
noncomputable def Cy(cal:Cal)(k:Nat)(m1:Nat):KR:=(cutK (Lv.b (Lv.b (Lv.a (Lv.a (Lv.b (Lv.a (Lv.b (A 93)))))))).c (ay P cal (aw P cal m1) none 93 (cR (cR (cR (cL (cL (cR (cL (cR yq)))))))) (Lv.b (Lv.b (Lv.b (Lv.a (Lv.a (Lv.b (Lv.a (Lv.b (A 93))))))))) (PZ cal k m1) (zK cal k) (av P jK)))
noncomputable def DK(cal:Cal)(k:Nat)(m1:Nat):XR:=(upX 1 (Cy cal k m1) (zK cal k))
noncomputable def K93_prlrllrrll(cal:Cal)(k:Nat)(m1:Nat):KR:=(cutK (Lv.a (Lv.a (Lv.b (Lv.b (Lv.a (Lv.a (Lv.b (Lv.a (Lv.b (A 93)))))))))).c (ay P cal (aw P cal m1) none 93 (cR (cL (cL (cR (cR (cL (cL (cR (cL (cR yq)))))))))) (Lv.b (Lv.a (Lv.a (Lv.b (Lv.b (Lv.a (Lv.a (Lv.b (Lv.a (Lv.b (A 93))))))))))) (Cy cal k m1) (DK cal k m1) (av P jK)))
noncomputable def K93_prlrllrrllr(cal:Cal)(k:Nat)(m1:Nat):KR:=(cutK (Lv.b (Lv.a (Lv.a (Lv.b (Lv.b (Lv.a (Lv.a (Lv.b (Lv.a (Lv.b (A 93))))))))))).c (ay P cal (aw P cal m1) none 93 (cR (cR (cL (cL (cR (cR (cL (cL (cR (cL (cR yq))))))))))) (Lv.b (Lv.b (Lv.a (Lv.a (Lv.b (Lv.b (Lv.a (Lv.a (Lv.b (Lv.a (Lv.b (A 93)))))))))))) (Cy cal k m1) (DK cal k m1) (av P jK)))
noncomputable def K93_prlrllrrllrrl(cal:Cal)(k:Nat)(m1:Nat):KR:=(cutK (Lv.a (Lv.b (Lv.b (Lv.a (Lv.a (Lv.b (Lv.b (Lv.a (Lv.a (Lv.b (Lv.a (Lv.b (A 93))))))))))))).c (ay P cal (aw P cal m1) none 93 (cR (cL (cR (cR (cL (cL (cR (cR (cL (cL (cR (cL (cR yq))))))))))))) (Lv.b (Lv.a (Lv.b (Lv.b (Lv.a (Lv.a (Lv.b (Lv.b (Lv.a (Lv.a (Lv.b (Lv.a (Lv.b (A 93)))))))))))))) (Cy cal k m1) (DK cal k m1) (av P jK)))
noncomputable def K93_prr(cal:Cal)(k:Nat):KR:=(cutK (Lv.b (Lv.b (A 93))).c (ay P cal (aw P cal k) none 93 (cR (cR (cR yq))) (Lv.b (Lv.b (Lv.b (A 93)))) (av P jK) X0 (av P jK)))
noncomputable def E93_1(cal:Cal)(k m1:Nat):KR:=ay P cal (aw P cal m1) none 93 (cL (cL (cR (cL (cR yq))))) (Lv.a (Lv.a (Lv.b (Lv.a (Lv.b (A 93)))))) (PZ cal k m1) (zK cal k) (av P jK)
noncomputable def R93_1(cal:Cal)(k m1:Nat):V4:=fun u1 u7 u8 u9 H n=>aw P cal m1 (Lv.a (Lv.b (Lv.a (Lv.b (A 93))))) none 93 (cL (cR (cL (cR yq)))) (K93_pr cal k) (zK cal k) (av P jK) (Tr.set (Tr.set (Tr.set (Tr.set Tr.nil 9 (some u9)) 8 (some u8)) 7 (some u7)) 1 (some u1)) H n []
noncomputable def B93_1(cal:Cal)(k m1:Nat)(b1:V4)(u1 u7 u8 u9:Value)(H:Hp)(n:Nat):Res:=
binK P .lss 3 (.tmp 9) (.tmp 8) u9 u8 fun v_5=>
ifK v_5 (
aq (aV P 32 u7 u9) fun v_6=>
aq (aW v_6) fun a_8=>aq (az P H 88 a_8) fun v_7=>
dj P 88 H n fun v_9 H_a n_b=>
aq (bV P 88 v_9 v_7 H_a) fun H_d=>
aq (aW v_9) fun a_g=>aq (az P H_d 88 a_g) fun v_f=>
jy P cal u1 [v_f] H_d n_b fun v_h H_i n_j=>
aq (fY P v_h (Op.unary UnOp.not v_h)) fun v_k=>
ifK v_k (
some ((.bool false),H_i,n_j)) (
binK P .add 3 (.tmp 9) (.const (.int .i64 1)) u9 (.int .i64 1) fun v_m=>
b1 u1 u7 u8 v_m H_i n_j)) (
some ((.bool true),H,n))
noncomputable def C93_1(cal:Cal)(k m1:Nat)(b1:V4)(u1 u7 u8 u9:Value)(H:Hp)(n:Nat):Res:=B93_1 cal k m1 b1 u1 u7 u8 u9 H n
noncomputable def S93_1(cal:Cal)(k:Nat):Nat→V4:=fun m=>Nat.rec (motive:=fun _=>V4) (C93_1 cal k 0 (fun _ _ _ _ _ _=>none)) (fun m ih=>C93_1 cal k (m+1) ih) m
theorem h93_1(cal:Cal)(k m1:Nat)(u1 u7 u8 u9:Value)(H:Hp)(n:Nat):labK (E93_1 cal k m1) (Tr.set (Tr.set (Tr.set (Tr.set Tr.nil 9 (some u9)) 8 (some u8)) 7 (some u7)) 1 (some u1)) H n []=C93_1 cal k m1 (R93_1 cal k m1) u1 u7 u8 u9 H n:=by
 refine Eq.trans (b:=B93_1 cal k m1 (R93_1 cal k m1) u1 u7 u8 u9 H n) (by kernel_rfl) ?_
 rw[C93_1]
theorem q93_1(cal:Cal)(k:Nat):∀(m:Nat) (u1 u7 u8 u9:Value) (H:Hp) (n:Nat),labK (E93_1 cal k m) (Tr.set (Tr.set (Tr.set (Tr.set Tr.nil 9 (some u9)) 8 (some u8)) 7 (some u7)) 1 (some u1)) H n []=S93_1 cal k m u1 u7 u8 u9 H n
 | 0,u1,u7,u8,u9,H,n=>by
  rw[h93_1]
  have e:R93_1 cal k 0=fun _ _ _ _ _ _=>none:=by funext u1 u7 u8 u9 H n; kernel_rfl
  rw[e]; rfl
 | m+1,u1,u7,u8,u9,H,n=>by
  rw[h93_1]
  have e:R93_1 cal k (m+1)=S93_1 cal k m:=by
   funext u1 u7 u8 u9 H n
   have e:R93_1 cal k (m+1) u1 u7 u8 u9 H n=labK (E93_1 cal k m) (Tr.set (Tr.set (Tr.set (Tr.set Tr.nil 9 (some u9)) 8 (some u8)) 7 (some u7)) 1 (some u1)) H n []:=by kernel_rfl
   rw[e]; exact q93_1 ..
  rw[e]; rfl
noncomputable def B93_0(cal:Cal)(k:Nat)(j1:V4)(v0 v1:Value)(H:Hp)(n:Nat):Res:=
aq (lenV P 32 v0) fun v_3=>
j1 v1 v0 v_3 (.int .i64 0) H n
noncomputable def C93_0(cal:Cal)(k:Nat)(v0 v1:Value)(H:Hp)(n:Nat):Res:=B93_0 cal k (S93_1 cal k k) v0 v1 H n
theorem h93_0(cal:Cal)(k:Nat)(v0 v1:Value)(H:Hp)(n:Nat):aK P cal A (k+1) 93 [v0,v1] H n=C93_0 cal k v0 v1 H n:=by
 have h:aK P cal A (k+1) 93 [v0,v1] H n=B93_0 cal k (fun u1 u7 u8 u9 H n=>labK (E93_1 cal k k) (Tr.set (Tr.set (Tr.set (Tr.set Tr.nil 9 (some u9)) 8 (some u8)) 7 (some u7)) 1 (some u1)) H n []) v0 v1 H n:=by
  rw[bX (fn:=Go.Proofs.Try.f93) (c:=yq) (rs:=jK) (by kernel_rfl) (by kernel_rfl) (by kernel_rfl) (by kernel_rfl)]
  kernel_rfl
 rw[h,C93_0]
 have e1:(fun u1 u7 u8 u9 H n=>labK (E93_1 cal k k) (Tr.set (Tr.set (Tr.set (Tr.set Tr.nil 9 (some u9)) 8 (some u8)) 7 (some u7)) 1 (some u1)) H n [])=(S93_1 cal k k):=by funext u1 u7 u8 u9 H n; exact q93_1 ..
 rw[e1]
noncomputable def vK:Code:=cW 94
noncomputable def ik:List ResultVar:=eX 94
noncomputable def K94_p(cal:Cal)(k:Nat):KR:=(cutK (A 94).c (ay P cal (aw P cal k) none 94 (cR vK) (Lv.b (A 94)) (av P ik) X0 (av P ik)))
noncomputable def K94_pr(cal:Cal)(k:Nat):KR:=(cutK (Lv.b (A 94)).c (ay P cal (aw P cal k) none 94 (cR (cR vK)) (Lv.b (Lv.b (A 94))) (av P ik) X0 (av P ik)))
noncomputable def qeq(cal:Cal)(k:Nat):KR:=(cutK (Lv.b (Lv.b (A 94))).c (ay P cal (aw P cal k) none 94 (cR (cR (cR vK))) (Lv.b (Lv.b (Lv.b (A 94)))) (av P ik) X0 (av P ik)))
noncomputable def K94_prrl(cal:Cal)(k:Nat):KR:=(cutK (Lv.a (Lv.b (Lv.b (A 94)))).c (ay P cal (aw P cal k) none 94 (cR (cL (cR (cR vK)))) (Lv.b (Lv.a (Lv.b (Lv.b (A 94))))) (qeq cal k) X0 (av P ik)))
noncomputable def tz(cal:Cal)(k:Nat):XR:=(upX 0 (qeq cal k) X0)
noncomputable def Ej(cal:Cal)(k:Nat)(m1:Nat):KR:=(fun T H n D=>aw P cal m1 (Lv.a (Lv.b (Lv.a (Lv.b (Lv.b (A 94)))))) none 94 (cL (cR (cL (cR (cR vK))))) (qeq cal k) (tz cal k) (av P ik) (cutT (Lv.a (Lv.b (Lv.a (Lv.b (Lv.b (A 94)))))).c T) H n D)
noncomputable def K94_prrlrll(cal:Cal)(k:Nat)(m1:Nat):KR:=(cutK (Lv.a (Lv.a (Lv.b (Lv.a (Lv.b (Lv.b (A 94))))))).c (ay P cal (aw P cal m1) none 94 (cR (cL (cL (cR (cL (cR (cR vK))))))) (Lv.b (Lv.a (Lv.a (Lv.b (Lv.a (Lv.b (Lv.b (A 94)))))))) (Ej cal k m1) (tz cal k) (av P ik)))
noncomputable def K94_prrlrllr(cal:Cal)(k:Nat)(m1:Nat):KR:=(cutK (Lv.b (Lv.a (Lv.a (Lv.b (Lv.a (Lv.b (Lv.b (A 94)))))))).c (ay P cal (aw P cal m1) none 94 (cR (cR (cL (cL (cR (cL (cR (cR vK)))))))) (Lv.b (Lv.b (Lv.a (Lv.a (Lv.b (Lv.a (Lv.b (Lv.b (A 94))))))))) (Ej cal k m1) (tz cal k) (av P ik)))
noncomputable def GJ(cal:Cal)(k:Nat)(m1:Nat):KR:=(cutK (Lv.b (Lv.b (Lv.a (Lv.a (Lv.b (Lv.a (Lv.b (Lv.b (A 94))))))))).c (ay P cal (aw P cal m1) none 94 (cR (cR (cR (cL (cL (cR (cL (cR (cR vK))))))))) (Lv.b (Lv.b (Lv.b (Lv.a (Lv.a (Lv.b (Lv.a (Lv.b (Lv.b (A 94)))))))))) (Ej cal k m1) (tz cal k) (av P ik)))
noncomputable def K94_pxrrlrllrrl(cal:Cal)(k:Nat)(m1:Nat):XR:=(upX 1 (GJ cal k m1) (tz cal k))
noncomputable def K94_prrlrllrrll(cal:Cal)(k:Nat)(m1:Nat):KR:=(cutK (Lv.a (Lv.a (Lv.b (Lv.b (Lv.a (Lv.a (Lv.b (Lv.a (Lv.b (Lv.b (A 94))))))))))).c (ay P cal (aw P cal m1) none 94 (cR (cL (cL (cR (cR (cL (cL (cR (cL (cR (cR vK))))))))))) (Lv.b (Lv.a (Lv.a (Lv.b (Lv.b (Lv.a (Lv.a (Lv.b (Lv.a (Lv.b (Lv.b (A 94)))))))))))) (GJ cal k m1) (K94_pxrrlrllrrl cal k m1) (av P ik)))
noncomputable def K94_prrlrllrrllr(cal:Cal)(k:Nat)(m1:Nat):KR:=(cutK (Lv.b (Lv.a (Lv.a (Lv.b (Lv.b (Lv.a (Lv.a (Lv.b (Lv.a (Lv.b (Lv.b (A 94)))))))))))).c (ay P cal (aw P cal m1) none 94 (cR (cR (cL (cL (cR (cR (cL (cL (cR (cL (cR (cR vK)))))))))))) (Lv.b (Lv.b (Lv.a (Lv.a (Lv.b (Lv.b (Lv.a (Lv.a (Lv.b (Lv.a (Lv.b (Lv.b (A 94))))))))))))) (GJ cal k m1) (K94_pxrrlrllrrl cal k m1) (av P ik)))
noncomputable def K94_prrr(cal:Cal)(k:Nat):KR:=(cutK (Lv.b (Lv.b (Lv.b (A 94)))).c (ay P cal (aw P cal k) none 94 (cR (cR (cR (cR vK)))) (Lv.b (Lv.b (Lv.b (Lv.b (A 94))))) (av P ik) X0 (av P ik)))
noncomputable def E94_2(cal:Cal)(k m1:Nat):KR:=ay P cal (aw P cal m1) none 94 (cR (cR (cR (cL (cL (cR (cL (cR (cR vK))))))))) (Lv.b (Lv.b (Lv.b (Lv.a (Lv.a (Lv.b (Lv.a (Lv.b (Lv.b (A 94)))))))))) (Ej cal k m1) (tz cal k) (av P ik)
noncomputable def E94_1(cal:Cal)(k m1:Nat):KR:=ay P cal (aw P cal m1) none 94 (cL (cL (cR (cL (cR (cR vK)))))) (Lv.a (Lv.a (Lv.b (Lv.a (Lv.b (Lv.b (A 94))))))) (Ej cal k m1) (tz cal k) (av P ik)
noncomputable def R94_1(cal:Cal)(k m1:Nat):V6:=fun u2 u3 u5 u9 u10 u11 H n=>aw P cal m1 (Lv.a (Lv.b (Lv.a (Lv.b (Lv.b (A 94)))))) none 94 (cL (cR (cL (cR (cR vK))))) (qeq cal k) (tz cal k) (av P ik) (Tr.set (Tr.set (Tr.set (Tr.set (Tr.set (Tr.set Tr.nil 11 (some u11)) 10 (some u10)) 9 (some u9)) 5 (some u5)) 3 (some u3)) 2 (some u2)) H n []
noncomputable def B94_2(cal:Cal)(k m1:Nat)(b1:V6)(u2 u3 u5 u9 u10 u11:Value)(H:Hp)(n:Nat):Res:=
binK P .add 3 (.tmp 11) (.const (.int .i64 1)) u11 (.int .i64 1) fun v_f=>
b1 u2 u3 u5 u9 u10 v_f H n
noncomputable def C94_2(cal:Cal)(k m1:Nat)(b1:V6)(u2 u3 u5 u9 u10 u11:Value)(H:Hp)(n:Nat):Res:=B94_2 cal k m1 b1 u2 u3 u5 u9 u10 u11 H n
theorem h94_2(cal:Cal)(k m1:Nat)(u2 u3 u5 u9 u10 u11:Value)(H:Hp)(n:Nat):labK (E94_2 cal k m1) (Tr.set (Tr.set (Tr.set (Tr.set (Tr.set (Tr.set Tr.nil 11 (some u11)) 10 (some u10)) 9 (some u9)) 5 (some u5)) 3 (some u3)) 2 (some u2)) H n []=C94_2 cal k m1 (R94_1 cal k m1) u2 u3 u5 u9 u10 u11 H n:=by
 refine Eq.trans (b:=B94_2 cal k m1 (R94_1 cal k m1) u2 u3 u5 u9 u10 u11 H n) (by kernel_rfl) ?_
 rw[C94_2]
noncomputable def B94_1(cal:Cal)(k m1:Nat)(j2:V6)(b1:V6)(u2 u3 u5 u9 u10 u11:Value)(H:Hp)(n:Nat):Res:=
binK P .lss 3 (.tmp 11) (.tmp 10) u11 u10 fun v_e=>
ifK v_e (
aq (aV P 32 u9 u11) fun v_h=>
aq (aW v_h) fun a_j=>aq (az P H 88 a_j) fun v_i=>
dj P 88 H n fun v_k H_l n_m=>
aq (bV P 88 v_k v_i H_l) fun H_o=>
aq (aW v_k) fun a_q=>aq (az P H_o 88 a_q) fun v_p=>
aq (aW u3) fun a_s=>aq (az P H_o 88 a_s) fun v_r=>
binK P .eql 88 (.tmp 15) (.tmp 16) v_p v_r fun v_t=>
aX v_t false (fun k_v=>
aq (aW v_k) fun a_10=>aq (az P H_o 88 a_10) fun v_z=>
k_v v_z H_o n_m) H_o n_m fun v_w H_x n_y=>
aX v_t false (fun k_11=>
aq (ax P 88 u3 1) fun v_15=>
k_11 v_15 H_x n_y) H_x n_y fun v_12 H_13 n_14=>
aX v_t false (fun k_16=>
aq (aW v_12) fun a_1b=>aq (az P H_13 3 a_1b) fun v_1a=>
k_16 v_1a H_13 n_14) H_13 n_14 fun v_17 H_18 n_19=>
aX v_t false (fun k_1c=>
aq (ax P 88 u3 0) fun v_1g=>
k_1c v_1g H_18 n_19) H_18 n_19 fun v_1d H_1e n_1f=>
aX v_t false (fun k_1h=>
aq (aW v_1d) fun a_1m=>aq (az P H_1e 3 a_1m) fun v_1l=>
k_1h v_1l H_1e n_1f) H_1e n_1f fun v_1i H_1j n_1k=>
aX v_t false (fun k_1n=>
aq (fw P 88 [(0,v_17),(1,v_1i)]) fun v_1r=>
k_1n v_1r H_1j n_1k) H_1j n_1k fun v_1o H_1p n_1q=>
aX v_t false (fun k_1s=>
binK P .eql 88 (.tmp 19) (.tmp 24) v_w v_1o fun v_1w=>
k_1s v_1w H_1p n_1q) H_1p n_1q fun v_1t H_1u n_1v=>
aq (fJ v_t (.bool true) v_1t) fun v_1x=>
ifK v_1x (
binK P .add 3 (.tmp 27) (.const (.int .i64 1)) u5 (.int .i64 1) fun v_1z=>
j2 u2 u3 v_1z u9 u10 u11 H_1u n_1v) (
j2 u2 u3 u5 u9 u10 u11 H_1u n_1v)) (
aq (aW u2) fun a_22=>aq (az P H 35 a_22) fun v_21=>
aq (ax P 88 u3 0) fun v_23=>
aq (aW v_23) fun a_25=>aq (az P H 3 a_25) fun v_24=>
aY P cal 71 [v_21,v_24] H n fun v_26 H_27 n_28=>
aX v_26 true (fun k_2a=>
aq (aW u2) fun a_2f=>aq (az P H_27 35 a_2f) fun v_2e=>
k_2a v_2e H_27 n_28) H_27 n_28 fun v_2b H_2c n_2d=>
aX v_26 true (fun k_2g=>
aq (ax P 88 u3 1) fun v_2k=>
k_2g v_2k H_2c n_2d) H_2c n_2d fun v_2h H_2i n_2j=>
aX v_26 true (fun k_2l=>
aq (aW v_2h) fun a_2q=>aq (az P H_2i 3 a_2q) fun v_2p=>
k_2l v_2p H_2i n_2j) H_2i n_2j fun v_2m H_2n n_2o=>
aX v_26 true (fun k_2r=>
aY P cal 71 [v_2b,v_2m] H_2n n_2o fun v_2v H_2w n_2x=>
k_2r v_2v H_2w n_2x) H_2n n_2o fun v_2s H_2t n_2u=>
aq (fJ v_26 v_2s (.bool false)) fun v_2y=>
aX v_2y true (fun k_30=>
aq (ax P 88 u3 0) fun v_34=>
k_30 v_34 H_2t n_2u) H_2t n_2u fun v_31 H_32 n_33=>
aX v_2y true (fun k_35=>
aq (aW v_31) fun a_3a=>aq (az P H_32 3 a_3a) fun v_39=>
k_35 v_39 H_32 n_33) H_32 n_33 fun v_36 H_37 n_38=>
aX v_2y true (fun k_3b=>
aq (ax P 88 u3 1) fun v_3f=>
k_3b v_3f H_37 n_38) H_37 n_38 fun v_3c H_3d n_3e=>
aX v_2y true (fun k_3g=>
aq (aW v_3c) fun a_3l=>aq (az P H_3d 3 a_3l) fun v_3k=>
k_3g v_3k H_3d n_3e) H_3d n_3e fun v_3h H_3i n_3j=>
aX v_2y true (fun k_3m=>
binK P .neq 3 (.tmp 42) (.tmp 44) v_36 v_3h fun v_3q=>
k_3m v_3q H_3i n_3j) H_3i n_3j fun v_3n H_3o n_3p=>
aq (fJ v_2y v_3n (.bool false)) fun v_3r=>
aX v_3r true (fun k_3t=>
k_3t u5 H_3o n_3p) H_3o n_3p fun v_3u H_3v n_3w=>
aX v_3r true (fun k_3y=>
binK P .eql 3 (.tmp 48) (.const (.int .i64 1)) v_3u (.int .i64 1) fun v_42=>
k_3y v_42 H_3v n_3w) H_3v n_3w fun v_3z H_40 n_41=>
aq (fJ v_3r v_3z (.bool false)) fun v_43=>
some (v_43,H_40,n_41))
noncomputable def C94_1(cal:Cal)(k m1:Nat)(b1:V6)(u2 u3 u5 u9 u10 u11:Value)(H:Hp)(n:Nat):Res:=B94_1 cal k m1 (C94_2 cal k m1 b1) b1 u2 u3 u5 u9 u10 u11 H n
noncomputable def S94_1(cal:Cal)(k:Nat):Nat→V6:=fun m=>Nat.rec (motive:=fun _=>V6) (C94_1 cal k 0 (fun _ _ _ _ _ _ _ _=>none)) (fun m ih=>C94_1 cal k (m+1) ih) m
theorem h94_1(cal:Cal)(k m1:Nat)(u2 u3 u5 u9 u10 u11:Value)(H:Hp)(n:Nat):labK (E94_1 cal k m1) (Tr.set (Tr.set (Tr.set (Tr.set (Tr.set (Tr.set Tr.nil 11 (some u11)) 10 (some u10)) 9 (some u9)) 5 (some u5)) 3 (some u3)) 2 (some u2)) H n []=C94_1 cal k m1 (R94_1 cal k m1) u2 u3 u5 u9 u10 u11 H n:=by
 refine Eq.trans (b:=B94_1 cal k m1 (fun u2 u3 u5 u9 u10 u11 H n=>labK (E94_2 cal k m1) (Tr.set (Tr.set (Tr.set (Tr.set (Tr.set (Tr.set Tr.nil 11 (some u11)) 10 (some u10)) 9 (some u9)) 5 (some u5)) 3 (some u3)) 2 (some u2)) H n []) (R94_1 cal k m1) u2 u3 u5 u9 u10 u11 H n) (by kernel_rfl) ?_
 rw[C94_1]
 have e2:(fun u2 u3 u5 u9 u10 u11 H n=>labK (E94_2 cal k m1) (Tr.set (Tr.set (Tr.set (Tr.set (Tr.set (Tr.set Tr.nil 11 (some u11)) 10 (some u10)) 9 (some u9)) 5 (some u5)) 3 (some u3)) 2 (some u2)) H n [])=(C94_2 cal k m1 (R94_1 cal k m1)):=by funext u2 u3 u5 u9 u10 u11 H n; exact h94_2 ..
 rw[e2]
theorem q94_1(cal:Cal)(k:Nat):∀(m:Nat) (u2 u3 u5 u9 u10 u11:Value) (H:Hp) (n:Nat),labK (E94_1 cal k m) (Tr.set (Tr.set (Tr.set (Tr.set (Tr.set (Tr.set Tr.nil 11 (some u11)) 10 (some u10)) 9 (some u9)) 5 (some u5)) 3 (some u3)) 2 (some u2)) H n []=S94_1 cal k m u2 u3 u5 u9 u10 u11 H n
 | 0,u2,u3,u5,u9,u10,u11,H,n=>by
  rw[h94_1]
  have e:R94_1 cal k 0=fun _ _ _ _ _ _ _ _=>none:=by funext u2 u3 u5 u9 u10 u11 H n; kernel_rfl
  rw[e]; rfl
 | m+1,u2,u3,u5,u9,u10,u11,H,n=>by
  rw[h94_1]
  have e:R94_1 cal k (m+1)=S94_1 cal k m:=by
   funext u2 u3 u5 u9 u10 u11 H n
   have e:R94_1 cal k (m+1) u2 u3 u5 u9 u10 u11 H n=labK (E94_1 cal k m) (Tr.set (Tr.set (Tr.set (Tr.set (Tr.set (Tr.set Tr.nil 11 (some u11)) 10 (some u10)) 9 (some u9)) 5 (some u5)) 3 (some u3)) 2 (some u2)) H n []:=by kernel_rfl
   rw[e]; exact q94_1 ..
  rw[e]; rfl
noncomputable def B94_0(cal:Cal)(k:Nat)(j1:V6)(v0 v1:Value)(H:Hp)(n:Nat):Res:=
boxK 35 v0 H n fun v_1 H_2 n_3=>
boxK 88 v1 H_2 n_3 fun v_4 H_5 n_6=>
aq (ax P 35 v_1 1) fun v_9=>
aq (aW v_9) fun a_b=>aq (az P H_5 32 a_b) fun v_a=>
aq (lenV P 32 v_a) fun v_c=>
j1 v_1 v_4 (.int .i64 0) v_a v_c (.int .i64 0) H_5 n_6
noncomputable def C94_0(cal:Cal)(k:Nat)(v0 v1:Value)(H:Hp)(n:Nat):Res:=B94_0 cal k (S94_1 cal k k) v0 v1 H n
theorem h94_0(cal:Cal)(k:Nat)(v0 v1:Value)(H:Hp)(n:Nat):aK P cal A (k+1) 94 [v0,v1] H n=C94_0 cal k v0 v1 H n:=by
 have h:aK P cal A (k+1) 94 [v0,v1] H n=B94_0 cal k (fun u2 u3 u5 u9 u10 u11 H n=>labK (E94_1 cal k k) (Tr.set (Tr.set (Tr.set (Tr.set (Tr.set (Tr.set Tr.nil 11 (some u11)) 10 (some u10)) 9 (some u9)) 5 (some u5)) 3 (some u3)) 2 (some u2)) H n []) v0 v1 H n:=by
  rw[bX (fn:=Go.Proofs.Try.f94) (c:=vK) (rs:=ik) (by kernel_rfl) (by kernel_rfl) (by kernel_rfl) (by kernel_rfl)]
  kernel_rfl
 rw[h,C94_0]
 have e1:(fun u2 u3 u5 u9 u10 u11 H n=>labK (E94_1 cal k k) (Tr.set (Tr.set (Tr.set (Tr.set (Tr.set (Tr.set Tr.nil 11 (some u11)) 10 (some u10)) 9 (some u9)) 5 (some u5)) 3 (some u3)) 2 (some u2)) H n [])=(S94_1 cal k k):=by funext u2 u3 u5 u9 u10 u11 H n; exact q94_1 ..
 rw[e1]
noncomputable def yw:Code:=cW 95
noncomputable def kj:List ResultVar:=eX 95
noncomputable def K95_p(cal:Cal)(k:Nat):KR:=(cutK (A 95).c (ay P cal (aw P cal k) none 95 (cR yw) (Lv.b (A 95)) (av P kj) X0 (av P kj)))
noncomputable def K95_pr(cal:Cal)(k:Nat):KR:=(cutK (Lv.b (A 95)).c (ay P cal (aw P cal k) none 95 (cR (cR yw)) (Lv.b (Lv.b (A 95))) (av P kj) X0 (av P kj)))
noncomputable def K95_prl(cal:Cal)(k:Nat):KR:=(cutK (Lv.a (Lv.b (A 95))).c (ay P cal (aw P cal k) none 95 (cR (cL (cR yw))) (Lv.b (Lv.a (Lv.b (A 95)))) (K95_pr cal k) X0 (av P kj)))
noncomputable def Aj(cal:Cal)(k:Nat):XR:=(upX 0 (K95_pr cal k) X0)
noncomputable def PK(cal:Cal)(k:Nat)(m1:Nat):KR:=(fun T H n D=>aw P cal m1 (Lv.a (Lv.b (Lv.a (Lv.b (A 95))))) none 95 (cL (cR (cL (cR yw)))) (K95_pr cal k) (Aj cal k) (av P kj) (cutT (Lv.a (Lv.b (Lv.a (Lv.b (A 95))))).c T) H n D)
noncomputable def K95_prlrll(cal:Cal)(k:Nat)(m1:Nat):KR:=(cutK (Lv.a (Lv.a (Lv.b (Lv.a (Lv.b (A 95)))))).c (ay P cal (aw P cal m1) none 95 (cR (cL (cL (cR (cL (cR yw)))))) (Lv.b (Lv.a (Lv.a (Lv.b (Lv.a (Lv.b (A 95))))))) (PK cal k m1) (Aj cal k) (av P kj)))
noncomputable def K95_prlrllr(cal:Cal)(k:Nat)(m1:Nat):KR:=(cutK (Lv.b (Lv.a (Lv.a (Lv.b (Lv.a (Lv.b (A 95))))))).c (ay P cal (aw P cal m1) none 95 (cR (cR (cL (cL (cR (cL (cR yw))))))) (Lv.b (Lv.b (Lv.a (Lv.a (Lv.b (Lv.a (Lv.b (A 95)))))))) (PK cal k m1) (Aj cal k) (av P kj)))
noncomputable def Cz(cal:Cal)(k:Nat)(m1:Nat):KR:=(cutK (Lv.b (Lv.b (Lv.a (Lv.a (Lv.b (Lv.a (Lv.b (A 95)))))))).c (ay P cal (aw P cal m1) none 95 (cR (cR (cR (cL (cL (cR (cL (cR yw)))))))) (Lv.b (Lv.b (Lv.b (Lv.a (Lv.a (Lv.b (Lv.a (Lv.b (A 95))))))))) (PK cal k m1) (Aj cal k) (av P kj)))
noncomputable def Ew(cal:Cal)(k:Nat)(m1:Nat):XR:=(upX 1 (Cz cal k m1) (Aj cal k))
noncomputable def K95_prlrllrrll(cal:Cal)(k:Nat)(m1:Nat):KR:=(cutK (Lv.a (Lv.a (Lv.b (Lv.b (Lv.a (Lv.a (Lv.b (Lv.a (Lv.b (A 95)))))))))).c (ay P cal (aw P cal m1) none 95 (cR (cL (cL (cR (cR (cL (cL (cR (cL (cR yw)))))))))) (Lv.b (Lv.a (Lv.a (Lv.b (Lv.b (Lv.a (Lv.a (Lv.b (Lv.a (Lv.b (A 95))))))))))) (Cz cal k m1) (Ew cal k m1) (av P kj)))
noncomputable def K95_prlrllrrllr(cal:Cal)(k:Nat)(m1:Nat):KR:=(cutK (Lv.b (Lv.a (Lv.a (Lv.b (Lv.b (Lv.a (Lv.a (Lv.b (Lv.a (Lv.b (A 95))))))))))).c (ay P cal (aw P cal m1) none 95 (cR (cR (cL (cL (cR (cR (cL (cL (cR (cL (cR yw))))))))))) (Lv.b (Lv.b (Lv.a (Lv.a (Lv.b (Lv.b (Lv.a (Lv.a (Lv.b (Lv.a (Lv.b (A 95)))))))))))) (Cz cal k m1) (Ew cal k m1) (av P kj)))
noncomputable def K95_prlrllrrllrrl(cal:Cal)(k:Nat)(m1:Nat):KR:=(cutK (Lv.a (Lv.b (Lv.b (Lv.a (Lv.a (Lv.b (Lv.b (Lv.a (Lv.a (Lv.b (Lv.a (Lv.b (A 95))))))))))))).c (ay P cal (aw P cal m1) none 95 (cR (cL (cR (cR (cL (cL (cR (cR (cL (cL (cR (cL (cR yw))))))))))))) (Lv.b (Lv.a (Lv.b (Lv.b (Lv.a (Lv.a (Lv.b (Lv.b (Lv.a (Lv.a (Lv.b (Lv.a (Lv.b (A 95)))))))))))))) (Cz cal k m1) (Ew cal k m1) (av P kj)))
noncomputable def K95_prr(cal:Cal)(k:Nat):KR:=(cutK (Lv.b (Lv.b (A 95))).c (ay P cal (aw P cal k) none 95 (cR (cR (cR yw))) (Lv.b (Lv.b (Lv.b (A 95)))) (av P kj) X0 (av P kj)))
noncomputable def E95_1(cal:Cal)(k m1:Nat):KR:=ay P cal (aw P cal m1) none 95 (cL (cL (cR (cL (cR yw))))) (Lv.a (Lv.a (Lv.b (Lv.a (Lv.b (A 95)))))) (PK cal k m1) (Aj cal k) (av P kj)
noncomputable def R95_1(cal:Cal)(k m1:Nat):V4:=fun u1 u7 u8 u9 H n=>aw P cal m1 (Lv.a (Lv.b (Lv.a (Lv.b (A 95))))) none 95 (cL (cR (cL (cR yw)))) (K95_pr cal k) (Aj cal k) (av P kj) (Tr.set (Tr.set (Tr.set (Tr.set Tr.nil 9 (some u9)) 8 (some u8)) 7 (some u7)) 1 (some u1)) H n []
noncomputable def B95_1(cal:Cal)(k m1:Nat)(b1:V4)(u1 u7 u8 u9:Value)(H:Hp)(n:Nat):Res:=
binK P .lss 3 (.tmp 9) (.tmp 8) u9 u8 fun v_5=>
ifK v_5 (
aq (aV P 33 u7 u9) fun v_6=>
aq (aW v_6) fun a_8=>aq (az P H 86 a_8) fun v_7=>
dj P 86 H n fun v_9 H_a n_b=>
aq (bV P 86 v_9 v_7 H_a) fun H_d=>
aq (aW v_9) fun a_g=>aq (az P H_d 86 a_g) fun v_f=>
jy P cal u1 [v_f] H_d n_b fun v_h H_i n_j=>
aq (fY P v_h (Op.unary UnOp.not v_h)) fun v_k=>
ifK v_k (
some ((.bool false),H_i,n_j)) (
binK P .add 3 (.tmp 9) (.const (.int .i64 1)) u9 (.int .i64 1) fun v_m=>
b1 u1 u7 u8 v_m H_i n_j)) (
some ((.bool true),H,n))
noncomputable def C95_1(cal:Cal)(k m1:Nat)(b1:V4)(u1 u7 u8 u9:Value)(H:Hp)(n:Nat):Res:=B95_1 cal k m1 b1 u1 u7 u8 u9 H n
noncomputable def S95_1(cal:Cal)(k:Nat):Nat→V4:=fun m=>Nat.rec (motive:=fun _=>V4) (C95_1 cal k 0 (fun _ _ _ _ _ _=>none)) (fun m ih=>C95_1 cal k (m+1) ih) m
theorem h95_1(cal:Cal)(k m1:Nat)(u1 u7 u8 u9:Value)(H:Hp)(n:Nat):labK (E95_1 cal k m1) (Tr.set (Tr.set (Tr.set (Tr.set Tr.nil 9 (some u9)) 8 (some u8)) 7 (some u7)) 1 (some u1)) H n []=C95_1 cal k m1 (R95_1 cal k m1) u1 u7 u8 u9 H n:=by
 refine Eq.trans (b:=B95_1 cal k m1 (R95_1 cal k m1) u1 u7 u8 u9 H n) (by kernel_rfl) ?_
 rw[C95_1]
theorem q95_1(cal:Cal)(k:Nat):∀(m:Nat) (u1 u7 u8 u9:Value) (H:Hp) (n:Nat),labK (E95_1 cal k m) (Tr.set (Tr.set (Tr.set (Tr.set Tr.nil 9 (some u9)) 8 (some u8)) 7 (some u7)) 1 (some u1)) H n []=S95_1 cal k m u1 u7 u8 u9 H n
 | 0,u1,u7,u8,u9,H,n=>by
  rw[h95_1]
  have e:R95_1 cal k 0=fun _ _ _ _ _ _=>none:=by funext u1 u7 u8 u9 H n; kernel_rfl
  rw[e]; rfl
 | m+1,u1,u7,u8,u9,H,n=>by
  rw[h95_1]
  have e:R95_1 cal k (m+1)=S95_1 cal k m:=by
   funext u1 u7 u8 u9 H n
   have e:R95_1 cal k (m+1) u1 u7 u8 u9 H n=labK (E95_1 cal k m) (Tr.set (Tr.set (Tr.set (Tr.set Tr.nil 9 (some u9)) 8 (some u8)) 7 (some u7)) 1 (some u1)) H n []:=by kernel_rfl
   rw[e]; exact q95_1 ..
  rw[e]; rfl
noncomputable def B95_0(cal:Cal)(k:Nat)(j1:V4)(v0 v1:Value)(H:Hp)(n:Nat):Res:=
aq (lenV P 33 v0) fun v_3=>
j1 v1 v0 v_3 (.int .i64 0) H n
noncomputable def C95_0(cal:Cal)(k:Nat)(v0 v1:Value)(H:Hp)(n:Nat):Res:=B95_0 cal k (S95_1 cal k k) v0 v1 H n
theorem h95_0(cal:Cal)(k:Nat)(v0 v1:Value)(H:Hp)(n:Nat):aK P cal A (k+1) 95 [v0,v1] H n=C95_0 cal k v0 v1 H n:=by
 have h:aK P cal A (k+1) 95 [v0,v1] H n=B95_0 cal k (fun u1 u7 u8 u9 H n=>labK (E95_1 cal k k) (Tr.set (Tr.set (Tr.set (Tr.set Tr.nil 9 (some u9)) 8 (some u8)) 7 (some u7)) 1 (some u1)) H n []) v0 v1 H n:=by
  rw[bX (fn:=Go.Proofs.Try.f95) (c:=yw) (rs:=kj) (by kernel_rfl) (by kernel_rfl) (by kernel_rfl) (by kernel_rfl)]
  kernel_rfl
 rw[h,C95_0]
 have e1:(fun u1 u7 u8 u9 H n=>labK (E95_1 cal k k) (Tr.set (Tr.set (Tr.set (Tr.set Tr.nil 9 (some u9)) 8 (some u8)) 7 (some u7)) 1 (some u1)) H n [])=(S95_1 cal k k):=by funext u1 u7 u8 u9 H n; exact q95_1 ..
 rw[e1]
noncomputable def code96:Code:=cW 96
noncomputable def Ik:List ResultVar:=eX 96
noncomputable def K96_p(cal:Cal)(k:Nat):KR:=(cutK (A 96).c (ay P cal (aw P cal k) none 96 (cR code96) (Lv.b (A 96)) (av P Ik) X0 (av P Ik)))
noncomputable def K96_pr(cal:Cal)(k:Nat):KR:=(cutK (Lv.b (A 96)).c (ay P cal (aw P cal k) none 96 (cR (cR code96)) (Lv.b (Lv.b (A 96))) (av P Ik) X0 (av P Ik)))
noncomputable def B96_0(cal:Cal)(k:Nat)(v0:Value)(H:Hp)(n:Nat):Res:=
boxK 86 v0 H n fun v_1 H_2 n_3=>
aq (ax P 86 v_1 0) fun v_5=>
aq (aW v_5) fun a_7=>aq (az P H_2 3 a_7) fun v_6=>
binK P .geq 3 (.tmp 4) (.const (.int .i64 0)) v_6 (.int .i64 0) fun v_8=>
aX v_8 true (fun k_a=>
aq (ax P 86 v_1 0) fun v_e=>
k_a v_e H_2 n_3) H_2 n_3 fun v_b H_c n_d=>
aX v_8 true (fun k_f=>
aq (aW v_b) fun a_k=>aq (az P H_c 3 a_k) fun v_j=>
k_f v_j H_c n_d) H_c n_d fun v_g H_h n_i=>
aX v_8 true (fun k_l=>
binK P .leq 3 (.tmp 8) (.const (.int .i64 1000)) v_g (.int .i64 1000) fun v_p=>
k_l v_p H_h n_i) H_h n_i fun v_m H_n n_o=>
aq (fJ v_8 v_m (.bool false)) fun v_q=>
aX v_q true (fun k_s=>
aq (ax P 86 v_1 1) fun v_w=>
k_s v_w H_n n_o) H_n n_o fun v_t H_u n_v=>
aX v_q true (fun k_x=>
aq (aW v_t) fun a_12=>aq (az P H_u 53 a_12) fun v_11=>
k_x v_11 H_u n_v) H_u n_v fun v_y H_z n_10=>
aX v_q true (fun k_13=>
aY P cal 114 [v_y] H_z n_10 fun v_17 H_18 n_19=>
k_13 v_17 H_18 n_19) H_z n_10 fun v_14 H_15 n_16=>
aq (fJ v_q v_14 (.bool false)) fun v_1a=>
aX v_1a true (fun k_1c=>
aq (ax P 86 v_1 2) fun v_1g=>
k_1c v_1g H_15 n_16) H_15 n_16 fun v_1d H_1e n_1f=>
aX v_1a true (fun k_1h=>
aq (aW v_1d) fun a_1m=>aq (az P H_1e 53 a_1m) fun v_1l=>
k_1h v_1l H_1e n_1f) H_1e n_1f fun v_1i H_1j n_1k=>
aX v_1a true (fun k_1n=>
aY P cal 114 [v_1i] H_1j n_1k fun v_1r H_1s n_1t=>
k_1n v_1r H_1s n_1t) H_1j n_1k fun v_1o H_1p n_1q=>
aq (fJ v_1a v_1o (.bool false)) fun v_1u=>
some (v_1u,H_1p,n_1q)
noncomputable def C96_0(cal:Cal)(k:Nat)(v0:Value)(H:Hp)(n:Nat):Res:=B96_0 cal k v0 H n
theorem h96_0(cal:Cal)(k:Nat)(v0:Value)(H:Hp)(n:Nat):aK P cal A (k+1) 96 [v0] H n=C96_0 cal k v0 H n:=by
 have h:aK P cal A (k+1) 96 [v0] H n=B96_0 cal k v0 H n:=by
  rw[bX (fn:=Go.Proofs.Try.f96) (c:=code96) (rs:=Ik) (by kernel_rfl) (by kernel_rfl) (by kernel_rfl) (by kernel_rfl)]
  kernel_rfl
 rw[h,C96_0]
noncomputable def Aq:Code:=cW 98
noncomputable def kq:List ResultVar:=eX 98
noncomputable def K98_p(cal:Cal)(k:Nat):KR:=(cutK (A 98).c (ay P cal (aw P cal k) none 98 (cR Aq) (Lv.b (A 98)) (av P kq) X0 (av P kq)))
noncomputable def K98_pr(cal:Cal)(k:Nat):KR:=(cutK (Lv.b (A 98)).c (ay P cal (aw P cal k) none 98 (cR (cR Aq)) (Lv.b (Lv.b (A 98))) (av P kq) X0 (av P kq)))
noncomputable def qez(cal:Cal)(k:Nat):KR:=(cutK (Lv.b (Lv.b (A 98))).c (ay P cal (aw P cal k) none 98 (cR (cR (cR Aq))) (Lv.b (Lv.b (Lv.b (A 98)))) (av P kq) X0 (av P kq)))
noncomputable def K98_prrl(cal:Cal)(k:Nat):KR:=(cutK (Lv.a (Lv.b (Lv.b (A 98)))).c (ay P cal (aw P cal k) none 98 (cR (cL (cR (cR Aq)))) (Lv.b (Lv.a (Lv.b (Lv.b (A 98))))) (qez cal k) X0 (av P kq)))
noncomputable def wj(cal:Cal)(k:Nat):XR:=(upX 0 (qez cal k) X0)
noncomputable def Kk(cal:Cal)(k:Nat)(m1:Nat):KR:=(fun T H n D=>aw P cal m1 (Lv.a (Lv.b (Lv.a (Lv.b (Lv.b (A 98)))))) none 98 (cL (cR (cL (cR (cR Aq))))) (qez cal k) (wj cal k) (av P kq) (cutT (Lv.a (Lv.b (Lv.a (Lv.b (Lv.b (A 98)))))).c T) H n D)
noncomputable def K98_prrlrll(cal:Cal)(k:Nat)(m1:Nat):KR:=(cutK (Lv.a (Lv.a (Lv.b (Lv.a (Lv.b (Lv.b (A 98))))))).c (ay P cal (aw P cal m1) none 98 (cR (cL (cL (cR (cL (cR (cR Aq))))))) (Lv.b (Lv.a (Lv.a (Lv.b (Lv.a (Lv.b (Lv.b (A 98)))))))) (Kk cal k m1) (wj cal k) (av P kq)))
noncomputable def K98_prrlrllr(cal:Cal)(k:Nat)(m1:Nat):KR:=(cutK (Lv.b (Lv.a (Lv.a (Lv.b (Lv.a (Lv.b (Lv.b (A 98)))))))).c (ay P cal (aw P cal m1) none 98 (cR (cR (cL (cL (cR (cL (cR (cR Aq)))))))) (Lv.b (Lv.b (Lv.a (Lv.a (Lv.b (Lv.a (Lv.b (Lv.b (A 98))))))))) (Kk cal k m1) (wj cal k) (av P kq)))
noncomputable def K98_prrlrllrr(cal:Cal)(k:Nat)(m1:Nat):KR:=(cutK (Lv.b (Lv.b (Lv.a (Lv.a (Lv.b (Lv.a (Lv.b (Lv.b (A 98))))))))).c (ay P cal (aw P cal m1) none 98 (cR (cR (cR (cL (cL (cR (cL (cR (cR Aq))))))))) (Lv.b (Lv.b (Lv.b (Lv.a (Lv.a (Lv.b (Lv.a (Lv.b (Lv.b (A 98)))))))))) (Kk cal k m1) (wj cal k) (av P kq)))
noncomputable def K98_pxrrlrllrrl(cal:Cal)(k:Nat)(m1:Nat):XR:=(upX 1 (K98_prrlrllrr cal k m1) (wj cal k))
noncomputable def K98_prrlrllrrll(cal:Cal)(k:Nat)(m1:Nat):KR:=(cutK (Lv.a (Lv.a (Lv.b (Lv.b (Lv.a (Lv.a (Lv.b (Lv.a (Lv.b (Lv.b (A 98))))))))))).c (ay P cal (aw P cal m1) none 98 (cR (cL (cL (cR (cR (cL (cL (cR (cL (cR (cR Aq))))))))))) (Lv.b (Lv.a (Lv.a (Lv.b (Lv.b (Lv.a (Lv.a (Lv.b (Lv.a (Lv.b (Lv.b (A 98)))))))))))) (K98_prrlrllrr cal k m1) (K98_pxrrlrllrrl cal k m1) (av P kq)))
noncomputable def K98_prrr(cal:Cal)(k:Nat):KR:=(cutK (Lv.b (Lv.b (Lv.b (A 98)))).c (ay P cal (aw P cal k) none 98 (cR (cR (cR (cR Aq)))) (Lv.b (Lv.b (Lv.b (Lv.b (A 98))))) (av P kq) X0 (av P kq)))
noncomputable def E98_1(cal:Cal)(k m1:Nat):KR:=ay P cal (aw P cal m1) none 98 (cL (cL (cR (cL (cR (cR Aq)))))) (Lv.a (Lv.a (Lv.b (Lv.a (Lv.b (Lv.b (A 98))))))) (Kk cal k m1) (wj cal k) (av P kq)
noncomputable def R98_1(cal:Cal)(k m1:Nat):V4:=fun u1 u5 u9 u10 H n=>aw P cal m1 (Lv.a (Lv.b (Lv.a (Lv.b (Lv.b (A 98)))))) none 98 (cL (cR (cL (cR (cR Aq))))) (qez cal k) (wj cal k) (av P kq) (Tr.set (Tr.set (Tr.set (Tr.set Tr.nil 10 (some u10)) 9 (some u9)) 5 (some u5)) 1 (some u1)) H n []
noncomputable def B98_1(cal:Cal)(k m1:Nat)(b1:V4)(u1 u5 u9 u10:Value)(H:Hp)(n:Nat):Res:=
binK P .lss 3 (.tmp 10) (.const (.int .i64 8)) u10 (.int .i64 8) fun v_a=>
ifK v_a (
aq (BJ P 109 u9 u10) fun v_b=>
dj P 53 H n fun v_c H_d n_e=>
aq (bV P 53 v_c v_b H_d) fun H_g=>
aq (aW v_c) fun a_k=>aq (az P H_g 53 a_k) fun v_j=>
jy P cal u1 [v_j] H_g n_e fun v_l H_m n_n=>
binK P .add 3 (.tmp 13) (.tmp 16) u5 v_l fun v_o=>
binK P .add 3 (.tmp 10) (.const (.int .i64 1)) u10 (.int .i64 1) fun v_q=>
b1 u1 v_o u9 v_q H_m n_n) (
some (u5,H,n))
noncomputable def C98_1(cal:Cal)(k m1:Nat)(b1:V4)(u1 u5 u9 u10:Value)(H:Hp)(n:Nat):Res:=B98_1 cal k m1 b1 u1 u5 u9 u10 H n
noncomputable def S98_1(cal:Cal)(k:Nat):Nat→V4:=fun m=>Nat.rec (motive:=fun _=>V4) (C98_1 cal k 0 (fun _ _ _ _ _ _=>none)) (fun m ih=>C98_1 cal k (m+1) ih) m
theorem h98_1(cal:Cal)(k m1:Nat)(u1 u5 u9 u10:Value)(H:Hp)(n:Nat):labK (E98_1 cal k m1) (Tr.set (Tr.set (Tr.set (Tr.set Tr.nil 10 (some u10)) 9 (some u9)) 5 (some u5)) 1 (some u1)) H n []=C98_1 cal k m1 (R98_1 cal k m1) u1 u5 u9 u10 H n:=by
 refine Eq.trans (b:=B98_1 cal k m1 (R98_1 cal k m1) u1 u5 u9 u10 H n) (by kernel_rfl) ?_
 rw[C98_1]
theorem q98_1(cal:Cal)(k:Nat):∀(m:Nat) (u1 u5 u9 u10:Value) (H:Hp) (n:Nat),labK (E98_1 cal k m) (Tr.set (Tr.set (Tr.set (Tr.set Tr.nil 10 (some u10)) 9 (some u9)) 5 (some u5)) 1 (some u1)) H n []=S98_1 cal k m u1 u5 u9 u10 H n
 | 0,u1,u5,u9,u10,H,n=>by
  rw[h98_1]
  have e:R98_1 cal k 0=fun _ _ _ _ _ _=>none:=by funext u1 u5 u9 u10 H n; kernel_rfl
  rw[e]; rfl
 | m+1,u1,u5,u9,u10,H,n=>by
  rw[h98_1]
  have e:R98_1 cal k (m+1)=S98_1 cal k m:=by
   funext u1 u5 u9 u10 H n
   have e:R98_1 cal k (m+1) u1 u5 u9 u10 H n=labK (E98_1 cal k m) (Tr.set (Tr.set (Tr.set (Tr.set Tr.nil 10 (some u10)) 9 (some u9)) 5 (some u5)) 1 (some u1)) H n []:=by kernel_rfl
   rw[e]; exact q98_1 ..
  rw[e]; rfl
noncomputable def B98_0(cal:Cal)(k:Nat)(j1:V4)(v0 v1:Value)(H:Hp)(n:Nat):Res:=
boxK 111 v0 H n fun v_1 H_2 n_3=>
aq (ax P 111 v_1 1) fun v_6=>
aq (aW v_6) fun a_8=>aq (az P H_2 109 a_8) fun v_7=>
j1 v1 (.int .i64 0) v_7 (.int .i64 0) H_2 n_3
noncomputable def C98_0(cal:Cal)(k:Nat)(v0 v1:Value)(H:Hp)(n:Nat):Res:=B98_0 cal k (S98_1 cal k k) v0 v1 H n
theorem h98_0(cal:Cal)(k:Nat)(v0 v1:Value)(H:Hp)(n:Nat):aK P cal A (k+1) 98 [v0,v1] H n=C98_0 cal k v0 v1 H n:=by
 have h:aK P cal A (k+1) 98 [v0,v1] H n=B98_0 cal k (fun u1 u5 u9 u10 H n=>labK (E98_1 cal k k) (Tr.set (Tr.set (Tr.set (Tr.set Tr.nil 10 (some u10)) 9 (some u9)) 5 (some u5)) 1 (some u1)) H n []) v0 v1 H n:=by
  rw[bX (fn:=Go.Proofs.Try.f98) (c:=Aq) (rs:=kq) (by kernel_rfl) (by kernel_rfl) (by kernel_rfl) (by kernel_rfl)]
  kernel_rfl
 rw[h,C98_0]
 have e1:(fun u1 u5 u9 u10 H n=>labK (E98_1 cal k k) (Tr.set (Tr.set (Tr.set (Tr.set Tr.nil 10 (some u10)) 9 (some u9)) 5 (some u5)) 1 (some u1)) H n [])=(S98_1 cal k k):=by funext u1 u5 u9 u10 H n; exact q98_1 ..
 rw[e1]
noncomputable def code99:Code:=cW 99
noncomputable def IJ:List ResultVar:=eX 99
noncomputable def K99_p(cal:Cal)(k:Nat):KR:=(cutK (A 99).c (ay P cal (aw P cal k) none 99 (cR code99) (Lv.b (A 99)) (av P IJ) X0 (av P IJ)))
noncomputable def K99_pr(cal:Cal)(k:Nat):KR:=(cutK (Lv.b (A 99)).c (ay P cal (aw P cal k) none 99 (cR (cR code99)) (Lv.b (Lv.b (A 99))) (av P IJ) X0 (av P IJ)))
noncomputable def B99_0(cal:Cal)(k:Nat)(v0 v1:Value)(H:Hp)(n:Nat):Res:=
boxK 53 v0 H n fun v_1 H_2 n_3=>
aq (ax P 53 v_1 0) fun v_5=>
aq (aW v_5) fun a_7=>aq (az P H_2 3 a_7) fun v_6=>
binK P .leq 3 (.tmp 6) (.tmp 7) v_6 v1 fun v_9=>
aX v_9 true (fun k_b=>
k_b v1 H_2 n_3) H_2 n_3 fun v_c H_d n_e=>
aX v_9 true (fun k_g=>
aq (ax P 53 v_1 1) fun v_k=>
k_g v_k H_d n_e) H_d n_e fun v_h H_i n_j=>
aX v_9 true (fun k_l=>
aq (aW v_h) fun a_q=>aq (az P H_i 3 a_q) fun v_p=>
k_l v_p H_i n_j) H_i n_j fun v_m H_n n_o=>
aX v_9 true (fun k_r=>
binK P .leq 3 (.tmp 10) (.tmp 12) v_c v_m fun v_v=>
k_r v_v H_n n_o) H_n n_o fun v_s H_t n_u=>
aq (fJ v_9 v_s (.bool false)) fun v_w=>
some (v_w,H_t,n_u)
noncomputable def C99_0(cal:Cal)(k:Nat)(v0 v1:Value)(H:Hp)(n:Nat):Res:=B99_0 cal k v0 v1 H n
theorem h99_0(cal:Cal)(k:Nat)(v0 v1:Value)(H:Hp)(n:Nat):aK P cal A (k+1) 99 [v0,v1] H n=C99_0 cal k v0 v1 H n:=by
 have h:aK P cal A (k+1) 99 [v0,v1] H n=B99_0 cal k v0 v1 H n:=by
  rw[bX (fn:=Go.Proofs.Try.f99) (c:=code99) (rs:=IJ) (by kernel_rfl) (by kernel_rfl) (by kernel_rfl) (by kernel_rfl)]
  kernel_rfl
 rw[h,C99_0]
noncomputable def code100:Code:=cW 100
noncomputable def Ey:List ResultVar:=eX 100
noncomputable def K100_p(cal:Cal)(k:Nat):KR:=(cutK (A 100).c (ay P cal (aw P cal k) none 100 (cR code100) (Lv.b (A 100)) (av P Ey) X0 (av P Ey)))
noncomputable def K100_pr(cal:Cal)(k:Nat):KR:=(cutK (Lv.b (A 100)).c (ay P cal (aw P cal k) none 100 (cR (cR code100)) (Lv.b (Lv.b (A 100))) (av P Ey) X0 (av P Ey)))
noncomputable def B100_0(cal:Cal)(k:Nat)(v0 v1:Value)(H:Hp)(n:Nat):Res:=
aY P cal 32 [v0,(.int .i64 0),v1] H n fun v_4 H_5 n_6=>
aX v_4 true (fun k_8=>
k_8 v1 H_5 n_6) H_5 n_6 fun v_9 H_a n_b=>
aX v_4 true (fun k_d=>
binK P .leq 3 (.tmp 9) (.const (.int .i64 1000)) v_9 (.int .i64 1000) fun v_h=>
k_d v_h H_a n_b) H_a n_b fun v_e H_f n_g=>
aq (fJ v_4 v_e (.bool false)) fun v_i=>
some (v_i,H_f,n_g)
noncomputable def XV(cal:Cal)(k:Nat)(v0 v1:Value)(H:Hp)(n:Nat):Res:=B100_0 cal k v0 v1 H n
theorem h100_0(cal:Cal)(k:Nat)(v0 v1:Value)(H:Hp)(n:Nat):aK P cal A (k+1) 100 [v0,v1] H n=XV cal k v0 v1 H n:=by
 have h:aK P cal A (k+1) 100 [v0,v1] H n=B100_0 cal k v0 v1 H n:=by
  rw[bX (fn:=Go.Proofs.Try.f100) (c:=code100) (rs:=Ey) (by kernel_rfl) (by kernel_rfl) (by kernel_rfl) (by kernel_rfl)]
  kernel_rfl
 rw[h,XV]
noncomputable def tY:Code:=cW 101
noncomputable def gV:List ResultVar:=eX 101
noncomputable def K101_p(cal:Cal)(k:Nat):KR:=(cutK (A 101).c (ay P cal (aw P cal k) none 101 (cR tY) (Lv.b (A 101)) (av P gV) X0 (av P gV)))
noncomputable def K101_pr(cal:Cal)(k:Nat):KR:=(cutK (Lv.b (A 101)).c (ay P cal (aw P cal k) none 101 (cR (cR tY)) (Lv.b (Lv.b (A 101))) (av P gV) X0 (av P gV)))
noncomputable def Vj(cal:Cal)(k:Nat):KR:=(cutK (Lv.b (Lv.b (A 101))).c (ay P cal (aw P cal k) none 101 (cR (cR (cR tY))) (Lv.b (Lv.b (Lv.b (A 101)))) (av P gV) X0 (av P gV)))
noncomputable def K101_prrl(cal:Cal)(k:Nat):KR:=(cutK (Lv.a (Lv.b (Lv.b (A 101)))).c (ay P cal (aw P cal k) none 101 (cR (cL (cR (cR tY)))) (Lv.b (Lv.a (Lv.b (Lv.b (A 101))))) (Vj cal k) X0 (av P gV)))
noncomputable def tJ(cal:Cal)(k:Nat):XR:=(upX 0 (Vj cal k) X0)
noncomputable def FV(cal:Cal)(k:Nat)(m1:Nat):KR:=(fun T H n D=>aw P cal m1 (Lv.a (Lv.b (Lv.a (Lv.b (Lv.b (A 101)))))) none 101 (cL (cR (cL (cR (cR tY))))) (Vj cal k) (tJ cal k) (av P gV) (cutT (Lv.a (Lv.b (Lv.a (Lv.b (Lv.b (A 101)))))).c T) H n D)
noncomputable def K101_prrlrll(cal:Cal)(k:Nat)(m1:Nat):KR:=(cutK (Lv.a (Lv.a (Lv.b (Lv.a (Lv.b (Lv.b (A 101))))))).c (ay P cal (aw P cal m1) none 101 (cR (cL (cL (cR (cL (cR (cR tY))))))) (Lv.b (Lv.a (Lv.a (Lv.b (Lv.a (Lv.b (Lv.b (A 101)))))))) (FV cal k m1) (tJ cal k) (av P gV)))
noncomputable def K101_prrlrllr(cal:Cal)(k:Nat)(m1:Nat):KR:=(cutK (Lv.b (Lv.a (Lv.a (Lv.b (Lv.a (Lv.b (Lv.b (A 101)))))))).c (ay P cal (aw P cal m1) none 101 (cR (cR (cL (cL (cR (cL (cR (cR tY)))))))) (Lv.b (Lv.b (Lv.a (Lv.a (Lv.b (Lv.a (Lv.b (Lv.b (A 101))))))))) (FV cal k m1) (tJ cal k) (av P gV)))
noncomputable def K101_prrlrllrr(cal:Cal)(k:Nat)(m1:Nat):KR:=(cutK (Lv.b (Lv.b (Lv.a (Lv.a (Lv.b (Lv.a (Lv.b (Lv.b (A 101))))))))).c (ay P cal (aw P cal m1) none 101 (cR (cR (cR (cL (cL (cR (cL (cR (cR tY))))))))) (Lv.b (Lv.b (Lv.b (Lv.a (Lv.a (Lv.b (Lv.a (Lv.b (Lv.b (A 101)))))))))) (FV cal k m1) (tJ cal k) (av P gV)))
noncomputable def K101_pxrrlrllrrl(cal:Cal)(k:Nat)(m1:Nat):XR:=(upX 1 (K101_prrlrllrr cal k m1) (tJ cal k))
noncomputable def K101_prrlrllrrll(cal:Cal)(k:Nat)(m1:Nat):KR:=(cutK (Lv.a (Lv.a (Lv.b (Lv.b (Lv.a (Lv.a (Lv.b (Lv.a (Lv.b (Lv.b (A 101))))))))))).c (ay P cal (aw P cal m1) none 101 (cR (cL (cL (cR (cR (cL (cL (cR (cL (cR (cR tY))))))))))) (Lv.b (Lv.a (Lv.a (Lv.b (Lv.b (Lv.a (Lv.a (Lv.b (Lv.a (Lv.b (Lv.b (A 101)))))))))))) (K101_prrlrllrr cal k m1) (K101_pxrrlrllrrl cal k m1) (av P gV)))
noncomputable def K101_prrr(cal:Cal)(k:Nat):KR:=(cutK (Lv.b (Lv.b (Lv.b (A 101)))).c (ay P cal (aw P cal k) none 101 (cR (cR (cR (cR tY)))) (Lv.b (Lv.b (Lv.b (Lv.b (A 101))))) (av P gV) X0 (av P gV)))
noncomputable def E101_1(cal:Cal)(k m1:Nat):KR:=ay P cal (aw P cal m1) none 101 (cL (cL (cR (cL (cR (cR tY)))))) (Lv.a (Lv.a (Lv.b (Lv.a (Lv.b (Lv.b (A 101))))))) (FV cal k m1) (tJ cal k) (av P gV)
noncomputable def R101_1(cal:Cal)(k m1:Nat):V3:=fun u0 u1 u3 H n=>aw P cal m1 (Lv.a (Lv.b (Lv.a (Lv.b (Lv.b (A 101)))))) none 101 (cL (cR (cL (cR (cR tY))))) (Vj cal k) (tJ cal k) (av P gV) (Tr.set (Tr.set (Tr.set Tr.nil 3 (some u3)) 1 (some u1)) 0 (some u0)) H n []
noncomputable def B101_1(cal:Cal)(k m1:Nat)(b1:V3)(u0 u1 u3:Value)(H:Hp)(n:Nat):Res:=
binK P .lss 3 (.tmp 3) (.const (.int .i64 8)) u3 (.int .i64 8) fun v_8=>
ifK v_8 (
aq (aV P 119 u1 u3) fun v_c=>
aq (bV P 3 v_c (.int .i64 (-1)) H) fun H_e=>
binK P .add 3 (.tmp 3) (.const (.int .i64 1)) u3 (.int .i64 1) fun v_f=>
b1 u0 u1 v_f H_e n) (
aq (aW u1) fun a_i=>aq (az P H 119 a_i) fun v_h=>
aq (bV P 119 u0 v_h H) fun H_k=>
aq (resV P (Tr.set Tr.nil 0 (some u0)) H_k gV) fun v_l=>some (oneV v_l,H_k,n))
noncomputable def C101_1(cal:Cal)(k m1:Nat)(b1:V3)(u0 u1 u3:Value)(H:Hp)(n:Nat):Res:=B101_1 cal k m1 b1 u0 u1 u3 H n
noncomputable def S101_1(cal:Cal)(k:Nat):Nat→V3:=fun m=>Nat.rec (motive:=fun _=>V3) (C101_1 cal k 0 (fun _ _ _ _ _=>none)) (fun m ih=>C101_1 cal k (m+1) ih) m
theorem h101_1(cal:Cal)(k m1:Nat)(u0 u1 u3:Value)(H:Hp)(n:Nat):labK (E101_1 cal k m1) (Tr.set (Tr.set (Tr.set Tr.nil 3 (some u3)) 1 (some u1)) 0 (some u0)) H n []=C101_1 cal k m1 (R101_1 cal k m1) u0 u1 u3 H n:=by
 refine Eq.trans (b:=B101_1 cal k m1 (R101_1 cal k m1) u0 u1 u3 H n) (by kernel_rfl) ?_
 rw[C101_1]
theorem q101_1(cal:Cal)(k:Nat):∀(m:Nat) (u0 u1 u3:Value) (H:Hp) (n:Nat),labK (E101_1 cal k m) (Tr.set (Tr.set (Tr.set Tr.nil 3 (some u3)) 1 (some u1)) 0 (some u0)) H n []=S101_1 cal k m u0 u1 u3 H n
 | 0,u0,u1,u3,H,n=>by
  rw[h101_1]
  have e:R101_1 cal k 0=fun _ _ _ _ _=>none:=by funext u0 u1 u3 H n; kernel_rfl
  rw[e]; rfl
 | m+1,u0,u1,u3,H,n=>by
  rw[h101_1]
  have e:R101_1 cal k (m+1)=S101_1 cal k m:=by
   funext u0 u1 u3 H n
   have e:R101_1 cal k (m+1) u0 u1 u3 H n=labK (E101_1 cal k m) (Tr.set (Tr.set (Tr.set Tr.nil 3 (some u3)) 1 (some u1)) 0 (some u0)) H n []:=by kernel_rfl
   rw[e]; exact q101_1 ..
  rw[e]; rfl
noncomputable def B101_0(cal:Cal)(k:Nat)(j1:V3)(H:Hp)(n:Nat):Res:=
dj P 119 H n fun v_1 H_2 n_3=>
dj P 119 H_2 n_3 fun v_4 H_5 n_6=>
j1 v_1 v_4 (.int .i64 0) H_5 n_6
noncomputable def C101_0(cal:Cal)(k:Nat)(H:Hp)(n:Nat):Res:=B101_0 cal k (S101_1 cal k k)  H n
theorem h101_0(cal:Cal)(k:Nat)(H:Hp)(n:Nat):aK P cal A (k+1) 101 [] H n=C101_0 cal k  H n:=by
 have h:aK P cal A (k+1) 101 [] H n=B101_0 cal k (fun u0 u1 u3 H n=>labK (E101_1 cal k k) (Tr.set (Tr.set (Tr.set Tr.nil 3 (some u3)) 1 (some u1)) 0 (some u0)) H n [])  H n:=by
  rw[bX (fn:=Go.Proofs.Try.f101) (c:=tY) (rs:=gV) (by kernel_rfl) (by kernel_rfl) (by kernel_rfl) (by kernel_rfl)]
  kernel_rfl
 rw[h,C101_0]
 have e1:(fun u0 u1 u3 H n=>labK (E101_1 cal k k) (Tr.set (Tr.set (Tr.set Tr.nil 3 (some u3)) 1 (some u1)) 0 (some u0)) H n [])=(S101_1 cal k k):=by funext u0 u1 u3 H n; exact q101_1 ..
 rw[e1]
noncomputable def code102:Code:=cW 102
noncomputable def Ez:List ResultVar:=eX 102
noncomputable def K102_p(cal:Cal)(k:Nat):KR:=(cutK (A 102).c (ay P cal (aw P cal k) none 102 (cR code102) (Lv.b (A 102)) (av P Ez) X0 (av P Ez)))
noncomputable def K102_pr(cal:Cal)(k:Nat):KR:=(cutK (Lv.b (A 102)).c (ay P cal (aw P cal k) none 102 (cR (cR code102)) (Lv.b (Lv.b (A 102))) (av P Ez) X0 (av P Ez)))
noncomputable def B102_0(cal:Cal)(k:Nat)(v0 v1 v2:Value)(H:Hp)(n:Nat):Res:=
binK P .geq 3 (.tmp 7) (.const (.int .i64 0)) v2 (.int .i64 0) fun v_3=>
aX v_3 true (fun k_5=>
k_5 v2 H n) H n fun v_6 H_7 n_8=>
aX v_3 true (fun k_a=>
k_a v0 H_7 n_8) H_7 n_8 fun v_b H_c n_d=>
aX v_3 true (fun k_f=>
aq (nilV v_b) fun v_j=>
k_f v_j H_c n_d) H_c n_d fun v_g H_h n_i=>
aX v_3 true (fun k_k=>
aq (ax P 115 v_g 0) fun v_o=>
k_k v_o H_h n_i) H_h n_i fun v_l H_m n_n=>
aX v_3 true (fun k_p=>
aq (ax P 35 v_l 2) fun v_t=>
k_p v_t H_m n_n) H_m n_n fun v_q H_r n_s=>
aX v_3 true (fun k_u=>
aq (aW v_q) fun a_z=>aq (az P H_r 33 a_z) fun v_y=>
k_u v_y H_r n_s) H_r n_s fun v_v H_w n_x=>
aX v_3 true (fun k_10=>
aq (lenV P 33 v_v) fun v_14=>
k_10 v_14 H_w n_x) H_w n_x fun v_11 H_12 n_13=>
aX v_3 true (fun k_15=>
binK P .lss 3 (.tmp 10) (.tmp 16) v_6 v_11 fun v_19=>
k_15 v_19 H_12 n_13) H_12 n_13 fun v_16 H_17 n_18=>
aq (fJ v_3 v_16 (.bool false)) fun v_1a=>
aX v_1a true (fun k_1c=>
k_1c v0 H_17 n_18) H_17 n_18 fun v_1d H_1e n_1f=>
aX v_1a true (fun k_1h=>
k_1h v1 H_1e n_1f) H_1e n_1f fun v_1i H_1j n_1k=>
aX v_1a true (fun k_1m=>
k_1m v2 H_1j n_1k) H_1j n_1k fun v_1n H_1o n_1p=>
aX v_1a true (fun k_1r=>
aq (nilV v_1d) fun v_1v=>
k_1r v_1v H_1o n_1p) H_1o n_1p fun v_1s H_1t n_1u=>
aX v_1a true (fun k_1w=>
aq (ax P 115 v_1s 2) fun v_20=>
k_1w v_20 H_1t n_1u) H_1t n_1u fun v_1x H_1y n_1z=>
aX v_1a true (fun k_21=>
aq (aV P 113 v_1x v_1i) fun v_25=>
k_21 v_25 H_1y n_1z) H_1y n_1z fun v_22 H_23 n_24=>
aX v_1a true (fun k_26=>
aq (aV P 112 v_22 v_1n) fun v_2a=>
k_26 v_2a H_23 n_24) H_23 n_24 fun v_27 H_28 n_29=>
aX v_1a true (fun k_2b=>
aq (aW v_27) fun a_2g=>aq (az P H_28 111 a_2g) fun v_2f=>
k_2b v_2f H_28 n_29) H_28 n_29 fun v_2c H_2d n_2e=>
aX v_1a true (fun k_2h=>
aY P cal 62 [v_2c] H_2d n_2e fun v_2l H_2m n_2n=>
k_2h v_2l H_2m n_2n) H_2d n_2e fun v_2i H_2j n_2k=>
aq (fJ v_1a v_2i (.bool false)) fun v_2o=>
some (v_2o,H_2j,n_2k)
noncomputable def XW(cal:Cal)(k:Nat)(v0 v1 v2:Value)(H:Hp)(n:Nat):Res:=B102_0 cal k v0 v1 v2 H n
theorem h102_0(cal:Cal)(k:Nat)(v0 v1 v2:Value)(H:Hp)(n:Nat):aK P cal A (k+1) 102 [v0,v1,v2] H n=XW cal k v0 v1 v2 H n:=by
 have h:aK P cal A (k+1) 102 [v0,v1,v2] H n=B102_0 cal k v0 v1 v2 H n:=by
  rw[bX (fn:=Go.Proofs.Try.f102) (c:=code102) (rs:=Ez) (by kernel_rfl) (by kernel_rfl) (by kernel_rfl) (by kernel_rfl)]
  kernel_rfl
 rw[h,XW]
noncomputable def tZ:Code:=cW 103
noncomputable def gW:List ResultVar:=eX 103
noncomputable def K103_p(cal:Cal)(k:Nat):KR:=(cutK (A 103).c (ay P cal (aw P cal k) none 103 (cR tZ) (Lv.b (A 103)) (av P gW) X0 (av P gW)))
noncomputable def qex(cal:Cal)(k:Nat):KR:=(cutK (Lv.b (A 103)).c (ay P cal (aw P cal k) none 103 (cR (cR tZ)) (Lv.b (Lv.b (A 103))) (av P gW) X0 (av P gW)))
noncomputable def K103_prl(cal:Cal)(k:Nat):KR:=(cutK (Lv.a (Lv.b (A 103))).c (ay P cal (aw P cal k) none 103 (cR (cL (cR tZ))) (Lv.b (Lv.a (Lv.b (A 103)))) (qex cal k) X0 (av P gW)))
noncomputable def wq(cal:Cal)(k:Nat):XR:=(upX 0 (qex cal k) X0)
noncomputable def KJ(cal:Cal)(k:Nat)(m1:Nat):KR:=(fun T H n D=>aw P cal m1 (Lv.a (Lv.b (Lv.a (Lv.b (A 103))))) none 103 (cL (cR (cL (cR tZ)))) (qex cal k) (wq cal k) (av P gW) (cutT (Lv.a (Lv.b (Lv.a (Lv.b (A 103))))).c T) H n D)
noncomputable def K103_prlrll(cal:Cal)(k:Nat)(m1:Nat):KR:=(cutK (Lv.a (Lv.a (Lv.b (Lv.a (Lv.b (A 103)))))).c (ay P cal (aw P cal m1) none 103 (cR (cL (cL (cR (cL (cR tZ)))))) (Lv.b (Lv.a (Lv.a (Lv.b (Lv.a (Lv.b (A 103))))))) (KJ cal k m1) (wq cal k) (av P gW)))
noncomputable def K103_prlrllr(cal:Cal)(k:Nat)(m1:Nat):KR:=(cutK (Lv.b (Lv.a (Lv.a (Lv.b (Lv.a (Lv.b (A 103))))))).c (ay P cal (aw P cal m1) none 103 (cR (cR (cL (cL (cR (cL (cR tZ))))))) (Lv.b (Lv.b (Lv.a (Lv.a (Lv.b (Lv.a (Lv.b (A 103)))))))) (KJ cal k m1) (wq cal k) (av P gW)))
noncomputable def GQ(cal:Cal)(k:Nat)(m1:Nat):KR:=(cutK (Lv.b (Lv.b (Lv.a (Lv.a (Lv.b (Lv.a (Lv.b (A 103)))))))).c (ay P cal (aw P cal m1) none 103 (cR (cR (cR (cL (cL (cR (cL (cR tZ)))))))) (Lv.b (Lv.b (Lv.b (Lv.a (Lv.a (Lv.b (Lv.a (Lv.b (A 103))))))))) (KJ cal k m1) (wq cal k) (av P gW)))
noncomputable def K103_pxrlrllrrl(cal:Cal)(k:Nat)(m1:Nat):XR:=(upX 1 (GQ cal k m1) (wq cal k))
noncomputable def K103_prlrllrrll(cal:Cal)(k:Nat)(m1:Nat):KR:=(cutK (Lv.a (Lv.a (Lv.b (Lv.b (Lv.a (Lv.a (Lv.b (Lv.a (Lv.b (A 103)))))))))).c (ay P cal (aw P cal m1) none 103 (cR (cL (cL (cR (cR (cL (cL (cR (cL (cR tZ)))))))))) (Lv.b (Lv.a (Lv.a (Lv.b (Lv.b (Lv.a (Lv.a (Lv.b (Lv.a (Lv.b (A 103))))))))))) (GQ cal k m1) (K103_pxrlrllrrl cal k m1) (av P gW)))
noncomputable def K103_prlrllrrllr(cal:Cal)(k:Nat)(m1:Nat):KR:=(cutK (Lv.b (Lv.a (Lv.a (Lv.b (Lv.b (Lv.a (Lv.a (Lv.b (Lv.a (Lv.b (A 103))))))))))).c (ay P cal (aw P cal m1) none 103 (cR (cR (cL (cL (cR (cR (cL (cL (cR (cL (cR tZ))))))))))) (Lv.b (Lv.b (Lv.a (Lv.a (Lv.b (Lv.b (Lv.a (Lv.a (Lv.b (Lv.a (Lv.b (A 103)))))))))))) (GQ cal k m1) (K103_pxrlrllrrl cal k m1) (av P gW)))
noncomputable def K103_prr(cal:Cal)(k:Nat):KR:=(cutK (Lv.b (Lv.b (A 103))).c (ay P cal (aw P cal k) none 103 (cR (cR (cR tZ))) (Lv.b (Lv.b (Lv.b (A 103)))) (av P gW) X0 (av P gW)))
noncomputable def E103_1(cal:Cal)(k m1:Nat):KR:=ay P cal (aw P cal m1) none 103 (cL (cL (cR (cL (cR tZ))))) (Lv.a (Lv.a (Lv.b (Lv.a (Lv.b (A 103)))))) (KJ cal k m1) (wq cal k) (av P gW)
noncomputable def R103_1(cal:Cal)(k m1:Nat):V4:=fun u2 u4 u7 u8 H n=>aw P cal m1 (Lv.a (Lv.b (Lv.a (Lv.b (A 103))))) none 103 (cL (cR (cL (cR tZ)))) (qex cal k) (wq cal k) (av P gW) (Tr.set (Tr.set (Tr.set (Tr.set Tr.nil 8 (some u8)) 7 (some u7)) 4 (some u4)) 2 (some u2)) H n []
noncomputable def B103_1(cal:Cal)(k m1:Nat)(b1:V4)(u2 u4 u7 u8:Value)(H:Hp)(n:Nat):Res:=
binK P .lss 3 (.tmp 8) (.const (.int .i64 8)) u8 (.int .i64 8) fun v_d=>
ifK v_d (
aq (BJ P 109 u7 u8) fun v_f=>
dj P 53 H n fun v_g H_h n_i=>
aq (bV P 53 v_g v_f H_h) fun H_l=>
aq (aV P 109 u2 u8) fun v_n=>
aq (ax P 53 v_n 0) fun v_o=>
aq (aW v_o) fun a_p=>aq (az P H_l 3 a_p) fun v_q=>
aq (ax P 53 v_g 0) fun v_r=>
aq (aW v_r) fun a_s=>aq (az P H_l 3 a_s) fun v_t=>
binK P .add 3 (.tmp 15) (.tmp 17) v_q v_t fun v_u=>
aq (aV P 109 u2 u8) fun v_v=>
aq (ax P 53 v_v 0) fun v_w=>
aq (bV P 3 v_w v_u H_l) fun H_y=>
aq (aV P 109 u2 u8) fun v_10=>
aq (ax P 53 v_10 1) fun v_11=>
aq (aW v_11) fun a_12=>aq (az P H_y 3 a_12) fun v_13=>
aq (ax P 53 v_g 1) fun v_14=>
aq (aW v_14) fun a_15=>aq (az P H_y 3 a_15) fun v_16=>
binK P .add 3 (.tmp 24) (.tmp 26) v_13 v_16 fun v_17=>
aq (aV P 109 u2 u8) fun v_18=>
aq (ax P 53 v_18 1) fun v_19=>
aq (bV P 3 v_19 v_17 H_y) fun H_1b=>
binK P .add 3 (.tmp 8) (.const (.int .i64 1)) u8 (.int .i64 1) fun v_1c=>
b1 u2 u4 u7 v_1c H_1b n_i) (
aq (aW u2) fun a_1f=>aq (az P H 109 a_1f) fun v_1e=>
aq (bV P 109 u4 v_1e H) fun H_1h=>
aq (resV P (Tr.set Tr.nil 4 (some u4)) H_1h gW) fun v_1i=>some (oneV v_1i,H_1h,n))
noncomputable def XX(cal:Cal)(k m1:Nat)(b1:V4)(u2 u4 u7 u8:Value)(H:Hp)(n:Nat):Res:=B103_1 cal k m1 b1 u2 u4 u7 u8 H n
noncomputable def XY(cal:Cal)(k:Nat):Nat→V4:=fun m=>Nat.rec (motive:=fun _=>V4) (XX cal k 0 (fun _ _ _ _ _ _=>none)) (fun m ih=>XX cal k (m+1) ih) m
theorem h103_1(cal:Cal)(k m1:Nat)(u2 u4 u7 u8:Value)(H:Hp)(n:Nat):labK (E103_1 cal k m1) (Tr.set (Tr.set (Tr.set (Tr.set Tr.nil 8 (some u8)) 7 (some u7)) 4 (some u4)) 2 (some u2)) H n []=XX cal k m1 (R103_1 cal k m1) u2 u4 u7 u8 H n:=by
 refine Eq.trans (b:=B103_1 cal k m1 (R103_1 cal k m1) u2 u4 u7 u8 H n) (by kernel_rfl) ?_
 rw[XX]
theorem q103_1(cal:Cal)(k:Nat):∀(m:Nat) (u2 u4 u7 u8:Value) (H:Hp) (n:Nat),labK (E103_1 cal k m) (Tr.set (Tr.set (Tr.set (Tr.set Tr.nil 8 (some u8)) 7 (some u7)) 4 (some u4)) 2 (some u2)) H n []=XY cal k m u2 u4 u7 u8 H n
 | 0,u2,u4,u7,u8,H,n=>by
  rw[h103_1]
  have e:R103_1 cal k 0=fun _ _ _ _ _ _=>none:=by funext u2 u4 u7 u8 H n; kernel_rfl
  rw[e]; rfl
 | m+1,u2,u4,u7,u8,H,n=>by
  rw[h103_1]
  have e:R103_1 cal k (m+1)=XY cal k m:=by
   funext u2 u4 u7 u8 H n
   have e:R103_1 cal k (m+1) u2 u4 u7 u8 H n=labK (E103_1 cal k m) (Tr.set (Tr.set (Tr.set (Tr.set Tr.nil 8 (some u8)) 7 (some u7)) 4 (some u4)) 2 (some u2)) H n []:=by kernel_rfl
   rw[e]; exact q103_1 ..
  rw[e]; rfl
noncomputable def B103_0(cal:Cal)(k:Nat)(j1:V4)(v0 v1:Value)(H:Hp)(n:Nat):Res:=
boxK 109 v0 H n fun v_1 H_2 n_3=>
boxK 109 v1 H_2 n_3 fun v_4 H_5 n_6=>
dj P 109 H_5 n_6 fun v_7 H_8 n_9=>
aq (aW v_4) fun a_b=>aq (az P H_8 109 a_b) fun v_a=>
j1 v_1 v_7 v_a (.int .i64 0) H_8 n_9
noncomputable def XZ(cal:Cal)(k:Nat)(v0 v1:Value)(H:Hp)(n:Nat):Res:=B103_0 cal k (XY cal k k) v0 v1 H n
theorem h103_0(cal:Cal)(k:Nat)(v0 v1:Value)(H:Hp)(n:Nat):aK P cal A (k+1) 103 [v0,v1] H n=XZ cal k v0 v1 H n:=by
 have h:aK P cal A (k+1) 103 [v0,v1] H n=B103_0 cal k (fun u2 u4 u7 u8 H n=>labK (E103_1 cal k k) (Tr.set (Tr.set (Tr.set (Tr.set Tr.nil 8 (some u8)) 7 (some u7)) 4 (some u4)) 2 (some u2)) H n []) v0 v1 H n:=by
  rw[bX (fn:=Go.Proofs.Try.f103) (c:=tZ) (rs:=gW) (by kernel_rfl) (by kernel_rfl) (by kernel_rfl) (by kernel_rfl)]
  kernel_rfl
 rw[h,XZ]
 have e1:(fun u2 u4 u7 u8 H n=>labK (E103_1 cal k k) (Tr.set (Tr.set (Tr.set (Tr.set Tr.nil 8 (some u8)) 7 (some u7)) 4 (some u4)) 2 (some u2)) H n [])=(XY cal k k):=by funext u2 u4 u7 u8 H n; exact q103_1 ..
 rw[e1]
noncomputable def AJ:Code:=cW 104
noncomputable def kJ:List ResultVar:=eX 104
noncomputable def K104_p(cal:Cal)(k:Nat):KR:=(cutK (A 104).c (ay P cal (aw P cal k) none 104 (cR AJ) (Lv.b (A 104)) (av P kJ) X0 (av P kJ)))
noncomputable def Ek(cal:Cal)(k:Nat):XR:=(upX 0 (av P kJ) X0)
noncomputable def Vq(cal:Cal)(k:Nat)(m1:Nat):KR:=(fun T H n D=>aw P cal m1 (Lv.a (Lv.b (A 104))) none 104 (cL (cR AJ)) (av P kJ) (Ek cal k) (av P kJ) (cutT (Lv.a (Lv.b (A 104))).c T) H n D)
noncomputable def K104_prll(cal:Cal)(k:Nat)(m1:Nat):KR:=(cutK (Lv.a (Lv.a (Lv.b (A 104)))).c (ay P cal (aw P cal m1) none 104 (cR (cL (cL (cR AJ)))) (Lv.b (Lv.a (Lv.a (Lv.b (A 104))))) (Vq cal k m1) (Ek cal k) (av P kJ)))
noncomputable def K104_prllr(cal:Cal)(k:Nat)(m1:Nat):KR:=(cutK (Lv.b (Lv.a (Lv.a (Lv.b (A 104))))).c (ay P cal (aw P cal m1) none 104 (cR (cR (cL (cL (cR AJ))))) (Lv.b (Lv.b (Lv.a (Lv.a (Lv.b (A 104)))))) (Vq cal k m1) (Ek cal k) (av P kJ)))
noncomputable def NJ(cal:Cal)(k:Nat)(m1:Nat):KR:=(cutK (Lv.b (Lv.b (Lv.a (Lv.a (Lv.b (A 104)))))).c (ay P cal (aw P cal m1) none 104 (cR (cR (cR (cL (cL (cR AJ)))))) (Lv.b (Lv.b (Lv.b (Lv.a (Lv.a (Lv.b (A 104))))))) (Vq cal k m1) (Ek cal k) (av P kJ)))
noncomputable def K104_pxrllrrl(cal:Cal)(k:Nat)(m1:Nat):XR:=(upX 1 (NJ cal k m1) (Ek cal k))
noncomputable def K104_prllrrll(cal:Cal)(k:Nat)(m1:Nat):KR:=(cutK (Lv.a (Lv.a (Lv.b (Lv.b (Lv.a (Lv.a (Lv.b (A 104)))))))).c (ay P cal (aw P cal m1) none 104 (cR (cL (cL (cR (cR (cL (cL (cR AJ)))))))) (Lv.b (Lv.a (Lv.a (Lv.b (Lv.b (Lv.a (Lv.a (Lv.b (A 104))))))))) (NJ cal k m1) (K104_pxrllrrl cal k m1) (av P kJ)))
noncomputable def K104_prllrrllr(cal:Cal)(k:Nat)(m1:Nat):KR:=(cutK (Lv.b (Lv.a (Lv.a (Lv.b (Lv.b (Lv.a (Lv.a (Lv.b (A 104))))))))).c (ay P cal (aw P cal m1) none 104 (cR (cR (cL (cL (cR (cR (cL (cL (cR AJ))))))))) (Lv.b (Lv.b (Lv.a (Lv.a (Lv.b (Lv.b (Lv.a (Lv.a (Lv.b (A 104)))))))))) (NJ cal k m1) (K104_pxrllrrl cal k m1) (av P kJ)))
noncomputable def E104_1(cal:Cal)(k m1:Nat):KR:=ay P cal (aw P cal m1) none 104 (cL (cL (cR AJ))) (Lv.a (Lv.a (Lv.b (A 104)))) (Vq cal k m1) (Ek cal k) (av P kJ)
noncomputable def R104_1(cal:Cal)(k m1:Nat):V4:=fun u0 u2 u6 u7 H n=>aw P cal m1 (Lv.a (Lv.b (A 104))) none 104 (cL (cR AJ)) (av P kJ) (Ek cal k) (av P kJ) (Tr.set (Tr.set (Tr.set (Tr.set Tr.nil 7 (some u7)) 6 (some u6)) 2 (some u2)) 0 (some u0)) H n []
noncomputable def B104_1(cal:Cal)(k m1:Nat)(b1:V4)(u0 u2 u6 u7:Value)(H:Hp)(n:Nat):Res:=
binK P .lss 3 (.tmp 7) (.const (.int .i64 8)) u7 (.int .i64 8) fun v_4=>
ifK v_4 (
aq (BJ P 119 u6 u7) fun v_6=>
binK P .neq 3 (.tmp 11) (.const (.int .i64 (-1))) v_6 (.int .i64 (-1)) fun v_a=>
aX v_a true (fun k_c=>
k_c u0 H n) H n fun v_d H_e n_f=>
aX v_a true (fun k_h=>
k_h u7 H_e n_f) H_e n_f fun v_i H_j n_k=>
aX v_a true (fun k_m=>
aq (aW u2) fun a_r=>aq (az P H_j 103 a_r) fun v_q=>
k_m v_q H_j n_k) H_j n_k fun v_n H_o n_p=>
aX v_a true (fun k_s=>
k_s u7 H_o n_p) H_o n_p fun v_t H_u n_v=>
aX v_a true (fun k_x=>
k_x v_6 H_u n_v) H_u n_v fun v_y H_z n_10=>
aX v_a true (fun k_12=>
aq (nilV v_n) fun v_16=>
k_12 v_16 H_z n_10) H_z n_10 fun v_13 H_14 n_15=>
aX v_a true (fun k_17=>
aq (ax P 115 v_13 2) fun v_1b=>
k_17 v_1b H_14 n_15) H_14 n_15 fun v_18 H_19 n_1a=>
aX v_a true (fun k_1c=>
aq (aV P 113 v_18 v_t) fun v_1g=>
k_1c v_1g H_19 n_1a) H_19 n_1a fun v_1d H_1e n_1f=>
aX v_a true (fun k_1h=>
aq (aV P 112 v_1d v_y) fun v_1l=>
k_1h v_1l H_1e n_1f) H_1e n_1f fun v_1i H_1j n_1k=>
aX v_a true (fun k_1m=>
aq (aW v_1i) fun a_1r=>aq (az P H_1j 111 a_1r) fun v_1q=>
k_1m v_1q H_1j n_1k) H_1j n_1k fun v_1n H_1o n_1p=>
aX v_a true (fun k_1s=>
jy P cal v_d [v_i,v_1n] H_1o n_1p fun v_1w H_1x n_1y=>
k_1s v_1w H_1x n_1y) H_1o n_1p fun v_1t H_1u n_1v=>
aX v_a true (fun k_1z=>
aq (fY P v_1t (Op.unary UnOp.not v_1t)) fun v_23=>
k_1z v_23 H_1u n_1v) H_1u n_1v fun v_20 H_21 n_22=>
aq (fJ v_a v_20 (.bool false)) fun v_24=>
ifK v_24 (
some ((Value.tuple ⟨[]⟩),H_21,n_22)) (
binK P .add 3 (.tmp 7) (.const (.int .i64 1)) u7 (.int .i64 1) fun v_25=>
b1 u0 u2 u6 v_25 H_21 n_22)) (
some ((Value.tuple ⟨[]⟩),H,n))
noncomputable def XK(cal:Cal)(k m1:Nat)(b1:V4)(u0 u2 u6 u7:Value)(H:Hp)(n:Nat):Res:=B104_1 cal k m1 b1 u0 u2 u6 u7 H n
noncomputable def S104_1(cal:Cal)(k:Nat):Nat→V4:=fun m=>Nat.rec (motive:=fun _=>V4) (XK cal k 0 (fun _ _ _ _ _ _=>none)) (fun m ih=>XK cal k (m+1) ih) m
theorem h104_1(cal:Cal)(k m1:Nat)(u0 u2 u6 u7:Value)(H:Hp)(n:Nat):labK (E104_1 cal k m1) (Tr.set (Tr.set (Tr.set (Tr.set Tr.nil 7 (some u7)) 6 (some u6)) 2 (some u2)) 0 (some u0)) H n []=XK cal k m1 (R104_1 cal k m1) u0 u2 u6 u7 H n:=by
 refine Eq.trans (b:=B104_1 cal k m1 (R104_1 cal k m1) u0 u2 u6 u7 H n) (by kernel_rfl) ?_
 rw[XK]
theorem q104_1(cal:Cal)(k:Nat):∀(m:Nat) (u0 u2 u6 u7:Value) (H:Hp) (n:Nat),labK (E104_1 cal k m) (Tr.set (Tr.set (Tr.set (Tr.set Tr.nil 7 (some u7)) 6 (some u6)) 2 (some u2)) 0 (some u0)) H n []=S104_1 cal k m u0 u2 u6 u7 H n
 | 0,u0,u2,u6,u7,H,n=>by
  rw[h104_1]
  have e:R104_1 cal k 0=fun _ _ _ _ _ _=>none:=by funext u0 u2 u6 u7 H n; kernel_rfl
  rw[e]; rfl
 | m+1,u0,u2,u6,u7,H,n=>by
  rw[h104_1]
  have e:R104_1 cal k (m+1)=S104_1 cal k m:=by
   funext u0 u2 u6 u7 H n
   have e:R104_1 cal k (m+1) u0 u2 u6 u7 H n=labK (E104_1 cal k m) (Tr.set (Tr.set (Tr.set (Tr.set Tr.nil 7 (some u7)) 6 (some u6)) 2 (some u2)) 0 (some u0)) H n []:=by kernel_rfl
   rw[e]; exact q104_1 ..
  rw[e]; rfl
noncomputable def B104_0(cal:Cal)(k:Nat)(j1:V4)(v0 v1 v2:Value)(H:Hp)(n:Nat):Res:=
aq (aW v1) fun a_2=>aq (az P H 119 a_2) fun v_1=>
j1 v0 v2 v_1 (.int .i64 0) H n
noncomputable def KQ(cal:Cal)(k:Nat)(v0 v1 v2:Value)(H:Hp)(n:Nat):Res:=B104_0 cal k (S104_1 cal k k) v0 v1 v2 H n
theorem h104_0(cal:Cal)(k:Nat)(v0 v1 v2:Value)(H:Hp)(n:Nat):aK P cal A (k+1) 104 [v0,v1,v2] H n=KQ cal k v0 v1 v2 H n:=by
 have h:aK P cal A (k+1) 104 [v0,v1,v2] H n=B104_0 cal k (fun u0 u2 u6 u7 H n=>labK (E104_1 cal k k) (Tr.set (Tr.set (Tr.set (Tr.set Tr.nil 7 (some u7)) 6 (some u6)) 2 (some u2)) 0 (some u0)) H n []) v0 v1 v2 H n:=by
  rw[bX (fn:=Go.Proofs.Try.f104) (c:=AJ) (rs:=kJ) (by kernel_rfl) (by kernel_rfl) (by kernel_rfl) (by kernel_rfl)]
  kernel_rfl
 rw[h,KQ]
 have e1:(fun u0 u2 u6 u7 H n=>labK (E104_1 cal k k) (Tr.set (Tr.set (Tr.set (Tr.set Tr.nil 7 (some u7)) 6 (some u6)) 2 (some u2)) 0 (some u0)) H n [])=(S104_1 cal k k):=by funext u0 u2 u6 u7 H n; exact q104_1 ..
 rw[e1]
noncomputable def vz:Code:=cW 105
noncomputable def jk:List ResultVar:=eX 105
noncomputable def K105_p(cal:Cal)(k:Nat):KR:=(cutK (A 105).c (ay P cal (aw P cal k) none 105 (cR vz) (Lv.b (A 105)) (av P jk) X0 (av P jk)))
noncomputable def qej(cal:Cal)(k:Nat):KR:=(cutK (Lv.b (A 105)).c (ay P cal (aw P cal k) none 105 (cR (cR vz)) (Lv.b (Lv.b (A 105))) (av P jk) X0 (av P jk)))
noncomputable def K105_prl(cal:Cal)(k:Nat):KR:=(cutK (Lv.a (Lv.b (A 105))).c (ay P cal (aw P cal k) none 105 (cR (cL (cR vz))) (Lv.b (Lv.a (Lv.b (A 105)))) (qej cal k) X0 (av P jk)))
noncomputable def wv(cal:Cal)(k:Nat):XR:=(upX 0 (qej cal k) X0)
noncomputable def KV(cal:Cal)(k:Nat)(m1:Nat):KR:=(fun T H n D=>aw P cal m1 (Lv.a (Lv.b (Lv.a (Lv.b (A 105))))) none 105 (cL (cR (cL (cR vz)))) (qej cal k) (wv cal k) (av P jk) (cutT (Lv.a (Lv.b (Lv.a (Lv.b (A 105))))).c T) H n D)
noncomputable def K105_prlrll(cal:Cal)(k:Nat)(m1:Nat):KR:=(cutK (Lv.a (Lv.a (Lv.b (Lv.a (Lv.b (A 105)))))).c (ay P cal (aw P cal m1) none 105 (cR (cL (cL (cR (cL (cR vz)))))) (Lv.b (Lv.a (Lv.a (Lv.b (Lv.a (Lv.b (A 105))))))) (KV cal k m1) (wv cal k) (av P jk)))
noncomputable def K105_prlrllr(cal:Cal)(k:Nat)(m1:Nat):KR:=(cutK (Lv.b (Lv.a (Lv.a (Lv.b (Lv.a (Lv.b (A 105))))))).c (ay P cal (aw P cal m1) none 105 (cR (cR (cL (cL (cR (cL (cR vz))))))) (Lv.b (Lv.b (Lv.a (Lv.a (Lv.b (Lv.a (Lv.b (A 105)))))))) (KV cal k m1) (wv cal k) (av P jk)))
noncomputable def K105_prlrllrr(cal:Cal)(k:Nat)(m1:Nat):KR:=(cutK (Lv.b (Lv.b (Lv.a (Lv.a (Lv.b (Lv.a (Lv.b (A 105)))))))).c (ay P cal (aw P cal m1) none 105 (cR (cR (cR (cL (cL (cR (cL (cR vz)))))))) (Lv.b (Lv.b (Lv.b (Lv.a (Lv.a (Lv.b (Lv.a (Lv.b (A 105))))))))) (KV cal k m1) (wv cal k) (av P jk)))
noncomputable def K105_pxrlrllrrl(cal:Cal)(k:Nat)(m1:Nat):XR:=(upX 1 (K105_prlrllrr cal k m1) (wv cal k))
noncomputable def K105_prlrllrrll(cal:Cal)(k:Nat)(m1:Nat):KR:=(cutK (Lv.a (Lv.a (Lv.b (Lv.b (Lv.a (Lv.a (Lv.b (Lv.a (Lv.b (A 105)))))))))).c (ay P cal (aw P cal m1) none 105 (cR (cL (cL (cR (cR (cL (cL (cR (cL (cR vz)))))))))) (Lv.b (Lv.a (Lv.a (Lv.b (Lv.b (Lv.a (Lv.a (Lv.b (Lv.a (Lv.b (A 105))))))))))) (K105_prlrllrr cal k m1) (K105_pxrlrllrrl cal k m1) (av P jk)))
noncomputable def K105_prr(cal:Cal)(k:Nat):KR:=(cutK (Lv.b (Lv.b (A 105))).c (ay P cal (aw P cal k) none 105 (cR (cR (cR vz))) (Lv.b (Lv.b (Lv.b (A 105)))) (av P jk) X0 (av P jk)))
noncomputable def E105_1(cal:Cal)(k m1:Nat):KR:=ay P cal (aw P cal m1) none 105 (cL (cL (cR (cL (cR vz))))) (Lv.a (Lv.a (Lv.b (Lv.a (Lv.b (A 105)))))) (KV cal k m1) (wv cal k) (av P jk)
noncomputable def R105_1(cal:Cal)(k m1:Nat):V4:=fun u0 u7 u8 u9 H n=>aw P cal m1 (Lv.a (Lv.b (Lv.a (Lv.b (A 105))))) none 105 (cL (cR (cL (cR vz)))) (qej cal k) (wv cal k) (av P jk) (Tr.set (Tr.set (Tr.set (Tr.set Tr.nil 9 (some u9)) 8 (some u8)) 7 (some u7)) 0 (some u0)) H n []
noncomputable def B105_1(cal:Cal)(k m1:Nat)(b1:V4)(u0 u7 u8 u9:Value)(H:Hp)(n:Nat):Res:=
binK P .lss 3 (.tmp 9) (.tmp 8) u9 u8 fun v_5=>
ifK v_5 (
aq (aV P 44 u7 u9) fun v_6=>
aq (aW v_6) fun a_8=>aq (az P H 3 a_8) fun v_7=>
Dv P .min [3,3] (Call.mk (Callee.builtin Builtin.min) #[(.tmp 13),(.tmp 14)] #[3,3]) 3 [u0,v_7] H n fun v_c H_d n_e=>
binK P .add 3 (.tmp 9) (.const (.int .i64 1)) u9 (.int .i64 1) fun v_g=>
b1 v_c u7 u8 v_g H_d n_e) (
some (u0,H,n))
noncomputable def SV(cal:Cal)(k m1:Nat)(b1:V4)(u0 u7 u8 u9:Value)(H:Hp)(n:Nat):Res:=B105_1 cal k m1 b1 u0 u7 u8 u9 H n
noncomputable def GV(cal:Cal)(k:Nat):Nat→V4:=fun m=>Nat.rec (motive:=fun _=>V4) (SV cal k 0 (fun _ _ _ _ _ _=>none)) (fun m ih=>SV cal k (m+1) ih) m
theorem h105_1(cal:Cal)(k m1:Nat)(u0 u7 u8 u9:Value)(H:Hp)(n:Nat):labK (E105_1 cal k m1) (Tr.set (Tr.set (Tr.set (Tr.set Tr.nil 9 (some u9)) 8 (some u8)) 7 (some u7)) 0 (some u0)) H n []=SV cal k m1 (R105_1 cal k m1) u0 u7 u8 u9 H n:=by
 refine Eq.trans (b:=B105_1 cal k m1 (R105_1 cal k m1) u0 u7 u8 u9 H n) (by kernel_rfl) ?_
 rw[SV]
theorem q105_1(cal:Cal)(k:Nat):∀(m:Nat) (u0 u7 u8 u9:Value) (H:Hp) (n:Nat),labK (E105_1 cal k m) (Tr.set (Tr.set (Tr.set (Tr.set Tr.nil 9 (some u9)) 8 (some u8)) 7 (some u7)) 0 (some u0)) H n []=GV cal k m u0 u7 u8 u9 H n
 | 0,u0,u7,u8,u9,H,n=>by
  rw[h105_1]
  have e:R105_1 cal k 0=fun _ _ _ _ _ _=>none:=by funext u0 u7 u8 u9 H n; kernel_rfl
  rw[e]; rfl
 | m+1,u0,u7,u8,u9,H,n=>by
  rw[h105_1]
  have e:R105_1 cal k (m+1)=GV cal k m:=by
   funext u0 u7 u8 u9 H n
   have e:R105_1 cal k (m+1) u0 u7 u8 u9 H n=labK (E105_1 cal k m) (Tr.set (Tr.set (Tr.set (Tr.set Tr.nil 9 (some u9)) 8 (some u8)) 7 (some u7)) 0 (some u0)) H n []:=by kernel_rfl
   rw[e]; exact q105_1 ..
  rw[e]; rfl
noncomputable def B105_0(cal:Cal)(k:Nat)(j1:V4)(v0 v1:Value)(H:Hp)(n:Nat):Res:=
aq (lenV P 44 v1) fun v_3=>
j1 v0 v1 v_3 (.int .i64 0) H n
noncomputable def Yj(cal:Cal)(k:Nat)(v0 v1:Value)(H:Hp)(n:Nat):Res:=B105_0 cal k (GV cal k k) v0 v1 H n
theorem h105_0(cal:Cal)(k:Nat)(v0 v1:Value)(H:Hp)(n:Nat):aK P cal A (k+1) 105 [v0,v1] H n=Yj cal k v0 v1 H n:=by
 have h:aK P cal A (k+1) 105 [v0,v1] H n=B105_0 cal k (fun u0 u7 u8 u9 H n=>labK (E105_1 cal k k) (Tr.set (Tr.set (Tr.set (Tr.set Tr.nil 9 (some u9)) 8 (some u8)) 7 (some u7)) 0 (some u0)) H n []) v0 v1 H n:=by
  rw[bX (fn:=Go.Proofs.Try.f105) (c:=vz) (rs:=jk) (by kernel_rfl) (by kernel_rfl) (by kernel_rfl) (by kernel_rfl)]
  kernel_rfl
 rw[h,Yj]
 have e1:(fun u0 u7 u8 u9 H n=>labK (E105_1 cal k k) (Tr.set (Tr.set (Tr.set (Tr.set Tr.nil 9 (some u9)) 8 (some u8)) 7 (some u7)) 0 (some u0)) H n [])=(GV cal k k):=by funext u0 u7 u8 u9 H n; exact q105_1 ..
 rw[e1]
noncomputable def vk:Code:=cW 106
noncomputable def jJ:List ResultVar:=eX 106
noncomputable def K106_p(cal:Cal)(k:Nat):KR:=(cutK (A 106).c (ay P cal (aw P cal k) none 106 (cR vk) (Lv.b (A 106)) (av P jJ) X0 (av P jJ)))
noncomputable def qek(cal:Cal)(k:Nat):KR:=(cutK (Lv.b (A 106)).c (ay P cal (aw P cal k) none 106 (cR (cR vk)) (Lv.b (Lv.b (A 106))) (av P jJ) X0 (av P jJ)))
noncomputable def K106_prl(cal:Cal)(k:Nat):KR:=(cutK (Lv.a (Lv.b (A 106))).c (ay P cal (aw P cal k) none 106 (cR (cL (cR vk))) (Lv.b (Lv.a (Lv.b (A 106)))) (qek cal k) X0 (av P jJ)))
noncomputable def wx(cal:Cal)(k:Nat):XR:=(upX 0 (qek cal k) X0)
noncomputable def KW(cal:Cal)(k:Nat)(m1:Nat):KR:=(fun T H n D=>aw P cal m1 (Lv.a (Lv.b (Lv.a (Lv.b (A 106))))) none 106 (cL (cR (cL (cR vk)))) (qek cal k) (wx cal k) (av P jJ) (cutT (Lv.a (Lv.b (Lv.a (Lv.b (A 106))))).c T) H n D)
noncomputable def K106_prlrll(cal:Cal)(k:Nat)(m1:Nat):KR:=(cutK (Lv.a (Lv.a (Lv.b (Lv.a (Lv.b (A 106)))))).c (ay P cal (aw P cal m1) none 106 (cR (cL (cL (cR (cL (cR vk)))))) (Lv.b (Lv.a (Lv.a (Lv.b (Lv.a (Lv.b (A 106))))))) (KW cal k m1) (wx cal k) (av P jJ)))
noncomputable def K106_prlrllr(cal:Cal)(k:Nat)(m1:Nat):KR:=(cutK (Lv.b (Lv.a (Lv.a (Lv.b (Lv.a (Lv.b (A 106))))))).c (ay P cal (aw P cal m1) none 106 (cR (cR (cL (cL (cR (cL (cR vk))))))) (Lv.b (Lv.b (Lv.a (Lv.a (Lv.b (Lv.a (Lv.b (A 106)))))))) (KW cal k m1) (wx cal k) (av P jJ)))
noncomputable def K106_prlrllrr(cal:Cal)(k:Nat)(m1:Nat):KR:=(cutK (Lv.b (Lv.b (Lv.a (Lv.a (Lv.b (Lv.a (Lv.b (A 106)))))))).c (ay P cal (aw P cal m1) none 106 (cR (cR (cR (cL (cL (cR (cL (cR vk)))))))) (Lv.b (Lv.b (Lv.b (Lv.a (Lv.a (Lv.b (Lv.a (Lv.b (A 106))))))))) (KW cal k m1) (wx cal k) (av P jJ)))
noncomputable def K106_pxrlrllrrl(cal:Cal)(k:Nat)(m1:Nat):XR:=(upX 1 (K106_prlrllrr cal k m1) (wx cal k))
noncomputable def K106_prlrllrrll(cal:Cal)(k:Nat)(m1:Nat):KR:=(cutK (Lv.a (Lv.a (Lv.b (Lv.b (Lv.a (Lv.a (Lv.b (Lv.a (Lv.b (A 106)))))))))).c (ay P cal (aw P cal m1) none 106 (cR (cL (cL (cR (cR (cL (cL (cR (cL (cR vk)))))))))) (Lv.b (Lv.a (Lv.a (Lv.b (Lv.b (Lv.a (Lv.a (Lv.b (Lv.a (Lv.b (A 106))))))))))) (K106_prlrllrr cal k m1) (K106_pxrlrllrrl cal k m1) (av P jJ)))
noncomputable def K106_prr(cal:Cal)(k:Nat):KR:=(cutK (Lv.b (Lv.b (A 106))).c (ay P cal (aw P cal k) none 106 (cR (cR (cR vk))) (Lv.b (Lv.b (Lv.b (A 106)))) (av P jJ) X0 (av P jJ)))
noncomputable def E106_1(cal:Cal)(k m1:Nat):KR:=ay P cal (aw P cal m1) none 106 (cL (cL (cR (cL (cR vk))))) (Lv.a (Lv.a (Lv.b (Lv.a (Lv.b (A 106)))))) (KW cal k m1) (wx cal k) (av P jJ)
noncomputable def R106_1(cal:Cal)(k m1:Nat):V4:=fun u0 u7 u8 u9 H n=>aw P cal m1 (Lv.a (Lv.b (Lv.a (Lv.b (A 106))))) none 106 (cL (cR (cL (cR vk)))) (qek cal k) (wx cal k) (av P jJ) (Tr.set (Tr.set (Tr.set (Tr.set Tr.nil 9 (some u9)) 8 (some u8)) 7 (some u7)) 0 (some u0)) H n []
noncomputable def B106_1(cal:Cal)(k m1:Nat)(b1:V4)(u0 u7 u8 u9:Value)(H:Hp)(n:Nat):Res:=
binK P .lss 3 (.tmp 9) (.tmp 8) u9 u8 fun v_5=>
ifK v_5 (
aq (aV P 44 u7 u9) fun v_6=>
aq (aW v_6) fun a_8=>aq (az P H 3 a_8) fun v_7=>
Dv P .max [3,3] (Call.mk (Callee.builtin Builtin.max) #[(.tmp 13),(.tmp 14)] #[3,3]) 3 [u0,v_7] H n fun v_c H_d n_e=>
binK P .add 3 (.tmp 9) (.const (.int .i64 1)) u9 (.int .i64 1) fun v_g=>
b1 v_c u7 u8 v_g H_d n_e) (
some (u0,H,n))
noncomputable def SW(cal:Cal)(k m1:Nat)(b1:V4)(u0 u7 u8 u9:Value)(H:Hp)(n:Nat):Res:=B106_1 cal k m1 b1 u0 u7 u8 u9 H n
noncomputable def GW(cal:Cal)(k:Nat):Nat→V4:=fun m=>Nat.rec (motive:=fun _=>V4) (SW cal k 0 (fun _ _ _ _ _ _=>none)) (fun m ih=>SW cal k (m+1) ih) m
theorem h106_1(cal:Cal)(k m1:Nat)(u0 u7 u8 u9:Value)(H:Hp)(n:Nat):labK (E106_1 cal k m1) (Tr.set (Tr.set (Tr.set (Tr.set Tr.nil 9 (some u9)) 8 (some u8)) 7 (some u7)) 0 (some u0)) H n []=SW cal k m1 (R106_1 cal k m1) u0 u7 u8 u9 H n:=by
 refine Eq.trans (b:=B106_1 cal k m1 (R106_1 cal k m1) u0 u7 u8 u9 H n) (by kernel_rfl) ?_
 rw[SW]
theorem q106_1(cal:Cal)(k:Nat):∀(m:Nat) (u0 u7 u8 u9:Value) (H:Hp) (n:Nat),labK (E106_1 cal k m) (Tr.set (Tr.set (Tr.set (Tr.set Tr.nil 9 (some u9)) 8 (some u8)) 7 (some u7)) 0 (some u0)) H n []=GW cal k m u0 u7 u8 u9 H n
 | 0,u0,u7,u8,u9,H,n=>by
  rw[h106_1]
  have e:R106_1 cal k 0=fun _ _ _ _ _ _=>none:=by funext u0 u7 u8 u9 H n; kernel_rfl
  rw[e]; rfl
 | m+1,u0,u7,u8,u9,H,n=>by
  rw[h106_1]
  have e:R106_1 cal k (m+1)=GW cal k m:=by
   funext u0 u7 u8 u9 H n
   have e:R106_1 cal k (m+1) u0 u7 u8 u9 H n=labK (E106_1 cal k m) (Tr.set (Tr.set (Tr.set (Tr.set Tr.nil 9 (some u9)) 8 (some u8)) 7 (some u7)) 0 (some u0)) H n []:=by kernel_rfl
   rw[e]; exact q106_1 ..
  rw[e]; rfl
noncomputable def B106_0(cal:Cal)(k:Nat)(j1:V4)(v0 v1:Value)(H:Hp)(n:Nat):Res:=
aq (lenV P 44 v1) fun v_3=>
j1 v0 v1 v_3 (.int .i64 0) H n
noncomputable def Yq(cal:Cal)(k:Nat)(v0 v1:Value)(H:Hp)(n:Nat):Res:=B106_0 cal k (GW cal k k) v0 v1 H n
theorem h106_0(cal:Cal)(k:Nat)(v0 v1:Value)(H:Hp)(n:Nat):aK P cal A (k+1) 106 [v0,v1] H n=Yq cal k v0 v1 H n:=by
 have h:aK P cal A (k+1) 106 [v0,v1] H n=B106_0 cal k (fun u0 u7 u8 u9 H n=>labK (E106_1 cal k k) (Tr.set (Tr.set (Tr.set (Tr.set Tr.nil 9 (some u9)) 8 (some u8)) 7 (some u7)) 0 (some u0)) H n []) v0 v1 H n:=by
  rw[bX (fn:=Go.Proofs.Try.f106) (c:=vk) (rs:=jJ) (by kernel_rfl) (by kernel_rfl) (by kernel_rfl) (by kernel_rfl)]
  kernel_rfl
 rw[h,Yq]
 have e1:(fun u0 u7 u8 u9 H n=>labK (E106_1 cal k k) (Tr.set (Tr.set (Tr.set (Tr.set Tr.nil 9 (some u9)) 8 (some u8)) 7 (some u7)) 0 (some u0)) H n [])=(GW cal k k):=by funext u0 u7 u8 u9 H n; exact q106_1 ..
 rw[e1]
noncomputable def AQ:Code:=cW 107
noncomputable def jQ:List ResultVar:=eX 107
noncomputable def K107_p(cal:Cal)(k:Nat):KR:=(cutK (A 107).c (ay P cal (aw P cal k) none 107 (cR AQ) (Lv.b (A 107)) (av P jQ) X0 (av P jQ)))
noncomputable def K107_pr(cal:Cal)(k:Nat):KR:=(cutK (Lv.b (A 107)).c (ay P cal (aw P cal k) none 107 (cR (cR AQ)) (Lv.b (Lv.b (A 107))) (av P jQ) X0 (av P jQ)))
noncomputable def Qj(cal:Cal)(k:Nat):XR:=(upX 0 (av P jQ) X0)
noncomputable def Qq(cal:Cal)(k:Nat)(m1:Nat):KR:=(fun T H n D=>aw P cal m1 (Lv.a (Lv.b (Lv.b (A 107)))) none 107 (cL (cR (cR AQ))) (av P jQ) (Qj cal k) (av P jQ) (cutT (Lv.a (Lv.b (Lv.b (A 107)))).c T) H n D)
noncomputable def FW(cal:Cal)(k:Nat)(m1:Nat):XR:=(upX 1 (Qq cal k m1) (Qj cal k))
noncomputable def K107_prrlll(cal:Cal)(k:Nat)(m1:Nat):KR:=(cutK (Lv.a (Lv.a (Lv.a (Lv.b (Lv.b (A 107)))))).c (ay P cal (aw P cal m1) none 107 (cR (cL (cL (cL (cR (cR AQ)))))) (Lv.b (Lv.a (Lv.a (Lv.a (Lv.b (Lv.b (A 107))))))) (Qq cal k m1) (FW cal k m1) (av P jQ)))
noncomputable def K107_prrlllr(cal:Cal)(k:Nat)(m1:Nat):KR:=(cutK (Lv.b (Lv.a (Lv.a (Lv.a (Lv.b (Lv.b (A 107))))))).c (ay P cal (aw P cal m1) none 107 (cR (cR (cL (cL (cL (cR (cR AQ))))))) (Lv.b (Lv.b (Lv.a (Lv.a (Lv.a (Lv.b (Lv.b (A 107)))))))) (Qq cal k m1) (FW cal k m1) (av P jQ)))
noncomputable def K107_prrlllrl(cal:Cal)(k:Nat)(m1:Nat):KR:=(cutK (Lv.a (Lv.b (Lv.a (Lv.a (Lv.a (Lv.b (Lv.b (A 107)))))))).c (ay P cal (aw P cal m1) none 107 (cR (cL (cR (cL (cL (cL (cR (cR AQ)))))))) (Lv.b (Lv.a (Lv.b (Lv.a (Lv.a (Lv.a (Lv.b (Lv.b (A 107))))))))) (K107_prrlllr cal k m1) (FW cal k m1) (av P jQ)))
noncomputable def K107_prrlllrlrl(cal:Cal)(k:Nat)(m1:Nat):KR:=(cutK (Lv.a (Lv.b (Lv.a (Lv.b (Lv.a (Lv.a (Lv.a (Lv.b (Lv.b (A 107)))))))))).c (ay P cal (aw P cal m1) none 107 (cR (cL (cR (cL (cR (cL (cL (cL (cR (cR AQ)))))))))) (Lv.b (Lv.a (Lv.b (Lv.a (Lv.b (Lv.a (Lv.a (Lv.a (Lv.b (Lv.b (A 107))))))))))) (K107_prrlllr cal k m1) (FW cal k m1) (av P jQ)))
noncomputable def E107_1(cal:Cal)(k m1:Nat):KR:=ay P cal (aw P cal m1) none 107 (cL (cL (cR (cR AQ)))) (Lv.a (Lv.a (Lv.b (Lv.b (A 107))))) (Qq cal k m1) (Qj cal k) (av P jQ)
noncomputable def R107_1(cal:Cal)(k m1:Nat):V2:=fun u0 u3 H n=>aw P cal m1 (Lv.a (Lv.b (Lv.b (A 107)))) none 107 (cL (cR (cR AQ))) (av P jQ) (Qj cal k) (av P jQ) (Tr.set (Tr.set Tr.nil 3 (some u3)) 0 (some u0)) H n []
noncomputable def B107_1(cal:Cal)(k m1:Nat)(b1:V2)(u0 u3:Value)(H:Hp)(n:Nat):Res:=
aY P cal 116 [u0] H n fun v_4 H_5 n_6=>
binK P .eql 3 (.tmp 7) (.const (.int .i64 0)) v_4 (.int .i64 0) fun v_9=>
ifK v_9 (
some (u3,H_5,n_6)) (
binK P .add 3 (.tmp 10) (.tmp 11) u3 v_4 fun v_e=>
b1 u0 v_e H_5 n_6)
noncomputable def Yv(cal:Cal)(k m1:Nat)(b1:V2)(u0 u3:Value)(H:Hp)(n:Nat):Res:=B107_1 cal k m1 b1 u0 u3 H n
noncomputable def SX(cal:Cal)(k:Nat):Nat→V2:=fun m=>Nat.rec (motive:=fun _=>V2) (Yv cal k 0 (fun _ _ _ _=>none)) (fun m ih=>Yv cal k (m+1) ih) m
theorem h107_1(cal:Cal)(k m1:Nat)(u0 u3:Value)(H:Hp)(n:Nat):labK (E107_1 cal k m1) (Tr.set (Tr.set Tr.nil 3 (some u3)) 0 (some u0)) H n []=Yv cal k m1 (R107_1 cal k m1) u0 u3 H n:=by
 refine Eq.trans (b:=B107_1 cal k m1 (R107_1 cal k m1) u0 u3 H n) (by kernel_rfl) ?_
 rw[Yv]
theorem q107_1(cal:Cal)(k:Nat):∀(m:Nat) (u0 u3:Value) (H:Hp) (n:Nat),labK (E107_1 cal k m) (Tr.set (Tr.set Tr.nil 3 (some u3)) 0 (some u0)) H n []=SX cal k m u0 u3 H n
 | 0,u0,u3,H,n=>by
  rw[h107_1]
  have e:R107_1 cal k 0=fun _ _ _ _=>none:=by funext u0 u3 H n; kernel_rfl
  rw[e]; rfl
 | m+1,u0,u3,H,n=>by
  rw[h107_1]
  have e:R107_1 cal k (m+1)=SX cal k m:=by
   funext u0 u3 H n
   have e:R107_1 cal k (m+1) u0 u3 H n=labK (E107_1 cal k m) (Tr.set (Tr.set Tr.nil 3 (some u3)) 0 (some u0)) H n []:=by kernel_rfl
   rw[e]; exact q107_1 ..
  rw[e]; rfl
noncomputable def B107_0(cal:Cal)(k:Nat)(j1:V2)(v0:Value)(H:Hp)(n:Nat):Res:=
j1 v0 (.int .i64 0) H n
noncomputable def Yw(cal:Cal)(k:Nat)(v0:Value)(H:Hp)(n:Nat):Res:=B107_0 cal k (SX cal k k) v0 H n
theorem h107_0(cal:Cal)(k:Nat)(v0:Value)(H:Hp)(n:Nat):aK P cal A (k+1) 107 [v0] H n=Yw cal k v0 H n:=by
 have h:aK P cal A (k+1) 107 [v0] H n=B107_0 cal k (fun u0 u3 H n=>labK (E107_1 cal k k) (Tr.set (Tr.set Tr.nil 3 (some u3)) 0 (some u0)) H n []) v0 H n:=by
  rw[bX (fn:=Go.Proofs.Try.f107) (c:=AQ) (rs:=jQ) (by kernel_rfl) (by kernel_rfl) (by kernel_rfl) (by kernel_rfl)]
  kernel_rfl
 rw[h,Yw]
 have e1:(fun u0 u3 H n=>labK (E107_1 cal k k) (Tr.set (Tr.set Tr.nil 3 (some u3)) 0 (some u0)) H n [])=(SX cal k k):=by funext u0 u3 H n; exact q107_1 ..
 rw[e1]
end Go.Proofs.Ytndkmmelelchcaa.G
