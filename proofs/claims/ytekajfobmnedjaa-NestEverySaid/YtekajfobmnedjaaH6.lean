/- The texts of functions, each with the proof that the evaluator says the same. -/
import Derived.Test.YtekajfobmnedjaaH1
open Go Go.Ev
set_option maxRecDepth 1000000
set_option linter.unusedVariables false
noncomputable section
namespace Go.Proofs.Ytekajfobmnedjaa.G
noncomputable def xK:Code:=cV 95
noncomputable def jJ:List ResultVar:=dW 95
noncomputable def K95_p (cal:Cal) (k:Nat):KR:=(cutK (A 95).c (ay P cal (aw P cal k) none 95 (cR xK) (Lv.b (A 95)) (av P jJ) X0 (av P jJ)))
noncomputable def K95_pr (cal:Cal) (k:Nat):KR:=(cutK (Lv.b (A 95)).c (ay P cal (aw P cal k) none 95 (cR (cR xK)) (Lv.b (Lv.b (A 95))) (av P jJ) X0 (av P jJ)))
noncomputable def K95_prl (cal:Cal) (k:Nat):KR:=(cutK (Lv.a (Lv.b (A 95))).c (ay P cal (aw P cal k) none 95 (cR (cL (cR xK))) (Lv.b (Lv.a (Lv.b (A 95)))) (K95_pr cal k) X0 (av P jJ)))
noncomputable def zV (cal:Cal) (k:Nat):XR:=(upX 0 (K95_pr cal k) X0)
noncomputable def Nj (cal:Cal) (k:Nat) (m1:Nat):KR:=(fun T H n D=>aw P cal m1 (Lv.a (Lv.b (Lv.a (Lv.b (A 95))))) none 95 (cL (cR (cL (cR xK)))) (K95_pr cal k) (zV cal k) (av P jJ) (cutT (Lv.a (Lv.b (Lv.a (Lv.b (A 95))))).c T) H n D)
noncomputable def K95_prlrll (cal:Cal) (k:Nat) (m1:Nat):KR:=(cutK (Lv.a (Lv.a (Lv.b (Lv.a (Lv.b (A 95)))))).c (ay P cal (aw P cal m1) none 95 (cR (cL (cL (cR (cL (cR xK)))))) (Lv.b (Lv.a (Lv.a (Lv.b (Lv.a (Lv.b (A 95))))))) (Nj cal k m1) (zV cal k) (av P jJ)))
noncomputable def K95_prlrllr (cal:Cal) (k:Nat) (m1:Nat):KR:=(cutK (Lv.b (Lv.a (Lv.a (Lv.b (Lv.a (Lv.b (A 95))))))).c (ay P cal (aw P cal m1) none 95 (cR (cR (cL (cL (cR (cL (cR xK))))))) (Lv.b (Lv.b (Lv.a (Lv.a (Lv.b (Lv.a (Lv.b (A 95)))))))) (Nj cal k m1) (zV cal k) (av P jJ)))
noncomputable def BQ (cal:Cal) (k:Nat) (m1:Nat):KR:=(cutK (Lv.b (Lv.b (Lv.a (Lv.a (Lv.b (Lv.a (Lv.b (A 95)))))))).c (ay P cal (aw P cal m1) none 95 (cR (cR (cR (cL (cL (cR (cL (cR xK)))))))) (Lv.b (Lv.b (Lv.b (Lv.a (Lv.a (Lv.b (Lv.a (Lv.b (A 95))))))))) (Nj cal k m1) (zV cal k) (av P jJ)))
noncomputable def CK (cal:Cal) (k:Nat) (m1:Nat):XR:=(upX 1 (BQ cal k m1) (zV cal k))
noncomputable def K95_prlrllrrll (cal:Cal) (k:Nat) (m1:Nat):KR:=(cutK (Lv.a (Lv.a (Lv.b (Lv.b (Lv.a (Lv.a (Lv.b (Lv.a (Lv.b (A 95)))))))))).c (ay P cal (aw P cal m1) none 95 (cR (cL (cL (cR (cR (cL (cL (cR (cL (cR xK)))))))))) (Lv.b (Lv.a (Lv.a (Lv.b (Lv.b (Lv.a (Lv.a (Lv.b (Lv.a (Lv.b (A 95))))))))))) (BQ cal k m1) (CK cal k m1) (av P jJ)))
noncomputable def K95_prlrllrrllr (cal:Cal) (k:Nat) (m1:Nat):KR:=(cutK (Lv.b (Lv.a (Lv.a (Lv.b (Lv.b (Lv.a (Lv.a (Lv.b (Lv.a (Lv.b (A 95))))))))))).c (ay P cal (aw P cal m1) none 95 (cR (cR (cL (cL (cR (cR (cL (cL (cR (cL (cR xK))))))))))) (Lv.b (Lv.b (Lv.a (Lv.a (Lv.b (Lv.b (Lv.a (Lv.a (Lv.b (Lv.a (Lv.b (A 95)))))))))))) (BQ cal k m1) (CK cal k m1) (av P jJ)))
noncomputable def K95_prlrllrrllrrl (cal:Cal) (k:Nat) (m1:Nat):KR:=(cutK (Lv.a (Lv.b (Lv.b (Lv.a (Lv.a (Lv.b (Lv.b (Lv.a (Lv.a (Lv.b (Lv.a (Lv.b (A 95))))))))))))).c (ay P cal (aw P cal m1) none 95 (cR (cL (cR (cR (cL (cL (cR (cR (cL (cL (cR (cL (cR xK))))))))))))) (Lv.b (Lv.a (Lv.b (Lv.b (Lv.a (Lv.a (Lv.b (Lv.b (Lv.a (Lv.a (Lv.b (Lv.a (Lv.b (A 95)))))))))))))) (BQ cal k m1) (CK cal k m1) (av P jJ)))
noncomputable def K95_prr (cal:Cal) (k:Nat):KR:=(cutK (Lv.b (Lv.b (A 95))).c (ay P cal (aw P cal k) none 95 (cR (cR (cR xK))) (Lv.b (Lv.b (Lv.b (A 95)))) (av P jJ) X0 (av P jJ)))
noncomputable def E95_1 (cal:Cal) (k m1:Nat):KR:=ay P cal (aw P cal m1) none 95 (cL (cL (cR (cL (cR xK))))) (Lv.a (Lv.a (Lv.b (Lv.a (Lv.b (A 95)))))) (Nj cal k m1) (zV cal k) (av P jJ)
noncomputable def R95_1 (cal:Cal) (k m1:Nat):V4:=fun u1 u7 u8 u9 H n=>aw P cal m1 (Lv.a (Lv.b (Lv.a (Lv.b (A 95))))) none 95 (cL (cR (cL (cR xK)))) (K95_pr cal k) (zV cal k) (av P jJ) (Tr.set (Tr.set (Tr.set (Tr.set Tr.nil 9 (some u9)) 8 (some u8)) 7 (some u7)) 1 (some u1)) H n []
noncomputable def B95_1 (cal:Cal) (k m1:Nat) (b1:V4) (u1 u7 u8 u9:Value) (H:Hp) (n:Nat):Res:=
binK P .lss 3 (.tmp 9) (.tmp 8) u9 u8 fun v_5=>
ifK v_5 (
aq (aQ P 33 u7 u9) fun v_6=>
aq (aW v_6) fun a_8=>aq (az P H 86 a_8) fun v_7=>
ez P 86 H n fun v_9 H_a n_b=>
aq (bJ P 86 v_9 v_7 H_a) fun H_d=>
aq (aW v_9) fun a_g=>aq (az P H_d 86 a_g) fun v_f=>
lK P cal u1 [v_f] H_d n_b fun v_h H_i n_j=>
aq (eW P v_h (Op.unary UnOp.not v_h)) fun v_k=>
ifK v_k (
some ((.bool false),H_i,n_j)) (
binK P .add 3 (.tmp 9) (.const (.int .i64 1)) u9 (.int .i64 1) fun v_m=>
b1 u1 u7 u8 v_m H_i n_j)) (
some ((.bool true),H,n))
noncomputable def C95_1 (cal:Cal) (k m1:Nat) (b1:V4) (u1 u7 u8 u9:Value) (H:Hp) (n:Nat):Res:=B95_1 cal k m1 b1 u1 u7 u8 u9 H n
noncomputable def S95_1 (cal:Cal) (k:Nat):Nat→V4:=fun m=>Nat.rec (motive:=fun _=>V4) (C95_1 cal k 0 (fun _ _ _ _ _ _=>none)) (fun m ih=>C95_1 cal k (m+1) ih) m
theorem h95_1 (cal:Cal) (k m1:Nat) (u1 u7 u8 u9:Value) (H:Hp) (n:Nat):labK (E95_1 cal k m1) (Tr.set (Tr.set (Tr.set (Tr.set Tr.nil 9 (some u9)) 8 (some u8)) 7 (some u7)) 1 (some u1)) H n []=C95_1 cal k m1 (R95_1 cal k m1) u1 u7 u8 u9 H n:=by
  refine Eq.trans (b:=B95_1 cal k m1 (R95_1 cal k m1) u1 u7 u8 u9 H n) (by kernel_rfl) ?_
  rw[C95_1]
theorem q95_1 (cal:Cal) (k:Nat):∀(m:Nat) (u1 u7 u8 u9:Value) (H:Hp) (n:Nat),labK (E95_1 cal k m) (Tr.set (Tr.set (Tr.set (Tr.set Tr.nil 9 (some u9)) 8 (some u8)) 7 (some u7)) 1 (some u1)) H n []=S95_1 cal k m u1 u7 u8 u9 H n
  | 0,u1,u7,u8,u9,H,n=>by
    rw[h95_1]
    have e:R95_1 cal k 0=fun _ _ _ _ _ _=>none:=by funext u1 u7 u8 u9 H n; kernel_rfl
    rw[e]; rfl
  | m+1,u1,u7,u8,u9,H,n=>by
    rw[h95_1]
    have e:R95_1 cal k (m+1)=S95_1 cal k m:=by
      funext u1 u7 u8 u9 H n
      have e:R95_1 cal k (m+1) u1 u7 u8 u9 H n=labK (E95_1 cal k m) (Tr.set (Tr.set (Tr.set (Tr.set Tr.nil 9 (some u9)) 8 (some u8)) 7 (some u7)) 1 (some u1)) H n []:=by kernel_rfl
      rw[e]; exact q95_1 ..
    rw[e]; rfl
noncomputable def B95_0 (cal:Cal) (k:Nat) (j1:V4) (v0 v1:Value) (H:Hp) (n:Nat):Res:=
aq (lenV P 33 v0) fun v_3=>
j1 v1 v0 v_3 (.int .i64 0) H n
noncomputable def C95_0 (cal:Cal) (k:Nat) (v0 v1:Value) (H:Hp) (n:Nat):Res:=B95_0 cal k (S95_1 cal k k) v0 v1 H n
theorem h95_0 (cal:Cal) (k:Nat) (v0 v1:Value) (H:Hp) (n:Nat):aK P cal A (k+1) 95 [v0,v1] H n=C95_0 cal k v0 v1 H n:=by
  have h:aK P cal A (k+1) 95 [v0,v1] H n=B95_0 cal k (fun u1 u7 u8 u9 H n=>labK (E95_1 cal k k) (Tr.set (Tr.set (Tr.set (Tr.set Tr.nil 9 (some u9)) 8 (some u8)) 7 (some u7)) 1 (some u1)) H n []) v0 v1 H n:=by
    rw[bW (fn:=Go.Proofs.Try.f95) (c:=xK) (rs:=jJ) (by kernel_rfl) (by kernel_rfl) (by kernel_rfl) (by kernel_rfl)]
    kernel_rfl
  rw[h,C95_0]
  have e1:(fun u1 u7 u8 u9 H n=>labK (E95_1 cal k k) (Tr.set (Tr.set (Tr.set (Tr.set Tr.nil 9 (some u9)) 8 (some u8)) 7 (some u7)) 1 (some u1)) H n [])=(S95_1 cal k k):=by funext u1 u7 u8 u9 H n; exact q95_1 ..
  rw[e1]
noncomputable def code96:Code:=cV 96
noncomputable def GY:List ResultVar:=dW 96
noncomputable def K96_p (cal:Cal) (k:Nat):KR:=(cutK (A 96).c (ay P cal (aw P cal k) none 96 (cR code96) (Lv.b (A 96)) (av P GY) X0 (av P GY)))
noncomputable def K96_pr (cal:Cal) (k:Nat):KR:=(cutK (Lv.b (A 96)).c (ay P cal (aw P cal k) none 96 (cR (cR code96)) (Lv.b (Lv.b (A 96))) (av P GY) X0 (av P GY)))
noncomputable def B96_0 (cal:Cal) (k:Nat) (v0:Value) (H:Hp) (n:Nat):Res:=
boxK 86 v0 H n fun v_1 H_2 n_3=>
aq (ax P 86 v_1 0) fun v_5=>
aq (aW v_5) fun a_7=>aq (az P H_2 3 a_7) fun v_6=>
binK P .geq 3 (.tmp 4) (.const (.int .i64 0)) v_6 (.int .i64 0) fun v_8=>
aV v_8 true (fun k_a=>
aq (ax P 86 v_1 0) fun v_e=>
k_a v_e H_2 n_3) H_2 n_3 fun v_b H_c n_d=>
aV v_8 true (fun k_f=>
aq (aW v_b) fun a_k=>aq (az P H_c 3 a_k) fun v_j=>
k_f v_j H_c n_d) H_c n_d fun v_g H_h n_i=>
aV v_8 true (fun k_l=>
binK P .leq 3 (.tmp 8) (.const (.int .i64 1000)) v_g (.int .i64 1000) fun v_p=>
k_l v_p H_h n_i) H_h n_i fun v_m H_n n_o=>
aq (eQ v_8 v_m (.bool false)) fun v_q=>
aV v_q true (fun k_s=>
aq (ax P 86 v_1 1) fun v_w=>
k_s v_w H_n n_o) H_n n_o fun v_t H_u n_v=>
aV v_q true (fun k_x=>
aq (aW v_t) fun a_12=>aq (az P H_u 53 a_12) fun v_11=>
k_x v_11 H_u n_v) H_u n_v fun v_y H_z n_10=>
aV v_q true (fun k_13=>
aY P cal 114 [v_y] H_z n_10 fun v_17 H_18 n_19=>
k_13 v_17 H_18 n_19) H_z n_10 fun v_14 H_15 n_16=>
aq (eQ v_q v_14 (.bool false)) fun v_1a=>
aV v_1a true (fun k_1c=>
aq (ax P 86 v_1 2) fun v_1g=>
k_1c v_1g H_15 n_16) H_15 n_16 fun v_1d H_1e n_1f=>
aV v_1a true (fun k_1h=>
aq (aW v_1d) fun a_1m=>aq (az P H_1e 53 a_1m) fun v_1l=>
k_1h v_1l H_1e n_1f) H_1e n_1f fun v_1i H_1j n_1k=>
aV v_1a true (fun k_1n=>
aY P cal 114 [v_1i] H_1j n_1k fun v_1r H_1s n_1t=>
k_1n v_1r H_1s n_1t) H_1j n_1k fun v_1o H_1p n_1q=>
aq (eQ v_1a v_1o (.bool false)) fun v_1u=>
some (v_1u,H_1p,n_1q)
noncomputable def C96_0 (cal:Cal) (k:Nat) (v0:Value) (H:Hp) (n:Nat):Res:=B96_0 cal k v0 H n
theorem h96_0 (cal:Cal) (k:Nat) (v0:Value) (H:Hp) (n:Nat):aK P cal A (k+1) 96 [v0] H n=C96_0 cal k v0 H n:=by
  have h:aK P cal A (k+1) 96 [v0] H n=B96_0 cal k v0 H n:=by
    rw[bW (fn:=Go.Proofs.Try.f96) (c:=code96) (rs:=GY) (by kernel_rfl) (by kernel_rfl) (by kernel_rfl) (by kernel_rfl)]
    kernel_rfl
  rw[h,C96_0]
noncomputable def zW:Code:=cV 98
noncomputable def jQ:List ResultVar:=dW 98
noncomputable def K98_p (cal:Cal) (k:Nat):KR:=(cutK (A 98).c (ay P cal (aw P cal k) none 98 (cR zW) (Lv.b (A 98)) (av P jQ) X0 (av P jQ)))
noncomputable def K98_pr (cal:Cal) (k:Nat):KR:=(cutK (Lv.b (A 98)).c (ay P cal (aw P cal k) none 98 (cR (cR zW)) (Lv.b (Lv.b (A 98))) (av P jQ) X0 (av P jQ)))
noncomputable def XQ (cal:Cal) (k:Nat):KR:=(cutK (Lv.b (Lv.b (A 98))).c (ay P cal (aw P cal k) none 98 (cR (cR (cR zW))) (Lv.b (Lv.b (Lv.b (A 98)))) (av P jQ) X0 (av P jQ)))
noncomputable def K98_prrl (cal:Cal) (k:Nat):KR:=(cutK (Lv.a (Lv.b (Lv.b (A 98)))).c (ay P cal (aw P cal k) none 98 (cR (cL (cR (cR zW)))) (Lv.b (Lv.a (Lv.b (Lv.b (A 98))))) (XQ cal k) X0 (av P jQ)))
noncomputable def wq (cal:Cal) (k:Nat):XR:=(upX 0 (XQ cal k) X0)
noncomputable def Jq (cal:Cal) (k:Nat) (m1:Nat):KR:=(fun T H n D=>aw P cal m1 (Lv.a (Lv.b (Lv.a (Lv.b (Lv.b (A 98)))))) none 98 (cL (cR (cL (cR (cR zW))))) (XQ cal k) (wq cal k) (av P jQ) (cutT (Lv.a (Lv.b (Lv.a (Lv.b (Lv.b (A 98)))))).c T) H n D)
noncomputable def K98_prrlrll (cal:Cal) (k:Nat) (m1:Nat):KR:=(cutK (Lv.a (Lv.a (Lv.b (Lv.a (Lv.b (Lv.b (A 98))))))).c (ay P cal (aw P cal m1) none 98 (cR (cL (cL (cR (cL (cR (cR zW))))))) (Lv.b (Lv.a (Lv.a (Lv.b (Lv.a (Lv.b (Lv.b (A 98)))))))) (Jq cal k m1) (wq cal k) (av P jQ)))
noncomputable def K98_prrlrllr (cal:Cal) (k:Nat) (m1:Nat):KR:=(cutK (Lv.b (Lv.a (Lv.a (Lv.b (Lv.a (Lv.b (Lv.b (A 98)))))))).c (ay P cal (aw P cal m1) none 98 (cR (cR (cL (cL (cR (cL (cR (cR zW)))))))) (Lv.b (Lv.b (Lv.a (Lv.a (Lv.b (Lv.a (Lv.b (Lv.b (A 98))))))))) (Jq cal k m1) (wq cal k) (av P jQ)))
noncomputable def K98_prrlrllrr (cal:Cal) (k:Nat) (m1:Nat):KR:=(cutK (Lv.b (Lv.b (Lv.a (Lv.a (Lv.b (Lv.a (Lv.b (Lv.b (A 98))))))))).c (ay P cal (aw P cal m1) none 98 (cR (cR (cR (cL (cL (cR (cL (cR (cR zW))))))))) (Lv.b (Lv.b (Lv.b (Lv.a (Lv.a (Lv.b (Lv.a (Lv.b (Lv.b (A 98)))))))))) (Jq cal k m1) (wq cal k) (av P jQ)))
noncomputable def K98_pxrrlrllrrl (cal:Cal) (k:Nat) (m1:Nat):XR:=(upX 1 (K98_prrlrllrr cal k m1) (wq cal k))
noncomputable def K98_prrlrllrrll (cal:Cal) (k:Nat) (m1:Nat):KR:=(cutK (Lv.a (Lv.a (Lv.b (Lv.b (Lv.a (Lv.a (Lv.b (Lv.a (Lv.b (Lv.b (A 98))))))))))).c (ay P cal (aw P cal m1) none 98 (cR (cL (cL (cR (cR (cL (cL (cR (cL (cR (cR zW))))))))))) (Lv.b (Lv.a (Lv.a (Lv.b (Lv.b (Lv.a (Lv.a (Lv.b (Lv.a (Lv.b (Lv.b (A 98)))))))))))) (K98_prrlrllrr cal k m1) (K98_pxrrlrllrrl cal k m1) (av P jQ)))
noncomputable def K98_prrr (cal:Cal) (k:Nat):KR:=(cutK (Lv.b (Lv.b (Lv.b (A 98)))).c (ay P cal (aw P cal k) none 98 (cR (cR (cR (cR zW)))) (Lv.b (Lv.b (Lv.b (Lv.b (A 98))))) (av P jQ) X0 (av P jQ)))
noncomputable def E98_1 (cal:Cal) (k m1:Nat):KR:=ay P cal (aw P cal m1) none 98 (cL (cL (cR (cL (cR (cR zW)))))) (Lv.a (Lv.a (Lv.b (Lv.a (Lv.b (Lv.b (A 98))))))) (Jq cal k m1) (wq cal k) (av P jQ)
noncomputable def R98_1 (cal:Cal) (k m1:Nat):V4:=fun u1 u5 u9 u10 H n=>aw P cal m1 (Lv.a (Lv.b (Lv.a (Lv.b (Lv.b (A 98)))))) none 98 (cL (cR (cL (cR (cR zW))))) (XQ cal k) (wq cal k) (av P jQ) (Tr.set (Tr.set (Tr.set (Tr.set Tr.nil 10 (some u10)) 9 (some u9)) 5 (some u5)) 1 (some u1)) H n []
noncomputable def B98_1 (cal:Cal) (k m1:Nat) (b1:V4) (u1 u5 u9 u10:Value) (H:Hp) (n:Nat):Res:=
binK P .lss 3 (.tmp 10) (.const (.int .i64 8)) u10 (.int .i64 8) fun v_a=>
ifK v_a (
aq (BK P 111 u9 u10) fun v_b=>
ez P 53 H n fun v_c H_d n_e=>
aq (bJ P 53 v_c v_b H_d) fun H_g=>
aq (aW v_c) fun a_k=>aq (az P H_g 53 a_k) fun v_j=>
lK P cal u1 [v_j] H_g n_e fun v_l H_m n_n=>
binK P .add 3 (.tmp 13) (.tmp 16) u5 v_l fun v_o=>
binK P .add 3 (.tmp 10) (.const (.int .i64 1)) u10 (.int .i64 1) fun v_q=>
b1 u1 v_o u9 v_q H_m n_n) (
some (u5,H,n))
noncomputable def C98_1 (cal:Cal) (k m1:Nat) (b1:V4) (u1 u5 u9 u10:Value) (H:Hp) (n:Nat):Res:=B98_1 cal k m1 b1 u1 u5 u9 u10 H n
noncomputable def S98_1 (cal:Cal) (k:Nat):Nat→V4:=fun m=>Nat.rec (motive:=fun _=>V4) (C98_1 cal k 0 (fun _ _ _ _ _ _=>none)) (fun m ih=>C98_1 cal k (m+1) ih) m
theorem h98_1 (cal:Cal) (k m1:Nat) (u1 u5 u9 u10:Value) (H:Hp) (n:Nat):labK (E98_1 cal k m1) (Tr.set (Tr.set (Tr.set (Tr.set Tr.nil 10 (some u10)) 9 (some u9)) 5 (some u5)) 1 (some u1)) H n []=C98_1 cal k m1 (R98_1 cal k m1) u1 u5 u9 u10 H n:=by
  refine Eq.trans (b:=B98_1 cal k m1 (R98_1 cal k m1) u1 u5 u9 u10 H n) (by kernel_rfl) ?_
  rw[C98_1]
theorem q98_1 (cal:Cal) (k:Nat):∀(m:Nat) (u1 u5 u9 u10:Value) (H:Hp) (n:Nat),labK (E98_1 cal k m) (Tr.set (Tr.set (Tr.set (Tr.set Tr.nil 10 (some u10)) 9 (some u9)) 5 (some u5)) 1 (some u1)) H n []=S98_1 cal k m u1 u5 u9 u10 H n
  | 0,u1,u5,u9,u10,H,n=>by
    rw[h98_1]
    have e:R98_1 cal k 0=fun _ _ _ _ _ _=>none:=by funext u1 u5 u9 u10 H n; kernel_rfl
    rw[e]; rfl
  | m+1,u1,u5,u9,u10,H,n=>by
    rw[h98_1]
    have e:R98_1 cal k (m+1)=S98_1 cal k m:=by
      funext u1 u5 u9 u10 H n
      have e:R98_1 cal k (m+1) u1 u5 u9 u10 H n=labK (E98_1 cal k m) (Tr.set (Tr.set (Tr.set (Tr.set Tr.nil 10 (some u10)) 9 (some u9)) 5 (some u5)) 1 (some u1)) H n []:=by kernel_rfl
      rw[e]; exact q98_1 ..
    rw[e]; rfl
noncomputable def B98_0 (cal:Cal) (k:Nat) (j1:V4) (v0 v1:Value) (H:Hp) (n:Nat):Res:=
boxK 113 v0 H n fun v_1 H_2 n_3=>
aq (ax P 113 v_1 1) fun v_6=>
aq (aW v_6) fun a_8=>aq (az P H_2 111 a_8) fun v_7=>
j1 v1 (.int .i64 0) v_7 (.int .i64 0) H_2 n_3
noncomputable def C98_0 (cal:Cal) (k:Nat) (v0 v1:Value) (H:Hp) (n:Nat):Res:=B98_0 cal k (S98_1 cal k k) v0 v1 H n
theorem h98_0 (cal:Cal) (k:Nat) (v0 v1:Value) (H:Hp) (n:Nat):aK P cal A (k+1) 98 [v0,v1] H n=C98_0 cal k v0 v1 H n:=by
  have h:aK P cal A (k+1) 98 [v0,v1] H n=B98_0 cal k (fun u1 u5 u9 u10 H n=>labK (E98_1 cal k k) (Tr.set (Tr.set (Tr.set (Tr.set Tr.nil 10 (some u10)) 9 (some u9)) 5 (some u5)) 1 (some u1)) H n []) v0 v1 H n:=by
    rw[bW (fn:=Go.Proofs.Try.f98) (c:=zW) (rs:=jQ) (by kernel_rfl) (by kernel_rfl) (by kernel_rfl) (by kernel_rfl)]
    kernel_rfl
  rw[h,C98_0]
  have e1:(fun u1 u5 u9 u10 H n=>labK (E98_1 cal k k) (Tr.set (Tr.set (Tr.set (Tr.set Tr.nil 10 (some u10)) 9 (some u9)) 5 (some u5)) 1 (some u1)) H n [])=(S98_1 cal k k):=by funext u1 u5 u9 u10 H n; exact q98_1 ..
  rw[e1]
noncomputable def code99:Code:=cV 99
noncomputable def GZ:List ResultVar:=dW 99
noncomputable def K99_p (cal:Cal) (k:Nat):KR:=(cutK (A 99).c (ay P cal (aw P cal k) none 99 (cR code99) (Lv.b (A 99)) (av P GZ) X0 (av P GZ)))
noncomputable def K99_pr (cal:Cal) (k:Nat):KR:=(cutK (Lv.b (A 99)).c (ay P cal (aw P cal k) none 99 (cR (cR code99)) (Lv.b (Lv.b (A 99))) (av P GZ) X0 (av P GZ)))
noncomputable def B99_0 (cal:Cal) (k:Nat) (v0 v1:Value) (H:Hp) (n:Nat):Res:=
boxK 53 v0 H n fun v_1 H_2 n_3=>
aq (ax P 53 v_1 0) fun v_5=>
aq (aW v_5) fun a_7=>aq (az P H_2 3 a_7) fun v_6=>
binK P .leq 3 (.tmp 6) (.tmp 7) v_6 v1 fun v_9=>
aV v_9 true (fun k_b=>
k_b v1 H_2 n_3) H_2 n_3 fun v_c H_d n_e=>
aV v_9 true (fun k_g=>
aq (ax P 53 v_1 1) fun v_k=>
k_g v_k H_d n_e) H_d n_e fun v_h H_i n_j=>
aV v_9 true (fun k_l=>
aq (aW v_h) fun a_q=>aq (az P H_i 3 a_q) fun v_p=>
k_l v_p H_i n_j) H_i n_j fun v_m H_n n_o=>
aV v_9 true (fun k_r=>
binK P .leq 3 (.tmp 10) (.tmp 12) v_c v_m fun v_v=>
k_r v_v H_n n_o) H_n n_o fun v_s H_t n_u=>
aq (eQ v_9 v_s (.bool false)) fun v_w=>
some (v_w,H_t,n_u)
noncomputable def C99_0 (cal:Cal) (k:Nat) (v0 v1:Value) (H:Hp) (n:Nat):Res:=B99_0 cal k v0 v1 H n
theorem h99_0 (cal:Cal) (k:Nat) (v0 v1:Value) (H:Hp) (n:Nat):aK P cal A (k+1) 99 [v0,v1] H n=C99_0 cal k v0 v1 H n:=by
  have h:aK P cal A (k+1) 99 [v0,v1] H n=B99_0 cal k v0 v1 H n:=by
    rw[bW (fn:=Go.Proofs.Try.f99) (c:=code99) (rs:=GZ) (by kernel_rfl) (by kernel_rfl) (by kernel_rfl) (by kernel_rfl)]
    kernel_rfl
  rw[h,C99_0]
noncomputable def code100:Code:=cV 100
noncomputable def Dj:List ResultVar:=dW 100
noncomputable def K100_p (cal:Cal) (k:Nat):KR:=(cutK (A 100).c (ay P cal (aw P cal k) none 100 (cR code100) (Lv.b (A 100)) (av P Dj) X0 (av P Dj)))
noncomputable def K100_pr (cal:Cal) (k:Nat):KR:=(cutK (Lv.b (A 100)).c (ay P cal (aw P cal k) none 100 (cR (cR code100)) (Lv.b (Lv.b (A 100))) (av P Dj) X0 (av P Dj)))
noncomputable def B100_0 (cal:Cal) (k:Nat) (v0 v1:Value) (H:Hp) (n:Nat):Res:=
aY P cal 32 [v0,(.int .i64 0),v1] H n fun v_4 H_5 n_6=>
aV v_4 true (fun k_8=>
k_8 v1 H_5 n_6) H_5 n_6 fun v_9 H_a n_b=>
aV v_4 true (fun k_d=>
binK P .leq 3 (.tmp 9) (.const (.int .i64 1000)) v_9 (.int .i64 1000) fun v_h=>
k_d v_h H_a n_b) H_a n_b fun v_e H_f n_g=>
aq (eQ v_4 v_e (.bool false)) fun v_i=>
some (v_i,H_f,n_g)
noncomputable def Tk (cal:Cal) (k:Nat) (v0 v1:Value) (H:Hp) (n:Nat):Res:=B100_0 cal k v0 v1 H n
theorem h100_0 (cal:Cal) (k:Nat) (v0 v1:Value) (H:Hp) (n:Nat):aK P cal A (k+1) 100 [v0,v1] H n=Tk cal k v0 v1 H n:=by
  have h:aK P cal A (k+1) 100 [v0,v1] H n=B100_0 cal k v0 v1 H n:=by
    rw[bW (fn:=Go.Proofs.Try.f100) (c:=code100) (rs:=Dj) (by kernel_rfl) (by kernel_rfl) (by kernel_rfl) (by kernel_rfl)]
    kernel_rfl
  rw[h,Tk]
noncomputable def tQ:Code:=cV 101
noncomputable def gq:List ResultVar:=dW 101
noncomputable def K101_p (cal:Cal) (k:Nat):KR:=(cutK (A 101).c (ay P cal (aw P cal k) none 101 (cR tQ) (Lv.b (A 101)) (av P gq) X0 (av P gq)))
noncomputable def K101_pr (cal:Cal) (k:Nat):KR:=(cutK (Lv.b (A 101)).c (ay P cal (aw P cal k) none 101 (cR (cR tQ)) (Lv.b (Lv.b (A 101))) (av P gq) X0 (av P gq)))
noncomputable def Rv (cal:Cal) (k:Nat):KR:=(cutK (Lv.b (Lv.b (A 101))).c (ay P cal (aw P cal k) none 101 (cR (cR (cR tQ))) (Lv.b (Lv.b (Lv.b (A 101)))) (av P gq) X0 (av P gq)))
noncomputable def K101_prrl (cal:Cal) (k:Nat):KR:=(cutK (Lv.a (Lv.b (Lv.b (A 101)))).c (ay P cal (aw P cal k) none 101 (cR (cL (cR (cR tQ)))) (Lv.b (Lv.a (Lv.b (Lv.b (A 101))))) (Rv cal k) X0 (av P gq)))
noncomputable def sZ (cal:Cal) (k:Nat):XR:=(upX 0 (Rv cal k) X0)
noncomputable def Ej (cal:Cal) (k:Nat) (m1:Nat):KR:=(fun T H n D=>aw P cal m1 (Lv.a (Lv.b (Lv.a (Lv.b (Lv.b (A 101)))))) none 101 (cL (cR (cL (cR (cR tQ))))) (Rv cal k) (sZ cal k) (av P gq) (cutT (Lv.a (Lv.b (Lv.a (Lv.b (Lv.b (A 101)))))).c T) H n D)
noncomputable def K101_prrlrll (cal:Cal) (k:Nat) (m1:Nat):KR:=(cutK (Lv.a (Lv.a (Lv.b (Lv.a (Lv.b (Lv.b (A 101))))))).c (ay P cal (aw P cal m1) none 101 (cR (cL (cL (cR (cL (cR (cR tQ))))))) (Lv.b (Lv.a (Lv.a (Lv.b (Lv.a (Lv.b (Lv.b (A 101)))))))) (Ej cal k m1) (sZ cal k) (av P gq)))
noncomputable def K101_prrlrllr (cal:Cal) (k:Nat) (m1:Nat):KR:=(cutK (Lv.b (Lv.a (Lv.a (Lv.b (Lv.a (Lv.b (Lv.b (A 101)))))))).c (ay P cal (aw P cal m1) none 101 (cR (cR (cL (cL (cR (cL (cR (cR tQ)))))))) (Lv.b (Lv.b (Lv.a (Lv.a (Lv.b (Lv.a (Lv.b (Lv.b (A 101))))))))) (Ej cal k m1) (sZ cal k) (av P gq)))
noncomputable def K101_prrlrllrr (cal:Cal) (k:Nat) (m1:Nat):KR:=(cutK (Lv.b (Lv.b (Lv.a (Lv.a (Lv.b (Lv.a (Lv.b (Lv.b (A 101))))))))).c (ay P cal (aw P cal m1) none 101 (cR (cR (cR (cL (cL (cR (cL (cR (cR tQ))))))))) (Lv.b (Lv.b (Lv.b (Lv.a (Lv.a (Lv.b (Lv.a (Lv.b (Lv.b (A 101)))))))))) (Ej cal k m1) (sZ cal k) (av P gq)))
noncomputable def K101_pxrrlrllrrl (cal:Cal) (k:Nat) (m1:Nat):XR:=(upX 1 (K101_prrlrllrr cal k m1) (sZ cal k))
noncomputable def K101_prrlrllrrll (cal:Cal) (k:Nat) (m1:Nat):KR:=(cutK (Lv.a (Lv.a (Lv.b (Lv.b (Lv.a (Lv.a (Lv.b (Lv.a (Lv.b (Lv.b (A 101))))))))))).c (ay P cal (aw P cal m1) none 101 (cR (cL (cL (cR (cR (cL (cL (cR (cL (cR (cR tQ))))))))))) (Lv.b (Lv.a (Lv.a (Lv.b (Lv.b (Lv.a (Lv.a (Lv.b (Lv.a (Lv.b (Lv.b (A 101)))))))))))) (K101_prrlrllrr cal k m1) (K101_pxrrlrllrrl cal k m1) (av P gq)))
noncomputable def K101_prrr (cal:Cal) (k:Nat):KR:=(cutK (Lv.b (Lv.b (Lv.b (A 101)))).c (ay P cal (aw P cal k) none 101 (cR (cR (cR (cR tQ)))) (Lv.b (Lv.b (Lv.b (Lv.b (A 101))))) (av P gq) X0 (av P gq)))
noncomputable def E101_1 (cal:Cal) (k m1:Nat):KR:=ay P cal (aw P cal m1) none 101 (cL (cL (cR (cL (cR (cR tQ)))))) (Lv.a (Lv.a (Lv.b (Lv.a (Lv.b (Lv.b (A 101))))))) (Ej cal k m1) (sZ cal k) (av P gq)
noncomputable def R101_1 (cal:Cal) (k m1:Nat):V3:=fun u0 u1 u3 H n=>aw P cal m1 (Lv.a (Lv.b (Lv.a (Lv.b (Lv.b (A 101)))))) none 101 (cL (cR (cL (cR (cR tQ))))) (Rv cal k) (sZ cal k) (av P gq) (Tr.set (Tr.set (Tr.set Tr.nil 3 (some u3)) 1 (some u1)) 0 (some u0)) H n []
noncomputable def B101_1 (cal:Cal) (k m1:Nat) (b1:V3) (u0 u1 u3:Value) (H:Hp) (n:Nat):Res:=
binK P .lss 3 (.tmp 3) (.const (.int .i64 8)) u3 (.int .i64 8) fun v_8=>
ifK v_8 (
aq (aQ P 121 u1 u3) fun v_c=>
aq (bJ P 3 v_c (.int .i64 (-1)) H) fun H_e=>
binK P .add 3 (.tmp 3) (.const (.int .i64 1)) u3 (.int .i64 1) fun v_f=>
b1 u0 u1 v_f H_e n) (
aq (aW u1) fun a_i=>aq (az P H 121 a_i) fun v_h=>
aq (bJ P 121 u0 v_h H) fun H_k=>
aq (resV P (Tr.set Tr.nil 0 (some u0)) H_k gq) fun v_l=>some (oneV v_l,H_k,n))
noncomputable def C101_1 (cal:Cal) (k m1:Nat) (b1:V3) (u0 u1 u3:Value) (H:Hp) (n:Nat):Res:=B101_1 cal k m1 b1 u0 u1 u3 H n
noncomputable def S101_1 (cal:Cal) (k:Nat):Nat→V3:=fun m=>Nat.rec (motive:=fun _=>V3) (C101_1 cal k 0 (fun _ _ _ _ _=>none)) (fun m ih=>C101_1 cal k (m+1) ih) m
theorem h101_1 (cal:Cal) (k m1:Nat) (u0 u1 u3:Value) (H:Hp) (n:Nat):labK (E101_1 cal k m1) (Tr.set (Tr.set (Tr.set Tr.nil 3 (some u3)) 1 (some u1)) 0 (some u0)) H n []=C101_1 cal k m1 (R101_1 cal k m1) u0 u1 u3 H n:=by
  refine Eq.trans (b:=B101_1 cal k m1 (R101_1 cal k m1) u0 u1 u3 H n) (by kernel_rfl) ?_
  rw[C101_1]
theorem q101_1 (cal:Cal) (k:Nat):∀(m:Nat) (u0 u1 u3:Value) (H:Hp) (n:Nat),labK (E101_1 cal k m) (Tr.set (Tr.set (Tr.set Tr.nil 3 (some u3)) 1 (some u1)) 0 (some u0)) H n []=S101_1 cal k m u0 u1 u3 H n
  | 0,u0,u1,u3,H,n=>by
    rw[h101_1]
    have e:R101_1 cal k 0=fun _ _ _ _ _=>none:=by funext u0 u1 u3 H n; kernel_rfl
    rw[e]; rfl
  | m+1,u0,u1,u3,H,n=>by
    rw[h101_1]
    have e:R101_1 cal k (m+1)=S101_1 cal k m:=by
      funext u0 u1 u3 H n
      have e:R101_1 cal k (m+1) u0 u1 u3 H n=labK (E101_1 cal k m) (Tr.set (Tr.set (Tr.set Tr.nil 3 (some u3)) 1 (some u1)) 0 (some u0)) H n []:=by kernel_rfl
      rw[e]; exact q101_1 ..
    rw[e]; rfl
noncomputable def B101_0 (cal:Cal) (k:Nat) (j1:V3) (H:Hp) (n:Nat):Res:=
ez P 121 H n fun v_1 H_2 n_3=>
ez P 121 H_2 n_3 fun v_4 H_5 n_6=>
j1 v_1 v_4 (.int .i64 0) H_5 n_6
noncomputable def C101_0 (cal:Cal) (k:Nat) (H:Hp) (n:Nat):Res:=B101_0 cal k (S101_1 cal k k)  H n
theorem h101_0 (cal:Cal) (k:Nat) (H:Hp) (n:Nat):aK P cal A (k+1) 101 [] H n=C101_0 cal k  H n:=by
  have h:aK P cal A (k+1) 101 [] H n=B101_0 cal k (fun u0 u1 u3 H n=>labK (E101_1 cal k k) (Tr.set (Tr.set (Tr.set Tr.nil 3 (some u3)) 1 (some u1)) 0 (some u0)) H n [])  H n:=by
    rw[bW (fn:=Go.Proofs.Try.f101) (c:=tQ) (rs:=gq) (by kernel_rfl) (by kernel_rfl) (by kernel_rfl) (by kernel_rfl)]
    kernel_rfl
  rw[h,C101_0]
  have e1:(fun u0 u1 u3 H n=>labK (E101_1 cal k k) (Tr.set (Tr.set (Tr.set Tr.nil 3 (some u3)) 1 (some u1)) 0 (some u0)) H n [])=(S101_1 cal k k):=by funext u0 u1 u3 H n; exact q101_1 ..
  rw[e1]
noncomputable def code102:Code:=cV 102
noncomputable def Dq:List ResultVar:=dW 102
noncomputable def K102_p (cal:Cal) (k:Nat):KR:=(cutK (A 102).c (ay P cal (aw P cal k) none 102 (cR code102) (Lv.b (A 102)) (av P Dq) X0 (av P Dq)))
noncomputable def K102_pr (cal:Cal) (k:Nat):KR:=(cutK (Lv.b (A 102)).c (ay P cal (aw P cal k) none 102 (cR (cR code102)) (Lv.b (Lv.b (A 102))) (av P Dq) X0 (av P Dq)))
noncomputable def B102_0 (cal:Cal) (k:Nat) (v0 v1 v2:Value) (H:Hp) (n:Nat):Res:=
binK P .geq 3 (.tmp 7) (.const (.int .i64 0)) v2 (.int .i64 0) fun v_3=>
aV v_3 true (fun k_5=>
k_5 v2 H n) H n fun v_6 H_7 n_8=>
aV v_3 true (fun k_a=>
k_a v0 H_7 n_8) H_7 n_8 fun v_b H_c n_d=>
aV v_3 true (fun k_f=>
aq (nilV v_b) fun v_j=>
k_f v_j H_c n_d) H_c n_d fun v_g H_h n_i=>
aV v_3 true (fun k_k=>
aq (ax P 117 v_g 0) fun v_o=>
k_k v_o H_h n_i) H_h n_i fun v_l H_m n_n=>
aV v_3 true (fun k_p=>
aq (ax P 35 v_l 2) fun v_t=>
k_p v_t H_m n_n) H_m n_n fun v_q H_r n_s=>
aV v_3 true (fun k_u=>
aq (aW v_q) fun a_z=>aq (az P H_r 33 a_z) fun v_y=>
k_u v_y H_r n_s) H_r n_s fun v_v H_w n_x=>
aV v_3 true (fun k_10=>
aq (lenV P 33 v_v) fun v_14=>
k_10 v_14 H_w n_x) H_w n_x fun v_11 H_12 n_13=>
aV v_3 true (fun k_15=>
binK P .lss 3 (.tmp 10) (.tmp 16) v_6 v_11 fun v_19=>
k_15 v_19 H_12 n_13) H_12 n_13 fun v_16 H_17 n_18=>
aq (eQ v_3 v_16 (.bool false)) fun v_1a=>
aV v_1a true (fun k_1c=>
k_1c v0 H_17 n_18) H_17 n_18 fun v_1d H_1e n_1f=>
aV v_1a true (fun k_1h=>
k_1h v1 H_1e n_1f) H_1e n_1f fun v_1i H_1j n_1k=>
aV v_1a true (fun k_1m=>
k_1m v2 H_1j n_1k) H_1j n_1k fun v_1n H_1o n_1p=>
aV v_1a true (fun k_1r=>
aq (nilV v_1d) fun v_1v=>
k_1r v_1v H_1o n_1p) H_1o n_1p fun v_1s H_1t n_1u=>
aV v_1a true (fun k_1w=>
aq (ax P 117 v_1s 2) fun v_20=>
k_1w v_20 H_1t n_1u) H_1t n_1u fun v_1x H_1y n_1z=>
aV v_1a true (fun k_21=>
aq (aQ P 115 v_1x v_1i) fun v_25=>
k_21 v_25 H_1y n_1z) H_1y n_1z fun v_22 H_23 n_24=>
aV v_1a true (fun k_26=>
aq (aQ P 114 v_22 v_1n) fun v_2a=>
k_26 v_2a H_23 n_24) H_23 n_24 fun v_27 H_28 n_29=>
aV v_1a true (fun k_2b=>
aq (aW v_27) fun a_2g=>aq (az P H_28 113 a_2g) fun v_2f=>
k_2b v_2f H_28 n_29) H_28 n_29 fun v_2c H_2d n_2e=>
aV v_1a true (fun k_2h=>
aY P cal 62 [v_2c] H_2d n_2e fun v_2l H_2m n_2n=>
k_2h v_2l H_2m n_2n) H_2d n_2e fun v_2i H_2j n_2k=>
aq (eQ v_1a v_2i (.bool false)) fun v_2o=>
some (v_2o,H_2j,n_2k)
noncomputable def TJ (cal:Cal) (k:Nat) (v0 v1 v2:Value) (H:Hp) (n:Nat):Res:=B102_0 cal k v0 v1 v2 H n
theorem h102_0 (cal:Cal) (k:Nat) (v0 v1 v2:Value) (H:Hp) (n:Nat):aK P cal A (k+1) 102 [v0,v1,v2] H n=TJ cal k v0 v1 v2 H n:=by
  have h:aK P cal A (k+1) 102 [v0,v1,v2] H n=B102_0 cal k v0 v1 v2 H n:=by
    rw[bW (fn:=Go.Proofs.Try.f102) (c:=code102) (rs:=Dq) (by kernel_rfl) (by kernel_rfl) (by kernel_rfl) (by kernel_rfl)]
    kernel_rfl
  rw[h,TJ]
noncomputable def tV:Code:=cV 103
noncomputable def gz:List ResultVar:=dW 103
noncomputable def K103_p (cal:Cal) (k:Nat):KR:=(cutK (A 103).c (ay P cal (aw P cal k) none 103 (cR tV) (Lv.b (A 103)) (av P gz) X0 (av P gz)))
noncomputable def XV (cal:Cal) (k:Nat):KR:=(cutK (Lv.b (A 103)).c (ay P cal (aw P cal k) none 103 (cR (cR tV)) (Lv.b (Lv.b (A 103))) (av P gz) X0 (av P gz)))
noncomputable def K103_prl (cal:Cal) (k:Nat):KR:=(cutK (Lv.a (Lv.b (A 103))).c (ay P cal (aw P cal k) none 103 (cR (cL (cR tV))) (Lv.b (Lv.a (Lv.b (A 103)))) (XV cal k) X0 (av P gz)))
noncomputable def wv (cal:Cal) (k:Nat):XR:=(upX 0 (XV cal k) X0)
noncomputable def Jv (cal:Cal) (k:Nat) (m1:Nat):KR:=(fun T H n D=>aw P cal m1 (Lv.a (Lv.b (Lv.a (Lv.b (A 103))))) none 103 (cL (cR (cL (cR tV)))) (XV cal k) (wv cal k) (av P gz) (cutT (Lv.a (Lv.b (Lv.a (Lv.b (A 103))))).c T) H n D)
noncomputable def K103_prlrll (cal:Cal) (k:Nat) (m1:Nat):KR:=(cutK (Lv.a (Lv.a (Lv.b (Lv.a (Lv.b (A 103)))))).c (ay P cal (aw P cal m1) none 103 (cR (cL (cL (cR (cL (cR tV)))))) (Lv.b (Lv.a (Lv.a (Lv.b (Lv.a (Lv.b (A 103))))))) (Jv cal k m1) (wv cal k) (av P gz)))
noncomputable def K103_prlrllr (cal:Cal) (k:Nat) (m1:Nat):KR:=(cutK (Lv.b (Lv.a (Lv.a (Lv.b (Lv.a (Lv.b (A 103))))))).c (ay P cal (aw P cal m1) none 103 (cR (cR (cL (cL (cR (cL (cR tV))))))) (Lv.b (Lv.b (Lv.a (Lv.a (Lv.b (Lv.a (Lv.b (A 103)))))))) (Jv cal k m1) (wv cal k) (av P gz)))
noncomputable def Fj (cal:Cal) (k:Nat) (m1:Nat):KR:=(cutK (Lv.b (Lv.b (Lv.a (Lv.a (Lv.b (Lv.a (Lv.b (A 103)))))))).c (ay P cal (aw P cal m1) none 103 (cR (cR (cR (cL (cL (cR (cL (cR tV)))))))) (Lv.b (Lv.b (Lv.b (Lv.a (Lv.a (Lv.b (Lv.a (Lv.b (A 103))))))))) (Jv cal k m1) (wv cal k) (av P gz)))
noncomputable def K103_pxrlrllrrl (cal:Cal) (k:Nat) (m1:Nat):XR:=(upX 1 (Fj cal k m1) (wv cal k))
noncomputable def K103_prlrllrrll (cal:Cal) (k:Nat) (m1:Nat):KR:=(cutK (Lv.a (Lv.a (Lv.b (Lv.b (Lv.a (Lv.a (Lv.b (Lv.a (Lv.b (A 103)))))))))).c (ay P cal (aw P cal m1) none 103 (cR (cL (cL (cR (cR (cL (cL (cR (cL (cR tV)))))))))) (Lv.b (Lv.a (Lv.a (Lv.b (Lv.b (Lv.a (Lv.a (Lv.b (Lv.a (Lv.b (A 103))))))))))) (Fj cal k m1) (K103_pxrlrllrrl cal k m1) (av P gz)))
noncomputable def K103_prlrllrrllr (cal:Cal) (k:Nat) (m1:Nat):KR:=(cutK (Lv.b (Lv.a (Lv.a (Lv.b (Lv.b (Lv.a (Lv.a (Lv.b (Lv.a (Lv.b (A 103))))))))))).c (ay P cal (aw P cal m1) none 103 (cR (cR (cL (cL (cR (cR (cL (cL (cR (cL (cR tV))))))))))) (Lv.b (Lv.b (Lv.a (Lv.a (Lv.b (Lv.b (Lv.a (Lv.a (Lv.b (Lv.a (Lv.b (A 103)))))))))))) (Fj cal k m1) (K103_pxrlrllrrl cal k m1) (av P gz)))
noncomputable def K103_prr (cal:Cal) (k:Nat):KR:=(cutK (Lv.b (Lv.b (A 103))).c (ay P cal (aw P cal k) none 103 (cR (cR (cR tV))) (Lv.b (Lv.b (Lv.b (A 103)))) (av P gz) X0 (av P gz)))
noncomputable def E103_1 (cal:Cal) (k m1:Nat):KR:=ay P cal (aw P cal m1) none 103 (cL (cL (cR (cL (cR tV))))) (Lv.a (Lv.a (Lv.b (Lv.a (Lv.b (A 103)))))) (Jv cal k m1) (wv cal k) (av P gz)
noncomputable def R103_1 (cal:Cal) (k m1:Nat):V4:=fun u2 u4 u7 u8 H n=>aw P cal m1 (Lv.a (Lv.b (Lv.a (Lv.b (A 103))))) none 103 (cL (cR (cL (cR tV)))) (XV cal k) (wv cal k) (av P gz) (Tr.set (Tr.set (Tr.set (Tr.set Tr.nil 8 (some u8)) 7 (some u7)) 4 (some u4)) 2 (some u2)) H n []
noncomputable def B103_1 (cal:Cal) (k m1:Nat) (b1:V4) (u2 u4 u7 u8:Value) (H:Hp) (n:Nat):Res:=
binK P .lss 3 (.tmp 8) (.const (.int .i64 8)) u8 (.int .i64 8) fun v_d=>
ifK v_d (
aq (BK P 111 u7 u8) fun v_f=>
ez P 53 H n fun v_g H_h n_i=>
aq (bJ P 53 v_g v_f H_h) fun H_l=>
aq (aQ P 111 u2 u8) fun v_n=>
aq (ax P 53 v_n 0) fun v_o=>
aq (aW v_o) fun a_p=>aq (az P H_l 3 a_p) fun v_q=>
aq (ax P 53 v_g 0) fun v_r=>
aq (aW v_r) fun a_s=>aq (az P H_l 3 a_s) fun v_t=>
binK P .add 3 (.tmp 15) (.tmp 17) v_q v_t fun v_u=>
aq (aQ P 111 u2 u8) fun v_v=>
aq (ax P 53 v_v 0) fun v_w=>
aq (bJ P 3 v_w v_u H_l) fun H_y=>
aq (aQ P 111 u2 u8) fun v_10=>
aq (ax P 53 v_10 1) fun v_11=>
aq (aW v_11) fun a_12=>aq (az P H_y 3 a_12) fun v_13=>
aq (ax P 53 v_g 1) fun v_14=>
aq (aW v_14) fun a_15=>aq (az P H_y 3 a_15) fun v_16=>
binK P .add 3 (.tmp 24) (.tmp 26) v_13 v_16 fun v_17=>
aq (aQ P 111 u2 u8) fun v_18=>
aq (ax P 53 v_18 1) fun v_19=>
aq (bJ P 3 v_19 v_17 H_y) fun H_1b=>
binK P .add 3 (.tmp 8) (.const (.int .i64 1)) u8 (.int .i64 1) fun v_1c=>
b1 u2 u4 u7 v_1c H_1b n_i) (
aq (aW u2) fun a_1f=>aq (az P H 111 a_1f) fun v_1e=>
aq (bJ P 111 u4 v_1e H) fun H_1h=>
aq (resV P (Tr.set Tr.nil 4 (some u4)) H_1h gz) fun v_1i=>some (oneV v_1i,H_1h,n))
noncomputable def TQ (cal:Cal) (k m1:Nat) (b1:V4) (u2 u4 u7 u8:Value) (H:Hp) (n:Nat):Res:=B103_1 cal k m1 b1 u2 u4 u7 u8 H n
noncomputable def TV (cal:Cal) (k:Nat):Nat→V4:=fun m=>Nat.rec (motive:=fun _=>V4) (TQ cal k 0 (fun _ _ _ _ _ _=>none)) (fun m ih=>TQ cal k (m+1) ih) m
theorem h103_1 (cal:Cal) (k m1:Nat) (u2 u4 u7 u8:Value) (H:Hp) (n:Nat):labK (E103_1 cal k m1) (Tr.set (Tr.set (Tr.set (Tr.set Tr.nil 8 (some u8)) 7 (some u7)) 4 (some u4)) 2 (some u2)) H n []=TQ cal k m1 (R103_1 cal k m1) u2 u4 u7 u8 H n:=by
  refine Eq.trans (b:=B103_1 cal k m1 (R103_1 cal k m1) u2 u4 u7 u8 H n) (by kernel_rfl) ?_
  rw[TQ]
theorem q103_1 (cal:Cal) (k:Nat):∀(m:Nat) (u2 u4 u7 u8:Value) (H:Hp) (n:Nat),labK (E103_1 cal k m) (Tr.set (Tr.set (Tr.set (Tr.set Tr.nil 8 (some u8)) 7 (some u7)) 4 (some u4)) 2 (some u2)) H n []=TV cal k m u2 u4 u7 u8 H n
  | 0,u2,u4,u7,u8,H,n=>by
    rw[h103_1]
    have e:R103_1 cal k 0=fun _ _ _ _ _ _=>none:=by funext u2 u4 u7 u8 H n; kernel_rfl
    rw[e]; rfl
  | m+1,u2,u4,u7,u8,H,n=>by
    rw[h103_1]
    have e:R103_1 cal k (m+1)=TV cal k m:=by
      funext u2 u4 u7 u8 H n
      have e:R103_1 cal k (m+1) u2 u4 u7 u8 H n=labK (E103_1 cal k m) (Tr.set (Tr.set (Tr.set (Tr.set Tr.nil 8 (some u8)) 7 (some u7)) 4 (some u4)) 2 (some u2)) H n []:=by kernel_rfl
      rw[e]; exact q103_1 ..
    rw[e]; rfl
noncomputable def B103_0 (cal:Cal) (k:Nat) (j1:V4) (v0 v1:Value) (H:Hp) (n:Nat):Res:=
boxK 111 v0 H n fun v_1 H_2 n_3=>
boxK 111 v1 H_2 n_3 fun v_4 H_5 n_6=>
ez P 111 H_5 n_6 fun v_7 H_8 n_9=>
aq (aW v_4) fun a_b=>aq (az P H_8 111 a_b) fun v_a=>
j1 v_1 v_7 v_a (.int .i64 0) H_8 n_9
noncomputable def TW (cal:Cal) (k:Nat) (v0 v1:Value) (H:Hp) (n:Nat):Res:=B103_0 cal k (TV cal k k) v0 v1 H n
theorem h103_0 (cal:Cal) (k:Nat) (v0 v1:Value) (H:Hp) (n:Nat):aK P cal A (k+1) 103 [v0,v1] H n=TW cal k v0 v1 H n:=by
  have h:aK P cal A (k+1) 103 [v0,v1] H n=B103_0 cal k (fun u2 u4 u7 u8 H n=>labK (E103_1 cal k k) (Tr.set (Tr.set (Tr.set (Tr.set Tr.nil 8 (some u8)) 7 (some u7)) 4 (some u4)) 2 (some u2)) H n []) v0 v1 H n:=by
    rw[bW (fn:=Go.Proofs.Try.f103) (c:=tV) (rs:=gz) (by kernel_rfl) (by kernel_rfl) (by kernel_rfl) (by kernel_rfl)]
    kernel_rfl
  rw[h,TW]
  have e1:(fun u2 u4 u7 u8 H n=>labK (E103_1 cal k k) (Tr.set (Tr.set (Tr.set (Tr.set Tr.nil 8 (some u8)) 7 (some u7)) 4 (some u4)) 2 (some u2)) H n [])=(TV cal k k):=by funext u2 u4 u7 u8 H n; exact q103_1 ..
  rw[e1]
noncomputable def Aj:Code:=cV 104
noncomputable def kj:List ResultVar:=dW 104
noncomputable def K104_p (cal:Cal) (k:Nat):KR:=(cutK (A 104).c (ay P cal (aw P cal k) none 104 (cR Aj) (Lv.b (A 104)) (av P kj) X0 (av P kj)))
noncomputable def Dv (cal:Cal) (k:Nat):XR:=(upX 0 (av P kj) X0)
noncomputable def Rw (cal:Cal) (k:Nat) (m1:Nat):KR:=(fun T H n D=>aw P cal m1 (Lv.a (Lv.b (A 104))) none 104 (cL (cR Aj)) (av P kj) (Dv cal k) (av P kj) (cutT (Lv.a (Lv.b (A 104))).c T) H n D)
noncomputable def K104_prll (cal:Cal) (k:Nat) (m1:Nat):KR:=(cutK (Lv.a (Lv.a (Lv.b (A 104)))).c (ay P cal (aw P cal m1) none 104 (cR (cL (cL (cR Aj)))) (Lv.b (Lv.a (Lv.a (Lv.b (A 104))))) (Rw cal k m1) (Dv cal k) (av P kj)))
noncomputable def K104_prllr (cal:Cal) (k:Nat) (m1:Nat):KR:=(cutK (Lv.b (Lv.a (Lv.a (Lv.b (A 104))))).c (ay P cal (aw P cal m1) none 104 (cR (cR (cL (cL (cR Aj))))) (Lv.b (Lv.b (Lv.a (Lv.a (Lv.b (A 104)))))) (Rw cal k m1) (Dv cal k) (av P kj)))
noncomputable def LJ (cal:Cal) (k:Nat) (m1:Nat):KR:=(cutK (Lv.b (Lv.b (Lv.a (Lv.a (Lv.b (A 104)))))).c (ay P cal (aw P cal m1) none 104 (cR (cR (cR (cL (cL (cR Aj)))))) (Lv.b (Lv.b (Lv.b (Lv.a (Lv.a (Lv.b (A 104))))))) (Rw cal k m1) (Dv cal k) (av P kj)))
noncomputable def K104_pxrllrrl (cal:Cal) (k:Nat) (m1:Nat):XR:=(upX 1 (LJ cal k m1) (Dv cal k))
noncomputable def K104_prllrrll (cal:Cal) (k:Nat) (m1:Nat):KR:=(cutK (Lv.a (Lv.a (Lv.b (Lv.b (Lv.a (Lv.a (Lv.b (A 104)))))))).c (ay P cal (aw P cal m1) none 104 (cR (cL (cL (cR (cR (cL (cL (cR Aj)))))))) (Lv.b (Lv.a (Lv.a (Lv.b (Lv.b (Lv.a (Lv.a (Lv.b (A 104))))))))) (LJ cal k m1) (K104_pxrllrrl cal k m1) (av P kj)))
noncomputable def K104_prllrrllr (cal:Cal) (k:Nat) (m1:Nat):KR:=(cutK (Lv.b (Lv.a (Lv.a (Lv.b (Lv.b (Lv.a (Lv.a (Lv.b (A 104))))))))).c (ay P cal (aw P cal m1) none 104 (cR (cR (cL (cL (cR (cR (cL (cL (cR Aj))))))))) (Lv.b (Lv.b (Lv.a (Lv.a (Lv.b (Lv.b (Lv.a (Lv.a (Lv.b (A 104)))))))))) (LJ cal k m1) (K104_pxrllrrl cal k m1) (av P kj)))
noncomputable def E104_1 (cal:Cal) (k m1:Nat):KR:=ay P cal (aw P cal m1) none 104 (cL (cL (cR Aj))) (Lv.a (Lv.a (Lv.b (A 104)))) (Rw cal k m1) (Dv cal k) (av P kj)
noncomputable def R104_1 (cal:Cal) (k m1:Nat):V4:=fun u0 u2 u6 u7 H n=>aw P cal m1 (Lv.a (Lv.b (A 104))) none 104 (cL (cR Aj)) (av P kj) (Dv cal k) (av P kj) (Tr.set (Tr.set (Tr.set (Tr.set Tr.nil 7 (some u7)) 6 (some u6)) 2 (some u2)) 0 (some u0)) H n []
noncomputable def B104_1 (cal:Cal) (k m1:Nat) (b1:V4) (u0 u2 u6 u7:Value) (H:Hp) (n:Nat):Res:=
binK P .lss 3 (.tmp 7) (.const (.int .i64 8)) u7 (.int .i64 8) fun v_4=>
ifK v_4 (
aq (BK P 121 u6 u7) fun v_6=>
binK P .neq 3 (.tmp 11) (.const (.int .i64 (-1))) v_6 (.int .i64 (-1)) fun v_a=>
aV v_a true (fun k_c=>
k_c u0 H n) H n fun v_d H_e n_f=>
aV v_a true (fun k_h=>
k_h u7 H_e n_f) H_e n_f fun v_i H_j n_k=>
aV v_a true (fun k_m=>
aq (aW u2) fun a_r=>aq (az P H_j 105 a_r) fun v_q=>
k_m v_q H_j n_k) H_j n_k fun v_n H_o n_p=>
aV v_a true (fun k_s=>
k_s u7 H_o n_p) H_o n_p fun v_t H_u n_v=>
aV v_a true (fun k_x=>
k_x v_6 H_u n_v) H_u n_v fun v_y H_z n_10=>
aV v_a true (fun k_12=>
aq (nilV v_n) fun v_16=>
k_12 v_16 H_z n_10) H_z n_10 fun v_13 H_14 n_15=>
aV v_a true (fun k_17=>
aq (ax P 117 v_13 2) fun v_1b=>
k_17 v_1b H_14 n_15) H_14 n_15 fun v_18 H_19 n_1a=>
aV v_a true (fun k_1c=>
aq (aQ P 115 v_18 v_t) fun v_1g=>
k_1c v_1g H_19 n_1a) H_19 n_1a fun v_1d H_1e n_1f=>
aV v_a true (fun k_1h=>
aq (aQ P 114 v_1d v_y) fun v_1l=>
k_1h v_1l H_1e n_1f) H_1e n_1f fun v_1i H_1j n_1k=>
aV v_a true (fun k_1m=>
aq (aW v_1i) fun a_1r=>aq (az P H_1j 113 a_1r) fun v_1q=>
k_1m v_1q H_1j n_1k) H_1j n_1k fun v_1n H_1o n_1p=>
aV v_a true (fun k_1s=>
lK P cal v_d [v_i,v_1n] H_1o n_1p fun v_1w H_1x n_1y=>
k_1s v_1w H_1x n_1y) H_1o n_1p fun v_1t H_1u n_1v=>
aV v_a true (fun k_1z=>
aq (eW P v_1t (Op.unary UnOp.not v_1t)) fun v_23=>
k_1z v_23 H_1u n_1v) H_1u n_1v fun v_20 H_21 n_22=>
aq (eQ v_a v_20 (.bool false)) fun v_24=>
ifK v_24 (
some ((Value.tuple ⟨[]⟩),H_21,n_22)) (
binK P .add 3 (.tmp 7) (.const (.int .i64 1)) u7 (.int .i64 1) fun v_25=>
b1 u0 u2 u6 v_25 H_21 n_22)) (
some ((Value.tuple ⟨[]⟩),H,n))
noncomputable def TX (cal:Cal) (k m1:Nat) (b1:V4) (u0 u2 u6 u7:Value) (H:Hp) (n:Nat):Res:=B104_1 cal k m1 b1 u0 u2 u6 u7 H n
noncomputable def S104_1 (cal:Cal) (k:Nat):Nat→V4:=fun m=>Nat.rec (motive:=fun _=>V4) (TX cal k 0 (fun _ _ _ _ _ _=>none)) (fun m ih=>TX cal k (m+1) ih) m
theorem h104_1 (cal:Cal) (k m1:Nat) (u0 u2 u6 u7:Value) (H:Hp) (n:Nat):labK (E104_1 cal k m1) (Tr.set (Tr.set (Tr.set (Tr.set Tr.nil 7 (some u7)) 6 (some u6)) 2 (some u2)) 0 (some u0)) H n []=TX cal k m1 (R104_1 cal k m1) u0 u2 u6 u7 H n:=by
  refine Eq.trans (b:=B104_1 cal k m1 (R104_1 cal k m1) u0 u2 u6 u7 H n) (by kernel_rfl) ?_
  rw[TX]
theorem q104_1 (cal:Cal) (k:Nat):∀(m:Nat) (u0 u2 u6 u7:Value) (H:Hp) (n:Nat),labK (E104_1 cal k m) (Tr.set (Tr.set (Tr.set (Tr.set Tr.nil 7 (some u7)) 6 (some u6)) 2 (some u2)) 0 (some u0)) H n []=S104_1 cal k m u0 u2 u6 u7 H n
  | 0,u0,u2,u6,u7,H,n=>by
    rw[h104_1]
    have e:R104_1 cal k 0=fun _ _ _ _ _ _=>none:=by funext u0 u2 u6 u7 H n; kernel_rfl
    rw[e]; rfl
  | m+1,u0,u2,u6,u7,H,n=>by
    rw[h104_1]
    have e:R104_1 cal k (m+1)=S104_1 cal k m:=by
      funext u0 u2 u6 u7 H n
      have e:R104_1 cal k (m+1) u0 u2 u6 u7 H n=labK (E104_1 cal k m) (Tr.set (Tr.set (Tr.set (Tr.set Tr.nil 7 (some u7)) 6 (some u6)) 2 (some u2)) 0 (some u0)) H n []:=by kernel_rfl
      rw[e]; exact q104_1 ..
    rw[e]; rfl
noncomputable def B104_0 (cal:Cal) (k:Nat) (j1:V4) (v0 v1 v2:Value) (H:Hp) (n:Nat):Res:=
aq (aW v1) fun a_2=>aq (az P H 121 a_2) fun v_1=>
j1 v0 v2 v_1 (.int .i64 0) H n
noncomputable def Fq (cal:Cal) (k:Nat) (v0 v1 v2:Value) (H:Hp) (n:Nat):Res:=B104_0 cal k (S104_1 cal k k) v0 v1 v2 H n
theorem h104_0 (cal:Cal) (k:Nat) (v0 v1 v2:Value) (H:Hp) (n:Nat):aK P cal A (k+1) 104 [v0,v1,v2] H n=Fq cal k v0 v1 v2 H n:=by
  have h:aK P cal A (k+1) 104 [v0,v1,v2] H n=B104_0 cal k (fun u0 u2 u6 u7 H n=>labK (E104_1 cal k k) (Tr.set (Tr.set (Tr.set (Tr.set Tr.nil 7 (some u7)) 6 (some u6)) 2 (some u2)) 0 (some u0)) H n []) v0 v1 v2 H n:=by
    rw[bW (fn:=Go.Proofs.Try.f104) (c:=Aj) (rs:=kj) (by kernel_rfl) (by kernel_rfl) (by kernel_rfl) (by kernel_rfl)]
    kernel_rfl
  rw[h,Fq]
  have e1:(fun u0 u2 u6 u7 H n=>labK (E104_1 cal k k) (Tr.set (Tr.set (Tr.set (Tr.set Tr.nil 7 (some u7)) 6 (some u6)) 2 (some u2)) 0 (some u0)) H n [])=(S104_1 cal k k):=by funext u0 u2 u6 u7 H n; exact q104_1 ..
  rw[e1]
noncomputable def vv:Code:=cV 105
noncomputable def jq:List ResultVar:=dW 105
noncomputable def K105_p (cal:Cal) (k:Nat):KR:=(cutK (A 105).c (ay P cal (aw P cal k) none 105 (cR vv) (Lv.b (A 105)) (av P jq) X0 (av P jq)))
noncomputable def XW (cal:Cal) (k:Nat):KR:=(cutK (Lv.b (A 105)).c (ay P cal (aw P cal k) none 105 (cR (cR vv)) (Lv.b (Lv.b (A 105))) (av P jq) X0 (av P jq)))
noncomputable def K105_prl (cal:Cal) (k:Nat):KR:=(cutK (Lv.a (Lv.b (A 105))).c (ay P cal (aw P cal k) none 105 (cR (cL (cR vv))) (Lv.b (Lv.a (Lv.b (A 105)))) (XW cal k) X0 (av P jq)))
noncomputable def wx (cal:Cal) (k:Nat):XR:=(upX 0 (XW cal k) X0)
noncomputable def Jw (cal:Cal) (k:Nat) (m1:Nat):KR:=(fun T H n D=>aw P cal m1 (Lv.a (Lv.b (Lv.a (Lv.b (A 105))))) none 105 (cL (cR (cL (cR vv)))) (XW cal k) (wx cal k) (av P jq) (cutT (Lv.a (Lv.b (Lv.a (Lv.b (A 105))))).c T) H n D)
noncomputable def K105_prlrll (cal:Cal) (k:Nat) (m1:Nat):KR:=(cutK (Lv.a (Lv.a (Lv.b (Lv.a (Lv.b (A 105)))))).c (ay P cal (aw P cal m1) none 105 (cR (cL (cL (cR (cL (cR vv)))))) (Lv.b (Lv.a (Lv.a (Lv.b (Lv.a (Lv.b (A 105))))))) (Jw cal k m1) (wx cal k) (av P jq)))
noncomputable def K105_prlrllr (cal:Cal) (k:Nat) (m1:Nat):KR:=(cutK (Lv.b (Lv.a (Lv.a (Lv.b (Lv.a (Lv.b (A 105))))))).c (ay P cal (aw P cal m1) none 105 (cR (cR (cL (cL (cR (cL (cR vv))))))) (Lv.b (Lv.b (Lv.a (Lv.a (Lv.b (Lv.a (Lv.b (A 105)))))))) (Jw cal k m1) (wx cal k) (av P jq)))
noncomputable def K105_prlrllrr (cal:Cal) (k:Nat) (m1:Nat):KR:=(cutK (Lv.b (Lv.b (Lv.a (Lv.a (Lv.b (Lv.a (Lv.b (A 105)))))))).c (ay P cal (aw P cal m1) none 105 (cR (cR (cR (cL (cL (cR (cL (cR vv)))))))) (Lv.b (Lv.b (Lv.b (Lv.a (Lv.a (Lv.b (Lv.a (Lv.b (A 105))))))))) (Jw cal k m1) (wx cal k) (av P jq)))
noncomputable def K105_pxrlrllrrl (cal:Cal) (k:Nat) (m1:Nat):XR:=(upX 1 (K105_prlrllrr cal k m1) (wx cal k))
noncomputable def K105_prlrllrrll (cal:Cal) (k:Nat) (m1:Nat):KR:=(cutK (Lv.a (Lv.a (Lv.b (Lv.b (Lv.a (Lv.a (Lv.b (Lv.a (Lv.b (A 105)))))))))).c (ay P cal (aw P cal m1) none 105 (cR (cL (cL (cR (cR (cL (cL (cR (cL (cR vv)))))))))) (Lv.b (Lv.a (Lv.a (Lv.b (Lv.b (Lv.a (Lv.a (Lv.b (Lv.a (Lv.b (A 105))))))))))) (K105_prlrllrr cal k m1) (K105_pxrlrllrrl cal k m1) (av P jq)))
noncomputable def K105_prr (cal:Cal) (k:Nat):KR:=(cutK (Lv.b (Lv.b (A 105))).c (ay P cal (aw P cal k) none 105 (cR (cR (cR vv))) (Lv.b (Lv.b (Lv.b (A 105)))) (av P jq) X0 (av P jq)))
noncomputable def E105_1 (cal:Cal) (k m1:Nat):KR:=ay P cal (aw P cal m1) none 105 (cL (cL (cR (cL (cR vv))))) (Lv.a (Lv.a (Lv.b (Lv.a (Lv.b (A 105)))))) (Jw cal k m1) (wx cal k) (av P jq)
noncomputable def R105_1 (cal:Cal) (k m1:Nat):V4:=fun u0 u7 u8 u9 H n=>aw P cal m1 (Lv.a (Lv.b (Lv.a (Lv.b (A 105))))) none 105 (cL (cR (cL (cR vv)))) (XW cal k) (wx cal k) (av P jq) (Tr.set (Tr.set (Tr.set (Tr.set Tr.nil 9 (some u9)) 8 (some u8)) 7 (some u7)) 0 (some u0)) H n []
noncomputable def B105_1 (cal:Cal) (k m1:Nat) (b1:V4) (u0 u7 u8 u9:Value) (H:Hp) (n:Nat):Res:=
binK P .lss 3 (.tmp 9) (.tmp 8) u9 u8 fun v_5=>
ifK v_5 (
aq (aQ P 44 u7 u9) fun v_6=>
aq (aW v_6) fun a_8=>aq (az P H 3 a_8) fun v_7=>
ry P .min [3,3] (Call.mk (Callee.builtin Builtin.min) #[(.tmp 13),(.tmp 14)] #[3,3]) 3 [u0,v_7] H n fun v_c H_d n_e=>
binK P .add 3 (.tmp 9) (.const (.int .i64 1)) u9 (.int .i64 1) fun v_g=>
b1 v_c u7 u8 v_g H_d n_e) (
some (u0,H,n))
noncomputable def Pk (cal:Cal) (k m1:Nat) (b1:V4) (u0 u7 u8 u9:Value) (H:Hp) (n:Nat):Res:=B105_1 cal k m1 b1 u0 u7 u8 u9 H n
noncomputable def Fv (cal:Cal) (k:Nat):Nat→V4:=fun m=>Nat.rec (motive:=fun _=>V4) (Pk cal k 0 (fun _ _ _ _ _ _=>none)) (fun m ih=>Pk cal k (m+1) ih) m
theorem h105_1 (cal:Cal) (k m1:Nat) (u0 u7 u8 u9:Value) (H:Hp) (n:Nat):labK (E105_1 cal k m1) (Tr.set (Tr.set (Tr.set (Tr.set Tr.nil 9 (some u9)) 8 (some u8)) 7 (some u7)) 0 (some u0)) H n []=Pk cal k m1 (R105_1 cal k m1) u0 u7 u8 u9 H n:=by
  refine Eq.trans (b:=B105_1 cal k m1 (R105_1 cal k m1) u0 u7 u8 u9 H n) (by kernel_rfl) ?_
  rw[Pk]
theorem q105_1 (cal:Cal) (k:Nat):∀(m:Nat) (u0 u7 u8 u9:Value) (H:Hp) (n:Nat),labK (E105_1 cal k m) (Tr.set (Tr.set (Tr.set (Tr.set Tr.nil 9 (some u9)) 8 (some u8)) 7 (some u7)) 0 (some u0)) H n []=Fv cal k m u0 u7 u8 u9 H n
  | 0,u0,u7,u8,u9,H,n=>by
    rw[h105_1]
    have e:R105_1 cal k 0=fun _ _ _ _ _ _=>none:=by funext u0 u7 u8 u9 H n; kernel_rfl
    rw[e]; rfl
  | m+1,u0,u7,u8,u9,H,n=>by
    rw[h105_1]
    have e:R105_1 cal k (m+1)=Fv cal k m:=by
      funext u0 u7 u8 u9 H n
      have e:R105_1 cal k (m+1) u0 u7 u8 u9 H n=labK (E105_1 cal k m) (Tr.set (Tr.set (Tr.set (Tr.set Tr.nil 9 (some u9)) 8 (some u8)) 7 (some u7)) 0 (some u0)) H n []:=by kernel_rfl
      rw[e]; exact q105_1 ..
    rw[e]; rfl
noncomputable def B105_0 (cal:Cal) (k:Nat) (j1:V4) (v0 v1:Value) (H:Hp) (n:Nat):Res:=
aq (lenV P 44 v1) fun v_3=>
j1 v0 v1 v_3 (.int .i64 0) H n
noncomputable def TY (cal:Cal) (k:Nat) (v0 v1:Value) (H:Hp) (n:Nat):Res:=B105_0 cal k (Fv cal k k) v0 v1 H n
theorem h105_0 (cal:Cal) (k:Nat) (v0 v1:Value) (H:Hp) (n:Nat):aK P cal A (k+1) 105 [v0,v1] H n=TY cal k v0 v1 H n:=by
  have h:aK P cal A (k+1) 105 [v0,v1] H n=B105_0 cal k (fun u0 u7 u8 u9 H n=>labK (E105_1 cal k k) (Tr.set (Tr.set (Tr.set (Tr.set Tr.nil 9 (some u9)) 8 (some u8)) 7 (some u7)) 0 (some u0)) H n []) v0 v1 H n:=by
    rw[bW (fn:=Go.Proofs.Try.f105) (c:=vv) (rs:=jq) (by kernel_rfl) (by kernel_rfl) (by kernel_rfl) (by kernel_rfl)]
    kernel_rfl
  rw[h,TY]
  have e1:(fun u0 u7 u8 u9 H n=>labK (E105_1 cal k k) (Tr.set (Tr.set (Tr.set (Tr.set Tr.nil 9 (some u9)) 8 (some u8)) 7 (some u7)) 0 (some u0)) H n [])=(Fv cal k k):=by funext u0 u7 u8 u9 H n; exact q105_1 ..
  rw[e1]
noncomputable def vx:Code:=cV 106
noncomputable def jv:List ResultVar:=dW 106
noncomputable def K106_p (cal:Cal) (k:Nat):KR:=(cutK (A 106).c (ay P cal (aw P cal k) none 106 (cR vx) (Lv.b (A 106)) (av P jv) X0 (av P jv)))
noncomputable def XX (cal:Cal) (k:Nat):KR:=(cutK (Lv.b (A 106)).c (ay P cal (aw P cal k) none 106 (cR (cR vx)) (Lv.b (Lv.b (A 106))) (av P jv) X0 (av P jv)))
noncomputable def K106_prl (cal:Cal) (k:Nat):KR:=(cutK (Lv.a (Lv.b (A 106))).c (ay P cal (aw P cal k) none 106 (cR (cL (cR vx))) (Lv.b (Lv.a (Lv.b (A 106)))) (XX cal k) X0 (av P jv)))
noncomputable def wy (cal:Cal) (k:Nat):XR:=(upX 0 (XX cal k) X0)
noncomputable def Jx (cal:Cal) (k:Nat) (m1:Nat):KR:=(fun T H n D=>aw P cal m1 (Lv.a (Lv.b (Lv.a (Lv.b (A 106))))) none 106 (cL (cR (cL (cR vx)))) (XX cal k) (wy cal k) (av P jv) (cutT (Lv.a (Lv.b (Lv.a (Lv.b (A 106))))).c T) H n D)
noncomputable def K106_prlrll (cal:Cal) (k:Nat) (m1:Nat):KR:=(cutK (Lv.a (Lv.a (Lv.b (Lv.a (Lv.b (A 106)))))).c (ay P cal (aw P cal m1) none 106 (cR (cL (cL (cR (cL (cR vx)))))) (Lv.b (Lv.a (Lv.a (Lv.b (Lv.a (Lv.b (A 106))))))) (Jx cal k m1) (wy cal k) (av P jv)))
noncomputable def K106_prlrllr (cal:Cal) (k:Nat) (m1:Nat):KR:=(cutK (Lv.b (Lv.a (Lv.a (Lv.b (Lv.a (Lv.b (A 106))))))).c (ay P cal (aw P cal m1) none 106 (cR (cR (cL (cL (cR (cL (cR vx))))))) (Lv.b (Lv.b (Lv.a (Lv.a (Lv.b (Lv.a (Lv.b (A 106)))))))) (Jx cal k m1) (wy cal k) (av P jv)))
noncomputable def K106_prlrllrr (cal:Cal) (k:Nat) (m1:Nat):KR:=(cutK (Lv.b (Lv.b (Lv.a (Lv.a (Lv.b (Lv.a (Lv.b (A 106)))))))).c (ay P cal (aw P cal m1) none 106 (cR (cR (cR (cL (cL (cR (cL (cR vx)))))))) (Lv.b (Lv.b (Lv.b (Lv.a (Lv.a (Lv.b (Lv.a (Lv.b (A 106))))))))) (Jx cal k m1) (wy cal k) (av P jv)))
noncomputable def K106_pxrlrllrrl (cal:Cal) (k:Nat) (m1:Nat):XR:=(upX 1 (K106_prlrllrr cal k m1) (wy cal k))
noncomputable def K106_prlrllrrll (cal:Cal) (k:Nat) (m1:Nat):KR:=(cutK (Lv.a (Lv.a (Lv.b (Lv.b (Lv.a (Lv.a (Lv.b (Lv.a (Lv.b (A 106)))))))))).c (ay P cal (aw P cal m1) none 106 (cR (cL (cL (cR (cR (cL (cL (cR (cL (cR vx)))))))))) (Lv.b (Lv.a (Lv.a (Lv.b (Lv.b (Lv.a (Lv.a (Lv.b (Lv.a (Lv.b (A 106))))))))))) (K106_prlrllrr cal k m1) (K106_pxrlrllrrl cal k m1) (av P jv)))
noncomputable def K106_prr (cal:Cal) (k:Nat):KR:=(cutK (Lv.b (Lv.b (A 106))).c (ay P cal (aw P cal k) none 106 (cR (cR (cR vx))) (Lv.b (Lv.b (Lv.b (A 106)))) (av P jv) X0 (av P jv)))
noncomputable def E106_1 (cal:Cal) (k m1:Nat):KR:=ay P cal (aw P cal m1) none 106 (cL (cL (cR (cL (cR vx))))) (Lv.a (Lv.a (Lv.b (Lv.a (Lv.b (A 106)))))) (Jx cal k m1) (wy cal k) (av P jv)
noncomputable def R106_1 (cal:Cal) (k m1:Nat):V4:=fun u0 u7 u8 u9 H n=>aw P cal m1 (Lv.a (Lv.b (Lv.a (Lv.b (A 106))))) none 106 (cL (cR (cL (cR vx)))) (XX cal k) (wy cal k) (av P jv) (Tr.set (Tr.set (Tr.set (Tr.set Tr.nil 9 (some u9)) 8 (some u8)) 7 (some u7)) 0 (some u0)) H n []
noncomputable def B106_1 (cal:Cal) (k m1:Nat) (b1:V4) (u0 u7 u8 u9:Value) (H:Hp) (n:Nat):Res:=
binK P .lss 3 (.tmp 9) (.tmp 8) u9 u8 fun v_5=>
ifK v_5 (
aq (aQ P 44 u7 u9) fun v_6=>
aq (aW v_6) fun a_8=>aq (az P H 3 a_8) fun v_7=>
ry P .max [3,3] (Call.mk (Callee.builtin Builtin.max) #[(.tmp 13),(.tmp 14)] #[3,3]) 3 [u0,v_7] H n fun v_c H_d n_e=>
binK P .add 3 (.tmp 9) (.const (.int .i64 1)) u9 (.int .i64 1) fun v_g=>
b1 v_c u7 u8 v_g H_d n_e) (
some (u0,H,n))
noncomputable def PJ (cal:Cal) (k m1:Nat) (b1:V4) (u0 u7 u8 u9:Value) (H:Hp) (n:Nat):Res:=B106_1 cal k m1 b1 u0 u7 u8 u9 H n
noncomputable def Fw (cal:Cal) (k:Nat):Nat→V4:=fun m=>Nat.rec (motive:=fun _=>V4) (PJ cal k 0 (fun _ _ _ _ _ _=>none)) (fun m ih=>PJ cal k (m+1) ih) m
theorem h106_1 (cal:Cal) (k m1:Nat) (u0 u7 u8 u9:Value) (H:Hp) (n:Nat):labK (E106_1 cal k m1) (Tr.set (Tr.set (Tr.set (Tr.set Tr.nil 9 (some u9)) 8 (some u8)) 7 (some u7)) 0 (some u0)) H n []=PJ cal k m1 (R106_1 cal k m1) u0 u7 u8 u9 H n:=by
  refine Eq.trans (b:=B106_1 cal k m1 (R106_1 cal k m1) u0 u7 u8 u9 H n) (by kernel_rfl) ?_
  rw[PJ]
theorem q106_1 (cal:Cal) (k:Nat):∀(m:Nat) (u0 u7 u8 u9:Value) (H:Hp) (n:Nat),labK (E106_1 cal k m) (Tr.set (Tr.set (Tr.set (Tr.set Tr.nil 9 (some u9)) 8 (some u8)) 7 (some u7)) 0 (some u0)) H n []=Fw cal k m u0 u7 u8 u9 H n
  | 0,u0,u7,u8,u9,H,n=>by
    rw[h106_1]
    have e:R106_1 cal k 0=fun _ _ _ _ _ _=>none:=by funext u0 u7 u8 u9 H n; kernel_rfl
    rw[e]; rfl
  | m+1,u0,u7,u8,u9,H,n=>by
    rw[h106_1]
    have e:R106_1 cal k (m+1)=Fw cal k m:=by
      funext u0 u7 u8 u9 H n
      have e:R106_1 cal k (m+1) u0 u7 u8 u9 H n=labK (E106_1 cal k m) (Tr.set (Tr.set (Tr.set (Tr.set Tr.nil 9 (some u9)) 8 (some u8)) 7 (some u7)) 0 (some u0)) H n []:=by kernel_rfl
      rw[e]; exact q106_1 ..
    rw[e]; rfl
noncomputable def B106_0 (cal:Cal) (k:Nat) (j1:V4) (v0 v1:Value) (H:Hp) (n:Nat):Res:=
aq (lenV P 44 v1) fun v_3=>
j1 v0 v1 v_3 (.int .i64 0) H n
noncomputable def TZ (cal:Cal) (k:Nat) (v0 v1:Value) (H:Hp) (n:Nat):Res:=B106_0 cal k (Fw cal k k) v0 v1 H n
theorem h106_0 (cal:Cal) (k:Nat) (v0 v1:Value) (H:Hp) (n:Nat):aK P cal A (k+1) 106 [v0,v1] H n=TZ cal k v0 v1 H n:=by
  have h:aK P cal A (k+1) 106 [v0,v1] H n=B106_0 cal k (fun u0 u7 u8 u9 H n=>labK (E106_1 cal k k) (Tr.set (Tr.set (Tr.set (Tr.set Tr.nil 9 (some u9)) 8 (some u8)) 7 (some u7)) 0 (some u0)) H n []) v0 v1 H n:=by
    rw[bW (fn:=Go.Proofs.Try.f106) (c:=vx) (rs:=jv) (by kernel_rfl) (by kernel_rfl) (by kernel_rfl) (by kernel_rfl)]
    kernel_rfl
  rw[h,TZ]
  have e1:(fun u0 u7 u8 u9 H n=>labK (E106_1 cal k k) (Tr.set (Tr.set (Tr.set (Tr.set Tr.nil 9 (some u9)) 8 (some u8)) 7 (some u7)) 0 (some u0)) H n [])=(Fw cal k k):=by funext u0 u7 u8 u9 H n; exact q106_1 ..
  rw[e1]
noncomputable def mw:Code:=cV 109
noncomputable def dK:List ResultVar:=dW 109
noncomputable def K109_p (cal:Cal) (k:Nat):KR:=(cutK (A 109).c (ay P cal (aw P cal k) none 109 (cR mw) (Lv.b (A 109)) (av P dK) X0 (av P dK)))
noncomputable def K109_pr (cal:Cal) (k:Nat):KR:=(cutK (Lv.b (A 109)).c (ay P cal (aw P cal k) none 109 (cR (cR mw)) (Lv.b (Lv.b (A 109))) (av P dK) X0 (av P dK)))
noncomputable def K109_prl (cal:Cal) (k:Nat):KR:=(cutK (Lv.a (Lv.b (A 109))).c (ay P cal (aw P cal k) none 109 (cR (cL (cR mw))) (Lv.b (Lv.a (Lv.b (A 109)))) (K109_pr cal k) X0 (av P dK)))
noncomputable def K109_prlrl (cal:Cal) (k:Nat):KR:=(cutK (Lv.a (Lv.b (Lv.a (Lv.b (A 109))))).c (ay P cal (aw P cal k) none 109 (cR (cL (cR (cL (cR mw))))) (Lv.b (Lv.a (Lv.b (Lv.a (Lv.b (A 109)))))) (K109_pr cal k) X0 (av P dK)))
noncomputable def K109_prr (cal:Cal) (k:Nat):KR:=(cutK (Lv.b (Lv.b (A 109))).c (ay P cal (aw P cal k) none 109 (cR (cR (cR mw))) (Lv.b (Lv.b (Lv.b (A 109)))) (av P dK) X0 (av P dK)))
noncomputable def Nq (cal:Cal) (k:Nat):KR:=(cutK (Lv.b (Lv.b (Lv.b (A 109)))).c (ay P cal (aw P cal k) none 109 (cR (cR (cR (cR mw)))) (Lv.b (Lv.b (Lv.b (Lv.b (A 109))))) (av P dK) X0 (av P dK)))
noncomputable def K109_prrrl (cal:Cal) (k:Nat):KR:=(cutK (Lv.a (Lv.b (Lv.b (Lv.b (A 109))))).c (ay P cal (aw P cal k) none 109 (cR (cL (cR (cR (cR mw))))) (Lv.b (Lv.a (Lv.b (Lv.b (Lv.b (A 109)))))) (Nq cal k) X0 (av P dK)))
noncomputable def pK (cal:Cal) (k:Nat):XR:=(upX 0 (Nq cal k) X0)
noncomputable def BV (cal:Cal) (k:Nat) (m1:Nat):KR:=(fun T H n D=>aw P cal m1 (Lv.a (Lv.b (Lv.a (Lv.b (Lv.b (Lv.b (A 109))))))) none 109 (cL (cR (cL (cR (cR (cR mw)))))) (Nq cal k) (pK cal k) (av P dK) (cutT (Lv.a (Lv.b (Lv.a (Lv.b (Lv.b (Lv.b (A 109))))))).c T) H n D)
noncomputable def K109_prrrlrll (cal:Cal) (k:Nat) (m1:Nat):KR:=(cutK (Lv.a (Lv.a (Lv.b (Lv.a (Lv.b (Lv.b (Lv.b (A 109)))))))).c (ay P cal (aw P cal m1) none 109 (cR (cL (cL (cR (cL (cR (cR (cR mw)))))))) (Lv.b (Lv.a (Lv.a (Lv.b (Lv.a (Lv.b (Lv.b (Lv.b (A 109))))))))) (BV cal k m1) (pK cal k) (av P dK)))
noncomputable def K109_prrrlrllr (cal:Cal) (k:Nat) (m1:Nat):KR:=(cutK (Lv.b (Lv.a (Lv.a (Lv.b (Lv.a (Lv.b (Lv.b (Lv.b (A 109))))))))).c (ay P cal (aw P cal m1) none 109 (cR (cR (cL (cL (cR (cL (cR (cR (cR mw))))))))) (Lv.b (Lv.b (Lv.a (Lv.a (Lv.b (Lv.a (Lv.b (Lv.b (Lv.b (A 109)))))))))) (BV cal k m1) (pK cal k) (av P dK)))
noncomputable def AK (cal:Cal) (k:Nat) (m1:Nat):KR:=(cutK (Lv.b (Lv.b (Lv.a (Lv.a (Lv.b (Lv.a (Lv.b (Lv.b (Lv.b (A 109)))))))))).c (ay P cal (aw P cal m1) none 109 (cR (cR (cR (cL (cL (cR (cL (cR (cR (cR mw)))))))))) (Lv.b (Lv.b (Lv.b (Lv.a (Lv.a (Lv.b (Lv.a (Lv.b (Lv.b (Lv.b (A 109))))))))))) (BV cal k m1) (pK cal k) (av P dK)))
noncomputable def rj (cal:Cal) (k:Nat) (m1:Nat):XR:=(upX 1 (AK cal k m1) (pK cal k))
noncomputable def K109_prrrlrllrrll (cal:Cal) (k:Nat) (m1:Nat):KR:=(cutK (Lv.a (Lv.a (Lv.b (Lv.b (Lv.a (Lv.a (Lv.b (Lv.a (Lv.b (Lv.b (Lv.b (A 109)))))))))))).c (ay P cal (aw P cal m1) none 109 (cR (cL (cL (cR (cR (cL (cL (cR (cL (cR (cR (cR mw)))))))))))) (Lv.b (Lv.a (Lv.a (Lv.b (Lv.b (Lv.a (Lv.a (Lv.b (Lv.a (Lv.b (Lv.b (Lv.b (A 109))))))))))))) (AK cal k m1) (rj cal k m1) (av P dK)))
noncomputable def K109_prrrlrllrrllr (cal:Cal) (k:Nat) (m1:Nat):KR:=(cutK (Lv.b (Lv.a (Lv.a (Lv.b (Lv.b (Lv.a (Lv.a (Lv.b (Lv.a (Lv.b (Lv.b (Lv.b (A 109))))))))))))).c (ay P cal (aw P cal m1) none 109 (cR (cR (cL (cL (cR (cR (cL (cL (cR (cL (cR (cR (cR mw))))))))))))) (Lv.b (Lv.b (Lv.a (Lv.a (Lv.b (Lv.b (Lv.a (Lv.a (Lv.b (Lv.a (Lv.b (Lv.b (Lv.b (A 109)))))))))))))) (AK cal k m1) (rj cal k m1) (av P dK)))
noncomputable def K109_prrrlrllrrllrl (cal:Cal) (k:Nat) (m1:Nat):KR:=(cutK (Lv.a (Lv.b (Lv.a (Lv.a (Lv.b (Lv.b (Lv.a (Lv.a (Lv.b (Lv.a (Lv.b (Lv.b (Lv.b (A 109)))))))))))))).c (ay P cal (aw P cal m1) none 109 (cR (cL (cR (cL (cL (cR (cR (cL (cL (cR (cL (cR (cR (cR mw)))))))))))))) (Lv.b (Lv.a (Lv.b (Lv.a (Lv.a (Lv.b (Lv.b (Lv.a (Lv.a (Lv.b (Lv.a (Lv.b (Lv.b (Lv.b (A 109))))))))))))))) (K109_prrrlrllrrllr cal k m1) (rj cal k m1) (av P dK)))
noncomputable def K109_prrrlrllrrllrlrl (cal:Cal) (k:Nat) (m1:Nat):KR:=(cutK (Lv.a (Lv.b (Lv.a (Lv.b (Lv.a (Lv.a (Lv.b (Lv.b (Lv.a (Lv.a (Lv.b (Lv.a (Lv.b (Lv.b (Lv.b (A 109)))))))))))))))).c (ay P cal (aw P cal m1) none 109 (cR (cL (cR (cL (cR (cL (cL (cR (cR (cL (cL (cR (cL (cR (cR (cR mw)))))))))))))))) (Lv.b (Lv.a (Lv.b (Lv.a (Lv.b (Lv.a (Lv.a (Lv.b (Lv.b (Lv.a (Lv.a (Lv.b (Lv.a (Lv.b (Lv.b (Lv.b (A 109))))))))))))))))) (K109_prrrlrllrrllr cal k m1) (rj cal k m1) (av P dK)))
noncomputable def K109_prrrr (cal:Cal) (k:Nat):KR:=(cutK (Lv.b (Lv.b (Lv.b (Lv.b (A 109))))).c (ay P cal (aw P cal k) none 109 (cR (cR (cR (cR (cR mw))))) (Lv.b (Lv.b (Lv.b (Lv.b (Lv.b (A 109)))))) (av P dK) X0 (av P dK)))
noncomputable def E109_1 (cal:Cal) (k m1:Nat):KR:=ay P cal (aw P cal m1) none 109 (cL (cL (cR (cL (cR (cR (cR mw))))))) (Lv.a (Lv.a (Lv.b (Lv.a (Lv.b (Lv.b (Lv.b (A 109)))))))) (BV cal k m1) (pK cal k) (av P dK)
noncomputable def R109_1 (cal:Cal) (k m1:Nat):V5:=fun u3 u7 u16 u17 u18 H n=>aw P cal m1 (Lv.a (Lv.b (Lv.a (Lv.b (Lv.b (Lv.b (A 109))))))) none 109 (cL (cR (cL (cR (cR (cR mw)))))) (Nq cal k) (pK cal k) (av P dK) (Tr.set (Tr.set (Tr.set (Tr.set (Tr.set Tr.nil 18 (some u18)) 17 (some u17)) 16 (some u16)) 7 (some u7)) 3 (some u3)) H n []
noncomputable def B109_1 (cal:Cal) (k m1:Nat) (b1:V5) (u3 u7 u16 u17 u18:Value) (H:Hp) (n:Nat):Res:=
binK P .lss 3 (.tmp 18) (.tmp 17) u18 u17 fun v_h=>
ifK v_h (
aq (aQ P 44 u16 u18) fun v_j=>
aq (aW v_j) fun a_l=>aq (az P H 3 a_l) fun v_k=>
aq (ax P 113 u3 1) fun v_p=>
aq (aQ P 111 v_p u18) fun v_q=>
aq (aW v_q) fun a_s=>aq (az P H 53 a_s) fun v_r=>
aY P cal 99 [v_r,v_k] H n fun v_u H_v n_w=>
aq (eW P v_u (Op.unary UnOp.not v_u)) fun v_x=>
ifK v_x (
some ((.bool false),H_v,n_w)) (
binK P .sub 3 (.tmp 30) (.tmp 31) u7 v_k fun v_11=>
binK P .add 3 (.tmp 18) (.const (.int .i64 1)) u18 (.int .i64 1) fun v_13=>
b1 u3 v_11 u16 u17 v_13 H_v n_w)) (
binK P .eql 3 (.tmp 34) (.const (.int .i64 0)) u7 (.int .i64 0) fun v_16=>
some (v_16,H,n))
noncomputable def TK (cal:Cal) (k m1:Nat) (b1:V5) (u3 u7 u16 u17 u18:Value) (H:Hp) (n:Nat):Res:=B109_1 cal k m1 b1 u3 u7 u16 u17 u18 H n
noncomputable def S109_1 (cal:Cal) (k:Nat):Nat→V5:=fun m=>Nat.rec (motive:=fun _=>V5) (TK cal k 0 (fun _ _ _ _ _ _ _=>none)) (fun m ih=>TK cal k (m+1) ih) m
theorem h109_1 (cal:Cal) (k m1:Nat) (u3 u7 u16 u17 u18:Value) (H:Hp) (n:Nat):labK (E109_1 cal k m1) (Tr.set (Tr.set (Tr.set (Tr.set (Tr.set Tr.nil 18 (some u18)) 17 (some u17)) 16 (some u16)) 7 (some u7)) 3 (some u3)) H n []=TK cal k m1 (R109_1 cal k m1) u3 u7 u16 u17 u18 H n:=by
  refine Eq.trans (b:=B109_1 cal k m1 (R109_1 cal k m1) u3 u7 u16 u17 u18 H n) (by kernel_rfl) ?_
  rw[TK]
theorem q109_1 (cal:Cal) (k:Nat):∀(m:Nat) (u3 u7 u16 u17 u18:Value) (H:Hp) (n:Nat),labK (E109_1 cal k m) (Tr.set (Tr.set (Tr.set (Tr.set (Tr.set Tr.nil 18 (some u18)) 17 (some u17)) 16 (some u16)) 7 (some u7)) 3 (some u3)) H n []=S109_1 cal k m u3 u7 u16 u17 u18 H n
  | 0,u3,u7,u16,u17,u18,H,n=>by
    rw[h109_1]
    have e:R109_1 cal k 0=fun _ _ _ _ _ _ _=>none:=by funext u3 u7 u16 u17 u18 H n; kernel_rfl
    rw[e]; rfl
  | m+1,u3,u7,u16,u17,u18,H,n=>by
    rw[h109_1]
    have e:R109_1 cal k (m+1)=S109_1 cal k m:=by
      funext u3 u7 u16 u17 u18 H n
      have e:R109_1 cal k (m+1) u3 u7 u16 u17 u18 H n=labK (E109_1 cal k m) (Tr.set (Tr.set (Tr.set (Tr.set (Tr.set Tr.nil 18 (some u18)) 17 (some u17)) 16 (some u16)) 7 (some u7)) 3 (some u3)) H n []:=by kernel_rfl
      rw[e]; exact q109_1 ..
    rw[e]; rfl
noncomputable def B109_0 (cal:Cal) (k:Nat) (j1:V5) (v0 v1 v2:Value) (H:Hp) (n:Nat):Res:=
boxK 113 v0 H n fun v_1 H_2 n_3=>
aq (lenV P 44 v1) fun v_6=>
binK P .neq 3 (.tmp 11) (.tmp 12) v_6 v2 fun v_8=>
ifK v_8 (
some ((.bool false),H_2,n_3)) (
aq (ax P 113 v_1 0) fun v_a=>
aq (aW v_a) fun a_c=>aq (az P H_2 3 a_c) fun v_b=>
aq (lenV P 44 v1) fun v_f=>
j1 v_1 v_b v1 v_f (.int .i64 0) H_2 n_3)
noncomputable def Uj (cal:Cal) (k:Nat) (v0 v1 v2:Value) (H:Hp) (n:Nat):Res:=B109_0 cal k (S109_1 cal k k) v0 v1 v2 H n
theorem h109_0 (cal:Cal) (k:Nat) (v0 v1 v2:Value) (H:Hp) (n:Nat):aK P cal A (k+1) 109 [v0,v1,v2] H n=Uj cal k v0 v1 v2 H n:=by
  have h:aK P cal A (k+1) 109 [v0,v1,v2] H n=B109_0 cal k (fun u3 u7 u16 u17 u18 H n=>labK (E109_1 cal k k) (Tr.set (Tr.set (Tr.set (Tr.set (Tr.set Tr.nil 18 (some u18)) 17 (some u17)) 16 (some u16)) 7 (some u7)) 3 (some u3)) H n []) v0 v1 v2 H n:=by
    rw[bW (fn:=Go.Proofs.Try.f109) (c:=mw) (rs:=dK) (by kernel_rfl) (by kernel_rfl) (by kernel_rfl) (by kernel_rfl)]
    kernel_rfl
  rw[h,Uj]
  have e1:(fun u3 u7 u16 u17 u18 H n=>labK (E109_1 cal k k) (Tr.set (Tr.set (Tr.set (Tr.set (Tr.set Tr.nil 18 (some u18)) 17 (some u17)) 16 (some u16)) 7 (some u7)) 3 (some u3)) H n [])=(S109_1 cal k k):=by funext u3 u7 u16 u17 u18 H n; exact q109_1 ..
  rw[e1]
noncomputable def rq:Code:=cV 111
noncomputable def iw:List ResultVar:=dW 111
noncomputable def K111_p (cal:Cal) (k:Nat):KR:=(cutK (A 111).c (ay P cal (aw P cal k) none 111 (cR rq) (Lv.b (A 111)) (av P iw) X0 (av P iw)))
noncomputable def XY (cal:Cal) (k:Nat):KR:=(cutK (Lv.b (A 111)).c (ay P cal (aw P cal k) none 111 (cR (cR rq)) (Lv.b (Lv.b (A 111))) (av P iw) X0 (av P iw)))
noncomputable def K111_prl (cal:Cal) (k:Nat):KR:=(cutK (Lv.a (Lv.b (A 111))).c (ay P cal (aw P cal k) none 111 (cR (cL (cR rq))) (Lv.b (Lv.a (Lv.b (A 111)))) (XY cal k) X0 (av P iw)))
noncomputable def wz (cal:Cal) (k:Nat):XR:=(upX 0 (XY cal k) X0)
noncomputable def Jy (cal:Cal) (k:Nat) (m1:Nat):KR:=(fun T H n D=>aw P cal m1 (Lv.a (Lv.b (Lv.a (Lv.b (A 111))))) none 111 (cL (cR (cL (cR rq)))) (XY cal k) (wz cal k) (av P iw) (cutT (Lv.a (Lv.b (Lv.a (Lv.b (A 111))))).c T) H n D)
noncomputable def K111_prlrll (cal:Cal) (k:Nat) (m1:Nat):KR:=(cutK (Lv.a (Lv.a (Lv.b (Lv.a (Lv.b (A 111)))))).c (ay P cal (aw P cal m1) none 111 (cR (cL (cL (cR (cL (cR rq)))))) (Lv.b (Lv.a (Lv.a (Lv.b (Lv.a (Lv.b (A 111))))))) (Jy cal k m1) (wz cal k) (av P iw)))
noncomputable def K111_prlrllr (cal:Cal) (k:Nat) (m1:Nat):KR:=(cutK (Lv.b (Lv.a (Lv.a (Lv.b (Lv.a (Lv.b (A 111))))))).c (ay P cal (aw P cal m1) none 111 (cR (cR (cL (cL (cR (cL (cR rq))))))) (Lv.b (Lv.b (Lv.a (Lv.a (Lv.b (Lv.a (Lv.b (A 111)))))))) (Jy cal k m1) (wz cal k) (av P iw)))
noncomputable def Aq (cal:Cal) (k:Nat) (m1:Nat):KR:=(cutK (Lv.b (Lv.b (Lv.a (Lv.a (Lv.b (Lv.a (Lv.b (A 111)))))))).c (ay P cal (aw P cal m1) none 111 (cR (cR (cR (cL (cL (cR (cL (cR rq)))))))) (Lv.b (Lv.b (Lv.b (Lv.a (Lv.a (Lv.b (Lv.a (Lv.b (A 111))))))))) (Jy cal k m1) (wz cal k) (av P iw)))
noncomputable def Bj (cal:Cal) (k:Nat) (m1:Nat):XR:=(upX 1 (Aq cal k m1) (wz cal k))
noncomputable def K111_prlrllrrll (cal:Cal) (k:Nat) (m1:Nat):KR:=(cutK (Lv.a (Lv.a (Lv.b (Lv.b (Lv.a (Lv.a (Lv.b (Lv.a (Lv.b (A 111)))))))))).c (ay P cal (aw P cal m1) none 111 (cR (cL (cL (cR (cR (cL (cL (cR (cL (cR rq)))))))))) (Lv.b (Lv.a (Lv.a (Lv.b (Lv.b (Lv.a (Lv.a (Lv.b (Lv.a (Lv.b (A 111))))))))))) (Aq cal k m1) (Bj cal k m1) (av P iw)))
noncomputable def K111_prlrllrrllr (cal:Cal) (k:Nat) (m1:Nat):KR:=(cutK (Lv.b (Lv.a (Lv.a (Lv.b (Lv.b (Lv.a (Lv.a (Lv.b (Lv.a (Lv.b (A 111))))))))))).c (ay P cal (aw P cal m1) none 111 (cR (cR (cL (cL (cR (cR (cL (cL (cR (cL (cR rq))))))))))) (Lv.b (Lv.b (Lv.a (Lv.a (Lv.b (Lv.b (Lv.a (Lv.a (Lv.b (Lv.a (Lv.b (A 111)))))))))))) (Aq cal k m1) (Bj cal k m1) (av P iw)))
noncomputable def K111_prlrllrrllrrl (cal:Cal) (k:Nat) (m1:Nat):KR:=(cutK (Lv.a (Lv.b (Lv.b (Lv.a (Lv.a (Lv.b (Lv.b (Lv.a (Lv.a (Lv.b (Lv.a (Lv.b (A 111))))))))))))).c (ay P cal (aw P cal m1) none 111 (cR (cL (cR (cR (cL (cL (cR (cR (cL (cL (cR (cL (cR rq))))))))))))) (Lv.b (Lv.a (Lv.b (Lv.b (Lv.a (Lv.a (Lv.b (Lv.b (Lv.a (Lv.a (Lv.b (Lv.a (Lv.b (A 111)))))))))))))) (Aq cal k m1) (Bj cal k m1) (av P iw)))
noncomputable def K111_prr (cal:Cal) (k:Nat):KR:=(cutK (Lv.b (Lv.b (A 111))).c (ay P cal (aw P cal k) none 111 (cR (cR (cR rq))) (Lv.b (Lv.b (Lv.b (A 111)))) (av P iw) X0 (av P iw)))
noncomputable def E111_1 (cal:Cal) (k m1:Nat):KR:=ay P cal (aw P cal m1) none 111 (cL (cL (cR (cL (cR rq))))) (Lv.a (Lv.a (Lv.b (Lv.a (Lv.b (A 111)))))) (Jy cal k m1) (wz cal k) (av P iw)
noncomputable def R111_1 (cal:Cal) (k m1:Nat):V4:=fun u0 u3 u11 u12 H n=>aw P cal m1 (Lv.a (Lv.b (Lv.a (Lv.b (A 111))))) none 111 (cL (cR (cL (cR rq)))) (XY cal k) (wz cal k) (av P iw) (Tr.set (Tr.set (Tr.set (Tr.set Tr.nil 12 (some u12)) 11 (some u11)) 3 (some u3)) 0 (some u0)) H n []
noncomputable def B111_1 (cal:Cal) (k m1:Nat) (b1:V4) (u0 u3 u11 u12:Value) (H:Hp) (n:Nat):Res:=
binK P .lss 3 (.tmp 12) (.tmp 11) u12 u11 fun v_d=>
ifK v_d (
aq (aW u3) fun a_i=>aq (az P H 111 a_i) fun v_h=>
aY P cal 69 [u0,v_h,u12] H n fun v_k H_l n_m=>
ifK v_k (
some ((.bool false),H_l,n_m)) (
binK P .add 3 (.tmp 12) (.const (.int .i64 1)) u12 (.int .i64 1) fun v_o=>
b1 u0 u3 u11 v_o H_l n_m)) (
some ((.bool true),H,n))
noncomputable def Uq (cal:Cal) (k m1:Nat) (b1:V4) (u0 u3 u11 u12:Value) (H:Hp) (n:Nat):Res:=B111_1 cal k m1 b1 u0 u3 u11 u12 H n
noncomputable def Uv (cal:Cal) (k:Nat):Nat→V4:=fun m=>Nat.rec (motive:=fun _=>V4) (Uq cal k 0 (fun _ _ _ _ _ _=>none)) (fun m ih=>Uq cal k (m+1) ih) m
theorem h111_1 (cal:Cal) (k m1:Nat) (u0 u3 u11 u12:Value) (H:Hp) (n:Nat):labK (E111_1 cal k m1) (Tr.set (Tr.set (Tr.set (Tr.set Tr.nil 12 (some u12)) 11 (some u11)) 3 (some u3)) 0 (some u0)) H n []=Uq cal k m1 (R111_1 cal k m1) u0 u3 u11 u12 H n:=by
  refine Eq.trans (b:=B111_1 cal k m1 (R111_1 cal k m1) u0 u3 u11 u12 H n) (by kernel_rfl) ?_
  rw[Uq]
theorem q111_1 (cal:Cal) (k:Nat):∀(m:Nat) (u0 u3 u11 u12:Value) (H:Hp) (n:Nat),labK (E111_1 cal k m) (Tr.set (Tr.set (Tr.set (Tr.set Tr.nil 12 (some u12)) 11 (some u11)) 3 (some u3)) 0 (some u0)) H n []=Uv cal k m u0 u3 u11 u12 H n
  | 0,u0,u3,u11,u12,H,n=>by
    rw[h111_1]
    have e:R111_1 cal k 0=fun _ _ _ _ _ _=>none:=by funext u0 u3 u11 u12 H n; kernel_rfl
    rw[e]; rfl
  | m+1,u0,u3,u11,u12,H,n=>by
    rw[h111_1]
    have e:R111_1 cal k (m+1)=Uv cal k m:=by
      funext u0 u3 u11 u12 H n
      have e:R111_1 cal k (m+1) u0 u3 u11 u12 H n=labK (E111_1 cal k m) (Tr.set (Tr.set (Tr.set (Tr.set Tr.nil 12 (some u12)) 11 (some u11)) 3 (some u3)) 0 (some u0)) H n []:=by kernel_rfl
      rw[e]; exact q111_1 ..
    rw[e]; rfl
noncomputable def B111_0 (cal:Cal) (k:Nat) (j1:V4) (v0 v1:Value) (H:Hp) (n:Nat):Res:=
boxK 111 v1 H n fun v_1 H_2 n_3=>
aq (nilV v0) fun v_6=>
aq (ax P 117 v_6 0) fun v_7=>
aq (ax P 35 v_7 0) fun v_8=>
aq (aW v_8) fun a_a=>aq (az P H_2 31 a_a) fun v_9=>
aq (lenV P 31 v_9) fun v_b=>
j1 v0 v_1 v_b (.int .i64 0) H_2 n_3
noncomputable def C111_0 (cal:Cal) (k:Nat) (v0 v1:Value) (H:Hp) (n:Nat):Res:=B111_0 cal k (Uv cal k k) v0 v1 H n
theorem h111_0 (cal:Cal) (k:Nat) (v0 v1:Value) (H:Hp) (n:Nat):aK P cal A (k+1) 111 [v0,v1] H n=C111_0 cal k v0 v1 H n:=by
  have h:aK P cal A (k+1) 111 [v0,v1] H n=B111_0 cal k (fun u0 u3 u11 u12 H n=>labK (E111_1 cal k k) (Tr.set (Tr.set (Tr.set (Tr.set Tr.nil 12 (some u12)) 11 (some u11)) 3 (some u3)) 0 (some u0)) H n []) v0 v1 H n:=by
    rw[bW (fn:=Go.Proofs.Try.f111) (c:=rq) (rs:=iw) (by kernel_rfl) (by kernel_rfl) (by kernel_rfl) (by kernel_rfl)]
    kernel_rfl
  rw[h,C111_0]
  have e1:(fun u0 u3 u11 u12 H n=>labK (E111_1 cal k k) (Tr.set (Tr.set (Tr.set (Tr.set Tr.nil 12 (some u12)) 11 (some u11)) 3 (some u3)) 0 (some u0)) H n [])=(Uv cal k k):=by funext u0 u3 u11 u12 H n; exact q111_1 ..
  rw[e1]
noncomputable def code113:Code:=cV 113
noncomputable def Dw:List ResultVar:=dW 113
noncomputable def K113_p (cal:Cal) (k:Nat):KR:=(cutK (A 113).c (ay P cal (aw P cal k) none 113 (cR code113) (Lv.b (A 113)) (av P Dw) X0 (av P Dw)))
noncomputable def K113_pr (cal:Cal) (k:Nat):KR:=(cutK (Lv.b (A 113)).c (ay P cal (aw P cal k) none 113 (cR (cR code113)) (Lv.b (Lv.b (A 113))) (av P Dw) X0 (av P Dw)))
noncomputable def B113_0 (cal:Cal) (k:Nat) (v0 v1:Value) (H:Hp) (n:Nat):Res:=
boxK 105 v0 H n fun v_1 H_2 n_3=>
boxK 3 v1 H_2 n_3 fun v_4 H_5 n_6=>
some ((Value.func (Fn.func 119) ⟨[]⟩ ⟨[v_4,v_1]⟩),H_5,n_6)
noncomputable def C113_0 (cal:Cal) (k:Nat) (v0 v1:Value) (H:Hp) (n:Nat):Res:=B113_0 cal k v0 v1 H n
theorem h113_0 (cal:Cal) (k:Nat) (v0 v1:Value) (H:Hp) (n:Nat):aK P cal A (k+1) 113 [v0,v1] H n=C113_0 cal k v0 v1 H n:=by
  have h:aK P cal A (k+1) 113 [v0,v1] H n=B113_0 cal k v0 v1 H n:=by
    rw[bW (fn:=Go.Proofs.Try.f113) (c:=code113) (rs:=Dw) (by kernel_rfl) (by kernel_rfl) (by kernel_rfl) (by kernel_rfl)]
    kernel_rfl
  rw[h,C113_0]
noncomputable def code114:Code:=cV 114
noncomputable def Dx:List ResultVar:=dW 114
noncomputable def K114_p (cal:Cal) (k:Nat):KR:=(cutK (A 114).c (ay P cal (aw P cal k) none 114 (cR code114) (Lv.b (A 114)) (av P Dx) X0 (av P Dx)))
noncomputable def K114_pr (cal:Cal) (k:Nat):KR:=(cutK (Lv.b (A 114)).c (ay P cal (aw P cal k) none 114 (cR (cR code114)) (Lv.b (Lv.b (A 114))) (av P Dx) X0 (av P Dx)))
noncomputable def B114_0 (cal:Cal) (k:Nat) (v0:Value) (H:Hp) (n:Nat):Res:=
boxK 53 v0 H n fun v_1 H_2 n_3=>
aq (ax P 53 v_1 0) fun v_5=>
aq (aW v_5) fun a_7=>aq (az P H_2 3 a_7) fun v_6=>
binK P .geq 3 (.tmp 4) (.const (.int .i64 0)) v_6 (.int .i64 0) fun v_8=>
aV v_8 true (fun k_a=>
aq (ax P 53 v_1 0) fun v_e=>
k_a v_e H_2 n_3) H_2 n_3 fun v_b H_c n_d=>
aV v_8 true (fun k_f=>
aq (aW v_b) fun a_k=>aq (az P H_c 3 a_k) fun v_j=>
k_f v_j H_c n_d) H_c n_d fun v_g H_h n_i=>
aV v_8 true (fun k_l=>
aq (ax P 53 v_1 1) fun v_p=>
k_l v_p H_h n_i) H_h n_i fun v_m H_n n_o=>
aV v_8 true (fun k_q=>
aq (aW v_m) fun a_v=>aq (az P H_n 3 a_v) fun v_u=>
k_q v_u H_n n_o) H_n n_o fun v_r H_s n_t=>
aV v_8 true (fun k_w=>
binK P .leq 3 (.tmp 8) (.tmp 10) v_g v_r fun v_10=>
k_w v_10 H_s n_t) H_s n_t fun v_x H_y n_z=>
aq (eQ v_8 v_x (.bool false)) fun v_11=>
aV v_11 true (fun k_13=>
aq (ax P 53 v_1 1) fun v_17=>
k_13 v_17 H_y n_z) H_y n_z fun v_14 H_15 n_16=>
aV v_11 true (fun k_18=>
aq (aW v_14) fun a_1d=>aq (az P H_15 3 a_1d) fun v_1c=>
k_18 v_1c H_15 n_16) H_15 n_16 fun v_19 H_1a n_1b=>
aV v_11 true (fun k_1e=>
binK P .leq 3 (.tmp 15) (.const (.int .i64 1000)) v_19 (.int .i64 1000) fun v_1i=>
k_1e v_1i H_1a n_1b) H_1a n_1b fun v_1f H_1g n_1h=>
aq (eQ v_11 v_1f (.bool false)) fun v_1j=>
some (v_1j,H_1g,n_1h)
noncomputable def Uw (cal:Cal) (k:Nat) (v0:Value) (H:Hp) (n:Nat):Res:=B114_0 cal k v0 H n
theorem h114_0 (cal:Cal) (k:Nat) (v0:Value) (H:Hp) (n:Nat):aK P cal A (k+1) 114 [v0] H n=Uw cal k v0 H n:=by
  have h:aK P cal A (k+1) 114 [v0] H n=B114_0 cal k v0 H n:=by
    rw[bW (fn:=Go.Proofs.Try.f114) (c:=code114) (rs:=Dx) (by kernel_rfl) (by kernel_rfl) (by kernel_rfl) (by kernel_rfl)]
    kernel_rfl
  rw[h,Uw]
noncomputable def tW:Code:=cV 115
noncomputable def fy:List ResultVar:=dW 115
noncomputable def K115_p (cal:Cal) (k:Nat):KR:=(cutK (A 115).c (ay P cal (aw P cal k) none 115 (cR tW) (Lv.b (A 115)) (av P fy) X0 (av P fy)))
noncomputable def K115_pr (cal:Cal) (k:Nat):KR:=(cutK (Lv.b (A 115)).c (ay P cal (aw P cal k) none 115 (cR (cR tW)) (Lv.b (Lv.b (A 115))) (av P fy) X0 (av P fy)))
noncomputable def Rx (cal:Cal) (k:Nat):KR:=(cutK (Lv.b (Lv.b (A 115))).c (ay P cal (aw P cal k) none 115 (cR (cR (cR tW))) (Lv.b (Lv.b (Lv.b (A 115)))) (av P fy) X0 (av P fy)))
noncomputable def K115_prrl (cal:Cal) (k:Nat):KR:=(cutK (Lv.a (Lv.b (Lv.b (A 115)))).c (ay P cal (aw P cal k) none 115 (cR (cL (cR (cR tW)))) (Lv.b (Lv.a (Lv.b (Lv.b (A 115))))) (Rx cal k) X0 (av P fy)))
noncomputable def sK (cal:Cal) (k:Nat):XR:=(upX 0 (Rx cal k) X0)
noncomputable def Ew (cal:Cal) (k:Nat) (m1:Nat):KR:=(fun T H n D=>aw P cal m1 (Lv.a (Lv.b (Lv.a (Lv.b (Lv.b (A 115)))))) none 115 (cL (cR (cL (cR (cR tW))))) (Rx cal k) (sK cal k) (av P fy) (cutT (Lv.a (Lv.b (Lv.a (Lv.b (Lv.b (A 115)))))).c T) H n D)
noncomputable def K115_prrlrll (cal:Cal) (k:Nat) (m1:Nat):KR:=(cutK (Lv.a (Lv.a (Lv.b (Lv.a (Lv.b (Lv.b (A 115))))))).c (ay P cal (aw P cal m1) none 115 (cR (cL (cL (cR (cL (cR (cR tW))))))) (Lv.b (Lv.a (Lv.a (Lv.b (Lv.a (Lv.b (Lv.b (A 115)))))))) (Ew cal k m1) (sK cal k) (av P fy)))
noncomputable def K115_prrlrllr (cal:Cal) (k:Nat) (m1:Nat):KR:=(cutK (Lv.b (Lv.a (Lv.a (Lv.b (Lv.a (Lv.b (Lv.b (A 115)))))))).c (ay P cal (aw P cal m1) none 115 (cR (cR (cL (cL (cR (cL (cR (cR tW)))))))) (Lv.b (Lv.b (Lv.a (Lv.a (Lv.b (Lv.a (Lv.b (Lv.b (A 115))))))))) (Ew cal k m1) (sK cal k) (av P fy)))
noncomputable def K115_prrlrllrr (cal:Cal) (k:Nat) (m1:Nat):KR:=(cutK (Lv.b (Lv.b (Lv.a (Lv.a (Lv.b (Lv.a (Lv.b (Lv.b (A 115))))))))).c (ay P cal (aw P cal m1) none 115 (cR (cR (cR (cL (cL (cR (cL (cR (cR tW))))))))) (Lv.b (Lv.b (Lv.b (Lv.a (Lv.a (Lv.b (Lv.a (Lv.b (Lv.b (A 115)))))))))) (Ew cal k m1) (sK cal k) (av P fy)))
noncomputable def K115_pxrrlrllrrl (cal:Cal) (k:Nat) (m1:Nat):XR:=(upX 1 (K115_prrlrllrr cal k m1) (sK cal k))
noncomputable def K115_prrlrllrrll (cal:Cal) (k:Nat) (m1:Nat):KR:=(cutK (Lv.a (Lv.a (Lv.b (Lv.b (Lv.a (Lv.a (Lv.b (Lv.a (Lv.b (Lv.b (A 115))))))))))).c (ay P cal (aw P cal m1) none 115 (cR (cL (cL (cR (cR (cL (cL (cR (cL (cR (cR tW))))))))))) (Lv.b (Lv.a (Lv.a (Lv.b (Lv.b (Lv.a (Lv.a (Lv.b (Lv.a (Lv.b (Lv.b (A 115)))))))))))) (K115_prrlrllrr cal k m1) (K115_pxrrlrllrrl cal k m1) (av P fy)))
noncomputable def K115_prrr (cal:Cal) (k:Nat):KR:=(cutK (Lv.b (Lv.b (Lv.b (A 115)))).c (ay P cal (aw P cal k) none 115 (cR (cR (cR (cR tW)))) (Lv.b (Lv.b (Lv.b (Lv.b (A 115))))) (av P fy) X0 (av P fy)))
noncomputable def E115_1 (cal:Cal) (k m1:Nat):KR:=ay P cal (aw P cal m1) none 115 (cL (cL (cR (cL (cR (cR tW)))))) (Lv.a (Lv.a (Lv.b (Lv.a (Lv.b (Lv.b (A 115))))))) (Ew cal k m1) (sK cal k) (av P fy)
noncomputable def R115_1 (cal:Cal) (k m1:Nat):V3:=fun u4 u5 u10 H n=>aw P cal m1 (Lv.a (Lv.b (Lv.a (Lv.b (Lv.b (A 115)))))) none 115 (cL (cR (cL (cR (cR tW))))) (Rx cal k) (sK cal k) (av P fy) (Tr.set (Tr.set (Tr.set Tr.nil 10 (some u10)) 5 (some u5)) 4 (some u4)) H n []
noncomputable def B115_1 (cal:Cal) (k m1:Nat) (b1:V3) (u4 u5 u10:Value) (H:Hp) (n:Nat):Res:=
binK P .lss 3 (.tmp 10) (.const (.int .i64 8)) u10 (.int .i64 8) fun v_h=>
ifK v_h (
aq (aW u5) fun a_l=>aq (az P H 113 a_l) fun v_m=>
aq (aW u5) fun a_o=>aq (az P H 113 a_o) fun v_p=>
aq (ax P 113 u5 2) fun v_r=>
effK P [(.l 113 a_o),(.l 113 a_l)] H n (fun H_s n_t k_u=>
aY P cal 121 [] H_s n_t fun v_y H_z n_10=>
k_u v_y H_z n_10) fun v_v H_w n_x=>
effK P [(.l 113 a_o)] H_w n_x (fun H_11 n_12 k_13=>
aY P cal 120 [v_m,u10,v_v] H_11 n_12 fun v_17 H_18 n_19=>
k_13 v_17 H_18 n_19) fun v_14 H_15 n_16=>
effK P [(.l 113 a_o)] H_15 n_16 (fun H_1a n_1b k_1c=>
aY P cal 122 [] H_1a n_1b fun v_1g H_1h n_1i=>
k_1c v_1g H_1h n_1i) fun v_1d H_1e n_1f=>
aY P cal 120 [v_p,u10,v_1d] H_1e n_1f fun v_1j H_1k n_1l=>
aq (jW P 53 [(0,v_14),(1,v_1j)]) fun v_1m=>
aq (aQ P 111 v_r u10) fun v_1n=>
aq (bJ P 53 v_1n v_1m H_1k) fun H_1p=>
binK P .add 3 (.tmp 10) (.const (.int .i64 1)) u10 (.int .i64 1) fun v_1q=>
b1 u4 u5 v_1q H_1p n_1l) (
aq (aW u5) fun a_1t=>aq (az P H 113 a_1t) fun v_1s=>
aq (bJ P 113 u4 v_1s H) fun H_1v=>
aq (resV P (Tr.set Tr.nil 4 (some u4)) H_1v fy) fun v_1w=>some (oneV v_1w,H_1v,n))
noncomputable def Ux (cal:Cal) (k m1:Nat) (b1:V3) (u4 u5 u10:Value) (H:Hp) (n:Nat):Res:=B115_1 cal k m1 b1 u4 u5 u10 H n
noncomputable def S115_1 (cal:Cal) (k:Nat):Nat→V3:=fun m=>Nat.rec (motive:=fun _=>V3) (Ux cal k 0 (fun _ _ _ _ _=>none)) (fun m ih=>Ux cal k (m+1) ih) m
theorem h115_1 (cal:Cal) (k m1:Nat) (u4 u5 u10:Value) (H:Hp) (n:Nat):labK (E115_1 cal k m1) (Tr.set (Tr.set (Tr.set Tr.nil 10 (some u10)) 5 (some u5)) 4 (some u4)) H n []=Ux cal k m1 (R115_1 cal k m1) u4 u5 u10 H n:=by
  refine Eq.trans (b:=B115_1 cal k m1 (R115_1 cal k m1) u4 u5 u10 H n) (by kernel_rfl) ?_
  rw[Ux]
theorem q115_1 (cal:Cal) (k:Nat):∀(m:Nat) (u4 u5 u10:Value) (H:Hp) (n:Nat),labK (E115_1 cal k m) (Tr.set (Tr.set (Tr.set Tr.nil 10 (some u10)) 5 (some u5)) 4 (some u4)) H n []=S115_1 cal k m u4 u5 u10 H n
  | 0,u4,u5,u10,H,n=>by
    rw[h115_1]
    have e:R115_1 cal k 0=fun _ _ _ _ _=>none:=by funext u4 u5 u10 H n; kernel_rfl
    rw[e]; rfl
  | m+1,u4,u5,u10,H,n=>by
    rw[h115_1]
    have e:R115_1 cal k (m+1)=S115_1 cal k m:=by
      funext u4 u5 u10 H n
      have e:R115_1 cal k (m+1) u4 u5 u10 H n=labK (E115_1 cal k m) (Tr.set (Tr.set (Tr.set Tr.nil 10 (some u10)) 5 (some u5)) 4 (some u4)) H n []:=by kernel_rfl
      rw[e]; exact q115_1 ..
    rw[e]; rfl
noncomputable def B115_0 (cal:Cal) (k:Nat) (j1:V3) (v0 v1:Value) (H:Hp) (n:Nat):Res:=
boxK 111 v1 H n fun v_1 H_2 n_3=>
ez P 113 H_2 n_3 fun v_4 H_5 n_6=>
aq (aW v_1) fun a_9=>aq (az P H_5 111 a_9) fun v_8=>
aq (jW P 113 [(0,v0),(1,v_8)]) fun v_a=>
ez P 113 H_5 n_6 fun v_b H_c n_d=>
aq (bJ P 113 v_b v_a H_c) fun H_f=>
j1 v_4 v_b (.int .i64 0) H_f n_d
noncomputable def Uy (cal:Cal) (k:Nat) (v0 v1:Value) (H:Hp) (n:Nat):Res:=B115_0 cal k (S115_1 cal k k) v0 v1 H n
theorem h115_0 (cal:Cal) (k:Nat) (v0 v1:Value) (H:Hp) (n:Nat):aK P cal A (k+1) 115 [v0,v1] H n=Uy cal k v0 v1 H n:=by
  have h:aK P cal A (k+1) 115 [v0,v1] H n=B115_0 cal k (fun u4 u5 u10 H n=>labK (E115_1 cal k k) (Tr.set (Tr.set (Tr.set Tr.nil 10 (some u10)) 5 (some u5)) 4 (some u4)) H n []) v0 v1 H n:=by
    rw[bW (fn:=Go.Proofs.Try.f115) (c:=tW) (rs:=fy) (by kernel_rfl) (by kernel_rfl) (by kernel_rfl) (by kernel_rfl)]
    kernel_rfl
  rw[h,Uy]
  have e1:(fun u4 u5 u10 H n=>labK (E115_1 cal k k) (Tr.set (Tr.set (Tr.set Tr.nil 10 (some u10)) 5 (some u5)) 4 (some u4)) H n [])=(S115_1 cal k k):=by funext u4 u5 u10 H n; exact q115_1 ..
  rw[e1]
noncomputable def vy:Code:=cV 119
noncomputable def ix:List ResultVar:=dW 119
noncomputable def K119_p (cal:Cal) (k:Nat):KR:=(cutK (A 119).c (ay P cal (aw P cal k) none 119 (cR vy) (Lv.b (A 119)) (av P ix) X0 (av P ix)))
noncomputable def K119_pl (cal:Cal) (k:Nat):KR:=(cutK (Lv.a (A 119)).c (ay P cal (aw P cal k) none 119 (cR (cL vy)) (Lv.b (Lv.a (A 119))) (K119_p cal k) X0 (av P ix)))
noncomputable def K119_pr (cal:Cal) (k:Nat):KR:=(cutK (Lv.b (A 119)).c (ay P cal (aw P cal k) none 119 (cR (cR vy)) (Lv.b (Lv.b (A 119))) (av P ix) X0 (av P ix)))
noncomputable def zX (cal:Cal) (k:Nat):XR:=(upX 0 (av P ix) X0)
noncomputable def Nv (cal:Cal) (k:Nat) (m1:Nat):KR:=(fun T H n D=>aw P cal m1 (Lv.a (Lv.b (Lv.b (A 119)))) none 119 (cL (cR (cR vy))) (av P ix) (zX cal k) (av P ix) (cutT (Lv.a (Lv.b (Lv.b (A 119)))).c T) H n D)
noncomputable def K119_prrll (cal:Cal) (k:Nat) (m1:Nat):KR:=(cutK (Lv.a (Lv.a (Lv.b (Lv.b (A 119))))).c (ay P cal (aw P cal m1) none 119 (cR (cL (cL (cR (cR vy))))) (Lv.b (Lv.a (Lv.a (Lv.b (Lv.b (A 119)))))) (Nv cal k m1) (zX cal k) (av P ix)))
noncomputable def K119_prrllr (cal:Cal) (k:Nat) (m1:Nat):KR:=(cutK (Lv.b (Lv.a (Lv.a (Lv.b (Lv.b (A 119)))))).c (ay P cal (aw P cal m1) none 119 (cR (cR (cL (cL (cR (cR vy)))))) (Lv.b (Lv.b (Lv.a (Lv.a (Lv.b (Lv.b (A 119))))))) (Nv cal k m1) (zX cal k) (av P ix)))
noncomputable def Jz (cal:Cal) (k:Nat) (m1:Nat):KR:=(cutK (Lv.b (Lv.b (Lv.a (Lv.a (Lv.b (Lv.b (A 119))))))).c (ay P cal (aw P cal m1) none 119 (cR (cR (cR (cL (cL (cR (cR vy))))))) (Lv.b (Lv.b (Lv.b (Lv.a (Lv.a (Lv.b (Lv.b (A 119)))))))) (Nv cal k m1) (zX cal k) (av P ix)))
noncomputable def K119_pxrrllrrl (cal:Cal) (k:Nat) (m1:Nat):XR:=(upX 1 (Jz cal k m1) (zX cal k))
noncomputable def K119_prrllrrll (cal:Cal) (k:Nat) (m1:Nat):KR:=(cutK (Lv.a (Lv.a (Lv.b (Lv.b (Lv.a (Lv.a (Lv.b (Lv.b (A 119))))))))).c (ay P cal (aw P cal m1) none 119 (cR (cL (cL (cR (cR (cL (cL (cR (cR vy))))))))) (Lv.b (Lv.a (Lv.a (Lv.b (Lv.b (Lv.a (Lv.a (Lv.b (Lv.b (A 119)))))))))) (Jz cal k m1) (K119_pxrrllrrl cal k m1) (av P ix)))
noncomputable def K119_prrllrrllr (cal:Cal) (k:Nat) (m1:Nat):KR:=(cutK (Lv.b (Lv.a (Lv.a (Lv.b (Lv.b (Lv.a (Lv.a (Lv.b (Lv.b (A 119)))))))))).c (ay P cal (aw P cal m1) none 119 (cR (cR (cL (cL (cR (cR (cL (cL (cR (cR vy)))))))))) (Lv.b (Lv.b (Lv.a (Lv.a (Lv.b (Lv.b (Lv.a (Lv.a (Lv.b (Lv.b (A 119))))))))))) (Jz cal k m1) (K119_pxrrllrrl cal k m1) (av P ix)))
noncomputable def E119_1 (cal:Cal) (k m1:Nat):KR:=ay P cal (aw P cal m1) none 119 (cL (cL (cR (cR vy)))) (Lv.a (Lv.a (Lv.b (Lv.b (A 119))))) (Nv cal k m1) (zX cal k) (av P ix)
noncomputable def R119_1 (cal:Cal) (k m1:Nat):V5:=fun u0 u1 u2 u14 u15 H n=>aw P cal m1 (Lv.a (Lv.b (Lv.b (A 119)))) none 119 (cL (cR (cR vy))) (av P ix) (zX cal k) (av P ix) (Tr.set (Tr.set (Tr.set (Tr.set (Tr.set Tr.nil 15 (some u15)) 14 (some u14)) 2 (some u2)) 1 (some u1)) 0 (some u0)) H n []
noncomputable def B119_1 (cal:Cal) (k m1:Nat) (b1:V5) (u0 u1 u2 u14 u15:Value) (H:Hp) (n:Nat):Res:=
binK P .lss 3 (.tmp 15) (.tmp 14) u15 u14 fun v_h=>
ifK v_h (
aq (aW u2) fun a_k=>aq (az P H 105 a_k) fun v_l=>
aq (aW u1) fun a_m=>aq (az P H 3 a_m) fun v_n=>
aq (nilV v_l) fun v_p=>
aq (ax P 117 v_p 1) fun v_q=>
aq (aQ P 109 v_q v_n) fun v_r=>
aq (aQ P 108 v_r u15) fun v_s=>
aq (aW v_s) fun a_t=>aq (az P H 4 a_t) fun v_u=>
cz v_u true (fun k_w=>
k_w u0 .p H n) .p H n fun v_x x_y H_z n_10=>
cz v_u true (fun k_12=>
k_12 u15 .p H_z n_10) .p H_z n_10 fun v_13 x_14 H_15 n_16=>
cz v_u true (fun k_18=>
lK P cal v_x [v_13] H_15 n_16 fun v_1d H_1e n_1f=>
k_18 v_1d .e H_1e n_1f) .e H_15 n_16 fun v_19 x_1a H_1b n_1c=>
cz v_u true (fun k_1g=>
aq (eW P v_19 (Op.unary UnOp.not v_19)) fun v_1l=>
k_1g v_1l .p H_1b n_1c) .p H_1b n_1c fun v_1h x_1i H_1j n_1k=>
aq (eQ v_u v_1h (.bool false)) fun v_1m=>
ifK v_1m (
some ((Value.tuple ⟨[]⟩),H_1j,n_1k)) (
binK P .add 3 (.tmp 15) (.const (.int .i64 1)) u15 (.int .i64 1) fun v_1n=>
b1 u0 u1 u2 u14 v_1n H_1j n_1k)) (
some ((Value.tuple ⟨[]⟩),H,n))
noncomputable def Uz (cal:Cal) (k m1:Nat) (b1:V5) (u0 u1 u2 u14 u15:Value) (H:Hp) (n:Nat):Res:=B119_1 cal k m1 b1 u0 u1 u2 u14 u15 H n
noncomputable def Uk (cal:Cal) (k:Nat):Nat→V5:=fun m=>Nat.rec (motive:=fun _=>V5) (Uz cal k 0 (fun _ _ _ _ _ _ _=>none)) (fun m ih=>Uz cal k (m+1) ih) m
theorem h119_1 (cal:Cal) (k m1:Nat) (u0 u1 u2 u14 u15:Value) (H:Hp) (n:Nat):labK (E119_1 cal k m1) (Tr.set (Tr.set (Tr.set (Tr.set (Tr.set Tr.nil 15 (some u15)) 14 (some u14)) 2 (some u2)) 1 (some u1)) 0 (some u0)) H n []=Uz cal k m1 (R119_1 cal k m1) u0 u1 u2 u14 u15 H n:=by
  refine Eq.trans (b:=B119_1 cal k m1 (R119_1 cal k m1) u0 u1 u2 u14 u15 H n) (by kernel_rfl) ?_
  rw[Uz]
theorem q119_1 (cal:Cal) (k:Nat):∀(m:Nat) (u0 u1 u2 u14 u15:Value) (H:Hp) (n:Nat),labK (E119_1 cal k m) (Tr.set (Tr.set (Tr.set (Tr.set (Tr.set Tr.nil 15 (some u15)) 14 (some u14)) 2 (some u2)) 1 (some u1)) 0 (some u0)) H n []=Uk cal k m u0 u1 u2 u14 u15 H n
  | 0,u0,u1,u2,u14,u15,H,n=>by
    rw[h119_1]
    have e:R119_1 cal k 0=fun _ _ _ _ _ _ _=>none:=by funext u0 u1 u2 u14 u15 H n; kernel_rfl
    rw[e]; rfl
  | m+1,u0,u1,u2,u14,u15,H,n=>by
    rw[h119_1]
    have e:R119_1 cal k (m+1)=Uk cal k m:=by
      funext u0 u1 u2 u14 u15 H n
      have e:R119_1 cal k (m+1) u0 u1 u2 u14 u15 H n=labK (E119_1 cal k m) (Tr.set (Tr.set (Tr.set (Tr.set (Tr.set Tr.nil 15 (some u15)) 14 (some u14)) 2 (some u2)) 1 (some u1)) 0 (some u0)) H n []:=by kernel_rfl
      rw[e]; exact q119_1 ..
    rw[e]; rfl
noncomputable def B119_0 (cal:Cal) (k:Nat) (j1:V5) (v0 v1 v2:Value) (H:Hp) (n:Nat):Res:=
aq (aW v1) fun a_3=>aq (az P H 3 a_3) fun v_2=>
lK P cal v0 [v_2] H n fun v_4 H_5 n_6=>
aq (eW P v_4 (Op.unary UnOp.not v_4)) fun v_7=>
ifK v_7 (
some ((Value.tuple ⟨[]⟩),H_5,n_6)) (
aq (aW v2) fun a_9=>aq (az P H_5 105 a_9) fun v_8=>
aq (nilV v_8) fun v_a=>
aq (ax P 117 v_a 0) fun v_b=>
aq (ax P 35 v_b 0) fun v_c=>
aq (aW v_c) fun a_e=>aq (az P H_5 31 a_e) fun v_d=>
aq (lenV P 31 v_d) fun v_f=>
j1 v0 v1 v2 v_f (.int .i64 0) H_5 n_6)
noncomputable def PQ (cal:Cal) (k:Nat) (v0 v1 v2:Value) (H:Hp) (n:Nat):Res:=B119_0 cal k (Uk cal k k) v0 v1 v2 H n
theorem h119_0 (cal:Cal) (k:Nat) (v0 v1 v2:Value) (H:Hp) (n:Nat):aK P cal A (k+1) 119 [v0,v1,v2] H n=PQ cal k v0 v1 v2 H n:=by
  have h:aK P cal A (k+1) 119 [v0,v1,v2] H n=B119_0 cal k (fun u0 u1 u2 u14 u15 H n=>labK (E119_1 cal k k) (Tr.set (Tr.set (Tr.set (Tr.set (Tr.set Tr.nil 15 (some u15)) 14 (some u14)) 2 (some u2)) 1 (some u1)) 0 (some u0)) H n []) v0 v1 v2 H n:=by
    rw[bW (fn:=Go.Proofs.Try.f119) (c:=vy) (rs:=ix) (by kernel_rfl) (by kernel_rfl) (by kernel_rfl) (by kernel_rfl)]
    kernel_rfl
  rw[h,PQ]
  have e1:(fun u0 u1 u2 u14 u15 H n=>labK (E119_1 cal k k) (Tr.set (Tr.set (Tr.set (Tr.set (Tr.set Tr.nil 15 (some u15)) 14 (some u14)) 2 (some u2)) 1 (some u1)) 0 (some u0)) H n [])=(Uk cal k k):=by funext u0 u1 u2 u14 u15 H n; exact q119_1 ..
  rw[e1]
noncomputable def XZ:Code:=cV 120
noncomputable def wk:List ResultVar:=dW 120
noncomputable def K120_p (cal:Cal) (k:Nat):KR:=(cutK (A 120).c (ay P cal (aw P cal k) none 120 (cR XZ) (Lv.b (A 120)) (av P wk) X0 (av P wk)))
noncomputable def K120_pr (cal:Cal) (k:Nat):KR:=(cutK (Lv.b (A 120)).c (ay P cal (aw P cal k) none 120 (cR (cR XZ)) (Lv.b (Lv.b (A 120))) (av P wk) X0 (av P wk)))
noncomputable def K120_prr (cal:Cal) (k:Nat):KR:=(cutK (Lv.b (Lv.b (A 120))).c (ay P cal (aw P cal k) none 120 (cR (cR (cR XZ))) (Lv.b (Lv.b (Lv.b (A 120)))) (av P wk) X0 (av P wk)))
noncomputable def B120_0 (cal:Cal) (k:Nat) (v0 v1 v2:Value) (H:Hp) (n:Nat):Res:=
boxK 113 v0 H n fun v_1 H_2 n_3=>
boxK 179 v2 H_2 n_3 fun v_4 H_5 n_6=>
aq (aW v_1) fun a_8=>aq (az P H_5 113 a_8) fun v_9=>
aq (ax P 179 v_4 1) fun v_a=>
aq (aW v_a) fun a_b=>aq (az P H_5 129 a_b) fun v_c=>
aq (ax P 179 v_4 1) fun v_d=>
aq (aW v_d) fun a_e=>aq (az P H_5 129 a_e) fun v_f=>
aq (ax P 113 v_1 1) fun v_h=>
aq (aQ P 111 v_h v1) fun v_i=>
aq (aW v_i) fun a_j=>aq (az P H_5 53 a_j) fun v_k=>
effK P [(.l 53 a_j),(.l 129 a_e)] H_5 n_6 (fun H_l n_m k_n=>
aY P cal 98 [v_9,v_c] H_l n_m fun v_r H_s n_t=>
k_n v_r H_s n_t) fun v_o H_p n_q=>
lK P cal v_f [v_k] H_p n_q fun v_u H_v n_w=>
binK P .sub 3 (.tmp 11) (.tmp 18) v_o v_u fun v_x=>
aq (ax P 179 v_4 2) fun v_z=>
aq (aW v_z) fun a_10=>aq (az P H_v 160 a_10) fun v_11=>
aq (ax P 179 v_4 0) fun v_12=>
aq (aW v_12) fun a_13=>aq (az P H_v 129 a_13) fun v_14=>
aq (ax P 113 v_1 1) fun v_16=>
aq (aQ P 111 v_16 v1) fun v_17=>
aq (aW v_17) fun a_18=>aq (az P H_v 53 a_18) fun v_19=>
aq (ax P 113 v_1 0) fun v_1a=>
aq (aW v_1a) fun a_1b=>aq (az P H_v 3 a_1b) fun v_1c=>
binK P .sub 3 (.tmp 30) (.tmp 31) v_1c v_x fun v_1e=>
aq (Cx P 44 1 [(0,v_1e)]) fun q_1h=>newK q_1h.1 q_1h.2 H_v n_w fun H_1f n_1g=>
effK P [(.a n_w q_1h.1 q_1h.2),(.l 3 a_1b),(.l 160 a_10)] H_1f n_1g (fun H_1i n_1j k_1k=>
lK P cal v_14 [v_19] H_1i n_1j fun v_1o H_1p n_1q=>
k_1k v_1o H_1p n_1q) fun v_1l H_1m n_1n=>
lK P cal v_11 [v_1l,(.slice (some ⟨n_w,0,none⟩) 1 1)] H_1m n_1n fun v_1r H_1s n_1t=>
some (v_1r,H_1s,n_1t)
noncomputable def UJ (cal:Cal) (k:Nat) (v0 v1 v2:Value) (H:Hp) (n:Nat):Res:=B120_0 cal k v0 v1 v2 H n
theorem h120_0 (cal:Cal) (k:Nat) (v0 v1 v2:Value) (H:Hp) (n:Nat):aK P cal A (k+1) 120 [v0,v1,v2] H n=UJ cal k v0 v1 v2 H n:=by
  have h:aK P cal A (k+1) 120 [v0,v1,v2] H n=B120_0 cal k v0 v1 v2 H n:=by
    rw[bW (fn:=Go.Proofs.Try.f120) (c:=XZ) (rs:=wk) (by kernel_rfl) (by kernel_rfl) (by kernel_rfl) (by kernel_rfl)]
    kernel_rfl
  rw[h,UJ]
noncomputable def code121:Code:=cV 121
noncomputable def wJ:List ResultVar:=dW 121
noncomputable def K121_p (cal:Cal) (k:Nat):KR:=(cutK (A 121).c (ay P cal (aw P cal k) none 121 (cR code121) (Lv.b (A 121)) (av P wJ) X0 (av P wJ)))
noncomputable def K121_pr (cal:Cal) (k:Nat):KR:=(cutK (Lv.b (A 121)).c (ay P cal (aw P cal k) none 121 (cR (cR code121)) (Lv.b (Lv.b (A 121))) (av P wJ) X0 (av P wJ)))
noncomputable def B121_0 (cal:Cal) (k:Nat) (H:Hp) (n:Nat):Res:=
ez P 179 H n fun v_1 H_2 n_3=>
aq (jW P 179 [(0,(Value.func (.func 72) #[] #[])),(1,(Value.func (.func 73) #[] #[])),(2,(Value.func (.func 106) #[] #[]))]) fun v_4=>
aq (bJ P 179 v_1 v_4 H_2) fun H_6=>
aq (resV P (Tr.set Tr.nil 0 (some v_1)) H_6 wJ) fun v_7=>some (oneV v_7,H_6,n_3)
noncomputable def UQ (cal:Cal) (k:Nat) (H:Hp) (n:Nat):Res:=B121_0 cal k  H n
theorem h121_0 (cal:Cal) (k:Nat) (H:Hp) (n:Nat):aK P cal A (k+1) 121 [] H n=UQ cal k  H n:=by
  have h:aK P cal A (k+1) 121 [] H n=B121_0 cal k  H n:=by
    rw[bW (fn:=Go.Proofs.Try.f121) (c:=code121) (rs:=wJ) (by kernel_rfl) (by kernel_rfl) (by kernel_rfl) (by kernel_rfl)]
    kernel_rfl
  rw[h,UQ]
noncomputable def code122:Code:=cV 122
noncomputable def wQ:List ResultVar:=dW 122
noncomputable def K122_p (cal:Cal) (k:Nat):KR:=(cutK (A 122).c (ay P cal (aw P cal k) none 122 (cR code122) (Lv.b (A 122)) (av P wQ) X0 (av P wQ)))
noncomputable def K122_pr (cal:Cal) (k:Nat):KR:=(cutK (Lv.b (A 122)).c (ay P cal (aw P cal k) none 122 (cR (cR code122)) (Lv.b (Lv.b (A 122))) (av P wQ) X0 (av P wQ)))
noncomputable def B122_0 (cal:Cal) (k:Nat) (H:Hp) (n:Nat):Res:=
ez P 179 H n fun v_1 H_2 n_3=>
aq (jW P 179 [(0,(Value.func (.func 73) #[] #[])),(1,(Value.func (.func 72) #[] #[])),(2,(Value.func (.func 105) #[] #[]))]) fun v_4=>
aq (bJ P 179 v_1 v_4 H_2) fun H_6=>
aq (resV P (Tr.set Tr.nil 0 (some v_1)) H_6 wQ) fun v_7=>some (oneV v_7,H_6,n_3)
noncomputable def UV (cal:Cal) (k:Nat) (H:Hp) (n:Nat):Res:=B122_0 cal k  H n
theorem h122_0 (cal:Cal) (k:Nat) (H:Hp) (n:Nat):aK P cal A (k+1) 122 [] H n=UV cal k  H n:=by
  have h:aK P cal A (k+1) 122 [] H n=B122_0 cal k  H n:=by
    rw[bW (fn:=Go.Proofs.Try.f122) (c:=code122) (rs:=wQ) (by kernel_rfl) (by kernel_rfl) (by kernel_rfl) (by kernel_rfl)]
    kernel_rfl
  rw[h,UV]
end Go.Proofs.Ytekajfobmnedjaa.G
