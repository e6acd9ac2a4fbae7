/- The texts of functions, each with the proof that the evaluator says the same. -/
import Derived.Test.YtekajfobmnedjaaH1
open Go Go.Ev
set_option maxRecDepth 1000000
set_option linter.unusedVariables false
noncomputable section
namespace Go.Proofs.Ytekajfobmnedjaa.G
noncomputable def code69:Code:=cw 69
noncomputable def Bj:List ResultVar:=dj 69
noncomputable def K69_p (cal:Cal) (k:Nat):KR:=(cutK (A 69).c (az P cal (ax P cal k) none 69 (cR code69) (Lv.b (A 69)) (aw P Bj) X0 (aw P Bj)))
noncomputable def K69_pr (cal:Cal) (k:Nat):KR:=(cutK (Lv.b (A 69)).c (az P cal (ax P cal k) none 69 (cR (cR code69)) (Lv.b (Lv.b (A 69))) (aw P Bj) X0 (aw P Bj)))
noncomputable def B69_0 (cal:Cal) (k:Nat) (v0 v1 v2:Value) (H:Hp) (n:Nat):Res:=
boxK 111 v1 H n fun v_1 H_2 n_3=>
aq (aW P 111 v_1 v2) fun v_6=>
aq (ay P 53 v_6 1) fun v_7=>
aq (aX v_7) fun a_8=>aq (ak P H_2 3 a_8) fun v_9=>
aq (nilV v0) fun v_b=>
aq (ay P 117 v_b 0) fun v_c=>
aq (ay P 35 v_c 0) fun v_d=>
aq (aX v_d) fun a_e=>aq (ak P H_2 31 a_e) fun v_f=>
aq (aW P 31 v_f v2) fun v_h=>
aq (ay P 90 v_h 1) fun v_i=>
aq (aX v_i) fun a_j=>aq (ak P H_2 3 a_j) fun v_k=>
binK P .gtr 3 (.tmp 10) (.tmp 19) v_9 v_k fun v_l=>
some (v_l,H_2,n_3)
noncomputable def C69_0 (cal:Cal) (k:Nat) (v0 v1 v2:Value) (H:Hp) (n:Nat):Res:=B69_0 cal k v0 v1 v2 H n
theorem h69_0 (cal:Cal) (k:Nat) (v0 v1 v2:Value) (H:Hp) (n:Nat):aK P cal A (k+1) 69 [v0,v1,v2] H n=C69_0 cal k v0 v1 v2 H n:=by
 have h:aK P cal A (k+1) 69 [v0,v1,v2] H n=B69_0 cal k v0 v1 v2 H n:=by
  rw[bk (fn:=Go.Proofs.Try.f69) (c:=code69) (rs:=Bj) (by kernel_rfl) (by kernel_rfl) (by kernel_rfl) (by kernel_rfl)]
  kernel_rfl
 rw[h,C69_0]
noncomputable def code71:Code:=cw 71
noncomputable def Bq:List ResultVar:=dj 71
noncomputable def K71_p (cal:Cal) (k:Nat):KR:=(cutK (A 71).c (az P cal (ax P cal k) none 71 (cR code71) (Lv.b (A 71)) (aw P Bq) X0 (aw P Bq)))
noncomputable def K71_pr (cal:Cal) (k:Nat):KR:=(cutK (Lv.b (A 71)).c (az P cal (ax P cal k) none 71 (cR (cR code71)) (Lv.b (Lv.b (A 71))) (aw P Bq) X0 (aw P Bq)))
noncomputable def B71_0 (cal:Cal) (k:Nat) (v0 v1:Value) (H:Hp) (n:Nat):Res:=
boxK 35 v0 H n fun v_1 H_2 n_3=>
binK P .geq 3 (.tmp 5) (.const (.int .i64 0)) v1 (.int .i64 0) fun v_6=>
aV v_6 true (fun k_8=>
k_8 v1 H_2 n_3) H_2 n_3 fun v_9 H_a n_b=>
aV v_6 true (fun k_d=>
aq (ay P 35 v_1 0) fun v_h=>
k_d v_h H_a n_b) H_a n_b fun v_e H_f n_g=>
aV v_6 true (fun k_i=>
aq (aX v_e) fun a_n=>aq (ak P H_f 31 a_n) fun v_m=>
k_i v_m H_f n_g) H_f n_g fun v_j H_k n_l=>
aV v_6 true (fun k_o=>
aq (lenV P 31 v_j) fun v_s=>
k_o v_s H_k n_l) H_k n_l fun v_p H_q n_r=>
aV v_6 true (fun k_t=>
binK P .lss 3 (.tmp 8) (.tmp 11) v_9 v_p fun v_x=>
k_t v_x H_q n_r) H_q n_r fun v_u H_v n_w=>
aq (dq v_6 v_u (.bool false)) fun v_y=>
some (v_y,H_v,n_w)
noncomputable def Xj (cal:Cal) (k:Nat) (v0 v1:Value) (H:Hp) (n:Nat):Res:=B71_0 cal k v0 v1 H n
theorem h71_0 (cal:Cal) (k:Nat) (v0 v1:Value) (H:Hp) (n:Nat):aK P cal A (k+1) 71 [v0,v1] H n=Xj cal k v0 v1 H n:=by
 have h:aK P cal A (k+1) 71 [v0,v1] H n=B71_0 cal k v0 v1 H n:=by
  rw[bk (fn:=Go.Proofs.Try.f71) (c:=code71) (rs:=Bq) (by kernel_rfl) (by kernel_rfl) (by kernel_rfl) (by kernel_rfl)]
  kernel_rfl
 rw[h,Xj]
noncomputable def code72:Code:=cw 72
noncomputable def Bv:List ResultVar:=dj 72
noncomputable def K72_p (cal:Cal) (k:Nat):KR:=(cutK (A 72).c (az P cal (ax P cal k) none 72 (cR code72) (Lv.b (A 72)) (aw P Bv) X0 (aw P Bv)))
noncomputable def K72_pr (cal:Cal) (k:Nat):KR:=(cutK (Lv.b (A 72)).c (az P cal (ax P cal k) none 72 (cR (cR code72)) (Lv.b (Lv.b (A 72))) (aw P Bv) X0 (aw P Bv)))
noncomputable def B72_0 (cal:Cal) (k:Nat) (v0:Value) (H:Hp) (n:Nat):Res:=
boxK 53 v0 H n fun v_1 H_2 n_3=>
aq (ay P 53 v_1 0) fun v_5=>
aq (aX v_5) fun a_7=>aq (ak P H_2 3 a_7) fun v_6=>
some (v_6,H_2,n_3)
noncomputable def Xq (cal:Cal) (k:Nat) (v0:Value) (H:Hp) (n:Nat):Res:=B72_0 cal k v0 H n
theorem h72_0 (cal:Cal) (k:Nat) (v0:Value) (H:Hp) (n:Nat):aK P cal A (k+1) 72 [v0] H n=Xq cal k v0 H n:=by
 have h:aK P cal A (k+1) 72 [v0] H n=B72_0 cal k v0 H n:=by
  rw[bk (fn:=Go.Proofs.Try.f72) (c:=code72) (rs:=Bv) (by kernel_rfl) (by kernel_rfl) (by kernel_rfl) (by kernel_rfl)]
  kernel_rfl
 rw[h,Xq]
noncomputable def code73:Code:=cw 73
noncomputable def Bw:List ResultVar:=dj 73
noncomputable def K73_p (cal:Cal) (k:Nat):KR:=(cutK (A 73).c (az P cal (ax P cal k) none 73 (cR code73) (Lv.b (A 73)) (aw P Bw) X0 (aw P Bw)))
noncomputable def K73_pr (cal:Cal) (k:Nat):KR:=(cutK (Lv.b (A 73)).c (az P cal (ax P cal k) none 73 (cR (cR code73)) (Lv.b (Lv.b (A 73))) (aw P Bw) X0 (aw P Bw)))
noncomputable def B73_0 (cal:Cal) (k:Nat) (v0:Value) (H:Hp) (n:Nat):Res:=
boxK 53 v0 H n fun v_1 H_2 n_3=>
aq (ay P 53 v_1 1) fun v_5=>
aq (aX v_5) fun a_7=>aq (ak P H_2 3 a_7) fun v_6=>
some (v_6,H_2,n_3)
noncomputable def Xv (cal:Cal) (k:Nat) (v0:Value) (H:Hp) (n:Nat):Res:=B73_0 cal k v0 H n
theorem h73_0 (cal:Cal) (k:Nat) (v0:Value) (H:Hp) (n:Nat):aK P cal A (k+1) 73 [v0] H n=Xv cal k v0 H n:=by
 have h:aK P cal A (k+1) 73 [v0] H n=B73_0 cal k v0 H n:=by
  rw[bk (fn:=Go.Proofs.Try.f73) (c:=code73) (rs:=Bw) (by kernel_rfl) (by kernel_rfl) (by kernel_rfl) (by kernel_rfl)]
  kernel_rfl
 rw[h,Xv]
noncomputable def code74:Code:=cw 74
noncomputable def Bx:List ResultVar:=dj 74
noncomputable def K74_p (cal:Cal) (k:Nat):KR:=(cutK (A 74).c (az P cal (ax P cal k) none 74 (cR code74) (Lv.b (A 74)) (aw P Bx) X0 (aw P Bx)))
noncomputable def K74_pr (cal:Cal) (k:Nat):KR:=(cutK (Lv.b (A 74)).c (az P cal (ax P cal k) none 74 (cR (cR code74)) (Lv.b (Lv.b (A 74))) (aw P Bx) X0 (aw P Bx)))
noncomputable def B74_0 (cal:Cal) (k:Nat) (v0 v1:Value) (H:Hp) (n:Nat):Res:=
boxK 105 v0 H n fun v_1 H_2 n_3=>
boxK 121 v1 H_2 n_3 fun v_4 H_5 n_6=>
some ((Value.func (Fn.func 104) ⟨[]⟩ ⟨[v_4,v_1]⟩),H_5,n_6)
noncomputable def C74_0 (cal:Cal) (k:Nat) (v0 v1:Value) (H:Hp) (n:Nat):Res:=B74_0 cal k v0 v1 H n
theorem h74_0 (cal:Cal) (k:Nat) (v0 v1:Value) (H:Hp) (n:Nat):aK P cal A (k+1) 74 [v0,v1] H n=C74_0 cal k v0 v1 H n:=by
 have h:aK P cal A (k+1) 74 [v0,v1] H n=B74_0 cal k v0 v1 H n:=by
  rw[bk (fn:=Go.Proofs.Try.f74) (c:=code74) (rs:=Bx) (by kernel_rfl) (by kernel_rfl) (by kernel_rfl) (by kernel_rfl)]
  kernel_rfl
 rw[h,C74_0]
noncomputable def MY:Code:=cw 76
noncomputable def oV:List ResultVar:=dj 76
noncomputable def K76_p (cal:Cal) (k:Nat):KR:=(cutK (A 76).c (az P cal (ax P cal k) none 76 (cR MY) (Lv.b (A 76)) (aw P oV) X0 (aw P oV)))
noncomputable def K76_pr (cal:Cal) (k:Nat):KR:=(cutK (Lv.b (A 76)).c (az P cal (ax P cal k) none 76 (cR (cR MY)) (Lv.b (Lv.b (A 76))) (aw P oV) X0 (aw P oV)))
noncomputable def K76_prl (cal:Cal) (k:Nat):KR:=(cutK (Lv.a (Lv.b (A 76))).c (az P cal (ax P cal k) none 76 (cR (cL (cR MY))) (Lv.b (Lv.a (Lv.b (A 76)))) (K76_pr cal k) X0 (aw P oV)))
noncomputable def K76_prlrl (cal:Cal) (k:Nat):KR:=(cutK (Lv.a (Lv.b (Lv.a (Lv.b (A 76))))).c (az P cal (ax P cal k) none 76 (cR (cL (cR (cL (cR MY))))) (Lv.b (Lv.a (Lv.b (Lv.a (Lv.b (A 76)))))) (K76_pr cal k) X0 (aw P oV)))
noncomputable def K76_prr (cal:Cal) (k:Nat):KR:=(cutK (Lv.b (Lv.b (A 76))).c (az P cal (ax P cal k) none 76 (cR (cR (cR MY))) (Lv.b (Lv.b (Lv.b (A 76)))) (aw P oV) X0 (aw P oV)))
noncomputable def B76_0 (cal:Cal) (k:Nat) (v0:Value) (H:Hp) (n:Nat):Res:=
binK P .eql 44 (.tmp 3) (.const (.slice none 0 0)) v0 (.slice none 0 0) fun v_3=>
ifK v_3 (
some ((.slice none 0 0),H,n)) (
rowK P 44 0 [] H n fun v_5 H_6 n_7=>
stK (dW P (bare H_6 n_7) 44 44 v_5 v0) fun v_9 H_a n_b=>
some (v_9,H_a,n_b))
noncomputable def OV (cal:Cal) (k:Nat) (v0:Value) (H:Hp) (n:Nat):Res:=B76_0 cal k v0 H n
theorem h76_0 (cal:Cal) (k:Nat) (v0:Value) (H:Hp) (n:Nat):aK P cal A (k+1) 76 [v0] H n=OV cal k v0 H n:=by
 have h:aK P cal A (k+1) 76 [v0] H n=B76_0 cal k v0 H n:=by
  rw[bk (fn:=Go.Proofs.Try.f76) (c:=MY) (rs:=oV) (by kernel_rfl) (by kernel_rfl) (by kernel_rfl) (by kernel_rfl)]
  kernel_rfl
 rw[h,OV]
noncomputable def sY:Code:=cw 83
noncomputable def gq:List ResultVar:=dj 83
noncomputable def K83_p (cal:Cal) (k:Nat):KR:=(cutK (A 83).c (az P cal (ax P cal k) none 83 (cR sY) (Lv.b (A 83)) (aw P gq) X0 (aw P gq)))
noncomputable def K83_pr (cal:Cal) (k:Nat):KR:=(cutK (Lv.b (A 83)).c (az P cal (ax P cal k) none 83 (cR (cR sY)) (Lv.b (Lv.b (A 83))) (aw P gq) X0 (aw P gq)))
noncomputable def K83_prl (cal:Cal) (k:Nat):KR:=(cutK (Lv.a (Lv.b (A 83))).c (az P cal (ax P cal k) none 83 (cR (cL (cR sY))) (Lv.b (Lv.a (Lv.b (A 83)))) (K83_pr cal k) X0 (aw P gq)))
noncomputable def uw (cal:Cal) (k:Nat):XR:=(upX 0 (K83_pr cal k) X0)
noncomputable def Gk (cal:Cal) (k:Nat) (m1:Nat):KR:=(fun T H n D=>ax P cal m1 (Lv.a (Lv.b (Lv.a (Lv.b (A 83))))) none 83 (cL (cR (cL (cR sY)))) (K83_pr cal k) (uw cal k) (aw P gq) (cutT (Lv.a (Lv.b (Lv.a (Lv.b (A 83))))).c T) H n D)
noncomputable def K83_prlrll (cal:Cal) (k:Nat) (m1:Nat):KR:=(cutK (Lv.a (Lv.a (Lv.b (Lv.a (Lv.b (A 83)))))).c (az P cal (ax P cal m1) none 83 (cR (cL (cL (cR (cL (cR sY)))))) (Lv.b (Lv.a (Lv.a (Lv.b (Lv.a (Lv.b (A 83))))))) (Gk cal k m1) (uw cal k) (aw P gq)))
noncomputable def K83_prlrllr (cal:Cal) (k:Nat) (m1:Nat):KR:=(cutK (Lv.b (Lv.a (Lv.a (Lv.b (Lv.a (Lv.b (A 83))))))).c (az P cal (ax P cal m1) none 83 (cR (cR (cL (cL (cR (cL (cR sY))))))) (Lv.b (Lv.b (Lv.a (Lv.a (Lv.b (Lv.a (Lv.b (A 83)))))))) (Gk cal k m1) (uw cal k) (aw P gq)))
noncomputable def wq (cal:Cal) (k:Nat) (m1:Nat):KR:=(cutK (Lv.b (Lv.b (Lv.a (Lv.a (Lv.b (Lv.a (Lv.b (A 83)))))))).c (az P cal (ax P cal m1) none 83 (cR (cR (cR (cL (cL (cR (cL (cR sY)))))))) (Lv.b (Lv.b (Lv.b (Lv.a (Lv.a (Lv.b (Lv.a (Lv.b (A 83))))))))) (Gk cal k m1) (uw cal k) (aw P gq)))
noncomputable def xW (cal:Cal) (k:Nat) (m1:Nat):XR:=(upX 1 (wq cal k m1) (uw cal k))
noncomputable def K83_prlrllrrll (cal:Cal) (k:Nat) (m1:Nat):KR:=(cutK (Lv.a (Lv.a (Lv.b (Lv.b (Lv.a (Lv.a (Lv.b (Lv.a (Lv.b (A 83)))))))))).c (az P cal (ax P cal m1) none 83 (cR (cL (cL (cR (cR (cL (cL (cR (cL (cR sY)))))))))) (Lv.b (Lv.a (Lv.a (Lv.b (Lv.b (Lv.a (Lv.a (Lv.b (Lv.a (Lv.b (A 83))))))))))) (wq cal k m1) (xW cal k m1) (aw P gq)))
noncomputable def K83_prlrllrrllr (cal:Cal) (k:Nat) (m1:Nat):KR:=(cutK (Lv.b (Lv.a (Lv.a (Lv.b (Lv.b (Lv.a (Lv.a (Lv.b (Lv.a (Lv.b (A 83))))))))))).c (az P cal (ax P cal m1) none 83 (cR (cR (cL (cL (cR (cR (cL (cL (cR (cL (cR sY))))))))))) (Lv.b (Lv.b (Lv.a (Lv.a (Lv.b (Lv.b (Lv.a (Lv.a (Lv.b (Lv.a (Lv.b (A 83)))))))))))) (wq cal k m1) (xW cal k m1) (aw P gq)))
noncomputable def K83_prlrllrrllrrl (cal:Cal) (k:Nat) (m1:Nat):KR:=(cutK (Lv.a (Lv.b (Lv.b (Lv.a (Lv.a (Lv.b (Lv.b (Lv.a (Lv.a (Lv.b (Lv.a (Lv.b (A 83))))))))))))).c (az P cal (ax P cal m1) none 83 (cR (cL (cR (cR (cL (cL (cR (cR (cL (cL (cR (cL (cR sY))))))))))))) (Lv.b (Lv.a (Lv.b (Lv.b (Lv.a (Lv.a (Lv.b (Lv.b (Lv.a (Lv.a (Lv.b (Lv.a (Lv.b (A 83)))))))))))))) (wq cal k m1) (xW cal k m1) (aw P gq)))
noncomputable def K83_prr (cal:Cal) (k:Nat):KR:=(cutK (Lv.b (Lv.b (A 83))).c (az P cal (ax P cal k) none 83 (cR (cR (cR sY))) (Lv.b (Lv.b (Lv.b (A 83)))) (aw P gq) X0 (aw P gq)))
noncomputable def E83_1 (cal:Cal) (k m1:Nat):KR:=az P cal (ax P cal m1) none 83 (cL (cL (cR (cL (cR sY))))) (Lv.a (Lv.a (Lv.b (Lv.a (Lv.b (A 83)))))) (Gk cal k m1) (uw cal k) (aw P gq)
noncomputable def R83_1 (cal:Cal) (k m1:Nat):V4:=fun u0 u3 u11 u12 H n=>ax P cal m1 (Lv.a (Lv.b (Lv.a (Lv.b (A 83))))) none 83 (cL (cR (cL (cR sY)))) (K83_pr cal k) (uw cal k) (aw P gq) (Tr.set (Tr.set (Tr.set (Tr.set Tr.nil 12 (some u12)) 11 (some u11)) 3 (some u3)) 0 (some u0)) H n []
noncomputable def B83_1 (cal:Cal) (k m1:Nat) (b1:V4) (u0 u3 u11 u12:Value) (H:Hp) (n:Nat):Res:=
binK P .lss 3 (.tmp 12) (.tmp 11) u12 u11 fun v_d=>
ifK v_d (
aq (aX u3) fun a_i=>aq (ak P H 111 a_i) fun v_h=>
aY P cal 68 [u0,v_h,u12] H n fun v_k H_l n_m=>
ifK v_k (
some ((.bool false),H_l,n_m)) (
binK P .add 3 (.tmp 12) (.const (.int .i64 1)) u12 (.int .i64 1) fun v_o=>
b1 u0 u3 u11 v_o H_l n_m)) (
aq (aX u3) fun a_s=>aq (ak P H 111 a_s) fun v_r=>
aY P cal 111 [u0,v_r] H n fun v_t H_u n_v=>
some (v_t,H_u,n_v))
noncomputable def C83_1 (cal:Cal) (k m1:Nat) (b1:V4) (u0 u3 u11 u12:Value) (H:Hp) (n:Nat):Res:=B83_1 cal k m1 b1 u0 u3 u11 u12 H n
noncomputable def S83_1 (cal:Cal) (k:Nat):Nat→V4:=fun m=>Nat.rec (motive:=fun _=>V4) (C83_1 cal k 0 (fun _ _ _ _ _ _=>none)) (fun m ih=>C83_1 cal k (m+1) ih) m
theorem h83_1 (cal:Cal) (k m1:Nat) (u0 u3 u11 u12:Value) (H:Hp) (n:Nat):labK (E83_1 cal k m1) (Tr.set (Tr.set (Tr.set (Tr.set Tr.nil 12 (some u12)) 11 (some u11)) 3 (some u3)) 0 (some u0)) H n []=C83_1 cal k m1 (R83_1 cal k m1) u0 u3 u11 u12 H n:=by
 refine Eq.trans (b:=B83_1 cal k m1 (R83_1 cal k m1) u0 u3 u11 u12 H n) (by kernel_rfl) ?_
 rw[C83_1]
theorem q83_1 (cal:Cal) (k:Nat):∀(m:Nat) (u0 u3 u11 u12:Value) (H:Hp) (n:Nat),labK (E83_1 cal k m) (Tr.set (Tr.set (Tr.set (Tr.set Tr.nil 12 (some u12)) 11 (some u11)) 3 (some u3)) 0 (some u0)) H n []=S83_1 cal k m u0 u3 u11 u12 H n
 | 0,u0,u3,u11,u12,H,n=>by
  rw[h83_1]
  have e:R83_1 cal k 0=fun _ _ _ _ _ _=>none:=by funext u0 u3 u11 u12 H n; kernel_rfl
  rw[e]; rfl
 | m+1,u0,u3,u11,u12,H,n=>by
  rw[h83_1]
  have e:R83_1 cal k (m+1)=S83_1 cal k m:=by
   funext u0 u3 u11 u12 H n
   have e:R83_1 cal k (m+1) u0 u3 u11 u12 H n=labK (E83_1 cal k m) (Tr.set (Tr.set (Tr.set (Tr.set Tr.nil 12 (some u12)) 11 (some u11)) 3 (some u3)) 0 (some u0)) H n []:=by kernel_rfl
   rw[e]; exact q83_1 ..
  rw[e]; rfl
noncomputable def B83_0 (cal:Cal) (k:Nat) (j1:V4) (v0 v1:Value) (H:Hp) (n:Nat):Res:=
boxK 111 v1 H n fun v_1 H_2 n_3=>
aq (nilV v0) fun v_6=>
aq (ay P 117 v_6 0) fun v_7=>
aq (ay P 35 v_7 0) fun v_8=>
aq (aX v_8) fun a_a=>aq (ak P H_2 31 a_a) fun v_9=>
aq (lenV P 31 v_9) fun v_b=>
j1 v0 v_1 v_b (.int .i64 0) H_2 n_3
noncomputable def C83_0 (cal:Cal) (k:Nat) (v0 v1:Value) (H:Hp) (n:Nat):Res:=B83_0 cal k (S83_1 cal k k) v0 v1 H n
theorem h83_0 (cal:Cal) (k:Nat) (v0 v1:Value) (H:Hp) (n:Nat):aK P cal A (k+1) 83 [v0,v1] H n=C83_0 cal k v0 v1 H n:=by
 have h:aK P cal A (k+1) 83 [v0,v1] H n=B83_0 cal k (fun u0 u3 u11 u12 H n=>labK (E83_1 cal k k) (Tr.set (Tr.set (Tr.set (Tr.set Tr.nil 12 (some u12)) 11 (some u11)) 3 (some u3)) 0 (some u0)) H n []) v0 v1 H n:=by
  rw[bk (fn:=Go.Proofs.Try.f83) (c:=sY) (rs:=gq) (by kernel_rfl) (by kernel_rfl) (by kernel_rfl) (by kernel_rfl)]
  kernel_rfl
 rw[h,C83_0]
 have e1:(fun u0 u3 u11 u12 H n=>labK (E83_1 cal k k) (Tr.set (Tr.set (Tr.set (Tr.set Tr.nil 12 (some u12)) 11 (some u11)) 3 (some u3)) 0 (some u0)) H n [])=(S83_1 cal k k):=by funext u0 u3 u11 u12 H n; exact q83_1 ..
 rw[e1]
noncomputable def IZ:Code:=cw 85
noncomputable def jY:List ResultVar:=dj 85
noncomputable def K85_p (cal:Cal) (k:Nat):KR:=(cutK (A 85).c (az P cal (ax P cal k) none 85 (cR IZ) (Lv.b (A 85)) (aw P jY) X0 (aw P jY)))
noncomputable def K85_pr (cal:Cal) (k:Nat):KR:=(cutK (Lv.b (A 85)).c (az P cal (ax P cal k) none 85 (cR (cR IZ)) (Lv.b (Lv.b (A 85))) (aw P jY) X0 (aw P jY)))
noncomputable def K85_prr (cal:Cal) (k:Nat):KR:=(cutK (Lv.b (Lv.b (A 85))).c (az P cal (ax P cal k) none 85 (cR (cR (cR IZ))) (Lv.b (Lv.b (Lv.b (A 85)))) (aw P jY) X0 (aw P jY)))
noncomputable def K85_prrr (cal:Cal) (k:Nat):KR:=(cutK (Lv.b (Lv.b (Lv.b (A 85)))).c (az P cal (ax P cal k) none 85 (cR (cR (cR (cR IZ)))) (Lv.b (Lv.b (Lv.b (Lv.b (A 85))))) (aw P jY) X0 (aw P jY)))
noncomputable def K85_prrrr (cal:Cal) (k:Nat):KR:=(cutK (Lv.b (Lv.b (Lv.b (Lv.b (A 85))))).c (az P cal (ax P cal k) none 85 (cR (cR (cR (cR (cR IZ))))) (Lv.b (Lv.b (Lv.b (Lv.b (Lv.b (A 85)))))) (aw P jY) X0 (aw P jY)))
noncomputable def K85_prrrrr (cal:Cal) (k:Nat):KR:=(cutK (Lv.b (Lv.b (Lv.b (Lv.b (Lv.b (A 85)))))).c (az P cal (ax P cal k) none 85 (cR (cR (cR (cR (cR (cR IZ)))))) (Lv.b (Lv.b (Lv.b (Lv.b (Lv.b (Lv.b (A 85))))))) (aw P jY) X0 (aw P jY)))
noncomputable def B85_0 (cal:Cal) (k:Nat) (v0:Value) (H:Hp) (n:Nat):Res:=
boxK 105 v0 H n fun v_1 H_2 n_3=>
dZ P 44 H_2 n_3 fun v_5 H_6 n_7=>
dZ P 170 H_6 n_7 fun v_8 H_9 n_a=>
aq (bz P 170 v_8 (Value.func (Fn.func 112) ⟨[]⟩ ⟨[v_5,v_1,v_8]⟩) H_9) fun H_d=>
aq (aX v_8) fun a_f=>aq (ak P H_d 170 a_f) fun v_e=>
eK P cal v_e [(.slice none 0 0),(.int .i64 0)] H_d n_a fun v_g H_h n_i=>
aq (aX v_5) fun a_k=>aq (ak P H_h 44 a_k) fun v_j=>
some (v_j,H_h,n_i)
noncomputable def Xw (cal:Cal) (k:Nat) (v0:Value) (H:Hp) (n:Nat):Res:=B85_0 cal k v0 H n
theorem h85_0 (cal:Cal) (k:Nat) (v0:Value) (H:Hp) (n:Nat):aK P cal A (k+1) 85 [v0] H n=Xw cal k v0 H n:=by
 have h:aK P cal A (k+1) 85 [v0] H n=B85_0 cal k v0 H n:=by
  rw[bk (fn:=Go.Proofs.Try.f85) (c:=IZ) (rs:=jY) (by kernel_rfl) (by kernel_rfl) (by kernel_rfl) (by kernel_rfl)]
  kernel_rfl
 rw[h,Xw]
noncomputable def sZ:Code:=cw 86
noncomputable def gw:List ResultVar:=dj 86
noncomputable def K86_p (cal:Cal) (k:Nat):KR:=(cutK (A 86).c (az P cal (ax P cal k) none 86 (cR sZ) (Lv.b (A 86)) (aw P gw) X0 (aw P gw)))
noncomputable def K86_pr (cal:Cal) (k:Nat):KR:=(cutK (Lv.b (A 86)).c (az P cal (ax P cal k) none 86 (cR (cR sZ)) (Lv.b (Lv.b (A 86))) (aw P gw) X0 (aw P gw)))
noncomputable def K86_prl (cal:Cal) (k:Nat):KR:=(cutK (Lv.a (Lv.b (A 86))).c (az P cal (ax P cal k) none 86 (cR (cL (cR sZ))) (Lv.b (Lv.a (Lv.b (A 86)))) (K86_pr cal k) X0 (aw P gw)))
noncomputable def ux (cal:Cal) (k:Nat):XR:=(upX 0 (K86_pr cal k) X0)
noncomputable def GJ (cal:Cal) (k:Nat) (m1:Nat):KR:=(fun T H n D=>ax P cal m1 (Lv.a (Lv.b (Lv.a (Lv.b (A 86))))) none 86 (cL (cR (cL (cR sZ)))) (K86_pr cal k) (ux cal k) (aw P gw) (cutT (Lv.a (Lv.b (Lv.a (Lv.b (A 86))))).c T) H n D)
noncomputable def K86_prlrll (cal:Cal) (k:Nat) (m1:Nat):KR:=(cutK (Lv.a (Lv.a (Lv.b (Lv.a (Lv.b (A 86)))))).c (az P cal (ax P cal m1) none 86 (cR (cL (cL (cR (cL (cR sZ)))))) (Lv.b (Lv.a (Lv.a (Lv.b (Lv.a (Lv.b (A 86))))))) (GJ cal k m1) (ux cal k) (aw P gw)))
noncomputable def K86_prlrllr (cal:Cal) (k:Nat) (m1:Nat):KR:=(cutK (Lv.b (Lv.a (Lv.a (Lv.b (Lv.a (Lv.b (A 86))))))).c (az P cal (ax P cal m1) none 86 (cR (cR (cL (cL (cR (cL (cR sZ))))))) (Lv.b (Lv.b (Lv.a (Lv.a (Lv.b (Lv.a (Lv.b (A 86)))))))) (GJ cal k m1) (ux cal k) (aw P gw)))
noncomputable def wv (cal:Cal) (k:Nat) (m1:Nat):KR:=(cutK (Lv.b (Lv.b (Lv.a (Lv.a (Lv.b (Lv.a (Lv.b (A 86)))))))).c (az P cal (ax P cal m1) none 86 (cR (cR (cR (cL (cL (cR (cL (cR sZ)))))))) (Lv.b (Lv.b (Lv.b (Lv.a (Lv.a (Lv.b (Lv.a (Lv.b (A 86))))))))) (GJ cal k m1) (ux cal k) (aw P gw)))
noncomputable def xX (cal:Cal) (k:Nat) (m1:Nat):XR:=(upX 1 (wv cal k m1) (ux cal k))
noncomputable def K86_prlrllrrll (cal:Cal) (k:Nat) (m1:Nat):KR:=(cutK (Lv.a (Lv.a (Lv.b (Lv.b (Lv.a (Lv.a (Lv.b (Lv.a (Lv.b (A 86)))))))))).c (az P cal (ax P cal m1) none 86 (cR (cL (cL (cR (cR (cL (cL (cR (cL (cR sZ)))))))))) (Lv.b (Lv.a (Lv.a (Lv.b (Lv.b (Lv.a (Lv.a (Lv.b (Lv.a (Lv.b (A 86))))))))))) (wv cal k m1) (xX cal k m1) (aw P gw)))
noncomputable def K86_prlrllrrllr (cal:Cal) (k:Nat) (m1:Nat):KR:=(cutK (Lv.b (Lv.a (Lv.a (Lv.b (Lv.b (Lv.a (Lv.a (Lv.b (Lv.a (Lv.b (A 86))))))))))).c (az P cal (ax P cal m1) none 86 (cR (cR (cL (cL (cR (cR (cL (cL (cR (cL (cR sZ))))))))))) (Lv.b (Lv.b (Lv.a (Lv.a (Lv.b (Lv.b (Lv.a (Lv.a (Lv.b (Lv.a (Lv.b (A 86)))))))))))) (wv cal k m1) (xX cal k m1) (aw P gw)))
noncomputable def K86_prlrllrrllrrl (cal:Cal) (k:Nat) (m1:Nat):KR:=(cutK (Lv.a (Lv.b (Lv.b (Lv.a (Lv.a (Lv.b (Lv.b (Lv.a (Lv.a (Lv.b (Lv.a (Lv.b (A 86))))))))))))).c (az P cal (ax P cal m1) none 86 (cR (cL (cR (cR (cL (cL (cR (cR (cL (cL (cR (cL (cR sZ))))))))))))) (Lv.b (Lv.a (Lv.b (Lv.b (Lv.a (Lv.a (Lv.b (Lv.b (Lv.a (Lv.a (Lv.b (Lv.a (Lv.b (A 86)))))))))))))) (wv cal k m1) (xX cal k m1) (aw P gw)))
noncomputable def K86_prr (cal:Cal) (k:Nat):KR:=(cutK (Lv.b (Lv.b (A 86))).c (az P cal (ax P cal k) none 86 (cR (cR (cR sZ))) (Lv.b (Lv.b (Lv.b (A 86)))) (aw P gw) X0 (aw P gw)))
noncomputable def E86_1 (cal:Cal) (k m1:Nat):KR:=az P cal (ax P cal m1) none 86 (cL (cL (cR (cL (cR sZ))))) (Lv.a (Lv.a (Lv.b (Lv.a (Lv.b (A 86)))))) (GJ cal k m1) (ux cal k) (aw P gw)
noncomputable def R86_1 (cal:Cal) (k m1:Nat):V4:=fun u1 u7 u8 u9 H n=>ax P cal m1 (Lv.a (Lv.b (Lv.a (Lv.b (A 86))))) none 86 (cL (cR (cL (cR sZ)))) (K86_pr cal k) (ux cal k) (aw P gw) (Tr.set (Tr.set (Tr.set (Tr.set Tr.nil 9 (some u9)) 8 (some u8)) 7 (some u7)) 1 (some u1)) H n []
noncomputable def B86_1 (cal:Cal) (k m1:Nat) (b1:V4) (u1 u7 u8 u9:Value) (H:Hp) (n:Nat):Res:=
binK P .lss 3 (.tmp 9) (.tmp 8) u9 u8 fun v_5=>
ifK v_5 (
aq (aW P 44 u7 u9) fun v_6=>
aq (aX v_6) fun a_8=>aq (ak P H 3 a_8) fun v_7=>
eK P cal u1 [v_7] H n fun v_c H_d n_e=>
aq (dJ P v_c (Op.unary UnOp.not v_c)) fun v_f=>
ifK v_f (
some ((.bool false),H_d,n_e)) (
binK P .add 3 (.tmp 9) (.const (.int .i64 1)) u9 (.int .i64 1) fun v_h=>
b1 u1 u7 u8 v_h H_d n_e)) (
some ((.bool true),H,n))
noncomputable def Xx (cal:Cal) (k m1:Nat) (b1:V4) (u1 u7 u8 u9:Value) (H:Hp) (n:Nat):Res:=B86_1 cal k m1 b1 u1 u7 u8 u9 H n
noncomputable def S86_1 (cal:Cal) (k:Nat):Nat→V4:=fun m=>Nat.rec (motive:=fun _=>V4) (Xx cal k 0 (fun _ _ _ _ _ _=>none)) (fun m ih=>Xx cal k (m+1) ih) m
theorem h86_1 (cal:Cal) (k m1:Nat) (u1 u7 u8 u9:Value) (H:Hp) (n:Nat):labK (E86_1 cal k m1) (Tr.set (Tr.set (Tr.set (Tr.set Tr.nil 9 (some u9)) 8 (some u8)) 7 (some u7)) 1 (some u1)) H n []=Xx cal k m1 (R86_1 cal k m1) u1 u7 u8 u9 H n:=by
 refine Eq.trans (b:=B86_1 cal k m1 (R86_1 cal k m1) u1 u7 u8 u9 H n) (by kernel_rfl) ?_
 rw[Xx]
theorem q86_1 (cal:Cal) (k:Nat):∀(m:Nat) (u1 u7 u8 u9:Value) (H:Hp) (n:Nat),labK (E86_1 cal k m) (Tr.set (Tr.set (Tr.set (Tr.set Tr.nil 9 (some u9)) 8 (some u8)) 7 (some u7)) 1 (some u1)) H n []=S86_1 cal k m u1 u7 u8 u9 H n
 | 0,u1,u7,u8,u9,H,n=>by
  rw[h86_1]
  have e:R86_1 cal k 0=fun _ _ _ _ _ _=>none:=by funext u1 u7 u8 u9 H n; kernel_rfl
  rw[e]; rfl
 | m+1,u1,u7,u8,u9,H,n=>by
  rw[h86_1]
  have e:R86_1 cal k (m+1)=S86_1 cal k m:=by
   funext u1 u7 u8 u9 H n
   have e:R86_1 cal k (m+1) u1 u7 u8 u9 H n=labK (E86_1 cal k m) (Tr.set (Tr.set (Tr.set (Tr.set Tr.nil 9 (some u9)) 8 (some u8)) 7 (some u7)) 1 (some u1)) H n []:=by kernel_rfl
   rw[e]; exact q86_1 ..
  rw[e]; rfl
noncomputable def B86_0 (cal:Cal) (k:Nat) (j1:V4) (v0 v1:Value) (H:Hp) (n:Nat):Res:=
aq (lenV P 44 v0) fun v_3=>
j1 v1 v0 v_3 (.int .i64 0) H n
noncomputable def C86_0 (cal:Cal) (k:Nat) (v0 v1:Value) (H:Hp) (n:Nat):Res:=B86_0 cal k (S86_1 cal k k) v0 v1 H n
theorem h86_0 (cal:Cal) (k:Nat) (v0 v1:Value) (H:Hp) (n:Nat):aK P cal A (k+1) 86 [v0,v1] H n=C86_0 cal k v0 v1 H n:=by
 have h:aK P cal A (k+1) 86 [v0,v1] H n=B86_0 cal k (fun u1 u7 u8 u9 H n=>labK (E86_1 cal k k) (Tr.set (Tr.set (Tr.set (Tr.set Tr.nil 9 (some u9)) 8 (some u8)) 7 (some u7)) 1 (some u1)) H n []) v0 v1 H n:=by
  rw[bk (fn:=Go.Proofs.Try.f86) (c:=sZ) (rs:=gw) (by kernel_rfl) (by kernel_rfl) (by kernel_rfl) (by kernel_rfl)]
  kernel_rfl
 rw[h,C86_0]
 have e1:(fun u1 u7 u8 u9 H n=>labK (E86_1 cal k k) (Tr.set (Tr.set (Tr.set (Tr.set Tr.nil 9 (some u9)) 8 (some u8)) 7 (some u7)) 1 (some u1)) H n [])=(S86_1 cal k k):=by funext u1 u7 u8 u9 H n; exact q86_1 ..
 rw[e1]
noncomputable def uy:Code:=cw 87
noncomputable def ix:List ResultVar:=dj 87
noncomputable def K87_p (cal:Cal) (k:Nat):KR:=(cutK (A 87).c (az P cal (ax P cal k) none 87 (cR uy) (Lv.b (A 87)) (aw P ix) X0 (aw P ix)))
noncomputable def K87_pr (cal:Cal) (k:Nat):KR:=(cutK (Lv.b (A 87)).c (az P cal (ax P cal k) none 87 (cR (cR uy)) (Lv.b (Lv.b (A 87))) (aw P ix) X0 (aw P ix)))
noncomputable def K87_prl (cal:Cal) (k:Nat):KR:=(cutK (Lv.a (Lv.b (A 87))).c (az P cal (ax P cal k) none 87 (cR (cL (cR uy))) (Lv.b (Lv.a (Lv.b (A 87)))) (K87_pr cal k) X0 (aw P ix)))
noncomputable def uz (cal:Cal) (k:Nat):XR:=(upX 0 (K87_pr cal k) X0)
noncomputable def MZ (cal:Cal) (k:Nat) (m1:Nat):KR:=(fun T H n D=>ax P cal m1 (Lv.a (Lv.b (Lv.a (Lv.b (A 87))))) none 87 (cL (cR (cL (cR uy)))) (K87_pr cal k) (uz cal k) (aw P ix) (cutT (Lv.a (Lv.b (Lv.a (Lv.b (A 87))))).c T) H n D)
noncomputable def K87_prlrll (cal:Cal) (k:Nat) (m1:Nat):KR:=(cutK (Lv.a (Lv.a (Lv.b (Lv.a (Lv.b (A 87)))))).c (az P cal (ax P cal m1) none 87 (cR (cL (cL (cR (cL (cR uy)))))) (Lv.b (Lv.a (Lv.a (Lv.b (Lv.a (Lv.b (A 87))))))) (MZ cal k m1) (uz cal k) (aw P ix)))
noncomputable def K87_prlrlll (cal:Cal) (k:Nat) (m1:Nat):KR:=(cutK (Lv.a (Lv.a (Lv.a (Lv.b (Lv.a (Lv.b (A 87))))))).c (az P cal (ax P cal m1) none 87 (cR (cL (cL (cL (cR (cL (cR uy))))))) (Lv.b (Lv.a (Lv.a (Lv.a (Lv.b (Lv.a (Lv.b (A 87)))))))) (K87_prlrll cal k m1) (uz cal k) (aw P ix)))
noncomputable def EW (cal:Cal) (k:Nat) (m1:Nat):KR:=(cutK (Lv.b (Lv.a (Lv.a (Lv.b (Lv.a (Lv.b (A 87))))))).c (az P cal (ax P cal m1) none 87 (cR (cR (cL (cL (cR (cL (cR uy))))))) (Lv.b (Lv.b (Lv.a (Lv.a (Lv.b (Lv.a (Lv.b (A 87)))))))) (MZ cal k m1) (uz cal k) (aw P ix)))
noncomputable def K87_pxrlrllrl (cal:Cal) (k:Nat) (m1:Nat):XR:=(upX 1 (EW cal k m1) (uz cal k))
noncomputable def K87_prlrllrll (cal:Cal) (k:Nat) (m1:Nat):KR:=(cutK (Lv.a (Lv.a (Lv.b (Lv.a (Lv.a (Lv.b (Lv.a (Lv.b (A 87))))))))).c (az P cal (ax P cal m1) none 87 (cR (cL (cL (cR (cL (cL (cR (cL (cR uy))))))))) (Lv.b (Lv.a (Lv.a (Lv.b (Lv.a (Lv.a (Lv.b (Lv.a (Lv.b (A 87)))))))))) (EW cal k m1) (K87_pxrlrllrl cal k m1) (aw P ix)))
noncomputable def K87_prlrllrllrl (cal:Cal) (k:Nat) (m1:Nat):KR:=(cutK (Lv.a (Lv.b (Lv.a (Lv.a (Lv.b (Lv.a (Lv.a (Lv.b (Lv.a (Lv.b (A 87))))))))))).c (az P cal (ax P cal m1) none 87 (cR (cL (cR (cL (cL (cR (cL (cL (cR (cL (cR uy))))))))))) (Lv.b (Lv.a (Lv.b (Lv.a (Lv.a (Lv.b (Lv.a (Lv.a (Lv.b (Lv.a (Lv.b (A 87)))))))))))) (EW cal k m1) (K87_pxrlrllrl cal k m1) (aw P ix)))
noncomputable def K87_prr (cal:Cal) (k:Nat):KR:=(cutK (Lv.b (Lv.b (A 87))).c (az P cal (ax P cal k) none 87 (cR (cR (cR uy))) (Lv.b (Lv.b (Lv.b (A 87)))) (aw P ix) X0 (aw P ix)))
noncomputable def E87_1 (cal:Cal) (k m1:Nat):KR:=az P cal (ax P cal m1) none 87 (cL (cL (cR (cL (cR uy))))) (Lv.a (Lv.a (Lv.b (Lv.a (Lv.b (A 87)))))) (MZ cal k m1) (uz cal k) (aw P ix)
noncomputable def R87_1 (cal:Cal) (k m1:Nat):V2:=fun u0 u3 H n=>ax P cal m1 (Lv.a (Lv.b (Lv.a (Lv.b (A 87))))) none 87 (cL (cR (cL (cR uy)))) (K87_pr cal k) (uz cal k) (aw P ix) (Tr.set (Tr.set Tr.nil 3 (some u3)) 0 (some u0)) H n []
noncomputable def B87_1 (cal:Cal) (k m1:Nat) (b1:V2) (u0 u3:Value) (H:Hp) (n:Nat):Res:=
aq (lenV P 44 u0) fun v_5=>
binK P .lss 3 (.tmp 4) (.tmp 6) u3 v_5 fun v_6=>
ifK v_6 (
aq (aW P 44 u0 u3) fun v_9=>
aq (aX v_9) fun a_a=>aq (ak P H 3 a_a) fun v_b=>
binK P .sub 3 (.tmp 15) (.const (.int .i64 1)) u3 (.int .i64 1) fun v_e=>
aq (aW P 44 u0 v_e) fun v_f=>
aq (aX v_f) fun a_g=>aq (ak P H 3 a_g) fun v_h=>
binK P .leq 3 (.tmp 13) (.tmp 18) v_b v_h fun v_i=>
ifK v_i (
some ((.bool false),H,n)) (
binK P .add 3 (.tmp 8) (.const (.int .i64 1)) u3 (.int .i64 1) fun v_l=>
b1 u0 v_l H n)) (
some ((.bool true),H,n))
noncomputable def Xy (cal:Cal) (k m1:Nat) (b1:V2) (u0 u3:Value) (H:Hp) (n:Nat):Res:=B87_1 cal k m1 b1 u0 u3 H n
noncomputable def S87_1 (cal:Cal) (k:Nat):Nat→V2:=fun m=>Nat.rec (motive:=fun _=>V2) (Xy cal k 0 (fun _ _ _ _=>none)) (fun m ih=>Xy cal k (m+1) ih) m
theorem h87_1 (cal:Cal) (k m1:Nat) (u0 u3:Value) (H:Hp) (n:Nat):labK (E87_1 cal k m1) (Tr.set (Tr.set Tr.nil 3 (some u3)) 0 (some u0)) H n []=Xy cal k m1 (R87_1 cal k m1) u0 u3 H n:=by
 refine Eq.trans (b:=B87_1 cal k m1 (R87_1 cal k m1) u0 u3 H n) (by kernel_rfl) ?_
 rw[Xy]
theorem q87_1 (cal:Cal) (k:Nat):∀(m:Nat) (u0 u3:Value) (H:Hp) (n:Nat),labK (E87_1 cal k m) (Tr.set (Tr.set Tr.nil 3 (some u3)) 0 (some u0)) H n []=S87_1 cal k m u0 u3 H n
 | 0,u0,u3,H,n=>by
  rw[h87_1]
  have e:R87_1 cal k 0=fun _ _ _ _=>none:=by funext u0 u3 H n; kernel_rfl
  rw[e]; rfl
 | m+1,u0,u3,H,n=>by
  rw[h87_1]
  have e:R87_1 cal k (m+1)=S87_1 cal k m:=by
   funext u0 u3 H n
   have e:R87_1 cal k (m+1) u0 u3 H n=labK (E87_1 cal k m) (Tr.set (Tr.set Tr.nil 3 (some u3)) 0 (some u0)) H n []:=by kernel_rfl
   rw[e]; exact q87_1 ..
  rw[e]; rfl
noncomputable def B87_0 (cal:Cal) (k:Nat) (j1:V2) (v0:Value) (H:Hp) (n:Nat):Res:=
j1 v0 (.int .i64 1) H n
noncomputable def C87_0 (cal:Cal) (k:Nat) (v0:Value) (H:Hp) (n:Nat):Res:=B87_0 cal k (S87_1 cal k k) v0 H n
theorem h87_0 (cal:Cal) (k:Nat) (v0:Value) (H:Hp) (n:Nat):aK P cal A (k+1) 87 [v0] H n=C87_0 cal k v0 H n:=by
 have h:aK P cal A (k+1) 87 [v0] H n=B87_0 cal k (fun u0 u3 H n=>labK (E87_1 cal k k) (Tr.set (Tr.set Tr.nil 3 (some u3)) 0 (some u0)) H n []) v0 H n:=by
  rw[bk (fn:=Go.Proofs.Try.f87) (c:=uy) (rs:=ix) (by kernel_rfl) (by kernel_rfl) (by kernel_rfl) (by kernel_rfl)]
  kernel_rfl
 rw[h,C87_0]
 have e1:(fun u0 u3 H n=>labK (E87_1 cal k k) (Tr.set (Tr.set Tr.nil 3 (some u3)) 0 (some u0)) H n [])=(S87_1 cal k k):=by funext u0 u3 H n; exact q87_1 ..
 rw[e1]
noncomputable def sK:Code:=cw 89
noncomputable def gz:List ResultVar:=dj 89
noncomputable def K89_p (cal:Cal) (k:Nat):KR:=(cutK (A 89).c (az P cal (ax P cal k) none 89 (cR sK) (Lv.b (A 89)) (aw P gz) X0 (aw P gz)))
noncomputable def K89_pr (cal:Cal) (k:Nat):KR:=(cutK (Lv.b (A 89)).c (az P cal (ax P cal k) none 89 (cR (cR sK)) (Lv.b (Lv.b (A 89))) (aw P gz) X0 (aw P gz)))
noncomputable def K89_prl (cal:Cal) (k:Nat):KR:=(cutK (Lv.a (Lv.b (A 89))).c (az P cal (ax P cal k) none 89 (cR (cL (cR sK))) (Lv.b (Lv.a (Lv.b (A 89)))) (K89_pr cal k) X0 (aw P gz)))
noncomputable def uk (cal:Cal) (k:Nat):XR:=(upX 0 (K89_pr cal k) X0)
noncomputable def MK (cal:Cal) (k:Nat) (m1:Nat):KR:=(fun T H n D=>ax P cal m1 (Lv.a (Lv.b (Lv.a (Lv.b (A 89))))) none 89 (cL (cR (cL (cR sK)))) (K89_pr cal k) (uk cal k) (aw P gz) (cutT (Lv.a (Lv.b (Lv.a (Lv.b (A 89))))).c T) H n D)
noncomputable def K89_prlrll (cal:Cal) (k:Nat) (m1:Nat):KR:=(cutK (Lv.a (Lv.a (Lv.b (Lv.a (Lv.b (A 89)))))).c (az P cal (ax P cal m1) none 89 (cR (cL (cL (cR (cL (cR sK)))))) (Lv.b (Lv.a (Lv.a (Lv.b (Lv.a (Lv.b (A 89))))))) (MK cal k m1) (uk cal k) (aw P gz)))
noncomputable def K89_prlrlll (cal:Cal) (k:Nat) (m1:Nat):KR:=(cutK (Lv.a (Lv.a (Lv.a (Lv.b (Lv.a (Lv.b (A 89))))))).c (az P cal (ax P cal m1) none 89 (cR (cL (cL (cL (cR (cL (cR sK))))))) (Lv.b (Lv.a (Lv.a (Lv.a (Lv.b (Lv.a (Lv.b (A 89)))))))) (K89_prlrll cal k m1) (uk cal k) (aw P gz)))
noncomputable def yX (cal:Cal) (k:Nat) (m1:Nat):KR:=(cutK (Lv.b (Lv.a (Lv.a (Lv.b (Lv.a (Lv.b (A 89))))))).c (az P cal (ax P cal m1) none 89 (cR (cR (cL (cL (cR (cL (cR sK))))))) (Lv.b (Lv.b (Lv.a (Lv.a (Lv.b (Lv.a (Lv.b (A 89)))))))) (MK cal k m1) (uk cal k) (aw P gz)))
noncomputable def zk (cal:Cal) (k:Nat) (m1:Nat):XR:=(upX 1 (yX cal k m1) (uk cal k))
noncomputable def K89_prlrllrll (cal:Cal) (k:Nat) (m1:Nat):KR:=(cutK (Lv.a (Lv.a (Lv.b (Lv.a (Lv.a (Lv.b (Lv.a (Lv.b (A 89))))))))).c (az P cal (ax P cal m1) none 89 (cR (cL (cL (cR (cL (cL (cR (cL (cR sK))))))))) (Lv.b (Lv.a (Lv.a (Lv.b (Lv.a (Lv.a (Lv.b (Lv.a (Lv.b (A 89)))))))))) (yX cal k m1) (zk cal k m1) (aw P gz)))
noncomputable def K89_prlrllrllr (cal:Cal) (k:Nat) (m1:Nat):KR:=(cutK (Lv.b (Lv.a (Lv.a (Lv.b (Lv.a (Lv.a (Lv.b (Lv.a (Lv.b (A 89)))))))))).c (az P cal (ax P cal m1) none 89 (cR (cR (cL (cL (cR (cL (cL (cR (cL (cR sK)))))))))) (Lv.b (Lv.b (Lv.a (Lv.a (Lv.b (Lv.a (Lv.a (Lv.b (Lv.a (Lv.b (A 89))))))))))) (yX cal k m1) (zk cal k m1) (aw P gz)))
noncomputable def K89_prlrllrllrrl (cal:Cal) (k:Nat) (m1:Nat):KR:=(cutK (Lv.a (Lv.b (Lv.b (Lv.a (Lv.a (Lv.b (Lv.a (Lv.a (Lv.b (Lv.a (Lv.b (A 89)))))))))))).c (az P cal (ax P cal m1) none 89 (cR (cL (cR (cR (cL (cL (cR (cL (cL (cR (cL (cR sK)))))))))))) (Lv.b (Lv.a (Lv.b (Lv.b (Lv.a (Lv.a (Lv.b (Lv.a (Lv.a (Lv.b (Lv.a (Lv.b (A 89))))))))))))) (yX cal k m1) (zk cal k m1) (aw P gz)))
noncomputable def K89_prr (cal:Cal) (k:Nat):KR:=(cutK (Lv.b (Lv.b (A 89))).c (az P cal (ax P cal k) none 89 (cR (cR (cR sK))) (Lv.b (Lv.b (Lv.b (A 89)))) (aw P gz) X0 (aw P gz)))
noncomputable def E89_1 (cal:Cal) (k m1:Nat):KR:=az P cal (ax P cal m1) none 89 (cL (cL (cR (cL (cR sK))))) (Lv.a (Lv.a (Lv.b (Lv.a (Lv.b (A 89)))))) (MK cal k m1) (uk cal k) (aw P gz)
noncomputable def R89_1 (cal:Cal) (k m1:Nat):V4:=fun u1 u2 u3 u7 H n=>ax P cal m1 (Lv.a (Lv.b (Lv.a (Lv.b (A 89))))) none 89 (cL (cR (cL (cR sK)))) (K89_pr cal k) (uk cal k) (aw P gz) (Tr.set (Tr.set (Tr.set (Tr.set Tr.nil 7 (some u7)) 3 (some u3)) 2 (some u2)) 1 (some u1)) H n []
noncomputable def B89_1 (cal:Cal) (k m1:Nat) (b1:V4) (u1 u2 u3 u7:Value) (H:Hp) (n:Nat):Res:=
aq (ay P 26 u3 1) fun v_7=>
aq (aX v_7) fun a_9=>aq (ak P H 23 a_9) fun v_8=>
aq (lenV P 23 v_8) fun v_a=>
binK P .lss 3 (.tmp 9) (.tmp 12) u7 v_a fun v_b=>
ifK v_b (
aq (ay P 26 u3 1) fun v_c=>
aq (aX v_c) fun a_e=>aq (ak P H 23 a_e) fun v_d=>
aq (aW P 23 v_d u7) fun v_g=>
aq (aX v_g) fun a_i=>aq (ak P H 104 a_i) fun v_h=>
dZ P 104 H n fun v_j H_k n_l=>
aq (bz P 104 v_j v_h H_k) fun H_n=>
aq (ay P 104 v_j 0) fun v_o=>
aq (aX v_o) fun a_q=>aq (ak P H_n 3 a_q) fun v_p=>
binK P .eql 3 (.tmp 22) (.tmp 23) v_p u1 fun v_s=>
aV v_s true (fun k_u=>
aq (ay P 104 v_j 1) fun v_y=>
k_u v_y H_n n_l) H_n n_l fun v_v H_w n_x=>
aV v_s true (fun k_z=>
aq (aX v_v) fun a_14=>aq (ak P H_w 3 a_14) fun v_13=>
k_z v_13 H_w n_x) H_w n_x fun v_10 H_11 n_12=>
aV v_s true (fun k_15=>
k_15 u2 H_11 n_12) H_11 n_12 fun v_16 H_17 n_18=>
aV v_s true (fun k_1a=>
binK P .eql 3 (.tmp 27) (.tmp 28) v_10 v_16 fun v_1e=>
k_1a v_1e H_17 n_18) H_17 n_18 fun v_1b H_1c n_1d=>
aq (dq v_s v_1b (.bool false)) fun v_1f=>
aV v_1f false (fun k_1h=>
aq (ay P 104 v_j 0) fun v_1l=>
k_1h v_1l H_1c n_1d) H_1c n_1d fun v_1i H_1j n_1k=>
aV v_1f false (fun k_1m=>
aq (aX v_1i) fun a_1r=>aq (ak P H_1j 3 a_1r) fun v_1q=>
k_1m v_1q H_1j n_1k) H_1j n_1k fun v_1n H_1o n_1p=>
aV v_1f false (fun k_1s=>
k_1s u2 H_1o n_1p) H_1o n_1p fun v_1t H_1u n_1v=>
aV v_1f false (fun k_1x=>
binK P .eql 3 (.tmp 33) (.tmp 34) v_1n v_1t fun v_21=>
k_1x v_21 H_1u n_1v) H_1u n_1v fun v_1y H_1z n_20=>
aV v_1f false (fun k_22=>
k_22 v_1y H_1z n_20) H_1z n_20 fun v_23 H_24 n_25=>
aV v_23 true (fun k_27=>
aq (ay P 104 v_j 1) fun v_2b=>
k_27 v_2b H_24 n_25) H_24 n_25 fun v_28 H_29 n_2a=>
aV v_23 true (fun k_2c=>
aq (aX v_28) fun a_2h=>aq (ak P H_29 3 a_2h) fun v_2g=>
k_2c v_2g H_29 n_2a) H_29 n_2a fun v_2d H_2e n_2f=>
aV v_23 true (fun k_2i=>
k_2i u1 H_2e n_2f) H_2e n_2f fun v_2j H_2k n_2l=>
aV v_23 true (fun k_2n=>
binK P .eql 3 (.tmp 38) (.tmp 39) v_2d v_2j fun v_2r=>
k_2n v_2r H_2k n_2l) H_2k n_2l fun v_2o H_2p n_2q=>
aV v_1f false (fun k_2s=>
aq (dq v_23 v_2o (.bool false)) fun v_2w=>
k_2s v_2w H_2p n_2q) H_2p n_2q fun v_2t H_2u n_2v=>
aq (dq v_1f (.bool true) v_2t) fun v_2x=>
ifK v_2x (
some ((.bool true),H_2u,n_2v)) (
binK P .add 3 (.tmp 14) (.const (.int .i64 1)) u7 (.int .i64 1) fun v_30=>
b1 u1 u2 u3 v_30 H_2u n_2v)) (
some ((.bool false),H,n))
noncomputable def Xz (cal:Cal) (k m1:Nat) (b1:V4) (u1 u2 u3 u7:Value) (H:Hp) (n:Nat):Res:=B89_1 cal k m1 b1 u1 u2 u3 u7 H n
noncomputable def S89_1 (cal:Cal) (k:Nat):Nat→V4:=fun m=>Nat.rec (motive:=fun _=>V4) (Xz cal k 0 (fun _ _ _ _ _ _=>none)) (fun m ih=>Xz cal k (m+1) ih) m
theorem h89_1 (cal:Cal) (k m1:Nat) (u1 u2 u3 u7:Value) (H:Hp) (n:Nat):labK (E89_1 cal k m1) (Tr.set (Tr.set (Tr.set (Tr.set Tr.nil 7 (some u7)) 3 (some u3)) 2 (some u2)) 1 (some u1)) H n []=Xz cal k m1 (R89_1 cal k m1) u1 u2 u3 u7 H n:=by
 refine Eq.trans (b:=B89_1 cal k m1 (R89_1 cal k m1) u1 u2 u3 u7 H n) (by kernel_rfl) ?_
 rw[Xz]
theorem q89_1 (cal:Cal) (k:Nat):∀(m:Nat) (u1 u2 u3 u7:Value) (H:Hp) (n:Nat),labK (E89_1 cal k m) (Tr.set (Tr.set (Tr.set (Tr.set Tr.nil 7 (some u7)) 3 (some u3)) 2 (some u2)) 1 (some u1)) H n []=S89_1 cal k m u1 u2 u3 u7 H n
 | 0,u1,u2,u3,u7,H,n=>by
  rw[h89_1]
  have e:R89_1 cal k 0=fun _ _ _ _ _ _=>none:=by funext u1 u2 u3 u7 H n; kernel_rfl
  rw[e]; rfl
 | m+1,u1,u2,u3,u7,H,n=>by
  rw[h89_1]
  have e:R89_1 cal k (m+1)=S89_1 cal k m:=by
   funext u1 u2 u3 u7 H n
   have e:R89_1 cal k (m+1) u1 u2 u3 u7 H n=labK (E89_1 cal k m) (Tr.set (Tr.set (Tr.set (Tr.set Tr.nil 7 (some u7)) 3 (some u3)) 2 (some u2)) 1 (some u1)) H n []:=by kernel_rfl
   rw[e]; exact q89_1 ..
  rw[e]; rfl
noncomputable def B89_0 (cal:Cal) (k:Nat) (j1:V4) (v0 v1 v2:Value) (H:Hp) (n:Nat):Res:=
boxK 26 v0 H n fun v_1 H_2 n_3=>
j1 v1 v2 v_1 (.int .i64 0) H_2 n_3
noncomputable def Xk (cal:Cal) (k:Nat) (v0 v1 v2:Value) (H:Hp) (n:Nat):Res:=B89_0 cal k (S89_1 cal k k) v0 v1 v2 H n
theorem h89_0 (cal:Cal) (k:Nat) (v0 v1 v2:Value) (H:Hp) (n:Nat):aK P cal A (k+1) 89 [v0,v1,v2] H n=Xk cal k v0 v1 v2 H n:=by
 have h:aK P cal A (k+1) 89 [v0,v1,v2] H n=B89_0 cal k (fun u1 u2 u3 u7 H n=>labK (E89_1 cal k k) (Tr.set (Tr.set (Tr.set (Tr.set Tr.nil 7 (some u7)) 3 (some u3)) 2 (some u2)) 1 (some u1)) H n []) v0 v1 v2 H n:=by
  rw[bk (fn:=Go.Proofs.Try.f89) (c:=sK) (rs:=gz) (by kernel_rfl) (by kernel_rfl) (by kernel_rfl) (by kernel_rfl)]
  kernel_rfl
 rw[h,Xk]
 have e1:(fun u1 u2 u3 u7 H n=>labK (E89_1 cal k k) (Tr.set (Tr.set (Tr.set (Tr.set Tr.nil 7 (some u7)) 3 (some u3)) 2 (some u2)) 1 (some u1)) H n [])=(S89_1 cal k k):=by funext u1 u2 u3 u7 H n; exact q89_1 ..
 rw[e1]
noncomputable def tj:Code:=cw 91
noncomputable def gk:List ResultVar:=dj 91
noncomputable def K91_p (cal:Cal) (k:Nat):KR:=(cutK (A 91).c (az P cal (ax P cal k) none 91 (cR tj) (Lv.b (A 91)) (aw P gk) X0 (aw P gk)))
noncomputable def K91_pr (cal:Cal) (k:Nat):KR:=(cutK (Lv.b (A 91)).c (az P cal (ax P cal k) none 91 (cR (cR tj)) (Lv.b (Lv.b (A 91))) (aw P gk) X0 (aw P gk)))
noncomputable def K91_prl (cal:Cal) (k:Nat):KR:=(cutK (Lv.a (Lv.b (A 91))).c (az P cal (ax P cal k) none 91 (cR (cL (cR tj))) (Lv.b (Lv.a (Lv.b (A 91)))) (K91_pr cal k) X0 (aw P gk)))
noncomputable def uJ (cal:Cal) (k:Nat):XR:=(upX 0 (K91_pr cal k) X0)
noncomputable def GQ (cal:Cal) (k:Nat) (m1:Nat):KR:=(fun T H n D=>ax P cal m1 (Lv.a (Lv.b (Lv.a (Lv.b (A 91))))) none 91 (cL (cR (cL (cR tj)))) (K91_pr cal k) (uJ cal k) (aw P gk) (cutT (Lv.a (Lv.b (Lv.a (Lv.b (A 91))))).c T) H n D)
noncomputable def K91_prlrll (cal:Cal) (k:Nat) (m1:Nat):KR:=(cutK (Lv.a (Lv.a (Lv.b (Lv.a (Lv.b (A 91)))))).c (az P cal (ax P cal m1) none 91 (cR (cL (cL (cR (cL (cR tj)))))) (Lv.b (Lv.a (Lv.a (Lv.b (Lv.a (Lv.b (A 91))))))) (GQ cal k m1) (uJ cal k) (aw P gk)))
noncomputable def K91_prlrllr (cal:Cal) (k:Nat) (m1:Nat):KR:=(cutK (Lv.b (Lv.a (Lv.a (Lv.b (Lv.a (Lv.b (A 91))))))).c (az P cal (ax P cal m1) none 91 (cR (cR (cL (cL (cR (cL (cR tj))))))) (Lv.b (Lv.b (Lv.a (Lv.a (Lv.b (Lv.a (Lv.b (A 91)))))))) (GQ cal k m1) (uJ cal k) (aw P gk)))
noncomputable def wx (cal:Cal) (k:Nat) (m1:Nat):KR:=(cutK (Lv.b (Lv.b (Lv.a (Lv.a (Lv.b (Lv.a (Lv.b (A 91)))))))).c (az P cal (ax P cal m1) none 91 (cR (cR (cR (cL (cL (cR (cL (cR tj)))))))) (Lv.b (Lv.b (Lv.b (Lv.a (Lv.a (Lv.b (Lv.a (Lv.b (A 91))))))))) (GQ cal k m1) (uJ cal k) (aw P gk)))
noncomputable def xY (cal:Cal) (k:Nat) (m1:Nat):XR:=(upX 1 (wx cal k m1) (uJ cal k))
noncomputable def K91_prlrllrrll (cal:Cal) (k:Nat) (m1:Nat):KR:=(cutK (Lv.a (Lv.a (Lv.b (Lv.b (Lv.a (Lv.a (Lv.b (Lv.a (Lv.b (A 91)))))))))).c (az P cal (ax P cal m1) none 91 (cR (cL (cL (cR (cR (cL (cL (cR (cL (cR tj)))))))))) (Lv.b (Lv.a (Lv.a (Lv.b (Lv.b (Lv.a (Lv.a (Lv.b (Lv.a (Lv.b (A 91))))))))))) (wx cal k m1) (xY cal k m1) (aw P gk)))
noncomputable def K91_prlrllrrllr (cal:Cal) (k:Nat) (m1:Nat):KR:=(cutK (Lv.b (Lv.a (Lv.a (Lv.b (Lv.b (Lv.a (Lv.a (Lv.b (Lv.a (Lv.b (A 91))))))))))).c (az P cal (ax P cal m1) none 91 (cR (cR (cL (cL (cR (cR (cL (cL (cR (cL (cR tj))))))))))) (Lv.b (Lv.b (Lv.a (Lv.a (Lv.b (Lv.b (Lv.a (Lv.a (Lv.b (Lv.a (Lv.b (A 91)))))))))))) (wx cal k m1) (xY cal k m1) (aw P gk)))
noncomputable def K91_prlrllrrllrrl (cal:Cal) (k:Nat) (m1:Nat):KR:=(cutK (Lv.a (Lv.b (Lv.b (Lv.a (Lv.a (Lv.b (Lv.b (Lv.a (Lv.a (Lv.b (Lv.a (Lv.b (A 91))))))))))))).c (az P cal (ax P cal m1) none 91 (cR (cL (cR (cR (cL (cL (cR (cR (cL (cL (cR (cL (cR tj))))))))))))) (Lv.b (Lv.a (Lv.b (Lv.b (Lv.a (Lv.a (Lv.b (Lv.b (Lv.a (Lv.a (Lv.b (Lv.a (Lv.b (A 91)))))))))))))) (wx cal k m1) (xY cal k m1) (aw P gk)))
noncomputable def K91_prr (cal:Cal) (k:Nat):KR:=(cutK (Lv.b (Lv.b (A 91))).c (az P cal (ax P cal k) none 91 (cR (cR (cR tj))) (Lv.b (Lv.b (Lv.b (A 91)))) (aw P gk) X0 (aw P gk)))
noncomputable def E91_1 (cal:Cal) (k m1:Nat):KR:=az P cal (ax P cal m1) none 91 (cL (cL (cR (cL (cR tj))))) (Lv.a (Lv.a (Lv.b (Lv.a (Lv.b (A 91)))))) (GQ cal k m1) (uJ cal k) (aw P gk)
noncomputable def R91_1 (cal:Cal) (k m1:Nat):V4:=fun u1 u7 u8 u9 H n=>ax P cal m1 (Lv.a (Lv.b (Lv.a (Lv.b (A 91))))) none 91 (cL (cR (cL (cR tj)))) (K91_pr cal k) (uJ cal k) (aw P gk) (Tr.set (Tr.set (Tr.set (Tr.set Tr.nil 9 (some u9)) 8 (some u8)) 7 (some u7)) 1 (some u1)) H n []
noncomputable def B91_1 (cal:Cal) (k m1:Nat) (b1:V4) (u1 u7 u8 u9:Value) (H:Hp) (n:Nat):Res:=
binK P .lss 3 (.tmp 9) (.tmp 8) u9 u8 fun v_5=>
ifK v_5 (
aq (aW P 31 u7 u9) fun v_6=>
aq (aX v_6) fun a_8=>aq (ak P H 90 a_8) fun v_7=>
dZ P 90 H n fun v_9 H_a n_b=>
aq (bz P 90 v_9 v_7 H_a) fun H_d=>
aq (aX v_9) fun a_g=>aq (ak P H_d 90 a_g) fun v_f=>
eK P cal u1 [v_f] H_d n_b fun v_h H_i n_j=>
aq (dJ P v_h (Op.unary UnOp.not v_h)) fun v_k=>
ifK v_k (
some ((.bool false),H_i,n_j)) (
binK P .add 3 (.tmp 9) (.const (.int .i64 1)) u9 (.int .i64 1) fun v_m=>
b1 u1 u7 u8 v_m H_i n_j)) (
some ((.bool true),H,n))
noncomputable def XJ (cal:Cal) (k m1:Nat) (b1:V4) (u1 u7 u8 u9:Value) (H:Hp) (n:Nat):Res:=B91_1 cal k m1 b1 u1 u7 u8 u9 H n
noncomputable def S91_1 (cal:Cal) (k:Nat):Nat→V4:=fun m=>Nat.rec (motive:=fun _=>V4) (XJ cal k 0 (fun _ _ _ _ _ _=>none)) (fun m ih=>XJ cal k (m+1) ih) m
theorem h91_1 (cal:Cal) (k m1:Nat) (u1 u7 u8 u9:Value) (H:Hp) (n:Nat):labK (E91_1 cal k m1) (Tr.set (Tr.set (Tr.set (Tr.set Tr.nil 9 (some u9)) 8 (some u8)) 7 (some u7)) 1 (some u1)) H n []=XJ cal k m1 (R91_1 cal k m1) u1 u7 u8 u9 H n:=by
 refine Eq.trans (b:=B91_1 cal k m1 (R91_1 cal k m1) u1 u7 u8 u9 H n) (by kernel_rfl) ?_
 rw[XJ]
theorem q91_1 (cal:Cal) (k:Nat):∀(m:Nat) (u1 u7 u8 u9:Value) (H:Hp) (n:Nat),labK (E91_1 cal k m) (Tr.set (Tr.set (Tr.set (Tr.set Tr.nil 9 (some u9)) 8 (some u8)) 7 (some u7)) 1 (some u1)) H n []=S91_1 cal k m u1 u7 u8 u9 H n
 | 0,u1,u7,u8,u9,H,n=>by
  rw[h91_1]
  have e:R91_1 cal k 0=fun _ _ _ _ _ _=>none:=by funext u1 u7 u8 u9 H n; kernel_rfl
  rw[e]; rfl
 | m+1,u1,u7,u8,u9,H,n=>by
  rw[h91_1]
  have e:R91_1 cal k (m+1)=S91_1 cal k m:=by
   funext u1 u7 u8 u9 H n
   have e:R91_1 cal k (m+1) u1 u7 u8 u9 H n=labK (E91_1 cal k m) (Tr.set (Tr.set (Tr.set (Tr.set Tr.nil 9 (some u9)) 8 (some u8)) 7 (some u7)) 1 (some u1)) H n []:=by kernel_rfl
   rw[e]; exact q91_1 ..
  rw[e]; rfl
noncomputable def B91_0 (cal:Cal) (k:Nat) (j1:V4) (v0 v1:Value) (H:Hp) (n:Nat):Res:=
aq (lenV P 31 v0) fun v_3=>
j1 v1 v0 v_3 (.int .i64 0) H n
noncomputable def XQ (cal:Cal) (k:Nat) (v0 v1:Value) (H:Hp) (n:Nat):Res:=B91_0 cal k (S91_1 cal k k) v0 v1 H n
theorem h91_0 (cal:Cal) (k:Nat) (v0 v1:Value) (H:Hp) (n:Nat):aK P cal A (k+1) 91 [v0,v1] H n=XQ cal k v0 v1 H n:=by
 have h:aK P cal A (k+1) 91 [v0,v1] H n=B91_0 cal k (fun u1 u7 u8 u9 H n=>labK (E91_1 cal k k) (Tr.set (Tr.set (Tr.set (Tr.set Tr.nil 9 (some u9)) 8 (some u8)) 7 (some u7)) 1 (some u1)) H n []) v0 v1 H n:=by
  rw[bk (fn:=Go.Proofs.Try.f91) (c:=tj) (rs:=gk) (by kernel_rfl) (by kernel_rfl) (by kernel_rfl) (by kernel_rfl)]
  kernel_rfl
 rw[h,XQ]
 have e1:(fun u1 u7 u8 u9 H n=>labK (E91_1 cal k k) (Tr.set (Tr.set (Tr.set (Tr.set Tr.nil 9 (some u9)) 8 (some u8)) 7 (some u7)) 1 (some u1)) H n [])=(S91_1 cal k k):=by funext u1 u7 u8 u9 H n; exact q91_1 ..
 rw[e1]
noncomputable def code92:Code:=cw 92
noncomputable def By:List ResultVar:=dj 92
noncomputable def K92_p (cal:Cal) (k:Nat):KR:=(cutK (A 92).c (az P cal (ax P cal k) none 92 (cR code92) (Lv.b (A 92)) (aw P By) X0 (aw P By)))
noncomputable def K92_pr (cal:Cal) (k:Nat):KR:=(cutK (Lv.b (A 92)).c (az P cal (ax P cal k) none 92 (cR (cR code92)) (Lv.b (Lv.b (A 92))) (aw P By) X0 (aw P By)))
noncomputable def B92_0 (cal:Cal) (k:Nat) (v0:Value) (H:Hp) (n:Nat):Res:=
boxK 90 v0 H n fun v_1 H_2 n_3=>
aq (ay P 90 v_1 0) fun v_5=>
aq (aX v_5) fun a_7=>aq (ak P H_2 3 a_7) fun v_6=>
binK P .geq 3 (.tmp 4) (.const (.int .i64 0)) v_6 (.int .i64 0) fun v_8=>
aV v_8 true (fun k_a=>
aq (ay P 90 v_1 0) fun v_e=>
k_a v_e H_2 n_3) H_2 n_3 fun v_b H_c n_d=>
aV v_8 true (fun k_f=>
aq (aX v_b) fun a_k=>aq (ak P H_c 3 a_k) fun v_j=>
k_f v_j H_c n_d) H_c n_d fun v_g H_h n_i=>
aV v_8 true (fun k_l=>
aq (ay P 90 v_1 1) fun v_p=>
k_l v_p H_h n_i) H_h n_i fun v_m H_n n_o=>
aV v_8 true (fun k_q=>
aq (aX v_m) fun a_v=>aq (ak P H_n 3 a_v) fun v_u=>
k_q v_u H_n n_o) H_n n_o fun v_r H_s n_t=>
aV v_8 true (fun k_w=>
binK P .leq 3 (.tmp 8) (.tmp 10) v_g v_r fun v_10=>
k_w v_10 H_s n_t) H_s n_t fun v_x H_y n_z=>
aq (dq v_8 v_x (.bool false)) fun v_11=>
aV v_11 true (fun k_13=>
aq (ay P 90 v_1 1) fun v_17=>
k_13 v_17 H_y n_z) H_y n_z fun v_14 H_15 n_16=>
aV v_11 true (fun k_18=>
aq (aX v_14) fun a_1d=>aq (ak P H_15 3 a_1d) fun v_1c=>
k_18 v_1c H_15 n_16) H_15 n_16 fun v_19 H_1a n_1b=>
aV v_11 true (fun k_1e=>
binK P .leq 3 (.tmp 15) (.const (.int .i64 1000)) v_19 (.int .i64 1000) fun v_1i=>
k_1e v_1i H_1a n_1b) H_1a n_1b fun v_1f H_1g n_1h=>
aq (dq v_11 v_1f (.bool false)) fun v_1j=>
some (v_1j,H_1g,n_1h)
noncomputable def XV (cal:Cal) (k:Nat) (v0:Value) (H:Hp) (n:Nat):Res:=B92_0 cal k v0 H n
theorem h92_0 (cal:Cal) (k:Nat) (v0:Value) (H:Hp) (n:Nat):aK P cal A (k+1) 92 [v0] H n=XV cal k v0 H n:=by
 have h:aK P cal A (k+1) 92 [v0] H n=B92_0 cal k v0 H n:=by
  rw[bk (fn:=Go.Proofs.Try.f92) (c:=code92) (rs:=By) (by kernel_rfl) (by kernel_rfl) (by kernel_rfl) (by kernel_rfl)]
  kernel_rfl
 rw[h,XV]
noncomputable def tq:Code:=cw 93
noncomputable def gJ:List ResultVar:=dj 93
noncomputable def K93_p (cal:Cal) (k:Nat):KR:=(cutK (A 93).c (az P cal (ax P cal k) none 93 (cR tq) (Lv.b (A 93)) (aw P gJ) X0 (aw P gJ)))
noncomputable def K93_pr (cal:Cal) (k:Nat):KR:=(cutK (Lv.b (A 93)).c (az P cal (ax P cal k) none 93 (cR (cR tq)) (Lv.b (Lv.b (A 93))) (aw P gJ) X0 (aw P gJ)))
noncomputable def K93_prl (cal:Cal) (k:Nat):KR:=(cutK (Lv.a (Lv.b (A 93))).c (az P cal (ax P cal k) none 93 (cR (cL (cR tq))) (Lv.b (Lv.a (Lv.b (A 93)))) (K93_pr cal k) X0 (aw P gJ)))
noncomputable def uQ (cal:Cal) (k:Nat):XR:=(upX 0 (K93_pr cal k) X0)
noncomputable def GV (cal:Cal) (k:Nat) (m1:Nat):KR:=(fun T H n D=>ax P cal m1 (Lv.a (Lv.b (Lv.a (Lv.b (A 93))))) none 93 (cL (cR (cL (cR tq)))) (K93_pr cal k) (uQ cal k) (aw P gJ) (cutT (Lv.a (Lv.b (Lv.a (Lv.b (A 93))))).c T) H n D)
noncomputable def K93_prlrll (cal:Cal) (k:Nat) (m1:Nat):KR:=(cutK (Lv.a (Lv.a (Lv.b (Lv.a (Lv.b (A 93)))))).c (az P cal (ax P cal m1) none 93 (cR (cL (cL (cR (cL (cR tq)))))) (Lv.b (Lv.a (Lv.a (Lv.b (Lv.a (Lv.b (A 93))))))) (GV cal k m1) (uQ cal k) (aw P gJ)))
noncomputable def K93_prlrllr (cal:Cal) (k:Nat) (m1:Nat):KR:=(cutK (Lv.b (Lv.a (Lv.a (Lv.b (Lv.a (Lv.b (A 93))))))).c (az P cal (ax P cal m1) none 93 (cR (cR (cL (cL (cR (cL (cR tq))))))) (Lv.b (Lv.b (Lv.a (Lv.a (Lv.b (Lv.a (Lv.b (A 93)))))))) (GV cal k m1) (uQ cal k) (aw P gJ)))
noncomputable def wy (cal:Cal) (k:Nat) (m1:Nat):KR:=(cutK (Lv.b (Lv.b (Lv.a (Lv.a (Lv.b (Lv.a (Lv.b (A 93)))))))).c (az P cal (ax P cal m1) none 93 (cR (cR (cR (cL (cL (cR (cL (cR tq)))))))) (Lv.b (Lv.b (Lv.b (Lv.a (Lv.a (Lv.b (Lv.a (Lv.b (A 93))))))))) (GV cal k m1) (uQ cal k) (aw P gJ)))
noncomputable def xZ (cal:Cal) (k:Nat) (m1:Nat):XR:=(upX 1 (wy cal k m1) (uQ cal k))
noncomputable def K93_prlrllrrll (cal:Cal) (k:Nat) (m1:Nat):KR:=(cutK (Lv.a (Lv.a (Lv.b (Lv.b (Lv.a (Lv.a (Lv.b (Lv.a (Lv.b (A 93)))))))))).c (az P cal (ax P cal m1) none 93 (cR (cL (cL (cR (cR (cL (cL (cR (cL (cR tq)))))))))) (Lv.b (Lv.a (Lv.a (Lv.b (Lv.b (Lv.a (Lv.a (Lv.b (Lv.a (Lv.b (A 93))))))))))) (wy cal k m1) (xZ cal k m1) (aw P gJ)))
noncomputable def K93_prlrllrrllr (cal:Cal) (k:Nat) (m1:Nat):KR:=(cutK (Lv.b (Lv.a (Lv.a (Lv.b (Lv.b (Lv.a (Lv.a (Lv.b (Lv.a (Lv.b (A 93))))))))))).c (az P cal (ax P cal m1) none 93 (cR (cR (cL (cL (cR (cR (cL (cL (cR (cL (cR tq))))))))))) (Lv.b (Lv.b (Lv.a (Lv.a (Lv.b (Lv.b (Lv.a (Lv.a (Lv.b (Lv.a (Lv.b (A 93)))))))))))) (wy cal k m1) (xZ cal k m1) (aw P gJ)))
noncomputable def K93_prlrllrrllrrl (cal:Cal) (k:Nat) (m1:Nat):KR:=(cutK (Lv.a (Lv.b (Lv.b (Lv.a (Lv.a (Lv.b (Lv.b (Lv.a (Lv.a (Lv.b (Lv.a (Lv.b (A 93))))))))))))).c (az P cal (ax P cal m1) none 93 (cR (cL (cR (cR (cL (cL (cR (cR (cL (cL (cR (cL (cR tq))))))))))))) (Lv.b (Lv.a (Lv.b (Lv.b (Lv.a (Lv.a (Lv.b (Lv.b (Lv.a (Lv.a (Lv.b (Lv.a (Lv.b (A 93)))))))))))))) (wy cal k m1) (xZ cal k m1) (aw P gJ)))
noncomputable def K93_prr (cal:Cal) (k:Nat):KR:=(cutK (Lv.b (Lv.b (A 93))).c (az P cal (ax P cal k) none 93 (cR (cR (cR tq))) (Lv.b (Lv.b (Lv.b (A 93)))) (aw P gJ) X0 (aw P gJ)))
noncomputable def E93_1 (cal:Cal) (k m1:Nat):KR:=az P cal (ax P cal m1) none 93 (cL (cL (cR (cL (cR tq))))) (Lv.a (Lv.a (Lv.b (Lv.a (Lv.b (A 93)))))) (GV cal k m1) (uQ cal k) (aw P gJ)
noncomputable def R93_1 (cal:Cal) (k m1:Nat):V4:=fun u1 u7 u8 u9 H n=>ax P cal m1 (Lv.a (Lv.b (Lv.a (Lv.b (A 93))))) none 93 (cL (cR (cL (cR tq)))) (K93_pr cal k) (uQ cal k) (aw P gJ) (Tr.set (Tr.set (Tr.set (Tr.set Tr.nil 9 (some u9)) 8 (some u8)) 7 (some u7)) 1 (some u1)) H n []
noncomputable def B93_1 (cal:Cal) (k m1:Nat) (b1:V4) (u1 u7 u8 u9:Value) (H:Hp) (n:Nat):Res:=
binK P .lss 3 (.tmp 9) (.tmp 8) u9 u8 fun v_5=>
ifK v_5 (
aq (aW P 32 u7 u9) fun v_6=>
aq (aX v_6) fun a_8=>aq (ak P H 88 a_8) fun v_7=>
dZ P 88 H n fun v_9 H_a n_b=>
aq (bz P 88 v_9 v_7 H_a) fun H_d=>
aq (aX v_9) fun a_g=>aq (ak P H_d 88 a_g) fun v_f=>
eK P cal u1 [v_f] H_d n_b fun v_h H_i n_j=>
aq (dJ P v_h (Op.unary UnOp.not v_h)) fun v_k=>
ifK v_k (
some ((.bool false),H_i,n_j)) (
binK P .add 3 (.tmp 9) (.const (.int .i64 1)) u9 (.int .i64 1) fun v_m=>
b1 u1 u7 u8 v_m H_i n_j)) (
some ((.bool true),H,n))
noncomputable def XW (cal:Cal) (k m1:Nat) (b1:V4) (u1 u7 u8 u9:Value) (H:Hp) (n:Nat):Res:=B93_1 cal k m1 b1 u1 u7 u8 u9 H n
noncomputable def S93_1 (cal:Cal) (k:Nat):Nat→V4:=fun m=>Nat.rec (motive:=fun _=>V4) (XW cal k 0 (fun _ _ _ _ _ _=>none)) (fun m ih=>XW cal k (m+1) ih) m
theorem h93_1 (cal:Cal) (k m1:Nat) (u1 u7 u8 u9:Value) (H:Hp) (n:Nat):labK (E93_1 cal k m1) (Tr.set (Tr.set (Tr.set (Tr.set Tr.nil 9 (some u9)) 8 (some u8)) 7 (some u7)) 1 (some u1)) H n []=XW cal k m1 (R93_1 cal k m1) u1 u7 u8 u9 H n:=by
 refine Eq.trans (b:=B93_1 cal k m1 (R93_1 cal k m1) u1 u7 u8 u9 H n) (by kernel_rfl) ?_
 rw[XW]
theorem q93_1 (cal:Cal) (k:Nat):∀(m:Nat) (u1 u7 u8 u9:Value) (H:Hp) (n:Nat),labK (E93_1 cal k m) (Tr.set (Tr.set (Tr.set (Tr.set Tr.nil 9 (some u9)) 8 (some u8)) 7 (some u7)) 1 (some u1)) H n []=S93_1 cal k m u1 u7 u8 u9 H n
 | 0,u1,u7,u8,u9,H,n=>by
  rw[h93_1]
  have e:R93_1 cal k 0=fun _ _ _ _ _ _=>none:=by funext u1 u7 u8 u9 H n; kernel_rfl
  rw[e]; rfl
 | m+1,u1,u7,u8,u9,H,n=>by
  rw[h93_1]
  have e:R93_1 cal k (m+1)=S93_1 cal k m:=by
   funext u1 u7 u8 u9 H n
   have e:R93_1 cal k (m+1) u1 u7 u8 u9 H n=labK (E93_1 cal k m) (Tr.set (Tr.set (Tr.set (Tr.set Tr.nil 9 (some u9)) 8 (some u8)) 7 (some u7)) 1 (some u1)) H n []:=by kernel_rfl
   rw[e]; exact q93_1 ..
  rw[e]; rfl
noncomputable def B93_0 (cal:Cal) (k:Nat) (j1:V4) (v0 v1:Value) (H:Hp) (n:Nat):Res:=
aq (lenV P 32 v0) fun v_3=>
j1 v1 v0 v_3 (.int .i64 0) H n
noncomputable def XX (cal:Cal) (k:Nat) (v0 v1:Value) (H:Hp) (n:Nat):Res:=B93_0 cal k (S93_1 cal k k) v0 v1 H n
theorem h93_0 (cal:Cal) (k:Nat) (v0 v1:Value) (H:Hp) (n:Nat):aK P cal A (k+1) 93 [v0,v1] H n=XX cal k v0 v1 H n:=by
 have h:aK P cal A (k+1) 93 [v0,v1] H n=B93_0 cal k (fun u1 u7 u8 u9 H n=>labK (E93_1 cal k k) (Tr.set (Tr.set (Tr.set (Tr.set Tr.nil 9 (some u9)) 8 (some u8)) 7 (some u7)) 1 (some u1)) H n []) v0 v1 H n:=by
  rw[bk (fn:=Go.Proofs.Try.f93) (c:=tq) (rs:=gJ) (by kernel_rfl) (by kernel_rfl) (by kernel_rfl) (by kernel_rfl)]
  kernel_rfl
 rw[h,XX]
 have e1:(fun u1 u7 u8 u9 H n=>labK (E93_1 cal k k) (Tr.set (Tr.set (Tr.set (Tr.set Tr.nil 9 (some u9)) 8 (some u8)) 7 (some u7)) 1 (some u1)) H n [])=(S93_1 cal k k):=by funext u1 u7 u8 u9 H n; exact q93_1 ..
 rw[e1]
noncomputable def qW:Code:=cw 94
noncomputable def fw:List ResultVar:=dj 94
noncomputable def K94_p (cal:Cal) (k:Nat):KR:=(cutK (A 94).c (az P cal (ax P cal k) none 94 (cR qW) (Lv.b (A 94)) (aw P fw) X0 (aw P fw)))
noncomputable def K94_pr (cal:Cal) (k:Nat):KR:=(cutK (Lv.b (A 94)).c (az P cal (ax P cal k) none 94 (cR (cR qW)) (Lv.b (Lv.b (A 94))) (aw P fw) X0 (aw P fw)))
noncomputable def PX (cal:Cal) (k:Nat):KR:=(cutK (Lv.b (Lv.b (A 94))).c (az P cal (ax P cal k) none 94 (cR (cR (cR qW))) (Lv.b (Lv.b (Lv.b (A 94)))) (aw P fw) X0 (aw P fw)))
noncomputable def K94_prrl (cal:Cal) (k:Nat):KR:=(cutK (Lv.a (Lv.b (Lv.b (A 94)))).c (az P cal (ax P cal k) none 94 (cR (cL (cR (cR qW)))) (Lv.b (Lv.a (Lv.b (Lv.b (A 94))))) (PX cal k) X0 (aw P fw)))
noncomputable def oy (cal:Cal) (k:Nat):XR:=(upX 0 (PX cal k) X0)
noncomputable def xK (cal:Cal) (k:Nat) (m1:Nat):KR:=(fun T H n D=>ax P cal m1 (Lv.a (Lv.b (Lv.a (Lv.b (Lv.b (A 94)))))) none 94 (cL (cR (cL (cR (cR qW))))) (PX cal k) (oy cal k) (aw P fw) (cutT (Lv.a (Lv.b (Lv.a (Lv.b (Lv.b (A 94)))))).c T) H n D)
noncomputable def K94_prrlrll (cal:Cal) (k:Nat) (m1:Nat):KR:=(cutK (Lv.a (Lv.a (Lv.b (Lv.a (Lv.b (Lv.b (A 94))))))).c (az P cal (ax P cal m1) none 94 (cR (cL (cL (cR (cL (cR (cR qW))))))) (Lv.b (Lv.a (Lv.a (Lv.b (Lv.a (Lv.b (Lv.b (A 94)))))))) (xK cal k m1) (oy cal k) (aw P fw)))
noncomputable def K94_prrlrllr (cal:Cal) (k:Nat) (m1:Nat):KR:=(cutK (Lv.b (Lv.a (Lv.a (Lv.b (Lv.a (Lv.b (Lv.b (A 94)))))))).c (az P cal (ax P cal m1) none 94 (cR (cR (cL (cL (cR (cL (cR (cR qW)))))))) (Lv.b (Lv.b (Lv.a (Lv.a (Lv.b (Lv.a (Lv.b (Lv.b (A 94))))))))) (xK cal k m1) (oy cal k) (aw P fw)))
noncomputable def zJ (cal:Cal) (k:Nat) (m1:Nat):KR:=(cutK (Lv.b (Lv.b (Lv.a (Lv.a (Lv.b (Lv.a (Lv.b (Lv.b (A 94))))))))).c (az P cal (ax P cal m1) none 94 (cR (cR (cR (cL (cL (cR (cL (cR (cR qW))))))))) (Lv.b (Lv.b (Lv.b (Lv.a (Lv.a (Lv.b (Lv.a (Lv.b (Lv.b (A 94)))))))))) (xK cal k m1) (oy cal k) (aw P fw)))
noncomputable def K94_pxrrlrllrrl (cal:Cal) (k:Nat) (m1:Nat):XR:=(upX 1 (zJ cal k m1) (oy cal k))
noncomputable def K94_prrlrllrrll (cal:Cal) (k:Nat) (m1:Nat):KR:=(cutK (Lv.a (Lv.a (Lv.b (Lv.b (Lv.a (Lv.a (Lv.b (Lv.a (Lv.b (Lv.b (A 94))))))))))).c (az P cal (ax P cal m1) none 94 (cR (cL (cL (cR (cR (cL (cL (cR (cL (cR (cR qW))))))))))) (Lv.b (Lv.a (Lv.a (Lv.b (Lv.b (Lv.a (Lv.a (Lv.b (Lv.a (Lv.b (Lv.b (A 94)))))))))))) (zJ cal k m1) (K94_pxrrlrllrrl cal k m1) (aw P fw)))
noncomputable def K94_prrlrllrrllr (cal:Cal) (k:Nat) (m1:Nat):KR:=(cutK (Lv.b (Lv.a (Lv.a (Lv.b (Lv.b (Lv.a (Lv.a (Lv.b (Lv.a (Lv.b (Lv.b (A 94)))))))))))).c (az P cal (ax P cal m1) none 94 (cR (cR (cL (cL (cR (cR (cL (cL (cR (cL (cR (cR qW)))))))))))) (Lv.b (Lv.b (Lv.a (Lv.a (Lv.b (Lv.b (Lv.a (Lv.a (Lv.b (Lv.a (Lv.b (Lv.b (A 94))))))))))))) (zJ cal k m1) (K94_pxrrlrllrrl cal k m1) (aw P fw)))
noncomputable def K94_prrr (cal:Cal) (k:Nat):KR:=(cutK (Lv.b (Lv.b (Lv.b (A 94)))).c (az P cal (ax P cal k) none 94 (cR (cR (cR (cR qW)))) (Lv.b (Lv.b (Lv.b (Lv.b (A 94))))) (aw P fw) X0 (aw P fw)))
noncomputable def E94_2 (cal:Cal) (k m1:Nat):KR:=az P cal (ax P cal m1) none 94 (cR (cR (cR (cL (cL (cR (cL (cR (cR qW))))))))) (Lv.b (Lv.b (Lv.b (Lv.a (Lv.a (Lv.b (Lv.a (Lv.b (Lv.b (A 94)))))))))) (xK cal k m1) (oy cal k) (aw P fw)
noncomputable def E94_1 (cal:Cal) (k m1:Nat):KR:=az P cal (ax P cal m1) none 94 (cL (cL (cR (cL (cR (cR qW)))))) (Lv.a (Lv.a (Lv.b (Lv.a (Lv.b (Lv.b (A 94))))))) (xK cal k m1) (oy cal k) (aw P fw)
noncomputable def OW (cal:Cal) (k m1:Nat):V6:=fun u2 u3 u5 u9 u10 u11 H n=>ax P cal m1 (Lv.a (Lv.b (Lv.a (Lv.b (Lv.b (A 94)))))) none 94 (cL (cR (cL (cR (cR qW))))) (PX cal k) (oy cal k) (aw P fw) (Tr.set (Tr.set (Tr.set (Tr.set (Tr.set (Tr.set Tr.nil 11 (some u11)) 10 (some u10)) 9 (some u9)) 5 (some u5)) 3 (some u3)) 2 (some u2)) H n []
noncomputable def B94_2 (cal:Cal) (k m1:Nat) (b1:V6) (u2 u3 u5 u9 u10 u11:Value) (H:Hp) (n:Nat):Res:=
binK P .add 3 (.tmp 11) (.const (.int .i64 1)) u11 (.int .i64 1) fun v_f=>
b1 u2 u3 u5 u9 u10 v_f H n
noncomputable def C94_2 (cal:Cal) (k m1:Nat) (b1:V6) (u2 u3 u5 u9 u10 u11:Value) (H:Hp) (n:Nat):Res:=B94_2 cal k m1 b1 u2 u3 u5 u9 u10 u11 H n
theorem h94_2 (cal:Cal) (k m1:Nat) (u2 u3 u5 u9 u10 u11:Value) (H:Hp) (n:Nat):labK (E94_2 cal k m1) (Tr.set (Tr.set (Tr.set (Tr.set (Tr.set (Tr.set Tr.nil 11 (some u11)) 10 (some u10)) 9 (some u9)) 5 (some u5)) 3 (some u3)) 2 (some u2)) H n []=C94_2 cal k m1 (OW cal k m1) u2 u3 u5 u9 u10 u11 H n:=by
 refine Eq.trans (b:=B94_2 cal k m1 (OW cal k m1) u2 u3 u5 u9 u10 u11 H n) (by kernel_rfl) ?_
 rw[C94_2]
noncomputable def B94_1 (cal:Cal) (k m1:Nat) (j2:V6) (b1:V6) (u2 u3 u5 u9 u10 u11:Value) (H:Hp) (n:Nat):Res:=
binK P .lss 3 (.tmp 11) (.tmp 10) u11 u10 fun v_e=>
ifK v_e (
aq (aW P 32 u9 u11) fun v_h=>
aq (aX v_h) fun a_j=>aq (ak P H 88 a_j) fun v_i=>
dZ P 88 H n fun v_k H_l n_m=>
aq (bz P 88 v_k v_i H_l) fun H_o=>
aq (aX v_k) fun a_q=>aq (ak P H_o 88 a_q) fun v_p=>
aq (aX u3) fun a_s=>aq (ak P H_o 88 a_s) fun v_r=>
binK P .eql 88 (.tmp 15) (.tmp 16) v_p v_r fun v_t=>
aV v_t false (fun k_v=>
aq (aX v_k) fun a_10=>aq (ak P H_o 88 a_10) fun v_z=>
k_v v_z H_o n_m) H_o n_m fun v_w H_x n_y=>
aV v_t false (fun k_11=>
aq (ay P 88 u3 1) fun v_15=>
k_11 v_15 H_x n_y) H_x n_y fun v_12 H_13 n_14=>
aV v_t false (fun k_16=>
aq (aX v_12) fun a_1b=>aq (ak P H_13 3 a_1b) fun v_1a=>
k_16 v_1a H_13 n_14) H_13 n_14 fun v_17 H_18 n_19=>
aV v_t false (fun k_1c=>
aq (ay P 88 u3 0) fun v_1g=>
k_1c v_1g H_18 n_19) H_18 n_19 fun v_1d H_1e n_1f=>
aV v_t false (fun k_1h=>
aq (aX v_1d) fun a_1m=>aq (ak P H_1e 3 a_1m) fun v_1l=>
k_1h v_1l H_1e n_1f) H_1e n_1f fun v_1i H_1j n_1k=>
aV v_t false (fun k_1n=>
aq (iQ P 88 [(0,v_17),(1,v_1i)]) fun v_1r=>
k_1n v_1r H_1j n_1k) H_1j n_1k fun v_1o H_1p n_1q=>
aV v_t false (fun k_1s=>
binK P .eql 88 (.tmp 19) (.tmp 24) v_w v_1o fun v_1w=>
k_1s v_1w H_1p n_1q) H_1p n_1q fun v_1t H_1u n_1v=>
aq (dq v_t (.bool true) v_1t) fun v_1x=>
ifK v_1x (
binK P .add 3 (.tmp 27) (.const (.int .i64 1)) u5 (.int .i64 1) fun v_1z=>
j2 u2 u3 v_1z u9 u10 u11 H_1u n_1v) (
j2 u2 u3 u5 u9 u10 u11 H_1u n_1v)) (
aq (aX u2) fun a_22=>aq (ak P H 35 a_22) fun v_21=>
aq (ay P 88 u3 0) fun v_23=>
aq (aX v_23) fun a_25=>aq (ak P H 3 a_25) fun v_24=>
aY P cal 71 [v_21,v_24] H n fun v_26 H_27 n_28=>
aV v_26 true (fun k_2a=>
aq (aX u2) fun a_2f=>aq (ak P H_27 35 a_2f) fun v_2e=>
k_2a v_2e H_27 n_28) H_27 n_28 fun v_2b H_2c n_2d=>
aV v_26 true (fun k_2g=>
aq (ay P 88 u3 1) fun v_2k=>
k_2g v_2k H_2c n_2d) H_2c n_2d fun v_2h H_2i n_2j=>
aV v_26 true (fun k_2l=>
aq (aX v_2h) fun a_2q=>aq (ak P H_2i 3 a_2q) fun v_2p=>
k_2l v_2p H_2i n_2j) H_2i n_2j fun v_2m H_2n n_2o=>
aV v_26 true (fun k_2r=>
aY P cal 71 [v_2b,v_2m] H_2n n_2o fun v_2v H_2w n_2x=>
k_2r v_2v H_2w n_2x) H_2n n_2o fun v_2s H_2t n_2u=>
aq (dq v_26 v_2s (.bool false)) fun v_2y=>
aV v_2y true (fun k_30=>
aq (ay P 88 u3 0) fun v_34=>
k_30 v_34 H_2t n_2u) H_2t n_2u fun v_31 H_32 n_33=>
aV v_2y true (fun k_35=>
aq (aX v_31) fun a_3a=>aq (ak P H_32 3 a_3a) fun v_39=>
k_35 v_39 H_32 n_33) H_32 n_33 fun v_36 H_37 n_38=>
aV v_2y true (fun k_3b=>
aq (ay P 88 u3 1) fun v_3f=>
k_3b v_3f H_37 n_38) H_37 n_38 fun v_3c H_3d n_3e=>
aV v_2y true (fun k_3g=>
aq (aX v_3c) fun a_3l=>aq (ak P H_3d 3 a_3l) fun v_3k=>
k_3g v_3k H_3d n_3e) H_3d n_3e fun v_3h H_3i n_3j=>
aV v_2y true (fun k_3m=>
binK P .neq 3 (.tmp 42) (.tmp 44) v_36 v_3h fun v_3q=>
k_3m v_3q H_3i n_3j) H_3i n_3j fun v_3n H_3o n_3p=>
aq (dq v_2y v_3n (.bool false)) fun v_3r=>
aV v_3r true (fun k_3t=>
k_3t u5 H_3o n_3p) H_3o n_3p fun v_3u H_3v n_3w=>
aV v_3r true (fun k_3y=>
binK P .eql 3 (.tmp 48) (.const (.int .i64 1)) v_3u (.int .i64 1) fun v_42=>
k_3y v_42 H_3v n_3w) H_3v n_3w fun v_3z H_40 n_41=>
aq (dq v_3r v_3z (.bool false)) fun v_43=>
some (v_43,H_40,n_41))
noncomputable def XY (cal:Cal) (k m1:Nat) (b1:V6) (u2 u3 u5 u9 u10 u11:Value) (H:Hp) (n:Nat):Res:=B94_1 cal k m1 (C94_2 cal k m1 b1) b1 u2 u3 u5 u9 u10 u11 H n
noncomputable def S94_1 (cal:Cal) (k:Nat):Nat→V6:=fun m=>Nat.rec (motive:=fun _=>V6) (XY cal k 0 (fun _ _ _ _ _ _ _ _=>none)) (fun m ih=>XY cal k (m+1) ih) m
theorem h94_1 (cal:Cal) (k m1:Nat) (u2 u3 u5 u9 u10 u11:Value) (H:Hp) (n:Nat):labK (E94_1 cal k m1) (Tr.set (Tr.set (Tr.set (Tr.set (Tr.set (Tr.set Tr.nil 11 (some u11)) 10 (some u10)) 9 (some u9)) 5 (some u5)) 3 (some u3)) 2 (some u2)) H n []=XY cal k m1 (OW cal k m1) u2 u3 u5 u9 u10 u11 H n:=by
 refine Eq.trans (b:=B94_1 cal k m1 (fun u2 u3 u5 u9 u10 u11 H n=>labK (E94_2 cal k m1) (Tr.set (Tr.set (Tr.set (Tr.set (Tr.set (Tr.set Tr.nil 11 (some u11)) 10 (some u10)) 9 (some u9)) 5 (some u5)) 3 (some u3)) 2 (some u2)) H n []) (OW cal k m1) u2 u3 u5 u9 u10 u11 H n) (by kernel_rfl) ?_
 rw[XY]
 have e2:(fun u2 u3 u5 u9 u10 u11 H n=>labK (E94_2 cal k m1) (Tr.set (Tr.set (Tr.set (Tr.set (Tr.set (Tr.set Tr.nil 11 (some u11)) 10 (some u10)) 9 (some u9)) 5 (some u5)) 3 (some u3)) 2 (some u2)) H n [])=(C94_2 cal k m1 (OW cal k m1)):=by funext u2 u3 u5 u9 u10 u11 H n; exact h94_2 ..
 rw[e2]
theorem q94_1 (cal:Cal) (k:Nat):∀(m:Nat) (u2 u3 u5 u9 u10 u11:Value) (H:Hp) (n:Nat),labK (E94_1 cal k m) (Tr.set (Tr.set (Tr.set (Tr.set (Tr.set (Tr.set Tr.nil 11 (some u11)) 10 (some u10)) 9 (some u9)) 5 (some u5)) 3 (some u3)) 2 (some u2)) H n []=S94_1 cal k m u2 u3 u5 u9 u10 u11 H n
 | 0,u2,u3,u5,u9,u10,u11,H,n=>by
  rw[h94_1]
  have e:OW cal k 0=fun _ _ _ _ _ _ _ _=>none:=by funext u2 u3 u5 u9 u10 u11 H n; kernel_rfl
  rw[e]; rfl
 | m+1,u2,u3,u5,u9,u10,u11,H,n=>by
  rw[h94_1]
  have e:OW cal k (m+1)=S94_1 cal k m:=by
   funext u2 u3 u5 u9 u10 u11 H n
   have e:OW cal k (m+1) u2 u3 u5 u9 u10 u11 H n=labK (E94_1 cal k m) (Tr.set (Tr.set (Tr.set (Tr.set (Tr.set (Tr.set Tr.nil 11 (some u11)) 10 (some u10)) 9 (some u9)) 5 (some u5)) 3 (some u3)) 2 (some u2)) H n []:=by kernel_rfl
   rw[e]; exact q94_1 ..
  rw[e]; rfl
noncomputable def B94_0 (cal:Cal) (k:Nat) (j1:V6) (v0 v1:Value) (H:Hp) (n:Nat):Res:=
boxK 35 v0 H n fun v_1 H_2 n_3=>
boxK 88 v1 H_2 n_3 fun v_4 H_5 n_6=>
aq (ay P 35 v_1 1) fun v_9=>
aq (aX v_9) fun a_b=>aq (ak P H_5 32 a_b) fun v_a=>
aq (lenV P 32 v_a) fun v_c=>
j1 v_1 v_4 (.int .i64 0) v_a v_c (.int .i64 0) H_5 n_6
noncomputable def XZ (cal:Cal) (k:Nat) (v0 v1:Value) (H:Hp) (n:Nat):Res:=B94_0 cal k (S94_1 cal k k) v0 v1 H n
theorem h94_0 (cal:Cal) (k:Nat) (v0 v1:Value) (H:Hp) (n:Nat):aK P cal A (k+1) 94 [v0,v1] H n=XZ cal k v0 v1 H n:=by
 have h:aK P cal A (k+1) 94 [v0,v1] H n=B94_0 cal k (fun u2 u3 u5 u9 u10 u11 H n=>labK (E94_1 cal k k) (Tr.set (Tr.set (Tr.set (Tr.set (Tr.set (Tr.set Tr.nil 11 (some u11)) 10 (some u10)) 9 (some u9)) 5 (some u5)) 3 (some u3)) 2 (some u2)) H n []) v0 v1 H n:=by
  rw[bk (fn:=Go.Proofs.Try.f94) (c:=qW) (rs:=fw) (by kernel_rfl) (by kernel_rfl) (by kernel_rfl) (by kernel_rfl)]
  kernel_rfl
 rw[h,XZ]
 have e1:(fun u2 u3 u5 u9 u10 u11 H n=>labK (E94_1 cal k k) (Tr.set (Tr.set (Tr.set (Tr.set (Tr.set (Tr.set Tr.nil 11 (some u11)) 10 (some u10)) 9 (some u9)) 5 (some u5)) 3 (some u3)) 2 (some u2)) H n [])=(S94_1 cal k k):=by funext u2 u3 u5 u9 u10 u11 H n; exact q94_1 ..
 rw[e1]
noncomputable def tv:Code:=cw 95
noncomputable def gQ:List ResultVar:=dj 95
noncomputable def K95_p (cal:Cal) (k:Nat):KR:=(cutK (A 95).c (az P cal (ax P cal k) none 95 (cR tv) (Lv.b (A 95)) (aw P gQ) X0 (aw P gQ)))
noncomputable def K95_pr (cal:Cal) (k:Nat):KR:=(cutK (Lv.b (A 95)).c (az P cal (ax P cal k) none 95 (cR (cR tv)) (Lv.b (Lv.b (A 95))) (aw P gQ) X0 (aw P gQ)))
noncomputable def K95_prl (cal:Cal) (k:Nat):KR:=(cutK (Lv.a (Lv.b (A 95))).c (az P cal (ax P cal k) none 95 (cR (cL (cR tv))) (Lv.b (Lv.a (Lv.b (A 95)))) (K95_pr cal k) X0 (aw P gQ)))
noncomputable def uV (cal:Cal) (k:Nat):XR:=(upX 0 (K95_pr cal k) X0)
noncomputable def GW (cal:Cal) (k:Nat) (m1:Nat):KR:=(fun T H n D=>ax P cal m1 (Lv.a (Lv.b (Lv.a (Lv.b (A 95))))) none 95 (cL (cR (cL (cR tv)))) (K95_pr cal k) (uV cal k) (aw P gQ) (cutT (Lv.a (Lv.b (Lv.a (Lv.b (A 95))))).c T) H n D)
noncomputable def K95_prlrll (cal:Cal) (k:Nat) (m1:Nat):KR:=(cutK (Lv.a (Lv.a (Lv.b (Lv.a (Lv.b (A 95)))))).c (az P cal (ax P cal m1) none 95 (cR (cL (cL (cR (cL (cR tv)))))) (Lv.b (Lv.a (Lv.a (Lv.b (Lv.a (Lv.b (A 95))))))) (GW cal k m1) (uV cal k) (aw P gQ)))
noncomputable def K95_prlrllr (cal:Cal) (k:Nat) (m1:Nat):KR:=(cutK (Lv.b (Lv.a (Lv.a (Lv.b (Lv.a (Lv.b (A 95))))))).c (az P cal (ax P cal m1) none 95 (cR (cR (cL (cL (cR (cL (cR tv))))))) (Lv.b (Lv.b (Lv.a (Lv.a (Lv.b (Lv.a (Lv.b (A 95)))))))) (GW cal k m1) (uV cal k) (aw P gQ)))
noncomputable def wz (cal:Cal) (k:Nat) (m1:Nat):KR:=(cutK (Lv.b (Lv.b (Lv.a (Lv.a (Lv.b (Lv.a (Lv.b (A 95)))))))).c (az P cal (ax P cal m1) none 95 (cR (cR (cR (cL (cL (cR (cL (cR tv)))))))) (Lv.b (Lv.b (Lv.b (Lv.a (Lv.a (Lv.b (Lv.a (Lv.b (A 95))))))))) (GW cal k m1) (uV cal k) (aw P gQ)))
noncomputable def yj (cal:Cal) (k:Nat) (m1:Nat):XR:=(upX 1 (wz cal k m1) (uV cal k))
noncomputable def K95_prlrllrrll (cal:Cal) (k:Nat) (m1:Nat):KR:=(cutK (Lv.a (Lv.a (Lv.b (Lv.b (Lv.a (Lv.a (Lv.b (Lv.a (Lv.b (A 95)))))))))).c (az P cal (ax P cal m1) none 95 (cR (cL (cL (cR (cR (cL (cL (cR (cL (cR tv)))))))))) (Lv.b (Lv.a (Lv.a (Lv.b (Lv.b (Lv.a (Lv.a (Lv.b (Lv.a (Lv.b (A 95))))))))))) (wz cal k m1) (yj cal k m1) (aw P gQ)))
noncomputable def K95_prlrllrrllr (cal:Cal) (k:Nat) (m1:Nat):KR:=(cutK (Lv.b (Lv.a (Lv.a (Lv.b (Lv.b (Lv.a (Lv.a (Lv.b (Lv.a (Lv.b (A 95))))))))))).c (az P cal (ax P cal m1) none 95 (cR (cR (cL (cL (cR (cR (cL (cL (cR (cL (cR tv))))))))))) (Lv.b (Lv.b (Lv.a (Lv.a (Lv.b (Lv.b (Lv.a (Lv.a (Lv.b (Lv.a (Lv.b (A 95)))))))))))) (wz cal k m1) (yj cal k m1) (aw P gQ)))
noncomputable def K95_prlrllrrllrrl (cal:Cal) (k:Nat) (m1:Nat):KR:=(cutK (Lv.a (Lv.b (Lv.b (Lv.a (Lv.a (Lv.b (Lv.b (Lv.a (Lv.a (Lv.b (Lv.a (Lv.b (A 95))))))))))))).c (az P cal (ax P cal m1) none 95 (cR (cL (cR (cR (cL (cL (cR (cR (cL (cL (cR (cL (cR tv))))))))))))) (Lv.b (Lv.a (Lv.b (Lv.b (Lv.a (Lv.a (Lv.b (Lv.b (Lv.a (Lv.a (Lv.b (Lv.a (Lv.b (A 95)))))))))))))) (wz cal k m1) (yj cal k m1) (aw P gQ)))
noncomputable def K95_prr (cal:Cal) (k:Nat):KR:=(cutK (Lv.b (Lv.b (A 95))).c (az P cal (ax P cal k) none 95 (cR (cR (cR tv))) (Lv.b (Lv.b (Lv.b (A 95)))) (aw P gQ) X0 (aw P gQ)))
noncomputable def E95_1 (cal:Cal) (k m1:Nat):KR:=az P cal (ax P cal m1) none 95 (cL (cL (cR (cL (cR tv))))) (Lv.a (Lv.a (Lv.b (Lv.a (Lv.b (A 95)))))) (GW cal k m1) (uV cal k) (aw P gQ)
noncomputable def R95_1 (cal:Cal) (k m1:Nat):V4:=fun u1 u7 u8 u9 H n=>ax P cal m1 (Lv.a (Lv.b (Lv.a (Lv.b (A 95))))) none 95 (cL (cR (cL (cR tv)))) (K95_pr cal k) (uV cal k) (aw P gQ) (Tr.set (Tr.set (Tr.set (Tr.set Tr.nil 9 (some u9)) 8 (some u8)) 7 (some u7)) 1 (some u1)) H n []
noncomputable def B95_1 (cal:Cal) (k m1:Nat) (b1:V4) (u1 u7 u8 u9:Value) (H:Hp) (n:Nat):Res:=
binK P .lss 3 (.tmp 9) (.tmp 8) u9 u8 fun v_5=>
ifK v_5 (
aq (aW P 33 u7 u9) fun v_6=>
aq (aX v_6) fun a_8=>aq (ak P H 86 a_8) fun v_7=>
dZ P 86 H n fun v_9 H_a n_b=>
aq (bz P 86 v_9 v_7 H_a) fun H_d=>
aq (aX v_9) fun a_g=>aq (ak P H_d 86 a_g) fun v_f=>
eK P cal u1 [v_f] H_d n_b fun v_h H_i n_j=>
aq (dJ P v_h (Op.unary UnOp.not v_h)) fun v_k=>
ifK v_k (
some ((.bool false),H_i,n_j)) (
binK P .add 3 (.tmp 9) (.const (.int .i64 1)) u9 (.int .i64 1) fun v_m=>
b1 u1 u7 u8 v_m H_i n_j)) (
some ((.bool true),H,n))
noncomputable def XK (cal:Cal) (k m1:Nat) (b1:V4) (u1 u7 u8 u9:Value) (H:Hp) (n:Nat):Res:=B95_1 cal k m1 b1 u1 u7 u8 u9 H n
noncomputable def S95_1 (cal:Cal) (k:Nat):Nat→V4:=fun m=>Nat.rec (motive:=fun _=>V4) (XK cal k 0 (fun _ _ _ _ _ _=>none)) (fun m ih=>XK cal k (m+1) ih) m
theorem h95_1 (cal:Cal) (k m1:Nat) (u1 u7 u8 u9:Value) (H:Hp) (n:Nat):labK (E95_1 cal k m1) (Tr.set (Tr.set (Tr.set (Tr.set Tr.nil 9 (some u9)) 8 (some u8)) 7 (some u7)) 1 (some u1)) H n []=XK cal k m1 (R95_1 cal k m1) u1 u7 u8 u9 H n:=by
 refine Eq.trans (b:=B95_1 cal k m1 (R95_1 cal k m1) u1 u7 u8 u9 H n) (by kernel_rfl) ?_
 rw[XK]
theorem q95_1 (cal:Cal) (k:Nat):∀(m:Nat) (u1 u7 u8 u9:Value) (H:Hp) (n:Nat),labK (E95_1 cal k m) (Tr.set (Tr.set (Tr.set (Tr.set Tr.nil 9 (some u9)) 8 (some u8)) 7 (some u7)) 1 (some u1)) H n []=S95_1 cal k m u1 u7 u8 u9 H n
 | 0,u1,u7,u8,u9,H,n=>by
  rw[h95_1]
  have e:R95_1 cal k 0=fun _ _ _ _ _ _=>none:=by funext u1 u7 u8 u9 H n; kernel_rfl
  rw[e]; rfl
 | m+1,u1,u7,u8,u9,H,n=>by
  rw[h95_1]
  have e:R95_1 cal k (m+1)=S95_1 cal k m:=by
   funext u1 u7 u8 u9 H n
   have e:R95_1 cal k (m+1) u1 u7 u8 u9 H n=labK (E95_1 cal k m) (Tr.set (Tr.set (Tr.set (Tr.set Tr.nil 9 (some u9)) 8 (some u8)) 7 (some u7)) 1 (some u1)) H n []:=by kernel_rfl
   rw[e]; exact q95_1 ..
  rw[e]; rfl
noncomputable def B95_0 (cal:Cal) (k:Nat) (j1:V4) (v0 v1:Value) (H:Hp) (n:Nat):Res:=
aq (lenV P 33 v0) fun v_3=>
j1 v1 v0 v_3 (.int .i64 0) H n
noncomputable def Yj (cal:Cal) (k:Nat) (v0 v1:Value) (H:Hp) (n:Nat):Res:=B95_0 cal k (S95_1 cal k k) v0 v1 H n
theorem h95_0 (cal:Cal) (k:Nat) (v0 v1:Value) (H:Hp) (n:Nat):aK P cal A (k+1) 95 [v0,v1] H n=Yj cal k v0 v1 H n:=by
 have h:aK P cal A (k+1) 95 [v0,v1] H n=B95_0 cal k (fun u1 u7 u8 u9 H n=>labK (E95_1 cal k k) (Tr.set (Tr.set (Tr.set (Tr.set Tr.nil 9 (some u9)) 8 (some u8)) 7 (some u7)) 1 (some u1)) H n []) v0 v1 H n:=by
  rw[bk (fn:=Go.Proofs.Try.f95) (c:=tv) (rs:=gQ) (by kernel_rfl) (by kernel_rfl) (by kernel_rfl) (by kernel_rfl)]
  kernel_rfl
 rw[h,Yj]
 have e1:(fun u1 u7 u8 u9 H n=>labK (E95_1 cal k k) (Tr.set (Tr.set (Tr.set (Tr.set Tr.nil 9 (some u9)) 8 (some u8)) 7 (some u7)) 1 (some u1)) H n [])=(S95_1 cal k k):=by funext u1 u7 u8 u9 H n; exact q95_1 ..
 rw[e1]
noncomputable def code96:Code:=cw 96
noncomputable def Bz:List ResultVar:=dj 96
noncomputable def K96_p (cal:Cal) (k:Nat):KR:=(cutK (A 96).c (az P cal (ax P cal k) none 96 (cR code96) (Lv.b (A 96)) (aw P Bz) X0 (aw P Bz)))
noncomputable def K96_pr (cal:Cal) (k:Nat):KR:=(cutK (Lv.b (A 96)).c (az P cal (ax P cal k) none 96 (cR (cR code96)) (Lv.b (Lv.b (A 96))) (aw P Bz) X0 (aw P Bz)))
noncomputable def B96_0 (cal:Cal) (k:Nat) (v0:Value) (H:Hp) (n:Nat):Res:=
boxK 86 v0 H n fun v_1 H_2 n_3=>
aq (ay P 86 v_1 0) fun v_5=>
aq (aX v_5) fun a_7=>aq (ak P H_2 3 a_7) fun v_6=>
binK P .geq 3 (.tmp 4) (.const (.int .i64 0)) v_6 (.int .i64 0) fun v_8=>
aV v_8 true (fun k_a=>
aq (ay P 86 v_1 0) fun v_e=>
k_a v_e H_2 n_3) H_2 n_3 fun v_b H_c n_d=>
aV v_8 true (fun k_f=>
aq (aX v_b) fun a_k=>aq (ak P H_c 3 a_k) fun v_j=>
k_f v_j H_c n_d) H_c n_d fun v_g H_h n_i=>
aV v_8 true (fun k_l=>
binK P .leq 3 (.tmp 8) (.const (.int .i64 1000)) v_g (.int .i64 1000) fun v_p=>
k_l v_p H_h n_i) H_h n_i fun v_m H_n n_o=>
aq (dq v_8 v_m (.bool false)) fun v_q=>
aV v_q true (fun k_s=>
aq (ay P 86 v_1 1) fun v_w=>
k_s v_w H_n n_o) H_n n_o fun v_t H_u n_v=>
aV v_q true (fun k_x=>
aq (aX v_t) fun a_12=>aq (ak P H_u 53 a_12) fun v_11=>
k_x v_11 H_u n_v) H_u n_v fun v_y H_z n_10=>
aV v_q true (fun k_13=>
aY P cal 114 [v_y] H_z n_10 fun v_17 H_18 n_19=>
k_13 v_17 H_18 n_19) H_z n_10 fun v_14 H_15 n_16=>
aq (dq v_q v_14 (.bool false)) fun v_1a=>
aV v_1a true (fun k_1c=>
aq (ay P 86 v_1 2) fun v_1g=>
k_1c v_1g H_15 n_16) H_15 n_16 fun v_1d H_1e n_1f=>
aV v_1a true (fun k_1h=>
aq (aX v_1d) fun a_1m=>aq (ak P H_1e 53 a_1m) fun v_1l=>
k_1h v_1l H_1e n_1f) H_1e n_1f fun v_1i H_1j n_1k=>
aV v_1a true (fun k_1n=>
aY P cal 114 [v_1i] H_1j n_1k fun v_1r H_1s n_1t=>
k_1n v_1r H_1s n_1t) H_1j n_1k fun v_1o H_1p n_1q=>
aq (dq v_1a v_1o (.bool false)) fun v_1u=>
some (v_1u,H_1p,n_1q)
noncomputable def Yq (cal:Cal) (k:Nat) (v0:Value) (H:Hp) (n:Nat):Res:=B96_0 cal k v0 H n
theorem h96_0 (cal:Cal) (k:Nat) (v0:Value) (H:Hp) (n:Nat):aK P cal A (k+1) 96 [v0] H n=Yq cal k v0 H n:=by
 have h:aK P cal A (k+1) 96 [v0] H n=B96_0 cal k v0 H n:=by
  rw[bk (fn:=Go.Proofs.Try.f96) (c:=code96) (rs:=Bz) (by kernel_rfl) (by kernel_rfl) (by kernel_rfl) (by kernel_rfl)]
  kernel_rfl
 rw[h,Yq]
noncomputable def uW:Code:=cw 98
noncomputable def gV:List ResultVar:=dj 98
noncomputable def K98_p (cal:Cal) (k:Nat):KR:=(cutK (A 98).c (az P cal (ax P cal k) none 98 (cR uW) (Lv.b (A 98)) (aw P gV) X0 (aw P gV)))
noncomputable def K98_pr (cal:Cal) (k:Nat):KR:=(cutK (Lv.b (A 98)).c (az P cal (ax P cal k) none 98 (cR (cR uW)) (Lv.b (Lv.b (A 98))) (aw P gV) X0 (aw P gV)))
noncomputable def PY (cal:Cal) (k:Nat):KR:=(cutK (Lv.b (Lv.b (A 98))).c (az P cal (ax P cal k) none 98 (cR (cR (cR uW))) (Lv.b (Lv.b (Lv.b (A 98)))) (aw P gV) X0 (aw P gV)))
noncomputable def K98_prrl (cal:Cal) (k:Nat):KR:=(cutK (Lv.a (Lv.b (Lv.b (A 98)))).c (az P cal (ax P cal k) none 98 (cR (cL (cR (cR uW)))) (Lv.b (Lv.a (Lv.b (Lv.b (A 98))))) (PY cal k) X0 (aw P gV)))
noncomputable def qX (cal:Cal) (k:Nat):XR:=(upX 0 (PY cal k) X0)
noncomputable def CY (cal:Cal) (k:Nat) (m1:Nat):KR:=(fun T H n D=>ax P cal m1 (Lv.a (Lv.b (Lv.a (Lv.b (Lv.b (A 98)))))) none 98 (cL (cR (cL (cR (cR uW))))) (PY cal k) (qX cal k) (aw P gV) (cutT (Lv.a (Lv.b (Lv.a (Lv.b (Lv.b (A 98)))))).c T) H n D)
noncomputable def K98_prrlrll (cal:Cal) (k:Nat) (m1:Nat):KR:=(cutK (Lv.a (Lv.a (Lv.b (Lv.a (Lv.b (Lv.b (A 98))))))).c (az P cal (ax P cal m1) none 98 (cR (cL (cL (cR (cL (cR (cR uW))))))) (Lv.b (Lv.a (Lv.a (Lv.b (Lv.a (Lv.b (Lv.b (A 98)))))))) (CY cal k m1) (qX cal k) (aw P gV)))
noncomputable def K98_prrlrllr (cal:Cal) (k:Nat) (m1:Nat):KR:=(cutK (Lv.b (Lv.a (Lv.a (Lv.b (Lv.a (Lv.b (Lv.b (A 98)))))))).c (az P cal (ax P cal m1) none 98 (cR (cR (cL (cL (cR (cL (cR (cR uW)))))))) (Lv.b (Lv.b (Lv.a (Lv.a (Lv.b (Lv.a (Lv.b (Lv.b (A 98))))))))) (CY cal k m1) (qX cal k) (aw P gV)))
noncomputable def K98_prrlrllrr (cal:Cal) (k:Nat) (m1:Nat):KR:=(cutK (Lv.b (Lv.b (Lv.a (Lv.a (Lv.b (Lv.a (Lv.b (Lv.b (A 98))))))))).c (az P cal (ax P cal m1) none 98 (cR (cR (cR (cL (cL (cR (cL (cR (cR uW))))))))) (Lv.b (Lv.b (Lv.b (Lv.a (Lv.a (Lv.b (Lv.a (Lv.b (Lv.b (A 98)))))))))) (CY cal k m1) (qX cal k) (aw P gV)))
noncomputable def K98_pxrrlrllrrl (cal:Cal) (k:Nat) (m1:Nat):XR:=(upX 1 (K98_prrlrllrr cal k m1) (qX cal k))
noncomputable def K98_prrlrllrrll (cal:Cal) (k:Nat) (m1:Nat):KR:=(cutK (Lv.a (Lv.a (Lv.b (Lv.b (Lv.a (Lv.a (Lv.b (Lv.a (Lv.b (Lv.b (A 98))))))))))).c (az P cal (ax P cal m1) none 98 (cR (cL (cL (cR (cR (cL (cL (cR (cL (cR (cR uW))))))))))) (Lv.b (Lv.a (Lv.a (Lv.b (Lv.b (Lv.a (Lv.a (Lv.b (Lv.a (Lv.b (Lv.b (A 98)))))))))))) (K98_prrlrllrr cal k m1) (K98_pxrrlrllrrl cal k m1) (aw P gV)))
noncomputable def K98_prrr (cal:Cal) (k:Nat):KR:=(cutK (Lv.b (Lv.b (Lv.b (A 98)))).c (az P cal (ax P cal k) none 98 (cR (cR (cR (cR uW)))) (Lv.b (Lv.b (Lv.b (Lv.b (A 98))))) (aw P gV) X0 (aw P gV)))
noncomputable def E98_1 (cal:Cal) (k m1:Nat):KR:=az P cal (ax P cal m1) none 98 (cL (cL (cR (cL (cR (cR uW)))))) (Lv.a (Lv.a (Lv.b (Lv.a (Lv.b (Lv.b (A 98))))))) (CY cal k m1) (qX cal k) (aw P gV)
noncomputable def R98_1 (cal:Cal) (k m1:Nat):V4:=fun u1 u5 u9 u10 H n=>ax P cal m1 (Lv.a (Lv.b (Lv.a (Lv.b (Lv.b (A 98)))))) none 98 (cL (cR (cL (cR (cR uW))))) (PY cal k) (qX cal k) (aw P gV) (Tr.set (Tr.set (Tr.set (Tr.set Tr.nil 10 (some u10)) 9 (some u9)) 5 (some u5)) 1 (some u1)) H n []
noncomputable def B98_1 (cal:Cal) (k m1:Nat) (b1:V4) (u1 u5 u9 u10:Value) (H:Hp) (n:Nat):Res:=
binK P .lss 3 (.tmp 10) (.const (.int .i64 8)) u10 (.int .i64 8) fun v_a=>
ifK v_a (
aq (BJ P 111 u9 u10) fun v_b=>
dZ P 53 H n fun v_c H_d n_e=>
aq (bz P 53 v_c v_b H_d) fun H_g=>
aq (aX v_c) fun a_k=>aq (ak P H_g 53 a_k) fun v_j=>
eK P cal u1 [v_j] H_g n_e fun v_l H_m n_n=>
binK P .add 3 (.tmp 13) (.tmp 16) u5 v_l fun v_o=>
binK P .add 3 (.tmp 10) (.const (.int .i64 1)) u10 (.int .i64 1) fun v_q=>
b1 u1 v_o u9 v_q H_m n_n) (
some (u5,H,n))
noncomputable def Yv (cal:Cal) (k m1:Nat) (b1:V4) (u1 u5 u9 u10:Value) (H:Hp) (n:Nat):Res:=B98_1 cal k m1 b1 u1 u5 u9 u10 H n
noncomputable def Yw (cal:Cal) (k:Nat):Nat→V4:=fun m=>Nat.rec (motive:=fun _=>V4) (Yv cal k 0 (fun _ _ _ _ _ _=>none)) (fun m ih=>Yv cal k (m+1) ih) m
theorem h98_1 (cal:Cal) (k m1:Nat) (u1 u5 u9 u10:Value) (H:Hp) (n:Nat):labK (E98_1 cal k m1) (Tr.set (Tr.set (Tr.set (Tr.set Tr.nil 10 (some u10)) 9 (some u9)) 5 (some u5)) 1 (some u1)) H n []=Yv cal k m1 (R98_1 cal k m1) u1 u5 u9 u10 H n:=by
 refine Eq.trans (b:=B98_1 cal k m1 (R98_1 cal k m1) u1 u5 u9 u10 H n) (by kernel_rfl) ?_
 rw[Yv]
theorem q98_1 (cal:Cal) (k:Nat):∀(m:Nat) (u1 u5 u9 u10:Value) (H:Hp) (n:Nat),labK (E98_1 cal k m) (Tr.set (Tr.set (Tr.set (Tr.set Tr.nil 10 (some u10)) 9 (some u9)) 5 (some u5)) 1 (some u1)) H n []=Yw cal k m u1 u5 u9 u10 H n
 | 0,u1,u5,u9,u10,H,n=>by
  rw[h98_1]
  have e:R98_1 cal k 0=fun _ _ _ _ _ _=>none:=by funext u1 u5 u9 u10 H n; kernel_rfl
  rw[e]; rfl
 | m+1,u1,u5,u9,u10,H,n=>by
  rw[h98_1]
  have e:R98_1 cal k (m+1)=Yw cal k m:=by
   funext u1 u5 u9 u10 H n
   have e:R98_1 cal k (m+1) u1 u5 u9 u10 H n=labK (E98_1 cal k m) (Tr.set (Tr.set (Tr.set (Tr.set Tr.nil 10 (some u10)) 9 (some u9)) 5 (some u5)) 1 (some u1)) H n []:=by kernel_rfl
   rw[e]; exact q98_1 ..
  rw[e]; rfl
noncomputable def B98_0 (cal:Cal) (k:Nat) (j1:V4) (v0 v1:Value) (H:Hp) (n:Nat):Res:=
boxK 113 v0 H n fun v_1 H_2 n_3=>
aq (ay P 113 v_1 1) fun v_6=>
aq (aX v_6) fun a_8=>aq (ak P H_2 111 a_8) fun v_7=>
j1 v1 (.int .i64 0) v_7 (.int .i64 0) H_2 n_3
noncomputable def Yx (cal:Cal) (k:Nat) (v0 v1:Value) (H:Hp) (n:Nat):Res:=B98_0 cal k (Yw cal k k) v0 v1 H n
theorem h98_0 (cal:Cal) (k:Nat) (v0 v1:Value) (H:Hp) (n:Nat):aK P cal A (k+1) 98 [v0,v1] H n=Yx cal k v0 v1 H n:=by
 have h:aK P cal A (k+1) 98 [v0,v1] H n=B98_0 cal k (fun u1 u5 u9 u10 H n=>labK (E98_1 cal k k) (Tr.set (Tr.set (Tr.set (Tr.set Tr.nil 10 (some u10)) 9 (some u9)) 5 (some u5)) 1 (some u1)) H n []) v0 v1 H n:=by
  rw[bk (fn:=Go.Proofs.Try.f98) (c:=uW) (rs:=gV) (by kernel_rfl) (by kernel_rfl) (by kernel_rfl) (by kernel_rfl)]
  kernel_rfl
 rw[h,Yx]
 have e1:(fun u1 u5 u9 u10 H n=>labK (E98_1 cal k k) (Tr.set (Tr.set (Tr.set (Tr.set Tr.nil 10 (some u10)) 9 (some u9)) 5 (some u5)) 1 (some u1)) H n [])=(Yw cal k k):=by funext u1 u5 u9 u10 H n; exact q98_1 ..
 rw[e1]
noncomputable def code99:Code:=cw 99
noncomputable def Bk:List ResultVar:=dj 99
noncomputable def K99_p (cal:Cal) (k:Nat):KR:=(cutK (A 99).c (az P cal (ax P cal k) none 99 (cR code99) (Lv.b (A 99)) (aw P Bk) X0 (aw P Bk)))
noncomputable def K99_pr (cal:Cal) (k:Nat):KR:=(cutK (Lv.b (A 99)).c (az P cal (ax P cal k) none 99 (cR (cR code99)) (Lv.b (Lv.b (A 99))) (aw P Bk) X0 (aw P Bk)))
noncomputable def B99_0 (cal:Cal) (k:Nat) (v0 v1:Value) (H:Hp) (n:Nat):Res:=
boxK 53 v0 H n fun v_1 H_2 n_3=>
aq (ay P 53 v_1 0) fun v_5=>
aq (aX v_5) fun a_7=>aq (ak P H_2 3 a_7) fun v_6=>
binK P .leq 3 (.tmp 6) (.tmp 7) v_6 v1 fun v_9=>
aV v_9 true (fun k_b=>
k_b v1 H_2 n_3) H_2 n_3 fun v_c H_d n_e=>
aV v_9 true (fun k_g=>
aq (ay P 53 v_1 1) fun v_k=>
k_g v_k H_d n_e) H_d n_e fun v_h H_i n_j=>
aV v_9 true (fun k_l=>
aq (aX v_h) fun a_q=>aq (ak P H_i 3 a_q) fun v_p=>
k_l v_p H_i n_j) H_i n_j fun v_m H_n n_o=>
aV v_9 true (fun k_r=>
binK P .leq 3 (.tmp 10) (.tmp 12) v_c v_m fun v_v=>
k_r v_v H_n n_o) H_n n_o fun v_s H_t n_u=>
aq (dq v_9 v_s (.bool false)) fun v_w=>
some (v_w,H_t,n_u)
noncomputable def C99_0 (cal:Cal) (k:Nat) (v0 v1:Value) (H:Hp) (n:Nat):Res:=B99_0 cal k v0 v1 H n
theorem h99_0 (cal:Cal) (k:Nat) (v0 v1:Value) (H:Hp) (n:Nat):aK P cal A (k+1) 99 [v0,v1] H n=C99_0 cal k v0 v1 H n:=by
 have h:aK P cal A (k+1) 99 [v0,v1] H n=B99_0 cal k v0 v1 H n:=by
  rw[bk (fn:=Go.Proofs.Try.f99) (c:=code99) (rs:=Bk) (by kernel_rfl) (by kernel_rfl) (by kernel_rfl) (by kernel_rfl)]
  kernel_rfl
 rw[h,C99_0]
noncomputable def code100:Code:=cw 100
noncomputable def yq:List ResultVar:=dj 100
noncomputable def K100_p (cal:Cal) (k:Nat):KR:=(cutK (A 100).c (az P cal (ax P cal k) none 100 (cR code100) (Lv.b (A 100)) (aw P yq) X0 (aw P yq)))
noncomputable def K100_pr (cal:Cal) (k:Nat):KR:=(cutK (Lv.b (A 100)).c (az P cal (ax P cal k) none 100 (cR (cR code100)) (Lv.b (Lv.b (A 100))) (aw P yq) X0 (aw P yq)))
noncomputable def B100_0 (cal:Cal) (k:Nat) (v0 v1:Value) (H:Hp) (n:Nat):Res:=
aY P cal 32 [v0,(.int .i64 0),v1] H n fun v_4 H_5 n_6=>
aV v_4 true (fun k_8=>
k_8 v1 H_5 n_6) H_5 n_6 fun v_9 H_a n_b=>
aV v_4 true (fun k_d=>
binK P .leq 3 (.tmp 9) (.const (.int .i64 1000)) v_9 (.int .i64 1000) fun v_h=>
k_d v_h H_a n_b) H_a n_b fun v_e H_f n_g=>
aq (dq v_4 v_e (.bool false)) fun v_i=>
some (v_i,H_f,n_g)
noncomputable def Nj (cal:Cal) (k:Nat) (v0 v1:Value) (H:Hp) (n:Nat):Res:=B100_0 cal k v0 v1 H n
theorem h100_0 (cal:Cal) (k:Nat) (v0 v1:Value) (H:Hp) (n:Nat):aK P cal A (k+1) 100 [v0,v1] H n=Nj cal k v0 v1 H n:=by
 have h:aK P cal A (k+1) 100 [v0,v1] H n=B100_0 cal k v0 v1 H n:=by
  rw[bk (fn:=Go.Proofs.Try.f100) (c:=code100) (rs:=yq) (by kernel_rfl) (by kernel_rfl) (by kernel_rfl) (by kernel_rfl)]
  kernel_rfl
 rw[h,Nj]
noncomputable def oW:Code:=cw 101
noncomputable def ej:List ResultVar:=dj 101
noncomputable def K101_p (cal:Cal) (k:Nat):KR:=(cutK (A 101).c (az P cal (ax P cal k) none 101 (cR oW) (Lv.b (A 101)) (aw P ej) X0 (aw P ej)))
noncomputable def K101_pr (cal:Cal) (k:Nat):KR:=(cutK (Lv.b (A 101)).c (az P cal (ax P cal k) none 101 (cR (cR oW)) (Lv.b (Lv.b (A 101))) (aw P ej) X0 (aw P ej)))
noncomputable def KX (cal:Cal) (k:Nat):KR:=(cutK (Lv.b (Lv.b (A 101))).c (az P cal (ax P cal k) none 101 (cR (cR (cR oW))) (Lv.b (Lv.b (Lv.b (A 101)))) (aw P ej) X0 (aw P ej)))
noncomputable def K101_prrl (cal:Cal) (k:Nat):KR:=(cutK (Lv.a (Lv.b (Lv.b (A 101)))).c (az P cal (ax P cal k) none 101 (cR (cL (cR (cR oW)))) (Lv.b (Lv.a (Lv.b (Lv.b (A 101))))) (KX cal k) X0 (aw P ej)))
noncomputable def oz (cal:Cal) (k:Nat):XR:=(upX 0 (KX cal k) X0)
noncomputable def yY (cal:Cal) (k:Nat) (m1:Nat):KR:=(fun T H n D=>ax P cal m1 (Lv.a (Lv.b (Lv.a (Lv.b (Lv.b (A 101)))))) none 101 (cL (cR (cL (cR (cR oW))))) (KX cal k) (oz cal k) (aw P ej) (cutT (Lv.a (Lv.b (Lv.a (Lv.b (Lv.b (A 101)))))).c T) H n D)
noncomputable def K101_prrlrll (cal:Cal) (k:Nat) (m1:Nat):KR:=(cutK (Lv.a (Lv.a (Lv.b (Lv.a (Lv.b (Lv.b (A 101))))))).c (az P cal (ax P cal m1) none 101 (cR (cL (cL (cR (cL (cR (cR oW))))))) (Lv.b (Lv.a (Lv.a (Lv.b (Lv.a (Lv.b (Lv.b (A 101)))))))) (yY cal k m1) (oz cal k) (aw P ej)))
noncomputable def K101_prrlrllr (cal:Cal) (k:Nat) (m1:Nat):KR:=(cutK (Lv.b (Lv.a (Lv.a (Lv.b (Lv.a (Lv.b (Lv.b (A 101)))))))).c (az P cal (ax P cal m1) none 101 (cR (cR (cL (cL (cR (cL (cR (cR oW)))))))) (Lv.b (Lv.b (Lv.a (Lv.a (Lv.b (Lv.a (Lv.b (Lv.b (A 101))))))))) (yY cal k m1) (oz cal k) (aw P ej)))
noncomputable def K101_prrlrllrr (cal:Cal) (k:Nat) (m1:Nat):KR:=(cutK (Lv.b (Lv.b (Lv.a (Lv.a (Lv.b (Lv.a (Lv.b (Lv.b (A 101))))))))).c (az P cal (ax P cal m1) none 101 (cR (cR (cR (cL (cL (cR (cL (cR (cR oW))))))))) (Lv.b (Lv.b (Lv.b (Lv.a (Lv.a (Lv.b (Lv.a (Lv.b (Lv.b (A 101)))))))))) (yY cal k m1) (oz cal k) (aw P ej)))
noncomputable def K101_pxrrlrllrrl (cal:Cal) (k:Nat) (m1:Nat):XR:=(upX 1 (K101_prrlrllrr cal k m1) (oz cal k))
noncomputable def K101_prrlrllrrll (cal:Cal) (k:Nat) (m1:Nat):KR:=(cutK (Lv.a (Lv.a (Lv.b (Lv.b (Lv.a (Lv.a (Lv.b (Lv.a (Lv.b (Lv.b (A 101))))))))))).c (az P cal (ax P cal m1) none 101 (cR (cL (cL (cR (cR (cL (cL (cR (cL (cR (cR oW))))))))))) (Lv.b (Lv.a (Lv.a (Lv.b (Lv.b (Lv.a (Lv.a (Lv.b (Lv.a (Lv.b (Lv.b (A 101)))))))))))) (K101_prrlrllrr cal k m1) (K101_pxrrlrllrrl cal k m1) (aw P ej)))
noncomputable def K101_prrr (cal:Cal) (k:Nat):KR:=(cutK (Lv.b (Lv.b (Lv.b (A 101)))).c (az P cal (ax P cal k) none 101 (cR (cR (cR (cR oW)))) (Lv.b (Lv.b (Lv.b (Lv.b (A 101))))) (aw P ej) X0 (aw P ej)))
noncomputable def Tq (cal:Cal) (k m1:Nat):KR:=az P cal (ax P cal m1) none 101 (cL (cL (cR (cL (cR (cR oW)))))) (Lv.a (Lv.a (Lv.b (Lv.a (Lv.b (Lv.b (A 101))))))) (yY cal k m1) (oz cal k) (aw P ej)
noncomputable def Tv (cal:Cal) (k m1:Nat):V3:=fun u0 u1 u3 H n=>ax P cal m1 (Lv.a (Lv.b (Lv.a (Lv.b (Lv.b (A 101)))))) none 101 (cL (cR (cL (cR (cR oW))))) (KX cal k) (oz cal k) (aw P ej) (Tr.set (Tr.set (Tr.set Tr.nil 3 (some u3)) 1 (some u1)) 0 (some u0)) H n []
noncomputable def B101_1 (cal:Cal) (k m1:Nat) (b1:V3) (u0 u1 u3:Value) (H:Hp) (n:Nat):Res:=
binK P .lss 3 (.tmp 3) (.const (.int .i64 8)) u3 (.int .i64 8) fun v_8=>
ifK v_8 (
aq (aW P 121 u1 u3) fun v_c=>
aq (bz P 3 v_c (.int .i64 (-1)) H) fun H_e=>
binK P .add 3 (.tmp 3) (.const (.int .i64 1)) u3 (.int .i64 1) fun v_f=>
b1 u0 u1 v_f H_e n) (
aq (aX u1) fun a_i=>aq (ak P H 121 a_i) fun v_h=>
aq (bz P 121 u0 v_h H) fun H_k=>
aq (resV P (Tr.set Tr.nil 0 (some u0)) H_k ej) fun v_l=>some (oneV v_l,H_k,n))
noncomputable def C101_1 (cal:Cal) (k m1:Nat) (b1:V3) (u0 u1 u3:Value) (H:Hp) (n:Nat):Res:=B101_1 cal k m1 b1 u0 u1 u3 H n
noncomputable def S101_1 (cal:Cal) (k:Nat):Nat→V3:=fun m=>Nat.rec (motive:=fun _=>V3) (C101_1 cal k 0 (fun _ _ _ _ _=>none)) (fun m ih=>C101_1 cal k (m+1) ih) m
theorem h101_1 (cal:Cal) (k m1:Nat) (u0 u1 u3:Value) (H:Hp) (n:Nat):labK (Tq cal k m1) (Tr.set (Tr.set (Tr.set Tr.nil 3 (some u3)) 1 (some u1)) 0 (some u0)) H n []=C101_1 cal k m1 (Tv cal k m1) u0 u1 u3 H n:=by
 refine Eq.trans (b:=B101_1 cal k m1 (Tv cal k m1) u0 u1 u3 H n) (by kernel_rfl) ?_
 rw[C101_1]
theorem q101_1 (cal:Cal) (k:Nat):∀(m:Nat) (u0 u1 u3:Value) (H:Hp) (n:Nat),labK (Tq cal k m) (Tr.set (Tr.set (Tr.set Tr.nil 3 (some u3)) 1 (some u1)) 0 (some u0)) H n []=S101_1 cal k m u0 u1 u3 H n
 | 0,u0,u1,u3,H,n=>by
  rw[h101_1]
  have e:Tv cal k 0=fun _ _ _ _ _=>none:=by funext u0 u1 u3 H n; kernel_rfl
  rw[e]; rfl
 | m+1,u0,u1,u3,H,n=>by
  rw[h101_1]
  have e:Tv cal k (m+1)=S101_1 cal k m:=by
   funext u0 u1 u3 H n
   have e:Tv cal k (m+1) u0 u1 u3 H n=labK (Tq cal k m) (Tr.set (Tr.set (Tr.set Tr.nil 3 (some u3)) 1 (some u1)) 0 (some u0)) H n []:=by kernel_rfl
   rw[e]; exact q101_1 ..
  rw[e]; rfl
noncomputable def B101_0 (cal:Cal) (k:Nat) (j1:V3) (H:Hp) (n:Nat):Res:=
dZ P 121 H n fun v_1 H_2 n_3=>
dZ P 121 H_2 n_3 fun v_4 H_5 n_6=>
j1 v_1 v_4 (.int .i64 0) H_5 n_6
noncomputable def C101_0 (cal:Cal) (k:Nat) (H:Hp) (n:Nat):Res:=B101_0 cal k (S101_1 cal k k)  H n
theorem h101_0 (cal:Cal) (k:Nat) (H:Hp) (n:Nat):aK P cal A (k+1) 101 [] H n=C101_0 cal k  H n:=by
 have h:aK P cal A (k+1) 101 [] H n=B101_0 cal k (fun u0 u1 u3 H n=>labK (Tq cal k k) (Tr.set (Tr.set (Tr.set Tr.nil 3 (some u3)) 1 (some u1)) 0 (some u0)) H n [])  H n:=by
  rw[bk (fn:=Go.Proofs.Try.f101) (c:=oW) (rs:=ej) (by kernel_rfl) (by kernel_rfl) (by kernel_rfl) (by kernel_rfl)]
  kernel_rfl
 rw[h,C101_0]
 have e1:(fun u0 u1 u3 H n=>labK (Tq cal k k) (Tr.set (Tr.set (Tr.set Tr.nil 3 (some u3)) 1 (some u1)) 0 (some u0)) H n [])=(S101_1 cal k k):=by funext u0 u1 u3 H n; exact q101_1 ..
 rw[e1]
noncomputable def code102:Code:=cw 102
noncomputable def yw:List ResultVar:=dj 102
noncomputable def K102_p (cal:Cal) (k:Nat):KR:=(cutK (A 102).c (az P cal (ax P cal k) none 102 (cR code102) (Lv.b (A 102)) (aw P yw) X0 (aw P yw)))
noncomputable def K102_pr (cal:Cal) (k:Nat):KR:=(cutK (Lv.b (A 102)).c (az P cal (ax P cal k) none 102 (cR (cR code102)) (Lv.b (Lv.b (A 102))) (aw P yw) X0 (aw P yw)))
noncomputable def B102_0 (cal:Cal) (k:Nat) (v0 v1 v2:Value) (H:Hp) (n:Nat):Res:=
binK P .geq 3 (.tmp 7) (.const (.int .i64 0)) v2 (.int .i64 0) fun v_3=>
aV v_3 true (fun k_5=>
k_5 v2 H n) H n fun v_6 H_7 n_8=>
aV v_3 true (fun k_a=>
k_a v0 H_7 n_8) H_7 n_8 fun v_b H_c n_d=>
aV v_3 true (fun k_f=>
aq (nilV v_b) fun v_j=>
k_f v_j H_c n_d) H_c n_d fun v_g H_h n_i=>
aV v_3 true (fun k_k=>
aq (ay P 117 v_g 0) fun v_o=>
k_k v_o H_h n_i) H_h n_i fun v_l H_m n_n=>
aV v_3 true (fun k_p=>
aq (ay P 35 v_l 2) fun v_t=>
k_p v_t H_m n_n) H_m n_n fun v_q H_r n_s=>
aV v_3 true (fun k_u=>
aq (aX v_q) fun a_z=>aq (ak P H_r 33 a_z) fun v_y=>
k_u v_y H_r n_s) H_r n_s fun v_v H_w n_x=>
aV v_3 true (fun k_10=>
aq (lenV P 33 v_v) fun v_14=>
k_10 v_14 H_w n_x) H_w n_x fun v_11 H_12 n_13=>
aV v_3 true (fun k_15=>
binK P .lss 3 (.tmp 10) (.tmp 16) v_6 v_11 fun v_19=>
k_15 v_19 H_12 n_13) H_12 n_13 fun v_16 H_17 n_18=>
aq (dq v_3 v_16 (.bool false)) fun v_1a=>
aV v_1a true (fun k_1c=>
k_1c v0 H_17 n_18) H_17 n_18 fun v_1d H_1e n_1f=>
aV v_1a true (fun k_1h=>
k_1h v1 H_1e n_1f) H_1e n_1f fun v_1i H_1j n_1k=>
aV v_1a true (fun k_1m=>
k_1m v2 H_1j n_1k) H_1j n_1k fun v_1n H_1o n_1p=>
aV v_1a true (fun k_1r=>
aq (nilV v_1d) fun v_1v=>
k_1r v_1v H_1o n_1p) H_1o n_1p fun v_1s H_1t n_1u=>
aV v_1a true (fun k_1w=>
aq (ay P 117 v_1s 2) fun v_20=>
k_1w v_20 H_1t n_1u) H_1t n_1u fun v_1x H_1y n_1z=>
aV v_1a true (fun k_21=>
aq (aW P 115 v_1x v_1i) fun v_25=>
k_21 v_25 H_1y n_1z) H_1y n_1z fun v_22 H_23 n_24=>
aV v_1a true (fun k_26=>
aq (aW P 114 v_22 v_1n) fun v_2a=>
k_26 v_2a H_23 n_24) H_23 n_24 fun v_27 H_28 n_29=>
aV v_1a true (fun k_2b=>
aq (aX v_27) fun a_2g=>aq (ak P H_28 113 a_2g) fun v_2f=>
k_2b v_2f H_28 n_29) H_28 n_29 fun v_2c H_2d n_2e=>
aV v_1a true (fun k_2h=>
aY P cal 62 [v_2c] H_2d n_2e fun v_2l H_2m n_2n=>
k_2h v_2l H_2m n_2n) H_2d n_2e fun v_2i H_2j n_2k=>
aq (dq v_1a v_2i (.bool false)) fun v_2o=>
some (v_2o,H_2j,n_2k)
noncomputable def C102_0 (cal:Cal) (k:Nat) (v0 v1 v2:Value) (H:Hp) (n:Nat):Res:=B102_0 cal k v0 v1 v2 H n
theorem h102_0 (cal:Cal) (k:Nat) (v0 v1 v2:Value) (H:Hp) (n:Nat):aK P cal A (k+1) 102 [v0,v1,v2] H n=C102_0 cal k v0 v1 v2 H n:=by
 have h:aK P cal A (k+1) 102 [v0,v1,v2] H n=B102_0 cal k v0 v1 v2 H n:=by
  rw[bk (fn:=Go.Proofs.Try.f102) (c:=code102) (rs:=yw) (by kernel_rfl) (by kernel_rfl) (by kernel_rfl) (by kernel_rfl)]
  kernel_rfl
 rw[h,C102_0]
end Go.Proofs.Ytekajfobmnedjaa.G
