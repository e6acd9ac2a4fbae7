/- The texts of functions, each with the proof that the evaluator says the same. -/
import Derived.Test.YtmjbdjnnojfhkaaH1
open Go Go.Ev
set_option maxRecDepth 1000000
set_option linter.unusedVariables false
noncomputable section
namespace Go.Proofs.Ytmjbdjnnojfhkaa.G
variable (cal:Cal) (k:Nat)
noncomputable def Dw:Code:=dj 39
noncomputable def mw:List ResultVar:=fk 39
noncomputable def K39_p:KR:=kD cal k 39 Dw (A 39) (av P mw) X0 (av P mw)
noncomputable def K39_pr:KR:=kD cal k 39 (cR Dw) (Lb (A 39)) (av P mw) X0 (av P mw)
noncomputable def qfq:KR:=kD cal k 39 (cR (cR Dw)) (Lb (Lb (A 39))) (av P mw) X0 (av P mw)
noncomputable def K39_prrl:KR:=kD cal k 39 (cL (cR (cR Dw))) (La (Lb (Lb (A 39)))) (qfq cal k) X0 (av P mw)
noncomputable def xz(k:Nat):XR:=(upX 0 (qfq cal k) X0)
noncomputable def Ty(k:Nat)(m1:Nat):KR:=(fun T H n D=>aK P cal m1 (La (Lb (La (Lb (Lb (A 39)))))) none 39 (cL (cR (cL (cR (cR Dw))))) (qfq cal k) (xz cal k) (av P mw) (cutT (La (Lb (La (Lb (Lb (A 39)))))).c T) H n D)
noncomputable def K39_prrlrll(k:Nat)(m1:Nat):KR:=kD cal m1 39 (cL (cL (cR (cL (cR (cR Dw)))))) (La (La (Lb (La (Lb (Lb (A 39))))))) (Ty cal k m1) (xz cal k) (av P mw)
noncomputable def K39_prrlrlll(k:Nat)(m1:Nat):KR:=kD cal m1 39 (cL (cL (cL (cR (cL (cR (cR Dw))))))) (La (La (La (Lb (La (Lb (Lb (A 39)))))))) (K39_prrlrll cal k m1) (xz cal k) (av P mw)
noncomputable def K39_prrlrllr(k:Nat)(m1:Nat):KR:=kD cal m1 39 (cR (cL (cL (cR (cL (cR (cR Dw))))))) (Lb (La (La (Lb (La (Lb (Lb (A 39)))))))) (Ty cal k m1) (xz cal k) (av P mw)
noncomputable def K39_pxrrlrllrl(k:Nat)(m1:Nat):XR:=(upX 1 (K39_prrlrllr cal k m1) (xz cal k))
noncomputable def K39_prrr:KR:=kD cal k 39 (cR (cR (cR Dw))) (Lb (Lb (Lb (A 39)))) (av P mw) X0 (av P mw)
noncomputable def E39_1(k m1:Nat):KR:=cj P cal (aK P cal m1) none 39 (cL (cL (cR (cL (cR (cR Dw)))))) (La (La (Lb (La (Lb (Lb (A 39))))))) (Ty cal k m1) (xz cal k) (av P mw)
noncomputable def R39_1(k m1:Nat):V3:=fun u0 u3 u4 H n=>aK P cal m1 (La (Lb (La (Lb (Lb (A 39)))))) none 39 (cL (cR (cL (cR (cR Dw))))) (qfq cal k) (xz cal k) (av P mw) (ts (ts (ts Tr.nil 4 u4) 3 u3) 0 u0) H n []
noncomputable def B39_1(cal:Cal)(k m1:Nat)(b1:V3)(u0 u3 u4:Value)(H:Hp)(n:Nat):Res:=
aq (lenV P 59 u0) fun v_6=>
binK P .lss 3 (.tmp 5) (.tmp 7) u4 v_6 fun v_7=>
ifK v_7 (
aq (aJ P 59 u0 u4) fun v_b=>
aq (aV v_b) fun a_d=>aq (az P H 44 a_d) fun v_c=>
aX P cal 23 [v_c] H n fun v_e H_f n_g=>
rowK P 59 1 [(0,v_e)] H_f n_g fun v_h H_i n_j=>
stK (iz P (bare H_i n_j) 59 59 u3 v_h) fun v_k H_l n_m=>
binK P .add 3 (.tmp 9) (.const (.int .i64 1)) u4 (.int .i64 1) fun v_p=>
b1 u0 v_k v_p H_l n_m) (
some (u3,H,n))
noncomputable def C39_1(k m1:Nat)(b1:V3)(u0 u3 u4:Value)(H:Hp)(n:Nat):Res:=B39_1 cal k m1 b1 u0 u3 u4 H n
noncomputable def S39_1(k:Nat):Nat→V3:=fun m=>Nat.rec (motive:=fun _=>V3) (C39_1 cal k 0 (fun _ _ _ _ _=>none)) (fun m ih=>C39_1 cal k (m+1) ih) m
theorem h39_1(k m1:Nat)(u0 u3 u4:Value)(H:Hp)(n:Nat):labK (E39_1 cal k m1) (ts (ts (ts Tr.nil 4 u4) 3 u3) 0 u0) H n []=C39_1 cal k m1 (R39_1 cal k m1) u0 u3 u4 H n:=by
 refine Eq.trans (b:=B39_1 cal k m1 (R39_1 cal k m1) u0 u3 u4 H n) (by kernel_rfl) ?_
 rw[C39_1]
theorem q39_1(k:Nat):∀(m:Nat) (u0 u3 u4:Value) (H:Hp) (n:Nat),labK (E39_1 cal k m) (ts (ts (ts Tr.nil 4 u4) 3 u3) 0 u0) H n []=S39_1 cal k m u0 u3 u4 H n
 | 0,u0,u3,u4,H,n=>by
  rw[h39_1]
  have e:R39_1 cal k 0=fun _ _ _ _ _=>none:=by funext u0 u3 u4 H n; kernel_rfl
  rw[e]; rfl
 | m+1,u0,u3,u4,H,n=>by
  rw[h39_1]
  have e:R39_1 cal k (m+1)=S39_1 cal k m:=by
   funext u0 u3 u4 H n
   have e:R39_1 cal k (m+1) u0 u3 u4 H n=labK (E39_1 cal k m) (ts (ts (ts Tr.nil 4 u4) 3 u3) 0 u0) H n []:=by kernel_rfl
   rw[e]; exact q39_1 ..
  rw[e]; rfl
noncomputable def B39_0(cal:Cal)(k:Nat)(j1:V3)(v0:Value)(H:Hp)(n:Nat):Res:=
j1 v0 (.slice none 0 0) (.int .i64 0) H n
noncomputable def C39_0(k:Nat)(v0:Value)(H:Hp)(n:Nat):Res:=B39_0 cal k (S39_1 cal k k) v0 H n
theorem h39_0(k:Nat)(v0:Value)(H:Hp)(n:Nat):aY P cal A (k+1) 39 [v0] H n=C39_0 cal k v0 H n:=by
 have h:aY P cal A (k+1) 39 [v0] H n=B39_0 cal k (fun u0 u3 u4 H n=>labK (E39_1 cal k k) (ts (ts (ts Tr.nil 4 u4) 3 u3) 0 u0) H n []) v0 H n:=by
  rw[bY (fn:=Go.Proofs.Try.f39) (c:=Dw) (rs:=mw) (by kernel_rfl) (by kernel_rfl) (by kernel_rfl) (by kernel_rfl)]
  kernel_rfl
 rw[h,C39_0]
 have e1:(fun u0 u3 u4 H n=>labK (E39_1 cal k k) (ts (ts (ts Tr.nil 4 u4) 3 u3) 0 u0) H n [])=(S39_1 cal k k):=by funext u0 u3 u4 H n; exact q39_1 ..
 rw[e1]
noncomputable def Bw:Code:=dj 40
noncomputable def my:List ResultVar:=fk 40
noncomputable def K40_p:KR:=kD cal k 40 Bw (A 40) (av P my) X0 (av P my)
noncomputable def K40_pr:KR:=kD cal k 40 (cR Bw) (Lb (A 40)) (av P my) X0 (av P my)
noncomputable def K40_prl:KR:=kD cal k 40 (cL (cR Bw)) (La (Lb (A 40))) (K40_pr cal k) X0 (av P my)
noncomputable def Bx(k:Nat):XR:=(upX 0 (K40_pr cal k) X0)
noncomputable def Yz(k:Nat)(m1:Nat):KR:=(fun T H n D=>aK P cal m1 (La (Lb (La (Lb (A 40))))) none 40 (cL (cR (cL (cR Bw)))) (K40_pr cal k) (Bx cal k) (av P my) (cutT (La (Lb (La (Lb (A 40))))).c T) H n D)
noncomputable def K40_prlrll(k:Nat)(m1:Nat):KR:=kD cal m1 40 (cL (cL (cR (cL (cR Bw))))) (La (La (Lb (La (Lb (A 40)))))) (Yz cal k m1) (Bx cal k) (av P my)
noncomputable def K40_prlrlll(k:Nat)(m1:Nat):KR:=kD cal m1 40 (cL (cL (cL (cR (cL (cR Bw)))))) (La (La (La (Lb (La (Lb (A 40))))))) (K40_prlrll cal k m1) (Bx cal k) (av P my)
noncomputable def OJ(k:Nat)(m1:Nat):KR:=kD cal m1 40 (cR (cL (cL (cR (cL (cR Bw)))))) (Lb (La (La (Lb (La (Lb (A 40))))))) (Yz cal k m1) (Bx cal k) (av P my)
noncomputable def K40_pxrlrllrl(k:Nat)(m1:Nat):XR:=(upX 1 (OJ cal k m1) (Bx cal k))
noncomputable def K40_prlrllrll(k:Nat)(m1:Nat):KR:=kD cal m1 40 (cL (cL (cR (cL (cL (cR (cL (cR Bw)))))))) (La (La (Lb (La (La (Lb (La (Lb (A 40))))))))) (OJ cal k m1) (K40_pxrlrllrl cal k m1) (av P my)
noncomputable def K40_prlrllrllrl(k:Nat)(m1:Nat):KR:=kD cal m1 40 (cL (cR (cL (cL (cR (cL (cL (cR (cL (cR Bw)))))))))) (La (Lb (La (La (Lb (La (La (Lb (La (Lb (A 40))))))))))) (OJ cal k m1) (K40_pxrlrllrl cal k m1) (av P my)
noncomputable def K40_prr:KR:=kD cal k 40 (cR (cR Bw)) (Lb (Lb (A 40))) (av P my) X0 (av P my)
noncomputable def E40_1(k m1:Nat):KR:=cj P cal (aK P cal m1) none 40 (cL (cL (cR (cL (cR Bw))))) (La (La (Lb (La (Lb (A 40)))))) (Yz cal k m1) (Bx cal k) (av P my)
noncomputable def R40_1(k m1:Nat):V3:=fun u1 u2 u5 H n=>aK P cal m1 (La (Lb (La (Lb (A 40))))) none 40 (cL (cR (cL (cR Bw)))) (K40_pr cal k) (Bx cal k) (av P my) (ts (ts (ts Tr.nil 5 u5) 2 u2) 1 u1) H n []
noncomputable def B40_1(cal:Cal)(k m1:Nat)(b1:V3)(u1 u2 u5:Value)(H:Hp)(n:Nat):Res:=
aq (aw P 26 u2 0) fun v_7=>
aq (aV v_7) fun a_9=>aq (az P H 22 a_9) fun v_8=>
aq (lenV P 22 v_8) fun v_a=>
binK P .lss 3 (.tmp 6) (.tmp 9) u5 v_a fun v_b=>
ifK v_b (
aq (aw P 26 u2 0) fun v_e=>
aq (aV v_e) fun a_f=>aq (az P H 22 a_f) fun v_g=>
aq (aJ P 22 v_g u5) fun v_i=>
aq (aw P 95 v_i 0) fun v_j=>
aq (aV v_j) fun a_k=>aq (az P H 3 a_k) fun v_l=>
aq (aw P 26 u2 0) fun v_m=>
aq (aV v_m) fun a_n=>aq (az P H 22 a_n) fun v_o=>
aq (aJ P 22 v_o u5) fun v_q=>
aq (aw P 95 v_q 1) fun v_r=>
aq (aV v_r) fun a_s=>aq (az P H 3 a_s) fun v_t=>
effK P [(.l 3 a_s),(.l 22 a_n),(.l 3 a_k),(.l 22 a_f)] H n (fun H_u n_v k_w=>
aX P cal 34 [u1,u5] H_u n_v fun v_10 H_11 n_12=>
k_w v_10 H_11 n_12) fun v_x H_y n_z=>
aX P cal 32 [v_x,v_l,v_t] H_y n_z fun v_13 H_14 n_15=>
aq (dX P v_13 (Op.unary UnOp.not v_13)) fun v_16=>
ifK v_16 (
some ((.bool false),H_14,n_15)) (
binK P .add 3 (.tmp 11) (.const (.int .i64 1)) u5 (.int .i64 1) fun v_19=>
b1 u1 u2 v_19 H_14 n_15)) (
some ((.bool true),H,n))
noncomputable def C40_1(k m1:Nat)(b1:V3)(u1 u2 u5:Value)(H:Hp)(n:Nat):Res:=B40_1 cal k m1 b1 u1 u2 u5 H n
noncomputable def S40_1(k:Nat):Nat→V3:=fun m=>Nat.rec (motive:=fun _=>V3) (C40_1 cal k 0 (fun _ _ _ _ _=>none)) (fun m ih=>C40_1 cal k (m+1) ih) m
theorem h40_1(k m1:Nat)(u1 u2 u5:Value)(H:Hp)(n:Nat):labK (E40_1 cal k m1) (ts (ts (ts Tr.nil 5 u5) 2 u2) 1 u1) H n []=C40_1 cal k m1 (R40_1 cal k m1) u1 u2 u5 H n:=by
 refine Eq.trans (b:=B40_1 cal k m1 (R40_1 cal k m1) u1 u2 u5 H n) (by kernel_rfl) ?_
 rw[C40_1]
theorem q40_1(k:Nat):∀(m:Nat) (u1 u2 u5:Value) (H:Hp) (n:Nat),labK (E40_1 cal k m) (ts (ts (ts Tr.nil 5 u5) 2 u2) 1 u1) H n []=S40_1 cal k m u1 u2 u5 H n
 | 0,u1,u2,u5,H,n=>by
  rw[h40_1]
  have e:R40_1 cal k 0=fun _ _ _ _ _=>none:=by funext u1 u2 u5 H n; kernel_rfl
  rw[e]; rfl
 | m+1,u1,u2,u5,H,n=>by
  rw[h40_1]
  have e:R40_1 cal k (m+1)=S40_1 cal k m:=by
   funext u1 u2 u5 H n
   have e:R40_1 cal k (m+1) u1 u2 u5 H n=labK (E40_1 cal k m) (ts (ts (ts Tr.nil 5 u5) 2 u2) 1 u1) H n []:=by kernel_rfl
   rw[e]; exact q40_1 ..
  rw[e]; rfl
noncomputable def B40_0(cal:Cal)(k:Nat)(j1:V3)(v0 v1:Value)(H:Hp)(n:Nat):Res:=
boxK 26 v0 H n fun v_1 H_2 n_3=>
j1 v1 v_1 (.int .i64 0) H_2 n_3
noncomputable def C40_0(k:Nat)(v0 v1:Value)(H:Hp)(n:Nat):Res:=B40_0 cal k (S40_1 cal k k) v0 v1 H n
theorem h40_0(k:Nat)(v0 v1:Value)(H:Hp)(n:Nat):aY P cal A (k+1) 40 [v0,v1] H n=C40_0 cal k v0 v1 H n:=by
 have h:aY P cal A (k+1) 40 [v0,v1] H n=B40_0 cal k (fun u1 u2 u5 H n=>labK (E40_1 cal k k) (ts (ts (ts Tr.nil 5 u5) 2 u2) 1 u1) H n []) v0 v1 H n:=by
  rw[bY (fn:=Go.Proofs.Try.f40) (c:=Bw) (rs:=my) (by kernel_rfl) (by kernel_rfl) (by kernel_rfl) (by kernel_rfl)]
  kernel_rfl
 rw[h,C40_0]
 have e1:(fun u1 u2 u5 H n=>labK (E40_1 cal k k) (ts (ts (ts Tr.nil 5 u5) 2 u2) 1 u1) H n [])=(S40_1 cal k k):=by funext u1 u2 u5 H n; exact q40_1 ..
 rw[e1]
noncomputable def eV:Code:=dj 41
noncomputable def bQ:List ResultVar:=fk 41
noncomputable def K41_p:KR:=kD cal k 41 eV (A 41) (av P bQ) X0 (av P bQ)
noncomputable def K41_pr:KR:=kD cal k 41 (cR eV) (Lb (A 41)) (av P bQ) X0 (av P bQ)
noncomputable def qfz:KR:=kD cal k 41 (cR (cR eV)) (Lb (Lb (A 41))) (av P bQ) X0 (av P bQ)
noncomputable def K41_prrl:KR:=kD cal k 41 (cL (cR (cR eV))) (La (Lb (Lb (A 41)))) (qfz cal k) X0 (av P bQ)
noncomputable def uk(k:Nat):XR:=(upX 0 (qfz cal k) X0)
noncomputable def Ly(k:Nat)(m1:Nat):KR:=(fun T H n D=>aK P cal m1 (La (Lb (La (Lb (Lb (A 41)))))) none 41 (cL (cR (cL (cR (cR eV))))) (qfz cal k) (uk cal k) (av P bQ) (cutT (La (Lb (La (Lb (Lb (A 41)))))).c T) H n D)
noncomputable def K41_prrlrll(k:Nat)(m1:Nat):KR:=kD cal m1 41 (cL (cL (cR (cL (cR (cR eV)))))) (La (La (Lb (La (Lb (Lb (A 41))))))) (Ly cal k m1) (uk cal k) (av P bQ)
noncomputable def K41_prrlrlll(k:Nat)(m1:Nat):KR:=kD cal m1 41 (cL (cL (cL (cR (cL (cR (cR eV))))))) (La (La (La (Lb (La (Lb (Lb (A 41)))))))) (K41_prrlrll cal k m1) (uk cal k) (av P bQ)
noncomputable def qj(k:Nat)(m1:Nat):KR:=kD cal m1 41 (cR (cL (cL (cR (cL (cR (cR eV))))))) (Lb (La (La (Lb (La (Lb (Lb (A 41)))))))) (Ly cal k m1) (uk cal k) (av P bQ)
noncomputable def gW(k:Nat)(m1:Nat):XR:=(upX 1 (qj cal k m1) (uk cal k))
noncomputable def K41_prrlrllrll(k:Nat)(m1:Nat):KR:=kD cal m1 41 (cL (cL (cR (cL (cL (cR (cL (cR (cR eV))))))))) (La (La (Lb (La (La (Lb (La (Lb (Lb (A 41)))))))))) (qj cal k m1) (gW cal k m1) (av P bQ)
noncomputable def K41_prrlrllrllr(k:Nat)(m1:Nat):KR:=kD cal m1 41 (cR (cL (cL (cR (cL (cL (cR (cL (cR (cR eV)))))))))) (Lb (La (La (Lb (La (La (Lb (La (Lb (Lb (A 41))))))))))) (qj cal k m1) (gW cal k m1) (av P bQ)
noncomputable def K41_prrlrllrllrl(k:Nat)(m1:Nat):KR:=kD cal m1 41 (cL (cR (cL (cL (cR (cL (cL (cR (cL (cR (cR eV))))))))))) (La (Lb (La (La (Lb (La (La (Lb (La (Lb (Lb (A 41)))))))))))) (K41_prrlrllrllr cal k m1) (gW cal k m1) (av P bQ)
noncomputable def K41_prrlrllrllrr(k:Nat)(m1:Nat):KR:=kD cal m1 41 (cR (cR (cL (cL (cR (cL (cL (cR (cL (cR (cR eV))))))))))) (Lb (Lb (La (La (Lb (La (La (Lb (La (Lb (Lb (A 41)))))))))))) (qj cal k m1) (gW cal k m1) (av P bQ)
noncomputable def tQ(k:Nat)(m1:Nat):KR:=kD cal m1 41 (cR (cR (cR (cL (cL (cR (cL (cL (cR (cL (cR (cR eV)))))))))))) (Lb (Lb (Lb (La (La (Lb (La (La (Lb (La (Lb (Lb (A 41))))))))))))) (qj cal k m1) (gW cal k m1) (av P bQ)
noncomputable def K41_prrlrllrllrrrl(k:Nat)(m1:Nat):KR:=kD cal m1 41 (cL (cR (cR (cR (cL (cL (cR (cL (cL (cR (cL (cR (cR eV))))))))))))) (La (Lb (Lb (Lb (La (La (Lb (La (La (Lb (La (Lb (Lb (A 41)))))))))))))) (tQ cal k m1) (gW cal k m1) (av P bQ)
noncomputable def gz(k:Nat)(m1:Nat):XR:=(upX 2 (tQ cal k m1) (gW cal k m1))
noncomputable def qq(k:Nat)(m1:Nat)(m2:Nat):KR:=(fun T H n D=>aK P cal m2 (La (Lb (La (Lb (Lb (Lb (La (La (Lb (La (La (Lb (La (Lb (Lb (A 41)))))))))))))))) none 41 (cL (cR (cL (cR (cR (cR (cL (cL (cR (cL (cL (cR (cL (cR (cR eV))))))))))))))) (tQ cal k m1) (gz cal k m1) (av P bQ) (cutT (La (Lb (La (Lb (Lb (Lb (La (La (Lb (La (La (Lb (La (Lb (Lb (A 41)))))))))))))))).c T) H n D)
noncomputable def K41_prrlrllrllrrrlrll(k:Nat)(m1:Nat)(m2:Nat):KR:=kD cal m2 41 (cL (cL (cR (cL (cR (cR (cR (cL (cL (cR (cL (cL (cR (cL (cR (cR eV)))))))))))))))) (La (La (Lb (La (Lb (Lb (Lb (La (La (Lb (La (La (Lb (La (Lb (Lb (A 41))))))))))))))))) (qq cal k m1 m2) (gz cal k m1) (av P bQ)
noncomputable def K41_prrlrllrllrrrlrlll(k:Nat)(m1:Nat)(m2:Nat):KR:=kD cal m2 41 (cL (cL (cL (cR (cL (cR (cR (cR (cL (cL (cR (cL (cL (cR (cL (cR (cR eV))))))))))))))))) (La (La (La (Lb (La (Lb (Lb (Lb (La (La (Lb (La (La (Lb (La (Lb (Lb (A 41)))))))))))))))))) (K41_prrlrllrllrrrlrll cal k m1 m2) (gz cal k m1) (av P bQ)
noncomputable def eX(k:Nat)(m1:Nat)(m2:Nat):KR:=kD cal m2 41 (cR (cL (cL (cR (cL (cR (cR (cR (cL (cL (cR (cL (cL (cR (cL (cR (cR eV))))))))))))))))) (Lb (La (La (Lb (La (Lb (Lb (Lb (La (La (Lb (La (La (Lb (La (Lb (Lb (A 41)))))))))))))))))) (qq cal k m1 m2) (gz cal k m1) (av P bQ)
noncomputable def fV(k:Nat)(m1:Nat)(m2:Nat):XR:=(upX 3 (eX cal k m1 m2) (gz cal k m1))
noncomputable def K41_prrlrllrllrrrlrllrll(k:Nat)(m1:Nat)(m2:Nat):KR:=kD cal m2 41 (cL (cL (cR (cL (cL (cR (cL (cR (cR (cR (cL (cL (cR (cL (cL (cR (cL (cR (cR eV))))))))))))))))))) (La (La (Lb (La (La (Lb (La (Lb (Lb (Lb (La (La (Lb (La (La (Lb (La (Lb (Lb (A 41)))))))))))))))))))) (eX cal k m1 m2) (fV cal k m1 m2) (av P bQ)
noncomputable def K41_prrlrllrllrrrlrllrlll(k:Nat)(m1:Nat)(m2:Nat):KR:=kD cal m2 41 (cL (cL (cL (cR (cL (cL (cR (cL (cR (cR (cR (cL (cL (cR (cL (cL (cR (cL (cR (cR eV)))))))))))))))))))) (La (La (La (Lb (La (La (Lb (La (Lb (Lb (Lb (La (La (Lb (La (La (Lb (La (Lb (Lb (A 41))))))))))))))))))))) (K41_prrlrllrllrrrlrllrll cal k m1 m2) (fV cal k m1 m2) (av P bQ)
noncomputable def K41_prrlrllrllrrrlrllrllr(k:Nat)(m1:Nat)(m2:Nat):KR:=kD cal m2 41 (cR (cL (cL (cR (cL (cL (cR (cL (cR (cR (cR (cL (cL (cR (cL (cL (cR (cL (cR (cR eV)))))))))))))))))))) (Lb (La (La (Lb (La (La (Lb (La (Lb (Lb (Lb (La (La (Lb (La (La (Lb (La (Lb (Lb (A 41))))))))))))))))))))) (eX cal k m1 m2) (fV cal k m1 m2) (av P bQ)
noncomputable def K41_prrlrllrllrrrlrllrllrr(k:Nat)(m1:Nat)(m2:Nat):KR:=kD cal m2 41 (cR (cR (cL (cL (cR (cL (cL (cR (cL (cR (cR (cR (cL (cL (cR (cL (cL (cR (cL (cR (cR eV))))))))))))))))))))) (Lb (Lb (La (La (Lb (La (La (Lb (La (Lb (Lb (Lb (La (La (Lb (La (La (Lb (La (Lb (Lb (A 41)))))))))))))))))))))) (eX cal k m1 m2) (fV cal k m1 m2) (av P bQ)
noncomputable def K41_prrlrllrllrrrlrllrllrrr(k:Nat)(m1:Nat)(m2:Nat):KR:=kD cal m2 41 (cR (cR (cR (cL (cL (cR (cL (cL (cR (cL (cR (cR (cR (cL (cL (cR (cL (cL (cR (cL (cR (cR eV)))))))))))))))))))))) (Lb (Lb (Lb (La (La (Lb (La (La (Lb (La (Lb (Lb (Lb (La (La (Lb (La (La (Lb (La (Lb (Lb (A 41))))))))))))))))))))))) (eX cal k m1 m2) (fV cal k m1 m2) (av P bQ)
noncomputable def K41_prrlrllrllrrrlrllrllrrrr(k:Nat)(m1:Nat)(m2:Nat):KR:=kD cal m2 41 (cR (cR (cR (cR (cL (cL (cR (cL (cL (cR (cL (cR (cR (cR (cL (cL (cR (cL (cL (cR (cL (cR (cR eV))))))))))))))))))))))) (Lb (Lb (Lb (Lb (La (La (Lb (La (La (Lb (La (Lb (Lb (Lb (La (La (Lb (La (La (Lb (La (Lb (Lb (A 41)))))))))))))))))))))))) (eX cal k m1 m2) (fV cal k m1 m2) (av P bQ)
noncomputable def dW(k:Nat)(m1:Nat)(m2:Nat):XR:=(upX 4 (eX cal k m1 m2) (fV cal k m1 m2))
noncomputable def mW(k:Nat)(m1:Nat)(m2:Nat)(m3:Nat):KR:=(fun T H n D=>aK P cal m3 (La (Lb (Lb (Lb (Lb (Lb (La (La (Lb (La (La (Lb (La (Lb (Lb (Lb (La (La (Lb (La (La (Lb (La (Lb (Lb (A 41)))))))))))))))))))))))))) none 41 (cL (cR (cR (cR (cR (cR (cL (cL (cR (cL (cL (cR (cL (cR (cR (cR (cL (cL (cR (cL (cL (cR (cL (cR (cR eV))))))))))))))))))))))))) (eX cal k m1 m2) (dW cal k m1 m2) (av P bQ) (cutT (La (Lb (Lb (Lb (Lb (Lb (La (La (Lb (La (La (Lb (La (Lb (Lb (Lb (La (La (Lb (La (La (Lb (La (Lb (Lb (A 41)))))))))))))))))))))))))).c T) H n D)
noncomputable def K41_prrlrllrllrrrlrllrllrrrrrll(k:Nat)(m1:Nat)(m2:Nat)(m3:Nat):KR:=kD cal m3 41 (cL (cL (cR (cR (cR (cR (cR (cL (cL (cR (cL (cL (cR (cL (cR (cR (cR (cL (cL (cR (cL (cL (cR (cL (cR (cR eV)))))))))))))))))))))))))) (La (La (Lb (Lb (Lb (Lb (Lb (La (La (Lb (La (La (Lb (La (Lb (Lb (Lb (La (La (Lb (La (La (Lb (La (Lb (Lb (A 41))))))))))))))))))))))))))) (mW cal k m1 m2 m3) (dW cal k m1 m2) (av P bQ)
noncomputable def K41_prrlrllrllrrrlrllrllrrrrrlll(k:Nat)(m1:Nat)(m2:Nat)(m3:Nat):KR:=kD cal m3 41 (cL (cL (cL (cR (cR (cR (cR (cR (cL (cL (cR (cL (cL (cR (cL (cR (cR (cR (cL (cL (cR (cL (cL (cR (cL (cR (cR eV))))))))))))))))))))))))))) (La (La (La (Lb (Lb (Lb (Lb (Lb (La (La (Lb (La (La (Lb (La (Lb (Lb (Lb (La (La (Lb (La (La (Lb (La (Lb (Lb (A 41)))))))))))))))))))))))))))) (K41_prrlrllrllrrrlrllrllrrrrrll cal k m1 m2 m3) (dW cal k m1 m2) (av P bQ)
noncomputable def K41_prrlrllrllrrrlrllrllrrrrrllr(k:Nat)(m1:Nat)(m2:Nat)(m3:Nat):KR:=kD cal m3 41 (cR (cL (cL (cR (cR (cR (cR (cR (cL (cL (cR (cL (cL (cR (cL (cR (cR (cR (cL (cL (cR (cL (cL (cR (cL (cR (cR eV))))))))))))))))))))))))))) (Lb (La (La (Lb (Lb (Lb (Lb (Lb (La (La (Lb (La (La (Lb (La (Lb (Lb (Lb (La (La (Lb (La (La (Lb (La (Lb (Lb (A 41)))))))))))))))))))))))))))) (mW cal k m1 m2 m3) (dW cal k m1 m2) (av P bQ)
noncomputable def K41_pxrrlrllrllrrrlrllrllrrrrrllrl(k:Nat)(m1:Nat)(m2:Nat)(m3:Nat):XR:=(upX 5 (K41_prrlrllrllrrrlrllrllrrrrrllr cal k m1 m2 m3) (dW cal k m1 m2))
noncomputable def K41_prrlrllrllrrrlrllrllrrrrrllrll(k:Nat)(m1:Nat)(m2:Nat)(m3:Nat):KR:=kD cal m3 41 (cL (cL (cR (cL (cL (cR (cR (cR (cR (cR (cL (cL (cR (cL (cL (cR (cL (cR (cR (cR (cL (cL (cR (cL (cL (cR (cL (cR (cR eV))))))))))))))))))))))))))))) (La (La (Lb (La (La (Lb (Lb (Lb (Lb (Lb (La (La (Lb (La (La (Lb (La (Lb (Lb (Lb (La (La (Lb (La (La (Lb (La (Lb (Lb (A 41)))))))))))))))))))))))))))))) (K41_prrlrllrllrrrlrllrllrrrrrllr cal k m1 m2 m3) (K41_pxrrlrllrllrrrlrllrllrrrrrllrl cal k m1 m2 m3) (av P bQ)
noncomputable def rZ(k:Nat)(m1:Nat):KR:=kD cal m1 41 (cR (cR (cR (cR (cL (cL (cR (cL (cL (cR (cL (cR (cR eV))))))))))))) (Lb (Lb (Lb (Lb (La (La (Lb (La (La (Lb (La (Lb (Lb (A 41)))))))))))))) (qj cal k m1) (gW cal k m1) (av P bQ)
noncomputable def K41_prrlrllrllrrrrl(k:Nat)(m1:Nat):KR:=kD cal m1 41 (cL (cR (cR (cR (cR (cL (cL (cR (cL (cL (cR (cL (cR (cR eV)))))))))))))) (La (Lb (Lb (Lb (Lb (La (La (Lb (La (La (Lb (La (Lb (Lb (A 41))))))))))))))) (rZ cal k m1) (gW cal k m1) (av P bQ)
noncomputable def iw(k:Nat)(m1:Nat):XR:=(upX 6 (rZ cal k m1) (gW cal k m1))
noncomputable def sY(k:Nat)(m1:Nat)(m2:Nat):KR:=(fun T H n D=>aK P cal m2 (La (Lb (La (Lb (Lb (Lb (Lb (La (La (Lb (La (La (Lb (La (Lb (Lb (A 41))))))))))))))))) none 41 (cL (cR (cL (cR (cR (cR (cR (cL (cL (cR (cL (cL (cR (cL (cR (cR eV)))))))))))))))) (rZ cal k m1) (iw cal k m1) (av P bQ) (cutT (La (Lb (La (Lb (Lb (Lb (Lb (La (La (Lb (La (La (Lb (La (Lb (Lb (A 41))))))))))))))))).c T) H n D)
noncomputable def K41_prrlrllrllrrrrlrll(k:Nat)(m1:Nat)(m2:Nat):KR:=kD cal m2 41 (cL (cL (cR (cL (cR (cR (cR (cR (cL (cL (cR (cL (cL (cR (cL (cR (cR eV))))))))))))))))) (La (La (Lb (La (Lb (Lb (Lb (Lb (La (La (Lb (La (La (Lb (La (Lb (Lb (A 41)))))))))))))))))) (sY cal k m1 m2) (iw cal k m1) (av P bQ)
noncomputable def K41_prrlrllrllrrrrlrlll(k:Nat)(m1:Nat)(m2:Nat):KR:=kD cal m2 41 (cL (cL (cL (cR (cL (cR (cR (cR (cR (cL (cL (cR (cL (cL (cR (cL (cR (cR eV)))))))))))))))))) (La (La (La (Lb (La (Lb (Lb (Lb (Lb (La (La (Lb (La (La (Lb (La (Lb (Lb (A 41))))))))))))))))))) (K41_prrlrllrllrrrrlrll cal k m1 m2) (iw cal k m1) (av P bQ)
noncomputable def K41_prrlrllrllrrrrlrllr(k:Nat)(m1:Nat)(m2:Nat):KR:=kD cal m2 41 (cR (cL (cL (cR (cL (cR (cR (cR (cR (cL (cL (cR (cL (cL (cR (cL (cR (cR eV)))))))))))))))))) (Lb (La (La (Lb (La (Lb (Lb (Lb (Lb (La (La (Lb (La (La (Lb (La (Lb (Lb (A 41))))))))))))))))))) (sY cal k m1 m2) (iw cal k m1) (av P bQ)
noncomputable def K41_pxrrlrllrllrrrrlrllrl(k:Nat)(m1:Nat)(m2:Nat):XR:=(upX 7 (K41_prrlrllrllrrrrlrllr cal k m1 m2) (iw cal k m1))
noncomputable def K41_prrlrllrllrrrrlrllrll(k:Nat)(m1:Nat)(m2:Nat):KR:=kD cal m2 41 (cL (cL (cR (cL (cL (cR (cL (cR (cR (cR (cR (cL (cL (cR (cL (cL (cR (cL (cR (cR eV)))))))))))))))))))) (La (La (Lb (La (La (Lb (La (Lb (Lb (Lb (Lb (La (La (Lb (La (La (Lb (La (Lb (Lb (A 41))))))))))))))))))))) (K41_prrlrllrllrrrrlrllr cal k m1 m2) (K41_pxrrlrllrllrrrrlrllrl cal k m1 m2) (av P bQ)
noncomputable def K41_prrlrllrllrrrrr(k:Nat)(m1:Nat):KR:=kD cal m1 41 (cR (cR (cR (cR (cR (cL (cL (cR (cL (cL (cR (cL (cR (cR eV)))))))))))))) (Lb (Lb (Lb (Lb (Lb (La (La (Lb (La (La (Lb (La (Lb (Lb (A 41))))))))))))))) (qj cal k m1) (gW cal k m1) (av P bQ)
noncomputable def K41_prrlrllrllrrrrrrl(k:Nat)(m1:Nat):KR:=kD cal m1 41 (cL (cR (cR (cR (cR (cR (cR (cL (cL (cR (cL (cL (cR (cL (cR (cR eV)))))))))))))))) (La (Lb (Lb (Lb (Lb (Lb (Lb (La (La (Lb (La (La (Lb (La (Lb (Lb (A 41))))))))))))))))) (qj cal k m1) (gW cal k m1) (av P bQ)
noncomputable def K41_prrr:KR:=kD cal k 41 (cR (cR (cR eV))) (Lb (Lb (Lb (A 41)))) (av P bQ) X0 (av P bQ)
noncomputable def E41_2(k m1:Nat):KR:=cj P cal (aK P cal m1) none 41 (cR (cR (cL (cL (cR (cL (cR (cR eV)))))))) (Lb (Lb (La (La (Lb (La (Lb (Lb (A 41))))))))) (Ly cal k m1) (uk cal k) (av P bQ)
noncomputable def E41_4(k m1 m2:Nat):KR:=cj P cal (aK P cal m2) none 41 (cR (cR (cL (cL (cR (cL (cR (cR (cR (cL (cL (cR (cL (cL (cR (cL (cR (cR eV)))))))))))))))))) (Lb (Lb (La (La (Lb (La (Lb (Lb (Lb (La (La (Lb (La (La (Lb (La (Lb (Lb (A 41))))))))))))))))))) (qq cal k m1 m2) (gz cal k m1) (av P bQ)
noncomputable def E41_5(k m1 m2 m3:Nat):KR:=cj P cal (aK P cal m3) none 41 (cL (cL (cR (cR (cR (cR (cR (cL (cL (cR (cL (cL (cR (cL (cR (cR (cR (cL (cL (cR (cL (cL (cR (cL (cR (cR eV)))))))))))))))))))))))))) (La (La (Lb (Lb (Lb (Lb (Lb (La (La (Lb (La (La (Lb (La (Lb (Lb (Lb (La (La (Lb (La (La (Lb (La (Lb (Lb (A 41))))))))))))))))))))))))))) (mW cal k m1 m2 m3) (dW cal k m1 m2) (av P bQ)
noncomputable def R41_5(k m1 m2 m3:Nat):V11:=fun u1 u2 u5 u6 u7 u8 u9 u10 u11 u12 u14 H n=>aK P cal m3 (La (Lb (Lb (Lb (Lb (Lb (La (La (Lb (La (La (Lb (La (Lb (Lb (Lb (La (La (Lb (La (La (Lb (La (Lb (Lb (A 41)))))))))))))))))))))))))) none 41 (cL (cR (cR (cR (cR (cR (cL (cL (cR (cL (cL (cR (cL (cR (cR (cR (cL (cL (cR (cL (cL (cR (cL (cR (cR eV))))))))))))))))))))))))) (eX cal k m1 m2) (dW cal k m1 m2) (av P bQ) (ts (ts (ts (ts (ts (ts (ts (ts (ts (ts (ts Tr.nil 14 u14) 12 u12) 11 u11) 10 u10) 9 u9) 8 u8) 7 u7) 6 u6) 5 u5) 2 u2) 1 u1) H n []
noncomputable def E41_6(k m1 m2:Nat):KR:=cj P cal (aK P cal m2) none 41 (cL (cL (cR (cL (cR (cR (cR (cR (cL (cL (cR (cL (cL (cR (cL (cR (cR eV))))))))))))))))) (La (La (Lb (La (Lb (Lb (Lb (Lb (La (La (Lb (La (La (Lb (La (Lb (Lb (A 41)))))))))))))))))) (sY cal k m1 m2) (iw cal k m1) (av P bQ)
noncomputable def R41_6(k m1 m2:Nat):V8:=fun u1 u2 u5 u6 u8 u9 u10 u17 H n=>aK P cal m2 (La (Lb (La (Lb (Lb (Lb (Lb (La (La (Lb (La (La (Lb (La (Lb (Lb (A 41))))))))))))))))) none 41 (cL (cR (cL (cR (cR (cR (cR (cL (cL (cR (cL (cL (cR (cL (cR (cR eV)))))))))))))))) (rZ cal k m1) (iw cal k m1) (av P bQ) (ts (ts (ts (ts (ts (ts (ts (ts Tr.nil 17 u17) 10 u10) 9 u9) 8 u8) 6 u6) 5 u5) 2 u2) 1 u1) H n []
noncomputable def E41_3(k m1 m2:Nat):KR:=cj P cal (aK P cal m2) none 41 (cL (cL (cR (cL (cR (cR (cR (cL (cL (cR (cL (cL (cR (cL (cR (cR eV)))))))))))))))) (La (La (Lb (La (Lb (Lb (Lb (La (La (Lb (La (La (Lb (La (Lb (Lb (A 41))))))))))))))))) (qq cal k m1 m2) (gz cal k m1) (av P bQ)
noncomputable def GV(k m1 m2:Nat):V9:=fun u1 u2 u5 u6 u7 u8 u9 u10 u11 H n=>aK P cal m2 (La (Lb (La (Lb (Lb (Lb (La (La (Lb (La (La (Lb (La (Lb (Lb (A 41)))))))))))))))) none 41 (cL (cR (cL (cR (cR (cR (cL (cL (cR (cL (cL (cR (cL (cR (cR eV))))))))))))))) (tQ cal k m1) (gz cal k m1) (av P bQ) (ts (ts (ts (ts (ts (ts (ts (ts (ts Tr.nil 11 u11) 10 u10) 9 u9) 8 u8) 7 u7) 6 u6) 5 u5) 2 u2) 1 u1) H n []
noncomputable def E41_1(k m1:Nat):KR:=cj P cal (aK P cal m1) none 41 (cL (cL (cR (cL (cR (cR eV)))))) (La (La (Lb (La (Lb (Lb (A 41))))))) (Ly cal k m1) (uk cal k) (av P bQ)
noncomputable def qW(k m1:Nat):V4:=fun u1 u2 u5 u6 H n=>aK P cal m1 (La (Lb (La (Lb (Lb (A 41)))))) none 41 (cL (cR (cL (cR (cR eV))))) (qfz cal k) (uk cal k) (av P bQ) (ts (ts (ts (ts Tr.nil 6 u6) 5 u5) 2 u2) 1 u1) H n []
noncomputable def B41_2(cal:Cal)(k m1:Nat)(b1:V4)(u1 u2 u5 u6:Value)(H:Hp)(n:Nat):Res:=
binK P .add 3 (.tmp 28) (.const (.int .i64 1)) u6 (.int .i64 1) fun v_h=>
b1 u1 u2 u5 v_h H n
noncomputable def My(k m1:Nat)(b1:V4)(u1 u2 u5 u6:Value)(H:Hp)(n:Nat):Res:=B41_2 cal k m1 b1 u1 u2 u5 u6 H n
theorem h41_2(k m1:Nat)(u1 u2 u5 u6:Value)(H:Hp)(n:Nat):labK (E41_2 cal k m1) (ts (ts (ts (ts Tr.nil 6 u6) 5 u5) 2 u2) 1 u1) H n []=My cal k m1 (qW cal k m1) u1 u2 u5 u6 H n:=by
 refine Eq.trans (b:=B41_2 cal k m1 (qW cal k m1) u1 u2 u5 u6 H n) (by kernel_rfl) ?_
 rw[My]
noncomputable def B41_4(cal:Cal)(k m1 m2:Nat)(b1:V4)(b3:V9)(u1 u2 u5 u6 u7 u8 u9 u10 u11:Value)(H:Hp)(n:Nat):Res:=
binK P .add 3 (.tmp 52) (.const (.int .i64 1)) u11 (.int .i64 1) fun v_1j=>
b3 u1 u2 u5 u6 u7 u8 u9 u10 v_1j H n
noncomputable def Mz(k m1 m2:Nat)(b1:V4)(b3:V9)(u1 u2 u5 u6 u7 u8 u9 u10 u11:Value)(H:Hp)(n:Nat):Res:=B41_4 cal k m1 m2 b1 b3 u1 u2 u5 u6 u7 u8 u9 u10 u11 H n
theorem h41_4(k m1 m2:Nat)(u1 u2 u5 u6 u7 u8 u9 u10 u11:Value)(H:Hp)(n:Nat):labK (E41_4 cal k m1 m2) (ts (ts (ts (ts (ts (ts (ts (ts (ts Tr.nil 11 u11) 10 u10) 9 u9) 8 u8) 7 u7) 6 u6) 5 u5) 2 u2) 1 u1) H n []=Mz cal k m1 m2 (qW cal k m1) (GV cal k m1 m2) u1 u2 u5 u6 u7 u8 u9 u10 u11 H n:=by
 refine Eq.trans (b:=B41_4 cal k m1 m2 (qW cal k m1) (GV cal k m1 m2) u1 u2 u5 u6 u7 u8 u9 u10 u11 H n) (by kernel_rfl) ?_
 rw[Mz]
noncomputable def B41_5(cal:Cal)(k m1 m2 m3:Nat)(j4:V9)(b1:V4)(b3:V9)(b5:V11)(u1 u2 u5 u6 u7 u8 u9 u10 u11 u12 u14:Value)(H:Hp)(n:Nat):Res:=
binK P .lss 3 (.tmp 89) (.tmp 90) u14 u5 fun v_2v=>
ifK v_2v (
aq (aV u2) fun a_2w=>aq (az P H 26 a_2w) fun v_2x=>
aq (aJ P 44 u1 u11) fun v_30=>
aq (aV v_30) fun a_31=>aq (az P H 3 a_31) fun v_32=>
binK P .add 3 (.tmp 103) (.tmp 104) u5 u14 fun v_38=>
aq (dX P v_38 (convert 3 136 v_38)) fun v_39=>
binK P .shr 3 (.tmp 102) (.tmp 106) u6 v_39 fun v_3a=>
binK P .rem 3 (.tmp 107) (.const (.int .i64 2)) v_3a (.int .i64 2) fun v_3b=>
aq (iJ P 55) fun z_3e=>newK (aZ z_3e) 55 H n fun H_3c n_3d=>
effK P [(.a n (aZ z_3e) 55)] H_3c n_3d (fun H_3f n_3g k_3h=>
aX P cal 77 [v_2x,v_32,u11,u14] H_3f n_3g fun v_3l H_3m n_3n=>
k_3h v_3l H_3m n_3n) fun v_3i H_3j n_3k=>
aq (bX P 55 (ptr n) v_3i H_3j) fun H_3p=>
aq (aw P 55 (ptr n) 0) fun v_3s=>
aq (aV v_3s) fun a_3t=>aq (az P H_3p 3 a_3t) fun v_3u=>
binK P .mul 3 (.tmp 111) (.tmp 112) v_3u u12 fun v_3w=>
binK P .sub 3 (.const (.int .i64 1)) (.tmp 114) (.int .i64 1) v_3b fun v_3y=>
binK P .mul 3 (.tmp 113) (.tmp 115) v_3w v_3y fun v_3z=>
binK P .add 3 (.tmp 109) (.tmp 116) u9 v_3z fun v_40=>
aq (aw P 55 (ptr n) 1) fun v_42=>
aq (aV v_42) fun a_43=>aq (az P H_3p 3 a_43) fun v_44=>
binK P .sub 3 (.const (.int .i64 1)) (.tmp 121) (.int .i64 1) u12 fun v_46=>
binK P .mul 3 (.tmp 120) (.tmp 122) v_44 v_46 fun v_47=>
binK P .mul 3 (.tmp 123) (.tmp 124) v_47 v_3b fun v_49=>
binK P .add 3 (.tmp 118) (.tmp 125) u10 v_49 fun v_4a=>
binK P .add 3 (.tmp 92) (.const (.int .i64 1)) u14 (.int .i64 1) fun v_4e=>
b5 u1 u2 u5 u6 u7 u8 v_40 v_4a u11 u12 v_4e H_3p n_3k) (
j4 u1 u2 u5 u6 u7 u8 u9 u10 u11 H n)
noncomputable def C41_5(k m1 m2 m3:Nat)(b1:V4)(b3:V9)(b5:V11)(u1 u2 u5 u6 u7 u8 u9 u10 u11 u12 u14:Value)(H:Hp)(n:Nat):Res:=B41_5 cal k m1 m2 m3 (Mz cal k m1 m2 b1 b3) b1 b3 b5 u1 u2 u5 u6 u7 u8 u9 u10 u11 u12 u14 H n
noncomputable def S41_5(k m1 m2:Nat)(b1:V4)(b3:V9):Nat→V11:=fun m=>Nat.rec (motive:=fun _=>V11) (C41_5 cal k m1 m2 0 b1 b3 (fun _ _ _ _ _ _ _ _ _ _ _ _ _=>none)) (fun m ih=>C41_5 cal k m1 m2 (m+1) b1 b3 ih) m
theorem h41_5(k m1 m2 m3:Nat)(u1 u2 u5 u6 u7 u8 u9 u10 u11 u12 u14:Value)(H:Hp)(n:Nat):labK (E41_5 cal k m1 m2 m3) (ts (ts (ts (ts (ts (ts (ts (ts (ts (ts (ts Tr.nil 14 u14) 12 u12) 11 u11) 10 u10) 9 u9) 8 u8) 7 u7) 6 u6) 5 u5) 2 u2) 1 u1) H n []=C41_5 cal k m1 m2 m3 (qW cal k m1) (GV cal k m1 m2) (R41_5 cal k m1 m2 m3) u1 u2 u5 u6 u7 u8 u9 u10 u11 u12 u14 H n:=by
 refine Eq.trans (b:=B41_5 cal k m1 m2 m3 (fun u1 u2 u5 u6 u7 u8 u9 u10 u11 H n=>labK (E41_4 cal k m1 m2) (ts (ts (ts (ts (ts (ts (ts (ts (ts Tr.nil 11 u11) 10 u10) 9 u9) 8 u8) 7 u7) 6 u6) 5 u5) 2 u2) 1 u1) H n []) (qW cal k m1) (GV cal k m1 m2) (R41_5 cal k m1 m2 m3) u1 u2 u5 u6 u7 u8 u9 u10 u11 u12 u14 H n) (by kernel_rfl) ?_
 rw[C41_5]
 have e4:(fun u1 u2 u5 u6 u7 u8 u9 u10 u11 H n=>labK (E41_4 cal k m1 m2) (ts (ts (ts (ts (ts (ts (ts (ts (ts Tr.nil 11 u11) 10 u10) 9 u9) 8 u8) 7 u7) 6 u6) 5 u5) 2 u2) 1 u1) H n [])=(Mz cal k m1 m2 (qW cal k m1) (GV cal k m1 m2)):=by funext u1 u2 u5 u6 u7 u8 u9 u10 u11 H n; exact h41_4 ..
 rw[e4]
theorem q41_5(k m1 m2:Nat):∀(m:Nat) (u1 u2 u5 u6 u7 u8 u9 u10 u11 u12 u14:Value) (H:Hp) (n:Nat),labK (E41_5 cal k m1 m2 m) (ts (ts (ts (ts (ts (ts (ts (ts (ts (ts (ts Tr.nil 14 u14) 12 u12) 11 u11) 10 u10) 9 u9) 8 u8) 7 u7) 6 u6) 5 u5) 2 u2) 1 u1) H n []=S41_5 cal k m1 m2 (qW cal k m1) (GV cal k m1 m2) m u1 u2 u5 u6 u7 u8 u9 u10 u11 u12 u14 H n
 | 0,u1,u2,u5,u6,u7,u8,u9,u10,u11,u12,u14,H,n=>by
  rw[h41_5]
  have e:R41_5 cal k m1 m2 0=fun _ _ _ _ _ _ _ _ _ _ _ _ _=>none:=by funext u1 u2 u5 u6 u7 u8 u9 u10 u11 u12 u14 H n; kernel_rfl
  rw[e]; rfl
 | m+1,u1,u2,u5,u6,u7,u8,u9,u10,u11,u12,u14,H,n=>by
  rw[h41_5]
  have e:R41_5 cal k m1 m2 (m+1)=S41_5 cal k m1 m2 (qW cal k m1) (GV cal k m1 m2) m:=by
   funext u1 u2 u5 u6 u7 u8 u9 u10 u11 u12 u14 H n
   have e:R41_5 cal k m1 m2 (m+1) u1 u2 u5 u6 u7 u8 u9 u10 u11 u12 u14 H n=labK (E41_5 cal k m1 m2 m) (ts (ts (ts (ts (ts (ts (ts (ts (ts (ts (ts Tr.nil 14 u14) 12 u12) 11 u11) 10 u10) 9 u9) 8 u8) 7 u7) 6 u6) 5 u5) 2 u2) 1 u1) H n []:=by kernel_rfl
   rw[e]; exact q41_5 ..
  rw[e]; rfl
noncomputable def B41_6(cal:Cal)(k m1 m2:Nat)(j2:V4)(b1:V4)(b6:V8)(u1 u2 u5 u6 u8 u9 u10 u17:Value)(H:Hp)(n:Nat):Res:=
binK P .lss 3 (.tmp 127) (.tmp 128) u17 u5 fun v_4j=>
ifK v_4j (
binK P .add 3 (.tmp 133) (.tmp 134) u5 u17 fun v_4n=>
aq (dX P v_4n (convert 3 136 v_4n)) fun v_4o=>
binK P .shr 3 (.tmp 132) (.tmp 136) u6 v_4o fun v_4p=>
binK P .rem 3 (.tmp 137) (.const (.int .i64 2)) v_4p (.int .i64 2) fun v_4q=>
aq (aw P 26 u2 0) fun v_4t=>
aq (aV v_4t) fun a_4u=>aq (az P H 22 a_4u) fun v_4v=>
aq (aJ P 22 v_4v u17) fun v_4x=>
aq (aw P 95 v_4x 0) fun v_4y=>
aq (aV v_4y) fun a_4z=>aq (az P H 3 a_4z) fun v_50=>
binK P .mul 3 (.tmp 145) (.tmp 146) v_50 v_4q fun v_52=>
binK P .sub 3 (.const (.int .i64 1)) (.tmp 148) (.int .i64 1) u8 fun v_54=>
binK P .mul 3 (.tmp 147) (.tmp 149) v_52 v_54 fun v_55=>
binK P .add 3 (.tmp 139) (.tmp 150) u9 v_55 fun v_56=>
aq (aw P 26 u2 0) fun v_58=>
aq (aV v_58) fun a_59=>aq (az P H 22 a_59) fun v_5a=>
aq (aJ P 22 v_5a u17) fun v_5c=>
aq (aw P 95 v_5c 1) fun v_5d=>
aq (aV v_5d) fun a_5e=>aq (az P H 3 a_5e) fun v_5f=>
binK P .sub 3 (.const (.int .i64 1)) (.tmp 159) (.int .i64 1) v_4q fun v_5h=>
binK P .mul 3 (.tmp 158) (.tmp 160) v_5f v_5h fun v_5i=>
binK P .mul 3 (.tmp 161) (.tmp 162) v_5i u8 fun v_5k=>
binK P .add 3 (.tmp 152) (.tmp 163) u10 v_5k fun v_5l=>
binK P .add 3 (.tmp 130) (.const (.int .i64 1)) u17 (.int .i64 1) fun v_5p=>
b6 u1 u2 u5 u6 u8 v_56 v_5l v_5p H n) (
binK P .gtr 3 (.tmp 165) (.tmp 166) u9 u10 fun v_5t=>
ifK v_5t (
some ((.bool false),H,n)) (
j2 u1 u2 u5 u6 H n))
noncomputable def C41_6(k m1 m2:Nat)(b1:V4)(b6:V8)(u1 u2 u5 u6 u8 u9 u10 u17:Value)(H:Hp)(n:Nat):Res:=B41_6 cal k m1 m2 (My cal k m1 b1) b1 b6 u1 u2 u5 u6 u8 u9 u10 u17 H n
noncomputable def VW(k m1:Nat)(b1:V4):Nat→V8:=fun m=>Nat.rec (motive:=fun _=>V8) (C41_6 cal k m1 0 b1 (fun _ _ _ _ _ _ _ _ _ _=>none)) (fun m ih=>C41_6 cal k m1 (m+1) b1 ih) m
theorem h41_6(k m1 m2:Nat)(u1 u2 u5 u6 u8 u9 u10 u17:Value)(H:Hp)(n:Nat):labK (E41_6 cal k m1 m2) (ts (ts (ts (ts (ts (ts (ts (ts Tr.nil 17 u17) 10 u10) 9 u9) 8 u8) 6 u6) 5 u5) 2 u2) 1 u1) H n []=C41_6 cal k m1 m2 (qW cal k m1) (R41_6 cal k m1 m2) u1 u2 u5 u6 u8 u9 u10 u17 H n:=by
 refine Eq.trans (b:=B41_6 cal k m1 m2 (fun u1 u2 u5 u6 H n=>labK (E41_2 cal k m1) (ts (ts (ts (ts Tr.nil 6 u6) 5 u5) 2 u2) 1 u1) H n []) (qW cal k m1) (R41_6 cal k m1 m2) u1 u2 u5 u6 u8 u9 u10 u17 H n) (by kernel_rfl) ?_
 rw[C41_6]
 have e2:(fun u1 u2 u5 u6 H n=>labK (E41_2 cal k m1) (ts (ts (ts (ts Tr.nil 6 u6) 5 u5) 2 u2) 1 u1) H n [])=(My cal k m1 (qW cal k m1)):=by funext u1 u2 u5 u6 H n; exact h41_2 ..
 rw[e2]
theorem q41_6(k m1:Nat):∀(m:Nat) (u1 u2 u5 u6 u8 u9 u10 u17:Value) (H:Hp) (n:Nat),labK (E41_6 cal k m1 m) (ts (ts (ts (ts (ts (ts (ts (ts Tr.nil 17 u17) 10 u10) 9 u9) 8 u8) 6 u6) 5 u5) 2 u2) 1 u1) H n []=VW cal k m1 (qW cal k m1) m u1 u2 u5 u6 u8 u9 u10 u17 H n
 | 0,u1,u2,u5,u6,u8,u9,u10,u17,H,n=>by
  rw[h41_6]
  have e:R41_6 cal k m1 0=fun _ _ _ _ _ _ _ _ _ _=>none:=by funext u1 u2 u5 u6 u8 u9 u10 u17 H n; kernel_rfl
  rw[e]; rfl
 | m+1,u1,u2,u5,u6,u8,u9,u10,u17,H,n=>by
  rw[h41_6]
  have e:R41_6 cal k m1 (m+1)=VW cal k m1 (qW cal k m1) m:=by
   funext u1 u2 u5 u6 u8 u9 u10 u17 H n
   have e:R41_6 cal k m1 (m+1) u1 u2 u5 u6 u8 u9 u10 u17 H n=labK (E41_6 cal k m1 m) (ts (ts (ts (ts (ts (ts (ts (ts Tr.nil 17 u17) 10 u10) 9 u9) 8 u8) 6 u6) 5 u5) 2 u2) 1 u1) H n []:=by kernel_rfl
   rw[e]; exact q41_6 ..
  rw[e]; rfl
noncomputable def B41_3(cal:Cal)(k m1 m2:Nat)(j4:V9)(j5:V11)(j6:V8)(b1:V4)(b3:V9)(u1 u2 u5 u6 u7 u8 u9 u10 u11:Value)(H:Hp)(n:Nat):Res:=
binK P .lss 3 (.tmp 49) (.tmp 50) u11 u5 fun v_1h=>
ifK v_1h (
aq (aJ P 44 u1 u11) fun v_1n=>
aq (aV v_1n) fun a_1p=>aq (az P H 3 a_1p) fun v_1o=>
binK P .lss 3 (.tmp 57) (.const (.int .i64 0)) v_1o (.int .i64 0) fun v_1q=>
ifK v_1q (
j4 u1 u2 u5 u6 u7 u8 u9 u10 u11 H n) (
aq (dX P u11 (convert 3 136 u11)) fun v_1t=>
binK P .shr 3 (.tmp 59) (.tmp 61) u6 v_1t fun v_1u=>
binK P .rem 3 (.tmp 62) (.const (.int .i64 2)) v_1u (.int .i64 2) fun v_1v=>
aq (aw P 26 u2 2) fun v_1x=>
aq (aV v_1x) fun a_1y=>aq (az P H 24 a_1y) fun v_1z=>
aq (aJ P 44 u1 u11) fun v_22=>
aq (aV v_22) fun a_23=>aq (az P H 3 a_23) fun v_24=>
aq (aJ P 24 v_1z v_24) fun v_25=>
aq (aw P 94 v_25 0) fun v_26=>
aq (aV v_26) fun a_27=>aq (az P H 3 a_27) fun v_28=>
binK P .mul 3 (.tmp 74) (.tmp 75) v_28 u7 fun v_2d=>
binK P .sub 3 (.const (.int .i64 1)) (.tmp 77) (.int .i64 1) v_1v fun v_2f=>
binK P .mul 3 (.tmp 76) (.tmp 78) v_2d v_2f fun v_2g=>
binK P .add 3 (.tmp 73) (.tmp 79) u9 v_2g fun v_2h=>
binK P .sub 3 (.const (.int .i64 1)) (.tmp 83) (.int .i64 1) u7 fun v_2l=>
binK P .mul 3 (.tmp 82) (.tmp 84) v_28 v_2l fun v_2m=>
binK P .mul 3 (.tmp 85) (.tmp 86) v_2m v_1v fun v_2o=>
binK P .add 3 (.tmp 81) (.tmp 87) u10 v_2o fun v_2p=>
j5 u1 u2 u5 u6 u7 u8 v_2h v_2p u11 v_1v (.int .i64 0) H n)) (
j6 u1 u2 u5 u6 u8 u9 u10 (.int .i64 0) H n)
noncomputable def C41_3(k m1 m2:Nat)(b1:V4)(b3:V9)(u1 u2 u5 u6 u7 u8 u9 u10 u11:Value)(H:Hp)(n:Nat):Res:=B41_3 cal k m1 m2 (Mz cal k m1 m2 b1 b3) (S41_5 cal k m1 m2 b1 b3 m2) (VW cal k m1 b1 m1) b1 b3 u1 u2 u5 u6 u7 u8 u9 u10 u11 H n
noncomputable def S41_3(k m1:Nat)(b1:V4):Nat→V9:=fun m=>Nat.rec (motive:=fun _=>V9) (C41_3 cal k m1 0 b1 (fun _ _ _ _ _ _ _ _ _ _ _=>none)) (fun m ih=>C41_3 cal k m1 (m+1) b1 ih) m
theorem h41_3(k m1 m2:Nat)(u1 u2 u5 u6 u7 u8 u9 u10 u11:Value)(H:Hp)(n:Nat):labK (E41_3 cal k m1 m2) (ts (ts (ts (ts (ts (ts (ts (ts (ts Tr.nil 11 u11) 10 u10) 9 u9) 8 u8) 7 u7) 6 u6) 5 u5) 2 u2) 1 u1) H n []=C41_3 cal k m1 m2 (qW cal k m1) (GV cal k m1 m2) u1 u2 u5 u6 u7 u8 u9 u10 u11 H n:=by
 refine Eq.trans (b:=B41_3 cal k m1 m2 (fun u1 u2 u5 u6 u7 u8 u9 u10 u11 H n=>labK (E41_4 cal k m1 m2) (ts (ts (ts (ts (ts (ts (ts (ts (ts Tr.nil 11 u11) 10 u10) 9 u9) 8 u8) 7 u7) 6 u6) 5 u5) 2 u2) 1 u1) H n []) (fun u1 u2 u5 u6 u7 u8 u9 u10 u11 u12 u14 H n=>labK (E41_5 cal k m1 m2 m2) (ts (ts (ts (ts (ts (ts (ts (ts (ts (ts (ts Tr.nil 14 u14) 12 u12) 11 u11) 10 u10) 9 u9) 8 u8) 7 u7) 6 u6) 5 u5) 2 u2) 1 u1) H n []) (fun u1 u2 u5 u6 u8 u9 u10 u17 H n=>labK (E41_6 cal k m1 m1) (ts (ts (ts (ts (ts (ts (ts (ts Tr.nil 17 u17) 10 u10) 9 u9) 8 u8) 6 u6) 5 u5) 2 u2) 1 u1) H n []) (qW cal k m1) (GV cal k m1 m2) u1 u2 u5 u6 u7 u8 u9 u10 u11 H n) (by kernel_rfl) ?_
 rw[C41_3]
 have e4:(fun u1 u2 u5 u6 u7 u8 u9 u10 u11 H n=>labK (E41_4 cal k m1 m2) (ts (ts (ts (ts (ts (ts (ts (ts (ts Tr.nil 11 u11) 10 u10) 9 u9) 8 u8) 7 u7) 6 u6) 5 u5) 2 u2) 1 u1) H n [])=(Mz cal k m1 m2 (qW cal k m1) (GV cal k m1 m2)):=by funext u1 u2 u5 u6 u7 u8 u9 u10 u11 H n; exact h41_4 ..
 rw[e4]
 have e5:(fun u1 u2 u5 u6 u7 u8 u9 u10 u11 u12 u14 H n=>labK (E41_5 cal k m1 m2 m2) (ts (ts (ts (ts (ts (ts (ts (ts (ts (ts (ts Tr.nil 14 u14) 12 u12) 11 u11) 10 u10) 9 u9) 8 u8) 7 u7) 6 u6) 5 u5) 2 u2) 1 u1) H n [])=(S41_5 cal k m1 m2 (qW cal k m1) (GV cal k m1 m2) m2):=by funext u1 u2 u5 u6 u7 u8 u9 u10 u11 u12 u14 H n; exact q41_5 ..
 rw[e5]
 have e6:(fun u1 u2 u5 u6 u8 u9 u10 u17 H n=>labK (E41_6 cal k m1 m1) (ts (ts (ts (ts (ts (ts (ts (ts Tr.nil 17 u17) 10 u10) 9 u9) 8 u8) 6 u6) 5 u5) 2 u2) 1 u1) H n [])=(VW cal k m1 (qW cal k m1) m1):=by funext u1 u2 u5 u6 u8 u9 u10 u17 H n; exact q41_6 ..
 rw[e6]
theorem q41_3(k m1:Nat):∀(m:Nat) (u1 u2 u5 u6 u7 u8 u9 u10 u11:Value) (H:Hp) (n:Nat),labK (E41_3 cal k m1 m) (ts (ts (ts (ts (ts (ts (ts (ts (ts Tr.nil 11 u11) 10 u10) 9 u9) 8 u8) 7 u7) 6 u6) 5 u5) 2 u2) 1 u1) H n []=S41_3 cal k m1 (qW cal k m1) m u1 u2 u5 u6 u7 u8 u9 u10 u11 H n
 | 0,u1,u2,u5,u6,u7,u8,u9,u10,u11,H,n=>by
  rw[h41_3]
  have e:GV cal k m1 0=fun _ _ _ _ _ _ _ _ _ _ _=>none:=by funext u1 u2 u5 u6 u7 u8 u9 u10 u11 H n; kernel_rfl
  rw[e]; rfl
 | m+1,u1,u2,u5,u6,u7,u8,u9,u10,u11,H,n=>by
  rw[h41_3]
  have e:GV cal k m1 (m+1)=S41_3 cal k m1 (qW cal k m1) m:=by
   funext u1 u2 u5 u6 u7 u8 u9 u10 u11 H n
   have e:GV cal k m1 (m+1) u1 u2 u5 u6 u7 u8 u9 u10 u11 H n=labK (E41_3 cal k m1 m) (ts (ts (ts (ts (ts (ts (ts (ts (ts Tr.nil 11 u11) 10 u10) 9 u9) 8 u8) 7 u7) 6 u6) 5 u5) 2 u2) 1 u1) H n []:=by kernel_rfl
   rw[e]; exact q41_3 ..
  rw[e]; rfl
noncomputable def B41_1(cal:Cal)(k m1:Nat)(j2:V4)(j3:V9)(b1:V4)(u1 u2 u5 u6:Value)(H:Hp)(n:Nat):Res:=
binK P .mul 3 (.const (.int .i64 2)) (.tmp 22) (.int .i64 2) u5 fun v_b=>
binK P .add 3 (.tmp 23) (.const (.int .i64 2)) v_b (.int .i64 2) fun v_c=>
aq (dX P v_c (convert 3 136 v_c)) fun v_d=>
binK P .shl 3 (.const (.int .i64 1)) (.tmp 25) (.int .i64 1) v_d fun v_e=>
binK P .lss 3 (.tmp 21) (.tmp 26) u6 v_e fun v_f=>
ifK v_f (
binK P .mul 3 (.const (.int .i64 2)) (.tmp 31) (.int .i64 2) u5 fun v_l=>
aq (dX P v_l (convert 3 136 v_l)) fun v_m=>
binK P .shr 3 (.tmp 30) (.tmp 33) u6 v_m fun v_n=>
binK P .rem 3 (.tmp 34) (.const (.int .i64 2)) v_n (.int .i64 2) fun v_o=>
binK P .mul 3 (.const (.int .i64 2)) (.tmp 37) (.int .i64 2) u5 fun v_r=>
binK P .add 3 (.tmp 38) (.const (.int .i64 1)) v_r (.int .i64 1) fun v_s=>
aq (dX P v_s (convert 3 136 v_s)) fun v_t=>
binK P .shr 3 (.tmp 36) (.tmp 40) u6 v_t fun v_u=>
binK P .rem 3 (.tmp 41) (.const (.int .i64 2)) v_u (.int .i64 2) fun v_v=>
binK P .eql 3 (.tmp 43) (.const (.int .i64 1)) v_o (.int .i64 1) fun v_z=>
aQ v_z true (fun k_11=>
k_11 v_v H n) H n fun v_12 H_13 n_14=>
aQ v_z true (fun k_16=>
binK P .eql 3 (.tmp 46) (.const (.int .i64 0)) v_12 (.int .i64 0) fun v_1a=>
k_16 v_1a H_13 n_14) H_13 n_14 fun v_17 H_18 n_19=>
aq (fy v_z v_17 (.bool false)) fun v_1b=>
ifK v_1b (
j2 u1 u2 u5 u6 H_18 n_19) (
j3 u1 u2 u5 u6 v_o v_v (.int .i64 0) (.int .i64 0) (.int .i64 0) H_18 n_19)) (
some ((.bool true),H,n))
noncomputable def C41_1(k m1:Nat)(b1:V4)(u1 u2 u5 u6:Value)(H:Hp)(n:Nat):Res:=B41_1 cal k m1 (My cal k m1 b1) (S41_3 cal k m1 b1 m1) b1 u1 u2 u5 u6 H n
noncomputable def S41_1(k:Nat):Nat→V4:=fun m=>Nat.rec (motive:=fun _=>V4) (C41_1 cal k 0 (fun _ _ _ _ _ _=>none)) (fun m ih=>C41_1 cal k (m+1) ih) m
theorem h41_1(k m1:Nat)(u1 u2 u5 u6:Value)(H:Hp)(n:Nat):labK (E41_1 cal k m1) (ts (ts (ts (ts Tr.nil 6 u6) 5 u5) 2 u2) 1 u1) H n []=C41_1 cal k m1 (qW cal k m1) u1 u2 u5 u6 H n:=by
 refine Eq.trans (b:=B41_1 cal k m1 (fun u1 u2 u5 u6 H n=>labK (E41_2 cal k m1) (ts (ts (ts (ts Tr.nil 6 u6) 5 u5) 2 u2) 1 u1) H n []) (fun u1 u2 u5 u6 u7 u8 u9 u10 u11 H n=>labK (E41_3 cal k m1 m1) (ts (ts (ts (ts (ts (ts (ts (ts (ts Tr.nil 11 u11) 10 u10) 9 u9) 8 u8) 7 u7) 6 u6) 5 u5) 2 u2) 1 u1) H n []) (qW cal k m1) u1 u2 u5 u6 H n) (by kernel_rfl) ?_
 rw[C41_1]
 have e2:(fun u1 u2 u5 u6 H n=>labK (E41_2 cal k m1) (ts (ts (ts (ts Tr.nil 6 u6) 5 u5) 2 u2) 1 u1) H n [])=(My cal k m1 (qW cal k m1)):=by funext u1 u2 u5 u6 H n; exact h41_2 ..
 rw[e2]
 have e3:(fun u1 u2 u5 u6 u7 u8 u9 u10 u11 H n=>labK (E41_3 cal k m1 m1) (ts (ts (ts (ts (ts (ts (ts (ts (ts Tr.nil 11 u11) 10 u10) 9 u9) 8 u8) 7 u7) 6 u6) 5 u5) 2 u2) 1 u1) H n [])=(S41_3 cal k m1 (qW cal k m1) m1):=by funext u1 u2 u5 u6 u7 u8 u9 u10 u11 H n; exact q41_3 ..
 rw[e3]
theorem q41_1(k:Nat):∀(m:Nat) (u1 u2 u5 u6:Value) (H:Hp) (n:Nat),labK (E41_1 cal k m) (ts (ts (ts (ts Tr.nil 6 u6) 5 u5) 2 u2) 1 u1) H n []=S41_1 cal k m u1 u2 u5 u6 H n
 | 0,u1,u2,u5,u6,H,n=>by
  rw[h41_1]
  have e:qW cal k 0=fun _ _ _ _ _ _=>none:=by funext u1 u2 u5 u6 H n; kernel_rfl
  rw[e]; rfl
 | m+1,u1,u2,u5,u6,H,n=>by
  rw[h41_1]
  have e:qW cal k (m+1)=S41_1 cal k m:=by
   funext u1 u2 u5 u6 H n
   have e:qW cal k (m+1) u1 u2 u5 u6 H n=labK (E41_1 cal k m) (ts (ts (ts (ts Tr.nil 6 u6) 5 u5) 2 u2) 1 u1) H n []:=by kernel_rfl
   rw[e]; exact q41_1 ..
  rw[e]; rfl
noncomputable def B41_0(cal:Cal)(k:Nat)(j1:V4)(v0 v1:Value)(H:Hp)(n:Nat):Res:=
boxK 26 v0 H n fun v_1 H_2 n_3=>
aq (lenV P 44 v1) fun v_6=>
j1 v1 v_1 v_6 (.int .i64 0) H_2 n_3
noncomputable def C41_0(k:Nat)(v0 v1:Value)(H:Hp)(n:Nat):Res:=B41_0 cal k (S41_1 cal k k) v0 v1 H n
theorem h41_0(k:Nat)(v0 v1:Value)(H:Hp)(n:Nat):aY P cal A (k+1) 41 [v0,v1] H n=C41_0 cal k v0 v1 H n:=by
 have h:aY P cal A (k+1) 41 [v0,v1] H n=B41_0 cal k (fun u1 u2 u5 u6 H n=>labK (E41_1 cal k k) (ts (ts (ts (ts Tr.nil 6 u6) 5 u5) 2 u2) 1 u1) H n []) v0 v1 H n:=by
  rw[bY (fn:=Go.Proofs.Try.f41) (c:=eV) (rs:=bQ) (by kernel_rfl) (by kernel_rfl) (by kernel_rfl) (by kernel_rfl)]
  kernel_rfl
 rw[h,C41_0]
 have e1:(fun u1 u2 u5 u6 H n=>labK (E41_1 cal k k) (ts (ts (ts (ts Tr.nil 6 u6) 5 u5) 2 u2) 1 u1) H n [])=(S41_1 cal k k):=by funext u1 u2 u5 u6 H n; exact q41_1 ..
 rw[e1]
noncomputable def vX:Code:=dj 58
noncomputable def iQ:List ResultVar:=fk 58
noncomputable def K58_p:KR:=kD cal k 58 vX (A 58) (av P iQ) X0 (av P iQ)
noncomputable def K58_pr:KR:=kD cal k 58 (cR vX) (Lb (A 58)) (av P iQ) X0 (av P iQ)
noncomputable def K58_prl:KR:=kD cal k 58 (cL (cR vX)) (La (Lb (A 58))) (K58_pr cal k) X0 (av P iQ)
noncomputable def K58_prlrl:KR:=kD cal k 58 (cL (cR (cL (cR vX)))) (La (Lb (La (Lb (A 58))))) (K58_pr cal k) X0 (av P iQ)
noncomputable def qfx:KR:=kD cal k 58 (cR (cR vX)) (Lb (Lb (A 58))) (av P iQ) X0 (av P iQ)
noncomputable def K58_prrl:KR:=kD cal k 58 (cL (cR (cR vX))) (La (Lb (Lb (A 58)))) (qfx cal k) X0 (av P iQ)
noncomputable def xJ(k:Nat):XR:=(upX 0 (qfx cal k) X0)
noncomputable def Tz(k:Nat)(m1:Nat):KR:=(fun T H n D=>aK P cal m1 (La (Lb (La (Lb (Lb (A 58)))))) none 58 (cL (cR (cL (cR (cR vX))))) (qfx cal k) (xJ cal k) (av P iQ) (cutT (La (Lb (La (Lb (Lb (A 58)))))).c T) H n D)
noncomputable def K58_prrlrll(k:Nat)(m1:Nat):KR:=kD cal m1 58 (cL (cL (cR (cL (cR (cR vX)))))) (La (La (Lb (La (Lb (Lb (A 58))))))) (Tz cal k m1) (xJ cal k) (av P iQ)
noncomputable def K58_prrlrlll(k:Nat)(m1:Nat):KR:=kD cal m1 58 (cL (cL (cL (cR (cL (cR (cR vX))))))) (La (La (La (Lb (La (Lb (Lb (A 58)))))))) (K58_prrlrll cal k m1) (xJ cal k) (av P iQ)
noncomputable def Lz(k:Nat)(m1:Nat):KR:=kD cal m1 58 (cR (cL (cL (cR (cL (cR (cR vX))))))) (Lb (La (La (Lb (La (Lb (Lb (A 58)))))))) (Tz cal k m1) (xJ cal k) (av P iQ)
noncomputable def K58_pxrrlrllrl(k:Nat)(m1:Nat):XR:=(upX 1 (Lz cal k m1) (xJ cal k))
noncomputable def K58_prrlrllrll(k:Nat)(m1:Nat):KR:=kD cal m1 58 (cL (cL (cR (cL (cL (cR (cL (cR (cR vX))))))))) (La (La (Lb (La (La (Lb (La (Lb (Lb (A 58)))))))))) (Lz cal k m1) (K58_pxrrlrllrl cal k m1) (av P iQ)
noncomputable def K58_prrlrllrllrl(k:Nat)(m1:Nat):KR:=kD cal m1 58 (cL (cR (cL (cL (cR (cL (cL (cR (cL (cR (cR vX))))))))))) (La (Lb (La (La (Lb (La (La (Lb (La (Lb (Lb (A 58)))))))))))) (Lz cal k m1) (K58_pxrrlrllrl cal k m1) (av P iQ)
noncomputable def K58_prrr:KR:=kD cal k 58 (cR (cR (cR vX))) (Lb (Lb (Lb (A 58)))) (av P iQ) X0 (av P iQ)
noncomputable def E58_1(k m1:Nat):KR:=cj P cal (aK P cal m1) none 58 (cL (cL (cR (cL (cR (cR vX)))))) (La (La (Lb (La (Lb (Lb (A 58))))))) (Tz cal k m1) (xJ cal k) (av P iQ)
noncomputable def R58_1(k m1:Nat):V3:=fun u1 u2 u5 H n=>aK P cal m1 (La (Lb (La (Lb (Lb (A 58)))))) none 58 (cL (cR (cL (cR (cR vX))))) (qfx cal k) (xJ cal k) (av P iQ) (ts (ts (ts Tr.nil 5 u5) 2 u2) 1 u1) H n []
noncomputable def B58_1(cal:Cal)(k m1:Nat)(b1:V3)(u1 u2 u5:Value)(H:Hp)(n:Nat):Res:=
aq (lenV P 44 u1) fun v_g=>
binK P .lss 3 (.tmp 12) (.tmp 14) u5 v_g fun v_h=>
ifK v_h (
aq (aJ P 44 u1 u5) fun v_k=>
aq (aV v_k) fun a_l=>aq (az P H 3 a_l) fun v_m=>
binK P .neq 3 (.tmp 21) (.const (.int .i64 (-1))) v_m (.int .i64 (-1)) fun v_n=>
dJ v_n true (fun k_p=>
k_p u1 .p H n) .p H n fun v_q x_r H_s n_t=>
dJ v_n true (fun k_v=>
k_v u5 .p H_s n_t) .p H_s n_t fun v_w x_x H_y n_z=>
dJ v_n true (fun k_11=>
aq (aJ P 44 v_q v_w) fun v_16=>
k_11 v_16 .p H_y n_z) .p H_y n_z fun v_12 x_13 H_14 n_15=>
dJ v_n true (fun k_17=>
aq (aV v_12) fun a_1c=>aq (az P H_14 3 a_1c) fun v_1d=>
k_17 v_1d (.l 3 a_1c) H_14 n_15) .p H_14 n_15 fun v_18 x_19 H_1a n_1b=>
dJ v_n true (fun k_1e=>
aq (aw P 26 u2 2) fun v_1j=>
k_1e v_1j .p H_1a n_1b) .p H_1a n_1b fun v_1f x_1g H_1h n_1i=>
dJ v_n true (fun k_1k=>
aq (aV v_1f) fun a_1p=>aq (az P H_1h 24 a_1p) fun v_1q=>
k_1k v_1q (.l 24 a_1p) H_1h n_1i) .p H_1h n_1i fun v_1l x_1m H_1n n_1o=>
dJ v_n true (fun k_1r=>
aq (lenV P 24 v_1l) fun v_1w=>
k_1r v_1w .p H_1n n_1o) .p H_1n n_1o fun v_1s x_1t H_1u n_1v=>
dJ v_n true (fun k_1x=>
binK P .sub 3 (.tmp 30) (.const (.int .i64 1)) v_1s (.int .i64 1) fun v_22=>
k_1x v_22 .p H_1u n_1v) .p H_1u n_1v fun v_1y x_1z H_20 n_21=>
dJ v_n true (fun k_23=>
aX P cal 32 [v_18,(.int .i64 0),v_1y] H_20 n_21 fun v_28 H_29 n_2a=>
k_23 v_28 .e H_29 n_2a) .e H_20 n_21 fun v_24 x_25 H_26 n_27=>
dJ v_n true (fun k_2b=>
aq (dX P v_24 (Op.unary UnOp.not v_24)) fun v_2g=>
k_2b v_2g .p H_26 n_27) .p H_26 n_27 fun v_2c x_2d H_2e n_2f=>
dJ v_n true (fun k_2h=>
k_2h v_2c .p H_2e n_2f) .p H_2e n_2f fun v_2i x_2j H_2k n_2l=>
dJ v_2i false (fun k_2n=>
aq (aV u2) fun a_2s=>aq (az P H_2k 26 a_2s) fun v_2t=>
k_2n v_2t (.l 26 a_2s) H_2k n_2l) .p H_2k n_2l fun v_2o x_2p H_2q n_2r=>
dJ v_2i false (fun k_2u=>
k_2u u1 .p H_2q n_2r) .p H_2q n_2r fun v_2v x_2w H_2x n_2y=>
dJ v_2i false (fun k_30=>
k_30 u5 .p H_2x n_2y) .p H_2x n_2y fun v_31 x_32 H_33 n_34=>
dJ v_2i false (fun k_36=>
aq (aJ P 44 v_2v v_31) fun v_3b=>
k_36 v_3b .p H_33 n_34) .p H_33 n_34 fun v_37 x_38 H_39 n_3a=>
dJ v_2i false (fun k_3c=>
aq (aV v_37) fun a_3h=>aq (az P H_39 3 a_3h) fun v_3i=>
k_3c v_3i (.l 3 a_3h) H_39 n_3a) .p H_39 n_3a fun v_3d x_3e H_3f n_3g=>
dJ v_2i false (fun k_3j=>
k_3j u5 .p H_3f n_3g) .p H_3f n_3g fun v_3k x_3l H_3m n_3n=>
dJ v_2i false (fun k_3p=>
aX P cal 21 [v_2o,v_3d,v_3k] H_3m n_3n fun v_3u H_3v n_3w=>
k_3p v_3u .e H_3v n_3w) .e H_3m n_3n fun v_3q x_3r H_3s n_3t=>
dJ v_2i false (fun k_3x=>
aq (dX P v_3q (Op.unary UnOp.not v_3q)) fun v_42=>
k_3x v_42 .p H_3s n_3t) .p H_3s n_3t fun v_3y x_3z H_40 n_41=>
dJ v_n true (fun k_43=>
aq (fy v_2i (.bool true) v_3y) fun v_48=>
k_43 v_48 .p H_40 n_41) .p H_40 n_41 fun v_44 x_45 H_46 n_47=>
aq (fy v_n v_44 (.bool false)) fun v_49=>
ifK v_49 (
some ((.bool false),H_46,n_47)) (
binK P .add 3 (.tmp 16) (.const (.int .i64 1)) u5 (.int .i64 1) fun v_4c=>
b1 u1 u2 v_4c H_46 n_47)) (
some ((.bool true),H,n))
noncomputable def C58_1(k m1:Nat)(b1:V3)(u1 u2 u5:Value)(H:Hp)(n:Nat):Res:=B58_1 cal k m1 b1 u1 u2 u5 H n
noncomputable def S58_1(k:Nat):Nat→V3:=fun m=>Nat.rec (motive:=fun _=>V3) (C58_1 cal k 0 (fun _ _ _ _ _=>none)) (fun m ih=>C58_1 cal k (m+1) ih) m
theorem h58_1(k m1:Nat)(u1 u2 u5:Value)(H:Hp)(n:Nat):labK (E58_1 cal k m1) (ts (ts (ts Tr.nil 5 u5) 2 u2) 1 u1) H n []=C58_1 cal k m1 (R58_1 cal k m1) u1 u2 u5 H n:=by
 refine Eq.trans (b:=B58_1 cal k m1 (R58_1 cal k m1) u1 u2 u5 H n) (by kernel_rfl) ?_
 rw[C58_1]
theorem q58_1(k:Nat):∀(m:Nat) (u1 u2 u5:Value) (H:Hp) (n:Nat),labK (E58_1 cal k m) (ts (ts (ts Tr.nil 5 u5) 2 u2) 1 u1) H n []=S58_1 cal k m u1 u2 u5 H n
 | 0,u1,u2,u5,H,n=>by
  rw[h58_1]
  have e:R58_1 cal k 0=fun _ _ _ _ _=>none:=by funext u1 u2 u5 H n; kernel_rfl
  rw[e]; rfl
 | m+1,u1,u2,u5,H,n=>by
  rw[h58_1]
  have e:R58_1 cal k (m+1)=S58_1 cal k m:=by
   funext u1 u2 u5 H n
   have e:R58_1 cal k (m+1) u1 u2 u5 H n=labK (E58_1 cal k m) (ts (ts (ts Tr.nil 5 u5) 2 u2) 1 u1) H n []:=by kernel_rfl
   rw[e]; exact q58_1 ..
  rw[e]; rfl
noncomputable def B58_0(cal:Cal)(k:Nat)(j1:V3)(v0 v1:Value)(H:Hp)(n:Nat):Res:=
boxK 26 v0 H n fun v_1 H_2 n_3=>
aq (lenV P 44 v1) fun v_6=>
aq (aw P 26 v_1 0) fun v_7=>
aq (aV v_7) fun a_9=>aq (az P H_2 22 a_9) fun v_8=>
aq (lenV P 22 v_8) fun v_a=>
binK P .neq 3 (.tmp 7) (.tmp 10) v_6 v_a fun v_b=>
ifK v_b (
some ((.bool false),H_2,n_3)) (
j1 v1 v_1 (.int .i64 0) H_2 n_3)
noncomputable def C58_0(k:Nat)(v0 v1:Value)(H:Hp)(n:Nat):Res:=B58_0 cal k (S58_1 cal k k) v0 v1 H n
theorem h58_0(k:Nat)(v0 v1:Value)(H:Hp)(n:Nat):aY P cal A (k+1) 58 [v0,v1] H n=C58_0 cal k v0 v1 H n:=by
 have h:aY P cal A (k+1) 58 [v0,v1] H n=B58_0 cal k (fun u1 u2 u5 H n=>labK (E58_1 cal k k) (ts (ts (ts Tr.nil 5 u5) 2 u2) 1 u1) H n []) v0 v1 H n:=by
  rw[bY (fn:=Go.Proofs.Try.f58) (c:=vX) (rs:=iQ) (by kernel_rfl) (by kernel_rfl) (by kernel_rfl) (by kernel_rfl)]
  kernel_rfl
 rw[h,C58_0]
 have e1:(fun u1 u2 u5 H n=>labK (E58_1 cal k k) (ts (ts (ts Tr.nil 5 u5) 2 u2) 1 u1) H n [])=(S58_1 cal k k):=by funext u1 u2 u5 H n; exact q58_1 ..
 rw[e1]
noncomputable def sZ:Code:=dj 60
noncomputable def gY:List ResultVar:=fk 60
noncomputable def K60_p:KR:=kD cal k 60 sZ (A 60) (av P gY) X0 (av P gY)
noncomputable def HW:KR:=kD cal k 60 (cR sZ) (Lb (A 60)) (av P gY) X0 (av P gY)
noncomputable def qv(k:Nat):XR:=(upX 0 (HW cal k) X0)
noncomputable def K60_prllrl:KR:=kD cal k 60 (cL (cR (cL (cL (cR sZ))))) (La (Lb (La (La (Lb (A 60)))))) (HW cal k) (qv cal k) (av P gY)
noncomputable def K60_prllrrrl:KR:=kD cal k 60 (cL (cR (cR (cR (cL (cL (cR sZ))))))) (La (Lb (Lb (Lb (La (La (Lb (A 60)))))))) (HW cal k) (qv cal k) (av P gY)
noncomputable def K60_prllrrrrrl:KR:=kD cal k 60 (cL (cR (cR (cR (cR (cR (cL (cL (cR sZ))))))))) (La (Lb (Lb (Lb (Lb (Lb (La (La (Lb (A 60)))))))))) (HW cal k) (qv cal k) (av P gY)
noncomputable def K60_prr:KR:=kD cal k 60 (cR (cR sZ)) (Lb (Lb (A 60))) (av P gY) X0 (av P gY)
noncomputable def K60_prllrrrr:KR:=kD cal k 60 (cR (cR (cR (cR (cL (cL (cR sZ))))))) (Lb (Lb (Lb (Lb (La (La (Lb (A 60)))))))) (HW cal k) (qv cal k) (av P gY)
noncomputable def K60_prllrrrrl:KR:=kD cal k 60 (cL (cR (cR (cR (cR (cL (cL (cR sZ)))))))) (La (Lb (Lb (Lb (Lb (La (La (Lb (A 60))))))))) (K60_prllrrrr cal k) (qv cal k) (av P gY)
noncomputable def K60_prllrrrrlrr:KR:=kD cal k 60 (cR (cR (cL (cR (cR (cR (cR (cL (cL (cR sZ)))))))))) (Lb (Lb (La (Lb (Lb (Lb (Lb (La (La (Lb (A 60))))))))))) (K60_prllrrrr cal k) (qv cal k) (av P gY)
noncomputable def K60_prllrr:KR:=kD cal k 60 (cR (cR (cL (cL (cR sZ))))) (Lb (Lb (La (La (Lb (A 60)))))) (HW cal k) (qv cal k) (av P gY)
noncomputable def K60_prllrrl:KR:=kD cal k 60 (cL (cR (cR (cL (cL (cR sZ)))))) (La (Lb (Lb (La (La (Lb (A 60))))))) (K60_prllrr cal k) (qv cal k) (av P gY)
noncomputable def K60_prll:KR:=kD cal k 60 (cL (cL (cR sZ))) (La (La (Lb (A 60)))) (HW cal k) (qv cal k) (av P gY)
noncomputable def K60_prlll:KR:=kD cal k 60 (cL (cL (cL (cR sZ)))) (La (La (La (Lb (A 60))))) (K60_prll cal k) (qv cal k) (av P gY)
noncomputable def K60_prlllrr:KR:=kD cal k 60 (cR (cR (cL (cL (cL (cR sZ)))))) (Lb (Lb (La (La (La (Lb (A 60))))))) (K60_prll cal k) (qv cal k) (av P gY)
noncomputable def E60_3(k:Nat):KR:=cj P cal (aK P cal k) none 60 (cR (cR (cR (cR (cR (cL (cL (cR sZ)))))))) (Lb (Lb (Lb (Lb (Lb (La (La (Lb (A 60))))))))) (HW cal k) (qv cal k) (av P gY)
noncomputable def E60_2(k:Nat):KR:=cj P cal (aK P cal k) none 60 (cR (cR (cR (cL (cL (cR sZ)))))) (Lb (Lb (Lb (La (La (Lb (A 60))))))) (HW cal k) (qv cal k) (av P gY)
noncomputable def E60_1(k:Nat):KR:=cj P cal (aK P cal k) none 60 (cR (cL (cL (cR sZ)))) (Lb (La (La (Lb (A 60))))) (HW cal k) (qv cal k) (av P gY)
noncomputable def B60_3(cal:Cal)(k:Nat)(u25:Value)(H:Hp)(n:Nat):Res:=
ifK u25 (
some ((.int .i64 1),H,n)) (
some ((.int .i64 0),H,n))
noncomputable def C60_3(k:Nat)(u25:Value)(H:Hp)(n:Nat):Res:=B60_3 cal k u25 H n
theorem h60_3(k:Nat)(u25:Value)(H:Hp)(n:Nat):labK (E60_3 cal k) (ts Tr.nil 25 u25) H n []=C60_3 cal k u25 H n:=by
 refine Eq.trans (b:=B60_3 cal k u25 H n) (by kernel_rfl) ?_
 rw[C60_3]
noncomputable def B60_2(cal:Cal)(k:Nat)(j3:V1)(u1 u16:Value)(H:Hp)(n:Nat):Res:=
ifK u16 (
some ((.int .i64 1),H,n)) (
aq (aw P 35 u1 0) fun v_9=>
aq (aV v_9) fun a_b=>aq (az P H 31 a_b) fun v_a=>
aX P cal 91 [v_a,(Value.func (.func 92) #[] #[])] H n fun v_c H_d n_e=>
aq (dX P v_c (Op.unary UnOp.not v_c)) fun v_f=>
ifK v_f (
j3 v_f H_d n_e) (
aq (aw P 35 u1 1) fun v_h=>
aq (aV v_h) fun a_j=>aq (az P H_d 32 a_j) fun v_i=>
aq (aV u1) fun a_l=>aq (az P H_d 35 a_l) fun v_k=>
aX P cal 93 [v_i,(Value.func (Fn.func 94) ⟨[v_k]⟩ ⟨[]⟩)] H_d n_e fun v_n H_o n_p=>
aq (dX P v_n (Op.unary UnOp.not v_n)) fun v_q=>
ifK v_q (
j3 v_q H_o n_p) (
aq (aw P 35 u1 2) fun v_s=>
aq (aV v_s) fun a_u=>aq (az P H_o 33 a_u) fun v_t=>
aX P cal 95 [v_t,(Value.func (.func 96) #[] #[])] H_o n_p fun v_v H_w n_x=>
aq (dX P v_v (Op.unary UnOp.not v_v)) fun v_y=>
j3 v_y H_w n_x)))
noncomputable def C60_2(k:Nat)(u1 u16:Value)(H:Hp)(n:Nat):Res:=B60_2 cal k (C60_3 cal k) u1 u16 H n
theorem h60_2(k:Nat)(u1 u16:Value)(H:Hp)(n:Nat):labK (E60_2 cal k) (ts (ts Tr.nil 16 u16) 1 u1) H n []=C60_2 cal k u1 u16 H n:=by
 refine Eq.trans (b:=B60_2 cal k (fun u25 H n=>labK (E60_3 cal k) (ts Tr.nil 25 u25) H n []) u1 u16 H n) (by kernel_rfl) ?_
 rw[C60_2]
 have e3:(fun u25 H n=>labK (E60_3 cal k) (ts Tr.nil 25 u25) H n [])=(C60_3 cal k):=by funext u25 H n; exact h60_3 ..
 rw[e3]
noncomputable def B60_1(cal:Cal)(k:Nat)(j2:V2)(u1 u3:Value)(H:Hp)(n:Nat):Res:=
ifK u3 (
some ((.int .i64 3),H,n)) (
aq (aw P 35 u1 0) fun v_10=>
aq (aV v_10) fun a_12=>aq (az P H 31 a_12) fun v_11=>
aq (lenV P 31 v_11) fun v_13=>
binK P .eql 3 (.tmp 19) (.const (.int .i64 0)) v_13 (.int .i64 0) fun v_14=>
ifK v_14 (
j2 u1 v_14 H n) (
aq (aw P 35 u1 2) fun v_16=>
aq (aV v_16) fun a_18=>aq (az P H 33 a_18) fun v_17=>
aq (lenV P 33 v_17) fun v_19=>
binK P .eql 3 (.tmp 23) (.const (.int .i64 0)) v_19 (.int .i64 0) fun v_1a=>
j2 u1 v_1a H n))
noncomputable def C60_1(k:Nat)(u1 u3:Value)(H:Hp)(n:Nat):Res:=B60_1 cal k (C60_2 cal k) u1 u3 H n
theorem h60_1(k:Nat)(u1 u3:Value)(H:Hp)(n:Nat):labK (E60_1 cal k) (ts (ts Tr.nil 3 u3) 1 u1) H n []=C60_1 cal k u1 u3 H n:=by
 refine Eq.trans (b:=B60_1 cal k (fun u1 u16 H n=>labK (E60_2 cal k) (ts (ts Tr.nil 16 u16) 1 u1) H n []) u1 u3 H n) (by kernel_rfl) ?_
 rw[C60_1]
 have e2:(fun u1 u16 H n=>labK (E60_2 cal k) (ts (ts Tr.nil 16 u16) 1 u1) H n [])=(C60_2 cal k):=by funext u1 u16 H n; exact h60_2 ..
 rw[e2]
noncomputable def B60_0(cal:Cal)(k:Nat)(j1:V2)(v0:Value)(H:Hp)(n:Nat):Res:=
boxK 35 v0 H n fun v_1 H_2 n_3=>
aq (aw P 35 v_1 0) fun v_1c=>
aq (aV v_1c) fun a_1e=>aq (az P H_2 31 a_1e) fun v_1d=>
aq (lenV P 31 v_1d) fun v_1f=>
binK P .gtr 3 (.tmp 6) (.const (.int .i64 8)) v_1f (.int .i64 8) fun v_1g=>
ifK v_1g (
j1 v_1 v_1g H_2 n_3) (
aq (aw P 35 v_1 1) fun v_1i=>
aq (aV v_1i) fun a_1k=>aq (az P H_2 32 a_1k) fun v_1j=>
aq (lenV P 32 v_1j) fun v_1l=>
binK P .gtr 3 (.tmp 10) (.const (.int .i64 16)) v_1l (.int .i64 16) fun v_1m=>
ifK v_1m (
j1 v_1 v_1m H_2 n_3) (
aq (aw P 35 v_1 2) fun v_1o=>
aq (aV v_1o) fun a_1q=>aq (az P H_2 33 a_1q) fun v_1p=>
aq (lenV P 33 v_1p) fun v_1r=>
binK P .gtr 3 (.tmp 14) (.const (.int .i64 3)) v_1r (.int .i64 3) fun v_1s=>
j1 v_1 v_1s H_2 n_3))
noncomputable def C60_0(k:Nat)(v0:Value)(H:Hp)(n:Nat):Res:=B60_0 cal k (C60_1 cal k) v0 H n
theorem h60_0(k:Nat)(v0:Value)(H:Hp)(n:Nat):aY P cal A (k+1) 60 [v0] H n=C60_0 cal k v0 H n:=by
 have h:aY P cal A (k+1) 60 [v0] H n=B60_0 cal k (fun u1 u3 H n=>labK (E60_1 cal k) (ts (ts Tr.nil 3 u3) 1 u1) H n []) v0 H n:=by
  rw[bY (fn:=Go.Proofs.Try.f60) (c:=sZ) (rs:=gY) (by kernel_rfl) (by kernel_rfl) (by kernel_rfl) (by kernel_rfl)]
  kernel_rfl
 rw[h,C60_0]
 have e1:(fun u1 u3 H n=>labK (E60_1 cal k) (ts (ts Tr.nil 3 u3) 1 u1) H n [])=(C60_1 cal k):=by funext u1 u3 H n; exact h60_1 ..
 rw[e1]
end Go.Proofs.Ytmjbdjnnojfhkaa.G
