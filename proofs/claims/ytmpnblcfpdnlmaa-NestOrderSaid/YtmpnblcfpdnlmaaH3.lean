/- The texts of functions, each with the proof that the evaluator says the same. -/
import Derived.Test.YtmpnblcfpdnlmaaH1
open Go Go.Ev
set_option maxRecDepth 1000000
set_option linter.unusedVariables false
noncomputable section
namespace Go.Proofs.Ytmpnblcfpdnlmaa.G
noncomputable def code60:Code:=codeOf 60
noncomputable def results60:List ResultVar:=resOf 60
noncomputable def K60_p (cal:Cal) (k:Nat):KR:=(cutK (A 60).c (codeE P cal (codeF P cal k) none 60 (cR code60) (Lv.b (A 60)) (doneK P results60) X0 (doneK P results60)))
noncomputable def K60_pr (cal:Cal) (k:Nat):KR:=(cutK (Lv.b (A 60)).c (codeE P cal (codeF P cal k) none 60 (cR (cR code60)) (Lv.b (Lv.b (A 60))) (doneK P results60) X0 (doneK P results60)))
noncomputable def K60_pxrl (cal:Cal) (k:Nat):XR:=(upX 0 (K60_pr cal k) X0)
noncomputable def K60_prllrl (cal:Cal) (k:Nat):KR:=(cutK (Lv.a (Lv.b (Lv.a (Lv.a (Lv.b (A 60)))))).c (codeE P cal (codeF P cal k) none 60 (cR (cL (cR (cL (cL (cR code60)))))) (Lv.b (Lv.a (Lv.b (Lv.a (Lv.a (Lv.b (A 60))))))) (K60_pr cal k) (K60_pxrl cal k) (doneK P results60)))
noncomputable def K60_prllrrrl (cal:Cal) (k:Nat):KR:=(cutK (Lv.a (Lv.b (Lv.b (Lv.b (Lv.a (Lv.a (Lv.b (A 60)))))))).c (codeE P cal (codeF P cal k) none 60 (cR (cL (cR (cR (cR (cL (cL (cR code60)))))))) (Lv.b (Lv.a (Lv.b (Lv.b (Lv.b (Lv.a (Lv.a (Lv.b (A 60))))))))) (K60_pr cal k) (K60_pxrl cal k) (doneK P results60)))
noncomputable def K60_prllrrrrrl (cal:Cal) (k:Nat):KR:=(cutK (Lv.a (Lv.b (Lv.b (Lv.b (Lv.b (Lv.b (Lv.a (Lv.a (Lv.b (A 60)))))))))).c (codeE P cal (codeF P cal k) none 60 (cR (cL (cR (cR (cR (cR (cR (cL (cL (cR code60)))))))))) (Lv.b (Lv.a (Lv.b (Lv.b (Lv.b (Lv.b (Lv.b (Lv.a (Lv.a (Lv.b (A 60))))))))))) (K60_pr cal k) (K60_pxrl cal k) (doneK P results60)))
noncomputable def K60_prr (cal:Cal) (k:Nat):KR:=(cutK (Lv.b (Lv.b (A 60))).c (codeE P cal (codeF P cal k) none 60 (cR (cR (cR code60))) (Lv.b (Lv.b (Lv.b (A 60)))) (doneK P results60) X0 (doneK P results60)))
noncomputable def K60_prllrrrr (cal:Cal) (k:Nat):KR:=(cutK (Lv.b (Lv.b (Lv.b (Lv.b (Lv.a (Lv.a (Lv.b (A 60)))))))).c (codeE P cal (codeF P cal k) none 60 (cR (cR (cR (cR (cR (cL (cL (cR code60)))))))) (Lv.b (Lv.b (Lv.b (Lv.b (Lv.b (Lv.a (Lv.a (Lv.b (A 60))))))))) (K60_pr cal k) (K60_pxrl cal k) (doneK P results60)))
noncomputable def K60_prllrrrrl (cal:Cal) (k:Nat):KR:=(cutK (Lv.a (Lv.b (Lv.b (Lv.b (Lv.b (Lv.a (Lv.a (Lv.b (A 60))))))))).c (codeE P cal (codeF P cal k) none 60 (cR (cL (cR (cR (cR (cR (cL (cL (cR code60))))))))) (Lv.b (Lv.a (Lv.b (Lv.b (Lv.b (Lv.b (Lv.a (Lv.a (Lv.b (A 60)))))))))) (K60_prllrrrr cal k) (K60_pxrl cal k) (doneK P results60)))
noncomputable def K60_prllrrrrlrr (cal:Cal) (k:Nat):KR:=(cutK (Lv.b (Lv.b (Lv.a (Lv.b (Lv.b (Lv.b (Lv.b (Lv.a (Lv.a (Lv.b (A 60))))))))))).c (codeE P cal (codeF P cal k) none 60 (cR (cR (cR (cL (cR (cR (cR (cR (cL (cL (cR code60))))))))))) (Lv.b (Lv.b (Lv.b (Lv.a (Lv.b (Lv.b (Lv.b (Lv.b (Lv.a (Lv.a (Lv.b (A 60)))))))))))) (K60_prllrrrr cal k) (K60_pxrl cal k) (doneK P results60)))
noncomputable def K60_prllrr (cal:Cal) (k:Nat):KR:=(cutK (Lv.b (Lv.b (Lv.a (Lv.a (Lv.b (A 60)))))).c (codeE P cal (codeF P cal k) none 60 (cR (cR (cR (cL (cL (cR code60)))))) (Lv.b (Lv.b (Lv.b (Lv.a (Lv.a (Lv.b (A 60))))))) (K60_pr cal k) (K60_pxrl cal k) (doneK P results60)))
noncomputable def K60_prllrrl (cal:Cal) (k:Nat):KR:=(cutK (Lv.a (Lv.b (Lv.b (Lv.a (Lv.a (Lv.b (A 60))))))).c (codeE P cal (codeF P cal k) none 60 (cR (cL (cR (cR (cL (cL (cR code60))))))) (Lv.b (Lv.a (Lv.b (Lv.b (Lv.a (Lv.a (Lv.b (A 60)))))))) (K60_prllrr cal k) (K60_pxrl cal k) (doneK P results60)))
noncomputable def K60_prll (cal:Cal) (k:Nat):KR:=(cutK (Lv.a (Lv.a (Lv.b (A 60)))).c (codeE P cal (codeF P cal k) none 60 (cR (cL (cL (cR code60)))) (Lv.b (Lv.a (Lv.a (Lv.b (A 60))))) (K60_pr cal k) (K60_pxrl cal k) (doneK P results60)))
noncomputable def K60_prlll (cal:Cal) (k:Nat):KR:=(cutK (Lv.a (Lv.a (Lv.a (Lv.b (A 60))))).c (codeE P cal (codeF P cal k) none 60 (cR (cL (cL (cL (cR code60))))) (Lv.b (Lv.a (Lv.a (Lv.a (Lv.b (A 60)))))) (K60_prll cal k) (K60_pxrl cal k) (doneK P results60)))
noncomputable def K60_prlllrr (cal:Cal) (k:Nat):KR:=(cutK (Lv.b (Lv.b (Lv.a (Lv.a (Lv.a (Lv.b (A 60))))))).c (codeE P cal (codeF P cal k) none 60 (cR (cR (cR (cL (cL (cL (cR code60))))))) (Lv.b (Lv.b (Lv.b (Lv.a (Lv.a (Lv.a (Lv.b (A 60)))))))) (K60_prll cal k) (K60_pxrl cal k) (doneK P results60)))
noncomputable def E60_3 (cal:Cal) (k:Nat):KR:=codeE P cal (codeF P cal k) none 60 (cR (cR (cR (cR (cR (cL (cL (cR code60)))))))) (Lv.b (Lv.b (Lv.b (Lv.b (Lv.b (Lv.a (Lv.a (Lv.b (A 60))))))))) (K60_pr cal k) (K60_pxrl cal k) (doneK P results60)
noncomputable def E60_2 (cal:Cal) (k:Nat):KR:=codeE P cal (codeF P cal k) none 60 (cR (cR (cR (cL (cL (cR code60)))))) (Lv.b (Lv.b (Lv.b (Lv.a (Lv.a (Lv.b (A 60))))))) (K60_pr cal k) (K60_pxrl cal k) (doneK P results60)
noncomputable def E60_1 (cal:Cal) (k:Nat):KR:=codeE P cal (codeF P cal k) none 60 (cR (cL (cL (cR code60)))) (Lv.b (Lv.a (Lv.a (Lv.b (A 60))))) (K60_pr cal k) (K60_pxrl cal k) (doneK P results60)
noncomputable def B60_3 (cal:Cal) (k:Nat) (u25:Value) (H:Hp) (n:Nat):Res:=
ifK u25 (
some ((.int .i64 1),H,n)) (
some ((.int .i64 0),H,n))
noncomputable def C60_3 (cal:Cal) (k:Nat) (u25:Value) (H:Hp) (n:Nat):Res:=B60_3 cal k u25 H n
theorem h60_3 (cal:Cal) (k:Nat) (u25:Value) (H:Hp) (n:Nat):labK (E60_3 cal k) (Tr.set Tr.nil 25 (some u25)) H n []=C60_3 cal k u25 H n:=by
  refine Eq.trans (b:=B60_3 cal k u25 H n) (by kernel_rfl) ?_
  rw[C60_3]
noncomputable def B60_2 (cal:Cal) (k:Nat) (j3:V1) (u1 u16:Value) (H:Hp) (n:Nat):Res:=
ifK u16 (
some ((.int .i64 1),H,n)) (
bindO (fieldAddrV P 35 u1 0) fun v_9=>
bindO (addrV v_9) fun a_b=>bindO (loadV P H 31 a_b) fun v_a=>
callFK P cal 91 [v_a,(Value.func (.func 92) #[] #[])] H n fun v_c H_d n_e=>
bindO (pureSem P v_c (Op.unary UnOp.not v_c)) fun v_f=>
ifK v_f (
j3 v_f H_d n_e) (
bindO (fieldAddrV P 35 u1 1) fun v_h=>
bindO (addrV v_h) fun a_j=>bindO (loadV P H_d 32 a_j) fun v_i=>
bindO (addrV u1) fun a_l=>bindO (loadV P H_d 35 a_l) fun v_k=>
callFK P cal 93 [v_i,(Value.func (Fn.func 94) ⟨[v_k]⟩ ⟨[]⟩)] H_d n_e fun v_n H_o n_p=>
bindO (pureSem P v_n (Op.unary UnOp.not v_n)) fun v_q=>
ifK v_q (
j3 v_q H_o n_p) (
bindO (fieldAddrV P 35 u1 2) fun v_s=>
bindO (addrV v_s) fun a_u=>bindO (loadV P H_o 33 a_u) fun v_t=>
callFK P cal 95 [v_t,(Value.func (.func 96) #[] #[])] H_o n_p fun v_v H_w n_x=>
bindO (pureSem P v_v (Op.unary UnOp.not v_v)) fun v_y=>
j3 v_y H_w n_x)))
noncomputable def C60_2 (cal:Cal) (k:Nat) (u1 u16:Value) (H:Hp) (n:Nat):Res:=B60_2 cal k (C60_3 cal k) u1 u16 H n
theorem h60_2 (cal:Cal) (k:Nat) (u1 u16:Value) (H:Hp) (n:Nat):labK (E60_2 cal k) (Tr.set (Tr.set Tr.nil 16 (some u16)) 1 (some u1)) H n []=C60_2 cal k u1 u16 H n:=by
  refine Eq.trans (b:=B60_2 cal k (fun u25 H n=>labK (E60_3 cal k) (Tr.set Tr.nil 25 (some u25)) H n []) u1 u16 H n) (by kernel_rfl) ?_
  rw[C60_2]
  have e3:(fun u25 H n=>labK (E60_3 cal k) (Tr.set Tr.nil 25 (some u25)) H n [])=(C60_3 cal k):=by funext u25 H n; exact h60_3 ..
  rw[e3]
noncomputable def B60_1 (cal:Cal) (k:Nat) (j2:V2) (u1 u3:Value) (H:Hp) (n:Nat):Res:=
ifK u3 (
some ((.int .i64 3),H,n)) (
bindO (fieldAddrV P 35 u1 0) fun v_10=>
bindO (addrV v_10) fun a_12=>bindO (loadV P H 31 a_12) fun v_11=>
bindO (lenV P 31 v_11) fun v_13=>
binK P .eql 3 (.tmp 19) (.const (.int .i64 0)) v_13 (.int .i64 0) fun v_14=>
ifK v_14 (
j2 u1 v_14 H n) (
bindO (fieldAddrV P 35 u1 2) fun v_16=>
bindO (addrV v_16) fun a_18=>bindO (loadV P H 33 a_18) fun v_17=>
bindO (lenV P 33 v_17) fun v_19=>
binK P .eql 3 (.tmp 23) (.const (.int .i64 0)) v_19 (.int .i64 0) fun v_1a=>
j2 u1 v_1a H n))
noncomputable def C60_1 (cal:Cal) (k:Nat) (u1 u3:Value) (H:Hp) (n:Nat):Res:=B60_1 cal k (C60_2 cal k) u1 u3 H n
theorem h60_1 (cal:Cal) (k:Nat) (u1 u3:Value) (H:Hp) (n:Nat):labK (E60_1 cal k) (Tr.set (Tr.set Tr.nil 3 (some u3)) 1 (some u1)) H n []=C60_1 cal k u1 u3 H n:=by
  refine Eq.trans (b:=B60_1 cal k (fun u1 u16 H n=>labK (E60_2 cal k) (Tr.set (Tr.set Tr.nil 16 (some u16)) 1 (some u1)) H n []) u1 u3 H n) (by kernel_rfl) ?_
  rw[C60_1]
  have e2:(fun u1 u16 H n=>labK (E60_2 cal k) (Tr.set (Tr.set Tr.nil 16 (some u16)) 1 (some u1)) H n [])=(C60_2 cal k):=by funext u1 u16 H n; exact h60_2 ..
  rw[e2]
noncomputable def B60_0 (cal:Cal) (k:Nat) (j1:V2) (v0:Value) (H:Hp) (n:Nat):Res:=
boxK 35 v0 H n fun v_1 H_2 n_3=>
bindO (fieldAddrV P 35 v_1 0) fun v_1c=>
bindO (addrV v_1c) fun a_1e=>bindO (loadV P H_2 31 a_1e) fun v_1d=>
bindO (lenV P 31 v_1d) fun v_1f=>
binK P .gtr 3 (.tmp 6) (.const (.int .i64 8)) v_1f (.int .i64 8) fun v_1g=>
ifK v_1g (
j1 v_1 v_1g H_2 n_3) (
bindO (fieldAddrV P 35 v_1 1) fun v_1i=>
bindO (addrV v_1i) fun a_1k=>bindO (loadV P H_2 32 a_1k) fun v_1j=>
bindO (lenV P 32 v_1j) fun v_1l=>
binK P .gtr 3 (.tmp 10) (.const (.int .i64 16)) v_1l (.int .i64 16) fun v_1m=>
ifK v_1m (
j1 v_1 v_1m H_2 n_3) (
bindO (fieldAddrV P 35 v_1 2) fun v_1o=>
bindO (addrV v_1o) fun a_1q=>bindO (loadV P H_2 33 a_1q) fun v_1p=>
bindO (lenV P 33 v_1p) fun v_1r=>
binK P .gtr 3 (.tmp 14) (.const (.int .i64 3)) v_1r (.int .i64 3) fun v_1s=>
j1 v_1 v_1s H_2 n_3))
noncomputable def C60_0 (cal:Cal) (k:Nat) (v0:Value) (H:Hp) (n:Nat):Res:=B60_0 cal k (C60_1 cal k) v0 H n
theorem h60_0 (cal:Cal) (k:Nat) (v0:Value) (H:Hp) (n:Nat):bodyE P cal A (k+1) 60 [v0] H n=C60_0 cal k v0 H n:=by
  have h:bodyE P cal A (k+1) 60 [v0] H n=B60_0 cal k (fun u1 u3 H n=>labK (E60_1 cal k) (Tr.set (Tr.set Tr.nil 3 (some u3)) 1 (some u1)) H n []) v0 H n:=by
    rw[body_eq (fn:=Go.Proofs.Try.f60) (c:=code60) (rs:=results60) (by kernel_rfl) (by kernel_rfl) (by kernel_rfl) (by kernel_rfl)]
    kernel_rfl
  rw[h,C60_0]
  have e1:(fun u1 u3 H n=>labK (E60_1 cal k) (Tr.set (Tr.set Tr.nil 3 (some u3)) 1 (some u1)) H n [])=(C60_1 cal k):=by funext u1 u3 H n; exact h60_1 ..
  rw[e1]
noncomputable def code61:Code:=codeOf 61
noncomputable def results61:List ResultVar:=resOf 61
noncomputable def K61_p (cal:Cal) (k:Nat):KR:=(cutK (A 61).c (codeE P cal (codeF P cal k) none 61 (cR code61) (Lv.b (A 61)) (doneK P results61) X0 (doneK P results61)))
noncomputable def K61_pr (cal:Cal) (k:Nat):KR:=(cutK (Lv.b (A 61)).c (codeE P cal (codeF P cal k) none 61 (cR (cR code61)) (Lv.b (Lv.b (A 61))) (doneK P results61) X0 (doneK P results61)))
noncomputable def K61_prl (cal:Cal) (k:Nat):KR:=(cutK (Lv.a (Lv.b (A 61))).c (codeE P cal (codeF P cal k) none 61 (cR (cL (cR code61))) (Lv.b (Lv.a (Lv.b (A 61)))) (K61_pr cal k) X0 (doneK P results61)))
noncomputable def K61_prlr (cal:Cal) (k:Nat):KR:=(cutK (Lv.b (Lv.a (Lv.b (A 61)))).c (codeE P cal (codeF P cal k) none 61 (cR (cR (cL (cR code61)))) (Lv.b (Lv.b (Lv.a (Lv.b (A 61))))) (K61_pr cal k) X0 (doneK P results61)))
noncomputable def K61_prlrrl (cal:Cal) (k:Nat):KR:=(cutK (Lv.a (Lv.b (Lv.b (Lv.a (Lv.b (A 61)))))).c (codeE P cal (codeF P cal k) none 61 (cR (cL (cR (cR (cL (cR code61)))))) (Lv.b (Lv.a (Lv.b (Lv.b (Lv.a (Lv.b (A 61))))))) (K61_pr cal k) X0 (doneK P results61)))
noncomputable def K61_prr (cal:Cal) (k:Nat):KR:=(cutK (Lv.b (Lv.b (A 61))).c (codeE P cal (codeF P cal k) none 61 (cR (cR (cR code61))) (Lv.b (Lv.b (Lv.b (A 61)))) (doneK P results61) X0 (doneK P results61)))
noncomputable def K61_prrr (cal:Cal) (k:Nat):KR:=(cutK (Lv.b (Lv.b (Lv.b (A 61)))).c (codeE P cal (codeF P cal k) none 61 (cR (cR (cR (cR code61)))) (Lv.b (Lv.b (Lv.b (Lv.b (A 61))))) (doneK P results61) X0 (doneK P results61)))
noncomputable def K61_prrrl (cal:Cal) (k:Nat):KR:=(cutK (Lv.a (Lv.b (Lv.b (Lv.b (A 61))))).c (codeE P cal (codeF P cal k) none 61 (cR (cL (cR (cR (cR code61))))) (Lv.b (Lv.a (Lv.b (Lv.b (Lv.b (A 61)))))) (K61_prrr cal k) X0 (doneK P results61)))
noncomputable def K61_pxrrrlr (cal:Cal) (k:Nat):XR:=(upX 0 (K61_prrr cal k) X0)
noncomputable def K61_prrrlrl (cal:Cal) (k:Nat) (m1:Nat):KR:=(fun T H n D=>codeF P cal m1 (Lv.a (Lv.b (Lv.a (Lv.b (Lv.b (Lv.b (A 61))))))) none 61 (cL (cR (cL (cR (cR (cR code61)))))) (K61_prrr cal k) (K61_pxrrrlr cal k) (doneK P results61) (cutT (Lv.a (Lv.b (Lv.a (Lv.b (Lv.b (Lv.b (A 61))))))).c T) H n D)
noncomputable def K61_prrrlrll (cal:Cal) (k:Nat) (m1:Nat):KR:=(cutK (Lv.a (Lv.a (Lv.b (Lv.a (Lv.b (Lv.b (Lv.b (A 61)))))))).c (codeE P cal (codeF P cal m1) none 61 (cR (cL (cL (cR (cL (cR (cR (cR code61)))))))) (Lv.b (Lv.a (Lv.a (Lv.b (Lv.a (Lv.b (Lv.b (Lv.b (A 61))))))))) (K61_prrrlrl cal k m1) (K61_pxrrrlr cal k) (doneK P results61)))
noncomputable def K61_prrrlrllr (cal:Cal) (k:Nat) (m1:Nat):KR:=(cutK (Lv.b (Lv.a (Lv.a (Lv.b (Lv.a (Lv.b (Lv.b (Lv.b (A 61))))))))).c (codeE P cal (codeF P cal m1) none 61 (cR (cR (cL (cL (cR (cL (cR (cR (cR code61))))))))) (Lv.b (Lv.b (Lv.a (Lv.a (Lv.b (Lv.a (Lv.b (Lv.b (Lv.b (A 61)))))))))) (K61_prrrlrl cal k m1) (K61_pxrrrlr cal k) (doneK P results61)))
noncomputable def K61_prrrlrllrr (cal:Cal) (k:Nat) (m1:Nat):KR:=(cutK (Lv.b (Lv.b (Lv.a (Lv.a (Lv.b (Lv.a (Lv.b (Lv.b (Lv.b (A 61)))))))))).c (codeE P cal (codeF P cal m1) none 61 (cR (cR (cR (cL (cL (cR (cL (cR (cR (cR code61)))))))))) (Lv.b (Lv.b (Lv.b (Lv.a (Lv.a (Lv.b (Lv.a (Lv.b (Lv.b (Lv.b (A 61))))))))))) (K61_prrrlrl cal k m1) (K61_pxrrrlr cal k) (doneK P results61)))
noncomputable def K61_pxrrrlrllrrl (cal:Cal) (k:Nat) (m1:Nat):XR:=(upX 1 (K61_prrrlrllrr cal k m1) (K61_pxrrrlr cal k))
noncomputable def K61_prrrlrllrrll (cal:Cal) (k:Nat) (m1:Nat):KR:=(cutK (Lv.a (Lv.a (Lv.b (Lv.b (Lv.a (Lv.a (Lv.b (Lv.a (Lv.b (Lv.b (Lv.b (A 61)))))))))))).c (codeE P cal (codeF P cal m1) none 61 (cR (cL (cL (cR (cR (cL (cL (cR (cL (cR (cR (cR code61)))))))))))) (Lv.b (Lv.a (Lv.a (Lv.b (Lv.b (Lv.a (Lv.a (Lv.b (Lv.a (Lv.b (Lv.b (Lv.b (A 61))))))))))))) (K61_prrrlrllrr cal k m1) (K61_pxrrrlrllrrl cal k m1) (doneK P results61)))
noncomputable def K61_prrrr (cal:Cal) (k:Nat):KR:=(cutK (Lv.b (Lv.b (Lv.b (Lv.b (A 61))))).c (codeE P cal (codeF P cal k) none 61 (cR (cR (cR (cR (cR code61))))) (Lv.b (Lv.b (Lv.b (Lv.b (Lv.b (A 61)))))) (doneK P results61) X0 (doneK P results61)))
noncomputable def K61_prrrrl (cal:Cal) (k:Nat):KR:=(cutK (Lv.a (Lv.b (Lv.b (Lv.b (Lv.b (A 61)))))).c (codeE P cal (codeF P cal k) none 61 (cR (cL (cR (cR (cR (cR code61)))))) (Lv.b (Lv.a (Lv.b (Lv.b (Lv.b (Lv.b (A 61))))))) (K61_prrrr cal k) X0 (doneK P results61)))
noncomputable def K61_pxrrrrlr (cal:Cal) (k:Nat):XR:=(upX 2 (K61_prrrr cal k) X0)
noncomputable def K61_prrrrlrl (cal:Cal) (k:Nat) (m1:Nat):KR:=(fun T H n D=>codeF P cal m1 (Lv.a (Lv.b (Lv.a (Lv.b (Lv.b (Lv.b (Lv.b (A 61)))))))) none 61 (cL (cR (cL (cR (cR (cR (cR code61))))))) (K61_prrrr cal k) (K61_pxrrrrlr cal k) (doneK P results61) (cutT (Lv.a (Lv.b (Lv.a (Lv.b (Lv.b (Lv.b (Lv.b (A 61)))))))).c T) H n D)
noncomputable def K61_prrrrlrll (cal:Cal) (k:Nat) (m1:Nat):KR:=(cutK (Lv.a (Lv.a (Lv.b (Lv.a (Lv.b (Lv.b (Lv.b (Lv.b (A 61))))))))).c (codeE P cal (codeF P cal m1) none 61 (cR (cL (cL (cR (cL (cR (cR (cR (cR code61))))))))) (Lv.b (Lv.a (Lv.a (Lv.b (Lv.a (Lv.b (Lv.b (Lv.b (Lv.b (A 61)))))))))) (K61_prrrrlrl cal k m1) (K61_pxrrrrlr cal k) (doneK P results61)))
noncomputable def K61_prrrrlrllr (cal:Cal) (k:Nat) (m1:Nat):KR:=(cutK (Lv.b (Lv.a (Lv.a (Lv.b (Lv.a (Lv.b (Lv.b (Lv.b (Lv.b (A 61)))))))))).c (codeE P cal (codeF P cal m1) none 61 (cR (cR (cL (cL (cR (cL (cR (cR (cR (cR code61)))))))))) (Lv.b (Lv.b (Lv.a (Lv.a (Lv.b (Lv.a (Lv.b (Lv.b (Lv.b (Lv.b (A 61))))))))))) (K61_prrrrlrl cal k m1) (K61_pxrrrrlr cal k) (doneK P results61)))
noncomputable def K61_prrrrlrllrr (cal:Cal) (k:Nat) (m1:Nat):KR:=(cutK (Lv.b (Lv.b (Lv.a (Lv.a (Lv.b (Lv.a (Lv.b (Lv.b (Lv.b (Lv.b (A 61))))))))))).c (codeE P cal (codeF P cal m1) none 61 (cR (cR (cR (cL (cL (cR (cL (cR (cR (cR (cR code61))))))))))) (Lv.b (Lv.b (Lv.b (Lv.a (Lv.a (Lv.b (Lv.a (Lv.b (Lv.b (Lv.b (Lv.b (A 61)))))))))))) (K61_prrrrlrl cal k m1) (K61_pxrrrrlr cal k) (doneK P results61)))
noncomputable def K61_pxrrrrlrllrrl (cal:Cal) (k:Nat) (m1:Nat):XR:=(upX 3 (K61_prrrrlrllrr cal k m1) (K61_pxrrrrlr cal k))
noncomputable def K61_prrrrlrllrrll (cal:Cal) (k:Nat) (m1:Nat):KR:=(cutK (Lv.a (Lv.a (Lv.b (Lv.b (Lv.a (Lv.a (Lv.b (Lv.a (Lv.b (Lv.b (Lv.b (Lv.b (A 61))))))))))))).c (codeE P cal (codeF P cal m1) none 61 (cR (cL (cL (cR (cR (cL (cL (cR (cL (cR (cR (cR (cR code61))))))))))))) (Lv.b (Lv.a (Lv.a (Lv.b (Lv.b (Lv.a (Lv.a (Lv.b (Lv.a (Lv.b (Lv.b (Lv.b (Lv.b (A 61)))))))))))))) (K61_prrrrlrllrr cal k m1) (K61_pxrrrrlrllrrl cal k m1) (doneK P results61)))
noncomputable def K61_prrrrlrllrrllr (cal:Cal) (k:Nat) (m1:Nat):KR:=(cutK (Lv.b (Lv.a (Lv.a (Lv.b (Lv.b (Lv.a (Lv.a (Lv.b (Lv.a (Lv.b (Lv.b (Lv.b (Lv.b (A 61)))))))))))))).c (codeE P cal (codeF P cal m1) none 61 (cR (cR (cL (cL (cR (cR (cL (cL (cR (cL (cR (cR (cR (cR code61)))))))))))))) (Lv.b (Lv.b (Lv.a (Lv.a (Lv.b (Lv.b (Lv.a (Lv.a (Lv.b (Lv.a (Lv.b (Lv.b (Lv.b (Lv.b (A 61))))))))))))))) (K61_prrrrlrllrr cal k m1) (K61_pxrrrrlrllrrl cal k m1) (doneK P results61)))
noncomputable def K61_pxrrrrlrllrrllrr (cal:Cal) (k:Nat) (m1:Nat):XR:=(upX 4 (K61_prrrrlrllrr cal k m1) (K61_pxrrrrlrllrrl cal k m1))
noncomputable def K61_prrrrlrllrrllrrl (cal:Cal) (k:Nat) (m1:Nat) (m2:Nat):KR:=(fun T H n D=>codeF P cal m2 (Lv.a (Lv.b (Lv.b (Lv.a (Lv.a (Lv.b (Lv.b (Lv.a (Lv.a (Lv.b (Lv.a (Lv.b (Lv.b (Lv.b (Lv.b (A 61)))))))))))))))) none 61 (cL (cR (cR (cL (cL (cR (cR (cL (cL (cR (cL (cR (cR (cR (cR code61))))))))))))))) (K61_prrrrlrllrr cal k m1) (K61_pxrrrrlrllrrllrr cal k m1) (doneK P results61) (cutT (Lv.a (Lv.b (Lv.b (Lv.a (Lv.a (Lv.b (Lv.b (Lv.a (Lv.a (Lv.b (Lv.a (Lv.b (Lv.b (Lv.b (Lv.b (A 61)))))))))))))))).c T) H n D)
noncomputable def K61_prrrrlrllrrllrrll (cal:Cal) (k:Nat) (m1:Nat) (m2:Nat):KR:=(cutK (Lv.a (Lv.a (Lv.b (Lv.b (Lv.a (Lv.a (Lv.b (Lv.b (Lv.a (Lv.a (Lv.b (Lv.a (Lv.b (Lv.b (Lv.b (Lv.b (A 61))))))))))))))))).c (codeE P cal (codeF P cal m2) none 61 (cR (cL (cL (cR (cR (cL (cL (cR (cR (cL (cL (cR (cL (cR (cR (cR (cR code61))))))))))))))))) (Lv.b (Lv.a (Lv.a (Lv.b (Lv.b (Lv.a (Lv.a (Lv.b (Lv.b (Lv.a (Lv.a (Lv.b (Lv.a (Lv.b (Lv.b (Lv.b (Lv.b (A 61)))))))))))))))))) (K61_prrrrlrllrrllrrl cal k m1 m2) (K61_pxrrrrlrllrrllrr cal k m1) (doneK P results61)))
noncomputable def K61_prrrrlrllrrllrrllr (cal:Cal) (k:Nat) (m1:Nat) (m2:Nat):KR:=(cutK (Lv.b (Lv.a (Lv.a (Lv.b (Lv.b (Lv.a (Lv.a (Lv.b (Lv.b (Lv.a (Lv.a (Lv.b (Lv.a (Lv.b (Lv.b (Lv.b (Lv.b (A 61)))))))))))))))))).c (codeE P cal (codeF P cal m2) none 61 (cR (cR (cL (cL (cR (cR (cL (cL (cR (cR (cL (cL (cR (cL (cR (cR (cR (cR code61)))))))))))))))))) (Lv.b (Lv.b (Lv.a (Lv.a (Lv.b (Lv.b (Lv.a (Lv.a (Lv.b (Lv.b (Lv.a (Lv.a (Lv.b (Lv.a (Lv.b (Lv.b (Lv.b (Lv.b (A 61))))))))))))))))))) (K61_prrrrlrllrrllrrl cal k m1 m2) (K61_pxrrrrlrllrrllrr cal k m1) (doneK P results61)))
noncomputable def K61_prrrrlrllrrllrrllrr (cal:Cal) (k:Nat) (m1:Nat) (m2:Nat):KR:=(cutK (Lv.b (Lv.b (Lv.a (Lv.a (Lv.b (Lv.b (Lv.a (Lv.a (Lv.b (Lv.b (Lv.a (Lv.a (Lv.b (Lv.a (Lv.b (Lv.b (Lv.b (Lv.b (A 61))))))))))))))))))).c (codeE P cal (codeF P cal m2) none 61 (cR (cR (cR (cL (cL (cR (cR (cL (cL (cR (cR (cL (cL (cR (cL (cR (cR (cR (cR code61))))))))))))))))))) (Lv.b (Lv.b (Lv.b (Lv.a (Lv.a (Lv.b (Lv.b (Lv.a (Lv.a (Lv.b (Lv.b (Lv.a (Lv.a (Lv.b (Lv.a (Lv.b (Lv.b (Lv.b (Lv.b (A 61)))))))))))))))))))) (K61_prrrrlrllrrllrrl cal k m1 m2) (K61_pxrrrrlrllrrllrr cal k m1) (doneK P results61)))
noncomputable def K61_pxrrrrlrllrrllrrllrrl (cal:Cal) (k:Nat) (m1:Nat) (m2:Nat):XR:=(upX 5 (K61_prrrrlrllrrllrrllrr cal k m1 m2) (K61_pxrrrrlrllrrllrr cal k m1))
noncomputable def K61_prrrrlrllrrllrrllrrll (cal:Cal) (k:Nat) (m1:Nat) (m2:Nat):KR:=(cutK (Lv.a (Lv.a (Lv.b (Lv.b (Lv.a (Lv.a (Lv.b (Lv.b (Lv.a (Lv.a (Lv.b (Lv.b (Lv.a (Lv.a (Lv.b (Lv.a (Lv.b (Lv.b (Lv.b (Lv.b (A 61))))))))))))))))))))).c (codeE P cal (codeF P cal m2) none 61 (cR (cL (cL (cR (cR (cL (cL (cR (cR (cL (cL (cR (cR (cL (cL (cR (cL (cR (cR (cR (cR code61))))))))))))))))))))) (Lv.b (Lv.a (Lv.a (Lv.b (Lv.b (Lv.a (Lv.a (Lv.b (Lv.b (Lv.a (Lv.a (Lv.b (Lv.b (Lv.a (Lv.a (Lv.b (Lv.a (Lv.b (Lv.b (Lv.b (Lv.b (A 61)))))))))))))))))))))) (K61_prrrrlrllrrllrrllrr cal k m1 m2) (K61_pxrrrrlrllrrllrrllrrl cal k m1 m2) (doneK P results61)))
noncomputable def K61_prrrrr (cal:Cal) (k:Nat):KR:=(cutK (Lv.b (Lv.b (Lv.b (Lv.b (Lv.b (A 61)))))).c (codeE P cal (codeF P cal k) none 61 (cR (cR (cR (cR (cR (cR code61)))))) (Lv.b (Lv.b (Lv.b (Lv.b (Lv.b (Lv.b (A 61))))))) (doneK P results61) X0 (doneK P results61)))
noncomputable def E61_3 (cal:Cal) (k m1 m2:Nat):KR:=codeE P cal (codeF P cal m2) none 61 (cL (cL (cR (cR (cL (cL (cR (cR (cL (cL (cR (cL (cR (cR (cR (cR code61)))))))))))))))) (Lv.a (Lv.a (Lv.b (Lv.b (Lv.a (Lv.a (Lv.b (Lv.b (Lv.a (Lv.a (Lv.b (Lv.a (Lv.b (Lv.b (Lv.b (Lv.b (A 61))))))))))))))))) (K61_prrrrlrllrrllrrl cal k m1 m2) (K61_pxrrrrlrllrrllrr cal k m1) (doneK P results61)
noncomputable def R61_3 (cal:Cal) (k m1 m2:Nat):V7:=fun u5 u8 u53 u54 u61 u62 u63 H n=>codeF P cal m2 (Lv.a (Lv.b (Lv.b (Lv.a (Lv.a (Lv.b (Lv.b (Lv.a (Lv.a (Lv.b (Lv.a (Lv.b (Lv.b (Lv.b (Lv.b (A 61)))))))))))))))) none 61 (cL (cR (cR (cL (cL (cR (cR (cL (cL (cR (cL (cR (cR (cR (cR code61))))))))))))))) (K61_prrrrlrllrr cal k m1) (K61_pxrrrrlrllrrllrr cal k m1) (doneK P results61) (Tr.set (Tr.set (Tr.set (Tr.set (Tr.set (Tr.set (Tr.set Tr.nil 63 (some u63)) 62 (some u62)) 61 (some u61)) 54 (some u54)) 53 (some u53)) 8 (some u8)) 5 (some u5)) H n []
noncomputable def E61_2 (cal:Cal) (k m1:Nat):KR:=codeE P cal (codeF P cal m1) none 61 (cL (cL (cR (cL (cR (cR (cR (cR code61)))))))) (Lv.a (Lv.a (Lv.b (Lv.a (Lv.b (Lv.b (Lv.b (Lv.b (A 61))))))))) (K61_prrrrlrl cal k m1) (K61_pxrrrrlr cal k) (doneK P results61)
noncomputable def R61_2 (cal:Cal) (k m1:Nat):V3:=fun u5 u53 u54 H n=>codeF P cal m1 (Lv.a (Lv.b (Lv.a (Lv.b (Lv.b (Lv.b (Lv.b (A 61)))))))) none 61 (cL (cR (cL (cR (cR (cR (cR code61))))))) (K61_prrrr cal k) (K61_pxrrrrlr cal k) (doneK P results61) (Tr.set (Tr.set (Tr.set Tr.nil 54 (some u54)) 53 (some u53)) 5 (some u5)) H n []
noncomputable def E61_1 (cal:Cal) (k m1:Nat):KR:=codeE P cal (codeF P cal m1) none 61 (cL (cL (cR (cL (cR (cR (cR code61))))))) (Lv.a (Lv.a (Lv.b (Lv.a (Lv.b (Lv.b (Lv.b (A 61)))))))) (K61_prrrlrl cal k m1) (K61_pxrrrlr cal k) (doneK P results61)
noncomputable def R61_1 (cal:Cal) (k m1:Nat):V4:=fun u5 u23 u24 u25 H n=>codeF P cal m1 (Lv.a (Lv.b (Lv.a (Lv.b (Lv.b (Lv.b (A 61))))))) none 61 (cL (cR (cL (cR (cR (cR code61)))))) (K61_prrr cal k) (K61_pxrrrlr cal k) (doneK P results61) (Tr.set (Tr.set (Tr.set (Tr.set Tr.nil 25 (some u25)) 24 (some u24)) 23 (some u23)) 5 (some u5)) H n []
noncomputable def B61_3 (cal:Cal) (k m1 m2:Nat) (b2:V3) (b3:V7) (u5 u8 u53 u54 u61 u62 u63:Value) (H:Hp) (n:Nat):Res:=
binK P .lss 3 (.tmp 63) (.tmp 62) u63 u62 fun v_2m=>
ifK v_2m (
bindO (indexAddrV P 33 u61 u63) fun v_2o=>
bindO (addrV v_2o) fun a_2q=>bindO (loadV P H 86 a_2q) fun v_2p=>
allocK P 86 H n fun v_2r H_2s n_2t=>
bindO (storeP P 86 v_2r v_2p H_2s) fun H_2w=>
bindO (addrV v_2r) fun a_32=>bindO (loadV P H_2w 86 a_32) fun v_33=>
bindO (nilV u5) fun v_34=>
bindO (fieldAddrV P 116 v_34 2) fun v_35=>
bindO (indexAddrV P 114 v_35 u8) fun v_36=>
callFK P cal 97 [u5,u8,v_33] H_2w n_2t fun v_37 H_38 n_39=>
bindO (indexAddrV P 113 v_36 u63) fun v_3a=>
bindO (storeP P 112 v_3a v_37 H_38) fun H_3c=>
binK P .add 3 (.tmp 63) (.const (.int .i64 1)) u63 (.int .i64 1) fun v_3d=>
b3 u5 u8 u53 u54 u61 u62 v_3d H_3c n_39) (
binK P .add 3 (.tmp 54) (.const (.int .i64 1)) u54 (.int .i64 1) fun v_3f=>
b2 u5 u53 v_3f H n)
noncomputable def C61_3 (cal:Cal) (k m1 m2:Nat) (b2:V3) (b3:V7) (u5 u8 u53 u54 u61 u62 u63:Value) (H:Hp) (n:Nat):Res:=B61_3 cal k m1 m2 b2 b3 u5 u8 u53 u54 u61 u62 u63 H n
noncomputable def S61_3 (cal:Cal) (k m1:Nat) (b2:V3):Nat→V7:=fun m=>Nat.rec (motive:=fun _=>V7) (C61_3 cal k m1 0 b2 (fun _ _ _ _ _ _ _ _ _=>none)) (fun m ih=>C61_3 cal k m1 (m+1) b2 ih) m
theorem h61_3 (cal:Cal) (k m1 m2:Nat) (u5 u8 u53 u54 u61 u62 u63:Value) (H:Hp) (n:Nat):labK (E61_3 cal k m1 m2) (Tr.set (Tr.set (Tr.set (Tr.set (Tr.set (Tr.set (Tr.set Tr.nil 63 (some u63)) 62 (some u62)) 61 (some u61)) 54 (some u54)) 53 (some u53)) 8 (some u8)) 5 (some u5)) H n []=C61_3 cal k m1 m2 (R61_2 cal k m1) (R61_3 cal k m1 m2) u5 u8 u53 u54 u61 u62 u63 H n:=by
  refine Eq.trans (b:=B61_3 cal k m1 m2 (R61_2 cal k m1) (R61_3 cal k m1 m2) u5 u8 u53 u54 u61 u62 u63 H n) (by kernel_rfl) ?_
  rw[C61_3]
theorem q61_3 (cal:Cal) (k m1:Nat):∀(m:Nat) (u5 u8 u53 u54 u61 u62 u63:Value) (H:Hp) (n:Nat),labK (E61_3 cal k m1 m) (Tr.set (Tr.set (Tr.set (Tr.set (Tr.set (Tr.set (Tr.set Tr.nil 63 (some u63)) 62 (some u62)) 61 (some u61)) 54 (some u54)) 53 (some u53)) 8 (some u8)) 5 (some u5)) H n []=S61_3 cal k m1 (R61_2 cal k m1) m u5 u8 u53 u54 u61 u62 u63 H n
  | 0,u5,u8,u53,u54,u61,u62,u63,H,n=>by
    rw[h61_3]
    have e:R61_3 cal k m1 0=fun _ _ _ _ _ _ _ _ _=>none:=by funext u5 u8 u53 u54 u61 u62 u63 H n; kernel_rfl
    rw[e]; rfl
  | m+1,u5,u8,u53,u54,u61,u62,u63,H,n=>by
    rw[h61_3]
    have e:R61_3 cal k m1 (m+1)=S61_3 cal k m1 (R61_2 cal k m1) m:=by
      funext u5 u8 u53 u54 u61 u62 u63 H n
      have e:R61_3 cal k m1 (m+1) u5 u8 u53 u54 u61 u62 u63 H n=labK (E61_3 cal k m1 m) (Tr.set (Tr.set (Tr.set (Tr.set (Tr.set (Tr.set (Tr.set Tr.nil 63 (some u63)) 62 (some u62)) 61 (some u61)) 54 (some u54)) 53 (some u53)) 8 (some u8)) 5 (some u5)) H n []:=by kernel_rfl
      rw[e]; exact q61_3 ..
    rw[e]; rfl
noncomputable def B61_2 (cal:Cal) (k m1:Nat) (j3:V7) (b2:V3) (u5 u53 u54:Value) (H:Hp) (n:Nat):Res:=
binK P .lss 3 (.tmp 54) (.tmp 53) u54 u53 fun v_2b=>
ifK v_2b (
bindO (nilV u5) fun v_2f=>
bindO (fieldAddrV P 116 v_2f 0) fun v_2g=>
bindO (fieldAddrV P 35 v_2g 2) fun v_2h=>
bindO (addrV v_2h) fun a_2j=>bindO (loadV P H 33 a_2j) fun v_2i=>
bindO (lenV P 33 v_2i) fun v_2k=>
j3 u5 u54 u53 u54 v_2i v_2k (.int .i64 0) H n) (
some ((Value.tuple ⟨[u5,(.int .i64 0)]⟩),H,n))
noncomputable def C61_2 (cal:Cal) (k m1:Nat) (b2:V3) (u5 u53 u54:Value) (H:Hp) (n:Nat):Res:=B61_2 cal k m1 (S61_3 cal k m1 b2 m1) b2 u5 u53 u54 H n
noncomputable def S61_2 (cal:Cal) (k:Nat):Nat→V3:=fun m=>Nat.rec (motive:=fun _=>V3) (C61_2 cal k 0 (fun _ _ _ _ _=>none)) (fun m ih=>C61_2 cal k (m+1) ih) m
theorem h61_2 (cal:Cal) (k m1:Nat) (u5 u53 u54:Value) (H:Hp) (n:Nat):labK (E61_2 cal k m1) (Tr.set (Tr.set (Tr.set Tr.nil 54 (some u54)) 53 (some u53)) 5 (some u5)) H n []=C61_2 cal k m1 (R61_2 cal k m1) u5 u53 u54 H n:=by
  refine Eq.trans (b:=B61_2 cal k m1 (fun u5 u8 u53 u54 u61 u62 u63 H n=>labK (E61_3 cal k m1 m1) (Tr.set (Tr.set (Tr.set (Tr.set (Tr.set (Tr.set (Tr.set Tr.nil 63 (some u63)) 62 (some u62)) 61 (some u61)) 54 (some u54)) 53 (some u53)) 8 (some u8)) 5 (some u5)) H n []) (R61_2 cal k m1) u5 u53 u54 H n) (by kernel_rfl) ?_
  rw[C61_2]
  have e3:(fun u5 u8 u53 u54 u61 u62 u63 H n=>labK (E61_3 cal k m1 m1) (Tr.set (Tr.set (Tr.set (Tr.set (Tr.set (Tr.set (Tr.set Tr.nil 63 (some u63)) 62 (some u62)) 61 (some u61)) 54 (some u54)) 53 (some u53)) 8 (some u8)) 5 (some u5)) H n [])=(S61_3 cal k m1 (R61_2 cal k m1) m1):=by funext u5 u8 u53 u54 u61 u62 u63 H n; exact q61_3 ..
  rw[e3]
theorem q61_2 (cal:Cal) (k:Nat):∀(m:Nat) (u5 u53 u54:Value) (H:Hp) (n:Nat),labK (E61_2 cal k m) (Tr.set (Tr.set (Tr.set Tr.nil 54 (some u54)) 53 (some u53)) 5 (some u5)) H n []=S61_2 cal k m u5 u53 u54 H n
  | 0,u5,u53,u54,H,n=>by
    rw[h61_2]
    have e:R61_2 cal k 0=fun _ _ _ _ _=>none:=by funext u5 u53 u54 H n; kernel_rfl
    rw[e]; rfl
  | m+1,u5,u53,u54,H,n=>by
    rw[h61_2]
    have e:R61_2 cal k (m+1)=S61_2 cal k m:=by
      funext u5 u53 u54 H n
      have e:R61_2 cal k (m+1) u5 u53 u54 H n=labK (E61_2 cal k m) (Tr.set (Tr.set (Tr.set Tr.nil 54 (some u54)) 53 (some u53)) 5 (some u5)) H n []:=by kernel_rfl
      rw[e]; exact q61_2 ..
    rw[e]; rfl
noncomputable def B61_1 (cal:Cal) (k m1:Nat) (j2:V3) (b1:V4) (u5 u23 u24 u25:Value) (H:Hp) (n:Nat):Res:=
binK P .lss 3 (.tmp 25) (.tmp 24) u25 u24 fun v_w=>
ifK v_w (
bindO (indexAddrV P 32 u23 u25) fun v_x=>
bindO (addrV v_x) fun a_z=>bindO (loadV P H 88 a_z) fun v_y=>
allocK P 88 H n fun v_10 H_11 n_12=>
bindO (storeP P 88 v_10 v_y H_11) fun H_14=>
bindO (fieldAddrV P 88 v_10 0) fun v_16=>
bindO (addrV v_16) fun a_17=>bindO (loadV P H_14 3 a_17) fun v_18=>
bindO (fieldAddrV P 88 v_10 1) fun v_19=>
bindO (addrV v_19) fun a_1a=>bindO (loadV P H_14 3 a_1a) fun v_1b=>
bindO (fieldAddrV P 88 v_10 1) fun v_1d=>
bindO (addrV v_1d) fun a_1e=>bindO (loadV P H_14 3 a_1e) fun v_1f=>
bindO (fieldAddrV P 88 v_10 0) fun v_1g=>
bindO (addrV v_1g) fun a_1h=>bindO (loadV P H_14 3 a_1h) fun v_1i=>
bindO (nilV u5) fun v_1j=>
bindO (fieldAddrV P 116 v_1j 1) fun v_1k=>
bindO (indexAddrV P 108 v_1k v_18) fun v_1l=>
bindO (indexAddrV P 107 v_1l v_1b) fun v_1m=>
bindO (nilV u5) fun v_1n=>
bindO (fieldAddrV P 116 v_1n 1) fun v_1o=>
bindO (indexAddrV P 108 v_1o v_1f) fun v_1p=>
effK P [(.l 3 a_1h),(.l 3 a_1e)] H_14 n_12 (fun H_1q n_1r k_1s=>
bindO (storeP P 4 v_1m (.bool true) H_1q) fun H_1x=>
k_1s undef H_1x n_1r) fun v_1t H_1u n_1v=>
bindO (indexAddrV P 107 v_1p v_1i) fun v_1y=>
bindO (storeP P 4 v_1y (.bool true) H_1u) fun H_20=>
binK P .add 3 (.tmp 25) (.const (.int .i64 1)) u25 (.int .i64 1) fun v_21=>
b1 u5 u23 u24 v_21 H_20 n_1v) (
bindO (nilV u5) fun v_24=>
bindO (fieldAddrV P 116 v_24 0) fun v_25=>
bindO (fieldAddrV P 35 v_25 0) fun v_26=>
bindO (addrV v_26) fun a_28=>bindO (loadV P H 31 a_28) fun v_27=>
bindO (lenV P 31 v_27) fun v_29=>
j2 u5 v_29 (.int .i64 0) H n)
noncomputable def C61_1 (cal:Cal) (k m1:Nat) (b1:V4) (u5 u23 u24 u25:Value) (H:Hp) (n:Nat):Res:=B61_1 cal k m1 (S61_2 cal k k) b1 u5 u23 u24 u25 H n
noncomputable def S61_1 (cal:Cal) (k:Nat):Nat→V4:=fun m=>Nat.rec (motive:=fun _=>V4) (C61_1 cal k 0 (fun _ _ _ _ _ _=>none)) (fun m ih=>C61_1 cal k (m+1) ih) m
theorem h61_1 (cal:Cal) (k m1:Nat) (u5 u23 u24 u25:Value) (H:Hp) (n:Nat):labK (E61_1 cal k m1) (Tr.set (Tr.set (Tr.set (Tr.set Tr.nil 25 (some u25)) 24 (some u24)) 23 (some u23)) 5 (some u5)) H n []=C61_1 cal k m1 (R61_1 cal k m1) u5 u23 u24 u25 H n:=by
  refine Eq.trans (b:=B61_1 cal k m1 (fun u5 u53 u54 H n=>labK (E61_2 cal k k) (Tr.set (Tr.set (Tr.set Tr.nil 54 (some u54)) 53 (some u53)) 5 (some u5)) H n []) (R61_1 cal k m1) u5 u23 u24 u25 H n) (by kernel_rfl) ?_
  rw[C61_1]
  have e2:(fun u5 u53 u54 H n=>labK (E61_2 cal k k) (Tr.set (Tr.set (Tr.set Tr.nil 54 (some u54)) 53 (some u53)) 5 (some u5)) H n [])=(S61_2 cal k k):=by funext u5 u53 u54 H n; exact q61_2 ..
  rw[e2]
theorem q61_1 (cal:Cal) (k:Nat):∀(m:Nat) (u5 u23 u24 u25:Value) (H:Hp) (n:Nat),labK (E61_1 cal k m) (Tr.set (Tr.set (Tr.set (Tr.set Tr.nil 25 (some u25)) 24 (some u24)) 23 (some u23)) 5 (some u5)) H n []=S61_1 cal k m u5 u23 u24 u25 H n
  | 0,u5,u23,u24,u25,H,n=>by
    rw[h61_1]
    have e:R61_1 cal k 0=fun _ _ _ _ _ _=>none:=by funext u5 u23 u24 u25 H n; kernel_rfl
    rw[e]; rfl
  | m+1,u5,u23,u24,u25,H,n=>by
    rw[h61_1]
    have e:R61_1 cal k (m+1)=S61_1 cal k m:=by
      funext u5 u23 u24 u25 H n
      have e:R61_1 cal k (m+1) u5 u23 u24 u25 H n=labK (E61_1 cal k m) (Tr.set (Tr.set (Tr.set (Tr.set Tr.nil 25 (some u25)) 24 (some u24)) 23 (some u23)) 5 (some u5)) H n []:=by kernel_rfl
      rw[e]; exact q61_1 ..
    rw[e]; rfl
noncomputable def B61_0 (cal:Cal) (k:Nat) (j1:V4) (v0:Value) (H:Hp) (n:Nat):Res:=
boxK 35 v0 H n fun v_1 H_2 n_3=>
bindO (addrV v_1) fun a_7=>bindO (loadV P H_2 35 a_7) fun v_6=>
callFK P cal 60 [v_6] H_2 n_3 fun v_8 H_9 n_a=>
binK P .neq 29 (.tmp 13) (.const (.int .i64 0)) v_8 (.int .i64 0) fun v_d=>
ifK v_d (
some ((Value.tuple ⟨[(.pointer none),v_8]⟩),H_9,n_a)) (
bindO (addrV v_1) fun a_i=>bindO (loadV P H_9 35 a_i) fun v_h=>
bindO (buildP P 116 [(0,v_h)]) fun v_j=>
boxK 116 v_j H_9 n_a fun v_k H_l n_m=>
bindO (nilV v_k) fun v_p=>
bindO (fieldAddrV P 116 v_p 0) fun v_q=>
bindO (fieldAddrV P 35 v_q 1) fun v_r=>
bindO (addrV v_r) fun a_t=>bindO (loadV P H_l 32 a_t) fun v_s=>
bindO (lenV P 32 v_s) fun v_u=>
j1 v_k v_s v_u (.int .i64 0) H_l n_m)
noncomputable def C61_0 (cal:Cal) (k:Nat) (v0:Value) (H:Hp) (n:Nat):Res:=B61_0 cal k (S61_1 cal k k) v0 H n
theorem h61_0 (cal:Cal) (k:Nat) (v0:Value) (H:Hp) (n:Nat):bodyE P cal A (k+1) 61 [v0] H n=C61_0 cal k v0 H n:=by
  have h:bodyE P cal A (k+1) 61 [v0] H n=B61_0 cal k (fun u5 u23 u24 u25 H n=>labK (E61_1 cal k k) (Tr.set (Tr.set (Tr.set (Tr.set Tr.nil 25 (some u25)) 24 (some u24)) 23 (some u23)) 5 (some u5)) H n []) v0 H n:=by
    rw[body_eq (fn:=Go.Proofs.Try.f61) (c:=code61) (rs:=results61) (by kernel_rfl) (by kernel_rfl) (by kernel_rfl) (by kernel_rfl)]
    kernel_rfl
  rw[h,C61_0]
  have e1:(fun u5 u23 u24 u25 H n=>labK (E61_1 cal k k) (Tr.set (Tr.set (Tr.set (Tr.set Tr.nil 25 (some u25)) 24 (some u24)) 23 (some u23)) 5 (some u5)) H n [])=(S61_1 cal k k):=by funext u5 u23 u24 u25 H n; exact q61_1 ..
  rw[e1]
noncomputable def code62:Code:=codeOf 62
noncomputable def results62:List ResultVar:=resOf 62
noncomputable def K62_p (cal:Cal) (k:Nat):KR:=(cutK (A 62).c (codeE P cal (codeF P cal k) none 62 (cR code62) (Lv.b (A 62)) (doneK P results62) X0 (doneK P results62)))
noncomputable def K62_pr (cal:Cal) (k:Nat):KR:=(cutK (Lv.b (A 62)).c (codeE P cal (codeF P cal k) none 62 (cR (cR code62)) (Lv.b (Lv.b (A 62))) (doneK P results62) X0 (doneK P results62)))
noncomputable def B62_0 (cal:Cal) (k:Nat) (v0:Value) (H:Hp) (n:Nat):Res:=
boxK 112 v0 H n fun v_1 H_2 n_3=>
bindO (addrV v_1) fun a_5=>bindO (loadV P H_2 112 a_5) fun v_6=>
bindO (addrV v_1) fun a_7=>bindO (loadV P H_2 112 a_7) fun v_8=>
bindO (fieldAddrV P 112 v_1 0) fun v_9=>
bindO (addrV v_9) fun a_a=>bindO (loadV P H_2 3 a_a) fun v_b=>
effK P [(.l 3 a_a),(.l 112 a_7)] H_2 n_3 (fun H_c n_d k_e=>
callFK P cal 98 [v_6,(Value.func (.func 72) #[] #[])] H_c n_d fun v_i H_j n_k=>
k_e v_i H_j n_k) fun v_f H_g n_h=>
effK P [(.l 3 a_a)] H_g n_h (fun H_l n_m k_n=>
callFK P cal 98 [v_8,(Value.func (.func 73) #[] #[])] H_l n_m fun v_r H_s n_t=>
k_n v_r H_s n_t) fun v_o H_p n_q=>
bindO (buildP P 53 [(0,v_f),(1,v_o)]) fun v_u=>
callFK P cal 99 [v_u,v_b] H_p n_q fun v_v H_w n_x=>
some (v_v,H_w,n_x)
noncomputable def C62_0 (cal:Cal) (k:Nat) (v0:Value) (H:Hp) (n:Nat):Res:=B62_0 cal k v0 H n
theorem h62_0 (cal:Cal) (k:Nat) (v0:Value) (H:Hp) (n:Nat):bodyE P cal A (k+1) 62 [v0] H n=C62_0 cal k v0 H n:=by
  have h:bodyE P cal A (k+1) 62 [v0] H n=B62_0 cal k v0 H n:=by
    rw[body_eq (fn:=Go.Proofs.Try.f62) (c:=code62) (rs:=results62) (by kernel_rfl) (by kernel_rfl) (by kernel_rfl) (by kernel_rfl)]
    kernel_rfl
  rw[h,C62_0]
noncomputable def code63:Code:=codeOf 63
noncomputable def results63:List ResultVar:=resOf 63
noncomputable def K63_p (cal:Cal) (k:Nat):KR:=(cutK (A 63).c (codeE P cal (codeF P cal k) none 63 (cR code63) (Lv.b (A 63)) (doneK P results63) X0 (doneK P results63)))
noncomputable def K63_pr (cal:Cal) (k:Nat):KR:=(cutK (Lv.b (A 63)).c (codeE P cal (codeF P cal k) none 63 (cR (cR code63)) (Lv.b (Lv.b (A 63))) (doneK P results63) X0 (doneK P results63)))
noncomputable def K63_prl (cal:Cal) (k:Nat):KR:=(cutK (Lv.a (Lv.b (A 63))).c (codeE P cal (codeF P cal k) none 63 (cR (cL (cR code63))) (Lv.b (Lv.a (Lv.b (A 63)))) (K63_pr cal k) X0 (doneK P results63)))
noncomputable def K63_prlrl (cal:Cal) (k:Nat):KR:=(cutK (Lv.a (Lv.b (Lv.a (Lv.b (A 63))))).c (codeE P cal (codeF P cal k) none 63 (cR (cL (cR (cL (cR code63))))) (Lv.b (Lv.a (Lv.b (Lv.a (Lv.b (A 63)))))) (K63_pr cal k) X0 (doneK P results63)))
noncomputable def K63_prr (cal:Cal) (k:Nat):KR:=(cutK (Lv.b (Lv.b (A 63))).c (codeE P cal (codeF P cal k) none 63 (cR (cR (cR code63))) (Lv.b (Lv.b (Lv.b (A 63)))) (doneK P results63) X0 (doneK P results63)))
noncomputable def K63_prrl (cal:Cal) (k:Nat):KR:=(cutK (Lv.a (Lv.b (Lv.b (A 63)))).c (codeE P cal (codeF P cal k) none 63 (cR (cL (cR (cR code63)))) (Lv.b (Lv.a (Lv.b (Lv.b (A 63))))) (K63_prr cal k) X0 (doneK P results63)))
noncomputable def K63_prrlrl (cal:Cal) (k:Nat):KR:=(cutK (Lv.a (Lv.b (Lv.a (Lv.b (Lv.b (A 63)))))).c (codeE P cal (codeF P cal k) none 63 (cR (cL (cR (cL (cR (cR code63)))))) (Lv.b (Lv.a (Lv.b (Lv.a (Lv.b (Lv.b (A 63))))))) (K63_prr cal k) X0 (doneK P results63)))
noncomputable def K63_prrr (cal:Cal) (k:Nat):KR:=(cutK (Lv.b (Lv.b (Lv.b (A 63)))).c (codeE P cal (codeF P cal k) none 63 (cR (cR (cR (cR code63)))) (Lv.b (Lv.b (Lv.b (Lv.b (A 63))))) (doneK P results63) X0 (doneK P results63)))
noncomputable def K63_prrrl (cal:Cal) (k:Nat):KR:=(cutK (Lv.a (Lv.b (Lv.b (Lv.b (A 63))))).c (codeE P cal (codeF P cal k) none 63 (cR (cL (cR (cR (cR code63))))) (Lv.b (Lv.a (Lv.b (Lv.b (Lv.b (A 63)))))) (K63_prrr cal k) X0 (doneK P results63)))
noncomputable def K63_pxrrrlr (cal:Cal) (k:Nat):XR:=(upX 0 (K63_prrr cal k) X0)
noncomputable def K63_prrrlrl (cal:Cal) (k:Nat) (m1:Nat):KR:=(fun T H n D=>codeF P cal m1 (Lv.a (Lv.b (Lv.a (Lv.b (Lv.b (Lv.b (A 63))))))) none 63 (cL (cR (cL (cR (cR (cR code63)))))) (K63_prrr cal k) (K63_pxrrrlr cal k) (doneK P results63) (cutT (Lv.a (Lv.b (Lv.a (Lv.b (Lv.b (Lv.b (A 63))))))).c T) H n D)
noncomputable def K63_prrrlrll (cal:Cal) (k:Nat) (m1:Nat):KR:=(cutK (Lv.a (Lv.a (Lv.b (Lv.a (Lv.b (Lv.b (Lv.b (A 63)))))))).c (codeE P cal (codeF P cal m1) none 63 (cR (cL (cL (cR (cL (cR (cR (cR code63)))))))) (Lv.b (Lv.a (Lv.a (Lv.b (Lv.a (Lv.b (Lv.b (Lv.b (A 63))))))))) (K63_prrrlrl cal k m1) (K63_pxrrrlr cal k) (doneK P results63)))
noncomputable def K63_prrrlrlll (cal:Cal) (k:Nat) (m1:Nat):KR:=(cutK (Lv.a (Lv.a (Lv.a (Lv.b (Lv.a (Lv.b (Lv.b (Lv.b (A 63))))))))).c (codeE P cal (codeF P cal m1) none 63 (cR (cL (cL (cL (cR (cL (cR (cR (cR code63))))))))) (Lv.b (Lv.a (Lv.a (Lv.a (Lv.b (Lv.a (Lv.b (Lv.b (Lv.b (A 63)))))))))) (K63_prrrlrll cal k m1) (K63_pxrrrlr cal k) (doneK P results63)))
noncomputable def K63_prrrlrllr (cal:Cal) (k:Nat) (m1:Nat):KR:=(cutK (Lv.b (Lv.a (Lv.a (Lv.b (Lv.a (Lv.b (Lv.b (Lv.b (A 63))))))))).c (codeE P cal (codeF P cal m1) none 63 (cR (cR (cL (cL (cR (cL (cR (cR (cR code63))))))))) (Lv.b (Lv.b (Lv.a (Lv.a (Lv.b (Lv.a (Lv.b (Lv.b (Lv.b (A 63)))))))))) (K63_prrrlrl cal k m1) (K63_pxrrrlr cal k) (doneK P results63)))
noncomputable def K63_pxrrrlrllrl (cal:Cal) (k:Nat) (m1:Nat):XR:=(upX 1 (K63_prrrlrllr cal k m1) (K63_pxrrrlr cal k))
noncomputable def K63_prrrlrllrll (cal:Cal) (k:Nat) (m1:Nat):KR:=(cutK (Lv.a (Lv.a (Lv.b (Lv.a (Lv.a (Lv.b (Lv.a (Lv.b (Lv.b (Lv.b (A 63))))))))))).c (codeE P cal (codeF P cal m1) none 63 (cR (cL (cL (cR (cL (cL (cR (cL (cR (cR (cR code63))))))))))) (Lv.b (Lv.a (Lv.a (Lv.b (Lv.a (Lv.a (Lv.b (Lv.a (Lv.b (Lv.b (Lv.b (A 63)))))))))))) (K63_prrrlrllr cal k m1) (K63_pxrrrlrllrl cal k m1) (doneK P results63)))
noncomputable def K63_prrrlrllrllrl (cal:Cal) (k:Nat) (m1:Nat):KR:=(cutK (Lv.a (Lv.b (Lv.a (Lv.a (Lv.b (Lv.a (Lv.a (Lv.b (Lv.a (Lv.b (Lv.b (Lv.b (A 63))))))))))))).c (codeE P cal (codeF P cal m1) none 63 (cR (cL (cR (cL (cL (cR (cL (cL (cR (cL (cR (cR (cR code63))))))))))))) (Lv.b (Lv.a (Lv.b (Lv.a (Lv.a (Lv.b (Lv.a (Lv.a (Lv.b (Lv.a (Lv.b (Lv.b (Lv.b (A 63)))))))))))))) (K63_prrrlrllr cal k m1) (K63_pxrrrlrllrl cal k m1) (doneK P results63)))
noncomputable def K63_prrrr (cal:Cal) (k:Nat):KR:=(cutK (Lv.b (Lv.b (Lv.b (Lv.b (A 63))))).c (codeE P cal (codeF P cal k) none 63 (cR (cR (cR (cR (cR code63))))) (Lv.b (Lv.b (Lv.b (Lv.b (Lv.b (A 63)))))) (doneK P results63) X0 (doneK P results63)))
noncomputable def K63_prrrrl (cal:Cal) (k:Nat):KR:=(cutK (Lv.a (Lv.b (Lv.b (Lv.b (Lv.b (A 63)))))).c (codeE P cal (codeF P cal k) none 63 (cR (cL (cR (cR (cR (cR code63)))))) (Lv.b (Lv.a (Lv.b (Lv.b (Lv.b (Lv.b (A 63))))))) (K63_prrrr cal k) X0 (doneK P results63)))
noncomputable def K63_pxrrrrlr (cal:Cal) (k:Nat):XR:=(upX 2 (K63_prrrr cal k) X0)
noncomputable def K63_prrrrlrl (cal:Cal) (k:Nat) (m1:Nat):KR:=(fun T H n D=>codeF P cal m1 (Lv.a (Lv.b (Lv.a (Lv.b (Lv.b (Lv.b (Lv.b (A 63)))))))) none 63 (cL (cR (cL (cR (cR (cR (cR code63))))))) (K63_prrrr cal k) (K63_pxrrrrlr cal k) (doneK P results63) (cutT (Lv.a (Lv.b (Lv.a (Lv.b (Lv.b (Lv.b (Lv.b (A 63)))))))).c T) H n D)
noncomputable def K63_prrrrlrll (cal:Cal) (k:Nat) (m1:Nat):KR:=(cutK (Lv.a (Lv.a (Lv.b (Lv.a (Lv.b (Lv.b (Lv.b (Lv.b (A 63))))))))).c (codeE P cal (codeF P cal m1) none 63 (cR (cL (cL (cR (cL (cR (cR (cR (cR code63))))))))) (Lv.b (Lv.a (Lv.a (Lv.b (Lv.a (Lv.b (Lv.b (Lv.b (Lv.b (A 63)))))))))) (K63_prrrrlrl cal k m1) (K63_pxrrrrlr cal k) (doneK P results63)))
noncomputable def K63_prrrrlrlll (cal:Cal) (k:Nat) (m1:Nat):KR:=(cutK (Lv.a (Lv.a (Lv.a (Lv.b (Lv.a (Lv.b (Lv.b (Lv.b (Lv.b (A 63)))))))))).c (codeE P cal (codeF P cal m1) none 63 (cR (cL (cL (cL (cR (cL (cR (cR (cR (cR code63)))))))))) (Lv.b (Lv.a (Lv.a (Lv.a (Lv.b (Lv.a (Lv.b (Lv.b (Lv.b (Lv.b (A 63))))))))))) (K63_prrrrlrll cal k m1) (K63_pxrrrrlr cal k) (doneK P results63)))
noncomputable def K63_prrrrlrllr (cal:Cal) (k:Nat) (m1:Nat):KR:=(cutK (Lv.b (Lv.a (Lv.a (Lv.b (Lv.a (Lv.b (Lv.b (Lv.b (Lv.b (A 63)))))))))).c (codeE P cal (codeF P cal m1) none 63 (cR (cR (cL (cL (cR (cL (cR (cR (cR (cR code63)))))))))) (Lv.b (Lv.b (Lv.a (Lv.a (Lv.b (Lv.a (Lv.b (Lv.b (Lv.b (Lv.b (A 63))))))))))) (K63_prrrrlrl cal k m1) (K63_pxrrrrlr cal k) (doneK P results63)))
noncomputable def K63_pxrrrrlrllrl (cal:Cal) (k:Nat) (m1:Nat):XR:=(upX 3 (K63_prrrrlrllr cal k m1) (K63_pxrrrrlr cal k))
noncomputable def K63_prrrrlrllrll (cal:Cal) (k:Nat) (m1:Nat):KR:=(cutK (Lv.a (Lv.a (Lv.b (Lv.a (Lv.a (Lv.b (Lv.a (Lv.b (Lv.b (Lv.b (Lv.b (A 63)))))))))))).c (codeE P cal (codeF P cal m1) none 63 (cR (cL (cL (cR (cL (cL (cR (cL (cR (cR (cR (cR code63)))))))))))) (Lv.b (Lv.a (Lv.a (Lv.b (Lv.a (Lv.a (Lv.b (Lv.a (Lv.b (Lv.b (Lv.b (Lv.b (A 63))))))))))))) (K63_prrrrlrllr cal k m1) (K63_pxrrrrlrllrl cal k m1) (doneK P results63)))
noncomputable def K63_prrrrlrllrllr (cal:Cal) (k:Nat) (m1:Nat):KR:=(cutK (Lv.b (Lv.a (Lv.a (Lv.b (Lv.a (Lv.a (Lv.b (Lv.a (Lv.b (Lv.b (Lv.b (Lv.b (A 63))))))))))))).c (codeE P cal (codeF P cal m1) none 63 (cR (cR (cL (cL (cR (cL (cL (cR (cL (cR (cR (cR (cR code63))))))))))))) (Lv.b (Lv.b (Lv.a (Lv.a (Lv.b (Lv.a (Lv.a (Lv.b (Lv.a (Lv.b (Lv.b (Lv.b (Lv.b (A 63)))))))))))))) (K63_prrrrlrllr cal k m1) (K63_pxrrrrlrllrl cal k m1) (doneK P results63)))
noncomputable def K63_prrrrlrllrllrrl (cal:Cal) (k:Nat) (m1:Nat):KR:=(cutK (Lv.a (Lv.b (Lv.b (Lv.a (Lv.a (Lv.b (Lv.a (Lv.a (Lv.b (Lv.a (Lv.b (Lv.b (Lv.b (Lv.b (A 63))))))))))))))).c (codeE P cal (codeF P cal m1) none 63 (cR (cL (cR (cR (cL (cL (cR (cL (cL (cR (cL (cR (cR (cR (cR code63))))))))))))))) (Lv.b (Lv.a (Lv.b (Lv.b (Lv.a (Lv.a (Lv.b (Lv.a (Lv.a (Lv.b (Lv.a (Lv.b (Lv.b (Lv.b (Lv.b (A 63)))))))))))))))) (K63_prrrrlrllr cal k m1) (K63_pxrrrrlrllrl cal k m1) (doneK P results63)))
noncomputable def K63_prrrrr (cal:Cal) (k:Nat):KR:=(cutK (Lv.b (Lv.b (Lv.b (Lv.b (Lv.b (A 63)))))).c (codeE P cal (codeF P cal k) none 63 (cR (cR (cR (cR (cR (cR code63)))))) (Lv.b (Lv.b (Lv.b (Lv.b (Lv.b (Lv.b (A 63))))))) (doneK P results63) X0 (doneK P results63)))
noncomputable def K63_prrrrrl (cal:Cal) (k:Nat):KR:=(cutK (Lv.a (Lv.b (Lv.b (Lv.b (Lv.b (Lv.b (A 63))))))).c (codeE P cal (codeF P cal k) none 63 (cR (cL (cR (cR (cR (cR (cR code63))))))) (Lv.b (Lv.a (Lv.b (Lv.b (Lv.b (Lv.b (Lv.b (A 63)))))))) (K63_prrrrr cal k) X0 (doneK P results63)))
noncomputable def K63_pxrrrrrlr (cal:Cal) (k:Nat):XR:=(upX 4 (K63_prrrrr cal k) X0)
noncomputable def K63_prrrrrlrl (cal:Cal) (k:Nat) (m1:Nat):KR:=(fun T H n D=>codeF P cal m1 (Lv.a (Lv.b (Lv.a (Lv.b (Lv.b (Lv.b (Lv.b (Lv.b (A 63))))))))) none 63 (cL (cR (cL (cR (cR (cR (cR (cR code63)))))))) (K63_prrrrr cal k) (K63_pxrrrrrlr cal k) (doneK P results63) (cutT (Lv.a (Lv.b (Lv.a (Lv.b (Lv.b (Lv.b (Lv.b (Lv.b (A 63))))))))).c T) H n D)
noncomputable def K63_prrrrrlrll (cal:Cal) (k:Nat) (m1:Nat):KR:=(cutK (Lv.a (Lv.a (Lv.b (Lv.a (Lv.b (Lv.b (Lv.b (Lv.b (Lv.b (A 63)))))))))).c (codeE P cal (codeF P cal m1) none 63 (cR (cL (cL (cR (cL (cR (cR (cR (cR (cR code63)))))))))) (Lv.b (Lv.a (Lv.a (Lv.b (Lv.a (Lv.b (Lv.b (Lv.b (Lv.b (Lv.b (A 63))))))))))) (K63_prrrrrlrl cal k m1) (K63_pxrrrrrlr cal k) (doneK P results63)))
noncomputable def K63_prrrrrlrlll (cal:Cal) (k:Nat) (m1:Nat):KR:=(cutK (Lv.a (Lv.a (Lv.a (Lv.b (Lv.a (Lv.b (Lv.b (Lv.b (Lv.b (Lv.b (A 63))))))))))).c (codeE P cal (codeF P cal m1) none 63 (cR (cL (cL (cL (cR (cL (cR (cR (cR (cR (cR code63))))))))))) (Lv.b (Lv.a (Lv.a (Lv.a (Lv.b (Lv.a (Lv.b (Lv.b (Lv.b (Lv.b (Lv.b (A 63)))))))))))) (K63_prrrrrlrll cal k m1) (K63_pxrrrrrlr cal k) (doneK P results63)))
noncomputable def K63_prrrrrlrllr (cal:Cal) (k:Nat) (m1:Nat):KR:=(cutK (Lv.b (Lv.a (Lv.a (Lv.b (Lv.a (Lv.b (Lv.b (Lv.b (Lv.b (Lv.b (A 63))))))))))).c (codeE P cal (codeF P cal m1) none 63 (cR (cR (cL (cL (cR (cL (cR (cR (cR (cR (cR code63))))))))))) (Lv.b (Lv.b (Lv.a (Lv.a (Lv.b (Lv.a (Lv.b (Lv.b (Lv.b (Lv.b (Lv.b (A 63)))))))))))) (K63_prrrrrlrl cal k m1) (K63_pxrrrrrlr cal k) (doneK P results63)))
noncomputable def K63_pxrrrrrlrllrl (cal:Cal) (k:Nat) (m1:Nat):XR:=(upX 5 (K63_prrrrrlrllr cal k m1) (K63_pxrrrrrlr cal k))
noncomputable def K63_prrrrrlrllrll (cal:Cal) (k:Nat) (m1:Nat):KR:=(cutK (Lv.a (Lv.a (Lv.b (Lv.a (Lv.a (Lv.b (Lv.a (Lv.b (Lv.b (Lv.b (Lv.b (Lv.b (A 63))))))))))))).c (codeE P cal (codeF P cal m1) none 63 (cR (cL (cL (cR (cL (cL (cR (cL (cR (cR (cR (cR (cR code63))))))))))))) (Lv.b (Lv.a (Lv.a (Lv.b (Lv.a (Lv.a (Lv.b (Lv.a (Lv.b (Lv.b (Lv.b (Lv.b (Lv.b (A 63)))))))))))))) (K63_prrrrrlrllr cal k m1) (K63_pxrrrrrlrllrl cal k m1) (doneK P results63)))
noncomputable def K63_prrrrrlrllrllr (cal:Cal) (k:Nat) (m1:Nat):KR:=(cutK (Lv.b (Lv.a (Lv.a (Lv.b (Lv.a (Lv.a (Lv.b (Lv.a (Lv.b (Lv.b (Lv.b (Lv.b (Lv.b (A 63)))))))))))))).c (codeE P cal (codeF P cal m1) none 63 (cR (cR (cL (cL (cR (cL (cL (cR (cL (cR (cR (cR (cR (cR code63)))))))))))))) (Lv.b (Lv.b (Lv.a (Lv.a (Lv.b (Lv.a (Lv.a (Lv.b (Lv.a (Lv.b (Lv.b (Lv.b (Lv.b (Lv.b (A 63))))))))))))))) (K63_prrrrrlrllr cal k m1) (K63_pxrrrrrlrllrl cal k m1) (doneK P results63)))
noncomputable def K63_prrrrrlrllrllrl (cal:Cal) (k:Nat) (m1:Nat):KR:=(cutK (Lv.a (Lv.b (Lv.a (Lv.a (Lv.b (Lv.a (Lv.a (Lv.b (Lv.a (Lv.b (Lv.b (Lv.b (Lv.b (Lv.b (A 63))))))))))))))).c (codeE P cal (codeF P cal m1) none 63 (cR (cL (cR (cL (cL (cR (cL (cL (cR (cL (cR (cR (cR (cR (cR code63))))))))))))))) (Lv.b (Lv.a (Lv.b (Lv.a (Lv.a (Lv.b (Lv.a (Lv.a (Lv.b (Lv.a (Lv.b (Lv.b (Lv.b (Lv.b (Lv.b (A 63)))))))))))))))) (K63_prrrrrlrllrllr cal k m1) (K63_pxrrrrrlrllrl cal k m1) (doneK P results63)))
noncomputable def K63_prrrrrlrllrllrlrl (cal:Cal) (k:Nat) (m1:Nat):KR:=(cutK (Lv.a (Lv.b (Lv.a (Lv.b (Lv.a (Lv.a (Lv.b (Lv.a (Lv.a (Lv.b (Lv.a (Lv.b (Lv.b (Lv.b (Lv.b (Lv.b (A 63))))))))))))))))).c (codeE P cal (codeF P cal m1) none 63 (cR (cL (cR (cL (cR (cL (cL (cR (cL (cL (cR (cL (cR (cR (cR (cR (cR code63))))))))))))))))) (Lv.b (Lv.a (Lv.b (Lv.a (Lv.b (Lv.a (Lv.a (Lv.b (Lv.a (Lv.a (Lv.b (Lv.a (Lv.b (Lv.b (Lv.b (Lv.b (Lv.b (A 63)))))))))))))))))) (K63_prrrrrlrllrllr cal k m1) (K63_pxrrrrrlrllrl cal k m1) (doneK P results63)))
noncomputable def K63_prrrrrlrllrllrr (cal:Cal) (k:Nat) (m1:Nat):KR:=(cutK (Lv.b (Lv.b (Lv.a (Lv.a (Lv.b (Lv.a (Lv.a (Lv.b (Lv.a (Lv.b (Lv.b (Lv.b (Lv.b (Lv.b (A 63))))))))))))))).c (codeE P cal (codeF P cal m1) none 63 (cR (cR (cR (cL (cL (cR (cL (cL (cR (cL (cR (cR (cR (cR (cR code63))))))))))))))) (Lv.b (Lv.b (Lv.b (Lv.a (Lv.a (Lv.b (Lv.a (Lv.a (Lv.b (Lv.a (Lv.b (Lv.b (Lv.b (Lv.b (Lv.b (A 63)))))))))))))))) (K63_prrrrrlrllr cal k m1) (K63_pxrrrrrlrllrl cal k m1) (doneK P results63)))
noncomputable def K63_pxrrrrrlrllrllrrr (cal:Cal) (k:Nat) (m1:Nat):XR:=(upX 6 (K63_prrrrrlrllr cal k m1) (K63_pxrrrrrlrllrl cal k m1))
noncomputable def K63_prrrrrlrllrllrrrl (cal:Cal) (k:Nat) (m1:Nat) (m2:Nat):KR:=(fun T H n D=>codeF P cal m2 (Lv.a (Lv.b (Lv.b (Lv.b (Lv.a (Lv.a (Lv.b (Lv.a (Lv.a (Lv.b (Lv.a (Lv.b (Lv.b (Lv.b (Lv.b (Lv.b (A 63))))))))))))))))) none 63 (cL (cR (cR (cR (cL (cL (cR (cL (cL (cR (cL (cR (cR (cR (cR (cR code63)))))))))))))))) (K63_prrrrrlrllr cal k m1) (K63_pxrrrrrlrllrllrrr cal k m1) (doneK P results63) (cutT (Lv.a (Lv.b (Lv.b (Lv.b (Lv.a (Lv.a (Lv.b (Lv.a (Lv.a (Lv.b (Lv.a (Lv.b (Lv.b (Lv.b (Lv.b (Lv.b (A 63))))))))))))))))).c T) H n D)
noncomputable def K63_prrrrrlrllrllrrrll (cal:Cal) (k:Nat) (m1:Nat) (m2:Nat):KR:=(cutK (Lv.a (Lv.a (Lv.b (Lv.b (Lv.b (Lv.a (Lv.a (Lv.b (Lv.a (Lv.a (Lv.b (Lv.a (Lv.b (Lv.b (Lv.b (Lv.b (Lv.b (A 63)))))))))))))))))).c (codeE P cal (codeF P cal m2) none 63 (cR (cL (cL (cR (cR (cR (cL (cL (cR (cL (cL (cR (cL (cR (cR (cR (cR (cR code63)))))))))))))))))) (Lv.b (Lv.a (Lv.a (Lv.b (Lv.b (Lv.b (Lv.a (Lv.a (Lv.b (Lv.a (Lv.a (Lv.b (Lv.a (Lv.b (Lv.b (Lv.b (Lv.b (Lv.b (A 63))))))))))))))))))) (K63_prrrrrlrllrllrrrl cal k m1 m2) (K63_pxrrrrrlrllrllrrr cal k m1) (doneK P results63)))
noncomputable def K63_prrrrrlrllrllrrrlll (cal:Cal) (k:Nat) (m1:Nat) (m2:Nat):KR:=(cutK (Lv.a (Lv.a (Lv.a (Lv.b (Lv.b (Lv.b (Lv.a (Lv.a (Lv.b (Lv.a (Lv.a (Lv.b (Lv.a (Lv.b (Lv.b (Lv.b (Lv.b (Lv.b (A 63))))))))))))))))))).c (codeE P cal (codeF P cal m2) none 63 (cR (cL (cL (cL (cR (cR (cR (cL (cL (cR (cL (cL (cR (cL (cR (cR (cR (cR (cR code63))))))))))))))))))) (Lv.b (Lv.a (Lv.a (Lv.a (Lv.b (Lv.b (Lv.b (Lv.a (Lv.a (Lv.b (Lv.a (Lv.a (Lv.b (Lv.a (Lv.b (Lv.b (Lv.b (Lv.b (Lv.b (A 63)))))))))))))))))))) (K63_prrrrrlrllrllrrrll cal k m1 m2) (K63_pxrrrrrlrllrllrrr cal k m1) (doneK P results63)))
noncomputable def K63_prrrrrlrllrllrrrllr (cal:Cal) (k:Nat) (m1:Nat) (m2:Nat):KR:=(cutK (Lv.b (Lv.a (Lv.a (Lv.b (Lv.b (Lv.b (Lv.a (Lv.a (Lv.b (Lv.a (Lv.a (Lv.b (Lv.a (Lv.b (Lv.b (Lv.b (Lv.b (Lv.b (A 63))))))))))))))))))).c (codeE P cal (codeF P cal m2) none 63 (cR (cR (cL (cL (cR (cR (cR (cL (cL (cR (cL (cL (cR (cL (cR (cR (cR (cR (cR code63))))))))))))))))))) (Lv.b (Lv.b (Lv.a (Lv.a (Lv.b (Lv.b (Lv.b (Lv.a (Lv.a (Lv.b (Lv.a (Lv.a (Lv.b (Lv.a (Lv.b (Lv.b (Lv.b (Lv.b (Lv.b (A 63)))))))))))))))))))) (K63_prrrrrlrllrllrrrl cal k m1 m2) (K63_pxrrrrrlrllrllrrr cal k m1) (doneK P results63)))
noncomputable def K63_pxrrrrrlrllrllrrrllrl (cal:Cal) (k:Nat) (m1:Nat) (m2:Nat):XR:=(upX 7 (K63_prrrrrlrllrllrrrllr cal k m1 m2) (K63_pxrrrrrlrllrllrrr cal k m1))
noncomputable def K63_prrrrrlrllrllrrrllrll (cal:Cal) (k:Nat) (m1:Nat) (m2:Nat):KR:=(cutK (Lv.a (Lv.a (Lv.b (Lv.a (Lv.a (Lv.b (Lv.b (Lv.b (Lv.a (Lv.a (Lv.b (Lv.a (Lv.a (Lv.b (Lv.a (Lv.b (Lv.b (Lv.b (Lv.b (Lv.b (A 63))))))))))))))))))))).c (codeE P cal (codeF P cal m2) none 63 (cR (cL (cL (cR (cL (cL (cR (cR (cR (cL (cL (cR (cL (cL (cR (cL (cR (cR (cR (cR (cR code63))))))))))))))))))))) (Lv.b (Lv.a (Lv.a (Lv.b (Lv.a (Lv.a (Lv.b (Lv.b (Lv.b (Lv.a (Lv.a (Lv.b (Lv.a (Lv.a (Lv.b (Lv.a (Lv.b (Lv.b (Lv.b (Lv.b (Lv.b (A 63)))))))))))))))))))))) (K63_prrrrrlrllrllrrrllr cal k m1 m2) (K63_pxrrrrrlrllrllrrrllrl cal k m1 m2) (doneK P results63)))
noncomputable def K63_prrrrrlrllrllrrrllrllr (cal:Cal) (k:Nat) (m1:Nat) (m2:Nat):KR:=(cutK (Lv.b (Lv.a (Lv.a (Lv.b (Lv.a (Lv.a (Lv.b (Lv.b (Lv.b (Lv.a (Lv.a (Lv.b (Lv.a (Lv.a (Lv.b (Lv.a (Lv.b (Lv.b (Lv.b (Lv.b (Lv.b (A 63)))))))))))))))))))))).c (codeE P cal (codeF P cal m2) none 63 (cR (cR (cL (cL (cR (cL (cL (cR (cR (cR (cL (cL (cR (cL (cL (cR (cL (cR (cR (cR (cR (cR code63)))))))))))))))))))))) (Lv.b (Lv.b (Lv.a (Lv.a (Lv.b (Lv.a (Lv.a (Lv.b (Lv.b (Lv.b (Lv.a (Lv.a (Lv.b (Lv.a (Lv.a (Lv.b (Lv.a (Lv.b (Lv.b (Lv.b (Lv.b (Lv.b (A 63))))))))))))))))))))))) (K63_prrrrrlrllrllrrrllr cal k m1 m2) (K63_pxrrrrrlrllrllrrrllrl cal k m1 m2) (doneK P results63)))
noncomputable def K63_prrrrrlrllrllrrrllrllrrl (cal:Cal) (k:Nat) (m1:Nat) (m2:Nat):KR:=(cutK (Lv.a (Lv.b (Lv.b (Lv.a (Lv.a (Lv.b (Lv.a (Lv.a (Lv.b (Lv.b (Lv.b (Lv.a (Lv.a (Lv.b (Lv.a (Lv.a (Lv.b (Lv.a (Lv.b (Lv.b (Lv.b (Lv.b (Lv.b (A 63)))))))))))))))))))))))).c (codeE P cal (codeF P cal m2) none 63 (cR (cL (cR (cR (cL (cL (cR (cL (cL (cR (cR (cR (cL (cL (cR (cL (cL (cR (cL (cR (cR (cR (cR (cR code63)))))))))))))))))))))))) (Lv.b (Lv.a (Lv.b (Lv.b (Lv.a (Lv.a (Lv.b (Lv.a (Lv.a (Lv.b (Lv.b (Lv.b (Lv.a (Lv.a (Lv.b (Lv.a (Lv.a (Lv.b (Lv.a (Lv.b (Lv.b (Lv.b (Lv.b (Lv.b (A 63))))))))))))))))))))))))) (K63_prrrrrlrllrllrrrllr cal k m1 m2) (K63_pxrrrrrlrllrllrrrllrl cal k m1 m2) (doneK P results63)))
noncomputable def K63_prrrrrr (cal:Cal) (k:Nat):KR:=(cutK (Lv.b (Lv.b (Lv.b (Lv.b (Lv.b (Lv.b (A 63))))))).c (codeE P cal (codeF P cal k) none 63 (cR (cR (cR (cR (cR (cR (cR code63))))))) (Lv.b (Lv.b (Lv.b (Lv.b (Lv.b (Lv.b (Lv.b (A 63)))))))) (doneK P results63) X0 (doneK P results63)))
noncomputable def E63_4 (cal:Cal) (k m1 m2:Nat):KR:=codeE P cal (codeF P cal m2) none 63 (cL (cL (cR (cR (cR (cL (cL (cR (cL (cL (cR (cL (cR (cR (cR (cR (cR code63))))))))))))))))) (Lv.a (Lv.a (Lv.b (Lv.b (Lv.b (Lv.a (Lv.a (Lv.b (Lv.a (Lv.a (Lv.b (Lv.a (Lv.b (Lv.b (Lv.b (Lv.b (Lv.b (A 63)))))))))))))))))) (K63_prrrrrlrllrllrrrl cal k m1 m2) (K63_pxrrrrrlrllrllrrr cal k m1) (doneK P results63)
noncomputable def R63_4 (cal:Cal) (k m1 m2:Nat):V4:=fun u1 u6 u7 u8 H n=>codeF P cal m2 (Lv.a (Lv.b (Lv.b (Lv.b (Lv.a (Lv.a (Lv.b (Lv.a (Lv.a (Lv.b (Lv.a (Lv.b (Lv.b (Lv.b (Lv.b (Lv.b (A 63))))))))))))))))) none 63 (cL (cR (cR (cR (cL (cL (cR (cL (cL (cR (cL (cR (cR (cR (cR (cR code63)))))))))))))))) (K63_prrrrrlrllr cal k m1) (K63_pxrrrrrlrllrllrrr cal k m1) (doneK P results63) (Tr.set (Tr.set (Tr.set (Tr.set Tr.nil 8 (some u8)) 7 (some u7)) 6 (some u6)) 1 (some u1)) H n []
noncomputable def E63_3 (cal:Cal) (k m1:Nat):KR:=codeE P cal (codeF P cal m1) none 63 (cL (cL (cR (cL (cR (cR (cR (cR (cR code63))))))))) (Lv.a (Lv.a (Lv.b (Lv.a (Lv.b (Lv.b (Lv.b (Lv.b (Lv.b (A 63)))))))))) (K63_prrrrrlrl cal k m1) (K63_pxrrrrrlr cal k) (doneK P results63)
noncomputable def R63_3 (cal:Cal) (k m1:Nat):V2:=fun u1 u6 H n=>codeF P cal m1 (Lv.a (Lv.b (Lv.a (Lv.b (Lv.b (Lv.b (Lv.b (Lv.b (A 63))))))))) none 63 (cL (cR (cL (cR (cR (cR (cR (cR code63)))))))) (K63_prrrrr cal k) (K63_pxrrrrrlr cal k) (doneK P results63) (Tr.set (Tr.set Tr.nil 6 (some u6)) 1 (some u1)) H n []
noncomputable def E63_2 (cal:Cal) (k m1:Nat):KR:=codeE P cal (codeF P cal m1) none 63 (cL (cL (cR (cL (cR (cR (cR (cR code63)))))))) (Lv.a (Lv.a (Lv.b (Lv.a (Lv.b (Lv.b (Lv.b (Lv.b (A 63))))))))) (K63_prrrrlrl cal k m1) (K63_pxrrrrlr cal k) (doneK P results63)
noncomputable def R63_2 (cal:Cal) (k m1:Nat):V2:=fun u1 u4 H n=>codeF P cal m1 (Lv.a (Lv.b (Lv.a (Lv.b (Lv.b (Lv.b (Lv.b (A 63)))))))) none 63 (cL (cR (cL (cR (cR (cR (cR code63))))))) (K63_prrrr cal k) (K63_pxrrrrlr cal k) (doneK P results63) (Tr.set (Tr.set Tr.nil 4 (some u4)) 1 (some u1)) H n []
noncomputable def E63_1 (cal:Cal) (k m1:Nat):KR:=codeE P cal (codeF P cal m1) none 63 (cL (cL (cR (cL (cR (cR (cR code63))))))) (Lv.a (Lv.a (Lv.b (Lv.a (Lv.b (Lv.b (Lv.b (A 63)))))))) (K63_prrrlrl cal k m1) (K63_pxrrrlr cal k) (doneK P results63)
noncomputable def R63_1 (cal:Cal) (k m1:Nat):V2:=fun u1 u3 H n=>codeF P cal m1 (Lv.a (Lv.b (Lv.a (Lv.b (Lv.b (Lv.b (A 63))))))) none 63 (cL (cR (cL (cR (cR (cR code63)))))) (K63_prrr cal k) (K63_pxrrrlr cal k) (doneK P results63) (Tr.set (Tr.set Tr.nil 3 (some u3)) 1 (some u1)) H n []
noncomputable def B63_4 (cal:Cal) (k m1 m2:Nat) (b3:V2) (b4:V4) (u1 u6 u7 u8:Value) (H:Hp) (n:Nat):Res:=
binK P .lss 3 (.tmp 130) (.tmp 131) u8 u6 fun v_9p=>
ifK v_9p (
bindO (fieldAddrV P 26 u1 1) fun v_9q=>
bindO (addrV v_9q) fun a_9s=>bindO (loadV P H 23 a_9s) fun v_9r=>
bindO (indexAddrV P 23 v_9r u8) fun v_9u=>
bindO (addrV v_9u) fun a_9w=>bindO (loadV P H 101 a_9w) fun v_9v=>
allocK P 101 H n fun v_9x H_9y n_9z=>
bindO (storeP P 101 v_9x v_9v H_9y) fun H_a1=>
bindO (addrV v_9x) fun a_a3=>bindO (loadV P H_a1 101 a_a3) fun v_a2=>
bindO (addrV u7) fun a_a5=>bindO (loadV P H_a1 101 a_a5) fun v_a4=>
binK P .eql 101 (.tmp 140) (.tmp 141) v_a2 v_a4 fun v_a6=>
guardK v_a6 false (fun k_a8=>
bindO (fieldAddrV P 101 v_9x 0) fun v_ac=>
k_a8 v_ac H_a1 n_9z) H_a1 n_9z fun v_a9 H_aa n_ab=>
guardK v_a6 false (fun k_ad=>
bindO (addrV v_a9) fun a_ai=>bindO (loadV P H_aa 3 a_ai) fun v_ah=>
k_ad v_ah H_aa n_ab) H_aa n_ab fun v_ae H_af n_ag=>
guardK v_a6 false (fun k_aj=>
bindO (fieldAddrV P 101 u7 1) fun v_an=>
k_aj v_an H_af n_ag) H_af n_ag fun v_ak H_al n_am=>
guardK v_a6 false (fun k_ao=>
bindO (addrV v_ak) fun a_at=>bindO (loadV P H_al 3 a_at) fun v_as=>
k_ao v_as H_al n_am) H_al n_am fun v_ap H_aq n_ar=>
guardK v_a6 false (fun k_au=>
binK P .eql 3 (.tmp 145) (.tmp 147) v_ae v_ap fun v_ay=>
k_au v_ay H_aq n_ar) H_aq n_ar fun v_av H_aw n_ax=>
guardK v_a6 false (fun k_az=>
k_az v_av H_aw n_ax) H_aw n_ax fun v_b0 H_b1 n_b2=>
guardK v_b0 true (fun k_b4=>
bindO (fieldAddrV P 101 v_9x 1) fun v_b8=>
k_b4 v_b8 H_b1 n_b2) H_b1 n_b2 fun v_b5 H_b6 n_b7=>
guardK v_b0 true (fun k_b9=>
bindO (addrV v_b5) fun a_be=>bindO (loadV P H_b6 3 a_be) fun v_bd=>
k_b9 v_bd H_b6 n_b7) H_b6 n_b7 fun v_ba H_bb n_bc=>
guardK v_b0 true (fun k_bf=>
bindO (fieldAddrV P 101 u7 0) fun v_bj=>
k_bf v_bj H_bb n_bc) H_bb n_bc fun v_bg H_bh n_bi=>
guardK v_b0 true (fun k_bk=>
bindO (addrV v_bg) fun a_bp=>bindO (loadV P H_bh 3 a_bp) fun v_bo=>
k_bk v_bo H_bh n_bi) H_bh n_bi fun v_bl H_bm n_bn=>
guardK v_b0 true (fun k_bq=>
binK P .eql 3 (.tmp 151) (.tmp 153) v_ba v_bl fun v_bu=>
k_bq v_bu H_bm n_bn) H_bm n_bn fun v_br H_bs n_bt=>
guardK v_a6 false (fun k_bv=>
bindO (pickV v_b0 v_br (.bool false)) fun v_bz=>
k_bv v_bz H_bs n_bt) H_bs n_bt fun v_bw H_bx n_by=>
bindO (pickV v_a6 (.bool true) v_bw) fun v_c0=>
ifK v_c0 (
some ((.int .i64 1),H_bx,n_by)) (
binK P .add 3 (.tmp 133) (.const (.int .i64 1)) u8 (.int .i64 1) fun v_c3=>
b4 u1 u6 u7 v_c3 H_bx n_by)) (
binK P .add 3 (.tmp 98) (.const (.int .i64 1)) u6 (.int .i64 1) fun v_c6=>
b3 u1 v_c6 H n)
noncomputable def C63_4 (cal:Cal) (k m1 m2:Nat) (b3:V2) (b4:V4) (u1 u6 u7 u8:Value) (H:Hp) (n:Nat):Res:=B63_4 cal k m1 m2 b3 b4 u1 u6 u7 u8 H n
noncomputable def S63_4 (cal:Cal) (k m1:Nat) (b3:V2):Nat→V4:=fun m=>Nat.rec (motive:=fun _=>V4) (C63_4 cal k m1 0 b3 (fun _ _ _ _ _ _=>none)) (fun m ih=>C63_4 cal k m1 (m+1) b3 ih) m
theorem h63_4 (cal:Cal) (k m1 m2:Nat) (u1 u6 u7 u8:Value) (H:Hp) (n:Nat):labK (E63_4 cal k m1 m2) (Tr.set (Tr.set (Tr.set (Tr.set Tr.nil 8 (some u8)) 7 (some u7)) 6 (some u6)) 1 (some u1)) H n []=C63_4 cal k m1 m2 (R63_3 cal k m1) (R63_4 cal k m1 m2) u1 u6 u7 u8 H n:=by
  refine Eq.trans (b:=B63_4 cal k m1 m2 (R63_3 cal k m1) (R63_4 cal k m1 m2) u1 u6 u7 u8 H n) (by kernel_rfl) ?_
  rw[C63_4]
theorem q63_4 (cal:Cal) (k m1:Nat):∀(m:Nat) (u1 u6 u7 u8:Value) (H:Hp) (n:Nat),labK (E63_4 cal k m1 m) (Tr.set (Tr.set (Tr.set (Tr.set Tr.nil 8 (some u8)) 7 (some u7)) 6 (some u6)) 1 (some u1)) H n []=S63_4 cal k m1 (R63_3 cal k m1) m u1 u6 u7 u8 H n
  | 0,u1,u6,u7,u8,H,n=>by
    rw[h63_4]
    have e:R63_4 cal k m1 0=fun _ _ _ _ _ _=>none:=by funext u1 u6 u7 u8 H n; kernel_rfl
    rw[e]; rfl
  | m+1,u1,u6,u7,u8,H,n=>by
    rw[h63_4]
    have e:R63_4 cal k m1 (m+1)=S63_4 cal k m1 (R63_3 cal k m1) m:=by
      funext u1 u6 u7 u8 H n
      have e:R63_4 cal k m1 (m+1) u1 u6 u7 u8 H n=labK (E63_4 cal k m1 m) (Tr.set (Tr.set (Tr.set (Tr.set Tr.nil 8 (some u8)) 7 (some u7)) 6 (some u6)) 1 (some u1)) H n []:=by kernel_rfl
      rw[e]; exact q63_4 ..
    rw[e]; rfl
noncomputable def B63_3 (cal:Cal) (k m1:Nat) (j4:V4) (b3:V2) (u1 u6:Value) (H:Hp) (n:Nat):Res:=
bindO (fieldAddrV P 26 u1 1) fun v_6p=>
bindO (addrV v_6p) fun a_6r=>bindO (loadV P H 23 a_6r) fun v_6q=>
bindO (lenV P 23 v_6q) fun v_6s=>
binK P .lss 3 (.tmp 93) (.tmp 96) u6 v_6s fun v_6t=>
ifK v_6t (
bindO (fieldAddrV P 26 u1 1) fun v_6u=>
bindO (addrV v_6u) fun a_6w=>bindO (loadV P H 23 a_6w) fun v_6v=>
bindO (indexAddrV P 23 v_6v u6) fun v_6y=>
bindO (addrV v_6y) fun a_70=>bindO (loadV P H 101 a_70) fun v_6z=>
allocK P 101 H n fun v_71 H_72 n_73=>
bindO (storeP P 101 v_71 v_6z H_72) fun H_75=>
bindO (fieldAddrV P 101 v_71 0) fun v_76=>
bindO (addrV v_76) fun a_78=>bindO (loadV P H_75 3 a_78) fun v_77=>
bindO (fieldAddrV P 26 u1 0) fun v_79=>
bindO (addrV v_79) fun a_7b=>bindO (loadV P H_75 22 a_7b) fun v_7a=>
bindO (lenV P 22 v_7a) fun v_7c=>
binK P .sub 3 (.tmp 109) (.const (.int .i64 1)) v_7c (.int .i64 1) fun v_7d=>
callFK P cal 32 [v_77,(.int .i64 0),v_7d] H_75 n_73 fun v_7e H_7f n_7g=>
bindO (pureSem P v_7e (Op.unary UnOp.not v_7e)) fun v_7h=>
guardK v_7h false (fun k_7j=>
bindO (fieldAddrV P 101 v_71 1) fun v_7n=>
k_7j v_7n H_7f n_7g) H_7f n_7g fun v_7k H_7l n_7m=>
guardK v_7h false (fun k_7o=>
bindO (addrV v_7k) fun a_7t=>bindO (loadV P H_7l 3 a_7t) fun v_7s=>
k_7o v_7s H_7l n_7m) H_7l n_7m fun v_7p H_7q n_7r=>
guardK v_7h false (fun k_7u=>
bindO (fieldAddrV P 26 u1 0) fun v_7y=>
k_7u v_7y H_7q n_7r) H_7q n_7r fun v_7v H_7w n_7x=>
guardK v_7h false (fun k_7z=>
bindO (addrV v_7v) fun a_84=>bindO (loadV P H_7w 22 a_84) fun v_83=>
k_7z v_83 H_7w n_7x) H_7w n_7x fun v_80 H_81 n_82=>
guardK v_7h false (fun k_85=>
bindO (lenV P 22 v_80) fun v_89=>
k_85 v_89 H_81 n_82) H_81 n_82 fun v_86 H_87 n_88=>
guardK v_7h false (fun k_8a=>
binK P .sub 3 (.tmp 118) (.const (.int .i64 1)) v_86 (.int .i64 1) fun v_8e=>
k_8a v_8e H_87 n_88) H_87 n_88 fun v_8b H_8c n_8d=>
guardK v_7h false (fun k_8f=>
callFK P cal 32 [v_7p,(.int .i64 0),v_8b] H_8c n_8d fun v_8j H_8k n_8l=>
k_8f v_8j H_8k n_8l) H_8c n_8d fun v_8g H_8h n_8i=>
guardK v_7h false (fun k_8m=>
bindO (pureSem P v_8g (Op.unary UnOp.not v_8g)) fun v_8q=>
k_8m v_8q H_8h n_8i) H_8h n_8i fun v_8n H_8o n_8p=>
bindO (pickV v_7h (.bool true) v_8n) fun v_8r=>
guardK v_8r false (fun k_8t=>
bindO (fieldAddrV P 101 v_71 0) fun v_8x=>
k_8t v_8x H_8o n_8p) H_8o n_8p fun v_8u H_8v n_8w=>
guardK v_8r false (fun k_8y=>
bindO (addrV v_8u) fun a_93=>bindO (loadV P H_8v 3 a_93) fun v_92=>
k_8y v_92 H_8v n_8w) H_8v n_8w fun v_8z H_90 n_91=>
guardK v_8r false (fun k_94=>
bindO (fieldAddrV P 101 v_71 1) fun v_98=>
k_94 v_98 H_90 n_91) H_90 n_91 fun v_95 H_96 n_97=>
guardK v_8r false (fun k_99=>
bindO (addrV v_95) fun a_9e=>bindO (loadV P H_96 3 a_9e) fun v_9d=>
k_99 v_9d H_96 n_97) H_96 n_97 fun v_9a H_9b n_9c=>
guardK v_8r false (fun k_9f=>
binK P .eql 3 (.tmp 125) (.tmp 127) v_8z v_9a fun v_9j=>
k_9f v_9j H_9b n_9c) H_9b n_9c fun v_9g H_9h n_9i=>
bindO (pickV v_8r (.bool true) v_9g) fun v_9k=>
ifK v_9k (
some ((.int .i64 1),H_9h,n_9i)) (
j4 u1 u6 v_71 (.int .i64 0) H_9h n_9i)) (
some ((.int .i64 0),H,n))
noncomputable def C63_3 (cal:Cal) (k m1:Nat) (b3:V2) (u1 u6:Value) (H:Hp) (n:Nat):Res:=B63_3 cal k m1 (S63_4 cal k m1 b3 m1) b3 u1 u6 H n
noncomputable def S63_3 (cal:Cal) (k:Nat):Nat→V2:=fun m=>Nat.rec (motive:=fun _=>V2) (C63_3 cal k 0 (fun _ _ _ _=>none)) (fun m ih=>C63_3 cal k (m+1) ih) m
theorem h63_3 (cal:Cal) (k m1:Nat) (u1 u6:Value) (H:Hp) (n:Nat):labK (E63_3 cal k m1) (Tr.set (Tr.set Tr.nil 6 (some u6)) 1 (some u1)) H n []=C63_3 cal k m1 (R63_3 cal k m1) u1 u6 H n:=by
  refine Eq.trans (b:=B63_3 cal k m1 (fun u1 u6 u7 u8 H n=>labK (E63_4 cal k m1 m1) (Tr.set (Tr.set (Tr.set (Tr.set Tr.nil 8 (some u8)) 7 (some u7)) 6 (some u6)) 1 (some u1)) H n []) (R63_3 cal k m1) u1 u6 H n) (by kernel_rfl) ?_
  rw[C63_3]
  have e4:(fun u1 u6 u7 u8 H n=>labK (E63_4 cal k m1 m1) (Tr.set (Tr.set (Tr.set (Tr.set Tr.nil 8 (some u8)) 7 (some u7)) 6 (some u6)) 1 (some u1)) H n [])=(S63_4 cal k m1 (R63_3 cal k m1) m1):=by funext u1 u6 u7 u8 H n; exact q63_4 ..
  rw[e4]
theorem q63_3 (cal:Cal) (k:Nat):∀(m:Nat) (u1 u6:Value) (H:Hp) (n:Nat),labK (E63_3 cal k m) (Tr.set (Tr.set Tr.nil 6 (some u6)) 1 (some u1)) H n []=S63_3 cal k m u1 u6 H n
  | 0,u1,u6,H,n=>by
    rw[h63_3]
    have e:R63_3 cal k 0=fun _ _ _ _=>none:=by funext u1 u6 H n; kernel_rfl
    rw[e]; rfl
  | m+1,u1,u6,H,n=>by
    rw[h63_3]
    have e:R63_3 cal k (m+1)=S63_3 cal k m:=by
      funext u1 u6 H n
      have e:R63_3 cal k (m+1) u1 u6 H n=labK (E63_3 cal k m) (Tr.set (Tr.set Tr.nil 6 (some u6)) 1 (some u1)) H n []:=by kernel_rfl
      rw[e]; exact q63_3 ..
    rw[e]; rfl
noncomputable def B63_2 (cal:Cal) (k m1:Nat) (j3:V2) (b2:V2) (u1 u4:Value) (H:Hp) (n:Nat):Res:=
bindO (fieldAddrV P 26 u1 2) fun v_3b=>
bindO (addrV v_3b) fun a_3d=>bindO (loadV P H 24 a_3d) fun v_3c=>
bindO (lenV P 24 v_3c) fun v_3e=>
binK P .lss 3 (.tmp 57) (.tmp 60) u4 v_3e fun v_3f=>
ifK v_3f (
bindO (fieldAddrV P 26 u1 2) fun v_3g=>
bindO (addrV v_3g) fun a_3i=>bindO (loadV P H 24 a_3i) fun v_3h=>
bindO (indexAddrV P 24 v_3h u4) fun v_3k=>
bindO (addrV v_3k) fun a_3m=>bindO (loadV P H 94 a_3m) fun v_3l=>
allocK P 94 H n fun v_3n H_3o n_3p=>
bindO (storeP P 94 v_3n v_3l H_3o) fun H_3r=>
bindO (fieldAddrV P 94 v_3n 0) fun v_3s=>
bindO (addrV v_3s) fun a_3u=>bindO (loadV P H_3r 3 a_3u) fun v_3t=>
callFK P cal 32 [v_3t,(.int .i64 0),(.int .i64 1000)] H_3r n_3p fun v_3v H_3w n_3x=>
bindO (pureSem P v_3v (Op.unary UnOp.not v_3v)) fun v_3y=>
guardK v_3y false (fun k_40=>
bindO (fieldAddrV P 94 v_3n 1) fun v_44=>
k_40 v_44 H_3w n_3x) H_3w n_3x fun v_41 H_42 n_43=>
guardK v_3y false (fun k_45=>
bindO (fieldAddrV P 55 v_41 0) fun v_49=>
k_45 v_49 H_42 n_43) H_42 n_43 fun v_46 H_47 n_48=>
guardK v_3y false (fun k_4a=>
bindO (addrV v_46) fun a_4f=>bindO (loadV P H_47 3 a_4f) fun v_4e=>
k_4a v_4e H_47 n_48) H_47 n_48 fun v_4b H_4c n_4d=>
guardK v_3y false (fun k_4g=>
bindO (fieldAddrV P 94 v_3n 1) fun v_4k=>
k_4g v_4k H_4c n_4d) H_4c n_4d fun v_4h H_4i n_4j=>
guardK v_3y false (fun k_4l=>
bindO (fieldAddrV P 55 v_4h 1) fun v_4p=>
k_4l v_4p H_4i n_4j) H_4i n_4j fun v_4m H_4n n_4o=>
guardK v_3y false (fun k_4q=>
bindO (addrV v_4m) fun a_4v=>bindO (loadV P H_4n 3 a_4v) fun v_4u=>
k_4q v_4u H_4n n_4o) H_4n n_4o fun v_4r H_4s n_4t=>
guardK v_3y false (fun k_4w=>
callFK P cal 100 [v_4b,v_4r] H_4s n_4t fun v_50 H_51 n_52=>
k_4w v_50 H_51 n_52) H_4s n_4t fun v_4x H_4y n_4z=>
guardK v_3y false (fun k_53=>
bindO (pureSem P v_4x (Op.unary UnOp.not v_4x)) fun v_57=>
k_53 v_57 H_4y n_4z) H_4y n_4z fun v_54 H_55 n_56=>
bindO (pickV v_3y (.bool true) v_54) fun v_58=>
guardK v_58 false (fun k_5a=>
bindO (fieldAddrV P 94 v_3n 2) fun v_5e=>
k_5a v_5e H_55 n_56) H_55 n_56 fun v_5b H_5c n_5d=>
guardK v_58 false (fun k_5f=>
bindO (fieldAddrV P 55 v_5b 0) fun v_5j=>
k_5f v_5j H_5c n_5d) H_5c n_5d fun v_5g H_5h n_5i=>
guardK v_58 false (fun k_5k=>
bindO (addrV v_5g) fun a_5p=>bindO (loadV P H_5h 3 a_5p) fun v_5o=>
k_5k v_5o H_5h n_5i) H_5h n_5i fun v_5l H_5m n_5n=>
guardK v_58 false (fun k_5q=>
bindO (fieldAddrV P 94 v_3n 2) fun v_5u=>
k_5q v_5u H_5m n_5n) H_5m n_5n fun v_5r H_5s n_5t=>
guardK v_58 false (fun k_5v=>
bindO (fieldAddrV P 55 v_5r 1) fun v_5z=>
k_5v v_5z H_5s n_5t) H_5s n_5t fun v_5w H_5x n_5y=>
guardK v_58 false (fun k_60=>
bindO (addrV v_5w) fun a_65=>bindO (loadV P H_5x 3 a_65) fun v_64=>
k_60 v_64 H_5x n_5y) H_5x n_5y fun v_61 H_62 n_63=>
guardK v_58 false (fun k_66=>
callFK P cal 100 [v_5l,v_61] H_62 n_63 fun v_6a H_6b n_6c=>
k_66 v_6a H_6b n_6c) H_62 n_63 fun v_67 H_68 n_69=>
guardK v_58 false (fun k_6d=>
bindO (pureSem P v_67 (Op.unary UnOp.not v_67)) fun v_6h=>
k_6d v_6h H_68 n_69) H_68 n_69 fun v_6e H_6f n_6g=>
bindO (pickV v_58 (.bool true) v_6e) fun v_6i=>
ifK v_6i (
some ((.int .i64 1),H_6f,n_6g)) (
binK P .add 3 (.tmp 62) (.const (.int .i64 1)) u4 (.int .i64 1) fun v_6l=>
b2 u1 v_6l H_6f n_6g)) (
j3 u1 (.int .i64 0) H n)
noncomputable def C63_2 (cal:Cal) (k m1:Nat) (b2:V2) (u1 u4:Value) (H:Hp) (n:Nat):Res:=B63_2 cal k m1 (S63_3 cal k k) b2 u1 u4 H n
noncomputable def S63_2 (cal:Cal) (k:Nat):Nat→V2:=fun m=>Nat.rec (motive:=fun _=>V2) (C63_2 cal k 0 (fun _ _ _ _=>none)) (fun m ih=>C63_2 cal k (m+1) ih) m
theorem h63_2 (cal:Cal) (k m1:Nat) (u1 u4:Value) (H:Hp) (n:Nat):labK (E63_2 cal k m1) (Tr.set (Tr.set Tr.nil 4 (some u4)) 1 (some u1)) H n []=C63_2 cal k m1 (R63_2 cal k m1) u1 u4 H n:=by
  refine Eq.trans (b:=B63_2 cal k m1 (fun u1 u6 H n=>labK (E63_3 cal k k) (Tr.set (Tr.set Tr.nil 6 (some u6)) 1 (some u1)) H n []) (R63_2 cal k m1) u1 u4 H n) (by kernel_rfl) ?_
  rw[C63_2]
  have e3:(fun u1 u6 H n=>labK (E63_3 cal k k) (Tr.set (Tr.set Tr.nil 6 (some u6)) 1 (some u1)) H n [])=(S63_3 cal k k):=by funext u1 u6 H n; exact q63_3 ..
  rw[e3]
theorem q63_2 (cal:Cal) (k:Nat):∀(m:Nat) (u1 u4:Value) (H:Hp) (n:Nat),labK (E63_2 cal k m) (Tr.set (Tr.set Tr.nil 4 (some u4)) 1 (some u1)) H n []=S63_2 cal k m u1 u4 H n
  | 0,u1,u4,H,n=>by
    rw[h63_2]
    have e:R63_2 cal k 0=fun _ _ _ _=>none:=by funext u1 u4 H n; kernel_rfl
    rw[e]; rfl
  | m+1,u1,u4,H,n=>by
    rw[h63_2]
    have e:R63_2 cal k (m+1)=S63_2 cal k m:=by
      funext u1 u4 H n
      have e:R63_2 cal k (m+1) u1 u4 H n=labK (E63_2 cal k m) (Tr.set (Tr.set Tr.nil 4 (some u4)) 1 (some u1)) H n []:=by kernel_rfl
      rw[e]; exact q63_2 ..
    rw[e]; rfl
noncomputable def B63_1 (cal:Cal) (k m1:Nat) (j2:V2) (b1:V2) (u1 u3:Value) (H:Hp) (n:Nat):Res:=
bindO (fieldAddrV P 26 u1 0) fun v_2g=>
bindO (addrV v_2g) fun a_2i=>bindO (loadV P H 22 a_2i) fun v_2h=>
bindO (lenV P 22 v_2h) fun v_2j=>
binK P .lss 3 (.tmp 36) (.tmp 39) u3 v_2j fun v_2k=>
ifK v_2k (
bindO (fieldAddrV P 26 u1 0) fun v_2l=>
bindO (addrV v_2l) fun a_2m=>bindO (loadV P H 22 a_2m) fun v_2n=>
bindO (indexAddrV P 22 v_2n u3) fun v_2p=>
bindO (fieldAddrV P 95 v_2p 0) fun v_2q=>
bindO (addrV v_2q) fun a_2r=>bindO (loadV P H 3 a_2r) fun v_2s=>
bindO (fieldAddrV P 26 u1 0) fun v_2t=>
bindO (addrV v_2t) fun a_2u=>bindO (loadV P H 22 a_2u) fun v_2v=>
bindO (indexAddrV P 22 v_2v u3) fun v_2x=>
bindO (fieldAddrV P 95 v_2x 1) fun v_2y=>
bindO (addrV v_2y) fun a_2z=>bindO (loadV P H 3 a_2z) fun v_30=>
callFK P cal 100 [v_2s,v_30] H n fun v_31 H_32 n_33=>
bindO (pureSem P v_31 (Op.unary UnOp.not v_31)) fun v_34=>
ifK v_34 (
some ((.int .i64 1),H_32,n_33)) (
binK P .add 3 (.tmp 41) (.const (.int .i64 1)) u3 (.int .i64 1) fun v_37=>
b1 u1 v_37 H_32 n_33)) (
j2 u1 (.int .i64 0) H n)
noncomputable def C63_1 (cal:Cal) (k m1:Nat) (b1:V2) (u1 u3:Value) (H:Hp) (n:Nat):Res:=B63_1 cal k m1 (S63_2 cal k k) b1 u1 u3 H n
noncomputable def S63_1 (cal:Cal) (k:Nat):Nat→V2:=fun m=>Nat.rec (motive:=fun _=>V2) (C63_1 cal k 0 (fun _ _ _ _=>none)) (fun m ih=>C63_1 cal k (m+1) ih) m
theorem h63_1 (cal:Cal) (k m1:Nat) (u1 u3:Value) (H:Hp) (n:Nat):labK (E63_1 cal k m1) (Tr.set (Tr.set Tr.nil 3 (some u3)) 1 (some u1)) H n []=C63_1 cal k m1 (R63_1 cal k m1) u1 u3 H n:=by
  refine Eq.trans (b:=B63_1 cal k m1 (fun u1 u4 H n=>labK (E63_2 cal k k) (Tr.set (Tr.set Tr.nil 4 (some u4)) 1 (some u1)) H n []) (R63_1 cal k m1) u1 u3 H n) (by kernel_rfl) ?_
  rw[C63_1]
  have e2:(fun u1 u4 H n=>labK (E63_2 cal k k) (Tr.set (Tr.set Tr.nil 4 (some u4)) 1 (some u1)) H n [])=(S63_2 cal k k):=by funext u1 u4 H n; exact q63_2 ..
  rw[e2]
theorem q63_1 (cal:Cal) (k:Nat):∀(m:Nat) (u1 u3:Value) (H:Hp) (n:Nat),labK (E63_1 cal k m) (Tr.set (Tr.set Tr.nil 3 (some u3)) 1 (some u1)) H n []=S63_1 cal k m u1 u3 H n
  | 0,u1,u3,H,n=>by
    rw[h63_1]
    have e:R63_1 cal k 0=fun _ _ _ _=>none:=by funext u1 u3 H n; kernel_rfl
    rw[e]; rfl
  | m+1,u1,u3,H,n=>by
    rw[h63_1]
    have e:R63_1 cal k (m+1)=S63_1 cal k m:=by
      funext u1 u3 H n
      have e:R63_1 cal k (m+1) u1 u3 H n=labK (E63_1 cal k m) (Tr.set (Tr.set Tr.nil 3 (some u3)) 1 (some u1)) H n []:=by kernel_rfl
      rw[e]; exact q63_1 ..
    rw[e]; rfl
noncomputable def B63_0 (cal:Cal) (k:Nat) (j1:V2) (v0:Value) (H:Hp) (n:Nat):Res:=
boxK 26 v0 H n fun v_1 H_2 n_3=>
bindO (fieldAddrV P 26 v_1 0) fun v_5=>
bindO (addrV v_5) fun a_7=>bindO (loadV P H_2 22 a_7) fun v_6=>
bindO (lenV P 22 v_6) fun v_8=>
binK P .gtr 3 (.tmp 12) (.const (.int .i64 8)) v_8 (.int .i64 8) fun v_9=>
guardK v_9 false (fun k_b=>
bindO (fieldAddrV P 26 v_1 1) fun v_f=>
k_b v_f H_2 n_3) H_2 n_3 fun v_c H_d n_e=>
guardK v_9 false (fun k_g=>
bindO (addrV v_c) fun a_l=>bindO (loadV P H_d 23 a_l) fun v_k=>
k_g v_k H_d n_e) H_d n_e fun v_h H_i n_j=>
guardK v_9 false (fun k_m=>
bindO (lenV P 23 v_h) fun v_q=>
k_m v_q H_i n_j) H_i n_j fun v_n H_o n_p=>
guardK v_9 false (fun k_r=>
binK P .gtr 3 (.tmp 17) (.const (.int .i64 16)) v_n (.int .i64 16) fun v_v=>
k_r v_v H_o n_p) H_o n_p fun v_s H_t n_u=>
bindO (pickV v_9 (.bool true) v_s) fun v_w=>
guardK v_w false (fun k_y=>
bindO (fieldAddrV P 26 v_1 2) fun v_12=>
k_y v_12 H_t n_u) H_t n_u fun v_z H_10 n_11=>
guardK v_w false (fun k_13=>
bindO (addrV v_z) fun a_18=>bindO (loadV P H_10 24 a_18) fun v_17=>
k_13 v_17 H_10 n_11) H_10 n_11 fun v_14 H_15 n_16=>
guardK v_w false (fun k_19=>
bindO (lenV P 24 v_14) fun v_1d=>
k_19 v_1d H_15 n_16) H_15 n_16 fun v_1a H_1b n_1c=>
guardK v_w false (fun k_1e=>
binK P .gtr 3 (.tmp 23) (.const (.int .i64 3)) v_1a (.int .i64 3) fun v_1i=>
k_1e v_1i H_1b n_1c) H_1b n_1c fun v_1f H_1g n_1h=>
bindO (pickV v_w (.bool true) v_1f) fun v_1j=>
ifK v_1j (
some ((.int .i64 3),H_1g,n_1h)) (
bindO (fieldAddrV P 26 v_1 0) fun v_1l=>
bindO (addrV v_1l) fun a_1n=>bindO (loadV P H_1g 22 a_1n) fun v_1m=>
bindO (lenV P 22 v_1m) fun v_1o=>
binK P .eql 3 (.tmp 28) (.const (.int .i64 0)) v_1o (.int .i64 0) fun v_1p=>
guardK v_1p false (fun k_1r=>
bindO (fieldAddrV P 26 v_1 2) fun v_1v=>
k_1r v_1v H_1g n_1h) H_1g n_1h fun v_1s H_1t n_1u=>
guardK v_1p false (fun k_1w=>
bindO (addrV v_1s) fun a_21=>bindO (loadV P H_1t 24 a_21) fun v_20=>
k_1w v_20 H_1t n_1u) H_1t n_1u fun v_1x H_1y n_1z=>
guardK v_1p false (fun k_22=>
bindO (lenV P 24 v_1x) fun v_26=>
k_22 v_26 H_1y n_1z) H_1y n_1z fun v_23 H_24 n_25=>
guardK v_1p false (fun k_27=>
binK P .eql 3 (.tmp 33) (.const (.int .i64 0)) v_23 (.int .i64 0) fun v_2b=>
k_27 v_2b H_24 n_25) H_24 n_25 fun v_28 H_29 n_2a=>
bindO (pickV v_1p (.bool true) v_28) fun v_2c=>
ifK v_2c (
some ((.int .i64 1),H_29,n_2a)) (
j1 v_1 (.int .i64 0) H_29 n_2a))
noncomputable def C63_0 (cal:Cal) (k:Nat) (v0:Value) (H:Hp) (n:Nat):Res:=B63_0 cal k (S63_1 cal k k) v0 H n
theorem h63_0 (cal:Cal) (k:Nat) (v0:Value) (H:Hp) (n:Nat):bodyE P cal A (k+1) 63 [v0] H n=C63_0 cal k v0 H n:=by
  have h:bodyE P cal A (k+1) 63 [v0] H n=B63_0 cal k (fun u1 u3 H n=>labK (E63_1 cal k k) (Tr.set (Tr.set Tr.nil 3 (some u3)) 1 (some u1)) H n []) v0 H n:=by
    rw[body_eq (fn:=Go.Proofs.Try.f63) (c:=code63) (rs:=results63) (by kernel_rfl) (by kernel_rfl) (by kernel_rfl) (by kernel_rfl)]
    kernel_rfl
  rw[h,C63_0]
  have e1:(fun u1 u3 H n=>labK (E63_1 cal k k) (Tr.set (Tr.set Tr.nil 3 (some u3)) 1 (some u1)) H n [])=(S63_1 cal k k):=by funext u1 u3 H n; exact q63_1 ..
  rw[e1]
noncomputable def code64:Code:=codeOf 64
noncomputable def results64:List ResultVar:=resOf 64
noncomputable def K64_p (cal:Cal) (k:Nat):KR:=(cutK (A 64).c (codeE P cal (codeF P cal k) none 64 (cR code64) (Lv.b (A 64)) (doneK P results64) X0 (doneK P results64)))
noncomputable def K64_pr (cal:Cal) (k:Nat):KR:=(cutK (Lv.b (A 64)).c (codeE P cal (codeF P cal k) none 64 (cR (cR code64)) (Lv.b (Lv.b (A 64))) (doneK P results64) X0 (doneK P results64)))
noncomputable def K64_prr (cal:Cal) (k:Nat):KR:=(cutK (Lv.b (Lv.b (A 64))).c (codeE P cal (codeF P cal k) none 64 (cR (cR (cR code64))) (Lv.b (Lv.b (Lv.b (A 64)))) (doneK P results64) X0 (doneK P results64)))
noncomputable def K64_prrl (cal:Cal) (k:Nat):KR:=(cutK (Lv.a (Lv.b (Lv.b (A 64)))).c (codeE P cal (codeF P cal k) none 64 (cR (cL (cR (cR code64)))) (Lv.b (Lv.a (Lv.b (Lv.b (A 64))))) (K64_prr cal k) X0 (doneK P results64)))
noncomputable def K64_pxrrlr (cal:Cal) (k:Nat):XR:=(upX 0 (K64_prr cal k) X0)
noncomputable def K64_prrlrl (cal:Cal) (k:Nat) (m1:Nat):KR:=(fun T H n D=>codeF P cal m1 (Lv.a (Lv.b (Lv.a (Lv.b (Lv.b (A 64)))))) none 64 (cL (cR (cL (cR (cR code64))))) (K64_prr cal k) (K64_pxrrlr cal k) (doneK P results64) (cutT (Lv.a (Lv.b (Lv.a (Lv.b (Lv.b (A 64)))))).c T) H n D)
noncomputable def K64_prrlrll (cal:Cal) (k:Nat) (m1:Nat):KR:=(cutK (Lv.a (Lv.a (Lv.b (Lv.a (Lv.b (Lv.b (A 64))))))).c (codeE P cal (codeF P cal m1) none 64 (cR (cL (cL (cR (cL (cR (cR code64))))))) (Lv.b (Lv.a (Lv.a (Lv.b (Lv.a (Lv.b (Lv.b (A 64)))))))) (K64_prrlrl cal k m1) (K64_pxrrlr cal k) (doneK P results64)))
noncomputable def K64_prrlrlll (cal:Cal) (k:Nat) (m1:Nat):KR:=(cutK (Lv.a (Lv.a (Lv.a (Lv.b (Lv.a (Lv.b (Lv.b (A 64)))))))).c (codeE P cal (codeF P cal m1) none 64 (cR (cL (cL (cL (cR (cL (cR (cR code64)))))))) (Lv.b (Lv.a (Lv.a (Lv.a (Lv.b (Lv.a (Lv.b (Lv.b (A 64))))))))) (K64_prrlrll cal k m1) (K64_pxrrlr cal k) (doneK P results64)))
noncomputable def K64_prrlrllr (cal:Cal) (k:Nat) (m1:Nat):KR:=(cutK (Lv.b (Lv.a (Lv.a (Lv.b (Lv.a (Lv.b (Lv.b (A 64)))))))).c (codeE P cal (codeF P cal m1) none 64 (cR (cR (cL (cL (cR (cL (cR (cR code64)))))))) (Lv.b (Lv.b (Lv.a (Lv.a (Lv.b (Lv.a (Lv.b (Lv.b (A 64))))))))) (K64_prrlrl cal k m1) (K64_pxrrlr cal k) (doneK P results64)))
noncomputable def K64_pxrrlrllrl (cal:Cal) (k:Nat) (m1:Nat):XR:=(upX 1 (K64_prrlrllr cal k m1) (K64_pxrrlr cal k))
noncomputable def K64_prrlrllrll (cal:Cal) (k:Nat) (m1:Nat):KR:=(cutK (Lv.a (Lv.a (Lv.b (Lv.a (Lv.a (Lv.b (Lv.a (Lv.b (Lv.b (A 64)))))))))).c (codeE P cal (codeF P cal m1) none 64 (cR (cL (cL (cR (cL (cL (cR (cL (cR (cR code64)))))))))) (Lv.b (Lv.a (Lv.a (Lv.b (Lv.a (Lv.a (Lv.b (Lv.a (Lv.b (Lv.b (A 64))))))))))) (K64_prrlrllr cal k m1) (K64_pxrrlrllrl cal k m1) (doneK P results64)))
noncomputable def K64_prrlrllrllr (cal:Cal) (k:Nat) (m1:Nat):KR:=(cutK (Lv.b (Lv.a (Lv.a (Lv.b (Lv.a (Lv.a (Lv.b (Lv.a (Lv.b (Lv.b (A 64))))))))))).c (codeE P cal (codeF P cal m1) none 64 (cR (cR (cL (cL (cR (cL (cL (cR (cL (cR (cR code64))))))))))) (Lv.b (Lv.b (Lv.a (Lv.a (Lv.b (Lv.a (Lv.a (Lv.b (Lv.a (Lv.b (Lv.b (A 64)))))))))))) (K64_prrlrllr cal k m1) (K64_pxrrlrllrl cal k m1) (doneK P results64)))
noncomputable def K64_prrr (cal:Cal) (k:Nat):KR:=(cutK (Lv.b (Lv.b (Lv.b (A 64)))).c (codeE P cal (codeF P cal k) none 64 (cR (cR (cR (cR code64)))) (Lv.b (Lv.b (Lv.b (Lv.b (A 64))))) (doneK P results64) X0 (doneK P results64)))
noncomputable def K64_prrrr (cal:Cal) (k:Nat):KR:=(cutK (Lv.b (Lv.b (Lv.b (Lv.b (A 64))))).c (codeE P cal (codeF P cal k) none 64 (cR (cR (cR (cR (cR code64))))) (Lv.b (Lv.b (Lv.b (Lv.b (Lv.b (A 64)))))) (doneK P results64) X0 (doneK P results64)))
noncomputable def E64_2 (cal:Cal) (k m1:Nat):KR:=codeE P cal (codeF P cal m1) none 64 (cR (cR (cL (cL (cR (cL (cR (cR code64)))))))) (Lv.b (Lv.b (Lv.a (Lv.a (Lv.b (Lv.a (Lv.b (Lv.b (A 64))))))))) (K64_prrlrl cal k m1) (K64_pxrrlr cal k) (doneK P results64)
noncomputable def E64_1 (cal:Cal) (k m1:Nat):KR:=codeE P cal (codeF P cal m1) none 64 (cL (cL (cR (cL (cR (cR code64)))))) (Lv.a (Lv.a (Lv.b (Lv.a (Lv.b (Lv.b (A 64))))))) (K64_prrlrl cal k m1) (K64_pxrrlr cal k) (doneK P results64)
noncomputable def R64_1 (cal:Cal) (k m1:Nat):V8:=fun u1 u2 u3 u4 u5 u11 u12 u13 H n=>codeF P cal m1 (Lv.a (Lv.b (Lv.a (Lv.b (Lv.b (A 64)))))) none 64 (cL (cR (cL (cR (cR code64))))) (K64_prr cal k) (K64_pxrrlr cal k) (doneK P results64) (Tr.set (Tr.set (Tr.set (Tr.set (Tr.set (Tr.set (Tr.set (Tr.set Tr.nil 13 (some u13)) 12 (some u12)) 11 (some u11)) 5 (some u5)) 4 (some u4)) 3 (some u3)) 2 (some u2)) 1 (some u1)) H n []
noncomputable def B64_2 (cal:Cal) (k m1:Nat) (b1:V8) (u1 u2 u3 u4 u5 u11 u12 u13:Value) (H:Hp) (n:Nat):Res:=
binK P .add 3 (.tmp 23) (.const (.int .i64 1)) u13 (.int .i64 1) fun v_h=>
b1 u1 u2 u3 u4 u5 u11 u12 v_h H n
noncomputable def C64_2 (cal:Cal) (k m1:Nat) (b1:V8) (u1 u2 u3 u4 u5 u11 u12 u13:Value) (H:Hp) (n:Nat):Res:=B64_2 cal k m1 b1 u1 u2 u3 u4 u5 u11 u12 u13 H n
theorem h64_2 (cal:Cal) (k m1:Nat) (u1 u2 u3 u4 u5 u11 u12 u13:Value) (H:Hp) (n:Nat):labK (E64_2 cal k m1) (Tr.set (Tr.set (Tr.set (Tr.set (Tr.set (Tr.set (Tr.set (Tr.set Tr.nil 13 (some u13)) 12 (some u12)) 11 (some u11)) 5 (some u5)) 4 (some u4)) 3 (some u3)) 2 (some u2)) 1 (some u1)) H n []=C64_2 cal k m1 (R64_1 cal k m1) u1 u2 u3 u4 u5 u11 u12 u13 H n:=by
  refine Eq.trans (b:=B64_2 cal k m1 (R64_1 cal k m1) u1 u2 u3 u4 u5 u11 u12 u13 H n) (by kernel_rfl) ?_
  rw[C64_2]
noncomputable def B64_1 (cal:Cal) (k m1:Nat) (j2:V8) (b1:V8) (u1 u2 u3 u4 u5 u11 u12 u13:Value) (H:Hp) (n:Nat):Res:=
bindO (fieldAddrV P 26 u5 0) fun v_b=>
bindO (addrV v_b) fun a_d=>bindO (loadV P H 22 a_d) fun v_c=>
bindO (lenV P 22 v_c) fun v_e=>
binK P .lss 3 (.tmp 18) (.tmp 21) u13 v_e fun v_f=>
ifK v_f (
bindO (addrV u5) fun a_k=>bindO (loadV P H 26 a_k) fun v_j=>
callFK P cal 77 [v_j,u1,u2,u13] H n fun v_o H_p n_q=>
allocK P 55 H_p n_q fun v_r H_s n_t=>
bindO (storeP P 55 v_r v_o H_s) fun H_v=>
binK P .neq 3 (.tmp 30) (.tmp 31) u13 u3 fun v_y=>
ifK v_y (
bindO (fieldAddrV P 55 v_r 0) fun v_10=>
bindO (addrV v_10) fun a_11=>bindO (loadV P H_v 3 a_11) fun v_12=>
binK P .add 3 (.tmp 33) (.tmp 35) u11 v_12 fun v_13=>
bindO (fieldAddrV P 55 v_r 1) fun v_15=>
bindO (addrV v_15) fun a_16=>bindO (loadV P H_v 3 a_16) fun v_17=>
binK P .add 3 (.tmp 37) (.tmp 39) u12 v_17 fun v_18=>
j2 u1 u2 u3 u4 u5 v_13 v_18 u13 H_v n_t) (
j2 u1 u2 u3 u4 u5 u11 u12 u13 H_v n_t)) (
bindO (addrV u5) fun a_1c=>bindO (loadV P H 26 a_1c) fun v_1b=>
callFK P cal 77 [v_1b,u1,u2,u3] H n fun v_1g H_1h n_1i=>
allocK P 55 H_1h n_1i fun v_1j H_1k n_1l=>
bindO (storeP P 55 v_1j v_1g H_1k) fun H_1n=>
bindO (fieldAddrV P 55 v_1j 0) fun v_1p=>
bindO (addrV v_1p) fun a_1r=>bindO (loadV P H_1n 3 a_1r) fun v_1q=>
bindO (fieldAddrV P 55 v_1j 1) fun v_1s=>
bindO (addrV v_1s) fun a_1u=>bindO (loadV P H_1n 3 a_1u) fun v_1t=>
callFK P cal 32 [u4,v_1q,v_1t] H_1n n_1l fun v_1v H_1w n_1x=>
guardK v_1v true (fun k_1z=>
bindO (fieldAddrV P 26 u5 2) fun v_23=>
k_1z v_23 H_1w n_1x) H_1w n_1x fun v_20 H_21 n_22=>
guardK v_1v true (fun k_24=>
bindO (addrV v_20) fun a_29=>bindO (loadV P H_21 24 a_29) fun v_28=>
k_24 v_28 H_21 n_22) H_21 n_22 fun v_25 H_26 n_27=>
guardK v_1v true (fun k_2a=>
k_2a u1 H_26 n_27) H_26 n_27 fun v_2b H_2c n_2d=>
guardK v_1v true (fun k_2f=>
bindO (indexAddrV P 24 v_25 v_2b) fun v_2j=>
k_2f v_2j H_2c n_2d) H_2c n_2d fun v_2g H_2h n_2i=>
guardK v_1v true (fun k_2k=>
bindO (fieldAddrV P 94 v_2g 0) fun v_2o=>
k_2k v_2o H_2h n_2i) H_2h n_2i fun v_2l H_2m n_2n=>
guardK v_1v true (fun k_2p=>
bindO (addrV v_2l) fun a_2u=>bindO (loadV P H_2m 3 a_2u) fun v_2t=>
k_2p v_2t H_2m n_2n) H_2m n_2n fun v_2q H_2r n_2s=>
guardK v_1v true (fun k_2v=>
k_2v u11 H_2r n_2s) H_2r n_2s fun v_2w H_2x n_2y=>
guardK v_1v true (fun k_30=>
k_30 u12 H_2x n_2y) H_2x n_2y fun v_31 H_32 n_33=>
guardK v_1v true (fun k_35=>
callFK P cal 32 [v_2q,v_2w,v_31] H_32 n_33 fun v_39 H_3a n_3b=>
k_35 v_39 H_3a n_3b) H_32 n_33 fun v_36 H_37 n_38=>
bindO (pickV v_1v v_36 (.bool false)) fun v_3c=>
some (v_3c,H_37,n_38))
noncomputable def C64_1 (cal:Cal) (k m1:Nat) (b1:V8) (u1 u2 u3 u4 u5 u11 u12 u13:Value) (H:Hp) (n:Nat):Res:=B64_1 cal k m1 (C64_2 cal k m1 b1) b1 u1 u2 u3 u4 u5 u11 u12 u13 H n
noncomputable def S64_1 (cal:Cal) (k:Nat):Nat→V8:=fun m=>Nat.rec (motive:=fun _=>V8) (C64_1 cal k 0 (fun _ _ _ _ _ _ _ _ _ _=>none)) (fun m ih=>C64_1 cal k (m+1) ih) m
theorem h64_1 (cal:Cal) (k m1:Nat) (u1 u2 u3 u4 u5 u11 u12 u13:Value) (H:Hp) (n:Nat):labK (E64_1 cal k m1) (Tr.set (Tr.set (Tr.set (Tr.set (Tr.set (Tr.set (Tr.set (Tr.set Tr.nil 13 (some u13)) 12 (some u12)) 11 (some u11)) 5 (some u5)) 4 (some u4)) 3 (some u3)) 2 (some u2)) 1 (some u1)) H n []=C64_1 cal k m1 (R64_1 cal k m1) u1 u2 u3 u4 u5 u11 u12 u13 H n:=by
  refine Eq.trans (b:=B64_1 cal k m1 (fun u1 u2 u3 u4 u5 u11 u12 u13 H n=>labK (E64_2 cal k m1) (Tr.set (Tr.set (Tr.set (Tr.set (Tr.set (Tr.set (Tr.set (Tr.set Tr.nil 13 (some u13)) 12 (some u12)) 11 (some u11)) 5 (some u5)) 4 (some u4)) 3 (some u3)) 2 (some u2)) 1 (some u1)) H n []) (R64_1 cal k m1) u1 u2 u3 u4 u5 u11 u12 u13 H n) (by kernel_rfl) ?_
  rw[C64_1]
  have e2:(fun u1 u2 u3 u4 u5 u11 u12 u13 H n=>labK (E64_2 cal k m1) (Tr.set (Tr.set (Tr.set (Tr.set (Tr.set (Tr.set (Tr.set (Tr.set Tr.nil 13 (some u13)) 12 (some u12)) 11 (some u11)) 5 (some u5)) 4 (some u4)) 3 (some u3)) 2 (some u2)) 1 (some u1)) H n [])=(C64_2 cal k m1 (R64_1 cal k m1)):=by funext u1 u2 u3 u4 u5 u11 u12 u13 H n; exact h64_2 ..
  rw[e2]
theorem q64_1 (cal:Cal) (k:Nat):∀(m:Nat) (u1 u2 u3 u4 u5 u11 u12 u13:Value) (H:Hp) (n:Nat),labK (E64_1 cal k m) (Tr.set (Tr.set (Tr.set (Tr.set (Tr.set (Tr.set (Tr.set (Tr.set Tr.nil 13 (some u13)) 12 (some u12)) 11 (some u11)) 5 (some u5)) 4 (some u4)) 3 (some u3)) 2 (some u2)) 1 (some u1)) H n []=S64_1 cal k m u1 u2 u3 u4 u5 u11 u12 u13 H n
  | 0,u1,u2,u3,u4,u5,u11,u12,u13,H,n=>by
    rw[h64_1]
    have e:R64_1 cal k 0=fun _ _ _ _ _ _ _ _ _ _=>none:=by funext u1 u2 u3 u4 u5 u11 u12 u13 H n; kernel_rfl
    rw[e]; rfl
  | m+1,u1,u2,u3,u4,u5,u11,u12,u13,H,n=>by
    rw[h64_1]
    have e:R64_1 cal k (m+1)=S64_1 cal k m:=by
      funext u1 u2 u3 u4 u5 u11 u12 u13 H n
      have e:R64_1 cal k (m+1) u1 u2 u3 u4 u5 u11 u12 u13 H n=labK (E64_1 cal k m) (Tr.set (Tr.set (Tr.set (Tr.set (Tr.set (Tr.set (Tr.set (Tr.set Tr.nil 13 (some u13)) 12 (some u12)) 11 (some u11)) 5 (some u5)) 4 (some u4)) 3 (some u3)) 2 (some u2)) 1 (some u1)) H n []:=by kernel_rfl
      rw[e]; exact q64_1 ..
    rw[e]; rfl
noncomputable def B64_0 (cal:Cal) (k:Nat) (j1:V8) (v0 v1 v2 v3 v4:Value) (H:Hp) (n:Nat):Res:=
boxK 26 v0 H n fun v_1 H_2 n_3=>
j1 v1 v2 v3 v4 v_1 v4 v4 (.int .i64 0) H_2 n_3
noncomputable def C64_0 (cal:Cal) (k:Nat) (v0 v1 v2 v3 v4:Value) (H:Hp) (n:Nat):Res:=B64_0 cal k (S64_1 cal k k) v0 v1 v2 v3 v4 H n
theorem h64_0 (cal:Cal) (k:Nat) (v0 v1 v2 v3 v4:Value) (H:Hp) (n:Nat):bodyE P cal A (k+1) 64 [v0,v1,v2,v3,v4] H n=C64_0 cal k v0 v1 v2 v3 v4 H n:=by
  have h:bodyE P cal A (k+1) 64 [v0,v1,v2,v3,v4] H n=B64_0 cal k (fun u1 u2 u3 u4 u5 u11 u12 u13 H n=>labK (E64_1 cal k k) (Tr.set (Tr.set (Tr.set (Tr.set (Tr.set (Tr.set (Tr.set (Tr.set Tr.nil 13 (some u13)) 12 (some u12)) 11 (some u11)) 5 (some u5)) 4 (some u4)) 3 (some u3)) 2 (some u2)) 1 (some u1)) H n []) v0 v1 v2 v3 v4 H n:=by
    rw[body_eq (fn:=Go.Proofs.Try.f64) (c:=code64) (rs:=results64) (by kernel_rfl) (by kernel_rfl) (by kernel_rfl) (by kernel_rfl)]
    kernel_rfl
  rw[h,C64_0]
  have e1:(fun u1 u2 u3 u4 u5 u11 u12 u13 H n=>labK (E64_1 cal k k) (Tr.set (Tr.set (Tr.set (Tr.set (Tr.set (Tr.set (Tr.set (Tr.set Tr.nil 13 (some u13)) 12 (some u12)) 11 (some u11)) 5 (some u5)) 4 (some u4)) 3 (some u3)) 2 (some u2)) 1 (some u1)) H n [])=(S64_1 cal k k):=by funext u1 u2 u3 u4 u5 u11 u12 u13 H n; exact q64_1 ..
  rw[e1]
noncomputable def code65:Code:=codeOf 65
noncomputable def results65:List ResultVar:=resOf 65
noncomputable def K65_p (cal:Cal) (k:Nat):KR:=(cutK (A 65).c (codeE P cal (codeF P cal k) none 65 (cR code65) (Lv.b (A 65)) (doneK P results65) X0 (doneK P results65)))
noncomputable def K65_pr (cal:Cal) (k:Nat):KR:=(cutK (Lv.b (A 65)).c (codeE P cal (codeF P cal k) none 65 (cR (cR code65)) (Lv.b (Lv.b (A 65))) (doneK P results65) X0 (doneK P results65)))
noncomputable def K65_prr (cal:Cal) (k:Nat):KR:=(cutK (Lv.b (Lv.b (A 65))).c (codeE P cal (codeF P cal k) none 65 (cR (cR (cR code65))) (Lv.b (Lv.b (Lv.b (A 65)))) (doneK P results65) X0 (doneK P results65)))
noncomputable def K65_prrl (cal:Cal) (k:Nat):KR:=(cutK (Lv.a (Lv.b (Lv.b (A 65)))).c (codeE P cal (codeF P cal k) none 65 (cR (cL (cR (cR code65)))) (Lv.b (Lv.a (Lv.b (Lv.b (A 65))))) (K65_prr cal k) X0 (doneK P results65)))
noncomputable def K65_prrlrl (cal:Cal) (k:Nat):KR:=(cutK (Lv.a (Lv.b (Lv.a (Lv.b (Lv.b (A 65)))))).c (codeE P cal (codeF P cal k) none 65 (cR (cL (cR (cL (cR (cR code65)))))) (Lv.b (Lv.a (Lv.b (Lv.a (Lv.b (Lv.b (A 65))))))) (K65_prr cal k) X0 (doneK P results65)))
noncomputable def K65_prrr (cal:Cal) (k:Nat):KR:=(cutK (Lv.b (Lv.b (Lv.b (A 65)))).c (codeE P cal (codeF P cal k) none 65 (cR (cR (cR (cR code65)))) (Lv.b (Lv.b (Lv.b (Lv.b (A 65))))) (doneK P results65) X0 (doneK P results65)))
noncomputable def K65_prrrl (cal:Cal) (k:Nat):KR:=(cutK (Lv.a (Lv.b (Lv.b (Lv.b (A 65))))).c (codeE P cal (codeF P cal k) none 65 (cR (cL (cR (cR (cR code65))))) (Lv.b (Lv.a (Lv.b (Lv.b (Lv.b (A 65)))))) (K65_prrr cal k) X0 (doneK P results65)))
noncomputable def K65_prrrlrl (cal:Cal) (k:Nat):KR:=(cutK (Lv.a (Lv.b (Lv.a (Lv.b (Lv.b (Lv.b (A 65))))))).c (codeE P cal (codeF P cal k) none 65 (cR (cL (cR (cL (cR (cR (cR code65))))))) (Lv.b (Lv.a (Lv.b (Lv.a (Lv.b (Lv.b (Lv.b (A 65)))))))) (K65_prrr cal k) X0 (doneK P results65)))
noncomputable def K65_prrrr (cal:Cal) (k:Nat):KR:=(cutK (Lv.b (Lv.b (Lv.b (Lv.b (A 65))))).c (codeE P cal (codeF P cal k) none 65 (cR (cR (cR (cR (cR code65))))) (Lv.b (Lv.b (Lv.b (Lv.b (Lv.b (A 65)))))) (doneK P results65) X0 (doneK P results65)))
noncomputable def K65_prrrrr (cal:Cal) (k:Nat):KR:=(cutK (Lv.b (Lv.b (Lv.b (Lv.b (Lv.b (A 65)))))).c (codeE P cal (codeF P cal k) none 65 (cR (cR (cR (cR (cR (cR code65)))))) (Lv.b (Lv.b (Lv.b (Lv.b (Lv.b (Lv.b (A 65))))))) (doneK P results65) X0 (doneK P results65)))
noncomputable def K65_prrrrrr (cal:Cal) (k:Nat):KR:=(cutK (Lv.b (Lv.b (Lv.b (Lv.b (Lv.b (Lv.b (A 65))))))).c (codeE P cal (codeF P cal k) none 65 (cR (cR (cR (cR (cR (cR (cR code65))))))) (Lv.b (Lv.b (Lv.b (Lv.b (Lv.b (Lv.b (Lv.b (A 65)))))))) (doneK P results65) X0 (doneK P results65)))
noncomputable def K65_prrrrrrl (cal:Cal) (k:Nat):KR:=(cutK (Lv.a (Lv.b (Lv.b (Lv.b (Lv.b (Lv.b (Lv.b (A 65)))))))).c (codeE P cal (codeF P cal k) none 65 (cR (cL (cR (cR (cR (cR (cR (cR code65)))))))) (Lv.b (Lv.a (Lv.b (Lv.b (Lv.b (Lv.b (Lv.b (Lv.b (A 65))))))))) (K65_prrrrrr cal k) X0 (doneK P results65)))
noncomputable def K65_pxrrrrrrlr (cal:Cal) (k:Nat):XR:=(upX 0 (K65_prrrrrr cal k) X0)
noncomputable def K65_prrrrrrlrl (cal:Cal) (k:Nat) (m1:Nat):KR:=(fun T H n D=>codeF P cal m1 (Lv.a (Lv.b (Lv.a (Lv.b (Lv.b (Lv.b (Lv.b (Lv.b (Lv.b (A 65)))))))))) none 65 (cL (cR (cL (cR (cR (cR (cR (cR (cR code65))))))))) (K65_prrrrrr cal k) (K65_pxrrrrrrlr cal k) (doneK P results65) (cutT (Lv.a (Lv.b (Lv.a (Lv.b (Lv.b (Lv.b (Lv.b (Lv.b (Lv.b (A 65)))))))))).c T) H n D)
noncomputable def K65_prrrrrrlrll (cal:Cal) (k:Nat) (m1:Nat):KR:=(cutK (Lv.a (Lv.a (Lv.b (Lv.a (Lv.b (Lv.b (Lv.b (Lv.b (Lv.b (Lv.b (A 65))))))))))).c (codeE P cal (codeF P cal m1) none 65 (cR (cL (cL (cR (cL (cR (cR (cR (cR (cR (cR code65))))))))))) (Lv.b (Lv.a (Lv.a (Lv.b (Lv.a (Lv.b (Lv.b (Lv.b (Lv.b (Lv.b (Lv.b (A 65)))))))))))) (K65_prrrrrrlrl cal k m1) (K65_pxrrrrrrlr cal k) (doneK P results65)))
noncomputable def K65_prrrrrrlrllr (cal:Cal) (k:Nat) (m1:Nat):KR:=(cutK (Lv.b (Lv.a (Lv.a (Lv.b (Lv.a (Lv.b (Lv.b (Lv.b (Lv.b (Lv.b (Lv.b (A 65)))))))))))).c (codeE P cal (codeF P cal m1) none 65 (cR (cR (cL (cL (cR (cL (cR (cR (cR (cR (cR (cR code65)))))))))))) (Lv.b (Lv.b (Lv.a (Lv.a (Lv.b (Lv.a (Lv.b (Lv.b (Lv.b (Lv.b (Lv.b (Lv.b (A 65))))))))))))) (K65_prrrrrrlrl cal k m1) (K65_pxrrrrrrlr cal k) (doneK P results65)))
noncomputable def K65_prrrrrrlrllrr (cal:Cal) (k:Nat) (m1:Nat):KR:=(cutK (Lv.b (Lv.b (Lv.a (Lv.a (Lv.b (Lv.a (Lv.b (Lv.b (Lv.b (Lv.b (Lv.b (Lv.b (A 65))))))))))))).c (codeE P cal (codeF P cal m1) none 65 (cR (cR (cR (cL (cL (cR (cL (cR (cR (cR (cR (cR (cR code65))))))))))))) (Lv.b (Lv.b (Lv.b (Lv.a (Lv.a (Lv.b (Lv.a (Lv.b (Lv.b (Lv.b (Lv.b (Lv.b (Lv.b (A 65)))))))))))))) (K65_prrrrrrlrl cal k m1) (K65_pxrrrrrrlr cal k) (doneK P results65)))
noncomputable def K65_pxrrrrrrlrllrrl (cal:Cal) (k:Nat) (m1:Nat):XR:=(upX 1 (K65_prrrrrrlrllrr cal k m1) (K65_pxrrrrrrlr cal k))
noncomputable def K65_prrrrrrlrllrrll (cal:Cal) (k:Nat) (m1:Nat):KR:=(cutK (Lv.a (Lv.a (Lv.b (Lv.b (Lv.a (Lv.a (Lv.b (Lv.a (Lv.b (Lv.b (Lv.b (Lv.b (Lv.b (Lv.b (A 65))))))))))))))).c (codeE P cal (codeF P cal m1) none 65 (cR (cL (cL (cR (cR (cL (cL (cR (cL (cR (cR (cR (cR (cR (cR code65))))))))))))))) (Lv.b (Lv.a (Lv.a (Lv.b (Lv.b (Lv.a (Lv.a (Lv.b (Lv.a (Lv.b (Lv.b (Lv.b (Lv.b (Lv.b (Lv.b (A 65)))))))))))))))) (K65_prrrrrrlrllrr cal k m1) (K65_pxrrrrrrlrllrrl cal k m1) (doneK P results65)))
noncomputable def K65_prrrrrrlrllrrllr (cal:Cal) (k:Nat) (m1:Nat):KR:=(cutK (Lv.b (Lv.a (Lv.a (Lv.b (Lv.b (Lv.a (Lv.a (Lv.b (Lv.a (Lv.b (Lv.b (Lv.b (Lv.b (Lv.b (Lv.b (A 65)))))))))))))))).c (codeE P cal (codeF P cal m1) none 65 (cR (cR (cL (cL (cR (cR (cL (cL (cR (cL (cR (cR (cR (cR (cR (cR code65)))))))))))))))) (Lv.b (Lv.b (Lv.a (Lv.a (Lv.b (Lv.b (Lv.a (Lv.a (Lv.b (Lv.a (Lv.b (Lv.b (Lv.b (Lv.b (Lv.b (Lv.b (A 65))))))))))))))))) (K65_prrrrrrlrllrr cal k m1) (K65_pxrrrrrrlrllrrl cal k m1) (doneK P results65)))
noncomputable def K65_prrrrrrlrllrrllrrl (cal:Cal) (k:Nat) (m1:Nat):KR:=(cutK (Lv.a (Lv.b (Lv.b (Lv.a (Lv.a (Lv.b (Lv.b (Lv.a (Lv.a (Lv.b (Lv.a (Lv.b (Lv.b (Lv.b (Lv.b (Lv.b (Lv.b (A 65)))))))))))))))))).c (codeE P cal (codeF P cal m1) none 65 (cR (cL (cR (cR (cL (cL (cR (cR (cL (cL (cR (cL (cR (cR (cR (cR (cR (cR code65)))))))))))))))))) (Lv.b (Lv.a (Lv.b (Lv.b (Lv.a (Lv.a (Lv.b (Lv.b (Lv.a (Lv.a (Lv.b (Lv.a (Lv.b (Lv.b (Lv.b (Lv.b (Lv.b (Lv.b (A 65))))))))))))))))))) (K65_prrrrrrlrllrr cal k m1) (K65_pxrrrrrrlrllrrl cal k m1) (doneK P results65)))
noncomputable def K65_prrrrrrr (cal:Cal) (k:Nat):KR:=(cutK (Lv.b (Lv.b (Lv.b (Lv.b (Lv.b (Lv.b (Lv.b (A 65)))))))).c (codeE P cal (codeF P cal k) none 65 (cR (cR (cR (cR (cR (cR (cR (cR code65)))))))) (Lv.b (Lv.b (Lv.b (Lv.b (Lv.b (Lv.b (Lv.b (Lv.b (A 65))))))))) (doneK P results65) X0 (doneK P results65)))
noncomputable def E65_1 (cal:Cal) (k m1:Nat):KR:=codeE P cal (codeF P cal m1) none 65 (cL (cL (cR (cL (cR (cR (cR (cR (cR (cR code65)))))))))) (Lv.a (Lv.a (Lv.b (Lv.a (Lv.b (Lv.b (Lv.b (Lv.b (Lv.b (Lv.b (A 65))))))))))) (K65_prrrrrrlrl cal k m1) (K65_pxrrrrrrlr cal k) (doneK P results65)
noncomputable def R65_1 (cal:Cal) (k m1:Nat):V5:=fun u5 u7 u9 u35 u36 H n=>codeF P cal m1 (Lv.a (Lv.b (Lv.a (Lv.b (Lv.b (Lv.b (Lv.b (Lv.b (Lv.b (A 65)))))))))) none 65 (cL (cR (cL (cR (cR (cR (cR (cR (cR code65))))))))) (K65_prrrrrr cal k) (K65_pxrrrrrrlr cal k) (doneK P results65) (Tr.set (Tr.set (Tr.set (Tr.set (Tr.set Tr.nil 36 (some u36)) 35 (some u35)) 9 (some u9)) 7 (some u7)) 5 (some u5)) H n []
noncomputable def B65_1 (cal:Cal) (k m1:Nat) (b1:V5) (u5 u7 u9 u35 u36:Value) (H:Hp) (n:Nat):Res:=
binK P .lss 3 (.tmp 36) (.const (.int .i64 8)) u36 (.int .i64 8) fun v_1o=>
ifK v_1o (
bindO (indexV P 120 u35 u36) fun v_1q=>
binK P .neq 3 (.tmp 40) (.const (.int .i64 (-1))) v_1q (.int .i64 (-1)) fun v_1u=>
guardK v_1u true (fun k_1w=>
k_1w u7 H n) H n fun v_1x H_1y n_1z=>
guardK v_1u true (fun k_21=>
k_21 u36 H_1y n_1z) H_1y n_1z fun v_22 H_23 n_24=>
guardK v_1u true (fun k_26=>
k_26 v_1q H_23 n_24) H_23 n_24 fun v_27 H_28 n_29=>
guardK v_1u true (fun k_2b=>
callFK P cal 102 [v_1x,v_22,v_27] H_28 n_29 fun v_2f H_2g n_2h=>
k_2b v_2f H_2g n_2h) H_28 n_29 fun v_2c H_2d n_2e=>
guardK v_1u true (fun k_2i=>
bindO (pureSem P v_2c (Op.unary UnOp.not v_2c)) fun v_2m=>
k_2i v_2m H_2d n_2e) H_2d n_2e fun v_2j H_2k n_2l=>
bindO (pickV v_1u v_2j (.bool false)) fun v_2n=>
ifK v_2n (
bindO (buildP P 120 []) fun v_2o=>
bindO (storeP P 120 u5 v_2o H_2k) fun H_2r=>
bindO (resV P (Tr.set (Tr.set (Tr.set Tr.nil 6 (some (.int .i64 2))) 5 (some u5)) 4 (some (.pointer none))) H_2r results65) fun v_2t=>some (oneV v_2t,H_2r,n_2l)) (
binK P .add 3 (.tmp 36) (.const (.int .i64 1)) u36 (.int .i64 1) fun v_2u=>
b1 u5 u7 u9 u35 v_2u H_2k n_2l)) (
bindO (addrV u9) fun a_2x=>bindO (loadV P H 120 a_2x) fun v_2y=>
bindO (storeP P 120 u5 v_2y H) fun H_31=>
bindO (resV P (Tr.set (Tr.set (Tr.set Tr.nil 6 (some (.int .i64 0))) 5 (some u5)) 4 (some u7)) H_31 results65) fun v_33=>some (oneV v_33,H_31,n))
noncomputable def C65_1 (cal:Cal) (k m1:Nat) (b1:V5) (u5 u7 u9 u35 u36:Value) (H:Hp) (n:Nat):Res:=B65_1 cal k m1 b1 u5 u7 u9 u35 u36 H n
noncomputable def S65_1 (cal:Cal) (k:Nat):Nat→V5:=fun m=>Nat.rec (motive:=fun _=>V5) (C65_1 cal k 0 (fun _ _ _ _ _ _ _=>none)) (fun m ih=>C65_1 cal k (m+1) ih) m
theorem h65_1 (cal:Cal) (k m1:Nat) (u5 u7 u9 u35 u36:Value) (H:Hp) (n:Nat):labK (E65_1 cal k m1) (Tr.set (Tr.set (Tr.set (Tr.set (Tr.set Tr.nil 36 (some u36)) 35 (some u35)) 9 (some u9)) 7 (some u7)) 5 (some u5)) H n []=C65_1 cal k m1 (R65_1 cal k m1) u5 u7 u9 u35 u36 H n:=by
  refine Eq.trans (b:=B65_1 cal k m1 (R65_1 cal k m1) u5 u7 u9 u35 u36 H n) (by kernel_rfl) ?_
  rw[C65_1]
theorem q65_1 (cal:Cal) (k:Nat):∀(m:Nat) (u5 u7 u9 u35 u36:Value) (H:Hp) (n:Nat),labK (E65_1 cal k m) (Tr.set (Tr.set (Tr.set (Tr.set (Tr.set Tr.nil 36 (some u36)) 35 (some u35)) 9 (some u9)) 7 (some u7)) 5 (some u5)) H n []=S65_1 cal k m u5 u7 u9 u35 u36 H n
  | 0,u5,u7,u9,u35,u36,H,n=>by
    rw[h65_1]
    have e:R65_1 cal k 0=fun _ _ _ _ _ _ _=>none:=by funext u5 u7 u9 u35 u36 H n; kernel_rfl
    rw[e]; rfl
  | m+1,u5,u7,u9,u35,u36,H,n=>by
    rw[h65_1]
    have e:R65_1 cal k (m+1)=S65_1 cal k m:=by
      funext u5 u7 u9 u35 u36 H n
      have e:R65_1 cal k (m+1) u5 u7 u9 u35 u36 H n=labK (E65_1 cal k m) (Tr.set (Tr.set (Tr.set (Tr.set (Tr.set Tr.nil 36 (some u36)) 35 (some u35)) 9 (some u9)) 7 (some u7)) 5 (some u5)) H n []:=by kernel_rfl
      rw[e]; exact q65_1 ..
    rw[e]; rfl
noncomputable def B65_0 (cal:Cal) (k:Nat) (j1:V5) (v0 v1:Value) (H:Hp) (n:Nat):Res:=
boxK 35 v0 H n fun v_1 H_2 n_3=>
allocK P 120 H_2 n_3 fun v_5 H_6 n_7=>
bindO (addrV v_1) fun a_a=>bindO (loadV P H_6 35 a_a) fun v_9=>
callFK P cal 61 [v_9] H_6 n_7 fun v_b H_c n_d=>
bindO (tupV v_b 0) fun v_f=>
bindO (tupV v_b 1) fun v_g=>
binK P .neq 29 (.tmp 17) (.const (.int .i64 0)) v_g (.int .i64 0) fun v_k=>
ifK v_k (
bindO (buildP P 120 []) fun v_l=>
bindO (storeP P 120 v_5 v_l H_c) fun H_p=>
bindO (resV P (Tr.set (Tr.set (Tr.set Tr.nil 6 (some v_g)) 5 (some v_5)) 4 (some (.pointer none))) H_p results65) fun v_r=>some (oneV v_r,H_p,n_d)) (
bindO (lenV P 44 v1) fun v_t=>
bindO (nilV v_f) fun v_v=>
bindO (fieldAddrV P 116 v_v 0) fun v_w=>
bindO (fieldAddrV P 35 v_w 0) fun v_x=>
bindO (addrV v_x) fun a_z=>bindO (loadV P H_c 31 a_z) fun v_y=>
bindO (lenV P 31 v_y) fun v_10=>
binK P .neq 3 (.tmp 22) (.tmp 28) v_t v_10 fun v_11=>
ifK v_11 (
bindO (buildP P 120 []) fun v_12=>
bindO (storeP P 120 v_5 v_12 H_c) fun H_15=>
bindO (resV P (Tr.set (Tr.set (Tr.set Tr.nil 6 (some (.int .i64 2))) 5 (some v_5)) 4 (some (.pointer none))) H_15 results65) fun v_17=>some (oneV v_17,H_15,n_d)) (
callFK P cal 101 [] H_c n_d fun v_18 H_19 n_1a=>
allocK P 120 H_19 n_1a fun v_1b H_1c n_1d=>
bindO (storeP P 120 v_1b v_18 H_1c) fun H_1f=>
bindO (sliceV P 120 v_1b none none) fun v_1g=>
stK (copyV P (bare H_1f n_1d) 44 v_1g v1) fun v_1i H_1j n_1k=>
bindO (addrV v_1b) fun a_1m=>bindO (loadV P H_1j 120 a_1m) fun v_1l=>
j1 v_5 v_f v_1b v_1l (.int .i64 0) H_1j n_1k))
noncomputable def C65_0 (cal:Cal) (k:Nat) (v0 v1:Value) (H:Hp) (n:Nat):Res:=B65_0 cal k (S65_1 cal k k) v0 v1 H n
theorem h65_0 (cal:Cal) (k:Nat) (v0 v1:Value) (H:Hp) (n:Nat):bodyE P cal A (k+1) 65 [v0,v1] H n=C65_0 cal k v0 v1 H n:=by
  have h:bodyE P cal A (k+1) 65 [v0,v1] H n=B65_0 cal k (fun u5 u7 u9 u35 u36 H n=>labK (E65_1 cal k k) (Tr.set (Tr.set (Tr.set (Tr.set (Tr.set Tr.nil 36 (some u36)) 35 (some u35)) 9 (some u9)) 7 (some u7)) 5 (some u5)) H n []) v0 v1 H n:=by
    rw[body_eq (fn:=Go.Proofs.Try.f65) (c:=code65) (rs:=results65) (by kernel_rfl) (by kernel_rfl) (by kernel_rfl) (by kernel_rfl)]
    kernel_rfl
  rw[h,C65_0]
  have e1:(fun u5 u7 u9 u35 u36 H n=>labK (E65_1 cal k k) (Tr.set (Tr.set (Tr.set (Tr.set (Tr.set Tr.nil 36 (some u36)) 35 (some u35)) 9 (some u9)) 7 (some u7)) 5 (some u5)) H n [])=(S65_1 cal k k):=by funext u5 u7 u9 u35 u36 H n; exact q65_1 ..
  rw[e1]
end Go.Proofs.Ytmpnblcfpdnlmaa.G
