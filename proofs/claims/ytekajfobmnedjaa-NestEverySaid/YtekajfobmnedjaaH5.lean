/- The texts of functions, each with the proof that the evaluator says the same. -/
import Derived.Test.YtekajfobmnedjaaH1
open Go Go.Ev
set_option maxRecDepth 1000000
set_option linter.unusedVariables false
noncomputable section
namespace Go.Proofs.Ytekajfobmnedjaa.G
noncomputable def Tw:Code:=cV 67
noncomputable def tx:List ResultVar:=dW 67
noncomputable def K67_p (cal:Cal) (k:Nat):KR:=(cutK (A 67).c (ay P cal (aw P cal k) none 67 (cR Tw) (Lv.b (A 67)) (av P tx) X0 (av P tx)))
noncomputable def K67_pr (cal:Cal) (k:Nat):KR:=(cutK (Lv.b (A 67)).c (ay P cal (aw P cal k) none 67 (cR (cR Tw)) (Lv.b (Lv.b (A 67))) (av P tx) X0 (av P tx)))
noncomputable def K67_prl (cal:Cal) (k:Nat):KR:=(cutK (Lv.a (Lv.b (A 67))).c (ay P cal (aw P cal k) none 67 (cR (cL (cR Tw))) (Lv.b (Lv.a (Lv.b (A 67)))) (K67_pr cal k) X0 (av P tx)))
noncomputable def K67_prlrl (cal:Cal) (k:Nat):KR:=(cutK (Lv.a (Lv.b (Lv.a (Lv.b (A 67))))).c (ay P cal (aw P cal k) none 67 (cR (cL (cR (cL (cR Tw))))) (Lv.b (Lv.a (Lv.b (Lv.a (Lv.b (A 67)))))) (K67_pr cal k) X0 (av P tx)))
noncomputable def K67_prr (cal:Cal) (k:Nat):KR:=(cutK (Lv.b (Lv.b (A 67))).c (ay P cal (aw P cal k) none 67 (cR (cR (cR Tw))) (Lv.b (Lv.b (Lv.b (A 67)))) (av P tx) X0 (av P tx)))
noncomputable def B67_0 (cal:Cal) (k:Nat) (v0:Value) (H:Hp) (n:Nat):Res:=
binK P .eql 45 (.tmp 3) (.const (.slice none 0 0)) v0 (.slice none 0 0) fun v_3=>
ifK v_3 (
some ((.slice none 0 0),H,n)) (
rowK P 45 0 [] H n fun v_5 H_6 n_7=>
stK (fQ P (bare H_6 n_7) 45 45 v_5 v0) fun v_9 H_a n_b=>
some (v_9,H_a,n_b))
noncomputable def C67_0 (cal:Cal) (k:Nat) (v0:Value) (H:Hp) (n:Nat):Res:=B67_0 cal k v0 H n
theorem h67_0 (cal:Cal) (k:Nat) (v0:Value) (H:Hp) (n:Nat):aK P cal A (k+1) 67 [v0] H n=C67_0 cal k v0 H n:=by
  have h:aK P cal A (k+1) 67 [v0] H n=B67_0 cal k v0 H n:=by
    rw[bW (fn:=Go.Proofs.Try.f67) (c:=Tw) (rs:=tx) (by kernel_rfl) (by kernel_rfl) (by kernel_rfl) (by kernel_rfl)]
    kernel_rfl
  rw[h,C67_0]
noncomputable def code68:Code:=cV 68
noncomputable def Gz:List ResultVar:=dW 68
noncomputable def K68_p (cal:Cal) (k:Nat):KR:=(cutK (A 68).c (ay P cal (aw P cal k) none 68 (cR code68) (Lv.b (A 68)) (av P Gz) X0 (av P Gz)))
noncomputable def K68_pr (cal:Cal) (k:Nat):KR:=(cutK (Lv.b (A 68)).c (ay P cal (aw P cal k) none 68 (cR (cR code68)) (Lv.b (Lv.b (A 68))) (av P Gz) X0 (av P Gz)))
noncomputable def B68_0 (cal:Cal) (k:Nat) (v0 v1 v2:Value) (H:Hp) (n:Nat):Res:=
boxK 111 v1 H n fun v_1 H_2 n_3=>
aq (aQ P 111 v_1 v2) fun v_6=>
aq (ax P 53 v_6 0) fun v_7=>
aq (aW v_7) fun a_8=>aq (az P H_2 3 a_8) fun v_9=>
aq (nilV v0) fun v_b=>
aq (ax P 117 v_b 0) fun v_c=>
aq (ax P 35 v_c 0) fun v_d=>
aq (aW v_d) fun a_e=>aq (az P H_2 31 a_e) fun v_f=>
aq (aQ P 31 v_f v2) fun v_h=>
aq (ax P 90 v_h 0) fun v_i=>
aq (aW v_i) fun a_j=>aq (az P H_2 3 a_j) fun v_k=>
binK P .lss 3 (.tmp 10) (.tmp 19) v_9 v_k fun v_l=>
some (v_l,H_2,n_3)
noncomputable def C68_0 (cal:Cal) (k:Nat) (v0 v1 v2:Value) (H:Hp) (n:Nat):Res:=B68_0 cal k v0 v1 v2 H n
theorem h68_0 (cal:Cal) (k:Nat) (v0 v1 v2:Value) (H:Hp) (n:Nat):aK P cal A (k+1) 68 [v0,v1,v2] H n=C68_0 cal k v0 v1 v2 H n:=by
  have h:aK P cal A (k+1) 68 [v0,v1,v2] H n=B68_0 cal k v0 v1 v2 H n:=by
    rw[bW (fn:=Go.Proofs.Try.f68) (c:=code68) (rs:=Gz) (by kernel_rfl) (by kernel_rfl) (by kernel_rfl) (by kernel_rfl)]
    kernel_rfl
  rw[h,C68_0]
noncomputable def code69:Code:=cV 69
noncomputable def Gk:List ResultVar:=dW 69
noncomputable def K69_p (cal:Cal) (k:Nat):KR:=(cutK (A 69).c (ay P cal (aw P cal k) none 69 (cR code69) (Lv.b (A 69)) (av P Gk) X0 (av P Gk)))
noncomputable def K69_pr (cal:Cal) (k:Nat):KR:=(cutK (Lv.b (A 69)).c (ay P cal (aw P cal k) none 69 (cR (cR code69)) (Lv.b (Lv.b (A 69))) (av P Gk) X0 (av P Gk)))
noncomputable def B69_0 (cal:Cal) (k:Nat) (v0 v1 v2:Value) (H:Hp) (n:Nat):Res:=
boxK 111 v1 H n fun v_1 H_2 n_3=>
aq (aQ P 111 v_1 v2) fun v_6=>
aq (ax P 53 v_6 1) fun v_7=>
aq (aW v_7) fun a_8=>aq (az P H_2 3 a_8) fun v_9=>
aq (nilV v0) fun v_b=>
aq (ax P 117 v_b 0) fun v_c=>
aq (ax P 35 v_c 0) fun v_d=>
aq (aW v_d) fun a_e=>aq (az P H_2 31 a_e) fun v_f=>
aq (aQ P 31 v_f v2) fun v_h=>
aq (ax P 90 v_h 1) fun v_i=>
aq (aW v_i) fun a_j=>aq (az P H_2 3 a_j) fun v_k=>
binK P .gtr 3 (.tmp 10) (.tmp 19) v_9 v_k fun v_l=>
some (v_l,H_2,n_3)
noncomputable def C69_0 (cal:Cal) (k:Nat) (v0 v1 v2:Value) (H:Hp) (n:Nat):Res:=B69_0 cal k v0 v1 v2 H n
theorem h69_0 (cal:Cal) (k:Nat) (v0 v1 v2:Value) (H:Hp) (n:Nat):aK P cal A (k+1) 69 [v0,v1,v2] H n=C69_0 cal k v0 v1 v2 H n:=by
  have h:aK P cal A (k+1) 69 [v0,v1,v2] H n=B69_0 cal k v0 v1 v2 H n:=by
    rw[bW (fn:=Go.Proofs.Try.f69) (c:=code69) (rs:=Gk) (by kernel_rfl) (by kernel_rfl) (by kernel_rfl) (by kernel_rfl)]
    kernel_rfl
  rw[h,C69_0]
noncomputable def code71:Code:=cV 71
noncomputable def GJ:List ResultVar:=dW 71
noncomputable def K71_p (cal:Cal) (k:Nat):KR:=(cutK (A 71).c (ay P cal (aw P cal k) none 71 (cR code71) (Lv.b (A 71)) (av P GJ) X0 (av P GJ)))
noncomputable def K71_pr (cal:Cal) (k:Nat):KR:=(cutK (Lv.b (A 71)).c (ay P cal (aw P cal k) none 71 (cR (cR code71)) (Lv.b (Lv.b (A 71))) (av P GJ) X0 (av P GJ)))
noncomputable def B71_0 (cal:Cal) (k:Nat) (v0 v1:Value) (H:Hp) (n:Nat):Res:=
boxK 35 v0 H n fun v_1 H_2 n_3=>
binK P .geq 3 (.tmp 5) (.const (.int .i64 0)) v1 (.int .i64 0) fun v_6=>
aV v_6 true (fun k_8=>
k_8 v1 H_2 n_3) H_2 n_3 fun v_9 H_a n_b=>
aV v_6 true (fun k_d=>
aq (ax P 35 v_1 0) fun v_h=>
k_d v_h H_a n_b) H_a n_b fun v_e H_f n_g=>
aV v_6 true (fun k_i=>
aq (aW v_e) fun a_n=>aq (az P H_f 31 a_n) fun v_m=>
k_i v_m H_f n_g) H_f n_g fun v_j H_k n_l=>
aV v_6 true (fun k_o=>
aq (lenV P 31 v_j) fun v_s=>
k_o v_s H_k n_l) H_k n_l fun v_p H_q n_r=>
aV v_6 true (fun k_t=>
binK P .lss 3 (.tmp 8) (.tmp 11) v_9 v_p fun v_x=>
k_t v_x H_q n_r) H_q n_r fun v_u H_v n_w=>
aq (eQ v_6 v_u (.bool false)) fun v_y=>
some (v_y,H_v,n_w)
noncomputable def C71_0 (cal:Cal) (k:Nat) (v0 v1:Value) (H:Hp) (n:Nat):Res:=B71_0 cal k v0 v1 H n
theorem h71_0 (cal:Cal) (k:Nat) (v0 v1:Value) (H:Hp) (n:Nat):aK P cal A (k+1) 71 [v0,v1] H n=C71_0 cal k v0 v1 H n:=by
  have h:aK P cal A (k+1) 71 [v0,v1] H n=B71_0 cal k v0 v1 H n:=by
    rw[bW (fn:=Go.Proofs.Try.f71) (c:=code71) (rs:=GJ) (by kernel_rfl) (by kernel_rfl) (by kernel_rfl) (by kernel_rfl)]
    kernel_rfl
  rw[h,C71_0]
noncomputable def code72:Code:=cV 72
noncomputable def GQ:List ResultVar:=dW 72
noncomputable def K72_p (cal:Cal) (k:Nat):KR:=(cutK (A 72).c (ay P cal (aw P cal k) none 72 (cR code72) (Lv.b (A 72)) (av P GQ) X0 (av P GQ)))
noncomputable def K72_pr (cal:Cal) (k:Nat):KR:=(cutK (Lv.b (A 72)).c (ay P cal (aw P cal k) none 72 (cR (cR code72)) (Lv.b (Lv.b (A 72))) (av P GQ) X0 (av P GQ)))
noncomputable def B72_0 (cal:Cal) (k:Nat) (v0:Value) (H:Hp) (n:Nat):Res:=
boxK 53 v0 H n fun v_1 H_2 n_3=>
aq (ax P 53 v_1 0) fun v_5=>
aq (aW v_5) fun a_7=>aq (az P H_2 3 a_7) fun v_6=>
some (v_6,H_2,n_3)
noncomputable def C72_0 (cal:Cal) (k:Nat) (v0:Value) (H:Hp) (n:Nat):Res:=B72_0 cal k v0 H n
theorem h72_0 (cal:Cal) (k:Nat) (v0:Value) (H:Hp) (n:Nat):aK P cal A (k+1) 72 [v0] H n=C72_0 cal k v0 H n:=by
  have h:aK P cal A (k+1) 72 [v0] H n=B72_0 cal k v0 H n:=by
    rw[bW (fn:=Go.Proofs.Try.f72) (c:=code72) (rs:=GQ) (by kernel_rfl) (by kernel_rfl) (by kernel_rfl) (by kernel_rfl)]
    kernel_rfl
  rw[h,C72_0]
noncomputable def code73:Code:=cV 73
noncomputable def GV:List ResultVar:=dW 73
noncomputable def K73_p (cal:Cal) (k:Nat):KR:=(cutK (A 73).c (ay P cal (aw P cal k) none 73 (cR code73) (Lv.b (A 73)) (av P GV) X0 (av P GV)))
noncomputable def K73_pr (cal:Cal) (k:Nat):KR:=(cutK (Lv.b (A 73)).c (ay P cal (aw P cal k) none 73 (cR (cR code73)) (Lv.b (Lv.b (A 73))) (av P GV) X0 (av P GV)))
noncomputable def B73_0 (cal:Cal) (k:Nat) (v0:Value) (H:Hp) (n:Nat):Res:=
boxK 53 v0 H n fun v_1 H_2 n_3=>
aq (ax P 53 v_1 1) fun v_5=>
aq (aW v_5) fun a_7=>aq (az P H_2 3 a_7) fun v_6=>
some (v_6,H_2,n_3)
noncomputable def C73_0 (cal:Cal) (k:Nat) (v0:Value) (H:Hp) (n:Nat):Res:=B73_0 cal k v0 H n
theorem h73_0 (cal:Cal) (k:Nat) (v0:Value) (H:Hp) (n:Nat):aK P cal A (k+1) 73 [v0] H n=C73_0 cal k v0 H n:=by
  have h:aK P cal A (k+1) 73 [v0] H n=B73_0 cal k v0 H n:=by
    rw[bW (fn:=Go.Proofs.Try.f73) (c:=code73) (rs:=GV) (by kernel_rfl) (by kernel_rfl) (by kernel_rfl) (by kernel_rfl)]
    kernel_rfl
  rw[h,C73_0]
noncomputable def code74:Code:=cV 74
noncomputable def GW:List ResultVar:=dW 74
noncomputable def K74_p (cal:Cal) (k:Nat):KR:=(cutK (A 74).c (ay P cal (aw P cal k) none 74 (cR code74) (Lv.b (A 74)) (av P GW) X0 (av P GW)))
noncomputable def K74_pr (cal:Cal) (k:Nat):KR:=(cutK (Lv.b (A 74)).c (ay P cal (aw P cal k) none 74 (cR (cR code74)) (Lv.b (Lv.b (A 74))) (av P GW) X0 (av P GW)))
noncomputable def B74_0 (cal:Cal) (k:Nat) (v0 v1:Value) (H:Hp) (n:Nat):Res:=
boxK 105 v0 H n fun v_1 H_2 n_3=>
boxK 121 v1 H_2 n_3 fun v_4 H_5 n_6=>
some ((Value.func (Fn.func 104) ⟨[]⟩ ⟨[v_4,v_1]⟩),H_5,n_6)
noncomputable def C74_0 (cal:Cal) (k:Nat) (v0 v1:Value) (H:Hp) (n:Nat):Res:=B74_0 cal k v0 v1 H n
theorem h74_0 (cal:Cal) (k:Nat) (v0 v1:Value) (H:Hp) (n:Nat):aK P cal A (k+1) 74 [v0,v1] H n=C74_0 cal k v0 v1 H n:=by
  have h:aK P cal A (k+1) 74 [v0,v1] H n=B74_0 cal k v0 v1 H n:=by
    rw[bW (fn:=Go.Proofs.Try.f74) (c:=code74) (rs:=GW) (by kernel_rfl) (by kernel_rfl) (by kernel_rfl) (by kernel_rfl)]
    kernel_rfl
  rw[h,C74_0]
noncomputable def Tx:Code:=cV 76
noncomputable def tz:List ResultVar:=dW 76
noncomputable def K76_p (cal:Cal) (k:Nat):KR:=(cutK (A 76).c (ay P cal (aw P cal k) none 76 (cR Tx) (Lv.b (A 76)) (av P tz) X0 (av P tz)))
noncomputable def K76_pr (cal:Cal) (k:Nat):KR:=(cutK (Lv.b (A 76)).c (ay P cal (aw P cal k) none 76 (cR (cR Tx)) (Lv.b (Lv.b (A 76))) (av P tz) X0 (av P tz)))
noncomputable def K76_prl (cal:Cal) (k:Nat):KR:=(cutK (Lv.a (Lv.b (A 76))).c (ay P cal (aw P cal k) none 76 (cR (cL (cR Tx))) (Lv.b (Lv.a (Lv.b (A 76)))) (K76_pr cal k) X0 (av P tz)))
noncomputable def K76_prlrl (cal:Cal) (k:Nat):KR:=(cutK (Lv.a (Lv.b (Lv.a (Lv.b (A 76))))).c (ay P cal (aw P cal k) none 76 (cR (cL (cR (cL (cR Tx))))) (Lv.b (Lv.a (Lv.b (Lv.a (Lv.b (A 76)))))) (K76_pr cal k) X0 (av P tz)))
noncomputable def K76_prr (cal:Cal) (k:Nat):KR:=(cutK (Lv.b (Lv.b (A 76))).c (ay P cal (aw P cal k) none 76 (cR (cR (cR Tx))) (Lv.b (Lv.b (Lv.b (A 76)))) (av P tz) X0 (av P tz)))
noncomputable def B76_0 (cal:Cal) (k:Nat) (v0:Value) (H:Hp) (n:Nat):Res:=
binK P .eql 44 (.tmp 3) (.const (.slice none 0 0)) v0 (.slice none 0 0) fun v_3=>
ifK v_3 (
some ((.slice none 0 0),H,n)) (
rowK P 44 0 [] H n fun v_5 H_6 n_7=>
stK (fQ P (bare H_6 n_7) 44 44 v_5 v0) fun v_9 H_a n_b=>
some (v_9,H_a,n_b))
noncomputable def C76_0 (cal:Cal) (k:Nat) (v0:Value) (H:Hp) (n:Nat):Res:=B76_0 cal k v0 H n
theorem h76_0 (cal:Cal) (k:Nat) (v0:Value) (H:Hp) (n:Nat):aK P cal A (k+1) 76 [v0] H n=C76_0 cal k v0 H n:=by
  have h:aK P cal A (k+1) 76 [v0] H n=B76_0 cal k v0 H n:=by
    rw[bW (fn:=Go.Proofs.Try.f76) (c:=Tx) (rs:=tz) (by kernel_rfl) (by kernel_rfl) (by kernel_rfl) (by kernel_rfl)]
    kernel_rfl
  rw[h,C76_0]
noncomputable def Lk:Code:=cV 77
noncomputable def kw:List ResultVar:=dW 77
noncomputable def K77_p (cal:Cal) (k:Nat):KR:=(cutK (A 77).c (ay P cal (aw P cal k) none 77 (cR Lk) (Lv.b (A 77)) (av P kw) X0 (av P kw)))
noncomputable def K77_pr (cal:Cal) (k:Nat):KR:=(cutK (Lv.b (A 77)).c (ay P cal (aw P cal k) none 77 (cR (cR Lk)) (Lv.b (Lv.b (A 77))) (av P kw) X0 (av P kw)))
noncomputable def Rj (cal:Cal) (k:Nat):XR:=(upX 0 (K77_pr cal k) X0)
noncomputable def K77_prll (cal:Cal) (k:Nat):KR:=(cutK (Lv.a (Lv.a (Lv.b (A 77)))).c (ay P cal (aw P cal k) none 77 (cR (cL (cL (cR Lk)))) (Lv.b (Lv.a (Lv.a (Lv.b (A 77))))) (K77_pr cal k) (Rj cal k) (av P kw)))
noncomputable def K77_prllrl (cal:Cal) (k:Nat):KR:=(cutK (Lv.a (Lv.b (Lv.a (Lv.a (Lv.b (A 77)))))).c (ay P cal (aw P cal k) none 77 (cR (cL (cR (cL (cL (cR Lk)))))) (Lv.b (Lv.a (Lv.b (Lv.a (Lv.a (Lv.b (A 77))))))) (K77_pr cal k) (Rj cal k) (av P kw)))
noncomputable def K77_prllrr (cal:Cal) (k:Nat):KR:=(cutK (Lv.b (Lv.b (Lv.a (Lv.a (Lv.b (A 77)))))).c (ay P cal (aw P cal k) none 77 (cR (cR (cR (cL (cL (cR Lk)))))) (Lv.b (Lv.b (Lv.b (Lv.a (Lv.a (Lv.b (A 77))))))) (K77_pr cal k) (Rj cal k) (av P kw)))
noncomputable def K77_prllrrrl (cal:Cal) (k:Nat):KR:=(cutK (Lv.a (Lv.b (Lv.b (Lv.b (Lv.a (Lv.a (Lv.b (A 77)))))))).c (ay P cal (aw P cal k) none 77 (cR (cL (cR (cR (cR (cL (cL (cR Lk)))))))) (Lv.b (Lv.a (Lv.b (Lv.b (Lv.b (Lv.a (Lv.a (Lv.b (A 77))))))))) (K77_pr cal k) (Rj cal k) (av P kw)))
noncomputable def K77_prr (cal:Cal) (k:Nat):KR:=(cutK (Lv.b (Lv.b (A 77))).c (ay P cal (aw P cal k) none 77 (cR (cR (cR Lk))) (Lv.b (Lv.b (Lv.b (A 77)))) (av P kw) X0 (av P kw)))
noncomputable def B77_0 (cal:Cal) (k:Nat) (v0 v1 v2 v3:Value) (H:Hp) (n:Nat):Res:=
boxK 26 v0 H n fun v_1 H_2 n_3=>
ez P 55 H_2 n_3 fun v_4 H_5 n_6=>
binK P .eql 3 (.tmp 10) (.tmp 11) v2 v3 fun v_9=>
ifK v_9 (
aq (ax P 26 v_1 2) fun v_b=>
aq (aW v_b) fun a_d=>aq (az P H_5 24 a_d) fun v_c=>
aq (aQ P 24 v_c v1) fun v_f=>
aq (ax P 94 v_f 1) fun v_g=>
aq (aW v_g) fun a_i=>aq (az P H_5 55 a_i) fun v_h=>
aq (bJ P 55 v_4 v_h H_5) fun H_k=>
aq (resV P (Tr.set Tr.nil 8 (some v_4)) H_k kw) fun v_l=>some (oneV v_l,H_k,n_6)) (
aq (aW v_1) fun a_n=>aq (az P H_5 26 a_n) fun v_m=>
aY P cal 89 [v_m,v2,v3] H_5 n_6 fun v_q H_r n_s=>
ifK v_q (
aq (ax P 26 v_1 2) fun v_u=>
aq (aW v_u) fun a_w=>aq (az P H_r 24 a_w) fun v_v=>
aq (aQ P 24 v_v v1) fun v_y=>
aq (ax P 94 v_y 2) fun v_z=>
aq (aW v_z) fun a_11=>aq (az P H_r 55 a_11) fun v_10=>
aq (bJ P 55 v_4 v_10 H_r) fun H_13=>
aq (resV P (Tr.set Tr.nil 8 (some v_4)) H_13 kw) fun v_14=>some (oneV v_14,H_13,n_s)) (
aq (jW P 55 []) fun v_15=>
aq (bJ P 55 v_4 v_15 H_r) fun H_17=>
aq (resV P (Tr.set Tr.nil 8 (some v_4)) H_17 kw) fun v_18=>some (oneV v_18,H_17,n_s)))
noncomputable def C77_0 (cal:Cal) (k:Nat) (v0 v1 v2 v3:Value) (H:Hp) (n:Nat):Res:=B77_0 cal k v0 v1 v2 v3 H n
theorem h77_0 (cal:Cal) (k:Nat) (v0 v1 v2 v3:Value) (H:Hp) (n:Nat):aK P cal A (k+1) 77 [v0,v1,v2,v3] H n=C77_0 cal k v0 v1 v2 v3 H n:=by
  have h:aK P cal A (k+1) 77 [v0,v1,v2,v3] H n=B77_0 cal k v0 v1 v2 v3 H n:=by
    rw[bW (fn:=Go.Proofs.Try.f77) (c:=Lk) (rs:=kw) (by kernel_rfl) (by kernel_rfl) (by kernel_rfl) (by kernel_rfl)]
    kernel_rfl
  rw[h,C77_0]
noncomputable def pj:Code:=cV 79
noncomputable def eY:List ResultVar:=dW 79
noncomputable def K79_p (cal:Cal) (k:Nat):KR:=(cutK (A 79).c (ay P cal (aw P cal k) none 79 (cR pj) (Lv.b (A 79)) (av P eY) X0 (av P eY)))
noncomputable def K79_pr (cal:Cal) (k:Nat):KR:=(cutK (Lv.b (A 79)).c (ay P cal (aw P cal k) none 79 (cR (cR pj)) (Lv.b (Lv.b (A 79))) (av P eY) X0 (av P eY)))
noncomputable def K79_prl (cal:Cal) (k:Nat):KR:=(cutK (Lv.a (Lv.b (A 79))).c (ay P cal (aw P cal k) none 79 (cR (cL (cR pj))) (Lv.b (Lv.a (Lv.b (A 79)))) (K79_pr cal k) X0 (av P eY)))
noncomputable def K79_prlrl (cal:Cal) (k:Nat):KR:=(cutK (Lv.a (Lv.b (Lv.a (Lv.b (A 79))))).c (ay P cal (aw P cal k) none 79 (cR (cL (cR (cL (cR pj))))) (Lv.b (Lv.a (Lv.b (Lv.a (Lv.b (A 79)))))) (K79_pr cal k) X0 (av P eY)))
noncomputable def Xz (cal:Cal) (k:Nat):KR:=(cutK (Lv.b (Lv.b (A 79))).c (ay P cal (aw P cal k) none 79 (cR (cR (cR pj))) (Lv.b (Lv.b (Lv.b (A 79)))) (av P eY) X0 (av P eY)))
noncomputable def K79_prrl (cal:Cal) (k:Nat):KR:=(cutK (Lv.a (Lv.b (Lv.b (A 79)))).c (ay P cal (aw P cal k) none 79 (cR (cL (cR (cR pj)))) (Lv.b (Lv.a (Lv.b (Lv.b (A 79))))) (Xz cal k) X0 (av P eY)))
noncomputable def vZ (cal:Cal) (k:Nat):XR:=(upX 0 (Xz cal k) X0)
noncomputable def IK (cal:Cal) (k:Nat) (m1:Nat):KR:=(fun T H n D=>aw P cal m1 (Lv.a (Lv.b (Lv.a (Lv.b (Lv.b (A 79)))))) none 79 (cL (cR (cL (cR (cR pj))))) (Xz cal k) (vZ cal k) (av P eY) (cutT (Lv.a (Lv.b (Lv.a (Lv.b (Lv.b (A 79)))))).c T) H n D)
noncomputable def K79_prrlrll (cal:Cal) (k:Nat) (m1:Nat):KR:=(cutK (Lv.a (Lv.a (Lv.b (Lv.a (Lv.b (Lv.b (A 79))))))).c (ay P cal (aw P cal m1) none 79 (cR (cL (cL (cR (cL (cR (cR pj))))))) (Lv.b (Lv.a (Lv.a (Lv.b (Lv.a (Lv.b (Lv.b (A 79)))))))) (IK cal k m1) (vZ cal k) (av P eY)))
noncomputable def K79_prrlrllr (cal:Cal) (k:Nat) (m1:Nat):KR:=(cutK (Lv.b (Lv.a (Lv.a (Lv.b (Lv.a (Lv.b (Lv.b (A 79)))))))).c (ay P cal (aw P cal m1) none 79 (cR (cR (cL (cL (cR (cL (cR (cR pj)))))))) (Lv.b (Lv.b (Lv.a (Lv.a (Lv.b (Lv.a (Lv.b (Lv.b (A 79))))))))) (IK cal k m1) (vZ cal k) (av P eY)))
noncomputable def uK (cal:Cal) (k:Nat) (m1:Nat):KR:=(cutK (Lv.b (Lv.b (Lv.a (Lv.a (Lv.b (Lv.a (Lv.b (Lv.b (A 79))))))))).c (ay P cal (aw P cal m1) none 79 (cR (cR (cR (cL (cL (cR (cL (cR (cR pj))))))))) (Lv.b (Lv.b (Lv.b (Lv.a (Lv.a (Lv.b (Lv.a (Lv.b (Lv.b (A 79)))))))))) (IK cal k m1) (vZ cal k) (av P eY)))
noncomputable def nQ (cal:Cal) (k:Nat) (m1:Nat):XR:=(upX 1 (uK cal k m1) (vZ cal k))
noncomputable def K79_prrlrllrrll (cal:Cal) (k:Nat) (m1:Nat):KR:=(cutK (Lv.a (Lv.a (Lv.b (Lv.b (Lv.a (Lv.a (Lv.b (Lv.a (Lv.b (Lv.b (A 79))))))))))).c (ay P cal (aw P cal m1) none 79 (cR (cL (cL (cR (cR (cL (cL (cR (cL (cR (cR pj))))))))))) (Lv.b (Lv.a (Lv.a (Lv.b (Lv.b (Lv.a (Lv.a (Lv.b (Lv.a (Lv.b (Lv.b (A 79)))))))))))) (uK cal k m1) (nQ cal k m1) (av P eY)))
noncomputable def K79_prrlrllrrllr (cal:Cal) (k:Nat) (m1:Nat):KR:=(cutK (Lv.b (Lv.a (Lv.a (Lv.b (Lv.b (Lv.a (Lv.a (Lv.b (Lv.a (Lv.b (Lv.b (A 79)))))))))))).c (ay P cal (aw P cal m1) none 79 (cR (cR (cL (cL (cR (cR (cL (cL (cR (cL (cR (cR pj)))))))))))) (Lv.b (Lv.b (Lv.a (Lv.a (Lv.b (Lv.b (Lv.a (Lv.a (Lv.b (Lv.a (Lv.b (Lv.b (A 79))))))))))))) (uK cal k m1) (nQ cal k m1) (av P eY)))
noncomputable def K79_prrlrllrrllrl (cal:Cal) (k:Nat) (m1:Nat):KR:=(cutK (Lv.a (Lv.b (Lv.a (Lv.a (Lv.b (Lv.b (Lv.a (Lv.a (Lv.b (Lv.a (Lv.b (Lv.b (A 79))))))))))))).c (ay P cal (aw P cal m1) none 79 (cR (cL (cR (cL (cL (cR (cR (cL (cL (cR (cL (cR (cR pj))))))))))))) (Lv.b (Lv.a (Lv.b (Lv.a (Lv.a (Lv.b (Lv.b (Lv.a (Lv.a (Lv.b (Lv.a (Lv.b (Lv.b (A 79)))))))))))))) (K79_prrlrllrrllr cal k m1) (nQ cal k m1) (av P eY)))
noncomputable def K79_prrlrllrrllrlrl (cal:Cal) (k:Nat) (m1:Nat):KR:=(cutK (Lv.a (Lv.b (Lv.a (Lv.b (Lv.a (Lv.a (Lv.b (Lv.b (Lv.a (Lv.a (Lv.b (Lv.a (Lv.b (Lv.b (A 79))))))))))))))).c (ay P cal (aw P cal m1) none 79 (cR (cL (cR (cL (cR (cL (cL (cR (cR (cL (cL (cR (cL (cR (cR pj))))))))))))))) (Lv.b (Lv.a (Lv.b (Lv.a (Lv.b (Lv.a (Lv.a (Lv.b (Lv.b (Lv.a (Lv.a (Lv.b (Lv.a (Lv.b (Lv.b (A 79)))))))))))))))) (K79_prrlrllrrllr cal k m1) (nQ cal k m1) (av P eY)))
noncomputable def K79_prrlrllrrllrr (cal:Cal) (k:Nat) (m1:Nat):KR:=(cutK (Lv.b (Lv.b (Lv.a (Lv.a (Lv.b (Lv.b (Lv.a (Lv.a (Lv.b (Lv.a (Lv.b (Lv.b (A 79))))))))))))).c (ay P cal (aw P cal m1) none 79 (cR (cR (cR (cL (cL (cR (cR (cL (cL (cR (cL (cR (cR pj))))))))))))) (Lv.b (Lv.b (Lv.b (Lv.a (Lv.a (Lv.b (Lv.b (Lv.a (Lv.a (Lv.b (Lv.a (Lv.b (Lv.b (A 79)))))))))))))) (uK cal k m1) (nQ cal k m1) (av P eY)))
noncomputable def K79_prrlrllrrllrrrl (cal:Cal) (k:Nat) (m1:Nat):KR:=(cutK (Lv.a (Lv.b (Lv.b (Lv.b (Lv.a (Lv.a (Lv.b (Lv.b (Lv.a (Lv.a (Lv.b (Lv.a (Lv.b (Lv.b (A 79))))))))))))))).c (ay P cal (aw P cal m1) none 79 (cR (cL (cR (cR (cR (cL (cL (cR (cR (cL (cL (cR (cL (cR (cR pj))))))))))))))) (Lv.b (Lv.a (Lv.b (Lv.b (Lv.b (Lv.a (Lv.a (Lv.b (Lv.b (Lv.a (Lv.a (Lv.b (Lv.a (Lv.b (Lv.b (A 79)))))))))))))))) (uK cal k m1) (nQ cal k m1) (av P eY)))
noncomputable def K79_prrr (cal:Cal) (k:Nat):KR:=(cutK (Lv.b (Lv.b (Lv.b (A 79)))).c (ay P cal (aw P cal k) none 79 (cR (cR (cR (cR pj)))) (Lv.b (Lv.b (Lv.b (Lv.b (A 79))))) (av P eY) X0 (av P eY)))
noncomputable def E79_1 (cal:Cal) (k m1:Nat):KR:=ay P cal (aw P cal m1) none 79 (cL (cL (cR (cL (cR (cR pj)))))) (Lv.a (Lv.a (Lv.b (Lv.a (Lv.b (Lv.b (A 79))))))) (IK cal k m1) (vZ cal k) (av P eY)
noncomputable def R79_1 (cal:Cal) (k m1:Nat):V5:=fun u0 u2 u24 u25 u26 H n=>aw P cal m1 (Lv.a (Lv.b (Lv.a (Lv.b (Lv.b (A 79)))))) none 79 (cL (cR (cL (cR (cR pj))))) (Xz cal k) (vZ cal k) (av P eY) (Tr.set (Tr.set (Tr.set (Tr.set (Tr.set Tr.nil 26 (some u26)) 25 (some u25)) 24 (some u24)) 2 (some u2)) 0 (some u0)) H n []
noncomputable def B79_1 (cal:Cal) (k m1:Nat) (b1:V5) (u0 u2 u24 u25 u26:Value) (H:Hp) (n:Nat):Res:=
binK P .lss 3 (.tmp 26) (.tmp 25) u26 u25 fun v_q=>
ifK v_q (
aq (aQ P 44 u24 u26) fun v_s=>
aq (aW v_s) fun a_u=>aq (az P H 3 a_u) fun v_t=>
binK P .eql 3 (.tmp 31) (.const (.int .i64 (-1))) v_t (.int .i64 (-1)) fun v_y=>
aV v_y true (fun k_10=>
k_10 u2 H n) H n fun v_11 H_12 n_13=>
aV v_y true (fun k_15=>
k_15 u26 H_12 n_13) H_12 n_13 fun v_16 H_17 n_18=>
aV v_y true (fun k_1a=>
aq (aQ P 59 v_11 v_16) fun v_1e=>
k_1a v_1e H_17 n_18) H_17 n_18 fun v_1b H_1c n_1d=>
aV v_y true (fun k_1f=>
aq (aW v_1b) fun a_1k=>aq (az P H_1c 44 a_1k) fun v_1j=>
k_1f v_1j H_1c n_1d) H_1c n_1d fun v_1g H_1h n_1i=>
aV v_y true (fun k_1l=>
aq (lenV P 44 v_1g) fun v_1p=>
k_1l v_1p H_1h n_1i) H_1h n_1i fun v_1m H_1n n_1o=>
aV v_y true (fun k_1q=>
binK P .gtr 3 (.tmp 38) (.const (.int .i64 0)) v_1m (.int .i64 0) fun v_1u=>
k_1q v_1u H_1n n_1o) H_1n n_1o fun v_1r H_1s n_1t=>
aq (eQ v_y v_1r (.bool false)) fun v_1v=>
ifK v_1v (
some ((.bool false),H_1s,n_1t)) (
binK P .neq 3 (.tmp 41) (.const (.int .i64 (-1))) v_t (.int .i64 (-1)) fun v_1y=>
cz v_1y true (fun k_20=>
k_20 u0 .p H_1s n_1t) .p H_1s n_1t fun v_21 x_22 H_23 n_24=>
cz v_1y true (fun k_26=>
k_26 u26 .p H_23 n_24) .p H_23 n_24 fun v_27 x_28 H_29 n_2a=>
cz v_1y true (fun k_2c=>
k_2c v_t .p H_29 n_2a) .p H_29 n_2a fun v_2d x_2e H_2f n_2g=>
cz v_1y true (fun k_2i=>
aq (nilV v_21) fun v_2n=>
k_2i v_2n .p H_2f n_2g) .p H_2f n_2g fun v_2j x_2k H_2l n_2m=>
cz v_1y true (fun k_2o=>
aq (ax P 117 v_2j 2) fun v_2t=>
k_2o v_2t .p H_2l n_2m) .p H_2l n_2m fun v_2p x_2q H_2r n_2s=>
cz v_1y true (fun k_2u=>
aq (aQ P 115 v_2p v_27) fun v_2z=>
k_2u v_2z .p H_2r n_2s) .p H_2r n_2s fun v_2v x_2w H_2x n_2y=>
cz v_1y true (fun k_30=>
aq (aQ P 114 v_2v v_2d) fun v_35=>
k_30 v_35 .p H_2x n_2y) .p H_2x n_2y fun v_31 x_32 H_33 n_34=>
cz v_1y true (fun k_36=>
aq (aW v_31) fun a_3b=>aq (az P H_33 113 a_3b) fun v_3c=>
k_36 v_3c (.l 113 a_3b) H_33 n_34) .p H_33 n_34 fun v_37 x_38 H_39 n_3a=>
cz v_1y true (fun k_3d=>
k_3d u2 .p H_39 n_3a) .p H_39 n_3a fun v_3e x_3f H_3g n_3h=>
cz v_1y true (fun k_3j=>
k_3j u26 .p H_3g n_3h) .p H_3g n_3h fun v_3k x_3l H_3m n_3n=>
cz v_1y true (fun k_3p=>
aq (aQ P 59 v_3e v_3k) fun v_3u=>
k_3p v_3u .p H_3m n_3n) .p H_3m n_3n fun v_3q x_3r H_3s n_3t=>
cz v_1y true (fun k_3v=>
aq (aW v_3q) fun a_40=>aq (az P H_3s 44 a_40) fun v_41=>
k_3v v_41 (.l 44 a_40) H_3s n_3t) .p H_3s n_3t fun v_3w x_3x H_3y n_3z=>
cz v_1y true (fun k_42=>
k_42 u0 .p H_3y n_3z) .p H_3y n_3z fun v_43 x_44 H_45 n_46=>
cz v_1y true (fun k_48=>
aq (nilV v_43) fun v_4d=>
k_48 v_4d .p H_45 n_46) .p H_45 n_46 fun v_49 x_4a H_4b n_4c=>
cz v_1y true (fun k_4e=>
aq (ax P 117 v_49 0) fun v_4j=>
k_4e v_4j .p H_4b n_4c) .p H_4b n_4c fun v_4f x_4g H_4h n_4i=>
cz v_1y true (fun k_4k=>
aq (ax P 35 v_4f 0) fun v_4p=>
k_4k v_4p .p H_4h n_4i) .p H_4h n_4i fun v_4l x_4m H_4n n_4o=>
cz v_1y true (fun k_4q=>
aq (aW v_4l) fun a_4v=>aq (az P H_4n 31 a_4v) fun v_4w=>
k_4q v_4w (.l 31 a_4v) H_4n n_4o) .p H_4n n_4o fun v_4r x_4s H_4t n_4u=>
cz v_1y true (fun k_4x=>
aq (lenV P 31 v_4r) fun v_52=>
k_4x v_52 .p H_4t n_4u) .p H_4t n_4u fun v_4y x_4z H_50 n_51=>
cz v_1y true (fun k_53=>
aY P cal 109 [v_37,v_3w,v_4y] H_50 n_51 fun v_58 H_59 n_5a=>
k_53 v_58 .e H_59 n_5a) .e H_50 n_51 fun v_54 x_55 H_56 n_57=>
cz v_1y true (fun k_5b=>
aq (eW P v_54 (Op.unary UnOp.not v_54)) fun v_5g=>
k_5b v_5g .p H_56 n_57) .p H_56 n_57 fun v_5c x_5d H_5e n_5f=>
aq (eQ v_1y v_5c (.bool false)) fun v_5h=>
ifK v_5h (
some ((.bool false),H_5e,n_5f)) (
binK P .add 3 (.tmp 26) (.const (.int .i64 1)) u26 (.int .i64 1) fun v_5j=>
b1 u0 u2 u24 u25 v_5j H_5e n_5f))) (
some ((.bool true),H,n))
noncomputable def C79_1 (cal:Cal) (k m1:Nat) (b1:V5) (u0 u2 u24 u25 u26:Value) (H:Hp) (n:Nat):Res:=B79_1 cal k m1 b1 u0 u2 u24 u25 u26 H n
noncomputable def S79_1 (cal:Cal) (k:Nat):Nat→V5:=fun m=>Nat.rec (motive:=fun _=>V5) (C79_1 cal k 0 (fun _ _ _ _ _ _ _=>none)) (fun m ih=>C79_1 cal k (m+1) ih) m
theorem h79_1 (cal:Cal) (k m1:Nat) (u0 u2 u24 u25 u26:Value) (H:Hp) (n:Nat):labK (E79_1 cal k m1) (Tr.set (Tr.set (Tr.set (Tr.set (Tr.set Tr.nil 26 (some u26)) 25 (some u25)) 24 (some u24)) 2 (some u2)) 0 (some u0)) H n []=C79_1 cal k m1 (R79_1 cal k m1) u0 u2 u24 u25 u26 H n:=by
  refine Eq.trans (b:=B79_1 cal k m1 (R79_1 cal k m1) u0 u2 u24 u25 u26 H n) (by kernel_rfl) ?_
  rw[C79_1]
theorem q79_1 (cal:Cal) (k:Nat):∀(m:Nat) (u0 u2 u24 u25 u26:Value) (H:Hp) (n:Nat),labK (E79_1 cal k m) (Tr.set (Tr.set (Tr.set (Tr.set (Tr.set Tr.nil 26 (some u26)) 25 (some u25)) 24 (some u24)) 2 (some u2)) 0 (some u0)) H n []=S79_1 cal k m u0 u2 u24 u25 u26 H n
  | 0,u0,u2,u24,u25,u26,H,n=>by
    rw[h79_1]
    have e:R79_1 cal k 0=fun _ _ _ _ _ _ _=>none:=by funext u0 u2 u24 u25 u26 H n; kernel_rfl
    rw[e]; rfl
  | m+1,u0,u2,u24,u25,u26,H,n=>by
    rw[h79_1]
    have e:R79_1 cal k (m+1)=S79_1 cal k m:=by
      funext u0 u2 u24 u25 u26 H n
      have e:R79_1 cal k (m+1) u0 u2 u24 u25 u26 H n=labK (E79_1 cal k m) (Tr.set (Tr.set (Tr.set (Tr.set (Tr.set Tr.nil 26 (some u26)) 25 (some u25)) 24 (some u24)) 2 (some u2)) 0 (some u0)) H n []:=by kernel_rfl
      rw[e]; exact q79_1 ..
    rw[e]; rfl
noncomputable def B79_0 (cal:Cal) (k:Nat) (j1:V5) (v0 v1 v2:Value) (H:Hp) (n:Nat):Res:=
boxK 121 v1 H n fun v_1 H_2 n_3=>
aq (lenV P 59 v2) fun v_6=>
aq (nilV v0) fun v_8=>
aq (ax P 117 v_8 0) fun v_9=>
aq (ax P 35 v_9 0) fun v_a=>
aq (aW v_a) fun a_c=>aq (az P H_2 31 a_c) fun v_b=>
aq (lenV P 31 v_b) fun v_d=>
binK P .neq 3 (.tmp 10) (.tmp 16) v_6 v_d fun v_e=>
ifK v_e (
some ((.bool false),H_2,n_3)) (
aq (nilV v0) fun v_h=>
aq (ax P 117 v_h 0) fun v_i=>
aq (ax P 35 v_i 0) fun v_j=>
aq (aW v_j) fun a_l=>aq (az P H_2 31 a_l) fun v_k=>
aq (lenV P 31 v_k) fun v_m=>
aq (yx P 121 v_1 none (some v_m)) fun v_n=>
aq (lenV P 44 v_n) fun v_o=>
j1 v0 v2 v_n v_o (.int .i64 0) H_2 n_3)
noncomputable def C79_0 (cal:Cal) (k:Nat) (v0 v1 v2:Value) (H:Hp) (n:Nat):Res:=B79_0 cal k (S79_1 cal k k) v0 v1 v2 H n
theorem h79_0 (cal:Cal) (k:Nat) (v0 v1 v2:Value) (H:Hp) (n:Nat):aK P cal A (k+1) 79 [v0,v1,v2] H n=C79_0 cal k v0 v1 v2 H n:=by
  have h:aK P cal A (k+1) 79 [v0,v1,v2] H n=B79_0 cal k (fun u0 u2 u24 u25 u26 H n=>labK (E79_1 cal k k) (Tr.set (Tr.set (Tr.set (Tr.set (Tr.set Tr.nil 26 (some u26)) 25 (some u25)) 24 (some u24)) 2 (some u2)) 0 (some u0)) H n []) v0 v1 v2 H n:=by
    rw[bW (fn:=Go.Proofs.Try.f79) (c:=pj) (rs:=eY) (by kernel_rfl) (by kernel_rfl) (by kernel_rfl) (by kernel_rfl)]
    kernel_rfl
  rw[h,C79_0]
  have e1:(fun u0 u2 u24 u25 u26 H n=>labK (E79_1 cal k k) (Tr.set (Tr.set (Tr.set (Tr.set (Tr.set Tr.nil 26 (some u26)) 25 (some u25)) 24 (some u24)) 2 (some u2)) 0 (some u0)) H n [])=(S79_1 cal k k):=by funext u0 u2 u24 u25 u26 H n; exact q79_1 ..
  rw[e1]
noncomputable def iY:Code:=cV 80
noncomputable def cX:List ResultVar:=dW 80
noncomputable def K80_p (cal:Cal) (k:Nat):KR:=(cutK (A 80).c (ay P cal (aw P cal k) none 80 (cR iY) (Lv.b (A 80)) (av P cX) X0 (av P cX)))
noncomputable def K80_pr (cal:Cal) (k:Nat):KR:=(cutK (Lv.b (A 80)).c (ay P cal (aw P cal k) none 80 (cR (cR iY)) (Lv.b (Lv.b (A 80))) (av P cX) X0 (av P cX)))
noncomputable def Xk (cal:Cal) (k:Nat):KR:=(cutK (Lv.b (Lv.b (A 80))).c (ay P cal (aw P cal k) none 80 (cR (cR (cR iY))) (Lv.b (Lv.b (Lv.b (A 80)))) (av P cX) X0 (av P cX)))
noncomputable def K80_prrl (cal:Cal) (k:Nat):KR:=(cutK (Lv.a (Lv.b (Lv.b (A 80)))).c (ay P cal (aw P cal k) none 80 (cR (cL (cR (cR iY)))) (Lv.b (Lv.a (Lv.b (Lv.b (A 80))))) (Xk cal k) X0 (av P cX)))
noncomputable def vK (cal:Cal) (k:Nat):XR:=(upX 0 (Xk cal k) X0)
noncomputable def Jj (cal:Cal) (k:Nat) (m1:Nat):KR:=(fun T H n D=>aw P cal m1 (Lv.a (Lv.b (Lv.a (Lv.b (Lv.b (A 80)))))) none 80 (cL (cR (cL (cR (cR iY))))) (Xk cal k) (vK cal k) (av P cX) (cutT (Lv.a (Lv.b (Lv.a (Lv.b (Lv.b (A 80)))))).c T) H n D)
noncomputable def K80_prrlrll (cal:Cal) (k:Nat) (m1:Nat):KR:=(cutK (Lv.a (Lv.a (Lv.b (Lv.a (Lv.b (Lv.b (A 80))))))).c (ay P cal (aw P cal m1) none 80 (cR (cL (cL (cR (cL (cR (cR iY))))))) (Lv.b (Lv.a (Lv.a (Lv.b (Lv.a (Lv.b (Lv.b (A 80)))))))) (Jj cal k m1) (vK cal k) (av P cX)))
noncomputable def K80_prrlrllr (cal:Cal) (k:Nat) (m1:Nat):KR:=(cutK (Lv.b (Lv.a (Lv.a (Lv.b (Lv.a (Lv.b (Lv.b (A 80)))))))).c (ay P cal (aw P cal m1) none 80 (cR (cR (cL (cL (cR (cL (cR (cR iY)))))))) (Lv.b (Lv.b (Lv.a (Lv.a (Lv.b (Lv.a (Lv.b (Lv.b (A 80))))))))) (Jj cal k m1) (vK cal k) (av P cX)))
noncomputable def qk (cal:Cal) (k:Nat) (m1:Nat):KR:=(cutK (Lv.b (Lv.b (Lv.a (Lv.a (Lv.b (Lv.a (Lv.b (Lv.b (A 80))))))))).c (ay P cal (aw P cal m1) none 80 (cR (cR (cR (cL (cL (cR (cL (cR (cR iY))))))))) (Lv.b (Lv.b (Lv.b (Lv.a (Lv.a (Lv.b (Lv.a (Lv.b (Lv.b (A 80)))))))))) (Jj cal k m1) (vK cal k) (av P cX)))
noncomputable def AZ (cal:Cal) (k:Nat) (m1:Nat):XR:=(upX 1 (qk cal k m1) (vK cal k))
noncomputable def K80_prrlrllrrll (cal:Cal) (k:Nat) (m1:Nat):KR:=(cutK (Lv.a (Lv.a (Lv.b (Lv.b (Lv.a (Lv.a (Lv.b (Lv.a (Lv.b (Lv.b (A 80))))))))))).c (ay P cal (aw P cal m1) none 80 (cR (cL (cL (cR (cR (cL (cL (cR (cL (cR (cR iY))))))))))) (Lv.b (Lv.a (Lv.a (Lv.b (Lv.b (Lv.a (Lv.a (Lv.b (Lv.a (Lv.b (Lv.b (A 80)))))))))))) (qk cal k m1) (AZ cal k m1) (av P cX)))
noncomputable def K80_prrlrllrrllr (cal:Cal) (k:Nat) (m1:Nat):KR:=(cutK (Lv.b (Lv.a (Lv.a (Lv.b (Lv.b (Lv.a (Lv.a (Lv.b (Lv.a (Lv.b (Lv.b (A 80)))))))))))).c (ay P cal (aw P cal m1) none 80 (cR (cR (cL (cL (cR (cR (cL (cL (cR (cL (cR (cR iY)))))))))))) (Lv.b (Lv.b (Lv.a (Lv.a (Lv.b (Lv.b (Lv.a (Lv.a (Lv.b (Lv.a (Lv.b (Lv.b (A 80))))))))))))) (qk cal k m1) (AZ cal k m1) (av P cX)))
noncomputable def jj (cal:Cal) (k:Nat) (m1:Nat):XR:=(upX 2 (qk cal k m1) (AZ cal k m1))
noncomputable def pZ (cal:Cal) (k:Nat) (m1:Nat) (m2:Nat):KR:=(fun T H n D=>aw P cal m2 (Lv.a (Lv.b (Lv.b (Lv.a (Lv.a (Lv.b (Lv.b (Lv.a (Lv.a (Lv.b (Lv.a (Lv.b (Lv.b (A 80)))))))))))))) none 80 (cL (cR (cR (cL (cL (cR (cR (cL (cL (cR (cL (cR (cR iY))))))))))))) (qk cal k m1) (jj cal k m1) (av P cX) (cutT (Lv.a (Lv.b (Lv.b (Lv.a (Lv.a (Lv.b (Lv.b (Lv.a (Lv.a (Lv.b (Lv.a (Lv.b (Lv.b (A 80)))))))))))))).c T) H n D)
noncomputable def K80_prrlrllrrllrrll (cal:Cal) (k:Nat) (m1:Nat) (m2:Nat):KR:=(cutK (Lv.a (Lv.a (Lv.b (Lv.b (Lv.a (Lv.a (Lv.b (Lv.b (Lv.a (Lv.a (Lv.b (Lv.a (Lv.b (Lv.b (A 80))))))))))))))).c (ay P cal (aw P cal m2) none 80 (cR (cL (cL (cR (cR (cL (cL (cR (cR (cL (cL (cR (cL (cR (cR iY))))))))))))))) (Lv.b (Lv.a (Lv.a (Lv.b (Lv.b (Lv.a (Lv.a (Lv.b (Lv.b (Lv.a (Lv.a (Lv.b (Lv.a (Lv.b (Lv.b (A 80)))))))))))))))) (pZ cal k m1 m2) (jj cal k m1) (av P cX)))
noncomputable def K80_prrlrllrrllrrllr (cal:Cal) (k:Nat) (m1:Nat) (m2:Nat):KR:=(cutK (Lv.b (Lv.a (Lv.a (Lv.b (Lv.b (Lv.a (Lv.a (Lv.b (Lv.b (Lv.a (Lv.a (Lv.b (Lv.a (Lv.b (Lv.b (A 80)))))))))))))))).c (ay P cal (aw P cal m2) none 80 (cR (cR (cL (cL (cR (cR (cL (cL (cR (cR (cL (cL (cR (cL (cR (cR iY)))))))))))))))) (Lv.b (Lv.b (Lv.a (Lv.a (Lv.b (Lv.b (Lv.a (Lv.a (Lv.b (Lv.b (Lv.a (Lv.a (Lv.b (Lv.a (Lv.b (Lv.b (A 80))))))))))))))))) (pZ cal k m1 m2) (jj cal k m1) (av P cX)))
noncomputable def K80_prrlrllrrllrrllrr (cal:Cal) (k:Nat) (m1:Nat) (m2:Nat):KR:=(cutK (Lv.b (Lv.b (Lv.a (Lv.a (Lv.b (Lv.b (Lv.a (Lv.a (Lv.b (Lv.b (Lv.a (Lv.a (Lv.b (Lv.a (Lv.b (Lv.b (A 80))))))))))))))))).c (ay P cal (aw P cal m2) none 80 (cR (cR (cR (cL (cL (cR (cR (cL (cL (cR (cR (cL (cL (cR (cL (cR (cR iY))))))))))))))))) (Lv.b (Lv.b (Lv.b (Lv.a (Lv.a (Lv.b (Lv.b (Lv.a (Lv.a (Lv.b (Lv.b (Lv.a (Lv.a (Lv.b (Lv.a (Lv.b (Lv.b (A 80)))))))))))))))))) (pZ cal k m1 m2) (jj cal k m1) (av P cX)))
noncomputable def K80_pxrrlrllrrllrrllrrl (cal:Cal) (k:Nat) (m1:Nat) (m2:Nat):XR:=(upX 3 (K80_prrlrllrrllrrllrr cal k m1 m2) (jj cal k m1))
noncomputable def K80_prrlrllrrllrrllrrll (cal:Cal) (k:Nat) (m1:Nat) (m2:Nat):KR:=(cutK (Lv.a (Lv.a (Lv.b (Lv.b (Lv.a (Lv.a (Lv.b (Lv.b (Lv.a (Lv.a (Lv.b (Lv.b (Lv.a (Lv.a (Lv.b (Lv.a (Lv.b (Lv.b (A 80))))))))))))))))))).c (ay P cal (aw P cal m2) none 80 (cR (cL (cL (cR (cR (cL (cL (cR (cR (cL (cL (cR (cR (cL (cL (cR (cL (cR (cR iY))))))))))))))))))) (Lv.b (Lv.a (Lv.a (Lv.b (Lv.b (Lv.a (Lv.a (Lv.b (Lv.b (Lv.a (Lv.a (Lv.b (Lv.b (Lv.a (Lv.a (Lv.b (Lv.a (Lv.b (Lv.b (A 80)))))))))))))))))))) (K80_prrlrllrrllrrllrr cal k m1 m2) (K80_pxrrlrllrrllrrllrrl cal k m1 m2) (av P cX)))
noncomputable def Rq (cal:Cal) (k:Nat):KR:=(cutK (Lv.b (Lv.b (Lv.b (A 80)))).c (ay P cal (aw P cal k) none 80 (cR (cR (cR (cR iY)))) (Lv.b (Lv.b (Lv.b (Lv.b (A 80))))) (av P cX) X0 (av P cX)))
noncomputable def K80_prrrl (cal:Cal) (k:Nat):KR:=(cutK (Lv.a (Lv.b (Lv.b (Lv.b (A 80))))).c (ay P cal (aw P cal k) none 80 (cR (cL (cR (cR (cR iY))))) (Lv.b (Lv.a (Lv.b (Lv.b (Lv.b (A 80)))))) (Rq cal k) X0 (av P cX)))
noncomputable def sW (cal:Cal) (k:Nat):XR:=(upX 4 (Rq cal k) X0)
noncomputable def DZ (cal:Cal) (k:Nat) (m1:Nat):KR:=(fun T H n D=>aw P cal m1 (Lv.a (Lv.b (Lv.a (Lv.b (Lv.b (Lv.b (A 80))))))) none 80 (cL (cR (cL (cR (cR (cR iY)))))) (Rq cal k) (sW cal k) (av P cX) (cutT (Lv.a (Lv.b (Lv.a (Lv.b (Lv.b (Lv.b (A 80))))))).c T) H n D)
noncomputable def K80_prrrlrll (cal:Cal) (k:Nat) (m1:Nat):KR:=(cutK (Lv.a (Lv.a (Lv.b (Lv.a (Lv.b (Lv.b (Lv.b (A 80)))))))).c (ay P cal (aw P cal m1) none 80 (cR (cL (cL (cR (cL (cR (cR (cR iY)))))))) (Lv.b (Lv.a (Lv.a (Lv.b (Lv.a (Lv.b (Lv.b (Lv.b (A 80))))))))) (DZ cal k m1) (sW cal k) (av P cX)))
noncomputable def K80_prrrlrllr (cal:Cal) (k:Nat) (m1:Nat):KR:=(cutK (Lv.b (Lv.a (Lv.a (Lv.b (Lv.a (Lv.b (Lv.b (Lv.b (A 80))))))))).c (ay P cal (aw P cal m1) none 80 (cR (cR (cL (cL (cR (cL (cR (cR (cR iY))))))))) (Lv.b (Lv.b (Lv.a (Lv.a (Lv.b (Lv.a (Lv.b (Lv.b (Lv.b (A 80)))))))))) (DZ cal k m1) (sW cal k) (av P cX)))
noncomputable def xV (cal:Cal) (k:Nat) (m1:Nat):KR:=(cutK (Lv.b (Lv.b (Lv.a (Lv.a (Lv.b (Lv.a (Lv.b (Lv.b (Lv.b (A 80)))))))))).c (ay P cal (aw P cal m1) none 80 (cR (cR (cR (cL (cL (cR (cL (cR (cR (cR iY)))))))))) (Lv.b (Lv.b (Lv.b (Lv.a (Lv.a (Lv.b (Lv.a (Lv.b (Lv.b (Lv.b (A 80))))))))))) (DZ cal k m1) (sW cal k) (av P cX)))
noncomputable def zy (cal:Cal) (k:Nat) (m1:Nat):XR:=(upX 5 (xV cal k m1) (sW cal k))
noncomputable def K80_prrrlrllrrll (cal:Cal) (k:Nat) (m1:Nat):KR:=(cutK (Lv.a (Lv.a (Lv.b (Lv.b (Lv.a (Lv.a (Lv.b (Lv.a (Lv.b (Lv.b (Lv.b (A 80)))))))))))).c (ay P cal (aw P cal m1) none 80 (cR (cL (cL (cR (cR (cL (cL (cR (cL (cR (cR (cR iY)))))))))))) (Lv.b (Lv.a (Lv.a (Lv.b (Lv.b (Lv.a (Lv.a (Lv.b (Lv.a (Lv.b (Lv.b (Lv.b (A 80))))))))))))) (xV cal k m1) (zy cal k m1) (av P cX)))
noncomputable def K80_prrrlrllrrllr (cal:Cal) (k:Nat) (m1:Nat):KR:=(cutK (Lv.b (Lv.a (Lv.a (Lv.b (Lv.b (Lv.a (Lv.a (Lv.b (Lv.a (Lv.b (Lv.b (Lv.b (A 80))))))))))))).c (ay P cal (aw P cal m1) none 80 (cR (cR (cL (cL (cR (cR (cL (cL (cR (cL (cR (cR (cR iY))))))))))))) (Lv.b (Lv.b (Lv.a (Lv.a (Lv.b (Lv.b (Lv.a (Lv.a (Lv.b (Lv.a (Lv.b (Lv.b (Lv.b (A 80)))))))))))))) (xV cal k m1) (zy cal k m1) (av P cX)))
noncomputable def K80_prrrlrllrrllrrl (cal:Cal) (k:Nat) (m1:Nat):KR:=(cutK (Lv.a (Lv.b (Lv.b (Lv.a (Lv.a (Lv.b (Lv.b (Lv.a (Lv.a (Lv.b (Lv.a (Lv.b (Lv.b (Lv.b (A 80))))))))))))))).c (ay P cal (aw P cal m1) none 80 (cR (cL (cR (cR (cL (cL (cR (cR (cL (cL (cR (cL (cR (cR (cR iY))))))))))))))) (Lv.b (Lv.a (Lv.b (Lv.b (Lv.a (Lv.a (Lv.b (Lv.b (Lv.a (Lv.a (Lv.b (Lv.a (Lv.b (Lv.b (Lv.b (A 80)))))))))))))))) (xV cal k m1) (zy cal k m1) (av P cX)))
noncomputable def K80_prrrr (cal:Cal) (k:Nat):KR:=(cutK (Lv.b (Lv.b (Lv.b (Lv.b (A 80))))).c (ay P cal (aw P cal k) none 80 (cR (cR (cR (cR (cR iY))))) (Lv.b (Lv.b (Lv.b (Lv.b (Lv.b (A 80)))))) (av P cX) X0 (av P cX)))
noncomputable def E80_2 (cal:Cal) (k m1 m2:Nat):KR:=ay P cal (aw P cal m2) none 80 (cL (cL (cR (cR (cL (cL (cR (cR (cL (cL (cR (cL (cR (cR iY)))))))))))))) (Lv.a (Lv.a (Lv.b (Lv.b (Lv.a (Lv.a (Lv.b (Lv.b (Lv.a (Lv.a (Lv.b (Lv.a (Lv.b (Lv.b (A 80))))))))))))))) (pZ cal k m1 m2) (jj cal k m1) (av P cX)
noncomputable def R80_2 (cal:Cal) (k m1 m2:Nat):V8:=fun u0 u5 u12 u13 u14 u18 u19 u20 H n=>aw P cal m2 (Lv.a (Lv.b (Lv.b (Lv.a (Lv.a (Lv.b (Lv.b (Lv.a (Lv.a (Lv.b (Lv.a (Lv.b (Lv.b (A 80)))))))))))))) none 80 (cL (cR (cR (cL (cL (cR (cR (cL (cL (cR (cL (cR (cR iY))))))))))))) (qk cal k m1) (jj cal k m1) (av P cX) (Tr.set (Tr.set (Tr.set (Tr.set (Tr.set (Tr.set (Tr.set (Tr.set Tr.nil 20 (some u20)) 19 (some u19)) 18 (some u18)) 14 (some u14)) 13 (some u13)) 12 (some u12)) 5 (some u5)) 0 (some u0)) H n []
noncomputable def E80_3 (cal:Cal) (k m1:Nat):KR:=ay P cal (aw P cal m1) none 80 (cL (cL (cR (cL (cR (cR (cR iY))))))) (Lv.a (Lv.a (Lv.b (Lv.a (Lv.b (Lv.b (Lv.b (A 80)))))))) (DZ cal k m1) (sW cal k) (av P cX)
noncomputable def R80_3 (cal:Cal) (k m1:Nat):V4:=fun u5 u37 u38 u39 H n=>aw P cal m1 (Lv.a (Lv.b (Lv.a (Lv.b (Lv.b (Lv.b (A 80))))))) none 80 (cL (cR (cL (cR (cR (cR iY)))))) (Rq cal k) (sW cal k) (av P cX) (Tr.set (Tr.set (Tr.set (Tr.set Tr.nil 39 (some u39)) 38 (some u38)) 37 (some u37)) 5 (some u5)) H n []
noncomputable def E80_1 (cal:Cal) (k m1:Nat):KR:=ay P cal (aw P cal m1) none 80 (cL (cL (cR (cL (cR (cR iY)))))) (Lv.a (Lv.a (Lv.b (Lv.a (Lv.b (Lv.b (A 80))))))) (Jj cal k m1) (vK cal k) (av P cX)
noncomputable def NK (cal:Cal) (k m1:Nat):V5:=fun u0 u5 u12 u13 u14 H n=>aw P cal m1 (Lv.a (Lv.b (Lv.a (Lv.b (Lv.b (A 80)))))) none 80 (cL (cR (cL (cR (cR iY))))) (Xk cal k) (vK cal k) (av P cX) (Tr.set (Tr.set (Tr.set (Tr.set (Tr.set Tr.nil 14 (some u14)) 13 (some u13)) 12 (some u12)) 5 (some u5)) 0 (some u0)) H n []
noncomputable def B80_2 (cal:Cal) (k m1 m2:Nat) (b1:V5) (b2:V8) (u0 u5 u12 u13 u14 u18 u19 u20:Value) (H:Hp) (n:Nat):Res:=
binK P .lss 3 (.tmp 20) (.tmp 19) u20 u19 fun v_g=>
ifK v_g (
aq (aQ P 44 u18 u20) fun v_i=>
aq (aW v_i) fun a_k=>aq (az P H 3 a_k) fun v_j=>
aq (aQ P 120 u5 u20) fun v_o=>
aq (aW v_o) fun a_q=>aq (az P H 3 a_q) fun v_p=>
binK P .add 3 (.tmp 27) (.tmp 28) v_p v_j fun v_s=>
aq (aQ P 120 u5 u20) fun v_t=>
aq (bJ P 3 v_t v_s H) fun H_v=>
binK P .add 3 (.tmp 20) (.const (.int .i64 1)) u20 (.int .i64 1) fun v_w=>
b2 u0 u5 u12 u13 u14 u18 u19 v_w H_v n) (
binK P .add 3 (.tmp 14) (.const (.int .i64 1)) u14 (.int .i64 1) fun v_y=>
b1 u0 u5 u12 u13 v_y H n)
noncomputable def C80_2 (cal:Cal) (k m1 m2:Nat) (b1:V5) (b2:V8) (u0 u5 u12 u13 u14 u18 u19 u20:Value) (H:Hp) (n:Nat):Res:=B80_2 cal k m1 m2 b1 b2 u0 u5 u12 u13 u14 u18 u19 u20 H n
noncomputable def S80_2 (cal:Cal) (k m1:Nat) (b1:V5):Nat→V8:=fun m=>Nat.rec (motive:=fun _=>V8) (C80_2 cal k m1 0 b1 (fun _ _ _ _ _ _ _ _ _ _=>none)) (fun m ih=>C80_2 cal k m1 (m+1) b1 ih) m
theorem h80_2 (cal:Cal) (k m1 m2:Nat) (u0 u5 u12 u13 u14 u18 u19 u20:Value) (H:Hp) (n:Nat):labK (E80_2 cal k m1 m2) (Tr.set (Tr.set (Tr.set (Tr.set (Tr.set (Tr.set (Tr.set (Tr.set Tr.nil 20 (some u20)) 19 (some u19)) 18 (some u18)) 14 (some u14)) 13 (some u13)) 12 (some u12)) 5 (some u5)) 0 (some u0)) H n []=C80_2 cal k m1 m2 (NK cal k m1) (R80_2 cal k m1 m2) u0 u5 u12 u13 u14 u18 u19 u20 H n:=by
  refine Eq.trans (b:=B80_2 cal k m1 m2 (NK cal k m1) (R80_2 cal k m1 m2) u0 u5 u12 u13 u14 u18 u19 u20 H n) (by kernel_rfl) ?_
  rw[C80_2]
theorem q80_2 (cal:Cal) (k m1:Nat):∀(m:Nat) (u0 u5 u12 u13 u14 u18 u19 u20:Value) (H:Hp) (n:Nat),labK (E80_2 cal k m1 m) (Tr.set (Tr.set (Tr.set (Tr.set (Tr.set (Tr.set (Tr.set (Tr.set Tr.nil 20 (some u20)) 19 (some u19)) 18 (some u18)) 14 (some u14)) 13 (some u13)) 12 (some u12)) 5 (some u5)) 0 (some u0)) H n []=S80_2 cal k m1 (NK cal k m1) m u0 u5 u12 u13 u14 u18 u19 u20 H n
  | 0,u0,u5,u12,u13,u14,u18,u19,u20,H,n=>by
    rw[h80_2]
    have e:R80_2 cal k m1 0=fun _ _ _ _ _ _ _ _ _ _=>none:=by funext u0 u5 u12 u13 u14 u18 u19 u20 H n; kernel_rfl
    rw[e]; rfl
  | m+1,u0,u5,u12,u13,u14,u18,u19,u20,H,n=>by
    rw[h80_2]
    have e:R80_2 cal k m1 (m+1)=S80_2 cal k m1 (NK cal k m1) m:=by
      funext u0 u5 u12 u13 u14 u18 u19 u20 H n
      have e:R80_2 cal k m1 (m+1) u0 u5 u12 u13 u14 u18 u19 u20 H n=labK (E80_2 cal k m1 m) (Tr.set (Tr.set (Tr.set (Tr.set (Tr.set (Tr.set (Tr.set (Tr.set Tr.nil 20 (some u20)) 19 (some u19)) 18 (some u18)) 14 (some u14)) 13 (some u13)) 12 (some u12)) 5 (some u5)) 0 (some u0)) H n []:=by kernel_rfl
      rw[e]; exact q80_2 ..
    rw[e]; rfl
noncomputable def B80_3 (cal:Cal) (k m1:Nat) (b3:V4) (u5 u37 u38 u39:Value) (H:Hp) (n:Nat):Res:=
binK P .lss 3 (.tmp 39) (.tmp 38) u39 u38 fun v_18=>
ifK v_18 (
aq (aQ P 31 u37 u39) fun v_1a=>
aq (aW v_1a) fun a_1c=>aq (az P H 90 a_1c) fun v_1b=>
ez P 90 H n fun v_1d H_1e n_1f=>
aq (bJ P 90 v_1d v_1b H_1e) fun H_1i=>
aq (aQ P 120 u5 u39) fun v_1k=>
aq (aW v_1k) fun a_1l=>aq (az P H_1i 3 a_1l) fun v_1m=>
aq (ax P 90 v_1d 0) fun v_1n=>
aq (aW v_1n) fun a_1o=>aq (az P H_1i 3 a_1o) fun v_1p=>
binK P .lss 3 (.tmp 46) (.tmp 48) v_1m v_1p fun v_1q=>
cz v_1q false (fun k_1s=>
k_1s u39 .p H_1i n_1f) .p H_1i n_1f fun v_1t x_1u H_1v n_1w=>
cz v_1q false (fun k_1y=>
aq (aQ P 120 u5 v_1t) fun v_23=>
k_1y v_23 .p H_1v n_1w) .p H_1v n_1w fun v_1z x_20 H_21 n_22=>
cz v_1q false (fun k_24=>
aq (aW v_1z) fun a_29=>aq (az P H_21 3 a_29) fun v_2a=>
k_24 v_2a (.l 3 a_29) H_21 n_22) .p H_21 n_22 fun v_25 x_26 H_27 n_28=>
cz v_1q false (fun k_2b=>
aq (ax P 90 v_1d 1) fun v_2g=>
k_2b v_2g .p H_27 n_28) .p H_27 n_28 fun v_2c x_2d H_2e n_2f=>
cz v_1q false (fun k_2h=>
aq (aW v_2c) fun a_2m=>aq (az P H_2e 3 a_2m) fun v_2n=>
k_2h v_2n (.l 3 a_2m) H_2e n_2f) .p H_2e n_2f fun v_2i x_2j H_2k n_2l=>
cz v_1q false (fun k_2o=>
binK P .gtr 3 (.tmp 53) (.tmp 55) v_25 v_2i fun v_2t=>
k_2o v_2t .p H_2k n_2l) .p H_2k n_2l fun v_2p x_2q H_2r n_2s=>
aq (eQ v_1q (.bool true) v_2p) fun v_2u=>
ifK v_2u (
some ((.bool false),H_2r,n_2s)) (
binK P .add 3 (.tmp 39) (.const (.int .i64 1)) u39 (.int .i64 1) fun v_2w=>
b3 u5 u37 u38 v_2w H_2r n_2s)) (
some ((.bool true),H,n))
noncomputable def C80_3 (cal:Cal) (k m1:Nat) (b3:V4) (u5 u37 u38 u39:Value) (H:Hp) (n:Nat):Res:=B80_3 cal k m1 b3 u5 u37 u38 u39 H n
noncomputable def S80_3 (cal:Cal) (k:Nat):Nat→V4:=fun m=>Nat.rec (motive:=fun _=>V4) (C80_3 cal k 0 (fun _ _ _ _ _ _=>none)) (fun m ih=>C80_3 cal k (m+1) ih) m
theorem h80_3 (cal:Cal) (k m1:Nat) (u5 u37 u38 u39:Value) (H:Hp) (n:Nat):labK (E80_3 cal k m1) (Tr.set (Tr.set (Tr.set (Tr.set Tr.nil 39 (some u39)) 38 (some u38)) 37 (some u37)) 5 (some u5)) H n []=C80_3 cal k m1 (R80_3 cal k m1) u5 u37 u38 u39 H n:=by
  refine Eq.trans (b:=B80_3 cal k m1 (R80_3 cal k m1) u5 u37 u38 u39 H n) (by kernel_rfl) ?_
  rw[C80_3]
theorem q80_3 (cal:Cal) (k:Nat):∀(m:Nat) (u5 u37 u38 u39:Value) (H:Hp) (n:Nat),labK (E80_3 cal k m) (Tr.set (Tr.set (Tr.set (Tr.set Tr.nil 39 (some u39)) 38 (some u38)) 37 (some u37)) 5 (some u5)) H n []=S80_3 cal k m u5 u37 u38 u39 H n
  | 0,u5,u37,u38,u39,H,n=>by
    rw[h80_3]
    have e:R80_3 cal k 0=fun _ _ _ _ _ _=>none:=by funext u5 u37 u38 u39 H n; kernel_rfl
    rw[e]; rfl
  | m+1,u5,u37,u38,u39,H,n=>by
    rw[h80_3]
    have e:R80_3 cal k (m+1)=S80_3 cal k m:=by
      funext u5 u37 u38 u39 H n
      have e:R80_3 cal k (m+1) u5 u37 u38 u39 H n=labK (E80_3 cal k m) (Tr.set (Tr.set (Tr.set (Tr.set Tr.nil 39 (some u39)) 38 (some u38)) 37 (some u37)) 5 (some u5)) H n []:=by kernel_rfl
      rw[e]; exact q80_3 ..
    rw[e]; rfl
noncomputable def B80_1 (cal:Cal) (k m1:Nat) (j2:V8) (j3:V4) (b1:V5) (u0 u5 u12 u13 u14:Value) (H:Hp) (n:Nat):Res:=
binK P .lss 3 (.tmp 14) (.tmp 13) u14 u13 fun v_8=>
ifK v_8 (
aq (aQ P 59 u12 u14) fun v_9=>
aq (aW v_9) fun a_b=>aq (az P H 44 a_b) fun v_a=>
aq (lenV P 44 v_a) fun v_e=>
j2 u0 u5 u12 u13 u14 v_a v_e (.int .i64 0) H n) (
aq (nilV u0) fun v_11=>
aq (ax P 117 v_11 0) fun v_12=>
aq (ax P 35 v_12 0) fun v_13=>
aq (aW v_13) fun a_15=>aq (az P H 31 a_15) fun v_14=>
aq (lenV P 31 v_14) fun v_16=>
j3 u5 v_14 v_16 (.int .i64 0) H n)
noncomputable def C80_1 (cal:Cal) (k m1:Nat) (b1:V5) (u0 u5 u12 u13 u14:Value) (H:Hp) (n:Nat):Res:=B80_1 cal k m1 (S80_2 cal k m1 b1 m1) (S80_3 cal k k) b1 u0 u5 u12 u13 u14 H n
noncomputable def S80_1 (cal:Cal) (k:Nat):Nat→V5:=fun m=>Nat.rec (motive:=fun _=>V5) (C80_1 cal k 0 (fun _ _ _ _ _ _ _=>none)) (fun m ih=>C80_1 cal k (m+1) ih) m
theorem h80_1 (cal:Cal) (k m1:Nat) (u0 u5 u12 u13 u14:Value) (H:Hp) (n:Nat):labK (E80_1 cal k m1) (Tr.set (Tr.set (Tr.set (Tr.set (Tr.set Tr.nil 14 (some u14)) 13 (some u13)) 12 (some u12)) 5 (some u5)) 0 (some u0)) H n []=C80_1 cal k m1 (NK cal k m1) u0 u5 u12 u13 u14 H n:=by
  refine Eq.trans (b:=B80_1 cal k m1 (fun u0 u5 u12 u13 u14 u18 u19 u20 H n=>labK (E80_2 cal k m1 m1) (Tr.set (Tr.set (Tr.set (Tr.set (Tr.set (Tr.set (Tr.set (Tr.set Tr.nil 20 (some u20)) 19 (some u19)) 18 (some u18)) 14 (some u14)) 13 (some u13)) 12 (some u12)) 5 (some u5)) 0 (some u0)) H n []) (fun u5 u37 u38 u39 H n=>labK (E80_3 cal k k) (Tr.set (Tr.set (Tr.set (Tr.set Tr.nil 39 (some u39)) 38 (some u38)) 37 (some u37)) 5 (some u5)) H n []) (NK cal k m1) u0 u5 u12 u13 u14 H n) (by kernel_rfl) ?_
  rw[C80_1]
  have e2:(fun u0 u5 u12 u13 u14 u18 u19 u20 H n=>labK (E80_2 cal k m1 m1) (Tr.set (Tr.set (Tr.set (Tr.set (Tr.set (Tr.set (Tr.set (Tr.set Tr.nil 20 (some u20)) 19 (some u19)) 18 (some u18)) 14 (some u14)) 13 (some u13)) 12 (some u12)) 5 (some u5)) 0 (some u0)) H n [])=(S80_2 cal k m1 (NK cal k m1) m1):=by funext u0 u5 u12 u13 u14 u18 u19 u20 H n; exact q80_2 ..
  rw[e2]
  have e3:(fun u5 u37 u38 u39 H n=>labK (E80_3 cal k k) (Tr.set (Tr.set (Tr.set (Tr.set Tr.nil 39 (some u39)) 38 (some u38)) 37 (some u37)) 5 (some u5)) H n [])=(S80_3 cal k k):=by funext u5 u37 u38 u39 H n; exact q80_3 ..
  rw[e3]
theorem q80_1 (cal:Cal) (k:Nat):∀(m:Nat) (u0 u5 u12 u13 u14:Value) (H:Hp) (n:Nat),labK (E80_1 cal k m) (Tr.set (Tr.set (Tr.set (Tr.set (Tr.set Tr.nil 14 (some u14)) 13 (some u13)) 12 (some u12)) 5 (some u5)) 0 (some u0)) H n []=S80_1 cal k m u0 u5 u12 u13 u14 H n
  | 0,u0,u5,u12,u13,u14,H,n=>by
    rw[h80_1]
    have e:NK cal k 0=fun _ _ _ _ _ _ _=>none:=by funext u0 u5 u12 u13 u14 H n; kernel_rfl
    rw[e]; rfl
  | m+1,u0,u5,u12,u13,u14,H,n=>by
    rw[h80_1]
    have e:NK cal k (m+1)=S80_1 cal k m:=by
      funext u0 u5 u12 u13 u14 H n
      have e:NK cal k (m+1) u0 u5 u12 u13 u14 H n=labK (E80_1 cal k m) (Tr.set (Tr.set (Tr.set (Tr.set (Tr.set Tr.nil 14 (some u14)) 13 (some u13)) 12 (some u12)) 5 (some u5)) 0 (some u0)) H n []:=by kernel_rfl
      rw[e]; exact q80_1 ..
    rw[e]; rfl
noncomputable def B80_0 (cal:Cal) (k:Nat) (j1:V5) (v0 v1:Value) (H:Hp) (n:Nat):Res:=
ez P 120 H n fun v_2 H_3 n_4=>
aq (lenV P 59 v1) fun v_6=>
j1 v0 v_2 v1 v_6 (.int .i64 0) H_3 n_4
noncomputable def C80_0 (cal:Cal) (k:Nat) (v0 v1:Value) (H:Hp) (n:Nat):Res:=B80_0 cal k (S80_1 cal k k) v0 v1 H n
theorem h80_0 (cal:Cal) (k:Nat) (v0 v1:Value) (H:Hp) (n:Nat):aK P cal A (k+1) 80 [v0,v1] H n=C80_0 cal k v0 v1 H n:=by
  have h:aK P cal A (k+1) 80 [v0,v1] H n=B80_0 cal k (fun u0 u5 u12 u13 u14 H n=>labK (E80_1 cal k k) (Tr.set (Tr.set (Tr.set (Tr.set (Tr.set Tr.nil 14 (some u14)) 13 (some u13)) 12 (some u12)) 5 (some u5)) 0 (some u0)) H n []) v0 v1 H n:=by
    rw[bW (fn:=Go.Proofs.Try.f80) (c:=iY) (rs:=cX) (by kernel_rfl) (by kernel_rfl) (by kernel_rfl) (by kernel_rfl)]
    kernel_rfl
  rw[h,C80_0]
  have e1:(fun u0 u5 u12 u13 u14 H n=>labK (E80_1 cal k k) (Tr.set (Tr.set (Tr.set (Tr.set (Tr.set Tr.nil 14 (some u14)) 13 (some u13)) 12 (some u12)) 5 (some u5)) 0 (some u0)) H n [])=(S80_1 cal k k):=by funext u0 u5 u12 u13 u14 H n; exact q80_1 ..
  rw[e1]
noncomputable def xW:Code:=cV 83
noncomputable def jx:List ResultVar:=dW 83
noncomputable def K83_p (cal:Cal) (k:Nat):KR:=(cutK (A 83).c (ay P cal (aw P cal k) none 83 (cR xW) (Lv.b (A 83)) (av P jx) X0 (av P jx)))
noncomputable def K83_pr (cal:Cal) (k:Nat):KR:=(cutK (Lv.b (A 83)).c (ay P cal (aw P cal k) none 83 (cR (cR xW)) (Lv.b (Lv.b (A 83))) (av P jx) X0 (av P jx)))
noncomputable def K83_prl (cal:Cal) (k:Nat):KR:=(cutK (Lv.a (Lv.b (A 83))).c (ay P cal (aw P cal k) none 83 (cR (cL (cR xW))) (Lv.b (Lv.a (Lv.b (A 83)))) (K83_pr cal k) X0 (av P jx)))
noncomputable def zz (cal:Cal) (k:Nat):XR:=(upX 0 (K83_pr cal k) X0)
noncomputable def MY (cal:Cal) (k:Nat) (m1:Nat):KR:=(fun T H n D=>aw P cal m1 (Lv.a (Lv.b (Lv.a (Lv.b (A 83))))) none 83 (cL (cR (cL (cR xW)))) (K83_pr cal k) (zz cal k) (av P jx) (cutT (Lv.a (Lv.b (Lv.a (Lv.b (A 83))))).c T) H n D)
noncomputable def K83_prlrll (cal:Cal) (k:Nat) (m1:Nat):KR:=(cutK (Lv.a (Lv.a (Lv.b (Lv.a (Lv.b (A 83)))))).c (ay P cal (aw P cal m1) none 83 (cR (cL (cL (cR (cL (cR xW)))))) (Lv.b (Lv.a (Lv.a (Lv.b (Lv.a (Lv.b (A 83))))))) (MY cal k m1) (zz cal k) (av P jx)))
noncomputable def K83_prlrllr (cal:Cal) (k:Nat) (m1:Nat):KR:=(cutK (Lv.b (Lv.a (Lv.a (Lv.b (Lv.a (Lv.b (A 83))))))).c (ay P cal (aw P cal m1) none 83 (cR (cR (cL (cL (cR (cL (cR xW))))))) (Lv.b (Lv.b (Lv.a (Lv.a (Lv.b (Lv.a (Lv.b (A 83)))))))) (MY cal k m1) (zz cal k) (av P jx)))
noncomputable def Bz (cal:Cal) (k:Nat) (m1:Nat):KR:=(cutK (Lv.b (Lv.b (Lv.a (Lv.a (Lv.b (Lv.a (Lv.b (A 83)))))))).c (ay P cal (aw P cal m1) none 83 (cR (cR (cR (cL (cL (cR (cL (cR xW)))))))) (Lv.b (Lv.b (Lv.b (Lv.a (Lv.a (Lv.b (Lv.a (Lv.b (A 83))))))))) (MY cal k m1) (zz cal k) (av P jx)))
noncomputable def CW (cal:Cal) (k:Nat) (m1:Nat):XR:=(upX 1 (Bz cal k m1) (zz cal k))
noncomputable def K83_prlrllrrll (cal:Cal) (k:Nat) (m1:Nat):KR:=(cutK (Lv.a (Lv.a (Lv.b (Lv.b (Lv.a (Lv.a (Lv.b (Lv.a (Lv.b (A 83)))))))))).c (ay P cal (aw P cal m1) none 83 (cR (cL (cL (cR (cR (cL (cL (cR (cL (cR xW)))))))))) (Lv.b (Lv.a (Lv.a (Lv.b (Lv.b (Lv.a (Lv.a (Lv.b (Lv.a (Lv.b (A 83))))))))))) (Bz cal k m1) (CW cal k m1) (av P jx)))
noncomputable def K83_prlrllrrllr (cal:Cal) (k:Nat) (m1:Nat):KR:=(cutK (Lv.b (Lv.a (Lv.a (Lv.b (Lv.b (Lv.a (Lv.a (Lv.b (Lv.a (Lv.b (A 83))))))))))).c (ay P cal (aw P cal m1) none 83 (cR (cR (cL (cL (cR (cR (cL (cL (cR (cL (cR xW))))))))))) (Lv.b (Lv.b (Lv.a (Lv.a (Lv.b (Lv.b (Lv.a (Lv.a (Lv.b (Lv.a (Lv.b (A 83)))))))))))) (Bz cal k m1) (CW cal k m1) (av P jx)))
noncomputable def K83_prlrllrrllrrl (cal:Cal) (k:Nat) (m1:Nat):KR:=(cutK (Lv.a (Lv.b (Lv.b (Lv.a (Lv.a (Lv.b (Lv.b (Lv.a (Lv.a (Lv.b (Lv.a (Lv.b (A 83))))))))))))).c (ay P cal (aw P cal m1) none 83 (cR (cL (cR (cR (cL (cL (cR (cR (cL (cL (cR (cL (cR xW))))))))))))) (Lv.b (Lv.a (Lv.b (Lv.b (Lv.a (Lv.a (Lv.b (Lv.b (Lv.a (Lv.a (Lv.b (Lv.a (Lv.b (A 83)))))))))))))) (Bz cal k m1) (CW cal k m1) (av P jx)))
noncomputable def K83_prr (cal:Cal) (k:Nat):KR:=(cutK (Lv.b (Lv.b (A 83))).c (ay P cal (aw P cal k) none 83 (cR (cR (cR xW))) (Lv.b (Lv.b (Lv.b (A 83)))) (av P jx) X0 (av P jx)))
noncomputable def E83_1 (cal:Cal) (k m1:Nat):KR:=ay P cal (aw P cal m1) none 83 (cL (cL (cR (cL (cR xW))))) (Lv.a (Lv.a (Lv.b (Lv.a (Lv.b (A 83)))))) (MY cal k m1) (zz cal k) (av P jx)
noncomputable def R83_1 (cal:Cal) (k m1:Nat):V4:=fun u0 u3 u11 u12 H n=>aw P cal m1 (Lv.a (Lv.b (Lv.a (Lv.b (A 83))))) none 83 (cL (cR (cL (cR xW)))) (K83_pr cal k) (zz cal k) (av P jx) (Tr.set (Tr.set (Tr.set (Tr.set Tr.nil 12 (some u12)) 11 (some u11)) 3 (some u3)) 0 (some u0)) H n []
noncomputable def B83_1 (cal:Cal) (k m1:Nat) (b1:V4) (u0 u3 u11 u12:Value) (H:Hp) (n:Nat):Res:=
binK P .lss 3 (.tmp 12) (.tmp 11) u12 u11 fun v_d=>
ifK v_d (
aq (aW u3) fun a_i=>aq (az P H 111 a_i) fun v_h=>
aY P cal 68 [u0,v_h,u12] H n fun v_k H_l n_m=>
ifK v_k (
some ((.bool false),H_l,n_m)) (
binK P .add 3 (.tmp 12) (.const (.int .i64 1)) u12 (.int .i64 1) fun v_o=>
b1 u0 u3 u11 v_o H_l n_m)) (
aq (aW u3) fun a_s=>aq (az P H 111 a_s) fun v_r=>
aY P cal 111 [u0,v_r] H n fun v_t H_u n_v=>
some (v_t,H_u,n_v))
noncomputable def C83_1 (cal:Cal) (k m1:Nat) (b1:V4) (u0 u3 u11 u12:Value) (H:Hp) (n:Nat):Res:=B83_1 cal k m1 b1 u0 u3 u11 u12 H n
noncomputable def S83_1 (cal:Cal) (k:Nat):Nat→V4:=fun m=>Nat.rec (motive:=fun _=>V4) (C83_1 cal k 0 (fun _ _ _ _ _ _=>none)) (fun m ih=>C83_1 cal k (m+1) ih) m
theorem h83_1 (cal:Cal) (k m1:Nat) (u0 u3 u11 u12:Value) (H:Hp) (n:Nat):labK (E83_1 cal k m1) (Tr.set (Tr.set (Tr.set (Tr.set Tr.nil 12 (some u12)) 11 (some u11)) 3 (some u3)) 0 (some u0)) H n []=C83_1 cal k m1 (R83_1 cal k m1) u0 u3 u11 u12 H n:=by
  refine Eq.trans (b:=B83_1 cal k m1 (R83_1 cal k m1) u0 u3 u11 u12 H n) (by kernel_rfl) ?_
  rw[C83_1]
theorem q83_1 (cal:Cal) (k:Nat):∀(m:Nat) (u0 u3 u11 u12:Value) (H:Hp) (n:Nat),labK (E83_1 cal k m) (Tr.set (Tr.set (Tr.set (Tr.set Tr.nil 12 (some u12)) 11 (some u11)) 3 (some u3)) 0 (some u0)) H n []=S83_1 cal k m u0 u3 u11 u12 H n
  | 0,u0,u3,u11,u12,H,n=>by
    rw[h83_1]
    have e:R83_1 cal k 0=fun _ _ _ _ _ _=>none:=by funext u0 u3 u11 u12 H n; kernel_rfl
    rw[e]; rfl
  | m+1,u0,u3,u11,u12,H,n=>by
    rw[h83_1]
    have e:R83_1 cal k (m+1)=S83_1 cal k m:=by
      funext u0 u3 u11 u12 H n
      have e:R83_1 cal k (m+1) u0 u3 u11 u12 H n=labK (E83_1 cal k m) (Tr.set (Tr.set (Tr.set (Tr.set Tr.nil 12 (some u12)) 11 (some u11)) 3 (some u3)) 0 (some u0)) H n []:=by kernel_rfl
      rw[e]; exact q83_1 ..
    rw[e]; rfl
noncomputable def B83_0 (cal:Cal) (k:Nat) (j1:V4) (v0 v1:Value) (H:Hp) (n:Nat):Res:=
boxK 111 v1 H n fun v_1 H_2 n_3=>
aq (nilV v0) fun v_6=>
aq (ax P 117 v_6 0) fun v_7=>
aq (ax P 35 v_7 0) fun v_8=>
aq (aW v_8) fun a_a=>aq (az P H_2 31 a_a) fun v_9=>
aq (lenV P 31 v_9) fun v_b=>
j1 v0 v_1 v_b (.int .i64 0) H_2 n_3
noncomputable def C83_0 (cal:Cal) (k:Nat) (v0 v1:Value) (H:Hp) (n:Nat):Res:=B83_0 cal k (S83_1 cal k k) v0 v1 H n
theorem h83_0 (cal:Cal) (k:Nat) (v0 v1:Value) (H:Hp) (n:Nat):aK P cal A (k+1) 83 [v0,v1] H n=C83_0 cal k v0 v1 H n:=by
  have h:aK P cal A (k+1) 83 [v0,v1] H n=B83_0 cal k (fun u0 u3 u11 u12 H n=>labK (E83_1 cal k k) (Tr.set (Tr.set (Tr.set (Tr.set Tr.nil 12 (some u12)) 11 (some u11)) 3 (some u3)) 0 (some u0)) H n []) v0 v1 H n:=by
    rw[bW (fn:=Go.Proofs.Try.f83) (c:=xW) (rs:=jx) (by kernel_rfl) (by kernel_rfl) (by kernel_rfl) (by kernel_rfl)]
    kernel_rfl
  rw[h,C83_0]
  have e1:(fun u0 u3 u11 u12 H n=>labK (E83_1 cal k k) (Tr.set (Tr.set (Tr.set (Tr.set Tr.nil 12 (some u12)) 11 (some u11)) 3 (some u3)) 0 (some u0)) H n [])=(S83_1 cal k k):=by funext u0 u3 u11 u12 H n; exact q83_1 ..
  rw[e1]
noncomputable def xX:Code:=cV 89
noncomputable def jy:List ResultVar:=dW 89
noncomputable def K89_p (cal:Cal) (k:Nat):KR:=(cutK (A 89).c (ay P cal (aw P cal k) none 89 (cR xX) (Lv.b (A 89)) (av P jy) X0 (av P jy)))
noncomputable def K89_pr (cal:Cal) (k:Nat):KR:=(cutK (Lv.b (A 89)).c (ay P cal (aw P cal k) none 89 (cR (cR xX)) (Lv.b (Lv.b (A 89))) (av P jy) X0 (av P jy)))
noncomputable def K89_prl (cal:Cal) (k:Nat):KR:=(cutK (Lv.a (Lv.b (A 89))).c (ay P cal (aw P cal k) none 89 (cR (cL (cR xX))) (Lv.b (Lv.a (Lv.b (A 89)))) (K89_pr cal k) X0 (av P jy)))
noncomputable def zk (cal:Cal) (k:Nat):XR:=(upX 0 (K89_pr cal k) X0)
noncomputable def Ty (cal:Cal) (k:Nat) (m1:Nat):KR:=(fun T H n D=>aw P cal m1 (Lv.a (Lv.b (Lv.a (Lv.b (A 89))))) none 89 (cL (cR (cL (cR xX)))) (K89_pr cal k) (zk cal k) (av P jy) (cutT (Lv.a (Lv.b (Lv.a (Lv.b (A 89))))).c T) H n D)
noncomputable def K89_prlrll (cal:Cal) (k:Nat) (m1:Nat):KR:=(cutK (Lv.a (Lv.a (Lv.b (Lv.a (Lv.b (A 89)))))).c (ay P cal (aw P cal m1) none 89 (cR (cL (cL (cR (cL (cR xX)))))) (Lv.b (Lv.a (Lv.a (Lv.b (Lv.a (Lv.b (A 89))))))) (Ty cal k m1) (zk cal k) (av P jy)))
noncomputable def K89_prlrlll (cal:Cal) (k:Nat) (m1:Nat):KR:=(cutK (Lv.a (Lv.a (Lv.a (Lv.b (Lv.a (Lv.b (A 89))))))).c (ay P cal (aw P cal m1) none 89 (cR (cL (cL (cL (cR (cL (cR xX))))))) (Lv.b (Lv.a (Lv.a (Lv.a (Lv.b (Lv.a (Lv.b (A 89)))))))) (K89_prlrll cal k m1) (zk cal k) (av P jy)))
noncomputable def DK (cal:Cal) (k:Nat) (m1:Nat):KR:=(cutK (Lv.b (Lv.a (Lv.a (Lv.b (Lv.a (Lv.b (A 89))))))).c (ay P cal (aw P cal m1) none 89 (cR (cR (cL (cL (cR (cL (cR xX))))))) (Lv.b (Lv.b (Lv.a (Lv.a (Lv.b (Lv.a (Lv.b (A 89)))))))) (Ty cal k m1) (zk cal k) (av P jy)))
noncomputable def EZ (cal:Cal) (k:Nat) (m1:Nat):XR:=(upX 1 (DK cal k m1) (zk cal k))
noncomputable def K89_prlrllrll (cal:Cal) (k:Nat) (m1:Nat):KR:=(cutK (Lv.a (Lv.a (Lv.b (Lv.a (Lv.a (Lv.b (Lv.a (Lv.b (A 89))))))))).c (ay P cal (aw P cal m1) none 89 (cR (cL (cL (cR (cL (cL (cR (cL (cR xX))))))))) (Lv.b (Lv.a (Lv.a (Lv.b (Lv.a (Lv.a (Lv.b (Lv.a (Lv.b (A 89)))))))))) (DK cal k m1) (EZ cal k m1) (av P jy)))
noncomputable def K89_prlrllrllr (cal:Cal) (k:Nat) (m1:Nat):KR:=(cutK (Lv.b (Lv.a (Lv.a (Lv.b (Lv.a (Lv.a (Lv.b (Lv.a (Lv.b (A 89)))))))))).c (ay P cal (aw P cal m1) none 89 (cR (cR (cL (cL (cR (cL (cL (cR (cL (cR xX)))))))))) (Lv.b (Lv.b (Lv.a (Lv.a (Lv.b (Lv.a (Lv.a (Lv.b (Lv.a (Lv.b (A 89))))))))))) (DK cal k m1) (EZ cal k m1) (av P jy)))
noncomputable def K89_prlrllrllrrl (cal:Cal) (k:Nat) (m1:Nat):KR:=(cutK (Lv.a (Lv.b (Lv.b (Lv.a (Lv.a (Lv.b (Lv.a (Lv.a (Lv.b (Lv.a (Lv.b (A 89)))))))))))).c (ay P cal (aw P cal m1) none 89 (cR (cL (cR (cR (cL (cL (cR (cL (cL (cR (cL (cR xX)))))))))))) (Lv.b (Lv.a (Lv.b (Lv.b (Lv.a (Lv.a (Lv.b (Lv.a (Lv.a (Lv.b (Lv.a (Lv.b (A 89))))))))))))) (DK cal k m1) (EZ cal k m1) (av P jy)))
noncomputable def K89_prr (cal:Cal) (k:Nat):KR:=(cutK (Lv.b (Lv.b (A 89))).c (ay P cal (aw P cal k) none 89 (cR (cR (cR xX))) (Lv.b (Lv.b (Lv.b (A 89)))) (av P jy) X0 (av P jy)))
noncomputable def E89_1 (cal:Cal) (k m1:Nat):KR:=ay P cal (aw P cal m1) none 89 (cL (cL (cR (cL (cR xX))))) (Lv.a (Lv.a (Lv.b (Lv.a (Lv.b (A 89)))))) (Ty cal k m1) (zk cal k) (av P jy)
noncomputable def R89_1 (cal:Cal) (k m1:Nat):V4:=fun u1 u2 u3 u7 H n=>aw P cal m1 (Lv.a (Lv.b (Lv.a (Lv.b (A 89))))) none 89 (cL (cR (cL (cR xX)))) (K89_pr cal k) (zk cal k) (av P jy) (Tr.set (Tr.set (Tr.set (Tr.set Tr.nil 7 (some u7)) 3 (some u3)) 2 (some u2)) 1 (some u1)) H n []
noncomputable def B89_1 (cal:Cal) (k m1:Nat) (b1:V4) (u1 u2 u3 u7:Value) (H:Hp) (n:Nat):Res:=
aq (ax P 26 u3 1) fun v_7=>
aq (aW v_7) fun a_9=>aq (az P H 23 a_9) fun v_8=>
aq (lenV P 23 v_8) fun v_a=>
binK P .lss 3 (.tmp 9) (.tmp 12) u7 v_a fun v_b=>
ifK v_b (
aq (ax P 26 u3 1) fun v_c=>
aq (aW v_c) fun a_e=>aq (az P H 23 a_e) fun v_d=>
aq (aQ P 23 v_d u7) fun v_g=>
aq (aW v_g) fun a_i=>aq (az P H 104 a_i) fun v_h=>
ez P 104 H n fun v_j H_k n_l=>
aq (bJ P 104 v_j v_h H_k) fun H_n=>
aq (ax P 104 v_j 0) fun v_o=>
aq (aW v_o) fun a_q=>aq (az P H_n 3 a_q) fun v_p=>
binK P .eql 3 (.tmp 22) (.tmp 23) v_p u1 fun v_s=>
aV v_s true (fun k_u=>
aq (ax P 104 v_j 1) fun v_y=>
k_u v_y H_n n_l) H_n n_l fun v_v H_w n_x=>
aV v_s true (fun k_z=>
aq (aW v_v) fun a_14=>aq (az P H_w 3 a_14) fun v_13=>
k_z v_13 H_w n_x) H_w n_x fun v_10 H_11 n_12=>
aV v_s true (fun k_15=>
k_15 u2 H_11 n_12) H_11 n_12 fun v_16 H_17 n_18=>
aV v_s true (fun k_1a=>
binK P .eql 3 (.tmp 27) (.tmp 28) v_10 v_16 fun v_1e=>
k_1a v_1e H_17 n_18) H_17 n_18 fun v_1b H_1c n_1d=>
aq (eQ v_s v_1b (.bool false)) fun v_1f=>
aV v_1f false (fun k_1h=>
aq (ax P 104 v_j 0) fun v_1l=>
k_1h v_1l H_1c n_1d) H_1c n_1d fun v_1i H_1j n_1k=>
aV v_1f false (fun k_1m=>
aq (aW v_1i) fun a_1r=>aq (az P H_1j 3 a_1r) fun v_1q=>
k_1m v_1q H_1j n_1k) H_1j n_1k fun v_1n H_1o n_1p=>
aV v_1f false (fun k_1s=>
k_1s u2 H_1o n_1p) H_1o n_1p fun v_1t H_1u n_1v=>
aV v_1f false (fun k_1x=>
binK P .eql 3 (.tmp 33) (.tmp 34) v_1n v_1t fun v_21=>
k_1x v_21 H_1u n_1v) H_1u n_1v fun v_1y H_1z n_20=>
aV v_1f false (fun k_22=>
k_22 v_1y H_1z n_20) H_1z n_20 fun v_23 H_24 n_25=>
aV v_23 true (fun k_27=>
aq (ax P 104 v_j 1) fun v_2b=>
k_27 v_2b H_24 n_25) H_24 n_25 fun v_28 H_29 n_2a=>
aV v_23 true (fun k_2c=>
aq (aW v_28) fun a_2h=>aq (az P H_29 3 a_2h) fun v_2g=>
k_2c v_2g H_29 n_2a) H_29 n_2a fun v_2d H_2e n_2f=>
aV v_23 true (fun k_2i=>
k_2i u1 H_2e n_2f) H_2e n_2f fun v_2j H_2k n_2l=>
aV v_23 true (fun k_2n=>
binK P .eql 3 (.tmp 38) (.tmp 39) v_2d v_2j fun v_2r=>
k_2n v_2r H_2k n_2l) H_2k n_2l fun v_2o H_2p n_2q=>
aV v_1f false (fun k_2s=>
aq (eQ v_23 v_2o (.bool false)) fun v_2w=>
k_2s v_2w H_2p n_2q) H_2p n_2q fun v_2t H_2u n_2v=>
aq (eQ v_1f (.bool true) v_2t) fun v_2x=>
ifK v_2x (
some ((.bool true),H_2u,n_2v)) (
binK P .add 3 (.tmp 14) (.const (.int .i64 1)) u7 (.int .i64 1) fun v_30=>
b1 u1 u2 u3 v_30 H_2u n_2v)) (
some ((.bool false),H,n))
noncomputable def C89_1 (cal:Cal) (k m1:Nat) (b1:V4) (u1 u2 u3 u7:Value) (H:Hp) (n:Nat):Res:=B89_1 cal k m1 b1 u1 u2 u3 u7 H n
noncomputable def S89_1 (cal:Cal) (k:Nat):Nat→V4:=fun m=>Nat.rec (motive:=fun _=>V4) (C89_1 cal k 0 (fun _ _ _ _ _ _=>none)) (fun m ih=>C89_1 cal k (m+1) ih) m
theorem h89_1 (cal:Cal) (k m1:Nat) (u1 u2 u3 u7:Value) (H:Hp) (n:Nat):labK (E89_1 cal k m1) (Tr.set (Tr.set (Tr.set (Tr.set Tr.nil 7 (some u7)) 3 (some u3)) 2 (some u2)) 1 (some u1)) H n []=C89_1 cal k m1 (R89_1 cal k m1) u1 u2 u3 u7 H n:=by
  refine Eq.trans (b:=B89_1 cal k m1 (R89_1 cal k m1) u1 u2 u3 u7 H n) (by kernel_rfl) ?_
  rw[C89_1]
theorem q89_1 (cal:Cal) (k:Nat):∀(m:Nat) (u1 u2 u3 u7:Value) (H:Hp) (n:Nat),labK (E89_1 cal k m) (Tr.set (Tr.set (Tr.set (Tr.set Tr.nil 7 (some u7)) 3 (some u3)) 2 (some u2)) 1 (some u1)) H n []=S89_1 cal k m u1 u2 u3 u7 H n
  | 0,u1,u2,u3,u7,H,n=>by
    rw[h89_1]
    have e:R89_1 cal k 0=fun _ _ _ _ _ _=>none:=by funext u1 u2 u3 u7 H n; kernel_rfl
    rw[e]; rfl
  | m+1,u1,u2,u3,u7,H,n=>by
    rw[h89_1]
    have e:R89_1 cal k (m+1)=S89_1 cal k m:=by
      funext u1 u2 u3 u7 H n
      have e:R89_1 cal k (m+1) u1 u2 u3 u7 H n=labK (E89_1 cal k m) (Tr.set (Tr.set (Tr.set (Tr.set Tr.nil 7 (some u7)) 3 (some u3)) 2 (some u2)) 1 (some u1)) H n []:=by kernel_rfl
      rw[e]; exact q89_1 ..
    rw[e]; rfl
noncomputable def B89_0 (cal:Cal) (k:Nat) (j1:V4) (v0 v1 v2:Value) (H:Hp) (n:Nat):Res:=
boxK 26 v0 H n fun v_1 H_2 n_3=>
j1 v1 v2 v_1 (.int .i64 0) H_2 n_3
noncomputable def C89_0 (cal:Cal) (k:Nat) (v0 v1 v2:Value) (H:Hp) (n:Nat):Res:=B89_0 cal k (S89_1 cal k k) v0 v1 v2 H n
theorem h89_0 (cal:Cal) (k:Nat) (v0 v1 v2:Value) (H:Hp) (n:Nat):aK P cal A (k+1) 89 [v0,v1,v2] H n=C89_0 cal k v0 v1 v2 H n:=by
  have h:aK P cal A (k+1) 89 [v0,v1,v2] H n=B89_0 cal k (fun u1 u2 u3 u7 H n=>labK (E89_1 cal k k) (Tr.set (Tr.set (Tr.set (Tr.set Tr.nil 7 (some u7)) 3 (some u3)) 2 (some u2)) 1 (some u1)) H n []) v0 v1 v2 H n:=by
    rw[bW (fn:=Go.Proofs.Try.f89) (c:=xX) (rs:=jy) (by kernel_rfl) (by kernel_rfl) (by kernel_rfl) (by kernel_rfl)]
    kernel_rfl
  rw[h,C89_0]
  have e1:(fun u1 u2 u3 u7 H n=>labK (E89_1 cal k k) (Tr.set (Tr.set (Tr.set (Tr.set Tr.nil 7 (some u7)) 3 (some u3)) 2 (some u2)) 1 (some u1)) H n [])=(S89_1 cal k k):=by funext u1 u2 u3 u7 H n; exact q89_1 ..
  rw[e1]
noncomputable def Tz:Code:=cV 90
noncomputable def tJ:List ResultVar:=dW 90
noncomputable def K90_p (cal:Cal) (k:Nat):KR:=(cutK (A 90).c (ay P cal (aw P cal k) none 90 (cR Tz) (Lv.b (A 90)) (av P tJ) X0 (av P tJ)))
noncomputable def K90_pr (cal:Cal) (k:Nat):KR:=(cutK (Lv.b (A 90)).c (ay P cal (aw P cal k) none 90 (cR (cR Tz)) (Lv.b (Lv.b (A 90))) (av P tJ) X0 (av P tJ)))
noncomputable def K90_prl (cal:Cal) (k:Nat):KR:=(cutK (Lv.a (Lv.b (A 90))).c (ay P cal (aw P cal k) none 90 (cR (cL (cR Tz))) (Lv.b (Lv.a (Lv.b (A 90)))) (K90_pr cal k) X0 (av P tJ)))
noncomputable def K90_prlrl (cal:Cal) (k:Nat):KR:=(cutK (Lv.a (Lv.b (Lv.a (Lv.b (A 90))))).c (ay P cal (aw P cal k) none 90 (cR (cL (cR (cL (cR Tz))))) (Lv.b (Lv.a (Lv.b (Lv.a (Lv.b (A 90)))))) (K90_pr cal k) X0 (av P tJ)))
noncomputable def K90_prr (cal:Cal) (k:Nat):KR:=(cutK (Lv.b (Lv.b (A 90))).c (ay P cal (aw P cal k) none 90 (cR (cR (cR Tz))) (Lv.b (Lv.b (Lv.b (A 90)))) (av P tJ) X0 (av P tJ)))
noncomputable def B90_0 (cal:Cal) (k:Nat) (v0 v1:Value) (H:Hp) (n:Nat):Res:=
aq (lenV P 91 v0) fun v_3=>
binK P .eql 3 (.tmp 6) (.const (.int .i64 0)) v_3 (.int .i64 0) fun v_4=>
ifK v_4 (
some ((.int .i64 0),H,n)) (
aq (lenV P 91 v0) fun v_9=>
binK P .rem 3 (.tmp 9) (.tmp 11) v1 v_9 fun v_a=>
aq (aQ P 91 v0 v_a) fun v_b=>
aq (aW v_b) fun a_d=>aq (az P H 97 a_d) fun v_c=>
aq (eW P v_c (convert 97 3 v_c)) fun v_e=>
some (v_e,H,n))
noncomputable def C90_0 (cal:Cal) (k:Nat) (v0 v1:Value) (H:Hp) (n:Nat):Res:=B90_0 cal k v0 v1 H n
theorem h90_0 (cal:Cal) (k:Nat) (v0 v1:Value) (H:Hp) (n:Nat):aK P cal A (k+1) 90 [v0,v1] H n=C90_0 cal k v0 v1 H n:=by
  have h:aK P cal A (k+1) 90 [v0,v1] H n=B90_0 cal k v0 v1 H n:=by
    rw[bW (fn:=Go.Proofs.Try.f90) (c:=Tz) (rs:=tJ) (by kernel_rfl) (by kernel_rfl) (by kernel_rfl) (by kernel_rfl)]
    kernel_rfl
  rw[h,C90_0]
noncomputable def xY:Code:=cV 91
noncomputable def jz:List ResultVar:=dW 91
noncomputable def K91_p (cal:Cal) (k:Nat):KR:=(cutK (A 91).c (ay P cal (aw P cal k) none 91 (cR xY) (Lv.b (A 91)) (av P jz) X0 (av P jz)))
noncomputable def K91_pr (cal:Cal) (k:Nat):KR:=(cutK (Lv.b (A 91)).c (ay P cal (aw P cal k) none 91 (cR (cR xY)) (Lv.b (Lv.b (A 91))) (av P jz) X0 (av P jz)))
noncomputable def K91_prl (cal:Cal) (k:Nat):KR:=(cutK (Lv.a (Lv.b (A 91))).c (ay P cal (aw P cal k) none 91 (cR (cL (cR xY))) (Lv.b (Lv.a (Lv.b (A 91)))) (K91_pr cal k) X0 (av P jz)))
noncomputable def zJ (cal:Cal) (k:Nat):XR:=(upX 0 (K91_pr cal k) X0)
noncomputable def MZ (cal:Cal) (k:Nat) (m1:Nat):KR:=(fun T H n D=>aw P cal m1 (Lv.a (Lv.b (Lv.a (Lv.b (A 91))))) none 91 (cL (cR (cL (cR xY)))) (K91_pr cal k) (zJ cal k) (av P jz) (cutT (Lv.a (Lv.b (Lv.a (Lv.b (A 91))))).c T) H n D)
noncomputable def K91_prlrll (cal:Cal) (k:Nat) (m1:Nat):KR:=(cutK (Lv.a (Lv.a (Lv.b (Lv.a (Lv.b (A 91)))))).c (ay P cal (aw P cal m1) none 91 (cR (cL (cL (cR (cL (cR xY)))))) (Lv.b (Lv.a (Lv.a (Lv.b (Lv.a (Lv.b (A 91))))))) (MZ cal k m1) (zJ cal k) (av P jz)))
noncomputable def K91_prlrllr (cal:Cal) (k:Nat) (m1:Nat):KR:=(cutK (Lv.b (Lv.a (Lv.a (Lv.b (Lv.a (Lv.b (A 91))))))).c (ay P cal (aw P cal m1) none 91 (cR (cR (cL (cL (cR (cL (cR xY))))))) (Lv.b (Lv.b (Lv.a (Lv.a (Lv.b (Lv.a (Lv.b (A 91)))))))) (MZ cal k m1) (zJ cal k) (av P jz)))
noncomputable def Bk (cal:Cal) (k:Nat) (m1:Nat):KR:=(cutK (Lv.b (Lv.b (Lv.a (Lv.a (Lv.b (Lv.a (Lv.b (A 91)))))))).c (ay P cal (aw P cal m1) none 91 (cR (cR (cR (cL (cL (cR (cL (cR xY)))))))) (Lv.b (Lv.b (Lv.b (Lv.a (Lv.a (Lv.b (Lv.a (Lv.b (A 91))))))))) (MZ cal k m1) (zJ cal k) (av P jz)))
noncomputable def CX (cal:Cal) (k:Nat) (m1:Nat):XR:=(upX 1 (Bk cal k m1) (zJ cal k))
noncomputable def K91_prlrllrrll (cal:Cal) (k:Nat) (m1:Nat):KR:=(cutK (Lv.a (Lv.a (Lv.b (Lv.b (Lv.a (Lv.a (Lv.b (Lv.a (Lv.b (A 91)))))))))).c (ay P cal (aw P cal m1) none 91 (cR (cL (cL (cR (cR (cL (cL (cR (cL (cR xY)))))))))) (Lv.b (Lv.a (Lv.a (Lv.b (Lv.b (Lv.a (Lv.a (Lv.b (Lv.a (Lv.b (A 91))))))))))) (Bk cal k m1) (CX cal k m1) (av P jz)))
noncomputable def K91_prlrllrrllr (cal:Cal) (k:Nat) (m1:Nat):KR:=(cutK (Lv.b (Lv.a (Lv.a (Lv.b (Lv.b (Lv.a (Lv.a (Lv.b (Lv.a (Lv.b (A 91))))))))))).c (ay P cal (aw P cal m1) none 91 (cR (cR (cL (cL (cR (cR (cL (cL (cR (cL (cR xY))))))))))) (Lv.b (Lv.b (Lv.a (Lv.a (Lv.b (Lv.b (Lv.a (Lv.a (Lv.b (Lv.a (Lv.b (A 91)))))))))))) (Bk cal k m1) (CX cal k m1) (av P jz)))
noncomputable def K91_prlrllrrllrrl (cal:Cal) (k:Nat) (m1:Nat):KR:=(cutK (Lv.a (Lv.b (Lv.b (Lv.a (Lv.a (Lv.b (Lv.b (Lv.a (Lv.a (Lv.b (Lv.a (Lv.b (A 91))))))))))))).c (ay P cal (aw P cal m1) none 91 (cR (cL (cR (cR (cL (cL (cR (cR (cL (cL (cR (cL (cR xY))))))))))))) (Lv.b (Lv.a (Lv.b (Lv.b (Lv.a (Lv.a (Lv.b (Lv.b (Lv.a (Lv.a (Lv.b (Lv.a (Lv.b (A 91)))))))))))))) (Bk cal k m1) (CX cal k m1) (av P jz)))
noncomputable def K91_prr (cal:Cal) (k:Nat):KR:=(cutK (Lv.b (Lv.b (A 91))).c (ay P cal (aw P cal k) none 91 (cR (cR (cR xY))) (Lv.b (Lv.b (Lv.b (A 91)))) (av P jz) X0 (av P jz)))
noncomputable def E91_1 (cal:Cal) (k m1:Nat):KR:=ay P cal (aw P cal m1) none 91 (cL (cL (cR (cL (cR xY))))) (Lv.a (Lv.a (Lv.b (Lv.a (Lv.b (A 91)))))) (MZ cal k m1) (zJ cal k) (av P jz)
noncomputable def R91_1 (cal:Cal) (k m1:Nat):V4:=fun u1 u7 u8 u9 H n=>aw P cal m1 (Lv.a (Lv.b (Lv.a (Lv.b (A 91))))) none 91 (cL (cR (cL (cR xY)))) (K91_pr cal k) (zJ cal k) (av P jz) (Tr.set (Tr.set (Tr.set (Tr.set Tr.nil 9 (some u9)) 8 (some u8)) 7 (some u7)) 1 (some u1)) H n []
noncomputable def B91_1 (cal:Cal) (k m1:Nat) (b1:V4) (u1 u7 u8 u9:Value) (H:Hp) (n:Nat):Res:=
binK P .lss 3 (.tmp 9) (.tmp 8) u9 u8 fun v_5=>
ifK v_5 (
aq (aQ P 31 u7 u9) fun v_6=>
aq (aW v_6) fun a_8=>aq (az P H 90 a_8) fun v_7=>
ez P 90 H n fun v_9 H_a n_b=>
aq (bJ P 90 v_9 v_7 H_a) fun H_d=>
aq (aW v_9) fun a_g=>aq (az P H_d 90 a_g) fun v_f=>
lK P cal u1 [v_f] H_d n_b fun v_h H_i n_j=>
aq (eW P v_h (Op.unary UnOp.not v_h)) fun v_k=>
ifK v_k (
some ((.bool false),H_i,n_j)) (
binK P .add 3 (.tmp 9) (.const (.int .i64 1)) u9 (.int .i64 1) fun v_m=>
b1 u1 u7 u8 v_m H_i n_j)) (
some ((.bool true),H,n))
noncomputable def C91_1 (cal:Cal) (k m1:Nat) (b1:V4) (u1 u7 u8 u9:Value) (H:Hp) (n:Nat):Res:=B91_1 cal k m1 b1 u1 u7 u8 u9 H n
noncomputable def S91_1 (cal:Cal) (k:Nat):Nat→V4:=fun m=>Nat.rec (motive:=fun _=>V4) (C91_1 cal k 0 (fun _ _ _ _ _ _=>none)) (fun m ih=>C91_1 cal k (m+1) ih) m
theorem h91_1 (cal:Cal) (k m1:Nat) (u1 u7 u8 u9:Value) (H:Hp) (n:Nat):labK (E91_1 cal k m1) (Tr.set (Tr.set (Tr.set (Tr.set Tr.nil 9 (some u9)) 8 (some u8)) 7 (some u7)) 1 (some u1)) H n []=C91_1 cal k m1 (R91_1 cal k m1) u1 u7 u8 u9 H n:=by
  refine Eq.trans (b:=B91_1 cal k m1 (R91_1 cal k m1) u1 u7 u8 u9 H n) (by kernel_rfl) ?_
  rw[C91_1]
theorem q91_1 (cal:Cal) (k:Nat):∀(m:Nat) (u1 u7 u8 u9:Value) (H:Hp) (n:Nat),labK (E91_1 cal k m) (Tr.set (Tr.set (Tr.set (Tr.set Tr.nil 9 (some u9)) 8 (some u8)) 7 (some u7)) 1 (some u1)) H n []=S91_1 cal k m u1 u7 u8 u9 H n
  | 0,u1,u7,u8,u9,H,n=>by
    rw[h91_1]
    have e:R91_1 cal k 0=fun _ _ _ _ _ _=>none:=by funext u1 u7 u8 u9 H n; kernel_rfl
    rw[e]; rfl
  | m+1,u1,u7,u8,u9,H,n=>by
    rw[h91_1]
    have e:R91_1 cal k (m+1)=S91_1 cal k m:=by
      funext u1 u7 u8 u9 H n
      have e:R91_1 cal k (m+1) u1 u7 u8 u9 H n=labK (E91_1 cal k m) (Tr.set (Tr.set (Tr.set (Tr.set Tr.nil 9 (some u9)) 8 (some u8)) 7 (some u7)) 1 (some u1)) H n []:=by kernel_rfl
      rw[e]; exact q91_1 ..
    rw[e]; rfl
noncomputable def B91_0 (cal:Cal) (k:Nat) (j1:V4) (v0 v1:Value) (H:Hp) (n:Nat):Res:=
aq (lenV P 31 v0) fun v_3=>
j1 v1 v0 v_3 (.int .i64 0) H n
noncomputable def C91_0 (cal:Cal) (k:Nat) (v0 v1:Value) (H:Hp) (n:Nat):Res:=B91_0 cal k (S91_1 cal k k) v0 v1 H n
theorem h91_0 (cal:Cal) (k:Nat) (v0 v1:Value) (H:Hp) (n:Nat):aK P cal A (k+1) 91 [v0,v1] H n=C91_0 cal k v0 v1 H n:=by
  have h:aK P cal A (k+1) 91 [v0,v1] H n=B91_0 cal k (fun u1 u7 u8 u9 H n=>labK (E91_1 cal k k) (Tr.set (Tr.set (Tr.set (Tr.set Tr.nil 9 (some u9)) 8 (some u8)) 7 (some u7)) 1 (some u1)) H n []) v0 v1 H n:=by
    rw[bW (fn:=Go.Proofs.Try.f91) (c:=xY) (rs:=jz) (by kernel_rfl) (by kernel_rfl) (by kernel_rfl) (by kernel_rfl)]
    kernel_rfl
  rw[h,C91_0]
  have e1:(fun u1 u7 u8 u9 H n=>labK (E91_1 cal k k) (Tr.set (Tr.set (Tr.set (Tr.set Tr.nil 9 (some u9)) 8 (some u8)) 7 (some u7)) 1 (some u1)) H n [])=(S91_1 cal k k):=by funext u1 u7 u8 u9 H n; exact q91_1 ..
  rw[e1]
noncomputable def code92:Code:=cV 92
noncomputable def GX:List ResultVar:=dW 92
noncomputable def K92_p (cal:Cal) (k:Nat):KR:=(cutK (A 92).c (ay P cal (aw P cal k) none 92 (cR code92) (Lv.b (A 92)) (av P GX) X0 (av P GX)))
noncomputable def K92_pr (cal:Cal) (k:Nat):KR:=(cutK (Lv.b (A 92)).c (ay P cal (aw P cal k) none 92 (cR (cR code92)) (Lv.b (Lv.b (A 92))) (av P GX) X0 (av P GX)))
noncomputable def B92_0 (cal:Cal) (k:Nat) (v0:Value) (H:Hp) (n:Nat):Res:=
boxK 90 v0 H n fun v_1 H_2 n_3=>
aq (ax P 90 v_1 0) fun v_5=>
aq (aW v_5) fun a_7=>aq (az P H_2 3 a_7) fun v_6=>
binK P .geq 3 (.tmp 4) (.const (.int .i64 0)) v_6 (.int .i64 0) fun v_8=>
aV v_8 true (fun k_a=>
aq (ax P 90 v_1 0) fun v_e=>
k_a v_e H_2 n_3) H_2 n_3 fun v_b H_c n_d=>
aV v_8 true (fun k_f=>
aq (aW v_b) fun a_k=>aq (az P H_c 3 a_k) fun v_j=>
k_f v_j H_c n_d) H_c n_d fun v_g H_h n_i=>
aV v_8 true (fun k_l=>
aq (ax P 90 v_1 1) fun v_p=>
k_l v_p H_h n_i) H_h n_i fun v_m H_n n_o=>
aV v_8 true (fun k_q=>
aq (aW v_m) fun a_v=>aq (az P H_n 3 a_v) fun v_u=>
k_q v_u H_n n_o) H_n n_o fun v_r H_s n_t=>
aV v_8 true (fun k_w=>
binK P .leq 3 (.tmp 8) (.tmp 10) v_g v_r fun v_10=>
k_w v_10 H_s n_t) H_s n_t fun v_x H_y n_z=>
aq (eQ v_8 v_x (.bool false)) fun v_11=>
aV v_11 true (fun k_13=>
aq (ax P 90 v_1 1) fun v_17=>
k_13 v_17 H_y n_z) H_y n_z fun v_14 H_15 n_16=>
aV v_11 true (fun k_18=>
aq (aW v_14) fun a_1d=>aq (az P H_15 3 a_1d) fun v_1c=>
k_18 v_1c H_15 n_16) H_15 n_16 fun v_19 H_1a n_1b=>
aV v_11 true (fun k_1e=>
binK P .leq 3 (.tmp 15) (.const (.int .i64 1000)) v_19 (.int .i64 1000) fun v_1i=>
k_1e v_1i H_1a n_1b) H_1a n_1b fun v_1f H_1g n_1h=>
aq (eQ v_11 v_1f (.bool false)) fun v_1j=>
some (v_1j,H_1g,n_1h)
noncomputable def C92_0 (cal:Cal) (k:Nat) (v0:Value) (H:Hp) (n:Nat):Res:=B92_0 cal k v0 H n
theorem h92_0 (cal:Cal) (k:Nat) (v0:Value) (H:Hp) (n:Nat):aK P cal A (k+1) 92 [v0] H n=C92_0 cal k v0 H n:=by
  have h:aK P cal A (k+1) 92 [v0] H n=B92_0 cal k v0 H n:=by
    rw[bW (fn:=Go.Proofs.Try.f92) (c:=code92) (rs:=GX) (by kernel_rfl) (by kernel_rfl) (by kernel_rfl) (by kernel_rfl)]
    kernel_rfl
  rw[h,C92_0]
noncomputable def xZ:Code:=cV 93
noncomputable def jk:List ResultVar:=dW 93
noncomputable def K93_p (cal:Cal) (k:Nat):KR:=(cutK (A 93).c (ay P cal (aw P cal k) none 93 (cR xZ) (Lv.b (A 93)) (av P jk) X0 (av P jk)))
noncomputable def K93_pr (cal:Cal) (k:Nat):KR:=(cutK (Lv.b (A 93)).c (ay P cal (aw P cal k) none 93 (cR (cR xZ)) (Lv.b (Lv.b (A 93))) (av P jk) X0 (av P jk)))
noncomputable def K93_prl (cal:Cal) (k:Nat):KR:=(cutK (Lv.a (Lv.b (A 93))).c (ay P cal (aw P cal k) none 93 (cR (cL (cR xZ))) (Lv.b (Lv.a (Lv.b (A 93)))) (K93_pr cal k) X0 (av P jk)))
noncomputable def zQ (cal:Cal) (k:Nat):XR:=(upX 0 (K93_pr cal k) X0)
noncomputable def MK (cal:Cal) (k:Nat) (m1:Nat):KR:=(fun T H n D=>aw P cal m1 (Lv.a (Lv.b (Lv.a (Lv.b (A 93))))) none 93 (cL (cR (cL (cR xZ)))) (K93_pr cal k) (zQ cal k) (av P jk) (cutT (Lv.a (Lv.b (Lv.a (Lv.b (A 93))))).c T) H n D)
noncomputable def K93_prlrll (cal:Cal) (k:Nat) (m1:Nat):KR:=(cutK (Lv.a (Lv.a (Lv.b (Lv.a (Lv.b (A 93)))))).c (ay P cal (aw P cal m1) none 93 (cR (cL (cL (cR (cL (cR xZ)))))) (Lv.b (Lv.a (Lv.a (Lv.b (Lv.a (Lv.b (A 93))))))) (MK cal k m1) (zQ cal k) (av P jk)))
noncomputable def K93_prlrllr (cal:Cal) (k:Nat) (m1:Nat):KR:=(cutK (Lv.b (Lv.a (Lv.a (Lv.b (Lv.a (Lv.b (A 93))))))).c (ay P cal (aw P cal m1) none 93 (cR (cR (cL (cL (cR (cL (cR xZ))))))) (Lv.b (Lv.b (Lv.a (Lv.a (Lv.b (Lv.a (Lv.b (A 93)))))))) (MK cal k m1) (zQ cal k) (av P jk)))
noncomputable def BJ (cal:Cal) (k:Nat) (m1:Nat):KR:=(cutK (Lv.b (Lv.b (Lv.a (Lv.a (Lv.b (Lv.a (Lv.b (A 93)))))))).c (ay P cal (aw P cal m1) none 93 (cR (cR (cR (cL (cL (cR (cL (cR xZ)))))))) (Lv.b (Lv.b (Lv.b (Lv.a (Lv.a (Lv.b (Lv.a (Lv.b (A 93))))))))) (MK cal k m1) (zQ cal k) (av P jk)))
noncomputable def CY (cal:Cal) (k:Nat) (m1:Nat):XR:=(upX 1 (BJ cal k m1) (zQ cal k))
noncomputable def K93_prlrllrrll (cal:Cal) (k:Nat) (m1:Nat):KR:=(cutK (Lv.a (Lv.a (Lv.b (Lv.b (Lv.a (Lv.a (Lv.b (Lv.a (Lv.b (A 93)))))))))).c (ay P cal (aw P cal m1) none 93 (cR (cL (cL (cR (cR (cL (cL (cR (cL (cR xZ)))))))))) (Lv.b (Lv.a (Lv.a (Lv.b (Lv.b (Lv.a (Lv.a (Lv.b (Lv.a (Lv.b (A 93))))))))))) (BJ cal k m1) (CY cal k m1) (av P jk)))
noncomputable def K93_prlrllrrllr (cal:Cal) (k:Nat) (m1:Nat):KR:=(cutK (Lv.b (Lv.a (Lv.a (Lv.b (Lv.b (Lv.a (Lv.a (Lv.b (Lv.a (Lv.b (A 93))))))))))).c (ay P cal (aw P cal m1) none 93 (cR (cR (cL (cL (cR (cR (cL (cL (cR (cL (cR xZ))))))))))) (Lv.b (Lv.b (Lv.a (Lv.a (Lv.b (Lv.b (Lv.a (Lv.a (Lv.b (Lv.a (Lv.b (A 93)))))))))))) (BJ cal k m1) (CY cal k m1) (av P jk)))
noncomputable def K93_prlrllrrllrrl (cal:Cal) (k:Nat) (m1:Nat):KR:=(cutK (Lv.a (Lv.b (Lv.b (Lv.a (Lv.a (Lv.b (Lv.b (Lv.a (Lv.a (Lv.b (Lv.a (Lv.b (A 93))))))))))))).c (ay P cal (aw P cal m1) none 93 (cR (cL (cR (cR (cL (cL (cR (cR (cL (cL (cR (cL (cR xZ))))))))))))) (Lv.b (Lv.a (Lv.b (Lv.b (Lv.a (Lv.a (Lv.b (Lv.b (Lv.a (Lv.a (Lv.b (Lv.a (Lv.b (A 93)))))))))))))) (BJ cal k m1) (CY cal k m1) (av P jk)))
noncomputable def K93_prr (cal:Cal) (k:Nat):KR:=(cutK (Lv.b (Lv.b (A 93))).c (ay P cal (aw P cal k) none 93 (cR (cR (cR xZ))) (Lv.b (Lv.b (Lv.b (A 93)))) (av P jk) X0 (av P jk)))
noncomputable def E93_1 (cal:Cal) (k m1:Nat):KR:=ay P cal (aw P cal m1) none 93 (cL (cL (cR (cL (cR xZ))))) (Lv.a (Lv.a (Lv.b (Lv.a (Lv.b (A 93)))))) (MK cal k m1) (zQ cal k) (av P jk)
noncomputable def R93_1 (cal:Cal) (k m1:Nat):V4:=fun u1 u7 u8 u9 H n=>aw P cal m1 (Lv.a (Lv.b (Lv.a (Lv.b (A 93))))) none 93 (cL (cR (cL (cR xZ)))) (K93_pr cal k) (zQ cal k) (av P jk) (Tr.set (Tr.set (Tr.set (Tr.set Tr.nil 9 (some u9)) 8 (some u8)) 7 (some u7)) 1 (some u1)) H n []
noncomputable def B93_1 (cal:Cal) (k m1:Nat) (b1:V4) (u1 u7 u8 u9:Value) (H:Hp) (n:Nat):Res:=
binK P .lss 3 (.tmp 9) (.tmp 8) u9 u8 fun v_5=>
ifK v_5 (
aq (aQ P 32 u7 u9) fun v_6=>
aq (aW v_6) fun a_8=>aq (az P H 88 a_8) fun v_7=>
ez P 88 H n fun v_9 H_a n_b=>
aq (bJ P 88 v_9 v_7 H_a) fun H_d=>
aq (aW v_9) fun a_g=>aq (az P H_d 88 a_g) fun v_f=>
lK P cal u1 [v_f] H_d n_b fun v_h H_i n_j=>
aq (eW P v_h (Op.unary UnOp.not v_h)) fun v_k=>
ifK v_k (
some ((.bool false),H_i,n_j)) (
binK P .add 3 (.tmp 9) (.const (.int .i64 1)) u9 (.int .i64 1) fun v_m=>
b1 u1 u7 u8 v_m H_i n_j)) (
some ((.bool true),H,n))
noncomputable def C93_1 (cal:Cal) (k m1:Nat) (b1:V4) (u1 u7 u8 u9:Value) (H:Hp) (n:Nat):Res:=B93_1 cal k m1 b1 u1 u7 u8 u9 H n
noncomputable def S93_1 (cal:Cal) (k:Nat):Nat→V4:=fun m=>Nat.rec (motive:=fun _=>V4) (C93_1 cal k 0 (fun _ _ _ _ _ _=>none)) (fun m ih=>C93_1 cal k (m+1) ih) m
theorem h93_1 (cal:Cal) (k m1:Nat) (u1 u7 u8 u9:Value) (H:Hp) (n:Nat):labK (E93_1 cal k m1) (Tr.set (Tr.set (Tr.set (Tr.set Tr.nil 9 (some u9)) 8 (some u8)) 7 (some u7)) 1 (some u1)) H n []=C93_1 cal k m1 (R93_1 cal k m1) u1 u7 u8 u9 H n:=by
  refine Eq.trans (b:=B93_1 cal k m1 (R93_1 cal k m1) u1 u7 u8 u9 H n) (by kernel_rfl) ?_
  rw[C93_1]
theorem q93_1 (cal:Cal) (k:Nat):∀(m:Nat) (u1 u7 u8 u9:Value) (H:Hp) (n:Nat),labK (E93_1 cal k m) (Tr.set (Tr.set (Tr.set (Tr.set Tr.nil 9 (some u9)) 8 (some u8)) 7 (some u7)) 1 (some u1)) H n []=S93_1 cal k m u1 u7 u8 u9 H n
  | 0,u1,u7,u8,u9,H,n=>by
    rw[h93_1]
    have e:R93_1 cal k 0=fun _ _ _ _ _ _=>none:=by funext u1 u7 u8 u9 H n; kernel_rfl
    rw[e]; rfl
  | m+1,u1,u7,u8,u9,H,n=>by
    rw[h93_1]
    have e:R93_1 cal k (m+1)=S93_1 cal k m:=by
      funext u1 u7 u8 u9 H n
      have e:R93_1 cal k (m+1) u1 u7 u8 u9 H n=labK (E93_1 cal k m) (Tr.set (Tr.set (Tr.set (Tr.set Tr.nil 9 (some u9)) 8 (some u8)) 7 (some u7)) 1 (some u1)) H n []:=by kernel_rfl
      rw[e]; exact q93_1 ..
    rw[e]; rfl
noncomputable def B93_0 (cal:Cal) (k:Nat) (j1:V4) (v0 v1:Value) (H:Hp) (n:Nat):Res:=
aq (lenV P 32 v0) fun v_3=>
j1 v1 v0 v_3 (.int .i64 0) H n
noncomputable def C93_0 (cal:Cal) (k:Nat) (v0 v1:Value) (H:Hp) (n:Nat):Res:=B93_0 cal k (S93_1 cal k k) v0 v1 H n
theorem h93_0 (cal:Cal) (k:Nat) (v0 v1:Value) (H:Hp) (n:Nat):aK P cal A (k+1) 93 [v0,v1] H n=C93_0 cal k v0 v1 H n:=by
  have h:aK P cal A (k+1) 93 [v0,v1] H n=B93_0 cal k (fun u1 u7 u8 u9 H n=>labK (E93_1 cal k k) (Tr.set (Tr.set (Tr.set (Tr.set Tr.nil 9 (some u9)) 8 (some u8)) 7 (some u7)) 1 (some u1)) H n []) v0 v1 H n:=by
    rw[bW (fn:=Go.Proofs.Try.f93) (c:=xZ) (rs:=jk) (by kernel_rfl) (by kernel_rfl) (by kernel_rfl) (by kernel_rfl)]
    kernel_rfl
  rw[h,C93_0]
  have e1:(fun u1 u7 u8 u9 H n=>labK (E93_1 cal k k) (Tr.set (Tr.set (Tr.set (Tr.set Tr.nil 9 (some u9)) 8 (some u8)) 7 (some u7)) 1 (some u1)) H n [])=(S93_1 cal k k):=by funext u1 u7 u8 u9 H n; exact q93_1 ..
  rw[e1]
noncomputable def wj:Code:=cV 94
noncomputable def iz:List ResultVar:=dW 94
noncomputable def K94_p (cal:Cal) (k:Nat):KR:=(cutK (A 94).c (ay P cal (aw P cal k) none 94 (cR wj) (Lv.b (A 94)) (av P iz) X0 (av P iz)))
noncomputable def K94_pr (cal:Cal) (k:Nat):KR:=(cutK (Lv.b (A 94)).c (ay P cal (aw P cal k) none 94 (cR (cR wj)) (Lv.b (Lv.b (A 94))) (av P iz) X0 (av P iz)))
noncomputable def XJ (cal:Cal) (k:Nat):KR:=(cutK (Lv.b (Lv.b (A 94))).c (ay P cal (aw P cal k) none 94 (cR (cR (cR wj))) (Lv.b (Lv.b (Lv.b (A 94)))) (av P iz) X0 (av P iz)))
noncomputable def K94_prrl (cal:Cal) (k:Nat):KR:=(cutK (Lv.a (Lv.b (Lv.b (A 94)))).c (ay P cal (aw P cal k) none 94 (cR (cL (cR (cR wj)))) (Lv.b (Lv.a (Lv.b (Lv.b (A 94))))) (XJ cal k) X0 (av P iz)))
noncomputable def sY (cal:Cal) (k:Nat):XR:=(upX 0 (XJ cal k) X0)
noncomputable def CZ (cal:Cal) (k:Nat) (m1:Nat):KR:=(fun T H n D=>aw P cal m1 (Lv.a (Lv.b (Lv.a (Lv.b (Lv.b (A 94)))))) none 94 (cL (cR (cL (cR (cR wj))))) (XJ cal k) (sY cal k) (av P iz) (cutT (Lv.a (Lv.b (Lv.a (Lv.b (Lv.b (A 94)))))).c T) H n D)
noncomputable def K94_prrlrll (cal:Cal) (k:Nat) (m1:Nat):KR:=(cutK (Lv.a (Lv.a (Lv.b (Lv.a (Lv.b (Lv.b (A 94))))))).c (ay P cal (aw P cal m1) none 94 (cR (cL (cL (cR (cL (cR (cR wj))))))) (Lv.b (Lv.a (Lv.a (Lv.b (Lv.a (Lv.b (Lv.b (A 94)))))))) (CZ cal k m1) (sY cal k) (av P iz)))
noncomputable def K94_prrlrllr (cal:Cal) (k:Nat) (m1:Nat):KR:=(cutK (Lv.b (Lv.a (Lv.a (Lv.b (Lv.a (Lv.b (Lv.b (A 94)))))))).c (ay P cal (aw P cal m1) none 94 (cR (cR (cL (cL (cR (cL (cR (cR wj)))))))) (Lv.b (Lv.b (Lv.a (Lv.a (Lv.b (Lv.a (Lv.b (Lv.b (A 94))))))))) (CZ cal k m1) (sY cal k) (av P iz)))
noncomputable def EK (cal:Cal) (k:Nat) (m1:Nat):KR:=(cutK (Lv.b (Lv.b (Lv.a (Lv.a (Lv.b (Lv.a (Lv.b (Lv.b (A 94))))))))).c (ay P cal (aw P cal m1) none 94 (cR (cR (cR (cL (cL (cR (cL (cR (cR wj))))))))) (Lv.b (Lv.b (Lv.b (Lv.a (Lv.a (Lv.b (Lv.a (Lv.b (Lv.b (A 94)))))))))) (CZ cal k m1) (sY cal k) (av P iz)))
noncomputable def K94_pxrrlrllrrl (cal:Cal) (k:Nat) (m1:Nat):XR:=(upX 1 (EK cal k m1) (sY cal k))
noncomputable def K94_prrlrllrrll (cal:Cal) (k:Nat) (m1:Nat):KR:=(cutK (Lv.a (Lv.a (Lv.b (Lv.b (Lv.a (Lv.a (Lv.b (Lv.a (Lv.b (Lv.b (A 94))))))))))).c (ay P cal (aw P cal m1) none 94 (cR (cL (cL (cR (cR (cL (cL (cR (cL (cR (cR wj))))))))))) (Lv.b (Lv.a (Lv.a (Lv.b (Lv.b (Lv.a (Lv.a (Lv.b (Lv.a (Lv.b (Lv.b (A 94)))))))))))) (EK cal k m1) (K94_pxrrlrllrrl cal k m1) (av P iz)))
noncomputable def K94_prrlrllrrllr (cal:Cal) (k:Nat) (m1:Nat):KR:=(cutK (Lv.b (Lv.a (Lv.a (Lv.b (Lv.b (Lv.a (Lv.a (Lv.b (Lv.a (Lv.b (Lv.b (A 94)))))))))))).c (ay P cal (aw P cal m1) none 94 (cR (cR (cL (cL (cR (cR (cL (cL (cR (cL (cR (cR wj)))))))))))) (Lv.b (Lv.b (Lv.a (Lv.a (Lv.b (Lv.b (Lv.a (Lv.a (Lv.b (Lv.a (Lv.b (Lv.b (A 94))))))))))))) (EK cal k m1) (K94_pxrrlrllrrl cal k m1) (av P iz)))
noncomputable def K94_prrr (cal:Cal) (k:Nat):KR:=(cutK (Lv.b (Lv.b (Lv.b (A 94)))).c (ay P cal (aw P cal k) none 94 (cR (cR (cR (cR wj)))) (Lv.b (Lv.b (Lv.b (Lv.b (A 94))))) (av P iz) X0 (av P iz)))
noncomputable def E94_2 (cal:Cal) (k m1:Nat):KR:=ay P cal (aw P cal m1) none 94 (cR (cR (cR (cL (cL (cR (cL (cR (cR wj))))))))) (Lv.b (Lv.b (Lv.b (Lv.a (Lv.a (Lv.b (Lv.a (Lv.b (Lv.b (A 94)))))))))) (CZ cal k m1) (sY cal k) (av P iz)
noncomputable def E94_1 (cal:Cal) (k m1:Nat):KR:=ay P cal (aw P cal m1) none 94 (cL (cL (cR (cL (cR (cR wj)))))) (Lv.a (Lv.a (Lv.b (Lv.a (Lv.b (Lv.b (A 94))))))) (CZ cal k m1) (sY cal k) (av P iz)
noncomputable def VX (cal:Cal) (k m1:Nat):V6:=fun u2 u3 u5 u9 u10 u11 H n=>aw P cal m1 (Lv.a (Lv.b (Lv.a (Lv.b (Lv.b (A 94)))))) none 94 (cL (cR (cL (cR (cR wj))))) (XJ cal k) (sY cal k) (av P iz) (Tr.set (Tr.set (Tr.set (Tr.set (Tr.set (Tr.set Tr.nil 11 (some u11)) 10 (some u10)) 9 (some u9)) 5 (some u5)) 3 (some u3)) 2 (some u2)) H n []
noncomputable def B94_2 (cal:Cal) (k m1:Nat) (b1:V6) (u2 u3 u5 u9 u10 u11:Value) (H:Hp) (n:Nat):Res:=
binK P .add 3 (.tmp 11) (.const (.int .i64 1)) u11 (.int .i64 1) fun v_f=>
b1 u2 u3 u5 u9 u10 v_f H n
noncomputable def C94_2 (cal:Cal) (k m1:Nat) (b1:V6) (u2 u3 u5 u9 u10 u11:Value) (H:Hp) (n:Nat):Res:=B94_2 cal k m1 b1 u2 u3 u5 u9 u10 u11 H n
theorem h94_2 (cal:Cal) (k m1:Nat) (u2 u3 u5 u9 u10 u11:Value) (H:Hp) (n:Nat):labK (E94_2 cal k m1) (Tr.set (Tr.set (Tr.set (Tr.set (Tr.set (Tr.set Tr.nil 11 (some u11)) 10 (some u10)) 9 (some u9)) 5 (some u5)) 3 (some u3)) 2 (some u2)) H n []=C94_2 cal k m1 (VX cal k m1) u2 u3 u5 u9 u10 u11 H n:=by
  refine Eq.trans (b:=B94_2 cal k m1 (VX cal k m1) u2 u3 u5 u9 u10 u11 H n) (by kernel_rfl) ?_
  rw[C94_2]
noncomputable def B94_1 (cal:Cal) (k m1:Nat) (j2:V6) (b1:V6) (u2 u3 u5 u9 u10 u11:Value) (H:Hp) (n:Nat):Res:=
binK P .lss 3 (.tmp 11) (.tmp 10) u11 u10 fun v_e=>
ifK v_e (
aq (aQ P 32 u9 u11) fun v_h=>
aq (aW v_h) fun a_j=>aq (az P H 88 a_j) fun v_i=>
ez P 88 H n fun v_k H_l n_m=>
aq (bJ P 88 v_k v_i H_l) fun H_o=>
aq (aW v_k) fun a_q=>aq (az P H_o 88 a_q) fun v_p=>
aq (aW u3) fun a_s=>aq (az P H_o 88 a_s) fun v_r=>
binK P .eql 88 (.tmp 15) (.tmp 16) v_p v_r fun v_t=>
aV v_t false (fun k_v=>
aq (aW v_k) fun a_10=>aq (az P H_o 88 a_10) fun v_z=>
k_v v_z H_o n_m) H_o n_m fun v_w H_x n_y=>
aV v_t false (fun k_11=>
aq (ax P 88 u3 1) fun v_15=>
k_11 v_15 H_x n_y) H_x n_y fun v_12 H_13 n_14=>
aV v_t false (fun k_16=>
aq (aW v_12) fun a_1b=>aq (az P H_13 3 a_1b) fun v_1a=>
k_16 v_1a H_13 n_14) H_13 n_14 fun v_17 H_18 n_19=>
aV v_t false (fun k_1c=>
aq (ax P 88 u3 0) fun v_1g=>
k_1c v_1g H_18 n_19) H_18 n_19 fun v_1d H_1e n_1f=>
aV v_t false (fun k_1h=>
aq (aW v_1d) fun a_1m=>aq (az P H_1e 3 a_1m) fun v_1l=>
k_1h v_1l H_1e n_1f) H_1e n_1f fun v_1i H_1j n_1k=>
aV v_t false (fun k_1n=>
aq (jW P 88 [(0,v_17),(1,v_1i)]) fun v_1r=>
k_1n v_1r H_1j n_1k) H_1j n_1k fun v_1o H_1p n_1q=>
aV v_t false (fun k_1s=>
binK P .eql 88 (.tmp 19) (.tmp 24) v_w v_1o fun v_1w=>
k_1s v_1w H_1p n_1q) H_1p n_1q fun v_1t H_1u n_1v=>
aq (eQ v_t (.bool true) v_1t) fun v_1x=>
ifK v_1x (
binK P .add 3 (.tmp 27) (.const (.int .i64 1)) u5 (.int .i64 1) fun v_1z=>
j2 u2 u3 v_1z u9 u10 u11 H_1u n_1v) (
j2 u2 u3 u5 u9 u10 u11 H_1u n_1v)) (
aq (aW u2) fun a_22=>aq (az P H 35 a_22) fun v_21=>
aq (ax P 88 u3 0) fun v_23=>
aq (aW v_23) fun a_25=>aq (az P H 3 a_25) fun v_24=>
aY P cal 71 [v_21,v_24] H n fun v_26 H_27 n_28=>
aV v_26 true (fun k_2a=>
aq (aW u2) fun a_2f=>aq (az P H_27 35 a_2f) fun v_2e=>
k_2a v_2e H_27 n_28) H_27 n_28 fun v_2b H_2c n_2d=>
aV v_26 true (fun k_2g=>
aq (ax P 88 u3 1) fun v_2k=>
k_2g v_2k H_2c n_2d) H_2c n_2d fun v_2h H_2i n_2j=>
aV v_26 true (fun k_2l=>
aq (aW v_2h) fun a_2q=>aq (az P H_2i 3 a_2q) fun v_2p=>
k_2l v_2p H_2i n_2j) H_2i n_2j fun v_2m H_2n n_2o=>
aV v_26 true (fun k_2r=>
aY P cal 71 [v_2b,v_2m] H_2n n_2o fun v_2v H_2w n_2x=>
k_2r v_2v H_2w n_2x) H_2n n_2o fun v_2s H_2t n_2u=>
aq (eQ v_26 v_2s (.bool false)) fun v_2y=>
aV v_2y true (fun k_30=>
aq (ax P 88 u3 0) fun v_34=>
k_30 v_34 H_2t n_2u) H_2t n_2u fun v_31 H_32 n_33=>
aV v_2y true (fun k_35=>
aq (aW v_31) fun a_3a=>aq (az P H_32 3 a_3a) fun v_39=>
k_35 v_39 H_32 n_33) H_32 n_33 fun v_36 H_37 n_38=>
aV v_2y true (fun k_3b=>
aq (ax P 88 u3 1) fun v_3f=>
k_3b v_3f H_37 n_38) H_37 n_38 fun v_3c H_3d n_3e=>
aV v_2y true (fun k_3g=>
aq (aW v_3c) fun a_3l=>aq (az P H_3d 3 a_3l) fun v_3k=>
k_3g v_3k H_3d n_3e) H_3d n_3e fun v_3h H_3i n_3j=>
aV v_2y true (fun k_3m=>
binK P .neq 3 (.tmp 42) (.tmp 44) v_36 v_3h fun v_3q=>
k_3m v_3q H_3i n_3j) H_3i n_3j fun v_3n H_3o n_3p=>
aq (eQ v_2y v_3n (.bool false)) fun v_3r=>
aV v_3r true (fun k_3t=>
k_3t u5 H_3o n_3p) H_3o n_3p fun v_3u H_3v n_3w=>
aV v_3r true (fun k_3y=>
binK P .eql 3 (.tmp 48) (.const (.int .i64 1)) v_3u (.int .i64 1) fun v_42=>
k_3y v_42 H_3v n_3w) H_3v n_3w fun v_3z H_40 n_41=>
aq (eQ v_3r v_3z (.bool false)) fun v_43=>
some (v_43,H_40,n_41))
noncomputable def C94_1 (cal:Cal) (k m1:Nat) (b1:V6) (u2 u3 u5 u9 u10 u11:Value) (H:Hp) (n:Nat):Res:=B94_1 cal k m1 (C94_2 cal k m1 b1) b1 u2 u3 u5 u9 u10 u11 H n
noncomputable def S94_1 (cal:Cal) (k:Nat):Nat→V6:=fun m=>Nat.rec (motive:=fun _=>V6) (C94_1 cal k 0 (fun _ _ _ _ _ _ _ _=>none)) (fun m ih=>C94_1 cal k (m+1) ih) m
theorem h94_1 (cal:Cal) (k m1:Nat) (u2 u3 u5 u9 u10 u11:Value) (H:Hp) (n:Nat):labK (E94_1 cal k m1) (Tr.set (Tr.set (Tr.set (Tr.set (Tr.set (Tr.set Tr.nil 11 (some u11)) 10 (some u10)) 9 (some u9)) 5 (some u5)) 3 (some u3)) 2 (some u2)) H n []=C94_1 cal k m1 (VX cal k m1) u2 u3 u5 u9 u10 u11 H n:=by
  refine Eq.trans (b:=B94_1 cal k m1 (fun u2 u3 u5 u9 u10 u11 H n=>labK (E94_2 cal k m1) (Tr.set (Tr.set (Tr.set (Tr.set (Tr.set (Tr.set Tr.nil 11 (some u11)) 10 (some u10)) 9 (some u9)) 5 (some u5)) 3 (some u3)) 2 (some u2)) H n []) (VX cal k m1) u2 u3 u5 u9 u10 u11 H n) (by kernel_rfl) ?_
  rw[C94_1]
  have e2:(fun u2 u3 u5 u9 u10 u11 H n=>labK (E94_2 cal k m1) (Tr.set (Tr.set (Tr.set (Tr.set (Tr.set (Tr.set Tr.nil 11 (some u11)) 10 (some u10)) 9 (some u9)) 5 (some u5)) 3 (some u3)) 2 (some u2)) H n [])=(C94_2 cal k m1 (VX cal k m1)):=by funext u2 u3 u5 u9 u10 u11 H n; exact h94_2 ..
  rw[e2]
theorem q94_1 (cal:Cal) (k:Nat):∀(m:Nat) (u2 u3 u5 u9 u10 u11:Value) (H:Hp) (n:Nat),labK (E94_1 cal k m) (Tr.set (Tr.set (Tr.set (Tr.set (Tr.set (Tr.set Tr.nil 11 (some u11)) 10 (some u10)) 9 (some u9)) 5 (some u5)) 3 (some u3)) 2 (some u2)) H n []=S94_1 cal k m u2 u3 u5 u9 u10 u11 H n
  | 0,u2,u3,u5,u9,u10,u11,H,n=>by
    rw[h94_1]
    have e:VX cal k 0=fun _ _ _ _ _ _ _ _=>none:=by funext u2 u3 u5 u9 u10 u11 H n; kernel_rfl
    rw[e]; rfl
  | m+1,u2,u3,u5,u9,u10,u11,H,n=>by
    rw[h94_1]
    have e:VX cal k (m+1)=S94_1 cal k m:=by
      funext u2 u3 u5 u9 u10 u11 H n
      have e:VX cal k (m+1) u2 u3 u5 u9 u10 u11 H n=labK (E94_1 cal k m) (Tr.set (Tr.set (Tr.set (Tr.set (Tr.set (Tr.set Tr.nil 11 (some u11)) 10 (some u10)) 9 (some u9)) 5 (some u5)) 3 (some u3)) 2 (some u2)) H n []:=by kernel_rfl
      rw[e]; exact q94_1 ..
    rw[e]; rfl
noncomputable def B94_0 (cal:Cal) (k:Nat) (j1:V6) (v0 v1:Value) (H:Hp) (n:Nat):Res:=
boxK 35 v0 H n fun v_1 H_2 n_3=>
boxK 88 v1 H_2 n_3 fun v_4 H_5 n_6=>
aq (ax P 35 v_1 1) fun v_9=>
aq (aW v_9) fun a_b=>aq (az P H_5 32 a_b) fun v_a=>
aq (lenV P 32 v_a) fun v_c=>
j1 v_1 v_4 (.int .i64 0) v_a v_c (.int .i64 0) H_5 n_6
noncomputable def C94_0 (cal:Cal) (k:Nat) (v0 v1:Value) (H:Hp) (n:Nat):Res:=B94_0 cal k (S94_1 cal k k) v0 v1 H n
theorem h94_0 (cal:Cal) (k:Nat) (v0 v1:Value) (H:Hp) (n:Nat):aK P cal A (k+1) 94 [v0,v1] H n=C94_0 cal k v0 v1 H n:=by
  have h:aK P cal A (k+1) 94 [v0,v1] H n=B94_0 cal k (fun u2 u3 u5 u9 u10 u11 H n=>labK (E94_1 cal k k) (Tr.set (Tr.set (Tr.set (Tr.set (Tr.set (Tr.set Tr.nil 11 (some u11)) 10 (some u10)) 9 (some u9)) 5 (some u5)) 3 (some u3)) 2 (some u2)) H n []) v0 v1 H n:=by
    rw[bW (fn:=Go.Proofs.Try.f94) (c:=wj) (rs:=iz) (by kernel_rfl) (by kernel_rfl) (by kernel_rfl) (by kernel_rfl)]
    kernel_rfl
  rw[h,C94_0]
  have e1:(fun u2 u3 u5 u9 u10 u11 H n=>labK (E94_1 cal k k) (Tr.set (Tr.set (Tr.set (Tr.set (Tr.set (Tr.set Tr.nil 11 (some u11)) 10 (some u10)) 9 (some u9)) 5 (some u5)) 3 (some u3)) 2 (some u2)) H n [])=(S94_1 cal k k):=by funext u2 u3 u5 u9 u10 u11 H n; exact q94_1 ..
  rw[e1]
end Go.Proofs.Ytekajfobmnedjaa.G
