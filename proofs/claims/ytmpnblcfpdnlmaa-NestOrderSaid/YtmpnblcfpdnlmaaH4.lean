/- The texts of functions, each with the proof that the evaluator says the same. -/
import Derived.Test.YtmpnblcfpdnlmaaH1
open Go Go.Ev
set_option maxRecDepth 1000000
set_option linter.unusedVariables false
noncomputable section
namespace Go.Proofs.Ytmpnblcfpdnlmaa.G
noncomputable def code67:Code:=codeOf 67
noncomputable def results67:List ResultVar:=resOf 67
noncomputable def K67_p (cal:Cal) (k:Nat):KR:=(cutK (A 67).c (codeE P cal (codeF P cal k) none 67 (cR code67) (Lv.b (A 67)) (doneK P results67) X0 (doneK P results67)))
noncomputable def K67_pr (cal:Cal) (k:Nat):KR:=(cutK (Lv.b (A 67)).c (codeE P cal (codeF P cal k) none 67 (cR (cR code67)) (Lv.b (Lv.b (A 67))) (doneK P results67) X0 (doneK P results67)))
noncomputable def K67_prl (cal:Cal) (k:Nat):KR:=(cutK (Lv.a (Lv.b (A 67))).c (codeE P cal (codeF P cal k) none 67 (cR (cL (cR code67))) (Lv.b (Lv.a (Lv.b (A 67)))) (K67_pr cal k) X0 (doneK P results67)))
noncomputable def K67_prlrl (cal:Cal) (k:Nat):KR:=(cutK (Lv.a (Lv.b (Lv.a (Lv.b (A 67))))).c (codeE P cal (codeF P cal k) none 67 (cR (cL (cR (cL (cR code67))))) (Lv.b (Lv.a (Lv.b (Lv.a (Lv.b (A 67)))))) (K67_pr cal k) X0 (doneK P results67)))
noncomputable def K67_prr (cal:Cal) (k:Nat):KR:=(cutK (Lv.b (Lv.b (A 67))).c (codeE P cal (codeF P cal k) none 67 (cR (cR (cR code67))) (Lv.b (Lv.b (Lv.b (A 67)))) (doneK P results67) X0 (doneK P results67)))
noncomputable def B67_0 (cal:Cal) (k:Nat) (v0:Value) (H:Hp) (n:Nat):Res:=
binK P .eql 45 (.tmp 3) (.const (.slice none 0 0)) v0 (.slice none 0 0) fun v_3=>
ifK v_3 (
some ((.slice none 0 0),H,n)) (
rowK P 45 0 [] H n fun v_5 H_6 n_7=>
stK (appendV P (bare H_6 n_7) 45 45 v_5 v0) fun v_9 H_a n_b=>
some (v_9,H_a,n_b))
noncomputable def C67_0 (cal:Cal) (k:Nat) (v0:Value) (H:Hp) (n:Nat):Res:=B67_0 cal k v0 H n
theorem h67_0 (cal:Cal) (k:Nat) (v0:Value) (H:Hp) (n:Nat):bodyE P cal A (k+1) 67 [v0] H n=C67_0 cal k v0 H n:=by
  have h:bodyE P cal A (k+1) 67 [v0] H n=B67_0 cal k v0 H n:=by
    rw[body_eq (fn:=Go.Proofs.Try.f67) (c:=code67) (rs:=results67) (by kernel_rfl) (by kernel_rfl) (by kernel_rfl) (by kernel_rfl)]
    kernel_rfl
  rw[h,C67_0]
noncomputable def code68:Code:=codeOf 68
noncomputable def results68:List ResultVar:=resOf 68
noncomputable def K68_p (cal:Cal) (k:Nat):KR:=(cutK (A 68).c (codeE P cal (codeF P cal k) none 68 (cR code68) (Lv.b (A 68)) (doneK P results68) X0 (doneK P results68)))
noncomputable def K68_pr (cal:Cal) (k:Nat):KR:=(cutK (Lv.b (A 68)).c (codeE P cal (codeF P cal k) none 68 (cR (cR code68)) (Lv.b (Lv.b (A 68))) (doneK P results68) X0 (doneK P results68)))
noncomputable def B68_0 (cal:Cal) (k:Nat) (v0 v1 v2:Value) (H:Hp) (n:Nat):Res:=
boxK 110 v1 H n fun v_1 H_2 n_3=>
bindO (indexAddrV P 110 v_1 v2) fun v_6=>
bindO (fieldAddrV P 53 v_6 0) fun v_7=>
bindO (addrV v_7) fun a_8=>bindO (loadV P H_2 3 a_8) fun v_9=>
bindO (nilV v0) fun v_b=>
bindO (fieldAddrV P 116 v_b 0) fun v_c=>
bindO (fieldAddrV P 35 v_c 0) fun v_d=>
bindO (addrV v_d) fun a_e=>bindO (loadV P H_2 31 a_e) fun v_f=>
bindO (indexAddrV P 31 v_f v2) fun v_h=>
bindO (fieldAddrV P 90 v_h 0) fun v_i=>
bindO (addrV v_i) fun a_j=>bindO (loadV P H_2 3 a_j) fun v_k=>
binK P .lss 3 (.tmp 10) (.tmp 19) v_9 v_k fun v_l=>
some (v_l,H_2,n_3)
noncomputable def C68_0 (cal:Cal) (k:Nat) (v0 v1 v2:Value) (H:Hp) (n:Nat):Res:=B68_0 cal k v0 v1 v2 H n
theorem h68_0 (cal:Cal) (k:Nat) (v0 v1 v2:Value) (H:Hp) (n:Nat):bodyE P cal A (k+1) 68 [v0,v1,v2] H n=C68_0 cal k v0 v1 v2 H n:=by
  have h:bodyE P cal A (k+1) 68 [v0,v1,v2] H n=B68_0 cal k v0 v1 v2 H n:=by
    rw[body_eq (fn:=Go.Proofs.Try.f68) (c:=code68) (rs:=results68) (by kernel_rfl) (by kernel_rfl) (by kernel_rfl) (by kernel_rfl)]
    kernel_rfl
  rw[h,C68_0]
noncomputable def code69:Code:=codeOf 69
noncomputable def results69:List ResultVar:=resOf 69
noncomputable def K69_p (cal:Cal) (k:Nat):KR:=(cutK (A 69).c (codeE P cal (codeF P cal k) none 69 (cR code69) (Lv.b (A 69)) (doneK P results69) X0 (doneK P results69)))
noncomputable def K69_pr (cal:Cal) (k:Nat):KR:=(cutK (Lv.b (A 69)).c (codeE P cal (codeF P cal k) none 69 (cR (cR code69)) (Lv.b (Lv.b (A 69))) (doneK P results69) X0 (doneK P results69)))
noncomputable def B69_0 (cal:Cal) (k:Nat) (v0 v1 v2:Value) (H:Hp) (n:Nat):Res:=
boxK 110 v1 H n fun v_1 H_2 n_3=>
bindO (indexAddrV P 110 v_1 v2) fun v_6=>
bindO (fieldAddrV P 53 v_6 1) fun v_7=>
bindO (addrV v_7) fun a_8=>bindO (loadV P H_2 3 a_8) fun v_9=>
bindO (nilV v0) fun v_b=>
bindO (fieldAddrV P 116 v_b 0) fun v_c=>
bindO (fieldAddrV P 35 v_c 0) fun v_d=>
bindO (addrV v_d) fun a_e=>bindO (loadV P H_2 31 a_e) fun v_f=>
bindO (indexAddrV P 31 v_f v2) fun v_h=>
bindO (fieldAddrV P 90 v_h 1) fun v_i=>
bindO (addrV v_i) fun a_j=>bindO (loadV P H_2 3 a_j) fun v_k=>
binK P .gtr 3 (.tmp 10) (.tmp 19) v_9 v_k fun v_l=>
some (v_l,H_2,n_3)
noncomputable def C69_0 (cal:Cal) (k:Nat) (v0 v1 v2:Value) (H:Hp) (n:Nat):Res:=B69_0 cal k v0 v1 v2 H n
theorem h69_0 (cal:Cal) (k:Nat) (v0 v1 v2:Value) (H:Hp) (n:Nat):bodyE P cal A (k+1) 69 [v0,v1,v2] H n=C69_0 cal k v0 v1 v2 H n:=by
  have h:bodyE P cal A (k+1) 69 [v0,v1,v2] H n=B69_0 cal k v0 v1 v2 H n:=by
    rw[body_eq (fn:=Go.Proofs.Try.f69) (c:=code69) (rs:=results69) (by kernel_rfl) (by kernel_rfl) (by kernel_rfl) (by kernel_rfl)]
    kernel_rfl
  rw[h,C69_0]
noncomputable def code71:Code:=codeOf 71
noncomputable def results71:List ResultVar:=resOf 71
noncomputable def K71_p (cal:Cal) (k:Nat):KR:=(cutK (A 71).c (codeE P cal (codeF P cal k) none 71 (cR code71) (Lv.b (A 71)) (doneK P results71) X0 (doneK P results71)))
noncomputable def K71_pr (cal:Cal) (k:Nat):KR:=(cutK (Lv.b (A 71)).c (codeE P cal (codeF P cal k) none 71 (cR (cR code71)) (Lv.b (Lv.b (A 71))) (doneK P results71) X0 (doneK P results71)))
noncomputable def B71_0 (cal:Cal) (k:Nat) (v0 v1:Value) (H:Hp) (n:Nat):Res:=
boxK 35 v0 H n fun v_1 H_2 n_3=>
binK P .geq 3 (.tmp 5) (.const (.int .i64 0)) v1 (.int .i64 0) fun v_6=>
guardK v_6 true (fun k_8=>
k_8 v1 H_2 n_3) H_2 n_3 fun v_9 H_a n_b=>
guardK v_6 true (fun k_d=>
bindO (fieldAddrV P 35 v_1 0) fun v_h=>
k_d v_h H_a n_b) H_a n_b fun v_e H_f n_g=>
guardK v_6 true (fun k_i=>
bindO (addrV v_e) fun a_n=>bindO (loadV P H_f 31 a_n) fun v_m=>
k_i v_m H_f n_g) H_f n_g fun v_j H_k n_l=>
guardK v_6 true (fun k_o=>
bindO (lenV P 31 v_j) fun v_s=>
k_o v_s H_k n_l) H_k n_l fun v_p H_q n_r=>
guardK v_6 true (fun k_t=>
binK P .lss 3 (.tmp 8) (.tmp 11) v_9 v_p fun v_x=>
k_t v_x H_q n_r) H_q n_r fun v_u H_v n_w=>
bindO (pickV v_6 v_u (.bool false)) fun v_y=>
some (v_y,H_v,n_w)
noncomputable def C71_0 (cal:Cal) (k:Nat) (v0 v1:Value) (H:Hp) (n:Nat):Res:=B71_0 cal k v0 v1 H n
theorem h71_0 (cal:Cal) (k:Nat) (v0 v1:Value) (H:Hp) (n:Nat):bodyE P cal A (k+1) 71 [v0,v1] H n=C71_0 cal k v0 v1 H n:=by
  have h:bodyE P cal A (k+1) 71 [v0,v1] H n=B71_0 cal k v0 v1 H n:=by
    rw[body_eq (fn:=Go.Proofs.Try.f71) (c:=code71) (rs:=results71) (by kernel_rfl) (by kernel_rfl) (by kernel_rfl) (by kernel_rfl)]
    kernel_rfl
  rw[h,C71_0]
noncomputable def code72:Code:=codeOf 72
noncomputable def results72:List ResultVar:=resOf 72
noncomputable def K72_p (cal:Cal) (k:Nat):KR:=(cutK (A 72).c (codeE P cal (codeF P cal k) none 72 (cR code72) (Lv.b (A 72)) (doneK P results72) X0 (doneK P results72)))
noncomputable def K72_pr (cal:Cal) (k:Nat):KR:=(cutK (Lv.b (A 72)).c (codeE P cal (codeF P cal k) none 72 (cR (cR code72)) (Lv.b (Lv.b (A 72))) (doneK P results72) X0 (doneK P results72)))
noncomputable def B72_0 (cal:Cal) (k:Nat) (v0:Value) (H:Hp) (n:Nat):Res:=
boxK 53 v0 H n fun v_1 H_2 n_3=>
bindO (fieldAddrV P 53 v_1 0) fun v_5=>
bindO (addrV v_5) fun a_7=>bindO (loadV P H_2 3 a_7) fun v_6=>
some (v_6,H_2,n_3)
noncomputable def C72_0 (cal:Cal) (k:Nat) (v0:Value) (H:Hp) (n:Nat):Res:=B72_0 cal k v0 H n
theorem h72_0 (cal:Cal) (k:Nat) (v0:Value) (H:Hp) (n:Nat):bodyE P cal A (k+1) 72 [v0] H n=C72_0 cal k v0 H n:=by
  have h:bodyE P cal A (k+1) 72 [v0] H n=B72_0 cal k v0 H n:=by
    rw[body_eq (fn:=Go.Proofs.Try.f72) (c:=code72) (rs:=results72) (by kernel_rfl) (by kernel_rfl) (by kernel_rfl) (by kernel_rfl)]
    kernel_rfl
  rw[h,C72_0]
noncomputable def code73:Code:=codeOf 73
noncomputable def results73:List ResultVar:=resOf 73
noncomputable def K73_p (cal:Cal) (k:Nat):KR:=(cutK (A 73).c (codeE P cal (codeF P cal k) none 73 (cR code73) (Lv.b (A 73)) (doneK P results73) X0 (doneK P results73)))
noncomputable def K73_pr (cal:Cal) (k:Nat):KR:=(cutK (Lv.b (A 73)).c (codeE P cal (codeF P cal k) none 73 (cR (cR code73)) (Lv.b (Lv.b (A 73))) (doneK P results73) X0 (doneK P results73)))
noncomputable def B73_0 (cal:Cal) (k:Nat) (v0:Value) (H:Hp) (n:Nat):Res:=
boxK 53 v0 H n fun v_1 H_2 n_3=>
bindO (fieldAddrV P 53 v_1 1) fun v_5=>
bindO (addrV v_5) fun a_7=>bindO (loadV P H_2 3 a_7) fun v_6=>
some (v_6,H_2,n_3)
noncomputable def C73_0 (cal:Cal) (k:Nat) (v0:Value) (H:Hp) (n:Nat):Res:=B73_0 cal k v0 H n
theorem h73_0 (cal:Cal) (k:Nat) (v0:Value) (H:Hp) (n:Nat):bodyE P cal A (k+1) 73 [v0] H n=C73_0 cal k v0 H n:=by
  have h:bodyE P cal A (k+1) 73 [v0] H n=B73_0 cal k v0 H n:=by
    rw[body_eq (fn:=Go.Proofs.Try.f73) (c:=code73) (rs:=results73) (by kernel_rfl) (by kernel_rfl) (by kernel_rfl) (by kernel_rfl)]
    kernel_rfl
  rw[h,C73_0]
noncomputable def code74:Code:=codeOf 74
noncomputable def results74:List ResultVar:=resOf 74
noncomputable def K74_p (cal:Cal) (k:Nat):KR:=(cutK (A 74).c (codeE P cal (codeF P cal k) none 74 (cR code74) (Lv.b (A 74)) (doneK P results74) X0 (doneK P results74)))
noncomputable def K74_pr (cal:Cal) (k:Nat):KR:=(cutK (Lv.b (A 74)).c (codeE P cal (codeF P cal k) none 74 (cR (cR code74)) (Lv.b (Lv.b (A 74))) (doneK P results74) X0 (doneK P results74)))
noncomputable def B74_0 (cal:Cal) (k:Nat) (v0 v1:Value) (H:Hp) (n:Nat):Res:=
boxK 104 v0 H n fun v_1 H_2 n_3=>
boxK 120 v1 H_2 n_3 fun v_4 H_5 n_6=>
some ((Value.func (Fn.func 104) ⟨[]⟩ ⟨[v_4,v_1]⟩),H_5,n_6)
noncomputable def C74_0 (cal:Cal) (k:Nat) (v0 v1:Value) (H:Hp) (n:Nat):Res:=B74_0 cal k v0 v1 H n
theorem h74_0 (cal:Cal) (k:Nat) (v0 v1:Value) (H:Hp) (n:Nat):bodyE P cal A (k+1) 74 [v0,v1] H n=C74_0 cal k v0 v1 H n:=by
  have h:bodyE P cal A (k+1) 74 [v0,v1] H n=B74_0 cal k v0 v1 H n:=by
    rw[body_eq (fn:=Go.Proofs.Try.f74) (c:=code74) (rs:=results74) (by kernel_rfl) (by kernel_rfl) (by kernel_rfl) (by kernel_rfl)]
    kernel_rfl
  rw[h,C74_0]
noncomputable def code76:Code:=codeOf 76
noncomputable def results76:List ResultVar:=resOf 76
noncomputable def K76_p (cal:Cal) (k:Nat):KR:=(cutK (A 76).c (codeE P cal (codeF P cal k) none 76 (cR code76) (Lv.b (A 76)) (doneK P results76) X0 (doneK P results76)))
noncomputable def K76_pr (cal:Cal) (k:Nat):KR:=(cutK (Lv.b (A 76)).c (codeE P cal (codeF P cal k) none 76 (cR (cR code76)) (Lv.b (Lv.b (A 76))) (doneK P results76) X0 (doneK P results76)))
noncomputable def K76_prl (cal:Cal) (k:Nat):KR:=(cutK (Lv.a (Lv.b (A 76))).c (codeE P cal (codeF P cal k) none 76 (cR (cL (cR code76))) (Lv.b (Lv.a (Lv.b (A 76)))) (K76_pr cal k) X0 (doneK P results76)))
noncomputable def K76_prlrl (cal:Cal) (k:Nat):KR:=(cutK (Lv.a (Lv.b (Lv.a (Lv.b (A 76))))).c (codeE P cal (codeF P cal k) none 76 (cR (cL (cR (cL (cR code76))))) (Lv.b (Lv.a (Lv.b (Lv.a (Lv.b (A 76)))))) (K76_pr cal k) X0 (doneK P results76)))
noncomputable def K76_prr (cal:Cal) (k:Nat):KR:=(cutK (Lv.b (Lv.b (A 76))).c (codeE P cal (codeF P cal k) none 76 (cR (cR (cR code76))) (Lv.b (Lv.b (Lv.b (A 76)))) (doneK P results76) X0 (doneK P results76)))
noncomputable def B76_0 (cal:Cal) (k:Nat) (v0:Value) (H:Hp) (n:Nat):Res:=
binK P .eql 44 (.tmp 3) (.const (.slice none 0 0)) v0 (.slice none 0 0) fun v_3=>
ifK v_3 (
some ((.slice none 0 0),H,n)) (
rowK P 44 0 [] H n fun v_5 H_6 n_7=>
stK (appendV P (bare H_6 n_7) 44 44 v_5 v0) fun v_9 H_a n_b=>
some (v_9,H_a,n_b))
noncomputable def C76_0 (cal:Cal) (k:Nat) (v0:Value) (H:Hp) (n:Nat):Res:=B76_0 cal k v0 H n
theorem h76_0 (cal:Cal) (k:Nat) (v0:Value) (H:Hp) (n:Nat):bodyE P cal A (k+1) 76 [v0] H n=C76_0 cal k v0 H n:=by
  have h:bodyE P cal A (k+1) 76 [v0] H n=B76_0 cal k v0 H n:=by
    rw[body_eq (fn:=Go.Proofs.Try.f76) (c:=code76) (rs:=results76) (by kernel_rfl) (by kernel_rfl) (by kernel_rfl) (by kernel_rfl)]
    kernel_rfl
  rw[h,C76_0]
noncomputable def code77:Code:=codeOf 77
noncomputable def results77:List ResultVar:=resOf 77
noncomputable def K77_p (cal:Cal) (k:Nat):KR:=(cutK (A 77).c (codeE P cal (codeF P cal k) none 77 (cR code77) (Lv.b (A 77)) (doneK P results77) X0 (doneK P results77)))
noncomputable def K77_pr (cal:Cal) (k:Nat):KR:=(cutK (Lv.b (A 77)).c (codeE P cal (codeF P cal k) none 77 (cR (cR code77)) (Lv.b (Lv.b (A 77))) (doneK P results77) X0 (doneK P results77)))
noncomputable def K77_pxrl (cal:Cal) (k:Nat):XR:=(upX 0 (K77_pr cal k) X0)
noncomputable def K77_prll (cal:Cal) (k:Nat):KR:=(cutK (Lv.a (Lv.a (Lv.b (A 77)))).c (codeE P cal (codeF P cal k) none 77 (cR (cL (cL (cR code77)))) (Lv.b (Lv.a (Lv.a (Lv.b (A 77))))) (K77_pr cal k) (K77_pxrl cal k) (doneK P results77)))
noncomputable def K77_prllrl (cal:Cal) (k:Nat):KR:=(cutK (Lv.a (Lv.b (Lv.a (Lv.a (Lv.b (A 77)))))).c (codeE P cal (codeF P cal k) none 77 (cR (cL (cR (cL (cL (cR code77)))))) (Lv.b (Lv.a (Lv.b (Lv.a (Lv.a (Lv.b (A 77))))))) (K77_pr cal k) (K77_pxrl cal k) (doneK P results77)))
noncomputable def K77_prllrr (cal:Cal) (k:Nat):KR:=(cutK (Lv.b (Lv.b (Lv.a (Lv.a (Lv.b (A 77)))))).c (codeE P cal (codeF P cal k) none 77 (cR (cR (cR (cL (cL (cR code77)))))) (Lv.b (Lv.b (Lv.b (Lv.a (Lv.a (Lv.b (A 77))))))) (K77_pr cal k) (K77_pxrl cal k) (doneK P results77)))
noncomputable def K77_prllrrrl (cal:Cal) (k:Nat):KR:=(cutK (Lv.a (Lv.b (Lv.b (Lv.b (Lv.a (Lv.a (Lv.b (A 77)))))))).c (codeE P cal (codeF P cal k) none 77 (cR (cL (cR (cR (cR (cL (cL (cR code77)))))))) (Lv.b (Lv.a (Lv.b (Lv.b (Lv.b (Lv.a (Lv.a (Lv.b (A 77))))))))) (K77_pr cal k) (K77_pxrl cal k) (doneK P results77)))
noncomputable def K77_prr (cal:Cal) (k:Nat):KR:=(cutK (Lv.b (Lv.b (A 77))).c (codeE P cal (codeF P cal k) none 77 (cR (cR (cR code77))) (Lv.b (Lv.b (Lv.b (A 77)))) (doneK P results77) X0 (doneK P results77)))
noncomputable def B77_0 (cal:Cal) (k:Nat) (v0 v1 v2 v3:Value) (H:Hp) (n:Nat):Res:=
boxK 26 v0 H n fun v_1 H_2 n_3=>
allocK P 55 H_2 n_3 fun v_4 H_5 n_6=>
binK P .eql 3 (.tmp 10) (.tmp 11) v2 v3 fun v_9=>
ifK v_9 (
bindO (fieldAddrV P 26 v_1 2) fun v_b=>
bindO (addrV v_b) fun a_d=>bindO (loadV P H_5 24 a_d) fun v_c=>
bindO (indexAddrV P 24 v_c v1) fun v_f=>
bindO (fieldAddrV P 94 v_f 1) fun v_g=>
bindO (addrV v_g) fun a_i=>bindO (loadV P H_5 55 a_i) fun v_h=>
bindO (storeP P 55 v_4 v_h H_5) fun H_k=>
bindO (resV P (Tr.set Tr.nil 8 (some v_4)) H_k results77) fun v_l=>some (oneV v_l,H_k,n_6)) (
bindO (addrV v_1) fun a_n=>bindO (loadV P H_5 26 a_n) fun v_m=>
callFK P cal 89 [v_m,v2,v3] H_5 n_6 fun v_q H_r n_s=>
ifK v_q (
bindO (fieldAddrV P 26 v_1 2) fun v_u=>
bindO (addrV v_u) fun a_w=>bindO (loadV P H_r 24 a_w) fun v_v=>
bindO (indexAddrV P 24 v_v v1) fun v_y=>
bindO (fieldAddrV P 94 v_y 2) fun v_z=>
bindO (addrV v_z) fun a_11=>bindO (loadV P H_r 55 a_11) fun v_10=>
bindO (storeP P 55 v_4 v_10 H_r) fun H_13=>
bindO (resV P (Tr.set Tr.nil 8 (some v_4)) H_13 results77) fun v_14=>some (oneV v_14,H_13,n_s)) (
bindO (buildP P 55 []) fun v_15=>
bindO (storeP P 55 v_4 v_15 H_r) fun H_17=>
bindO (resV P (Tr.set Tr.nil 8 (some v_4)) H_17 results77) fun v_18=>some (oneV v_18,H_17,n_s)))
noncomputable def C77_0 (cal:Cal) (k:Nat) (v0 v1 v2 v3:Value) (H:Hp) (n:Nat):Res:=B77_0 cal k v0 v1 v2 v3 H n
theorem h77_0 (cal:Cal) (k:Nat) (v0 v1 v2 v3:Value) (H:Hp) (n:Nat):bodyE P cal A (k+1) 77 [v0,v1,v2,v3] H n=C77_0 cal k v0 v1 v2 v3 H n:=by
  have h:bodyE P cal A (k+1) 77 [v0,v1,v2,v3] H n=B77_0 cal k v0 v1 v2 v3 H n:=by
    rw[body_eq (fn:=Go.Proofs.Try.f77) (c:=code77) (rs:=results77) (by kernel_rfl) (by kernel_rfl) (by kernel_rfl) (by kernel_rfl)]
    kernel_rfl
  rw[h,C77_0]
noncomputable def code83:Code:=codeOf 83
noncomputable def results83:List ResultVar:=resOf 83
noncomputable def K83_p (cal:Cal) (k:Nat):KR:=(cutK (A 83).c (codeE P cal (codeF P cal k) none 83 (cR code83) (Lv.b (A 83)) (doneK P results83) X0 (doneK P results83)))
noncomputable def K83_pr (cal:Cal) (k:Nat):KR:=(cutK (Lv.b (A 83)).c (codeE P cal (codeF P cal k) none 83 (cR (cR code83)) (Lv.b (Lv.b (A 83))) (doneK P results83) X0 (doneK P results83)))
noncomputable def K83_prl (cal:Cal) (k:Nat):KR:=(cutK (Lv.a (Lv.b (A 83))).c (codeE P cal (codeF P cal k) none 83 (cR (cL (cR code83))) (Lv.b (Lv.a (Lv.b (A 83)))) (K83_pr cal k) X0 (doneK P results83)))
noncomputable def K83_pxrlr (cal:Cal) (k:Nat):XR:=(upX 0 (K83_pr cal k) X0)
noncomputable def K83_prlrl (cal:Cal) (k:Nat) (m1:Nat):KR:=(fun T H n D=>codeF P cal m1 (Lv.a (Lv.b (Lv.a (Lv.b (A 83))))) none 83 (cL (cR (cL (cR code83)))) (K83_pr cal k) (K83_pxrlr cal k) (doneK P results83) (cutT (Lv.a (Lv.b (Lv.a (Lv.b (A 83))))).c T) H n D)
noncomputable def K83_prlrll (cal:Cal) (k:Nat) (m1:Nat):KR:=(cutK (Lv.a (Lv.a (Lv.b (Lv.a (Lv.b (A 83)))))).c (codeE P cal (codeF P cal m1) none 83 (cR (cL (cL (cR (cL (cR code83)))))) (Lv.b (Lv.a (Lv.a (Lv.b (Lv.a (Lv.b (A 83))))))) (K83_prlrl cal k m1) (K83_pxrlr cal k) (doneK P results83)))
noncomputable def K83_prlrllr (cal:Cal) (k:Nat) (m1:Nat):KR:=(cutK (Lv.b (Lv.a (Lv.a (Lv.b (Lv.a (Lv.b (A 83))))))).c (codeE P cal (codeF P cal m1) none 83 (cR (cR (cL (cL (cR (cL (cR code83))))))) (Lv.b (Lv.b (Lv.a (Lv.a (Lv.b (Lv.a (Lv.b (A 83)))))))) (K83_prlrl cal k m1) (K83_pxrlr cal k) (doneK P results83)))
noncomputable def K83_prlrllrr (cal:Cal) (k:Nat) (m1:Nat):KR:=(cutK (Lv.b (Lv.b (Lv.a (Lv.a (Lv.b (Lv.a (Lv.b (A 83)))))))).c (codeE P cal (codeF P cal m1) none 83 (cR (cR (cR (cL (cL (cR (cL (cR code83)))))))) (Lv.b (Lv.b (Lv.b (Lv.a (Lv.a (Lv.b (Lv.a (Lv.b (A 83))))))))) (K83_prlrl cal k m1) (K83_pxrlr cal k) (doneK P results83)))
noncomputable def K83_pxrlrllrrl (cal:Cal) (k:Nat) (m1:Nat):XR:=(upX 1 (K83_prlrllrr cal k m1) (K83_pxrlr cal k))
noncomputable def K83_prlrllrrll (cal:Cal) (k:Nat) (m1:Nat):KR:=(cutK (Lv.a (Lv.a (Lv.b (Lv.b (Lv.a (Lv.a (Lv.b (Lv.a (Lv.b (A 83)))))))))).c (codeE P cal (codeF P cal m1) none 83 (cR (cL (cL (cR (cR (cL (cL (cR (cL (cR code83)))))))))) (Lv.b (Lv.a (Lv.a (Lv.b (Lv.b (Lv.a (Lv.a (Lv.b (Lv.a (Lv.b (A 83))))))))))) (K83_prlrllrr cal k m1) (K83_pxrlrllrrl cal k m1) (doneK P results83)))
noncomputable def K83_prlrllrrllr (cal:Cal) (k:Nat) (m1:Nat):KR:=(cutK (Lv.b (Lv.a (Lv.a (Lv.b (Lv.b (Lv.a (Lv.a (Lv.b (Lv.a (Lv.b (A 83))))))))))).c (codeE P cal (codeF P cal m1) none 83 (cR (cR (cL (cL (cR (cR (cL (cL (cR (cL (cR code83))))))))))) (Lv.b (Lv.b (Lv.a (Lv.a (Lv.b (Lv.b (Lv.a (Lv.a (Lv.b (Lv.a (Lv.b (A 83)))))))))))) (K83_prlrllrr cal k m1) (K83_pxrlrllrrl cal k m1) (doneK P results83)))
noncomputable def K83_prlrllrrllrrl (cal:Cal) (k:Nat) (m1:Nat):KR:=(cutK (Lv.a (Lv.b (Lv.b (Lv.a (Lv.a (Lv.b (Lv.b (Lv.a (Lv.a (Lv.b (Lv.a (Lv.b (A 83))))))))))))).c (codeE P cal (codeF P cal m1) none 83 (cR (cL (cR (cR (cL (cL (cR (cR (cL (cL (cR (cL (cR code83))))))))))))) (Lv.b (Lv.a (Lv.b (Lv.b (Lv.a (Lv.a (Lv.b (Lv.b (Lv.a (Lv.a (Lv.b (Lv.a (Lv.b (A 83)))))))))))))) (K83_prlrllrr cal k m1) (K83_pxrlrllrrl cal k m1) (doneK P results83)))
noncomputable def K83_prr (cal:Cal) (k:Nat):KR:=(cutK (Lv.b (Lv.b (A 83))).c (codeE P cal (codeF P cal k) none 83 (cR (cR (cR code83))) (Lv.b (Lv.b (Lv.b (A 83)))) (doneK P results83) X0 (doneK P results83)))
noncomputable def E83_1 (cal:Cal) (k m1:Nat):KR:=codeE P cal (codeF P cal m1) none 83 (cL (cL (cR (cL (cR code83))))) (Lv.a (Lv.a (Lv.b (Lv.a (Lv.b (A 83)))))) (K83_prlrl cal k m1) (K83_pxrlr cal k) (doneK P results83)
noncomputable def R83_1 (cal:Cal) (k m1:Nat):V4:=fun u0 u3 u11 u12 H n=>codeF P cal m1 (Lv.a (Lv.b (Lv.a (Lv.b (A 83))))) none 83 (cL (cR (cL (cR code83)))) (K83_pr cal k) (K83_pxrlr cal k) (doneK P results83) (Tr.set (Tr.set (Tr.set (Tr.set Tr.nil 12 (some u12)) 11 (some u11)) 3 (some u3)) 0 (some u0)) H n []
noncomputable def B83_1 (cal:Cal) (k m1:Nat) (b1:V4) (u0 u3 u11 u12:Value) (H:Hp) (n:Nat):Res:=
binK P .lss 3 (.tmp 12) (.tmp 11) u12 u11 fun v_d=>
ifK v_d (
bindO (addrV u3) fun a_i=>bindO (loadV P H 110 a_i) fun v_h=>
callFK P cal 68 [u0,v_h,u12] H n fun v_k H_l n_m=>
ifK v_k (
some ((.bool false),H_l,n_m)) (
binK P .add 3 (.tmp 12) (.const (.int .i64 1)) u12 (.int .i64 1) fun v_o=>
b1 u0 u3 u11 v_o H_l n_m)) (
bindO (addrV u3) fun a_s=>bindO (loadV P H 110 a_s) fun v_r=>
callFK P cal 111 [u0,v_r] H n fun v_t H_u n_v=>
some (v_t,H_u,n_v))
noncomputable def C83_1 (cal:Cal) (k m1:Nat) (b1:V4) (u0 u3 u11 u12:Value) (H:Hp) (n:Nat):Res:=B83_1 cal k m1 b1 u0 u3 u11 u12 H n
noncomputable def S83_1 (cal:Cal) (k:Nat):Nat→V4:=fun m=>Nat.rec (motive:=fun _=>V4) (C83_1 cal k 0 (fun _ _ _ _ _ _=>none)) (fun m ih=>C83_1 cal k (m+1) ih) m
theorem h83_1 (cal:Cal) (k m1:Nat) (u0 u3 u11 u12:Value) (H:Hp) (n:Nat):labK (E83_1 cal k m1) (Tr.set (Tr.set (Tr.set (Tr.set Tr.nil 12 (some u12)) 11 (some u11)) 3 (some u3)) 0 (some u0)) H n []=C83_1 cal k m1 (R83_1 cal k m1) u0 u3 u11 u12 H n:=by
  refine Eq.trans (b:=B83_1 cal k m1 (R83_1 cal k m1) u0 u3 u11 u12 H n) (by kernel_rfl) ?_
  rw[C83_1]
theorem q83_1 (cal:Cal) (k:Nat):∀(m:Nat) (u0 u3 u11 u12:Value) (H:Hp) (n:Nat),labK (E83_1 cal k m) (Tr.set (Tr.set (Tr.set (Tr.set Tr.nil 12 (some u12)) 11 (some u11)) 3 (some u3)) 0 (some u0)) H n []=S83_1 cal k m u0 u3 u11 u12 H n
  | 0,u0,u3,u11,u12,H,n=>by
    rw[h83_1]
    have e:R83_1 cal k 0=fun _ _ _ _ _ _=>none:=by funext u0 u3 u11 u12 H n; kernel_rfl
    rw[e]; rfl
  | m+1,u0,u3,u11,u12,H,n=>by
    rw[h83_1]
    have e:R83_1 cal k (m+1)=S83_1 cal k m:=by
      funext u0 u3 u11 u12 H n
      have e:R83_1 cal k (m+1) u0 u3 u11 u12 H n=labK (E83_1 cal k m) (Tr.set (Tr.set (Tr.set (Tr.set Tr.nil 12 (some u12)) 11 (some u11)) 3 (some u3)) 0 (some u0)) H n []:=by kernel_rfl
      rw[e]; exact q83_1 ..
    rw[e]; rfl
noncomputable def B83_0 (cal:Cal) (k:Nat) (j1:V4) (v0 v1:Value) (H:Hp) (n:Nat):Res:=
boxK 110 v1 H n fun v_1 H_2 n_3=>
bindO (nilV v0) fun v_6=>
bindO (fieldAddrV P 116 v_6 0) fun v_7=>
bindO (fieldAddrV P 35 v_7 0) fun v_8=>
bindO (addrV v_8) fun a_a=>bindO (loadV P H_2 31 a_a) fun v_9=>
bindO (lenV P 31 v_9) fun v_b=>
j1 v0 v_1 v_b (.int .i64 0) H_2 n_3
noncomputable def C83_0 (cal:Cal) (k:Nat) (v0 v1:Value) (H:Hp) (n:Nat):Res:=B83_0 cal k (S83_1 cal k k) v0 v1 H n
theorem h83_0 (cal:Cal) (k:Nat) (v0 v1:Value) (H:Hp) (n:Nat):bodyE P cal A (k+1) 83 [v0,v1] H n=C83_0 cal k v0 v1 H n:=by
  have h:bodyE P cal A (k+1) 83 [v0,v1] H n=B83_0 cal k (fun u0 u3 u11 u12 H n=>labK (E83_1 cal k k) (Tr.set (Tr.set (Tr.set (Tr.set Tr.nil 12 (some u12)) 11 (some u11)) 3 (some u3)) 0 (some u0)) H n []) v0 v1 H n:=by
    rw[body_eq (fn:=Go.Proofs.Try.f83) (c:=code83) (rs:=results83) (by kernel_rfl) (by kernel_rfl) (by kernel_rfl) (by kernel_rfl)]
    kernel_rfl
  rw[h,C83_0]
  have e1:(fun u0 u3 u11 u12 H n=>labK (E83_1 cal k k) (Tr.set (Tr.set (Tr.set (Tr.set Tr.nil 12 (some u12)) 11 (some u11)) 3 (some u3)) 0 (some u0)) H n [])=(S83_1 cal k k):=by funext u0 u3 u11 u12 H n; exact q83_1 ..
  rw[e1]
noncomputable def code89:Code:=codeOf 89
noncomputable def results89:List ResultVar:=resOf 89
noncomputable def K89_p (cal:Cal) (k:Nat):KR:=(cutK (A 89).c (codeE P cal (codeF P cal k) none 89 (cR code89) (Lv.b (A 89)) (doneK P results89) X0 (doneK P results89)))
noncomputable def K89_pr (cal:Cal) (k:Nat):KR:=(cutK (Lv.b (A 89)).c (codeE P cal (codeF P cal k) none 89 (cR (cR code89)) (Lv.b (Lv.b (A 89))) (doneK P results89) X0 (doneK P results89)))
noncomputable def K89_prl (cal:Cal) (k:Nat):KR:=(cutK (Lv.a (Lv.b (A 89))).c (codeE P cal (codeF P cal k) none 89 (cR (cL (cR code89))) (Lv.b (Lv.a (Lv.b (A 89)))) (K89_pr cal k) X0 (doneK P results89)))
noncomputable def K89_pxrlr (cal:Cal) (k:Nat):XR:=(upX 0 (K89_pr cal k) X0)
noncomputable def K89_prlrl (cal:Cal) (k:Nat) (m1:Nat):KR:=(fun T H n D=>codeF P cal m1 (Lv.a (Lv.b (Lv.a (Lv.b (A 89))))) none 89 (cL (cR (cL (cR code89)))) (K89_pr cal k) (K89_pxrlr cal k) (doneK P results89) (cutT (Lv.a (Lv.b (Lv.a (Lv.b (A 89))))).c T) H n D)
noncomputable def K89_prlrll (cal:Cal) (k:Nat) (m1:Nat):KR:=(cutK (Lv.a (Lv.a (Lv.b (Lv.a (Lv.b (A 89)))))).c (codeE P cal (codeF P cal m1) none 89 (cR (cL (cL (cR (cL (cR code89)))))) (Lv.b (Lv.a (Lv.a (Lv.b (Lv.a (Lv.b (A 89))))))) (K89_prlrl cal k m1) (K89_pxrlr cal k) (doneK P results89)))
noncomputable def K89_prlrlll (cal:Cal) (k:Nat) (m1:Nat):KR:=(cutK (Lv.a (Lv.a (Lv.a (Lv.b (Lv.a (Lv.b (A 89))))))).c (codeE P cal (codeF P cal m1) none 89 (cR (cL (cL (cL (cR (cL (cR code89))))))) (Lv.b (Lv.a (Lv.a (Lv.a (Lv.b (Lv.a (Lv.b (A 89)))))))) (K89_prlrll cal k m1) (K89_pxrlr cal k) (doneK P results89)))
noncomputable def K89_prlrllr (cal:Cal) (k:Nat) (m1:Nat):KR:=(cutK (Lv.b (Lv.a (Lv.a (Lv.b (Lv.a (Lv.b (A 89))))))).c (codeE P cal (codeF P cal m1) none 89 (cR (cR (cL (cL (cR (cL (cR code89))))))) (Lv.b (Lv.b (Lv.a (Lv.a (Lv.b (Lv.a (Lv.b (A 89)))))))) (K89_prlrl cal k m1) (K89_pxrlr cal k) (doneK P results89)))
noncomputable def K89_pxrlrllrl (cal:Cal) (k:Nat) (m1:Nat):XR:=(upX 1 (K89_prlrllr cal k m1) (K89_pxrlr cal k))
noncomputable def K89_prlrllrll (cal:Cal) (k:Nat) (m1:Nat):KR:=(cutK (Lv.a (Lv.a (Lv.b (Lv.a (Lv.a (Lv.b (Lv.a (Lv.b (A 89))))))))).c (codeE P cal (codeF P cal m1) none 89 (cR (cL (cL (cR (cL (cL (cR (cL (cR code89))))))))) (Lv.b (Lv.a (Lv.a (Lv.b (Lv.a (Lv.a (Lv.b (Lv.a (Lv.b (A 89)))))))))) (K89_prlrllr cal k m1) (K89_pxrlrllrl cal k m1) (doneK P results89)))
noncomputable def K89_prlrllrllr (cal:Cal) (k:Nat) (m1:Nat):KR:=(cutK (Lv.b (Lv.a (Lv.a (Lv.b (Lv.a (Lv.a (Lv.b (Lv.a (Lv.b (A 89)))))))))).c (codeE P cal (codeF P cal m1) none 89 (cR (cR (cL (cL (cR (cL (cL (cR (cL (cR code89)))))))))) (Lv.b (Lv.b (Lv.a (Lv.a (Lv.b (Lv.a (Lv.a (Lv.b (Lv.a (Lv.b (A 89))))))))))) (K89_prlrllr cal k m1) (K89_pxrlrllrl cal k m1) (doneK P results89)))
noncomputable def K89_prlrllrllrrl (cal:Cal) (k:Nat) (m1:Nat):KR:=(cutK (Lv.a (Lv.b (Lv.b (Lv.a (Lv.a (Lv.b (Lv.a (Lv.a (Lv.b (Lv.a (Lv.b (A 89)))))))))))).c (codeE P cal (codeF P cal m1) none 89 (cR (cL (cR (cR (cL (cL (cR (cL (cL (cR (cL (cR code89)))))))))))) (Lv.b (Lv.a (Lv.b (Lv.b (Lv.a (Lv.a (Lv.b (Lv.a (Lv.a (Lv.b (Lv.a (Lv.b (A 89))))))))))))) (K89_prlrllr cal k m1) (K89_pxrlrllrl cal k m1) (doneK P results89)))
noncomputable def K89_prr (cal:Cal) (k:Nat):KR:=(cutK (Lv.b (Lv.b (A 89))).c (codeE P cal (codeF P cal k) none 89 (cR (cR (cR code89))) (Lv.b (Lv.b (Lv.b (A 89)))) (doneK P results89) X0 (doneK P results89)))
noncomputable def E89_1 (cal:Cal) (k m1:Nat):KR:=codeE P cal (codeF P cal m1) none 89 (cL (cL (cR (cL (cR code89))))) (Lv.a (Lv.a (Lv.b (Lv.a (Lv.b (A 89)))))) (K89_prlrl cal k m1) (K89_pxrlr cal k) (doneK P results89)
noncomputable def R89_1 (cal:Cal) (k m1:Nat):V4:=fun u1 u2 u3 u7 H n=>codeF P cal m1 (Lv.a (Lv.b (Lv.a (Lv.b (A 89))))) none 89 (cL (cR (cL (cR code89)))) (K89_pr cal k) (K89_pxrlr cal k) (doneK P results89) (Tr.set (Tr.set (Tr.set (Tr.set Tr.nil 7 (some u7)) 3 (some u3)) 2 (some u2)) 1 (some u1)) H n []
noncomputable def B89_1 (cal:Cal) (k m1:Nat) (b1:V4) (u1 u2 u3 u7:Value) (H:Hp) (n:Nat):Res:=
bindO (fieldAddrV P 26 u3 1) fun v_7=>
bindO (addrV v_7) fun a_9=>bindO (loadV P H 23 a_9) fun v_8=>
bindO (lenV P 23 v_8) fun v_a=>
binK P .lss 3 (.tmp 9) (.tmp 12) u7 v_a fun v_b=>
ifK v_b (
bindO (fieldAddrV P 26 u3 1) fun v_c=>
bindO (addrV v_c) fun a_e=>bindO (loadV P H 23 a_e) fun v_d=>
bindO (indexAddrV P 23 v_d u7) fun v_g=>
bindO (addrV v_g) fun a_i=>bindO (loadV P H 101 a_i) fun v_h=>
allocK P 101 H n fun v_j H_k n_l=>
bindO (storeP P 101 v_j v_h H_k) fun H_n=>
bindO (fieldAddrV P 101 v_j 0) fun v_o=>
bindO (addrV v_o) fun a_q=>bindO (loadV P H_n 3 a_q) fun v_p=>
binK P .eql 3 (.tmp 22) (.tmp 23) v_p u1 fun v_s=>
guardK v_s true (fun k_u=>
bindO (fieldAddrV P 101 v_j 1) fun v_y=>
k_u v_y H_n n_l) H_n n_l fun v_v H_w n_x=>
guardK v_s true (fun k_z=>
bindO (addrV v_v) fun a_14=>bindO (loadV P H_w 3 a_14) fun v_13=>
k_z v_13 H_w n_x) H_w n_x fun v_10 H_11 n_12=>
guardK v_s true (fun k_15=>
k_15 u2 H_11 n_12) H_11 n_12 fun v_16 H_17 n_18=>
guardK v_s true (fun k_1a=>
binK P .eql 3 (.tmp 27) (.tmp 28) v_10 v_16 fun v_1e=>
k_1a v_1e H_17 n_18) H_17 n_18 fun v_1b H_1c n_1d=>
bindO (pickV v_s v_1b (.bool false)) fun v_1f=>
guardK v_1f false (fun k_1h=>
bindO (fieldAddrV P 101 v_j 0) fun v_1l=>
k_1h v_1l H_1c n_1d) H_1c n_1d fun v_1i H_1j n_1k=>
guardK v_1f false (fun k_1m=>
bindO (addrV v_1i) fun a_1r=>bindO (loadV P H_1j 3 a_1r) fun v_1q=>
k_1m v_1q H_1j n_1k) H_1j n_1k fun v_1n H_1o n_1p=>
guardK v_1f false (fun k_1s=>
k_1s u2 H_1o n_1p) H_1o n_1p fun v_1t H_1u n_1v=>
guardK v_1f false (fun k_1x=>
binK P .eql 3 (.tmp 33) (.tmp 34) v_1n v_1t fun v_21=>
k_1x v_21 H_1u n_1v) H_1u n_1v fun v_1y H_1z n_20=>
guardK v_1f false (fun k_22=>
k_22 v_1y H_1z n_20) H_1z n_20 fun v_23 H_24 n_25=>
guardK v_23 true (fun k_27=>
bindO (fieldAddrV P 101 v_j 1) fun v_2b=>
k_27 v_2b H_24 n_25) H_24 n_25 fun v_28 H_29 n_2a=>
guardK v_23 true (fun k_2c=>
bindO (addrV v_28) fun a_2h=>bindO (loadV P H_29 3 a_2h) fun v_2g=>
k_2c v_2g H_29 n_2a) H_29 n_2a fun v_2d H_2e n_2f=>
guardK v_23 true (fun k_2i=>
k_2i u1 H_2e n_2f) H_2e n_2f fun v_2j H_2k n_2l=>
guardK v_23 true (fun k_2n=>
binK P .eql 3 (.tmp 38) (.tmp 39) v_2d v_2j fun v_2r=>
k_2n v_2r H_2k n_2l) H_2k n_2l fun v_2o H_2p n_2q=>
guardK v_1f false (fun k_2s=>
bindO (pickV v_23 v_2o (.bool false)) fun v_2w=>
k_2s v_2w H_2p n_2q) H_2p n_2q fun v_2t H_2u n_2v=>
bindO (pickV v_1f (.bool true) v_2t) fun v_2x=>
ifK v_2x (
some ((.bool true),H_2u,n_2v)) (
binK P .add 3 (.tmp 14) (.const (.int .i64 1)) u7 (.int .i64 1) fun v_30=>
b1 u1 u2 u3 v_30 H_2u n_2v)) (
some ((.bool false),H,n))
noncomputable def C89_1 (cal:Cal) (k m1:Nat) (b1:V4) (u1 u2 u3 u7:Value) (H:Hp) (n:Nat):Res:=B89_1 cal k m1 b1 u1 u2 u3 u7 H n
noncomputable def S89_1 (cal:Cal) (k:Nat):Nat→V4:=fun m=>Nat.rec (motive:=fun _=>V4) (C89_1 cal k 0 (fun _ _ _ _ _ _=>none)) (fun m ih=>C89_1 cal k (m+1) ih) m
theorem h89_1 (cal:Cal) (k m1:Nat) (u1 u2 u3 u7:Value) (H:Hp) (n:Nat):labK (E89_1 cal k m1) (Tr.set (Tr.set (Tr.set (Tr.set Tr.nil 7 (some u7)) 3 (some u3)) 2 (some u2)) 1 (some u1)) H n []=C89_1 cal k m1 (R89_1 cal k m1) u1 u2 u3 u7 H n:=by
  refine Eq.trans (b:=B89_1 cal k m1 (R89_1 cal k m1) u1 u2 u3 u7 H n) (by kernel_rfl) ?_
  rw[C89_1]
theorem q89_1 (cal:Cal) (k:Nat):∀(m:Nat) (u1 u2 u3 u7:Value) (H:Hp) (n:Nat),labK (E89_1 cal k m) (Tr.set (Tr.set (Tr.set (Tr.set Tr.nil 7 (some u7)) 3 (some u3)) 2 (some u2)) 1 (some u1)) H n []=S89_1 cal k m u1 u2 u3 u7 H n
  | 0,u1,u2,u3,u7,H,n=>by
    rw[h89_1]
    have e:R89_1 cal k 0=fun _ _ _ _ _ _=>none:=by funext u1 u2 u3 u7 H n; kernel_rfl
    rw[e]; rfl
  | m+1,u1,u2,u3,u7,H,n=>by
    rw[h89_1]
    have e:R89_1 cal k (m+1)=S89_1 cal k m:=by
      funext u1 u2 u3 u7 H n
      have e:R89_1 cal k (m+1) u1 u2 u3 u7 H n=labK (E89_1 cal k m) (Tr.set (Tr.set (Tr.set (Tr.set Tr.nil 7 (some u7)) 3 (some u3)) 2 (some u2)) 1 (some u1)) H n []:=by kernel_rfl
      rw[e]; exact q89_1 ..
    rw[e]; rfl
noncomputable def B89_0 (cal:Cal) (k:Nat) (j1:V4) (v0 v1 v2:Value) (H:Hp) (n:Nat):Res:=
boxK 26 v0 H n fun v_1 H_2 n_3=>
j1 v1 v2 v_1 (.int .i64 0) H_2 n_3
noncomputable def C89_0 (cal:Cal) (k:Nat) (v0 v1 v2:Value) (H:Hp) (n:Nat):Res:=B89_0 cal k (S89_1 cal k k) v0 v1 v2 H n
theorem h89_0 (cal:Cal) (k:Nat) (v0 v1 v2:Value) (H:Hp) (n:Nat):bodyE P cal A (k+1) 89 [v0,v1,v2] H n=C89_0 cal k v0 v1 v2 H n:=by
  have h:bodyE P cal A (k+1) 89 [v0,v1,v2] H n=B89_0 cal k (fun u1 u2 u3 u7 H n=>labK (E89_1 cal k k) (Tr.set (Tr.set (Tr.set (Tr.set Tr.nil 7 (some u7)) 3 (some u3)) 2 (some u2)) 1 (some u1)) H n []) v0 v1 v2 H n:=by
    rw[body_eq (fn:=Go.Proofs.Try.f89) (c:=code89) (rs:=results89) (by kernel_rfl) (by kernel_rfl) (by kernel_rfl) (by kernel_rfl)]
    kernel_rfl
  rw[h,C89_0]
  have e1:(fun u1 u2 u3 u7 H n=>labK (E89_1 cal k k) (Tr.set (Tr.set (Tr.set (Tr.set Tr.nil 7 (some u7)) 3 (some u3)) 2 (some u2)) 1 (some u1)) H n [])=(S89_1 cal k k):=by funext u1 u2 u3 u7 H n; exact q89_1 ..
  rw[e1]
noncomputable def code91:Code:=codeOf 91
noncomputable def results91:List ResultVar:=resOf 91
noncomputable def K91_p (cal:Cal) (k:Nat):KR:=(cutK (A 91).c (codeE P cal (codeF P cal k) none 91 (cR code91) (Lv.b (A 91)) (doneK P results91) X0 (doneK P results91)))
noncomputable def K91_pr (cal:Cal) (k:Nat):KR:=(cutK (Lv.b (A 91)).c (codeE P cal (codeF P cal k) none 91 (cR (cR code91)) (Lv.b (Lv.b (A 91))) (doneK P results91) X0 (doneK P results91)))
noncomputable def K91_prl (cal:Cal) (k:Nat):KR:=(cutK (Lv.a (Lv.b (A 91))).c (codeE P cal (codeF P cal k) none 91 (cR (cL (cR code91))) (Lv.b (Lv.a (Lv.b (A 91)))) (K91_pr cal k) X0 (doneK P results91)))
noncomputable def K91_pxrlr (cal:Cal) (k:Nat):XR:=(upX 0 (K91_pr cal k) X0)
noncomputable def K91_prlrl (cal:Cal) (k:Nat) (m1:Nat):KR:=(fun T H n D=>codeF P cal m1 (Lv.a (Lv.b (Lv.a (Lv.b (A 91))))) none 91 (cL (cR (cL (cR code91)))) (K91_pr cal k) (K91_pxrlr cal k) (doneK P results91) (cutT (Lv.a (Lv.b (Lv.a (Lv.b (A 91))))).c T) H n D)
noncomputable def K91_prlrll (cal:Cal) (k:Nat) (m1:Nat):KR:=(cutK (Lv.a (Lv.a (Lv.b (Lv.a (Lv.b (A 91)))))).c (codeE P cal (codeF P cal m1) none 91 (cR (cL (cL (cR (cL (cR code91)))))) (Lv.b (Lv.a (Lv.a (Lv.b (Lv.a (Lv.b (A 91))))))) (K91_prlrl cal k m1) (K91_pxrlr cal k) (doneK P results91)))
noncomputable def K91_prlrllr (cal:Cal) (k:Nat) (m1:Nat):KR:=(cutK (Lv.b (Lv.a (Lv.a (Lv.b (Lv.a (Lv.b (A 91))))))).c (codeE P cal (codeF P cal m1) none 91 (cR (cR (cL (cL (cR (cL (cR code91))))))) (Lv.b (Lv.b (Lv.a (Lv.a (Lv.b (Lv.a (Lv.b (A 91)))))))) (K91_prlrl cal k m1) (K91_pxrlr cal k) (doneK P results91)))
noncomputable def K91_prlrllrr (cal:Cal) (k:Nat) (m1:Nat):KR:=(cutK (Lv.b (Lv.b (Lv.a (Lv.a (Lv.b (Lv.a (Lv.b (A 91)))))))).c (codeE P cal (codeF P cal m1) none 91 (cR (cR (cR (cL (cL (cR (cL (cR code91)))))))) (Lv.b (Lv.b (Lv.b (Lv.a (Lv.a (Lv.b (Lv.a (Lv.b (A 91))))))))) (K91_prlrl cal k m1) (K91_pxrlr cal k) (doneK P results91)))
noncomputable def K91_pxrlrllrrl (cal:Cal) (k:Nat) (m1:Nat):XR:=(upX 1 (K91_prlrllrr cal k m1) (K91_pxrlr cal k))
noncomputable def K91_prlrllrrll (cal:Cal) (k:Nat) (m1:Nat):KR:=(cutK (Lv.a (Lv.a (Lv.b (Lv.b (Lv.a (Lv.a (Lv.b (Lv.a (Lv.b (A 91)))))))))).c (codeE P cal (codeF P cal m1) none 91 (cR (cL (cL (cR (cR (cL (cL (cR (cL (cR code91)))))))))) (Lv.b (Lv.a (Lv.a (Lv.b (Lv.b (Lv.a (Lv.a (Lv.b (Lv.a (Lv.b (A 91))))))))))) (K91_prlrllrr cal k m1) (K91_pxrlrllrrl cal k m1) (doneK P results91)))
noncomputable def K91_prlrllrrllr (cal:Cal) (k:Nat) (m1:Nat):KR:=(cutK (Lv.b (Lv.a (Lv.a (Lv.b (Lv.b (Lv.a (Lv.a (Lv.b (Lv.a (Lv.b (A 91))))))))))).c (codeE P cal (codeF P cal m1) none 91 (cR (cR (cL (cL (cR (cR (cL (cL (cR (cL (cR code91))))))))))) (Lv.b (Lv.b (Lv.a (Lv.a (Lv.b (Lv.b (Lv.a (Lv.a (Lv.b (Lv.a (Lv.b (A 91)))))))))))) (K91_prlrllrr cal k m1) (K91_pxrlrllrrl cal k m1) (doneK P results91)))
noncomputable def K91_prlrllrrllrrl (cal:Cal) (k:Nat) (m1:Nat):KR:=(cutK (Lv.a (Lv.b (Lv.b (Lv.a (Lv.a (Lv.b (Lv.b (Lv.a (Lv.a (Lv.b (Lv.a (Lv.b (A 91))))))))))))).c (codeE P cal (codeF P cal m1) none 91 (cR (cL (cR (cR (cL (cL (cR (cR (cL (cL (cR (cL (cR code91))))))))))))) (Lv.b (Lv.a (Lv.b (Lv.b (Lv.a (Lv.a (Lv.b (Lv.b (Lv.a (Lv.a (Lv.b (Lv.a (Lv.b (A 91)))))))))))))) (K91_prlrllrr cal k m1) (K91_pxrlrllrrl cal k m1) (doneK P results91)))
noncomputable def K91_prr (cal:Cal) (k:Nat):KR:=(cutK (Lv.b (Lv.b (A 91))).c (codeE P cal (codeF P cal k) none 91 (cR (cR (cR code91))) (Lv.b (Lv.b (Lv.b (A 91)))) (doneK P results91) X0 (doneK P results91)))
noncomputable def E91_1 (cal:Cal) (k m1:Nat):KR:=codeE P cal (codeF P cal m1) none 91 (cL (cL (cR (cL (cR code91))))) (Lv.a (Lv.a (Lv.b (Lv.a (Lv.b (A 91)))))) (K91_prlrl cal k m1) (K91_pxrlr cal k) (doneK P results91)
noncomputable def R91_1 (cal:Cal) (k m1:Nat):V4:=fun u1 u7 u8 u9 H n=>codeF P cal m1 (Lv.a (Lv.b (Lv.a (Lv.b (A 91))))) none 91 (cL (cR (cL (cR code91)))) (K91_pr cal k) (K91_pxrlr cal k) (doneK P results91) (Tr.set (Tr.set (Tr.set (Tr.set Tr.nil 9 (some u9)) 8 (some u8)) 7 (some u7)) 1 (some u1)) H n []
noncomputable def B91_1 (cal:Cal) (k m1:Nat) (b1:V4) (u1 u7 u8 u9:Value) (H:Hp) (n:Nat):Res:=
binK P .lss 3 (.tmp 9) (.tmp 8) u9 u8 fun v_5=>
ifK v_5 (
bindO (indexAddrV P 31 u7 u9) fun v_6=>
bindO (addrV v_6) fun a_8=>bindO (loadV P H 90 a_8) fun v_7=>
allocK P 90 H n fun v_9 H_a n_b=>
bindO (storeP P 90 v_9 v_7 H_a) fun H_d=>
bindO (addrV v_9) fun a_g=>bindO (loadV P H_d 90 a_g) fun v_f=>
callVK P cal u1 [v_f] H_d n_b fun v_h H_i n_j=>
bindO (pureSem P v_h (Op.unary UnOp.not v_h)) fun v_k=>
ifK v_k (
some ((.bool false),H_i,n_j)) (
binK P .add 3 (.tmp 9) (.const (.int .i64 1)) u9 (.int .i64 1) fun v_m=>
b1 u1 u7 u8 v_m H_i n_j)) (
some ((.bool true),H,n))
noncomputable def C91_1 (cal:Cal) (k m1:Nat) (b1:V4) (u1 u7 u8 u9:Value) (H:Hp) (n:Nat):Res:=B91_1 cal k m1 b1 u1 u7 u8 u9 H n
noncomputable def S91_1 (cal:Cal) (k:Nat):Nat→V4:=fun m=>Nat.rec (motive:=fun _=>V4) (C91_1 cal k 0 (fun _ _ _ _ _ _=>none)) (fun m ih=>C91_1 cal k (m+1) ih) m
theorem h91_1 (cal:Cal) (k m1:Nat) (u1 u7 u8 u9:Value) (H:Hp) (n:Nat):labK (E91_1 cal k m1) (Tr.set (Tr.set (Tr.set (Tr.set Tr.nil 9 (some u9)) 8 (some u8)) 7 (some u7)) 1 (some u1)) H n []=C91_1 cal k m1 (R91_1 cal k m1) u1 u7 u8 u9 H n:=by
  refine Eq.trans (b:=B91_1 cal k m1 (R91_1 cal k m1) u1 u7 u8 u9 H n) (by kernel_rfl) ?_
  rw[C91_1]
theorem q91_1 (cal:Cal) (k:Nat):∀(m:Nat) (u1 u7 u8 u9:Value) (H:Hp) (n:Nat),labK (E91_1 cal k m) (Tr.set (Tr.set (Tr.set (Tr.set Tr.nil 9 (some u9)) 8 (some u8)) 7 (some u7)) 1 (some u1)) H n []=S91_1 cal k m u1 u7 u8 u9 H n
  | 0,u1,u7,u8,u9,H,n=>by
    rw[h91_1]
    have e:R91_1 cal k 0=fun _ _ _ _ _ _=>none:=by funext u1 u7 u8 u9 H n; kernel_rfl
    rw[e]; rfl
  | m+1,u1,u7,u8,u9,H,n=>by
    rw[h91_1]
    have e:R91_1 cal k (m+1)=S91_1 cal k m:=by
      funext u1 u7 u8 u9 H n
      have e:R91_1 cal k (m+1) u1 u7 u8 u9 H n=labK (E91_1 cal k m) (Tr.set (Tr.set (Tr.set (Tr.set Tr.nil 9 (some u9)) 8 (some u8)) 7 (some u7)) 1 (some u1)) H n []:=by kernel_rfl
      rw[e]; exact q91_1 ..
    rw[e]; rfl
noncomputable def B91_0 (cal:Cal) (k:Nat) (j1:V4) (v0 v1:Value) (H:Hp) (n:Nat):Res:=
bindO (lenV P 31 v0) fun v_3=>
j1 v1 v0 v_3 (.int .i64 0) H n
noncomputable def C91_0 (cal:Cal) (k:Nat) (v0 v1:Value) (H:Hp) (n:Nat):Res:=B91_0 cal k (S91_1 cal k k) v0 v1 H n
theorem h91_0 (cal:Cal) (k:Nat) (v0 v1:Value) (H:Hp) (n:Nat):bodyE P cal A (k+1) 91 [v0,v1] H n=C91_0 cal k v0 v1 H n:=by
  have h:bodyE P cal A (k+1) 91 [v0,v1] H n=B91_0 cal k (fun u1 u7 u8 u9 H n=>labK (E91_1 cal k k) (Tr.set (Tr.set (Tr.set (Tr.set Tr.nil 9 (some u9)) 8 (some u8)) 7 (some u7)) 1 (some u1)) H n []) v0 v1 H n:=by
    rw[body_eq (fn:=Go.Proofs.Try.f91) (c:=code91) (rs:=results91) (by kernel_rfl) (by kernel_rfl) (by kernel_rfl) (by kernel_rfl)]
    kernel_rfl
  rw[h,C91_0]
  have e1:(fun u1 u7 u8 u9 H n=>labK (E91_1 cal k k) (Tr.set (Tr.set (Tr.set (Tr.set Tr.nil 9 (some u9)) 8 (some u8)) 7 (some u7)) 1 (some u1)) H n [])=(S91_1 cal k k):=by funext u1 u7 u8 u9 H n; exact q91_1 ..
  rw[e1]
noncomputable def code92:Code:=codeOf 92
noncomputable def results92:List ResultVar:=resOf 92
noncomputable def K92_p (cal:Cal) (k:Nat):KR:=(cutK (A 92).c (codeE P cal (codeF P cal k) none 92 (cR code92) (Lv.b (A 92)) (doneK P results92) X0 (doneK P results92)))
noncomputable def K92_pr (cal:Cal) (k:Nat):KR:=(cutK (Lv.b (A 92)).c (codeE P cal (codeF P cal k) none 92 (cR (cR code92)) (Lv.b (Lv.b (A 92))) (doneK P results92) X0 (doneK P results92)))
noncomputable def B92_0 (cal:Cal) (k:Nat) (v0:Value) (H:Hp) (n:Nat):Res:=
boxK 90 v0 H n fun v_1 H_2 n_3=>
bindO (fieldAddrV P 90 v_1 0) fun v_5=>
bindO (addrV v_5) fun a_7=>bindO (loadV P H_2 3 a_7) fun v_6=>
binK P .geq 3 (.tmp 4) (.const (.int .i64 0)) v_6 (.int .i64 0) fun v_8=>
guardK v_8 true (fun k_a=>
bindO (fieldAddrV P 90 v_1 0) fun v_e=>
k_a v_e H_2 n_3) H_2 n_3 fun v_b H_c n_d=>
guardK v_8 true (fun k_f=>
bindO (addrV v_b) fun a_k=>bindO (loadV P H_c 3 a_k) fun v_j=>
k_f v_j H_c n_d) H_c n_d fun v_g H_h n_i=>
guardK v_8 true (fun k_l=>
bindO (fieldAddrV P 90 v_1 1) fun v_p=>
k_l v_p H_h n_i) H_h n_i fun v_m H_n n_o=>
guardK v_8 true (fun k_q=>
bindO (addrV v_m) fun a_v=>bindO (loadV P H_n 3 a_v) fun v_u=>
k_q v_u H_n n_o) H_n n_o fun v_r H_s n_t=>
guardK v_8 true (fun k_w=>
binK P .leq 3 (.tmp 8) (.tmp 10) v_g v_r fun v_10=>
k_w v_10 H_s n_t) H_s n_t fun v_x H_y n_z=>
bindO (pickV v_8 v_x (.bool false)) fun v_11=>
guardK v_11 true (fun k_13=>
bindO (fieldAddrV P 90 v_1 1) fun v_17=>
k_13 v_17 H_y n_z) H_y n_z fun v_14 H_15 n_16=>
guardK v_11 true (fun k_18=>
bindO (addrV v_14) fun a_1d=>bindO (loadV P H_15 3 a_1d) fun v_1c=>
k_18 v_1c H_15 n_16) H_15 n_16 fun v_19 H_1a n_1b=>
guardK v_11 true (fun k_1e=>
binK P .leq 3 (.tmp 15) (.const (.int .i64 1000)) v_19 (.int .i64 1000) fun v_1i=>
k_1e v_1i H_1a n_1b) H_1a n_1b fun v_1f H_1g n_1h=>
bindO (pickV v_11 v_1f (.bool false)) fun v_1j=>
some (v_1j,H_1g,n_1h)
noncomputable def C92_0 (cal:Cal) (k:Nat) (v0:Value) (H:Hp) (n:Nat):Res:=B92_0 cal k v0 H n
theorem h92_0 (cal:Cal) (k:Nat) (v0:Value) (H:Hp) (n:Nat):bodyE P cal A (k+1) 92 [v0] H n=C92_0 cal k v0 H n:=by
  have h:bodyE P cal A (k+1) 92 [v0] H n=B92_0 cal k v0 H n:=by
    rw[body_eq (fn:=Go.Proofs.Try.f92) (c:=code92) (rs:=results92) (by kernel_rfl) (by kernel_rfl) (by kernel_rfl) (by kernel_rfl)]
    kernel_rfl
  rw[h,C92_0]
noncomputable def code93:Code:=codeOf 93
noncomputable def results93:List ResultVar:=resOf 93
noncomputable def K93_p (cal:Cal) (k:Nat):KR:=(cutK (A 93).c (codeE P cal (codeF P cal k) none 93 (cR code93) (Lv.b (A 93)) (doneK P results93) X0 (doneK P results93)))
noncomputable def K93_pr (cal:Cal) (k:Nat):KR:=(cutK (Lv.b (A 93)).c (codeE P cal (codeF P cal k) none 93 (cR (cR code93)) (Lv.b (Lv.b (A 93))) (doneK P results93) X0 (doneK P results93)))
noncomputable def K93_prl (cal:Cal) (k:Nat):KR:=(cutK (Lv.a (Lv.b (A 93))).c (codeE P cal (codeF P cal k) none 93 (cR (cL (cR code93))) (Lv.b (Lv.a (Lv.b (A 93)))) (K93_pr cal k) X0 (doneK P results93)))
noncomputable def K93_pxrlr (cal:Cal) (k:Nat):XR:=(upX 0 (K93_pr cal k) X0)
noncomputable def K93_prlrl (cal:Cal) (k:Nat) (m1:Nat):KR:=(fun T H n D=>codeF P cal m1 (Lv.a (Lv.b (Lv.a (Lv.b (A 93))))) none 93 (cL (cR (cL (cR code93)))) (K93_pr cal k) (K93_pxrlr cal k) (doneK P results93) (cutT (Lv.a (Lv.b (Lv.a (Lv.b (A 93))))).c T) H n D)
noncomputable def K93_prlrll (cal:Cal) (k:Nat) (m1:Nat):KR:=(cutK (Lv.a (Lv.a (Lv.b (Lv.a (Lv.b (A 93)))))).c (codeE P cal (codeF P cal m1) none 93 (cR (cL (cL (cR (cL (cR code93)))))) (Lv.b (Lv.a (Lv.a (Lv.b (Lv.a (Lv.b (A 93))))))) (K93_prlrl cal k m1) (K93_pxrlr cal k) (doneK P results93)))
noncomputable def K93_prlrllr (cal:Cal) (k:Nat) (m1:Nat):KR:=(cutK (Lv.b (Lv.a (Lv.a (Lv.b (Lv.a (Lv.b (A 93))))))).c (codeE P cal (codeF P cal m1) none 93 (cR (cR (cL (cL (cR (cL (cR code93))))))) (Lv.b (Lv.b (Lv.a (Lv.a (Lv.b (Lv.a (Lv.b (A 93)))))))) (K93_prlrl cal k m1) (K93_pxrlr cal k) (doneK P results93)))
noncomputable def K93_prlrllrr (cal:Cal) (k:Nat) (m1:Nat):KR:=(cutK (Lv.b (Lv.b (Lv.a (Lv.a (Lv.b (Lv.a (Lv.b (A 93)))))))).c (codeE P cal (codeF P cal m1) none 93 (cR (cR (cR (cL (cL (cR (cL (cR code93)))))))) (Lv.b (Lv.b (Lv.b (Lv.a (Lv.a (Lv.b (Lv.a (Lv.b (A 93))))))))) (K93_prlrl cal k m1) (K93_pxrlr cal k) (doneK P results93)))
noncomputable def K93_pxrlrllrrl (cal:Cal) (k:Nat) (m1:Nat):XR:=(upX 1 (K93_prlrllrr cal k m1) (K93_pxrlr cal k))
noncomputable def K93_prlrllrrll (cal:Cal) (k:Nat) (m1:Nat):KR:=(cutK (Lv.a (Lv.a (Lv.b (Lv.b (Lv.a (Lv.a (Lv.b (Lv.a (Lv.b (A 93)))))))))).c (codeE P cal (codeF P cal m1) none 93 (cR (cL (cL (cR (cR (cL (cL (cR (cL (cR code93)))))))))) (Lv.b (Lv.a (Lv.a (Lv.b (Lv.b (Lv.a (Lv.a (Lv.b (Lv.a (Lv.b (A 93))))))))))) (K93_prlrllrr cal k m1) (K93_pxrlrllrrl cal k m1) (doneK P results93)))
noncomputable def K93_prlrllrrllr (cal:Cal) (k:Nat) (m1:Nat):KR:=(cutK (Lv.b (Lv.a (Lv.a (Lv.b (Lv.b (Lv.a (Lv.a (Lv.b (Lv.a (Lv.b (A 93))))))))))).c (codeE P cal (codeF P cal m1) none 93 (cR (cR (cL (cL (cR (cR (cL (cL (cR (cL (cR code93))))))))))) (Lv.b (Lv.b (Lv.a (Lv.a (Lv.b (Lv.b (Lv.a (Lv.a (Lv.b (Lv.a (Lv.b (A 93)))))))))))) (K93_prlrllrr cal k m1) (K93_pxrlrllrrl cal k m1) (doneK P results93)))
noncomputable def K93_prlrllrrllrrl (cal:Cal) (k:Nat) (m1:Nat):KR:=(cutK (Lv.a (Lv.b (Lv.b (Lv.a (Lv.a (Lv.b (Lv.b (Lv.a (Lv.a (Lv.b (Lv.a (Lv.b (A 93))))))))))))).c (codeE P cal (codeF P cal m1) none 93 (cR (cL (cR (cR (cL (cL (cR (cR (cL (cL (cR (cL (cR code93))))))))))))) (Lv.b (Lv.a (Lv.b (Lv.b (Lv.a (Lv.a (Lv.b (Lv.b (Lv.a (Lv.a (Lv.b (Lv.a (Lv.b (A 93)))))))))))))) (K93_prlrllrr cal k m1) (K93_pxrlrllrrl cal k m1) (doneK P results93)))
noncomputable def K93_prr (cal:Cal) (k:Nat):KR:=(cutK (Lv.b (Lv.b (A 93))).c (codeE P cal (codeF P cal k) none 93 (cR (cR (cR code93))) (Lv.b (Lv.b (Lv.b (A 93)))) (doneK P results93) X0 (doneK P results93)))
noncomputable def E93_1 (cal:Cal) (k m1:Nat):KR:=codeE P cal (codeF P cal m1) none 93 (cL (cL (cR (cL (cR code93))))) (Lv.a (Lv.a (Lv.b (Lv.a (Lv.b (A 93)))))) (K93_prlrl cal k m1) (K93_pxrlr cal k) (doneK P results93)
noncomputable def R93_1 (cal:Cal) (k m1:Nat):V4:=fun u1 u7 u8 u9 H n=>codeF P cal m1 (Lv.a (Lv.b (Lv.a (Lv.b (A 93))))) none 93 (cL (cR (cL (cR code93)))) (K93_pr cal k) (K93_pxrlr cal k) (doneK P results93) (Tr.set (Tr.set (Tr.set (Tr.set Tr.nil 9 (some u9)) 8 (some u8)) 7 (some u7)) 1 (some u1)) H n []
noncomputable def B93_1 (cal:Cal) (k m1:Nat) (b1:V4) (u1 u7 u8 u9:Value) (H:Hp) (n:Nat):Res:=
binK P .lss 3 (.tmp 9) (.tmp 8) u9 u8 fun v_5=>
ifK v_5 (
bindO (indexAddrV P 32 u7 u9) fun v_6=>
bindO (addrV v_6) fun a_8=>bindO (loadV P H 88 a_8) fun v_7=>
allocK P 88 H n fun v_9 H_a n_b=>
bindO (storeP P 88 v_9 v_7 H_a) fun H_d=>
bindO (addrV v_9) fun a_g=>bindO (loadV P H_d 88 a_g) fun v_f=>
callVK P cal u1 [v_f] H_d n_b fun v_h H_i n_j=>
bindO (pureSem P v_h (Op.unary UnOp.not v_h)) fun v_k=>
ifK v_k (
some ((.bool false),H_i,n_j)) (
binK P .add 3 (.tmp 9) (.const (.int .i64 1)) u9 (.int .i64 1) fun v_m=>
b1 u1 u7 u8 v_m H_i n_j)) (
some ((.bool true),H,n))
noncomputable def C93_1 (cal:Cal) (k m1:Nat) (b1:V4) (u1 u7 u8 u9:Value) (H:Hp) (n:Nat):Res:=B93_1 cal k m1 b1 u1 u7 u8 u9 H n
noncomputable def S93_1 (cal:Cal) (k:Nat):Nat→V4:=fun m=>Nat.rec (motive:=fun _=>V4) (C93_1 cal k 0 (fun _ _ _ _ _ _=>none)) (fun m ih=>C93_1 cal k (m+1) ih) m
theorem h93_1 (cal:Cal) (k m1:Nat) (u1 u7 u8 u9:Value) (H:Hp) (n:Nat):labK (E93_1 cal k m1) (Tr.set (Tr.set (Tr.set (Tr.set Tr.nil 9 (some u9)) 8 (some u8)) 7 (some u7)) 1 (some u1)) H n []=C93_1 cal k m1 (R93_1 cal k m1) u1 u7 u8 u9 H n:=by
  refine Eq.trans (b:=B93_1 cal k m1 (R93_1 cal k m1) u1 u7 u8 u9 H n) (by kernel_rfl) ?_
  rw[C93_1]
theorem q93_1 (cal:Cal) (k:Nat):∀(m:Nat) (u1 u7 u8 u9:Value) (H:Hp) (n:Nat),labK (E93_1 cal k m) (Tr.set (Tr.set (Tr.set (Tr.set Tr.nil 9 (some u9)) 8 (some u8)) 7 (some u7)) 1 (some u1)) H n []=S93_1 cal k m u1 u7 u8 u9 H n
  | 0,u1,u7,u8,u9,H,n=>by
    rw[h93_1]
    have e:R93_1 cal k 0=fun _ _ _ _ _ _=>none:=by funext u1 u7 u8 u9 H n; kernel_rfl
    rw[e]; rfl
  | m+1,u1,u7,u8,u9,H,n=>by
    rw[h93_1]
    have e:R93_1 cal k (m+1)=S93_1 cal k m:=by
      funext u1 u7 u8 u9 H n
      have e:R93_1 cal k (m+1) u1 u7 u8 u9 H n=labK (E93_1 cal k m) (Tr.set (Tr.set (Tr.set (Tr.set Tr.nil 9 (some u9)) 8 (some u8)) 7 (some u7)) 1 (some u1)) H n []:=by kernel_rfl
      rw[e]; exact q93_1 ..
    rw[e]; rfl
noncomputable def B93_0 (cal:Cal) (k:Nat) (j1:V4) (v0 v1:Value) (H:Hp) (n:Nat):Res:=
bindO (lenV P 32 v0) fun v_3=>
j1 v1 v0 v_3 (.int .i64 0) H n
noncomputable def C93_0 (cal:Cal) (k:Nat) (v0 v1:Value) (H:Hp) (n:Nat):Res:=B93_0 cal k (S93_1 cal k k) v0 v1 H n
theorem h93_0 (cal:Cal) (k:Nat) (v0 v1:Value) (H:Hp) (n:Nat):bodyE P cal A (k+1) 93 [v0,v1] H n=C93_0 cal k v0 v1 H n:=by
  have h:bodyE P cal A (k+1) 93 [v0,v1] H n=B93_0 cal k (fun u1 u7 u8 u9 H n=>labK (E93_1 cal k k) (Tr.set (Tr.set (Tr.set (Tr.set Tr.nil 9 (some u9)) 8 (some u8)) 7 (some u7)) 1 (some u1)) H n []) v0 v1 H n:=by
    rw[body_eq (fn:=Go.Proofs.Try.f93) (c:=code93) (rs:=results93) (by kernel_rfl) (by kernel_rfl) (by kernel_rfl) (by kernel_rfl)]
    kernel_rfl
  rw[h,C93_0]
  have e1:(fun u1 u7 u8 u9 H n=>labK (E93_1 cal k k) (Tr.set (Tr.set (Tr.set (Tr.set Tr.nil 9 (some u9)) 8 (some u8)) 7 (some u7)) 1 (some u1)) H n [])=(S93_1 cal k k):=by funext u1 u7 u8 u9 H n; exact q93_1 ..
  rw[e1]
noncomputable def code94:Code:=codeOf 94
noncomputable def results94:List ResultVar:=resOf 94
noncomputable def K94_p (cal:Cal) (k:Nat):KR:=(cutK (A 94).c (codeE P cal (codeF P cal k) none 94 (cR code94) (Lv.b (A 94)) (doneK P results94) X0 (doneK P results94)))
noncomputable def K94_pr (cal:Cal) (k:Nat):KR:=(cutK (Lv.b (A 94)).c (codeE P cal (codeF P cal k) none 94 (cR (cR code94)) (Lv.b (Lv.b (A 94))) (doneK P results94) X0 (doneK P results94)))
noncomputable def K94_prr (cal:Cal) (k:Nat):KR:=(cutK (Lv.b (Lv.b (A 94))).c (codeE P cal (codeF P cal k) none 94 (cR (cR (cR code94))) (Lv.b (Lv.b (Lv.b (A 94)))) (doneK P results94) X0 (doneK P results94)))
noncomputable def K94_prrl (cal:Cal) (k:Nat):KR:=(cutK (Lv.a (Lv.b (Lv.b (A 94)))).c (codeE P cal (codeF P cal k) none 94 (cR (cL (cR (cR code94)))) (Lv.b (Lv.a (Lv.b (Lv.b (A 94))))) (K94_prr cal k) X0 (doneK P results94)))
noncomputable def K94_pxrrlr (cal:Cal) (k:Nat):XR:=(upX 0 (K94_prr cal k) X0)
noncomputable def K94_prrlrl (cal:Cal) (k:Nat) (m1:Nat):KR:=(fun T H n D=>codeF P cal m1 (Lv.a (Lv.b (Lv.a (Lv.b (Lv.b (A 94)))))) none 94 (cL (cR (cL (cR (cR code94))))) (K94_prr cal k) (K94_pxrrlr cal k) (doneK P results94) (cutT (Lv.a (Lv.b (Lv.a (Lv.b (Lv.b (A 94)))))).c T) H n D)
noncomputable def K94_prrlrll (cal:Cal) (k:Nat) (m1:Nat):KR:=(cutK (Lv.a (Lv.a (Lv.b (Lv.a (Lv.b (Lv.b (A 94))))))).c (codeE P cal (codeF P cal m1) none 94 (cR (cL (cL (cR (cL (cR (cR code94))))))) (Lv.b (Lv.a (Lv.a (Lv.b (Lv.a (Lv.b (Lv.b (A 94)))))))) (K94_prrlrl cal k m1) (K94_pxrrlr cal k) (doneK P results94)))
noncomputable def K94_prrlrllr (cal:Cal) (k:Nat) (m1:Nat):KR:=(cutK (Lv.b (Lv.a (Lv.a (Lv.b (Lv.a (Lv.b (Lv.b (A 94)))))))).c (codeE P cal (codeF P cal m1) none 94 (cR (cR (cL (cL (cR (cL (cR (cR code94)))))))) (Lv.b (Lv.b (Lv.a (Lv.a (Lv.b (Lv.a (Lv.b (Lv.b (A 94))))))))) (K94_prrlrl cal k m1) (K94_pxrrlr cal k) (doneK P results94)))
noncomputable def K94_prrlrllrr (cal:Cal) (k:Nat) (m1:Nat):KR:=(cutK (Lv.b (Lv.b (Lv.a (Lv.a (Lv.b (Lv.a (Lv.b (Lv.b (A 94))))))))).c (codeE P cal (codeF P cal m1) none 94 (cR (cR (cR (cL (cL (cR (cL (cR (cR code94))))))))) (Lv.b (Lv.b (Lv.b (Lv.a (Lv.a (Lv.b (Lv.a (Lv.b (Lv.b (A 94)))))))))) (K94_prrlrl cal k m1) (K94_pxrrlr cal k) (doneK P results94)))
noncomputable def K94_pxrrlrllrrl (cal:Cal) (k:Nat) (m1:Nat):XR:=(upX 1 (K94_prrlrllrr cal k m1) (K94_pxrrlr cal k))
noncomputable def K94_prrlrllrrll (cal:Cal) (k:Nat) (m1:Nat):KR:=(cutK (Lv.a (Lv.a (Lv.b (Lv.b (Lv.a (Lv.a (Lv.b (Lv.a (Lv.b (Lv.b (A 94))))))))))).c (codeE P cal (codeF P cal m1) none 94 (cR (cL (cL (cR (cR (cL (cL (cR (cL (cR (cR code94))))))))))) (Lv.b (Lv.a (Lv.a (Lv.b (Lv.b (Lv.a (Lv.a (Lv.b (Lv.a (Lv.b (Lv.b (A 94)))))))))))) (K94_prrlrllrr cal k m1) (K94_pxrrlrllrrl cal k m1) (doneK P results94)))
noncomputable def K94_prrlrllrrllr (cal:Cal) (k:Nat) (m1:Nat):KR:=(cutK (Lv.b (Lv.a (Lv.a (Lv.b (Lv.b (Lv.a (Lv.a (Lv.b (Lv.a (Lv.b (Lv.b (A 94)))))))))))).c (codeE P cal (codeF P cal m1) none 94 (cR (cR (cL (cL (cR (cR (cL (cL (cR (cL (cR (cR code94)))))))))))) (Lv.b (Lv.b (Lv.a (Lv.a (Lv.b (Lv.b (Lv.a (Lv.a (Lv.b (Lv.a (Lv.b (Lv.b (A 94))))))))))))) (K94_prrlrllrr cal k m1) (K94_pxrrlrllrrl cal k m1) (doneK P results94)))
noncomputable def K94_prrr (cal:Cal) (k:Nat):KR:=(cutK (Lv.b (Lv.b (Lv.b (A 94)))).c (codeE P cal (codeF P cal k) none 94 (cR (cR (cR (cR code94)))) (Lv.b (Lv.b (Lv.b (Lv.b (A 94))))) (doneK P results94) X0 (doneK P results94)))
noncomputable def E94_2 (cal:Cal) (k m1:Nat):KR:=codeE P cal (codeF P cal m1) none 94 (cR (cR (cR (cL (cL (cR (cL (cR (cR code94))))))))) (Lv.b (Lv.b (Lv.b (Lv.a (Lv.a (Lv.b (Lv.a (Lv.b (Lv.b (A 94)))))))))) (K94_prrlrl cal k m1) (K94_pxrrlr cal k) (doneK P results94)
noncomputable def E94_1 (cal:Cal) (k m1:Nat):KR:=codeE P cal (codeF P cal m1) none 94 (cL (cL (cR (cL (cR (cR code94)))))) (Lv.a (Lv.a (Lv.b (Lv.a (Lv.b (Lv.b (A 94))))))) (K94_prrlrl cal k m1) (K94_pxrrlr cal k) (doneK P results94)
noncomputable def R94_1 (cal:Cal) (k m1:Nat):V6:=fun u2 u3 u5 u9 u10 u11 H n=>codeF P cal m1 (Lv.a (Lv.b (Lv.a (Lv.b (Lv.b (A 94)))))) none 94 (cL (cR (cL (cR (cR code94))))) (K94_prr cal k) (K94_pxrrlr cal k) (doneK P results94) (Tr.set (Tr.set (Tr.set (Tr.set (Tr.set (Tr.set Tr.nil 11 (some u11)) 10 (some u10)) 9 (some u9)) 5 (some u5)) 3 (some u3)) 2 (some u2)) H n []
noncomputable def B94_2 (cal:Cal) (k m1:Nat) (b1:V6) (u2 u3 u5 u9 u10 u11:Value) (H:Hp) (n:Nat):Res:=
binK P .add 3 (.tmp 11) (.const (.int .i64 1)) u11 (.int .i64 1) fun v_f=>
b1 u2 u3 u5 u9 u10 v_f H n
noncomputable def C94_2 (cal:Cal) (k m1:Nat) (b1:V6) (u2 u3 u5 u9 u10 u11:Value) (H:Hp) (n:Nat):Res:=B94_2 cal k m1 b1 u2 u3 u5 u9 u10 u11 H n
theorem h94_2 (cal:Cal) (k m1:Nat) (u2 u3 u5 u9 u10 u11:Value) (H:Hp) (n:Nat):labK (E94_2 cal k m1) (Tr.set (Tr.set (Tr.set (Tr.set (Tr.set (Tr.set Tr.nil 11 (some u11)) 10 (some u10)) 9 (some u9)) 5 (some u5)) 3 (some u3)) 2 (some u2)) H n []=C94_2 cal k m1 (R94_1 cal k m1) u2 u3 u5 u9 u10 u11 H n:=by
  refine Eq.trans (b:=B94_2 cal k m1 (R94_1 cal k m1) u2 u3 u5 u9 u10 u11 H n) (by kernel_rfl) ?_
  rw[C94_2]
noncomputable def B94_1 (cal:Cal) (k m1:Nat) (j2:V6) (b1:V6) (u2 u3 u5 u9 u10 u11:Value) (H:Hp) (n:Nat):Res:=
binK P .lss 3 (.tmp 11) (.tmp 10) u11 u10 fun v_e=>
ifK v_e (
bindO (indexAddrV P 32 u9 u11) fun v_h=>
bindO (addrV v_h) fun a_j=>bindO (loadV P H 88 a_j) fun v_i=>
allocK P 88 H n fun v_k H_l n_m=>
bindO (storeP P 88 v_k v_i H_l) fun H_o=>
bindO (addrV v_k) fun a_q=>bindO (loadV P H_o 88 a_q) fun v_p=>
bindO (addrV u3) fun a_s=>bindO (loadV P H_o 88 a_s) fun v_r=>
binK P .eql 88 (.tmp 15) (.tmp 16) v_p v_r fun v_t=>
guardK v_t false (fun k_v=>
bindO (addrV v_k) fun a_10=>bindO (loadV P H_o 88 a_10) fun v_z=>
k_v v_z H_o n_m) H_o n_m fun v_w H_x n_y=>
guardK v_t false (fun k_11=>
bindO (fieldAddrV P 88 u3 1) fun v_15=>
k_11 v_15 H_x n_y) H_x n_y fun v_12 H_13 n_14=>
guardK v_t false (fun k_16=>
bindO (addrV v_12) fun a_1b=>bindO (loadV P H_13 3 a_1b) fun v_1a=>
k_16 v_1a H_13 n_14) H_13 n_14 fun v_17 H_18 n_19=>
guardK v_t false (fun k_1c=>
bindO (fieldAddrV P 88 u3 0) fun v_1g=>
k_1c v_1g H_18 n_19) H_18 n_19 fun v_1d H_1e n_1f=>
guardK v_t false (fun k_1h=>
bindO (addrV v_1d) fun a_1m=>bindO (loadV P H_1e 3 a_1m) fun v_1l=>
k_1h v_1l H_1e n_1f) H_1e n_1f fun v_1i H_1j n_1k=>
guardK v_t false (fun k_1n=>
bindO (buildP P 88 [(0,v_17),(1,v_1i)]) fun v_1r=>
k_1n v_1r H_1j n_1k) H_1j n_1k fun v_1o H_1p n_1q=>
guardK v_t false (fun k_1s=>
binK P .eql 88 (.tmp 19) (.tmp 24) v_w v_1o fun v_1w=>
k_1s v_1w H_1p n_1q) H_1p n_1q fun v_1t H_1u n_1v=>
bindO (pickV v_t (.bool true) v_1t) fun v_1x=>
ifK v_1x (
binK P .add 3 (.tmp 27) (.const (.int .i64 1)) u5 (.int .i64 1) fun v_1z=>
j2 u2 u3 v_1z u9 u10 u11 H_1u n_1v) (
j2 u2 u3 u5 u9 u10 u11 H_1u n_1v)) (
bindO (addrV u2) fun a_22=>bindO (loadV P H 35 a_22) fun v_21=>
bindO (fieldAddrV P 88 u3 0) fun v_23=>
bindO (addrV v_23) fun a_25=>bindO (loadV P H 3 a_25) fun v_24=>
callFK P cal 71 [v_21,v_24] H n fun v_26 H_27 n_28=>
guardK v_26 true (fun k_2a=>
bindO (addrV u2) fun a_2f=>bindO (loadV P H_27 35 a_2f) fun v_2e=>
k_2a v_2e H_27 n_28) H_27 n_28 fun v_2b H_2c n_2d=>
guardK v_26 true (fun k_2g=>
bindO (fieldAddrV P 88 u3 1) fun v_2k=>
k_2g v_2k H_2c n_2d) H_2c n_2d fun v_2h H_2i n_2j=>
guardK v_26 true (fun k_2l=>
bindO (addrV v_2h) fun a_2q=>bindO (loadV P H_2i 3 a_2q) fun v_2p=>
k_2l v_2p H_2i n_2j) H_2i n_2j fun v_2m H_2n n_2o=>
guardK v_26 true (fun k_2r=>
callFK P cal 71 [v_2b,v_2m] H_2n n_2o fun v_2v H_2w n_2x=>
k_2r v_2v H_2w n_2x) H_2n n_2o fun v_2s H_2t n_2u=>
bindO (pickV v_26 v_2s (.bool false)) fun v_2y=>
guardK v_2y true (fun k_30=>
bindO (fieldAddrV P 88 u3 0) fun v_34=>
k_30 v_34 H_2t n_2u) H_2t n_2u fun v_31 H_32 n_33=>
guardK v_2y true (fun k_35=>
bindO (addrV v_31) fun a_3a=>bindO (loadV P H_32 3 a_3a) fun v_39=>
k_35 v_39 H_32 n_33) H_32 n_33 fun v_36 H_37 n_38=>
guardK v_2y true (fun k_3b=>
bindO (fieldAddrV P 88 u3 1) fun v_3f=>
k_3b v_3f H_37 n_38) H_37 n_38 fun v_3c H_3d n_3e=>
guardK v_2y true (fun k_3g=>
bindO (addrV v_3c) fun a_3l=>bindO (loadV P H_3d 3 a_3l) fun v_3k=>
k_3g v_3k H_3d n_3e) H_3d n_3e fun v_3h H_3i n_3j=>
guardK v_2y true (fun k_3m=>
binK P .neq 3 (.tmp 42) (.tmp 44) v_36 v_3h fun v_3q=>
k_3m v_3q H_3i n_3j) H_3i n_3j fun v_3n H_3o n_3p=>
bindO (pickV v_2y v_3n (.bool false)) fun v_3r=>
guardK v_3r true (fun k_3t=>
k_3t u5 H_3o n_3p) H_3o n_3p fun v_3u H_3v n_3w=>
guardK v_3r true (fun k_3y=>
binK P .eql 3 (.tmp 48) (.const (.int .i64 1)) v_3u (.int .i64 1) fun v_42=>
k_3y v_42 H_3v n_3w) H_3v n_3w fun v_3z H_40 n_41=>
bindO (pickV v_3r v_3z (.bool false)) fun v_43=>
some (v_43,H_40,n_41))
noncomputable def C94_1 (cal:Cal) (k m1:Nat) (b1:V6) (u2 u3 u5 u9 u10 u11:Value) (H:Hp) (n:Nat):Res:=B94_1 cal k m1 (C94_2 cal k m1 b1) b1 u2 u3 u5 u9 u10 u11 H n
noncomputable def S94_1 (cal:Cal) (k:Nat):Nat→V6:=fun m=>Nat.rec (motive:=fun _=>V6) (C94_1 cal k 0 (fun _ _ _ _ _ _ _ _=>none)) (fun m ih=>C94_1 cal k (m+1) ih) m
theorem h94_1 (cal:Cal) (k m1:Nat) (u2 u3 u5 u9 u10 u11:Value) (H:Hp) (n:Nat):labK (E94_1 cal k m1) (Tr.set (Tr.set (Tr.set (Tr.set (Tr.set (Tr.set Tr.nil 11 (some u11)) 10 (some u10)) 9 (some u9)) 5 (some u5)) 3 (some u3)) 2 (some u2)) H n []=C94_1 cal k m1 (R94_1 cal k m1) u2 u3 u5 u9 u10 u11 H n:=by
  refine Eq.trans (b:=B94_1 cal k m1 (fun u2 u3 u5 u9 u10 u11 H n=>labK (E94_2 cal k m1) (Tr.set (Tr.set (Tr.set (Tr.set (Tr.set (Tr.set Tr.nil 11 (some u11)) 10 (some u10)) 9 (some u9)) 5 (some u5)) 3 (some u3)) 2 (some u2)) H n []) (R94_1 cal k m1) u2 u3 u5 u9 u10 u11 H n) (by kernel_rfl) ?_
  rw[C94_1]
  have e2:(fun u2 u3 u5 u9 u10 u11 H n=>labK (E94_2 cal k m1) (Tr.set (Tr.set (Tr.set (Tr.set (Tr.set (Tr.set Tr.nil 11 (some u11)) 10 (some u10)) 9 (some u9)) 5 (some u5)) 3 (some u3)) 2 (some u2)) H n [])=(C94_2 cal k m1 (R94_1 cal k m1)):=by funext u2 u3 u5 u9 u10 u11 H n; exact h94_2 ..
  rw[e2]
theorem q94_1 (cal:Cal) (k:Nat):∀(m:Nat) (u2 u3 u5 u9 u10 u11:Value) (H:Hp) (n:Nat),labK (E94_1 cal k m) (Tr.set (Tr.set (Tr.set (Tr.set (Tr.set (Tr.set Tr.nil 11 (some u11)) 10 (some u10)) 9 (some u9)) 5 (some u5)) 3 (some u3)) 2 (some u2)) H n []=S94_1 cal k m u2 u3 u5 u9 u10 u11 H n
  | 0,u2,u3,u5,u9,u10,u11,H,n=>by
    rw[h94_1]
    have e:R94_1 cal k 0=fun _ _ _ _ _ _ _ _=>none:=by funext u2 u3 u5 u9 u10 u11 H n; kernel_rfl
    rw[e]; rfl
  | m+1,u2,u3,u5,u9,u10,u11,H,n=>by
    rw[h94_1]
    have e:R94_1 cal k (m+1)=S94_1 cal k m:=by
      funext u2 u3 u5 u9 u10 u11 H n
      have e:R94_1 cal k (m+1) u2 u3 u5 u9 u10 u11 H n=labK (E94_1 cal k m) (Tr.set (Tr.set (Tr.set (Tr.set (Tr.set (Tr.set Tr.nil 11 (some u11)) 10 (some u10)) 9 (some u9)) 5 (some u5)) 3 (some u3)) 2 (some u2)) H n []:=by kernel_rfl
      rw[e]; exact q94_1 ..
    rw[e]; rfl
noncomputable def B94_0 (cal:Cal) (k:Nat) (j1:V6) (v0 v1:Value) (H:Hp) (n:Nat):Res:=
boxK 35 v0 H n fun v_1 H_2 n_3=>
boxK 88 v1 H_2 n_3 fun v_4 H_5 n_6=>
bindO (fieldAddrV P 35 v_1 1) fun v_9=>
bindO (addrV v_9) fun a_b=>bindO (loadV P H_5 32 a_b) fun v_a=>
bindO (lenV P 32 v_a) fun v_c=>
j1 v_1 v_4 (.int .i64 0) v_a v_c (.int .i64 0) H_5 n_6
noncomputable def C94_0 (cal:Cal) (k:Nat) (v0 v1:Value) (H:Hp) (n:Nat):Res:=B94_0 cal k (S94_1 cal k k) v0 v1 H n
theorem h94_0 (cal:Cal) (k:Nat) (v0 v1:Value) (H:Hp) (n:Nat):bodyE P cal A (k+1) 94 [v0,v1] H n=C94_0 cal k v0 v1 H n:=by
  have h:bodyE P cal A (k+1) 94 [v0,v1] H n=B94_0 cal k (fun u2 u3 u5 u9 u10 u11 H n=>labK (E94_1 cal k k) (Tr.set (Tr.set (Tr.set (Tr.set (Tr.set (Tr.set Tr.nil 11 (some u11)) 10 (some u10)) 9 (some u9)) 5 (some u5)) 3 (some u3)) 2 (some u2)) H n []) v0 v1 H n:=by
    rw[body_eq (fn:=Go.Proofs.Try.f94) (c:=code94) (rs:=results94) (by kernel_rfl) (by kernel_rfl) (by kernel_rfl) (by kernel_rfl)]
    kernel_rfl
  rw[h,C94_0]
  have e1:(fun u2 u3 u5 u9 u10 u11 H n=>labK (E94_1 cal k k) (Tr.set (Tr.set (Tr.set (Tr.set (Tr.set (Tr.set Tr.nil 11 (some u11)) 10 (some u10)) 9 (some u9)) 5 (some u5)) 3 (some u3)) 2 (some u2)) H n [])=(S94_1 cal k k):=by funext u2 u3 u5 u9 u10 u11 H n; exact q94_1 ..
  rw[e1]
noncomputable def code95:Code:=codeOf 95
noncomputable def results95:List ResultVar:=resOf 95
noncomputable def K95_p (cal:Cal) (k:Nat):KR:=(cutK (A 95).c (codeE P cal (codeF P cal k) none 95 (cR code95) (Lv.b (A 95)) (doneK P results95) X0 (doneK P results95)))
noncomputable def K95_pr (cal:Cal) (k:Nat):KR:=(cutK (Lv.b (A 95)).c (codeE P cal (codeF P cal k) none 95 (cR (cR code95)) (Lv.b (Lv.b (A 95))) (doneK P results95) X0 (doneK P results95)))
noncomputable def K95_prl (cal:Cal) (k:Nat):KR:=(cutK (Lv.a (Lv.b (A 95))).c (codeE P cal (codeF P cal k) none 95 (cR (cL (cR code95))) (Lv.b (Lv.a (Lv.b (A 95)))) (K95_pr cal k) X0 (doneK P results95)))
noncomputable def K95_pxrlr (cal:Cal) (k:Nat):XR:=(upX 0 (K95_pr cal k) X0)
noncomputable def K95_prlrl (cal:Cal) (k:Nat) (m1:Nat):KR:=(fun T H n D=>codeF P cal m1 (Lv.a (Lv.b (Lv.a (Lv.b (A 95))))) none 95 (cL (cR (cL (cR code95)))) (K95_pr cal k) (K95_pxrlr cal k) (doneK P results95) (cutT (Lv.a (Lv.b (Lv.a (Lv.b (A 95))))).c T) H n D)
noncomputable def K95_prlrll (cal:Cal) (k:Nat) (m1:Nat):KR:=(cutK (Lv.a (Lv.a (Lv.b (Lv.a (Lv.b (A 95)))))).c (codeE P cal (codeF P cal m1) none 95 (cR (cL (cL (cR (cL (cR code95)))))) (Lv.b (Lv.a (Lv.a (Lv.b (Lv.a (Lv.b (A 95))))))) (K95_prlrl cal k m1) (K95_pxrlr cal k) (doneK P results95)))
noncomputable def K95_prlrllr (cal:Cal) (k:Nat) (m1:Nat):KR:=(cutK (Lv.b (Lv.a (Lv.a (Lv.b (Lv.a (Lv.b (A 95))))))).c (codeE P cal (codeF P cal m1) none 95 (cR (cR (cL (cL (cR (cL (cR code95))))))) (Lv.b (Lv.b (Lv.a (Lv.a (Lv.b (Lv.a (Lv.b (A 95)))))))) (K95_prlrl cal k m1) (K95_pxrlr cal k) (doneK P results95)))
noncomputable def K95_prlrllrr (cal:Cal) (k:Nat) (m1:Nat):KR:=(cutK (Lv.b (Lv.b (Lv.a (Lv.a (Lv.b (Lv.a (Lv.b (A 95)))))))).c (codeE P cal (codeF P cal m1) none 95 (cR (cR (cR (cL (cL (cR (cL (cR code95)))))))) (Lv.b (Lv.b (Lv.b (Lv.a (Lv.a (Lv.b (Lv.a (Lv.b (A 95))))))))) (K95_prlrl cal k m1) (K95_pxrlr cal k) (doneK P results95)))
noncomputable def K95_pxrlrllrrl (cal:Cal) (k:Nat) (m1:Nat):XR:=(upX 1 (K95_prlrllrr cal k m1) (K95_pxrlr cal k))
noncomputable def K95_prlrllrrll (cal:Cal) (k:Nat) (m1:Nat):KR:=(cutK (Lv.a (Lv.a (Lv.b (Lv.b (Lv.a (Lv.a (Lv.b (Lv.a (Lv.b (A 95)))))))))).c (codeE P cal (codeF P cal m1) none 95 (cR (cL (cL (cR (cR (cL (cL (cR (cL (cR code95)))))))))) (Lv.b (Lv.a (Lv.a (Lv.b (Lv.b (Lv.a (Lv.a (Lv.b (Lv.a (Lv.b (A 95))))))))))) (K95_prlrllrr cal k m1) (K95_pxrlrllrrl cal k m1) (doneK P results95)))
noncomputable def K95_prlrllrrllr (cal:Cal) (k:Nat) (m1:Nat):KR:=(cutK (Lv.b (Lv.a (Lv.a (Lv.b (Lv.b (Lv.a (Lv.a (Lv.b (Lv.a (Lv.b (A 95))))))))))).c (codeE P cal (codeF P cal m1) none 95 (cR (cR (cL (cL (cR (cR (cL (cL (cR (cL (cR code95))))))))))) (Lv.b (Lv.b (Lv.a (Lv.a (Lv.b (Lv.b (Lv.a (Lv.a (Lv.b (Lv.a (Lv.b (A 95)))))))))))) (K95_prlrllrr cal k m1) (K95_pxrlrllrrl cal k m1) (doneK P results95)))
noncomputable def K95_prlrllrrllrrl (cal:Cal) (k:Nat) (m1:Nat):KR:=(cutK (Lv.a (Lv.b (Lv.b (Lv.a (Lv.a (Lv.b (Lv.b (Lv.a (Lv.a (Lv.b (Lv.a (Lv.b (A 95))))))))))))).c (codeE P cal (codeF P cal m1) none 95 (cR (cL (cR (cR (cL (cL (cR (cR (cL (cL (cR (cL (cR code95))))))))))))) (Lv.b (Lv.a (Lv.b (Lv.b (Lv.a (Lv.a (Lv.b (Lv.b (Lv.a (Lv.a (Lv.b (Lv.a (Lv.b (A 95)))))))))))))) (K95_prlrllrr cal k m1) (K95_pxrlrllrrl cal k m1) (doneK P results95)))
noncomputable def K95_prr (cal:Cal) (k:Nat):KR:=(cutK (Lv.b (Lv.b (A 95))).c (codeE P cal (codeF P cal k) none 95 (cR (cR (cR code95))) (Lv.b (Lv.b (Lv.b (A 95)))) (doneK P results95) X0 (doneK P results95)))
noncomputable def E95_1 (cal:Cal) (k m1:Nat):KR:=codeE P cal (codeF P cal m1) none 95 (cL (cL (cR (cL (cR code95))))) (Lv.a (Lv.a (Lv.b (Lv.a (Lv.b (A 95)))))) (K95_prlrl cal k m1) (K95_pxrlr cal k) (doneK P results95)
noncomputable def R95_1 (cal:Cal) (k m1:Nat):V4:=fun u1 u7 u8 u9 H n=>codeF P cal m1 (Lv.a (Lv.b (Lv.a (Lv.b (A 95))))) none 95 (cL (cR (cL (cR code95)))) (K95_pr cal k) (K95_pxrlr cal k) (doneK P results95) (Tr.set (Tr.set (Tr.set (Tr.set Tr.nil 9 (some u9)) 8 (some u8)) 7 (some u7)) 1 (some u1)) H n []
noncomputable def B95_1 (cal:Cal) (k m1:Nat) (b1:V4) (u1 u7 u8 u9:Value) (H:Hp) (n:Nat):Res:=
binK P .lss 3 (.tmp 9) (.tmp 8) u9 u8 fun v_5=>
ifK v_5 (
bindO (indexAddrV P 33 u7 u9) fun v_6=>
bindO (addrV v_6) fun a_8=>bindO (loadV P H 86 a_8) fun v_7=>
allocK P 86 H n fun v_9 H_a n_b=>
bindO (storeP P 86 v_9 v_7 H_a) fun H_d=>
bindO (addrV v_9) fun a_g=>bindO (loadV P H_d 86 a_g) fun v_f=>
callVK P cal u1 [v_f] H_d n_b fun v_h H_i n_j=>
bindO (pureSem P v_h (Op.unary UnOp.not v_h)) fun v_k=>
ifK v_k (
some ((.bool false),H_i,n_j)) (
binK P .add 3 (.tmp 9) (.const (.int .i64 1)) u9 (.int .i64 1) fun v_m=>
b1 u1 u7 u8 v_m H_i n_j)) (
some ((.bool true),H,n))
noncomputable def C95_1 (cal:Cal) (k m1:Nat) (b1:V4) (u1 u7 u8 u9:Value) (H:Hp) (n:Nat):Res:=B95_1 cal k m1 b1 u1 u7 u8 u9 H n
noncomputable def S95_1 (cal:Cal) (k:Nat):Nat→V4:=fun m=>Nat.rec (motive:=fun _=>V4) (C95_1 cal k 0 (fun _ _ _ _ _ _=>none)) (fun m ih=>C95_1 cal k (m+1) ih) m
theorem h95_1 (cal:Cal) (k m1:Nat) (u1 u7 u8 u9:Value) (H:Hp) (n:Nat):labK (E95_1 cal k m1) (Tr.set (Tr.set (Tr.set (Tr.set Tr.nil 9 (some u9)) 8 (some u8)) 7 (some u7)) 1 (some u1)) H n []=C95_1 cal k m1 (R95_1 cal k m1) u1 u7 u8 u9 H n:=by
  refine Eq.trans (b:=B95_1 cal k m1 (R95_1 cal k m1) u1 u7 u8 u9 H n) (by kernel_rfl) ?_
  rw[C95_1]
theorem q95_1 (cal:Cal) (k:Nat):∀(m:Nat) (u1 u7 u8 u9:Value) (H:Hp) (n:Nat),labK (E95_1 cal k m) (Tr.set (Tr.set (Tr.set (Tr.set Tr.nil 9 (some u9)) 8 (some u8)) 7 (some u7)) 1 (some u1)) H n []=S95_1 cal k m u1 u7 u8 u9 H n
  | 0,u1,u7,u8,u9,H,n=>by
    rw[h95_1]
    have e:R95_1 cal k 0=fun _ _ _ _ _ _=>none:=by funext u1 u7 u8 u9 H n; kernel_rfl
    rw[e]; rfl
  | m+1,u1,u7,u8,u9,H,n=>by
    rw[h95_1]
    have e:R95_1 cal k (m+1)=S95_1 cal k m:=by
      funext u1 u7 u8 u9 H n
      have e:R95_1 cal k (m+1) u1 u7 u8 u9 H n=labK (E95_1 cal k m) (Tr.set (Tr.set (Tr.set (Tr.set Tr.nil 9 (some u9)) 8 (some u8)) 7 (some u7)) 1 (some u1)) H n []:=by kernel_rfl
      rw[e]; exact q95_1 ..
    rw[e]; rfl
noncomputable def B95_0 (cal:Cal) (k:Nat) (j1:V4) (v0 v1:Value) (H:Hp) (n:Nat):Res:=
bindO (lenV P 33 v0) fun v_3=>
j1 v1 v0 v_3 (.int .i64 0) H n
noncomputable def C95_0 (cal:Cal) (k:Nat) (v0 v1:Value) (H:Hp) (n:Nat):Res:=B95_0 cal k (S95_1 cal k k) v0 v1 H n
theorem h95_0 (cal:Cal) (k:Nat) (v0 v1:Value) (H:Hp) (n:Nat):bodyE P cal A (k+1) 95 [v0,v1] H n=C95_0 cal k v0 v1 H n:=by
  have h:bodyE P cal A (k+1) 95 [v0,v1] H n=B95_0 cal k (fun u1 u7 u8 u9 H n=>labK (E95_1 cal k k) (Tr.set (Tr.set (Tr.set (Tr.set Tr.nil 9 (some u9)) 8 (some u8)) 7 (some u7)) 1 (some u1)) H n []) v0 v1 H n:=by
    rw[body_eq (fn:=Go.Proofs.Try.f95) (c:=code95) (rs:=results95) (by kernel_rfl) (by kernel_rfl) (by kernel_rfl) (by kernel_rfl)]
    kernel_rfl
  rw[h,C95_0]
  have e1:(fun u1 u7 u8 u9 H n=>labK (E95_1 cal k k) (Tr.set (Tr.set (Tr.set (Tr.set Tr.nil 9 (some u9)) 8 (some u8)) 7 (some u7)) 1 (some u1)) H n [])=(S95_1 cal k k):=by funext u1 u7 u8 u9 H n; exact q95_1 ..
  rw[e1]
noncomputable def code96:Code:=codeOf 96
noncomputable def results96:List ResultVar:=resOf 96
noncomputable def K96_p (cal:Cal) (k:Nat):KR:=(cutK (A 96).c (codeE P cal (codeF P cal k) none 96 (cR code96) (Lv.b (A 96)) (doneK P results96) X0 (doneK P results96)))
noncomputable def K96_pr (cal:Cal) (k:Nat):KR:=(cutK (Lv.b (A 96)).c (codeE P cal (codeF P cal k) none 96 (cR (cR code96)) (Lv.b (Lv.b (A 96))) (doneK P results96) X0 (doneK P results96)))
noncomputable def B96_0 (cal:Cal) (k:Nat) (v0:Value) (H:Hp) (n:Nat):Res:=
boxK 86 v0 H n fun v_1 H_2 n_3=>
bindO (fieldAddrV P 86 v_1 0) fun v_5=>
bindO (addrV v_5) fun a_7=>bindO (loadV P H_2 3 a_7) fun v_6=>
binK P .geq 3 (.tmp 4) (.const (.int .i64 0)) v_6 (.int .i64 0) fun v_8=>
guardK v_8 true (fun k_a=>
bindO (fieldAddrV P 86 v_1 0) fun v_e=>
k_a v_e H_2 n_3) H_2 n_3 fun v_b H_c n_d=>
guardK v_8 true (fun k_f=>
bindO (addrV v_b) fun a_k=>bindO (loadV P H_c 3 a_k) fun v_j=>
k_f v_j H_c n_d) H_c n_d fun v_g H_h n_i=>
guardK v_8 true (fun k_l=>
binK P .leq 3 (.tmp 8) (.const (.int .i64 1000)) v_g (.int .i64 1000) fun v_p=>
k_l v_p H_h n_i) H_h n_i fun v_m H_n n_o=>
bindO (pickV v_8 v_m (.bool false)) fun v_q=>
guardK v_q true (fun k_s=>
bindO (fieldAddrV P 86 v_1 1) fun v_w=>
k_s v_w H_n n_o) H_n n_o fun v_t H_u n_v=>
guardK v_q true (fun k_x=>
bindO (addrV v_t) fun a_12=>bindO (loadV P H_u 53 a_12) fun v_11=>
k_x v_11 H_u n_v) H_u n_v fun v_y H_z n_10=>
guardK v_q true (fun k_13=>
callFK P cal 114 [v_y] H_z n_10 fun v_17 H_18 n_19=>
k_13 v_17 H_18 n_19) H_z n_10 fun v_14 H_15 n_16=>
bindO (pickV v_q v_14 (.bool false)) fun v_1a=>
guardK v_1a true (fun k_1c=>
bindO (fieldAddrV P 86 v_1 2) fun v_1g=>
k_1c v_1g H_15 n_16) H_15 n_16 fun v_1d H_1e n_1f=>
guardK v_1a true (fun k_1h=>
bindO (addrV v_1d) fun a_1m=>bindO (loadV P H_1e 53 a_1m) fun v_1l=>
k_1h v_1l H_1e n_1f) H_1e n_1f fun v_1i H_1j n_1k=>
guardK v_1a true (fun k_1n=>
callFK P cal 114 [v_1i] H_1j n_1k fun v_1r H_1s n_1t=>
k_1n v_1r H_1s n_1t) H_1j n_1k fun v_1o H_1p n_1q=>
bindO (pickV v_1a v_1o (.bool false)) fun v_1u=>
some (v_1u,H_1p,n_1q)
noncomputable def C96_0 (cal:Cal) (k:Nat) (v0:Value) (H:Hp) (n:Nat):Res:=B96_0 cal k v0 H n
theorem h96_0 (cal:Cal) (k:Nat) (v0:Value) (H:Hp) (n:Nat):bodyE P cal A (k+1) 96 [v0] H n=C96_0 cal k v0 H n:=by
  have h:bodyE P cal A (k+1) 96 [v0] H n=B96_0 cal k v0 H n:=by
    rw[body_eq (fn:=Go.Proofs.Try.f96) (c:=code96) (rs:=results96) (by kernel_rfl) (by kernel_rfl) (by kernel_rfl) (by kernel_rfl)]
    kernel_rfl
  rw[h,C96_0]
noncomputable def code98:Code:=codeOf 98
noncomputable def results98:List ResultVar:=resOf 98
noncomputable def K98_p (cal:Cal) (k:Nat):KR:=(cutK (A 98).c (codeE P cal (codeF P cal k) none 98 (cR code98) (Lv.b (A 98)) (doneK P results98) X0 (doneK P results98)))
noncomputable def K98_pr (cal:Cal) (k:Nat):KR:=(cutK (Lv.b (A 98)).c (codeE P cal (codeF P cal k) none 98 (cR (cR code98)) (Lv.b (Lv.b (A 98))) (doneK P results98) X0 (doneK P results98)))
noncomputable def K98_prr (cal:Cal) (k:Nat):KR:=(cutK (Lv.b (Lv.b (A 98))).c (codeE P cal (codeF P cal k) none 98 (cR (cR (cR code98))) (Lv.b (Lv.b (Lv.b (A 98)))) (doneK P results98) X0 (doneK P results98)))
noncomputable def K98_prrl (cal:Cal) (k:Nat):KR:=(cutK (Lv.a (Lv.b (Lv.b (A 98)))).c (codeE P cal (codeF P cal k) none 98 (cR (cL (cR (cR code98)))) (Lv.b (Lv.a (Lv.b (Lv.b (A 98))))) (K98_prr cal k) X0 (doneK P results98)))
noncomputable def K98_pxrrlr (cal:Cal) (k:Nat):XR:=(upX 0 (K98_prr cal k) X0)
noncomputable def K98_prrlrl (cal:Cal) (k:Nat) (m1:Nat):KR:=(fun T H n D=>codeF P cal m1 (Lv.a (Lv.b (Lv.a (Lv.b (Lv.b (A 98)))))) none 98 (cL (cR (cL (cR (cR code98))))) (K98_prr cal k) (K98_pxrrlr cal k) (doneK P results98) (cutT (Lv.a (Lv.b (Lv.a (Lv.b (Lv.b (A 98)))))).c T) H n D)
noncomputable def K98_prrlrll (cal:Cal) (k:Nat) (m1:Nat):KR:=(cutK (Lv.a (Lv.a (Lv.b (Lv.a (Lv.b (Lv.b (A 98))))))).c (codeE P cal (codeF P cal m1) none 98 (cR (cL (cL (cR (cL (cR (cR code98))))))) (Lv.b (Lv.a (Lv.a (Lv.b (Lv.a (Lv.b (Lv.b (A 98)))))))) (K98_prrlrl cal k m1) (K98_pxrrlr cal k) (doneK P results98)))
noncomputable def K98_prrlrllr (cal:Cal) (k:Nat) (m1:Nat):KR:=(cutK (Lv.b (Lv.a (Lv.a (Lv.b (Lv.a (Lv.b (Lv.b (A 98)))))))).c (codeE P cal (codeF P cal m1) none 98 (cR (cR (cL (cL (cR (cL (cR (cR code98)))))))) (Lv.b (Lv.b (Lv.a (Lv.a (Lv.b (Lv.a (Lv.b (Lv.b (A 98))))))))) (K98_prrlrl cal k m1) (K98_pxrrlr cal k) (doneK P results98)))
noncomputable def K98_prrlrllrr (cal:Cal) (k:Nat) (m1:Nat):KR:=(cutK (Lv.b (Lv.b (Lv.a (Lv.a (Lv.b (Lv.a (Lv.b (Lv.b (A 98))))))))).c (codeE P cal (codeF P cal m1) none 98 (cR (cR (cR (cL (cL (cR (cL (cR (cR code98))))))))) (Lv.b (Lv.b (Lv.b (Lv.a (Lv.a (Lv.b (Lv.a (Lv.b (Lv.b (A 98)))))))))) (K98_prrlrl cal k m1) (K98_pxrrlr cal k) (doneK P results98)))
noncomputable def K98_pxrrlrllrrl (cal:Cal) (k:Nat) (m1:Nat):XR:=(upX 1 (K98_prrlrllrr cal k m1) (K98_pxrrlr cal k))
noncomputable def K98_prrlrllrrll (cal:Cal) (k:Nat) (m1:Nat):KR:=(cutK (Lv.a (Lv.a (Lv.b (Lv.b (Lv.a (Lv.a (Lv.b (Lv.a (Lv.b (Lv.b (A 98))))))))))).c (codeE P cal (codeF P cal m1) none 98 (cR (cL (cL (cR (cR (cL (cL (cR (cL (cR (cR code98))))))))))) (Lv.b (Lv.a (Lv.a (Lv.b (Lv.b (Lv.a (Lv.a (Lv.b (Lv.a (Lv.b (Lv.b (A 98)))))))))))) (K98_prrlrllrr cal k m1) (K98_pxrrlrllrrl cal k m1) (doneK P results98)))
noncomputable def K98_prrr (cal:Cal) (k:Nat):KR:=(cutK (Lv.b (Lv.b (Lv.b (A 98)))).c (codeE P cal (codeF P cal k) none 98 (cR (cR (cR (cR code98)))) (Lv.b (Lv.b (Lv.b (Lv.b (A 98))))) (doneK P results98) X0 (doneK P results98)))
noncomputable def E98_1 (cal:Cal) (k m1:Nat):KR:=codeE P cal (codeF P cal m1) none 98 (cL (cL (cR (cL (cR (cR code98)))))) (Lv.a (Lv.a (Lv.b (Lv.a (Lv.b (Lv.b (A 98))))))) (K98_prrlrl cal k m1) (K98_pxrrlr cal k) (doneK P results98)
noncomputable def R98_1 (cal:Cal) (k m1:Nat):V4:=fun u1 u5 u9 u10 H n=>codeF P cal m1 (Lv.a (Lv.b (Lv.a (Lv.b (Lv.b (A 98)))))) none 98 (cL (cR (cL (cR (cR code98))))) (K98_prr cal k) (K98_pxrrlr cal k) (doneK P results98) (Tr.set (Tr.set (Tr.set (Tr.set Tr.nil 10 (some u10)) 9 (some u9)) 5 (some u5)) 1 (some u1)) H n []
noncomputable def B98_1 (cal:Cal) (k m1:Nat) (b1:V4) (u1 u5 u9 u10:Value) (H:Hp) (n:Nat):Res:=
binK P .lss 3 (.tmp 10) (.const (.int .i64 8)) u10 (.int .i64 8) fun v_a=>
ifK v_a (
bindO (indexV P 110 u9 u10) fun v_b=>
allocK P 53 H n fun v_c H_d n_e=>
bindO (storeP P 53 v_c v_b H_d) fun H_g=>
bindO (addrV v_c) fun a_k=>bindO (loadV P H_g 53 a_k) fun v_j=>
callVK P cal u1 [v_j] H_g n_e fun v_l H_m n_n=>
binK P .add 3 (.tmp 13) (.tmp 16) u5 v_l fun v_o=>
binK P .add 3 (.tmp 10) (.const (.int .i64 1)) u10 (.int .i64 1) fun v_q=>
b1 u1 v_o u9 v_q H_m n_n) (
some (u5,H,n))
noncomputable def C98_1 (cal:Cal) (k m1:Nat) (b1:V4) (u1 u5 u9 u10:Value) (H:Hp) (n:Nat):Res:=B98_1 cal k m1 b1 u1 u5 u9 u10 H n
noncomputable def S98_1 (cal:Cal) (k:Nat):Nat→V4:=fun m=>Nat.rec (motive:=fun _=>V4) (C98_1 cal k 0 (fun _ _ _ _ _ _=>none)) (fun m ih=>C98_1 cal k (m+1) ih) m
theorem h98_1 (cal:Cal) (k m1:Nat) (u1 u5 u9 u10:Value) (H:Hp) (n:Nat):labK (E98_1 cal k m1) (Tr.set (Tr.set (Tr.set (Tr.set Tr.nil 10 (some u10)) 9 (some u9)) 5 (some u5)) 1 (some u1)) H n []=C98_1 cal k m1 (R98_1 cal k m1) u1 u5 u9 u10 H n:=by
  refine Eq.trans (b:=B98_1 cal k m1 (R98_1 cal k m1) u1 u5 u9 u10 H n) (by kernel_rfl) ?_
  rw[C98_1]
theorem q98_1 (cal:Cal) (k:Nat):∀(m:Nat) (u1 u5 u9 u10:Value) (H:Hp) (n:Nat),labK (E98_1 cal k m) (Tr.set (Tr.set (Tr.set (Tr.set Tr.nil 10 (some u10)) 9 (some u9)) 5 (some u5)) 1 (some u1)) H n []=S98_1 cal k m u1 u5 u9 u10 H n
  | 0,u1,u5,u9,u10,H,n=>by
    rw[h98_1]
    have e:R98_1 cal k 0=fun _ _ _ _ _ _=>none:=by funext u1 u5 u9 u10 H n; kernel_rfl
    rw[e]; rfl
  | m+1,u1,u5,u9,u10,H,n=>by
    rw[h98_1]
    have e:R98_1 cal k (m+1)=S98_1 cal k m:=by
      funext u1 u5 u9 u10 H n
      have e:R98_1 cal k (m+1) u1 u5 u9 u10 H n=labK (E98_1 cal k m) (Tr.set (Tr.set (Tr.set (Tr.set Tr.nil 10 (some u10)) 9 (some u9)) 5 (some u5)) 1 (some u1)) H n []:=by kernel_rfl
      rw[e]; exact q98_1 ..
    rw[e]; rfl
noncomputable def B98_0 (cal:Cal) (k:Nat) (j1:V4) (v0 v1:Value) (H:Hp) (n:Nat):Res:=
boxK 112 v0 H n fun v_1 H_2 n_3=>
bindO (fieldAddrV P 112 v_1 1) fun v_6=>
bindO (addrV v_6) fun a_8=>bindO (loadV P H_2 110 a_8) fun v_7=>
j1 v1 (.int .i64 0) v_7 (.int .i64 0) H_2 n_3
noncomputable def C98_0 (cal:Cal) (k:Nat) (v0 v1:Value) (H:Hp) (n:Nat):Res:=B98_0 cal k (S98_1 cal k k) v0 v1 H n
theorem h98_0 (cal:Cal) (k:Nat) (v0 v1:Value) (H:Hp) (n:Nat):bodyE P cal A (k+1) 98 [v0,v1] H n=C98_0 cal k v0 v1 H n:=by
  have h:bodyE P cal A (k+1) 98 [v0,v1] H n=B98_0 cal k (fun u1 u5 u9 u10 H n=>labK (E98_1 cal k k) (Tr.set (Tr.set (Tr.set (Tr.set Tr.nil 10 (some u10)) 9 (some u9)) 5 (some u5)) 1 (some u1)) H n []) v0 v1 H n:=by
    rw[body_eq (fn:=Go.Proofs.Try.f98) (c:=code98) (rs:=results98) (by kernel_rfl) (by kernel_rfl) (by kernel_rfl) (by kernel_rfl)]
    kernel_rfl
  rw[h,C98_0]
  have e1:(fun u1 u5 u9 u10 H n=>labK (E98_1 cal k k) (Tr.set (Tr.set (Tr.set (Tr.set Tr.nil 10 (some u10)) 9 (some u9)) 5 (some u5)) 1 (some u1)) H n [])=(S98_1 cal k k):=by funext u1 u5 u9 u10 H n; exact q98_1 ..
  rw[e1]
noncomputable def code99:Code:=codeOf 99
noncomputable def results99:List ResultVar:=resOf 99
noncomputable def K99_p (cal:Cal) (k:Nat):KR:=(cutK (A 99).c (codeE P cal (codeF P cal k) none 99 (cR code99) (Lv.b (A 99)) (doneK P results99) X0 (doneK P results99)))
noncomputable def K99_pr (cal:Cal) (k:Nat):KR:=(cutK (Lv.b (A 99)).c (codeE P cal (codeF P cal k) none 99 (cR (cR code99)) (Lv.b (Lv.b (A 99))) (doneK P results99) X0 (doneK P results99)))
noncomputable def B99_0 (cal:Cal) (k:Nat) (v0 v1:Value) (H:Hp) (n:Nat):Res:=
boxK 53 v0 H n fun v_1 H_2 n_3=>
bindO (fieldAddrV P 53 v_1 0) fun v_5=>
bindO (addrV v_5) fun a_7=>bindO (loadV P H_2 3 a_7) fun v_6=>
binK P .leq 3 (.tmp 6) (.tmp 7) v_6 v1 fun v_9=>
guardK v_9 true (fun k_b=>
k_b v1 H_2 n_3) H_2 n_3 fun v_c H_d n_e=>
guardK v_9 true (fun k_g=>
bindO (fieldAddrV P 53 v_1 1) fun v_k=>
k_g v_k H_d n_e) H_d n_e fun v_h H_i n_j=>
guardK v_9 true (fun k_l=>
bindO (addrV v_h) fun a_q=>bindO (loadV P H_i 3 a_q) fun v_p=>
k_l v_p H_i n_j) H_i n_j fun v_m H_n n_o=>
guardK v_9 true (fun k_r=>
binK P .leq 3 (.tmp 10) (.tmp 12) v_c v_m fun v_v=>
k_r v_v H_n n_o) H_n n_o fun v_s H_t n_u=>
bindO (pickV v_9 v_s (.bool false)) fun v_w=>
some (v_w,H_t,n_u)
noncomputable def C99_0 (cal:Cal) (k:Nat) (v0 v1:Value) (H:Hp) (n:Nat):Res:=B99_0 cal k v0 v1 H n
theorem h99_0 (cal:Cal) (k:Nat) (v0 v1:Value) (H:Hp) (n:Nat):bodyE P cal A (k+1) 99 [v0,v1] H n=C99_0 cal k v0 v1 H n:=by
  have h:bodyE P cal A (k+1) 99 [v0,v1] H n=B99_0 cal k v0 v1 H n:=by
    rw[body_eq (fn:=Go.Proofs.Try.f99) (c:=code99) (rs:=results99) (by kernel_rfl) (by kernel_rfl) (by kernel_rfl) (by kernel_rfl)]
    kernel_rfl
  rw[h,C99_0]
noncomputable def code100:Code:=codeOf 100
noncomputable def results100:List ResultVar:=resOf 100
noncomputable def K100_p (cal:Cal) (k:Nat):KR:=(cutK (A 100).c (codeE P cal (codeF P cal k) none 100 (cR code100) (Lv.b (A 100)) (doneK P results100) X0 (doneK P results100)))
noncomputable def K100_pr (cal:Cal) (k:Nat):KR:=(cutK (Lv.b (A 100)).c (codeE P cal (codeF P cal k) none 100 (cR (cR code100)) (Lv.b (Lv.b (A 100))) (doneK P results100) X0 (doneK P results100)))
noncomputable def B100_0 (cal:Cal) (k:Nat) (v0 v1:Value) (H:Hp) (n:Nat):Res:=
callFK P cal 32 [v0,(.int .i64 0),v1] H n fun v_4 H_5 n_6=>
guardK v_4 true (fun k_8=>
k_8 v1 H_5 n_6) H_5 n_6 fun v_9 H_a n_b=>
guardK v_4 true (fun k_d=>
binK P .leq 3 (.tmp 9) (.const (.int .i64 1000)) v_9 (.int .i64 1000) fun v_h=>
k_d v_h H_a n_b) H_a n_b fun v_e H_f n_g=>
bindO (pickV v_4 v_e (.bool false)) fun v_i=>
some (v_i,H_f,n_g)
noncomputable def C100_0 (cal:Cal) (k:Nat) (v0 v1:Value) (H:Hp) (n:Nat):Res:=B100_0 cal k v0 v1 H n
theorem h100_0 (cal:Cal) (k:Nat) (v0 v1:Value) (H:Hp) (n:Nat):bodyE P cal A (k+1) 100 [v0,v1] H n=C100_0 cal k v0 v1 H n:=by
  have h:bodyE P cal A (k+1) 100 [v0,v1] H n=B100_0 cal k v0 v1 H n:=by
    rw[body_eq (fn:=Go.Proofs.Try.f100) (c:=code100) (rs:=results100) (by kernel_rfl) (by kernel_rfl) (by kernel_rfl) (by kernel_rfl)]
    kernel_rfl
  rw[h,C100_0]
noncomputable def code101:Code:=codeOf 101
noncomputable def results101:List ResultVar:=resOf 101
noncomputable def K101_p (cal:Cal) (k:Nat):KR:=(cutK (A 101).c (codeE P cal (codeF P cal k) none 101 (cR code101) (Lv.b (A 101)) (doneK P results101) X0 (doneK P results101)))
noncomputable def K101_pr (cal:Cal) (k:Nat):KR:=(cutK (Lv.b (A 101)).c (codeE P cal (codeF P cal k) none 101 (cR (cR code101)) (Lv.b (Lv.b (A 101))) (doneK P results101) X0 (doneK P results101)))
noncomputable def K101_prr (cal:Cal) (k:Nat):KR:=(cutK (Lv.b (Lv.b (A 101))).c (codeE P cal (codeF P cal k) none 101 (cR (cR (cR code101))) (Lv.b (Lv.b (Lv.b (A 101)))) (doneK P results101) X0 (doneK P results101)))
noncomputable def K101_prrl (cal:Cal) (k:Nat):KR:=(cutK (Lv.a (Lv.b (Lv.b (A 101)))).c (codeE P cal (codeF P cal k) none 101 (cR (cL (cR (cR code101)))) (Lv.b (Lv.a (Lv.b (Lv.b (A 101))))) (K101_prr cal k) X0 (doneK P results101)))
noncomputable def K101_pxrrlr (cal:Cal) (k:Nat):XR:=(upX 0 (K101_prr cal k) X0)
noncomputable def K101_prrlrl (cal:Cal) (k:Nat) (m1:Nat):KR:=(fun T H n D=>codeF P cal m1 (Lv.a (Lv.b (Lv.a (Lv.b (Lv.b (A 101)))))) none 101 (cL (cR (cL (cR (cR code101))))) (K101_prr cal k) (K101_pxrrlr cal k) (doneK P results101) (cutT (Lv.a (Lv.b (Lv.a (Lv.b (Lv.b (A 101)))))).c T) H n D)
noncomputable def K101_prrlrll (cal:Cal) (k:Nat) (m1:Nat):KR:=(cutK (Lv.a (Lv.a (Lv.b (Lv.a (Lv.b (Lv.b (A 101))))))).c (codeE P cal (codeF P cal m1) none 101 (cR (cL (cL (cR (cL (cR (cR code101))))))) (Lv.b (Lv.a (Lv.a (Lv.b (Lv.a (Lv.b (Lv.b (A 101)))))))) (K101_prrlrl cal k m1) (K101_pxrrlr cal k) (doneK P results101)))
noncomputable def K101_prrlrllr (cal:Cal) (k:Nat) (m1:Nat):KR:=(cutK (Lv.b (Lv.a (Lv.a (Lv.b (Lv.a (Lv.b (Lv.b (A 101)))))))).c (codeE P cal (codeF P cal m1) none 101 (cR (cR (cL (cL (cR (cL (cR (cR code101)))))))) (Lv.b (Lv.b (Lv.a (Lv.a (Lv.b (Lv.a (Lv.b (Lv.b (A 101))))))))) (K101_prrlrl cal k m1) (K101_pxrrlr cal k) (doneK P results101)))
noncomputable def K101_prrlrllrr (cal:Cal) (k:Nat) (m1:Nat):KR:=(cutK (Lv.b (Lv.b (Lv.a (Lv.a (Lv.b (Lv.a (Lv.b (Lv.b (A 101))))))))).c (codeE P cal (codeF P cal m1) none 101 (cR (cR (cR (cL (cL (cR (cL (cR (cR code101))))))))) (Lv.b (Lv.b (Lv.b (Lv.a (Lv.a (Lv.b (Lv.a (Lv.b (Lv.b (A 101)))))))))) (K101_prrlrl cal k m1) (K101_pxrrlr cal k) (doneK P results101)))
noncomputable def K101_pxrrlrllrrl (cal:Cal) (k:Nat) (m1:Nat):XR:=(upX 1 (K101_prrlrllrr cal k m1) (K101_pxrrlr cal k))
noncomputable def K101_prrlrllrrll (cal:Cal) (k:Nat) (m1:Nat):KR:=(cutK (Lv.a (Lv.a (Lv.b (Lv.b (Lv.a (Lv.a (Lv.b (Lv.a (Lv.b (Lv.b (A 101))))))))))).c (codeE P cal (codeF P cal m1) none 101 (cR (cL (cL (cR (cR (cL (cL (cR (cL (cR (cR code101))))))))))) (Lv.b (Lv.a (Lv.a (Lv.b (Lv.b (Lv.a (Lv.a (Lv.b (Lv.a (Lv.b (Lv.b (A 101)))))))))))) (K101_prrlrllrr cal k m1) (K101_pxrrlrllrrl cal k m1) (doneK P results101)))
noncomputable def K101_prrr (cal:Cal) (k:Nat):KR:=(cutK (Lv.b (Lv.b (Lv.b (A 101)))).c (codeE P cal (codeF P cal k) none 101 (cR (cR (cR (cR code101)))) (Lv.b (Lv.b (Lv.b (Lv.b (A 101))))) (doneK P results101) X0 (doneK P results101)))
noncomputable def E101_1 (cal:Cal) (k m1:Nat):KR:=codeE P cal (codeF P cal m1) none 101 (cL (cL (cR (cL (cR (cR code101)))))) (Lv.a (Lv.a (Lv.b (Lv.a (Lv.b (Lv.b (A 101))))))) (K101_prrlrl cal k m1) (K101_pxrrlr cal k) (doneK P results101)
noncomputable def R101_1 (cal:Cal) (k m1:Nat):V3:=fun u0 u1 u3 H n=>codeF P cal m1 (Lv.a (Lv.b (Lv.a (Lv.b (Lv.b (A 101)))))) none 101 (cL (cR (cL (cR (cR code101))))) (K101_prr cal k) (K101_pxrrlr cal k) (doneK P results101) (Tr.set (Tr.set (Tr.set Tr.nil 3 (some u3)) 1 (some u1)) 0 (some u0)) H n []
noncomputable def B101_1 (cal:Cal) (k m1:Nat) (b1:V3) (u0 u1 u3:Value) (H:Hp) (n:Nat):Res:=
binK P .lss 3 (.tmp 3) (.const (.int .i64 8)) u3 (.int .i64 8) fun v_8=>
ifK v_8 (
bindO (indexAddrV P 120 u1 u3) fun v_c=>
bindO (storeP P 3 v_c (.int .i64 (-1)) H) fun H_e=>
binK P .add 3 (.tmp 3) (.const (.int .i64 1)) u3 (.int .i64 1) fun v_f=>
b1 u0 u1 v_f H_e n) (
bindO (addrV u1) fun a_i=>bindO (loadV P H 120 a_i) fun v_h=>
bindO (storeP P 120 u0 v_h H) fun H_k=>
bindO (resV P (Tr.set Tr.nil 0 (some u0)) H_k results101) fun v_l=>some (oneV v_l,H_k,n))
noncomputable def C101_1 (cal:Cal) (k m1:Nat) (b1:V3) (u0 u1 u3:Value) (H:Hp) (n:Nat):Res:=B101_1 cal k m1 b1 u0 u1 u3 H n
noncomputable def S101_1 (cal:Cal) (k:Nat):Nat→V3:=fun m=>Nat.rec (motive:=fun _=>V3) (C101_1 cal k 0 (fun _ _ _ _ _=>none)) (fun m ih=>C101_1 cal k (m+1) ih) m
theorem h101_1 (cal:Cal) (k m1:Nat) (u0 u1 u3:Value) (H:Hp) (n:Nat):labK (E101_1 cal k m1) (Tr.set (Tr.set (Tr.set Tr.nil 3 (some u3)) 1 (some u1)) 0 (some u0)) H n []=C101_1 cal k m1 (R101_1 cal k m1) u0 u1 u3 H n:=by
  refine Eq.trans (b:=B101_1 cal k m1 (R101_1 cal k m1) u0 u1 u3 H n) (by kernel_rfl) ?_
  rw[C101_1]
theorem q101_1 (cal:Cal) (k:Nat):∀(m:Nat) (u0 u1 u3:Value) (H:Hp) (n:Nat),labK (E101_1 cal k m) (Tr.set (Tr.set (Tr.set Tr.nil 3 (some u3)) 1 (some u1)) 0 (some u0)) H n []=S101_1 cal k m u0 u1 u3 H n
  | 0,u0,u1,u3,H,n=>by
    rw[h101_1]
    have e:R101_1 cal k 0=fun _ _ _ _ _=>none:=by funext u0 u1 u3 H n; kernel_rfl
    rw[e]; rfl
  | m+1,u0,u1,u3,H,n=>by
    rw[h101_1]
    have e:R101_1 cal k (m+1)=S101_1 cal k m:=by
      funext u0 u1 u3 H n
      have e:R101_1 cal k (m+1) u0 u1 u3 H n=labK (E101_1 cal k m) (Tr.set (Tr.set (Tr.set Tr.nil 3 (some u3)) 1 (some u1)) 0 (some u0)) H n []:=by kernel_rfl
      rw[e]; exact q101_1 ..
    rw[e]; rfl
noncomputable def B101_0 (cal:Cal) (k:Nat) (j1:V3) (H:Hp) (n:Nat):Res:=
allocK P 120 H n fun v_1 H_2 n_3=>
allocK P 120 H_2 n_3 fun v_4 H_5 n_6=>
j1 v_1 v_4 (.int .i64 0) H_5 n_6
noncomputable def C101_0 (cal:Cal) (k:Nat) (H:Hp) (n:Nat):Res:=B101_0 cal k (S101_1 cal k k)  H n
theorem h101_0 (cal:Cal) (k:Nat) (H:Hp) (n:Nat):bodyE P cal A (k+1) 101 [] H n=C101_0 cal k  H n:=by
  have h:bodyE P cal A (k+1) 101 [] H n=B101_0 cal k (fun u0 u1 u3 H n=>labK (E101_1 cal k k) (Tr.set (Tr.set (Tr.set Tr.nil 3 (some u3)) 1 (some u1)) 0 (some u0)) H n [])  H n:=by
    rw[body_eq (fn:=Go.Proofs.Try.f101) (c:=code101) (rs:=results101) (by kernel_rfl) (by kernel_rfl) (by kernel_rfl) (by kernel_rfl)]
    kernel_rfl
  rw[h,C101_0]
  have e1:(fun u0 u1 u3 H n=>labK (E101_1 cal k k) (Tr.set (Tr.set (Tr.set Tr.nil 3 (some u3)) 1 (some u1)) 0 (some u0)) H n [])=(S101_1 cal k k):=by funext u0 u1 u3 H n; exact q101_1 ..
  rw[e1]
noncomputable def code102:Code:=codeOf 102
noncomputable def results102:List ResultVar:=resOf 102
noncomputable def K102_p (cal:Cal) (k:Nat):KR:=(cutK (A 102).c (codeE P cal (codeF P cal k) none 102 (cR code102) (Lv.b (A 102)) (doneK P results102) X0 (doneK P results102)))
noncomputable def K102_pr (cal:Cal) (k:Nat):KR:=(cutK (Lv.b (A 102)).c (codeE P cal (codeF P cal k) none 102 (cR (cR code102)) (Lv.b (Lv.b (A 102))) (doneK P results102) X0 (doneK P results102)))
noncomputable def B102_0 (cal:Cal) (k:Nat) (v0 v1 v2:Value) (H:Hp) (n:Nat):Res:=
binK P .geq 3 (.tmp 7) (.const (.int .i64 0)) v2 (.int .i64 0) fun v_3=>
guardK v_3 true (fun k_5=>
k_5 v2 H n) H n fun v_6 H_7 n_8=>
guardK v_3 true (fun k_a=>
k_a v0 H_7 n_8) H_7 n_8 fun v_b H_c n_d=>
guardK v_3 true (fun k_f=>
bindO (nilV v_b) fun v_j=>
k_f v_j H_c n_d) H_c n_d fun v_g H_h n_i=>
guardK v_3 true (fun k_k=>
bindO (fieldAddrV P 116 v_g 0) fun v_o=>
k_k v_o H_h n_i) H_h n_i fun v_l H_m n_n=>
guardK v_3 true (fun k_p=>
bindO (fieldAddrV P 35 v_l 2) fun v_t=>
k_p v_t H_m n_n) H_m n_n fun v_q H_r n_s=>
guardK v_3 true (fun k_u=>
bindO (addrV v_q) fun a_z=>bindO (loadV P H_r 33 a_z) fun v_y=>
k_u v_y H_r n_s) H_r n_s fun v_v H_w n_x=>
guardK v_3 true (fun k_10=>
bindO (lenV P 33 v_v) fun v_14=>
k_10 v_14 H_w n_x) H_w n_x fun v_11 H_12 n_13=>
guardK v_3 true (fun k_15=>
binK P .lss 3 (.tmp 10) (.tmp 16) v_6 v_11 fun v_19=>
k_15 v_19 H_12 n_13) H_12 n_13 fun v_16 H_17 n_18=>
bindO (pickV v_3 v_16 (.bool false)) fun v_1a=>
guardK v_1a true (fun k_1c=>
k_1c v0 H_17 n_18) H_17 n_18 fun v_1d H_1e n_1f=>
guardK v_1a true (fun k_1h=>
k_1h v1 H_1e n_1f) H_1e n_1f fun v_1i H_1j n_1k=>
guardK v_1a true (fun k_1m=>
k_1m v2 H_1j n_1k) H_1j n_1k fun v_1n H_1o n_1p=>
guardK v_1a true (fun k_1r=>
bindO (nilV v_1d) fun v_1v=>
k_1r v_1v H_1o n_1p) H_1o n_1p fun v_1s H_1t n_1u=>
guardK v_1a true (fun k_1w=>
bindO (fieldAddrV P 116 v_1s 2) fun v_20=>
k_1w v_20 H_1t n_1u) H_1t n_1u fun v_1x H_1y n_1z=>
guardK v_1a true (fun k_21=>
bindO (indexAddrV P 114 v_1x v_1i) fun v_25=>
k_21 v_25 H_1y n_1z) H_1y n_1z fun v_22 H_23 n_24=>
guardK v_1a true (fun k_26=>
bindO (indexAddrV P 113 v_22 v_1n) fun v_2a=>
k_26 v_2a H_23 n_24) H_23 n_24 fun v_27 H_28 n_29=>
guardK v_1a true (fun k_2b=>
bindO (addrV v_27) fun a_2g=>bindO (loadV P H_28 112 a_2g) fun v_2f=>
k_2b v_2f H_28 n_29) H_28 n_29 fun v_2c H_2d n_2e=>
guardK v_1a true (fun k_2h=>
callFK P cal 62 [v_2c] H_2d n_2e fun v_2l H_2m n_2n=>
k_2h v_2l H_2m n_2n) H_2d n_2e fun v_2i H_2j n_2k=>
bindO (pickV v_1a v_2i (.bool false)) fun v_2o=>
some (v_2o,H_2j,n_2k)
noncomputable def C102_0 (cal:Cal) (k:Nat) (v0 v1 v2:Value) (H:Hp) (n:Nat):Res:=B102_0 cal k v0 v1 v2 H n
theorem h102_0 (cal:Cal) (k:Nat) (v0 v1 v2:Value) (H:Hp) (n:Nat):bodyE P cal A (k+1) 102 [v0,v1,v2] H n=C102_0 cal k v0 v1 v2 H n:=by
  have h:bodyE P cal A (k+1) 102 [v0,v1,v2] H n=B102_0 cal k v0 v1 v2 H n:=by
    rw[body_eq (fn:=Go.Proofs.Try.f102) (c:=code102) (rs:=results102) (by kernel_rfl) (by kernel_rfl) (by kernel_rfl) (by kernel_rfl)]
    kernel_rfl
  rw[h,C102_0]
noncomputable def code103:Code:=codeOf 103
noncomputable def results103:List ResultVar:=resOf 103
noncomputable def K103_p (cal:Cal) (k:Nat):KR:=(cutK (A 103).c (codeE P cal (codeF P cal k) none 103 (cR code103) (Lv.b (A 103)) (doneK P results103) X0 (doneK P results103)))
noncomputable def K103_pr (cal:Cal) (k:Nat):KR:=(cutK (Lv.b (A 103)).c (codeE P cal (codeF P cal k) none 103 (cR (cR code103)) (Lv.b (Lv.b (A 103))) (doneK P results103) X0 (doneK P results103)))
noncomputable def K103_prl (cal:Cal) (k:Nat):KR:=(cutK (Lv.a (Lv.b (A 103))).c (codeE P cal (codeF P cal k) none 103 (cR (cL (cR code103))) (Lv.b (Lv.a (Lv.b (A 103)))) (K103_pr cal k) X0 (doneK P results103)))
noncomputable def K103_pxrlr (cal:Cal) (k:Nat):XR:=(upX 0 (K103_pr cal k) X0)
noncomputable def K103_prlrl (cal:Cal) (k:Nat) (m1:Nat):KR:=(fun T H n D=>codeF P cal m1 (Lv.a (Lv.b (Lv.a (Lv.b (A 103))))) none 103 (cL (cR (cL (cR code103)))) (K103_pr cal k) (K103_pxrlr cal k) (doneK P results103) (cutT (Lv.a (Lv.b (Lv.a (Lv.b (A 103))))).c T) H n D)
noncomputable def K103_prlrll (cal:Cal) (k:Nat) (m1:Nat):KR:=(cutK (Lv.a (Lv.a (Lv.b (Lv.a (Lv.b (A 103)))))).c (codeE P cal (codeF P cal m1) none 103 (cR (cL (cL (cR (cL (cR code103)))))) (Lv.b (Lv.a (Lv.a (Lv.b (Lv.a (Lv.b (A 103))))))) (K103_prlrl cal k m1) (K103_pxrlr cal k) (doneK P results103)))
noncomputable def K103_prlrllr (cal:Cal) (k:Nat) (m1:Nat):KR:=(cutK (Lv.b (Lv.a (Lv.a (Lv.b (Lv.a (Lv.b (A 103))))))).c (codeE P cal (codeF P cal m1) none 103 (cR (cR (cL (cL (cR (cL (cR code103))))))) (Lv.b (Lv.b (Lv.a (Lv.a (Lv.b (Lv.a (Lv.b (A 103)))))))) (K103_prlrl cal k m1) (K103_pxrlr cal k) (doneK P results103)))
noncomputable def K103_prlrllrr (cal:Cal) (k:Nat) (m1:Nat):KR:=(cutK (Lv.b (Lv.b (Lv.a (Lv.a (Lv.b (Lv.a (Lv.b (A 103)))))))).c (codeE P cal (codeF P cal m1) none 103 (cR (cR (cR (cL (cL (cR (cL (cR code103)))))))) (Lv.b (Lv.b (Lv.b (Lv.a (Lv.a (Lv.b (Lv.a (Lv.b (A 103))))))))) (K103_prlrl cal k m1) (K103_pxrlr cal k) (doneK P results103)))
noncomputable def K103_pxrlrllrrl (cal:Cal) (k:Nat) (m1:Nat):XR:=(upX 1 (K103_prlrllrr cal k m1) (K103_pxrlr cal k))
noncomputable def K103_prlrllrrll (cal:Cal) (k:Nat) (m1:Nat):KR:=(cutK (Lv.a (Lv.a (Lv.b (Lv.b (Lv.a (Lv.a (Lv.b (Lv.a (Lv.b (A 103)))))))))).c (codeE P cal (codeF P cal m1) none 103 (cR (cL (cL (cR (cR (cL (cL (cR (cL (cR code103)))))))))) (Lv.b (Lv.a (Lv.a (Lv.b (Lv.b (Lv.a (Lv.a (Lv.b (Lv.a (Lv.b (A 103))))))))))) (K103_prlrllrr cal k m1) (K103_pxrlrllrrl cal k m1) (doneK P results103)))
noncomputable def K103_prlrllrrllr (cal:Cal) (k:Nat) (m1:Nat):KR:=(cutK (Lv.b (Lv.a (Lv.a (Lv.b (Lv.b (Lv.a (Lv.a (Lv.b (Lv.a (Lv.b (A 103))))))))))).c (codeE P cal (codeF P cal m1) none 103 (cR (cR (cL (cL (cR (cR (cL (cL (cR (cL (cR code103))))))))))) (Lv.b (Lv.b (Lv.a (Lv.a (Lv.b (Lv.b (Lv.a (Lv.a (Lv.b (Lv.a (Lv.b (A 103)))))))))))) (K103_prlrllrr cal k m1) (K103_pxrlrllrrl cal k m1) (doneK P results103)))
noncomputable def K103_prr (cal:Cal) (k:Nat):KR:=(cutK (Lv.b (Lv.b (A 103))).c (codeE P cal (codeF P cal k) none 103 (cR (cR (cR code103))) (Lv.b (Lv.b (Lv.b (A 103)))) (doneK P results103) X0 (doneK P results103)))
noncomputable def E103_1 (cal:Cal) (k m1:Nat):KR:=codeE P cal (codeF P cal m1) none 103 (cL (cL (cR (cL (cR code103))))) (Lv.a (Lv.a (Lv.b (Lv.a (Lv.b (A 103)))))) (K103_prlrl cal k m1) (K103_pxrlr cal k) (doneK P results103)
noncomputable def R103_1 (cal:Cal) (k m1:Nat):V4:=fun u2 u4 u7 u8 H n=>codeF P cal m1 (Lv.a (Lv.b (Lv.a (Lv.b (A 103))))) none 103 (cL (cR (cL (cR code103)))) (K103_pr cal k) (K103_pxrlr cal k) (doneK P results103) (Tr.set (Tr.set (Tr.set (Tr.set Tr.nil 8 (some u8)) 7 (some u7)) 4 (some u4)) 2 (some u2)) H n []
noncomputable def B103_1 (cal:Cal) (k m1:Nat) (b1:V4) (u2 u4 u7 u8:Value) (H:Hp) (n:Nat):Res:=
binK P .lss 3 (.tmp 8) (.const (.int .i64 8)) u8 (.int .i64 8) fun v_d=>
ifK v_d (
bindO (indexV P 110 u7 u8) fun v_f=>
allocK P 53 H n fun v_g H_h n_i=>
bindO (storeP P 53 v_g v_f H_h) fun H_l=>
bindO (indexAddrV P 110 u2 u8) fun v_n=>
bindO (fieldAddrV P 53 v_n 0) fun v_o=>
bindO (addrV v_o) fun a_p=>bindO (loadV P H_l 3 a_p) fun v_q=>
bindO (fieldAddrV P 53 v_g 0) fun v_r=>
bindO (addrV v_r) fun a_s=>bindO (loadV P H_l 3 a_s) fun v_t=>
binK P .add 3 (.tmp 15) (.tmp 17) v_q v_t fun v_u=>
bindO (indexAddrV P 110 u2 u8) fun v_v=>
bindO (fieldAddrV P 53 v_v 0) fun v_w=>
bindO (storeP P 3 v_w v_u H_l) fun H_y=>
bindO (indexAddrV P 110 u2 u8) fun v_10=>
bindO (fieldAddrV P 53 v_10 1) fun v_11=>
bindO (addrV v_11) fun a_12=>bindO (loadV P H_y 3 a_12) fun v_13=>
bindO (fieldAddrV P 53 v_g 1) fun v_14=>
bindO (addrV v_14) fun a_15=>bindO (loadV P H_y 3 a_15) fun v_16=>
binK P .add 3 (.tmp 24) (.tmp 26) v_13 v_16 fun v_17=>
bindO (indexAddrV P 110 u2 u8) fun v_18=>
bindO (fieldAddrV P 53 v_18 1) fun v_19=>
bindO (storeP P 3 v_19 v_17 H_y) fun H_1b=>
binK P .add 3 (.tmp 8) (.const (.int .i64 1)) u8 (.int .i64 1) fun v_1c=>
b1 u2 u4 u7 v_1c H_1b n_i) (
bindO (addrV u2) fun a_1f=>bindO (loadV P H 110 a_1f) fun v_1e=>
bindO (storeP P 110 u4 v_1e H) fun H_1h=>
bindO (resV P (Tr.set Tr.nil 4 (some u4)) H_1h results103) fun v_1i=>some (oneV v_1i,H_1h,n))
noncomputable def C103_1 (cal:Cal) (k m1:Nat) (b1:V4) (u2 u4 u7 u8:Value) (H:Hp) (n:Nat):Res:=B103_1 cal k m1 b1 u2 u4 u7 u8 H n
noncomputable def S103_1 (cal:Cal) (k:Nat):Nat→V4:=fun m=>Nat.rec (motive:=fun _=>V4) (C103_1 cal k 0 (fun _ _ _ _ _ _=>none)) (fun m ih=>C103_1 cal k (m+1) ih) m
theorem h103_1 (cal:Cal) (k m1:Nat) (u2 u4 u7 u8:Value) (H:Hp) (n:Nat):labK (E103_1 cal k m1) (Tr.set (Tr.set (Tr.set (Tr.set Tr.nil 8 (some u8)) 7 (some u7)) 4 (some u4)) 2 (some u2)) H n []=C103_1 cal k m1 (R103_1 cal k m1) u2 u4 u7 u8 H n:=by
  refine Eq.trans (b:=B103_1 cal k m1 (R103_1 cal k m1) u2 u4 u7 u8 H n) (by kernel_rfl) ?_
  rw[C103_1]
theorem q103_1 (cal:Cal) (k:Nat):∀(m:Nat) (u2 u4 u7 u8:Value) (H:Hp) (n:Nat),labK (E103_1 cal k m) (Tr.set (Tr.set (Tr.set (Tr.set Tr.nil 8 (some u8)) 7 (some u7)) 4 (some u4)) 2 (some u2)) H n []=S103_1 cal k m u2 u4 u7 u8 H n
  | 0,u2,u4,u7,u8,H,n=>by
    rw[h103_1]
    have e:R103_1 cal k 0=fun _ _ _ _ _ _=>none:=by funext u2 u4 u7 u8 H n; kernel_rfl
    rw[e]; rfl
  | m+1,u2,u4,u7,u8,H,n=>by
    rw[h103_1]
    have e:R103_1 cal k (m+1)=S103_1 cal k m:=by
      funext u2 u4 u7 u8 H n
      have e:R103_1 cal k (m+1) u2 u4 u7 u8 H n=labK (E103_1 cal k m) (Tr.set (Tr.set (Tr.set (Tr.set Tr.nil 8 (some u8)) 7 (some u7)) 4 (some u4)) 2 (some u2)) H n []:=by kernel_rfl
      rw[e]; exact q103_1 ..
    rw[e]; rfl
noncomputable def B103_0 (cal:Cal) (k:Nat) (j1:V4) (v0 v1:Value) (H:Hp) (n:Nat):Res:=
boxK 110 v0 H n fun v_1 H_2 n_3=>
boxK 110 v1 H_2 n_3 fun v_4 H_5 n_6=>
allocK P 110 H_5 n_6 fun v_7 H_8 n_9=>
bindO (addrV v_4) fun a_b=>bindO (loadV P H_8 110 a_b) fun v_a=>
j1 v_1 v_7 v_a (.int .i64 0) H_8 n_9
noncomputable def C103_0 (cal:Cal) (k:Nat) (v0 v1:Value) (H:Hp) (n:Nat):Res:=B103_0 cal k (S103_1 cal k k) v0 v1 H n
theorem h103_0 (cal:Cal) (k:Nat) (v0 v1:Value) (H:Hp) (n:Nat):bodyE P cal A (k+1) 103 [v0,v1] H n=C103_0 cal k v0 v1 H n:=by
  have h:bodyE P cal A (k+1) 103 [v0,v1] H n=B103_0 cal k (fun u2 u4 u7 u8 H n=>labK (E103_1 cal k k) (Tr.set (Tr.set (Tr.set (Tr.set Tr.nil 8 (some u8)) 7 (some u7)) 4 (some u4)) 2 (some u2)) H n []) v0 v1 H n:=by
    rw[body_eq (fn:=Go.Proofs.Try.f103) (c:=code103) (rs:=results103) (by kernel_rfl) (by kernel_rfl) (by kernel_rfl) (by kernel_rfl)]
    kernel_rfl
  rw[h,C103_0]
  have e1:(fun u2 u4 u7 u8 H n=>labK (E103_1 cal k k) (Tr.set (Tr.set (Tr.set (Tr.set Tr.nil 8 (some u8)) 7 (some u7)) 4 (some u4)) 2 (some u2)) H n [])=(S103_1 cal k k):=by funext u2 u4 u7 u8 H n; exact q103_1 ..
  rw[e1]
end Go.Proofs.Ytmpnblcfpdnlmaa.G
