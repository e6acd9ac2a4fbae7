/- The texts of functions, each with the proof that the evaluator says the same. -/
import Derived.Test.YtmpnblcfpdnlmaaH1
open Go Go.Ev
set_option maxRecDepth 1000000
set_option linter.unusedVariables false
noncomputable section
namespace Go.Proofs.Ytmpnblcfpdnlmaa.G
noncomputable def code104:Code:=codeOf 104
noncomputable def results104:List ResultVar:=resOf 104
noncomputable def K104_p (cal:Cal) (k:Nat):KR:=(cutK (A 104).c (codeE P cal (codeF P cal k) none 104 (cR code104) (Lv.b (A 104)) (doneK P results104) X0 (doneK P results104)))
noncomputable def K104_pxr (cal:Cal) (k:Nat):XR:=(upX 0 (doneK P results104) X0)
noncomputable def K104_prl (cal:Cal) (k:Nat) (m1:Nat):KR:=(fun T H n D=>codeF P cal m1 (Lv.a (Lv.b (A 104))) none 104 (cL (cR code104)) (doneK P results104) (K104_pxr cal k) (doneK P results104) (cutT (Lv.a (Lv.b (A 104))).c T) H n D)
noncomputable def K104_prll (cal:Cal) (k:Nat) (m1:Nat):KR:=(cutK (Lv.a (Lv.a (Lv.b (A 104)))).c (codeE P cal (codeF P cal m1) none 104 (cR (cL (cL (cR code104)))) (Lv.b (Lv.a (Lv.a (Lv.b (A 104))))) (K104_prl cal k m1) (K104_pxr cal k) (doneK P results104)))
noncomputable def K104_prllr (cal:Cal) (k:Nat) (m1:Nat):KR:=(cutK (Lv.b (Lv.a (Lv.a (Lv.b (A 104))))).c (codeE P cal (codeF P cal m1) none 104 (cR (cR (cL (cL (cR code104))))) (Lv.b (Lv.b (Lv.a (Lv.a (Lv.b (A 104)))))) (K104_prl cal k m1) (K104_pxr cal k) (doneK P results104)))
noncomputable def K104_prllrr (cal:Cal) (k:Nat) (m1:Nat):KR:=(cutK (Lv.b (Lv.b (Lv.a (Lv.a (Lv.b (A 104)))))).c (codeE P cal (codeF P cal m1) none 104 (cR (cR (cR (cL (cL (cR code104)))))) (Lv.b (Lv.b (Lv.b (Lv.a (Lv.a (Lv.b (A 104))))))) (K104_prl cal k m1) (K104_pxr cal k) (doneK P results104)))
noncomputable def K104_pxrllrrl (cal:Cal) (k:Nat) (m1:Nat):XR:=(upX 1 (K104_prllrr cal k m1) (K104_pxr cal k))
noncomputable def K104_prllrrll (cal:Cal) (k:Nat) (m1:Nat):KR:=(cutK (Lv.a (Lv.a (Lv.b (Lv.b (Lv.a (Lv.a (Lv.b (A 104)))))))).c (codeE P cal (codeF P cal m1) none 104 (cR (cL (cL (cR (cR (cL (cL (cR code104)))))))) (Lv.b (Lv.a (Lv.a (Lv.b (Lv.b (Lv.a (Lv.a (Lv.b (A 104))))))))) (K104_prllrr cal k m1) (K104_pxrllrrl cal k m1) (doneK P results104)))
noncomputable def K104_prllrrllr (cal:Cal) (k:Nat) (m1:Nat):KR:=(cutK (Lv.b (Lv.a (Lv.a (Lv.b (Lv.b (Lv.a (Lv.a (Lv.b (A 104))))))))).c (codeE P cal (codeF P cal m1) none 104 (cR (cR (cL (cL (cR (cR (cL (cL (cR code104))))))))) (Lv.b (Lv.b (Lv.a (Lv.a (Lv.b (Lv.b (Lv.a (Lv.a (Lv.b (A 104)))))))))) (K104_prllrr cal k m1) (K104_pxrllrrl cal k m1) (doneK P results104)))
noncomputable def E104_1 (cal:Cal) (k m1:Nat):KR:=codeE P cal (codeF P cal m1) none 104 (cL (cL (cR code104))) (Lv.a (Lv.a (Lv.b (A 104)))) (K104_prl cal k m1) (K104_pxr cal k) (doneK P results104)
noncomputable def R104_1 (cal:Cal) (k m1:Nat):V4:=fun u0 u2 u6 u7 H n=>codeF P cal m1 (Lv.a (Lv.b (A 104))) none 104 (cL (cR code104)) (doneK P results104) (K104_pxr cal k) (doneK P results104) (Tr.set (Tr.set (Tr.set (Tr.set Tr.nil 7 (some u7)) 6 (some u6)) 2 (some u2)) 0 (some u0)) H n []
noncomputable def B104_1 (cal:Cal) (k m1:Nat) (b1:V4) (u0 u2 u6 u7:Value) (H:Hp) (n:Nat):Res:=
binK P .lss 3 (.tmp 7) (.const (.int .i64 8)) u7 (.int .i64 8) fun v_4=>
ifK v_4 (
bindO (indexV P 120 u6 u7) fun v_6=>
binK P .neq 3 (.tmp 11) (.const (.int .i64 (-1))) v_6 (.int .i64 (-1)) fun v_a=>
guardK v_a true (fun k_c=>
k_c u0 H n) H n fun v_d H_e n_f=>
guardK v_a true (fun k_h=>
k_h u7 H_e n_f) H_e n_f fun v_i H_j n_k=>
guardK v_a true (fun k_m=>
bindO (addrV u2) fun a_r=>bindO (loadV P H_j 104 a_r) fun v_q=>
k_m v_q H_j n_k) H_j n_k fun v_n H_o n_p=>
guardK v_a true (fun k_s=>
k_s u7 H_o n_p) H_o n_p fun v_t H_u n_v=>
guardK v_a true (fun k_x=>
k_x v_6 H_u n_v) H_u n_v fun v_y H_z n_10=>
guardK v_a true (fun k_12=>
bindO (nilV v_n) fun v_16=>
k_12 v_16 H_z n_10) H_z n_10 fun v_13 H_14 n_15=>
guardK v_a true (fun k_17=>
bindO (fieldAddrV P 116 v_13 2) fun v_1b=>
k_17 v_1b H_14 n_15) H_14 n_15 fun v_18 H_19 n_1a=>
guardK v_a true (fun k_1c=>
bindO (indexAddrV P 114 v_18 v_t) fun v_1g=>
k_1c v_1g H_19 n_1a) H_19 n_1a fun v_1d H_1e n_1f=>
guardK v_a true (fun k_1h=>
bindO (indexAddrV P 113 v_1d v_y) fun v_1l=>
k_1h v_1l H_1e n_1f) H_1e n_1f fun v_1i H_1j n_1k=>
guardK v_a true (fun k_1m=>
bindO (addrV v_1i) fun a_1r=>bindO (loadV P H_1j 112 a_1r) fun v_1q=>
k_1m v_1q H_1j n_1k) H_1j n_1k fun v_1n H_1o n_1p=>
guardK v_a true (fun k_1s=>
callVK P cal v_d [v_i,v_1n] H_1o n_1p fun v_1w H_1x n_1y=>
k_1s v_1w H_1x n_1y) H_1o n_1p fun v_1t H_1u n_1v=>
guardK v_a true (fun k_1z=>
bindO (pureSem P v_1t (Op.unary UnOp.not v_1t)) fun v_23=>
k_1z v_23 H_1u n_1v) H_1u n_1v fun v_20 H_21 n_22=>
bindO (pickV v_a v_20 (.bool false)) fun v_24=>
ifK v_24 (
some ((Value.tuple ⟨[]⟩),H_21,n_22)) (
binK P .add 3 (.tmp 7) (.const (.int .i64 1)) u7 (.int .i64 1) fun v_25=>
b1 u0 u2 u6 v_25 H_21 n_22)) (
some ((Value.tuple ⟨[]⟩),H,n))
noncomputable def C104_1 (cal:Cal) (k m1:Nat) (b1:V4) (u0 u2 u6 u7:Value) (H:Hp) (n:Nat):Res:=B104_1 cal k m1 b1 u0 u2 u6 u7 H n
noncomputable def S104_1 (cal:Cal) (k:Nat):Nat→V4:=fun m=>Nat.rec (motive:=fun _=>V4) (C104_1 cal k 0 (fun _ _ _ _ _ _=>none)) (fun m ih=>C104_1 cal k (m+1) ih) m
theorem h104_1 (cal:Cal) (k m1:Nat) (u0 u2 u6 u7:Value) (H:Hp) (n:Nat):labK (E104_1 cal k m1) (Tr.set (Tr.set (Tr.set (Tr.set Tr.nil 7 (some u7)) 6 (some u6)) 2 (some u2)) 0 (some u0)) H n []=C104_1 cal k m1 (R104_1 cal k m1) u0 u2 u6 u7 H n:=by
  refine Eq.trans (b:=B104_1 cal k m1 (R104_1 cal k m1) u0 u2 u6 u7 H n) (by kernel_rfl) ?_
  rw[C104_1]
theorem q104_1 (cal:Cal) (k:Nat):∀(m:Nat) (u0 u2 u6 u7:Value) (H:Hp) (n:Nat),labK (E104_1 cal k m) (Tr.set (Tr.set (Tr.set (Tr.set Tr.nil 7 (some u7)) 6 (some u6)) 2 (some u2)) 0 (some u0)) H n []=S104_1 cal k m u0 u2 u6 u7 H n
  | 0,u0,u2,u6,u7,H,n=>by
    rw[h104_1]
    have e:R104_1 cal k 0=fun _ _ _ _ _ _=>none:=by funext u0 u2 u6 u7 H n; kernel_rfl
    rw[e]; rfl
  | m+1,u0,u2,u6,u7,H,n=>by
    rw[h104_1]
    have e:R104_1 cal k (m+1)=S104_1 cal k m:=by
      funext u0 u2 u6 u7 H n
      have e:R104_1 cal k (m+1) u0 u2 u6 u7 H n=labK (E104_1 cal k m) (Tr.set (Tr.set (Tr.set (Tr.set Tr.nil 7 (some u7)) 6 (some u6)) 2 (some u2)) 0 (some u0)) H n []:=by kernel_rfl
      rw[e]; exact q104_1 ..
    rw[e]; rfl
noncomputable def B104_0 (cal:Cal) (k:Nat) (j1:V4) (v0 v1 v2:Value) (H:Hp) (n:Nat):Res:=
bindO (addrV v1) fun a_2=>bindO (loadV P H 120 a_2) fun v_1=>
j1 v0 v2 v_1 (.int .i64 0) H n
noncomputable def C104_0 (cal:Cal) (k:Nat) (v0 v1 v2:Value) (H:Hp) (n:Nat):Res:=B104_0 cal k (S104_1 cal k k) v0 v1 v2 H n
theorem h104_0 (cal:Cal) (k:Nat) (v0 v1 v2:Value) (H:Hp) (n:Nat):bodyE P cal A (k+1) 104 [v0,v1,v2] H n=C104_0 cal k v0 v1 v2 H n:=by
  have h:bodyE P cal A (k+1) 104 [v0,v1,v2] H n=B104_0 cal k (fun u0 u2 u6 u7 H n=>labK (E104_1 cal k k) (Tr.set (Tr.set (Tr.set (Tr.set Tr.nil 7 (some u7)) 6 (some u6)) 2 (some u2)) 0 (some u0)) H n []) v0 v1 v2 H n:=by
    rw[body_eq (fn:=Go.Proofs.Try.f104) (c:=code104) (rs:=results104) (by kernel_rfl) (by kernel_rfl) (by kernel_rfl) (by kernel_rfl)]
    kernel_rfl
  rw[h,C104_0]
  have e1:(fun u0 u2 u6 u7 H n=>labK (E104_1 cal k k) (Tr.set (Tr.set (Tr.set (Tr.set Tr.nil 7 (some u7)) 6 (some u6)) 2 (some u2)) 0 (some u0)) H n [])=(S104_1 cal k k):=by funext u0 u2 u6 u7 H n; exact q104_1 ..
  rw[e1]
noncomputable def code105:Code:=codeOf 105
noncomputable def results105:List ResultVar:=resOf 105
noncomputable def K105_p (cal:Cal) (k:Nat):KR:=(cutK (A 105).c (codeE P cal (codeF P cal k) none 105 (cR code105) (Lv.b (A 105)) (doneK P results105) X0 (doneK P results105)))
noncomputable def K105_pr (cal:Cal) (k:Nat):KR:=(cutK (Lv.b (A 105)).c (codeE P cal (codeF P cal k) none 105 (cR (cR code105)) (Lv.b (Lv.b (A 105))) (doneK P results105) X0 (doneK P results105)))
noncomputable def K105_prl (cal:Cal) (k:Nat):KR:=(cutK (Lv.a (Lv.b (A 105))).c (codeE P cal (codeF P cal k) none 105 (cR (cL (cR code105))) (Lv.b (Lv.a (Lv.b (A 105)))) (K105_pr cal k) X0 (doneK P results105)))
noncomputable def K105_pxrlr (cal:Cal) (k:Nat):XR:=(upX 0 (K105_pr cal k) X0)
noncomputable def K105_prlrl (cal:Cal) (k:Nat) (m1:Nat):KR:=(fun T H n D=>codeF P cal m1 (Lv.a (Lv.b (Lv.a (Lv.b (A 105))))) none 105 (cL (cR (cL (cR code105)))) (K105_pr cal k) (K105_pxrlr cal k) (doneK P results105) (cutT (Lv.a (Lv.b (Lv.a (Lv.b (A 105))))).c T) H n D)
noncomputable def K105_prlrll (cal:Cal) (k:Nat) (m1:Nat):KR:=(cutK (Lv.a (Lv.a (Lv.b (Lv.a (Lv.b (A 105)))))).c (codeE P cal (codeF P cal m1) none 105 (cR (cL (cL (cR (cL (cR code105)))))) (Lv.b (Lv.a (Lv.a (Lv.b (Lv.a (Lv.b (A 105))))))) (K105_prlrl cal k m1) (K105_pxrlr cal k) (doneK P results105)))
noncomputable def K105_prlrllr (cal:Cal) (k:Nat) (m1:Nat):KR:=(cutK (Lv.b (Lv.a (Lv.a (Lv.b (Lv.a (Lv.b (A 105))))))).c (codeE P cal (codeF P cal m1) none 105 (cR (cR (cL (cL (cR (cL (cR code105))))))) (Lv.b (Lv.b (Lv.a (Lv.a (Lv.b (Lv.a (Lv.b (A 105)))))))) (K105_prlrl cal k m1) (K105_pxrlr cal k) (doneK P results105)))
noncomputable def K105_prlrllrr (cal:Cal) (k:Nat) (m1:Nat):KR:=(cutK (Lv.b (Lv.b (Lv.a (Lv.a (Lv.b (Lv.a (Lv.b (A 105)))))))).c (codeE P cal (codeF P cal m1) none 105 (cR (cR (cR (cL (cL (cR (cL (cR code105)))))))) (Lv.b (Lv.b (Lv.b (Lv.a (Lv.a (Lv.b (Lv.a (Lv.b (A 105))))))))) (K105_prlrl cal k m1) (K105_pxrlr cal k) (doneK P results105)))
noncomputable def K105_pxrlrllrrl (cal:Cal) (k:Nat) (m1:Nat):XR:=(upX 1 (K105_prlrllrr cal k m1) (K105_pxrlr cal k))
noncomputable def K105_prlrllrrll (cal:Cal) (k:Nat) (m1:Nat):KR:=(cutK (Lv.a (Lv.a (Lv.b (Lv.b (Lv.a (Lv.a (Lv.b (Lv.a (Lv.b (A 105)))))))))).c (codeE P cal (codeF P cal m1) none 105 (cR (cL (cL (cR (cR (cL (cL (cR (cL (cR code105)))))))))) (Lv.b (Lv.a (Lv.a (Lv.b (Lv.b (Lv.a (Lv.a (Lv.b (Lv.a (Lv.b (A 105))))))))))) (K105_prlrllrr cal k m1) (K105_pxrlrllrrl cal k m1) (doneK P results105)))
noncomputable def K105_prr (cal:Cal) (k:Nat):KR:=(cutK (Lv.b (Lv.b (A 105))).c (codeE P cal (codeF P cal k) none 105 (cR (cR (cR code105))) (Lv.b (Lv.b (Lv.b (A 105)))) (doneK P results105) X0 (doneK P results105)))
noncomputable def E105_1 (cal:Cal) (k m1:Nat):KR:=codeE P cal (codeF P cal m1) none 105 (cL (cL (cR (cL (cR code105))))) (Lv.a (Lv.a (Lv.b (Lv.a (Lv.b (A 105)))))) (K105_prlrl cal k m1) (K105_pxrlr cal k) (doneK P results105)
noncomputable def R105_1 (cal:Cal) (k m1:Nat):V4:=fun u0 u7 u8 u9 H n=>codeF P cal m1 (Lv.a (Lv.b (Lv.a (Lv.b (A 105))))) none 105 (cL (cR (cL (cR code105)))) (K105_pr cal k) (K105_pxrlr cal k) (doneK P results105) (Tr.set (Tr.set (Tr.set (Tr.set Tr.nil 9 (some u9)) 8 (some u8)) 7 (some u7)) 0 (some u0)) H n []
noncomputable def B105_1 (cal:Cal) (k m1:Nat) (b1:V4) (u0 u7 u8 u9:Value) (H:Hp) (n:Nat):Res:=
binK P .lss 3 (.tmp 9) (.tmp 8) u9 u8 fun v_5=>
ifK v_5 (
bindO (indexAddrV P 44 u7 u9) fun v_6=>
bindO (addrV v_6) fun a_8=>bindO (loadV P H 3 a_8) fun v_7=>
builtinK P .min [3,3] (Call.mk (Callee.builtin Builtin.min) #[(.tmp 13),(.tmp 14)] #[3,3]) 3 [u0,v_7] H n fun v_c H_d n_e=>
binK P .add 3 (.tmp 9) (.const (.int .i64 1)) u9 (.int .i64 1) fun v_g=>
b1 v_c u7 u8 v_g H_d n_e) (
some (u0,H,n))
noncomputable def C105_1 (cal:Cal) (k m1:Nat) (b1:V4) (u0 u7 u8 u9:Value) (H:Hp) (n:Nat):Res:=B105_1 cal k m1 b1 u0 u7 u8 u9 H n
noncomputable def S105_1 (cal:Cal) (k:Nat):Nat→V4:=fun m=>Nat.rec (motive:=fun _=>V4) (C105_1 cal k 0 (fun _ _ _ _ _ _=>none)) (fun m ih=>C105_1 cal k (m+1) ih) m
theorem h105_1 (cal:Cal) (k m1:Nat) (u0 u7 u8 u9:Value) (H:Hp) (n:Nat):labK (E105_1 cal k m1) (Tr.set (Tr.set (Tr.set (Tr.set Tr.nil 9 (some u9)) 8 (some u8)) 7 (some u7)) 0 (some u0)) H n []=C105_1 cal k m1 (R105_1 cal k m1) u0 u7 u8 u9 H n:=by
  refine Eq.trans (b:=B105_1 cal k m1 (R105_1 cal k m1) u0 u7 u8 u9 H n) (by kernel_rfl) ?_
  rw[C105_1]
theorem q105_1 (cal:Cal) (k:Nat):∀(m:Nat) (u0 u7 u8 u9:Value) (H:Hp) (n:Nat),labK (E105_1 cal k m) (Tr.set (Tr.set (Tr.set (Tr.set Tr.nil 9 (some u9)) 8 (some u8)) 7 (some u7)) 0 (some u0)) H n []=S105_1 cal k m u0 u7 u8 u9 H n
  | 0,u0,u7,u8,u9,H,n=>by
    rw[h105_1]
    have e:R105_1 cal k 0=fun _ _ _ _ _ _=>none:=by funext u0 u7 u8 u9 H n; kernel_rfl
    rw[e]; rfl
  | m+1,u0,u7,u8,u9,H,n=>by
    rw[h105_1]
    have e:R105_1 cal k (m+1)=S105_1 cal k m:=by
      funext u0 u7 u8 u9 H n
      have e:R105_1 cal k (m+1) u0 u7 u8 u9 H n=labK (E105_1 cal k m) (Tr.set (Tr.set (Tr.set (Tr.set Tr.nil 9 (some u9)) 8 (some u8)) 7 (some u7)) 0 (some u0)) H n []:=by kernel_rfl
      rw[e]; exact q105_1 ..
    rw[e]; rfl
noncomputable def B105_0 (cal:Cal) (k:Nat) (j1:V4) (v0 v1:Value) (H:Hp) (n:Nat):Res:=
bindO (lenV P 44 v1) fun v_3=>
j1 v0 v1 v_3 (.int .i64 0) H n
noncomputable def C105_0 (cal:Cal) (k:Nat) (v0 v1:Value) (H:Hp) (n:Nat):Res:=B105_0 cal k (S105_1 cal k k) v0 v1 H n
theorem h105_0 (cal:Cal) (k:Nat) (v0 v1:Value) (H:Hp) (n:Nat):bodyE P cal A (k+1) 105 [v0,v1] H n=C105_0 cal k v0 v1 H n:=by
  have h:bodyE P cal A (k+1) 105 [v0,v1] H n=B105_0 cal k (fun u0 u7 u8 u9 H n=>labK (E105_1 cal k k) (Tr.set (Tr.set (Tr.set (Tr.set Tr.nil 9 (some u9)) 8 (some u8)) 7 (some u7)) 0 (some u0)) H n []) v0 v1 H n:=by
    rw[body_eq (fn:=Go.Proofs.Try.f105) (c:=code105) (rs:=results105) (by kernel_rfl) (by kernel_rfl) (by kernel_rfl) (by kernel_rfl)]
    kernel_rfl
  rw[h,C105_0]
  have e1:(fun u0 u7 u8 u9 H n=>labK (E105_1 cal k k) (Tr.set (Tr.set (Tr.set (Tr.set Tr.nil 9 (some u9)) 8 (some u8)) 7 (some u7)) 0 (some u0)) H n [])=(S105_1 cal k k):=by funext u0 u7 u8 u9 H n; exact q105_1 ..
  rw[e1]
noncomputable def code106:Code:=codeOf 106
noncomputable def results106:List ResultVar:=resOf 106
noncomputable def K106_p (cal:Cal) (k:Nat):KR:=(cutK (A 106).c (codeE P cal (codeF P cal k) none 106 (cR code106) (Lv.b (A 106)) (doneK P results106) X0 (doneK P results106)))
noncomputable def K106_pr (cal:Cal) (k:Nat):KR:=(cutK (Lv.b (A 106)).c (codeE P cal (codeF P cal k) none 106 (cR (cR code106)) (Lv.b (Lv.b (A 106))) (doneK P results106) X0 (doneK P results106)))
noncomputable def K106_prl (cal:Cal) (k:Nat):KR:=(cutK (Lv.a (Lv.b (A 106))).c (codeE P cal (codeF P cal k) none 106 (cR (cL (cR code106))) (Lv.b (Lv.a (Lv.b (A 106)))) (K106_pr cal k) X0 (doneK P results106)))
noncomputable def K106_pxrlr (cal:Cal) (k:Nat):XR:=(upX 0 (K106_pr cal k) X0)
noncomputable def K106_prlrl (cal:Cal) (k:Nat) (m1:Nat):KR:=(fun T H n D=>codeF P cal m1 (Lv.a (Lv.b (Lv.a (Lv.b (A 106))))) none 106 (cL (cR (cL (cR code106)))) (K106_pr cal k) (K106_pxrlr cal k) (doneK P results106) (cutT (Lv.a (Lv.b (Lv.a (Lv.b (A 106))))).c T) H n D)
noncomputable def K106_prlrll (cal:Cal) (k:Nat) (m1:Nat):KR:=(cutK (Lv.a (Lv.a (Lv.b (Lv.a (Lv.b (A 106)))))).c (codeE P cal (codeF P cal m1) none 106 (cR (cL (cL (cR (cL (cR code106)))))) (Lv.b (Lv.a (Lv.a (Lv.b (Lv.a (Lv.b (A 106))))))) (K106_prlrl cal k m1) (K106_pxrlr cal k) (doneK P results106)))
noncomputable def K106_prlrllr (cal:Cal) (k:Nat) (m1:Nat):KR:=(cutK (Lv.b (Lv.a (Lv.a (Lv.b (Lv.a (Lv.b (A 106))))))).c (codeE P cal (codeF P cal m1) none 106 (cR (cR (cL (cL (cR (cL (cR code106))))))) (Lv.b (Lv.b (Lv.a (Lv.a (Lv.b (Lv.a (Lv.b (A 106)))))))) (K106_prlrl cal k m1) (K106_pxrlr cal k) (doneK P results106)))
noncomputable def K106_prlrllrr (cal:Cal) (k:Nat) (m1:Nat):KR:=(cutK (Lv.b (Lv.b (Lv.a (Lv.a (Lv.b (Lv.a (Lv.b (A 106)))))))).c (codeE P cal (codeF P cal m1) none 106 (cR (cR (cR (cL (cL (cR (cL (cR code106)))))))) (Lv.b (Lv.b (Lv.b (Lv.a (Lv.a (Lv.b (Lv.a (Lv.b (A 106))))))))) (K106_prlrl cal k m1) (K106_pxrlr cal k) (doneK P results106)))
noncomputable def K106_pxrlrllrrl (cal:Cal) (k:Nat) (m1:Nat):XR:=(upX 1 (K106_prlrllrr cal k m1) (K106_pxrlr cal k))
noncomputable def K106_prlrllrrll (cal:Cal) (k:Nat) (m1:Nat):KR:=(cutK (Lv.a (Lv.a (Lv.b (Lv.b (Lv.a (Lv.a (Lv.b (Lv.a (Lv.b (A 106)))))))))).c (codeE P cal (codeF P cal m1) none 106 (cR (cL (cL (cR (cR (cL (cL (cR (cL (cR code106)))))))))) (Lv.b (Lv.a (Lv.a (Lv.b (Lv.b (Lv.a (Lv.a (Lv.b (Lv.a (Lv.b (A 106))))))))))) (K106_prlrllrr cal k m1) (K106_pxrlrllrrl cal k m1) (doneK P results106)))
noncomputable def K106_prr (cal:Cal) (k:Nat):KR:=(cutK (Lv.b (Lv.b (A 106))).c (codeE P cal (codeF P cal k) none 106 (cR (cR (cR code106))) (Lv.b (Lv.b (Lv.b (A 106)))) (doneK P results106) X0 (doneK P results106)))
noncomputable def E106_1 (cal:Cal) (k m1:Nat):KR:=codeE P cal (codeF P cal m1) none 106 (cL (cL (cR (cL (cR code106))))) (Lv.a (Lv.a (Lv.b (Lv.a (Lv.b (A 106)))))) (K106_prlrl cal k m1) (K106_pxrlr cal k) (doneK P results106)
noncomputable def R106_1 (cal:Cal) (k m1:Nat):V4:=fun u0 u7 u8 u9 H n=>codeF P cal m1 (Lv.a (Lv.b (Lv.a (Lv.b (A 106))))) none 106 (cL (cR (cL (cR code106)))) (K106_pr cal k) (K106_pxrlr cal k) (doneK P results106) (Tr.set (Tr.set (Tr.set (Tr.set Tr.nil 9 (some u9)) 8 (some u8)) 7 (some u7)) 0 (some u0)) H n []
noncomputable def B106_1 (cal:Cal) (k m1:Nat) (b1:V4) (u0 u7 u8 u9:Value) (H:Hp) (n:Nat):Res:=
binK P .lss 3 (.tmp 9) (.tmp 8) u9 u8 fun v_5=>
ifK v_5 (
bindO (indexAddrV P 44 u7 u9) fun v_6=>
bindO (addrV v_6) fun a_8=>bindO (loadV P H 3 a_8) fun v_7=>
builtinK P .max [3,3] (Call.mk (Callee.builtin Builtin.max) #[(.tmp 13),(.tmp 14)] #[3,3]) 3 [u0,v_7] H n fun v_c H_d n_e=>
binK P .add 3 (.tmp 9) (.const (.int .i64 1)) u9 (.int .i64 1) fun v_g=>
b1 v_c u7 u8 v_g H_d n_e) (
some (u0,H,n))
noncomputable def C106_1 (cal:Cal) (k m1:Nat) (b1:V4) (u0 u7 u8 u9:Value) (H:Hp) (n:Nat):Res:=B106_1 cal k m1 b1 u0 u7 u8 u9 H n
noncomputable def S106_1 (cal:Cal) (k:Nat):Nat→V4:=fun m=>Nat.rec (motive:=fun _=>V4) (C106_1 cal k 0 (fun _ _ _ _ _ _=>none)) (fun m ih=>C106_1 cal k (m+1) ih) m
theorem h106_1 (cal:Cal) (k m1:Nat) (u0 u7 u8 u9:Value) (H:Hp) (n:Nat):labK (E106_1 cal k m1) (Tr.set (Tr.set (Tr.set (Tr.set Tr.nil 9 (some u9)) 8 (some u8)) 7 (some u7)) 0 (some u0)) H n []=C106_1 cal k m1 (R106_1 cal k m1) u0 u7 u8 u9 H n:=by
  refine Eq.trans (b:=B106_1 cal k m1 (R106_1 cal k m1) u0 u7 u8 u9 H n) (by kernel_rfl) ?_
  rw[C106_1]
theorem q106_1 (cal:Cal) (k:Nat):∀(m:Nat) (u0 u7 u8 u9:Value) (H:Hp) (n:Nat),labK (E106_1 cal k m) (Tr.set (Tr.set (Tr.set (Tr.set Tr.nil 9 (some u9)) 8 (some u8)) 7 (some u7)) 0 (some u0)) H n []=S106_1 cal k m u0 u7 u8 u9 H n
  | 0,u0,u7,u8,u9,H,n=>by
    rw[h106_1]
    have e:R106_1 cal k 0=fun _ _ _ _ _ _=>none:=by funext u0 u7 u8 u9 H n; kernel_rfl
    rw[e]; rfl
  | m+1,u0,u7,u8,u9,H,n=>by
    rw[h106_1]
    have e:R106_1 cal k (m+1)=S106_1 cal k m:=by
      funext u0 u7 u8 u9 H n
      have e:R106_1 cal k (m+1) u0 u7 u8 u9 H n=labK (E106_1 cal k m) (Tr.set (Tr.set (Tr.set (Tr.set Tr.nil 9 (some u9)) 8 (some u8)) 7 (some u7)) 0 (some u0)) H n []:=by kernel_rfl
      rw[e]; exact q106_1 ..
    rw[e]; rfl
noncomputable def B106_0 (cal:Cal) (k:Nat) (j1:V4) (v0 v1:Value) (H:Hp) (n:Nat):Res:=
bindO (lenV P 44 v1) fun v_3=>
j1 v0 v1 v_3 (.int .i64 0) H n
noncomputable def C106_0 (cal:Cal) (k:Nat) (v0 v1:Value) (H:Hp) (n:Nat):Res:=B106_0 cal k (S106_1 cal k k) v0 v1 H n
theorem h106_0 (cal:Cal) (k:Nat) (v0 v1:Value) (H:Hp) (n:Nat):bodyE P cal A (k+1) 106 [v0,v1] H n=C106_0 cal k v0 v1 H n:=by
  have h:bodyE P cal A (k+1) 106 [v0,v1] H n=B106_0 cal k (fun u0 u7 u8 u9 H n=>labK (E106_1 cal k k) (Tr.set (Tr.set (Tr.set (Tr.set Tr.nil 9 (some u9)) 8 (some u8)) 7 (some u7)) 0 (some u0)) H n []) v0 v1 H n:=by
    rw[body_eq (fn:=Go.Proofs.Try.f106) (c:=code106) (rs:=results106) (by kernel_rfl) (by kernel_rfl) (by kernel_rfl) (by kernel_rfl)]
    kernel_rfl
  rw[h,C106_0]
  have e1:(fun u0 u7 u8 u9 H n=>labK (E106_1 cal k k) (Tr.set (Tr.set (Tr.set (Tr.set Tr.nil 9 (some u9)) 8 (some u8)) 7 (some u7)) 0 (some u0)) H n [])=(S106_1 cal k k):=by funext u0 u7 u8 u9 H n; exact q106_1 ..
  rw[e1]
noncomputable def code110:Code:=codeOf 110
noncomputable def results110:List ResultVar:=resOf 110
noncomputable def K110_p (cal:Cal) (k:Nat):KR:=(cutK (A 110).c (codeE P cal (codeF P cal k) none 110 (cR code110) (Lv.b (A 110)) (doneK P results110) X0 (doneK P results110)))
noncomputable def K110_pr (cal:Cal) (k:Nat):KR:=(cutK (Lv.b (A 110)).c (codeE P cal (codeF P cal k) none 110 (cR (cR code110)) (Lv.b (Lv.b (A 110))) (doneK P results110) X0 (doneK P results110)))
noncomputable def B110_0 (cal:Cal) (k:Nat) (v0 v1:Value) (H:Hp) (n:Nat):Res:=
boxK 104 v0 H n fun v_1 H_2 n_3=>
boxK 3 v1 H_2 n_3 fun v_4 H_5 n_6=>
some ((Value.func (Fn.func 117) ⟨[]⟩ ⟨[v_1,v_4]⟩),H_5,n_6)
noncomputable def C110_0 (cal:Cal) (k:Nat) (v0 v1:Value) (H:Hp) (n:Nat):Res:=B110_0 cal k v0 v1 H n
theorem h110_0 (cal:Cal) (k:Nat) (v0 v1:Value) (H:Hp) (n:Nat):bodyE P cal A (k+1) 110 [v0,v1] H n=C110_0 cal k v0 v1 H n:=by
  have h:bodyE P cal A (k+1) 110 [v0,v1] H n=B110_0 cal k v0 v1 H n:=by
    rw[body_eq (fn:=Go.Proofs.Try.f110) (c:=code110) (rs:=results110) (by kernel_rfl) (by kernel_rfl) (by kernel_rfl) (by kernel_rfl)]
    kernel_rfl
  rw[h,C110_0]
noncomputable def code111:Code:=codeOf 111
noncomputable def results111:List ResultVar:=resOf 111
noncomputable def K111_p (cal:Cal) (k:Nat):KR:=(cutK (A 111).c (codeE P cal (codeF P cal k) none 111 (cR code111) (Lv.b (A 111)) (doneK P results111) X0 (doneK P results111)))
noncomputable def K111_pr (cal:Cal) (k:Nat):KR:=(cutK (Lv.b (A 111)).c (codeE P cal (codeF P cal k) none 111 (cR (cR code111)) (Lv.b (Lv.b (A 111))) (doneK P results111) X0 (doneK P results111)))
noncomputable def K111_prl (cal:Cal) (k:Nat):KR:=(cutK (Lv.a (Lv.b (A 111))).c (codeE P cal (codeF P cal k) none 111 (cR (cL (cR code111))) (Lv.b (Lv.a (Lv.b (A 111)))) (K111_pr cal k) X0 (doneK P results111)))
noncomputable def K111_pxrlr (cal:Cal) (k:Nat):XR:=(upX 0 (K111_pr cal k) X0)
noncomputable def K111_prlrl (cal:Cal) (k:Nat) (m1:Nat):KR:=(fun T H n D=>codeF P cal m1 (Lv.a (Lv.b (Lv.a (Lv.b (A 111))))) none 111 (cL (cR (cL (cR code111)))) (K111_pr cal k) (K111_pxrlr cal k) (doneK P results111) (cutT (Lv.a (Lv.b (Lv.a (Lv.b (A 111))))).c T) H n D)
noncomputable def K111_prlrll (cal:Cal) (k:Nat) (m1:Nat):KR:=(cutK (Lv.a (Lv.a (Lv.b (Lv.a (Lv.b (A 111)))))).c (codeE P cal (codeF P cal m1) none 111 (cR (cL (cL (cR (cL (cR code111)))))) (Lv.b (Lv.a (Lv.a (Lv.b (Lv.a (Lv.b (A 111))))))) (K111_prlrl cal k m1) (K111_pxrlr cal k) (doneK P results111)))
noncomputable def K111_prlrllr (cal:Cal) (k:Nat) (m1:Nat):KR:=(cutK (Lv.b (Lv.a (Lv.a (Lv.b (Lv.a (Lv.b (A 111))))))).c (codeE P cal (codeF P cal m1) none 111 (cR (cR (cL (cL (cR (cL (cR code111))))))) (Lv.b (Lv.b (Lv.a (Lv.a (Lv.b (Lv.a (Lv.b (A 111)))))))) (K111_prlrl cal k m1) (K111_pxrlr cal k) (doneK P results111)))
noncomputable def K111_prlrllrr (cal:Cal) (k:Nat) (m1:Nat):KR:=(cutK (Lv.b (Lv.b (Lv.a (Lv.a (Lv.b (Lv.a (Lv.b (A 111)))))))).c (codeE P cal (codeF P cal m1) none 111 (cR (cR (cR (cL (cL (cR (cL (cR code111)))))))) (Lv.b (Lv.b (Lv.b (Lv.a (Lv.a (Lv.b (Lv.a (Lv.b (A 111))))))))) (K111_prlrl cal k m1) (K111_pxrlr cal k) (doneK P results111)))
noncomputable def K111_pxrlrllrrl (cal:Cal) (k:Nat) (m1:Nat):XR:=(upX 1 (K111_prlrllrr cal k m1) (K111_pxrlr cal k))
noncomputable def K111_prlrllrrll (cal:Cal) (k:Nat) (m1:Nat):KR:=(cutK (Lv.a (Lv.a (Lv.b (Lv.b (Lv.a (Lv.a (Lv.b (Lv.a (Lv.b (A 111)))))))))).c (codeE P cal (codeF P cal m1) none 111 (cR (cL (cL (cR (cR (cL (cL (cR (cL (cR code111)))))))))) (Lv.b (Lv.a (Lv.a (Lv.b (Lv.b (Lv.a (Lv.a (Lv.b (Lv.a (Lv.b (A 111))))))))))) (K111_prlrllrr cal k m1) (K111_pxrlrllrrl cal k m1) (doneK P results111)))
noncomputable def K111_prlrllrrllr (cal:Cal) (k:Nat) (m1:Nat):KR:=(cutK (Lv.b (Lv.a (Lv.a (Lv.b (Lv.b (Lv.a (Lv.a (Lv.b (Lv.a (Lv.b (A 111))))))))))).c (codeE P cal (codeF P cal m1) none 111 (cR (cR (cL (cL (cR (cR (cL (cL (cR (cL (cR code111))))))))))) (Lv.b (Lv.b (Lv.a (Lv.a (Lv.b (Lv.b (Lv.a (Lv.a (Lv.b (Lv.a (Lv.b (A 111)))))))))))) (K111_prlrllrr cal k m1) (K111_pxrlrllrrl cal k m1) (doneK P results111)))
noncomputable def K111_prlrllrrllrrl (cal:Cal) (k:Nat) (m1:Nat):KR:=(cutK (Lv.a (Lv.b (Lv.b (Lv.a (Lv.a (Lv.b (Lv.b (Lv.a (Lv.a (Lv.b (Lv.a (Lv.b (A 111))))))))))))).c (codeE P cal (codeF P cal m1) none 111 (cR (cL (cR (cR (cL (cL (cR (cR (cL (cL (cR (cL (cR code111))))))))))))) (Lv.b (Lv.a (Lv.b (Lv.b (Lv.a (Lv.a (Lv.b (Lv.b (Lv.a (Lv.a (Lv.b (Lv.a (Lv.b (A 111)))))))))))))) (K111_prlrllrr cal k m1) (K111_pxrlrllrrl cal k m1) (doneK P results111)))
noncomputable def K111_prr (cal:Cal) (k:Nat):KR:=(cutK (Lv.b (Lv.b (A 111))).c (codeE P cal (codeF P cal k) none 111 (cR (cR (cR code111))) (Lv.b (Lv.b (Lv.b (A 111)))) (doneK P results111) X0 (doneK P results111)))
noncomputable def E111_1 (cal:Cal) (k m1:Nat):KR:=codeE P cal (codeF P cal m1) none 111 (cL (cL (cR (cL (cR code111))))) (Lv.a (Lv.a (Lv.b (Lv.a (Lv.b (A 111)))))) (K111_prlrl cal k m1) (K111_pxrlr cal k) (doneK P results111)
noncomputable def R111_1 (cal:Cal) (k m1:Nat):V4:=fun u0 u3 u11 u12 H n=>codeF P cal m1 (Lv.a (Lv.b (Lv.a (Lv.b (A 111))))) none 111 (cL (cR (cL (cR code111)))) (K111_pr cal k) (K111_pxrlr cal k) (doneK P results111) (Tr.set (Tr.set (Tr.set (Tr.set Tr.nil 12 (some u12)) 11 (some u11)) 3 (some u3)) 0 (some u0)) H n []
noncomputable def B111_1 (cal:Cal) (k m1:Nat) (b1:V4) (u0 u3 u11 u12:Value) (H:Hp) (n:Nat):Res:=
binK P .lss 3 (.tmp 12) (.tmp 11) u12 u11 fun v_d=>
ifK v_d (
bindO (addrV u3) fun a_i=>bindO (loadV P H 110 a_i) fun v_h=>
callFK P cal 69 [u0,v_h,u12] H n fun v_k H_l n_m=>
ifK v_k (
some ((.bool false),H_l,n_m)) (
binK P .add 3 (.tmp 12) (.const (.int .i64 1)) u12 (.int .i64 1) fun v_o=>
b1 u0 u3 u11 v_o H_l n_m)) (
some ((.bool true),H,n))
noncomputable def C111_1 (cal:Cal) (k m1:Nat) (b1:V4) (u0 u3 u11 u12:Value) (H:Hp) (n:Nat):Res:=B111_1 cal k m1 b1 u0 u3 u11 u12 H n
noncomputable def S111_1 (cal:Cal) (k:Nat):Nat→V4:=fun m=>Nat.rec (motive:=fun _=>V4) (C111_1 cal k 0 (fun _ _ _ _ _ _=>none)) (fun m ih=>C111_1 cal k (m+1) ih) m
theorem h111_1 (cal:Cal) (k m1:Nat) (u0 u3 u11 u12:Value) (H:Hp) (n:Nat):labK (E111_1 cal k m1) (Tr.set (Tr.set (Tr.set (Tr.set Tr.nil 12 (some u12)) 11 (some u11)) 3 (some u3)) 0 (some u0)) H n []=C111_1 cal k m1 (R111_1 cal k m1) u0 u3 u11 u12 H n:=by
  refine Eq.trans (b:=B111_1 cal k m1 (R111_1 cal k m1) u0 u3 u11 u12 H n) (by kernel_rfl) ?_
  rw[C111_1]
theorem q111_1 (cal:Cal) (k:Nat):∀(m:Nat) (u0 u3 u11 u12:Value) (H:Hp) (n:Nat),labK (E111_1 cal k m) (Tr.set (Tr.set (Tr.set (Tr.set Tr.nil 12 (some u12)) 11 (some u11)) 3 (some u3)) 0 (some u0)) H n []=S111_1 cal k m u0 u3 u11 u12 H n
  | 0,u0,u3,u11,u12,H,n=>by
    rw[h111_1]
    have e:R111_1 cal k 0=fun _ _ _ _ _ _=>none:=by funext u0 u3 u11 u12 H n; kernel_rfl
    rw[e]; rfl
  | m+1,u0,u3,u11,u12,H,n=>by
    rw[h111_1]
    have e:R111_1 cal k (m+1)=S111_1 cal k m:=by
      funext u0 u3 u11 u12 H n
      have e:R111_1 cal k (m+1) u0 u3 u11 u12 H n=labK (E111_1 cal k m) (Tr.set (Tr.set (Tr.set (Tr.set Tr.nil 12 (some u12)) 11 (some u11)) 3 (some u3)) 0 (some u0)) H n []:=by kernel_rfl
      rw[e]; exact q111_1 ..
    rw[e]; rfl
noncomputable def B111_0 (cal:Cal) (k:Nat) (j1:V4) (v0 v1:Value) (H:Hp) (n:Nat):Res:=
boxK 110 v1 H n fun v_1 H_2 n_3=>
bindO (nilV v0) fun v_6=>
bindO (fieldAddrV P 116 v_6 0) fun v_7=>
bindO (fieldAddrV P 35 v_7 0) fun v_8=>
bindO (addrV v_8) fun a_a=>bindO (loadV P H_2 31 a_a) fun v_9=>
bindO (lenV P 31 v_9) fun v_b=>
j1 v0 v_1 v_b (.int .i64 0) H_2 n_3
noncomputable def C111_0 (cal:Cal) (k:Nat) (v0 v1:Value) (H:Hp) (n:Nat):Res:=B111_0 cal k (S111_1 cal k k) v0 v1 H n
theorem h111_0 (cal:Cal) (k:Nat) (v0 v1:Value) (H:Hp) (n:Nat):bodyE P cal A (k+1) 111 [v0,v1] H n=C111_0 cal k v0 v1 H n:=by
  have h:bodyE P cal A (k+1) 111 [v0,v1] H n=B111_0 cal k (fun u0 u3 u11 u12 H n=>labK (E111_1 cal k k) (Tr.set (Tr.set (Tr.set (Tr.set Tr.nil 12 (some u12)) 11 (some u11)) 3 (some u3)) 0 (some u0)) H n []) v0 v1 H n:=by
    rw[body_eq (fn:=Go.Proofs.Try.f111) (c:=code111) (rs:=results111) (by kernel_rfl) (by kernel_rfl) (by kernel_rfl) (by kernel_rfl)]
    kernel_rfl
  rw[h,C111_0]
  have e1:(fun u0 u3 u11 u12 H n=>labK (E111_1 cal k k) (Tr.set (Tr.set (Tr.set (Tr.set Tr.nil 12 (some u12)) 11 (some u11)) 3 (some u3)) 0 (some u0)) H n [])=(S111_1 cal k k):=by funext u0 u3 u11 u12 H n; exact q111_1 ..
  rw[e1]
noncomputable def code113:Code:=codeOf 113
noncomputable def results113:List ResultVar:=resOf 113
noncomputable def K113_p (cal:Cal) (k:Nat):KR:=(cutK (A 113).c (codeE P cal (codeF P cal k) none 113 (cR code113) (Lv.b (A 113)) (doneK P results113) X0 (doneK P results113)))
noncomputable def K113_pr (cal:Cal) (k:Nat):KR:=(cutK (Lv.b (A 113)).c (codeE P cal (codeF P cal k) none 113 (cR (cR code113)) (Lv.b (Lv.b (A 113))) (doneK P results113) X0 (doneK P results113)))
noncomputable def B113_0 (cal:Cal) (k:Nat) (v0 v1:Value) (H:Hp) (n:Nat):Res:=
boxK 104 v0 H n fun v_1 H_2 n_3=>
boxK 3 v1 H_2 n_3 fun v_4 H_5 n_6=>
some ((Value.func (Fn.func 119) ⟨[]⟩ ⟨[v_4,v_1]⟩),H_5,n_6)
noncomputable def C113_0 (cal:Cal) (k:Nat) (v0 v1:Value) (H:Hp) (n:Nat):Res:=B113_0 cal k v0 v1 H n
theorem h113_0 (cal:Cal) (k:Nat) (v0 v1:Value) (H:Hp) (n:Nat):bodyE P cal A (k+1) 113 [v0,v1] H n=C113_0 cal k v0 v1 H n:=by
  have h:bodyE P cal A (k+1) 113 [v0,v1] H n=B113_0 cal k v0 v1 H n:=by
    rw[body_eq (fn:=Go.Proofs.Try.f113) (c:=code113) (rs:=results113) (by kernel_rfl) (by kernel_rfl) (by kernel_rfl) (by kernel_rfl)]
    kernel_rfl
  rw[h,C113_0]
noncomputable def code114:Code:=codeOf 114
noncomputable def results114:List ResultVar:=resOf 114
noncomputable def K114_p (cal:Cal) (k:Nat):KR:=(cutK (A 114).c (codeE P cal (codeF P cal k) none 114 (cR code114) (Lv.b (A 114)) (doneK P results114) X0 (doneK P results114)))
noncomputable def K114_pr (cal:Cal) (k:Nat):KR:=(cutK (Lv.b (A 114)).c (codeE P cal (codeF P cal k) none 114 (cR (cR code114)) (Lv.b (Lv.b (A 114))) (doneK P results114) X0 (doneK P results114)))
noncomputable def B114_0 (cal:Cal) (k:Nat) (v0:Value) (H:Hp) (n:Nat):Res:=
boxK 53 v0 H n fun v_1 H_2 n_3=>
bindO (fieldAddrV P 53 v_1 0) fun v_5=>
bindO (addrV v_5) fun a_7=>bindO (loadV P H_2 3 a_7) fun v_6=>
binK P .geq 3 (.tmp 4) (.const (.int .i64 0)) v_6 (.int .i64 0) fun v_8=>
guardK v_8 true (fun k_a=>
bindO (fieldAddrV P 53 v_1 0) fun v_e=>
k_a v_e H_2 n_3) H_2 n_3 fun v_b H_c n_d=>
guardK v_8 true (fun k_f=>
bindO (addrV v_b) fun a_k=>bindO (loadV P H_c 3 a_k) fun v_j=>
k_f v_j H_c n_d) H_c n_d fun v_g H_h n_i=>
guardK v_8 true (fun k_l=>
bindO (fieldAddrV P 53 v_1 1) fun v_p=>
k_l v_p H_h n_i) H_h n_i fun v_m H_n n_o=>
guardK v_8 true (fun k_q=>
bindO (addrV v_m) fun a_v=>bindO (loadV P H_n 3 a_v) fun v_u=>
k_q v_u H_n n_o) H_n n_o fun v_r H_s n_t=>
guardK v_8 true (fun k_w=>
binK P .leq 3 (.tmp 8) (.tmp 10) v_g v_r fun v_10=>
k_w v_10 H_s n_t) H_s n_t fun v_x H_y n_z=>
bindO (pickV v_8 v_x (.bool false)) fun v_11=>
guardK v_11 true (fun k_13=>
bindO (fieldAddrV P 53 v_1 1) fun v_17=>
k_13 v_17 H_y n_z) H_y n_z fun v_14 H_15 n_16=>
guardK v_11 true (fun k_18=>
bindO (addrV v_14) fun a_1d=>bindO (loadV P H_15 3 a_1d) fun v_1c=>
k_18 v_1c H_15 n_16) H_15 n_16 fun v_19 H_1a n_1b=>
guardK v_11 true (fun k_1e=>
binK P .leq 3 (.tmp 15) (.const (.int .i64 1000)) v_19 (.int .i64 1000) fun v_1i=>
k_1e v_1i H_1a n_1b) H_1a n_1b fun v_1f H_1g n_1h=>
bindO (pickV v_11 v_1f (.bool false)) fun v_1j=>
some (v_1j,H_1g,n_1h)
noncomputable def C114_0 (cal:Cal) (k:Nat) (v0:Value) (H:Hp) (n:Nat):Res:=B114_0 cal k v0 H n
theorem h114_0 (cal:Cal) (k:Nat) (v0:Value) (H:Hp) (n:Nat):bodyE P cal A (k+1) 114 [v0] H n=C114_0 cal k v0 H n:=by
  have h:bodyE P cal A (k+1) 114 [v0] H n=B114_0 cal k v0 H n:=by
    rw[body_eq (fn:=Go.Proofs.Try.f114) (c:=code114) (rs:=results114) (by kernel_rfl) (by kernel_rfl) (by kernel_rfl) (by kernel_rfl)]
    kernel_rfl
  rw[h,C114_0]
noncomputable def code115:Code:=codeOf 115
noncomputable def results115:List ResultVar:=resOf 115
noncomputable def K115_p (cal:Cal) (k:Nat):KR:=(cutK (A 115).c (codeE P cal (codeF P cal k) none 115 (cR code115) (Lv.b (A 115)) (doneK P results115) X0 (doneK P results115)))
noncomputable def K115_pr (cal:Cal) (k:Nat):KR:=(cutK (Lv.b (A 115)).c (codeE P cal (codeF P cal k) none 115 (cR (cR code115)) (Lv.b (Lv.b (A 115))) (doneK P results115) X0 (doneK P results115)))
noncomputable def K115_prr (cal:Cal) (k:Nat):KR:=(cutK (Lv.b (Lv.b (A 115))).c (codeE P cal (codeF P cal k) none 115 (cR (cR (cR code115))) (Lv.b (Lv.b (Lv.b (A 115)))) (doneK P results115) X0 (doneK P results115)))
noncomputable def K115_prrl (cal:Cal) (k:Nat):KR:=(cutK (Lv.a (Lv.b (Lv.b (A 115)))).c (codeE P cal (codeF P cal k) none 115 (cR (cL (cR (cR code115)))) (Lv.b (Lv.a (Lv.b (Lv.b (A 115))))) (K115_prr cal k) X0 (doneK P results115)))
noncomputable def K115_pxrrlr (cal:Cal) (k:Nat):XR:=(upX 0 (K115_prr cal k) X0)
noncomputable def K115_prrlrl (cal:Cal) (k:Nat) (m1:Nat):KR:=(fun T H n D=>codeF P cal m1 (Lv.a (Lv.b (Lv.a (Lv.b (Lv.b (A 115)))))) none 115 (cL (cR (cL (cR (cR code115))))) (K115_prr cal k) (K115_pxrrlr cal k) (doneK P results115) (cutT (Lv.a (Lv.b (Lv.a (Lv.b (Lv.b (A 115)))))).c T) H n D)
noncomputable def K115_prrlrll (cal:Cal) (k:Nat) (m1:Nat):KR:=(cutK (Lv.a (Lv.a (Lv.b (Lv.a (Lv.b (Lv.b (A 115))))))).c (codeE P cal (codeF P cal m1) none 115 (cR (cL (cL (cR (cL (cR (cR code115))))))) (Lv.b (Lv.a (Lv.a (Lv.b (Lv.a (Lv.b (Lv.b (A 115)))))))) (K115_prrlrl cal k m1) (K115_pxrrlr cal k) (doneK P results115)))
noncomputable def K115_prrlrllr (cal:Cal) (k:Nat) (m1:Nat):KR:=(cutK (Lv.b (Lv.a (Lv.a (Lv.b (Lv.a (Lv.b (Lv.b (A 115)))))))).c (codeE P cal (codeF P cal m1) none 115 (cR (cR (cL (cL (cR (cL (cR (cR code115)))))))) (Lv.b (Lv.b (Lv.a (Lv.a (Lv.b (Lv.a (Lv.b (Lv.b (A 115))))))))) (K115_prrlrl cal k m1) (K115_pxrrlr cal k) (doneK P results115)))
noncomputable def K115_prrlrllrr (cal:Cal) (k:Nat) (m1:Nat):KR:=(cutK (Lv.b (Lv.b (Lv.a (Lv.a (Lv.b (Lv.a (Lv.b (Lv.b (A 115))))))))).c (codeE P cal (codeF P cal m1) none 115 (cR (cR (cR (cL (cL (cR (cL (cR (cR code115))))))))) (Lv.b (Lv.b (Lv.b (Lv.a (Lv.a (Lv.b (Lv.a (Lv.b (Lv.b (A 115)))))))))) (K115_prrlrl cal k m1) (K115_pxrrlr cal k) (doneK P results115)))
noncomputable def K115_pxrrlrllrrl (cal:Cal) (k:Nat) (m1:Nat):XR:=(upX 1 (K115_prrlrllrr cal k m1) (K115_pxrrlr cal k))
noncomputable def K115_prrlrllrrll (cal:Cal) (k:Nat) (m1:Nat):KR:=(cutK (Lv.a (Lv.a (Lv.b (Lv.b (Lv.a (Lv.a (Lv.b (Lv.a (Lv.b (Lv.b (A 115))))))))))).c (codeE P cal (codeF P cal m1) none 115 (cR (cL (cL (cR (cR (cL (cL (cR (cL (cR (cR code115))))))))))) (Lv.b (Lv.a (Lv.a (Lv.b (Lv.b (Lv.a (Lv.a (Lv.b (Lv.a (Lv.b (Lv.b (A 115)))))))))))) (K115_prrlrllrr cal k m1) (K115_pxrrlrllrrl cal k m1) (doneK P results115)))
noncomputable def K115_prrr (cal:Cal) (k:Nat):KR:=(cutK (Lv.b (Lv.b (Lv.b (A 115)))).c (codeE P cal (codeF P cal k) none 115 (cR (cR (cR (cR code115)))) (Lv.b (Lv.b (Lv.b (Lv.b (A 115))))) (doneK P results115) X0 (doneK P results115)))
noncomputable def E115_1 (cal:Cal) (k m1:Nat):KR:=codeE P cal (codeF P cal m1) none 115 (cL (cL (cR (cL (cR (cR code115)))))) (Lv.a (Lv.a (Lv.b (Lv.a (Lv.b (Lv.b (A 115))))))) (K115_prrlrl cal k m1) (K115_pxrrlr cal k) (doneK P results115)
noncomputable def R115_1 (cal:Cal) (k m1:Nat):V3:=fun u4 u5 u10 H n=>codeF P cal m1 (Lv.a (Lv.b (Lv.a (Lv.b (Lv.b (A 115)))))) none 115 (cL (cR (cL (cR (cR code115))))) (K115_prr cal k) (K115_pxrrlr cal k) (doneK P results115) (Tr.set (Tr.set (Tr.set Tr.nil 10 (some u10)) 5 (some u5)) 4 (some u4)) H n []
noncomputable def B115_1 (cal:Cal) (k m1:Nat) (b1:V3) (u4 u5 u10:Value) (H:Hp) (n:Nat):Res:=
binK P .lss 3 (.tmp 10) (.const (.int .i64 8)) u10 (.int .i64 8) fun v_h=>
ifK v_h (
bindO (addrV u5) fun a_l=>bindO (loadV P H 112 a_l) fun v_m=>
bindO (addrV u5) fun a_o=>bindO (loadV P H 112 a_o) fun v_p=>
bindO (fieldAddrV P 112 u5 2) fun v_r=>
effK P [(.l 112 a_o),(.l 112 a_l)] H n (fun H_s n_t k_u=>
callFK P cal 121 [] H_s n_t fun v_y H_z n_10=>
k_u v_y H_z n_10) fun v_v H_w n_x=>
effK P [(.l 112 a_o)] H_w n_x (fun H_11 n_12 k_13=>
callFK P cal 120 [v_m,u10,v_v] H_11 n_12 fun v_17 H_18 n_19=>
k_13 v_17 H_18 n_19) fun v_14 H_15 n_16=>
effK P [(.l 112 a_o)] H_15 n_16 (fun H_1a n_1b k_1c=>
callFK P cal 122 [] H_1a n_1b fun v_1g H_1h n_1i=>
k_1c v_1g H_1h n_1i) fun v_1d H_1e n_1f=>
callFK P cal 120 [v_p,u10,v_1d] H_1e n_1f fun v_1j H_1k n_1l=>
bindO (buildP P 53 [(0,v_14),(1,v_1j)]) fun v_1m=>
bindO (indexAddrV P 110 v_r u10) fun v_1n=>
bindO (storeP P 53 v_1n v_1m H_1k) fun H_1p=>
binK P .add 3 (.tmp 10) (.const (.int .i64 1)) u10 (.int .i64 1) fun v_1q=>
b1 u4 u5 v_1q H_1p n_1l) (
bindO (addrV u5) fun a_1t=>bindO (loadV P H 112 a_1t) fun v_1s=>
bindO (storeP P 112 u4 v_1s H) fun H_1v=>
bindO (resV P (Tr.set Tr.nil 4 (some u4)) H_1v results115) fun v_1w=>some (oneV v_1w,H_1v,n))
noncomputable def C115_1 (cal:Cal) (k m1:Nat) (b1:V3) (u4 u5 u10:Value) (H:Hp) (n:Nat):Res:=B115_1 cal k m1 b1 u4 u5 u10 H n
noncomputable def S115_1 (cal:Cal) (k:Nat):Nat→V3:=fun m=>Nat.rec (motive:=fun _=>V3) (C115_1 cal k 0 (fun _ _ _ _ _=>none)) (fun m ih=>C115_1 cal k (m+1) ih) m
theorem h115_1 (cal:Cal) (k m1:Nat) (u4 u5 u10:Value) (H:Hp) (n:Nat):labK (E115_1 cal k m1) (Tr.set (Tr.set (Tr.set Tr.nil 10 (some u10)) 5 (some u5)) 4 (some u4)) H n []=C115_1 cal k m1 (R115_1 cal k m1) u4 u5 u10 H n:=by
  refine Eq.trans (b:=B115_1 cal k m1 (R115_1 cal k m1) u4 u5 u10 H n) (by kernel_rfl) ?_
  rw[C115_1]
theorem q115_1 (cal:Cal) (k:Nat):∀(m:Nat) (u4 u5 u10:Value) (H:Hp) (n:Nat),labK (E115_1 cal k m) (Tr.set (Tr.set (Tr.set Tr.nil 10 (some u10)) 5 (some u5)) 4 (some u4)) H n []=S115_1 cal k m u4 u5 u10 H n
  | 0,u4,u5,u10,H,n=>by
    rw[h115_1]
    have e:R115_1 cal k 0=fun _ _ _ _ _=>none:=by funext u4 u5 u10 H n; kernel_rfl
    rw[e]; rfl
  | m+1,u4,u5,u10,H,n=>by
    rw[h115_1]
    have e:R115_1 cal k (m+1)=S115_1 cal k m:=by
      funext u4 u5 u10 H n
      have e:R115_1 cal k (m+1) u4 u5 u10 H n=labK (E115_1 cal k m) (Tr.set (Tr.set (Tr.set Tr.nil 10 (some u10)) 5 (some u5)) 4 (some u4)) H n []:=by kernel_rfl
      rw[e]; exact q115_1 ..
    rw[e]; rfl
noncomputable def B115_0 (cal:Cal) (k:Nat) (j1:V3) (v0 v1:Value) (H:Hp) (n:Nat):Res:=
boxK 110 v1 H n fun v_1 H_2 n_3=>
allocK P 112 H_2 n_3 fun v_4 H_5 n_6=>
bindO (addrV v_1) fun a_9=>bindO (loadV P H_5 110 a_9) fun v_8=>
bindO (buildP P 112 [(0,v0),(1,v_8)]) fun v_a=>
allocK P 112 H_5 n_6 fun v_b H_c n_d=>
bindO (storeP P 112 v_b v_a H_c) fun H_f=>
j1 v_4 v_b (.int .i64 0) H_f n_d
noncomputable def C115_0 (cal:Cal) (k:Nat) (v0 v1:Value) (H:Hp) (n:Nat):Res:=B115_0 cal k (S115_1 cal k k) v0 v1 H n
theorem h115_0 (cal:Cal) (k:Nat) (v0 v1:Value) (H:Hp) (n:Nat):bodyE P cal A (k+1) 115 [v0,v1] H n=C115_0 cal k v0 v1 H n:=by
  have h:bodyE P cal A (k+1) 115 [v0,v1] H n=B115_0 cal k (fun u4 u5 u10 H n=>labK (E115_1 cal k k) (Tr.set (Tr.set (Tr.set Tr.nil 10 (some u10)) 5 (some u5)) 4 (some u4)) H n []) v0 v1 H n:=by
    rw[body_eq (fn:=Go.Proofs.Try.f115) (c:=code115) (rs:=results115) (by kernel_rfl) (by kernel_rfl) (by kernel_rfl) (by kernel_rfl)]
    kernel_rfl
  rw[h,C115_0]
  have e1:(fun u4 u5 u10 H n=>labK (E115_1 cal k k) (Tr.set (Tr.set (Tr.set Tr.nil 10 (some u10)) 5 (some u5)) 4 (some u4)) H n [])=(S115_1 cal k k):=by funext u4 u5 u10 H n; exact q115_1 ..
  rw[e1]
noncomputable def code117:Code:=codeOf 117
noncomputable def results117:List ResultVar:=resOf 117
noncomputable def K117_p (cal:Cal) (k:Nat):KR:=(cutK (A 117).c (codeE P cal (codeF P cal k) none 117 (cR code117) (Lv.b (A 117)) (doneK P results117) X0 (doneK P results117)))
noncomputable def K117_pr (cal:Cal) (k:Nat):KR:=(cutK (Lv.b (A 117)).c (codeE P cal (codeF P cal k) none 117 (cR (cR code117)) (Lv.b (Lv.b (A 117))) (doneK P results117) X0 (doneK P results117)))
noncomputable def K117_prr (cal:Cal) (k:Nat):KR:=(cutK (Lv.b (Lv.b (A 117))).c (codeE P cal (codeF P cal k) none 117 (cR (cR (cR code117))) (Lv.b (Lv.b (Lv.b (A 117)))) (doneK P results117) X0 (doneK P results117)))
noncomputable def B117_0 (cal:Cal) (k:Nat) (v0 v1 v2:Value) (H:Hp) (n:Nat):Res:=
boxK 174 v0 H n fun v_1 H_2 n_3=>
allocK P 175 H_2 n_3 fun v_4 H_5 n_6=>
bindO (storeP P 175 v_4 (Value.func (Fn.func 118) ⟨[]⟩ ⟨[v1,v_1,v_4]⟩) H_5) fun H_9=>
bindO (addrV v_4) fun a_a=>bindO (loadV P H_9 175 a_a) fun v_b=>
bindO (buildP P 110 []) fun v_c=>
bindO (addrV v2) fun a_d=>bindO (loadV P H_9 3 a_d) fun v_e=>
effK P [(.l 3 a_d),(.l 175 a_a)] H_9 n_6 (fun H_f n_g k_h=>
callFK P cal 101 [] H_f n_g fun v_l H_m n_n=>
k_h v_l H_m n_n) fun v_i H_j n_k=>
callVK P cal v_b [v_i,v_c,(.int .i64 0),v_e] H_j n_k fun v_o H_p n_q=>
some ((Value.tuple ⟨[]⟩),H_p,n_q)
noncomputable def C117_0 (cal:Cal) (k:Nat) (v0 v1 v2:Value) (H:Hp) (n:Nat):Res:=B117_0 cal k v0 v1 v2 H n
theorem h117_0 (cal:Cal) (k:Nat) (v0 v1 v2:Value) (H:Hp) (n:Nat):bodyE P cal A (k+1) 117 [v0,v1,v2] H n=C117_0 cal k v0 v1 v2 H n:=by
  have h:bodyE P cal A (k+1) 117 [v0,v1,v2] H n=B117_0 cal k v0 v1 v2 H n:=by
    rw[body_eq (fn:=Go.Proofs.Try.f117) (c:=code117) (rs:=results117) (by kernel_rfl) (by kernel_rfl) (by kernel_rfl) (by kernel_rfl)]
    kernel_rfl
  rw[h,C117_0]
noncomputable def code118:Code:=codeOf 118
noncomputable def results118:List ResultVar:=resOf 118
noncomputable def K118_p (cal:Cal) (k:Nat):KR:=(cutK (A 118).c (codeE P cal (codeF P cal k) none 118 (cR code118) (Lv.b (A 118)) (doneK P results118) X0 (doneK P results118)))
noncomputable def K118_pr (cal:Cal) (k:Nat):KR:=(cutK (Lv.b (A 118)).c (codeE P cal (codeF P cal k) none 118 (cR (cR code118)) (Lv.b (Lv.b (A 118))) (doneK P results118) X0 (doneK P results118)))
noncomputable def K118_prl (cal:Cal) (k:Nat):KR:=(cutK (Lv.a (Lv.b (A 118))).c (codeE P cal (codeF P cal k) none 118 (cR (cL (cR code118))) (Lv.b (Lv.a (Lv.b (A 118)))) (K118_pr cal k) X0 (doneK P results118)))
noncomputable def K118_prlrl (cal:Cal) (k:Nat):KR:=(cutK (Lv.a (Lv.b (Lv.a (Lv.b (A 118))))).c (codeE P cal (codeF P cal k) none 118 (cR (cL (cR (cL (cR code118))))) (Lv.b (Lv.a (Lv.b (Lv.a (Lv.b (A 118)))))) (K118_pr cal k) X0 (doneK P results118)))
noncomputable def K118_prr (cal:Cal) (k:Nat):KR:=(cutK (Lv.b (Lv.b (A 118))).c (codeE P cal (codeF P cal k) none 118 (cR (cR (cR code118))) (Lv.b (Lv.b (Lv.b (A 118)))) (doneK P results118) X0 (doneK P results118)))
noncomputable def K118_prrl (cal:Cal) (k:Nat):KR:=(cutK (Lv.a (Lv.b (Lv.b (A 118)))).c (codeE P cal (codeF P cal k) none 118 (cR (cL (cR (cR code118)))) (Lv.b (Lv.a (Lv.b (Lv.b (A 118))))) (K118_prr cal k) X0 (doneK P results118)))
noncomputable def K118_prrlrl (cal:Cal) (k:Nat):KR:=(cutK (Lv.a (Lv.b (Lv.a (Lv.b (Lv.b (A 118)))))).c (codeE P cal (codeF P cal k) none 118 (cR (cL (cR (cL (cR (cR code118)))))) (Lv.b (Lv.a (Lv.b (Lv.a (Lv.b (Lv.b (A 118))))))) (K118_prr cal k) X0 (doneK P results118)))
noncomputable def K118_prrr (cal:Cal) (k:Nat):KR:=(cutK (Lv.b (Lv.b (Lv.b (A 118)))).c (codeE P cal (codeF P cal k) none 118 (cR (cR (cR (cR code118)))) (Lv.b (Lv.b (Lv.b (Lv.b (A 118))))) (doneK P results118) X0 (doneK P results118)))
noncomputable def K118_prrrl (cal:Cal) (k:Nat):KR:=(cutK (Lv.a (Lv.b (Lv.b (Lv.b (A 118))))).c (codeE P cal (codeF P cal k) none 118 (cR (cL (cR (cR (cR code118))))) (Lv.b (Lv.a (Lv.b (Lv.b (Lv.b (A 118)))))) (K118_prrr cal k) X0 (doneK P results118)))
noncomputable def K118_prrrlrl (cal:Cal) (k:Nat):KR:=(cutK (Lv.a (Lv.b (Lv.a (Lv.b (Lv.b (Lv.b (A 118))))))).c (codeE P cal (codeF P cal k) none 118 (cR (cL (cR (cL (cR (cR (cR code118))))))) (Lv.b (Lv.a (Lv.b (Lv.a (Lv.b (Lv.b (Lv.b (A 118)))))))) (K118_prrr cal k) X0 (doneK P results118)))
noncomputable def K118_prrrr (cal:Cal) (k:Nat):KR:=(cutK (Lv.b (Lv.b (Lv.b (Lv.b (A 118))))).c (codeE P cal (codeF P cal k) none 118 (cR (cR (cR (cR (cR code118))))) (Lv.b (Lv.b (Lv.b (Lv.b (Lv.b (A 118)))))) (doneK P results118) X0 (doneK P results118)))
noncomputable def K118_prrrrl (cal:Cal) (k:Nat):KR:=(cutK (Lv.a (Lv.b (Lv.b (Lv.b (Lv.b (A 118)))))).c (codeE P cal (codeF P cal k) none 118 (cR (cL (cR (cR (cR (cR code118)))))) (Lv.b (Lv.a (Lv.b (Lv.b (Lv.b (Lv.b (A 118))))))) (K118_prrrr cal k) X0 (doneK P results118)))
noncomputable def K118_pxrrrrlr (cal:Cal) (k:Nat):XR:=(upX 0 (K118_prrrr cal k) X0)
noncomputable def K118_prrrrlrl (cal:Cal) (k:Nat) (m1:Nat):KR:=(fun T H n D=>codeF P cal m1 (Lv.a (Lv.b (Lv.a (Lv.b (Lv.b (Lv.b (Lv.b (A 118)))))))) none 118 (cL (cR (cL (cR (cR (cR (cR code118))))))) (K118_prrrr cal k) (K118_pxrrrrlr cal k) (doneK P results118) (cutT (Lv.a (Lv.b (Lv.a (Lv.b (Lv.b (Lv.b (Lv.b (A 118)))))))).c T) H n D)
noncomputable def K118_prrrrlrll (cal:Cal) (k:Nat) (m1:Nat):KR:=(cutK (Lv.a (Lv.a (Lv.b (Lv.a (Lv.b (Lv.b (Lv.b (Lv.b (A 118))))))))).c (codeE P cal (codeF P cal m1) none 118 (cR (cL (cL (cR (cL (cR (cR (cR (cR code118))))))))) (Lv.b (Lv.a (Lv.a (Lv.b (Lv.a (Lv.b (Lv.b (Lv.b (Lv.b (A 118)))))))))) (K118_prrrrlrl cal k m1) (K118_pxrrrrlr cal k) (doneK P results118)))
noncomputable def K118_prrrrlrllr (cal:Cal) (k:Nat) (m1:Nat):KR:=(cutK (Lv.b (Lv.a (Lv.a (Lv.b (Lv.a (Lv.b (Lv.b (Lv.b (Lv.b (A 118)))))))))).c (codeE P cal (codeF P cal m1) none 118 (cR (cR (cL (cL (cR (cL (cR (cR (cR (cR code118)))))))))) (Lv.b (Lv.b (Lv.a (Lv.a (Lv.b (Lv.a (Lv.b (Lv.b (Lv.b (Lv.b (A 118))))))))))) (K118_prrrrlrl cal k m1) (K118_pxrrrrlr cal k) (doneK P results118)))
noncomputable def K118_prrrrlrllrr (cal:Cal) (k:Nat) (m1:Nat):KR:=(cutK (Lv.b (Lv.b (Lv.a (Lv.a (Lv.b (Lv.a (Lv.b (Lv.b (Lv.b (Lv.b (A 118))))))))))).c (codeE P cal (codeF P cal m1) none 118 (cR (cR (cR (cL (cL (cR (cL (cR (cR (cR (cR code118))))))))))) (Lv.b (Lv.b (Lv.b (Lv.a (Lv.a (Lv.b (Lv.a (Lv.b (Lv.b (Lv.b (Lv.b (A 118)))))))))))) (K118_prrrrlrl cal k m1) (K118_pxrrrrlr cal k) (doneK P results118)))
noncomputable def K118_pxrrrrlrllrrl (cal:Cal) (k:Nat) (m1:Nat):XR:=(upX 1 (K118_prrrrlrllrr cal k m1) (K118_pxrrrrlr cal k))
noncomputable def K118_prrrrlrllrrll (cal:Cal) (k:Nat) (m1:Nat):KR:=(cutK (Lv.a (Lv.a (Lv.b (Lv.b (Lv.a (Lv.a (Lv.b (Lv.a (Lv.b (Lv.b (Lv.b (Lv.b (A 118))))))))))))).c (codeE P cal (codeF P cal m1) none 118 (cR (cL (cL (cR (cR (cL (cL (cR (cL (cR (cR (cR (cR code118))))))))))))) (Lv.b (Lv.a (Lv.a (Lv.b (Lv.b (Lv.a (Lv.a (Lv.b (Lv.a (Lv.b (Lv.b (Lv.b (Lv.b (A 118)))))))))))))) (K118_prrrrlrllrr cal k m1) (K118_pxrrrrlrllrrl cal k m1) (doneK P results118)))
noncomputable def K118_prrrrlrllrrllr (cal:Cal) (k:Nat) (m1:Nat):KR:=(cutK (Lv.b (Lv.a (Lv.a (Lv.b (Lv.b (Lv.a (Lv.a (Lv.b (Lv.a (Lv.b (Lv.b (Lv.b (Lv.b (A 118)))))))))))))).c (codeE P cal (codeF P cal m1) none 118 (cR (cR (cL (cL (cR (cR (cL (cL (cR (cL (cR (cR (cR (cR code118)))))))))))))) (Lv.b (Lv.b (Lv.a (Lv.a (Lv.b (Lv.b (Lv.a (Lv.a (Lv.b (Lv.a (Lv.b (Lv.b (Lv.b (Lv.b (A 118))))))))))))))) (K118_prrrrlrllrr cal k m1) (K118_pxrrrrlrllrrl cal k m1) (doneK P results118)))
noncomputable def K118_prrrrlrllrrllrl (cal:Cal) (k:Nat) (m1:Nat):KR:=(cutK (Lv.a (Lv.b (Lv.a (Lv.a (Lv.b (Lv.b (Lv.a (Lv.a (Lv.b (Lv.a (Lv.b (Lv.b (Lv.b (Lv.b (A 118))))))))))))))).c (codeE P cal (codeF P cal m1) none 118 (cR (cL (cR (cL (cL (cR (cR (cL (cL (cR (cL (cR (cR (cR (cR code118))))))))))))))) (Lv.b (Lv.a (Lv.b (Lv.a (Lv.a (Lv.b (Lv.b (Lv.a (Lv.a (Lv.b (Lv.a (Lv.b (Lv.b (Lv.b (Lv.b (A 118)))))))))))))))) (K118_prrrrlrllrrllr cal k m1) (K118_pxrrrrlrllrrl cal k m1) (doneK P results118)))
noncomputable def K118_prrrrlrllrrllrr (cal:Cal) (k:Nat) (m1:Nat):KR:=(cutK (Lv.b (Lv.b (Lv.a (Lv.a (Lv.b (Lv.b (Lv.a (Lv.a (Lv.b (Lv.a (Lv.b (Lv.b (Lv.b (Lv.b (A 118))))))))))))))).c (codeE P cal (codeF P cal m1) none 118 (cR (cR (cR (cL (cL (cR (cR (cL (cL (cR (cL (cR (cR (cR (cR code118))))))))))))))) (Lv.b (Lv.b (Lv.b (Lv.a (Lv.a (Lv.b (Lv.b (Lv.a (Lv.a (Lv.b (Lv.a (Lv.b (Lv.b (Lv.b (Lv.b (A 118)))))))))))))))) (K118_prrrrlrllrr cal k m1) (K118_pxrrrrlrllrrl cal k m1) (doneK P results118)))
noncomputable def K118_prrrrlrllrrllrrr (cal:Cal) (k:Nat) (m1:Nat):KR:=(cutK (Lv.b (Lv.b (Lv.b (Lv.a (Lv.a (Lv.b (Lv.b (Lv.a (Lv.a (Lv.b (Lv.a (Lv.b (Lv.b (Lv.b (Lv.b (A 118)))))))))))))))).c (codeE P cal (codeF P cal m1) none 118 (cR (cR (cR (cR (cL (cL (cR (cR (cL (cL (cR (cL (cR (cR (cR (cR code118)))))))))))))))) (Lv.b (Lv.b (Lv.b (Lv.b (Lv.a (Lv.a (Lv.b (Lv.b (Lv.a (Lv.a (Lv.b (Lv.a (Lv.b (Lv.b (Lv.b (Lv.b (A 118))))))))))))))))) (K118_prrrrlrllrr cal k m1) (K118_pxrrrrlrllrrl cal k m1) (doneK P results118)))
noncomputable def K118_prrrrlrllrrllrrrrl (cal:Cal) (k:Nat) (m1:Nat):KR:=(cutK (Lv.a (Lv.b (Lv.b (Lv.b (Lv.b (Lv.a (Lv.a (Lv.b (Lv.b (Lv.a (Lv.a (Lv.b (Lv.a (Lv.b (Lv.b (Lv.b (Lv.b (A 118)))))))))))))))))).c (codeE P cal (codeF P cal m1) none 118 (cR (cL (cR (cR (cR (cR (cL (cL (cR (cR (cL (cL (cR (cL (cR (cR (cR (cR code118)))))))))))))))))) (Lv.b (Lv.a (Lv.b (Lv.b (Lv.b (Lv.b (Lv.a (Lv.a (Lv.b (Lv.b (Lv.a (Lv.a (Lv.b (Lv.a (Lv.b (Lv.b (Lv.b (Lv.b (A 118))))))))))))))))))) (K118_prrrrlrllrr cal k m1) (K118_pxrrrrlrllrrl cal k m1) (doneK P results118)))
noncomputable def K118_prrrrr (cal:Cal) (k:Nat):KR:=(cutK (Lv.b (Lv.b (Lv.b (Lv.b (Lv.b (A 118)))))).c (codeE P cal (codeF P cal k) none 118 (cR (cR (cR (cR (cR (cR code118)))))) (Lv.b (Lv.b (Lv.b (Lv.b (Lv.b (Lv.b (A 118))))))) (doneK P results118) X0 (doneK P results118)))
noncomputable def E118_2 (cal:Cal) (k m1:Nat):KR:=codeE P cal (codeF P cal m1) none 118 (cR (cR (cR (cL (cL (cR (cL (cR (cR (cR (cR code118))))))))))) (Lv.b (Lv.b (Lv.b (Lv.a (Lv.a (Lv.b (Lv.a (Lv.b (Lv.b (Lv.b (Lv.b (A 118)))))))))))) (K118_prrrrlrl cal k m1) (K118_pxrrrrlr cal k) (doneK P results118)
noncomputable def E118_1 (cal:Cal) (k m1:Nat):KR:=codeE P cal (codeF P cal m1) none 118 (cL (cL (cR (cL (cR (cR (cR (cR code118)))))))) (Lv.a (Lv.a (Lv.b (Lv.a (Lv.b (Lv.b (Lv.b (Lv.b (A 118))))))))) (K118_prrrrlrl cal k m1) (K118_pxrrrrlr cal k) (doneK P results118)
noncomputable def R118_1 (cal:Cal) (k m1:Nat):V8:=fun u2 u3 u4 u6 u7 u8 u48 u49 H n=>codeF P cal m1 (Lv.a (Lv.b (Lv.a (Lv.b (Lv.b (Lv.b (Lv.b (A 118)))))))) none 118 (cL (cR (cL (cR (cR (cR (cR code118))))))) (K118_prrrr cal k) (K118_pxrrrrlr cal k) (doneK P results118) (Tr.set (Tr.set (Tr.set (Tr.set (Tr.set (Tr.set (Tr.set (Tr.set Tr.nil 49 (some u49)) 48 (some u48)) 8 (some u8)) 7 (some u7)) 6 (some u6)) 4 (some u4)) 3 (some u3)) 2 (some u2)) H n []
noncomputable def B118_2 (cal:Cal) (k m1:Nat) (b1:V8) (u2 u3 u4 u6 u7 u8 u48 u49:Value) (H:Hp) (n:Nat):Res:=
binK P .add 3 (.tmp 49) (.const (.int .i64 1)) u49 (.int .i64 1) fun v_2z=>
b1 u2 u3 u4 u6 u7 u8 u48 v_2z H n
noncomputable def C118_2 (cal:Cal) (k m1:Nat) (b1:V8) (u2 u3 u4 u6 u7 u8 u48 u49:Value) (H:Hp) (n:Nat):Res:=B118_2 cal k m1 b1 u2 u3 u4 u6 u7 u8 u48 u49 H n
theorem h118_2 (cal:Cal) (k m1:Nat) (u2 u3 u4 u6 u7 u8 u48 u49:Value) (H:Hp) (n:Nat):labK (E118_2 cal k m1) (Tr.set (Tr.set (Tr.set (Tr.set (Tr.set (Tr.set (Tr.set (Tr.set Tr.nil 49 (some u49)) 48 (some u48)) 8 (some u8)) 7 (some u7)) 6 (some u6)) 4 (some u4)) 3 (some u3)) 2 (some u2)) H n []=C118_2 cal k m1 (R118_1 cal k m1) u2 u3 u4 u6 u7 u8 u48 u49 H n:=by
  refine Eq.trans (b:=B118_2 cal k m1 (R118_1 cal k m1) u2 u3 u4 u6 u7 u8 u48 u49 H n) (by kernel_rfl) ?_
  rw[C118_2]
noncomputable def B118_1 (cal:Cal) (k m1:Nat) (j2:V8) (b1:V8) (u2 u3 u4 u6 u7 u8 u48 u49:Value) (H:Hp) (n:Nat):Res:=
binK P .lss 3 (.tmp 49) (.tmp 48) u49 u48 fun v_2y=>
ifK v_2y (
bindO (addrV u4) fun a_34=>bindO (loadV P H 104 a_34) fun v_33=>
callFK P cal 102 [v_33,u2,u49] H n fun v_37 H_38 n_39=>
bindO (pureSem P v_37 (Op.unary UnOp.not v_37)) fun v_3a=>
ifK v_3a (
j2 u2 u3 u4 u6 u7 u8 u48 u49 H_38 n_39) (
bindO (indexAddrV P 120 u7 u2) fun v_3d=>
bindO (storeP P 3 v_3d u49 H_38) fun H_3f=>
bindO (addrV u6) fun a_3g=>bindO (loadV P H_3f 175 a_3g) fun v_3h=>
bindO (addrV u7) fun a_3i=>bindO (loadV P H_3f 120 a_3i) fun v_3j=>
bindO (addrV u8) fun a_3k=>bindO (loadV P H_3f 110 a_3k) fun v_3l=>
bindO (addrV u4) fun a_3m=>bindO (loadV P H_3f 104 a_3m) fun v_3n=>
bindO (nilV v_3n) fun v_3q=>
bindO (fieldAddrV P 116 v_3q 2) fun v_3r=>
bindO (indexAddrV P 114 v_3r u2) fun v_3s=>
bindO (indexAddrV P 113 v_3s u49) fun v_3t=>
bindO (fieldAddrV P 112 v_3t 2) fun v_3u=>
bindO (addrV v_3u) fun a_3v=>bindO (loadV P H_3f 110 a_3v) fun v_3w=>
binK P .add 3 (.tmp 73) (.const (.int .i64 1)) u2 (.int .i64 1) fun v_3y=>
binK P .sub 3 (.tmp 75) (.const (.int .i64 1)) u3 (.int .i64 1) fun v_40=>
effK P [(.l 120 a_3i),(.l 175 a_3g)] H_3f n_39 (fun H_41 n_42 k_43=>
callFK P cal 103 [v_3l,v_3w] H_41 n_42 fun v_47 H_48 n_49=>
k_43 v_47 H_48 n_49) fun v_44 H_45 n_46=>
callVK P cal v_3h [v_3j,v_44,v_3y,v_40] H_45 n_46 fun v_4a H_4b n_4c=>
bindO (pureSem P v_4a (Op.unary UnOp.not v_4a)) fun v_4d=>
ifK v_4d (
some ((.bool false),H_4b,n_4c)) (
j2 u2 u3 u4 u6 u7 u8 u48 u49 H_4b n_4c))) (
some ((.bool true),H,n))
noncomputable def C118_1 (cal:Cal) (k m1:Nat) (b1:V8) (u2 u3 u4 u6 u7 u8 u48 u49:Value) (H:Hp) (n:Nat):Res:=B118_1 cal k m1 (C118_2 cal k m1 b1) b1 u2 u3 u4 u6 u7 u8 u48 u49 H n
noncomputable def S118_1 (cal:Cal) (k:Nat):Nat→V8:=fun m=>Nat.rec (motive:=fun _=>V8) (C118_1 cal k 0 (fun _ _ _ _ _ _ _ _ _ _=>none)) (fun m ih=>C118_1 cal k (m+1) ih) m
theorem h118_1 (cal:Cal) (k m1:Nat) (u2 u3 u4 u6 u7 u8 u48 u49:Value) (H:Hp) (n:Nat):labK (E118_1 cal k m1) (Tr.set (Tr.set (Tr.set (Tr.set (Tr.set (Tr.set (Tr.set (Tr.set Tr.nil 49 (some u49)) 48 (some u48)) 8 (some u8)) 7 (some u7)) 6 (some u6)) 4 (some u4)) 3 (some u3)) 2 (some u2)) H n []=C118_1 cal k m1 (R118_1 cal k m1) u2 u3 u4 u6 u7 u8 u48 u49 H n:=by
  refine Eq.trans (b:=B118_1 cal k m1 (fun u2 u3 u4 u6 u7 u8 u48 u49 H n=>labK (E118_2 cal k m1) (Tr.set (Tr.set (Tr.set (Tr.set (Tr.set (Tr.set (Tr.set (Tr.set Tr.nil 49 (some u49)) 48 (some u48)) 8 (some u8)) 7 (some u7)) 6 (some u6)) 4 (some u4)) 3 (some u3)) 2 (some u2)) H n []) (R118_1 cal k m1) u2 u3 u4 u6 u7 u8 u48 u49 H n) (by kernel_rfl) ?_
  rw[C118_1]
  have e2:(fun u2 u3 u4 u6 u7 u8 u48 u49 H n=>labK (E118_2 cal k m1) (Tr.set (Tr.set (Tr.set (Tr.set (Tr.set (Tr.set (Tr.set (Tr.set Tr.nil 49 (some u49)) 48 (some u48)) 8 (some u8)) 7 (some u7)) 6 (some u6)) 4 (some u4)) 3 (some u3)) 2 (some u2)) H n [])=(C118_2 cal k m1 (R118_1 cal k m1)):=by funext u2 u3 u4 u6 u7 u8 u48 u49 H n; exact h118_2 ..
  rw[e2]
theorem q118_1 (cal:Cal) (k:Nat):∀(m:Nat) (u2 u3 u4 u6 u7 u8 u48 u49:Value) (H:Hp) (n:Nat),labK (E118_1 cal k m) (Tr.set (Tr.set (Tr.set (Tr.set (Tr.set (Tr.set (Tr.set (Tr.set Tr.nil 49 (some u49)) 48 (some u48)) 8 (some u8)) 7 (some u7)) 6 (some u6)) 4 (some u4)) 3 (some u3)) 2 (some u2)) H n []=S118_1 cal k m u2 u3 u4 u6 u7 u8 u48 u49 H n
  | 0,u2,u3,u4,u6,u7,u8,u48,u49,H,n=>by
    rw[h118_1]
    have e:R118_1 cal k 0=fun _ _ _ _ _ _ _ _ _ _=>none:=by funext u2 u3 u4 u6 u7 u8 u48 u49 H n; kernel_rfl
    rw[e]; rfl
  | m+1,u2,u3,u4,u6,u7,u8,u48,u49,H,n=>by
    rw[h118_1]
    have e:R118_1 cal k (m+1)=S118_1 cal k m:=by
      funext u2 u3 u4 u6 u7 u8 u48 u49 H n
      have e:R118_1 cal k (m+1) u2 u3 u4 u6 u7 u8 u48 u49 H n=labK (E118_1 cal k m) (Tr.set (Tr.set (Tr.set (Tr.set (Tr.set (Tr.set (Tr.set (Tr.set Tr.nil 49 (some u49)) 48 (some u48)) 8 (some u8)) 7 (some u7)) 6 (some u6)) 4 (some u4)) 3 (some u3)) 2 (some u2)) H n []:=by kernel_rfl
      rw[e]; exact q118_1 ..
    rw[e]; rfl
noncomputable def B118_0 (cal:Cal) (k:Nat) (j1:V8) (v0 v1 v2 v3 v4 v5 v6:Value) (H:Hp) (n:Nat):Res:=
boxK 120 v0 H n fun v_1 H_2 n_3=>
boxK 110 v1 H_2 n_3 fun v_4 H_5 n_6=>
bindO (addrV v4) fun a_9=>bindO (loadV P H_5 104 a_9) fun v_8=>
bindO (addrV v_4) fun a_b=>bindO (loadV P H_5 110 a_b) fun v_a=>
callFK P cal 111 [v_8,v_a] H_5 n_6 fun v_c H_d n_e=>
bindO (pureSem P v_c (Op.unary UnOp.not v_c)) fun v_f=>
guardK v_f false (fun k_h=>
k_h v3 H_d n_e) H_d n_e fun v_i H_j n_k=>
guardK v_f false (fun k_m=>
bindO (addrV v4) fun a_r=>bindO (loadV P H_j 104 a_r) fun v_q=>
k_m v_q H_j n_k) H_j n_k fun v_n H_o n_p=>
guardK v_f false (fun k_s=>
bindO (nilV v_n) fun v_w=>
k_s v_w H_o n_p) H_o n_p fun v_t H_u n_v=>
guardK v_f false (fun k_x=>
bindO (fieldAddrV P 116 v_t 0) fun v_11=>
k_x v_11 H_u n_v) H_u n_v fun v_y H_z n_10=>
guardK v_f false (fun k_12=>
bindO (fieldAddrV P 35 v_y 0) fun v_16=>
k_12 v_16 H_z n_10) H_z n_10 fun v_13 H_14 n_15=>
guardK v_f false (fun k_17=>
bindO (addrV v_13) fun a_1c=>bindO (loadV P H_14 31 a_1c) fun v_1b=>
k_17 v_1b H_14 n_15) H_14 n_15 fun v_18 H_19 n_1a=>
guardK v_f false (fun k_1d=>
bindO (lenV P 31 v_18) fun v_1h=>
k_1d v_1h H_19 n_1a) H_19 n_1a fun v_1e H_1f n_1g=>
guardK v_f false (fun k_1i=>
k_1i v2 H_1f n_1g) H_1f n_1g fun v_1j H_1k n_1l=>
guardK v_f false (fun k_1n=>
binK P .sub 3 (.tmp 24) (.tmp 25) v_1e v_1j fun v_1r=>
k_1n v_1r H_1k n_1l) H_1k n_1l fun v_1o H_1p n_1q=>
guardK v_f false (fun k_1s=>
binK P .gtr 3 (.tmp 18) (.tmp 26) v_i v_1o fun v_1w=>
k_1s v_1w H_1p n_1q) H_1p n_1q fun v_1t H_1u n_1v=>
bindO (pickV v_f (.bool true) v_1t) fun v_1x=>
ifK v_1x (
some ((.bool true),H_1u,n_1v)) (
binK P .eql 3 (.tmp 29) (.const (.int .i64 0)) v3 (.int .i64 0) fun v_20=>
ifK v_20 (
bindO (addrV v5) fun a_22=>bindO (loadV P H_1u 174 a_22) fun v_21=>
bindO (addrV v_1) fun a_24=>bindO (loadV P H_1u 120 a_24) fun v_23=>
bindO (addrV v_4) fun a_26=>bindO (loadV P H_1u 110 a_26) fun v_25=>
callVK P cal v_21 [v_23,v_25] H_1u n_1v fun v_27 H_28 n_29=>
some (v_27,H_28,n_29)) (
bindO (addrV v6) fun a_2c=>bindO (loadV P H_1u 175 a_2c) fun v_2b=>
bindO (addrV v_1) fun a_2e=>bindO (loadV P H_1u 120 a_2e) fun v_2d=>
bindO (addrV v_4) fun a_2g=>bindO (loadV P H_1u 110 a_2g) fun v_2f=>
binK P .add 3 (.tmp 38) (.const (.int .i64 1)) v2 (.int .i64 1) fun v_2i=>
callVK P cal v_2b [v_2d,v_2f,v_2i,v3] H_1u n_1v fun v_2k H_2l n_2m=>
bindO (pureSem P v_2k (Op.unary UnOp.not v_2k)) fun v_2n=>
ifK v_2n (
some ((.bool false),H_2l,n_2m)) (
bindO (addrV v4) fun a_2q=>bindO (loadV P H_2l 104 a_2q) fun v_2p=>
bindO (nilV v_2p) fun v_2r=>
bindO (fieldAddrV P 116 v_2r 0) fun v_2s=>
bindO (fieldAddrV P 35 v_2s 2) fun v_2t=>
bindO (addrV v_2t) fun a_2v=>bindO (loadV P H_2l 33 a_2v) fun v_2u=>
bindO (lenV P 33 v_2u) fun v_2w=>
j1 v2 v3 v4 v6 v_1 v_4 v_2w (.int .i64 0) H_2l n_2m)))
noncomputable def C118_0 (cal:Cal) (k:Nat) (v0 v1 v2 v3 v4 v5 v6:Value) (H:Hp) (n:Nat):Res:=B118_0 cal k (S118_1 cal k k) v0 v1 v2 v3 v4 v5 v6 H n
theorem h118_0 (cal:Cal) (k:Nat) (v0 v1 v2 v3 v4 v5 v6:Value) (H:Hp) (n:Nat):bodyE P cal A (k+1) 118 [v0,v1,v2,v3,v4,v5,v6] H n=C118_0 cal k v0 v1 v2 v3 v4 v5 v6 H n:=by
  have h:bodyE P cal A (k+1) 118 [v0,v1,v2,v3,v4,v5,v6] H n=B118_0 cal k (fun u2 u3 u4 u6 u7 u8 u48 u49 H n=>labK (E118_1 cal k k) (Tr.set (Tr.set (Tr.set (Tr.set (Tr.set (Tr.set (Tr.set (Tr.set Tr.nil 49 (some u49)) 48 (some u48)) 8 (some u8)) 7 (some u7)) 6 (some u6)) 4 (some u4)) 3 (some u3)) 2 (some u2)) H n []) v0 v1 v2 v3 v4 v5 v6 H n:=by
    rw[body_eq (fn:=Go.Proofs.Try.f118) (c:=code118) (rs:=results118) (by kernel_rfl) (by kernel_rfl) (by kernel_rfl) (by kernel_rfl)]
    kernel_rfl
  rw[h,C118_0]
  have e1:(fun u2 u3 u4 u6 u7 u8 u48 u49 H n=>labK (E118_1 cal k k) (Tr.set (Tr.set (Tr.set (Tr.set (Tr.set (Tr.set (Tr.set (Tr.set Tr.nil 49 (some u49)) 48 (some u48)) 8 (some u8)) 7 (some u7)) 6 (some u6)) 4 (some u4)) 3 (some u3)) 2 (some u2)) H n [])=(S118_1 cal k k):=by funext u2 u3 u4 u6 u7 u8 u48 u49 H n; exact q118_1 ..
  rw[e1]
noncomputable def code119:Code:=codeOf 119
noncomputable def results119:List ResultVar:=resOf 119
noncomputable def K119_p (cal:Cal) (k:Nat):KR:=(cutK (A 119).c (codeE P cal (codeF P cal k) none 119 (cR code119) (Lv.b (A 119)) (doneK P results119) X0 (doneK P results119)))
noncomputable def K119_pl (cal:Cal) (k:Nat):KR:=(cutK (Lv.a (A 119)).c (codeE P cal (codeF P cal k) none 119 (cR (cL code119)) (Lv.b (Lv.a (A 119))) (K119_p cal k) X0 (doneK P results119)))
noncomputable def K119_pr (cal:Cal) (k:Nat):KR:=(cutK (Lv.b (A 119)).c (codeE P cal (codeF P cal k) none 119 (cR (cR code119)) (Lv.b (Lv.b (A 119))) (doneK P results119) X0 (doneK P results119)))
noncomputable def K119_pxrr (cal:Cal) (k:Nat):XR:=(upX 0 (doneK P results119) X0)
noncomputable def K119_prrl (cal:Cal) (k:Nat) (m1:Nat):KR:=(fun T H n D=>codeF P cal m1 (Lv.a (Lv.b (Lv.b (A 119)))) none 119 (cL (cR (cR code119))) (doneK P results119) (K119_pxrr cal k) (doneK P results119) (cutT (Lv.a (Lv.b (Lv.b (A 119)))).c T) H n D)
noncomputable def K119_prrll (cal:Cal) (k:Nat) (m1:Nat):KR:=(cutK (Lv.a (Lv.a (Lv.b (Lv.b (A 119))))).c (codeE P cal (codeF P cal m1) none 119 (cR (cL (cL (cR (cR code119))))) (Lv.b (Lv.a (Lv.a (Lv.b (Lv.b (A 119)))))) (K119_prrl cal k m1) (K119_pxrr cal k) (doneK P results119)))
noncomputable def K119_prrllr (cal:Cal) (k:Nat) (m1:Nat):KR:=(cutK (Lv.b (Lv.a (Lv.a (Lv.b (Lv.b (A 119)))))).c (codeE P cal (codeF P cal m1) none 119 (cR (cR (cL (cL (cR (cR code119)))))) (Lv.b (Lv.b (Lv.a (Lv.a (Lv.b (Lv.b (A 119))))))) (K119_prrl cal k m1) (K119_pxrr cal k) (doneK P results119)))
noncomputable def K119_prrllrr (cal:Cal) (k:Nat) (m1:Nat):KR:=(cutK (Lv.b (Lv.b (Lv.a (Lv.a (Lv.b (Lv.b (A 119))))))).c (codeE P cal (codeF P cal m1) none 119 (cR (cR (cR (cL (cL (cR (cR code119))))))) (Lv.b (Lv.b (Lv.b (Lv.a (Lv.a (Lv.b (Lv.b (A 119)))))))) (K119_prrl cal k m1) (K119_pxrr cal k) (doneK P results119)))
noncomputable def K119_pxrrllrrl (cal:Cal) (k:Nat) (m1:Nat):XR:=(upX 1 (K119_prrllrr cal k m1) (K119_pxrr cal k))
noncomputable def K119_prrllrrll (cal:Cal) (k:Nat) (m1:Nat):KR:=(cutK (Lv.a (Lv.a (Lv.b (Lv.b (Lv.a (Lv.a (Lv.b (Lv.b (A 119))))))))).c (codeE P cal (codeF P cal m1) none 119 (cR (cL (cL (cR (cR (cL (cL (cR (cR code119))))))))) (Lv.b (Lv.a (Lv.a (Lv.b (Lv.b (Lv.a (Lv.a (Lv.b (Lv.b (A 119)))))))))) (K119_prrllrr cal k m1) (K119_pxrrllrrl cal k m1) (doneK P results119)))
noncomputable def K119_prrllrrllr (cal:Cal) (k:Nat) (m1:Nat):KR:=(cutK (Lv.b (Lv.a (Lv.a (Lv.b (Lv.b (Lv.a (Lv.a (Lv.b (Lv.b (A 119)))))))))).c (codeE P cal (codeF P cal m1) none 119 (cR (cR (cL (cL (cR (cR (cL (cL (cR (cR code119)))))))))) (Lv.b (Lv.b (Lv.a (Lv.a (Lv.b (Lv.b (Lv.a (Lv.a (Lv.b (Lv.b (A 119))))))))))) (K119_prrllrr cal k m1) (K119_pxrrllrrl cal k m1) (doneK P results119)))
noncomputable def E119_1 (cal:Cal) (k m1:Nat):KR:=codeE P cal (codeF P cal m1) none 119 (cL (cL (cR (cR code119)))) (Lv.a (Lv.a (Lv.b (Lv.b (A 119))))) (K119_prrl cal k m1) (K119_pxrr cal k) (doneK P results119)
noncomputable def R119_1 (cal:Cal) (k m1:Nat):V5:=fun u0 u1 u2 u14 u15 H n=>codeF P cal m1 (Lv.a (Lv.b (Lv.b (A 119)))) none 119 (cL (cR (cR code119))) (doneK P results119) (K119_pxrr cal k) (doneK P results119) (Tr.set (Tr.set (Tr.set (Tr.set (Tr.set Tr.nil 15 (some u15)) 14 (some u14)) 2 (some u2)) 1 (some u1)) 0 (some u0)) H n []
noncomputable def B119_1 (cal:Cal) (k m1:Nat) (b1:V5) (u0 u1 u2 u14 u15:Value) (H:Hp) (n:Nat):Res:=
binK P .lss 3 (.tmp 15) (.tmp 14) u15 u14 fun v_h=>
ifK v_h (
bindO (addrV u2) fun a_k=>bindO (loadV P H 104 a_k) fun v_l=>
bindO (addrV u1) fun a_m=>bindO (loadV P H 3 a_m) fun v_n=>
bindO (nilV v_l) fun v_p=>
bindO (fieldAddrV P 116 v_p 1) fun v_q=>
bindO (indexAddrV P 108 v_q v_n) fun v_r=>
bindO (indexAddrV P 107 v_r u15) fun v_s=>
bindO (addrV v_s) fun a_t=>bindO (loadV P H 4 a_t) fun v_u=>
guardD v_u true (fun k_w=>
k_w u0 .p H n) .p H n fun v_x x_y H_z n_10=>
guardD v_u true (fun k_12=>
k_12 u15 .p H_z n_10) .p H_z n_10 fun v_13 x_14 H_15 n_16=>
guardD v_u true (fun k_18=>
callVK P cal v_x [v_13] H_15 n_16 fun v_1d H_1e n_1f=>
k_18 v_1d .e H_1e n_1f) .e H_15 n_16 fun v_19 x_1a H_1b n_1c=>
guardD v_u true (fun k_1g=>
bindO (pureSem P v_19 (Op.unary UnOp.not v_19)) fun v_1l=>
k_1g v_1l .p H_1b n_1c) .p H_1b n_1c fun v_1h x_1i H_1j n_1k=>
bindO (pickV v_u v_1h (.bool false)) fun v_1m=>
ifK v_1m (
some ((Value.tuple ⟨[]⟩),H_1j,n_1k)) (
binK P .add 3 (.tmp 15) (.const (.int .i64 1)) u15 (.int .i64 1) fun v_1n=>
b1 u0 u1 u2 u14 v_1n H_1j n_1k)) (
some ((Value.tuple ⟨[]⟩),H,n))
noncomputable def C119_1 (cal:Cal) (k m1:Nat) (b1:V5) (u0 u1 u2 u14 u15:Value) (H:Hp) (n:Nat):Res:=B119_1 cal k m1 b1 u0 u1 u2 u14 u15 H n
noncomputable def S119_1 (cal:Cal) (k:Nat):Nat→V5:=fun m=>Nat.rec (motive:=fun _=>V5) (C119_1 cal k 0 (fun _ _ _ _ _ _ _=>none)) (fun m ih=>C119_1 cal k (m+1) ih) m
theorem h119_1 (cal:Cal) (k m1:Nat) (u0 u1 u2 u14 u15:Value) (H:Hp) (n:Nat):labK (E119_1 cal k m1) (Tr.set (Tr.set (Tr.set (Tr.set (Tr.set Tr.nil 15 (some u15)) 14 (some u14)) 2 (some u2)) 1 (some u1)) 0 (some u0)) H n []=C119_1 cal k m1 (R119_1 cal k m1) u0 u1 u2 u14 u15 H n:=by
  refine Eq.trans (b:=B119_1 cal k m1 (R119_1 cal k m1) u0 u1 u2 u14 u15 H n) (by kernel_rfl) ?_
  rw[C119_1]
theorem q119_1 (cal:Cal) (k:Nat):∀(m:Nat) (u0 u1 u2 u14 u15:Value) (H:Hp) (n:Nat),labK (E119_1 cal k m) (Tr.set (Tr.set (Tr.set (Tr.set (Tr.set Tr.nil 15 (some u15)) 14 (some u14)) 2 (some u2)) 1 (some u1)) 0 (some u0)) H n []=S119_1 cal k m u0 u1 u2 u14 u15 H n
  | 0,u0,u1,u2,u14,u15,H,n=>by
    rw[h119_1]
    have e:R119_1 cal k 0=fun _ _ _ _ _ _ _=>none:=by funext u0 u1 u2 u14 u15 H n; kernel_rfl
    rw[e]; rfl
  | m+1,u0,u1,u2,u14,u15,H,n=>by
    rw[h119_1]
    have e:R119_1 cal k (m+1)=S119_1 cal k m:=by
      funext u0 u1 u2 u14 u15 H n
      have e:R119_1 cal k (m+1) u0 u1 u2 u14 u15 H n=labK (E119_1 cal k m) (Tr.set (Tr.set (Tr.set (Tr.set (Tr.set Tr.nil 15 (some u15)) 14 (some u14)) 2 (some u2)) 1 (some u1)) 0 (some u0)) H n []:=by kernel_rfl
      rw[e]; exact q119_1 ..
    rw[e]; rfl
noncomputable def B119_0 (cal:Cal) (k:Nat) (j1:V5) (v0 v1 v2:Value) (H:Hp) (n:Nat):Res:=
bindO (addrV v1) fun a_3=>bindO (loadV P H 3 a_3) fun v_2=>
callVK P cal v0 [v_2] H n fun v_4 H_5 n_6=>
bindO (pureSem P v_4 (Op.unary UnOp.not v_4)) fun v_7=>
ifK v_7 (
some ((Value.tuple ⟨[]⟩),H_5,n_6)) (
bindO (addrV v2) fun a_9=>bindO (loadV P H_5 104 a_9) fun v_8=>
bindO (nilV v_8) fun v_a=>
bindO (fieldAddrV P 116 v_a 0) fun v_b=>
bindO (fieldAddrV P 35 v_b 0) fun v_c=>
bindO (addrV v_c) fun a_e=>bindO (loadV P H_5 31 a_e) fun v_d=>
bindO (lenV P 31 v_d) fun v_f=>
j1 v0 v1 v2 v_f (.int .i64 0) H_5 n_6)
noncomputable def C119_0 (cal:Cal) (k:Nat) (v0 v1 v2:Value) (H:Hp) (n:Nat):Res:=B119_0 cal k (S119_1 cal k k) v0 v1 v2 H n
theorem h119_0 (cal:Cal) (k:Nat) (v0 v1 v2:Value) (H:Hp) (n:Nat):bodyE P cal A (k+1) 119 [v0,v1,v2] H n=C119_0 cal k v0 v1 v2 H n:=by
  have h:bodyE P cal A (k+1) 119 [v0,v1,v2] H n=B119_0 cal k (fun u0 u1 u2 u14 u15 H n=>labK (E119_1 cal k k) (Tr.set (Tr.set (Tr.set (Tr.set (Tr.set Tr.nil 15 (some u15)) 14 (some u14)) 2 (some u2)) 1 (some u1)) 0 (some u0)) H n []) v0 v1 v2 H n:=by
    rw[body_eq (fn:=Go.Proofs.Try.f119) (c:=code119) (rs:=results119) (by kernel_rfl) (by kernel_rfl) (by kernel_rfl) (by kernel_rfl)]
    kernel_rfl
  rw[h,C119_0]
  have e1:(fun u0 u1 u2 u14 u15 H n=>labK (E119_1 cal k k) (Tr.set (Tr.set (Tr.set (Tr.set (Tr.set Tr.nil 15 (some u15)) 14 (some u14)) 2 (some u2)) 1 (some u1)) 0 (some u0)) H n [])=(S119_1 cal k k):=by funext u0 u1 u2 u14 u15 H n; exact q119_1 ..
  rw[e1]
noncomputable def code120:Code:=codeOf 120
noncomputable def results120:List ResultVar:=resOf 120
noncomputable def K120_p (cal:Cal) (k:Nat):KR:=(cutK (A 120).c (codeE P cal (codeF P cal k) none 120 (cR code120) (Lv.b (A 120)) (doneK P results120) X0 (doneK P results120)))
noncomputable def K120_pr (cal:Cal) (k:Nat):KR:=(cutK (Lv.b (A 120)).c (codeE P cal (codeF P cal k) none 120 (cR (cR code120)) (Lv.b (Lv.b (A 120))) (doneK P results120) X0 (doneK P results120)))
noncomputable def K120_prr (cal:Cal) (k:Nat):KR:=(cutK (Lv.b (Lv.b (A 120))).c (codeE P cal (codeF P cal k) none 120 (cR (cR (cR code120))) (Lv.b (Lv.b (Lv.b (A 120)))) (doneK P results120) X0 (doneK P results120)))
noncomputable def B120_0 (cal:Cal) (k:Nat) (v0 v1 v2:Value) (H:Hp) (n:Nat):Res:=
boxK 112 v0 H n fun v_1 H_2 n_3=>
boxK 178 v2 H_2 n_3 fun v_4 H_5 n_6=>
bindO (addrV v_1) fun a_8=>bindO (loadV P H_5 112 a_8) fun v_9=>
bindO (fieldAddrV P 178 v_4 1) fun v_a=>
bindO (addrV v_a) fun a_b=>bindO (loadV P H_5 128 a_b) fun v_c=>
bindO (fieldAddrV P 178 v_4 1) fun v_d=>
bindO (addrV v_d) fun a_e=>bindO (loadV P H_5 128 a_e) fun v_f=>
bindO (fieldAddrV P 112 v_1 1) fun v_h=>
bindO (indexAddrV P 110 v_h v1) fun v_i=>
bindO (addrV v_i) fun a_j=>bindO (loadV P H_5 53 a_j) fun v_k=>
effK P [(.l 53 a_j),(.l 128 a_e)] H_5 n_6 (fun H_l n_m k_n=>
callFK P cal 98 [v_9,v_c] H_l n_m fun v_r H_s n_t=>
k_n v_r H_s n_t) fun v_o H_p n_q=>
callVK P cal v_f [v_k] H_p n_q fun v_u H_v n_w=>
binK P .sub 3 (.tmp 11) (.tmp 18) v_o v_u fun v_x=>
bindO (fieldAddrV P 178 v_4 2) fun v_z=>
bindO (addrV v_z) fun a_10=>bindO (loadV P H_v 159 a_10) fun v_11=>
bindO (fieldAddrV P 178 v_4 0) fun v_12=>
bindO (addrV v_12) fun a_13=>bindO (loadV P H_v 128 a_13) fun v_14=>
bindO (fieldAddrV P 112 v_1 1) fun v_16=>
bindO (indexAddrV P 110 v_16 v1) fun v_17=>
bindO (addrV v_17) fun a_18=>bindO (loadV P H_v 53 a_18) fun v_19=>
bindO (fieldAddrV P 112 v_1 0) fun v_1a=>
bindO (addrV v_1a) fun a_1b=>bindO (loadV P H_v 3 a_1b) fun v_1c=>
binK P .sub 3 (.tmp 30) (.tmp 31) v_1c v_x fun v_1e=>
bindO (rowOf P 44 1 [(0,v_1e)]) fun q_1h=>newK q_1h.1 q_1h.2 H_v n_w fun H_1f n_1g=>
effK P [(.a n_w q_1h.1 q_1h.2),(.l 3 a_1b),(.l 159 a_10)] H_1f n_1g (fun H_1i n_1j k_1k=>
callVK P cal v_14 [v_19] H_1i n_1j fun v_1o H_1p n_1q=>
k_1k v_1o H_1p n_1q) fun v_1l H_1m n_1n=>
callVK P cal v_11 [v_1l,(.slice (some ⟨n_w,0,none⟩) 1 1)] H_1m n_1n fun v_1r H_1s n_1t=>
some (v_1r,H_1s,n_1t)
noncomputable def C120_0 (cal:Cal) (k:Nat) (v0 v1 v2:Value) (H:Hp) (n:Nat):Res:=B120_0 cal k v0 v1 v2 H n
theorem h120_0 (cal:Cal) (k:Nat) (v0 v1 v2:Value) (H:Hp) (n:Nat):bodyE P cal A (k+1) 120 [v0,v1,v2] H n=C120_0 cal k v0 v1 v2 H n:=by
  have h:bodyE P cal A (k+1) 120 [v0,v1,v2] H n=B120_0 cal k v0 v1 v2 H n:=by
    rw[body_eq (fn:=Go.Proofs.Try.f120) (c:=code120) (rs:=results120) (by kernel_rfl) (by kernel_rfl) (by kernel_rfl) (by kernel_rfl)]
    kernel_rfl
  rw[h,C120_0]
noncomputable def code121:Code:=codeOf 121
noncomputable def results121:List ResultVar:=resOf 121
noncomputable def K121_p (cal:Cal) (k:Nat):KR:=(cutK (A 121).c (codeE P cal (codeF P cal k) none 121 (cR code121) (Lv.b (A 121)) (doneK P results121) X0 (doneK P results121)))
noncomputable def K121_pr (cal:Cal) (k:Nat):KR:=(cutK (Lv.b (A 121)).c (codeE P cal (codeF P cal k) none 121 (cR (cR code121)) (Lv.b (Lv.b (A 121))) (doneK P results121) X0 (doneK P results121)))
noncomputable def B121_0 (cal:Cal) (k:Nat) (H:Hp) (n:Nat):Res:=
allocK P 178 H n fun v_1 H_2 n_3=>
bindO (buildP P 178 [(0,(Value.func (.func 72) #[] #[])),(1,(Value.func (.func 73) #[] #[])),(2,(Value.func (.func 106) #[] #[]))]) fun v_4=>
bindO (storeP P 178 v_1 v_4 H_2) fun H_6=>
bindO (resV P (Tr.set Tr.nil 0 (some v_1)) H_6 results121) fun v_7=>some (oneV v_7,H_6,n_3)
noncomputable def C121_0 (cal:Cal) (k:Nat) (H:Hp) (n:Nat):Res:=B121_0 cal k  H n
theorem h121_0 (cal:Cal) (k:Nat) (H:Hp) (n:Nat):bodyE P cal A (k+1) 121 [] H n=C121_0 cal k  H n:=by
  have h:bodyE P cal A (k+1) 121 [] H n=B121_0 cal k  H n:=by
    rw[body_eq (fn:=Go.Proofs.Try.f121) (c:=code121) (rs:=results121) (by kernel_rfl) (by kernel_rfl) (by kernel_rfl) (by kernel_rfl)]
    kernel_rfl
  rw[h,C121_0]
noncomputable def code122:Code:=codeOf 122
noncomputable def results122:List ResultVar:=resOf 122
noncomputable def K122_p (cal:Cal) (k:Nat):KR:=(cutK (A 122).c (codeE P cal (codeF P cal k) none 122 (cR code122) (Lv.b (A 122)) (doneK P results122) X0 (doneK P results122)))
noncomputable def K122_pr (cal:Cal) (k:Nat):KR:=(cutK (Lv.b (A 122)).c (codeE P cal (codeF P cal k) none 122 (cR (cR code122)) (Lv.b (Lv.b (A 122))) (doneK P results122) X0 (doneK P results122)))
noncomputable def B122_0 (cal:Cal) (k:Nat) (H:Hp) (n:Nat):Res:=
allocK P 178 H n fun v_1 H_2 n_3=>
bindO (buildP P 178 [(0,(Value.func (.func 73) #[] #[])),(1,(Value.func (.func 72) #[] #[])),(2,(Value.func (.func 105) #[] #[]))]) fun v_4=>
bindO (storeP P 178 v_1 v_4 H_2) fun H_6=>
bindO (resV P (Tr.set Tr.nil 0 (some v_1)) H_6 results122) fun v_7=>some (oneV v_7,H_6,n_3)
noncomputable def C122_0 (cal:Cal) (k:Nat) (H:Hp) (n:Nat):Res:=B122_0 cal k  H n
theorem h122_0 (cal:Cal) (k:Nat) (H:Hp) (n:Nat):bodyE P cal A (k+1) 122 [] H n=C122_0 cal k  H n:=by
  have h:bodyE P cal A (k+1) 122 [] H n=B122_0 cal k  H n:=by
    rw[body_eq (fn:=Go.Proofs.Try.f122) (c:=code122) (rs:=results122) (by kernel_rfl) (by kernel_rfl) (by kernel_rfl) (by kernel_rfl)]
    kernel_rfl
  rw[h,C122_0]
end Go.Proofs.Ytmpnblcfpdnlmaa.G
