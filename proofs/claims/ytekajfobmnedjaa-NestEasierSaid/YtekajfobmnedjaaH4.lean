/- The texts of functions, each with the proof that the evaluator says the same. -/
import Derived.Test.YtekajfobmnedjaaH1
open Go Go.Ev
set_option maxRecDepth 1000000
set_option linter.unusedVariables false
noncomputable section
namespace Go.Proofs.Ytekajfobmnedjaa.G
noncomputable def code94 : Code := codeOf 94
noncomputable def results94 : List ResultVar := resOf 94
noncomputable def K94_p (cal : Cal) (k : Nat) : KR := (cutK (A 94).c (codeE P cal (codeF P cal k) none 94 (cR code94) (Lv.b (A 94)) (doneK P results94) X0 (doneK P results94)))
noncomputable def K94_pr (cal : Cal) (k : Nat) : KR := (cutK (Lv.b (A 94)).c (codeE P cal (codeF P cal k) none 94 (cR (cR code94)) (Lv.b (Lv.b (A 94))) (doneK P results94) X0 (doneK P results94)))
noncomputable def K94_prr (cal : Cal) (k : Nat) : KR := (cutK (Lv.b (Lv.b (A 94))).c (codeE P cal (codeF P cal k) none 94 (cR (cR (cR code94))) (Lv.b (Lv.b (Lv.b (A 94)))) (doneK P results94) X0 (doneK P results94)))
noncomputable def K94_prrl (cal : Cal) (k : Nat) : KR := (cutK (Lv.a (Lv.b (Lv.b (A 94)))).c (codeE P cal (codeF P cal k) none 94 (cR (cL (cR (cR code94)))) (Lv.b (Lv.a (Lv.b (Lv.b (A 94))))) (K94_prr cal k) X0 (doneK P results94)))
noncomputable def K94_pxrrlr (cal : Cal) (k : Nat) : XR := (upX 0 (K94_prr cal k) X0)
noncomputable def K94_prrlrl (cal : Cal) (k : Nat) (m1 : Nat) : KR := (fun T H n D => codeF P cal m1 (Lv.a (Lv.b (Lv.a (Lv.b (Lv.b (A 94)))))) none 94 (cL (cR (cL (cR (cR code94))))) (K94_prr cal k) (K94_pxrrlr cal k) (doneK P results94) (cutT (Lv.a (Lv.b (Lv.a (Lv.b (Lv.b (A 94)))))).c T) H n D)
noncomputable def K94_prrlrll (cal : Cal) (k : Nat) (m1 : Nat) : KR := (cutK (Lv.a (Lv.a (Lv.b (Lv.a (Lv.b (Lv.b (A 94))))))).c (codeE P cal (codeF P cal m1) none 94 (cR (cL (cL (cR (cL (cR (cR code94))))))) (Lv.b (Lv.a (Lv.a (Lv.b (Lv.a (Lv.b (Lv.b (A 94)))))))) (K94_prrlrl cal k m1) (K94_pxrrlr cal k) (doneK P results94)))
noncomputable def K94_prrlrllr (cal : Cal) (k : Nat) (m1 : Nat) : KR := (cutK (Lv.b (Lv.a (Lv.a (Lv.b (Lv.a (Lv.b (Lv.b (A 94)))))))).c (codeE P cal (codeF P cal m1) none 94 (cR (cR (cL (cL (cR (cL (cR (cR code94)))))))) (Lv.b (Lv.b (Lv.a (Lv.a (Lv.b (Lv.a (Lv.b (Lv.b (A 94))))))))) (K94_prrlrl cal k m1) (K94_pxrrlr cal k) (doneK P results94)))
noncomputable def K94_prrlrllrr (cal : Cal) (k : Nat) (m1 : Nat) : KR := (cutK (Lv.b (Lv.b (Lv.a (Lv.a (Lv.b (Lv.a (Lv.b (Lv.b (A 94))))))))).c (codeE P cal (codeF P cal m1) none 94 (cR (cR (cR (cL (cL (cR (cL (cR (cR code94))))))))) (Lv.b (Lv.b (Lv.b (Lv.a (Lv.a (Lv.b (Lv.a (Lv.b (Lv.b (A 94)))))))))) (K94_prrlrl cal k m1) (K94_pxrrlr cal k) (doneK P results94)))
noncomputable def K94_pxrrlrllrrl (cal : Cal) (k : Nat) (m1 : Nat) : XR := (upX 1 (K94_prrlrllrr cal k m1) (K94_pxrrlr cal k))
noncomputable def K94_prrlrllrrll (cal : Cal) (k : Nat) (m1 : Nat) : KR := (cutK (Lv.a (Lv.a (Lv.b (Lv.b (Lv.a (Lv.a (Lv.b (Lv.a (Lv.b (Lv.b (A 94))))))))))).c (codeE P cal (codeF P cal m1) none 94 (cR (cL (cL (cR (cR (cL (cL (cR (cL (cR (cR code94))))))))))) (Lv.b (Lv.a (Lv.a (Lv.b (Lv.b (Lv.a (Lv.a (Lv.b (Lv.a (Lv.b (Lv.b (A 94)))))))))))) (K94_prrlrllrr cal k m1) (K94_pxrrlrllrrl cal k m1) (doneK P results94)))
noncomputable def K94_prrlrllrrllr (cal : Cal) (k : Nat) (m1 : Nat) : KR := (cutK (Lv.b (Lv.a (Lv.a (Lv.b (Lv.b (Lv.a (Lv.a (Lv.b (Lv.a (Lv.b (Lv.b (A 94)))))))))))).c (codeE P cal (codeF P cal m1) none 94 (cR (cR (cL (cL (cR (cR (cL (cL (cR (cL (cR (cR code94)))))))))))) (Lv.b (Lv.b (Lv.a (Lv.a (Lv.b (Lv.b (Lv.a (Lv.a (Lv.b (Lv.a (Lv.b (Lv.b (A 94))))))))))))) (K94_prrlrllrr cal k m1) (K94_pxrrlrllrrl cal k m1) (doneK P results94)))
noncomputable def K94_prrr (cal : Cal) (k : Nat) : KR := (cutK (Lv.b (Lv.b (Lv.b (A 94)))).c (codeE P cal (codeF P cal k) none 94 (cR (cR (cR (cR code94)))) (Lv.b (Lv.b (Lv.b (Lv.b (A 94))))) (doneK P results94) X0 (doneK P results94)))
noncomputable def E94_2 (cal : Cal) (k m1 : Nat) : KR := codeE P cal (codeF P cal m1) none 94 (cR (cR (cR (cL (cL (cR (cL (cR (cR code94))))))))) (Lv.b (Lv.b (Lv.b (Lv.a (Lv.a (Lv.b (Lv.a (Lv.b (Lv.b (A 94)))))))))) (K94_prrlrl cal k m1) (K94_pxrrlr cal k) (doneK P results94)
noncomputable def E94_1 (cal : Cal) (k m1 : Nat) : KR := codeE P cal (codeF P cal m1) none 94 (cL (cL (cR (cL (cR (cR code94)))))) (Lv.a (Lv.a (Lv.b (Lv.a (Lv.b (Lv.b (A 94))))))) (K94_prrlrl cal k m1) (K94_pxrrlr cal k) (doneK P results94)
noncomputable def R94_1 (cal : Cal) (k m1 : Nat) : V6 := fun u2 u3 u5 u9 u10 u11 H n => codeF P cal m1 (Lv.a (Lv.b (Lv.a (Lv.b (Lv.b (A 94)))))) none 94 (cL (cR (cL (cR (cR code94))))) (K94_prr cal k) (K94_pxrrlr cal k) (doneK P results94) (Tr.set (Tr.set (Tr.set (Tr.set (Tr.set (Tr.set Tr.nil 11 (some u11)) 10 (some u10)) 9 (some u9)) 5 (some u5)) 3 (some u3)) 2 (some u2)) H n []
noncomputable def B94_2 (cal : Cal) (k m1 : Nat) (b1 : V6) (u2 u3 u5 u9 u10 u11 : Value) (H : Hp) (n : Nat) : Res :=
binK P .add 3 (.tmp 11) (.const (.int .i64 1)) u11 (.int .i64 1) fun v_f =>
b1 u2 u3 u5 u9 u10 v_f H n
noncomputable def C94_2 (cal : Cal) (k m1 : Nat) (b1 : V6) (u2 u3 u5 u9 u10 u11 : Value) (H : Hp) (n : Nat) : Res := B94_2 cal k m1 b1 u2 u3 u5 u9 u10 u11 H n
theorem h94_2 (cal : Cal) (k m1 : Nat) (u2 u3 u5 u9 u10 u11 : Value) (H : Hp) (n : Nat) : labK (E94_2 cal k m1) (Tr.set (Tr.set (Tr.set (Tr.set (Tr.set (Tr.set Tr.nil 11 (some u11)) 10 (some u10)) 9 (some u9)) 5 (some u5)) 3 (some u3)) 2 (some u2)) H n [] = C94_2 cal k m1 (R94_1 cal k m1) u2 u3 u5 u9 u10 u11 H n := by
  refine Eq.trans (b := B94_2 cal k m1 (R94_1 cal k m1) u2 u3 u5 u9 u10 u11 H n) (by kernel_rfl) ?_
  rw [C94_2]
noncomputable def B94_1 (cal : Cal) (k m1 : Nat) (j2 : V6) (b1 : V6) (u2 u3 u5 u9 u10 u11 : Value) (H : Hp) (n : Nat) : Res :=
binK P .lss 3 (.tmp 11) (.tmp 10) u11 u10 fun v_e =>
ifK v_e (
bindO (indexAddrV P 32 u9 u11) fun v_h =>
bindO (addrV v_h) fun a_j => bindO (loadV P H 88 a_j) fun v_i =>
allocK P 88 H n fun v_k H_l n_m =>
bindO (storeP P 88 v_k v_i H_l) fun H_o =>
bindO (addrV v_k) fun a_q => bindO (loadV P H_o 88 a_q) fun v_p =>
bindO (addrV u3) fun a_s => bindO (loadV P H_o 88 a_s) fun v_r =>
binK P .eql 88 (.tmp 15) (.tmp 16) v_p v_r fun v_t =>
guardK v_t false (fun k_v =>
bindO (addrV v_k) fun a_10 => bindO (loadV P H_o 88 a_10) fun v_z =>
k_v v_z H_o n_m) H_o n_m fun v_w H_x n_y =>
guardK v_t false (fun k_11 =>
bindO (fieldAddrV P 88 u3 1) fun v_15 =>
k_11 v_15 H_x n_y) H_x n_y fun v_12 H_13 n_14 =>
guardK v_t false (fun k_16 =>
bindO (addrV v_12) fun a_1b => bindO (loadV P H_13 3 a_1b) fun v_1a =>
k_16 v_1a H_13 n_14) H_13 n_14 fun v_17 H_18 n_19 =>
guardK v_t false (fun k_1c =>
bindO (fieldAddrV P 88 u3 0) fun v_1g =>
k_1c v_1g H_18 n_19) H_18 n_19 fun v_1d H_1e n_1f =>
guardK v_t false (fun k_1h =>
bindO (addrV v_1d) fun a_1m => bindO (loadV P H_1e 3 a_1m) fun v_1l =>
k_1h v_1l H_1e n_1f) H_1e n_1f fun v_1i H_1j n_1k =>
guardK v_t false (fun k_1n =>
bindO (buildP P 88 [(0, v_17), (1, v_1i)]) fun v_1r =>
k_1n v_1r H_1j n_1k) H_1j n_1k fun v_1o H_1p n_1q =>
guardK v_t false (fun k_1s =>
binK P .eql 88 (.tmp 19) (.tmp 24) v_w v_1o fun v_1w =>
k_1s v_1w H_1p n_1q) H_1p n_1q fun v_1t H_1u n_1v =>
bindO (pickV v_t (.bool true) v_1t) fun v_1x =>
ifK v_1x (
binK P .add 3 (.tmp 27) (.const (.int .i64 1)) u5 (.int .i64 1) fun v_1z =>
j2 u2 u3 v_1z u9 u10 u11 H_1u n_1v) (
j2 u2 u3 u5 u9 u10 u11 H_1u n_1v)) (
bindO (addrV u2) fun a_22 => bindO (loadV P H 35 a_22) fun v_21 =>
bindO (fieldAddrV P 88 u3 0) fun v_23 =>
bindO (addrV v_23) fun a_25 => bindO (loadV P H 3 a_25) fun v_24 =>
callFK P cal 71 [v_21, v_24] H n fun v_26 H_27 n_28 =>
guardK v_26 true (fun k_2a =>
bindO (addrV u2) fun a_2f => bindO (loadV P H_27 35 a_2f) fun v_2e =>
k_2a v_2e H_27 n_28) H_27 n_28 fun v_2b H_2c n_2d =>
guardK v_26 true (fun k_2g =>
bindO (fieldAddrV P 88 u3 1) fun v_2k =>
k_2g v_2k H_2c n_2d) H_2c n_2d fun v_2h H_2i n_2j =>
guardK v_26 true (fun k_2l =>
bindO (addrV v_2h) fun a_2q => bindO (loadV P H_2i 3 a_2q) fun v_2p =>
k_2l v_2p H_2i n_2j) H_2i n_2j fun v_2m H_2n n_2o =>
guardK v_26 true (fun k_2r =>
callFK P cal 71 [v_2b, v_2m] H_2n n_2o fun v_2v H_2w n_2x =>
k_2r v_2v H_2w n_2x) H_2n n_2o fun v_2s H_2t n_2u =>
bindO (pickV v_26 v_2s (.bool false)) fun v_2y =>
guardK v_2y true (fun k_30 =>
bindO (fieldAddrV P 88 u3 0) fun v_34 =>
k_30 v_34 H_2t n_2u) H_2t n_2u fun v_31 H_32 n_33 =>
guardK v_2y true (fun k_35 =>
bindO (addrV v_31) fun a_3a => bindO (loadV P H_32 3 a_3a) fun v_39 =>
k_35 v_39 H_32 n_33) H_32 n_33 fun v_36 H_37 n_38 =>
guardK v_2y true (fun k_3b =>
bindO (fieldAddrV P 88 u3 1) fun v_3f =>
k_3b v_3f H_37 n_38) H_37 n_38 fun v_3c H_3d n_3e =>
guardK v_2y true (fun k_3g =>
bindO (addrV v_3c) fun a_3l => bindO (loadV P H_3d 3 a_3l) fun v_3k =>
k_3g v_3k H_3d n_3e) H_3d n_3e fun v_3h H_3i n_3j =>
guardK v_2y true (fun k_3m =>
binK P .neq 3 (.tmp 42) (.tmp 44) v_36 v_3h fun v_3q =>
k_3m v_3q H_3i n_3j) H_3i n_3j fun v_3n H_3o n_3p =>
bindO (pickV v_2y v_3n (.bool false)) fun v_3r =>
guardK v_3r true (fun k_3t =>
k_3t u5 H_3o n_3p) H_3o n_3p fun v_3u H_3v n_3w =>
guardK v_3r true (fun k_3y =>
binK P .eql 3 (.tmp 48) (.const (.int .i64 1)) v_3u (.int .i64 1) fun v_42 =>
k_3y v_42 H_3v n_3w) H_3v n_3w fun v_3z H_40 n_41 =>
bindO (pickV v_3r v_3z (.bool false)) fun v_43 =>
some (v_43, H_40, n_41))
noncomputable def C94_1 (cal : Cal) (k m1 : Nat) (b1 : V6) (u2 u3 u5 u9 u10 u11 : Value) (H : Hp) (n : Nat) : Res := B94_1 cal k m1 (C94_2 cal k m1 b1) b1 u2 u3 u5 u9 u10 u11 H n
noncomputable def S94_1 (cal : Cal) (k : Nat) : Nat → V6 := fun m => Nat.rec (motive := fun _ => V6) (C94_1 cal k 0 (fun _ _ _ _ _ _ _ _ => none)) (fun m ih => C94_1 cal k (m + 1) ih) m
theorem h94_1 (cal : Cal) (k m1 : Nat) (u2 u3 u5 u9 u10 u11 : Value) (H : Hp) (n : Nat) : labK (E94_1 cal k m1) (Tr.set (Tr.set (Tr.set (Tr.set (Tr.set (Tr.set Tr.nil 11 (some u11)) 10 (some u10)) 9 (some u9)) 5 (some u5)) 3 (some u3)) 2 (some u2)) H n [] = C94_1 cal k m1 (R94_1 cal k m1) u2 u3 u5 u9 u10 u11 H n := by
  refine Eq.trans (b := B94_1 cal k m1 (fun u2 u3 u5 u9 u10 u11 H n => labK (E94_2 cal k m1) (Tr.set (Tr.set (Tr.set (Tr.set (Tr.set (Tr.set Tr.nil 11 (some u11)) 10 (some u10)) 9 (some u9)) 5 (some u5)) 3 (some u3)) 2 (some u2)) H n []) (R94_1 cal k m1) u2 u3 u5 u9 u10 u11 H n) (by kernel_rfl) ?_
  rw [C94_1]
  have e2 : (fun u2 u3 u5 u9 u10 u11 H n => labK (E94_2 cal k m1) (Tr.set (Tr.set (Tr.set (Tr.set (Tr.set (Tr.set Tr.nil 11 (some u11)) 10 (some u10)) 9 (some u9)) 5 (some u5)) 3 (some u3)) 2 (some u2)) H n []) = (C94_2 cal k m1 (R94_1 cal k m1)) := by funext u2 u3 u5 u9 u10 u11 H n; exact h94_2 ..
  rw [e2]
theorem q94_1 (cal : Cal) (k : Nat) : ∀ (m : Nat) (u2 u3 u5 u9 u10 u11 : Value) (H : Hp) (n : Nat), labK (E94_1 cal k m) (Tr.set (Tr.set (Tr.set (Tr.set (Tr.set (Tr.set Tr.nil 11 (some u11)) 10 (some u10)) 9 (some u9)) 5 (some u5)) 3 (some u3)) 2 (some u2)) H n [] = S94_1 cal k m u2 u3 u5 u9 u10 u11 H n
  | 0, u2, u3, u5, u9, u10, u11, H, n => by
    rw [h94_1]
    have e : R94_1 cal k 0 = fun _ _ _ _ _ _ _ _ => none := by funext u2 u3 u5 u9 u10 u11 H n; kernel_rfl
    rw [e]; rfl
  | m + 1, u2, u3, u5, u9, u10, u11, H, n => by
    rw [h94_1]
    have e : R94_1 cal k (m + 1) = S94_1 cal k m := by
      funext u2 u3 u5 u9 u10 u11 H n
      have e : R94_1 cal k (m + 1) u2 u3 u5 u9 u10 u11 H n = labK (E94_1 cal k m) (Tr.set (Tr.set (Tr.set (Tr.set (Tr.set (Tr.set Tr.nil 11 (some u11)) 10 (some u10)) 9 (some u9)) 5 (some u5)) 3 (some u3)) 2 (some u2)) H n [] := by kernel_rfl
      rw [e]; exact q94_1 ..
    rw [e]; rfl
noncomputable def B94_0 (cal : Cal) (k : Nat) (j1 : V6) (v0 v1 : Value) (H : Hp) (n : Nat) : Res :=
boxK 35 v0 H n fun v_1 H_2 n_3 =>
boxK 88 v1 H_2 n_3 fun v_4 H_5 n_6 =>
bindO (fieldAddrV P 35 v_1 1) fun v_9 =>
bindO (addrV v_9) fun a_b => bindO (loadV P H_5 32 a_b) fun v_a =>
bindO (lenV P 32 v_a) fun v_c =>
j1 v_1 v_4 (.int .i64 0) v_a v_c (.int .i64 0) H_5 n_6
noncomputable def C94_0 (cal : Cal) (k : Nat) (v0 v1 : Value) (H : Hp) (n : Nat) : Res := B94_0 cal k (S94_1 cal k k) v0 v1 H n
theorem h94_0 (cal : Cal) (k : Nat) (v0 v1 : Value) (H : Hp) (n : Nat) : bodyE P cal A (k + 1) 94 [v0, v1] H n = C94_0 cal k v0 v1 H n := by
  have h : bodyE P cal A (k + 1) 94 [v0, v1] H n = B94_0 cal k (fun u2 u3 u5 u9 u10 u11 H n => labK (E94_1 cal k k) (Tr.set (Tr.set (Tr.set (Tr.set (Tr.set (Tr.set Tr.nil 11 (some u11)) 10 (some u10)) 9 (some u9)) 5 (some u5)) 3 (some u3)) 2 (some u2)) H n []) v0 v1 H n := by
    rw [body_eq (fn := Go.Proofs.Try.f94) (c := code94) (rs := results94) (by kernel_rfl) (by kernel_rfl) (by kernel_rfl) (by kernel_rfl)]
    kernel_rfl
  rw [h, C94_0]
  have e1 : (fun u2 u3 u5 u9 u10 u11 H n => labK (E94_1 cal k k) (Tr.set (Tr.set (Tr.set (Tr.set (Tr.set (Tr.set Tr.nil 11 (some u11)) 10 (some u10)) 9 (some u9)) 5 (some u5)) 3 (some u3)) 2 (some u2)) H n []) = (S94_1 cal k k) := by funext u2 u3 u5 u9 u10 u11 H n; exact q94_1 ..
  rw [e1]
noncomputable def code95 : Code := codeOf 95
noncomputable def results95 : List ResultVar := resOf 95
noncomputable def K95_p (cal : Cal) (k : Nat) : KR := (cutK (A 95).c (codeE P cal (codeF P cal k) none 95 (cR code95) (Lv.b (A 95)) (doneK P results95) X0 (doneK P results95)))
noncomputable def K95_pr (cal : Cal) (k : Nat) : KR := (cutK (Lv.b (A 95)).c (codeE P cal (codeF P cal k) none 95 (cR (cR code95)) (Lv.b (Lv.b (A 95))) (doneK P results95) X0 (doneK P results95)))
noncomputable def K95_prl (cal : Cal) (k : Nat) : KR := (cutK (Lv.a (Lv.b (A 95))).c (codeE P cal (codeF P cal k) none 95 (cR (cL (cR code95))) (Lv.b (Lv.a (Lv.b (A 95)))) (K95_pr cal k) X0 (doneK P results95)))
noncomputable def K95_pxrlr (cal : Cal) (k : Nat) : XR := (upX 0 (K95_pr cal k) X0)
noncomputable def K95_prlrl (cal : Cal) (k : Nat) (m1 : Nat) : KR := (fun T H n D => codeF P cal m1 (Lv.a (Lv.b (Lv.a (Lv.b (A 95))))) none 95 (cL (cR (cL (cR code95)))) (K95_pr cal k) (K95_pxrlr cal k) (doneK P results95) (cutT (Lv.a (Lv.b (Lv.a (Lv.b (A 95))))).c T) H n D)
noncomputable def K95_prlrll (cal : Cal) (k : Nat) (m1 : Nat) : KR := (cutK (Lv.a (Lv.a (Lv.b (Lv.a (Lv.b (A 95)))))).c (codeE P cal (codeF P cal m1) none 95 (cR (cL (cL (cR (cL (cR code95)))))) (Lv.b (Lv.a (Lv.a (Lv.b (Lv.a (Lv.b (A 95))))))) (K95_prlrl cal k m1) (K95_pxrlr cal k) (doneK P results95)))
noncomputable def K95_prlrllr (cal : Cal) (k : Nat) (m1 : Nat) : KR := (cutK (Lv.b (Lv.a (Lv.a (Lv.b (Lv.a (Lv.b (A 95))))))).c (codeE P cal (codeF P cal m1) none 95 (cR (cR (cL (cL (cR (cL (cR code95))))))) (Lv.b (Lv.b (Lv.a (Lv.a (Lv.b (Lv.a (Lv.b (A 95)))))))) (K95_prlrl cal k m1) (K95_pxrlr cal k) (doneK P results95)))
noncomputable def K95_prlrllrr (cal : Cal) (k : Nat) (m1 : Nat) : KR := (cutK (Lv.b (Lv.b (Lv.a (Lv.a (Lv.b (Lv.a (Lv.b (A 95)))))))).c (codeE P cal (codeF P cal m1) none 95 (cR (cR (cR (cL (cL (cR (cL (cR code95)))))))) (Lv.b (Lv.b (Lv.b (Lv.a (Lv.a (Lv.b (Lv.a (Lv.b (A 95))))))))) (K95_prlrl cal k m1) (K95_pxrlr cal k) (doneK P results95)))
noncomputable def K95_pxrlrllrrl (cal : Cal) (k : Nat) (m1 : Nat) : XR := (upX 1 (K95_prlrllrr cal k m1) (K95_pxrlr cal k))
noncomputable def K95_prlrllrrll (cal : Cal) (k : Nat) (m1 : Nat) : KR := (cutK (Lv.a (Lv.a (Lv.b (Lv.b (Lv.a (Lv.a (Lv.b (Lv.a (Lv.b (A 95)))))))))).c (codeE P cal (codeF P cal m1) none 95 (cR (cL (cL (cR (cR (cL (cL (cR (cL (cR code95)))))))))) (Lv.b (Lv.a (Lv.a (Lv.b (Lv.b (Lv.a (Lv.a (Lv.b (Lv.a (Lv.b (A 95))))))))))) (K95_prlrllrr cal k m1) (K95_pxrlrllrrl cal k m1) (doneK P results95)))
noncomputable def K95_prlrllrrllr (cal : Cal) (k : Nat) (m1 : Nat) : KR := (cutK (Lv.b (Lv.a (Lv.a (Lv.b (Lv.b (Lv.a (Lv.a (Lv.b (Lv.a (Lv.b (A 95))))))))))).c (codeE P cal (codeF P cal m1) none 95 (cR (cR (cL (cL (cR (cR (cL (cL (cR (cL (cR code95))))))))))) (Lv.b (Lv.b (Lv.a (Lv.a (Lv.b (Lv.b (Lv.a (Lv.a (Lv.b (Lv.a (Lv.b (A 95)))))))))))) (K95_prlrllrr cal k m1) (K95_pxrlrllrrl cal k m1) (doneK P results95)))
noncomputable def K95_prlrllrrllrrl (cal : Cal) (k : Nat) (m1 : Nat) : KR := (cutK (Lv.a (Lv.b (Lv.b (Lv.a (Lv.a (Lv.b (Lv.b (Lv.a (Lv.a (Lv.b (Lv.a (Lv.b (A 95))))))))))))).c (codeE P cal (codeF P cal m1) none 95 (cR (cL (cR (cR (cL (cL (cR (cR (cL (cL (cR (cL (cR code95))))))))))))) (Lv.b (Lv.a (Lv.b (Lv.b (Lv.a (Lv.a (Lv.b (Lv.b (Lv.a (Lv.a (Lv.b (Lv.a (Lv.b (A 95)))))))))))))) (K95_prlrllrr cal k m1) (K95_pxrlrllrrl cal k m1) (doneK P results95)))
noncomputable def K95_prr (cal : Cal) (k : Nat) : KR := (cutK (Lv.b (Lv.b (A 95))).c (codeE P cal (codeF P cal k) none 95 (cR (cR (cR code95))) (Lv.b (Lv.b (Lv.b (A 95)))) (doneK P results95) X0 (doneK P results95)))
noncomputable def E95_1 (cal : Cal) (k m1 : Nat) : KR := codeE P cal (codeF P cal m1) none 95 (cL (cL (cR (cL (cR code95))))) (Lv.a (Lv.a (Lv.b (Lv.a (Lv.b (A 95)))))) (K95_prlrl cal k m1) (K95_pxrlr cal k) (doneK P results95)
noncomputable def R95_1 (cal : Cal) (k m1 : Nat) : V4 := fun u1 u7 u8 u9 H n => codeF P cal m1 (Lv.a (Lv.b (Lv.a (Lv.b (A 95))))) none 95 (cL (cR (cL (cR code95)))) (K95_pr cal k) (K95_pxrlr cal k) (doneK P results95) (Tr.set (Tr.set (Tr.set (Tr.set Tr.nil 9 (some u9)) 8 (some u8)) 7 (some u7)) 1 (some u1)) H n []
noncomputable def B95_1 (cal : Cal) (k m1 : Nat) (b1 : V4) (u1 u7 u8 u9 : Value) (H : Hp) (n : Nat) : Res :=
binK P .lss 3 (.tmp 9) (.tmp 8) u9 u8 fun v_5 =>
ifK v_5 (
bindO (indexAddrV P 33 u7 u9) fun v_6 =>
bindO (addrV v_6) fun a_8 => bindO (loadV P H 86 a_8) fun v_7 =>
allocK P 86 H n fun v_9 H_a n_b =>
bindO (storeP P 86 v_9 v_7 H_a) fun H_d =>
bindO (addrV v_9) fun a_g => bindO (loadV P H_d 86 a_g) fun v_f =>
callVK P cal u1 [v_f] H_d n_b fun v_h H_i n_j =>
bindO (pureSem P v_h (Op.unary UnOp.not v_h)) fun v_k =>
ifK v_k (
some ((.bool false), H_i, n_j)) (
binK P .add 3 (.tmp 9) (.const (.int .i64 1)) u9 (.int .i64 1) fun v_m =>
b1 u1 u7 u8 v_m H_i n_j)) (
some ((.bool true), H, n))
noncomputable def C95_1 (cal : Cal) (k m1 : Nat) (b1 : V4) (u1 u7 u8 u9 : Value) (H : Hp) (n : Nat) : Res := B95_1 cal k m1 b1 u1 u7 u8 u9 H n
noncomputable def S95_1 (cal : Cal) (k : Nat) : Nat → V4 := fun m => Nat.rec (motive := fun _ => V4) (C95_1 cal k 0 (fun _ _ _ _ _ _ => none)) (fun m ih => C95_1 cal k (m + 1) ih) m
theorem h95_1 (cal : Cal) (k m1 : Nat) (u1 u7 u8 u9 : Value) (H : Hp) (n : Nat) : labK (E95_1 cal k m1) (Tr.set (Tr.set (Tr.set (Tr.set Tr.nil 9 (some u9)) 8 (some u8)) 7 (some u7)) 1 (some u1)) H n [] = C95_1 cal k m1 (R95_1 cal k m1) u1 u7 u8 u9 H n := by
  refine Eq.trans (b := B95_1 cal k m1 (R95_1 cal k m1) u1 u7 u8 u9 H n) (by kernel_rfl) ?_
  rw [C95_1]
theorem q95_1 (cal : Cal) (k : Nat) : ∀ (m : Nat) (u1 u7 u8 u9 : Value) (H : Hp) (n : Nat), labK (E95_1 cal k m) (Tr.set (Tr.set (Tr.set (Tr.set Tr.nil 9 (some u9)) 8 (some u8)) 7 (some u7)) 1 (some u1)) H n [] = S95_1 cal k m u1 u7 u8 u9 H n
  | 0, u1, u7, u8, u9, H, n => by
    rw [h95_1]
    have e : R95_1 cal k 0 = fun _ _ _ _ _ _ => none := by funext u1 u7 u8 u9 H n; kernel_rfl
    rw [e]; rfl
  | m + 1, u1, u7, u8, u9, H, n => by
    rw [h95_1]
    have e : R95_1 cal k (m + 1) = S95_1 cal k m := by
      funext u1 u7 u8 u9 H n
      have e : R95_1 cal k (m + 1) u1 u7 u8 u9 H n = labK (E95_1 cal k m) (Tr.set (Tr.set (Tr.set (Tr.set Tr.nil 9 (some u9)) 8 (some u8)) 7 (some u7)) 1 (some u1)) H n [] := by kernel_rfl
      rw [e]; exact q95_1 ..
    rw [e]; rfl
noncomputable def B95_0 (cal : Cal) (k : Nat) (j1 : V4) (v0 v1 : Value) (H : Hp) (n : Nat) : Res :=
bindO (lenV P 33 v0) fun v_3 =>
j1 v1 v0 v_3 (.int .i64 0) H n
noncomputable def C95_0 (cal : Cal) (k : Nat) (v0 v1 : Value) (H : Hp) (n : Nat) : Res := B95_0 cal k (S95_1 cal k k) v0 v1 H n
theorem h95_0 (cal : Cal) (k : Nat) (v0 v1 : Value) (H : Hp) (n : Nat) : bodyE P cal A (k + 1) 95 [v0, v1] H n = C95_0 cal k v0 v1 H n := by
  have h : bodyE P cal A (k + 1) 95 [v0, v1] H n = B95_0 cal k (fun u1 u7 u8 u9 H n => labK (E95_1 cal k k) (Tr.set (Tr.set (Tr.set (Tr.set Tr.nil 9 (some u9)) 8 (some u8)) 7 (some u7)) 1 (some u1)) H n []) v0 v1 H n := by
    rw [body_eq (fn := Go.Proofs.Try.f95) (c := code95) (rs := results95) (by kernel_rfl) (by kernel_rfl) (by kernel_rfl) (by kernel_rfl)]
    kernel_rfl
  rw [h, C95_0]
  have e1 : (fun u1 u7 u8 u9 H n => labK (E95_1 cal k k) (Tr.set (Tr.set (Tr.set (Tr.set Tr.nil 9 (some u9)) 8 (some u8)) 7 (some u7)) 1 (some u1)) H n []) = (S95_1 cal k k) := by funext u1 u7 u8 u9 H n; exact q95_1 ..
  rw [e1]
noncomputable def code96 : Code := codeOf 96
noncomputable def results96 : List ResultVar := resOf 96
noncomputable def K96_p (cal : Cal) (k : Nat) : KR := (cutK (A 96).c (codeE P cal (codeF P cal k) none 96 (cR code96) (Lv.b (A 96)) (doneK P results96) X0 (doneK P results96)))
noncomputable def K96_pr (cal : Cal) (k : Nat) : KR := (cutK (Lv.b (A 96)).c (codeE P cal (codeF P cal k) none 96 (cR (cR code96)) (Lv.b (Lv.b (A 96))) (doneK P results96) X0 (doneK P results96)))
noncomputable def B96_0 (cal : Cal) (k : Nat) (v0 : Value) (H : Hp) (n : Nat) : Res :=
boxK 86 v0 H n fun v_1 H_2 n_3 =>
bindO (fieldAddrV P 86 v_1 0) fun v_5 =>
bindO (addrV v_5) fun a_7 => bindO (loadV P H_2 3 a_7) fun v_6 =>
binK P .geq 3 (.tmp 4) (.const (.int .i64 0)) v_6 (.int .i64 0) fun v_8 =>
guardK v_8 true (fun k_a =>
bindO (fieldAddrV P 86 v_1 0) fun v_e =>
k_a v_e H_2 n_3) H_2 n_3 fun v_b H_c n_d =>
guardK v_8 true (fun k_f =>
bindO (addrV v_b) fun a_k => bindO (loadV P H_c 3 a_k) fun v_j =>
k_f v_j H_c n_d) H_c n_d fun v_g H_h n_i =>
guardK v_8 true (fun k_l =>
binK P .leq 3 (.tmp 8) (.const (.int .i64 1000)) v_g (.int .i64 1000) fun v_p =>
k_l v_p H_h n_i) H_h n_i fun v_m H_n n_o =>
bindO (pickV v_8 v_m (.bool false)) fun v_q =>
guardK v_q true (fun k_s =>
bindO (fieldAddrV P 86 v_1 1) fun v_w =>
k_s v_w H_n n_o) H_n n_o fun v_t H_u n_v =>
guardK v_q true (fun k_x =>
bindO (addrV v_t) fun a_12 => bindO (loadV P H_u 53 a_12) fun v_11 =>
k_x v_11 H_u n_v) H_u n_v fun v_y H_z n_10 =>
guardK v_q true (fun k_13 =>
callFK P cal 114 [v_y] H_z n_10 fun v_17 H_18 n_19 =>
k_13 v_17 H_18 n_19) H_z n_10 fun v_14 H_15 n_16 =>
bindO (pickV v_q v_14 (.bool false)) fun v_1a =>
guardK v_1a true (fun k_1c =>
bindO (fieldAddrV P 86 v_1 2) fun v_1g =>
k_1c v_1g H_15 n_16) H_15 n_16 fun v_1d H_1e n_1f =>
guardK v_1a true (fun k_1h =>
bindO (addrV v_1d) fun a_1m => bindO (loadV P H_1e 53 a_1m) fun v_1l =>
k_1h v_1l H_1e n_1f) H_1e n_1f fun v_1i H_1j n_1k =>
guardK v_1a true (fun k_1n =>
callFK P cal 114 [v_1i] H_1j n_1k fun v_1r H_1s n_1t =>
k_1n v_1r H_1s n_1t) H_1j n_1k fun v_1o H_1p n_1q =>
bindO (pickV v_1a v_1o (.bool false)) fun v_1u =>
some (v_1u, H_1p, n_1q)
noncomputable def C96_0 (cal : Cal) (k : Nat) (v0 : Value) (H : Hp) (n : Nat) : Res := B96_0 cal k v0 H n
theorem h96_0 (cal : Cal) (k : Nat) (v0 : Value) (H : Hp) (n : Nat) : bodyE P cal A (k + 1) 96 [v0] H n = C96_0 cal k v0 H n := by
  have h : bodyE P cal A (k + 1) 96 [v0] H n = B96_0 cal k v0 H n := by
    rw [body_eq (fn := Go.Proofs.Try.f96) (c := code96) (rs := results96) (by kernel_rfl) (by kernel_rfl) (by kernel_rfl) (by kernel_rfl)]
    kernel_rfl
  rw [h, C96_0]
noncomputable def code98 : Code := codeOf 98
noncomputable def results98 : List ResultVar := resOf 98
noncomputable def K98_p (cal : Cal) (k : Nat) : KR := (cutK (A 98).c (codeE P cal (codeF P cal k) none 98 (cR code98) (Lv.b (A 98)) (doneK P results98) X0 (doneK P results98)))
noncomputable def K98_pr (cal : Cal) (k : Nat) : KR := (cutK (Lv.b (A 98)).c (codeE P cal (codeF P cal k) none 98 (cR (cR code98)) (Lv.b (Lv.b (A 98))) (doneK P results98) X0 (doneK P results98)))
noncomputable def K98_prr (cal : Cal) (k : Nat) : KR := (cutK (Lv.b (Lv.b (A 98))).c (codeE P cal (codeF P cal k) none 98 (cR (cR (cR code98))) (Lv.b (Lv.b (Lv.b (A 98)))) (doneK P results98) X0 (doneK P results98)))
noncomputable def K98_prrl (cal : Cal) (k : Nat) : KR := (cutK (Lv.a (Lv.b (Lv.b (A 98)))).c (codeE P cal (codeF P cal k) none 98 (cR (cL (cR (cR code98)))) (Lv.b (Lv.a (Lv.b (Lv.b (A 98))))) (K98_prr cal k) X0 (doneK P results98)))
noncomputable def K98_pxrrlr (cal : Cal) (k : Nat) : XR := (upX 0 (K98_prr cal k) X0)
noncomputable def K98_prrlrl (cal : Cal) (k : Nat) (m1 : Nat) : KR := (fun T H n D => codeF P cal m1 (Lv.a (Lv.b (Lv.a (Lv.b (Lv.b (A 98)))))) none 98 (cL (cR (cL (cR (cR code98))))) (K98_prr cal k) (K98_pxrrlr cal k) (doneK P results98) (cutT (Lv.a (Lv.b (Lv.a (Lv.b (Lv.b (A 98)))))).c T) H n D)
noncomputable def K98_prrlrll (cal : Cal) (k : Nat) (m1 : Nat) : KR := (cutK (Lv.a (Lv.a (Lv.b (Lv.a (Lv.b (Lv.b (A 98))))))).c (codeE P cal (codeF P cal m1) none 98 (cR (cL (cL (cR (cL (cR (cR code98))))))) (Lv.b (Lv.a (Lv.a (Lv.b (Lv.a (Lv.b (Lv.b (A 98)))))))) (K98_prrlrl cal k m1) (K98_pxrrlr cal k) (doneK P results98)))
noncomputable def K98_prrlrllr (cal : Cal) (k : Nat) (m1 : Nat) : KR := (cutK (Lv.b (Lv.a (Lv.a (Lv.b (Lv.a (Lv.b (Lv.b (A 98)))))))).c (codeE P cal (codeF P cal m1) none 98 (cR (cR (cL (cL (cR (cL (cR (cR code98)))))))) (Lv.b (Lv.b (Lv.a (Lv.a (Lv.b (Lv.a (Lv.b (Lv.b (A 98))))))))) (K98_prrlrl cal k m1) (K98_pxrrlr cal k) (doneK P results98)))
noncomputable def K98_prrlrllrr (cal : Cal) (k : Nat) (m1 : Nat) : KR := (cutK (Lv.b (Lv.b (Lv.a (Lv.a (Lv.b (Lv.a (Lv.b (Lv.b (A 98))))))))).c (codeE P cal (codeF P cal m1) none 98 (cR (cR (cR (cL (cL (cR (cL (cR (cR code98))))))))) (Lv.b (Lv.b (Lv.b (Lv.a (Lv.a (Lv.b (Lv.a (Lv.b (Lv.b (A 98)))))))))) (K98_prrlrl cal k m1) (K98_pxrrlr cal k) (doneK P results98)))
noncomputable def K98_pxrrlrllrrl (cal : Cal) (k : Nat) (m1 : Nat) : XR := (upX 1 (K98_prrlrllrr cal k m1) (K98_pxrrlr cal k))
noncomputable def K98_prrlrllrrll (cal : Cal) (k : Nat) (m1 : Nat) : KR := (cutK (Lv.a (Lv.a (Lv.b (Lv.b (Lv.a (Lv.a (Lv.b (Lv.a (Lv.b (Lv.b (A 98))))))))))).c (codeE P cal (codeF P cal m1) none 98 (cR (cL (cL (cR (cR (cL (cL (cR (cL (cR (cR code98))))))))))) (Lv.b (Lv.a (Lv.a (Lv.b (Lv.b (Lv.a (Lv.a (Lv.b (Lv.a (Lv.b (Lv.b (A 98)))))))))))) (K98_prrlrllrr cal k m1) (K98_pxrrlrllrrl cal k m1) (doneK P results98)))
noncomputable def K98_prrr (cal : Cal) (k : Nat) : KR := (cutK (Lv.b (Lv.b (Lv.b (A 98)))).c (codeE P cal (codeF P cal k) none 98 (cR (cR (cR (cR code98)))) (Lv.b (Lv.b (Lv.b (Lv.b (A 98))))) (doneK P results98) X0 (doneK P results98)))
noncomputable def E98_1 (cal : Cal) (k m1 : Nat) : KR := codeE P cal (codeF P cal m1) none 98 (cL (cL (cR (cL (cR (cR code98)))))) (Lv.a (Lv.a (Lv.b (Lv.a (Lv.b (Lv.b (A 98))))))) (K98_prrlrl cal k m1) (K98_pxrrlr cal k) (doneK P results98)
noncomputable def R98_1 (cal : Cal) (k m1 : Nat) : V4 := fun u1 u5 u9 u10 H n => codeF P cal m1 (Lv.a (Lv.b (Lv.a (Lv.b (Lv.b (A 98)))))) none 98 (cL (cR (cL (cR (cR code98))))) (K98_prr cal k) (K98_pxrrlr cal k) (doneK P results98) (Tr.set (Tr.set (Tr.set (Tr.set Tr.nil 10 (some u10)) 9 (some u9)) 5 (some u5)) 1 (some u1)) H n []
noncomputable def B98_1 (cal : Cal) (k m1 : Nat) (b1 : V4) (u1 u5 u9 u10 : Value) (H : Hp) (n : Nat) : Res :=
binK P .lss 3 (.tmp 10) (.const (.int .i64 8)) u10 (.int .i64 8) fun v_a =>
ifK v_a (
bindO (indexV P 111 u9 u10) fun v_b =>
allocK P 53 H n fun v_c H_d n_e =>
bindO (storeP P 53 v_c v_b H_d) fun H_g =>
bindO (addrV v_c) fun a_k => bindO (loadV P H_g 53 a_k) fun v_j =>
callVK P cal u1 [v_j] H_g n_e fun v_l H_m n_n =>
binK P .add 3 (.tmp 13) (.tmp 16) u5 v_l fun v_o =>
binK P .add 3 (.tmp 10) (.const (.int .i64 1)) u10 (.int .i64 1) fun v_q =>
b1 u1 v_o u9 v_q H_m n_n) (
some (u5, H, n))
noncomputable def C98_1 (cal : Cal) (k m1 : Nat) (b1 : V4) (u1 u5 u9 u10 : Value) (H : Hp) (n : Nat) : Res := B98_1 cal k m1 b1 u1 u5 u9 u10 H n
noncomputable def S98_1 (cal : Cal) (k : Nat) : Nat → V4 := fun m => Nat.rec (motive := fun _ => V4) (C98_1 cal k 0 (fun _ _ _ _ _ _ => none)) (fun m ih => C98_1 cal k (m + 1) ih) m
theorem h98_1 (cal : Cal) (k m1 : Nat) (u1 u5 u9 u10 : Value) (H : Hp) (n : Nat) : labK (E98_1 cal k m1) (Tr.set (Tr.set (Tr.set (Tr.set Tr.nil 10 (some u10)) 9 (some u9)) 5 (some u5)) 1 (some u1)) H n [] = C98_1 cal k m1 (R98_1 cal k m1) u1 u5 u9 u10 H n := by
  refine Eq.trans (b := B98_1 cal k m1 (R98_1 cal k m1) u1 u5 u9 u10 H n) (by kernel_rfl) ?_
  rw [C98_1]
theorem q98_1 (cal : Cal) (k : Nat) : ∀ (m : Nat) (u1 u5 u9 u10 : Value) (H : Hp) (n : Nat), labK (E98_1 cal k m) (Tr.set (Tr.set (Tr.set (Tr.set Tr.nil 10 (some u10)) 9 (some u9)) 5 (some u5)) 1 (some u1)) H n [] = S98_1 cal k m u1 u5 u9 u10 H n
  | 0, u1, u5, u9, u10, H, n => by
    rw [h98_1]
    have e : R98_1 cal k 0 = fun _ _ _ _ _ _ => none := by funext u1 u5 u9 u10 H n; kernel_rfl
    rw [e]; rfl
  | m + 1, u1, u5, u9, u10, H, n => by
    rw [h98_1]
    have e : R98_1 cal k (m + 1) = S98_1 cal k m := by
      funext u1 u5 u9 u10 H n
      have e : R98_1 cal k (m + 1) u1 u5 u9 u10 H n = labK (E98_1 cal k m) (Tr.set (Tr.set (Tr.set (Tr.set Tr.nil 10 (some u10)) 9 (some u9)) 5 (some u5)) 1 (some u1)) H n [] := by kernel_rfl
      rw [e]; exact q98_1 ..
    rw [e]; rfl
noncomputable def B98_0 (cal : Cal) (k : Nat) (j1 : V4) (v0 v1 : Value) (H : Hp) (n : Nat) : Res :=
boxK 113 v0 H n fun v_1 H_2 n_3 =>
bindO (fieldAddrV P 113 v_1 1) fun v_6 =>
bindO (addrV v_6) fun a_8 => bindO (loadV P H_2 111 a_8) fun v_7 =>
j1 v1 (.int .i64 0) v_7 (.int .i64 0) H_2 n_3
noncomputable def C98_0 (cal : Cal) (k : Nat) (v0 v1 : Value) (H : Hp) (n : Nat) : Res := B98_0 cal k (S98_1 cal k k) v0 v1 H n
theorem h98_0 (cal : Cal) (k : Nat) (v0 v1 : Value) (H : Hp) (n : Nat) : bodyE P cal A (k + 1) 98 [v0, v1] H n = C98_0 cal k v0 v1 H n := by
  have h : bodyE P cal A (k + 1) 98 [v0, v1] H n = B98_0 cal k (fun u1 u5 u9 u10 H n => labK (E98_1 cal k k) (Tr.set (Tr.set (Tr.set (Tr.set Tr.nil 10 (some u10)) 9 (some u9)) 5 (some u5)) 1 (some u1)) H n []) v0 v1 H n := by
    rw [body_eq (fn := Go.Proofs.Try.f98) (c := code98) (rs := results98) (by kernel_rfl) (by kernel_rfl) (by kernel_rfl) (by kernel_rfl)]
    kernel_rfl
  rw [h, C98_0]
  have e1 : (fun u1 u5 u9 u10 H n => labK (E98_1 cal k k) (Tr.set (Tr.set (Tr.set (Tr.set Tr.nil 10 (some u10)) 9 (some u9)) 5 (some u5)) 1 (some u1)) H n []) = (S98_1 cal k k) := by funext u1 u5 u9 u10 H n; exact q98_1 ..
  rw [e1]
noncomputable def code99 : Code := codeOf 99
noncomputable def results99 : List ResultVar := resOf 99
noncomputable def K99_p (cal : Cal) (k : Nat) : KR := (cutK (A 99).c (codeE P cal (codeF P cal k) none 99 (cR code99) (Lv.b (A 99)) (doneK P results99) X0 (doneK P results99)))
noncomputable def K99_pr (cal : Cal) (k : Nat) : KR := (cutK (Lv.b (A 99)).c (codeE P cal (codeF P cal k) none 99 (cR (cR code99)) (Lv.b (Lv.b (A 99))) (doneK P results99) X0 (doneK P results99)))
noncomputable def B99_0 (cal : Cal) (k : Nat) (v0 v1 : Value) (H : Hp) (n : Nat) : Res :=
boxK 53 v0 H n fun v_1 H_2 n_3 =>
bindO (fieldAddrV P 53 v_1 0) fun v_5 =>
bindO (addrV v_5) fun a_7 => bindO (loadV P H_2 3 a_7) fun v_6 =>
binK P .leq 3 (.tmp 6) (.tmp 7) v_6 v1 fun v_9 =>
guardK v_9 true (fun k_b =>
k_b v1 H_2 n_3) H_2 n_3 fun v_c H_d n_e =>
guardK v_9 true (fun k_g =>
bindO (fieldAddrV P 53 v_1 1) fun v_k =>
k_g v_k H_d n_e) H_d n_e fun v_h H_i n_j =>
guardK v_9 true (fun k_l =>
bindO (addrV v_h) fun a_q => bindO (loadV P H_i 3 a_q) fun v_p =>
k_l v_p H_i n_j) H_i n_j fun v_m H_n n_o =>
guardK v_9 true (fun k_r =>
binK P .leq 3 (.tmp 10) (.tmp 12) v_c v_m fun v_v =>
k_r v_v H_n n_o) H_n n_o fun v_s H_t n_u =>
bindO (pickV v_9 v_s (.bool false)) fun v_w =>
some (v_w, H_t, n_u)
noncomputable def C99_0 (cal : Cal) (k : Nat) (v0 v1 : Value) (H : Hp) (n : Nat) : Res := B99_0 cal k v0 v1 H n
theorem h99_0 (cal : Cal) (k : Nat) (v0 v1 : Value) (H : Hp) (n : Nat) : bodyE P cal A (k + 1) 99 [v0, v1] H n = C99_0 cal k v0 v1 H n := by
  have h : bodyE P cal A (k + 1) 99 [v0, v1] H n = B99_0 cal k v0 v1 H n := by
    rw [body_eq (fn := Go.Proofs.Try.f99) (c := code99) (rs := results99) (by kernel_rfl) (by kernel_rfl) (by kernel_rfl) (by kernel_rfl)]
    kernel_rfl
  rw [h, C99_0]
noncomputable def code100 : Code := codeOf 100
noncomputable def results100 : List ResultVar := resOf 100
noncomputable def K100_p (cal : Cal) (k : Nat) : KR := (cutK (A 100).c (codeE P cal (codeF P cal k) none 100 (cR code100) (Lv.b (A 100)) (doneK P results100) X0 (doneK P results100)))
noncomputable def K100_pr (cal : Cal) (k : Nat) : KR := (cutK (Lv.b (A 100)).c (codeE P cal (codeF P cal k) none 100 (cR (cR code100)) (Lv.b (Lv.b (A 100))) (doneK P results100) X0 (doneK P results100)))
noncomputable def B100_0 (cal : Cal) (k : Nat) (v0 v1 : Value) (H : Hp) (n : Nat) : Res :=
callFK P cal 32 [v0, (.int .i64 0), v1] H n fun v_4 H_5 n_6 =>
guardK v_4 true (fun k_8 =>
k_8 v1 H_5 n_6) H_5 n_6 fun v_9 H_a n_b =>
guardK v_4 true (fun k_d =>
binK P .leq 3 (.tmp 9) (.const (.int .i64 1000)) v_9 (.int .i64 1000) fun v_h =>
k_d v_h H_a n_b) H_a n_b fun v_e H_f n_g =>
bindO (pickV v_4 v_e (.bool false)) fun v_i =>
some (v_i, H_f, n_g)
noncomputable def C100_0 (cal : Cal) (k : Nat) (v0 v1 : Value) (H : Hp) (n : Nat) : Res := B100_0 cal k v0 v1 H n
theorem h100_0 (cal : Cal) (k : Nat) (v0 v1 : Value) (H : Hp) (n : Nat) : bodyE P cal A (k + 1) 100 [v0, v1] H n = C100_0 cal k v0 v1 H n := by
  have h : bodyE P cal A (k + 1) 100 [v0, v1] H n = B100_0 cal k v0 v1 H n := by
    rw [body_eq (fn := Go.Proofs.Try.f100) (c := code100) (rs := results100) (by kernel_rfl) (by kernel_rfl) (by kernel_rfl) (by kernel_rfl)]
    kernel_rfl
  rw [h, C100_0]
noncomputable def code101 : Code := codeOf 101
noncomputable def results101 : List ResultVar := resOf 101
noncomputable def K101_p (cal : Cal) (k : Nat) : KR := (cutK (A 101).c (codeE P cal (codeF P cal k) none 101 (cR code101) (Lv.b (A 101)) (doneK P results101) X0 (doneK P results101)))
noncomputable def K101_pr (cal : Cal) (k : Nat) : KR := (cutK (Lv.b (A 101)).c (codeE P cal (codeF P cal k) none 101 (cR (cR code101)) (Lv.b (Lv.b (A 101))) (doneK P results101) X0 (doneK P results101)))
noncomputable def K101_prr (cal : Cal) (k : Nat) : KR := (cutK (Lv.b (Lv.b (A 101))).c (codeE P cal (codeF P cal k) none 101 (cR (cR (cR code101))) (Lv.b (Lv.b (Lv.b (A 101)))) (doneK P results101) X0 (doneK P results101)))
noncomputable def K101_prrl (cal : Cal) (k : Nat) : KR := (cutK (Lv.a (Lv.b (Lv.b (A 101)))).c (codeE P cal (codeF P cal k) none 101 (cR (cL (cR (cR code101)))) (Lv.b (Lv.a (Lv.b (Lv.b (A 101))))) (K101_prr cal k) X0 (doneK P results101)))
noncomputable def K101_pxrrlr (cal : Cal) (k : Nat) : XR := (upX 0 (K101_prr cal k) X0)
noncomputable def K101_prrlrl (cal : Cal) (k : Nat) (m1 : Nat) : KR := (fun T H n D => codeF P cal m1 (Lv.a (Lv.b (Lv.a (Lv.b (Lv.b (A 101)))))) none 101 (cL (cR (cL (cR (cR code101))))) (K101_prr cal k) (K101_pxrrlr cal k) (doneK P results101) (cutT (Lv.a (Lv.b (Lv.a (Lv.b (Lv.b (A 101)))))).c T) H n D)
noncomputable def K101_prrlrll (cal : Cal) (k : Nat) (m1 : Nat) : KR := (cutK (Lv.a (Lv.a (Lv.b (Lv.a (Lv.b (Lv.b (A 101))))))).c (codeE P cal (codeF P cal m1) none 101 (cR (cL (cL (cR (cL (cR (cR code101))))))) (Lv.b (Lv.a (Lv.a (Lv.b (Lv.a (Lv.b (Lv.b (A 101)))))))) (K101_prrlrl cal k m1) (K101_pxrrlr cal k) (doneK P results101)))
noncomputable def K101_prrlrllr (cal : Cal) (k : Nat) (m1 : Nat) : KR := (cutK (Lv.b (Lv.a (Lv.a (Lv.b (Lv.a (Lv.b (Lv.b (A 101)))))))).c (codeE P cal (codeF P cal m1) none 101 (cR (cR (cL (cL (cR (cL (cR (cR code101)))))))) (Lv.b (Lv.b (Lv.a (Lv.a (Lv.b (Lv.a (Lv.b (Lv.b (A 101))))))))) (K101_prrlrl cal k m1) (K101_pxrrlr cal k) (doneK P results101)))
noncomputable def K101_prrlrllrr (cal : Cal) (k : Nat) (m1 : Nat) : KR := (cutK (Lv.b (Lv.b (Lv.a (Lv.a (Lv.b (Lv.a (Lv.b (Lv.b (A 101))))))))).c (codeE P cal (codeF P cal m1) none 101 (cR (cR (cR (cL (cL (cR (cL (cR (cR code101))))))))) (Lv.b (Lv.b (Lv.b (Lv.a (Lv.a (Lv.b (Lv.a (Lv.b (Lv.b (A 101)))))))))) (K101_prrlrl cal k m1) (K101_pxrrlr cal k) (doneK P results101)))
noncomputable def K101_pxrrlrllrrl (cal : Cal) (k : Nat) (m1 : Nat) : XR := (upX 1 (K101_prrlrllrr cal k m1) (K101_pxrrlr cal k))
noncomputable def K101_prrlrllrrll (cal : Cal) (k : Nat) (m1 : Nat) : KR := (cutK (Lv.a (Lv.a (Lv.b (Lv.b (Lv.a (Lv.a (Lv.b (Lv.a (Lv.b (Lv.b (A 101))))))))))).c (codeE P cal (codeF P cal m1) none 101 (cR (cL (cL (cR (cR (cL (cL (cR (cL (cR (cR code101))))))))))) (Lv.b (Lv.a (Lv.a (Lv.b (Lv.b (Lv.a (Lv.a (Lv.b (Lv.a (Lv.b (Lv.b (A 101)))))))))))) (K101_prrlrllrr cal k m1) (K101_pxrrlrllrrl cal k m1) (doneK P results101)))
noncomputable def K101_prrr (cal : Cal) (k : Nat) : KR := (cutK (Lv.b (Lv.b (Lv.b (A 101)))).c (codeE P cal (codeF P cal k) none 101 (cR (cR (cR (cR code101)))) (Lv.b (Lv.b (Lv.b (Lv.b (A 101))))) (doneK P results101) X0 (doneK P results101)))
noncomputable def E101_1 (cal : Cal) (k m1 : Nat) : KR := codeE P cal (codeF P cal m1) none 101 (cL (cL (cR (cL (cR (cR code101)))))) (Lv.a (Lv.a (Lv.b (Lv.a (Lv.b (Lv.b (A 101))))))) (K101_prrlrl cal k m1) (K101_pxrrlr cal k) (doneK P results101)
noncomputable def R101_1 (cal : Cal) (k m1 : Nat) : V3 := fun u0 u1 u3 H n => codeF P cal m1 (Lv.a (Lv.b (Lv.a (Lv.b (Lv.b (A 101)))))) none 101 (cL (cR (cL (cR (cR code101))))) (K101_prr cal k) (K101_pxrrlr cal k) (doneK P results101) (Tr.set (Tr.set (Tr.set Tr.nil 3 (some u3)) 1 (some u1)) 0 (some u0)) H n []
noncomputable def B101_1 (cal : Cal) (k m1 : Nat) (b1 : V3) (u0 u1 u3 : Value) (H : Hp) (n : Nat) : Res :=
binK P .lss 3 (.tmp 3) (.const (.int .i64 8)) u3 (.int .i64 8) fun v_8 =>
ifK v_8 (
bindO (indexAddrV P 121 u1 u3) fun v_c =>
bindO (storeP P 3 v_c (.int .i64 (-1)) H) fun H_e =>
binK P .add 3 (.tmp 3) (.const (.int .i64 1)) u3 (.int .i64 1) fun v_f =>
b1 u0 u1 v_f H_e n) (
bindO (addrV u1) fun a_i => bindO (loadV P H 121 a_i) fun v_h =>
bindO (storeP P 121 u0 v_h H) fun H_k =>
bindO (resV P (Tr.set Tr.nil 0 (some u0)) H_k results101) fun v_l => some (oneV v_l, H_k, n))
noncomputable def C101_1 (cal : Cal) (k m1 : Nat) (b1 : V3) (u0 u1 u3 : Value) (H : Hp) (n : Nat) : Res := B101_1 cal k m1 b1 u0 u1 u3 H n
noncomputable def S101_1 (cal : Cal) (k : Nat) : Nat → V3 := fun m => Nat.rec (motive := fun _ => V3) (C101_1 cal k 0 (fun _ _ _ _ _ => none)) (fun m ih => C101_1 cal k (m + 1) ih) m
theorem h101_1 (cal : Cal) (k m1 : Nat) (u0 u1 u3 : Value) (H : Hp) (n : Nat) : labK (E101_1 cal k m1) (Tr.set (Tr.set (Tr.set Tr.nil 3 (some u3)) 1 (some u1)) 0 (some u0)) H n [] = C101_1 cal k m1 (R101_1 cal k m1) u0 u1 u3 H n := by
  refine Eq.trans (b := B101_1 cal k m1 (R101_1 cal k m1) u0 u1 u3 H n) (by kernel_rfl) ?_
  rw [C101_1]
theorem q101_1 (cal : Cal) (k : Nat) : ∀ (m : Nat) (u0 u1 u3 : Value) (H : Hp) (n : Nat), labK (E101_1 cal k m) (Tr.set (Tr.set (Tr.set Tr.nil 3 (some u3)) 1 (some u1)) 0 (some u0)) H n [] = S101_1 cal k m u0 u1 u3 H n
  | 0, u0, u1, u3, H, n => by
    rw [h101_1]
    have e : R101_1 cal k 0 = fun _ _ _ _ _ => none := by funext u0 u1 u3 H n; kernel_rfl
    rw [e]; rfl
  | m + 1, u0, u1, u3, H, n => by
    rw [h101_1]
    have e : R101_1 cal k (m + 1) = S101_1 cal k m := by
      funext u0 u1 u3 H n
      have e : R101_1 cal k (m + 1) u0 u1 u3 H n = labK (E101_1 cal k m) (Tr.set (Tr.set (Tr.set Tr.nil 3 (some u3)) 1 (some u1)) 0 (some u0)) H n [] := by kernel_rfl
      rw [e]; exact q101_1 ..
    rw [e]; rfl
noncomputable def B101_0 (cal : Cal) (k : Nat) (j1 : V3) (H : Hp) (n : Nat) : Res :=
allocK P 121 H n fun v_1 H_2 n_3 =>
allocK P 121 H_2 n_3 fun v_4 H_5 n_6 =>
j1 v_1 v_4 (.int .i64 0) H_5 n_6
noncomputable def C101_0 (cal : Cal) (k : Nat) (H : Hp) (n : Nat) : Res := B101_0 cal k (S101_1 cal k k)  H n
theorem h101_0 (cal : Cal) (k : Nat) (H : Hp) (n : Nat) : bodyE P cal A (k + 1) 101 [] H n = C101_0 cal k  H n := by
  have h : bodyE P cal A (k + 1) 101 [] H n = B101_0 cal k (fun u0 u1 u3 H n => labK (E101_1 cal k k) (Tr.set (Tr.set (Tr.set Tr.nil 3 (some u3)) 1 (some u1)) 0 (some u0)) H n [])  H n := by
    rw [body_eq (fn := Go.Proofs.Try.f101) (c := code101) (rs := results101) (by kernel_rfl) (by kernel_rfl) (by kernel_rfl) (by kernel_rfl)]
    kernel_rfl
  rw [h, C101_0]
  have e1 : (fun u0 u1 u3 H n => labK (E101_1 cal k k) (Tr.set (Tr.set (Tr.set Tr.nil 3 (some u3)) 1 (some u1)) 0 (some u0)) H n []) = (S101_1 cal k k) := by funext u0 u1 u3 H n; exact q101_1 ..
  rw [e1]
noncomputable def code102 : Code := codeOf 102
noncomputable def results102 : List ResultVar := resOf 102
noncomputable def K102_p (cal : Cal) (k : Nat) : KR := (cutK (A 102).c (codeE P cal (codeF P cal k) none 102 (cR code102) (Lv.b (A 102)) (doneK P results102) X0 (doneK P results102)))
noncomputable def K102_pr (cal : Cal) (k : Nat) : KR := (cutK (Lv.b (A 102)).c (codeE P cal (codeF P cal k) none 102 (cR (cR code102)) (Lv.b (Lv.b (A 102))) (doneK P results102) X0 (doneK P results102)))
noncomputable def B102_0 (cal : Cal) (k : Nat) (v0 v1 v2 : Value) (H : Hp) (n : Nat) : Res :=
binK P .geq 3 (.tmp 7) (.const (.int .i64 0)) v2 (.int .i64 0) fun v_3 =>
guardK v_3 true (fun k_5 =>
k_5 v2 H n) H n fun v_6 H_7 n_8 =>
guardK v_3 true (fun k_a =>
k_a v0 H_7 n_8) H_7 n_8 fun v_b H_c n_d =>
guardK v_3 true (fun k_f =>
bindO (nilV v_b) fun v_j =>
k_f v_j H_c n_d) H_c n_d fun v_g H_h n_i =>
guardK v_3 true (fun k_k =>
bindO (fieldAddrV P 117 v_g 0) fun v_o =>
k_k v_o H_h n_i) H_h n_i fun v_l H_m n_n =>
guardK v_3 true (fun k_p =>
bindO (fieldAddrV P 35 v_l 2) fun v_t =>
k_p v_t H_m n_n) H_m n_n fun v_q H_r n_s =>
guardK v_3 true (fun k_u =>
bindO (addrV v_q) fun a_z => bindO (loadV P H_r 33 a_z) fun v_y =>
k_u v_y H_r n_s) H_r n_s fun v_v H_w n_x =>
guardK v_3 true (fun k_10 =>
bindO (lenV P 33 v_v) fun v_14 =>
k_10 v_14 H_w n_x) H_w n_x fun v_11 H_12 n_13 =>
guardK v_3 true (fun k_15 =>
binK P .lss 3 (.tmp 10) (.tmp 16) v_6 v_11 fun v_19 =>
k_15 v_19 H_12 n_13) H_12 n_13 fun v_16 H_17 n_18 =>
bindO (pickV v_3 v_16 (.bool false)) fun v_1a =>
guardK v_1a true (fun k_1c =>
k_1c v0 H_17 n_18) H_17 n_18 fun v_1d H_1e n_1f =>
guardK v_1a true (fun k_1h =>
k_1h v1 H_1e n_1f) H_1e n_1f fun v_1i H_1j n_1k =>
guardK v_1a true (fun k_1m =>
k_1m v2 H_1j n_1k) H_1j n_1k fun v_1n H_1o n_1p =>
guardK v_1a true (fun k_1r =>
bindO (nilV v_1d) fun v_1v =>
k_1r v_1v H_1o n_1p) H_1o n_1p fun v_1s H_1t n_1u =>
guardK v_1a true (fun k_1w =>
bindO (fieldAddrV P 117 v_1s 2) fun v_20 =>
k_1w v_20 H_1t n_1u) H_1t n_1u fun v_1x H_1y n_1z =>
guardK v_1a true (fun k_21 =>
bindO (indexAddrV P 115 v_1x v_1i) fun v_25 =>
k_21 v_25 H_1y n_1z) H_1y n_1z fun v_22 H_23 n_24 =>
guardK v_1a true (fun k_26 =>
bindO (indexAddrV P 114 v_22 v_1n) fun v_2a =>
k_26 v_2a H_23 n_24) H_23 n_24 fun v_27 H_28 n_29 =>
guardK v_1a true (fun k_2b =>
bindO (addrV v_27) fun a_2g => bindO (loadV P H_28 113 a_2g) fun v_2f =>
k_2b v_2f H_28 n_29) H_28 n_29 fun v_2c H_2d n_2e =>
guardK v_1a true (fun k_2h =>
callFK P cal 62 [v_2c] H_2d n_2e fun v_2l H_2m n_2n =>
k_2h v_2l H_2m n_2n) H_2d n_2e fun v_2i H_2j n_2k =>
bindO (pickV v_1a v_2i (.bool false)) fun v_2o =>
some (v_2o, H_2j, n_2k)
noncomputable def C102_0 (cal : Cal) (k : Nat) (v0 v1 v2 : Value) (H : Hp) (n : Nat) : Res := B102_0 cal k v0 v1 v2 H n
theorem h102_0 (cal : Cal) (k : Nat) (v0 v1 v2 : Value) (H : Hp) (n : Nat) : bodyE P cal A (k + 1) 102 [v0, v1, v2] H n = C102_0 cal k v0 v1 v2 H n := by
  have h : bodyE P cal A (k + 1) 102 [v0, v1, v2] H n = B102_0 cal k v0 v1 v2 H n := by
    rw [body_eq (fn := Go.Proofs.Try.f102) (c := code102) (rs := results102) (by kernel_rfl) (by kernel_rfl) (by kernel_rfl) (by kernel_rfl)]
    kernel_rfl
  rw [h, C102_0]
noncomputable def code103 : Code := codeOf 103
noncomputable def results103 : List ResultVar := resOf 103
noncomputable def K103_p (cal : Cal) (k : Nat) : KR := (cutK (A 103).c (codeE P cal (codeF P cal k) none 103 (cR code103) (Lv.b (A 103)) (doneK P results103) X0 (doneK P results103)))
noncomputable def K103_pr (cal : Cal) (k : Nat) : KR := (cutK (Lv.b (A 103)).c (codeE P cal (codeF P cal k) none 103 (cR (cR code103)) (Lv.b (Lv.b (A 103))) (doneK P results103) X0 (doneK P results103)))
noncomputable def K103_prl (cal : Cal) (k : Nat) : KR := (cutK (Lv.a (Lv.b (A 103))).c (codeE P cal (codeF P cal k) none 103 (cR (cL (cR code103))) (Lv.b (Lv.a (Lv.b (A 103)))) (K103_pr cal k) X0 (doneK P results103)))
noncomputable def K103_pxrlr (cal : Cal) (k : Nat) : XR := (upX 0 (K103_pr cal k) X0)
noncomputable def K103_prlrl (cal : Cal) (k : Nat) (m1 : Nat) : KR := (fun T H n D => codeF P cal m1 (Lv.a (Lv.b (Lv.a (Lv.b (A 103))))) none 103 (cL (cR (cL (cR code103)))) (K103_pr cal k) (K103_pxrlr cal k) (doneK P results103) (cutT (Lv.a (Lv.b (Lv.a (Lv.b (A 103))))).c T) H n D)
noncomputable def K103_prlrll (cal : Cal) (k : Nat) (m1 : Nat) : KR := (cutK (Lv.a (Lv.a (Lv.b (Lv.a (Lv.b (A 103)))))).c (codeE P cal (codeF P cal m1) none 103 (cR (cL (cL (cR (cL (cR code103)))))) (Lv.b (Lv.a (Lv.a (Lv.b (Lv.a (Lv.b (A 103))))))) (K103_prlrl cal k m1) (K103_pxrlr cal k) (doneK P results103)))
noncomputable def K103_prlrllr (cal : Cal) (k : Nat) (m1 : Nat) : KR := (cutK (Lv.b (Lv.a (Lv.a (Lv.b (Lv.a (Lv.b (A 103))))))).c (codeE P cal (codeF P cal m1) none 103 (cR (cR (cL (cL (cR (cL (cR code103))))))) (Lv.b (Lv.b (Lv.a (Lv.a (Lv.b (Lv.a (Lv.b (A 103)))))))) (K103_prlrl cal k m1) (K103_pxrlr cal k) (doneK P results103)))
noncomputable def K103_prlrllrr (cal : Cal) (k : Nat) (m1 : Nat) : KR := (cutK (Lv.b (Lv.b (Lv.a (Lv.a (Lv.b (Lv.a (Lv.b (A 103)))))))).c (codeE P cal (codeF P cal m1) none 103 (cR (cR (cR (cL (cL (cR (cL (cR code103)))))))) (Lv.b (Lv.b (Lv.b (Lv.a (Lv.a (Lv.b (Lv.a (Lv.b (A 103))))))))) (K103_prlrl cal k m1) (K103_pxrlr cal k) (doneK P results103)))
noncomputable def K103_pxrlrllrrl (cal : Cal) (k : Nat) (m1 : Nat) : XR := (upX 1 (K103_prlrllrr cal k m1) (K103_pxrlr cal k))
noncomputable def K103_prlrllrrll (cal : Cal) (k : Nat) (m1 : Nat) : KR := (cutK (Lv.a (Lv.a (Lv.b (Lv.b (Lv.a (Lv.a (Lv.b (Lv.a (Lv.b (A 103)))))))))).c (codeE P cal (codeF P cal m1) none 103 (cR (cL (cL (cR (cR (cL (cL (cR (cL (cR code103)))))))))) (Lv.b (Lv.a (Lv.a (Lv.b (Lv.b (Lv.a (Lv.a (Lv.b (Lv.a (Lv.b (A 103))))))))))) (K103_prlrllrr cal k m1) (K103_pxrlrllrrl cal k m1) (doneK P results103)))
noncomputable def K103_prlrllrrllr (cal : Cal) (k : Nat) (m1 : Nat) : KR := (cutK (Lv.b (Lv.a (Lv.a (Lv.b (Lv.b (Lv.a (Lv.a (Lv.b (Lv.a (Lv.b (A 103))))))))))).c (codeE P cal (codeF P cal m1) none 103 (cR (cR (cL (cL (cR (cR (cL (cL (cR (cL (cR code103))))))))))) (Lv.b (Lv.b (Lv.a (Lv.a (Lv.b (Lv.b (Lv.a (Lv.a (Lv.b (Lv.a (Lv.b (A 103)))))))))))) (K103_prlrllrr cal k m1) (K103_pxrlrllrrl cal k m1) (doneK P results103)))
noncomputable def K103_prr (cal : Cal) (k : Nat) : KR := (cutK (Lv.b (Lv.b (A 103))).c (codeE P cal (codeF P cal k) none 103 (cR (cR (cR code103))) (Lv.b (Lv.b (Lv.b (A 103)))) (doneK P results103) X0 (doneK P results103)))
noncomputable def E103_1 (cal : Cal) (k m1 : Nat) : KR := codeE P cal (codeF P cal m1) none 103 (cL (cL (cR (cL (cR code103))))) (Lv.a (Lv.a (Lv.b (Lv.a (Lv.b (A 103)))))) (K103_prlrl cal k m1) (K103_pxrlr cal k) (doneK P results103)
noncomputable def R103_1 (cal : Cal) (k m1 : Nat) : V4 := fun u2 u4 u7 u8 H n => codeF P cal m1 (Lv.a (Lv.b (Lv.a (Lv.b (A 103))))) none 103 (cL (cR (cL (cR code103)))) (K103_pr cal k) (K103_pxrlr cal k) (doneK P results103) (Tr.set (Tr.set (Tr.set (Tr.set Tr.nil 8 (some u8)) 7 (some u7)) 4 (some u4)) 2 (some u2)) H n []
noncomputable def B103_1 (cal : Cal) (k m1 : Nat) (b1 : V4) (u2 u4 u7 u8 : Value) (H : Hp) (n : Nat) : Res :=
binK P .lss 3 (.tmp 8) (.const (.int .i64 8)) u8 (.int .i64 8) fun v_d =>
ifK v_d (
bindO (indexV P 111 u7 u8) fun v_f =>
allocK P 53 H n fun v_g H_h n_i =>
bindO (storeP P 53 v_g v_f H_h) fun H_l =>
bindO (indexAddrV P 111 u2 u8) fun v_n =>
bindO (fieldAddrV P 53 v_n 0) fun v_o =>
bindO (addrV v_o) fun a_p => bindO (loadV P H_l 3 a_p) fun v_q =>
bindO (fieldAddrV P 53 v_g 0) fun v_r =>
bindO (addrV v_r) fun a_s => bindO (loadV P H_l 3 a_s) fun v_t =>
binK P .add 3 (.tmp 15) (.tmp 17) v_q v_t fun v_u =>
bindO (indexAddrV P 111 u2 u8) fun v_v =>
bindO (fieldAddrV P 53 v_v 0) fun v_w =>
bindO (storeP P 3 v_w v_u H_l) fun H_y =>
bindO (indexAddrV P 111 u2 u8) fun v_10 =>
bindO (fieldAddrV P 53 v_10 1) fun v_11 =>
bindO (addrV v_11) fun a_12 => bindO (loadV P H_y 3 a_12) fun v_13 =>
bindO (fieldAddrV P 53 v_g 1) fun v_14 =>
bindO (addrV v_14) fun a_15 => bindO (loadV P H_y 3 a_15) fun v_16 =>
binK P .add 3 (.tmp 24) (.tmp 26) v_13 v_16 fun v_17 =>
bindO (indexAddrV P 111 u2 u8) fun v_18 =>
bindO (fieldAddrV P 53 v_18 1) fun v_19 =>
bindO (storeP P 3 v_19 v_17 H_y) fun H_1b =>
binK P .add 3 (.tmp 8) (.const (.int .i64 1)) u8 (.int .i64 1) fun v_1c =>
b1 u2 u4 u7 v_1c H_1b n_i) (
bindO (addrV u2) fun a_1f => bindO (loadV P H 111 a_1f) fun v_1e =>
bindO (storeP P 111 u4 v_1e H) fun H_1h =>
bindO (resV P (Tr.set Tr.nil 4 (some u4)) H_1h results103) fun v_1i => some (oneV v_1i, H_1h, n))
noncomputable def C103_1 (cal : Cal) (k m1 : Nat) (b1 : V4) (u2 u4 u7 u8 : Value) (H : Hp) (n : Nat) : Res := B103_1 cal k m1 b1 u2 u4 u7 u8 H n
noncomputable def S103_1 (cal : Cal) (k : Nat) : Nat → V4 := fun m => Nat.rec (motive := fun _ => V4) (C103_1 cal k 0 (fun _ _ _ _ _ _ => none)) (fun m ih => C103_1 cal k (m + 1) ih) m
theorem h103_1 (cal : Cal) (k m1 : Nat) (u2 u4 u7 u8 : Value) (H : Hp) (n : Nat) : labK (E103_1 cal k m1) (Tr.set (Tr.set (Tr.set (Tr.set Tr.nil 8 (some u8)) 7 (some u7)) 4 (some u4)) 2 (some u2)) H n [] = C103_1 cal k m1 (R103_1 cal k m1) u2 u4 u7 u8 H n := by
  refine Eq.trans (b := B103_1 cal k m1 (R103_1 cal k m1) u2 u4 u7 u8 H n) (by kernel_rfl) ?_
  rw [C103_1]
theorem q103_1 (cal : Cal) (k : Nat) : ∀ (m : Nat) (u2 u4 u7 u8 : Value) (H : Hp) (n : Nat), labK (E103_1 cal k m) (Tr.set (Tr.set (Tr.set (Tr.set Tr.nil 8 (some u8)) 7 (some u7)) 4 (some u4)) 2 (some u2)) H n [] = S103_1 cal k m u2 u4 u7 u8 H n
  | 0, u2, u4, u7, u8, H, n => by
    rw [h103_1]
    have e : R103_1 cal k 0 = fun _ _ _ _ _ _ => none := by funext u2 u4 u7 u8 H n; kernel_rfl
    rw [e]; rfl
  | m + 1, u2, u4, u7, u8, H, n => by
    rw [h103_1]
    have e : R103_1 cal k (m + 1) = S103_1 cal k m := by
      funext u2 u4 u7 u8 H n
      have e : R103_1 cal k (m + 1) u2 u4 u7 u8 H n = labK (E103_1 cal k m) (Tr.set (Tr.set (Tr.set (Tr.set Tr.nil 8 (some u8)) 7 (some u7)) 4 (some u4)) 2 (some u2)) H n [] := by kernel_rfl
      rw [e]; exact q103_1 ..
    rw [e]; rfl
noncomputable def B103_0 (cal : Cal) (k : Nat) (j1 : V4) (v0 v1 : Value) (H : Hp) (n : Nat) : Res :=
boxK 111 v0 H n fun v_1 H_2 n_3 =>
boxK 111 v1 H_2 n_3 fun v_4 H_5 n_6 =>
allocK P 111 H_5 n_6 fun v_7 H_8 n_9 =>
bindO (addrV v_4) fun a_b => bindO (loadV P H_8 111 a_b) fun v_a =>
j1 v_1 v_7 v_a (.int .i64 0) H_8 n_9
noncomputable def C103_0 (cal : Cal) (k : Nat) (v0 v1 : Value) (H : Hp) (n : Nat) : Res := B103_0 cal k (S103_1 cal k k) v0 v1 H n
theorem h103_0 (cal : Cal) (k : Nat) (v0 v1 : Value) (H : Hp) (n : Nat) : bodyE P cal A (k + 1) 103 [v0, v1] H n = C103_0 cal k v0 v1 H n := by
  have h : bodyE P cal A (k + 1) 103 [v0, v1] H n = B103_0 cal k (fun u2 u4 u7 u8 H n => labK (E103_1 cal k k) (Tr.set (Tr.set (Tr.set (Tr.set Tr.nil 8 (some u8)) 7 (some u7)) 4 (some u4)) 2 (some u2)) H n []) v0 v1 H n := by
    rw [body_eq (fn := Go.Proofs.Try.f103) (c := code103) (rs := results103) (by kernel_rfl) (by kernel_rfl) (by kernel_rfl) (by kernel_rfl)]
    kernel_rfl
  rw [h, C103_0]
  have e1 : (fun u2 u4 u7 u8 H n => labK (E103_1 cal k k) (Tr.set (Tr.set (Tr.set (Tr.set Tr.nil 8 (some u8)) 7 (some u7)) 4 (some u4)) 2 (some u2)) H n []) = (S103_1 cal k k) := by funext u2 u4 u7 u8 H n; exact q103_1 ..
  rw [e1]
noncomputable def code104 : Code := codeOf 104
noncomputable def results104 : List ResultVar := resOf 104
noncomputable def K104_p (cal : Cal) (k : Nat) : KR := (cutK (A 104).c (codeE P cal (codeF P cal k) none 104 (cR code104) (Lv.b (A 104)) (doneK P results104) X0 (doneK P results104)))
noncomputable def K104_pxr (cal : Cal) (k : Nat) : XR := (upX 0 (doneK P results104) X0)
noncomputable def K104_prl (cal : Cal) (k : Nat) (m1 : Nat) : KR := (fun T H n D => codeF P cal m1 (Lv.a (Lv.b (A 104))) none 104 (cL (cR code104)) (doneK P results104) (K104_pxr cal k) (doneK P results104) (cutT (Lv.a (Lv.b (A 104))).c T) H n D)
noncomputable def K104_prll (cal : Cal) (k : Nat) (m1 : Nat) : KR := (cutK (Lv.a (Lv.a (Lv.b (A 104)))).c (codeE P cal (codeF P cal m1) none 104 (cR (cL (cL (cR code104)))) (Lv.b (Lv.a (Lv.a (Lv.b (A 104))))) (K104_prl cal k m1) (K104_pxr cal k) (doneK P results104)))
noncomputable def K104_prllr (cal : Cal) (k : Nat) (m1 : Nat) : KR := (cutK (Lv.b (Lv.a (Lv.a (Lv.b (A 104))))).c (codeE P cal (codeF P cal m1) none 104 (cR (cR (cL (cL (cR code104))))) (Lv.b (Lv.b (Lv.a (Lv.a (Lv.b (A 104)))))) (K104_prl cal k m1) (K104_pxr cal k) (doneK P results104)))
noncomputable def K104_prllrr (cal : Cal) (k : Nat) (m1 : Nat) : KR := (cutK (Lv.b (Lv.b (Lv.a (Lv.a (Lv.b (A 104)))))).c (codeE P cal (codeF P cal m1) none 104 (cR (cR (cR (cL (cL (cR code104)))))) (Lv.b (Lv.b (Lv.b (Lv.a (Lv.a (Lv.b (A 104))))))) (K104_prl cal k m1) (K104_pxr cal k) (doneK P results104)))
noncomputable def K104_pxrllrrl (cal : Cal) (k : Nat) (m1 : Nat) : XR := (upX 1 (K104_prllrr cal k m1) (K104_pxr cal k))
noncomputable def K104_prllrrll (cal : Cal) (k : Nat) (m1 : Nat) : KR := (cutK (Lv.a (Lv.a (Lv.b (Lv.b (Lv.a (Lv.a (Lv.b (A 104)))))))).c (codeE P cal (codeF P cal m1) none 104 (cR (cL (cL (cR (cR (cL (cL (cR code104)))))))) (Lv.b (Lv.a (Lv.a (Lv.b (Lv.b (Lv.a (Lv.a (Lv.b (A 104))))))))) (K104_prllrr cal k m1) (K104_pxrllrrl cal k m1) (doneK P results104)))
noncomputable def K104_prllrrllr (cal : Cal) (k : Nat) (m1 : Nat) : KR := (cutK (Lv.b (Lv.a (Lv.a (Lv.b (Lv.b (Lv.a (Lv.a (Lv.b (A 104))))))))).c (codeE P cal (codeF P cal m1) none 104 (cR (cR (cL (cL (cR (cR (cL (cL (cR code104))))))))) (Lv.b (Lv.b (Lv.a (Lv.a (Lv.b (Lv.b (Lv.a (Lv.a (Lv.b (A 104)))))))))) (K104_prllrr cal k m1) (K104_pxrllrrl cal k m1) (doneK P results104)))
noncomputable def E104_1 (cal : Cal) (k m1 : Nat) : KR := codeE P cal (codeF P cal m1) none 104 (cL (cL (cR code104))) (Lv.a (Lv.a (Lv.b (A 104)))) (K104_prl cal k m1) (K104_pxr cal k) (doneK P results104)
noncomputable def R104_1 (cal : Cal) (k m1 : Nat) : V4 := fun u0 u2 u6 u7 H n => codeF P cal m1 (Lv.a (Lv.b (A 104))) none 104 (cL (cR code104)) (doneK P results104) (K104_pxr cal k) (doneK P results104) (Tr.set (Tr.set (Tr.set (Tr.set Tr.nil 7 (some u7)) 6 (some u6)) 2 (some u2)) 0 (some u0)) H n []
noncomputable def B104_1 (cal : Cal) (k m1 : Nat) (b1 : V4) (u0 u2 u6 u7 : Value) (H : Hp) (n : Nat) : Res :=
binK P .lss 3 (.tmp 7) (.const (.int .i64 8)) u7 (.int .i64 8) fun v_4 =>
ifK v_4 (
bindO (indexV P 121 u6 u7) fun v_6 =>
binK P .neq 3 (.tmp 11) (.const (.int .i64 (-1))) v_6 (.int .i64 (-1)) fun v_a =>
guardK v_a true (fun k_c =>
k_c u0 H n) H n fun v_d H_e n_f =>
guardK v_a true (fun k_h =>
k_h u7 H_e n_f) H_e n_f fun v_i H_j n_k =>
guardK v_a true (fun k_m =>
bindO (addrV u2) fun a_r => bindO (loadV P H_j 105 a_r) fun v_q =>
k_m v_q H_j n_k) H_j n_k fun v_n H_o n_p =>
guardK v_a true (fun k_s =>
k_s u7 H_o n_p) H_o n_p fun v_t H_u n_v =>
guardK v_a true (fun k_x =>
k_x v_6 H_u n_v) H_u n_v fun v_y H_z n_10 =>
guardK v_a true (fun k_12 =>
bindO (nilV v_n) fun v_16 =>
k_12 v_16 H_z n_10) H_z n_10 fun v_13 H_14 n_15 =>
guardK v_a true (fun k_17 =>
bindO (fieldAddrV P 117 v_13 2) fun v_1b =>
k_17 v_1b H_14 n_15) H_14 n_15 fun v_18 H_19 n_1a =>
guardK v_a true (fun k_1c =>
bindO (indexAddrV P 115 v_18 v_t) fun v_1g =>
k_1c v_1g H_19 n_1a) H_19 n_1a fun v_1d H_1e n_1f =>
guardK v_a true (fun k_1h =>
bindO (indexAddrV P 114 v_1d v_y) fun v_1l =>
k_1h v_1l H_1e n_1f) H_1e n_1f fun v_1i H_1j n_1k =>
guardK v_a true (fun k_1m =>
bindO (addrV v_1i) fun a_1r => bindO (loadV P H_1j 113 a_1r) fun v_1q =>
k_1m v_1q H_1j n_1k) H_1j n_1k fun v_1n H_1o n_1p =>
guardK v_a true (fun k_1s =>
callVK P cal v_d [v_i, v_1n] H_1o n_1p fun v_1w H_1x n_1y =>
k_1s v_1w H_1x n_1y) H_1o n_1p fun v_1t H_1u n_1v =>
guardK v_a true (fun k_1z =>
bindO (pureSem P v_1t (Op.unary UnOp.not v_1t)) fun v_23 =>
k_1z v_23 H_1u n_1v) H_1u n_1v fun v_20 H_21 n_22 =>
bindO (pickV v_a v_20 (.bool false)) fun v_24 =>
ifK v_24 (
some ((Value.tuple ⟨[]⟩), H_21, n_22)) (
binK P .add 3 (.tmp 7) (.const (.int .i64 1)) u7 (.int .i64 1) fun v_25 =>
b1 u0 u2 u6 v_25 H_21 n_22)) (
some ((Value.tuple ⟨[]⟩), H, n))
noncomputable def C104_1 (cal : Cal) (k m1 : Nat) (b1 : V4) (u0 u2 u6 u7 : Value) (H : Hp) (n : Nat) : Res := B104_1 cal k m1 b1 u0 u2 u6 u7 H n
noncomputable def S104_1 (cal : Cal) (k : Nat) : Nat → V4 := fun m => Nat.rec (motive := fun _ => V4) (C104_1 cal k 0 (fun _ _ _ _ _ _ => none)) (fun m ih => C104_1 cal k (m + 1) ih) m
theorem h104_1 (cal : Cal) (k m1 : Nat) (u0 u2 u6 u7 : Value) (H : Hp) (n : Nat) : labK (E104_1 cal k m1) (Tr.set (Tr.set (Tr.set (Tr.set Tr.nil 7 (some u7)) 6 (some u6)) 2 (some u2)) 0 (some u0)) H n [] = C104_1 cal k m1 (R104_1 cal k m1) u0 u2 u6 u7 H n := by
  refine Eq.trans (b := B104_1 cal k m1 (R104_1 cal k m1) u0 u2 u6 u7 H n) (by kernel_rfl) ?_
  rw [C104_1]
theorem q104_1 (cal : Cal) (k : Nat) : ∀ (m : Nat) (u0 u2 u6 u7 : Value) (H : Hp) (n : Nat), labK (E104_1 cal k m) (Tr.set (Tr.set (Tr.set (Tr.set Tr.nil 7 (some u7)) 6 (some u6)) 2 (some u2)) 0 (some u0)) H n [] = S104_1 cal k m u0 u2 u6 u7 H n
  | 0, u0, u2, u6, u7, H, n => by
    rw [h104_1]
    have e : R104_1 cal k 0 = fun _ _ _ _ _ _ => none := by funext u0 u2 u6 u7 H n; kernel_rfl
    rw [e]; rfl
  | m + 1, u0, u2, u6, u7, H, n => by
    rw [h104_1]
    have e : R104_1 cal k (m + 1) = S104_1 cal k m := by
      funext u0 u2 u6 u7 H n
      have e : R104_1 cal k (m + 1) u0 u2 u6 u7 H n = labK (E104_1 cal k m) (Tr.set (Tr.set (Tr.set (Tr.set Tr.nil 7 (some u7)) 6 (some u6)) 2 (some u2)) 0 (some u0)) H n [] := by kernel_rfl
      rw [e]; exact q104_1 ..
    rw [e]; rfl
noncomputable def B104_0 (cal : Cal) (k : Nat) (j1 : V4) (v0 v1 v2 : Value) (H : Hp) (n : Nat) : Res :=
bindO (addrV v1) fun a_2 => bindO (loadV P H 121 a_2) fun v_1 =>
j1 v0 v2 v_1 (.int .i64 0) H n
noncomputable def C104_0 (cal : Cal) (k : Nat) (v0 v1 v2 : Value) (H : Hp) (n : Nat) : Res := B104_0 cal k (S104_1 cal k k) v0 v1 v2 H n
theorem h104_0 (cal : Cal) (k : Nat) (v0 v1 v2 : Value) (H : Hp) (n : Nat) : bodyE P cal A (k + 1) 104 [v0, v1, v2] H n = C104_0 cal k v0 v1 v2 H n := by
  have h : bodyE P cal A (k + 1) 104 [v0, v1, v2] H n = B104_0 cal k (fun u0 u2 u6 u7 H n => labK (E104_1 cal k k) (Tr.set (Tr.set (Tr.set (Tr.set Tr.nil 7 (some u7)) 6 (some u6)) 2 (some u2)) 0 (some u0)) H n []) v0 v1 v2 H n := by
    rw [body_eq (fn := Go.Proofs.Try.f104) (c := code104) (rs := results104) (by kernel_rfl) (by kernel_rfl) (by kernel_rfl) (by kernel_rfl)]
    kernel_rfl
  rw [h, C104_0]
  have e1 : (fun u0 u2 u6 u7 H n => labK (E104_1 cal k k) (Tr.set (Tr.set (Tr.set (Tr.set Tr.nil 7 (some u7)) 6 (some u6)) 2 (some u2)) 0 (some u0)) H n []) = (S104_1 cal k k) := by funext u0 u2 u6 u7 H n; exact q104_1 ..
  rw [e1]
noncomputable def code105 : Code := codeOf 105
noncomputable def results105 : List ResultVar := resOf 105
noncomputable def K105_p (cal : Cal) (k : Nat) : KR := (cutK (A 105).c (codeE P cal (codeF P cal k) none 105 (cR code105) (Lv.b (A 105)) (doneK P results105) X0 (doneK P results105)))
noncomputable def K105_pr (cal : Cal) (k : Nat) : KR := (cutK (Lv.b (A 105)).c (codeE P cal (codeF P cal k) none 105 (cR (cR code105)) (Lv.b (Lv.b (A 105))) (doneK P results105) X0 (doneK P results105)))
noncomputable def K105_prl (cal : Cal) (k : Nat) : KR := (cutK (Lv.a (Lv.b (A 105))).c (codeE P cal (codeF P cal k) none 105 (cR (cL (cR code105))) (Lv.b (Lv.a (Lv.b (A 105)))) (K105_pr cal k) X0 (doneK P results105)))
noncomputable def K105_pxrlr (cal : Cal) (k : Nat) : XR := (upX 0 (K105_pr cal k) X0)
noncomputable def K105_prlrl (cal : Cal) (k : Nat) (m1 : Nat) : KR := (fun T H n D => codeF P cal m1 (Lv.a (Lv.b (Lv.a (Lv.b (A 105))))) none 105 (cL (cR (cL (cR code105)))) (K105_pr cal k) (K105_pxrlr cal k) (doneK P results105) (cutT (Lv.a (Lv.b (Lv.a (Lv.b (A 105))))).c T) H n D)
noncomputable def K105_prlrll (cal : Cal) (k : Nat) (m1 : Nat) : KR := (cutK (Lv.a (Lv.a (Lv.b (Lv.a (Lv.b (A 105)))))).c (codeE P cal (codeF P cal m1) none 105 (cR (cL (cL (cR (cL (cR code105)))))) (Lv.b (Lv.a (Lv.a (Lv.b (Lv.a (Lv.b (A 105))))))) (K105_prlrl cal k m1) (K105_pxrlr cal k) (doneK P results105)))
noncomputable def K105_prlrllr (cal : Cal) (k : Nat) (m1 : Nat) : KR := (cutK (Lv.b (Lv.a (Lv.a (Lv.b (Lv.a (Lv.b (A 105))))))).c (codeE P cal (codeF P cal m1) none 105 (cR (cR (cL (cL (cR (cL (cR code105))))))) (Lv.b (Lv.b (Lv.a (Lv.a (Lv.b (Lv.a (Lv.b (A 105)))))))) (K105_prlrl cal k m1) (K105_pxrlr cal k) (doneK P results105)))
noncomputable def K105_prlrllrr (cal : Cal) (k : Nat) (m1 : Nat) : KR := (cutK (Lv.b (Lv.b (Lv.a (Lv.a (Lv.b (Lv.a (Lv.b (A 105)))))))).c (codeE P cal (codeF P cal m1) none 105 (cR (cR (cR (cL (cL (cR (cL (cR code105)))))))) (Lv.b (Lv.b (Lv.b (Lv.a (Lv.a (Lv.b (Lv.a (Lv.b (A 105))))))))) (K105_prlrl cal k m1) (K105_pxrlr cal k) (doneK P results105)))
noncomputable def K105_pxrlrllrrl (cal : Cal) (k : Nat) (m1 : Nat) : XR := (upX 1 (K105_prlrllrr cal k m1) (K105_pxrlr cal k))
noncomputable def K105_prlrllrrll (cal : Cal) (k : Nat) (m1 : Nat) : KR := (cutK (Lv.a (Lv.a (Lv.b (Lv.b (Lv.a (Lv.a (Lv.b (Lv.a (Lv.b (A 105)))))))))).c (codeE P cal (codeF P cal m1) none 105 (cR (cL (cL (cR (cR (cL (cL (cR (cL (cR code105)))))))))) (Lv.b (Lv.a (Lv.a (Lv.b (Lv.b (Lv.a (Lv.a (Lv.b (Lv.a (Lv.b (A 105))))))))))) (K105_prlrllrr cal k m1) (K105_pxrlrllrrl cal k m1) (doneK P results105)))
noncomputable def K105_prr (cal : Cal) (k : Nat) : KR := (cutK (Lv.b (Lv.b (A 105))).c (codeE P cal (codeF P cal k) none 105 (cR (cR (cR code105))) (Lv.b (Lv.b (Lv.b (A 105)))) (doneK P results105) X0 (doneK P results105)))
noncomputable def E105_1 (cal : Cal) (k m1 : Nat) : KR := codeE P cal (codeF P cal m1) none 105 (cL (cL (cR (cL (cR code105))))) (Lv.a (Lv.a (Lv.b (Lv.a (Lv.b (A 105)))))) (K105_prlrl cal k m1) (K105_pxrlr cal k) (doneK P results105)
noncomputable def R105_1 (cal : Cal) (k m1 : Nat) : V4 := fun u0 u7 u8 u9 H n => codeF P cal m1 (Lv.a (Lv.b (Lv.a (Lv.b (A 105))))) none 105 (cL (cR (cL (cR code105)))) (K105_pr cal k) (K105_pxrlr cal k) (doneK P results105) (Tr.set (Tr.set (Tr.set (Tr.set Tr.nil 9 (some u9)) 8 (some u8)) 7 (some u7)) 0 (some u0)) H n []
noncomputable def B105_1 (cal : Cal) (k m1 : Nat) (b1 : V4) (u0 u7 u8 u9 : Value) (H : Hp) (n : Nat) : Res :=
binK P .lss 3 (.tmp 9) (.tmp 8) u9 u8 fun v_5 =>
ifK v_5 (
bindO (indexAddrV P 44 u7 u9) fun v_6 =>
bindO (addrV v_6) fun a_8 => bindO (loadV P H 3 a_8) fun v_7 =>
builtinK P .min [3, 3] (Call.mk (Callee.builtin Builtin.min) #[(.tmp 13), (.tmp 14)] #[3, 3]) 3 [u0, v_7] H n fun v_c H_d n_e =>
binK P .add 3 (.tmp 9) (.const (.int .i64 1)) u9 (.int .i64 1) fun v_g =>
b1 v_c u7 u8 v_g H_d n_e) (
some (u0, H, n))
noncomputable def C105_1 (cal : Cal) (k m1 : Nat) (b1 : V4) (u0 u7 u8 u9 : Value) (H : Hp) (n : Nat) : Res := B105_1 cal k m1 b1 u0 u7 u8 u9 H n
noncomputable def S105_1 (cal : Cal) (k : Nat) : Nat → V4 := fun m => Nat.rec (motive := fun _ => V4) (C105_1 cal k 0 (fun _ _ _ _ _ _ => none)) (fun m ih => C105_1 cal k (m + 1) ih) m
theorem h105_1 (cal : Cal) (k m1 : Nat) (u0 u7 u8 u9 : Value) (H : Hp) (n : Nat) : labK (E105_1 cal k m1) (Tr.set (Tr.set (Tr.set (Tr.set Tr.nil 9 (some u9)) 8 (some u8)) 7 (some u7)) 0 (some u0)) H n [] = C105_1 cal k m1 (R105_1 cal k m1) u0 u7 u8 u9 H n := by
  refine Eq.trans (b := B105_1 cal k m1 (R105_1 cal k m1) u0 u7 u8 u9 H n) (by kernel_rfl) ?_
  rw [C105_1]
theorem q105_1 (cal : Cal) (k : Nat) : ∀ (m : Nat) (u0 u7 u8 u9 : Value) (H : Hp) (n : Nat), labK (E105_1 cal k m) (Tr.set (Tr.set (Tr.set (Tr.set Tr.nil 9 (some u9)) 8 (some u8)) 7 (some u7)) 0 (some u0)) H n [] = S105_1 cal k m u0 u7 u8 u9 H n
  | 0, u0, u7, u8, u9, H, n => by
    rw [h105_1]
    have e : R105_1 cal k 0 = fun _ _ _ _ _ _ => none := by funext u0 u7 u8 u9 H n; kernel_rfl
    rw [e]; rfl
  | m + 1, u0, u7, u8, u9, H, n => by
    rw [h105_1]
    have e : R105_1 cal k (m + 1) = S105_1 cal k m := by
      funext u0 u7 u8 u9 H n
      have e : R105_1 cal k (m + 1) u0 u7 u8 u9 H n = labK (E105_1 cal k m) (Tr.set (Tr.set (Tr.set (Tr.set Tr.nil 9 (some u9)) 8 (some u8)) 7 (some u7)) 0 (some u0)) H n [] := by kernel_rfl
      rw [e]; exact q105_1 ..
    rw [e]; rfl
noncomputable def B105_0 (cal : Cal) (k : Nat) (j1 : V4) (v0 v1 : Value) (H : Hp) (n : Nat) : Res :=
bindO (lenV P 44 v1) fun v_3 =>
j1 v0 v1 v_3 (.int .i64 0) H n
noncomputable def C105_0 (cal : Cal) (k : Nat) (v0 v1 : Value) (H : Hp) (n : Nat) : Res := B105_0 cal k (S105_1 cal k k) v0 v1 H n
theorem h105_0 (cal : Cal) (k : Nat) (v0 v1 : Value) (H : Hp) (n : Nat) : bodyE P cal A (k + 1) 105 [v0, v1] H n = C105_0 cal k v0 v1 H n := by
  have h : bodyE P cal A (k + 1) 105 [v0, v1] H n = B105_0 cal k (fun u0 u7 u8 u9 H n => labK (E105_1 cal k k) (Tr.set (Tr.set (Tr.set (Tr.set Tr.nil 9 (some u9)) 8 (some u8)) 7 (some u7)) 0 (some u0)) H n []) v0 v1 H n := by
    rw [body_eq (fn := Go.Proofs.Try.f105) (c := code105) (rs := results105) (by kernel_rfl) (by kernel_rfl) (by kernel_rfl) (by kernel_rfl)]
    kernel_rfl
  rw [h, C105_0]
  have e1 : (fun u0 u7 u8 u9 H n => labK (E105_1 cal k k) (Tr.set (Tr.set (Tr.set (Tr.set Tr.nil 9 (some u9)) 8 (some u8)) 7 (some u7)) 0 (some u0)) H n []) = (S105_1 cal k k) := by funext u0 u7 u8 u9 H n; exact q105_1 ..
  rw [e1]
noncomputable def code106 : Code := codeOf 106
noncomputable def results106 : List ResultVar := resOf 106
noncomputable def K106_p (cal : Cal) (k : Nat) : KR := (cutK (A 106).c (codeE P cal (codeF P cal k) none 106 (cR code106) (Lv.b (A 106)) (doneK P results106) X0 (doneK P results106)))
noncomputable def K106_pr (cal : Cal) (k : Nat) : KR := (cutK (Lv.b (A 106)).c (codeE P cal (codeF P cal k) none 106 (cR (cR code106)) (Lv.b (Lv.b (A 106))) (doneK P results106) X0 (doneK P results106)))
noncomputable def K106_prl (cal : Cal) (k : Nat) : KR := (cutK (Lv.a (Lv.b (A 106))).c (codeE P cal (codeF P cal k) none 106 (cR (cL (cR code106))) (Lv.b (Lv.a (Lv.b (A 106)))) (K106_pr cal k) X0 (doneK P results106)))
noncomputable def K106_pxrlr (cal : Cal) (k : Nat) : XR := (upX 0 (K106_pr cal k) X0)
noncomputable def K106_prlrl (cal : Cal) (k : Nat) (m1 : Nat) : KR := (fun T H n D => codeF P cal m1 (Lv.a (Lv.b (Lv.a (Lv.b (A 106))))) none 106 (cL (cR (cL (cR code106)))) (K106_pr cal k) (K106_pxrlr cal k) (doneK P results106) (cutT (Lv.a (Lv.b (Lv.a (Lv.b (A 106))))).c T) H n D)
noncomputable def K106_prlrll (cal : Cal) (k : Nat) (m1 : Nat) : KR := (cutK (Lv.a (Lv.a (Lv.b (Lv.a (Lv.b (A 106)))))).c (codeE P cal (codeF P cal m1) none 106 (cR (cL (cL (cR (cL (cR code106)))))) (Lv.b (Lv.a (Lv.a (Lv.b (Lv.a (Lv.b (A 106))))))) (K106_prlrl cal k m1) (K106_pxrlr cal k) (doneK P results106)))
noncomputable def K106_prlrllr (cal : Cal) (k : Nat) (m1 : Nat) : KR := (cutK (Lv.b (Lv.a (Lv.a (Lv.b (Lv.a (Lv.b (A 106))))))).c (codeE P cal (codeF P cal m1) none 106 (cR (cR (cL (cL (cR (cL (cR code106))))))) (Lv.b (Lv.b (Lv.a (Lv.a (Lv.b (Lv.a (Lv.b (A 106)))))))) (K106_prlrl cal k m1) (K106_pxrlr cal k) (doneK P results106)))
noncomputable def K106_prlrllrr (cal : Cal) (k : Nat) (m1 : Nat) : KR := (cutK (Lv.b (Lv.b (Lv.a (Lv.a (Lv.b (Lv.a (Lv.b (A 106)))))))).c (codeE P cal (codeF P cal m1) none 106 (cR (cR (cR (cL (cL (cR (cL (cR code106)))))))) (Lv.b (Lv.b (Lv.b (Lv.a (Lv.a (Lv.b (Lv.a (Lv.b (A 106))))))))) (K106_prlrl cal k m1) (K106_pxrlr cal k) (doneK P results106)))
noncomputable def K106_pxrlrllrrl (cal : Cal) (k : Nat) (m1 : Nat) : XR := (upX 1 (K106_prlrllrr cal k m1) (K106_pxrlr cal k))
noncomputable def K106_prlrllrrll (cal : Cal) (k : Nat) (m1 : Nat) : KR := (cutK (Lv.a (Lv.a (Lv.b (Lv.b (Lv.a (Lv.a (Lv.b (Lv.a (Lv.b (A 106)))))))))).c (codeE P cal (codeF P cal m1) none 106 (cR (cL (cL (cR (cR (cL (cL (cR (cL (cR code106)))))))))) (Lv.b (Lv.a (Lv.a (Lv.b (Lv.b (Lv.a (Lv.a (Lv.b (Lv.a (Lv.b (A 106))))))))))) (K106_prlrllrr cal k m1) (K106_pxrlrllrrl cal k m1) (doneK P results106)))
noncomputable def K106_prr (cal : Cal) (k : Nat) : KR := (cutK (Lv.b (Lv.b (A 106))).c (codeE P cal (codeF P cal k) none 106 (cR (cR (cR code106))) (Lv.b (Lv.b (Lv.b (A 106)))) (doneK P results106) X0 (doneK P results106)))
noncomputable def E106_1 (cal : Cal) (k m1 : Nat) : KR := codeE P cal (codeF P cal m1) none 106 (cL (cL (cR (cL (cR code106))))) (Lv.a (Lv.a (Lv.b (Lv.a (Lv.b (A 106)))))) (K106_prlrl cal k m1) (K106_pxrlr cal k) (doneK P results106)
noncomputable def R106_1 (cal : Cal) (k m1 : Nat) : V4 := fun u0 u7 u8 u9 H n => codeF P cal m1 (Lv.a (Lv.b (Lv.a (Lv.b (A 106))))) none 106 (cL (cR (cL (cR code106)))) (K106_pr cal k) (K106_pxrlr cal k) (doneK P results106) (Tr.set (Tr.set (Tr.set (Tr.set Tr.nil 9 (some u9)) 8 (some u8)) 7 (some u7)) 0 (some u0)) H n []
noncomputable def B106_1 (cal : Cal) (k m1 : Nat) (b1 : V4) (u0 u7 u8 u9 : Value) (H : Hp) (n : Nat) : Res :=
binK P .lss 3 (.tmp 9) (.tmp 8) u9 u8 fun v_5 =>
ifK v_5 (
bindO (indexAddrV P 44 u7 u9) fun v_6 =>
bindO (addrV v_6) fun a_8 => bindO (loadV P H 3 a_8) fun v_7 =>
builtinK P .max [3, 3] (Call.mk (Callee.builtin Builtin.max) #[(.tmp 13), (.tmp 14)] #[3, 3]) 3 [u0, v_7] H n fun v_c H_d n_e =>
binK P .add 3 (.tmp 9) (.const (.int .i64 1)) u9 (.int .i64 1) fun v_g =>
b1 v_c u7 u8 v_g H_d n_e) (
some (u0, H, n))
noncomputable def C106_1 (cal : Cal) (k m1 : Nat) (b1 : V4) (u0 u7 u8 u9 : Value) (H : Hp) (n : Nat) : Res := B106_1 cal k m1 b1 u0 u7 u8 u9 H n
noncomputable def S106_1 (cal : Cal) (k : Nat) : Nat → V4 := fun m => Nat.rec (motive := fun _ => V4) (C106_1 cal k 0 (fun _ _ _ _ _ _ => none)) (fun m ih => C106_1 cal k (m + 1) ih) m
theorem h106_1 (cal : Cal) (k m1 : Nat) (u0 u7 u8 u9 : Value) (H : Hp) (n : Nat) : labK (E106_1 cal k m1) (Tr.set (Tr.set (Tr.set (Tr.set Tr.nil 9 (some u9)) 8 (some u8)) 7 (some u7)) 0 (some u0)) H n [] = C106_1 cal k m1 (R106_1 cal k m1) u0 u7 u8 u9 H n := by
  refine Eq.trans (b := B106_1 cal k m1 (R106_1 cal k m1) u0 u7 u8 u9 H n) (by kernel_rfl) ?_
  rw [C106_1]
theorem q106_1 (cal : Cal) (k : Nat) : ∀ (m : Nat) (u0 u7 u8 u9 : Value) (H : Hp) (n : Nat), labK (E106_1 cal k m) (Tr.set (Tr.set (Tr.set (Tr.set Tr.nil 9 (some u9)) 8 (some u8)) 7 (some u7)) 0 (some u0)) H n [] = S106_1 cal k m u0 u7 u8 u9 H n
  | 0, u0, u7, u8, u9, H, n => by
    rw [h106_1]
    have e : R106_1 cal k 0 = fun _ _ _ _ _ _ => none := by funext u0 u7 u8 u9 H n; kernel_rfl
    rw [e]; rfl
  | m + 1, u0, u7, u8, u9, H, n => by
    rw [h106_1]
    have e : R106_1 cal k (m + 1) = S106_1 cal k m := by
      funext u0 u7 u8 u9 H n
      have e : R106_1 cal k (m + 1) u0 u7 u8 u9 H n = labK (E106_1 cal k m) (Tr.set (Tr.set (Tr.set (Tr.set Tr.nil 9 (some u9)) 8 (some u8)) 7 (some u7)) 0 (some u0)) H n [] := by kernel_rfl
      rw [e]; exact q106_1 ..
    rw [e]; rfl
noncomputable def B106_0 (cal : Cal) (k : Nat) (j1 : V4) (v0 v1 : Value) (H : Hp) (n : Nat) : Res :=
bindO (lenV P 44 v1) fun v_3 =>
j1 v0 v1 v_3 (.int .i64 0) H n
noncomputable def C106_0 (cal : Cal) (k : Nat) (v0 v1 : Value) (H : Hp) (n : Nat) : Res := B106_0 cal k (S106_1 cal k k) v0 v1 H n
theorem h106_0 (cal : Cal) (k : Nat) (v0 v1 : Value) (H : Hp) (n : Nat) : bodyE P cal A (k + 1) 106 [v0, v1] H n = C106_0 cal k v0 v1 H n := by
  have h : bodyE P cal A (k + 1) 106 [v0, v1] H n = B106_0 cal k (fun u0 u7 u8 u9 H n => labK (E106_1 cal k k) (Tr.set (Tr.set (Tr.set (Tr.set Tr.nil 9 (some u9)) 8 (some u8)) 7 (some u7)) 0 (some u0)) H n []) v0 v1 H n := by
    rw [body_eq (fn := Go.Proofs.Try.f106) (c := code106) (rs := results106) (by kernel_rfl) (by kernel_rfl) (by kernel_rfl) (by kernel_rfl)]
    kernel_rfl
  rw [h, C106_0]
  have e1 : (fun u0 u7 u8 u9 H n => labK (E106_1 cal k k) (Tr.set (Tr.set (Tr.set (Tr.set Tr.nil 9 (some u9)) 8 (some u8)) 7 (some u7)) 0 (some u0)) H n []) = (S106_1 cal k k) := by funext u0 u7 u8 u9 H n; exact q106_1 ..
  rw [e1]
noncomputable def code110 : Code := codeOf 110
noncomputable def results110 : List ResultVar := resOf 110
noncomputable def K110_p (cal : Cal) (k : Nat) : KR := (cutK (A 110).c (codeE P cal (codeF P cal k) none 110 (cR code110) (Lv.b (A 110)) (doneK P results110) X0 (doneK P results110)))
noncomputable def K110_pr (cal : Cal) (k : Nat) : KR := (cutK (Lv.b (A 110)).c (codeE P cal (codeF P cal k) none 110 (cR (cR code110)) (Lv.b (Lv.b (A 110))) (doneK P results110) X0 (doneK P results110)))
noncomputable def B110_0 (cal : Cal) (k : Nat) (v0 v1 : Value) (H : Hp) (n : Nat) : Res :=
boxK 105 v0 H n fun v_1 H_2 n_3 =>
boxK 3 v1 H_2 n_3 fun v_4 H_5 n_6 =>
some ((Value.func (Fn.func 117) ⟨[]⟩ ⟨[v_1, v_4]⟩), H_5, n_6)
noncomputable def C110_0 (cal : Cal) (k : Nat) (v0 v1 : Value) (H : Hp) (n : Nat) : Res := B110_0 cal k v0 v1 H n
theorem h110_0 (cal : Cal) (k : Nat) (v0 v1 : Value) (H : Hp) (n : Nat) : bodyE P cal A (k + 1) 110 [v0, v1] H n = C110_0 cal k v0 v1 H n := by
  have h : bodyE P cal A (k + 1) 110 [v0, v1] H n = B110_0 cal k v0 v1 H n := by
    rw [body_eq (fn := Go.Proofs.Try.f110) (c := code110) (rs := results110) (by kernel_rfl) (by kernel_rfl) (by kernel_rfl) (by kernel_rfl)]
    kernel_rfl
  rw [h, C110_0]
noncomputable def code111 : Code := codeOf 111
noncomputable def results111 : List ResultVar := resOf 111
noncomputable def K111_p (cal : Cal) (k : Nat) : KR := (cutK (A 111).c (codeE P cal (codeF P cal k) none 111 (cR code111) (Lv.b (A 111)) (doneK P results111) X0 (doneK P results111)))
noncomputable def K111_pr (cal : Cal) (k : Nat) : KR := (cutK (Lv.b (A 111)).c (codeE P cal (codeF P cal k) none 111 (cR (cR code111)) (Lv.b (Lv.b (A 111))) (doneK P results111) X0 (doneK P results111)))
noncomputable def K111_prl (cal : Cal) (k : Nat) : KR := (cutK (Lv.a (Lv.b (A 111))).c (codeE P cal (codeF P cal k) none 111 (cR (cL (cR code111))) (Lv.b (Lv.a (Lv.b (A 111)))) (K111_pr cal k) X0 (doneK P results111)))
noncomputable def K111_pxrlr (cal : Cal) (k : Nat) : XR := (upX 0 (K111_pr cal k) X0)
noncomputable def K111_prlrl (cal : Cal) (k : Nat) (m1 : Nat) : KR := (fun T H n D => codeF P cal m1 (Lv.a (Lv.b (Lv.a (Lv.b (A 111))))) none 111 (cL (cR (cL (cR code111)))) (K111_pr cal k) (K111_pxrlr cal k) (doneK P results111) (cutT (Lv.a (Lv.b (Lv.a (Lv.b (A 111))))).c T) H n D)
noncomputable def K111_prlrll (cal : Cal) (k : Nat) (m1 : Nat) : KR := (cutK (Lv.a (Lv.a (Lv.b (Lv.a (Lv.b (A 111)))))).c (codeE P cal (codeF P cal m1) none 111 (cR (cL (cL (cR (cL (cR code111)))))) (Lv.b (Lv.a (Lv.a (Lv.b (Lv.a (Lv.b (A 111))))))) (K111_prlrl cal k m1) (K111_pxrlr cal k) (doneK P results111)))
noncomputable def K111_prlrllr (cal : Cal) (k : Nat) (m1 : Nat) : KR := (cutK (Lv.b (Lv.a (Lv.a (Lv.b (Lv.a (Lv.b (A 111))))))).c (codeE P cal (codeF P cal m1) none 111 (cR (cR (cL (cL (cR (cL (cR code111))))))) (Lv.b (Lv.b (Lv.a (Lv.a (Lv.b (Lv.a (Lv.b (A 111)))))))) (K111_prlrl cal k m1) (K111_pxrlr cal k) (doneK P results111)))
noncomputable def K111_prlrllrr (cal : Cal) (k : Nat) (m1 : Nat) : KR := (cutK (Lv.b (Lv.b (Lv.a (Lv.a (Lv.b (Lv.a (Lv.b (A 111)))))))).c (codeE P cal (codeF P cal m1) none 111 (cR (cR (cR (cL (cL (cR (cL (cR code111)))))))) (Lv.b (Lv.b (Lv.b (Lv.a (Lv.a (Lv.b (Lv.a (Lv.b (A 111))))))))) (K111_prlrl cal k m1) (K111_pxrlr cal k) (doneK P results111)))
noncomputable def K111_pxrlrllrrl (cal : Cal) (k : Nat) (m1 : Nat) : XR := (upX 1 (K111_prlrllrr cal k m1) (K111_pxrlr cal k))
noncomputable def K111_prlrllrrll (cal : Cal) (k : Nat) (m1 : Nat) : KR := (cutK (Lv.a (Lv.a (Lv.b (Lv.b (Lv.a (Lv.a (Lv.b (Lv.a (Lv.b (A 111)))))))))).c (codeE P cal (codeF P cal m1) none 111 (cR (cL (cL (cR (cR (cL (cL (cR (cL (cR code111)))))))))) (Lv.b (Lv.a (Lv.a (Lv.b (Lv.b (Lv.a (Lv.a (Lv.b (Lv.a (Lv.b (A 111))))))))))) (K111_prlrllrr cal k m1) (K111_pxrlrllrrl cal k m1) (doneK P results111)))
noncomputable def K111_prlrllrrllr (cal : Cal) (k : Nat) (m1 : Nat) : KR := (cutK (Lv.b (Lv.a (Lv.a (Lv.b (Lv.b (Lv.a (Lv.a (Lv.b (Lv.a (Lv.b (A 111))))))))))).c (codeE P cal (codeF P cal m1) none 111 (cR (cR (cL (cL (cR (cR (cL (cL (cR (cL (cR code111))))))))))) (Lv.b (Lv.b (Lv.a (Lv.a (Lv.b (Lv.b (Lv.a (Lv.a (Lv.b (Lv.a (Lv.b (A 111)))))))))))) (K111_prlrllrr cal k m1) (K111_pxrlrllrrl cal k m1) (doneK P results111)))
noncomputable def K111_prlrllrrllrrl (cal : Cal) (k : Nat) (m1 : Nat) : KR := (cutK (Lv.a (Lv.b (Lv.b (Lv.a (Lv.a (Lv.b (Lv.b (Lv.a (Lv.a (Lv.b (Lv.a (Lv.b (A 111))))))))))))).c (codeE P cal (codeF P cal m1) none 111 (cR (cL (cR (cR (cL (cL (cR (cR (cL (cL (cR (cL (cR code111))))))))))))) (Lv.b (Lv.a (Lv.b (Lv.b (Lv.a (Lv.a (Lv.b (Lv.b (Lv.a (Lv.a (Lv.b (Lv.a (Lv.b (A 111)))))))))))))) (K111_prlrllrr cal k m1) (K111_pxrlrllrrl cal k m1) (doneK P results111)))
noncomputable def K111_prr (cal : Cal) (k : Nat) : KR := (cutK (Lv.b (Lv.b (A 111))).c (codeE P cal (codeF P cal k) none 111 (cR (cR (cR code111))) (Lv.b (Lv.b (Lv.b (A 111)))) (doneK P results111) X0 (doneK P results111)))
noncomputable def E111_1 (cal : Cal) (k m1 : Nat) : KR := codeE P cal (codeF P cal m1) none 111 (cL (cL (cR (cL (cR code111))))) (Lv.a (Lv.a (Lv.b (Lv.a (Lv.b (A 111)))))) (K111_prlrl cal k m1) (K111_pxrlr cal k) (doneK P results111)
noncomputable def R111_1 (cal : Cal) (k m1 : Nat) : V4 := fun u0 u3 u11 u12 H n => codeF P cal m1 (Lv.a (Lv.b (Lv.a (Lv.b (A 111))))) none 111 (cL (cR (cL (cR code111)))) (K111_pr cal k) (K111_pxrlr cal k) (doneK P results111) (Tr.set (Tr.set (Tr.set (Tr.set Tr.nil 12 (some u12)) 11 (some u11)) 3 (some u3)) 0 (some u0)) H n []
noncomputable def B111_1 (cal : Cal) (k m1 : Nat) (b1 : V4) (u0 u3 u11 u12 : Value) (H : Hp) (n : Nat) : Res :=
binK P .lss 3 (.tmp 12) (.tmp 11) u12 u11 fun v_d =>
ifK v_d (
bindO (addrV u3) fun a_i => bindO (loadV P H 111 a_i) fun v_h =>
callFK P cal 69 [u0, v_h, u12] H n fun v_k H_l n_m =>
ifK v_k (
some ((.bool false), H_l, n_m)) (
binK P .add 3 (.tmp 12) (.const (.int .i64 1)) u12 (.int .i64 1) fun v_o =>
b1 u0 u3 u11 v_o H_l n_m)) (
some ((.bool true), H, n))
noncomputable def C111_1 (cal : Cal) (k m1 : Nat) (b1 : V4) (u0 u3 u11 u12 : Value) (H : Hp) (n : Nat) : Res := B111_1 cal k m1 b1 u0 u3 u11 u12 H n
noncomputable def S111_1 (cal : Cal) (k : Nat) : Nat → V4 := fun m => Nat.rec (motive := fun _ => V4) (C111_1 cal k 0 (fun _ _ _ _ _ _ => none)) (fun m ih => C111_1 cal k (m + 1) ih) m
theorem h111_1 (cal : Cal) (k m1 : Nat) (u0 u3 u11 u12 : Value) (H : Hp) (n : Nat) : labK (E111_1 cal k m1) (Tr.set (Tr.set (Tr.set (Tr.set Tr.nil 12 (some u12)) 11 (some u11)) 3 (some u3)) 0 (some u0)) H n [] = C111_1 cal k m1 (R111_1 cal k m1) u0 u3 u11 u12 H n := by
  refine Eq.trans (b := B111_1 cal k m1 (R111_1 cal k m1) u0 u3 u11 u12 H n) (by kernel_rfl) ?_
  rw [C111_1]
theorem q111_1 (cal : Cal) (k : Nat) : ∀ (m : Nat) (u0 u3 u11 u12 : Value) (H : Hp) (n : Nat), labK (E111_1 cal k m) (Tr.set (Tr.set (Tr.set (Tr.set Tr.nil 12 (some u12)) 11 (some u11)) 3 (some u3)) 0 (some u0)) H n [] = S111_1 cal k m u0 u3 u11 u12 H n
  | 0, u0, u3, u11, u12, H, n => by
    rw [h111_1]
    have e : R111_1 cal k 0 = fun _ _ _ _ _ _ => none := by funext u0 u3 u11 u12 H n; kernel_rfl
    rw [e]; rfl
  | m + 1, u0, u3, u11, u12, H, n => by
    rw [h111_1]
    have e : R111_1 cal k (m + 1) = S111_1 cal k m := by
      funext u0 u3 u11 u12 H n
      have e : R111_1 cal k (m + 1) u0 u3 u11 u12 H n = labK (E111_1 cal k m) (Tr.set (Tr.set (Tr.set (Tr.set Tr.nil 12 (some u12)) 11 (some u11)) 3 (some u3)) 0 (some u0)) H n [] := by kernel_rfl
      rw [e]; exact q111_1 ..
    rw [e]; rfl
noncomputable def B111_0 (cal : Cal) (k : Nat) (j1 : V4) (v0 v1 : Value) (H : Hp) (n : Nat) : Res :=
boxK 111 v1 H n fun v_1 H_2 n_3 =>
bindO (nilV v0) fun v_6 =>
bindO (fieldAddrV P 117 v_6 0) fun v_7 =>
bindO (fieldAddrV P 35 v_7 0) fun v_8 =>
bindO (addrV v_8) fun a_a => bindO (loadV P H_2 31 a_a) fun v_9 =>
bindO (lenV P 31 v_9) fun v_b =>
j1 v0 v_1 v_b (.int .i64 0) H_2 n_3
noncomputable def C111_0 (cal : Cal) (k : Nat) (v0 v1 : Value) (H : Hp) (n : Nat) : Res := B111_0 cal k (S111_1 cal k k) v0 v1 H n
theorem h111_0 (cal : Cal) (k : Nat) (v0 v1 : Value) (H : Hp) (n : Nat) : bodyE P cal A (k + 1) 111 [v0, v1] H n = C111_0 cal k v0 v1 H n := by
  have h : bodyE P cal A (k + 1) 111 [v0, v1] H n = B111_0 cal k (fun u0 u3 u11 u12 H n => labK (E111_1 cal k k) (Tr.set (Tr.set (Tr.set (Tr.set Tr.nil 12 (some u12)) 11 (some u11)) 3 (some u3)) 0 (some u0)) H n []) v0 v1 H n := by
    rw [body_eq (fn := Go.Proofs.Try.f111) (c := code111) (rs := results111) (by kernel_rfl) (by kernel_rfl) (by kernel_rfl) (by kernel_rfl)]
    kernel_rfl
  rw [h, C111_0]
  have e1 : (fun u0 u3 u11 u12 H n => labK (E111_1 cal k k) (Tr.set (Tr.set (Tr.set (Tr.set Tr.nil 12 (some u12)) 11 (some u11)) 3 (some u3)) 0 (some u0)) H n []) = (S111_1 cal k k) := by funext u0 u3 u11 u12 H n; exact q111_1 ..
  rw [e1]
noncomputable def code113 : Code := codeOf 113
noncomputable def results113 : List ResultVar := resOf 113
noncomputable def K113_p (cal : Cal) (k : Nat) : KR := (cutK (A 113).c (codeE P cal (codeF P cal k) none 113 (cR code113) (Lv.b (A 113)) (doneK P results113) X0 (doneK P results113)))
noncomputable def K113_pr (cal : Cal) (k : Nat) : KR := (cutK (Lv.b (A 113)).c (codeE P cal (codeF P cal k) none 113 (cR (cR code113)) (Lv.b (Lv.b (A 113))) (doneK P results113) X0 (doneK P results113)))
noncomputable def B113_0 (cal : Cal) (k : Nat) (v0 v1 : Value) (H : Hp) (n : Nat) : Res :=
boxK 105 v0 H n fun v_1 H_2 n_3 =>
boxK 3 v1 H_2 n_3 fun v_4 H_5 n_6 =>
some ((Value.func (Fn.func 119) ⟨[]⟩ ⟨[v_4, v_1]⟩), H_5, n_6)
noncomputable def C113_0 (cal : Cal) (k : Nat) (v0 v1 : Value) (H : Hp) (n : Nat) : Res := B113_0 cal k v0 v1 H n
theorem h113_0 (cal : Cal) (k : Nat) (v0 v1 : Value) (H : Hp) (n : Nat) : bodyE P cal A (k + 1) 113 [v0, v1] H n = C113_0 cal k v0 v1 H n := by
  have h : bodyE P cal A (k + 1) 113 [v0, v1] H n = B113_0 cal k v0 v1 H n := by
    rw [body_eq (fn := Go.Proofs.Try.f113) (c := code113) (rs := results113) (by kernel_rfl) (by kernel_rfl) (by kernel_rfl) (by kernel_rfl)]
    kernel_rfl
  rw [h, C113_0]
noncomputable def code114 : Code := codeOf 114
noncomputable def results114 : List ResultVar := resOf 114
noncomputable def K114_p (cal : Cal) (k : Nat) : KR := (cutK (A 114).c (codeE P cal (codeF P cal k) none 114 (cR code114) (Lv.b (A 114)) (doneK P results114) X0 (doneK P results114)))
noncomputable def K114_pr (cal : Cal) (k : Nat) : KR := (cutK (Lv.b (A 114)).c (codeE P cal (codeF P cal k) none 114 (cR (cR code114)) (Lv.b (Lv.b (A 114))) (doneK P results114) X0 (doneK P results114)))
noncomputable def B114_0 (cal : Cal) (k : Nat) (v0 : Value) (H : Hp) (n : Nat) : Res :=
boxK 53 v0 H n fun v_1 H_2 n_3 =>
bindO (fieldAddrV P 53 v_1 0) fun v_5 =>
bindO (addrV v_5) fun a_7 => bindO (loadV P H_2 3 a_7) fun v_6 =>
binK P .geq 3 (.tmp 4) (.const (.int .i64 0)) v_6 (.int .i64 0) fun v_8 =>
guardK v_8 true (fun k_a =>
bindO (fieldAddrV P 53 v_1 0) fun v_e =>
k_a v_e H_2 n_3) H_2 n_3 fun v_b H_c n_d =>
guardK v_8 true (fun k_f =>
bindO (addrV v_b) fun a_k => bindO (loadV P H_c 3 a_k) fun v_j =>
k_f v_j H_c n_d) H_c n_d fun v_g H_h n_i =>
guardK v_8 true (fun k_l =>
bindO (fieldAddrV P 53 v_1 1) fun v_p =>
k_l v_p H_h n_i) H_h n_i fun v_m H_n n_o =>
guardK v_8 true (fun k_q =>
bindO (addrV v_m) fun a_v => bindO (loadV P H_n 3 a_v) fun v_u =>
k_q v_u H_n n_o) H_n n_o fun v_r H_s n_t =>
guardK v_8 true (fun k_w =>
binK P .leq 3 (.tmp 8) (.tmp 10) v_g v_r fun v_10 =>
k_w v_10 H_s n_t) H_s n_t fun v_x H_y n_z =>
bindO (pickV v_8 v_x (.bool false)) fun v_11 =>
guardK v_11 true (fun k_13 =>
bindO (fieldAddrV P 53 v_1 1) fun v_17 =>
k_13 v_17 H_y n_z) H_y n_z fun v_14 H_15 n_16 =>
guardK v_11 true (fun k_18 =>
bindO (addrV v_14) fun a_1d => bindO (loadV P H_15 3 a_1d) fun v_1c =>
k_18 v_1c H_15 n_16) H_15 n_16 fun v_19 H_1a n_1b =>
guardK v_11 true (fun k_1e =>
binK P .leq 3 (.tmp 15) (.const (.int .i64 1000)) v_19 (.int .i64 1000) fun v_1i =>
k_1e v_1i H_1a n_1b) H_1a n_1b fun v_1f H_1g n_1h =>
bindO (pickV v_11 v_1f (.bool false)) fun v_1j =>
some (v_1j, H_1g, n_1h)
noncomputable def C114_0 (cal : Cal) (k : Nat) (v0 : Value) (H : Hp) (n : Nat) : Res := B114_0 cal k v0 H n
theorem h114_0 (cal : Cal) (k : Nat) (v0 : Value) (H : Hp) (n : Nat) : bodyE P cal A (k + 1) 114 [v0] H n = C114_0 cal k v0 H n := by
  have h : bodyE P cal A (k + 1) 114 [v0] H n = B114_0 cal k v0 H n := by
    rw [body_eq (fn := Go.Proofs.Try.f114) (c := code114) (rs := results114) (by kernel_rfl) (by kernel_rfl) (by kernel_rfl) (by kernel_rfl)]
    kernel_rfl
  rw [h, C114_0]
noncomputable def code115 : Code := codeOf 115
noncomputable def results115 : List ResultVar := resOf 115
noncomputable def K115_p (cal : Cal) (k : Nat) : KR := (cutK (A 115).c (codeE P cal (codeF P cal k) none 115 (cR code115) (Lv.b (A 115)) (doneK P results115) X0 (doneK P results115)))
noncomputable def K115_pr (cal : Cal) (k : Nat) : KR := (cutK (Lv.b (A 115)).c (codeE P cal (codeF P cal k) none 115 (cR (cR code115)) (Lv.b (Lv.b (A 115))) (doneK P results115) X0 (doneK P results115)))
noncomputable def K115_prr (cal : Cal) (k : Nat) : KR := (cutK (Lv.b (Lv.b (A 115))).c (codeE P cal (codeF P cal k) none 115 (cR (cR (cR code115))) (Lv.b (Lv.b (Lv.b (A 115)))) (doneK P results115) X0 (doneK P results115)))
noncomputable def K115_prrl (cal : Cal) (k : Nat) : KR := (cutK (Lv.a (Lv.b (Lv.b (A 115)))).c (codeE P cal (codeF P cal k) none 115 (cR (cL (cR (cR code115)))) (Lv.b (Lv.a (Lv.b (Lv.b (A 115))))) (K115_prr cal k) X0 (doneK P results115)))
noncomputable def K115_pxrrlr (cal : Cal) (k : Nat) : XR := (upX 0 (K115_prr cal k) X0)
noncomputable def K115_prrlrl (cal : Cal) (k : Nat) (m1 : Nat) : KR := (fun T H n D => codeF P cal m1 (Lv.a (Lv.b (Lv.a (Lv.b (Lv.b (A 115)))))) none 115 (cL (cR (cL (cR (cR code115))))) (K115_prr cal k) (K115_pxrrlr cal k) (doneK P results115) (cutT (Lv.a (Lv.b (Lv.a (Lv.b (Lv.b (A 115)))))).c T) H n D)
noncomputable def K115_prrlrll (cal : Cal) (k : Nat) (m1 : Nat) : KR := (cutK (Lv.a (Lv.a (Lv.b (Lv.a (Lv.b (Lv.b (A 115))))))).c (codeE P cal (codeF P cal m1) none 115 (cR (cL (cL (cR (cL (cR (cR code115))))))) (Lv.b (Lv.a (Lv.a (Lv.b (Lv.a (Lv.b (Lv.b (A 115)))))))) (K115_prrlrl cal k m1) (K115_pxrrlr cal k) (doneK P results115)))
noncomputable def K115_prrlrllr (cal : Cal) (k : Nat) (m1 : Nat) : KR := (cutK (Lv.b (Lv.a (Lv.a (Lv.b (Lv.a (Lv.b (Lv.b (A 115)))))))).c (codeE P cal (codeF P cal m1) none 115 (cR (cR (cL (cL (cR (cL (cR (cR code115)))))))) (Lv.b (Lv.b (Lv.a (Lv.a (Lv.b (Lv.a (Lv.b (Lv.b (A 115))))))))) (K115_prrlrl cal k m1) (K115_pxrrlr cal k) (doneK P results115)))
noncomputable def K115_prrlrllrr (cal : Cal) (k : Nat) (m1 : Nat) : KR := (cutK (Lv.b (Lv.b (Lv.a (Lv.a (Lv.b (Lv.a (Lv.b (Lv.b (A 115))))))))).c (codeE P cal (codeF P cal m1) none 115 (cR (cR (cR (cL (cL (cR (cL (cR (cR code115))))))))) (Lv.b (Lv.b (Lv.b (Lv.a (Lv.a (Lv.b (Lv.a (Lv.b (Lv.b (A 115)))))))))) (K115_prrlrl cal k m1) (K115_pxrrlr cal k) (doneK P results115)))
noncomputable def K115_pxrrlrllrrl (cal : Cal) (k : Nat) (m1 : Nat) : XR := (upX 1 (K115_prrlrllrr cal k m1) (K115_pxrrlr cal k))
noncomputable def K115_prrlrllrrll (cal : Cal) (k : Nat) (m1 : Nat) : KR := (cutK (Lv.a (Lv.a (Lv.b (Lv.b (Lv.a (Lv.a (Lv.b (Lv.a (Lv.b (Lv.b (A 115))))))))))).c (codeE P cal (codeF P cal m1) none 115 (cR (cL (cL (cR (cR (cL (cL (cR (cL (cR (cR code115))))))))))) (Lv.b (Lv.a (Lv.a (Lv.b (Lv.b (Lv.a (Lv.a (Lv.b (Lv.a (Lv.b (Lv.b (A 115)))))))))))) (K115_prrlrllrr cal k m1) (K115_pxrrlrllrrl cal k m1) (doneK P results115)))
noncomputable def K115_prrr (cal : Cal) (k : Nat) : KR := (cutK (Lv.b (Lv.b (Lv.b (A 115)))).c (codeE P cal (codeF P cal k) none 115 (cR (cR (cR (cR code115)))) (Lv.b (Lv.b (Lv.b (Lv.b (A 115))))) (doneK P results115) X0 (doneK P results115)))
noncomputable def E115_1 (cal : Cal) (k m1 : Nat) : KR := codeE P cal (codeF P cal m1) none 115 (cL (cL (cR (cL (cR (cR code115)))))) (Lv.a (Lv.a (Lv.b (Lv.a (Lv.b (Lv.b (A 115))))))) (K115_prrlrl cal k m1) (K115_pxrrlr cal k) (doneK P results115)
noncomputable def R115_1 (cal : Cal) (k m1 : Nat) : V3 := fun u4 u5 u10 H n => codeF P cal m1 (Lv.a (Lv.b (Lv.a (Lv.b (Lv.b (A 115)))))) none 115 (cL (cR (cL (cR (cR code115))))) (K115_prr cal k) (K115_pxrrlr cal k) (doneK P results115) (Tr.set (Tr.set (Tr.set Tr.nil 10 (some u10)) 5 (some u5)) 4 (some u4)) H n []
noncomputable def B115_1 (cal : Cal) (k m1 : Nat) (b1 : V3) (u4 u5 u10 : Value) (H : Hp) (n : Nat) : Res :=
binK P .lss 3 (.tmp 10) (.const (.int .i64 8)) u10 (.int .i64 8) fun v_h =>
ifK v_h (
bindO (addrV u5) fun a_l => bindO (loadV P H 113 a_l) fun v_m =>
bindO (addrV u5) fun a_o => bindO (loadV P H 113 a_o) fun v_p =>
bindO (fieldAddrV P 113 u5 2) fun v_r =>
effK P [(.l 113 a_o), (.l 113 a_l)] H n (fun H_s n_t k_u =>
callFK P cal 121 [] H_s n_t fun v_y H_z n_10 =>
k_u v_y H_z n_10) fun v_v H_w n_x =>
effK P [(.l 113 a_o)] H_w n_x (fun H_11 n_12 k_13 =>
callFK P cal 120 [v_m, u10, v_v] H_11 n_12 fun v_17 H_18 n_19 =>
k_13 v_17 H_18 n_19) fun v_14 H_15 n_16 =>
effK P [(.l 113 a_o)] H_15 n_16 (fun H_1a n_1b k_1c =>
callFK P cal 122 [] H_1a n_1b fun v_1g H_1h n_1i =>
k_1c v_1g H_1h n_1i) fun v_1d H_1e n_1f =>
callFK P cal 120 [v_p, u10, v_1d] H_1e n_1f fun v_1j H_1k n_1l =>
bindO (buildP P 53 [(0, v_14), (1, v_1j)]) fun v_1m =>
bindO (indexAddrV P 111 v_r u10) fun v_1n =>
bindO (storeP P 53 v_1n v_1m H_1k) fun H_1p =>
binK P .add 3 (.tmp 10) (.const (.int .i64 1)) u10 (.int .i64 1) fun v_1q =>
b1 u4 u5 v_1q H_1p n_1l) (
bindO (addrV u5) fun a_1t => bindO (loadV P H 113 a_1t) fun v_1s =>
bindO (storeP P 113 u4 v_1s H) fun H_1v =>
bindO (resV P (Tr.set Tr.nil 4 (some u4)) H_1v results115) fun v_1w => some (oneV v_1w, H_1v, n))
noncomputable def C115_1 (cal : Cal) (k m1 : Nat) (b1 : V3) (u4 u5 u10 : Value) (H : Hp) (n : Nat) : Res := B115_1 cal k m1 b1 u4 u5 u10 H n
noncomputable def S115_1 (cal : Cal) (k : Nat) : Nat → V3 := fun m => Nat.rec (motive := fun _ => V3) (C115_1 cal k 0 (fun _ _ _ _ _ => none)) (fun m ih => C115_1 cal k (m + 1) ih) m
theorem h115_1 (cal : Cal) (k m1 : Nat) (u4 u5 u10 : Value) (H : Hp) (n : Nat) : labK (E115_1 cal k m1) (Tr.set (Tr.set (Tr.set Tr.nil 10 (some u10)) 5 (some u5)) 4 (some u4)) H n [] = C115_1 cal k m1 (R115_1 cal k m1) u4 u5 u10 H n := by
  refine Eq.trans (b := B115_1 cal k m1 (R115_1 cal k m1) u4 u5 u10 H n) (by kernel_rfl) ?_
  rw [C115_1]
theorem q115_1 (cal : Cal) (k : Nat) : ∀ (m : Nat) (u4 u5 u10 : Value) (H : Hp) (n : Nat), labK (E115_1 cal k m) (Tr.set (Tr.set (Tr.set Tr.nil 10 (some u10)) 5 (some u5)) 4 (some u4)) H n [] = S115_1 cal k m u4 u5 u10 H n
  | 0, u4, u5, u10, H, n => by
    rw [h115_1]
    have e : R115_1 cal k 0 = fun _ _ _ _ _ => none := by funext u4 u5 u10 H n; kernel_rfl
    rw [e]; rfl
  | m + 1, u4, u5, u10, H, n => by
    rw [h115_1]
    have e : R115_1 cal k (m + 1) = S115_1 cal k m := by
      funext u4 u5 u10 H n
      have e : R115_1 cal k (m + 1) u4 u5 u10 H n = labK (E115_1 cal k m) (Tr.set (Tr.set (Tr.set Tr.nil 10 (some u10)) 5 (some u5)) 4 (some u4)) H n [] := by kernel_rfl
      rw [e]; exact q115_1 ..
    rw [e]; rfl
noncomputable def B115_0 (cal : Cal) (k : Nat) (j1 : V3) (v0 v1 : Value) (H : Hp) (n : Nat) : Res :=
boxK 111 v1 H n fun v_1 H_2 n_3 =>
allocK P 113 H_2 n_3 fun v_4 H_5 n_6 =>
bindO (addrV v_1) fun a_9 => bindO (loadV P H_5 111 a_9) fun v_8 =>
bindO (buildP P 113 [(0, v0), (1, v_8)]) fun v_a =>
allocK P 113 H_5 n_6 fun v_b H_c n_d =>
bindO (storeP P 113 v_b v_a H_c) fun H_f =>
j1 v_4 v_b (.int .i64 0) H_f n_d
noncomputable def C115_0 (cal : Cal) (k : Nat) (v0 v1 : Value) (H : Hp) (n : Nat) : Res := B115_0 cal k (S115_1 cal k k) v0 v1 H n
theorem h115_0 (cal : Cal) (k : Nat) (v0 v1 : Value) (H : Hp) (n : Nat) : bodyE P cal A (k + 1) 115 [v0, v1] H n = C115_0 cal k v0 v1 H n := by
  have h : bodyE P cal A (k + 1) 115 [v0, v1] H n = B115_0 cal k (fun u4 u5 u10 H n => labK (E115_1 cal k k) (Tr.set (Tr.set (Tr.set Tr.nil 10 (some u10)) 5 (some u5)) 4 (some u4)) H n []) v0 v1 H n := by
    rw [body_eq (fn := Go.Proofs.Try.f115) (c := code115) (rs := results115) (by kernel_rfl) (by kernel_rfl) (by kernel_rfl) (by kernel_rfl)]
    kernel_rfl
  rw [h, C115_0]
  have e1 : (fun u4 u5 u10 H n => labK (E115_1 cal k k) (Tr.set (Tr.set (Tr.set Tr.nil 10 (some u10)) 5 (some u5)) 4 (some u4)) H n []) = (S115_1 cal k k) := by funext u4 u5 u10 H n; exact q115_1 ..
  rw [e1]
noncomputable def code117 : Code := codeOf 117
noncomputable def results117 : List ResultVar := resOf 117
noncomputable def K117_p (cal : Cal) (k : Nat) : KR := (cutK (A 117).c (codeE P cal (codeF P cal k) none 117 (cR code117) (Lv.b (A 117)) (doneK P results117) X0 (doneK P results117)))
noncomputable def K117_pr (cal : Cal) (k : Nat) : KR := (cutK (Lv.b (A 117)).c (codeE P cal (codeF P cal k) none 117 (cR (cR code117)) (Lv.b (Lv.b (A 117))) (doneK P results117) X0 (doneK P results117)))
noncomputable def K117_prr (cal : Cal) (k : Nat) : KR := (cutK (Lv.b (Lv.b (A 117))).c (codeE P cal (codeF P cal k) none 117 (cR (cR (cR code117))) (Lv.b (Lv.b (Lv.b (A 117)))) (doneK P results117) X0 (doneK P results117)))
noncomputable def B117_0 (cal : Cal) (k : Nat) (v0 v1 v2 : Value) (H : Hp) (n : Nat) : Res :=
boxK 175 v0 H n fun v_1 H_2 n_3 =>
allocK P 176 H_2 n_3 fun v_4 H_5 n_6 =>
bindO (storeP P 176 v_4 (Value.func (Fn.func 118) ⟨[]⟩ ⟨[v1, v_1, v_4]⟩) H_5) fun H_9 =>
bindO (addrV v_4) fun a_a => bindO (loadV P H_9 176 a_a) fun v_b =>
bindO (buildP P 111 []) fun v_c =>
bindO (addrV v2) fun a_d => bindO (loadV P H_9 3 a_d) fun v_e =>
effK P [(.l 3 a_d), (.l 176 a_a)] H_9 n_6 (fun H_f n_g k_h =>
callFK P cal 101 [] H_f n_g fun v_l H_m n_n =>
k_h v_l H_m n_n) fun v_i H_j n_k =>
callVK P cal v_b [v_i, v_c, (.int .i64 0), v_e] H_j n_k fun v_o H_p n_q =>
some ((Value.tuple ⟨[]⟩), H_p, n_q)
noncomputable def C117_0 (cal : Cal) (k : Nat) (v0 v1 v2 : Value) (H : Hp) (n : Nat) : Res := B117_0 cal k v0 v1 v2 H n
theorem h117_0 (cal : Cal) (k : Nat) (v0 v1 v2 : Value) (H : Hp) (n : Nat) : bodyE P cal A (k + 1) 117 [v0, v1, v2] H n = C117_0 cal k v0 v1 v2 H n := by
  have h : bodyE P cal A (k + 1) 117 [v0, v1, v2] H n = B117_0 cal k v0 v1 v2 H n := by
    rw [body_eq (fn := Go.Proofs.Try.f117) (c := code117) (rs := results117) (by kernel_rfl) (by kernel_rfl) (by kernel_rfl) (by kernel_rfl)]
    kernel_rfl
  rw [h, C117_0]
end Go.Proofs.Ytekajfobmnedjaa.G
