/- The texts of functions, each with the proof that the evaluator says the same. -/
import Derived.Test.YtgojjellogiglaaH1
open Go Go.Ev
set_option maxRecDepth 1000000
set_option linter.unusedVariables false
noncomputable section
namespace Go.Proofs.Ytgojjellogiglaa.G
noncomputable def code5 : Code := codeOf 5
noncomputable def results5 : List ResultVar := resOf 5
noncomputable def K5_p (cal : Cal) (k : Nat) : KR := (cutK (A 5).c (codeE P cal (codeF P cal k) none 5 (cR code5) (Lv.b (A 5)) (doneK P results5) X0 (doneK P results5)))
noncomputable def K5_pr (cal : Cal) (k : Nat) : KR := (cutK (Lv.b (A 5)).c (codeE P cal (codeF P cal k) none 5 (cR (cR code5)) (Lv.b (Lv.b (A 5))) (doneK P results5) X0 (doneK P results5)))
noncomputable def K5_prl (cal : Cal) (k : Nat) : KR := (cutK (Lv.a (Lv.b (A 5))).c (codeE P cal (codeF P cal k) none 5 (cR (cL (cR code5))) (Lv.b (Lv.a (Lv.b (A 5)))) (K5_pr cal k) X0 (doneK P results5)))
noncomputable def K5_prlrl (cal : Cal) (k : Nat) : KR := (cutK (Lv.a (Lv.b (Lv.a (Lv.b (A 5))))).c (codeE P cal (codeF P cal k) none 5 (cR (cL (cR (cL (cR code5))))) (Lv.b (Lv.a (Lv.b (Lv.a (Lv.b (A 5)))))) (K5_pr cal k) X0 (doneK P results5)))
noncomputable def K5_prr (cal : Cal) (k : Nat) : KR := (cutK (Lv.b (Lv.b (A 5))).c (codeE P cal (codeF P cal k) none 5 (cR (cR (cR code5))) (Lv.b (Lv.b (Lv.b (A 5)))) (doneK P results5) X0 (doneK P results5)))
noncomputable def K5_prrr (cal : Cal) (k : Nat) : KR := (cutK (Lv.b (Lv.b (Lv.b (A 5)))).c (codeE P cal (codeF P cal k) none 5 (cR (cR (cR (cR code5)))) (Lv.b (Lv.b (Lv.b (Lv.b (A 5))))) (doneK P results5) X0 (doneK P results5)))
noncomputable def K5_prrrrr (cal : Cal) (k : Nat) : KR := (cutK (Lv.b (Lv.b (Lv.b (Lv.b (Lv.b (A 5)))))).c (codeE P cal (codeF P cal k) none 5 (cR (cR (cR (cR (cR (cR code5)))))) (Lv.b (Lv.b (Lv.b (Lv.b (Lv.b (Lv.b (A 5))))))) (doneK P results5) X0 (doneK P results5)))
noncomputable def K5_prrrrrl (cal : Cal) (k : Nat) : KR := (cutK (Lv.a (Lv.b (Lv.b (Lv.b (Lv.b (Lv.b (A 5))))))).c (codeE P cal (codeF P cal k) none 5 (cR (cL (cR (cR (cR (cR (cR code5))))))) (Lv.b (Lv.a (Lv.b (Lv.b (Lv.b (Lv.b (Lv.b (A 5)))))))) (K5_prrrrr cal k) X0 (doneK P results5)))
noncomputable def K5_prrrrrlrl (cal : Cal) (k : Nat) : KR := (cutK (Lv.a (Lv.b (Lv.a (Lv.b (Lv.b (Lv.b (Lv.b (Lv.b (A 5))))))))).c (codeE P cal (codeF P cal k) none 5 (cR (cL (cR (cL (cR (cR (cR (cR (cR code5))))))))) (Lv.b (Lv.a (Lv.b (Lv.a (Lv.b (Lv.b (Lv.b (Lv.b (Lv.b (A 5)))))))))) (K5_prrrrr cal k) X0 (doneK P results5)))
noncomputable def K5_prrrrrr (cal : Cal) (k : Nat) : KR := (cutK (Lv.b (Lv.b (Lv.b (Lv.b (Lv.b (Lv.b (A 5))))))).c (codeE P cal (codeF P cal k) none 5 (cR (cR (cR (cR (cR (cR (cR code5))))))) (Lv.b (Lv.b (Lv.b (Lv.b (Lv.b (Lv.b (Lv.b (A 5)))))))) (doneK P results5) X0 (doneK P results5)))
noncomputable def K5_prrrrrrr (cal : Cal) (k : Nat) : KR := (cutK (Lv.b (Lv.b (Lv.b (Lv.b (Lv.b (Lv.b (Lv.b (A 5)))))))).c (codeE P cal (codeF P cal k) none 5 (cR (cR (cR (cR (cR (cR (cR (cR code5)))))))) (Lv.b (Lv.b (Lv.b (Lv.b (Lv.b (Lv.b (Lv.b (Lv.b (A 5))))))))) (doneK P results5) X0 (doneK P results5)))
noncomputable def K5_prrrrrrrrr (cal : Cal) (k : Nat) : KR := (cutK (Lv.b (Lv.b (Lv.b (Lv.b (Lv.b (Lv.b (Lv.b (Lv.b (Lv.b (A 5)))))))))).c (codeE P cal (codeF P cal k) none 5 (cR (cR (cR (cR (cR (cR (cR (cR (cR (cR code5)))))))))) (Lv.b (Lv.b (Lv.b (Lv.b (Lv.b (Lv.b (Lv.b (Lv.b (Lv.b (Lv.b (A 5))))))))))) (doneK P results5) X0 (doneK P results5)))
noncomputable def K5_prrrrrrrr (cal : Cal) (k : Nat) : KR := (cutK (Lv.b (Lv.b (Lv.b (Lv.b (Lv.b (Lv.b (Lv.b (Lv.b (A 5))))))))).c (codeE P cal (codeF P cal k) none 5 (cR (cR (cR (cR (cR (cR (cR (cR (cR code5))))))))) (Lv.b (Lv.b (Lv.b (Lv.b (Lv.b (Lv.b (Lv.b (Lv.b (Lv.b (A 5)))))))))) (doneK P results5) X0 (doneK P results5)))
noncomputable def K5_prrrrrrrrl (cal : Cal) (k : Nat) : KR := (cutK (Lv.a (Lv.b (Lv.b (Lv.b (Lv.b (Lv.b (Lv.b (Lv.b (Lv.b (A 5)))))))))).c (codeE P cal (codeF P cal k) none 5 (cR (cL (cR (cR (cR (cR (cR (cR (cR (cR code5)))))))))) (Lv.b (Lv.a (Lv.b (Lv.b (Lv.b (Lv.b (Lv.b (Lv.b (Lv.b (Lv.b (A 5))))))))))) (K5_prrrrrrrr cal k) X0 (doneK P results5)))
noncomputable def K5_prrrr (cal : Cal) (k : Nat) : KR := (cutK (Lv.b (Lv.b (Lv.b (Lv.b (A 5))))).c (codeE P cal (codeF P cal k) none 5 (cR (cR (cR (cR (cR code5))))) (Lv.b (Lv.b (Lv.b (Lv.b (Lv.b (A 5)))))) (doneK P results5) X0 (doneK P results5)))
noncomputable def K5_prrrrl (cal : Cal) (k : Nat) : KR := (cutK (Lv.a (Lv.b (Lv.b (Lv.b (Lv.b (A 5)))))).c (codeE P cal (codeF P cal k) none 5 (cR (cL (cR (cR (cR (cR code5)))))) (Lv.b (Lv.a (Lv.b (Lv.b (Lv.b (Lv.b (A 5))))))) (K5_prrrr cal k) X0 (doneK P results5)))
noncomputable def E5_2 (cal : Cal) (k : Nat) : KR := codeE P cal (codeF P cal k) none 5 (cR (cR (cR (cR (cR (cR (cR (cR (cR code5))))))))) (Lv.b (Lv.b (Lv.b (Lv.b (Lv.b (Lv.b (Lv.b (Lv.b (Lv.b (A 5)))))))))) (doneK P results5) X0 (doneK P results5)
noncomputable def E5_1 (cal : Cal) (k : Nat) : KR := codeE P cal (codeF P cal k) none 5 (cR (cR (cR (cR (cR code5))))) (Lv.b (Lv.b (Lv.b (Lv.b (Lv.b (A 5)))))) (doneK P results5) X0 (doneK P results5)
noncomputable def B5_2 (cal : Cal) (k : Nat) (u1 u2 u4 u9 u10 u13 : Value) (H : Hp) (n : Nat) : Res :=
binK P .eql 29 (.tmp 64) (.const (.int .i64 0)) u10 (.int .i64 0) fun v_2j =>
guardK v_2j true (fun k_2l =>
bindO (addrV u4) fun a_2q => bindO (loadV P H 26 a_2q) fun v_2p =>
k_2l v_2p H n) H n fun v_2m H_2n n_2o =>
guardK v_2j true (fun k_2r =>
k_2r u1 H_2n n_2o) H_2n n_2o fun v_2s H_2t n_2u =>
guardK v_2j true (fun k_2w =>
k_2w u9 H_2t n_2u) H_2t n_2u fun v_2x H_2y n_2z =>
guardK v_2j true (fun k_31 =>
callFK P cal 33 [v_2m, v_2s, v_2x] H_2y n_2z fun v_35 H_36 n_37 =>
k_31 v_35 H_36 n_37) H_2y n_2z fun v_32 H_33 n_34 =>
bindO (pickV v_2j v_32 (.bool false)) fun v_38 =>
guardK v_38 true (fun k_3a =>
k_3a u9 H_33 n_34) H_33 n_34 fun v_3b H_3c n_3d =>
guardK v_38 true (fun k_3f =>
k_3f u2 H_3c n_3d) H_3c n_3d fun v_3g H_3h n_3i =>
guardK v_38 true (fun k_3k =>
callFK P cal 34 [v_3b, v_3g] H_3h n_3i fun v_3o H_3p n_3q =>
k_3k v_3o H_3p n_3q) H_3h n_3i fun v_3l H_3m n_3n =>
guardK v_38 true (fun k_3r =>
k_3r u13 H_3m n_3n) H_3m n_3n fun v_3s H_3t n_3u =>
guardK v_38 true (fun k_3w =>
binK P .eql 3 (.tmp 75) (.tmp 76) v_3l v_3s fun v_40 =>
k_3w v_40 H_3t n_3u) H_3t n_3u fun v_3x H_3y n_3z =>
bindO (pickV v_38 v_3x (.bool false)) fun v_41 =>
guardK v_41 true (fun k_43 =>
callFK P cal 16 [] H_3y n_3z fun v_47 H_48 n_49 =>
k_43 v_47 H_48 n_49) H_3y n_3z fun v_44 H_45 n_46 =>
bindO (pickV v_41 v_44 (.bool false)) fun v_4a =>
some (v_4a, H_45, n_46)
noncomputable def C5_2 (cal : Cal) (k : Nat) (u1 u2 u4 u9 u10 u13 : Value) (H : Hp) (n : Nat) : Res := B5_2 cal k u1 u2 u4 u9 u10 u13 H n
theorem h5_2 (cal : Cal) (k : Nat) (u1 u2 u4 u9 u10 u13 : Value) (H : Hp) (n : Nat) : labK (E5_2 cal k) (Tr.set (Tr.set (Tr.set (Tr.set (Tr.set (Tr.set Tr.nil 13 (some u13)) 10 (some u10)) 9 (some u9)) 4 (some u4)) 2 (some u2)) 1 (some u1)) H n [] = C5_2 cal k u1 u2 u4 u9 u10 u13 H n := by
  refine Eq.trans (b := B5_2 cal k u1 u2 u4 u9 u10 u13 H n) (by kernel_rfl) ?_
  rw [C5_2]
noncomputable def B5_1 (cal : Cal) (k : Nat) (j2 : V6) (u1 u2 u3 u4 u9 u10 u11 : Value) (H : Hp) (n : Nat) : Res :=
binK P .neq 29 (.tmp 42) (.const (.int .i64 0)) u11 (.int .i64 0) fun v_17 =>
ifK v_17 (
binK P .eql 29 (.tmp 44) (.tmp 45) u10 u11 fun v_1a =>
guardK v_1a true (fun k_1c =>
k_1c u9 H n) H n fun v_1d H_1e n_1f =>
guardK v_1a true (fun k_1h =>
bindO (lenV P 59 v_1d) fun v_1l =>
k_1h v_1l H_1e n_1f) H_1e n_1f fun v_1i H_1j n_1k =>
guardK v_1a true (fun k_1m =>
binK P .eql 3 (.tmp 49) (.const (.int .i64 0)) v_1i (.int .i64 0) fun v_1q =>
k_1m v_1q H_1j n_1k) H_1j n_1k fun v_1n H_1o n_1p =>
bindO (pickV v_1a v_1n (.bool false)) fun v_1r =>
guardK v_1r true (fun k_1t =>
callFK P cal 16 [] H_1o n_1p fun v_1x H_1y n_1z =>
k_1t v_1x H_1y n_1z) H_1o n_1p fun v_1u H_1v n_1w =>
bindO (pickV v_1r v_1u (.bool false)) fun v_20 =>
some (v_20, H_1v, n_1w)) (
bindO (addrV u4) fun a_23 => bindO (loadV P H 26 a_23) fun v_22 =>
callFK P cal 27 [v_22, u1, u2] H n fun v_26 H_27 n_28 =>
allocK P 55 H_27 n_28 fun v_29 H_2a n_2b =>
bindO (storeP P 55 v_29 v_26 H_2a) fun H_2d =>
bindO (fieldAddrV P 55 v_29 0) fun v_2e =>
bindO (addrV v_2e) fun a_2g => bindO (loadV P H_2d 3 a_2g) fun v_2f =>
ifK u3 (
bindO (fieldAddrV P 55 v_29 1) fun v_4d =>
bindO (addrV v_4d) fun a_4f => bindO (loadV P H_2d 3 a_4f) fun v_4e =>
j2 u1 u2 u4 u9 u10 v_4e H_2d n_2b) (
j2 u1 u2 u4 u9 u10 v_2f H_2d n_2b))
noncomputable def C5_1 (cal : Cal) (k : Nat) (u1 u2 u3 u4 u9 u10 u11 : Value) (H : Hp) (n : Nat) : Res := B5_1 cal k (C5_2 cal k) u1 u2 u3 u4 u9 u10 u11 H n
theorem h5_1 (cal : Cal) (k : Nat) (u1 u2 u3 u4 u9 u10 u11 : Value) (H : Hp) (n : Nat) : labK (E5_1 cal k) (Tr.set (Tr.set (Tr.set (Tr.set (Tr.set (Tr.set (Tr.set Tr.nil 11 (some u11)) 10 (some u10)) 9 (some u9)) 4 (some u4)) 3 (some u3)) 2 (some u2)) 1 (some u1)) H n [] = C5_1 cal k u1 u2 u3 u4 u9 u10 u11 H n := by
  refine Eq.trans (b := B5_1 cal k (fun u1 u2 u4 u9 u10 u13 H n => labK (E5_2 cal k) (Tr.set (Tr.set (Tr.set (Tr.set (Tr.set (Tr.set Tr.nil 13 (some u13)) 10 (some u10)) 9 (some u9)) 4 (some u4)) 2 (some u2)) 1 (some u1)) H n []) u1 u2 u3 u4 u9 u10 u11 H n) (by kernel_rfl) ?_
  rw [C5_1]
  have e2 : (fun u1 u2 u4 u9 u10 u13 H n => labK (E5_2 cal k) (Tr.set (Tr.set (Tr.set (Tr.set (Tr.set (Tr.set Tr.nil 13 (some u13)) 10 (some u10)) 9 (some u9)) 4 (some u4)) 2 (some u2)) 1 (some u1)) H n []) = (C5_2 cal k) := by funext u1 u2 u4 u9 u10 u13 H n; exact h5_2 ..
  rw [e2]
noncomputable def B5_0 (cal : Cal) (k : Nat) (j1 : V7) (v0 v1 v2 v3 : Value) (H : Hp) (n : Nat) : Res :=
boxK 26 v0 H n fun v_1 H_2 n_3 =>
bindO (addrV v_1) fun a_6 => bindO (loadV P H_2 26 a_6) fun v_5 =>
callFK P cal 15 [v_5, v1] H_2 n_3 fun v_8 H_9 n_a =>
bindO (pureSem P v_8 (Op.unary UnOp.not v_8)) fun v_b =>
ifK v_b (
callFK P cal 16 [] H_9 n_a fun v_c H_d n_e =>
some (v_c, H_d, n_e)) (
bindO (addrV v_1) fun a_h => bindO (loadV P H_9 26 a_h) fun v_g =>
callFK P cal 18 [v_g] H_9 n_a fun v_i H_j n_k =>
callFK P cal 23 [v1] H_j n_k fun v_m H_n n_o =>
callFK P cal 31 [v_i, v_m, v2, v3] H_n n_o fun v_r H_s n_t =>
bindO (tupV v_r 0) fun v_v =>
bindO (tupV v_r 1) fun v_w =>
bindO (addrV v_1) fun a_10 => bindO (loadV P H_s 26 a_10) fun v_z =>
callFK P cal 25 [v_z, v1] H_s n_t fun v_12 H_13 n_14 =>
binK P .eql 29 (.tmp 32) (.const (.int .i64 0)) v_12 (.int .i64 0) fun v_4i =>
guardK v_4i true (fun k_4k =>
k_4k v2 H_13 n_14) H_13 n_14 fun v_4l H_4m n_4n =>
guardK v_4i true (fun k_4p =>
k_4p v1 H_4m n_4n) H_4m n_4n fun v_4q H_4r n_4s =>
guardK v_4i true (fun k_4u =>
bindO (lenV P 44 v_4q) fun v_4y =>
k_4u v_4y H_4r n_4s) H_4r n_4s fun v_4v H_4w n_4x =>
guardK v_4i true (fun k_4z =>
binK P .sub 3 (.tmp 37) (.const (.int .i64 1)) v_4v (.int .i64 1) fun v_53 =>
k_4z v_53 H_4w n_4x) H_4w n_4x fun v_50 H_51 n_52 =>
guardK v_4i true (fun k_54 =>
callFK P cal 32 [v_4l, (.int .i64 0), v_50] H_51 n_52 fun v_58 H_59 n_5a =>
k_54 v_58 H_59 n_5a) H_51 n_52 fun v_55 H_56 n_57 =>
guardK v_4i true (fun k_5b =>
bindO (pureSem P v_55 (Op.unary UnOp.not v_55)) fun v_5f =>
k_5b v_5f H_56 n_57) H_56 n_57 fun v_5c H_5d n_5e =>
bindO (pickV v_4i v_5c (.bool false)) fun v_5g =>
ifK v_5g (
j1 v1 v2 v3 v_1 v_v v_w (.int .i64 2) H_5d n_5e) (
j1 v1 v2 v3 v_1 v_v v_w v_12 H_5d n_5e))
noncomputable def C5_0 (cal : Cal) (k : Nat) (v0 v1 v2 v3 : Value) (H : Hp) (n : Nat) : Res := B5_0 cal k (C5_1 cal k) v0 v1 v2 v3 H n
theorem h5_0 (cal : Cal) (k : Nat) (v0 v1 v2 v3 : Value) (H : Hp) (n : Nat) : bodyE P cal A (k + 1) 5 [v0, v1, v2, v3] H n = C5_0 cal k v0 v1 v2 v3 H n := by
  have h : bodyE P cal A (k + 1) 5 [v0, v1, v2, v3] H n = B5_0 cal k (fun u1 u2 u3 u4 u9 u10 u11 H n => labK (E5_1 cal k) (Tr.set (Tr.set (Tr.set (Tr.set (Tr.set (Tr.set (Tr.set Tr.nil 11 (some u11)) 10 (some u10)) 9 (some u9)) 4 (some u4)) 3 (some u3)) 2 (some u2)) 1 (some u1)) H n []) v0 v1 v2 v3 H n := by
    rw [body_eq (fn := Go.Proofs.Try.f5) (c := code5) (rs := results5) (by kernel_rfl) (by kernel_rfl) (by kernel_rfl) (by kernel_rfl)]
    kernel_rfl
  rw [h, C5_0]
  have e1 : (fun u1 u2 u3 u4 u9 u10 u11 H n => labK (E5_1 cal k) (Tr.set (Tr.set (Tr.set (Tr.set (Tr.set (Tr.set (Tr.set Tr.nil 11 (some u11)) 10 (some u10)) 9 (some u9)) 4 (some u4)) 3 (some u3)) 2 (some u2)) 1 (some u1)) H n []) = (C5_1 cal k) := by funext u1 u2 u3 u4 u9 u10 u11 H n; exact h5_1 ..
  rw [e1]
noncomputable def code15 : Code := codeOf 15
noncomputable def results15 : List ResultVar := resOf 15
noncomputable def K15_p (cal : Cal) (k : Nat) : KR := (cutK (A 15).c (codeE P cal (codeF P cal k) none 15 (cR code15) (Lv.b (A 15)) (doneK P results15) X0 (doneK P results15)))
noncomputable def K15_pr (cal : Cal) (k : Nat) : KR := (cutK (Lv.b (A 15)).c (codeE P cal (codeF P cal k) none 15 (cR (cR code15)) (Lv.b (Lv.b (A 15))) (doneK P results15) X0 (doneK P results15)))
noncomputable def B15_0 (cal : Cal) (k : Nat) (v0 v1 : Value) (H : Hp) (n : Nat) : Res :=
boxK 26 v0 H n fun v_1 H_2 n_3 =>
bindO (fieldAddrV P 26 v_1 0) fun v_5 =>
bindO (addrV v_5) fun a_7 => bindO (loadV P H_2 22 a_7) fun v_6 =>
bindO (lenV P 22 v_6) fun v_8 =>
binK P .leq 3 (.tmp 7) (.const (.int .i64 11)) v_8 (.int .i64 11) fun v_9 =>
guardK v_9 true (fun k_b =>
bindO (fieldAddrV P 26 v_1 1) fun v_f =>
k_b v_f H_2 n_3) H_2 n_3 fun v_c H_d n_e =>
guardK v_9 true (fun k_g =>
bindO (addrV v_c) fun a_l => bindO (loadV P H_d 23 a_l) fun v_k =>
k_g v_k H_d n_e) H_d n_e fun v_h H_i n_j =>
guardK v_9 true (fun k_m =>
bindO (lenV P 23 v_h) fun v_q =>
k_m v_q H_i n_j) H_i n_j fun v_n H_o n_p =>
guardK v_9 true (fun k_r =>
binK P .leq 3 (.tmp 12) (.const (.int .i64 19)) v_n (.int .i64 19) fun v_v =>
k_r v_v H_o n_p) H_o n_p fun v_s H_t n_u =>
bindO (pickV v_9 v_s (.bool false)) fun v_w =>
guardK v_w true (fun k_y =>
bindO (fieldAddrV P 26 v_1 2) fun v_12 =>
k_y v_12 H_t n_u) H_t n_u fun v_z H_10 n_11 =>
guardK v_w true (fun k_13 =>
bindO (addrV v_z) fun a_18 => bindO (loadV P H_10 24 a_18) fun v_17 =>
k_13 v_17 H_10 n_11) H_10 n_11 fun v_14 H_15 n_16 =>
guardK v_w true (fun k_19 =>
bindO (lenV P 24 v_14) fun v_1d =>
k_19 v_1d H_15 n_16) H_15 n_16 fun v_1a H_1b n_1c =>
guardK v_w true (fun k_1e =>
binK P .leq 3 (.tmp 18) (.const (.int .i64 6)) v_1a (.int .i64 6) fun v_1i =>
k_1e v_1i H_1b n_1c) H_1b n_1c fun v_1f H_1g n_1h =>
bindO (pickV v_w v_1f (.bool false)) fun v_1j =>
guardK v_1j true (fun k_1l =>
k_1l v1 H_1g n_1h) H_1g n_1h fun v_1m H_1n n_1o =>
guardK v_1j true (fun k_1q =>
bindO (lenV P 44 v_1m) fun v_1u =>
k_1q v_1u H_1n n_1o) H_1n n_1o fun v_1r H_1s n_1t =>
guardK v_1j true (fun k_1v =>
binK P .leq 3 (.tmp 23) (.const (.int .i64 11)) v_1r (.int .i64 11) fun v_1z =>
k_1v v_1z H_1s n_1t) H_1s n_1t fun v_1w H_1x n_1y =>
bindO (pickV v_1j v_1w (.bool false)) fun v_20 =>
some (v_20, H_1x, n_1y)
noncomputable def C15_0 (cal : Cal) (k : Nat) (v0 v1 : Value) (H : Hp) (n : Nat) : Res := B15_0 cal k v0 v1 H n
theorem h15_0 (cal : Cal) (k : Nat) (v0 v1 : Value) (H : Hp) (n : Nat) : bodyE P cal A (k + 1) 15 [v0, v1] H n = C15_0 cal k v0 v1 H n := by
  have h : bodyE P cal A (k + 1) 15 [v0, v1] H n = B15_0 cal k v0 v1 H n := by
    rw [body_eq (fn := Go.Proofs.Try.f15) (c := code15) (rs := results15) (by kernel_rfl) (by kernel_rfl) (by kernel_rfl) (by kernel_rfl)]
    kernel_rfl
  rw [h, C15_0]
noncomputable def code18 : Code := codeOf 18
noncomputable def results18 : List ResultVar := resOf 18
noncomputable def K18_p (cal : Cal) (k : Nat) : KR := (cutK (A 18).c (codeE P cal (codeF P cal k) none 18 (cR code18) (Lv.b (A 18)) (doneK P results18) X0 (doneK P results18)))
noncomputable def K18_pr (cal : Cal) (k : Nat) : KR := (cutK (Lv.b (A 18)).c (codeE P cal (codeF P cal k) none 18 (cR (cR code18)) (Lv.b (Lv.b (A 18))) (doneK P results18) X0 (doneK P results18)))
noncomputable def K18_prr (cal : Cal) (k : Nat) : KR := (cutK (Lv.b (Lv.b (A 18))).c (codeE P cal (codeF P cal k) none 18 (cR (cR (cR code18))) (Lv.b (Lv.b (Lv.b (A 18)))) (doneK P results18) X0 (doneK P results18)))
noncomputable def K18_prrl (cal : Cal) (k : Nat) : KR := (cutK (Lv.a (Lv.b (Lv.b (A 18)))).c (codeE P cal (codeF P cal k) none 18 (cR (cL (cR (cR code18)))) (Lv.b (Lv.a (Lv.b (Lv.b (A 18))))) (K18_prr cal k) X0 (doneK P results18)))
noncomputable def K18_pxrrlr (cal : Cal) (k : Nat) : XR := (upX 0 (K18_prr cal k) X0)
noncomputable def K18_prrlrl (cal : Cal) (k : Nat) (m1 : Nat) : KR := (fun T H n D => codeF P cal m1 (Lv.a (Lv.b (Lv.a (Lv.b (Lv.b (A 18)))))) none 18 (cL (cR (cL (cR (cR code18))))) (K18_prr cal k) (K18_pxrrlr cal k) (doneK P results18) (cutT (Lv.a (Lv.b (Lv.a (Lv.b (Lv.b (A 18)))))).c T) H n D)
noncomputable def K18_prrlrll (cal : Cal) (k : Nat) (m1 : Nat) : KR := (cutK (Lv.a (Lv.a (Lv.b (Lv.a (Lv.b (Lv.b (A 18))))))).c (codeE P cal (codeF P cal m1) none 18 (cR (cL (cL (cR (cL (cR (cR code18))))))) (Lv.b (Lv.a (Lv.a (Lv.b (Lv.a (Lv.b (Lv.b (A 18)))))))) (K18_prrlrl cal k m1) (K18_pxrrlr cal k) (doneK P results18)))
noncomputable def K18_prrlrlll (cal : Cal) (k : Nat) (m1 : Nat) : KR := (cutK (Lv.a (Lv.a (Lv.a (Lv.b (Lv.a (Lv.b (Lv.b (A 18)))))))).c (codeE P cal (codeF P cal m1) none 18 (cR (cL (cL (cL (cR (cL (cR (cR code18)))))))) (Lv.b (Lv.a (Lv.a (Lv.a (Lv.b (Lv.a (Lv.b (Lv.b (A 18))))))))) (K18_prrlrll cal k m1) (K18_pxrrlr cal k) (doneK P results18)))
noncomputable def K18_prrlrllr (cal : Cal) (k : Nat) (m1 : Nat) : KR := (cutK (Lv.b (Lv.a (Lv.a (Lv.b (Lv.a (Lv.b (Lv.b (A 18)))))))).c (codeE P cal (codeF P cal m1) none 18 (cR (cR (cL (cL (cR (cL (cR (cR code18)))))))) (Lv.b (Lv.b (Lv.a (Lv.a (Lv.b (Lv.a (Lv.b (Lv.b (A 18))))))))) (K18_prrlrl cal k m1) (K18_pxrrlr cal k) (doneK P results18)))
noncomputable def K18_pxrrlrllrl (cal : Cal) (k : Nat) (m1 : Nat) : XR := (upX 1 (K18_prrlrllr cal k m1) (K18_pxrrlr cal k))
noncomputable def K18_prrr (cal : Cal) (k : Nat) : KR := (cutK (Lv.b (Lv.b (Lv.b (A 18)))).c (codeE P cal (codeF P cal k) none 18 (cR (cR (cR (cR code18)))) (Lv.b (Lv.b (Lv.b (Lv.b (A 18))))) (doneK P results18) X0 (doneK P results18)))
noncomputable def K18_prrrl (cal : Cal) (k : Nat) : KR := (cutK (Lv.a (Lv.b (Lv.b (Lv.b (A 18))))).c (codeE P cal (codeF P cal k) none 18 (cR (cL (cR (cR (cR code18))))) (Lv.b (Lv.a (Lv.b (Lv.b (Lv.b (A 18)))))) (K18_prrr cal k) X0 (doneK P results18)))
noncomputable def K18_pxrrrlr (cal : Cal) (k : Nat) : XR := (upX 2 (K18_prrr cal k) X0)
noncomputable def K18_prrrlrl (cal : Cal) (k : Nat) (m1 : Nat) : KR := (fun T H n D => codeF P cal m1 (Lv.a (Lv.b (Lv.a (Lv.b (Lv.b (Lv.b (A 18))))))) none 18 (cL (cR (cL (cR (cR (cR code18)))))) (K18_prrr cal k) (K18_pxrrrlr cal k) (doneK P results18) (cutT (Lv.a (Lv.b (Lv.a (Lv.b (Lv.b (Lv.b (A 18))))))).c T) H n D)
noncomputable def K18_prrrlrll (cal : Cal) (k : Nat) (m1 : Nat) : KR := (cutK (Lv.a (Lv.a (Lv.b (Lv.a (Lv.b (Lv.b (Lv.b (A 18)))))))).c (codeE P cal (codeF P cal m1) none 18 (cR (cL (cL (cR (cL (cR (cR (cR code18)))))))) (Lv.b (Lv.a (Lv.a (Lv.b (Lv.a (Lv.b (Lv.b (Lv.b (A 18))))))))) (K18_prrrlrl cal k m1) (K18_pxrrrlr cal k) (doneK P results18)))
noncomputable def K18_prrrlrlll (cal : Cal) (k : Nat) (m1 : Nat) : KR := (cutK (Lv.a (Lv.a (Lv.a (Lv.b (Lv.a (Lv.b (Lv.b (Lv.b (A 18))))))))).c (codeE P cal (codeF P cal m1) none 18 (cR (cL (cL (cL (cR (cL (cR (cR (cR code18))))))))) (Lv.b (Lv.a (Lv.a (Lv.a (Lv.b (Lv.a (Lv.b (Lv.b (Lv.b (A 18)))))))))) (K18_prrrlrll cal k m1) (K18_pxrrrlr cal k) (doneK P results18)))
noncomputable def K18_prrrlrllr (cal : Cal) (k : Nat) (m1 : Nat) : KR := (cutK (Lv.b (Lv.a (Lv.a (Lv.b (Lv.a (Lv.b (Lv.b (Lv.b (A 18))))))))).c (codeE P cal (codeF P cal m1) none 18 (cR (cR (cL (cL (cR (cL (cR (cR (cR code18))))))))) (Lv.b (Lv.b (Lv.a (Lv.a (Lv.b (Lv.a (Lv.b (Lv.b (Lv.b (A 18)))))))))) (K18_prrrlrl cal k m1) (K18_pxrrrlr cal k) (doneK P results18)))
noncomputable def K18_pxrrrlrllrl (cal : Cal) (k : Nat) (m1 : Nat) : XR := (upX 3 (K18_prrrlrllr cal k m1) (K18_pxrrrlr cal k))
noncomputable def K18_prrrr (cal : Cal) (k : Nat) : KR := (cutK (Lv.b (Lv.b (Lv.b (Lv.b (A 18))))).c (codeE P cal (codeF P cal k) none 18 (cR (cR (cR (cR (cR code18))))) (Lv.b (Lv.b (Lv.b (Lv.b (Lv.b (A 18)))))) (doneK P results18) X0 (doneK P results18)))
noncomputable def K18_prrrrl (cal : Cal) (k : Nat) : KR := (cutK (Lv.a (Lv.b (Lv.b (Lv.b (Lv.b (A 18)))))).c (codeE P cal (codeF P cal k) none 18 (cR (cL (cR (cR (cR (cR code18)))))) (Lv.b (Lv.a (Lv.b (Lv.b (Lv.b (Lv.b (A 18))))))) (K18_prrrr cal k) X0 (doneK P results18)))
noncomputable def K18_pxrrrrlr (cal : Cal) (k : Nat) : XR := (upX 4 (K18_prrrr cal k) X0)
noncomputable def K18_prrrrlrl (cal : Cal) (k : Nat) (m1 : Nat) : KR := (fun T H n D => codeF P cal m1 (Lv.a (Lv.b (Lv.a (Lv.b (Lv.b (Lv.b (Lv.b (A 18)))))))) none 18 (cL (cR (cL (cR (cR (cR (cR code18))))))) (K18_prrrr cal k) (K18_pxrrrrlr cal k) (doneK P results18) (cutT (Lv.a (Lv.b (Lv.a (Lv.b (Lv.b (Lv.b (Lv.b (A 18)))))))).c T) H n D)
noncomputable def K18_prrrrlrll (cal : Cal) (k : Nat) (m1 : Nat) : KR := (cutK (Lv.a (Lv.a (Lv.b (Lv.a (Lv.b (Lv.b (Lv.b (Lv.b (A 18))))))))).c (codeE P cal (codeF P cal m1) none 18 (cR (cL (cL (cR (cL (cR (cR (cR (cR code18))))))))) (Lv.b (Lv.a (Lv.a (Lv.b (Lv.a (Lv.b (Lv.b (Lv.b (Lv.b (A 18)))))))))) (K18_prrrrlrl cal k m1) (K18_pxrrrrlr cal k) (doneK P results18)))
noncomputable def K18_prrrrlrlll (cal : Cal) (k : Nat) (m1 : Nat) : KR := (cutK (Lv.a (Lv.a (Lv.a (Lv.b (Lv.a (Lv.b (Lv.b (Lv.b (Lv.b (A 18)))))))))).c (codeE P cal (codeF P cal m1) none 18 (cR (cL (cL (cL (cR (cL (cR (cR (cR (cR code18)))))))))) (Lv.b (Lv.a (Lv.a (Lv.a (Lv.b (Lv.a (Lv.b (Lv.b (Lv.b (Lv.b (A 18))))))))))) (K18_prrrrlrll cal k m1) (K18_pxrrrrlr cal k) (doneK P results18)))
noncomputable def K18_prrrrlrllr (cal : Cal) (k : Nat) (m1 : Nat) : KR := (cutK (Lv.b (Lv.a (Lv.a (Lv.b (Lv.a (Lv.b (Lv.b (Lv.b (Lv.b (A 18)))))))))).c (codeE P cal (codeF P cal m1) none 18 (cR (cR (cL (cL (cR (cL (cR (cR (cR (cR code18)))))))))) (Lv.b (Lv.b (Lv.a (Lv.a (Lv.b (Lv.a (Lv.b (Lv.b (Lv.b (Lv.b (A 18))))))))))) (K18_prrrrlrl cal k m1) (K18_pxrrrrlr cal k) (doneK P results18)))
noncomputable def K18_pxrrrrlrllrl (cal : Cal) (k : Nat) (m1 : Nat) : XR := (upX 5 (K18_prrrrlrllr cal k m1) (K18_pxrrrrlr cal k))
noncomputable def K18_prrrrlrllrll (cal : Cal) (k : Nat) (m1 : Nat) : KR := (cutK (Lv.a (Lv.a (Lv.b (Lv.a (Lv.a (Lv.b (Lv.a (Lv.b (Lv.b (Lv.b (Lv.b (A 18)))))))))))).c (codeE P cal (codeF P cal m1) none 18 (cR (cL (cL (cR (cL (cL (cR (cL (cR (cR (cR (cR code18)))))))))))) (Lv.b (Lv.a (Lv.a (Lv.b (Lv.a (Lv.a (Lv.b (Lv.a (Lv.b (Lv.b (Lv.b (Lv.b (A 18))))))))))))) (K18_prrrrlrllr cal k m1) (K18_pxrrrrlrllrl cal k m1) (doneK P results18)))
noncomputable def K18_prrrrr (cal : Cal) (k : Nat) : KR := (cutK (Lv.b (Lv.b (Lv.b (Lv.b (Lv.b (A 18)))))).c (codeE P cal (codeF P cal k) none 18 (cR (cR (cR (cR (cR (cR code18)))))) (Lv.b (Lv.b (Lv.b (Lv.b (Lv.b (Lv.b (A 18))))))) (doneK P results18) X0 (doneK P results18)))
noncomputable def E18_3 (cal : Cal) (k m1 : Nat) : KR := codeE P cal (codeF P cal m1) none 18 (cL (cL (cR (cL (cR (cR (cR (cR code18)))))))) (Lv.a (Lv.a (Lv.b (Lv.a (Lv.b (Lv.b (Lv.b (Lv.b (A 18))))))))) (K18_prrrrlrl cal k m1) (K18_pxrrrrlr cal k) (doneK P results18)
noncomputable def R18_3 (cal : Cal) (k m1 : Nat) : V4 := fun u1 u2 u3 u6 H n => codeF P cal m1 (Lv.a (Lv.b (Lv.a (Lv.b (Lv.b (Lv.b (Lv.b (A 18)))))))) none 18 (cL (cR (cL (cR (cR (cR (cR code18))))))) (K18_prrrr cal k) (K18_pxrrrrlr cal k) (doneK P results18) (Tr.set (Tr.set (Tr.set (Tr.set Tr.nil 6 (some u6)) 3 (some u3)) 2 (some u2)) 1 (some u1)) H n []
noncomputable def E18_2 (cal : Cal) (k m1 : Nat) : KR := codeE P cal (codeF P cal m1) none 18 (cL (cL (cR (cL (cR (cR (cR code18))))))) (Lv.a (Lv.a (Lv.b (Lv.a (Lv.b (Lv.b (Lv.b (A 18)))))))) (K18_prrrlrl cal k m1) (K18_pxrrrlr cal k) (doneK P results18)
noncomputable def R18_2 (cal : Cal) (k m1 : Nat) : V4 := fun u1 u2 u3 u5 H n => codeF P cal m1 (Lv.a (Lv.b (Lv.a (Lv.b (Lv.b (Lv.b (A 18))))))) none 18 (cL (cR (cL (cR (cR (cR code18)))))) (K18_prrr cal k) (K18_pxrrrlr cal k) (doneK P results18) (Tr.set (Tr.set (Tr.set (Tr.set Tr.nil 5 (some u5)) 3 (some u3)) 2 (some u2)) 1 (some u1)) H n []
noncomputable def E18_1 (cal : Cal) (k m1 : Nat) : KR := codeE P cal (codeF P cal m1) none 18 (cL (cL (cR (cL (cR (cR code18)))))) (Lv.a (Lv.a (Lv.b (Lv.a (Lv.b (Lv.b (A 18))))))) (K18_prrlrl cal k m1) (K18_pxrrlr cal k) (doneK P results18)
noncomputable def R18_1 (cal : Cal) (k m1 : Nat) : V4 := fun u1 u2 u3 u4 H n => codeF P cal m1 (Lv.a (Lv.b (Lv.a (Lv.b (Lv.b (A 18)))))) none 18 (cL (cR (cL (cR (cR code18))))) (K18_prr cal k) (K18_pxrrlr cal k) (doneK P results18) (Tr.set (Tr.set (Tr.set (Tr.set Tr.nil 4 (some u4)) 3 (some u3)) 2 (some u2)) 1 (some u1)) H n []
noncomputable def B18_3 (cal : Cal) (k m1 : Nat) (b3 : V4) (u1 u2 u3 u6 : Value) (H : Hp) (n : Nat) : Res :=
bindO (fieldAddrV P 26 u1 2) fun v_2i =>
bindO (addrV v_2i) fun a_2k => bindO (loadV P H 24 a_2k) fun v_2j =>
bindO (lenV P 24 v_2j) fun v_2l =>
binK P .lss 3 (.tmp 58) (.tmp 61) u6 v_2l fun v_2m =>
ifK v_2m (
bindO (fieldAddrV P 26 u1 2) fun v_2n =>
bindO (addrV v_2n) fun a_2p => bindO (loadV P H 24 a_2p) fun v_2o =>
bindO (indexAddrV P 24 v_2o u6) fun v_2r =>
bindO (addrV v_2r) fun a_2t => bindO (loadV P H 94 a_2t) fun v_2s =>
allocK P 94 H n fun v_2u H_2v n_2w =>
bindO (storeP P 94 v_2u v_2s H_2v) fun H_2y =>
bindO (fieldAddrV P 35 u3 2) fun v_2z =>
bindO (addrV v_2z) fun a_30 => bindO (loadV P H_2y 33 a_30) fun v_31 =>
bindO (fieldAddrV P 94 v_2u 0) fun v_32 =>
bindO (addrV v_32) fun a_33 => bindO (loadV P H_2y 3 a_33) fun v_34 =>
bindO (fieldAddrV P 94 v_2u 1) fun v_35 =>
bindO (addrV v_35) fun a_36 => bindO (loadV P H_2y 55 a_36) fun v_37 =>
bindO (fieldAddrV P 94 v_2u 2) fun v_38 =>
bindO (addrV v_38) fun a_39 => bindO (loadV P H_2y 55 a_39) fun v_3a =>
effK P [(.l 55 a_39), (.l 3 a_33), (.l 33 a_30)] H_2y n_2w (fun H_3b n_3c k_3d =>
callFK P cal 26 [v_37] H_3b n_3c fun v_3h H_3i n_3j =>
k_3d v_3h H_3i n_3j) fun v_3e H_3f n_3g =>
effK P [(.l 3 a_33), (.l 33 a_30)] H_3f n_3g (fun H_3k n_3l k_3m =>
callFK P cal 26 [v_3a] H_3k n_3l fun v_3q H_3r n_3s =>
k_3m v_3q H_3r n_3s) fun v_3n H_3o n_3p =>
bindO (buildP P 86 [(0, v_34), (1, v_3e), (2, v_3n)]) fun v_3t =>
bindO (rowOf P 33 1 [(0, v_3t)]) fun q_3w => newK q_3w.1 q_3w.2 H_3o n_3p fun H_3u n_3v =>
stK (appendV P (bare H_3u n_3v) 33 33 v_31 (.slice (some ⟨n_3p, 0, none⟩) 1 1)) fun v_3x H_3y n_3z =>
bindO (fieldAddrV P 35 u3 2) fun v_40 =>
bindO (storeP P 33 v_40 v_3x H_3y) fun H_42 =>
binK P .add 3 (.tmp 63) (.const (.int .i64 1)) u6 (.int .i64 1) fun v_44 =>
b3 u1 u2 u3 v_44 H_42 n_3z) (
bindO (addrV u3) fun a_47 => bindO (loadV P H 35 a_47) fun v_46 =>
bindO (storeP P 35 u2 v_46 H) fun H_49 =>
bindO (resV P (Tr.set Tr.nil 2 (some u2)) H_49 results18) fun v_4a => some (oneV v_4a, H_49, n))
noncomputable def C18_3 (cal : Cal) (k m1 : Nat) (b3 : V4) (u1 u2 u3 u6 : Value) (H : Hp) (n : Nat) : Res := B18_3 cal k m1 b3 u1 u2 u3 u6 H n
noncomputable def S18_3 (cal : Cal) (k : Nat) : Nat → V4 := fun m => Nat.rec (motive := fun _ => V4) (C18_3 cal k 0 (fun _ _ _ _ _ _ => none)) (fun m ih => C18_3 cal k (m + 1) ih) m
theorem h18_3 (cal : Cal) (k m1 : Nat) (u1 u2 u3 u6 : Value) (H : Hp) (n : Nat) : labK (E18_3 cal k m1) (Tr.set (Tr.set (Tr.set (Tr.set Tr.nil 6 (some u6)) 3 (some u3)) 2 (some u2)) 1 (some u1)) H n [] = C18_3 cal k m1 (R18_3 cal k m1) u1 u2 u3 u6 H n := by
  refine Eq.trans (b := B18_3 cal k m1 (R18_3 cal k m1) u1 u2 u3 u6 H n) (by kernel_rfl) ?_
  rw [C18_3]
theorem q18_3 (cal : Cal) (k : Nat) : ∀ (m : Nat) (u1 u2 u3 u6 : Value) (H : Hp) (n : Nat), labK (E18_3 cal k m) (Tr.set (Tr.set (Tr.set (Tr.set Tr.nil 6 (some u6)) 3 (some u3)) 2 (some u2)) 1 (some u1)) H n [] = S18_3 cal k m u1 u2 u3 u6 H n
  | 0, u1, u2, u3, u6, H, n => by
    rw [h18_3]
    have e : R18_3 cal k 0 = fun _ _ _ _ _ _ => none := by funext u1 u2 u3 u6 H n; kernel_rfl
    rw [e]; rfl
  | m + 1, u1, u2, u3, u6, H, n => by
    rw [h18_3]
    have e : R18_3 cal k (m + 1) = S18_3 cal k m := by
      funext u1 u2 u3 u6 H n
      have e : R18_3 cal k (m + 1) u1 u2 u3 u6 H n = labK (E18_3 cal k m) (Tr.set (Tr.set (Tr.set (Tr.set Tr.nil 6 (some u6)) 3 (some u3)) 2 (some u2)) 1 (some u1)) H n [] := by kernel_rfl
      rw [e]; exact q18_3 ..
    rw [e]; rfl
noncomputable def B18_2 (cal : Cal) (k m1 : Nat) (j3 : V4) (b2 : V4) (u1 u2 u3 u5 : Value) (H : Hp) (n : Nat) : Res :=
bindO (fieldAddrV P 26 u1 1) fun v_1f =>
bindO (addrV v_1f) fun a_1h => bindO (loadV P H 23 a_1h) fun v_1g =>
bindO (lenV P 23 v_1g) fun v_1i =>
binK P .lss 3 (.tmp 33) (.tmp 36) u5 v_1i fun v_1j =>
ifK v_1j (
bindO (fieldAddrV P 35 u3 1) fun v_1k =>
bindO (addrV v_1k) fun a_1l => bindO (loadV P H 32 a_1l) fun v_1m =>
bindO (fieldAddrV P 26 u1 1) fun v_1n =>
bindO (addrV v_1n) fun a_1o => bindO (loadV P H 23 a_1o) fun v_1p =>
bindO (indexAddrV P 23 v_1p u5) fun v_1r =>
bindO (fieldAddrV P 104 v_1r 0) fun v_1s =>
bindO (addrV v_1s) fun a_1t => bindO (loadV P H 3 a_1t) fun v_1u =>
bindO (fieldAddrV P 26 u1 1) fun v_1v =>
bindO (addrV v_1v) fun a_1w => bindO (loadV P H 23 a_1w) fun v_1x =>
bindO (indexAddrV P 23 v_1x u5) fun v_1z =>
bindO (fieldAddrV P 104 v_1z 1) fun v_20 =>
bindO (addrV v_20) fun a_21 => bindO (loadV P H 3 a_21) fun v_22 =>
bindO (buildP P 88 [(0, v_1u), (1, v_22)]) fun v_23 =>
bindO (rowOf P 32 1 [(0, v_23)]) fun q_26 => newK q_26.1 q_26.2 H n fun H_24 n_25 =>
stK (appendV P (bare H_24 n_25) 32 32 v_1m (.slice (some ⟨n, 0, none⟩) 1 1)) fun v_27 H_28 n_29 =>
bindO (fieldAddrV P 35 u3 1) fun v_2a =>
bindO (storeP P 32 v_2a v_27 H_28) fun H_2c =>
binK P .add 3 (.tmp 38) (.const (.int .i64 1)) u5 (.int .i64 1) fun v_2e =>
b2 u1 u2 u3 v_2e H_2c n_29) (
j3 u1 u2 u3 (.int .i64 0) H n)
noncomputable def C18_2 (cal : Cal) (k m1 : Nat) (b2 : V4) (u1 u2 u3 u5 : Value) (H : Hp) (n : Nat) : Res := B18_2 cal k m1 (S18_3 cal k k) b2 u1 u2 u3 u5 H n
noncomputable def S18_2 (cal : Cal) (k : Nat) : Nat → V4 := fun m => Nat.rec (motive := fun _ => V4) (C18_2 cal k 0 (fun _ _ _ _ _ _ => none)) (fun m ih => C18_2 cal k (m + 1) ih) m
theorem h18_2 (cal : Cal) (k m1 : Nat) (u1 u2 u3 u5 : Value) (H : Hp) (n : Nat) : labK (E18_2 cal k m1) (Tr.set (Tr.set (Tr.set (Tr.set Tr.nil 5 (some u5)) 3 (some u3)) 2 (some u2)) 1 (some u1)) H n [] = C18_2 cal k m1 (R18_2 cal k m1) u1 u2 u3 u5 H n := by
  refine Eq.trans (b := B18_2 cal k m1 (fun u1 u2 u3 u6 H n => labK (E18_3 cal k k) (Tr.set (Tr.set (Tr.set (Tr.set Tr.nil 6 (some u6)) 3 (some u3)) 2 (some u2)) 1 (some u1)) H n []) (R18_2 cal k m1) u1 u2 u3 u5 H n) (by kernel_rfl) ?_
  rw [C18_2]
  have e3 : (fun u1 u2 u3 u6 H n => labK (E18_3 cal k k) (Tr.set (Tr.set (Tr.set (Tr.set Tr.nil 6 (some u6)) 3 (some u3)) 2 (some u2)) 1 (some u1)) H n []) = (S18_3 cal k k) := by funext u1 u2 u3 u6 H n; exact q18_3 ..
  rw [e3]
theorem q18_2 (cal : Cal) (k : Nat) : ∀ (m : Nat) (u1 u2 u3 u5 : Value) (H : Hp) (n : Nat), labK (E18_2 cal k m) (Tr.set (Tr.set (Tr.set (Tr.set Tr.nil 5 (some u5)) 3 (some u3)) 2 (some u2)) 1 (some u1)) H n [] = S18_2 cal k m u1 u2 u3 u5 H n
  | 0, u1, u2, u3, u5, H, n => by
    rw [h18_2]
    have e : R18_2 cal k 0 = fun _ _ _ _ _ _ => none := by funext u1 u2 u3 u5 H n; kernel_rfl
    rw [e]; rfl
  | m + 1, u1, u2, u3, u5, H, n => by
    rw [h18_2]
    have e : R18_2 cal k (m + 1) = S18_2 cal k m := by
      funext u1 u2 u3 u5 H n
      have e : R18_2 cal k (m + 1) u1 u2 u3 u5 H n = labK (E18_2 cal k m) (Tr.set (Tr.set (Tr.set (Tr.set Tr.nil 5 (some u5)) 3 (some u3)) 2 (some u2)) 1 (some u1)) H n [] := by kernel_rfl
      rw [e]; exact q18_2 ..
    rw [e]; rfl
noncomputable def B18_1 (cal : Cal) (k m1 : Nat) (j2 : V4) (b1 : V4) (u1 u2 u3 u4 : Value) (H : Hp) (n : Nat) : Res :=
bindO (fieldAddrV P 26 u1 0) fun v_c =>
bindO (addrV v_c) fun a_e => bindO (loadV P H 22 a_e) fun v_d =>
bindO (lenV P 22 v_d) fun v_f =>
binK P .lss 3 (.tmp 8) (.tmp 11) u4 v_f fun v_g =>
ifK v_g (
bindO (fieldAddrV P 35 u3 0) fun v_h =>
bindO (addrV v_h) fun a_i => bindO (loadV P H 31 a_i) fun v_j =>
bindO (fieldAddrV P 26 u1 0) fun v_k =>
bindO (addrV v_k) fun a_l => bindO (loadV P H 22 a_l) fun v_m =>
bindO (indexAddrV P 22 v_m u4) fun v_o =>
bindO (fieldAddrV P 95 v_o 0) fun v_p =>
bindO (addrV v_p) fun a_q => bindO (loadV P H 3 a_q) fun v_r =>
bindO (fieldAddrV P 26 u1 0) fun v_s =>
bindO (addrV v_s) fun a_t => bindO (loadV P H 22 a_t) fun v_u =>
bindO (indexAddrV P 22 v_u u4) fun v_w =>
bindO (fieldAddrV P 95 v_w 1) fun v_x =>
bindO (addrV v_x) fun a_y => bindO (loadV P H 3 a_y) fun v_z =>
bindO (buildP P 90 [(0, v_r), (1, v_z)]) fun v_10 =>
bindO (rowOf P 31 1 [(0, v_10)]) fun q_13 => newK q_13.1 q_13.2 H n fun H_11 n_12 =>
stK (appendV P (bare H_11 n_12) 31 31 v_j (.slice (some ⟨n, 0, none⟩) 1 1)) fun v_14 H_15 n_16 =>
bindO (fieldAddrV P 35 u3 0) fun v_17 =>
bindO (storeP P 31 v_17 v_14 H_15) fun H_19 =>
binK P .add 3 (.tmp 13) (.const (.int .i64 1)) u4 (.int .i64 1) fun v_1b =>
b1 u1 u2 u3 v_1b H_19 n_16) (
j2 u1 u2 u3 (.int .i64 0) H n)
noncomputable def C18_1 (cal : Cal) (k m1 : Nat) (b1 : V4) (u1 u2 u3 u4 : Value) (H : Hp) (n : Nat) : Res := B18_1 cal k m1 (S18_2 cal k k) b1 u1 u2 u3 u4 H n
noncomputable def S18_1 (cal : Cal) (k : Nat) : Nat → V4 := fun m => Nat.rec (motive := fun _ => V4) (C18_1 cal k 0 (fun _ _ _ _ _ _ => none)) (fun m ih => C18_1 cal k (m + 1) ih) m
theorem h18_1 (cal : Cal) (k m1 : Nat) (u1 u2 u3 u4 : Value) (H : Hp) (n : Nat) : labK (E18_1 cal k m1) (Tr.set (Tr.set (Tr.set (Tr.set Tr.nil 4 (some u4)) 3 (some u3)) 2 (some u2)) 1 (some u1)) H n [] = C18_1 cal k m1 (R18_1 cal k m1) u1 u2 u3 u4 H n := by
  refine Eq.trans (b := B18_1 cal k m1 (fun u1 u2 u3 u5 H n => labK (E18_2 cal k k) (Tr.set (Tr.set (Tr.set (Tr.set Tr.nil 5 (some u5)) 3 (some u3)) 2 (some u2)) 1 (some u1)) H n []) (R18_1 cal k m1) u1 u2 u3 u4 H n) (by kernel_rfl) ?_
  rw [C18_1]
  have e2 : (fun u1 u2 u3 u5 H n => labK (E18_2 cal k k) (Tr.set (Tr.set (Tr.set (Tr.set Tr.nil 5 (some u5)) 3 (some u3)) 2 (some u2)) 1 (some u1)) H n []) = (S18_2 cal k k) := by funext u1 u2 u3 u5 H n; exact q18_2 ..
  rw [e2]
theorem q18_1 (cal : Cal) (k : Nat) : ∀ (m : Nat) (u1 u2 u3 u4 : Value) (H : Hp) (n : Nat), labK (E18_1 cal k m) (Tr.set (Tr.set (Tr.set (Tr.set Tr.nil 4 (some u4)) 3 (some u3)) 2 (some u2)) 1 (some u1)) H n [] = S18_1 cal k m u1 u2 u3 u4 H n
  | 0, u1, u2, u3, u4, H, n => by
    rw [h18_1]
    have e : R18_1 cal k 0 = fun _ _ _ _ _ _ => none := by funext u1 u2 u3 u4 H n; kernel_rfl
    rw [e]; rfl
  | m + 1, u1, u2, u3, u4, H, n => by
    rw [h18_1]
    have e : R18_1 cal k (m + 1) = S18_1 cal k m := by
      funext u1 u2 u3 u4 H n
      have e : R18_1 cal k (m + 1) u1 u2 u3 u4 H n = labK (E18_1 cal k m) (Tr.set (Tr.set (Tr.set (Tr.set Tr.nil 4 (some u4)) 3 (some u3)) 2 (some u2)) 1 (some u1)) H n [] := by kernel_rfl
      rw [e]; exact q18_1 ..
    rw [e]; rfl
noncomputable def B18_0 (cal : Cal) (k : Nat) (j1 : V4) (v0 : Value) (H : Hp) (n : Nat) : Res :=
boxK 26 v0 H n fun v_1 H_2 n_3 =>
allocK P 35 H_2 n_3 fun v_4 H_5 n_6 =>
allocK P 35 H_5 n_6 fun v_7 H_8 n_9 =>
j1 v_1 v_4 v_7 (.int .i64 0) H_8 n_9
noncomputable def C18_0 (cal : Cal) (k : Nat) (v0 : Value) (H : Hp) (n : Nat) : Res := B18_0 cal k (S18_1 cal k k) v0 H n
theorem h18_0 (cal : Cal) (k : Nat) (v0 : Value) (H : Hp) (n : Nat) : bodyE P cal A (k + 1) 18 [v0] H n = C18_0 cal k v0 H n := by
  have h : bodyE P cal A (k + 1) 18 [v0] H n = B18_0 cal k (fun u1 u2 u3 u4 H n => labK (E18_1 cal k k) (Tr.set (Tr.set (Tr.set (Tr.set Tr.nil 4 (some u4)) 3 (some u3)) 2 (some u2)) 1 (some u1)) H n []) v0 H n := by
    rw [body_eq (fn := Go.Proofs.Try.f18) (c := code18) (rs := results18) (by kernel_rfl) (by kernel_rfl) (by kernel_rfl) (by kernel_rfl)]
    kernel_rfl
  rw [h, C18_0]
  have e1 : (fun u1 u2 u3 u4 H n => labK (E18_1 cal k k) (Tr.set (Tr.set (Tr.set (Tr.set Tr.nil 4 (some u4)) 3 (some u3)) 2 (some u2)) 1 (some u1)) H n []) = (S18_1 cal k k) := by funext u1 u2 u3 u4 H n; exact q18_1 ..
  rw [e1]
noncomputable def code20 : Code := codeOf 20
noncomputable def results20 : List ResultVar := resOf 20
noncomputable def K20_p (cal : Cal) (k : Nat) : KR := (cutK (A 20).c (codeE P cal (codeF P cal k) none 20 (cR code20) (Lv.b (A 20)) (doneK P results20) X0 (doneK P results20)))
noncomputable def K20_pr (cal : Cal) (k : Nat) : KR := (cutK (Lv.b (A 20)).c (codeE P cal (codeF P cal k) none 20 (cR (cR code20)) (Lv.b (Lv.b (A 20))) (doneK P results20) X0 (doneK P results20)))
noncomputable def B20_0 (cal : Cal) (k : Nat) (v0 : Value) (H : Hp) (n : Nat) : Res :=
boxK 26 v0 H n fun v_1 H_2 n_3 =>
bindO (addrV v_1) fun a_6 => bindO (loadV P H_2 26 a_6) fun v_5 =>
callFK P cal 63 [v_5] H_2 n_3 fun v_7 H_8 n_9 =>
some (v_7, H_8, n_9)
noncomputable def C20_0 (cal : Cal) (k : Nat) (v0 : Value) (H : Hp) (n : Nat) : Res := B20_0 cal k v0 H n
theorem h20_0 (cal : Cal) (k : Nat) (v0 : Value) (H : Hp) (n : Nat) : bodyE P cal A (k + 1) 20 [v0] H n = C20_0 cal k v0 H n := by
  have h : bodyE P cal A (k + 1) 20 [v0] H n = B20_0 cal k v0 H n := by
    rw [body_eq (fn := Go.Proofs.Try.f20) (c := code20) (rs := results20) (by kernel_rfl) (by kernel_rfl) (by kernel_rfl) (by kernel_rfl)]
    kernel_rfl
  rw [h, C20_0]
noncomputable def code21 : Code := codeOf 21
noncomputable def results21 : List ResultVar := resOf 21
noncomputable def K21_p (cal : Cal) (k : Nat) : KR := (cutK (A 21).c (codeE P cal (codeF P cal k) none 21 (cR code21) (Lv.b (A 21)) (doneK P results21) X0 (doneK P results21)))
noncomputable def K21_pr (cal : Cal) (k : Nat) : KR := (cutK (Lv.b (A 21)).c (codeE P cal (codeF P cal k) none 21 (cR (cR code21)) (Lv.b (Lv.b (A 21))) (doneK P results21) X0 (doneK P results21)))
noncomputable def K21_prl (cal : Cal) (k : Nat) : KR := (cutK (Lv.a (Lv.b (A 21))).c (codeE P cal (codeF P cal k) none 21 (cR (cL (cR code21))) (Lv.b (Lv.a (Lv.b (A 21)))) (K21_pr cal k) X0 (doneK P results21)))
noncomputable def K21_pxrlr (cal : Cal) (k : Nat) : XR := (upX 0 (K21_pr cal k) X0)
noncomputable def K21_prlrl (cal : Cal) (k : Nat) (m1 : Nat) : KR := (fun T H n D => codeF P cal m1 (Lv.a (Lv.b (Lv.a (Lv.b (A 21))))) none 21 (cL (cR (cL (cR code21)))) (K21_pr cal k) (K21_pxrlr cal k) (doneK P results21) (cutT (Lv.a (Lv.b (Lv.a (Lv.b (A 21))))).c T) H n D)
noncomputable def K21_prlrll (cal : Cal) (k : Nat) (m1 : Nat) : KR := (cutK (Lv.a (Lv.a (Lv.b (Lv.a (Lv.b (A 21)))))).c (codeE P cal (codeF P cal m1) none 21 (cR (cL (cL (cR (cL (cR code21)))))) (Lv.b (Lv.a (Lv.a (Lv.b (Lv.a (Lv.b (A 21))))))) (K21_prlrl cal k m1) (K21_pxrlr cal k) (doneK P results21)))
noncomputable def K21_prlrlll (cal : Cal) (k : Nat) (m1 : Nat) : KR := (cutK (Lv.a (Lv.a (Lv.a (Lv.b (Lv.a (Lv.b (A 21))))))).c (codeE P cal (codeF P cal m1) none 21 (cR (cL (cL (cL (cR (cL (cR code21))))))) (Lv.b (Lv.a (Lv.a (Lv.a (Lv.b (Lv.a (Lv.b (A 21)))))))) (K21_prlrll cal k m1) (K21_pxrlr cal k) (doneK P results21)))
noncomputable def K21_prlrllr (cal : Cal) (k : Nat) (m1 : Nat) : KR := (cutK (Lv.b (Lv.a (Lv.a (Lv.b (Lv.a (Lv.b (A 21))))))).c (codeE P cal (codeF P cal m1) none 21 (cR (cR (cL (cL (cR (cL (cR code21))))))) (Lv.b (Lv.b (Lv.a (Lv.a (Lv.b (Lv.a (Lv.b (A 21)))))))) (K21_prlrl cal k m1) (K21_pxrlr cal k) (doneK P results21)))
noncomputable def K21_pxrlrllrl (cal : Cal) (k : Nat) (m1 : Nat) : XR := (upX 1 (K21_prlrllr cal k m1) (K21_pxrlr cal k))
noncomputable def K21_prlrllrll (cal : Cal) (k : Nat) (m1 : Nat) : KR := (cutK (Lv.a (Lv.a (Lv.b (Lv.a (Lv.a (Lv.b (Lv.a (Lv.b (A 21))))))))).c (codeE P cal (codeF P cal m1) none 21 (cR (cL (cL (cR (cL (cL (cR (cL (cR code21))))))))) (Lv.b (Lv.a (Lv.a (Lv.b (Lv.a (Lv.a (Lv.b (Lv.a (Lv.b (A 21)))))))))) (K21_prlrllr cal k m1) (K21_pxrlrllrl cal k m1) (doneK P results21)))
noncomputable def K21_prlrllrllrl (cal : Cal) (k : Nat) (m1 : Nat) : KR := (cutK (Lv.a (Lv.b (Lv.a (Lv.a (Lv.b (Lv.a (Lv.a (Lv.b (Lv.a (Lv.b (A 21))))))))))).c (codeE P cal (codeF P cal m1) none 21 (cR (cL (cR (cL (cL (cR (cL (cL (cR (cL (cR code21))))))))))) (Lv.b (Lv.a (Lv.b (Lv.a (Lv.a (Lv.b (Lv.a (Lv.a (Lv.b (Lv.a (Lv.b (A 21)))))))))))) (K21_prlrllr cal k m1) (K21_pxrlrllrl cal k m1) (doneK P results21)))
noncomputable def K21_prr (cal : Cal) (k : Nat) : KR := (cutK (Lv.b (Lv.b (A 21))).c (codeE P cal (codeF P cal k) none 21 (cR (cR (cR code21))) (Lv.b (Lv.b (Lv.b (A 21)))) (doneK P results21) X0 (doneK P results21)))
noncomputable def E21_1 (cal : Cal) (k m1 : Nat) : KR := codeE P cal (codeF P cal m1) none 21 (cL (cL (cR (cL (cR code21))))) (Lv.a (Lv.a (Lv.b (Lv.a (Lv.b (A 21)))))) (K21_prlrl cal k m1) (K21_pxrlr cal k) (doneK P results21)
noncomputable def R21_1 (cal : Cal) (k m1 : Nat) : V4 := fun u1 u2 u3 u7 H n => codeF P cal m1 (Lv.a (Lv.b (Lv.a (Lv.b (A 21))))) none 21 (cL (cR (cL (cR code21)))) (K21_pr cal k) (K21_pxrlr cal k) (doneK P results21) (Tr.set (Tr.set (Tr.set (Tr.set Tr.nil 7 (some u7)) 3 (some u3)) 2 (some u2)) 1 (some u1)) H n []
noncomputable def B21_1 (cal : Cal) (k m1 : Nat) (b1 : V4) (u1 u2 u3 u7 : Value) (H : Hp) (n : Nat) : Res :=
bindO (fieldAddrV P 26 u3 2) fun v_g =>
bindO (addrV v_g) fun a_i => bindO (loadV P H 24 a_i) fun v_h =>
bindO (indexAddrV P 24 v_h u1) fun v_k =>
bindO (fieldAddrV P 94 v_k 1) fun v_l =>
bindO (fieldAddrV P 55 v_l 1) fun v_m =>
bindO (addrV v_m) fun a_o => bindO (loadV P H 3 a_o) fun v_n =>
binK P .leq 3 (.tmp 15) (.tmp 22) u7 v_n fun v_p =>
ifK v_p (
bindO (addrV u3) fun a_r => bindO (loadV P H 26 a_r) fun v_q =>
callFK P cal 64 [v_q, u1, u2, u2, u7] H n fun v_w H_x n_y =>
ifK v_w (
some ((.bool true), H_x, n_y)) (
binK P .add 3 (.tmp 24) (.const (.int .i64 1)) u7 (.int .i64 1) fun v_11 =>
b1 u1 u2 u3 v_11 H_x n_y)) (
some ((.bool false), H, n))
noncomputable def C21_1 (cal : Cal) (k m1 : Nat) (b1 : V4) (u1 u2 u3 u7 : Value) (H : Hp) (n : Nat) : Res := B21_1 cal k m1 b1 u1 u2 u3 u7 H n
noncomputable def S21_1 (cal : Cal) (k : Nat) : Nat → V4 := fun m => Nat.rec (motive := fun _ => V4) (C21_1 cal k 0 (fun _ _ _ _ _ _ => none)) (fun m ih => C21_1 cal k (m + 1) ih) m
theorem h21_1 (cal : Cal) (k m1 : Nat) (u1 u2 u3 u7 : Value) (H : Hp) (n : Nat) : labK (E21_1 cal k m1) (Tr.set (Tr.set (Tr.set (Tr.set Tr.nil 7 (some u7)) 3 (some u3)) 2 (some u2)) 1 (some u1)) H n [] = C21_1 cal k m1 (R21_1 cal k m1) u1 u2 u3 u7 H n := by
  refine Eq.trans (b := B21_1 cal k m1 (R21_1 cal k m1) u1 u2 u3 u7 H n) (by kernel_rfl) ?_
  rw [C21_1]
theorem q21_1 (cal : Cal) (k : Nat) : ∀ (m : Nat) (u1 u2 u3 u7 : Value) (H : Hp) (n : Nat), labK (E21_1 cal k m) (Tr.set (Tr.set (Tr.set (Tr.set Tr.nil 7 (some u7)) 3 (some u3)) 2 (some u2)) 1 (some u1)) H n [] = S21_1 cal k m u1 u2 u3 u7 H n
  | 0, u1, u2, u3, u7, H, n => by
    rw [h21_1]
    have e : R21_1 cal k 0 = fun _ _ _ _ _ _ => none := by funext u1 u2 u3 u7 H n; kernel_rfl
    rw [e]; rfl
  | m + 1, u1, u2, u3, u7, H, n => by
    rw [h21_1]
    have e : R21_1 cal k (m + 1) = S21_1 cal k m := by
      funext u1 u2 u3 u7 H n
      have e : R21_1 cal k (m + 1) u1 u2 u3 u7 H n = labK (E21_1 cal k m) (Tr.set (Tr.set (Tr.set (Tr.set Tr.nil 7 (some u7)) 3 (some u3)) 2 (some u2)) 1 (some u1)) H n [] := by kernel_rfl
      rw [e]; exact q21_1 ..
    rw [e]; rfl
noncomputable def B21_0 (cal : Cal) (k : Nat) (j1 : V4) (v0 v1 v2 : Value) (H : Hp) (n : Nat) : Res :=
boxK 26 v0 H n fun v_1 H_2 n_3 =>
bindO (fieldAddrV P 26 v_1 2) fun v_5 =>
bindO (addrV v_5) fun a_7 => bindO (loadV P H_2 24 a_7) fun v_6 =>
bindO (indexAddrV P 24 v_6 v1) fun v_9 =>
bindO (fieldAddrV P 94 v_9 1) fun v_a =>
bindO (fieldAddrV P 55 v_a 0) fun v_b =>
bindO (addrV v_b) fun a_d => bindO (loadV P H_2 3 a_d) fun v_c =>
j1 v1 v2 v_1 v_c H_2 n_3
noncomputable def C21_0 (cal : Cal) (k : Nat) (v0 v1 v2 : Value) (H : Hp) (n : Nat) : Res := B21_0 cal k (S21_1 cal k k) v0 v1 v2 H n
theorem h21_0 (cal : Cal) (k : Nat) (v0 v1 v2 : Value) (H : Hp) (n : Nat) : bodyE P cal A (k + 1) 21 [v0, v1, v2] H n = C21_0 cal k v0 v1 v2 H n := by
  have h : bodyE P cal A (k + 1) 21 [v0, v1, v2] H n = B21_0 cal k (fun u1 u2 u3 u7 H n => labK (E21_1 cal k k) (Tr.set (Tr.set (Tr.set (Tr.set Tr.nil 7 (some u7)) 3 (some u3)) 2 (some u2)) 1 (some u1)) H n []) v0 v1 v2 H n := by
    rw [body_eq (fn := Go.Proofs.Try.f21) (c := code21) (rs := results21) (by kernel_rfl) (by kernel_rfl) (by kernel_rfl) (by kernel_rfl)]
    kernel_rfl
  rw [h, C21_0]
  have e1 : (fun u1 u2 u3 u7 H n => labK (E21_1 cal k k) (Tr.set (Tr.set (Tr.set (Tr.set Tr.nil 7 (some u7)) 3 (some u3)) 2 (some u2)) 1 (some u1)) H n []) = (S21_1 cal k k) := by funext u1 u2 u3 u7 H n; exact q21_1 ..
  rw [e1]
noncomputable def code23 : Code := codeOf 23
noncomputable def results23 : List ResultVar := resOf 23
noncomputable def K23_p (cal : Cal) (k : Nat) : KR := (cutK (A 23).c (codeE P cal (codeF P cal k) none 23 (cR code23) (Lv.b (A 23)) (doneK P results23) X0 (doneK P results23)))
noncomputable def K23_pr (cal : Cal) (k : Nat) : KR := (cutK (Lv.b (A 23)).c (codeE P cal (codeF P cal k) none 23 (cR (cR code23)) (Lv.b (Lv.b (A 23))) (doneK P results23) X0 (doneK P results23)))
noncomputable def B23_0 (cal : Cal) (k : Nat) (v0 : Value) (H : Hp) (n : Nat) : Res :=
rowK P 44 0 [] H n fun v_2 H_3 n_4 =>
stK (appendV P (bare H_3 n_4) 44 44 v_2 v0) fun v_6 H_7 n_8 =>
some (v_6, H_7, n_8)
noncomputable def C23_0 (cal : Cal) (k : Nat) (v0 : Value) (H : Hp) (n : Nat) : Res := B23_0 cal k v0 H n
theorem h23_0 (cal : Cal) (k : Nat) (v0 : Value) (H : Hp) (n : Nat) : bodyE P cal A (k + 1) 23 [v0] H n = C23_0 cal k v0 H n := by
  have h : bodyE P cal A (k + 1) 23 [v0] H n = B23_0 cal k v0 H n := by
    rw [body_eq (fn := Go.Proofs.Try.f23) (c := code23) (rs := results23) (by kernel_rfl) (by kernel_rfl) (by kernel_rfl) (by kernel_rfl)]
    kernel_rfl
  rw [h, C23_0]
noncomputable def code25 : Code := codeOf 25
noncomputable def results25 : List ResultVar := resOf 25
noncomputable def K25_p (cal : Cal) (k : Nat) : KR := (cutK (A 25).c (codeE P cal (codeF P cal k) none 25 (cR code25) (Lv.b (A 25)) (doneK P results25) X0 (doneK P results25)))
noncomputable def K25_pr (cal : Cal) (k : Nat) : KR := (cutK (Lv.b (A 25)).c (codeE P cal (codeF P cal k) none 25 (cR (cR code25)) (Lv.b (Lv.b (A 25))) (doneK P results25) X0 (doneK P results25)))
noncomputable def K25_prl (cal : Cal) (k : Nat) : KR := (cutK (Lv.a (Lv.b (A 25))).c (codeE P cal (codeF P cal k) none 25 (cR (cL (cR code25))) (Lv.b (Lv.a (Lv.b (A 25)))) (K25_pr cal k) X0 (doneK P results25)))
noncomputable def K25_prlr (cal : Cal) (k : Nat) : KR := (cutK (Lv.b (Lv.a (Lv.b (A 25)))).c (codeE P cal (codeF P cal k) none 25 (cR (cR (cL (cR code25)))) (Lv.b (Lv.b (Lv.a (Lv.b (A 25))))) (K25_pr cal k) X0 (doneK P results25)))
noncomputable def K25_prlrrl (cal : Cal) (k : Nat) : KR := (cutK (Lv.a (Lv.b (Lv.b (Lv.a (Lv.b (A 25)))))).c (codeE P cal (codeF P cal k) none 25 (cR (cL (cR (cR (cL (cR code25)))))) (Lv.b (Lv.a (Lv.b (Lv.b (Lv.a (Lv.b (A 25))))))) (K25_pr cal k) X0 (doneK P results25)))
noncomputable def K25_prr (cal : Cal) (k : Nat) : KR := (cutK (Lv.b (Lv.b (A 25))).c (codeE P cal (codeF P cal k) none 25 (cR (cR (cR code25))) (Lv.b (Lv.b (Lv.b (A 25)))) (doneK P results25) X0 (doneK P results25)))
noncomputable def K25_prrl (cal : Cal) (k : Nat) : KR := (cutK (Lv.a (Lv.b (Lv.b (A 25)))).c (codeE P cal (codeF P cal k) none 25 (cR (cL (cR (cR code25)))) (Lv.b (Lv.a (Lv.b (Lv.b (A 25))))) (K25_prr cal k) X0 (doneK P results25)))
noncomputable def K25_prrlrl (cal : Cal) (k : Nat) : KR := (cutK (Lv.a (Lv.b (Lv.a (Lv.b (Lv.b (A 25)))))).c (codeE P cal (codeF P cal k) none 25 (cR (cL (cR (cL (cR (cR code25)))))) (Lv.b (Lv.a (Lv.b (Lv.a (Lv.b (Lv.b (A 25))))))) (K25_prr cal k) X0 (doneK P results25)))
noncomputable def K25_prrr (cal : Cal) (k : Nat) : KR := (cutK (Lv.b (Lv.b (Lv.b (A 25)))).c (codeE P cal (codeF P cal k) none 25 (cR (cR (cR (cR code25)))) (Lv.b (Lv.b (Lv.b (Lv.b (A 25))))) (doneK P results25) X0 (doneK P results25)))
noncomputable def B25_0 (cal : Cal) (k : Nat) (v0 v1 : Value) (H : Hp) (n : Nat) : Res :=
boxK 26 v0 H n fun v_1 H_2 n_3 =>
bindO (addrV v_1) fun a_6 => bindO (loadV P H_2 26 a_6) fun v_5 =>
callFK P cal 20 [v_5] H_2 n_3 fun v_7 H_8 n_9 =>
binK P .neq 29 (.tmp 8) (.const (.int .i64 0)) v_7 (.int .i64 0) fun v_c =>
ifK v_c (
some (v_7, H_8, n_9)) (
bindO (addrV v_1) fun a_g => bindO (loadV P H_8 26 a_g) fun v_f =>
callFK P cal 58 [v_f, v1] H_8 n_9 fun v_i H_j n_k =>
bindO (pureSem P v_i (Op.unary UnOp.not v_i)) fun v_l =>
ifK v_l (
some ((.int .i64 2), H_j, n_k)) (
some ((.int .i64 0), H_j, n_k)))
noncomputable def C25_0 (cal : Cal) (k : Nat) (v0 v1 : Value) (H : Hp) (n : Nat) : Res := B25_0 cal k v0 v1 H n
theorem h25_0 (cal : Cal) (k : Nat) (v0 v1 : Value) (H : Hp) (n : Nat) : bodyE P cal A (k + 1) 25 [v0, v1] H n = C25_0 cal k v0 v1 H n := by
  have h : bodyE P cal A (k + 1) 25 [v0, v1] H n = B25_0 cal k v0 v1 H n := by
    rw [body_eq (fn := Go.Proofs.Try.f25) (c := code25) (rs := results25) (by kernel_rfl) (by kernel_rfl) (by kernel_rfl) (by kernel_rfl)]
    kernel_rfl
  rw [h, C25_0]
noncomputable def code26 : Code := codeOf 26
noncomputable def results26 : List ResultVar := resOf 26
noncomputable def K26_p (cal : Cal) (k : Nat) : KR := (cutK (A 26).c (codeE P cal (codeF P cal k) none 26 (cR code26) (Lv.b (A 26)) (doneK P results26) X0 (doneK P results26)))
noncomputable def K26_pr (cal : Cal) (k : Nat) : KR := (cutK (Lv.b (A 26)).c (codeE P cal (codeF P cal k) none 26 (cR (cR code26)) (Lv.b (Lv.b (A 26))) (doneK P results26) X0 (doneK P results26)))
noncomputable def B26_0 (cal : Cal) (k : Nat) (v0 : Value) (H : Hp) (n : Nat) : Res :=
boxK 55 v0 H n fun v_1 H_2 n_3 =>
allocK P 53 H_2 n_3 fun v_4 H_5 n_6 =>
bindO (fieldAddrV P 55 v_1 0) fun v_7 =>
bindO (addrV v_7) fun a_9 => bindO (loadV P H_5 3 a_9) fun v_8 =>
bindO (fieldAddrV P 55 v_1 1) fun v_a =>
bindO (addrV v_a) fun a_c => bindO (loadV P H_5 3 a_c) fun v_b =>
bindO (buildP P 53 [(0, v_8), (1, v_b)]) fun v_d =>
bindO (storeP P 53 v_4 v_d H_5) fun H_f =>
bindO (resV P (Tr.set Tr.nil 2 (some v_4)) H_f results26) fun v_g => some (oneV v_g, H_f, n_6)
noncomputable def C26_0 (cal : Cal) (k : Nat) (v0 : Value) (H : Hp) (n : Nat) : Res := B26_0 cal k v0 H n
theorem h26_0 (cal : Cal) (k : Nat) (v0 : Value) (H : Hp) (n : Nat) : bodyE P cal A (k + 1) 26 [v0] H n = C26_0 cal k v0 H n := by
  have h : bodyE P cal A (k + 1) 26 [v0] H n = B26_0 cal k v0 H n := by
    rw [body_eq (fn := Go.Proofs.Try.f26) (c := code26) (rs := results26) (by kernel_rfl) (by kernel_rfl) (by kernel_rfl) (by kernel_rfl)]
    kernel_rfl
  rw [h, C26_0]
noncomputable def code27 : Code := codeOf 27
noncomputable def results27 : List ResultVar := resOf 27
noncomputable def K27_p (cal : Cal) (k : Nat) : KR := (cutK (A 27).c (codeE P cal (codeF P cal k) none 27 (cR code27) (Lv.b (A 27)) (doneK P results27) X0 (doneK P results27)))
noncomputable def K27_pr (cal : Cal) (k : Nat) : KR := (cutK (Lv.b (A 27)).c (codeE P cal (codeF P cal k) none 27 (cR (cR code27)) (Lv.b (Lv.b (A 27))) (doneK P results27) X0 (doneK P results27)))
noncomputable def K27_prr (cal : Cal) (k : Nat) : KR := (cutK (Lv.b (Lv.b (A 27))).c (codeE P cal (codeF P cal k) none 27 (cR (cR (cR code27))) (Lv.b (Lv.b (Lv.b (A 27)))) (doneK P results27) X0 (doneK P results27)))
noncomputable def K27_prrl (cal : Cal) (k : Nat) : KR := (cutK (Lv.a (Lv.b (Lv.b (A 27)))).c (codeE P cal (codeF P cal k) none 27 (cR (cL (cR (cR code27)))) (Lv.b (Lv.a (Lv.b (Lv.b (A 27))))) (K27_prr cal k) X0 (doneK P results27)))
noncomputable def K27_pxrrlr (cal : Cal) (k : Nat) : XR := (upX 0 (K27_prr cal k) X0)
noncomputable def K27_prrlrl (cal : Cal) (k : Nat) (m1 : Nat) : KR := (fun T H n D => codeF P cal m1 (Lv.a (Lv.b (Lv.a (Lv.b (Lv.b (A 27)))))) none 27 (cL (cR (cL (cR (cR code27))))) (K27_prr cal k) (K27_pxrrlr cal k) (doneK P results27) (cutT (Lv.a (Lv.b (Lv.a (Lv.b (Lv.b (A 27)))))).c T) H n D)
noncomputable def K27_prrlrll (cal : Cal) (k : Nat) (m1 : Nat) : KR := (cutK (Lv.a (Lv.a (Lv.b (Lv.a (Lv.b (Lv.b (A 27))))))).c (codeE P cal (codeF P cal m1) none 27 (cR (cL (cL (cR (cL (cR (cR code27))))))) (Lv.b (Lv.a (Lv.a (Lv.b (Lv.a (Lv.b (Lv.b (A 27)))))))) (K27_prrlrl cal k m1) (K27_pxrrlr cal k) (doneK P results27)))
noncomputable def K27_prrlrlll (cal : Cal) (k : Nat) (m1 : Nat) : KR := (cutK (Lv.a (Lv.a (Lv.a (Lv.b (Lv.a (Lv.b (Lv.b (A 27)))))))).c (codeE P cal (codeF P cal m1) none 27 (cR (cL (cL (cL (cR (cL (cR (cR code27)))))))) (Lv.b (Lv.a (Lv.a (Lv.a (Lv.b (Lv.a (Lv.b (Lv.b (A 27))))))))) (K27_prrlrll cal k m1) (K27_pxrrlr cal k) (doneK P results27)))
noncomputable def K27_prrlrllr (cal : Cal) (k : Nat) (m1 : Nat) : KR := (cutK (Lv.b (Lv.a (Lv.a (Lv.b (Lv.a (Lv.b (Lv.b (A 27)))))))).c (codeE P cal (codeF P cal m1) none 27 (cR (cR (cL (cL (cR (cL (cR (cR code27)))))))) (Lv.b (Lv.b (Lv.a (Lv.a (Lv.b (Lv.a (Lv.b (Lv.b (A 27))))))))) (K27_prrlrl cal k m1) (K27_pxrrlr cal k) (doneK P results27)))
noncomputable def K27_pxrrlrllrl (cal : Cal) (k : Nat) (m1 : Nat) : XR := (upX 1 (K27_prrlrllr cal k m1) (K27_pxrrlr cal k))
noncomputable def K27_prrlrllrll (cal : Cal) (k : Nat) (m1 : Nat) : KR := (cutK (Lv.a (Lv.a (Lv.b (Lv.a (Lv.a (Lv.b (Lv.a (Lv.b (Lv.b (A 27)))))))))).c (codeE P cal (codeF P cal m1) none 27 (cR (cL (cL (cR (cL (cL (cR (cL (cR (cR code27)))))))))) (Lv.b (Lv.a (Lv.a (Lv.b (Lv.a (Lv.a (Lv.b (Lv.a (Lv.b (Lv.b (A 27))))))))))) (K27_prrlrllr cal k m1) (K27_pxrrlrllrl cal k m1) (doneK P results27)))
noncomputable def K27_prrlrllrllrl (cal : Cal) (k : Nat) (m1 : Nat) : KR := (cutK (Lv.a (Lv.b (Lv.a (Lv.a (Lv.b (Lv.a (Lv.a (Lv.b (Lv.a (Lv.b (Lv.b (A 27)))))))))))).c (codeE P cal (codeF P cal m1) none 27 (cR (cL (cR (cL (cL (cR (cL (cL (cR (cL (cR (cR code27)))))))))))) (Lv.b (Lv.a (Lv.b (Lv.a (Lv.a (Lv.b (Lv.a (Lv.a (Lv.b (Lv.a (Lv.b (Lv.b (A 27))))))))))))) (K27_prrlrllr cal k m1) (K27_pxrrlrllrl cal k m1) (doneK P results27)))
noncomputable def K27_prrr (cal : Cal) (k : Nat) : KR := (cutK (Lv.b (Lv.b (Lv.b (A 27)))).c (codeE P cal (codeF P cal k) none 27 (cR (cR (cR (cR code27)))) (Lv.b (Lv.b (Lv.b (Lv.b (A 27))))) (doneK P results27) X0 (doneK P results27)))
noncomputable def E27_2 (cal : Cal) (k m1 : Nat) : KR := codeE P cal (codeF P cal m1) none 27 (cR (cR (cL (cL (cR (cL (cR (cR code27)))))))) (Lv.b (Lv.b (Lv.a (Lv.a (Lv.b (Lv.a (Lv.b (Lv.b (A 27))))))))) (K27_prrlrl cal k m1) (K27_pxrrlr cal k) (doneK P results27)
noncomputable def E27_1 (cal : Cal) (k m1 : Nat) : KR := codeE P cal (codeF P cal m1) none 27 (cL (cL (cR (cL (cR (cR code27)))))) (Lv.a (Lv.a (Lv.b (Lv.a (Lv.b (Lv.b (A 27))))))) (K27_prrlrl cal k m1) (K27_pxrrlr cal k) (doneK P results27)
noncomputable def R27_1 (cal : Cal) (k m1 : Nat) : V6 := fun u1 u2 u3 u6 u7 u8 H n => codeF P cal m1 (Lv.a (Lv.b (Lv.a (Lv.b (Lv.b (A 27)))))) none 27 (cL (cR (cL (cR (cR code27))))) (K27_prr cal k) (K27_pxrrlr cal k) (doneK P results27) (Tr.set (Tr.set (Tr.set (Tr.set (Tr.set (Tr.set Tr.nil 8 (some u8)) 7 (some u7)) 6 (some u6)) 3 (some u3)) 2 (some u2)) 1 (some u1)) H n []
noncomputable def B27_2 (cal : Cal) (k m1 : Nat) (b1 : V6) (u1 u2 u3 u6 u7 u8 : Value) (H : Hp) (n : Nat) : Res :=
binK P .add 3 (.tmp 14) (.const (.int .i64 1)) u8 (.int .i64 1) fun v_g =>
b1 u1 u2 u3 u6 u7 v_g H n
noncomputable def C27_2 (cal : Cal) (k m1 : Nat) (b1 : V6) (u1 u2 u3 u6 u7 u8 : Value) (H : Hp) (n : Nat) : Res := B27_2 cal k m1 b1 u1 u2 u3 u6 u7 u8 H n
theorem h27_2 (cal : Cal) (k m1 : Nat) (u1 u2 u3 u6 u7 u8 : Value) (H : Hp) (n : Nat) : labK (E27_2 cal k m1) (Tr.set (Tr.set (Tr.set (Tr.set (Tr.set (Tr.set Tr.nil 8 (some u8)) 7 (some u7)) 6 (some u6)) 3 (some u3)) 2 (some u2)) 1 (some u1)) H n [] = C27_2 cal k m1 (R27_1 cal k m1) u1 u2 u3 u6 u7 u8 H n := by
  refine Eq.trans (b := B27_2 cal k m1 (R27_1 cal k m1) u1 u2 u3 u6 u7 u8 H n) (by kernel_rfl) ?_
  rw [C27_2]
noncomputable def B27_1 (cal : Cal) (k m1 : Nat) (j2 : V6) (b1 : V6) (u1 u2 u3 u6 u7 u8 : Value) (H : Hp) (n : Nat) : Res :=
bindO (lenV P 44 u1) fun v_d =>
binK P .lss 3 (.tmp 10) (.tmp 12) u8 v_d fun v_e =>
ifK v_e (
bindO (indexAddrV P 44 u1 u8) fun v_k =>
bindO (addrV v_k) fun a_m => bindO (loadV P H 3 a_m) fun v_l =>
binK P .geq 3 (.tmp 19) (.const (.int .i64 0)) v_l (.int .i64 0) fun v_n =>
ifK v_n (
bindO (addrV u3) fun a_o => bindO (loadV P H 26 a_o) fun v_p =>
bindO (indexAddrV P 44 u1 u8) fun v_s =>
bindO (addrV v_s) fun a_t => bindO (loadV P H 3 a_t) fun v_u =>
bindO (zeroT P 55) fun z_z => newK (cellsV z_z) 55 H n fun H_x n_y =>
effK P [(.a n (cellsV z_z) 55)] H_x n_y (fun H_10 n_11 k_12 =>
callFK P cal 70 [v_p, v_u, u8, u2] H_10 n_11 fun v_16 H_17 n_18 =>
k_12 v_16 H_17 n_18) fun v_13 H_14 n_15 =>
bindO (storeP P 55 (ptr n) v_13 H_14) fun H_1a =>
bindO (fieldAddrV P 55 u7 0) fun v_1b =>
bindO (addrV v_1b) fun a_1d => bindO (loadV P H_1a 3 a_1d) fun v_1c =>
bindO (fieldAddrV P 55 (ptr n) 0) fun v_1e =>
bindO (addrV v_1e) fun a_1g => bindO (loadV P H_1a 3 a_1g) fun v_1f =>
binK P .add 3 (.tmp 30) (.tmp 32) v_1c v_1f fun v_1h =>
bindO (fieldAddrV P 55 u7 1) fun v_1i =>
bindO (addrV v_1i) fun a_1k => bindO (loadV P H_1a 3 a_1k) fun v_1j =>
bindO (fieldAddrV P 55 (ptr n) 1) fun v_1l =>
bindO (addrV v_1l) fun a_1n => bindO (loadV P H_1a 3 a_1n) fun v_1m =>
binK P .add 3 (.tmp 35) (.tmp 37) v_1j v_1m fun v_1o =>
bindO (buildP P 55 [(0, v_1h), (1, v_1o)]) fun v_1p =>
bindO (storeP P 55 u7 v_1p H_1a) fun H_1r =>
j2 u1 u2 u3 u6 u7 u8 H_1r n_15) (
j2 u1 u2 u3 u6 u7 u8 H n)) (
bindO (addrV u7) fun a_1t => bindO (loadV P H 55 a_1t) fun v_1s =>
bindO (storeP P 55 u6 v_1s H) fun H_1v =>
bindO (resV P (Tr.set Tr.nil 6 (some u6)) H_1v results27) fun v_1w => some (oneV v_1w, H_1v, n))
noncomputable def C27_1 (cal : Cal) (k m1 : Nat) (b1 : V6) (u1 u2 u3 u6 u7 u8 : Value) (H : Hp) (n : Nat) : Res := B27_1 cal k m1 (C27_2 cal k m1 b1) b1 u1 u2 u3 u6 u7 u8 H n
noncomputable def S27_1 (cal : Cal) (k : Nat) : Nat → V6 := fun m => Nat.rec (motive := fun _ => V6) (C27_1 cal k 0 (fun _ _ _ _ _ _ _ _ => none)) (fun m ih => C27_1 cal k (m + 1) ih) m
theorem h27_1 (cal : Cal) (k m1 : Nat) (u1 u2 u3 u6 u7 u8 : Value) (H : Hp) (n : Nat) : labK (E27_1 cal k m1) (Tr.set (Tr.set (Tr.set (Tr.set (Tr.set (Tr.set Tr.nil 8 (some u8)) 7 (some u7)) 6 (some u6)) 3 (some u3)) 2 (some u2)) 1 (some u1)) H n [] = C27_1 cal k m1 (R27_1 cal k m1) u1 u2 u3 u6 u7 u8 H n := by
  refine Eq.trans (b := B27_1 cal k m1 (fun u1 u2 u3 u6 u7 u8 H n => labK (E27_2 cal k m1) (Tr.set (Tr.set (Tr.set (Tr.set (Tr.set (Tr.set Tr.nil 8 (some u8)) 7 (some u7)) 6 (some u6)) 3 (some u3)) 2 (some u2)) 1 (some u1)) H n []) (R27_1 cal k m1) u1 u2 u3 u6 u7 u8 H n) (by kernel_rfl) ?_
  rw [C27_1]
  have e2 : (fun u1 u2 u3 u6 u7 u8 H n => labK (E27_2 cal k m1) (Tr.set (Tr.set (Tr.set (Tr.set (Tr.set (Tr.set Tr.nil 8 (some u8)) 7 (some u7)) 6 (some u6)) 3 (some u3)) 2 (some u2)) 1 (some u1)) H n []) = (C27_2 cal k m1 (R27_1 cal k m1)) := by funext u1 u2 u3 u6 u7 u8 H n; exact h27_2 ..
  rw [e2]
theorem q27_1 (cal : Cal) (k : Nat) : ∀ (m : Nat) (u1 u2 u3 u6 u7 u8 : Value) (H : Hp) (n : Nat), labK (E27_1 cal k m) (Tr.set (Tr.set (Tr.set (Tr.set (Tr.set (Tr.set Tr.nil 8 (some u8)) 7 (some u7)) 6 (some u6)) 3 (some u3)) 2 (some u2)) 1 (some u1)) H n [] = S27_1 cal k m u1 u2 u3 u6 u7 u8 H n
  | 0, u1, u2, u3, u6, u7, u8, H, n => by
    rw [h27_1]
    have e : R27_1 cal k 0 = fun _ _ _ _ _ _ _ _ => none := by funext u1 u2 u3 u6 u7 u8 H n; kernel_rfl
    rw [e]; rfl
  | m + 1, u1, u2, u3, u6, u7, u8, H, n => by
    rw [h27_1]
    have e : R27_1 cal k (m + 1) = S27_1 cal k m := by
      funext u1 u2 u3 u6 u7 u8 H n
      have e : R27_1 cal k (m + 1) u1 u2 u3 u6 u7 u8 H n = labK (E27_1 cal k m) (Tr.set (Tr.set (Tr.set (Tr.set (Tr.set (Tr.set Tr.nil 8 (some u8)) 7 (some u7)) 6 (some u6)) 3 (some u3)) 2 (some u2)) 1 (some u1)) H n [] := by kernel_rfl
      rw [e]; exact q27_1 ..
    rw [e]; rfl
noncomputable def B27_0 (cal : Cal) (k : Nat) (j1 : V6) (v0 v1 v2 : Value) (H : Hp) (n : Nat) : Res :=
boxK 26 v0 H n fun v_1 H_2 n_3 =>
allocK P 55 H_2 n_3 fun v_4 H_5 n_6 =>
allocK P 55 H_5 n_6 fun v_7 H_8 n_9 =>
j1 v1 v2 v_1 v_4 v_7 (.int .i64 0) H_8 n_9
noncomputable def C27_0 (cal : Cal) (k : Nat) (v0 v1 v2 : Value) (H : Hp) (n : Nat) : Res := B27_0 cal k (S27_1 cal k k) v0 v1 v2 H n
theorem h27_0 (cal : Cal) (k : Nat) (v0 v1 v2 : Value) (H : Hp) (n : Nat) : bodyE P cal A (k + 1) 27 [v0, v1, v2] H n = C27_0 cal k v0 v1 v2 H n := by
  have h : bodyE P cal A (k + 1) 27 [v0, v1, v2] H n = B27_0 cal k (fun u1 u2 u3 u6 u7 u8 H n => labK (E27_1 cal k k) (Tr.set (Tr.set (Tr.set (Tr.set (Tr.set (Tr.set Tr.nil 8 (some u8)) 7 (some u7)) 6 (some u6)) 3 (some u3)) 2 (some u2)) 1 (some u1)) H n []) v0 v1 v2 H n := by
    rw [body_eq (fn := Go.Proofs.Try.f27) (c := code27) (rs := results27) (by kernel_rfl) (by kernel_rfl) (by kernel_rfl) (by kernel_rfl)]
    kernel_rfl
  rw [h, C27_0]
  have e1 : (fun u1 u2 u3 u6 u7 u8 H n => labK (E27_1 cal k k) (Tr.set (Tr.set (Tr.set (Tr.set (Tr.set (Tr.set Tr.nil 8 (some u8)) 7 (some u7)) 6 (some u6)) 3 (some u3)) 2 (some u2)) 1 (some u1)) H n []) = (S27_1 cal k k) := by funext u1 u2 u3 u6 u7 u8 H n; exact q27_1 ..
  rw [e1]
noncomputable def code30 : Code := codeOf 30
noncomputable def results30 : List ResultVar := resOf 30
noncomputable def K30_p (cal : Cal) (k : Nat) : KR := (cutK (A 30).c (codeE P cal (codeF P cal k) none 30 (cR code30) (Lv.b (A 30)) (doneK P results30) X0 (doneK P results30)))
noncomputable def K30_pr (cal : Cal) (k : Nat) : KR := (cutK (Lv.b (A 30)).c (codeE P cal (codeF P cal k) none 30 (cR (cR code30)) (Lv.b (Lv.b (A 30))) (doneK P results30) X0 (doneK P results30)))
noncomputable def K30_prl (cal : Cal) (k : Nat) : KR := (cutK (Lv.a (Lv.b (A 30))).c (codeE P cal (codeF P cal k) none 30 (cR (cL (cR code30))) (Lv.b (Lv.a (Lv.b (A 30)))) (K30_pr cal k) X0 (doneK P results30)))
noncomputable def K30_prlrl (cal : Cal) (k : Nat) : KR := (cutK (Lv.a (Lv.b (Lv.a (Lv.b (A 30))))).c (codeE P cal (codeF P cal k) none 30 (cR (cL (cR (cL (cR code30))))) (Lv.b (Lv.a (Lv.b (Lv.a (Lv.b (A 30)))))) (K30_pr cal k) X0 (doneK P results30)))
noncomputable def K30_prr (cal : Cal) (k : Nat) : KR := (cutK (Lv.b (Lv.b (A 30))).c (codeE P cal (codeF P cal k) none 30 (cR (cR (cR code30))) (Lv.b (Lv.b (Lv.b (A 30)))) (doneK P results30) X0 (doneK P results30)))
noncomputable def K30_prrl (cal : Cal) (k : Nat) : KR := (cutK (Lv.a (Lv.b (Lv.b (A 30)))).c (codeE P cal (codeF P cal k) none 30 (cR (cL (cR (cR code30)))) (Lv.b (Lv.a (Lv.b (Lv.b (A 30))))) (K30_prr cal k) X0 (doneK P results30)))
noncomputable def K30_pxrrlr (cal : Cal) (k : Nat) : XR := (upX 0 (K30_prr cal k) X0)
noncomputable def K30_prrlrl (cal : Cal) (k : Nat) (m1 : Nat) : KR := (fun T H n D => codeF P cal m1 (Lv.a (Lv.b (Lv.a (Lv.b (Lv.b (A 30)))))) none 30 (cL (cR (cL (cR (cR code30))))) (K30_prr cal k) (K30_pxrrlr cal k) (doneK P results30) (cutT (Lv.a (Lv.b (Lv.a (Lv.b (Lv.b (A 30)))))).c T) H n D)
noncomputable def K30_prrlrll (cal : Cal) (k : Nat) (m1 : Nat) : KR := (cutK (Lv.a (Lv.a (Lv.b (Lv.a (Lv.b (Lv.b (A 30))))))).c (codeE P cal (codeF P cal m1) none 30 (cR (cL (cL (cR (cL (cR (cR code30))))))) (Lv.b (Lv.a (Lv.a (Lv.b (Lv.a (Lv.b (Lv.b (A 30)))))))) (K30_prrlrl cal k m1) (K30_pxrrlr cal k) (doneK P results30)))
noncomputable def K30_prrlrlll (cal : Cal) (k : Nat) (m1 : Nat) : KR := (cutK (Lv.a (Lv.a (Lv.a (Lv.b (Lv.a (Lv.b (Lv.b (A 30)))))))).c (codeE P cal (codeF P cal m1) none 30 (cR (cL (cL (cL (cR (cL (cR (cR code30)))))))) (Lv.b (Lv.a (Lv.a (Lv.a (Lv.b (Lv.a (Lv.b (Lv.b (A 30))))))))) (K30_prrlrll cal k m1) (K30_pxrrlr cal k) (doneK P results30)))
noncomputable def K30_prrlrllr (cal : Cal) (k : Nat) (m1 : Nat) : KR := (cutK (Lv.b (Lv.a (Lv.a (Lv.b (Lv.a (Lv.b (Lv.b (A 30)))))))).c (codeE P cal (codeF P cal m1) none 30 (cR (cR (cL (cL (cR (cL (cR (cR code30)))))))) (Lv.b (Lv.b (Lv.a (Lv.a (Lv.b (Lv.a (Lv.b (Lv.b (A 30))))))))) (K30_prrlrl cal k m1) (K30_pxrrlr cal k) (doneK P results30)))
noncomputable def K30_pxrrlrllrl (cal : Cal) (k : Nat) (m1 : Nat) : XR := (upX 1 (K30_prrlrllr cal k m1) (K30_pxrrlr cal k))
noncomputable def K30_prrlrllrll (cal : Cal) (k : Nat) (m1 : Nat) : KR := (cutK (Lv.a (Lv.a (Lv.b (Lv.a (Lv.a (Lv.b (Lv.a (Lv.b (Lv.b (A 30)))))))))).c (codeE P cal (codeF P cal m1) none 30 (cR (cL (cL (cR (cL (cL (cR (cL (cR (cR code30)))))))))) (Lv.b (Lv.a (Lv.a (Lv.b (Lv.a (Lv.a (Lv.b (Lv.a (Lv.b (Lv.b (A 30))))))))))) (K30_prrlrllr cal k m1) (K30_pxrrlrllrl cal k m1) (doneK P results30)))
noncomputable def K30_prrlrllrllrl (cal : Cal) (k : Nat) (m1 : Nat) : KR := (cutK (Lv.a (Lv.b (Lv.a (Lv.a (Lv.b (Lv.a (Lv.a (Lv.b (Lv.a (Lv.b (Lv.b (A 30)))))))))))).c (codeE P cal (codeF P cal m1) none 30 (cR (cL (cR (cL (cL (cR (cL (cL (cR (cL (cR (cR code30)))))))))))) (Lv.b (Lv.a (Lv.b (Lv.a (Lv.a (Lv.b (Lv.a (Lv.a (Lv.b (Lv.a (Lv.b (Lv.b (A 30))))))))))))) (K30_prrlrllr cal k m1) (K30_pxrrlrllrl cal k m1) (doneK P results30)))
noncomputable def K30_prrr (cal : Cal) (k : Nat) : KR := (cutK (Lv.b (Lv.b (Lv.b (A 30)))).c (codeE P cal (codeF P cal k) none 30 (cR (cR (cR (cR code30)))) (Lv.b (Lv.b (Lv.b (Lv.b (A 30))))) (doneK P results30) X0 (doneK P results30)))
noncomputable def E30_1 (cal : Cal) (k m1 : Nat) : KR := codeE P cal (codeF P cal m1) none 30 (cL (cL (cR (cL (cR (cR code30)))))) (Lv.a (Lv.a (Lv.b (Lv.a (Lv.b (Lv.b (A 30))))))) (K30_prrlrl cal k m1) (K30_pxrrlr cal k) (doneK P results30)
noncomputable def R30_1 (cal : Cal) (k m1 : Nat) : V3 := fun u0 u1 u5 H n => codeF P cal m1 (Lv.a (Lv.b (Lv.a (Lv.b (Lv.b (A 30)))))) none 30 (cL (cR (cL (cR (cR code30))))) (K30_prr cal k) (K30_pxrrlr cal k) (doneK P results30) (Tr.set (Tr.set (Tr.set Tr.nil 5 (some u5)) 1 (some u1)) 0 (some u0)) H n []
noncomputable def B30_1 (cal : Cal) (k m1 : Nat) (b1 : V3) (u0 u1 u5 : Value) (H : Hp) (n : Nat) : Res :=
bindO (lenV P 44 u0) fun v_b =>
binK P .lss 3 (.tmp 11) (.tmp 13) u5 v_b fun v_c =>
ifK v_c (
bindO (indexAddrV P 44 u0 u5) fun v_f =>
bindO (addrV v_f) fun a_g => bindO (loadV P H 3 a_g) fun v_h =>
bindO (indexAddrV P 44 u1 u5) fun v_k =>
bindO (addrV v_k) fun a_l => bindO (loadV P H 3 a_l) fun v_m =>
binK P .neq 3 (.tmp 20) (.tmp 24) v_h v_m fun v_n =>
ifK v_n (
some ((.bool false), H, n)) (
binK P .add 3 (.tmp 15) (.const (.int .i64 1)) u5 (.int .i64 1) fun v_q =>
b1 u0 u1 v_q H n)) (
some ((.bool true), H, n))
noncomputable def C30_1 (cal : Cal) (k m1 : Nat) (b1 : V3) (u0 u1 u5 : Value) (H : Hp) (n : Nat) : Res := B30_1 cal k m1 b1 u0 u1 u5 H n
noncomputable def S30_1 (cal : Cal) (k : Nat) : Nat → V3 := fun m => Nat.rec (motive := fun _ => V3) (C30_1 cal k 0 (fun _ _ _ _ _ => none)) (fun m ih => C30_1 cal k (m + 1) ih) m
theorem h30_1 (cal : Cal) (k m1 : Nat) (u0 u1 u5 : Value) (H : Hp) (n : Nat) : labK (E30_1 cal k m1) (Tr.set (Tr.set (Tr.set Tr.nil 5 (some u5)) 1 (some u1)) 0 (some u0)) H n [] = C30_1 cal k m1 (R30_1 cal k m1) u0 u1 u5 H n := by
  refine Eq.trans (b := B30_1 cal k m1 (R30_1 cal k m1) u0 u1 u5 H n) (by kernel_rfl) ?_
  rw [C30_1]
theorem q30_1 (cal : Cal) (k : Nat) : ∀ (m : Nat) (u0 u1 u5 : Value) (H : Hp) (n : Nat), labK (E30_1 cal k m) (Tr.set (Tr.set (Tr.set Tr.nil 5 (some u5)) 1 (some u1)) 0 (some u0)) H n [] = S30_1 cal k m u0 u1 u5 H n
  | 0, u0, u1, u5, H, n => by
    rw [h30_1]
    have e : R30_1 cal k 0 = fun _ _ _ _ _ => none := by funext u0 u1 u5 H n; kernel_rfl
    rw [e]; rfl
  | m + 1, u0, u1, u5, H, n => by
    rw [h30_1]
    have e : R30_1 cal k (m + 1) = S30_1 cal k m := by
      funext u0 u1 u5 H n
      have e : R30_1 cal k (m + 1) u0 u1 u5 H n = labK (E30_1 cal k m) (Tr.set (Tr.set (Tr.set Tr.nil 5 (some u5)) 1 (some u1)) 0 (some u0)) H n [] := by kernel_rfl
      rw [e]; exact q30_1 ..
    rw [e]; rfl
noncomputable def B30_0 (cal : Cal) (k : Nat) (j1 : V3) (v0 v1 : Value) (H : Hp) (n : Nat) : Res :=
bindO (lenV P 44 v0) fun v_3 =>
bindO (lenV P 44 v1) fun v_5 =>
binK P .neq 3 (.tmp 7) (.tmp 9) v_3 v_5 fun v_6 =>
ifK v_6 (
some ((.bool false), H, n)) (
j1 v0 v1 (.int .i64 0) H n)
noncomputable def C30_0 (cal : Cal) (k : Nat) (v0 v1 : Value) (H : Hp) (n : Nat) : Res := B30_0 cal k (S30_1 cal k k) v0 v1 H n
theorem h30_0 (cal : Cal) (k : Nat) (v0 v1 : Value) (H : Hp) (n : Nat) : bodyE P cal A (k + 1) 30 [v0, v1] H n = C30_0 cal k v0 v1 H n := by
  have h : bodyE P cal A (k + 1) 30 [v0, v1] H n = B30_0 cal k (fun u0 u1 u5 H n => labK (E30_1 cal k k) (Tr.set (Tr.set (Tr.set Tr.nil 5 (some u5)) 1 (some u1)) 0 (some u0)) H n []) v0 v1 H n := by
    rw [body_eq (fn := Go.Proofs.Try.f30) (c := code30) (rs := results30) (by kernel_rfl) (by kernel_rfl) (by kernel_rfl) (by kernel_rfl)]
    kernel_rfl
  rw [h, C30_0]
  have e1 : (fun u0 u1 u5 H n => labK (E30_1 cal k k) (Tr.set (Tr.set (Tr.set Tr.nil 5 (some u5)) 1 (some u1)) 0 (some u0)) H n []) = (S30_1 cal k k) := by funext u0 u1 u5 H n; exact q30_1 ..
  rw [e1]
noncomputable def code32 : Code := codeOf 32
noncomputable def results32 : List ResultVar := resOf 32
noncomputable def K32_p (cal : Cal) (k : Nat) : KR := (cutK (A 32).c (codeE P cal (codeF P cal k) none 32 (cR code32) (Lv.b (A 32)) (doneK P results32) X0 (doneK P results32)))
noncomputable def K32_pr (cal : Cal) (k : Nat) : KR := (cutK (Lv.b (A 32)).c (codeE P cal (codeF P cal k) none 32 (cR (cR code32)) (Lv.b (Lv.b (A 32))) (doneK P results32) X0 (doneK P results32)))
noncomputable def B32_0 (cal : Cal) (k : Nat) (v0 v1 v2 : Value) (H : Hp) (n : Nat) : Res :=
binK P .geq 3 (.tmp 7) (.tmp 8) v0 v1 fun v_4 =>
guardK v_4 true (fun k_6 =>
k_6 v0 H n) H n fun v_7 H_8 n_9 =>
guardK v_4 true (fun k_b =>
k_b v2 H_8 n_9) H_8 n_9 fun v_c H_d n_e =>
guardK v_4 true (fun k_g =>
binK P .leq 3 (.tmp 11) (.tmp 12) v_7 v_c fun v_k =>
k_g v_k H_d n_e) H_d n_e fun v_h H_i n_j =>
bindO (pickV v_4 v_h (.bool false)) fun v_l =>
some (v_l, H_i, n_j)
noncomputable def C32_0 (cal : Cal) (k : Nat) (v0 v1 v2 : Value) (H : Hp) (n : Nat) : Res := B32_0 cal k v0 v1 v2 H n
theorem h32_0 (cal : Cal) (k : Nat) (v0 v1 v2 : Value) (H : Hp) (n : Nat) : bodyE P cal A (k + 1) 32 [v0, v1, v2] H n = C32_0 cal k v0 v1 v2 H n := by
  have h : bodyE P cal A (k + 1) 32 [v0, v1, v2] H n = B32_0 cal k v0 v1 v2 H n := by
    rw [body_eq (fn := Go.Proofs.Try.f32) (c := code32) (rs := results32) (by kernel_rfl) (by kernel_rfl) (by kernel_rfl) (by kernel_rfl)]
    kernel_rfl
  rw [h, C32_0]
noncomputable def code33 : Code := codeOf 33
noncomputable def results33 : List ResultVar := resOf 33
noncomputable def K33_p (cal : Cal) (k : Nat) : KR := (cutK (A 33).c (codeE P cal (codeF P cal k) none 33 (cR code33) (Lv.b (A 33)) (doneK P results33) X0 (doneK P results33)))
noncomputable def K33_pr (cal : Cal) (k : Nat) : KR := (cutK (Lv.b (A 33)).c (codeE P cal (codeF P cal k) none 33 (cR (cR code33)) (Lv.b (Lv.b (A 33))) (doneK P results33) X0 (doneK P results33)))
noncomputable def K33_prl (cal : Cal) (k : Nat) : KR := (cutK (Lv.a (Lv.b (A 33))).c (codeE P cal (codeF P cal k) none 33 (cR (cL (cR code33))) (Lv.b (Lv.a (Lv.b (A 33)))) (K33_pr cal k) X0 (doneK P results33)))
noncomputable def K33_prlrl (cal : Cal) (k : Nat) : KR := (cutK (Lv.a (Lv.b (Lv.a (Lv.b (A 33))))).c (codeE P cal (codeF P cal k) none 33 (cR (cL (cR (cL (cR code33))))) (Lv.b (Lv.a (Lv.b (Lv.a (Lv.b (A 33)))))) (K33_pr cal k) X0 (doneK P results33)))
noncomputable def K33_prr (cal : Cal) (k : Nat) : KR := (cutK (Lv.b (Lv.b (A 33))).c (codeE P cal (codeF P cal k) none 33 (cR (cR (cR code33))) (Lv.b (Lv.b (Lv.b (A 33)))) (doneK P results33) X0 (doneK P results33)))
noncomputable def K33_prrl (cal : Cal) (k : Nat) : KR := (cutK (Lv.a (Lv.b (Lv.b (A 33)))).c (codeE P cal (codeF P cal k) none 33 (cR (cL (cR (cR code33)))) (Lv.b (Lv.a (Lv.b (Lv.b (A 33))))) (K33_prr cal k) X0 (doneK P results33)))
noncomputable def K33_pxrrlr (cal : Cal) (k : Nat) : XR := (upX 0 (K33_prr cal k) X0)
noncomputable def K33_prrlrl (cal : Cal) (k : Nat) (m1 : Nat) : KR := (fun T H n D => codeF P cal m1 (Lv.a (Lv.b (Lv.a (Lv.b (Lv.b (A 33)))))) none 33 (cL (cR (cL (cR (cR code33))))) (K33_prr cal k) (K33_pxrrlr cal k) (doneK P results33) (cutT (Lv.a (Lv.b (Lv.a (Lv.b (Lv.b (A 33)))))).c T) H n D)
noncomputable def K33_prrlrll (cal : Cal) (k : Nat) (m1 : Nat) : KR := (cutK (Lv.a (Lv.a (Lv.b (Lv.a (Lv.b (Lv.b (A 33))))))).c (codeE P cal (codeF P cal m1) none 33 (cR (cL (cL (cR (cL (cR (cR code33))))))) (Lv.b (Lv.a (Lv.a (Lv.b (Lv.a (Lv.b (Lv.b (A 33)))))))) (K33_prrlrl cal k m1) (K33_pxrrlr cal k) (doneK P results33)))
noncomputable def K33_prrlrlll (cal : Cal) (k : Nat) (m1 : Nat) : KR := (cutK (Lv.a (Lv.a (Lv.a (Lv.b (Lv.a (Lv.b (Lv.b (A 33)))))))).c (codeE P cal (codeF P cal m1) none 33 (cR (cL (cL (cL (cR (cL (cR (cR code33)))))))) (Lv.b (Lv.a (Lv.a (Lv.a (Lv.b (Lv.a (Lv.b (Lv.b (A 33))))))))) (K33_prrlrll cal k m1) (K33_pxrrlr cal k) (doneK P results33)))
noncomputable def K33_prrlrllr (cal : Cal) (k : Nat) (m1 : Nat) : KR := (cutK (Lv.b (Lv.a (Lv.a (Lv.b (Lv.a (Lv.b (Lv.b (A 33)))))))).c (codeE P cal (codeF P cal m1) none 33 (cR (cR (cL (cL (cR (cL (cR (cR code33)))))))) (Lv.b (Lv.b (Lv.a (Lv.a (Lv.b (Lv.a (Lv.b (Lv.b (A 33))))))))) (K33_prrlrl cal k m1) (K33_pxrrlr cal k) (doneK P results33)))
noncomputable def K33_pxrrlrllrl (cal : Cal) (k : Nat) (m1 : Nat) : XR := (upX 1 (K33_prrlrllr cal k m1) (K33_pxrrlr cal k))
noncomputable def K33_prrlrllrll (cal : Cal) (k : Nat) (m1 : Nat) : KR := (cutK (Lv.a (Lv.a (Lv.b (Lv.a (Lv.a (Lv.b (Lv.a (Lv.b (Lv.b (A 33)))))))))).c (codeE P cal (codeF P cal m1) none 33 (cR (cL (cL (cR (cL (cL (cR (cL (cR (cR code33)))))))))) (Lv.b (Lv.a (Lv.a (Lv.b (Lv.a (Lv.a (Lv.b (Lv.a (Lv.b (Lv.b (A 33))))))))))) (K33_prrlrllr cal k m1) (K33_pxrrlrllrl cal k m1) (doneK P results33)))
noncomputable def K33_prrlrllrlll (cal : Cal) (k : Nat) (m1 : Nat) : KR := (cutK (Lv.a (Lv.a (Lv.a (Lv.b (Lv.a (Lv.a (Lv.b (Lv.a (Lv.b (Lv.b (A 33))))))))))).c (codeE P cal (codeF P cal m1) none 33 (cR (cL (cL (cL (cR (cL (cL (cR (cL (cR (cR code33))))))))))) (Lv.b (Lv.a (Lv.a (Lv.a (Lv.b (Lv.a (Lv.a (Lv.b (Lv.a (Lv.b (Lv.b (A 33)))))))))))) (K33_prrlrllrll cal k m1) (K33_pxrrlrllrl cal k m1) (doneK P results33)))
noncomputable def K33_prrlrllrlllrl (cal : Cal) (k : Nat) (m1 : Nat) : KR := (cutK (Lv.a (Lv.b (Lv.a (Lv.a (Lv.a (Lv.b (Lv.a (Lv.a (Lv.b (Lv.a (Lv.b (Lv.b (A 33))))))))))))).c (codeE P cal (codeF P cal m1) none 33 (cR (cL (cR (cL (cL (cL (cR (cL (cL (cR (cL (cR (cR code33))))))))))))) (Lv.b (Lv.a (Lv.b (Lv.a (Lv.a (Lv.a (Lv.b (Lv.a (Lv.a (Lv.b (Lv.a (Lv.b (Lv.b (A 33)))))))))))))) (K33_prrlrllrll cal k m1) (K33_pxrrlrllrl cal k m1) (doneK P results33)))
noncomputable def K33_prrlrllrlllrll (cal : Cal) (k : Nat) (m1 : Nat) : KR := (cutK (Lv.a (Lv.a (Lv.b (Lv.a (Lv.a (Lv.a (Lv.b (Lv.a (Lv.a (Lv.b (Lv.a (Lv.b (Lv.b (A 33)))))))))))))).c (codeE P cal (codeF P cal m1) none 33 (cR (cL (cL (cR (cL (cL (cL (cR (cL (cL (cR (cL (cR (cR code33)))))))))))))) (Lv.b (Lv.a (Lv.a (Lv.b (Lv.a (Lv.a (Lv.a (Lv.b (Lv.a (Lv.a (Lv.b (Lv.a (Lv.b (Lv.b (A 33))))))))))))))) (K33_prrlrllrlllrl cal k m1) (K33_pxrrlrllrl cal k m1) (doneK P results33)))
noncomputable def K33_prrlrllrlllrllrl (cal : Cal) (k : Nat) (m1 : Nat) : KR := (cutK (Lv.a (Lv.b (Lv.a (Lv.a (Lv.b (Lv.a (Lv.a (Lv.a (Lv.b (Lv.a (Lv.a (Lv.b (Lv.a (Lv.b (Lv.b (A 33)))))))))))))))).c (codeE P cal (codeF P cal m1) none 33 (cR (cL (cR (cL (cL (cR (cL (cL (cL (cR (cL (cL (cR (cL (cR (cR code33)))))))))))))))) (Lv.b (Lv.a (Lv.b (Lv.a (Lv.a (Lv.b (Lv.a (Lv.a (Lv.a (Lv.b (Lv.a (Lv.a (Lv.b (Lv.a (Lv.b (Lv.b (A 33))))))))))))))))) (K33_prrlrllrlllrl cal k m1) (K33_pxrrlrllrl cal k m1) (doneK P results33)))
noncomputable def K33_prrlrllrllr (cal : Cal) (k : Nat) (m1 : Nat) : KR := (cutK (Lv.b (Lv.a (Lv.a (Lv.b (Lv.a (Lv.a (Lv.b (Lv.a (Lv.b (Lv.b (A 33))))))))))).c (codeE P cal (codeF P cal m1) none 33 (cR (cR (cL (cL (cR (cL (cL (cR (cL (cR (cR code33))))))))))) (Lv.b (Lv.b (Lv.a (Lv.a (Lv.b (Lv.a (Lv.a (Lv.b (Lv.a (Lv.b (Lv.b (A 33)))))))))))) (K33_prrlrllr cal k m1) (K33_pxrrlrllrl cal k m1) (doneK P results33)))
noncomputable def K33_prrlrllrllrl (cal : Cal) (k : Nat) (m1 : Nat) : KR := (cutK (Lv.a (Lv.b (Lv.a (Lv.a (Lv.b (Lv.a (Lv.a (Lv.b (Lv.a (Lv.b (Lv.b (A 33)))))))))))).c (codeE P cal (codeF P cal m1) none 33 (cR (cL (cR (cL (cL (cR (cL (cL (cR (cL (cR (cR code33)))))))))))) (Lv.b (Lv.a (Lv.b (Lv.a (Lv.a (Lv.b (Lv.a (Lv.a (Lv.b (Lv.a (Lv.b (Lv.b (A 33))))))))))))) (K33_prrlrllrllr cal k m1) (K33_pxrrlrllrl cal k m1) (doneK P results33)))
noncomputable def K33_prrlrllrllrlrl (cal : Cal) (k : Nat) (m1 : Nat) : KR := (cutK (Lv.a (Lv.b (Lv.a (Lv.b (Lv.a (Lv.a (Lv.b (Lv.a (Lv.a (Lv.b (Lv.a (Lv.b (Lv.b (A 33)))))))))))))).c (codeE P cal (codeF P cal m1) none 33 (cR (cL (cR (cL (cR (cL (cL (cR (cL (cL (cR (cL (cR (cR code33)))))))))))))) (Lv.b (Lv.a (Lv.b (Lv.a (Lv.b (Lv.a (Lv.a (Lv.b (Lv.a (Lv.a (Lv.b (Lv.a (Lv.b (Lv.b (A 33))))))))))))))) (K33_prrlrllrllr cal k m1) (K33_pxrrlrllrl cal k m1) (doneK P results33)))
noncomputable def K33_prrlrllrllrr (cal : Cal) (k : Nat) (m1 : Nat) : KR := (cutK (Lv.b (Lv.b (Lv.a (Lv.a (Lv.b (Lv.a (Lv.a (Lv.b (Lv.a (Lv.b (Lv.b (A 33)))))))))))).c (codeE P cal (codeF P cal m1) none 33 (cR (cR (cR (cL (cL (cR (cL (cL (cR (cL (cR (cR code33)))))))))))) (Lv.b (Lv.b (Lv.b (Lv.a (Lv.a (Lv.b (Lv.a (Lv.a (Lv.b (Lv.a (Lv.b (Lv.b (A 33))))))))))))) (K33_prrlrllr cal k m1) (K33_pxrrlrllrl cal k m1) (doneK P results33)))
noncomputable def K33_prrlrllrllrrr (cal : Cal) (k : Nat) (m1 : Nat) : KR := (cutK (Lv.b (Lv.b (Lv.b (Lv.a (Lv.a (Lv.b (Lv.a (Lv.a (Lv.b (Lv.a (Lv.b (Lv.b (A 33))))))))))))).c (codeE P cal (codeF P cal m1) none 33 (cR (cR (cR (cR (cL (cL (cR (cL (cL (cR (cL (cR (cR code33))))))))))))) (Lv.b (Lv.b (Lv.b (Lv.b (Lv.a (Lv.a (Lv.b (Lv.a (Lv.a (Lv.b (Lv.a (Lv.b (Lv.b (A 33)))))))))))))) (K33_prrlrllr cal k m1) (K33_pxrrlrllrl cal k m1) (doneK P results33)))
noncomputable def K33_prrlrllrllrrrl (cal : Cal) (k : Nat) (m1 : Nat) : KR := (cutK (Lv.a (Lv.b (Lv.b (Lv.b (Lv.a (Lv.a (Lv.b (Lv.a (Lv.a (Lv.b (Lv.a (Lv.b (Lv.b (A 33)))))))))))))).c (codeE P cal (codeF P cal m1) none 33 (cR (cL (cR (cR (cR (cL (cL (cR (cL (cL (cR (cL (cR (cR code33)))))))))))))) (Lv.b (Lv.a (Lv.b (Lv.b (Lv.b (Lv.a (Lv.a (Lv.b (Lv.a (Lv.a (Lv.b (Lv.a (Lv.b (Lv.b (A 33))))))))))))))) (K33_prrlrllrllrrr cal k m1) (K33_pxrrlrllrl cal k m1) (doneK P results33)))
noncomputable def K33_pxrrlrllrllrrrlr (cal : Cal) (k : Nat) (m1 : Nat) : XR := (upX 2 (K33_prrlrllrllrrr cal k m1) (K33_pxrrlrllrl cal k m1))
noncomputable def K33_prrlrllrllrrrlrl (cal : Cal) (k : Nat) (m1 : Nat) (m2 : Nat) : KR := (fun T H n D => codeF P cal m2 (Lv.a (Lv.b (Lv.a (Lv.b (Lv.b (Lv.b (Lv.a (Lv.a (Lv.b (Lv.a (Lv.a (Lv.b (Lv.a (Lv.b (Lv.b (A 33)))))))))))))))) none 33 (cL (cR (cL (cR (cR (cR (cL (cL (cR (cL (cL (cR (cL (cR (cR code33))))))))))))))) (K33_prrlrllrllrrr cal k m1) (K33_pxrrlrllrllrrrlr cal k m1) (doneK P results33) (cutT (Lv.a (Lv.b (Lv.a (Lv.b (Lv.b (Lv.b (Lv.a (Lv.a (Lv.b (Lv.a (Lv.a (Lv.b (Lv.a (Lv.b (Lv.b (A 33)))))))))))))))).c T) H n D)
noncomputable def K33_prrlrllrllrrrlrll (cal : Cal) (k : Nat) (m1 : Nat) (m2 : Nat) : KR := (cutK (Lv.a (Lv.a (Lv.b (Lv.a (Lv.b (Lv.b (Lv.b (Lv.a (Lv.a (Lv.b (Lv.a (Lv.a (Lv.b (Lv.a (Lv.b (Lv.b (A 33))))))))))))))))).c (codeE P cal (codeF P cal m2) none 33 (cR (cL (cL (cR (cL (cR (cR (cR (cL (cL (cR (cL (cL (cR (cL (cR (cR code33))))))))))))))))) (Lv.b (Lv.a (Lv.a (Lv.b (Lv.a (Lv.b (Lv.b (Lv.b (Lv.a (Lv.a (Lv.b (Lv.a (Lv.a (Lv.b (Lv.a (Lv.b (Lv.b (A 33)))))))))))))))))) (K33_prrlrllrllrrrlrl cal k m1 m2) (K33_pxrrlrllrllrrrlr cal k m1) (doneK P results33)))
noncomputable def K33_prrlrllrllrrrlrlll (cal : Cal) (k : Nat) (m1 : Nat) (m2 : Nat) : KR := (cutK (Lv.a (Lv.a (Lv.a (Lv.b (Lv.a (Lv.b (Lv.b (Lv.b (Lv.a (Lv.a (Lv.b (Lv.a (Lv.a (Lv.b (Lv.a (Lv.b (Lv.b (A 33)))))))))))))))))).c (codeE P cal (codeF P cal m2) none 33 (cR (cL (cL (cL (cR (cL (cR (cR (cR (cL (cL (cR (cL (cL (cR (cL (cR (cR code33)))))))))))))))))) (Lv.b (Lv.a (Lv.a (Lv.a (Lv.b (Lv.a (Lv.b (Lv.b (Lv.b (Lv.a (Lv.a (Lv.b (Lv.a (Lv.a (Lv.b (Lv.a (Lv.b (Lv.b (A 33))))))))))))))))))) (K33_prrlrllrllrrrlrll cal k m1 m2) (K33_pxrrlrllrllrrrlr cal k m1) (doneK P results33)))
noncomputable def K33_prrlrllrllrrrlrllr (cal : Cal) (k : Nat) (m1 : Nat) (m2 : Nat) : KR := (cutK (Lv.b (Lv.a (Lv.a (Lv.b (Lv.a (Lv.b (Lv.b (Lv.b (Lv.a (Lv.a (Lv.b (Lv.a (Lv.a (Lv.b (Lv.a (Lv.b (Lv.b (A 33)))))))))))))))))).c (codeE P cal (codeF P cal m2) none 33 (cR (cR (cL (cL (cR (cL (cR (cR (cR (cL (cL (cR (cL (cL (cR (cL (cR (cR code33)))))))))))))))))) (Lv.b (Lv.b (Lv.a (Lv.a (Lv.b (Lv.a (Lv.b (Lv.b (Lv.b (Lv.a (Lv.a (Lv.b (Lv.a (Lv.a (Lv.b (Lv.a (Lv.b (Lv.b (A 33))))))))))))))))))) (K33_prrlrllrllrrrlrl cal k m1 m2) (K33_pxrrlrllrllrrrlr cal k m1) (doneK P results33)))
noncomputable def K33_pxrrlrllrllrrrlrllrl (cal : Cal) (k : Nat) (m1 : Nat) (m2 : Nat) : XR := (upX 3 (K33_prrlrllrllrrrlrllr cal k m1 m2) (K33_pxrrlrllrllrrrlr cal k m1))
noncomputable def K33_prrlrllrllrrrlrllrll (cal : Cal) (k : Nat) (m1 : Nat) (m2 : Nat) : KR := (cutK (Lv.a (Lv.a (Lv.b (Lv.a (Lv.a (Lv.b (Lv.a (Lv.b (Lv.b (Lv.b (Lv.a (Lv.a (Lv.b (Lv.a (Lv.a (Lv.b (Lv.a (Lv.b (Lv.b (A 33)))))))))))))))))))).c (codeE P cal (codeF P cal m2) none 33 (cR (cL (cL (cR (cL (cL (cR (cL (cR (cR (cR (cL (cL (cR (cL (cL (cR (cL (cR (cR code33)))))))))))))))))))) (Lv.b (Lv.a (Lv.a (Lv.b (Lv.a (Lv.a (Lv.b (Lv.a (Lv.b (Lv.b (Lv.b (Lv.a (Lv.a (Lv.b (Lv.a (Lv.a (Lv.b (Lv.a (Lv.b (Lv.b (A 33))))))))))))))))))))) (K33_prrlrllrllrrrlrllr cal k m1 m2) (K33_pxrrlrllrllrrrlrllrl cal k m1 m2) (doneK P results33)))
noncomputable def K33_prrlrllrllrrrlrllrllr (cal : Cal) (k : Nat) (m1 : Nat) (m2 : Nat) : KR := (cutK (Lv.b (Lv.a (Lv.a (Lv.b (Lv.a (Lv.a (Lv.b (Lv.a (Lv.b (Lv.b (Lv.b (Lv.a (Lv.a (Lv.b (Lv.a (Lv.a (Lv.b (Lv.a (Lv.b (Lv.b (A 33))))))))))))))))))))).c (codeE P cal (codeF P cal m2) none 33 (cR (cR (cL (cL (cR (cL (cL (cR (cL (cR (cR (cR (cL (cL (cR (cL (cL (cR (cL (cR (cR code33))))))))))))))))))))) (Lv.b (Lv.b (Lv.a (Lv.a (Lv.b (Lv.a (Lv.a (Lv.b (Lv.a (Lv.b (Lv.b (Lv.b (Lv.a (Lv.a (Lv.b (Lv.a (Lv.a (Lv.b (Lv.a (Lv.b (Lv.b (A 33)))))))))))))))))))))) (K33_prrlrllrllrrrlrllr cal k m1 m2) (K33_pxrrlrllrllrrrlrllrl cal k m1 m2) (doneK P results33)))
noncomputable def K33_prrlrllrllrrrlrllrllrl (cal : Cal) (k : Nat) (m1 : Nat) (m2 : Nat) : KR := (cutK (Lv.a (Lv.b (Lv.a (Lv.a (Lv.b (Lv.a (Lv.a (Lv.b (Lv.a (Lv.b (Lv.b (Lv.b (Lv.a (Lv.a (Lv.b (Lv.a (Lv.a (Lv.b (Lv.a (Lv.b (Lv.b (A 33)))))))))))))))))))))).c (codeE P cal (codeF P cal m2) none 33 (cR (cL (cR (cL (cL (cR (cL (cL (cR (cL (cR (cR (cR (cL (cL (cR (cL (cL (cR (cL (cR (cR code33)))))))))))))))))))))) (Lv.b (Lv.a (Lv.b (Lv.a (Lv.a (Lv.b (Lv.a (Lv.a (Lv.b (Lv.a (Lv.b (Lv.b (Lv.b (Lv.a (Lv.a (Lv.b (Lv.a (Lv.a (Lv.b (Lv.a (Lv.b (Lv.b (A 33))))))))))))))))))))))) (K33_prrlrllrllrrrlrllrllr cal k m1 m2) (K33_pxrrlrllrllrrrlrllrl cal k m1 m2) (doneK P results33)))
noncomputable def K33_prrlrllrllrrrlrllrllrlrl (cal : Cal) (k : Nat) (m1 : Nat) (m2 : Nat) : KR := (cutK (Lv.a (Lv.b (Lv.a (Lv.b (Lv.a (Lv.a (Lv.b (Lv.a (Lv.a (Lv.b (Lv.a (Lv.b (Lv.b (Lv.b (Lv.a (Lv.a (Lv.b (Lv.a (Lv.a (Lv.b (Lv.a (Lv.b (Lv.b (A 33)))))))))))))))))))))))).c (codeE P cal (codeF P cal m2) none 33 (cR (cL (cR (cL (cR (cL (cL (cR (cL (cL (cR (cL (cR (cR (cR (cL (cL (cR (cL (cL (cR (cL (cR (cR code33)))))))))))))))))))))))) (Lv.b (Lv.a (Lv.b (Lv.a (Lv.b (Lv.a (Lv.a (Lv.b (Lv.a (Lv.a (Lv.b (Lv.a (Lv.b (Lv.b (Lv.b (Lv.a (Lv.a (Lv.b (Lv.a (Lv.a (Lv.b (Lv.a (Lv.b (Lv.b (A 33))))))))))))))))))))))))) (K33_prrlrllrllrrrlrllrllr cal k m1 m2) (K33_pxrrlrllrllrrrlrllrl cal k m1 m2) (doneK P results33)))
noncomputable def K33_prrlrllrllrrrr (cal : Cal) (k : Nat) (m1 : Nat) : KR := (cutK (Lv.b (Lv.b (Lv.b (Lv.b (Lv.a (Lv.a (Lv.b (Lv.a (Lv.a (Lv.b (Lv.a (Lv.b (Lv.b (A 33)))))))))))))).c (codeE P cal (codeF P cal m1) none 33 (cR (cR (cR (cR (cR (cL (cL (cR (cL (cL (cR (cL (cR (cR code33)))))))))))))) (Lv.b (Lv.b (Lv.b (Lv.b (Lv.b (Lv.a (Lv.a (Lv.b (Lv.a (Lv.a (Lv.b (Lv.a (Lv.b (Lv.b (A 33))))))))))))))) (K33_prrlrllr cal k m1) (K33_pxrrlrllrl cal k m1) (doneK P results33)))
noncomputable def K33_prrlrllrllrrrrrl (cal : Cal) (k : Nat) (m1 : Nat) : KR := (cutK (Lv.a (Lv.b (Lv.b (Lv.b (Lv.b (Lv.b (Lv.a (Lv.a (Lv.b (Lv.a (Lv.a (Lv.b (Lv.a (Lv.b (Lv.b (A 33)))))))))))))))).c (codeE P cal (codeF P cal m1) none 33 (cR (cL (cR (cR (cR (cR (cR (cL (cL (cR (cL (cL (cR (cL (cR (cR code33)))))))))))))))) (Lv.b (Lv.a (Lv.b (Lv.b (Lv.b (Lv.b (Lv.b (Lv.a (Lv.a (Lv.b (Lv.a (Lv.a (Lv.b (Lv.a (Lv.b (Lv.b (A 33))))))))))))))))) (K33_prrlrllr cal k m1) (K33_pxrrlrllrl cal k m1) (doneK P results33)))
noncomputable def K33_prrr (cal : Cal) (k : Nat) : KR := (cutK (Lv.b (Lv.b (Lv.b (A 33)))).c (codeE P cal (codeF P cal k) none 33 (cR (cR (cR (cR code33)))) (Lv.b (Lv.b (Lv.b (Lv.b (A 33))))) (doneK P results33) X0 (doneK P results33)))
noncomputable def E33_2 (cal : Cal) (k m1 : Nat) : KR := codeE P cal (codeF P cal m1) none 33 (cR (cR (cL (cL (cR (cL (cR (cR code33)))))))) (Lv.b (Lv.b (Lv.a (Lv.a (Lv.b (Lv.a (Lv.b (Lv.b (A 33))))))))) (K33_prrlrl cal k m1) (K33_pxrrlr cal k) (doneK P results33)
noncomputable def E33_3 (cal : Cal) (k m1 m2 : Nat) : KR := codeE P cal (codeF P cal m2) none 33 (cL (cL (cR (cL (cR (cR (cR (cL (cL (cR (cL (cL (cR (cL (cR (cR code33)))))))))))))))) (Lv.a (Lv.a (Lv.b (Lv.a (Lv.b (Lv.b (Lv.b (Lv.a (Lv.a (Lv.b (Lv.a (Lv.a (Lv.b (Lv.a (Lv.b (Lv.b (A 33))))))))))))))))) (K33_prrlrllrllrrrlrl cal k m1 m2) (K33_pxrrlrllrllrrrlr cal k m1) (doneK P results33)
noncomputable def R33_3 (cal : Cal) (k m1 m2 : Nat) : V6 := fun u1 u2 u3 u7 u8 u9 H n => codeF P cal m2 (Lv.a (Lv.b (Lv.a (Lv.b (Lv.b (Lv.b (Lv.a (Lv.a (Lv.b (Lv.a (Lv.a (Lv.b (Lv.a (Lv.b (Lv.b (A 33)))))))))))))))) none 33 (cL (cR (cL (cR (cR (cR (cL (cL (cR (cL (cL (cR (cL (cR (cR code33))))))))))))))) (K33_prrlrllrllrrr cal k m1) (K33_pxrrlrllrllrrrlr cal k m1) (doneK P results33) (Tr.set (Tr.set (Tr.set (Tr.set (Tr.set (Tr.set Tr.nil 9 (some u9)) 8 (some u8)) 7 (some u7)) 3 (some u3)) 2 (some u2)) 1 (some u1)) H n []
noncomputable def E33_1 (cal : Cal) (k m1 : Nat) : KR := codeE P cal (codeF P cal m1) none 33 (cL (cL (cR (cL (cR (cR code33)))))) (Lv.a (Lv.a (Lv.b (Lv.a (Lv.b (Lv.b (A 33))))))) (K33_prrlrl cal k m1) (K33_pxrrlr cal k) (doneK P results33)
noncomputable def R33_1 (cal : Cal) (k m1 : Nat) : V4 := fun u1 u2 u3 u7 H n => codeF P cal m1 (Lv.a (Lv.b (Lv.a (Lv.b (Lv.b (A 33)))))) none 33 (cL (cR (cL (cR (cR code33))))) (K33_prr cal k) (K33_pxrrlr cal k) (doneK P results33) (Tr.set (Tr.set (Tr.set (Tr.set Tr.nil 7 (some u7)) 3 (some u3)) 2 (some u2)) 1 (some u1)) H n []
noncomputable def B33_2 (cal : Cal) (k m1 : Nat) (b1 : V4) (u1 u2 u3 u7 : Value) (H : Hp) (n : Nat) : Res :=
binK P .add 3 (.tmp 20) (.const (.int .i64 1)) u7 (.int .i64 1) fun v_h =>
b1 u1 u2 u3 v_h H n
noncomputable def C33_2 (cal : Cal) (k m1 : Nat) (b1 : V4) (u1 u2 u3 u7 : Value) (H : Hp) (n : Nat) : Res := B33_2 cal k m1 b1 u1 u2 u3 u7 H n
theorem h33_2 (cal : Cal) (k m1 : Nat) (u1 u2 u3 u7 : Value) (H : Hp) (n : Nat) : labK (E33_2 cal k m1) (Tr.set (Tr.set (Tr.set (Tr.set Tr.nil 7 (some u7)) 3 (some u3)) 2 (some u2)) 1 (some u1)) H n [] = C33_2 cal k m1 (R33_1 cal k m1) u1 u2 u3 u7 H n := by
  refine Eq.trans (b := B33_2 cal k m1 (R33_1 cal k m1) u1 u2 u3 u7 H n) (by kernel_rfl) ?_
  rw [C33_2]
noncomputable def B33_3 (cal : Cal) (k m1 m2 : Nat) (j2 : V4) (b1 : V4) (b3 : V6) (u1 u2 u3 u7 u8 u9 : Value) (H : Hp) (n : Nat) : Res :=
bindO (lenV P 44 u1) fun v_1b =>
binK P .lss 3 (.tmp 41) (.tmp 43) u9 v_1b fun v_1c =>
ifK v_1c (
bindO (addrV u3) fun a_1d => bindO (loadV P H 26 a_1d) fun v_1e =>
bindO (indexAddrV P 44 u1 u7) fun v_1h =>
bindO (addrV v_1h) fun a_1i => bindO (loadV P H 3 a_1i) fun v_1j =>
bindO (zeroT P 55) fun z_1o => newK (cellsV z_1o) 55 H n fun H_1m n_1n =>
effK P [(.a n (cellsV z_1o) 55)] H_1m n_1n (fun H_1p n_1q k_1r =>
callFK P cal 77 [v_1e, v_1j, u7, u9] H_1p n_1q fun v_1v H_1w n_1x =>
k_1r v_1v H_1w n_1x) fun v_1s H_1t n_1u =>
bindO (storeP P 55 (ptr n) v_1s H_1t) fun H_1z =>
bindO (indexAddrV P 59 u2 u7) fun v_22 =>
bindO (addrV v_22) fun a_23 => bindO (loadV P H_1z 44 a_23) fun v_24 =>
bindO (indexAddrV P 44 v_24 u9) fun v_26 =>
bindO (addrV v_26) fun a_27 => bindO (loadV P H_1z 3 a_27) fun v_28 =>
bindO (fieldAddrV P 55 (ptr n) 0) fun v_29 =>
bindO (addrV v_29) fun a_2a => bindO (loadV P H_1z 3 a_2a) fun v_2b =>
bindO (fieldAddrV P 55 (ptr n) 1) fun v_2c =>
bindO (addrV v_2c) fun a_2d => bindO (loadV P H_1z 3 a_2d) fun v_2e =>
callFK P cal 32 [v_28, v_2b, v_2e] H_1z n_1u fun v_2f H_2g n_2h =>
bindO (pureSem P v_2f (Op.unary UnOp.not v_2f)) fun v_2i =>
ifK v_2i (
some ((.bool false), H_2g, n_2h)) (
bindO (indexAddrV P 59 u2 u7) fun v_2n =>
bindO (addrV v_2n) fun a_2p => bindO (loadV P H_2g 44 a_2p) fun v_2o =>
bindO (indexAddrV P 44 v_2o u9) fun v_2r =>
bindO (addrV v_2r) fun a_2t => bindO (loadV P H_2g 3 a_2t) fun v_2s =>
binK P .add 3 (.tmp 68) (.tmp 75) u8 v_2s fun v_2u =>
binK P .add 3 (.tmp 45) (.const (.int .i64 1)) u9 (.int .i64 1) fun v_2x =>
b3 u1 u2 u3 u7 v_2u v_2x H_2g n_2h)) (
bindO (fieldAddrV P 26 u3 2) fun v_30 =>
bindO (addrV v_30) fun a_31 => bindO (loadV P H 24 a_31) fun v_32 =>
bindO (indexAddrV P 44 u1 u7) fun v_35 =>
bindO (addrV v_35) fun a_36 => bindO (loadV P H 3 a_36) fun v_37 =>
bindO (indexAddrV P 24 v_32 v_37) fun v_38 =>
bindO (fieldAddrV P 94 v_38 0) fun v_39 =>
bindO (addrV v_39) fun a_3a => bindO (loadV P H 3 a_3a) fun v_3b =>
binK P .neq 3 (.tmp 77) (.tmp 86) u8 v_3b fun v_3c =>
ifK v_3c (
some ((.bool false), H, n)) (
j2 u1 u2 u3 u7 H n))
noncomputable def C33_3 (cal : Cal) (k m1 m2 : Nat) (b1 : V4) (b3 : V6) (u1 u2 u3 u7 u8 u9 : Value) (H : Hp) (n : Nat) : Res := B33_3 cal k m1 m2 (C33_2 cal k m1 b1) b1 b3 u1 u2 u3 u7 u8 u9 H n
noncomputable def S33_3 (cal : Cal) (k m1 : Nat) (b1 : V4) : Nat → V6 := fun m => Nat.rec (motive := fun _ => V6) (C33_3 cal k m1 0 b1 (fun _ _ _ _ _ _ _ _ => none)) (fun m ih => C33_3 cal k m1 (m + 1) b1 ih) m
theorem h33_3 (cal : Cal) (k m1 m2 : Nat) (u1 u2 u3 u7 u8 u9 : Value) (H : Hp) (n : Nat) : labK (E33_3 cal k m1 m2) (Tr.set (Tr.set (Tr.set (Tr.set (Tr.set (Tr.set Tr.nil 9 (some u9)) 8 (some u8)) 7 (some u7)) 3 (some u3)) 2 (some u2)) 1 (some u1)) H n [] = C33_3 cal k m1 m2 (R33_1 cal k m1) (R33_3 cal k m1 m2) u1 u2 u3 u7 u8 u9 H n := by
  refine Eq.trans (b := B33_3 cal k m1 m2 (fun u1 u2 u3 u7 H n => labK (E33_2 cal k m1) (Tr.set (Tr.set (Tr.set (Tr.set Tr.nil 7 (some u7)) 3 (some u3)) 2 (some u2)) 1 (some u1)) H n []) (R33_1 cal k m1) (R33_3 cal k m1 m2) u1 u2 u3 u7 u8 u9 H n) (by kernel_rfl) ?_
  rw [C33_3]
  have e2 : (fun u1 u2 u3 u7 H n => labK (E33_2 cal k m1) (Tr.set (Tr.set (Tr.set (Tr.set Tr.nil 7 (some u7)) 3 (some u3)) 2 (some u2)) 1 (some u1)) H n []) = (C33_2 cal k m1 (R33_1 cal k m1)) := by funext u1 u2 u3 u7 H n; exact h33_2 ..
  rw [e2]
theorem q33_3 (cal : Cal) (k m1 : Nat) : ∀ (m : Nat) (u1 u2 u3 u7 u8 u9 : Value) (H : Hp) (n : Nat), labK (E33_3 cal k m1 m) (Tr.set (Tr.set (Tr.set (Tr.set (Tr.set (Tr.set Tr.nil 9 (some u9)) 8 (some u8)) 7 (some u7)) 3 (some u3)) 2 (some u2)) 1 (some u1)) H n [] = S33_3 cal k m1 (R33_1 cal k m1) m u1 u2 u3 u7 u8 u9 H n
  | 0, u1, u2, u3, u7, u8, u9, H, n => by
    rw [h33_3]
    have e : R33_3 cal k m1 0 = fun _ _ _ _ _ _ _ _ => none := by funext u1 u2 u3 u7 u8 u9 H n; kernel_rfl
    rw [e]; rfl
  | m + 1, u1, u2, u3, u7, u8, u9, H, n => by
    rw [h33_3]
    have e : R33_3 cal k m1 (m + 1) = S33_3 cal k m1 (R33_1 cal k m1) m := by
      funext u1 u2 u3 u7 u8 u9 H n
      have e : R33_3 cal k m1 (m + 1) u1 u2 u3 u7 u8 u9 H n = labK (E33_3 cal k m1 m) (Tr.set (Tr.set (Tr.set (Tr.set (Tr.set (Tr.set Tr.nil 9 (some u9)) 8 (some u8)) 7 (some u7)) 3 (some u3)) 2 (some u2)) 1 (some u1)) H n [] := by kernel_rfl
      rw [e]; exact q33_3 ..
    rw [e]; rfl
noncomputable def B33_1 (cal : Cal) (k m1 : Nat) (j2 : V4) (j3 : V6) (b1 : V4) (u1 u2 u3 u7 : Value) (H : Hp) (n : Nat) : Res :=
bindO (lenV P 44 u1) fun v_e =>
binK P .lss 3 (.tmp 16) (.tmp 18) u7 v_e fun v_f =>
ifK v_f (
bindO (indexAddrV P 44 u1 u7) fun v_l =>
bindO (addrV v_l) fun a_n => bindO (loadV P H 3 a_n) fun v_m =>
binK P .lss 3 (.tmp 25) (.const (.int .i64 0)) v_m (.int .i64 0) fun v_o =>
ifK v_o (
bindO (indexAddrV P 59 u2 u7) fun v_r =>
bindO (addrV v_r) fun a_t => bindO (loadV P H 44 a_t) fun v_s =>
bindO (lenV P 44 v_s) fun v_u =>
binK P .neq 3 (.tmp 31) (.const (.int .i64 0)) v_u (.int .i64 0) fun v_v =>
ifK v_v (
some ((.bool false), H, n)) (
j2 u1 u2 u3 u7 H n)) (
bindO (indexAddrV P 59 u2 u7) fun v_z =>
bindO (addrV v_z) fun a_11 => bindO (loadV P H 44 a_11) fun v_10 =>
bindO (lenV P 44 v_10) fun v_12 =>
bindO (lenV P 44 u1) fun v_14 =>
binK P .neq 3 (.tmp 37) (.tmp 39) v_12 v_14 fun v_15 =>
ifK v_15 (
some ((.bool false), H, n)) (
j3 u1 u2 u3 u7 (.int .i64 0) (.int .i64 0) H n))) (
some ((.bool true), H, n))
noncomputable def C33_1 (cal : Cal) (k m1 : Nat) (b1 : V4) (u1 u2 u3 u7 : Value) (H : Hp) (n : Nat) : Res := B33_1 cal k m1 (C33_2 cal k m1 b1) (S33_3 cal k m1 b1 m1) b1 u1 u2 u3 u7 H n
noncomputable def S33_1 (cal : Cal) (k : Nat) : Nat → V4 := fun m => Nat.rec (motive := fun _ => V4) (C33_1 cal k 0 (fun _ _ _ _ _ _ => none)) (fun m ih => C33_1 cal k (m + 1) ih) m
theorem h33_1 (cal : Cal) (k m1 : Nat) (u1 u2 u3 u7 : Value) (H : Hp) (n : Nat) : labK (E33_1 cal k m1) (Tr.set (Tr.set (Tr.set (Tr.set Tr.nil 7 (some u7)) 3 (some u3)) 2 (some u2)) 1 (some u1)) H n [] = C33_1 cal k m1 (R33_1 cal k m1) u1 u2 u3 u7 H n := by
  refine Eq.trans (b := B33_1 cal k m1 (fun u1 u2 u3 u7 H n => labK (E33_2 cal k m1) (Tr.set (Tr.set (Tr.set (Tr.set Tr.nil 7 (some u7)) 3 (some u3)) 2 (some u2)) 1 (some u1)) H n []) (fun u1 u2 u3 u7 u8 u9 H n => labK (E33_3 cal k m1 m1) (Tr.set (Tr.set (Tr.set (Tr.set (Tr.set (Tr.set Tr.nil 9 (some u9)) 8 (some u8)) 7 (some u7)) 3 (some u3)) 2 (some u2)) 1 (some u1)) H n []) (R33_1 cal k m1) u1 u2 u3 u7 H n) (by kernel_rfl) ?_
  rw [C33_1]
  have e2 : (fun u1 u2 u3 u7 H n => labK (E33_2 cal k m1) (Tr.set (Tr.set (Tr.set (Tr.set Tr.nil 7 (some u7)) 3 (some u3)) 2 (some u2)) 1 (some u1)) H n []) = (C33_2 cal k m1 (R33_1 cal k m1)) := by funext u1 u2 u3 u7 H n; exact h33_2 ..
  rw [e2]
  have e3 : (fun u1 u2 u3 u7 u8 u9 H n => labK (E33_3 cal k m1 m1) (Tr.set (Tr.set (Tr.set (Tr.set (Tr.set (Tr.set Tr.nil 9 (some u9)) 8 (some u8)) 7 (some u7)) 3 (some u3)) 2 (some u2)) 1 (some u1)) H n []) = (S33_3 cal k m1 (R33_1 cal k m1) m1) := by funext u1 u2 u3 u7 u8 u9 H n; exact q33_3 ..
  rw [e3]
theorem q33_1 (cal : Cal) (k : Nat) : ∀ (m : Nat) (u1 u2 u3 u7 : Value) (H : Hp) (n : Nat), labK (E33_1 cal k m) (Tr.set (Tr.set (Tr.set (Tr.set Tr.nil 7 (some u7)) 3 (some u3)) 2 (some u2)) 1 (some u1)) H n [] = S33_1 cal k m u1 u2 u3 u7 H n
  | 0, u1, u2, u3, u7, H, n => by
    rw [h33_1]
    have e : R33_1 cal k 0 = fun _ _ _ _ _ _ => none := by funext u1 u2 u3 u7 H n; kernel_rfl
    rw [e]; rfl
  | m + 1, u1, u2, u3, u7, H, n => by
    rw [h33_1]
    have e : R33_1 cal k (m + 1) = S33_1 cal k m := by
      funext u1 u2 u3 u7 H n
      have e : R33_1 cal k (m + 1) u1 u2 u3 u7 H n = labK (E33_1 cal k m) (Tr.set (Tr.set (Tr.set (Tr.set Tr.nil 7 (some u7)) 3 (some u3)) 2 (some u2)) 1 (some u1)) H n [] := by kernel_rfl
      rw [e]; exact q33_1 ..
    rw [e]; rfl
noncomputable def B33_0 (cal : Cal) (k : Nat) (j1 : V4) (v0 v1 v2 : Value) (H : Hp) (n : Nat) : Res :=
boxK 26 v0 H n fun v_1 H_2 n_3 =>
bindO (lenV P 59 v2) fun v_6 =>
bindO (lenV P 44 v1) fun v_8 =>
binK P .neq 3 (.tmp 12) (.tmp 14) v_6 v_8 fun v_9 =>
ifK v_9 (
some ((.bool false), H_2, n_3)) (
j1 v1 v2 v_1 (.int .i64 0) H_2 n_3)
noncomputable def C33_0 (cal : Cal) (k : Nat) (v0 v1 v2 : Value) (H : Hp) (n : Nat) : Res := B33_0 cal k (S33_1 cal k k) v0 v1 v2 H n
theorem h33_0 (cal : Cal) (k : Nat) (v0 v1 v2 : Value) (H : Hp) (n : Nat) : bodyE P cal A (k + 1) 33 [v0, v1, v2] H n = C33_0 cal k v0 v1 v2 H n := by
  have h : bodyE P cal A (k + 1) 33 [v0, v1, v2] H n = B33_0 cal k (fun u1 u2 u3 u7 H n => labK (E33_1 cal k k) (Tr.set (Tr.set (Tr.set (Tr.set Tr.nil 7 (some u7)) 3 (some u3)) 2 (some u2)) 1 (some u1)) H n []) v0 v1 v2 H n := by
    rw [body_eq (fn := Go.Proofs.Try.f33) (c := code33) (rs := results33) (by kernel_rfl) (by kernel_rfl) (by kernel_rfl) (by kernel_rfl)]
    kernel_rfl
  rw [h, C33_0]
  have e1 : (fun u1 u2 u3 u7 H n => labK (E33_1 cal k k) (Tr.set (Tr.set (Tr.set (Tr.set Tr.nil 7 (some u7)) 3 (some u3)) 2 (some u2)) 1 (some u1)) H n []) = (S33_1 cal k k) := by funext u1 u2 u3 u7 H n; exact q33_1 ..
  rw [e1]
end Go.Proofs.Ytgojjellogiglaa.G
