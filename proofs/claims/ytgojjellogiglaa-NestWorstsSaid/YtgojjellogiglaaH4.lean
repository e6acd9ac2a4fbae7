/- The texts of functions, each with the proof that the evaluator says the same. -/
import Derived.Test.YtgojjellogiglaaH1
open Go Go.Ev
set_option maxRecDepth 1000000
set_option linter.unusedVariables false
noncomputable section
namespace Go.Proofs.Ytgojjellogiglaa.G
noncomputable def code64 : Code := codeOf 64
noncomputable def results64 : List ResultVar := resOf 64
noncomputable def K64_p (cal : Cal) (k : Nat) : KR := (cutK (A 64).c (codeE P cal (codeF P cal k) none 64 (cR code64) (Lv.b (A 64)) (doneK P results64) X0 (doneK P results64)))
noncomputable def K64_pr (cal : Cal) (k : Nat) : KR := (cutK (Lv.b (A 64)).c (codeE P cal (codeF P cal k) none 64 (cR (cR code64)) (Lv.b (Lv.b (A 64))) (doneK P results64) X0 (doneK P results64)))
noncomputable def K64_prr (cal : Cal) (k : Nat) : KR := (cutK (Lv.b (Lv.b (A 64))).c (codeE P cal (codeF P cal k) none 64 (cR (cR (cR code64))) (Lv.b (Lv.b (Lv.b (A 64)))) (doneK P results64) X0 (doneK P results64)))
noncomputable def K64_prrl (cal : Cal) (k : Nat) : KR := (cutK (Lv.a (Lv.b (Lv.b (A 64)))).c (codeE P cal (codeF P cal k) none 64 (cR (cL (cR (cR code64)))) (Lv.b (Lv.a (Lv.b (Lv.b (A 64))))) (K64_prr cal k) X0 (doneK P results64)))
noncomputable def K64_pxrrlr (cal : Cal) (k : Nat) : XR := (upX 0 (K64_prr cal k) X0)
noncomputable def K64_prrlrl (cal : Cal) (k : Nat) (m1 : Nat) : KR := (fun T H n D => codeF P cal m1 (Lv.a (Lv.b (Lv.a (Lv.b (Lv.b (A 64)))))) none 64 (cL (cR (cL (cR (cR code64))))) (K64_prr cal k) (K64_pxrrlr cal k) (doneK P results64) (cutT (Lv.a (Lv.b (Lv.a (Lv.b (Lv.b (A 64)))))).c T) H n D)
noncomputable def K64_prrlrll (cal : Cal) (k : Nat) (m1 : Nat) : KR := (cutK (Lv.a (Lv.a (Lv.b (Lv.a (Lv.b (Lv.b (A 64))))))).c (codeE P cal (codeF P cal m1) none 64 (cR (cL (cL (cR (cL (cR (cR code64))))))) (Lv.b (Lv.a (Lv.a (Lv.b (Lv.a (Lv.b (Lv.b (A 64)))))))) (K64_prrlrl cal k m1) (K64_pxrrlr cal k) (doneK P results64)))
noncomputable def K64_prrlrlll (cal : Cal) (k : Nat) (m1 : Nat) : KR := (cutK (Lv.a (Lv.a (Lv.a (Lv.b (Lv.a (Lv.b (Lv.b (A 64)))))))).c (codeE P cal (codeF P cal m1) none 64 (cR (cL (cL (cL (cR (cL (cR (cR code64)))))))) (Lv.b (Lv.a (Lv.a (Lv.a (Lv.b (Lv.a (Lv.b (Lv.b (A 64))))))))) (K64_prrlrll cal k m1) (K64_pxrrlr cal k) (doneK P results64)))
noncomputable def K64_prrlrllr (cal : Cal) (k : Nat) (m1 : Nat) : KR := (cutK (Lv.b (Lv.a (Lv.a (Lv.b (Lv.a (Lv.b (Lv.b (A 64)))))))).c (codeE P cal (codeF P cal m1) none 64 (cR (cR (cL (cL (cR (cL (cR (cR code64)))))))) (Lv.b (Lv.b (Lv.a (Lv.a (Lv.b (Lv.a (Lv.b (Lv.b (A 64))))))))) (K64_prrlrl cal k m1) (K64_pxrrlr cal k) (doneK P results64)))
noncomputable def K64_pxrrlrllrl (cal : Cal) (k : Nat) (m1 : Nat) : XR := (upX 1 (K64_prrlrllr cal k m1) (K64_pxrrlr cal k))
noncomputable def K64_prrlrllrll (cal : Cal) (k : Nat) (m1 : Nat) : KR := (cutK (Lv.a (Lv.a (Lv.b (Lv.a (Lv.a (Lv.b (Lv.a (Lv.b (Lv.b (A 64)))))))))).c (codeE P cal (codeF P cal m1) none 64 (cR (cL (cL (cR (cL (cL (cR (cL (cR (cR code64)))))))))) (Lv.b (Lv.a (Lv.a (Lv.b (Lv.a (Lv.a (Lv.b (Lv.a (Lv.b (Lv.b (A 64))))))))))) (K64_prrlrllr cal k m1) (K64_pxrrlrllrl cal k m1) (doneK P results64)))
noncomputable def K64_prrlrllrllr (cal : Cal) (k : Nat) (m1 : Nat) : KR := (cutK (Lv.b (Lv.a (Lv.a (Lv.b (Lv.a (Lv.a (Lv.b (Lv.a (Lv.b (Lv.b (A 64))))))))))).c (codeE P cal (codeF P cal m1) none 64 (cR (cR (cL (cL (cR (cL (cL (cR (cL (cR (cR code64))))))))))) (Lv.b (Lv.b (Lv.a (Lv.a (Lv.b (Lv.a (Lv.a (Lv.b (Lv.a (Lv.b (Lv.b (A 64)))))))))))) (K64_prrlrllr cal k m1) (K64_pxrrlrllrl cal k m1) (doneK P results64)))
noncomputable def K64_prrr (cal : Cal) (k : Nat) : KR := (cutK (Lv.b (Lv.b (Lv.b (A 64)))).c (codeE P cal (codeF P cal k) none 64 (cR (cR (cR (cR code64)))) (Lv.b (Lv.b (Lv.b (Lv.b (A 64))))) (doneK P results64) X0 (doneK P results64)))
noncomputable def K64_prrrr (cal : Cal) (k : Nat) : KR := (cutK (Lv.b (Lv.b (Lv.b (Lv.b (A 64))))).c (codeE P cal (codeF P cal k) none 64 (cR (cR (cR (cR (cR code64))))) (Lv.b (Lv.b (Lv.b (Lv.b (Lv.b (A 64)))))) (doneK P results64) X0 (doneK P results64)))
noncomputable def E64_2 (cal : Cal) (k m1 : Nat) : KR := codeE P cal (codeF P cal m1) none 64 (cR (cR (cL (cL (cR (cL (cR (cR code64)))))))) (Lv.b (Lv.b (Lv.a (Lv.a (Lv.b (Lv.a (Lv.b (Lv.b (A 64))))))))) (K64_prrlrl cal k m1) (K64_pxrrlr cal k) (doneK P results64)
noncomputable def E64_1 (cal : Cal) (k m1 : Nat) : KR := codeE P cal (codeF P cal m1) none 64 (cL (cL (cR (cL (cR (cR code64)))))) (Lv.a (Lv.a (Lv.b (Lv.a (Lv.b (Lv.b (A 64))))))) (K64_prrlrl cal k m1) (K64_pxrrlr cal k) (doneK P results64)
noncomputable def R64_1 (cal : Cal) (k m1 : Nat) : V8 := fun u1 u2 u3 u4 u5 u11 u12 u13 H n => codeF P cal m1 (Lv.a (Lv.b (Lv.a (Lv.b (Lv.b (A 64)))))) none 64 (cL (cR (cL (cR (cR code64))))) (K64_prr cal k) (K64_pxrrlr cal k) (doneK P results64) (Tr.set (Tr.set (Tr.set (Tr.set (Tr.set (Tr.set (Tr.set (Tr.set Tr.nil 13 (some u13)) 12 (some u12)) 11 (some u11)) 5 (some u5)) 4 (some u4)) 3 (some u3)) 2 (some u2)) 1 (some u1)) H n []
noncomputable def B64_2 (cal : Cal) (k m1 : Nat) (b1 : V8) (u1 u2 u3 u4 u5 u11 u12 u13 : Value) (H : Hp) (n : Nat) : Res :=
binK P .add 3 (.tmp 23) (.const (.int .i64 1)) u13 (.int .i64 1) fun v_h =>
b1 u1 u2 u3 u4 u5 u11 u12 v_h H n
noncomputable def C64_2 (cal : Cal) (k m1 : Nat) (b1 : V8) (u1 u2 u3 u4 u5 u11 u12 u13 : Value) (H : Hp) (n : Nat) : Res := B64_2 cal k m1 b1 u1 u2 u3 u4 u5 u11 u12 u13 H n
theorem h64_2 (cal : Cal) (k m1 : Nat) (u1 u2 u3 u4 u5 u11 u12 u13 : Value) (H : Hp) (n : Nat) : labK (E64_2 cal k m1) (Tr.set (Tr.set (Tr.set (Tr.set (Tr.set (Tr.set (Tr.set (Tr.set Tr.nil 13 (some u13)) 12 (some u12)) 11 (some u11)) 5 (some u5)) 4 (some u4)) 3 (some u3)) 2 (some u2)) 1 (some u1)) H n [] = C64_2 cal k m1 (R64_1 cal k m1) u1 u2 u3 u4 u5 u11 u12 u13 H n := by
  refine Eq.trans (b := B64_2 cal k m1 (R64_1 cal k m1) u1 u2 u3 u4 u5 u11 u12 u13 H n) (by kernel_rfl) ?_
  rw [C64_2]
noncomputable def B64_1 (cal : Cal) (k m1 : Nat) (j2 : V8) (b1 : V8) (u1 u2 u3 u4 u5 u11 u12 u13 : Value) (H : Hp) (n : Nat) : Res :=
bindO (fieldAddrV P 26 u5 0) fun v_b =>
bindO (addrV v_b) fun a_d => bindO (loadV P H 22 a_d) fun v_c =>
bindO (lenV P 22 v_c) fun v_e =>
binK P .lss 3 (.tmp 18) (.tmp 21) u13 v_e fun v_f =>
ifK v_f (
bindO (addrV u5) fun a_k => bindO (loadV P H 26 a_k) fun v_j =>
callFK P cal 77 [v_j, u1, u2, u13] H n fun v_o H_p n_q =>
allocK P 55 H_p n_q fun v_r H_s n_t =>
bindO (storeP P 55 v_r v_o H_s) fun H_v =>
binK P .neq 3 (.tmp 30) (.tmp 31) u13 u3 fun v_y =>
ifK v_y (
bindO (fieldAddrV P 55 v_r 0) fun v_10 =>
bindO (addrV v_10) fun a_11 => bindO (loadV P H_v 3 a_11) fun v_12 =>
binK P .add 3 (.tmp 33) (.tmp 35) u11 v_12 fun v_13 =>
bindO (fieldAddrV P 55 v_r 1) fun v_15 =>
bindO (addrV v_15) fun a_16 => bindO (loadV P H_v 3 a_16) fun v_17 =>
binK P .add 3 (.tmp 37) (.tmp 39) u12 v_17 fun v_18 =>
j2 u1 u2 u3 u4 u5 v_13 v_18 u13 H_v n_t) (
j2 u1 u2 u3 u4 u5 u11 u12 u13 H_v n_t)) (
bindO (addrV u5) fun a_1c => bindO (loadV P H 26 a_1c) fun v_1b =>
callFK P cal 77 [v_1b, u1, u2, u3] H n fun v_1g H_1h n_1i =>
allocK P 55 H_1h n_1i fun v_1j H_1k n_1l =>
bindO (storeP P 55 v_1j v_1g H_1k) fun H_1n =>
bindO (fieldAddrV P 55 v_1j 0) fun v_1p =>
bindO (addrV v_1p) fun a_1r => bindO (loadV P H_1n 3 a_1r) fun v_1q =>
bindO (fieldAddrV P 55 v_1j 1) fun v_1s =>
bindO (addrV v_1s) fun a_1u => bindO (loadV P H_1n 3 a_1u) fun v_1t =>
callFK P cal 32 [u4, v_1q, v_1t] H_1n n_1l fun v_1v H_1w n_1x =>
guardK v_1v true (fun k_1z =>
bindO (fieldAddrV P 26 u5 2) fun v_23 =>
k_1z v_23 H_1w n_1x) H_1w n_1x fun v_20 H_21 n_22 =>
guardK v_1v true (fun k_24 =>
bindO (addrV v_20) fun a_29 => bindO (loadV P H_21 24 a_29) fun v_28 =>
k_24 v_28 H_21 n_22) H_21 n_22 fun v_25 H_26 n_27 =>
guardK v_1v true (fun k_2a =>
k_2a u1 H_26 n_27) H_26 n_27 fun v_2b H_2c n_2d =>
guardK v_1v true (fun k_2f =>
bindO (indexAddrV P 24 v_25 v_2b) fun v_2j =>
k_2f v_2j H_2c n_2d) H_2c n_2d fun v_2g H_2h n_2i =>
guardK v_1v true (fun k_2k =>
bindO (fieldAddrV P 94 v_2g 0) fun v_2o =>
k_2k v_2o H_2h n_2i) H_2h n_2i fun v_2l H_2m n_2n =>
guardK v_1v true (fun k_2p =>
bindO (addrV v_2l) fun a_2u => bindO (loadV P H_2m 3 a_2u) fun v_2t =>
k_2p v_2t H_2m n_2n) H_2m n_2n fun v_2q H_2r n_2s =>
guardK v_1v true (fun k_2v =>
k_2v u11 H_2r n_2s) H_2r n_2s fun v_2w H_2x n_2y =>
guardK v_1v true (fun k_30 =>
k_30 u12 H_2x n_2y) H_2x n_2y fun v_31 H_32 n_33 =>
guardK v_1v true (fun k_35 =>
callFK P cal 32 [v_2q, v_2w, v_31] H_32 n_33 fun v_39 H_3a n_3b =>
k_35 v_39 H_3a n_3b) H_32 n_33 fun v_36 H_37 n_38 =>
bindO (pickV v_1v v_36 (.bool false)) fun v_3c =>
some (v_3c, H_37, n_38))
noncomputable def C64_1 (cal : Cal) (k m1 : Nat) (b1 : V8) (u1 u2 u3 u4 u5 u11 u12 u13 : Value) (H : Hp) (n : Nat) : Res := B64_1 cal k m1 (C64_2 cal k m1 b1) b1 u1 u2 u3 u4 u5 u11 u12 u13 H n
noncomputable def S64_1 (cal : Cal) (k : Nat) : Nat → V8 := fun m => Nat.rec (motive := fun _ => V8) (C64_1 cal k 0 (fun _ _ _ _ _ _ _ _ _ _ => none)) (fun m ih => C64_1 cal k (m + 1) ih) m
theorem h64_1 (cal : Cal) (k m1 : Nat) (u1 u2 u3 u4 u5 u11 u12 u13 : Value) (H : Hp) (n : Nat) : labK (E64_1 cal k m1) (Tr.set (Tr.set (Tr.set (Tr.set (Tr.set (Tr.set (Tr.set (Tr.set Tr.nil 13 (some u13)) 12 (some u12)) 11 (some u11)) 5 (some u5)) 4 (some u4)) 3 (some u3)) 2 (some u2)) 1 (some u1)) H n [] = C64_1 cal k m1 (R64_1 cal k m1) u1 u2 u3 u4 u5 u11 u12 u13 H n := by
  refine Eq.trans (b := B64_1 cal k m1 (fun u1 u2 u3 u4 u5 u11 u12 u13 H n => labK (E64_2 cal k m1) (Tr.set (Tr.set (Tr.set (Tr.set (Tr.set (Tr.set (Tr.set (Tr.set Tr.nil 13 (some u13)) 12 (some u12)) 11 (some u11)) 5 (some u5)) 4 (some u4)) 3 (some u3)) 2 (some u2)) 1 (some u1)) H n []) (R64_1 cal k m1) u1 u2 u3 u4 u5 u11 u12 u13 H n) (by kernel_rfl) ?_
  rw [C64_1]
  have e2 : (fun u1 u2 u3 u4 u5 u11 u12 u13 H n => labK (E64_2 cal k m1) (Tr.set (Tr.set (Tr.set (Tr.set (Tr.set (Tr.set (Tr.set (Tr.set Tr.nil 13 (some u13)) 12 (some u12)) 11 (some u11)) 5 (some u5)) 4 (some u4)) 3 (some u3)) 2 (some u2)) 1 (some u1)) H n []) = (C64_2 cal k m1 (R64_1 cal k m1)) := by funext u1 u2 u3 u4 u5 u11 u12 u13 H n; exact h64_2 ..
  rw [e2]
theorem q64_1 (cal : Cal) (k : Nat) : ∀ (m : Nat) (u1 u2 u3 u4 u5 u11 u12 u13 : Value) (H : Hp) (n : Nat), labK (E64_1 cal k m) (Tr.set (Tr.set (Tr.set (Tr.set (Tr.set (Tr.set (Tr.set (Tr.set Tr.nil 13 (some u13)) 12 (some u12)) 11 (some u11)) 5 (some u5)) 4 (some u4)) 3 (some u3)) 2 (some u2)) 1 (some u1)) H n [] = S64_1 cal k m u1 u2 u3 u4 u5 u11 u12 u13 H n
  | 0, u1, u2, u3, u4, u5, u11, u12, u13, H, n => by
    rw [h64_1]
    have e : R64_1 cal k 0 = fun _ _ _ _ _ _ _ _ _ _ => none := by funext u1 u2 u3 u4 u5 u11 u12 u13 H n; kernel_rfl
    rw [e]; rfl
  | m + 1, u1, u2, u3, u4, u5, u11, u12, u13, H, n => by
    rw [h64_1]
    have e : R64_1 cal k (m + 1) = S64_1 cal k m := by
      funext u1 u2 u3 u4 u5 u11 u12 u13 H n
      have e : R64_1 cal k (m + 1) u1 u2 u3 u4 u5 u11 u12 u13 H n = labK (E64_1 cal k m) (Tr.set (Tr.set (Tr.set (Tr.set (Tr.set (Tr.set (Tr.set (Tr.set Tr.nil 13 (some u13)) 12 (some u12)) 11 (some u11)) 5 (some u5)) 4 (some u4)) 3 (some u3)) 2 (some u2)) 1 (some u1)) H n [] := by kernel_rfl
      rw [e]; exact q64_1 ..
    rw [e]; rfl
noncomputable def B64_0 (cal : Cal) (k : Nat) (j1 : V8) (v0 v1 v2 v3 v4 : Value) (H : Hp) (n : Nat) : Res :=
boxK 26 v0 H n fun v_1 H_2 n_3 =>
j1 v1 v2 v3 v4 v_1 v4 v4 (.int .i64 0) H_2 n_3
noncomputable def C64_0 (cal : Cal) (k : Nat) (v0 v1 v2 v3 v4 : Value) (H : Hp) (n : Nat) : Res := B64_0 cal k (S64_1 cal k k) v0 v1 v2 v3 v4 H n
theorem h64_0 (cal : Cal) (k : Nat) (v0 v1 v2 v3 v4 : Value) (H : Hp) (n : Nat) : bodyE P cal A (k + 1) 64 [v0, v1, v2, v3, v4] H n = C64_0 cal k v0 v1 v2 v3 v4 H n := by
  have h : bodyE P cal A (k + 1) 64 [v0, v1, v2, v3, v4] H n = B64_0 cal k (fun u1 u2 u3 u4 u5 u11 u12 u13 H n => labK (E64_1 cal k k) (Tr.set (Tr.set (Tr.set (Tr.set (Tr.set (Tr.set (Tr.set (Tr.set Tr.nil 13 (some u13)) 12 (some u12)) 11 (some u11)) 5 (some u5)) 4 (some u4)) 3 (some u3)) 2 (some u2)) 1 (some u1)) H n []) v0 v1 v2 v3 v4 H n := by
    rw [body_eq (fn := Go.Proofs.Try.f64) (c := code64) (rs := results64) (by kernel_rfl) (by kernel_rfl) (by kernel_rfl) (by kernel_rfl)]
    kernel_rfl
  rw [h, C64_0]
  have e1 : (fun u1 u2 u3 u4 u5 u11 u12 u13 H n => labK (E64_1 cal k k) (Tr.set (Tr.set (Tr.set (Tr.set (Tr.set (Tr.set (Tr.set (Tr.set Tr.nil 13 (some u13)) 12 (some u12)) 11 (some u11)) 5 (some u5)) 4 (some u4)) 3 (some u3)) 2 (some u2)) 1 (some u1)) H n []) = (S64_1 cal k k) := by funext u1 u2 u3 u4 u5 u11 u12 u13 H n; exact q64_1 ..
  rw [e1]
noncomputable def code65 : Code := codeOf 65
noncomputable def results65 : List ResultVar := resOf 65
noncomputable def K65_p (cal : Cal) (k : Nat) : KR := (cutK (A 65).c (codeE P cal (codeF P cal k) none 65 (cR code65) (Lv.b (A 65)) (doneK P results65) X0 (doneK P results65)))
noncomputable def K65_pr (cal : Cal) (k : Nat) : KR := (cutK (Lv.b (A 65)).c (codeE P cal (codeF P cal k) none 65 (cR (cR code65)) (Lv.b (Lv.b (A 65))) (doneK P results65) X0 (doneK P results65)))
noncomputable def K65_prr (cal : Cal) (k : Nat) : KR := (cutK (Lv.b (Lv.b (A 65))).c (codeE P cal (codeF P cal k) none 65 (cR (cR (cR code65))) (Lv.b (Lv.b (Lv.b (A 65)))) (doneK P results65) X0 (doneK P results65)))
noncomputable def K65_prrl (cal : Cal) (k : Nat) : KR := (cutK (Lv.a (Lv.b (Lv.b (A 65)))).c (codeE P cal (codeF P cal k) none 65 (cR (cL (cR (cR code65)))) (Lv.b (Lv.a (Lv.b (Lv.b (A 65))))) (K65_prr cal k) X0 (doneK P results65)))
noncomputable def K65_prrlrl (cal : Cal) (k : Nat) : KR := (cutK (Lv.a (Lv.b (Lv.a (Lv.b (Lv.b (A 65)))))).c (codeE P cal (codeF P cal k) none 65 (cR (cL (cR (cL (cR (cR code65)))))) (Lv.b (Lv.a (Lv.b (Lv.a (Lv.b (Lv.b (A 65))))))) (K65_prr cal k) X0 (doneK P results65)))
noncomputable def K65_prrr (cal : Cal) (k : Nat) : KR := (cutK (Lv.b (Lv.b (Lv.b (A 65)))).c (codeE P cal (codeF P cal k) none 65 (cR (cR (cR (cR code65)))) (Lv.b (Lv.b (Lv.b (Lv.b (A 65))))) (doneK P results65) X0 (doneK P results65)))
noncomputable def K65_prrrl (cal : Cal) (k : Nat) : KR := (cutK (Lv.a (Lv.b (Lv.b (Lv.b (A 65))))).c (codeE P cal (codeF P cal k) none 65 (cR (cL (cR (cR (cR code65))))) (Lv.b (Lv.a (Lv.b (Lv.b (Lv.b (A 65)))))) (K65_prrr cal k) X0 (doneK P results65)))
noncomputable def K65_prrrlrl (cal : Cal) (k : Nat) : KR := (cutK (Lv.a (Lv.b (Lv.a (Lv.b (Lv.b (Lv.b (A 65))))))).c (codeE P cal (codeF P cal k) none 65 (cR (cL (cR (cL (cR (cR (cR code65))))))) (Lv.b (Lv.a (Lv.b (Lv.a (Lv.b (Lv.b (Lv.b (A 65)))))))) (K65_prrr cal k) X0 (doneK P results65)))
noncomputable def K65_prrrr (cal : Cal) (k : Nat) : KR := (cutK (Lv.b (Lv.b (Lv.b (Lv.b (A 65))))).c (codeE P cal (codeF P cal k) none 65 (cR (cR (cR (cR (cR code65))))) (Lv.b (Lv.b (Lv.b (Lv.b (Lv.b (A 65)))))) (doneK P results65) X0 (doneK P results65)))
noncomputable def K65_prrrrr (cal : Cal) (k : Nat) : KR := (cutK (Lv.b (Lv.b (Lv.b (Lv.b (Lv.b (A 65)))))).c (codeE P cal (codeF P cal k) none 65 (cR (cR (cR (cR (cR (cR code65)))))) (Lv.b (Lv.b (Lv.b (Lv.b (Lv.b (Lv.b (A 65))))))) (doneK P results65) X0 (doneK P results65)))
noncomputable def K65_prrrrrr (cal : Cal) (k : Nat) : KR := (cutK (Lv.b (Lv.b (Lv.b (Lv.b (Lv.b (Lv.b (A 65))))))).c (codeE P cal (codeF P cal k) none 65 (cR (cR (cR (cR (cR (cR (cR code65))))))) (Lv.b (Lv.b (Lv.b (Lv.b (Lv.b (Lv.b (Lv.b (A 65)))))))) (doneK P results65) X0 (doneK P results65)))
noncomputable def K65_prrrrrrl (cal : Cal) (k : Nat) : KR := (cutK (Lv.a (Lv.b (Lv.b (Lv.b (Lv.b (Lv.b (Lv.b (A 65)))))))).c (codeE P cal (codeF P cal k) none 65 (cR (cL (cR (cR (cR (cR (cR (cR code65)))))))) (Lv.b (Lv.a (Lv.b (Lv.b (Lv.b (Lv.b (Lv.b (Lv.b (A 65))))))))) (K65_prrrrrr cal k) X0 (doneK P results65)))
noncomputable def K65_pxrrrrrrlr (cal : Cal) (k : Nat) : XR := (upX 0 (K65_prrrrrr cal k) X0)
noncomputable def K65_prrrrrrlrl (cal : Cal) (k : Nat) (m1 : Nat) : KR := (fun T H n D => codeF P cal m1 (Lv.a (Lv.b (Lv.a (Lv.b (Lv.b (Lv.b (Lv.b (Lv.b (Lv.b (A 65)))))))))) none 65 (cL (cR (cL (cR (cR (cR (cR (cR (cR code65))))))))) (K65_prrrrrr cal k) (K65_pxrrrrrrlr cal k) (doneK P results65) (cutT (Lv.a (Lv.b (Lv.a (Lv.b (Lv.b (Lv.b (Lv.b (Lv.b (Lv.b (A 65)))))))))).c T) H n D)
noncomputable def K65_prrrrrrlrll (cal : Cal) (k : Nat) (m1 : Nat) : KR := (cutK (Lv.a (Lv.a (Lv.b (Lv.a (Lv.b (Lv.b (Lv.b (Lv.b (Lv.b (Lv.b (A 65))))))))))).c (codeE P cal (codeF P cal m1) none 65 (cR (cL (cL (cR (cL (cR (cR (cR (cR (cR (cR code65))))))))))) (Lv.b (Lv.a (Lv.a (Lv.b (Lv.a (Lv.b (Lv.b (Lv.b (Lv.b (Lv.b (Lv.b (A 65)))))))))))) (K65_prrrrrrlrl cal k m1) (K65_pxrrrrrrlr cal k) (doneK P results65)))
noncomputable def K65_prrrrrrlrllr (cal : Cal) (k : Nat) (m1 : Nat) : KR := (cutK (Lv.b (Lv.a (Lv.a (Lv.b (Lv.a (Lv.b (Lv.b (Lv.b (Lv.b (Lv.b (Lv.b (A 65)))))))))))).c (codeE P cal (codeF P cal m1) none 65 (cR (cR (cL (cL (cR (cL (cR (cR (cR (cR (cR (cR code65)))))))))))) (Lv.b (Lv.b (Lv.a (Lv.a (Lv.b (Lv.a (Lv.b (Lv.b (Lv.b (Lv.b (Lv.b (Lv.b (A 65))))))))))))) (K65_prrrrrrlrl cal k m1) (K65_pxrrrrrrlr cal k) (doneK P results65)))
noncomputable def K65_prrrrrrlrllrr (cal : Cal) (k : Nat) (m1 : Nat) : KR := (cutK (Lv.b (Lv.b (Lv.a (Lv.a (Lv.b (Lv.a (Lv.b (Lv.b (Lv.b (Lv.b (Lv.b (Lv.b (A 65))))))))))))).c (codeE P cal (codeF P cal m1) none 65 (cR (cR (cR (cL (cL (cR (cL (cR (cR (cR (cR (cR (cR code65))))))))))))) (Lv.b (Lv.b (Lv.b (Lv.a (Lv.a (Lv.b (Lv.a (Lv.b (Lv.b (Lv.b (Lv.b (Lv.b (Lv.b (A 65)))))))))))))) (K65_prrrrrrlrl cal k m1) (K65_pxrrrrrrlr cal k) (doneK P results65)))
noncomputable def K65_pxrrrrrrlrllrrl (cal : Cal) (k : Nat) (m1 : Nat) : XR := (upX 1 (K65_prrrrrrlrllrr cal k m1) (K65_pxrrrrrrlr cal k))
noncomputable def K65_prrrrrrlrllrrll (cal : Cal) (k : Nat) (m1 : Nat) : KR := (cutK (Lv.a (Lv.a (Lv.b (Lv.b (Lv.a (Lv.a (Lv.b (Lv.a (Lv.b (Lv.b (Lv.b (Lv.b (Lv.b (Lv.b (A 65))))))))))))))).c (codeE P cal (codeF P cal m1) none 65 (cR (cL (cL (cR (cR (cL (cL (cR (cL (cR (cR (cR (cR (cR (cR code65))))))))))))))) (Lv.b (Lv.a (Lv.a (Lv.b (Lv.b (Lv.a (Lv.a (Lv.b (Lv.a (Lv.b (Lv.b (Lv.b (Lv.b (Lv.b (Lv.b (A 65)))))))))))))))) (K65_prrrrrrlrllrr cal k m1) (K65_pxrrrrrrlrllrrl cal k m1) (doneK P results65)))
noncomputable def K65_prrrrrrlrllrrllr (cal : Cal) (k : Nat) (m1 : Nat) : KR := (cutK (Lv.b (Lv.a (Lv.a (Lv.b (Lv.b (Lv.a (Lv.a (Lv.b (Lv.a (Lv.b (Lv.b (Lv.b (Lv.b (Lv.b (Lv.b (A 65)))))))))))))))).c (codeE P cal (codeF P cal m1) none 65 (cR (cR (cL (cL (cR (cR (cL (cL (cR (cL (cR (cR (cR (cR (cR (cR code65)))))))))))))))) (Lv.b (Lv.b (Lv.a (Lv.a (Lv.b (Lv.b (Lv.a (Lv.a (Lv.b (Lv.a (Lv.b (Lv.b (Lv.b (Lv.b (Lv.b (Lv.b (A 65))))))))))))))))) (K65_prrrrrrlrllrr cal k m1) (K65_pxrrrrrrlrllrrl cal k m1) (doneK P results65)))
noncomputable def K65_prrrrrrlrllrrllrrl (cal : Cal) (k : Nat) (m1 : Nat) : KR := (cutK (Lv.a (Lv.b (Lv.b (Lv.a (Lv.a (Lv.b (Lv.b (Lv.a (Lv.a (Lv.b (Lv.a (Lv.b (Lv.b (Lv.b (Lv.b (Lv.b (Lv.b (A 65)))))))))))))))))).c (codeE P cal (codeF P cal m1) none 65 (cR (cL (cR (cR (cL (cL (cR (cR (cL (cL (cR (cL (cR (cR (cR (cR (cR (cR code65)))))))))))))))))) (Lv.b (Lv.a (Lv.b (Lv.b (Lv.a (Lv.a (Lv.b (Lv.b (Lv.a (Lv.a (Lv.b (Lv.a (Lv.b (Lv.b (Lv.b (Lv.b (Lv.b (Lv.b (A 65))))))))))))))))))) (K65_prrrrrrlrllrr cal k m1) (K65_pxrrrrrrlrllrrl cal k m1) (doneK P results65)))
noncomputable def K65_prrrrrrr (cal : Cal) (k : Nat) : KR := (cutK (Lv.b (Lv.b (Lv.b (Lv.b (Lv.b (Lv.b (Lv.b (A 65)))))))).c (codeE P cal (codeF P cal k) none 65 (cR (cR (cR (cR (cR (cR (cR (cR code65)))))))) (Lv.b (Lv.b (Lv.b (Lv.b (Lv.b (Lv.b (Lv.b (Lv.b (A 65))))))))) (doneK P results65) X0 (doneK P results65)))
noncomputable def E65_1 (cal : Cal) (k m1 : Nat) : KR := codeE P cal (codeF P cal m1) none 65 (cL (cL (cR (cL (cR (cR (cR (cR (cR (cR code65)))))))))) (Lv.a (Lv.a (Lv.b (Lv.a (Lv.b (Lv.b (Lv.b (Lv.b (Lv.b (Lv.b (A 65))))))))))) (K65_prrrrrrlrl cal k m1) (K65_pxrrrrrrlr cal k) (doneK P results65)
noncomputable def R65_1 (cal : Cal) (k m1 : Nat) : V5 := fun u5 u7 u9 u35 u36 H n => codeF P cal m1 (Lv.a (Lv.b (Lv.a (Lv.b (Lv.b (Lv.b (Lv.b (Lv.b (Lv.b (A 65)))))))))) none 65 (cL (cR (cL (cR (cR (cR (cR (cR (cR code65))))))))) (K65_prrrrrr cal k) (K65_pxrrrrrrlr cal k) (doneK P results65) (Tr.set (Tr.set (Tr.set (Tr.set (Tr.set Tr.nil 36 (some u36)) 35 (some u35)) 9 (some u9)) 7 (some u7)) 5 (some u5)) H n []
noncomputable def B65_1 (cal : Cal) (k m1 : Nat) (b1 : V5) (u5 u7 u9 u35 u36 : Value) (H : Hp) (n : Nat) : Res :=
binK P .lss 3 (.tmp 36) (.const (.int .i64 8)) u36 (.int .i64 8) fun v_1o =>
ifK v_1o (
bindO (indexV P 121 u35 u36) fun v_1q =>
binK P .neq 3 (.tmp 40) (.const (.int .i64 (-1))) v_1q (.int .i64 (-1)) fun v_1u =>
guardK v_1u true (fun k_1w =>
k_1w u7 H n) H n fun v_1x H_1y n_1z =>
guardK v_1u true (fun k_21 =>
k_21 u36 H_1y n_1z) H_1y n_1z fun v_22 H_23 n_24 =>
guardK v_1u true (fun k_26 =>
k_26 v_1q H_23 n_24) H_23 n_24 fun v_27 H_28 n_29 =>
guardK v_1u true (fun k_2b =>
callFK P cal 102 [v_1x, v_22, v_27] H_28 n_29 fun v_2f H_2g n_2h =>
k_2b v_2f H_2g n_2h) H_28 n_29 fun v_2c H_2d n_2e =>
guardK v_1u true (fun k_2i =>
bindO (pureSem P v_2c (Op.unary UnOp.not v_2c)) fun v_2m =>
k_2i v_2m H_2d n_2e) H_2d n_2e fun v_2j H_2k n_2l =>
bindO (pickV v_1u v_2j (.bool false)) fun v_2n =>
ifK v_2n (
bindO (buildP P 121 []) fun v_2o =>
bindO (storeP P 121 u5 v_2o H_2k) fun H_2r =>
bindO (resV P (Tr.set (Tr.set (Tr.set Tr.nil 6 (some (.int .i64 2))) 5 (some u5)) 4 (some (.pointer none))) H_2r results65) fun v_2t => some (oneV v_2t, H_2r, n_2l)) (
binK P .add 3 (.tmp 36) (.const (.int .i64 1)) u36 (.int .i64 1) fun v_2u =>
b1 u5 u7 u9 u35 v_2u H_2k n_2l)) (
bindO (addrV u9) fun a_2x => bindO (loadV P H 121 a_2x) fun v_2y =>
bindO (storeP P 121 u5 v_2y H) fun H_31 =>
bindO (resV P (Tr.set (Tr.set (Tr.set Tr.nil 6 (some (.int .i64 0))) 5 (some u5)) 4 (some u7)) H_31 results65) fun v_33 => some (oneV v_33, H_31, n))
noncomputable def C65_1 (cal : Cal) (k m1 : Nat) (b1 : V5) (u5 u7 u9 u35 u36 : Value) (H : Hp) (n : Nat) : Res := B65_1 cal k m1 b1 u5 u7 u9 u35 u36 H n
noncomputable def S65_1 (cal : Cal) (k : Nat) : Nat → V5 := fun m => Nat.rec (motive := fun _ => V5) (C65_1 cal k 0 (fun _ _ _ _ _ _ _ => none)) (fun m ih => C65_1 cal k (m + 1) ih) m
theorem h65_1 (cal : Cal) (k m1 : Nat) (u5 u7 u9 u35 u36 : Value) (H : Hp) (n : Nat) : labK (E65_1 cal k m1) (Tr.set (Tr.set (Tr.set (Tr.set (Tr.set Tr.nil 36 (some u36)) 35 (some u35)) 9 (some u9)) 7 (some u7)) 5 (some u5)) H n [] = C65_1 cal k m1 (R65_1 cal k m1) u5 u7 u9 u35 u36 H n := by
  refine Eq.trans (b := B65_1 cal k m1 (R65_1 cal k m1) u5 u7 u9 u35 u36 H n) (by kernel_rfl) ?_
  rw [C65_1]
theorem q65_1 (cal : Cal) (k : Nat) : ∀ (m : Nat) (u5 u7 u9 u35 u36 : Value) (H : Hp) (n : Nat), labK (E65_1 cal k m) (Tr.set (Tr.set (Tr.set (Tr.set (Tr.set Tr.nil 36 (some u36)) 35 (some u35)) 9 (some u9)) 7 (some u7)) 5 (some u5)) H n [] = S65_1 cal k m u5 u7 u9 u35 u36 H n
  | 0, u5, u7, u9, u35, u36, H, n => by
    rw [h65_1]
    have e : R65_1 cal k 0 = fun _ _ _ _ _ _ _ => none := by funext u5 u7 u9 u35 u36 H n; kernel_rfl
    rw [e]; rfl
  | m + 1, u5, u7, u9, u35, u36, H, n => by
    rw [h65_1]
    have e : R65_1 cal k (m + 1) = S65_1 cal k m := by
      funext u5 u7 u9 u35 u36 H n
      have e : R65_1 cal k (m + 1) u5 u7 u9 u35 u36 H n = labK (E65_1 cal k m) (Tr.set (Tr.set (Tr.set (Tr.set (Tr.set Tr.nil 36 (some u36)) 35 (some u35)) 9 (some u9)) 7 (some u7)) 5 (some u5)) H n [] := by kernel_rfl
      rw [e]; exact q65_1 ..
    rw [e]; rfl
noncomputable def B65_0 (cal : Cal) (k : Nat) (j1 : V5) (v0 v1 : Value) (H : Hp) (n : Nat) : Res :=
boxK 35 v0 H n fun v_1 H_2 n_3 =>
allocK P 121 H_2 n_3 fun v_5 H_6 n_7 =>
bindO (addrV v_1) fun a_a => bindO (loadV P H_6 35 a_a) fun v_9 =>
callFK P cal 61 [v_9] H_6 n_7 fun v_b H_c n_d =>
bindO (tupV v_b 0) fun v_f =>
bindO (tupV v_b 1) fun v_g =>
binK P .neq 29 (.tmp 17) (.const (.int .i64 0)) v_g (.int .i64 0) fun v_k =>
ifK v_k (
bindO (buildP P 121 []) fun v_l =>
bindO (storeP P 121 v_5 v_l H_c) fun H_p =>
bindO (resV P (Tr.set (Tr.set (Tr.set Tr.nil 6 (some v_g)) 5 (some v_5)) 4 (some (.pointer none))) H_p results65) fun v_r => some (oneV v_r, H_p, n_d)) (
bindO (lenV P 44 v1) fun v_t =>
bindO (nilV v_f) fun v_v =>
bindO (fieldAddrV P 117 v_v 0) fun v_w =>
bindO (fieldAddrV P 35 v_w 0) fun v_x =>
bindO (addrV v_x) fun a_z => bindO (loadV P H_c 31 a_z) fun v_y =>
bindO (lenV P 31 v_y) fun v_10 =>
binK P .neq 3 (.tmp 22) (.tmp 28) v_t v_10 fun v_11 =>
ifK v_11 (
bindO (buildP P 121 []) fun v_12 =>
bindO (storeP P 121 v_5 v_12 H_c) fun H_15 =>
bindO (resV P (Tr.set (Tr.set (Tr.set Tr.nil 6 (some (.int .i64 2))) 5 (some v_5)) 4 (some (.pointer none))) H_15 results65) fun v_17 => some (oneV v_17, H_15, n_d)) (
callFK P cal 101 [] H_c n_d fun v_18 H_19 n_1a =>
allocK P 121 H_19 n_1a fun v_1b H_1c n_1d =>
bindO (storeP P 121 v_1b v_18 H_1c) fun H_1f =>
bindO (sliceV P 121 v_1b none none) fun v_1g =>
stK (copyV P (bare H_1f n_1d) 44 v_1g v1) fun v_1i H_1j n_1k =>
bindO (addrV v_1b) fun a_1m => bindO (loadV P H_1j 121 a_1m) fun v_1l =>
j1 v_5 v_f v_1b v_1l (.int .i64 0) H_1j n_1k))
noncomputable def C65_0 (cal : Cal) (k : Nat) (v0 v1 : Value) (H : Hp) (n : Nat) : Res := B65_0 cal k (S65_1 cal k k) v0 v1 H n
theorem h65_0 (cal : Cal) (k : Nat) (v0 v1 : Value) (H : Hp) (n : Nat) : bodyE P cal A (k + 1) 65 [v0, v1] H n = C65_0 cal k v0 v1 H n := by
  have h : bodyE P cal A (k + 1) 65 [v0, v1] H n = B65_0 cal k (fun u5 u7 u9 u35 u36 H n => labK (E65_1 cal k k) (Tr.set (Tr.set (Tr.set (Tr.set (Tr.set Tr.nil 36 (some u36)) 35 (some u35)) 9 (some u9)) 7 (some u7)) 5 (some u5)) H n []) v0 v1 H n := by
    rw [body_eq (fn := Go.Proofs.Try.f65) (c := code65) (rs := results65) (by kernel_rfl) (by kernel_rfl) (by kernel_rfl) (by kernel_rfl)]
    kernel_rfl
  rw [h, C65_0]
  have e1 : (fun u5 u7 u9 u35 u36 H n => labK (E65_1 cal k k) (Tr.set (Tr.set (Tr.set (Tr.set (Tr.set Tr.nil 36 (some u36)) 35 (some u35)) 9 (some u9)) 7 (some u7)) 5 (some u5)) H n []) = (S65_1 cal k k) := by funext u5 u7 u9 u35 u36 H n; exact q65_1 ..
  rw [e1]
noncomputable def code67 : Code := codeOf 67
noncomputable def results67 : List ResultVar := resOf 67
noncomputable def K67_p (cal : Cal) (k : Nat) : KR := (cutK (A 67).c (codeE P cal (codeF P cal k) none 67 (cR code67) (Lv.b (A 67)) (doneK P results67) X0 (doneK P results67)))
noncomputable def K67_pr (cal : Cal) (k : Nat) : KR := (cutK (Lv.b (A 67)).c (codeE P cal (codeF P cal k) none 67 (cR (cR code67)) (Lv.b (Lv.b (A 67))) (doneK P results67) X0 (doneK P results67)))
noncomputable def K67_prl (cal : Cal) (k : Nat) : KR := (cutK (Lv.a (Lv.b (A 67))).c (codeE P cal (codeF P cal k) none 67 (cR (cL (cR code67))) (Lv.b (Lv.a (Lv.b (A 67)))) (K67_pr cal k) X0 (doneK P results67)))
noncomputable def K67_prlrl (cal : Cal) (k : Nat) : KR := (cutK (Lv.a (Lv.b (Lv.a (Lv.b (A 67))))).c (codeE P cal (codeF P cal k) none 67 (cR (cL (cR (cL (cR code67))))) (Lv.b (Lv.a (Lv.b (Lv.a (Lv.b (A 67)))))) (K67_pr cal k) X0 (doneK P results67)))
noncomputable def K67_prr (cal : Cal) (k : Nat) : KR := (cutK (Lv.b (Lv.b (A 67))).c (codeE P cal (codeF P cal k) none 67 (cR (cR (cR code67))) (Lv.b (Lv.b (Lv.b (A 67)))) (doneK P results67) X0 (doneK P results67)))
noncomputable def B67_0 (cal : Cal) (k : Nat) (v0 : Value) (H : Hp) (n : Nat) : Res :=
binK P .eql 45 (.tmp 3) (.const (.slice none 0 0)) v0 (.slice none 0 0) fun v_3 =>
ifK v_3 (
some ((.slice none 0 0), H, n)) (
rowK P 45 0 [] H n fun v_5 H_6 n_7 =>
stK (appendV P (bare H_6 n_7) 45 45 v_5 v0) fun v_9 H_a n_b =>
some (v_9, H_a, n_b))
noncomputable def C67_0 (cal : Cal) (k : Nat) (v0 : Value) (H : Hp) (n : Nat) : Res := B67_0 cal k v0 H n
theorem h67_0 (cal : Cal) (k : Nat) (v0 : Value) (H : Hp) (n : Nat) : bodyE P cal A (k + 1) 67 [v0] H n = C67_0 cal k v0 H n := by
  have h : bodyE P cal A (k + 1) 67 [v0] H n = B67_0 cal k v0 H n := by
    rw [body_eq (fn := Go.Proofs.Try.f67) (c := code67) (rs := results67) (by kernel_rfl) (by kernel_rfl) (by kernel_rfl) (by kernel_rfl)]
    kernel_rfl
  rw [h, C67_0]
noncomputable def code68 : Code := codeOf 68
noncomputable def results68 : List ResultVar := resOf 68
noncomputable def K68_p (cal : Cal) (k : Nat) : KR := (cutK (A 68).c (codeE P cal (codeF P cal k) none 68 (cR code68) (Lv.b (A 68)) (doneK P results68) X0 (doneK P results68)))
noncomputable def K68_pr (cal : Cal) (k : Nat) : KR := (cutK (Lv.b (A 68)).c (codeE P cal (codeF P cal k) none 68 (cR (cR code68)) (Lv.b (Lv.b (A 68))) (doneK P results68) X0 (doneK P results68)))
noncomputable def B68_0 (cal : Cal) (k : Nat) (v0 v1 v2 : Value) (H : Hp) (n : Nat) : Res :=
boxK 111 v1 H n fun v_1 H_2 n_3 =>
bindO (indexAddrV P 111 v_1 v2) fun v_6 =>
bindO (fieldAddrV P 53 v_6 0) fun v_7 =>
bindO (addrV v_7) fun a_8 => bindO (loadV P H_2 3 a_8) fun v_9 =>
bindO (nilV v0) fun v_b =>
bindO (fieldAddrV P 117 v_b 0) fun v_c =>
bindO (fieldAddrV P 35 v_c 0) fun v_d =>
bindO (addrV v_d) fun a_e => bindO (loadV P H_2 31 a_e) fun v_f =>
bindO (indexAddrV P 31 v_f v2) fun v_h =>
bindO (fieldAddrV P 90 v_h 0) fun v_i =>
bindO (addrV v_i) fun a_j => bindO (loadV P H_2 3 a_j) fun v_k =>
binK P .lss 3 (.tmp 10) (.tmp 19) v_9 v_k fun v_l =>
some (v_l, H_2, n_3)
noncomputable def C68_0 (cal : Cal) (k : Nat) (v0 v1 v2 : Value) (H : Hp) (n : Nat) : Res := B68_0 cal k v0 v1 v2 H n
theorem h68_0 (cal : Cal) (k : Nat) (v0 v1 v2 : Value) (H : Hp) (n : Nat) : bodyE P cal A (k + 1) 68 [v0, v1, v2] H n = C68_0 cal k v0 v1 v2 H n := by
  have h : bodyE P cal A (k + 1) 68 [v0, v1, v2] H n = B68_0 cal k v0 v1 v2 H n := by
    rw [body_eq (fn := Go.Proofs.Try.f68) (c := code68) (rs := results68) (by kernel_rfl) (by kernel_rfl) (by kernel_rfl) (by kernel_rfl)]
    kernel_rfl
  rw [h, C68_0]
noncomputable def code69 : Code := codeOf 69
noncomputable def results69 : List ResultVar := resOf 69
noncomputable def K69_p (cal : Cal) (k : Nat) : KR := (cutK (A 69).c (codeE P cal (codeF P cal k) none 69 (cR code69) (Lv.b (A 69)) (doneK P results69) X0 (doneK P results69)))
noncomputable def K69_pr (cal : Cal) (k : Nat) : KR := (cutK (Lv.b (A 69)).c (codeE P cal (codeF P cal k) none 69 (cR (cR code69)) (Lv.b (Lv.b (A 69))) (doneK P results69) X0 (doneK P results69)))
noncomputable def B69_0 (cal : Cal) (k : Nat) (v0 v1 v2 : Value) (H : Hp) (n : Nat) : Res :=
boxK 111 v1 H n fun v_1 H_2 n_3 =>
bindO (indexAddrV P 111 v_1 v2) fun v_6 =>
bindO (fieldAddrV P 53 v_6 1) fun v_7 =>
bindO (addrV v_7) fun a_8 => bindO (loadV P H_2 3 a_8) fun v_9 =>
bindO (nilV v0) fun v_b =>
bindO (fieldAddrV P 117 v_b 0) fun v_c =>
bindO (fieldAddrV P 35 v_c 0) fun v_d =>
bindO (addrV v_d) fun a_e => bindO (loadV P H_2 31 a_e) fun v_f =>
bindO (indexAddrV P 31 v_f v2) fun v_h =>
bindO (fieldAddrV P 90 v_h 1) fun v_i =>
bindO (addrV v_i) fun a_j => bindO (loadV P H_2 3 a_j) fun v_k =>
binK P .gtr 3 (.tmp 10) (.tmp 19) v_9 v_k fun v_l =>
some (v_l, H_2, n_3)
noncomputable def C69_0 (cal : Cal) (k : Nat) (v0 v1 v2 : Value) (H : Hp) (n : Nat) : Res := B69_0 cal k v0 v1 v2 H n
theorem h69_0 (cal : Cal) (k : Nat) (v0 v1 v2 : Value) (H : Hp) (n : Nat) : bodyE P cal A (k + 1) 69 [v0, v1, v2] H n = C69_0 cal k v0 v1 v2 H n := by
  have h : bodyE P cal A (k + 1) 69 [v0, v1, v2] H n = B69_0 cal k v0 v1 v2 H n := by
    rw [body_eq (fn := Go.Proofs.Try.f69) (c := code69) (rs := results69) (by kernel_rfl) (by kernel_rfl) (by kernel_rfl) (by kernel_rfl)]
    kernel_rfl
  rw [h, C69_0]
noncomputable def code70 : Code := codeOf 70
noncomputable def results70 : List ResultVar := resOf 70
noncomputable def K70_p (cal : Cal) (k : Nat) : KR := (cutK (A 70).c (codeE P cal (codeF P cal k) none 70 (cR code70) (Lv.b (A 70)) (doneK P results70) X0 (doneK P results70)))
noncomputable def K70_pr (cal : Cal) (k : Nat) : KR := (cutK (Lv.b (A 70)).c (codeE P cal (codeF P cal k) none 70 (cR (cR code70)) (Lv.b (Lv.b (A 70))) (doneK P results70) X0 (doneK P results70)))
noncomputable def K70_prr (cal : Cal) (k : Nat) : KR := (cutK (Lv.b (Lv.b (A 70))).c (codeE P cal (codeF P cal k) none 70 (cR (cR (cR code70))) (Lv.b (Lv.b (Lv.b (A 70)))) (doneK P results70) X0 (doneK P results70)))
noncomputable def K70_prrr (cal : Cal) (k : Nat) : KR := (cutK (Lv.b (Lv.b (Lv.b (A 70)))).c (codeE P cal (codeF P cal k) none 70 (cR (cR (cR (cR code70)))) (Lv.b (Lv.b (Lv.b (Lv.b (A 70))))) (doneK P results70) X0 (doneK P results70)))
noncomputable def K70_prrrl (cal : Cal) (k : Nat) : KR := (cutK (Lv.a (Lv.b (Lv.b (Lv.b (A 70))))).c (codeE P cal (codeF P cal k) none 70 (cR (cL (cR (cR (cR code70))))) (Lv.b (Lv.a (Lv.b (Lv.b (Lv.b (A 70)))))) (K70_prrr cal k) X0 (doneK P results70)))
noncomputable def K70_pxrrrlr (cal : Cal) (k : Nat) : XR := (upX 0 (K70_prrr cal k) X0)
noncomputable def K70_prrrlrl (cal : Cal) (k : Nat) (m1 : Nat) : KR := (fun T H n D => codeF P cal m1 (Lv.a (Lv.b (Lv.a (Lv.b (Lv.b (Lv.b (A 70))))))) none 70 (cL (cR (cL (cR (cR (cR code70)))))) (K70_prrr cal k) (K70_pxrrrlr cal k) (doneK P results70) (cutT (Lv.a (Lv.b (Lv.a (Lv.b (Lv.b (Lv.b (A 70))))))).c T) H n D)
noncomputable def K70_prrrlrll (cal : Cal) (k : Nat) (m1 : Nat) : KR := (cutK (Lv.a (Lv.a (Lv.b (Lv.a (Lv.b (Lv.b (Lv.b (A 70)))))))).c (codeE P cal (codeF P cal m1) none 70 (cR (cL (cL (cR (cL (cR (cR (cR code70)))))))) (Lv.b (Lv.a (Lv.a (Lv.b (Lv.a (Lv.b (Lv.b (Lv.b (A 70))))))))) (K70_prrrlrl cal k m1) (K70_pxrrrlr cal k) (doneK P results70)))
noncomputable def K70_prrrlrlll (cal : Cal) (k : Nat) (m1 : Nat) : KR := (cutK (Lv.a (Lv.a (Lv.a (Lv.b (Lv.a (Lv.b (Lv.b (Lv.b (A 70))))))))).c (codeE P cal (codeF P cal m1) none 70 (cR (cL (cL (cL (cR (cL (cR (cR (cR code70))))))))) (Lv.b (Lv.a (Lv.a (Lv.a (Lv.b (Lv.a (Lv.b (Lv.b (Lv.b (A 70)))))))))) (K70_prrrlrll cal k m1) (K70_pxrrrlr cal k) (doneK P results70)))
noncomputable def K70_prrrlrllr (cal : Cal) (k : Nat) (m1 : Nat) : KR := (cutK (Lv.b (Lv.a (Lv.a (Lv.b (Lv.a (Lv.b (Lv.b (Lv.b (A 70))))))))).c (codeE P cal (codeF P cal m1) none 70 (cR (cR (cL (cL (cR (cL (cR (cR (cR code70))))))))) (Lv.b (Lv.b (Lv.a (Lv.a (Lv.b (Lv.a (Lv.b (Lv.b (Lv.b (A 70)))))))))) (K70_prrrlrl cal k m1) (K70_pxrrrlr cal k) (doneK P results70)))
noncomputable def K70_pxrrrlrllrl (cal : Cal) (k : Nat) (m1 : Nat) : XR := (upX 1 (K70_prrrlrllr cal k m1) (K70_pxrrrlr cal k))
noncomputable def K70_prrrlrllrll (cal : Cal) (k : Nat) (m1 : Nat) : KR := (cutK (Lv.a (Lv.a (Lv.b (Lv.a (Lv.a (Lv.b (Lv.a (Lv.b (Lv.b (Lv.b (A 70))))))))))).c (codeE P cal (codeF P cal m1) none 70 (cR (cL (cL (cR (cL (cL (cR (cL (cR (cR (cR code70))))))))))) (Lv.b (Lv.a (Lv.a (Lv.b (Lv.a (Lv.a (Lv.b (Lv.a (Lv.b (Lv.b (Lv.b (A 70)))))))))))) (K70_prrrlrllr cal k m1) (K70_pxrrrlrllrl cal k m1) (doneK P results70)))
noncomputable def K70_prrrr (cal : Cal) (k : Nat) : KR := (cutK (Lv.b (Lv.b (Lv.b (Lv.b (A 70))))).c (codeE P cal (codeF P cal k) none 70 (cR (cR (cR (cR (cR code70))))) (Lv.b (Lv.b (Lv.b (Lv.b (Lv.b (A 70)))))) (doneK P results70) X0 (doneK P results70)))
noncomputable def E70_2 (cal : Cal) (k m1 : Nat) : KR := codeE P cal (codeF P cal m1) none 70 (cR (cR (cL (cL (cR (cL (cR (cR (cR code70))))))))) (Lv.b (Lv.b (Lv.a (Lv.a (Lv.b (Lv.a (Lv.b (Lv.b (Lv.b (A 70)))))))))) (K70_prrrlrl cal k m1) (K70_pxrrrlr cal k) (doneK P results70)
noncomputable def E70_1 (cal : Cal) (k m1 : Nat) : KR := codeE P cal (codeF P cal m1) none 70 (cL (cL (cR (cL (cR (cR (cR code70))))))) (Lv.a (Lv.a (Lv.b (Lv.a (Lv.b (Lv.b (Lv.b (A 70)))))))) (K70_prrrlrl cal k m1) (K70_pxrrrlr cal k) (doneK P results70)
noncomputable def R70_1 (cal : Cal) (k m1 : Nat) : V8 := fun u1 u2 u3 u4 u8 u9 u10 u11 H n => codeF P cal m1 (Lv.a (Lv.b (Lv.a (Lv.b (Lv.b (Lv.b (A 70))))))) none 70 (cL (cR (cL (cR (cR (cR code70)))))) (K70_prrr cal k) (K70_pxrrrlr cal k) (doneK P results70) (Tr.set (Tr.set (Tr.set (Tr.set (Tr.set (Tr.set (Tr.set (Tr.set Tr.nil 11 (some u11)) 10 (some u10)) 9 (some u9)) 8 (some u8)) 4 (some u4)) 3 (some u3)) 2 (some u2)) 1 (some u1)) H n []
noncomputable def B70_2 (cal : Cal) (k m1 : Nat) (b1 : V8) (u1 u2 u3 u4 u8 u9 u10 u11 : Value) (H : Hp) (n : Nat) : Res :=
binK P .add 3 (.tmp 24) (.const (.int .i64 1)) u11 (.int .i64 1) fun v_10 =>
b1 u1 u2 u3 u4 u8 u9 u10 v_10 H n
noncomputable def C70_2 (cal : Cal) (k m1 : Nat) (b1 : V8) (u1 u2 u3 u4 u8 u9 u10 u11 : Value) (H : Hp) (n : Nat) : Res := B70_2 cal k m1 b1 u1 u2 u3 u4 u8 u9 u10 u11 H n
theorem h70_2 (cal : Cal) (k m1 : Nat) (u1 u2 u3 u4 u8 u9 u10 u11 : Value) (H : Hp) (n : Nat) : labK (E70_2 cal k m1) (Tr.set (Tr.set (Tr.set (Tr.set (Tr.set (Tr.set (Tr.set (Tr.set Tr.nil 11 (some u11)) 10 (some u10)) 9 (some u9)) 8 (some u8)) 4 (some u4)) 3 (some u3)) 2 (some u2)) 1 (some u1)) H n [] = C70_2 cal k m1 (R70_1 cal k m1) u1 u2 u3 u4 u8 u9 u10 u11 H n := by
  refine Eq.trans (b := B70_2 cal k m1 (R70_1 cal k m1) u1 u2 u3 u4 u8 u9 u10 u11 H n) (by kernel_rfl) ?_
  rw [C70_2]
noncomputable def B70_1 (cal : Cal) (k m1 : Nat) (j2 : V8) (b1 : V8) (u1 u2 u3 u4 u8 u9 u10 u11 : Value) (H : Hp) (n : Nat) : Res :=
bindO (fieldAddrV P 55 u10 1) fun v_v =>
bindO (addrV v_v) fun a_x => bindO (loadV P H 3 a_x) fun v_w =>
binK P .leq 3 (.tmp 20) (.tmp 22) u11 v_w fun v_y =>
ifK v_y (
bindO (addrV u4) fun a_13 => bindO (loadV P H 26 a_13) fun v_12 =>
callFK P cal 64 [v_12, u1, u2, u3, u11] H n fun v_18 H_19 n_1a =>
ifK v_18 (
bindO (fieldAddrV P 55 u9 0) fun v_1b =>
bindO (addrV v_1b) fun a_1d => bindO (loadV P H_19 3 a_1d) fun v_1c =>
builtinK P .min [3, 3] (Call.mk (Callee.builtin Builtin.min) #[(.tmp 33), (.tmp 34)] #[3, 3]) 3 [v_1c, u11] H_19 n_1a fun v_1f H_1g n_1h =>
bindO (buildP P 55 [(0, v_1f), (1, u11)]) fun v_1j =>
bindO (storeP P 55 u9 v_1j H_1g) fun H_1l =>
j2 u1 u2 u3 u4 u8 u9 u10 u11 H_1l n_1h) (
j2 u1 u2 u3 u4 u8 u9 u10 u11 H_19 n_1a)) (
bindO (addrV u9) fun a_1n => bindO (loadV P H 55 a_1n) fun v_1m =>
bindO (storeP P 55 u8 v_1m H) fun H_1p =>
bindO (resV P (Tr.set Tr.nil 8 (some u8)) H_1p results70) fun v_1q => some (oneV v_1q, H_1p, n))
noncomputable def C70_1 (cal : Cal) (k m1 : Nat) (b1 : V8) (u1 u2 u3 u4 u8 u9 u10 u11 : Value) (H : Hp) (n : Nat) : Res := B70_1 cal k m1 (C70_2 cal k m1 b1) b1 u1 u2 u3 u4 u8 u9 u10 u11 H n
noncomputable def S70_1 (cal : Cal) (k : Nat) : Nat → V8 := fun m => Nat.rec (motive := fun _ => V8) (C70_1 cal k 0 (fun _ _ _ _ _ _ _ _ _ _ => none)) (fun m ih => C70_1 cal k (m + 1) ih) m
theorem h70_1 (cal : Cal) (k m1 : Nat) (u1 u2 u3 u4 u8 u9 u10 u11 : Value) (H : Hp) (n : Nat) : labK (E70_1 cal k m1) (Tr.set (Tr.set (Tr.set (Tr.set (Tr.set (Tr.set (Tr.set (Tr.set Tr.nil 11 (some u11)) 10 (some u10)) 9 (some u9)) 8 (some u8)) 4 (some u4)) 3 (some u3)) 2 (some u2)) 1 (some u1)) H n [] = C70_1 cal k m1 (R70_1 cal k m1) u1 u2 u3 u4 u8 u9 u10 u11 H n := by
  refine Eq.trans (b := B70_1 cal k m1 (fun u1 u2 u3 u4 u8 u9 u10 u11 H n => labK (E70_2 cal k m1) (Tr.set (Tr.set (Tr.set (Tr.set (Tr.set (Tr.set (Tr.set (Tr.set Tr.nil 11 (some u11)) 10 (some u10)) 9 (some u9)) 8 (some u8)) 4 (some u4)) 3 (some u3)) 2 (some u2)) 1 (some u1)) H n []) (R70_1 cal k m1) u1 u2 u3 u4 u8 u9 u10 u11 H n) (by kernel_rfl) ?_
  rw [C70_1]
  have e2 : (fun u1 u2 u3 u4 u8 u9 u10 u11 H n => labK (E70_2 cal k m1) (Tr.set (Tr.set (Tr.set (Tr.set (Tr.set (Tr.set (Tr.set (Tr.set Tr.nil 11 (some u11)) 10 (some u10)) 9 (some u9)) 8 (some u8)) 4 (some u4)) 3 (some u3)) 2 (some u2)) 1 (some u1)) H n []) = (C70_2 cal k m1 (R70_1 cal k m1)) := by funext u1 u2 u3 u4 u8 u9 u10 u11 H n; exact h70_2 ..
  rw [e2]
theorem q70_1 (cal : Cal) (k : Nat) : ∀ (m : Nat) (u1 u2 u3 u4 u8 u9 u10 u11 : Value) (H : Hp) (n : Nat), labK (E70_1 cal k m) (Tr.set (Tr.set (Tr.set (Tr.set (Tr.set (Tr.set (Tr.set (Tr.set Tr.nil 11 (some u11)) 10 (some u10)) 9 (some u9)) 8 (some u8)) 4 (some u4)) 3 (some u3)) 2 (some u2)) 1 (some u1)) H n [] = S70_1 cal k m u1 u2 u3 u4 u8 u9 u10 u11 H n
  | 0, u1, u2, u3, u4, u8, u9, u10, u11, H, n => by
    rw [h70_1]
    have e : R70_1 cal k 0 = fun _ _ _ _ _ _ _ _ _ _ => none := by funext u1 u2 u3 u4 u8 u9 u10 u11 H n; kernel_rfl
    rw [e]; rfl
  | m + 1, u1, u2, u3, u4, u8, u9, u10, u11, H, n => by
    rw [h70_1]
    have e : R70_1 cal k (m + 1) = S70_1 cal k m := by
      funext u1 u2 u3 u4 u8 u9 u10 u11 H n
      have e : R70_1 cal k (m + 1) u1 u2 u3 u4 u8 u9 u10 u11 H n = labK (E70_1 cal k m) (Tr.set (Tr.set (Tr.set (Tr.set (Tr.set (Tr.set (Tr.set (Tr.set Tr.nil 11 (some u11)) 10 (some u10)) 9 (some u9)) 8 (some u8)) 4 (some u4)) 3 (some u3)) 2 (some u2)) 1 (some u1)) H n [] := by kernel_rfl
      rw [e]; exact q70_1 ..
    rw [e]; rfl
noncomputable def B70_0 (cal : Cal) (k : Nat) (j1 : V8) (v0 v1 v2 v3 : Value) (H : Hp) (n : Nat) : Res :=
boxK 26 v0 H n fun v_1 H_2 n_3 =>
allocK P 55 H_2 n_3 fun v_4 H_5 n_6 =>
bindO (buildP P 55 [(0, (.int .i64 2000)), (1, (.int .i64 (-1)))]) fun v_7 =>
allocK P 55 H_5 n_6 fun v_8 H_9 n_a =>
bindO (storeP P 55 v_8 v_7 H_9) fun H_c =>
bindO (addrV v_1) fun a_e => bindO (loadV P H_c 26 a_e) fun v_d =>
callFK P cal 77 [v_d, v1, v2, v3] H_c n_a fun v_i H_j n_k =>
allocK P 55 H_j n_k fun v_l H_m n_n =>
bindO (storeP P 55 v_l v_i H_m) fun H_p =>
bindO (fieldAddrV P 55 v_l 0) fun v_q =>
bindO (addrV v_q) fun a_s => bindO (loadV P H_p 3 a_s) fun v_r =>
j1 v1 v2 v3 v_1 v_4 v_8 v_l v_r H_p n_n
noncomputable def C70_0 (cal : Cal) (k : Nat) (v0 v1 v2 v3 : Value) (H : Hp) (n : Nat) : Res := B70_0 cal k (S70_1 cal k k) v0 v1 v2 v3 H n
theorem h70_0 (cal : Cal) (k : Nat) (v0 v1 v2 v3 : Value) (H : Hp) (n : Nat) : bodyE P cal A (k + 1) 70 [v0, v1, v2, v3] H n = C70_0 cal k v0 v1 v2 v3 H n := by
  have h : bodyE P cal A (k + 1) 70 [v0, v1, v2, v3] H n = B70_0 cal k (fun u1 u2 u3 u4 u8 u9 u10 u11 H n => labK (E70_1 cal k k) (Tr.set (Tr.set (Tr.set (Tr.set (Tr.set (Tr.set (Tr.set (Tr.set Tr.nil 11 (some u11)) 10 (some u10)) 9 (some u9)) 8 (some u8)) 4 (some u4)) 3 (some u3)) 2 (some u2)) 1 (some u1)) H n []) v0 v1 v2 v3 H n := by
    rw [body_eq (fn := Go.Proofs.Try.f70) (c := code70) (rs := results70) (by kernel_rfl) (by kernel_rfl) (by kernel_rfl) (by kernel_rfl)]
    kernel_rfl
  rw [h, C70_0]
  have e1 : (fun u1 u2 u3 u4 u8 u9 u10 u11 H n => labK (E70_1 cal k k) (Tr.set (Tr.set (Tr.set (Tr.set (Tr.set (Tr.set (Tr.set (Tr.set Tr.nil 11 (some u11)) 10 (some u10)) 9 (some u9)) 8 (some u8)) 4 (some u4)) 3 (some u3)) 2 (some u2)) 1 (some u1)) H n []) = (S70_1 cal k k) := by funext u1 u2 u3 u4 u8 u9 u10 u11 H n; exact q70_1 ..
  rw [e1]
noncomputable def code71 : Code := codeOf 71
noncomputable def results71 : List ResultVar := resOf 71
noncomputable def K71_p (cal : Cal) (k : Nat) : KR := (cutK (A 71).c (codeE P cal (codeF P cal k) none 71 (cR code71) (Lv.b (A 71)) (doneK P results71) X0 (doneK P results71)))
noncomputable def K71_pr (cal : Cal) (k : Nat) : KR := (cutK (Lv.b (A 71)).c (codeE P cal (codeF P cal k) none 71 (cR (cR code71)) (Lv.b (Lv.b (A 71))) (doneK P results71) X0 (doneK P results71)))
noncomputable def B71_0 (cal : Cal) (k : Nat) (v0 v1 : Value) (H : Hp) (n : Nat) : Res :=
boxK 35 v0 H n fun v_1 H_2 n_3 =>
binK P .geq 3 (.tmp 5) (.const (.int .i64 0)) v1 (.int .i64 0) fun v_6 =>
guardK v_6 true (fun k_8 =>
k_8 v1 H_2 n_3) H_2 n_3 fun v_9 H_a n_b =>
guardK v_6 true (fun k_d =>
bindO (fieldAddrV P 35 v_1 0) fun v_h =>
k_d v_h H_a n_b) H_a n_b fun v_e H_f n_g =>
guardK v_6 true (fun k_i =>
bindO (addrV v_e) fun a_n => bindO (loadV P H_f 31 a_n) fun v_m =>
k_i v_m H_f n_g) H_f n_g fun v_j H_k n_l =>
guardK v_6 true (fun k_o =>
bindO (lenV P 31 v_j) fun v_s =>
k_o v_s H_k n_l) H_k n_l fun v_p H_q n_r =>
guardK v_6 true (fun k_t =>
binK P .lss 3 (.tmp 8) (.tmp 11) v_9 v_p fun v_x =>
k_t v_x H_q n_r) H_q n_r fun v_u H_v n_w =>
bindO (pickV v_6 v_u (.bool false)) fun v_y =>
some (v_y, H_v, n_w)
noncomputable def C71_0 (cal : Cal) (k : Nat) (v0 v1 : Value) (H : Hp) (n : Nat) : Res := B71_0 cal k v0 v1 H n
theorem h71_0 (cal : Cal) (k : Nat) (v0 v1 : Value) (H : Hp) (n : Nat) : bodyE P cal A (k + 1) 71 [v0, v1] H n = C71_0 cal k v0 v1 H n := by
  have h : bodyE P cal A (k + 1) 71 [v0, v1] H n = B71_0 cal k v0 v1 H n := by
    rw [body_eq (fn := Go.Proofs.Try.f71) (c := code71) (rs := results71) (by kernel_rfl) (by kernel_rfl) (by kernel_rfl) (by kernel_rfl)]
    kernel_rfl
  rw [h, C71_0]
noncomputable def code72 : Code := codeOf 72
noncomputable def results72 : List ResultVar := resOf 72
noncomputable def K72_p (cal : Cal) (k : Nat) : KR := (cutK (A 72).c (codeE P cal (codeF P cal k) none 72 (cR code72) (Lv.b (A 72)) (doneK P results72) X0 (doneK P results72)))
noncomputable def K72_pr (cal : Cal) (k : Nat) : KR := (cutK (Lv.b (A 72)).c (codeE P cal (codeF P cal k) none 72 (cR (cR code72)) (Lv.b (Lv.b (A 72))) (doneK P results72) X0 (doneK P results72)))
noncomputable def B72_0 (cal : Cal) (k : Nat) (v0 : Value) (H : Hp) (n : Nat) : Res :=
boxK 53 v0 H n fun v_1 H_2 n_3 =>
bindO (fieldAddrV P 53 v_1 0) fun v_5 =>
bindO (addrV v_5) fun a_7 => bindO (loadV P H_2 3 a_7) fun v_6 =>
some (v_6, H_2, n_3)
noncomputable def C72_0 (cal : Cal) (k : Nat) (v0 : Value) (H : Hp) (n : Nat) : Res := B72_0 cal k v0 H n
theorem h72_0 (cal : Cal) (k : Nat) (v0 : Value) (H : Hp) (n : Nat) : bodyE P cal A (k + 1) 72 [v0] H n = C72_0 cal k v0 H n := by
  have h : bodyE P cal A (k + 1) 72 [v0] H n = B72_0 cal k v0 H n := by
    rw [body_eq (fn := Go.Proofs.Try.f72) (c := code72) (rs := results72) (by kernel_rfl) (by kernel_rfl) (by kernel_rfl) (by kernel_rfl)]
    kernel_rfl
  rw [h, C72_0]
noncomputable def code73 : Code := codeOf 73
noncomputable def results73 : List ResultVar := resOf 73
noncomputable def K73_p (cal : Cal) (k : Nat) : KR := (cutK (A 73).c (codeE P cal (codeF P cal k) none 73 (cR code73) (Lv.b (A 73)) (doneK P results73) X0 (doneK P results73)))
noncomputable def K73_pr (cal : Cal) (k : Nat) : KR := (cutK (Lv.b (A 73)).c (codeE P cal (codeF P cal k) none 73 (cR (cR code73)) (Lv.b (Lv.b (A 73))) (doneK P results73) X0 (doneK P results73)))
noncomputable def B73_0 (cal : Cal) (k : Nat) (v0 : Value) (H : Hp) (n : Nat) : Res :=
boxK 53 v0 H n fun v_1 H_2 n_3 =>
bindO (fieldAddrV P 53 v_1 1) fun v_5 =>
bindO (addrV v_5) fun a_7 => bindO (loadV P H_2 3 a_7) fun v_6 =>
some (v_6, H_2, n_3)
noncomputable def C73_0 (cal : Cal) (k : Nat) (v0 : Value) (H : Hp) (n : Nat) : Res := B73_0 cal k v0 H n
theorem h73_0 (cal : Cal) (k : Nat) (v0 : Value) (H : Hp) (n : Nat) : bodyE P cal A (k + 1) 73 [v0] H n = C73_0 cal k v0 H n := by
  have h : bodyE P cal A (k + 1) 73 [v0] H n = B73_0 cal k v0 H n := by
    rw [body_eq (fn := Go.Proofs.Try.f73) (c := code73) (rs := results73) (by kernel_rfl) (by kernel_rfl) (by kernel_rfl) (by kernel_rfl)]
    kernel_rfl
  rw [h, C73_0]
noncomputable def code74 : Code := codeOf 74
noncomputable def results74 : List ResultVar := resOf 74
noncomputable def K74_p (cal : Cal) (k : Nat) : KR := (cutK (A 74).c (codeE P cal (codeF P cal k) none 74 (cR code74) (Lv.b (A 74)) (doneK P results74) X0 (doneK P results74)))
noncomputable def K74_pr (cal : Cal) (k : Nat) : KR := (cutK (Lv.b (A 74)).c (codeE P cal (codeF P cal k) none 74 (cR (cR code74)) (Lv.b (Lv.b (A 74))) (doneK P results74) X0 (doneK P results74)))
noncomputable def B74_0 (cal : Cal) (k : Nat) (v0 v1 : Value) (H : Hp) (n : Nat) : Res :=
boxK 105 v0 H n fun v_1 H_2 n_3 =>
boxK 121 v1 H_2 n_3 fun v_4 H_5 n_6 =>
some ((Value.func (Fn.func 104) ⟨[]⟩ ⟨[v_4, v_1]⟩), H_5, n_6)
noncomputable def C74_0 (cal : Cal) (k : Nat) (v0 v1 : Value) (H : Hp) (n : Nat) : Res := B74_0 cal k v0 v1 H n
theorem h74_0 (cal : Cal) (k : Nat) (v0 v1 : Value) (H : Hp) (n : Nat) : bodyE P cal A (k + 1) 74 [v0, v1] H n = C74_0 cal k v0 v1 H n := by
  have h : bodyE P cal A (k + 1) 74 [v0, v1] H n = B74_0 cal k v0 v1 H n := by
    rw [body_eq (fn := Go.Proofs.Try.f74) (c := code74) (rs := results74) (by kernel_rfl) (by kernel_rfl) (by kernel_rfl) (by kernel_rfl)]
    kernel_rfl
  rw [h, C74_0]
noncomputable def code75 : Code := codeOf 75
noncomputable def results75 : List ResultVar := resOf 75
noncomputable def K75_p (cal : Cal) (k : Nat) : KR := (cutK (A 75).c (codeE P cal (codeF P cal k) none 75 (cR code75) (Lv.b (A 75)) (doneK P results75) X0 (doneK P results75)))
noncomputable def K75_pr (cal : Cal) (k : Nat) : KR := (cutK (Lv.b (A 75)).c (codeE P cal (codeF P cal k) none 75 (cR (cR code75)) (Lv.b (Lv.b (A 75))) (doneK P results75) X0 (doneK P results75)))
noncomputable def K75_prr (cal : Cal) (k : Nat) : KR := (cutK (Lv.b (Lv.b (A 75))).c (codeE P cal (codeF P cal k) none 75 (cR (cR (cR code75))) (Lv.b (Lv.b (Lv.b (A 75)))) (doneK P results75) X0 (doneK P results75)))
noncomputable def K75_prrr (cal : Cal) (k : Nat) : KR := (cutK (Lv.b (Lv.b (Lv.b (A 75)))).c (codeE P cal (codeF P cal k) none 75 (cR (cR (cR (cR code75)))) (Lv.b (Lv.b (Lv.b (Lv.b (A 75))))) (doneK P results75) X0 (doneK P results75)))
noncomputable def K75_prrrr (cal : Cal) (k : Nat) : KR := (cutK (Lv.b (Lv.b (Lv.b (Lv.b (A 75))))).c (codeE P cal (codeF P cal k) none 75 (cR (cR (cR (cR (cR code75))))) (Lv.b (Lv.b (Lv.b (Lv.b (Lv.b (A 75)))))) (doneK P results75) X0 (doneK P results75)))
noncomputable def K75_prrrrl (cal : Cal) (k : Nat) : KR := (cutK (Lv.a (Lv.b (Lv.b (Lv.b (Lv.b (A 75)))))).c (codeE P cal (codeF P cal k) none 75 (cR (cL (cR (cR (cR (cR code75)))))) (Lv.b (Lv.a (Lv.b (Lv.b (Lv.b (Lv.b (A 75))))))) (K75_prrrr cal k) X0 (doneK P results75)))
noncomputable def K75_pxrrrrlr (cal : Cal) (k : Nat) : XR := (upX 0 (K75_prrrr cal k) X0)
noncomputable def K75_prrrrlrl (cal : Cal) (k : Nat) (m1 : Nat) : KR := (fun T H n D => codeF P cal m1 (Lv.a (Lv.b (Lv.a (Lv.b (Lv.b (Lv.b (Lv.b (A 75)))))))) none 75 (cL (cR (cL (cR (cR (cR (cR code75))))))) (K75_prrrr cal k) (K75_pxrrrrlr cal k) (doneK P results75) (cutT (Lv.a (Lv.b (Lv.a (Lv.b (Lv.b (Lv.b (Lv.b (A 75)))))))).c T) H n D)
noncomputable def K75_prrrrlrll (cal : Cal) (k : Nat) (m1 : Nat) : KR := (cutK (Lv.a (Lv.a (Lv.b (Lv.a (Lv.b (Lv.b (Lv.b (Lv.b (A 75))))))))).c (codeE P cal (codeF P cal m1) none 75 (cR (cL (cL (cR (cL (cR (cR (cR (cR code75))))))))) (Lv.b (Lv.a (Lv.a (Lv.b (Lv.a (Lv.b (Lv.b (Lv.b (Lv.b (A 75)))))))))) (K75_prrrrlrl cal k m1) (K75_pxrrrrlr cal k) (doneK P results75)))
noncomputable def K75_prrrrlrllr (cal : Cal) (k : Nat) (m1 : Nat) : KR := (cutK (Lv.b (Lv.a (Lv.a (Lv.b (Lv.a (Lv.b (Lv.b (Lv.b (Lv.b (A 75)))))))))).c (codeE P cal (codeF P cal m1) none 75 (cR (cR (cL (cL (cR (cL (cR (cR (cR (cR code75)))))))))) (Lv.b (Lv.b (Lv.a (Lv.a (Lv.b (Lv.a (Lv.b (Lv.b (Lv.b (Lv.b (A 75))))))))))) (K75_prrrrlrl cal k m1) (K75_pxrrrrlr cal k) (doneK P results75)))
noncomputable def K75_prrrrlrllrr (cal : Cal) (k : Nat) (m1 : Nat) : KR := (cutK (Lv.b (Lv.b (Lv.a (Lv.a (Lv.b (Lv.a (Lv.b (Lv.b (Lv.b (Lv.b (A 75))))))))))).c (codeE P cal (codeF P cal m1) none 75 (cR (cR (cR (cL (cL (cR (cL (cR (cR (cR (cR code75))))))))))) (Lv.b (Lv.b (Lv.b (Lv.a (Lv.a (Lv.b (Lv.a (Lv.b (Lv.b (Lv.b (Lv.b (A 75)))))))))))) (K75_prrrrlrl cal k m1) (K75_pxrrrrlr cal k) (doneK P results75)))
noncomputable def K75_pxrrrrlrllrrl (cal : Cal) (k : Nat) (m1 : Nat) : XR := (upX 1 (K75_prrrrlrllrr cal k m1) (K75_pxrrrrlr cal k))
noncomputable def K75_prrrrlrllrrll (cal : Cal) (k : Nat) (m1 : Nat) : KR := (cutK (Lv.a (Lv.a (Lv.b (Lv.b (Lv.a (Lv.a (Lv.b (Lv.a (Lv.b (Lv.b (Lv.b (Lv.b (A 75))))))))))))).c (codeE P cal (codeF P cal m1) none 75 (cR (cL (cL (cR (cR (cL (cL (cR (cL (cR (cR (cR (cR code75))))))))))))) (Lv.b (Lv.a (Lv.a (Lv.b (Lv.b (Lv.a (Lv.a (Lv.b (Lv.a (Lv.b (Lv.b (Lv.b (Lv.b (A 75)))))))))))))) (K75_prrrrlrllrr cal k m1) (K75_pxrrrrlrllrrl cal k m1) (doneK P results75)))
noncomputable def K75_prrrrlrllrrllr (cal : Cal) (k : Nat) (m1 : Nat) : KR := (cutK (Lv.b (Lv.a (Lv.a (Lv.b (Lv.b (Lv.a (Lv.a (Lv.b (Lv.a (Lv.b (Lv.b (Lv.b (Lv.b (A 75)))))))))))))).c (codeE P cal (codeF P cal m1) none 75 (cR (cR (cL (cL (cR (cR (cL (cL (cR (cL (cR (cR (cR (cR code75)))))))))))))) (Lv.b (Lv.b (Lv.a (Lv.a (Lv.b (Lv.b (Lv.a (Lv.a (Lv.b (Lv.a (Lv.b (Lv.b (Lv.b (Lv.b (A 75))))))))))))))) (K75_prrrrlrllrr cal k m1) (K75_pxrrrrlrllrrl cal k m1) (doneK P results75)))
noncomputable def K75_prrrrlrllrrllrr (cal : Cal) (k : Nat) (m1 : Nat) : KR := (cutK (Lv.b (Lv.b (Lv.a (Lv.a (Lv.b (Lv.b (Lv.a (Lv.a (Lv.b (Lv.a (Lv.b (Lv.b (Lv.b (Lv.b (A 75))))))))))))))).c (codeE P cal (codeF P cal m1) none 75 (cR (cR (cR (cL (cL (cR (cR (cL (cL (cR (cL (cR (cR (cR (cR code75))))))))))))))) (Lv.b (Lv.b (Lv.b (Lv.a (Lv.a (Lv.b (Lv.b (Lv.a (Lv.a (Lv.b (Lv.a (Lv.b (Lv.b (Lv.b (Lv.b (A 75)))))))))))))))) (K75_prrrrlrllrr cal k m1) (K75_pxrrrrlrllrrl cal k m1) (doneK P results75)))
noncomputable def K75_prrrrr (cal : Cal) (k : Nat) : KR := (cutK (Lv.b (Lv.b (Lv.b (Lv.b (Lv.b (A 75)))))).c (codeE P cal (codeF P cal k) none 75 (cR (cR (cR (cR (cR (cR code75)))))) (Lv.b (Lv.b (Lv.b (Lv.b (Lv.b (Lv.b (A 75))))))) (doneK P results75) X0 (doneK P results75)))
noncomputable def E75_1 (cal : Cal) (k m1 : Nat) : KR := codeE P cal (codeF P cal m1) none 75 (cL (cL (cR (cL (cR (cR (cR (cR code75)))))))) (Lv.a (Lv.a (Lv.b (Lv.a (Lv.b (Lv.b (Lv.b (Lv.b (A 75))))))))) (K75_prrrrlrl cal k m1) (K75_pxrrrrlr cal k) (doneK P results75)
noncomputable def R75_1 (cal : Cal) (k m1 : Nat) : V5 := fun u6 u7 u8 u24 u25 H n => codeF P cal m1 (Lv.a (Lv.b (Lv.a (Lv.b (Lv.b (Lv.b (Lv.b (A 75)))))))) none 75 (cL (cR (cL (cR (cR (cR (cR code75))))))) (K75_prrrr cal k) (K75_pxrrrrlr cal k) (doneK P results75) (Tr.set (Tr.set (Tr.set (Tr.set (Tr.set Tr.nil 25 (some u25)) 24 (some u24)) 8 (some u8)) 7 (some u7)) 6 (some u6)) H n []
noncomputable def B75_1 (cal : Cal) (k m1 : Nat) (b1 : V5) (u6 u7 u8 u24 u25 : Value) (H : Hp) (n : Nat) : Res :=
binK P .lss 3 (.tmp 25) (.const (.int .i64 8)) u25 (.int .i64 8) fun v_12 =>
ifK v_12 (
bindO (indexV P 111 u24 u25) fun v_14 =>
allocK P 53 H n fun v_15 H_16 n_17 =>
bindO (storeP P 53 v_15 v_14 H_16) fun H_1a =>
bindO (fieldAddrV P 53 v_15 1) fun v_1c =>
bindO (addrV v_1c) fun a_1e => bindO (loadV P H_1a 3 a_1e) fun v_1d =>
bindO (fieldAddrV P 53 v_15 0) fun v_1f =>
bindO (addrV v_1f) fun a_1h => bindO (loadV P H_1a 3 a_1h) fun v_1g =>
binK P .sub 3 (.tmp 31) (.tmp 33) v_1d v_1g fun v_1i =>
rowK P 44 1 [(0, v_1i)] H_1a n_17 fun v_1j H_1k n_1l =>
callFK P cal 105 [u8, v_1j] H_1k n_1l fun v_1m H_1n n_1o =>
bindO (fieldAddrV P 53 v_15 0) fun v_1r =>
bindO (addrV v_1r) fun a_1t => bindO (loadV P H_1n 3 a_1t) fun v_1s =>
binK P .add 3 (.tmp 39) (.tmp 40) v_1s v_1m fun v_1v =>
bindO (indexAddrV P 120 u7 u25) fun v_1w =>
bindO (storeP P 3 v_1w v_1v H_1n) fun H_1y =>
binK P .sub 3 (.tmp 43) (.tmp 44) u8 v_1m fun v_21 =>
binK P .add 3 (.tmp 25) (.const (.int .i64 1)) u25 (.int .i64 1) fun v_23 =>
b1 u6 u7 v_21 u24 v_23 H_1y n_1o) (
bindO (addrV u7) fun a_26 => bindO (loadV P H 120 a_26) fun v_25 =>
bindO (storeP P 120 u6 v_25 H) fun H_28 =>
bindO (resV P (Tr.set Tr.nil 6 (some u6)) H_28 results75) fun v_29 => some (oneV v_29, H_28, n))
noncomputable def C75_1 (cal : Cal) (k m1 : Nat) (b1 : V5) (u6 u7 u8 u24 u25 : Value) (H : Hp) (n : Nat) : Res := B75_1 cal k m1 b1 u6 u7 u8 u24 u25 H n
noncomputable def S75_1 (cal : Cal) (k : Nat) : Nat → V5 := fun m => Nat.rec (motive := fun _ => V5) (C75_1 cal k 0 (fun _ _ _ _ _ _ _ => none)) (fun m ih => C75_1 cal k (m + 1) ih) m
theorem h75_1 (cal : Cal) (k m1 : Nat) (u6 u7 u8 u24 u25 : Value) (H : Hp) (n : Nat) : labK (E75_1 cal k m1) (Tr.set (Tr.set (Tr.set (Tr.set (Tr.set Tr.nil 25 (some u25)) 24 (some u24)) 8 (some u8)) 7 (some u7)) 6 (some u6)) H n [] = C75_1 cal k m1 (R75_1 cal k m1) u6 u7 u8 u24 u25 H n := by
  refine Eq.trans (b := B75_1 cal k m1 (R75_1 cal k m1) u6 u7 u8 u24 u25 H n) (by kernel_rfl) ?_
  rw [C75_1]
theorem q75_1 (cal : Cal) (k : Nat) : ∀ (m : Nat) (u6 u7 u8 u24 u25 : Value) (H : Hp) (n : Nat), labK (E75_1 cal k m) (Tr.set (Tr.set (Tr.set (Tr.set (Tr.set Tr.nil 25 (some u25)) 24 (some u24)) 8 (some u8)) 7 (some u7)) 6 (some u6)) H n [] = S75_1 cal k m u6 u7 u8 u24 u25 H n
  | 0, u6, u7, u8, u24, u25, H, n => by
    rw [h75_1]
    have e : R75_1 cal k 0 = fun _ _ _ _ _ _ _ => none := by funext u6 u7 u8 u24 u25 H n; kernel_rfl
    rw [e]; rfl
  | m + 1, u6, u7, u8, u24, u25, H, n => by
    rw [h75_1]
    have e : R75_1 cal k (m + 1) = S75_1 cal k m := by
      funext u6 u7 u8 u24 u25 H n
      have e : R75_1 cal k (m + 1) u6 u7 u8 u24 u25 H n = labK (E75_1 cal k m) (Tr.set (Tr.set (Tr.set (Tr.set (Tr.set Tr.nil 25 (some u25)) 24 (some u24)) 8 (some u8)) 7 (some u7)) 6 (some u6)) H n [] := by kernel_rfl
      rw [e]; exact q75_1 ..
    rw [e]; rfl
noncomputable def B75_0 (cal : Cal) (k : Nat) (j1 : V5) (v0 v1 v2 : Value) (H : Hp) (n : Nat) : Res :=
boxK 113 v0 H n fun v_1 H_2 n_3 =>
allocK P 120 H_2 n_3 fun v_4 H_5 n_6 =>
bindO (buildP P 53 [(0, v2), (1, v2)]) fun v_a =>
bindO (fieldAddrV P 113 v_1 1) fun v_b =>
bindO (indexAddrV P 111 v_b v1) fun v_c =>
bindO (storeP P 53 v_c v_a H_5) fun H_e =>
allocK P 120 H_e n_6 fun v_f H_g n_h =>
bindO (fieldAddrV P 113 v_1 0) fun v_i =>
bindO (addrV v_i) fun a_j => bindO (loadV P H_g 3 a_j) fun v_k =>
bindO (addrV v_1) fun a_l => bindO (loadV P H_g 113 a_l) fun v_m =>
effK P [(.l 3 a_j)] H_g n_h (fun H_n n_o k_p =>
callFK P cal 98 [v_m, (Value.func (.func 72) #[] #[])] H_n n_o fun v_t H_u n_v =>
k_p v_t H_u n_v) fun v_q H_r n_s =>
binK P .sub 3 (.tmp 19) (.tmp 21) v_k v_q fun v_w =>
bindO (fieldAddrV P 113 v_1 1) fun v_y =>
bindO (addrV v_y) fun a_10 => bindO (loadV P H_r 111 a_10) fun v_z =>
j1 v_4 v_f v_w v_z (.int .i64 0) H_r n_s
noncomputable def C75_0 (cal : Cal) (k : Nat) (v0 v1 v2 : Value) (H : Hp) (n : Nat) : Res := B75_0 cal k (S75_1 cal k k) v0 v1 v2 H n
theorem h75_0 (cal : Cal) (k : Nat) (v0 v1 v2 : Value) (H : Hp) (n : Nat) : bodyE P cal A (k + 1) 75 [v0, v1, v2] H n = C75_0 cal k v0 v1 v2 H n := by
  have h : bodyE P cal A (k + 1) 75 [v0, v1, v2] H n = B75_0 cal k (fun u6 u7 u8 u24 u25 H n => labK (E75_1 cal k k) (Tr.set (Tr.set (Tr.set (Tr.set (Tr.set Tr.nil 25 (some u25)) 24 (some u24)) 8 (some u8)) 7 (some u7)) 6 (some u6)) H n []) v0 v1 v2 H n := by
    rw [body_eq (fn := Go.Proofs.Try.f75) (c := code75) (rs := results75) (by kernel_rfl) (by kernel_rfl) (by kernel_rfl) (by kernel_rfl)]
    kernel_rfl
  rw [h, C75_0]
  have e1 : (fun u6 u7 u8 u24 u25 H n => labK (E75_1 cal k k) (Tr.set (Tr.set (Tr.set (Tr.set (Tr.set Tr.nil 25 (some u25)) 24 (some u24)) 8 (some u8)) 7 (some u7)) 6 (some u6)) H n []) = (S75_1 cal k k) := by funext u6 u7 u8 u24 u25 H n; exact q75_1 ..
  rw [e1]
noncomputable def code76 : Code := codeOf 76
noncomputable def results76 : List ResultVar := resOf 76
noncomputable def K76_p (cal : Cal) (k : Nat) : KR := (cutK (A 76).c (codeE P cal (codeF P cal k) none 76 (cR code76) (Lv.b (A 76)) (doneK P results76) X0 (doneK P results76)))
noncomputable def K76_pr (cal : Cal) (k : Nat) : KR := (cutK (Lv.b (A 76)).c (codeE P cal (codeF P cal k) none 76 (cR (cR code76)) (Lv.b (Lv.b (A 76))) (doneK P results76) X0 (doneK P results76)))
noncomputable def K76_prl (cal : Cal) (k : Nat) : KR := (cutK (Lv.a (Lv.b (A 76))).c (codeE P cal (codeF P cal k) none 76 (cR (cL (cR code76))) (Lv.b (Lv.a (Lv.b (A 76)))) (K76_pr cal k) X0 (doneK P results76)))
noncomputable def K76_prlrl (cal : Cal) (k : Nat) : KR := (cutK (Lv.a (Lv.b (Lv.a (Lv.b (A 76))))).c (codeE P cal (codeF P cal k) none 76 (cR (cL (cR (cL (cR code76))))) (Lv.b (Lv.a (Lv.b (Lv.a (Lv.b (A 76)))))) (K76_pr cal k) X0 (doneK P results76)))
noncomputable def K76_prr (cal : Cal) (k : Nat) : KR := (cutK (Lv.b (Lv.b (A 76))).c (codeE P cal (codeF P cal k) none 76 (cR (cR (cR code76))) (Lv.b (Lv.b (Lv.b (A 76)))) (doneK P results76) X0 (doneK P results76)))
noncomputable def B76_0 (cal : Cal) (k : Nat) (v0 : Value) (H : Hp) (n : Nat) : Res :=
binK P .eql 44 (.tmp 3) (.const (.slice none 0 0)) v0 (.slice none 0 0) fun v_3 =>
ifK v_3 (
some ((.slice none 0 0), H, n)) (
rowK P 44 0 [] H n fun v_5 H_6 n_7 =>
stK (appendV P (bare H_6 n_7) 44 44 v_5 v0) fun v_9 H_a n_b =>
some (v_9, H_a, n_b))
noncomputable def C76_0 (cal : Cal) (k : Nat) (v0 : Value) (H : Hp) (n : Nat) : Res := B76_0 cal k v0 H n
theorem h76_0 (cal : Cal) (k : Nat) (v0 : Value) (H : Hp) (n : Nat) : bodyE P cal A (k + 1) 76 [v0] H n = C76_0 cal k v0 H n := by
  have h : bodyE P cal A (k + 1) 76 [v0] H n = B76_0 cal k v0 H n := by
    rw [body_eq (fn := Go.Proofs.Try.f76) (c := code76) (rs := results76) (by kernel_rfl) (by kernel_rfl) (by kernel_rfl) (by kernel_rfl)]
    kernel_rfl
  rw [h, C76_0]
noncomputable def code77 : Code := codeOf 77
noncomputable def results77 : List ResultVar := resOf 77
noncomputable def K77_p (cal : Cal) (k : Nat) : KR := (cutK (A 77).c (codeE P cal (codeF P cal k) none 77 (cR code77) (Lv.b (A 77)) (doneK P results77) X0 (doneK P results77)))
noncomputable def K77_pr (cal : Cal) (k : Nat) : KR := (cutK (Lv.b (A 77)).c (codeE P cal (codeF P cal k) none 77 (cR (cR code77)) (Lv.b (Lv.b (A 77))) (doneK P results77) X0 (doneK P results77)))
noncomputable def K77_pxrl (cal : Cal) (k : Nat) : XR := (upX 0 (K77_pr cal k) X0)
noncomputable def K77_prll (cal : Cal) (k : Nat) : KR := (cutK (Lv.a (Lv.a (Lv.b (A 77)))).c (codeE P cal (codeF P cal k) none 77 (cR (cL (cL (cR code77)))) (Lv.b (Lv.a (Lv.a (Lv.b (A 77))))) (K77_pr cal k) (K77_pxrl cal k) (doneK P results77)))
noncomputable def K77_prllrl (cal : Cal) (k : Nat) : KR := (cutK (Lv.a (Lv.b (Lv.a (Lv.a (Lv.b (A 77)))))).c (codeE P cal (codeF P cal k) none 77 (cR (cL (cR (cL (cL (cR code77)))))) (Lv.b (Lv.a (Lv.b (Lv.a (Lv.a (Lv.b (A 77))))))) (K77_pr cal k) (K77_pxrl cal k) (doneK P results77)))
noncomputable def K77_prllrr (cal : Cal) (k : Nat) : KR := (cutK (Lv.b (Lv.b (Lv.a (Lv.a (Lv.b (A 77)))))).c (codeE P cal (codeF P cal k) none 77 (cR (cR (cR (cL (cL (cR code77)))))) (Lv.b (Lv.b (Lv.b (Lv.a (Lv.a (Lv.b (A 77))))))) (K77_pr cal k) (K77_pxrl cal k) (doneK P results77)))
noncomputable def K77_prllrrrl (cal : Cal) (k : Nat) : KR := (cutK (Lv.a (Lv.b (Lv.b (Lv.b (Lv.a (Lv.a (Lv.b (A 77)))))))).c (codeE P cal (codeF P cal k) none 77 (cR (cL (cR (cR (cR (cL (cL (cR code77)))))))) (Lv.b (Lv.a (Lv.b (Lv.b (Lv.b (Lv.a (Lv.a (Lv.b (A 77))))))))) (K77_pr cal k) (K77_pxrl cal k) (doneK P results77)))
noncomputable def K77_prr (cal : Cal) (k : Nat) : KR := (cutK (Lv.b (Lv.b (A 77))).c (codeE P cal (codeF P cal k) none 77 (cR (cR (cR code77))) (Lv.b (Lv.b (Lv.b (A 77)))) (doneK P results77) X0 (doneK P results77)))
noncomputable def B77_0 (cal : Cal) (k : Nat) (v0 v1 v2 v3 : Value) (H : Hp) (n : Nat) : Res :=
boxK 26 v0 H n fun v_1 H_2 n_3 =>
allocK P 55 H_2 n_3 fun v_4 H_5 n_6 =>
binK P .eql 3 (.tmp 10) (.tmp 11) v2 v3 fun v_9 =>
ifK v_9 (
bindO (fieldAddrV P 26 v_1 2) fun v_b =>
bindO (addrV v_b) fun a_d => bindO (loadV P H_5 24 a_d) fun v_c =>
bindO (indexAddrV P 24 v_c v1) fun v_f =>
bindO (fieldAddrV P 94 v_f 1) fun v_g =>
bindO (addrV v_g) fun a_i => bindO (loadV P H_5 55 a_i) fun v_h =>
bindO (storeP P 55 v_4 v_h H_5) fun H_k =>
bindO (resV P (Tr.set Tr.nil 8 (some v_4)) H_k results77) fun v_l => some (oneV v_l, H_k, n_6)) (
bindO (addrV v_1) fun a_n => bindO (loadV P H_5 26 a_n) fun v_m =>
callFK P cal 89 [v_m, v2, v3] H_5 n_6 fun v_q H_r n_s =>
ifK v_q (
bindO (fieldAddrV P 26 v_1 2) fun v_u =>
bindO (addrV v_u) fun a_w => bindO (loadV P H_r 24 a_w) fun v_v =>
bindO (indexAddrV P 24 v_v v1) fun v_y =>
bindO (fieldAddrV P 94 v_y 2) fun v_z =>
bindO (addrV v_z) fun a_11 => bindO (loadV P H_r 55 a_11) fun v_10 =>
bindO (storeP P 55 v_4 v_10 H_r) fun H_13 =>
bindO (resV P (Tr.set Tr.nil 8 (some v_4)) H_13 results77) fun v_14 => some (oneV v_14, H_13, n_s)) (
bindO (buildP P 55 []) fun v_15 =>
bindO (storeP P 55 v_4 v_15 H_r) fun H_17 =>
bindO (resV P (Tr.set Tr.nil 8 (some v_4)) H_17 results77) fun v_18 => some (oneV v_18, H_17, n_s)))
noncomputable def C77_0 (cal : Cal) (k : Nat) (v0 v1 v2 v3 : Value) (H : Hp) (n : Nat) : Res := B77_0 cal k v0 v1 v2 v3 H n
theorem h77_0 (cal : Cal) (k : Nat) (v0 v1 v2 v3 : Value) (H : Hp) (n : Nat) : bodyE P cal A (k + 1) 77 [v0, v1, v2, v3] H n = C77_0 cal k v0 v1 v2 v3 H n := by
  have h : bodyE P cal A (k + 1) 77 [v0, v1, v2, v3] H n = B77_0 cal k v0 v1 v2 v3 H n := by
    rw [body_eq (fn := Go.Proofs.Try.f77) (c := code77) (rs := results77) (by kernel_rfl) (by kernel_rfl) (by kernel_rfl) (by kernel_rfl)]
    kernel_rfl
  rw [h, C77_0]
noncomputable def code83 : Code := codeOf 83
noncomputable def results83 : List ResultVar := resOf 83
noncomputable def K83_p (cal : Cal) (k : Nat) : KR := (cutK (A 83).c (codeE P cal (codeF P cal k) none 83 (cR code83) (Lv.b (A 83)) (doneK P results83) X0 (doneK P results83)))
noncomputable def K83_pr (cal : Cal) (k : Nat) : KR := (cutK (Lv.b (A 83)).c (codeE P cal (codeF P cal k) none 83 (cR (cR code83)) (Lv.b (Lv.b (A 83))) (doneK P results83) X0 (doneK P results83)))
noncomputable def K83_prl (cal : Cal) (k : Nat) : KR := (cutK (Lv.a (Lv.b (A 83))).c (codeE P cal (codeF P cal k) none 83 (cR (cL (cR code83))) (Lv.b (Lv.a (Lv.b (A 83)))) (K83_pr cal k) X0 (doneK P results83)))
noncomputable def K83_pxrlr (cal : Cal) (k : Nat) : XR := (upX 0 (K83_pr cal k) X0)
noncomputable def K83_prlrl (cal : Cal) (k : Nat) (m1 : Nat) : KR := (fun T H n D => codeF P cal m1 (Lv.a (Lv.b (Lv.a (Lv.b (A 83))))) none 83 (cL (cR (cL (cR code83)))) (K83_pr cal k) (K83_pxrlr cal k) (doneK P results83) (cutT (Lv.a (Lv.b (Lv.a (Lv.b (A 83))))).c T) H n D)
noncomputable def K83_prlrll (cal : Cal) (k : Nat) (m1 : Nat) : KR := (cutK (Lv.a (Lv.a (Lv.b (Lv.a (Lv.b (A 83)))))).c (codeE P cal (codeF P cal m1) none 83 (cR (cL (cL (cR (cL (cR code83)))))) (Lv.b (Lv.a (Lv.a (Lv.b (Lv.a (Lv.b (A 83))))))) (K83_prlrl cal k m1) (K83_pxrlr cal k) (doneK P results83)))
noncomputable def K83_prlrllr (cal : Cal) (k : Nat) (m1 : Nat) : KR := (cutK (Lv.b (Lv.a (Lv.a (Lv.b (Lv.a (Lv.b (A 83))))))).c (codeE P cal (codeF P cal m1) none 83 (cR (cR (cL (cL (cR (cL (cR code83))))))) (Lv.b (Lv.b (Lv.a (Lv.a (Lv.b (Lv.a (Lv.b (A 83)))))))) (K83_prlrl cal k m1) (K83_pxrlr cal k) (doneK P results83)))
noncomputable def K83_prlrllrr (cal : Cal) (k : Nat) (m1 : Nat) : KR := (cutK (Lv.b (Lv.b (Lv.a (Lv.a (Lv.b (Lv.a (Lv.b (A 83)))))))).c (codeE P cal (codeF P cal m1) none 83 (cR (cR (cR (cL (cL (cR (cL (cR code83)))))))) (Lv.b (Lv.b (Lv.b (Lv.a (Lv.a (Lv.b (Lv.a (Lv.b (A 83))))))))) (K83_prlrl cal k m1) (K83_pxrlr cal k) (doneK P results83)))
noncomputable def K83_pxrlrllrrl (cal : Cal) (k : Nat) (m1 : Nat) : XR := (upX 1 (K83_prlrllrr cal k m1) (K83_pxrlr cal k))
noncomputable def K83_prlrllrrll (cal : Cal) (k : Nat) (m1 : Nat) : KR := (cutK (Lv.a (Lv.a (Lv.b (Lv.b (Lv.a (Lv.a (Lv.b (Lv.a (Lv.b (A 83)))))))))).c (codeE P cal (codeF P cal m1) none 83 (cR (cL (cL (cR (cR (cL (cL (cR (cL (cR code83)))))))))) (Lv.b (Lv.a (Lv.a (Lv.b (Lv.b (Lv.a (Lv.a (Lv.b (Lv.a (Lv.b (A 83))))))))))) (K83_prlrllrr cal k m1) (K83_pxrlrllrrl cal k m1) (doneK P results83)))
noncomputable def K83_prlrllrrllr (cal : Cal) (k : Nat) (m1 : Nat) : KR := (cutK (Lv.b (Lv.a (Lv.a (Lv.b (Lv.b (Lv.a (Lv.a (Lv.b (Lv.a (Lv.b (A 83))))))))))).c (codeE P cal (codeF P cal m1) none 83 (cR (cR (cL (cL (cR (cR (cL (cL (cR (cL (cR code83))))))))))) (Lv.b (Lv.b (Lv.a (Lv.a (Lv.b (Lv.b (Lv.a (Lv.a (Lv.b (Lv.a (Lv.b (A 83)))))))))))) (K83_prlrllrr cal k m1) (K83_pxrlrllrrl cal k m1) (doneK P results83)))
noncomputable def K83_prlrllrrllrrl (cal : Cal) (k : Nat) (m1 : Nat) : KR := (cutK (Lv.a (Lv.b (Lv.b (Lv.a (Lv.a (Lv.b (Lv.b (Lv.a (Lv.a (Lv.b (Lv.a (Lv.b (A 83))))))))))))).c (codeE P cal (codeF P cal m1) none 83 (cR (cL (cR (cR (cL (cL (cR (cR (cL (cL (cR (cL (cR code83))))))))))))) (Lv.b (Lv.a (Lv.b (Lv.b (Lv.a (Lv.a (Lv.b (Lv.b (Lv.a (Lv.a (Lv.b (Lv.a (Lv.b (A 83)))))))))))))) (K83_prlrllrr cal k m1) (K83_pxrlrllrrl cal k m1) (doneK P results83)))
noncomputable def K83_prr (cal : Cal) (k : Nat) : KR := (cutK (Lv.b (Lv.b (A 83))).c (codeE P cal (codeF P cal k) none 83 (cR (cR (cR code83))) (Lv.b (Lv.b (Lv.b (A 83)))) (doneK P results83) X0 (doneK P results83)))
noncomputable def E83_1 (cal : Cal) (k m1 : Nat) : KR := codeE P cal (codeF P cal m1) none 83 (cL (cL (cR (cL (cR code83))))) (Lv.a (Lv.a (Lv.b (Lv.a (Lv.b (A 83)))))) (K83_prlrl cal k m1) (K83_pxrlr cal k) (doneK P results83)
noncomputable def R83_1 (cal : Cal) (k m1 : Nat) : V4 := fun u0 u3 u11 u12 H n => codeF P cal m1 (Lv.a (Lv.b (Lv.a (Lv.b (A 83))))) none 83 (cL (cR (cL (cR code83)))) (K83_pr cal k) (K83_pxrlr cal k) (doneK P results83) (Tr.set (Tr.set (Tr.set (Tr.set Tr.nil 12 (some u12)) 11 (some u11)) 3 (some u3)) 0 (some u0)) H n []
noncomputable def B83_1 (cal : Cal) (k m1 : Nat) (b1 : V4) (u0 u3 u11 u12 : Value) (H : Hp) (n : Nat) : Res :=
binK P .lss 3 (.tmp 12) (.tmp 11) u12 u11 fun v_d =>
ifK v_d (
bindO (addrV u3) fun a_i => bindO (loadV P H 111 a_i) fun v_h =>
callFK P cal 68 [u0, v_h, u12] H n fun v_k H_l n_m =>
ifK v_k (
some ((.bool false), H_l, n_m)) (
binK P .add 3 (.tmp 12) (.const (.int .i64 1)) u12 (.int .i64 1) fun v_o =>
b1 u0 u3 u11 v_o H_l n_m)) (
bindO (addrV u3) fun a_s => bindO (loadV P H 111 a_s) fun v_r =>
callFK P cal 111 [u0, v_r] H n fun v_t H_u n_v =>
some (v_t, H_u, n_v))
noncomputable def C83_1 (cal : Cal) (k m1 : Nat) (b1 : V4) (u0 u3 u11 u12 : Value) (H : Hp) (n : Nat) : Res := B83_1 cal k m1 b1 u0 u3 u11 u12 H n
noncomputable def S83_1 (cal : Cal) (k : Nat) : Nat → V4 := fun m => Nat.rec (motive := fun _ => V4) (C83_1 cal k 0 (fun _ _ _ _ _ _ => none)) (fun m ih => C83_1 cal k (m + 1) ih) m
theorem h83_1 (cal : Cal) (k m1 : Nat) (u0 u3 u11 u12 : Value) (H : Hp) (n : Nat) : labK (E83_1 cal k m1) (Tr.set (Tr.set (Tr.set (Tr.set Tr.nil 12 (some u12)) 11 (some u11)) 3 (some u3)) 0 (some u0)) H n [] = C83_1 cal k m1 (R83_1 cal k m1) u0 u3 u11 u12 H n := by
  refine Eq.trans (b := B83_1 cal k m1 (R83_1 cal k m1) u0 u3 u11 u12 H n) (by kernel_rfl) ?_
  rw [C83_1]
theorem q83_1 (cal : Cal) (k : Nat) : ∀ (m : Nat) (u0 u3 u11 u12 : Value) (H : Hp) (n : Nat), labK (E83_1 cal k m) (Tr.set (Tr.set (Tr.set (Tr.set Tr.nil 12 (some u12)) 11 (some u11)) 3 (some u3)) 0 (some u0)) H n [] = S83_1 cal k m u0 u3 u11 u12 H n
  | 0, u0, u3, u11, u12, H, n => by
    rw [h83_1]
    have e : R83_1 cal k 0 = fun _ _ _ _ _ _ => none := by funext u0 u3 u11 u12 H n; kernel_rfl
    rw [e]; rfl
  | m + 1, u0, u3, u11, u12, H, n => by
    rw [h83_1]
    have e : R83_1 cal k (m + 1) = S83_1 cal k m := by
      funext u0 u3 u11 u12 H n
      have e : R83_1 cal k (m + 1) u0 u3 u11 u12 H n = labK (E83_1 cal k m) (Tr.set (Tr.set (Tr.set (Tr.set Tr.nil 12 (some u12)) 11 (some u11)) 3 (some u3)) 0 (some u0)) H n [] := by kernel_rfl
      rw [e]; exact q83_1 ..
    rw [e]; rfl
noncomputable def B83_0 (cal : Cal) (k : Nat) (j1 : V4) (v0 v1 : Value) (H : Hp) (n : Nat) : Res :=
boxK 111 v1 H n fun v_1 H_2 n_3 =>
bindO (nilV v0) fun v_6 =>
bindO (fieldAddrV P 117 v_6 0) fun v_7 =>
bindO (fieldAddrV P 35 v_7 0) fun v_8 =>
bindO (addrV v_8) fun a_a => bindO (loadV P H_2 31 a_a) fun v_9 =>
bindO (lenV P 31 v_9) fun v_b =>
j1 v0 v_1 v_b (.int .i64 0) H_2 n_3
noncomputable def C83_0 (cal : Cal) (k : Nat) (v0 v1 : Value) (H : Hp) (n : Nat) : Res := B83_0 cal k (S83_1 cal k k) v0 v1 H n
theorem h83_0 (cal : Cal) (k : Nat) (v0 v1 : Value) (H : Hp) (n : Nat) : bodyE P cal A (k + 1) 83 [v0, v1] H n = C83_0 cal k v0 v1 H n := by
  have h : bodyE P cal A (k + 1) 83 [v0, v1] H n = B83_0 cal k (fun u0 u3 u11 u12 H n => labK (E83_1 cal k k) (Tr.set (Tr.set (Tr.set (Tr.set Tr.nil 12 (some u12)) 11 (some u11)) 3 (some u3)) 0 (some u0)) H n []) v0 v1 H n := by
    rw [body_eq (fn := Go.Proofs.Try.f83) (c := code83) (rs := results83) (by kernel_rfl) (by kernel_rfl) (by kernel_rfl) (by kernel_rfl)]
    kernel_rfl
  rw [h, C83_0]
  have e1 : (fun u0 u3 u11 u12 H n => labK (E83_1 cal k k) (Tr.set (Tr.set (Tr.set (Tr.set Tr.nil 12 (some u12)) 11 (some u11)) 3 (some u3)) 0 (some u0)) H n []) = (S83_1 cal k k) := by funext u0 u3 u11 u12 H n; exact q83_1 ..
  rw [e1]
noncomputable def code89 : Code := codeOf 89
noncomputable def results89 : List ResultVar := resOf 89
noncomputable def K89_p (cal : Cal) (k : Nat) : KR := (cutK (A 89).c (codeE P cal (codeF P cal k) none 89 (cR code89) (Lv.b (A 89)) (doneK P results89) X0 (doneK P results89)))
noncomputable def K89_pr (cal : Cal) (k : Nat) : KR := (cutK (Lv.b (A 89)).c (codeE P cal (codeF P cal k) none 89 (cR (cR code89)) (Lv.b (Lv.b (A 89))) (doneK P results89) X0 (doneK P results89)))
noncomputable def K89_prl (cal : Cal) (k : Nat) : KR := (cutK (Lv.a (Lv.b (A 89))).c (codeE P cal (codeF P cal k) none 89 (cR (cL (cR code89))) (Lv.b (Lv.a (Lv.b (A 89)))) (K89_pr cal k) X0 (doneK P results89)))
noncomputable def K89_pxrlr (cal : Cal) (k : Nat) : XR := (upX 0 (K89_pr cal k) X0)
noncomputable def K89_prlrl (cal : Cal) (k : Nat) (m1 : Nat) : KR := (fun T H n D => codeF P cal m1 (Lv.a (Lv.b (Lv.a (Lv.b (A 89))))) none 89 (cL (cR (cL (cR code89)))) (K89_pr cal k) (K89_pxrlr cal k) (doneK P results89) (cutT (Lv.a (Lv.b (Lv.a (Lv.b (A 89))))).c T) H n D)
noncomputable def K89_prlrll (cal : Cal) (k : Nat) (m1 : Nat) : KR := (cutK (Lv.a (Lv.a (Lv.b (Lv.a (Lv.b (A 89)))))).c (codeE P cal (codeF P cal m1) none 89 (cR (cL (cL (cR (cL (cR code89)))))) (Lv.b (Lv.a (Lv.a (Lv.b (Lv.a (Lv.b (A 89))))))) (K89_prlrl cal k m1) (K89_pxrlr cal k) (doneK P results89)))
noncomputable def K89_prlrlll (cal : Cal) (k : Nat) (m1 : Nat) : KR := (cutK (Lv.a (Lv.a (Lv.a (Lv.b (Lv.a (Lv.b (A 89))))))).c (codeE P cal (codeF P cal m1) none 89 (cR (cL (cL (cL (cR (cL (cR code89))))))) (Lv.b (Lv.a (Lv.a (Lv.a (Lv.b (Lv.a (Lv.b (A 89)))))))) (K89_prlrll cal k m1) (K89_pxrlr cal k) (doneK P results89)))
noncomputable def K89_prlrllr (cal : Cal) (k : Nat) (m1 : Nat) : KR := (cutK (Lv.b (Lv.a (Lv.a (Lv.b (Lv.a (Lv.b (A 89))))))).c (codeE P cal (codeF P cal m1) none 89 (cR (cR (cL (cL (cR (cL (cR code89))))))) (Lv.b (Lv.b (Lv.a (Lv.a (Lv.b (Lv.a (Lv.b (A 89)))))))) (K89_prlrl cal k m1) (K89_pxrlr cal k) (doneK P results89)))
noncomputable def K89_pxrlrllrl (cal : Cal) (k : Nat) (m1 : Nat) : XR := (upX 1 (K89_prlrllr cal k m1) (K89_pxrlr cal k))
noncomputable def K89_prlrllrll (cal : Cal) (k : Nat) (m1 : Nat) : KR := (cutK (Lv.a (Lv.a (Lv.b (Lv.a (Lv.a (Lv.b (Lv.a (Lv.b (A 89))))))))).c (codeE P cal (codeF P cal m1) none 89 (cR (cL (cL (cR (cL (cL (cR (cL (cR code89))))))))) (Lv.b (Lv.a (Lv.a (Lv.b (Lv.a (Lv.a (Lv.b (Lv.a (Lv.b (A 89)))))))))) (K89_prlrllr cal k m1) (K89_pxrlrllrl cal k m1) (doneK P results89)))
noncomputable def K89_prlrllrllr (cal : Cal) (k : Nat) (m1 : Nat) : KR := (cutK (Lv.b (Lv.a (Lv.a (Lv.b (Lv.a (Lv.a (Lv.b (Lv.a (Lv.b (A 89)))))))))).c (codeE P cal (codeF P cal m1) none 89 (cR (cR (cL (cL (cR (cL (cL (cR (cL (cR code89)))))))))) (Lv.b (Lv.b (Lv.a (Lv.a (Lv.b (Lv.a (Lv.a (Lv.b (Lv.a (Lv.b (A 89))))))))))) (K89_prlrllr cal k m1) (K89_pxrlrllrl cal k m1) (doneK P results89)))
noncomputable def K89_prlrllrllrrl (cal : Cal) (k : Nat) (m1 : Nat) : KR := (cutK (Lv.a (Lv.b (Lv.b (Lv.a (Lv.a (Lv.b (Lv.a (Lv.a (Lv.b (Lv.a (Lv.b (A 89)))))))))))).c (codeE P cal (codeF P cal m1) none 89 (cR (cL (cR (cR (cL (cL (cR (cL (cL (cR (cL (cR code89)))))))))))) (Lv.b (Lv.a (Lv.b (Lv.b (Lv.a (Lv.a (Lv.b (Lv.a (Lv.a (Lv.b (Lv.a (Lv.b (A 89))))))))))))) (K89_prlrllr cal k m1) (K89_pxrlrllrl cal k m1) (doneK P results89)))
noncomputable def K89_prr (cal : Cal) (k : Nat) : KR := (cutK (Lv.b (Lv.b (A 89))).c (codeE P cal (codeF P cal k) none 89 (cR (cR (cR code89))) (Lv.b (Lv.b (Lv.b (A 89)))) (doneK P results89) X0 (doneK P results89)))
noncomputable def E89_1 (cal : Cal) (k m1 : Nat) : KR := codeE P cal (codeF P cal m1) none 89 (cL (cL (cR (cL (cR code89))))) (Lv.a (Lv.a (Lv.b (Lv.a (Lv.b (A 89)))))) (K89_prlrl cal k m1) (K89_pxrlr cal k) (doneK P results89)
noncomputable def R89_1 (cal : Cal) (k m1 : Nat) : V4 := fun u1 u2 u3 u7 H n => codeF P cal m1 (Lv.a (Lv.b (Lv.a (Lv.b (A 89))))) none 89 (cL (cR (cL (cR code89)))) (K89_pr cal k) (K89_pxrlr cal k) (doneK P results89) (Tr.set (Tr.set (Tr.set (Tr.set Tr.nil 7 (some u7)) 3 (some u3)) 2 (some u2)) 1 (some u1)) H n []
noncomputable def B89_1 (cal : Cal) (k m1 : Nat) (b1 : V4) (u1 u2 u3 u7 : Value) (H : Hp) (n : Nat) : Res :=
bindO (fieldAddrV P 26 u3 1) fun v_7 =>
bindO (addrV v_7) fun a_9 => bindO (loadV P H 23 a_9) fun v_8 =>
bindO (lenV P 23 v_8) fun v_a =>
binK P .lss 3 (.tmp 9) (.tmp 12) u7 v_a fun v_b =>
ifK v_b (
bindO (fieldAddrV P 26 u3 1) fun v_c =>
bindO (addrV v_c) fun a_e => bindO (loadV P H 23 a_e) fun v_d =>
bindO (indexAddrV P 23 v_d u7) fun v_g =>
bindO (addrV v_g) fun a_i => bindO (loadV P H 104 a_i) fun v_h =>
allocK P 104 H n fun v_j H_k n_l =>
bindO (storeP P 104 v_j v_h H_k) fun H_n =>
bindO (fieldAddrV P 104 v_j 0) fun v_o =>
bindO (addrV v_o) fun a_q => bindO (loadV P H_n 3 a_q) fun v_p =>
binK P .eql 3 (.tmp 22) (.tmp 23) v_p u1 fun v_s =>
guardK v_s true (fun k_u =>
bindO (fieldAddrV P 104 v_j 1) fun v_y =>
k_u v_y H_n n_l) H_n n_l fun v_v H_w n_x =>
guardK v_s true (fun k_z =>
bindO (addrV v_v) fun a_14 => bindO (loadV P H_w 3 a_14) fun v_13 =>
k_z v_13 H_w n_x) H_w n_x fun v_10 H_11 n_12 =>
guardK v_s true (fun k_15 =>
k_15 u2 H_11 n_12) H_11 n_12 fun v_16 H_17 n_18 =>
guardK v_s true (fun k_1a =>
binK P .eql 3 (.tmp 27) (.tmp 28) v_10 v_16 fun v_1e =>
k_1a v_1e H_17 n_18) H_17 n_18 fun v_1b H_1c n_1d =>
bindO (pickV v_s v_1b (.bool false)) fun v_1f =>
guardK v_1f false (fun k_1h =>
bindO (fieldAddrV P 104 v_j 0) fun v_1l =>
k_1h v_1l H_1c n_1d) H_1c n_1d fun v_1i H_1j n_1k =>
guardK v_1f false (fun k_1m =>
bindO (addrV v_1i) fun a_1r => bindO (loadV P H_1j 3 a_1r) fun v_1q =>
k_1m v_1q H_1j n_1k) H_1j n_1k fun v_1n H_1o n_1p =>
guardK v_1f false (fun k_1s =>
k_1s u2 H_1o n_1p) H_1o n_1p fun v_1t H_1u n_1v =>
guardK v_1f false (fun k_1x =>
binK P .eql 3 (.tmp 33) (.tmp 34) v_1n v_1t fun v_21 =>
k_1x v_21 H_1u n_1v) H_1u n_1v fun v_1y H_1z n_20 =>
guardK v_1f false (fun k_22 =>
k_22 v_1y H_1z n_20) H_1z n_20 fun v_23 H_24 n_25 =>
guardK v_23 true (fun k_27 =>
bindO (fieldAddrV P 104 v_j 1) fun v_2b =>
k_27 v_2b H_24 n_25) H_24 n_25 fun v_28 H_29 n_2a =>
guardK v_23 true (fun k_2c =>
bindO (addrV v_28) fun a_2h => bindO (loadV P H_29 3 a_2h) fun v_2g =>
k_2c v_2g H_29 n_2a) H_29 n_2a fun v_2d H_2e n_2f =>
guardK v_23 true (fun k_2i =>
k_2i u1 H_2e n_2f) H_2e n_2f fun v_2j H_2k n_2l =>
guardK v_23 true (fun k_2n =>
binK P .eql 3 (.tmp 38) (.tmp 39) v_2d v_2j fun v_2r =>
k_2n v_2r H_2k n_2l) H_2k n_2l fun v_2o H_2p n_2q =>
guardK v_1f false (fun k_2s =>
bindO (pickV v_23 v_2o (.bool false)) fun v_2w =>
k_2s v_2w H_2p n_2q) H_2p n_2q fun v_2t H_2u n_2v =>
bindO (pickV v_1f (.bool true) v_2t) fun v_2x =>
ifK v_2x (
some ((.bool true), H_2u, n_2v)) (
binK P .add 3 (.tmp 14) (.const (.int .i64 1)) u7 (.int .i64 1) fun v_30 =>
b1 u1 u2 u3 v_30 H_2u n_2v)) (
some ((.bool false), H, n))
noncomputable def C89_1 (cal : Cal) (k m1 : Nat) (b1 : V4) (u1 u2 u3 u7 : Value) (H : Hp) (n : Nat) : Res := B89_1 cal k m1 b1 u1 u2 u3 u7 H n
noncomputable def S89_1 (cal : Cal) (k : Nat) : Nat → V4 := fun m => Nat.rec (motive := fun _ => V4) (C89_1 cal k 0 (fun _ _ _ _ _ _ => none)) (fun m ih => C89_1 cal k (m + 1) ih) m
theorem h89_1 (cal : Cal) (k m1 : Nat) (u1 u2 u3 u7 : Value) (H : Hp) (n : Nat) : labK (E89_1 cal k m1) (Tr.set (Tr.set (Tr.set (Tr.set Tr.nil 7 (some u7)) 3 (some u3)) 2 (some u2)) 1 (some u1)) H n [] = C89_1 cal k m1 (R89_1 cal k m1) u1 u2 u3 u7 H n := by
  refine Eq.trans (b := B89_1 cal k m1 (R89_1 cal k m1) u1 u2 u3 u7 H n) (by kernel_rfl) ?_
  rw [C89_1]
theorem q89_1 (cal : Cal) (k : Nat) : ∀ (m : Nat) (u1 u2 u3 u7 : Value) (H : Hp) (n : Nat), labK (E89_1 cal k m) (Tr.set (Tr.set (Tr.set (Tr.set Tr.nil 7 (some u7)) 3 (some u3)) 2 (some u2)) 1 (some u1)) H n [] = S89_1 cal k m u1 u2 u3 u7 H n
  | 0, u1, u2, u3, u7, H, n => by
    rw [h89_1]
    have e : R89_1 cal k 0 = fun _ _ _ _ _ _ => none := by funext u1 u2 u3 u7 H n; kernel_rfl
    rw [e]; rfl
  | m + 1, u1, u2, u3, u7, H, n => by
    rw [h89_1]
    have e : R89_1 cal k (m + 1) = S89_1 cal k m := by
      funext u1 u2 u3 u7 H n
      have e : R89_1 cal k (m + 1) u1 u2 u3 u7 H n = labK (E89_1 cal k m) (Tr.set (Tr.set (Tr.set (Tr.set Tr.nil 7 (some u7)) 3 (some u3)) 2 (some u2)) 1 (some u1)) H n [] := by kernel_rfl
      rw [e]; exact q89_1 ..
    rw [e]; rfl
noncomputable def B89_0 (cal : Cal) (k : Nat) (j1 : V4) (v0 v1 v2 : Value) (H : Hp) (n : Nat) : Res :=
boxK 26 v0 H n fun v_1 H_2 n_3 =>
j1 v1 v2 v_1 (.int .i64 0) H_2 n_3
noncomputable def C89_0 (cal : Cal) (k : Nat) (v0 v1 v2 : Value) (H : Hp) (n : Nat) : Res := B89_0 cal k (S89_1 cal k k) v0 v1 v2 H n
theorem h89_0 (cal : Cal) (k : Nat) (v0 v1 v2 : Value) (H : Hp) (n : Nat) : bodyE P cal A (k + 1) 89 [v0, v1, v2] H n = C89_0 cal k v0 v1 v2 H n := by
  have h : bodyE P cal A (k + 1) 89 [v0, v1, v2] H n = B89_0 cal k (fun u1 u2 u3 u7 H n => labK (E89_1 cal k k) (Tr.set (Tr.set (Tr.set (Tr.set Tr.nil 7 (some u7)) 3 (some u3)) 2 (some u2)) 1 (some u1)) H n []) v0 v1 v2 H n := by
    rw [body_eq (fn := Go.Proofs.Try.f89) (c := code89) (rs := results89) (by kernel_rfl) (by kernel_rfl) (by kernel_rfl) (by kernel_rfl)]
    kernel_rfl
  rw [h, C89_0]
  have e1 : (fun u1 u2 u3 u7 H n => labK (E89_1 cal k k) (Tr.set (Tr.set (Tr.set (Tr.set Tr.nil 7 (some u7)) 3 (some u3)) 2 (some u2)) 1 (some u1)) H n []) = (S89_1 cal k k) := by funext u1 u2 u3 u7 H n; exact q89_1 ..
  rw [e1]
noncomputable def code91 : Code := codeOf 91
noncomputable def results91 : List ResultVar := resOf 91
noncomputable def K91_p (cal : Cal) (k : Nat) : KR := (cutK (A 91).c (codeE P cal (codeF P cal k) none 91 (cR code91) (Lv.b (A 91)) (doneK P results91) X0 (doneK P results91)))
noncomputable def K91_pr (cal : Cal) (k : Nat) : KR := (cutK (Lv.b (A 91)).c (codeE P cal (codeF P cal k) none 91 (cR (cR code91)) (Lv.b (Lv.b (A 91))) (doneK P results91) X0 (doneK P results91)))
noncomputable def K91_prl (cal : Cal) (k : Nat) : KR := (cutK (Lv.a (Lv.b (A 91))).c (codeE P cal (codeF P cal k) none 91 (cR (cL (cR code91))) (Lv.b (Lv.a (Lv.b (A 91)))) (K91_pr cal k) X0 (doneK P results91)))
noncomputable def K91_pxrlr (cal : Cal) (k : Nat) : XR := (upX 0 (K91_pr cal k) X0)
noncomputable def K91_prlrl (cal : Cal) (k : Nat) (m1 : Nat) : KR := (fun T H n D => codeF P cal m1 (Lv.a (Lv.b (Lv.a (Lv.b (A 91))))) none 91 (cL (cR (cL (cR code91)))) (K91_pr cal k) (K91_pxrlr cal k) (doneK P results91) (cutT (Lv.a (Lv.b (Lv.a (Lv.b (A 91))))).c T) H n D)
noncomputable def K91_prlrll (cal : Cal) (k : Nat) (m1 : Nat) : KR := (cutK (Lv.a (Lv.a (Lv.b (Lv.a (Lv.b (A 91)))))).c (codeE P cal (codeF P cal m1) none 91 (cR (cL (cL (cR (cL (cR code91)))))) (Lv.b (Lv.a (Lv.a (Lv.b (Lv.a (Lv.b (A 91))))))) (K91_prlrl cal k m1) (K91_pxrlr cal k) (doneK P results91)))
noncomputable def K91_prlrllr (cal : Cal) (k : Nat) (m1 : Nat) : KR := (cutK (Lv.b (Lv.a (Lv.a (Lv.b (Lv.a (Lv.b (A 91))))))).c (codeE P cal (codeF P cal m1) none 91 (cR (cR (cL (cL (cR (cL (cR code91))))))) (Lv.b (Lv.b (Lv.a (Lv.a (Lv.b (Lv.a (Lv.b (A 91)))))))) (K91_prlrl cal k m1) (K91_pxrlr cal k) (doneK P results91)))
noncomputable def K91_prlrllrr (cal : Cal) (k : Nat) (m1 : Nat) : KR := (cutK (Lv.b (Lv.b (Lv.a (Lv.a (Lv.b (Lv.a (Lv.b (A 91)))))))).c (codeE P cal (codeF P cal m1) none 91 (cR (cR (cR (cL (cL (cR (cL (cR code91)))))))) (Lv.b (Lv.b (Lv.b (Lv.a (Lv.a (Lv.b (Lv.a (Lv.b (A 91))))))))) (K91_prlrl cal k m1) (K91_pxrlr cal k) (doneK P results91)))
noncomputable def K91_pxrlrllrrl (cal : Cal) (k : Nat) (m1 : Nat) : XR := (upX 1 (K91_prlrllrr cal k m1) (K91_pxrlr cal k))
noncomputable def K91_prlrllrrll (cal : Cal) (k : Nat) (m1 : Nat) : KR := (cutK (Lv.a (Lv.a (Lv.b (Lv.b (Lv.a (Lv.a (Lv.b (Lv.a (Lv.b (A 91)))))))))).c (codeE P cal (codeF P cal m1) none 91 (cR (cL (cL (cR (cR (cL (cL (cR (cL (cR code91)))))))))) (Lv.b (Lv.a (Lv.a (Lv.b (Lv.b (Lv.a (Lv.a (Lv.b (Lv.a (Lv.b (A 91))))))))))) (K91_prlrllrr cal k m1) (K91_pxrlrllrrl cal k m1) (doneK P results91)))
noncomputable def K91_prlrllrrllr (cal : Cal) (k : Nat) (m1 : Nat) : KR := (cutK (Lv.b (Lv.a (Lv.a (Lv.b (Lv.b (Lv.a (Lv.a (Lv.b (Lv.a (Lv.b (A 91))))))))))).c (codeE P cal (codeF P cal m1) none 91 (cR (cR (cL (cL (cR (cR (cL (cL (cR (cL (cR code91))))))))))) (Lv.b (Lv.b (Lv.a (Lv.a (Lv.b (Lv.b (Lv.a (Lv.a (Lv.b (Lv.a (Lv.b (A 91)))))))))))) (K91_prlrllrr cal k m1) (K91_pxrlrllrrl cal k m1) (doneK P results91)))
noncomputable def K91_prlrllrrllrrl (cal : Cal) (k : Nat) (m1 : Nat) : KR := (cutK (Lv.a (Lv.b (Lv.b (Lv.a (Lv.a (Lv.b (Lv.b (Lv.a (Lv.a (Lv.b (Lv.a (Lv.b (A 91))))))))))))).c (codeE P cal (codeF P cal m1) none 91 (cR (cL (cR (cR (cL (cL (cR (cR (cL (cL (cR (cL (cR code91))))))))))))) (Lv.b (Lv.a (Lv.b (Lv.b (Lv.a (Lv.a (Lv.b (Lv.b (Lv.a (Lv.a (Lv.b (Lv.a (Lv.b (A 91)))))))))))))) (K91_prlrllrr cal k m1) (K91_pxrlrllrrl cal k m1) (doneK P results91)))
noncomputable def K91_prr (cal : Cal) (k : Nat) : KR := (cutK (Lv.b (Lv.b (A 91))).c (codeE P cal (codeF P cal k) none 91 (cR (cR (cR code91))) (Lv.b (Lv.b (Lv.b (A 91)))) (doneK P results91) X0 (doneK P results91)))
noncomputable def E91_1 (cal : Cal) (k m1 : Nat) : KR := codeE P cal (codeF P cal m1) none 91 (cL (cL (cR (cL (cR code91))))) (Lv.a (Lv.a (Lv.b (Lv.a (Lv.b (A 91)))))) (K91_prlrl cal k m1) (K91_pxrlr cal k) (doneK P results91)
noncomputable def R91_1 (cal : Cal) (k m1 : Nat) : V4 := fun u1 u7 u8 u9 H n => codeF P cal m1 (Lv.a (Lv.b (Lv.a (Lv.b (A 91))))) none 91 (cL (cR (cL (cR code91)))) (K91_pr cal k) (K91_pxrlr cal k) (doneK P results91) (Tr.set (Tr.set (Tr.set (Tr.set Tr.nil 9 (some u9)) 8 (some u8)) 7 (some u7)) 1 (some u1)) H n []
noncomputable def B91_1 (cal : Cal) (k m1 : Nat) (b1 : V4) (u1 u7 u8 u9 : Value) (H : Hp) (n : Nat) : Res :=
binK P .lss 3 (.tmp 9) (.tmp 8) u9 u8 fun v_5 =>
ifK v_5 (
bindO (indexAddrV P 31 u7 u9) fun v_6 =>
bindO (addrV v_6) fun a_8 => bindO (loadV P H 90 a_8) fun v_7 =>
allocK P 90 H n fun v_9 H_a n_b =>
bindO (storeP P 90 v_9 v_7 H_a) fun H_d =>
bindO (addrV v_9) fun a_g => bindO (loadV P H_d 90 a_g) fun v_f =>
callVK P cal u1 [v_f] H_d n_b fun v_h H_i n_j =>
bindO (pureSem P v_h (Op.unary UnOp.not v_h)) fun v_k =>
ifK v_k (
some ((.bool false), H_i, n_j)) (
binK P .add 3 (.tmp 9) (.const (.int .i64 1)) u9 (.int .i64 1) fun v_m =>
b1 u1 u7 u8 v_m H_i n_j)) (
some ((.bool true), H, n))
noncomputable def C91_1 (cal : Cal) (k m1 : Nat) (b1 : V4) (u1 u7 u8 u9 : Value) (H : Hp) (n : Nat) : Res := B91_1 cal k m1 b1 u1 u7 u8 u9 H n
noncomputable def S91_1 (cal : Cal) (k : Nat) : Nat → V4 := fun m => Nat.rec (motive := fun _ => V4) (C91_1 cal k 0 (fun _ _ _ _ _ _ => none)) (fun m ih => C91_1 cal k (m + 1) ih) m
theorem h91_1 (cal : Cal) (k m1 : Nat) (u1 u7 u8 u9 : Value) (H : Hp) (n : Nat) : labK (E91_1 cal k m1) (Tr.set (Tr.set (Tr.set (Tr.set Tr.nil 9 (some u9)) 8 (some u8)) 7 (some u7)) 1 (some u1)) H n [] = C91_1 cal k m1 (R91_1 cal k m1) u1 u7 u8 u9 H n := by
  refine Eq.trans (b := B91_1 cal k m1 (R91_1 cal k m1) u1 u7 u8 u9 H n) (by kernel_rfl) ?_
  rw [C91_1]
theorem q91_1 (cal : Cal) (k : Nat) : ∀ (m : Nat) (u1 u7 u8 u9 : Value) (H : Hp) (n : Nat), labK (E91_1 cal k m) (Tr.set (Tr.set (Tr.set (Tr.set Tr.nil 9 (some u9)) 8 (some u8)) 7 (some u7)) 1 (some u1)) H n [] = S91_1 cal k m u1 u7 u8 u9 H n
  | 0, u1, u7, u8, u9, H, n => by
    rw [h91_1]
    have e : R91_1 cal k 0 = fun _ _ _ _ _ _ => none := by funext u1 u7 u8 u9 H n; kernel_rfl
    rw [e]; rfl
  | m + 1, u1, u7, u8, u9, H, n => by
    rw [h91_1]
    have e : R91_1 cal k (m + 1) = S91_1 cal k m := by
      funext u1 u7 u8 u9 H n
      have e : R91_1 cal k (m + 1) u1 u7 u8 u9 H n = labK (E91_1 cal k m) (Tr.set (Tr.set (Tr.set (Tr.set Tr.nil 9 (some u9)) 8 (some u8)) 7 (some u7)) 1 (some u1)) H n [] := by kernel_rfl
      rw [e]; exact q91_1 ..
    rw [e]; rfl
noncomputable def B91_0 (cal : Cal) (k : Nat) (j1 : V4) (v0 v1 : Value) (H : Hp) (n : Nat) : Res :=
bindO (lenV P 31 v0) fun v_3 =>
j1 v1 v0 v_3 (.int .i64 0) H n
noncomputable def C91_0 (cal : Cal) (k : Nat) (v0 v1 : Value) (H : Hp) (n : Nat) : Res := B91_0 cal k (S91_1 cal k k) v0 v1 H n
theorem h91_0 (cal : Cal) (k : Nat) (v0 v1 : Value) (H : Hp) (n : Nat) : bodyE P cal A (k + 1) 91 [v0, v1] H n = C91_0 cal k v0 v1 H n := by
  have h : bodyE P cal A (k + 1) 91 [v0, v1] H n = B91_0 cal k (fun u1 u7 u8 u9 H n => labK (E91_1 cal k k) (Tr.set (Tr.set (Tr.set (Tr.set Tr.nil 9 (some u9)) 8 (some u8)) 7 (some u7)) 1 (some u1)) H n []) v0 v1 H n := by
    rw [body_eq (fn := Go.Proofs.Try.f91) (c := code91) (rs := results91) (by kernel_rfl) (by kernel_rfl) (by kernel_rfl) (by kernel_rfl)]
    kernel_rfl
  rw [h, C91_0]
  have e1 : (fun u1 u7 u8 u9 H n => labK (E91_1 cal k k) (Tr.set (Tr.set (Tr.set (Tr.set Tr.nil 9 (some u9)) 8 (some u8)) 7 (some u7)) 1 (some u1)) H n []) = (S91_1 cal k k) := by funext u1 u7 u8 u9 H n; exact q91_1 ..
  rw [e1]
noncomputable def code92 : Code := codeOf 92
noncomputable def results92 : List ResultVar := resOf 92
noncomputable def K92_p (cal : Cal) (k : Nat) : KR := (cutK (A 92).c (codeE P cal (codeF P cal k) none 92 (cR code92) (Lv.b (A 92)) (doneK P results92) X0 (doneK P results92)))
noncomputable def K92_pr (cal : Cal) (k : Nat) : KR := (cutK (Lv.b (A 92)).c (codeE P cal (codeF P cal k) none 92 (cR (cR code92)) (Lv.b (Lv.b (A 92))) (doneK P results92) X0 (doneK P results92)))
noncomputable def B92_0 (cal : Cal) (k : Nat) (v0 : Value) (H : Hp) (n : Nat) : Res :=
boxK 90 v0 H n fun v_1 H_2 n_3 =>
bindO (fieldAddrV P 90 v_1 0) fun v_5 =>
bindO (addrV v_5) fun a_7 => bindO (loadV P H_2 3 a_7) fun v_6 =>
binK P .geq 3 (.tmp 4) (.const (.int .i64 0)) v_6 (.int .i64 0) fun v_8 =>
guardK v_8 true (fun k_a =>
bindO (fieldAddrV P 90 v_1 0) fun v_e =>
k_a v_e H_2 n_3) H_2 n_3 fun v_b H_c n_d =>
guardK v_8 true (fun k_f =>
bindO (addrV v_b) fun a_k => bindO (loadV P H_c 3 a_k) fun v_j =>
k_f v_j H_c n_d) H_c n_d fun v_g H_h n_i =>
guardK v_8 true (fun k_l =>
bindO (fieldAddrV P 90 v_1 1) fun v_p =>
k_l v_p H_h n_i) H_h n_i fun v_m H_n n_o =>
guardK v_8 true (fun k_q =>
bindO (addrV v_m) fun a_v => bindO (loadV P H_n 3 a_v) fun v_u =>
k_q v_u H_n n_o) H_n n_o fun v_r H_s n_t =>
guardK v_8 true (fun k_w =>
binK P .leq 3 (.tmp 8) (.tmp 10) v_g v_r fun v_10 =>
k_w v_10 H_s n_t) H_s n_t fun v_x H_y n_z =>
bindO (pickV v_8 v_x (.bool false)) fun v_11 =>
guardK v_11 true (fun k_13 =>
bindO (fieldAddrV P 90 v_1 1) fun v_17 =>
k_13 v_17 H_y n_z) H_y n_z fun v_14 H_15 n_16 =>
guardK v_11 true (fun k_18 =>
bindO (addrV v_14) fun a_1d => bindO (loadV P H_15 3 a_1d) fun v_1c =>
k_18 v_1c H_15 n_16) H_15 n_16 fun v_19 H_1a n_1b =>
guardK v_11 true (fun k_1e =>
binK P .leq 3 (.tmp 15) (.const (.int .i64 1000)) v_19 (.int .i64 1000) fun v_1i =>
k_1e v_1i H_1a n_1b) H_1a n_1b fun v_1f H_1g n_1h =>
bindO (pickV v_11 v_1f (.bool false)) fun v_1j =>
some (v_1j, H_1g, n_1h)
noncomputable def C92_0 (cal : Cal) (k : Nat) (v0 : Value) (H : Hp) (n : Nat) : Res := B92_0 cal k v0 H n
theorem h92_0 (cal : Cal) (k : Nat) (v0 : Value) (H : Hp) (n : Nat) : bodyE P cal A (k + 1) 92 [v0] H n = C92_0 cal k v0 H n := by
  have h : bodyE P cal A (k + 1) 92 [v0] H n = B92_0 cal k v0 H n := by
    rw [body_eq (fn := Go.Proofs.Try.f92) (c := code92) (rs := results92) (by kernel_rfl) (by kernel_rfl) (by kernel_rfl) (by kernel_rfl)]
    kernel_rfl
  rw [h, C92_0]
noncomputable def code93 : Code := codeOf 93
noncomputable def results93 : List ResultVar := resOf 93
noncomputable def K93_p (cal : Cal) (k : Nat) : KR := (cutK (A 93).c (codeE P cal (codeF P cal k) none 93 (cR code93) (Lv.b (A 93)) (doneK P results93) X0 (doneK P results93)))
noncomputable def K93_pr (cal : Cal) (k : Nat) : KR := (cutK (Lv.b (A 93)).c (codeE P cal (codeF P cal k) none 93 (cR (cR code93)) (Lv.b (Lv.b (A 93))) (doneK P results93) X0 (doneK P results93)))
noncomputable def K93_prl (cal : Cal) (k : Nat) : KR := (cutK (Lv.a (Lv.b (A 93))).c (codeE P cal (codeF P cal k) none 93 (cR (cL (cR code93))) (Lv.b (Lv.a (Lv.b (A 93)))) (K93_pr cal k) X0 (doneK P results93)))
noncomputable def K93_pxrlr (cal : Cal) (k : Nat) : XR := (upX 0 (K93_pr cal k) X0)
noncomputable def K93_prlrl (cal : Cal) (k : Nat) (m1 : Nat) : KR := (fun T H n D => codeF P cal m1 (Lv.a (Lv.b (Lv.a (Lv.b (A 93))))) none 93 (cL (cR (cL (cR code93)))) (K93_pr cal k) (K93_pxrlr cal k) (doneK P results93) (cutT (Lv.a (Lv.b (Lv.a (Lv.b (A 93))))).c T) H n D)
noncomputable def K93_prlrll (cal : Cal) (k : Nat) (m1 : Nat) : KR := (cutK (Lv.a (Lv.a (Lv.b (Lv.a (Lv.b (A 93)))))).c (codeE P cal (codeF P cal m1) none 93 (cR (cL (cL (cR (cL (cR code93)))))) (Lv.b (Lv.a (Lv.a (Lv.b (Lv.a (Lv.b (A 93))))))) (K93_prlrl cal k m1) (K93_pxrlr cal k) (doneK P results93)))
noncomputable def K93_prlrllr (cal : Cal) (k : Nat) (m1 : Nat) : KR := (cutK (Lv.b (Lv.a (Lv.a (Lv.b (Lv.a (Lv.b (A 93))))))).c (codeE P cal (codeF P cal m1) none 93 (cR (cR (cL (cL (cR (cL (cR code93))))))) (Lv.b (Lv.b (Lv.a (Lv.a (Lv.b (Lv.a (Lv.b (A 93)))))))) (K93_prlrl cal k m1) (K93_pxrlr cal k) (doneK P results93)))
noncomputable def K93_prlrllrr (cal : Cal) (k : Nat) (m1 : Nat) : KR := (cutK (Lv.b (Lv.b (Lv.a (Lv.a (Lv.b (Lv.a (Lv.b (A 93)))))))).c (codeE P cal (codeF P cal m1) none 93 (cR (cR (cR (cL (cL (cR (cL (cR code93)))))))) (Lv.b (Lv.b (Lv.b (Lv.a (Lv.a (Lv.b (Lv.a (Lv.b (A 93))))))))) (K93_prlrl cal k m1) (K93_pxrlr cal k) (doneK P results93)))
noncomputable def K93_pxrlrllrrl (cal : Cal) (k : Nat) (m1 : Nat) : XR := (upX 1 (K93_prlrllrr cal k m1) (K93_pxrlr cal k))
noncomputable def K93_prlrllrrll (cal : Cal) (k : Nat) (m1 : Nat) : KR := (cutK (Lv.a (Lv.a (Lv.b (Lv.b (Lv.a (Lv.a (Lv.b (Lv.a (Lv.b (A 93)))))))))).c (codeE P cal (codeF P cal m1) none 93 (cR (cL (cL (cR (cR (cL (cL (cR (cL (cR code93)))))))))) (Lv.b (Lv.a (Lv.a (Lv.b (Lv.b (Lv.a (Lv.a (Lv.b (Lv.a (Lv.b (A 93))))))))))) (K93_prlrllrr cal k m1) (K93_pxrlrllrrl cal k m1) (doneK P results93)))
noncomputable def K93_prlrllrrllr (cal : Cal) (k : Nat) (m1 : Nat) : KR := (cutK (Lv.b (Lv.a (Lv.a (Lv.b (Lv.b (Lv.a (Lv.a (Lv.b (Lv.a (Lv.b (A 93))))))))))).c (codeE P cal (codeF P cal m1) none 93 (cR (cR (cL (cL (cR (cR (cL (cL (cR (cL (cR code93))))))))))) (Lv.b (Lv.b (Lv.a (Lv.a (Lv.b (Lv.b (Lv.a (Lv.a (Lv.b (Lv.a (Lv.b (A 93)))))))))))) (K93_prlrllrr cal k m1) (K93_pxrlrllrrl cal k m1) (doneK P results93)))
noncomputable def K93_prlrllrrllrrl (cal : Cal) (k : Nat) (m1 : Nat) : KR := (cutK (Lv.a (Lv.b (Lv.b (Lv.a (Lv.a (Lv.b (Lv.b (Lv.a (Lv.a (Lv.b (Lv.a (Lv.b (A 93))))))))))))).c (codeE P cal (codeF P cal m1) none 93 (cR (cL (cR (cR (cL (cL (cR (cR (cL (cL (cR (cL (cR code93))))))))))))) (Lv.b (Lv.a (Lv.b (Lv.b (Lv.a (Lv.a (Lv.b (Lv.b (Lv.a (Lv.a (Lv.b (Lv.a (Lv.b (A 93)))))))))))))) (K93_prlrllrr cal k m1) (K93_pxrlrllrrl cal k m1) (doneK P results93)))
noncomputable def K93_prr (cal : Cal) (k : Nat) : KR := (cutK (Lv.b (Lv.b (A 93))).c (codeE P cal (codeF P cal k) none 93 (cR (cR (cR code93))) (Lv.b (Lv.b (Lv.b (A 93)))) (doneK P results93) X0 (doneK P results93)))
noncomputable def E93_1 (cal : Cal) (k m1 : Nat) : KR := codeE P cal (codeF P cal m1) none 93 (cL (cL (cR (cL (cR code93))))) (Lv.a (Lv.a (Lv.b (Lv.a (Lv.b (A 93)))))) (K93_prlrl cal k m1) (K93_pxrlr cal k) (doneK P results93)
noncomputable def R93_1 (cal : Cal) (k m1 : Nat) : V4 := fun u1 u7 u8 u9 H n => codeF P cal m1 (Lv.a (Lv.b (Lv.a (Lv.b (A 93))))) none 93 (cL (cR (cL (cR code93)))) (K93_pr cal k) (K93_pxrlr cal k) (doneK P results93) (Tr.set (Tr.set (Tr.set (Tr.set Tr.nil 9 (some u9)) 8 (some u8)) 7 (some u7)) 1 (some u1)) H n []
noncomputable def B93_1 (cal : Cal) (k m1 : Nat) (b1 : V4) (u1 u7 u8 u9 : Value) (H : Hp) (n : Nat) : Res :=
binK P .lss 3 (.tmp 9) (.tmp 8) u9 u8 fun v_5 =>
ifK v_5 (
bindO (indexAddrV P 32 u7 u9) fun v_6 =>
bindO (addrV v_6) fun a_8 => bindO (loadV P H 88 a_8) fun v_7 =>
allocK P 88 H n fun v_9 H_a n_b =>
bindO (storeP P 88 v_9 v_7 H_a) fun H_d =>
bindO (addrV v_9) fun a_g => bindO (loadV P H_d 88 a_g) fun v_f =>
callVK P cal u1 [v_f] H_d n_b fun v_h H_i n_j =>
bindO (pureSem P v_h (Op.unary UnOp.not v_h)) fun v_k =>
ifK v_k (
some ((.bool false), H_i, n_j)) (
binK P .add 3 (.tmp 9) (.const (.int .i64 1)) u9 (.int .i64 1) fun v_m =>
b1 u1 u7 u8 v_m H_i n_j)) (
some ((.bool true), H, n))
noncomputable def C93_1 (cal : Cal) (k m1 : Nat) (b1 : V4) (u1 u7 u8 u9 : Value) (H : Hp) (n : Nat) : Res := B93_1 cal k m1 b1 u1 u7 u8 u9 H n
noncomputable def S93_1 (cal : Cal) (k : Nat) : Nat → V4 := fun m => Nat.rec (motive := fun _ => V4) (C93_1 cal k 0 (fun _ _ _ _ _ _ => none)) (fun m ih => C93_1 cal k (m + 1) ih) m
theorem h93_1 (cal : Cal) (k m1 : Nat) (u1 u7 u8 u9 : Value) (H : Hp) (n : Nat) : labK (E93_1 cal k m1) (Tr.set (Tr.set (Tr.set (Tr.set Tr.nil 9 (some u9)) 8 (some u8)) 7 (some u7)) 1 (some u1)) H n [] = C93_1 cal k m1 (R93_1 cal k m1) u1 u7 u8 u9 H n := by
  refine Eq.trans (b := B93_1 cal k m1 (R93_1 cal k m1) u1 u7 u8 u9 H n) (by kernel_rfl) ?_
  rw [C93_1]
theorem q93_1 (cal : Cal) (k : Nat) : ∀ (m : Nat) (u1 u7 u8 u9 : Value) (H : Hp) (n : Nat), labK (E93_1 cal k m) (Tr.set (Tr.set (Tr.set (Tr.set Tr.nil 9 (some u9)) 8 (some u8)) 7 (some u7)) 1 (some u1)) H n [] = S93_1 cal k m u1 u7 u8 u9 H n
  | 0, u1, u7, u8, u9, H, n => by
    rw [h93_1]
    have e : R93_1 cal k 0 = fun _ _ _ _ _ _ => none := by funext u1 u7 u8 u9 H n; kernel_rfl
    rw [e]; rfl
  | m + 1, u1, u7, u8, u9, H, n => by
    rw [h93_1]
    have e : R93_1 cal k (m + 1) = S93_1 cal k m := by
      funext u1 u7 u8 u9 H n
      have e : R93_1 cal k (m + 1) u1 u7 u8 u9 H n = labK (E93_1 cal k m) (Tr.set (Tr.set (Tr.set (Tr.set Tr.nil 9 (some u9)) 8 (some u8)) 7 (some u7)) 1 (some u1)) H n [] := by kernel_rfl
      rw [e]; exact q93_1 ..
    rw [e]; rfl
noncomputable def B93_0 (cal : Cal) (k : Nat) (j1 : V4) (v0 v1 : Value) (H : Hp) (n : Nat) : Res :=
bindO (lenV P 32 v0) fun v_3 =>
j1 v1 v0 v_3 (.int .i64 0) H n
noncomputable def C93_0 (cal : Cal) (k : Nat) (v0 v1 : Value) (H : Hp) (n : Nat) : Res := B93_0 cal k (S93_1 cal k k) v0 v1 H n
theorem h93_0 (cal : Cal) (k : Nat) (v0 v1 : Value) (H : Hp) (n : Nat) : bodyE P cal A (k + 1) 93 [v0, v1] H n = C93_0 cal k v0 v1 H n := by
  have h : bodyE P cal A (k + 1) 93 [v0, v1] H n = B93_0 cal k (fun u1 u7 u8 u9 H n => labK (E93_1 cal k k) (Tr.set (Tr.set (Tr.set (Tr.set Tr.nil 9 (some u9)) 8 (some u8)) 7 (some u7)) 1 (some u1)) H n []) v0 v1 H n := by
    rw [body_eq (fn := Go.Proofs.Try.f93) (c := code93) (rs := results93) (by kernel_rfl) (by kernel_rfl) (by kernel_rfl) (by kernel_rfl)]
    kernel_rfl
  rw [h, C93_0]
  have e1 : (fun u1 u7 u8 u9 H n => labK (E93_1 cal k k) (Tr.set (Tr.set (Tr.set (Tr.set Tr.nil 9 (some u9)) 8 (some u8)) 7 (some u7)) 1 (some u1)) H n []) = (S93_1 cal k k) := by funext u1 u7 u8 u9 H n; exact q93_1 ..
  rw [e1]
end Go.Proofs.Ytgojjellogiglaa.G
