/- The texts of functions, each with the proof that the evaluator says the same. -/
import Derived.Test.YtgojjellogiglaaH1
open Go Go.Ev
set_option maxRecDepth 1000000
set_option linter.unusedVariables false
noncomputable section
namespace Go.Proofs.Ytgojjellogiglaa.G
noncomputable def code25 : Code := codeOf 25
noncomputable def results25 : List ResultVar := resOf 25
noncomputable def K25_p (cal : Cal) (k : Nat) : KR := (cutK (A 25).c (codeE P cal (codeF P cal k) none 25 (cR code25) (Lv.b (A 25)) (doneK P results25) X0 (doneK P results25)))
noncomputable def K25_pr (cal : Cal) (k : Nat) : KR := (cutK (Lv.b (A 25)).c (codeE P cal (codeF P cal k) none 25 (cR (cR code25)) (Lv.b (Lv.b (A 25))) (doneK P results25) X0 (doneK P results25)))
noncomputable def K25_prl (cal : Cal) (k : Nat) : KR := (cutK (Lv.a (Lv.b (A 25))).c (codeE P cal (codeF P cal k) none 25 (cR (cL (cR code25))) (Lv.b (Lv.a (Lv.b (A 25)))) (K25_pr cal k) X0 (doneK P results25)))
noncomputable def K25_prlr (cal : Cal) (k : Nat) : KR := (cutK (Lv.b (Lv.a (Lv.b (A 25)))).c (codeE P cal (codeF P cal k) none 25 (cR (cR (cL (cR code25)))) (Lv.b (Lv.b (Lv.a (Lv.b (A 25))))) (K25_pr cal k) X0 (doneK P results25)))
noncomputable def K25_prlrrl (cal : Cal) (k : Nat) : KR := (cutK (Lv.a (Lv.b (Lv.b (Lv.a (Lv.b (A 25)))))).c (codeE P cal (codeF P cal k) none 25 (cR (cL (cR (cR (cL (cR code25)))))) (Lv.b (Lv.a (Lv.b (Lv.b (Lv.a (Lv.b (A 25))))))) (K25_pr cal k) X0 (doneK P results25)))
noncomputable def K25_prr (cal : Cal) (k : Nat) : KR := (cutK (Lv.b (Lv.b (A 25))).c (codeE P cal (codeF P cal k) none 25 (cR (cR (cR code25))) (Lv.b (Lv.b (Lv.b (A 25)))) (doneK P results25) X0 (doneK P results25)))
noncomputable def K25_prrl (cal : Cal) (k : Nat) : KR := (cutK (Lv.a (Lv.b (Lv.b (A 25)))).c (codeE P cal (codeF P cal k) none 25 (cR (cL (cR (cR code25)))) (Lv.b (Lv.a (Lv.b (Lv.b (A 25))))) (K25_prr cal k) X0 (doneK P results25)))
noncomputable def K25_prrlrl (cal : Cal) (k : Nat) : KR := (cutK (Lv.a (Lv.b (Lv.a (Lv.b (Lv.b (A 25)))))).c (codeE P cal (codeF P cal k) none 25 (cR (cL (cR (cL (cR (cR code25)))))) (Lv.b (Lv.a (Lv.b (Lv.a (Lv.b (Lv.b (A 25))))))) (K25_prr cal k) X0 (doneK P results25)))
noncomputable def K25_prrr (cal : Cal) (k : Nat) : KR := (cutK (Lv.b (Lv.b (Lv.b (A 25)))).c (codeE P cal (codeF P cal k) none 25 (cR (cR (cR (cR code25)))) (Lv.b (Lv.b (Lv.b (Lv.b (A 25))))) (doneK P results25) X0 (doneK P results25)))
noncomputable def B25_0 (cal : Cal) (k : Nat) (v0 v1 : Value) (H : Hp) (n : Nat) : Res :=
boxK 26 v0 H n fun v_1 H_2 n_3 =>
bindO (addrV v_1) fun a_6 => bindO (loadV P H_2 26 a_6) fun v_5 =>
callFK P cal 20 [v_5] H_2 n_3 fun v_7 H_8 n_9 =>
binK P .neq 29 (.tmp 8) (.const (.int .i64 0)) v_7 (.int .i64 0) fun v_c =>
ifK v_c (
some (v_7, H_8, n_9)) (
bindO (addrV v_1) fun a_g => bindO (loadV P H_8 26 a_g) fun v_f =>
callFK P cal 58 [v_f, v1] H_8 n_9 fun v_i H_j n_k =>
bindO (pureSem P v_i (Op.unary UnOp.not v_i)) fun v_l =>
ifK v_l (
some ((.int .i64 2), H_j, n_k)) (
some ((.int .i64 0), H_j, n_k)))
noncomputable def C25_0 (cal : Cal) (k : Nat) (v0 v1 : Value) (H : Hp) (n : Nat) : Res := B25_0 cal k v0 v1 H n
theorem h25_0 (cal : Cal) (k : Nat) (v0 v1 : Value) (H : Hp) (n : Nat) : bodyE P cal A (k + 1) 25 [v0, v1] H n = C25_0 cal k v0 v1 H n := by
  have h : bodyE P cal A (k + 1) 25 [v0, v1] H n = B25_0 cal k v0 v1 H n := by
    rw [body_eq (fn := Go.Proofs.Try.f25) (c := code25) (rs := results25) (by kernel_rfl) (by kernel_rfl) (by kernel_rfl) (by kernel_rfl)]
    kernel_rfl
  rw [h, C25_0]
noncomputable def code26 : Code := codeOf 26
noncomputable def results26 : List ResultVar := resOf 26
noncomputable def K26_p (cal : Cal) (k : Nat) : KR := (cutK (A 26).c (codeE P cal (codeF P cal k) none 26 (cR code26) (Lv.b (A 26)) (doneK P results26) X0 (doneK P results26)))
noncomputable def K26_pr (cal : Cal) (k : Nat) : KR := (cutK (Lv.b (A 26)).c (codeE P cal (codeF P cal k) none 26 (cR (cR code26)) (Lv.b (Lv.b (A 26))) (doneK P results26) X0 (doneK P results26)))
noncomputable def B26_0 (cal : Cal) (k : Nat) (v0 : Value) (H : Hp) (n : Nat) : Res :=
boxK 55 v0 H n fun v_1 H_2 n_3 =>
allocK P 53 H_2 n_3 fun v_4 H_5 n_6 =>
bindO (fieldAddrV P 55 v_1 0) fun v_7 =>
bindO (addrV v_7) fun a_9 => bindO (loadV P H_5 3 a_9) fun v_8 =>
bindO (fieldAddrV P 55 v_1 1) fun v_a =>
bindO (addrV v_a) fun a_c => bindO (loadV P H_5 3 a_c) fun v_b =>
bindO (buildP P 53 [(0, v_8), (1, v_b)]) fun v_d =>
bindO (storeP P 53 v_4 v_d H_5) fun H_f =>
bindO (resV P (Tr.set Tr.nil 2 (some v_4)) H_f results26) fun v_g => some (oneV v_g, H_f, n_6)
noncomputable def C26_0 (cal : Cal) (k : Nat) (v0 : Value) (H : Hp) (n : Nat) : Res := B26_0 cal k v0 H n
theorem h26_0 (cal : Cal) (k : Nat) (v0 : Value) (H : Hp) (n : Nat) : bodyE P cal A (k + 1) 26 [v0] H n = C26_0 cal k v0 H n := by
  have h : bodyE P cal A (k + 1) 26 [v0] H n = B26_0 cal k v0 H n := by
    rw [body_eq (fn := Go.Proofs.Try.f26) (c := code26) (rs := results26) (by kernel_rfl) (by kernel_rfl) (by kernel_rfl) (by kernel_rfl)]
    kernel_rfl
  rw [h, C26_0]
noncomputable def code30 : Code := codeOf 30
noncomputable def results30 : List ResultVar := resOf 30
noncomputable def K30_p (cal : Cal) (k : Nat) : KR := (cutK (A 30).c (codeE P cal (codeF P cal k) none 30 (cR code30) (Lv.b (A 30)) (doneK P results30) X0 (doneK P results30)))
noncomputable def K30_pr (cal : Cal) (k : Nat) : KR := (cutK (Lv.b (A 30)).c (codeE P cal (codeF P cal k) none 30 (cR (cR code30)) (Lv.b (Lv.b (A 30))) (doneK P results30) X0 (doneK P results30)))
noncomputable def K30_prl (cal : Cal) (k : Nat) : KR := (cutK (Lv.a (Lv.b (A 30))).c (codeE P cal (codeF P cal k) none 30 (cR (cL (cR code30))) (Lv.b (Lv.a (Lv.b (A 30)))) (K30_pr cal k) X0 (doneK P results30)))
noncomputable def K30_prlrl (cal : Cal) (k : Nat) : KR := (cutK (Lv.a (Lv.b (Lv.a (Lv.b (A 30))))).c (codeE P cal (codeF P cal k) none 30 (cR (cL (cR (cL (cR code30))))) (Lv.b (Lv.a (Lv.b (Lv.a (Lv.b (A 30)))))) (K30_pr cal k) X0 (doneK P results30)))
noncomputable def K30_prr (cal : Cal) (k : Nat) : KR := (cutK (Lv.b (Lv.b (A 30))).c (codeE P cal (codeF P cal k) none 30 (cR (cR (cR code30))) (Lv.b (Lv.b (Lv.b (A 30)))) (doneK P results30) X0 (doneK P results30)))
noncomputable def K30_prrl (cal : Cal) (k : Nat) : KR := (cutK (Lv.a (Lv.b (Lv.b (A 30)))).c (codeE P cal (codeF P cal k) none 30 (cR (cL (cR (cR code30)))) (Lv.b (Lv.a (Lv.b (Lv.b (A 30))))) (K30_prr cal k) X0 (doneK P results30)))
noncomputable def K30_pxrrlr (cal : Cal) (k : Nat) : XR := (upX 0 (K30_prr cal k) X0)
noncomputable def K30_prrlrl (cal : Cal) (k : Nat) (m1 : Nat) : KR := (fun T H n D => codeF P cal m1 (Lv.a (Lv.b (Lv.a (Lv.b (Lv.b (A 30)))))) none 30 (cL (cR (cL (cR (cR code30))))) (K30_prr cal k) (K30_pxrrlr cal k) (doneK P results30) (cutT (Lv.a (Lv.b (Lv.a (Lv.b (Lv.b (A 30)))))).c T) H n D)
noncomputable def K30_prrlrll (cal : Cal) (k : Nat) (m1 : Nat) : KR := (cutK (Lv.a (Lv.a (Lv.b (Lv.a (Lv.b (Lv.b (A 30))))))).c (codeE P cal (codeF P cal m1) none 30 (cR (cL (cL (cR (cL (cR (cR code30))))))) (Lv.b (Lv.a (Lv.a (Lv.b (Lv.a (Lv.b (Lv.b (A 30)))))))) (K30_prrlrl cal k m1) (K30_pxrrlr cal k) (doneK P results30)))
noncomputable def K30_prrlrlll (cal : Cal) (k : Nat) (m1 : Nat) : KR := (cutK (Lv.a (Lv.a (Lv.a (Lv.b (Lv.a (Lv.b (Lv.b (A 30)))))))).c (codeE P cal (codeF P cal m1) none 30 (cR (cL (cL (cL (cR (cL (cR (cR code30)))))))) (Lv.b (Lv.a (Lv.a (Lv.a (Lv.b (Lv.a (Lv.b (Lv.b (A 30))))))))) (K30_prrlrll cal k m1) (K30_pxrrlr cal k) (doneK P results30)))
noncomputable def K30_prrlrllr (cal : Cal) (k : Nat) (m1 : Nat) : KR := (cutK (Lv.b (Lv.a (Lv.a (Lv.b (Lv.a (Lv.b (Lv.b (A 30)))))))).c (codeE P cal (codeF P cal m1) none 30 (cR (cR (cL (cL (cR (cL (cR (cR code30)))))))) (Lv.b (Lv.b (Lv.a (Lv.a (Lv.b (Lv.a (Lv.b (Lv.b (A 30))))))))) (K30_prrlrl cal k m1) (K30_pxrrlr cal k) (doneK P results30)))
noncomputable def K30_pxrrlrllrl (cal : Cal) (k : Nat) (m1 : Nat) : XR := (upX 1 (K30_prrlrllr cal k m1) (K30_pxrrlr cal k))
noncomputable def K30_prrlrllrll (cal : Cal) (k : Nat) (m1 : Nat) : KR := (cutK (Lv.a (Lv.a (Lv.b (Lv.a (Lv.a (Lv.b (Lv.a (Lv.b (Lv.b (A 30)))))))))).c (codeE P cal (codeF P cal m1) none 30 (cR (cL (cL (cR (cL (cL (cR (cL (cR (cR code30)))))))))) (Lv.b (Lv.a (Lv.a (Lv.b (Lv.a (Lv.a (Lv.b (Lv.a (Lv.b (Lv.b (A 30))))))))))) (K30_prrlrllr cal k m1) (K30_pxrrlrllrl cal k m1) (doneK P results30)))
noncomputable def K30_prrlrllrllrl (cal : Cal) (k : Nat) (m1 : Nat) : KR := (cutK (Lv.a (Lv.b (Lv.a (Lv.a (Lv.b (Lv.a (Lv.a (Lv.b (Lv.a (Lv.b (Lv.b (A 30)))))))))))).c (codeE P cal (codeF P cal m1) none 30 (cR (cL (cR (cL (cL (cR (cL (cL (cR (cL (cR (cR code30)))))))))))) (Lv.b (Lv.a (Lv.b (Lv.a (Lv.a (Lv.b (Lv.a (Lv.a (Lv.b (Lv.a (Lv.b (Lv.b (A 30))))))))))))) (K30_prrlrllr cal k m1) (K30_pxrrlrllrl cal k m1) (doneK P results30)))
noncomputable def K30_prrr (cal : Cal) (k : Nat) : KR := (cutK (Lv.b (Lv.b (Lv.b (A 30)))).c (codeE P cal (codeF P cal k) none 30 (cR (cR (cR (cR code30)))) (Lv.b (Lv.b (Lv.b (Lv.b (A 30))))) (doneK P results30) X0 (doneK P results30)))
noncomputable def E30_1 (cal : Cal) (k m1 : Nat) : KR := codeE P cal (codeF P cal m1) none 30 (cL (cL (cR (cL (cR (cR code30)))))) (Lv.a (Lv.a (Lv.b (Lv.a (Lv.b (Lv.b (A 30))))))) (K30_prrlrl cal k m1) (K30_pxrrlr cal k) (doneK P results30)
noncomputable def R30_1 (cal : Cal) (k m1 : Nat) : V3 := fun u0 u1 u5 H n => codeF P cal m1 (Lv.a (Lv.b (Lv.a (Lv.b (Lv.b (A 30)))))) none 30 (cL (cR (cL (cR (cR code30))))) (K30_prr cal k) (K30_pxrrlr cal k) (doneK P results30) (Tr.set (Tr.set (Tr.set Tr.nil 5 (some u5)) 1 (some u1)) 0 (some u0)) H n []
noncomputable def B30_1 (cal : Cal) (k m1 : Nat) (b1 : V3) (u0 u1 u5 : Value) (H : Hp) (n : Nat) : Res :=
bindO (lenV P 44 u0) fun v_b =>
binK P .lss 3 (.tmp 11) (.tmp 13) u5 v_b fun v_c =>
ifK v_c (
bindO (indexAddrV P 44 u0 u5) fun v_f =>
bindO (addrV v_f) fun a_g => bindO (loadV P H 3 a_g) fun v_h =>
bindO (indexAddrV P 44 u1 u5) fun v_k =>
bindO (addrV v_k) fun a_l => bindO (loadV P H 3 a_l) fun v_m =>
binK P .neq 3 (.tmp 20) (.tmp 24) v_h v_m fun v_n =>
ifK v_n (
some ((.bool false), H, n)) (
binK P .add 3 (.tmp 15) (.const (.int .i64 1)) u5 (.int .i64 1) fun v_q =>
b1 u0 u1 v_q H n)) (
some ((.bool true), H, n))
noncomputable def C30_1 (cal : Cal) (k m1 : Nat) (b1 : V3) (u0 u1 u5 : Value) (H : Hp) (n : Nat) : Res := B30_1 cal k m1 b1 u0 u1 u5 H n
noncomputable def S30_1 (cal : Cal) (k : Nat) : Nat → V3 := fun m => Nat.rec (motive := fun _ => V3) (C30_1 cal k 0 (fun _ _ _ _ _ => none)) (fun m ih => C30_1 cal k (m + 1) ih) m
theorem h30_1 (cal : Cal) (k m1 : Nat) (u0 u1 u5 : Value) (H : Hp) (n : Nat) : labK (E30_1 cal k m1) (Tr.set (Tr.set (Tr.set Tr.nil 5 (some u5)) 1 (some u1)) 0 (some u0)) H n [] = C30_1 cal k m1 (R30_1 cal k m1) u0 u1 u5 H n := by
  refine Eq.trans (b := B30_1 cal k m1 (R30_1 cal k m1) u0 u1 u5 H n) (by kernel_rfl) ?_
  rw [C30_1]
theorem q30_1 (cal : Cal) (k : Nat) : ∀ (m : Nat) (u0 u1 u5 : Value) (H : Hp) (n : Nat), labK (E30_1 cal k m) (Tr.set (Tr.set (Tr.set Tr.nil 5 (some u5)) 1 (some u1)) 0 (some u0)) H n [] = S30_1 cal k m u0 u1 u5 H n
  | 0, u0, u1, u5, H, n => by
    rw [h30_1]
    have e : R30_1 cal k 0 = fun _ _ _ _ _ => none := by funext u0 u1 u5 H n; kernel_rfl
    rw [e]; rfl
  | m + 1, u0, u1, u5, H, n => by
    rw [h30_1]
    have e : R30_1 cal k (m + 1) = S30_1 cal k m := by
      funext u0 u1 u5 H n
      have e : R30_1 cal k (m + 1) u0 u1 u5 H n = labK (E30_1 cal k m) (Tr.set (Tr.set (Tr.set Tr.nil 5 (some u5)) 1 (some u1)) 0 (some u0)) H n [] := by kernel_rfl
      rw [e]; exact q30_1 ..
    rw [e]; rfl
noncomputable def B30_0 (cal : Cal) (k : Nat) (j1 : V3) (v0 v1 : Value) (H : Hp) (n : Nat) : Res :=
bindO (lenV P 44 v0) fun v_3 =>
bindO (lenV P 44 v1) fun v_5 =>
binK P .neq 3 (.tmp 7) (.tmp 9) v_3 v_5 fun v_6 =>
ifK v_6 (
some ((.bool false), H, n)) (
j1 v0 v1 (.int .i64 0) H n)
noncomputable def C30_0 (cal : Cal) (k : Nat) (v0 v1 : Value) (H : Hp) (n : Nat) : Res := B30_0 cal k (S30_1 cal k k) v0 v1 H n
theorem h30_0 (cal : Cal) (k : Nat) (v0 v1 : Value) (H : Hp) (n : Nat) : bodyE P cal A (k + 1) 30 [v0, v1] H n = C30_0 cal k v0 v1 H n := by
  have h : bodyE P cal A (k + 1) 30 [v0, v1] H n = B30_0 cal k (fun u0 u1 u5 H n => labK (E30_1 cal k k) (Tr.set (Tr.set (Tr.set Tr.nil 5 (some u5)) 1 (some u1)) 0 (some u0)) H n []) v0 v1 H n := by
    rw [body_eq (fn := Go.Proofs.Try.f30) (c := code30) (rs := results30) (by kernel_rfl) (by kernel_rfl) (by kernel_rfl) (by kernel_rfl)]
    kernel_rfl
  rw [h, C30_0]
  have e1 : (fun u0 u1 u5 H n => labK (E30_1 cal k k) (Tr.set (Tr.set (Tr.set Tr.nil 5 (some u5)) 1 (some u1)) 0 (some u0)) H n []) = (S30_1 cal k k) := by funext u0 u1 u5 H n; exact q30_1 ..
  rw [e1]
noncomputable def code32 : Code := codeOf 32
noncomputable def results32 : List ResultVar := resOf 32
noncomputable def K32_p (cal : Cal) (k : Nat) : KR := (cutK (A 32).c (codeE P cal (codeF P cal k) none 32 (cR code32) (Lv.b (A 32)) (doneK P results32) X0 (doneK P results32)))
noncomputable def K32_pr (cal : Cal) (k : Nat) : KR := (cutK (Lv.b (A 32)).c (codeE P cal (codeF P cal k) none 32 (cR (cR code32)) (Lv.b (Lv.b (A 32))) (doneK P results32) X0 (doneK P results32)))
noncomputable def B32_0 (cal : Cal) (k : Nat) (v0 v1 v2 : Value) (H : Hp) (n : Nat) : Res :=
binK P .geq 3 (.tmp 7) (.tmp 8) v0 v1 fun v_4 =>
guardK v_4 true (fun k_6 =>
k_6 v0 H n) H n fun v_7 H_8 n_9 =>
guardK v_4 true (fun k_b =>
k_b v2 H_8 n_9) H_8 n_9 fun v_c H_d n_e =>
guardK v_4 true (fun k_g =>
binK P .leq 3 (.tmp 11) (.tmp 12) v_7 v_c fun v_k =>
k_g v_k H_d n_e) H_d n_e fun v_h H_i n_j =>
bindO (pickV v_4 v_h (.bool false)) fun v_l =>
some (v_l, H_i, n_j)
noncomputable def C32_0 (cal : Cal) (k : Nat) (v0 v1 v2 : Value) (H : Hp) (n : Nat) : Res := B32_0 cal k v0 v1 v2 H n
theorem h32_0 (cal : Cal) (k : Nat) (v0 v1 v2 : Value) (H : Hp) (n : Nat) : bodyE P cal A (k + 1) 32 [v0, v1, v2] H n = C32_0 cal k v0 v1 v2 H n := by
  have h : bodyE P cal A (k + 1) 32 [v0, v1, v2] H n = B32_0 cal k v0 v1 v2 H n := by
    rw [body_eq (fn := Go.Proofs.Try.f32) (c := code32) (rs := results32) (by kernel_rfl) (by kernel_rfl) (by kernel_rfl) (by kernel_rfl)]
    kernel_rfl
  rw [h, C32_0]
noncomputable def code42 : Code := codeOf 42
noncomputable def results42 : List ResultVar := resOf 42
noncomputable def K42_p (cal : Cal) (k : Nat) : KR := (cutK (A 42).c (codeE P cal (codeF P cal k) none 42 (cR code42) (Lv.b (A 42)) (doneK P results42) X0 (doneK P results42)))
noncomputable def K42_pr (cal : Cal) (k : Nat) : KR := (cutK (Lv.b (A 42)).c (codeE P cal (codeF P cal k) none 42 (cR (cR code42)) (Lv.b (Lv.b (A 42))) (doneK P results42) X0 (doneK P results42)))
noncomputable def K42_prr (cal : Cal) (k : Nat) : KR := (cutK (Lv.b (Lv.b (A 42))).c (codeE P cal (codeF P cal k) none 42 (cR (cR (cR code42))) (Lv.b (Lv.b (Lv.b (A 42)))) (doneK P results42) X0 (doneK P results42)))
noncomputable def K42_prrl (cal : Cal) (k : Nat) : KR := (cutK (Lv.a (Lv.b (Lv.b (A 42)))).c (codeE P cal (codeF P cal k) none 42 (cR (cL (cR (cR code42)))) (Lv.b (Lv.a (Lv.b (Lv.b (A 42))))) (K42_prr cal k) X0 (doneK P results42)))
noncomputable def K42_prrlrl (cal : Cal) (k : Nat) : KR := (cutK (Lv.a (Lv.b (Lv.a (Lv.b (Lv.b (A 42)))))).c (codeE P cal (codeF P cal k) none 42 (cR (cL (cR (cL (cR (cR code42)))))) (Lv.b (Lv.a (Lv.b (Lv.a (Lv.b (Lv.b (A 42))))))) (K42_prr cal k) X0 (doneK P results42)))
noncomputable def K42_prrr (cal : Cal) (k : Nat) : KR := (cutK (Lv.b (Lv.b (Lv.b (A 42)))).c (codeE P cal (codeF P cal k) none 42 (cR (cR (cR (cR code42)))) (Lv.b (Lv.b (Lv.b (Lv.b (A 42))))) (doneK P results42) X0 (doneK P results42)))
noncomputable def K42_prrrr (cal : Cal) (k : Nat) : KR := (cutK (Lv.b (Lv.b (Lv.b (Lv.b (A 42))))).c (codeE P cal (codeF P cal k) none 42 (cR (cR (cR (cR (cR code42))))) (Lv.b (Lv.b (Lv.b (Lv.b (Lv.b (A 42)))))) (doneK P results42) X0 (doneK P results42)))
noncomputable def K42_prrrrl (cal : Cal) (k : Nat) : KR := (cutK (Lv.a (Lv.b (Lv.b (Lv.b (Lv.b (A 42)))))).c (codeE P cal (codeF P cal k) none 42 (cR (cL (cR (cR (cR (cR code42)))))) (Lv.b (Lv.a (Lv.b (Lv.b (Lv.b (Lv.b (A 42))))))) (K42_prrrr cal k) X0 (doneK P results42)))
noncomputable def K42_prrrrlrl (cal : Cal) (k : Nat) : KR := (cutK (Lv.a (Lv.b (Lv.a (Lv.b (Lv.b (Lv.b (Lv.b (A 42)))))))).c (codeE P cal (codeF P cal k) none 42 (cR (cL (cR (cL (cR (cR (cR (cR code42)))))))) (Lv.b (Lv.a (Lv.b (Lv.a (Lv.b (Lv.b (Lv.b (Lv.b (A 42))))))))) (K42_prrrr cal k) X0 (doneK P results42)))
noncomputable def K42_prrrrr (cal : Cal) (k : Nat) : KR := (cutK (Lv.b (Lv.b (Lv.b (Lv.b (Lv.b (A 42)))))).c (codeE P cal (codeF P cal k) none 42 (cR (cR (cR (cR (cR (cR code42)))))) (Lv.b (Lv.b (Lv.b (Lv.b (Lv.b (Lv.b (A 42))))))) (doneK P results42) X0 (doneK P results42)))
noncomputable def B42_0 (cal : Cal) (k : Nat) (v0 : Value) (H : Hp) (n : Nat) : Res :=
boxK 35 v0 H n fun v_1 H_2 n_3 =>
bindO (addrV v_1) fun a_8 => bindO (loadV P H_2 35 a_8) fun v_7 =>
callFK P cal 61 [v_7] H_2 n_3 fun v_9 H_a n_b =>
bindO (tupV v_9 0) fun v_d =>
bindO (tupV v_9 1) fun v_e =>
binK P .neq 29 (.tmp 13) (.const (.int .i64 0)) v_e (.int .i64 0) fun v_i =>
ifK v_i (
some ((Value.tuple ⟨[(.slice none 0 0), (.int .i64 0), v_e]⟩), H_a, n_b)) (
callFK P cal 81 [v_d] H_a n_b fun v_o H_p n_q =>
bindO (tupV v_o 0) fun v_s =>
bindO (tupV v_o 1) fun v_t =>
allocK P 121 H_p n_q fun v_u H_v n_w =>
bindO (storeP P 121 v_u v_s H_v) fun H_y =>
bindO (pureSem P v_t (Op.unary UnOp.not v_t)) fun v_11 =>
ifK v_11 (
some ((Value.tuple ⟨[(.slice none 0 0), (.int .i64 0), (.int .i64 10)]⟩), H_y, n_w)) (
bindO (nilV v_d) fun v_16 =>
bindO (fieldAddrV P 117 v_16 0) fun v_17 =>
bindO (fieldAddrV P 35 v_17 0) fun v_18 =>
bindO (addrV v_18) fun a_19 => bindO (loadV P H_y 31 a_19) fun v_1a =>
bindO (lenV P 31 v_1a) fun v_1b =>
bindO (sliceV P 121 v_u none (some v_1b)) fun v_1c =>
bindO (addrV v_u) fun a_1e => bindO (loadV P H_y 121 a_1e) fun v_1f =>
effK P [(.l 121 a_1e)] H_y n_w (fun H_1g n_1h k_1i =>
callFK P cal 76 [v_1c] H_1g n_1h fun v_1m H_1n n_1o =>
k_1i v_1m H_1n n_1o) fun v_1j H_1k n_1l =>
callFK P cal 82 [v_d, v_1f] H_1k n_1l fun v_1p H_1q n_1r =>
some ((Value.tuple ⟨[v_1j, v_1p, (.int .i64 0)]⟩), H_1q, n_1r)))
noncomputable def C42_0 (cal : Cal) (k : Nat) (v0 : Value) (H : Hp) (n : Nat) : Res := B42_0 cal k v0 H n
theorem h42_0 (cal : Cal) (k : Nat) (v0 : Value) (H : Hp) (n : Nat) : bodyE P cal A (k + 1) 42 [v0] H n = C42_0 cal k v0 H n := by
  have h : bodyE P cal A (k + 1) 42 [v0] H n = B42_0 cal k v0 H n := by
    rw [body_eq (fn := Go.Proofs.Try.f42) (c := code42) (rs := results42) (by kernel_rfl) (by kernel_rfl) (by kernel_rfl) (by kernel_rfl)]
    kernel_rfl
  rw [h, C42_0]
noncomputable def code48 : Code := codeOf 48
noncomputable def results48 : List ResultVar := resOf 48
noncomputable def K48_p (cal : Cal) (k : Nat) : KR := (cutK (A 48).c (codeE P cal (codeF P cal k) none 48 (cR code48) (Lv.b (A 48)) (doneK P results48) X0 (doneK P results48)))
noncomputable def K48_pr (cal : Cal) (k : Nat) : KR := (cutK (Lv.b (A 48)).c (codeE P cal (codeF P cal k) none 48 (cR (cR code48)) (Lv.b (Lv.b (A 48))) (doneK P results48) X0 (doneK P results48)))
noncomputable def K48_prr (cal : Cal) (k : Nat) : KR := (cutK (Lv.b (Lv.b (A 48))).c (codeE P cal (codeF P cal k) none 48 (cR (cR (cR code48))) (Lv.b (Lv.b (Lv.b (A 48)))) (doneK P results48) X0 (doneK P results48)))
noncomputable def K48_prrl (cal : Cal) (k : Nat) : KR := (cutK (Lv.a (Lv.b (Lv.b (A 48)))).c (codeE P cal (codeF P cal k) none 48 (cR (cL (cR (cR code48)))) (Lv.b (Lv.a (Lv.b (Lv.b (A 48))))) (K48_prr cal k) X0 (doneK P results48)))
noncomputable def K48_prrlrl (cal : Cal) (k : Nat) : KR := (cutK (Lv.a (Lv.b (Lv.a (Lv.b (Lv.b (A 48)))))).c (codeE P cal (codeF P cal k) none 48 (cR (cL (cR (cL (cR (cR code48)))))) (Lv.b (Lv.a (Lv.b (Lv.a (Lv.b (Lv.b (A 48))))))) (K48_prr cal k) X0 (doneK P results48)))
noncomputable def K48_prrr (cal : Cal) (k : Nat) : KR := (cutK (Lv.b (Lv.b (Lv.b (A 48)))).c (codeE P cal (codeF P cal k) none 48 (cR (cR (cR (cR code48)))) (Lv.b (Lv.b (Lv.b (Lv.b (A 48))))) (doneK P results48) X0 (doneK P results48)))
noncomputable def B48_0 (cal : Cal) (k : Nat) (v0 : Value) (H : Hp) (n : Nat) : Res :=
boxK 35 v0 H n fun v_1 H_2 n_3 =>
bindO (addrV v_1) fun a_7 => bindO (loadV P H_2 35 a_7) fun v_6 =>
callFK P cal 61 [v_6] H_2 n_3 fun v_8 H_9 n_a =>
bindO (tupV v_8 0) fun v_c =>
bindO (tupV v_8 1) fun v_d =>
binK P .neq 29 (.tmp 11) (.const (.int .i64 0)) v_d (.int .i64 0) fun v_h =>
ifK v_h (
some ((Value.tuple ⟨[(.slice none 0 0), v_d]⟩), H_9, n_a)) (
callFK P cal 85 [v_c] H_9 n_a fun v_m H_n n_o =>
some ((Value.tuple ⟨[v_m, (.int .i64 0)]⟩), H_n, n_o))
noncomputable def C48_0 (cal : Cal) (k : Nat) (v0 : Value) (H : Hp) (n : Nat) : Res := B48_0 cal k v0 H n
theorem h48_0 (cal : Cal) (k : Nat) (v0 : Value) (H : Hp) (n : Nat) : bodyE P cal A (k + 1) 48 [v0] H n = C48_0 cal k v0 H n := by
  have h : bodyE P cal A (k + 1) 48 [v0] H n = B48_0 cal k v0 H n := by
    rw [body_eq (fn := Go.Proofs.Try.f48) (c := code48) (rs := results48) (by kernel_rfl) (by kernel_rfl) (by kernel_rfl) (by kernel_rfl)]
    kernel_rfl
  rw [h, C48_0]
noncomputable def code52 : Code := codeOf 52
noncomputable def results52 : List ResultVar := resOf 52
noncomputable def K52_p (cal : Cal) (k : Nat) : KR := (cutK (A 52).c (codeE P cal (codeF P cal k) none 52 (cR code52) (Lv.b (A 52)) (doneK P results52) X0 (doneK P results52)))
noncomputable def K52_pr (cal : Cal) (k : Nat) : KR := (cutK (Lv.b (A 52)).c (codeE P cal (codeF P cal k) none 52 (cR (cR code52)) (Lv.b (Lv.b (A 52))) (doneK P results52) X0 (doneK P results52)))
noncomputable def K52_prr (cal : Cal) (k : Nat) : KR := (cutK (Lv.b (Lv.b (A 52))).c (codeE P cal (codeF P cal k) none 52 (cR (cR (cR code52))) (Lv.b (Lv.b (Lv.b (A 52)))) (doneK P results52) X0 (doneK P results52)))
noncomputable def K52_prrl (cal : Cal) (k : Nat) : KR := (cutK (Lv.a (Lv.b (Lv.b (A 52)))).c (codeE P cal (codeF P cal k) none 52 (cR (cL (cR (cR code52)))) (Lv.b (Lv.a (Lv.b (Lv.b (A 52))))) (K52_prr cal k) X0 (doneK P results52)))
noncomputable def K52_pxrrlr (cal : Cal) (k : Nat) : XR := (upX 0 (K52_prr cal k) X0)
noncomputable def K52_prrlrl (cal : Cal) (k : Nat) (m1 : Nat) : KR := (fun T H n D => codeF P cal m1 (Lv.a (Lv.b (Lv.a (Lv.b (Lv.b (A 52)))))) none 52 (cL (cR (cL (cR (cR code52))))) (K52_prr cal k) (K52_pxrrlr cal k) (doneK P results52) (cutT (Lv.a (Lv.b (Lv.a (Lv.b (Lv.b (A 52)))))).c T) H n D)
noncomputable def K52_prrlrll (cal : Cal) (k : Nat) (m1 : Nat) : KR := (cutK (Lv.a (Lv.a (Lv.b (Lv.a (Lv.b (Lv.b (A 52))))))).c (codeE P cal (codeF P cal m1) none 52 (cR (cL (cL (cR (cL (cR (cR code52))))))) (Lv.b (Lv.a (Lv.a (Lv.b (Lv.a (Lv.b (Lv.b (A 52)))))))) (K52_prrlrl cal k m1) (K52_pxrrlr cal k) (doneK P results52)))
noncomputable def K52_prrlrlll (cal : Cal) (k : Nat) (m1 : Nat) : KR := (cutK (Lv.a (Lv.a (Lv.a (Lv.b (Lv.a (Lv.b (Lv.b (A 52)))))))).c (codeE P cal (codeF P cal m1) none 52 (cR (cL (cL (cL (cR (cL (cR (cR code52)))))))) (Lv.b (Lv.a (Lv.a (Lv.a (Lv.b (Lv.a (Lv.b (Lv.b (A 52))))))))) (K52_prrlrll cal k m1) (K52_pxrrlr cal k) (doneK P results52)))
noncomputable def K52_prrlrllr (cal : Cal) (k : Nat) (m1 : Nat) : KR := (cutK (Lv.b (Lv.a (Lv.a (Lv.b (Lv.a (Lv.b (Lv.b (A 52)))))))).c (codeE P cal (codeF P cal m1) none 52 (cR (cR (cL (cL (cR (cL (cR (cR code52)))))))) (Lv.b (Lv.b (Lv.a (Lv.a (Lv.b (Lv.a (Lv.b (Lv.b (A 52))))))))) (K52_prrlrl cal k m1) (K52_pxrrlr cal k) (doneK P results52)))
noncomputable def K52_pxrrlrllrl (cal : Cal) (k : Nat) (m1 : Nat) : XR := (upX 1 (K52_prrlrllr cal k m1) (K52_pxrrlr cal k))
noncomputable def K52_prrlrllrll (cal : Cal) (k : Nat) (m1 : Nat) : KR := (cutK (Lv.a (Lv.a (Lv.b (Lv.a (Lv.a (Lv.b (Lv.a (Lv.b (Lv.b (A 52)))))))))).c (codeE P cal (codeF P cal m1) none 52 (cR (cL (cL (cR (cL (cL (cR (cL (cR (cR code52)))))))))) (Lv.b (Lv.a (Lv.a (Lv.b (Lv.a (Lv.a (Lv.b (Lv.a (Lv.b (Lv.b (A 52))))))))))) (K52_prrlrllr cal k m1) (K52_pxrrlrllrl cal k m1) (doneK P results52)))
noncomputable def K52_prrlrllrllr (cal : Cal) (k : Nat) (m1 : Nat) : KR := (cutK (Lv.b (Lv.a (Lv.a (Lv.b (Lv.a (Lv.a (Lv.b (Lv.a (Lv.b (Lv.b (A 52))))))))))).c (codeE P cal (codeF P cal m1) none 52 (cR (cR (cL (cL (cR (cL (cL (cR (cL (cR (cR code52))))))))))) (Lv.b (Lv.b (Lv.a (Lv.a (Lv.b (Lv.a (Lv.a (Lv.b (Lv.a (Lv.b (Lv.b (A 52)))))))))))) (K52_prrlrllr cal k m1) (K52_pxrrlrllrl cal k m1) (doneK P results52)))
noncomputable def K52_prrr (cal : Cal) (k : Nat) : KR := (cutK (Lv.b (Lv.b (Lv.b (A 52)))).c (codeE P cal (codeF P cal k) none 52 (cR (cR (cR (cR code52)))) (Lv.b (Lv.b (Lv.b (Lv.b (A 52))))) (doneK P results52) X0 (doneK P results52)))
noncomputable def E52_2 (cal : Cal) (k m1 : Nat) : KR := codeE P cal (codeF P cal m1) none 52 (cR (cR (cL (cL (cR (cL (cR (cR code52)))))))) (Lv.b (Lv.b (Lv.a (Lv.a (Lv.b (Lv.a (Lv.b (Lv.b (A 52))))))))) (K52_prrlrl cal k m1) (K52_pxrrlr cal k) (doneK P results52)
noncomputable def E52_1 (cal : Cal) (k m1 : Nat) : KR := codeE P cal (codeF P cal m1) none 52 (cL (cL (cR (cL (cR (cR code52)))))) (Lv.a (Lv.a (Lv.b (Lv.a (Lv.b (Lv.b (A 52))))))) (K52_prrlrl cal k m1) (K52_pxrrlr cal k) (doneK P results52)
noncomputable def R52_1 (cal : Cal) (k m1 : Nat) : V3 := fun u0 u1 u2 H n => codeF P cal m1 (Lv.a (Lv.b (Lv.a (Lv.b (Lv.b (A 52)))))) none 52 (cL (cR (cL (cR (cR code52))))) (K52_prr cal k) (K52_pxrrlr cal k) (doneK P results52) (Tr.set (Tr.set (Tr.set Tr.nil 2 (some u2)) 1 (some u1)) 0 (some u0)) H n []
noncomputable def B52_2 (cal : Cal) (k m1 : Nat) (b1 : V3) (u0 u1 u2 : Value) (H : Hp) (n : Nat) : Res :=
binK P .add 3 (.tmp 10) (.const (.int .i64 1)) u2 (.int .i64 1) fun v_o =>
b1 u0 u1 v_o H n
noncomputable def C52_2 (cal : Cal) (k m1 : Nat) (b1 : V3) (u0 u1 u2 : Value) (H : Hp) (n : Nat) : Res := B52_2 cal k m1 b1 u0 u1 u2 H n
theorem h52_2 (cal : Cal) (k m1 : Nat) (u0 u1 u2 : Value) (H : Hp) (n : Nat) : labK (E52_2 cal k m1) (Tr.set (Tr.set (Tr.set Tr.nil 2 (some u2)) 1 (some u1)) 0 (some u0)) H n [] = C52_2 cal k m1 (R52_1 cal k m1) u0 u1 u2 H n := by
  refine Eq.trans (b := B52_2 cal k m1 (R52_1 cal k m1) u0 u1 u2 H n) (by kernel_rfl) ?_
  rw [C52_2]
noncomputable def B52_1 (cal : Cal) (k m1 : Nat) (j2 : V3) (b1 : V3) (u0 u1 u2 : Value) (H : Hp) (n : Nat) : Res :=
binK P .lss 3 (.tmp 8) (.const (.int .i64 5)) u2 (.int .i64 5) fun v_m =>
ifK v_m (
bindO (fieldAddrV P 35 u1 0) fun v_q =>
bindO (addrV v_q) fun a_s => bindO (loadV P H 31 a_s) fun v_r =>
bindO (buildP P 90 [(0, (.int .i64 10)), (1, (.int .i64 40))]) fun v_t =>
rowK P 31 1 [(0, v_t)] H n fun v_u H_v n_w =>
stK (appendV P (bare H_v n_w) 31 31 v_r v_u) fun v_x H_y n_z =>
bindO (fieldAddrV P 35 u1 0) fun v_10 =>
bindO (storeP P 31 v_10 v_x H_y) fun H_12 =>
binK P .gtr 3 (.tmp 18) (.const (.int .i64 0)) u2 (.int .i64 0) fun v_14 =>
ifK v_14 (
bindO (fieldAddrV P 35 u1 1) fun v_15 =>
bindO (addrV v_15) fun a_17 => bindO (loadV P H_12 32 a_17) fun v_16 =>
binK P .sub 3 (.tmp 22) (.const (.int .i64 1)) u2 (.int .i64 1) fun v_19 =>
bindO (buildP P 88 [(0, v_19), (1, u2)]) fun v_1b =>
rowK P 32 1 [(0, v_1b)] H_12 n_z fun v_1c H_1d n_1e =>
stK (appendV P (bare H_1d n_1e) 32 32 v_16 v_1c) fun v_1f H_1g n_1h =>
bindO (fieldAddrV P 35 u1 1) fun v_1i =>
bindO (storeP P 32 v_1i v_1f H_1g) fun H_1k =>
j2 u0 u1 u2 H_1k n_1h) (
j2 u0 u1 u2 H_12 n_z)) (
bindO (addrV u1) fun a_1m => bindO (loadV P H 35 a_1m) fun v_1l =>
bindO (storeP P 35 u0 v_1l H) fun H_1o =>
bindO (resV P (Tr.set Tr.nil 0 (some u0)) H_1o results52) fun v_1p => some (oneV v_1p, H_1o, n))
noncomputable def C52_1 (cal : Cal) (k m1 : Nat) (b1 : V3) (u0 u1 u2 : Value) (H : Hp) (n : Nat) : Res := B52_1 cal k m1 (C52_2 cal k m1 b1) b1 u0 u1 u2 H n
noncomputable def S52_1 (cal : Cal) (k : Nat) : Nat → V3 := fun m => Nat.rec (motive := fun _ => V3) (C52_1 cal k 0 (fun _ _ _ _ _ => none)) (fun m ih => C52_1 cal k (m + 1) ih) m
theorem h52_1 (cal : Cal) (k m1 : Nat) (u0 u1 u2 : Value) (H : Hp) (n : Nat) : labK (E52_1 cal k m1) (Tr.set (Tr.set (Tr.set Tr.nil 2 (some u2)) 1 (some u1)) 0 (some u0)) H n [] = C52_1 cal k m1 (R52_1 cal k m1) u0 u1 u2 H n := by
  refine Eq.trans (b := B52_1 cal k m1 (fun u0 u1 u2 H n => labK (E52_2 cal k m1) (Tr.set (Tr.set (Tr.set Tr.nil 2 (some u2)) 1 (some u1)) 0 (some u0)) H n []) (R52_1 cal k m1) u0 u1 u2 H n) (by kernel_rfl) ?_
  rw [C52_1]
  have e2 : (fun u0 u1 u2 H n => labK (E52_2 cal k m1) (Tr.set (Tr.set (Tr.set Tr.nil 2 (some u2)) 1 (some u1)) 0 (some u0)) H n []) = (C52_2 cal k m1 (R52_1 cal k m1)) := by funext u0 u1 u2 H n; exact h52_2 ..
  rw [e2]
theorem q52_1 (cal : Cal) (k : Nat) : ∀ (m : Nat) (u0 u1 u2 : Value) (H : Hp) (n : Nat), labK (E52_1 cal k m) (Tr.set (Tr.set (Tr.set Tr.nil 2 (some u2)) 1 (some u1)) 0 (some u0)) H n [] = S52_1 cal k m u0 u1 u2 H n
  | 0, u0, u1, u2, H, n => by
    rw [h52_1]
    have e : R52_1 cal k 0 = fun _ _ _ _ _ => none := by funext u0 u1 u2 H n; kernel_rfl
    rw [e]; rfl
  | m + 1, u0, u1, u2, H, n => by
    rw [h52_1]
    have e : R52_1 cal k (m + 1) = S52_1 cal k m := by
      funext u0 u1 u2 H n
      have e : R52_1 cal k (m + 1) u0 u1 u2 H n = labK (E52_1 cal k m) (Tr.set (Tr.set (Tr.set Tr.nil 2 (some u2)) 1 (some u1)) 0 (some u0)) H n [] := by kernel_rfl
      rw [e]; exact q52_1 ..
    rw [e]; rfl
noncomputable def B52_0 (cal : Cal) (k : Nat) (j1 : V3) (H : Hp) (n : Nat) : Res :=
allocK P 35 H n fun v_1 H_2 n_3 =>
callFK P cal 54 [(.int .i64 20), (.int .i64 30)] H_2 n_3 fun v_4 H_5 n_6 =>
callFK P cal 54 [(.int .i64 10), (.int .i64 20)] H_5 n_6 fun v_7 H_8 n_9 =>
bindO (buildP P 86 [(0, (.int .i64 50)), (1, v_4), (2, v_7)]) fun v_a =>
rowK P 33 1 [(0, v_a)] H_8 n_9 fun v_b H_c n_d =>
bindO (buildP P 35 [(2, v_b)]) fun v_e =>
allocK P 35 H_c n_d fun v_f H_g n_h =>
bindO (storeP P 35 v_f v_e H_g) fun H_j =>
j1 v_1 v_f (.int .i64 0) H_j n_h
noncomputable def C52_0 (cal : Cal) (k : Nat) (H : Hp) (n : Nat) : Res := B52_0 cal k (S52_1 cal k k)  H n
theorem h52_0 (cal : Cal) (k : Nat) (H : Hp) (n : Nat) : bodyE P cal A (k + 1) 52 [] H n = C52_0 cal k  H n := by
  have h : bodyE P cal A (k + 1) 52 [] H n = B52_0 cal k (fun u0 u1 u2 H n => labK (E52_1 cal k k) (Tr.set (Tr.set (Tr.set Tr.nil 2 (some u2)) 1 (some u1)) 0 (some u0)) H n [])  H n := by
    rw [body_eq (fn := Go.Proofs.Try.f52) (c := code52) (rs := results52) (by kernel_rfl) (by kernel_rfl) (by kernel_rfl) (by kernel_rfl)]
    kernel_rfl
  rw [h, C52_0]
  have e1 : (fun u0 u1 u2 H n => labK (E52_1 cal k k) (Tr.set (Tr.set (Tr.set Tr.nil 2 (some u2)) 1 (some u1)) 0 (some u0)) H n []) = (S52_1 cal k k) := by funext u0 u1 u2 H n; exact q52_1 ..
  rw [e1]
noncomputable def code53 : Code := codeOf 53
noncomputable def results53 : List ResultVar := resOf 53
noncomputable def K53_p (cal : Cal) (k : Nat) : KR := (cutK (A 53).c (codeE P cal (codeF P cal k) none 53 (cR code53) (Lv.b (A 53)) (doneK P results53) X0 (doneK P results53)))
noncomputable def K53_pr (cal : Cal) (k : Nat) : KR := (cutK (Lv.b (A 53)).c (codeE P cal (codeF P cal k) none 53 (cR (cR code53)) (Lv.b (Lv.b (A 53))) (doneK P results53) X0 (doneK P results53)))
noncomputable def K53_prr (cal : Cal) (k : Nat) : KR := (cutK (Lv.b (Lv.b (A 53))).c (codeE P cal (codeF P cal k) none 53 (cR (cR (cR code53))) (Lv.b (Lv.b (Lv.b (A 53)))) (doneK P results53) X0 (doneK P results53)))
noncomputable def K53_prrl (cal : Cal) (k : Nat) : KR := (cutK (Lv.a (Lv.b (Lv.b (A 53)))).c (codeE P cal (codeF P cal k) none 53 (cR (cL (cR (cR code53)))) (Lv.b (Lv.a (Lv.b (Lv.b (A 53))))) (K53_prr cal k) X0 (doneK P results53)))
noncomputable def K53_pxrrlr (cal : Cal) (k : Nat) : XR := (upX 0 (K53_prr cal k) X0)
noncomputable def K53_prrlrl (cal : Cal) (k : Nat) (m1 : Nat) : KR := (fun T H n D => codeF P cal m1 (Lv.a (Lv.b (Lv.a (Lv.b (Lv.b (A 53)))))) none 53 (cL (cR (cL (cR (cR code53))))) (K53_prr cal k) (K53_pxrrlr cal k) (doneK P results53) (cutT (Lv.a (Lv.b (Lv.a (Lv.b (Lv.b (A 53)))))).c T) H n D)
noncomputable def K53_prrlrll (cal : Cal) (k : Nat) (m1 : Nat) : KR := (cutK (Lv.a (Lv.a (Lv.b (Lv.a (Lv.b (Lv.b (A 53))))))).c (codeE P cal (codeF P cal m1) none 53 (cR (cL (cL (cR (cL (cR (cR code53))))))) (Lv.b (Lv.a (Lv.a (Lv.b (Lv.a (Lv.b (Lv.b (A 53)))))))) (K53_prrlrl cal k m1) (K53_pxrrlr cal k) (doneK P results53)))
noncomputable def K53_prrlrlll (cal : Cal) (k : Nat) (m1 : Nat) : KR := (cutK (Lv.a (Lv.a (Lv.a (Lv.b (Lv.a (Lv.b (Lv.b (A 53)))))))).c (codeE P cal (codeF P cal m1) none 53 (cR (cL (cL (cL (cR (cL (cR (cR code53)))))))) (Lv.b (Lv.a (Lv.a (Lv.a (Lv.b (Lv.a (Lv.b (Lv.b (A 53))))))))) (K53_prrlrll cal k m1) (K53_pxrrlr cal k) (doneK P results53)))
noncomputable def K53_prrlrllr (cal : Cal) (k : Nat) (m1 : Nat) : KR := (cutK (Lv.b (Lv.a (Lv.a (Lv.b (Lv.a (Lv.b (Lv.b (A 53)))))))).c (codeE P cal (codeF P cal m1) none 53 (cR (cR (cL (cL (cR (cL (cR (cR code53)))))))) (Lv.b (Lv.b (Lv.a (Lv.a (Lv.b (Lv.a (Lv.b (Lv.b (A 53))))))))) (K53_prrlrl cal k m1) (K53_pxrrlr cal k) (doneK P results53)))
noncomputable def K53_pxrrlrllrl (cal : Cal) (k : Nat) (m1 : Nat) : XR := (upX 1 (K53_prrlrllr cal k m1) (K53_pxrrlr cal k))
noncomputable def K53_prrr (cal : Cal) (k : Nat) : KR := (cutK (Lv.b (Lv.b (Lv.b (A 53)))).c (codeE P cal (codeF P cal k) none 53 (cR (cR (cR (cR code53)))) (Lv.b (Lv.b (Lv.b (Lv.b (A 53))))) (doneK P results53) X0 (doneK P results53)))
noncomputable def E53_1 (cal : Cal) (k m1 : Nat) : KR := codeE P cal (codeF P cal m1) none 53 (cL (cL (cR (cL (cR (cR code53)))))) (Lv.a (Lv.a (Lv.b (Lv.a (Lv.b (Lv.b (A 53))))))) (K53_prrlrl cal k m1) (K53_pxrrlr cal k) (doneK P results53)
noncomputable def R53_1 (cal : Cal) (k m1 : Nat) : V3 := fun u0 u3 u4 H n => codeF P cal m1 (Lv.a (Lv.b (Lv.a (Lv.b (Lv.b (A 53)))))) none 53 (cL (cR (cL (cR (cR code53))))) (K53_prr cal k) (K53_pxrrlr cal k) (doneK P results53) (Tr.set (Tr.set (Tr.set Tr.nil 4 (some u4)) 3 (some u3)) 0 (some u0)) H n []
noncomputable def B53_1 (cal : Cal) (k m1 : Nat) (b1 : V3) (u0 u3 u4 : Value) (H : Hp) (n : Nat) : Res :=
bindO (lenV P 44 u0) fun v_9 =>
binK P .lss 3 (.tmp 6) (.tmp 8) u4 v_9 fun v_a =>
ifK v_a (
bindO (indexAddrV P 44 u0 u4) fun v_e =>
bindO (addrV v_e) fun a_g => bindO (loadV P H 3 a_g) fun v_f =>
bindO (indexAddrV P 44 u3 v_f) fun v_h =>
bindO (storeP P 3 v_h (.int .i64 0) H) fun H_j =>
binK P .add 3 (.tmp 10) (.const (.int .i64 1)) u4 (.int .i64 1) fun v_l =>
b1 u0 u3 v_l H_j n) (
some (u3, H, n))
noncomputable def C53_1 (cal : Cal) (k m1 : Nat) (b1 : V3) (u0 u3 u4 : Value) (H : Hp) (n : Nat) : Res := B53_1 cal k m1 b1 u0 u3 u4 H n
noncomputable def S53_1 (cal : Cal) (k : Nat) : Nat → V3 := fun m => Nat.rec (motive := fun _ => V3) (C53_1 cal k 0 (fun _ _ _ _ _ => none)) (fun m ih => C53_1 cal k (m + 1) ih) m
theorem h53_1 (cal : Cal) (k m1 : Nat) (u0 u3 u4 : Value) (H : Hp) (n : Nat) : labK (E53_1 cal k m1) (Tr.set (Tr.set (Tr.set Tr.nil 4 (some u4)) 3 (some u3)) 0 (some u0)) H n [] = C53_1 cal k m1 (R53_1 cal k m1) u0 u3 u4 H n := by
  refine Eq.trans (b := B53_1 cal k m1 (R53_1 cal k m1) u0 u3 u4 H n) (by kernel_rfl) ?_
  rw [C53_1]
theorem q53_1 (cal : Cal) (k : Nat) : ∀ (m : Nat) (u0 u3 u4 : Value) (H : Hp) (n : Nat), labK (E53_1 cal k m) (Tr.set (Tr.set (Tr.set Tr.nil 4 (some u4)) 3 (some u3)) 0 (some u0)) H n [] = S53_1 cal k m u0 u3 u4 H n
  | 0, u0, u3, u4, H, n => by
    rw [h53_1]
    have e : R53_1 cal k 0 = fun _ _ _ _ _ => none := by funext u0 u3 u4 H n; kernel_rfl
    rw [e]; rfl
  | m + 1, u0, u3, u4, H, n => by
    rw [h53_1]
    have e : R53_1 cal k (m + 1) = S53_1 cal k m := by
      funext u0 u3 u4 H n
      have e : R53_1 cal k (m + 1) u0 u3 u4 H n = labK (E53_1 cal k m) (Tr.set (Tr.set (Tr.set Tr.nil 4 (some u4)) 3 (some u3)) 0 (some u0)) H n [] := by kernel_rfl
      rw [e]; exact q53_1 ..
    rw [e]; rfl
noncomputable def B53_0 (cal : Cal) (k : Nat) (j1 : V3) (v0 : Value) (H : Hp) (n : Nat) : Res :=
rowK P 44 5 [(0, (.int .i64 (-1))), (1, (.int .i64 (-1))), (2, (.int .i64 (-1))), (3, (.int .i64 (-1))), (4, (.int .i64 (-1)))] H n fun v_2 H_3 n_4 =>
j1 v0 v_2 (.int .i64 0) H_3 n_4
noncomputable def C53_0 (cal : Cal) (k : Nat) (v0 : Value) (H : Hp) (n : Nat) : Res := B53_0 cal k (S53_1 cal k k) v0 H n
theorem h53_0 (cal : Cal) (k : Nat) (v0 : Value) (H : Hp) (n : Nat) : bodyE P cal A (k + 1) 53 [v0] H n = C53_0 cal k v0 H n := by
  have h : bodyE P cal A (k + 1) 53 [v0] H n = B53_0 cal k (fun u0 u3 u4 H n => labK (E53_1 cal k k) (Tr.set (Tr.set (Tr.set Tr.nil 4 (some u4)) 3 (some u3)) 0 (some u0)) H n []) v0 H n := by
    rw [body_eq (fn := Go.Proofs.Try.f53) (c := code53) (rs := results53) (by kernel_rfl) (by kernel_rfl) (by kernel_rfl) (by kernel_rfl)]
    kernel_rfl
  rw [h, C53_0]
  have e1 : (fun u0 u3 u4 H n => labK (E53_1 cal k k) (Tr.set (Tr.set (Tr.set Tr.nil 4 (some u4)) 3 (some u3)) 0 (some u0)) H n []) = (S53_1 cal k k) := by funext u0 u3 u4 H n; exact q53_1 ..
  rw [e1]
noncomputable def code54 : Code := codeOf 54
noncomputable def results54 : List ResultVar := resOf 54
noncomputable def K54_p (cal : Cal) (k : Nat) : KR := (cutK (A 54).c (codeE P cal (codeF P cal k) none 54 (cR code54) (Lv.b (A 54)) (doneK P results54) X0 (doneK P results54)))
noncomputable def K54_pr (cal : Cal) (k : Nat) : KR := (cutK (Lv.b (A 54)).c (codeE P cal (codeF P cal k) none 54 (cR (cR code54)) (Lv.b (Lv.b (A 54))) (doneK P results54) X0 (doneK P results54)))
noncomputable def B54_0 (cal : Cal) (k : Nat) (v0 v1 : Value) (H : Hp) (n : Nat) : Res :=
allocK P 53 H n fun v_1 H_2 n_3 =>
bindO (buildP P 53 [(0, v0), (1, v1)]) fun v_6 =>
bindO (storeP P 53 v_1 v_6 H_2) fun H_8 =>
bindO (resV P (Tr.set Tr.nil 4 (some v_1)) H_8 results54) fun v_9 => some (oneV v_9, H_8, n_3)
noncomputable def C54_0 (cal : Cal) (k : Nat) (v0 v1 : Value) (H : Hp) (n : Nat) : Res := B54_0 cal k v0 v1 H n
theorem h54_0 (cal : Cal) (k : Nat) (v0 v1 : Value) (H : Hp) (n : Nat) : bodyE P cal A (k + 1) 54 [v0, v1] H n = C54_0 cal k v0 v1 H n := by
  have h : bodyE P cal A (k + 1) 54 [v0, v1] H n = B54_0 cal k v0 v1 H n := by
    rw [body_eq (fn := Go.Proofs.Try.f54) (c := code54) (rs := results54) (by kernel_rfl) (by kernel_rfl) (by kernel_rfl) (by kernel_rfl)]
    kernel_rfl
  rw [h, C54_0]
noncomputable def code55 : Code := codeOf 55
noncomputable def results55 : List ResultVar := resOf 55
noncomputable def K55_p (cal : Cal) (k : Nat) : KR := (cutK (A 55).c (codeE P cal (codeF P cal k) none 55 (cR code55) (Lv.b (A 55)) (doneK P results55) X0 (doneK P results55)))
noncomputable def K55_pr (cal : Cal) (k : Nat) : KR := (cutK (Lv.b (A 55)).c (codeE P cal (codeF P cal k) none 55 (cR (cR code55)) (Lv.b (Lv.b (A 55))) (doneK P results55) X0 (doneK P results55)))
noncomputable def B55_0 (cal : Cal) (k : Nat) (v0 v1 : Value) (H : Hp) (n : Nat) : Res :=
boxK 26 v0 H n fun v_1 H_2 n_3 =>
bindO (addrV v_1) fun a_6 => bindO (loadV P H_2 26 a_6) fun v_5 =>
callFK P cal 15 [v_5, v1] H_2 n_3 fun v_8 H_9 n_a =>
guardK v_8 true (fun k_c =>
bindO (addrV v_1) fun a_h => bindO (loadV P H_9 26 a_h) fun v_g =>
k_c v_g H_9 n_a) H_9 n_a fun v_d H_e n_f =>
guardK v_8 true (fun k_i =>
k_i v1 H_e n_f) H_e n_f fun v_j H_k n_l =>
guardK v_8 true (fun k_n =>
callFK P cal 25 [v_d, v_j] H_k n_l fun v_r H_s n_t =>
k_n v_r H_s n_t) H_k n_l fun v_o H_p n_q =>
guardK v_8 true (fun k_u =>
binK P .eql 29 (.tmp 11) (.const (.int .i64 0)) v_o (.int .i64 0) fun v_y =>
k_u v_y H_p n_q) H_p n_q fun v_v H_w n_x =>
bindO (pickV v_8 v_v (.bool false)) fun v_z =>
some (v_z, H_w, n_x)
noncomputable def C55_0 (cal : Cal) (k : Nat) (v0 v1 : Value) (H : Hp) (n : Nat) : Res := B55_0 cal k v0 v1 H n
theorem h55_0 (cal : Cal) (k : Nat) (v0 v1 : Value) (H : Hp) (n : Nat) : bodyE P cal A (k + 1) 55 [v0, v1] H n = C55_0 cal k v0 v1 H n := by
  have h : bodyE P cal A (k + 1) 55 [v0, v1] H n = B55_0 cal k v0 v1 H n := by
    rw [body_eq (fn := Go.Proofs.Try.f55) (c := code55) (rs := results55) (by kernel_rfl) (by kernel_rfl) (by kernel_rfl) (by kernel_rfl)]
    kernel_rfl
  rw [h, C55_0]
noncomputable def code58 : Code := codeOf 58
noncomputable def results58 : List ResultVar := resOf 58
noncomputable def K58_p (cal : Cal) (k : Nat) : KR := (cutK (A 58).c (codeE P cal (codeF P cal k) none 58 (cR code58) (Lv.b (A 58)) (doneK P results58) X0 (doneK P results58)))
noncomputable def K58_pr (cal : Cal) (k : Nat) : KR := (cutK (Lv.b (A 58)).c (codeE P cal (codeF P cal k) none 58 (cR (cR code58)) (Lv.b (Lv.b (A 58))) (doneK P results58) X0 (doneK P results58)))
noncomputable def K58_prl (cal : Cal) (k : Nat) : KR := (cutK (Lv.a (Lv.b (A 58))).c (codeE P cal (codeF P cal k) none 58 (cR (cL (cR code58))) (Lv.b (Lv.a (Lv.b (A 58)))) (K58_pr cal k) X0 (doneK P results58)))
noncomputable def K58_prlrl (cal : Cal) (k : Nat) : KR := (cutK (Lv.a (Lv.b (Lv.a (Lv.b (A 58))))).c (codeE P cal (codeF P cal k) none 58 (cR (cL (cR (cL (cR code58))))) (Lv.b (Lv.a (Lv.b (Lv.a (Lv.b (A 58)))))) (K58_pr cal k) X0 (doneK P results58)))
noncomputable def K58_prr (cal : Cal) (k : Nat) : KR := (cutK (Lv.b (Lv.b (A 58))).c (codeE P cal (codeF P cal k) none 58 (cR (cR (cR code58))) (Lv.b (Lv.b (Lv.b (A 58)))) (doneK P results58) X0 (doneK P results58)))
noncomputable def K58_prrl (cal : Cal) (k : Nat) : KR := (cutK (Lv.a (Lv.b (Lv.b (A 58)))).c (codeE P cal (codeF P cal k) none 58 (cR (cL (cR (cR code58)))) (Lv.b (Lv.a (Lv.b (Lv.b (A 58))))) (K58_prr cal k) X0 (doneK P results58)))
noncomputable def K58_pxrrlr (cal : Cal) (k : Nat) : XR := (upX 0 (K58_prr cal k) X0)
noncomputable def K58_prrlrl (cal : Cal) (k : Nat) (m1 : Nat) : KR := (fun T H n D => codeF P cal m1 (Lv.a (Lv.b (Lv.a (Lv.b (Lv.b (A 58)))))) none 58 (cL (cR (cL (cR (cR code58))))) (K58_prr cal k) (K58_pxrrlr cal k) (doneK P results58) (cutT (Lv.a (Lv.b (Lv.a (Lv.b (Lv.b (A 58)))))).c T) H n D)
noncomputable def K58_prrlrll (cal : Cal) (k : Nat) (m1 : Nat) : KR := (cutK (Lv.a (Lv.a (Lv.b (Lv.a (Lv.b (Lv.b (A 58))))))).c (codeE P cal (codeF P cal m1) none 58 (cR (cL (cL (cR (cL (cR (cR code58))))))) (Lv.b (Lv.a (Lv.a (Lv.b (Lv.a (Lv.b (Lv.b (A 58)))))))) (K58_prrlrl cal k m1) (K58_pxrrlr cal k) (doneK P results58)))
noncomputable def K58_prrlrlll (cal : Cal) (k : Nat) (m1 : Nat) : KR := (cutK (Lv.a (Lv.a (Lv.a (Lv.b (Lv.a (Lv.b (Lv.b (A 58)))))))).c (codeE P cal (codeF P cal m1) none 58 (cR (cL (cL (cL (cR (cL (cR (cR code58)))))))) (Lv.b (Lv.a (Lv.a (Lv.a (Lv.b (Lv.a (Lv.b (Lv.b (A 58))))))))) (K58_prrlrll cal k m1) (K58_pxrrlr cal k) (doneK P results58)))
noncomputable def K58_prrlrllr (cal : Cal) (k : Nat) (m1 : Nat) : KR := (cutK (Lv.b (Lv.a (Lv.a (Lv.b (Lv.a (Lv.b (Lv.b (A 58)))))))).c (codeE P cal (codeF P cal m1) none 58 (cR (cR (cL (cL (cR (cL (cR (cR code58)))))))) (Lv.b (Lv.b (Lv.a (Lv.a (Lv.b (Lv.a (Lv.b (Lv.b (A 58))))))))) (K58_prrlrl cal k m1) (K58_pxrrlr cal k) (doneK P results58)))
noncomputable def K58_pxrrlrllrl (cal : Cal) (k : Nat) (m1 : Nat) : XR := (upX 1 (K58_prrlrllr cal k m1) (K58_pxrrlr cal k))
noncomputable def K58_prrlrllrll (cal : Cal) (k : Nat) (m1 : Nat) : KR := (cutK (Lv.a (Lv.a (Lv.b (Lv.a (Lv.a (Lv.b (Lv.a (Lv.b (Lv.b (A 58)))))))))).c (codeE P cal (codeF P cal m1) none 58 (cR (cL (cL (cR (cL (cL (cR (cL (cR (cR code58)))))))))) (Lv.b (Lv.a (Lv.a (Lv.b (Lv.a (Lv.a (Lv.b (Lv.a (Lv.b (Lv.b (A 58))))))))))) (K58_prrlrllr cal k m1) (K58_pxrrlrllrl cal k m1) (doneK P results58)))
noncomputable def K58_prrlrllrllrl (cal : Cal) (k : Nat) (m1 : Nat) : KR := (cutK (Lv.a (Lv.b (Lv.a (Lv.a (Lv.b (Lv.a (Lv.a (Lv.b (Lv.a (Lv.b (Lv.b (A 58)))))))))))).c (codeE P cal (codeF P cal m1) none 58 (cR (cL (cR (cL (cL (cR (cL (cL (cR (cL (cR (cR code58)))))))))))) (Lv.b (Lv.a (Lv.b (Lv.a (Lv.a (Lv.b (Lv.a (Lv.a (Lv.b (Lv.a (Lv.b (Lv.b (A 58))))))))))))) (K58_prrlrllr cal k m1) (K58_pxrrlrllrl cal k m1) (doneK P results58)))
noncomputable def K58_prrr (cal : Cal) (k : Nat) : KR := (cutK (Lv.b (Lv.b (Lv.b (A 58)))).c (codeE P cal (codeF P cal k) none 58 (cR (cR (cR (cR code58)))) (Lv.b (Lv.b (Lv.b (Lv.b (A 58))))) (doneK P results58) X0 (doneK P results58)))
noncomputable def E58_1 (cal : Cal) (k m1 : Nat) : KR := codeE P cal (codeF P cal m1) none 58 (cL (cL (cR (cL (cR (cR code58)))))) (Lv.a (Lv.a (Lv.b (Lv.a (Lv.b (Lv.b (A 58))))))) (K58_prrlrl cal k m1) (K58_pxrrlr cal k) (doneK P results58)
noncomputable def R58_1 (cal : Cal) (k m1 : Nat) : V3 := fun u1 u2 u5 H n => codeF P cal m1 (Lv.a (Lv.b (Lv.a (Lv.b (Lv.b (A 58)))))) none 58 (cL (cR (cL (cR (cR code58))))) (K58_prr cal k) (K58_pxrrlr cal k) (doneK P results58) (Tr.set (Tr.set (Tr.set Tr.nil 5 (some u5)) 2 (some u2)) 1 (some u1)) H n []
noncomputable def B58_1 (cal : Cal) (k m1 : Nat) (b1 : V3) (u1 u2 u5 : Value) (H : Hp) (n : Nat) : Res :=
bindO (lenV P 44 u1) fun v_g =>
binK P .lss 3 (.tmp 12) (.tmp 14) u5 v_g fun v_h =>
ifK v_h (
bindO (indexAddrV P 44 u1 u5) fun v_k =>
bindO (addrV v_k) fun a_l => bindO (loadV P H 3 a_l) fun v_m =>
binK P .neq 3 (.tmp 21) (.const (.int .i64 (-1))) v_m (.int .i64 (-1)) fun v_n =>
guardD v_n true (fun k_p =>
k_p u1 .p H n) .p H n fun v_q x_r H_s n_t =>
guardD v_n true (fun k_v =>
k_v u5 .p H_s n_t) .p H_s n_t fun v_w x_x H_y n_z =>
guardD v_n true (fun k_11 =>
bindO (indexAddrV P 44 v_q v_w) fun v_16 =>
k_11 v_16 .p H_y n_z) .p H_y n_z fun v_12 x_13 H_14 n_15 =>
guardD v_n true (fun k_17 =>
bindO (addrV v_12) fun a_1c => bindO (loadV P H_14 3 a_1c) fun v_1d =>
k_17 v_1d (.l 3 a_1c) H_14 n_15) .p H_14 n_15 fun v_18 x_19 H_1a n_1b =>
guardD v_n true (fun k_1e =>
bindO (fieldAddrV P 26 u2 2) fun v_1j =>
k_1e v_1j .p H_1a n_1b) .p H_1a n_1b fun v_1f x_1g H_1h n_1i =>
guardD v_n true (fun k_1k =>
bindO (addrV v_1f) fun a_1p => bindO (loadV P H_1h 24 a_1p) fun v_1q =>
k_1k v_1q (.l 24 a_1p) H_1h n_1i) .p H_1h n_1i fun v_1l x_1m H_1n n_1o =>
guardD v_n true (fun k_1r =>
bindO (lenV P 24 v_1l) fun v_1w =>
k_1r v_1w .p H_1n n_1o) .p H_1n n_1o fun v_1s x_1t H_1u n_1v =>
guardD v_n true (fun k_1x =>
binK P .sub 3 (.tmp 30) (.const (.int .i64 1)) v_1s (.int .i64 1) fun v_22 =>
k_1x v_22 .p H_1u n_1v) .p H_1u n_1v fun v_1y x_1z H_20 n_21 =>
guardD v_n true (fun k_23 =>
callFK P cal 32 [v_18, (.int .i64 0), v_1y] H_20 n_21 fun v_28 H_29 n_2a =>
k_23 v_28 .e H_29 n_2a) .e H_20 n_21 fun v_24 x_25 H_26 n_27 =>
guardD v_n true (fun k_2b =>
bindO (pureSem P v_24 (Op.unary UnOp.not v_24)) fun v_2g =>
k_2b v_2g .p H_26 n_27) .p H_26 n_27 fun v_2c x_2d H_2e n_2f =>
guardD v_n true (fun k_2h =>
k_2h v_2c .p H_2e n_2f) .p H_2e n_2f fun v_2i x_2j H_2k n_2l =>
guardD v_2i false (fun k_2n =>
bindO (addrV u2) fun a_2s => bindO (loadV P H_2k 26 a_2s) fun v_2t =>
k_2n v_2t (.l 26 a_2s) H_2k n_2l) .p H_2k n_2l fun v_2o x_2p H_2q n_2r =>
guardD v_2i false (fun k_2u =>
k_2u u1 .p H_2q n_2r) .p H_2q n_2r fun v_2v x_2w H_2x n_2y =>
guardD v_2i false (fun k_30 =>
k_30 u5 .p H_2x n_2y) .p H_2x n_2y fun v_31 x_32 H_33 n_34 =>
guardD v_2i false (fun k_36 =>
bindO (indexAddrV P 44 v_2v v_31) fun v_3b =>
k_36 v_3b .p H_33 n_34) .p H_33 n_34 fun v_37 x_38 H_39 n_3a =>
guardD v_2i false (fun k_3c =>
bindO (addrV v_37) fun a_3h => bindO (loadV P H_39 3 a_3h) fun v_3i =>
k_3c v_3i (.l 3 a_3h) H_39 n_3a) .p H_39 n_3a fun v_3d x_3e H_3f n_3g =>
guardD v_2i false (fun k_3j =>
k_3j u5 .p H_3f n_3g) .p H_3f n_3g fun v_3k x_3l H_3m n_3n =>
guardD v_2i false (fun k_3p =>
callFK P cal 21 [v_2o, v_3d, v_3k] H_3m n_3n fun v_3u H_3v n_3w =>
k_3p v_3u .e H_3v n_3w) .e H_3m n_3n fun v_3q x_3r H_3s n_3t =>
guardD v_2i false (fun k_3x =>
bindO (pureSem P v_3q (Op.unary UnOp.not v_3q)) fun v_42 =>
k_3x v_42 .p H_3s n_3t) .p H_3s n_3t fun v_3y x_3z H_40 n_41 =>
guardD v_n true (fun k_43 =>
bindO (pickV v_2i (.bool true) v_3y) fun v_48 =>
k_43 v_48 .p H_40 n_41) .p H_40 n_41 fun v_44 x_45 H_46 n_47 =>
bindO (pickV v_n v_44 (.bool false)) fun v_49 =>
ifK v_49 (
some ((.bool false), H_46, n_47)) (
binK P .add 3 (.tmp 16) (.const (.int .i64 1)) u5 (.int .i64 1) fun v_4c =>
b1 u1 u2 v_4c H_46 n_47)) (
some ((.bool true), H, n))
noncomputable def C58_1 (cal : Cal) (k m1 : Nat) (b1 : V3) (u1 u2 u5 : Value) (H : Hp) (n : Nat) : Res := B58_1 cal k m1 b1 u1 u2 u5 H n
noncomputable def S58_1 (cal : Cal) (k : Nat) : Nat → V3 := fun m => Nat.rec (motive := fun _ => V3) (C58_1 cal k 0 (fun _ _ _ _ _ => none)) (fun m ih => C58_1 cal k (m + 1) ih) m
theorem h58_1 (cal : Cal) (k m1 : Nat) (u1 u2 u5 : Value) (H : Hp) (n : Nat) : labK (E58_1 cal k m1) (Tr.set (Tr.set (Tr.set Tr.nil 5 (some u5)) 2 (some u2)) 1 (some u1)) H n [] = C58_1 cal k m1 (R58_1 cal k m1) u1 u2 u5 H n := by
  refine Eq.trans (b := B58_1 cal k m1 (R58_1 cal k m1) u1 u2 u5 H n) (by kernel_rfl) ?_
  rw [C58_1]
theorem q58_1 (cal : Cal) (k : Nat) : ∀ (m : Nat) (u1 u2 u5 : Value) (H : Hp) (n : Nat), labK (E58_1 cal k m) (Tr.set (Tr.set (Tr.set Tr.nil 5 (some u5)) 2 (some u2)) 1 (some u1)) H n [] = S58_1 cal k m u1 u2 u5 H n
  | 0, u1, u2, u5, H, n => by
    rw [h58_1]
    have e : R58_1 cal k 0 = fun _ _ _ _ _ => none := by funext u1 u2 u5 H n; kernel_rfl
    rw [e]; rfl
  | m + 1, u1, u2, u5, H, n => by
    rw [h58_1]
    have e : R58_1 cal k (m + 1) = S58_1 cal k m := by
      funext u1 u2 u5 H n
      have e : R58_1 cal k (m + 1) u1 u2 u5 H n = labK (E58_1 cal k m) (Tr.set (Tr.set (Tr.set Tr.nil 5 (some u5)) 2 (some u2)) 1 (some u1)) H n [] := by kernel_rfl
      rw [e]; exact q58_1 ..
    rw [e]; rfl
noncomputable def B58_0 (cal : Cal) (k : Nat) (j1 : V3) (v0 v1 : Value) (H : Hp) (n : Nat) : Res :=
boxK 26 v0 H n fun v_1 H_2 n_3 =>
bindO (lenV P 44 v1) fun v_6 =>
bindO (fieldAddrV P 26 v_1 0) fun v_7 =>
bindO (addrV v_7) fun a_9 => bindO (loadV P H_2 22 a_9) fun v_8 =>
bindO (lenV P 22 v_8) fun v_a =>
binK P .neq 3 (.tmp 7) (.tmp 10) v_6 v_a fun v_b =>
ifK v_b (
some ((.bool false), H_2, n_3)) (
j1 v1 v_1 (.int .i64 0) H_2 n_3)
noncomputable def C58_0 (cal : Cal) (k : Nat) (v0 v1 : Value) (H : Hp) (n : Nat) : Res := B58_0 cal k (S58_1 cal k k) v0 v1 H n
theorem h58_0 (cal : Cal) (k : Nat) (v0 v1 : Value) (H : Hp) (n : Nat) : bodyE P cal A (k + 1) 58 [v0, v1] H n = C58_0 cal k v0 v1 H n := by
  have h : bodyE P cal A (k + 1) 58 [v0, v1] H n = B58_0 cal k (fun u1 u2 u5 H n => labK (E58_1 cal k k) (Tr.set (Tr.set (Tr.set Tr.nil 5 (some u5)) 2 (some u2)) 1 (some u1)) H n []) v0 v1 H n := by
    rw [body_eq (fn := Go.Proofs.Try.f58) (c := code58) (rs := results58) (by kernel_rfl) (by kernel_rfl) (by kernel_rfl) (by kernel_rfl)]
    kernel_rfl
  rw [h, C58_0]
  have e1 : (fun u1 u2 u5 H n => labK (E58_1 cal k k) (Tr.set (Tr.set (Tr.set Tr.nil 5 (some u5)) 2 (some u2)) 1 (some u1)) H n []) = (S58_1 cal k k) := by funext u1 u2 u5 H n; exact q58_1 ..
  rw [e1]
noncomputable def code60 : Code := codeOf 60
noncomputable def results60 : List ResultVar := resOf 60
noncomputable def K60_p (cal : Cal) (k : Nat) : KR := (cutK (A 60).c (codeE P cal (codeF P cal k) none 60 (cR code60) (Lv.b (A 60)) (doneK P results60) X0 (doneK P results60)))
noncomputable def K60_pr (cal : Cal) (k : Nat) : KR := (cutK (Lv.b (A 60)).c (codeE P cal (codeF P cal k) none 60 (cR (cR code60)) (Lv.b (Lv.b (A 60))) (doneK P results60) X0 (doneK P results60)))
noncomputable def K60_pxrl (cal : Cal) (k : Nat) : XR := (upX 0 (K60_pr cal k) X0)
noncomputable def K60_prllrl (cal : Cal) (k : Nat) : KR := (cutK (Lv.a (Lv.b (Lv.a (Lv.a (Lv.b (A 60)))))).c (codeE P cal (codeF P cal k) none 60 (cR (cL (cR (cL (cL (cR code60)))))) (Lv.b (Lv.a (Lv.b (Lv.a (Lv.a (Lv.b (A 60))))))) (K60_pr cal k) (K60_pxrl cal k) (doneK P results60)))
noncomputable def K60_prllrrrl (cal : Cal) (k : Nat) : KR := (cutK (Lv.a (Lv.b (Lv.b (Lv.b (Lv.a (Lv.a (Lv.b (A 60)))))))).c (codeE P cal (codeF P cal k) none 60 (cR (cL (cR (cR (cR (cL (cL (cR code60)))))))) (Lv.b (Lv.a (Lv.b (Lv.b (Lv.b (Lv.a (Lv.a (Lv.b (A 60))))))))) (K60_pr cal k) (K60_pxrl cal k) (doneK P results60)))
noncomputable def K60_prllrrrrrl (cal : Cal) (k : Nat) : KR := (cutK (Lv.a (Lv.b (Lv.b (Lv.b (Lv.b (Lv.b (Lv.a (Lv.a (Lv.b (A 60)))))))))).c (codeE P cal (codeF P cal k) none 60 (cR (cL (cR (cR (cR (cR (cR (cL (cL (cR code60)))))))))) (Lv.b (Lv.a (Lv.b (Lv.b (Lv.b (Lv.b (Lv.b (Lv.a (Lv.a (Lv.b (A 60))))))))))) (K60_pr cal k) (K60_pxrl cal k) (doneK P results60)))
noncomputable def K60_prr (cal : Cal) (k : Nat) : KR := (cutK (Lv.b (Lv.b (A 60))).c (codeE P cal (codeF P cal k) none 60 (cR (cR (cR code60))) (Lv.b (Lv.b (Lv.b (A 60)))) (doneK P results60) X0 (doneK P results60)))
noncomputable def K60_prllrrrr (cal : Cal) (k : Nat) : KR := (cutK (Lv.b (Lv.b (Lv.b (Lv.b (Lv.a (Lv.a (Lv.b (A 60)))))))).c (codeE P cal (codeF P cal k) none 60 (cR (cR (cR (cR (cR (cL (cL (cR code60)))))))) (Lv.b (Lv.b (Lv.b (Lv.b (Lv.b (Lv.a (Lv.a (Lv.b (A 60))))))))) (K60_pr cal k) (K60_pxrl cal k) (doneK P results60)))
noncomputable def K60_prllrrrrl (cal : Cal) (k : Nat) : KR := (cutK (Lv.a (Lv.b (Lv.b (Lv.b (Lv.b (Lv.a (Lv.a (Lv.b (A 60))))))))).c (codeE P cal (codeF P cal k) none 60 (cR (cL (cR (cR (cR (cR (cL (cL (cR code60))))))))) (Lv.b (Lv.a (Lv.b (Lv.b (Lv.b (Lv.b (Lv.a (Lv.a (Lv.b (A 60)))))))))) (K60_prllrrrr cal k) (K60_pxrl cal k) (doneK P results60)))
noncomputable def K60_prllrrrrlrr (cal : Cal) (k : Nat) : KR := (cutK (Lv.b (Lv.b (Lv.a (Lv.b (Lv.b (Lv.b (Lv.b (Lv.a (Lv.a (Lv.b (A 60))))))))))).c (codeE P cal (codeF P cal k) none 60 (cR (cR (cR (cL (cR (cR (cR (cR (cL (cL (cR code60))))))))))) (Lv.b (Lv.b (Lv.b (Lv.a (Lv.b (Lv.b (Lv.b (Lv.b (Lv.a (Lv.a (Lv.b (A 60)))))))))))) (K60_prllrrrr cal k) (K60_pxrl cal k) (doneK P results60)))
noncomputable def K60_prllrr (cal : Cal) (k : Nat) : KR := (cutK (Lv.b (Lv.b (Lv.a (Lv.a (Lv.b (A 60)))))).c (codeE P cal (codeF P cal k) none 60 (cR (cR (cR (cL (cL (cR code60)))))) (Lv.b (Lv.b (Lv.b (Lv.a (Lv.a (Lv.b (A 60))))))) (K60_pr cal k) (K60_pxrl cal k) (doneK P results60)))
noncomputable def K60_prllrrl (cal : Cal) (k : Nat) : KR := (cutK (Lv.a (Lv.b (Lv.b (Lv.a (Lv.a (Lv.b (A 60))))))).c (codeE P cal (codeF P cal k) none 60 (cR (cL (cR (cR (cL (cL (cR code60))))))) (Lv.b (Lv.a (Lv.b (Lv.b (Lv.a (Lv.a (Lv.b (A 60)))))))) (K60_prllrr cal k) (K60_pxrl cal k) (doneK P results60)))
noncomputable def K60_prll (cal : Cal) (k : Nat) : KR := (cutK (Lv.a (Lv.a (Lv.b (A 60)))).c (codeE P cal (codeF P cal k) none 60 (cR (cL (cL (cR code60)))) (Lv.b (Lv.a (Lv.a (Lv.b (A 60))))) (K60_pr cal k) (K60_pxrl cal k) (doneK P results60)))
noncomputable def K60_prlll (cal : Cal) (k : Nat) : KR := (cutK (Lv.a (Lv.a (Lv.a (Lv.b (A 60))))).c (codeE P cal (codeF P cal k) none 60 (cR (cL (cL (cL (cR code60))))) (Lv.b (Lv.a (Lv.a (Lv.a (Lv.b (A 60)))))) (K60_prll cal k) (K60_pxrl cal k) (doneK P results60)))
noncomputable def K60_prlllrr (cal : Cal) (k : Nat) : KR := (cutK (Lv.b (Lv.b (Lv.a (Lv.a (Lv.a (Lv.b (A 60))))))).c (codeE P cal (codeF P cal k) none 60 (cR (cR (cR (cL (cL (cL (cR code60))))))) (Lv.b (Lv.b (Lv.b (Lv.a (Lv.a (Lv.a (Lv.b (A 60)))))))) (K60_prll cal k) (K60_pxrl cal k) (doneK P results60)))
noncomputable def E60_3 (cal : Cal) (k : Nat) : KR := codeE P cal (codeF P cal k) none 60 (cR (cR (cR (cR (cR (cL (cL (cR code60)))))))) (Lv.b (Lv.b (Lv.b (Lv.b (Lv.b (Lv.a (Lv.a (Lv.b (A 60))))))))) (K60_pr cal k) (K60_pxrl cal k) (doneK P results60)
noncomputable def E60_2 (cal : Cal) (k : Nat) : KR := codeE P cal (codeF P cal k) none 60 (cR (cR (cR (cL (cL (cR code60)))))) (Lv.b (Lv.b (Lv.b (Lv.a (Lv.a (Lv.b (A 60))))))) (K60_pr cal k) (K60_pxrl cal k) (doneK P results60)
noncomputable def E60_1 (cal : Cal) (k : Nat) : KR := codeE P cal (codeF P cal k) none 60 (cR (cL (cL (cR code60)))) (Lv.b (Lv.a (Lv.a (Lv.b (A 60))))) (K60_pr cal k) (K60_pxrl cal k) (doneK P results60)
noncomputable def B60_3 (cal : Cal) (k : Nat) (u25 : Value) (H : Hp) (n : Nat) : Res :=
ifK u25 (
some ((.int .i64 1), H, n)) (
some ((.int .i64 0), H, n))
noncomputable def C60_3 (cal : Cal) (k : Nat) (u25 : Value) (H : Hp) (n : Nat) : Res := B60_3 cal k u25 H n
theorem h60_3 (cal : Cal) (k : Nat) (u25 : Value) (H : Hp) (n : Nat) : labK (E60_3 cal k) (Tr.set Tr.nil 25 (some u25)) H n [] = C60_3 cal k u25 H n := by
  refine Eq.trans (b := B60_3 cal k u25 H n) (by kernel_rfl) ?_
  rw [C60_3]
noncomputable def B60_2 (cal : Cal) (k : Nat) (j3 : V1) (u1 u16 : Value) (H : Hp) (n : Nat) : Res :=
ifK u16 (
some ((.int .i64 1), H, n)) (
bindO (fieldAddrV P 35 u1 0) fun v_9 =>
bindO (addrV v_9) fun a_b => bindO (loadV P H 31 a_b) fun v_a =>
callFK P cal 91 [v_a, (Value.func (.func 92) #[] #[])] H n fun v_c H_d n_e =>
bindO (pureSem P v_c (Op.unary UnOp.not v_c)) fun v_f =>
ifK v_f (
j3 v_f H_d n_e) (
bindO (fieldAddrV P 35 u1 1) fun v_h =>
bindO (addrV v_h) fun a_j => bindO (loadV P H_d 32 a_j) fun v_i =>
bindO (addrV u1) fun a_l => bindO (loadV P H_d 35 a_l) fun v_k =>
callFK P cal 93 [v_i, (Value.func (Fn.func 94) ⟨[v_k]⟩ ⟨[]⟩)] H_d n_e fun v_n H_o n_p =>
bindO (pureSem P v_n (Op.unary UnOp.not v_n)) fun v_q =>
ifK v_q (
j3 v_q H_o n_p) (
bindO (fieldAddrV P 35 u1 2) fun v_s =>
bindO (addrV v_s) fun a_u => bindO (loadV P H_o 33 a_u) fun v_t =>
callFK P cal 95 [v_t, (Value.func (.func 96) #[] #[])] H_o n_p fun v_v H_w n_x =>
bindO (pureSem P v_v (Op.unary UnOp.not v_v)) fun v_y =>
j3 v_y H_w n_x)))
noncomputable def C60_2 (cal : Cal) (k : Nat) (u1 u16 : Value) (H : Hp) (n : Nat) : Res := B60_2 cal k (C60_3 cal k) u1 u16 H n
theorem h60_2 (cal : Cal) (k : Nat) (u1 u16 : Value) (H : Hp) (n : Nat) : labK (E60_2 cal k) (Tr.set (Tr.set Tr.nil 16 (some u16)) 1 (some u1)) H n [] = C60_2 cal k u1 u16 H n := by
  refine Eq.trans (b := B60_2 cal k (fun u25 H n => labK (E60_3 cal k) (Tr.set Tr.nil 25 (some u25)) H n []) u1 u16 H n) (by kernel_rfl) ?_
  rw [C60_2]
  have e3 : (fun u25 H n => labK (E60_3 cal k) (Tr.set Tr.nil 25 (some u25)) H n []) = (C60_3 cal k) := by funext u25 H n; exact h60_3 ..
  rw [e3]
noncomputable def B60_1 (cal : Cal) (k : Nat) (j2 : V2) (u1 u3 : Value) (H : Hp) (n : Nat) : Res :=
ifK u3 (
some ((.int .i64 3), H, n)) (
bindO (fieldAddrV P 35 u1 0) fun v_10 =>
bindO (addrV v_10) fun a_12 => bindO (loadV P H 31 a_12) fun v_11 =>
bindO (lenV P 31 v_11) fun v_13 =>
binK P .eql 3 (.tmp 19) (.const (.int .i64 0)) v_13 (.int .i64 0) fun v_14 =>
ifK v_14 (
j2 u1 v_14 H n) (
bindO (fieldAddrV P 35 u1 2) fun v_16 =>
bindO (addrV v_16) fun a_18 => bindO (loadV P H 33 a_18) fun v_17 =>
bindO (lenV P 33 v_17) fun v_19 =>
binK P .eql 3 (.tmp 23) (.const (.int .i64 0)) v_19 (.int .i64 0) fun v_1a =>
j2 u1 v_1a H n))
noncomputable def C60_1 (cal : Cal) (k : Nat) (u1 u3 : Value) (H : Hp) (n : Nat) : Res := B60_1 cal k (C60_2 cal k) u1 u3 H n
theorem h60_1 (cal : Cal) (k : Nat) (u1 u3 : Value) (H : Hp) (n : Nat) : labK (E60_1 cal k) (Tr.set (Tr.set Tr.nil 3 (some u3)) 1 (some u1)) H n [] = C60_1 cal k u1 u3 H n := by
  refine Eq.trans (b := B60_1 cal k (fun u1 u16 H n => labK (E60_2 cal k) (Tr.set (Tr.set Tr.nil 16 (some u16)) 1 (some u1)) H n []) u1 u3 H n) (by kernel_rfl) ?_
  rw [C60_1]
  have e2 : (fun u1 u16 H n => labK (E60_2 cal k) (Tr.set (Tr.set Tr.nil 16 (some u16)) 1 (some u1)) H n []) = (C60_2 cal k) := by funext u1 u16 H n; exact h60_2 ..
  rw [e2]
noncomputable def B60_0 (cal : Cal) (k : Nat) (j1 : V2) (v0 : Value) (H : Hp) (n : Nat) : Res :=
boxK 35 v0 H n fun v_1 H_2 n_3 =>
bindO (fieldAddrV P 35 v_1 0) fun v_1c =>
bindO (addrV v_1c) fun a_1e => bindO (loadV P H_2 31 a_1e) fun v_1d =>
bindO (lenV P 31 v_1d) fun v_1f =>
binK P .gtr 3 (.tmp 6) (.const (.int .i64 8)) v_1f (.int .i64 8) fun v_1g =>
ifK v_1g (
j1 v_1 v_1g H_2 n_3) (
bindO (fieldAddrV P 35 v_1 1) fun v_1i =>
bindO (addrV v_1i) fun a_1k => bindO (loadV P H_2 32 a_1k) fun v_1j =>
bindO (lenV P 32 v_1j) fun v_1l =>
binK P .gtr 3 (.tmp 10) (.const (.int .i64 16)) v_1l (.int .i64 16) fun v_1m =>
ifK v_1m (
j1 v_1 v_1m H_2 n_3) (
bindO (fieldAddrV P 35 v_1 2) fun v_1o =>
bindO (addrV v_1o) fun a_1q => bindO (loadV P H_2 33 a_1q) fun v_1p =>
bindO (lenV P 33 v_1p) fun v_1r =>
binK P .gtr 3 (.tmp 14) (.const (.int .i64 3)) v_1r (.int .i64 3) fun v_1s =>
j1 v_1 v_1s H_2 n_3))
noncomputable def C60_0 (cal : Cal) (k : Nat) (v0 : Value) (H : Hp) (n : Nat) : Res := B60_0 cal k (C60_1 cal k) v0 H n
theorem h60_0 (cal : Cal) (k : Nat) (v0 : Value) (H : Hp) (n : Nat) : bodyE P cal A (k + 1) 60 [v0] H n = C60_0 cal k v0 H n := by
  have h : bodyE P cal A (k + 1) 60 [v0] H n = B60_0 cal k (fun u1 u3 H n => labK (E60_1 cal k) (Tr.set (Tr.set Tr.nil 3 (some u3)) 1 (some u1)) H n []) v0 H n := by
    rw [body_eq (fn := Go.Proofs.Try.f60) (c := code60) (rs := results60) (by kernel_rfl) (by kernel_rfl) (by kernel_rfl) (by kernel_rfl)]
    kernel_rfl
  rw [h, C60_0]
  have e1 : (fun u1 u3 H n => labK (E60_1 cal k) (Tr.set (Tr.set Tr.nil 3 (some u3)) 1 (some u1)) H n []) = (C60_1 cal k) := by funext u1 u3 H n; exact h60_1 ..
  rw [e1]
noncomputable def code61 : Code := codeOf 61
noncomputable def results61 : List ResultVar := resOf 61
noncomputable def K61_p (cal : Cal) (k : Nat) : KR := (cutK (A 61).c (codeE P cal (codeF P cal k) none 61 (cR code61) (Lv.b (A 61)) (doneK P results61) X0 (doneK P results61)))
noncomputable def K61_pr (cal : Cal) (k : Nat) : KR := (cutK (Lv.b (A 61)).c (codeE P cal (codeF P cal k) none 61 (cR (cR code61)) (Lv.b (Lv.b (A 61))) (doneK P results61) X0 (doneK P results61)))
noncomputable def K61_prl (cal : Cal) (k : Nat) : KR := (cutK (Lv.a (Lv.b (A 61))).c (codeE P cal (codeF P cal k) none 61 (cR (cL (cR code61))) (Lv.b (Lv.a (Lv.b (A 61)))) (K61_pr cal k) X0 (doneK P results61)))
noncomputable def K61_prlr (cal : Cal) (k : Nat) : KR := (cutK (Lv.b (Lv.a (Lv.b (A 61)))).c (codeE P cal (codeF P cal k) none 61 (cR (cR (cL (cR code61)))) (Lv.b (Lv.b (Lv.a (Lv.b (A 61))))) (K61_pr cal k) X0 (doneK P results61)))
noncomputable def K61_prlrrl (cal : Cal) (k : Nat) : KR := (cutK (Lv.a (Lv.b (Lv.b (Lv.a (Lv.b (A 61)))))).c (codeE P cal (codeF P cal k) none 61 (cR (cL (cR (cR (cL (cR code61)))))) (Lv.b (Lv.a (Lv.b (Lv.b (Lv.a (Lv.b (A 61))))))) (K61_pr cal k) X0 (doneK P results61)))
noncomputable def K61_prr (cal : Cal) (k : Nat) : KR := (cutK (Lv.b (Lv.b (A 61))).c (codeE P cal (codeF P cal k) none 61 (cR (cR (cR code61))) (Lv.b (Lv.b (Lv.b (A 61)))) (doneK P results61) X0 (doneK P results61)))
noncomputable def K61_prrr (cal : Cal) (k : Nat) : KR := (cutK (Lv.b (Lv.b (Lv.b (A 61)))).c (codeE P cal (codeF P cal k) none 61 (cR (cR (cR (cR code61)))) (Lv.b (Lv.b (Lv.b (Lv.b (A 61))))) (doneK P results61) X0 (doneK P results61)))
noncomputable def K61_prrrl (cal : Cal) (k : Nat) : KR := (cutK (Lv.a (Lv.b (Lv.b (Lv.b (A 61))))).c (codeE P cal (codeF P cal k) none 61 (cR (cL (cR (cR (cR code61))))) (Lv.b (Lv.a (Lv.b (Lv.b (Lv.b (A 61)))))) (K61_prrr cal k) X0 (doneK P results61)))
noncomputable def K61_pxrrrlr (cal : Cal) (k : Nat) : XR := (upX 0 (K61_prrr cal k) X0)
noncomputable def K61_prrrlrl (cal : Cal) (k : Nat) (m1 : Nat) : KR := (fun T H n D => codeF P cal m1 (Lv.a (Lv.b (Lv.a (Lv.b (Lv.b (Lv.b (A 61))))))) none 61 (cL (cR (cL (cR (cR (cR code61)))))) (K61_prrr cal k) (K61_pxrrrlr cal k) (doneK P results61) (cutT (Lv.a (Lv.b (Lv.a (Lv.b (Lv.b (Lv.b (A 61))))))).c T) H n D)
noncomputable def K61_prrrlrll (cal : Cal) (k : Nat) (m1 : Nat) : KR := (cutK (Lv.a (Lv.a (Lv.b (Lv.a (Lv.b (Lv.b (Lv.b (A 61)))))))).c (codeE P cal (codeF P cal m1) none 61 (cR (cL (cL (cR (cL (cR (cR (cR code61)))))))) (Lv.b (Lv.a (Lv.a (Lv.b (Lv.a (Lv.b (Lv.b (Lv.b (A 61))))))))) (K61_prrrlrl cal k m1) (K61_pxrrrlr cal k) (doneK P results61)))
noncomputable def K61_prrrlrllr (cal : Cal) (k : Nat) (m1 : Nat) : KR := (cutK (Lv.b (Lv.a (Lv.a (Lv.b (Lv.a (Lv.b (Lv.b (Lv.b (A 61))))))))).c (codeE P cal (codeF P cal m1) none 61 (cR (cR (cL (cL (cR (cL (cR (cR (cR code61))))))))) (Lv.b (Lv.b (Lv.a (Lv.a (Lv.b (Lv.a (Lv.b (Lv.b (Lv.b (A 61)))))))))) (K61_prrrlrl cal k m1) (K61_pxrrrlr cal k) (doneK P results61)))
noncomputable def K61_prrrlrllrr (cal : Cal) (k : Nat) (m1 : Nat) : KR := (cutK (Lv.b (Lv.b (Lv.a (Lv.a (Lv.b (Lv.a (Lv.b (Lv.b (Lv.b (A 61)))))))))).c (codeE P cal (codeF P cal m1) none 61 (cR (cR (cR (cL (cL (cR (cL (cR (cR (cR code61)))))))))) (Lv.b (Lv.b (Lv.b (Lv.a (Lv.a (Lv.b (Lv.a (Lv.b (Lv.b (Lv.b (A 61))))))))))) (K61_prrrlrl cal k m1) (K61_pxrrrlr cal k) (doneK P results61)))
noncomputable def K61_pxrrrlrllrrl (cal : Cal) (k : Nat) (m1 : Nat) : XR := (upX 1 (K61_prrrlrllrr cal k m1) (K61_pxrrrlr cal k))
noncomputable def K61_prrrlrllrrll (cal : Cal) (k : Nat) (m1 : Nat) : KR := (cutK (Lv.a (Lv.a (Lv.b (Lv.b (Lv.a (Lv.a (Lv.b (Lv.a (Lv.b (Lv.b (Lv.b (A 61)))))))))))).c (codeE P cal (codeF P cal m1) none 61 (cR (cL (cL (cR (cR (cL (cL (cR (cL (cR (cR (cR code61)))))))))))) (Lv.b (Lv.a (Lv.a (Lv.b (Lv.b (Lv.a (Lv.a (Lv.b (Lv.a (Lv.b (Lv.b (Lv.b (A 61))))))))))))) (K61_prrrlrllrr cal k m1) (K61_pxrrrlrllrrl cal k m1) (doneK P results61)))
noncomputable def K61_prrrr (cal : Cal) (k : Nat) : KR := (cutK (Lv.b (Lv.b (Lv.b (Lv.b (A 61))))).c (codeE P cal (codeF P cal k) none 61 (cR (cR (cR (cR (cR code61))))) (Lv.b (Lv.b (Lv.b (Lv.b (Lv.b (A 61)))))) (doneK P results61) X0 (doneK P results61)))
noncomputable def K61_prrrrl (cal : Cal) (k : Nat) : KR := (cutK (Lv.a (Lv.b (Lv.b (Lv.b (Lv.b (A 61)))))).c (codeE P cal (codeF P cal k) none 61 (cR (cL (cR (cR (cR (cR code61)))))) (Lv.b (Lv.a (Lv.b (Lv.b (Lv.b (Lv.b (A 61))))))) (K61_prrrr cal k) X0 (doneK P results61)))
noncomputable def K61_pxrrrrlr (cal : Cal) (k : Nat) : XR := (upX 2 (K61_prrrr cal k) X0)
noncomputable def K61_prrrrlrl (cal : Cal) (k : Nat) (m1 : Nat) : KR := (fun T H n D => codeF P cal m1 (Lv.a (Lv.b (Lv.a (Lv.b (Lv.b (Lv.b (Lv.b (A 61)))))))) none 61 (cL (cR (cL (cR (cR (cR (cR code61))))))) (K61_prrrr cal k) (K61_pxrrrrlr cal k) (doneK P results61) (cutT (Lv.a (Lv.b (Lv.a (Lv.b (Lv.b (Lv.b (Lv.b (A 61)))))))).c T) H n D)
noncomputable def K61_prrrrlrll (cal : Cal) (k : Nat) (m1 : Nat) : KR := (cutK (Lv.a (Lv.a (Lv.b (Lv.a (Lv.b (Lv.b (Lv.b (Lv.b (A 61))))))))).c (codeE P cal (codeF P cal m1) none 61 (cR (cL (cL (cR (cL (cR (cR (cR (cR code61))))))))) (Lv.b (Lv.a (Lv.a (Lv.b (Lv.a (Lv.b (Lv.b (Lv.b (Lv.b (A 61)))))))))) (K61_prrrrlrl cal k m1) (K61_pxrrrrlr cal k) (doneK P results61)))
noncomputable def K61_prrrrlrllr (cal : Cal) (k : Nat) (m1 : Nat) : KR := (cutK (Lv.b (Lv.a (Lv.a (Lv.b (Lv.a (Lv.b (Lv.b (Lv.b (Lv.b (A 61)))))))))).c (codeE P cal (codeF P cal m1) none 61 (cR (cR (cL (cL (cR (cL (cR (cR (cR (cR code61)))))))))) (Lv.b (Lv.b (Lv.a (Lv.a (Lv.b (Lv.a (Lv.b (Lv.b (Lv.b (Lv.b (A 61))))))))))) (K61_prrrrlrl cal k m1) (K61_pxrrrrlr cal k) (doneK P results61)))
noncomputable def K61_prrrrlrllrr (cal : Cal) (k : Nat) (m1 : Nat) : KR := (cutK (Lv.b (Lv.b (Lv.a (Lv.a (Lv.b (Lv.a (Lv.b (Lv.b (Lv.b (Lv.b (A 61))))))))))).c (codeE P cal (codeF P cal m1) none 61 (cR (cR (cR (cL (cL (cR (cL (cR (cR (cR (cR code61))))))))))) (Lv.b (Lv.b (Lv.b (Lv.a (Lv.a (Lv.b (Lv.a (Lv.b (Lv.b (Lv.b (Lv.b (A 61)))))))))))) (K61_prrrrlrl cal k m1) (K61_pxrrrrlr cal k) (doneK P results61)))
noncomputable def K61_pxrrrrlrllrrl (cal : Cal) (k : Nat) (m1 : Nat) : XR := (upX 3 (K61_prrrrlrllrr cal k m1) (K61_pxrrrrlr cal k))
noncomputable def K61_prrrrlrllrrll (cal : Cal) (k : Nat) (m1 : Nat) : KR := (cutK (Lv.a (Lv.a (Lv.b (Lv.b (Lv.a (Lv.a (Lv.b (Lv.a (Lv.b (Lv.b (Lv.b (Lv.b (A 61))))))))))))).c (codeE P cal (codeF P cal m1) none 61 (cR (cL (cL (cR (cR (cL (cL (cR (cL (cR (cR (cR (cR code61))))))))))))) (Lv.b (Lv.a (Lv.a (Lv.b (Lv.b (Lv.a (Lv.a (Lv.b (Lv.a (Lv.b (Lv.b (Lv.b (Lv.b (A 61)))))))))))))) (K61_prrrrlrllrr cal k m1) (K61_pxrrrrlrllrrl cal k m1) (doneK P results61)))
noncomputable def K61_prrrrlrllrrllr (cal : Cal) (k : Nat) (m1 : Nat) : KR := (cutK (Lv.b (Lv.a (Lv.a (Lv.b (Lv.b (Lv.a (Lv.a (Lv.b (Lv.a (Lv.b (Lv.b (Lv.b (Lv.b (A 61)))))))))))))).c (codeE P cal (codeF P cal m1) none 61 (cR (cR (cL (cL (cR (cR (cL (cL (cR (cL (cR (cR (cR (cR code61)))))))))))))) (Lv.b (Lv.b (Lv.a (Lv.a (Lv.b (Lv.b (Lv.a (Lv.a (Lv.b (Lv.a (Lv.b (Lv.b (Lv.b (Lv.b (A 61))))))))))))))) (K61_prrrrlrllrr cal k m1) (K61_pxrrrrlrllrrl cal k m1) (doneK P results61)))
noncomputable def K61_pxrrrrlrllrrllrr (cal : Cal) (k : Nat) (m1 : Nat) : XR := (upX 4 (K61_prrrrlrllrr cal k m1) (K61_pxrrrrlrllrrl cal k m1))
noncomputable def K61_prrrrlrllrrllrrl (cal : Cal) (k : Nat) (m1 : Nat) (m2 : Nat) : KR := (fun T H n D => codeF P cal m2 (Lv.a (Lv.b (Lv.b (Lv.a (Lv.a (Lv.b (Lv.b (Lv.a (Lv.a (Lv.b (Lv.a (Lv.b (Lv.b (Lv.b (Lv.b (A 61)))))))))))))))) none 61 (cL (cR (cR (cL (cL (cR (cR (cL (cL (cR (cL (cR (cR (cR (cR code61))))))))))))))) (K61_prrrrlrllrr cal k m1) (K61_pxrrrrlrllrrllrr cal k m1) (doneK P results61) (cutT (Lv.a (Lv.b (Lv.b (Lv.a (Lv.a (Lv.b (Lv.b (Lv.a (Lv.a (Lv.b (Lv.a (Lv.b (Lv.b (Lv.b (Lv.b (A 61)))))))))))))))).c T) H n D)
noncomputable def K61_prrrrlrllrrllrrll (cal : Cal) (k : Nat) (m1 : Nat) (m2 : Nat) : KR := (cutK (Lv.a (Lv.a (Lv.b (Lv.b (Lv.a (Lv.a (Lv.b (Lv.b (Lv.a (Lv.a (Lv.b (Lv.a (Lv.b (Lv.b (Lv.b (Lv.b (A 61))))))))))))))))).c (codeE P cal (codeF P cal m2) none 61 (cR (cL (cL (cR (cR (cL (cL (cR (cR (cL (cL (cR (cL (cR (cR (cR (cR code61))))))))))))))))) (Lv.b (Lv.a (Lv.a (Lv.b (Lv.b (Lv.a (Lv.a (Lv.b (Lv.b (Lv.a (Lv.a (Lv.b (Lv.a (Lv.b (Lv.b (Lv.b (Lv.b (A 61)))))))))))))))))) (K61_prrrrlrllrrllrrl cal k m1 m2) (K61_pxrrrrlrllrrllrr cal k m1) (doneK P results61)))
noncomputable def K61_prrrrlrllrrllrrllr (cal : Cal) (k : Nat) (m1 : Nat) (m2 : Nat) : KR := (cutK (Lv.b (Lv.a (Lv.a (Lv.b (Lv.b (Lv.a (Lv.a (Lv.b (Lv.b (Lv.a (Lv.a (Lv.b (Lv.a (Lv.b (Lv.b (Lv.b (Lv.b (A 61)))))))))))))))))).c (codeE P cal (codeF P cal m2) none 61 (cR (cR (cL (cL (cR (cR (cL (cL (cR (cR (cL (cL (cR (cL (cR (cR (cR (cR code61)))))))))))))))))) (Lv.b (Lv.b (Lv.a (Lv.a (Lv.b (Lv.b (Lv.a (Lv.a (Lv.b (Lv.b (Lv.a (Lv.a (Lv.b (Lv.a (Lv.b (Lv.b (Lv.b (Lv.b (A 61))))))))))))))))))) (K61_prrrrlrllrrllrrl cal k m1 m2) (K61_pxrrrrlrllrrllrr cal k m1) (doneK P results61)))
noncomputable def K61_prrrrlrllrrllrrllrr (cal : Cal) (k : Nat) (m1 : Nat) (m2 : Nat) : KR := (cutK (Lv.b (Lv.b (Lv.a (Lv.a (Lv.b (Lv.b (Lv.a (Lv.a (Lv.b (Lv.b (Lv.a (Lv.a (Lv.b (Lv.a (Lv.b (Lv.b (Lv.b (Lv.b (A 61))))))))))))))))))).c (codeE P cal (codeF P cal m2) none 61 (cR (cR (cR (cL (cL (cR (cR (cL (cL (cR (cR (cL (cL (cR (cL (cR (cR (cR (cR code61))))))))))))))))))) (Lv.b (Lv.b (Lv.b (Lv.a (Lv.a (Lv.b (Lv.b (Lv.a (Lv.a (Lv.b (Lv.b (Lv.a (Lv.a (Lv.b (Lv.a (Lv.b (Lv.b (Lv.b (Lv.b (A 61)))))))))))))))))))) (K61_prrrrlrllrrllrrl cal k m1 m2) (K61_pxrrrrlrllrrllrr cal k m1) (doneK P results61)))
noncomputable def K61_pxrrrrlrllrrllrrllrrl (cal : Cal) (k : Nat) (m1 : Nat) (m2 : Nat) : XR := (upX 5 (K61_prrrrlrllrrllrrllrr cal k m1 m2) (K61_pxrrrrlrllrrllrr cal k m1))
noncomputable def K61_prrrrlrllrrllrrllrrll (cal : Cal) (k : Nat) (m1 : Nat) (m2 : Nat) : KR := (cutK (Lv.a (Lv.a (Lv.b (Lv.b (Lv.a (Lv.a (Lv.b (Lv.b (Lv.a (Lv.a (Lv.b (Lv.b (Lv.a (Lv.a (Lv.b (Lv.a (Lv.b (Lv.b (Lv.b (Lv.b (A 61))))))))))))))))))))).c (codeE P cal (codeF P cal m2) none 61 (cR (cL (cL (cR (cR (cL (cL (cR (cR (cL (cL (cR (cR (cL (cL (cR (cL (cR (cR (cR (cR code61))))))))))))))))))))) (Lv.b (Lv.a (Lv.a (Lv.b (Lv.b (Lv.a (Lv.a (Lv.b (Lv.b (Lv.a (Lv.a (Lv.b (Lv.b (Lv.a (Lv.a (Lv.b (Lv.a (Lv.b (Lv.b (Lv.b (Lv.b (A 61)))))))))))))))))))))) (K61_prrrrlrllrrllrrllrr cal k m1 m2) (K61_pxrrrrlrllrrllrrllrrl cal k m1 m2) (doneK P results61)))
noncomputable def K61_prrrrr (cal : Cal) (k : Nat) : KR := (cutK (Lv.b (Lv.b (Lv.b (Lv.b (Lv.b (A 61)))))).c (codeE P cal (codeF P cal k) none 61 (cR (cR (cR (cR (cR (cR code61)))))) (Lv.b (Lv.b (Lv.b (Lv.b (Lv.b (Lv.b (A 61))))))) (doneK P results61) X0 (doneK P results61)))
noncomputable def E61_3 (cal : Cal) (k m1 m2 : Nat) : KR := codeE P cal (codeF P cal m2) none 61 (cL (cL (cR (cR (cL (cL (cR (cR (cL (cL (cR (cL (cR (cR (cR (cR code61)))))))))))))))) (Lv.a (Lv.a (Lv.b (Lv.b (Lv.a (Lv.a (Lv.b (Lv.b (Lv.a (Lv.a (Lv.b (Lv.a (Lv.b (Lv.b (Lv.b (Lv.b (A 61))))))))))))))))) (K61_prrrrlrllrrllrrl cal k m1 m2) (K61_pxrrrrlrllrrllrr cal k m1) (doneK P results61)
noncomputable def R61_3 (cal : Cal) (k m1 m2 : Nat) : V7 := fun u5 u8 u53 u54 u61 u62 u63 H n => codeF P cal m2 (Lv.a (Lv.b (Lv.b (Lv.a (Lv.a (Lv.b (Lv.b (Lv.a (Lv.a (Lv.b (Lv.a (Lv.b (Lv.b (Lv.b (Lv.b (A 61)))))))))))))))) none 61 (cL (cR (cR (cL (cL (cR (cR (cL (cL (cR (cL (cR (cR (cR (cR code61))))))))))))))) (K61_prrrrlrllrr cal k m1) (K61_pxrrrrlrllrrllrr cal k m1) (doneK P results61) (Tr.set (Tr.set (Tr.set (Tr.set (Tr.set (Tr.set (Tr.set Tr.nil 63 (some u63)) 62 (some u62)) 61 (some u61)) 54 (some u54)) 53 (some u53)) 8 (some u8)) 5 (some u5)) H n []
noncomputable def E61_2 (cal : Cal) (k m1 : Nat) : KR := codeE P cal (codeF P cal m1) none 61 (cL (cL (cR (cL (cR (cR (cR (cR code61)))))))) (Lv.a (Lv.a (Lv.b (Lv.a (Lv.b (Lv.b (Lv.b (Lv.b (A 61))))))))) (K61_prrrrlrl cal k m1) (K61_pxrrrrlr cal k) (doneK P results61)
noncomputable def R61_2 (cal : Cal) (k m1 : Nat) : V3 := fun u5 u53 u54 H n => codeF P cal m1 (Lv.a (Lv.b (Lv.a (Lv.b (Lv.b (Lv.b (Lv.b (A 61)))))))) none 61 (cL (cR (cL (cR (cR (cR (cR code61))))))) (K61_prrrr cal k) (K61_pxrrrrlr cal k) (doneK P results61) (Tr.set (Tr.set (Tr.set Tr.nil 54 (some u54)) 53 (some u53)) 5 (some u5)) H n []
noncomputable def E61_1 (cal : Cal) (k m1 : Nat) : KR := codeE P cal (codeF P cal m1) none 61 (cL (cL (cR (cL (cR (cR (cR code61))))))) (Lv.a (Lv.a (Lv.b (Lv.a (Lv.b (Lv.b (Lv.b (A 61)))))))) (K61_prrrlrl cal k m1) (K61_pxrrrlr cal k) (doneK P results61)
noncomputable def R61_1 (cal : Cal) (k m1 : Nat) : V4 := fun u5 u23 u24 u25 H n => codeF P cal m1 (Lv.a (Lv.b (Lv.a (Lv.b (Lv.b (Lv.b (A 61))))))) none 61 (cL (cR (cL (cR (cR (cR code61)))))) (K61_prrr cal k) (K61_pxrrrlr cal k) (doneK P results61) (Tr.set (Tr.set (Tr.set (Tr.set Tr.nil 25 (some u25)) 24 (some u24)) 23 (some u23)) 5 (some u5)) H n []
noncomputable def B61_3 (cal : Cal) (k m1 m2 : Nat) (b2 : V3) (b3 : V7) (u5 u8 u53 u54 u61 u62 u63 : Value) (H : Hp) (n : Nat) : Res :=
binK P .lss 3 (.tmp 63) (.tmp 62) u63 u62 fun v_2m =>
ifK v_2m (
bindO (indexAddrV P 33 u61 u63) fun v_2o =>
bindO (addrV v_2o) fun a_2q => bindO (loadV P H 86 a_2q) fun v_2p =>
allocK P 86 H n fun v_2r H_2s n_2t =>
bindO (storeP P 86 v_2r v_2p H_2s) fun H_2w =>
bindO (addrV v_2r) fun a_32 => bindO (loadV P H_2w 86 a_32) fun v_33 =>
bindO (nilV u5) fun v_34 =>
bindO (fieldAddrV P 117 v_34 2) fun v_35 =>
bindO (indexAddrV P 115 v_35 u8) fun v_36 =>
callFK P cal 97 [u5, u8, v_33] H_2w n_2t fun v_37 H_38 n_39 =>
bindO (indexAddrV P 114 v_36 u63) fun v_3a =>
bindO (storeP P 113 v_3a v_37 H_38) fun H_3c =>
binK P .add 3 (.tmp 63) (.const (.int .i64 1)) u63 (.int .i64 1) fun v_3d =>
b3 u5 u8 u53 u54 u61 u62 v_3d H_3c n_39) (
binK P .add 3 (.tmp 54) (.const (.int .i64 1)) u54 (.int .i64 1) fun v_3f =>
b2 u5 u53 v_3f H n)
noncomputable def C61_3 (cal : Cal) (k m1 m2 : Nat) (b2 : V3) (b3 : V7) (u5 u8 u53 u54 u61 u62 u63 : Value) (H : Hp) (n : Nat) : Res := B61_3 cal k m1 m2 b2 b3 u5 u8 u53 u54 u61 u62 u63 H n
noncomputable def S61_3 (cal : Cal) (k m1 : Nat) (b2 : V3) : Nat → V7 := fun m => Nat.rec (motive := fun _ => V7) (C61_3 cal k m1 0 b2 (fun _ _ _ _ _ _ _ _ _ => none)) (fun m ih => C61_3 cal k m1 (m + 1) b2 ih) m
theorem h61_3 (cal : Cal) (k m1 m2 : Nat) (u5 u8 u53 u54 u61 u62 u63 : Value) (H : Hp) (n : Nat) : labK (E61_3 cal k m1 m2) (Tr.set (Tr.set (Tr.set (Tr.set (Tr.set (Tr.set (Tr.set Tr.nil 63 (some u63)) 62 (some u62)) 61 (some u61)) 54 (some u54)) 53 (some u53)) 8 (some u8)) 5 (some u5)) H n [] = C61_3 cal k m1 m2 (R61_2 cal k m1) (R61_3 cal k m1 m2) u5 u8 u53 u54 u61 u62 u63 H n := by
  refine Eq.trans (b := B61_3 cal k m1 m2 (R61_2 cal k m1) (R61_3 cal k m1 m2) u5 u8 u53 u54 u61 u62 u63 H n) (by kernel_rfl) ?_
  rw [C61_3]
theorem q61_3 (cal : Cal) (k m1 : Nat) : ∀ (m : Nat) (u5 u8 u53 u54 u61 u62 u63 : Value) (H : Hp) (n : Nat), labK (E61_3 cal k m1 m) (Tr.set (Tr.set (Tr.set (Tr.set (Tr.set (Tr.set (Tr.set Tr.nil 63 (some u63)) 62 (some u62)) 61 (some u61)) 54 (some u54)) 53 (some u53)) 8 (some u8)) 5 (some u5)) H n [] = S61_3 cal k m1 (R61_2 cal k m1) m u5 u8 u53 u54 u61 u62 u63 H n
  | 0, u5, u8, u53, u54, u61, u62, u63, H, n => by
    rw [h61_3]
    have e : R61_3 cal k m1 0 = fun _ _ _ _ _ _ _ _ _ => none := by funext u5 u8 u53 u54 u61 u62 u63 H n; kernel_rfl
    rw [e]; rfl
  | m + 1, u5, u8, u53, u54, u61, u62, u63, H, n => by
    rw [h61_3]
    have e : R61_3 cal k m1 (m + 1) = S61_3 cal k m1 (R61_2 cal k m1) m := by
      funext u5 u8 u53 u54 u61 u62 u63 H n
      have e : R61_3 cal k m1 (m + 1) u5 u8 u53 u54 u61 u62 u63 H n = labK (E61_3 cal k m1 m) (Tr.set (Tr.set (Tr.set (Tr.set (Tr.set (Tr.set (Tr.set Tr.nil 63 (some u63)) 62 (some u62)) 61 (some u61)) 54 (some u54)) 53 (some u53)) 8 (some u8)) 5 (some u5)) H n [] := by kernel_rfl
      rw [e]; exact q61_3 ..
    rw [e]; rfl
noncomputable def B61_2 (cal : Cal) (k m1 : Nat) (j3 : V7) (b2 : V3) (u5 u53 u54 : Value) (H : Hp) (n : Nat) : Res :=
binK P .lss 3 (.tmp 54) (.tmp 53) u54 u53 fun v_2b =>
ifK v_2b (
bindO (nilV u5) fun v_2f =>
bindO (fieldAddrV P 117 v_2f 0) fun v_2g =>
bindO (fieldAddrV P 35 v_2g 2) fun v_2h =>
bindO (addrV v_2h) fun a_2j => bindO (loadV P H 33 a_2j) fun v_2i =>
bindO (lenV P 33 v_2i) fun v_2k =>
j3 u5 u54 u53 u54 v_2i v_2k (.int .i64 0) H n) (
some ((Value.tuple ⟨[u5, (.int .i64 0)]⟩), H, n))
noncomputable def C61_2 (cal : Cal) (k m1 : Nat) (b2 : V3) (u5 u53 u54 : Value) (H : Hp) (n : Nat) : Res := B61_2 cal k m1 (S61_3 cal k m1 b2 m1) b2 u5 u53 u54 H n
noncomputable def S61_2 (cal : Cal) (k : Nat) : Nat → V3 := fun m => Nat.rec (motive := fun _ => V3) (C61_2 cal k 0 (fun _ _ _ _ _ => none)) (fun m ih => C61_2 cal k (m + 1) ih) m
theorem h61_2 (cal : Cal) (k m1 : Nat) (u5 u53 u54 : Value) (H : Hp) (n : Nat) : labK (E61_2 cal k m1) (Tr.set (Tr.set (Tr.set Tr.nil 54 (some u54)) 53 (some u53)) 5 (some u5)) H n [] = C61_2 cal k m1 (R61_2 cal k m1) u5 u53 u54 H n := by
  refine Eq.trans (b := B61_2 cal k m1 (fun u5 u8 u53 u54 u61 u62 u63 H n => labK (E61_3 cal k m1 m1) (Tr.set (Tr.set (Tr.set (Tr.set (Tr.set (Tr.set (Tr.set Tr.nil 63 (some u63)) 62 (some u62)) 61 (some u61)) 54 (some u54)) 53 (some u53)) 8 (some u8)) 5 (some u5)) H n []) (R61_2 cal k m1) u5 u53 u54 H n) (by kernel_rfl) ?_
  rw [C61_2]
  have e3 : (fun u5 u8 u53 u54 u61 u62 u63 H n => labK (E61_3 cal k m1 m1) (Tr.set (Tr.set (Tr.set (Tr.set (Tr.set (Tr.set (Tr.set Tr.nil 63 (some u63)) 62 (some u62)) 61 (some u61)) 54 (some u54)) 53 (some u53)) 8 (some u8)) 5 (some u5)) H n []) = (S61_3 cal k m1 (R61_2 cal k m1) m1) := by funext u5 u8 u53 u54 u61 u62 u63 H n; exact q61_3 ..
  rw [e3]
theorem q61_2 (cal : Cal) (k : Nat) : ∀ (m : Nat) (u5 u53 u54 : Value) (H : Hp) (n : Nat), labK (E61_2 cal k m) (Tr.set (Tr.set (Tr.set Tr.nil 54 (some u54)) 53 (some u53)) 5 (some u5)) H n [] = S61_2 cal k m u5 u53 u54 H n
  | 0, u5, u53, u54, H, n => by
    rw [h61_2]
    have e : R61_2 cal k 0 = fun _ _ _ _ _ => none := by funext u5 u53 u54 H n; kernel_rfl
    rw [e]; rfl
  | m + 1, u5, u53, u54, H, n => by
    rw [h61_2]
    have e : R61_2 cal k (m + 1) = S61_2 cal k m := by
      funext u5 u53 u54 H n
      have e : R61_2 cal k (m + 1) u5 u53 u54 H n = labK (E61_2 cal k m) (Tr.set (Tr.set (Tr.set Tr.nil 54 (some u54)) 53 (some u53)) 5 (some u5)) H n [] := by kernel_rfl
      rw [e]; exact q61_2 ..
    rw [e]; rfl
noncomputable def B61_1 (cal : Cal) (k m1 : Nat) (j2 : V3) (b1 : V4) (u5 u23 u24 u25 : Value) (H : Hp) (n : Nat) : Res :=
binK P .lss 3 (.tmp 25) (.tmp 24) u25 u24 fun v_w =>
ifK v_w (
bindO (indexAddrV P 32 u23 u25) fun v_x =>
bindO (addrV v_x) fun a_z => bindO (loadV P H 88 a_z) fun v_y =>
allocK P 88 H n fun v_10 H_11 n_12 =>
bindO (storeP P 88 v_10 v_y H_11) fun H_14 =>
bindO (fieldAddrV P 88 v_10 0) fun v_16 =>
bindO (addrV v_16) fun a_17 => bindO (loadV P H_14 3 a_17) fun v_18 =>
bindO (fieldAddrV P 88 v_10 1) fun v_19 =>
bindO (addrV v_19) fun a_1a => bindO (loadV P H_14 3 a_1a) fun v_1b =>
bindO (fieldAddrV P 88 v_10 1) fun v_1d =>
bindO (addrV v_1d) fun a_1e => bindO (loadV P H_14 3 a_1e) fun v_1f =>
bindO (fieldAddrV P 88 v_10 0) fun v_1g =>
bindO (addrV v_1g) fun a_1h => bindO (loadV P H_14 3 a_1h) fun v_1i =>
bindO (nilV u5) fun v_1j =>
bindO (fieldAddrV P 117 v_1j 1) fun v_1k =>
bindO (indexAddrV P 109 v_1k v_18) fun v_1l =>
bindO (indexAddrV P 108 v_1l v_1b) fun v_1m =>
bindO (nilV u5) fun v_1n =>
bindO (fieldAddrV P 117 v_1n 1) fun v_1o =>
bindO (indexAddrV P 109 v_1o v_1f) fun v_1p =>
effK P [(.l 3 a_1h), (.l 3 a_1e)] H_14 n_12 (fun H_1q n_1r k_1s =>
bindO (storeP P 4 v_1m (.bool true) H_1q) fun H_1x =>
k_1s undef H_1x n_1r) fun v_1t H_1u n_1v =>
bindO (indexAddrV P 108 v_1p v_1i) fun v_1y =>
bindO (storeP P 4 v_1y (.bool true) H_1u) fun H_20 =>
binK P .add 3 (.tmp 25) (.const (.int .i64 1)) u25 (.int .i64 1) fun v_21 =>
b1 u5 u23 u24 v_21 H_20 n_1v) (
bindO (nilV u5) fun v_24 =>
bindO (fieldAddrV P 117 v_24 0) fun v_25 =>
bindO (fieldAddrV P 35 v_25 0) fun v_26 =>
bindO (addrV v_26) fun a_28 => bindO (loadV P H 31 a_28) fun v_27 =>
bindO (lenV P 31 v_27) fun v_29 =>
j2 u5 v_29 (.int .i64 0) H n)
noncomputable def C61_1 (cal : Cal) (k m1 : Nat) (b1 : V4) (u5 u23 u24 u25 : Value) (H : Hp) (n : Nat) : Res := B61_1 cal k m1 (S61_2 cal k k) b1 u5 u23 u24 u25 H n
noncomputable def S61_1 (cal : Cal) (k : Nat) : Nat → V4 := fun m => Nat.rec (motive := fun _ => V4) (C61_1 cal k 0 (fun _ _ _ _ _ _ => none)) (fun m ih => C61_1 cal k (m + 1) ih) m
theorem h61_1 (cal : Cal) (k m1 : Nat) (u5 u23 u24 u25 : Value) (H : Hp) (n : Nat) : labK (E61_1 cal k m1) (Tr.set (Tr.set (Tr.set (Tr.set Tr.nil 25 (some u25)) 24 (some u24)) 23 (some u23)) 5 (some u5)) H n [] = C61_1 cal k m1 (R61_1 cal k m1) u5 u23 u24 u25 H n := by
  refine Eq.trans (b := B61_1 cal k m1 (fun u5 u53 u54 H n => labK (E61_2 cal k k) (Tr.set (Tr.set (Tr.set Tr.nil 54 (some u54)) 53 (some u53)) 5 (some u5)) H n []) (R61_1 cal k m1) u5 u23 u24 u25 H n) (by kernel_rfl) ?_
  rw [C61_1]
  have e2 : (fun u5 u53 u54 H n => labK (E61_2 cal k k) (Tr.set (Tr.set (Tr.set Tr.nil 54 (some u54)) 53 (some u53)) 5 (some u5)) H n []) = (S61_2 cal k k) := by funext u5 u53 u54 H n; exact q61_2 ..
  rw [e2]
theorem q61_1 (cal : Cal) (k : Nat) : ∀ (m : Nat) (u5 u23 u24 u25 : Value) (H : Hp) (n : Nat), labK (E61_1 cal k m) (Tr.set (Tr.set (Tr.set (Tr.set Tr.nil 25 (some u25)) 24 (some u24)) 23 (some u23)) 5 (some u5)) H n [] = S61_1 cal k m u5 u23 u24 u25 H n
  | 0, u5, u23, u24, u25, H, n => by
    rw [h61_1]
    have e : R61_1 cal k 0 = fun _ _ _ _ _ _ => none := by funext u5 u23 u24 u25 H n; kernel_rfl
    rw [e]; rfl
  | m + 1, u5, u23, u24, u25, H, n => by
    rw [h61_1]
    have e : R61_1 cal k (m + 1) = S61_1 cal k m := by
      funext u5 u23 u24 u25 H n
      have e : R61_1 cal k (m + 1) u5 u23 u24 u25 H n = labK (E61_1 cal k m) (Tr.set (Tr.set (Tr.set (Tr.set Tr.nil 25 (some u25)) 24 (some u24)) 23 (some u23)) 5 (some u5)) H n [] := by kernel_rfl
      rw [e]; exact q61_1 ..
    rw [e]; rfl
noncomputable def B61_0 (cal : Cal) (k : Nat) (j1 : V4) (v0 : Value) (H : Hp) (n : Nat) : Res :=
boxK 35 v0 H n fun v_1 H_2 n_3 =>
bindO (addrV v_1) fun a_7 => bindO (loadV P H_2 35 a_7) fun v_6 =>
callFK P cal 60 [v_6] H_2 n_3 fun v_8 H_9 n_a =>
binK P .neq 29 (.tmp 13) (.const (.int .i64 0)) v_8 (.int .i64 0) fun v_d =>
ifK v_d (
some ((Value.tuple ⟨[(.pointer none), v_8]⟩), H_9, n_a)) (
bindO (addrV v_1) fun a_i => bindO (loadV P H_9 35 a_i) fun v_h =>
bindO (buildP P 117 [(0, v_h)]) fun v_j =>
boxK 117 v_j H_9 n_a fun v_k H_l n_m =>
bindO (nilV v_k) fun v_p =>
bindO (fieldAddrV P 117 v_p 0) fun v_q =>
bindO (fieldAddrV P 35 v_q 1) fun v_r =>
bindO (addrV v_r) fun a_t => bindO (loadV P H_l 32 a_t) fun v_s =>
bindO (lenV P 32 v_s) fun v_u =>
j1 v_k v_s v_u (.int .i64 0) H_l n_m)
noncomputable def C61_0 (cal : Cal) (k : Nat) (v0 : Value) (H : Hp) (n : Nat) : Res := B61_0 cal k (S61_1 cal k k) v0 H n
theorem h61_0 (cal : Cal) (k : Nat) (v0 : Value) (H : Hp) (n : Nat) : bodyE P cal A (k + 1) 61 [v0] H n = C61_0 cal k v0 H n := by
  have h : bodyE P cal A (k + 1) 61 [v0] H n = B61_0 cal k (fun u5 u23 u24 u25 H n => labK (E61_1 cal k k) (Tr.set (Tr.set (Tr.set (Tr.set Tr.nil 25 (some u25)) 24 (some u24)) 23 (some u23)) 5 (some u5)) H n []) v0 H n := by
    rw [body_eq (fn := Go.Proofs.Try.f61) (c := code61) (rs := results61) (by kernel_rfl) (by kernel_rfl) (by kernel_rfl) (by kernel_rfl)]
    kernel_rfl
  rw [h, C61_0]
  have e1 : (fun u5 u23 u24 u25 H n => labK (E61_1 cal k k) (Tr.set (Tr.set (Tr.set (Tr.set Tr.nil 25 (some u25)) 24 (some u24)) 23 (some u23)) 5 (some u5)) H n []) = (S61_1 cal k k) := by funext u5 u23 u24 u25 H n; exact q61_1 ..
  rw [e1]
noncomputable def code62 : Code := codeOf 62
noncomputable def results62 : List ResultVar := resOf 62
noncomputable def K62_p (cal : Cal) (k : Nat) : KR := (cutK (A 62).c (codeE P cal (codeF P cal k) none 62 (cR code62) (Lv.b (A 62)) (doneK P results62) X0 (doneK P results62)))
noncomputable def K62_pr (cal : Cal) (k : Nat) : KR := (cutK (Lv.b (A 62)).c (codeE P cal (codeF P cal k) none 62 (cR (cR code62)) (Lv.b (Lv.b (A 62))) (doneK P results62) X0 (doneK P results62)))
noncomputable def B62_0 (cal : Cal) (k : Nat) (v0 : Value) (H : Hp) (n : Nat) : Res :=
boxK 113 v0 H n fun v_1 H_2 n_3 =>
bindO (addrV v_1) fun a_5 => bindO (loadV P H_2 113 a_5) fun v_6 =>
bindO (addrV v_1) fun a_7 => bindO (loadV P H_2 113 a_7) fun v_8 =>
bindO (fieldAddrV P 113 v_1 0) fun v_9 =>
bindO (addrV v_9) fun a_a => bindO (loadV P H_2 3 a_a) fun v_b =>
effK P [(.l 3 a_a), (.l 113 a_7)] H_2 n_3 (fun H_c n_d k_e =>
callFK P cal 98 [v_6, (Value.func (.func 72) #[] #[])] H_c n_d fun v_i H_j n_k =>
k_e v_i H_j n_k) fun v_f H_g n_h =>
effK P [(.l 3 a_a)] H_g n_h (fun H_l n_m k_n =>
callFK P cal 98 [v_8, (Value.func (.func 73) #[] #[])] H_l n_m fun v_r H_s n_t =>
k_n v_r H_s n_t) fun v_o H_p n_q =>
bindO (buildP P 53 [(0, v_f), (1, v_o)]) fun v_u =>
callFK P cal 99 [v_u, v_b] H_p n_q fun v_v H_w n_x =>
some (v_v, H_w, n_x)
noncomputable def C62_0 (cal : Cal) (k : Nat) (v0 : Value) (H : Hp) (n : Nat) : Res := B62_0 cal k v0 H n
theorem h62_0 (cal : Cal) (k : Nat) (v0 : Value) (H : Hp) (n : Nat) : bodyE P cal A (k + 1) 62 [v0] H n = C62_0 cal k v0 H n := by
  have h : bodyE P cal A (k + 1) 62 [v0] H n = B62_0 cal k v0 H n := by
    rw [body_eq (fn := Go.Proofs.Try.f62) (c := code62) (rs := results62) (by kernel_rfl) (by kernel_rfl) (by kernel_rfl) (by kernel_rfl)]
    kernel_rfl
  rw [h, C62_0]
end Go.Proofs.Ytgojjellogiglaa.G
