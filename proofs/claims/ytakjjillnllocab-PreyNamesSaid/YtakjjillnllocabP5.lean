/- The texts of functions, each with the proof that the evaluator says the same. -/
import Derived.Test.YtakjjillnllocabP1
open Go Go.Ev
set_option maxRecDepth 1000000
set_option linter.unusedVariables false
noncomputable section
namespace Go.Proofs.Ytakjjillnllocab.P
noncomputable def code47 : Code := codeOf 47
noncomputable def results47 : List ResultVar := resOf 47
noncomputable def K47_p (cal : Cal) (k : Nat) : KC (Value × Hp × Nat) := (cutK (A 47).c (codeE P cal (codeF P cal k) none 47 (cR code47) (Lv.b (A 47)) (doneK P results47) X0 (doneK P results47)))
noncomputable def K47_pr (cal : Cal) (k : Nat) : KC (Value × Hp × Nat) := (cutK (Lv.b (A 47)).c (codeE P cal (codeF P cal k) none 47 (cR (cR code47)) (Lv.b (Lv.b (A 47))) (doneK P results47) X0 (doneK P results47)))
noncomputable def K47_prr (cal : Cal) (k : Nat) : KC (Value × Hp × Nat) := (cutK (Lv.b (Lv.b (A 47))).c (codeE P cal (codeF P cal k) none 47 (cR (cR (cR code47))) (Lv.b (Lv.b (Lv.b (A 47)))) (doneK P results47) X0 (doneK P results47)))
noncomputable def K47_prrr (cal : Cal) (k : Nat) : KC (Value × Hp × Nat) := (cutK (Lv.b (Lv.b (Lv.b (A 47)))).c (codeE P cal (codeF P cal k) none 47 (cR (cR (cR (cR code47)))) (Lv.b (Lv.b (Lv.b (Lv.b (A 47))))) (doneK P results47) X0 (doneK P results47)))
noncomputable def K47_prrrl (cal : Cal) (k : Nat) : KC (Value × Hp × Nat) := (cutK (Lv.a (Lv.b (Lv.b (Lv.b (A 47))))).c (codeE P cal (codeF P cal k) none 47 (cR (cL (cR (cR (cR code47))))) (Lv.b (Lv.a (Lv.b (Lv.b (Lv.b (A 47)))))) (K47_prrr cal k) X0 (doneK P results47)))
noncomputable def K47_prrrlrl (cal : Cal) (k : Nat) : KC (Value × Hp × Nat) := (cutK (Lv.a (Lv.b (Lv.a (Lv.b (Lv.b (Lv.b (A 47))))))).c (codeE P cal (codeF P cal k) none 47 (cR (cL (cR (cL (cR (cR (cR code47))))))) (Lv.b (Lv.a (Lv.b (Lv.a (Lv.b (Lv.b (Lv.b (A 47)))))))) (K47_prrr cal k) X0 (doneK P results47)))
noncomputable def K47_prrrlrll (cal : Cal) (k : Nat) : KC (Value × Hp × Nat) := (cutK (Lv.a (Lv.a (Lv.b (Lv.a (Lv.b (Lv.b (Lv.b (A 47)))))))).c (codeE P cal (codeF P cal k) none 47 (cR (cL (cL (cR (cL (cR (cR (cR code47)))))))) (Lv.b (Lv.a (Lv.a (Lv.b (Lv.a (Lv.b (Lv.b (Lv.b (A 47))))))))) (K47_prrrlrl cal k) X0 (doneK P results47)))
noncomputable def K47_prrrlrllrl (cal : Cal) (k : Nat) : KC (Value × Hp × Nat) := (cutK (Lv.a (Lv.b (Lv.a (Lv.a (Lv.b (Lv.a (Lv.b (Lv.b (Lv.b (A 47)))))))))).c (codeE P cal (codeF P cal k) none 47 (cR (cL (cR (cL (cL (cR (cL (cR (cR (cR code47)))))))))) (Lv.b (Lv.a (Lv.b (Lv.a (Lv.a (Lv.b (Lv.a (Lv.b (Lv.b (Lv.b (A 47))))))))))) (K47_prrrlrl cal k) X0 (doneK P results47)))
noncomputable def K47_prrrlrlr (cal : Cal) (k : Nat) : KC (Value × Hp × Nat) := (cutK (Lv.b (Lv.a (Lv.b (Lv.a (Lv.b (Lv.b (Lv.b (A 47)))))))).c (codeE P cal (codeF P cal k) none 47 (cR (cR (cL (cR (cL (cR (cR (cR code47)))))))) (Lv.b (Lv.b (Lv.a (Lv.b (Lv.a (Lv.b (Lv.b (Lv.b (A 47))))))))) (K47_prrr cal k) X0 (doneK P results47)))
noncomputable def K47_prrrr (cal : Cal) (k : Nat) : KC (Value × Hp × Nat) := (cutK (Lv.b (Lv.b (Lv.b (Lv.b (A 47))))).c (codeE P cal (codeF P cal k) none 47 (cR (cR (cR (cR (cR code47))))) (Lv.b (Lv.b (Lv.b (Lv.b (Lv.b (A 47)))))) (doneK P results47) X0 (doneK P results47)))
noncomputable def K47_prrrrl (cal : Cal) (k : Nat) : KC (Value × Hp × Nat) := (cutK (Lv.a (Lv.b (Lv.b (Lv.b (Lv.b (A 47)))))).c (codeE P cal (codeF P cal k) none 47 (cR (cL (cR (cR (cR (cR code47)))))) (Lv.b (Lv.a (Lv.b (Lv.b (Lv.b (Lv.b (A 47))))))) (K47_prrrr cal k) X0 (doneK P results47)))
noncomputable def K47_prrrrlrl (cal : Cal) (k : Nat) : KC (Value × Hp × Nat) := (cutK (Lv.a (Lv.b (Lv.a (Lv.b (Lv.b (Lv.b (Lv.b (A 47)))))))).c (codeE P cal (codeF P cal k) none 47 (cR (cL (cR (cL (cR (cR (cR (cR code47)))))))) (Lv.b (Lv.a (Lv.b (Lv.a (Lv.b (Lv.b (Lv.b (Lv.b (A 47))))))))) (K47_prrrr cal k) X0 (doneK P results47)))
noncomputable def K47_prrrrr (cal : Cal) (k : Nat) : KC (Value × Hp × Nat) := (cutK (Lv.b (Lv.b (Lv.b (Lv.b (Lv.b (A 47)))))).c (codeE P cal (codeF P cal k) none 47 (cR (cR (cR (cR (cR (cR code47)))))) (Lv.b (Lv.b (Lv.b (Lv.b (Lv.b (Lv.b (A 47))))))) (doneK P results47) X0 (doneK P results47)))
noncomputable def K47_prrrrrl (cal : Cal) (k : Nat) : KC (Value × Hp × Nat) := (cutK (Lv.a (Lv.b (Lv.b (Lv.b (Lv.b (Lv.b (A 47))))))).c (codeE P cal (codeF P cal k) none 47 (cR (cL (cR (cR (cR (cR (cR code47))))))) (Lv.b (Lv.a (Lv.b (Lv.b (Lv.b (Lv.b (Lv.b (A 47)))))))) (K47_prrrrr cal k) X0 (doneK P results47)))
noncomputable def K47_prrrrrlrl (cal : Cal) (k : Nat) : KC (Value × Hp × Nat) := (cutK (Lv.a (Lv.b (Lv.a (Lv.b (Lv.b (Lv.b (Lv.b (Lv.b (A 47))))))))).c (codeE P cal (codeF P cal k) none 47 (cR (cL (cR (cL (cR (cR (cR (cR (cR code47))))))))) (Lv.b (Lv.a (Lv.b (Lv.a (Lv.b (Lv.b (Lv.b (Lv.b (Lv.b (A 47)))))))))) (K47_prrrrr cal k) X0 (doneK P results47)))
noncomputable def K47_prrrrrr (cal : Cal) (k : Nat) : KC (Value × Hp × Nat) := (cutK (Lv.b (Lv.b (Lv.b (Lv.b (Lv.b (Lv.b (A 47))))))).c (codeE P cal (codeF P cal k) none 47 (cR (cR (cR (cR (cR (cR (cR code47))))))) (Lv.b (Lv.b (Lv.b (Lv.b (Lv.b (Lv.b (Lv.b (A 47)))))))) (doneK P results47) X0 (doneK P results47)))
noncomputable def K47_prrrrrrl (cal : Cal) (k : Nat) : KC (Value × Hp × Nat) := (cutK (Lv.a (Lv.b (Lv.b (Lv.b (Lv.b (Lv.b (Lv.b (A 47)))))))).c (codeE P cal (codeF P cal k) none 47 (cR (cL (cR (cR (cR (cR (cR (cR code47)))))))) (Lv.b (Lv.a (Lv.b (Lv.b (Lv.b (Lv.b (Lv.b (Lv.b (A 47))))))))) (K47_prrrrrr cal k) X0 (doneK P results47)))
noncomputable def K47_prrrrrrlrl (cal : Cal) (k : Nat) : KC (Value × Hp × Nat) := (cutK (Lv.a (Lv.b (Lv.a (Lv.b (Lv.b (Lv.b (Lv.b (Lv.b (Lv.b (A 47)))))))))).c (codeE P cal (codeF P cal k) none 47 (cR (cL (cR (cL (cR (cR (cR (cR (cR (cR code47)))))))))) (Lv.b (Lv.a (Lv.b (Lv.a (Lv.b (Lv.b (Lv.b (Lv.b (Lv.b (Lv.b (A 47))))))))))) (K47_prrrrrr cal k) X0 (doneK P results47)))
noncomputable def K47_prrrrrrr (cal : Cal) (k : Nat) : KC (Value × Hp × Nat) := (cutK (Lv.b (Lv.b (Lv.b (Lv.b (Lv.b (Lv.b (Lv.b (A 47)))))))).c (codeE P cal (codeF P cal k) none 47 (cR (cR (cR (cR (cR (cR (cR (cR code47)))))))) (Lv.b (Lv.b (Lv.b (Lv.b (Lv.b (Lv.b (Lv.b (Lv.b (A 47))))))))) (doneK P results47) X0 (doneK P results47)))
noncomputable def B47_0 (cal : Cal) (k : Nat) (v0 v1 : Value) (H : Hp) (n : Nat) : Res :=
callFK P cal 60 [v0] H n fun v8_3 H_4 n_5 =>
callFK P cal 60 [v1] H_4 n_5 fun v10_8 H_9 n_10 =>
ifK v8_3 (
ifK v10_8 (
some ((Go.Value.int Go.IntKind.i64 0), H_9, n_10)) (
some ((Go.Value.int Go.IntKind.i64 (-1)), H_9, n_10))) (
ifK v10_8 (
some ((Go.Value.int Go.IntKind.i64 1), H_9, n_10)) (
binK P Go.BinOp.lss 3 (Go.Operand.tmp 14) (Go.Operand.tmp 15) v0 v1 fun v16_20 =>
ifK v16_20 (
some ((Go.Value.int Go.IntKind.i64 (-1)), H_9, n_10)) (
binK P Go.BinOp.gtr 3 (Go.Operand.tmp 17) (Go.Operand.tmp 18) v0 v1 fun v19_24 =>
ifK v19_24 (
some ((Go.Value.int Go.IntKind.i64 1), H_9, n_10)) (
some ((Go.Value.int Go.IntKind.i64 0), H_9, n_10)))))
noncomputable def C47_0 (cal : Cal) (k : Nat) (v0 v1 : Value) (H : Hp) (n : Nat) : Res := B47_0 cal k v0 v1 H n
theorem h47_0 (cal : Cal) (k : Nat) (v0 v1 : Value) (H : Hp) (n : Nat) : bodyE P cal A (k + 1) 47 [v0, v1] H n = C47_0 cal k v0 v1 H n := by
  have h : bodyE P cal A (k + 1) 47 [v0, v1] H n = B47_0 cal k v0 v1 H n := by
    rw [body_eq (fn := Go.Proofs.Try.f47) (c := code47) (rs := results47) (by kernel_rfl) (by kernel_rfl) (by kernel_rfl) (by kernel_rfl)]
    kernel_rfl
  rw [h, C47_0]
noncomputable def code48 : Code := codeOf 48
noncomputable def results48 : List ResultVar := resOf 48
noncomputable def K48_p (cal : Cal) (k : Nat) : KC (Value × Hp × Nat) := (cutK (A 48).c (codeE P cal (codeF P cal k) none 48 (cR code48) (Lv.b (A 48)) (doneK P results48) X0 (doneK P results48)))
noncomputable def K48_pr (cal : Cal) (k : Nat) : KC (Value × Hp × Nat) := (cutK (Lv.b (A 48)).c (codeE P cal (codeF P cal k) none 48 (cR (cR code48)) (Lv.b (Lv.b (A 48))) (doneK P results48) X0 (doneK P results48)))
noncomputable def B48_0 (cal : Cal) (k : Nat) (v0 : Value) (H : Hp) (n : Nat) : Res :=
boxK 30 v0 H n fun v1_1 H_2 n_3 =>
bindO (addrV v1_1) fun a_6 => bindO (loadV P H_2 30 a_6) fun v3_5 =>
callFK P cal 61 [v3_5] H_2 n_3 fun v4_7 H_8 n_9 =>
some (v4_7, H_8, n_9)
noncomputable def C48_0 (cal : Cal) (k : Nat) (v0 : Value) (H : Hp) (n : Nat) : Res := B48_0 cal k v0 H n
theorem h48_0 (cal : Cal) (k : Nat) (v0 : Value) (H : Hp) (n : Nat) : bodyE P cal A (k + 1) 48 [v0] H n = C48_0 cal k v0 H n := by
  have h : bodyE P cal A (k + 1) 48 [v0] H n = B48_0 cal k v0 H n := by
    rw [body_eq (fn := Go.Proofs.Try.f48) (c := code48) (rs := results48) (by kernel_rfl) (by kernel_rfl) (by kernel_rfl) (by kernel_rfl)]
    kernel_rfl
  rw [h, C48_0]
noncomputable def code49 : Code := codeOf 49
noncomputable def results49 : List ResultVar := resOf 49
noncomputable def K49_p (cal : Cal) (k : Nat) : KC (Value × Hp × Nat) := (cutK (A 49).c (codeE P cal (codeF P cal k) none 49 (cR code49) (Lv.b (A 49)) (doneK P results49) X0 (doneK P results49)))
noncomputable def K49_pr (cal : Cal) (k : Nat) : KC (Value × Hp × Nat) := (cutK (Lv.b (A 49)).c (codeE P cal (codeF P cal k) none 49 (cR (cR code49)) (Lv.b (Lv.b (A 49))) (doneK P results49) X0 (doneK P results49)))
noncomputable def K49_prl (cal : Cal) (k : Nat) : KC (Value × Hp × Nat) := (cutK (Lv.a (Lv.b (A 49))).c (codeE P cal (codeF P cal k) none 49 (cR (cL (cR code49))) (Lv.b (Lv.a (Lv.b (A 49)))) (K49_pr cal k) X0 (doneK P results49)))
noncomputable def K49_pxrlr (cal : Cal) (k : Nat) : XC (Value × Hp × Nat) := (upX 0 (K49_pr cal k) X0)
noncomputable def K49_prlrl (cal : Cal) (k : Nat) (m1 : Nat) : KC (Value × Hp × Nat) := (fun T H n D => codeF P cal m1 (Lv.a (Lv.b (Lv.a (Lv.b (A 49))))) none 49 (cL (cR (cL (cR code49)))) (K49_pr cal k) (K49_pxrlr cal k) (doneK P results49) (cutT (Lv.a (Lv.b (Lv.a (Lv.b (A 49))))).c T) H n D)
noncomputable def K49_prlrll (cal : Cal) (k : Nat) (m1 : Nat) : KC (Value × Hp × Nat) := (cutK (Lv.a (Lv.a (Lv.b (Lv.a (Lv.b (A 49)))))).c (codeE P cal (codeF P cal m1) none 49 (cR (cL (cL (cR (cL (cR code49)))))) (Lv.b (Lv.a (Lv.a (Lv.b (Lv.a (Lv.b (A 49))))))) (K49_prlrl cal k m1) (K49_pxrlr cal k) (doneK P results49)))
noncomputable def K49_prlrllr (cal : Cal) (k : Nat) (m1 : Nat) : KC (Value × Hp × Nat) := (cutK (Lv.b (Lv.a (Lv.a (Lv.b (Lv.a (Lv.b (A 49))))))).c (codeE P cal (codeF P cal m1) none 49 (cR (cR (cL (cL (cR (cL (cR code49))))))) (Lv.b (Lv.b (Lv.a (Lv.a (Lv.b (Lv.a (Lv.b (A 49)))))))) (K49_prlrl cal k m1) (K49_pxrlr cal k) (doneK P results49)))
noncomputable def K49_prlrllrr (cal : Cal) (k : Nat) (m1 : Nat) : KC (Value × Hp × Nat) := (cutK (Lv.b (Lv.b (Lv.a (Lv.a (Lv.b (Lv.a (Lv.b (A 49)))))))).c (codeE P cal (codeF P cal m1) none 49 (cR (cR (cR (cL (cL (cR (cL (cR code49)))))))) (Lv.b (Lv.b (Lv.b (Lv.a (Lv.a (Lv.b (Lv.a (Lv.b (A 49))))))))) (K49_prlrl cal k m1) (K49_pxrlr cal k) (doneK P results49)))
noncomputable def K49_pxrlrllrrl (cal : Cal) (k : Nat) (m1 : Nat) : XC (Value × Hp × Nat) := (upX 1 (K49_prlrllrr cal k m1) (K49_pxrlr cal k))
noncomputable def K49_prlrllrrll (cal : Cal) (k : Nat) (m1 : Nat) : KC (Value × Hp × Nat) := (cutK (Lv.a (Lv.a (Lv.b (Lv.b (Lv.a (Lv.a (Lv.b (Lv.a (Lv.b (A 49)))))))))).c (codeE P cal (codeF P cal m1) none 49 (cR (cL (cL (cR (cR (cL (cL (cR (cL (cR code49)))))))))) (Lv.b (Lv.a (Lv.a (Lv.b (Lv.b (Lv.a (Lv.a (Lv.b (Lv.a (Lv.b (A 49))))))))))) (K49_prlrllrr cal k m1) (K49_pxrlrllrrl cal k m1) (doneK P results49)))
noncomputable def K49_prlrllrrllr (cal : Cal) (k : Nat) (m1 : Nat) : KC (Value × Hp × Nat) := (cutK (Lv.b (Lv.a (Lv.a (Lv.b (Lv.b (Lv.a (Lv.a (Lv.b (Lv.a (Lv.b (A 49))))))))))).c (codeE P cal (codeF P cal m1) none 49 (cR (cR (cL (cL (cR (cR (cL (cL (cR (cL (cR code49))))))))))) (Lv.b (Lv.b (Lv.a (Lv.a (Lv.b (Lv.b (Lv.a (Lv.a (Lv.b (Lv.a (Lv.b (A 49)))))))))))) (K49_prlrllrr cal k m1) (K49_pxrlrllrrl cal k m1) (doneK P results49)))
noncomputable def K49_prlrllrrllrrl (cal : Cal) (k : Nat) (m1 : Nat) : KC (Value × Hp × Nat) := (cutK (Lv.a (Lv.b (Lv.b (Lv.a (Lv.a (Lv.b (Lv.b (Lv.a (Lv.a (Lv.b (Lv.a (Lv.b (A 49))))))))))))).c (codeE P cal (codeF P cal m1) none 49 (cR (cL (cR (cR (cL (cL (cR (cR (cL (cL (cR (cL (cR code49))))))))))))) (Lv.b (Lv.a (Lv.b (Lv.b (Lv.a (Lv.a (Lv.b (Lv.b (Lv.a (Lv.a (Lv.b (Lv.a (Lv.b (A 49)))))))))))))) (K49_prlrllrr cal k m1) (K49_pxrlrllrrl cal k m1) (doneK P results49)))
noncomputable def K49_prr (cal : Cal) (k : Nat) : KC (Value × Hp × Nat) := (cutK (Lv.b (Lv.b (A 49))).c (codeE P cal (codeF P cal k) none 49 (cR (cR (cR code49))) (Lv.b (Lv.b (Lv.b (A 49)))) (doneK P results49) X0 (doneK P results49)))
noncomputable def E49_1 (cal : Cal) (k m1 : Nat) : KC (Value × Hp × Nat) := codeE P cal (codeF P cal m1) none 49 (cL (cL (cR (cL (cR code49))))) (Lv.a (Lv.a (Lv.b (Lv.a (Lv.b (A 49)))))) (K49_prlrl cal k m1) (K49_pxrlr cal k) (doneK P results49)
noncomputable def R49_1 (cal : Cal) (k m1 : Nat) : Value → Value → Value → Value → Hp → Nat → Res := fun u1 u7 u8 u9 H n => codeF P cal m1 (Lv.a (Lv.b (Lv.a (Lv.b (A 49))))) none 49 (cL (cR (cL (cR code49)))) (K49_pr cal k) (K49_pxrlr cal k) (doneK P results49) (Tr.set (Tr.set (Tr.set (Tr.set Tr.nil 9 (some u9)) 8 (some u8)) 7 (some u7)) 1 (some u1)) H n []
noncomputable def B49_1 (cal : Cal) (k m1 : Nat) (b1 : Value → Value → Value → Value → Hp → Nat → Res) (u1 u7 u8 u9 : Value) (H : Hp) (n : Nat) : Res :=
binK P Go.BinOp.lss 3 (Go.Operand.tmp 9) (Go.Operand.tmp 8) u9 u8 fun v10_5 =>
ifK v10_5 (
bindO (indexAddrV P 31 u7 u9) fun v11_6 =>
bindO (addrV v11_6) fun a_8 => bindO (loadV P H 3 a_8) fun v12_7 =>
callVK P cal u1 [v12_7] H n fun v15_12 H_13 n_14 =>
bindO (pureSem P v15_12 (Op.unary Go.UnOp.not v15_12)) fun v16_15 =>
ifK v16_15 (
some ((Go.Value.bool false), H_13, n_14)) (
binK P Go.BinOp.add 3 (Go.Operand.tmp 9) (Go.Operand.const (Go.Value.int Go.IntKind.i64 1)) u9 (Go.Value.int Go.IntKind.i64 1) fun v17_17 =>
b1 u1 u7 u8 v17_17 H_13 n_14)) (
some ((Go.Value.bool true), H, n))
noncomputable def C49_1 (cal : Cal) (k m1 : Nat) (b1 : Value → Value → Value → Value → Hp → Nat → Res) (u1 u7 u8 u9 : Value) (H : Hp) (n : Nat) : Res := B49_1 cal k m1 b1 u1 u7 u8 u9 H n
noncomputable def S49_1 (cal : Cal) (k : Nat) : Nat → Value → Value → Value → Value → Hp → Nat → Res := fun m => Nat.rec (motive := fun _ => Value → Value → Value → Value → Hp → Nat → Res) (C49_1 cal k 0 (fun _ _ _ _ _ _ => none)) (fun m ih => C49_1 cal k (m + 1) ih) m
theorem h49_1 (cal : Cal) (k m1 : Nat) (u1 u7 u8 u9 : Value) (H : Hp) (n : Nat) : labK (E49_1 cal k m1) (Tr.set (Tr.set (Tr.set (Tr.set Tr.nil 9 (some u9)) 8 (some u8)) 7 (some u7)) 1 (some u1)) H n [] = C49_1 cal k m1 (R49_1 cal k m1) u1 u7 u8 u9 H n := by
  have h : labK (E49_1 cal k m1) (Tr.set (Tr.set (Tr.set (Tr.set Tr.nil 9 (some u9)) 8 (some u8)) 7 (some u7)) 1 (some u1)) H n [] = B49_1 cal k m1 (R49_1 cal k m1) u1 u7 u8 u9 H n := by kernel_rfl
  rw [h, C49_1]
theorem q49_1 (cal : Cal) (k : Nat) : ∀ (m : Nat) (u1 u7 u8 u9 : Value) (H : Hp) (n : Nat), labK (E49_1 cal k m) (Tr.set (Tr.set (Tr.set (Tr.set Tr.nil 9 (some u9)) 8 (some u8)) 7 (some u7)) 1 (some u1)) H n [] = S49_1 cal k m u1 u7 u8 u9 H n
  | 0, u1, u7, u8, u9, H, n => by
    rw [h49_1]
    have e : R49_1 cal k 0 = fun _ _ _ _ _ _ => none := by funext u1 u7 u8 u9 H n; kernel_rfl
    rw [e]; rfl
  | m + 1, u1, u7, u8, u9, H, n => by
    rw [h49_1]
    have e : R49_1 cal k (m + 1) = S49_1 cal k m := by
      funext u1 u7 u8 u9 H n
      have e : R49_1 cal k (m + 1) u1 u7 u8 u9 H n = labK (E49_1 cal k m) (Tr.set (Tr.set (Tr.set (Tr.set Tr.nil 9 (some u9)) 8 (some u8)) 7 (some u7)) 1 (some u1)) H n [] := by kernel_rfl
      rw [e]; exact q49_1 ..
    rw [e]; rfl
noncomputable def B49_0 (cal : Cal) (k : Nat) (j1 : Value → Value → Value → Value → Hp → Nat → Res) (v0 v1 : Value) (H : Hp) (n : Nat) : Res :=
bindO (lenV P 31 v0) fun v8_3 =>
j1 v1 v0 v8_3 (Go.Value.int Go.IntKind.i64 0) H n
noncomputable def C49_0 (cal : Cal) (k : Nat) (v0 v1 : Value) (H : Hp) (n : Nat) : Res := B49_0 cal k (S49_1 cal k k) v0 v1 H n
theorem h49_0 (cal : Cal) (k : Nat) (v0 v1 : Value) (H : Hp) (n : Nat) : bodyE P cal A (k + 1) 49 [v0, v1] H n = C49_0 cal k v0 v1 H n := by
  have h : bodyE P cal A (k + 1) 49 [v0, v1] H n = B49_0 cal k (fun u1 u7 u8 u9 H n => labK (E49_1 cal k k) (Tr.set (Tr.set (Tr.set (Tr.set Tr.nil 9 (some u9)) 8 (some u8)) 7 (some u7)) 1 (some u1)) H n []) v0 v1 H n := by
    rw [body_eq (fn := Go.Proofs.Try.f49) (c := code49) (rs := results49) (by kernel_rfl) (by kernel_rfl) (by kernel_rfl) (by kernel_rfl)]
    kernel_rfl
  rw [h, C49_0]
  have e1 : (fun u1 u7 u8 u9 H n => labK (E49_1 cal k k) (Tr.set (Tr.set (Tr.set (Tr.set Tr.nil 9 (some u9)) 8 (some u8)) 7 (some u7)) 1 (some u1)) H n []) = (S49_1 cal k k) := by funext u1 u7 u8 u9 H n; exact q49_1 ..
  rw [e1]
noncomputable def code50 : Code := codeOf 50
noncomputable def results50 : List ResultVar := resOf 50
noncomputable def K50_p (cal : Cal) (k : Nat) : KC (Value × Hp × Nat) := (cutK (A 50).c (codeE P cal (codeF P cal k) none 50 (cR code50) (Lv.b (A 50)) (doneK P results50) X0 (doneK P results50)))
noncomputable def K50_pr (cal : Cal) (k : Nat) : KC (Value × Hp × Nat) := (cutK (Lv.b (A 50)).c (codeE P cal (codeF P cal k) none 50 (cR (cR code50)) (Lv.b (Lv.b (A 50))) (doneK P results50) X0 (doneK P results50)))
noncomputable def B50_0 (cal : Cal) (k : Nat) (v0 : Value) (H : Hp) (n : Nat) : Res :=
binK P Go.BinOp.geq 3 (Go.Operand.tmp 3) (Go.Operand.const (Go.Value.int Go.IntKind.i64 0)) v0 (Go.Value.int Go.IntKind.i64 0) fun v4_3 =>
guardK v4_3 true (fun k_5 =>
k_5 v0 H n) H n fun v_6 H_7 n_8 =>
guardK v4_3 true (fun k_10 =>
binK P Go.BinOp.leq 3 (Go.Operand.tmp 6) (Go.Operand.const (Go.Value.int Go.IntKind.i64 100)) v_6 (Go.Value.int Go.IntKind.i64 100) fun v7_14 =>
k_10 v7_14 H_7 n_8) H_7 n_8 fun v_11 H_12 n_13 =>
bindO (pickV v4_3 v_11 (Go.Value.bool false)) fun v8_15 =>
some (v8_15, H_12, n_13)
noncomputable def C50_0 (cal : Cal) (k : Nat) (v0 : Value) (H : Hp) (n : Nat) : Res := B50_0 cal k v0 H n
theorem h50_0 (cal : Cal) (k : Nat) (v0 : Value) (H : Hp) (n : Nat) : bodyE P cal A (k + 1) 50 [v0] H n = C50_0 cal k v0 H n := by
  have h : bodyE P cal A (k + 1) 50 [v0] H n = B50_0 cal k v0 H n := by
    rw [body_eq (fn := Go.Proofs.Try.f50) (c := code50) (rs := results50) (by kernel_rfl) (by kernel_rfl) (by kernel_rfl) (by kernel_rfl)]
    kernel_rfl
  rw [h, C50_0]
noncomputable def code51 : Code := codeOf 51
noncomputable def results51 : List ResultVar := resOf 51
noncomputable def K51_p (cal : Cal) (k : Nat) : KC (Value × Hp × Nat) := (cutK (A 51).c (codeE P cal (codeF P cal k) none 51 (cR code51) (Lv.b (A 51)) (doneK P results51) X0 (doneK P results51)))
noncomputable def K51_pr (cal : Cal) (k : Nat) : KC (Value × Hp × Nat) := (cutK (Lv.b (A 51)).c (codeE P cal (codeF P cal k) none 51 (cR (cR code51)) (Lv.b (Lv.b (A 51))) (doneK P results51) X0 (doneK P results51)))
noncomputable def K51_prr (cal : Cal) (k : Nat) : KC (Value × Hp × Nat) := (cutK (Lv.b (Lv.b (A 51))).c (codeE P cal (codeF P cal k) none 51 (cR (cR (cR code51))) (Lv.b (Lv.b (Lv.b (A 51)))) (doneK P results51) X0 (doneK P results51)))
noncomputable def K51_prrl (cal : Cal) (k : Nat) : KC (Value × Hp × Nat) := (cutK (Lv.a (Lv.b (Lv.b (A 51)))).c (codeE P cal (codeF P cal k) none 51 (cR (cL (cR (cR code51)))) (Lv.b (Lv.a (Lv.b (Lv.b (A 51))))) (K51_prr cal k) X0 (doneK P results51)))
noncomputable def K51_pxrrlr (cal : Cal) (k : Nat) : XC (Value × Hp × Nat) := (upX 0 (K51_prr cal k) X0)
noncomputable def K51_prrlrl (cal : Cal) (k : Nat) (m1 : Nat) : KC (Value × Hp × Nat) := (fun T H n D => codeF P cal m1 (Lv.a (Lv.b (Lv.a (Lv.b (Lv.b (A 51)))))) none 51 (cL (cR (cL (cR (cR code51))))) (K51_prr cal k) (K51_pxrrlr cal k) (doneK P results51) (cutT (Lv.a (Lv.b (Lv.a (Lv.b (Lv.b (A 51)))))).c T) H n D)
noncomputable def K51_prrlrll (cal : Cal) (k : Nat) (m1 : Nat) : KC (Value × Hp × Nat) := (cutK (Lv.a (Lv.a (Lv.b (Lv.a (Lv.b (Lv.b (A 51))))))).c (codeE P cal (codeF P cal m1) none 51 (cR (cL (cL (cR (cL (cR (cR code51))))))) (Lv.b (Lv.a (Lv.a (Lv.b (Lv.a (Lv.b (Lv.b (A 51)))))))) (K51_prrlrl cal k m1) (K51_pxrrlr cal k) (doneK P results51)))
noncomputable def K51_prrlrllr (cal : Cal) (k : Nat) (m1 : Nat) : KC (Value × Hp × Nat) := (cutK (Lv.b (Lv.a (Lv.a (Lv.b (Lv.a (Lv.b (Lv.b (A 51)))))))).c (codeE P cal (codeF P cal m1) none 51 (cR (cR (cL (cL (cR (cL (cR (cR code51)))))))) (Lv.b (Lv.b (Lv.a (Lv.a (Lv.b (Lv.a (Lv.b (Lv.b (A 51))))))))) (K51_prrlrl cal k m1) (K51_pxrrlr cal k) (doneK P results51)))
noncomputable def K51_prrlrllrr (cal : Cal) (k : Nat) (m1 : Nat) : KC (Value × Hp × Nat) := (cutK (Lv.b (Lv.b (Lv.a (Lv.a (Lv.b (Lv.a (Lv.b (Lv.b (A 51))))))))).c (codeE P cal (codeF P cal m1) none 51 (cR (cR (cR (cL (cL (cR (cL (cR (cR code51))))))))) (Lv.b (Lv.b (Lv.b (Lv.a (Lv.a (Lv.b (Lv.a (Lv.b (Lv.b (A 51)))))))))) (K51_prrlrl cal k m1) (K51_pxrrlr cal k) (doneK P results51)))
noncomputable def K51_pxrrlrllrrl (cal : Cal) (k : Nat) (m1 : Nat) : XC (Value × Hp × Nat) := (upX 1 (K51_prrlrllrr cal k m1) (K51_pxrrlr cal k))
noncomputable def K51_prrlrllrrll (cal : Cal) (k : Nat) (m1 : Nat) : KC (Value × Hp × Nat) := (cutK (Lv.a (Lv.a (Lv.b (Lv.b (Lv.a (Lv.a (Lv.b (Lv.a (Lv.b (Lv.b (A 51))))))))))).c (codeE P cal (codeF P cal m1) none 51 (cR (cL (cL (cR (cR (cL (cL (cR (cL (cR (cR code51))))))))))) (Lv.b (Lv.a (Lv.a (Lv.b (Lv.b (Lv.a (Lv.a (Lv.b (Lv.a (Lv.b (Lv.b (A 51)))))))))))) (K51_prrlrllrr cal k m1) (K51_pxrrlrllrrl cal k m1) (doneK P results51)))
noncomputable def K51_prrlrllrrllr (cal : Cal) (k : Nat) (m1 : Nat) : KC (Value × Hp × Nat) := (cutK (Lv.b (Lv.a (Lv.a (Lv.b (Lv.b (Lv.a (Lv.a (Lv.b (Lv.a (Lv.b (Lv.b (A 51)))))))))))).c (codeE P cal (codeF P cal m1) none 51 (cR (cR (cL (cL (cR (cR (cL (cL (cR (cL (cR (cR code51)))))))))))) (Lv.b (Lv.b (Lv.a (Lv.a (Lv.b (Lv.b (Lv.a (Lv.a (Lv.b (Lv.a (Lv.b (Lv.b (A 51))))))))))))) (K51_prrlrllrr cal k m1) (K51_pxrrlrllrrl cal k m1) (doneK P results51)))
noncomputable def K51_prrlrllrrllrr (cal : Cal) (k : Nat) (m1 : Nat) : KC (Value × Hp × Nat) := (cutK (Lv.b (Lv.b (Lv.a (Lv.a (Lv.b (Lv.b (Lv.a (Lv.a (Lv.b (Lv.a (Lv.b (Lv.b (A 51))))))))))))).c (codeE P cal (codeF P cal m1) none 51 (cR (cR (cR (cL (cL (cR (cR (cL (cL (cR (cL (cR (cR code51))))))))))))) (Lv.b (Lv.b (Lv.b (Lv.a (Lv.a (Lv.b (Lv.b (Lv.a (Lv.a (Lv.b (Lv.a (Lv.b (Lv.b (A 51)))))))))))))) (K51_prrlrllrr cal k m1) (K51_pxrrlrllrrl cal k m1) (doneK P results51)))
noncomputable def K51_prrlrllrrllrrrl (cal : Cal) (k : Nat) (m1 : Nat) : KC (Value × Hp × Nat) := (cutK (Lv.a (Lv.b (Lv.b (Lv.b (Lv.a (Lv.a (Lv.b (Lv.b (Lv.a (Lv.a (Lv.b (Lv.a (Lv.b (Lv.b (A 51))))))))))))))).c (codeE P cal (codeF P cal m1) none 51 (cR (cL (cR (cR (cR (cL (cL (cR (cR (cL (cL (cR (cL (cR (cR code51))))))))))))))) (Lv.b (Lv.a (Lv.b (Lv.b (Lv.b (Lv.a (Lv.a (Lv.b (Lv.b (Lv.a (Lv.a (Lv.b (Lv.a (Lv.b (Lv.b (A 51)))))))))))))))) (K51_prrlrllrr cal k m1) (K51_pxrrlrllrrl cal k m1) (doneK P results51)))
noncomputable def K51_prrr (cal : Cal) (k : Nat) : KC (Value × Hp × Nat) := (cutK (Lv.b (Lv.b (Lv.b (A 51)))).c (codeE P cal (codeF P cal k) none 51 (cR (cR (cR (cR code51)))) (Lv.b (Lv.b (Lv.b (Lv.b (A 51))))) (doneK P results51) X0 (doneK P results51)))
noncomputable def E51_1 (cal : Cal) (k m1 : Nat) : KC (Value × Hp × Nat) := codeE P cal (codeF P cal m1) none 51 (cL (cL (cR (cL (cR (cR code51)))))) (Lv.a (Lv.a (Lv.b (Lv.a (Lv.b (Lv.b (A 51))))))) (K51_prrlrl cal k m1) (K51_pxrrlr cal k) (doneK P results51)
noncomputable def R51_1 (cal : Cal) (k m1 : Nat) : Value → Value → Value → Value → Hp → Nat → Res := fun u0 u3 u13 u14 H n => codeF P cal m1 (Lv.a (Lv.b (Lv.a (Lv.b (Lv.b (A 51)))))) none 51 (cL (cR (cL (cR (cR code51))))) (K51_prr cal k) (K51_pxrrlr cal k) (doneK P results51) (Tr.set (Tr.set (Tr.set (Tr.set Tr.nil 14 (some u14)) 13 (some u13)) 3 (some u3)) 0 (some u0)) H n []
noncomputable def B51_1 (cal : Cal) (k m1 : Nat) (b1 : Value → Value → Value → Value → Hp → Nat → Res) (u0 u3 u13 u14 : Value) (H : Hp) (n : Nat) : Res :=
binK P Go.BinOp.lss 3 (Go.Operand.tmp 14) (Go.Operand.tmp 13) u14 u13 fun v15_12 =>
ifK v15_12 (
callFK P cal 18 [u0, u14] H n fun v20_17 H_18 n_19 =>
bindO (tupV v20_17 0) fun v21_21 =>
bindO (tupV v20_17 1) fun v22_22 =>
ifK v22_22 (
some (u14, H_18, n_19)) (
binK P Go.BinOp.add 3 (Go.Operand.tmp 14) (Go.Operand.const (Go.Value.int Go.IntKind.i64 1)) u14 (Go.Value.int Go.IntKind.i64 1) fun v25_28 =>
b1 u0 u3 u13 v25_28 H_18 n_19)) (
some (u3, H, n))
noncomputable def C51_1 (cal : Cal) (k m1 : Nat) (b1 : Value → Value → Value → Value → Hp → Nat → Res) (u0 u3 u13 u14 : Value) (H : Hp) (n : Nat) : Res := B51_1 cal k m1 b1 u0 u3 u13 u14 H n
noncomputable def S51_1 (cal : Cal) (k : Nat) : Nat → Value → Value → Value → Value → Hp → Nat → Res := fun m => Nat.rec (motive := fun _ => Value → Value → Value → Value → Hp → Nat → Res) (C51_1 cal k 0 (fun _ _ _ _ _ _ => none)) (fun m ih => C51_1 cal k (m + 1) ih) m
theorem h51_1 (cal : Cal) (k m1 : Nat) (u0 u3 u13 u14 : Value) (H : Hp) (n : Nat) : labK (E51_1 cal k m1) (Tr.set (Tr.set (Tr.set (Tr.set Tr.nil 14 (some u14)) 13 (some u13)) 3 (some u3)) 0 (some u0)) H n [] = C51_1 cal k m1 (R51_1 cal k m1) u0 u3 u13 u14 H n := by
  have h : labK (E51_1 cal k m1) (Tr.set (Tr.set (Tr.set (Tr.set Tr.nil 14 (some u14)) 13 (some u13)) 3 (some u3)) 0 (some u0)) H n [] = B51_1 cal k m1 (R51_1 cal k m1) u0 u3 u13 u14 H n := by kernel_rfl
  rw [h, C51_1]
theorem q51_1 (cal : Cal) (k : Nat) : ∀ (m : Nat) (u0 u3 u13 u14 : Value) (H : Hp) (n : Nat), labK (E51_1 cal k m) (Tr.set (Tr.set (Tr.set (Tr.set Tr.nil 14 (some u14)) 13 (some u13)) 3 (some u3)) 0 (some u0)) H n [] = S51_1 cal k m u0 u3 u13 u14 H n
  | 0, u0, u3, u13, u14, H, n => by
    rw [h51_1]
    have e : R51_1 cal k 0 = fun _ _ _ _ _ _ => none := by funext u0 u3 u13 u14 H n; kernel_rfl
    rw [e]; rfl
  | m + 1, u0, u3, u13, u14, H, n => by
    rw [h51_1]
    have e : R51_1 cal k (m + 1) = S51_1 cal k m := by
      funext u0 u3 u13 u14 H n
      have e : R51_1 cal k (m + 1) u0 u3 u13 u14 H n = labK (E51_1 cal k m) (Tr.set (Tr.set (Tr.set (Tr.set Tr.nil 14 (some u14)) 13 (some u13)) 3 (some u3)) 0 (some u0)) H n [] := by kernel_rfl
      rw [e]; exact q51_1 ..
    rw [e]; rfl
noncomputable def B51_0 (cal : Cal) (k : Nat) (j1 : Value → Value → Value → Value → Hp → Nat → Res) (v0 : Value) (H : Hp) (n : Nat) : Res :=
bindO (nilV v0) fun v8_3 =>
bindO (fieldAddrV P 53 v8_3 0) fun v9_4 =>
bindO (fieldAddrV P 33 v9_4 2) fun v10_5 =>
bindO (addrV v10_5) fun a_7 => bindO (loadV P H 31 a_7) fun v11_6 =>
bindO (lenV P 31 v11_6) fun v12_8 =>
j1 v0 v12_8 v12_8 (Go.Value.int Go.IntKind.i64 0) H n
noncomputable def C51_0 (cal : Cal) (k : Nat) (v0 : Value) (H : Hp) (n : Nat) : Res := B51_0 cal k (S51_1 cal k k) v0 H n
theorem h51_0 (cal : Cal) (k : Nat) (v0 : Value) (H : Hp) (n : Nat) : bodyE P cal A (k + 1) 51 [v0] H n = C51_0 cal k v0 H n := by
  have h : bodyE P cal A (k + 1) 51 [v0] H n = B51_0 cal k (fun u0 u3 u13 u14 H n => labK (E51_1 cal k k) (Tr.set (Tr.set (Tr.set (Tr.set Tr.nil 14 (some u14)) 13 (some u13)) 3 (some u3)) 0 (some u0)) H n []) v0 H n := by
    rw [body_eq (fn := Go.Proofs.Try.f51) (c := code51) (rs := results51) (by kernel_rfl) (by kernel_rfl) (by kernel_rfl) (by kernel_rfl)]
    kernel_rfl
  rw [h, C51_0]
  have e1 : (fun u0 u3 u13 u14 H n => labK (E51_1 cal k k) (Tr.set (Tr.set (Tr.set (Tr.set Tr.nil 14 (some u14)) 13 (some u13)) 3 (some u3)) 0 (some u0)) H n []) = (S51_1 cal k k) := by funext u0 u3 u13 u14 H n; exact q51_1 ..
  rw [e1]
noncomputable def code52 : Code := codeOf 52
noncomputable def results52 : List ResultVar := resOf 52
noncomputable def K52_p (cal : Cal) (k : Nat) : KC (Value × Hp × Nat) := (cutK (A 52).c (codeE P cal (codeF P cal k) none 52 (cR code52) (Lv.b (A 52)) (doneK P results52) X0 (doneK P results52)))
noncomputable def B52_0 (cal : Cal) (k : Nat) (v0 v1 : Value) (H : Hp) (n : Nat) : Res :=
bindO (lenV P 54 v0) fun v6_2 =>
bindO (pureSem P v6_2 (convert 3 49 v6_2)) fun v10_7 =>
callFK P cal 63 [v10_7] H n fun v11_8 H_9 n_10 =>
callFK P cal 62 [v0, (Go.Value.int Go.IntKind.i64 0), v6_2, v11_8, v1] H_9 n_10 fun v13_12 H_13 n_14 =>
some ((Value.tuple ⟨[]⟩), H_13, n_14)
noncomputable def C52_0 (cal : Cal) (k : Nat) (v0 v1 : Value) (H : Hp) (n : Nat) : Res := B52_0 cal k v0 v1 H n
theorem h52_0 (cal : Cal) (k : Nat) (v0 v1 : Value) (H : Hp) (n : Nat) : bodyE P cal A (k + 1) 52 [v0, v1] H n = C52_0 cal k v0 v1 H n := by
  have h : bodyE P cal A (k + 1) 52 [v0, v1] H n = B52_0 cal k v0 v1 H n := by
    rw [body_eq (fn := Go.Proofs.Try.f52) (c := code52) (rs := results52) (by kernel_rfl) (by kernel_rfl) (by kernel_rfl) (by kernel_rfl)]
    kernel_rfl
  rw [h, C52_0]
noncomputable def code53 : Code := codeOf 53
noncomputable def results53 : List ResultVar := resOf 53
noncomputable def K53_p (cal : Cal) (k : Nat) : KC (Value × Hp × Nat) := (cutK (A 53).c (codeE P cal (codeF P cal k) none 53 (cR code53) (Lv.b (A 53)) (doneK P results53) X0 (doneK P results53)))
noncomputable def K53_pr (cal : Cal) (k : Nat) : KC (Value × Hp × Nat) := (cutK (Lv.b (A 53)).c (codeE P cal (codeF P cal k) none 53 (cR (cR code53)) (Lv.b (Lv.b (A 53))) (doneK P results53) X0 (doneK P results53)))
noncomputable def B53_0 (cal : Cal) (k : Nat) (H : Hp) (n : Nat) : Res :=
allocK P 109 H n fun v0_1 H_2 n_3 =>
bindO (buildP P 109 [(0, (Value.func (.func 64) #[] #[])), (1, (Value.func (.func 65) #[] #[]))]) fun v1_4 =>
bindO (storeP P 109 v0_1 v1_4 H_2) fun H_6 =>
bindO (resV P (Tr.set Tr.nil 0 (some v0_1)) H_6 results53) fun vs_7 => some (oneV vs_7, H_6, n_3)
noncomputable def C53_0 (cal : Cal) (k : Nat) (H : Hp) (n : Nat) : Res := B53_0 cal k  H n
theorem h53_0 (cal : Cal) (k : Nat) (H : Hp) (n : Nat) : bodyE P cal A (k + 1) 53 [] H n = C53_0 cal k  H n := by
  have h : bodyE P cal A (k + 1) 53 [] H n = B53_0 cal k  H n := by
    rw [body_eq (fn := Go.Proofs.Try.f53) (c := code53) (rs := results53) (by kernel_rfl) (by kernel_rfl) (by kernel_rfl) (by kernel_rfl)]
    kernel_rfl
  rw [h, C53_0]
noncomputable def code54 : Code := codeOf 54
noncomputable def results54 : List ResultVar := resOf 54
noncomputable def K54_p (cal : Cal) (k : Nat) : KC (Value × Hp × Nat) := (cutK (A 54).c (codeE P cal (codeF P cal k) none 54 (cR code54) (Lv.b (A 54)) (doneK P results54) X0 (doneK P results54)))
noncomputable def K54_pr (cal : Cal) (k : Nat) : KC (Value × Hp × Nat) := (cutK (Lv.b (A 54)).c (codeE P cal (codeF P cal k) none 54 (cR (cR code54)) (Lv.b (Lv.b (A 54))) (doneK P results54) X0 (doneK P results54)))
noncomputable def B54_0 (cal : Cal) (k : Nat) (v0 v1 v2 : Value) (H : Hp) (n : Nat) : Res :=
boxK 109 v0 H n fun v3_1 H_2 n_3 =>
bindO (fieldAddrV P 109 v3_1 0) fun v7_5 =>
bindO (addrV v7_5) fun a_6 => bindO (loadV P H_2 107 a_6) fun v_7 =>
bindO (fieldAddrV P 109 v3_1 1) fun v12_10 =>
bindO (addrV v12_10) fun a_11 => bindO (loadV P H_2 107 a_11) fun v_12 =>
effK P [(.l 107 a_11)] H_2 n_3 (fun H_15 n_16 k_17 =>
callVK P cal v_7 [v1, v2] H_15 n_16 fun v11_21 H_22 n_23 =>
k_17 v11_21 H_22 n_23) fun v_18 H_19 n_20 =>
callVK P cal v_12 [v1, v2] H_19 n_20 fun v16_24 H_25 n_26 =>
bindO (rowOf P 31 2 [(0, v_18), (1, v16_24)]) fun q_29 => newK q_29.1 q_29.2 H_25 n_26 fun H_27 n_28 =>
callFK P cal 66 [(.slice (some ⟨n_26, 0, none⟩) 2 2)] H_27 n_28 fun v18_30 H_31 n_32 =>
some (v18_30, H_31, n_32)
noncomputable def C54_0 (cal : Cal) (k : Nat) (v0 v1 v2 : Value) (H : Hp) (n : Nat) : Res := B54_0 cal k v0 v1 v2 H n
theorem h54_0 (cal : Cal) (k : Nat) (v0 v1 v2 : Value) (H : Hp) (n : Nat) : bodyE P cal A (k + 1) 54 [v0, v1, v2] H n = C54_0 cal k v0 v1 v2 H n := by
  have h : bodyE P cal A (k + 1) 54 [v0, v1, v2] H n = B54_0 cal k v0 v1 v2 H n := by
    rw [body_eq (fn := Go.Proofs.Try.f54) (c := code54) (rs := results54) (by kernel_rfl) (by kernel_rfl) (by kernel_rfl) (by kernel_rfl)]
    kernel_rfl
  rw [h, C54_0]
noncomputable def code55 : Code := codeOf 55
noncomputable def results55 : List ResultVar := resOf 55
noncomputable def K55_p (cal : Cal) (k : Nat) : KC (Value × Hp × Nat) := (cutK (A 55).c (codeE P cal (codeF P cal k) none 55 (cR code55) (Lv.b (A 55)) (doneK P results55) X0 (doneK P results55)))
noncomputable def K55_pr (cal : Cal) (k : Nat) : KC (Value × Hp × Nat) := (cutK (Lv.b (A 55)).c (codeE P cal (codeF P cal k) none 55 (cR (cR code55)) (Lv.b (Lv.b (A 55))) (doneK P results55) X0 (doneK P results55)))
noncomputable def B55_0 (cal : Cal) (k : Nat) (v0 v1 : Value) (H : Hp) (n : Nat) : Res :=
boxK 46 v0 H n fun v2_1 H_2 n_3 =>
boxK 50 v1 H_2 n_3 fun v3_4 H_5 n_6 =>
some ((Value.func (Go.Fn.func 67) ⟨[]⟩ ⟨[v2_1, v3_4]⟩), H_5, n_6)
noncomputable def C55_0 (cal : Cal) (k : Nat) (v0 v1 : Value) (H : Hp) (n : Nat) : Res := B55_0 cal k v0 v1 H n
theorem h55_0 (cal : Cal) (k : Nat) (v0 v1 : Value) (H : Hp) (n : Nat) : bodyE P cal A (k + 1) 55 [v0, v1] H n = C55_0 cal k v0 v1 H n := by
  have h : bodyE P cal A (k + 1) 55 [v0, v1] H n = B55_0 cal k v0 v1 H n := by
    rw [body_eq (fn := Go.Proofs.Try.f55) (c := code55) (rs := results55) (by kernel_rfl) (by kernel_rfl) (by kernel_rfl) (by kernel_rfl)]
    kernel_rfl
  rw [h, C55_0]
noncomputable def code56 : Code := codeOf 56
noncomputable def results56 : List ResultVar := resOf 56
noncomputable def K56_p (cal : Cal) (k : Nat) : KC (Value × Hp × Nat) := (cutK (A 56).c (codeE P cal (codeF P cal k) none 56 (cR code56) (Lv.b (A 56)) (doneK P results56) X0 (doneK P results56)))
noncomputable def K56_pxr (cal : Cal) (k : Nat) : XC (Value × Hp × Nat) := (upX 0 (doneK P results56) X0)
noncomputable def K56_prl (cal : Cal) (k : Nat) (m1 : Nat) : KC (Value × Hp × Nat) := (fun T H n D => codeF P cal m1 (Lv.a (Lv.b (A 56))) none 56 (cL (cR code56)) (doneK P results56) (K56_pxr cal k) (doneK P results56) (cutT (Lv.a (Lv.b (A 56))).c T) H n D)
noncomputable def K56_prll (cal : Cal) (k : Nat) (m1 : Nat) : KC (Value × Hp × Nat) := (cutK (Lv.a (Lv.a (Lv.b (A 56)))).c (codeE P cal (codeF P cal m1) none 56 (cR (cL (cL (cR code56)))) (Lv.b (Lv.a (Lv.a (Lv.b (A 56))))) (K56_prl cal k m1) (K56_pxr cal k) (doneK P results56)))
noncomputable def K56_prlll (cal : Cal) (k : Nat) (m1 : Nat) : KC (Value × Hp × Nat) := (cutK (Lv.a (Lv.a (Lv.a (Lv.b (A 56))))).c (codeE P cal (codeF P cal m1) none 56 (cR (cL (cL (cL (cR code56))))) (Lv.b (Lv.a (Lv.a (Lv.a (Lv.b (A 56)))))) (K56_prll cal k m1) (K56_pxr cal k) (doneK P results56)))
noncomputable def K56_prllr (cal : Cal) (k : Nat) (m1 : Nat) : KC (Value × Hp × Nat) := (cutK (Lv.b (Lv.a (Lv.a (Lv.b (A 56))))).c (codeE P cal (codeF P cal m1) none 56 (cR (cR (cL (cL (cR code56))))) (Lv.b (Lv.b (Lv.a (Lv.a (Lv.b (A 56)))))) (K56_prl cal k m1) (K56_pxr cal k) (doneK P results56)))
noncomputable def K56_pxrllrl (cal : Cal) (k : Nat) (m1 : Nat) : XC (Value × Hp × Nat) := (upX 1 (K56_prllr cal k m1) (K56_pxr cal k))
noncomputable def E56_1 (cal : Cal) (k m1 : Nat) : KC (Value × Hp × Nat) := codeE P cal (codeF P cal m1) none 56 (cL (cL (cR code56))) (Lv.a (Lv.a (Lv.b (A 56)))) (K56_prl cal k m1) (K56_pxr cal k) (doneK P results56)
noncomputable def R56_1 (cal : Cal) (k m1 : Nat) : Value → Value → Value → Hp → Nat → Res := fun u0 u2 u3 H n => codeF P cal m1 (Lv.a (Lv.b (A 56))) none 56 (cL (cR code56)) (doneK P results56) (K56_pxr cal k) (doneK P results56) (Tr.set (Tr.set (Tr.set Tr.nil 3 (some u3)) 2 (some u2)) 0 (some u0)) H n []
noncomputable def B56_1 (cal : Cal) (k m1 : Nat) (b1 : Value → Value → Value → Hp → Nat → Res) (u0 u2 u3 : Value) (H : Hp) (n : Nat) : Res :=
binK P Go.BinOp.lss 3 (Go.Operand.tmp 7) (Go.Operand.tmp 8) u2 u3 fun v9_8 =>
ifK v9_8 (
bindO (indexAddrV P 54 u0 u3) fun v20_15 =>
bindO (addrV v20_15) fun a_16 => bindO (loadV P H 50 a_16) fun v_17 =>
bindO (indexAddrV P 54 u0 u2) fun v24_20 =>
bindO (addrV v24_20) fun a_21 => bindO (loadV P H 50 a_21) fun v_22 =>
bindO (indexAddrV P 54 u0 u2) fun v26_23 =>
bindO (storeP P 50 v26_23 v_17 H) fun H_25 =>
bindO (indexAddrV P 54 u0 u3) fun v27_26 =>
bindO (storeP P 50 v27_26 v_22 H_25) fun H_28 =>
binK P Go.BinOp.add 3 (Go.Operand.tmp 10) (Go.Operand.const (Go.Value.int Go.IntKind.i64 1)) u2 (Go.Value.int Go.IntKind.i64 1) fun v11_30 =>
binK P Go.BinOp.sub 3 (Go.Operand.tmp 12) (Go.Operand.const (Go.Value.int Go.IntKind.i64 1)) u3 (Go.Value.int Go.IntKind.i64 1) fun v13_32 =>
b1 u0 v11_30 v13_32 H_28 n) (
some ((Value.tuple ⟨[]⟩), H, n))
noncomputable def C56_1 (cal : Cal) (k m1 : Nat) (b1 : Value → Value → Value → Hp → Nat → Res) (u0 u2 u3 : Value) (H : Hp) (n : Nat) : Res := B56_1 cal k m1 b1 u0 u2 u3 H n
noncomputable def S56_1 (cal : Cal) (k : Nat) : Nat → Value → Value → Value → Hp → Nat → Res := fun m => Nat.rec (motive := fun _ => Value → Value → Value → Hp → Nat → Res) (C56_1 cal k 0 (fun _ _ _ _ _ => none)) (fun m ih => C56_1 cal k (m + 1) ih) m
theorem h56_1 (cal : Cal) (k m1 : Nat) (u0 u2 u3 : Value) (H : Hp) (n : Nat) : labK (E56_1 cal k m1) (Tr.set (Tr.set (Tr.set Tr.nil 3 (some u3)) 2 (some u2)) 0 (some u0)) H n [] = C56_1 cal k m1 (R56_1 cal k m1) u0 u2 u3 H n := by
  have h : labK (E56_1 cal k m1) (Tr.set (Tr.set (Tr.set Tr.nil 3 (some u3)) 2 (some u2)) 0 (some u0)) H n [] = B56_1 cal k m1 (R56_1 cal k m1) u0 u2 u3 H n := by kernel_rfl
  rw [h, C56_1]
theorem q56_1 (cal : Cal) (k : Nat) : ∀ (m : Nat) (u0 u2 u3 : Value) (H : Hp) (n : Nat), labK (E56_1 cal k m) (Tr.set (Tr.set (Tr.set Tr.nil 3 (some u3)) 2 (some u2)) 0 (some u0)) H n [] = S56_1 cal k m u0 u2 u3 H n
  | 0, u0, u2, u3, H, n => by
    rw [h56_1]
    have e : R56_1 cal k 0 = fun _ _ _ _ _ => none := by funext u0 u2 u3 H n; kernel_rfl
    rw [e]; rfl
  | m + 1, u0, u2, u3, H, n => by
    rw [h56_1]
    have e : R56_1 cal k (m + 1) = S56_1 cal k m := by
      funext u0 u2 u3 H n
      have e : R56_1 cal k (m + 1) u0 u2 u3 H n = labK (E56_1 cal k m) (Tr.set (Tr.set (Tr.set Tr.nil 3 (some u3)) 2 (some u2)) 0 (some u0)) H n [] := by kernel_rfl
      rw [e]; exact q56_1 ..
    rw [e]; rfl
noncomputable def B56_0 (cal : Cal) (k : Nat) (j1 : Value → Value → Value → Hp → Nat → Res) (v0 : Value) (H : Hp) (n : Nat) : Res :=
bindO (lenV P 54 v0) fun v5_2 =>
binK P Go.BinOp.sub 3 (Go.Operand.tmp 5) (Go.Operand.const (Go.Value.int Go.IntKind.i64 1)) v5_2 (Go.Value.int Go.IntKind.i64 1) fun v6_3 =>
j1 v0 (Go.Value.int Go.IntKind.i64 0) v6_3 H n
noncomputable def C56_0 (cal : Cal) (k : Nat) (v0 : Value) (H : Hp) (n : Nat) : Res := B56_0 cal k (S56_1 cal k k) v0 H n
theorem h56_0 (cal : Cal) (k : Nat) (v0 : Value) (H : Hp) (n : Nat) : bodyE P cal A (k + 1) 56 [v0] H n = C56_0 cal k v0 H n := by
  have h : bodyE P cal A (k + 1) 56 [v0] H n = B56_0 cal k (fun u0 u2 u3 H n => labK (E56_1 cal k k) (Tr.set (Tr.set (Tr.set Tr.nil 3 (some u3)) 2 (some u2)) 0 (some u0)) H n []) v0 H n := by
    rw [body_eq (fn := Go.Proofs.Try.f56) (c := code56) (rs := results56) (by kernel_rfl) (by kernel_rfl) (by kernel_rfl) (by kernel_rfl)]
    kernel_rfl
  rw [h, C56_0]
  have e1 : (fun u0 u2 u3 H n => labK (E56_1 cal k k) (Tr.set (Tr.set (Tr.set Tr.nil 3 (some u3)) 2 (some u2)) 0 (some u0)) H n []) = (S56_1 cal k k) := by funext u0 u2 u3 H n; exact q56_1 ..
  rw [e1]
noncomputable def code57 : Code := codeOf 57
noncomputable def results57 : List ResultVar := resOf 57
noncomputable def K57_p (cal : Cal) (k : Nat) : KC (Value × Hp × Nat) := (cutK (A 57).c (codeE P cal (codeF P cal k) none 57 (cR code57) (Lv.b (A 57)) (doneK P results57) X0 (doneK P results57)))
noncomputable def K57_pr (cal : Cal) (k : Nat) : KC (Value × Hp × Nat) := (cutK (Lv.b (A 57)).c (codeE P cal (codeF P cal k) none 57 (cR (cR code57)) (Lv.b (Lv.b (A 57))) (doneK P results57) X0 (doneK P results57)))
noncomputable def K57_prl (cal : Cal) (k : Nat) : KC (Value × Hp × Nat) := (cutK (Lv.a (Lv.b (A 57))).c (codeE P cal (codeF P cal k) none 57 (cR (cL (cR code57))) (Lv.b (Lv.a (Lv.b (A 57)))) (K57_pr cal k) X0 (doneK P results57)))
noncomputable def K57_pxrlr (cal : Cal) (k : Nat) : XC (Value × Hp × Nat) := (upX 0 (K57_pr cal k) X0)
noncomputable def K57_prlrl (cal : Cal) (k : Nat) (m1 : Nat) : KC (Value × Hp × Nat) := (fun T H n D => codeF P cal m1 (Lv.a (Lv.b (Lv.a (Lv.b (A 57))))) none 57 (cL (cR (cL (cR code57)))) (K57_pr cal k) (K57_pxrlr cal k) (doneK P results57) (cutT (Lv.a (Lv.b (Lv.a (Lv.b (A 57))))).c T) H n D)
noncomputable def K57_prlrll (cal : Cal) (k : Nat) (m1 : Nat) : KC (Value × Hp × Nat) := (cutK (Lv.a (Lv.a (Lv.b (Lv.a (Lv.b (A 57)))))).c (codeE P cal (codeF P cal m1) none 57 (cR (cL (cL (cR (cL (cR code57)))))) (Lv.b (Lv.a (Lv.a (Lv.b (Lv.a (Lv.b (A 57))))))) (K57_prlrl cal k m1) (K57_pxrlr cal k) (doneK P results57)))
noncomputable def K57_prlrlll (cal : Cal) (k : Nat) (m1 : Nat) : KC (Value × Hp × Nat) := (cutK (Lv.a (Lv.a (Lv.a (Lv.b (Lv.a (Lv.b (A 57))))))).c (codeE P cal (codeF P cal m1) none 57 (cR (cL (cL (cL (cR (cL (cR code57))))))) (Lv.b (Lv.a (Lv.a (Lv.a (Lv.b (Lv.a (Lv.b (A 57)))))))) (K57_prlrll cal k m1) (K57_pxrlr cal k) (doneK P results57)))
noncomputable def K57_prlrllr (cal : Cal) (k : Nat) (m1 : Nat) : KC (Value × Hp × Nat) := (cutK (Lv.b (Lv.a (Lv.a (Lv.b (Lv.a (Lv.b (A 57))))))).c (codeE P cal (codeF P cal m1) none 57 (cR (cR (cL (cL (cR (cL (cR code57))))))) (Lv.b (Lv.b (Lv.a (Lv.a (Lv.b (Lv.a (Lv.b (A 57)))))))) (K57_prlrl cal k m1) (K57_pxrlr cal k) (doneK P results57)))
noncomputable def K57_pxrlrllrl (cal : Cal) (k : Nat) (m1 : Nat) : XC (Value × Hp × Nat) := (upX 1 (K57_prlrllr cal k m1) (K57_pxrlr cal k))
noncomputable def K57_prlrllrll (cal : Cal) (k : Nat) (m1 : Nat) : KC (Value × Hp × Nat) := (cutK (Lv.a (Lv.a (Lv.b (Lv.a (Lv.a (Lv.b (Lv.a (Lv.b (A 57))))))))).c (codeE P cal (codeF P cal m1) none 57 (cR (cL (cL (cR (cL (cL (cR (cL (cR code57))))))))) (Lv.b (Lv.a (Lv.a (Lv.b (Lv.a (Lv.a (Lv.b (Lv.a (Lv.b (A 57)))))))))) (K57_prlrllr cal k m1) (K57_pxrlrllrl cal k m1) (doneK P results57)))
noncomputable def K57_prlrllrllrl (cal : Cal) (k : Nat) (m1 : Nat) : KC (Value × Hp × Nat) := (cutK (Lv.a (Lv.b (Lv.a (Lv.a (Lv.b (Lv.a (Lv.a (Lv.b (Lv.a (Lv.b (A 57))))))))))).c (codeE P cal (codeF P cal m1) none 57 (cR (cL (cR (cL (cL (cR (cL (cL (cR (cL (cR code57))))))))))) (Lv.b (Lv.a (Lv.b (Lv.a (Lv.a (Lv.b (Lv.a (Lv.a (Lv.b (Lv.a (Lv.b (A 57)))))))))))) (K57_prlrllr cal k m1) (K57_pxrlrllrl cal k m1) (doneK P results57)))
noncomputable def K57_prr (cal : Cal) (k : Nat) : KC (Value × Hp × Nat) := (cutK (Lv.b (Lv.b (A 57))).c (codeE P cal (codeF P cal k) none 57 (cR (cR (cR code57))) (Lv.b (Lv.b (Lv.b (A 57)))) (doneK P results57) X0 (doneK P results57)))
noncomputable def E57_1 (cal : Cal) (k m1 : Nat) : KC (Value × Hp × Nat) := codeE P cal (codeF P cal m1) none 57 (cL (cL (cR (cL (cR code57))))) (Lv.a (Lv.a (Lv.b (Lv.a (Lv.b (A 57)))))) (K57_prlrl cal k m1) (K57_pxrlr cal k) (doneK P results57)
noncomputable def R57_1 (cal : Cal) (k m1 : Nat) : Value → Value → Hp → Nat → Res := fun u0 u3 H n => codeF P cal m1 (Lv.a (Lv.b (Lv.a (Lv.b (A 57))))) none 57 (cL (cR (cL (cR code57)))) (K57_pr cal k) (K57_pxrlr cal k) (doneK P results57) (Tr.set (Tr.set Tr.nil 3 (some u3)) 0 (some u0)) H n []
noncomputable def B57_1 (cal : Cal) (k m1 : Nat) (b1 : Value → Value → Hp → Nat → Res) (u0 u3 : Value) (H : Hp) (n : Nat) : Res :=
bindO (lenV P 31 u0) fun v6_5 =>
binK P Go.BinOp.lss 3 (Go.Operand.tmp 4) (Go.Operand.tmp 6) u3 v6_5 fun v7_6 =>
ifK v7_6 (
bindO (indexAddrV P 31 u0 u3) fun v12_9 =>
bindO (addrV v12_9) fun a_10 => bindO (loadV P H 3 a_10) fun v_11 =>
binK P Go.BinOp.sub 3 (Go.Operand.tmp 15) (Go.Operand.const (Go.Value.int Go.IntKind.i64 1)) u3 (Go.Value.int Go.IntKind.i64 1) fun v16_14 =>
bindO (indexAddrV P 31 u0 v16_14) fun v17_15 =>
bindO (addrV v17_15) fun a_16 => bindO (loadV P H 3 a_16) fun v_17 =>
binK P Go.BinOp.leq 3 (Go.Operand.tmp 13) (Go.Operand.tmp 18) v_11 v_17 fun v19_18 =>
ifK v19_18 (
some ((Go.Value.bool false), H, n)) (
binK P Go.BinOp.add 3 (Go.Operand.tmp 8) (Go.Operand.const (Go.Value.int Go.IntKind.i64 1)) u3 (Go.Value.int Go.IntKind.i64 1) fun v9_21 =>
b1 u0 v9_21 H n)) (
some ((Go.Value.bool true), H, n))
noncomputable def C57_1 (cal : Cal) (k m1 : Nat) (b1 : Value → Value → Hp → Nat → Res) (u0 u3 : Value) (H : Hp) (n : Nat) : Res := B57_1 cal k m1 b1 u0 u3 H n
noncomputable def S57_1 (cal : Cal) (k : Nat) : Nat → Value → Value → Hp → Nat → Res := fun m => Nat.rec (motive := fun _ => Value → Value → Hp → Nat → Res) (C57_1 cal k 0 (fun _ _ _ _ => none)) (fun m ih => C57_1 cal k (m + 1) ih) m
theorem h57_1 (cal : Cal) (k m1 : Nat) (u0 u3 : Value) (H : Hp) (n : Nat) : labK (E57_1 cal k m1) (Tr.set (Tr.set Tr.nil 3 (some u3)) 0 (some u0)) H n [] = C57_1 cal k m1 (R57_1 cal k m1) u0 u3 H n := by
  have h : labK (E57_1 cal k m1) (Tr.set (Tr.set Tr.nil 3 (some u3)) 0 (some u0)) H n [] = B57_1 cal k m1 (R57_1 cal k m1) u0 u3 H n := by kernel_rfl
  rw [h, C57_1]
theorem q57_1 (cal : Cal) (k : Nat) : ∀ (m : Nat) (u0 u3 : Value) (H : Hp) (n : Nat), labK (E57_1 cal k m) (Tr.set (Tr.set Tr.nil 3 (some u3)) 0 (some u0)) H n [] = S57_1 cal k m u0 u3 H n
  | 0, u0, u3, H, n => by
    rw [h57_1]
    have e : R57_1 cal k 0 = fun _ _ _ _ => none := by funext u0 u3 H n; kernel_rfl
    rw [e]; rfl
  | m + 1, u0, u3, H, n => by
    rw [h57_1]
    have e : R57_1 cal k (m + 1) = S57_1 cal k m := by
      funext u0 u3 H n
      have e : R57_1 cal k (m + 1) u0 u3 H n = labK (E57_1 cal k m) (Tr.set (Tr.set Tr.nil 3 (some u3)) 0 (some u0)) H n [] := by kernel_rfl
      rw [e]; exact q57_1 ..
    rw [e]; rfl
noncomputable def B57_0 (cal : Cal) (k : Nat) (j1 : Value → Value → Hp → Nat → Res) (v0 : Value) (H : Hp) (n : Nat) : Res :=
j1 v0 (Go.Value.int Go.IntKind.i64 1) H n
noncomputable def C57_0 (cal : Cal) (k : Nat) (v0 : Value) (H : Hp) (n : Nat) : Res := B57_0 cal k (S57_1 cal k k) v0 H n
theorem h57_0 (cal : Cal) (k : Nat) (v0 : Value) (H : Hp) (n : Nat) : bodyE P cal A (k + 1) 57 [v0] H n = C57_0 cal k v0 H n := by
  have h : bodyE P cal A (k + 1) 57 [v0] H n = B57_0 cal k (fun u0 u3 H n => labK (E57_1 cal k k) (Tr.set (Tr.set Tr.nil 3 (some u3)) 0 (some u0)) H n []) v0 H n := by
    rw [body_eq (fn := Go.Proofs.Try.f57) (c := code57) (rs := results57) (by kernel_rfl) (by kernel_rfl) (by kernel_rfl) (by kernel_rfl)]
    kernel_rfl
  rw [h, C57_0]
  have e1 : (fun u0 u3 H n => labK (E57_1 cal k k) (Tr.set (Tr.set Tr.nil 3 (some u3)) 0 (some u0)) H n []) = (S57_1 cal k k) := by funext u0 u3 H n; exact q57_1 ..
  rw [e1]
noncomputable def code58 : Code := codeOf 58
noncomputable def results58 : List ResultVar := resOf 58
noncomputable def K58_p (cal : Cal) (k : Nat) : KC (Value × Hp × Nat) := (cutK (A 58).c (codeE P cal (codeF P cal k) none 58 (cR code58) (Lv.b (A 58)) (doneK P results58) X0 (doneK P results58)))
noncomputable def K58_pr (cal : Cal) (k : Nat) : KC (Value × Hp × Nat) := (cutK (Lv.b (A 58)).c (codeE P cal (codeF P cal k) none 58 (cR (cR code58)) (Lv.b (Lv.b (A 58))) (doneK P results58) X0 (doneK P results58)))
noncomputable def K58_prll (cal : Cal) (k : Nat) : KC (Value × Hp × Nat) := (cutK (Lv.a (Lv.a (Lv.b (A 58)))).c (codeE P cal (codeF P cal k) none 58 (cR (cL (cL (cR code58)))) (Lv.b (Lv.a (Lv.a (Lv.b (A 58))))) (K58_pr cal k) X0 (doneK P results58)))
noncomputable def K58_prr (cal : Cal) (k : Nat) : KC (Value × Hp × Nat) := (cutK (Lv.b (Lv.b (A 58))).c (codeE P cal (codeF P cal k) none 58 (cR (cR (cR code58))) (Lv.b (Lv.b (Lv.b (A 58)))) (doneK P results58) X0 (doneK P results58)))
noncomputable def B58_0 (cal : Cal) (k : Nat) (v0 : Value) (H : Hp) (n : Nat) : Res :=
ifK (Go.Value.bool false) (
bindO (pureSem P v0 (convert 49 122 v0)) fun v4_3 =>
callFK P cal 68 [v4_3] H n fun v5_4 H_5 n_6 =>
some (v5_4, H_5, n_6)) (
callFK P cal 69 [v0] H n fun v7_9 H_10 n_11 =>
some (v7_9, H_10, n_11))
noncomputable def C58_0 (cal : Cal) (k : Nat) (v0 : Value) (H : Hp) (n : Nat) : Res := B58_0 cal k v0 H n
theorem h58_0 (cal : Cal) (k : Nat) (v0 : Value) (H : Hp) (n : Nat) : bodyE P cal A (k + 1) 58 [v0] H n = C58_0 cal k v0 H n := by
  have h : bodyE P cal A (k + 1) 58 [v0] H n = B58_0 cal k v0 H n := by
    rw [body_eq (fn := Go.Proofs.Try.f58) (c := code58) (rs := results58) (by kernel_rfl) (by kernel_rfl) (by kernel_rfl) (by kernel_rfl)]
    kernel_rfl
  rw [h, C58_0]
noncomputable def code59 : Code := codeOf 59
noncomputable def results59 : List ResultVar := resOf 59
noncomputable def K59_p (cal : Cal) (k : Nat) : KC (Value × Hp × Nat) := (cutK (A 59).c (codeE P cal (codeF P cal k) none 59 (cR code59) (Lv.b (A 59)) (doneK P results59) X0 (doneK P results59)))
noncomputable def K59_pr (cal : Cal) (k : Nat) : KC (Value × Hp × Nat) := (cutK (Lv.b (A 59)).c (codeE P cal (codeF P cal k) none 59 (cR (cR code59)) (Lv.b (Lv.b (A 59))) (doneK P results59) X0 (doneK P results59)))
noncomputable def B59_0 (cal : Cal) (k : Nat) (v0 : Value) (H : Hp) (n : Nat) : Res :=
boxK 54 v0 H n fun v1_1 H_2 n_3 =>
some ((Value.func (Go.Fn.func 70) ⟨[]⟩ ⟨[v1_1]⟩), H_2, n_3)
noncomputable def C59_0 (cal : Cal) (k : Nat) (v0 : Value) (H : Hp) (n : Nat) : Res := B59_0 cal k v0 H n
theorem h59_0 (cal : Cal) (k : Nat) (v0 : Value) (H : Hp) (n : Nat) : bodyE P cal A (k + 1) 59 [v0] H n = C59_0 cal k v0 H n := by
  have h : bodyE P cal A (k + 1) 59 [v0] H n = B59_0 cal k v0 H n := by
    rw [body_eq (fn := Go.Proofs.Try.f59) (c := code59) (rs := results59) (by kernel_rfl) (by kernel_rfl) (by kernel_rfl) (by kernel_rfl)]
    kernel_rfl
  rw [h, C59_0]
noncomputable def code60 : Code := codeOf 60
noncomputable def results60 : List ResultVar := resOf 60
noncomputable def K60_p (cal : Cal) (k : Nat) : KC (Value × Hp × Nat) := (cutK (A 60).c (codeE P cal (codeF P cal k) none 60 (cR code60) (Lv.b (A 60)) (doneK P results60) X0 (doneK P results60)))
noncomputable def K60_pr (cal : Cal) (k : Nat) : KC (Value × Hp × Nat) := (cutK (Lv.b (A 60)).c (codeE P cal (codeF P cal k) none 60 (cR (cR code60)) (Lv.b (Lv.b (A 60))) (doneK P results60) X0 (doneK P results60)))
noncomputable def B60_0 (cal : Cal) (k : Nat) (v0 : Value) (H : Hp) (n : Nat) : Res :=
binK P Go.BinOp.neq 3 (Go.Operand.tmp 3) (Go.Operand.tmp 4) v0 v0 fun v5_4 =>
some (v5_4, H, n)
noncomputable def C60_0 (cal : Cal) (k : Nat) (v0 : Value) (H : Hp) (n : Nat) : Res := B60_0 cal k v0 H n
theorem h60_0 (cal : Cal) (k : Nat) (v0 : Value) (H : Hp) (n : Nat) : bodyE P cal A (k + 1) 60 [v0] H n = C60_0 cal k v0 H n := by
  have h : bodyE P cal A (k + 1) 60 [v0] H n = B60_0 cal k v0 H n := by
    rw [body_eq (fn := Go.Proofs.Try.f60) (c := code60) (rs := results60) (by kernel_rfl) (by kernel_rfl) (by kernel_rfl) (by kernel_rfl)]
    kernel_rfl
  rw [h, C60_0]
noncomputable def code61 : Code := codeOf 61
noncomputable def results61 : List ResultVar := resOf 61
noncomputable def K61_p (cal : Cal) (k : Nat) : KC (Value × Hp × Nat) := (cutK (A 61).c (codeE P cal (codeF P cal k) none 61 (cR code61) (Lv.b (A 61)) (doneK P results61) X0 (doneK P results61)))
noncomputable def K61_pr (cal : Cal) (k : Nat) : KC (Value × Hp × Nat) := (cutK (Lv.b (A 61)).c (codeE P cal (codeF P cal k) none 61 (cR (cR code61)) (Lv.b (Lv.b (A 61))) (doneK P results61) X0 (doneK P results61)))
noncomputable def K61_pxrl (cal : Cal) (k : Nat) : XC (Value × Hp × Nat) := (upX 0 (K61_pr cal k) X0)
noncomputable def K61_prllrl (cal : Cal) (k : Nat) : KC (Value × Hp × Nat) := (cutK (Lv.a (Lv.b (Lv.a (Lv.a (Lv.b (A 61)))))).c (codeE P cal (codeF P cal k) none 61 (cR (cL (cR (cL (cL (cR code61)))))) (Lv.b (Lv.a (Lv.b (Lv.a (Lv.a (Lv.b (A 61))))))) (K61_pr cal k) (K61_pxrl cal k) (doneK P results61)))
noncomputable def K61_prllrrrl (cal : Cal) (k : Nat) : KC (Value × Hp × Nat) := (cutK (Lv.a (Lv.b (Lv.b (Lv.b (Lv.a (Lv.a (Lv.b (A 61)))))))).c (codeE P cal (codeF P cal k) none 61 (cR (cL (cR (cR (cR (cL (cL (cR code61)))))))) (Lv.b (Lv.a (Lv.b (Lv.b (Lv.b (Lv.a (Lv.a (Lv.b (A 61))))))))) (K61_pr cal k) (K61_pxrl cal k) (doneK P results61)))
noncomputable def K61_prllrrrrrl (cal : Cal) (k : Nat) : KC (Value × Hp × Nat) := (cutK (Lv.a (Lv.b (Lv.b (Lv.b (Lv.b (Lv.b (Lv.a (Lv.a (Lv.b (A 61)))))))))).c (codeE P cal (codeF P cal k) none 61 (cR (cL (cR (cR (cR (cR (cR (cL (cL (cR code61)))))))))) (Lv.b (Lv.a (Lv.b (Lv.b (Lv.b (Lv.b (Lv.b (Lv.a (Lv.a (Lv.b (A 61))))))))))) (K61_pr cal k) (K61_pxrl cal k) (doneK P results61)))
noncomputable def K61_prr (cal : Cal) (k : Nat) : KC (Value × Hp × Nat) := (cutK (Lv.b (Lv.b (A 61))).c (codeE P cal (codeF P cal k) none 61 (cR (cR (cR code61))) (Lv.b (Lv.b (Lv.b (A 61)))) (doneK P results61) X0 (doneK P results61)))
noncomputable def K61_prllrrrr (cal : Cal) (k : Nat) : KC (Value × Hp × Nat) := (cutK (Lv.b (Lv.b (Lv.b (Lv.b (Lv.a (Lv.a (Lv.b (A 61)))))))).c (codeE P cal (codeF P cal k) none 61 (cR (cR (cR (cR (cR (cL (cL (cR code61)))))))) (Lv.b (Lv.b (Lv.b (Lv.b (Lv.b (Lv.a (Lv.a (Lv.b (A 61))))))))) (K61_pr cal k) (K61_pxrl cal k) (doneK P results61)))
noncomputable def K61_prllrrrrl (cal : Cal) (k : Nat) : KC (Value × Hp × Nat) := (cutK (Lv.a (Lv.b (Lv.b (Lv.b (Lv.b (Lv.a (Lv.a (Lv.b (A 61))))))))).c (codeE P cal (codeF P cal k) none 61 (cR (cL (cR (cR (cR (cR (cL (cL (cR code61))))))))) (Lv.b (Lv.a (Lv.b (Lv.b (Lv.b (Lv.b (Lv.a (Lv.a (Lv.b (A 61)))))))))) (K61_prllrrrr cal k) (K61_pxrl cal k) (doneK P results61)))
noncomputable def K61_prllrrrrlrr (cal : Cal) (k : Nat) : KC (Value × Hp × Nat) := (cutK (Lv.b (Lv.b (Lv.a (Lv.b (Lv.b (Lv.b (Lv.b (Lv.a (Lv.a (Lv.b (A 61))))))))))).c (codeE P cal (codeF P cal k) none 61 (cR (cR (cR (cL (cR (cR (cR (cR (cL (cL (cR code61))))))))))) (Lv.b (Lv.b (Lv.b (Lv.a (Lv.b (Lv.b (Lv.b (Lv.b (Lv.a (Lv.a (Lv.b (A 61)))))))))))) (K61_prllrrrr cal k) (K61_pxrl cal k) (doneK P results61)))
noncomputable def K61_prllrr (cal : Cal) (k : Nat) : KC (Value × Hp × Nat) := (cutK (Lv.b (Lv.b (Lv.a (Lv.a (Lv.b (A 61)))))).c (codeE P cal (codeF P cal k) none 61 (cR (cR (cR (cL (cL (cR code61)))))) (Lv.b (Lv.b (Lv.b (Lv.a (Lv.a (Lv.b (A 61))))))) (K61_pr cal k) (K61_pxrl cal k) (doneK P results61)))
noncomputable def K61_prllrrl (cal : Cal) (k : Nat) : KC (Value × Hp × Nat) := (cutK (Lv.a (Lv.b (Lv.b (Lv.a (Lv.a (Lv.b (A 61))))))).c (codeE P cal (codeF P cal k) none 61 (cR (cL (cR (cR (cL (cL (cR code61))))))) (Lv.b (Lv.a (Lv.b (Lv.b (Lv.a (Lv.a (Lv.b (A 61)))))))) (K61_prllrr cal k) (K61_pxrl cal k) (doneK P results61)))
noncomputable def K61_prll (cal : Cal) (k : Nat) : KC (Value × Hp × Nat) := (cutK (Lv.a (Lv.a (Lv.b (A 61)))).c (codeE P cal (codeF P cal k) none 61 (cR (cL (cL (cR code61)))) (Lv.b (Lv.a (Lv.a (Lv.b (A 61))))) (K61_pr cal k) (K61_pxrl cal k) (doneK P results61)))
noncomputable def K61_prlll (cal : Cal) (k : Nat) : KC (Value × Hp × Nat) := (cutK (Lv.a (Lv.a (Lv.a (Lv.b (A 61))))).c (codeE P cal (codeF P cal k) none 61 (cR (cL (cL (cL (cR code61))))) (Lv.b (Lv.a (Lv.a (Lv.a (Lv.b (A 61)))))) (K61_prll cal k) (K61_pxrl cal k) (doneK P results61)))
noncomputable def K61_prlllrr (cal : Cal) (k : Nat) : KC (Value × Hp × Nat) := (cutK (Lv.b (Lv.b (Lv.a (Lv.a (Lv.a (Lv.b (A 61))))))).c (codeE P cal (codeF P cal k) none 61 (cR (cR (cR (cL (cL (cL (cR code61))))))) (Lv.b (Lv.b (Lv.b (Lv.a (Lv.a (Lv.a (Lv.b (A 61)))))))) (K61_prll cal k) (K61_pxrl cal k) (doneK P results61)))
noncomputable def E61_3 (cal : Cal) (k : Nat) : KC (Value × Hp × Nat) := codeE P cal (codeF P cal k) none 61 (cR (cR (cR (cR (cR (cL (cL (cR code61)))))))) (Lv.b (Lv.b (Lv.b (Lv.b (Lv.b (Lv.a (Lv.a (Lv.b (A 61))))))))) (K61_pr cal k) (K61_pxrl cal k) (doneK P results61)
noncomputable def E61_2 (cal : Cal) (k : Nat) : KC (Value × Hp × Nat) := codeE P cal (codeF P cal k) none 61 (cR (cR (cR (cL (cL (cR code61)))))) (Lv.b (Lv.b (Lv.b (Lv.a (Lv.a (Lv.b (A 61))))))) (K61_pr cal k) (K61_pxrl cal k) (doneK P results61)
noncomputable def E61_1 (cal : Cal) (k : Nat) : KC (Value × Hp × Nat) := codeE P cal (codeF P cal k) none 61 (cR (cL (cL (cR code61)))) (Lv.b (Lv.a (Lv.a (Lv.b (A 61))))) (K61_pr cal k) (K61_pxrl cal k) (doneK P results61)
noncomputable def B61_3 (cal : Cal) (k : Nat) (u25 : Value) (H : Hp) (n : Nat) : Res :=
ifK u25 (
some ((Go.Value.int Go.IntKind.i64 1), H, n)) (
some ((Go.Value.int Go.IntKind.i64 0), H, n))
noncomputable def C61_3 (cal : Cal) (k : Nat) (u25 : Value) (H : Hp) (n : Nat) : Res := B61_3 cal k u25 H n
theorem h61_3 (cal : Cal) (k : Nat) (u25 : Value) (H : Hp) (n : Nat) : labK (E61_3 cal k) (Tr.set Tr.nil 25 (some u25)) H n [] = C61_3 cal k u25 H n := by
  have h : labK (E61_3 cal k) (Tr.set Tr.nil 25 (some u25)) H n [] = B61_3 cal k u25 H n := by kernel_rfl
  rw [h, C61_3]
theorem q61_3 (cal : Cal) (k : Nat) (u25 : Value) (H : Hp) (n : Nat) : labK (E61_3 cal k) (Tr.set Tr.nil 25 (some u25)) H n [] = C61_3 cal k u25 H n := h61_3 ..
noncomputable def B61_2 (cal : Cal) (k : Nat) (j3 : Value → Hp → Nat → Res) (u1 u16 : Value) (H : Hp) (n : Nat) : Res :=
ifK u16 (
some ((Go.Value.int Go.IntKind.i64 1), H, n)) (
bindO (fieldAddrV P 30 u1 0) fun v26_9 =>
bindO (addrV v26_9) fun a_11 => bindO (loadV P H 26 a_11) fun v27_10 =>
callFK P cal 71 [v27_10, (Value.func (.func 72) #[] #[])] H n fun v28_12 H_13 n_14 =>
bindO (pureSem P v28_12 (Op.unary Go.UnOp.not v28_12)) fun v29_15 =>
ifK v29_15 (
j3 v29_15 H_13 n_14) (
bindO (fieldAddrV P 30 u1 1) fun v30_17 =>
bindO (addrV v30_17) fun a_19 => bindO (loadV P H_13 27 a_19) fun v31_18 =>
bindO (addrV u1) fun a_21 => bindO (loadV P H_13 30 a_21) fun v32_20 =>
callFK P cal 73 [v31_18, (Value.func (Go.Fn.func 74) ⟨[v32_20]⟩ ⟨[]⟩)] H_13 n_14 fun v34_23 H_24 n_25 =>
bindO (pureSem P v34_23 (Op.unary Go.UnOp.not v34_23)) fun v35_26 =>
ifK v35_26 (
j3 v35_26 H_24 n_25) (
bindO (fieldAddrV P 30 u1 2) fun v36_28 =>
bindO (addrV v36_28) fun a_30 => bindO (loadV P H_24 28 a_30) fun v37_29 =>
callFK P cal 75 [v37_29, (Value.func (.func 76) #[] #[])] H_24 n_25 fun v38_31 H_32 n_33 =>
bindO (pureSem P v38_31 (Op.unary Go.UnOp.not v38_31)) fun v39_34 =>
j3 v39_34 H_32 n_33)))
noncomputable def C61_2 (cal : Cal) (k : Nat) (u1 u16 : Value) (H : Hp) (n : Nat) : Res := B61_2 cal k (C61_3 cal k) u1 u16 H n
theorem h61_2 (cal : Cal) (k : Nat) (u1 u16 : Value) (H : Hp) (n : Nat) : labK (E61_2 cal k) (Tr.set (Tr.set Tr.nil 16 (some u16)) 1 (some u1)) H n [] = C61_2 cal k u1 u16 H n := by
  have h : labK (E61_2 cal k) (Tr.set (Tr.set Tr.nil 16 (some u16)) 1 (some u1)) H n [] = B61_2 cal k (fun u25 H n => labK (E61_3 cal k) (Tr.set Tr.nil 25 (some u25)) H n []) u1 u16 H n := by kernel_rfl
  rw [h, C61_2]
  have e3 : (fun u25 H n => labK (E61_3 cal k) (Tr.set Tr.nil 25 (some u25)) H n []) = (C61_3 cal k) := by funext u25 H n; exact q61_3 ..
  rw [e3]
theorem q61_2 (cal : Cal) (k : Nat) (u1 u16 : Value) (H : Hp) (n : Nat) : labK (E61_2 cal k) (Tr.set (Tr.set Tr.nil 16 (some u16)) 1 (some u1)) H n [] = C61_2 cal k u1 u16 H n := h61_2 ..
noncomputable def B61_1 (cal : Cal) (k : Nat) (j2 : Value → Value → Hp → Nat → Res) (u1 u3 : Value) (H : Hp) (n : Nat) : Res :=
ifK u3 (
some ((Go.Value.int Go.IntKind.i64 3), H, n)) (
bindO (fieldAddrV P 30 u1 0) fun v17_36 =>
bindO (addrV v17_36) fun a_38 => bindO (loadV P H 26 a_38) fun v18_37 =>
bindO (lenV P 26 v18_37) fun v19_39 =>
binK P Go.BinOp.eql 3 (Go.Operand.tmp 19) (Go.Operand.const (Go.Value.int Go.IntKind.i64 0)) v19_39 (Go.Value.int Go.IntKind.i64 0) fun v20_40 =>
ifK v20_40 (
j2 u1 v20_40 H n) (
bindO (fieldAddrV P 30 u1 2) fun v21_42 =>
bindO (addrV v21_42) fun a_44 => bindO (loadV P H 28 a_44) fun v22_43 =>
bindO (lenV P 28 v22_43) fun v23_45 =>
binK P Go.BinOp.eql 3 (Go.Operand.tmp 23) (Go.Operand.const (Go.Value.int Go.IntKind.i64 0)) v23_45 (Go.Value.int Go.IntKind.i64 0) fun v24_46 =>
j2 u1 v24_46 H n))
noncomputable def C61_1 (cal : Cal) (k : Nat) (u1 u3 : Value) (H : Hp) (n : Nat) : Res := B61_1 cal k (C61_2 cal k) u1 u3 H n
theorem h61_1 (cal : Cal) (k : Nat) (u1 u3 : Value) (H : Hp) (n : Nat) : labK (E61_1 cal k) (Tr.set (Tr.set Tr.nil 3 (some u3)) 1 (some u1)) H n [] = C61_1 cal k u1 u3 H n := by
  have h : labK (E61_1 cal k) (Tr.set (Tr.set Tr.nil 3 (some u3)) 1 (some u1)) H n [] = B61_1 cal k (fun u1 u16 H n => labK (E61_2 cal k) (Tr.set (Tr.set Tr.nil 16 (some u16)) 1 (some u1)) H n []) u1 u3 H n := by kernel_rfl
  rw [h, C61_1]
  have e2 : (fun u1 u16 H n => labK (E61_2 cal k) (Tr.set (Tr.set Tr.nil 16 (some u16)) 1 (some u1)) H n []) = (C61_2 cal k) := by funext u1 u16 H n; exact q61_2 ..
  rw [e2]
theorem q61_1 (cal : Cal) (k : Nat) (u1 u3 : Value) (H : Hp) (n : Nat) : labK (E61_1 cal k) (Tr.set (Tr.set Tr.nil 3 (some u3)) 1 (some u1)) H n [] = C61_1 cal k u1 u3 H n := h61_1 ..
noncomputable def B61_0 (cal : Cal) (k : Nat) (j1 : Value → Value → Hp → Nat → Res) (v0 : Value) (H : Hp) (n : Nat) : Res :=
boxK 30 v0 H n fun v1_1 H_2 n_3 =>
bindO (fieldAddrV P 30 v1_1 0) fun v4_48 =>
bindO (addrV v4_48) fun a_50 => bindO (loadV P H_2 26 a_50) fun v5_49 =>
bindO (lenV P 26 v5_49) fun v6_51 =>
binK P Go.BinOp.gtr 3 (Go.Operand.tmp 6) (Go.Operand.const (Go.Value.int Go.IntKind.i64 8)) v6_51 (Go.Value.int Go.IntKind.i64 8) fun v7_52 =>
ifK v7_52 (
j1 v1_1 v7_52 H_2 n_3) (
bindO (fieldAddrV P 30 v1_1 1) fun v8_54 =>
bindO (addrV v8_54) fun a_56 => bindO (loadV P H_2 27 a_56) fun v9_55 =>
bindO (lenV P 27 v9_55) fun v10_57 =>
binK P Go.BinOp.gtr 3 (Go.Operand.tmp 10) (Go.Operand.const (Go.Value.int Go.IntKind.i64 16)) v10_57 (Go.Value.int Go.IntKind.i64 16) fun v11_58 =>
ifK v11_58 (
j1 v1_1 v11_58 H_2 n_3) (
bindO (fieldAddrV P 30 v1_1 2) fun v12_60 =>
bindO (addrV v12_60) fun a_62 => bindO (loadV P H_2 28 a_62) fun v13_61 =>
bindO (lenV P 28 v13_61) fun v14_63 =>
binK P Go.BinOp.gtr 3 (Go.Operand.tmp 14) (Go.Operand.const (Go.Value.int Go.IntKind.i64 3)) v14_63 (Go.Value.int Go.IntKind.i64 3) fun v15_64 =>
j1 v1_1 v15_64 H_2 n_3))
noncomputable def C61_0 (cal : Cal) (k : Nat) (v0 : Value) (H : Hp) (n : Nat) : Res := B61_0 cal k (C61_1 cal k) v0 H n
theorem h61_0 (cal : Cal) (k : Nat) (v0 : Value) (H : Hp) (n : Nat) : bodyE P cal A (k + 1) 61 [v0] H n = C61_0 cal k v0 H n := by
  have h : bodyE P cal A (k + 1) 61 [v0] H n = B61_0 cal k (fun u1 u3 H n => labK (E61_1 cal k) (Tr.set (Tr.set Tr.nil 3 (some u3)) 1 (some u1)) H n []) v0 H n := by
    rw [body_eq (fn := Go.Proofs.Try.f61) (c := code61) (rs := results61) (by kernel_rfl) (by kernel_rfl) (by kernel_rfl) (by kernel_rfl)]
    kernel_rfl
  rw [h, C61_0]
  have e1 : (fun u1 u3 H n => labK (E61_1 cal k) (Tr.set (Tr.set Tr.nil 3 (some u3)) 1 (some u1)) H n []) = (C61_1 cal k) := by funext u1 u3 H n; exact q61_1 ..
  rw [e1]
noncomputable def code62 : Code := codeOf 62
noncomputable def results62 : List ResultVar := resOf 62
noncomputable def K62_p (cal : Cal) (k : Nat) : KC (Value × Hp × Nat) := (cutK (A 62).c (codeE P cal (codeF P cal k) none 62 (cR code62) (Lv.b (A 62)) (doneK P results62) X0 (doneK P results62)))
noncomputable def K62_pr (cal : Cal) (k : Nat) : KC (Value × Hp × Nat) := (cutK (Lv.b (A 62)).c (codeE P cal (codeF P cal k) none 62 (cR (cR code62)) (Lv.b (Lv.b (A 62))) (doneK P results62) X0 (doneK P results62)))
noncomputable def K62_pxrr (cal : Cal) (k : Nat) : XC (Value × Hp × Nat) := (upX 0 (doneK P results62) X0)
noncomputable def K62_prrl (cal : Cal) (k : Nat) (m1 : Nat) : KC (Value × Hp × Nat) := (fun T H n D => codeF P cal m1 (Lv.a (Lv.b (Lv.b (A 62)))) none 62 (cL (cR (cR code62))) (doneK P results62) (K62_pxrr cal k) (doneK P results62) (cutT (Lv.a (Lv.b (Lv.b (A 62)))).c T) H n D)
noncomputable def K62_pxrrll (cal : Cal) (k : Nat) (m1 : Nat) : XC (Value × Hp × Nat) := (upX 1 (K62_prrl cal k m1) (K62_pxrr cal k))
noncomputable def K62_prrlll (cal : Cal) (k : Nat) (m1 : Nat) : KC (Value × Hp × Nat) := (cutK (Lv.a (Lv.a (Lv.a (Lv.b (Lv.b (A 62)))))).c (codeE P cal (codeF P cal m1) none 62 (cR (cL (cL (cL (cR (cR code62)))))) (Lv.b (Lv.a (Lv.a (Lv.a (Lv.b (Lv.b (A 62))))))) (K62_prrl cal k m1) (K62_pxrrll cal k m1) (doneK P results62)))
noncomputable def K62_prrlllr (cal : Cal) (k : Nat) (m1 : Nat) : KC (Value × Hp × Nat) := (cutK (Lv.b (Lv.a (Lv.a (Lv.a (Lv.b (Lv.b (A 62))))))).c (codeE P cal (codeF P cal m1) none 62 (cR (cR (cL (cL (cL (cR (cR code62))))))) (Lv.b (Lv.b (Lv.a (Lv.a (Lv.a (Lv.b (Lv.b (A 62)))))))) (K62_prrl cal k m1) (K62_pxrrll cal k m1) (doneK P results62)))
noncomputable def K62_prrlllrl (cal : Cal) (k : Nat) (m1 : Nat) : KC (Value × Hp × Nat) := (cutK (Lv.a (Lv.b (Lv.a (Lv.a (Lv.a (Lv.b (Lv.b (A 62)))))))).c (codeE P cal (codeF P cal m1) none 62 (cR (cL (cR (cL (cL (cL (cR (cR code62)))))))) (Lv.b (Lv.a (Lv.b (Lv.a (Lv.a (Lv.a (Lv.b (Lv.b (A 62))))))))) (K62_prrlllr cal k m1) (K62_pxrrll cal k m1) (doneK P results62)))
noncomputable def K62_prrlllrlrl (cal : Cal) (k : Nat) (m1 : Nat) : KC (Value × Hp × Nat) := (cutK (Lv.a (Lv.b (Lv.a (Lv.b (Lv.a (Lv.a (Lv.a (Lv.b (Lv.b (A 62)))))))))).c (codeE P cal (codeF P cal m1) none 62 (cR (cL (cR (cL (cR (cL (cL (cL (cR (cR code62)))))))))) (Lv.b (Lv.a (Lv.b (Lv.a (Lv.b (Lv.a (Lv.a (Lv.a (Lv.b (Lv.b (A 62))))))))))) (K62_prrlllr cal k m1) (K62_pxrrll cal k m1) (doneK P results62)))
noncomputable def K62_prrlllrr (cal : Cal) (k : Nat) (m1 : Nat) : KC (Value × Hp × Nat) := (cutK (Lv.b (Lv.b (Lv.a (Lv.a (Lv.a (Lv.b (Lv.b (A 62)))))))).c (codeE P cal (codeF P cal m1) none 62 (cR (cR (cR (cL (cL (cL (cR (cR code62)))))))) (Lv.b (Lv.b (Lv.b (Lv.a (Lv.a (Lv.a (Lv.b (Lv.b (A 62))))))))) (K62_prrl cal k m1) (K62_pxrrll cal k m1) (doneK P results62)))
noncomputable def K62_prrlllrrl (cal : Cal) (k : Nat) (m1 : Nat) : KC (Value × Hp × Nat) := (cutK (Lv.a (Lv.b (Lv.b (Lv.a (Lv.a (Lv.a (Lv.b (Lv.b (A 62))))))))).c (codeE P cal (codeF P cal m1) none 62 (cR (cL (cR (cR (cL (cL (cL (cR (cR code62))))))))) (Lv.b (Lv.a (Lv.b (Lv.b (Lv.a (Lv.a (Lv.a (Lv.b (Lv.b (A 62)))))))))) (K62_prrlllrr cal k m1) (K62_pxrrll cal k m1) (doneK P results62)))
noncomputable def K62_prrlllrrlrl (cal : Cal) (k : Nat) (m1 : Nat) : KC (Value × Hp × Nat) := (cutK (Lv.a (Lv.b (Lv.a (Lv.b (Lv.b (Lv.a (Lv.a (Lv.a (Lv.b (Lv.b (A 62))))))))))).c (codeE P cal (codeF P cal m1) none 62 (cR (cL (cR (cL (cR (cR (cL (cL (cL (cR (cR code62))))))))))) (Lv.b (Lv.a (Lv.b (Lv.a (Lv.b (Lv.b (Lv.a (Lv.a (Lv.a (Lv.b (Lv.b (A 62)))))))))))) (K62_prrlllrr cal k m1) (K62_pxrrll cal k m1) (doneK P results62)))
noncomputable def K62_prrlllrrrr (cal : Cal) (k : Nat) (m1 : Nat) : KC (Value × Hp × Nat) := (cutK (Lv.b (Lv.b (Lv.b (Lv.b (Lv.a (Lv.a (Lv.a (Lv.b (Lv.b (A 62)))))))))).c (codeE P cal (codeF P cal m1) none 62 (cR (cR (cR (cR (cR (cL (cL (cL (cR (cR code62)))))))))) (Lv.b (Lv.b (Lv.b (Lv.b (Lv.b (Lv.a (Lv.a (Lv.a (Lv.b (Lv.b (A 62))))))))))) (K62_prrl cal k m1) (K62_pxrrll cal k m1) (doneK P results62)))
noncomputable def K62_prrlllrrrrrrr (cal : Cal) (k : Nat) (m1 : Nat) : KC (Value × Hp × Nat) := (cutK (Lv.b (Lv.b (Lv.b (Lv.b (Lv.b (Lv.b (Lv.b (Lv.a (Lv.a (Lv.a (Lv.b (Lv.b (A 62))))))))))))).c (codeE P cal (codeF P cal m1) none 62 (cR (cR (cR (cR (cR (cR (cR (cR (cL (cL (cL (cR (cR code62))))))))))))) (Lv.b (Lv.b (Lv.b (Lv.b (Lv.b (Lv.b (Lv.b (Lv.b (Lv.a (Lv.a (Lv.a (Lv.b (Lv.b (A 62)))))))))))))) (K62_prrl cal k m1) (K62_pxrrll cal k m1) (doneK P results62)))
noncomputable def K62_prrlllrrrrrrrl (cal : Cal) (k : Nat) (m1 : Nat) : KC (Value × Hp × Nat) := (cutK (Lv.a (Lv.b (Lv.b (Lv.b (Lv.b (Lv.b (Lv.b (Lv.b (Lv.a (Lv.a (Lv.a (Lv.b (Lv.b (A 62)))))))))))))).c (codeE P cal (codeF P cal m1) none 62 (cR (cL (cR (cR (cR (cR (cR (cR (cR (cL (cL (cL (cR (cR code62)))))))))))))) (Lv.b (Lv.a (Lv.b (Lv.b (Lv.b (Lv.b (Lv.b (Lv.b (Lv.b (Lv.a (Lv.a (Lv.a (Lv.b (Lv.b (A 62))))))))))))))) (K62_prrlllrrrrrrr cal k m1) (K62_pxrrll cal k m1) (doneK P results62)))
noncomputable def K62_prrlllrrrrrrrlrl (cal : Cal) (k : Nat) (m1 : Nat) : KC (Value × Hp × Nat) := (cutK (Lv.a (Lv.b (Lv.a (Lv.b (Lv.b (Lv.b (Lv.b (Lv.b (Lv.b (Lv.b (Lv.a (Lv.a (Lv.a (Lv.b (Lv.b (A 62)))))))))))))))).c (codeE P cal (codeF P cal m1) none 62 (cR (cL (cR (cL (cR (cR (cR (cR (cR (cR (cR (cL (cL (cL (cR (cR code62)))))))))))))))) (Lv.b (Lv.a (Lv.b (Lv.a (Lv.b (Lv.b (Lv.b (Lv.b (Lv.b (Lv.b (Lv.b (Lv.a (Lv.a (Lv.a (Lv.b (Lv.b (A 62))))))))))))))))) (K62_prrlllrrrrrrr cal k m1) (K62_pxrrll cal k m1) (doneK P results62)))
noncomputable def K62_prrlllrrrrrrrlrlr (cal : Cal) (k : Nat) (m1 : Nat) : KC (Value × Hp × Nat) := (cutK (Lv.b (Lv.a (Lv.b (Lv.a (Lv.b (Lv.b (Lv.b (Lv.b (Lv.b (Lv.b (Lv.b (Lv.a (Lv.a (Lv.a (Lv.b (Lv.b (A 62))))))))))))))))).c (codeE P cal (codeF P cal m1) none 62 (cR (cR (cL (cR (cL (cR (cR (cR (cR (cR (cR (cR (cL (cL (cL (cR (cR code62))))))))))))))))) (Lv.b (Lv.b (Lv.a (Lv.b (Lv.a (Lv.b (Lv.b (Lv.b (Lv.b (Lv.b (Lv.b (Lv.b (Lv.a (Lv.a (Lv.a (Lv.b (Lv.b (A 62)))))))))))))))))) (K62_prrlllrrrrrrr cal k m1) (K62_pxrrll cal k m1) (doneK P results62)))
noncomputable def K62_prrlllrrrrrrrr (cal : Cal) (k : Nat) (m1 : Nat) : KC (Value × Hp × Nat) := (cutK (Lv.b (Lv.b (Lv.b (Lv.b (Lv.b (Lv.b (Lv.b (Lv.b (Lv.a (Lv.a (Lv.a (Lv.b (Lv.b (A 62)))))))))))))).c (codeE P cal (codeF P cal m1) none 62 (cR (cR (cR (cR (cR (cR (cR (cR (cR (cL (cL (cL (cR (cR code62)))))))))))))) (Lv.b (Lv.b (Lv.b (Lv.b (Lv.b (Lv.b (Lv.b (Lv.b (Lv.b (Lv.a (Lv.a (Lv.a (Lv.b (Lv.b (A 62))))))))))))))) (K62_prrl cal k m1) (K62_pxrrll cal k m1) (doneK P results62)))
noncomputable def K62_prrlllrrrrrrrrr (cal : Cal) (k : Nat) (m1 : Nat) : KC (Value × Hp × Nat) := (cutK (Lv.b (Lv.b (Lv.b (Lv.b (Lv.b (Lv.b (Lv.b (Lv.b (Lv.b (Lv.a (Lv.a (Lv.a (Lv.b (Lv.b (A 62))))))))))))))).c (codeE P cal (codeF P cal m1) none 62 (cR (cR (cR (cR (cR (cR (cR (cR (cR (cR (cL (cL (cL (cR (cR code62))))))))))))))) (Lv.b (Lv.b (Lv.b (Lv.b (Lv.b (Lv.b (Lv.b (Lv.b (Lv.b (Lv.b (Lv.a (Lv.a (Lv.a (Lv.b (Lv.b (A 62)))))))))))))))) (K62_prrl cal k m1) (K62_pxrrll cal k m1) (doneK P results62)))
noncomputable def K62_prrlllrrrrrrrrrr (cal : Cal) (k : Nat) (m1 : Nat) : KC (Value × Hp × Nat) := (cutK (Lv.b (Lv.b (Lv.b (Lv.b (Lv.b (Lv.b (Lv.b (Lv.b (Lv.b (Lv.b (Lv.a (Lv.a (Lv.a (Lv.b (Lv.b (A 62)))))))))))))))).c (codeE P cal (codeF P cal m1) none 62 (cR (cR (cR (cR (cR (cR (cR (cR (cR (cR (cR (cL (cL (cL (cR (cR code62)))))))))))))))) (Lv.b (Lv.b (Lv.b (Lv.b (Lv.b (Lv.b (Lv.b (Lv.b (Lv.b (Lv.b (Lv.b (Lv.a (Lv.a (Lv.a (Lv.b (Lv.b (A 62))))))))))))))))) (K62_prrl cal k m1) (K62_pxrrll cal k m1) (doneK P results62)))
noncomputable def K62_prrlllrrrrrrrrrrr (cal : Cal) (k : Nat) (m1 : Nat) : KC (Value × Hp × Nat) := (cutK (Lv.b (Lv.b (Lv.b (Lv.b (Lv.b (Lv.b (Lv.b (Lv.b (Lv.b (Lv.b (Lv.b (Lv.a (Lv.a (Lv.a (Lv.b (Lv.b (A 62))))))))))))))))).c (codeE P cal (codeF P cal m1) none 62 (cR (cR (cR (cR (cR (cR (cR (cR (cR (cR (cR (cR (cL (cL (cL (cR (cR code62))))))))))))))))) (Lv.b (Lv.b (Lv.b (Lv.b (Lv.b (Lv.b (Lv.b (Lv.b (Lv.b (Lv.b (Lv.b (Lv.b (Lv.a (Lv.a (Lv.a (Lv.b (Lv.b (A 62)))))))))))))))))) (K62_prrl cal k m1) (K62_pxrrll cal k m1) (doneK P results62)))
noncomputable def K62_prrlllrrrrrrrrrrrr (cal : Cal) (k : Nat) (m1 : Nat) : KC (Value × Hp × Nat) := (cutK (Lv.b (Lv.b (Lv.b (Lv.b (Lv.b (Lv.b (Lv.b (Lv.b (Lv.b (Lv.b (Lv.b (Lv.b (Lv.a (Lv.a (Lv.a (Lv.b (Lv.b (A 62)))))))))))))))))).c (codeE P cal (codeF P cal m1) none 62 (cR (cR (cR (cR (cR (cR (cR (cR (cR (cR (cR (cR (cR (cL (cL (cL (cR (cR code62)))))))))))))))))) (Lv.b (Lv.b (Lv.b (Lv.b (Lv.b (Lv.b (Lv.b (Lv.b (Lv.b (Lv.b (Lv.b (Lv.b (Lv.b (Lv.a (Lv.a (Lv.a (Lv.b (Lv.b (A 62))))))))))))))))))) (K62_prrl cal k m1) (K62_pxrrll cal k m1) (doneK P results62)))
noncomputable def K62_prrlllrrrrrrrrrrrrrl (cal : Cal) (k : Nat) (m1 : Nat) : KC (Value × Hp × Nat) := (cutK (Lv.a (Lv.b (Lv.b (Lv.b (Lv.b (Lv.b (Lv.b (Lv.b (Lv.b (Lv.b (Lv.b (Lv.b (Lv.b (Lv.b (Lv.a (Lv.a (Lv.a (Lv.b (Lv.b (A 62)))))))))))))))))))).c (codeE P cal (codeF P cal m1) none 62 (cR (cL (cR (cR (cR (cR (cR (cR (cR (cR (cR (cR (cR (cR (cR (cL (cL (cL (cR (cR code62)))))))))))))))))))) (Lv.b (Lv.a (Lv.b (Lv.b (Lv.b (Lv.b (Lv.b (Lv.b (Lv.b (Lv.b (Lv.b (Lv.b (Lv.b (Lv.b (Lv.b (Lv.a (Lv.a (Lv.a (Lv.b (Lv.b (A 62))))))))))))))))))))) (K62_prrl cal k m1) (K62_pxrrll cal k m1) (doneK P results62)))
noncomputable def K62_prrlllrrrrrrrrrrrrrlr (cal : Cal) (k : Nat) (m1 : Nat) : KC (Value × Hp × Nat) := (cutK (Lv.b (Lv.a (Lv.b (Lv.b (Lv.b (Lv.b (Lv.b (Lv.b (Lv.b (Lv.b (Lv.b (Lv.b (Lv.b (Lv.b (Lv.b (Lv.a (Lv.a (Lv.a (Lv.b (Lv.b (A 62))))))))))))))))))))).c (codeE P cal (codeF P cal m1) none 62 (cR (cR (cL (cR (cR (cR (cR (cR (cR (cR (cR (cR (cR (cR (cR (cR (cL (cL (cL (cR (cR code62))))))))))))))))))))) (Lv.b (Lv.b (Lv.a (Lv.b (Lv.b (Lv.b (Lv.b (Lv.b (Lv.b (Lv.b (Lv.b (Lv.b (Lv.b (Lv.b (Lv.b (Lv.b (Lv.a (Lv.a (Lv.a (Lv.b (Lv.b (A 62)))))))))))))))))))))) (K62_prrl cal k m1) (K62_pxrrll cal k m1) (doneK P results62)))
noncomputable def K62_prrlllrrrrrrrrrrrrrr (cal : Cal) (k : Nat) (m1 : Nat) : KC (Value × Hp × Nat) := (cutK (Lv.b (Lv.b (Lv.b (Lv.b (Lv.b (Lv.b (Lv.b (Lv.b (Lv.b (Lv.b (Lv.b (Lv.b (Lv.b (Lv.b (Lv.a (Lv.a (Lv.a (Lv.b (Lv.b (A 62)))))))))))))))))))).c (codeE P cal (codeF P cal m1) none 62 (cR (cR (cR (cR (cR (cR (cR (cR (cR (cR (cR (cR (cR (cR (cR (cL (cL (cL (cR (cR code62)))))))))))))))))))) (Lv.b (Lv.b (Lv.b (Lv.b (Lv.b (Lv.b (Lv.b (Lv.b (Lv.b (Lv.b (Lv.b (Lv.b (Lv.b (Lv.b (Lv.b (Lv.a (Lv.a (Lv.a (Lv.b (Lv.b (A 62))))))))))))))))))))) (K62_prrl cal k m1) (K62_pxrrll cal k m1) (doneK P results62)))
noncomputable def K62_prrlllrrrrrrrrrrrrrrr (cal : Cal) (k : Nat) (m1 : Nat) : KC (Value × Hp × Nat) := (cutK (Lv.b (Lv.b (Lv.b (Lv.b (Lv.b (Lv.b (Lv.b (Lv.b (Lv.b (Lv.b (Lv.b (Lv.b (Lv.b (Lv.b (Lv.b (Lv.a (Lv.a (Lv.a (Lv.b (Lv.b (A 62))))))))))))))))))))).c (codeE P cal (codeF P cal m1) none 62 (cR (cR (cR (cR (cR (cR (cR (cR (cR (cR (cR (cR (cR (cR (cR (cR (cL (cL (cL (cR (cR code62))))))))))))))))))))) (Lv.b (Lv.b (Lv.b (Lv.b (Lv.b (Lv.b (Lv.b (Lv.b (Lv.b (Lv.b (Lv.b (Lv.b (Lv.b (Lv.b (Lv.b (Lv.b (Lv.a (Lv.a (Lv.a (Lv.b (Lv.b (A 62)))))))))))))))))))))) (K62_prrl cal k m1) (K62_pxrrll cal k m1) (doneK P results62)))
noncomputable def K62_prrlllrrrrrr (cal : Cal) (k : Nat) (m1 : Nat) : KC (Value × Hp × Nat) := (cutK (Lv.b (Lv.b (Lv.b (Lv.b (Lv.b (Lv.b (Lv.a (Lv.a (Lv.a (Lv.b (Lv.b (A 62)))))))))))).c (codeE P cal (codeF P cal m1) none 62 (cR (cR (cR (cR (cR (cR (cR (cL (cL (cL (cR (cR code62)))))))))))) (Lv.b (Lv.b (Lv.b (Lv.b (Lv.b (Lv.b (Lv.b (Lv.a (Lv.a (Lv.a (Lv.b (Lv.b (A 62))))))))))))) (K62_prrl cal k m1) (K62_pxrrll cal k m1) (doneK P results62)))
noncomputable def K62_prrlllrrrrrrl (cal : Cal) (k : Nat) (m1 : Nat) : KC (Value × Hp × Nat) := (cutK (Lv.a (Lv.b (Lv.b (Lv.b (Lv.b (Lv.b (Lv.b (Lv.a (Lv.a (Lv.a (Lv.b (Lv.b (A 62))))))))))))).c (codeE P cal (codeF P cal m1) none 62 (cR (cL (cR (cR (cR (cR (cR (cR (cL (cL (cL (cR (cR code62))))))))))))) (Lv.b (Lv.a (Lv.b (Lv.b (Lv.b (Lv.b (Lv.b (Lv.b (Lv.a (Lv.a (Lv.a (Lv.b (Lv.b (A 62)))))))))))))) (K62_prrlllrrrrrr cal k m1) (K62_pxrrll cal k m1) (doneK P results62)))
noncomputable def K62_prrlllrrrrrrlrl (cal : Cal) (k : Nat) (m1 : Nat) : KC (Value × Hp × Nat) := (cutK (Lv.a (Lv.b (Lv.a (Lv.b (Lv.b (Lv.b (Lv.b (Lv.b (Lv.b (Lv.a (Lv.a (Lv.a (Lv.b (Lv.b (A 62))))))))))))))).c (codeE P cal (codeF P cal m1) none 62 (cR (cL (cR (cL (cR (cR (cR (cR (cR (cR (cL (cL (cL (cR (cR code62))))))))))))))) (Lv.b (Lv.a (Lv.b (Lv.a (Lv.b (Lv.b (Lv.b (Lv.b (Lv.b (Lv.b (Lv.a (Lv.a (Lv.a (Lv.b (Lv.b (A 62)))))))))))))))) (K62_prrlllrrrrrr cal k m1) (K62_pxrrll cal k m1) (doneK P results62)))
noncomputable def K62_prrlllrrrrr (cal : Cal) (k : Nat) (m1 : Nat) : KC (Value × Hp × Nat) := (cutK (Lv.b (Lv.b (Lv.b (Lv.b (Lv.b (Lv.a (Lv.a (Lv.a (Lv.b (Lv.b (A 62))))))))))).c (codeE P cal (codeF P cal m1) none 62 (cR (cR (cR (cR (cR (cR (cL (cL (cL (cR (cR code62))))))))))) (Lv.b (Lv.b (Lv.b (Lv.b (Lv.b (Lv.b (Lv.a (Lv.a (Lv.a (Lv.b (Lv.b (A 62)))))))))))) (K62_prrl cal k m1) (K62_pxrrll cal k m1) (doneK P results62)))
noncomputable def K62_prrlllrrrrrl (cal : Cal) (k : Nat) (m1 : Nat) : KC (Value × Hp × Nat) := (cutK (Lv.a (Lv.b (Lv.b (Lv.b (Lv.b (Lv.b (Lv.a (Lv.a (Lv.a (Lv.b (Lv.b (A 62)))))))))))).c (codeE P cal (codeF P cal m1) none 62 (cR (cL (cR (cR (cR (cR (cR (cL (cL (cL (cR (cR code62)))))))))))) (Lv.b (Lv.a (Lv.b (Lv.b (Lv.b (Lv.b (Lv.b (Lv.a (Lv.a (Lv.a (Lv.b (Lv.b (A 62))))))))))))) (K62_prrlllrrrrr cal k m1) (K62_pxrrll cal k m1) (doneK P results62)))
noncomputable def K62_prrlllrrrrrlrl (cal : Cal) (k : Nat) (m1 : Nat) : KC (Value × Hp × Nat) := (cutK (Lv.a (Lv.b (Lv.a (Lv.b (Lv.b (Lv.b (Lv.b (Lv.b (Lv.a (Lv.a (Lv.a (Lv.b (Lv.b (A 62)))))))))))))).c (codeE P cal (codeF P cal m1) none 62 (cR (cL (cR (cL (cR (cR (cR (cR (cR (cL (cL (cL (cR (cR code62)))))))))))))) (Lv.b (Lv.a (Lv.b (Lv.a (Lv.b (Lv.b (Lv.b (Lv.b (Lv.b (Lv.a (Lv.a (Lv.a (Lv.b (Lv.b (A 62))))))))))))))) (K62_prrlllrrrrr cal k m1) (K62_pxrrll cal k m1) (doneK P results62)))
noncomputable def K62_prrlllrrrrrlrlr (cal : Cal) (k : Nat) (m1 : Nat) : KC (Value × Hp × Nat) := (cutK (Lv.b (Lv.a (Lv.b (Lv.a (Lv.b (Lv.b (Lv.b (Lv.b (Lv.b (Lv.a (Lv.a (Lv.a (Lv.b (Lv.b (A 62))))))))))))))).c (codeE P cal (codeF P cal m1) none 62 (cR (cR (cL (cR (cL (cR (cR (cR (cR (cR (cL (cL (cL (cR (cR code62))))))))))))))) (Lv.b (Lv.b (Lv.a (Lv.b (Lv.a (Lv.b (Lv.b (Lv.b (Lv.b (Lv.b (Lv.a (Lv.a (Lv.a (Lv.b (Lv.b (A 62)))))))))))))))) (K62_prrlllrrrrr cal k m1) (K62_pxrrll cal k m1) (doneK P results62)))
noncomputable def K62_prrlllrrr (cal : Cal) (k : Nat) (m1 : Nat) : KC (Value × Hp × Nat) := (cutK (Lv.b (Lv.b (Lv.b (Lv.a (Lv.a (Lv.a (Lv.b (Lv.b (A 62))))))))).c (codeE P cal (codeF P cal m1) none 62 (cR (cR (cR (cR (cL (cL (cL (cR (cR code62))))))))) (Lv.b (Lv.b (Lv.b (Lv.b (Lv.a (Lv.a (Lv.a (Lv.b (Lv.b (A 62)))))))))) (K62_prrl cal k m1) (K62_pxrrll cal k m1) (doneK P results62)))
noncomputable def K62_prrlllrrrl (cal : Cal) (k : Nat) (m1 : Nat) : KC (Value × Hp × Nat) := (cutK (Lv.a (Lv.b (Lv.b (Lv.b (Lv.a (Lv.a (Lv.a (Lv.b (Lv.b (A 62)))))))))).c (codeE P cal (codeF P cal m1) none 62 (cR (cL (cR (cR (cR (cL (cL (cL (cR (cR code62)))))))))) (Lv.b (Lv.a (Lv.b (Lv.b (Lv.b (Lv.a (Lv.a (Lv.a (Lv.b (Lv.b (A 62))))))))))) (K62_prrlllrrr cal k m1) (K62_pxrrll cal k m1) (doneK P results62)))
noncomputable def K62_prrlllrrrlrl (cal : Cal) (k : Nat) (m1 : Nat) : KC (Value × Hp × Nat) := (cutK (Lv.a (Lv.b (Lv.a (Lv.b (Lv.b (Lv.b (Lv.a (Lv.a (Lv.a (Lv.b (Lv.b (A 62)))))))))))).c (codeE P cal (codeF P cal m1) none 62 (cR (cL (cR (cL (cR (cR (cR (cL (cL (cL (cR (cR code62)))))))))))) (Lv.b (Lv.a (Lv.b (Lv.a (Lv.b (Lv.b (Lv.b (Lv.a (Lv.a (Lv.a (Lv.b (Lv.b (A 62))))))))))))) (K62_prrlllrrr cal k m1) (K62_pxrrll cal k m1) (doneK P results62)))
noncomputable def E62_4 (cal : Cal) (k m1 : Nat) : KC (Value × Hp × Nat) := codeE P cal (codeF P cal m1) none 62 (cR (cR (cR (cR (cR (cR (cR (cL (cL (cL (cR (cR code62)))))))))))) (Lv.b (Lv.b (Lv.b (Lv.b (Lv.b (Lv.b (Lv.b (Lv.a (Lv.a (Lv.a (Lv.b (Lv.b (A 62))))))))))))) (K62_prrl cal k m1) (K62_pxrrll cal k m1) (doneK P results62)
noncomputable def E62_3 (cal : Cal) (k m1 : Nat) : KC (Value × Hp × Nat) := codeE P cal (codeF P cal m1) none 62 (cR (cR (cR (cR (cR (cR (cL (cL (cL (cR (cR code62))))))))))) (Lv.b (Lv.b (Lv.b (Lv.b (Lv.b (Lv.b (Lv.a (Lv.a (Lv.a (Lv.b (Lv.b (A 62)))))))))))) (K62_prrl cal k m1) (K62_pxrrll cal k m1) (doneK P results62)
noncomputable def E62_2 (cal : Cal) (k m1 : Nat) : KC (Value × Hp × Nat) := codeE P cal (codeF P cal m1) none 62 (cR (cR (cR (cR (cL (cL (cL (cR (cR code62))))))))) (Lv.b (Lv.b (Lv.b (Lv.b (Lv.a (Lv.a (Lv.a (Lv.b (Lv.b (A 62)))))))))) (K62_prrl cal k m1) (K62_pxrrll cal k m1) (doneK P results62)
noncomputable def E62_1 (cal : Cal) (k m1 : Nat) : KC (Value × Hp × Nat) := codeE P cal (codeF P cal m1) none 62 (cL (cL (cR (cR code62)))) (Lv.a (Lv.a (Lv.b (Lv.b (A 62))))) (K62_prrl cal k m1) (K62_pxrr cal k) (doneK P results62)
noncomputable def R62_1 (cal : Cal) (k m1 : Nat) : Value → Value → Value → Value → Value → Value → Value → Hp → Nat → Res := fun u0 u1 u2 u3 u4 u10 u11 H n => codeF P cal m1 (Lv.a (Lv.b (Lv.b (A 62)))) none 62 (cL (cR (cR code62))) (doneK P results62) (K62_pxrr cal k) (doneK P results62) (Tr.set (Tr.set (Tr.set (Tr.set (Tr.set (Tr.set (Tr.set Tr.nil 11 (some u11)) 10 (some u10)) 4 (some u4)) 3 (some u3)) 2 (some u2)) 1 (some u1)) 0 (some u0)) H n []
noncomputable def B62_4 (cal : Cal) (k m1 : Nat) (b1 : Value → Value → Value → Value → Value → Value → Value → Hp → Nat → Res) (u0 u1 u2 u3 u4 u10 u11 u12 u13 : Value) (H : Hp) (n : Nat) : Res :=
binK P Go.BinOp.gtr 3 (Go.Operand.tmp 81) (Go.Operand.const (Go.Value.int Go.IntKind.i64 0)) u1 (Go.Value.int Go.IntKind.i64 0) fun v82_38 =>
guardD v82_38 true (fun k_40 =>
k_40 u4 .p H n) .p H n fun v_41 x_42 H_43 n_44 =>
guardD v82_38 true (fun k_46 =>
k_46 u0 .p H_43 n_44) .p H_43 n_44 fun v_47 x_48 H_49 n_50 =>
guardD v82_38 true (fun k_52 =>
k_52 u1 .p H_49 n_50) .p H_49 n_50 fun v_53 x_54 H_55 n_56 =>
guardD v82_38 true (fun k_58 =>
binK P Go.BinOp.sub 3 (Go.Operand.tmp 86) (Go.Operand.const (Go.Value.int Go.IntKind.i64 1)) v_53 (Go.Value.int Go.IntKind.i64 1) fun v87_63 =>
k_58 v87_63 .p H_55 n_56) .p H_55 n_56 fun v_59 x_60 H_61 n_62 =>
guardD v82_38 true (fun k_64 =>
bindO (indexAddrV P 54 v_47 v_59) fun v88_69 =>
k_64 v88_69 .p H_61 n_62) .p H_61 n_62 fun v_65 x_66 H_67 n_68 =>
guardD v82_38 true (fun k_70 =>
bindO (addrV v_65) fun a_75 => bindO (loadV P H_67 50 a_75) fun v_76 =>
k_70 v_76 (.l 50 a_75) H_67 n_68) .p H_67 n_68 fun v_71 x_72 H_73 n_74 =>
guardD v82_38 true (fun k_77 =>
k_77 u0 .p H_73 n_74) .p H_73 n_74 fun v_78 x_79 H_80 n_81 =>
guardD v82_38 true (fun k_83 =>
k_83 u13 .p H_80 n_81) .p H_80 n_81 fun v_84 x_85 H_86 n_87 =>
guardD v82_38 true (fun k_89 =>
bindO (indexAddrV P 54 v_78 v_84) fun v92_94 =>
k_89 v92_94 .p H_86 n_87) .p H_86 n_87 fun v_90 x_91 H_92 n_93 =>
guardD v82_38 true (fun k_95 =>
bindO (addrV v_90) fun a_100 => bindO (loadV P H_92 50 a_100) fun v_101 =>
k_95 v_101 (.l 50 a_100) H_92 n_93) .p H_92 n_93 fun v_96 x_97 H_98 n_99 =>
guardD v82_38 true (fun k_102 =>
callVK P cal v_41 [v_71, v_96] H_98 n_99 fun v94_107 H_108 n_109 =>
k_102 v94_107 .e H_108 n_109) .e H_98 n_99 fun v_103 x_104 H_105 n_106 =>
guardD v82_38 true (fun k_110 =>
binK P Go.BinOp.lss 3 (Go.Operand.tmp 94) (Go.Operand.const (Go.Value.int Go.IntKind.i64 0)) v_103 (Go.Value.int Go.IntKind.i64 0) fun v95_115 =>
k_110 v95_115 .p H_105 n_106) .p H_105 n_106 fun v_111 x_112 H_113 n_114 =>
guardD v82_38 true (fun k_116 =>
bindO (pureSem P v_111 (Op.unary Go.UnOp.not v_111)) fun v96_121 =>
k_116 v96_121 .p H_113 n_114) .p H_113 n_114 fun v_117 x_118 H_119 n_120 =>
bindO (pickV v82_38 v_117 (Go.Value.bool false)) fun v97_122 =>
ifK v97_122 (
callFK P cal 83 [u0, u1, u2, u13, u4] H_119 n_120 fun v103_128 H_129 n_130 =>
b1 u0 v103_128 u2 u3 u4 u10 u11 H_129 n_130) (
callFK P cal 84 [u0, u1, u2, u13, u4] H_119 n_120 fun v111_139 H_140 n_141 =>
bindO (tupV v111_139 0) fun v112_143 =>
bindO (tupV v111_139 1) fun v113_144 =>
binK P Go.BinOp.sub 3 (Go.Operand.tmp 115) (Go.Operand.tmp 116) v112_143 u1 fun v117_151 =>
binK P Go.BinOp.sub 3 (Go.Operand.tmp 118) (Go.Operand.tmp 119) u2 v112_143 fun v120_154 =>
binK P Go.BinOp.quo 3 (Go.Operand.tmp 121) (Go.Operand.const (Go.Value.int Go.IntKind.i64 8)) u12 (Go.Value.int Go.IntKind.i64 8) fun v122_158 =>
binK P Go.BinOp.lss 3 (Go.Operand.tmp 123) (Go.Operand.tmp 124) v117_151 v120_154 fun v125_162 =>
ifK v125_162 (
binK P Go.BinOp.geq 3 (Go.Operand.tmp 126) (Go.Operand.tmp 127) v117_151 v122_158 fun v128_165 =>
callFK P cal 62 [u0, u1, v112_143, u3, u4] H_140 n_141 fun v134_172 H_173 n_174 =>
binK P Go.BinOp.add 3 (Go.Operand.tmp 135) (Go.Operand.const (Go.Value.int Go.IntKind.i64 1)) v112_143 (Go.Value.int Go.IntKind.i64 1) fun v136_176 =>
b1 u0 v136_176 u2 u3 u4 v128_165 v113_144 H_173 n_174) (
binK P Go.BinOp.geq 3 (Go.Operand.tmp 137) (Go.Operand.tmp 138) v120_154 v122_158 fun v139_180 =>
binK P Go.BinOp.add 3 (Go.Operand.tmp 141) (Go.Operand.const (Go.Value.int Go.IntKind.i64 1)) v112_143 (Go.Value.int Go.IntKind.i64 1) fun v142_184 =>
callFK P cal 62 [u0, v142_184, u2, u3, u4] H_140 n_141 fun v146_188 H_189 n_190 =>
b1 u0 u1 v112_143 u3 u4 v139_180 v113_144 H_189 n_190))
noncomputable def C62_4 (cal : Cal) (k m1 : Nat) (b1 : Value → Value → Value → Value → Value → Value → Value → Hp → Nat → Res) (u0 u1 u2 u3 u4 u10 u11 u12 u13 : Value) (H : Hp) (n : Nat) : Res := B62_4 cal k m1 b1 u0 u1 u2 u3 u4 u10 u11 u12 u13 H n
theorem h62_4 (cal : Cal) (k m1 : Nat) (u0 u1 u2 u3 u4 u10 u11 u12 u13 : Value) (H : Hp) (n : Nat) : labK (E62_4 cal k m1) (Tr.set (Tr.set (Tr.set (Tr.set (Tr.set (Tr.set (Tr.set (Tr.set (Tr.set Tr.nil 13 (some u13)) 12 (some u12)) 11 (some u11)) 10 (some u10)) 4 (some u4)) 3 (some u3)) 2 (some u2)) 1 (some u1)) 0 (some u0)) H n [] = C62_4 cal k m1 (R62_1 cal k m1) u0 u1 u2 u3 u4 u10 u11 u12 u13 H n := by
  have h : labK (E62_4 cal k m1) (Tr.set (Tr.set (Tr.set (Tr.set (Tr.set (Tr.set (Tr.set (Tr.set (Tr.set Tr.nil 13 (some u13)) 12 (some u12)) 11 (some u11)) 10 (some u10)) 4 (some u4)) 3 (some u3)) 2 (some u2)) 1 (some u1)) 0 (some u0)) H n [] = B62_4 cal k m1 (R62_1 cal k m1) u0 u1 u2 u3 u4 u10 u11 u12 u13 H n := by kernel_rfl
  rw [h, C62_4]
theorem q62_4 (cal : Cal) (k m1 : Nat) (u0 u1 u2 u3 u4 u10 u11 u12 u13 : Value) (H : Hp) (n : Nat) : labK (E62_4 cal k m1) (Tr.set (Tr.set (Tr.set (Tr.set (Tr.set (Tr.set (Tr.set (Tr.set (Tr.set Tr.nil 13 (some u13)) 12 (some u12)) 11 (some u11)) 10 (some u10)) 4 (some u4)) 3 (some u3)) 2 (some u2)) 1 (some u1)) 0 (some u0)) H n [] = C62_4 cal k m1 (R62_1 cal k m1) u0 u1 u2 u3 u4 u10 u11 u12 u13 H n := h62_4 ..
noncomputable def B62_3 (cal : Cal) (k m1 : Nat) (j4 : Value → Value → Value → Value → Value → Value → Value → Value → Value → Hp → Nat → Res) (b1 : Value → Value → Value → Value → Value → Value → Value → Hp → Nat → Res) (u0 u1 u2 u3 u4 u10 u11 u12 u13 u14 : Value) (H : Hp) (n : Nat) : Res :=
guardK u10 true (fun k_195 =>
k_195 u11 H n) H n fun v_196 H_197 n_198 =>
bindO (pickV u10 v_196 (Go.Value.bool false)) fun v71_200 =>
guardK v71_200 true (fun k_202 =>
k_202 u14 H_197 n_198) H_197 n_198 fun v_203 H_204 n_205 =>
guardK v71_200 true (fun k_207 =>
binK P Go.BinOp.eql 133 (Go.Operand.tmp 73) (Go.Operand.const (Go.Value.int Go.IntKind.i64 1)) v_203 (Go.Value.int Go.IntKind.i64 1) fun v74_211 =>
k_207 v74_211 H_204 n_205) H_204 n_205 fun v_208 H_209 n_210 =>
bindO (pickV v71_200 v_208 (Go.Value.bool false)) fun v75_212 =>
ifK v75_212 (
callFK P cal 82 [u0, u1, u2, u4] H_209 n_210 fun v80_217 H_218 n_219 =>
ifK v80_217 (
some ((Value.tuple ⟨[]⟩), H_218, n_219)) (
j4 u0 u1 u2 u3 u4 u10 u11 u12 u13 H_218 n_219)) (
j4 u0 u1 u2 u3 u4 u10 u11 u12 u13 H_209 n_210)
noncomputable def C62_3 (cal : Cal) (k m1 : Nat) (b1 : Value → Value → Value → Value → Value → Value → Value → Hp → Nat → Res) (u0 u1 u2 u3 u4 u10 u11 u12 u13 u14 : Value) (H : Hp) (n : Nat) : Res := B62_3 cal k m1 (C62_4 cal k m1 b1) b1 u0 u1 u2 u3 u4 u10 u11 u12 u13 u14 H n
theorem h62_3 (cal : Cal) (k m1 : Nat) (u0 u1 u2 u3 u4 u10 u11 u12 u13 u14 : Value) (H : Hp) (n : Nat) : labK (E62_3 cal k m1) (Tr.set (Tr.set (Tr.set (Tr.set (Tr.set (Tr.set (Tr.set (Tr.set (Tr.set (Tr.set Tr.nil 14 (some u14)) 13 (some u13)) 12 (some u12)) 11 (some u11)) 10 (some u10)) 4 (some u4)) 3 (some u3)) 2 (some u2)) 1 (some u1)) 0 (some u0)) H n [] = C62_3 cal k m1 (R62_1 cal k m1) u0 u1 u2 u3 u4 u10 u11 u12 u13 u14 H n := by
  have h : labK (E62_3 cal k m1) (Tr.set (Tr.set (Tr.set (Tr.set (Tr.set (Tr.set (Tr.set (Tr.set (Tr.set (Tr.set Tr.nil 14 (some u14)) 13 (some u13)) 12 (some u12)) 11 (some u11)) 10 (some u10)) 4 (some u4)) 3 (some u3)) 2 (some u2)) 1 (some u1)) 0 (some u0)) H n [] = B62_3 cal k m1 (fun u0 u1 u2 u3 u4 u10 u11 u12 u13 H n => labK (E62_4 cal k m1) (Tr.set (Tr.set (Tr.set (Tr.set (Tr.set (Tr.set (Tr.set (Tr.set (Tr.set Tr.nil 13 (some u13)) 12 (some u12)) 11 (some u11)) 10 (some u10)) 4 (some u4)) 3 (some u3)) 2 (some u2)) 1 (some u1)) 0 (some u0)) H n []) (R62_1 cal k m1) u0 u1 u2 u3 u4 u10 u11 u12 u13 u14 H n := by kernel_rfl
  rw [h, C62_3]
  have e4 : (fun u0 u1 u2 u3 u4 u10 u11 u12 u13 H n => labK (E62_4 cal k m1) (Tr.set (Tr.set (Tr.set (Tr.set (Tr.set (Tr.set (Tr.set (Tr.set (Tr.set Tr.nil 13 (some u13)) 12 (some u12)) 11 (some u11)) 10 (some u10)) 4 (some u4)) 3 (some u3)) 2 (some u2)) 1 (some u1)) 0 (some u0)) H n []) = (C62_4 cal k m1 (R62_1 cal k m1)) := by funext u0 u1 u2 u3 u4 u10 u11 u12 u13 H n; exact q62_4 ..
  rw [e4]
theorem q62_3 (cal : Cal) (k m1 : Nat) (u0 u1 u2 u3 u4 u10 u11 u12 u13 u14 : Value) (H : Hp) (n : Nat) : labK (E62_3 cal k m1) (Tr.set (Tr.set (Tr.set (Tr.set (Tr.set (Tr.set (Tr.set (Tr.set (Tr.set (Tr.set Tr.nil 14 (some u14)) 13 (some u13)) 12 (some u12)) 11 (some u11)) 10 (some u10)) 4 (some u4)) 3 (some u3)) 2 (some u2)) 1 (some u1)) 0 (some u0)) H n [] = C62_3 cal k m1 (R62_1 cal k m1) u0 u1 u2 u3 u4 u10 u11 u12 u13 u14 H n := h62_3 ..
noncomputable def B62_2 (cal : Cal) (k m1 : Nat) (j3 : Value → Value → Value → Value → Value → Value → Value → Value → Value → Value → Hp → Nat → Res) (b1 : Value → Value → Value → Value → Value → Value → Value → Hp → Nat → Res) (u0 u1 u2 u3 u4 u10 u11 u12 : Value) (H : Hp) (n : Nat) : Res :=
callFK P cal 80 [u0, u1, u2, u4] H n fun v52_29 H_30 n_31 =>
bindO (tupV v52_29 0) fun v53_33 =>
bindO (tupV v52_29 1) fun v54_34 =>
binK P Go.BinOp.eql 133 (Go.Operand.tmp 55) (Go.Operand.const (Go.Value.int Go.IntKind.i64 2)) v54_34 (Go.Value.int Go.IntKind.i64 2) fun v56_221 =>
ifK v56_221 (
callFK P cal 81 [u0, u1, u2, u4] H_30 n_31 fun v61_226 H_227 n_228 =>
binK P Go.BinOp.sub 3 (Go.Operand.tmp 62) (Go.Operand.const (Go.Value.int Go.IntKind.i64 1)) u2 (Go.Value.int Go.IntKind.i64 1) fun v63_230 =>
binK P Go.BinOp.sub 3 (Go.Operand.tmp 64) (Go.Operand.tmp 65) v53_33 u1 fun v66_233 =>
binK P Go.BinOp.sub 3 (Go.Operand.tmp 63) (Go.Operand.tmp 66) v63_230 v66_233 fun v67_234 =>
j3 u0 u1 u2 u3 u4 u10 u11 u12 v67_234 (Go.Value.int Go.IntKind.i64 1) H_227 n_228) (
j3 u0 u1 u2 u3 u4 u10 u11 u12 v53_33 v54_34 H_30 n_31)
noncomputable def C62_2 (cal : Cal) (k m1 : Nat) (b1 : Value → Value → Value → Value → Value → Value → Value → Hp → Nat → Res) (u0 u1 u2 u3 u4 u10 u11 u12 : Value) (H : Hp) (n : Nat) : Res := B62_2 cal k m1 (C62_3 cal k m1 b1) b1 u0 u1 u2 u3 u4 u10 u11 u12 H n
theorem h62_2 (cal : Cal) (k m1 : Nat) (u0 u1 u2 u3 u4 u10 u11 u12 : Value) (H : Hp) (n : Nat) : labK (E62_2 cal k m1) (Tr.set (Tr.set (Tr.set (Tr.set (Tr.set (Tr.set (Tr.set (Tr.set Tr.nil 12 (some u12)) 11 (some u11)) 10 (some u10)) 4 (some u4)) 3 (some u3)) 2 (some u2)) 1 (some u1)) 0 (some u0)) H n [] = C62_2 cal k m1 (R62_1 cal k m1) u0 u1 u2 u3 u4 u10 u11 u12 H n := by
  have h : labK (E62_2 cal k m1) (Tr.set (Tr.set (Tr.set (Tr.set (Tr.set (Tr.set (Tr.set (Tr.set Tr.nil 12 (some u12)) 11 (some u11)) 10 (some u10)) 4 (some u4)) 3 (some u3)) 2 (some u2)) 1 (some u1)) 0 (some u0)) H n [] = B62_2 cal k m1 (fun u0 u1 u2 u3 u4 u10 u11 u12 u13 u14 H n => labK (E62_3 cal k m1) (Tr.set (Tr.set (Tr.set (Tr.set (Tr.set (Tr.set (Tr.set (Tr.set (Tr.set (Tr.set Tr.nil 14 (some u14)) 13 (some u13)) 12 (some u12)) 11 (some u11)) 10 (some u10)) 4 (some u4)) 3 (some u3)) 2 (some u2)) 1 (some u1)) 0 (some u0)) H n []) (R62_1 cal k m1) u0 u1 u2 u3 u4 u10 u11 u12 H n := by kernel_rfl
  rw [h, C62_2]
  have e3 : (fun u0 u1 u2 u3 u4 u10 u11 u12 u13 u14 H n => labK (E62_3 cal k m1) (Tr.set (Tr.set (Tr.set (Tr.set (Tr.set (Tr.set (Tr.set (Tr.set (Tr.set (Tr.set Tr.nil 14 (some u14)) 13 (some u13)) 12 (some u12)) 11 (some u11)) 10 (some u10)) 4 (some u4)) 3 (some u3)) 2 (some u2)) 1 (some u1)) 0 (some u0)) H n []) = (C62_3 cal k m1 (R62_1 cal k m1)) := by funext u0 u1 u2 u3 u4 u10 u11 u12 u13 u14 H n; exact q62_3 ..
  rw [e3]
theorem q62_2 (cal : Cal) (k m1 : Nat) (u0 u1 u2 u3 u4 u10 u11 u12 : Value) (H : Hp) (n : Nat) : labK (E62_2 cal k m1) (Tr.set (Tr.set (Tr.set (Tr.set (Tr.set (Tr.set (Tr.set (Tr.set Tr.nil 12 (some u12)) 11 (some u11)) 10 (some u10)) 4 (some u4)) 3 (some u3)) 2 (some u2)) 1 (some u1)) 0 (some u0)) H n [] = C62_2 cal k m1 (R62_1 cal k m1) u0 u1 u2 u3 u4 u10 u11 u12 H n := h62_2 ..
noncomputable def B62_1 (cal : Cal) (k m1 : Nat) (j2 : Value → Value → Value → Value → Value → Value → Value → Value → Hp → Nat → Res) (b1 : Value → Value → Value → Value → Value → Value → Value → Hp → Nat → Res) (u0 u1 u2 u3 u4 u10 u11 : Value) (H : Hp) (n : Nat) : Res :=
binK P Go.BinOp.sub 3 (Go.Operand.tmp 21) (Go.Operand.tmp 22) u2 u1 fun v23_5 =>
binK P Go.BinOp.leq 3 (Go.Operand.tmp 24) (Go.Operand.const (Go.Value.int Go.IntKind.i64 12)) v23_5 (Go.Value.int Go.IntKind.i64 12) fun v25_8 =>
ifK v25_8 (
callFK P cal 77 [u0, u1, u2, u4] H n fun v30_13 H_14 n_15 =>
some ((Value.tuple ⟨[]⟩), H_14, n_15)) (
binK P Go.BinOp.eql 3 (Go.Operand.tmp 31) (Go.Operand.const (Go.Value.int Go.IntKind.i64 0)) u3 (Go.Value.int Go.IntKind.i64 0) fun v32_17 =>
ifK v32_17 (
callFK P cal 78 [u0, u1, u2, u4] H n fun v37_22 H_23 n_24 =>
some ((Value.tuple ⟨[]⟩), H_23, n_24)) (
bindO (pureSem P u10 (Op.unary Go.UnOp.not u10)) fun v39_238 =>
ifK v39_238 (
callFK P cal 79 [u0, u1, u2, u4] H n fun v44_243 H_244 n_245 =>
binK P Go.BinOp.sub 3 (Go.Operand.tmp 45) (Go.Operand.const (Go.Value.int Go.IntKind.i64 1)) u3 (Go.Value.int Go.IntKind.i64 1) fun v46_247 =>
j2 u0 u1 u2 v46_247 u4 u10 u11 v23_5 H_244 n_245) (
j2 u0 u1 u2 u3 u4 u10 u11 v23_5 H n)))
noncomputable def C62_1 (cal : Cal) (k m1 : Nat) (b1 : Value → Value → Value → Value → Value → Value → Value → Hp → Nat → Res) (u0 u1 u2 u3 u4 u10 u11 : Value) (H : Hp) (n : Nat) : Res := B62_1 cal k m1 (C62_2 cal k m1 b1) b1 u0 u1 u2 u3 u4 u10 u11 H n
noncomputable def S62_1 (cal : Cal) (k : Nat) : Nat → Value → Value → Value → Value → Value → Value → Value → Hp → Nat → Res := fun m => Nat.rec (motive := fun _ => Value → Value → Value → Value → Value → Value → Value → Hp → Nat → Res) (C62_1 cal k 0 (fun _ _ _ _ _ _ _ _ _ => none)) (fun m ih => C62_1 cal k (m + 1) ih) m
theorem h62_1 (cal : Cal) (k m1 : Nat) (u0 u1 u2 u3 u4 u10 u11 : Value) (H : Hp) (n : Nat) : labK (E62_1 cal k m1) (Tr.set (Tr.set (Tr.set (Tr.set (Tr.set (Tr.set (Tr.set Tr.nil 11 (some u11)) 10 (some u10)) 4 (some u4)) 3 (some u3)) 2 (some u2)) 1 (some u1)) 0 (some u0)) H n [] = C62_1 cal k m1 (R62_1 cal k m1) u0 u1 u2 u3 u4 u10 u11 H n := by
  have h : labK (E62_1 cal k m1) (Tr.set (Tr.set (Tr.set (Tr.set (Tr.set (Tr.set (Tr.set Tr.nil 11 (some u11)) 10 (some u10)) 4 (some u4)) 3 (some u3)) 2 (some u2)) 1 (some u1)) 0 (some u0)) H n [] = B62_1 cal k m1 (fun u0 u1 u2 u3 u4 u10 u11 u12 H n => labK (E62_2 cal k m1) (Tr.set (Tr.set (Tr.set (Tr.set (Tr.set (Tr.set (Tr.set (Tr.set Tr.nil 12 (some u12)) 11 (some u11)) 10 (some u10)) 4 (some u4)) 3 (some u3)) 2 (some u2)) 1 (some u1)) 0 (some u0)) H n []) (R62_1 cal k m1) u0 u1 u2 u3 u4 u10 u11 H n := by kernel_rfl
  rw [h, C62_1]
  have e2 : (fun u0 u1 u2 u3 u4 u10 u11 u12 H n => labK (E62_2 cal k m1) (Tr.set (Tr.set (Tr.set (Tr.set (Tr.set (Tr.set (Tr.set (Tr.set Tr.nil 12 (some u12)) 11 (some u11)) 10 (some u10)) 4 (some u4)) 3 (some u3)) 2 (some u2)) 1 (some u1)) 0 (some u0)) H n []) = (C62_2 cal k m1 (R62_1 cal k m1)) := by funext u0 u1 u2 u3 u4 u10 u11 u12 H n; exact q62_2 ..
  rw [e2]
theorem q62_1 (cal : Cal) (k : Nat) : ∀ (m : Nat) (u0 u1 u2 u3 u4 u10 u11 : Value) (H : Hp) (n : Nat), labK (E62_1 cal k m) (Tr.set (Tr.set (Tr.set (Tr.set (Tr.set (Tr.set (Tr.set Tr.nil 11 (some u11)) 10 (some u10)) 4 (some u4)) 3 (some u3)) 2 (some u2)) 1 (some u1)) 0 (some u0)) H n [] = S62_1 cal k m u0 u1 u2 u3 u4 u10 u11 H n
  | 0, u0, u1, u2, u3, u4, u10, u11, H, n => by
    rw [h62_1]
    have e : R62_1 cal k 0 = fun _ _ _ _ _ _ _ _ _ => none := by funext u0 u1 u2 u3 u4 u10 u11 H n; kernel_rfl
    rw [e]; rfl
  | m + 1, u0, u1, u2, u3, u4, u10, u11, H, n => by
    rw [h62_1]
    have e : R62_1 cal k (m + 1) = S62_1 cal k m := by
      funext u0 u1 u2 u3 u4 u10 u11 H n
      have e : R62_1 cal k (m + 1) u0 u1 u2 u3 u4 u10 u11 H n = labK (E62_1 cal k m) (Tr.set (Tr.set (Tr.set (Tr.set (Tr.set (Tr.set (Tr.set Tr.nil 11 (some u11)) 10 (some u10)) 4 (some u4)) 3 (some u3)) 2 (some u2)) 1 (some u1)) 0 (some u0)) H n [] := by kernel_rfl
      rw [e]; exact q62_1 ..
    rw [e]; rfl
noncomputable def B62_0 (cal : Cal) (k : Nat) (j1 : Value → Value → Value → Value → Value → Value → Value → Hp → Nat → Res) (v0 v1 v2 v3 v4 : Value) (H : Hp) (n : Nat) : Res :=
j1 v0 v1 v2 v3 v4 (Go.Value.bool true) (Go.Value.bool true) H n
noncomputable def C62_0 (cal : Cal) (k : Nat) (v0 v1 v2 v3 v4 : Value) (H : Hp) (n : Nat) : Res := B62_0 cal k (S62_1 cal k k) v0 v1 v2 v3 v4 H n
theorem h62_0 (cal : Cal) (k : Nat) (v0 v1 v2 v3 v4 : Value) (H : Hp) (n : Nat) : bodyE P cal A (k + 1) 62 [v0, v1, v2, v3, v4] H n = C62_0 cal k v0 v1 v2 v3 v4 H n := by
  have h : bodyE P cal A (k + 1) 62 [v0, v1, v2, v3, v4] H n = B62_0 cal k (fun u0 u1 u2 u3 u4 u10 u11 H n => labK (E62_1 cal k k) (Tr.set (Tr.set (Tr.set (Tr.set (Tr.set (Tr.set (Tr.set Tr.nil 11 (some u11)) 10 (some u10)) 4 (some u4)) 3 (some u3)) 2 (some u2)) 1 (some u1)) 0 (some u0)) H n []) v0 v1 v2 v3 v4 H n := by
    rw [body_eq (fn := Go.Proofs.Try.f62) (c := code62) (rs := results62) (by kernel_rfl) (by kernel_rfl) (by kernel_rfl) (by kernel_rfl)]
    kernel_rfl
  rw [h, C62_0]
  have e1 : (fun u0 u1 u2 u3 u4 u10 u11 H n => labK (E62_1 cal k k) (Tr.set (Tr.set (Tr.set (Tr.set (Tr.set (Tr.set (Tr.set Tr.nil 11 (some u11)) 10 (some u10)) 4 (some u4)) 3 (some u3)) 2 (some u2)) 1 (some u1)) 0 (some u0)) H n []) = (S62_1 cal k k) := by funext u0 u1 u2 u3 u4 u10 u11 H n; exact q62_1 ..
  rw [e1]
noncomputable def code63 : Code := codeOf 63
noncomputable def results63 : List ResultVar := resOf 63
noncomputable def K63_p (cal : Cal) (k : Nat) : KC (Value × Hp × Nat) := (cutK (A 63).c (codeE P cal (codeF P cal k) none 63 (cR code63) (Lv.b (A 63)) (doneK P results63) X0 (doneK P results63)))
noncomputable def K63_pr (cal : Cal) (k : Nat) : KC (Value × Hp × Nat) := (cutK (Lv.b (A 63)).c (codeE P cal (codeF P cal k) none 63 (cR (cR code63)) (Lv.b (Lv.b (A 63))) (doneK P results63) X0 (doneK P results63)))
noncomputable def K63_prll (cal : Cal) (k : Nat) : KC (Value × Hp × Nat) := (cutK (Lv.a (Lv.a (Lv.b (A 63)))).c (codeE P cal (codeF P cal k) none 63 (cR (cL (cL (cR code63)))) (Lv.b (Lv.a (Lv.a (Lv.b (A 63))))) (K63_pr cal k) X0 (doneK P results63)))
noncomputable def K63_prr (cal : Cal) (k : Nat) : KC (Value × Hp × Nat) := (cutK (Lv.b (Lv.b (A 63))).c (codeE P cal (codeF P cal k) none 63 (cR (cR (cR code63))) (Lv.b (Lv.b (Lv.b (A 63)))) (doneK P results63) X0 (doneK P results63)))
noncomputable def B63_0 (cal : Cal) (k : Nat) (v0 : Value) (H : Hp) (n : Nat) : Res :=
ifK (Go.Value.bool false) (
bindO (pureSem P v0 (convert 49 122 v0)) fun v4_3 =>
callFK P cal 85 [v4_3] H n fun v5_4 H_5 n_6 =>
some (v5_4, H_5, n_6)) (
callFK P cal 86 [v0] H n fun v7_9 H_10 n_11 =>
some (v7_9, H_10, n_11))
noncomputable def C63_0 (cal : Cal) (k : Nat) (v0 : Value) (H : Hp) (n : Nat) : Res := B63_0 cal k v0 H n
theorem h63_0 (cal : Cal) (k : Nat) (v0 : Value) (H : Hp) (n : Nat) : bodyE P cal A (k + 1) 63 [v0] H n = C63_0 cal k v0 H n := by
  have h : bodyE P cal A (k + 1) 63 [v0] H n = B63_0 cal k v0 H n := by
    rw [body_eq (fn := Go.Proofs.Try.f63) (c := code63) (rs := results63) (by kernel_rfl) (by kernel_rfl) (by kernel_rfl) (by kernel_rfl)]
    kernel_rfl
  rw [h, C63_0]
noncomputable def code64 : Code := codeOf 64
noncomputable def results64 : List ResultVar := resOf 64
noncomputable def K64_p (cal : Cal) (k : Nat) : KC (Value × Hp × Nat) := (cutK (A 64).c (codeE P cal (codeF P cal k) none 64 (cR code64) (Lv.b (A 64)) (doneK P results64) X0 (doneK P results64)))
noncomputable def K64_pr (cal : Cal) (k : Nat) : KC (Value × Hp × Nat) := (cutK (Lv.b (A 64)).c (codeE P cal (codeF P cal k) none 64 (cR (cR code64)) (Lv.b (Lv.b (A 64))) (doneK P results64) X0 (doneK P results64)))
noncomputable def B64_0 (cal : Cal) (k : Nat) (v0 v1 : Value) (H : Hp) (n : Nat) : Res :=
callFK P cal 39 [v0] H n fun v6_3 H_4 n_5 =>
callFK P cal 39 [v1] H_4 n_5 fun v8_7 H_8 n_9 =>
callFK P cal 47 [v6_3, v8_7] H_8 n_9 fun v9_10 H_11 n_12 =>
some (v9_10, H_11, n_12)
noncomputable def C64_0 (cal : Cal) (k : Nat) (v0 v1 : Value) (H : Hp) (n : Nat) : Res := B64_0 cal k v0 v1 H n
theorem h64_0 (cal : Cal) (k : Nat) (v0 v1 : Value) (H : Hp) (n : Nat) : bodyE P cal A (k + 1) 64 [v0, v1] H n = C64_0 cal k v0 v1 H n := by
  have h : bodyE P cal A (k + 1) 64 [v0, v1] H n = B64_0 cal k v0 v1 H n := by
    rw [body_eq (fn := Go.Proofs.Try.f64) (c := code64) (rs := results64) (by kernel_rfl) (by kernel_rfl) (by kernel_rfl) (by kernel_rfl)]
    kernel_rfl
  rw [h, C64_0]
noncomputable def code65 : Code := codeOf 65
noncomputable def results65 : List ResultVar := resOf 65
noncomputable def K65_p (cal : Cal) (k : Nat) : KC (Value × Hp × Nat) := (cutK (A 65).c (codeE P cal (codeF P cal k) none 65 (cR code65) (Lv.b (A 65)) (doneK P results65) X0 (doneK P results65)))
noncomputable def K65_pr (cal : Cal) (k : Nat) : KC (Value × Hp × Nat) := (cutK (Lv.b (A 65)).c (codeE P cal (codeF P cal k) none 65 (cR (cR code65)) (Lv.b (Lv.b (A 65))) (doneK P results65) X0 (doneK P results65)))
noncomputable def K65_prr (cal : Cal) (k : Nat) : KC (Value × Hp × Nat) := (cutK (Lv.b (Lv.b (A 65))).c (codeE P cal (codeF P cal k) none 65 (cR (cR (cR code65))) (Lv.b (Lv.b (Lv.b (A 65)))) (doneK P results65) X0 (doneK P results65)))
noncomputable def K65_prrr (cal : Cal) (k : Nat) : KC (Value × Hp × Nat) := (cutK (Lv.b (Lv.b (Lv.b (A 65)))).c (codeE P cal (codeF P cal k) none 65 (cR (cR (cR (cR code65)))) (Lv.b (Lv.b (Lv.b (Lv.b (A 65))))) (doneK P results65) X0 (doneK P results65)))
noncomputable def B65_0 (cal : Cal) (k : Nat) (v0 v1 : Value) (H : Hp) (n : Nat) : Res :=
binK P Go.BinOp.xor 50 (Go.Operand.tmp 7) (Go.Operand.tmp 8) v0 v1 fun v9_4 =>
bindO (pureSem P v9_4 (Op.unary Go.UnOp.neg v9_4)) fun v12_8 =>
binK P Go.BinOp.and 50 (Go.Operand.tmp 10) (Go.Operand.tmp 12) v9_4 v12_8 fun v13_9 =>
binK P Go.BinOp.and 50 (Go.Operand.tmp 14) (Go.Operand.tmp 15) v1 v13_9 fun v16_13 =>
binK P Go.BinOp.and 50 (Go.Operand.tmp 17) (Go.Operand.tmp 18) v0 v13_9 fun v19_16 =>
callFK P cal 87 [v16_13, v19_16] H n fun v20_17 H_18 n_19 =>
some (v20_17, H_18, n_19)
noncomputable def C65_0 (cal : Cal) (k : Nat) (v0 v1 : Value) (H : Hp) (n : Nat) : Res := B65_0 cal k v0 v1 H n
theorem h65_0 (cal : Cal) (k : Nat) (v0 v1 : Value) (H : Hp) (n : Nat) : bodyE P cal A (k + 1) 65 [v0, v1] H n = C65_0 cal k v0 v1 H n := by
  have h : bodyE P cal A (k + 1) 65 [v0, v1] H n = B65_0 cal k v0 v1 H n := by
    rw [body_eq (fn := Go.Proofs.Try.f65) (c := code65) (rs := results65) (by kernel_rfl) (by kernel_rfl) (by kernel_rfl) (by kernel_rfl)]
    kernel_rfl
  rw [h, C65_0]
end Go.Proofs.Ytakjjillnllocab.P
