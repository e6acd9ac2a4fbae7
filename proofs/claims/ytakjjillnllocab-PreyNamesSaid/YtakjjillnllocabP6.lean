/- The texts of functions, each with the proof that the evaluator says the same. -/
import Derived.Test.YtakjjillnllocabP1
open Go Go.Ev
set_option maxRecDepth 1000000
set_option linter.unusedVariables false
noncomputable section
namespace Go.Proofs.Ytakjjillnllocab.P
noncomputable def code66 : Code := codeOf 66
noncomputable def results66 : List ResultVar := resOf 66
noncomputable def K66_p (cal : Cal) (k : Nat) : KC (Value × Hp × Nat) := (cutK (A 66).c (codeE P cal (codeF P cal k) none 66 (cR code66) (Lv.b (A 66)) (doneK P results66) X0 (doneK P results66)))
noncomputable def K66_pr (cal : Cal) (k : Nat) : KC (Value × Hp × Nat) := (cutK (Lv.b (A 66)).c (codeE P cal (codeF P cal k) none 66 (cR (cR code66)) (Lv.b (Lv.b (A 66))) (doneK P results66) X0 (doneK P results66)))
noncomputable def K66_prr (cal : Cal) (k : Nat) : KC (Value × Hp × Nat) := (cutK (Lv.b (Lv.b (A 66))).c (codeE P cal (codeF P cal k) none 66 (cR (cR (cR code66))) (Lv.b (Lv.b (Lv.b (A 66)))) (doneK P results66) X0 (doneK P results66)))
noncomputable def K66_prrl (cal : Cal) (k : Nat) : KC (Value × Hp × Nat) := (cutK (Lv.a (Lv.b (Lv.b (A 66)))).c (codeE P cal (codeF P cal k) none 66 (cR (cL (cR (cR code66)))) (Lv.b (Lv.a (Lv.b (Lv.b (A 66))))) (K66_prr cal k) X0 (doneK P results66)))
noncomputable def K66_pxrrlr (cal : Cal) (k : Nat) : XC (Value × Hp × Nat) := (upX 0 (K66_prr cal k) X0)
noncomputable def K66_prrlrl (cal : Cal) (k : Nat) (m1 : Nat) : KC (Value × Hp × Nat) := (fun T H n D => codeF P cal m1 (Lv.a (Lv.b (Lv.a (Lv.b (Lv.b (A 66)))))) none 66 (cL (cR (cL (cR (cR code66))))) (K66_prr cal k) (K66_pxrrlr cal k) (doneK P results66) (cutT (Lv.a (Lv.b (Lv.a (Lv.b (Lv.b (A 66)))))).c T) H n D)
noncomputable def K66_prrlrll (cal : Cal) (k : Nat) (m1 : Nat) : KC (Value × Hp × Nat) := (cutK (Lv.a (Lv.a (Lv.b (Lv.a (Lv.b (Lv.b (A 66))))))).c (codeE P cal (codeF P cal m1) none 66 (cR (cL (cL (cR (cL (cR (cR code66))))))) (Lv.b (Lv.a (Lv.a (Lv.b (Lv.a (Lv.b (Lv.b (A 66)))))))) (K66_prrlrl cal k m1) (K66_pxrrlr cal k) (doneK P results66)))
noncomputable def K66_prrlrllr (cal : Cal) (k : Nat) (m1 : Nat) : KC (Value × Hp × Nat) := (cutK (Lv.b (Lv.a (Lv.a (Lv.b (Lv.a (Lv.b (Lv.b (A 66)))))))).c (codeE P cal (codeF P cal m1) none 66 (cR (cR (cL (cL (cR (cL (cR (cR code66)))))))) (Lv.b (Lv.b (Lv.a (Lv.a (Lv.b (Lv.a (Lv.b (Lv.b (A 66))))))))) (K66_prrlrl cal k m1) (K66_pxrrlr cal k) (doneK P results66)))
noncomputable def K66_prrlrllrr (cal : Cal) (k : Nat) (m1 : Nat) : KC (Value × Hp × Nat) := (cutK (Lv.b (Lv.b (Lv.a (Lv.a (Lv.b (Lv.a (Lv.b (Lv.b (A 66))))))))).c (codeE P cal (codeF P cal m1) none 66 (cR (cR (cR (cL (cL (cR (cL (cR (cR code66))))))))) (Lv.b (Lv.b (Lv.b (Lv.a (Lv.a (Lv.b (Lv.a (Lv.b (Lv.b (A 66)))))))))) (K66_prrlrl cal k m1) (K66_pxrrlr cal k) (doneK P results66)))
noncomputable def K66_pxrrlrllrrl (cal : Cal) (k : Nat) (m1 : Nat) : XC (Value × Hp × Nat) := (upX 1 (K66_prrlrllrr cal k m1) (K66_pxrrlr cal k))
noncomputable def K66_prrlrllrrll (cal : Cal) (k : Nat) (m1 : Nat) : KC (Value × Hp × Nat) := (cutK (Lv.a (Lv.a (Lv.b (Lv.b (Lv.a (Lv.a (Lv.b (Lv.a (Lv.b (Lv.b (A 66))))))))))).c (codeE P cal (codeF P cal m1) none 66 (cR (cL (cL (cR (cR (cL (cL (cR (cL (cR (cR code66))))))))))) (Lv.b (Lv.a (Lv.a (Lv.b (Lv.b (Lv.a (Lv.a (Lv.b (Lv.a (Lv.b (Lv.b (A 66)))))))))))) (K66_prrlrllrr cal k m1) (K66_pxrrlrllrrl cal k m1) (doneK P results66)))
noncomputable def K66_prrlrllrrllr (cal : Cal) (k : Nat) (m1 : Nat) : KC (Value × Hp × Nat) := (cutK (Lv.b (Lv.a (Lv.a (Lv.b (Lv.b (Lv.a (Lv.a (Lv.b (Lv.a (Lv.b (Lv.b (A 66)))))))))))).c (codeE P cal (codeF P cal m1) none 66 (cR (cR (cL (cL (cR (cR (cL (cL (cR (cL (cR (cR code66)))))))))))) (Lv.b (Lv.b (Lv.a (Lv.a (Lv.b (Lv.b (Lv.a (Lv.a (Lv.b (Lv.a (Lv.b (Lv.b (A 66))))))))))))) (K66_prrlrllrr cal k m1) (K66_pxrrlrllrrl cal k m1) (doneK P results66)))
noncomputable def K66_prrlrllrrllrrl (cal : Cal) (k : Nat) (m1 : Nat) : KC (Value × Hp × Nat) := (cutK (Lv.a (Lv.b (Lv.b (Lv.a (Lv.a (Lv.b (Lv.b (Lv.a (Lv.a (Lv.b (Lv.a (Lv.b (Lv.b (A 66)))))))))))))).c (codeE P cal (codeF P cal m1) none 66 (cR (cL (cR (cR (cL (cL (cR (cR (cL (cL (cR (cL (cR (cR code66)))))))))))))) (Lv.b (Lv.a (Lv.b (Lv.b (Lv.a (Lv.a (Lv.b (Lv.b (Lv.a (Lv.a (Lv.b (Lv.a (Lv.b (Lv.b (A 66))))))))))))))) (K66_prrlrllrr cal k m1) (K66_pxrrlrllrrl cal k m1) (doneK P results66)))
noncomputable def K66_prrr (cal : Cal) (k : Nat) : KC (Value × Hp × Nat) := (cutK (Lv.b (Lv.b (Lv.b (A 66)))).c (codeE P cal (codeF P cal k) none 66 (cR (cR (cR (cR code66)))) (Lv.b (Lv.b (Lv.b (Lv.b (A 66))))) (doneK P results66) X0 (doneK P results66)))
noncomputable def E66_1 (cal : Cal) (k m1 : Nat) : KC (Value × Hp × Nat) := codeE P cal (codeF P cal m1) none 66 (cL (cL (cR (cL (cR (cR code66)))))) (Lv.a (Lv.a (Lv.b (Lv.a (Lv.b (Lv.b (A 66))))))) (K66_prrlrl cal k m1) (K66_pxrrlr cal k) (doneK P results66)
noncomputable def R66_1 (cal : Cal) (k m1 : Nat) : Value → Value → Value → Value → Hp → Nat → Res := fun u3 u6 u7 u8 H n => codeF P cal m1 (Lv.a (Lv.b (Lv.a (Lv.b (Lv.b (A 66)))))) none 66 (cL (cR (cL (cR (cR code66))))) (K66_prr cal k) (K66_pxrrlr cal k) (doneK P results66) (Tr.set (Tr.set (Tr.set (Tr.set Tr.nil 8 (some u8)) 7 (some u7)) 6 (some u6)) 3 (some u3)) H n []
noncomputable def B66_1 (cal : Cal) (k m1 : Nat) (b1 : Value → Value → Value → Value → Hp → Nat → Res) (u3 u6 u7 u8 : Value) (H : Hp) (n : Nat) : Res :=
binK P Go.BinOp.lss 3 (Go.Operand.tmp 8) (Go.Operand.tmp 7) u8 u7 fun v9_6 =>
ifK v9_6 (
bindO (indexAddrV P 31 u6 u8) fun v10_7 =>
bindO (addrV v10_7) fun a_9 => bindO (loadV P H 3 a_9) fun v11_8 =>
binK P Go.BinOp.neq 3 (Go.Operand.tmp 12) (Go.Operand.tmp 13) v11_8 u3 fun v14_13 =>
ifK v14_13 (
some (v11_8, H, n)) (
binK P Go.BinOp.add 3 (Go.Operand.tmp 8) (Go.Operand.const (Go.Value.int Go.IntKind.i64 1)) u8 (Go.Value.int Go.IntKind.i64 1) fun v16_16 =>
b1 u3 u6 u7 v16_16 H n)) (
some (u3, H, n))
noncomputable def C66_1 (cal : Cal) (k m1 : Nat) (b1 : Value → Value → Value → Value → Hp → Nat → Res) (u3 u6 u7 u8 : Value) (H : Hp) (n : Nat) : Res := B66_1 cal k m1 b1 u3 u6 u7 u8 H n
noncomputable def S66_1 (cal : Cal) (k : Nat) : Nat → Value → Value → Value → Value → Hp → Nat → Res := fun m => Nat.rec (motive := fun _ => Value → Value → Value → Value → Hp → Nat → Res) (C66_1 cal k 0 (fun _ _ _ _ _ _ => none)) (fun m ih => C66_1 cal k (m + 1) ih) m
theorem h66_1 (cal : Cal) (k m1 : Nat) (u3 u6 u7 u8 : Value) (H : Hp) (n : Nat) : labK (E66_1 cal k m1) (Tr.set (Tr.set (Tr.set (Tr.set Tr.nil 8 (some u8)) 7 (some u7)) 6 (some u6)) 3 (some u3)) H n [] = C66_1 cal k m1 (R66_1 cal k m1) u3 u6 u7 u8 H n := by
  have h : labK (E66_1 cal k m1) (Tr.set (Tr.set (Tr.set (Tr.set Tr.nil 8 (some u8)) 7 (some u7)) 6 (some u6)) 3 (some u3)) H n [] = B66_1 cal k m1 (R66_1 cal k m1) u3 u6 u7 u8 H n := by kernel_rfl
  rw [h, C66_1]
theorem q66_1 (cal : Cal) (k : Nat) : ∀ (m : Nat) (u3 u6 u7 u8 : Value) (H : Hp) (n : Nat), labK (E66_1 cal k m) (Tr.set (Tr.set (Tr.set (Tr.set Tr.nil 8 (some u8)) 7 (some u7)) 6 (some u6)) 3 (some u3)) H n [] = S66_1 cal k m u3 u6 u7 u8 H n
  | 0, u3, u6, u7, u8, H, n => by
    rw [h66_1]
    have e : R66_1 cal k 0 = fun _ _ _ _ _ _ => none := by funext u3 u6 u7 u8 H n; kernel_rfl
    rw [e]; rfl
  | m + 1, u3, u6, u7, u8, H, n => by
    rw [h66_1]
    have e : R66_1 cal k (m + 1) = S66_1 cal k m := by
      funext u3 u6 u7 u8 H n
      have e : R66_1 cal k (m + 1) u3 u6 u7 u8 H n = labK (E66_1 cal k m) (Tr.set (Tr.set (Tr.set (Tr.set Tr.nil 8 (some u8)) 7 (some u7)) 6 (some u6)) 3 (some u3)) H n [] := by kernel_rfl
      rw [e]; exact q66_1 ..
    rw [e]; rfl
noncomputable def B66_0 (cal : Cal) (k : Nat) (j1 : Value → Value → Value → Value → Hp → Nat → Res) (v0 : Value) (H : Hp) (n : Nat) : Res :=
bindO (lenV P 31 v0) fun v7_4 =>
j1 (Go.Value.int Go.IntKind.i64 0) v0 v7_4 (Go.Value.int Go.IntKind.i64 0) H n
noncomputable def C66_0 (cal : Cal) (k : Nat) (v0 : Value) (H : Hp) (n : Nat) : Res := B66_0 cal k (S66_1 cal k k) v0 H n
theorem h66_0 (cal : Cal) (k : Nat) (v0 : Value) (H : Hp) (n : Nat) : bodyE P cal A (k + 1) 66 [v0] H n = C66_0 cal k v0 H n := by
  have h : bodyE P cal A (k + 1) 66 [v0] H n = B66_0 cal k (fun u3 u6 u7 u8 H n => labK (E66_1 cal k k) (Tr.set (Tr.set (Tr.set (Tr.set Tr.nil 8 (some u8)) 7 (some u7)) 6 (some u6)) 3 (some u3)) H n []) v0 H n := by
    rw [body_eq (fn := Go.Proofs.Try.f66) (c := code66) (rs := results66) (by kernel_rfl) (by kernel_rfl) (by kernel_rfl) (by kernel_rfl)]
    kernel_rfl
  rw [h, C66_0]
  have e1 : (fun u3 u6 u7 u8 H n => labK (E66_1 cal k k) (Tr.set (Tr.set (Tr.set (Tr.set Tr.nil 8 (some u8)) 7 (some u7)) 6 (some u6)) 3 (some u3)) H n []) = (S66_1 cal k k) := by funext u3 u6 u7 u8 H n; exact q66_1 ..
  rw [e1]
noncomputable def code67 : Code := codeOf 67
noncomputable def results67 : List ResultVar := resOf 67
noncomputable def K67_p (cal : Cal) (k : Nat) : KC (Value × Hp × Nat) := (cutK (A 67).c (codeE P cal (codeF P cal k) none 67 (cR code67) (Lv.b (A 67)) (doneK P results67) X0 (doneK P results67)))
noncomputable def K67_pxr (cal : Cal) (k : Nat) : XC (Value × Hp × Nat) := (upX 0 (doneK P results67) X0)
noncomputable def K67_prl (cal : Cal) (k : Nat) (m1 : Nat) : KC (Value × Hp × Nat) := (fun T H n D => codeF P cal m1 (Lv.a (Lv.b (A 67))) none 67 (cL (cR code67)) (doneK P results67) (K67_pxr cal k) (doneK P results67) (cutT (Lv.a (Lv.b (A 67))).c T) H n D)
noncomputable def K67_prll (cal : Cal) (k : Nat) (m1 : Nat) : KC (Value × Hp × Nat) := (cutK (Lv.a (Lv.a (Lv.b (A 67)))).c (codeE P cal (codeF P cal m1) none 67 (cR (cL (cL (cR code67)))) (Lv.b (Lv.a (Lv.a (Lv.b (A 67))))) (K67_prl cal k m1) (K67_pxr cal k) (doneK P results67)))
noncomputable def K67_prllr (cal : Cal) (k : Nat) (m1 : Nat) : KC (Value × Hp × Nat) := (cutK (Lv.b (Lv.a (Lv.a (Lv.b (A 67))))).c (codeE P cal (codeF P cal m1) none 67 (cR (cR (cL (cL (cR code67))))) (Lv.b (Lv.b (Lv.a (Lv.a (Lv.b (A 67)))))) (K67_prl cal k m1) (K67_pxr cal k) (doneK P results67)))
noncomputable def K67_prllrr (cal : Cal) (k : Nat) (m1 : Nat) : KC (Value × Hp × Nat) := (cutK (Lv.b (Lv.b (Lv.a (Lv.a (Lv.b (A 67)))))).c (codeE P cal (codeF P cal m1) none 67 (cR (cR (cR (cL (cL (cR code67)))))) (Lv.b (Lv.b (Lv.b (Lv.a (Lv.a (Lv.b (A 67))))))) (K67_prl cal k m1) (K67_pxr cal k) (doneK P results67)))
noncomputable def K67_pxrllrrl (cal : Cal) (k : Nat) (m1 : Nat) : XC (Value × Hp × Nat) := (upX 1 (K67_prllrr cal k m1) (K67_pxr cal k))
noncomputable def K67_prllrrll (cal : Cal) (k : Nat) (m1 : Nat) : KC (Value × Hp × Nat) := (cutK (Lv.a (Lv.a (Lv.b (Lv.b (Lv.a (Lv.a (Lv.b (A 67)))))))).c (codeE P cal (codeF P cal m1) none 67 (cR (cL (cL (cR (cR (cL (cL (cR code67)))))))) (Lv.b (Lv.a (Lv.a (Lv.b (Lv.b (Lv.a (Lv.a (Lv.b (A 67))))))))) (K67_prllrr cal k m1) (K67_pxrllrrl cal k m1) (doneK P results67)))
noncomputable def K67_prllrrllr (cal : Cal) (k : Nat) (m1 : Nat) : KC (Value × Hp × Nat) := (cutK (Lv.b (Lv.a (Lv.a (Lv.b (Lv.b (Lv.a (Lv.a (Lv.b (A 67))))))))).c (codeE P cal (codeF P cal m1) none 67 (cR (cR (cL (cL (cR (cR (cL (cL (cR code67))))))))) (Lv.b (Lv.b (Lv.a (Lv.a (Lv.b (Lv.b (Lv.a (Lv.a (Lv.b (A 67)))))))))) (K67_prllrr cal k m1) (K67_pxrllrrl cal k m1) (doneK P results67)))
noncomputable def E67_1 (cal : Cal) (k m1 : Nat) : KC (Value × Hp × Nat) := codeE P cal (codeF P cal m1) none 67 (cL (cL (cR code67))) (Lv.a (Lv.a (Lv.b (A 67)))) (K67_prl cal k m1) (K67_pxr cal k) (doneK P results67)
noncomputable def R67_1 (cal : Cal) (k m1 : Nat) : Value → Value → Value → Value → Value → Hp → Nat → Res := fun u0 u1 u2 u10 u11 H n => codeF P cal m1 (Lv.a (Lv.b (A 67))) none 67 (cL (cR code67)) (doneK P results67) (K67_pxr cal k) (doneK P results67) (Tr.set (Tr.set (Tr.set (Tr.set (Tr.set Tr.nil 11 (some u11)) 10 (some u10)) 2 (some u2)) 1 (some u1)) 0 (some u0)) H n []
noncomputable def B67_1 (cal : Cal) (k m1 : Nat) (b1 : Value → Value → Value → Value → Value → Hp → Nat → Res) (u0 u1 u2 u10 u11 : Value) (H : Hp) (n : Nat) : Res :=
binK P Go.BinOp.lss 3 (Go.Operand.tmp 11) (Go.Operand.tmp 10) u11 u10 fun v12_10 =>
ifK v12_10 (
bindO (addrV u1) fun a_13 => bindO (loadV P H 46 a_13) fun v_14 =>
bindO (nilV v_14) fun v16_16 =>
bindO (fieldAddrV P 53 v16_16 1) fun v17_17 =>
bindO (indexAddrV P 51 v17_17 u11) fun v18_18 =>
bindO (addrV v18_18) fun a_19 => bindO (loadV P H 50 a_19) fun v_20 =>
bindO (addrV u2) fun a_21 => bindO (loadV P H 50 a_21) fun v_22 =>
callFK P cal 43 [v_20, v_22] H n fun v21_23 H_24 n_25 =>
guardD v21_23 true (fun k_27 =>
k_27 u0 .p H_24 n_25) .p H_24 n_25 fun v_28 x_29 H_30 n_31 =>
guardD v21_23 true (fun k_33 =>
k_33 u11 .p H_30 n_31) .p H_30 n_31 fun v_34 x_35 H_36 n_37 =>
guardD v21_23 true (fun k_39 =>
callVK P cal v_28 [v_34] H_36 n_37 fun v25_44 H_45 n_46 =>
k_39 v25_44 .e H_45 n_46) .e H_36 n_37 fun v_40 x_41 H_42 n_43 =>
guardD v21_23 true (fun k_47 =>
bindO (pureSem P v_40 (Op.unary Go.UnOp.not v_40)) fun v26_52 =>
k_47 v26_52 .p H_42 n_43) .p H_42 n_43 fun v_48 x_49 H_50 n_51 =>
bindO (pickV v21_23 v_48 (Go.Value.bool false)) fun v27_53 =>
ifK v27_53 (
some ((Value.tuple ⟨[]⟩), H_50, n_51)) (
binK P Go.BinOp.add 3 (Go.Operand.tmp 11) (Go.Operand.const (Go.Value.int Go.IntKind.i64 1)) u11 (Go.Value.int Go.IntKind.i64 1) fun v28_54 =>
b1 u0 u1 u2 u10 v28_54 H_50 n_51)) (
some ((Value.tuple ⟨[]⟩), H, n))
noncomputable def C67_1 (cal : Cal) (k m1 : Nat) (b1 : Value → Value → Value → Value → Value → Hp → Nat → Res) (u0 u1 u2 u10 u11 : Value) (H : Hp) (n : Nat) : Res := B67_1 cal k m1 b1 u0 u1 u2 u10 u11 H n
noncomputable def S67_1 (cal : Cal) (k : Nat) : Nat → Value → Value → Value → Value → Value → Hp → Nat → Res := fun m => Nat.rec (motive := fun _ => Value → Value → Value → Value → Value → Hp → Nat → Res) (C67_1 cal k 0 (fun _ _ _ _ _ _ _ => none)) (fun m ih => C67_1 cal k (m + 1) ih) m
theorem h67_1 (cal : Cal) (k m1 : Nat) (u0 u1 u2 u10 u11 : Value) (H : Hp) (n : Nat) : labK (E67_1 cal k m1) (Tr.set (Tr.set (Tr.set (Tr.set (Tr.set Tr.nil 11 (some u11)) 10 (some u10)) 2 (some u2)) 1 (some u1)) 0 (some u0)) H n [] = C67_1 cal k m1 (R67_1 cal k m1) u0 u1 u2 u10 u11 H n := by
  have h : labK (E67_1 cal k m1) (Tr.set (Tr.set (Tr.set (Tr.set (Tr.set Tr.nil 11 (some u11)) 10 (some u10)) 2 (some u2)) 1 (some u1)) 0 (some u0)) H n [] = B67_1 cal k m1 (R67_1 cal k m1) u0 u1 u2 u10 u11 H n := by kernel_rfl
  rw [h, C67_1]
theorem q67_1 (cal : Cal) (k : Nat) : ∀ (m : Nat) (u0 u1 u2 u10 u11 : Value) (H : Hp) (n : Nat), labK (E67_1 cal k m) (Tr.set (Tr.set (Tr.set (Tr.set (Tr.set Tr.nil 11 (some u11)) 10 (some u10)) 2 (some u2)) 1 (some u1)) 0 (some u0)) H n [] = S67_1 cal k m u0 u1 u2 u10 u11 H n
  | 0, u0, u1, u2, u10, u11, H, n => by
    rw [h67_1]
    have e : R67_1 cal k 0 = fun _ _ _ _ _ _ _ => none := by funext u0 u1 u2 u10 u11 H n; kernel_rfl
    rw [e]; rfl
  | m + 1, u0, u1, u2, u10, u11, H, n => by
    rw [h67_1]
    have e : R67_1 cal k (m + 1) = S67_1 cal k m := by
      funext u0 u1 u2 u10 u11 H n
      have e : R67_1 cal k (m + 1) u0 u1 u2 u10 u11 H n = labK (E67_1 cal k m) (Tr.set (Tr.set (Tr.set (Tr.set (Tr.set Tr.nil 11 (some u11)) 10 (some u10)) 2 (some u2)) 1 (some u1)) 0 (some u0)) H n [] := by kernel_rfl
      rw [e]; exact q67_1 ..
    rw [e]; rfl
noncomputable def B67_0 (cal : Cal) (k : Nat) (j1 : Value → Value → Value → Value → Value → Hp → Nat → Res) (v0 v1 v2 : Value) (H : Hp) (n : Nat) : Res :=
bindO (addrV v1) fun a_2 => bindO (loadV P H 46 a_2) fun v5_1 =>
bindO (nilV v5_1) fun v6_3 =>
bindO (fieldAddrV P 53 v6_3 0) fun v7_4 =>
bindO (fieldAddrV P 33 v7_4 2) fun v8_5 =>
bindO (addrV v8_5) fun a_7 => bindO (loadV P H 31 a_7) fun v9_6 =>
bindO (lenV P 31 v9_6) fun v10_8 =>
j1 v0 v1 v2 v10_8 (Go.Value.int Go.IntKind.i64 0) H n
noncomputable def C67_0 (cal : Cal) (k : Nat) (v0 v1 v2 : Value) (H : Hp) (n : Nat) : Res := B67_0 cal k (S67_1 cal k k) v0 v1 v2 H n
theorem h67_0 (cal : Cal) (k : Nat) (v0 v1 v2 : Value) (H : Hp) (n : Nat) : bodyE P cal A (k + 1) 67 [v0, v1, v2] H n = C67_0 cal k v0 v1 v2 H n := by
  have h : bodyE P cal A (k + 1) 67 [v0, v1, v2] H n = B67_0 cal k (fun u0 u1 u2 u10 u11 H n => labK (E67_1 cal k k) (Tr.set (Tr.set (Tr.set (Tr.set (Tr.set Tr.nil 11 (some u11)) 10 (some u10)) 2 (some u2)) 1 (some u1)) 0 (some u0)) H n []) v0 v1 v2 H n := by
    rw [body_eq (fn := Go.Proofs.Try.f67) (c := code67) (rs := results67) (by kernel_rfl) (by kernel_rfl) (by kernel_rfl) (by kernel_rfl)]
    kernel_rfl
  rw [h, C67_0]
  have e1 : (fun u0 u1 u2 u10 u11 H n => labK (E67_1 cal k k) (Tr.set (Tr.set (Tr.set (Tr.set (Tr.set Tr.nil 11 (some u11)) 10 (some u10)) 2 (some u2)) 1 (some u1)) 0 (some u0)) H n []) = (S67_1 cal k k) := by funext u0 u1 u2 u10 u11 H n; exact q67_1 ..
  rw [e1]
noncomputable def code68 : Code := codeOf 68
noncomputable def results68 : List ResultVar := resOf 68
noncomputable def K68_p (cal : Cal) (k : Nat) : KC (Value × Hp × Nat) := (cutK (A 68).c (codeE P cal (codeF P cal k) none 68 (cR code68) (Lv.b (A 68)) (doneK P results68) X0 (doneK P results68)))
noncomputable def K68_pr (cal : Cal) (k : Nat) : KC (Value × Hp × Nat) := (cutK (Lv.b (A 68)).c (codeE P cal (codeF P cal k) none 68 (cR (cR code68)) (Lv.b (Lv.b (A 68))) (doneK P results68) X0 (doneK P results68)))
noncomputable def B68_0 (cal : Cal) (k : Nat) (v0 : Value) (H : Hp) (n : Nat) : Res :=
binK P Go.BinOp.shr 122 (Go.Operand.tmp 3) (Go.Operand.const (Go.Value.int Go.IntKind.u64 24)) v0 (Go.Value.int Go.IntKind.u64 24) fun v4_3 =>
bindO (indexV P 9 (Go.Value.string (ByteArray.mk #[0, 1, 1, 2, 1, 2, 2, 3, 1, 2, 2, 3, 2, 3, 3, 4, 1, 2, 2, 3, 2, 3, 3, 4, 2, 3, 3, 4, 3, 4, 4, 5, 1, 2, 2, 3, 2, 3, 3, 4, 2, 3, 3, 4, 3, 4, 4, 5, 2, 3, 3, 4, 3, 4, 4, 5, 3, 4, 4, 5, 4, 5, 5, 6, 1, 2, 2, 3, 2, 3, 3, 4, 2, 3, 3, 4, 3, 4, 4, 5, 2, 3, 3, 4, 3, 4, 4, 5, 3, 4, 4, 5, 4, 5, 5, 6, 2, 3, 3, 4, 3, 4, 4, 5, 3, 4, 4, 5, 4, 5, 5, 6, 3, 4, 4, 5, 4, 5, 5, 6, 4, 5, 5, 6, 5, 6, 6, 7, 1, 2, 2, 3, 2, 3, 3, 4, 2, 3, 3, 4, 3, 4, 4, 5, 2, 3, 3, 4, 3, 4, 4, 5, 3, 4, 4, 5, 4, 5, 5, 6, 2, 3, 3, 4, 3, 4, 4, 5, 3, 4, 4, 5, 4, 5, 5, 6, 3, 4, 4, 5, 4, 5, 5, 6, 4, 5, 5, 6, 5, 6, 6, 7, 2, 3, 3, 4, 3, 4, 4, 5, 3, 4, 4, 5, 4, 5, 5, 6, 3, 4, 4, 5, 4, 5, 5, 6, 4, 5, 5, 6, 5, 6, 6, 7, 3, 4, 4, 5, 4, 5, 5, 6, 4, 5, 5, 6, 5, 6, 6, 7, 4, 5, 5, 6, 5, 6, 6, 7, 5, 6, 6, 7, 6, 7, 7, 8])) v4_3) fun v5_4 =>
binK P Go.BinOp.shr 122 (Go.Operand.tmp 6) (Go.Operand.const (Go.Value.int Go.IntKind.u64 16)) v0 (Go.Value.int Go.IntKind.u64 16) fun v7_6 =>
binK P Go.BinOp.and 122 (Go.Operand.tmp 7) (Go.Operand.const (Go.Value.int Go.IntKind.u32 255)) v7_6 (Go.Value.int Go.IntKind.u32 255) fun v8_7 =>
bindO (indexV P 9 (Go.Value.string (ByteArray.mk #[0, 1, 1, 2, 1, 2, 2, 3, 1, 2, 2, 3, 2, 3, 3, 4, 1, 2, 2, 3, 2, 3, 3, 4, 2, 3, 3, 4, 3, 4, 4, 5, 1, 2, 2, 3, 2, 3, 3, 4, 2, 3, 3, 4, 3, 4, 4, 5, 2, 3, 3, 4, 3, 4, 4, 5, 3, 4, 4, 5, 4, 5, 5, 6, 1, 2, 2, 3, 2, 3, 3, 4, 2, 3, 3, 4, 3, 4, 4, 5, 2, 3, 3, 4, 3, 4, 4, 5, 3, 4, 4, 5, 4, 5, 5, 6, 2, 3, 3, 4, 3, 4, 4, 5, 3, 4, 4, 5, 4, 5, 5, 6, 3, 4, 4, 5, 4, 5, 5, 6, 4, 5, 5, 6, 5, 6, 6, 7, 1, 2, 2, 3, 2, 3, 3, 4, 2, 3, 3, 4, 3, 4, 4, 5, 2, 3, 3, 4, 3, 4, 4, 5, 3, 4, 4, 5, 4, 5, 5, 6, 2, 3, 3, 4, 3, 4, 4, 5, 3, 4, 4, 5, 4, 5, 5, 6, 3, 4, 4, 5, 4, 5, 5, 6, 4, 5, 5, 6, 5, 6, 6, 7, 2, 3, 3, 4, 3, 4, 4, 5, 3, 4, 4, 5, 4, 5, 5, 6, 3, 4, 4, 5, 4, 5, 5, 6, 4, 5, 5, 6, 5, 6, 6, 7, 3, 4, 4, 5, 4, 5, 5, 6, 4, 5, 5, 6, 5, 6, 6, 7, 4, 5, 5, 6, 5, 6, 6, 7, 5, 6, 6, 7, 6, 7, 7, 8])) v8_7) fun v9_8 =>
binK P Go.BinOp.add 5 (Go.Operand.tmp 5) (Go.Operand.tmp 9) v5_4 v9_8 fun v10_9 =>
binK P Go.BinOp.shr 122 (Go.Operand.tmp 11) (Go.Operand.const (Go.Value.int Go.IntKind.u64 8)) v0 (Go.Value.int Go.IntKind.u64 8) fun v12_11 =>
binK P Go.BinOp.and 122 (Go.Operand.tmp 12) (Go.Operand.const (Go.Value.int Go.IntKind.u32 255)) v12_11 (Go.Value.int Go.IntKind.u32 255) fun v13_12 =>
bindO (indexV P 9 (Go.Value.string (ByteArray.mk #[0, 1, 1, 2, 1, 2, 2, 3, 1, 2, 2, 3, 2, 3, 3, 4, 1, 2, 2, 3, 2, 3, 3, 4, 2, 3, 3, 4, 3, 4, 4, 5, 1, 2, 2, 3, 2, 3, 3, 4, 2, 3, 3, 4, 3, 4, 4, 5, 2, 3, 3, 4, 3, 4, 4, 5, 3, 4, 4, 5, 4, 5, 5, 6, 1, 2, 2, 3, 2, 3, 3, 4, 2, 3, 3, 4, 3, 4, 4, 5, 2, 3, 3, 4, 3, 4, 4, 5, 3, 4, 4, 5, 4, 5, 5, 6, 2, 3, 3, 4, 3, 4, 4, 5, 3, 4, 4, 5, 4, 5, 5, 6, 3, 4, 4, 5, 4, 5, 5, 6, 4, 5, 5, 6, 5, 6, 6, 7, 1, 2, 2, 3, 2, 3, 3, 4, 2, 3, 3, 4, 3, 4, 4, 5, 2, 3, 3, 4, 3, 4, 4, 5, 3, 4, 4, 5, 4, 5, 5, 6, 2, 3, 3, 4, 3, 4, 4, 5, 3, 4, 4, 5, 4, 5, 5, 6, 3, 4, 4, 5, 4, 5, 5, 6, 4, 5, 5, 6, 5, 6, 6, 7, 2, 3, 3, 4, 3, 4, 4, 5, 3, 4, 4, 5, 4, 5, 5, 6, 3, 4, 4, 5, 4, 5, 5, 6, 4, 5, 5, 6, 5, 6, 6, 7, 3, 4, 4, 5, 4, 5, 5, 6, 4, 5, 5, 6, 5, 6, 6, 7, 4, 5, 5, 6, 5, 6, 6, 7, 5, 6, 6, 7, 6, 7, 7, 8])) v13_12) fun v14_13 =>
binK P Go.BinOp.add 5 (Go.Operand.tmp 10) (Go.Operand.tmp 14) v10_9 v14_13 fun v15_14 =>
binK P Go.BinOp.and 122 (Go.Operand.tmp 16) (Go.Operand.const (Go.Value.int Go.IntKind.u32 255)) v0 (Go.Value.int Go.IntKind.u32 255) fun v17_16 =>
bindO (indexV P 9 (Go.Value.string (ByteArray.mk #[0, 1, 1, 2, 1, 2, 2, 3, 1, 2, 2, 3, 2, 3, 3, 4, 1, 2, 2, 3, 2, 3, 3, 4, 2, 3, 3, 4, 3, 4, 4, 5, 1, 2, 2, 3, 2, 3, 3, 4, 2, 3, 3, 4, 3, 4, 4, 5, 2, 3, 3, 4, 3, 4, 4, 5, 3, 4, 4, 5, 4, 5, 5, 6, 1, 2, 2, 3, 2, 3, 3, 4, 2, 3, 3, 4, 3, 4, 4, 5, 2, 3, 3, 4, 3, 4, 4, 5, 3, 4, 4, 5, 4, 5, 5, 6, 2, 3, 3, 4, 3, 4, 4, 5, 3, 4, 4, 5, 4, 5, 5, 6, 3, 4, 4, 5, 4, 5, 5, 6, 4, 5, 5, 6, 5, 6, 6, 7, 1, 2, 2, 3, 2, 3, 3, 4, 2, 3, 3, 4, 3, 4, 4, 5, 2, 3, 3, 4, 3, 4, 4, 5, 3, 4, 4, 5, 4, 5, 5, 6, 2, 3, 3, 4, 3, 4, 4, 5, 3, 4, 4, 5, 4, 5, 5, 6, 3, 4, 4, 5, 4, 5, 5, 6, 4, 5, 5, 6, 5, 6, 6, 7, 2, 3, 3, 4, 3, 4, 4, 5, 3, 4, 4, 5, 4, 5, 5, 6, 3, 4, 4, 5, 4, 5, 5, 6, 4, 5, 5, 6, 5, 6, 6, 7, 3, 4, 4, 5, 4, 5, 5, 6, 4, 5, 5, 6, 5, 6, 6, 7, 4, 5, 5, 6, 5, 6, 6, 7, 5, 6, 6, 7, 6, 7, 7, 8])) v17_16) fun v18_17 =>
binK P Go.BinOp.add 5 (Go.Operand.tmp 15) (Go.Operand.tmp 18) v15_14 v18_17 fun v19_18 =>
bindO (pureSem P v19_18 (convert 5 3 v19_18)) fun v20_19 =>
some (v20_19, H, n)
noncomputable def C68_0 (cal : Cal) (k : Nat) (v0 : Value) (H : Hp) (n : Nat) : Res := B68_0 cal k v0 H n
theorem h68_0 (cal : Cal) (k : Nat) (v0 : Value) (H : Hp) (n : Nat) : bodyE P cal A (k + 1) 68 [v0] H n = C68_0 cal k v0 H n := by
  have h : bodyE P cal A (k + 1) 68 [v0] H n = B68_0 cal k v0 H n := by
    rw [body_eq (fn := Go.Proofs.Try.f68) (c := code68) (rs := results68) (by kernel_rfl) (by kernel_rfl) (by kernel_rfl) (by kernel_rfl)]
    kernel_rfl
  rw [h, C68_0]
noncomputable def code69 : Code := codeOf 69
noncomputable def results69 : List ResultVar := resOf 69
noncomputable def K69_p (cal : Cal) (k : Nat) : KC (Value × Hp × Nat) := (cutK (A 69).c (codeE P cal (codeF P cal k) none 69 (cR code69) (Lv.b (A 69)) (doneK P results69) X0 (doneK P results69)))
noncomputable def K69_pr (cal : Cal) (k : Nat) : KC (Value × Hp × Nat) := (cutK (Lv.b (A 69)).c (codeE P cal (codeF P cal k) none 69 (cR (cR code69)) (Lv.b (Lv.b (A 69))) (doneK P results69) X0 (doneK P results69)))
noncomputable def K69_prr (cal : Cal) (k : Nat) : KC (Value × Hp × Nat) := (cutK (Lv.b (Lv.b (A 69))).c (codeE P cal (codeF P cal k) none 69 (cR (cR (cR code69))) (Lv.b (Lv.b (Lv.b (A 69)))) (doneK P results69) X0 (doneK P results69)))
noncomputable def K69_prrr (cal : Cal) (k : Nat) : KC (Value × Hp × Nat) := (cutK (Lv.b (Lv.b (Lv.b (A 69)))).c (codeE P cal (codeF P cal k) none 69 (cR (cR (cR (cR code69)))) (Lv.b (Lv.b (Lv.b (Lv.b (A 69))))) (doneK P results69) X0 (doneK P results69)))
noncomputable def K69_prrrr (cal : Cal) (k : Nat) : KC (Value × Hp × Nat) := (cutK (Lv.b (Lv.b (Lv.b (Lv.b (A 69))))).c (codeE P cal (codeF P cal k) none 69 (cR (cR (cR (cR (cR code69))))) (Lv.b (Lv.b (Lv.b (Lv.b (Lv.b (A 69)))))) (doneK P results69) X0 (doneK P results69)))
noncomputable def K69_prrrrr (cal : Cal) (k : Nat) : KC (Value × Hp × Nat) := (cutK (Lv.b (Lv.b (Lv.b (Lv.b (Lv.b (A 69)))))).c (codeE P cal (codeF P cal k) none 69 (cR (cR (cR (cR (cR (cR code69)))))) (Lv.b (Lv.b (Lv.b (Lv.b (Lv.b (Lv.b (A 69))))))) (doneK P results69) X0 (doneK P results69)))
noncomputable def K69_prrrrrr (cal : Cal) (k : Nat) : KC (Value × Hp × Nat) := (cutK (Lv.b (Lv.b (Lv.b (Lv.b (Lv.b (Lv.b (A 69))))))).c (codeE P cal (codeF P cal k) none 69 (cR (cR (cR (cR (cR (cR (cR code69))))))) (Lv.b (Lv.b (Lv.b (Lv.b (Lv.b (Lv.b (Lv.b (A 69)))))))) (doneK P results69) X0 (doneK P results69)))
noncomputable def K69_prrrrrrr (cal : Cal) (k : Nat) : KC (Value × Hp × Nat) := (cutK (Lv.b (Lv.b (Lv.b (Lv.b (Lv.b (Lv.b (Lv.b (A 69)))))))).c (codeE P cal (codeF P cal k) none 69 (cR (cR (cR (cR (cR (cR (cR (cR code69)))))))) (Lv.b (Lv.b (Lv.b (Lv.b (Lv.b (Lv.b (Lv.b (Lv.b (A 69))))))))) (doneK P results69) X0 (doneK P results69)))
noncomputable def B69_0 (cal : Cal) (k : Nat) (v0 : Value) (H : Hp) (n : Nat) : Res :=
binK P Go.BinOp.shr 124 (Go.Operand.tmp 3) (Go.Operand.const (Go.Value.int Go.IntKind.u64 1)) v0 (Go.Value.int Go.IntKind.u64 1) fun v4_3 =>
binK P Go.BinOp.and 124 (Go.Operand.tmp 4) (Go.Operand.const (Go.Value.int Go.IntKind.u64 6148914691236517205)) v4_3 (Go.Value.int Go.IntKind.u64 6148914691236517205) fun v5_4 =>
binK P Go.BinOp.and 124 (Go.Operand.tmp 6) (Go.Operand.const (Go.Value.int Go.IntKind.u64 6148914691236517205)) v0 (Go.Value.int Go.IntKind.u64 6148914691236517205) fun v7_6 =>
binK P Go.BinOp.add 124 (Go.Operand.tmp 5) (Go.Operand.tmp 7) v5_4 v7_6 fun v8_7 =>
binK P Go.BinOp.shr 124 (Go.Operand.tmp 9) (Go.Operand.const (Go.Value.int Go.IntKind.u64 2)) v8_7 (Go.Value.int Go.IntKind.u64 2) fun v10_10 =>
binK P Go.BinOp.and 124 (Go.Operand.tmp 10) (Go.Operand.const (Go.Value.int Go.IntKind.u64 3689348814741910323)) v10_10 (Go.Value.int Go.IntKind.u64 3689348814741910323) fun v11_11 =>
binK P Go.BinOp.and 124 (Go.Operand.tmp 12) (Go.Operand.const (Go.Value.int Go.IntKind.u64 3689348814741910323)) v8_7 (Go.Value.int Go.IntKind.u64 3689348814741910323) fun v13_13 =>
binK P Go.BinOp.add 124 (Go.Operand.tmp 11) (Go.Operand.tmp 13) v11_11 v13_13 fun v14_14 =>
binK P Go.BinOp.shr 124 (Go.Operand.tmp 15) (Go.Operand.const (Go.Value.int Go.IntKind.u64 4)) v14_14 (Go.Value.int Go.IntKind.u64 4) fun v16_17 =>
binK P Go.BinOp.add 124 (Go.Operand.tmp 16) (Go.Operand.tmp 17) v16_17 v14_14 fun v18_19 =>
binK P Go.BinOp.and 124 (Go.Operand.tmp 18) (Go.Operand.const (Go.Value.int Go.IntKind.u64 1085102592571150095)) v18_19 (Go.Value.int Go.IntKind.u64 1085102592571150095) fun v19_20 =>
binK P Go.BinOp.shr 124 (Go.Operand.tmp 21) (Go.Operand.const (Go.Value.int Go.IntKind.u64 8)) v19_20 (Go.Value.int Go.IntKind.u64 8) fun v22_24 =>
binK P Go.BinOp.add 124 (Go.Operand.tmp 20) (Go.Operand.tmp 22) v19_20 v22_24 fun v23_25 =>
binK P Go.BinOp.shr 124 (Go.Operand.tmp 25) (Go.Operand.const (Go.Value.int Go.IntKind.u64 16)) v23_25 (Go.Value.int Go.IntKind.u64 16) fun v26_29 =>
binK P Go.BinOp.add 124 (Go.Operand.tmp 24) (Go.Operand.tmp 26) v23_25 v26_29 fun v27_30 =>
binK P Go.BinOp.shr 124 (Go.Operand.tmp 29) (Go.Operand.const (Go.Value.int Go.IntKind.u64 32)) v27_30 (Go.Value.int Go.IntKind.u64 32) fun v30_34 =>
binK P Go.BinOp.add 124 (Go.Operand.tmp 28) (Go.Operand.tmp 30) v27_30 v30_34 fun v31_35 =>
bindO (pureSem P v31_35 (convert 124 3 v31_35)) fun v33_38 =>
binK P Go.BinOp.and 3 (Go.Operand.tmp 33) (Go.Operand.const (Go.Value.int Go.IntKind.i64 127)) v33_38 (Go.Value.int Go.IntKind.i64 127) fun v34_39 =>
some (v34_39, H, n)
noncomputable def C69_0 (cal : Cal) (k : Nat) (v0 : Value) (H : Hp) (n : Nat) : Res := B69_0 cal k v0 H n
theorem h69_0 (cal : Cal) (k : Nat) (v0 : Value) (H : Hp) (n : Nat) : bodyE P cal A (k + 1) 69 [v0] H n = C69_0 cal k v0 H n := by
  have h : bodyE P cal A (k + 1) 69 [v0] H n = B69_0 cal k v0 H n := by
    rw [body_eq (fn := Go.Proofs.Try.f69) (c := code69) (rs := results69) (by kernel_rfl) (by kernel_rfl) (by kernel_rfl) (by kernel_rfl)]
    kernel_rfl
  rw [h, C69_0]
noncomputable def code70 : Code := codeOf 70
noncomputable def results70 : List ResultVar := resOf 70
noncomputable def K70_p (cal : Cal) (k : Nat) : KC (Value × Hp × Nat) := (cutK (A 70).c (codeE P cal (codeF P cal k) none 70 (cR code70) (Lv.b (A 70)) (doneK P results70) X0 (doneK P results70)))
noncomputable def K70_pxr (cal : Cal) (k : Nat) : XC (Value × Hp × Nat) := (upX 0 (doneK P results70) X0)
noncomputable def K70_prl (cal : Cal) (k : Nat) (m1 : Nat) : KC (Value × Hp × Nat) := (fun T H n D => codeF P cal m1 (Lv.a (Lv.b (A 70))) none 70 (cL (cR code70)) (doneK P results70) (K70_pxr cal k) (doneK P results70) (cutT (Lv.a (Lv.b (A 70))).c T) H n D)
noncomputable def K70_prll (cal : Cal) (k : Nat) (m1 : Nat) : KC (Value × Hp × Nat) := (cutK (Lv.a (Lv.a (Lv.b (A 70)))).c (codeE P cal (codeF P cal m1) none 70 (cR (cL (cL (cR code70)))) (Lv.b (Lv.a (Lv.a (Lv.b (A 70))))) (K70_prl cal k m1) (K70_pxr cal k) (doneK P results70)))
noncomputable def K70_prlll (cal : Cal) (k : Nat) (m1 : Nat) : KC (Value × Hp × Nat) := (cutK (Lv.a (Lv.a (Lv.a (Lv.b (A 70))))).c (codeE P cal (codeF P cal m1) none 70 (cR (cL (cL (cL (cR code70))))) (Lv.b (Lv.a (Lv.a (Lv.a (Lv.b (A 70)))))) (K70_prll cal k m1) (K70_pxr cal k) (doneK P results70)))
noncomputable def K70_prllr (cal : Cal) (k : Nat) (m1 : Nat) : KC (Value × Hp × Nat) := (cutK (Lv.b (Lv.a (Lv.a (Lv.b (A 70))))).c (codeE P cal (codeF P cal m1) none 70 (cR (cR (cL (cL (cR code70))))) (Lv.b (Lv.b (Lv.a (Lv.a (Lv.b (A 70)))))) (K70_prl cal k m1) (K70_pxr cal k) (doneK P results70)))
noncomputable def K70_pxrllrl (cal : Cal) (k : Nat) (m1 : Nat) : XC (Value × Hp × Nat) := (upX 1 (K70_prllr cal k m1) (K70_pxr cal k))
noncomputable def K70_prllrll (cal : Cal) (k : Nat) (m1 : Nat) : KC (Value × Hp × Nat) := (cutK (Lv.a (Lv.a (Lv.b (Lv.a (Lv.a (Lv.b (A 70))))))).c (codeE P cal (codeF P cal m1) none 70 (cR (cL (cL (cR (cL (cL (cR code70))))))) (Lv.b (Lv.a (Lv.a (Lv.b (Lv.a (Lv.a (Lv.b (A 70)))))))) (K70_prllr cal k m1) (K70_pxrllrl cal k m1) (doneK P results70)))
noncomputable def E70_1 (cal : Cal) (k m1 : Nat) : KC (Value × Hp × Nat) := codeE P cal (codeF P cal m1) none 70 (cL (cL (cR code70))) (Lv.a (Lv.a (Lv.b (A 70)))) (K70_prl cal k m1) (K70_pxr cal k) (doneK P results70)
noncomputable def R70_1 (cal : Cal) (k m1 : Nat) : Value → Value → Value → Hp → Nat → Res := fun u0 u1 u3 H n => codeF P cal m1 (Lv.a (Lv.b (A 70))) none 70 (cL (cR code70)) (doneK P results70) (K70_pxr cal k) (doneK P results70) (Tr.set (Tr.set (Tr.set Tr.nil 3 (some u3)) 1 (some u1)) 0 (some u0)) H n []
noncomputable def B70_1 (cal : Cal) (k m1 : Nat) (b1 : Value → Value → Value → Hp → Nat → Res) (u0 u1 u3 : Value) (H : Hp) (n : Nat) : Res :=
binK P Go.BinOp.geq 3 (Go.Operand.tmp 7) (Go.Operand.const (Go.Value.int Go.IntKind.i64 0)) u3 (Go.Value.int Go.IntKind.i64 0) fun v8_7 =>
ifK v8_7 (
bindO (addrV u1) fun a_11 => bindO (loadV P H 54 a_11) fun v13_10 =>
bindO (indexAddrV P 54 v13_10 u3) fun v15_13 =>
bindO (addrV v15_13) fun a_15 => bindO (loadV P H 50 a_15) fun v16_14 =>
callVK P cal u0 [u3, v16_14] H n fun v17_16 H_17 n_18 =>
bindO (pureSem P v17_16 (Op.unary Go.UnOp.not v17_16)) fun v18_19 =>
ifK v18_19 (
some ((Value.tuple ⟨[]⟩), H_17, n_18)) (
binK P Go.BinOp.sub 3 (Go.Operand.tmp 9) (Go.Operand.const (Go.Value.int Go.IntKind.i64 1)) u3 (Go.Value.int Go.IntKind.i64 1) fun v10_21 =>
b1 u0 u1 v10_21 H_17 n_18)) (
some ((Value.tuple ⟨[]⟩), H, n))
noncomputable def C70_1 (cal : Cal) (k m1 : Nat) (b1 : Value → Value → Value → Hp → Nat → Res) (u0 u1 u3 : Value) (H : Hp) (n : Nat) : Res := B70_1 cal k m1 b1 u0 u1 u3 H n
noncomputable def S70_1 (cal : Cal) (k : Nat) : Nat → Value → Value → Value → Hp → Nat → Res := fun m => Nat.rec (motive := fun _ => Value → Value → Value → Hp → Nat → Res) (C70_1 cal k 0 (fun _ _ _ _ _ => none)) (fun m ih => C70_1 cal k (m + 1) ih) m
theorem h70_1 (cal : Cal) (k m1 : Nat) (u0 u1 u3 : Value) (H : Hp) (n : Nat) : labK (E70_1 cal k m1) (Tr.set (Tr.set (Tr.set Tr.nil 3 (some u3)) 1 (some u1)) 0 (some u0)) H n [] = C70_1 cal k m1 (R70_1 cal k m1) u0 u1 u3 H n := by
  have h : labK (E70_1 cal k m1) (Tr.set (Tr.set (Tr.set Tr.nil 3 (some u3)) 1 (some u1)) 0 (some u0)) H n [] = B70_1 cal k m1 (R70_1 cal k m1) u0 u1 u3 H n := by kernel_rfl
  rw [h, C70_1]
theorem q70_1 (cal : Cal) (k : Nat) : ∀ (m : Nat) (u0 u1 u3 : Value) (H : Hp) (n : Nat), labK (E70_1 cal k m) (Tr.set (Tr.set (Tr.set Tr.nil 3 (some u3)) 1 (some u1)) 0 (some u0)) H n [] = S70_1 cal k m u0 u1 u3 H n
  | 0, u0, u1, u3, H, n => by
    rw [h70_1]
    have e : R70_1 cal k 0 = fun _ _ _ _ _ => none := by funext u0 u1 u3 H n; kernel_rfl
    rw [e]; rfl
  | m + 1, u0, u1, u3, H, n => by
    rw [h70_1]
    have e : R70_1 cal k (m + 1) = S70_1 cal k m := by
      funext u0 u1 u3 H n
      have e : R70_1 cal k (m + 1) u0 u1 u3 H n = labK (E70_1 cal k m) (Tr.set (Tr.set (Tr.set Tr.nil 3 (some u3)) 1 (some u1)) 0 (some u0)) H n [] := by kernel_rfl
      rw [e]; exact q70_1 ..
    rw [e]; rfl
noncomputable def B70_0 (cal : Cal) (k : Nat) (j1 : Value → Value → Value → Hp → Nat → Res) (v0 v1 : Value) (H : Hp) (n : Nat) : Res :=
bindO (addrV v1) fun a_2 => bindO (loadV P H 54 a_2) fun v4_1 =>
bindO (lenV P 54 v4_1) fun v5_3 =>
binK P Go.BinOp.sub 3 (Go.Operand.tmp 5) (Go.Operand.const (Go.Value.int Go.IntKind.i64 1)) v5_3 (Go.Value.int Go.IntKind.i64 1) fun v6_4 =>
j1 v0 v1 v6_4 H n
noncomputable def C70_0 (cal : Cal) (k : Nat) (v0 v1 : Value) (H : Hp) (n : Nat) : Res := B70_0 cal k (S70_1 cal k k) v0 v1 H n
theorem h70_0 (cal : Cal) (k : Nat) (v0 v1 : Value) (H : Hp) (n : Nat) : bodyE P cal A (k + 1) 70 [v0, v1] H n = C70_0 cal k v0 v1 H n := by
  have h : bodyE P cal A (k + 1) 70 [v0, v1] H n = B70_0 cal k (fun u0 u1 u3 H n => labK (E70_1 cal k k) (Tr.set (Tr.set (Tr.set Tr.nil 3 (some u3)) 1 (some u1)) 0 (some u0)) H n []) v0 v1 H n := by
    rw [body_eq (fn := Go.Proofs.Try.f70) (c := code70) (rs := results70) (by kernel_rfl) (by kernel_rfl) (by kernel_rfl) (by kernel_rfl)]
    kernel_rfl
  rw [h, C70_0]
  have e1 : (fun u0 u1 u3 H n => labK (E70_1 cal k k) (Tr.set (Tr.set (Tr.set Tr.nil 3 (some u3)) 1 (some u1)) 0 (some u0)) H n []) = (S70_1 cal k k) := by funext u0 u1 u3 H n; exact q70_1 ..
  rw [e1]
noncomputable def code71 : Code := codeOf 71
noncomputable def results71 : List ResultVar := resOf 71
noncomputable def K71_p (cal : Cal) (k : Nat) : KC (Value × Hp × Nat) := (cutK (A 71).c (codeE P cal (codeF P cal k) none 71 (cR code71) (Lv.b (A 71)) (doneK P results71) X0 (doneK P results71)))
noncomputable def K71_pr (cal : Cal) (k : Nat) : KC (Value × Hp × Nat) := (cutK (Lv.b (A 71)).c (codeE P cal (codeF P cal k) none 71 (cR (cR code71)) (Lv.b (Lv.b (A 71))) (doneK P results71) X0 (doneK P results71)))
noncomputable def K71_prl (cal : Cal) (k : Nat) : KC (Value × Hp × Nat) := (cutK (Lv.a (Lv.b (A 71))).c (codeE P cal (codeF P cal k) none 71 (cR (cL (cR code71))) (Lv.b (Lv.a (Lv.b (A 71)))) (K71_pr cal k) X0 (doneK P results71)))
noncomputable def K71_pxrlr (cal : Cal) (k : Nat) : XC (Value × Hp × Nat) := (upX 0 (K71_pr cal k) X0)
noncomputable def K71_prlrl (cal : Cal) (k : Nat) (m1 : Nat) : KC (Value × Hp × Nat) := (fun T H n D => codeF P cal m1 (Lv.a (Lv.b (Lv.a (Lv.b (A 71))))) none 71 (cL (cR (cL (cR code71)))) (K71_pr cal k) (K71_pxrlr cal k) (doneK P results71) (cutT (Lv.a (Lv.b (Lv.a (Lv.b (A 71))))).c T) H n D)
noncomputable def K71_prlrll (cal : Cal) (k : Nat) (m1 : Nat) : KC (Value × Hp × Nat) := (cutK (Lv.a (Lv.a (Lv.b (Lv.a (Lv.b (A 71)))))).c (codeE P cal (codeF P cal m1) none 71 (cR (cL (cL (cR (cL (cR code71)))))) (Lv.b (Lv.a (Lv.a (Lv.b (Lv.a (Lv.b (A 71))))))) (K71_prlrl cal k m1) (K71_pxrlr cal k) (doneK P results71)))
noncomputable def K71_prlrllr (cal : Cal) (k : Nat) (m1 : Nat) : KC (Value × Hp × Nat) := (cutK (Lv.b (Lv.a (Lv.a (Lv.b (Lv.a (Lv.b (A 71))))))).c (codeE P cal (codeF P cal m1) none 71 (cR (cR (cL (cL (cR (cL (cR code71))))))) (Lv.b (Lv.b (Lv.a (Lv.a (Lv.b (Lv.a (Lv.b (A 71)))))))) (K71_prlrl cal k m1) (K71_pxrlr cal k) (doneK P results71)))
noncomputable def K71_prlrllrr (cal : Cal) (k : Nat) (m1 : Nat) : KC (Value × Hp × Nat) := (cutK (Lv.b (Lv.b (Lv.a (Lv.a (Lv.b (Lv.a (Lv.b (A 71)))))))).c (codeE P cal (codeF P cal m1) none 71 (cR (cR (cR (cL (cL (cR (cL (cR code71)))))))) (Lv.b (Lv.b (Lv.b (Lv.a (Lv.a (Lv.b (Lv.a (Lv.b (A 71))))))))) (K71_prlrl cal k m1) (K71_pxrlr cal k) (doneK P results71)))
noncomputable def K71_pxrlrllrrl (cal : Cal) (k : Nat) (m1 : Nat) : XC (Value × Hp × Nat) := (upX 1 (K71_prlrllrr cal k m1) (K71_pxrlr cal k))
noncomputable def K71_prlrllrrll (cal : Cal) (k : Nat) (m1 : Nat) : KC (Value × Hp × Nat) := (cutK (Lv.a (Lv.a (Lv.b (Lv.b (Lv.a (Lv.a (Lv.b (Lv.a (Lv.b (A 71)))))))))).c (codeE P cal (codeF P cal m1) none 71 (cR (cL (cL (cR (cR (cL (cL (cR (cL (cR code71)))))))))) (Lv.b (Lv.a (Lv.a (Lv.b (Lv.b (Lv.a (Lv.a (Lv.b (Lv.a (Lv.b (A 71))))))))))) (K71_prlrllrr cal k m1) (K71_pxrlrllrrl cal k m1) (doneK P results71)))
noncomputable def K71_prlrllrrllr (cal : Cal) (k : Nat) (m1 : Nat) : KC (Value × Hp × Nat) := (cutK (Lv.b (Lv.a (Lv.a (Lv.b (Lv.b (Lv.a (Lv.a (Lv.b (Lv.a (Lv.b (A 71))))))))))).c (codeE P cal (codeF P cal m1) none 71 (cR (cR (cL (cL (cR (cR (cL (cL (cR (cL (cR code71))))))))))) (Lv.b (Lv.b (Lv.a (Lv.a (Lv.b (Lv.b (Lv.a (Lv.a (Lv.b (Lv.a (Lv.b (A 71)))))))))))) (K71_prlrllrr cal k m1) (K71_pxrlrllrrl cal k m1) (doneK P results71)))
noncomputable def K71_prlrllrrllrrl (cal : Cal) (k : Nat) (m1 : Nat) : KC (Value × Hp × Nat) := (cutK (Lv.a (Lv.b (Lv.b (Lv.a (Lv.a (Lv.b (Lv.b (Lv.a (Lv.a (Lv.b (Lv.a (Lv.b (A 71))))))))))))).c (codeE P cal (codeF P cal m1) none 71 (cR (cL (cR (cR (cL (cL (cR (cR (cL (cL (cR (cL (cR code71))))))))))))) (Lv.b (Lv.a (Lv.b (Lv.b (Lv.a (Lv.a (Lv.b (Lv.b (Lv.a (Lv.a (Lv.b (Lv.a (Lv.b (A 71)))))))))))))) (K71_prlrllrr cal k m1) (K71_pxrlrllrrl cal k m1) (doneK P results71)))
noncomputable def K71_prr (cal : Cal) (k : Nat) : KC (Value × Hp × Nat) := (cutK (Lv.b (Lv.b (A 71))).c (codeE P cal (codeF P cal k) none 71 (cR (cR (cR code71))) (Lv.b (Lv.b (Lv.b (A 71)))) (doneK P results71) X0 (doneK P results71)))
noncomputable def E71_1 (cal : Cal) (k m1 : Nat) : KC (Value × Hp × Nat) := codeE P cal (codeF P cal m1) none 71 (cL (cL (cR (cL (cR code71))))) (Lv.a (Lv.a (Lv.b (Lv.a (Lv.b (A 71)))))) (K71_prlrl cal k m1) (K71_pxrlr cal k) (doneK P results71)
noncomputable def R71_1 (cal : Cal) (k m1 : Nat) : Value → Value → Value → Value → Hp → Nat → Res := fun u1 u7 u8 u9 H n => codeF P cal m1 (Lv.a (Lv.b (Lv.a (Lv.b (A 71))))) none 71 (cL (cR (cL (cR code71)))) (K71_pr cal k) (K71_pxrlr cal k) (doneK P results71) (Tr.set (Tr.set (Tr.set (Tr.set Tr.nil 9 (some u9)) 8 (some u8)) 7 (some u7)) 1 (some u1)) H n []
noncomputable def B71_1 (cal : Cal) (k m1 : Nat) (b1 : Value → Value → Value → Value → Hp → Nat → Res) (u1 u7 u8 u9 : Value) (H : Hp) (n : Nat) : Res :=
binK P Go.BinOp.lss 3 (Go.Operand.tmp 9) (Go.Operand.tmp 8) u9 u8 fun v10_5 =>
ifK v10_5 (
bindO (indexAddrV P 26 u7 u9) fun v11_6 =>
bindO (addrV v11_6) fun a_8 => bindO (loadV P H 63 a_8) fun v12_7 =>
allocK P 63 H n fun v6_9 H_10 n_11 =>
bindO (storeP P 63 v6_9 v12_7 H_10) fun H_13 =>
bindO (addrV v6_9) fun a_16 => bindO (loadV P H_13 63 a_16) fun v14_15 =>
callVK P cal u1 [v14_15] H_13 n_11 fun v15_17 H_18 n_19 =>
bindO (pureSem P v15_17 (Op.unary Go.UnOp.not v15_17)) fun v16_20 =>
ifK v16_20 (
some ((Go.Value.bool false), H_18, n_19)) (
binK P Go.BinOp.add 3 (Go.Operand.tmp 9) (Go.Operand.const (Go.Value.int Go.IntKind.i64 1)) u9 (Go.Value.int Go.IntKind.i64 1) fun v17_22 =>
b1 u1 u7 u8 v17_22 H_18 n_19)) (
some ((Go.Value.bool true), H, n))
noncomputable def C71_1 (cal : Cal) (k m1 : Nat) (b1 : Value → Value → Value → Value → Hp → Nat → Res) (u1 u7 u8 u9 : Value) (H : Hp) (n : Nat) : Res := B71_1 cal k m1 b1 u1 u7 u8 u9 H n
noncomputable def S71_1 (cal : Cal) (k : Nat) : Nat → Value → Value → Value → Value → Hp → Nat → Res := fun m => Nat.rec (motive := fun _ => Value → Value → Value → Value → Hp → Nat → Res) (C71_1 cal k 0 (fun _ _ _ _ _ _ => none)) (fun m ih => C71_1 cal k (m + 1) ih) m
theorem h71_1 (cal : Cal) (k m1 : Nat) (u1 u7 u8 u9 : Value) (H : Hp) (n : Nat) : labK (E71_1 cal k m1) (Tr.set (Tr.set (Tr.set (Tr.set Tr.nil 9 (some u9)) 8 (some u8)) 7 (some u7)) 1 (some u1)) H n [] = C71_1 cal k m1 (R71_1 cal k m1) u1 u7 u8 u9 H n := by
  have h : labK (E71_1 cal k m1) (Tr.set (Tr.set (Tr.set (Tr.set Tr.nil 9 (some u9)) 8 (some u8)) 7 (some u7)) 1 (some u1)) H n [] = B71_1 cal k m1 (R71_1 cal k m1) u1 u7 u8 u9 H n := by kernel_rfl
  rw [h, C71_1]
theorem q71_1 (cal : Cal) (k : Nat) : ∀ (m : Nat) (u1 u7 u8 u9 : Value) (H : Hp) (n : Nat), labK (E71_1 cal k m) (Tr.set (Tr.set (Tr.set (Tr.set Tr.nil 9 (some u9)) 8 (some u8)) 7 (some u7)) 1 (some u1)) H n [] = S71_1 cal k m u1 u7 u8 u9 H n
  | 0, u1, u7, u8, u9, H, n => by
    rw [h71_1]
    have e : R71_1 cal k 0 = fun _ _ _ _ _ _ => none := by funext u1 u7 u8 u9 H n; kernel_rfl
    rw [e]; rfl
  | m + 1, u1, u7, u8, u9, H, n => by
    rw [h71_1]
    have e : R71_1 cal k (m + 1) = S71_1 cal k m := by
      funext u1 u7 u8 u9 H n
      have e : R71_1 cal k (m + 1) u1 u7 u8 u9 H n = labK (E71_1 cal k m) (Tr.set (Tr.set (Tr.set (Tr.set Tr.nil 9 (some u9)) 8 (some u8)) 7 (some u7)) 1 (some u1)) H n [] := by kernel_rfl
      rw [e]; exact q71_1 ..
    rw [e]; rfl
noncomputable def B71_0 (cal : Cal) (k : Nat) (j1 : Value → Value → Value → Value → Hp → Nat → Res) (v0 v1 : Value) (H : Hp) (n : Nat) : Res :=
bindO (lenV P 26 v0) fun v8_3 =>
j1 v1 v0 v8_3 (Go.Value.int Go.IntKind.i64 0) H n
noncomputable def C71_0 (cal : Cal) (k : Nat) (v0 v1 : Value) (H : Hp) (n : Nat) : Res := B71_0 cal k (S71_1 cal k k) v0 v1 H n
theorem h71_0 (cal : Cal) (k : Nat) (v0 v1 : Value) (H : Hp) (n : Nat) : bodyE P cal A (k + 1) 71 [v0, v1] H n = C71_0 cal k v0 v1 H n := by
  have h : bodyE P cal A (k + 1) 71 [v0, v1] H n = B71_0 cal k (fun u1 u7 u8 u9 H n => labK (E71_1 cal k k) (Tr.set (Tr.set (Tr.set (Tr.set Tr.nil 9 (some u9)) 8 (some u8)) 7 (some u7)) 1 (some u1)) H n []) v0 v1 H n := by
    rw [body_eq (fn := Go.Proofs.Try.f71) (c := code71) (rs := results71) (by kernel_rfl) (by kernel_rfl) (by kernel_rfl) (by kernel_rfl)]
    kernel_rfl
  rw [h, C71_0]
  have e1 : (fun u1 u7 u8 u9 H n => labK (E71_1 cal k k) (Tr.set (Tr.set (Tr.set (Tr.set Tr.nil 9 (some u9)) 8 (some u8)) 7 (some u7)) 1 (some u1)) H n []) = (S71_1 cal k k) := by funext u1 u7 u8 u9 H n; exact q71_1 ..
  rw [e1]
noncomputable def code72 : Code := codeOf 72
noncomputable def results72 : List ResultVar := resOf 72
noncomputable def K72_p (cal : Cal) (k : Nat) : KC (Value × Hp × Nat) := (cutK (A 72).c (codeE P cal (codeF P cal k) none 72 (cR code72) (Lv.b (A 72)) (doneK P results72) X0 (doneK P results72)))
noncomputable def K72_pr (cal : Cal) (k : Nat) : KC (Value × Hp × Nat) := (cutK (Lv.b (A 72)).c (codeE P cal (codeF P cal k) none 72 (cR (cR code72)) (Lv.b (Lv.b (A 72))) (doneK P results72) X0 (doneK P results72)))
noncomputable def B72_0 (cal : Cal) (k : Nat) (v0 : Value) (H : Hp) (n : Nat) : Res :=
boxK 63 v0 H n fun v1_1 H_2 n_3 =>
bindO (fieldAddrV P 63 v1_1 0) fun v3_5 =>
bindO (addrV v3_5) fun a_7 => bindO (loadV P H_2 3 a_7) fun v4_6 =>
binK P Go.BinOp.geq 3 (Go.Operand.tmp 4) (Go.Operand.const (Go.Value.int Go.IntKind.i64 0)) v4_6 (Go.Value.int Go.IntKind.i64 0) fun v5_8 =>
guardK v5_8 true (fun k_10 =>
bindO (fieldAddrV P 63 v1_1 0) fun v7_14 =>
k_10 v7_14 H_2 n_3) H_2 n_3 fun v_11 H_12 n_13 =>
guardK v5_8 true (fun k_15 =>
bindO (addrV v_11) fun a_20 => bindO (loadV P H_12 3 a_20) fun v8_19 =>
k_15 v8_19 H_12 n_13) H_12 n_13 fun v_16 H_17 n_18 =>
guardK v5_8 true (fun k_21 =>
bindO (fieldAddrV P 63 v1_1 1) fun v9_25 =>
k_21 v9_25 H_17 n_18) H_17 n_18 fun v_22 H_23 n_24 =>
guardK v5_8 true (fun k_26 =>
bindO (addrV v_22) fun a_31 => bindO (loadV P H_23 3 a_31) fun v10_30 =>
k_26 v10_30 H_23 n_24) H_23 n_24 fun v_27 H_28 n_29 =>
guardK v5_8 true (fun k_32 =>
binK P Go.BinOp.leq 3 (Go.Operand.tmp 8) (Go.Operand.tmp 10) v_16 v_27 fun v11_36 =>
k_32 v11_36 H_28 n_29) H_28 n_29 fun v_33 H_34 n_35 =>
bindO (pickV v5_8 v_33 (Go.Value.bool false)) fun v12_37 =>
guardK v12_37 true (fun k_39 =>
bindO (fieldAddrV P 63 v1_1 1) fun v14_43 =>
k_39 v14_43 H_34 n_35) H_34 n_35 fun v_40 H_41 n_42 =>
guardK v12_37 true (fun k_44 =>
bindO (addrV v_40) fun a_49 => bindO (loadV P H_41 3 a_49) fun v15_48 =>
k_44 v15_48 H_41 n_42) H_41 n_42 fun v_45 H_46 n_47 =>
guardK v12_37 true (fun k_50 =>
binK P Go.BinOp.leq 3 (Go.Operand.tmp 15) (Go.Operand.const (Go.Value.int Go.IntKind.i64 1000)) v_45 (Go.Value.int Go.IntKind.i64 1000) fun v16_54 =>
k_50 v16_54 H_46 n_47) H_46 n_47 fun v_51 H_52 n_53 =>
bindO (pickV v12_37 v_51 (Go.Value.bool false)) fun v17_55 =>
some (v17_55, H_52, n_53)
noncomputable def C72_0 (cal : Cal) (k : Nat) (v0 : Value) (H : Hp) (n : Nat) : Res := B72_0 cal k v0 H n
theorem h72_0 (cal : Cal) (k : Nat) (v0 : Value) (H : Hp) (n : Nat) : bodyE P cal A (k + 1) 72 [v0] H n = C72_0 cal k v0 H n := by
  have h : bodyE P cal A (k + 1) 72 [v0] H n = B72_0 cal k v0 H n := by
    rw [body_eq (fn := Go.Proofs.Try.f72) (c := code72) (rs := results72) (by kernel_rfl) (by kernel_rfl) (by kernel_rfl) (by kernel_rfl)]
    kernel_rfl
  rw [h, C72_0]
noncomputable def code73 : Code := codeOf 73
noncomputable def results73 : List ResultVar := resOf 73
noncomputable def K73_p (cal : Cal) (k : Nat) : KC (Value × Hp × Nat) := (cutK (A 73).c (codeE P cal (codeF P cal k) none 73 (cR code73) (Lv.b (A 73)) (doneK P results73) X0 (doneK P results73)))
noncomputable def K73_pr (cal : Cal) (k : Nat) : KC (Value × Hp × Nat) := (cutK (Lv.b (A 73)).c (codeE P cal (codeF P cal k) none 73 (cR (cR code73)) (Lv.b (Lv.b (A 73))) (doneK P results73) X0 (doneK P results73)))
noncomputable def K73_prl (cal : Cal) (k : Nat) : KC (Value × Hp × Nat) := (cutK (Lv.a (Lv.b (A 73))).c (codeE P cal (codeF P cal k) none 73 (cR (cL (cR code73))) (Lv.b (Lv.a (Lv.b (A 73)))) (K73_pr cal k) X0 (doneK P results73)))
noncomputable def K73_pxrlr (cal : Cal) (k : Nat) : XC (Value × Hp × Nat) := (upX 0 (K73_pr cal k) X0)
noncomputable def K73_prlrl (cal : Cal) (k : Nat) (m1 : Nat) : KC (Value × Hp × Nat) := (fun T H n D => codeF P cal m1 (Lv.a (Lv.b (Lv.a (Lv.b (A 73))))) none 73 (cL (cR (cL (cR code73)))) (K73_pr cal k) (K73_pxrlr cal k) (doneK P results73) (cutT (Lv.a (Lv.b (Lv.a (Lv.b (A 73))))).c T) H n D)
noncomputable def K73_prlrll (cal : Cal) (k : Nat) (m1 : Nat) : KC (Value × Hp × Nat) := (cutK (Lv.a (Lv.a (Lv.b (Lv.a (Lv.b (A 73)))))).c (codeE P cal (codeF P cal m1) none 73 (cR (cL (cL (cR (cL (cR code73)))))) (Lv.b (Lv.a (Lv.a (Lv.b (Lv.a (Lv.b (A 73))))))) (K73_prlrl cal k m1) (K73_pxrlr cal k) (doneK P results73)))
noncomputable def K73_prlrllr (cal : Cal) (k : Nat) (m1 : Nat) : KC (Value × Hp × Nat) := (cutK (Lv.b (Lv.a (Lv.a (Lv.b (Lv.a (Lv.b (A 73))))))).c (codeE P cal (codeF P cal m1) none 73 (cR (cR (cL (cL (cR (cL (cR code73))))))) (Lv.b (Lv.b (Lv.a (Lv.a (Lv.b (Lv.a (Lv.b (A 73)))))))) (K73_prlrl cal k m1) (K73_pxrlr cal k) (doneK P results73)))
noncomputable def K73_prlrllrr (cal : Cal) (k : Nat) (m1 : Nat) : KC (Value × Hp × Nat) := (cutK (Lv.b (Lv.b (Lv.a (Lv.a (Lv.b (Lv.a (Lv.b (A 73)))))))).c (codeE P cal (codeF P cal m1) none 73 (cR (cR (cR (cL (cL (cR (cL (cR code73)))))))) (Lv.b (Lv.b (Lv.b (Lv.a (Lv.a (Lv.b (Lv.a (Lv.b (A 73))))))))) (K73_prlrl cal k m1) (K73_pxrlr cal k) (doneK P results73)))
noncomputable def K73_pxrlrllrrl (cal : Cal) (k : Nat) (m1 : Nat) : XC (Value × Hp × Nat) := (upX 1 (K73_prlrllrr cal k m1) (K73_pxrlr cal k))
noncomputable def K73_prlrllrrll (cal : Cal) (k : Nat) (m1 : Nat) : KC (Value × Hp × Nat) := (cutK (Lv.a (Lv.a (Lv.b (Lv.b (Lv.a (Lv.a (Lv.b (Lv.a (Lv.b (A 73)))))))))).c (codeE P cal (codeF P cal m1) none 73 (cR (cL (cL (cR (cR (cL (cL (cR (cL (cR code73)))))))))) (Lv.b (Lv.a (Lv.a (Lv.b (Lv.b (Lv.a (Lv.a (Lv.b (Lv.a (Lv.b (A 73))))))))))) (K73_prlrllrr cal k m1) (K73_pxrlrllrrl cal k m1) (doneK P results73)))
noncomputable def K73_prlrllrrllr (cal : Cal) (k : Nat) (m1 : Nat) : KC (Value × Hp × Nat) := (cutK (Lv.b (Lv.a (Lv.a (Lv.b (Lv.b (Lv.a (Lv.a (Lv.b (Lv.a (Lv.b (A 73))))))))))).c (codeE P cal (codeF P cal m1) none 73 (cR (cR (cL (cL (cR (cR (cL (cL (cR (cL (cR code73))))))))))) (Lv.b (Lv.b (Lv.a (Lv.a (Lv.b (Lv.b (Lv.a (Lv.a (Lv.b (Lv.a (Lv.b (A 73)))))))))))) (K73_prlrllrr cal k m1) (K73_pxrlrllrrl cal k m1) (doneK P results73)))
noncomputable def K73_prlrllrrllrrl (cal : Cal) (k : Nat) (m1 : Nat) : KC (Value × Hp × Nat) := (cutK (Lv.a (Lv.b (Lv.b (Lv.a (Lv.a (Lv.b (Lv.b (Lv.a (Lv.a (Lv.b (Lv.a (Lv.b (A 73))))))))))))).c (codeE P cal (codeF P cal m1) none 73 (cR (cL (cR (cR (cL (cL (cR (cR (cL (cL (cR (cL (cR code73))))))))))))) (Lv.b (Lv.a (Lv.b (Lv.b (Lv.a (Lv.a (Lv.b (Lv.b (Lv.a (Lv.a (Lv.b (Lv.a (Lv.b (A 73)))))))))))))) (K73_prlrllrr cal k m1) (K73_pxrlrllrrl cal k m1) (doneK P results73)))
noncomputable def K73_prr (cal : Cal) (k : Nat) : KC (Value × Hp × Nat) := (cutK (Lv.b (Lv.b (A 73))).c (codeE P cal (codeF P cal k) none 73 (cR (cR (cR code73))) (Lv.b (Lv.b (Lv.b (A 73)))) (doneK P results73) X0 (doneK P results73)))
noncomputable def E73_1 (cal : Cal) (k m1 : Nat) : KC (Value × Hp × Nat) := codeE P cal (codeF P cal m1) none 73 (cL (cL (cR (cL (cR code73))))) (Lv.a (Lv.a (Lv.b (Lv.a (Lv.b (A 73)))))) (K73_prlrl cal k m1) (K73_pxrlr cal k) (doneK P results73)
noncomputable def R73_1 (cal : Cal) (k m1 : Nat) : Value → Value → Value → Value → Hp → Nat → Res := fun u1 u7 u8 u9 H n => codeF P cal m1 (Lv.a (Lv.b (Lv.a (Lv.b (A 73))))) none 73 (cL (cR (cL (cR code73)))) (K73_pr cal k) (K73_pxrlr cal k) (doneK P results73) (Tr.set (Tr.set (Tr.set (Tr.set Tr.nil 9 (some u9)) 8 (some u8)) 7 (some u7)) 1 (some u1)) H n []
noncomputable def B73_1 (cal : Cal) (k m1 : Nat) (b1 : Value → Value → Value → Value → Hp → Nat → Res) (u1 u7 u8 u9 : Value) (H : Hp) (n : Nat) : Res :=
binK P Go.BinOp.lss 3 (Go.Operand.tmp 9) (Go.Operand.tmp 8) u9 u8 fun v10_5 =>
ifK v10_5 (
bindO (indexAddrV P 27 u7 u9) fun v11_6 =>
bindO (addrV v11_6) fun a_8 => bindO (loadV P H 65 a_8) fun v12_7 =>
allocK P 65 H n fun v6_9 H_10 n_11 =>
bindO (storeP P 65 v6_9 v12_7 H_10) fun H_13 =>
bindO (addrV v6_9) fun a_16 => bindO (loadV P H_13 65 a_16) fun v14_15 =>
callVK P cal u1 [v14_15] H_13 n_11 fun v15_17 H_18 n_19 =>
bindO (pureSem P v15_17 (Op.unary Go.UnOp.not v15_17)) fun v16_20 =>
ifK v16_20 (
some ((Go.Value.bool false), H_18, n_19)) (
binK P Go.BinOp.add 3 (Go.Operand.tmp 9) (Go.Operand.const (Go.Value.int Go.IntKind.i64 1)) u9 (Go.Value.int Go.IntKind.i64 1) fun v17_22 =>
b1 u1 u7 u8 v17_22 H_18 n_19)) (
some ((Go.Value.bool true), H, n))
noncomputable def C73_1 (cal : Cal) (k m1 : Nat) (b1 : Value → Value → Value → Value → Hp → Nat → Res) (u1 u7 u8 u9 : Value) (H : Hp) (n : Nat) : Res := B73_1 cal k m1 b1 u1 u7 u8 u9 H n
noncomputable def S73_1 (cal : Cal) (k : Nat) : Nat → Value → Value → Value → Value → Hp → Nat → Res := fun m => Nat.rec (motive := fun _ => Value → Value → Value → Value → Hp → Nat → Res) (C73_1 cal k 0 (fun _ _ _ _ _ _ => none)) (fun m ih => C73_1 cal k (m + 1) ih) m
theorem h73_1 (cal : Cal) (k m1 : Nat) (u1 u7 u8 u9 : Value) (H : Hp) (n : Nat) : labK (E73_1 cal k m1) (Tr.set (Tr.set (Tr.set (Tr.set Tr.nil 9 (some u9)) 8 (some u8)) 7 (some u7)) 1 (some u1)) H n [] = C73_1 cal k m1 (R73_1 cal k m1) u1 u7 u8 u9 H n := by
  have h : labK (E73_1 cal k m1) (Tr.set (Tr.set (Tr.set (Tr.set Tr.nil 9 (some u9)) 8 (some u8)) 7 (some u7)) 1 (some u1)) H n [] = B73_1 cal k m1 (R73_1 cal k m1) u1 u7 u8 u9 H n := by kernel_rfl
  rw [h, C73_1]
theorem q73_1 (cal : Cal) (k : Nat) : ∀ (m : Nat) (u1 u7 u8 u9 : Value) (H : Hp) (n : Nat), labK (E73_1 cal k m) (Tr.set (Tr.set (Tr.set (Tr.set Tr.nil 9 (some u9)) 8 (some u8)) 7 (some u7)) 1 (some u1)) H n [] = S73_1 cal k m u1 u7 u8 u9 H n
  | 0, u1, u7, u8, u9, H, n => by
    rw [h73_1]
    have e : R73_1 cal k 0 = fun _ _ _ _ _ _ => none := by funext u1 u7 u8 u9 H n; kernel_rfl
    rw [e]; rfl
  | m + 1, u1, u7, u8, u9, H, n => by
    rw [h73_1]
    have e : R73_1 cal k (m + 1) = S73_1 cal k m := by
      funext u1 u7 u8 u9 H n
      have e : R73_1 cal k (m + 1) u1 u7 u8 u9 H n = labK (E73_1 cal k m) (Tr.set (Tr.set (Tr.set (Tr.set Tr.nil 9 (some u9)) 8 (some u8)) 7 (some u7)) 1 (some u1)) H n [] := by kernel_rfl
      rw [e]; exact q73_1 ..
    rw [e]; rfl
noncomputable def B73_0 (cal : Cal) (k : Nat) (j1 : Value → Value → Value → Value → Hp → Nat → Res) (v0 v1 : Value) (H : Hp) (n : Nat) : Res :=
bindO (lenV P 27 v0) fun v8_3 =>
j1 v1 v0 v8_3 (Go.Value.int Go.IntKind.i64 0) H n
noncomputable def C73_0 (cal : Cal) (k : Nat) (v0 v1 : Value) (H : Hp) (n : Nat) : Res := B73_0 cal k (S73_1 cal k k) v0 v1 H n
theorem h73_0 (cal : Cal) (k : Nat) (v0 v1 : Value) (H : Hp) (n : Nat) : bodyE P cal A (k + 1) 73 [v0, v1] H n = C73_0 cal k v0 v1 H n := by
  have h : bodyE P cal A (k + 1) 73 [v0, v1] H n = B73_0 cal k (fun u1 u7 u8 u9 H n => labK (E73_1 cal k k) (Tr.set (Tr.set (Tr.set (Tr.set Tr.nil 9 (some u9)) 8 (some u8)) 7 (some u7)) 1 (some u1)) H n []) v0 v1 H n := by
    rw [body_eq (fn := Go.Proofs.Try.f73) (c := code73) (rs := results73) (by kernel_rfl) (by kernel_rfl) (by kernel_rfl) (by kernel_rfl)]
    kernel_rfl
  rw [h, C73_0]
  have e1 : (fun u1 u7 u8 u9 H n => labK (E73_1 cal k k) (Tr.set (Tr.set (Tr.set (Tr.set Tr.nil 9 (some u9)) 8 (some u8)) 7 (some u7)) 1 (some u1)) H n []) = (S73_1 cal k k) := by funext u1 u7 u8 u9 H n; exact q73_1 ..
  rw [e1]
noncomputable def code74 : Code := codeOf 74
noncomputable def results74 : List ResultVar := resOf 74
noncomputable def K74_p (cal : Cal) (k : Nat) : KC (Value × Hp × Nat) := (cutK (A 74).c (codeE P cal (codeF P cal k) none 74 (cR code74) (Lv.b (A 74)) (doneK P results74) X0 (doneK P results74)))
noncomputable def K74_pr (cal : Cal) (k : Nat) : KC (Value × Hp × Nat) := (cutK (Lv.b (A 74)).c (codeE P cal (codeF P cal k) none 74 (cR (cR code74)) (Lv.b (Lv.b (A 74))) (doneK P results74) X0 (doneK P results74)))
noncomputable def K74_prr (cal : Cal) (k : Nat) : KC (Value × Hp × Nat) := (cutK (Lv.b (Lv.b (A 74))).c (codeE P cal (codeF P cal k) none 74 (cR (cR (cR code74))) (Lv.b (Lv.b (Lv.b (A 74)))) (doneK P results74) X0 (doneK P results74)))
noncomputable def K74_prrl (cal : Cal) (k : Nat) : KC (Value × Hp × Nat) := (cutK (Lv.a (Lv.b (Lv.b (A 74)))).c (codeE P cal (codeF P cal k) none 74 (cR (cL (cR (cR code74)))) (Lv.b (Lv.a (Lv.b (Lv.b (A 74))))) (K74_prr cal k) X0 (doneK P results74)))
noncomputable def K74_pxrrlr (cal : Cal) (k : Nat) : XC (Value × Hp × Nat) := (upX 0 (K74_prr cal k) X0)
noncomputable def K74_prrlrl (cal : Cal) (k : Nat) (m1 : Nat) : KC (Value × Hp × Nat) := (fun T H n D => codeF P cal m1 (Lv.a (Lv.b (Lv.a (Lv.b (Lv.b (A 74)))))) none 74 (cL (cR (cL (cR (cR code74))))) (K74_prr cal k) (K74_pxrrlr cal k) (doneK P results74) (cutT (Lv.a (Lv.b (Lv.a (Lv.b (Lv.b (A 74)))))).c T) H n D)
noncomputable def K74_prrlrll (cal : Cal) (k : Nat) (m1 : Nat) : KC (Value × Hp × Nat) := (cutK (Lv.a (Lv.a (Lv.b (Lv.a (Lv.b (Lv.b (A 74))))))).c (codeE P cal (codeF P cal m1) none 74 (cR (cL (cL (cR (cL (cR (cR code74))))))) (Lv.b (Lv.a (Lv.a (Lv.b (Lv.a (Lv.b (Lv.b (A 74)))))))) (K74_prrlrl cal k m1) (K74_pxrrlr cal k) (doneK P results74)))
noncomputable def K74_prrlrllr (cal : Cal) (k : Nat) (m1 : Nat) : KC (Value × Hp × Nat) := (cutK (Lv.b (Lv.a (Lv.a (Lv.b (Lv.a (Lv.b (Lv.b (A 74)))))))).c (codeE P cal (codeF P cal m1) none 74 (cR (cR (cL (cL (cR (cL (cR (cR code74)))))))) (Lv.b (Lv.b (Lv.a (Lv.a (Lv.b (Lv.a (Lv.b (Lv.b (A 74))))))))) (K74_prrlrl cal k m1) (K74_pxrrlr cal k) (doneK P results74)))
noncomputable def K74_prrlrllrr (cal : Cal) (k : Nat) (m1 : Nat) : KC (Value × Hp × Nat) := (cutK (Lv.b (Lv.b (Lv.a (Lv.a (Lv.b (Lv.a (Lv.b (Lv.b (A 74))))))))).c (codeE P cal (codeF P cal m1) none 74 (cR (cR (cR (cL (cL (cR (cL (cR (cR code74))))))))) (Lv.b (Lv.b (Lv.b (Lv.a (Lv.a (Lv.b (Lv.a (Lv.b (Lv.b (A 74)))))))))) (K74_prrlrl cal k m1) (K74_pxrrlr cal k) (doneK P results74)))
noncomputable def K74_pxrrlrllrrl (cal : Cal) (k : Nat) (m1 : Nat) : XC (Value × Hp × Nat) := (upX 1 (K74_prrlrllrr cal k m1) (K74_pxrrlr cal k))
noncomputable def K74_prrlrllrrll (cal : Cal) (k : Nat) (m1 : Nat) : KC (Value × Hp × Nat) := (cutK (Lv.a (Lv.a (Lv.b (Lv.b (Lv.a (Lv.a (Lv.b (Lv.a (Lv.b (Lv.b (A 74))))))))))).c (codeE P cal (codeF P cal m1) none 74 (cR (cL (cL (cR (cR (cL (cL (cR (cL (cR (cR code74))))))))))) (Lv.b (Lv.a (Lv.a (Lv.b (Lv.b (Lv.a (Lv.a (Lv.b (Lv.a (Lv.b (Lv.b (A 74)))))))))))) (K74_prrlrllrr cal k m1) (K74_pxrrlrllrrl cal k m1) (doneK P results74)))
noncomputable def K74_prrlrllrrllr (cal : Cal) (k : Nat) (m1 : Nat) : KC (Value × Hp × Nat) := (cutK (Lv.b (Lv.a (Lv.a (Lv.b (Lv.b (Lv.a (Lv.a (Lv.b (Lv.a (Lv.b (Lv.b (A 74)))))))))))).c (codeE P cal (codeF P cal m1) none 74 (cR (cR (cL (cL (cR (cR (cL (cL (cR (cL (cR (cR code74)))))))))))) (Lv.b (Lv.b (Lv.a (Lv.a (Lv.b (Lv.b (Lv.a (Lv.a (Lv.b (Lv.a (Lv.b (Lv.b (A 74))))))))))))) (K74_prrlrllrr cal k m1) (K74_pxrrlrllrrl cal k m1) (doneK P results74)))
noncomputable def K74_prrr (cal : Cal) (k : Nat) : KC (Value × Hp × Nat) := (cutK (Lv.b (Lv.b (Lv.b (A 74)))).c (codeE P cal (codeF P cal k) none 74 (cR (cR (cR (cR code74)))) (Lv.b (Lv.b (Lv.b (Lv.b (A 74))))) (doneK P results74) X0 (doneK P results74)))
noncomputable def E74_2 (cal : Cal) (k m1 : Nat) : KC (Value × Hp × Nat) := codeE P cal (codeF P cal m1) none 74 (cR (cR (cR (cL (cL (cR (cL (cR (cR code74))))))))) (Lv.b (Lv.b (Lv.b (Lv.a (Lv.a (Lv.b (Lv.a (Lv.b (Lv.b (A 74)))))))))) (K74_prrlrl cal k m1) (K74_pxrrlr cal k) (doneK P results74)
noncomputable def E74_1 (cal : Cal) (k m1 : Nat) : KC (Value × Hp × Nat) := codeE P cal (codeF P cal m1) none 74 (cL (cL (cR (cL (cR (cR code74)))))) (Lv.a (Lv.a (Lv.b (Lv.a (Lv.b (Lv.b (A 74))))))) (K74_prrlrl cal k m1) (K74_pxrrlr cal k) (doneK P results74)
noncomputable def R74_1 (cal : Cal) (k m1 : Nat) : Value → Value → Value → Value → Value → Value → Hp → Nat → Res := fun u2 u3 u5 u9 u10 u11 H n => codeF P cal m1 (Lv.a (Lv.b (Lv.a (Lv.b (Lv.b (A 74)))))) none 74 (cL (cR (cL (cR (cR code74))))) (K74_prr cal k) (K74_pxrrlr cal k) (doneK P results74) (Tr.set (Tr.set (Tr.set (Tr.set (Tr.set (Tr.set Tr.nil 11 (some u11)) 10 (some u10)) 9 (some u9)) 5 (some u5)) 3 (some u3)) 2 (some u2)) H n []
noncomputable def B74_2 (cal : Cal) (k m1 : Nat) (b1 : Value → Value → Value → Value → Value → Value → Hp → Nat → Res) (u2 u3 u5 u9 u10 u11 : Value) (H : Hp) (n : Nat) : Res :=
binK P Go.BinOp.add 3 (Go.Operand.tmp 11) (Go.Operand.const (Go.Value.int Go.IntKind.i64 1)) u11 (Go.Value.int Go.IntKind.i64 1) fun v29_15 =>
b1 u2 u3 u5 u9 u10 v29_15 H n
noncomputable def C74_2 (cal : Cal) (k m1 : Nat) (b1 : Value → Value → Value → Value → Value → Value → Hp → Nat → Res) (u2 u3 u5 u9 u10 u11 : Value) (H : Hp) (n : Nat) : Res := B74_2 cal k m1 b1 u2 u3 u5 u9 u10 u11 H n
theorem h74_2 (cal : Cal) (k m1 : Nat) (u2 u3 u5 u9 u10 u11 : Value) (H : Hp) (n : Nat) : labK (E74_2 cal k m1) (Tr.set (Tr.set (Tr.set (Tr.set (Tr.set (Tr.set Tr.nil 11 (some u11)) 10 (some u10)) 9 (some u9)) 5 (some u5)) 3 (some u3)) 2 (some u2)) H n [] = C74_2 cal k m1 (R74_1 cal k m1) u2 u3 u5 u9 u10 u11 H n := by
  have h : labK (E74_2 cal k m1) (Tr.set (Tr.set (Tr.set (Tr.set (Tr.set (Tr.set Tr.nil 11 (some u11)) 10 (some u10)) 9 (some u9)) 5 (some u5)) 3 (some u3)) 2 (some u2)) H n [] = B74_2 cal k m1 (R74_1 cal k m1) u2 u3 u5 u9 u10 u11 H n := by kernel_rfl
  rw [h, C74_2]
theorem q74_2 (cal : Cal) (k m1 : Nat) (u2 u3 u5 u9 u10 u11 : Value) (H : Hp) (n : Nat) : labK (E74_2 cal k m1) (Tr.set (Tr.set (Tr.set (Tr.set (Tr.set (Tr.set Tr.nil 11 (some u11)) 10 (some u10)) 9 (some u9)) 5 (some u5)) 3 (some u3)) 2 (some u2)) H n [] = C74_2 cal k m1 (R74_1 cal k m1) u2 u3 u5 u9 u10 u11 H n := h74_2 ..
noncomputable def B74_1 (cal : Cal) (k m1 : Nat) (j2 : Value → Value → Value → Value → Value → Value → Hp → Nat → Res) (b1 : Value → Value → Value → Value → Value → Value → Hp → Nat → Res) (u2 u3 u5 u9 u10 u11 : Value) (H : Hp) (n : Nat) : Res :=
binK P Go.BinOp.lss 3 (Go.Operand.tmp 11) (Go.Operand.tmp 10) u11 u10 fun v12_14 =>
ifK v12_14 (
bindO (indexAddrV P 27 u9 u11) fun v13_17 =>
bindO (addrV v13_17) fun a_19 => bindO (loadV P H 65 a_19) fun v14_18 =>
allocK P 65 H n fun v7_20 H_21 n_22 =>
bindO (storeP P 65 v7_20 v14_18 H_21) fun H_24 =>
bindO (addrV v7_20) fun a_26 => bindO (loadV P H_24 65 a_26) fun v15_25 =>
bindO (addrV u3) fun a_28 => bindO (loadV P H_24 65 a_28) fun v16_27 =>
binK P Go.BinOp.eql 65 (Go.Operand.tmp 15) (Go.Operand.tmp 16) v15_25 v16_27 fun v17_29 =>
guardK v17_29 false (fun k_31 =>
bindO (addrV v7_20) fun a_36 => bindO (loadV P H_24 65 a_36) fun v19_35 =>
k_31 v19_35 H_24 n_22) H_24 n_22 fun v_32 H_33 n_34 =>
guardK v17_29 false (fun k_37 =>
bindO (fieldAddrV P 65 u3 1) fun v20_41 =>
k_37 v20_41 H_33 n_34) H_33 n_34 fun v_38 H_39 n_40 =>
guardK v17_29 false (fun k_42 =>
bindO (addrV v_38) fun a_47 => bindO (loadV P H_39 3 a_47) fun v21_46 =>
k_42 v21_46 H_39 n_40) H_39 n_40 fun v_43 H_44 n_45 =>
guardK v17_29 false (fun k_48 =>
bindO (fieldAddrV P 65 u3 0) fun v22_52 =>
k_48 v22_52 H_44 n_45) H_44 n_45 fun v_49 H_50 n_51 =>
guardK v17_29 false (fun k_53 =>
bindO (addrV v_49) fun a_58 => bindO (loadV P H_50 3 a_58) fun v23_57 =>
k_53 v23_57 H_50 n_51) H_50 n_51 fun v_54 H_55 n_56 =>
guardK v17_29 false (fun k_59 =>
bindO (buildP P 65 [(0, v_43), (1, v_54)]) fun v24_63 =>
k_59 v24_63 H_55 n_56) H_55 n_56 fun v_60 H_61 n_62 =>
guardK v17_29 false (fun k_64 =>
binK P Go.BinOp.eql 65 (Go.Operand.tmp 19) (Go.Operand.tmp 24) v_32 v_60 fun v25_68 =>
k_64 v25_68 H_61 n_62) H_61 n_62 fun v_65 H_66 n_67 =>
bindO (pickV v17_29 (Go.Value.bool true) v_65) fun v26_69 =>
ifK v26_69 (
binK P Go.BinOp.add 3 (Go.Operand.tmp 27) (Go.Operand.const (Go.Value.int Go.IntKind.i64 1)) u5 (Go.Value.int Go.IntKind.i64 1) fun v28_71 =>
j2 u2 u3 v28_71 u9 u10 u11 H_66 n_67) (
j2 u2 u3 u5 u9 u10 u11 H_66 n_67)) (
bindO (addrV u2) fun a_74 => bindO (loadV P H 30 a_74) fun v30_73 =>
bindO (fieldAddrV P 65 u3 0) fun v31_75 =>
bindO (addrV v31_75) fun a_77 => bindO (loadV P H 3 a_77) fun v32_76 =>
callFK P cal 88 [v30_73, v32_76] H n fun v33_78 H_79 n_80 =>
guardK v33_78 true (fun k_82 =>
bindO (addrV u2) fun a_87 => bindO (loadV P H_79 30 a_87) fun v35_86 =>
k_82 v35_86 H_79 n_80) H_79 n_80 fun v_83 H_84 n_85 =>
guardK v33_78 true (fun k_88 =>
bindO (fieldAddrV P 65 u3 1) fun v36_92 =>
k_88 v36_92 H_84 n_85) H_84 n_85 fun v_89 H_90 n_91 =>
guardK v33_78 true (fun k_93 =>
bindO (addrV v_89) fun a_98 => bindO (loadV P H_90 3 a_98) fun v37_97 =>
k_93 v37_97 H_90 n_91) H_90 n_91 fun v_94 H_95 n_96 =>
guardK v33_78 true (fun k_99 =>
callFK P cal 88 [v_83, v_94] H_95 n_96 fun v38_103 H_104 n_105 =>
k_99 v38_103 H_104 n_105) H_95 n_96 fun v_100 H_101 n_102 =>
bindO (pickV v33_78 v_100 (Go.Value.bool false)) fun v39_106 =>
guardK v39_106 true (fun k_108 =>
bindO (fieldAddrV P 65 u3 0) fun v41_112 =>
k_108 v41_112 H_101 n_102) H_101 n_102 fun v_109 H_110 n_111 =>
guardK v39_106 true (fun k_113 =>
bindO (addrV v_109) fun a_118 => bindO (loadV P H_110 3 a_118) fun v42_117 =>
k_113 v42_117 H_110 n_111) H_110 n_111 fun v_114 H_115 n_116 =>
guardK v39_106 true (fun k_119 =>
bindO (fieldAddrV P 65 u3 1) fun v43_123 =>
k_119 v43_123 H_115 n_116) H_115 n_116 fun v_120 H_121 n_122 =>
guardK v39_106 true (fun k_124 =>
bindO (addrV v_120) fun a_129 => bindO (loadV P H_121 3 a_129) fun v44_128 =>
k_124 v44_128 H_121 n_122) H_121 n_122 fun v_125 H_126 n_127 =>
guardK v39_106 true (fun k_130 =>
binK P Go.BinOp.neq 3 (Go.Operand.tmp 42) (Go.Operand.tmp 44) v_114 v_125 fun v45_134 =>
k_130 v45_134 H_126 n_127) H_126 n_127 fun v_131 H_132 n_133 =>
bindO (pickV v39_106 v_131 (Go.Value.bool false)) fun v46_135 =>
guardK v46_135 true (fun k_137 =>
k_137 u5 H_132 n_133) H_132 n_133 fun v_138 H_139 n_140 =>
guardK v46_135 true (fun k_142 =>
binK P Go.BinOp.eql 3 (Go.Operand.tmp 48) (Go.Operand.const (Go.Value.int Go.IntKind.i64 1)) v_138 (Go.Value.int Go.IntKind.i64 1) fun v49_146 =>
k_142 v49_146 H_139 n_140) H_139 n_140 fun v_143 H_144 n_145 =>
bindO (pickV v46_135 v_143 (Go.Value.bool false)) fun v50_147 =>
some (v50_147, H_144, n_145))
noncomputable def C74_1 (cal : Cal) (k m1 : Nat) (b1 : Value → Value → Value → Value → Value → Value → Hp → Nat → Res) (u2 u3 u5 u9 u10 u11 : Value) (H : Hp) (n : Nat) : Res := B74_1 cal k m1 (C74_2 cal k m1 b1) b1 u2 u3 u5 u9 u10 u11 H n
noncomputable def S74_1 (cal : Cal) (k : Nat) : Nat → Value → Value → Value → Value → Value → Value → Hp → Nat → Res := fun m => Nat.rec (motive := fun _ => Value → Value → Value → Value → Value → Value → Hp → Nat → Res) (C74_1 cal k 0 (fun _ _ _ _ _ _ _ _ => none)) (fun m ih => C74_1 cal k (m + 1) ih) m
theorem h74_1 (cal : Cal) (k m1 : Nat) (u2 u3 u5 u9 u10 u11 : Value) (H : Hp) (n : Nat) : labK (E74_1 cal k m1) (Tr.set (Tr.set (Tr.set (Tr.set (Tr.set (Tr.set Tr.nil 11 (some u11)) 10 (some u10)) 9 (some u9)) 5 (some u5)) 3 (some u3)) 2 (some u2)) H n [] = C74_1 cal k m1 (R74_1 cal k m1) u2 u3 u5 u9 u10 u11 H n := by
  have h : labK (E74_1 cal k m1) (Tr.set (Tr.set (Tr.set (Tr.set (Tr.set (Tr.set Tr.nil 11 (some u11)) 10 (some u10)) 9 (some u9)) 5 (some u5)) 3 (some u3)) 2 (some u2)) H n [] = B74_1 cal k m1 (fun u2 u3 u5 u9 u10 u11 H n => labK (E74_2 cal k m1) (Tr.set (Tr.set (Tr.set (Tr.set (Tr.set (Tr.set Tr.nil 11 (some u11)) 10 (some u10)) 9 (some u9)) 5 (some u5)) 3 (some u3)) 2 (some u2)) H n []) (R74_1 cal k m1) u2 u3 u5 u9 u10 u11 H n := by kernel_rfl
  rw [h, C74_1]
  have e2 : (fun u2 u3 u5 u9 u10 u11 H n => labK (E74_2 cal k m1) (Tr.set (Tr.set (Tr.set (Tr.set (Tr.set (Tr.set Tr.nil 11 (some u11)) 10 (some u10)) 9 (some u9)) 5 (some u5)) 3 (some u3)) 2 (some u2)) H n []) = (C74_2 cal k m1 (R74_1 cal k m1)) := by funext u2 u3 u5 u9 u10 u11 H n; exact q74_2 ..
  rw [e2]
theorem q74_1 (cal : Cal) (k : Nat) : ∀ (m : Nat) (u2 u3 u5 u9 u10 u11 : Value) (H : Hp) (n : Nat), labK (E74_1 cal k m) (Tr.set (Tr.set (Tr.set (Tr.set (Tr.set (Tr.set Tr.nil 11 (some u11)) 10 (some u10)) 9 (some u9)) 5 (some u5)) 3 (some u3)) 2 (some u2)) H n [] = S74_1 cal k m u2 u3 u5 u9 u10 u11 H n
  | 0, u2, u3, u5, u9, u10, u11, H, n => by
    rw [h74_1]
    have e : R74_1 cal k 0 = fun _ _ _ _ _ _ _ _ => none := by funext u2 u3 u5 u9 u10 u11 H n; kernel_rfl
    rw [e]; rfl
  | m + 1, u2, u3, u5, u9, u10, u11, H, n => by
    rw [h74_1]
    have e : R74_1 cal k (m + 1) = S74_1 cal k m := by
      funext u2 u3 u5 u9 u10 u11 H n
      have e : R74_1 cal k (m + 1) u2 u3 u5 u9 u10 u11 H n = labK (E74_1 cal k m) (Tr.set (Tr.set (Tr.set (Tr.set (Tr.set (Tr.set Tr.nil 11 (some u11)) 10 (some u10)) 9 (some u9)) 5 (some u5)) 3 (some u3)) 2 (some u2)) H n [] := by kernel_rfl
      rw [e]; exact q74_1 ..
    rw [e]; rfl
noncomputable def B74_0 (cal : Cal) (k : Nat) (j1 : Value → Value → Value → Value → Value → Value → Hp → Nat → Res) (v0 v1 : Value) (H : Hp) (n : Nat) : Res :=
boxK 30 v0 H n fun v2_1 H_2 n_3 =>
boxK 65 v1 H_2 n_3 fun v3_4 H_5 n_6 =>
bindO (fieldAddrV P 30 v2_1 1) fun v8_9 =>
bindO (addrV v8_9) fun a_11 => bindO (loadV P H_5 27 a_11) fun v9_10 =>
bindO (lenV P 27 v9_10) fun v10_12 =>
j1 v2_1 v3_4 (Go.Value.int Go.IntKind.i64 0) v9_10 v10_12 (Go.Value.int Go.IntKind.i64 0) H_5 n_6
noncomputable def C74_0 (cal : Cal) (k : Nat) (v0 v1 : Value) (H : Hp) (n : Nat) : Res := B74_0 cal k (S74_1 cal k k) v0 v1 H n
theorem h74_0 (cal : Cal) (k : Nat) (v0 v1 : Value) (H : Hp) (n : Nat) : bodyE P cal A (k + 1) 74 [v0, v1] H n = C74_0 cal k v0 v1 H n := by
  have h : bodyE P cal A (k + 1) 74 [v0, v1] H n = B74_0 cal k (fun u2 u3 u5 u9 u10 u11 H n => labK (E74_1 cal k k) (Tr.set (Tr.set (Tr.set (Tr.set (Tr.set (Tr.set Tr.nil 11 (some u11)) 10 (some u10)) 9 (some u9)) 5 (some u5)) 3 (some u3)) 2 (some u2)) H n []) v0 v1 H n := by
    rw [body_eq (fn := Go.Proofs.Try.f74) (c := code74) (rs := results74) (by kernel_rfl) (by kernel_rfl) (by kernel_rfl) (by kernel_rfl)]
    kernel_rfl
  rw [h, C74_0]
  have e1 : (fun u2 u3 u5 u9 u10 u11 H n => labK (E74_1 cal k k) (Tr.set (Tr.set (Tr.set (Tr.set (Tr.set (Tr.set Tr.nil 11 (some u11)) 10 (some u10)) 9 (some u9)) 5 (some u5)) 3 (some u3)) 2 (some u2)) H n []) = (S74_1 cal k k) := by funext u2 u3 u5 u9 u10 u11 H n; exact q74_1 ..
  rw [e1]
noncomputable def code75 : Code := codeOf 75
noncomputable def results75 : List ResultVar := resOf 75
noncomputable def K75_p (cal : Cal) (k : Nat) : KC (Value × Hp × Nat) := (cutK (A 75).c (codeE P cal (codeF P cal k) none 75 (cR code75) (Lv.b (A 75)) (doneK P results75) X0 (doneK P results75)))
noncomputable def K75_pr (cal : Cal) (k : Nat) : KC (Value × Hp × Nat) := (cutK (Lv.b (A 75)).c (codeE P cal (codeF P cal k) none 75 (cR (cR code75)) (Lv.b (Lv.b (A 75))) (doneK P results75) X0 (doneK P results75)))
noncomputable def K75_prl (cal : Cal) (k : Nat) : KC (Value × Hp × Nat) := (cutK (Lv.a (Lv.b (A 75))).c (codeE P cal (codeF P cal k) none 75 (cR (cL (cR code75))) (Lv.b (Lv.a (Lv.b (A 75)))) (K75_pr cal k) X0 (doneK P results75)))
noncomputable def K75_pxrlr (cal : Cal) (k : Nat) : XC (Value × Hp × Nat) := (upX 0 (K75_pr cal k) X0)
noncomputable def K75_prlrl (cal : Cal) (k : Nat) (m1 : Nat) : KC (Value × Hp × Nat) := (fun T H n D => codeF P cal m1 (Lv.a (Lv.b (Lv.a (Lv.b (A 75))))) none 75 (cL (cR (cL (cR code75)))) (K75_pr cal k) (K75_pxrlr cal k) (doneK P results75) (cutT (Lv.a (Lv.b (Lv.a (Lv.b (A 75))))).c T) H n D)
noncomputable def K75_prlrll (cal : Cal) (k : Nat) (m1 : Nat) : KC (Value × Hp × Nat) := (cutK (Lv.a (Lv.a (Lv.b (Lv.a (Lv.b (A 75)))))).c (codeE P cal (codeF P cal m1) none 75 (cR (cL (cL (cR (cL (cR code75)))))) (Lv.b (Lv.a (Lv.a (Lv.b (Lv.a (Lv.b (A 75))))))) (K75_prlrl cal k m1) (K75_pxrlr cal k) (doneK P results75)))
noncomputable def K75_prlrllr (cal : Cal) (k : Nat) (m1 : Nat) : KC (Value × Hp × Nat) := (cutK (Lv.b (Lv.a (Lv.a (Lv.b (Lv.a (Lv.b (A 75))))))).c (codeE P cal (codeF P cal m1) none 75 (cR (cR (cL (cL (cR (cL (cR code75))))))) (Lv.b (Lv.b (Lv.a (Lv.a (Lv.b (Lv.a (Lv.b (A 75)))))))) (K75_prlrl cal k m1) (K75_pxrlr cal k) (doneK P results75)))
noncomputable def K75_prlrllrr (cal : Cal) (k : Nat) (m1 : Nat) : KC (Value × Hp × Nat) := (cutK (Lv.b (Lv.b (Lv.a (Lv.a (Lv.b (Lv.a (Lv.b (A 75)))))))).c (codeE P cal (codeF P cal m1) none 75 (cR (cR (cR (cL (cL (cR (cL (cR code75)))))))) (Lv.b (Lv.b (Lv.b (Lv.a (Lv.a (Lv.b (Lv.a (Lv.b (A 75))))))))) (K75_prlrl cal k m1) (K75_pxrlr cal k) (doneK P results75)))
noncomputable def K75_pxrlrllrrl (cal : Cal) (k : Nat) (m1 : Nat) : XC (Value × Hp × Nat) := (upX 1 (K75_prlrllrr cal k m1) (K75_pxrlr cal k))
noncomputable def K75_prlrllrrll (cal : Cal) (k : Nat) (m1 : Nat) : KC (Value × Hp × Nat) := (cutK (Lv.a (Lv.a (Lv.b (Lv.b (Lv.a (Lv.a (Lv.b (Lv.a (Lv.b (A 75)))))))))).c (codeE P cal (codeF P cal m1) none 75 (cR (cL (cL (cR (cR (cL (cL (cR (cL (cR code75)))))))))) (Lv.b (Lv.a (Lv.a (Lv.b (Lv.b (Lv.a (Lv.a (Lv.b (Lv.a (Lv.b (A 75))))))))))) (K75_prlrllrr cal k m1) (K75_pxrlrllrrl cal k m1) (doneK P results75)))
noncomputable def K75_prlrllrrllr (cal : Cal) (k : Nat) (m1 : Nat) : KC (Value × Hp × Nat) := (cutK (Lv.b (Lv.a (Lv.a (Lv.b (Lv.b (Lv.a (Lv.a (Lv.b (Lv.a (Lv.b (A 75))))))))))).c (codeE P cal (codeF P cal m1) none 75 (cR (cR (cL (cL (cR (cR (cL (cL (cR (cL (cR code75))))))))))) (Lv.b (Lv.b (Lv.a (Lv.a (Lv.b (Lv.b (Lv.a (Lv.a (Lv.b (Lv.a (Lv.b (A 75)))))))))))) (K75_prlrllrr cal k m1) (K75_pxrlrllrrl cal k m1) (doneK P results75)))
noncomputable def K75_prlrllrrllrrl (cal : Cal) (k : Nat) (m1 : Nat) : KC (Value × Hp × Nat) := (cutK (Lv.a (Lv.b (Lv.b (Lv.a (Lv.a (Lv.b (Lv.b (Lv.a (Lv.a (Lv.b (Lv.a (Lv.b (A 75))))))))))))).c (codeE P cal (codeF P cal m1) none 75 (cR (cL (cR (cR (cL (cL (cR (cR (cL (cL (cR (cL (cR code75))))))))))))) (Lv.b (Lv.a (Lv.b (Lv.b (Lv.a (Lv.a (Lv.b (Lv.b (Lv.a (Lv.a (Lv.b (Lv.a (Lv.b (A 75)))))))))))))) (K75_prlrllrr cal k m1) (K75_pxrlrllrrl cal k m1) (doneK P results75)))
noncomputable def K75_prr (cal : Cal) (k : Nat) : KC (Value × Hp × Nat) := (cutK (Lv.b (Lv.b (A 75))).c (codeE P cal (codeF P cal k) none 75 (cR (cR (cR code75))) (Lv.b (Lv.b (Lv.b (A 75)))) (doneK P results75) X0 (doneK P results75)))
noncomputable def E75_1 (cal : Cal) (k m1 : Nat) : KC (Value × Hp × Nat) := codeE P cal (codeF P cal m1) none 75 (cL (cL (cR (cL (cR code75))))) (Lv.a (Lv.a (Lv.b (Lv.a (Lv.b (A 75)))))) (K75_prlrl cal k m1) (K75_pxrlr cal k) (doneK P results75)
noncomputable def R75_1 (cal : Cal) (k m1 : Nat) : Value → Value → Value → Value → Hp → Nat → Res := fun u1 u7 u8 u9 H n => codeF P cal m1 (Lv.a (Lv.b (Lv.a (Lv.b (A 75))))) none 75 (cL (cR (cL (cR code75)))) (K75_pr cal k) (K75_pxrlr cal k) (doneK P results75) (Tr.set (Tr.set (Tr.set (Tr.set Tr.nil 9 (some u9)) 8 (some u8)) 7 (some u7)) 1 (some u1)) H n []
noncomputable def B75_1 (cal : Cal) (k m1 : Nat) (b1 : Value → Value → Value → Value → Hp → Nat → Res) (u1 u7 u8 u9 : Value) (H : Hp) (n : Nat) : Res :=
binK P Go.BinOp.lss 3 (Go.Operand.tmp 9) (Go.Operand.tmp 8) u9 u8 fun v10_5 =>
ifK v10_5 (
bindO (indexAddrV P 28 u7 u9) fun v11_6 =>
bindO (addrV v11_6) fun a_8 => bindO (loadV P H 61 a_8) fun v12_7 =>
allocK P 61 H n fun v6_9 H_10 n_11 =>
bindO (storeP P 61 v6_9 v12_7 H_10) fun H_13 =>
bindO (addrV v6_9) fun a_16 => bindO (loadV P H_13 61 a_16) fun v14_15 =>
callVK P cal u1 [v14_15] H_13 n_11 fun v15_17 H_18 n_19 =>
bindO (pureSem P v15_17 (Op.unary Go.UnOp.not v15_17)) fun v16_20 =>
ifK v16_20 (
some ((Go.Value.bool false), H_18, n_19)) (
binK P Go.BinOp.add 3 (Go.Operand.tmp 9) (Go.Operand.const (Go.Value.int Go.IntKind.i64 1)) u9 (Go.Value.int Go.IntKind.i64 1) fun v17_22 =>
b1 u1 u7 u8 v17_22 H_18 n_19)) (
some ((Go.Value.bool true), H, n))
noncomputable def C75_1 (cal : Cal) (k m1 : Nat) (b1 : Value → Value → Value → Value → Hp → Nat → Res) (u1 u7 u8 u9 : Value) (H : Hp) (n : Nat) : Res := B75_1 cal k m1 b1 u1 u7 u8 u9 H n
noncomputable def S75_1 (cal : Cal) (k : Nat) : Nat → Value → Value → Value → Value → Hp → Nat → Res := fun m => Nat.rec (motive := fun _ => Value → Value → Value → Value → Hp → Nat → Res) (C75_1 cal k 0 (fun _ _ _ _ _ _ => none)) (fun m ih => C75_1 cal k (m + 1) ih) m
theorem h75_1 (cal : Cal) (k m1 : Nat) (u1 u7 u8 u9 : Value) (H : Hp) (n : Nat) : labK (E75_1 cal k m1) (Tr.set (Tr.set (Tr.set (Tr.set Tr.nil 9 (some u9)) 8 (some u8)) 7 (some u7)) 1 (some u1)) H n [] = C75_1 cal k m1 (R75_1 cal k m1) u1 u7 u8 u9 H n := by
  have h : labK (E75_1 cal k m1) (Tr.set (Tr.set (Tr.set (Tr.set Tr.nil 9 (some u9)) 8 (some u8)) 7 (some u7)) 1 (some u1)) H n [] = B75_1 cal k m1 (R75_1 cal k m1) u1 u7 u8 u9 H n := by kernel_rfl
  rw [h, C75_1]
theorem q75_1 (cal : Cal) (k : Nat) : ∀ (m : Nat) (u1 u7 u8 u9 : Value) (H : Hp) (n : Nat), labK (E75_1 cal k m) (Tr.set (Tr.set (Tr.set (Tr.set Tr.nil 9 (some u9)) 8 (some u8)) 7 (some u7)) 1 (some u1)) H n [] = S75_1 cal k m u1 u7 u8 u9 H n
  | 0, u1, u7, u8, u9, H, n => by
    rw [h75_1]
    have e : R75_1 cal k 0 = fun _ _ _ _ _ _ => none := by funext u1 u7 u8 u9 H n; kernel_rfl
    rw [e]; rfl
  | m + 1, u1, u7, u8, u9, H, n => by
    rw [h75_1]
    have e : R75_1 cal k (m + 1) = S75_1 cal k m := by
      funext u1 u7 u8 u9 H n
      have e : R75_1 cal k (m + 1) u1 u7 u8 u9 H n = labK (E75_1 cal k m) (Tr.set (Tr.set (Tr.set (Tr.set Tr.nil 9 (some u9)) 8 (some u8)) 7 (some u7)) 1 (some u1)) H n [] := by kernel_rfl
      rw [e]; exact q75_1 ..
    rw [e]; rfl
noncomputable def B75_0 (cal : Cal) (k : Nat) (j1 : Value → Value → Value → Value → Hp → Nat → Res) (v0 v1 : Value) (H : Hp) (n : Nat) : Res :=
bindO (lenV P 28 v0) fun v8_3 =>
j1 v1 v0 v8_3 (Go.Value.int Go.IntKind.i64 0) H n
noncomputable def C75_0 (cal : Cal) (k : Nat) (v0 v1 : Value) (H : Hp) (n : Nat) : Res := B75_0 cal k (S75_1 cal k k) v0 v1 H n
theorem h75_0 (cal : Cal) (k : Nat) (v0 v1 : Value) (H : Hp) (n : Nat) : bodyE P cal A (k + 1) 75 [v0, v1] H n = C75_0 cal k v0 v1 H n := by
  have h : bodyE P cal A (k + 1) 75 [v0, v1] H n = B75_0 cal k (fun u1 u7 u8 u9 H n => labK (E75_1 cal k k) (Tr.set (Tr.set (Tr.set (Tr.set Tr.nil 9 (some u9)) 8 (some u8)) 7 (some u7)) 1 (some u1)) H n []) v0 v1 H n := by
    rw [body_eq (fn := Go.Proofs.Try.f75) (c := code75) (rs := results75) (by kernel_rfl) (by kernel_rfl) (by kernel_rfl) (by kernel_rfl)]
    kernel_rfl
  rw [h, C75_0]
  have e1 : (fun u1 u7 u8 u9 H n => labK (E75_1 cal k k) (Tr.set (Tr.set (Tr.set (Tr.set Tr.nil 9 (some u9)) 8 (some u8)) 7 (some u7)) 1 (some u1)) H n []) = (S75_1 cal k k) := by funext u1 u7 u8 u9 H n; exact q75_1 ..
  rw [e1]
noncomputable def code76 : Code := codeOf 76
noncomputable def results76 : List ResultVar := resOf 76
noncomputable def K76_p (cal : Cal) (k : Nat) : KC (Value × Hp × Nat) := (cutK (A 76).c (codeE P cal (codeF P cal k) none 76 (cR code76) (Lv.b (A 76)) (doneK P results76) X0 (doneK P results76)))
noncomputable def K76_pr (cal : Cal) (k : Nat) : KC (Value × Hp × Nat) := (cutK (Lv.b (A 76)).c (codeE P cal (codeF P cal k) none 76 (cR (cR code76)) (Lv.b (Lv.b (A 76))) (doneK P results76) X0 (doneK P results76)))
noncomputable def B76_0 (cal : Cal) (k : Nat) (v0 : Value) (H : Hp) (n : Nat) : Res :=
boxK 61 v0 H n fun v1_1 H_2 n_3 =>
bindO (fieldAddrV P 61 v1_1 0) fun v3_5 =>
bindO (addrV v3_5) fun a_7 => bindO (loadV P H_2 3 a_7) fun v4_6 =>
binK P Go.BinOp.geq 3 (Go.Operand.tmp 4) (Go.Operand.const (Go.Value.int Go.IntKind.i64 0)) v4_6 (Go.Value.int Go.IntKind.i64 0) fun v5_8 =>
guardK v5_8 true (fun k_10 =>
bindO (fieldAddrV P 61 v1_1 0) fun v7_14 =>
k_10 v7_14 H_2 n_3) H_2 n_3 fun v_11 H_12 n_13 =>
guardK v5_8 true (fun k_15 =>
bindO (addrV v_11) fun a_20 => bindO (loadV P H_12 3 a_20) fun v8_19 =>
k_15 v8_19 H_12 n_13) H_12 n_13 fun v_16 H_17 n_18 =>
guardK v5_8 true (fun k_21 =>
binK P Go.BinOp.leq 3 (Go.Operand.tmp 8) (Go.Operand.const (Go.Value.int Go.IntKind.i64 1000)) v_16 (Go.Value.int Go.IntKind.i64 1000) fun v9_25 =>
k_21 v9_25 H_17 n_18) H_17 n_18 fun v_22 H_23 n_24 =>
bindO (pickV v5_8 v_22 (Go.Value.bool false)) fun v10_26 =>
guardK v10_26 true (fun k_28 =>
bindO (fieldAddrV P 61 v1_1 1) fun v12_32 =>
k_28 v12_32 H_23 n_24) H_23 n_24 fun v_29 H_30 n_31 =>
guardK v10_26 true (fun k_33 =>
bindO (addrV v_29) fun a_38 => bindO (loadV P H_30 59 a_38) fun v13_37 =>
k_33 v13_37 H_30 n_31) H_30 n_31 fun v_34 H_35 n_36 =>
guardK v10_26 true (fun k_39 =>
callFK P cal 89 [v_34] H_35 n_36 fun v14_43 H_44 n_45 =>
k_39 v14_43 H_44 n_45) H_35 n_36 fun v_40 H_41 n_42 =>
bindO (pickV v10_26 v_40 (Go.Value.bool false)) fun v15_46 =>
guardK v15_46 true (fun k_48 =>
bindO (fieldAddrV P 61 v1_1 2) fun v17_52 =>
k_48 v17_52 H_41 n_42) H_41 n_42 fun v_49 H_50 n_51 =>
guardK v15_46 true (fun k_53 =>
bindO (addrV v_49) fun a_58 => bindO (loadV P H_50 59 a_58) fun v18_57 =>
k_53 v18_57 H_50 n_51) H_50 n_51 fun v_54 H_55 n_56 =>
guardK v15_46 true (fun k_59 =>
callFK P cal 89 [v_54] H_55 n_56 fun v19_63 H_64 n_65 =>
k_59 v19_63 H_64 n_65) H_55 n_56 fun v_60 H_61 n_62 =>
bindO (pickV v15_46 v_60 (Go.Value.bool false)) fun v20_66 =>
some (v20_66, H_61, n_62)
noncomputable def C76_0 (cal : Cal) (k : Nat) (v0 : Value) (H : Hp) (n : Nat) : Res := B76_0 cal k v0 H n
theorem h76_0 (cal : Cal) (k : Nat) (v0 : Value) (H : Hp) (n : Nat) : bodyE P cal A (k + 1) 76 [v0] H n = C76_0 cal k v0 H n := by
  have h : bodyE P cal A (k + 1) 76 [v0] H n = B76_0 cal k v0 H n := by
    rw [body_eq (fn := Go.Proofs.Try.f76) (c := code76) (rs := results76) (by kernel_rfl) (by kernel_rfl) (by kernel_rfl) (by kernel_rfl)]
    kernel_rfl
  rw [h, C76_0]
noncomputable def code77 : Code := codeOf 77
noncomputable def results77 : List ResultVar := resOf 77
noncomputable def K77_p (cal : Cal) (k : Nat) : KC (Value × Hp × Nat) := (cutK (A 77).c (codeE P cal (codeF P cal k) none 77 (cR code77) (Lv.b (A 77)) (doneK P results77) X0 (doneK P results77)))
noncomputable def K77_pxr (cal : Cal) (k : Nat) : XC (Value × Hp × Nat) := (upX 0 (doneK P results77) X0)
noncomputable def K77_prl (cal : Cal) (k : Nat) (m1 : Nat) : KC (Value × Hp × Nat) := (fun T H n D => codeF P cal m1 (Lv.a (Lv.b (A 77))) none 77 (cL (cR code77)) (doneK P results77) (K77_pxr cal k) (doneK P results77) (cutT (Lv.a (Lv.b (A 77))).c T) H n D)
noncomputable def K77_prll (cal : Cal) (k : Nat) (m1 : Nat) : KC (Value × Hp × Nat) := (cutK (Lv.a (Lv.a (Lv.b (A 77)))).c (codeE P cal (codeF P cal m1) none 77 (cR (cL (cL (cR code77)))) (Lv.b (Lv.a (Lv.a (Lv.b (A 77))))) (K77_prl cal k m1) (K77_pxr cal k) (doneK P results77)))
noncomputable def K77_prlll (cal : Cal) (k : Nat) (m1 : Nat) : KC (Value × Hp × Nat) := (cutK (Lv.a (Lv.a (Lv.a (Lv.b (A 77))))).c (codeE P cal (codeF P cal m1) none 77 (cR (cL (cL (cL (cR code77))))) (Lv.b (Lv.a (Lv.a (Lv.a (Lv.b (A 77)))))) (K77_prll cal k m1) (K77_pxr cal k) (doneK P results77)))
noncomputable def K77_prllr (cal : Cal) (k : Nat) (m1 : Nat) : KC (Value × Hp × Nat) := (cutK (Lv.b (Lv.a (Lv.a (Lv.b (A 77))))).c (codeE P cal (codeF P cal m1) none 77 (cR (cR (cL (cL (cR code77))))) (Lv.b (Lv.b (Lv.a (Lv.a (Lv.b (A 77)))))) (K77_prl cal k m1) (K77_pxr cal k) (doneK P results77)))
noncomputable def K77_pxrllrl (cal : Cal) (k : Nat) (m1 : Nat) : XC (Value × Hp × Nat) := (upX 1 (K77_prllr cal k m1) (K77_pxr cal k))
noncomputable def K77_prllrll (cal : Cal) (k : Nat) (m1 : Nat) : KC (Value × Hp × Nat) := (cutK (Lv.a (Lv.a (Lv.b (Lv.a (Lv.a (Lv.b (A 77))))))).c (codeE P cal (codeF P cal m1) none 77 (cR (cL (cL (cR (cL (cL (cR code77))))))) (Lv.b (Lv.a (Lv.a (Lv.b (Lv.a (Lv.a (Lv.b (A 77)))))))) (K77_prllr cal k m1) (K77_pxrllrl cal k m1) (doneK P results77)))
noncomputable def K77_pxrllrllr (cal : Cal) (k : Nat) (m1 : Nat) : XC (Value × Hp × Nat) := (upX 2 (K77_prllr cal k m1) (K77_pxrllrl cal k m1))
noncomputable def K77_prllrllrl (cal : Cal) (k : Nat) (m1 : Nat) (m2 : Nat) : KC (Value × Hp × Nat) := (fun T H n D => codeF P cal m2 (Lv.a (Lv.b (Lv.a (Lv.a (Lv.b (Lv.a (Lv.a (Lv.b (A 77))))))))) none 77 (cL (cR (cL (cL (cR (cL (cL (cR code77)))))))) (K77_prllr cal k m1) (K77_pxrllrllr cal k m1) (doneK P results77) (cutT (Lv.a (Lv.b (Lv.a (Lv.a (Lv.b (Lv.a (Lv.a (Lv.b (A 77))))))))).c T) H n D)
noncomputable def K77_prllrllrll (cal : Cal) (k : Nat) (m1 : Nat) (m2 : Nat) : KC (Value × Hp × Nat) := (cutK (Lv.a (Lv.a (Lv.b (Lv.a (Lv.a (Lv.b (Lv.a (Lv.a (Lv.b (A 77)))))))))).c (codeE P cal (codeF P cal m2) none 77 (cR (cL (cL (cR (cL (cL (cR (cL (cL (cR code77)))))))))) (Lv.b (Lv.a (Lv.a (Lv.b (Lv.a (Lv.a (Lv.b (Lv.a (Lv.a (Lv.b (A 77))))))))))) (K77_prllrllrl cal k m1 m2) (K77_pxrllrllr cal k m1) (doneK P results77)))
noncomputable def K77_prllrllrlll (cal : Cal) (k : Nat) (m1 : Nat) (m2 : Nat) : KC (Value × Hp × Nat) := (cutK (Lv.a (Lv.a (Lv.a (Lv.b (Lv.a (Lv.a (Lv.b (Lv.a (Lv.a (Lv.b (A 77))))))))))).c (codeE P cal (codeF P cal m2) none 77 (cR (cL (cL (cL (cR (cL (cL (cR (cL (cL (cR code77))))))))))) (Lv.b (Lv.a (Lv.a (Lv.a (Lv.b (Lv.a (Lv.a (Lv.b (Lv.a (Lv.a (Lv.b (A 77)))))))))))) (K77_prllrllrll cal k m1 m2) (K77_pxrllrllr cal k m1) (doneK P results77)))
noncomputable def K77_prllrllrllr (cal : Cal) (k : Nat) (m1 : Nat) (m2 : Nat) : KC (Value × Hp × Nat) := (cutK (Lv.b (Lv.a (Lv.a (Lv.b (Lv.a (Lv.a (Lv.b (Lv.a (Lv.a (Lv.b (A 77))))))))))).c (codeE P cal (codeF P cal m2) none 77 (cR (cR (cL (cL (cR (cL (cL (cR (cL (cL (cR code77))))))))))) (Lv.b (Lv.b (Lv.a (Lv.a (Lv.b (Lv.a (Lv.a (Lv.b (Lv.a (Lv.a (Lv.b (A 77)))))))))))) (K77_prllrllrl cal k m1 m2) (K77_pxrllrllr cal k m1) (doneK P results77)))
noncomputable def K77_pxrllrllrllrl (cal : Cal) (k : Nat) (m1 : Nat) (m2 : Nat) : XC (Value × Hp × Nat) := (upX 3 (K77_prllrllrllr cal k m1 m2) (K77_pxrllrllr cal k m1))
noncomputable def E77_2 (cal : Cal) (k m1 m2 : Nat) : KC (Value × Hp × Nat) := codeE P cal (codeF P cal m2) none 77 (cL (cL (cR (cL (cL (cR (cL (cL (cR code77))))))))) (Lv.a (Lv.a (Lv.b (Lv.a (Lv.a (Lv.b (Lv.a (Lv.a (Lv.b (A 77)))))))))) (K77_prllrllrl cal k m1 m2) (K77_pxrllrllr cal k m1) (doneK P results77)
noncomputable def R77_2 (cal : Cal) (k m1 m2 : Nat) : Value → Value → Value → Value → Value → Value → Hp → Nat → Res := fun u0 u1 u2 u3 u8 u9 H n => codeF P cal m2 (Lv.a (Lv.b (Lv.a (Lv.a (Lv.b (Lv.a (Lv.a (Lv.b (A 77))))))))) none 77 (cL (cR (cL (cL (cR (cL (cL (cR code77)))))))) (K77_prllr cal k m1) (K77_pxrllrllr cal k m1) (doneK P results77) (Tr.set (Tr.set (Tr.set (Tr.set (Tr.set (Tr.set Tr.nil 9 (some u9)) 8 (some u8)) 3 (some u3)) 2 (some u2)) 1 (some u1)) 0 (some u0)) H n []
noncomputable def E77_1 (cal : Cal) (k m1 : Nat) : KC (Value × Hp × Nat) := codeE P cal (codeF P cal m1) none 77 (cL (cL (cR code77))) (Lv.a (Lv.a (Lv.b (A 77)))) (K77_prl cal k m1) (K77_pxr cal k) (doneK P results77)
noncomputable def R77_1 (cal : Cal) (k m1 : Nat) : Value → Value → Value → Value → Value → Hp → Nat → Res := fun u0 u1 u2 u3 u8 H n => codeF P cal m1 (Lv.a (Lv.b (A 77))) none 77 (cL (cR code77)) (doneK P results77) (K77_pxr cal k) (doneK P results77) (Tr.set (Tr.set (Tr.set (Tr.set (Tr.set Tr.nil 8 (some u8)) 3 (some u3)) 2 (some u2)) 1 (some u1)) 0 (some u0)) H n []
noncomputable def B77_2 (cal : Cal) (k m1 m2 : Nat) (b1 : Value → Value → Value → Value → Value → Hp → Nat → Res) (b2 : Value → Value → Value → Value → Value → Value → Hp → Nat → Res) (u0 u1 u2 u3 u8 u9 : Value) (H : Hp) (n : Nat) : Res :=
binK P Go.BinOp.gtr 3 (Go.Operand.tmp 18) (Go.Operand.tmp 19) u9 u1 fun v20_11 =>
guardD v20_11 true (fun k_13 =>
k_13 u3 .p H n) .p H n fun v_14 x_15 H_16 n_17 =>
guardD v20_11 true (fun k_19 =>
k_19 u0 .p H_16 n_17) .p H_16 n_17 fun v_20 x_21 H_22 n_23 =>
guardD v20_11 true (fun k_25 =>
k_25 u9 .p H_22 n_23) .p H_22 n_23 fun v_26 x_27 H_28 n_29 =>
guardD v20_11 true (fun k_31 =>
bindO (indexAddrV P 54 v_20 v_26) fun v25_36 =>
k_31 v25_36 .p H_28 n_29) .p H_28 n_29 fun v_32 x_33 H_34 n_35 =>
guardD v20_11 true (fun k_37 =>
bindO (addrV v_32) fun a_42 => bindO (loadV P H_34 50 a_42) fun v_43 =>
k_37 v_43 (.l 50 a_42) H_34 n_35) .p H_34 n_35 fun v_38 x_39 H_40 n_41 =>
guardD v20_11 true (fun k_44 =>
k_44 u0 .p H_40 n_41) .p H_40 n_41 fun v_45 x_46 H_47 n_48 =>
guardD v20_11 true (fun k_50 =>
k_50 u9 .p H_47 n_48) .p H_47 n_48 fun v_51 x_52 H_53 n_54 =>
guardD v20_11 true (fun k_56 =>
binK P Go.BinOp.sub 3 (Go.Operand.tmp 28) (Go.Operand.const (Go.Value.int Go.IntKind.i64 1)) v_51 (Go.Value.int Go.IntKind.i64 1) fun v29_61 =>
k_56 v29_61 .p H_53 n_54) .p H_53 n_54 fun v_57 x_58 H_59 n_60 =>
guardD v20_11 true (fun k_62 =>
bindO (indexAddrV P 54 v_45 v_57) fun v30_67 =>
k_62 v30_67 .p H_59 n_60) .p H_59 n_60 fun v_63 x_64 H_65 n_66 =>
guardD v20_11 true (fun k_68 =>
bindO (addrV v_63) fun a_73 => bindO (loadV P H_65 50 a_73) fun v_74 =>
k_68 v_74 (.l 50 a_73) H_65 n_66) .p H_65 n_66 fun v_69 x_70 H_71 n_72 =>
guardD v20_11 true (fun k_75 =>
callVK P cal v_14 [v_38, v_69] H_71 n_72 fun v32_80 H_81 n_82 =>
k_75 v32_80 .e H_81 n_82) .e H_71 n_72 fun v_76 x_77 H_78 n_79 =>
guardD v20_11 true (fun k_83 =>
binK P Go.BinOp.lss 3 (Go.Operand.tmp 32) (Go.Operand.const (Go.Value.int Go.IntKind.i64 0)) v_76 (Go.Value.int Go.IntKind.i64 0) fun v33_88 =>
k_83 v33_88 .p H_78 n_79) .p H_78 n_79 fun v_84 x_85 H_86 n_87 =>
bindO (pickV v20_11 v_84 (Go.Value.bool false)) fun v34_89 =>
ifK v34_89 (
binK P Go.BinOp.sub 3 (Go.Operand.tmp 40) (Go.Operand.const (Go.Value.int Go.IntKind.i64 1)) u9 (Go.Value.int Go.IntKind.i64 1) fun v41_94 =>
binK P Go.BinOp.sub 3 (Go.Operand.tmp 43) (Go.Operand.const (Go.Value.int Go.IntKind.i64 1)) u9 (Go.Value.int Go.IntKind.i64 1) fun v44_97 =>
bindO (indexAddrV P 54 u0 v44_97) fun v45_98 =>
bindO (addrV v45_98) fun a_99 => bindO (loadV P H_86 50 a_99) fun v_100 =>
bindO (indexAddrV P 54 u0 u9) fun v49_103 =>
bindO (addrV v49_103) fun a_104 => bindO (loadV P H_86 50 a_104) fun v_105 =>
bindO (indexAddrV P 54 u0 u9) fun v51_106 =>
bindO (storeP P 50 v51_106 v_100 H_86) fun H_108 =>
bindO (indexAddrV P 54 u0 v41_94) fun v52_109 =>
bindO (storeP P 50 v52_109 v_105 H_108) fun H_111 =>
binK P Go.BinOp.sub 3 (Go.Operand.tmp 35) (Go.Operand.const (Go.Value.int Go.IntKind.i64 1)) u9 (Go.Value.int Go.IntKind.i64 1) fun v36_113 =>
b2 u0 u1 u2 u3 u8 v36_113 H_111 n_87) (
binK P Go.BinOp.add 3 (Go.Operand.tmp 15) (Go.Operand.const (Go.Value.int Go.IntKind.i64 1)) u8 (Go.Value.int Go.IntKind.i64 1) fun v16_116 =>
b1 u0 u1 u2 u3 v16_116 H_86 n_87)
noncomputable def C77_2 (cal : Cal) (k m1 m2 : Nat) (b1 : Value → Value → Value → Value → Value → Hp → Nat → Res) (b2 : Value → Value → Value → Value → Value → Value → Hp → Nat → Res) (u0 u1 u2 u3 u8 u9 : Value) (H : Hp) (n : Nat) : Res := B77_2 cal k m1 m2 b1 b2 u0 u1 u2 u3 u8 u9 H n
noncomputable def S77_2 (cal : Cal) (k m1 : Nat) (b1 : Value → Value → Value → Value → Value → Hp → Nat → Res) : Nat → Value → Value → Value → Value → Value → Value → Hp → Nat → Res := fun m => Nat.rec (motive := fun _ => Value → Value → Value → Value → Value → Value → Hp → Nat → Res) (C77_2 cal k m1 0 b1 (fun _ _ _ _ _ _ _ _ => none)) (fun m ih => C77_2 cal k m1 (m + 1) b1 ih) m
theorem h77_2 (cal : Cal) (k m1 m2 : Nat) (u0 u1 u2 u3 u8 u9 : Value) (H : Hp) (n : Nat) : labK (E77_2 cal k m1 m2) (Tr.set (Tr.set (Tr.set (Tr.set (Tr.set (Tr.set Tr.nil 9 (some u9)) 8 (some u8)) 3 (some u3)) 2 (some u2)) 1 (some u1)) 0 (some u0)) H n [] = C77_2 cal k m1 m2 (R77_1 cal k m1) (R77_2 cal k m1 m2) u0 u1 u2 u3 u8 u9 H n := by
  have h : labK (E77_2 cal k m1 m2) (Tr.set (Tr.set (Tr.set (Tr.set (Tr.set (Tr.set Tr.nil 9 (some u9)) 8 (some u8)) 3 (some u3)) 2 (some u2)) 1 (some u1)) 0 (some u0)) H n [] = B77_2 cal k m1 m2 (R77_1 cal k m1) (R77_2 cal k m1 m2) u0 u1 u2 u3 u8 u9 H n := by kernel_rfl
  rw [h, C77_2]
theorem q77_2 (cal : Cal) (k m1 : Nat) : ∀ (m : Nat) (u0 u1 u2 u3 u8 u9 : Value) (H : Hp) (n : Nat), labK (E77_2 cal k m1 m) (Tr.set (Tr.set (Tr.set (Tr.set (Tr.set (Tr.set Tr.nil 9 (some u9)) 8 (some u8)) 3 (some u3)) 2 (some u2)) 1 (some u1)) 0 (some u0)) H n [] = S77_2 cal k m1 (R77_1 cal k m1) m u0 u1 u2 u3 u8 u9 H n
  | 0, u0, u1, u2, u3, u8, u9, H, n => by
    rw [h77_2]
    have e : R77_2 cal k m1 0 = fun _ _ _ _ _ _ _ _ => none := by funext u0 u1 u2 u3 u8 u9 H n; kernel_rfl
    rw [e]; rfl
  | m + 1, u0, u1, u2, u3, u8, u9, H, n => by
    rw [h77_2]
    have e : R77_2 cal k m1 (m + 1) = S77_2 cal k m1 (R77_1 cal k m1) m := by
      funext u0 u1 u2 u3 u8 u9 H n
      have e : R77_2 cal k m1 (m + 1) u0 u1 u2 u3 u8 u9 H n = labK (E77_2 cal k m1 m) (Tr.set (Tr.set (Tr.set (Tr.set (Tr.set (Tr.set Tr.nil 9 (some u9)) 8 (some u8)) 3 (some u3)) 2 (some u2)) 1 (some u1)) 0 (some u0)) H n [] := by kernel_rfl
      rw [e]; exact q77_2 ..
    rw [e]; rfl
noncomputable def B77_1 (cal : Cal) (k m1 : Nat) (j2 : Value → Value → Value → Value → Value → Value → Hp → Nat → Res) (b1 : Value → Value → Value → Value → Value → Hp → Nat → Res) (u0 u1 u2 u3 u8 : Value) (H : Hp) (n : Nat) : Res :=
binK P Go.BinOp.lss 3 (Go.Operand.tmp 12) (Go.Operand.tmp 13) u8 u2 fun v14_6 =>
ifK v14_6 (
j2 u0 u1 u2 u3 u8 u8 H n) (
some ((Value.tuple ⟨[]⟩), H, n))
noncomputable def C77_1 (cal : Cal) (k m1 : Nat) (b1 : Value → Value → Value → Value → Value → Hp → Nat → Res) (u0 u1 u2 u3 u8 : Value) (H : Hp) (n : Nat) : Res := B77_1 cal k m1 (S77_2 cal k m1 b1 m1) b1 u0 u1 u2 u3 u8 H n
noncomputable def S77_1 (cal : Cal) (k : Nat) : Nat → Value → Value → Value → Value → Value → Hp → Nat → Res := fun m => Nat.rec (motive := fun _ => Value → Value → Value → Value → Value → Hp → Nat → Res) (C77_1 cal k 0 (fun _ _ _ _ _ _ _ => none)) (fun m ih => C77_1 cal k (m + 1) ih) m
theorem h77_1 (cal : Cal) (k m1 : Nat) (u0 u1 u2 u3 u8 : Value) (H : Hp) (n : Nat) : labK (E77_1 cal k m1) (Tr.set (Tr.set (Tr.set (Tr.set (Tr.set Tr.nil 8 (some u8)) 3 (some u3)) 2 (some u2)) 1 (some u1)) 0 (some u0)) H n [] = C77_1 cal k m1 (R77_1 cal k m1) u0 u1 u2 u3 u8 H n := by
  have h : labK (E77_1 cal k m1) (Tr.set (Tr.set (Tr.set (Tr.set (Tr.set Tr.nil 8 (some u8)) 3 (some u3)) 2 (some u2)) 1 (some u1)) 0 (some u0)) H n [] = B77_1 cal k m1 (fun u0 u1 u2 u3 u8 u9 H n => labK (E77_2 cal k m1 m1) (Tr.set (Tr.set (Tr.set (Tr.set (Tr.set (Tr.set Tr.nil 9 (some u9)) 8 (some u8)) 3 (some u3)) 2 (some u2)) 1 (some u1)) 0 (some u0)) H n []) (R77_1 cal k m1) u0 u1 u2 u3 u8 H n := by kernel_rfl
  rw [h, C77_1]
  have e2 : (fun u0 u1 u2 u3 u8 u9 H n => labK (E77_2 cal k m1 m1) (Tr.set (Tr.set (Tr.set (Tr.set (Tr.set (Tr.set Tr.nil 9 (some u9)) 8 (some u8)) 3 (some u3)) 2 (some u2)) 1 (some u1)) 0 (some u0)) H n []) = (S77_2 cal k m1 (R77_1 cal k m1) m1) := by funext u0 u1 u2 u3 u8 u9 H n; exact q77_2 ..
  rw [e2]
theorem q77_1 (cal : Cal) (k : Nat) : ∀ (m : Nat) (u0 u1 u2 u3 u8 : Value) (H : Hp) (n : Nat), labK (E77_1 cal k m) (Tr.set (Tr.set (Tr.set (Tr.set (Tr.set Tr.nil 8 (some u8)) 3 (some u3)) 2 (some u2)) 1 (some u1)) 0 (some u0)) H n [] = S77_1 cal k m u0 u1 u2 u3 u8 H n
  | 0, u0, u1, u2, u3, u8, H, n => by
    rw [h77_1]
    have e : R77_1 cal k 0 = fun _ _ _ _ _ _ _ => none := by funext u0 u1 u2 u3 u8 H n; kernel_rfl
    rw [e]; rfl
  | m + 1, u0, u1, u2, u3, u8, H, n => by
    rw [h77_1]
    have e : R77_1 cal k (m + 1) = S77_1 cal k m := by
      funext u0 u1 u2 u3 u8 H n
      have e : R77_1 cal k (m + 1) u0 u1 u2 u3 u8 H n = labK (E77_1 cal k m) (Tr.set (Tr.set (Tr.set (Tr.set (Tr.set Tr.nil 8 (some u8)) 3 (some u3)) 2 (some u2)) 1 (some u1)) 0 (some u0)) H n [] := by kernel_rfl
      rw [e]; exact q77_1 ..
    rw [e]; rfl
noncomputable def B77_0 (cal : Cal) (k : Nat) (j1 : Value → Value → Value → Value → Value → Hp → Nat → Res) (v0 v1 v2 v3 : Value) (H : Hp) (n : Nat) : Res :=
binK P Go.BinOp.add 3 (Go.Operand.tmp 10) (Go.Operand.const (Go.Value.int Go.IntKind.i64 1)) v1 (Go.Value.int Go.IntKind.i64 1) fun v11_2 =>
j1 v0 v1 v2 v3 v11_2 H n
noncomputable def C77_0 (cal : Cal) (k : Nat) (v0 v1 v2 v3 : Value) (H : Hp) (n : Nat) : Res := B77_0 cal k (S77_1 cal k k) v0 v1 v2 v3 H n
theorem h77_0 (cal : Cal) (k : Nat) (v0 v1 v2 v3 : Value) (H : Hp) (n : Nat) : bodyE P cal A (k + 1) 77 [v0, v1, v2, v3] H n = C77_0 cal k v0 v1 v2 v3 H n := by
  have h : bodyE P cal A (k + 1) 77 [v0, v1, v2, v3] H n = B77_0 cal k (fun u0 u1 u2 u3 u8 H n => labK (E77_1 cal k k) (Tr.set (Tr.set (Tr.set (Tr.set (Tr.set Tr.nil 8 (some u8)) 3 (some u3)) 2 (some u2)) 1 (some u1)) 0 (some u0)) H n []) v0 v1 v2 v3 H n := by
    rw [body_eq (fn := Go.Proofs.Try.f77) (c := code77) (rs := results77) (by kernel_rfl) (by kernel_rfl) (by kernel_rfl) (by kernel_rfl)]
    kernel_rfl
  rw [h, C77_0]
  have e1 : (fun u0 u1 u2 u3 u8 H n => labK (E77_1 cal k k) (Tr.set (Tr.set (Tr.set (Tr.set (Tr.set Tr.nil 8 (some u8)) 3 (some u3)) 2 (some u2)) 1 (some u1)) 0 (some u0)) H n []) = (S77_1 cal k k) := by funext u0 u1 u2 u3 u8 H n; exact q77_1 ..
  rw [e1]
noncomputable def code78 : Code := codeOf 78
noncomputable def results78 : List ResultVar := resOf 78
noncomputable def K78_p (cal : Cal) (k : Nat) : KC (Value × Hp × Nat) := (cutK (A 78).c (codeE P cal (codeF P cal k) none 78 (cR code78) (Lv.b (A 78)) (doneK P results78) X0 (doneK P results78)))
noncomputable def K78_pr (cal : Cal) (k : Nat) : KC (Value × Hp × Nat) := (cutK (Lv.b (A 78)).c (codeE P cal (codeF P cal k) none 78 (cR (cR code78)) (Lv.b (Lv.b (A 78))) (doneK P results78) X0 (doneK P results78)))
noncomputable def K78_prr (cal : Cal) (k : Nat) : KC (Value × Hp × Nat) := (cutK (Lv.b (Lv.b (A 78))).c (codeE P cal (codeF P cal k) none 78 (cR (cR (cR code78))) (Lv.b (Lv.b (Lv.b (A 78)))) (doneK P results78) X0 (doneK P results78)))
noncomputable def K78_prrr (cal : Cal) (k : Nat) : KC (Value × Hp × Nat) := (cutK (Lv.b (Lv.b (Lv.b (A 78)))).c (codeE P cal (codeF P cal k) none 78 (cR (cR (cR (cR code78)))) (Lv.b (Lv.b (Lv.b (Lv.b (A 78))))) (doneK P results78) X0 (doneK P results78)))
noncomputable def K78_prrrl (cal : Cal) (k : Nat) : KC (Value × Hp × Nat) := (cutK (Lv.a (Lv.b (Lv.b (Lv.b (A 78))))).c (codeE P cal (codeF P cal k) none 78 (cR (cL (cR (cR (cR code78))))) (Lv.b (Lv.a (Lv.b (Lv.b (Lv.b (A 78)))))) (K78_prrr cal k) X0 (doneK P results78)))
noncomputable def K78_pxrrrlr (cal : Cal) (k : Nat) : XC (Value × Hp × Nat) := (upX 0 (K78_prrr cal k) X0)
noncomputable def K78_prrrlrl (cal : Cal) (k : Nat) (m1 : Nat) : KC (Value × Hp × Nat) := (fun T H n D => codeF P cal m1 (Lv.a (Lv.b (Lv.a (Lv.b (Lv.b (Lv.b (A 78))))))) none 78 (cL (cR (cL (cR (cR (cR code78)))))) (K78_prrr cal k) (K78_pxrrrlr cal k) (doneK P results78) (cutT (Lv.a (Lv.b (Lv.a (Lv.b (Lv.b (Lv.b (A 78))))))).c T) H n D)
noncomputable def K78_prrrlrll (cal : Cal) (k : Nat) (m1 : Nat) : KC (Value × Hp × Nat) := (cutK (Lv.a (Lv.a (Lv.b (Lv.a (Lv.b (Lv.b (Lv.b (A 78)))))))).c (codeE P cal (codeF P cal m1) none 78 (cR (cL (cL (cR (cL (cR (cR (cR code78)))))))) (Lv.b (Lv.a (Lv.a (Lv.b (Lv.a (Lv.b (Lv.b (Lv.b (A 78))))))))) (K78_prrrlrl cal k m1) (K78_pxrrrlr cal k) (doneK P results78)))
noncomputable def K78_prrrlrlll (cal : Cal) (k : Nat) (m1 : Nat) : KC (Value × Hp × Nat) := (cutK (Lv.a (Lv.a (Lv.a (Lv.b (Lv.a (Lv.b (Lv.b (Lv.b (A 78))))))))).c (codeE P cal (codeF P cal m1) none 78 (cR (cL (cL (cL (cR (cL (cR (cR (cR code78))))))))) (Lv.b (Lv.a (Lv.a (Lv.a (Lv.b (Lv.a (Lv.b (Lv.b (Lv.b (A 78)))))))))) (K78_prrrlrll cal k m1) (K78_pxrrrlr cal k) (doneK P results78)))
noncomputable def K78_prrrlrllr (cal : Cal) (k : Nat) (m1 : Nat) : KC (Value × Hp × Nat) := (cutK (Lv.b (Lv.a (Lv.a (Lv.b (Lv.a (Lv.b (Lv.b (Lv.b (A 78))))))))).c (codeE P cal (codeF P cal m1) none 78 (cR (cR (cL (cL (cR (cL (cR (cR (cR code78))))))))) (Lv.b (Lv.b (Lv.a (Lv.a (Lv.b (Lv.a (Lv.b (Lv.b (Lv.b (A 78)))))))))) (K78_prrrlrl cal k m1) (K78_pxrrrlr cal k) (doneK P results78)))
noncomputable def K78_pxrrrlrllrl (cal : Cal) (k : Nat) (m1 : Nat) : XC (Value × Hp × Nat) := (upX 1 (K78_prrrlrllr cal k m1) (K78_pxrrrlr cal k))
noncomputable def K78_prrrr (cal : Cal) (k : Nat) : KC (Value × Hp × Nat) := (cutK (Lv.b (Lv.b (Lv.b (Lv.b (A 78))))).c (codeE P cal (codeF P cal k) none 78 (cR (cR (cR (cR (cR code78))))) (Lv.b (Lv.b (Lv.b (Lv.b (Lv.b (A 78)))))) (doneK P results78) X0 (doneK P results78)))
noncomputable def K78_pxrrrrr (cal : Cal) (k : Nat) : XC (Value × Hp × Nat) := (upX 2 (doneK P results78) X0)
noncomputable def K78_prrrrrl (cal : Cal) (k : Nat) (m1 : Nat) : KC (Value × Hp × Nat) := (fun T H n D => codeF P cal m1 (Lv.a (Lv.b (Lv.b (Lv.b (Lv.b (Lv.b (A 78))))))) none 78 (cL (cR (cR (cR (cR (cR code78)))))) (doneK P results78) (K78_pxrrrrr cal k) (doneK P results78) (cutT (Lv.a (Lv.b (Lv.b (Lv.b (Lv.b (Lv.b (A 78))))))).c T) H n D)
noncomputable def K78_prrrrrll (cal : Cal) (k : Nat) (m1 : Nat) : KC (Value × Hp × Nat) := (cutK (Lv.a (Lv.a (Lv.b (Lv.b (Lv.b (Lv.b (Lv.b (A 78)))))))).c (codeE P cal (codeF P cal m1) none 78 (cR (cL (cL (cR (cR (cR (cR (cR code78)))))))) (Lv.b (Lv.a (Lv.a (Lv.b (Lv.b (Lv.b (Lv.b (Lv.b (A 78))))))))) (K78_prrrrrl cal k m1) (K78_pxrrrrr cal k) (doneK P results78)))
noncomputable def K78_prrrrrlll (cal : Cal) (k : Nat) (m1 : Nat) : KC (Value × Hp × Nat) := (cutK (Lv.a (Lv.a (Lv.a (Lv.b (Lv.b (Lv.b (Lv.b (Lv.b (A 78))))))))).c (codeE P cal (codeF P cal m1) none 78 (cR (cL (cL (cL (cR (cR (cR (cR (cR code78))))))))) (Lv.b (Lv.a (Lv.a (Lv.a (Lv.b (Lv.b (Lv.b (Lv.b (Lv.b (A 78)))))))))) (K78_prrrrrll cal k m1) (K78_pxrrrrr cal k) (doneK P results78)))
noncomputable def K78_prrrrrllr (cal : Cal) (k : Nat) (m1 : Nat) : KC (Value × Hp × Nat) := (cutK (Lv.b (Lv.a (Lv.a (Lv.b (Lv.b (Lv.b (Lv.b (Lv.b (A 78))))))))).c (codeE P cal (codeF P cal m1) none 78 (cR (cR (cL (cL (cR (cR (cR (cR (cR code78))))))))) (Lv.b (Lv.b (Lv.a (Lv.a (Lv.b (Lv.b (Lv.b (Lv.b (Lv.b (A 78)))))))))) (K78_prrrrrl cal k m1) (K78_pxrrrrr cal k) (doneK P results78)))
noncomputable def K78_pxrrrrrllrl (cal : Cal) (k : Nat) (m1 : Nat) : XC (Value × Hp × Nat) := (upX 3 (K78_prrrrrllr cal k m1) (K78_pxrrrrr cal k))
noncomputable def K78_prrrrrllrll (cal : Cal) (k : Nat) (m1 : Nat) : KC (Value × Hp × Nat) := (cutK (Lv.a (Lv.a (Lv.b (Lv.a (Lv.a (Lv.b (Lv.b (Lv.b (Lv.b (Lv.b (A 78))))))))))).c (codeE P cal (codeF P cal m1) none 78 (cR (cL (cL (cR (cL (cL (cR (cR (cR (cR (cR code78))))))))))) (Lv.b (Lv.a (Lv.a (Lv.b (Lv.a (Lv.a (Lv.b (Lv.b (Lv.b (Lv.b (Lv.b (A 78)))))))))))) (K78_prrrrrllr cal k m1) (K78_pxrrrrrllrl cal k m1) (doneK P results78)))
noncomputable def E78_2 (cal : Cal) (k m1 : Nat) : KC (Value × Hp × Nat) := codeE P cal (codeF P cal m1) none 78 (cL (cL (cR (cR (cR (cR (cR code78))))))) (Lv.a (Lv.a (Lv.b (Lv.b (Lv.b (Lv.b (Lv.b (A 78)))))))) (K78_prrrrrl cal k m1) (K78_pxrrrrr cal k) (doneK P results78)
noncomputable def R78_2 (cal : Cal) (k m1 : Nat) : Value → Value → Value → Value → Value → Hp → Nat → Res := fun u0 u3 u8 u9 u12 H n => codeF P cal m1 (Lv.a (Lv.b (Lv.b (Lv.b (Lv.b (Lv.b (A 78))))))) none 78 (cL (cR (cR (cR (cR (cR code78)))))) (doneK P results78) (K78_pxrrrrr cal k) (doneK P results78) (Tr.set (Tr.set (Tr.set (Tr.set (Tr.set Tr.nil 12 (some u12)) 9 (some u9)) 8 (some u8)) 3 (some u3)) 0 (some u0)) H n []
noncomputable def E78_1 (cal : Cal) (k m1 : Nat) : KC (Value × Hp × Nat) := codeE P cal (codeF P cal m1) none 78 (cL (cL (cR (cL (cR (cR (cR code78))))))) (Lv.a (Lv.a (Lv.b (Lv.a (Lv.b (Lv.b (Lv.b (A 78)))))))) (K78_prrrlrl cal k m1) (K78_pxrrrlr cal k) (doneK P results78)
noncomputable def R78_1 (cal : Cal) (k m1 : Nat) : Value → Value → Value → Value → Value → Value → Hp → Nat → Res := fun u0 u3 u8 u9 u10 u11 H n => codeF P cal m1 (Lv.a (Lv.b (Lv.a (Lv.b (Lv.b (Lv.b (A 78))))))) none 78 (cL (cR (cL (cR (cR (cR code78)))))) (K78_prrr cal k) (K78_pxrrrlr cal k) (doneK P results78) (Tr.set (Tr.set (Tr.set (Tr.set (Tr.set (Tr.set Tr.nil 11 (some u11)) 10 (some u10)) 9 (some u9)) 8 (some u8)) 3 (some u3)) 0 (some u0)) H n []
noncomputable def B78_2 (cal : Cal) (k m1 : Nat) (b2 : Value → Value → Value → Value → Value → Hp → Nat → Res) (u0 u3 u8 u9 u12 : Value) (H : Hp) (n : Nat) : Res :=
binK P Go.BinOp.geq 3 (Go.Operand.tmp 32) (Go.Operand.const (Go.Value.int Go.IntKind.i64 0)) u12 (Go.Value.int Go.IntKind.i64 0) fun v33_29 =>
ifK v33_29 (
binK P Go.BinOp.add 3 (Go.Operand.tmp 39) (Go.Operand.tmp 40) u8 u12 fun v41_35 =>
binK P Go.BinOp.add 3 (Go.Operand.tmp 43) (Go.Operand.tmp 44) u8 u12 fun v45_39 =>
bindO (indexAddrV P 54 u0 v45_39) fun v46_40 =>
bindO (addrV v46_40) fun a_41 => bindO (loadV P H 50 a_41) fun v_42 =>
bindO (indexAddrV P 54 u0 u8) fun v50_45 =>
bindO (addrV v50_45) fun a_46 => bindO (loadV P H 50 a_46) fun v_47 =>
bindO (indexAddrV P 54 u0 u8) fun v52_48 =>
bindO (storeP P 50 v52_48 v_42 H) fun H_50 =>
bindO (indexAddrV P 54 u0 v41_35) fun v53_51 =>
bindO (storeP P 50 v53_51 v_47 H_50) fun H_53 =>
callFK P cal 90 [u0, u9, u12, u8, u3] H_53 n fun v59_59 H_60 n_61 =>
binK P Go.BinOp.sub 3 (Go.Operand.tmp 34) (Go.Operand.const (Go.Value.int Go.IntKind.i64 1)) u12 (Go.Value.int Go.IntKind.i64 1) fun v35_63 =>
b2 u0 u3 u8 u9 v35_63 H_60 n_61) (
some ((Value.tuple ⟨[]⟩), H, n))
noncomputable def C78_2 (cal : Cal) (k m1 : Nat) (b2 : Value → Value → Value → Value → Value → Hp → Nat → Res) (u0 u3 u8 u9 u12 : Value) (H : Hp) (n : Nat) : Res := B78_2 cal k m1 b2 u0 u3 u8 u9 u12 H n
noncomputable def S78_2 (cal : Cal) (k : Nat) : Nat → Value → Value → Value → Value → Value → Hp → Nat → Res := fun m => Nat.rec (motive := fun _ => Value → Value → Value → Value → Value → Hp → Nat → Res) (C78_2 cal k 0 (fun _ _ _ _ _ _ _ => none)) (fun m ih => C78_2 cal k (m + 1) ih) m
theorem h78_2 (cal : Cal) (k m1 : Nat) (u0 u3 u8 u9 u12 : Value) (H : Hp) (n : Nat) : labK (E78_2 cal k m1) (Tr.set (Tr.set (Tr.set (Tr.set (Tr.set Tr.nil 12 (some u12)) 9 (some u9)) 8 (some u8)) 3 (some u3)) 0 (some u0)) H n [] = C78_2 cal k m1 (R78_2 cal k m1) u0 u3 u8 u9 u12 H n := by
  have h : labK (E78_2 cal k m1) (Tr.set (Tr.set (Tr.set (Tr.set (Tr.set Tr.nil 12 (some u12)) 9 (some u9)) 8 (some u8)) 3 (some u3)) 0 (some u0)) H n [] = B78_2 cal k m1 (R78_2 cal k m1) u0 u3 u8 u9 u12 H n := by kernel_rfl
  rw [h, C78_2]
theorem q78_2 (cal : Cal) (k : Nat) : ∀ (m : Nat) (u0 u3 u8 u9 u12 : Value) (H : Hp) (n : Nat), labK (E78_2 cal k m) (Tr.set (Tr.set (Tr.set (Tr.set (Tr.set Tr.nil 12 (some u12)) 9 (some u9)) 8 (some u8)) 3 (some u3)) 0 (some u0)) H n [] = S78_2 cal k m u0 u3 u8 u9 u12 H n
  | 0, u0, u3, u8, u9, u12, H, n => by
    rw [h78_2]
    have e : R78_2 cal k 0 = fun _ _ _ _ _ _ _ => none := by funext u0 u3 u8 u9 u12 H n; kernel_rfl
    rw [e]; rfl
  | m + 1, u0, u3, u8, u9, u12, H, n => by
    rw [h78_2]
    have e : R78_2 cal k (m + 1) = S78_2 cal k m := by
      funext u0 u3 u8 u9 u12 H n
      have e : R78_2 cal k (m + 1) u0 u3 u8 u9 u12 H n = labK (E78_2 cal k m) (Tr.set (Tr.set (Tr.set (Tr.set (Tr.set Tr.nil 12 (some u12)) 9 (some u9)) 8 (some u8)) 3 (some u3)) 0 (some u0)) H n [] := by kernel_rfl
      rw [e]; exact q78_2 ..
    rw [e]; rfl
noncomputable def B78_1 (cal : Cal) (k m1 : Nat) (j2 : Value → Value → Value → Value → Value → Hp → Nat → Res) (b1 : Value → Value → Value → Value → Value → Value → Hp → Nat → Res) (u0 u3 u8 u9 u10 u11 : Value) (H : Hp) (n : Nat) : Res :=
binK P Go.BinOp.geq 3 (Go.Operand.tmp 20) (Go.Operand.const (Go.Value.int Go.IntKind.i64 0)) u11 (Go.Value.int Go.IntKind.i64 0) fun v21_13 =>
ifK v21_13 (
callFK P cal 90 [u0, u11, u10, u8, u3] H n fun v29_19 H_20 n_21 =>
binK P Go.BinOp.sub 3 (Go.Operand.tmp 22) (Go.Operand.const (Go.Value.int Go.IntKind.i64 1)) u11 (Go.Value.int Go.IntKind.i64 1) fun v23_23 =>
b1 u0 u3 u8 u9 u10 v23_23 H_20 n_21) (
binK P Go.BinOp.sub 3 (Go.Operand.tmp 30) (Go.Operand.const (Go.Value.int Go.IntKind.i64 1)) u10 (Go.Value.int Go.IntKind.i64 1) fun v31_26 =>
j2 u0 u3 u8 u9 v31_26 H n)
noncomputable def C78_1 (cal : Cal) (k m1 : Nat) (b1 : Value → Value → Value → Value → Value → Value → Hp → Nat → Res) (u0 u3 u8 u9 u10 u11 : Value) (H : Hp) (n : Nat) : Res := B78_1 cal k m1 (S78_2 cal k k) b1 u0 u3 u8 u9 u10 u11 H n
noncomputable def S78_1 (cal : Cal) (k : Nat) : Nat → Value → Value → Value → Value → Value → Value → Hp → Nat → Res := fun m => Nat.rec (motive := fun _ => Value → Value → Value → Value → Value → Value → Hp → Nat → Res) (C78_1 cal k 0 (fun _ _ _ _ _ _ _ _ => none)) (fun m ih => C78_1 cal k (m + 1) ih) m
theorem h78_1 (cal : Cal) (k m1 : Nat) (u0 u3 u8 u9 u10 u11 : Value) (H : Hp) (n : Nat) : labK (E78_1 cal k m1) (Tr.set (Tr.set (Tr.set (Tr.set (Tr.set (Tr.set Tr.nil 11 (some u11)) 10 (some u10)) 9 (some u9)) 8 (some u8)) 3 (some u3)) 0 (some u0)) H n [] = C78_1 cal k m1 (R78_1 cal k m1) u0 u3 u8 u9 u10 u11 H n := by
  have h : labK (E78_1 cal k m1) (Tr.set (Tr.set (Tr.set (Tr.set (Tr.set (Tr.set Tr.nil 11 (some u11)) 10 (some u10)) 9 (some u9)) 8 (some u8)) 3 (some u3)) 0 (some u0)) H n [] = B78_1 cal k m1 (fun u0 u3 u8 u9 u12 H n => labK (E78_2 cal k k) (Tr.set (Tr.set (Tr.set (Tr.set (Tr.set Tr.nil 12 (some u12)) 9 (some u9)) 8 (some u8)) 3 (some u3)) 0 (some u0)) H n []) (R78_1 cal k m1) u0 u3 u8 u9 u10 u11 H n := by kernel_rfl
  rw [h, C78_1]
  have e2 : (fun u0 u3 u8 u9 u12 H n => labK (E78_2 cal k k) (Tr.set (Tr.set (Tr.set (Tr.set (Tr.set Tr.nil 12 (some u12)) 9 (some u9)) 8 (some u8)) 3 (some u3)) 0 (some u0)) H n []) = (S78_2 cal k k) := by funext u0 u3 u8 u9 u12 H n; exact q78_2 ..
  rw [e2]
theorem q78_1 (cal : Cal) (k : Nat) : ∀ (m : Nat) (u0 u3 u8 u9 u10 u11 : Value) (H : Hp) (n : Nat), labK (E78_1 cal k m) (Tr.set (Tr.set (Tr.set (Tr.set (Tr.set (Tr.set Tr.nil 11 (some u11)) 10 (some u10)) 9 (some u9)) 8 (some u8)) 3 (some u3)) 0 (some u0)) H n [] = S78_1 cal k m u0 u3 u8 u9 u10 u11 H n
  | 0, u0, u3, u8, u9, u10, u11, H, n => by
    rw [h78_1]
    have e : R78_1 cal k 0 = fun _ _ _ _ _ _ _ _ => none := by funext u0 u3 u8 u9 u10 u11 H n; kernel_rfl
    rw [e]; rfl
  | m + 1, u0, u3, u8, u9, u10, u11, H, n => by
    rw [h78_1]
    have e : R78_1 cal k (m + 1) = S78_1 cal k m := by
      funext u0 u3 u8 u9 u10 u11 H n
      have e : R78_1 cal k (m + 1) u0 u3 u8 u9 u10 u11 H n = labK (E78_1 cal k m) (Tr.set (Tr.set (Tr.set (Tr.set (Tr.set (Tr.set Tr.nil 11 (some u11)) 10 (some u10)) 9 (some u9)) 8 (some u8)) 3 (some u3)) 0 (some u0)) H n [] := by kernel_rfl
      rw [e]; exact q78_1 ..
    rw [e]; rfl
noncomputable def B78_0 (cal : Cal) (k : Nat) (j1 : Value → Value → Value → Value → Value → Value → Hp → Nat → Res) (v0 v1 v2 v3 : Value) (H : Hp) (n : Nat) : Res :=
binK P Go.BinOp.sub 3 (Go.Operand.tmp 14) (Go.Operand.tmp 15) v2 v1 fun v16_6 =>
binK P Go.BinOp.sub 3 (Go.Operand.tmp 17) (Go.Operand.const (Go.Value.int Go.IntKind.i64 1)) v16_6 (Go.Value.int Go.IntKind.i64 1) fun v18_9 =>
binK P Go.BinOp.quo 3 (Go.Operand.tmp 18) (Go.Operand.const (Go.Value.int Go.IntKind.i64 2)) v18_9 (Go.Value.int Go.IntKind.i64 2) fun v19_10 =>
j1 v0 v3 v1 (Go.Value.int Go.IntKind.i64 0) v16_6 v19_10 H n
noncomputable def C78_0 (cal : Cal) (k : Nat) (v0 v1 v2 v3 : Value) (H : Hp) (n : Nat) : Res := B78_0 cal k (S78_1 cal k k) v0 v1 v2 v3 H n
theorem h78_0 (cal : Cal) (k : Nat) (v0 v1 v2 v3 : Value) (H : Hp) (n : Nat) : bodyE P cal A (k + 1) 78 [v0, v1, v2, v3] H n = C78_0 cal k v0 v1 v2 v3 H n := by
  have h : bodyE P cal A (k + 1) 78 [v0, v1, v2, v3] H n = B78_0 cal k (fun u0 u3 u8 u9 u10 u11 H n => labK (E78_1 cal k k) (Tr.set (Tr.set (Tr.set (Tr.set (Tr.set (Tr.set Tr.nil 11 (some u11)) 10 (some u10)) 9 (some u9)) 8 (some u8)) 3 (some u3)) 0 (some u0)) H n []) v0 v1 v2 v3 H n := by
    rw [body_eq (fn := Go.Proofs.Try.f78) (c := code78) (rs := results78) (by kernel_rfl) (by kernel_rfl) (by kernel_rfl) (by kernel_rfl)]
    kernel_rfl
  rw [h, C78_0]
  have e1 : (fun u0 u3 u8 u9 u10 u11 H n => labK (E78_1 cal k k) (Tr.set (Tr.set (Tr.set (Tr.set (Tr.set (Tr.set Tr.nil 11 (some u11)) 10 (some u10)) 9 (some u9)) 8 (some u8)) 3 (some u3)) 0 (some u0)) H n []) = (S78_1 cal k k) := by funext u0 u3 u8 u9 u10 u11 H n; exact q78_1 ..
  rw [e1]
end Go.Proofs.Ytakjjillnllocab.P
