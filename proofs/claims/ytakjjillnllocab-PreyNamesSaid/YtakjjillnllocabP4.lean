/- The texts of functions, each with the proof that the evaluator says the same. -/
import Derived.Test.YtakjjillnllocabP1
open Go Go.Ev
set_option maxRecDepth 1000000
set_option linter.unusedVariables false
noncomputable section
namespace Go.Proofs.Ytakjjillnllocab.P
noncomputable def code26 : Code := codeOf 26
noncomputable def results26 : List ResultVar := resOf 26
noncomputable def K26_p (cal : Cal) (k : Nat) : KC (Value × Hp × Nat) := (cutK (A 26).c (codeE P cal (codeF P cal k) none 26 (cR code26) (Lv.b (A 26)) (doneK P results26) X0 (doneK P results26)))
noncomputable def K26_pr (cal : Cal) (k : Nat) : KC (Value × Hp × Nat) := (cutK (Lv.b (A 26)).c (codeE P cal (codeF P cal k) none 26 (cR (cR code26)) (Lv.b (Lv.b (A 26))) (doneK P results26) X0 (doneK P results26)))
noncomputable def K26_prr (cal : Cal) (k : Nat) : KC (Value × Hp × Nat) := (cutK (Lv.b (Lv.b (A 26))).c (codeE P cal (codeF P cal k) none 26 (cR (cR (cR code26))) (Lv.b (Lv.b (Lv.b (A 26)))) (doneK P results26) X0 (doneK P results26)))
noncomputable def K26_prrl (cal : Cal) (k : Nat) : KC (Value × Hp × Nat) := (cutK (Lv.a (Lv.b (Lv.b (A 26)))).c (codeE P cal (codeF P cal k) none 26 (cR (cL (cR (cR code26)))) (Lv.b (Lv.a (Lv.b (Lv.b (A 26))))) (K26_prr cal k) X0 (doneK P results26)))
noncomputable def K26_pxrrlr (cal : Cal) (k : Nat) : XC (Value × Hp × Nat) := (upX 0 (K26_prr cal k) X0)
noncomputable def K26_prrlrl (cal : Cal) (k : Nat) (m1 : Nat) : KC (Value × Hp × Nat) := (fun T H n D => codeF P cal m1 (Lv.a (Lv.b (Lv.a (Lv.b (Lv.b (A 26)))))) none 26 (cL (cR (cL (cR (cR code26))))) (K26_prr cal k) (K26_pxrrlr cal k) (doneK P results26) (cutT (Lv.a (Lv.b (Lv.a (Lv.b (Lv.b (A 26)))))).c T) H n D)
noncomputable def K26_prrlrll (cal : Cal) (k : Nat) (m1 : Nat) : KC (Value × Hp × Nat) := (cutK (Lv.a (Lv.a (Lv.b (Lv.a (Lv.b (Lv.b (A 26))))))).c (codeE P cal (codeF P cal m1) none 26 (cR (cL (cL (cR (cL (cR (cR code26))))))) (Lv.b (Lv.a (Lv.a (Lv.b (Lv.a (Lv.b (Lv.b (A 26)))))))) (K26_prrlrl cal k m1) (K26_pxrrlr cal k) (doneK P results26)))
noncomputable def K26_prrlrllr (cal : Cal) (k : Nat) (m1 : Nat) : KC (Value × Hp × Nat) := (cutK (Lv.b (Lv.a (Lv.a (Lv.b (Lv.a (Lv.b (Lv.b (A 26)))))))).c (codeE P cal (codeF P cal m1) none 26 (cR (cR (cL (cL (cR (cL (cR (cR code26)))))))) (Lv.b (Lv.b (Lv.a (Lv.a (Lv.b (Lv.a (Lv.b (Lv.b (A 26))))))))) (K26_prrlrl cal k m1) (K26_pxrrlr cal k) (doneK P results26)))
noncomputable def K26_prrlrllrr (cal : Cal) (k : Nat) (m1 : Nat) : KC (Value × Hp × Nat) := (cutK (Lv.b (Lv.b (Lv.a (Lv.a (Lv.b (Lv.a (Lv.b (Lv.b (A 26))))))))).c (codeE P cal (codeF P cal m1) none 26 (cR (cR (cR (cL (cL (cR (cL (cR (cR code26))))))))) (Lv.b (Lv.b (Lv.b (Lv.a (Lv.a (Lv.b (Lv.a (Lv.b (Lv.b (A 26)))))))))) (K26_prrlrl cal k m1) (K26_pxrrlr cal k) (doneK P results26)))
noncomputable def K26_pxrrlrllrrl (cal : Cal) (k : Nat) (m1 : Nat) : XC (Value × Hp × Nat) := (upX 1 (K26_prrlrllrr cal k m1) (K26_pxrrlr cal k))
noncomputable def K26_prrlrllrrll (cal : Cal) (k : Nat) (m1 : Nat) : KC (Value × Hp × Nat) := (cutK (Lv.a (Lv.a (Lv.b (Lv.b (Lv.a (Lv.a (Lv.b (Lv.a (Lv.b (Lv.b (A 26))))))))))).c (codeE P cal (codeF P cal m1) none 26 (cR (cL (cL (cR (cR (cL (cL (cR (cL (cR (cR code26))))))))))) (Lv.b (Lv.a (Lv.a (Lv.b (Lv.b (Lv.a (Lv.a (Lv.b (Lv.a (Lv.b (Lv.b (A 26)))))))))))) (K26_prrlrllrr cal k m1) (K26_pxrrlrllrrl cal k m1) (doneK P results26)))
noncomputable def K26_prrr (cal : Cal) (k : Nat) : KC (Value × Hp × Nat) := (cutK (Lv.b (Lv.b (Lv.b (A 26)))).c (codeE P cal (codeF P cal k) none 26 (cR (cR (cR (cR code26)))) (Lv.b (Lv.b (Lv.b (Lv.b (A 26))))) (doneK P results26) X0 (doneK P results26)))
noncomputable def E26_1 (cal : Cal) (k m1 : Nat) : KC (Value × Hp × Nat) := codeE P cal (codeF P cal m1) none 26 (cL (cL (cR (cL (cR (cR code26)))))) (Lv.a (Lv.a (Lv.b (Lv.a (Lv.b (Lv.b (A 26))))))) (K26_prrlrl cal k m1) (K26_pxrrlr cal k) (doneK P results26)
noncomputable def R26_1 (cal : Cal) (k m1 : Nat) : Value → Value → Value → Value → Value → Hp → Nat → Res := fun u0 u5 u15 u16 u17 H n => codeF P cal m1 (Lv.a (Lv.b (Lv.a (Lv.b (Lv.b (A 26)))))) none 26 (cL (cR (cL (cR (cR code26))))) (K26_prr cal k) (K26_pxrrlr cal k) (doneK P results26) (Tr.set (Tr.set (Tr.set (Tr.set (Tr.set Tr.nil 17 (some u17)) 16 (some u16)) 15 (some u15)) 5 (some u5)) 0 (some u0)) H n []
noncomputable def B26_1 (cal : Cal) (k m1 : Nat) (b1 : Value → Value → Value → Value → Value → Hp → Nat → Res) (u0 u5 u15 u16 u17 : Value) (H : Hp) (n : Nat) : Res :=
binK P Go.BinOp.lss 3 (Go.Operand.tmp 17) (Go.Operand.tmp 16) u17 u16 fun v18_18 =>
ifK v18_18 (
bindO (indexAddrV P 54 u15 u17) fun v20_20 =>
bindO (addrV v20_20) fun a_22 => bindO (loadV P H 50 a_22) fun v21_21 =>
bindO (indexAddrV P 54 u5 u17) fun v26_29 =>
bindO (addrV v26_29) fun a_31 => bindO (loadV P H 50 a_31) fun v27_30 =>
callFK P cal 34 [u0, v27_30] H n fun v28_32 H_33 n_34 =>
callFK P cal 35 [v28_32, v21_21] H_33 n_34 fun v30_36 H_37 n_38 =>
rowK P 54 1 [(0, v30_36)] H_37 n_38 fun v31_39 H_40 n_41 =>
stK (appendV P (bare H_40 n_41) 54 54 u5 v31_39) fun v32_42 H_43 n_44 =>
binK P Go.BinOp.add 3 (Go.Operand.tmp 17) (Go.Operand.const (Go.Value.int Go.IntKind.i64 1)) u17 (Go.Value.int Go.IntKind.i64 1) fun v33_46 =>
b1 u0 v32_42 u15 u16 v33_46 H_43 n_44) (
some (u5, H, n))
noncomputable def C26_1 (cal : Cal) (k m1 : Nat) (b1 : Value → Value → Value → Value → Value → Hp → Nat → Res) (u0 u5 u15 u16 u17 : Value) (H : Hp) (n : Nat) : Res := B26_1 cal k m1 b1 u0 u5 u15 u16 u17 H n
noncomputable def S26_1 (cal : Cal) (k : Nat) : Nat → Value → Value → Value → Value → Value → Hp → Nat → Res := fun m => Nat.rec (motive := fun _ => Value → Value → Value → Value → Value → Hp → Nat → Res) (C26_1 cal k 0 (fun _ _ _ _ _ _ _ => none)) (fun m ih => C26_1 cal k (m + 1) ih) m
theorem h26_1 (cal : Cal) (k m1 : Nat) (u0 u5 u15 u16 u17 : Value) (H : Hp) (n : Nat) : labK (E26_1 cal k m1) (Tr.set (Tr.set (Tr.set (Tr.set (Tr.set Tr.nil 17 (some u17)) 16 (some u16)) 15 (some u15)) 5 (some u5)) 0 (some u0)) H n [] = C26_1 cal k m1 (R26_1 cal k m1) u0 u5 u15 u16 u17 H n := by
  have h : labK (E26_1 cal k m1) (Tr.set (Tr.set (Tr.set (Tr.set (Tr.set Tr.nil 17 (some u17)) 16 (some u16)) 15 (some u15)) 5 (some u5)) 0 (some u0)) H n [] = B26_1 cal k m1 (R26_1 cal k m1) u0 u5 u15 u16 u17 H n := by kernel_rfl
  rw [h, C26_1]
theorem q26_1 (cal : Cal) (k : Nat) : ∀ (m : Nat) (u0 u5 u15 u16 u17 : Value) (H : Hp) (n : Nat), labK (E26_1 cal k m) (Tr.set (Tr.set (Tr.set (Tr.set (Tr.set Tr.nil 17 (some u17)) 16 (some u16)) 15 (some u15)) 5 (some u5)) 0 (some u0)) H n [] = S26_1 cal k m u0 u5 u15 u16 u17 H n
  | 0, u0, u5, u15, u16, u17, H, n => by
    rw [h26_1]
    have e : R26_1 cal k 0 = fun _ _ _ _ _ _ _ => none := by funext u0 u5 u15 u16 u17 H n; kernel_rfl
    rw [e]; rfl
  | m + 1, u0, u5, u15, u16, u17, H, n => by
    rw [h26_1]
    have e : R26_1 cal k (m + 1) = S26_1 cal k m := by
      funext u0 u5 u15 u16 u17 H n
      have e : R26_1 cal k (m + 1) u0 u5 u15 u16 u17 H n = labK (E26_1 cal k m) (Tr.set (Tr.set (Tr.set (Tr.set (Tr.set Tr.nil 17 (some u17)) 16 (some u16)) 15 (some u15)) 5 (some u5)) 0 (some u0)) H n [] := by kernel_rfl
      rw [e]; exact q26_1 ..
    rw [e]; rfl
noncomputable def B26_0 (cal : Cal) (k : Nat) (j1 : Value → Value → Value → Value → Value → Hp → Nat → Res) (v0 v1 : Value) (H : Hp) (n : Nat) : Res :=
bindO (nilV v0) fun v9_3 =>
bindO (fieldAddrV P 53 v9_3 0) fun v10_4 =>
bindO (fieldAddrV P 33 v10_4 1) fun v11_5 =>
bindO (addrV v11_5) fun a_7 => bindO (loadV P H 31 a_7) fun v12_6 =>
callFK P cal 29 [v12_6] H n fun v13_8 H_9 n_10 =>
rowK P 54 1 [(0, v13_8)] H_9 n_10 fun v14_11 H_12 n_13 =>
bindO (lenV P 54 v1) fun v16_16 =>
j1 v0 v14_11 v1 v16_16 (Go.Value.int Go.IntKind.i64 0) H_12 n_13
noncomputable def C26_0 (cal : Cal) (k : Nat) (v0 v1 : Value) (H : Hp) (n : Nat) : Res := B26_0 cal k (S26_1 cal k k) v0 v1 H n
theorem h26_0 (cal : Cal) (k : Nat) (v0 v1 : Value) (H : Hp) (n : Nat) : bodyE P cal A (k + 1) 26 [v0, v1] H n = C26_0 cal k v0 v1 H n := by
  have h : bodyE P cal A (k + 1) 26 [v0, v1] H n = B26_0 cal k (fun u0 u5 u15 u16 u17 H n => labK (E26_1 cal k k) (Tr.set (Tr.set (Tr.set (Tr.set (Tr.set Tr.nil 17 (some u17)) 16 (some u16)) 15 (some u15)) 5 (some u5)) 0 (some u0)) H n []) v0 v1 H n := by
    rw [body_eq (fn := Go.Proofs.Try.f26) (c := code26) (rs := results26) (by kernel_rfl) (by kernel_rfl) (by kernel_rfl) (by kernel_rfl)]
    kernel_rfl
  rw [h, C26_0]
  have e1 : (fun u0 u5 u15 u16 u17 H n => labK (E26_1 cal k k) (Tr.set (Tr.set (Tr.set (Tr.set (Tr.set Tr.nil 17 (some u17)) 16 (some u16)) 15 (some u15)) 5 (some u5)) 0 (some u0)) H n []) = (S26_1 cal k k) := by funext u0 u5 u15 u16 u17 H n; exact q26_1 ..
  rw [e1]
noncomputable def code27 : Code := codeOf 27
noncomputable def results27 : List ResultVar := resOf 27
noncomputable def K27_p (cal : Cal) (k : Nat) : KC (Value × Hp × Nat) := (cutK (A 27).c (codeE P cal (codeF P cal k) none 27 (cR code27) (Lv.b (A 27)) (doneK P results27) X0 (doneK P results27)))
noncomputable def K27_pr (cal : Cal) (k : Nat) : KC (Value × Hp × Nat) := (cutK (Lv.b (A 27)).c (codeE P cal (codeF P cal k) none 27 (cR (cR code27)) (Lv.b (Lv.b (A 27))) (doneK P results27) X0 (doneK P results27)))
noncomputable def K27_prl (cal : Cal) (k : Nat) : KC (Value × Hp × Nat) := (cutK (Lv.a (Lv.b (A 27))).c (codeE P cal (codeF P cal k) none 27 (cR (cL (cR code27))) (Lv.b (Lv.a (Lv.b (A 27)))) (K27_pr cal k) X0 (doneK P results27)))
noncomputable def K27_prlr (cal : Cal) (k : Nat) : KC (Value × Hp × Nat) := (cutK (Lv.b (Lv.a (Lv.b (A 27)))).c (codeE P cal (codeF P cal k) none 27 (cR (cR (cL (cR code27)))) (Lv.b (Lv.b (Lv.a (Lv.b (A 27))))) (K27_pr cal k) X0 (doneK P results27)))
noncomputable def K27_prlrrl (cal : Cal) (k : Nat) : KC (Value × Hp × Nat) := (cutK (Lv.a (Lv.b (Lv.b (Lv.a (Lv.b (A 27)))))).c (codeE P cal (codeF P cal k) none 27 (cR (cL (cR (cR (cL (cR code27)))))) (Lv.b (Lv.a (Lv.b (Lv.b (Lv.a (Lv.b (A 27))))))) (K27_pr cal k) X0 (doneK P results27)))
noncomputable def K27_prr (cal : Cal) (k : Nat) : KC (Value × Hp × Nat) := (cutK (Lv.b (Lv.b (A 27))).c (codeE P cal (codeF P cal k) none 27 (cR (cR (cR code27))) (Lv.b (Lv.b (Lv.b (A 27)))) (doneK P results27) X0 (doneK P results27)))
noncomputable def K27_prrl (cal : Cal) (k : Nat) : KC (Value × Hp × Nat) := (cutK (Lv.a (Lv.b (Lv.b (A 27)))).c (codeE P cal (codeF P cal k) none 27 (cR (cL (cR (cR code27)))) (Lv.b (Lv.a (Lv.b (Lv.b (A 27))))) (K27_prr cal k) X0 (doneK P results27)))
noncomputable def K27_prrlrl (cal : Cal) (k : Nat) : KC (Value × Hp × Nat) := (cutK (Lv.a (Lv.b (Lv.a (Lv.b (Lv.b (A 27)))))).c (codeE P cal (codeF P cal k) none 27 (cR (cL (cR (cL (cR (cR code27)))))) (Lv.b (Lv.a (Lv.b (Lv.a (Lv.b (Lv.b (A 27))))))) (K27_prr cal k) X0 (doneK P results27)))
noncomputable def K27_prrr (cal : Cal) (k : Nat) : KC (Value × Hp × Nat) := (cutK (Lv.b (Lv.b (Lv.b (A 27)))).c (codeE P cal (codeF P cal k) none 27 (cR (cR (cR (cR code27)))) (Lv.b (Lv.b (Lv.b (Lv.b (A 27))))) (doneK P results27) X0 (doneK P results27)))
noncomputable def B27_0 (cal : Cal) (k : Nat) (v0 : Value) (H : Hp) (n : Nat) : Res :=
boxK 33 v0 H n fun v1_1 H_2 n_3 =>
bindO (fieldAddrV P 33 v1_1 0) fun v4_5 =>
bindO (addrV v4_5) fun a_7 => bindO (loadV P H_2 30 a_7) fun v5_6 =>
callFK P cal 48 [v5_6] H_2 n_3 fun v6_8 H_9 n_10 =>
binK P Go.BinOp.neq 23 (Go.Operand.tmp 7) (Go.Operand.const (Go.Value.int Go.IntKind.i64 0)) v6_8 (Go.Value.int Go.IntKind.i64 0) fun v8_13 =>
ifK v8_13 (
some (v6_8, H_9, n_10)) (
bindO (addrV v1_1) fun a_17 => bindO (loadV P H_9 33 a_17) fun v10_16 =>
bindO (fieldAddrV P 33 v1_1 1) fun v11_18 =>
bindO (addrV v11_18) fun a_20 => bindO (loadV P H_9 31 a_20) fun v12_19 =>
callFK P cal 38 [v10_16, v12_19] H_9 n_10 fun v13_21 H_22 n_23 =>
bindO (pureSem P v13_21 (Op.unary Go.UnOp.not v13_21)) fun v14_24 =>
guardK v14_24 false (fun k_26 =>
bindO (fieldAddrV P 33 v1_1 2) fun v16_30 =>
k_26 v16_30 H_22 n_23) H_22 n_23 fun v_27 H_28 n_29 =>
guardK v14_24 false (fun k_31 =>
bindO (addrV v_27) fun a_36 => bindO (loadV P H_28 31 a_36) fun v17_35 =>
k_31 v17_35 H_28 n_29) H_28 n_29 fun v_32 H_33 n_34 =>
guardK v14_24 false (fun k_37 =>
bindO (lenV P 31 v_32) fun v18_41 =>
k_37 v18_41 H_33 n_34) H_33 n_34 fun v_38 H_39 n_40 =>
guardK v14_24 false (fun k_42 =>
bindO (fieldAddrV P 33 v1_1 0) fun v19_46 =>
k_42 v19_46 H_39 n_40) H_39 n_40 fun v_43 H_44 n_45 =>
guardK v14_24 false (fun k_47 =>
bindO (fieldAddrV P 30 v_43 0) fun v20_51 =>
k_47 v20_51 H_44 n_45) H_44 n_45 fun v_48 H_49 n_50 =>
guardK v14_24 false (fun k_52 =>
bindO (addrV v_48) fun a_57 => bindO (loadV P H_49 26 a_57) fun v21_56 =>
k_52 v21_56 H_49 n_50) H_49 n_50 fun v_53 H_54 n_55 =>
guardK v14_24 false (fun k_58 =>
bindO (lenV P 26 v_53) fun v22_62 =>
k_58 v22_62 H_54 n_55) H_54 n_55 fun v_59 H_60 n_61 =>
guardK v14_24 false (fun k_63 =>
binK P Go.BinOp.neq 3 (Go.Operand.tmp 18) (Go.Operand.tmp 22) v_38 v_59 fun v23_67 =>
k_63 v23_67 H_60 n_61) H_60 n_61 fun v_64 H_65 n_66 =>
bindO (pickV v14_24 (Go.Value.bool true) v_64) fun v24_68 =>
guardK v24_68 false (fun k_70 =>
bindO (fieldAddrV P 33 v1_1 2) fun v26_74 =>
k_70 v26_74 H_65 n_66) H_65 n_66 fun v_71 H_72 n_73 =>
guardK v24_68 false (fun k_75 =>
bindO (addrV v_71) fun a_80 => bindO (loadV P H_72 31 a_80) fun v27_79 =>
k_75 v27_79 H_72 n_73) H_72 n_73 fun v_76 H_77 n_78 =>
guardK v24_68 false (fun k_81 =>
callFK P cal 49 [v_76, (Value.func (.func 50) #[] #[])] H_77 n_78 fun v28_85 H_86 n_87 =>
k_81 v28_85 H_86 n_87) H_77 n_78 fun v_82 H_83 n_84 =>
guardK v24_68 false (fun k_88 =>
bindO (pureSem P v_82 (Op.unary Go.UnOp.not v_82)) fun v29_92 =>
k_88 v29_92 H_83 n_84) H_83 n_84 fun v_89 H_90 n_91 =>
bindO (pickV v24_68 (Go.Value.bool true) v_89) fun v30_93 =>
ifK v30_93 (
some ((Go.Value.int Go.IntKind.i64 1), H_90, n_91)) (
some ((Go.Value.int Go.IntKind.i64 0), H_90, n_91)))
noncomputable def C27_0 (cal : Cal) (k : Nat) (v0 : Value) (H : Hp) (n : Nat) : Res := B27_0 cal k v0 H n
theorem h27_0 (cal : Cal) (k : Nat) (v0 : Value) (H : Hp) (n : Nat) : bodyE P cal A (k + 1) 27 [v0] H n = C27_0 cal k v0 H n := by
  have h : bodyE P cal A (k + 1) 27 [v0] H n = B27_0 cal k v0 H n := by
    rw [body_eq (fn := Go.Proofs.Try.f27) (c := code27) (rs := results27) (by kernel_rfl) (by kernel_rfl) (by kernel_rfl) (by kernel_rfl)]
    kernel_rfl
  rw [h, C27_0]
noncomputable def code28 : Code := codeOf 28
noncomputable def results28 : List ResultVar := resOf 28
noncomputable def K28_p (cal : Cal) (k : Nat) : KC (Value × Hp × Nat) := (cutK (A 28).c (codeE P cal (codeF P cal k) none 28 (cR code28) (Lv.b (A 28)) (doneK P results28) X0 (doneK P results28)))
noncomputable def K28_pr (cal : Cal) (k : Nat) : KC (Value × Hp × Nat) := (cutK (Lv.b (A 28)).c (codeE P cal (codeF P cal k) none 28 (cR (cR code28)) (Lv.b (Lv.b (A 28))) (doneK P results28) X0 (doneK P results28)))
noncomputable def K28_prr (cal : Cal) (k : Nat) : KC (Value × Hp × Nat) := (cutK (Lv.b (Lv.b (A 28))).c (codeE P cal (codeF P cal k) none 28 (cR (cR (cR code28))) (Lv.b (Lv.b (Lv.b (A 28)))) (doneK P results28) X0 (doneK P results28)))
noncomputable def K28_prrl (cal : Cal) (k : Nat) : KC (Value × Hp × Nat) := (cutK (Lv.a (Lv.b (Lv.b (A 28)))).c (codeE P cal (codeF P cal k) none 28 (cR (cL (cR (cR code28)))) (Lv.b (Lv.a (Lv.b (Lv.b (A 28))))) (K28_prr cal k) X0 (doneK P results28)))
noncomputable def K28_prrlrl (cal : Cal) (k : Nat) : KC (Value × Hp × Nat) := (cutK (Lv.a (Lv.b (Lv.a (Lv.b (Lv.b (A 28)))))).c (codeE P cal (codeF P cal k) none 28 (cR (cL (cR (cL (cR (cR code28)))))) (Lv.b (Lv.a (Lv.b (Lv.a (Lv.b (Lv.b (A 28))))))) (K28_prr cal k) X0 (doneK P results28)))
noncomputable def K28_prrr (cal : Cal) (k : Nat) : KC (Value × Hp × Nat) := (cutK (Lv.b (Lv.b (Lv.b (A 28)))).c (codeE P cal (codeF P cal k) none 28 (cR (cR (cR (cR code28)))) (Lv.b (Lv.b (Lv.b (Lv.b (A 28))))) (doneK P results28) X0 (doneK P results28)))
noncomputable def B28_0 (cal : Cal) (k : Nat) (v0 : Value) (H : Hp) (n : Nat) : Res :=
boxK 33 v0 H n fun v1_1 H_2 n_3 =>
bindO (addrV v1_1) fun a_7 => bindO (loadV P H_2 33 a_7) fun v7_6 =>
callFK P cal 15 [v7_6] H_2 n_3 fun v8_8 H_9 n_10 =>
bindO (tupV v8_8 0) fun v9_12 =>
bindO (tupV v8_8 1) fun v10_13 =>
binK P Go.BinOp.neq 23 (Go.Operand.tmp 11) (Go.Operand.const (Go.Value.int Go.IntKind.i64 0)) v10_13 (Go.Value.int Go.IntKind.i64 0) fun v12_17 =>
ifK v12_17 (
some ((Value.tuple ⟨[(Go.Value.int Go.IntKind.i64 0), v10_13]⟩), H_9, n_10)) (
callFK P cal 51 [v9_12] H_9 n_10 fun v15_22 H_23 n_24 =>
some ((Value.tuple ⟨[v15_22, (Go.Value.int Go.IntKind.i64 0)]⟩), H_23, n_24))
noncomputable def C28_0 (cal : Cal) (k : Nat) (v0 : Value) (H : Hp) (n : Nat) : Res := B28_0 cal k v0 H n
theorem h28_0 (cal : Cal) (k : Nat) (v0 : Value) (H : Hp) (n : Nat) : bodyE P cal A (k + 1) 28 [v0] H n = C28_0 cal k v0 H n := by
  have h : bodyE P cal A (k + 1) 28 [v0] H n = B28_0 cal k v0 H n := by
    rw [body_eq (fn := Go.Proofs.Try.f28) (c := code28) (rs := results28) (by kernel_rfl) (by kernel_rfl) (by kernel_rfl) (by kernel_rfl)]
    kernel_rfl
  rw [h, C28_0]
noncomputable def code29 : Code := codeOf 29
noncomputable def results29 : List ResultVar := resOf 29
noncomputable def K29_p (cal : Cal) (k : Nat) : KC (Value × Hp × Nat) := (cutK (A 29).c (codeE P cal (codeF P cal k) none 29 (cR code29) (Lv.b (A 29)) (doneK P results29) X0 (doneK P results29)))
noncomputable def K29_pr (cal : Cal) (k : Nat) : KC (Value × Hp × Nat) := (cutK (Lv.b (A 29)).c (codeE P cal (codeF P cal k) none 29 (cR (cR code29)) (Lv.b (Lv.b (A 29))) (doneK P results29) X0 (doneK P results29)))
noncomputable def K29_prr (cal : Cal) (k : Nat) : KC (Value × Hp × Nat) := (cutK (Lv.b (Lv.b (A 29))).c (codeE P cal (codeF P cal k) none 29 (cR (cR (cR code29))) (Lv.b (Lv.b (Lv.b (A 29)))) (doneK P results29) X0 (doneK P results29)))
noncomputable def K29_prrl (cal : Cal) (k : Nat) : KC (Value × Hp × Nat) := (cutK (Lv.a (Lv.b (Lv.b (A 29)))).c (codeE P cal (codeF P cal k) none 29 (cR (cL (cR (cR code29)))) (Lv.b (Lv.a (Lv.b (Lv.b (A 29))))) (K29_prr cal k) X0 (doneK P results29)))
noncomputable def K29_pxrrlr (cal : Cal) (k : Nat) : XC (Value × Hp × Nat) := (upX 0 (K29_prr cal k) X0)
noncomputable def K29_prrlrl (cal : Cal) (k : Nat) (m1 : Nat) : KC (Value × Hp × Nat) := (fun T H n D => codeF P cal m1 (Lv.a (Lv.b (Lv.a (Lv.b (Lv.b (A 29)))))) none 29 (cL (cR (cL (cR (cR code29))))) (K29_prr cal k) (K29_pxrrlr cal k) (doneK P results29) (cutT (Lv.a (Lv.b (Lv.a (Lv.b (Lv.b (A 29)))))).c T) H n D)
noncomputable def K29_prrlrll (cal : Cal) (k : Nat) (m1 : Nat) : KC (Value × Hp × Nat) := (cutK (Lv.a (Lv.a (Lv.b (Lv.a (Lv.b (Lv.b (A 29))))))).c (codeE P cal (codeF P cal m1) none 29 (cR (cL (cL (cR (cL (cR (cR code29))))))) (Lv.b (Lv.a (Lv.a (Lv.b (Lv.a (Lv.b (Lv.b (A 29)))))))) (K29_prrlrl cal k m1) (K29_pxrrlr cal k) (doneK P results29)))
noncomputable def K29_prrlrllr (cal : Cal) (k : Nat) (m1 : Nat) : KC (Value × Hp × Nat) := (cutK (Lv.b (Lv.a (Lv.a (Lv.b (Lv.a (Lv.b (Lv.b (A 29)))))))).c (codeE P cal (codeF P cal m1) none 29 (cR (cR (cL (cL (cR (cL (cR (cR code29)))))))) (Lv.b (Lv.b (Lv.a (Lv.a (Lv.b (Lv.a (Lv.b (Lv.b (A 29))))))))) (K29_prrlrl cal k m1) (K29_pxrrlr cal k) (doneK P results29)))
noncomputable def K29_prrlrllrr (cal : Cal) (k : Nat) (m1 : Nat) : KC (Value × Hp × Nat) := (cutK (Lv.b (Lv.b (Lv.a (Lv.a (Lv.b (Lv.a (Lv.b (Lv.b (A 29))))))))).c (codeE P cal (codeF P cal m1) none 29 (cR (cR (cR (cL (cL (cR (cL (cR (cR code29))))))))) (Lv.b (Lv.b (Lv.b (Lv.a (Lv.a (Lv.b (Lv.a (Lv.b (Lv.b (A 29)))))))))) (K29_prrlrl cal k m1) (K29_pxrrlr cal k) (doneK P results29)))
noncomputable def K29_pxrrlrllrrl (cal : Cal) (k : Nat) (m1 : Nat) : XC (Value × Hp × Nat) := (upX 1 (K29_prrlrllrr cal k m1) (K29_pxrrlr cal k))
noncomputable def K29_prrlrllrrll (cal : Cal) (k : Nat) (m1 : Nat) : KC (Value × Hp × Nat) := (cutK (Lv.a (Lv.a (Lv.b (Lv.b (Lv.a (Lv.a (Lv.b (Lv.a (Lv.b (Lv.b (A 29))))))))))).c (codeE P cal (codeF P cal m1) none 29 (cR (cL (cL (cR (cR (cL (cL (cR (cL (cR (cR code29))))))))))) (Lv.b (Lv.a (Lv.a (Lv.b (Lv.b (Lv.a (Lv.a (Lv.b (Lv.a (Lv.b (Lv.b (A 29)))))))))))) (K29_prrlrllrr cal k m1) (K29_pxrrlrllrrl cal k m1) (doneK P results29)))
noncomputable def K29_prrr (cal : Cal) (k : Nat) : KC (Value × Hp × Nat) := (cutK (Lv.b (Lv.b (Lv.b (A 29)))).c (codeE P cal (codeF P cal k) none 29 (cR (cR (cR (cR code29)))) (Lv.b (Lv.b (Lv.b (Lv.b (A 29))))) (doneK P results29) X0 (doneK P results29)))
noncomputable def E29_1 (cal : Cal) (k m1 : Nat) : KC (Value × Hp × Nat) := codeE P cal (codeF P cal m1) none 29 (cL (cL (cR (cL (cR (cR code29)))))) (Lv.a (Lv.a (Lv.b (Lv.a (Lv.b (Lv.b (A 29))))))) (K29_prrlrl cal k m1) (K29_pxrrlr cal k) (doneK P results29)
noncomputable def R29_1 (cal : Cal) (k m1 : Nat) : Value → Value → Value → Value → Hp → Nat → Res := fun u3 u6 u7 u8 H n => codeF P cal m1 (Lv.a (Lv.b (Lv.a (Lv.b (Lv.b (A 29)))))) none 29 (cL (cR (cL (cR (cR code29))))) (K29_prr cal k) (K29_pxrrlr cal k) (doneK P results29) (Tr.set (Tr.set (Tr.set (Tr.set Tr.nil 8 (some u8)) 7 (some u7)) 6 (some u6)) 3 (some u3)) H n []
noncomputable def B29_1 (cal : Cal) (k m1 : Nat) (b1 : Value → Value → Value → Value → Hp → Nat → Res) (u3 u6 u7 u8 : Value) (H : Hp) (n : Nat) : Res :=
binK P Go.BinOp.lss 3 (Go.Operand.tmp 8) (Go.Operand.tmp 7) u8 u7 fun v9_6 =>
ifK v9_6 (
bindO (indexAddrV P 31 u6 u8) fun v10_7 =>
bindO (addrV v10_7) fun a_9 => bindO (loadV P H 3 a_9) fun v11_8 =>
binK P Go.BinOp.shl 50 (Go.Operand.const (Go.Value.int Go.IntKind.u64 1)) (Go.Operand.tmp 13) (Go.Value.int Go.IntKind.u64 1) v11_8 fun v14_13 =>
binK P Go.BinOp.or 50 (Go.Operand.tmp 12) (Go.Operand.tmp 14) u3 v14_13 fun v15_14 =>
binK P Go.BinOp.add 3 (Go.Operand.tmp 8) (Go.Operand.const (Go.Value.int Go.IntKind.i64 1)) u8 (Go.Value.int Go.IntKind.i64 1) fun v16_16 =>
b1 v15_14 u6 u7 v16_16 H n) (
some (u3, H, n))
noncomputable def C29_1 (cal : Cal) (k m1 : Nat) (b1 : Value → Value → Value → Value → Hp → Nat → Res) (u3 u6 u7 u8 : Value) (H : Hp) (n : Nat) : Res := B29_1 cal k m1 b1 u3 u6 u7 u8 H n
noncomputable def S29_1 (cal : Cal) (k : Nat) : Nat → Value → Value → Value → Value → Hp → Nat → Res := fun m => Nat.rec (motive := fun _ => Value → Value → Value → Value → Hp → Nat → Res) (C29_1 cal k 0 (fun _ _ _ _ _ _ => none)) (fun m ih => C29_1 cal k (m + 1) ih) m
theorem h29_1 (cal : Cal) (k m1 : Nat) (u3 u6 u7 u8 : Value) (H : Hp) (n : Nat) : labK (E29_1 cal k m1) (Tr.set (Tr.set (Tr.set (Tr.set Tr.nil 8 (some u8)) 7 (some u7)) 6 (some u6)) 3 (some u3)) H n [] = C29_1 cal k m1 (R29_1 cal k m1) u3 u6 u7 u8 H n := by
  have h : labK (E29_1 cal k m1) (Tr.set (Tr.set (Tr.set (Tr.set Tr.nil 8 (some u8)) 7 (some u7)) 6 (some u6)) 3 (some u3)) H n [] = B29_1 cal k m1 (R29_1 cal k m1) u3 u6 u7 u8 H n := by kernel_rfl
  rw [h, C29_1]
theorem q29_1 (cal : Cal) (k : Nat) : ∀ (m : Nat) (u3 u6 u7 u8 : Value) (H : Hp) (n : Nat), labK (E29_1 cal k m) (Tr.set (Tr.set (Tr.set (Tr.set Tr.nil 8 (some u8)) 7 (some u7)) 6 (some u6)) 3 (some u3)) H n [] = S29_1 cal k m u3 u6 u7 u8 H n
  | 0, u3, u6, u7, u8, H, n => by
    rw [h29_1]
    have e : R29_1 cal k 0 = fun _ _ _ _ _ _ => none := by funext u3 u6 u7 u8 H n; kernel_rfl
    rw [e]; rfl
  | m + 1, u3, u6, u7, u8, H, n => by
    rw [h29_1]
    have e : R29_1 cal k (m + 1) = S29_1 cal k m := by
      funext u3 u6 u7 u8 H n
      have e : R29_1 cal k (m + 1) u3 u6 u7 u8 H n = labK (E29_1 cal k m) (Tr.set (Tr.set (Tr.set (Tr.set Tr.nil 8 (some u8)) 7 (some u7)) 6 (some u6)) 3 (some u3)) H n [] := by kernel_rfl
      rw [e]; exact q29_1 ..
    rw [e]; rfl
noncomputable def B29_0 (cal : Cal) (k : Nat) (j1 : Value → Value → Value → Value → Hp → Nat → Res) (v0 : Value) (H : Hp) (n : Nat) : Res :=
bindO (lenV P 31 v0) fun v7_4 =>
j1 (Go.Value.int Go.IntKind.u64 0) v0 v7_4 (Go.Value.int Go.IntKind.i64 0) H n
noncomputable def C29_0 (cal : Cal) (k : Nat) (v0 : Value) (H : Hp) (n : Nat) : Res := B29_0 cal k (S29_1 cal k k) v0 H n
theorem h29_0 (cal : Cal) (k : Nat) (v0 : Value) (H : Hp) (n : Nat) : bodyE P cal A (k + 1) 29 [v0] H n = C29_0 cal k v0 H n := by
  have h : bodyE P cal A (k + 1) 29 [v0] H n = B29_0 cal k (fun u3 u6 u7 u8 H n => labK (E29_1 cal k k) (Tr.set (Tr.set (Tr.set (Tr.set Tr.nil 8 (some u8)) 7 (some u7)) 6 (some u6)) 3 (some u3)) H n []) v0 H n := by
    rw [body_eq (fn := Go.Proofs.Try.f29) (c := code29) (rs := results29) (by kernel_rfl) (by kernel_rfl) (by kernel_rfl) (by kernel_rfl)]
    kernel_rfl
  rw [h, C29_0]
  have e1 : (fun u3 u6 u7 u8 H n => labK (E29_1 cal k k) (Tr.set (Tr.set (Tr.set (Tr.set Tr.nil 8 (some u8)) 7 (some u7)) 6 (some u6)) 3 (some u3)) H n []) = (S29_1 cal k k) := by funext u3 u6 u7 u8 H n; exact q29_1 ..
  rw [e1]
noncomputable def code30 : Code := codeOf 30
noncomputable def results30 : List ResultVar := resOf 30
noncomputable def K30_p (cal : Cal) (k : Nat) : KC (Value × Hp × Nat) := (cutK (A 30).c (codeE P cal (codeF P cal k) none 30 (cR code30) (Lv.b (A 30)) (doneK P results30) X0 (doneK P results30)))
noncomputable def K30_pr (cal : Cal) (k : Nat) : KC (Value × Hp × Nat) := (cutK (Lv.b (A 30)).c (codeE P cal (codeF P cal k) none 30 (cR (cR code30)) (Lv.b (Lv.b (A 30))) (doneK P results30) X0 (doneK P results30)))
noncomputable def K30_prr (cal : Cal) (k : Nat) : KC (Value × Hp × Nat) := (cutK (Lv.b (Lv.b (A 30))).c (codeE P cal (codeF P cal k) none 30 (cR (cR (cR code30))) (Lv.b (Lv.b (Lv.b (A 30)))) (doneK P results30) X0 (doneK P results30)))
noncomputable def K30_prrl (cal : Cal) (k : Nat) : KC (Value × Hp × Nat) := (cutK (Lv.a (Lv.b (Lv.b (A 30)))).c (codeE P cal (codeF P cal k) none 30 (cR (cL (cR (cR code30)))) (Lv.b (Lv.a (Lv.b (Lv.b (A 30))))) (K30_prr cal k) X0 (doneK P results30)))
noncomputable def K30_pxrrlr (cal : Cal) (k : Nat) : XC (Value × Hp × Nat) := (upX 0 (K30_prr cal k) X0)
noncomputable def K30_prrlrl (cal : Cal) (k : Nat) (m1 : Nat) : KC (Value × Hp × Nat) := (fun T H n D => codeF P cal m1 (Lv.a (Lv.b (Lv.a (Lv.b (Lv.b (A 30)))))) none 30 (cL (cR (cL (cR (cR code30))))) (K30_prr cal k) (K30_pxrrlr cal k) (doneK P results30) (cutT (Lv.a (Lv.b (Lv.a (Lv.b (Lv.b (A 30)))))).c T) H n D)
noncomputable def K30_prrlrll (cal : Cal) (k : Nat) (m1 : Nat) : KC (Value × Hp × Nat) := (cutK (Lv.a (Lv.a (Lv.b (Lv.a (Lv.b (Lv.b (A 30))))))).c (codeE P cal (codeF P cal m1) none 30 (cR (cL (cL (cR (cL (cR (cR code30))))))) (Lv.b (Lv.a (Lv.a (Lv.b (Lv.a (Lv.b (Lv.b (A 30)))))))) (K30_prrlrl cal k m1) (K30_pxrrlr cal k) (doneK P results30)))
noncomputable def K30_prrlrllr (cal : Cal) (k : Nat) (m1 : Nat) : KC (Value × Hp × Nat) := (cutK (Lv.b (Lv.a (Lv.a (Lv.b (Lv.a (Lv.b (Lv.b (A 30)))))))).c (codeE P cal (codeF P cal m1) none 30 (cR (cR (cL (cL (cR (cL (cR (cR code30)))))))) (Lv.b (Lv.b (Lv.a (Lv.a (Lv.b (Lv.a (Lv.b (Lv.b (A 30))))))))) (K30_prrlrl cal k m1) (K30_pxrrlr cal k) (doneK P results30)))
noncomputable def K30_prrlrllrr (cal : Cal) (k : Nat) (m1 : Nat) : KC (Value × Hp × Nat) := (cutK (Lv.b (Lv.b (Lv.a (Lv.a (Lv.b (Lv.a (Lv.b (Lv.b (A 30))))))))).c (codeE P cal (codeF P cal m1) none 30 (cR (cR (cR (cL (cL (cR (cL (cR (cR code30))))))))) (Lv.b (Lv.b (Lv.b (Lv.a (Lv.a (Lv.b (Lv.a (Lv.b (Lv.b (A 30)))))))))) (K30_prrlrl cal k m1) (K30_pxrrlr cal k) (doneK P results30)))
noncomputable def K30_pxrrlrllrrl (cal : Cal) (k : Nat) (m1 : Nat) : XC (Value × Hp × Nat) := (upX 1 (K30_prrlrllrr cal k m1) (K30_pxrrlr cal k))
noncomputable def K30_prrlrllrrll (cal : Cal) (k : Nat) (m1 : Nat) : KC (Value × Hp × Nat) := (cutK (Lv.a (Lv.a (Lv.b (Lv.b (Lv.a (Lv.a (Lv.b (Lv.a (Lv.b (Lv.b (A 30))))))))))).c (codeE P cal (codeF P cal m1) none 30 (cR (cL (cL (cR (cR (cL (cL (cR (cL (cR (cR code30))))))))))) (Lv.b (Lv.a (Lv.a (Lv.b (Lv.b (Lv.a (Lv.a (Lv.b (Lv.a (Lv.b (Lv.b (A 30)))))))))))) (K30_prrlrllrr cal k m1) (K30_pxrrlrllrrl cal k m1) (doneK P results30)))
noncomputable def K30_prrlrllrrllr (cal : Cal) (k : Nat) (m1 : Nat) : KC (Value × Hp × Nat) := (cutK (Lv.b (Lv.a (Lv.a (Lv.b (Lv.b (Lv.a (Lv.a (Lv.b (Lv.a (Lv.b (Lv.b (A 30)))))))))))).c (codeE P cal (codeF P cal m1) none 30 (cR (cR (cL (cL (cR (cR (cL (cL (cR (cL (cR (cR code30)))))))))))) (Lv.b (Lv.b (Lv.a (Lv.a (Lv.b (Lv.b (Lv.a (Lv.a (Lv.b (Lv.a (Lv.b (Lv.b (A 30))))))))))))) (K30_prrlrllrr cal k m1) (K30_pxrrlrllrrl cal k m1) (doneK P results30)))
noncomputable def K30_prrr (cal : Cal) (k : Nat) : KC (Value × Hp × Nat) := (cutK (Lv.b (Lv.b (Lv.b (A 30)))).c (codeE P cal (codeF P cal k) none 30 (cR (cR (cR (cR code30)))) (Lv.b (Lv.b (Lv.b (Lv.b (A 30))))) (doneK P results30) X0 (doneK P results30)))
noncomputable def K30_prrrr (cal : Cal) (k : Nat) : KC (Value × Hp × Nat) := (cutK (Lv.b (Lv.b (Lv.b (Lv.b (A 30))))).c (codeE P cal (codeF P cal k) none 30 (cR (cR (cR (cR (cR code30))))) (Lv.b (Lv.b (Lv.b (Lv.b (Lv.b (A 30)))))) (doneK P results30) X0 (doneK P results30)))
noncomputable def E30_2 (cal : Cal) (k m1 : Nat) : KC (Value × Hp × Nat) := codeE P cal (codeF P cal m1) none 30 (cR (cR (cR (cL (cL (cR (cL (cR (cR code30))))))))) (Lv.b (Lv.b (Lv.b (Lv.a (Lv.a (Lv.b (Lv.a (Lv.b (Lv.b (A 30)))))))))) (K30_prrlrl cal k m1) (K30_pxrrlr cal k) (doneK P results30)
noncomputable def E30_1 (cal : Cal) (k m1 : Nat) : KC (Value × Hp × Nat) := codeE P cal (codeF P cal m1) none 30 (cL (cL (cR (cL (cR (cR code30)))))) (Lv.a (Lv.a (Lv.b (Lv.a (Lv.b (Lv.b (A 30))))))) (K30_prrlrl cal k m1) (K30_pxrrlr cal k) (doneK P results30)
noncomputable def R30_1 (cal : Cal) (k m1 : Nat) : Value → Value → Value → Value → Hp → Nat → Res := fun u1 u5 u13 u14 H n => codeF P cal m1 (Lv.a (Lv.b (Lv.a (Lv.b (Lv.b (A 30)))))) none 30 (cL (cR (cL (cR (cR code30))))) (K30_prr cal k) (K30_pxrrlr cal k) (doneK P results30) (Tr.set (Tr.set (Tr.set (Tr.set Tr.nil 14 (some u14)) 13 (some u13)) 5 (some u5)) 1 (some u1)) H n []
noncomputable def B30_2 (cal : Cal) (k m1 : Nat) (b1 : Value → Value → Value → Value → Hp → Nat → Res) (u1 u5 u13 u14 : Value) (H : Hp) (n : Nat) : Res :=
binK P Go.BinOp.add 50 (Go.Operand.tmp 14) (Go.Operand.const (Go.Value.int Go.IntKind.u64 1)) u14 (Go.Value.int Go.IntKind.u64 1) fun v25_13 =>
b1 u1 u5 u13 v25_13 H n
noncomputable def C30_2 (cal : Cal) (k m1 : Nat) (b1 : Value → Value → Value → Value → Hp → Nat → Res) (u1 u5 u13 u14 : Value) (H : Hp) (n : Nat) : Res := B30_2 cal k m1 b1 u1 u5 u13 u14 H n
theorem h30_2 (cal : Cal) (k m1 : Nat) (u1 u5 u13 u14 : Value) (H : Hp) (n : Nat) : labK (E30_2 cal k m1) (Tr.set (Tr.set (Tr.set (Tr.set Tr.nil 14 (some u14)) 13 (some u13)) 5 (some u5)) 1 (some u1)) H n [] = C30_2 cal k m1 (R30_1 cal k m1) u1 u5 u13 u14 H n := by
  have h : labK (E30_2 cal k m1) (Tr.set (Tr.set (Tr.set (Tr.set Tr.nil 14 (some u14)) 13 (some u13)) 5 (some u5)) 1 (some u1)) H n [] = B30_2 cal k m1 (R30_1 cal k m1) u1 u5 u13 u14 H n := by kernel_rfl
  rw [h, C30_2]
theorem q30_2 (cal : Cal) (k m1 : Nat) (u1 u5 u13 u14 : Value) (H : Hp) (n : Nat) : labK (E30_2 cal k m1) (Tr.set (Tr.set (Tr.set (Tr.set Tr.nil 14 (some u14)) 13 (some u13)) 5 (some u5)) 1 (some u1)) H n [] = C30_2 cal k m1 (R30_1 cal k m1) u1 u5 u13 u14 H n := h30_2 ..
noncomputable def B30_1 (cal : Cal) (k m1 : Nat) (j2 : Value → Value → Value → Value → Hp → Nat → Res) (b1 : Value → Value → Value → Value → Hp → Nat → Res) (u1 u5 u13 u14 : Value) (H : Hp) (n : Nat) : Res :=
binK P Go.BinOp.lss 50 (Go.Operand.tmp 14) (Go.Operand.tmp 13) u14 u13 fun v15_12 =>
ifK v15_12 (
callFK P cal 39 [u14] H n fun v18_18 H_19 n_20 =>
binK P Go.BinOp.leq 3 (Go.Operand.tmp 18) (Go.Operand.tmp 19) v18_18 u1 fun v20_22 =>
ifK v20_22 (
rowK P 54 1 [(0, u14)] H_19 n_20 fun v23_25 H_26 n_27 =>
stK (appendV P (bare H_26 n_27) 54 54 u5 v23_25) fun v24_28 H_29 n_30 =>
j2 u1 v24_28 u13 u14 H_29 n_30) (
j2 u1 u5 u13 u14 H_19 n_20)) (
callFK P cal 53 [] H n fun v27_33 H_34 n_35 =>
callFK P cal 52 [u5, (Value.func (Go.Fn.func 54) ⟨[v27_33]⟩ ⟨[]⟩)] H_34 n_35 fun v29_37 H_38 n_39 =>
some (u5, H_38, n_39))
noncomputable def C30_1 (cal : Cal) (k m1 : Nat) (b1 : Value → Value → Value → Value → Hp → Nat → Res) (u1 u5 u13 u14 : Value) (H : Hp) (n : Nat) : Res := B30_1 cal k m1 (C30_2 cal k m1 b1) b1 u1 u5 u13 u14 H n
noncomputable def S30_1 (cal : Cal) (k : Nat) : Nat → Value → Value → Value → Value → Hp → Nat → Res := fun m => Nat.rec (motive := fun _ => Value → Value → Value → Value → Hp → Nat → Res) (C30_1 cal k 0 (fun _ _ _ _ _ _ => none)) (fun m ih => C30_1 cal k (m + 1) ih) m
theorem h30_1 (cal : Cal) (k m1 : Nat) (u1 u5 u13 u14 : Value) (H : Hp) (n : Nat) : labK (E30_1 cal k m1) (Tr.set (Tr.set (Tr.set (Tr.set Tr.nil 14 (some u14)) 13 (some u13)) 5 (some u5)) 1 (some u1)) H n [] = C30_1 cal k m1 (R30_1 cal k m1) u1 u5 u13 u14 H n := by
  have h : labK (E30_1 cal k m1) (Tr.set (Tr.set (Tr.set (Tr.set Tr.nil 14 (some u14)) 13 (some u13)) 5 (some u5)) 1 (some u1)) H n [] = B30_1 cal k m1 (fun u1 u5 u13 u14 H n => labK (E30_2 cal k m1) (Tr.set (Tr.set (Tr.set (Tr.set Tr.nil 14 (some u14)) 13 (some u13)) 5 (some u5)) 1 (some u1)) H n []) (R30_1 cal k m1) u1 u5 u13 u14 H n := by kernel_rfl
  rw [h, C30_1]
  have e2 : (fun u1 u5 u13 u14 H n => labK (E30_2 cal k m1) (Tr.set (Tr.set (Tr.set (Tr.set Tr.nil 14 (some u14)) 13 (some u13)) 5 (some u5)) 1 (some u1)) H n []) = (C30_2 cal k m1 (R30_1 cal k m1)) := by funext u1 u5 u13 u14 H n; exact q30_2 ..
  rw [e2]
theorem q30_1 (cal : Cal) (k : Nat) : ∀ (m : Nat) (u1 u5 u13 u14 : Value) (H : Hp) (n : Nat), labK (E30_1 cal k m) (Tr.set (Tr.set (Tr.set (Tr.set Tr.nil 14 (some u14)) 13 (some u13)) 5 (some u5)) 1 (some u1)) H n [] = S30_1 cal k m u1 u5 u13 u14 H n
  | 0, u1, u5, u13, u14, H, n => by
    rw [h30_1]
    have e : R30_1 cal k 0 = fun _ _ _ _ _ _ => none := by funext u1 u5 u13 u14 H n; kernel_rfl
    rw [e]; rfl
  | m + 1, u1, u5, u13, u14, H, n => by
    rw [h30_1]
    have e : R30_1 cal k (m + 1) = S30_1 cal k m := by
      funext u1 u5 u13 u14 H n
      have e : R30_1 cal k (m + 1) u1 u5 u13 u14 H n = labK (E30_1 cal k m) (Tr.set (Tr.set (Tr.set (Tr.set Tr.nil 14 (some u14)) 13 (some u13)) 5 (some u5)) 1 (some u1)) H n [] := by kernel_rfl
      rw [e]; exact q30_1 ..
    rw [e]; rfl
noncomputable def B30_0 (cal : Cal) (k : Nat) (j1 : Value → Value → Value → Value → Hp → Nat → Res) (v0 v1 : Value) (H : Hp) (n : Nat) : Res :=
bindO (nilV v0) fun v8_4 =>
bindO (fieldAddrV P 53 v8_4 0) fun v9_5 =>
bindO (fieldAddrV P 33 v9_5 2) fun v10_6 =>
bindO (addrV v10_6) fun a_8 => bindO (loadV P H 31 a_8) fun v11_7 =>
bindO (lenV P 31 v11_7) fun v12_9 =>
binK P Go.BinOp.shl 50 (Go.Operand.const (Go.Value.int Go.IntKind.u64 1)) (Go.Operand.tmp 12) (Go.Value.int Go.IntKind.u64 1) v12_9 fun v13_10 =>
j1 v1 (Go.Value.slice none 0 0) v13_10 (Go.Value.int Go.IntKind.u64 0) H n
noncomputable def C30_0 (cal : Cal) (k : Nat) (v0 v1 : Value) (H : Hp) (n : Nat) : Res := B30_0 cal k (S30_1 cal k k) v0 v1 H n
theorem h30_0 (cal : Cal) (k : Nat) (v0 v1 : Value) (H : Hp) (n : Nat) : bodyE P cal A (k + 1) 30 [v0, v1] H n = C30_0 cal k v0 v1 H n := by
  have h : bodyE P cal A (k + 1) 30 [v0, v1] H n = B30_0 cal k (fun u1 u5 u13 u14 H n => labK (E30_1 cal k k) (Tr.set (Tr.set (Tr.set (Tr.set Tr.nil 14 (some u14)) 13 (some u13)) 5 (some u5)) 1 (some u1)) H n []) v0 v1 H n := by
    rw [body_eq (fn := Go.Proofs.Try.f30) (c := code30) (rs := results30) (by kernel_rfl) (by kernel_rfl) (by kernel_rfl) (by kernel_rfl)]
    kernel_rfl
  rw [h, C30_0]
  have e1 : (fun u1 u5 u13 u14 H n => labK (E30_1 cal k k) (Tr.set (Tr.set (Tr.set (Tr.set Tr.nil 14 (some u14)) 13 (some u13)) 5 (some u5)) 1 (some u1)) H n []) = (S30_1 cal k k) := by funext u1 u5 u13 u14 H n; exact q30_1 ..
  rw [e1]
noncomputable def code31 : Code := codeOf 31
noncomputable def results31 : List ResultVar := resOf 31
noncomputable def K31_p (cal : Cal) (k : Nat) : KC (Value × Hp × Nat) := (cutK (A 31).c (codeE P cal (codeF P cal k) none 31 (cR code31) (Lv.b (A 31)) (doneK P results31) X0 (doneK P results31)))
noncomputable def K31_pl (cal : Cal) (k : Nat) : KC (Value × Hp × Nat) := (cutK (Lv.a (A 31)).c (codeE P cal (codeF P cal k) none 31 (cR (cL code31)) (Lv.b (Lv.a (A 31))) (K31_p cal k) X0 (doneK P results31)))
noncomputable def K31_plrl (cal : Cal) (k : Nat) : KC (Value × Hp × Nat) := (cutK (Lv.a (Lv.b (Lv.a (A 31)))).c (codeE P cal (codeF P cal k) none 31 (cR (cL (cR (cL code31)))) (Lv.b (Lv.a (Lv.b (Lv.a (A 31))))) (K31_p cal k) X0 (doneK P results31)))
noncomputable def K31_plrll (cal : Cal) (k : Nat) : KC (Value × Hp × Nat) := (cutK (Lv.a (Lv.a (Lv.b (Lv.a (A 31))))).c (codeE P cal (codeF P cal k) none 31 (cR (cL (cL (cR (cL code31))))) (Lv.b (Lv.a (Lv.a (Lv.b (Lv.a (A 31)))))) (K31_plrl cal k) X0 (doneK P results31)))
noncomputable def K31_plrllr (cal : Cal) (k : Nat) : KC (Value × Hp × Nat) := (cutK (Lv.b (Lv.a (Lv.a (Lv.b (Lv.a (A 31)))))).c (codeE P cal (codeF P cal k) none 31 (cR (cR (cL (cL (cR (cL code31)))))) (Lv.b (Lv.b (Lv.a (Lv.a (Lv.b (Lv.a (A 31))))))) (K31_plrl cal k) X0 (doneK P results31)))
noncomputable def K31_pr (cal : Cal) (k : Nat) : KC (Value × Hp × Nat) := (cutK (Lv.b (A 31)).c (codeE P cal (codeF P cal k) none 31 (cR (cR code31)) (Lv.b (Lv.b (A 31))) (doneK P results31) X0 (doneK P results31)))
noncomputable def K31_prrr (cal : Cal) (k : Nat) : KC (Value × Hp × Nat) := (cutK (Lv.b (Lv.b (Lv.b (A 31)))).c (codeE P cal (codeF P cal k) none 31 (cR (cR (cR (cR code31)))) (Lv.b (Lv.b (Lv.b (Lv.b (A 31))))) (doneK P results31) X0 (doneK P results31)))
noncomputable def K31_pxrrrr (cal : Cal) (k : Nat) : XC (Value × Hp × Nat) := (upX 0 (doneK P results31) X0)
noncomputable def K31_prrrrl (cal : Cal) (k : Nat) (m1 : Nat) : KC (Value × Hp × Nat) := (fun T H n D => codeF P cal m1 (Lv.a (Lv.b (Lv.b (Lv.b (Lv.b (A 31)))))) none 31 (cL (cR (cR (cR (cR code31))))) (doneK P results31) (K31_pxrrrr cal k) (doneK P results31) (cutT (Lv.a (Lv.b (Lv.b (Lv.b (Lv.b (A 31)))))).c T) H n D)
noncomputable def K31_prrrrll (cal : Cal) (k : Nat) (m1 : Nat) : KC (Value × Hp × Nat) := (cutK (Lv.a (Lv.a (Lv.b (Lv.b (Lv.b (Lv.b (A 31))))))).c (codeE P cal (codeF P cal m1) none 31 (cR (cL (cL (cR (cR (cR (cR code31))))))) (Lv.b (Lv.a (Lv.a (Lv.b (Lv.b (Lv.b (Lv.b (A 31)))))))) (K31_prrrrl cal k m1) (K31_pxrrrr cal k) (doneK P results31)))
noncomputable def K31_prrrrllr (cal : Cal) (k : Nat) (m1 : Nat) : KC (Value × Hp × Nat) := (cutK (Lv.b (Lv.a (Lv.a (Lv.b (Lv.b (Lv.b (Lv.b (A 31)))))))).c (codeE P cal (codeF P cal m1) none 31 (cR (cR (cL (cL (cR (cR (cR (cR code31)))))))) (Lv.b (Lv.b (Lv.a (Lv.a (Lv.b (Lv.b (Lv.b (Lv.b (A 31))))))))) (K31_prrrrl cal k m1) (K31_pxrrrr cal k) (doneK P results31)))
noncomputable def K31_prrrrllrr (cal : Cal) (k : Nat) (m1 : Nat) : KC (Value × Hp × Nat) := (cutK (Lv.b (Lv.b (Lv.a (Lv.a (Lv.b (Lv.b (Lv.b (Lv.b (A 31))))))))).c (codeE P cal (codeF P cal m1) none 31 (cR (cR (cR (cL (cL (cR (cR (cR (cR code31))))))))) (Lv.b (Lv.b (Lv.b (Lv.a (Lv.a (Lv.b (Lv.b (Lv.b (Lv.b (A 31)))))))))) (K31_prrrrl cal k m1) (K31_pxrrrr cal k) (doneK P results31)))
noncomputable def K31_pxrrrrllrrl (cal : Cal) (k : Nat) (m1 : Nat) : XC (Value × Hp × Nat) := (upX 1 (K31_prrrrllrr cal k m1) (K31_pxrrrr cal k))
noncomputable def K31_prrrrllrrll (cal : Cal) (k : Nat) (m1 : Nat) : KC (Value × Hp × Nat) := (cutK (Lv.a (Lv.a (Lv.b (Lv.b (Lv.a (Lv.a (Lv.b (Lv.b (Lv.b (Lv.b (A 31))))))))))).c (codeE P cal (codeF P cal m1) none 31 (cR (cL (cL (cR (cR (cL (cL (cR (cR (cR (cR code31))))))))))) (Lv.b (Lv.a (Lv.a (Lv.b (Lv.b (Lv.a (Lv.a (Lv.b (Lv.b (Lv.b (Lv.b (A 31)))))))))))) (K31_prrrrllrr cal k m1) (K31_pxrrrrllrrl cal k m1) (doneK P results31)))
noncomputable def K31_prr (cal : Cal) (k : Nat) : KC (Value × Hp × Nat) := (cutK (Lv.b (Lv.b (A 31))).c (codeE P cal (codeF P cal k) none 31 (cR (cR (cR code31))) (Lv.b (Lv.b (Lv.b (A 31)))) (doneK P results31) X0 (doneK P results31)))
noncomputable def K31_prrl (cal : Cal) (k : Nat) : KC (Value × Hp × Nat) := (cutK (Lv.a (Lv.b (Lv.b (A 31)))).c (codeE P cal (codeF P cal k) none 31 (cR (cL (cR (cR code31)))) (Lv.b (Lv.a (Lv.b (Lv.b (A 31))))) (K31_prr cal k) X0 (doneK P results31)))
noncomputable def E31_1 (cal : Cal) (k : Nat) : KC (Value × Hp × Nat) := codeE P cal (codeF P cal k) none 31 (cR (cL (cR (cL code31)))) (Lv.b (Lv.a (Lv.b (Lv.a (A 31))))) (K31_p cal k) X0 (doneK P results31)
noncomputable def E31_3 (cal : Cal) (k m1 : Nat) : KC (Value × Hp × Nat) := codeE P cal (codeF P cal m1) none 31 (cL (cL (cR (cR (cR (cR code31)))))) (Lv.a (Lv.a (Lv.b (Lv.b (Lv.b (Lv.b (A 31))))))) (K31_prrrrl cal k m1) (K31_pxrrrr cal k) (doneK P results31)
noncomputable def R31_3 (cal : Cal) (k m1 : Nat) : Value → Value → Value → Value → Value → Hp → Nat → Res := fun u0 u6 u35 u36 u37 H n => codeF P cal m1 (Lv.a (Lv.b (Lv.b (Lv.b (Lv.b (A 31)))))) none 31 (cL (cR (cR (cR (cR code31))))) (doneK P results31) (K31_pxrrrr cal k) (doneK P results31) (Tr.set (Tr.set (Tr.set (Tr.set (Tr.set Tr.nil 37 (some u37)) 36 (some u36)) 35 (some u35)) 6 (some u6)) 0 (some u0)) H n []
noncomputable def E31_2 (cal : Cal) (k : Nat) : KC (Value × Hp × Nat) := codeE P cal (codeF P cal k) none 31 (cR (cR (cR code31))) (Lv.b (Lv.b (Lv.b (A 31)))) (doneK P results31) X0 (doneK P results31)
noncomputable def B31_1 (cal : Cal) (k : Nat) (H : Hp) (n : Nat) : Res :=
some ((Value.tuple ⟨[]⟩), H, n)
noncomputable def C31_1 (cal : Cal) (k : Nat) (H : Hp) (n : Nat) : Res := B31_1 cal k  H n
theorem h31_1 (cal : Cal) (k : Nat) (H : Hp) (n : Nat) : labK (E31_1 cal k) Tr.nil H n [] = C31_1 cal k  H n := by
  have h : labK (E31_1 cal k) Tr.nil H n [] = B31_1 cal k  H n := by kernel_rfl
  rw [h, C31_1]
theorem q31_1 (cal : Cal) (k : Nat) (H : Hp) (n : Nat) : labK (E31_1 cal k) Tr.nil H n [] = C31_1 cal k  H n := h31_1 ..
noncomputable def B31_3 (cal : Cal) (k m1 : Nat) (b3 : Value → Value → Value → Value → Value → Hp → Nat → Res) (u0 u6 u35 u36 u37 : Value) (H : Hp) (n : Nat) : Res :=
binK P Go.BinOp.lss 3 (Go.Operand.tmp 37) (Go.Operand.tmp 36) u37 u36 fun v38_43 =>
ifK v38_43 (
bindO (indexAddrV P 54 u35 u37) fun v39_44 =>
bindO (addrV v39_44) fun a_46 => bindO (loadV P H 50 a_46) fun v40_45 =>
bindO (addrV u6) fun a_48 => bindO (loadV P H 82 a_48) fun v_49 =>
bindO (rowOf P 54 1 [(0, v40_45)]) fun q_54 => newK q_54.1 q_54.2 H n fun H_52 n_53 =>
effK P [(.l 82 a_48)] H_52 n_53 (fun H_55 n_56 k_57 =>
stK (appendV P (bare H_55 n_56) 54 54 u0 (.slice (some ⟨n, 0, none⟩) 1 1)) fun v45_61 H_62 n_63 =>
k_57 v45_61 H_62 n_63) fun v_58 H_59 n_60 =>
callVK P cal v_49 [v_58] H_59 n_60 fun v46_64 H_65 n_66 =>
binK P Go.BinOp.add 3 (Go.Operand.tmp 37) (Go.Operand.const (Go.Value.int Go.IntKind.i64 1)) u37 (Go.Value.int Go.IntKind.i64 1) fun v47_67 =>
b3 u0 u6 u35 u36 v47_67 H_65 n_66) (
some ((Value.tuple ⟨[]⟩), H, n))
noncomputable def C31_3 (cal : Cal) (k m1 : Nat) (b3 : Value → Value → Value → Value → Value → Hp → Nat → Res) (u0 u6 u35 u36 u37 : Value) (H : Hp) (n : Nat) : Res := B31_3 cal k m1 b3 u0 u6 u35 u36 u37 H n
noncomputable def S31_3 (cal : Cal) (k : Nat) : Nat → Value → Value → Value → Value → Value → Hp → Nat → Res := fun m => Nat.rec (motive := fun _ => Value → Value → Value → Value → Value → Hp → Nat → Res) (C31_3 cal k 0 (fun _ _ _ _ _ _ _ => none)) (fun m ih => C31_3 cal k (m + 1) ih) m
theorem h31_3 (cal : Cal) (k m1 : Nat) (u0 u6 u35 u36 u37 : Value) (H : Hp) (n : Nat) : labK (E31_3 cal k m1) (Tr.set (Tr.set (Tr.set (Tr.set (Tr.set Tr.nil 37 (some u37)) 36 (some u36)) 35 (some u35)) 6 (some u6)) 0 (some u0)) H n [] = C31_3 cal k m1 (R31_3 cal k m1) u0 u6 u35 u36 u37 H n := by
  have h : labK (E31_3 cal k m1) (Tr.set (Tr.set (Tr.set (Tr.set (Tr.set Tr.nil 37 (some u37)) 36 (some u36)) 35 (some u35)) 6 (some u6)) 0 (some u0)) H n [] = B31_3 cal k m1 (R31_3 cal k m1) u0 u6 u35 u36 u37 H n := by kernel_rfl
  rw [h, C31_3]
theorem q31_3 (cal : Cal) (k : Nat) : ∀ (m : Nat) (u0 u6 u35 u36 u37 : Value) (H : Hp) (n : Nat), labK (E31_3 cal k m) (Tr.set (Tr.set (Tr.set (Tr.set (Tr.set Tr.nil 37 (some u37)) 36 (some u36)) 35 (some u35)) 6 (some u6)) 0 (some u0)) H n [] = S31_3 cal k m u0 u6 u35 u36 u37 H n
  | 0, u0, u6, u35, u36, u37, H, n => by
    rw [h31_3]
    have e : R31_3 cal k 0 = fun _ _ _ _ _ _ _ => none := by funext u0 u6 u35 u36 u37 H n; kernel_rfl
    rw [e]; rfl
  | m + 1, u0, u6, u35, u36, u37, H, n => by
    rw [h31_3]
    have e : R31_3 cal k (m + 1) = S31_3 cal k m := by
      funext u0 u6 u35 u36 u37 H n
      have e : R31_3 cal k (m + 1) u0 u6 u35 u36 u37 H n = labK (E31_3 cal k m) (Tr.set (Tr.set (Tr.set (Tr.set (Tr.set Tr.nil 37 (some u37)) 36 (some u36)) 35 (some u35)) 6 (some u6)) 0 (some u0)) H n [] := by kernel_rfl
      rw [e]; exact q31_3 ..
    rw [e]; rfl
noncomputable def B31_2 (cal : Cal) (k : Nat) (j3 : Value → Value → Value → Value → Value → Hp → Nat → Res) (u0 u6 u9 : Value) (H : Hp) (n : Nat) : Res :=
bindO (lenV P 54 u9) fun v36_41 =>
j3 u0 u6 u9 v36_41 (Go.Value.int Go.IntKind.i64 0) H n
noncomputable def C31_2 (cal : Cal) (k : Nat) (u0 u6 u9 : Value) (H : Hp) (n : Nat) : Res := B31_2 cal k (S31_3 cal k k) u0 u6 u9 H n
theorem h31_2 (cal : Cal) (k : Nat) (u0 u6 u9 : Value) (H : Hp) (n : Nat) : labK (E31_2 cal k) (Tr.set (Tr.set (Tr.set Tr.nil 9 (some u9)) 6 (some u6)) 0 (some u0)) H n [] = C31_2 cal k u0 u6 u9 H n := by
  have h : labK (E31_2 cal k) (Tr.set (Tr.set (Tr.set Tr.nil 9 (some u9)) 6 (some u6)) 0 (some u0)) H n [] = B31_2 cal k (fun u0 u6 u35 u36 u37 H n => labK (E31_3 cal k k) (Tr.set (Tr.set (Tr.set (Tr.set (Tr.set Tr.nil 37 (some u37)) 36 (some u36)) 35 (some u35)) 6 (some u6)) 0 (some u0)) H n []) u0 u6 u9 H n := by kernel_rfl
  rw [h, C31_2]
  have e3 : (fun u0 u6 u35 u36 u37 H n => labK (E31_3 cal k k) (Tr.set (Tr.set (Tr.set (Tr.set (Tr.set Tr.nil 37 (some u37)) 36 (some u36)) 35 (some u35)) 6 (some u6)) 0 (some u0)) H n []) = (S31_3 cal k k) := by funext u0 u6 u35 u36 u37 H n; exact q31_3 ..
  rw [e3]
theorem q31_2 (cal : Cal) (k : Nat) (u0 u6 u9 : Value) (H : Hp) (n : Nat) : labK (E31_2 cal k) (Tr.set (Tr.set (Tr.set Tr.nil 9 (some u9)) 6 (some u6)) 0 (some u0)) H n [] = C31_2 cal k u0 u6 u9 H n := h31_2 ..
noncomputable def B31_0 (cal : Cal) (k : Nat) (j1 : Hp → Nat → Res) (j2 : Value → Value → Value → Hp → Nat → Res) (v0 v1 v2 v3 v4 v5 v6 : Value) (H : Hp) (n : Nat) : Res :=
bindO (lenV P 54 v0) fun v13_2 =>
bindO (addrV v1) fun a_4 => bindO (loadV P H 3 a_4) fun v14_3 =>
binK P Go.BinOp.eql 3 (Go.Operand.tmp 13) (Go.Operand.tmp 14) v13_2 v14_3 fun v15_5 =>
ifK v15_5 (
bindO (addrV v2) fun a_6 => bindO (loadV P H 46 a_6) fun v_7 =>
bindO (addrV v2) fun a_8 => bindO (loadV P H 46 a_8) fun v_9 =>
effK P [(.l 46 a_6)] H n (fun H_11 n_12 k_13 =>
callFK P cal 25 [v_9, v0] H_11 n_12 fun v19_17 H_18 n_19 =>
k_13 v19_17 H_18 n_19) fun v_14 H_15 n_16 =>
callFK P cal 24 [v_7, v_14] H_15 n_16 fun v20_20 H_21 n_22 =>
bindO (addrV v3) fun a_26 => bindO (loadV P H_21 3 a_26) fun v22_25 =>
binK P Go.BinOp.lss 3 (Go.Operand.tmp 21) (Go.Operand.tmp 22) v20_20 v22_25 fun v23_27 =>
ifK v23_27 (
callFK P cal 32 [v0] H_21 n_22 fun v25_29 H_30 n_31 =>
bindO (storeP P 54 v4 v25_29 H_30) fun H_34 =>
bindO (storeP P 3 v3 v20_20 H_34) fun H_36 =>
j1  H_36 n_31) (
j1  H_21 n_22)) (
bindO (addrV v5) fun a_38 => bindO (loadV P H 54 a_38) fun v27_37 =>
bindO (lenV P 54 v0) fun v29_70 =>
bindO (addrV v1) fun a_72 => bindO (loadV P H 3 a_72) fun v30_71 =>
binK P Go.BinOp.sub 3 (Go.Operand.tmp 30) (Go.Operand.const (Go.Value.int Go.IntKind.i64 1)) v30_71 (Go.Value.int Go.IntKind.i64 1) fun v31_73 =>
binK P Go.BinOp.eql 3 (Go.Operand.tmp 29) (Go.Operand.tmp 31) v29_70 v31_73 fun v32_74 =>
ifK v32_74 (
bindO (addrV v5) fun a_76 => bindO (loadV P H 54 a_76) fun v33_75 =>
bindO (sliceV P 54 v33_75 none (some (Go.Value.int Go.IntKind.i64 1))) fun v34_77 =>
j2 v0 v6 v34_77 H n) (
j2 v0 v6 v27_37 H n))
noncomputable def C31_0 (cal : Cal) (k : Nat) (v0 v1 v2 v3 v4 v5 v6 : Value) (H : Hp) (n : Nat) : Res := B31_0 cal k (C31_1 cal k) (C31_2 cal k) v0 v1 v2 v3 v4 v5 v6 H n
theorem h31_0 (cal : Cal) (k : Nat) (v0 v1 v2 v3 v4 v5 v6 : Value) (H : Hp) (n : Nat) : bodyE P cal A (k + 1) 31 [v0, v1, v2, v3, v4, v5, v6] H n = C31_0 cal k v0 v1 v2 v3 v4 v5 v6 H n := by
  have h : bodyE P cal A (k + 1) 31 [v0, v1, v2, v3, v4, v5, v6] H n = B31_0 cal k (fun  H n => labK (E31_1 cal k) Tr.nil H n []) (fun u0 u6 u9 H n => labK (E31_2 cal k) (Tr.set (Tr.set (Tr.set Tr.nil 9 (some u9)) 6 (some u6)) 0 (some u0)) H n []) v0 v1 v2 v3 v4 v5 v6 H n := by
    rw [body_eq (fn := Go.Proofs.Try.f31) (c := code31) (rs := results31) (by kernel_rfl) (by kernel_rfl) (by kernel_rfl) (by kernel_rfl)]
    kernel_rfl
  rw [h, C31_0]
  have e1 : (fun  H n => labK (E31_1 cal k) Tr.nil H n []) = (C31_1 cal k) := by funext  H n; exact q31_1 ..
  rw [e1]
  have e2 : (fun u0 u6 u9 H n => labK (E31_2 cal k) (Tr.set (Tr.set (Tr.set Tr.nil 9 (some u9)) 6 (some u6)) 0 (some u0)) H n []) = (C31_2 cal k) := by funext u0 u6 u9 H n; exact q31_2 ..
  rw [e2]
noncomputable def code32 : Code := codeOf 32
noncomputable def results32 : List ResultVar := resOf 32
noncomputable def K32_p (cal : Cal) (k : Nat) : KC (Value × Hp × Nat) := (cutK (A 32).c (codeE P cal (codeF P cal k) none 32 (cR code32) (Lv.b (A 32)) (doneK P results32) X0 (doneK P results32)))
noncomputable def K32_pr (cal : Cal) (k : Nat) : KC (Value × Hp × Nat) := (cutK (Lv.b (A 32)).c (codeE P cal (codeF P cal k) none 32 (cR (cR code32)) (Lv.b (Lv.b (A 32))) (doneK P results32) X0 (doneK P results32)))
noncomputable def K32_prl (cal : Cal) (k : Nat) : KC (Value × Hp × Nat) := (cutK (Lv.a (Lv.b (A 32))).c (codeE P cal (codeF P cal k) none 32 (cR (cL (cR code32))) (Lv.b (Lv.a (Lv.b (A 32)))) (K32_pr cal k) X0 (doneK P results32)))
noncomputable def K32_prlrl (cal : Cal) (k : Nat) : KC (Value × Hp × Nat) := (cutK (Lv.a (Lv.b (Lv.a (Lv.b (A 32))))).c (codeE P cal (codeF P cal k) none 32 (cR (cL (cR (cL (cR code32))))) (Lv.b (Lv.a (Lv.b (Lv.a (Lv.b (A 32)))))) (K32_pr cal k) X0 (doneK P results32)))
noncomputable def K32_prr (cal : Cal) (k : Nat) : KC (Value × Hp × Nat) := (cutK (Lv.b (Lv.b (A 32))).c (codeE P cal (codeF P cal k) none 32 (cR (cR (cR code32))) (Lv.b (Lv.b (Lv.b (A 32)))) (doneK P results32) X0 (doneK P results32)))
noncomputable def B32_0 (cal : Cal) (k : Nat) (v0 : Value) (H : Hp) (n : Nat) : Res :=
binK P Go.BinOp.eql 54 (Go.Operand.tmp 3) (Go.Operand.const (Go.Value.slice none 0 0)) v0 (Go.Value.slice none 0 0) fun v4_3 =>
ifK v4_3 (
some ((Go.Value.slice none 0 0), H, n)) (
rowK P 54 0 [] H n fun v5_5 H_6 n_7 =>
stK (appendV P (bare H_6 n_7) 54 54 v5_5 v0) fun v7_9 H_10 n_11 =>
some (v7_9, H_10, n_11))
noncomputable def C32_0 (cal : Cal) (k : Nat) (v0 : Value) (H : Hp) (n : Nat) : Res := B32_0 cal k v0 H n
theorem h32_0 (cal : Cal) (k : Nat) (v0 : Value) (H : Hp) (n : Nat) : bodyE P cal A (k + 1) 32 [v0] H n = C32_0 cal k v0 H n := by
  have h : bodyE P cal A (k + 1) 32 [v0] H n = B32_0 cal k v0 H n := by
    rw [body_eq (fn := Go.Proofs.Try.f32) (c := code32) (rs := results32) (by kernel_rfl) (by kernel_rfl) (by kernel_rfl) (by kernel_rfl)]
    kernel_rfl
  rw [h, C32_0]
noncomputable def code33 : Code := codeOf 33
noncomputable def results33 : List ResultVar := resOf 33
noncomputable def K33_p (cal : Cal) (k : Nat) : KC (Value × Hp × Nat) := (cutK (A 33).c (codeE P cal (codeF P cal k) none 33 (cR code33) (Lv.b (A 33)) (doneK P results33) X0 (doneK P results33)))
noncomputable def K33_pr (cal : Cal) (k : Nat) : KC (Value × Hp × Nat) := (cutK (Lv.b (A 33)).c (codeE P cal (codeF P cal k) none 33 (cR (cR code33)) (Lv.b (Lv.b (A 33))) (doneK P results33) X0 (doneK P results33)))
noncomputable def K33_prr (cal : Cal) (k : Nat) : KC (Value × Hp × Nat) := (cutK (Lv.b (Lv.b (A 33))).c (codeE P cal (codeF P cal k) none 33 (cR (cR (cR code33))) (Lv.b (Lv.b (Lv.b (A 33)))) (doneK P results33) X0 (doneK P results33)))
noncomputable def K33_prrl (cal : Cal) (k : Nat) : KC (Value × Hp × Nat) := (cutK (Lv.a (Lv.b (Lv.b (A 33)))).c (codeE P cal (codeF P cal k) none 33 (cR (cL (cR (cR code33)))) (Lv.b (Lv.a (Lv.b (Lv.b (A 33))))) (K33_prr cal k) X0 (doneK P results33)))
noncomputable def K33_pxrrlr (cal : Cal) (k : Nat) : XC (Value × Hp × Nat) := (upX 0 (K33_prr cal k) X0)
noncomputable def K33_prrlrl (cal : Cal) (k : Nat) (m1 : Nat) : KC (Value × Hp × Nat) := (fun T H n D => codeF P cal m1 (Lv.a (Lv.b (Lv.a (Lv.b (Lv.b (A 33)))))) none 33 (cL (cR (cL (cR (cR code33))))) (K33_prr cal k) (K33_pxrrlr cal k) (doneK P results33) (cutT (Lv.a (Lv.b (Lv.a (Lv.b (Lv.b (A 33)))))).c T) H n D)
noncomputable def K33_prrlrll (cal : Cal) (k : Nat) (m1 : Nat) : KC (Value × Hp × Nat) := (cutK (Lv.a (Lv.a (Lv.b (Lv.a (Lv.b (Lv.b (A 33))))))).c (codeE P cal (codeF P cal m1) none 33 (cR (cL (cL (cR (cL (cR (cR code33))))))) (Lv.b (Lv.a (Lv.a (Lv.b (Lv.a (Lv.b (Lv.b (A 33)))))))) (K33_prrlrl cal k m1) (K33_pxrrlr cal k) (doneK P results33)))
noncomputable def K33_prrlrllr (cal : Cal) (k : Nat) (m1 : Nat) : KC (Value × Hp × Nat) := (cutK (Lv.b (Lv.a (Lv.a (Lv.b (Lv.a (Lv.b (Lv.b (A 33)))))))).c (codeE P cal (codeF P cal m1) none 33 (cR (cR (cL (cL (cR (cL (cR (cR code33)))))))) (Lv.b (Lv.b (Lv.a (Lv.a (Lv.b (Lv.a (Lv.b (Lv.b (A 33))))))))) (K33_prrlrl cal k m1) (K33_pxrrlr cal k) (doneK P results33)))
noncomputable def K33_prrlrllrr (cal : Cal) (k : Nat) (m1 : Nat) : KC (Value × Hp × Nat) := (cutK (Lv.b (Lv.b (Lv.a (Lv.a (Lv.b (Lv.a (Lv.b (Lv.b (A 33))))))))).c (codeE P cal (codeF P cal m1) none 33 (cR (cR (cR (cL (cL (cR (cL (cR (cR code33))))))))) (Lv.b (Lv.b (Lv.b (Lv.a (Lv.a (Lv.b (Lv.a (Lv.b (Lv.b (A 33)))))))))) (K33_prrlrl cal k m1) (K33_pxrrlr cal k) (doneK P results33)))
noncomputable def K33_pxrrlrllrrl (cal : Cal) (k : Nat) (m1 : Nat) : XC (Value × Hp × Nat) := (upX 1 (K33_prrlrllrr cal k m1) (K33_pxrrlr cal k))
noncomputable def K33_prrlrllrrll (cal : Cal) (k : Nat) (m1 : Nat) : KC (Value × Hp × Nat) := (cutK (Lv.a (Lv.a (Lv.b (Lv.b (Lv.a (Lv.a (Lv.b (Lv.a (Lv.b (Lv.b (A 33))))))))))).c (codeE P cal (codeF P cal m1) none 33 (cR (cL (cL (cR (cR (cL (cL (cR (cL (cR (cR code33))))))))))) (Lv.b (Lv.a (Lv.a (Lv.b (Lv.b (Lv.a (Lv.a (Lv.b (Lv.a (Lv.b (Lv.b (A 33)))))))))))) (K33_prrlrllrr cal k m1) (K33_pxrrlrllrrl cal k m1) (doneK P results33)))
noncomputable def K33_prrlrllrrllr (cal : Cal) (k : Nat) (m1 : Nat) : KC (Value × Hp × Nat) := (cutK (Lv.b (Lv.a (Lv.a (Lv.b (Lv.b (Lv.a (Lv.a (Lv.b (Lv.a (Lv.b (Lv.b (A 33)))))))))))).c (codeE P cal (codeF P cal m1) none 33 (cR (cR (cL (cL (cR (cR (cL (cL (cR (cL (cR (cR code33)))))))))))) (Lv.b (Lv.b (Lv.a (Lv.a (Lv.b (Lv.b (Lv.a (Lv.a (Lv.b (Lv.a (Lv.b (Lv.b (A 33))))))))))))) (K33_prrlrllrr cal k m1) (K33_pxrrlrllrrl cal k m1) (doneK P results33)))
noncomputable def K33_prrr (cal : Cal) (k : Nat) : KC (Value × Hp × Nat) := (cutK (Lv.b (Lv.b (Lv.b (A 33)))).c (codeE P cal (codeF P cal k) none 33 (cR (cR (cR (cR code33)))) (Lv.b (Lv.b (Lv.b (Lv.b (A 33))))) (doneK P results33) X0 (doneK P results33)))
noncomputable def E33_2 (cal : Cal) (k m1 : Nat) : KC (Value × Hp × Nat) := codeE P cal (codeF P cal m1) none 33 (cR (cR (cR (cL (cL (cR (cL (cR (cR code33))))))))) (Lv.b (Lv.b (Lv.b (Lv.a (Lv.a (Lv.b (Lv.a (Lv.b (Lv.b (A 33)))))))))) (K33_prrlrl cal k m1) (K33_pxrrlr cal k) (doneK P results33)
noncomputable def E33_1 (cal : Cal) (k m1 : Nat) : KC (Value × Hp × Nat) := codeE P cal (codeF P cal m1) none 33 (cL (cL (cR (cL (cR (cR code33)))))) (Lv.a (Lv.a (Lv.b (Lv.a (Lv.b (Lv.b (A 33))))))) (K33_prrlrl cal k m1) (K33_pxrrlr cal k) (doneK P results33)
noncomputable def R33_1 (cal : Cal) (k m1 : Nat) : Value → Value → Value → Hp → Nat → Res := fun u0 u3 u5 H n => codeF P cal m1 (Lv.a (Lv.b (Lv.a (Lv.b (Lv.b (A 33)))))) none 33 (cL (cR (cL (cR (cR code33))))) (K33_prr cal k) (K33_pxrrlr cal k) (doneK P results33) (Tr.set (Tr.set (Tr.set Tr.nil 5 (some u5)) 3 (some u3)) 0 (some u0)) H n []
noncomputable def B33_2 (cal : Cal) (k m1 : Nat) (b1 : Value → Value → Value → Hp → Nat → Res) (u0 u3 u5 : Value) (H : Hp) (n : Nat) : Res :=
binK P Go.BinOp.add 3 (Go.Operand.tmp 5) (Go.Operand.const (Go.Value.int Go.IntKind.i64 1)) u5 (Go.Value.int Go.IntKind.i64 1) fun v15_5 =>
b1 u0 u3 v15_5 H n
noncomputable def C33_2 (cal : Cal) (k m1 : Nat) (b1 : Value → Value → Value → Hp → Nat → Res) (u0 u3 u5 : Value) (H : Hp) (n : Nat) : Res := B33_2 cal k m1 b1 u0 u3 u5 H n
theorem h33_2 (cal : Cal) (k m1 : Nat) (u0 u3 u5 : Value) (H : Hp) (n : Nat) : labK (E33_2 cal k m1) (Tr.set (Tr.set (Tr.set Tr.nil 5 (some u5)) 3 (some u3)) 0 (some u0)) H n [] = C33_2 cal k m1 (R33_1 cal k m1) u0 u3 u5 H n := by
  have h : labK (E33_2 cal k m1) (Tr.set (Tr.set (Tr.set Tr.nil 5 (some u5)) 3 (some u3)) 0 (some u0)) H n [] = B33_2 cal k m1 (R33_1 cal k m1) u0 u3 u5 H n := by kernel_rfl
  rw [h, C33_2]
theorem q33_2 (cal : Cal) (k m1 : Nat) (u0 u3 u5 : Value) (H : Hp) (n : Nat) : labK (E33_2 cal k m1) (Tr.set (Tr.set (Tr.set Tr.nil 5 (some u5)) 3 (some u3)) 0 (some u0)) H n [] = C33_2 cal k m1 (R33_1 cal k m1) u0 u3 u5 H n := h33_2 ..
noncomputable def B33_1 (cal : Cal) (k m1 : Nat) (j2 : Value → Value → Value → Hp → Nat → Res) (b1 : Value → Value → Value → Hp → Nat → Res) (u0 u3 u5 : Value) (H : Hp) (n : Nat) : Res :=
binK P Go.BinOp.lss 3 (Go.Operand.tmp 5) (Go.Operand.const (Go.Value.int Go.IntKind.i64 8)) u5 (Go.Value.int Go.IntKind.i64 8) fun v6_4 =>
ifK v6_4 (
callFK P cal 42 [u0, u5] H n fun v10_11 H_12 n_13 =>
ifK v10_11 (
rowK P 31 1 [(0, u5)] H_12 n_13 fun v13_16 H_17 n_18 =>
stK (appendV P (bare H_17 n_18) 31 31 u3 v13_16) fun v14_19 H_20 n_21 =>
j2 u0 v14_19 u5 H_20 n_21) (
j2 u0 u3 u5 H_12 n_13)) (
some (u3, H, n))
noncomputable def C33_1 (cal : Cal) (k m1 : Nat) (b1 : Value → Value → Value → Hp → Nat → Res) (u0 u3 u5 : Value) (H : Hp) (n : Nat) : Res := B33_1 cal k m1 (C33_2 cal k m1 b1) b1 u0 u3 u5 H n
noncomputable def S33_1 (cal : Cal) (k : Nat) : Nat → Value → Value → Value → Hp → Nat → Res := fun m => Nat.rec (motive := fun _ => Value → Value → Value → Hp → Nat → Res) (C33_1 cal k 0 (fun _ _ _ _ _ => none)) (fun m ih => C33_1 cal k (m + 1) ih) m
theorem h33_1 (cal : Cal) (k m1 : Nat) (u0 u3 u5 : Value) (H : Hp) (n : Nat) : labK (E33_1 cal k m1) (Tr.set (Tr.set (Tr.set Tr.nil 5 (some u5)) 3 (some u3)) 0 (some u0)) H n [] = C33_1 cal k m1 (R33_1 cal k m1) u0 u3 u5 H n := by
  have h : labK (E33_1 cal k m1) (Tr.set (Tr.set (Tr.set Tr.nil 5 (some u5)) 3 (some u3)) 0 (some u0)) H n [] = B33_1 cal k m1 (fun u0 u3 u5 H n => labK (E33_2 cal k m1) (Tr.set (Tr.set (Tr.set Tr.nil 5 (some u5)) 3 (some u3)) 0 (some u0)) H n []) (R33_1 cal k m1) u0 u3 u5 H n := by kernel_rfl
  rw [h, C33_1]
  have e2 : (fun u0 u3 u5 H n => labK (E33_2 cal k m1) (Tr.set (Tr.set (Tr.set Tr.nil 5 (some u5)) 3 (some u3)) 0 (some u0)) H n []) = (C33_2 cal k m1 (R33_1 cal k m1)) := by funext u0 u3 u5 H n; exact q33_2 ..
  rw [e2]
theorem q33_1 (cal : Cal) (k : Nat) : ∀ (m : Nat) (u0 u3 u5 : Value) (H : Hp) (n : Nat), labK (E33_1 cal k m) (Tr.set (Tr.set (Tr.set Tr.nil 5 (some u5)) 3 (some u3)) 0 (some u0)) H n [] = S33_1 cal k m u0 u3 u5 H n
  | 0, u0, u3, u5, H, n => by
    rw [h33_1]
    have e : R33_1 cal k 0 = fun _ _ _ _ _ => none := by funext u0 u3 u5 H n; kernel_rfl
    rw [e]; rfl
  | m + 1, u0, u3, u5, H, n => by
    rw [h33_1]
    have e : R33_1 cal k (m + 1) = S33_1 cal k m := by
      funext u0 u3 u5 H n
      have e : R33_1 cal k (m + 1) u0 u3 u5 H n = labK (E33_1 cal k m) (Tr.set (Tr.set (Tr.set Tr.nil 5 (some u5)) 3 (some u3)) 0 (some u0)) H n [] := by kernel_rfl
      rw [e]; exact q33_1 ..
    rw [e]; rfl
noncomputable def B33_0 (cal : Cal) (k : Nat) (j1 : Value → Value → Value → Hp → Nat → Res) (v0 : Value) (H : Hp) (n : Nat) : Res :=
j1 v0 (Go.Value.slice none 0 0) (Go.Value.int Go.IntKind.i64 0) H n
noncomputable def C33_0 (cal : Cal) (k : Nat) (v0 : Value) (H : Hp) (n : Nat) : Res := B33_0 cal k (S33_1 cal k k) v0 H n
theorem h33_0 (cal : Cal) (k : Nat) (v0 : Value) (H : Hp) (n : Nat) : bodyE P cal A (k + 1) 33 [v0] H n = C33_0 cal k v0 H n := by
  have h : bodyE P cal A (k + 1) 33 [v0] H n = B33_0 cal k (fun u0 u3 u5 H n => labK (E33_1 cal k k) (Tr.set (Tr.set (Tr.set Tr.nil 5 (some u5)) 3 (some u3)) 0 (some u0)) H n []) v0 H n := by
    rw [body_eq (fn := Go.Proofs.Try.f33) (c := code33) (rs := results33) (by kernel_rfl) (by kernel_rfl) (by kernel_rfl) (by kernel_rfl)]
    kernel_rfl
  rw [h, C33_0]
  have e1 : (fun u0 u3 u5 H n => labK (E33_1 cal k k) (Tr.set (Tr.set (Tr.set Tr.nil 5 (some u5)) 3 (some u3)) 0 (some u0)) H n []) = (S33_1 cal k k) := by funext u0 u3 u5 H n; exact q33_1 ..
  rw [e1]
noncomputable def code35 : Code := codeOf 35
noncomputable def results35 : List ResultVar := resOf 35
noncomputable def K35_p (cal : Cal) (k : Nat) : KC (Value × Hp × Nat) := (cutK (A 35).c (codeE P cal (codeF P cal k) none 35 (cR code35) (Lv.b (A 35)) (doneK P results35) X0 (doneK P results35)))
noncomputable def K35_pr (cal : Cal) (k : Nat) : KC (Value × Hp × Nat) := (cutK (Lv.b (A 35)).c (codeE P cal (codeF P cal k) none 35 (cR (cR code35)) (Lv.b (Lv.b (A 35))) (doneK P results35) X0 (doneK P results35)))
noncomputable def B35_0 (cal : Cal) (k : Nat) (v0 v1 : Value) (H : Hp) (n : Nat) : Res :=
binK P Go.BinOp.andNot 50 (Go.Operand.tmp 5) (Go.Operand.tmp 6) v0 v1 fun v7_4 =>
some (v7_4, H, n)
noncomputable def C35_0 (cal : Cal) (k : Nat) (v0 v1 : Value) (H : Hp) (n : Nat) : Res := B35_0 cal k v0 v1 H n
theorem h35_0 (cal : Cal) (k : Nat) (v0 v1 : Value) (H : Hp) (n : Nat) : bodyE P cal A (k + 1) 35 [v0, v1] H n = C35_0 cal k v0 v1 H n := by
  have h : bodyE P cal A (k + 1) 35 [v0, v1] H n = B35_0 cal k v0 v1 H n := by
    rw [body_eq (fn := Go.Proofs.Try.f35) (c := code35) (rs := results35) (by kernel_rfl) (by kernel_rfl) (by kernel_rfl) (by kernel_rfl)]
    kernel_rfl
  rw [h, C35_0]
noncomputable def code36 : Code := codeOf 36
noncomputable def results36 : List ResultVar := resOf 36
noncomputable def K36_p (cal : Cal) (k : Nat) : KC (Value × Hp × Nat) := (cutK (A 36).c (codeE P cal (codeF P cal k) none 36 (cR code36) (Lv.b (A 36)) (doneK P results36) X0 (doneK P results36)))
noncomputable def K36_pr (cal : Cal) (k : Nat) : KC (Value × Hp × Nat) := (cutK (Lv.b (A 36)).c (codeE P cal (codeF P cal k) none 36 (cR (cR code36)) (Lv.b (Lv.b (A 36))) (doneK P results36) X0 (doneK P results36)))
noncomputable def K36_prr (cal : Cal) (k : Nat) : KC (Value × Hp × Nat) := (cutK (Lv.b (Lv.b (A 36))).c (codeE P cal (codeF P cal k) none 36 (cR (cR (cR code36))) (Lv.b (Lv.b (Lv.b (A 36)))) (doneK P results36) X0 (doneK P results36)))
noncomputable def K36_pxrrl (cal : Cal) (k : Nat) : XC (Value × Hp × Nat) := (upX 0 (K36_prr cal k) X0)
noncomputable def K36_prrll (cal : Cal) (k : Nat) (m1 : Nat) : KC (Value × Hp × Nat) := (fun T H n D => codeF P cal m1 (Lv.a (Lv.a (Lv.b (Lv.b (A 36))))) none 36 (cL (cL (cR (cR code36)))) (K36_prr cal k) (K36_pxrrl cal k) (doneK P results36) (cutT (Lv.a (Lv.a (Lv.b (Lv.b (A 36))))).c T) H n D)
noncomputable def K36_prrlll (cal : Cal) (k : Nat) (m1 : Nat) : KC (Value × Hp × Nat) := (cutK (Lv.a (Lv.a (Lv.a (Lv.b (Lv.b (A 36)))))).c (codeE P cal (codeF P cal m1) none 36 (cR (cL (cL (cL (cR (cR code36)))))) (Lv.b (Lv.a (Lv.a (Lv.a (Lv.b (Lv.b (A 36))))))) (K36_prrll cal k m1) (K36_pxrrl cal k) (doneK P results36)))
noncomputable def K36_prrllll (cal : Cal) (k : Nat) (m1 : Nat) : KC (Value × Hp × Nat) := (cutK (Lv.a (Lv.a (Lv.a (Lv.a (Lv.b (Lv.b (A 36))))))).c (codeE P cal (codeF P cal m1) none 36 (cR (cL (cL (cL (cL (cR (cR code36))))))) (Lv.b (Lv.a (Lv.a (Lv.a (Lv.a (Lv.b (Lv.b (A 36)))))))) (K36_prrlll cal k m1) (K36_pxrrl cal k) (doneK P results36)))
noncomputable def K36_prrlllr (cal : Cal) (k : Nat) (m1 : Nat) : KC (Value × Hp × Nat) := (cutK (Lv.b (Lv.a (Lv.a (Lv.a (Lv.b (Lv.b (A 36))))))).c (codeE P cal (codeF P cal m1) none 36 (cR (cR (cL (cL (cL (cR (cR code36))))))) (Lv.b (Lv.b (Lv.a (Lv.a (Lv.a (Lv.b (Lv.b (A 36)))))))) (K36_prrll cal k m1) (K36_pxrrl cal k) (doneK P results36)))
noncomputable def K36_pxrrlllrl (cal : Cal) (k : Nat) (m1 : Nat) : XC (Value × Hp × Nat) := (upX 1 (K36_prrlllr cal k m1) (K36_pxrrl cal k))
noncomputable def K36_prrr (cal : Cal) (k : Nat) : KC (Value × Hp × Nat) := (cutK (Lv.b (Lv.b (Lv.b (A 36)))).c (codeE P cal (codeF P cal k) none 36 (cR (cR (cR (cR code36)))) (Lv.b (Lv.b (Lv.b (Lv.b (A 36))))) (doneK P results36) X0 (doneK P results36)))
noncomputable def K36_prrrr (cal : Cal) (k : Nat) : KC (Value × Hp × Nat) := (cutK (Lv.b (Lv.b (Lv.b (Lv.b (A 36))))).c (codeE P cal (codeF P cal k) none 36 (cR (cR (cR (cR (cR code36))))) (Lv.b (Lv.b (Lv.b (Lv.b (Lv.b (A 36)))))) (doneK P results36) X0 (doneK P results36)))
noncomputable def E36_1 (cal : Cal) (k m1 : Nat) : KC (Value × Hp × Nat) := codeE P cal (codeF P cal m1) none 36 (cL (cL (cL (cR (cR code36))))) (Lv.a (Lv.a (Lv.a (Lv.b (Lv.b (A 36)))))) (K36_prrll cal k m1) (K36_pxrrl cal k) (doneK P results36)
noncomputable def R36_1 (cal : Cal) (k m1 : Nat) : Value → Value → Hp → Nat → Res := fun u0 u3 H n => codeF P cal m1 (Lv.a (Lv.a (Lv.b (Lv.b (A 36))))) none 36 (cL (cL (cR (cR code36)))) (K36_prr cal k) (K36_pxrrl cal k) (doneK P results36) (Tr.set (Tr.set Tr.nil 3 (some u3)) 0 (some u0)) H n []
noncomputable def B36_1 (cal : Cal) (k m1 : Nat) (b1 : Value → Value → Hp → Nat → Res) (u0 u3 : Value) (H : Hp) (n : Nat) : Res :=
bindO (nilV u0) fun v5_4 =>
bindO (fieldAddrV P 86 v5_4 0) fun v6_5 =>
bindO (addrV v6_5) fun a_7 => bindO (loadV P H 84 a_7) fun v7_6 =>
binK P Go.BinOp.neq 84 (Go.Operand.tmp 7) (Go.Operand.const (Go.Value.pointer none)) v7_6 (Go.Value.pointer none) fun v8_8 =>
ifK v8_8 (
bindO (nilV u0) fun v15_11 =>
bindO (fieldAddrV P 86 v15_11 1) fun v16_12 =>
bindO (addrV v16_12) fun a_14 => bindO (loadV P H 50 a_14) fun v17_13 =>
rowK P 54 1 [(0, v17_13)] H n fun v18_15 H_16 n_17 =>
stK (appendV P (bare H_16 n_17) 54 54 u3 v18_15) fun v19_18 H_19 n_20 =>
bindO (nilV u0) fun v10_23 =>
bindO (fieldAddrV P 86 v10_23 0) fun v11_24 =>
bindO (addrV v11_24) fun a_26 => bindO (loadV P H_19 84 a_26) fun v12_25 =>
b1 v12_25 v19_18 H_19 n_20) (
callFK P cal 56 [u3] H n fun v21_29 H_30 n_31 =>
some (u3, H_30, n_31))
noncomputable def C36_1 (cal : Cal) (k m1 : Nat) (b1 : Value → Value → Hp → Nat → Res) (u0 u3 : Value) (H : Hp) (n : Nat) : Res := B36_1 cal k m1 b1 u0 u3 H n
noncomputable def S36_1 (cal : Cal) (k : Nat) : Nat → Value → Value → Hp → Nat → Res := fun m => Nat.rec (motive := fun _ => Value → Value → Hp → Nat → Res) (C36_1 cal k 0 (fun _ _ _ _ => none)) (fun m ih => C36_1 cal k (m + 1) ih) m
theorem h36_1 (cal : Cal) (k m1 : Nat) (u0 u3 : Value) (H : Hp) (n : Nat) : labK (E36_1 cal k m1) (Tr.set (Tr.set Tr.nil 3 (some u3)) 0 (some u0)) H n [] = C36_1 cal k m1 (R36_1 cal k m1) u0 u3 H n := by
  have h : labK (E36_1 cal k m1) (Tr.set (Tr.set Tr.nil 3 (some u3)) 0 (some u0)) H n [] = B36_1 cal k m1 (R36_1 cal k m1) u0 u3 H n := by kernel_rfl
  rw [h, C36_1]
theorem q36_1 (cal : Cal) (k : Nat) : ∀ (m : Nat) (u0 u3 : Value) (H : Hp) (n : Nat), labK (E36_1 cal k m) (Tr.set (Tr.set Tr.nil 3 (some u3)) 0 (some u0)) H n [] = S36_1 cal k m u0 u3 H n
  | 0, u0, u3, H, n => by
    rw [h36_1]
    have e : R36_1 cal k 0 = fun _ _ _ _ => none := by funext u0 u3 H n; kernel_rfl
    rw [e]; rfl
  | m + 1, u0, u3, H, n => by
    rw [h36_1]
    have e : R36_1 cal k (m + 1) = S36_1 cal k m := by
      funext u0 u3 H n
      have e : R36_1 cal k (m + 1) u0 u3 H n = labK (E36_1 cal k m) (Tr.set (Tr.set Tr.nil 3 (some u3)) 0 (some u0)) H n [] := by kernel_rfl
      rw [e]; exact q36_1 ..
    rw [e]; rfl
noncomputable def B36_0 (cal : Cal) (k : Nat) (j1 : Value → Value → Hp → Nat → Res) (v0 : Value) (H : Hp) (n : Nat) : Res :=
j1 v0 (Go.Value.slice none 0 0) H n
noncomputable def C36_0 (cal : Cal) (k : Nat) (v0 : Value) (H : Hp) (n : Nat) : Res := B36_0 cal k (S36_1 cal k k) v0 H n
theorem h36_0 (cal : Cal) (k : Nat) (v0 : Value) (H : Hp) (n : Nat) : bodyE P cal A (k + 1) 36 [v0] H n = C36_0 cal k v0 H n := by
  have h : bodyE P cal A (k + 1) 36 [v0] H n = B36_0 cal k (fun u0 u3 H n => labK (E36_1 cal k k) (Tr.set (Tr.set Tr.nil 3 (some u3)) 0 (some u0)) H n []) v0 H n := by
    rw [body_eq (fn := Go.Proofs.Try.f36) (c := code36) (rs := results36) (by kernel_rfl) (by kernel_rfl) (by kernel_rfl) (by kernel_rfl)]
    kernel_rfl
  rw [h, C36_0]
  have e1 : (fun u0 u3 H n => labK (E36_1 cal k k) (Tr.set (Tr.set Tr.nil 3 (some u3)) 0 (some u0)) H n []) = (S36_1 cal k k) := by funext u0 u3 H n; exact q36_1 ..
  rw [e1]
noncomputable def code37 : Code := codeOf 37
noncomputable def results37 : List ResultVar := resOf 37
noncomputable def K37_p (cal : Cal) (k : Nat) : KC (Value × Hp × Nat) := (cutK (A 37).c (codeE P cal (codeF P cal k) none 37 (cR code37) (Lv.b (A 37)) (doneK P results37) X0 (doneK P results37)))
noncomputable def K37_pr (cal : Cal) (k : Nat) : KC (Value × Hp × Nat) := (cutK (Lv.b (A 37)).c (codeE P cal (codeF P cal k) none 37 (cR (cR code37)) (Lv.b (Lv.b (A 37))) (doneK P results37) X0 (doneK P results37)))
noncomputable def K37_prl (cal : Cal) (k : Nat) : KC (Value × Hp × Nat) := (cutK (Lv.a (Lv.b (A 37))).c (codeE P cal (codeF P cal k) none 37 (cR (cL (cR code37))) (Lv.b (Lv.a (Lv.b (A 37)))) (K37_pr cal k) X0 (doneK P results37)))
noncomputable def K37_pxrlr (cal : Cal) (k : Nat) : XC (Value × Hp × Nat) := (upX 0 (K37_pr cal k) X0)
noncomputable def K37_prlrl (cal : Cal) (k : Nat) (m1 : Nat) : KC (Value × Hp × Nat) := (fun T H n D => codeF P cal m1 (Lv.a (Lv.b (Lv.a (Lv.b (A 37))))) none 37 (cL (cR (cL (cR code37)))) (K37_pr cal k) (K37_pxrlr cal k) (doneK P results37) (cutT (Lv.a (Lv.b (Lv.a (Lv.b (A 37))))).c T) H n D)
noncomputable def K37_prlrll (cal : Cal) (k : Nat) (m1 : Nat) : KC (Value × Hp × Nat) := (cutK (Lv.a (Lv.a (Lv.b (Lv.a (Lv.b (A 37)))))).c (codeE P cal (codeF P cal m1) none 37 (cR (cL (cL (cR (cL (cR code37)))))) (Lv.b (Lv.a (Lv.a (Lv.b (Lv.a (Lv.b (A 37))))))) (K37_prlrl cal k m1) (K37_pxrlr cal k) (doneK P results37)))
noncomputable def K37_prlrllr (cal : Cal) (k : Nat) (m1 : Nat) : KC (Value × Hp × Nat) := (cutK (Lv.b (Lv.a (Lv.a (Lv.b (Lv.a (Lv.b (A 37))))))).c (codeE P cal (codeF P cal m1) none 37 (cR (cR (cL (cL (cR (cL (cR code37))))))) (Lv.b (Lv.b (Lv.a (Lv.a (Lv.b (Lv.a (Lv.b (A 37)))))))) (K37_prlrl cal k m1) (K37_pxrlr cal k) (doneK P results37)))
noncomputable def K37_prlrllrr (cal : Cal) (k : Nat) (m1 : Nat) : KC (Value × Hp × Nat) := (cutK (Lv.b (Lv.b (Lv.a (Lv.a (Lv.b (Lv.a (Lv.b (A 37)))))))).c (codeE P cal (codeF P cal m1) none 37 (cR (cR (cR (cL (cL (cR (cL (cR code37)))))))) (Lv.b (Lv.b (Lv.b (Lv.a (Lv.a (Lv.b (Lv.a (Lv.b (A 37))))))))) (K37_prlrl cal k m1) (K37_pxrlr cal k) (doneK P results37)))
noncomputable def K37_pxrlrllrrl (cal : Cal) (k : Nat) (m1 : Nat) : XC (Value × Hp × Nat) := (upX 1 (K37_prlrllrr cal k m1) (K37_pxrlr cal k))
noncomputable def K37_prlrllrrll (cal : Cal) (k : Nat) (m1 : Nat) : KC (Value × Hp × Nat) := (cutK (Lv.a (Lv.a (Lv.b (Lv.b (Lv.a (Lv.a (Lv.b (Lv.a (Lv.b (A 37)))))))))).c (codeE P cal (codeF P cal m1) none 37 (cR (cL (cL (cR (cR (cL (cL (cR (cL (cR code37)))))))))) (Lv.b (Lv.a (Lv.a (Lv.b (Lv.b (Lv.a (Lv.a (Lv.b (Lv.a (Lv.b (A 37))))))))))) (K37_prlrllrr cal k m1) (K37_pxrlrllrrl cal k m1) (doneK P results37)))
noncomputable def K37_prlrllrrllr (cal : Cal) (k : Nat) (m1 : Nat) : KC (Value × Hp × Nat) := (cutK (Lv.b (Lv.a (Lv.a (Lv.b (Lv.b (Lv.a (Lv.a (Lv.b (Lv.a (Lv.b (A 37))))))))))).c (codeE P cal (codeF P cal m1) none 37 (cR (cR (cL (cL (cR (cR (cL (cL (cR (cL (cR code37))))))))))) (Lv.b (Lv.b (Lv.a (Lv.a (Lv.b (Lv.b (Lv.a (Lv.a (Lv.b (Lv.a (Lv.b (A 37)))))))))))) (K37_prlrllrr cal k m1) (K37_pxrlrllrrl cal k m1) (doneK P results37)))
noncomputable def K37_prlrllrrllrrl (cal : Cal) (k : Nat) (m1 : Nat) : KC (Value × Hp × Nat) := (cutK (Lv.a (Lv.b (Lv.b (Lv.a (Lv.a (Lv.b (Lv.b (Lv.a (Lv.a (Lv.b (Lv.a (Lv.b (A 37))))))))))))).c (codeE P cal (codeF P cal m1) none 37 (cR (cL (cR (cR (cL (cL (cR (cR (cL (cL (cR (cL (cR code37))))))))))))) (Lv.b (Lv.a (Lv.b (Lv.b (Lv.a (Lv.a (Lv.b (Lv.b (Lv.a (Lv.a (Lv.b (Lv.a (Lv.b (A 37)))))))))))))) (K37_prlrllrr cal k m1) (K37_pxrlrllrrl cal k m1) (doneK P results37)))
noncomputable def K37_prr (cal : Cal) (k : Nat) : KC (Value × Hp × Nat) := (cutK (Lv.b (Lv.b (A 37))).c (codeE P cal (codeF P cal k) none 37 (cR (cR (cR code37))) (Lv.b (Lv.b (Lv.b (A 37)))) (doneK P results37) X0 (doneK P results37)))
noncomputable def E37_1 (cal : Cal) (k m1 : Nat) : KC (Value × Hp × Nat) := codeE P cal (codeF P cal m1) none 37 (cL (cL (cR (cL (cR code37))))) (Lv.a (Lv.a (Lv.b (Lv.a (Lv.b (A 37)))))) (K37_prlrl cal k m1) (K37_pxrlr cal k) (doneK P results37)
noncomputable def R37_1 (cal : Cal) (k m1 : Nat) : Value → Value → Value → Value → Hp → Nat → Res := fun u1 u7 u8 u9 H n => codeF P cal m1 (Lv.a (Lv.b (Lv.a (Lv.b (A 37))))) none 37 (cL (cR (cL (cR code37)))) (K37_pr cal k) (K37_pxrlr cal k) (doneK P results37) (Tr.set (Tr.set (Tr.set (Tr.set Tr.nil 9 (some u9)) 8 (some u8)) 7 (some u7)) 1 (some u1)) H n []
noncomputable def B37_1 (cal : Cal) (k m1 : Nat) (b1 : Value → Value → Value → Value → Hp → Nat → Res) (u1 u7 u8 u9 : Value) (H : Hp) (n : Nat) : Res :=
binK P Go.BinOp.lss 3 (Go.Operand.tmp 9) (Go.Operand.tmp 8) u9 u8 fun v10_5 =>
ifK v10_5 (
bindO (indexAddrV P 22 u7 u9) fun v11_6 =>
bindO (addrV v11_6) fun a_8 => bindO (loadV P H 31 a_8) fun v12_7 =>
callVK P cal u1 [v12_7] H n fun v15_12 H_13 n_14 =>
bindO (pureSem P v15_12 (Op.unary Go.UnOp.not v15_12)) fun v16_15 =>
ifK v16_15 (
some ((Go.Value.bool false), H_13, n_14)) (
binK P Go.BinOp.add 3 (Go.Operand.tmp 9) (Go.Operand.const (Go.Value.int Go.IntKind.i64 1)) u9 (Go.Value.int Go.IntKind.i64 1) fun v17_17 =>
b1 u1 u7 u8 v17_17 H_13 n_14)) (
some ((Go.Value.bool true), H, n))
noncomputable def C37_1 (cal : Cal) (k m1 : Nat) (b1 : Value → Value → Value → Value → Hp → Nat → Res) (u1 u7 u8 u9 : Value) (H : Hp) (n : Nat) : Res := B37_1 cal k m1 b1 u1 u7 u8 u9 H n
noncomputable def S37_1 (cal : Cal) (k : Nat) : Nat → Value → Value → Value → Value → Hp → Nat → Res := fun m => Nat.rec (motive := fun _ => Value → Value → Value → Value → Hp → Nat → Res) (C37_1 cal k 0 (fun _ _ _ _ _ _ => none)) (fun m ih => C37_1 cal k (m + 1) ih) m
theorem h37_1 (cal : Cal) (k m1 : Nat) (u1 u7 u8 u9 : Value) (H : Hp) (n : Nat) : labK (E37_1 cal k m1) (Tr.set (Tr.set (Tr.set (Tr.set Tr.nil 9 (some u9)) 8 (some u8)) 7 (some u7)) 1 (some u1)) H n [] = C37_1 cal k m1 (R37_1 cal k m1) u1 u7 u8 u9 H n := by
  have h : labK (E37_1 cal k m1) (Tr.set (Tr.set (Tr.set (Tr.set Tr.nil 9 (some u9)) 8 (some u8)) 7 (some u7)) 1 (some u1)) H n [] = B37_1 cal k m1 (R37_1 cal k m1) u1 u7 u8 u9 H n := by kernel_rfl
  rw [h, C37_1]
theorem q37_1 (cal : Cal) (k : Nat) : ∀ (m : Nat) (u1 u7 u8 u9 : Value) (H : Hp) (n : Nat), labK (E37_1 cal k m) (Tr.set (Tr.set (Tr.set (Tr.set Tr.nil 9 (some u9)) 8 (some u8)) 7 (some u7)) 1 (some u1)) H n [] = S37_1 cal k m u1 u7 u8 u9 H n
  | 0, u1, u7, u8, u9, H, n => by
    rw [h37_1]
    have e : R37_1 cal k 0 = fun _ _ _ _ _ _ => none := by funext u1 u7 u8 u9 H n; kernel_rfl
    rw [e]; rfl
  | m + 1, u1, u7, u8, u9, H, n => by
    rw [h37_1]
    have e : R37_1 cal k (m + 1) = S37_1 cal k m := by
      funext u1 u7 u8 u9 H n
      have e : R37_1 cal k (m + 1) u1 u7 u8 u9 H n = labK (E37_1 cal k m) (Tr.set (Tr.set (Tr.set (Tr.set Tr.nil 9 (some u9)) 8 (some u8)) 7 (some u7)) 1 (some u1)) H n [] := by kernel_rfl
      rw [e]; exact q37_1 ..
    rw [e]; rfl
noncomputable def B37_0 (cal : Cal) (k : Nat) (j1 : Value → Value → Value → Value → Hp → Nat → Res) (v0 v1 : Value) (H : Hp) (n : Nat) : Res :=
bindO (lenV P 22 v0) fun v8_3 =>
j1 v1 v0 v8_3 (Go.Value.int Go.IntKind.i64 0) H n
noncomputable def C37_0 (cal : Cal) (k : Nat) (v0 v1 : Value) (H : Hp) (n : Nat) : Res := B37_0 cal k (S37_1 cal k k) v0 v1 H n
theorem h37_0 (cal : Cal) (k : Nat) (v0 v1 : Value) (H : Hp) (n : Nat) : bodyE P cal A (k + 1) 37 [v0, v1] H n = C37_0 cal k v0 v1 H n := by
  have h : bodyE P cal A (k + 1) 37 [v0, v1] H n = B37_0 cal k (fun u1 u7 u8 u9 H n => labK (E37_1 cal k k) (Tr.set (Tr.set (Tr.set (Tr.set Tr.nil 9 (some u9)) 8 (some u8)) 7 (some u7)) 1 (some u1)) H n []) v0 v1 H n := by
    rw [body_eq (fn := Go.Proofs.Try.f37) (c := code37) (rs := results37) (by kernel_rfl) (by kernel_rfl) (by kernel_rfl) (by kernel_rfl)]
    kernel_rfl
  rw [h, C37_0]
  have e1 : (fun u1 u7 u8 u9 H n => labK (E37_1 cal k k) (Tr.set (Tr.set (Tr.set (Tr.set Tr.nil 9 (some u9)) 8 (some u8)) 7 (some u7)) 1 (some u1)) H n []) = (S37_1 cal k k) := by funext u1 u7 u8 u9 H n; exact q37_1 ..
  rw [e1]
noncomputable def code38 : Code := codeOf 38
noncomputable def results38 : List ResultVar := resOf 38
noncomputable def K38_p (cal : Cal) (k : Nat) : KC (Value × Hp × Nat) := (cutK (A 38).c (codeE P cal (codeF P cal k) none 38 (cR code38) (Lv.b (A 38)) (doneK P results38) X0 (doneK P results38)))
noncomputable def K38_pr (cal : Cal) (k : Nat) : KC (Value × Hp × Nat) := (cutK (Lv.b (A 38)).c (codeE P cal (codeF P cal k) none 38 (cR (cR code38)) (Lv.b (Lv.b (A 38))) (doneK P results38) X0 (doneK P results38)))
noncomputable def B38_0 (cal : Cal) (k : Nat) (v0 v1 : Value) (H : Hp) (n : Nat) : Res :=
boxK 33 v0 H n fun v2_1 H_2 n_3 =>
bindO (addrV v2_1) fun a_7 => bindO (loadV P H_2 33 a_7) fun v6_6 =>
callFK P cal 49 [v1, (Value.func (Go.Fn.func 41) ⟨[v6_6]⟩ ⟨[]⟩)] H_2 n_3 fun v8_9 H_10 n_11 =>
guardK v8_9 true (fun k_13 =>
k_13 v1 H_10 n_11) H_10 n_11 fun v_14 H_15 n_16 =>
guardK v8_9 true (fun k_18 =>
callFK P cal 57 [v_14] H_15 n_16 fun v11_22 H_23 n_24 =>
k_18 v11_22 H_23 n_24) H_15 n_16 fun v_19 H_20 n_21 =>
bindO (pickV v8_9 v_19 (Go.Value.bool false)) fun v12_25 =>
some (v12_25, H_20, n_21)
noncomputable def C38_0 (cal : Cal) (k : Nat) (v0 v1 : Value) (H : Hp) (n : Nat) : Res := B38_0 cal k v0 v1 H n
theorem h38_0 (cal : Cal) (k : Nat) (v0 v1 : Value) (H : Hp) (n : Nat) : bodyE P cal A (k + 1) 38 [v0, v1] H n = C38_0 cal k v0 v1 H n := by
  have h : bodyE P cal A (k + 1) 38 [v0, v1] H n = B38_0 cal k v0 v1 H n := by
    rw [body_eq (fn := Go.Proofs.Try.f38) (c := code38) (rs := results38) (by kernel_rfl) (by kernel_rfl) (by kernel_rfl) (by kernel_rfl)]
    kernel_rfl
  rw [h, C38_0]
noncomputable def code39 : Code := codeOf 39
noncomputable def results39 : List ResultVar := resOf 39
noncomputable def K39_p (cal : Cal) (k : Nat) : KC (Value × Hp × Nat) := (cutK (A 39).c (codeE P cal (codeF P cal k) none 39 (cR code39) (Lv.b (A 39)) (doneK P results39) X0 (doneK P results39)))
noncomputable def K39_pr (cal : Cal) (k : Nat) : KC (Value × Hp × Nat) := (cutK (Lv.b (A 39)).c (codeE P cal (codeF P cal k) none 39 (cR (cR code39)) (Lv.b (Lv.b (A 39))) (doneK P results39) X0 (doneK P results39)))
noncomputable def B39_0 (cal : Cal) (k : Nat) (v0 : Value) (H : Hp) (n : Nat) : Res :=
callFK P cal 58 [v0] H n fun v4_3 H_4 n_5 =>
some (v4_3, H_4, n_5)
noncomputable def C39_0 (cal : Cal) (k : Nat) (v0 : Value) (H : Hp) (n : Nat) : Res := B39_0 cal k v0 H n
theorem h39_0 (cal : Cal) (k : Nat) (v0 : Value) (H : Hp) (n : Nat) : bodyE P cal A (k + 1) 39 [v0] H n = C39_0 cal k v0 H n := by
  have h : bodyE P cal A (k + 1) 39 [v0] H n = B39_0 cal k v0 H n := by
    rw [body_eq (fn := Go.Proofs.Try.f39) (c := code39) (rs := results39) (by kernel_rfl) (by kernel_rfl) (by kernel_rfl) (by kernel_rfl)]
    kernel_rfl
  rw [h, C39_0]
noncomputable def code40 : Code := codeOf 40
noncomputable def results40 : List ResultVar := resOf 40
noncomputable def K40_p (cal : Cal) (k : Nat) : KC (Value × Hp × Nat) := (cutK (A 40).c (codeE P cal (codeF P cal k) none 40 (cR code40) (Lv.b (A 40)) (doneK P results40) X0 (doneK P results40)))
noncomputable def K40_pr (cal : Cal) (k : Nat) : KC (Value × Hp × Nat) := (cutK (Lv.b (A 40)).c (codeE P cal (codeF P cal k) none 40 (cR (cR code40)) (Lv.b (Lv.b (A 40))) (doneK P results40) X0 (doneK P results40)))
noncomputable def K40_prl (cal : Cal) (k : Nat) : KC (Value × Hp × Nat) := (cutK (Lv.a (Lv.b (A 40))).c (codeE P cal (codeF P cal k) none 40 (cR (cL (cR code40))) (Lv.b (Lv.a (Lv.b (A 40)))) (K40_pr cal k) X0 (doneK P results40)))
noncomputable def K40_pxrlr (cal : Cal) (k : Nat) : XC (Value × Hp × Nat) := (upX 0 (K40_pr cal k) X0)
noncomputable def K40_prlrl (cal : Cal) (k : Nat) (m1 : Nat) : KC (Value × Hp × Nat) := (fun T H n D => codeF P cal m1 (Lv.a (Lv.b (Lv.a (Lv.b (A 40))))) none 40 (cL (cR (cL (cR code40)))) (K40_pr cal k) (K40_pxrlr cal k) (doneK P results40) (cutT (Lv.a (Lv.b (Lv.a (Lv.b (A 40))))).c T) H n D)
noncomputable def K40_prlrll (cal : Cal) (k : Nat) (m1 : Nat) : KC (Value × Hp × Nat) := (cutK (Lv.a (Lv.a (Lv.b (Lv.a (Lv.b (A 40)))))).c (codeE P cal (codeF P cal m1) none 40 (cR (cL (cL (cR (cL (cR code40)))))) (Lv.b (Lv.a (Lv.a (Lv.b (Lv.a (Lv.b (A 40))))))) (K40_prlrl cal k m1) (K40_pxrlr cal k) (doneK P results40)))
noncomputable def K40_prlrllr (cal : Cal) (k : Nat) (m1 : Nat) : KC (Value × Hp × Nat) := (cutK (Lv.b (Lv.a (Lv.a (Lv.b (Lv.a (Lv.b (A 40))))))).c (codeE P cal (codeF P cal m1) none 40 (cR (cR (cL (cL (cR (cL (cR code40))))))) (Lv.b (Lv.b (Lv.a (Lv.a (Lv.b (Lv.a (Lv.b (A 40)))))))) (K40_prlrl cal k m1) (K40_pxrlr cal k) (doneK P results40)))
noncomputable def K40_prlrllrr (cal : Cal) (k : Nat) (m1 : Nat) : KC (Value × Hp × Nat) := (cutK (Lv.b (Lv.b (Lv.a (Lv.a (Lv.b (Lv.a (Lv.b (A 40)))))))).c (codeE P cal (codeF P cal m1) none 40 (cR (cR (cR (cL (cL (cR (cL (cR code40)))))))) (Lv.b (Lv.b (Lv.b (Lv.a (Lv.a (Lv.b (Lv.a (Lv.b (A 40))))))))) (K40_prlrl cal k m1) (K40_pxrlr cal k) (doneK P results40)))
noncomputable def K40_pxrlrllrrl (cal : Cal) (k : Nat) (m1 : Nat) : XC (Value × Hp × Nat) := (upX 1 (K40_prlrllrr cal k m1) (K40_pxrlr cal k))
noncomputable def K40_prlrllrrll (cal : Cal) (k : Nat) (m1 : Nat) : KC (Value × Hp × Nat) := (cutK (Lv.a (Lv.a (Lv.b (Lv.b (Lv.a (Lv.a (Lv.b (Lv.a (Lv.b (A 40)))))))))).c (codeE P cal (codeF P cal m1) none 40 (cR (cL (cL (cR (cR (cL (cL (cR (cL (cR code40)))))))))) (Lv.b (Lv.a (Lv.a (Lv.b (Lv.b (Lv.a (Lv.a (Lv.b (Lv.a (Lv.b (A 40))))))))))) (K40_prlrllrr cal k m1) (K40_pxrlrllrrl cal k m1) (doneK P results40)))
noncomputable def K40_prr (cal : Cal) (k : Nat) : KC (Value × Hp × Nat) := (cutK (Lv.b (Lv.b (A 40))).c (codeE P cal (codeF P cal k) none 40 (cR (cR (cR code40))) (Lv.b (Lv.b (Lv.b (A 40)))) (doneK P results40) X0 (doneK P results40)))
noncomputable def E40_1 (cal : Cal) (k m1 : Nat) : KC (Value × Hp × Nat) := codeE P cal (codeF P cal m1) none 40 (cL (cL (cR (cL (cR code40))))) (Lv.a (Lv.a (Lv.b (Lv.a (Lv.b (A 40)))))) (K40_prlrl cal k m1) (K40_pxrlr cal k) (doneK P results40)
noncomputable def R40_1 (cal : Cal) (k m1 : Nat) : Value → Value → Value → Value → Hp → Nat → Res := fun u0 u7 u8 u9 H n => codeF P cal m1 (Lv.a (Lv.b (Lv.a (Lv.b (A 40))))) none 40 (cL (cR (cL (cR code40)))) (K40_pr cal k) (K40_pxrlr cal k) (doneK P results40) (Tr.set (Tr.set (Tr.set (Tr.set Tr.nil 9 (some u9)) 8 (some u8)) 7 (some u7)) 0 (some u0)) H n []
noncomputable def B40_1 (cal : Cal) (k m1 : Nat) (b1 : Value → Value → Value → Value → Hp → Nat → Res) (u0 u7 u8 u9 : Value) (H : Hp) (n : Nat) : Res :=
binK P Go.BinOp.lss 3 (Go.Operand.tmp 9) (Go.Operand.tmp 8) u9 u8 fun v10_5 =>
ifK v10_5 (
bindO (indexAddrV P 31 u7 u9) fun v11_6 =>
bindO (addrV v11_6) fun a_8 => bindO (loadV P H 3 a_8) fun v12_7 =>
builtinK P .max [3, 3] (Go.Call.mk (Go.Callee.builtin Go.Builtin.max) #[(Go.Operand.tmp 13), (Go.Operand.tmp 14)] #[3, 3]) 3 [u0, v12_7] H n fun v15_12 H_13 n_14 =>
binK P Go.BinOp.add 3 (Go.Operand.tmp 9) (Go.Operand.const (Go.Value.int Go.IntKind.i64 1)) u9 (Go.Value.int Go.IntKind.i64 1) fun v16_16 =>
b1 v15_12 u7 u8 v16_16 H_13 n_14) (
some (u0, H, n))
noncomputable def C40_1 (cal : Cal) (k m1 : Nat) (b1 : Value → Value → Value → Value → Hp → Nat → Res) (u0 u7 u8 u9 : Value) (H : Hp) (n : Nat) : Res := B40_1 cal k m1 b1 u0 u7 u8 u9 H n
noncomputable def S40_1 (cal : Cal) (k : Nat) : Nat → Value → Value → Value → Value → Hp → Nat → Res := fun m => Nat.rec (motive := fun _ => Value → Value → Value → Value → Hp → Nat → Res) (C40_1 cal k 0 (fun _ _ _ _ _ _ => none)) (fun m ih => C40_1 cal k (m + 1) ih) m
theorem h40_1 (cal : Cal) (k m1 : Nat) (u0 u7 u8 u9 : Value) (H : Hp) (n : Nat) : labK (E40_1 cal k m1) (Tr.set (Tr.set (Tr.set (Tr.set Tr.nil 9 (some u9)) 8 (some u8)) 7 (some u7)) 0 (some u0)) H n [] = C40_1 cal k m1 (R40_1 cal k m1) u0 u7 u8 u9 H n := by
  have h : labK (E40_1 cal k m1) (Tr.set (Tr.set (Tr.set (Tr.set Tr.nil 9 (some u9)) 8 (some u8)) 7 (some u7)) 0 (some u0)) H n [] = B40_1 cal k m1 (R40_1 cal k m1) u0 u7 u8 u9 H n := by kernel_rfl
  rw [h, C40_1]
theorem q40_1 (cal : Cal) (k : Nat) : ∀ (m : Nat) (u0 u7 u8 u9 : Value) (H : Hp) (n : Nat), labK (E40_1 cal k m) (Tr.set (Tr.set (Tr.set (Tr.set Tr.nil 9 (some u9)) 8 (some u8)) 7 (some u7)) 0 (some u0)) H n [] = S40_1 cal k m u0 u7 u8 u9 H n
  | 0, u0, u7, u8, u9, H, n => by
    rw [h40_1]
    have e : R40_1 cal k 0 = fun _ _ _ _ _ _ => none := by funext u0 u7 u8 u9 H n; kernel_rfl
    rw [e]; rfl
  | m + 1, u0, u7, u8, u9, H, n => by
    rw [h40_1]
    have e : R40_1 cal k (m + 1) = S40_1 cal k m := by
      funext u0 u7 u8 u9 H n
      have e : R40_1 cal k (m + 1) u0 u7 u8 u9 H n = labK (E40_1 cal k m) (Tr.set (Tr.set (Tr.set (Tr.set Tr.nil 9 (some u9)) 8 (some u8)) 7 (some u7)) 0 (some u0)) H n [] := by kernel_rfl
      rw [e]; exact q40_1 ..
    rw [e]; rfl
noncomputable def B40_0 (cal : Cal) (k : Nat) (j1 : Value → Value → Value → Value → Hp → Nat → Res) (v0 v1 : Value) (H : Hp) (n : Nat) : Res :=
bindO (lenV P 31 v1) fun v8_3 =>
j1 v0 v1 v8_3 (Go.Value.int Go.IntKind.i64 0) H n
noncomputable def C40_0 (cal : Cal) (k : Nat) (v0 v1 : Value) (H : Hp) (n : Nat) : Res := B40_0 cal k (S40_1 cal k k) v0 v1 H n
theorem h40_0 (cal : Cal) (k : Nat) (v0 v1 : Value) (H : Hp) (n : Nat) : bodyE P cal A (k + 1) 40 [v0, v1] H n = C40_0 cal k v0 v1 H n := by
  have h : bodyE P cal A (k + 1) 40 [v0, v1] H n = B40_0 cal k (fun u0 u7 u8 u9 H n => labK (E40_1 cal k k) (Tr.set (Tr.set (Tr.set (Tr.set Tr.nil 9 (some u9)) 8 (some u8)) 7 (some u7)) 0 (some u0)) H n []) v0 v1 H n := by
    rw [body_eq (fn := Go.Proofs.Try.f40) (c := code40) (rs := results40) (by kernel_rfl) (by kernel_rfl) (by kernel_rfl) (by kernel_rfl)]
    kernel_rfl
  rw [h, C40_0]
  have e1 : (fun u0 u7 u8 u9 H n => labK (E40_1 cal k k) (Tr.set (Tr.set (Tr.set (Tr.set Tr.nil 9 (some u9)) 8 (some u8)) 7 (some u7)) 0 (some u0)) H n []) = (S40_1 cal k k) := by funext u0 u7 u8 u9 H n; exact q40_1 ..
  rw [e1]
noncomputable def code41 : Code := codeOf 41
noncomputable def results41 : List ResultVar := resOf 41
noncomputable def K41_p (cal : Cal) (k : Nat) : KC (Value × Hp × Nat) := (cutK (A 41).c (codeE P cal (codeF P cal k) none 41 (cR code41) (Lv.b (A 41)) (doneK P results41) X0 (doneK P results41)))
noncomputable def K41_pr (cal : Cal) (k : Nat) : KC (Value × Hp × Nat) := (cutK (Lv.b (A 41)).c (codeE P cal (codeF P cal k) none 41 (cR (cR code41)) (Lv.b (Lv.b (A 41))) (doneK P results41) X0 (doneK P results41)))
noncomputable def B41_0 (cal : Cal) (k : Nat) (v0 v1 : Value) (H : Hp) (n : Nat) : Res :=
boxK 33 v0 H n fun v2_1 H_2 n_3 =>
binK P Go.BinOp.geq 3 (Go.Operand.tmp 5) (Go.Operand.const (Go.Value.int Go.IntKind.i64 0)) v1 (Go.Value.int Go.IntKind.i64 0) fun v6_6 =>
guardK v6_6 true (fun k_8 =>
k_8 v1 H_2 n_3) H_2 n_3 fun v_9 H_10 n_11 =>
guardK v6_6 true (fun k_13 =>
bindO (fieldAddrV P 33 v2_1 0) fun v9_17 =>
k_13 v9_17 H_10 n_11) H_10 n_11 fun v_14 H_15 n_16 =>
guardK v6_6 true (fun k_18 =>
bindO (fieldAddrV P 30 v_14 0) fun v10_22 =>
k_18 v10_22 H_15 n_16) H_15 n_16 fun v_19 H_20 n_21 =>
guardK v6_6 true (fun k_23 =>
bindO (addrV v_19) fun a_28 => bindO (loadV P H_20 26 a_28) fun v11_27 =>
k_23 v11_27 H_20 n_21) H_20 n_21 fun v_24 H_25 n_26 =>
guardK v6_6 true (fun k_29 =>
bindO (lenV P 26 v_24) fun v12_33 =>
k_29 v12_33 H_25 n_26) H_25 n_26 fun v_30 H_31 n_32 =>
guardK v6_6 true (fun k_34 =>
binK P Go.BinOp.lss 3 (Go.Operand.tmp 8) (Go.Operand.tmp 12) v_9 v_30 fun v13_38 =>
k_34 v13_38 H_31 n_32) H_31 n_32 fun v_35 H_36 n_37 =>
bindO (pickV v6_6 v_35 (Go.Value.bool false)) fun v14_39 =>
some (v14_39, H_36, n_37)
noncomputable def C41_0 (cal : Cal) (k : Nat) (v0 v1 : Value) (H : Hp) (n : Nat) : Res := B41_0 cal k v0 v1 H n
theorem h41_0 (cal : Cal) (k : Nat) (v0 v1 : Value) (H : Hp) (n : Nat) : bodyE P cal A (k + 1) 41 [v0, v1] H n = C41_0 cal k v0 v1 H n := by
  have h : bodyE P cal A (k + 1) 41 [v0, v1] H n = B41_0 cal k v0 v1 H n := by
    rw [body_eq (fn := Go.Proofs.Try.f41) (c := code41) (rs := results41) (by kernel_rfl) (by kernel_rfl) (by kernel_rfl) (by kernel_rfl)]
    kernel_rfl
  rw [h, C41_0]
noncomputable def code42 : Code := codeOf 42
noncomputable def results42 : List ResultVar := resOf 42
noncomputable def K42_p (cal : Cal) (k : Nat) : KC (Value × Hp × Nat) := (cutK (A 42).c (codeE P cal (codeF P cal k) none 42 (cR code42) (Lv.b (A 42)) (doneK P results42) X0 (doneK P results42)))
noncomputable def K42_pr (cal : Cal) (k : Nat) : KC (Value × Hp × Nat) := (cutK (Lv.b (A 42)).c (codeE P cal (codeF P cal k) none 42 (cR (cR code42)) (Lv.b (Lv.b (A 42))) (doneK P results42) X0 (doneK P results42)))
noncomputable def B42_0 (cal : Cal) (k : Nat) (v0 v1 : Value) (H : Hp) (n : Nat) : Res :=
rowK P 31 1 [(0, v1)] H n fun v7_4 H_5 n_6 =>
callFK P cal 29 [v7_4] H_5 n_6 fun v8_7 H_8 n_9 =>
callFK P cal 43 [v0, v8_7] H_8 n_9 fun v9_10 H_11 n_12 =>
some (v9_10, H_11, n_12)
noncomputable def C42_0 (cal : Cal) (k : Nat) (v0 v1 : Value) (H : Hp) (n : Nat) : Res := B42_0 cal k v0 v1 H n
theorem h42_0 (cal : Cal) (k : Nat) (v0 v1 : Value) (H : Hp) (n : Nat) : bodyE P cal A (k + 1) 42 [v0, v1] H n = C42_0 cal k v0 v1 H n := by
  have h : bodyE P cal A (k + 1) 42 [v0, v1] H n = B42_0 cal k v0 v1 H n := by
    rw [body_eq (fn := Go.Proofs.Try.f42) (c := code42) (rs := results42) (by kernel_rfl) (by kernel_rfl) (by kernel_rfl) (by kernel_rfl)]
    kernel_rfl
  rw [h, C42_0]
noncomputable def code43 : Code := codeOf 43
noncomputable def results43 : List ResultVar := resOf 43
noncomputable def K43_p (cal : Cal) (k : Nat) : KC (Value × Hp × Nat) := (cutK (A 43).c (codeE P cal (codeF P cal k) none 43 (cR code43) (Lv.b (A 43)) (doneK P results43) X0 (doneK P results43)))
noncomputable def K43_pr (cal : Cal) (k : Nat) : KC (Value × Hp × Nat) := (cutK (Lv.b (A 43)).c (codeE P cal (codeF P cal k) none 43 (cR (cR code43)) (Lv.b (Lv.b (A 43))) (doneK P results43) X0 (doneK P results43)))
noncomputable def B43_0 (cal : Cal) (k : Nat) (v0 v1 : Value) (H : Hp) (n : Nat) : Res :=
binK P Go.BinOp.and 50 (Go.Operand.tmp 5) (Go.Operand.tmp 6) v0 v1 fun v7_4 =>
binK P Go.BinOp.neq 50 (Go.Operand.tmp 7) (Go.Operand.const (Go.Value.int Go.IntKind.u64 0)) v7_4 (Go.Value.int Go.IntKind.u64 0) fun v8_5 =>
some (v8_5, H, n)
noncomputable def C43_0 (cal : Cal) (k : Nat) (v0 v1 : Value) (H : Hp) (n : Nat) : Res := B43_0 cal k v0 v1 H n
theorem h43_0 (cal : Cal) (k : Nat) (v0 v1 : Value) (H : Hp) (n : Nat) : bodyE P cal A (k + 1) 43 [v0, v1] H n = C43_0 cal k v0 v1 H n := by
  have h : bodyE P cal A (k + 1) 43 [v0, v1] H n = B43_0 cal k v0 v1 H n := by
    rw [body_eq (fn := Go.Proofs.Try.f43) (c := code43) (rs := results43) (by kernel_rfl) (by kernel_rfl) (by kernel_rfl) (by kernel_rfl)]
    kernel_rfl
  rw [h, C43_0]
noncomputable def code45 : Code := codeOf 45
noncomputable def results45 : List ResultVar := resOf 45
noncomputable def K45_p (cal : Cal) (k : Nat) : KC (Value × Hp × Nat) := (cutK (A 45).c (codeE P cal (codeF P cal k) none 45 (cR code45) (Lv.b (A 45)) (doneK P results45) X0 (doneK P results45)))
noncomputable def K45_prr (cal : Cal) (k : Nat) : KC (Value × Hp × Nat) := (cutK (Lv.b (Lv.b (A 45))).c (codeE P cal (codeF P cal k) none 45 (cR (cR (cR code45))) (Lv.b (Lv.b (Lv.b (A 45)))) (doneK P results45) X0 (doneK P results45)))
noncomputable def K45_prrr (cal : Cal) (k : Nat) : KC (Value × Hp × Nat) := (cutK (Lv.b (Lv.b (Lv.b (A 45)))).c (codeE P cal (codeF P cal k) none 45 (cR (cR (cR (cR code45)))) (Lv.b (Lv.b (Lv.b (Lv.b (A 45))))) (doneK P results45) X0 (doneK P results45)))
noncomputable def K45_prrrl (cal : Cal) (k : Nat) : KC (Value × Hp × Nat) := (cutK (Lv.a (Lv.b (Lv.b (Lv.b (A 45))))).c (codeE P cal (codeF P cal k) none 45 (cR (cL (cR (cR (cR code45))))) (Lv.b (Lv.a (Lv.b (Lv.b (Lv.b (A 45)))))) (K45_prrr cal k) X0 (doneK P results45)))
noncomputable def K45_pxrrrlr (cal : Cal) (k : Nat) : XC (Value × Hp × Nat) := (upX 0 (K45_prrr cal k) X0)
noncomputable def K45_prrrlrl (cal : Cal) (k : Nat) (m1 : Nat) : KC (Value × Hp × Nat) := (fun T H n D => codeF P cal m1 (Lv.a (Lv.b (Lv.a (Lv.b (Lv.b (Lv.b (A 45))))))) none 45 (cL (cR (cL (cR (cR (cR code45)))))) (K45_prrr cal k) (K45_pxrrrlr cal k) (doneK P results45) (cutT (Lv.a (Lv.b (Lv.a (Lv.b (Lv.b (Lv.b (A 45))))))).c T) H n D)
noncomputable def K45_prrrlrll (cal : Cal) (k : Nat) (m1 : Nat) : KC (Value × Hp × Nat) := (cutK (Lv.a (Lv.a (Lv.b (Lv.a (Lv.b (Lv.b (Lv.b (A 45)))))))).c (codeE P cal (codeF P cal m1) none 45 (cR (cL (cL (cR (cL (cR (cR (cR code45)))))))) (Lv.b (Lv.a (Lv.a (Lv.b (Lv.a (Lv.b (Lv.b (Lv.b (A 45))))))))) (K45_prrrlrl cal k m1) (K45_pxrrrlr cal k) (doneK P results45)))
noncomputable def K45_prrrlrlll (cal : Cal) (k : Nat) (m1 : Nat) : KC (Value × Hp × Nat) := (cutK (Lv.a (Lv.a (Lv.a (Lv.b (Lv.a (Lv.b (Lv.b (Lv.b (A 45))))))))).c (codeE P cal (codeF P cal m1) none 45 (cR (cL (cL (cL (cR (cL (cR (cR (cR code45))))))))) (Lv.b (Lv.a (Lv.a (Lv.a (Lv.b (Lv.a (Lv.b (Lv.b (Lv.b (A 45)))))))))) (K45_prrrlrll cal k m1) (K45_pxrrrlr cal k) (doneK P results45)))
noncomputable def K45_prrrlrllr (cal : Cal) (k : Nat) (m1 : Nat) : KC (Value × Hp × Nat) := (cutK (Lv.b (Lv.a (Lv.a (Lv.b (Lv.a (Lv.b (Lv.b (Lv.b (A 45))))))))).c (codeE P cal (codeF P cal m1) none 45 (cR (cR (cL (cL (cR (cL (cR (cR (cR code45))))))))) (Lv.b (Lv.b (Lv.a (Lv.a (Lv.b (Lv.a (Lv.b (Lv.b (Lv.b (A 45)))))))))) (K45_prrrlrl cal k m1) (K45_pxrrrlr cal k) (doneK P results45)))
noncomputable def K45_pxrrrlrllrl (cal : Cal) (k : Nat) (m1 : Nat) : XC (Value × Hp × Nat) := (upX 1 (K45_prrrlrllr cal k m1) (K45_pxrrrlr cal k))
noncomputable def K45_prrrlrllrll (cal : Cal) (k : Nat) (m1 : Nat) : KC (Value × Hp × Nat) := (cutK (Lv.a (Lv.a (Lv.b (Lv.a (Lv.a (Lv.b (Lv.a (Lv.b (Lv.b (Lv.b (A 45))))))))))).c (codeE P cal (codeF P cal m1) none 45 (cR (cL (cL (cR (cL (cL (cR (cL (cR (cR (cR code45))))))))))) (Lv.b (Lv.a (Lv.a (Lv.b (Lv.a (Lv.a (Lv.b (Lv.a (Lv.b (Lv.b (Lv.b (A 45)))))))))))) (K45_prrrlrllr cal k m1) (K45_pxrrrlrllrl cal k m1) (doneK P results45)))
noncomputable def K45_prrrr (cal : Cal) (k : Nat) : KC (Value × Hp × Nat) := (cutK (Lv.b (Lv.b (Lv.b (Lv.b (A 45))))).c (codeE P cal (codeF P cal k) none 45 (cR (cR (cR (cR (cR code45))))) (Lv.b (Lv.b (Lv.b (Lv.b (Lv.b (A 45)))))) (doneK P results45) X0 (doneK P results45)))
noncomputable def K45_pr (cal : Cal) (k : Nat) : KC (Value × Hp × Nat) := (cutK (Lv.b (A 45)).c (codeE P cal (codeF P cal k) none 45 (cR (cR code45)) (Lv.b (Lv.b (A 45))) (doneK P results45) X0 (doneK P results45)))
noncomputable def K45_prl (cal : Cal) (k : Nat) : KC (Value × Hp × Nat) := (cutK (Lv.a (Lv.b (A 45))).c (codeE P cal (codeF P cal k) none 45 (cR (cL (cR code45))) (Lv.b (Lv.a (Lv.b (A 45)))) (K45_pr cal k) X0 (doneK P results45)))
noncomputable def E45_3 (cal : Cal) (k m1 : Nat) : KC (Value × Hp × Nat) := codeE P cal (codeF P cal m1) none 45 (cR (cR (cL (cL (cR (cL (cR (cR (cR code45))))))))) (Lv.b (Lv.b (Lv.a (Lv.a (Lv.b (Lv.a (Lv.b (Lv.b (Lv.b (A 45)))))))))) (K45_prrrlrl cal k m1) (K45_pxrrrlr cal k) (doneK P results45)
noncomputable def E45_2 (cal : Cal) (k m1 : Nat) : KC (Value × Hp × Nat) := codeE P cal (codeF P cal m1) none 45 (cL (cL (cR (cL (cR (cR (cR code45))))))) (Lv.a (Lv.a (Lv.b (Lv.a (Lv.b (Lv.b (Lv.b (A 45)))))))) (K45_prrrlrl cal k m1) (K45_pxrrrlr cal k) (doneK P results45)
noncomputable def R45_2 (cal : Cal) (k m1 : Nat) : Value → Value → Value → Value → Hp → Nat → Res := fun u0 u1 u5 u6 H n => codeF P cal m1 (Lv.a (Lv.b (Lv.a (Lv.b (Lv.b (Lv.b (A 45))))))) none 45 (cL (cR (cL (cR (cR (cR code45)))))) (K45_prrr cal k) (K45_pxrrrlr cal k) (doneK P results45) (Tr.set (Tr.set (Tr.set (Tr.set Tr.nil 6 (some u6)) 5 (some u5)) 1 (some u1)) 0 (some u0)) H n []
noncomputable def E45_1 (cal : Cal) (k : Nat) : KC (Value × Hp × Nat) := codeE P cal (codeF P cal k) none 45 (cR (cR code45)) (Lv.b (Lv.b (A 45))) (doneK P results45) X0 (doneK P results45)
noncomputable def B45_3 (cal : Cal) (k m1 : Nat) (b2 : Value → Value → Value → Value → Hp → Nat → Res) (u0 u1 u5 u6 : Value) (H : Hp) (n : Nat) : Res :=
binK P Go.BinOp.add 3 (Go.Operand.tmp 18) (Go.Operand.const (Go.Value.int Go.IntKind.i64 1)) u6 (Go.Value.int Go.IntKind.i64 1) fun v19_13 =>
b2 u0 u1 u5 v19_13 H n
noncomputable def C45_3 (cal : Cal) (k m1 : Nat) (b2 : Value → Value → Value → Value → Hp → Nat → Res) (u0 u1 u5 u6 : Value) (H : Hp) (n : Nat) : Res := B45_3 cal k m1 b2 u0 u1 u5 u6 H n
theorem h45_3 (cal : Cal) (k m1 : Nat) (u0 u1 u5 u6 : Value) (H : Hp) (n : Nat) : labK (E45_3 cal k m1) (Tr.set (Tr.set (Tr.set (Tr.set Tr.nil 6 (some u6)) 5 (some u5)) 1 (some u1)) 0 (some u0)) H n [] = C45_3 cal k m1 (R45_2 cal k m1) u0 u1 u5 u6 H n := by
  have h : labK (E45_3 cal k m1) (Tr.set (Tr.set (Tr.set (Tr.set Tr.nil 6 (some u6)) 5 (some u5)) 1 (some u1)) 0 (some u0)) H n [] = B45_3 cal k m1 (R45_2 cal k m1) u0 u1 u5 u6 H n := by kernel_rfl
  rw [h, C45_3]
theorem q45_3 (cal : Cal) (k m1 : Nat) (u0 u1 u5 u6 : Value) (H : Hp) (n : Nat) : labK (E45_3 cal k m1) (Tr.set (Tr.set (Tr.set (Tr.set Tr.nil 6 (some u6)) 5 (some u5)) 1 (some u1)) 0 (some u0)) H n [] = C45_3 cal k m1 (R45_2 cal k m1) u0 u1 u5 u6 H n := h45_3 ..
noncomputable def B45_2 (cal : Cal) (k m1 : Nat) (j3 : Value → Value → Value → Value → Hp → Nat → Res) (b2 : Value → Value → Value → Value → Hp → Nat → Res) (u0 u1 u5 u6 : Value) (H : Hp) (n : Nat) : Res :=
bindO (lenV P 31 u0) fun v16_10 =>
binK P Go.BinOp.lss 3 (Go.Operand.tmp 14) (Go.Operand.tmp 16) u6 v16_10 fun v17_11 =>
ifK v17_11 (
bindO (indexAddrV P 31 u0 u6) fun v23_18 =>
bindO (addrV v23_18) fun a_20 => bindO (loadV P H 3 a_20) fun v24_19 =>
callVK P cal u1 [v24_19, u5] H n fun v26_22 H_23 n_24 =>
binK P Go.BinOp.gtr 3 (Go.Operand.tmp 26) (Go.Operand.const (Go.Value.int Go.IntKind.i64 0)) v26_22 (Go.Value.int Go.IntKind.i64 0) fun v27_25 =>
ifK v27_25 (
bindO (indexAddrV P 31 u0 u6) fun v30_28 =>
bindO (addrV v30_28) fun a_30 => bindO (loadV P H_23 3 a_30) fun v31_29 =>
j3 u0 u1 v31_29 u6 H_23 n_24) (
j3 u0 u1 u5 u6 H_23 n_24)) (
some (u5, H, n))
noncomputable def C45_2 (cal : Cal) (k m1 : Nat) (b2 : Value → Value → Value → Value → Hp → Nat → Res) (u0 u1 u5 u6 : Value) (H : Hp) (n : Nat) : Res := B45_2 cal k m1 (C45_3 cal k m1 b2) b2 u0 u1 u5 u6 H n
noncomputable def S45_2 (cal : Cal) (k : Nat) : Nat → Value → Value → Value → Value → Hp → Nat → Res := fun m => Nat.rec (motive := fun _ => Value → Value → Value → Value → Hp → Nat → Res) (C45_2 cal k 0 (fun _ _ _ _ _ _ => none)) (fun m ih => C45_2 cal k (m + 1) ih) m
theorem h45_2 (cal : Cal) (k m1 : Nat) (u0 u1 u5 u6 : Value) (H : Hp) (n : Nat) : labK (E45_2 cal k m1) (Tr.set (Tr.set (Tr.set (Tr.set Tr.nil 6 (some u6)) 5 (some u5)) 1 (some u1)) 0 (some u0)) H n [] = C45_2 cal k m1 (R45_2 cal k m1) u0 u1 u5 u6 H n := by
  have h : labK (E45_2 cal k m1) (Tr.set (Tr.set (Tr.set (Tr.set Tr.nil 6 (some u6)) 5 (some u5)) 1 (some u1)) 0 (some u0)) H n [] = B45_2 cal k m1 (fun u0 u1 u5 u6 H n => labK (E45_3 cal k m1) (Tr.set (Tr.set (Tr.set (Tr.set Tr.nil 6 (some u6)) 5 (some u5)) 1 (some u1)) 0 (some u0)) H n []) (R45_2 cal k m1) u0 u1 u5 u6 H n := by kernel_rfl
  rw [h, C45_2]
  have e3 : (fun u0 u1 u5 u6 H n => labK (E45_3 cal k m1) (Tr.set (Tr.set (Tr.set (Tr.set Tr.nil 6 (some u6)) 5 (some u5)) 1 (some u1)) 0 (some u0)) H n []) = (C45_3 cal k m1 (R45_2 cal k m1)) := by funext u0 u1 u5 u6 H n; exact q45_3 ..
  rw [e3]
theorem q45_2 (cal : Cal) (k : Nat) : ∀ (m : Nat) (u0 u1 u5 u6 : Value) (H : Hp) (n : Nat), labK (E45_2 cal k m) (Tr.set (Tr.set (Tr.set (Tr.set Tr.nil 6 (some u6)) 5 (some u5)) 1 (some u1)) 0 (some u0)) H n [] = S45_2 cal k m u0 u1 u5 u6 H n
  | 0, u0, u1, u5, u6, H, n => by
    rw [h45_2]
    have e : R45_2 cal k 0 = fun _ _ _ _ _ _ => none := by funext u0 u1 u5 u6 H n; kernel_rfl
    rw [e]; rfl
  | m + 1, u0, u1, u5, u6, H, n => by
    rw [h45_2]
    have e : R45_2 cal k (m + 1) = S45_2 cal k m := by
      funext u0 u1 u5 u6 H n
      have e : R45_2 cal k (m + 1) u0 u1 u5 u6 H n = labK (E45_2 cal k m) (Tr.set (Tr.set (Tr.set (Tr.set Tr.nil 6 (some u6)) 5 (some u5)) 1 (some u1)) 0 (some u0)) H n [] := by kernel_rfl
      rw [e]; exact q45_2 ..
    rw [e]; rfl
noncomputable def B45_1 (cal : Cal) (k : Nat) (j2 : Value → Value → Value → Value → Hp → Nat → Res) (u0 u1 : Value) (H : Hp) (n : Nat) : Res :=
bindO (indexAddrV P 31 u0 (Go.Value.int Go.IntKind.i64 0)) fun v12_3 =>
bindO (addrV v12_3) fun a_5 => bindO (loadV P H 3 a_5) fun v13_4 =>
j2 u0 u1 v13_4 (Go.Value.int Go.IntKind.i64 1) H n
noncomputable def C45_1 (cal : Cal) (k : Nat) (u0 u1 : Value) (H : Hp) (n : Nat) : Res := B45_1 cal k (S45_2 cal k k) u0 u1 H n
theorem h45_1 (cal : Cal) (k : Nat) (u0 u1 : Value) (H : Hp) (n : Nat) : labK (E45_1 cal k) (Tr.set (Tr.set Tr.nil 1 (some u1)) 0 (some u0)) H n [] = C45_1 cal k u0 u1 H n := by
  have h : labK (E45_1 cal k) (Tr.set (Tr.set Tr.nil 1 (some u1)) 0 (some u0)) H n [] = B45_1 cal k (fun u0 u1 u5 u6 H n => labK (E45_2 cal k k) (Tr.set (Tr.set (Tr.set (Tr.set Tr.nil 6 (some u6)) 5 (some u5)) 1 (some u1)) 0 (some u0)) H n []) u0 u1 H n := by kernel_rfl
  rw [h, C45_1]
  have e2 : (fun u0 u1 u5 u6 H n => labK (E45_2 cal k k) (Tr.set (Tr.set (Tr.set (Tr.set Tr.nil 6 (some u6)) 5 (some u5)) 1 (some u1)) 0 (some u0)) H n []) = (S45_2 cal k k) := by funext u0 u1 u5 u6 H n; exact q45_2 ..
  rw [e2]
theorem q45_1 (cal : Cal) (k : Nat) (u0 u1 : Value) (H : Hp) (n : Nat) : labK (E45_1 cal k) (Tr.set (Tr.set Tr.nil 1 (some u1)) 0 (some u0)) H n [] = C45_1 cal k u0 u1 H n := h45_1 ..
noncomputable def B45_0 (cal : Cal) (k : Nat) (j1 : Value → Value → Hp → Nat → Res) (v0 v1 : Value) (H : Hp) (n : Nat) : Res :=
bindO (lenV P 31 v0) fun v8_35 =>
binK P Go.BinOp.lss 3 (Go.Operand.tmp 8) (Go.Operand.const (Go.Value.int Go.IntKind.i64 1)) v8_35 (Go.Value.int Go.IntKind.i64 1) fun v9_36 =>
ifK v9_36 (
none) (
j1 v0 v1 H n)
noncomputable def C45_0 (cal : Cal) (k : Nat) (v0 v1 : Value) (H : Hp) (n : Nat) : Res := B45_0 cal k (C45_1 cal k) v0 v1 H n
theorem h45_0 (cal : Cal) (k : Nat) (v0 v1 : Value) (H : Hp) (n : Nat) : bodyE P cal A (k + 1) 45 [v0, v1] H n = C45_0 cal k v0 v1 H n := by
  have h : bodyE P cal A (k + 1) 45 [v0, v1] H n = B45_0 cal k (fun u0 u1 H n => labK (E45_1 cal k) (Tr.set (Tr.set Tr.nil 1 (some u1)) 0 (some u0)) H n []) v0 v1 H n := by
    rw [body_eq (fn := Go.Proofs.Try.f45) (c := code45) (rs := results45) (by kernel_rfl) (by kernel_rfl) (by kernel_rfl) (by kernel_rfl)]
    kernel_rfl
  rw [h, C45_0]
  have e1 : (fun u0 u1 H n => labK (E45_1 cal k) (Tr.set (Tr.set Tr.nil 1 (some u1)) 0 (some u0)) H n []) = (C45_1 cal k) := by funext u0 u1 H n; exact q45_1 ..
  rw [e1]
noncomputable def code46 : Code := codeOf 46
noncomputable def results46 : List ResultVar := resOf 46
noncomputable def K46_p (cal : Cal) (k : Nat) : KC (Value × Hp × Nat) := (cutK (A 46).c (codeE P cal (codeF P cal k) none 46 (cR code46) (Lv.b (A 46)) (doneK P results46) X0 (doneK P results46)))
noncomputable def K46_pr (cal : Cal) (k : Nat) : KC (Value × Hp × Nat) := (cutK (Lv.b (A 46)).c (codeE P cal (codeF P cal k) none 46 (cR (cR code46)) (Lv.b (Lv.b (A 46))) (doneK P results46) X0 (doneK P results46)))
noncomputable def B46_0 (cal : Cal) (k : Nat) (v0 v1 v2 v3 : Value) (H : Hp) (n : Nat) : Res :=
bindO (addrV v2) fun a_2 => bindO (loadV P H 98 a_2) fun v_3 =>
bindO (addrV v3) fun a_4 => bindO (loadV P H 3 a_4) fun v_5 =>
bindO (buildP P 103 [(0, v_5), (1, v0)]) fun v10_7 =>
bindO (lookupV P H 98 v_3 v10_7 false) fun v_8 =>
bindO (addrV v2) fun a_9 => bindO (loadV P H 98 a_9) fun v_10 =>
bindO (addrV v3) fun a_11 => bindO (loadV P H 3 a_11) fun v_12 =>
bindO (buildP P 103 [(0, v_12), (1, v1)]) fun v15_14 =>
bindO (lookupV P H 98 v_10 v15_14 false) fun v_15 =>
callFK P cal 47 [v_8, v_15] H n fun v17_16 H_17 n_18 =>
some (v17_16, H_17, n_18)
noncomputable def C46_0 (cal : Cal) (k : Nat) (v0 v1 v2 v3 : Value) (H : Hp) (n : Nat) : Res := B46_0 cal k v0 v1 v2 v3 H n
theorem h46_0 (cal : Cal) (k : Nat) (v0 v1 v2 v3 : Value) (H : Hp) (n : Nat) : bodyE P cal A (k + 1) 46 [v0, v1, v2, v3] H n = C46_0 cal k v0 v1 v2 v3 H n := by
  have h : bodyE P cal A (k + 1) 46 [v0, v1, v2, v3] H n = B46_0 cal k v0 v1 v2 v3 H n := by
    rw [body_eq (fn := Go.Proofs.Try.f46) (c := code46) (rs := results46) (by kernel_rfl) (by kernel_rfl) (by kernel_rfl) (by kernel_rfl)]
    kernel_rfl
  rw [h, C46_0]
end Go.Proofs.Ytakjjillnllocab.P
