/- The texts of functions, each with the proof that the evaluator says the same. -/
import Derived.Test.YtakjjillnllocaaG1
open Go Go.Ev
set_option maxRecDepth 1000000
set_option linter.unusedVariables false
noncomputable section
namespace Go.Proofs.Ytakjjillnllocaa.G
noncomputable def code89 : Code := codeOf 89
noncomputable def results89 : List ResultVar := resOf 89
noncomputable def K89_p (cal : Cal) (k : Nat) : KC (Value × Hp × Nat) := (cutK (A 89).c (codeE P cal (codeF P cal k) none 89 (cR code89) (Lv.b (A 89)) (doneK P results89) X0 (doneK P results89)))
noncomputable def K89_pr (cal : Cal) (k : Nat) : KC (Value × Hp × Nat) := (cutK (Lv.b (A 89)).c (codeE P cal (codeF P cal k) none 89 (cR (cR code89)) (Lv.b (Lv.b (A 89))) (doneK P results89) X0 (doneK P results89)))
noncomputable def K89_prl (cal : Cal) (k : Nat) : KC (Value × Hp × Nat) := (cutK (Lv.a (Lv.b (A 89))).c (codeE P cal (codeF P cal k) none 89 (cR (cL (cR code89))) (Lv.b (Lv.a (Lv.b (A 89)))) (K89_pr cal k) X0 (doneK P results89)))
noncomputable def K89_pxrlr (cal : Cal) (k : Nat) : XC (Value × Hp × Nat) := (upX 0 (K89_pr cal k) X0)
noncomputable def K89_prlrl (cal : Cal) (k : Nat) (m1 : Nat) : KC (Value × Hp × Nat) := (fun T H n D => codeF P cal m1 (Lv.a (Lv.b (Lv.a (Lv.b (A 89))))) none 89 (cL (cR (cL (cR code89)))) (K89_pr cal k) (K89_pxrlr cal k) (doneK P results89) (cutT (Lv.a (Lv.b (Lv.a (Lv.b (A 89))))).c T) H n D)
noncomputable def K89_prlrll (cal : Cal) (k : Nat) (m1 : Nat) : KC (Value × Hp × Nat) := (cutK (Lv.a (Lv.a (Lv.b (Lv.a (Lv.b (A 89)))))).c (codeE P cal (codeF P cal m1) none 89 (cR (cL (cL (cR (cL (cR code89)))))) (Lv.b (Lv.a (Lv.a (Lv.b (Lv.a (Lv.b (A 89))))))) (K89_prlrl cal k m1) (K89_pxrlr cal k) (doneK P results89)))
noncomputable def K89_prlrlll (cal : Cal) (k : Nat) (m1 : Nat) : KC (Value × Hp × Nat) := (cutK (Lv.a (Lv.a (Lv.a (Lv.b (Lv.a (Lv.b (A 89))))))).c (codeE P cal (codeF P cal m1) none 89 (cR (cL (cL (cL (cR (cL (cR code89))))))) (Lv.b (Lv.a (Lv.a (Lv.a (Lv.b (Lv.a (Lv.b (A 89)))))))) (K89_prlrll cal k m1) (K89_pxrlr cal k) (doneK P results89)))
noncomputable def K89_prlrllr (cal : Cal) (k : Nat) (m1 : Nat) : KC (Value × Hp × Nat) := (cutK (Lv.b (Lv.a (Lv.a (Lv.b (Lv.a (Lv.b (A 89))))))).c (codeE P cal (codeF P cal m1) none 89 (cR (cR (cL (cL (cR (cL (cR code89))))))) (Lv.b (Lv.b (Lv.a (Lv.a (Lv.b (Lv.a (Lv.b (A 89)))))))) (K89_prlrl cal k m1) (K89_pxrlr cal k) (doneK P results89)))
noncomputable def K89_pxrlrllrl (cal : Cal) (k : Nat) (m1 : Nat) : XC (Value × Hp × Nat) := (upX 1 (K89_prlrllr cal k m1) (K89_pxrlr cal k))
noncomputable def K89_prlrllrll (cal : Cal) (k : Nat) (m1 : Nat) : KC (Value × Hp × Nat) := (cutK (Lv.a (Lv.a (Lv.b (Lv.a (Lv.a (Lv.b (Lv.a (Lv.b (A 89))))))))).c (codeE P cal (codeF P cal m1) none 89 (cR (cL (cL (cR (cL (cL (cR (cL (cR code89))))))))) (Lv.b (Lv.a (Lv.a (Lv.b (Lv.a (Lv.a (Lv.b (Lv.a (Lv.b (A 89)))))))))) (K89_prlrllr cal k m1) (K89_pxrlrllrl cal k m1) (doneK P results89)))
noncomputable def K89_prlrllrllr (cal : Cal) (k : Nat) (m1 : Nat) : KC (Value × Hp × Nat) := (cutK (Lv.b (Lv.a (Lv.a (Lv.b (Lv.a (Lv.a (Lv.b (Lv.a (Lv.b (A 89)))))))))).c (codeE P cal (codeF P cal m1) none 89 (cR (cR (cL (cL (cR (cL (cL (cR (cL (cR code89)))))))))) (Lv.b (Lv.b (Lv.a (Lv.a (Lv.b (Lv.a (Lv.a (Lv.b (Lv.a (Lv.b (A 89))))))))))) (K89_prlrllr cal k m1) (K89_pxrlrllrl cal k m1) (doneK P results89)))
noncomputable def K89_prlrllrllrrl (cal : Cal) (k : Nat) (m1 : Nat) : KC (Value × Hp × Nat) := (cutK (Lv.a (Lv.b (Lv.b (Lv.a (Lv.a (Lv.b (Lv.a (Lv.a (Lv.b (Lv.a (Lv.b (A 89)))))))))))).c (codeE P cal (codeF P cal m1) none 89 (cR (cL (cR (cR (cL (cL (cR (cL (cL (cR (cL (cR code89)))))))))))) (Lv.b (Lv.a (Lv.b (Lv.b (Lv.a (Lv.a (Lv.b (Lv.a (Lv.a (Lv.b (Lv.a (Lv.b (A 89))))))))))))) (K89_prlrllr cal k m1) (K89_pxrlrllrl cal k m1) (doneK P results89)))
noncomputable def K89_prr (cal : Cal) (k : Nat) : KC (Value × Hp × Nat) := (cutK (Lv.b (Lv.b (A 89))).c (codeE P cal (codeF P cal k) none 89 (cR (cR (cR code89))) (Lv.b (Lv.b (Lv.b (A 89)))) (doneK P results89) X0 (doneK P results89)))
noncomputable def E89_1 (cal : Cal) (k m1 : Nat) : KC (Value × Hp × Nat) := codeE P cal (codeF P cal m1) none 89 (cL (cL (cR (cL (cR code89))))) (Lv.a (Lv.a (Lv.b (Lv.a (Lv.b (A 89)))))) (K89_prlrl cal k m1) (K89_pxrlr cal k) (doneK P results89)
noncomputable def R89_1 (cal : Cal) (k m1 : Nat) : Value → Value → Value → Value → Hp → Nat → Res := fun u1 u2 u3 u7 H n => codeF P cal m1 (Lv.a (Lv.b (Lv.a (Lv.b (A 89))))) none 89 (cL (cR (cL (cR code89)))) (K89_pr cal k) (K89_pxrlr cal k) (doneK P results89) (Tr.set (Tr.set (Tr.set (Tr.set Tr.nil 7 (some u7)) 3 (some u3)) 2 (some u2)) 1 (some u1)) H n []
noncomputable def B89_1 (cal : Cal) (k m1 : Nat) (b1 : Value → Value → Value → Value → Hp → Nat → Res) (u1 u2 u3 u7 : Value) (H : Hp) (n : Nat) : Res :=
bindO (fieldAddrV P 26 u3 1) fun v10_7 =>
bindO (addrV v10_7) fun a_9 => bindO (loadV P H 23 a_9) fun v11_8 =>
bindO (lenV P 23 v11_8) fun v12_10 =>
binK P Go.BinOp.lss 3 (Go.Operand.tmp 9) (Go.Operand.tmp 12) u7 v12_10 fun v13_11 =>
ifK v13_11 (
bindO (fieldAddrV P 26 u3 1) fun v16_12 =>
bindO (addrV v16_12) fun a_14 => bindO (loadV P H 23 a_14) fun v17_13 =>
bindO (indexAddrV P 23 v17_13 u7) fun v19_16 =>
bindO (addrV v19_16) fun a_18 => bindO (loadV P H 104 a_18) fun v20_17 =>
allocK P 104 H n fun v8_19 H_20 n_21 =>
bindO (storeP P 104 v8_19 v20_17 H_20) fun H_23 =>
bindO (fieldAddrV P 104 v8_19 0) fun v21_24 =>
bindO (addrV v21_24) fun a_26 => bindO (loadV P H_23 3 a_26) fun v22_25 =>
binK P Go.BinOp.eql 3 (Go.Operand.tmp 22) (Go.Operand.tmp 23) v22_25 u1 fun v24_28 =>
guardK v24_28 true (fun k_30 =>
bindO (fieldAddrV P 104 v8_19 1) fun v26_34 =>
k_30 v26_34 H_23 n_21) H_23 n_21 fun v_31 H_32 n_33 =>
guardK v24_28 true (fun k_35 =>
bindO (addrV v_31) fun a_40 => bindO (loadV P H_32 3 a_40) fun v27_39 =>
k_35 v27_39 H_32 n_33) H_32 n_33 fun v_36 H_37 n_38 =>
guardK v24_28 true (fun k_41 =>
k_41 u2 H_37 n_38) H_37 n_38 fun v_42 H_43 n_44 =>
guardK v24_28 true (fun k_46 =>
binK P Go.BinOp.eql 3 (Go.Operand.tmp 27) (Go.Operand.tmp 28) v_36 v_42 fun v29_50 =>
k_46 v29_50 H_43 n_44) H_43 n_44 fun v_47 H_48 n_49 =>
bindO (pickV v24_28 v_47 (Go.Value.bool false)) fun v30_51 =>
guardK v30_51 false (fun k_53 =>
bindO (fieldAddrV P 104 v8_19 0) fun v32_57 =>
k_53 v32_57 H_48 n_49) H_48 n_49 fun v_54 H_55 n_56 =>
guardK v30_51 false (fun k_58 =>
bindO (addrV v_54) fun a_63 => bindO (loadV P H_55 3 a_63) fun v33_62 =>
k_58 v33_62 H_55 n_56) H_55 n_56 fun v_59 H_60 n_61 =>
guardK v30_51 false (fun k_64 =>
k_64 u2 H_60 n_61) H_60 n_61 fun v_65 H_66 n_67 =>
guardK v30_51 false (fun k_69 =>
binK P Go.BinOp.eql 3 (Go.Operand.tmp 33) (Go.Operand.tmp 34) v_59 v_65 fun v35_73 =>
k_69 v35_73 H_66 n_67) H_66 n_67 fun v_70 H_71 n_72 =>
guardK v30_51 false (fun k_74 =>
k_74 v_70 H_71 n_72) H_71 n_72 fun v_75 H_76 n_77 =>
guardK v_75 true (fun k_79 =>
bindO (fieldAddrV P 104 v8_19 1) fun v37_83 =>
k_79 v37_83 H_76 n_77) H_76 n_77 fun v_80 H_81 n_82 =>
guardK v_75 true (fun k_84 =>
bindO (addrV v_80) fun a_89 => bindO (loadV P H_81 3 a_89) fun v38_88 =>
k_84 v38_88 H_81 n_82) H_81 n_82 fun v_85 H_86 n_87 =>
guardK v_75 true (fun k_90 =>
k_90 u1 H_86 n_87) H_86 n_87 fun v_91 H_92 n_93 =>
guardK v_75 true (fun k_95 =>
binK P Go.BinOp.eql 3 (Go.Operand.tmp 38) (Go.Operand.tmp 39) v_85 v_91 fun v40_99 =>
k_95 v40_99 H_92 n_93) H_92 n_93 fun v_96 H_97 n_98 =>
guardK v30_51 false (fun k_100 =>
bindO (pickV v_75 v_96 (Go.Value.bool false)) fun v41_104 =>
k_100 v41_104 H_97 n_98) H_97 n_98 fun v_101 H_102 n_103 =>
bindO (pickV v30_51 (Go.Value.bool true) v_101) fun v42_105 =>
ifK v42_105 (
some ((Go.Value.bool true), H_102, n_103)) (
binK P Go.BinOp.add 3 (Go.Operand.tmp 14) (Go.Operand.const (Go.Value.int Go.IntKind.i64 1)) u7 (Go.Value.int Go.IntKind.i64 1) fun v15_108 =>
b1 u1 u2 u3 v15_108 H_102 n_103)) (
some ((Go.Value.bool false), H, n))
noncomputable def C89_1 (cal : Cal) (k m1 : Nat) (b1 : Value → Value → Value → Value → Hp → Nat → Res) (u1 u2 u3 u7 : Value) (H : Hp) (n : Nat) : Res := B89_1 cal k m1 b1 u1 u2 u3 u7 H n
noncomputable def S89_1 (cal : Cal) (k : Nat) : Nat → Value → Value → Value → Value → Hp → Nat → Res := fun m => Nat.rec (motive := fun _ => Value → Value → Value → Value → Hp → Nat → Res) (C89_1 cal k 0 (fun _ _ _ _ _ _ => none)) (fun m ih => C89_1 cal k (m + 1) ih) m
theorem h89_1 (cal : Cal) (k m1 : Nat) (u1 u2 u3 u7 : Value) (H : Hp) (n : Nat) : labK (E89_1 cal k m1) (Tr.set (Tr.set (Tr.set (Tr.set Tr.nil 7 (some u7)) 3 (some u3)) 2 (some u2)) 1 (some u1)) H n [] = C89_1 cal k m1 (R89_1 cal k m1) u1 u2 u3 u7 H n := by
  have h : labK (E89_1 cal k m1) (Tr.set (Tr.set (Tr.set (Tr.set Tr.nil 7 (some u7)) 3 (some u3)) 2 (some u2)) 1 (some u1)) H n [] = B89_1 cal k m1 (R89_1 cal k m1) u1 u2 u3 u7 H n := by kernel_rfl
  rw [h, C89_1]
theorem q89_1 (cal : Cal) (k : Nat) : ∀ (m : Nat) (u1 u2 u3 u7 : Value) (H : Hp) (n : Nat), labK (E89_1 cal k m) (Tr.set (Tr.set (Tr.set (Tr.set Tr.nil 7 (some u7)) 3 (some u3)) 2 (some u2)) 1 (some u1)) H n [] = S89_1 cal k m u1 u2 u3 u7 H n
  | 0, u1, u2, u3, u7, H, n => by
    rw [h89_1]
    have e : R89_1 cal k 0 = fun _ _ _ _ _ _ => none := by funext u1 u2 u3 u7 H n; kernel_rfl
    rw [e]; rfl
  | m + 1, u1, u2, u3, u7, H, n => by
    rw [h89_1]
    have e : R89_1 cal k (m + 1) = S89_1 cal k m := by
      funext u1 u2 u3 u7 H n
      have e : R89_1 cal k (m + 1) u1 u2 u3 u7 H n = labK (E89_1 cal k m) (Tr.set (Tr.set (Tr.set (Tr.set Tr.nil 7 (some u7)) 3 (some u3)) 2 (some u2)) 1 (some u1)) H n [] := by kernel_rfl
      rw [e]; exact q89_1 ..
    rw [e]; rfl
noncomputable def B89_0 (cal : Cal) (k : Nat) (j1 : Value → Value → Value → Value → Hp → Nat → Res) (v0 v1 v2 : Value) (H : Hp) (n : Nat) : Res :=
boxK 26 v0 H n fun v3_1 H_2 n_3 =>
j1 v1 v2 v3_1 (Go.Value.int Go.IntKind.i64 0) H_2 n_3
noncomputable def C89_0 (cal : Cal) (k : Nat) (v0 v1 v2 : Value) (H : Hp) (n : Nat) : Res := B89_0 cal k (S89_1 cal k k) v0 v1 v2 H n
theorem h89_0 (cal : Cal) (k : Nat) (v0 v1 v2 : Value) (H : Hp) (n : Nat) : bodyE P cal A (k + 1) 89 [v0, v1, v2] H n = C89_0 cal k v0 v1 v2 H n := by
  have h : bodyE P cal A (k + 1) 89 [v0, v1, v2] H n = B89_0 cal k (fun u1 u2 u3 u7 H n => labK (E89_1 cal k k) (Tr.set (Tr.set (Tr.set (Tr.set Tr.nil 7 (some u7)) 3 (some u3)) 2 (some u2)) 1 (some u1)) H n []) v0 v1 v2 H n := by
    rw [body_eq (fn := Go.Proofs.Try.f89) (c := code89) (rs := results89) (by kernel_rfl) (by kernel_rfl) (by kernel_rfl) (by kernel_rfl)]
    kernel_rfl
  rw [h, C89_0]
  have e1 : (fun u1 u2 u3 u7 H n => labK (E89_1 cal k k) (Tr.set (Tr.set (Tr.set (Tr.set Tr.nil 7 (some u7)) 3 (some u3)) 2 (some u2)) 1 (some u1)) H n []) = (S89_1 cal k k) := by funext u1 u2 u3 u7 H n; exact q89_1 ..
  rw [e1]
noncomputable def code91 : Code := codeOf 91
noncomputable def results91 : List ResultVar := resOf 91
noncomputable def K91_p (cal : Cal) (k : Nat) : KC (Value × Hp × Nat) := (cutK (A 91).c (codeE P cal (codeF P cal k) none 91 (cR code91) (Lv.b (A 91)) (doneK P results91) X0 (doneK P results91)))
noncomputable def K91_pr (cal : Cal) (k : Nat) : KC (Value × Hp × Nat) := (cutK (Lv.b (A 91)).c (codeE P cal (codeF P cal k) none 91 (cR (cR code91)) (Lv.b (Lv.b (A 91))) (doneK P results91) X0 (doneK P results91)))
noncomputable def K91_prl (cal : Cal) (k : Nat) : KC (Value × Hp × Nat) := (cutK (Lv.a (Lv.b (A 91))).c (codeE P cal (codeF P cal k) none 91 (cR (cL (cR code91))) (Lv.b (Lv.a (Lv.b (A 91)))) (K91_pr cal k) X0 (doneK P results91)))
noncomputable def K91_pxrlr (cal : Cal) (k : Nat) : XC (Value × Hp × Nat) := (upX 0 (K91_pr cal k) X0)
noncomputable def K91_prlrl (cal : Cal) (k : Nat) (m1 : Nat) : KC (Value × Hp × Nat) := (fun T H n D => codeF P cal m1 (Lv.a (Lv.b (Lv.a (Lv.b (A 91))))) none 91 (cL (cR (cL (cR code91)))) (K91_pr cal k) (K91_pxrlr cal k) (doneK P results91) (cutT (Lv.a (Lv.b (Lv.a (Lv.b (A 91))))).c T) H n D)
noncomputable def K91_prlrll (cal : Cal) (k : Nat) (m1 : Nat) : KC (Value × Hp × Nat) := (cutK (Lv.a (Lv.a (Lv.b (Lv.a (Lv.b (A 91)))))).c (codeE P cal (codeF P cal m1) none 91 (cR (cL (cL (cR (cL (cR code91)))))) (Lv.b (Lv.a (Lv.a (Lv.b (Lv.a (Lv.b (A 91))))))) (K91_prlrl cal k m1) (K91_pxrlr cal k) (doneK P results91)))
noncomputable def K91_prlrllr (cal : Cal) (k : Nat) (m1 : Nat) : KC (Value × Hp × Nat) := (cutK (Lv.b (Lv.a (Lv.a (Lv.b (Lv.a (Lv.b (A 91))))))).c (codeE P cal (codeF P cal m1) none 91 (cR (cR (cL (cL (cR (cL (cR code91))))))) (Lv.b (Lv.b (Lv.a (Lv.a (Lv.b (Lv.a (Lv.b (A 91)))))))) (K91_prlrl cal k m1) (K91_pxrlr cal k) (doneK P results91)))
noncomputable def K91_prlrllrr (cal : Cal) (k : Nat) (m1 : Nat) : KC (Value × Hp × Nat) := (cutK (Lv.b (Lv.b (Lv.a (Lv.a (Lv.b (Lv.a (Lv.b (A 91)))))))).c (codeE P cal (codeF P cal m1) none 91 (cR (cR (cR (cL (cL (cR (cL (cR code91)))))))) (Lv.b (Lv.b (Lv.b (Lv.a (Lv.a (Lv.b (Lv.a (Lv.b (A 91))))))))) (K91_prlrl cal k m1) (K91_pxrlr cal k) (doneK P results91)))
noncomputable def K91_pxrlrllrrl (cal : Cal) (k : Nat) (m1 : Nat) : XC (Value × Hp × Nat) := (upX 1 (K91_prlrllrr cal k m1) (K91_pxrlr cal k))
noncomputable def K91_prlrllrrll (cal : Cal) (k : Nat) (m1 : Nat) : KC (Value × Hp × Nat) := (cutK (Lv.a (Lv.a (Lv.b (Lv.b (Lv.a (Lv.a (Lv.b (Lv.a (Lv.b (A 91)))))))))).c (codeE P cal (codeF P cal m1) none 91 (cR (cL (cL (cR (cR (cL (cL (cR (cL (cR code91)))))))))) (Lv.b (Lv.a (Lv.a (Lv.b (Lv.b (Lv.a (Lv.a (Lv.b (Lv.a (Lv.b (A 91))))))))))) (K91_prlrllrr cal k m1) (K91_pxrlrllrrl cal k m1) (doneK P results91)))
noncomputable def K91_prlrllrrllr (cal : Cal) (k : Nat) (m1 : Nat) : KC (Value × Hp × Nat) := (cutK (Lv.b (Lv.a (Lv.a (Lv.b (Lv.b (Lv.a (Lv.a (Lv.b (Lv.a (Lv.b (A 91))))))))))).c (codeE P cal (codeF P cal m1) none 91 (cR (cR (cL (cL (cR (cR (cL (cL (cR (cL (cR code91))))))))))) (Lv.b (Lv.b (Lv.a (Lv.a (Lv.b (Lv.b (Lv.a (Lv.a (Lv.b (Lv.a (Lv.b (A 91)))))))))))) (K91_prlrllrr cal k m1) (K91_pxrlrllrrl cal k m1) (doneK P results91)))
noncomputable def K91_prlrllrrllrrl (cal : Cal) (k : Nat) (m1 : Nat) : KC (Value × Hp × Nat) := (cutK (Lv.a (Lv.b (Lv.b (Lv.a (Lv.a (Lv.b (Lv.b (Lv.a (Lv.a (Lv.b (Lv.a (Lv.b (A 91))))))))))))).c (codeE P cal (codeF P cal m1) none 91 (cR (cL (cR (cR (cL (cL (cR (cR (cL (cL (cR (cL (cR code91))))))))))))) (Lv.b (Lv.a (Lv.b (Lv.b (Lv.a (Lv.a (Lv.b (Lv.b (Lv.a (Lv.a (Lv.b (Lv.a (Lv.b (A 91)))))))))))))) (K91_prlrllrr cal k m1) (K91_pxrlrllrrl cal k m1) (doneK P results91)))
noncomputable def K91_prr (cal : Cal) (k : Nat) : KC (Value × Hp × Nat) := (cutK (Lv.b (Lv.b (A 91))).c (codeE P cal (codeF P cal k) none 91 (cR (cR (cR code91))) (Lv.b (Lv.b (Lv.b (A 91)))) (doneK P results91) X0 (doneK P results91)))
noncomputable def E91_1 (cal : Cal) (k m1 : Nat) : KC (Value × Hp × Nat) := codeE P cal (codeF P cal m1) none 91 (cL (cL (cR (cL (cR code91))))) (Lv.a (Lv.a (Lv.b (Lv.a (Lv.b (A 91)))))) (K91_prlrl cal k m1) (K91_pxrlr cal k) (doneK P results91)
noncomputable def R91_1 (cal : Cal) (k m1 : Nat) : Value → Value → Value → Value → Hp → Nat → Res := fun u1 u7 u8 u9 H n => codeF P cal m1 (Lv.a (Lv.b (Lv.a (Lv.b (A 91))))) none 91 (cL (cR (cL (cR code91)))) (K91_pr cal k) (K91_pxrlr cal k) (doneK P results91) (Tr.set (Tr.set (Tr.set (Tr.set Tr.nil 9 (some u9)) 8 (some u8)) 7 (some u7)) 1 (some u1)) H n []
noncomputable def B91_1 (cal : Cal) (k m1 : Nat) (b1 : Value → Value → Value → Value → Hp → Nat → Res) (u1 u7 u8 u9 : Value) (H : Hp) (n : Nat) : Res :=
binK P Go.BinOp.lss 3 (Go.Operand.tmp 9) (Go.Operand.tmp 8) u9 u8 fun v10_5 =>
ifK v10_5 (
bindO (indexAddrV P 31 u7 u9) fun v11_6 =>
bindO (addrV v11_6) fun a_8 => bindO (loadV P H 90 a_8) fun v12_7 =>
allocK P 90 H n fun v6_9 H_10 n_11 =>
bindO (storeP P 90 v6_9 v12_7 H_10) fun H_13 =>
bindO (addrV v6_9) fun a_16 => bindO (loadV P H_13 90 a_16) fun v14_15 =>
callVK P cal u1 [v14_15] H_13 n_11 fun v15_17 H_18 n_19 =>
bindO (pureSem P v15_17 (Op.unary Go.UnOp.not v15_17)) fun v16_20 =>
ifK v16_20 (
some ((Go.Value.bool false), H_18, n_19)) (
binK P Go.BinOp.add 3 (Go.Operand.tmp 9) (Go.Operand.const (Go.Value.int Go.IntKind.i64 1)) u9 (Go.Value.int Go.IntKind.i64 1) fun v17_22 =>
b1 u1 u7 u8 v17_22 H_18 n_19)) (
some ((Go.Value.bool true), H, n))
noncomputable def C91_1 (cal : Cal) (k m1 : Nat) (b1 : Value → Value → Value → Value → Hp → Nat → Res) (u1 u7 u8 u9 : Value) (H : Hp) (n : Nat) : Res := B91_1 cal k m1 b1 u1 u7 u8 u9 H n
noncomputable def S91_1 (cal : Cal) (k : Nat) : Nat → Value → Value → Value → Value → Hp → Nat → Res := fun m => Nat.rec (motive := fun _ => Value → Value → Value → Value → Hp → Nat → Res) (C91_1 cal k 0 (fun _ _ _ _ _ _ => none)) (fun m ih => C91_1 cal k (m + 1) ih) m
theorem h91_1 (cal : Cal) (k m1 : Nat) (u1 u7 u8 u9 : Value) (H : Hp) (n : Nat) : labK (E91_1 cal k m1) (Tr.set (Tr.set (Tr.set (Tr.set Tr.nil 9 (some u9)) 8 (some u8)) 7 (some u7)) 1 (some u1)) H n [] = C91_1 cal k m1 (R91_1 cal k m1) u1 u7 u8 u9 H n := by
  have h : labK (E91_1 cal k m1) (Tr.set (Tr.set (Tr.set (Tr.set Tr.nil 9 (some u9)) 8 (some u8)) 7 (some u7)) 1 (some u1)) H n [] = B91_1 cal k m1 (R91_1 cal k m1) u1 u7 u8 u9 H n := by kernel_rfl
  rw [h, C91_1]
theorem q91_1 (cal : Cal) (k : Nat) : ∀ (m : Nat) (u1 u7 u8 u9 : Value) (H : Hp) (n : Nat), labK (E91_1 cal k m) (Tr.set (Tr.set (Tr.set (Tr.set Tr.nil 9 (some u9)) 8 (some u8)) 7 (some u7)) 1 (some u1)) H n [] = S91_1 cal k m u1 u7 u8 u9 H n
  | 0, u1, u7, u8, u9, H, n => by
    rw [h91_1]
    have e : R91_1 cal k 0 = fun _ _ _ _ _ _ => none := by funext u1 u7 u8 u9 H n; kernel_rfl
    rw [e]; rfl
  | m + 1, u1, u7, u8, u9, H, n => by
    rw [h91_1]
    have e : R91_1 cal k (m + 1) = S91_1 cal k m := by
      funext u1 u7 u8 u9 H n
      have e : R91_1 cal k (m + 1) u1 u7 u8 u9 H n = labK (E91_1 cal k m) (Tr.set (Tr.set (Tr.set (Tr.set Tr.nil 9 (some u9)) 8 (some u8)) 7 (some u7)) 1 (some u1)) H n [] := by kernel_rfl
      rw [e]; exact q91_1 ..
    rw [e]; rfl
noncomputable def B91_0 (cal : Cal) (k : Nat) (j1 : Value → Value → Value → Value → Hp → Nat → Res) (v0 v1 : Value) (H : Hp) (n : Nat) : Res :=
bindO (lenV P 31 v0) fun v8_3 =>
j1 v1 v0 v8_3 (Go.Value.int Go.IntKind.i64 0) H n
noncomputable def C91_0 (cal : Cal) (k : Nat) (v0 v1 : Value) (H : Hp) (n : Nat) : Res := B91_0 cal k (S91_1 cal k k) v0 v1 H n
theorem h91_0 (cal : Cal) (k : Nat) (v0 v1 : Value) (H : Hp) (n : Nat) : bodyE P cal A (k + 1) 91 [v0, v1] H n = C91_0 cal k v0 v1 H n := by
  have h : bodyE P cal A (k + 1) 91 [v0, v1] H n = B91_0 cal k (fun u1 u7 u8 u9 H n => labK (E91_1 cal k k) (Tr.set (Tr.set (Tr.set (Tr.set Tr.nil 9 (some u9)) 8 (some u8)) 7 (some u7)) 1 (some u1)) H n []) v0 v1 H n := by
    rw [body_eq (fn := Go.Proofs.Try.f91) (c := code91) (rs := results91) (by kernel_rfl) (by kernel_rfl) (by kernel_rfl) (by kernel_rfl)]
    kernel_rfl
  rw [h, C91_0]
  have e1 : (fun u1 u7 u8 u9 H n => labK (E91_1 cal k k) (Tr.set (Tr.set (Tr.set (Tr.set Tr.nil 9 (some u9)) 8 (some u8)) 7 (some u7)) 1 (some u1)) H n []) = (S91_1 cal k k) := by funext u1 u7 u8 u9 H n; exact q91_1 ..
  rw [e1]
noncomputable def code92 : Code := codeOf 92
noncomputable def results92 : List ResultVar := resOf 92
noncomputable def K92_p (cal : Cal) (k : Nat) : KC (Value × Hp × Nat) := (cutK (A 92).c (codeE P cal (codeF P cal k) none 92 (cR code92) (Lv.b (A 92)) (doneK P results92) X0 (doneK P results92)))
noncomputable def K92_pr (cal : Cal) (k : Nat) : KC (Value × Hp × Nat) := (cutK (Lv.b (A 92)).c (codeE P cal (codeF P cal k) none 92 (cR (cR code92)) (Lv.b (Lv.b (A 92))) (doneK P results92) X0 (doneK P results92)))
noncomputable def B92_0 (cal : Cal) (k : Nat) (v0 : Value) (H : Hp) (n : Nat) : Res :=
boxK 90 v0 H n fun v1_1 H_2 n_3 =>
bindO (fieldAddrV P 90 v1_1 0) fun v3_5 =>
bindO (addrV v3_5) fun a_7 => bindO (loadV P H_2 3 a_7) fun v4_6 =>
binK P Go.BinOp.geq 3 (Go.Operand.tmp 4) (Go.Operand.const (Go.Value.int Go.IntKind.i64 0)) v4_6 (Go.Value.int Go.IntKind.i64 0) fun v5_8 =>
guardK v5_8 true (fun k_10 =>
bindO (fieldAddrV P 90 v1_1 0) fun v7_14 =>
k_10 v7_14 H_2 n_3) H_2 n_3 fun v_11 H_12 n_13 =>
guardK v5_8 true (fun k_15 =>
bindO (addrV v_11) fun a_20 => bindO (loadV P H_12 3 a_20) fun v8_19 =>
k_15 v8_19 H_12 n_13) H_12 n_13 fun v_16 H_17 n_18 =>
guardK v5_8 true (fun k_21 =>
bindO (fieldAddrV P 90 v1_1 1) fun v9_25 =>
k_21 v9_25 H_17 n_18) H_17 n_18 fun v_22 H_23 n_24 =>
guardK v5_8 true (fun k_26 =>
bindO (addrV v_22) fun a_31 => bindO (loadV P H_23 3 a_31) fun v10_30 =>
k_26 v10_30 H_23 n_24) H_23 n_24 fun v_27 H_28 n_29 =>
guardK v5_8 true (fun k_32 =>
binK P Go.BinOp.leq 3 (Go.Operand.tmp 8) (Go.Operand.tmp 10) v_16 v_27 fun v11_36 =>
k_32 v11_36 H_28 n_29) H_28 n_29 fun v_33 H_34 n_35 =>
bindO (pickV v5_8 v_33 (Go.Value.bool false)) fun v12_37 =>
guardK v12_37 true (fun k_39 =>
bindO (fieldAddrV P 90 v1_1 1) fun v14_43 =>
k_39 v14_43 H_34 n_35) H_34 n_35 fun v_40 H_41 n_42 =>
guardK v12_37 true (fun k_44 =>
bindO (addrV v_40) fun a_49 => bindO (loadV P H_41 3 a_49) fun v15_48 =>
k_44 v15_48 H_41 n_42) H_41 n_42 fun v_45 H_46 n_47 =>
guardK v12_37 true (fun k_50 =>
binK P Go.BinOp.leq 3 (Go.Operand.tmp 15) (Go.Operand.const (Go.Value.int Go.IntKind.i64 1000)) v_45 (Go.Value.int Go.IntKind.i64 1000) fun v16_54 =>
k_50 v16_54 H_46 n_47) H_46 n_47 fun v_51 H_52 n_53 =>
bindO (pickV v12_37 v_51 (Go.Value.bool false)) fun v17_55 =>
some (v17_55, H_52, n_53)
noncomputable def C92_0 (cal : Cal) (k : Nat) (v0 : Value) (H : Hp) (n : Nat) : Res := B92_0 cal k v0 H n
theorem h92_0 (cal : Cal) (k : Nat) (v0 : Value) (H : Hp) (n : Nat) : bodyE P cal A (k + 1) 92 [v0] H n = C92_0 cal k v0 H n := by
  have h : bodyE P cal A (k + 1) 92 [v0] H n = B92_0 cal k v0 H n := by
    rw [body_eq (fn := Go.Proofs.Try.f92) (c := code92) (rs := results92) (by kernel_rfl) (by kernel_rfl) (by kernel_rfl) (by kernel_rfl)]
    kernel_rfl
  rw [h, C92_0]
noncomputable def code93 : Code := codeOf 93
noncomputable def results93 : List ResultVar := resOf 93
noncomputable def K93_p (cal : Cal) (k : Nat) : KC (Value × Hp × Nat) := (cutK (A 93).c (codeE P cal (codeF P cal k) none 93 (cR code93) (Lv.b (A 93)) (doneK P results93) X0 (doneK P results93)))
noncomputable def K93_pr (cal : Cal) (k : Nat) : KC (Value × Hp × Nat) := (cutK (Lv.b (A 93)).c (codeE P cal (codeF P cal k) none 93 (cR (cR code93)) (Lv.b (Lv.b (A 93))) (doneK P results93) X0 (doneK P results93)))
noncomputable def K93_prl (cal : Cal) (k : Nat) : KC (Value × Hp × Nat) := (cutK (Lv.a (Lv.b (A 93))).c (codeE P cal (codeF P cal k) none 93 (cR (cL (cR code93))) (Lv.b (Lv.a (Lv.b (A 93)))) (K93_pr cal k) X0 (doneK P results93)))
noncomputable def K93_pxrlr (cal : Cal) (k : Nat) : XC (Value × Hp × Nat) := (upX 0 (K93_pr cal k) X0)
noncomputable def K93_prlrl (cal : Cal) (k : Nat) (m1 : Nat) : KC (Value × Hp × Nat) := (fun T H n D => codeF P cal m1 (Lv.a (Lv.b (Lv.a (Lv.b (A 93))))) none 93 (cL (cR (cL (cR code93)))) (K93_pr cal k) (K93_pxrlr cal k) (doneK P results93) (cutT (Lv.a (Lv.b (Lv.a (Lv.b (A 93))))).c T) H n D)
noncomputable def K93_prlrll (cal : Cal) (k : Nat) (m1 : Nat) : KC (Value × Hp × Nat) := (cutK (Lv.a (Lv.a (Lv.b (Lv.a (Lv.b (A 93)))))).c (codeE P cal (codeF P cal m1) none 93 (cR (cL (cL (cR (cL (cR code93)))))) (Lv.b (Lv.a (Lv.a (Lv.b (Lv.a (Lv.b (A 93))))))) (K93_prlrl cal k m1) (K93_pxrlr cal k) (doneK P results93)))
noncomputable def K93_prlrllr (cal : Cal) (k : Nat) (m1 : Nat) : KC (Value × Hp × Nat) := (cutK (Lv.b (Lv.a (Lv.a (Lv.b (Lv.a (Lv.b (A 93))))))).c (codeE P cal (codeF P cal m1) none 93 (cR (cR (cL (cL (cR (cL (cR code93))))))) (Lv.b (Lv.b (Lv.a (Lv.a (Lv.b (Lv.a (Lv.b (A 93)))))))) (K93_prlrl cal k m1) (K93_pxrlr cal k) (doneK P results93)))
noncomputable def K93_prlrllrr (cal : Cal) (k : Nat) (m1 : Nat) : KC (Value × Hp × Nat) := (cutK (Lv.b (Lv.b (Lv.a (Lv.a (Lv.b (Lv.a (Lv.b (A 93)))))))).c (codeE P cal (codeF P cal m1) none 93 (cR (cR (cR (cL (cL (cR (cL (cR code93)))))))) (Lv.b (Lv.b (Lv.b (Lv.a (Lv.a (Lv.b (Lv.a (Lv.b (A 93))))))))) (K93_prlrl cal k m1) (K93_pxrlr cal k) (doneK P results93)))
noncomputable def K93_pxrlrllrrl (cal : Cal) (k : Nat) (m1 : Nat) : XC (Value × Hp × Nat) := (upX 1 (K93_prlrllrr cal k m1) (K93_pxrlr cal k))
noncomputable def K93_prlrllrrll (cal : Cal) (k : Nat) (m1 : Nat) : KC (Value × Hp × Nat) := (cutK (Lv.a (Lv.a (Lv.b (Lv.b (Lv.a (Lv.a (Lv.b (Lv.a (Lv.b (A 93)))))))))).c (codeE P cal (codeF P cal m1) none 93 (cR (cL (cL (cR (cR (cL (cL (cR (cL (cR code93)))))))))) (Lv.b (Lv.a (Lv.a (Lv.b (Lv.b (Lv.a (Lv.a (Lv.b (Lv.a (Lv.b (A 93))))))))))) (K93_prlrllrr cal k m1) (K93_pxrlrllrrl cal k m1) (doneK P results93)))
noncomputable def K93_prlrllrrllr (cal : Cal) (k : Nat) (m1 : Nat) : KC (Value × Hp × Nat) := (cutK (Lv.b (Lv.a (Lv.a (Lv.b (Lv.b (Lv.a (Lv.a (Lv.b (Lv.a (Lv.b (A 93))))))))))).c (codeE P cal (codeF P cal m1) none 93 (cR (cR (cL (cL (cR (cR (cL (cL (cR (cL (cR code93))))))))))) (Lv.b (Lv.b (Lv.a (Lv.a (Lv.b (Lv.b (Lv.a (Lv.a (Lv.b (Lv.a (Lv.b (A 93)))))))))))) (K93_prlrllrr cal k m1) (K93_pxrlrllrrl cal k m1) (doneK P results93)))
noncomputable def K93_prlrllrrllrrl (cal : Cal) (k : Nat) (m1 : Nat) : KC (Value × Hp × Nat) := (cutK (Lv.a (Lv.b (Lv.b (Lv.a (Lv.a (Lv.b (Lv.b (Lv.a (Lv.a (Lv.b (Lv.a (Lv.b (A 93))))))))))))).c (codeE P cal (codeF P cal m1) none 93 (cR (cL (cR (cR (cL (cL (cR (cR (cL (cL (cR (cL (cR code93))))))))))))) (Lv.b (Lv.a (Lv.b (Lv.b (Lv.a (Lv.a (Lv.b (Lv.b (Lv.a (Lv.a (Lv.b (Lv.a (Lv.b (A 93)))))))))))))) (K93_prlrllrr cal k m1) (K93_pxrlrllrrl cal k m1) (doneK P results93)))
noncomputable def K93_prr (cal : Cal) (k : Nat) : KC (Value × Hp × Nat) := (cutK (Lv.b (Lv.b (A 93))).c (codeE P cal (codeF P cal k) none 93 (cR (cR (cR code93))) (Lv.b (Lv.b (Lv.b (A 93)))) (doneK P results93) X0 (doneK P results93)))
noncomputable def E93_1 (cal : Cal) (k m1 : Nat) : KC (Value × Hp × Nat) := codeE P cal (codeF P cal m1) none 93 (cL (cL (cR (cL (cR code93))))) (Lv.a (Lv.a (Lv.b (Lv.a (Lv.b (A 93)))))) (K93_prlrl cal k m1) (K93_pxrlr cal k) (doneK P results93)
noncomputable def R93_1 (cal : Cal) (k m1 : Nat) : Value → Value → Value → Value → Hp → Nat → Res := fun u1 u7 u8 u9 H n => codeF P cal m1 (Lv.a (Lv.b (Lv.a (Lv.b (A 93))))) none 93 (cL (cR (cL (cR code93)))) (K93_pr cal k) (K93_pxrlr cal k) (doneK P results93) (Tr.set (Tr.set (Tr.set (Tr.set Tr.nil 9 (some u9)) 8 (some u8)) 7 (some u7)) 1 (some u1)) H n []
noncomputable def B93_1 (cal : Cal) (k m1 : Nat) (b1 : Value → Value → Value → Value → Hp → Nat → Res) (u1 u7 u8 u9 : Value) (H : Hp) (n : Nat) : Res :=
binK P Go.BinOp.lss 3 (Go.Operand.tmp 9) (Go.Operand.tmp 8) u9 u8 fun v10_5 =>
ifK v10_5 (
bindO (indexAddrV P 32 u7 u9) fun v11_6 =>
bindO (addrV v11_6) fun a_8 => bindO (loadV P H 88 a_8) fun v12_7 =>
allocK P 88 H n fun v6_9 H_10 n_11 =>
bindO (storeP P 88 v6_9 v12_7 H_10) fun H_13 =>
bindO (addrV v6_9) fun a_16 => bindO (loadV P H_13 88 a_16) fun v14_15 =>
callVK P cal u1 [v14_15] H_13 n_11 fun v15_17 H_18 n_19 =>
bindO (pureSem P v15_17 (Op.unary Go.UnOp.not v15_17)) fun v16_20 =>
ifK v16_20 (
some ((Go.Value.bool false), H_18, n_19)) (
binK P Go.BinOp.add 3 (Go.Operand.tmp 9) (Go.Operand.const (Go.Value.int Go.IntKind.i64 1)) u9 (Go.Value.int Go.IntKind.i64 1) fun v17_22 =>
b1 u1 u7 u8 v17_22 H_18 n_19)) (
some ((Go.Value.bool true), H, n))
noncomputable def C93_1 (cal : Cal) (k m1 : Nat) (b1 : Value → Value → Value → Value → Hp → Nat → Res) (u1 u7 u8 u9 : Value) (H : Hp) (n : Nat) : Res := B93_1 cal k m1 b1 u1 u7 u8 u9 H n
noncomputable def S93_1 (cal : Cal) (k : Nat) : Nat → Value → Value → Value → Value → Hp → Nat → Res := fun m => Nat.rec (motive := fun _ => Value → Value → Value → Value → Hp → Nat → Res) (C93_1 cal k 0 (fun _ _ _ _ _ _ => none)) (fun m ih => C93_1 cal k (m + 1) ih) m
theorem h93_1 (cal : Cal) (k m1 : Nat) (u1 u7 u8 u9 : Value) (H : Hp) (n : Nat) : labK (E93_1 cal k m1) (Tr.set (Tr.set (Tr.set (Tr.set Tr.nil 9 (some u9)) 8 (some u8)) 7 (some u7)) 1 (some u1)) H n [] = C93_1 cal k m1 (R93_1 cal k m1) u1 u7 u8 u9 H n := by
  have h : labK (E93_1 cal k m1) (Tr.set (Tr.set (Tr.set (Tr.set Tr.nil 9 (some u9)) 8 (some u8)) 7 (some u7)) 1 (some u1)) H n [] = B93_1 cal k m1 (R93_1 cal k m1) u1 u7 u8 u9 H n := by kernel_rfl
  rw [h, C93_1]
theorem q93_1 (cal : Cal) (k : Nat) : ∀ (m : Nat) (u1 u7 u8 u9 : Value) (H : Hp) (n : Nat), labK (E93_1 cal k m) (Tr.set (Tr.set (Tr.set (Tr.set Tr.nil 9 (some u9)) 8 (some u8)) 7 (some u7)) 1 (some u1)) H n [] = S93_1 cal k m u1 u7 u8 u9 H n
  | 0, u1, u7, u8, u9, H, n => by
    rw [h93_1]
    have e : R93_1 cal k 0 = fun _ _ _ _ _ _ => none := by funext u1 u7 u8 u9 H n; kernel_rfl
    rw [e]; rfl
  | m + 1, u1, u7, u8, u9, H, n => by
    rw [h93_1]
    have e : R93_1 cal k (m + 1) = S93_1 cal k m := by
      funext u1 u7 u8 u9 H n
      have e : R93_1 cal k (m + 1) u1 u7 u8 u9 H n = labK (E93_1 cal k m) (Tr.set (Tr.set (Tr.set (Tr.set Tr.nil 9 (some u9)) 8 (some u8)) 7 (some u7)) 1 (some u1)) H n [] := by kernel_rfl
      rw [e]; exact q93_1 ..
    rw [e]; rfl
noncomputable def B93_0 (cal : Cal) (k : Nat) (j1 : Value → Value → Value → Value → Hp → Nat → Res) (v0 v1 : Value) (H : Hp) (n : Nat) : Res :=
bindO (lenV P 32 v0) fun v8_3 =>
j1 v1 v0 v8_3 (Go.Value.int Go.IntKind.i64 0) H n
noncomputable def C93_0 (cal : Cal) (k : Nat) (v0 v1 : Value) (H : Hp) (n : Nat) : Res := B93_0 cal k (S93_1 cal k k) v0 v1 H n
theorem h93_0 (cal : Cal) (k : Nat) (v0 v1 : Value) (H : Hp) (n : Nat) : bodyE P cal A (k + 1) 93 [v0, v1] H n = C93_0 cal k v0 v1 H n := by
  have h : bodyE P cal A (k + 1) 93 [v0, v1] H n = B93_0 cal k (fun u1 u7 u8 u9 H n => labK (E93_1 cal k k) (Tr.set (Tr.set (Tr.set (Tr.set Tr.nil 9 (some u9)) 8 (some u8)) 7 (some u7)) 1 (some u1)) H n []) v0 v1 H n := by
    rw [body_eq (fn := Go.Proofs.Try.f93) (c := code93) (rs := results93) (by kernel_rfl) (by kernel_rfl) (by kernel_rfl) (by kernel_rfl)]
    kernel_rfl
  rw [h, C93_0]
  have e1 : (fun u1 u7 u8 u9 H n => labK (E93_1 cal k k) (Tr.set (Tr.set (Tr.set (Tr.set Tr.nil 9 (some u9)) 8 (some u8)) 7 (some u7)) 1 (some u1)) H n []) = (S93_1 cal k k) := by funext u1 u7 u8 u9 H n; exact q93_1 ..
  rw [e1]
noncomputable def code94 : Code := codeOf 94
noncomputable def results94 : List ResultVar := resOf 94
noncomputable def K94_p (cal : Cal) (k : Nat) : KC (Value × Hp × Nat) := (cutK (A 94).c (codeE P cal (codeF P cal k) none 94 (cR code94) (Lv.b (A 94)) (doneK P results94) X0 (doneK P results94)))
noncomputable def K94_pr (cal : Cal) (k : Nat) : KC (Value × Hp × Nat) := (cutK (Lv.b (A 94)).c (codeE P cal (codeF P cal k) none 94 (cR (cR code94)) (Lv.b (Lv.b (A 94))) (doneK P results94) X0 (doneK P results94)))
noncomputable def K94_prr (cal : Cal) (k : Nat) : KC (Value × Hp × Nat) := (cutK (Lv.b (Lv.b (A 94))).c (codeE P cal (codeF P cal k) none 94 (cR (cR (cR code94))) (Lv.b (Lv.b (Lv.b (A 94)))) (doneK P results94) X0 (doneK P results94)))
noncomputable def K94_prrl (cal : Cal) (k : Nat) : KC (Value × Hp × Nat) := (cutK (Lv.a (Lv.b (Lv.b (A 94)))).c (codeE P cal (codeF P cal k) none 94 (cR (cL (cR (cR code94)))) (Lv.b (Lv.a (Lv.b (Lv.b (A 94))))) (K94_prr cal k) X0 (doneK P results94)))
noncomputable def K94_pxrrlr (cal : Cal) (k : Nat) : XC (Value × Hp × Nat) := (upX 0 (K94_prr cal k) X0)
noncomputable def K94_prrlrl (cal : Cal) (k : Nat) (m1 : Nat) : KC (Value × Hp × Nat) := (fun T H n D => codeF P cal m1 (Lv.a (Lv.b (Lv.a (Lv.b (Lv.b (A 94)))))) none 94 (cL (cR (cL (cR (cR code94))))) (K94_prr cal k) (K94_pxrrlr cal k) (doneK P results94) (cutT (Lv.a (Lv.b (Lv.a (Lv.b (Lv.b (A 94)))))).c T) H n D)
noncomputable def K94_prrlrll (cal : Cal) (k : Nat) (m1 : Nat) : KC (Value × Hp × Nat) := (cutK (Lv.a (Lv.a (Lv.b (Lv.a (Lv.b (Lv.b (A 94))))))).c (codeE P cal (codeF P cal m1) none 94 (cR (cL (cL (cR (cL (cR (cR code94))))))) (Lv.b (Lv.a (Lv.a (Lv.b (Lv.a (Lv.b (Lv.b (A 94)))))))) (K94_prrlrl cal k m1) (K94_pxrrlr cal k) (doneK P results94)))
noncomputable def K94_prrlrllr (cal : Cal) (k : Nat) (m1 : Nat) : KC (Value × Hp × Nat) := (cutK (Lv.b (Lv.a (Lv.a (Lv.b (Lv.a (Lv.b (Lv.b (A 94)))))))).c (codeE P cal (codeF P cal m1) none 94 (cR (cR (cL (cL (cR (cL (cR (cR code94)))))))) (Lv.b (Lv.b (Lv.a (Lv.a (Lv.b (Lv.a (Lv.b (Lv.b (A 94))))))))) (K94_prrlrl cal k m1) (K94_pxrrlr cal k) (doneK P results94)))
noncomputable def K94_prrlrllrr (cal : Cal) (k : Nat) (m1 : Nat) : KC (Value × Hp × Nat) := (cutK (Lv.b (Lv.b (Lv.a (Lv.a (Lv.b (Lv.a (Lv.b (Lv.b (A 94))))))))).c (codeE P cal (codeF P cal m1) none 94 (cR (cR (cR (cL (cL (cR (cL (cR (cR code94))))))))) (Lv.b (Lv.b (Lv.b (Lv.a (Lv.a (Lv.b (Lv.a (Lv.b (Lv.b (A 94)))))))))) (K94_prrlrl cal k m1) (K94_pxrrlr cal k) (doneK P results94)))
noncomputable def K94_pxrrlrllrrl (cal : Cal) (k : Nat) (m1 : Nat) : XC (Value × Hp × Nat) := (upX 1 (K94_prrlrllrr cal k m1) (K94_pxrrlr cal k))
noncomputable def K94_prrlrllrrll (cal : Cal) (k : Nat) (m1 : Nat) : KC (Value × Hp × Nat) := (cutK (Lv.a (Lv.a (Lv.b (Lv.b (Lv.a (Lv.a (Lv.b (Lv.a (Lv.b (Lv.b (A 94))))))))))).c (codeE P cal (codeF P cal m1) none 94 (cR (cL (cL (cR (cR (cL (cL (cR (cL (cR (cR code94))))))))))) (Lv.b (Lv.a (Lv.a (Lv.b (Lv.b (Lv.a (Lv.a (Lv.b (Lv.a (Lv.b (Lv.b (A 94)))))))))))) (K94_prrlrllrr cal k m1) (K94_pxrrlrllrrl cal k m1) (doneK P results94)))
noncomputable def K94_prrlrllrrllr (cal : Cal) (k : Nat) (m1 : Nat) : KC (Value × Hp × Nat) := (cutK (Lv.b (Lv.a (Lv.a (Lv.b (Lv.b (Lv.a (Lv.a (Lv.b (Lv.a (Lv.b (Lv.b (A 94)))))))))))).c (codeE P cal (codeF P cal m1) none 94 (cR (cR (cL (cL (cR (cR (cL (cL (cR (cL (cR (cR code94)))))))))))) (Lv.b (Lv.b (Lv.a (Lv.a (Lv.b (Lv.b (Lv.a (Lv.a (Lv.b (Lv.a (Lv.b (Lv.b (A 94))))))))))))) (K94_prrlrllrr cal k m1) (K94_pxrrlrllrrl cal k m1) (doneK P results94)))
noncomputable def K94_prrr (cal : Cal) (k : Nat) : KC (Value × Hp × Nat) := (cutK (Lv.b (Lv.b (Lv.b (A 94)))).c (codeE P cal (codeF P cal k) none 94 (cR (cR (cR (cR code94)))) (Lv.b (Lv.b (Lv.b (Lv.b (A 94))))) (doneK P results94) X0 (doneK P results94)))
noncomputable def E94_2 (cal : Cal) (k m1 : Nat) : KC (Value × Hp × Nat) := codeE P cal (codeF P cal m1) none 94 (cR (cR (cR (cL (cL (cR (cL (cR (cR code94))))))))) (Lv.b (Lv.b (Lv.b (Lv.a (Lv.a (Lv.b (Lv.a (Lv.b (Lv.b (A 94)))))))))) (K94_prrlrl cal k m1) (K94_pxrrlr cal k) (doneK P results94)
noncomputable def E94_1 (cal : Cal) (k m1 : Nat) : KC (Value × Hp × Nat) := codeE P cal (codeF P cal m1) none 94 (cL (cL (cR (cL (cR (cR code94)))))) (Lv.a (Lv.a (Lv.b (Lv.a (Lv.b (Lv.b (A 94))))))) (K94_prrlrl cal k m1) (K94_pxrrlr cal k) (doneK P results94)
noncomputable def R94_1 (cal : Cal) (k m1 : Nat) : Value → Value → Value → Value → Value → Value → Hp → Nat → Res := fun u2 u3 u5 u9 u10 u11 H n => codeF P cal m1 (Lv.a (Lv.b (Lv.a (Lv.b (Lv.b (A 94)))))) none 94 (cL (cR (cL (cR (cR code94))))) (K94_prr cal k) (K94_pxrrlr cal k) (doneK P results94) (Tr.set (Tr.set (Tr.set (Tr.set (Tr.set (Tr.set Tr.nil 11 (some u11)) 10 (some u10)) 9 (some u9)) 5 (some u5)) 3 (some u3)) 2 (some u2)) H n []
noncomputable def B94_2 (cal : Cal) (k m1 : Nat) (b1 : Value → Value → Value → Value → Value → Value → Hp → Nat → Res) (u2 u3 u5 u9 u10 u11 : Value) (H : Hp) (n : Nat) : Res :=
binK P Go.BinOp.add 3 (Go.Operand.tmp 11) (Go.Operand.const (Go.Value.int Go.IntKind.i64 1)) u11 (Go.Value.int Go.IntKind.i64 1) fun v29_15 =>
b1 u2 u3 u5 u9 u10 v29_15 H n
noncomputable def C94_2 (cal : Cal) (k m1 : Nat) (b1 : Value → Value → Value → Value → Value → Value → Hp → Nat → Res) (u2 u3 u5 u9 u10 u11 : Value) (H : Hp) (n : Nat) : Res := B94_2 cal k m1 b1 u2 u3 u5 u9 u10 u11 H n
theorem h94_2 (cal : Cal) (k m1 : Nat) (u2 u3 u5 u9 u10 u11 : Value) (H : Hp) (n : Nat) : labK (E94_2 cal k m1) (Tr.set (Tr.set (Tr.set (Tr.set (Tr.set (Tr.set Tr.nil 11 (some u11)) 10 (some u10)) 9 (some u9)) 5 (some u5)) 3 (some u3)) 2 (some u2)) H n [] = C94_2 cal k m1 (R94_1 cal k m1) u2 u3 u5 u9 u10 u11 H n := by
  have h : labK (E94_2 cal k m1) (Tr.set (Tr.set (Tr.set (Tr.set (Tr.set (Tr.set Tr.nil 11 (some u11)) 10 (some u10)) 9 (some u9)) 5 (some u5)) 3 (some u3)) 2 (some u2)) H n [] = B94_2 cal k m1 (R94_1 cal k m1) u2 u3 u5 u9 u10 u11 H n := by kernel_rfl
  rw [h, C94_2]
theorem q94_2 (cal : Cal) (k m1 : Nat) (u2 u3 u5 u9 u10 u11 : Value) (H : Hp) (n : Nat) : labK (E94_2 cal k m1) (Tr.set (Tr.set (Tr.set (Tr.set (Tr.set (Tr.set Tr.nil 11 (some u11)) 10 (some u10)) 9 (some u9)) 5 (some u5)) 3 (some u3)) 2 (some u2)) H n [] = C94_2 cal k m1 (R94_1 cal k m1) u2 u3 u5 u9 u10 u11 H n := h94_2 ..
noncomputable def B94_1 (cal : Cal) (k m1 : Nat) (j2 : Value → Value → Value → Value → Value → Value → Hp → Nat → Res) (b1 : Value → Value → Value → Value → Value → Value → Hp → Nat → Res) (u2 u3 u5 u9 u10 u11 : Value) (H : Hp) (n : Nat) : Res :=
binK P Go.BinOp.lss 3 (Go.Operand.tmp 11) (Go.Operand.tmp 10) u11 u10 fun v12_14 =>
ifK v12_14 (
bindO (indexAddrV P 32 u9 u11) fun v13_17 =>
bindO (addrV v13_17) fun a_19 => bindO (loadV P H 88 a_19) fun v14_18 =>
allocK P 88 H n fun v7_20 H_21 n_22 =>
bindO (storeP P 88 v7_20 v14_18 H_21) fun H_24 =>
bindO (addrV v7_20) fun a_26 => bindO (loadV P H_24 88 a_26) fun v15_25 =>
bindO (addrV u3) fun a_28 => bindO (loadV P H_24 88 a_28) fun v16_27 =>
binK P Go.BinOp.eql 88 (Go.Operand.tmp 15) (Go.Operand.tmp 16) v15_25 v16_27 fun v17_29 =>
guardK v17_29 false (fun k_31 =>
bindO (addrV v7_20) fun a_36 => bindO (loadV P H_24 88 a_36) fun v19_35 =>
k_31 v19_35 H_24 n_22) H_24 n_22 fun v_32 H_33 n_34 =>
guardK v17_29 false (fun k_37 =>
bindO (fieldAddrV P 88 u3 1) fun v20_41 =>
k_37 v20_41 H_33 n_34) H_33 n_34 fun v_38 H_39 n_40 =>
guardK v17_29 false (fun k_42 =>
bindO (addrV v_38) fun a_47 => bindO (loadV P H_39 3 a_47) fun v21_46 =>
k_42 v21_46 H_39 n_40) H_39 n_40 fun v_43 H_44 n_45 =>
guardK v17_29 false (fun k_48 =>
bindO (fieldAddrV P 88 u3 0) fun v22_52 =>
k_48 v22_52 H_44 n_45) H_44 n_45 fun v_49 H_50 n_51 =>
guardK v17_29 false (fun k_53 =>
bindO (addrV v_49) fun a_58 => bindO (loadV P H_50 3 a_58) fun v23_57 =>
k_53 v23_57 H_50 n_51) H_50 n_51 fun v_54 H_55 n_56 =>
guardK v17_29 false (fun k_59 =>
bindO (buildP P 88 [(0, v_43), (1, v_54)]) fun v24_63 =>
k_59 v24_63 H_55 n_56) H_55 n_56 fun v_60 H_61 n_62 =>
guardK v17_29 false (fun k_64 =>
binK P Go.BinOp.eql 88 (Go.Operand.tmp 19) (Go.Operand.tmp 24) v_32 v_60 fun v25_68 =>
k_64 v25_68 H_61 n_62) H_61 n_62 fun v_65 H_66 n_67 =>
bindO (pickV v17_29 (Go.Value.bool true) v_65) fun v26_69 =>
ifK v26_69 (
binK P Go.BinOp.add 3 (Go.Operand.tmp 27) (Go.Operand.const (Go.Value.int Go.IntKind.i64 1)) u5 (Go.Value.int Go.IntKind.i64 1) fun v28_71 =>
j2 u2 u3 v28_71 u9 u10 u11 H_66 n_67) (
j2 u2 u3 u5 u9 u10 u11 H_66 n_67)) (
bindO (addrV u2) fun a_74 => bindO (loadV P H 35 a_74) fun v30_73 =>
bindO (fieldAddrV P 88 u3 0) fun v31_75 =>
bindO (addrV v31_75) fun a_77 => bindO (loadV P H 3 a_77) fun v32_76 =>
callFK P cal 71 [v30_73, v32_76] H n fun v33_78 H_79 n_80 =>
guardK v33_78 true (fun k_82 =>
bindO (addrV u2) fun a_87 => bindO (loadV P H_79 35 a_87) fun v35_86 =>
k_82 v35_86 H_79 n_80) H_79 n_80 fun v_83 H_84 n_85 =>
guardK v33_78 true (fun k_88 =>
bindO (fieldAddrV P 88 u3 1) fun v36_92 =>
k_88 v36_92 H_84 n_85) H_84 n_85 fun v_89 H_90 n_91 =>
guardK v33_78 true (fun k_93 =>
bindO (addrV v_89) fun a_98 => bindO (loadV P H_90 3 a_98) fun v37_97 =>
k_93 v37_97 H_90 n_91) H_90 n_91 fun v_94 H_95 n_96 =>
guardK v33_78 true (fun k_99 =>
callFK P cal 71 [v_83, v_94] H_95 n_96 fun v38_103 H_104 n_105 =>
k_99 v38_103 H_104 n_105) H_95 n_96 fun v_100 H_101 n_102 =>
bindO (pickV v33_78 v_100 (Go.Value.bool false)) fun v39_106 =>
guardK v39_106 true (fun k_108 =>
bindO (fieldAddrV P 88 u3 0) fun v41_112 =>
k_108 v41_112 H_101 n_102) H_101 n_102 fun v_109 H_110 n_111 =>
guardK v39_106 true (fun k_113 =>
bindO (addrV v_109) fun a_118 => bindO (loadV P H_110 3 a_118) fun v42_117 =>
k_113 v42_117 H_110 n_111) H_110 n_111 fun v_114 H_115 n_116 =>
guardK v39_106 true (fun k_119 =>
bindO (fieldAddrV P 88 u3 1) fun v43_123 =>
k_119 v43_123 H_115 n_116) H_115 n_116 fun v_120 H_121 n_122 =>
guardK v39_106 true (fun k_124 =>
bindO (addrV v_120) fun a_129 => bindO (loadV P H_121 3 a_129) fun v44_128 =>
k_124 v44_128 H_121 n_122) H_121 n_122 fun v_125 H_126 n_127 =>
guardK v39_106 true (fun k_130 =>
binK P Go.BinOp.neq 3 (Go.Operand.tmp 42) (Go.Operand.tmp 44) v_114 v_125 fun v45_134 =>
k_130 v45_134 H_126 n_127) H_126 n_127 fun v_131 H_132 n_133 =>
bindO (pickV v39_106 v_131 (Go.Value.bool false)) fun v46_135 =>
guardK v46_135 true (fun k_137 =>
k_137 u5 H_132 n_133) H_132 n_133 fun v_138 H_139 n_140 =>
guardK v46_135 true (fun k_142 =>
binK P Go.BinOp.eql 3 (Go.Operand.tmp 48) (Go.Operand.const (Go.Value.int Go.IntKind.i64 1)) v_138 (Go.Value.int Go.IntKind.i64 1) fun v49_146 =>
k_142 v49_146 H_139 n_140) H_139 n_140 fun v_143 H_144 n_145 =>
bindO (pickV v46_135 v_143 (Go.Value.bool false)) fun v50_147 =>
some (v50_147, H_144, n_145))
noncomputable def C94_1 (cal : Cal) (k m1 : Nat) (b1 : Value → Value → Value → Value → Value → Value → Hp → Nat → Res) (u2 u3 u5 u9 u10 u11 : Value) (H : Hp) (n : Nat) : Res := B94_1 cal k m1 (C94_2 cal k m1 b1) b1 u2 u3 u5 u9 u10 u11 H n
noncomputable def S94_1 (cal : Cal) (k : Nat) : Nat → Value → Value → Value → Value → Value → Value → Hp → Nat → Res := fun m => Nat.rec (motive := fun _ => Value → Value → Value → Value → Value → Value → Hp → Nat → Res) (C94_1 cal k 0 (fun _ _ _ _ _ _ _ _ => none)) (fun m ih => C94_1 cal k (m + 1) ih) m
theorem h94_1 (cal : Cal) (k m1 : Nat) (u2 u3 u5 u9 u10 u11 : Value) (H : Hp) (n : Nat) : labK (E94_1 cal k m1) (Tr.set (Tr.set (Tr.set (Tr.set (Tr.set (Tr.set Tr.nil 11 (some u11)) 10 (some u10)) 9 (some u9)) 5 (some u5)) 3 (some u3)) 2 (some u2)) H n [] = C94_1 cal k m1 (R94_1 cal k m1) u2 u3 u5 u9 u10 u11 H n := by
  have h : labK (E94_1 cal k m1) (Tr.set (Tr.set (Tr.set (Tr.set (Tr.set (Tr.set Tr.nil 11 (some u11)) 10 (some u10)) 9 (some u9)) 5 (some u5)) 3 (some u3)) 2 (some u2)) H n [] = B94_1 cal k m1 (fun u2 u3 u5 u9 u10 u11 H n => labK (E94_2 cal k m1) (Tr.set (Tr.set (Tr.set (Tr.set (Tr.set (Tr.set Tr.nil 11 (some u11)) 10 (some u10)) 9 (some u9)) 5 (some u5)) 3 (some u3)) 2 (some u2)) H n []) (R94_1 cal k m1) u2 u3 u5 u9 u10 u11 H n := by kernel_rfl
  rw [h, C94_1]
  have e2 : (fun u2 u3 u5 u9 u10 u11 H n => labK (E94_2 cal k m1) (Tr.set (Tr.set (Tr.set (Tr.set (Tr.set (Tr.set Tr.nil 11 (some u11)) 10 (some u10)) 9 (some u9)) 5 (some u5)) 3 (some u3)) 2 (some u2)) H n []) = (C94_2 cal k m1 (R94_1 cal k m1)) := by funext u2 u3 u5 u9 u10 u11 H n; exact q94_2 ..
  rw [e2]
theorem q94_1 (cal : Cal) (k : Nat) : ∀ (m : Nat) (u2 u3 u5 u9 u10 u11 : Value) (H : Hp) (n : Nat), labK (E94_1 cal k m) (Tr.set (Tr.set (Tr.set (Tr.set (Tr.set (Tr.set Tr.nil 11 (some u11)) 10 (some u10)) 9 (some u9)) 5 (some u5)) 3 (some u3)) 2 (some u2)) H n [] = S94_1 cal k m u2 u3 u5 u9 u10 u11 H n
  | 0, u2, u3, u5, u9, u10, u11, H, n => by
    rw [h94_1]
    have e : R94_1 cal k 0 = fun _ _ _ _ _ _ _ _ => none := by funext u2 u3 u5 u9 u10 u11 H n; kernel_rfl
    rw [e]; rfl
  | m + 1, u2, u3, u5, u9, u10, u11, H, n => by
    rw [h94_1]
    have e : R94_1 cal k (m + 1) = S94_1 cal k m := by
      funext u2 u3 u5 u9 u10 u11 H n
      have e : R94_1 cal k (m + 1) u2 u3 u5 u9 u10 u11 H n = labK (E94_1 cal k m) (Tr.set (Tr.set (Tr.set (Tr.set (Tr.set (Tr.set Tr.nil 11 (some u11)) 10 (some u10)) 9 (some u9)) 5 (some u5)) 3 (some u3)) 2 (some u2)) H n [] := by kernel_rfl
      rw [e]; exact q94_1 ..
    rw [e]; rfl
noncomputable def B94_0 (cal : Cal) (k : Nat) (j1 : Value → Value → Value → Value → Value → Value → Hp → Nat → Res) (v0 v1 : Value) (H : Hp) (n : Nat) : Res :=
boxK 35 v0 H n fun v2_1 H_2 n_3 =>
boxK 88 v1 H_2 n_3 fun v3_4 H_5 n_6 =>
bindO (fieldAddrV P 35 v2_1 1) fun v8_9 =>
bindO (addrV v8_9) fun a_11 => bindO (loadV P H_5 32 a_11) fun v9_10 =>
bindO (lenV P 32 v9_10) fun v10_12 =>
j1 v2_1 v3_4 (Go.Value.int Go.IntKind.i64 0) v9_10 v10_12 (Go.Value.int Go.IntKind.i64 0) H_5 n_6
noncomputable def C94_0 (cal : Cal) (k : Nat) (v0 v1 : Value) (H : Hp) (n : Nat) : Res := B94_0 cal k (S94_1 cal k k) v0 v1 H n
theorem h94_0 (cal : Cal) (k : Nat) (v0 v1 : Value) (H : Hp) (n : Nat) : bodyE P cal A (k + 1) 94 [v0, v1] H n = C94_0 cal k v0 v1 H n := by
  have h : bodyE P cal A (k + 1) 94 [v0, v1] H n = B94_0 cal k (fun u2 u3 u5 u9 u10 u11 H n => labK (E94_1 cal k k) (Tr.set (Tr.set (Tr.set (Tr.set (Tr.set (Tr.set Tr.nil 11 (some u11)) 10 (some u10)) 9 (some u9)) 5 (some u5)) 3 (some u3)) 2 (some u2)) H n []) v0 v1 H n := by
    rw [body_eq (fn := Go.Proofs.Try.f94) (c := code94) (rs := results94) (by kernel_rfl) (by kernel_rfl) (by kernel_rfl) (by kernel_rfl)]
    kernel_rfl
  rw [h, C94_0]
  have e1 : (fun u2 u3 u5 u9 u10 u11 H n => labK (E94_1 cal k k) (Tr.set (Tr.set (Tr.set (Tr.set (Tr.set (Tr.set Tr.nil 11 (some u11)) 10 (some u10)) 9 (some u9)) 5 (some u5)) 3 (some u3)) 2 (some u2)) H n []) = (S94_1 cal k k) := by funext u2 u3 u5 u9 u10 u11 H n; exact q94_1 ..
  rw [e1]
noncomputable def code95 : Code := codeOf 95
noncomputable def results95 : List ResultVar := resOf 95
noncomputable def K95_p (cal : Cal) (k : Nat) : KC (Value × Hp × Nat) := (cutK (A 95).c (codeE P cal (codeF P cal k) none 95 (cR code95) (Lv.b (A 95)) (doneK P results95) X0 (doneK P results95)))
noncomputable def K95_pr (cal : Cal) (k : Nat) : KC (Value × Hp × Nat) := (cutK (Lv.b (A 95)).c (codeE P cal (codeF P cal k) none 95 (cR (cR code95)) (Lv.b (Lv.b (A 95))) (doneK P results95) X0 (doneK P results95)))
noncomputable def K95_prl (cal : Cal) (k : Nat) : KC (Value × Hp × Nat) := (cutK (Lv.a (Lv.b (A 95))).c (codeE P cal (codeF P cal k) none 95 (cR (cL (cR code95))) (Lv.b (Lv.a (Lv.b (A 95)))) (K95_pr cal k) X0 (doneK P results95)))
noncomputable def K95_pxrlr (cal : Cal) (k : Nat) : XC (Value × Hp × Nat) := (upX 0 (K95_pr cal k) X0)
noncomputable def K95_prlrl (cal : Cal) (k : Nat) (m1 : Nat) : KC (Value × Hp × Nat) := (fun T H n D => codeF P cal m1 (Lv.a (Lv.b (Lv.a (Lv.b (A 95))))) none 95 (cL (cR (cL (cR code95)))) (K95_pr cal k) (K95_pxrlr cal k) (doneK P results95) (cutT (Lv.a (Lv.b (Lv.a (Lv.b (A 95))))).c T) H n D)
noncomputable def K95_prlrll (cal : Cal) (k : Nat) (m1 : Nat) : KC (Value × Hp × Nat) := (cutK (Lv.a (Lv.a (Lv.b (Lv.a (Lv.b (A 95)))))).c (codeE P cal (codeF P cal m1) none 95 (cR (cL (cL (cR (cL (cR code95)))))) (Lv.b (Lv.a (Lv.a (Lv.b (Lv.a (Lv.b (A 95))))))) (K95_prlrl cal k m1) (K95_pxrlr cal k) (doneK P results95)))
noncomputable def K95_prlrllr (cal : Cal) (k : Nat) (m1 : Nat) : KC (Value × Hp × Nat) := (cutK (Lv.b (Lv.a (Lv.a (Lv.b (Lv.a (Lv.b (A 95))))))).c (codeE P cal (codeF P cal m1) none 95 (cR (cR (cL (cL (cR (cL (cR code95))))))) (Lv.b (Lv.b (Lv.a (Lv.a (Lv.b (Lv.a (Lv.b (A 95)))))))) (K95_prlrl cal k m1) (K95_pxrlr cal k) (doneK P results95)))
noncomputable def K95_prlrllrr (cal : Cal) (k : Nat) (m1 : Nat) : KC (Value × Hp × Nat) := (cutK (Lv.b (Lv.b (Lv.a (Lv.a (Lv.b (Lv.a (Lv.b (A 95)))))))).c (codeE P cal (codeF P cal m1) none 95 (cR (cR (cR (cL (cL (cR (cL (cR code95)))))))) (Lv.b (Lv.b (Lv.b (Lv.a (Lv.a (Lv.b (Lv.a (Lv.b (A 95))))))))) (K95_prlrl cal k m1) (K95_pxrlr cal k) (doneK P results95)))
noncomputable def K95_pxrlrllrrl (cal : Cal) (k : Nat) (m1 : Nat) : XC (Value × Hp × Nat) := (upX 1 (K95_prlrllrr cal k m1) (K95_pxrlr cal k))
noncomputable def K95_prlrllrrll (cal : Cal) (k : Nat) (m1 : Nat) : KC (Value × Hp × Nat) := (cutK (Lv.a (Lv.a (Lv.b (Lv.b (Lv.a (Lv.a (Lv.b (Lv.a (Lv.b (A 95)))))))))).c (codeE P cal (codeF P cal m1) none 95 (cR (cL (cL (cR (cR (cL (cL (cR (cL (cR code95)))))))))) (Lv.b (Lv.a (Lv.a (Lv.b (Lv.b (Lv.a (Lv.a (Lv.b (Lv.a (Lv.b (A 95))))))))))) (K95_prlrllrr cal k m1) (K95_pxrlrllrrl cal k m1) (doneK P results95)))
noncomputable def K95_prlrllrrllr (cal : Cal) (k : Nat) (m1 : Nat) : KC (Value × Hp × Nat) := (cutK (Lv.b (Lv.a (Lv.a (Lv.b (Lv.b (Lv.a (Lv.a (Lv.b (Lv.a (Lv.b (A 95))))))))))).c (codeE P cal (codeF P cal m1) none 95 (cR (cR (cL (cL (cR (cR (cL (cL (cR (cL (cR code95))))))))))) (Lv.b (Lv.b (Lv.a (Lv.a (Lv.b (Lv.b (Lv.a (Lv.a (Lv.b (Lv.a (Lv.b (A 95)))))))))))) (K95_prlrllrr cal k m1) (K95_pxrlrllrrl cal k m1) (doneK P results95)))
noncomputable def K95_prlrllrrllrrl (cal : Cal) (k : Nat) (m1 : Nat) : KC (Value × Hp × Nat) := (cutK (Lv.a (Lv.b (Lv.b (Lv.a (Lv.a (Lv.b (Lv.b (Lv.a (Lv.a (Lv.b (Lv.a (Lv.b (A 95))))))))))))).c (codeE P cal (codeF P cal m1) none 95 (cR (cL (cR (cR (cL (cL (cR (cR (cL (cL (cR (cL (cR code95))))))))))))) (Lv.b (Lv.a (Lv.b (Lv.b (Lv.a (Lv.a (Lv.b (Lv.b (Lv.a (Lv.a (Lv.b (Lv.a (Lv.b (A 95)))))))))))))) (K95_prlrllrr cal k m1) (K95_pxrlrllrrl cal k m1) (doneK P results95)))
noncomputable def K95_prr (cal : Cal) (k : Nat) : KC (Value × Hp × Nat) := (cutK (Lv.b (Lv.b (A 95))).c (codeE P cal (codeF P cal k) none 95 (cR (cR (cR code95))) (Lv.b (Lv.b (Lv.b (A 95)))) (doneK P results95) X0 (doneK P results95)))
noncomputable def E95_1 (cal : Cal) (k m1 : Nat) : KC (Value × Hp × Nat) := codeE P cal (codeF P cal m1) none 95 (cL (cL (cR (cL (cR code95))))) (Lv.a (Lv.a (Lv.b (Lv.a (Lv.b (A 95)))))) (K95_prlrl cal k m1) (K95_pxrlr cal k) (doneK P results95)
noncomputable def R95_1 (cal : Cal) (k m1 : Nat) : Value → Value → Value → Value → Hp → Nat → Res := fun u1 u7 u8 u9 H n => codeF P cal m1 (Lv.a (Lv.b (Lv.a (Lv.b (A 95))))) none 95 (cL (cR (cL (cR code95)))) (K95_pr cal k) (K95_pxrlr cal k) (doneK P results95) (Tr.set (Tr.set (Tr.set (Tr.set Tr.nil 9 (some u9)) 8 (some u8)) 7 (some u7)) 1 (some u1)) H n []
noncomputable def B95_1 (cal : Cal) (k m1 : Nat) (b1 : Value → Value → Value → Value → Hp → Nat → Res) (u1 u7 u8 u9 : Value) (H : Hp) (n : Nat) : Res :=
binK P Go.BinOp.lss 3 (Go.Operand.tmp 9) (Go.Operand.tmp 8) u9 u8 fun v10_5 =>
ifK v10_5 (
bindO (indexAddrV P 33 u7 u9) fun v11_6 =>
bindO (addrV v11_6) fun a_8 => bindO (loadV P H 86 a_8) fun v12_7 =>
allocK P 86 H n fun v6_9 H_10 n_11 =>
bindO (storeP P 86 v6_9 v12_7 H_10) fun H_13 =>
bindO (addrV v6_9) fun a_16 => bindO (loadV P H_13 86 a_16) fun v14_15 =>
callVK P cal u1 [v14_15] H_13 n_11 fun v15_17 H_18 n_19 =>
bindO (pureSem P v15_17 (Op.unary Go.UnOp.not v15_17)) fun v16_20 =>
ifK v16_20 (
some ((Go.Value.bool false), H_18, n_19)) (
binK P Go.BinOp.add 3 (Go.Operand.tmp 9) (Go.Operand.const (Go.Value.int Go.IntKind.i64 1)) u9 (Go.Value.int Go.IntKind.i64 1) fun v17_22 =>
b1 u1 u7 u8 v17_22 H_18 n_19)) (
some ((Go.Value.bool true), H, n))
noncomputable def C95_1 (cal : Cal) (k m1 : Nat) (b1 : Value → Value → Value → Value → Hp → Nat → Res) (u1 u7 u8 u9 : Value) (H : Hp) (n : Nat) : Res := B95_1 cal k m1 b1 u1 u7 u8 u9 H n
noncomputable def S95_1 (cal : Cal) (k : Nat) : Nat → Value → Value → Value → Value → Hp → Nat → Res := fun m => Nat.rec (motive := fun _ => Value → Value → Value → Value → Hp → Nat → Res) (C95_1 cal k 0 (fun _ _ _ _ _ _ => none)) (fun m ih => C95_1 cal k (m + 1) ih) m
theorem h95_1 (cal : Cal) (k m1 : Nat) (u1 u7 u8 u9 : Value) (H : Hp) (n : Nat) : labK (E95_1 cal k m1) (Tr.set (Tr.set (Tr.set (Tr.set Tr.nil 9 (some u9)) 8 (some u8)) 7 (some u7)) 1 (some u1)) H n [] = C95_1 cal k m1 (R95_1 cal k m1) u1 u7 u8 u9 H n := by
  have h : labK (E95_1 cal k m1) (Tr.set (Tr.set (Tr.set (Tr.set Tr.nil 9 (some u9)) 8 (some u8)) 7 (some u7)) 1 (some u1)) H n [] = B95_1 cal k m1 (R95_1 cal k m1) u1 u7 u8 u9 H n := by kernel_rfl
  rw [h, C95_1]
theorem q95_1 (cal : Cal) (k : Nat) : ∀ (m : Nat) (u1 u7 u8 u9 : Value) (H : Hp) (n : Nat), labK (E95_1 cal k m) (Tr.set (Tr.set (Tr.set (Tr.set Tr.nil 9 (some u9)) 8 (some u8)) 7 (some u7)) 1 (some u1)) H n [] = S95_1 cal k m u1 u7 u8 u9 H n
  | 0, u1, u7, u8, u9, H, n => by
    rw [h95_1]
    have e : R95_1 cal k 0 = fun _ _ _ _ _ _ => none := by funext u1 u7 u8 u9 H n; kernel_rfl
    rw [e]; rfl
  | m + 1, u1, u7, u8, u9, H, n => by
    rw [h95_1]
    have e : R95_1 cal k (m + 1) = S95_1 cal k m := by
      funext u1 u7 u8 u9 H n
      have e : R95_1 cal k (m + 1) u1 u7 u8 u9 H n = labK (E95_1 cal k m) (Tr.set (Tr.set (Tr.set (Tr.set Tr.nil 9 (some u9)) 8 (some u8)) 7 (some u7)) 1 (some u1)) H n [] := by kernel_rfl
      rw [e]; exact q95_1 ..
    rw [e]; rfl
noncomputable def B95_0 (cal : Cal) (k : Nat) (j1 : Value → Value → Value → Value → Hp → Nat → Res) (v0 v1 : Value) (H : Hp) (n : Nat) : Res :=
bindO (lenV P 33 v0) fun v8_3 =>
j1 v1 v0 v8_3 (Go.Value.int Go.IntKind.i64 0) H n
noncomputable def C95_0 (cal : Cal) (k : Nat) (v0 v1 : Value) (H : Hp) (n : Nat) : Res := B95_0 cal k (S95_1 cal k k) v0 v1 H n
theorem h95_0 (cal : Cal) (k : Nat) (v0 v1 : Value) (H : Hp) (n : Nat) : bodyE P cal A (k + 1) 95 [v0, v1] H n = C95_0 cal k v0 v1 H n := by
  have h : bodyE P cal A (k + 1) 95 [v0, v1] H n = B95_0 cal k (fun u1 u7 u8 u9 H n => labK (E95_1 cal k k) (Tr.set (Tr.set (Tr.set (Tr.set Tr.nil 9 (some u9)) 8 (some u8)) 7 (some u7)) 1 (some u1)) H n []) v0 v1 H n := by
    rw [body_eq (fn := Go.Proofs.Try.f95) (c := code95) (rs := results95) (by kernel_rfl) (by kernel_rfl) (by kernel_rfl) (by kernel_rfl)]
    kernel_rfl
  rw [h, C95_0]
  have e1 : (fun u1 u7 u8 u9 H n => labK (E95_1 cal k k) (Tr.set (Tr.set (Tr.set (Tr.set Tr.nil 9 (some u9)) 8 (some u8)) 7 (some u7)) 1 (some u1)) H n []) = (S95_1 cal k k) := by funext u1 u7 u8 u9 H n; exact q95_1 ..
  rw [e1]
noncomputable def code96 : Code := codeOf 96
noncomputable def results96 : List ResultVar := resOf 96
noncomputable def K96_p (cal : Cal) (k : Nat) : KC (Value × Hp × Nat) := (cutK (A 96).c (codeE P cal (codeF P cal k) none 96 (cR code96) (Lv.b (A 96)) (doneK P results96) X0 (doneK P results96)))
noncomputable def K96_pr (cal : Cal) (k : Nat) : KC (Value × Hp × Nat) := (cutK (Lv.b (A 96)).c (codeE P cal (codeF P cal k) none 96 (cR (cR code96)) (Lv.b (Lv.b (A 96))) (doneK P results96) X0 (doneK P results96)))
noncomputable def B96_0 (cal : Cal) (k : Nat) (v0 : Value) (H : Hp) (n : Nat) : Res :=
boxK 86 v0 H n fun v1_1 H_2 n_3 =>
bindO (fieldAddrV P 86 v1_1 0) fun v3_5 =>
bindO (addrV v3_5) fun a_7 => bindO (loadV P H_2 3 a_7) fun v4_6 =>
binK P Go.BinOp.geq 3 (Go.Operand.tmp 4) (Go.Operand.const (Go.Value.int Go.IntKind.i64 0)) v4_6 (Go.Value.int Go.IntKind.i64 0) fun v5_8 =>
guardK v5_8 true (fun k_10 =>
bindO (fieldAddrV P 86 v1_1 0) fun v7_14 =>
k_10 v7_14 H_2 n_3) H_2 n_3 fun v_11 H_12 n_13 =>
guardK v5_8 true (fun k_15 =>
bindO (addrV v_11) fun a_20 => bindO (loadV P H_12 3 a_20) fun v8_19 =>
k_15 v8_19 H_12 n_13) H_12 n_13 fun v_16 H_17 n_18 =>
guardK v5_8 true (fun k_21 =>
binK P Go.BinOp.leq 3 (Go.Operand.tmp 8) (Go.Operand.const (Go.Value.int Go.IntKind.i64 1000)) v_16 (Go.Value.int Go.IntKind.i64 1000) fun v9_25 =>
k_21 v9_25 H_17 n_18) H_17 n_18 fun v_22 H_23 n_24 =>
bindO (pickV v5_8 v_22 (Go.Value.bool false)) fun v10_26 =>
guardK v10_26 true (fun k_28 =>
bindO (fieldAddrV P 86 v1_1 1) fun v12_32 =>
k_28 v12_32 H_23 n_24) H_23 n_24 fun v_29 H_30 n_31 =>
guardK v10_26 true (fun k_33 =>
bindO (addrV v_29) fun a_38 => bindO (loadV P H_30 53 a_38) fun v13_37 =>
k_33 v13_37 H_30 n_31) H_30 n_31 fun v_34 H_35 n_36 =>
guardK v10_26 true (fun k_39 =>
callFK P cal 114 [v_34] H_35 n_36 fun v14_43 H_44 n_45 =>
k_39 v14_43 H_44 n_45) H_35 n_36 fun v_40 H_41 n_42 =>
bindO (pickV v10_26 v_40 (Go.Value.bool false)) fun v15_46 =>
guardK v15_46 true (fun k_48 =>
bindO (fieldAddrV P 86 v1_1 2) fun v17_52 =>
k_48 v17_52 H_41 n_42) H_41 n_42 fun v_49 H_50 n_51 =>
guardK v15_46 true (fun k_53 =>
bindO (addrV v_49) fun a_58 => bindO (loadV P H_50 53 a_58) fun v18_57 =>
k_53 v18_57 H_50 n_51) H_50 n_51 fun v_54 H_55 n_56 =>
guardK v15_46 true (fun k_59 =>
callFK P cal 114 [v_54] H_55 n_56 fun v19_63 H_64 n_65 =>
k_59 v19_63 H_64 n_65) H_55 n_56 fun v_60 H_61 n_62 =>
bindO (pickV v15_46 v_60 (Go.Value.bool false)) fun v20_66 =>
some (v20_66, H_61, n_62)
noncomputable def C96_0 (cal : Cal) (k : Nat) (v0 : Value) (H : Hp) (n : Nat) : Res := B96_0 cal k v0 H n
theorem h96_0 (cal : Cal) (k : Nat) (v0 : Value) (H : Hp) (n : Nat) : bodyE P cal A (k + 1) 96 [v0] H n = C96_0 cal k v0 H n := by
  have h : bodyE P cal A (k + 1) 96 [v0] H n = B96_0 cal k v0 H n := by
    rw [body_eq (fn := Go.Proofs.Try.f96) (c := code96) (rs := results96) (by kernel_rfl) (by kernel_rfl) (by kernel_rfl) (by kernel_rfl)]
    kernel_rfl
  rw [h, C96_0]
noncomputable def code98 : Code := codeOf 98
noncomputable def results98 : List ResultVar := resOf 98
noncomputable def K98_p (cal : Cal) (k : Nat) : KC (Value × Hp × Nat) := (cutK (A 98).c (codeE P cal (codeF P cal k) none 98 (cR code98) (Lv.b (A 98)) (doneK P results98) X0 (doneK P results98)))
noncomputable def K98_pr (cal : Cal) (k : Nat) : KC (Value × Hp × Nat) := (cutK (Lv.b (A 98)).c (codeE P cal (codeF P cal k) none 98 (cR (cR code98)) (Lv.b (Lv.b (A 98))) (doneK P results98) X0 (doneK P results98)))
noncomputable def K98_prr (cal : Cal) (k : Nat) : KC (Value × Hp × Nat) := (cutK (Lv.b (Lv.b (A 98))).c (codeE P cal (codeF P cal k) none 98 (cR (cR (cR code98))) (Lv.b (Lv.b (Lv.b (A 98)))) (doneK P results98) X0 (doneK P results98)))
noncomputable def K98_prrl (cal : Cal) (k : Nat) : KC (Value × Hp × Nat) := (cutK (Lv.a (Lv.b (Lv.b (A 98)))).c (codeE P cal (codeF P cal k) none 98 (cR (cL (cR (cR code98)))) (Lv.b (Lv.a (Lv.b (Lv.b (A 98))))) (K98_prr cal k) X0 (doneK P results98)))
noncomputable def K98_pxrrlr (cal : Cal) (k : Nat) : XC (Value × Hp × Nat) := (upX 0 (K98_prr cal k) X0)
noncomputable def K98_prrlrl (cal : Cal) (k : Nat) (m1 : Nat) : KC (Value × Hp × Nat) := (fun T H n D => codeF P cal m1 (Lv.a (Lv.b (Lv.a (Lv.b (Lv.b (A 98)))))) none 98 (cL (cR (cL (cR (cR code98))))) (K98_prr cal k) (K98_pxrrlr cal k) (doneK P results98) (cutT (Lv.a (Lv.b (Lv.a (Lv.b (Lv.b (A 98)))))).c T) H n D)
noncomputable def K98_prrlrll (cal : Cal) (k : Nat) (m1 : Nat) : KC (Value × Hp × Nat) := (cutK (Lv.a (Lv.a (Lv.b (Lv.a (Lv.b (Lv.b (A 98))))))).c (codeE P cal (codeF P cal m1) none 98 (cR (cL (cL (cR (cL (cR (cR code98))))))) (Lv.b (Lv.a (Lv.a (Lv.b (Lv.a (Lv.b (Lv.b (A 98)))))))) (K98_prrlrl cal k m1) (K98_pxrrlr cal k) (doneK P results98)))
noncomputable def K98_prrlrllr (cal : Cal) (k : Nat) (m1 : Nat) : KC (Value × Hp × Nat) := (cutK (Lv.b (Lv.a (Lv.a (Lv.b (Lv.a (Lv.b (Lv.b (A 98)))))))).c (codeE P cal (codeF P cal m1) none 98 (cR (cR (cL (cL (cR (cL (cR (cR code98)))))))) (Lv.b (Lv.b (Lv.a (Lv.a (Lv.b (Lv.a (Lv.b (Lv.b (A 98))))))))) (K98_prrlrl cal k m1) (K98_pxrrlr cal k) (doneK P results98)))
noncomputable def K98_prrlrllrr (cal : Cal) (k : Nat) (m1 : Nat) : KC (Value × Hp × Nat) := (cutK (Lv.b (Lv.b (Lv.a (Lv.a (Lv.b (Lv.a (Lv.b (Lv.b (A 98))))))))).c (codeE P cal (codeF P cal m1) none 98 (cR (cR (cR (cL (cL (cR (cL (cR (cR code98))))))))) (Lv.b (Lv.b (Lv.b (Lv.a (Lv.a (Lv.b (Lv.a (Lv.b (Lv.b (A 98)))))))))) (K98_prrlrl cal k m1) (K98_pxrrlr cal k) (doneK P results98)))
noncomputable def K98_pxrrlrllrrl (cal : Cal) (k : Nat) (m1 : Nat) : XC (Value × Hp × Nat) := (upX 1 (K98_prrlrllrr cal k m1) (K98_pxrrlr cal k))
noncomputable def K98_prrlrllrrll (cal : Cal) (k : Nat) (m1 : Nat) : KC (Value × Hp × Nat) := (cutK (Lv.a (Lv.a (Lv.b (Lv.b (Lv.a (Lv.a (Lv.b (Lv.a (Lv.b (Lv.b (A 98))))))))))).c (codeE P cal (codeF P cal m1) none 98 (cR (cL (cL (cR (cR (cL (cL (cR (cL (cR (cR code98))))))))))) (Lv.b (Lv.a (Lv.a (Lv.b (Lv.b (Lv.a (Lv.a (Lv.b (Lv.a (Lv.b (Lv.b (A 98)))))))))))) (K98_prrlrllrr cal k m1) (K98_pxrrlrllrrl cal k m1) (doneK P results98)))
noncomputable def K98_prrr (cal : Cal) (k : Nat) : KC (Value × Hp × Nat) := (cutK (Lv.b (Lv.b (Lv.b (A 98)))).c (codeE P cal (codeF P cal k) none 98 (cR (cR (cR (cR code98)))) (Lv.b (Lv.b (Lv.b (Lv.b (A 98))))) (doneK P results98) X0 (doneK P results98)))
noncomputable def E98_1 (cal : Cal) (k m1 : Nat) : KC (Value × Hp × Nat) := codeE P cal (codeF P cal m1) none 98 (cL (cL (cR (cL (cR (cR code98)))))) (Lv.a (Lv.a (Lv.b (Lv.a (Lv.b (Lv.b (A 98))))))) (K98_prrlrl cal k m1) (K98_pxrrlr cal k) (doneK P results98)
noncomputable def R98_1 (cal : Cal) (k m1 : Nat) : Value → Value → Value → Value → Hp → Nat → Res := fun u1 u5 u9 u10 H n => codeF P cal m1 (Lv.a (Lv.b (Lv.a (Lv.b (Lv.b (A 98)))))) none 98 (cL (cR (cL (cR (cR code98))))) (K98_prr cal k) (K98_pxrrlr cal k) (doneK P results98) (Tr.set (Tr.set (Tr.set (Tr.set Tr.nil 10 (some u10)) 9 (some u9)) 5 (some u5)) 1 (some u1)) H n []
noncomputable def B98_1 (cal : Cal) (k m1 : Nat) (b1 : Value → Value → Value → Value → Hp → Nat → Res) (u1 u5 u9 u10 : Value) (H : Hp) (n : Nat) : Res :=
binK P Go.BinOp.lss 3 (Go.Operand.tmp 10) (Go.Operand.const (Go.Value.int Go.IntKind.i64 8)) u10 (Go.Value.int Go.IntKind.i64 8) fun v11_10 =>
ifK v11_10 (
bindO (indexV P 111 u9 u10) fun v12_11 =>
allocK P 53 H n fun v7_12 H_13 n_14 =>
bindO (storeP P 53 v7_12 v12_11 H_13) fun H_16 =>
bindO (addrV v7_12) fun a_20 => bindO (loadV P H_16 53 a_20) fun v15_19 =>
callVK P cal u1 [v15_19] H_16 n_14 fun v16_21 H_22 n_23 =>
binK P Go.BinOp.add 3 (Go.Operand.tmp 13) (Go.Operand.tmp 16) u5 v16_21 fun v17_24 =>
binK P Go.BinOp.add 3 (Go.Operand.tmp 10) (Go.Operand.const (Go.Value.int Go.IntKind.i64 1)) u10 (Go.Value.int Go.IntKind.i64 1) fun v18_26 =>
b1 u1 v17_24 u9 v18_26 H_22 n_23) (
some (u5, H, n))
noncomputable def C98_1 (cal : Cal) (k m1 : Nat) (b1 : Value → Value → Value → Value → Hp → Nat → Res) (u1 u5 u9 u10 : Value) (H : Hp) (n : Nat) : Res := B98_1 cal k m1 b1 u1 u5 u9 u10 H n
noncomputable def S98_1 (cal : Cal) (k : Nat) : Nat → Value → Value → Value → Value → Hp → Nat → Res := fun m => Nat.rec (motive := fun _ => Value → Value → Value → Value → Hp → Nat → Res) (C98_1 cal k 0 (fun _ _ _ _ _ _ => none)) (fun m ih => C98_1 cal k (m + 1) ih) m
theorem h98_1 (cal : Cal) (k m1 : Nat) (u1 u5 u9 u10 : Value) (H : Hp) (n : Nat) : labK (E98_1 cal k m1) (Tr.set (Tr.set (Tr.set (Tr.set Tr.nil 10 (some u10)) 9 (some u9)) 5 (some u5)) 1 (some u1)) H n [] = C98_1 cal k m1 (R98_1 cal k m1) u1 u5 u9 u10 H n := by
  have h : labK (E98_1 cal k m1) (Tr.set (Tr.set (Tr.set (Tr.set Tr.nil 10 (some u10)) 9 (some u9)) 5 (some u5)) 1 (some u1)) H n [] = B98_1 cal k m1 (R98_1 cal k m1) u1 u5 u9 u10 H n := by kernel_rfl
  rw [h, C98_1]
theorem q98_1 (cal : Cal) (k : Nat) : ∀ (m : Nat) (u1 u5 u9 u10 : Value) (H : Hp) (n : Nat), labK (E98_1 cal k m) (Tr.set (Tr.set (Tr.set (Tr.set Tr.nil 10 (some u10)) 9 (some u9)) 5 (some u5)) 1 (some u1)) H n [] = S98_1 cal k m u1 u5 u9 u10 H n
  | 0, u1, u5, u9, u10, H, n => by
    rw [h98_1]
    have e : R98_1 cal k 0 = fun _ _ _ _ _ _ => none := by funext u1 u5 u9 u10 H n; kernel_rfl
    rw [e]; rfl
  | m + 1, u1, u5, u9, u10, H, n => by
    rw [h98_1]
    have e : R98_1 cal k (m + 1) = S98_1 cal k m := by
      funext u1 u5 u9 u10 H n
      have e : R98_1 cal k (m + 1) u1 u5 u9 u10 H n = labK (E98_1 cal k m) (Tr.set (Tr.set (Tr.set (Tr.set Tr.nil 10 (some u10)) 9 (some u9)) 5 (some u5)) 1 (some u1)) H n [] := by kernel_rfl
      rw [e]; exact q98_1 ..
    rw [e]; rfl
noncomputable def B98_0 (cal : Cal) (k : Nat) (j1 : Value → Value → Value → Value → Hp → Nat → Res) (v0 v1 : Value) (H : Hp) (n : Nat) : Res :=
boxK 113 v0 H n fun v2_1 H_2 n_3 =>
bindO (fieldAddrV P 113 v2_1 1) fun v8_6 =>
bindO (addrV v8_6) fun a_8 => bindO (loadV P H_2 111 a_8) fun v9_7 =>
j1 v1 (Go.Value.int Go.IntKind.i64 0) v9_7 (Go.Value.int Go.IntKind.i64 0) H_2 n_3
noncomputable def C98_0 (cal : Cal) (k : Nat) (v0 v1 : Value) (H : Hp) (n : Nat) : Res := B98_0 cal k (S98_1 cal k k) v0 v1 H n
theorem h98_0 (cal : Cal) (k : Nat) (v0 v1 : Value) (H : Hp) (n : Nat) : bodyE P cal A (k + 1) 98 [v0, v1] H n = C98_0 cal k v0 v1 H n := by
  have h : bodyE P cal A (k + 1) 98 [v0, v1] H n = B98_0 cal k (fun u1 u5 u9 u10 H n => labK (E98_1 cal k k) (Tr.set (Tr.set (Tr.set (Tr.set Tr.nil 10 (some u10)) 9 (some u9)) 5 (some u5)) 1 (some u1)) H n []) v0 v1 H n := by
    rw [body_eq (fn := Go.Proofs.Try.f98) (c := code98) (rs := results98) (by kernel_rfl) (by kernel_rfl) (by kernel_rfl) (by kernel_rfl)]
    kernel_rfl
  rw [h, C98_0]
  have e1 : (fun u1 u5 u9 u10 H n => labK (E98_1 cal k k) (Tr.set (Tr.set (Tr.set (Tr.set Tr.nil 10 (some u10)) 9 (some u9)) 5 (some u5)) 1 (some u1)) H n []) = (S98_1 cal k k) := by funext u1 u5 u9 u10 H n; exact q98_1 ..
  rw [e1]
noncomputable def code99 : Code := codeOf 99
noncomputable def results99 : List ResultVar := resOf 99
noncomputable def K99_p (cal : Cal) (k : Nat) : KC (Value × Hp × Nat) := (cutK (A 99).c (codeE P cal (codeF P cal k) none 99 (cR code99) (Lv.b (A 99)) (doneK P results99) X0 (doneK P results99)))
noncomputable def K99_pr (cal : Cal) (k : Nat) : KC (Value × Hp × Nat) := (cutK (Lv.b (A 99)).c (codeE P cal (codeF P cal k) none 99 (cR (cR code99)) (Lv.b (Lv.b (A 99))) (doneK P results99) X0 (doneK P results99)))
noncomputable def B99_0 (cal : Cal) (k : Nat) (v0 v1 : Value) (H : Hp) (n : Nat) : Res :=
boxK 53 v0 H n fun v2_1 H_2 n_3 =>
bindO (fieldAddrV P 53 v2_1 0) fun v5_5 =>
bindO (addrV v5_5) fun a_7 => bindO (loadV P H_2 3 a_7) fun v6_6 =>
binK P Go.BinOp.leq 3 (Go.Operand.tmp 6) (Go.Operand.tmp 7) v6_6 v1 fun v8_9 =>
guardK v8_9 true (fun k_11 =>
k_11 v1 H_2 n_3) H_2 n_3 fun v_12 H_13 n_14 =>
guardK v8_9 true (fun k_16 =>
bindO (fieldAddrV P 53 v2_1 1) fun v11_20 =>
k_16 v11_20 H_13 n_14) H_13 n_14 fun v_17 H_18 n_19 =>
guardK v8_9 true (fun k_21 =>
bindO (addrV v_17) fun a_26 => bindO (loadV P H_18 3 a_26) fun v12_25 =>
k_21 v12_25 H_18 n_19) H_18 n_19 fun v_22 H_23 n_24 =>
guardK v8_9 true (fun k_27 =>
binK P Go.BinOp.leq 3 (Go.Operand.tmp 10) (Go.Operand.tmp 12) v_12 v_22 fun v13_31 =>
k_27 v13_31 H_23 n_24) H_23 n_24 fun v_28 H_29 n_30 =>
bindO (pickV v8_9 v_28 (Go.Value.bool false)) fun v14_32 =>
some (v14_32, H_29, n_30)
noncomputable def C99_0 (cal : Cal) (k : Nat) (v0 v1 : Value) (H : Hp) (n : Nat) : Res := B99_0 cal k v0 v1 H n
theorem h99_0 (cal : Cal) (k : Nat) (v0 v1 : Value) (H : Hp) (n : Nat) : bodyE P cal A (k + 1) 99 [v0, v1] H n = C99_0 cal k v0 v1 H n := by
  have h : bodyE P cal A (k + 1) 99 [v0, v1] H n = B99_0 cal k v0 v1 H n := by
    rw [body_eq (fn := Go.Proofs.Try.f99) (c := code99) (rs := results99) (by kernel_rfl) (by kernel_rfl) (by kernel_rfl) (by kernel_rfl)]
    kernel_rfl
  rw [h, C99_0]
noncomputable def code100 : Code := codeOf 100
noncomputable def results100 : List ResultVar := resOf 100
noncomputable def K100_p (cal : Cal) (k : Nat) : KC (Value × Hp × Nat) := (cutK (A 100).c (codeE P cal (codeF P cal k) none 100 (cR code100) (Lv.b (A 100)) (doneK P results100) X0 (doneK P results100)))
noncomputable def K100_pr (cal : Cal) (k : Nat) : KC (Value × Hp × Nat) := (cutK (Lv.b (A 100)).c (codeE P cal (codeF P cal k) none 100 (cR (cR code100)) (Lv.b (Lv.b (A 100))) (doneK P results100) X0 (doneK P results100)))
noncomputable def B100_0 (cal : Cal) (k : Nat) (v0 v1 : Value) (H : Hp) (n : Nat) : Res :=
callFK P cal 32 [v0, (Go.Value.int Go.IntKind.i64 0), v1] H n fun v7_4 H_5 n_6 =>
guardK v7_4 true (fun k_8 =>
k_8 v1 H_5 n_6) H_5 n_6 fun v_9 H_10 n_11 =>
guardK v7_4 true (fun k_13 =>
binK P Go.BinOp.leq 3 (Go.Operand.tmp 9) (Go.Operand.const (Go.Value.int Go.IntKind.i64 1000)) v_9 (Go.Value.int Go.IntKind.i64 1000) fun v10_17 =>
k_13 v10_17 H_10 n_11) H_10 n_11 fun v_14 H_15 n_16 =>
bindO (pickV v7_4 v_14 (Go.Value.bool false)) fun v11_18 =>
some (v11_18, H_15, n_16)
noncomputable def C100_0 (cal : Cal) (k : Nat) (v0 v1 : Value) (H : Hp) (n : Nat) : Res := B100_0 cal k v0 v1 H n
theorem h100_0 (cal : Cal) (k : Nat) (v0 v1 : Value) (H : Hp) (n : Nat) : bodyE P cal A (k + 1) 100 [v0, v1] H n = C100_0 cal k v0 v1 H n := by
  have h : bodyE P cal A (k + 1) 100 [v0, v1] H n = B100_0 cal k v0 v1 H n := by
    rw [body_eq (fn := Go.Proofs.Try.f100) (c := code100) (rs := results100) (by kernel_rfl) (by kernel_rfl) (by kernel_rfl) (by kernel_rfl)]
    kernel_rfl
  rw [h, C100_0]
noncomputable def code101 : Code := codeOf 101
noncomputable def results101 : List ResultVar := resOf 101
noncomputable def K101_p (cal : Cal) (k : Nat) : KC (Value × Hp × Nat) := (cutK (A 101).c (codeE P cal (codeF P cal k) none 101 (cR code101) (Lv.b (A 101)) (doneK P results101) X0 (doneK P results101)))
noncomputable def K101_pr (cal : Cal) (k : Nat) : KC (Value × Hp × Nat) := (cutK (Lv.b (A 101)).c (codeE P cal (codeF P cal k) none 101 (cR (cR code101)) (Lv.b (Lv.b (A 101))) (doneK P results101) X0 (doneK P results101)))
noncomputable def K101_prr (cal : Cal) (k : Nat) : KC (Value × Hp × Nat) := (cutK (Lv.b (Lv.b (A 101))).c (codeE P cal (codeF P cal k) none 101 (cR (cR (cR code101))) (Lv.b (Lv.b (Lv.b (A 101)))) (doneK P results101) X0 (doneK P results101)))
noncomputable def K101_prrl (cal : Cal) (k : Nat) : KC (Value × Hp × Nat) := (cutK (Lv.a (Lv.b (Lv.b (A 101)))).c (codeE P cal (codeF P cal k) none 101 (cR (cL (cR (cR code101)))) (Lv.b (Lv.a (Lv.b (Lv.b (A 101))))) (K101_prr cal k) X0 (doneK P results101)))
noncomputable def K101_pxrrlr (cal : Cal) (k : Nat) : XC (Value × Hp × Nat) := (upX 0 (K101_prr cal k) X0)
noncomputable def K101_prrlrl (cal : Cal) (k : Nat) (m1 : Nat) : KC (Value × Hp × Nat) := (fun T H n D => codeF P cal m1 (Lv.a (Lv.b (Lv.a (Lv.b (Lv.b (A 101)))))) none 101 (cL (cR (cL (cR (cR code101))))) (K101_prr cal k) (K101_pxrrlr cal k) (doneK P results101) (cutT (Lv.a (Lv.b (Lv.a (Lv.b (Lv.b (A 101)))))).c T) H n D)
noncomputable def K101_prrlrll (cal : Cal) (k : Nat) (m1 : Nat) : KC (Value × Hp × Nat) := (cutK (Lv.a (Lv.a (Lv.b (Lv.a (Lv.b (Lv.b (A 101))))))).c (codeE P cal (codeF P cal m1) none 101 (cR (cL (cL (cR (cL (cR (cR code101))))))) (Lv.b (Lv.a (Lv.a (Lv.b (Lv.a (Lv.b (Lv.b (A 101)))))))) (K101_prrlrl cal k m1) (K101_pxrrlr cal k) (doneK P results101)))
noncomputable def K101_prrlrllr (cal : Cal) (k : Nat) (m1 : Nat) : KC (Value × Hp × Nat) := (cutK (Lv.b (Lv.a (Lv.a (Lv.b (Lv.a (Lv.b (Lv.b (A 101)))))))).c (codeE P cal (codeF P cal m1) none 101 (cR (cR (cL (cL (cR (cL (cR (cR code101)))))))) (Lv.b (Lv.b (Lv.a (Lv.a (Lv.b (Lv.a (Lv.b (Lv.b (A 101))))))))) (K101_prrlrl cal k m1) (K101_pxrrlr cal k) (doneK P results101)))
noncomputable def K101_prrlrllrr (cal : Cal) (k : Nat) (m1 : Nat) : KC (Value × Hp × Nat) := (cutK (Lv.b (Lv.b (Lv.a (Lv.a (Lv.b (Lv.a (Lv.b (Lv.b (A 101))))))))).c (codeE P cal (codeF P cal m1) none 101 (cR (cR (cR (cL (cL (cR (cL (cR (cR code101))))))))) (Lv.b (Lv.b (Lv.b (Lv.a (Lv.a (Lv.b (Lv.a (Lv.b (Lv.b (A 101)))))))))) (K101_prrlrl cal k m1) (K101_pxrrlr cal k) (doneK P results101)))
noncomputable def K101_pxrrlrllrrl (cal : Cal) (k : Nat) (m1 : Nat) : XC (Value × Hp × Nat) := (upX 1 (K101_prrlrllrr cal k m1) (K101_pxrrlr cal k))
noncomputable def K101_prrlrllrrll (cal : Cal) (k : Nat) (m1 : Nat) : KC (Value × Hp × Nat) := (cutK (Lv.a (Lv.a (Lv.b (Lv.b (Lv.a (Lv.a (Lv.b (Lv.a (Lv.b (Lv.b (A 101))))))))))).c (codeE P cal (codeF P cal m1) none 101 (cR (cL (cL (cR (cR (cL (cL (cR (cL (cR (cR code101))))))))))) (Lv.b (Lv.a (Lv.a (Lv.b (Lv.b (Lv.a (Lv.a (Lv.b (Lv.a (Lv.b (Lv.b (A 101)))))))))))) (K101_prrlrllrr cal k m1) (K101_pxrrlrllrrl cal k m1) (doneK P results101)))
noncomputable def K101_prrr (cal : Cal) (k : Nat) : KC (Value × Hp × Nat) := (cutK (Lv.b (Lv.b (Lv.b (A 101)))).c (codeE P cal (codeF P cal k) none 101 (cR (cR (cR (cR code101)))) (Lv.b (Lv.b (Lv.b (Lv.b (A 101))))) (doneK P results101) X0 (doneK P results101)))
noncomputable def E101_1 (cal : Cal) (k m1 : Nat) : KC (Value × Hp × Nat) := codeE P cal (codeF P cal m1) none 101 (cL (cL (cR (cL (cR (cR code101)))))) (Lv.a (Lv.a (Lv.b (Lv.a (Lv.b (Lv.b (A 101))))))) (K101_prrlrl cal k m1) (K101_pxrrlr cal k) (doneK P results101)
noncomputable def R101_1 (cal : Cal) (k m1 : Nat) : Value → Value → Value → Hp → Nat → Res := fun u0 u1 u3 H n => codeF P cal m1 (Lv.a (Lv.b (Lv.a (Lv.b (Lv.b (A 101)))))) none 101 (cL (cR (cL (cR (cR code101))))) (K101_prr cal k) (K101_pxrrlr cal k) (doneK P results101) (Tr.set (Tr.set (Tr.set Tr.nil 3 (some u3)) 1 (some u1)) 0 (some u0)) H n []
noncomputable def B101_1 (cal : Cal) (k m1 : Nat) (b1 : Value → Value → Value → Hp → Nat → Res) (u0 u1 u3 : Value) (H : Hp) (n : Nat) : Res :=
binK P Go.BinOp.lss 3 (Go.Operand.tmp 3) (Go.Operand.const (Go.Value.int Go.IntKind.i64 8)) u3 (Go.Value.int Go.IntKind.i64 8) fun v4_8 =>
ifK v4_8 (
bindO (indexAddrV P 121 u1 u3) fun v7_12 =>
bindO (storeP P 3 v7_12 (Go.Value.int Go.IntKind.i64 (-1)) H) fun H_14 =>
binK P Go.BinOp.add 3 (Go.Operand.tmp 3) (Go.Operand.const (Go.Value.int Go.IntKind.i64 1)) u3 (Go.Value.int Go.IntKind.i64 1) fun v8_15 =>
b1 u0 u1 v8_15 H_14 n) (
bindO (addrV u1) fun a_18 => bindO (loadV P H 121 a_18) fun v9_17 =>
bindO (storeP P 121 u0 v9_17 H) fun H_20 =>
bindO (resV P (Tr.set Tr.nil 0 (some u0)) H_20 results101) fun vs_21 => some (oneV vs_21, H_20, n))
noncomputable def C101_1 (cal : Cal) (k m1 : Nat) (b1 : Value → Value → Value → Hp → Nat → Res) (u0 u1 u3 : Value) (H : Hp) (n : Nat) : Res := B101_1 cal k m1 b1 u0 u1 u3 H n
noncomputable def S101_1 (cal : Cal) (k : Nat) : Nat → Value → Value → Value → Hp → Nat → Res := fun m => Nat.rec (motive := fun _ => Value → Value → Value → Hp → Nat → Res) (C101_1 cal k 0 (fun _ _ _ _ _ => none)) (fun m ih => C101_1 cal k (m + 1) ih) m
theorem h101_1 (cal : Cal) (k m1 : Nat) (u0 u1 u3 : Value) (H : Hp) (n : Nat) : labK (E101_1 cal k m1) (Tr.set (Tr.set (Tr.set Tr.nil 3 (some u3)) 1 (some u1)) 0 (some u0)) H n [] = C101_1 cal k m1 (R101_1 cal k m1) u0 u1 u3 H n := by
  have h : labK (E101_1 cal k m1) (Tr.set (Tr.set (Tr.set Tr.nil 3 (some u3)) 1 (some u1)) 0 (some u0)) H n [] = B101_1 cal k m1 (R101_1 cal k m1) u0 u1 u3 H n := by kernel_rfl
  rw [h, C101_1]
theorem q101_1 (cal : Cal) (k : Nat) : ∀ (m : Nat) (u0 u1 u3 : Value) (H : Hp) (n : Nat), labK (E101_1 cal k m) (Tr.set (Tr.set (Tr.set Tr.nil 3 (some u3)) 1 (some u1)) 0 (some u0)) H n [] = S101_1 cal k m u0 u1 u3 H n
  | 0, u0, u1, u3, H, n => by
    rw [h101_1]
    have e : R101_1 cal k 0 = fun _ _ _ _ _ => none := by funext u0 u1 u3 H n; kernel_rfl
    rw [e]; rfl
  | m + 1, u0, u1, u3, H, n => by
    rw [h101_1]
    have e : R101_1 cal k (m + 1) = S101_1 cal k m := by
      funext u0 u1 u3 H n
      have e : R101_1 cal k (m + 1) u0 u1 u3 H n = labK (E101_1 cal k m) (Tr.set (Tr.set (Tr.set Tr.nil 3 (some u3)) 1 (some u1)) 0 (some u0)) H n [] := by kernel_rfl
      rw [e]; exact q101_1 ..
    rw [e]; rfl
noncomputable def B101_0 (cal : Cal) (k : Nat) (j1 : Value → Value → Value → Hp → Nat → Res) (H : Hp) (n : Nat) : Res :=
allocK P 121 H n fun v0_1 H_2 n_3 =>
allocK P 121 H_2 n_3 fun v1_4 H_5 n_6 =>
j1 v0_1 v1_4 (Go.Value.int Go.IntKind.i64 0) H_5 n_6
noncomputable def C101_0 (cal : Cal) (k : Nat) (H : Hp) (n : Nat) : Res := B101_0 cal k (S101_1 cal k k)  H n
theorem h101_0 (cal : Cal) (k : Nat) (H : Hp) (n : Nat) : bodyE P cal A (k + 1) 101 [] H n = C101_0 cal k  H n := by
  have h : bodyE P cal A (k + 1) 101 [] H n = B101_0 cal k (fun u0 u1 u3 H n => labK (E101_1 cal k k) (Tr.set (Tr.set (Tr.set Tr.nil 3 (some u3)) 1 (some u1)) 0 (some u0)) H n [])  H n := by
    rw [body_eq (fn := Go.Proofs.Try.f101) (c := code101) (rs := results101) (by kernel_rfl) (by kernel_rfl) (by kernel_rfl) (by kernel_rfl)]
    kernel_rfl
  rw [h, C101_0]
  have e1 : (fun u0 u1 u3 H n => labK (E101_1 cal k k) (Tr.set (Tr.set (Tr.set Tr.nil 3 (some u3)) 1 (some u1)) 0 (some u0)) H n []) = (S101_1 cal k k) := by funext u0 u1 u3 H n; exact q101_1 ..
  rw [e1]
noncomputable def code102 : Code := codeOf 102
noncomputable def results102 : List ResultVar := resOf 102
noncomputable def K102_p (cal : Cal) (k : Nat) : KC (Value × Hp × Nat) := (cutK (A 102).c (codeE P cal (codeF P cal k) none 102 (cR code102) (Lv.b (A 102)) (doneK P results102) X0 (doneK P results102)))
noncomputable def K102_pr (cal : Cal) (k : Nat) : KC (Value × Hp × Nat) := (cutK (Lv.b (A 102)).c (codeE P cal (codeF P cal k) none 102 (cR (cR code102)) (Lv.b (Lv.b (A 102))) (doneK P results102) X0 (doneK P results102)))
noncomputable def B102_0 (cal : Cal) (k : Nat) (v0 v1 v2 : Value) (H : Hp) (n : Nat) : Res :=
binK P Go.BinOp.geq 3 (Go.Operand.tmp 7) (Go.Operand.const (Go.Value.int Go.IntKind.i64 0)) v2 (Go.Value.int Go.IntKind.i64 0) fun v8_3 =>
guardK v8_3 true (fun k_5 =>
k_5 v2 H n) H n fun v_6 H_7 n_8 =>
guardK v8_3 true (fun k_10 =>
k_10 v0 H_7 n_8) H_7 n_8 fun v_11 H_12 n_13 =>
guardK v8_3 true (fun k_15 =>
bindO (nilV v_11) fun v12_19 =>
k_15 v12_19 H_12 n_13) H_12 n_13 fun v_16 H_17 n_18 =>
guardK v8_3 true (fun k_20 =>
bindO (fieldAddrV P 117 v_16 0) fun v13_24 =>
k_20 v13_24 H_17 n_18) H_17 n_18 fun v_21 H_22 n_23 =>
guardK v8_3 true (fun k_25 =>
bindO (fieldAddrV P 35 v_21 2) fun v14_29 =>
k_25 v14_29 H_22 n_23) H_22 n_23 fun v_26 H_27 n_28 =>
guardK v8_3 true (fun k_30 =>
bindO (addrV v_26) fun a_35 => bindO (loadV P H_27 33 a_35) fun v15_34 =>
k_30 v15_34 H_27 n_28) H_27 n_28 fun v_31 H_32 n_33 =>
guardK v8_3 true (fun k_36 =>
bindO (lenV P 33 v_31) fun v16_40 =>
k_36 v16_40 H_32 n_33) H_32 n_33 fun v_37 H_38 n_39 =>
guardK v8_3 true (fun k_41 =>
binK P Go.BinOp.lss 3 (Go.Operand.tmp 10) (Go.Operand.tmp 16) v_6 v_37 fun v17_45 =>
k_41 v17_45 H_38 n_39) H_38 n_39 fun v_42 H_43 n_44 =>
bindO (pickV v8_3 v_42 (Go.Value.bool false)) fun v18_46 =>
guardK v18_46 true (fun k_48 =>
k_48 v0 H_43 n_44) H_43 n_44 fun v_49 H_50 n_51 =>
guardK v18_46 true (fun k_53 =>
k_53 v1 H_50 n_51) H_50 n_51 fun v_54 H_55 n_56 =>
guardK v18_46 true (fun k_58 =>
k_58 v2 H_55 n_56) H_55 n_56 fun v_59 H_60 n_61 =>
guardK v18_46 true (fun k_63 =>
bindO (nilV v_49) fun v23_67 =>
k_63 v23_67 H_60 n_61) H_60 n_61 fun v_64 H_65 n_66 =>
guardK v18_46 true (fun k_68 =>
bindO (fieldAddrV P 117 v_64 2) fun v24_72 =>
k_68 v24_72 H_65 n_66) H_65 n_66 fun v_69 H_70 n_71 =>
guardK v18_46 true (fun k_73 =>
bindO (indexAddrV P 115 v_69 v_54) fun v25_77 =>
k_73 v25_77 H_70 n_71) H_70 n_71 fun v_74 H_75 n_76 =>
guardK v18_46 true (fun k_78 =>
bindO (indexAddrV P 114 v_74 v_59) fun v26_82 =>
k_78 v26_82 H_75 n_76) H_75 n_76 fun v_79 H_80 n_81 =>
guardK v18_46 true (fun k_83 =>
bindO (addrV v_79) fun a_88 => bindO (loadV P H_80 113 a_88) fun v27_87 =>
k_83 v27_87 H_80 n_81) H_80 n_81 fun v_84 H_85 n_86 =>
guardK v18_46 true (fun k_89 =>
callFK P cal 62 [v_84] H_85 n_86 fun v28_93 H_94 n_95 =>
k_89 v28_93 H_94 n_95) H_85 n_86 fun v_90 H_91 n_92 =>
bindO (pickV v18_46 v_90 (Go.Value.bool false)) fun v29_96 =>
some (v29_96, H_91, n_92)
noncomputable def C102_0 (cal : Cal) (k : Nat) (v0 v1 v2 : Value) (H : Hp) (n : Nat) : Res := B102_0 cal k v0 v1 v2 H n
theorem h102_0 (cal : Cal) (k : Nat) (v0 v1 v2 : Value) (H : Hp) (n : Nat) : bodyE P cal A (k + 1) 102 [v0, v1, v2] H n = C102_0 cal k v0 v1 v2 H n := by
  have h : bodyE P cal A (k + 1) 102 [v0, v1, v2] H n = B102_0 cal k v0 v1 v2 H n := by
    rw [body_eq (fn := Go.Proofs.Try.f102) (c := code102) (rs := results102) (by kernel_rfl) (by kernel_rfl) (by kernel_rfl) (by kernel_rfl)]
    kernel_rfl
  rw [h, C102_0]
noncomputable def code103 : Code := codeOf 103
noncomputable def results103 : List ResultVar := resOf 103
noncomputable def K103_p (cal : Cal) (k : Nat) : KC (Value × Hp × Nat) := (cutK (A 103).c (codeE P cal (codeF P cal k) none 103 (cR code103) (Lv.b (A 103)) (doneK P results103) X0 (doneK P results103)))
noncomputable def K103_pr (cal : Cal) (k : Nat) : KC (Value × Hp × Nat) := (cutK (Lv.b (A 103)).c (codeE P cal (codeF P cal k) none 103 (cR (cR code103)) (Lv.b (Lv.b (A 103))) (doneK P results103) X0 (doneK P results103)))
noncomputable def K103_prl (cal : Cal) (k : Nat) : KC (Value × Hp × Nat) := (cutK (Lv.a (Lv.b (A 103))).c (codeE P cal (codeF P cal k) none 103 (cR (cL (cR code103))) (Lv.b (Lv.a (Lv.b (A 103)))) (K103_pr cal k) X0 (doneK P results103)))
noncomputable def K103_pxrlr (cal : Cal) (k : Nat) : XC (Value × Hp × Nat) := (upX 0 (K103_pr cal k) X0)
noncomputable def K103_prlrl (cal : Cal) (k : Nat) (m1 : Nat) : KC (Value × Hp × Nat) := (fun T H n D => codeF P cal m1 (Lv.a (Lv.b (Lv.a (Lv.b (A 103))))) none 103 (cL (cR (cL (cR code103)))) (K103_pr cal k) (K103_pxrlr cal k) (doneK P results103) (cutT (Lv.a (Lv.b (Lv.a (Lv.b (A 103))))).c T) H n D)
noncomputable def K103_prlrll (cal : Cal) (k : Nat) (m1 : Nat) : KC (Value × Hp × Nat) := (cutK (Lv.a (Lv.a (Lv.b (Lv.a (Lv.b (A 103)))))).c (codeE P cal (codeF P cal m1) none 103 (cR (cL (cL (cR (cL (cR code103)))))) (Lv.b (Lv.a (Lv.a (Lv.b (Lv.a (Lv.b (A 103))))))) (K103_prlrl cal k m1) (K103_pxrlr cal k) (doneK P results103)))
noncomputable def K103_prlrllr (cal : Cal) (k : Nat) (m1 : Nat) : KC (Value × Hp × Nat) := (cutK (Lv.b (Lv.a (Lv.a (Lv.b (Lv.a (Lv.b (A 103))))))).c (codeE P cal (codeF P cal m1) none 103 (cR (cR (cL (cL (cR (cL (cR code103))))))) (Lv.b (Lv.b (Lv.a (Lv.a (Lv.b (Lv.a (Lv.b (A 103)))))))) (K103_prlrl cal k m1) (K103_pxrlr cal k) (doneK P results103)))
noncomputable def K103_prlrllrr (cal : Cal) (k : Nat) (m1 : Nat) : KC (Value × Hp × Nat) := (cutK (Lv.b (Lv.b (Lv.a (Lv.a (Lv.b (Lv.a (Lv.b (A 103)))))))).c (codeE P cal (codeF P cal m1) none 103 (cR (cR (cR (cL (cL (cR (cL (cR code103)))))))) (Lv.b (Lv.b (Lv.b (Lv.a (Lv.a (Lv.b (Lv.a (Lv.b (A 103))))))))) (K103_prlrl cal k m1) (K103_pxrlr cal k) (doneK P results103)))
noncomputable def K103_pxrlrllrrl (cal : Cal) (k : Nat) (m1 : Nat) : XC (Value × Hp × Nat) := (upX 1 (K103_prlrllrr cal k m1) (K103_pxrlr cal k))
noncomputable def K103_prlrllrrll (cal : Cal) (k : Nat) (m1 : Nat) : KC (Value × Hp × Nat) := (cutK (Lv.a (Lv.a (Lv.b (Lv.b (Lv.a (Lv.a (Lv.b (Lv.a (Lv.b (A 103)))))))))).c (codeE P cal (codeF P cal m1) none 103 (cR (cL (cL (cR (cR (cL (cL (cR (cL (cR code103)))))))))) (Lv.b (Lv.a (Lv.a (Lv.b (Lv.b (Lv.a (Lv.a (Lv.b (Lv.a (Lv.b (A 103))))))))))) (K103_prlrllrr cal k m1) (K103_pxrlrllrrl cal k m1) (doneK P results103)))
noncomputable def K103_prlrllrrllr (cal : Cal) (k : Nat) (m1 : Nat) : KC (Value × Hp × Nat) := (cutK (Lv.b (Lv.a (Lv.a (Lv.b (Lv.b (Lv.a (Lv.a (Lv.b (Lv.a (Lv.b (A 103))))))))))).c (codeE P cal (codeF P cal m1) none 103 (cR (cR (cL (cL (cR (cR (cL (cL (cR (cL (cR code103))))))))))) (Lv.b (Lv.b (Lv.a (Lv.a (Lv.b (Lv.b (Lv.a (Lv.a (Lv.b (Lv.a (Lv.b (A 103)))))))))))) (K103_prlrllrr cal k m1) (K103_pxrlrllrrl cal k m1) (doneK P results103)))
noncomputable def K103_prr (cal : Cal) (k : Nat) : KC (Value × Hp × Nat) := (cutK (Lv.b (Lv.b (A 103))).c (codeE P cal (codeF P cal k) none 103 (cR (cR (cR code103))) (Lv.b (Lv.b (Lv.b (A 103)))) (doneK P results103) X0 (doneK P results103)))
noncomputable def E103_1 (cal : Cal) (k m1 : Nat) : KC (Value × Hp × Nat) := codeE P cal (codeF P cal m1) none 103 (cL (cL (cR (cL (cR code103))))) (Lv.a (Lv.a (Lv.b (Lv.a (Lv.b (A 103)))))) (K103_prlrl cal k m1) (K103_pxrlr cal k) (doneK P results103)
noncomputable def R103_1 (cal : Cal) (k m1 : Nat) : Value → Value → Value → Value → Hp → Nat → Res := fun u2 u4 u7 u8 H n => codeF P cal m1 (Lv.a (Lv.b (Lv.a (Lv.b (A 103))))) none 103 (cL (cR (cL (cR code103)))) (K103_pr cal k) (K103_pxrlr cal k) (doneK P results103) (Tr.set (Tr.set (Tr.set (Tr.set Tr.nil 8 (some u8)) 7 (some u7)) 4 (some u4)) 2 (some u2)) H n []
noncomputable def B103_1 (cal : Cal) (k m1 : Nat) (b1 : Value → Value → Value → Value → Hp → Nat → Res) (u2 u4 u7 u8 : Value) (H : Hp) (n : Nat) : Res :=
binK P Go.BinOp.lss 3 (Go.Operand.tmp 8) (Go.Operand.const (Go.Value.int Go.IntKind.i64 8)) u8 (Go.Value.int Go.IntKind.i64 8) fun v9_13 =>
ifK v9_13 (
bindO (indexV P 111 u7 u8) fun v11_15 =>
allocK P 53 H n fun v6_16 H_17 n_18 =>
bindO (storeP P 53 v6_16 v11_15 H_17) fun H_21 =>
bindO (indexAddrV P 111 u2 u8) fun v13_23 =>
bindO (fieldAddrV P 53 v13_23 0) fun v14_24 =>
bindO (addrV v14_24) fun a_25 => bindO (loadV P H_21 3 a_25) fun v_26 =>
bindO (fieldAddrV P 53 v6_16 0) fun v16_27 =>
bindO (addrV v16_27) fun a_28 => bindO (loadV P H_21 3 a_28) fun v_29 =>
binK P Go.BinOp.add 3 (Go.Operand.tmp 15) (Go.Operand.tmp 17) v_26 v_29 fun v18_30 =>
bindO (indexAddrV P 111 u2 u8) fun v19_31 =>
bindO (fieldAddrV P 53 v19_31 0) fun v20_32 =>
bindO (storeP P 3 v20_32 v18_30 H_21) fun H_34 =>
bindO (indexAddrV P 111 u2 u8) fun v22_36 =>
bindO (fieldAddrV P 53 v22_36 1) fun v23_37 =>
bindO (addrV v23_37) fun a_38 => bindO (loadV P H_34 3 a_38) fun v_39 =>
bindO (fieldAddrV P 53 v6_16 1) fun v25_40 =>
bindO (addrV v25_40) fun a_41 => bindO (loadV P H_34 3 a_41) fun v_42 =>
binK P Go.BinOp.add 3 (Go.Operand.tmp 24) (Go.Operand.tmp 26) v_39 v_42 fun v27_43 =>
bindO (indexAddrV P 111 u2 u8) fun v28_44 =>
bindO (fieldAddrV P 53 v28_44 1) fun v29_45 =>
bindO (storeP P 3 v29_45 v27_43 H_34) fun H_47 =>
binK P Go.BinOp.add 3 (Go.Operand.tmp 8) (Go.Operand.const (Go.Value.int Go.IntKind.i64 1)) u8 (Go.Value.int Go.IntKind.i64 1) fun v30_48 =>
b1 u2 u4 u7 v30_48 H_47 n_18) (
bindO (addrV u2) fun a_51 => bindO (loadV P H 111 a_51) fun v31_50 =>
bindO (storeP P 111 u4 v31_50 H) fun H_53 =>
bindO (resV P (Tr.set Tr.nil 4 (some u4)) H_53 results103) fun vs_54 => some (oneV vs_54, H_53, n))
noncomputable def C103_1 (cal : Cal) (k m1 : Nat) (b1 : Value → Value → Value → Value → Hp → Nat → Res) (u2 u4 u7 u8 : Value) (H : Hp) (n : Nat) : Res := B103_1 cal k m1 b1 u2 u4 u7 u8 H n
noncomputable def S103_1 (cal : Cal) (k : Nat) : Nat → Value → Value → Value → Value → Hp → Nat → Res := fun m => Nat.rec (motive := fun _ => Value → Value → Value → Value → Hp → Nat → Res) (C103_1 cal k 0 (fun _ _ _ _ _ _ => none)) (fun m ih => C103_1 cal k (m + 1) ih) m
theorem h103_1 (cal : Cal) (k m1 : Nat) (u2 u4 u7 u8 : Value) (H : Hp) (n : Nat) : labK (E103_1 cal k m1) (Tr.set (Tr.set (Tr.set (Tr.set Tr.nil 8 (some u8)) 7 (some u7)) 4 (some u4)) 2 (some u2)) H n [] = C103_1 cal k m1 (R103_1 cal k m1) u2 u4 u7 u8 H n := by
  have h : labK (E103_1 cal k m1) (Tr.set (Tr.set (Tr.set (Tr.set Tr.nil 8 (some u8)) 7 (some u7)) 4 (some u4)) 2 (some u2)) H n [] = B103_1 cal k m1 (R103_1 cal k m1) u2 u4 u7 u8 H n := by kernel_rfl
  rw [h, C103_1]
theorem q103_1 (cal : Cal) (k : Nat) : ∀ (m : Nat) (u2 u4 u7 u8 : Value) (H : Hp) (n : Nat), labK (E103_1 cal k m) (Tr.set (Tr.set (Tr.set (Tr.set Tr.nil 8 (some u8)) 7 (some u7)) 4 (some u4)) 2 (some u2)) H n [] = S103_1 cal k m u2 u4 u7 u8 H n
  | 0, u2, u4, u7, u8, H, n => by
    rw [h103_1]
    have e : R103_1 cal k 0 = fun _ _ _ _ _ _ => none := by funext u2 u4 u7 u8 H n; kernel_rfl
    rw [e]; rfl
  | m + 1, u2, u4, u7, u8, H, n => by
    rw [h103_1]
    have e : R103_1 cal k (m + 1) = S103_1 cal k m := by
      funext u2 u4 u7 u8 H n
      have e : R103_1 cal k (m + 1) u2 u4 u7 u8 H n = labK (E103_1 cal k m) (Tr.set (Tr.set (Tr.set (Tr.set Tr.nil 8 (some u8)) 7 (some u7)) 4 (some u4)) 2 (some u2)) H n [] := by kernel_rfl
      rw [e]; exact q103_1 ..
    rw [e]; rfl
noncomputable def B103_0 (cal : Cal) (k : Nat) (j1 : Value → Value → Value → Value → Hp → Nat → Res) (v0 v1 : Value) (H : Hp) (n : Nat) : Res :=
boxK 111 v0 H n fun v2_1 H_2 n_3 =>
boxK 111 v1 H_2 n_3 fun v3_4 H_5 n_6 =>
allocK P 111 H_5 n_6 fun v4_7 H_8 n_9 =>
bindO (addrV v3_4) fun a_11 => bindO (loadV P H_8 111 a_11) fun v7_10 =>
j1 v2_1 v4_7 v7_10 (Go.Value.int Go.IntKind.i64 0) H_8 n_9
noncomputable def C103_0 (cal : Cal) (k : Nat) (v0 v1 : Value) (H : Hp) (n : Nat) : Res := B103_0 cal k (S103_1 cal k k) v0 v1 H n
theorem h103_0 (cal : Cal) (k : Nat) (v0 v1 : Value) (H : Hp) (n : Nat) : bodyE P cal A (k + 1) 103 [v0, v1] H n = C103_0 cal k v0 v1 H n := by
  have h : bodyE P cal A (k + 1) 103 [v0, v1] H n = B103_0 cal k (fun u2 u4 u7 u8 H n => labK (E103_1 cal k k) (Tr.set (Tr.set (Tr.set (Tr.set Tr.nil 8 (some u8)) 7 (some u7)) 4 (some u4)) 2 (some u2)) H n []) v0 v1 H n := by
    rw [body_eq (fn := Go.Proofs.Try.f103) (c := code103) (rs := results103) (by kernel_rfl) (by kernel_rfl) (by kernel_rfl) (by kernel_rfl)]
    kernel_rfl
  rw [h, C103_0]
  have e1 : (fun u2 u4 u7 u8 H n => labK (E103_1 cal k k) (Tr.set (Tr.set (Tr.set (Tr.set Tr.nil 8 (some u8)) 7 (some u7)) 4 (some u4)) 2 (some u2)) H n []) = (S103_1 cal k k) := by funext u2 u4 u7 u8 H n; exact q103_1 ..
  rw [e1]
noncomputable def code104 : Code := codeOf 104
noncomputable def results104 : List ResultVar := resOf 104
noncomputable def K104_p (cal : Cal) (k : Nat) : KC (Value × Hp × Nat) := (cutK (A 104).c (codeE P cal (codeF P cal k) none 104 (cR code104) (Lv.b (A 104)) (doneK P results104) X0 (doneK P results104)))
noncomputable def K104_pxr (cal : Cal) (k : Nat) : XC (Value × Hp × Nat) := (upX 0 (doneK P results104) X0)
noncomputable def K104_prl (cal : Cal) (k : Nat) (m1 : Nat) : KC (Value × Hp × Nat) := (fun T H n D => codeF P cal m1 (Lv.a (Lv.b (A 104))) none 104 (cL (cR code104)) (doneK P results104) (K104_pxr cal k) (doneK P results104) (cutT (Lv.a (Lv.b (A 104))).c T) H n D)
noncomputable def K104_prll (cal : Cal) (k : Nat) (m1 : Nat) : KC (Value × Hp × Nat) := (cutK (Lv.a (Lv.a (Lv.b (A 104)))).c (codeE P cal (codeF P cal m1) none 104 (cR (cL (cL (cR code104)))) (Lv.b (Lv.a (Lv.a (Lv.b (A 104))))) (K104_prl cal k m1) (K104_pxr cal k) (doneK P results104)))
noncomputable def K104_prllr (cal : Cal) (k : Nat) (m1 : Nat) : KC (Value × Hp × Nat) := (cutK (Lv.b (Lv.a (Lv.a (Lv.b (A 104))))).c (codeE P cal (codeF P cal m1) none 104 (cR (cR (cL (cL (cR code104))))) (Lv.b (Lv.b (Lv.a (Lv.a (Lv.b (A 104)))))) (K104_prl cal k m1) (K104_pxr cal k) (doneK P results104)))
noncomputable def K104_prllrr (cal : Cal) (k : Nat) (m1 : Nat) : KC (Value × Hp × Nat) := (cutK (Lv.b (Lv.b (Lv.a (Lv.a (Lv.b (A 104)))))).c (codeE P cal (codeF P cal m1) none 104 (cR (cR (cR (cL (cL (cR code104)))))) (Lv.b (Lv.b (Lv.b (Lv.a (Lv.a (Lv.b (A 104))))))) (K104_prl cal k m1) (K104_pxr cal k) (doneK P results104)))
noncomputable def K104_pxrllrrl (cal : Cal) (k : Nat) (m1 : Nat) : XC (Value × Hp × Nat) := (upX 1 (K104_prllrr cal k m1) (K104_pxr cal k))
noncomputable def K104_prllrrll (cal : Cal) (k : Nat) (m1 : Nat) : KC (Value × Hp × Nat) := (cutK (Lv.a (Lv.a (Lv.b (Lv.b (Lv.a (Lv.a (Lv.b (A 104)))))))).c (codeE P cal (codeF P cal m1) none 104 (cR (cL (cL (cR (cR (cL (cL (cR code104)))))))) (Lv.b (Lv.a (Lv.a (Lv.b (Lv.b (Lv.a (Lv.a (Lv.b (A 104))))))))) (K104_prllrr cal k m1) (K104_pxrllrrl cal k m1) (doneK P results104)))
noncomputable def K104_prllrrllr (cal : Cal) (k : Nat) (m1 : Nat) : KC (Value × Hp × Nat) := (cutK (Lv.b (Lv.a (Lv.a (Lv.b (Lv.b (Lv.a (Lv.a (Lv.b (A 104))))))))).c (codeE P cal (codeF P cal m1) none 104 (cR (cR (cL (cL (cR (cR (cL (cL (cR code104))))))))) (Lv.b (Lv.b (Lv.a (Lv.a (Lv.b (Lv.b (Lv.a (Lv.a (Lv.b (A 104)))))))))) (K104_prllrr cal k m1) (K104_pxrllrrl cal k m1) (doneK P results104)))
noncomputable def E104_1 (cal : Cal) (k m1 : Nat) : KC (Value × Hp × Nat) := codeE P cal (codeF P cal m1) none 104 (cL (cL (cR code104))) (Lv.a (Lv.a (Lv.b (A 104)))) (K104_prl cal k m1) (K104_pxr cal k) (doneK P results104)
noncomputable def R104_1 (cal : Cal) (k m1 : Nat) : Value → Value → Value → Value → Hp → Nat → Res := fun u0 u2 u6 u7 H n => codeF P cal m1 (Lv.a (Lv.b (A 104))) none 104 (cL (cR code104)) (doneK P results104) (K104_pxr cal k) (doneK P results104) (Tr.set (Tr.set (Tr.set (Tr.set Tr.nil 7 (some u7)) 6 (some u6)) 2 (some u2)) 0 (some u0)) H n []
noncomputable def B104_1 (cal : Cal) (k m1 : Nat) (b1 : Value → Value → Value → Value → Hp → Nat → Res) (u0 u2 u6 u7 : Value) (H : Hp) (n : Nat) : Res :=
binK P Go.BinOp.lss 3 (Go.Operand.tmp 7) (Go.Operand.const (Go.Value.int Go.IntKind.i64 8)) u7 (Go.Value.int Go.IntKind.i64 8) fun v8_4 =>
ifK v8_4 (
bindO (indexV P 121 u6 u7) fun v10_6 =>
binK P Go.BinOp.neq 3 (Go.Operand.tmp 11) (Go.Operand.const (Go.Value.int Go.IntKind.i64 (-1))) v10_6 (Go.Value.int Go.IntKind.i64 (-1)) fun v12_10 =>
guardK v12_10 true (fun k_12 =>
k_12 u0 H n) H n fun v_13 H_14 n_15 =>
guardK v12_10 true (fun k_17 =>
k_17 u7 H_14 n_15) H_14 n_15 fun v_18 H_19 n_20 =>
guardK v12_10 true (fun k_22 =>
bindO (addrV u2) fun a_27 => bindO (loadV P H_19 105 a_27) fun v16_26 =>
k_22 v16_26 H_19 n_20) H_19 n_20 fun v_23 H_24 n_25 =>
guardK v12_10 true (fun k_28 =>
k_28 u7 H_24 n_25) H_24 n_25 fun v_29 H_30 n_31 =>
guardK v12_10 true (fun k_33 =>
k_33 v10_6 H_30 n_31) H_30 n_31 fun v_34 H_35 n_36 =>
guardK v12_10 true (fun k_38 =>
bindO (nilV v_23) fun v19_42 =>
k_38 v19_42 H_35 n_36) H_35 n_36 fun v_39 H_40 n_41 =>
guardK v12_10 true (fun k_43 =>
bindO (fieldAddrV P 117 v_39 2) fun v20_47 =>
k_43 v20_47 H_40 n_41) H_40 n_41 fun v_44 H_45 n_46 =>
guardK v12_10 true (fun k_48 =>
bindO (indexAddrV P 115 v_44 v_29) fun v21_52 =>
k_48 v21_52 H_45 n_46) H_45 n_46 fun v_49 H_50 n_51 =>
guardK v12_10 true (fun k_53 =>
bindO (indexAddrV P 114 v_49 v_34) fun v22_57 =>
k_53 v22_57 H_50 n_51) H_50 n_51 fun v_54 H_55 n_56 =>
guardK v12_10 true (fun k_58 =>
bindO (addrV v_54) fun a_63 => bindO (loadV P H_55 113 a_63) fun v23_62 =>
k_58 v23_62 H_55 n_56) H_55 n_56 fun v_59 H_60 n_61 =>
guardK v12_10 true (fun k_64 =>
callVK P cal v_13 [v_18, v_59] H_60 n_61 fun v24_68 H_69 n_70 =>
k_64 v24_68 H_69 n_70) H_60 n_61 fun v_65 H_66 n_67 =>
guardK v12_10 true (fun k_71 =>
bindO (pureSem P v_65 (Op.unary Go.UnOp.not v_65)) fun v25_75 =>
k_71 v25_75 H_66 n_67) H_66 n_67 fun v_72 H_73 n_74 =>
bindO (pickV v12_10 v_72 (Go.Value.bool false)) fun v26_76 =>
ifK v26_76 (
some ((Value.tuple ⟨[]⟩), H_73, n_74)) (
binK P Go.BinOp.add 3 (Go.Operand.tmp 7) (Go.Operand.const (Go.Value.int Go.IntKind.i64 1)) u7 (Go.Value.int Go.IntKind.i64 1) fun v27_77 =>
b1 u0 u2 u6 v27_77 H_73 n_74)) (
some ((Value.tuple ⟨[]⟩), H, n))
noncomputable def C104_1 (cal : Cal) (k m1 : Nat) (b1 : Value → Value → Value → Value → Hp → Nat → Res) (u0 u2 u6 u7 : Value) (H : Hp) (n : Nat) : Res := B104_1 cal k m1 b1 u0 u2 u6 u7 H n
noncomputable def S104_1 (cal : Cal) (k : Nat) : Nat → Value → Value → Value → Value → Hp → Nat → Res := fun m => Nat.rec (motive := fun _ => Value → Value → Value → Value → Hp → Nat → Res) (C104_1 cal k 0 (fun _ _ _ _ _ _ => none)) (fun m ih => C104_1 cal k (m + 1) ih) m
theorem h104_1 (cal : Cal) (k m1 : Nat) (u0 u2 u6 u7 : Value) (H : Hp) (n : Nat) : labK (E104_1 cal k m1) (Tr.set (Tr.set (Tr.set (Tr.set Tr.nil 7 (some u7)) 6 (some u6)) 2 (some u2)) 0 (some u0)) H n [] = C104_1 cal k m1 (R104_1 cal k m1) u0 u2 u6 u7 H n := by
  have h : labK (E104_1 cal k m1) (Tr.set (Tr.set (Tr.set (Tr.set Tr.nil 7 (some u7)) 6 (some u6)) 2 (some u2)) 0 (some u0)) H n [] = B104_1 cal k m1 (R104_1 cal k m1) u0 u2 u6 u7 H n := by kernel_rfl
  rw [h, C104_1]
theorem q104_1 (cal : Cal) (k : Nat) : ∀ (m : Nat) (u0 u2 u6 u7 : Value) (H : Hp) (n : Nat), labK (E104_1 cal k m) (Tr.set (Tr.set (Tr.set (Tr.set Tr.nil 7 (some u7)) 6 (some u6)) 2 (some u2)) 0 (some u0)) H n [] = S104_1 cal k m u0 u2 u6 u7 H n
  | 0, u0, u2, u6, u7, H, n => by
    rw [h104_1]
    have e : R104_1 cal k 0 = fun _ _ _ _ _ _ => none := by funext u0 u2 u6 u7 H n; kernel_rfl
    rw [e]; rfl
  | m + 1, u0, u2, u6, u7, H, n => by
    rw [h104_1]
    have e : R104_1 cal k (m + 1) = S104_1 cal k m := by
      funext u0 u2 u6 u7 H n
      have e : R104_1 cal k (m + 1) u0 u2 u6 u7 H n = labK (E104_1 cal k m) (Tr.set (Tr.set (Tr.set (Tr.set Tr.nil 7 (some u7)) 6 (some u6)) 2 (some u2)) 0 (some u0)) H n [] := by kernel_rfl
      rw [e]; exact q104_1 ..
    rw [e]; rfl
noncomputable def B104_0 (cal : Cal) (k : Nat) (j1 : Value → Value → Value → Value → Hp → Nat → Res) (v0 v1 v2 : Value) (H : Hp) (n : Nat) : Res :=
bindO (addrV v1) fun a_2 => bindO (loadV P H 121 a_2) fun v6_1 =>
j1 v0 v2 v6_1 (Go.Value.int Go.IntKind.i64 0) H n
noncomputable def C104_0 (cal : Cal) (k : Nat) (v0 v1 v2 : Value) (H : Hp) (n : Nat) : Res := B104_0 cal k (S104_1 cal k k) v0 v1 v2 H n
theorem h104_0 (cal : Cal) (k : Nat) (v0 v1 v2 : Value) (H : Hp) (n : Nat) : bodyE P cal A (k + 1) 104 [v0, v1, v2] H n = C104_0 cal k v0 v1 v2 H n := by
  have h : bodyE P cal A (k + 1) 104 [v0, v1, v2] H n = B104_0 cal k (fun u0 u2 u6 u7 H n => labK (E104_1 cal k k) (Tr.set (Tr.set (Tr.set (Tr.set Tr.nil 7 (some u7)) 6 (some u6)) 2 (some u2)) 0 (some u0)) H n []) v0 v1 v2 H n := by
    rw [body_eq (fn := Go.Proofs.Try.f104) (c := code104) (rs := results104) (by kernel_rfl) (by kernel_rfl) (by kernel_rfl) (by kernel_rfl)]
    kernel_rfl
  rw [h, C104_0]
  have e1 : (fun u0 u2 u6 u7 H n => labK (E104_1 cal k k) (Tr.set (Tr.set (Tr.set (Tr.set Tr.nil 7 (some u7)) 6 (some u6)) 2 (some u2)) 0 (some u0)) H n []) = (S104_1 cal k k) := by funext u0 u2 u6 u7 H n; exact q104_1 ..
  rw [e1]
noncomputable def code105 : Code := codeOf 105
noncomputable def results105 : List ResultVar := resOf 105
noncomputable def K105_p (cal : Cal) (k : Nat) : KC (Value × Hp × Nat) := (cutK (A 105).c (codeE P cal (codeF P cal k) none 105 (cR code105) (Lv.b (A 105)) (doneK P results105) X0 (doneK P results105)))
noncomputable def K105_pr (cal : Cal) (k : Nat) : KC (Value × Hp × Nat) := (cutK (Lv.b (A 105)).c (codeE P cal (codeF P cal k) none 105 (cR (cR code105)) (Lv.b (Lv.b (A 105))) (doneK P results105) X0 (doneK P results105)))
noncomputable def K105_prl (cal : Cal) (k : Nat) : KC (Value × Hp × Nat) := (cutK (Lv.a (Lv.b (A 105))).c (codeE P cal (codeF P cal k) none 105 (cR (cL (cR code105))) (Lv.b (Lv.a (Lv.b (A 105)))) (K105_pr cal k) X0 (doneK P results105)))
noncomputable def K105_pxrlr (cal : Cal) (k : Nat) : XC (Value × Hp × Nat) := (upX 0 (K105_pr cal k) X0)
noncomputable def K105_prlrl (cal : Cal) (k : Nat) (m1 : Nat) : KC (Value × Hp × Nat) := (fun T H n D => codeF P cal m1 (Lv.a (Lv.b (Lv.a (Lv.b (A 105))))) none 105 (cL (cR (cL (cR code105)))) (K105_pr cal k) (K105_pxrlr cal k) (doneK P results105) (cutT (Lv.a (Lv.b (Lv.a (Lv.b (A 105))))).c T) H n D)
noncomputable def K105_prlrll (cal : Cal) (k : Nat) (m1 : Nat) : KC (Value × Hp × Nat) := (cutK (Lv.a (Lv.a (Lv.b (Lv.a (Lv.b (A 105)))))).c (codeE P cal (codeF P cal m1) none 105 (cR (cL (cL (cR (cL (cR code105)))))) (Lv.b (Lv.a (Lv.a (Lv.b (Lv.a (Lv.b (A 105))))))) (K105_prlrl cal k m1) (K105_pxrlr cal k) (doneK P results105)))
noncomputable def K105_prlrllr (cal : Cal) (k : Nat) (m1 : Nat) : KC (Value × Hp × Nat) := (cutK (Lv.b (Lv.a (Lv.a (Lv.b (Lv.a (Lv.b (A 105))))))).c (codeE P cal (codeF P cal m1) none 105 (cR (cR (cL (cL (cR (cL (cR code105))))))) (Lv.b (Lv.b (Lv.a (Lv.a (Lv.b (Lv.a (Lv.b (A 105)))))))) (K105_prlrl cal k m1) (K105_pxrlr cal k) (doneK P results105)))
noncomputable def K105_prlrllrr (cal : Cal) (k : Nat) (m1 : Nat) : KC (Value × Hp × Nat) := (cutK (Lv.b (Lv.b (Lv.a (Lv.a (Lv.b (Lv.a (Lv.b (A 105)))))))).c (codeE P cal (codeF P cal m1) none 105 (cR (cR (cR (cL (cL (cR (cL (cR code105)))))))) (Lv.b (Lv.b (Lv.b (Lv.a (Lv.a (Lv.b (Lv.a (Lv.b (A 105))))))))) (K105_prlrl cal k m1) (K105_pxrlr cal k) (doneK P results105)))
noncomputable def K105_pxrlrllrrl (cal : Cal) (k : Nat) (m1 : Nat) : XC (Value × Hp × Nat) := (upX 1 (K105_prlrllrr cal k m1) (K105_pxrlr cal k))
noncomputable def K105_prlrllrrll (cal : Cal) (k : Nat) (m1 : Nat) : KC (Value × Hp × Nat) := (cutK (Lv.a (Lv.a (Lv.b (Lv.b (Lv.a (Lv.a (Lv.b (Lv.a (Lv.b (A 105)))))))))).c (codeE P cal (codeF P cal m1) none 105 (cR (cL (cL (cR (cR (cL (cL (cR (cL (cR code105)))))))))) (Lv.b (Lv.a (Lv.a (Lv.b (Lv.b (Lv.a (Lv.a (Lv.b (Lv.a (Lv.b (A 105))))))))))) (K105_prlrllrr cal k m1) (K105_pxrlrllrrl cal k m1) (doneK P results105)))
noncomputable def K105_prr (cal : Cal) (k : Nat) : KC (Value × Hp × Nat) := (cutK (Lv.b (Lv.b (A 105))).c (codeE P cal (codeF P cal k) none 105 (cR (cR (cR code105))) (Lv.b (Lv.b (Lv.b (A 105)))) (doneK P results105) X0 (doneK P results105)))
noncomputable def E105_1 (cal : Cal) (k m1 : Nat) : KC (Value × Hp × Nat) := codeE P cal (codeF P cal m1) none 105 (cL (cL (cR (cL (cR code105))))) (Lv.a (Lv.a (Lv.b (Lv.a (Lv.b (A 105)))))) (K105_prlrl cal k m1) (K105_pxrlr cal k) (doneK P results105)
noncomputable def R105_1 (cal : Cal) (k m1 : Nat) : Value → Value → Value → Value → Hp → Nat → Res := fun u0 u7 u8 u9 H n => codeF P cal m1 (Lv.a (Lv.b (Lv.a (Lv.b (A 105))))) none 105 (cL (cR (cL (cR code105)))) (K105_pr cal k) (K105_pxrlr cal k) (doneK P results105) (Tr.set (Tr.set (Tr.set (Tr.set Tr.nil 9 (some u9)) 8 (some u8)) 7 (some u7)) 0 (some u0)) H n []
noncomputable def B105_1 (cal : Cal) (k m1 : Nat) (b1 : Value → Value → Value → Value → Hp → Nat → Res) (u0 u7 u8 u9 : Value) (H : Hp) (n : Nat) : Res :=
binK P Go.BinOp.lss 3 (Go.Operand.tmp 9) (Go.Operand.tmp 8) u9 u8 fun v10_5 =>
ifK v10_5 (
bindO (indexAddrV P 44 u7 u9) fun v11_6 =>
bindO (addrV v11_6) fun a_8 => bindO (loadV P H 3 a_8) fun v12_7 =>
builtinK P .min [3, 3] (Go.Call.mk (Go.Callee.builtin Go.Builtin.min) #[(Go.Operand.tmp 13), (Go.Operand.tmp 14)] #[3, 3]) 3 [u0, v12_7] H n fun v15_12 H_13 n_14 =>
binK P Go.BinOp.add 3 (Go.Operand.tmp 9) (Go.Operand.const (Go.Value.int Go.IntKind.i64 1)) u9 (Go.Value.int Go.IntKind.i64 1) fun v16_16 =>
b1 v15_12 u7 u8 v16_16 H_13 n_14) (
some (u0, H, n))
noncomputable def C105_1 (cal : Cal) (k m1 : Nat) (b1 : Value → Value → Value → Value → Hp → Nat → Res) (u0 u7 u8 u9 : Value) (H : Hp) (n : Nat) : Res := B105_1 cal k m1 b1 u0 u7 u8 u9 H n
noncomputable def S105_1 (cal : Cal) (k : Nat) : Nat → Value → Value → Value → Value → Hp → Nat → Res := fun m => Nat.rec (motive := fun _ => Value → Value → Value → Value → Hp → Nat → Res) (C105_1 cal k 0 (fun _ _ _ _ _ _ => none)) (fun m ih => C105_1 cal k (m + 1) ih) m
theorem h105_1 (cal : Cal) (k m1 : Nat) (u0 u7 u8 u9 : Value) (H : Hp) (n : Nat) : labK (E105_1 cal k m1) (Tr.set (Tr.set (Tr.set (Tr.set Tr.nil 9 (some u9)) 8 (some u8)) 7 (some u7)) 0 (some u0)) H n [] = C105_1 cal k m1 (R105_1 cal k m1) u0 u7 u8 u9 H n := by
  have h : labK (E105_1 cal k m1) (Tr.set (Tr.set (Tr.set (Tr.set Tr.nil 9 (some u9)) 8 (some u8)) 7 (some u7)) 0 (some u0)) H n [] = B105_1 cal k m1 (R105_1 cal k m1) u0 u7 u8 u9 H n := by kernel_rfl
  rw [h, C105_1]
theorem q105_1 (cal : Cal) (k : Nat) : ∀ (m : Nat) (u0 u7 u8 u9 : Value) (H : Hp) (n : Nat), labK (E105_1 cal k m) (Tr.set (Tr.set (Tr.set (Tr.set Tr.nil 9 (some u9)) 8 (some u8)) 7 (some u7)) 0 (some u0)) H n [] = S105_1 cal k m u0 u7 u8 u9 H n
  | 0, u0, u7, u8, u9, H, n => by
    rw [h105_1]
    have e : R105_1 cal k 0 = fun _ _ _ _ _ _ => none := by funext u0 u7 u8 u9 H n; kernel_rfl
    rw [e]; rfl
  | m + 1, u0, u7, u8, u9, H, n => by
    rw [h105_1]
    have e : R105_1 cal k (m + 1) = S105_1 cal k m := by
      funext u0 u7 u8 u9 H n
      have e : R105_1 cal k (m + 1) u0 u7 u8 u9 H n = labK (E105_1 cal k m) (Tr.set (Tr.set (Tr.set (Tr.set Tr.nil 9 (some u9)) 8 (some u8)) 7 (some u7)) 0 (some u0)) H n [] := by kernel_rfl
      rw [e]; exact q105_1 ..
    rw [e]; rfl
noncomputable def B105_0 (cal : Cal) (k : Nat) (j1 : Value → Value → Value → Value → Hp → Nat → Res) (v0 v1 : Value) (H : Hp) (n : Nat) : Res :=
bindO (lenV P 44 v1) fun v8_3 =>
j1 v0 v1 v8_3 (Go.Value.int Go.IntKind.i64 0) H n
noncomputable def C105_0 (cal : Cal) (k : Nat) (v0 v1 : Value) (H : Hp) (n : Nat) : Res := B105_0 cal k (S105_1 cal k k) v0 v1 H n
theorem h105_0 (cal : Cal) (k : Nat) (v0 v1 : Value) (H : Hp) (n : Nat) : bodyE P cal A (k + 1) 105 [v0, v1] H n = C105_0 cal k v0 v1 H n := by
  have h : bodyE P cal A (k + 1) 105 [v0, v1] H n = B105_0 cal k (fun u0 u7 u8 u9 H n => labK (E105_1 cal k k) (Tr.set (Tr.set (Tr.set (Tr.set Tr.nil 9 (some u9)) 8 (some u8)) 7 (some u7)) 0 (some u0)) H n []) v0 v1 H n := by
    rw [body_eq (fn := Go.Proofs.Try.f105) (c := code105) (rs := results105) (by kernel_rfl) (by kernel_rfl) (by kernel_rfl) (by kernel_rfl)]
    kernel_rfl
  rw [h, C105_0]
  have e1 : (fun u0 u7 u8 u9 H n => labK (E105_1 cal k k) (Tr.set (Tr.set (Tr.set (Tr.set Tr.nil 9 (some u9)) 8 (some u8)) 7 (some u7)) 0 (some u0)) H n []) = (S105_1 cal k k) := by funext u0 u7 u8 u9 H n; exact q105_1 ..
  rw [e1]
end Go.Proofs.Ytakjjillnllocaa.G
