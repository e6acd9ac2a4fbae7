/- The texts of functions, each with the proof that the evaluator says the same. -/
import Derived.Test.YthnfcjajgifedaaW1
open Go Go.Ev
set_option maxRecDepth 1000000
set_option linter.unusedVariables false
noncomputable section
namespace Go.Proofs.Ythnfcjajgifedaa.W
noncomputable def code94 : Code := codeOf 94
noncomputable def results94 : List ResultVar := resOf 94
noncomputable def K94_p (cal : Cal) (k : Nat) : KC (Value × Hp × Nat) := (cutK (A 94).c (codeE P cal (codeF P cal k) none 94 (cR code94) (Lv.b (A 94)) (doneK P results94) X0 (doneK P results94)))
noncomputable def K94_pr (cal : Cal) (k : Nat) : KC (Value × Hp × Nat) := (cutK (Lv.b (A 94)).c (codeE P cal (codeF P cal k) none 94 (cR (cR code94)) (Lv.b (Lv.b (A 94))) (doneK P results94) X0 (doneK P results94)))
noncomputable def K94_prr (cal : Cal) (k : Nat) : KC (Value × Hp × Nat) := (cutK (Lv.b (Lv.b (A 94))).c (codeE P cal (codeF P cal k) none 94 (cR (cR (cR code94))) (Lv.b (Lv.b (Lv.b (A 94)))) (doneK P results94) X0 (doneK P results94)))
noncomputable def K94_prrl (cal : Cal) (k : Nat) : KC (Value × Hp × Nat) := (cutK (Lv.a (Lv.b (Lv.b (A 94)))).c (codeE P cal (codeF P cal k) none 94 (cR (cL (cR (cR code94)))) (Lv.b (Lv.a (Lv.b (Lv.b (A 94))))) (K94_prr cal k) X0 (doneK P results94)))
noncomputable def K94_pxrrlr (cal : Cal) (k : Nat) : XC (Value × Hp × Nat) := (upX 0 (K94_prr cal k) X0)
noncomputable def K94_prrlrl (cal : Cal) (k : Nat) (m1 : Nat) : KC (Value × Hp × Nat) := (fun T H n D => codeF P cal m1 (Lv.a (Lv.b (Lv.a (Lv.b (Lv.b (A 94)))))) none 94 (cL (cR (cL (cR (cR code94))))) (K94_prr cal k) (K94_pxrrlr cal k) (doneK P results94) (cutT (Lv.a (Lv.b (Lv.a (Lv.b (Lv.b (A 94)))))).c T) H n D)
noncomputable def K94_prrlrll (cal : Cal) (k : Nat) (m1 : Nat) : KC (Value × Hp × Nat) := (cutK (Lv.a (Lv.a (Lv.b (Lv.a (Lv.b (Lv.b (A 94))))))).c (codeE P cal (codeF P cal m1) none 94 (cR (cL (cL (cR (cL (cR (cR code94))))))) (Lv.b (Lv.a (Lv.a (Lv.b (Lv.a (Lv.b (Lv.b (A 94)))))))) (K94_prrlrl cal k m1) (K94_pxrrlr cal k) (doneK P results94)))
noncomputable def K94_prrlrllr (cal : Cal) (k : Nat) (m1 : Nat) : KC (Value × Hp × Nat) := (cutK (Lv.b (Lv.a (Lv.a (Lv.b (Lv.a (Lv.b (Lv.b (A 94)))))))).c (codeE P cal (codeF P cal m1) none 94 (cR (cR (cL (cL (cR (cL (cR (cR code94)))))))) (Lv.b (Lv.b (Lv.a (Lv.a (Lv.b (Lv.a (Lv.b (Lv.b (A 94))))))))) (K94_prrlrl cal k m1) (K94_pxrrlr cal k) (doneK P results94)))
noncomputable def K94_prrlrllrr (cal : Cal) (k : Nat) (m1 : Nat) : KC (Value × Hp × Nat) := (cutK (Lv.b (Lv.b (Lv.a (Lv.a (Lv.b (Lv.a (Lv.b (Lv.b (A 94))))))))).c (codeE P cal (codeF P cal m1) none 94 (cR (cR (cR (cL (cL (cR (cL (cR (cR code94))))))))) (Lv.b (Lv.b (Lv.b (Lv.a (Lv.a (Lv.b (Lv.a (Lv.b (Lv.b (A 94)))))))))) (K94_prrlrl cal k m1) (K94_pxrrlr cal k) (doneK P results94)))
noncomputable def K94_pxrrlrllrrl (cal : Cal) (k : Nat) (m1 : Nat) : XC (Value × Hp × Nat) := (upX 1 (K94_prrlrllrr cal k m1) (K94_pxrrlr cal k))
noncomputable def K94_prrlrllrrll (cal : Cal) (k : Nat) (m1 : Nat) : KC (Value × Hp × Nat) := (cutK (Lv.a (Lv.a (Lv.b (Lv.b (Lv.a (Lv.a (Lv.b (Lv.a (Lv.b (Lv.b (A 94))))))))))).c (codeE P cal (codeF P cal m1) none 94 (cR (cL (cL (cR (cR (cL (cL (cR (cL (cR (cR code94))))))))))) (Lv.b (Lv.a (Lv.a (Lv.b (Lv.b (Lv.a (Lv.a (Lv.b (Lv.a (Lv.b (Lv.b (A 94)))))))))))) (K94_prrlrllrr cal k m1) (K94_pxrrlrllrrl cal k m1) (doneK P results94)))
noncomputable def K94_prrlrllrrllr (cal : Cal) (k : Nat) (m1 : Nat) : KC (Value × Hp × Nat) := (cutK (Lv.b (Lv.a (Lv.a (Lv.b (Lv.b (Lv.a (Lv.a (Lv.b (Lv.a (Lv.b (Lv.b (A 94)))))))))))).c (codeE P cal (codeF P cal m1) none 94 (cR (cR (cL (cL (cR (cR (cL (cL (cR (cL (cR (cR code94)))))))))))) (Lv.b (Lv.b (Lv.a (Lv.a (Lv.b (Lv.b (Lv.a (Lv.a (Lv.b (Lv.a (Lv.b (Lv.b (A 94))))))))))))) (K94_prrlrllrr cal k m1) (K94_pxrrlrllrrl cal k m1) (doneK P results94)))
noncomputable def K94_prrr (cal : Cal) (k : Nat) : KC (Value × Hp × Nat) := (cutK (Lv.b (Lv.b (Lv.b (A 94)))).c (codeE P cal (codeF P cal k) none 94 (cR (cR (cR (cR code94)))) (Lv.b (Lv.b (Lv.b (Lv.b (A 94))))) (doneK P results94) X0 (doneK P results94)))
noncomputable def E94_2 (cal : Cal) (k m1 : Nat) : KC (Value × Hp × Nat) := codeE P cal (codeF P cal m1) none 94 (cR (cR (cR (cL (cL (cR (cL (cR (cR code94))))))))) (Lv.b (Lv.b (Lv.b (Lv.a (Lv.a (Lv.b (Lv.a (Lv.b (Lv.b (A 94)))))))))) (K94_prrlrl cal k m1) (K94_pxrrlr cal k) (doneK P results94)
noncomputable def E94_1 (cal : Cal) (k m1 : Nat) : KC (Value × Hp × Nat) := codeE P cal (codeF P cal m1) none 94 (cL (cL (cR (cL (cR (cR code94)))))) (Lv.a (Lv.a (Lv.b (Lv.a (Lv.b (Lv.b (A 94))))))) (K94_prrlrl cal k m1) (K94_pxrrlr cal k) (doneK P results94)
noncomputable def R94_1 (cal : Cal) (k m1 : Nat) : Value → Value → Value → Value → Value → Value → Hp → Nat → Res := fun u2 u3 u5 u9 u10 u11 H n => codeF P cal m1 (Lv.a (Lv.b (Lv.a (Lv.b (Lv.b (A 94)))))) none 94 (cL (cR (cL (cR (cR code94))))) (K94_prr cal k) (K94_pxrrlr cal k) (doneK P results94) (Tr.set (Tr.set (Tr.set (Tr.set (Tr.set (Tr.set Tr.nil 11 (some u11)) 10 (some u10)) 9 (some u9)) 5 (some u5)) 3 (some u3)) 2 (some u2)) H n []
noncomputable def B94_2 (cal : Cal) (k m1 : Nat) (b1 : Value → Value → Value → Value → Value → Value → Hp → Nat → Res) (u2 u3 u5 u9 u10 u11 : Value) (H : Hp) (n : Nat) : Res :=
binK P Go.BinOp.add 3 (Go.Operand.tmp 11) (Go.Operand.const (Go.Value.int Go.IntKind.i64 1)) u11 (Go.Value.int Go.IntKind.i64 1) fun v29_15 =>
b1 u2 u3 u5 u9 u10 v29_15 H n
noncomputable def C94_2 (cal : Cal) (k m1 : Nat) (b1 : Value → Value → Value → Value → Value → Value → Hp → Nat → Res) (u2 u3 u5 u9 u10 u11 : Value) (H : Hp) (n : Nat) : Res := B94_2 cal k m1 b1 u2 u3 u5 u9 u10 u11 H n
theorem h94_2 (cal : Cal) (k m1 : Nat) (u2 u3 u5 u9 u10 u11 : Value) (H : Hp) (n : Nat) : labK (E94_2 cal k m1) (Tr.set (Tr.set (Tr.set (Tr.set (Tr.set (Tr.set Tr.nil 11 (some u11)) 10 (some u10)) 9 (some u9)) 5 (some u5)) 3 (some u3)) 2 (some u2)) H n [] = C94_2 cal k m1 (R94_1 cal k m1) u2 u3 u5 u9 u10 u11 H n := by
  have h : labK (E94_2 cal k m1) (Tr.set (Tr.set (Tr.set (Tr.set (Tr.set (Tr.set Tr.nil 11 (some u11)) 10 (some u10)) 9 (some u9)) 5 (some u5)) 3 (some u3)) 2 (some u2)) H n [] = B94_2 cal k m1 (R94_1 cal k m1) u2 u3 u5 u9 u10 u11 H n := by kernel_rfl
  rw [h, C94_2]
theorem q94_2 (cal : Cal) (k m1 : Nat) (u2 u3 u5 u9 u10 u11 : Value) (H : Hp) (n : Nat) : labK (E94_2 cal k m1) (Tr.set (Tr.set (Tr.set (Tr.set (Tr.set (Tr.set Tr.nil 11 (some u11)) 10 (some u10)) 9 (some u9)) 5 (some u5)) 3 (some u3)) 2 (some u2)) H n [] = C94_2 cal k m1 (R94_1 cal k m1) u2 u3 u5 u9 u10 u11 H n := h94_2 ..
noncomputable def B94_1 (cal : Cal) (k m1 : Nat) (j2 : Value → Value → Value → Value → Value → Value → Hp → Nat → Res) (b1 : Value → Value → Value → Value → Value → Value → Hp → Nat → Res) (u2 u3 u5 u9 u10 u11 : Value) (H : Hp) (n : Nat) : Res :=
binK P Go.BinOp.lss 3 (Go.Operand.tmp 11) (Go.Operand.tmp 10) u11 u10 fun v12_14 =>
ifK v12_14 (
bindO (indexAddrV P 32 u9 u11) fun v13_17 =>
bindO (addrV v13_17) fun a_19 => bindO (loadV P H 88 a_19) fun v14_18 =>
allocK P 88 H n fun v7_20 H_21 n_22 =>
bindO (storeP P 88 v7_20 v14_18 H_21) fun H_24 =>
bindO (addrV v7_20) fun a_26 => bindO (loadV P H_24 88 a_26) fun v15_25 =>
bindO (addrV u3) fun a_28 => bindO (loadV P H_24 88 a_28) fun v16_27 =>
binK P Go.BinOp.eql 88 (Go.Operand.tmp 15) (Go.Operand.tmp 16) v15_25 v16_27 fun v17_29 =>
guardK v17_29 false (fun k_31 =>
bindO (addrV v7_20) fun a_36 => bindO (loadV P H_24 88 a_36) fun v19_35 =>
k_31 v19_35 H_24 n_22) H_24 n_22 fun v_32 H_33 n_34 =>
guardK v17_29 false (fun k_37 =>
bindO (fieldAddrV P 88 u3 1) fun v20_41 =>
k_37 v20_41 H_33 n_34) H_33 n_34 fun v_38 H_39 n_40 =>
guardK v17_29 false (fun k_42 =>
bindO (addrV v_38) fun a_47 => bindO (loadV P H_39 3 a_47) fun v21_46 =>
k_42 v21_46 H_39 n_40) H_39 n_40 fun v_43 H_44 n_45 =>
guardK v17_29 false (fun k_48 =>
bindO (fieldAddrV P 88 u3 0) fun v22_52 =>
k_48 v22_52 H_44 n_45) H_44 n_45 fun v_49 H_50 n_51 =>
guardK v17_29 false (fun k_53 =>
bindO (addrV v_49) fun a_58 => bindO (loadV P H_50 3 a_58) fun v23_57 =>
k_53 v23_57 H_50 n_51) H_50 n_51 fun v_54 H_55 n_56 =>
guardK v17_29 false (fun k_59 =>
bindO (buildP P 88 [(0, v_43), (1, v_54)]) fun v24_63 =>
k_59 v24_63 H_55 n_56) H_55 n_56 fun v_60 H_61 n_62 =>
guardK v17_29 false (fun k_64 =>
binK P Go.BinOp.eql 88 (Go.Operand.tmp 19) (Go.Operand.tmp 24) v_32 v_60 fun v25_68 =>
k_64 v25_68 H_61 n_62) H_61 n_62 fun v_65 H_66 n_67 =>
bindO (pickV v17_29 (Go.Value.bool true) v_65) fun v26_69 =>
ifK v26_69 (
binK P Go.BinOp.add 3 (Go.Operand.tmp 27) (Go.Operand.const (Go.Value.int Go.IntKind.i64 1)) u5 (Go.Value.int Go.IntKind.i64 1) fun v28_71 =>
j2 u2 u3 v28_71 u9 u10 u11 H_66 n_67) (
j2 u2 u3 u5 u9 u10 u11 H_66 n_67)) (
bindO (addrV u2) fun a_74 => bindO (loadV P H 35 a_74) fun v30_73 =>
bindO (fieldAddrV P 88 u3 0) fun v31_75 =>
bindO (addrV v31_75) fun a_77 => bindO (loadV P H 3 a_77) fun v32_76 =>
callFK P cal 71 [v30_73, v32_76] H n fun v33_78 H_79 n_80 =>
guardK v33_78 true (fun k_82 =>
bindO (addrV u2) fun a_87 => bindO (loadV P H_79 35 a_87) fun v35_86 =>
k_82 v35_86 H_79 n_80) H_79 n_80 fun v_83 H_84 n_85 =>
guardK v33_78 true (fun k_88 =>
bindO (fieldAddrV P 88 u3 1) fun v36_92 =>
k_88 v36_92 H_84 n_85) H_84 n_85 fun v_89 H_90 n_91 =>
guardK v33_78 true (fun k_93 =>
bindO (addrV v_89) fun a_98 => bindO (loadV P H_90 3 a_98) fun v37_97 =>
k_93 v37_97 H_90 n_91) H_90 n_91 fun v_94 H_95 n_96 =>
guardK v33_78 true (fun k_99 =>
callFK P cal 71 [v_83, v_94] H_95 n_96 fun v38_103 H_104 n_105 =>
k_99 v38_103 H_104 n_105) H_95 n_96 fun v_100 H_101 n_102 =>
bindO (pickV v33_78 v_100 (Go.Value.bool false)) fun v39_106 =>
guardK v39_106 true (fun k_108 =>
bindO (fieldAddrV P 88 u3 0) fun v41_112 =>
k_108 v41_112 H_101 n_102) H_101 n_102 fun v_109 H_110 n_111 =>
guardK v39_106 true (fun k_113 =>
bindO (addrV v_109) fun a_118 => bindO (loadV P H_110 3 a_118) fun v42_117 =>
k_113 v42_117 H_110 n_111) H_110 n_111 fun v_114 H_115 n_116 =>
guardK v39_106 true (fun k_119 =>
bindO (fieldAddrV P 88 u3 1) fun v43_123 =>
k_119 v43_123 H_115 n_116) H_115 n_116 fun v_120 H_121 n_122 =>
guardK v39_106 true (fun k_124 =>
bindO (addrV v_120) fun a_129 => bindO (loadV P H_121 3 a_129) fun v44_128 =>
k_124 v44_128 H_121 n_122) H_121 n_122 fun v_125 H_126 n_127 =>
guardK v39_106 true (fun k_130 =>
binK P Go.BinOp.neq 3 (Go.Operand.tmp 42) (Go.Operand.tmp 44) v_114 v_125 fun v45_134 =>
k_130 v45_134 H_126 n_127) H_126 n_127 fun v_131 H_132 n_133 =>
bindO (pickV v39_106 v_131 (Go.Value.bool false)) fun v46_135 =>
guardK v46_135 true (fun k_137 =>
k_137 u5 H_132 n_133) H_132 n_133 fun v_138 H_139 n_140 =>
guardK v46_135 true (fun k_142 =>
binK P Go.BinOp.eql 3 (Go.Operand.tmp 48) (Go.Operand.const (Go.Value.int Go.IntKind.i64 1)) v_138 (Go.Value.int Go.IntKind.i64 1) fun v49_146 =>
k_142 v49_146 H_139 n_140) H_139 n_140 fun v_143 H_144 n_145 =>
bindO (pickV v46_135 v_143 (Go.Value.bool false)) fun v50_147 =>
some (v50_147, H_144, n_145))
noncomputable def C94_1 (cal : Cal) (k m1 : Nat) (b1 : Value → Value → Value → Value → Value → Value → Hp → Nat → Res) (u2 u3 u5 u9 u10 u11 : Value) (H : Hp) (n : Nat) : Res := B94_1 cal k m1 (C94_2 cal k m1 b1) b1 u2 u3 u5 u9 u10 u11 H n
noncomputable def S94_1 (cal : Cal) (k : Nat) : Nat → Value → Value → Value → Value → Value → Value → Hp → Nat → Res := fun m => Nat.rec (motive := fun _ => Value → Value → Value → Value → Value → Value → Hp → Nat → Res) (C94_1 cal k 0 (fun _ _ _ _ _ _ _ _ => none)) (fun m ih => C94_1 cal k (m + 1) ih) m
theorem h94_1 (cal : Cal) (k m1 : Nat) (u2 u3 u5 u9 u10 u11 : Value) (H : Hp) (n : Nat) : labK (E94_1 cal k m1) (Tr.set (Tr.set (Tr.set (Tr.set (Tr.set (Tr.set Tr.nil 11 (some u11)) 10 (some u10)) 9 (some u9)) 5 (some u5)) 3 (some u3)) 2 (some u2)) H n [] = C94_1 cal k m1 (R94_1 cal k m1) u2 u3 u5 u9 u10 u11 H n := by
  have h : labK (E94_1 cal k m1) (Tr.set (Tr.set (Tr.set (Tr.set (Tr.set (Tr.set Tr.nil 11 (some u11)) 10 (some u10)) 9 (some u9)) 5 (some u5)) 3 (some u3)) 2 (some u2)) H n [] = B94_1 cal k m1 (fun u2 u3 u5 u9 u10 u11 H n => labK (E94_2 cal k m1) (Tr.set (Tr.set (Tr.set (Tr.set (Tr.set (Tr.set Tr.nil 11 (some u11)) 10 (some u10)) 9 (some u9)) 5 (some u5)) 3 (some u3)) 2 (some u2)) H n []) (R94_1 cal k m1) u2 u3 u5 u9 u10 u11 H n := by kernel_rfl
  rw [h, C94_1]
  have e2 : (fun u2 u3 u5 u9 u10 u11 H n => labK (E94_2 cal k m1) (Tr.set (Tr.set (Tr.set (Tr.set (Tr.set (Tr.set Tr.nil 11 (some u11)) 10 (some u10)) 9 (some u9)) 5 (some u5)) 3 (some u3)) 2 (some u2)) H n []) = (C94_2 cal k m1 (R94_1 cal k m1)) := by funext u2 u3 u5 u9 u10 u11 H n; exact q94_2 ..
  rw [e2]
theorem q94_1 (cal : Cal) (k : Nat) : ∀ (m : Nat) (u2 u3 u5 u9 u10 u11 : Value) (H : Hp) (n : Nat), labK (E94_1 cal k m) (Tr.set (Tr.set (Tr.set (Tr.set (Tr.set (Tr.set Tr.nil 11 (some u11)) 10 (some u10)) 9 (some u9)) 5 (some u5)) 3 (some u3)) 2 (some u2)) H n [] = S94_1 cal k m u2 u3 u5 u9 u10 u11 H n
  | 0, u2, u3, u5, u9, u10, u11, H, n => by
    rw [h94_1]
    have e : R94_1 cal k 0 = fun _ _ _ _ _ _ _ _ => none := by funext u2 u3 u5 u9 u10 u11 H n; kernel_rfl
    rw [e]; rfl
  | m + 1, u2, u3, u5, u9, u10, u11, H, n => by
    rw [h94_1]
    have e : R94_1 cal k (m + 1) = S94_1 cal k m := by
      funext u2 u3 u5 u9 u10 u11 H n
      have e : R94_1 cal k (m + 1) u2 u3 u5 u9 u10 u11 H n = labK (E94_1 cal k m) (Tr.set (Tr.set (Tr.set (Tr.set (Tr.set (Tr.set Tr.nil 11 (some u11)) 10 (some u10)) 9 (some u9)) 5 (some u5)) 3 (some u3)) 2 (some u2)) H n [] := by kernel_rfl
      rw [e]; exact q94_1 ..
    rw [e]; rfl
noncomputable def B94_0 (cal : Cal) (k : Nat) (j1 : Value → Value → Value → Value → Value → Value → Hp → Nat → Res) (v0 v1 : Value) (H : Hp) (n : Nat) : Res :=
boxK 35 v0 H n fun v2_1 H_2 n_3 =>
boxK 88 v1 H_2 n_3 fun v3_4 H_5 n_6 =>
bindO (fieldAddrV P 35 v2_1 1) fun v8_9 =>
bindO (addrV v8_9) fun a_11 => bindO (loadV P H_5 32 a_11) fun v9_10 =>
bindO (lenV P 32 v9_10) fun v10_12 =>
j1 v2_1 v3_4 (Go.Value.int Go.IntKind.i64 0) v9_10 v10_12 (Go.Value.int Go.IntKind.i64 0) H_5 n_6
noncomputable def C94_0 (cal : Cal) (k : Nat) (v0 v1 : Value) (H : Hp) (n : Nat) : Res := B94_0 cal k (S94_1 cal k k) v0 v1 H n
theorem h94_0 (cal : Cal) (k : Nat) (v0 v1 : Value) (H : Hp) (n : Nat) : bodyE P cal A (k + 1) 94 [v0, v1] H n = C94_0 cal k v0 v1 H n := by
  have h : bodyE P cal A (k + 1) 94 [v0, v1] H n = B94_0 cal k (fun u2 u3 u5 u9 u10 u11 H n => labK (E94_1 cal k k) (Tr.set (Tr.set (Tr.set (Tr.set (Tr.set (Tr.set Tr.nil 11 (some u11)) 10 (some u10)) 9 (some u9)) 5 (some u5)) 3 (some u3)) 2 (some u2)) H n []) v0 v1 H n := by
    rw [body_eq (fn := Go.Proofs.Try.f94) (c := code94) (rs := results94) (by kernel_rfl) (by kernel_rfl) (by kernel_rfl) (by kernel_rfl)]
    kernel_rfl
  rw [h, C94_0]
  have e1 : (fun u2 u3 u5 u9 u10 u11 H n => labK (E94_1 cal k k) (Tr.set (Tr.set (Tr.set (Tr.set (Tr.set (Tr.set Tr.nil 11 (some u11)) 10 (some u10)) 9 (some u9)) 5 (some u5)) 3 (some u3)) 2 (some u2)) H n []) = (S94_1 cal k k) := by funext u2 u3 u5 u9 u10 u11 H n; exact q94_1 ..
  rw [e1]
noncomputable def code95 : Code := codeOf 95
noncomputable def results95 : List ResultVar := resOf 95
noncomputable def K95_p (cal : Cal) (k : Nat) : KC (Value × Hp × Nat) := (cutK (A 95).c (codeE P cal (codeF P cal k) none 95 (cR code95) (Lv.b (A 95)) (doneK P results95) X0 (doneK P results95)))
noncomputable def K95_pr (cal : Cal) (k : Nat) : KC (Value × Hp × Nat) := (cutK (Lv.b (A 95)).c (codeE P cal (codeF P cal k) none 95 (cR (cR code95)) (Lv.b (Lv.b (A 95))) (doneK P results95) X0 (doneK P results95)))
noncomputable def K95_prl (cal : Cal) (k : Nat) : KC (Value × Hp × Nat) := (cutK (Lv.a (Lv.b (A 95))).c (codeE P cal (codeF P cal k) none 95 (cR (cL (cR code95))) (Lv.b (Lv.a (Lv.b (A 95)))) (K95_pr cal k) X0 (doneK P results95)))
noncomputable def K95_pxrlr (cal : Cal) (k : Nat) : XC (Value × Hp × Nat) := (upX 0 (K95_pr cal k) X0)
noncomputable def K95_prlrl (cal : Cal) (k : Nat) (m1 : Nat) : KC (Value × Hp × Nat) := (fun T H n D => codeF P cal m1 (Lv.a (Lv.b (Lv.a (Lv.b (A 95))))) none 95 (cL (cR (cL (cR code95)))) (K95_pr cal k) (K95_pxrlr cal k) (doneK P results95) (cutT (Lv.a (Lv.b (Lv.a (Lv.b (A 95))))).c T) H n D)
noncomputable def K95_prlrll (cal : Cal) (k : Nat) (m1 : Nat) : KC (Value × Hp × Nat) := (cutK (Lv.a (Lv.a (Lv.b (Lv.a (Lv.b (A 95)))))).c (codeE P cal (codeF P cal m1) none 95 (cR (cL (cL (cR (cL (cR code95)))))) (Lv.b (Lv.a (Lv.a (Lv.b (Lv.a (Lv.b (A 95))))))) (K95_prlrl cal k m1) (K95_pxrlr cal k) (doneK P results95)))
noncomputable def K95_prlrllr (cal : Cal) (k : Nat) (m1 : Nat) : KC (Value × Hp × Nat) := (cutK (Lv.b (Lv.a (Lv.a (Lv.b (Lv.a (Lv.b (A 95))))))).c (codeE P cal (codeF P cal m1) none 95 (cR (cR (cL (cL (cR (cL (cR code95))))))) (Lv.b (Lv.b (Lv.a (Lv.a (Lv.b (Lv.a (Lv.b (A 95)))))))) (K95_prlrl cal k m1) (K95_pxrlr cal k) (doneK P results95)))
noncomputable def K95_prlrllrr (cal : Cal) (k : Nat) (m1 : Nat) : KC (Value × Hp × Nat) := (cutK (Lv.b (Lv.b (Lv.a (Lv.a (Lv.b (Lv.a (Lv.b (A 95)))))))).c (codeE P cal (codeF P cal m1) none 95 (cR (cR (cR (cL (cL (cR (cL (cR code95)))))))) (Lv.b (Lv.b (Lv.b (Lv.a (Lv.a (Lv.b (Lv.a (Lv.b (A 95))))))))) (K95_prlrl cal k m1) (K95_pxrlr cal k) (doneK P results95)))
noncomputable def K95_pxrlrllrrl (cal : Cal) (k : Nat) (m1 : Nat) : XC (Value × Hp × Nat) := (upX 1 (K95_prlrllrr cal k m1) (K95_pxrlr cal k))
noncomputable def K95_prlrllrrll (cal : Cal) (k : Nat) (m1 : Nat) : KC (Value × Hp × Nat) := (cutK (Lv.a (Lv.a (Lv.b (Lv.b (Lv.a (Lv.a (Lv.b (Lv.a (Lv.b (A 95)))))))))).c (codeE P cal (codeF P cal m1) none 95 (cR (cL (cL (cR (cR (cL (cL (cR (cL (cR code95)))))))))) (Lv.b (Lv.a (Lv.a (Lv.b (Lv.b (Lv.a (Lv.a (Lv.b (Lv.a (Lv.b (A 95))))))))))) (K95_prlrllrr cal k m1) (K95_pxrlrllrrl cal k m1) (doneK P results95)))
noncomputable def K95_prlrllrrllr (cal : Cal) (k : Nat) (m1 : Nat) : KC (Value × Hp × Nat) := (cutK (Lv.b (Lv.a (Lv.a (Lv.b (Lv.b (Lv.a (Lv.a (Lv.b (Lv.a (Lv.b (A 95))))))))))).c (codeE P cal (codeF P cal m1) none 95 (cR (cR (cL (cL (cR (cR (cL (cL (cR (cL (cR code95))))))))))) (Lv.b (Lv.b (Lv.a (Lv.a (Lv.b (Lv.b (Lv.a (Lv.a (Lv.b (Lv.a (Lv.b (A 95)))))))))))) (K95_prlrllrr cal k m1) (K95_pxrlrllrrl cal k m1) (doneK P results95)))
noncomputable def K95_prlrllrrllrrl (cal : Cal) (k : Nat) (m1 : Nat) : KC (Value × Hp × Nat) := (cutK (Lv.a (Lv.b (Lv.b (Lv.a (Lv.a (Lv.b (Lv.b (Lv.a (Lv.a (Lv.b (Lv.a (Lv.b (A 95))))))))))))).c (codeE P cal (codeF P cal m1) none 95 (cR (cL (cR (cR (cL (cL (cR (cR (cL (cL (cR (cL (cR code95))))))))))))) (Lv.b (Lv.a (Lv.b (Lv.b (Lv.a (Lv.a (Lv.b (Lv.b (Lv.a (Lv.a (Lv.b (Lv.a (Lv.b (A 95)))))))))))))) (K95_prlrllrr cal k m1) (K95_pxrlrllrrl cal k m1) (doneK P results95)))
noncomputable def K95_prr (cal : Cal) (k : Nat) : KC (Value × Hp × Nat) := (cutK (Lv.b (Lv.b (A 95))).c (codeE P cal (codeF P cal k) none 95 (cR (cR (cR code95))) (Lv.b (Lv.b (Lv.b (A 95)))) (doneK P results95) X0 (doneK P results95)))
noncomputable def E95_1 (cal : Cal) (k m1 : Nat) : KC (Value × Hp × Nat) := codeE P cal (codeF P cal m1) none 95 (cL (cL (cR (cL (cR code95))))) (Lv.a (Lv.a (Lv.b (Lv.a (Lv.b (A 95)))))) (K95_prlrl cal k m1) (K95_pxrlr cal k) (doneK P results95)
noncomputable def R95_1 (cal : Cal) (k m1 : Nat) : Value → Value → Value → Value → Hp → Nat → Res := fun u1 u7 u8 u9 H n => codeF P cal m1 (Lv.a (Lv.b (Lv.a (Lv.b (A 95))))) none 95 (cL (cR (cL (cR code95)))) (K95_pr cal k) (K95_pxrlr cal k) (doneK P results95) (Tr.set (Tr.set (Tr.set (Tr.set Tr.nil 9 (some u9)) 8 (some u8)) 7 (some u7)) 1 (some u1)) H n []
noncomputable def B95_1 (cal : Cal) (k m1 : Nat) (b1 : Value → Value → Value → Value → Hp → Nat → Res) (u1 u7 u8 u9 : Value) (H : Hp) (n : Nat) : Res :=
binK P Go.BinOp.lss 3 (Go.Operand.tmp 9) (Go.Operand.tmp 8) u9 u8 fun v10_5 =>
ifK v10_5 (
bindO (indexAddrV P 33 u7 u9) fun v11_6 =>
bindO (addrV v11_6) fun a_8 => bindO (loadV P H 86 a_8) fun v12_7 =>
allocK P 86 H n fun v6_9 H_10 n_11 =>
bindO (storeP P 86 v6_9 v12_7 H_10) fun H_13 =>
bindO (addrV v6_9) fun a_16 => bindO (loadV P H_13 86 a_16) fun v14_15 =>
callVK P cal u1 [v14_15] H_13 n_11 fun v15_17 H_18 n_19 =>
bindO (pureSem P v15_17 (Op.unary Go.UnOp.not v15_17)) fun v16_20 =>
ifK v16_20 (
some ((Go.Value.bool false), H_18, n_19)) (
binK P Go.BinOp.add 3 (Go.Operand.tmp 9) (Go.Operand.const (Go.Value.int Go.IntKind.i64 1)) u9 (Go.Value.int Go.IntKind.i64 1) fun v17_22 =>
b1 u1 u7 u8 v17_22 H_18 n_19)) (
some ((Go.Value.bool true), H, n))
noncomputable def C95_1 (cal : Cal) (k m1 : Nat) (b1 : Value → Value → Value → Value → Hp → Nat → Res) (u1 u7 u8 u9 : Value) (H : Hp) (n : Nat) : Res := B95_1 cal k m1 b1 u1 u7 u8 u9 H n
noncomputable def S95_1 (cal : Cal) (k : Nat) : Nat → Value → Value → Value → Value → Hp → Nat → Res := fun m => Nat.rec (motive := fun _ => Value → Value → Value → Value → Hp → Nat → Res) (C95_1 cal k 0 (fun _ _ _ _ _ _ => none)) (fun m ih => C95_1 cal k (m + 1) ih) m
theorem h95_1 (cal : Cal) (k m1 : Nat) (u1 u7 u8 u9 : Value) (H : Hp) (n : Nat) : labK (E95_1 cal k m1) (Tr.set (Tr.set (Tr.set (Tr.set Tr.nil 9 (some u9)) 8 (some u8)) 7 (some u7)) 1 (some u1)) H n [] = C95_1 cal k m1 (R95_1 cal k m1) u1 u7 u8 u9 H n := by
  have h : labK (E95_1 cal k m1) (Tr.set (Tr.set (Tr.set (Tr.set Tr.nil 9 (some u9)) 8 (some u8)) 7 (some u7)) 1 (some u1)) H n [] = B95_1 cal k m1 (R95_1 cal k m1) u1 u7 u8 u9 H n := by kernel_rfl
  rw [h, C95_1]
theorem q95_1 (cal : Cal) (k : Nat) : ∀ (m : Nat) (u1 u7 u8 u9 : Value) (H : Hp) (n : Nat), labK (E95_1 cal k m) (Tr.set (Tr.set (Tr.set (Tr.set Tr.nil 9 (some u9)) 8 (some u8)) 7 (some u7)) 1 (some u1)) H n [] = S95_1 cal k m u1 u7 u8 u9 H n
  | 0, u1, u7, u8, u9, H, n => by
    rw [h95_1]
    have e : R95_1 cal k 0 = fun _ _ _ _ _ _ => none := by funext u1 u7 u8 u9 H n; kernel_rfl
    rw [e]; rfl
  | m + 1, u1, u7, u8, u9, H, n => by
    rw [h95_1]
    have e : R95_1 cal k (m + 1) = S95_1 cal k m := by
      funext u1 u7 u8 u9 H n
      have e : R95_1 cal k (m + 1) u1 u7 u8 u9 H n = labK (E95_1 cal k m) (Tr.set (Tr.set (Tr.set (Tr.set Tr.nil 9 (some u9)) 8 (some u8)) 7 (some u7)) 1 (some u1)) H n [] := by kernel_rfl
      rw [e]; exact q95_1 ..
    rw [e]; rfl
noncomputable def B95_0 (cal : Cal) (k : Nat) (j1 : Value → Value → Value → Value → Hp → Nat → Res) (v0 v1 : Value) (H : Hp) (n : Nat) : Res :=
bindO (lenV P 33 v0) fun v8_3 =>
j1 v1 v0 v8_3 (Go.Value.int Go.IntKind.i64 0) H n
noncomputable def C95_0 (cal : Cal) (k : Nat) (v0 v1 : Value) (H : Hp) (n : Nat) : Res := B95_0 cal k (S95_1 cal k k) v0 v1 H n
theorem h95_0 (cal : Cal) (k : Nat) (v0 v1 : Value) (H : Hp) (n : Nat) : bodyE P cal A (k + 1) 95 [v0, v1] H n = C95_0 cal k v0 v1 H n := by
  have h : bodyE P cal A (k + 1) 95 [v0, v1] H n = B95_0 cal k (fun u1 u7 u8 u9 H n => labK (E95_1 cal k k) (Tr.set (Tr.set (Tr.set (Tr.set Tr.nil 9 (some u9)) 8 (some u8)) 7 (some u7)) 1 (some u1)) H n []) v0 v1 H n := by
    rw [body_eq (fn := Go.Proofs.Try.f95) (c := code95) (rs := results95) (by kernel_rfl) (by kernel_rfl) (by kernel_rfl) (by kernel_rfl)]
    kernel_rfl
  rw [h, C95_0]
  have e1 : (fun u1 u7 u8 u9 H n => labK (E95_1 cal k k) (Tr.set (Tr.set (Tr.set (Tr.set Tr.nil 9 (some u9)) 8 (some u8)) 7 (some u7)) 1 (some u1)) H n []) = (S95_1 cal k k) := by funext u1 u7 u8 u9 H n; exact q95_1 ..
  rw [e1]
noncomputable def code96 : Code := codeOf 96
noncomputable def results96 : List ResultVar := resOf 96
noncomputable def K96_p (cal : Cal) (k : Nat) : KC (Value × Hp × Nat) := (cutK (A 96).c (codeE P cal (codeF P cal k) none 96 (cR code96) (Lv.b (A 96)) (doneK P results96) X0 (doneK P results96)))
noncomputable def K96_pr (cal : Cal) (k : Nat) : KC (Value × Hp × Nat) := (cutK (Lv.b (A 96)).c (codeE P cal (codeF P cal k) none 96 (cR (cR code96)) (Lv.b (Lv.b (A 96))) (doneK P results96) X0 (doneK P results96)))
noncomputable def B96_0 (cal : Cal) (k : Nat) (v0 : Value) (H : Hp) (n : Nat) : Res :=
boxK 86 v0 H n fun v1_1 H_2 n_3 =>
bindO (fieldAddrV P 86 v1_1 0) fun v3_5 =>
bindO (addrV v3_5) fun a_7 => bindO (loadV P H_2 3 a_7) fun v4_6 =>
binK P Go.BinOp.geq 3 (Go.Operand.tmp 4) (Go.Operand.const (Go.Value.int Go.IntKind.i64 0)) v4_6 (Go.Value.int Go.IntKind.i64 0) fun v5_8 =>
guardK v5_8 true (fun k_10 =>
bindO (fieldAddrV P 86 v1_1 0) fun v7_14 =>
k_10 v7_14 H_2 n_3) H_2 n_3 fun v_11 H_12 n_13 =>
guardK v5_8 true (fun k_15 =>
bindO (addrV v_11) fun a_20 => bindO (loadV P H_12 3 a_20) fun v8_19 =>
k_15 v8_19 H_12 n_13) H_12 n_13 fun v_16 H_17 n_18 =>
guardK v5_8 true (fun k_21 =>
binK P Go.BinOp.leq 3 (Go.Operand.tmp 8) (Go.Operand.const (Go.Value.int Go.IntKind.i64 1000)) v_16 (Go.Value.int Go.IntKind.i64 1000) fun v9_25 =>
k_21 v9_25 H_17 n_18) H_17 n_18 fun v_22 H_23 n_24 =>
bindO (pickV v5_8 v_22 (Go.Value.bool false)) fun v10_26 =>
guardK v10_26 true (fun k_28 =>
bindO (fieldAddrV P 86 v1_1 1) fun v12_32 =>
k_28 v12_32 H_23 n_24) H_23 n_24 fun v_29 H_30 n_31 =>
guardK v10_26 true (fun k_33 =>
bindO (addrV v_29) fun a_38 => bindO (loadV P H_30 53 a_38) fun v13_37 =>
k_33 v13_37 H_30 n_31) H_30 n_31 fun v_34 H_35 n_36 =>
guardK v10_26 true (fun k_39 =>
callFK P cal 114 [v_34] H_35 n_36 fun v14_43 H_44 n_45 =>
k_39 v14_43 H_44 n_45) H_35 n_36 fun v_40 H_41 n_42 =>
bindO (pickV v10_26 v_40 (Go.Value.bool false)) fun v15_46 =>
guardK v15_46 true (fun k_48 =>
bindO (fieldAddrV P 86 v1_1 2) fun v17_52 =>
k_48 v17_52 H_41 n_42) H_41 n_42 fun v_49 H_50 n_51 =>
guardK v15_46 true (fun k_53 =>
bindO (addrV v_49) fun a_58 => bindO (loadV P H_50 53 a_58) fun v18_57 =>
k_53 v18_57 H_50 n_51) H_50 n_51 fun v_54 H_55 n_56 =>
guardK v15_46 true (fun k_59 =>
callFK P cal 114 [v_54] H_55 n_56 fun v19_63 H_64 n_65 =>
k_59 v19_63 H_64 n_65) H_55 n_56 fun v_60 H_61 n_62 =>
bindO (pickV v15_46 v_60 (Go.Value.bool false)) fun v20_66 =>
some (v20_66, H_61, n_62)
noncomputable def C96_0 (cal : Cal) (k : Nat) (v0 : Value) (H : Hp) (n : Nat) : Res := B96_0 cal k v0 H n
theorem h96_0 (cal : Cal) (k : Nat) (v0 : Value) (H : Hp) (n : Nat) : bodyE P cal A (k + 1) 96 [v0] H n = C96_0 cal k v0 H n := by
  have h : bodyE P cal A (k + 1) 96 [v0] H n = B96_0 cal k v0 H n := by
    rw [body_eq (fn := Go.Proofs.Try.f96) (c := code96) (rs := results96) (by kernel_rfl) (by kernel_rfl) (by kernel_rfl) (by kernel_rfl)]
    kernel_rfl
  rw [h, C96_0]
noncomputable def code98 : Code := codeOf 98
noncomputable def results98 : List ResultVar := resOf 98
noncomputable def K98_p (cal : Cal) (k : Nat) : KC (Value × Hp × Nat) := (cutK (A 98).c (codeE P cal (codeF P cal k) none 98 (cR code98) (Lv.b (A 98)) (doneK P results98) X0 (doneK P results98)))
noncomputable def K98_pr (cal : Cal) (k : Nat) : KC (Value × Hp × Nat) := (cutK (Lv.b (A 98)).c (codeE P cal (codeF P cal k) none 98 (cR (cR code98)) (Lv.b (Lv.b (A 98))) (doneK P results98) X0 (doneK P results98)))
noncomputable def K98_prr (cal : Cal) (k : Nat) : KC (Value × Hp × Nat) := (cutK (Lv.b (Lv.b (A 98))).c (codeE P cal (codeF P cal k) none 98 (cR (cR (cR code98))) (Lv.b (Lv.b (Lv.b (A 98)))) (doneK P results98) X0 (doneK P results98)))
noncomputable def K98_prrl (cal : Cal) (k : Nat) : KC (Value × Hp × Nat) := (cutK (Lv.a (Lv.b (Lv.b (A 98)))).c (codeE P cal (codeF P cal k) none 98 (cR (cL (cR (cR code98)))) (Lv.b (Lv.a (Lv.b (Lv.b (A 98))))) (K98_prr cal k) X0 (doneK P results98)))
noncomputable def K98_pxrrlr (cal : Cal) (k : Nat) : XC (Value × Hp × Nat) := (upX 0 (K98_prr cal k) X0)
noncomputable def K98_prrlrl (cal : Cal) (k : Nat) (m1 : Nat) : KC (Value × Hp × Nat) := (fun T H n D => codeF P cal m1 (Lv.a (Lv.b (Lv.a (Lv.b (Lv.b (A 98)))))) none 98 (cL (cR (cL (cR (cR code98))))) (K98_prr cal k) (K98_pxrrlr cal k) (doneK P results98) (cutT (Lv.a (Lv.b (Lv.a (Lv.b (Lv.b (A 98)))))).c T) H n D)
noncomputable def K98_prrlrll (cal : Cal) (k : Nat) (m1 : Nat) : KC (Value × Hp × Nat) := (cutK (Lv.a (Lv.a (Lv.b (Lv.a (Lv.b (Lv.b (A 98))))))).c (codeE P cal (codeF P cal m1) none 98 (cR (cL (cL (cR (cL (cR (cR code98))))))) (Lv.b (Lv.a (Lv.a (Lv.b (Lv.a (Lv.b (Lv.b (A 98)))))))) (K98_prrlrl cal k m1) (K98_pxrrlr cal k) (doneK P results98)))
noncomputable def K98_prrlrllr (cal : Cal) (k : Nat) (m1 : Nat) : KC (Value × Hp × Nat) := (cutK (Lv.b (Lv.a (Lv.a (Lv.b (Lv.a (Lv.b (Lv.b (A 98)))))))).c (codeE P cal (codeF P cal m1) none 98 (cR (cR (cL (cL (cR (cL (cR (cR code98)))))))) (Lv.b (Lv.b (Lv.a (Lv.a (Lv.b (Lv.a (Lv.b (Lv.b (A 98))))))))) (K98_prrlrl cal k m1) (K98_pxrrlr cal k) (doneK P results98)))
noncomputable def K98_prrlrllrr (cal : Cal) (k : Nat) (m1 : Nat) : KC (Value × Hp × Nat) := (cutK (Lv.b (Lv.b (Lv.a (Lv.a (Lv.b (Lv.a (Lv.b (Lv.b (A 98))))))))).c (codeE P cal (codeF P cal m1) none 98 (cR (cR (cR (cL (cL (cR (cL (cR (cR code98))))))))) (Lv.b (Lv.b (Lv.b (Lv.a (Lv.a (Lv.b (Lv.a (Lv.b (Lv.b (A 98)))))))))) (K98_prrlrl cal k m1) (K98_pxrrlr cal k) (doneK P results98)))
noncomputable def K98_pxrrlrllrrl (cal : Cal) (k : Nat) (m1 : Nat) : XC (Value × Hp × Nat) := (upX 1 (K98_prrlrllrr cal k m1) (K98_pxrrlr cal k))
noncomputable def K98_prrlrllrrll (cal : Cal) (k : Nat) (m1 : Nat) : KC (Value × Hp × Nat) := (cutK (Lv.a (Lv.a (Lv.b (Lv.b (Lv.a (Lv.a (Lv.b (Lv.a (Lv.b (Lv.b (A 98))))))))))).c (codeE P cal (codeF P cal m1) none 98 (cR (cL (cL (cR (cR (cL (cL (cR (cL (cR (cR code98))))))))))) (Lv.b (Lv.a (Lv.a (Lv.b (Lv.b (Lv.a (Lv.a (Lv.b (Lv.a (Lv.b (Lv.b (A 98)))))))))))) (K98_prrlrllrr cal k m1) (K98_pxrrlrllrrl cal k m1) (doneK P results98)))
noncomputable def K98_prrr (cal : Cal) (k : Nat) : KC (Value × Hp × Nat) := (cutK (Lv.b (Lv.b (Lv.b (A 98)))).c (codeE P cal (codeF P cal k) none 98 (cR (cR (cR (cR code98)))) (Lv.b (Lv.b (Lv.b (Lv.b (A 98))))) (doneK P results98) X0 (doneK P results98)))
noncomputable def E98_1 (cal : Cal) (k m1 : Nat) : KC (Value × Hp × Nat) := codeE P cal (codeF P cal m1) none 98 (cL (cL (cR (cL (cR (cR code98)))))) (Lv.a (Lv.a (Lv.b (Lv.a (Lv.b (Lv.b (A 98))))))) (K98_prrlrl cal k m1) (K98_pxrrlr cal k) (doneK P results98)
noncomputable def R98_1 (cal : Cal) (k m1 : Nat) : Value → Value → Value → Value → Hp → Nat → Res := fun u1 u5 u9 u10 H n => codeF P cal m1 (Lv.a (Lv.b (Lv.a (Lv.b (Lv.b (A 98)))))) none 98 (cL (cR (cL (cR (cR code98))))) (K98_prr cal k) (K98_pxrrlr cal k) (doneK P results98) (Tr.set (Tr.set (Tr.set (Tr.set Tr.nil 10 (some u10)) 9 (some u9)) 5 (some u5)) 1 (some u1)) H n []
noncomputable def B98_1 (cal : Cal) (k m1 : Nat) (b1 : Value → Value → Value → Value → Hp → Nat → Res) (u1 u5 u9 u10 : Value) (H : Hp) (n : Nat) : Res :=
binK P Go.BinOp.lss 3 (Go.Operand.tmp 10) (Go.Operand.const (Go.Value.int Go.IntKind.i64 8)) u10 (Go.Value.int Go.IntKind.i64 8) fun v11_10 =>
ifK v11_10 (
bindO (indexV P 111 u9 u10) fun v12_11 =>
allocK P 53 H n fun v7_12 H_13 n_14 =>
bindO (storeP P 53 v7_12 v12_11 H_13) fun H_16 =>
bindO (addrV v7_12) fun a_20 => bindO (loadV P H_16 53 a_20) fun v15_19 =>
callVK P cal u1 [v15_19] H_16 n_14 fun v16_21 H_22 n_23 =>
binK P Go.BinOp.add 3 (Go.Operand.tmp 13) (Go.Operand.tmp 16) u5 v16_21 fun v17_24 =>
binK P Go.BinOp.add 3 (Go.Operand.tmp 10) (Go.Operand.const (Go.Value.int Go.IntKind.i64 1)) u10 (Go.Value.int Go.IntKind.i64 1) fun v18_26 =>
b1 u1 v17_24 u9 v18_26 H_22 n_23) (
some (u5, H, n))
noncomputable def C98_1 (cal : Cal) (k m1 : Nat) (b1 : Value → Value → Value → Value → Hp → Nat → Res) (u1 u5 u9 u10 : Value) (H : Hp) (n : Nat) : Res := B98_1 cal k m1 b1 u1 u5 u9 u10 H n
noncomputable def S98_1 (cal : Cal) (k : Nat) : Nat → Value → Value → Value → Value → Hp → Nat → Res := fun m => Nat.rec (motive := fun _ => Value → Value → Value → Value → Hp → Nat → Res) (C98_1 cal k 0 (fun _ _ _ _ _ _ => none)) (fun m ih => C98_1 cal k (m + 1) ih) m
theorem h98_1 (cal : Cal) (k m1 : Nat) (u1 u5 u9 u10 : Value) (H : Hp) (n : Nat) : labK (E98_1 cal k m1) (Tr.set (Tr.set (Tr.set (Tr.set Tr.nil 10 (some u10)) 9 (some u9)) 5 (some u5)) 1 (some u1)) H n [] = C98_1 cal k m1 (R98_1 cal k m1) u1 u5 u9 u10 H n := by
  have h : labK (E98_1 cal k m1) (Tr.set (Tr.set (Tr.set (Tr.set Tr.nil 10 (some u10)) 9 (some u9)) 5 (some u5)) 1 (some u1)) H n [] = B98_1 cal k m1 (R98_1 cal k m1) u1 u5 u9 u10 H n := by kernel_rfl
  rw [h, C98_1]
theorem q98_1 (cal : Cal) (k : Nat) : ∀ (m : Nat) (u1 u5 u9 u10 : Value) (H : Hp) (n : Nat), labK (E98_1 cal k m) (Tr.set (Tr.set (Tr.set (Tr.set Tr.nil 10 (some u10)) 9 (some u9)) 5 (some u5)) 1 (some u1)) H n [] = S98_1 cal k m u1 u5 u9 u10 H n
  | 0, u1, u5, u9, u10, H, n => by
    rw [h98_1]
    have e : R98_1 cal k 0 = fun _ _ _ _ _ _ => none := by funext u1 u5 u9 u10 H n; kernel_rfl
    rw [e]; rfl
  | m + 1, u1, u5, u9, u10, H, n => by
    rw [h98_1]
    have e : R98_1 cal k (m + 1) = S98_1 cal k m := by
      funext u1 u5 u9 u10 H n
      have e : R98_1 cal k (m + 1) u1 u5 u9 u10 H n = labK (E98_1 cal k m) (Tr.set (Tr.set (Tr.set (Tr.set Tr.nil 10 (some u10)) 9 (some u9)) 5 (some u5)) 1 (some u1)) H n [] := by kernel_rfl
      rw [e]; exact q98_1 ..
    rw [e]; rfl
noncomputable def B98_0 (cal : Cal) (k : Nat) (j1 : Value → Value → Value → Value → Hp → Nat → Res) (v0 v1 : Value) (H : Hp) (n : Nat) : Res :=
boxK 113 v0 H n fun v2_1 H_2 n_3 =>
bindO (fieldAddrV P 113 v2_1 1) fun v8_6 =>
bindO (addrV v8_6) fun a_8 => bindO (loadV P H_2 111 a_8) fun v9_7 =>
j1 v1 (Go.Value.int Go.IntKind.i64 0) v9_7 (Go.Value.int Go.IntKind.i64 0) H_2 n_3
noncomputable def C98_0 (cal : Cal) (k : Nat) (v0 v1 : Value) (H : Hp) (n : Nat) : Res := B98_0 cal k (S98_1 cal k k) v0 v1 H n
theorem h98_0 (cal : Cal) (k : Nat) (v0 v1 : Value) (H : Hp) (n : Nat) : bodyE P cal A (k + 1) 98 [v0, v1] H n = C98_0 cal k v0 v1 H n := by
  have h : bodyE P cal A (k + 1) 98 [v0, v1] H n = B98_0 cal k (fun u1 u5 u9 u10 H n => labK (E98_1 cal k k) (Tr.set (Tr.set (Tr.set (Tr.set Tr.nil 10 (some u10)) 9 (some u9)) 5 (some u5)) 1 (some u1)) H n []) v0 v1 H n := by
    rw [body_eq (fn := Go.Proofs.Try.f98) (c := code98) (rs := results98) (by kernel_rfl) (by kernel_rfl) (by kernel_rfl) (by kernel_rfl)]
    kernel_rfl
  rw [h, C98_0]
  have e1 : (fun u1 u5 u9 u10 H n => labK (E98_1 cal k k) (Tr.set (Tr.set (Tr.set (Tr.set Tr.nil 10 (some u10)) 9 (some u9)) 5 (some u5)) 1 (some u1)) H n []) = (S98_1 cal k k) := by funext u1 u5 u9 u10 H n; exact q98_1 ..
  rw [e1]
noncomputable def code99 : Code := codeOf 99
noncomputable def results99 : List ResultVar := resOf 99
noncomputable def K99_p (cal : Cal) (k : Nat) : KC (Value × Hp × Nat) := (cutK (A 99).c (codeE P cal (codeF P cal k) none 99 (cR code99) (Lv.b (A 99)) (doneK P results99) X0 (doneK P results99)))
noncomputable def K99_pr (cal : Cal) (k : Nat) : KC (Value × Hp × Nat) := (cutK (Lv.b (A 99)).c (codeE P cal (codeF P cal k) none 99 (cR (cR code99)) (Lv.b (Lv.b (A 99))) (doneK P results99) X0 (doneK P results99)))
noncomputable def B99_0 (cal : Cal) (k : Nat) (v0 v1 : Value) (H : Hp) (n : Nat) : Res :=
boxK 53 v0 H n fun v2_1 H_2 n_3 =>
bindO (fieldAddrV P 53 v2_1 0) fun v5_5 =>
bindO (addrV v5_5) fun a_7 => bindO (loadV P H_2 3 a_7) fun v6_6 =>
binK P Go.BinOp.leq 3 (Go.Operand.tmp 6) (Go.Operand.tmp 7) v6_6 v1 fun v8_9 =>
guardK v8_9 true (fun k_11 =>
k_11 v1 H_2 n_3) H_2 n_3 fun v_12 H_13 n_14 =>
guardK v8_9 true (fun k_16 =>
bindO (fieldAddrV P 53 v2_1 1) fun v11_20 =>
k_16 v11_20 H_13 n_14) H_13 n_14 fun v_17 H_18 n_19 =>
guardK v8_9 true (fun k_21 =>
bindO (addrV v_17) fun a_26 => bindO (loadV P H_18 3 a_26) fun v12_25 =>
k_21 v12_25 H_18 n_19) H_18 n_19 fun v_22 H_23 n_24 =>
guardK v8_9 true (fun k_27 =>
binK P Go.BinOp.leq 3 (Go.Operand.tmp 10) (Go.Operand.tmp 12) v_12 v_22 fun v13_31 =>
k_27 v13_31 H_23 n_24) H_23 n_24 fun v_28 H_29 n_30 =>
bindO (pickV v8_9 v_28 (Go.Value.bool false)) fun v14_32 =>
some (v14_32, H_29, n_30)
noncomputable def C99_0 (cal : Cal) (k : Nat) (v0 v1 : Value) (H : Hp) (n : Nat) : Res := B99_0 cal k v0 v1 H n
theorem h99_0 (cal : Cal) (k : Nat) (v0 v1 : Value) (H : Hp) (n : Nat) : bodyE P cal A (k + 1) 99 [v0, v1] H n = C99_0 cal k v0 v1 H n := by
  have h : bodyE P cal A (k + 1) 99 [v0, v1] H n = B99_0 cal k v0 v1 H n := by
    rw [body_eq (fn := Go.Proofs.Try.f99) (c := code99) (rs := results99) (by kernel_rfl) (by kernel_rfl) (by kernel_rfl) (by kernel_rfl)]
    kernel_rfl
  rw [h, C99_0]
noncomputable def code101 : Code := codeOf 101
noncomputable def results101 : List ResultVar := resOf 101
noncomputable def K101_p (cal : Cal) (k : Nat) : KC (Value × Hp × Nat) := (cutK (A 101).c (codeE P cal (codeF P cal k) none 101 (cR code101) (Lv.b (A 101)) (doneK P results101) X0 (doneK P results101)))
noncomputable def K101_pr (cal : Cal) (k : Nat) : KC (Value × Hp × Nat) := (cutK (Lv.b (A 101)).c (codeE P cal (codeF P cal k) none 101 (cR (cR code101)) (Lv.b (Lv.b (A 101))) (doneK P results101) X0 (doneK P results101)))
noncomputable def K101_prr (cal : Cal) (k : Nat) : KC (Value × Hp × Nat) := (cutK (Lv.b (Lv.b (A 101))).c (codeE P cal (codeF P cal k) none 101 (cR (cR (cR code101))) (Lv.b (Lv.b (Lv.b (A 101)))) (doneK P results101) X0 (doneK P results101)))
noncomputable def K101_prrl (cal : Cal) (k : Nat) : KC (Value × Hp × Nat) := (cutK (Lv.a (Lv.b (Lv.b (A 101)))).c (codeE P cal (codeF P cal k) none 101 (cR (cL (cR (cR code101)))) (Lv.b (Lv.a (Lv.b (Lv.b (A 101))))) (K101_prr cal k) X0 (doneK P results101)))
noncomputable def K101_pxrrlr (cal : Cal) (k : Nat) : XC (Value × Hp × Nat) := (upX 0 (K101_prr cal k) X0)
noncomputable def K101_prrlrl (cal : Cal) (k : Nat) (m1 : Nat) : KC (Value × Hp × Nat) := (fun T H n D => codeF P cal m1 (Lv.a (Lv.b (Lv.a (Lv.b (Lv.b (A 101)))))) none 101 (cL (cR (cL (cR (cR code101))))) (K101_prr cal k) (K101_pxrrlr cal k) (doneK P results101) (cutT (Lv.a (Lv.b (Lv.a (Lv.b (Lv.b (A 101)))))).c T) H n D)
noncomputable def K101_prrlrll (cal : Cal) (k : Nat) (m1 : Nat) : KC (Value × Hp × Nat) := (cutK (Lv.a (Lv.a (Lv.b (Lv.a (Lv.b (Lv.b (A 101))))))).c (codeE P cal (codeF P cal m1) none 101 (cR (cL (cL (cR (cL (cR (cR code101))))))) (Lv.b (Lv.a (Lv.a (Lv.b (Lv.a (Lv.b (Lv.b (A 101)))))))) (K101_prrlrl cal k m1) (K101_pxrrlr cal k) (doneK P results101)))
noncomputable def K101_prrlrllr (cal : Cal) (k : Nat) (m1 : Nat) : KC (Value × Hp × Nat) := (cutK (Lv.b (Lv.a (Lv.a (Lv.b (Lv.a (Lv.b (Lv.b (A 101)))))))).c (codeE P cal (codeF P cal m1) none 101 (cR (cR (cL (cL (cR (cL (cR (cR code101)))))))) (Lv.b (Lv.b (Lv.a (Lv.a (Lv.b (Lv.a (Lv.b (Lv.b (A 101))))))))) (K101_prrlrl cal k m1) (K101_pxrrlr cal k) (doneK P results101)))
noncomputable def K101_prrlrllrr (cal : Cal) (k : Nat) (m1 : Nat) : KC (Value × Hp × Nat) := (cutK (Lv.b (Lv.b (Lv.a (Lv.a (Lv.b (Lv.a (Lv.b (Lv.b (A 101))))))))).c (codeE P cal (codeF P cal m1) none 101 (cR (cR (cR (cL (cL (cR (cL (cR (cR code101))))))))) (Lv.b (Lv.b (Lv.b (Lv.a (Lv.a (Lv.b (Lv.a (Lv.b (Lv.b (A 101)))))))))) (K101_prrlrl cal k m1) (K101_pxrrlr cal k) (doneK P results101)))
noncomputable def K101_pxrrlrllrrl (cal : Cal) (k : Nat) (m1 : Nat) : XC (Value × Hp × Nat) := (upX 1 (K101_prrlrllrr cal k m1) (K101_pxrrlr cal k))
noncomputable def K101_prrlrllrrll (cal : Cal) (k : Nat) (m1 : Nat) : KC (Value × Hp × Nat) := (cutK (Lv.a (Lv.a (Lv.b (Lv.b (Lv.a (Lv.a (Lv.b (Lv.a (Lv.b (Lv.b (A 101))))))))))).c (codeE P cal (codeF P cal m1) none 101 (cR (cL (cL (cR (cR (cL (cL (cR (cL (cR (cR code101))))))))))) (Lv.b (Lv.a (Lv.a (Lv.b (Lv.b (Lv.a (Lv.a (Lv.b (Lv.a (Lv.b (Lv.b (A 101)))))))))))) (K101_prrlrllrr cal k m1) (K101_pxrrlrllrrl cal k m1) (doneK P results101)))
noncomputable def K101_prrr (cal : Cal) (k : Nat) : KC (Value × Hp × Nat) := (cutK (Lv.b (Lv.b (Lv.b (A 101)))).c (codeE P cal (codeF P cal k) none 101 (cR (cR (cR (cR code101)))) (Lv.b (Lv.b (Lv.b (Lv.b (A 101))))) (doneK P results101) X0 (doneK P results101)))
noncomputable def E101_1 (cal : Cal) (k m1 : Nat) : KC (Value × Hp × Nat) := codeE P cal (codeF P cal m1) none 101 (cL (cL (cR (cL (cR (cR code101)))))) (Lv.a (Lv.a (Lv.b (Lv.a (Lv.b (Lv.b (A 101))))))) (K101_prrlrl cal k m1) (K101_pxrrlr cal k) (doneK P results101)
noncomputable def R101_1 (cal : Cal) (k m1 : Nat) : Value → Value → Value → Hp → Nat → Res := fun u0 u1 u3 H n => codeF P cal m1 (Lv.a (Lv.b (Lv.a (Lv.b (Lv.b (A 101)))))) none 101 (cL (cR (cL (cR (cR code101))))) (K101_prr cal k) (K101_pxrrlr cal k) (doneK P results101) (Tr.set (Tr.set (Tr.set Tr.nil 3 (some u3)) 1 (some u1)) 0 (some u0)) H n []
noncomputable def B101_1 (cal : Cal) (k m1 : Nat) (b1 : Value → Value → Value → Hp → Nat → Res) (u0 u1 u3 : Value) (H : Hp) (n : Nat) : Res :=
binK P Go.BinOp.lss 3 (Go.Operand.tmp 3) (Go.Operand.const (Go.Value.int Go.IntKind.i64 8)) u3 (Go.Value.int Go.IntKind.i64 8) fun v4_8 =>
ifK v4_8 (
bindO (indexAddrV P 121 u1 u3) fun v7_12 =>
bindO (storeP P 3 v7_12 (Go.Value.int Go.IntKind.i64 (-1)) H) fun H_14 =>
binK P Go.BinOp.add 3 (Go.Operand.tmp 3) (Go.Operand.const (Go.Value.int Go.IntKind.i64 1)) u3 (Go.Value.int Go.IntKind.i64 1) fun v8_15 =>
b1 u0 u1 v8_15 H_14 n) (
bindO (addrV u1) fun a_18 => bindO (loadV P H 121 a_18) fun v9_17 =>
bindO (storeP P 121 u0 v9_17 H) fun H_20 =>
bindO (resV P (Tr.set Tr.nil 0 (some u0)) H_20 results101) fun vs_21 => some (oneV vs_21, H_20, n))
noncomputable def C101_1 (cal : Cal) (k m1 : Nat) (b1 : Value → Value → Value → Hp → Nat → Res) (u0 u1 u3 : Value) (H : Hp) (n : Nat) : Res := B101_1 cal k m1 b1 u0 u1 u3 H n
noncomputable def S101_1 (cal : Cal) (k : Nat) : Nat → Value → Value → Value → Hp → Nat → Res := fun m => Nat.rec (motive := fun _ => Value → Value → Value → Hp → Nat → Res) (C101_1 cal k 0 (fun _ _ _ _ _ => none)) (fun m ih => C101_1 cal k (m + 1) ih) m
theorem h101_1 (cal : Cal) (k m1 : Nat) (u0 u1 u3 : Value) (H : Hp) (n : Nat) : labK (E101_1 cal k m1) (Tr.set (Tr.set (Tr.set Tr.nil 3 (some u3)) 1 (some u1)) 0 (some u0)) H n [] = C101_1 cal k m1 (R101_1 cal k m1) u0 u1 u3 H n := by
  have h : labK (E101_1 cal k m1) (Tr.set (Tr.set (Tr.set Tr.nil 3 (some u3)) 1 (some u1)) 0 (some u0)) H n [] = B101_1 cal k m1 (R101_1 cal k m1) u0 u1 u3 H n := by kernel_rfl
  rw [h, C101_1]
theorem q101_1 (cal : Cal) (k : Nat) : ∀ (m : Nat) (u0 u1 u3 : Value) (H : Hp) (n : Nat), labK (E101_1 cal k m) (Tr.set (Tr.set (Tr.set Tr.nil 3 (some u3)) 1 (some u1)) 0 (some u0)) H n [] = S101_1 cal k m u0 u1 u3 H n
  | 0, u0, u1, u3, H, n => by
    rw [h101_1]
    have e : R101_1 cal k 0 = fun _ _ _ _ _ => none := by funext u0 u1 u3 H n; kernel_rfl
    rw [e]; rfl
  | m + 1, u0, u1, u3, H, n => by
    rw [h101_1]
    have e : R101_1 cal k (m + 1) = S101_1 cal k m := by
      funext u0 u1 u3 H n
      have e : R101_1 cal k (m + 1) u0 u1 u3 H n = labK (E101_1 cal k m) (Tr.set (Tr.set (Tr.set Tr.nil 3 (some u3)) 1 (some u1)) 0 (some u0)) H n [] := by kernel_rfl
      rw [e]; exact q101_1 ..
    rw [e]; rfl
noncomputable def B101_0 (cal : Cal) (k : Nat) (j1 : Value → Value → Value → Hp → Nat → Res) (H : Hp) (n : Nat) : Res :=
allocK P 121 H n fun v0_1 H_2 n_3 =>
allocK P 121 H_2 n_3 fun v1_4 H_5 n_6 =>
j1 v0_1 v1_4 (Go.Value.int Go.IntKind.i64 0) H_5 n_6
noncomputable def C101_0 (cal : Cal) (k : Nat) (H : Hp) (n : Nat) : Res := B101_0 cal k (S101_1 cal k k)  H n
theorem h101_0 (cal : Cal) (k : Nat) (H : Hp) (n : Nat) : bodyE P cal A (k + 1) 101 [] H n = C101_0 cal k  H n := by
  have h : bodyE P cal A (k + 1) 101 [] H n = B101_0 cal k (fun u0 u1 u3 H n => labK (E101_1 cal k k) (Tr.set (Tr.set (Tr.set Tr.nil 3 (some u3)) 1 (some u1)) 0 (some u0)) H n [])  H n := by
    rw [body_eq (fn := Go.Proofs.Try.f101) (c := code101) (rs := results101) (by kernel_rfl) (by kernel_rfl) (by kernel_rfl) (by kernel_rfl)]
    kernel_rfl
  rw [h, C101_0]
  have e1 : (fun u0 u1 u3 H n => labK (E101_1 cal k k) (Tr.set (Tr.set (Tr.set Tr.nil 3 (some u3)) 1 (some u1)) 0 (some u0)) H n []) = (S101_1 cal k k) := by funext u0 u1 u3 H n; exact q101_1 ..
  rw [e1]
noncomputable def code102 : Code := codeOf 102
noncomputable def results102 : List ResultVar := resOf 102
noncomputable def K102_p (cal : Cal) (k : Nat) : KC (Value × Hp × Nat) := (cutK (A 102).c (codeE P cal (codeF P cal k) none 102 (cR code102) (Lv.b (A 102)) (doneK P results102) X0 (doneK P results102)))
noncomputable def K102_pr (cal : Cal) (k : Nat) : KC (Value × Hp × Nat) := (cutK (Lv.b (A 102)).c (codeE P cal (codeF P cal k) none 102 (cR (cR code102)) (Lv.b (Lv.b (A 102))) (doneK P results102) X0 (doneK P results102)))
noncomputable def B102_0 (cal : Cal) (k : Nat) (v0 v1 v2 : Value) (H : Hp) (n : Nat) : Res :=
binK P Go.BinOp.geq 3 (Go.Operand.tmp 7) (Go.Operand.const (Go.Value.int Go.IntKind.i64 0)) v2 (Go.Value.int Go.IntKind.i64 0) fun v8_3 =>
guardK v8_3 true (fun k_5 =>
k_5 v2 H n) H n fun v_6 H_7 n_8 =>
guardK v8_3 true (fun k_10 =>
k_10 v0 H_7 n_8) H_7 n_8 fun v_11 H_12 n_13 =>
guardK v8_3 true (fun k_15 =>
bindO (nilV v_11) fun v12_19 =>
k_15 v12_19 H_12 n_13) H_12 n_13 fun v_16 H_17 n_18 =>
guardK v8_3 true (fun k_20 =>
bindO (fieldAddrV P 117 v_16 0) fun v13_24 =>
k_20 v13_24 H_17 n_18) H_17 n_18 fun v_21 H_22 n_23 =>
guardK v8_3 true (fun k_25 =>
bindO (fieldAddrV P 35 v_21 2) fun v14_29 =>
k_25 v14_29 H_22 n_23) H_22 n_23 fun v_26 H_27 n_28 =>
guardK v8_3 true (fun k_30 =>
bindO (addrV v_26) fun a_35 => bindO (loadV P H_27 33 a_35) fun v15_34 =>
k_30 v15_34 H_27 n_28) H_27 n_28 fun v_31 H_32 n_33 =>
guardK v8_3 true (fun k_36 =>
bindO (lenV P 33 v_31) fun v16_40 =>
k_36 v16_40 H_32 n_33) H_32 n_33 fun v_37 H_38 n_39 =>
guardK v8_3 true (fun k_41 =>
binK P Go.BinOp.lss 3 (Go.Operand.tmp 10) (Go.Operand.tmp 16) v_6 v_37 fun v17_45 =>
k_41 v17_45 H_38 n_39) H_38 n_39 fun v_42 H_43 n_44 =>
bindO (pickV v8_3 v_42 (Go.Value.bool false)) fun v18_46 =>
guardK v18_46 true (fun k_48 =>
k_48 v0 H_43 n_44) H_43 n_44 fun v_49 H_50 n_51 =>
guardK v18_46 true (fun k_53 =>
k_53 v1 H_50 n_51) H_50 n_51 fun v_54 H_55 n_56 =>
guardK v18_46 true (fun k_58 =>
k_58 v2 H_55 n_56) H_55 n_56 fun v_59 H_60 n_61 =>
guardK v18_46 true (fun k_63 =>
bindO (nilV v_49) fun v23_67 =>
k_63 v23_67 H_60 n_61) H_60 n_61 fun v_64 H_65 n_66 =>
guardK v18_46 true (fun k_68 =>
bindO (fieldAddrV P 117 v_64 2) fun v24_72 =>
k_68 v24_72 H_65 n_66) H_65 n_66 fun v_69 H_70 n_71 =>
guardK v18_46 true (fun k_73 =>
bindO (indexAddrV P 115 v_69 v_54) fun v25_77 =>
k_73 v25_77 H_70 n_71) H_70 n_71 fun v_74 H_75 n_76 =>
guardK v18_46 true (fun k_78 =>
bindO (indexAddrV P 114 v_74 v_59) fun v26_82 =>
k_78 v26_82 H_75 n_76) H_75 n_76 fun v_79 H_80 n_81 =>
guardK v18_46 true (fun k_83 =>
bindO (addrV v_79) fun a_88 => bindO (loadV P H_80 113 a_88) fun v27_87 =>
k_83 v27_87 H_80 n_81) H_80 n_81 fun v_84 H_85 n_86 =>
guardK v18_46 true (fun k_89 =>
callFK P cal 62 [v_84] H_85 n_86 fun v28_93 H_94 n_95 =>
k_89 v28_93 H_94 n_95) H_85 n_86 fun v_90 H_91 n_92 =>
bindO (pickV v18_46 v_90 (Go.Value.bool false)) fun v29_96 =>
some (v29_96, H_91, n_92)
noncomputable def C102_0 (cal : Cal) (k : Nat) (v0 v1 v2 : Value) (H : Hp) (n : Nat) : Res := B102_0 cal k v0 v1 v2 H n
theorem h102_0 (cal : Cal) (k : Nat) (v0 v1 v2 : Value) (H : Hp) (n : Nat) : bodyE P cal A (k + 1) 102 [v0, v1, v2] H n = C102_0 cal k v0 v1 v2 H n := by
  have h : bodyE P cal A (k + 1) 102 [v0, v1, v2] H n = B102_0 cal k v0 v1 v2 H n := by
    rw [body_eq (fn := Go.Proofs.Try.f102) (c := code102) (rs := results102) (by kernel_rfl) (by kernel_rfl) (by kernel_rfl) (by kernel_rfl)]
    kernel_rfl
  rw [h, C102_0]
noncomputable def code103 : Code := codeOf 103
noncomputable def results103 : List ResultVar := resOf 103
noncomputable def K103_p (cal : Cal) (k : Nat) : KC (Value × Hp × Nat) := (cutK (A 103).c (codeE P cal (codeF P cal k) none 103 (cR code103) (Lv.b (A 103)) (doneK P results103) X0 (doneK P results103)))
noncomputable def K103_pr (cal : Cal) (k : Nat) : KC (Value × Hp × Nat) := (cutK (Lv.b (A 103)).c (codeE P cal (codeF P cal k) none 103 (cR (cR code103)) (Lv.b (Lv.b (A 103))) (doneK P results103) X0 (doneK P results103)))
noncomputable def K103_prl (cal : Cal) (k : Nat) : KC (Value × Hp × Nat) := (cutK (Lv.a (Lv.b (A 103))).c (codeE P cal (codeF P cal k) none 103 (cR (cL (cR code103))) (Lv.b (Lv.a (Lv.b (A 103)))) (K103_pr cal k) X0 (doneK P results103)))
noncomputable def K103_pxrlr (cal : Cal) (k : Nat) : XC (Value × Hp × Nat) := (upX 0 (K103_pr cal k) X0)
noncomputable def K103_prlrl (cal : Cal) (k : Nat) (m1 : Nat) : KC (Value × Hp × Nat) := (fun T H n D => codeF P cal m1 (Lv.a (Lv.b (Lv.a (Lv.b (A 103))))) none 103 (cL (cR (cL (cR code103)))) (K103_pr cal k) (K103_pxrlr cal k) (doneK P results103) (cutT (Lv.a (Lv.b (Lv.a (Lv.b (A 103))))).c T) H n D)
noncomputable def K103_prlrll (cal : Cal) (k : Nat) (m1 : Nat) : KC (Value × Hp × Nat) := (cutK (Lv.a (Lv.a (Lv.b (Lv.a (Lv.b (A 103)))))).c (codeE P cal (codeF P cal m1) none 103 (cR (cL (cL (cR (cL (cR code103)))))) (Lv.b (Lv.a (Lv.a (Lv.b (Lv.a (Lv.b (A 103))))))) (K103_prlrl cal k m1) (K103_pxrlr cal k) (doneK P results103)))
noncomputable def K103_prlrllr (cal : Cal) (k : Nat) (m1 : Nat) : KC (Value × Hp × Nat) := (cutK (Lv.b (Lv.a (Lv.a (Lv.b (Lv.a (Lv.b (A 103))))))).c (codeE P cal (codeF P cal m1) none 103 (cR (cR (cL (cL (cR (cL (cR code103))))))) (Lv.b (Lv.b (Lv.a (Lv.a (Lv.b (Lv.a (Lv.b (A 103)))))))) (K103_prlrl cal k m1) (K103_pxrlr cal k) (doneK P results103)))
noncomputable def K103_prlrllrr (cal : Cal) (k : Nat) (m1 : Nat) : KC (Value × Hp × Nat) := (cutK (Lv.b (Lv.b (Lv.a (Lv.a (Lv.b (Lv.a (Lv.b (A 103)))))))).c (codeE P cal (codeF P cal m1) none 103 (cR (cR (cR (cL (cL (cR (cL (cR code103)))))))) (Lv.b (Lv.b (Lv.b (Lv.a (Lv.a (Lv.b (Lv.a (Lv.b (A 103))))))))) (K103_prlrl cal k m1) (K103_pxrlr cal k) (doneK P results103)))
noncomputable def K103_pxrlrllrrl (cal : Cal) (k : Nat) (m1 : Nat) : XC (Value × Hp × Nat) := (upX 1 (K103_prlrllrr cal k m1) (K103_pxrlr cal k))
noncomputable def K103_prlrllrrll (cal : Cal) (k : Nat) (m1 : Nat) : KC (Value × Hp × Nat) := (cutK (Lv.a (Lv.a (Lv.b (Lv.b (Lv.a (Lv.a (Lv.b (Lv.a (Lv.b (A 103)))))))))).c (codeE P cal (codeF P cal m1) none 103 (cR (cL (cL (cR (cR (cL (cL (cR (cL (cR code103)))))))))) (Lv.b (Lv.a (Lv.a (Lv.b (Lv.b (Lv.a (Lv.a (Lv.b (Lv.a (Lv.b (A 103))))))))))) (K103_prlrllrr cal k m1) (K103_pxrlrllrrl cal k m1) (doneK P results103)))
noncomputable def K103_prlrllrrllr (cal : Cal) (k : Nat) (m1 : Nat) : KC (Value × Hp × Nat) := (cutK (Lv.b (Lv.a (Lv.a (Lv.b (Lv.b (Lv.a (Lv.a (Lv.b (Lv.a (Lv.b (A 103))))))))))).c (codeE P cal (codeF P cal m1) none 103 (cR (cR (cL (cL (cR (cR (cL (cL (cR (cL (cR code103))))))))))) (Lv.b (Lv.b (Lv.a (Lv.a (Lv.b (Lv.b (Lv.a (Lv.a (Lv.b (Lv.a (Lv.b (A 103)))))))))))) (K103_prlrllrr cal k m1) (K103_pxrlrllrrl cal k m1) (doneK P results103)))
noncomputable def K103_prr (cal : Cal) (k : Nat) : KC (Value × Hp × Nat) := (cutK (Lv.b (Lv.b (A 103))).c (codeE P cal (codeF P cal k) none 103 (cR (cR (cR code103))) (Lv.b (Lv.b (Lv.b (A 103)))) (doneK P results103) X0 (doneK P results103)))
noncomputable def E103_1 (cal : Cal) (k m1 : Nat) : KC (Value × Hp × Nat) := codeE P cal (codeF P cal m1) none 103 (cL (cL (cR (cL (cR code103))))) (Lv.a (Lv.a (Lv.b (Lv.a (Lv.b (A 103)))))) (K103_prlrl cal k m1) (K103_pxrlr cal k) (doneK P results103)
noncomputable def R103_1 (cal : Cal) (k m1 : Nat) : Value → Value → Value → Value → Hp → Nat → Res := fun u2 u4 u7 u8 H n => codeF P cal m1 (Lv.a (Lv.b (Lv.a (Lv.b (A 103))))) none 103 (cL (cR (cL (cR code103)))) (K103_pr cal k) (K103_pxrlr cal k) (doneK P results103) (Tr.set (Tr.set (Tr.set (Tr.set Tr.nil 8 (some u8)) 7 (some u7)) 4 (some u4)) 2 (some u2)) H n []
noncomputable def B103_1 (cal : Cal) (k m1 : Nat) (b1 : Value → Value → Value → Value → Hp → Nat → Res) (u2 u4 u7 u8 : Value) (H : Hp) (n : Nat) : Res :=
binK P Go.BinOp.lss 3 (Go.Operand.tmp 8) (Go.Operand.const (Go.Value.int Go.IntKind.i64 8)) u8 (Go.Value.int Go.IntKind.i64 8) fun v9_13 =>
ifK v9_13 (
bindO (indexV P 111 u7 u8) fun v11_15 =>
allocK P 53 H n fun v6_16 H_17 n_18 =>
bindO (storeP P 53 v6_16 v11_15 H_17) fun H_21 =>
bindO (indexAddrV P 111 u2 u8) fun v13_23 =>
bindO (fieldAddrV P 53 v13_23 0) fun v14_24 =>
bindO (addrV v14_24) fun a_25 => bindO (loadV P H_21 3 a_25) fun v_26 =>
bindO (fieldAddrV P 53 v6_16 0) fun v16_27 =>
bindO (addrV v16_27) fun a_28 => bindO (loadV P H_21 3 a_28) fun v_29 =>
binK P Go.BinOp.add 3 (Go.Operand.tmp 15) (Go.Operand.tmp 17) v_26 v_29 fun v18_30 =>
bindO (indexAddrV P 111 u2 u8) fun v19_31 =>
bindO (fieldAddrV P 53 v19_31 0) fun v20_32 =>
bindO (storeP P 3 v20_32 v18_30 H_21) fun H_34 =>
bindO (indexAddrV P 111 u2 u8) fun v22_36 =>
bindO (fieldAddrV P 53 v22_36 1) fun v23_37 =>
bindO (addrV v23_37) fun a_38 => bindO (loadV P H_34 3 a_38) fun v_39 =>
bindO (fieldAddrV P 53 v6_16 1) fun v25_40 =>
bindO (addrV v25_40) fun a_41 => bindO (loadV P H_34 3 a_41) fun v_42 =>
binK P Go.BinOp.add 3 (Go.Operand.tmp 24) (Go.Operand.tmp 26) v_39 v_42 fun v27_43 =>
bindO (indexAddrV P 111 u2 u8) fun v28_44 =>
bindO (fieldAddrV P 53 v28_44 1) fun v29_45 =>
bindO (storeP P 3 v29_45 v27_43 H_34) fun H_47 =>
binK P Go.BinOp.add 3 (Go.Operand.tmp 8) (Go.Operand.const (Go.Value.int Go.IntKind.i64 1)) u8 (Go.Value.int Go.IntKind.i64 1) fun v30_48 =>
b1 u2 u4 u7 v30_48 H_47 n_18) (
bindO (addrV u2) fun a_51 => bindO (loadV P H 111 a_51) fun v31_50 =>
bindO (storeP P 111 u4 v31_50 H) fun H_53 =>
bindO (resV P (Tr.set Tr.nil 4 (some u4)) H_53 results103) fun vs_54 => some (oneV vs_54, H_53, n))
noncomputable def C103_1 (cal : Cal) (k m1 : Nat) (b1 : Value → Value → Value → Value → Hp → Nat → Res) (u2 u4 u7 u8 : Value) (H : Hp) (n : Nat) : Res := B103_1 cal k m1 b1 u2 u4 u7 u8 H n
noncomputable def S103_1 (cal : Cal) (k : Nat) : Nat → Value → Value → Value → Value → Hp → Nat → Res := fun m => Nat.rec (motive := fun _ => Value → Value → Value → Value → Hp → Nat → Res) (C103_1 cal k 0 (fun _ _ _ _ _ _ => none)) (fun m ih => C103_1 cal k (m + 1) ih) m
theorem h103_1 (cal : Cal) (k m1 : Nat) (u2 u4 u7 u8 : Value) (H : Hp) (n : Nat) : labK (E103_1 cal k m1) (Tr.set (Tr.set (Tr.set (Tr.set Tr.nil 8 (some u8)) 7 (some u7)) 4 (some u4)) 2 (some u2)) H n [] = C103_1 cal k m1 (R103_1 cal k m1) u2 u4 u7 u8 H n := by
  have h : labK (E103_1 cal k m1) (Tr.set (Tr.set (Tr.set (Tr.set Tr.nil 8 (some u8)) 7 (some u7)) 4 (some u4)) 2 (some u2)) H n [] = B103_1 cal k m1 (R103_1 cal k m1) u2 u4 u7 u8 H n := by kernel_rfl
  rw [h, C103_1]
theorem q103_1 (cal : Cal) (k : Nat) : ∀ (m : Nat) (u2 u4 u7 u8 : Value) (H : Hp) (n : Nat), labK (E103_1 cal k m) (Tr.set (Tr.set (Tr.set (Tr.set Tr.nil 8 (some u8)) 7 (some u7)) 4 (some u4)) 2 (some u2)) H n [] = S103_1 cal k m u2 u4 u7 u8 H n
  | 0, u2, u4, u7, u8, H, n => by
    rw [h103_1]
    have e : R103_1 cal k 0 = fun _ _ _ _ _ _ => none := by funext u2 u4 u7 u8 H n; kernel_rfl
    rw [e]; rfl
  | m + 1, u2, u4, u7, u8, H, n => by
    rw [h103_1]
    have e : R103_1 cal k (m + 1) = S103_1 cal k m := by
      funext u2 u4 u7 u8 H n
      have e : R103_1 cal k (m + 1) u2 u4 u7 u8 H n = labK (E103_1 cal k m) (Tr.set (Tr.set (Tr.set (Tr.set Tr.nil 8 (some u8)) 7 (some u7)) 4 (some u4)) 2 (some u2)) H n [] := by kernel_rfl
      rw [e]; exact q103_1 ..
    rw [e]; rfl
noncomputable def B103_0 (cal : Cal) (k : Nat) (j1 : Value → Value → Value → Value → Hp → Nat → Res) (v0 v1 : Value) (H : Hp) (n : Nat) : Res :=
boxK 111 v0 H n fun v2_1 H_2 n_3 =>
boxK 111 v1 H_2 n_3 fun v3_4 H_5 n_6 =>
allocK P 111 H_5 n_6 fun v4_7 H_8 n_9 =>
bindO (addrV v3_4) fun a_11 => bindO (loadV P H_8 111 a_11) fun v7_10 =>
j1 v2_1 v4_7 v7_10 (Go.Value.int Go.IntKind.i64 0) H_8 n_9
noncomputable def C103_0 (cal : Cal) (k : Nat) (v0 v1 : Value) (H : Hp) (n : Nat) : Res := B103_0 cal k (S103_1 cal k k) v0 v1 H n
theorem h103_0 (cal : Cal) (k : Nat) (v0 v1 : Value) (H : Hp) (n : Nat) : bodyE P cal A (k + 1) 103 [v0, v1] H n = C103_0 cal k v0 v1 H n := by
  have h : bodyE P cal A (k + 1) 103 [v0, v1] H n = B103_0 cal k (fun u2 u4 u7 u8 H n => labK (E103_1 cal k k) (Tr.set (Tr.set (Tr.set (Tr.set Tr.nil 8 (some u8)) 7 (some u7)) 4 (some u4)) 2 (some u2)) H n []) v0 v1 H n := by
    rw [body_eq (fn := Go.Proofs.Try.f103) (c := code103) (rs := results103) (by kernel_rfl) (by kernel_rfl) (by kernel_rfl) (by kernel_rfl)]
    kernel_rfl
  rw [h, C103_0]
  have e1 : (fun u2 u4 u7 u8 H n => labK (E103_1 cal k k) (Tr.set (Tr.set (Tr.set (Tr.set Tr.nil 8 (some u8)) 7 (some u7)) 4 (some u4)) 2 (some u2)) H n []) = (S103_1 cal k k) := by funext u2 u4 u7 u8 H n; exact q103_1 ..
  rw [e1]
noncomputable def code104 : Code := codeOf 104
noncomputable def results104 : List ResultVar := resOf 104
noncomputable def K104_p (cal : Cal) (k : Nat) : KC (Value × Hp × Nat) := (cutK (A 104).c (codeE P cal (codeF P cal k) none 104 (cR code104) (Lv.b (A 104)) (doneK P results104) X0 (doneK P results104)))
noncomputable def K104_pxr (cal : Cal) (k : Nat) : XC (Value × Hp × Nat) := (upX 0 (doneK P results104) X0)
noncomputable def K104_prl (cal : Cal) (k : Nat) (m1 : Nat) : KC (Value × Hp × Nat) := (fun T H n D => codeF P cal m1 (Lv.a (Lv.b (A 104))) none 104 (cL (cR code104)) (doneK P results104) (K104_pxr cal k) (doneK P results104) (cutT (Lv.a (Lv.b (A 104))).c T) H n D)
noncomputable def K104_prll (cal : Cal) (k : Nat) (m1 : Nat) : KC (Value × Hp × Nat) := (cutK (Lv.a (Lv.a (Lv.b (A 104)))).c (codeE P cal (codeF P cal m1) none 104 (cR (cL (cL (cR code104)))) (Lv.b (Lv.a (Lv.a (Lv.b (A 104))))) (K104_prl cal k m1) (K104_pxr cal k) (doneK P results104)))
noncomputable def K104_prllr (cal : Cal) (k : Nat) (m1 : Nat) : KC (Value × Hp × Nat) := (cutK (Lv.b (Lv.a (Lv.a (Lv.b (A 104))))).c (codeE P cal (codeF P cal m1) none 104 (cR (cR (cL (cL (cR code104))))) (Lv.b (Lv.b (Lv.a (Lv.a (Lv.b (A 104)))))) (K104_prl cal k m1) (K104_pxr cal k) (doneK P results104)))
noncomputable def K104_prllrr (cal : Cal) (k : Nat) (m1 : Nat) : KC (Value × Hp × Nat) := (cutK (Lv.b (Lv.b (Lv.a (Lv.a (Lv.b (A 104)))))).c (codeE P cal (codeF P cal m1) none 104 (cR (cR (cR (cL (cL (cR code104)))))) (Lv.b (Lv.b (Lv.b (Lv.a (Lv.a (Lv.b (A 104))))))) (K104_prl cal k m1) (K104_pxr cal k) (doneK P results104)))
noncomputable def K104_pxrllrrl (cal : Cal) (k : Nat) (m1 : Nat) : XC (Value × Hp × Nat) := (upX 1 (K104_prllrr cal k m1) (K104_pxr cal k))
noncomputable def K104_prllrrll (cal : Cal) (k : Nat) (m1 : Nat) : KC (Value × Hp × Nat) := (cutK (Lv.a (Lv.a (Lv.b (Lv.b (Lv.a (Lv.a (Lv.b (A 104)))))))).c (codeE P cal (codeF P cal m1) none 104 (cR (cL (cL (cR (cR (cL (cL (cR code104)))))))) (Lv.b (Lv.a (Lv.a (Lv.b (Lv.b (Lv.a (Lv.a (Lv.b (A 104))))))))) (K104_prllrr cal k m1) (K104_pxrllrrl cal k m1) (doneK P results104)))
noncomputable def K104_prllrrllr (cal : Cal) (k : Nat) (m1 : Nat) : KC (Value × Hp × Nat) := (cutK (Lv.b (Lv.a (Lv.a (Lv.b (Lv.b (Lv.a (Lv.a (Lv.b (A 104))))))))).c (codeE P cal (codeF P cal m1) none 104 (cR (cR (cL (cL (cR (cR (cL (cL (cR code104))))))))) (Lv.b (Lv.b (Lv.a (Lv.a (Lv.b (Lv.b (Lv.a (Lv.a (Lv.b (A 104)))))))))) (K104_prllrr cal k m1) (K104_pxrllrrl cal k m1) (doneK P results104)))
noncomputable def E104_1 (cal : Cal) (k m1 : Nat) : KC (Value × Hp × Nat) := codeE P cal (codeF P cal m1) none 104 (cL (cL (cR code104))) (Lv.a (Lv.a (Lv.b (A 104)))) (K104_prl cal k m1) (K104_pxr cal k) (doneK P results104)
noncomputable def R104_1 (cal : Cal) (k m1 : Nat) : Value → Value → Value → Value → Hp → Nat → Res := fun u0 u2 u6 u7 H n => codeF P cal m1 (Lv.a (Lv.b (A 104))) none 104 (cL (cR code104)) (doneK P results104) (K104_pxr cal k) (doneK P results104) (Tr.set (Tr.set (Tr.set (Tr.set Tr.nil 7 (some u7)) 6 (some u6)) 2 (some u2)) 0 (some u0)) H n []
noncomputable def B104_1 (cal : Cal) (k m1 : Nat) (b1 : Value → Value → Value → Value → Hp → Nat → Res) (u0 u2 u6 u7 : Value) (H : Hp) (n : Nat) : Res :=
binK P Go.BinOp.lss 3 (Go.Operand.tmp 7) (Go.Operand.const (Go.Value.int Go.IntKind.i64 8)) u7 (Go.Value.int Go.IntKind.i64 8) fun v8_4 =>
ifK v8_4 (
bindO (indexV P 121 u6 u7) fun v10_6 =>
binK P Go.BinOp.neq 3 (Go.Operand.tmp 11) (Go.Operand.const (Go.Value.int Go.IntKind.i64 (-1))) v10_6 (Go.Value.int Go.IntKind.i64 (-1)) fun v12_10 =>
guardK v12_10 true (fun k_12 =>
k_12 u0 H n) H n fun v_13 H_14 n_15 =>
guardK v12_10 true (fun k_17 =>
k_17 u7 H_14 n_15) H_14 n_15 fun v_18 H_19 n_20 =>
guardK v12_10 true (fun k_22 =>
bindO (addrV u2) fun a_27 => bindO (loadV P H_19 105 a_27) fun v16_26 =>
k_22 v16_26 H_19 n_20) H_19 n_20 fun v_23 H_24 n_25 =>
guardK v12_10 true (fun k_28 =>
k_28 u7 H_24 n_25) H_24 n_25 fun v_29 H_30 n_31 =>
guardK v12_10 true (fun k_33 =>
k_33 v10_6 H_30 n_31) H_30 n_31 fun v_34 H_35 n_36 =>
guardK v12_10 true (fun k_38 =>
bindO (nilV v_23) fun v19_42 =>
k_38 v19_42 H_35 n_36) H_35 n_36 fun v_39 H_40 n_41 =>
guardK v12_10 true (fun k_43 =>
bindO (fieldAddrV P 117 v_39 2) fun v20_47 =>
k_43 v20_47 H_40 n_41) H_40 n_41 fun v_44 H_45 n_46 =>
guardK v12_10 true (fun k_48 =>
bindO (indexAddrV P 115 v_44 v_29) fun v21_52 =>
k_48 v21_52 H_45 n_46) H_45 n_46 fun v_49 H_50 n_51 =>
guardK v12_10 true (fun k_53 =>
bindO (indexAddrV P 114 v_49 v_34) fun v22_57 =>
k_53 v22_57 H_50 n_51) H_50 n_51 fun v_54 H_55 n_56 =>
guardK v12_10 true (fun k_58 =>
bindO (addrV v_54) fun a_63 => bindO (loadV P H_55 113 a_63) fun v23_62 =>
k_58 v23_62 H_55 n_56) H_55 n_56 fun v_59 H_60 n_61 =>
guardK v12_10 true (fun k_64 =>
callVK P cal v_13 [v_18, v_59] H_60 n_61 fun v24_68 H_69 n_70 =>
k_64 v24_68 H_69 n_70) H_60 n_61 fun v_65 H_66 n_67 =>
guardK v12_10 true (fun k_71 =>
bindO (pureSem P v_65 (Op.unary Go.UnOp.not v_65)) fun v25_75 =>
k_71 v25_75 H_66 n_67) H_66 n_67 fun v_72 H_73 n_74 =>
bindO (pickV v12_10 v_72 (Go.Value.bool false)) fun v26_76 =>
ifK v26_76 (
some ((Value.tuple ⟨[]⟩), H_73, n_74)) (
binK P Go.BinOp.add 3 (Go.Operand.tmp 7) (Go.Operand.const (Go.Value.int Go.IntKind.i64 1)) u7 (Go.Value.int Go.IntKind.i64 1) fun v27_77 =>
b1 u0 u2 u6 v27_77 H_73 n_74)) (
some ((Value.tuple ⟨[]⟩), H, n))
noncomputable def C104_1 (cal : Cal) (k m1 : Nat) (b1 : Value → Value → Value → Value → Hp → Nat → Res) (u0 u2 u6 u7 : Value) (H : Hp) (n : Nat) : Res := B104_1 cal k m1 b1 u0 u2 u6 u7 H n
noncomputable def S104_1 (cal : Cal) (k : Nat) : Nat → Value → Value → Value → Value → Hp → Nat → Res := fun m => Nat.rec (motive := fun _ => Value → Value → Value → Value → Hp → Nat → Res) (C104_1 cal k 0 (fun _ _ _ _ _ _ => none)) (fun m ih => C104_1 cal k (m + 1) ih) m
theorem h104_1 (cal : Cal) (k m1 : Nat) (u0 u2 u6 u7 : Value) (H : Hp) (n : Nat) : labK (E104_1 cal k m1) (Tr.set (Tr.set (Tr.set (Tr.set Tr.nil 7 (some u7)) 6 (some u6)) 2 (some u2)) 0 (some u0)) H n [] = C104_1 cal k m1 (R104_1 cal k m1) u0 u2 u6 u7 H n := by
  have h : labK (E104_1 cal k m1) (Tr.set (Tr.set (Tr.set (Tr.set Tr.nil 7 (some u7)) 6 (some u6)) 2 (some u2)) 0 (some u0)) H n [] = B104_1 cal k m1 (R104_1 cal k m1) u0 u2 u6 u7 H n := by kernel_rfl
  rw [h, C104_1]
theorem q104_1 (cal : Cal) (k : Nat) : ∀ (m : Nat) (u0 u2 u6 u7 : Value) (H : Hp) (n : Nat), labK (E104_1 cal k m) (Tr.set (Tr.set (Tr.set (Tr.set Tr.nil 7 (some u7)) 6 (some u6)) 2 (some u2)) 0 (some u0)) H n [] = S104_1 cal k m u0 u2 u6 u7 H n
  | 0, u0, u2, u6, u7, H, n => by
    rw [h104_1]
    have e : R104_1 cal k 0 = fun _ _ _ _ _ _ => none := by funext u0 u2 u6 u7 H n; kernel_rfl
    rw [e]; rfl
  | m + 1, u0, u2, u6, u7, H, n => by
    rw [h104_1]
    have e : R104_1 cal k (m + 1) = S104_1 cal k m := by
      funext u0 u2 u6 u7 H n
      have e : R104_1 cal k (m + 1) u0 u2 u6 u7 H n = labK (E104_1 cal k m) (Tr.set (Tr.set (Tr.set (Tr.set Tr.nil 7 (some u7)) 6 (some u6)) 2 (some u2)) 0 (some u0)) H n [] := by kernel_rfl
      rw [e]; exact q104_1 ..
    rw [e]; rfl
noncomputable def B104_0 (cal : Cal) (k : Nat) (j1 : Value → Value → Value → Value → Hp → Nat → Res) (v0 v1 v2 : Value) (H : Hp) (n : Nat) : Res :=
bindO (addrV v1) fun a_2 => bindO (loadV P H 121 a_2) fun v6_1 =>
j1 v0 v2 v6_1 (Go.Value.int Go.IntKind.i64 0) H n
noncomputable def C104_0 (cal : Cal) (k : Nat) (v0 v1 v2 : Value) (H : Hp) (n : Nat) : Res := B104_0 cal k (S104_1 cal k k) v0 v1 v2 H n
theorem h104_0 (cal : Cal) (k : Nat) (v0 v1 v2 : Value) (H : Hp) (n : Nat) : bodyE P cal A (k + 1) 104 [v0, v1, v2] H n = C104_0 cal k v0 v1 v2 H n := by
  have h : bodyE P cal A (k + 1) 104 [v0, v1, v2] H n = B104_0 cal k (fun u0 u2 u6 u7 H n => labK (E104_1 cal k k) (Tr.set (Tr.set (Tr.set (Tr.set Tr.nil 7 (some u7)) 6 (some u6)) 2 (some u2)) 0 (some u0)) H n []) v0 v1 v2 H n := by
    rw [body_eq (fn := Go.Proofs.Try.f104) (c := code104) (rs := results104) (by kernel_rfl) (by kernel_rfl) (by kernel_rfl) (by kernel_rfl)]
    kernel_rfl
  rw [h, C104_0]
  have e1 : (fun u0 u2 u6 u7 H n => labK (E104_1 cal k k) (Tr.set (Tr.set (Tr.set (Tr.set Tr.nil 7 (some u7)) 6 (some u6)) 2 (some u2)) 0 (some u0)) H n []) = (S104_1 cal k k) := by funext u0 u2 u6 u7 H n; exact q104_1 ..
  rw [e1]
noncomputable def code105 : Code := codeOf 105
noncomputable def results105 : List ResultVar := resOf 105
noncomputable def K105_p (cal : Cal) (k : Nat) : KC (Value × Hp × Nat) := (cutK (A 105).c (codeE P cal (codeF P cal k) none 105 (cR code105) (Lv.b (A 105)) (doneK P results105) X0 (doneK P results105)))
noncomputable def K105_pr (cal : Cal) (k : Nat) : KC (Value × Hp × Nat) := (cutK (Lv.b (A 105)).c (codeE P cal (codeF P cal k) none 105 (cR (cR code105)) (Lv.b (Lv.b (A 105))) (doneK P results105) X0 (doneK P results105)))
noncomputable def K105_prl (cal : Cal) (k : Nat) : KC (Value × Hp × Nat) := (cutK (Lv.a (Lv.b (A 105))).c (codeE P cal (codeF P cal k) none 105 (cR (cL (cR code105))) (Lv.b (Lv.a (Lv.b (A 105)))) (K105_pr cal k) X0 (doneK P results105)))
noncomputable def K105_pxrlr (cal : Cal) (k : Nat) : XC (Value × Hp × Nat) := (upX 0 (K105_pr cal k) X0)
noncomputable def K105_prlrl (cal : Cal) (k : Nat) (m1 : Nat) : KC (Value × Hp × Nat) := (fun T H n D => codeF P cal m1 (Lv.a (Lv.b (Lv.a (Lv.b (A 105))))) none 105 (cL (cR (cL (cR code105)))) (K105_pr cal k) (K105_pxrlr cal k) (doneK P results105) (cutT (Lv.a (Lv.b (Lv.a (Lv.b (A 105))))).c T) H n D)
noncomputable def K105_prlrll (cal : Cal) (k : Nat) (m1 : Nat) : KC (Value × Hp × Nat) := (cutK (Lv.a (Lv.a (Lv.b (Lv.a (Lv.b (A 105)))))).c (codeE P cal (codeF P cal m1) none 105 (cR (cL (cL (cR (cL (cR code105)))))) (Lv.b (Lv.a (Lv.a (Lv.b (Lv.a (Lv.b (A 105))))))) (K105_prlrl cal k m1) (K105_pxrlr cal k) (doneK P results105)))
noncomputable def K105_prlrllr (cal : Cal) (k : Nat) (m1 : Nat) : KC (Value × Hp × Nat) := (cutK (Lv.b (Lv.a (Lv.a (Lv.b (Lv.a (Lv.b (A 105))))))).c (codeE P cal (codeF P cal m1) none 105 (cR (cR (cL (cL (cR (cL (cR code105))))))) (Lv.b (Lv.b (Lv.a (Lv.a (Lv.b (Lv.a (Lv.b (A 105)))))))) (K105_prlrl cal k m1) (K105_pxrlr cal k) (doneK P results105)))
noncomputable def K105_prlrllrr (cal : Cal) (k : Nat) (m1 : Nat) : KC (Value × Hp × Nat) := (cutK (Lv.b (Lv.b (Lv.a (Lv.a (Lv.b (Lv.a (Lv.b (A 105)))))))).c (codeE P cal (codeF P cal m1) none 105 (cR (cR (cR (cL (cL (cR (cL (cR code105)))))))) (Lv.b (Lv.b (Lv.b (Lv.a (Lv.a (Lv.b (Lv.a (Lv.b (A 105))))))))) (K105_prlrl cal k m1) (K105_pxrlr cal k) (doneK P results105)))
noncomputable def K105_pxrlrllrrl (cal : Cal) (k : Nat) (m1 : Nat) : XC (Value × Hp × Nat) := (upX 1 (K105_prlrllrr cal k m1) (K105_pxrlr cal k))
noncomputable def K105_prlrllrrll (cal : Cal) (k : Nat) (m1 : Nat) : KC (Value × Hp × Nat) := (cutK (Lv.a (Lv.a (Lv.b (Lv.b (Lv.a (Lv.a (Lv.b (Lv.a (Lv.b (A 105)))))))))).c (codeE P cal (codeF P cal m1) none 105 (cR (cL (cL (cR (cR (cL (cL (cR (cL (cR code105)))))))))) (Lv.b (Lv.a (Lv.a (Lv.b (Lv.b (Lv.a (Lv.a (Lv.b (Lv.a (Lv.b (A 105))))))))))) (K105_prlrllrr cal k m1) (K105_pxrlrllrrl cal k m1) (doneK P results105)))
noncomputable def K105_prr (cal : Cal) (k : Nat) : KC (Value × Hp × Nat) := (cutK (Lv.b (Lv.b (A 105))).c (codeE P cal (codeF P cal k) none 105 (cR (cR (cR code105))) (Lv.b (Lv.b (Lv.b (A 105)))) (doneK P results105) X0 (doneK P results105)))
noncomputable def E105_1 (cal : Cal) (k m1 : Nat) : KC (Value × Hp × Nat) := codeE P cal (codeF P cal m1) none 105 (cL (cL (cR (cL (cR code105))))) (Lv.a (Lv.a (Lv.b (Lv.a (Lv.b (A 105)))))) (K105_prlrl cal k m1) (K105_pxrlr cal k) (doneK P results105)
noncomputable def R105_1 (cal : Cal) (k m1 : Nat) : Value → Value → Value → Value → Hp → Nat → Res := fun u0 u7 u8 u9 H n => codeF P cal m1 (Lv.a (Lv.b (Lv.a (Lv.b (A 105))))) none 105 (cL (cR (cL (cR code105)))) (K105_pr cal k) (K105_pxrlr cal k) (doneK P results105) (Tr.set (Tr.set (Tr.set (Tr.set Tr.nil 9 (some u9)) 8 (some u8)) 7 (some u7)) 0 (some u0)) H n []
noncomputable def B105_1 (cal : Cal) (k m1 : Nat) (b1 : Value → Value → Value → Value → Hp → Nat → Res) (u0 u7 u8 u9 : Value) (H : Hp) (n : Nat) : Res :=
binK P Go.BinOp.lss 3 (Go.Operand.tmp 9) (Go.Operand.tmp 8) u9 u8 fun v10_5 =>
ifK v10_5 (
bindO (indexAddrV P 44 u7 u9) fun v11_6 =>
bindO (addrV v11_6) fun a_8 => bindO (loadV P H 3 a_8) fun v12_7 =>
builtinK P .min [3, 3] (Go.Call.mk (Go.Callee.builtin Go.Builtin.min) #[(Go.Operand.tmp 13), (Go.Operand.tmp 14)] #[3, 3]) 3 [u0, v12_7] H n fun v15_12 H_13 n_14 =>
binK P Go.BinOp.add 3 (Go.Operand.tmp 9) (Go.Operand.const (Go.Value.int Go.IntKind.i64 1)) u9 (Go.Value.int Go.IntKind.i64 1) fun v16_16 =>
b1 v15_12 u7 u8 v16_16 H_13 n_14) (
some (u0, H, n))
noncomputable def C105_1 (cal : Cal) (k m1 : Nat) (b1 : Value → Value → Value → Value → Hp → Nat → Res) (u0 u7 u8 u9 : Value) (H : Hp) (n : Nat) : Res := B105_1 cal k m1 b1 u0 u7 u8 u9 H n
noncomputable def S105_1 (cal : Cal) (k : Nat) : Nat → Value → Value → Value → Value → Hp → Nat → Res := fun m => Nat.rec (motive := fun _ => Value → Value → Value → Value → Hp → Nat → Res) (C105_1 cal k 0 (fun _ _ _ _ _ _ => none)) (fun m ih => C105_1 cal k (m + 1) ih) m
theorem h105_1 (cal : Cal) (k m1 : Nat) (u0 u7 u8 u9 : Value) (H : Hp) (n : Nat) : labK (E105_1 cal k m1) (Tr.set (Tr.set (Tr.set (Tr.set Tr.nil 9 (some u9)) 8 (some u8)) 7 (some u7)) 0 (some u0)) H n [] = C105_1 cal k m1 (R105_1 cal k m1) u0 u7 u8 u9 H n := by
  have h : labK (E105_1 cal k m1) (Tr.set (Tr.set (Tr.set (Tr.set Tr.nil 9 (some u9)) 8 (some u8)) 7 (some u7)) 0 (some u0)) H n [] = B105_1 cal k m1 (R105_1 cal k m1) u0 u7 u8 u9 H n := by kernel_rfl
  rw [h, C105_1]
theorem q105_1 (cal : Cal) (k : Nat) : ∀ (m : Nat) (u0 u7 u8 u9 : Value) (H : Hp) (n : Nat), labK (E105_1 cal k m) (Tr.set (Tr.set (Tr.set (Tr.set Tr.nil 9 (some u9)) 8 (some u8)) 7 (some u7)) 0 (some u0)) H n [] = S105_1 cal k m u0 u7 u8 u9 H n
  | 0, u0, u7, u8, u9, H, n => by
    rw [h105_1]
    have e : R105_1 cal k 0 = fun _ _ _ _ _ _ => none := by funext u0 u7 u8 u9 H n; kernel_rfl
    rw [e]; rfl
  | m + 1, u0, u7, u8, u9, H, n => by
    rw [h105_1]
    have e : R105_1 cal k (m + 1) = S105_1 cal k m := by
      funext u0 u7 u8 u9 H n
      have e : R105_1 cal k (m + 1) u0 u7 u8 u9 H n = labK (E105_1 cal k m) (Tr.set (Tr.set (Tr.set (Tr.set Tr.nil 9 (some u9)) 8 (some u8)) 7 (some u7)) 0 (some u0)) H n [] := by kernel_rfl
      rw [e]; exact q105_1 ..
    rw [e]; rfl
noncomputable def B105_0 (cal : Cal) (k : Nat) (j1 : Value → Value → Value → Value → Hp → Nat → Res) (v0 v1 : Value) (H : Hp) (n : Nat) : Res :=
bindO (lenV P 44 v1) fun v8_3 =>
j1 v0 v1 v8_3 (Go.Value.int Go.IntKind.i64 0) H n
noncomputable def C105_0 (cal : Cal) (k : Nat) (v0 v1 : Value) (H : Hp) (n : Nat) : Res := B105_0 cal k (S105_1 cal k k) v0 v1 H n
theorem h105_0 (cal : Cal) (k : Nat) (v0 v1 : Value) (H : Hp) (n : Nat) : bodyE P cal A (k + 1) 105 [v0, v1] H n = C105_0 cal k v0 v1 H n := by
  have h : bodyE P cal A (k + 1) 105 [v0, v1] H n = B105_0 cal k (fun u0 u7 u8 u9 H n => labK (E105_1 cal k k) (Tr.set (Tr.set (Tr.set (Tr.set Tr.nil 9 (some u9)) 8 (some u8)) 7 (some u7)) 0 (some u0)) H n []) v0 v1 H n := by
    rw [body_eq (fn := Go.Proofs.Try.f105) (c := code105) (rs := results105) (by kernel_rfl) (by kernel_rfl) (by kernel_rfl) (by kernel_rfl)]
    kernel_rfl
  rw [h, C105_0]
  have e1 : (fun u0 u7 u8 u9 H n => labK (E105_1 cal k k) (Tr.set (Tr.set (Tr.set (Tr.set Tr.nil 9 (some u9)) 8 (some u8)) 7 (some u7)) 0 (some u0)) H n []) = (S105_1 cal k k) := by funext u0 u7 u8 u9 H n; exact q105_1 ..
  rw [e1]
noncomputable def code106 : Code := codeOf 106
noncomputable def results106 : List ResultVar := resOf 106
noncomputable def K106_p (cal : Cal) (k : Nat) : KC (Value × Hp × Nat) := (cutK (A 106).c (codeE P cal (codeF P cal k) none 106 (cR code106) (Lv.b (A 106)) (doneK P results106) X0 (doneK P results106)))
noncomputable def K106_pr (cal : Cal) (k : Nat) : KC (Value × Hp × Nat) := (cutK (Lv.b (A 106)).c (codeE P cal (codeF P cal k) none 106 (cR (cR code106)) (Lv.b (Lv.b (A 106))) (doneK P results106) X0 (doneK P results106)))
noncomputable def K106_prl (cal : Cal) (k : Nat) : KC (Value × Hp × Nat) := (cutK (Lv.a (Lv.b (A 106))).c (codeE P cal (codeF P cal k) none 106 (cR (cL (cR code106))) (Lv.b (Lv.a (Lv.b (A 106)))) (K106_pr cal k) X0 (doneK P results106)))
noncomputable def K106_pxrlr (cal : Cal) (k : Nat) : XC (Value × Hp × Nat) := (upX 0 (K106_pr cal k) X0)
noncomputable def K106_prlrl (cal : Cal) (k : Nat) (m1 : Nat) : KC (Value × Hp × Nat) := (fun T H n D => codeF P cal m1 (Lv.a (Lv.b (Lv.a (Lv.b (A 106))))) none 106 (cL (cR (cL (cR code106)))) (K106_pr cal k) (K106_pxrlr cal k) (doneK P results106) (cutT (Lv.a (Lv.b (Lv.a (Lv.b (A 106))))).c T) H n D)
noncomputable def K106_prlrll (cal : Cal) (k : Nat) (m1 : Nat) : KC (Value × Hp × Nat) := (cutK (Lv.a (Lv.a (Lv.b (Lv.a (Lv.b (A 106)))))).c (codeE P cal (codeF P cal m1) none 106 (cR (cL (cL (cR (cL (cR code106)))))) (Lv.b (Lv.a (Lv.a (Lv.b (Lv.a (Lv.b (A 106))))))) (K106_prlrl cal k m1) (K106_pxrlr cal k) (doneK P results106)))
noncomputable def K106_prlrllr (cal : Cal) (k : Nat) (m1 : Nat) : KC (Value × Hp × Nat) := (cutK (Lv.b (Lv.a (Lv.a (Lv.b (Lv.a (Lv.b (A 106))))))).c (codeE P cal (codeF P cal m1) none 106 (cR (cR (cL (cL (cR (cL (cR code106))))))) (Lv.b (Lv.b (Lv.a (Lv.a (Lv.b (Lv.a (Lv.b (A 106)))))))) (K106_prlrl cal k m1) (K106_pxrlr cal k) (doneK P results106)))
noncomputable def K106_prlrllrr (cal : Cal) (k : Nat) (m1 : Nat) : KC (Value × Hp × Nat) := (cutK (Lv.b (Lv.b (Lv.a (Lv.a (Lv.b (Lv.a (Lv.b (A 106)))))))).c (codeE P cal (codeF P cal m1) none 106 (cR (cR (cR (cL (cL (cR (cL (cR code106)))))))) (Lv.b (Lv.b (Lv.b (Lv.a (Lv.a (Lv.b (Lv.a (Lv.b (A 106))))))))) (K106_prlrl cal k m1) (K106_pxrlr cal k) (doneK P results106)))
noncomputable def K106_pxrlrllrrl (cal : Cal) (k : Nat) (m1 : Nat) : XC (Value × Hp × Nat) := (upX 1 (K106_prlrllrr cal k m1) (K106_pxrlr cal k))
noncomputable def K106_prlrllrrll (cal : Cal) (k : Nat) (m1 : Nat) : KC (Value × Hp × Nat) := (cutK (Lv.a (Lv.a (Lv.b (Lv.b (Lv.a (Lv.a (Lv.b (Lv.a (Lv.b (A 106)))))))))).c (codeE P cal (codeF P cal m1) none 106 (cR (cL (cL (cR (cR (cL (cL (cR (cL (cR code106)))))))))) (Lv.b (Lv.a (Lv.a (Lv.b (Lv.b (Lv.a (Lv.a (Lv.b (Lv.a (Lv.b (A 106))))))))))) (K106_prlrllrr cal k m1) (K106_pxrlrllrrl cal k m1) (doneK P results106)))
noncomputable def K106_prr (cal : Cal) (k : Nat) : KC (Value × Hp × Nat) := (cutK (Lv.b (Lv.b (A 106))).c (codeE P cal (codeF P cal k) none 106 (cR (cR (cR code106))) (Lv.b (Lv.b (Lv.b (A 106)))) (doneK P results106) X0 (doneK P results106)))
noncomputable def E106_1 (cal : Cal) (k m1 : Nat) : KC (Value × Hp × Nat) := codeE P cal (codeF P cal m1) none 106 (cL (cL (cR (cL (cR code106))))) (Lv.a (Lv.a (Lv.b (Lv.a (Lv.b (A 106)))))) (K106_prlrl cal k m1) (K106_pxrlr cal k) (doneK P results106)
noncomputable def R106_1 (cal : Cal) (k m1 : Nat) : Value → Value → Value → Value → Hp → Nat → Res := fun u0 u7 u8 u9 H n => codeF P cal m1 (Lv.a (Lv.b (Lv.a (Lv.b (A 106))))) none 106 (cL (cR (cL (cR code106)))) (K106_pr cal k) (K106_pxrlr cal k) (doneK P results106) (Tr.set (Tr.set (Tr.set (Tr.set Tr.nil 9 (some u9)) 8 (some u8)) 7 (some u7)) 0 (some u0)) H n []
noncomputable def B106_1 (cal : Cal) (k m1 : Nat) (b1 : Value → Value → Value → Value → Hp → Nat → Res) (u0 u7 u8 u9 : Value) (H : Hp) (n : Nat) : Res :=
binK P Go.BinOp.lss 3 (Go.Operand.tmp 9) (Go.Operand.tmp 8) u9 u8 fun v10_5 =>
ifK v10_5 (
bindO (indexAddrV P 44 u7 u9) fun v11_6 =>
bindO (addrV v11_6) fun a_8 => bindO (loadV P H 3 a_8) fun v12_7 =>
builtinK P .max [3, 3] (Go.Call.mk (Go.Callee.builtin Go.Builtin.max) #[(Go.Operand.tmp 13), (Go.Operand.tmp 14)] #[3, 3]) 3 [u0, v12_7] H n fun v15_12 H_13 n_14 =>
binK P Go.BinOp.add 3 (Go.Operand.tmp 9) (Go.Operand.const (Go.Value.int Go.IntKind.i64 1)) u9 (Go.Value.int Go.IntKind.i64 1) fun v16_16 =>
b1 v15_12 u7 u8 v16_16 H_13 n_14) (
some (u0, H, n))
noncomputable def C106_1 (cal : Cal) (k m1 : Nat) (b1 : Value → Value → Value → Value → Hp → Nat → Res) (u0 u7 u8 u9 : Value) (H : Hp) (n : Nat) : Res := B106_1 cal k m1 b1 u0 u7 u8 u9 H n
noncomputable def S106_1 (cal : Cal) (k : Nat) : Nat → Value → Value → Value → Value → Hp → Nat → Res := fun m => Nat.rec (motive := fun _ => Value → Value → Value → Value → Hp → Nat → Res) (C106_1 cal k 0 (fun _ _ _ _ _ _ => none)) (fun m ih => C106_1 cal k (m + 1) ih) m
theorem h106_1 (cal : Cal) (k m1 : Nat) (u0 u7 u8 u9 : Value) (H : Hp) (n : Nat) : labK (E106_1 cal k m1) (Tr.set (Tr.set (Tr.set (Tr.set Tr.nil 9 (some u9)) 8 (some u8)) 7 (some u7)) 0 (some u0)) H n [] = C106_1 cal k m1 (R106_1 cal k m1) u0 u7 u8 u9 H n := by
  have h : labK (E106_1 cal k m1) (Tr.set (Tr.set (Tr.set (Tr.set Tr.nil 9 (some u9)) 8 (some u8)) 7 (some u7)) 0 (some u0)) H n [] = B106_1 cal k m1 (R106_1 cal k m1) u0 u7 u8 u9 H n := by kernel_rfl
  rw [h, C106_1]
theorem q106_1 (cal : Cal) (k : Nat) : ∀ (m : Nat) (u0 u7 u8 u9 : Value) (H : Hp) (n : Nat), labK (E106_1 cal k m) (Tr.set (Tr.set (Tr.set (Tr.set Tr.nil 9 (some u9)) 8 (some u8)) 7 (some u7)) 0 (some u0)) H n [] = S106_1 cal k m u0 u7 u8 u9 H n
  | 0, u0, u7, u8, u9, H, n => by
    rw [h106_1]
    have e : R106_1 cal k 0 = fun _ _ _ _ _ _ => none := by funext u0 u7 u8 u9 H n; kernel_rfl
    rw [e]; rfl
  | m + 1, u0, u7, u8, u9, H, n => by
    rw [h106_1]
    have e : R106_1 cal k (m + 1) = S106_1 cal k m := by
      funext u0 u7 u8 u9 H n
      have e : R106_1 cal k (m + 1) u0 u7 u8 u9 H n = labK (E106_1 cal k m) (Tr.set (Tr.set (Tr.set (Tr.set Tr.nil 9 (some u9)) 8 (some u8)) 7 (some u7)) 0 (some u0)) H n [] := by kernel_rfl
      rw [e]; exact q106_1 ..
    rw [e]; rfl
noncomputable def B106_0 (cal : Cal) (k : Nat) (j1 : Value → Value → Value → Value → Hp → Nat → Res) (v0 v1 : Value) (H : Hp) (n : Nat) : Res :=
bindO (lenV P 44 v1) fun v8_3 =>
j1 v0 v1 v8_3 (Go.Value.int Go.IntKind.i64 0) H n
noncomputable def C106_0 (cal : Cal) (k : Nat) (v0 v1 : Value) (H : Hp) (n : Nat) : Res := B106_0 cal k (S106_1 cal k k) v0 v1 H n
theorem h106_0 (cal : Cal) (k : Nat) (v0 v1 : Value) (H : Hp) (n : Nat) : bodyE P cal A (k + 1) 106 [v0, v1] H n = C106_0 cal k v0 v1 H n := by
  have h : bodyE P cal A (k + 1) 106 [v0, v1] H n = B106_0 cal k (fun u0 u7 u8 u9 H n => labK (E106_1 cal k k) (Tr.set (Tr.set (Tr.set (Tr.set Tr.nil 9 (some u9)) 8 (some u8)) 7 (some u7)) 0 (some u0)) H n []) v0 v1 H n := by
    rw [body_eq (fn := Go.Proofs.Try.f106) (c := code106) (rs := results106) (by kernel_rfl) (by kernel_rfl) (by kernel_rfl) (by kernel_rfl)]
    kernel_rfl
  rw [h, C106_0]
  have e1 : (fun u0 u7 u8 u9 H n => labK (E106_1 cal k k) (Tr.set (Tr.set (Tr.set (Tr.set Tr.nil 9 (some u9)) 8 (some u8)) 7 (some u7)) 0 (some u0)) H n []) = (S106_1 cal k k) := by funext u0 u7 u8 u9 H n; exact q106_1 ..
  rw [e1]
noncomputable def code107 : Code := codeOf 107
noncomputable def results107 : List ResultVar := resOf 107
noncomputable def K107_p (cal : Cal) (k : Nat) : KC (Value × Hp × Nat) := (cutK (A 107).c (codeE P cal (codeF P cal k) none 107 (cR code107) (Lv.b (A 107)) (doneK P results107) X0 (doneK P results107)))
noncomputable def K107_pr (cal : Cal) (k : Nat) : KC (Value × Hp × Nat) := (cutK (Lv.b (A 107)).c (codeE P cal (codeF P cal k) none 107 (cR (cR code107)) (Lv.b (Lv.b (A 107))) (doneK P results107) X0 (doneK P results107)))
noncomputable def K107_pxrr (cal : Cal) (k : Nat) : XC (Value × Hp × Nat) := (upX 0 (doneK P results107) X0)
noncomputable def K107_prrl (cal : Cal) (k : Nat) (m1 : Nat) : KC (Value × Hp × Nat) := (fun T H n D => codeF P cal m1 (Lv.a (Lv.b (Lv.b (A 107)))) none 107 (cL (cR (cR code107))) (doneK P results107) (K107_pxrr cal k) (doneK P results107) (cutT (Lv.a (Lv.b (Lv.b (A 107)))).c T) H n D)
noncomputable def K107_pxrrll (cal : Cal) (k : Nat) (m1 : Nat) : XC (Value × Hp × Nat) := (upX 1 (K107_prrl cal k m1) (K107_pxrr cal k))
noncomputable def K107_prrlll (cal : Cal) (k : Nat) (m1 : Nat) : KC (Value × Hp × Nat) := (cutK (Lv.a (Lv.a (Lv.a (Lv.b (Lv.b (A 107)))))).c (codeE P cal (codeF P cal m1) none 107 (cR (cL (cL (cL (cR (cR code107)))))) (Lv.b (Lv.a (Lv.a (Lv.a (Lv.b (Lv.b (A 107))))))) (K107_prrl cal k m1) (K107_pxrrll cal k m1) (doneK P results107)))
noncomputable def K107_prrlllr (cal : Cal) (k : Nat) (m1 : Nat) : KC (Value × Hp × Nat) := (cutK (Lv.b (Lv.a (Lv.a (Lv.a (Lv.b (Lv.b (A 107))))))).c (codeE P cal (codeF P cal m1) none 107 (cR (cR (cL (cL (cL (cR (cR code107))))))) (Lv.b (Lv.b (Lv.a (Lv.a (Lv.a (Lv.b (Lv.b (A 107)))))))) (K107_prrl cal k m1) (K107_pxrrll cal k m1) (doneK P results107)))
noncomputable def K107_prrlllrl (cal : Cal) (k : Nat) (m1 : Nat) : KC (Value × Hp × Nat) := (cutK (Lv.a (Lv.b (Lv.a (Lv.a (Lv.a (Lv.b (Lv.b (A 107)))))))).c (codeE P cal (codeF P cal m1) none 107 (cR (cL (cR (cL (cL (cL (cR (cR code107)))))))) (Lv.b (Lv.a (Lv.b (Lv.a (Lv.a (Lv.a (Lv.b (Lv.b (A 107))))))))) (K107_prrlllr cal k m1) (K107_pxrrll cal k m1) (doneK P results107)))
noncomputable def K107_prrlllrlrl (cal : Cal) (k : Nat) (m1 : Nat) : KC (Value × Hp × Nat) := (cutK (Lv.a (Lv.b (Lv.a (Lv.b (Lv.a (Lv.a (Lv.a (Lv.b (Lv.b (A 107)))))))))).c (codeE P cal (codeF P cal m1) none 107 (cR (cL (cR (cL (cR (cL (cL (cL (cR (cR code107)))))))))) (Lv.b (Lv.a (Lv.b (Lv.a (Lv.b (Lv.a (Lv.a (Lv.a (Lv.b (Lv.b (A 107))))))))))) (K107_prrlllr cal k m1) (K107_pxrrll cal k m1) (doneK P results107)))
noncomputable def E107_1 (cal : Cal) (k m1 : Nat) : KC (Value × Hp × Nat) := codeE P cal (codeF P cal m1) none 107 (cL (cL (cR (cR code107)))) (Lv.a (Lv.a (Lv.b (Lv.b (A 107))))) (K107_prrl cal k m1) (K107_pxrr cal k) (doneK P results107)
noncomputable def R107_1 (cal : Cal) (k m1 : Nat) : Value → Value → Hp → Nat → Res := fun u0 u3 H n => codeF P cal m1 (Lv.a (Lv.b (Lv.b (A 107)))) none 107 (cL (cR (cR code107))) (doneK P results107) (K107_pxrr cal k) (doneK P results107) (Tr.set (Tr.set Tr.nil 3 (some u3)) 0 (some u0)) H n []
noncomputable def B107_1 (cal : Cal) (k m1 : Nat) (b1 : Value → Value → Hp → Nat → Res) (u0 u3 : Value) (H : Hp) (n : Nat) : Res :=
callFK P cal 116 [u0] H n fun v6_4 H_5 n_6 =>
binK P Go.BinOp.eql 3 (Go.Operand.tmp 7) (Go.Operand.const (Go.Value.int Go.IntKind.i64 0)) v6_4 (Go.Value.int Go.IntKind.i64 0) fun v8_9 =>
ifK v8_9 (
some (u3, H_5, n_6)) (
binK P Go.BinOp.add 3 (Go.Operand.tmp 10) (Go.Operand.tmp 11) u3 v6_4 fun v12_14 =>
b1 u0 v12_14 H_5 n_6)
noncomputable def C107_1 (cal : Cal) (k m1 : Nat) (b1 : Value → Value → Hp → Nat → Res) (u0 u3 : Value) (H : Hp) (n : Nat) : Res := B107_1 cal k m1 b1 u0 u3 H n
noncomputable def S107_1 (cal : Cal) (k : Nat) : Nat → Value → Value → Hp → Nat → Res := fun m => Nat.rec (motive := fun _ => Value → Value → Hp → Nat → Res) (C107_1 cal k 0 (fun _ _ _ _ => none)) (fun m ih => C107_1 cal k (m + 1) ih) m
theorem h107_1 (cal : Cal) (k m1 : Nat) (u0 u3 : Value) (H : Hp) (n : Nat) : labK (E107_1 cal k m1) (Tr.set (Tr.set Tr.nil 3 (some u3)) 0 (some u0)) H n [] = C107_1 cal k m1 (R107_1 cal k m1) u0 u3 H n := by
  have h : labK (E107_1 cal k m1) (Tr.set (Tr.set Tr.nil 3 (some u3)) 0 (some u0)) H n [] = B107_1 cal k m1 (R107_1 cal k m1) u0 u3 H n := by kernel_rfl
  rw [h, C107_1]
theorem q107_1 (cal : Cal) (k : Nat) : ∀ (m : Nat) (u0 u3 : Value) (H : Hp) (n : Nat), labK (E107_1 cal k m) (Tr.set (Tr.set Tr.nil 3 (some u3)) 0 (some u0)) H n [] = S107_1 cal k m u0 u3 H n
  | 0, u0, u3, H, n => by
    rw [h107_1]
    have e : R107_1 cal k 0 = fun _ _ _ _ => none := by funext u0 u3 H n; kernel_rfl
    rw [e]; rfl
  | m + 1, u0, u3, H, n => by
    rw [h107_1]
    have e : R107_1 cal k (m + 1) = S107_1 cal k m := by
      funext u0 u3 H n
      have e : R107_1 cal k (m + 1) u0 u3 H n = labK (E107_1 cal k m) (Tr.set (Tr.set Tr.nil 3 (some u3)) 0 (some u0)) H n [] := by kernel_rfl
      rw [e]; exact q107_1 ..
    rw [e]; rfl
noncomputable def B107_0 (cal : Cal) (k : Nat) (j1 : Value → Value → Hp → Nat → Res) (v0 : Value) (H : Hp) (n : Nat) : Res :=
j1 v0 (Go.Value.int Go.IntKind.i64 0) H n
noncomputable def C107_0 (cal : Cal) (k : Nat) (v0 : Value) (H : Hp) (n : Nat) : Res := B107_0 cal k (S107_1 cal k k) v0 H n
theorem h107_0 (cal : Cal) (k : Nat) (v0 : Value) (H : Hp) (n : Nat) : bodyE P cal A (k + 1) 107 [v0] H n = C107_0 cal k v0 H n := by
  have h : bodyE P cal A (k + 1) 107 [v0] H n = B107_0 cal k (fun u0 u3 H n => labK (E107_1 cal k k) (Tr.set (Tr.set Tr.nil 3 (some u3)) 0 (some u0)) H n []) v0 H n := by
    rw [body_eq (fn := Go.Proofs.Try.f107) (c := code107) (rs := results107) (by kernel_rfl) (by kernel_rfl) (by kernel_rfl) (by kernel_rfl)]
    kernel_rfl
  rw [h, C107_0]
  have e1 : (fun u0 u3 H n => labK (E107_1 cal k k) (Tr.set (Tr.set Tr.nil 3 (some u3)) 0 (some u0)) H n []) = (S107_1 cal k k) := by funext u0 u3 H n; exact q107_1 ..
  rw [e1]
noncomputable def code109 : Code := codeOf 109
noncomputable def results109 : List ResultVar := resOf 109
noncomputable def K109_p (cal : Cal) (k : Nat) : KC (Value × Hp × Nat) := (cutK (A 109).c (codeE P cal (codeF P cal k) none 109 (cR code109) (Lv.b (A 109)) (doneK P results109) X0 (doneK P results109)))
noncomputable def K109_pr (cal : Cal) (k : Nat) : KC (Value × Hp × Nat) := (cutK (Lv.b (A 109)).c (codeE P cal (codeF P cal k) none 109 (cR (cR code109)) (Lv.b (Lv.b (A 109))) (doneK P results109) X0 (doneK P results109)))
noncomputable def K109_prl (cal : Cal) (k : Nat) : KC (Value × Hp × Nat) := (cutK (Lv.a (Lv.b (A 109))).c (codeE P cal (codeF P cal k) none 109 (cR (cL (cR code109))) (Lv.b (Lv.a (Lv.b (A 109)))) (K109_pr cal k) X0 (doneK P results109)))
noncomputable def K109_prlrl (cal : Cal) (k : Nat) : KC (Value × Hp × Nat) := (cutK (Lv.a (Lv.b (Lv.a (Lv.b (A 109))))).c (codeE P cal (codeF P cal k) none 109 (cR (cL (cR (cL (cR code109))))) (Lv.b (Lv.a (Lv.b (Lv.a (Lv.b (A 109)))))) (K109_pr cal k) X0 (doneK P results109)))
noncomputable def K109_prr (cal : Cal) (k : Nat) : KC (Value × Hp × Nat) := (cutK (Lv.b (Lv.b (A 109))).c (codeE P cal (codeF P cal k) none 109 (cR (cR (cR code109))) (Lv.b (Lv.b (Lv.b (A 109)))) (doneK P results109) X0 (doneK P results109)))
noncomputable def K109_prrr (cal : Cal) (k : Nat) : KC (Value × Hp × Nat) := (cutK (Lv.b (Lv.b (Lv.b (A 109)))).c (codeE P cal (codeF P cal k) none 109 (cR (cR (cR (cR code109)))) (Lv.b (Lv.b (Lv.b (Lv.b (A 109))))) (doneK P results109) X0 (doneK P results109)))
noncomputable def K109_prrrl (cal : Cal) (k : Nat) : KC (Value × Hp × Nat) := (cutK (Lv.a (Lv.b (Lv.b (Lv.b (A 109))))).c (codeE P cal (codeF P cal k) none 109 (cR (cL (cR (cR (cR code109))))) (Lv.b (Lv.a (Lv.b (Lv.b (Lv.b (A 109)))))) (K109_prrr cal k) X0 (doneK P results109)))
noncomputable def K109_pxrrrlr (cal : Cal) (k : Nat) : XC (Value × Hp × Nat) := (upX 0 (K109_prrr cal k) X0)
noncomputable def K109_prrrlrl (cal : Cal) (k : Nat) (m1 : Nat) : KC (Value × Hp × Nat) := (fun T H n D => codeF P cal m1 (Lv.a (Lv.b (Lv.a (Lv.b (Lv.b (Lv.b (A 109))))))) none 109 (cL (cR (cL (cR (cR (cR code109)))))) (K109_prrr cal k) (K109_pxrrrlr cal k) (doneK P results109) (cutT (Lv.a (Lv.b (Lv.a (Lv.b (Lv.b (Lv.b (A 109))))))).c T) H n D)
noncomputable def K109_prrrlrll (cal : Cal) (k : Nat) (m1 : Nat) : KC (Value × Hp × Nat) := (cutK (Lv.a (Lv.a (Lv.b (Lv.a (Lv.b (Lv.b (Lv.b (A 109)))))))).c (codeE P cal (codeF P cal m1) none 109 (cR (cL (cL (cR (cL (cR (cR (cR code109)))))))) (Lv.b (Lv.a (Lv.a (Lv.b (Lv.a (Lv.b (Lv.b (Lv.b (A 109))))))))) (K109_prrrlrl cal k m1) (K109_pxrrrlr cal k) (doneK P results109)))
noncomputable def K109_prrrlrllr (cal : Cal) (k : Nat) (m1 : Nat) : KC (Value × Hp × Nat) := (cutK (Lv.b (Lv.a (Lv.a (Lv.b (Lv.a (Lv.b (Lv.b (Lv.b (A 109))))))))).c (codeE P cal (codeF P cal m1) none 109 (cR (cR (cL (cL (cR (cL (cR (cR (cR code109))))))))) (Lv.b (Lv.b (Lv.a (Lv.a (Lv.b (Lv.a (Lv.b (Lv.b (Lv.b (A 109)))))))))) (K109_prrrlrl cal k m1) (K109_pxrrrlr cal k) (doneK P results109)))
noncomputable def K109_prrrlrllrr (cal : Cal) (k : Nat) (m1 : Nat) : KC (Value × Hp × Nat) := (cutK (Lv.b (Lv.b (Lv.a (Lv.a (Lv.b (Lv.a (Lv.b (Lv.b (Lv.b (A 109)))))))))).c (codeE P cal (codeF P cal m1) none 109 (cR (cR (cR (cL (cL (cR (cL (cR (cR (cR code109)))))))))) (Lv.b (Lv.b (Lv.b (Lv.a (Lv.a (Lv.b (Lv.a (Lv.b (Lv.b (Lv.b (A 109))))))))))) (K109_prrrlrl cal k m1) (K109_pxrrrlr cal k) (doneK P results109)))
noncomputable def K109_pxrrrlrllrrl (cal : Cal) (k : Nat) (m1 : Nat) : XC (Value × Hp × Nat) := (upX 1 (K109_prrrlrllrr cal k m1) (K109_pxrrrlr cal k))
noncomputable def K109_prrrlrllrrll (cal : Cal) (k : Nat) (m1 : Nat) : KC (Value × Hp × Nat) := (cutK (Lv.a (Lv.a (Lv.b (Lv.b (Lv.a (Lv.a (Lv.b (Lv.a (Lv.b (Lv.b (Lv.b (A 109)))))))))))).c (codeE P cal (codeF P cal m1) none 109 (cR (cL (cL (cR (cR (cL (cL (cR (cL (cR (cR (cR code109)))))))))))) (Lv.b (Lv.a (Lv.a (Lv.b (Lv.b (Lv.a (Lv.a (Lv.b (Lv.a (Lv.b (Lv.b (Lv.b (A 109))))))))))))) (K109_prrrlrllrr cal k m1) (K109_pxrrrlrllrrl cal k m1) (doneK P results109)))
noncomputable def K109_prrrlrllrrllr (cal : Cal) (k : Nat) (m1 : Nat) : KC (Value × Hp × Nat) := (cutK (Lv.b (Lv.a (Lv.a (Lv.b (Lv.b (Lv.a (Lv.a (Lv.b (Lv.a (Lv.b (Lv.b (Lv.b (A 109))))))))))))).c (codeE P cal (codeF P cal m1) none 109 (cR (cR (cL (cL (cR (cR (cL (cL (cR (cL (cR (cR (cR code109))))))))))))) (Lv.b (Lv.b (Lv.a (Lv.a (Lv.b (Lv.b (Lv.a (Lv.a (Lv.b (Lv.a (Lv.b (Lv.b (Lv.b (A 109)))))))))))))) (K109_prrrlrllrr cal k m1) (K109_pxrrrlrllrrl cal k m1) (doneK P results109)))
noncomputable def K109_prrrlrllrrllrl (cal : Cal) (k : Nat) (m1 : Nat) : KC (Value × Hp × Nat) := (cutK (Lv.a (Lv.b (Lv.a (Lv.a (Lv.b (Lv.b (Lv.a (Lv.a (Lv.b (Lv.a (Lv.b (Lv.b (Lv.b (A 109)))))))))))))).c (codeE P cal (codeF P cal m1) none 109 (cR (cL (cR (cL (cL (cR (cR (cL (cL (cR (cL (cR (cR (cR code109)))))))))))))) (Lv.b (Lv.a (Lv.b (Lv.a (Lv.a (Lv.b (Lv.b (Lv.a (Lv.a (Lv.b (Lv.a (Lv.b (Lv.b (Lv.b (A 109))))))))))))))) (K109_prrrlrllrrllr cal k m1) (K109_pxrrrlrllrrl cal k m1) (doneK P results109)))
noncomputable def K109_prrrlrllrrllrlrl (cal : Cal) (k : Nat) (m1 : Nat) : KC (Value × Hp × Nat) := (cutK (Lv.a (Lv.b (Lv.a (Lv.b (Lv.a (Lv.a (Lv.b (Lv.b (Lv.a (Lv.a (Lv.b (Lv.a (Lv.b (Lv.b (Lv.b (A 109)))))))))))))))).c (codeE P cal (codeF P cal m1) none 109 (cR (cL (cR (cL (cR (cL (cL (cR (cR (cL (cL (cR (cL (cR (cR (cR code109)))))))))))))))) (Lv.b (Lv.a (Lv.b (Lv.a (Lv.b (Lv.a (Lv.a (Lv.b (Lv.b (Lv.a (Lv.a (Lv.b (Lv.a (Lv.b (Lv.b (Lv.b (A 109))))))))))))))))) (K109_prrrlrllrrllr cal k m1) (K109_pxrrrlrllrrl cal k m1) (doneK P results109)))
noncomputable def K109_prrrr (cal : Cal) (k : Nat) : KC (Value × Hp × Nat) := (cutK (Lv.b (Lv.b (Lv.b (Lv.b (A 109))))).c (codeE P cal (codeF P cal k) none 109 (cR (cR (cR (cR (cR code109))))) (Lv.b (Lv.b (Lv.b (Lv.b (Lv.b (A 109)))))) (doneK P results109) X0 (doneK P results109)))
noncomputable def E109_1 (cal : Cal) (k m1 : Nat) : KC (Value × Hp × Nat) := codeE P cal (codeF P cal m1) none 109 (cL (cL (cR (cL (cR (cR (cR code109))))))) (Lv.a (Lv.a (Lv.b (Lv.a (Lv.b (Lv.b (Lv.b (A 109)))))))) (K109_prrrlrl cal k m1) (K109_pxrrrlr cal k) (doneK P results109)
noncomputable def R109_1 (cal : Cal) (k m1 : Nat) : Value → Value → Value → Value → Value → Hp → Nat → Res := fun u3 u7 u16 u17 u18 H n => codeF P cal m1 (Lv.a (Lv.b (Lv.a (Lv.b (Lv.b (Lv.b (A 109))))))) none 109 (cL (cR (cL (cR (cR (cR code109)))))) (K109_prrr cal k) (K109_pxrrrlr cal k) (doneK P results109) (Tr.set (Tr.set (Tr.set (Tr.set (Tr.set Tr.nil 18 (some u18)) 17 (some u17)) 16 (some u16)) 7 (some u7)) 3 (some u3)) H n []
noncomputable def B109_1 (cal : Cal) (k m1 : Nat) (b1 : Value → Value → Value → Value → Value → Hp → Nat → Res) (u3 u7 u16 u17 u18 : Value) (H : Hp) (n : Nat) : Res :=
binK P Go.BinOp.lss 3 (Go.Operand.tmp 18) (Go.Operand.tmp 17) u18 u17 fun v19_17 =>
ifK v19_17 (
bindO (indexAddrV P 44 u16 u18) fun v21_19 =>
bindO (addrV v21_19) fun a_21 => bindO (loadV P H 3 a_21) fun v22_20 =>
bindO (fieldAddrV P 113 u3 1) fun v24_25 =>
bindO (indexAddrV P 111 v24_25 u18) fun v25_26 =>
bindO (addrV v25_26) fun a_28 => bindO (loadV P H 53 a_28) fun v26_27 =>
callFK P cal 99 [v26_27, v22_20] H n fun v28_30 H_31 n_32 =>
bindO (pureSem P v28_30 (Op.unary Go.UnOp.not v28_30)) fun v29_33 =>
ifK v29_33 (
some ((Go.Value.bool false), H_31, n_32)) (
binK P Go.BinOp.sub 3 (Go.Operand.tmp 30) (Go.Operand.tmp 31) u7 v22_20 fun v32_37 =>
binK P Go.BinOp.add 3 (Go.Operand.tmp 18) (Go.Operand.const (Go.Value.int Go.IntKind.i64 1)) u18 (Go.Value.int Go.IntKind.i64 1) fun v33_39 =>
b1 u3 v32_37 u16 u17 v33_39 H_31 n_32)) (
binK P Go.BinOp.eql 3 (Go.Operand.tmp 34) (Go.Operand.const (Go.Value.int Go.IntKind.i64 0)) u7 (Go.Value.int Go.IntKind.i64 0) fun v35_42 =>
some (v35_42, H, n))
noncomputable def C109_1 (cal : Cal) (k m1 : Nat) (b1 : Value → Value → Value → Value → Value → Hp → Nat → Res) (u3 u7 u16 u17 u18 : Value) (H : Hp) (n : Nat) : Res := B109_1 cal k m1 b1 u3 u7 u16 u17 u18 H n
noncomputable def S109_1 (cal : Cal) (k : Nat) : Nat → Value → Value → Value → Value → Value → Hp → Nat → Res := fun m => Nat.rec (motive := fun _ => Value → Value → Value → Value → Value → Hp → Nat → Res) (C109_1 cal k 0 (fun _ _ _ _ _ _ _ => none)) (fun m ih => C109_1 cal k (m + 1) ih) m
theorem h109_1 (cal : Cal) (k m1 : Nat) (u3 u7 u16 u17 u18 : Value) (H : Hp) (n : Nat) : labK (E109_1 cal k m1) (Tr.set (Tr.set (Tr.set (Tr.set (Tr.set Tr.nil 18 (some u18)) 17 (some u17)) 16 (some u16)) 7 (some u7)) 3 (some u3)) H n [] = C109_1 cal k m1 (R109_1 cal k m1) u3 u7 u16 u17 u18 H n := by
  have h : labK (E109_1 cal k m1) (Tr.set (Tr.set (Tr.set (Tr.set (Tr.set Tr.nil 18 (some u18)) 17 (some u17)) 16 (some u16)) 7 (some u7)) 3 (some u3)) H n [] = B109_1 cal k m1 (R109_1 cal k m1) u3 u7 u16 u17 u18 H n := by kernel_rfl
  rw [h, C109_1]
theorem q109_1 (cal : Cal) (k : Nat) : ∀ (m : Nat) (u3 u7 u16 u17 u18 : Value) (H : Hp) (n : Nat), labK (E109_1 cal k m) (Tr.set (Tr.set (Tr.set (Tr.set (Tr.set Tr.nil 18 (some u18)) 17 (some u17)) 16 (some u16)) 7 (some u7)) 3 (some u3)) H n [] = S109_1 cal k m u3 u7 u16 u17 u18 H n
  | 0, u3, u7, u16, u17, u18, H, n => by
    rw [h109_1]
    have e : R109_1 cal k 0 = fun _ _ _ _ _ _ _ => none := by funext u3 u7 u16 u17 u18 H n; kernel_rfl
    rw [e]; rfl
  | m + 1, u3, u7, u16, u17, u18, H, n => by
    rw [h109_1]
    have e : R109_1 cal k (m + 1) = S109_1 cal k m := by
      funext u3 u7 u16 u17 u18 H n
      have e : R109_1 cal k (m + 1) u3 u7 u16 u17 u18 H n = labK (E109_1 cal k m) (Tr.set (Tr.set (Tr.set (Tr.set (Tr.set Tr.nil 18 (some u18)) 17 (some u17)) 16 (some u16)) 7 (some u7)) 3 (some u3)) H n [] := by kernel_rfl
      rw [e]; exact q109_1 ..
    rw [e]; rfl
noncomputable def B109_0 (cal : Cal) (k : Nat) (j1 : Value → Value → Value → Value → Value → Hp → Nat → Res) (v0 v1 v2 : Value) (H : Hp) (n : Nat) : Res :=
boxK 113 v0 H n fun v3_1 H_2 n_3 =>
bindO (lenV P 44 v1) fun v11_6 =>
binK P Go.BinOp.neq 3 (Go.Operand.tmp 11) (Go.Operand.tmp 12) v11_6 v2 fun v13_8 =>
ifK v13_8 (
some ((Go.Value.bool false), H_2, n_3)) (
bindO (fieldAddrV P 113 v3_1 0) fun v14_10 =>
bindO (addrV v14_10) fun a_12 => bindO (loadV P H_2 3 a_12) fun v15_11 =>
bindO (lenV P 44 v1) fun v17_15 =>
j1 v3_1 v15_11 v1 v17_15 (Go.Value.int Go.IntKind.i64 0) H_2 n_3)
noncomputable def C109_0 (cal : Cal) (k : Nat) (v0 v1 v2 : Value) (H : Hp) (n : Nat) : Res := B109_0 cal k (S109_1 cal k k) v0 v1 v2 H n
theorem h109_0 (cal : Cal) (k : Nat) (v0 v1 v2 : Value) (H : Hp) (n : Nat) : bodyE P cal A (k + 1) 109 [v0, v1, v2] H n = C109_0 cal k v0 v1 v2 H n := by
  have h : bodyE P cal A (k + 1) 109 [v0, v1, v2] H n = B109_0 cal k (fun u3 u7 u16 u17 u18 H n => labK (E109_1 cal k k) (Tr.set (Tr.set (Tr.set (Tr.set (Tr.set Tr.nil 18 (some u18)) 17 (some u17)) 16 (some u16)) 7 (some u7)) 3 (some u3)) H n []) v0 v1 v2 H n := by
    rw [body_eq (fn := Go.Proofs.Try.f109) (c := code109) (rs := results109) (by kernel_rfl) (by kernel_rfl) (by kernel_rfl) (by kernel_rfl)]
    kernel_rfl
  rw [h, C109_0]
  have e1 : (fun u3 u7 u16 u17 u18 H n => labK (E109_1 cal k k) (Tr.set (Tr.set (Tr.set (Tr.set (Tr.set Tr.nil 18 (some u18)) 17 (some u17)) 16 (some u16)) 7 (some u7)) 3 (some u3)) H n []) = (S109_1 cal k k) := by funext u3 u7 u16 u17 u18 H n; exact q109_1 ..
  rw [e1]
noncomputable def code110 : Code := codeOf 110
noncomputable def results110 : List ResultVar := resOf 110
noncomputable def K110_p (cal : Cal) (k : Nat) : KC (Value × Hp × Nat) := (cutK (A 110).c (codeE P cal (codeF P cal k) none 110 (cR code110) (Lv.b (A 110)) (doneK P results110) X0 (doneK P results110)))
noncomputable def K110_pr (cal : Cal) (k : Nat) : KC (Value × Hp × Nat) := (cutK (Lv.b (A 110)).c (codeE P cal (codeF P cal k) none 110 (cR (cR code110)) (Lv.b (Lv.b (A 110))) (doneK P results110) X0 (doneK P results110)))
noncomputable def B110_0 (cal : Cal) (k : Nat) (v0 v1 : Value) (H : Hp) (n : Nat) : Res :=
boxK 105 v0 H n fun v2_1 H_2 n_3 =>
boxK 3 v1 H_2 n_3 fun v3_4 H_5 n_6 =>
some ((Value.func (Go.Fn.func 117) ⟨[]⟩ ⟨[v2_1, v3_4]⟩), H_5, n_6)
noncomputable def C110_0 (cal : Cal) (k : Nat) (v0 v1 : Value) (H : Hp) (n : Nat) : Res := B110_0 cal k v0 v1 H n
theorem h110_0 (cal : Cal) (k : Nat) (v0 v1 : Value) (H : Hp) (n : Nat) : bodyE P cal A (k + 1) 110 [v0, v1] H n = C110_0 cal k v0 v1 H n := by
  have h : bodyE P cal A (k + 1) 110 [v0, v1] H n = B110_0 cal k v0 v1 H n := by
    rw [body_eq (fn := Go.Proofs.Try.f110) (c := code110) (rs := results110) (by kernel_rfl) (by kernel_rfl) (by kernel_rfl) (by kernel_rfl)]
    kernel_rfl
  rw [h, C110_0]
noncomputable def code111 : Code := codeOf 111
noncomputable def results111 : List ResultVar := resOf 111
noncomputable def K111_p (cal : Cal) (k : Nat) : KC (Value × Hp × Nat) := (cutK (A 111).c (codeE P cal (codeF P cal k) none 111 (cR code111) (Lv.b (A 111)) (doneK P results111) X0 (doneK P results111)))
noncomputable def K111_pr (cal : Cal) (k : Nat) : KC (Value × Hp × Nat) := (cutK (Lv.b (A 111)).c (codeE P cal (codeF P cal k) none 111 (cR (cR code111)) (Lv.b (Lv.b (A 111))) (doneK P results111) X0 (doneK P results111)))
noncomputable def K111_prl (cal : Cal) (k : Nat) : KC (Value × Hp × Nat) := (cutK (Lv.a (Lv.b (A 111))).c (codeE P cal (codeF P cal k) none 111 (cR (cL (cR code111))) (Lv.b (Lv.a (Lv.b (A 111)))) (K111_pr cal k) X0 (doneK P results111)))
noncomputable def K111_pxrlr (cal : Cal) (k : Nat) : XC (Value × Hp × Nat) := (upX 0 (K111_pr cal k) X0)
noncomputable def K111_prlrl (cal : Cal) (k : Nat) (m1 : Nat) : KC (Value × Hp × Nat) := (fun T H n D => codeF P cal m1 (Lv.a (Lv.b (Lv.a (Lv.b (A 111))))) none 111 (cL (cR (cL (cR code111)))) (K111_pr cal k) (K111_pxrlr cal k) (doneK P results111) (cutT (Lv.a (Lv.b (Lv.a (Lv.b (A 111))))).c T) H n D)
noncomputable def K111_prlrll (cal : Cal) (k : Nat) (m1 : Nat) : KC (Value × Hp × Nat) := (cutK (Lv.a (Lv.a (Lv.b (Lv.a (Lv.b (A 111)))))).c (codeE P cal (codeF P cal m1) none 111 (cR (cL (cL (cR (cL (cR code111)))))) (Lv.b (Lv.a (Lv.a (Lv.b (Lv.a (Lv.b (A 111))))))) (K111_prlrl cal k m1) (K111_pxrlr cal k) (doneK P results111)))
noncomputable def K111_prlrllr (cal : Cal) (k : Nat) (m1 : Nat) : KC (Value × Hp × Nat) := (cutK (Lv.b (Lv.a (Lv.a (Lv.b (Lv.a (Lv.b (A 111))))))).c (codeE P cal (codeF P cal m1) none 111 (cR (cR (cL (cL (cR (cL (cR code111))))))) (Lv.b (Lv.b (Lv.a (Lv.a (Lv.b (Lv.a (Lv.b (A 111)))))))) (K111_prlrl cal k m1) (K111_pxrlr cal k) (doneK P results111)))
noncomputable def K111_prlrllrr (cal : Cal) (k : Nat) (m1 : Nat) : KC (Value × Hp × Nat) := (cutK (Lv.b (Lv.b (Lv.a (Lv.a (Lv.b (Lv.a (Lv.b (A 111)))))))).c (codeE P cal (codeF P cal m1) none 111 (cR (cR (cR (cL (cL (cR (cL (cR code111)))))))) (Lv.b (Lv.b (Lv.b (Lv.a (Lv.a (Lv.b (Lv.a (Lv.b (A 111))))))))) (K111_prlrl cal k m1) (K111_pxrlr cal k) (doneK P results111)))
noncomputable def K111_pxrlrllrrl (cal : Cal) (k : Nat) (m1 : Nat) : XC (Value × Hp × Nat) := (upX 1 (K111_prlrllrr cal k m1) (K111_pxrlr cal k))
noncomputable def K111_prlrllrrll (cal : Cal) (k : Nat) (m1 : Nat) : KC (Value × Hp × Nat) := (cutK (Lv.a (Lv.a (Lv.b (Lv.b (Lv.a (Lv.a (Lv.b (Lv.a (Lv.b (A 111)))))))))).c (codeE P cal (codeF P cal m1) none 111 (cR (cL (cL (cR (cR (cL (cL (cR (cL (cR code111)))))))))) (Lv.b (Lv.a (Lv.a (Lv.b (Lv.b (Lv.a (Lv.a (Lv.b (Lv.a (Lv.b (A 111))))))))))) (K111_prlrllrr cal k m1) (K111_pxrlrllrrl cal k m1) (doneK P results111)))
noncomputable def K111_prlrllrrllr (cal : Cal) (k : Nat) (m1 : Nat) : KC (Value × Hp × Nat) := (cutK (Lv.b (Lv.a (Lv.a (Lv.b (Lv.b (Lv.a (Lv.a (Lv.b (Lv.a (Lv.b (A 111))))))))))).c (codeE P cal (codeF P cal m1) none 111 (cR (cR (cL (cL (cR (cR (cL (cL (cR (cL (cR code111))))))))))) (Lv.b (Lv.b (Lv.a (Lv.a (Lv.b (Lv.b (Lv.a (Lv.a (Lv.b (Lv.a (Lv.b (A 111)))))))))))) (K111_prlrllrr cal k m1) (K111_pxrlrllrrl cal k m1) (doneK P results111)))
noncomputable def K111_prlrllrrllrrl (cal : Cal) (k : Nat) (m1 : Nat) : KC (Value × Hp × Nat) := (cutK (Lv.a (Lv.b (Lv.b (Lv.a (Lv.a (Lv.b (Lv.b (Lv.a (Lv.a (Lv.b (Lv.a (Lv.b (A 111))))))))))))).c (codeE P cal (codeF P cal m1) none 111 (cR (cL (cR (cR (cL (cL (cR (cR (cL (cL (cR (cL (cR code111))))))))))))) (Lv.b (Lv.a (Lv.b (Lv.b (Lv.a (Lv.a (Lv.b (Lv.b (Lv.a (Lv.a (Lv.b (Lv.a (Lv.b (A 111)))))))))))))) (K111_prlrllrr cal k m1) (K111_pxrlrllrrl cal k m1) (doneK P results111)))
noncomputable def K111_prr (cal : Cal) (k : Nat) : KC (Value × Hp × Nat) := (cutK (Lv.b (Lv.b (A 111))).c (codeE P cal (codeF P cal k) none 111 (cR (cR (cR code111))) (Lv.b (Lv.b (Lv.b (A 111)))) (doneK P results111) X0 (doneK P results111)))
noncomputable def E111_1 (cal : Cal) (k m1 : Nat) : KC (Value × Hp × Nat) := codeE P cal (codeF P cal m1) none 111 (cL (cL (cR (cL (cR code111))))) (Lv.a (Lv.a (Lv.b (Lv.a (Lv.b (A 111)))))) (K111_prlrl cal k m1) (K111_pxrlr cal k) (doneK P results111)
noncomputable def R111_1 (cal : Cal) (k m1 : Nat) : Value → Value → Value → Value → Hp → Nat → Res := fun u0 u3 u11 u12 H n => codeF P cal m1 (Lv.a (Lv.b (Lv.a (Lv.b (A 111))))) none 111 (cL (cR (cL (cR code111)))) (K111_pr cal k) (K111_pxrlr cal k) (doneK P results111) (Tr.set (Tr.set (Tr.set (Tr.set Tr.nil 12 (some u12)) 11 (some u11)) 3 (some u3)) 0 (some u0)) H n []
noncomputable def B111_1 (cal : Cal) (k m1 : Nat) (b1 : Value → Value → Value → Value → Hp → Nat → Res) (u0 u3 u11 u12 : Value) (H : Hp) (n : Nat) : Res :=
binK P Go.BinOp.lss 3 (Go.Operand.tmp 12) (Go.Operand.tmp 11) u12 u11 fun v13_13 =>
ifK v13_13 (
bindO (addrV u3) fun a_18 => bindO (loadV P H 111 a_18) fun v16_17 =>
callFK P cal 69 [u0, v16_17, u12] H n fun v18_20 H_21 n_22 =>
ifK v18_20 (
some ((Go.Value.bool false), H_21, n_22)) (
binK P Go.BinOp.add 3 (Go.Operand.tmp 12) (Go.Operand.const (Go.Value.int Go.IntKind.i64 1)) u12 (Go.Value.int Go.IntKind.i64 1) fun v19_24 =>
b1 u0 u3 u11 v19_24 H_21 n_22)) (
some ((Go.Value.bool true), H, n))
noncomputable def C111_1 (cal : Cal) (k m1 : Nat) (b1 : Value → Value → Value → Value → Hp → Nat → Res) (u0 u3 u11 u12 : Value) (H : Hp) (n : Nat) : Res := B111_1 cal k m1 b1 u0 u3 u11 u12 H n
noncomputable def S111_1 (cal : Cal) (k : Nat) : Nat → Value → Value → Value → Value → Hp → Nat → Res := fun m => Nat.rec (motive := fun _ => Value → Value → Value → Value → Hp → Nat → Res) (C111_1 cal k 0 (fun _ _ _ _ _ _ => none)) (fun m ih => C111_1 cal k (m + 1) ih) m
theorem h111_1 (cal : Cal) (k m1 : Nat) (u0 u3 u11 u12 : Value) (H : Hp) (n : Nat) : labK (E111_1 cal k m1) (Tr.set (Tr.set (Tr.set (Tr.set Tr.nil 12 (some u12)) 11 (some u11)) 3 (some u3)) 0 (some u0)) H n [] = C111_1 cal k m1 (R111_1 cal k m1) u0 u3 u11 u12 H n := by
  have h : labK (E111_1 cal k m1) (Tr.set (Tr.set (Tr.set (Tr.set Tr.nil 12 (some u12)) 11 (some u11)) 3 (some u3)) 0 (some u0)) H n [] = B111_1 cal k m1 (R111_1 cal k m1) u0 u3 u11 u12 H n := by kernel_rfl
  rw [h, C111_1]
theorem q111_1 (cal : Cal) (k : Nat) : ∀ (m : Nat) (u0 u3 u11 u12 : Value) (H : Hp) (n : Nat), labK (E111_1 cal k m) (Tr.set (Tr.set (Tr.set (Tr.set Tr.nil 12 (some u12)) 11 (some u11)) 3 (some u3)) 0 (some u0)) H n [] = S111_1 cal k m u0 u3 u11 u12 H n
  | 0, u0, u3, u11, u12, H, n => by
    rw [h111_1]
    have e : R111_1 cal k 0 = fun _ _ _ _ _ _ => none := by funext u0 u3 u11 u12 H n; kernel_rfl
    rw [e]; rfl
  | m + 1, u0, u3, u11, u12, H, n => by
    rw [h111_1]
    have e : R111_1 cal k (m + 1) = S111_1 cal k m := by
      funext u0 u3 u11 u12 H n
      have e : R111_1 cal k (m + 1) u0 u3 u11 u12 H n = labK (E111_1 cal k m) (Tr.set (Tr.set (Tr.set (Tr.set Tr.nil 12 (some u12)) 11 (some u11)) 3 (some u3)) 0 (some u0)) H n [] := by kernel_rfl
      rw [e]; exact q111_1 ..
    rw [e]; rfl
noncomputable def B111_0 (cal : Cal) (k : Nat) (j1 : Value → Value → Value → Value → Hp → Nat → Res) (v0 v1 : Value) (H : Hp) (n : Nat) : Res :=
boxK 111 v1 H n fun v3_1 H_2 n_3 =>
bindO (nilV v0) fun v7_6 =>
bindO (fieldAddrV P 117 v7_6 0) fun v8_7 =>
bindO (fieldAddrV P 35 v8_7 0) fun v9_8 =>
bindO (addrV v9_8) fun a_10 => bindO (loadV P H_2 31 a_10) fun v10_9 =>
bindO (lenV P 31 v10_9) fun v11_11 =>
j1 v0 v3_1 v11_11 (Go.Value.int Go.IntKind.i64 0) H_2 n_3
noncomputable def C111_0 (cal : Cal) (k : Nat) (v0 v1 : Value) (H : Hp) (n : Nat) : Res := B111_0 cal k (S111_1 cal k k) v0 v1 H n
theorem h111_0 (cal : Cal) (k : Nat) (v0 v1 : Value) (H : Hp) (n : Nat) : bodyE P cal A (k + 1) 111 [v0, v1] H n = C111_0 cal k v0 v1 H n := by
  have h : bodyE P cal A (k + 1) 111 [v0, v1] H n = B111_0 cal k (fun u0 u3 u11 u12 H n => labK (E111_1 cal k k) (Tr.set (Tr.set (Tr.set (Tr.set Tr.nil 12 (some u12)) 11 (some u11)) 3 (some u3)) 0 (some u0)) H n []) v0 v1 H n := by
    rw [body_eq (fn := Go.Proofs.Try.f111) (c := code111) (rs := results111) (by kernel_rfl) (by kernel_rfl) (by kernel_rfl) (by kernel_rfl)]
    kernel_rfl
  rw [h, C111_0]
  have e1 : (fun u0 u3 u11 u12 H n => labK (E111_1 cal k k) (Tr.set (Tr.set (Tr.set (Tr.set Tr.nil 12 (some u12)) 11 (some u11)) 3 (some u3)) 0 (some u0)) H n []) = (S111_1 cal k k) := by funext u0 u3 u11 u12 H n; exact q111_1 ..
  rw [e1]
end Go.Proofs.Ythnfcjajgifedaa.W
