/- The texts of functions, each with the proof that the evaluator says the same. -/
import Derived.Test.YtakjjillnllocabP1
open Go Go.Ev
set_option maxRecDepth 1000000
set_option linter.unusedVariables false
noncomputable section
namespace Go.Proofs.Ytakjjillnllocab.P
noncomputable def code90 : Code := codeOf 90
noncomputable def results90 : List ResultVar := resOf 90
noncomputable def K90_p (cal : Cal) (k : Nat) : KC (Value × Hp × Nat) := (cutK (A 90).c (codeE P cal (codeF P cal k) none 90 (cR code90) (Lv.b (A 90)) (doneK P results90) X0 (doneK P results90)))
noncomputable def K90_pxr (cal : Cal) (k : Nat) : XC (Value × Hp × Nat) := (upX 0 (doneK P results90) X0)
noncomputable def K90_prl (cal : Cal) (k : Nat) (m1 : Nat) : KC (Value × Hp × Nat) := (fun T H n D => codeF P cal m1 (Lv.a (Lv.b (A 90))) none 90 (cL (cR code90)) (doneK P results90) (K90_pxr cal k) (doneK P results90) (cutT (Lv.a (Lv.b (A 90))).c T) H n D)
noncomputable def K90_pxrll (cal : Cal) (k : Nat) (m1 : Nat) : XC (Value × Hp × Nat) := (upX 1 (K90_prl cal k m1) (K90_pxr cal k))
noncomputable def K90_prlll (cal : Cal) (k : Nat) (m1 : Nat) : KC (Value × Hp × Nat) := (cutK (Lv.a (Lv.a (Lv.a (Lv.b (A 90))))).c (codeE P cal (codeF P cal m1) none 90 (cR (cL (cL (cL (cR code90))))) (Lv.b (Lv.a (Lv.a (Lv.a (Lv.b (A 90)))))) (K90_prl cal k m1) (K90_pxrll cal k m1) (doneK P results90)))
noncomputable def K90_prlllr (cal : Cal) (k : Nat) (m1 : Nat) : KC (Value × Hp × Nat) := (cutK (Lv.b (Lv.a (Lv.a (Lv.a (Lv.b (A 90)))))).c (codeE P cal (codeF P cal m1) none 90 (cR (cR (cL (cL (cL (cR code90)))))) (Lv.b (Lv.b (Lv.a (Lv.a (Lv.a (Lv.b (A 90))))))) (K90_prl cal k m1) (K90_pxrll cal k m1) (doneK P results90)))
noncomputable def K90_prlllrl (cal : Cal) (k : Nat) (m1 : Nat) : KC (Value × Hp × Nat) := (cutK (Lv.a (Lv.b (Lv.a (Lv.a (Lv.a (Lv.b (A 90))))))).c (codeE P cal (codeF P cal m1) none 90 (cR (cL (cR (cL (cL (cL (cR code90))))))) (Lv.b (Lv.a (Lv.b (Lv.a (Lv.a (Lv.a (Lv.b (A 90)))))))) (K90_prlllr cal k m1) (K90_pxrll cal k m1) (doneK P results90)))
noncomputable def K90_prlllrrr (cal : Cal) (k : Nat) (m1 : Nat) : KC (Value × Hp × Nat) := (cutK (Lv.b (Lv.b (Lv.b (Lv.a (Lv.a (Lv.a (Lv.b (A 90)))))))).c (codeE P cal (codeF P cal m1) none 90 (cR (cR (cR (cR (cL (cL (cL (cR code90)))))))) (Lv.b (Lv.b (Lv.b (Lv.b (Lv.a (Lv.a (Lv.a (Lv.b (A 90))))))))) (K90_prl cal k m1) (K90_pxrll cal k m1) (doneK P results90)))
noncomputable def K90_prlllrrrl (cal : Cal) (k : Nat) (m1 : Nat) : KC (Value × Hp × Nat) := (cutK (Lv.a (Lv.b (Lv.b (Lv.b (Lv.a (Lv.a (Lv.a (Lv.b (A 90))))))))).c (codeE P cal (codeF P cal m1) none 90 (cR (cL (cR (cR (cR (cL (cL (cL (cR code90))))))))) (Lv.b (Lv.a (Lv.b (Lv.b (Lv.b (Lv.a (Lv.a (Lv.a (Lv.b (A 90)))))))))) (K90_prlllrrr cal k m1) (K90_pxrll cal k m1) (doneK P results90)))
noncomputable def K90_prlllrrrr (cal : Cal) (k : Nat) (m1 : Nat) : KC (Value × Hp × Nat) := (cutK (Lv.b (Lv.b (Lv.b (Lv.b (Lv.a (Lv.a (Lv.a (Lv.b (A 90))))))))).c (codeE P cal (codeF P cal m1) none 90 (cR (cR (cR (cR (cR (cL (cL (cL (cR code90))))))))) (Lv.b (Lv.b (Lv.b (Lv.b (Lv.b (Lv.a (Lv.a (Lv.a (Lv.b (A 90)))))))))) (K90_prl cal k m1) (K90_pxrll cal k m1) (doneK P results90)))
noncomputable def K90_prlllrr (cal : Cal) (k : Nat) (m1 : Nat) : KC (Value × Hp × Nat) := (cutK (Lv.b (Lv.b (Lv.a (Lv.a (Lv.a (Lv.b (A 90))))))).c (codeE P cal (codeF P cal m1) none 90 (cR (cR (cR (cL (cL (cL (cR code90))))))) (Lv.b (Lv.b (Lv.b (Lv.a (Lv.a (Lv.a (Lv.b (A 90)))))))) (K90_prl cal k m1) (K90_pxrll cal k m1) (doneK P results90)))
noncomputable def K90_prlllrrl (cal : Cal) (k : Nat) (m1 : Nat) : KC (Value × Hp × Nat) := (cutK (Lv.a (Lv.b (Lv.b (Lv.a (Lv.a (Lv.a (Lv.b (A 90)))))))).c (codeE P cal (codeF P cal m1) none 90 (cR (cL (cR (cR (cL (cL (cL (cR code90)))))))) (Lv.b (Lv.a (Lv.b (Lv.b (Lv.a (Lv.a (Lv.a (Lv.b (A 90))))))))) (K90_prlllrr cal k m1) (K90_pxrll cal k m1) (doneK P results90)))
noncomputable def E90_2 (cal : Cal) (k m1 : Nat) : KC (Value × Hp × Nat) := codeE P cal (codeF P cal m1) none 90 (cR (cR (cR (cL (cL (cL (cR code90))))))) (Lv.b (Lv.b (Lv.b (Lv.a (Lv.a (Lv.a (Lv.b (A 90)))))))) (K90_prl cal k m1) (K90_pxrll cal k m1) (doneK P results90)
noncomputable def E90_1 (cal : Cal) (k m1 : Nat) : KC (Value × Hp × Nat) := codeE P cal (codeF P cal m1) none 90 (cL (cL (cR code90))) (Lv.a (Lv.a (Lv.b (A 90)))) (K90_prl cal k m1) (K90_pxr cal k) (doneK P results90)
noncomputable def R90_1 (cal : Cal) (k m1 : Nat) : Value → Value → Value → Value → Value → Hp → Nat → Res := fun u0 u2 u3 u4 u10 H n => codeF P cal m1 (Lv.a (Lv.b (A 90))) none 90 (cL (cR code90)) (doneK P results90) (K90_pxr cal k) (doneK P results90) (Tr.set (Tr.set (Tr.set (Tr.set (Tr.set Tr.nil 10 (some u10)) 4 (some u4)) 3 (some u3)) 2 (some u2)) 0 (some u0)) H n []
noncomputable def B90_2 (cal : Cal) (k m1 : Nat) (b1 : Value → Value → Value → Value → Value → Hp → Nat → Res) (u0 u2 u3 u4 u10 u11 : Value) (H : Hp) (n : Nat) : Res :=
binK P Go.BinOp.add 3 (Go.Operand.tmp 45) (Go.Operand.tmp 46) u3 u10 fun v47_14 =>
bindO (indexAddrV P 54 u0 v47_14) fun v48_15 =>
bindO (addrV v48_15) fun a_16 => bindO (loadV P H 50 a_16) fun v_17 =>
binK P Go.BinOp.add 3 (Go.Operand.tmp 51) (Go.Operand.tmp 52) u3 u11 fun v53_21 =>
bindO (indexAddrV P 54 u0 v53_21) fun v54_22 =>
bindO (addrV v54_22) fun a_23 => bindO (loadV P H 50 a_23) fun v_24 =>
callVK P cal u4 [v_17, v_24] H n fun v56_25 H_26 n_27 =>
binK P Go.BinOp.lss 3 (Go.Operand.tmp 56) (Go.Operand.const (Go.Value.int Go.IntKind.i64 0)) v56_25 (Go.Value.int Go.IntKind.i64 0) fun v57_28 =>
bindO (pureSem P v57_28 (Op.unary Go.UnOp.not v57_28)) fun v58_29 =>
ifK v58_29 (
some ((Value.tuple ⟨[]⟩), H_26, n_27)) (
binK P Go.BinOp.add 3 (Go.Operand.tmp 60) (Go.Operand.tmp 61) u3 u10 fun v62_33 =>
binK P Go.BinOp.add 3 (Go.Operand.tmp 64) (Go.Operand.tmp 65) u3 u11 fun v66_37 =>
binK P Go.BinOp.add 3 (Go.Operand.tmp 68) (Go.Operand.tmp 69) u3 u11 fun v70_41 =>
bindO (indexAddrV P 54 u0 v70_41) fun v71_42 =>
bindO (addrV v71_42) fun a_43 => bindO (loadV P H_26 50 a_43) fun v_44 =>
binK P Go.BinOp.add 3 (Go.Operand.tmp 74) (Go.Operand.tmp 75) u3 u10 fun v76_48 =>
bindO (indexAddrV P 54 u0 v76_48) fun v77_49 =>
bindO (addrV v77_49) fun a_50 => bindO (loadV P H_26 50 a_50) fun v_51 =>
bindO (indexAddrV P 54 u0 v62_33) fun v79_52 =>
bindO (storeP P 50 v79_52 v_44 H_26) fun H_54 =>
bindO (indexAddrV P 54 u0 v66_37) fun v80_55 =>
bindO (storeP P 50 v80_55 v_51 H_54) fun H_57 =>
b1 u0 u2 u3 u4 u11 H_57 n_27)
noncomputable def C90_2 (cal : Cal) (k m1 : Nat) (b1 : Value → Value → Value → Value → Value → Hp → Nat → Res) (u0 u2 u3 u4 u10 u11 : Value) (H : Hp) (n : Nat) : Res := B90_2 cal k m1 b1 u0 u2 u3 u4 u10 u11 H n
theorem h90_2 (cal : Cal) (k m1 : Nat) (u0 u2 u3 u4 u10 u11 : Value) (H : Hp) (n : Nat) : labK (E90_2 cal k m1) (Tr.set (Tr.set (Tr.set (Tr.set (Tr.set (Tr.set Tr.nil 11 (some u11)) 10 (some u10)) 4 (some u4)) 3 (some u3)) 2 (some u2)) 0 (some u0)) H n [] = C90_2 cal k m1 (R90_1 cal k m1) u0 u2 u3 u4 u10 u11 H n := by
  have h : labK (E90_2 cal k m1) (Tr.set (Tr.set (Tr.set (Tr.set (Tr.set (Tr.set Tr.nil 11 (some u11)) 10 (some u10)) 4 (some u4)) 3 (some u3)) 2 (some u2)) 0 (some u0)) H n [] = B90_2 cal k m1 (R90_1 cal k m1) u0 u2 u3 u4 u10 u11 H n := by kernel_rfl
  rw [h, C90_2]
theorem q90_2 (cal : Cal) (k m1 : Nat) (u0 u2 u3 u4 u10 u11 : Value) (H : Hp) (n : Nat) : labK (E90_2 cal k m1) (Tr.set (Tr.set (Tr.set (Tr.set (Tr.set (Tr.set Tr.nil 11 (some u11)) 10 (some u10)) 4 (some u4)) 3 (some u3)) 2 (some u2)) 0 (some u0)) H n [] = C90_2 cal k m1 (R90_1 cal k m1) u0 u2 u3 u4 u10 u11 H n := h90_2 ..
noncomputable def B90_1 (cal : Cal) (k m1 : Nat) (j2 : Value → Value → Value → Value → Value → Value → Hp → Nat → Res) (b1 : Value → Value → Value → Value → Value → Hp → Nat → Res) (u0 u2 u3 u4 u10 : Value) (H : Hp) (n : Nat) : Res :=
binK P Go.BinOp.mul 3 (Go.Operand.const (Go.Value.int Go.IntKind.i64 2)) (Go.Operand.tmp 13) (Go.Value.int Go.IntKind.i64 2) u10 fun v14_4 =>
binK P Go.BinOp.add 3 (Go.Operand.tmp 14) (Go.Operand.const (Go.Value.int Go.IntKind.i64 1)) v14_4 (Go.Value.int Go.IntKind.i64 1) fun v15_5 =>
binK P Go.BinOp.geq 3 (Go.Operand.tmp 16) (Go.Operand.tmp 17) v15_5 u2 fun v18_9 =>
ifK v18_9 (
some ((Value.tuple ⟨[]⟩), H, n)) (
binK P Go.BinOp.add 3 (Go.Operand.tmp 19) (Go.Operand.const (Go.Value.int Go.IntKind.i64 1)) v15_5 (Go.Value.int Go.IntKind.i64 1) fun v20_61 =>
binK P Go.BinOp.lss 3 (Go.Operand.tmp 20) (Go.Operand.tmp 21) v20_61 u2 fun v22_63 =>
guardD v22_63 true (fun k_65 =>
k_65 u4 .p H n) .p H n fun v_66 x_67 H_68 n_69 =>
guardD v22_63 true (fun k_71 =>
k_71 u0 .p H_68 n_69) .p H_68 n_69 fun v_72 x_73 H_74 n_75 =>
guardD v22_63 true (fun k_77 =>
k_77 u3 .p H_74 n_75) .p H_74 n_75 fun v_78 x_79 H_80 n_81 =>
guardD v22_63 true (fun k_83 =>
k_83 v15_5 .p H_80 n_81) .p H_80 n_81 fun v_84 x_85 H_86 n_87 =>
guardD v22_63 true (fun k_89 =>
binK P Go.BinOp.add 3 (Go.Operand.tmp 26) (Go.Operand.tmp 27) v_78 v_84 fun v28_94 =>
k_89 v28_94 .p H_86 n_87) .p H_86 n_87 fun v_90 x_91 H_92 n_93 =>
guardD v22_63 true (fun k_95 =>
bindO (indexAddrV P 54 v_72 v_90) fun v29_100 =>
k_95 v29_100 .p H_92 n_93) .p H_92 n_93 fun v_96 x_97 H_98 n_99 =>
guardD v22_63 true (fun k_101 =>
bindO (addrV v_96) fun a_106 => bindO (loadV P H_98 50 a_106) fun v_107 =>
k_101 v_107 (.l 50 a_106) H_98 n_99) .p H_98 n_99 fun v_102 x_103 H_104 n_105 =>
guardD v22_63 true (fun k_108 =>
k_108 u0 .p H_104 n_105) .p H_104 n_105 fun v_109 x_110 H_111 n_112 =>
guardD v22_63 true (fun k_114 =>
k_114 u3 .p H_111 n_112) .p H_111 n_112 fun v_115 x_116 H_117 n_118 =>
guardD v22_63 true (fun k_120 =>
k_120 v15_5 .p H_117 n_118) .p H_117 n_118 fun v_121 x_122 H_123 n_124 =>
guardD v22_63 true (fun k_126 =>
binK P Go.BinOp.add 3 (Go.Operand.tmp 32) (Go.Operand.tmp 33) v_115 v_121 fun v34_131 =>
k_126 v34_131 .p H_123 n_124) .p H_123 n_124 fun v_127 x_128 H_129 n_130 =>
guardD v22_63 true (fun k_132 =>
binK P Go.BinOp.add 3 (Go.Operand.tmp 34) (Go.Operand.const (Go.Value.int Go.IntKind.i64 1)) v_127 (Go.Value.int Go.IntKind.i64 1) fun v35_137 =>
k_132 v35_137 .p H_129 n_130) .p H_129 n_130 fun v_133 x_134 H_135 n_136 =>
guardD v22_63 true (fun k_138 =>
bindO (indexAddrV P 54 v_109 v_133) fun v36_143 =>
k_138 v36_143 .p H_135 n_136) .p H_135 n_136 fun v_139 x_140 H_141 n_142 =>
guardD v22_63 true (fun k_144 =>
bindO (addrV v_139) fun a_149 => bindO (loadV P H_141 50 a_149) fun v_150 =>
k_144 v_150 (.l 50 a_149) H_141 n_142) .p H_141 n_142 fun v_145 x_146 H_147 n_148 =>
guardD v22_63 true (fun k_151 =>
callVK P cal v_66 [v_102, v_145] H_147 n_148 fun v38_156 H_157 n_158 =>
k_151 v38_156 .e H_157 n_158) .e H_147 n_148 fun v_152 x_153 H_154 n_155 =>
guardD v22_63 true (fun k_159 =>
binK P Go.BinOp.lss 3 (Go.Operand.tmp 38) (Go.Operand.const (Go.Value.int Go.IntKind.i64 0)) v_152 (Go.Value.int Go.IntKind.i64 0) fun v39_164 =>
k_159 v39_164 .p H_154 n_155) .p H_154 n_155 fun v_160 x_161 H_162 n_163 =>
bindO (pickV v22_63 v_160 (Go.Value.bool false)) fun v40_165 =>
ifK v40_165 (
binK P Go.BinOp.add 3 (Go.Operand.tmp 41) (Go.Operand.const (Go.Value.int Go.IntKind.i64 1)) v15_5 (Go.Value.int Go.IntKind.i64 1) fun v42_167 =>
j2 u0 u2 u3 u4 u10 v42_167 H_162 n_163) (
j2 u0 u2 u3 u4 u10 v15_5 H_162 n_163))
noncomputable def C90_1 (cal : Cal) (k m1 : Nat) (b1 : Value → Value → Value → Value → Value → Hp → Nat → Res) (u0 u2 u3 u4 u10 : Value) (H : Hp) (n : Nat) : Res := B90_1 cal k m1 (C90_2 cal k m1 b1) b1 u0 u2 u3 u4 u10 H n
noncomputable def S90_1 (cal : Cal) (k : Nat) : Nat → Value → Value → Value → Value → Value → Hp → Nat → Res := fun m => Nat.rec (motive := fun _ => Value → Value → Value → Value → Value → Hp → Nat → Res) (C90_1 cal k 0 (fun _ _ _ _ _ _ _ => none)) (fun m ih => C90_1 cal k (m + 1) ih) m
theorem h90_1 (cal : Cal) (k m1 : Nat) (u0 u2 u3 u4 u10 : Value) (H : Hp) (n : Nat) : labK (E90_1 cal k m1) (Tr.set (Tr.set (Tr.set (Tr.set (Tr.set Tr.nil 10 (some u10)) 4 (some u4)) 3 (some u3)) 2 (some u2)) 0 (some u0)) H n [] = C90_1 cal k m1 (R90_1 cal k m1) u0 u2 u3 u4 u10 H n := by
  have h : labK (E90_1 cal k m1) (Tr.set (Tr.set (Tr.set (Tr.set (Tr.set Tr.nil 10 (some u10)) 4 (some u4)) 3 (some u3)) 2 (some u2)) 0 (some u0)) H n [] = B90_1 cal k m1 (fun u0 u2 u3 u4 u10 u11 H n => labK (E90_2 cal k m1) (Tr.set (Tr.set (Tr.set (Tr.set (Tr.set (Tr.set Tr.nil 11 (some u11)) 10 (some u10)) 4 (some u4)) 3 (some u3)) 2 (some u2)) 0 (some u0)) H n []) (R90_1 cal k m1) u0 u2 u3 u4 u10 H n := by kernel_rfl
  rw [h, C90_1]
  have e2 : (fun u0 u2 u3 u4 u10 u11 H n => labK (E90_2 cal k m1) (Tr.set (Tr.set (Tr.set (Tr.set (Tr.set (Tr.set Tr.nil 11 (some u11)) 10 (some u10)) 4 (some u4)) 3 (some u3)) 2 (some u2)) 0 (some u0)) H n []) = (C90_2 cal k m1 (R90_1 cal k m1)) := by funext u0 u2 u3 u4 u10 u11 H n; exact q90_2 ..
  rw [e2]
theorem q90_1 (cal : Cal) (k : Nat) : ∀ (m : Nat) (u0 u2 u3 u4 u10 : Value) (H : Hp) (n : Nat), labK (E90_1 cal k m) (Tr.set (Tr.set (Tr.set (Tr.set (Tr.set Tr.nil 10 (some u10)) 4 (some u4)) 3 (some u3)) 2 (some u2)) 0 (some u0)) H n [] = S90_1 cal k m u0 u2 u3 u4 u10 H n
  | 0, u0, u2, u3, u4, u10, H, n => by
    rw [h90_1]
    have e : R90_1 cal k 0 = fun _ _ _ _ _ _ _ => none := by funext u0 u2 u3 u4 u10 H n; kernel_rfl
    rw [e]; rfl
  | m + 1, u0, u2, u3, u4, u10, H, n => by
    rw [h90_1]
    have e : R90_1 cal k (m + 1) = S90_1 cal k m := by
      funext u0 u2 u3 u4 u10 H n
      have e : R90_1 cal k (m + 1) u0 u2 u3 u4 u10 H n = labK (E90_1 cal k m) (Tr.set (Tr.set (Tr.set (Tr.set (Tr.set Tr.nil 10 (some u10)) 4 (some u4)) 3 (some u3)) 2 (some u2)) 0 (some u0)) H n [] := by kernel_rfl
      rw [e]; exact q90_1 ..
    rw [e]; rfl
noncomputable def B90_0 (cal : Cal) (k : Nat) (j1 : Value → Value → Value → Value → Value → Hp → Nat → Res) (v0 v1 v2 v3 v4 : Value) (H : Hp) (n : Nat) : Res :=
j1 v0 v2 v3 v4 v1 H n
noncomputable def C90_0 (cal : Cal) (k : Nat) (v0 v1 v2 v3 v4 : Value) (H : Hp) (n : Nat) : Res := B90_0 cal k (S90_1 cal k k) v0 v1 v2 v3 v4 H n
theorem h90_0 (cal : Cal) (k : Nat) (v0 v1 v2 v3 v4 : Value) (H : Hp) (n : Nat) : bodyE P cal A (k + 1) 90 [v0, v1, v2, v3, v4] H n = C90_0 cal k v0 v1 v2 v3 v4 H n := by
  have h : bodyE P cal A (k + 1) 90 [v0, v1, v2, v3, v4] H n = B90_0 cal k (fun u0 u2 u3 u4 u10 H n => labK (E90_1 cal k k) (Tr.set (Tr.set (Tr.set (Tr.set (Tr.set Tr.nil 10 (some u10)) 4 (some u4)) 3 (some u3)) 2 (some u2)) 0 (some u0)) H n []) v0 v1 v2 v3 v4 H n := by
    rw [body_eq (fn := Go.Proofs.Try.f90) (c := code90) (rs := results90) (by kernel_rfl) (by kernel_rfl) (by kernel_rfl) (by kernel_rfl)]
    kernel_rfl
  rw [h, C90_0]
  have e1 : (fun u0 u2 u3 u4 u10 H n => labK (E90_1 cal k k) (Tr.set (Tr.set (Tr.set (Tr.set (Tr.set Tr.nil 10 (some u10)) 4 (some u4)) 3 (some u3)) 2 (some u2)) 0 (some u0)) H n []) = (S90_1 cal k k) := by funext u0 u2 u3 u4 u10 H n; exact q90_1 ..
  rw [e1]
noncomputable def code91 : Code := codeOf 91
noncomputable def results91 : List ResultVar := resOf 91
noncomputable def K91_p (cal : Cal) (k : Nat) : KC (Value × Hp × Nat) := (cutK (A 91).c (codeE P cal (codeF P cal k) none 91 (cR code91) (Lv.b (A 91)) (doneK P results91) X0 (doneK P results91)))
noncomputable def K91_pr (cal : Cal) (k : Nat) : KC (Value × Hp × Nat) := (cutK (Lv.b (A 91)).c (codeE P cal (codeF P cal k) none 91 (cR (cR code91)) (Lv.b (Lv.b (A 91))) (doneK P results91) X0 (doneK P results91)))
noncomputable def B91_0 (cal : Cal) (k : Nat) (v0 : Value) (H : Hp) (n : Nat) : Res :=
bindO (pureSem P v0 (convert 3 49 v0)) fun v4_3 =>
callFK P cal 63 [v4_3] H n fun v5_4 H_5 n_6 =>
binK P Go.BinOp.shl 49 (Go.Operand.const (Go.Value.int Go.IntKind.u64 1)) (Go.Operand.tmp 5) (Go.Value.int Go.IntKind.u64 1) v5_4 fun v6_7 =>
some (v6_7, H_5, n_6)
noncomputable def C91_0 (cal : Cal) (k : Nat) (v0 : Value) (H : Hp) (n : Nat) : Res := B91_0 cal k v0 H n
theorem h91_0 (cal : Cal) (k : Nat) (v0 : Value) (H : Hp) (n : Nat) : bodyE P cal A (k + 1) 91 [v0] H n = C91_0 cal k v0 H n := by
  have h : bodyE P cal A (k + 1) 91 [v0] H n = B91_0 cal k v0 H n := by
    rw [body_eq (fn := Go.Proofs.Try.f91) (c := code91) (rs := results91) (by kernel_rfl) (by kernel_rfl) (by kernel_rfl) (by kernel_rfl)]
    kernel_rfl
  rw [h, C91_0]
noncomputable def code92 : Code := codeOf 92
noncomputable def results92 : List ResultVar := resOf 92
noncomputable def K92_p (cal : Cal) (k : Nat) : KC (Value × Hp × Nat) := (cutK (A 92).c (codeE P cal (codeF P cal k) none 92 (cR code92) (Lv.b (A 92)) (doneK P results92) X0 (doneK P results92)))
noncomputable def K92_pr (cal : Cal) (k : Nat) : KC (Value × Hp × Nat) := (cutK (Lv.b (A 92)).c (codeE P cal (codeF P cal k) none 92 (cR (cR code92)) (Lv.b (Lv.b (A 92))) (doneK P results92) X0 (doneK P results92)))
noncomputable def K92_prr (cal : Cal) (k : Nat) : KC (Value × Hp × Nat) := (cutK (Lv.b (Lv.b (A 92))).c (codeE P cal (codeF P cal k) none 92 (cR (cR (cR code92))) (Lv.b (Lv.b (Lv.b (A 92)))) (doneK P results92) X0 (doneK P results92)))
noncomputable def K92_prrr (cal : Cal) (k : Nat) : KC (Value × Hp × Nat) := (cutK (Lv.b (Lv.b (Lv.b (A 92)))).c (codeE P cal (codeF P cal k) none 92 (cR (cR (cR (cR code92)))) (Lv.b (Lv.b (Lv.b (Lv.b (A 92))))) (doneK P results92) X0 (doneK P results92)))
noncomputable def K92_prrrr (cal : Cal) (k : Nat) : KC (Value × Hp × Nat) := (cutK (Lv.b (Lv.b (Lv.b (Lv.b (A 92))))).c (codeE P cal (codeF P cal k) none 92 (cR (cR (cR (cR (cR code92))))) (Lv.b (Lv.b (Lv.b (Lv.b (Lv.b (A 92)))))) (doneK P results92) X0 (doneK P results92)))
noncomputable def B92_0 (cal : Cal) (k : Nat) (v0 : Value) (H : Hp) (n : Nat) : Res :=
bindO (nilV v0) fun v4_3 =>
bindO (addrV v4_3) fun a_4 => bindO (loadV P H 140 a_4) fun v_5 =>
bindO (nilV v0) fun v7_7 =>
bindO (addrV v7_7) fun a_8 => bindO (loadV P H 140 a_8) fun v_9 =>
binK P Go.BinOp.shl 140 (Go.Operand.tmp 8) (Go.Operand.const (Go.Value.int Go.IntKind.u64 13)) v_9 (Go.Value.int Go.IntKind.u64 13) fun v9_10 =>
binK P Go.BinOp.xor 140 (Go.Operand.tmp 5) (Go.Operand.tmp 9) v_5 v9_10 fun v10_11 =>
bindO (nilV v0) fun v11_12 =>
bindO (storeP P 140 v11_12 v10_11 H) fun H_14 =>
bindO (nilV v0) fun v13_16 =>
bindO (addrV v13_16) fun a_17 => bindO (loadV P H_14 140 a_17) fun v_18 =>
bindO (nilV v0) fun v16_20 =>
bindO (addrV v16_20) fun a_21 => bindO (loadV P H_14 140 a_21) fun v_22 =>
binK P Go.BinOp.shr 140 (Go.Operand.tmp 17) (Go.Operand.const (Go.Value.int Go.IntKind.u64 7)) v_22 (Go.Value.int Go.IntKind.u64 7) fun v18_23 =>
binK P Go.BinOp.xor 140 (Go.Operand.tmp 14) (Go.Operand.tmp 18) v_18 v18_23 fun v19_24 =>
bindO (nilV v0) fun v20_25 =>
bindO (storeP P 140 v20_25 v19_24 H_14) fun H_27 =>
bindO (nilV v0) fun v22_29 =>
bindO (addrV v22_29) fun a_30 => bindO (loadV P H_27 140 a_30) fun v_31 =>
bindO (nilV v0) fun v25_33 =>
bindO (addrV v25_33) fun a_34 => bindO (loadV P H_27 140 a_34) fun v_35 =>
binK P Go.BinOp.shl 140 (Go.Operand.tmp 26) (Go.Operand.const (Go.Value.int Go.IntKind.u64 17)) v_35 (Go.Value.int Go.IntKind.u64 17) fun v27_36 =>
binK P Go.BinOp.xor 140 (Go.Operand.tmp 23) (Go.Operand.tmp 27) v_31 v27_36 fun v28_37 =>
bindO (nilV v0) fun v29_38 =>
bindO (storeP P 140 v29_38 v28_37 H_27) fun H_40 =>
bindO (nilV v0) fun v31_42 =>
bindO (addrV v31_42) fun a_44 => bindO (loadV P H_40 140 a_44) fun v32_43 =>
some (v32_43, H_40, n)
noncomputable def C92_0 (cal : Cal) (k : Nat) (v0 : Value) (H : Hp) (n : Nat) : Res := B92_0 cal k v0 H n
theorem h92_0 (cal : Cal) (k : Nat) (v0 : Value) (H : Hp) (n : Nat) : bodyE P cal A (k + 1) 92 [v0] H n = C92_0 cal k v0 H n := by
  have h : bodyE P cal A (k + 1) 92 [v0] H n = B92_0 cal k v0 H n := by
    rw [body_eq (fn := Go.Proofs.Try.f92) (c := code92) (rs := results92) (by kernel_rfl) (by kernel_rfl) (by kernel_rfl) (by kernel_rfl)]
    kernel_rfl
  rw [h, C92_0]
noncomputable def code93 : Code := codeOf 93
noncomputable def results93 : List ResultVar := resOf 93
noncomputable def K93_p (cal : Cal) (k : Nat) : KC (Value × Hp × Nat) := (cutK (A 93).c (codeE P cal (codeF P cal k) none 93 (cR code93) (Lv.b (A 93)) (doneK P results93) X0 (doneK P results93)))
noncomputable def K93_pr (cal : Cal) (k : Nat) : KC (Value × Hp × Nat) := (cutK (Lv.b (A 93)).c (codeE P cal (codeF P cal k) none 93 (cR (cR code93)) (Lv.b (Lv.b (A 93))) (doneK P results93) X0 (doneK P results93)))
noncomputable def B93_0 (cal : Cal) (k : Nat) (v0 v1 v2 v3 : Value) (H : Hp) (n : Nat) : Res :=
binK P Go.BinOp.sub 3 (Go.Operand.tmp 10) (Go.Operand.const (Go.Value.int Go.IntKind.i64 1)) v1 (Go.Value.int Go.IntKind.i64 1) fun v11_4 =>
binK P Go.BinOp.add 3 (Go.Operand.tmp 13) (Go.Operand.const (Go.Value.int Go.IntKind.i64 1)) v1 (Go.Value.int Go.IntKind.i64 1) fun v14_7 =>
callFK P cal 94 [v0, v11_4, v1, v14_7, v2, v3] H n fun v17_10 H_11 n_12 =>
some (v17_10, H_11, n_12)
noncomputable def C93_0 (cal : Cal) (k : Nat) (v0 v1 v2 v3 : Value) (H : Hp) (n : Nat) : Res := B93_0 cal k v0 v1 v2 v3 H n
theorem h93_0 (cal : Cal) (k : Nat) (v0 v1 v2 v3 : Value) (H : Hp) (n : Nat) : bodyE P cal A (k + 1) 93 [v0, v1, v2, v3] H n = C93_0 cal k v0 v1 v2 v3 H n := by
  have h : bodyE P cal A (k + 1) 93 [v0, v1, v2, v3] H n = B93_0 cal k v0 v1 v2 v3 H n := by
    rw [body_eq (fn := Go.Proofs.Try.f93) (c := code93) (rs := results93) (by kernel_rfl) (by kernel_rfl) (by kernel_rfl) (by kernel_rfl)]
    kernel_rfl
  rw [h, C93_0]
noncomputable def code94 : Code := codeOf 94
noncomputable def results94 : List ResultVar := resOf 94
noncomputable def K94_p (cal : Cal) (k : Nat) : KC (Value × Hp × Nat) := (cutK (A 94).c (codeE P cal (codeF P cal k) none 94 (cR code94) (Lv.b (A 94)) (doneK P results94) X0 (doneK P results94)))
noncomputable def K94_pr (cal : Cal) (k : Nat) : KC (Value × Hp × Nat) := (cutK (Lv.b (A 94)).c (codeE P cal (codeF P cal k) none 94 (cR (cR code94)) (Lv.b (Lv.b (A 94))) (doneK P results94) X0 (doneK P results94)))
noncomputable def K94_prr (cal : Cal) (k : Nat) : KC (Value × Hp × Nat) := (cutK (Lv.b (Lv.b (A 94))).c (codeE P cal (codeF P cal k) none 94 (cR (cR (cR code94))) (Lv.b (Lv.b (Lv.b (A 94)))) (doneK P results94) X0 (doneK P results94)))
noncomputable def K94_prrr (cal : Cal) (k : Nat) : KC (Value × Hp × Nat) := (cutK (Lv.b (Lv.b (Lv.b (A 94)))).c (codeE P cal (codeF P cal k) none 94 (cR (cR (cR (cR code94)))) (Lv.b (Lv.b (Lv.b (Lv.b (A 94))))) (doneK P results94) X0 (doneK P results94)))
noncomputable def K94_prrrr (cal : Cal) (k : Nat) : KC (Value × Hp × Nat) := (cutK (Lv.b (Lv.b (Lv.b (Lv.b (A 94))))).c (codeE P cal (codeF P cal k) none 94 (cR (cR (cR (cR (cR code94))))) (Lv.b (Lv.b (Lv.b (Lv.b (Lv.b (A 94)))))) (doneK P results94) X0 (doneK P results94)))
noncomputable def B94_0 (cal : Cal) (k : Nat) (v0 v1 v2 v3 v4 v5 : Value) (H : Hp) (n : Nat) : Res :=
callFK P cal 96 [v0, v1, v2, v4, v5] H n fun v19_7 H_8 n_9 =>
bindO (tupV v19_7 0) fun v20_11 =>
bindO (tupV v19_7 1) fun v21_12 =>
callFK P cal 96 [v0, v21_12, v3, v4, v5] H_8 n_9 fun v28_20 H_21 n_22 =>
bindO (tupV v28_20 0) fun v29_24 =>
bindO (tupV v28_20 1) fun v30_25 =>
callFK P cal 96 [v0, v20_11, v29_24, v4, v5] H_21 n_22 fun v37_33 H_34 n_35 =>
bindO (tupV v37_33 0) fun v38_37 =>
bindO (tupV v37_33 1) fun v39_38 =>
some (v39_38, H_34, n_35)
noncomputable def C94_0 (cal : Cal) (k : Nat) (v0 v1 v2 v3 v4 v5 : Value) (H : Hp) (n : Nat) : Res := B94_0 cal k v0 v1 v2 v3 v4 v5 H n
theorem h94_0 (cal : Cal) (k : Nat) (v0 v1 v2 v3 v4 v5 : Value) (H : Hp) (n : Nat) : bodyE P cal A (k + 1) 94 [v0, v1, v2, v3, v4, v5] H n = C94_0 cal k v0 v1 v2 v3 v4 v5 H n := by
  have h : bodyE P cal A (k + 1) 94 [v0, v1, v2, v3, v4, v5] H n = B94_0 cal k v0 v1 v2 v3 v4 v5 H n := by
    rw [body_eq (fn := Go.Proofs.Try.f94) (c := code94) (rs := results94) (by kernel_rfl) (by kernel_rfl) (by kernel_rfl) (by kernel_rfl)]
    kernel_rfl
  rw [h, C94_0]
noncomputable def code95 : Code := codeOf 95
noncomputable def results95 : List ResultVar := resOf 95
noncomputable def K95_p (cal : Cal) (k : Nat) : KC (Value × Hp × Nat) := (cutK (A 95).c (codeE P cal (codeF P cal k) none 95 (cR code95) (Lv.b (A 95)) (doneK P results95) X0 (doneK P results95)))
noncomputable def K95_pr (cal : Cal) (k : Nat) : KC (Value × Hp × Nat) := (cutK (Lv.b (A 95)).c (codeE P cal (codeF P cal k) none 95 (cR (cR code95)) (Lv.b (Lv.b (A 95))) (doneK P results95) X0 (doneK P results95)))
noncomputable def B95_0 (cal : Cal) (k : Nat) (v0 : Value) (H : Hp) (n : Nat) : Res :=
binK P Go.BinOp.neq 50 (Go.Operand.tmp 3) (Go.Operand.tmp 4) v0 v0 fun v5_4 =>
some (v5_4, H, n)
noncomputable def C95_0 (cal : Cal) (k : Nat) (v0 : Value) (H : Hp) (n : Nat) : Res := B95_0 cal k v0 H n
theorem h95_0 (cal : Cal) (k : Nat) (v0 : Value) (H : Hp) (n : Nat) : bodyE P cal A (k + 1) 95 [v0] H n = C95_0 cal k v0 H n := by
  have h : bodyE P cal A (k + 1) 95 [v0] H n = B95_0 cal k v0 H n := by
    rw [body_eq (fn := Go.Proofs.Try.f95) (c := code95) (rs := results95) (by kernel_rfl) (by kernel_rfl) (by kernel_rfl) (by kernel_rfl)]
    kernel_rfl
  rw [h, C95_0]
noncomputable def code96 : Code := codeOf 96
noncomputable def results96 : List ResultVar := resOf 96
noncomputable def K96_p (cal : Cal) (k : Nat) : KC (Value × Hp × Nat) := (cutK (A 96).c (codeE P cal (codeF P cal k) none 96 (cR code96) (Lv.b (A 96)) (doneK P results96) X0 (doneK P results96)))
noncomputable def K96_pr (cal : Cal) (k : Nat) : KC (Value × Hp × Nat) := (cutK (Lv.b (A 96)).c (codeE P cal (codeF P cal k) none 96 (cR (cR code96)) (Lv.b (Lv.b (A 96))) (doneK P results96) X0 (doneK P results96)))
noncomputable def K96_prl (cal : Cal) (k : Nat) : KC (Value × Hp × Nat) := (cutK (Lv.a (Lv.b (A 96))).c (codeE P cal (codeF P cal k) none 96 (cR (cL (cR code96))) (Lv.b (Lv.a (Lv.b (A 96)))) (K96_pr cal k) X0 (doneK P results96)))
noncomputable def K96_prlrl (cal : Cal) (k : Nat) : KC (Value × Hp × Nat) := (cutK (Lv.a (Lv.b (Lv.a (Lv.b (A 96))))).c (codeE P cal (codeF P cal k) none 96 (cR (cL (cR (cL (cR code96))))) (Lv.b (Lv.a (Lv.b (Lv.a (Lv.b (A 96)))))) (K96_pr cal k) X0 (doneK P results96)))
noncomputable def K96_prlrlr (cal : Cal) (k : Nat) : KC (Value × Hp × Nat) := (cutK (Lv.b (Lv.a (Lv.b (Lv.a (Lv.b (A 96)))))).c (codeE P cal (codeF P cal k) none 96 (cR (cR (cL (cR (cL (cR code96)))))) (Lv.b (Lv.b (Lv.a (Lv.b (Lv.a (Lv.b (A 96))))))) (K96_pr cal k) X0 (doneK P results96)))
noncomputable def K96_prr (cal : Cal) (k : Nat) : KC (Value × Hp × Nat) := (cutK (Lv.b (Lv.b (A 96))).c (codeE P cal (codeF P cal k) none 96 (cR (cR (cR code96))) (Lv.b (Lv.b (Lv.b (A 96)))) (doneK P results96) X0 (doneK P results96)))
noncomputable def B96_0 (cal : Cal) (k : Nat) (v0 v1 v2 v3 v4 : Value) (H : Hp) (n : Nat) : Res :=
bindO (indexAddrV P 54 v0 v2) fun v15_6 =>
bindO (addrV v15_6) fun a_7 => bindO (loadV P H 50 a_7) fun v_8 =>
bindO (indexAddrV P 54 v0 v1) fun v19_11 =>
bindO (addrV v19_11) fun a_12 => bindO (loadV P H 50 a_12) fun v_13 =>
callVK P cal v4 [v_8, v_13] H n fun v21_14 H_15 n_16 =>
binK P Go.BinOp.lss 3 (Go.Operand.tmp 21) (Go.Operand.const (Go.Value.int Go.IntKind.i64 0)) v21_14 (Go.Value.int Go.IntKind.i64 0) fun v22_17 =>
ifK v22_17 (
bindO (nilV v3) fun v24_19 =>
bindO (addrV v24_19) fun a_21 => bindO (loadV P H_15 3 a_21) fun v25_20 =>
binK P Go.BinOp.add 3 (Go.Operand.tmp 25) (Go.Operand.const (Go.Value.int Go.IntKind.i64 1)) v25_20 (Go.Value.int Go.IntKind.i64 1) fun v26_22 =>
bindO (nilV v3) fun v27_23 =>
bindO (storeP P 3 v27_23 v26_22 H_15) fun H_25 =>
some ((Value.tuple ⟨[v2, v1]⟩), H_25, n_16)) (
some ((Value.tuple ⟨[v1, v2]⟩), H_15, n_16))
noncomputable def C96_0 (cal : Cal) (k : Nat) (v0 v1 v2 v3 v4 : Value) (H : Hp) (n : Nat) : Res := B96_0 cal k v0 v1 v2 v3 v4 H n
theorem h96_0 (cal : Cal) (k : Nat) (v0 v1 v2 v3 v4 : Value) (H : Hp) (n : Nat) : bodyE P cal A (k + 1) 96 [v0, v1, v2, v3, v4] H n = C96_0 cal k v0 v1 v2 v3 v4 H n := by
  have h : bodyE P cal A (k + 1) 96 [v0, v1, v2, v3, v4] H n = B96_0 cal k v0 v1 v2 v3 v4 H n := by
    rw [body_eq (fn := Go.Proofs.Try.f96) (c := code96) (rs := results96) (by kernel_rfl) (by kernel_rfl) (by kernel_rfl) (by kernel_rfl)]
    kernel_rfl
  rw [h, C96_0]
end Go.Proofs.Ytakjjillnllocab.P
