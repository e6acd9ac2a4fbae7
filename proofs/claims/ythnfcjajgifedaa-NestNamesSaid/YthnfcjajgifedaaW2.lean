/- The texts of functions, each with the proof that the evaluator says the same. -/
import Derived.Test.YthnfcjajgifedaaW1
open Go Go.Ev
set_option maxRecDepth 1000000
set_option linter.unusedVariables false
noncomputable section
namespace Go.Proofs.Ythnfcjajgifedaa.W
noncomputable def code10 : Code := codeOf 10
noncomputable def results10 : List ResultVar := resOf 10
noncomputable def K10_p (cal : Cal) (k : Nat) : KC (Value × Hp × Nat) := (cutK (A 10).c (codeE P cal (codeF P cal k) none 10 (cR code10) (Lv.b (A 10)) (doneK P results10) X0 (doneK P results10)))
noncomputable def K10_pr (cal : Cal) (k : Nat) : KC (Value × Hp × Nat) := (cutK (Lv.b (A 10)).c (codeE P cal (codeF P cal k) none 10 (cR (cR code10)) (Lv.b (Lv.b (A 10))) (doneK P results10) X0 (doneK P results10)))
noncomputable def K10_prr (cal : Cal) (k : Nat) : KC (Value × Hp × Nat) := (cutK (Lv.b (Lv.b (A 10))).c (codeE P cal (codeF P cal k) none 10 (cR (cR (cR code10))) (Lv.b (Lv.b (Lv.b (A 10)))) (doneK P results10) X0 (doneK P results10)))
noncomputable def K10_prrr (cal : Cal) (k : Nat) : KC (Value × Hp × Nat) := (cutK (Lv.b (Lv.b (Lv.b (A 10)))).c (codeE P cal (codeF P cal k) none 10 (cR (cR (cR (cR code10)))) (Lv.b (Lv.b (Lv.b (Lv.b (A 10))))) (doneK P results10) X0 (doneK P results10)))
noncomputable def K10_prrrr (cal : Cal) (k : Nat) : KC (Value × Hp × Nat) := (cutK (Lv.b (Lv.b (Lv.b (Lv.b (A 10))))).c (codeE P cal (codeF P cal k) none 10 (cR (cR (cR (cR (cR code10))))) (Lv.b (Lv.b (Lv.b (Lv.b (Lv.b (A 10)))))) (doneK P results10) X0 (doneK P results10)))
noncomputable def K10_prrrrr (cal : Cal) (k : Nat) : KC (Value × Hp × Nat) := (cutK (Lv.b (Lv.b (Lv.b (Lv.b (Lv.b (A 10)))))).c (codeE P cal (codeF P cal k) none 10 (cR (cR (cR (cR (cR (cR code10)))))) (Lv.b (Lv.b (Lv.b (Lv.b (Lv.b (Lv.b (A 10))))))) (doneK P results10) X0 (doneK P results10)))
noncomputable def K10_prrrrrl (cal : Cal) (k : Nat) : KC (Value × Hp × Nat) := (cutK (Lv.a (Lv.b (Lv.b (Lv.b (Lv.b (Lv.b (A 10))))))).c (codeE P cal (codeF P cal k) none 10 (cR (cL (cR (cR (cR (cR (cR code10))))))) (Lv.b (Lv.a (Lv.b (Lv.b (Lv.b (Lv.b (Lv.b (A 10)))))))) (K10_prrrrr cal k) X0 (doneK P results10)))
noncomputable def K10_prrrrrlrl (cal : Cal) (k : Nat) : KC (Value × Hp × Nat) := (cutK (Lv.a (Lv.b (Lv.a (Lv.b (Lv.b (Lv.b (Lv.b (Lv.b (A 10))))))))).c (codeE P cal (codeF P cal k) none 10 (cR (cL (cR (cL (cR (cR (cR (cR (cR code10))))))))) (Lv.b (Lv.a (Lv.b (Lv.a (Lv.b (Lv.b (Lv.b (Lv.b (Lv.b (A 10)))))))))) (K10_prrrrr cal k) X0 (doneK P results10)))
noncomputable def K10_prrrrrr (cal : Cal) (k : Nat) : KC (Value × Hp × Nat) := (cutK (Lv.b (Lv.b (Lv.b (Lv.b (Lv.b (Lv.b (A 10))))))).c (codeE P cal (codeF P cal k) none 10 (cR (cR (cR (cR (cR (cR (cR code10))))))) (Lv.b (Lv.b (Lv.b (Lv.b (Lv.b (Lv.b (Lv.b (A 10)))))))) (doneK P results10) X0 (doneK P results10)))
noncomputable def K10_prrrrrrr (cal : Cal) (k : Nat) : KC (Value × Hp × Nat) := (cutK (Lv.b (Lv.b (Lv.b (Lv.b (Lv.b (Lv.b (Lv.b (A 10)))))))).c (codeE P cal (codeF P cal k) none 10 (cR (cR (cR (cR (cR (cR (cR (cR code10)))))))) (Lv.b (Lv.b (Lv.b (Lv.b (Lv.b (Lv.b (Lv.b (Lv.b (A 10))))))))) (doneK P results10) X0 (doneK P results10)))
noncomputable def K10_prrrrrrrr (cal : Cal) (k : Nat) : KC (Value × Hp × Nat) := (cutK (Lv.b (Lv.b (Lv.b (Lv.b (Lv.b (Lv.b (Lv.b (Lv.b (A 10))))))))).c (codeE P cal (codeF P cal k) none 10 (cR (cR (cR (cR (cR (cR (cR (cR (cR code10))))))))) (Lv.b (Lv.b (Lv.b (Lv.b (Lv.b (Lv.b (Lv.b (Lv.b (Lv.b (A 10)))))))))) (doneK P results10) X0 (doneK P results10)))
noncomputable def K10_prrrrrrrrr (cal : Cal) (k : Nat) : KC (Value × Hp × Nat) := (cutK (Lv.b (Lv.b (Lv.b (Lv.b (Lv.b (Lv.b (Lv.b (Lv.b (Lv.b (A 10)))))))))).c (codeE P cal (codeF P cal k) none 10 (cR (cR (cR (cR (cR (cR (cR (cR (cR (cR code10)))))))))) (Lv.b (Lv.b (Lv.b (Lv.b (Lv.b (Lv.b (Lv.b (Lv.b (Lv.b (Lv.b (A 10))))))))))) (doneK P results10) X0 (doneK P results10)))
noncomputable def K10_prrrrrrrrrr (cal : Cal) (k : Nat) : KC (Value × Hp × Nat) := (cutK (Lv.b (Lv.b (Lv.b (Lv.b (Lv.b (Lv.b (Lv.b (Lv.b (Lv.b (Lv.b (A 10))))))))))).c (codeE P cal (codeF P cal k) none 10 (cR (cR (cR (cR (cR (cR (cR (cR (cR (cR (cR code10))))))))))) (Lv.b (Lv.b (Lv.b (Lv.b (Lv.b (Lv.b (Lv.b (Lv.b (Lv.b (Lv.b (Lv.b (A 10)))))))))))) (doneK P results10) X0 (doneK P results10)))
noncomputable def K10_prrrrrrrrrrr (cal : Cal) (k : Nat) : KC (Value × Hp × Nat) := (cutK (Lv.b (Lv.b (Lv.b (Lv.b (Lv.b (Lv.b (Lv.b (Lv.b (Lv.b (Lv.b (Lv.b (A 10)))))))))))).c (codeE P cal (codeF P cal k) none 10 (cR (cR (cR (cR (cR (cR (cR (cR (cR (cR (cR (cR code10)))))))))))) (Lv.b (Lv.b (Lv.b (Lv.b (Lv.b (Lv.b (Lv.b (Lv.b (Lv.b (Lv.b (Lv.b (Lv.b (A 10))))))))))))) (doneK P results10) X0 (doneK P results10)))
noncomputable def K10_prrrrrrrrrrrr (cal : Cal) (k : Nat) : KC (Value × Hp × Nat) := (cutK (Lv.b (Lv.b (Lv.b (Lv.b (Lv.b (Lv.b (Lv.b (Lv.b (Lv.b (Lv.b (Lv.b (Lv.b (A 10))))))))))))).c (codeE P cal (codeF P cal k) none 10 (cR (cR (cR (cR (cR (cR (cR (cR (cR (cR (cR (cR (cR code10))))))))))))) (Lv.b (Lv.b (Lv.b (Lv.b (Lv.b (Lv.b (Lv.b (Lv.b (Lv.b (Lv.b (Lv.b (Lv.b (Lv.b (A 10)))))))))))))) (doneK P results10) X0 (doneK P results10)))
noncomputable def K10_prrrrrrrrrrrrr (cal : Cal) (k : Nat) : KC (Value × Hp × Nat) := (cutK (Lv.b (Lv.b (Lv.b (Lv.b (Lv.b (Lv.b (Lv.b (Lv.b (Lv.b (Lv.b (Lv.b (Lv.b (Lv.b (A 10)))))))))))))).c (codeE P cal (codeF P cal k) none 10 (cR (cR (cR (cR (cR (cR (cR (cR (cR (cR (cR (cR (cR (cR code10)))))))))))))) (Lv.b (Lv.b (Lv.b (Lv.b (Lv.b (Lv.b (Lv.b (Lv.b (Lv.b (Lv.b (Lv.b (Lv.b (Lv.b (Lv.b (A 10))))))))))))))) (doneK P results10) X0 (doneK P results10)))
noncomputable def K10_prrrrrrrrrrrrrr (cal : Cal) (k : Nat) : KC (Value × Hp × Nat) := (cutK (Lv.b (Lv.b (Lv.b (Lv.b (Lv.b (Lv.b (Lv.b (Lv.b (Lv.b (Lv.b (Lv.b (Lv.b (Lv.b (Lv.b (A 10))))))))))))))).c (codeE P cal (codeF P cal k) none 10 (cR (cR (cR (cR (cR (cR (cR (cR (cR (cR (cR (cR (cR (cR (cR code10))))))))))))))) (Lv.b (Lv.b (Lv.b (Lv.b (Lv.b (Lv.b (Lv.b (Lv.b (Lv.b (Lv.b (Lv.b (Lv.b (Lv.b (Lv.b (Lv.b (A 10)))))))))))))))) (doneK P results10) X0 (doneK P results10)))
noncomputable def K10_prrrrrrrrrrrrrrr (cal : Cal) (k : Nat) : KC (Value × Hp × Nat) := (cutK (Lv.b (Lv.b (Lv.b (Lv.b (Lv.b (Lv.b (Lv.b (Lv.b (Lv.b (Lv.b (Lv.b (Lv.b (Lv.b (Lv.b (Lv.b (A 10)))))))))))))))).c (codeE P cal (codeF P cal k) none 10 (cR (cR (cR (cR (cR (cR (cR (cR (cR (cR (cR (cR (cR (cR (cR (cR code10)))))))))))))))) (Lv.b (Lv.b (Lv.b (Lv.b (Lv.b (Lv.b (Lv.b (Lv.b (Lv.b (Lv.b (Lv.b (Lv.b (Lv.b (Lv.b (Lv.b (Lv.b (A 10))))))))))))))))) (doneK P results10) X0 (doneK P results10)))
noncomputable def K10_prrrrrrrrrrrrrrrr (cal : Cal) (k : Nat) : KC (Value × Hp × Nat) := (cutK (Lv.b (Lv.b (Lv.b (Lv.b (Lv.b (Lv.b (Lv.b (Lv.b (Lv.b (Lv.b (Lv.b (Lv.b (Lv.b (Lv.b (Lv.b (Lv.b (A 10))))))))))))))))).c (codeE P cal (codeF P cal k) none 10 (cR (cR (cR (cR (cR (cR (cR (cR (cR (cR (cR (cR (cR (cR (cR (cR (cR code10))))))))))))))))) (Lv.b (Lv.b (Lv.b (Lv.b (Lv.b (Lv.b (Lv.b (Lv.b (Lv.b (Lv.b (Lv.b (Lv.b (Lv.b (Lv.b (Lv.b (Lv.b (Lv.b (A 10)))))))))))))))))) (doneK P results10) X0 (doneK P results10)))
noncomputable def K10_prrrrrrrrrrrrrrrrr (cal : Cal) (k : Nat) : KC (Value × Hp × Nat) := (cutK (Lv.b (Lv.b (Lv.b (Lv.b (Lv.b (Lv.b (Lv.b (Lv.b (Lv.b (Lv.b (Lv.b (Lv.b (Lv.b (Lv.b (Lv.b (Lv.b (Lv.b (A 10)))))))))))))))))).c (codeE P cal (codeF P cal k) none 10 (cR (cR (cR (cR (cR (cR (cR (cR (cR (cR (cR (cR (cR (cR (cR (cR (cR (cR code10)))))))))))))))))) (Lv.b (Lv.b (Lv.b (Lv.b (Lv.b (Lv.b (Lv.b (Lv.b (Lv.b (Lv.b (Lv.b (Lv.b (Lv.b (Lv.b (Lv.b (Lv.b (Lv.b (Lv.b (A 10))))))))))))))))))) (doneK P results10) X0 (doneK P results10)))
noncomputable def K10_prrrrrrrrrrrrrrrrrr (cal : Cal) (k : Nat) : KC (Value × Hp × Nat) := (cutK (Lv.b (Lv.b (Lv.b (Lv.b (Lv.b (Lv.b (Lv.b (Lv.b (Lv.b (Lv.b (Lv.b (Lv.b (Lv.b (Lv.b (Lv.b (Lv.b (Lv.b (Lv.b (A 10))))))))))))))))))).c (codeE P cal (codeF P cal k) none 10 (cR (cR (cR (cR (cR (cR (cR (cR (cR (cR (cR (cR (cR (cR (cR (cR (cR (cR (cR code10))))))))))))))))))) (Lv.b (Lv.b (Lv.b (Lv.b (Lv.b (Lv.b (Lv.b (Lv.b (Lv.b (Lv.b (Lv.b (Lv.b (Lv.b (Lv.b (Lv.b (Lv.b (Lv.b (Lv.b (Lv.b (A 10)))))))))))))))))))) (doneK P results10) X0 (doneK P results10)))
noncomputable def B10_0 (cal : Cal) (k : Nat) (H : Hp) (n : Nat) : Res :=
callFK P cal 52 [] H n fun v20_2 H_3 n_4 =>
rowK P 44 2 [(0, (Go.Value.int Go.IntKind.i64 0)), (1, (Go.Value.int Go.IntKind.i64 1))] H_3 n_4 fun v21_5 H_6 n_7 =>
callFK P cal 53 [v21_5] H_6 n_7 fun v22_8 H_9 n_10 =>
callFK P cal 22 [v20_2, v22_8] H_9 n_10 fun v23_11 H_12 n_13 =>
bindO (tupV v23_11 0) fun v24_15 =>
bindO (tupV v23_11 1) fun v25_16 =>
callFK P cal 52 [] H_12 n_13 fun v27_19 H_20 n_21 =>
rowK P 44 2 [(0, (Go.Value.int Go.IntKind.i64 1)), (1, (Go.Value.int Go.IntKind.i64 3))] H_20 n_21 fun v28_22 H_23 n_24 =>
callFK P cal 53 [v28_22] H_23 n_24 fun v29_25 H_26 n_27 =>
callFK P cal 31 [v27_19, v29_25, (Go.Value.int Go.IntKind.i64 2), (Go.Value.bool true)] H_26 n_27 fun v30_28 H_29 n_30 =>
bindO (tupV v30_28 0) fun v31_32 =>
bindO (tupV v30_28 1) fun v32_33 =>
callFK P cal 52 [] H_29 n_30 fun v34_36 H_37 n_38 =>
callFK P cal 19 [v34_36] H_37 n_38 fun v35_39 H_40 n_41 =>
bindO (tupV v35_39 0) fun v36_43 =>
bindO (tupV v35_39 1) fun v37_44 =>
callFK P cal 52 [] H_40 n_41 fun v39_47 H_48 n_49 =>
rowK P 44 2 [(0, (Go.Value.int Go.IntKind.i64 1)), (1, (Go.Value.int Go.IntKind.i64 3))] H_48 n_49 fun v40_50 H_51 n_52 =>
callFK P cal 53 [v40_50] H_51 n_52 fun v41_53 H_54 n_55 =>
callFK P cal 37 [v39_47, v41_53] H_54 n_55 fun v42_56 H_57 n_58 =>
bindO (tupV v42_56 0) fun v43_60 =>
bindO (tupV v42_56 1) fun v44_61 =>
binK P Go.BinOp.neq 29 (Go.Operand.tmp 45) (Go.Operand.const (Go.Value.int Go.IntKind.i64 0)) v25_16 (Go.Value.int Go.IntKind.i64 0) fun v46_65 =>
guardD v46_65 false (fun k_67 =>
k_67 v24_15 .p H_57 n_58) .p H_57 n_58 fun v_68 x_69 H_70 n_71 =>
guardD v46_65 false (fun k_73 =>
bindO (lenV P 45 v_68) fun v49_78 =>
k_73 v49_78 .p H_70 n_71) .p H_70 n_71 fun v_74 x_75 H_76 n_77 =>
guardD v46_65 false (fun k_79 =>
binK P Go.BinOp.neq 3 (Go.Operand.tmp 49) (Go.Operand.const (Go.Value.int Go.IntKind.i64 5)) v_74 (Go.Value.int Go.IntKind.i64 5) fun v50_84 =>
k_79 v50_84 .p H_76 n_77) .p H_76 n_77 fun v_80 x_81 H_82 n_83 =>
bindO (pickV v46_65 (Go.Value.bool true) v_80) fun v51_85 =>
guardD v51_85 false (fun k_87 =>
k_87 v24_15 .p H_82 n_83) .p H_82 n_83 fun v_88 x_89 H_90 n_91 =>
guardD v51_85 false (fun k_93 =>
bindO (indexAddrV P 45 v_88 (Go.Value.int Go.IntKind.i64 0)) fun v54_98 =>
k_93 v54_98 .p H_90 n_91) .p H_90 n_91 fun v_94 x_95 H_96 n_97 =>
guardD v51_85 false (fun k_99 =>
bindO (addrV v_94) fun a_104 => bindO (loadV P H_96 53 a_104) fun v_105 =>
k_99 v_105 (.l 53 a_104) H_96 n_97) .p H_96 n_97 fun v_100 x_101 H_102 n_103 =>
guardD v51_85 false (fun k_106 =>
effK P [x_101] H_102 n_103 (fun H_111 n_112 k_113 =>
callFK P cal 54 [(Go.Value.int Go.IntKind.i64 40), (Go.Value.int Go.IntKind.i64 50)] H_111 n_112 fun v56_117 H_118 n_119 =>
k_113 v56_117 H_118 n_119) fun v_114 H_115 n_116 =>
k_106 v_114 .e H_115 n_116) .e H_102 n_103 fun v_107 x_108 H_109 n_110 =>
guardD v51_85 false (fun k_120 =>
binK P Go.BinOp.neq 53 (Go.Operand.tmp 55) (Go.Operand.tmp 56) v_100 v_107 fun v57_125 =>
k_120 v57_125 .p H_109 n_110) .p H_109 n_110 fun v_121 x_122 H_123 n_124 =>
bindO (pickV v51_85 (Go.Value.bool true) v_121) fun v58_126 =>
guardD v58_126 false (fun k_128 =>
k_128 v24_15 .p H_123 n_124) .p H_123 n_124 fun v_129 x_130 H_131 n_132 =>
guardD v58_126 false (fun k_134 =>
bindO (indexAddrV P 45 v_129 (Go.Value.int Go.IntKind.i64 2)) fun v61_139 =>
k_134 v61_139 .p H_131 n_132) .p H_131 n_132 fun v_135 x_136 H_137 n_138 =>
guardD v58_126 false (fun k_140 =>
bindO (addrV v_135) fun a_145 => bindO (loadV P H_137 53 a_145) fun v_146 =>
k_140 v_146 (.l 53 a_145) H_137 n_138) .p H_137 n_138 fun v_141 x_142 H_143 n_144 =>
guardD v58_126 false (fun k_147 =>
effK P [x_142] H_143 n_144 (fun H_152 n_153 k_154 =>
callFK P cal 54 [(Go.Value.int Go.IntKind.i64 10), (Go.Value.int Go.IntKind.i64 20)] H_152 n_153 fun v63_158 H_159 n_160 =>
k_154 v63_158 H_159 n_160) fun v_155 H_156 n_157 =>
k_147 v_155 .e H_156 n_157) .e H_143 n_144 fun v_148 x_149 H_150 n_151 =>
guardD v58_126 false (fun k_161 =>
binK P Go.BinOp.neq 53 (Go.Operand.tmp 62) (Go.Operand.tmp 63) v_141 v_148 fun v64_166 =>
k_161 v64_166 .p H_150 n_151) .p H_150 n_151 fun v_162 x_163 H_164 n_165 =>
bindO (pickV v58_126 (Go.Value.bool true) v_162) fun v65_167 =>
guardD v65_167 false (fun k_169 =>
k_169 v24_15 .p H_164 n_165) .p H_164 n_165 fun v_170 x_171 H_172 n_173 =>
guardD v65_167 false (fun k_175 =>
bindO (indexAddrV P 45 v_170 (Go.Value.int Go.IntKind.i64 4)) fun v68_180 =>
k_175 v68_180 .p H_172 n_173) .p H_172 n_173 fun v_176 x_177 H_178 n_179 =>
guardD v65_167 false (fun k_181 =>
bindO (addrV v_176) fun a_186 => bindO (loadV P H_178 53 a_186) fun v_187 =>
k_181 v_187 (.l 53 a_186) H_178 n_179) .p H_178 n_179 fun v_182 x_183 H_184 n_185 =>
guardD v65_167 false (fun k_188 =>
effK P [x_183] H_184 n_185 (fun H_193 n_194 k_195 =>
callFK P cal 54 [(Go.Value.int Go.IntKind.i64 0), (Go.Value.int Go.IntKind.i64 0)] H_193 n_194 fun v70_199 H_200 n_201 =>
k_195 v70_199 H_200 n_201) fun v_196 H_197 n_198 =>
k_188 v_196 .e H_197 n_198) .e H_184 n_185 fun v_189 x_190 H_191 n_192 =>
guardD v65_167 false (fun k_202 =>
binK P Go.BinOp.neq 53 (Go.Operand.tmp 69) (Go.Operand.tmp 70) v_182 v_189 fun v71_207 =>
k_202 v71_207 .p H_191 n_192) .p H_191 n_192 fun v_203 x_204 H_205 n_206 =>
bindO (pickV v65_167 (Go.Value.bool true) v_203) fun v72_208 =>
guardD v72_208 false (fun k_210 =>
k_210 v32_33 .p H_205 n_206) .p H_205 n_206 fun v_211 x_212 H_213 n_214 =>
guardD v72_208 false (fun k_216 =>
binK P Go.BinOp.neq 29 (Go.Operand.tmp 74) (Go.Operand.const (Go.Value.int Go.IntKind.i64 0)) v_211 (Go.Value.int Go.IntKind.i64 0) fun v75_221 =>
k_216 v75_221 .p H_213 n_214) .p H_213 n_214 fun v_217 x_218 H_219 n_220 =>
bindO (pickV v72_208 (Go.Value.bool true) v_217) fun v76_222 =>
guardD v76_222 false (fun k_224 =>
k_224 v31_32 .p H_219 n_220) .p H_219 n_220 fun v_225 x_226 H_227 n_228 =>
guardD v76_222 false (fun k_230 =>
bindO (lenV P 59 v_225) fun v79_235 =>
k_230 v79_235 .p H_227 n_228) .p H_227 n_228 fun v_231 x_232 H_233 n_234 =>
guardD v76_222 false (fun k_236 =>
binK P Go.BinOp.neq 3 (Go.Operand.tmp 79) (Go.Operand.const (Go.Value.int Go.IntKind.i64 5)) v_231 (Go.Value.int Go.IntKind.i64 5) fun v80_241 =>
k_236 v80_241 .p H_233 n_234) .p H_233 n_234 fun v_237 x_238 H_239 n_240 =>
bindO (pickV v76_222 (Go.Value.bool true) v_237) fun v81_242 =>
guardD v81_242 false (fun k_244 =>
k_244 v31_32 .p H_239 n_240) .p H_239 n_240 fun v_245 x_246 H_247 n_248 =>
guardD v81_242 false (fun k_250 =>
bindO (indexAddrV P 59 v_245 (Go.Value.int Go.IntKind.i64 0)) fun v84_255 =>
k_250 v84_255 .p H_247 n_248) .p H_247 n_248 fun v_251 x_252 H_253 n_254 =>
guardD v81_242 false (fun k_256 =>
bindO (addrV v_251) fun a_261 => bindO (loadV P H_253 44 a_261) fun v_262 =>
k_256 v_262 (.l 44 a_261) H_253 n_254) .p H_253 n_254 fun v_257 x_258 H_259 n_260 =>
guardD v81_242 false (fun k_263 =>
bindO (lenV P 44 v_257) fun v86_268 =>
k_263 v86_268 .p H_259 n_260) .p H_259 n_260 fun v_264 x_265 H_266 n_267 =>
guardD v81_242 false (fun k_269 =>
binK P Go.BinOp.neq 3 (Go.Operand.tmp 86) (Go.Operand.const (Go.Value.int Go.IntKind.i64 0)) v_264 (Go.Value.int Go.IntKind.i64 0) fun v87_274 =>
k_269 v87_274 .p H_266 n_267) .p H_266 n_267 fun v_270 x_271 H_272 n_273 =>
bindO (pickV v81_242 (Go.Value.bool true) v_270) fun v88_275 =>
guardD v88_275 false (fun k_277 =>
k_277 v31_32 .p H_272 n_273) .p H_272 n_273 fun v_278 x_279 H_280 n_281 =>
guardD v88_275 false (fun k_283 =>
bindO (indexAddrV P 59 v_278 (Go.Value.int Go.IntKind.i64 1)) fun v91_288 =>
k_283 v91_288 .p H_280 n_281) .p H_280 n_281 fun v_284 x_285 H_286 n_287 =>
guardD v88_275 false (fun k_289 =>
bindO (addrV v_284) fun a_294 => bindO (loadV P H_286 44 a_294) fun v_295 =>
k_289 v_295 (.l 44 a_294) H_286 n_287) .p H_286 n_287 fun v_290 x_291 H_292 n_293 =>
guardD v88_275 false (fun k_296 =>
bindO (lenV P 44 v_290) fun v93_301 =>
k_296 v93_301 .p H_292 n_293) .p H_292 n_293 fun v_297 x_298 H_299 n_300 =>
guardD v88_275 false (fun k_302 =>
binK P Go.BinOp.neq 3 (Go.Operand.tmp 93) (Go.Operand.const (Go.Value.int Go.IntKind.i64 5)) v_297 (Go.Value.int Go.IntKind.i64 5) fun v94_307 =>
k_302 v94_307 .p H_299 n_300) .p H_299 n_300 fun v_303 x_304 H_305 n_306 =>
bindO (pickV v88_275 (Go.Value.bool true) v_303) fun v95_308 =>
guardD v95_308 false (fun k_310 =>
k_310 v31_32 .p H_305 n_306) .p H_305 n_306 fun v_311 x_312 H_313 n_314 =>
guardD v95_308 false (fun k_316 =>
bindO (indexAddrV P 59 v_311 (Go.Value.int Go.IntKind.i64 1)) fun v98_321 =>
k_316 v98_321 .p H_313 n_314) .p H_313 n_314 fun v_317 x_318 H_319 n_320 =>
guardD v95_308 false (fun k_322 =>
bindO (addrV v_317) fun a_327 => bindO (loadV P H_319 44 a_327) fun v_328 =>
k_322 v_328 (.l 44 a_327) H_319 n_320) .p H_319 n_320 fun v_323 x_324 H_325 n_326 =>
guardD v95_308 false (fun k_329 =>
bindO (indexAddrV P 44 v_323 (Go.Value.int Go.IntKind.i64 2)) fun v100_334 =>
k_329 v100_334 .p H_325 n_326) .p H_325 n_326 fun v_330 x_331 H_332 n_333 =>
guardD v95_308 false (fun k_335 =>
bindO (addrV v_330) fun a_340 => bindO (loadV P H_332 3 a_340) fun v_341 =>
k_335 v_341 (.l 3 a_340) H_332 n_333) .p H_332 n_333 fun v_336 x_337 H_338 n_339 =>
guardD v95_308 false (fun k_342 =>
binK P Go.BinOp.neq 3 (Go.Operand.tmp 101) (Go.Operand.const (Go.Value.int Go.IntKind.i64 20)) v_336 (Go.Value.int Go.IntKind.i64 20) fun v102_347 =>
k_342 v102_347 .p H_338 n_339) .p H_338 n_339 fun v_343 x_344 H_345 n_346 =>
bindO (pickV v95_308 (Go.Value.bool true) v_343) fun v103_348 =>
guardD v103_348 false (fun k_350 =>
k_350 v31_32 .p H_345 n_346) .p H_345 n_346 fun v_351 x_352 H_353 n_354 =>
guardD v103_348 false (fun k_356 =>
bindO (indexAddrV P 59 v_351 (Go.Value.int Go.IntKind.i64 3)) fun v106_361 =>
k_356 v106_361 .p H_353 n_354) .p H_353 n_354 fun v_357 x_358 H_359 n_360 =>
guardD v103_348 false (fun k_362 =>
bindO (addrV v_357) fun a_367 => bindO (loadV P H_359 44 a_367) fun v_368 =>
k_362 v_368 (.l 44 a_367) H_359 n_360) .p H_359 n_360 fun v_363 x_364 H_365 n_366 =>
guardD v103_348 false (fun k_369 =>
bindO (indexAddrV P 44 v_363 (Go.Value.int Go.IntKind.i64 2)) fun v108_374 =>
k_369 v108_374 .p H_365 n_366) .p H_365 n_366 fun v_370 x_371 H_372 n_373 =>
guardD v103_348 false (fun k_375 =>
bindO (addrV v_370) fun a_380 => bindO (loadV P H_372 3 a_380) fun v_381 =>
k_375 v_381 (.l 3 a_380) H_372 n_373) .p H_372 n_373 fun v_376 x_377 H_378 n_379 =>
guardD v103_348 false (fun k_382 =>
binK P Go.BinOp.neq 3 (Go.Operand.tmp 109) (Go.Operand.const (Go.Value.int Go.IntKind.i64 20)) v_376 (Go.Value.int Go.IntKind.i64 20) fun v110_387 =>
k_382 v110_387 .p H_378 n_379) .p H_378 n_379 fun v_383 x_384 H_385 n_386 =>
bindO (pickV v103_348 (Go.Value.bool true) v_383) fun v111_388 =>
guardD v111_388 false (fun k_390 =>
k_390 v37_44 .p H_385 n_386) .p H_385 n_386 fun v_391 x_392 H_393 n_394 =>
guardD v111_388 false (fun k_396 =>
binK P Go.BinOp.neq 29 (Go.Operand.tmp 113) (Go.Operand.const (Go.Value.int Go.IntKind.i64 0)) v_391 (Go.Value.int Go.IntKind.i64 0) fun v114_401 =>
k_396 v114_401 .p H_393 n_394) .p H_393 n_394 fun v_397 x_398 H_399 n_400 =>
bindO (pickV v111_388 (Go.Value.bool true) v_397) fun v115_402 =>
guardD v115_402 false (fun k_404 =>
k_404 v36_43 .p H_399 n_400) .p H_399 n_400 fun v_405 x_406 H_407 n_408 =>
guardD v115_402 false (fun k_410 =>
bindO (lenV P 37 v_405) fun v118_415 =>
k_410 v118_415 .p H_407 n_408) .p H_407 n_408 fun v_411 x_412 H_413 n_414 =>
guardD v115_402 false (fun k_416 =>
binK P Go.BinOp.neq 3 (Go.Operand.tmp 118) (Go.Operand.const (Go.Value.int Go.IntKind.i64 5)) v_411 (Go.Value.int Go.IntKind.i64 5) fun v119_421 =>
k_416 v119_421 .p H_413 n_414) .p H_413 n_414 fun v_417 x_418 H_419 n_420 =>
bindO (pickV v115_402 (Go.Value.bool true) v_417) fun v120_422 =>
guardD v120_422 false (fun k_424 =>
k_424 v36_43 .p H_419 n_420) .p H_419 n_420 fun v_425 x_426 H_427 n_428 =>
guardD v120_422 false (fun k_430 =>
bindO (indexAddrV P 37 v_425 (Go.Value.int Go.IntKind.i64 0)) fun v123_435 =>
k_430 v123_435 .p H_427 n_428) .p H_427 n_428 fun v_431 x_432 H_433 n_434 =>
guardD v120_422 false (fun k_436 =>
bindO (addrV v_431) fun a_441 => bindO (loadV P H_433 41 a_441) fun v_442 =>
k_436 v_442 (.l 41 a_441) H_433 n_434) .p H_433 n_434 fun v_437 x_438 H_439 n_440 =>
guardD v120_422 false (fun k_443 =>
bindO (lenV P 41 v_437) fun v125_448 =>
k_443 v125_448 .p H_439 n_440) .p H_439 n_440 fun v_444 x_445 H_446 n_447 =>
guardD v120_422 false (fun k_449 =>
binK P Go.BinOp.neq 3 (Go.Operand.tmp 125) (Go.Operand.const (Go.Value.int Go.IntKind.i64 1)) v_444 (Go.Value.int Go.IntKind.i64 1) fun v126_454 =>
k_449 v126_454 .p H_446 n_447) .p H_446 n_447 fun v_450 x_451 H_452 n_453 =>
bindO (pickV v120_422 (Go.Value.bool true) v_450) fun v127_455 =>
guardD v127_455 false (fun k_457 =>
k_457 v36_43 .p H_452 n_453) .p H_452 n_453 fun v_458 x_459 H_460 n_461 =>
guardD v127_455 false (fun k_463 =>
bindO (indexAddrV P 37 v_458 (Go.Value.int Go.IntKind.i64 0)) fun v130_468 =>
k_463 v130_468 .p H_460 n_461) .p H_460 n_461 fun v_464 x_465 H_466 n_467 =>
guardD v127_455 false (fun k_469 =>
bindO (addrV v_464) fun a_474 => bindO (loadV P H_466 41 a_474) fun v_475 =>
k_469 v_475 (.l 41 a_474) H_466 n_467) .p H_466 n_467 fun v_470 x_471 H_472 n_473 =>
guardD v127_455 false (fun k_476 =>
bindO (indexAddrV P 41 v_470 (Go.Value.int Go.IntKind.i64 0)) fun v132_481 =>
k_476 v132_481 .p H_472 n_473) .p H_472 n_473 fun v_477 x_478 H_479 n_480 =>
guardD v127_455 false (fun k_482 =>
bindO (addrV v_477) fun a_487 => bindO (loadV P H_479 4 a_487) fun v_488 =>
k_482 v_488 (.l 4 a_487) H_479 n_480) .p H_479 n_480 fun v_483 x_484 H_485 n_486 =>
guardD v127_455 false (fun k_489 =>
bindO (pureSem P v_483 (Op.unary Go.UnOp.not v_483)) fun v134_494 =>
k_489 v134_494 .p H_485 n_486) .p H_485 n_486 fun v_490 x_491 H_492 n_493 =>
bindO (pickV v127_455 (Go.Value.bool true) v_490) fun v135_495 =>
guardD v135_495 false (fun k_497 =>
k_497 v44_61 .p H_492 n_493) .p H_492 n_493 fun v_498 x_499 H_500 n_501 =>
guardD v135_495 false (fun k_503 =>
binK P Go.BinOp.neq 29 (Go.Operand.tmp 137) (Go.Operand.const (Go.Value.int Go.IntKind.i64 0)) v_498 (Go.Value.int Go.IntKind.i64 0) fun v138_508 =>
k_503 v138_508 .p H_500 n_501) .p H_500 n_501 fun v_504 x_505 H_506 n_507 =>
bindO (pickV v135_495 (Go.Value.bool true) v_504) fun v139_509 =>
guardD v139_509 false (fun k_511 =>
bindO (rowOf P 44 2 [(0, (Go.Value.int Go.IntKind.i64 1)), (1, (Go.Value.int Go.IntKind.i64 3))]) fun q_518 => newK q_518.1 q_518.2 H_506 n_507 fun H_516 n_517 =>
k_511 (.slice (some ⟨n_507, 0, none⟩) 2 2) (.a n_507 q_518.1 q_518.2) H_516 n_517) .p H_506 n_507 fun v_512 x_513 H_514 n_515 =>
guardD v139_509 false (fun k_519 =>
k_519 v43_60 .p H_514 n_515) .p H_514 n_515 fun v_520 x_521 H_522 n_523 =>
guardD v139_509 false (fun k_525 =>
effK P [x_513] H_522 n_523 (fun H_530 n_531 k_532 =>
callFK P cal 52 [] H_530 n_531 fun v141_536 H_537 n_538 =>
k_532 v141_536 H_537 n_538) fun v_533 H_534 n_535 =>
k_525 v_533 .e H_534 n_535) .e H_522 n_523 fun v_526 x_527 H_528 n_529 =>
guardD v139_509 false (fun k_539 =>
callFK P cal 53 [v_512] H_528 n_529 fun v143_544 H_545 n_546 =>
k_539 v143_544 .e H_545 n_546) .e H_528 n_529 fun v_540 x_541 H_542 n_543 =>
guardD v139_509 false (fun k_547 =>
callFK P cal 38 [v_526, v_540, v_520] H_542 n_543 fun v145_552 H_553 n_554 =>
k_547 v145_552 .e H_553 n_554) .e H_542 n_543 fun v_548 x_549 H_550 n_551 =>
guardD v139_509 false (fun k_555 =>
bindO (pureSem P v_548 (Op.unary Go.UnOp.not v_548)) fun v146_560 =>
k_555 v146_560 .p H_550 n_551) .p H_550 n_551 fun v_556 x_557 H_558 n_559 =>
bindO (pickV v139_509 (Go.Value.bool true) v_556) fun v147_561 =>
guardD v147_561 false (fun k_563 =>
bindO (rowOf P 44 2 [(0, (Go.Value.int Go.IntKind.i64 1)), (1, (Go.Value.int Go.IntKind.i64 4))]) fun q_570 => newK q_570.1 q_570.2 H_558 n_559 fun H_568 n_569 =>
k_563 (.slice (some ⟨n_559, 0, none⟩) 2 2) (.a n_559 q_570.1 q_570.2) H_568 n_569) .p H_558 n_559 fun v_564 x_565 H_566 n_567 =>
guardD v147_561 false (fun k_571 =>
k_571 v43_60 .p H_566 n_567) .p H_566 n_567 fun v_572 x_573 H_574 n_575 =>
guardD v147_561 false (fun k_577 =>
effK P [x_565] H_574 n_575 (fun H_582 n_583 k_584 =>
callFK P cal 52 [] H_582 n_583 fun v149_588 H_589 n_590 =>
k_584 v149_588 H_589 n_590) fun v_585 H_586 n_587 =>
k_577 v_585 .e H_586 n_587) .e H_574 n_575 fun v_578 x_579 H_580 n_581 =>
guardD v147_561 false (fun k_591 =>
callFK P cal 53 [v_564] H_580 n_581 fun v151_596 H_597 n_598 =>
k_591 v151_596 .e H_597 n_598) .e H_580 n_581 fun v_592 x_593 H_594 n_595 =>
guardD v147_561 false (fun k_599 =>
callFK P cal 38 [v_578, v_592, v_572] H_594 n_595 fun v153_604 H_605 n_606 =>
k_599 v153_604 .e H_605 n_606) .e H_594 n_595 fun v_600 x_601 H_602 n_603 =>
bindO (pickV v147_561 (Go.Value.bool true) v_600) fun v154_607 =>
guardD v154_607 false (fun k_609 =>
bindO (rowOf P 44 2 [(0, (Go.Value.int Go.IntKind.i64 1)), (1, (Go.Value.int Go.IntKind.i64 3))]) fun q_616 => newK q_616.1 q_616.2 H_602 n_603 fun H_614 n_615 =>
k_609 (.slice (some ⟨n_603, 0, none⟩) 2 2) (.a n_603 q_616.1 q_616.2) H_614 n_615) .p H_602 n_603 fun v_610 x_611 H_612 n_613 =>
guardD v154_607 false (fun k_617 =>
effK P [x_611] H_612 n_613 (fun H_622 n_623 k_624 =>
callFK P cal 52 [] H_622 n_623 fun v156_628 H_629 n_630 =>
k_624 v156_628 H_629 n_630) fun v_625 H_626 n_627 =>
k_617 v_625 .e H_626 n_627) .e H_612 n_613 fun v_618 x_619 H_620 n_621 =>
guardD v154_607 false (fun k_631 =>
callFK P cal 53 [v_610] H_620 n_621 fun v158_636 H_637 n_638 =>
k_631 v158_636 .e H_637 n_638) .e H_620 n_621 fun v_632 x_633 H_634 n_635 =>
guardD v154_607 false (fun k_639 =>
callFK P cal 43 [v_618, v_632, (Go.Value.int Go.IntKind.i64 2)] H_634 n_635 fun v159_644 H_645 n_646 =>
k_639 v159_644 .e H_645 n_646) .e H_634 n_635 fun v_640 x_641 H_642 n_643 =>
guardD v154_607 false (fun k_647 =>
bindO (pureSem P v_640 (Op.unary Go.UnOp.not v_640)) fun v160_652 =>
k_647 v160_652 .p H_642 n_643) .p H_642 n_643 fun v_648 x_649 H_650 n_651 =>
bindO (pickV v154_607 (Go.Value.bool true) v_648) fun v161_653 =>
guardD v161_653 false (fun k_655 =>
bindO (rowOf P 44 2 [(0, (Go.Value.int Go.IntKind.i64 1)), (1, (Go.Value.int Go.IntKind.i64 3))]) fun q_662 => newK q_662.1 q_662.2 H_650 n_651 fun H_660 n_661 =>
k_655 (.slice (some ⟨n_651, 0, none⟩) 2 2) (.a n_651 q_662.1 q_662.2) H_660 n_661) .p H_650 n_651 fun v_656 x_657 H_658 n_659 =>
guardD v161_653 false (fun k_663 =>
effK P [x_657] H_658 n_659 (fun H_668 n_669 k_670 =>
callFK P cal 52 [] H_668 n_669 fun v163_674 H_675 n_676 =>
k_670 v163_674 H_675 n_676) fun v_671 H_672 n_673 =>
k_663 v_671 .e H_672 n_673) .e H_658 n_659 fun v_664 x_665 H_666 n_667 =>
guardD v161_653 false (fun k_677 =>
callFK P cal 53 [v_656] H_666 n_667 fun v165_682 H_683 n_684 =>
k_677 v165_682 .e H_683 n_684) .e H_666 n_667 fun v_678 x_679 H_680 n_681 =>
guardD v161_653 false (fun k_685 =>
callFK P cal 43 [v_664, v_678, (Go.Value.int Go.IntKind.i64 1)] H_680 n_681 fun v166_690 H_691 n_692 =>
k_685 v166_690 .e H_691 n_692) .e H_680 n_681 fun v_686 x_687 H_688 n_689 =>
bindO (pickV v161_653 (Go.Value.bool true) v_686) fun v167_693 =>
guardD v167_693 false (fun k_695 =>
bindO (rowOf P 44 1 [(0, (Go.Value.int Go.IntKind.i64 2))]) fun q_702 => newK q_702.1 q_702.2 H_688 n_689 fun H_700 n_701 =>
k_695 (.slice (some ⟨n_689, 0, none⟩) 1 1) (.a n_689 q_702.1 q_702.2) H_700 n_701) .p H_688 n_689 fun v_696 x_697 H_698 n_699 =>
guardD v167_693 false (fun k_703 =>
effK P [x_697] H_698 n_699 (fun H_708 n_709 k_710 =>
callFK P cal 52 [] H_708 n_709 fun v169_714 H_715 n_716 =>
k_710 v169_714 H_715 n_716) fun v_711 H_712 n_713 =>
k_703 v_711 .e H_712 n_713) .e H_698 n_699 fun v_704 x_705 H_706 n_707 =>
guardD v167_693 false (fun k_717 =>
callFK P cal 53 [v_696] H_706 n_707 fun v171_722 H_723 n_724 =>
k_717 v171_722 .e H_723 n_724) .e H_706 n_707 fun v_718 x_719 H_720 n_721 =>
guardD v167_693 false (fun k_725 =>
callFK P cal 43 [v_704, v_718, (Go.Value.int Go.IntKind.i64 2)] H_720 n_721 fun v172_730 H_731 n_732 =>
k_725 v172_730 .e H_731 n_732) .e H_720 n_721 fun v_726 x_727 H_728 n_729 =>
bindO (pickV v167_693 (Go.Value.bool true) v_726) fun v173_733 =>
guardD v173_733 false (fun k_735 =>
bindO (rowOf P 44 2 [(0, (Go.Value.int Go.IntKind.i64 1)), (1, (Go.Value.int Go.IntKind.i64 4))]) fun q_742 => newK q_742.1 q_742.2 H_728 n_729 fun H_740 n_741 =>
k_735 (.slice (some ⟨n_729, 0, none⟩) 2 2) (.a n_729 q_742.1 q_742.2) H_740 n_741) .p H_728 n_729 fun v_736 x_737 H_738 n_739 =>
guardD v173_733 false (fun k_743 =>
effK P [x_737] H_738 n_739 (fun H_748 n_749 k_750 =>
callFK P cal 52 [] H_748 n_749 fun v175_754 H_755 n_756 =>
k_750 v175_754 H_755 n_756) fun v_751 H_752 n_753 =>
k_743 v_751 .e H_752 n_753) .e H_738 n_739 fun v_744 x_745 H_746 n_747 =>
guardD v173_733 false (fun k_757 =>
callFK P cal 49 [v_744, v_736] H_746 n_747 fun v177_762 H_763 n_764 =>
k_757 v177_762 .e H_763 n_764) .e H_746 n_747 fun v_758 x_759 H_760 n_761 =>
guardD v173_733 false (fun k_765 =>
bindO (pureSem P v_758 (Op.unary Go.UnOp.not v_758)) fun v178_770 =>
k_765 v178_770 .p H_760 n_761) .p H_760 n_761 fun v_766 x_767 H_768 n_769 =>
bindO (pickV v173_733 (Go.Value.bool true) v_766) fun v179_771 =>
guardD v179_771 false (fun k_773 =>
bindO (rowOf P 44 2 [(0, (Go.Value.int Go.IntKind.i64 1)), (1, (Go.Value.int Go.IntKind.i64 3))]) fun q_780 => newK q_780.1 q_780.2 H_768 n_769 fun H_778 n_779 =>
k_773 (.slice (some ⟨n_769, 0, none⟩) 2 2) (.a n_769 q_780.1 q_780.2) H_778 n_779) .p H_768 n_769 fun v_774 x_775 H_776 n_777 =>
guardD v179_771 false (fun k_781 =>
effK P [x_775] H_776 n_777 (fun H_786 n_787 k_788 =>
callFK P cal 52 [] H_786 n_787 fun v181_792 H_793 n_794 =>
k_788 v181_792 H_793 n_794) fun v_789 H_790 n_791 =>
k_781 v_789 .e H_790 n_791) .e H_776 n_777 fun v_782 x_783 H_784 n_785 =>
guardD v179_771 false (fun k_795 =>
callFK P cal 49 [v_782, v_774] H_784 n_785 fun v183_800 H_801 n_802 =>
k_795 v183_800 .e H_801 n_802) .e H_784 n_785 fun v_796 x_797 H_798 n_799 =>
bindO (pickV v179_771 (Go.Value.bool true) v_796) fun v184_803 =>
guardD v184_803 false (fun k_805 =>
bindO (rowOf P 44 2 [(0, (Go.Value.int Go.IntKind.i64 4)), (1, (Go.Value.int Go.IntKind.i64 1))]) fun q_812 => newK q_812.1 q_812.2 H_798 n_799 fun H_810 n_811 =>
k_805 (.slice (some ⟨n_799, 0, none⟩) 2 2) (.a n_799 q_812.1 q_812.2) H_810 n_811) .p H_798 n_799 fun v_806 x_807 H_808 n_809 =>
guardD v184_803 false (fun k_813 =>
effK P [x_807] H_808 n_809 (fun H_818 n_819 k_820 =>
callFK P cal 52 [] H_818 n_819 fun v186_824 H_825 n_826 =>
k_820 v186_824 H_825 n_826) fun v_821 H_822 n_823 =>
k_813 v_821 .e H_822 n_823) .e H_808 n_809 fun v_814 x_815 H_816 n_817 =>
guardD v184_803 false (fun k_827 =>
callFK P cal 49 [v_814, v_806] H_816 n_817 fun v188_832 H_833 n_834 =>
k_827 v188_832 .e H_833 n_834) .e H_816 n_817 fun v_828 x_829 H_830 n_831 =>
bindO (pickV v184_803 (Go.Value.bool true) v_828) fun v189_835 =>
ifK v189_835 (
some ((Go.Value.bool false), H_830, n_831)) (
callFK P cal 52 [] H_830 n_831 fun v190_837 H_838 n_839 =>
callFK P cal 52 [] H_838 n_839 fun v191_840 H_841 n_842 =>
callFK P cal 52 [] H_841 n_842 fun v192_843 H_844 n_845 =>
callFK P cal 52 [] H_844 n_845 fun v193_846 H_847 n_848 =>
callFK P cal 52 [] H_847 n_848 fun v194_849 H_850 n_851 =>
allocK P 35 H_850 n_851 fun v9_852 H_853 n_854 =>
allocK P 35 H_853 n_854 fun v10_855 H_856 n_857 =>
allocK P 35 H_856 n_857 fun v11_858 H_859 n_860 =>
allocK P 35 H_859 n_860 fun v12_861 H_862 n_863 =>
allocK P 35 H_862 n_863 fun v13_864 H_865 n_866 =>
bindO (storeP P 35 v9_852 v190_837 H_865) fun H_868 =>
bindO (storeP P 35 v10_855 v191_840 H_868) fun H_870 =>
bindO (storeP P 35 v11_858 v192_843 H_870) fun H_872 =>
bindO (storeP P 35 v12_861 v193_846 H_872) fun H_874 =>
bindO (storeP P 35 v13_864 v194_849 H_874) fun H_876 =>
bindO (fieldAddrV P 35 v9_852 2) fun v195_877 =>
bindO (addrV v195_877) fun a_879 => bindO (loadV P H_876 33 a_879) fun v196_878 =>
bindO (indexAddrV P 33 v196_878 (Go.Value.int Go.IntKind.i64 0)) fun v197_880 =>
bindO (fieldAddrV P 86 v197_880 0) fun v198_881 =>
bindO (storeP P 3 v198_881 (Go.Value.int Go.IntKind.i64 39) H_876) fun H_883 =>
bindO (fieldAddrV P 35 v10_855 1) fun v199_884 =>
bindO (addrV v199_884) fun a_886 => bindO (loadV P H_883 32 a_886) fun v200_885 =>
bindO (buildP P 88 [(0, (Go.Value.int Go.IntKind.i64 1)), (1, (Go.Value.int Go.IntKind.i64 0))]) fun v201_887 =>
rowK P 32 1 [(0, v201_887)] H_883 n_866 fun v202_888 H_889 n_890 =>
stK (appendV P (bare H_889 n_890) 32 32 v200_885 v202_888) fun v203_891 H_892 n_893 =>
bindO (fieldAddrV P 35 v10_855 1) fun v204_894 =>
bindO (storeP P 32 v204_894 v203_891 H_892) fun H_896 =>
bindO (fieldAddrV P 35 v11_858 1) fun v205_897 =>
bindO (addrV v205_897) fun a_899 => bindO (loadV P H_896 32 a_899) fun v206_898 =>
bindO (indexAddrV P 32 v206_898 (Go.Value.int Go.IntKind.i64 0)) fun v207_900 =>
bindO (fieldAddrV P 88 v207_900 1) fun v208_901 =>
bindO (storeP P 3 v208_901 (Go.Value.int Go.IntKind.i64 0) H_896) fun H_903 =>
bindO (fieldAddrV P 35 v12_861 0) fun v209_904 =>
bindO (addrV v209_904) fun a_906 => bindO (loadV P H_903 31 a_906) fun v210_905 =>
bindO (indexAddrV P 31 v210_905 (Go.Value.int Go.IntKind.i64 2)) fun v211_907 =>
bindO (fieldAddrV P 90 v211_907 0) fun v212_908 =>
bindO (storeP P 3 v212_908 (Go.Value.int Go.IntKind.i64 41) H_903) fun H_910 =>
stK (makeSliceP P 31 (Go.Value.int Go.IntKind.i64 9) (Go.Value.int Go.IntKind.i64 9) (bare H_910 n_893)) fun v213_911 H_912 n_913 =>
bindO (fieldAddrV P 35 v13_864 0) fun v214_914 =>
bindO (storeP P 31 v214_914 v213_911 H_912) fun H_916 =>
callFK P cal 52 [] H_916 n_913 fun v216_917 H_918 n_919 =>
rowK P 44 2 [(0, (Go.Value.int Go.IntKind.i64 0)), (1, (Go.Value.int Go.IntKind.i64 1))] H_918 n_919 fun v217_920 H_921 n_922 =>
callFK P cal 53 [v217_920] H_921 n_922 fun v218_923 H_924 n_925 =>
callFK P cal 37 [v216_917, v218_923] H_924 n_925 fun v219_926 H_927 n_928 =>
bindO (tupV v219_926 0) fun v220_930 =>
bindO (tupV v219_926 1) fun v221_931 =>
callFK P cal 52 [] H_927 n_928 fun v223_933 H_934 n_935 =>
rowK P 44 5 [(0, (Go.Value.int Go.IntKind.i64 (-1))), (1, (Go.Value.int Go.IntKind.i64 (-1))), (2, (Go.Value.int Go.IntKind.i64 (-1))), (3, (Go.Value.int Go.IntKind.i64 (-1))), (4, (Go.Value.int Go.IntKind.i64 1))] H_934 n_935 fun v224_936 H_937 n_938 =>
callFK P cal 22 [v223_933, v224_936] H_937 n_938 fun v225_939 H_940 n_941 =>
bindO (tupV v225_939 0) fun v226_943 =>
bindO (tupV v225_939 1) fun v227_944 =>
callFK P cal 52 [] H_940 n_941 fun v229_946 H_947 n_948 =>
rowK P 44 1 [(0, (Go.Value.int Go.IntKind.i64 0))] H_947 n_948 fun v230_949 H_950 n_951 =>
callFK P cal 22 [v229_946, v230_949] H_950 n_951 fun v231_952 H_953 n_954 =>
bindO (tupV v231_952 0) fun v232_956 =>
bindO (tupV v231_952 1) fun v233_957 =>
bindO (addrV v9_852) fun a_959 => bindO (loadV P H_953 35 a_959) fun v_960 =>
bindO (rowOf P 44 1 [(0, (Go.Value.int Go.IntKind.i64 1))]) fun q_963 => newK q_963.1 q_963.2 H_953 n_954 fun H_961 n_962 =>
effK P [(.l 35 a_959)] H_961 n_962 (fun H_964 n_965 k_966 =>
callFK P cal 53 [(.slice (some ⟨n_954, 0, none⟩) 1 1)] H_964 n_965 fun v237_970 H_971 n_972 =>
k_966 v237_970 H_971 n_972) fun v_967 H_968 n_969 =>
callFK P cal 22 [v_960, v_967] H_968 n_969 fun v238_973 H_974 n_975 =>
bindO (tupV v238_973 0) fun v239_977 =>
bindO (tupV v238_973 1) fun v240_978 =>
callFK P cal 52 [] H_974 n_975 fun v242_980 H_981 n_982 =>
rowK P 44 1 [(0, (Go.Value.int Go.IntKind.i64 1))] H_981 n_982 fun v243_983 H_984 n_985 =>
callFK P cal 53 [v243_983] H_984 n_985 fun v244_986 H_987 n_988 =>
callFK P cal 31 [v242_980, v244_986, (Go.Value.int Go.IntKind.i64 5), (Go.Value.bool true)] H_987 n_988 fun v245_989 H_990 n_991 =>
bindO (tupV v245_989 0) fun v246_993 =>
bindO (tupV v245_989 1) fun v247_994 =>
bindO (addrV v9_852) fun a_998 => bindO (loadV P H_990 35 a_998) fun v249_997 =>
callFK P cal 42 [v249_997] H_990 n_991 fun v250_999 H_1000 n_1001 =>
bindO (tupV v250_999 0) fun v251_1003 =>
bindO (tupV v250_999 1) fun v252_1004 =>
bindO (tupV v250_999 2) fun v253_1005 =>
binK P Go.BinOp.eql 29 (Go.Operand.tmp 254) (Go.Operand.const (Go.Value.int Go.IntKind.i64 9)) v221_931 (Go.Value.int Go.IntKind.i64 9) fun v255_1010 =>
guardK v255_1010 true (fun k_1012 =>
k_1012 v227_944 H_1000 n_1001) H_1000 n_1001 fun v_1013 H_1014 n_1015 =>
guardK v255_1010 true (fun k_1017 =>
binK P Go.BinOp.eql 29 (Go.Operand.tmp 257) (Go.Operand.const (Go.Value.int Go.IntKind.i64 2)) v_1013 (Go.Value.int Go.IntKind.i64 2) fun v258_1021 =>
k_1017 v258_1021 H_1014 n_1015) H_1014 n_1015 fun v_1018 H_1019 n_1020 =>
bindO (pickV v255_1010 v_1018 (Go.Value.bool false)) fun v259_1022 =>
guardK v259_1022 true (fun k_1024 =>
k_1024 v233_957 H_1019 n_1020) H_1019 n_1020 fun v_1025 H_1026 n_1027 =>
guardK v259_1022 true (fun k_1029 =>
binK P Go.BinOp.eql 29 (Go.Operand.tmp 261) (Go.Operand.const (Go.Value.int Go.IntKind.i64 2)) v_1025 (Go.Value.int Go.IntKind.i64 2) fun v262_1033 =>
k_1029 v262_1033 H_1026 n_1027) H_1026 n_1027 fun v_1030 H_1031 n_1032 =>
bindO (pickV v259_1022 v_1030 (Go.Value.bool false)) fun v263_1034 =>
guardK v263_1034 true (fun k_1036 =>
k_1036 v240_978 H_1031 n_1032) H_1031 n_1032 fun v_1037 H_1038 n_1039 =>
guardK v263_1034 true (fun k_1041 =>
binK P Go.BinOp.eql 29 (Go.Operand.tmp 265) (Go.Operand.const (Go.Value.int Go.IntKind.i64 2)) v_1037 (Go.Value.int Go.IntKind.i64 2) fun v266_1045 =>
k_1041 v266_1045 H_1038 n_1039) H_1038 n_1039 fun v_1042 H_1043 n_1044 =>
bindO (pickV v263_1034 v_1042 (Go.Value.bool false)) fun v267_1046 =>
guardK v267_1046 true (fun k_1048 =>
k_1048 v247_994 H_1043 n_1044) H_1043 n_1044 fun v_1049 H_1050 n_1051 =>
guardK v267_1046 true (fun k_1053 =>
binK P Go.BinOp.eql 29 (Go.Operand.tmp 269) (Go.Operand.const (Go.Value.int Go.IntKind.i64 2)) v_1049 (Go.Value.int Go.IntKind.i64 2) fun v270_1057 =>
k_1053 v270_1057 H_1050 n_1051) H_1050 n_1051 fun v_1054 H_1055 n_1056 =>
bindO (pickV v267_1046 v_1054 (Go.Value.bool false)) fun v271_1058 =>
guardK v271_1058 true (fun k_1060 =>
k_1060 v253_1005 H_1055 n_1056) H_1055 n_1056 fun v_1061 H_1062 n_1063 =>
guardK v271_1058 true (fun k_1065 =>
binK P Go.BinOp.eql 29 (Go.Operand.tmp 273) (Go.Operand.const (Go.Value.int Go.IntKind.i64 10)) v_1061 (Go.Value.int Go.IntKind.i64 10) fun v274_1069 =>
k_1065 v274_1069 H_1062 n_1063) H_1062 n_1063 fun v_1066 H_1067 n_1068 =>
bindO (pickV v271_1058 v_1066 (Go.Value.bool false)) fun v275_1070 =>
guardK v275_1070 true (fun k_1072 =>
bindO (addrV v10_855) fun a_1077 => bindO (loadV P H_1067 35 a_1077) fun v277_1076 =>
k_1072 v277_1076 H_1067 n_1068) H_1067 n_1068 fun v_1073 H_1074 n_1075 =>
guardK v275_1070 true (fun k_1078 =>
callFK P cal 17 [v_1073] H_1074 n_1075 fun v278_1082 H_1083 n_1084 =>
k_1078 v278_1082 H_1083 n_1084) H_1074 n_1075 fun v_1079 H_1080 n_1081 =>
guardK v275_1070 true (fun k_1085 =>
binK P Go.BinOp.eql 29 (Go.Operand.tmp 278) (Go.Operand.const (Go.Value.int Go.IntKind.i64 1)) v_1079 (Go.Value.int Go.IntKind.i64 1) fun v279_1089 =>
k_1085 v279_1089 H_1080 n_1081) H_1080 n_1081 fun v_1086 H_1087 n_1088 =>
bindO (pickV v275_1070 v_1086 (Go.Value.bool false)) fun v280_1090 =>
guardK v280_1090 true (fun k_1092 =>
bindO (addrV v11_858) fun a_1097 => bindO (loadV P H_1087 35 a_1097) fun v282_1096 =>
k_1092 v282_1096 H_1087 n_1088) H_1087 n_1088 fun v_1093 H_1094 n_1095 =>
guardK v280_1090 true (fun k_1098 =>
callFK P cal 17 [v_1093] H_1094 n_1095 fun v283_1102 H_1103 n_1104 =>
k_1098 v283_1102 H_1103 n_1104) H_1094 n_1095 fun v_1099 H_1100 n_1101 =>
guardK v280_1090 true (fun k_1105 =>
binK P Go.BinOp.eql 29 (Go.Operand.tmp 283) (Go.Operand.const (Go.Value.int Go.IntKind.i64 1)) v_1099 (Go.Value.int Go.IntKind.i64 1) fun v284_1109 =>
k_1105 v284_1109 H_1100 n_1101) H_1100 n_1101 fun v_1106 H_1107 n_1108 =>
bindO (pickV v280_1090 v_1106 (Go.Value.bool false)) fun v285_1110 =>
guardK v285_1110 true (fun k_1112 =>
bindO (addrV v12_861) fun a_1117 => bindO (loadV P H_1107 35 a_1117) fun v287_1116 =>
k_1112 v287_1116 H_1107 n_1108) H_1107 n_1108 fun v_1113 H_1114 n_1115 =>
guardK v285_1110 true (fun k_1118 =>
callFK P cal 17 [v_1113] H_1114 n_1115 fun v288_1122 H_1123 n_1124 =>
k_1118 v288_1122 H_1123 n_1124) H_1114 n_1115 fun v_1119 H_1120 n_1121 =>
guardK v285_1110 true (fun k_1125 =>
binK P Go.BinOp.eql 29 (Go.Operand.tmp 288) (Go.Operand.const (Go.Value.int Go.IntKind.i64 1)) v_1119 (Go.Value.int Go.IntKind.i64 1) fun v289_1129 =>
k_1125 v289_1129 H_1120 n_1121) H_1120 n_1121 fun v_1126 H_1127 n_1128 =>
bindO (pickV v285_1110 v_1126 (Go.Value.bool false)) fun v290_1130 =>
guardK v290_1130 true (fun k_1132 =>
bindO (addrV v13_864) fun a_1137 => bindO (loadV P H_1127 35 a_1137) fun v292_1136 =>
k_1132 v292_1136 H_1127 n_1128) H_1127 n_1128 fun v_1133 H_1134 n_1135 =>
guardK v290_1130 true (fun k_1138 =>
callFK P cal 17 [v_1133] H_1134 n_1135 fun v293_1142 H_1143 n_1144 =>
k_1138 v293_1142 H_1143 n_1144) H_1134 n_1135 fun v_1139 H_1140 n_1141 =>
guardK v290_1130 true (fun k_1145 =>
binK P Go.BinOp.eql 29 (Go.Operand.tmp 293) (Go.Operand.const (Go.Value.int Go.IntKind.i64 3)) v_1139 (Go.Value.int Go.IntKind.i64 3) fun v294_1149 =>
k_1145 v294_1149 H_1140 n_1141) H_1140 n_1141 fun v_1146 H_1147 n_1148 =>
bindO (pickV v290_1130 v_1146 (Go.Value.bool false)) fun v295_1150 =>
guardK v295_1150 true (fun k_1152 =>
bindO (buildP P 35 []) fun v297_1156 =>
k_1152 v297_1156 H_1147 n_1148) H_1147 n_1148 fun v_1153 H_1154 n_1155 =>
guardK v295_1150 true (fun k_1157 =>
callFK P cal 17 [v_1153] H_1154 n_1155 fun v298_1161 H_1162 n_1163 =>
k_1157 v298_1161 H_1162 n_1163) H_1154 n_1155 fun v_1158 H_1159 n_1160 =>
guardK v295_1150 true (fun k_1164 =>
binK P Go.BinOp.eql 29 (Go.Operand.tmp 298) (Go.Operand.const (Go.Value.int Go.IntKind.i64 1)) v_1158 (Go.Value.int Go.IntKind.i64 1) fun v299_1168 =>
k_1164 v299_1168 H_1159 n_1160) H_1159 n_1160 fun v_1165 H_1166 n_1167 =>
bindO (pickV v295_1150 v_1165 (Go.Value.bool false)) fun v300_1169 =>
guardK v300_1169 true (fun k_1171 =>
callFK P cal 16 [] H_1166 n_1167 fun v302_1175 H_1176 n_1177 =>
k_1171 v302_1175 H_1176 n_1177) H_1166 n_1167 fun v_1172 H_1173 n_1174 =>
bindO (pickV v300_1169 v_1172 (Go.Value.bool false)) fun v303_1178 =>
some (v303_1178, H_1173, n_1174))
noncomputable def C10_0 (cal : Cal) (k : Nat) (H : Hp) (n : Nat) : Res := B10_0 cal k  H n
theorem h10_0 (cal : Cal) (k : Nat) (H : Hp) (n : Nat) : bodyE P cal A (k + 1) 10 [] H n = C10_0 cal k  H n := by
  have h : bodyE P cal A (k + 1) 10 [] H n = B10_0 cal k  H n := by
    rw [body_eq (fn := Go.Proofs.Try.f10) (c := code10) (rs := results10) (by kernel_rfl) (by kernel_rfl) (by kernel_rfl) (by kernel_rfl)]
    kernel_rfl
  rw [h, C10_0]
noncomputable def code16 : Code := codeOf 16
noncomputable def results16 : List ResultVar := resOf 16
noncomputable def K16_p (cal : Cal) (k : Nat) : KC (Value × Hp × Nat) := (cutK (A 16).c (codeE P cal (codeF P cal k) none 16 (cR code16) (Lv.b (A 16)) (doneK P results16) X0 (doneK P results16)))
noncomputable def K16_pr (cal : Cal) (k : Nat) : KC (Value × Hp × Nat) := (cutK (Lv.b (A 16)).c (codeE P cal (codeF P cal k) none 16 (cR (cR code16)) (Lv.b (Lv.b (A 16))) (doneK P results16) X0 (doneK P results16)))
noncomputable def K16_prr (cal : Cal) (k : Nat) : KC (Value × Hp × Nat) := (cutK (Lv.b (Lv.b (A 16))).c (codeE P cal (codeF P cal k) none 16 (cR (cR (cR code16))) (Lv.b (Lv.b (Lv.b (A 16)))) (doneK P results16) X0 (doneK P results16)))
noncomputable def K16_prrr (cal : Cal) (k : Nat) : KC (Value × Hp × Nat) := (cutK (Lv.b (Lv.b (Lv.b (A 16)))).c (codeE P cal (codeF P cal k) none 16 (cR (cR (cR (cR code16)))) (Lv.b (Lv.b (Lv.b (Lv.b (A 16))))) (doneK P results16) X0 (doneK P results16)))
noncomputable def K16_prrrr (cal : Cal) (k : Nat) : KC (Value × Hp × Nat) := (cutK (Lv.b (Lv.b (Lv.b (Lv.b (A 16))))).c (codeE P cal (codeF P cal k) none 16 (cR (cR (cR (cR (cR code16))))) (Lv.b (Lv.b (Lv.b (Lv.b (Lv.b (A 16)))))) (doneK P results16) X0 (doneK P results16)))
noncomputable def K16_prrrrr (cal : Cal) (k : Nat) : KC (Value × Hp × Nat) := (cutK (Lv.b (Lv.b (Lv.b (Lv.b (Lv.b (A 16)))))).c (codeE P cal (codeF P cal k) none 16 (cR (cR (cR (cR (cR (cR code16)))))) (Lv.b (Lv.b (Lv.b (Lv.b (Lv.b (Lv.b (A 16))))))) (doneK P results16) X0 (doneK P results16)))
noncomputable def K16_prrrrrr (cal : Cal) (k : Nat) : KC (Value × Hp × Nat) := (cutK (Lv.b (Lv.b (Lv.b (Lv.b (Lv.b (Lv.b (A 16))))))).c (codeE P cal (codeF P cal k) none 16 (cR (cR (cR (cR (cR (cR (cR code16))))))) (Lv.b (Lv.b (Lv.b (Lv.b (Lv.b (Lv.b (Lv.b (A 16)))))))) (doneK P results16) X0 (doneK P results16)))
noncomputable def B16_0 (cal : Cal) (k : Nat) (H : Hp) (n : Nat) : Res :=
callFK P cal 52 [] H n fun v14_2 H_3 n_4 =>
rowK P 44 2 [(0, (Go.Value.int Go.IntKind.i64 1)), (1, (Go.Value.int Go.IntKind.i64 3))] H_3 n_4 fun v15_5 H_6 n_7 =>
callFK P cal 53 [v15_5] H_6 n_7 fun v16_8 H_9 n_10 =>
callFK P cal 22 [v14_2, v16_8] H_9 n_10 fun v17_11 H_12 n_13 =>
bindO (tupV v17_11 0) fun v18_15 =>
bindO (tupV v17_11 1) fun v19_16 =>
callFK P cal 52 [] H_12 n_13 fun v21_19 H_20 n_21 =>
rowK P 44 2 [(0, (Go.Value.int Go.IntKind.i64 0)), (1, (Go.Value.int Go.IntKind.i64 1))] H_20 n_21 fun v22_22 H_23 n_24 =>
callFK P cal 53 [v22_22] H_23 n_24 fun v23_25 H_26 n_27 =>
callFK P cal 24 [v21_19, v23_25] H_26 n_27 fun v24_28 H_29 n_30 =>
bindO (tupV v24_28 0) fun v25_32 =>
bindO (tupV v24_28 1) fun v26_33 =>
bindO (tupV v24_28 2) fun v27_34 =>
callFK P cal 52 [] H_29 n_30 fun v29_38 H_39 n_40 =>
callFK P cal 42 [v29_38] H_39 n_40 fun v30_41 H_42 n_43 =>
bindO (tupV v30_41 0) fun v31_45 =>
bindO (tupV v30_41 1) fun v32_46 =>
bindO (tupV v30_41 2) fun v33_47 =>
callFK P cal 52 [] H_42 n_43 fun v35_51 H_52 n_53 =>
rowK P 44 3 [(0, (Go.Value.int Go.IntKind.i64 1)), (1, (Go.Value.int Go.IntKind.i64 2)), (2, (Go.Value.int Go.IntKind.i64 3))] H_52 n_53 fun v36_54 H_55 n_56 =>
callFK P cal 53 [v36_54] H_55 n_56 fun v37_57 H_58 n_59 =>
callFK P cal 47 [v35_51, v37_57] H_58 n_59 fun v38_60 H_61 n_62 =>
bindO (tupV v38_60 0) fun v39_64 =>
bindO (tupV v38_60 1) fun v40_65 =>
callFK P cal 52 [] H_61 n_62 fun v42_68 H_69 n_70 =>
callFK P cal 48 [v42_68] H_69 n_70 fun v43_71 H_72 n_73 =>
bindO (tupV v43_71 0) fun v44_75 =>
bindO (tupV v43_71 1) fun v45_76 =>
binK P Go.BinOp.eql 29 (Go.Operand.tmp 46) (Go.Operand.const (Go.Value.int Go.IntKind.i64 0)) v19_16 (Go.Value.int Go.IntKind.i64 0) fun v47_80 =>
guardD v47_80 true (fun k_82 =>
k_82 v18_15 .p H_72 n_73) .p H_72 n_73 fun v_83 x_84 H_85 n_86 =>
guardD v47_80 true (fun k_88 =>
bindO (lenV P 45 v_83) fun v50_93 =>
k_88 v50_93 .p H_85 n_86) .p H_85 n_86 fun v_89 x_90 H_91 n_92 =>
guardD v47_80 true (fun k_94 =>
binK P Go.BinOp.eql 3 (Go.Operand.tmp 50) (Go.Operand.const (Go.Value.int Go.IntKind.i64 5)) v_89 (Go.Value.int Go.IntKind.i64 5) fun v51_99 =>
k_94 v51_99 .p H_91 n_92) .p H_91 n_92 fun v_95 x_96 H_97 n_98 =>
bindO (pickV v47_80 v_95 (Go.Value.bool false)) fun v52_100 =>
guardD v52_100 true (fun k_102 =>
k_102 v18_15 .p H_97 n_98) .p H_97 n_98 fun v_103 x_104 H_105 n_106 =>
guardD v52_100 true (fun k_108 =>
bindO (indexAddrV P 45 v_103 (Go.Value.int Go.IntKind.i64 0)) fun v55_113 =>
k_108 v55_113 .p H_105 n_106) .p H_105 n_106 fun v_109 x_110 H_111 n_112 =>
guardD v52_100 true (fun k_114 =>
bindO (addrV v_109) fun a_119 => bindO (loadV P H_111 53 a_119) fun v_120 =>
k_114 v_120 (.l 53 a_119) H_111 n_112) .p H_111 n_112 fun v_115 x_116 H_117 n_118 =>
guardD v52_100 true (fun k_121 =>
effK P [x_116] H_117 n_118 (fun H_126 n_127 k_128 =>
callFK P cal 54 [(Go.Value.int Go.IntKind.i64 10), (Go.Value.int Go.IntKind.i64 20)] H_126 n_127 fun v57_132 H_133 n_134 =>
k_128 v57_132 H_133 n_134) fun v_129 H_130 n_131 =>
k_121 v_129 .e H_130 n_131) .e H_117 n_118 fun v_122 x_123 H_124 n_125 =>
guardD v52_100 true (fun k_135 =>
binK P Go.BinOp.eql 53 (Go.Operand.tmp 56) (Go.Operand.tmp 57) v_115 v_122 fun v58_140 =>
k_135 v58_140 .p H_124 n_125) .p H_124 n_125 fun v_136 x_137 H_138 n_139 =>
bindO (pickV v52_100 v_136 (Go.Value.bool false)) fun v59_141 =>
guardD v59_141 true (fun k_143 =>
k_143 v18_15 .p H_138 n_139) .p H_138 n_139 fun v_144 x_145 H_146 n_147 =>
guardD v59_141 true (fun k_149 =>
bindO (indexAddrV P 45 v_144 (Go.Value.int Go.IntKind.i64 2)) fun v62_154 =>
k_149 v62_154 .p H_146 n_147) .p H_146 n_147 fun v_150 x_151 H_152 n_153 =>
guardD v59_141 true (fun k_155 =>
bindO (addrV v_150) fun a_160 => bindO (loadV P H_152 53 a_160) fun v_161 =>
k_155 v_161 (.l 53 a_160) H_152 n_153) .p H_152 n_153 fun v_156 x_157 H_158 n_159 =>
guardD v59_141 true (fun k_162 =>
effK P [x_157] H_158 n_159 (fun H_167 n_168 k_169 =>
callFK P cal 54 [(Go.Value.int Go.IntKind.i64 20), (Go.Value.int Go.IntKind.i64 40)] H_167 n_168 fun v64_173 H_174 n_175 =>
k_169 v64_173 H_174 n_175) fun v_170 H_171 n_172 =>
k_162 v_170 .e H_171 n_172) .e H_158 n_159 fun v_163 x_164 H_165 n_166 =>
guardD v59_141 true (fun k_176 =>
binK P Go.BinOp.eql 53 (Go.Operand.tmp 63) (Go.Operand.tmp 64) v_156 v_163 fun v65_181 =>
k_176 v65_181 .p H_165 n_166) .p H_165 n_166 fun v_177 x_178 H_179 n_180 =>
bindO (pickV v59_141 v_177 (Go.Value.bool false)) fun v66_182 =>
guardD v66_182 true (fun k_184 =>
k_184 v27_34 .p H_179 n_180) .p H_179 n_180 fun v_185 x_186 H_187 n_188 =>
guardD v66_182 true (fun k_190 =>
binK P Go.BinOp.eql 29 (Go.Operand.tmp 68) (Go.Operand.const (Go.Value.int Go.IntKind.i64 0)) v_185 (Go.Value.int Go.IntKind.i64 0) fun v69_195 =>
k_190 v69_195 .p H_187 n_188) .p H_187 n_188 fun v_191 x_192 H_193 n_194 =>
bindO (pickV v66_182 v_191 (Go.Value.bool false)) fun v70_196 =>
guardD v70_196 true (fun k_198 =>
k_198 v25_32 .p H_193 n_194) .p H_193 n_194 fun v_199 x_200 H_201 n_202 =>
guardD v70_196 true (fun k_204 =>
bindO (rowOf P 44 2 [(0, (Go.Value.int Go.IntKind.i64 3)), (1, (Go.Value.int Go.IntKind.i64 4))]) fun q_211 => newK q_211.1 q_211.2 H_201 n_202 fun H_209 n_210 =>
k_204 (.slice (some ⟨n_202, 0, none⟩) 2 2) (.a n_202 q_211.1 q_211.2) H_209 n_210) .p H_201 n_202 fun v_205 x_206 H_207 n_208 =>
guardD v70_196 true (fun k_212 =>
callFK P cal 30 [v_199, v_205] H_207 n_208 fun v74_217 H_218 n_219 =>
k_212 v74_217 .e H_218 n_219) .e H_207 n_208 fun v_213 x_214 H_215 n_216 =>
bindO (pickV v70_196 v_213 (Go.Value.bool false)) fun v75_220 =>
guardD v75_220 true (fun k_222 =>
k_222 v26_33 .p H_215 n_216) .p H_215 n_216 fun v_223 x_224 H_225 n_226 =>
guardD v75_220 true (fun k_228 =>
bindO (rowOf P 44 2 [(0, (Go.Value.int Go.IntKind.i64 0)), (1, (Go.Value.int Go.IntKind.i64 1))]) fun q_235 => newK q_235.1 q_235.2 H_225 n_226 fun H_233 n_234 =>
k_228 (.slice (some ⟨n_226, 0, none⟩) 2 2) (.a n_226 q_235.1 q_235.2) H_233 n_234) .p H_225 n_226 fun v_229 x_230 H_231 n_232 =>
guardD v75_220 true (fun k_236 =>
callFK P cal 30 [v_223, v_229] H_231 n_232 fun v79_241 H_242 n_243 =>
k_236 v79_241 .e H_242 n_243) .e H_231 n_232 fun v_237 x_238 H_239 n_240 =>
bindO (pickV v75_220 v_237 (Go.Value.bool false)) fun v80_244 =>
guardD v80_244 true (fun k_246 =>
k_246 v33_47 .p H_239 n_240) .p H_239 n_240 fun v_247 x_248 H_249 n_250 =>
guardD v80_244 true (fun k_252 =>
binK P Go.BinOp.eql 29 (Go.Operand.tmp 82) (Go.Operand.const (Go.Value.int Go.IntKind.i64 0)) v_247 (Go.Value.int Go.IntKind.i64 0) fun v83_257 =>
k_252 v83_257 .p H_249 n_250) .p H_249 n_250 fun v_253 x_254 H_255 n_256 =>
bindO (pickV v80_244 v_253 (Go.Value.bool false)) fun v84_258 =>
guardD v84_258 true (fun k_260 =>
k_260 v31_45 .p H_255 n_256) .p H_255 n_256 fun v_261 x_262 H_263 n_264 =>
guardD v84_258 true (fun k_266 =>
bindO (rowOf P 44 2 [(0, (Go.Value.int Go.IntKind.i64 1)), (1, (Go.Value.int Go.IntKind.i64 4))]) fun q_273 => newK q_273.1 q_273.2 H_263 n_264 fun H_271 n_272 =>
k_266 (.slice (some ⟨n_264, 0, none⟩) 2 2) (.a n_264 q_273.1 q_273.2) H_271 n_272) .p H_263 n_264 fun v_267 x_268 H_269 n_270 =>
guardD v84_258 true (fun k_274 =>
callFK P cal 53 [v_267] H_269 n_270 fun v88_279 H_280 n_281 =>
k_274 v88_279 .e H_280 n_281) .e H_269 n_270 fun v_275 x_276 H_277 n_278 =>
guardD v84_258 true (fun k_282 =>
callFK P cal 30 [v_261, v_275] H_277 n_278 fun v89_287 H_288 n_289 =>
k_282 v89_287 .e H_288 n_289) .e H_277 n_278 fun v_283 x_284 H_285 n_286 =>
bindO (pickV v84_258 v_283 (Go.Value.bool false)) fun v90_290 =>
guardD v90_290 true (fun k_292 =>
k_292 v32_46 .p H_285 n_286) .p H_285 n_286 fun v_293 x_294 H_295 n_296 =>
guardD v90_290 true (fun k_298 =>
binK P Go.BinOp.eql 3 (Go.Operand.tmp 92) (Go.Operand.const (Go.Value.int Go.IntKind.i64 2)) v_293 (Go.Value.int Go.IntKind.i64 2) fun v93_303 =>
k_298 v93_303 .p H_295 n_296) .p H_295 n_296 fun v_299 x_300 H_301 n_302 =>
bindO (pickV v90_290 v_299 (Go.Value.bool false)) fun v94_304 =>
guardD v94_304 true (fun k_306 =>
k_306 v40_65 .p H_301 n_302) .p H_301 n_302 fun v_307 x_308 H_309 n_310 =>
guardD v94_304 true (fun k_312 =>
binK P Go.BinOp.eql 29 (Go.Operand.tmp 96) (Go.Operand.const (Go.Value.int Go.IntKind.i64 0)) v_307 (Go.Value.int Go.IntKind.i64 0) fun v97_317 =>
k_312 v97_317 .p H_309 n_310) .p H_309 n_310 fun v_313 x_314 H_315 n_316 =>
bindO (pickV v94_304 v_313 (Go.Value.bool false)) fun v98_318 =>
guardD v98_318 true (fun k_320 =>
k_320 v39_64 .p H_315 n_316) .p H_315 n_316 fun v_321 x_322 H_323 n_324 =>
guardD v98_318 true (fun k_326 =>
bindO (rowOf P 44 1 [(0, (Go.Value.int Go.IntKind.i64 2))]) fun q_333 => newK q_333.1 q_333.2 H_323 n_324 fun H_331 n_332 =>
k_326 (.slice (some ⟨n_324, 0, none⟩) 1 1) (.a n_324 q_333.1 q_333.2) H_331 n_332) .p H_323 n_324 fun v_327 x_328 H_329 n_330 =>
guardD v98_318 true (fun k_334 =>
callFK P cal 30 [v_321, v_327] H_329 n_330 fun v102_339 H_340 n_341 =>
k_334 v102_339 .e H_340 n_341) .e H_329 n_330 fun v_335 x_336 H_337 n_338 =>
bindO (pickV v98_318 v_335 (Go.Value.bool false)) fun v103_342 =>
guardD v103_342 true (fun k_344 =>
k_344 v45_76 .p H_337 n_338) .p H_337 n_338 fun v_345 x_346 H_347 n_348 =>
guardD v103_342 true (fun k_350 =>
binK P Go.BinOp.eql 29 (Go.Operand.tmp 105) (Go.Operand.const (Go.Value.int Go.IntKind.i64 0)) v_345 (Go.Value.int Go.IntKind.i64 0) fun v106_355 =>
k_350 v106_355 .p H_347 n_348) .p H_347 n_348 fun v_351 x_352 H_353 n_354 =>
bindO (pickV v103_342 v_351 (Go.Value.bool false)) fun v107_356 =>
guardD v107_356 true (fun k_358 =>
k_358 v44_75 .p H_353 n_354) .p H_353 n_354 fun v_359 x_360 H_361 n_362 =>
guardD v107_356 true (fun k_364 =>
bindO (rowOf P 44 2 [(0, (Go.Value.int Go.IntKind.i64 0)), (1, (Go.Value.int Go.IntKind.i64 3))]) fun q_371 => newK q_371.1 q_371.2 H_361 n_362 fun H_369 n_370 =>
k_364 (.slice (some ⟨n_362, 0, none⟩) 2 2) (.a n_362 q_371.1 q_371.2) H_369 n_370) .p H_361 n_362 fun v_365 x_366 H_367 n_368 =>
guardD v107_356 true (fun k_372 =>
callFK P cal 30 [v_359, v_365] H_367 n_368 fun v111_377 H_378 n_379 =>
k_372 v111_377 .e H_378 n_379) .e H_367 n_368 fun v_373 x_374 H_375 n_376 =>
bindO (pickV v107_356 v_373 (Go.Value.bool false)) fun v112_380 =>
some (v112_380, H_375, n_376)
noncomputable def C16_0 (cal : Cal) (k : Nat) (H : Hp) (n : Nat) : Res := B16_0 cal k  H n
theorem h16_0 (cal : Cal) (k : Nat) (H : Hp) (n : Nat) : bodyE P cal A (k + 1) 16 [] H n = C16_0 cal k  H n := by
  have h : bodyE P cal A (k + 1) 16 [] H n = B16_0 cal k  H n := by
    rw [body_eq (fn := Go.Proofs.Try.f16) (c := code16) (rs := results16) (by kernel_rfl) (by kernel_rfl) (by kernel_rfl) (by kernel_rfl)]
    kernel_rfl
  rw [h, C16_0]
noncomputable def code17 : Code := codeOf 17
noncomputable def results17 : List ResultVar := resOf 17
noncomputable def K17_p (cal : Cal) (k : Nat) : KC (Value × Hp × Nat) := (cutK (A 17).c (codeE P cal (codeF P cal k) none 17 (cR code17) (Lv.b (A 17)) (doneK P results17) X0 (doneK P results17)))
noncomputable def K17_pr (cal : Cal) (k : Nat) : KC (Value × Hp × Nat) := (cutK (Lv.b (A 17)).c (codeE P cal (codeF P cal k) none 17 (cR (cR code17)) (Lv.b (Lv.b (A 17))) (doneK P results17) X0 (doneK P results17)))
noncomputable def B17_0 (cal : Cal) (k : Nat) (v0 : Value) (H : Hp) (n : Nat) : Res :=
boxK 35 v0 H n fun v1_1 H_2 n_3 =>
bindO (addrV v1_1) fun a_6 => bindO (loadV P H_2 35 a_6) fun v3_5 =>
callFK P cal 60 [v3_5] H_2 n_3 fun v4_7 H_8 n_9 =>
some (v4_7, H_8, n_9)
noncomputable def C17_0 (cal : Cal) (k : Nat) (v0 : Value) (H : Hp) (n : Nat) : Res := B17_0 cal k v0 H n
theorem h17_0 (cal : Cal) (k : Nat) (v0 : Value) (H : Hp) (n : Nat) : bodyE P cal A (k + 1) 17 [v0] H n = C17_0 cal k v0 H n := by
  have h : bodyE P cal A (k + 1) 17 [v0] H n = B17_0 cal k v0 H n := by
    rw [body_eq (fn := Go.Proofs.Try.f17) (c := code17) (rs := results17) (by kernel_rfl) (by kernel_rfl) (by kernel_rfl) (by kernel_rfl)]
    kernel_rfl
  rw [h, C17_0]
noncomputable def code19 : Code := codeOf 19
noncomputable def results19 : List ResultVar := resOf 19
noncomputable def K19_p (cal : Cal) (k : Nat) : KC (Value × Hp × Nat) := (cutK (A 19).c (codeE P cal (codeF P cal k) none 19 (cR code19) (Lv.b (A 19)) (doneK P results19) X0 (doneK P results19)))
noncomputable def K19_pr (cal : Cal) (k : Nat) : KC (Value × Hp × Nat) := (cutK (Lv.b (A 19)).c (codeE P cal (codeF P cal k) none 19 (cR (cR code19)) (Lv.b (Lv.b (A 19))) (doneK P results19) X0 (doneK P results19)))
noncomputable def K19_prr (cal : Cal) (k : Nat) : KC (Value × Hp × Nat) := (cutK (Lv.b (Lv.b (A 19))).c (codeE P cal (codeF P cal k) none 19 (cR (cR (cR code19))) (Lv.b (Lv.b (Lv.b (A 19)))) (doneK P results19) X0 (doneK P results19)))
noncomputable def K19_prrl (cal : Cal) (k : Nat) : KC (Value × Hp × Nat) := (cutK (Lv.a (Lv.b (Lv.b (A 19)))).c (codeE P cal (codeF P cal k) none 19 (cR (cL (cR (cR code19)))) (Lv.b (Lv.a (Lv.b (Lv.b (A 19))))) (K19_prr cal k) X0 (doneK P results19)))
noncomputable def K19_prrlrl (cal : Cal) (k : Nat) : KC (Value × Hp × Nat) := (cutK (Lv.a (Lv.b (Lv.a (Lv.b (Lv.b (A 19)))))).c (codeE P cal (codeF P cal k) none 19 (cR (cL (cR (cL (cR (cR code19)))))) (Lv.b (Lv.a (Lv.b (Lv.a (Lv.b (Lv.b (A 19))))))) (K19_prr cal k) X0 (doneK P results19)))
noncomputable def K19_prrr (cal : Cal) (k : Nat) : KC (Value × Hp × Nat) := (cutK (Lv.b (Lv.b (Lv.b (A 19)))).c (codeE P cal (codeF P cal k) none 19 (cR (cR (cR (cR code19)))) (Lv.b (Lv.b (Lv.b (Lv.b (A 19))))) (doneK P results19) X0 (doneK P results19)))
noncomputable def K19_prrrr (cal : Cal) (k : Nat) : KC (Value × Hp × Nat) := (cutK (Lv.b (Lv.b (Lv.b (Lv.b (A 19))))).c (codeE P cal (codeF P cal k) none 19 (cR (cR (cR (cR (cR code19))))) (Lv.b (Lv.b (Lv.b (Lv.b (Lv.b (A 19)))))) (doneK P results19) X0 (doneK P results19)))
noncomputable def K19_prrrrl (cal : Cal) (k : Nat) : KC (Value × Hp × Nat) := (cutK (Lv.a (Lv.b (Lv.b (Lv.b (Lv.b (A 19)))))).c (codeE P cal (codeF P cal k) none 19 (cR (cL (cR (cR (cR (cR code19)))))) (Lv.b (Lv.a (Lv.b (Lv.b (Lv.b (Lv.b (A 19))))))) (K19_prrrr cal k) X0 (doneK P results19)))
noncomputable def K19_pxrrrrlr (cal : Cal) (k : Nat) : XC (Value × Hp × Nat) := (upX 0 (K19_prrrr cal k) X0)
noncomputable def K19_prrrrlrl (cal : Cal) (k : Nat) (m1 : Nat) : KC (Value × Hp × Nat) := (fun T H n D => codeF P cal m1 (Lv.a (Lv.b (Lv.a (Lv.b (Lv.b (Lv.b (Lv.b (A 19)))))))) none 19 (cL (cR (cL (cR (cR (cR (cR code19))))))) (K19_prrrr cal k) (K19_pxrrrrlr cal k) (doneK P results19) (cutT (Lv.a (Lv.b (Lv.a (Lv.b (Lv.b (Lv.b (Lv.b (A 19)))))))).c T) H n D)
noncomputable def K19_prrrrlrll (cal : Cal) (k : Nat) (m1 : Nat) : KC (Value × Hp × Nat) := (cutK (Lv.a (Lv.a (Lv.b (Lv.a (Lv.b (Lv.b (Lv.b (Lv.b (A 19))))))))).c (codeE P cal (codeF P cal m1) none 19 (cR (cL (cL (cR (cL (cR (cR (cR (cR code19))))))))) (Lv.b (Lv.a (Lv.a (Lv.b (Lv.a (Lv.b (Lv.b (Lv.b (Lv.b (A 19)))))))))) (K19_prrrrlrl cal k m1) (K19_pxrrrrlr cal k) (doneK P results19)))
noncomputable def K19_prrrrlrllr (cal : Cal) (k : Nat) (m1 : Nat) : KC (Value × Hp × Nat) := (cutK (Lv.b (Lv.a (Lv.a (Lv.b (Lv.a (Lv.b (Lv.b (Lv.b (Lv.b (A 19)))))))))).c (codeE P cal (codeF P cal m1) none 19 (cR (cR (cL (cL (cR (cL (cR (cR (cR (cR code19)))))))))) (Lv.b (Lv.b (Lv.a (Lv.a (Lv.b (Lv.a (Lv.b (Lv.b (Lv.b (Lv.b (A 19))))))))))) (K19_prrrrlrl cal k m1) (K19_pxrrrrlr cal k) (doneK P results19)))
noncomputable def K19_prrrrlrllrr (cal : Cal) (k : Nat) (m1 : Nat) : KC (Value × Hp × Nat) := (cutK (Lv.b (Lv.b (Lv.a (Lv.a (Lv.b (Lv.a (Lv.b (Lv.b (Lv.b (Lv.b (A 19))))))))))).c (codeE P cal (codeF P cal m1) none 19 (cR (cR (cR (cL (cL (cR (cL (cR (cR (cR (cR code19))))))))))) (Lv.b (Lv.b (Lv.b (Lv.a (Lv.a (Lv.b (Lv.a (Lv.b (Lv.b (Lv.b (Lv.b (A 19)))))))))))) (K19_prrrrlrl cal k m1) (K19_pxrrrrlr cal k) (doneK P results19)))
noncomputable def K19_pxrrrrlrllrrl (cal : Cal) (k : Nat) (m1 : Nat) : XC (Value × Hp × Nat) := (upX 1 (K19_prrrrlrllrr cal k m1) (K19_pxrrrrlr cal k))
noncomputable def K19_prrrrlrllrrll (cal : Cal) (k : Nat) (m1 : Nat) : KC (Value × Hp × Nat) := (cutK (Lv.a (Lv.a (Lv.b (Lv.b (Lv.a (Lv.a (Lv.b (Lv.a (Lv.b (Lv.b (Lv.b (Lv.b (A 19))))))))))))).c (codeE P cal (codeF P cal m1) none 19 (cR (cL (cL (cR (cR (cL (cL (cR (cL (cR (cR (cR (cR code19))))))))))))) (Lv.b (Lv.a (Lv.a (Lv.b (Lv.b (Lv.a (Lv.a (Lv.b (Lv.a (Lv.b (Lv.b (Lv.b (Lv.b (A 19)))))))))))))) (K19_prrrrlrllrr cal k m1) (K19_pxrrrrlrllrrl cal k m1) (doneK P results19)))
noncomputable def K19_prrrrlrllrrllr (cal : Cal) (k : Nat) (m1 : Nat) : KC (Value × Hp × Nat) := (cutK (Lv.b (Lv.a (Lv.a (Lv.b (Lv.b (Lv.a (Lv.a (Lv.b (Lv.a (Lv.b (Lv.b (Lv.b (Lv.b (A 19)))))))))))))).c (codeE P cal (codeF P cal m1) none 19 (cR (cR (cL (cL (cR (cR (cL (cL (cR (cL (cR (cR (cR (cR code19)))))))))))))) (Lv.b (Lv.b (Lv.a (Lv.a (Lv.b (Lv.b (Lv.a (Lv.a (Lv.b (Lv.a (Lv.b (Lv.b (Lv.b (Lv.b (A 19))))))))))))))) (K19_prrrrlrllrr cal k m1) (K19_pxrrrrlrllrrl cal k m1) (doneK P results19)))
noncomputable def K19_pxrrrrlrllrrllrr (cal : Cal) (k : Nat) (m1 : Nat) : XC (Value × Hp × Nat) := (upX 2 (K19_prrrrlrllrr cal k m1) (K19_pxrrrrlrllrrl cal k m1))
noncomputable def K19_prrrrlrllrrllrrl (cal : Cal) (k : Nat) (m1 : Nat) (m2 : Nat) : KC (Value × Hp × Nat) := (fun T H n D => codeF P cal m2 (Lv.a (Lv.b (Lv.b (Lv.a (Lv.a (Lv.b (Lv.b (Lv.a (Lv.a (Lv.b (Lv.a (Lv.b (Lv.b (Lv.b (Lv.b (A 19)))))))))))))))) none 19 (cL (cR (cR (cL (cL (cR (cR (cL (cL (cR (cL (cR (cR (cR (cR code19))))))))))))))) (K19_prrrrlrllrr cal k m1) (K19_pxrrrrlrllrrllrr cal k m1) (doneK P results19) (cutT (Lv.a (Lv.b (Lv.b (Lv.a (Lv.a (Lv.b (Lv.b (Lv.a (Lv.a (Lv.b (Lv.a (Lv.b (Lv.b (Lv.b (Lv.b (A 19)))))))))))))))).c T) H n D)
noncomputable def K19_prrrrlrllrrllrrll (cal : Cal) (k : Nat) (m1 : Nat) (m2 : Nat) : KC (Value × Hp × Nat) := (cutK (Lv.a (Lv.a (Lv.b (Lv.b (Lv.a (Lv.a (Lv.b (Lv.b (Lv.a (Lv.a (Lv.b (Lv.a (Lv.b (Lv.b (Lv.b (Lv.b (A 19))))))))))))))))).c (codeE P cal (codeF P cal m2) none 19 (cR (cL (cL (cR (cR (cL (cL (cR (cR (cL (cL (cR (cL (cR (cR (cR (cR code19))))))))))))))))) (Lv.b (Lv.a (Lv.a (Lv.b (Lv.b (Lv.a (Lv.a (Lv.b (Lv.b (Lv.a (Lv.a (Lv.b (Lv.a (Lv.b (Lv.b (Lv.b (Lv.b (A 19)))))))))))))))))) (K19_prrrrlrllrrllrrl cal k m1 m2) (K19_pxrrrrlrllrrllrr cal k m1) (doneK P results19)))
noncomputable def K19_prrrrlrllrrllrrllr (cal : Cal) (k : Nat) (m1 : Nat) (m2 : Nat) : KC (Value × Hp × Nat) := (cutK (Lv.b (Lv.a (Lv.a (Lv.b (Lv.b (Lv.a (Lv.a (Lv.b (Lv.b (Lv.a (Lv.a (Lv.b (Lv.a (Lv.b (Lv.b (Lv.b (Lv.b (A 19)))))))))))))))))).c (codeE P cal (codeF P cal m2) none 19 (cR (cR (cL (cL (cR (cR (cL (cL (cR (cR (cL (cL (cR (cL (cR (cR (cR (cR code19)))))))))))))))))) (Lv.b (Lv.b (Lv.a (Lv.a (Lv.b (Lv.b (Lv.a (Lv.a (Lv.b (Lv.b (Lv.a (Lv.a (Lv.b (Lv.a (Lv.b (Lv.b (Lv.b (Lv.b (A 19))))))))))))))))))) (K19_prrrrlrllrrllrrl cal k m1 m2) (K19_pxrrrrlrllrrllrr cal k m1) (doneK P results19)))
noncomputable def K19_prrrrlrllrrllrrllrr (cal : Cal) (k : Nat) (m1 : Nat) (m2 : Nat) : KC (Value × Hp × Nat) := (cutK (Lv.b (Lv.b (Lv.a (Lv.a (Lv.b (Lv.b (Lv.a (Lv.a (Lv.b (Lv.b (Lv.a (Lv.a (Lv.b (Lv.a (Lv.b (Lv.b (Lv.b (Lv.b (A 19))))))))))))))))))).c (codeE P cal (codeF P cal m2) none 19 (cR (cR (cR (cL (cL (cR (cR (cL (cL (cR (cR (cL (cL (cR (cL (cR (cR (cR (cR code19))))))))))))))))))) (Lv.b (Lv.b (Lv.b (Lv.a (Lv.a (Lv.b (Lv.b (Lv.a (Lv.a (Lv.b (Lv.b (Lv.a (Lv.a (Lv.b (Lv.a (Lv.b (Lv.b (Lv.b (Lv.b (A 19)))))))))))))))))))) (K19_prrrrlrllrrllrrl cal k m1 m2) (K19_pxrrrrlrllrrllrr cal k m1) (doneK P results19)))
noncomputable def K19_pxrrrrlrllrrllrrllrrl (cal : Cal) (k : Nat) (m1 : Nat) (m2 : Nat) : XC (Value × Hp × Nat) := (upX 3 (K19_prrrrlrllrrllrrllrr cal k m1 m2) (K19_pxrrrrlrllrrllrr cal k m1))
noncomputable def K19_prrrrlrllrrllrrllrrll (cal : Cal) (k : Nat) (m1 : Nat) (m2 : Nat) : KC (Value × Hp × Nat) := (cutK (Lv.a (Lv.a (Lv.b (Lv.b (Lv.a (Lv.a (Lv.b (Lv.b (Lv.a (Lv.a (Lv.b (Lv.b (Lv.a (Lv.a (Lv.b (Lv.a (Lv.b (Lv.b (Lv.b (Lv.b (A 19))))))))))))))))))))).c (codeE P cal (codeF P cal m2) none 19 (cR (cL (cL (cR (cR (cL (cL (cR (cR (cL (cL (cR (cR (cL (cL (cR (cL (cR (cR (cR (cR code19))))))))))))))))))))) (Lv.b (Lv.a (Lv.a (Lv.b (Lv.b (Lv.a (Lv.a (Lv.b (Lv.b (Lv.a (Lv.a (Lv.b (Lv.b (Lv.a (Lv.a (Lv.b (Lv.a (Lv.b (Lv.b (Lv.b (Lv.b (A 19)))))))))))))))))))))) (K19_prrrrlrllrrllrrllrr cal k m1 m2) (K19_pxrrrrlrllrrllrrllrrl cal k m1 m2) (doneK P results19)))
noncomputable def K19_prrrrr (cal : Cal) (k : Nat) : KC (Value × Hp × Nat) := (cutK (Lv.b (Lv.b (Lv.b (Lv.b (Lv.b (A 19)))))).c (codeE P cal (codeF P cal k) none 19 (cR (cR (cR (cR (cR (cR code19)))))) (Lv.b (Lv.b (Lv.b (Lv.b (Lv.b (Lv.b (A 19))))))) (doneK P results19) X0 (doneK P results19)))
noncomputable def E19_2 (cal : Cal) (k m1 m2 : Nat) : KC (Value × Hp × Nat) := codeE P cal (codeF P cal m2) none 19 (cL (cL (cR (cR (cL (cL (cR (cR (cL (cL (cR (cL (cR (cR (cR (cR code19)))))))))))))))) (Lv.a (Lv.a (Lv.b (Lv.b (Lv.a (Lv.a (Lv.b (Lv.b (Lv.a (Lv.a (Lv.b (Lv.a (Lv.b (Lv.b (Lv.b (Lv.b (A 19))))))))))))))))) (K19_prrrrlrllrrllrrl cal k m1 m2) (K19_pxrrrrlrllrrllrr cal k m1) (doneK P results19)
noncomputable def R19_2 (cal : Cal) (k m1 m2 : Nat) : Value → Value → Value → Value → Value → Value → Value → Hp → Nat → Res := fun u4 u6 u7 u29 u30 u38 u39 H n => codeF P cal m2 (Lv.a (Lv.b (Lv.b (Lv.a (Lv.a (Lv.b (Lv.b (Lv.a (Lv.a (Lv.b (Lv.a (Lv.b (Lv.b (Lv.b (Lv.b (A 19)))))))))))))))) none 19 (cL (cR (cR (cL (cL (cR (cR (cL (cL (cR (cL (cR (cR (cR (cR code19))))))))))))))) (K19_prrrrlrllrr cal k m1) (K19_pxrrrrlrllrrllrr cal k m1) (doneK P results19) (Tr.set (Tr.set (Tr.set (Tr.set (Tr.set (Tr.set (Tr.set Tr.nil 39 (some u39)) 38 (some u38)) 30 (some u30)) 29 (some u29)) 7 (some u7)) 6 (some u6)) 4 (some u4)) H n []
noncomputable def E19_1 (cal : Cal) (k m1 : Nat) : KC (Value × Hp × Nat) := codeE P cal (codeF P cal m1) none 19 (cL (cL (cR (cL (cR (cR (cR (cR code19)))))))) (Lv.a (Lv.a (Lv.b (Lv.a (Lv.b (Lv.b (Lv.b (Lv.b (A 19))))))))) (K19_prrrrlrl cal k m1) (K19_pxrrrrlr cal k) (doneK P results19)
noncomputable def R19_1 (cal : Cal) (k m1 : Nat) : Value → Value → Value → Value → Hp → Nat → Res := fun u4 u6 u29 u30 H n => codeF P cal m1 (Lv.a (Lv.b (Lv.a (Lv.b (Lv.b (Lv.b (Lv.b (A 19)))))))) none 19 (cL (cR (cL (cR (cR (cR (cR code19))))))) (K19_prrrr cal k) (K19_pxrrrrlr cal k) (doneK P results19) (Tr.set (Tr.set (Tr.set (Tr.set Tr.nil 30 (some u30)) 29 (some u29)) 6 (some u6)) 4 (some u4)) H n []
noncomputable def B19_2 (cal : Cal) (k m1 m2 : Nat) (b1 : Value → Value → Value → Value → Hp → Nat → Res) (b2 : Value → Value → Value → Value → Value → Value → Value → Hp → Nat → Res) (u4 u6 u7 u29 u30 u38 u39 : Value) (H : Hp) (n : Nat) : Res :=
binK P Go.BinOp.lss 3 (Go.Operand.tmp 39) (Go.Operand.tmp 38) u39 u38 fun v40_51 =>
ifK v40_51 (
bindO (indexAddrV P 37 u6 u7) fun v46_58 =>
bindO (addrV v46_58) fun a_59 => bindO (loadV P H 41 a_59) fun v_60 =>
bindO (nilV u4) fun v51_64 =>
bindO (fieldAddrV P 117 v51_64 2) fun v52_65 =>
bindO (indexAddrV P 115 v52_65 u7) fun v53_66 =>
bindO (indexAddrV P 114 v53_66 u39) fun v54_67 =>
bindO (addrV v54_67) fun a_68 => bindO (loadV P H 113 a_68) fun v_69 =>
effK P [(.l 41 a_59)] H n (fun H_70 n_71 k_72 =>
callFK P cal 62 [v_69] H_70 n_71 fun v56_76 H_77 n_78 =>
k_72 v56_76 H_77 n_78) fun v_73 H_74 n_75 =>
bindO (rowOf P 41 1 [(0, v_73)]) fun q_81 => newK q_81.1 q_81.2 H_74 n_75 fun H_79 n_80 =>
stK (appendV P (bare H_79 n_80) 41 41 v_60 (.slice (some ⟨n_75, 0, none⟩) 1 1)) fun v58_82 H_83 n_84 =>
bindO (indexAddrV P 37 u6 u7) fun v59_85 =>
bindO (storeP P 41 v59_85 v58_82 H_83) fun H_87 =>
binK P Go.BinOp.add 3 (Go.Operand.tmp 39) (Go.Operand.const (Go.Value.int Go.IntKind.i64 1)) u39 (Go.Value.int Go.IntKind.i64 1) fun v60_88 =>
b2 u4 u6 u7 u29 u30 u38 v60_88 H_87 n_84) (
binK P Go.BinOp.add 3 (Go.Operand.tmp 30) (Go.Operand.const (Go.Value.int Go.IntKind.i64 1)) u30 (Go.Value.int Go.IntKind.i64 1) fun v61_90 =>
b1 u4 u6 u29 v61_90 H n)
noncomputable def C19_2 (cal : Cal) (k m1 m2 : Nat) (b1 : Value → Value → Value → Value → Hp → Nat → Res) (b2 : Value → Value → Value → Value → Value → Value → Value → Hp → Nat → Res) (u4 u6 u7 u29 u30 u38 u39 : Value) (H : Hp) (n : Nat) : Res := B19_2 cal k m1 m2 b1 b2 u4 u6 u7 u29 u30 u38 u39 H n
noncomputable def S19_2 (cal : Cal) (k m1 : Nat) (b1 : Value → Value → Value → Value → Hp → Nat → Res) : Nat → Value → Value → Value → Value → Value → Value → Value → Hp → Nat → Res := fun m => Nat.rec (motive := fun _ => Value → Value → Value → Value → Value → Value → Value → Hp → Nat → Res) (C19_2 cal k m1 0 b1 (fun _ _ _ _ _ _ _ _ _ => none)) (fun m ih => C19_2 cal k m1 (m + 1) b1 ih) m
theorem h19_2 (cal : Cal) (k m1 m2 : Nat) (u4 u6 u7 u29 u30 u38 u39 : Value) (H : Hp) (n : Nat) : labK (E19_2 cal k m1 m2) (Tr.set (Tr.set (Tr.set (Tr.set (Tr.set (Tr.set (Tr.set Tr.nil 39 (some u39)) 38 (some u38)) 30 (some u30)) 29 (some u29)) 7 (some u7)) 6 (some u6)) 4 (some u4)) H n [] = C19_2 cal k m1 m2 (R19_1 cal k m1) (R19_2 cal k m1 m2) u4 u6 u7 u29 u30 u38 u39 H n := by
  have h : labK (E19_2 cal k m1 m2) (Tr.set (Tr.set (Tr.set (Tr.set (Tr.set (Tr.set (Tr.set Tr.nil 39 (some u39)) 38 (some u38)) 30 (some u30)) 29 (some u29)) 7 (some u7)) 6 (some u6)) 4 (some u4)) H n [] = B19_2 cal k m1 m2 (R19_1 cal k m1) (R19_2 cal k m1 m2) u4 u6 u7 u29 u30 u38 u39 H n := by kernel_rfl
  rw [h, C19_2]
theorem q19_2 (cal : Cal) (k m1 : Nat) : ∀ (m : Nat) (u4 u6 u7 u29 u30 u38 u39 : Value) (H : Hp) (n : Nat), labK (E19_2 cal k m1 m) (Tr.set (Tr.set (Tr.set (Tr.set (Tr.set (Tr.set (Tr.set Tr.nil 39 (some u39)) 38 (some u38)) 30 (some u30)) 29 (some u29)) 7 (some u7)) 6 (some u6)) 4 (some u4)) H n [] = S19_2 cal k m1 (R19_1 cal k m1) m u4 u6 u7 u29 u30 u38 u39 H n
  | 0, u4, u6, u7, u29, u30, u38, u39, H, n => by
    rw [h19_2]
    have e : R19_2 cal k m1 0 = fun _ _ _ _ _ _ _ _ _ => none := by funext u4 u6 u7 u29 u30 u38 u39 H n; kernel_rfl
    rw [e]; rfl
  | m + 1, u4, u6, u7, u29, u30, u38, u39, H, n => by
    rw [h19_2]
    have e : R19_2 cal k m1 (m + 1) = S19_2 cal k m1 (R19_1 cal k m1) m := by
      funext u4 u6 u7 u29 u30 u38 u39 H n
      have e : R19_2 cal k m1 (m + 1) u4 u6 u7 u29 u30 u38 u39 H n = labK (E19_2 cal k m1 m) (Tr.set (Tr.set (Tr.set (Tr.set (Tr.set (Tr.set (Tr.set Tr.nil 39 (some u39)) 38 (some u38)) 30 (some u30)) 29 (some u29)) 7 (some u7)) 6 (some u6)) 4 (some u4)) H n [] := by kernel_rfl
      rw [e]; exact q19_2 ..
    rw [e]; rfl
noncomputable def B19_1 (cal : Cal) (k m1 : Nat) (j2 : Value → Value → Value → Value → Value → Value → Value → Hp → Nat → Res) (b1 : Value → Value → Value → Value → Hp → Nat → Res) (u4 u6 u29 u30 : Value) (H : Hp) (n : Nat) : Res :=
binK P Go.BinOp.lss 3 (Go.Operand.tmp 30) (Go.Operand.tmp 29) u30 u29 fun v31_40 =>
ifK v31_40 (
bindO (nilV u4) fun v34_44 =>
bindO (fieldAddrV P 117 v34_44 0) fun v35_45 =>
bindO (fieldAddrV P 35 v35_45 2) fun v36_46 =>
bindO (addrV v36_46) fun a_48 => bindO (loadV P H 33 a_48) fun v37_47 =>
bindO (lenV P 33 v37_47) fun v38_49 =>
j2 u4 u6 u30 u29 u30 v38_49 (Go.Value.int Go.IntKind.i64 0) H n) (
some ((Value.tuple ⟨[u6, (Go.Value.int Go.IntKind.i64 0)]⟩), H, n))
noncomputable def C19_1 (cal : Cal) (k m1 : Nat) (b1 : Value → Value → Value → Value → Hp → Nat → Res) (u4 u6 u29 u30 : Value) (H : Hp) (n : Nat) : Res := B19_1 cal k m1 (S19_2 cal k m1 b1 m1) b1 u4 u6 u29 u30 H n
noncomputable def S19_1 (cal : Cal) (k : Nat) : Nat → Value → Value → Value → Value → Hp → Nat → Res := fun m => Nat.rec (motive := fun _ => Value → Value → Value → Value → Hp → Nat → Res) (C19_1 cal k 0 (fun _ _ _ _ _ _ => none)) (fun m ih => C19_1 cal k (m + 1) ih) m
theorem h19_1 (cal : Cal) (k m1 : Nat) (u4 u6 u29 u30 : Value) (H : Hp) (n : Nat) : labK (E19_1 cal k m1) (Tr.set (Tr.set (Tr.set (Tr.set Tr.nil 30 (some u30)) 29 (some u29)) 6 (some u6)) 4 (some u4)) H n [] = C19_1 cal k m1 (R19_1 cal k m1) u4 u6 u29 u30 H n := by
  have h : labK (E19_1 cal k m1) (Tr.set (Tr.set (Tr.set (Tr.set Tr.nil 30 (some u30)) 29 (some u29)) 6 (some u6)) 4 (some u4)) H n [] = B19_1 cal k m1 (fun u4 u6 u7 u29 u30 u38 u39 H n => labK (E19_2 cal k m1 m1) (Tr.set (Tr.set (Tr.set (Tr.set (Tr.set (Tr.set (Tr.set Tr.nil 39 (some u39)) 38 (some u38)) 30 (some u30)) 29 (some u29)) 7 (some u7)) 6 (some u6)) 4 (some u4)) H n []) (R19_1 cal k m1) u4 u6 u29 u30 H n := by kernel_rfl
  rw [h, C19_1]
  have e2 : (fun u4 u6 u7 u29 u30 u38 u39 H n => labK (E19_2 cal k m1 m1) (Tr.set (Tr.set (Tr.set (Tr.set (Tr.set (Tr.set (Tr.set Tr.nil 39 (some u39)) 38 (some u38)) 30 (some u30)) 29 (some u29)) 7 (some u7)) 6 (some u6)) 4 (some u4)) H n []) = (S19_2 cal k m1 (R19_1 cal k m1) m1) := by funext u4 u6 u7 u29 u30 u38 u39 H n; exact q19_2 ..
  rw [e2]
theorem q19_1 (cal : Cal) (k : Nat) : ∀ (m : Nat) (u4 u6 u29 u30 : Value) (H : Hp) (n : Nat), labK (E19_1 cal k m) (Tr.set (Tr.set (Tr.set (Tr.set Tr.nil 30 (some u30)) 29 (some u29)) 6 (some u6)) 4 (some u4)) H n [] = S19_1 cal k m u4 u6 u29 u30 H n
  | 0, u4, u6, u29, u30, H, n => by
    rw [h19_1]
    have e : R19_1 cal k 0 = fun _ _ _ _ _ _ => none := by funext u4 u6 u29 u30 H n; kernel_rfl
    rw [e]; rfl
  | m + 1, u4, u6, u29, u30, H, n => by
    rw [h19_1]
    have e : R19_1 cal k (m + 1) = S19_1 cal k m := by
      funext u4 u6 u29 u30 H n
      have e : R19_1 cal k (m + 1) u4 u6 u29 u30 H n = labK (E19_1 cal k m) (Tr.set (Tr.set (Tr.set (Tr.set Tr.nil 30 (some u30)) 29 (some u29)) 6 (some u6)) 4 (some u4)) H n [] := by kernel_rfl
      rw [e]; exact q19_1 ..
    rw [e]; rfl
noncomputable def B19_0 (cal : Cal) (k : Nat) (j1 : Value → Value → Value → Value → Hp → Nat → Res) (v0 : Value) (H : Hp) (n : Nat) : Res :=
boxK 35 v0 H n fun v1_1 H_2 n_3 =>
bindO (addrV v1_1) fun a_7 => bindO (loadV P H_2 35 a_7) fun v10_6 =>
callFK P cal 61 [v10_6] H_2 n_3 fun v11_8 H_9 n_10 =>
bindO (tupV v11_8 0) fun v12_12 =>
bindO (tupV v11_8 1) fun v13_13 =>
binK P Go.BinOp.neq 29 (Go.Operand.tmp 14) (Go.Operand.const (Go.Value.int Go.IntKind.i64 0)) v13_13 (Go.Value.int Go.IntKind.i64 0) fun v15_17 =>
ifK v15_17 (
some ((Value.tuple ⟨[(Go.Value.slice none 0 0), v13_13]⟩), H_9, n_10)) (
bindO (nilV v12_12) fun v18_22 =>
bindO (fieldAddrV P 117 v18_22 0) fun v19_23 =>
bindO (fieldAddrV P 35 v19_23 0) fun v20_24 =>
bindO (addrV v20_24) fun a_26 => bindO (loadV P H_9 31 a_26) fun v21_25 =>
bindO (lenV P 31 v21_25) fun v22_27 =>
stK (makeSliceP P 37 v22_27 v22_27 (bare H_9 n_10)) fun v23_28 H_29 n_30 =>
bindO (nilV v12_12) fun v25_33 =>
bindO (fieldAddrV P 117 v25_33 0) fun v26_34 =>
bindO (fieldAddrV P 35 v26_34 0) fun v27_35 =>
bindO (addrV v27_35) fun a_37 => bindO (loadV P H_29 31 a_37) fun v28_36 =>
bindO (lenV P 31 v28_36) fun v29_38 =>
j1 v12_12 v23_28 v29_38 (Go.Value.int Go.IntKind.i64 0) H_29 n_30)
noncomputable def C19_0 (cal : Cal) (k : Nat) (v0 : Value) (H : Hp) (n : Nat) : Res := B19_0 cal k (S19_1 cal k k) v0 H n
theorem h19_0 (cal : Cal) (k : Nat) (v0 : Value) (H : Hp) (n : Nat) : bodyE P cal A (k + 1) 19 [v0] H n = C19_0 cal k v0 H n := by
  have h : bodyE P cal A (k + 1) 19 [v0] H n = B19_0 cal k (fun u4 u6 u29 u30 H n => labK (E19_1 cal k k) (Tr.set (Tr.set (Tr.set (Tr.set Tr.nil 30 (some u30)) 29 (some u29)) 6 (some u6)) 4 (some u4)) H n []) v0 H n := by
    rw [body_eq (fn := Go.Proofs.Try.f19) (c := code19) (rs := results19) (by kernel_rfl) (by kernel_rfl) (by kernel_rfl) (by kernel_rfl)]
    kernel_rfl
  rw [h, C19_0]
  have e1 : (fun u4 u6 u29 u30 H n => labK (E19_1 cal k k) (Tr.set (Tr.set (Tr.set (Tr.set Tr.nil 30 (some u30)) 29 (some u29)) 6 (some u6)) 4 (some u4)) H n []) = (S19_1 cal k k) := by funext u4 u6 u29 u30 H n; exact q19_1 ..
  rw [e1]
noncomputable def code22 : Code := codeOf 22
noncomputable def results22 : List ResultVar := resOf 22
noncomputable def K22_p (cal : Cal) (k : Nat) : KC (Value × Hp × Nat) := (cutK (A 22).c (codeE P cal (codeF P cal k) none 22 (cR code22) (Lv.b (A 22)) (doneK P results22) X0 (doneK P results22)))
noncomputable def K22_pr (cal : Cal) (k : Nat) : KC (Value × Hp × Nat) := (cutK (Lv.b (A 22)).c (codeE P cal (codeF P cal k) none 22 (cR (cR code22)) (Lv.b (Lv.b (A 22))) (doneK P results22) X0 (doneK P results22)))
noncomputable def K22_prr (cal : Cal) (k : Nat) : KC (Value × Hp × Nat) := (cutK (Lv.b (Lv.b (A 22))).c (codeE P cal (codeF P cal k) none 22 (cR (cR (cR code22))) (Lv.b (Lv.b (Lv.b (A 22)))) (doneK P results22) X0 (doneK P results22)))
noncomputable def K22_prrl (cal : Cal) (k : Nat) : KC (Value × Hp × Nat) := (cutK (Lv.a (Lv.b (Lv.b (A 22)))).c (codeE P cal (codeF P cal k) none 22 (cR (cL (cR (cR code22)))) (Lv.b (Lv.a (Lv.b (Lv.b (A 22))))) (K22_prr cal k) X0 (doneK P results22)))
noncomputable def K22_prrlrl (cal : Cal) (k : Nat) : KC (Value × Hp × Nat) := (cutK (Lv.a (Lv.b (Lv.a (Lv.b (Lv.b (A 22)))))).c (codeE P cal (codeF P cal k) none 22 (cR (cL (cR (cL (cR (cR code22)))))) (Lv.b (Lv.a (Lv.b (Lv.a (Lv.b (Lv.b (A 22))))))) (K22_prr cal k) X0 (doneK P results22)))
noncomputable def K22_prrr (cal : Cal) (k : Nat) : KC (Value × Hp × Nat) := (cutK (Lv.b (Lv.b (Lv.b (A 22)))).c (codeE P cal (codeF P cal k) none 22 (cR (cR (cR (cR code22)))) (Lv.b (Lv.b (Lv.b (Lv.b (A 22))))) (doneK P results22) X0 (doneK P results22)))
noncomputable def K22_prrrr (cal : Cal) (k : Nat) : KC (Value × Hp × Nat) := (cutK (Lv.b (Lv.b (Lv.b (Lv.b (A 22))))).c (codeE P cal (codeF P cal k) none 22 (cR (cR (cR (cR (cR code22))))) (Lv.b (Lv.b (Lv.b (Lv.b (Lv.b (A 22)))))) (doneK P results22) X0 (doneK P results22)))
noncomputable def B22_0 (cal : Cal) (k : Nat) (v0 v1 : Value) (H : Hp) (n : Nat) : Res :=
boxK 35 v0 H n fun v2_1 H_2 n_3 =>
bindO (addrV v2_1) fun a_7 => bindO (loadV P H_2 35 a_7) fun v11_6 =>
callFK P cal 65 [v11_6, v1] H_2 n_3 fun v13_9 H_10 n_11 =>
bindO (tupV v13_9 0) fun v14_13 =>
bindO (tupV v13_9 1) fun v15_14 =>
bindO (tupV v13_9 2) fun v16_15 =>
allocK P 121 H_10 n_11 fun v7_16 H_17 n_18 =>
bindO (storeP P 121 v7_16 v15_14 H_17) fun H_21 =>
binK P Go.BinOp.neq 29 (Go.Operand.tmp 17) (Go.Operand.const (Go.Value.int Go.IntKind.i64 0)) v16_15 (Go.Value.int Go.IntKind.i64 0) fun v18_24 =>
ifK v18_24 (
some ((Value.tuple ⟨[(Go.Value.slice none 0 0), v16_15]⟩), H_21, n_18)) (
bindO (addrV v7_16) fun a_30 => bindO (loadV P H_21 121 a_30) fun v21_29 =>
callFK P cal 66 [v14_13, v21_29] H_21 n_18 fun v22_31 H_32 n_33 =>
allocK P 111 H_32 n_33 fun v9_34 H_35 n_36 =>
bindO (storeP P 111 v9_34 v22_31 H_35) fun H_38 =>
bindO (nilV v14_13) fun v24_40 =>
bindO (fieldAddrV P 117 v24_40 0) fun v25_41 =>
bindO (fieldAddrV P 35 v25_41 0) fun v26_42 =>
bindO (addrV v26_42) fun a_44 => bindO (loadV P H_38 31 a_44) fun v27_43 =>
bindO (lenV P 31 v27_43) fun v28_45 =>
bindO (sliceV P 111 v9_34 none (some v28_45)) fun v29_46 =>
callFK P cal 67 [v29_46] H_38 n_36 fun v30_47 H_48 n_49 =>
some ((Value.tuple ⟨[v30_47, (Go.Value.int Go.IntKind.i64 0)]⟩), H_48, n_49))
noncomputable def C22_0 (cal : Cal) (k : Nat) (v0 v1 : Value) (H : Hp) (n : Nat) : Res := B22_0 cal k v0 v1 H n
theorem h22_0 (cal : Cal) (k : Nat) (v0 v1 : Value) (H : Hp) (n : Nat) : bodyE P cal A (k + 1) 22 [v0, v1] H n = C22_0 cal k v0 v1 H n := by
  have h : bodyE P cal A (k + 1) 22 [v0, v1] H n = B22_0 cal k v0 v1 H n := by
    rw [body_eq (fn := Go.Proofs.Try.f22) (c := code22) (rs := results22) (by kernel_rfl) (by kernel_rfl) (by kernel_rfl) (by kernel_rfl)]
    kernel_rfl
  rw [h, C22_0]
noncomputable def code24 : Code := codeOf 24
noncomputable def results24 : List ResultVar := resOf 24
noncomputable def K24_p (cal : Cal) (k : Nat) : KC (Value × Hp × Nat) := (cutK (A 24).c (codeE P cal (codeF P cal k) none 24 (cR code24) (Lv.b (A 24)) (doneK P results24) X0 (doneK P results24)))
noncomputable def K24_pr (cal : Cal) (k : Nat) : KC (Value × Hp × Nat) := (cutK (Lv.b (A 24)).c (codeE P cal (codeF P cal k) none 24 (cR (cR code24)) (Lv.b (Lv.b (A 24))) (doneK P results24) X0 (doneK P results24)))
noncomputable def K24_prr (cal : Cal) (k : Nat) : KC (Value × Hp × Nat) := (cutK (Lv.b (Lv.b (A 24))).c (codeE P cal (codeF P cal k) none 24 (cR (cR (cR code24))) (Lv.b (Lv.b (Lv.b (A 24)))) (doneK P results24) X0 (doneK P results24)))
noncomputable def K24_prrl (cal : Cal) (k : Nat) : KC (Value × Hp × Nat) := (cutK (Lv.a (Lv.b (Lv.b (A 24)))).c (codeE P cal (codeF P cal k) none 24 (cR (cL (cR (cR code24)))) (Lv.b (Lv.a (Lv.b (Lv.b (A 24))))) (K24_prr cal k) X0 (doneK P results24)))
noncomputable def K24_prrlrl (cal : Cal) (k : Nat) : KC (Value × Hp × Nat) := (cutK (Lv.a (Lv.b (Lv.a (Lv.b (Lv.b (A 24)))))).c (codeE P cal (codeF P cal k) none 24 (cR (cL (cR (cL (cR (cR code24)))))) (Lv.b (Lv.a (Lv.b (Lv.a (Lv.b (Lv.b (A 24))))))) (K24_prr cal k) X0 (doneK P results24)))
noncomputable def K24_prrr (cal : Cal) (k : Nat) : KC (Value × Hp × Nat) := (cutK (Lv.b (Lv.b (Lv.b (A 24)))).c (codeE P cal (codeF P cal k) none 24 (cR (cR (cR (cR code24)))) (Lv.b (Lv.b (Lv.b (Lv.b (A 24))))) (doneK P results24) X0 (doneK P results24)))
noncomputable def K24_prrrr (cal : Cal) (k : Nat) : KC (Value × Hp × Nat) := (cutK (Lv.b (Lv.b (Lv.b (Lv.b (A 24))))).c (codeE P cal (codeF P cal k) none 24 (cR (cR (cR (cR (cR code24))))) (Lv.b (Lv.b (Lv.b (Lv.b (Lv.b (A 24)))))) (doneK P results24) X0 (doneK P results24)))
noncomputable def K24_prrrrl (cal : Cal) (k : Nat) : KC (Value × Hp × Nat) := (cutK (Lv.a (Lv.b (Lv.b (Lv.b (Lv.b (A 24)))))).c (codeE P cal (codeF P cal k) none 24 (cR (cL (cR (cR (cR (cR code24)))))) (Lv.b (Lv.a (Lv.b (Lv.b (Lv.b (Lv.b (A 24))))))) (K24_prrrr cal k) X0 (doneK P results24)))
noncomputable def K24_pxrrrrlr (cal : Cal) (k : Nat) : XC (Value × Hp × Nat) := (upX 0 (K24_prrrr cal k) X0)
noncomputable def K24_prrrrlrl (cal : Cal) (k : Nat) (m1 : Nat) : KC (Value × Hp × Nat) := (fun T H n D => codeF P cal m1 (Lv.a (Lv.b (Lv.a (Lv.b (Lv.b (Lv.b (Lv.b (A 24)))))))) none 24 (cL (cR (cL (cR (cR (cR (cR code24))))))) (K24_prrrr cal k) (K24_pxrrrrlr cal k) (doneK P results24) (cutT (Lv.a (Lv.b (Lv.a (Lv.b (Lv.b (Lv.b (Lv.b (A 24)))))))).c T) H n D)
noncomputable def K24_prrrrlrll (cal : Cal) (k : Nat) (m1 : Nat) : KC (Value × Hp × Nat) := (cutK (Lv.a (Lv.a (Lv.b (Lv.a (Lv.b (Lv.b (Lv.b (Lv.b (A 24))))))))).c (codeE P cal (codeF P cal m1) none 24 (cR (cL (cL (cR (cL (cR (cR (cR (cR code24))))))))) (Lv.b (Lv.a (Lv.a (Lv.b (Lv.a (Lv.b (Lv.b (Lv.b (Lv.b (A 24)))))))))) (K24_prrrrlrl cal k m1) (K24_pxrrrrlr cal k) (doneK P results24)))
noncomputable def K24_prrrrlrllr (cal : Cal) (k : Nat) (m1 : Nat) : KC (Value × Hp × Nat) := (cutK (Lv.b (Lv.a (Lv.a (Lv.b (Lv.a (Lv.b (Lv.b (Lv.b (Lv.b (A 24)))))))))).c (codeE P cal (codeF P cal m1) none 24 (cR (cR (cL (cL (cR (cL (cR (cR (cR (cR code24)))))))))) (Lv.b (Lv.b (Lv.a (Lv.a (Lv.b (Lv.a (Lv.b (Lv.b (Lv.b (Lv.b (A 24))))))))))) (K24_prrrrlrl cal k m1) (K24_pxrrrrlr cal k) (doneK P results24)))
noncomputable def K24_prrrrlrllrr (cal : Cal) (k : Nat) (m1 : Nat) : KC (Value × Hp × Nat) := (cutK (Lv.b (Lv.b (Lv.a (Lv.a (Lv.b (Lv.a (Lv.b (Lv.b (Lv.b (Lv.b (A 24))))))))))).c (codeE P cal (codeF P cal m1) none 24 (cR (cR (cR (cL (cL (cR (cL (cR (cR (cR (cR code24))))))))))) (Lv.b (Lv.b (Lv.b (Lv.a (Lv.a (Lv.b (Lv.a (Lv.b (Lv.b (Lv.b (Lv.b (A 24)))))))))))) (K24_prrrrlrl cal k m1) (K24_pxrrrrlr cal k) (doneK P results24)))
noncomputable def K24_pxrrrrlrllrrl (cal : Cal) (k : Nat) (m1 : Nat) : XC (Value × Hp × Nat) := (upX 1 (K24_prrrrlrllrr cal k m1) (K24_pxrrrrlr cal k))
noncomputable def K24_prrrrlrllrrll (cal : Cal) (k : Nat) (m1 : Nat) : KC (Value × Hp × Nat) := (cutK (Lv.a (Lv.a (Lv.b (Lv.b (Lv.a (Lv.a (Lv.b (Lv.a (Lv.b (Lv.b (Lv.b (Lv.b (A 24))))))))))))).c (codeE P cal (codeF P cal m1) none 24 (cR (cL (cL (cR (cR (cL (cL (cR (cL (cR (cR (cR (cR code24))))))))))))) (Lv.b (Lv.a (Lv.a (Lv.b (Lv.b (Lv.a (Lv.a (Lv.b (Lv.a (Lv.b (Lv.b (Lv.b (Lv.b (A 24)))))))))))))) (K24_prrrrlrllrr cal k m1) (K24_pxrrrrlrllrrl cal k m1) (doneK P results24)))
noncomputable def K24_prrrrlrllrrllrr (cal : Cal) (k : Nat) (m1 : Nat) : KC (Value × Hp × Nat) := (cutK (Lv.b (Lv.b (Lv.a (Lv.a (Lv.b (Lv.b (Lv.a (Lv.a (Lv.b (Lv.a (Lv.b (Lv.b (Lv.b (Lv.b (A 24))))))))))))))).c (codeE P cal (codeF P cal m1) none 24 (cR (cR (cR (cL (cL (cR (cR (cL (cL (cR (cL (cR (cR (cR (cR code24))))))))))))))) (Lv.b (Lv.b (Lv.b (Lv.a (Lv.a (Lv.b (Lv.b (Lv.a (Lv.a (Lv.b (Lv.a (Lv.b (Lv.b (Lv.b (Lv.b (A 24)))))))))))))))) (K24_prrrrlrllrr cal k m1) (K24_pxrrrrlrllrrl cal k m1) (doneK P results24)))
noncomputable def K24_prrrrlrllrrllr (cal : Cal) (k : Nat) (m1 : Nat) : KC (Value × Hp × Nat) := (cutK (Lv.b (Lv.a (Lv.a (Lv.b (Lv.b (Lv.a (Lv.a (Lv.b (Lv.a (Lv.b (Lv.b (Lv.b (Lv.b (A 24)))))))))))))).c (codeE P cal (codeF P cal m1) none 24 (cR (cR (cL (cL (cR (cR (cL (cL (cR (cL (cR (cR (cR (cR code24)))))))))))))) (Lv.b (Lv.b (Lv.a (Lv.a (Lv.b (Lv.b (Lv.a (Lv.a (Lv.b (Lv.a (Lv.b (Lv.b (Lv.b (Lv.b (A 24))))))))))))))) (K24_prrrrlrllrr cal k m1) (K24_pxrrrrlrllrrl cal k m1) (doneK P results24)))
noncomputable def K24_prrrrlrllrrllrl (cal : Cal) (k : Nat) (m1 : Nat) : KC (Value × Hp × Nat) := (cutK (Lv.a (Lv.b (Lv.a (Lv.a (Lv.b (Lv.b (Lv.a (Lv.a (Lv.b (Lv.a (Lv.b (Lv.b (Lv.b (Lv.b (A 24))))))))))))))).c (codeE P cal (codeF P cal m1) none 24 (cR (cL (cR (cL (cL (cR (cR (cL (cL (cR (cL (cR (cR (cR (cR code24))))))))))))))) (Lv.b (Lv.a (Lv.b (Lv.a (Lv.a (Lv.b (Lv.b (Lv.a (Lv.a (Lv.b (Lv.a (Lv.b (Lv.b (Lv.b (Lv.b (A 24)))))))))))))))) (K24_prrrrlrllrrllr cal k m1) (K24_pxrrrrlrllrrl cal k m1) (doneK P results24)))
noncomputable def K24_prrrrr (cal : Cal) (k : Nat) : KC (Value × Hp × Nat) := (cutK (Lv.b (Lv.b (Lv.b (Lv.b (Lv.b (A 24)))))).c (codeE P cal (codeF P cal k) none 24 (cR (cR (cR (cR (cR (cR code24)))))) (Lv.b (Lv.b (Lv.b (Lv.b (Lv.b (Lv.b (A 24))))))) (doneK P results24) X0 (doneK P results24)))
noncomputable def E24_2 (cal : Cal) (k m1 : Nat) : KC (Value × Hp × Nat) := codeE P cal (codeF P cal m1) none 24 (cR (cR (cR (cL (cL (cR (cL (cR (cR (cR (cR code24))))))))))) (Lv.b (Lv.b (Lv.b (Lv.a (Lv.a (Lv.b (Lv.a (Lv.b (Lv.b (Lv.b (Lv.b (A 24)))))))))))) (K24_prrrrlrl cal k m1) (K24_pxrrrrlr cal k) (doneK P results24)
noncomputable def E24_3 (cal : Cal) (k m1 : Nat) : KC (Value × Hp × Nat) := codeE P cal (codeF P cal m1) none 24 (cR (cR (cL (cL (cR (cR (cL (cL (cR (cL (cR (cR (cR (cR code24)))))))))))))) (Lv.b (Lv.b (Lv.a (Lv.a (Lv.b (Lv.b (Lv.a (Lv.a (Lv.b (Lv.a (Lv.b (Lv.b (Lv.b (Lv.b (A 24))))))))))))))) (K24_prrrrlrllrr cal k m1) (K24_pxrrrrlrllrrl cal k m1) (doneK P results24)
noncomputable def E24_1 (cal : Cal) (k m1 : Nat) : KC (Value × Hp × Nat) := codeE P cal (codeF P cal m1) none 24 (cL (cL (cR (cL (cR (cR (cR (cR code24)))))))) (Lv.a (Lv.a (Lv.b (Lv.a (Lv.b (Lv.b (Lv.b (Lv.b (A 24))))))))) (K24_prrrrlrl cal k m1) (K24_pxrrrrlr cal k) (doneK P results24)
noncomputable def R24_1 (cal : Cal) (k m1 : Nat) : Value → Value → Value → Value → Value → Value → Hp → Nat → Res := fun u4 u5 u7 u9 u29 u30 H n => codeF P cal m1 (Lv.a (Lv.b (Lv.a (Lv.b (Lv.b (Lv.b (Lv.b (A 24)))))))) none 24 (cL (cR (cL (cR (cR (cR (cR code24))))))) (K24_prrrr cal k) (K24_pxrrrrlr cal k) (doneK P results24) (Tr.set (Tr.set (Tr.set (Tr.set (Tr.set (Tr.set Tr.nil 30 (some u30)) 29 (some u29)) 9 (some u9)) 7 (some u7)) 5 (some u5)) 4 (some u4)) H n []
noncomputable def B24_2 (cal : Cal) (k m1 : Nat) (b1 : Value → Value → Value → Value → Value → Value → Hp → Nat → Res) (u4 u5 u7 u9 u29 u30 : Value) (H : Hp) (n : Nat) : Res :=
binK P Go.BinOp.add 3 (Go.Operand.tmp 30) (Go.Operand.const (Go.Value.int Go.IntKind.i64 1)) u30 (Go.Value.int Go.IntKind.i64 1) fun v49_50 =>
b1 u4 u5 u7 u9 u29 v49_50 H n
noncomputable def C24_2 (cal : Cal) (k m1 : Nat) (b1 : Value → Value → Value → Value → Value → Value → Hp → Nat → Res) (u4 u5 u7 u9 u29 u30 : Value) (H : Hp) (n : Nat) : Res := B24_2 cal k m1 b1 u4 u5 u7 u9 u29 u30 H n
theorem h24_2 (cal : Cal) (k m1 : Nat) (u4 u5 u7 u9 u29 u30 : Value) (H : Hp) (n : Nat) : labK (E24_2 cal k m1) (Tr.set (Tr.set (Tr.set (Tr.set (Tr.set (Tr.set Tr.nil 30 (some u30)) 29 (some u29)) 9 (some u9)) 7 (some u7)) 5 (some u5)) 4 (some u4)) H n [] = C24_2 cal k m1 (R24_1 cal k m1) u4 u5 u7 u9 u29 u30 H n := by
  have h : labK (E24_2 cal k m1) (Tr.set (Tr.set (Tr.set (Tr.set (Tr.set (Tr.set Tr.nil 30 (some u30)) 29 (some u29)) 9 (some u9)) 7 (some u7)) 5 (some u5)) 4 (some u4)) H n [] = B24_2 cal k m1 (R24_1 cal k m1) u4 u5 u7 u9 u29 u30 H n := by kernel_rfl
  rw [h, C24_2]
theorem q24_2 (cal : Cal) (k m1 : Nat) (u4 u5 u7 u9 u29 u30 : Value) (H : Hp) (n : Nat) : labK (E24_2 cal k m1) (Tr.set (Tr.set (Tr.set (Tr.set (Tr.set (Tr.set Tr.nil 30 (some u30)) 29 (some u29)) 9 (some u9)) 7 (some u7)) 5 (some u5)) 4 (some u4)) H n [] = C24_2 cal k m1 (R24_1 cal k m1) u4 u5 u7 u9 u29 u30 H n := h24_2 ..
noncomputable def B24_3 (cal : Cal) (k m1 : Nat) (j2 : Value → Value → Value → Value → Value → Value → Hp → Nat → Res) (b1 : Value → Value → Value → Value → Value → Value → Hp → Nat → Res) (u4 u5 u7 u9 u10 u29 u30 : Value) (H : Hp) (n : Nat) : Res :=
bindO (addrV u9) fun a_56 => bindO (loadV P H 111 a_56) fun v42_55 =>
callFK P cal 69 [u7, v42_55, u10] H n fun v44_58 H_59 n_60 =>
ifK v44_58 (
rowK P 44 1 [(0, u10)] H_59 n_60 fun v47_63 H_64 n_65 =>
stK (appendV P (bare H_64 n_65) 44 44 u5 v47_63) fun v48_66 H_67 n_68 =>
j2 u4 v48_66 u7 u9 u29 u30 H_67 n_68) (
j2 u4 u5 u7 u9 u29 u30 H_59 n_60)
noncomputable def C24_3 (cal : Cal) (k m1 : Nat) (b1 : Value → Value → Value → Value → Value → Value → Hp → Nat → Res) (u4 u5 u7 u9 u10 u29 u30 : Value) (H : Hp) (n : Nat) : Res := B24_3 cal k m1 (C24_2 cal k m1 b1) b1 u4 u5 u7 u9 u10 u29 u30 H n
theorem h24_3 (cal : Cal) (k m1 : Nat) (u4 u5 u7 u9 u10 u29 u30 : Value) (H : Hp) (n : Nat) : labK (E24_3 cal k m1) (Tr.set (Tr.set (Tr.set (Tr.set (Tr.set (Tr.set (Tr.set Tr.nil 30 (some u30)) 29 (some u29)) 10 (some u10)) 9 (some u9)) 7 (some u7)) 5 (some u5)) 4 (some u4)) H n [] = C24_3 cal k m1 (R24_1 cal k m1) u4 u5 u7 u9 u10 u29 u30 H n := by
  have h : labK (E24_3 cal k m1) (Tr.set (Tr.set (Tr.set (Tr.set (Tr.set (Tr.set (Tr.set Tr.nil 30 (some u30)) 29 (some u29)) 10 (some u10)) 9 (some u9)) 7 (some u7)) 5 (some u5)) 4 (some u4)) H n [] = B24_3 cal k m1 (fun u4 u5 u7 u9 u29 u30 H n => labK (E24_2 cal k m1) (Tr.set (Tr.set (Tr.set (Tr.set (Tr.set (Tr.set Tr.nil 30 (some u30)) 29 (some u29)) 9 (some u9)) 7 (some u7)) 5 (some u5)) 4 (some u4)) H n []) (R24_1 cal k m1) u4 u5 u7 u9 u10 u29 u30 H n := by kernel_rfl
  rw [h, C24_3]
  have e2 : (fun u4 u5 u7 u9 u29 u30 H n => labK (E24_2 cal k m1) (Tr.set (Tr.set (Tr.set (Tr.set (Tr.set (Tr.set Tr.nil 30 (some u30)) 29 (some u29)) 9 (some u9)) 7 (some u7)) 5 (some u5)) 4 (some u4)) H n []) = (C24_2 cal k m1 (R24_1 cal k m1)) := by funext u4 u5 u7 u9 u29 u30 H n; exact q24_2 ..
  rw [e2]
theorem q24_3 (cal : Cal) (k m1 : Nat) (u4 u5 u7 u9 u10 u29 u30 : Value) (H : Hp) (n : Nat) : labK (E24_3 cal k m1) (Tr.set (Tr.set (Tr.set (Tr.set (Tr.set (Tr.set (Tr.set Tr.nil 30 (some u30)) 29 (some u29)) 10 (some u10)) 9 (some u9)) 7 (some u7)) 5 (some u5)) 4 (some u4)) H n [] = C24_3 cal k m1 (R24_1 cal k m1) u4 u5 u7 u9 u10 u29 u30 H n := h24_3 ..
noncomputable def B24_1 (cal : Cal) (k m1 : Nat) (j3 : Value → Value → Value → Value → Value → Value → Value → Hp → Nat → Res) (b1 : Value → Value → Value → Value → Value → Value → Hp → Nat → Res) (u4 u5 u7 u9 u29 u30 : Value) (H : Hp) (n : Nat) : Res :=
binK P Go.BinOp.lss 3 (Go.Operand.tmp 30) (Go.Operand.tmp 29) u30 u29 fun v31_49 =>
ifK v31_49 (
bindO (addrV u9) fun a_72 => bindO (loadV P H 111 a_72) fun v34_71 =>
callFK P cal 68 [u7, v34_71, u30] H n fun v36_74 H_75 n_76 =>
ifK v36_74 (
rowK P 44 1 [(0, u30)] H_75 n_76 fun v39_79 H_80 n_81 =>
stK (appendV P (bare H_80 n_81) 44 44 u4 v39_79) fun v40_82 H_83 n_84 =>
j3 v40_82 u5 u7 u9 u30 u29 u30 H_83 n_84) (
j3 u4 u5 u7 u9 u30 u29 u30 H_75 n_76)) (
some ((Value.tuple ⟨[u4, u5, (Go.Value.int Go.IntKind.i64 0)]⟩), H, n))
noncomputable def C24_1 (cal : Cal) (k m1 : Nat) (b1 : Value → Value → Value → Value → Value → Value → Hp → Nat → Res) (u4 u5 u7 u9 u29 u30 : Value) (H : Hp) (n : Nat) : Res := B24_1 cal k m1 (C24_3 cal k m1 b1) b1 u4 u5 u7 u9 u29 u30 H n
noncomputable def S24_1 (cal : Cal) (k : Nat) : Nat → Value → Value → Value → Value → Value → Value → Hp → Nat → Res := fun m => Nat.rec (motive := fun _ => Value → Value → Value → Value → Value → Value → Hp → Nat → Res) (C24_1 cal k 0 (fun _ _ _ _ _ _ _ _ => none)) (fun m ih => C24_1 cal k (m + 1) ih) m
theorem h24_1 (cal : Cal) (k m1 : Nat) (u4 u5 u7 u9 u29 u30 : Value) (H : Hp) (n : Nat) : labK (E24_1 cal k m1) (Tr.set (Tr.set (Tr.set (Tr.set (Tr.set (Tr.set Tr.nil 30 (some u30)) 29 (some u29)) 9 (some u9)) 7 (some u7)) 5 (some u5)) 4 (some u4)) H n [] = C24_1 cal k m1 (R24_1 cal k m1) u4 u5 u7 u9 u29 u30 H n := by
  have h : labK (E24_1 cal k m1) (Tr.set (Tr.set (Tr.set (Tr.set (Tr.set (Tr.set Tr.nil 30 (some u30)) 29 (some u29)) 9 (some u9)) 7 (some u7)) 5 (some u5)) 4 (some u4)) H n [] = B24_1 cal k m1 (fun u4 u5 u7 u9 u10 u29 u30 H n => labK (E24_3 cal k m1) (Tr.set (Tr.set (Tr.set (Tr.set (Tr.set (Tr.set (Tr.set Tr.nil 30 (some u30)) 29 (some u29)) 10 (some u10)) 9 (some u9)) 7 (some u7)) 5 (some u5)) 4 (some u4)) H n []) (R24_1 cal k m1) u4 u5 u7 u9 u29 u30 H n := by kernel_rfl
  rw [h, C24_1]
  have e3 : (fun u4 u5 u7 u9 u10 u29 u30 H n => labK (E24_3 cal k m1) (Tr.set (Tr.set (Tr.set (Tr.set (Tr.set (Tr.set (Tr.set Tr.nil 30 (some u30)) 29 (some u29)) 10 (some u10)) 9 (some u9)) 7 (some u7)) 5 (some u5)) 4 (some u4)) H n []) = (C24_3 cal k m1 (R24_1 cal k m1)) := by funext u4 u5 u7 u9 u10 u29 u30 H n; exact q24_3 ..
  rw [e3]
theorem q24_1 (cal : Cal) (k : Nat) : ∀ (m : Nat) (u4 u5 u7 u9 u29 u30 : Value) (H : Hp) (n : Nat), labK (E24_1 cal k m) (Tr.set (Tr.set (Tr.set (Tr.set (Tr.set (Tr.set Tr.nil 30 (some u30)) 29 (some u29)) 9 (some u9)) 7 (some u7)) 5 (some u5)) 4 (some u4)) H n [] = S24_1 cal k m u4 u5 u7 u9 u29 u30 H n
  | 0, u4, u5, u7, u9, u29, u30, H, n => by
    rw [h24_1]
    have e : R24_1 cal k 0 = fun _ _ _ _ _ _ _ _ => none := by funext u4 u5 u7 u9 u29 u30 H n; kernel_rfl
    rw [e]; rfl
  | m + 1, u4, u5, u7, u9, u29, u30, H, n => by
    rw [h24_1]
    have e : R24_1 cal k (m + 1) = S24_1 cal k m := by
      funext u4 u5 u7 u9 u29 u30 H n
      have e : R24_1 cal k (m + 1) u4 u5 u7 u9 u29 u30 H n = labK (E24_1 cal k m) (Tr.set (Tr.set (Tr.set (Tr.set (Tr.set (Tr.set Tr.nil 30 (some u30)) 29 (some u29)) 9 (some u9)) 7 (some u7)) 5 (some u5)) 4 (some u4)) H n [] := by kernel_rfl
      rw [e]; exact q24_1 ..
    rw [e]; rfl
noncomputable def B24_0 (cal : Cal) (k : Nat) (j1 : Value → Value → Value → Value → Value → Value → Hp → Nat → Res) (v0 v1 : Value) (H : Hp) (n : Nat) : Res :=
boxK 35 v0 H n fun v2_1 H_2 n_3 =>
bindO (addrV v2_1) fun a_8 => bindO (loadV P H_2 35 a_8) fun v12_7 =>
callFK P cal 65 [v12_7, v1] H_2 n_3 fun v14_10 H_11 n_12 =>
bindO (tupV v14_10 0) fun v15_14 =>
bindO (tupV v14_10 1) fun v16_15 =>
bindO (tupV v14_10 2) fun v17_16 =>
allocK P 121 H_11 n_12 fun v8_17 H_18 n_19 =>
bindO (storeP P 121 v8_17 v16_15 H_18) fun H_22 =>
binK P Go.BinOp.neq 29 (Go.Operand.tmp 18) (Go.Operand.const (Go.Value.int Go.IntKind.i64 0)) v17_16 (Go.Value.int Go.IntKind.i64 0) fun v19_25 =>
ifK v19_25 (
some ((Value.tuple ⟨[(Go.Value.slice none 0 0), (Go.Value.slice none 0 0), v17_16]⟩), H_22, n_19)) (
bindO (addrV v8_17) fun a_32 => bindO (loadV P H_22 121 a_32) fun v22_31 =>
callFK P cal 66 [v15_14, v22_31] H_22 n_19 fun v23_33 H_34 n_35 =>
allocK P 111 H_34 n_35 fun v9_36 H_37 n_38 =>
bindO (storeP P 111 v9_36 v23_33 H_37) fun H_40 =>
bindO (nilV v15_14) fun v25_42 =>
bindO (fieldAddrV P 117 v25_42 0) fun v26_43 =>
bindO (fieldAddrV P 35 v26_43 0) fun v27_44 =>
bindO (addrV v27_44) fun a_46 => bindO (loadV P H_40 31 a_46) fun v28_45 =>
bindO (lenV P 31 v28_45) fun v29_47 =>
j1 (Go.Value.slice none 0 0) (Go.Value.slice none 0 0) v15_14 v9_36 v29_47 (Go.Value.int Go.IntKind.i64 0) H_40 n_38)
noncomputable def C24_0 (cal : Cal) (k : Nat) (v0 v1 : Value) (H : Hp) (n : Nat) : Res := B24_0 cal k (S24_1 cal k k) v0 v1 H n
theorem h24_0 (cal : Cal) (k : Nat) (v0 v1 : Value) (H : Hp) (n : Nat) : bodyE P cal A (k + 1) 24 [v0, v1] H n = C24_0 cal k v0 v1 H n := by
  have h : bodyE P cal A (k + 1) 24 [v0, v1] H n = B24_0 cal k (fun u4 u5 u7 u9 u29 u30 H n => labK (E24_1 cal k k) (Tr.set (Tr.set (Tr.set (Tr.set (Tr.set (Tr.set Tr.nil 30 (some u30)) 29 (some u29)) 9 (some u9)) 7 (some u7)) 5 (some u5)) 4 (some u4)) H n []) v0 v1 H n := by
    rw [body_eq (fn := Go.Proofs.Try.f24) (c := code24) (rs := results24) (by kernel_rfl) (by kernel_rfl) (by kernel_rfl) (by kernel_rfl)]
    kernel_rfl
  rw [h, C24_0]
  have e1 : (fun u4 u5 u7 u9 u29 u30 H n => labK (E24_1 cal k k) (Tr.set (Tr.set (Tr.set (Tr.set (Tr.set (Tr.set Tr.nil 30 (some u30)) 29 (some u29)) 9 (some u9)) 7 (some u7)) 5 (some u5)) 4 (some u4)) H n []) = (S24_1 cal k k) := by funext u4 u5 u7 u9 u29 u30 H n; exact q24_1 ..
  rw [e1]
noncomputable def code30 : Code := codeOf 30
noncomputable def results30 : List ResultVar := resOf 30
noncomputable def K30_p (cal : Cal) (k : Nat) : KC (Value × Hp × Nat) := (cutK (A 30).c (codeE P cal (codeF P cal k) none 30 (cR code30) (Lv.b (A 30)) (doneK P results30) X0 (doneK P results30)))
noncomputable def K30_pr (cal : Cal) (k : Nat) : KC (Value × Hp × Nat) := (cutK (Lv.b (A 30)).c (codeE P cal (codeF P cal k) none 30 (cR (cR code30)) (Lv.b (Lv.b (A 30))) (doneK P results30) X0 (doneK P results30)))
noncomputable def K30_prl (cal : Cal) (k : Nat) : KC (Value × Hp × Nat) := (cutK (Lv.a (Lv.b (A 30))).c (codeE P cal (codeF P cal k) none 30 (cR (cL (cR code30))) (Lv.b (Lv.a (Lv.b (A 30)))) (K30_pr cal k) X0 (doneK P results30)))
noncomputable def K30_prlrl (cal : Cal) (k : Nat) : KC (Value × Hp × Nat) := (cutK (Lv.a (Lv.b (Lv.a (Lv.b (A 30))))).c (codeE P cal (codeF P cal k) none 30 (cR (cL (cR (cL (cR code30))))) (Lv.b (Lv.a (Lv.b (Lv.a (Lv.b (A 30)))))) (K30_pr cal k) X0 (doneK P results30)))
noncomputable def K30_prr (cal : Cal) (k : Nat) : KC (Value × Hp × Nat) := (cutK (Lv.b (Lv.b (A 30))).c (codeE P cal (codeF P cal k) none 30 (cR (cR (cR code30))) (Lv.b (Lv.b (Lv.b (A 30)))) (doneK P results30) X0 (doneK P results30)))
noncomputable def K30_prrl (cal : Cal) (k : Nat) : KC (Value × Hp × Nat) := (cutK (Lv.a (Lv.b (Lv.b (A 30)))).c (codeE P cal (codeF P cal k) none 30 (cR (cL (cR (cR code30)))) (Lv.b (Lv.a (Lv.b (Lv.b (A 30))))) (K30_prr cal k) X0 (doneK P results30)))
noncomputable def K30_pxrrlr (cal : Cal) (k : Nat) : XC (Value × Hp × Nat) := (upX 0 (K30_prr cal k) X0)
noncomputable def K30_prrlrl (cal : Cal) (k : Nat) (m1 : Nat) : KC (Value × Hp × Nat) := (fun T H n D => codeF P cal m1 (Lv.a (Lv.b (Lv.a (Lv.b (Lv.b (A 30)))))) none 30 (cL (cR (cL (cR (cR code30))))) (K30_prr cal k) (K30_pxrrlr cal k) (doneK P results30) (cutT (Lv.a (Lv.b (Lv.a (Lv.b (Lv.b (A 30)))))).c T) H n D)
noncomputable def K30_prrlrll (cal : Cal) (k : Nat) (m1 : Nat) : KC (Value × Hp × Nat) := (cutK (Lv.a (Lv.a (Lv.b (Lv.a (Lv.b (Lv.b (A 30))))))).c (codeE P cal (codeF P cal m1) none 30 (cR (cL (cL (cR (cL (cR (cR code30))))))) (Lv.b (Lv.a (Lv.a (Lv.b (Lv.a (Lv.b (Lv.b (A 30)))))))) (K30_prrlrl cal k m1) (K30_pxrrlr cal k) (doneK P results30)))
noncomputable def K30_prrlrlll (cal : Cal) (k : Nat) (m1 : Nat) : KC (Value × Hp × Nat) := (cutK (Lv.a (Lv.a (Lv.a (Lv.b (Lv.a (Lv.b (Lv.b (A 30)))))))).c (codeE P cal (codeF P cal m1) none 30 (cR (cL (cL (cL (cR (cL (cR (cR code30)))))))) (Lv.b (Lv.a (Lv.a (Lv.a (Lv.b (Lv.a (Lv.b (Lv.b (A 30))))))))) (K30_prrlrll cal k m1) (K30_pxrrlr cal k) (doneK P results30)))
noncomputable def K30_prrlrllr (cal : Cal) (k : Nat) (m1 : Nat) : KC (Value × Hp × Nat) := (cutK (Lv.b (Lv.a (Lv.a (Lv.b (Lv.a (Lv.b (Lv.b (A 30)))))))).c (codeE P cal (codeF P cal m1) none 30 (cR (cR (cL (cL (cR (cL (cR (cR code30)))))))) (Lv.b (Lv.b (Lv.a (Lv.a (Lv.b (Lv.a (Lv.b (Lv.b (A 30))))))))) (K30_prrlrl cal k m1) (K30_pxrrlr cal k) (doneK P results30)))
noncomputable def K30_pxrrlrllrl (cal : Cal) (k : Nat) (m1 : Nat) : XC (Value × Hp × Nat) := (upX 1 (K30_prrlrllr cal k m1) (K30_pxrrlr cal k))
noncomputable def K30_prrlrllrll (cal : Cal) (k : Nat) (m1 : Nat) : KC (Value × Hp × Nat) := (cutK (Lv.a (Lv.a (Lv.b (Lv.a (Lv.a (Lv.b (Lv.a (Lv.b (Lv.b (A 30)))))))))).c (codeE P cal (codeF P cal m1) none 30 (cR (cL (cL (cR (cL (cL (cR (cL (cR (cR code30)))))))))) (Lv.b (Lv.a (Lv.a (Lv.b (Lv.a (Lv.a (Lv.b (Lv.a (Lv.b (Lv.b (A 30))))))))))) (K30_prrlrllr cal k m1) (K30_pxrrlrllrl cal k m1) (doneK P results30)))
noncomputable def K30_prrlrllrllrl (cal : Cal) (k : Nat) (m1 : Nat) : KC (Value × Hp × Nat) := (cutK (Lv.a (Lv.b (Lv.a (Lv.a (Lv.b (Lv.a (Lv.a (Lv.b (Lv.a (Lv.b (Lv.b (A 30)))))))))))).c (codeE P cal (codeF P cal m1) none 30 (cR (cL (cR (cL (cL (cR (cL (cL (cR (cL (cR (cR code30)))))))))))) (Lv.b (Lv.a (Lv.b (Lv.a (Lv.a (Lv.b (Lv.a (Lv.a (Lv.b (Lv.a (Lv.b (Lv.b (A 30))))))))))))) (K30_prrlrllr cal k m1) (K30_pxrrlrllrl cal k m1) (doneK P results30)))
noncomputable def K30_prrr (cal : Cal) (k : Nat) : KC (Value × Hp × Nat) := (cutK (Lv.b (Lv.b (Lv.b (A 30)))).c (codeE P cal (codeF P cal k) none 30 (cR (cR (cR (cR code30)))) (Lv.b (Lv.b (Lv.b (Lv.b (A 30))))) (doneK P results30) X0 (doneK P results30)))
noncomputable def E30_1 (cal : Cal) (k m1 : Nat) : KC (Value × Hp × Nat) := codeE P cal (codeF P cal m1) none 30 (cL (cL (cR (cL (cR (cR code30)))))) (Lv.a (Lv.a (Lv.b (Lv.a (Lv.b (Lv.b (A 30))))))) (K30_prrlrl cal k m1) (K30_pxrrlr cal k) (doneK P results30)
noncomputable def R30_1 (cal : Cal) (k m1 : Nat) : Value → Value → Value → Hp → Nat → Res := fun u0 u1 u5 H n => codeF P cal m1 (Lv.a (Lv.b (Lv.a (Lv.b (Lv.b (A 30)))))) none 30 (cL (cR (cL (cR (cR code30))))) (K30_prr cal k) (K30_pxrrlr cal k) (doneK P results30) (Tr.set (Tr.set (Tr.set Tr.nil 5 (some u5)) 1 (some u1)) 0 (some u0)) H n []
noncomputable def B30_1 (cal : Cal) (k m1 : Nat) (b1 : Value → Value → Value → Hp → Nat → Res) (u0 u1 u5 : Value) (H : Hp) (n : Nat) : Res :=
bindO (lenV P 44 u0) fun v13_11 =>
binK P Go.BinOp.lss 3 (Go.Operand.tmp 11) (Go.Operand.tmp 13) u5 v13_11 fun v14_12 =>
ifK v14_12 (
bindO (indexAddrV P 44 u0 u5) fun v19_15 =>
bindO (addrV v19_15) fun a_16 => bindO (loadV P H 3 a_16) fun v_17 =>
bindO (indexAddrV P 44 u1 u5) fun v23_20 =>
bindO (addrV v23_20) fun a_21 => bindO (loadV P H 3 a_21) fun v_22 =>
binK P Go.BinOp.neq 3 (Go.Operand.tmp 20) (Go.Operand.tmp 24) v_17 v_22 fun v25_23 =>
ifK v25_23 (
some ((Go.Value.bool false), H, n)) (
binK P Go.BinOp.add 3 (Go.Operand.tmp 15) (Go.Operand.const (Go.Value.int Go.IntKind.i64 1)) u5 (Go.Value.int Go.IntKind.i64 1) fun v16_26 =>
b1 u0 u1 v16_26 H n)) (
some ((Go.Value.bool true), H, n))
noncomputable def C30_1 (cal : Cal) (k m1 : Nat) (b1 : Value → Value → Value → Hp → Nat → Res) (u0 u1 u5 : Value) (H : Hp) (n : Nat) : Res := B30_1 cal k m1 b1 u0 u1 u5 H n
noncomputable def S30_1 (cal : Cal) (k : Nat) : Nat → Value → Value → Value → Hp → Nat → Res := fun m => Nat.rec (motive := fun _ => Value → Value → Value → Hp → Nat → Res) (C30_1 cal k 0 (fun _ _ _ _ _ => none)) (fun m ih => C30_1 cal k (m + 1) ih) m
theorem h30_1 (cal : Cal) (k m1 : Nat) (u0 u1 u5 : Value) (H : Hp) (n : Nat) : labK (E30_1 cal k m1) (Tr.set (Tr.set (Tr.set Tr.nil 5 (some u5)) 1 (some u1)) 0 (some u0)) H n [] = C30_1 cal k m1 (R30_1 cal k m1) u0 u1 u5 H n := by
  have h : labK (E30_1 cal k m1) (Tr.set (Tr.set (Tr.set Tr.nil 5 (some u5)) 1 (some u1)) 0 (some u0)) H n [] = B30_1 cal k m1 (R30_1 cal k m1) u0 u1 u5 H n := by kernel_rfl
  rw [h, C30_1]
theorem q30_1 (cal : Cal) (k : Nat) : ∀ (m : Nat) (u0 u1 u5 : Value) (H : Hp) (n : Nat), labK (E30_1 cal k m) (Tr.set (Tr.set (Tr.set Tr.nil 5 (some u5)) 1 (some u1)) 0 (some u0)) H n [] = S30_1 cal k m u0 u1 u5 H n
  | 0, u0, u1, u5, H, n => by
    rw [h30_1]
    have e : R30_1 cal k 0 = fun _ _ _ _ _ => none := by funext u0 u1 u5 H n; kernel_rfl
    rw [e]; rfl
  | m + 1, u0, u1, u5, H, n => by
    rw [h30_1]
    have e : R30_1 cal k (m + 1) = S30_1 cal k m := by
      funext u0 u1 u5 H n
      have e : R30_1 cal k (m + 1) u0 u1 u5 H n = labK (E30_1 cal k m) (Tr.set (Tr.set (Tr.set Tr.nil 5 (some u5)) 1 (some u1)) 0 (some u0)) H n [] := by kernel_rfl
      rw [e]; exact q30_1 ..
    rw [e]; rfl
noncomputable def B30_0 (cal : Cal) (k : Nat) (j1 : Value → Value → Value → Hp → Nat → Res) (v0 v1 : Value) (H : Hp) (n : Nat) : Res :=
bindO (lenV P 44 v0) fun v7_3 =>
bindO (lenV P 44 v1) fun v9_5 =>
binK P Go.BinOp.neq 3 (Go.Operand.tmp 7) (Go.Operand.tmp 9) v7_3 v9_5 fun v10_6 =>
ifK v10_6 (
some ((Go.Value.bool false), H, n)) (
j1 v0 v1 (Go.Value.int Go.IntKind.i64 0) H n)
noncomputable def C30_0 (cal : Cal) (k : Nat) (v0 v1 : Value) (H : Hp) (n : Nat) : Res := B30_0 cal k (S30_1 cal k k) v0 v1 H n
theorem h30_0 (cal : Cal) (k : Nat) (v0 v1 : Value) (H : Hp) (n : Nat) : bodyE P cal A (k + 1) 30 [v0, v1] H n = C30_0 cal k v0 v1 H n := by
  have h : bodyE P cal A (k + 1) 30 [v0, v1] H n = B30_0 cal k (fun u0 u1 u5 H n => labK (E30_1 cal k k) (Tr.set (Tr.set (Tr.set Tr.nil 5 (some u5)) 1 (some u1)) 0 (some u0)) H n []) v0 v1 H n := by
    rw [body_eq (fn := Go.Proofs.Try.f30) (c := code30) (rs := results30) (by kernel_rfl) (by kernel_rfl) (by kernel_rfl) (by kernel_rfl)]
    kernel_rfl
  rw [h, C30_0]
  have e1 : (fun u0 u1 u5 H n => labK (E30_1 cal k k) (Tr.set (Tr.set (Tr.set Tr.nil 5 (some u5)) 1 (some u1)) 0 (some u0)) H n []) = (S30_1 cal k k) := by funext u0 u1 u5 H n; exact q30_1 ..
  rw [e1]
end Go.Proofs.Ythnfcjajgifedaa.W
