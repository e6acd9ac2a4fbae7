/- The texts of functions, each with the proof that the evaluator says the same. -/
import Derived.Test.YtakjjillnllocabP1
open Go Go.Ev
set_option maxRecDepth 1000000
set_option linter.unusedVariables false
noncomputable section
namespace Go.Proofs.Ytakjjillnllocab.P
noncomputable def code83 : Code := codeOf 83
noncomputable def results83 : List ResultVar := resOf 83
noncomputable def K83_p (cal : Cal) (k : Nat) : KC (Value × Hp × Nat) := (cutK (A 83).c (codeE P cal (codeF P cal k) none 83 (cR code83) (Lv.b (A 83)) (doneK P results83) X0 (doneK P results83)))
noncomputable def K83_pr (cal : Cal) (k : Nat) : KC (Value × Hp × Nat) := (cutK (Lv.b (A 83)).c (codeE P cal (codeF P cal k) none 83 (cR (cR code83)) (Lv.b (Lv.b (A 83))) (doneK P results83) X0 (doneK P results83)))
noncomputable def K83_prr (cal : Cal) (k : Nat) : KC (Value × Hp × Nat) := (cutK (Lv.b (Lv.b (A 83))).c (codeE P cal (codeF P cal k) none 83 (cR (cR (cR code83))) (Lv.b (Lv.b (Lv.b (A 83)))) (doneK P results83) X0 (doneK P results83)))
noncomputable def K83_prrr (cal : Cal) (k : Nat) : KC (Value × Hp × Nat) := (cutK (Lv.b (Lv.b (Lv.b (A 83)))).c (codeE P cal (codeF P cal k) none 83 (cR (cR (cR (cR code83)))) (Lv.b (Lv.b (Lv.b (Lv.b (A 83))))) (doneK P results83) X0 (doneK P results83)))
noncomputable def K83_pxrrrl (cal : Cal) (k : Nat) : XC (Value × Hp × Nat) := (upX 0 (K83_prrr cal k) X0)
noncomputable def K83_prrrll (cal : Cal) (k : Nat) (m1 : Nat) : KC (Value × Hp × Nat) := (fun T H n D => codeF P cal m1 (Lv.a (Lv.a (Lv.b (Lv.b (Lv.b (A 83)))))) none 83 (cL (cL (cR (cR (cR code83))))) (K83_prrr cal k) (K83_pxrrrl cal k) (doneK P results83) (cutT (Lv.a (Lv.a (Lv.b (Lv.b (Lv.b (A 83)))))).c T) H n D)
noncomputable def K83_pxrrrlll (cal : Cal) (k : Nat) (m1 : Nat) : XC (Value × Hp × Nat) := (upX 1 (K83_prrrll cal k m1) (K83_pxrrrl cal k))
noncomputable def K83_prrrllll (cal : Cal) (k : Nat) (m1 : Nat) : KC (Value × Hp × Nat) := (cutK (Lv.a (Lv.a (Lv.a (Lv.a (Lv.b (Lv.b (Lv.b (A 83)))))))).c (codeE P cal (codeF P cal m1) none 83 (cR (cL (cL (cL (cL (cR (cR (cR code83)))))))) (Lv.b (Lv.a (Lv.a (Lv.a (Lv.a (Lv.b (Lv.b (Lv.b (A 83))))))))) (K83_prrrll cal k m1) (K83_pxrrrlll cal k m1) (doneK P results83)))
noncomputable def K83_pxrrrlllll (cal : Cal) (k : Nat) (m1 : Nat) : XC (Value × Hp × Nat) := (upX 2 (K83_prrrllll cal k m1) (K83_pxrrrlll cal k m1))
noncomputable def K83_prrrllllll (cal : Cal) (k : Nat) (m1 : Nat) (m2 : Nat) : KC (Value × Hp × Nat) := (fun T H n D => codeF P cal m2 (Lv.a (Lv.a (Lv.a (Lv.a (Lv.a (Lv.a (Lv.b (Lv.b (Lv.b (A 83)))))))))) none 83 (cL (cL (cL (cL (cL (cL (cR (cR (cR code83))))))))) (K83_prrrllll cal k m1) (K83_pxrrrlllll cal k m1) (doneK P results83) (cutT (Lv.a (Lv.a (Lv.a (Lv.a (Lv.a (Lv.a (Lv.b (Lv.b (Lv.b (A 83)))))))))).c T) H n D)
noncomputable def K83_prrrlllllll (cal : Cal) (k : Nat) (m1 : Nat) (m2 : Nat) : KC (Value × Hp × Nat) := (cutK (Lv.a (Lv.a (Lv.a (Lv.a (Lv.a (Lv.a (Lv.a (Lv.b (Lv.b (Lv.b (A 83))))))))))).c (codeE P cal (codeF P cal m2) none 83 (cR (cL (cL (cL (cL (cL (cL (cL (cR (cR (cR code83))))))))))) (Lv.b (Lv.a (Lv.a (Lv.a (Lv.a (Lv.a (Lv.a (Lv.a (Lv.b (Lv.b (Lv.b (A 83)))))))))))) (K83_prrrllllll cal k m1 m2) (K83_pxrrrlllll cal k m1) (doneK P results83)))
noncomputable def K83_prrrllllllll (cal : Cal) (k : Nat) (m1 : Nat) (m2 : Nat) : KC (Value × Hp × Nat) := (cutK (Lv.a (Lv.a (Lv.a (Lv.a (Lv.a (Lv.a (Lv.a (Lv.a (Lv.b (Lv.b (Lv.b (A 83)))))))))))).c (codeE P cal (codeF P cal m2) none 83 (cR (cL (cL (cL (cL (cL (cL (cL (cL (cR (cR (cR code83)))))))))))) (Lv.b (Lv.a (Lv.a (Lv.a (Lv.a (Lv.a (Lv.a (Lv.a (Lv.a (Lv.b (Lv.b (Lv.b (A 83))))))))))))) (K83_prrrlllllll cal k m1 m2) (K83_pxrrrlllll cal k m1) (doneK P results83)))
noncomputable def K83_pxrrrlllllllr (cal : Cal) (k : Nat) (m1 : Nat) (m2 : Nat) : XC (Value × Hp × Nat) := (upX 3 (K83_prrrllllll cal k m1 m2) (K83_pxrrrlllll cal k m1))
noncomputable def K83_prrrllllr (cal : Cal) (k : Nat) (m1 : Nat) : KC (Value × Hp × Nat) := (cutK (Lv.b (Lv.a (Lv.a (Lv.a (Lv.a (Lv.b (Lv.b (Lv.b (A 83))))))))).c (codeE P cal (codeF P cal m1) none 83 (cR (cR (cL (cL (cL (cL (cR (cR (cR code83))))))))) (Lv.b (Lv.b (Lv.a (Lv.a (Lv.a (Lv.a (Lv.b (Lv.b (Lv.b (A 83)))))))))) (K83_prrrll cal k m1) (K83_pxrrrlll cal k m1) (doneK P results83)))
noncomputable def K83_pxrrrllllrl (cal : Cal) (k : Nat) (m1 : Nat) : XC (Value × Hp × Nat) := (upX 4 (K83_prrrllllr cal k m1) (K83_pxrrrlll cal k m1))
noncomputable def K83_prrrllllrll (cal : Cal) (k : Nat) (m1 : Nat) (m2 : Nat) : KC (Value × Hp × Nat) := (fun T H n D => codeF P cal m2 (Lv.a (Lv.a (Lv.b (Lv.a (Lv.a (Lv.a (Lv.a (Lv.b (Lv.b (Lv.b (A 83))))))))))) none 83 (cL (cL (cR (cL (cL (cL (cL (cR (cR (cR code83)))))))))) (K83_prrrllllr cal k m1) (K83_pxrrrllllrl cal k m1) (doneK P results83) (cutT (Lv.a (Lv.a (Lv.b (Lv.a (Lv.a (Lv.a (Lv.a (Lv.b (Lv.b (Lv.b (A 83))))))))))).c T) H n D)
noncomputable def K83_prrrllllrlll (cal : Cal) (k : Nat) (m1 : Nat) (m2 : Nat) : KC (Value × Hp × Nat) := (cutK (Lv.a (Lv.a (Lv.a (Lv.b (Lv.a (Lv.a (Lv.a (Lv.a (Lv.b (Lv.b (Lv.b (A 83)))))))))))).c (codeE P cal (codeF P cal m2) none 83 (cR (cL (cL (cL (cR (cL (cL (cL (cL (cR (cR (cR code83)))))))))))) (Lv.b (Lv.a (Lv.a (Lv.a (Lv.b (Lv.a (Lv.a (Lv.a (Lv.a (Lv.b (Lv.b (Lv.b (A 83))))))))))))) (K83_prrrllllrll cal k m1 m2) (K83_pxrrrllllrl cal k m1) (doneK P results83)))
noncomputable def K83_prrrllllrllll (cal : Cal) (k : Nat) (m1 : Nat) (m2 : Nat) : KC (Value × Hp × Nat) := (cutK (Lv.a (Lv.a (Lv.a (Lv.a (Lv.b (Lv.a (Lv.a (Lv.a (Lv.a (Lv.b (Lv.b (Lv.b (A 83))))))))))))).c (codeE P cal (codeF P cal m2) none 83 (cR (cL (cL (cL (cL (cR (cL (cL (cL (cL (cR (cR (cR code83))))))))))))) (Lv.b (Lv.a (Lv.a (Lv.a (Lv.a (Lv.b (Lv.a (Lv.a (Lv.a (Lv.a (Lv.b (Lv.b (Lv.b (A 83)))))))))))))) (K83_prrrllllrlll cal k m1 m2) (K83_pxrrrllllrl cal k m1) (doneK P results83)))
noncomputable def K83_pxrrrllllrlllr (cal : Cal) (k : Nat) (m1 : Nat) (m2 : Nat) : XC (Value × Hp × Nat) := (upX 5 (K83_prrrllllrll cal k m1 m2) (K83_pxrrrllllrl cal k m1))
noncomputable def K83_prrrllllrr (cal : Cal) (k : Nat) (m1 : Nat) : KC (Value × Hp × Nat) := (cutK (Lv.b (Lv.b (Lv.a (Lv.a (Lv.a (Lv.a (Lv.b (Lv.b (Lv.b (A 83)))))))))).c (codeE P cal (codeF P cal m1) none 83 (cR (cR (cR (cL (cL (cL (cL (cR (cR (cR code83)))))))))) (Lv.b (Lv.b (Lv.b (Lv.a (Lv.a (Lv.a (Lv.a (Lv.b (Lv.b (Lv.b (A 83))))))))))) (K83_prrrll cal k m1) (K83_pxrrrlll cal k m1) (doneK P results83)))
noncomputable def K83_prrrllllrrl (cal : Cal) (k : Nat) (m1 : Nat) : KC (Value × Hp × Nat) := (cutK (Lv.a (Lv.b (Lv.b (Lv.a (Lv.a (Lv.a (Lv.a (Lv.b (Lv.b (Lv.b (A 83))))))))))).c (codeE P cal (codeF P cal m1) none 83 (cR (cL (cR (cR (cL (cL (cL (cL (cR (cR (cR code83))))))))))) (Lv.b (Lv.a (Lv.b (Lv.b (Lv.a (Lv.a (Lv.a (Lv.a (Lv.b (Lv.b (Lv.b (A 83)))))))))))) (K83_prrrllllrr cal k m1) (K83_pxrrrlll cal k m1) (doneK P results83)))
noncomputable def K83_prrrr (cal : Cal) (k : Nat) : KC (Value × Hp × Nat) := (cutK (Lv.b (Lv.b (Lv.b (Lv.b (A 83))))).c (codeE P cal (codeF P cal k) none 83 (cR (cR (cR (cR (cR code83))))) (Lv.b (Lv.b (Lv.b (Lv.b (Lv.b (A 83)))))) (doneK P results83) X0 (doneK P results83)))
noncomputable def K83_prrrllllrrr (cal : Cal) (k : Nat) (m1 : Nat) : KC (Value × Hp × Nat) := (cutK (Lv.b (Lv.b (Lv.b (Lv.a (Lv.a (Lv.a (Lv.a (Lv.b (Lv.b (Lv.b (A 83))))))))))).c (codeE P cal (codeF P cal m1) none 83 (cR (cR (cR (cR (cL (cL (cL (cL (cR (cR (cR code83))))))))))) (Lv.b (Lv.b (Lv.b (Lv.b (Lv.a (Lv.a (Lv.a (Lv.a (Lv.b (Lv.b (Lv.b (A 83)))))))))))) (K83_prrrll cal k m1) (K83_pxrrrlll cal k m1) (doneK P results83)))
noncomputable def K83_prrrllllrrrr (cal : Cal) (k : Nat) (m1 : Nat) : KC (Value × Hp × Nat) := (cutK (Lv.b (Lv.b (Lv.b (Lv.b (Lv.a (Lv.a (Lv.a (Lv.a (Lv.b (Lv.b (Lv.b (A 83)))))))))))).c (codeE P cal (codeF P cal m1) none 83 (cR (cR (cR (cR (cR (cL (cL (cL (cL (cR (cR (cR code83)))))))))))) (Lv.b (Lv.b (Lv.b (Lv.b (Lv.b (Lv.a (Lv.a (Lv.a (Lv.a (Lv.b (Lv.b (Lv.b (A 83))))))))))))) (K83_prrrll cal k m1) (K83_pxrrrlll cal k m1) (doneK P results83)))
noncomputable def E83_3 (cal : Cal) (k m1 m2 : Nat) : KC (Value × Hp × Nat) := codeE P cal (codeF P cal m2) none 83 (cL (cL (cL (cR (cL (cL (cL (cL (cR (cR (cR code83))))))))))) (Lv.a (Lv.a (Lv.a (Lv.b (Lv.a (Lv.a (Lv.a (Lv.a (Lv.b (Lv.b (Lv.b (A 83)))))))))))) (K83_prrrllllrll cal k m1 m2) (K83_pxrrrllllrl cal k m1) (doneK P results83)
noncomputable def R83_3 (cal : Cal) (k m1 m2 : Nat) : Value → Value → Value → Value → Value → Hp → Nat → Res := fun u0 u1 u4 u11 u12 H n => codeF P cal m2 (Lv.a (Lv.a (Lv.b (Lv.a (Lv.a (Lv.a (Lv.a (Lv.b (Lv.b (Lv.b (A 83))))))))))) none 83 (cL (cL (cR (cL (cL (cL (cL (cR (cR (cR code83)))))))))) (K83_prrrllllr cal k m1) (K83_pxrrrllllrl cal k m1) (doneK P results83) (Tr.set (Tr.set (Tr.set (Tr.set (Tr.set Tr.nil 12 (some u12)) 11 (some u11)) 4 (some u4)) 1 (some u1)) 0 (some u0)) H n []
noncomputable def E83_2 (cal : Cal) (k m1 m2 : Nat) : KC (Value × Hp × Nat) := codeE P cal (codeF P cal m2) none 83 (cL (cL (cL (cL (cL (cL (cL (cR (cR (cR code83)))))))))) (Lv.a (Lv.a (Lv.a (Lv.a (Lv.a (Lv.a (Lv.a (Lv.b (Lv.b (Lv.b (A 83))))))))))) (K83_prrrllllll cal k m1 m2) (K83_pxrrrlllll cal k m1) (doneK P results83)
noncomputable def R83_2 (cal : Cal) (k m1 m2 : Nat) : Value → Value → Value → Value → Value → Hp → Nat → Res := fun u0 u1 u4 u11 u12 H n => codeF P cal m2 (Lv.a (Lv.a (Lv.a (Lv.a (Lv.a (Lv.a (Lv.b (Lv.b (Lv.b (A 83)))))))))) none 83 (cL (cL (cL (cL (cL (cL (cR (cR (cR code83))))))))) (K83_prrrllll cal k m1) (K83_pxrrrlllll cal k m1) (doneK P results83) (Tr.set (Tr.set (Tr.set (Tr.set (Tr.set Tr.nil 12 (some u12)) 11 (some u11)) 4 (some u4)) 1 (some u1)) 0 (some u0)) H n []
noncomputable def E83_1 (cal : Cal) (k m1 : Nat) : KC (Value × Hp × Nat) := codeE P cal (codeF P cal m1) none 83 (cL (cL (cL (cR (cR (cR code83)))))) (Lv.a (Lv.a (Lv.a (Lv.b (Lv.b (Lv.b (A 83))))))) (K83_prrrll cal k m1) (K83_pxrrrl cal k) (doneK P results83)
noncomputable def R83_1 (cal : Cal) (k m1 : Nat) : Value → Value → Value → Value → Value → Hp → Nat → Res := fun u0 u1 u4 u11 u12 H n => codeF P cal m1 (Lv.a (Lv.a (Lv.b (Lv.b (Lv.b (A 83)))))) none 83 (cL (cL (cR (cR (cR code83))))) (K83_prrr cal k) (K83_pxrrrl cal k) (doneK P results83) (Tr.set (Tr.set (Tr.set (Tr.set (Tr.set Tr.nil 12 (some u12)) 11 (some u11)) 4 (some u4)) 1 (some u1)) 0 (some u0)) H n []
noncomputable def B83_3 (cal : Cal) (k m1 m2 : Nat) (b1 : Value → Value → Value → Value → Value → Hp → Nat → Res) (b3 : Value → Value → Value → Value → Value → Hp → Nat → Res) (u0 u1 u4 u11 u12 : Value) (H : Hp) (n : Nat) : Res :=
binK P Go.BinOp.leq 3 (Go.Operand.tmp 50) (Go.Operand.tmp 51) u11 u12 fun v52_114 =>
guardD v52_114 true (fun k_116 =>
k_116 u4 .p H n) .p H n fun v_117 x_118 H_119 n_120 =>
guardD v52_114 true (fun k_122 =>
k_122 u0 .p H_119 n_120) .p H_119 n_120 fun v_123 x_124 H_125 n_126 =>
guardD v52_114 true (fun k_128 =>
k_128 u1 .p H_125 n_126) .p H_125 n_126 fun v_129 x_130 H_131 n_132 =>
guardD v52_114 true (fun k_134 =>
bindO (indexAddrV P 54 v_123 v_129) fun v57_139 =>
k_134 v57_139 .p H_131 n_132) .p H_131 n_132 fun v_135 x_136 H_137 n_138 =>
guardD v52_114 true (fun k_140 =>
bindO (addrV v_135) fun a_145 => bindO (loadV P H_137 50 a_145) fun v_146 =>
k_140 v_146 (.l 50 a_145) H_137 n_138) .p H_137 n_138 fun v_141 x_142 H_143 n_144 =>
guardD v52_114 true (fun k_147 =>
k_147 u0 .p H_143 n_144) .p H_143 n_144 fun v_148 x_149 H_150 n_151 =>
guardD v52_114 true (fun k_153 =>
k_153 u12 .p H_150 n_151) .p H_150 n_151 fun v_154 x_155 H_156 n_157 =>
guardD v52_114 true (fun k_159 =>
bindO (indexAddrV P 54 v_148 v_154) fun v61_164 =>
k_159 v61_164 .p H_156 n_157) .p H_156 n_157 fun v_160 x_161 H_162 n_163 =>
guardD v52_114 true (fun k_165 =>
bindO (addrV v_160) fun a_170 => bindO (loadV P H_162 50 a_170) fun v_171 =>
k_165 v_171 (.l 50 a_170) H_162 n_163) .p H_162 n_163 fun v_166 x_167 H_168 n_169 =>
guardD v52_114 true (fun k_172 =>
callVK P cal v_117 [v_141, v_166] H_168 n_169 fun v63_177 H_178 n_179 =>
k_172 v63_177 .e H_178 n_179) .e H_168 n_169 fun v_173 x_174 H_175 n_176 =>
guardD v52_114 true (fun k_180 =>
binK P Go.BinOp.lss 3 (Go.Operand.tmp 63) (Go.Operand.const (Go.Value.int Go.IntKind.i64 0)) v_173 (Go.Value.int Go.IntKind.i64 0) fun v64_185 =>
k_180 v64_185 .p H_175 n_176) .p H_175 n_176 fun v_181 x_182 H_183 n_184 =>
bindO (pickV v52_114 v_181 (Go.Value.bool false)) fun v65_186 =>
ifK v65_186 (
binK P Go.BinOp.sub 3 (Go.Operand.tmp 66) (Go.Operand.const (Go.Value.int Go.IntKind.i64 1)) u12 (Go.Value.int Go.IntKind.i64 1) fun v67_188 =>
b3 u0 u1 u4 u11 v67_188 H_183 n_184) (
binK P Go.BinOp.gtr 3 (Go.Operand.tmp 68) (Go.Operand.tmp 69) u11 u12 fun v70_192 =>
ifK v70_192 (
some (u11, H_183, n_184)) (
bindO (indexAddrV P 54 u0 u12) fun v77_201 =>
bindO (addrV v77_201) fun a_202 => bindO (loadV P H_183 50 a_202) fun v_203 =>
bindO (indexAddrV P 54 u0 u11) fun v81_206 =>
bindO (addrV v81_206) fun a_207 => bindO (loadV P H_183 50 a_207) fun v_208 =>
bindO (indexAddrV P 54 u0 u11) fun v83_209 =>
bindO (storeP P 50 v83_209 v_203 H_183) fun H_211 =>
bindO (indexAddrV P 54 u0 u12) fun v84_212 =>
bindO (storeP P 50 v84_212 v_208 H_211) fun H_214 =>
binK P Go.BinOp.add 3 (Go.Operand.tmp 85) (Go.Operand.const (Go.Value.int Go.IntKind.i64 1)) u11 (Go.Value.int Go.IntKind.i64 1) fun v86_216 =>
binK P Go.BinOp.sub 3 (Go.Operand.tmp 87) (Go.Operand.const (Go.Value.int Go.IntKind.i64 1)) u12 (Go.Value.int Go.IntKind.i64 1) fun v88_219 =>
b1 u0 u1 u4 v86_216 v88_219 H_214 n_184))
noncomputable def C83_3 (cal : Cal) (k m1 m2 : Nat) (b1 : Value → Value → Value → Value → Value → Hp → Nat → Res) (b3 : Value → Value → Value → Value → Value → Hp → Nat → Res) (u0 u1 u4 u11 u12 : Value) (H : Hp) (n : Nat) : Res := B83_3 cal k m1 m2 b1 b3 u0 u1 u4 u11 u12 H n
noncomputable def S83_3 (cal : Cal) (k m1 : Nat) (b1 : Value → Value → Value → Value → Value → Hp → Nat → Res) : Nat → Value → Value → Value → Value → Value → Hp → Nat → Res := fun m => Nat.rec (motive := fun _ => Value → Value → Value → Value → Value → Hp → Nat → Res) (C83_3 cal k m1 0 b1 (fun _ _ _ _ _ _ _ => none)) (fun m ih => C83_3 cal k m1 (m + 1) b1 ih) m
theorem h83_3 (cal : Cal) (k m1 m2 : Nat) (u0 u1 u4 u11 u12 : Value) (H : Hp) (n : Nat) : labK (E83_3 cal k m1 m2) (Tr.set (Tr.set (Tr.set (Tr.set (Tr.set Tr.nil 12 (some u12)) 11 (some u11)) 4 (some u4)) 1 (some u1)) 0 (some u0)) H n [] = C83_3 cal k m1 m2 (R83_1 cal k m1) (R83_3 cal k m1 m2) u0 u1 u4 u11 u12 H n := by
  have h : labK (E83_3 cal k m1 m2) (Tr.set (Tr.set (Tr.set (Tr.set (Tr.set Tr.nil 12 (some u12)) 11 (some u11)) 4 (some u4)) 1 (some u1)) 0 (some u0)) H n [] = B83_3 cal k m1 m2 (R83_1 cal k m1) (R83_3 cal k m1 m2) u0 u1 u4 u11 u12 H n := by kernel_rfl
  rw [h, C83_3]
theorem q83_3 (cal : Cal) (k m1 : Nat) : ∀ (m : Nat) (u0 u1 u4 u11 u12 : Value) (H : Hp) (n : Nat), labK (E83_3 cal k m1 m) (Tr.set (Tr.set (Tr.set (Tr.set (Tr.set Tr.nil 12 (some u12)) 11 (some u11)) 4 (some u4)) 1 (some u1)) 0 (some u0)) H n [] = S83_3 cal k m1 (R83_1 cal k m1) m u0 u1 u4 u11 u12 H n
  | 0, u0, u1, u4, u11, u12, H, n => by
    rw [h83_3]
    have e : R83_3 cal k m1 0 = fun _ _ _ _ _ _ _ => none := by funext u0 u1 u4 u11 u12 H n; kernel_rfl
    rw [e]; rfl
  | m + 1, u0, u1, u4, u11, u12, H, n => by
    rw [h83_3]
    have e : R83_3 cal k m1 (m + 1) = S83_3 cal k m1 (R83_1 cal k m1) m := by
      funext u0 u1 u4 u11 u12 H n
      have e : R83_3 cal k m1 (m + 1) u0 u1 u4 u11 u12 H n = labK (E83_3 cal k m1 m) (Tr.set (Tr.set (Tr.set (Tr.set (Tr.set Tr.nil 12 (some u12)) 11 (some u11)) 4 (some u4)) 1 (some u1)) 0 (some u0)) H n [] := by kernel_rfl
      rw [e]; exact q83_3 ..
    rw [e]; rfl
noncomputable def B83_2 (cal : Cal) (k m1 m2 : Nat) (j3 : Value → Value → Value → Value → Value → Hp → Nat → Res) (b1 : Value → Value → Value → Value → Value → Hp → Nat → Res) (b2 : Value → Value → Value → Value → Value → Hp → Nat → Res) (u0 u1 u4 u11 u12 : Value) (H : Hp) (n : Nat) : Res :=
binK P Go.BinOp.leq 3 (Go.Operand.tmp 31) (Go.Operand.tmp 32) u11 u12 fun v33_30 =>
guardD v33_30 true (fun k_32 =>
k_32 u4 .p H n) .p H n fun v_33 x_34 H_35 n_36 =>
guardD v33_30 true (fun k_38 =>
k_38 u0 .p H_35 n_36) .p H_35 n_36 fun v_39 x_40 H_41 n_42 =>
guardD v33_30 true (fun k_44 =>
k_44 u1 .p H_41 n_42) .p H_41 n_42 fun v_45 x_46 H_47 n_48 =>
guardD v33_30 true (fun k_50 =>
bindO (indexAddrV P 54 v_39 v_45) fun v38_55 =>
k_50 v38_55 .p H_47 n_48) .p H_47 n_48 fun v_51 x_52 H_53 n_54 =>
guardD v33_30 true (fun k_56 =>
bindO (addrV v_51) fun a_61 => bindO (loadV P H_53 50 a_61) fun v_62 =>
k_56 v_62 (.l 50 a_61) H_53 n_54) .p H_53 n_54 fun v_57 x_58 H_59 n_60 =>
guardD v33_30 true (fun k_63 =>
k_63 u0 .p H_59 n_60) .p H_59 n_60 fun v_64 x_65 H_66 n_67 =>
guardD v33_30 true (fun k_69 =>
k_69 u11 .p H_66 n_67) .p H_66 n_67 fun v_70 x_71 H_72 n_73 =>
guardD v33_30 true (fun k_75 =>
bindO (indexAddrV P 54 v_64 v_70) fun v42_80 =>
k_75 v42_80 .p H_72 n_73) .p H_72 n_73 fun v_76 x_77 H_78 n_79 =>
guardD v33_30 true (fun k_81 =>
bindO (addrV v_76) fun a_86 => bindO (loadV P H_78 50 a_86) fun v_87 =>
k_81 v_87 (.l 50 a_86) H_78 n_79) .p H_78 n_79 fun v_82 x_83 H_84 n_85 =>
guardD v33_30 true (fun k_88 =>
callVK P cal v_33 [v_57, v_82] H_84 n_85 fun v44_93 H_94 n_95 =>
k_88 v44_93 .e H_94 n_95) .e H_84 n_85 fun v_89 x_90 H_91 n_92 =>
guardD v33_30 true (fun k_96 =>
binK P Go.BinOp.lss 3 (Go.Operand.tmp 44) (Go.Operand.const (Go.Value.int Go.IntKind.i64 0)) v_89 (Go.Value.int Go.IntKind.i64 0) fun v45_101 =>
k_96 v45_101 .p H_91 n_92) .p H_91 n_92 fun v_97 x_98 H_99 n_100 =>
guardD v33_30 true (fun k_102 =>
bindO (pureSem P v_97 (Op.unary Go.UnOp.not v_97)) fun v46_107 =>
k_102 v46_107 .p H_99 n_100) .p H_99 n_100 fun v_103 x_104 H_105 n_106 =>
bindO (pickV v33_30 v_103 (Go.Value.bool false)) fun v47_108 =>
ifK v47_108 (
binK P Go.BinOp.add 3 (Go.Operand.tmp 48) (Go.Operand.const (Go.Value.int Go.IntKind.i64 1)) u11 (Go.Value.int Go.IntKind.i64 1) fun v49_110 =>
b2 u0 u1 u4 v49_110 u12 H_105 n_106) (
j3 u0 u1 u4 u11 u12 H_105 n_106)
noncomputable def C83_2 (cal : Cal) (k m1 m2 : Nat) (b1 : Value → Value → Value → Value → Value → Hp → Nat → Res) (b2 : Value → Value → Value → Value → Value → Hp → Nat → Res) (u0 u1 u4 u11 u12 : Value) (H : Hp) (n : Nat) : Res := B83_2 cal k m1 m2 (S83_3 cal k m1 b1 m1) b1 b2 u0 u1 u4 u11 u12 H n
noncomputable def S83_2 (cal : Cal) (k m1 : Nat) (b1 : Value → Value → Value → Value → Value → Hp → Nat → Res) : Nat → Value → Value → Value → Value → Value → Hp → Nat → Res := fun m => Nat.rec (motive := fun _ => Value → Value → Value → Value → Value → Hp → Nat → Res) (C83_2 cal k m1 0 b1 (fun _ _ _ _ _ _ _ => none)) (fun m ih => C83_2 cal k m1 (m + 1) b1 ih) m
theorem h83_2 (cal : Cal) (k m1 m2 : Nat) (u0 u1 u4 u11 u12 : Value) (H : Hp) (n : Nat) : labK (E83_2 cal k m1 m2) (Tr.set (Tr.set (Tr.set (Tr.set (Tr.set Tr.nil 12 (some u12)) 11 (some u11)) 4 (some u4)) 1 (some u1)) 0 (some u0)) H n [] = C83_2 cal k m1 m2 (R83_1 cal k m1) (R83_2 cal k m1 m2) u0 u1 u4 u11 u12 H n := by
  have h : labK (E83_2 cal k m1 m2) (Tr.set (Tr.set (Tr.set (Tr.set (Tr.set Tr.nil 12 (some u12)) 11 (some u11)) 4 (some u4)) 1 (some u1)) 0 (some u0)) H n [] = B83_2 cal k m1 m2 (fun u0 u1 u4 u11 u12 H n => labK (E83_3 cal k m1 m1) (Tr.set (Tr.set (Tr.set (Tr.set (Tr.set Tr.nil 12 (some u12)) 11 (some u11)) 4 (some u4)) 1 (some u1)) 0 (some u0)) H n []) (R83_1 cal k m1) (R83_2 cal k m1 m2) u0 u1 u4 u11 u12 H n := by kernel_rfl
  rw [h, C83_2]
  have e3 : (fun u0 u1 u4 u11 u12 H n => labK (E83_3 cal k m1 m1) (Tr.set (Tr.set (Tr.set (Tr.set (Tr.set Tr.nil 12 (some u12)) 11 (some u11)) 4 (some u4)) 1 (some u1)) 0 (some u0)) H n []) = (S83_3 cal k m1 (R83_1 cal k m1) m1) := by funext u0 u1 u4 u11 u12 H n; exact q83_3 ..
  rw [e3]
theorem q83_2 (cal : Cal) (k m1 : Nat) : ∀ (m : Nat) (u0 u1 u4 u11 u12 : Value) (H : Hp) (n : Nat), labK (E83_2 cal k m1 m) (Tr.set (Tr.set (Tr.set (Tr.set (Tr.set Tr.nil 12 (some u12)) 11 (some u11)) 4 (some u4)) 1 (some u1)) 0 (some u0)) H n [] = S83_2 cal k m1 (R83_1 cal k m1) m u0 u1 u4 u11 u12 H n
  | 0, u0, u1, u4, u11, u12, H, n => by
    rw [h83_2]
    have e : R83_2 cal k m1 0 = fun _ _ _ _ _ _ _ => none := by funext u0 u1 u4 u11 u12 H n; kernel_rfl
    rw [e]; rfl
  | m + 1, u0, u1, u4, u11, u12, H, n => by
    rw [h83_2]
    have e : R83_2 cal k m1 (m + 1) = S83_2 cal k m1 (R83_1 cal k m1) m := by
      funext u0 u1 u4 u11 u12 H n
      have e : R83_2 cal k m1 (m + 1) u0 u1 u4 u11 u12 H n = labK (E83_2 cal k m1 m) (Tr.set (Tr.set (Tr.set (Tr.set (Tr.set Tr.nil 12 (some u12)) 11 (some u11)) 4 (some u4)) 1 (some u1)) 0 (some u0)) H n [] := by kernel_rfl
      rw [e]; exact q83_2 ..
    rw [e]; rfl
noncomputable def B83_1 (cal : Cal) (k m1 : Nat) (j2 : Value → Value → Value → Value → Value → Hp → Nat → Res) (b1 : Value → Value → Value → Value → Value → Hp → Nat → Res) (u0 u1 u4 u11 u12 : Value) (H : Hp) (n : Nat) : Res :=
j2 u0 u1 u4 u11 u12 H n
noncomputable def C83_1 (cal : Cal) (k m1 : Nat) (b1 : Value → Value → Value → Value → Value → Hp → Nat → Res) (u0 u1 u4 u11 u12 : Value) (H : Hp) (n : Nat) : Res := B83_1 cal k m1 (S83_2 cal k m1 b1 m1) b1 u0 u1 u4 u11 u12 H n
noncomputable def S83_1 (cal : Cal) (k : Nat) : Nat → Value → Value → Value → Value → Value → Hp → Nat → Res := fun m => Nat.rec (motive := fun _ => Value → Value → Value → Value → Value → Hp → Nat → Res) (C83_1 cal k 0 (fun _ _ _ _ _ _ _ => none)) (fun m ih => C83_1 cal k (m + 1) ih) m
theorem h83_1 (cal : Cal) (k m1 : Nat) (u0 u1 u4 u11 u12 : Value) (H : Hp) (n : Nat) : labK (E83_1 cal k m1) (Tr.set (Tr.set (Tr.set (Tr.set (Tr.set Tr.nil 12 (some u12)) 11 (some u11)) 4 (some u4)) 1 (some u1)) 0 (some u0)) H n [] = C83_1 cal k m1 (R83_1 cal k m1) u0 u1 u4 u11 u12 H n := by
  have h : labK (E83_1 cal k m1) (Tr.set (Tr.set (Tr.set (Tr.set (Tr.set Tr.nil 12 (some u12)) 11 (some u11)) 4 (some u4)) 1 (some u1)) 0 (some u0)) H n [] = B83_1 cal k m1 (fun u0 u1 u4 u11 u12 H n => labK (E83_2 cal k m1 m1) (Tr.set (Tr.set (Tr.set (Tr.set (Tr.set Tr.nil 12 (some u12)) 11 (some u11)) 4 (some u4)) 1 (some u1)) 0 (some u0)) H n []) (R83_1 cal k m1) u0 u1 u4 u11 u12 H n := by kernel_rfl
  rw [h, C83_1]
  have e2 : (fun u0 u1 u4 u11 u12 H n => labK (E83_2 cal k m1 m1) (Tr.set (Tr.set (Tr.set (Tr.set (Tr.set Tr.nil 12 (some u12)) 11 (some u11)) 4 (some u4)) 1 (some u1)) 0 (some u0)) H n []) = (S83_2 cal k m1 (R83_1 cal k m1) m1) := by funext u0 u1 u4 u11 u12 H n; exact q83_2 ..
  rw [e2]
theorem q83_1 (cal : Cal) (k : Nat) : ∀ (m : Nat) (u0 u1 u4 u11 u12 : Value) (H : Hp) (n : Nat), labK (E83_1 cal k m) (Tr.set (Tr.set (Tr.set (Tr.set (Tr.set Tr.nil 12 (some u12)) 11 (some u11)) 4 (some u4)) 1 (some u1)) 0 (some u0)) H n [] = S83_1 cal k m u0 u1 u4 u11 u12 H n
  | 0, u0, u1, u4, u11, u12, H, n => by
    rw [h83_1]
    have e : R83_1 cal k 0 = fun _ _ _ _ _ _ _ => none := by funext u0 u1 u4 u11 u12 H n; kernel_rfl
    rw [e]; rfl
  | m + 1, u0, u1, u4, u11, u12, H, n => by
    rw [h83_1]
    have e : R83_1 cal k (m + 1) = S83_1 cal k m := by
      funext u0 u1 u4 u11 u12 H n
      have e : R83_1 cal k (m + 1) u0 u1 u4 u11 u12 H n = labK (E83_1 cal k m) (Tr.set (Tr.set (Tr.set (Tr.set (Tr.set Tr.nil 12 (some u12)) 11 (some u11)) 4 (some u4)) 1 (some u1)) 0 (some u0)) H n [] := by kernel_rfl
      rw [e]; exact q83_1 ..
    rw [e]; rfl
noncomputable def B83_0 (cal : Cal) (k : Nat) (j1 : Value → Value → Value → Value → Value → Hp → Nat → Res) (v0 v1 v2 v3 v4 : Value) (H : Hp) (n : Nat) : Res :=
bindO (indexAddrV P 54 v0 v3) fun v19_8 =>
bindO (addrV v19_8) fun a_9 => bindO (loadV P H 50 a_9) fun v_10 =>
bindO (indexAddrV P 54 v0 v1) fun v23_13 =>
bindO (addrV v23_13) fun a_14 => bindO (loadV P H 50 a_14) fun v_15 =>
bindO (indexAddrV P 54 v0 v1) fun v25_16 =>
bindO (storeP P 50 v25_16 v_10 H) fun H_18 =>
bindO (indexAddrV P 54 v0 v3) fun v26_19 =>
bindO (storeP P 50 v26_19 v_15 H_18) fun H_21 =>
binK P Go.BinOp.add 3 (Go.Operand.tmp 27) (Go.Operand.const (Go.Value.int Go.IntKind.i64 1)) v1 (Go.Value.int Go.IntKind.i64 1) fun v28_23 =>
binK P Go.BinOp.sub 3 (Go.Operand.tmp 29) (Go.Operand.const (Go.Value.int Go.IntKind.i64 1)) v2 (Go.Value.int Go.IntKind.i64 1) fun v30_25 =>
j1 v0 v1 v4 v28_23 v30_25 H_21 n
noncomputable def C83_0 (cal : Cal) (k : Nat) (v0 v1 v2 v3 v4 : Value) (H : Hp) (n : Nat) : Res := B83_0 cal k (S83_1 cal k k) v0 v1 v2 v3 v4 H n
theorem h83_0 (cal : Cal) (k : Nat) (v0 v1 v2 v3 v4 : Value) (H : Hp) (n : Nat) : bodyE P cal A (k + 1) 83 [v0, v1, v2, v3, v4] H n = C83_0 cal k v0 v1 v2 v3 v4 H n := by
  have h : bodyE P cal A (k + 1) 83 [v0, v1, v2, v3, v4] H n = B83_0 cal k (fun u0 u1 u4 u11 u12 H n => labK (E83_1 cal k k) (Tr.set (Tr.set (Tr.set (Tr.set (Tr.set Tr.nil 12 (some u12)) 11 (some u11)) 4 (some u4)) 1 (some u1)) 0 (some u0)) H n []) v0 v1 v2 v3 v4 H n := by
    rw [body_eq (fn := Go.Proofs.Try.f83) (c := code83) (rs := results83) (by kernel_rfl) (by kernel_rfl) (by kernel_rfl) (by kernel_rfl)]
    kernel_rfl
  rw [h, C83_0]
  have e1 : (fun u0 u1 u4 u11 u12 H n => labK (E83_1 cal k k) (Tr.set (Tr.set (Tr.set (Tr.set (Tr.set Tr.nil 12 (some u12)) 11 (some u11)) 4 (some u4)) 1 (some u1)) 0 (some u0)) H n []) = (S83_1 cal k k) := by funext u0 u1 u4 u11 u12 H n; exact q83_1 ..
  rw [e1]
noncomputable def code84 : Code := codeOf 84
noncomputable def results84 : List ResultVar := resOf 84
noncomputable def K84_p (cal : Cal) (k : Nat) : KC (Value × Hp × Nat) := (cutK (A 84).c (codeE P cal (codeF P cal k) none 84 (cR code84) (Lv.b (A 84)) (doneK P results84) X0 (doneK P results84)))
noncomputable def K84_pr (cal : Cal) (k : Nat) : KC (Value × Hp × Nat) := (cutK (Lv.b (A 84)).c (codeE P cal (codeF P cal k) none 84 (cR (cR code84)) (Lv.b (Lv.b (A 84))) (doneK P results84) X0 (doneK P results84)))
noncomputable def K84_prr (cal : Cal) (k : Nat) : KC (Value × Hp × Nat) := (cutK (Lv.b (Lv.b (A 84))).c (codeE P cal (codeF P cal k) none 84 (cR (cR (cR code84))) (Lv.b (Lv.b (Lv.b (A 84)))) (doneK P results84) X0 (doneK P results84)))
noncomputable def K84_prrr (cal : Cal) (k : Nat) : KC (Value × Hp × Nat) := (cutK (Lv.b (Lv.b (Lv.b (A 84)))).c (codeE P cal (codeF P cal k) none 84 (cR (cR (cR (cR code84)))) (Lv.b (Lv.b (Lv.b (Lv.b (A 84))))) (doneK P results84) X0 (doneK P results84)))
noncomputable def K84_pxrrrl (cal : Cal) (k : Nat) : XC (Value × Hp × Nat) := (upX 0 (K84_prrr cal k) X0)
noncomputable def K84_prrrll (cal : Cal) (k : Nat) (m1 : Nat) : KC (Value × Hp × Nat) := (fun T H n D => codeF P cal m1 (Lv.a (Lv.a (Lv.b (Lv.b (Lv.b (A 84)))))) none 84 (cL (cL (cR (cR (cR code84))))) (K84_prrr cal k) (K84_pxrrrl cal k) (doneK P results84) (cutT (Lv.a (Lv.a (Lv.b (Lv.b (Lv.b (A 84)))))).c T) H n D)
noncomputable def K84_prrrlll (cal : Cal) (k : Nat) (m1 : Nat) : KC (Value × Hp × Nat) := (cutK (Lv.a (Lv.a (Lv.a (Lv.b (Lv.b (Lv.b (A 84))))))).c (codeE P cal (codeF P cal m1) none 84 (cR (cL (cL (cL (cR (cR (cR code84))))))) (Lv.b (Lv.a (Lv.a (Lv.a (Lv.b (Lv.b (Lv.b (A 84)))))))) (K84_prrrll cal k m1) (K84_pxrrrl cal k) (doneK P results84)))
noncomputable def K84_prrrllll (cal : Cal) (k : Nat) (m1 : Nat) : KC (Value × Hp × Nat) := (cutK (Lv.a (Lv.a (Lv.a (Lv.a (Lv.b (Lv.b (Lv.b (A 84)))))))).c (codeE P cal (codeF P cal m1) none 84 (cR (cL (cL (cL (cL (cR (cR (cR code84)))))))) (Lv.b (Lv.a (Lv.a (Lv.a (Lv.a (Lv.b (Lv.b (Lv.b (A 84))))))))) (K84_prrrlll cal k m1) (K84_pxrrrl cal k) (doneK P results84)))
noncomputable def K84_pxrrrlllr (cal : Cal) (k : Nat) (m1 : Nat) : XC (Value × Hp × Nat) := (upX 1 (K84_prrrll cal k m1) (K84_pxrrrl cal k))
noncomputable def K84_prrrr (cal : Cal) (k : Nat) : KC (Value × Hp × Nat) := (cutK (Lv.b (Lv.b (Lv.b (Lv.b (A 84))))).c (codeE P cal (codeF P cal k) none 84 (cR (cR (cR (cR (cR code84))))) (Lv.b (Lv.b (Lv.b (Lv.b (Lv.b (A 84)))))) (doneK P results84) X0 (doneK P results84)))
noncomputable def K84_pxrrrrl (cal : Cal) (k : Nat) : XC (Value × Hp × Nat) := (upX 2 (K84_prrrr cal k) X0)
noncomputable def K84_prrrrll (cal : Cal) (k : Nat) (m1 : Nat) : KC (Value × Hp × Nat) := (fun T H n D => codeF P cal m1 (Lv.a (Lv.a (Lv.b (Lv.b (Lv.b (Lv.b (A 84))))))) none 84 (cL (cL (cR (cR (cR (cR code84)))))) (K84_prrrr cal k) (K84_pxrrrrl cal k) (doneK P results84) (cutT (Lv.a (Lv.a (Lv.b (Lv.b (Lv.b (Lv.b (A 84))))))).c T) H n D)
noncomputable def K84_prrrrlll (cal : Cal) (k : Nat) (m1 : Nat) : KC (Value × Hp × Nat) := (cutK (Lv.a (Lv.a (Lv.a (Lv.b (Lv.b (Lv.b (Lv.b (A 84)))))))).c (codeE P cal (codeF P cal m1) none 84 (cR (cL (cL (cL (cR (cR (cR (cR code84)))))))) (Lv.b (Lv.a (Lv.a (Lv.a (Lv.b (Lv.b (Lv.b (Lv.b (A 84))))))))) (K84_prrrrll cal k m1) (K84_pxrrrrl cal k) (doneK P results84)))
noncomputable def K84_prrrrllll (cal : Cal) (k : Nat) (m1 : Nat) : KC (Value × Hp × Nat) := (cutK (Lv.a (Lv.a (Lv.a (Lv.a (Lv.b (Lv.b (Lv.b (Lv.b (A 84))))))))).c (codeE P cal (codeF P cal m1) none 84 (cR (cL (cL (cL (cL (cR (cR (cR (cR code84))))))))) (Lv.b (Lv.a (Lv.a (Lv.a (Lv.a (Lv.b (Lv.b (Lv.b (Lv.b (A 84)))))))))) (K84_prrrrlll cal k m1) (K84_pxrrrrl cal k) (doneK P results84)))
noncomputable def K84_pxrrrrlllr (cal : Cal) (k : Nat) (m1 : Nat) : XC (Value × Hp × Nat) := (upX 3 (K84_prrrrll cal k m1) (K84_pxrrrrl cal k))
noncomputable def K84_prrrrr (cal : Cal) (k : Nat) : KC (Value × Hp × Nat) := (cutK (Lv.b (Lv.b (Lv.b (Lv.b (Lv.b (A 84)))))).c (codeE P cal (codeF P cal k) none 84 (cR (cR (cR (cR (cR (cR code84)))))) (Lv.b (Lv.b (Lv.b (Lv.b (Lv.b (Lv.b (A 84))))))) (doneK P results84) X0 (doneK P results84)))
noncomputable def K84_prrrrrl (cal : Cal) (k : Nat) : KC (Value × Hp × Nat) := (cutK (Lv.a (Lv.b (Lv.b (Lv.b (Lv.b (Lv.b (A 84))))))).c (codeE P cal (codeF P cal k) none 84 (cR (cL (cR (cR (cR (cR (cR code84))))))) (Lv.b (Lv.a (Lv.b (Lv.b (Lv.b (Lv.b (Lv.b (A 84)))))))) (K84_prrrrr cal k) X0 (doneK P results84)))
noncomputable def K84_prrrrrlrl (cal : Cal) (k : Nat) : KC (Value × Hp × Nat) := (cutK (Lv.a (Lv.b (Lv.a (Lv.b (Lv.b (Lv.b (Lv.b (Lv.b (A 84))))))))).c (codeE P cal (codeF P cal k) none 84 (cR (cL (cR (cL (cR (cR (cR (cR (cR code84))))))))) (Lv.b (Lv.a (Lv.b (Lv.a (Lv.b (Lv.b (Lv.b (Lv.b (Lv.b (A 84)))))))))) (K84_prrrrr cal k) X0 (doneK P results84)))
noncomputable def K84_prrrrrlrlr (cal : Cal) (k : Nat) : KC (Value × Hp × Nat) := (cutK (Lv.b (Lv.a (Lv.b (Lv.a (Lv.b (Lv.b (Lv.b (Lv.b (Lv.b (A 84)))))))))).c (codeE P cal (codeF P cal k) none 84 (cR (cR (cL (cR (cL (cR (cR (cR (cR (cR code84)))))))))) (Lv.b (Lv.b (Lv.a (Lv.b (Lv.a (Lv.b (Lv.b (Lv.b (Lv.b (Lv.b (A 84))))))))))) (K84_prrrrr cal k) X0 (doneK P results84)))
noncomputable def K84_prrrrrr (cal : Cal) (k : Nat) : KC (Value × Hp × Nat) := (cutK (Lv.b (Lv.b (Lv.b (Lv.b (Lv.b (Lv.b (A 84))))))).c (codeE P cal (codeF P cal k) none 84 (cR (cR (cR (cR (cR (cR (cR code84))))))) (Lv.b (Lv.b (Lv.b (Lv.b (Lv.b (Lv.b (Lv.b (A 84)))))))) (doneK P results84) X0 (doneK P results84)))
noncomputable def K84_prrrrrrr (cal : Cal) (k : Nat) : KC (Value × Hp × Nat) := (cutK (Lv.b (Lv.b (Lv.b (Lv.b (Lv.b (Lv.b (Lv.b (A 84)))))))).c (codeE P cal (codeF P cal k) none 84 (cR (cR (cR (cR (cR (cR (cR (cR code84)))))))) (Lv.b (Lv.b (Lv.b (Lv.b (Lv.b (Lv.b (Lv.b (Lv.b (A 84))))))))) (doneK P results84) X0 (doneK P results84)))
noncomputable def K84_prrrrrrrr (cal : Cal) (k : Nat) : KC (Value × Hp × Nat) := (cutK (Lv.b (Lv.b (Lv.b (Lv.b (Lv.b (Lv.b (Lv.b (Lv.b (A 84))))))))).c (codeE P cal (codeF P cal k) none 84 (cR (cR (cR (cR (cR (cR (cR (cR (cR code84))))))))) (Lv.b (Lv.b (Lv.b (Lv.b (Lv.b (Lv.b (Lv.b (Lv.b (Lv.b (A 84)))))))))) (doneK P results84) X0 (doneK P results84)))
noncomputable def K84_prrrrrrrrr (cal : Cal) (k : Nat) : KC (Value × Hp × Nat) := (cutK (Lv.b (Lv.b (Lv.b (Lv.b (Lv.b (Lv.b (Lv.b (Lv.b (Lv.b (A 84)))))))))).c (codeE P cal (codeF P cal k) none 84 (cR (cR (cR (cR (cR (cR (cR (cR (cR (cR code84)))))))))) (Lv.b (Lv.b (Lv.b (Lv.b (Lv.b (Lv.b (Lv.b (Lv.b (Lv.b (Lv.b (A 84))))))))))) (doneK P results84) X0 (doneK P results84)))
noncomputable def K84_pxrrrrrrrrrl (cal : Cal) (k : Nat) : XC (Value × Hp × Nat) := (upX 4 (K84_prrrrrrrrr cal k) X0)
noncomputable def K84_prrrrrrrrrll (cal : Cal) (k : Nat) (m1 : Nat) : KC (Value × Hp × Nat) := (fun T H n D => codeF P cal m1 (Lv.a (Lv.a (Lv.b (Lv.b (Lv.b (Lv.b (Lv.b (Lv.b (Lv.b (Lv.b (Lv.b (A 84)))))))))))) none 84 (cL (cL (cR (cR (cR (cR (cR (cR (cR (cR (cR code84))))))))))) (K84_prrrrrrrrr cal k) (K84_pxrrrrrrrrrl cal k) (doneK P results84) (cutT (Lv.a (Lv.a (Lv.b (Lv.b (Lv.b (Lv.b (Lv.b (Lv.b (Lv.b (Lv.b (Lv.b (A 84)))))))))))).c T) H n D)
noncomputable def K84_pxrrrrrrrrrlll (cal : Cal) (k : Nat) (m1 : Nat) : XC (Value × Hp × Nat) := (upX 5 (K84_prrrrrrrrrll cal k m1) (K84_pxrrrrrrrrrl cal k))
noncomputable def K84_prrrrrrrrrllll (cal : Cal) (k : Nat) (m1 : Nat) : KC (Value × Hp × Nat) := (cutK (Lv.a (Lv.a (Lv.a (Lv.a (Lv.b (Lv.b (Lv.b (Lv.b (Lv.b (Lv.b (Lv.b (Lv.b (Lv.b (A 84)))))))))))))).c (codeE P cal (codeF P cal m1) none 84 (cR (cL (cL (cL (cL (cR (cR (cR (cR (cR (cR (cR (cR (cR code84)))))))))))))) (Lv.b (Lv.a (Lv.a (Lv.a (Lv.a (Lv.b (Lv.b (Lv.b (Lv.b (Lv.b (Lv.b (Lv.b (Lv.b (Lv.b (A 84))))))))))))))) (K84_prrrrrrrrrll cal k m1) (K84_pxrrrrrrrrrlll cal k m1) (doneK P results84)))
noncomputable def K84_pxrrrrrrrrrlllll (cal : Cal) (k : Nat) (m1 : Nat) : XC (Value × Hp × Nat) := (upX 6 (K84_prrrrrrrrrllll cal k m1) (K84_pxrrrrrrrrrlll cal k m1))
noncomputable def K84_prrrrrrrrrllllll (cal : Cal) (k : Nat) (m1 : Nat) (m2 : Nat) : KC (Value × Hp × Nat) := (fun T H n D => codeF P cal m2 (Lv.a (Lv.a (Lv.a (Lv.a (Lv.a (Lv.a (Lv.b (Lv.b (Lv.b (Lv.b (Lv.b (Lv.b (Lv.b (Lv.b (Lv.b (A 84)))))))))))))))) none 84 (cL (cL (cL (cL (cL (cL (cR (cR (cR (cR (cR (cR (cR (cR (cR code84))))))))))))))) (K84_prrrrrrrrrllll cal k m1) (K84_pxrrrrrrrrrlllll cal k m1) (doneK P results84) (cutT (Lv.a (Lv.a (Lv.a (Lv.a (Lv.a (Lv.a (Lv.b (Lv.b (Lv.b (Lv.b (Lv.b (Lv.b (Lv.b (Lv.b (Lv.b (A 84)))))))))))))))).c T) H n D)
noncomputable def K84_prrrrrrrrrlllllll (cal : Cal) (k : Nat) (m1 : Nat) (m2 : Nat) : KC (Value × Hp × Nat) := (cutK (Lv.a (Lv.a (Lv.a (Lv.a (Lv.a (Lv.a (Lv.a (Lv.b (Lv.b (Lv.b (Lv.b (Lv.b (Lv.b (Lv.b (Lv.b (Lv.b (A 84))))))))))))))))).c (codeE P cal (codeF P cal m2) none 84 (cR (cL (cL (cL (cL (cL (cL (cL (cR (cR (cR (cR (cR (cR (cR (cR (cR code84))))))))))))))))) (Lv.b (Lv.a (Lv.a (Lv.a (Lv.a (Lv.a (Lv.a (Lv.a (Lv.b (Lv.b (Lv.b (Lv.b (Lv.b (Lv.b (Lv.b (Lv.b (Lv.b (A 84)))))))))))))))))) (K84_prrrrrrrrrllllll cal k m1 m2) (K84_pxrrrrrrrrrlllll cal k m1) (doneK P results84)))
noncomputable def K84_prrrrrrrrrllllllll (cal : Cal) (k : Nat) (m1 : Nat) (m2 : Nat) : KC (Value × Hp × Nat) := (cutK (Lv.a (Lv.a (Lv.a (Lv.a (Lv.a (Lv.a (Lv.a (Lv.a (Lv.b (Lv.b (Lv.b (Lv.b (Lv.b (Lv.b (Lv.b (Lv.b (Lv.b (A 84)))))))))))))))))).c (codeE P cal (codeF P cal m2) none 84 (cR (cL (cL (cL (cL (cL (cL (cL (cL (cR (cR (cR (cR (cR (cR (cR (cR (cR code84)))))))))))))))))) (Lv.b (Lv.a (Lv.a (Lv.a (Lv.a (Lv.a (Lv.a (Lv.a (Lv.a (Lv.b (Lv.b (Lv.b (Lv.b (Lv.b (Lv.b (Lv.b (Lv.b (Lv.b (A 84))))))))))))))))))) (K84_prrrrrrrrrlllllll cal k m1 m2) (K84_pxrrrrrrrrrlllll cal k m1) (doneK P results84)))
noncomputable def K84_pxrrrrrrrrrlllllllr (cal : Cal) (k : Nat) (m1 : Nat) (m2 : Nat) : XC (Value × Hp × Nat) := (upX 7 (K84_prrrrrrrrrllllll cal k m1 m2) (K84_pxrrrrrrrrrlllll cal k m1))
noncomputable def K84_prrrrrrrrrllllr (cal : Cal) (k : Nat) (m1 : Nat) : KC (Value × Hp × Nat) := (cutK (Lv.b (Lv.a (Lv.a (Lv.a (Lv.a (Lv.b (Lv.b (Lv.b (Lv.b (Lv.b (Lv.b (Lv.b (Lv.b (Lv.b (A 84))))))))))))))).c (codeE P cal (codeF P cal m1) none 84 (cR (cR (cL (cL (cL (cL (cR (cR (cR (cR (cR (cR (cR (cR (cR code84))))))))))))))) (Lv.b (Lv.b (Lv.a (Lv.a (Lv.a (Lv.a (Lv.b (Lv.b (Lv.b (Lv.b (Lv.b (Lv.b (Lv.b (Lv.b (Lv.b (A 84)))))))))))))))) (K84_prrrrrrrrrll cal k m1) (K84_pxrrrrrrrrrlll cal k m1) (doneK P results84)))
noncomputable def K84_pxrrrrrrrrrllllrl (cal : Cal) (k : Nat) (m1 : Nat) : XC (Value × Hp × Nat) := (upX 8 (K84_prrrrrrrrrllllr cal k m1) (K84_pxrrrrrrrrrlll cal k m1))
noncomputable def K84_prrrrrrrrrllllrll (cal : Cal) (k : Nat) (m1 : Nat) (m2 : Nat) : KC (Value × Hp × Nat) := (fun T H n D => codeF P cal m2 (Lv.a (Lv.a (Lv.b (Lv.a (Lv.a (Lv.a (Lv.a (Lv.b (Lv.b (Lv.b (Lv.b (Lv.b (Lv.b (Lv.b (Lv.b (Lv.b (A 84))))))))))))))))) none 84 (cL (cL (cR (cL (cL (cL (cL (cR (cR (cR (cR (cR (cR (cR (cR (cR code84)))))))))))))))) (K84_prrrrrrrrrllllr cal k m1) (K84_pxrrrrrrrrrllllrl cal k m1) (doneK P results84) (cutT (Lv.a (Lv.a (Lv.b (Lv.a (Lv.a (Lv.a (Lv.a (Lv.b (Lv.b (Lv.b (Lv.b (Lv.b (Lv.b (Lv.b (Lv.b (Lv.b (A 84))))))))))))))))).c T) H n D)
noncomputable def K84_prrrrrrrrrllllrlll (cal : Cal) (k : Nat) (m1 : Nat) (m2 : Nat) : KC (Value × Hp × Nat) := (cutK (Lv.a (Lv.a (Lv.a (Lv.b (Lv.a (Lv.a (Lv.a (Lv.a (Lv.b (Lv.b (Lv.b (Lv.b (Lv.b (Lv.b (Lv.b (Lv.b (Lv.b (A 84)))))))))))))))))).c (codeE P cal (codeF P cal m2) none 84 (cR (cL (cL (cL (cR (cL (cL (cL (cL (cR (cR (cR (cR (cR (cR (cR (cR (cR code84)))))))))))))))))) (Lv.b (Lv.a (Lv.a (Lv.a (Lv.b (Lv.a (Lv.a (Lv.a (Lv.a (Lv.b (Lv.b (Lv.b (Lv.b (Lv.b (Lv.b (Lv.b (Lv.b (Lv.b (A 84))))))))))))))))))) (K84_prrrrrrrrrllllrll cal k m1 m2) (K84_pxrrrrrrrrrllllrl cal k m1) (doneK P results84)))
noncomputable def K84_prrrrrrrrrllllrllll (cal : Cal) (k : Nat) (m1 : Nat) (m2 : Nat) : KC (Value × Hp × Nat) := (cutK (Lv.a (Lv.a (Lv.a (Lv.a (Lv.b (Lv.a (Lv.a (Lv.a (Lv.a (Lv.b (Lv.b (Lv.b (Lv.b (Lv.b (Lv.b (Lv.b (Lv.b (Lv.b (A 84))))))))))))))))))).c (codeE P cal (codeF P cal m2) none 84 (cR (cL (cL (cL (cL (cR (cL (cL (cL (cL (cR (cR (cR (cR (cR (cR (cR (cR (cR code84))))))))))))))))))) (Lv.b (Lv.a (Lv.a (Lv.a (Lv.a (Lv.b (Lv.a (Lv.a (Lv.a (Lv.a (Lv.b (Lv.b (Lv.b (Lv.b (Lv.b (Lv.b (Lv.b (Lv.b (Lv.b (A 84)))))))))))))))))))) (K84_prrrrrrrrrllllrlll cal k m1 m2) (K84_pxrrrrrrrrrllllrl cal k m1) (doneK P results84)))
noncomputable def K84_pxrrrrrrrrrllllrlllr (cal : Cal) (k : Nat) (m1 : Nat) (m2 : Nat) : XC (Value × Hp × Nat) := (upX 9 (K84_prrrrrrrrrllllrll cal k m1 m2) (K84_pxrrrrrrrrrllllrl cal k m1))
noncomputable def K84_prrrrrrrrrllllrr (cal : Cal) (k : Nat) (m1 : Nat) : KC (Value × Hp × Nat) := (cutK (Lv.b (Lv.b (Lv.a (Lv.a (Lv.a (Lv.a (Lv.b (Lv.b (Lv.b (Lv.b (Lv.b (Lv.b (Lv.b (Lv.b (Lv.b (A 84)))))))))))))))).c (codeE P cal (codeF P cal m1) none 84 (cR (cR (cR (cL (cL (cL (cL (cR (cR (cR (cR (cR (cR (cR (cR (cR code84)))))))))))))))) (Lv.b (Lv.b (Lv.b (Lv.a (Lv.a (Lv.a (Lv.a (Lv.b (Lv.b (Lv.b (Lv.b (Lv.b (Lv.b (Lv.b (Lv.b (Lv.b (A 84))))))))))))))))) (K84_prrrrrrrrrll cal k m1) (K84_pxrrrrrrrrrlll cal k m1) (doneK P results84)))
noncomputable def K84_prrrrrrrrrllllrrl (cal : Cal) (k : Nat) (m1 : Nat) : KC (Value × Hp × Nat) := (cutK (Lv.a (Lv.b (Lv.b (Lv.a (Lv.a (Lv.a (Lv.a (Lv.b (Lv.b (Lv.b (Lv.b (Lv.b (Lv.b (Lv.b (Lv.b (Lv.b (A 84))))))))))))))))).c (codeE P cal (codeF P cal m1) none 84 (cR (cL (cR (cR (cL (cL (cL (cL (cR (cR (cR (cR (cR (cR (cR (cR (cR code84))))))))))))))))) (Lv.b (Lv.a (Lv.b (Lv.b (Lv.a (Lv.a (Lv.a (Lv.a (Lv.b (Lv.b (Lv.b (Lv.b (Lv.b (Lv.b (Lv.b (Lv.b (Lv.b (A 84)))))))))))))))))) (K84_prrrrrrrrrllllrr cal k m1) (K84_pxrrrrrrrrrlll cal k m1) (doneK P results84)))
noncomputable def K84_prrrrrrrrrr (cal : Cal) (k : Nat) : KC (Value × Hp × Nat) := (cutK (Lv.b (Lv.b (Lv.b (Lv.b (Lv.b (Lv.b (Lv.b (Lv.b (Lv.b (Lv.b (A 84))))))))))).c (codeE P cal (codeF P cal k) none 84 (cR (cR (cR (cR (cR (cR (cR (cR (cR (cR (cR code84))))))))))) (Lv.b (Lv.b (Lv.b (Lv.b (Lv.b (Lv.b (Lv.b (Lv.b (Lv.b (Lv.b (Lv.b (A 84)))))))))))) (doneK P results84) X0 (doneK P results84)))
noncomputable def K84_prrrrrrrrrrr (cal : Cal) (k : Nat) : KC (Value × Hp × Nat) := (cutK (Lv.b (Lv.b (Lv.b (Lv.b (Lv.b (Lv.b (Lv.b (Lv.b (Lv.b (Lv.b (Lv.b (A 84)))))))))))).c (codeE P cal (codeF P cal k) none 84 (cR (cR (cR (cR (cR (cR (cR (cR (cR (cR (cR (cR code84)))))))))))) (Lv.b (Lv.b (Lv.b (Lv.b (Lv.b (Lv.b (Lv.b (Lv.b (Lv.b (Lv.b (Lv.b (Lv.b (A 84))))))))))))) (doneK P results84) X0 (doneK P results84)))
noncomputable def K84_prrrrrrrrrllllrrr (cal : Cal) (k : Nat) (m1 : Nat) : KC (Value × Hp × Nat) := (cutK (Lv.b (Lv.b (Lv.b (Lv.a (Lv.a (Lv.a (Lv.a (Lv.b (Lv.b (Lv.b (Lv.b (Lv.b (Lv.b (Lv.b (Lv.b (Lv.b (A 84))))))))))))))))).c (codeE P cal (codeF P cal m1) none 84 (cR (cR (cR (cR (cL (cL (cL (cL (cR (cR (cR (cR (cR (cR (cR (cR (cR code84))))))))))))))))) (Lv.b (Lv.b (Lv.b (Lv.b (Lv.a (Lv.a (Lv.a (Lv.a (Lv.b (Lv.b (Lv.b (Lv.b (Lv.b (Lv.b (Lv.b (Lv.b (Lv.b (A 84)))))))))))))))))) (K84_prrrrrrrrrll cal k m1) (K84_pxrrrrrrrrrlll cal k m1) (doneK P results84)))
noncomputable def K84_prrrrrrrrrllllrrrr (cal : Cal) (k : Nat) (m1 : Nat) : KC (Value × Hp × Nat) := (cutK (Lv.b (Lv.b (Lv.b (Lv.b (Lv.a (Lv.a (Lv.a (Lv.a (Lv.b (Lv.b (Lv.b (Lv.b (Lv.b (Lv.b (Lv.b (Lv.b (Lv.b (A 84)))))))))))))))))).c (codeE P cal (codeF P cal m1) none 84 (cR (cR (cR (cR (cR (cL (cL (cL (cL (cR (cR (cR (cR (cR (cR (cR (cR (cR code84)))))))))))))))))) (Lv.b (Lv.b (Lv.b (Lv.b (Lv.b (Lv.a (Lv.a (Lv.a (Lv.a (Lv.b (Lv.b (Lv.b (Lv.b (Lv.b (Lv.b (Lv.b (Lv.b (Lv.b (A 84))))))))))))))))))) (K84_prrrrrrrrrll cal k m1) (K84_pxrrrrrrrrrlll cal k m1) (doneK P results84)))
noncomputable def E84_5 (cal : Cal) (k m1 m2 : Nat) : KC (Value × Hp × Nat) := codeE P cal (codeF P cal m2) none 84 (cL (cL (cL (cR (cL (cL (cL (cL (cR (cR (cR (cR (cR (cR (cR (cR (cR code84))))))))))))))))) (Lv.a (Lv.a (Lv.a (Lv.b (Lv.a (Lv.a (Lv.a (Lv.a (Lv.b (Lv.b (Lv.b (Lv.b (Lv.b (Lv.b (Lv.b (Lv.b (Lv.b (A 84)))))))))))))))))) (K84_prrrrrrrrrllllrll cal k m1 m2) (K84_pxrrrrrrrrrllllrl cal k m1) (doneK P results84)
noncomputable def R84_5 (cal : Cal) (k m1 m2 : Nat) : Value → Value → Value → Value → Value → Hp → Nat → Res := fun u0 u1 u4 u12 u13 H n => codeF P cal m2 (Lv.a (Lv.a (Lv.b (Lv.a (Lv.a (Lv.a (Lv.a (Lv.b (Lv.b (Lv.b (Lv.b (Lv.b (Lv.b (Lv.b (Lv.b (Lv.b (A 84))))))))))))))))) none 84 (cL (cL (cR (cL (cL (cL (cL (cR (cR (cR (cR (cR (cR (cR (cR (cR code84)))))))))))))))) (K84_prrrrrrrrrllllr cal k m1) (K84_pxrrrrrrrrrllllrl cal k m1) (doneK P results84) (Tr.set (Tr.set (Tr.set (Tr.set (Tr.set Tr.nil 13 (some u13)) 12 (some u12)) 4 (some u4)) 1 (some u1)) 0 (some u0)) H n []
noncomputable def E84_4 (cal : Cal) (k m1 m2 : Nat) : KC (Value × Hp × Nat) := codeE P cal (codeF P cal m2) none 84 (cL (cL (cL (cL (cL (cL (cL (cR (cR (cR (cR (cR (cR (cR (cR (cR code84)))))))))))))))) (Lv.a (Lv.a (Lv.a (Lv.a (Lv.a (Lv.a (Lv.a (Lv.b (Lv.b (Lv.b (Lv.b (Lv.b (Lv.b (Lv.b (Lv.b (Lv.b (A 84))))))))))))))))) (K84_prrrrrrrrrllllll cal k m1 m2) (K84_pxrrrrrrrrrlllll cal k m1) (doneK P results84)
noncomputable def R84_4 (cal : Cal) (k m1 m2 : Nat) : Value → Value → Value → Value → Value → Hp → Nat → Res := fun u0 u1 u4 u12 u13 H n => codeF P cal m2 (Lv.a (Lv.a (Lv.a (Lv.a (Lv.a (Lv.a (Lv.b (Lv.b (Lv.b (Lv.b (Lv.b (Lv.b (Lv.b (Lv.b (Lv.b (A 84)))))))))))))))) none 84 (cL (cL (cL (cL (cL (cL (cR (cR (cR (cR (cR (cR (cR (cR (cR code84))))))))))))))) (K84_prrrrrrrrrllll cal k m1) (K84_pxrrrrrrrrrlllll cal k m1) (doneK P results84) (Tr.set (Tr.set (Tr.set (Tr.set (Tr.set Tr.nil 13 (some u13)) 12 (some u12)) 4 (some u4)) 1 (some u1)) 0 (some u0)) H n []
noncomputable def E84_3 (cal : Cal) (k m1 : Nat) : KC (Value × Hp × Nat) := codeE P cal (codeF P cal m1) none 84 (cL (cL (cL (cR (cR (cR (cR (cR (cR (cR (cR (cR code84)))))))))))) (Lv.a (Lv.a (Lv.a (Lv.b (Lv.b (Lv.b (Lv.b (Lv.b (Lv.b (Lv.b (Lv.b (Lv.b (A 84))))))))))))) (K84_prrrrrrrrrll cal k m1) (K84_pxrrrrrrrrrl cal k) (doneK P results84)
noncomputable def R84_3 (cal : Cal) (k m1 : Nat) : Value → Value → Value → Value → Value → Hp → Nat → Res := fun u0 u1 u4 u12 u13 H n => codeF P cal m1 (Lv.a (Lv.a (Lv.b (Lv.b (Lv.b (Lv.b (Lv.b (Lv.b (Lv.b (Lv.b (Lv.b (A 84)))))))))))) none 84 (cL (cL (cR (cR (cR (cR (cR (cR (cR (cR (cR code84))))))))))) (K84_prrrrrrrrr cal k) (K84_pxrrrrrrrrrl cal k) (doneK P results84) (Tr.set (Tr.set (Tr.set (Tr.set (Tr.set Tr.nil 13 (some u13)) 12 (some u12)) 4 (some u4)) 1 (some u1)) 0 (some u0)) H n []
noncomputable def E84_2 (cal : Cal) (k m1 : Nat) : KC (Value × Hp × Nat) := codeE P cal (codeF P cal m1) none 84 (cL (cL (cL (cR (cR (cR (cR code84))))))) (Lv.a (Lv.a (Lv.a (Lv.b (Lv.b (Lv.b (Lv.b (A 84)))))))) (K84_prrrrll cal k m1) (K84_pxrrrrl cal k) (doneK P results84)
noncomputable def R84_2 (cal : Cal) (k m1 : Nat) : Value → Value → Value → Value → Value → Hp → Nat → Res := fun u0 u1 u4 u12 u13 H n => codeF P cal m1 (Lv.a (Lv.a (Lv.b (Lv.b (Lv.b (Lv.b (A 84))))))) none 84 (cL (cL (cR (cR (cR (cR code84)))))) (K84_prrrr cal k) (K84_pxrrrrl cal k) (doneK P results84) (Tr.set (Tr.set (Tr.set (Tr.set (Tr.set Tr.nil 13 (some u13)) 12 (some u12)) 4 (some u4)) 1 (some u1)) 0 (some u0)) H n []
noncomputable def E84_1 (cal : Cal) (k m1 : Nat) : KC (Value × Hp × Nat) := codeE P cal (codeF P cal m1) none 84 (cL (cL (cL (cR (cR (cR code84)))))) (Lv.a (Lv.a (Lv.a (Lv.b (Lv.b (Lv.b (A 84))))))) (K84_prrrll cal k m1) (K84_pxrrrl cal k) (doneK P results84)
noncomputable def R84_1 (cal : Cal) (k m1 : Nat) : Value → Value → Value → Value → Value → Hp → Nat → Res := fun u0 u1 u4 u12 u13 H n => codeF P cal m1 (Lv.a (Lv.a (Lv.b (Lv.b (Lv.b (A 84)))))) none 84 (cL (cL (cR (cR (cR code84))))) (K84_prrr cal k) (K84_pxrrrl cal k) (doneK P results84) (Tr.set (Tr.set (Tr.set (Tr.set (Tr.set Tr.nil 13 (some u13)) 12 (some u12)) 4 (some u4)) 1 (some u1)) 0 (some u0)) H n []
noncomputable def B84_5 (cal : Cal) (k m1 m2 : Nat) (b3 : Value → Value → Value → Value → Value → Hp → Nat → Res) (b5 : Value → Value → Value → Value → Value → Hp → Nat → Res) (u0 u1 u4 u12 u13 : Value) (H : Hp) (n : Nat) : Res :=
binK P Go.BinOp.leq 3 (Go.Operand.tmp 123) (Go.Operand.tmp 124) u12 u13 fun v125_323 =>
guardD v125_323 true (fun k_325 =>
k_325 u4 .p H n) .p H n fun v_326 x_327 H_328 n_329 =>
guardD v125_323 true (fun k_331 =>
k_331 u0 .p H_328 n_329) .p H_328 n_329 fun v_332 x_333 H_334 n_335 =>
guardD v125_323 true (fun k_337 =>
k_337 u13 .p H_334 n_335) .p H_334 n_335 fun v_338 x_339 H_340 n_341 =>
guardD v125_323 true (fun k_343 =>
bindO (indexAddrV P 54 v_332 v_338) fun v130_348 =>
k_343 v130_348 .p H_340 n_341) .p H_340 n_341 fun v_344 x_345 H_346 n_347 =>
guardD v125_323 true (fun k_349 =>
bindO (addrV v_344) fun a_354 => bindO (loadV P H_346 50 a_354) fun v_355 =>
k_349 v_355 (.l 50 a_354) H_346 n_347) .p H_346 n_347 fun v_350 x_351 H_352 n_353 =>
guardD v125_323 true (fun k_356 =>
k_356 u0 .p H_352 n_353) .p H_352 n_353 fun v_357 x_358 H_359 n_360 =>
guardD v125_323 true (fun k_362 =>
k_362 u1 .p H_359 n_360) .p H_359 n_360 fun v_363 x_364 H_365 n_366 =>
guardD v125_323 true (fun k_368 =>
bindO (indexAddrV P 54 v_357 v_363) fun v134_373 =>
k_368 v134_373 .p H_365 n_366) .p H_365 n_366 fun v_369 x_370 H_371 n_372 =>
guardD v125_323 true (fun k_374 =>
bindO (addrV v_369) fun a_379 => bindO (loadV P H_371 50 a_379) fun v_380 =>
k_374 v_380 (.l 50 a_379) H_371 n_372) .p H_371 n_372 fun v_375 x_376 H_377 n_378 =>
guardD v125_323 true (fun k_381 =>
callVK P cal v_326 [v_350, v_375] H_377 n_378 fun v136_386 H_387 n_388 =>
k_381 v136_386 .e H_387 n_388) .e H_377 n_378 fun v_382 x_383 H_384 n_385 =>
guardD v125_323 true (fun k_389 =>
binK P Go.BinOp.lss 3 (Go.Operand.tmp 136) (Go.Operand.const (Go.Value.int Go.IntKind.i64 0)) v_382 (Go.Value.int Go.IntKind.i64 0) fun v137_394 =>
k_389 v137_394 .p H_384 n_385) .p H_384 n_385 fun v_390 x_391 H_392 n_393 =>
guardD v125_323 true (fun k_395 =>
bindO (pureSem P v_390 (Op.unary Go.UnOp.not v_390)) fun v138_400 =>
k_395 v138_400 .p H_392 n_393) .p H_392 n_393 fun v_396 x_397 H_398 n_399 =>
bindO (pickV v125_323 v_396 (Go.Value.bool false)) fun v139_401 =>
ifK v139_401 (
binK P Go.BinOp.sub 3 (Go.Operand.tmp 140) (Go.Operand.const (Go.Value.int Go.IntKind.i64 1)) u13 (Go.Value.int Go.IntKind.i64 1) fun v141_403 =>
b5 u0 u1 u4 u12 v141_403 H_398 n_399) (
binK P Go.BinOp.gtr 3 (Go.Operand.tmp 142) (Go.Operand.tmp 143) u12 u13 fun v144_407 =>
ifK v144_407 (
bindO (indexAddrV P 54 u0 u1) fun v169_414 =>
bindO (addrV v169_414) fun a_415 => bindO (loadV P H_398 50 a_415) fun v_416 =>
bindO (indexAddrV P 54 u0 u13) fun v173_419 =>
bindO (addrV v173_419) fun a_420 => bindO (loadV P H_398 50 a_420) fun v_421 =>
bindO (indexAddrV P 54 u0 u13) fun v175_422 =>
bindO (storeP P 50 v175_422 v_416 H_398) fun H_424 =>
bindO (indexAddrV P 54 u0 u1) fun v176_425 =>
bindO (storeP P 50 v176_425 v_421 H_424) fun H_427 =>
some ((Value.tuple ⟨[u13, (Go.Value.bool false)]⟩), H_427, n_399)) (
bindO (indexAddrV P 54 u0 u13) fun v151_437 =>
bindO (addrV v151_437) fun a_438 => bindO (loadV P H_398 50 a_438) fun v_439 =>
bindO (indexAddrV P 54 u0 u12) fun v155_442 =>
bindO (addrV v155_442) fun a_443 => bindO (loadV P H_398 50 a_443) fun v_444 =>
bindO (indexAddrV P 54 u0 u12) fun v157_445 =>
bindO (storeP P 50 v157_445 v_439 H_398) fun H_447 =>
bindO (indexAddrV P 54 u0 u13) fun v158_448 =>
bindO (storeP P 50 v158_448 v_444 H_447) fun H_450 =>
binK P Go.BinOp.add 3 (Go.Operand.tmp 159) (Go.Operand.const (Go.Value.int Go.IntKind.i64 1)) u12 (Go.Value.int Go.IntKind.i64 1) fun v160_452 =>
binK P Go.BinOp.sub 3 (Go.Operand.tmp 161) (Go.Operand.const (Go.Value.int Go.IntKind.i64 1)) u13 (Go.Value.int Go.IntKind.i64 1) fun v162_455 =>
b3 u0 u1 u4 v160_452 v162_455 H_450 n_399))
noncomputable def C84_5 (cal : Cal) (k m1 m2 : Nat) (b3 : Value → Value → Value → Value → Value → Hp → Nat → Res) (b5 : Value → Value → Value → Value → Value → Hp → Nat → Res) (u0 u1 u4 u12 u13 : Value) (H : Hp) (n : Nat) : Res := B84_5 cal k m1 m2 b3 b5 u0 u1 u4 u12 u13 H n
noncomputable def S84_5 (cal : Cal) (k m1 : Nat) (b3 : Value → Value → Value → Value → Value → Hp → Nat → Res) : Nat → Value → Value → Value → Value → Value → Hp → Nat → Res := fun m => Nat.rec (motive := fun _ => Value → Value → Value → Value → Value → Hp → Nat → Res) (C84_5 cal k m1 0 b3 (fun _ _ _ _ _ _ _ => none)) (fun m ih => C84_5 cal k m1 (m + 1) b3 ih) m
theorem h84_5 (cal : Cal) (k m1 m2 : Nat) (u0 u1 u4 u12 u13 : Value) (H : Hp) (n : Nat) : labK (E84_5 cal k m1 m2) (Tr.set (Tr.set (Tr.set (Tr.set (Tr.set Tr.nil 13 (some u13)) 12 (some u12)) 4 (some u4)) 1 (some u1)) 0 (some u0)) H n [] = C84_5 cal k m1 m2 (R84_3 cal k m1) (R84_5 cal k m1 m2) u0 u1 u4 u12 u13 H n := by
  have h : labK (E84_5 cal k m1 m2) (Tr.set (Tr.set (Tr.set (Tr.set (Tr.set Tr.nil 13 (some u13)) 12 (some u12)) 4 (some u4)) 1 (some u1)) 0 (some u0)) H n [] = B84_5 cal k m1 m2 (R84_3 cal k m1) (R84_5 cal k m1 m2) u0 u1 u4 u12 u13 H n := by kernel_rfl
  rw [h, C84_5]
theorem q84_5 (cal : Cal) (k m1 : Nat) : ∀ (m : Nat) (u0 u1 u4 u12 u13 : Value) (H : Hp) (n : Nat), labK (E84_5 cal k m1 m) (Tr.set (Tr.set (Tr.set (Tr.set (Tr.set Tr.nil 13 (some u13)) 12 (some u12)) 4 (some u4)) 1 (some u1)) 0 (some u0)) H n [] = S84_5 cal k m1 (R84_3 cal k m1) m u0 u1 u4 u12 u13 H n
  | 0, u0, u1, u4, u12, u13, H, n => by
    rw [h84_5]
    have e : R84_5 cal k m1 0 = fun _ _ _ _ _ _ _ => none := by funext u0 u1 u4 u12 u13 H n; kernel_rfl
    rw [e]; rfl
  | m + 1, u0, u1, u4, u12, u13, H, n => by
    rw [h84_5]
    have e : R84_5 cal k m1 (m + 1) = S84_5 cal k m1 (R84_3 cal k m1) m := by
      funext u0 u1 u4 u12 u13 H n
      have e : R84_5 cal k m1 (m + 1) u0 u1 u4 u12 u13 H n = labK (E84_5 cal k m1 m) (Tr.set (Tr.set (Tr.set (Tr.set (Tr.set Tr.nil 13 (some u13)) 12 (some u12)) 4 (some u4)) 1 (some u1)) 0 (some u0)) H n [] := by kernel_rfl
      rw [e]; exact q84_5 ..
    rw [e]; rfl
noncomputable def B84_4 (cal : Cal) (k m1 m2 : Nat) (j5 : Value → Value → Value → Value → Value → Hp → Nat → Res) (b3 : Value → Value → Value → Value → Value → Hp → Nat → Res) (b4 : Value → Value → Value → Value → Value → Hp → Nat → Res) (u0 u1 u4 u12 u13 : Value) (H : Hp) (n : Nat) : Res :=
binK P Go.BinOp.leq 3 (Go.Operand.tmp 105) (Go.Operand.tmp 106) u12 u13 fun v107_245 =>
guardD v107_245 true (fun k_247 =>
k_247 u4 .p H n) .p H n fun v_248 x_249 H_250 n_251 =>
guardD v107_245 true (fun k_253 =>
k_253 u0 .p H_250 n_251) .p H_250 n_251 fun v_254 x_255 H_256 n_257 =>
guardD v107_245 true (fun k_259 =>
k_259 u12 .p H_256 n_257) .p H_256 n_257 fun v_260 x_261 H_262 n_263 =>
guardD v107_245 true (fun k_265 =>
bindO (indexAddrV P 54 v_254 v_260) fun v112_270 =>
k_265 v112_270 .p H_262 n_263) .p H_262 n_263 fun v_266 x_267 H_268 n_269 =>
guardD v107_245 true (fun k_271 =>
bindO (addrV v_266) fun a_276 => bindO (loadV P H_268 50 a_276) fun v_277 =>
k_271 v_277 (.l 50 a_276) H_268 n_269) .p H_268 n_269 fun v_272 x_273 H_274 n_275 =>
guardD v107_245 true (fun k_278 =>
k_278 u0 .p H_274 n_275) .p H_274 n_275 fun v_279 x_280 H_281 n_282 =>
guardD v107_245 true (fun k_284 =>
k_284 u1 .p H_281 n_282) .p H_281 n_282 fun v_285 x_286 H_287 n_288 =>
guardD v107_245 true (fun k_290 =>
bindO (indexAddrV P 54 v_279 v_285) fun v116_295 =>
k_290 v116_295 .p H_287 n_288) .p H_287 n_288 fun v_291 x_292 H_293 n_294 =>
guardD v107_245 true (fun k_296 =>
bindO (addrV v_291) fun a_301 => bindO (loadV P H_293 50 a_301) fun v_302 =>
k_296 v_302 (.l 50 a_301) H_293 n_294) .p H_293 n_294 fun v_297 x_298 H_299 n_300 =>
guardD v107_245 true (fun k_303 =>
callVK P cal v_248 [v_272, v_297] H_299 n_300 fun v118_308 H_309 n_310 =>
k_303 v118_308 .e H_309 n_310) .e H_299 n_300 fun v_304 x_305 H_306 n_307 =>
guardD v107_245 true (fun k_311 =>
binK P Go.BinOp.lss 3 (Go.Operand.tmp 118) (Go.Operand.const (Go.Value.int Go.IntKind.i64 0)) v_304 (Go.Value.int Go.IntKind.i64 0) fun v119_316 =>
k_311 v119_316 .p H_306 n_307) .p H_306 n_307 fun v_312 x_313 H_314 n_315 =>
bindO (pickV v107_245 v_312 (Go.Value.bool false)) fun v120_317 =>
ifK v120_317 (
binK P Go.BinOp.add 3 (Go.Operand.tmp 121) (Go.Operand.const (Go.Value.int Go.IntKind.i64 1)) u12 (Go.Value.int Go.IntKind.i64 1) fun v122_319 =>
b4 u0 u1 u4 v122_319 u13 H_314 n_315) (
j5 u0 u1 u4 u12 u13 H_314 n_315)
noncomputable def C84_4 (cal : Cal) (k m1 m2 : Nat) (b3 : Value → Value → Value → Value → Value → Hp → Nat → Res) (b4 : Value → Value → Value → Value → Value → Hp → Nat → Res) (u0 u1 u4 u12 u13 : Value) (H : Hp) (n : Nat) : Res := B84_4 cal k m1 m2 (S84_5 cal k m1 b3 m1) b3 b4 u0 u1 u4 u12 u13 H n
noncomputable def S84_4 (cal : Cal) (k m1 : Nat) (b3 : Value → Value → Value → Value → Value → Hp → Nat → Res) : Nat → Value → Value → Value → Value → Value → Hp → Nat → Res := fun m => Nat.rec (motive := fun _ => Value → Value → Value → Value → Value → Hp → Nat → Res) (C84_4 cal k m1 0 b3 (fun _ _ _ _ _ _ _ => none)) (fun m ih => C84_4 cal k m1 (m + 1) b3 ih) m
theorem h84_4 (cal : Cal) (k m1 m2 : Nat) (u0 u1 u4 u12 u13 : Value) (H : Hp) (n : Nat) : labK (E84_4 cal k m1 m2) (Tr.set (Tr.set (Tr.set (Tr.set (Tr.set Tr.nil 13 (some u13)) 12 (some u12)) 4 (some u4)) 1 (some u1)) 0 (some u0)) H n [] = C84_4 cal k m1 m2 (R84_3 cal k m1) (R84_4 cal k m1 m2) u0 u1 u4 u12 u13 H n := by
  have h : labK (E84_4 cal k m1 m2) (Tr.set (Tr.set (Tr.set (Tr.set (Tr.set Tr.nil 13 (some u13)) 12 (some u12)) 4 (some u4)) 1 (some u1)) 0 (some u0)) H n [] = B84_4 cal k m1 m2 (fun u0 u1 u4 u12 u13 H n => labK (E84_5 cal k m1 m1) (Tr.set (Tr.set (Tr.set (Tr.set (Tr.set Tr.nil 13 (some u13)) 12 (some u12)) 4 (some u4)) 1 (some u1)) 0 (some u0)) H n []) (R84_3 cal k m1) (R84_4 cal k m1 m2) u0 u1 u4 u12 u13 H n := by kernel_rfl
  rw [h, C84_4]
  have e5 : (fun u0 u1 u4 u12 u13 H n => labK (E84_5 cal k m1 m1) (Tr.set (Tr.set (Tr.set (Tr.set (Tr.set Tr.nil 13 (some u13)) 12 (some u12)) 4 (some u4)) 1 (some u1)) 0 (some u0)) H n []) = (S84_5 cal k m1 (R84_3 cal k m1) m1) := by funext u0 u1 u4 u12 u13 H n; exact q84_5 ..
  rw [e5]
theorem q84_4 (cal : Cal) (k m1 : Nat) : ∀ (m : Nat) (u0 u1 u4 u12 u13 : Value) (H : Hp) (n : Nat), labK (E84_4 cal k m1 m) (Tr.set (Tr.set (Tr.set (Tr.set (Tr.set Tr.nil 13 (some u13)) 12 (some u12)) 4 (some u4)) 1 (some u1)) 0 (some u0)) H n [] = S84_4 cal k m1 (R84_3 cal k m1) m u0 u1 u4 u12 u13 H n
  | 0, u0, u1, u4, u12, u13, H, n => by
    rw [h84_4]
    have e : R84_4 cal k m1 0 = fun _ _ _ _ _ _ _ => none := by funext u0 u1 u4 u12 u13 H n; kernel_rfl
    rw [e]; rfl
  | m + 1, u0, u1, u4, u12, u13, H, n => by
    rw [h84_4]
    have e : R84_4 cal k m1 (m + 1) = S84_4 cal k m1 (R84_3 cal k m1) m := by
      funext u0 u1 u4 u12 u13 H n
      have e : R84_4 cal k m1 (m + 1) u0 u1 u4 u12 u13 H n = labK (E84_4 cal k m1 m) (Tr.set (Tr.set (Tr.set (Tr.set (Tr.set Tr.nil 13 (some u13)) 12 (some u12)) 4 (some u4)) 1 (some u1)) 0 (some u0)) H n [] := by kernel_rfl
      rw [e]; exact q84_4 ..
    rw [e]; rfl
noncomputable def B84_3 (cal : Cal) (k m1 : Nat) (j4 : Value → Value → Value → Value → Value → Hp → Nat → Res) (b3 : Value → Value → Value → Value → Value → Hp → Nat → Res) (u0 u1 u4 u12 u13 : Value) (H : Hp) (n : Nat) : Res :=
j4 u0 u1 u4 u12 u13 H n
noncomputable def C84_3 (cal : Cal) (k m1 : Nat) (b3 : Value → Value → Value → Value → Value → Hp → Nat → Res) (u0 u1 u4 u12 u13 : Value) (H : Hp) (n : Nat) : Res := B84_3 cal k m1 (S84_4 cal k m1 b3 m1) b3 u0 u1 u4 u12 u13 H n
noncomputable def S84_3 (cal : Cal) (k : Nat) : Nat → Value → Value → Value → Value → Value → Hp → Nat → Res := fun m => Nat.rec (motive := fun _ => Value → Value → Value → Value → Value → Hp → Nat → Res) (C84_3 cal k 0 (fun _ _ _ _ _ _ _ => none)) (fun m ih => C84_3 cal k (m + 1) ih) m
theorem h84_3 (cal : Cal) (k m1 : Nat) (u0 u1 u4 u12 u13 : Value) (H : Hp) (n : Nat) : labK (E84_3 cal k m1) (Tr.set (Tr.set (Tr.set (Tr.set (Tr.set Tr.nil 13 (some u13)) 12 (some u12)) 4 (some u4)) 1 (some u1)) 0 (some u0)) H n [] = C84_3 cal k m1 (R84_3 cal k m1) u0 u1 u4 u12 u13 H n := by
  have h : labK (E84_3 cal k m1) (Tr.set (Tr.set (Tr.set (Tr.set (Tr.set Tr.nil 13 (some u13)) 12 (some u12)) 4 (some u4)) 1 (some u1)) 0 (some u0)) H n [] = B84_3 cal k m1 (fun u0 u1 u4 u12 u13 H n => labK (E84_4 cal k m1 m1) (Tr.set (Tr.set (Tr.set (Tr.set (Tr.set Tr.nil 13 (some u13)) 12 (some u12)) 4 (some u4)) 1 (some u1)) 0 (some u0)) H n []) (R84_3 cal k m1) u0 u1 u4 u12 u13 H n := by kernel_rfl
  rw [h, C84_3]
  have e4 : (fun u0 u1 u4 u12 u13 H n => labK (E84_4 cal k m1 m1) (Tr.set (Tr.set (Tr.set (Tr.set (Tr.set Tr.nil 13 (some u13)) 12 (some u12)) 4 (some u4)) 1 (some u1)) 0 (some u0)) H n []) = (S84_4 cal k m1 (R84_3 cal k m1) m1) := by funext u0 u1 u4 u12 u13 H n; exact q84_4 ..
  rw [e4]
theorem q84_3 (cal : Cal) (k : Nat) : ∀ (m : Nat) (u0 u1 u4 u12 u13 : Value) (H : Hp) (n : Nat), labK (E84_3 cal k m) (Tr.set (Tr.set (Tr.set (Tr.set (Tr.set Tr.nil 13 (some u13)) 12 (some u12)) 4 (some u4)) 1 (some u1)) 0 (some u0)) H n [] = S84_3 cal k m u0 u1 u4 u12 u13 H n
  | 0, u0, u1, u4, u12, u13, H, n => by
    rw [h84_3]
    have e : R84_3 cal k 0 = fun _ _ _ _ _ _ _ => none := by funext u0 u1 u4 u12 u13 H n; kernel_rfl
    rw [e]; rfl
  | m + 1, u0, u1, u4, u12, u13, H, n => by
    rw [h84_3]
    have e : R84_3 cal k (m + 1) = S84_3 cal k m := by
      funext u0 u1 u4 u12 u13 H n
      have e : R84_3 cal k (m + 1) u0 u1 u4 u12 u13 H n = labK (E84_3 cal k m) (Tr.set (Tr.set (Tr.set (Tr.set (Tr.set Tr.nil 13 (some u13)) 12 (some u12)) 4 (some u4)) 1 (some u1)) 0 (some u0)) H n [] := by kernel_rfl
      rw [e]; exact q84_3 ..
    rw [e]; rfl
noncomputable def B84_2 (cal : Cal) (k m1 : Nat) (j3 : Value → Value → Value → Value → Value → Hp → Nat → Res) (b2 : Value → Value → Value → Value → Value → Hp → Nat → Res) (u0 u1 u4 u12 u13 : Value) (H : Hp) (n : Nat) : Res :=
binK P Go.BinOp.leq 3 (Go.Operand.tmp 50) (Go.Operand.tmp 51) u12 u13 fun v52_109 =>
guardD v52_109 true (fun k_111 =>
k_111 u4 .p H n) .p H n fun v_112 x_113 H_114 n_115 =>
guardD v52_109 true (fun k_117 =>
k_117 u0 .p H_114 n_115) .p H_114 n_115 fun v_118 x_119 H_120 n_121 =>
guardD v52_109 true (fun k_123 =>
k_123 u13 .p H_120 n_121) .p H_120 n_121 fun v_124 x_125 H_126 n_127 =>
guardD v52_109 true (fun k_129 =>
bindO (indexAddrV P 54 v_118 v_124) fun v57_134 =>
k_129 v57_134 .p H_126 n_127) .p H_126 n_127 fun v_130 x_131 H_132 n_133 =>
guardD v52_109 true (fun k_135 =>
bindO (addrV v_130) fun a_140 => bindO (loadV P H_132 50 a_140) fun v_141 =>
k_135 v_141 (.l 50 a_140) H_132 n_133) .p H_132 n_133 fun v_136 x_137 H_138 n_139 =>
guardD v52_109 true (fun k_142 =>
k_142 u0 .p H_138 n_139) .p H_138 n_139 fun v_143 x_144 H_145 n_146 =>
guardD v52_109 true (fun k_148 =>
k_148 u1 .p H_145 n_146) .p H_145 n_146 fun v_149 x_150 H_151 n_152 =>
guardD v52_109 true (fun k_154 =>
bindO (indexAddrV P 54 v_143 v_149) fun v61_159 =>
k_154 v61_159 .p H_151 n_152) .p H_151 n_152 fun v_155 x_156 H_157 n_158 =>
guardD v52_109 true (fun k_160 =>
bindO (addrV v_155) fun a_165 => bindO (loadV P H_157 50 a_165) fun v_166 =>
k_160 v_166 (.l 50 a_165) H_157 n_158) .p H_157 n_158 fun v_161 x_162 H_163 n_164 =>
guardD v52_109 true (fun k_167 =>
callVK P cal v_112 [v_136, v_161] H_163 n_164 fun v63_172 H_173 n_174 =>
k_167 v63_172 .e H_173 n_174) .e H_163 n_164 fun v_168 x_169 H_170 n_171 =>
guardD v52_109 true (fun k_175 =>
binK P Go.BinOp.lss 3 (Go.Operand.tmp 63) (Go.Operand.const (Go.Value.int Go.IntKind.i64 0)) v_168 (Go.Value.int Go.IntKind.i64 0) fun v64_180 =>
k_175 v64_180 .p H_170 n_171) .p H_170 n_171 fun v_176 x_177 H_178 n_179 =>
guardD v52_109 true (fun k_181 =>
bindO (pureSem P v_176 (Op.unary Go.UnOp.not v_176)) fun v65_186 =>
k_181 v65_186 .p H_178 n_179) .p H_178 n_179 fun v_182 x_183 H_184 n_185 =>
bindO (pickV v52_109 v_182 (Go.Value.bool false)) fun v66_187 =>
ifK v66_187 (
binK P Go.BinOp.sub 3 (Go.Operand.tmp 67) (Go.Operand.const (Go.Value.int Go.IntKind.i64 1)) u13 (Go.Value.int Go.IntKind.i64 1) fun v68_189 =>
b2 u0 u1 u4 u12 v68_189 H_184 n_185) (
binK P Go.BinOp.gtr 3 (Go.Operand.tmp 69) (Go.Operand.tmp 70) u12 u13 fun v71_193 =>
ifK v71_193 (
bindO (indexAddrV P 54 u0 u1) fun v78_200 =>
bindO (addrV v78_200) fun a_201 => bindO (loadV P H_184 50 a_201) fun v_202 =>
bindO (indexAddrV P 54 u0 u13) fun v82_205 =>
bindO (addrV v82_205) fun a_206 => bindO (loadV P H_184 50 a_206) fun v_207 =>
bindO (indexAddrV P 54 u0 u13) fun v84_208 =>
bindO (storeP P 50 v84_208 v_202 H_184) fun H_210 =>
bindO (indexAddrV P 54 u0 u1) fun v85_211 =>
bindO (storeP P 50 v85_211 v_207 H_210) fun H_213 =>
some ((Value.tuple ⟨[u13, (Go.Value.bool true)]⟩), H_213, n_185)) (
bindO (indexAddrV P 54 u0 u13) fun v93_223 =>
bindO (addrV v93_223) fun a_224 => bindO (loadV P H_184 50 a_224) fun v_225 =>
bindO (indexAddrV P 54 u0 u12) fun v97_228 =>
bindO (addrV v97_228) fun a_229 => bindO (loadV P H_184 50 a_229) fun v_230 =>
bindO (indexAddrV P 54 u0 u12) fun v99_231 =>
bindO (storeP P 50 v99_231 v_225 H_184) fun H_233 =>
bindO (indexAddrV P 54 u0 u13) fun v100_234 =>
bindO (storeP P 50 v100_234 v_230 H_233) fun H_236 =>
binK P Go.BinOp.add 3 (Go.Operand.tmp 101) (Go.Operand.const (Go.Value.int Go.IntKind.i64 1)) u12 (Go.Value.int Go.IntKind.i64 1) fun v102_238 =>
binK P Go.BinOp.sub 3 (Go.Operand.tmp 103) (Go.Operand.const (Go.Value.int Go.IntKind.i64 1)) u13 (Go.Value.int Go.IntKind.i64 1) fun v104_241 =>
j3 u0 u1 u4 v102_238 v104_241 H_236 n_185))
noncomputable def C84_2 (cal : Cal) (k m1 : Nat) (b2 : Value → Value → Value → Value → Value → Hp → Nat → Res) (u0 u1 u4 u12 u13 : Value) (H : Hp) (n : Nat) : Res := B84_2 cal k m1 (S84_3 cal k k) b2 u0 u1 u4 u12 u13 H n
noncomputable def S84_2 (cal : Cal) (k : Nat) : Nat → Value → Value → Value → Value → Value → Hp → Nat → Res := fun m => Nat.rec (motive := fun _ => Value → Value → Value → Value → Value → Hp → Nat → Res) (C84_2 cal k 0 (fun _ _ _ _ _ _ _ => none)) (fun m ih => C84_2 cal k (m + 1) ih) m
theorem h84_2 (cal : Cal) (k m1 : Nat) (u0 u1 u4 u12 u13 : Value) (H : Hp) (n : Nat) : labK (E84_2 cal k m1) (Tr.set (Tr.set (Tr.set (Tr.set (Tr.set Tr.nil 13 (some u13)) 12 (some u12)) 4 (some u4)) 1 (some u1)) 0 (some u0)) H n [] = C84_2 cal k m1 (R84_2 cal k m1) u0 u1 u4 u12 u13 H n := by
  have h : labK (E84_2 cal k m1) (Tr.set (Tr.set (Tr.set (Tr.set (Tr.set Tr.nil 13 (some u13)) 12 (some u12)) 4 (some u4)) 1 (some u1)) 0 (some u0)) H n [] = B84_2 cal k m1 (fun u0 u1 u4 u12 u13 H n => labK (E84_3 cal k k) (Tr.set (Tr.set (Tr.set (Tr.set (Tr.set Tr.nil 13 (some u13)) 12 (some u12)) 4 (some u4)) 1 (some u1)) 0 (some u0)) H n []) (R84_2 cal k m1) u0 u1 u4 u12 u13 H n := by kernel_rfl
  rw [h, C84_2]
  have e3 : (fun u0 u1 u4 u12 u13 H n => labK (E84_3 cal k k) (Tr.set (Tr.set (Tr.set (Tr.set (Tr.set Tr.nil 13 (some u13)) 12 (some u12)) 4 (some u4)) 1 (some u1)) 0 (some u0)) H n []) = (S84_3 cal k k) := by funext u0 u1 u4 u12 u13 H n; exact q84_3 ..
  rw [e3]
theorem q84_2 (cal : Cal) (k : Nat) : ∀ (m : Nat) (u0 u1 u4 u12 u13 : Value) (H : Hp) (n : Nat), labK (E84_2 cal k m) (Tr.set (Tr.set (Tr.set (Tr.set (Tr.set Tr.nil 13 (some u13)) 12 (some u12)) 4 (some u4)) 1 (some u1)) 0 (some u0)) H n [] = S84_2 cal k m u0 u1 u4 u12 u13 H n
  | 0, u0, u1, u4, u12, u13, H, n => by
    rw [h84_2]
    have e : R84_2 cal k 0 = fun _ _ _ _ _ _ _ => none := by funext u0 u1 u4 u12 u13 H n; kernel_rfl
    rw [e]; rfl
  | m + 1, u0, u1, u4, u12, u13, H, n => by
    rw [h84_2]
    have e : R84_2 cal k (m + 1) = S84_2 cal k m := by
      funext u0 u1 u4 u12 u13 H n
      have e : R84_2 cal k (m + 1) u0 u1 u4 u12 u13 H n = labK (E84_2 cal k m) (Tr.set (Tr.set (Tr.set (Tr.set (Tr.set Tr.nil 13 (some u13)) 12 (some u12)) 4 (some u4)) 1 (some u1)) 0 (some u0)) H n [] := by kernel_rfl
      rw [e]; exact q84_2 ..
    rw [e]; rfl
noncomputable def B84_1 (cal : Cal) (k m1 : Nat) (j2 : Value → Value → Value → Value → Value → Hp → Nat → Res) (b1 : Value → Value → Value → Value → Value → Hp → Nat → Res) (u0 u1 u4 u12 u13 : Value) (H : Hp) (n : Nat) : Res :=
binK P Go.BinOp.leq 3 (Go.Operand.tmp 32) (Go.Operand.tmp 33) u12 u13 fun v34_31 =>
guardD v34_31 true (fun k_33 =>
k_33 u4 .p H n) .p H n fun v_34 x_35 H_36 n_37 =>
guardD v34_31 true (fun k_39 =>
k_39 u0 .p H_36 n_37) .p H_36 n_37 fun v_40 x_41 H_42 n_43 =>
guardD v34_31 true (fun k_45 =>
k_45 u12 .p H_42 n_43) .p H_42 n_43 fun v_46 x_47 H_48 n_49 =>
guardD v34_31 true (fun k_51 =>
bindO (indexAddrV P 54 v_40 v_46) fun v39_56 =>
k_51 v39_56 .p H_48 n_49) .p H_48 n_49 fun v_52 x_53 H_54 n_55 =>
guardD v34_31 true (fun k_57 =>
bindO (addrV v_52) fun a_62 => bindO (loadV P H_54 50 a_62) fun v_63 =>
k_57 v_63 (.l 50 a_62) H_54 n_55) .p H_54 n_55 fun v_58 x_59 H_60 n_61 =>
guardD v34_31 true (fun k_64 =>
k_64 u0 .p H_60 n_61) .p H_60 n_61 fun v_65 x_66 H_67 n_68 =>
guardD v34_31 true (fun k_70 =>
k_70 u1 .p H_67 n_68) .p H_67 n_68 fun v_71 x_72 H_73 n_74 =>
guardD v34_31 true (fun k_76 =>
bindO (indexAddrV P 54 v_65 v_71) fun v43_81 =>
k_76 v43_81 .p H_73 n_74) .p H_73 n_74 fun v_77 x_78 H_79 n_80 =>
guardD v34_31 true (fun k_82 =>
bindO (addrV v_77) fun a_87 => bindO (loadV P H_79 50 a_87) fun v_88 =>
k_82 v_88 (.l 50 a_87) H_79 n_80) .p H_79 n_80 fun v_83 x_84 H_85 n_86 =>
guardD v34_31 true (fun k_89 =>
callVK P cal v_34 [v_58, v_83] H_85 n_86 fun v45_94 H_95 n_96 =>
k_89 v45_94 .e H_95 n_96) .e H_85 n_86 fun v_90 x_91 H_92 n_93 =>
guardD v34_31 true (fun k_97 =>
binK P Go.BinOp.lss 3 (Go.Operand.tmp 45) (Go.Operand.const (Go.Value.int Go.IntKind.i64 0)) v_90 (Go.Value.int Go.IntKind.i64 0) fun v46_102 =>
k_97 v46_102 .p H_92 n_93) .p H_92 n_93 fun v_98 x_99 H_100 n_101 =>
bindO (pickV v34_31 v_98 (Go.Value.bool false)) fun v47_103 =>
ifK v47_103 (
binK P Go.BinOp.add 3 (Go.Operand.tmp 48) (Go.Operand.const (Go.Value.int Go.IntKind.i64 1)) u12 (Go.Value.int Go.IntKind.i64 1) fun v49_105 =>
b1 u0 u1 u4 v49_105 u13 H_100 n_101) (
j2 u0 u1 u4 u12 u13 H_100 n_101)
noncomputable def C84_1 (cal : Cal) (k m1 : Nat) (b1 : Value → Value → Value → Value → Value → Hp → Nat → Res) (u0 u1 u4 u12 u13 : Value) (H : Hp) (n : Nat) : Res := B84_1 cal k m1 (S84_2 cal k k) b1 u0 u1 u4 u12 u13 H n
noncomputable def S84_1 (cal : Cal) (k : Nat) : Nat → Value → Value → Value → Value → Value → Hp → Nat → Res := fun m => Nat.rec (motive := fun _ => Value → Value → Value → Value → Value → Hp → Nat → Res) (C84_1 cal k 0 (fun _ _ _ _ _ _ _ => none)) (fun m ih => C84_1 cal k (m + 1) ih) m
theorem h84_1 (cal : Cal) (k m1 : Nat) (u0 u1 u4 u12 u13 : Value) (H : Hp) (n : Nat) : labK (E84_1 cal k m1) (Tr.set (Tr.set (Tr.set (Tr.set (Tr.set Tr.nil 13 (some u13)) 12 (some u12)) 4 (some u4)) 1 (some u1)) 0 (some u0)) H n [] = C84_1 cal k m1 (R84_1 cal k m1) u0 u1 u4 u12 u13 H n := by
  have h : labK (E84_1 cal k m1) (Tr.set (Tr.set (Tr.set (Tr.set (Tr.set Tr.nil 13 (some u13)) 12 (some u12)) 4 (some u4)) 1 (some u1)) 0 (some u0)) H n [] = B84_1 cal k m1 (fun u0 u1 u4 u12 u13 H n => labK (E84_2 cal k k) (Tr.set (Tr.set (Tr.set (Tr.set (Tr.set Tr.nil 13 (some u13)) 12 (some u12)) 4 (some u4)) 1 (some u1)) 0 (some u0)) H n []) (R84_1 cal k m1) u0 u1 u4 u12 u13 H n := by kernel_rfl
  rw [h, C84_1]
  have e2 : (fun u0 u1 u4 u12 u13 H n => labK (E84_2 cal k k) (Tr.set (Tr.set (Tr.set (Tr.set (Tr.set Tr.nil 13 (some u13)) 12 (some u12)) 4 (some u4)) 1 (some u1)) 0 (some u0)) H n []) = (S84_2 cal k k) := by funext u0 u1 u4 u12 u13 H n; exact q84_2 ..
  rw [e2]
theorem q84_1 (cal : Cal) (k : Nat) : ∀ (m : Nat) (u0 u1 u4 u12 u13 : Value) (H : Hp) (n : Nat), labK (E84_1 cal k m) (Tr.set (Tr.set (Tr.set (Tr.set (Tr.set Tr.nil 13 (some u13)) 12 (some u12)) 4 (some u4)) 1 (some u1)) 0 (some u0)) H n [] = S84_1 cal k m u0 u1 u4 u12 u13 H n
  | 0, u0, u1, u4, u12, u13, H, n => by
    rw [h84_1]
    have e : R84_1 cal k 0 = fun _ _ _ _ _ _ _ => none := by funext u0 u1 u4 u12 u13 H n; kernel_rfl
    rw [e]; rfl
  | m + 1, u0, u1, u4, u12, u13, H, n => by
    rw [h84_1]
    have e : R84_1 cal k (m + 1) = S84_1 cal k m := by
      funext u0 u1 u4 u12 u13 H n
      have e : R84_1 cal k (m + 1) u0 u1 u4 u12 u13 H n = labK (E84_1 cal k m) (Tr.set (Tr.set (Tr.set (Tr.set (Tr.set Tr.nil 13 (some u13)) 12 (some u12)) 4 (some u4)) 1 (some u1)) 0 (some u0)) H n [] := by kernel_rfl
      rw [e]; exact q84_1 ..
    rw [e]; rfl
noncomputable def B84_0 (cal : Cal) (k : Nat) (j1 : Value → Value → Value → Value → Value → Hp → Nat → Res) (v0 v1 v2 v3 v4 : Value) (H : Hp) (n : Nat) : Res :=
bindO (indexAddrV P 54 v0 v3) fun v20_9 =>
bindO (addrV v20_9) fun a_10 => bindO (loadV P H 50 a_10) fun v_11 =>
bindO (indexAddrV P 54 v0 v1) fun v24_14 =>
bindO (addrV v24_14) fun a_15 => bindO (loadV P H 50 a_15) fun v_16 =>
bindO (indexAddrV P 54 v0 v1) fun v26_17 =>
bindO (storeP P 50 v26_17 v_11 H) fun H_19 =>
bindO (indexAddrV P 54 v0 v3) fun v27_20 =>
bindO (storeP P 50 v27_20 v_16 H_19) fun H_22 =>
binK P Go.BinOp.add 3 (Go.Operand.tmp 28) (Go.Operand.const (Go.Value.int Go.IntKind.i64 1)) v1 (Go.Value.int Go.IntKind.i64 1) fun v29_24 =>
binK P Go.BinOp.sub 3 (Go.Operand.tmp 30) (Go.Operand.const (Go.Value.int Go.IntKind.i64 1)) v2 (Go.Value.int Go.IntKind.i64 1) fun v31_26 =>
j1 v0 v1 v4 v29_24 v31_26 H_22 n
noncomputable def C84_0 (cal : Cal) (k : Nat) (v0 v1 v2 v3 v4 : Value) (H : Hp) (n : Nat) : Res := B84_0 cal k (S84_1 cal k k) v0 v1 v2 v3 v4 H n
theorem h84_0 (cal : Cal) (k : Nat) (v0 v1 v2 v3 v4 : Value) (H : Hp) (n : Nat) : bodyE P cal A (k + 1) 84 [v0, v1, v2, v3, v4] H n = C84_0 cal k v0 v1 v2 v3 v4 H n := by
  have h : bodyE P cal A (k + 1) 84 [v0, v1, v2, v3, v4] H n = B84_0 cal k (fun u0 u1 u4 u12 u13 H n => labK (E84_1 cal k k) (Tr.set (Tr.set (Tr.set (Tr.set (Tr.set Tr.nil 13 (some u13)) 12 (some u12)) 4 (some u4)) 1 (some u1)) 0 (some u0)) H n []) v0 v1 v2 v3 v4 H n := by
    rw [body_eq (fn := Go.Proofs.Try.f84) (c := code84) (rs := results84) (by kernel_rfl) (by kernel_rfl) (by kernel_rfl) (by kernel_rfl)]
    kernel_rfl
  rw [h, C84_0]
  have e1 : (fun u0 u1 u4 u12 u13 H n => labK (E84_1 cal k k) (Tr.set (Tr.set (Tr.set (Tr.set (Tr.set Tr.nil 13 (some u13)) 12 (some u12)) 4 (some u4)) 1 (some u1)) 0 (some u0)) H n []) = (S84_1 cal k k) := by funext u0 u1 u4 u12 u13 H n; exact q84_1 ..
  rw [e1]
noncomputable def code85 : Code := codeOf 85
noncomputable def results85 : List ResultVar := resOf 85
noncomputable def K85_p (cal : Cal) (k : Nat) : KC (Value × Hp × Nat) := (cutK (A 85).c (codeE P cal (codeF P cal k) none 85 (cR code85) (Lv.b (A 85)) (doneK P results85) X0 (doneK P results85)))
noncomputable def K85_prrr (cal : Cal) (k : Nat) : KC (Value × Hp × Nat) := (cutK (Lv.b (Lv.b (Lv.b (A 85)))).c (codeE P cal (codeF P cal k) none 85 (cR (cR (cR (cR code85)))) (Lv.b (Lv.b (Lv.b (Lv.b (A 85))))) (doneK P results85) X0 (doneK P results85)))
noncomputable def K85_prr (cal : Cal) (k : Nat) : KC (Value × Hp × Nat) := (cutK (Lv.b (Lv.b (A 85))).c (codeE P cal (codeF P cal k) none 85 (cR (cR (cR code85))) (Lv.b (Lv.b (Lv.b (A 85)))) (doneK P results85) X0 (doneK P results85)))
noncomputable def K85_prrl (cal : Cal) (k : Nat) : KC (Value × Hp × Nat) := (cutK (Lv.a (Lv.b (Lv.b (A 85)))).c (codeE P cal (codeF P cal k) none 85 (cR (cL (cR (cR code85)))) (Lv.b (Lv.a (Lv.b (Lv.b (A 85))))) (K85_prr cal k) X0 (doneK P results85)))
noncomputable def K85_prrlrl (cal : Cal) (k : Nat) : KC (Value × Hp × Nat) := (cutK (Lv.a (Lv.b (Lv.a (Lv.b (Lv.b (A 85)))))).c (codeE P cal (codeF P cal k) none 85 (cR (cL (cR (cL (cR (cR code85)))))) (Lv.b (Lv.a (Lv.b (Lv.a (Lv.b (Lv.b (A 85))))))) (K85_prr cal k) X0 (doneK P results85)))
noncomputable def K85_pr (cal : Cal) (k : Nat) : KC (Value × Hp × Nat) := (cutK (Lv.b (A 85)).c (codeE P cal (codeF P cal k) none 85 (cR (cR code85)) (Lv.b (Lv.b (A 85))) (doneK P results85) X0 (doneK P results85)))
noncomputable def K85_prl (cal : Cal) (k : Nat) : KC (Value × Hp × Nat) := (cutK (Lv.a (Lv.b (A 85))).c (codeE P cal (codeF P cal k) none 85 (cR (cL (cR code85))) (Lv.b (Lv.a (Lv.b (A 85)))) (K85_pr cal k) X0 (doneK P results85)))
noncomputable def K85_prlrl (cal : Cal) (k : Nat) : KC (Value × Hp × Nat) := (cutK (Lv.a (Lv.b (Lv.a (Lv.b (A 85))))).c (codeE P cal (codeF P cal k) none 85 (cR (cL (cR (cL (cR code85))))) (Lv.b (Lv.a (Lv.b (Lv.a (Lv.b (A 85)))))) (K85_pr cal k) X0 (doneK P results85)))
noncomputable def E85_2 (cal : Cal) (k : Nat) : KC (Value × Hp × Nat) := codeE P cal (codeF P cal k) none 85 (cR (cR (cR code85))) (Lv.b (Lv.b (Lv.b (A 85)))) (doneK P results85) X0 (doneK P results85)
noncomputable def E85_1 (cal : Cal) (k : Nat) : KC (Value × Hp × Nat) := codeE P cal (codeF P cal k) none 85 (cR (cR code85)) (Lv.b (Lv.b (A 85))) (doneK P results85) X0 (doneK P results85)
noncomputable def B85_2 (cal : Cal) (k : Nat) (u0 u2 : Value) (H : Hp) (n : Nat) : Res :=
bindO (pureSem P u0 (convert 122 5 u0)) fun v15_4 =>
bindO (indexV P 9 (Go.Value.string (ByteArray.mk #[0, 1, 2, 2, 3, 3, 3, 3, 4, 4, 4, 4, 4, 4, 4, 4, 5, 5, 5, 5, 5, 5, 5, 5, 5, 5, 5, 5, 5, 5, 5, 5, 6, 6, 6, 6, 6, 6, 6, 6, 6, 6, 6, 6, 6, 6, 6, 6, 6, 6, 6, 6, 6, 6, 6, 6, 6, 6, 6, 6, 6, 6, 6, 6, 7, 7, 7, 7, 7, 7, 7, 7, 7, 7, 7, 7, 7, 7, 7, 7, 7, 7, 7, 7, 7, 7, 7, 7, 7, 7, 7, 7, 7, 7, 7, 7, 7, 7, 7, 7, 7, 7, 7, 7, 7, 7, 7, 7, 7, 7, 7, 7, 7, 7, 7, 7, 7, 7, 7, 7, 7, 7, 7, 7, 7, 7, 7, 7, 8, 8, 8, 8, 8, 8, 8, 8, 8, 8, 8, 8, 8, 8, 8, 8, 8, 8, 8, 8, 8, 8, 8, 8, 8, 8, 8, 8, 8, 8, 8, 8, 8, 8, 8, 8, 8, 8, 8, 8, 8, 8, 8, 8, 8, 8, 8, 8, 8, 8, 8, 8, 8, 8, 8, 8, 8, 8, 8, 8, 8, 8, 8, 8, 8, 8, 8, 8, 8, 8, 8, 8, 8, 8, 8, 8, 8, 8, 8, 8, 8, 8, 8, 8, 8, 8, 8, 8, 8, 8, 8, 8, 8, 8, 8, 8, 8, 8, 8, 8, 8, 8, 8, 8, 8, 8, 8, 8, 8, 8, 8, 8, 8, 8, 8, 8, 8, 8, 8, 8, 8, 8, 8, 8, 8, 8, 8, 8])) v15_4) fun v16_5 =>
bindO (pureSem P v16_5 (convert 5 3 v16_5)) fun v17_6 =>
binK P Go.BinOp.add 3 (Go.Operand.tmp 13) (Go.Operand.tmp 17) u2 v17_6 fun v18_7 =>
some (v18_7, H, n)
noncomputable def C85_2 (cal : Cal) (k : Nat) (u0 u2 : Value) (H : Hp) (n : Nat) : Res := B85_2 cal k u0 u2 H n
theorem h85_2 (cal : Cal) (k : Nat) (u0 u2 : Value) (H : Hp) (n : Nat) : labK (E85_2 cal k) (Tr.set (Tr.set Tr.nil 2 (some u2)) 0 (some u0)) H n [] = C85_2 cal k u0 u2 H n := by
  have h : labK (E85_2 cal k) (Tr.set (Tr.set Tr.nil 2 (some u2)) 0 (some u0)) H n [] = B85_2 cal k u0 u2 H n := by kernel_rfl
  rw [h, C85_2]
theorem q85_2 (cal : Cal) (k : Nat) (u0 u2 : Value) (H : Hp) (n : Nat) : labK (E85_2 cal k) (Tr.set (Tr.set Tr.nil 2 (some u2)) 0 (some u0)) H n [] = C85_2 cal k u0 u2 H n := h85_2 ..
noncomputable def B85_1 (cal : Cal) (k : Nat) (j2 : Value → Value → Hp → Nat → Res) (u0 u2 : Value) (H : Hp) (n : Nat) : Res :=
binK P Go.BinOp.geq 122 (Go.Operand.tmp 7) (Go.Operand.const (Go.Value.int Go.IntKind.u32 256)) u0 (Go.Value.int Go.IntKind.u32 256) fun v8_10 =>
ifK v8_10 (
binK P Go.BinOp.shr 122 (Go.Operand.tmp 9) (Go.Operand.const (Go.Value.int Go.IntKind.u64 8)) u0 (Go.Value.int Go.IntKind.u64 8) fun v10_12 =>
binK P Go.BinOp.add 3 (Go.Operand.tmp 11) (Go.Operand.const (Go.Value.int Go.IntKind.i64 8)) u2 (Go.Value.int Go.IntKind.i64 8) fun v12_15 =>
j2 v10_12 v12_15 H n) (
j2 u0 u2 H n)
noncomputable def C85_1 (cal : Cal) (k : Nat) (u0 u2 : Value) (H : Hp) (n : Nat) : Res := B85_1 cal k (C85_2 cal k) u0 u2 H n
theorem h85_1 (cal : Cal) (k : Nat) (u0 u2 : Value) (H : Hp) (n : Nat) : labK (E85_1 cal k) (Tr.set (Tr.set Tr.nil 2 (some u2)) 0 (some u0)) H n [] = C85_1 cal k u0 u2 H n := by
  have h : labK (E85_1 cal k) (Tr.set (Tr.set Tr.nil 2 (some u2)) 0 (some u0)) H n [] = B85_1 cal k (fun u0 u2 H n => labK (E85_2 cal k) (Tr.set (Tr.set Tr.nil 2 (some u2)) 0 (some u0)) H n []) u0 u2 H n := by kernel_rfl
  rw [h, C85_1]
  have e2 : (fun u0 u2 H n => labK (E85_2 cal k) (Tr.set (Tr.set Tr.nil 2 (some u2)) 0 (some u0)) H n []) = (C85_2 cal k) := by funext u0 u2 H n; exact q85_2 ..
  rw [e2]
theorem q85_1 (cal : Cal) (k : Nat) (u0 u2 : Value) (H : Hp) (n : Nat) : labK (E85_1 cal k) (Tr.set (Tr.set Tr.nil 2 (some u2)) 0 (some u0)) H n [] = C85_1 cal k u0 u2 H n := h85_1 ..
noncomputable def B85_0 (cal : Cal) (k : Nat) (j1 : Value → Value → Hp → Nat → Res) (v0 : Value) (H : Hp) (n : Nat) : Res :=
binK P Go.BinOp.geq 122 (Go.Operand.tmp 3) (Go.Operand.const (Go.Value.int Go.IntKind.u32 65536)) v0 (Go.Value.int Go.IntKind.u32 65536) fun v4_18 =>
ifK v4_18 (
binK P Go.BinOp.shr 122 (Go.Operand.tmp 5) (Go.Operand.const (Go.Value.int Go.IntKind.u64 16)) v0 (Go.Value.int Go.IntKind.u64 16) fun v6_20 =>
j1 v6_20 (Go.Value.int Go.IntKind.i64 16) H n) (
j1 v0 (Go.Value.int Go.IntKind.i64 0) H n)
noncomputable def C85_0 (cal : Cal) (k : Nat) (v0 : Value) (H : Hp) (n : Nat) : Res := B85_0 cal k (C85_1 cal k) v0 H n
theorem h85_0 (cal : Cal) (k : Nat) (v0 : Value) (H : Hp) (n : Nat) : bodyE P cal A (k + 1) 85 [v0] H n = C85_0 cal k v0 H n := by
  have h : bodyE P cal A (k + 1) 85 [v0] H n = B85_0 cal k (fun u0 u2 H n => labK (E85_1 cal k) (Tr.set (Tr.set Tr.nil 2 (some u2)) 0 (some u0)) H n []) v0 H n := by
    rw [body_eq (fn := Go.Proofs.Try.f85) (c := code85) (rs := results85) (by kernel_rfl) (by kernel_rfl) (by kernel_rfl) (by kernel_rfl)]
    kernel_rfl
  rw [h, C85_0]
  have e1 : (fun u0 u2 H n => labK (E85_1 cal k) (Tr.set (Tr.set Tr.nil 2 (some u2)) 0 (some u0)) H n []) = (C85_1 cal k) := by funext u0 u2 H n; exact q85_1 ..
  rw [e1]
noncomputable def code86 : Code := codeOf 86
noncomputable def results86 : List ResultVar := resOf 86
noncomputable def K86_p (cal : Cal) (k : Nat) : KC (Value × Hp × Nat) := (cutK (A 86).c (codeE P cal (codeF P cal k) none 86 (cR code86) (Lv.b (A 86)) (doneK P results86) X0 (doneK P results86)))
noncomputable def K86_prrrr (cal : Cal) (k : Nat) : KC (Value × Hp × Nat) := (cutK (Lv.b (Lv.b (Lv.b (Lv.b (A 86))))).c (codeE P cal (codeF P cal k) none 86 (cR (cR (cR (cR (cR code86))))) (Lv.b (Lv.b (Lv.b (Lv.b (Lv.b (A 86)))))) (doneK P results86) X0 (doneK P results86)))
noncomputable def K86_prrr (cal : Cal) (k : Nat) : KC (Value × Hp × Nat) := (cutK (Lv.b (Lv.b (Lv.b (A 86)))).c (codeE P cal (codeF P cal k) none 86 (cR (cR (cR (cR code86)))) (Lv.b (Lv.b (Lv.b (Lv.b (A 86))))) (doneK P results86) X0 (doneK P results86)))
noncomputable def K86_prrrl (cal : Cal) (k : Nat) : KC (Value × Hp × Nat) := (cutK (Lv.a (Lv.b (Lv.b (Lv.b (A 86))))).c (codeE P cal (codeF P cal k) none 86 (cR (cL (cR (cR (cR code86))))) (Lv.b (Lv.a (Lv.b (Lv.b (Lv.b (A 86)))))) (K86_prrr cal k) X0 (doneK P results86)))
noncomputable def K86_prrrlrl (cal : Cal) (k : Nat) : KC (Value × Hp × Nat) := (cutK (Lv.a (Lv.b (Lv.a (Lv.b (Lv.b (Lv.b (A 86))))))).c (codeE P cal (codeF P cal k) none 86 (cR (cL (cR (cL (cR (cR (cR code86))))))) (Lv.b (Lv.a (Lv.b (Lv.a (Lv.b (Lv.b (Lv.b (A 86)))))))) (K86_prrr cal k) X0 (doneK P results86)))
noncomputable def K86_prr (cal : Cal) (k : Nat) : KC (Value × Hp × Nat) := (cutK (Lv.b (Lv.b (A 86))).c (codeE P cal (codeF P cal k) none 86 (cR (cR (cR code86))) (Lv.b (Lv.b (Lv.b (A 86)))) (doneK P results86) X0 (doneK P results86)))
noncomputable def K86_prrl (cal : Cal) (k : Nat) : KC (Value × Hp × Nat) := (cutK (Lv.a (Lv.b (Lv.b (A 86)))).c (codeE P cal (codeF P cal k) none 86 (cR (cL (cR (cR code86)))) (Lv.b (Lv.a (Lv.b (Lv.b (A 86))))) (K86_prr cal k) X0 (doneK P results86)))
noncomputable def K86_prrlrl (cal : Cal) (k : Nat) : KC (Value × Hp × Nat) := (cutK (Lv.a (Lv.b (Lv.a (Lv.b (Lv.b (A 86)))))).c (codeE P cal (codeF P cal k) none 86 (cR (cL (cR (cL (cR (cR code86)))))) (Lv.b (Lv.a (Lv.b (Lv.a (Lv.b (Lv.b (A 86))))))) (K86_prr cal k) X0 (doneK P results86)))
noncomputable def K86_pr (cal : Cal) (k : Nat) : KC (Value × Hp × Nat) := (cutK (Lv.b (A 86)).c (codeE P cal (codeF P cal k) none 86 (cR (cR code86)) (Lv.b (Lv.b (A 86))) (doneK P results86) X0 (doneK P results86)))
noncomputable def K86_prl (cal : Cal) (k : Nat) : KC (Value × Hp × Nat) := (cutK (Lv.a (Lv.b (A 86))).c (codeE P cal (codeF P cal k) none 86 (cR (cL (cR code86))) (Lv.b (Lv.a (Lv.b (A 86)))) (K86_pr cal k) X0 (doneK P results86)))
noncomputable def K86_prlrl (cal : Cal) (k : Nat) : KC (Value × Hp × Nat) := (cutK (Lv.a (Lv.b (Lv.a (Lv.b (A 86))))).c (codeE P cal (codeF P cal k) none 86 (cR (cL (cR (cL (cR code86))))) (Lv.b (Lv.a (Lv.b (Lv.a (Lv.b (A 86)))))) (K86_pr cal k) X0 (doneK P results86)))
noncomputable def E86_3 (cal : Cal) (k : Nat) : KC (Value × Hp × Nat) := codeE P cal (codeF P cal k) none 86 (cR (cR (cR (cR code86)))) (Lv.b (Lv.b (Lv.b (Lv.b (A 86))))) (doneK P results86) X0 (doneK P results86)
noncomputable def E86_2 (cal : Cal) (k : Nat) : KC (Value × Hp × Nat) := codeE P cal (codeF P cal k) none 86 (cR (cR (cR code86))) (Lv.b (Lv.b (Lv.b (A 86)))) (doneK P results86) X0 (doneK P results86)
noncomputable def E86_1 (cal : Cal) (k : Nat) : KC (Value × Hp × Nat) := codeE P cal (codeF P cal k) none 86 (cR (cR code86)) (Lv.b (Lv.b (A 86))) (doneK P results86) X0 (doneK P results86)
noncomputable def B86_3 (cal : Cal) (k : Nat) (u0 u2 : Value) (H : Hp) (n : Nat) : Res :=
bindO (pureSem P u0 (convert 124 5 u0)) fun v21_4 =>
bindO (indexV P 9 (Go.Value.string (ByteArray.mk #[0, 1, 2, 2, 3, 3, 3, 3, 4, 4, 4, 4, 4, 4, 4, 4, 5, 5, 5, 5, 5, 5, 5, 5, 5, 5, 5, 5, 5, 5, 5, 5, 6, 6, 6, 6, 6, 6, 6, 6, 6, 6, 6, 6, 6, 6, 6, 6, 6, 6, 6, 6, 6, 6, 6, 6, 6, 6, 6, 6, 6, 6, 6, 6, 7, 7, 7, 7, 7, 7, 7, 7, 7, 7, 7, 7, 7, 7, 7, 7, 7, 7, 7, 7, 7, 7, 7, 7, 7, 7, 7, 7, 7, 7, 7, 7, 7, 7, 7, 7, 7, 7, 7, 7, 7, 7, 7, 7, 7, 7, 7, 7, 7, 7, 7, 7, 7, 7, 7, 7, 7, 7, 7, 7, 7, 7, 7, 7, 8, 8, 8, 8, 8, 8, 8, 8, 8, 8, 8, 8, 8, 8, 8, 8, 8, 8, 8, 8, 8, 8, 8, 8, 8, 8, 8, 8, 8, 8, 8, 8, 8, 8, 8, 8, 8, 8, 8, 8, 8, 8, 8, 8, 8, 8, 8, 8, 8, 8, 8, 8, 8, 8, 8, 8, 8, 8, 8, 8, 8, 8, 8, 8, 8, 8, 8, 8, 8, 8, 8, 8, 8, 8, 8, 8, 8, 8, 8, 8, 8, 8, 8, 8, 8, 8, 8, 8, 8, 8, 8, 8, 8, 8, 8, 8, 8, 8, 8, 8, 8, 8, 8, 8, 8, 8, 8, 8, 8, 8, 8, 8, 8, 8, 8, 8, 8, 8, 8, 8, 8, 8, 8, 8, 8, 8, 8, 8])) v21_4) fun v22_5 =>
bindO (pureSem P v22_5 (convert 5 3 v22_5)) fun v23_6 =>
binK P Go.BinOp.add 3 (Go.Operand.tmp 19) (Go.Operand.tmp 23) u2 v23_6 fun v24_7 =>
some (v24_7, H, n)
noncomputable def C86_3 (cal : Cal) (k : Nat) (u0 u2 : Value) (H : Hp) (n : Nat) : Res := B86_3 cal k u0 u2 H n
theorem h86_3 (cal : Cal) (k : Nat) (u0 u2 : Value) (H : Hp) (n : Nat) : labK (E86_3 cal k) (Tr.set (Tr.set Tr.nil 2 (some u2)) 0 (some u0)) H n [] = C86_3 cal k u0 u2 H n := by
  have h : labK (E86_3 cal k) (Tr.set (Tr.set Tr.nil 2 (some u2)) 0 (some u0)) H n [] = B86_3 cal k u0 u2 H n := by kernel_rfl
  rw [h, C86_3]
theorem q86_3 (cal : Cal) (k : Nat) (u0 u2 : Value) (H : Hp) (n : Nat) : labK (E86_3 cal k) (Tr.set (Tr.set Tr.nil 2 (some u2)) 0 (some u0)) H n [] = C86_3 cal k u0 u2 H n := h86_3 ..
noncomputable def B86_2 (cal : Cal) (k : Nat) (j3 : Value → Value → Hp → Nat → Res) (u0 u2 : Value) (H : Hp) (n : Nat) : Res :=
binK P Go.BinOp.geq 124 (Go.Operand.tmp 13) (Go.Operand.const (Go.Value.int Go.IntKind.u64 256)) u0 (Go.Value.int Go.IntKind.u64 256) fun v14_10 =>
ifK v14_10 (
binK P Go.BinOp.shr 124 (Go.Operand.tmp 15) (Go.Operand.const (Go.Value.int Go.IntKind.u64 8)) u0 (Go.Value.int Go.IntKind.u64 8) fun v16_12 =>
binK P Go.BinOp.add 3 (Go.Operand.tmp 17) (Go.Operand.const (Go.Value.int Go.IntKind.i64 8)) u2 (Go.Value.int Go.IntKind.i64 8) fun v18_15 =>
j3 v16_12 v18_15 H n) (
j3 u0 u2 H n)
noncomputable def C86_2 (cal : Cal) (k : Nat) (u0 u2 : Value) (H : Hp) (n : Nat) : Res := B86_2 cal k (C86_3 cal k) u0 u2 H n
theorem h86_2 (cal : Cal) (k : Nat) (u0 u2 : Value) (H : Hp) (n : Nat) : labK (E86_2 cal k) (Tr.set (Tr.set Tr.nil 2 (some u2)) 0 (some u0)) H n [] = C86_2 cal k u0 u2 H n := by
  have h : labK (E86_2 cal k) (Tr.set (Tr.set Tr.nil 2 (some u2)) 0 (some u0)) H n [] = B86_2 cal k (fun u0 u2 H n => labK (E86_3 cal k) (Tr.set (Tr.set Tr.nil 2 (some u2)) 0 (some u0)) H n []) u0 u2 H n := by kernel_rfl
  rw [h, C86_2]
  have e3 : (fun u0 u2 H n => labK (E86_3 cal k) (Tr.set (Tr.set Tr.nil 2 (some u2)) 0 (some u0)) H n []) = (C86_3 cal k) := by funext u0 u2 H n; exact q86_3 ..
  rw [e3]
theorem q86_2 (cal : Cal) (k : Nat) (u0 u2 : Value) (H : Hp) (n : Nat) : labK (E86_2 cal k) (Tr.set (Tr.set Tr.nil 2 (some u2)) 0 (some u0)) H n [] = C86_2 cal k u0 u2 H n := h86_2 ..
noncomputable def B86_1 (cal : Cal) (k : Nat) (j2 : Value → Value → Hp → Nat → Res) (u0 u2 : Value) (H : Hp) (n : Nat) : Res :=
binK P Go.BinOp.geq 124 (Go.Operand.tmp 7) (Go.Operand.const (Go.Value.int Go.IntKind.u64 65536)) u0 (Go.Value.int Go.IntKind.u64 65536) fun v8_18 =>
ifK v8_18 (
binK P Go.BinOp.shr 124 (Go.Operand.tmp 9) (Go.Operand.const (Go.Value.int Go.IntKind.u64 16)) u0 (Go.Value.int Go.IntKind.u64 16) fun v10_20 =>
binK P Go.BinOp.add 3 (Go.Operand.tmp 11) (Go.Operand.const (Go.Value.int Go.IntKind.i64 16)) u2 (Go.Value.int Go.IntKind.i64 16) fun v12_23 =>
j2 v10_20 v12_23 H n) (
j2 u0 u2 H n)
noncomputable def C86_1 (cal : Cal) (k : Nat) (u0 u2 : Value) (H : Hp) (n : Nat) : Res := B86_1 cal k (C86_2 cal k) u0 u2 H n
theorem h86_1 (cal : Cal) (k : Nat) (u0 u2 : Value) (H : Hp) (n : Nat) : labK (E86_1 cal k) (Tr.set (Tr.set Tr.nil 2 (some u2)) 0 (some u0)) H n [] = C86_1 cal k u0 u2 H n := by
  have h : labK (E86_1 cal k) (Tr.set (Tr.set Tr.nil 2 (some u2)) 0 (some u0)) H n [] = B86_1 cal k (fun u0 u2 H n => labK (E86_2 cal k) (Tr.set (Tr.set Tr.nil 2 (some u2)) 0 (some u0)) H n []) u0 u2 H n := by kernel_rfl
  rw [h, C86_1]
  have e2 : (fun u0 u2 H n => labK (E86_2 cal k) (Tr.set (Tr.set Tr.nil 2 (some u2)) 0 (some u0)) H n []) = (C86_2 cal k) := by funext u0 u2 H n; exact q86_2 ..
  rw [e2]
theorem q86_1 (cal : Cal) (k : Nat) (u0 u2 : Value) (H : Hp) (n : Nat) : labK (E86_1 cal k) (Tr.set (Tr.set Tr.nil 2 (some u2)) 0 (some u0)) H n [] = C86_1 cal k u0 u2 H n := h86_1 ..
noncomputable def B86_0 (cal : Cal) (k : Nat) (j1 : Value → Value → Hp → Nat → Res) (v0 : Value) (H : Hp) (n : Nat) : Res :=
binK P Go.BinOp.geq 124 (Go.Operand.tmp 3) (Go.Operand.const (Go.Value.int Go.IntKind.u64 4294967296)) v0 (Go.Value.int Go.IntKind.u64 4294967296) fun v4_26 =>
ifK v4_26 (
binK P Go.BinOp.shr 124 (Go.Operand.tmp 5) (Go.Operand.const (Go.Value.int Go.IntKind.u64 32)) v0 (Go.Value.int Go.IntKind.u64 32) fun v6_28 =>
j1 v6_28 (Go.Value.int Go.IntKind.i64 32) H n) (
j1 v0 (Go.Value.int Go.IntKind.i64 0) H n)
noncomputable def C86_0 (cal : Cal) (k : Nat) (v0 : Value) (H : Hp) (n : Nat) : Res := B86_0 cal k (C86_1 cal k) v0 H n
theorem h86_0 (cal : Cal) (k : Nat) (v0 : Value) (H : Hp) (n : Nat) : bodyE P cal A (k + 1) 86 [v0] H n = C86_0 cal k v0 H n := by
  have h : bodyE P cal A (k + 1) 86 [v0] H n = B86_0 cal k (fun u0 u2 H n => labK (E86_1 cal k) (Tr.set (Tr.set Tr.nil 2 (some u2)) 0 (some u0)) H n []) v0 H n := by
    rw [body_eq (fn := Go.Proofs.Try.f86) (c := code86) (rs := results86) (by kernel_rfl) (by kernel_rfl) (by kernel_rfl) (by kernel_rfl)]
    kernel_rfl
  rw [h, C86_0]
  have e1 : (fun u0 u2 H n => labK (E86_1 cal k) (Tr.set (Tr.set Tr.nil 2 (some u2)) 0 (some u0)) H n []) = (C86_1 cal k) := by funext u0 u2 H n; exact q86_1 ..
  rw [e1]
noncomputable def code87 : Code := codeOf 87
noncomputable def results87 : List ResultVar := resOf 87
noncomputable def K87_p (cal : Cal) (k : Nat) : KC (Value × Hp × Nat) := (cutK (A 87).c (codeE P cal (codeF P cal k) none 87 (cR code87) (Lv.b (A 87)) (doneK P results87) X0 (doneK P results87)))
noncomputable def K87_pr (cal : Cal) (k : Nat) : KC (Value × Hp × Nat) := (cutK (Lv.b (A 87)).c (codeE P cal (codeF P cal k) none 87 (cR (cR code87)) (Lv.b (Lv.b (A 87))) (doneK P results87) X0 (doneK P results87)))
noncomputable def K87_prr (cal : Cal) (k : Nat) : KC (Value × Hp × Nat) := (cutK (Lv.b (Lv.b (A 87))).c (codeE P cal (codeF P cal k) none 87 (cR (cR (cR code87))) (Lv.b (Lv.b (Lv.b (A 87)))) (doneK P results87) X0 (doneK P results87)))
noncomputable def K87_prrr (cal : Cal) (k : Nat) : KC (Value × Hp × Nat) := (cutK (Lv.b (Lv.b (Lv.b (A 87)))).c (codeE P cal (codeF P cal k) none 87 (cR (cR (cR (cR code87)))) (Lv.b (Lv.b (Lv.b (Lv.b (A 87))))) (doneK P results87) X0 (doneK P results87)))
noncomputable def K87_prrrl (cal : Cal) (k : Nat) : KC (Value × Hp × Nat) := (cutK (Lv.a (Lv.b (Lv.b (Lv.b (A 87))))).c (codeE P cal (codeF P cal k) none 87 (cR (cL (cR (cR (cR code87))))) (Lv.b (Lv.a (Lv.b (Lv.b (Lv.b (A 87)))))) (K87_prrr cal k) X0 (doneK P results87)))
noncomputable def K87_prrrlrl (cal : Cal) (k : Nat) : KC (Value × Hp × Nat) := (cutK (Lv.a (Lv.b (Lv.a (Lv.b (Lv.b (Lv.b (A 87))))))).c (codeE P cal (codeF P cal k) none 87 (cR (cL (cR (cL (cR (cR (cR code87))))))) (Lv.b (Lv.a (Lv.b (Lv.a (Lv.b (Lv.b (Lv.b (A 87)))))))) (K87_prrr cal k) X0 (doneK P results87)))
noncomputable def K87_prrrlrll (cal : Cal) (k : Nat) : KC (Value × Hp × Nat) := (cutK (Lv.a (Lv.a (Lv.b (Lv.a (Lv.b (Lv.b (Lv.b (A 87)))))))).c (codeE P cal (codeF P cal k) none 87 (cR (cL (cL (cR (cL (cR (cR (cR code87)))))))) (Lv.b (Lv.a (Lv.a (Lv.b (Lv.a (Lv.b (Lv.b (Lv.b (A 87))))))))) (K87_prrrlrl cal k) X0 (doneK P results87)))
noncomputable def K87_prrrlrllrl (cal : Cal) (k : Nat) : KC (Value × Hp × Nat) := (cutK (Lv.a (Lv.b (Lv.a (Lv.a (Lv.b (Lv.a (Lv.b (Lv.b (Lv.b (A 87)))))))))).c (codeE P cal (codeF P cal k) none 87 (cR (cL (cR (cL (cL (cR (cL (cR (cR (cR code87)))))))))) (Lv.b (Lv.a (Lv.b (Lv.a (Lv.a (Lv.b (Lv.a (Lv.b (Lv.b (Lv.b (A 87))))))))))) (K87_prrrlrl cal k) X0 (doneK P results87)))
noncomputable def K87_prrrlrlr (cal : Cal) (k : Nat) : KC (Value × Hp × Nat) := (cutK (Lv.b (Lv.a (Lv.b (Lv.a (Lv.b (Lv.b (Lv.b (A 87)))))))).c (codeE P cal (codeF P cal k) none 87 (cR (cR (cL (cR (cL (cR (cR (cR code87)))))))) (Lv.b (Lv.b (Lv.a (Lv.b (Lv.a (Lv.b (Lv.b (Lv.b (A 87))))))))) (K87_prrr cal k) X0 (doneK P results87)))
noncomputable def K87_prrrr (cal : Cal) (k : Nat) : KC (Value × Hp × Nat) := (cutK (Lv.b (Lv.b (Lv.b (Lv.b (A 87))))).c (codeE P cal (codeF P cal k) none 87 (cR (cR (cR (cR (cR code87))))) (Lv.b (Lv.b (Lv.b (Lv.b (Lv.b (A 87)))))) (doneK P results87) X0 (doneK P results87)))
noncomputable def K87_prrrrl (cal : Cal) (k : Nat) : KC (Value × Hp × Nat) := (cutK (Lv.a (Lv.b (Lv.b (Lv.b (Lv.b (A 87)))))).c (codeE P cal (codeF P cal k) none 87 (cR (cL (cR (cR (cR (cR code87)))))) (Lv.b (Lv.a (Lv.b (Lv.b (Lv.b (Lv.b (A 87))))))) (K87_prrrr cal k) X0 (doneK P results87)))
noncomputable def K87_prrrrlrl (cal : Cal) (k : Nat) : KC (Value × Hp × Nat) := (cutK (Lv.a (Lv.b (Lv.a (Lv.b (Lv.b (Lv.b (Lv.b (A 87)))))))).c (codeE P cal (codeF P cal k) none 87 (cR (cL (cR (cL (cR (cR (cR (cR code87)))))))) (Lv.b (Lv.a (Lv.b (Lv.a (Lv.b (Lv.b (Lv.b (Lv.b (A 87))))))))) (K87_prrrr cal k) X0 (doneK P results87)))
noncomputable def K87_prrrrr (cal : Cal) (k : Nat) : KC (Value × Hp × Nat) := (cutK (Lv.b (Lv.b (Lv.b (Lv.b (Lv.b (A 87)))))).c (codeE P cal (codeF P cal k) none 87 (cR (cR (cR (cR (cR (cR code87)))))) (Lv.b (Lv.b (Lv.b (Lv.b (Lv.b (Lv.b (A 87))))))) (doneK P results87) X0 (doneK P results87)))
noncomputable def K87_prrrrrl (cal : Cal) (k : Nat) : KC (Value × Hp × Nat) := (cutK (Lv.a (Lv.b (Lv.b (Lv.b (Lv.b (Lv.b (A 87))))))).c (codeE P cal (codeF P cal k) none 87 (cR (cL (cR (cR (cR (cR (cR code87))))))) (Lv.b (Lv.a (Lv.b (Lv.b (Lv.b (Lv.b (Lv.b (A 87)))))))) (K87_prrrrr cal k) X0 (doneK P results87)))
noncomputable def K87_prrrrrlrl (cal : Cal) (k : Nat) : KC (Value × Hp × Nat) := (cutK (Lv.a (Lv.b (Lv.a (Lv.b (Lv.b (Lv.b (Lv.b (Lv.b (A 87))))))))).c (codeE P cal (codeF P cal k) none 87 (cR (cL (cR (cL (cR (cR (cR (cR (cR code87))))))))) (Lv.b (Lv.a (Lv.b (Lv.a (Lv.b (Lv.b (Lv.b (Lv.b (Lv.b (A 87)))))))))) (K87_prrrrr cal k) X0 (doneK P results87)))
noncomputable def K87_prrrrrr (cal : Cal) (k : Nat) : KC (Value × Hp × Nat) := (cutK (Lv.b (Lv.b (Lv.b (Lv.b (Lv.b (Lv.b (A 87))))))).c (codeE P cal (codeF P cal k) none 87 (cR (cR (cR (cR (cR (cR (cR code87))))))) (Lv.b (Lv.b (Lv.b (Lv.b (Lv.b (Lv.b (Lv.b (A 87)))))))) (doneK P results87) X0 (doneK P results87)))
noncomputable def K87_prrrrrrl (cal : Cal) (k : Nat) : KC (Value × Hp × Nat) := (cutK (Lv.a (Lv.b (Lv.b (Lv.b (Lv.b (Lv.b (Lv.b (A 87)))))))).c (codeE P cal (codeF P cal k) none 87 (cR (cL (cR (cR (cR (cR (cR (cR code87)))))))) (Lv.b (Lv.a (Lv.b (Lv.b (Lv.b (Lv.b (Lv.b (Lv.b (A 87))))))))) (K87_prrrrrr cal k) X0 (doneK P results87)))
noncomputable def K87_prrrrrrlrl (cal : Cal) (k : Nat) : KC (Value × Hp × Nat) := (cutK (Lv.a (Lv.b (Lv.a (Lv.b (Lv.b (Lv.b (Lv.b (Lv.b (Lv.b (A 87)))))))))).c (codeE P cal (codeF P cal k) none 87 (cR (cL (cR (cL (cR (cR (cR (cR (cR (cR code87)))))))))) (Lv.b (Lv.a (Lv.b (Lv.a (Lv.b (Lv.b (Lv.b (Lv.b (Lv.b (Lv.b (A 87))))))))))) (K87_prrrrrr cal k) X0 (doneK P results87)))
noncomputable def K87_prrrrrrr (cal : Cal) (k : Nat) : KC (Value × Hp × Nat) := (cutK (Lv.b (Lv.b (Lv.b (Lv.b (Lv.b (Lv.b (Lv.b (A 87)))))))).c (codeE P cal (codeF P cal k) none 87 (cR (cR (cR (cR (cR (cR (cR (cR code87)))))))) (Lv.b (Lv.b (Lv.b (Lv.b (Lv.b (Lv.b (Lv.b (Lv.b (A 87))))))))) (doneK P results87) X0 (doneK P results87)))
noncomputable def B87_0 (cal : Cal) (k : Nat) (v0 v1 : Value) (H : Hp) (n : Nat) : Res :=
callFK P cal 95 [v0] H n fun v8_3 H_4 n_5 =>
callFK P cal 95 [v1] H_4 n_5 fun v10_8 H_9 n_10 =>
ifK v8_3 (
ifK v10_8 (
some ((Go.Value.int Go.IntKind.i64 0), H_9, n_10)) (
some ((Go.Value.int Go.IntKind.i64 (-1)), H_9, n_10))) (
ifK v10_8 (
some ((Go.Value.int Go.IntKind.i64 1), H_9, n_10)) (
binK P Go.BinOp.lss 50 (Go.Operand.tmp 14) (Go.Operand.tmp 15) v0 v1 fun v16_20 =>
ifK v16_20 (
some ((Go.Value.int Go.IntKind.i64 (-1)), H_9, n_10)) (
binK P Go.BinOp.gtr 50 (Go.Operand.tmp 17) (Go.Operand.tmp 18) v0 v1 fun v19_24 =>
ifK v19_24 (
some ((Go.Value.int Go.IntKind.i64 1), H_9, n_10)) (
some ((Go.Value.int Go.IntKind.i64 0), H_9, n_10)))))
noncomputable def C87_0 (cal : Cal) (k : Nat) (v0 v1 : Value) (H : Hp) (n : Nat) : Res := B87_0 cal k v0 v1 H n
theorem h87_0 (cal : Cal) (k : Nat) (v0 v1 : Value) (H : Hp) (n : Nat) : bodyE P cal A (k + 1) 87 [v0, v1] H n = C87_0 cal k v0 v1 H n := by
  have h : bodyE P cal A (k + 1) 87 [v0, v1] H n = B87_0 cal k v0 v1 H n := by
    rw [body_eq (fn := Go.Proofs.Try.f87) (c := code87) (rs := results87) (by kernel_rfl) (by kernel_rfl) (by kernel_rfl) (by kernel_rfl)]
    kernel_rfl
  rw [h, C87_0]
noncomputable def code88 : Code := codeOf 88
noncomputable def results88 : List ResultVar := resOf 88
noncomputable def K88_p (cal : Cal) (k : Nat) : KC (Value × Hp × Nat) := (cutK (A 88).c (codeE P cal (codeF P cal k) none 88 (cR code88) (Lv.b (A 88)) (doneK P results88) X0 (doneK P results88)))
noncomputable def K88_pr (cal : Cal) (k : Nat) : KC (Value × Hp × Nat) := (cutK (Lv.b (A 88)).c (codeE P cal (codeF P cal k) none 88 (cR (cR code88)) (Lv.b (Lv.b (A 88))) (doneK P results88) X0 (doneK P results88)))
noncomputable def B88_0 (cal : Cal) (k : Nat) (v0 v1 : Value) (H : Hp) (n : Nat) : Res :=
boxK 30 v0 H n fun v2_1 H_2 n_3 =>
binK P Go.BinOp.geq 3 (Go.Operand.tmp 5) (Go.Operand.const (Go.Value.int Go.IntKind.i64 0)) v1 (Go.Value.int Go.IntKind.i64 0) fun v6_6 =>
guardK v6_6 true (fun k_8 =>
k_8 v1 H_2 n_3) H_2 n_3 fun v_9 H_10 n_11 =>
guardK v6_6 true (fun k_13 =>
bindO (fieldAddrV P 30 v2_1 0) fun v9_17 =>
k_13 v9_17 H_10 n_11) H_10 n_11 fun v_14 H_15 n_16 =>
guardK v6_6 true (fun k_18 =>
bindO (addrV v_14) fun a_23 => bindO (loadV P H_15 26 a_23) fun v10_22 =>
k_18 v10_22 H_15 n_16) H_15 n_16 fun v_19 H_20 n_21 =>
guardK v6_6 true (fun k_24 =>
bindO (lenV P 26 v_19) fun v11_28 =>
k_24 v11_28 H_20 n_21) H_20 n_21 fun v_25 H_26 n_27 =>
guardK v6_6 true (fun k_29 =>
binK P Go.BinOp.lss 3 (Go.Operand.tmp 8) (Go.Operand.tmp 11) v_9 v_25 fun v12_33 =>
k_29 v12_33 H_26 n_27) H_26 n_27 fun v_30 H_31 n_32 =>
bindO (pickV v6_6 v_30 (Go.Value.bool false)) fun v13_34 =>
some (v13_34, H_31, n_32)
noncomputable def C88_0 (cal : Cal) (k : Nat) (v0 v1 : Value) (H : Hp) (n : Nat) : Res := B88_0 cal k v0 v1 H n
theorem h88_0 (cal : Cal) (k : Nat) (v0 v1 : Value) (H : Hp) (n : Nat) : bodyE P cal A (k + 1) 88 [v0, v1] H n = C88_0 cal k v0 v1 H n := by
  have h : bodyE P cal A (k + 1) 88 [v0, v1] H n = B88_0 cal k v0 v1 H n := by
    rw [body_eq (fn := Go.Proofs.Try.f88) (c := code88) (rs := results88) (by kernel_rfl) (by kernel_rfl) (by kernel_rfl) (by kernel_rfl)]
    kernel_rfl
  rw [h, C88_0]
noncomputable def code89 : Code := codeOf 89
noncomputable def results89 : List ResultVar := resOf 89
noncomputable def K89_p (cal : Cal) (k : Nat) : KC (Value × Hp × Nat) := (cutK (A 89).c (codeE P cal (codeF P cal k) none 89 (cR code89) (Lv.b (A 89)) (doneK P results89) X0 (doneK P results89)))
noncomputable def K89_pr (cal : Cal) (k : Nat) : KC (Value × Hp × Nat) := (cutK (Lv.b (A 89)).c (codeE P cal (codeF P cal k) none 89 (cR (cR code89)) (Lv.b (Lv.b (A 89))) (doneK P results89) X0 (doneK P results89)))
noncomputable def B89_0 (cal : Cal) (k : Nat) (v0 : Value) (H : Hp) (n : Nat) : Res :=
boxK 59 v0 H n fun v1_1 H_2 n_3 =>
bindO (fieldAddrV P 59 v1_1 0) fun v3_5 =>
bindO (addrV v3_5) fun a_7 => bindO (loadV P H_2 3 a_7) fun v4_6 =>
binK P Go.BinOp.geq 3 (Go.Operand.tmp 4) (Go.Operand.const (Go.Value.int Go.IntKind.i64 0)) v4_6 (Go.Value.int Go.IntKind.i64 0) fun v5_8 =>
guardK v5_8 true (fun k_10 =>
bindO (fieldAddrV P 59 v1_1 0) fun v7_14 =>
k_10 v7_14 H_2 n_3) H_2 n_3 fun v_11 H_12 n_13 =>
guardK v5_8 true (fun k_15 =>
bindO (addrV v_11) fun a_20 => bindO (loadV P H_12 3 a_20) fun v8_19 =>
k_15 v8_19 H_12 n_13) H_12 n_13 fun v_16 H_17 n_18 =>
guardK v5_8 true (fun k_21 =>
bindO (fieldAddrV P 59 v1_1 1) fun v9_25 =>
k_21 v9_25 H_17 n_18) H_17 n_18 fun v_22 H_23 n_24 =>
guardK v5_8 true (fun k_26 =>
bindO (addrV v_22) fun a_31 => bindO (loadV P H_23 3 a_31) fun v10_30 =>
k_26 v10_30 H_23 n_24) H_23 n_24 fun v_27 H_28 n_29 =>
guardK v5_8 true (fun k_32 =>
binK P Go.BinOp.leq 3 (Go.Operand.tmp 8) (Go.Operand.tmp 10) v_16 v_27 fun v11_36 =>
k_32 v11_36 H_28 n_29) H_28 n_29 fun v_33 H_34 n_35 =>
bindO (pickV v5_8 v_33 (Go.Value.bool false)) fun v12_37 =>
guardK v12_37 true (fun k_39 =>
bindO (fieldAddrV P 59 v1_1 1) fun v14_43 =>
k_39 v14_43 H_34 n_35) H_34 n_35 fun v_40 H_41 n_42 =>
guardK v12_37 true (fun k_44 =>
bindO (addrV v_40) fun a_49 => bindO (loadV P H_41 3 a_49) fun v15_48 =>
k_44 v15_48 H_41 n_42) H_41 n_42 fun v_45 H_46 n_47 =>
guardK v12_37 true (fun k_50 =>
binK P Go.BinOp.leq 3 (Go.Operand.tmp 15) (Go.Operand.const (Go.Value.int Go.IntKind.i64 1000)) v_45 (Go.Value.int Go.IntKind.i64 1000) fun v16_54 =>
k_50 v16_54 H_46 n_47) H_46 n_47 fun v_51 H_52 n_53 =>
bindO (pickV v12_37 v_51 (Go.Value.bool false)) fun v17_55 =>
some (v17_55, H_52, n_53)
noncomputable def C89_0 (cal : Cal) (k : Nat) (v0 : Value) (H : Hp) (n : Nat) : Res := B89_0 cal k v0 H n
theorem h89_0 (cal : Cal) (k : Nat) (v0 : Value) (H : Hp) (n : Nat) : bodyE P cal A (k + 1) 89 [v0] H n = C89_0 cal k v0 H n := by
  have h : bodyE P cal A (k + 1) 89 [v0] H n = B89_0 cal k v0 H n := by
    rw [body_eq (fn := Go.Proofs.Try.f89) (c := code89) (rs := results89) (by kernel_rfl) (by kernel_rfl) (by kernel_rfl) (by kernel_rfl)]
    kernel_rfl
  rw [h, C89_0]
end Go.Proofs.Ytakjjillnllocab.P
