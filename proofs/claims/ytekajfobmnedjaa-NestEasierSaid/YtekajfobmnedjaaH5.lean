/- The texts of functions, each with the proof that the evaluator says the same. -/
import Derived.Test.YtekajfobmnedjaaH1
open Go Go.Ev
set_option maxRecDepth 1000000
set_option linter.unusedVariables false
noncomputable section
namespace Go.Proofs.Ytekajfobmnedjaa.G
noncomputable def code118 : Code := codeOf 118
noncomputable def results118 : List ResultVar := resOf 118
noncomputable def K118_p (cal : Cal) (k : Nat) : KR := (cutK (A 118).c (codeE P cal (codeF P cal k) none 118 (cR code118) (Lv.b (A 118)) (doneK P results118) X0 (doneK P results118)))
noncomputable def K118_pr (cal : Cal) (k : Nat) : KR := (cutK (Lv.b (A 118)).c (codeE P cal (codeF P cal k) none 118 (cR (cR code118)) (Lv.b (Lv.b (A 118))) (doneK P results118) X0 (doneK P results118)))
noncomputable def K118_prl (cal : Cal) (k : Nat) : KR := (cutK (Lv.a (Lv.b (A 118))).c (codeE P cal (codeF P cal k) none 118 (cR (cL (cR code118))) (Lv.b (Lv.a (Lv.b (A 118)))) (K118_pr cal k) X0 (doneK P results118)))
noncomputable def K118_prlrl (cal : Cal) (k : Nat) : KR := (cutK (Lv.a (Lv.b (Lv.a (Lv.b (A 118))))).c (codeE P cal (codeF P cal k) none 118 (cR (cL (cR (cL (cR code118))))) (Lv.b (Lv.a (Lv.b (Lv.a (Lv.b (A 118)))))) (K118_pr cal k) X0 (doneK P results118)))
noncomputable def K118_prr (cal : Cal) (k : Nat) : KR := (cutK (Lv.b (Lv.b (A 118))).c (codeE P cal (codeF P cal k) none 118 (cR (cR (cR code118))) (Lv.b (Lv.b (Lv.b (A 118)))) (doneK P results118) X0 (doneK P results118)))
noncomputable def K118_prrl (cal : Cal) (k : Nat) : KR := (cutK (Lv.a (Lv.b (Lv.b (A 118)))).c (codeE P cal (codeF P cal k) none 118 (cR (cL (cR (cR code118)))) (Lv.b (Lv.a (Lv.b (Lv.b (A 118))))) (K118_prr cal k) X0 (doneK P results118)))
noncomputable def K118_prrlrl (cal : Cal) (k : Nat) : KR := (cutK (Lv.a (Lv.b (Lv.a (Lv.b (Lv.b (A 118)))))).c (codeE P cal (codeF P cal k) none 118 (cR (cL (cR (cL (cR (cR code118)))))) (Lv.b (Lv.a (Lv.b (Lv.a (Lv.b (Lv.b (A 118))))))) (K118_prr cal k) X0 (doneK P results118)))
noncomputable def K118_prrr (cal : Cal) (k : Nat) : KR := (cutK (Lv.b (Lv.b (Lv.b (A 118)))).c (codeE P cal (codeF P cal k) none 118 (cR (cR (cR (cR code118)))) (Lv.b (Lv.b (Lv.b (Lv.b (A 118))))) (doneK P results118) X0 (doneK P results118)))
noncomputable def K118_prrrl (cal : Cal) (k : Nat) : KR := (cutK (Lv.a (Lv.b (Lv.b (Lv.b (A 118))))).c (codeE P cal (codeF P cal k) none 118 (cR (cL (cR (cR (cR code118))))) (Lv.b (Lv.a (Lv.b (Lv.b (Lv.b (A 118)))))) (K118_prrr cal k) X0 (doneK P results118)))
noncomputable def K118_prrrlrl (cal : Cal) (k : Nat) : KR := (cutK (Lv.a (Lv.b (Lv.a (Lv.b (Lv.b (Lv.b (A 118))))))).c (codeE P cal (codeF P cal k) none 118 (cR (cL (cR (cL (cR (cR (cR code118))))))) (Lv.b (Lv.a (Lv.b (Lv.a (Lv.b (Lv.b (Lv.b (A 118)))))))) (K118_prrr cal k) X0 (doneK P results118)))
noncomputable def K118_prrrr (cal : Cal) (k : Nat) : KR := (cutK (Lv.b (Lv.b (Lv.b (Lv.b (A 118))))).c (codeE P cal (codeF P cal k) none 118 (cR (cR (cR (cR (cR code118))))) (Lv.b (Lv.b (Lv.b (Lv.b (Lv.b (A 118)))))) (doneK P results118) X0 (doneK P results118)))
noncomputable def K118_prrrrl (cal : Cal) (k : Nat) : KR := (cutK (Lv.a (Lv.b (Lv.b (Lv.b (Lv.b (A 118)))))).c (codeE P cal (codeF P cal k) none 118 (cR (cL (cR (cR (cR (cR code118)))))) (Lv.b (Lv.a (Lv.b (Lv.b (Lv.b (Lv.b (A 118))))))) (K118_prrrr cal k) X0 (doneK P results118)))
noncomputable def K118_pxrrrrlr (cal : Cal) (k : Nat) : XR := (upX 0 (K118_prrrr cal k) X0)
noncomputable def K118_prrrrlrl (cal : Cal) (k : Nat) (m1 : Nat) : KR := (fun T H n D => codeF P cal m1 (Lv.a (Lv.b (Lv.a (Lv.b (Lv.b (Lv.b (Lv.b (A 118)))))))) none 118 (cL (cR (cL (cR (cR (cR (cR code118))))))) (K118_prrrr cal k) (K118_pxrrrrlr cal k) (doneK P results118) (cutT (Lv.a (Lv.b (Lv.a (Lv.b (Lv.b (Lv.b (Lv.b (A 118)))))))).c T) H n D)
noncomputable def K118_prrrrlrll (cal : Cal) (k : Nat) (m1 : Nat) : KR := (cutK (Lv.a (Lv.a (Lv.b (Lv.a (Lv.b (Lv.b (Lv.b (Lv.b (A 118))))))))).c (codeE P cal (codeF P cal m1) none 118 (cR (cL (cL (cR (cL (cR (cR (cR (cR code118))))))))) (Lv.b (Lv.a (Lv.a (Lv.b (Lv.a (Lv.b (Lv.b (Lv.b (Lv.b (A 118)))))))))) (K118_prrrrlrl cal k m1) (K118_pxrrrrlr cal k) (doneK P results118)))
noncomputable def K118_prrrrlrllr (cal : Cal) (k : Nat) (m1 : Nat) : KR := (cutK (Lv.b (Lv.a (Lv.a (Lv.b (Lv.a (Lv.b (Lv.b (Lv.b (Lv.b (A 118)))))))))).c (codeE P cal (codeF P cal m1) none 118 (cR (cR (cL (cL (cR (cL (cR (cR (cR (cR code118)))))))))) (Lv.b (Lv.b (Lv.a (Lv.a (Lv.b (Lv.a (Lv.b (Lv.b (Lv.b (Lv.b (A 118))))))))))) (K118_prrrrlrl cal k m1) (K118_pxrrrrlr cal k) (doneK P results118)))
noncomputable def K118_prrrrlrllrr (cal : Cal) (k : Nat) (m1 : Nat) : KR := (cutK (Lv.b (Lv.b (Lv.a (Lv.a (Lv.b (Lv.a (Lv.b (Lv.b (Lv.b (Lv.b (A 118))))))))))).c (codeE P cal (codeF P cal m1) none 118 (cR (cR (cR (cL (cL (cR (cL (cR (cR (cR (cR code118))))))))))) (Lv.b (Lv.b (Lv.b (Lv.a (Lv.a (Lv.b (Lv.a (Lv.b (Lv.b (Lv.b (Lv.b (A 118)))))))))))) (K118_prrrrlrl cal k m1) (K118_pxrrrrlr cal k) (doneK P results118)))
noncomputable def K118_pxrrrrlrllrrl (cal : Cal) (k : Nat) (m1 : Nat) : XR := (upX 1 (K118_prrrrlrllrr cal k m1) (K118_pxrrrrlr cal k))
noncomputable def K118_prrrrlrllrrll (cal : Cal) (k : Nat) (m1 : Nat) : KR := (cutK (Lv.a (Lv.a (Lv.b (Lv.b (Lv.a (Lv.a (Lv.b (Lv.a (Lv.b (Lv.b (Lv.b (Lv.b (A 118))))))))))))).c (codeE P cal (codeF P cal m1) none 118 (cR (cL (cL (cR (cR (cL (cL (cR (cL (cR (cR (cR (cR code118))))))))))))) (Lv.b (Lv.a (Lv.a (Lv.b (Lv.b (Lv.a (Lv.a (Lv.b (Lv.a (Lv.b (Lv.b (Lv.b (Lv.b (A 118)))))))))))))) (K118_prrrrlrllrr cal k m1) (K118_pxrrrrlrllrrl cal k m1) (doneK P results118)))
noncomputable def K118_prrrrlrllrrllr (cal : Cal) (k : Nat) (m1 : Nat) : KR := (cutK (Lv.b (Lv.a (Lv.a (Lv.b (Lv.b (Lv.a (Lv.a (Lv.b (Lv.a (Lv.b (Lv.b (Lv.b (Lv.b (A 118)))))))))))))).c (codeE P cal (codeF P cal m1) none 118 (cR (cR (cL (cL (cR (cR (cL (cL (cR (cL (cR (cR (cR (cR code118)))))))))))))) (Lv.b (Lv.b (Lv.a (Lv.a (Lv.b (Lv.b (Lv.a (Lv.a (Lv.b (Lv.a (Lv.b (Lv.b (Lv.b (Lv.b (A 118))))))))))))))) (K118_prrrrlrllrr cal k m1) (K118_pxrrrrlrllrrl cal k m1) (doneK P results118)))
noncomputable def K118_prrrrlrllrrllrl (cal : Cal) (k : Nat) (m1 : Nat) : KR := (cutK (Lv.a (Lv.b (Lv.a (Lv.a (Lv.b (Lv.b (Lv.a (Lv.a (Lv.b (Lv.a (Lv.b (Lv.b (Lv.b (Lv.b (A 118))))))))))))))).c (codeE P cal (codeF P cal m1) none 118 (cR (cL (cR (cL (cL (cR (cR (cL (cL (cR (cL (cR (cR (cR (cR code118))))))))))))))) (Lv.b (Lv.a (Lv.b (Lv.a (Lv.a (Lv.b (Lv.b (Lv.a (Lv.a (Lv.b (Lv.a (Lv.b (Lv.b (Lv.b (Lv.b (A 118)))))))))))))))) (K118_prrrrlrllrrllr cal k m1) (K118_pxrrrrlrllrrl cal k m1) (doneK P results118)))
noncomputable def K118_prrrrlrllrrllrr (cal : Cal) (k : Nat) (m1 : Nat) : KR := (cutK (Lv.b (Lv.b (Lv.a (Lv.a (Lv.b (Lv.b (Lv.a (Lv.a (Lv.b (Lv.a (Lv.b (Lv.b (Lv.b (Lv.b (A 118))))))))))))))).c (codeE P cal (codeF P cal m1) none 118 (cR (cR (cR (cL (cL (cR (cR (cL (cL (cR (cL (cR (cR (cR (cR code118))))))))))))))) (Lv.b (Lv.b (Lv.b (Lv.a (Lv.a (Lv.b (Lv.b (Lv.a (Lv.a (Lv.b (Lv.a (Lv.b (Lv.b (Lv.b (Lv.b (A 118)))))))))))))))) (K118_prrrrlrllrr cal k m1) (K118_pxrrrrlrllrrl cal k m1) (doneK P results118)))
noncomputable def K118_prrrrlrllrrllrrr (cal : Cal) (k : Nat) (m1 : Nat) : KR := (cutK (Lv.b (Lv.b (Lv.b (Lv.a (Lv.a (Lv.b (Lv.b (Lv.a (Lv.a (Lv.b (Lv.a (Lv.b (Lv.b (Lv.b (Lv.b (A 118)))))))))))))))).c (codeE P cal (codeF P cal m1) none 118 (cR (cR (cR (cR (cL (cL (cR (cR (cL (cL (cR (cL (cR (cR (cR (cR code118)))))))))))))))) (Lv.b (Lv.b (Lv.b (Lv.b (Lv.a (Lv.a (Lv.b (Lv.b (Lv.a (Lv.a (Lv.b (Lv.a (Lv.b (Lv.b (Lv.b (Lv.b (A 118))))))))))))))))) (K118_prrrrlrllrr cal k m1) (K118_pxrrrrlrllrrl cal k m1) (doneK P results118)))
noncomputable def K118_prrrrlrllrrllrrrrl (cal : Cal) (k : Nat) (m1 : Nat) : KR := (cutK (Lv.a (Lv.b (Lv.b (Lv.b (Lv.b (Lv.a (Lv.a (Lv.b (Lv.b (Lv.a (Lv.a (Lv.b (Lv.a (Lv.b (Lv.b (Lv.b (Lv.b (A 118)))))))))))))))))).c (codeE P cal (codeF P cal m1) none 118 (cR (cL (cR (cR (cR (cR (cL (cL (cR (cR (cL (cL (cR (cL (cR (cR (cR (cR code118)))))))))))))))))) (Lv.b (Lv.a (Lv.b (Lv.b (Lv.b (Lv.b (Lv.a (Lv.a (Lv.b (Lv.b (Lv.a (Lv.a (Lv.b (Lv.a (Lv.b (Lv.b (Lv.b (Lv.b (A 118))))))))))))))))))) (K118_prrrrlrllrr cal k m1) (K118_pxrrrrlrllrrl cal k m1) (doneK P results118)))
noncomputable def K118_prrrrr (cal : Cal) (k : Nat) : KR := (cutK (Lv.b (Lv.b (Lv.b (Lv.b (Lv.b (A 118)))))).c (codeE P cal (codeF P cal k) none 118 (cR (cR (cR (cR (cR (cR code118)))))) (Lv.b (Lv.b (Lv.b (Lv.b (Lv.b (Lv.b (A 118))))))) (doneK P results118) X0 (doneK P results118)))
noncomputable def E118_2 (cal : Cal) (k m1 : Nat) : KR := codeE P cal (codeF P cal m1) none 118 (cR (cR (cR (cL (cL (cR (cL (cR (cR (cR (cR code118))))))))))) (Lv.b (Lv.b (Lv.b (Lv.a (Lv.a (Lv.b (Lv.a (Lv.b (Lv.b (Lv.b (Lv.b (A 118)))))))))))) (K118_prrrrlrl cal k m1) (K118_pxrrrrlr cal k) (doneK P results118)
noncomputable def E118_1 (cal : Cal) (k m1 : Nat) : KR := codeE P cal (codeF P cal m1) none 118 (cL (cL (cR (cL (cR (cR (cR (cR code118)))))))) (Lv.a (Lv.a (Lv.b (Lv.a (Lv.b (Lv.b (Lv.b (Lv.b (A 118))))))))) (K118_prrrrlrl cal k m1) (K118_pxrrrrlr cal k) (doneK P results118)
noncomputable def R118_1 (cal : Cal) (k m1 : Nat) : V8 := fun u2 u3 u4 u6 u7 u8 u48 u49 H n => codeF P cal m1 (Lv.a (Lv.b (Lv.a (Lv.b (Lv.b (Lv.b (Lv.b (A 118)))))))) none 118 (cL (cR (cL (cR (cR (cR (cR code118))))))) (K118_prrrr cal k) (K118_pxrrrrlr cal k) (doneK P results118) (Tr.set (Tr.set (Tr.set (Tr.set (Tr.set (Tr.set (Tr.set (Tr.set Tr.nil 49 (some u49)) 48 (some u48)) 8 (some u8)) 7 (some u7)) 6 (some u6)) 4 (some u4)) 3 (some u3)) 2 (some u2)) H n []
noncomputable def B118_2 (cal : Cal) (k m1 : Nat) (b1 : V8) (u2 u3 u4 u6 u7 u8 u48 u49 : Value) (H : Hp) (n : Nat) : Res :=
binK P .add 3 (.tmp 49) (.const (.int .i64 1)) u49 (.int .i64 1) fun v_2z =>
b1 u2 u3 u4 u6 u7 u8 u48 v_2z H n
noncomputable def C118_2 (cal : Cal) (k m1 : Nat) (b1 : V8) (u2 u3 u4 u6 u7 u8 u48 u49 : Value) (H : Hp) (n : Nat) : Res := B118_2 cal k m1 b1 u2 u3 u4 u6 u7 u8 u48 u49 H n
theorem h118_2 (cal : Cal) (k m1 : Nat) (u2 u3 u4 u6 u7 u8 u48 u49 : Value) (H : Hp) (n : Nat) : labK (E118_2 cal k m1) (Tr.set (Tr.set (Tr.set (Tr.set (Tr.set (Tr.set (Tr.set (Tr.set Tr.nil 49 (some u49)) 48 (some u48)) 8 (some u8)) 7 (some u7)) 6 (some u6)) 4 (some u4)) 3 (some u3)) 2 (some u2)) H n [] = C118_2 cal k m1 (R118_1 cal k m1) u2 u3 u4 u6 u7 u8 u48 u49 H n := by
  refine Eq.trans (b := B118_2 cal k m1 (R118_1 cal k m1) u2 u3 u4 u6 u7 u8 u48 u49 H n) (by kernel_rfl) ?_
  rw [C118_2]
noncomputable def B118_1 (cal : Cal) (k m1 : Nat) (j2 : V8) (b1 : V8) (u2 u3 u4 u6 u7 u8 u48 u49 : Value) (H : Hp) (n : Nat) : Res :=
binK P .lss 3 (.tmp 49) (.tmp 48) u49 u48 fun v_2y =>
ifK v_2y (
bindO (addrV u4) fun a_34 => bindO (loadV P H 105 a_34) fun v_33 =>
callFK P cal 102 [v_33, u2, u49] H n fun v_37 H_38 n_39 =>
bindO (pureSem P v_37 (Op.unary UnOp.not v_37)) fun v_3a =>
ifK v_3a (
j2 u2 u3 u4 u6 u7 u8 u48 u49 H_38 n_39) (
bindO (indexAddrV P 121 u7 u2) fun v_3d =>
bindO (storeP P 3 v_3d u49 H_38) fun H_3f =>
bindO (addrV u6) fun a_3g => bindO (loadV P H_3f 176 a_3g) fun v_3h =>
bindO (addrV u7) fun a_3i => bindO (loadV P H_3f 121 a_3i) fun v_3j =>
bindO (addrV u8) fun a_3k => bindO (loadV P H_3f 111 a_3k) fun v_3l =>
bindO (addrV u4) fun a_3m => bindO (loadV P H_3f 105 a_3m) fun v_3n =>
bindO (nilV v_3n) fun v_3q =>
bindO (fieldAddrV P 117 v_3q 2) fun v_3r =>
bindO (indexAddrV P 115 v_3r u2) fun v_3s =>
bindO (indexAddrV P 114 v_3s u49) fun v_3t =>
bindO (fieldAddrV P 113 v_3t 2) fun v_3u =>
bindO (addrV v_3u) fun a_3v => bindO (loadV P H_3f 111 a_3v) fun v_3w =>
binK P .add 3 (.tmp 73) (.const (.int .i64 1)) u2 (.int .i64 1) fun v_3y =>
binK P .sub 3 (.tmp 75) (.const (.int .i64 1)) u3 (.int .i64 1) fun v_40 =>
effK P [(.l 121 a_3i), (.l 176 a_3g)] H_3f n_39 (fun H_41 n_42 k_43 =>
callFK P cal 103 [v_3l, v_3w] H_41 n_42 fun v_47 H_48 n_49 =>
k_43 v_47 H_48 n_49) fun v_44 H_45 n_46 =>
callVK P cal v_3h [v_3j, v_44, v_3y, v_40] H_45 n_46 fun v_4a H_4b n_4c =>
bindO (pureSem P v_4a (Op.unary UnOp.not v_4a)) fun v_4d =>
ifK v_4d (
some ((.bool false), H_4b, n_4c)) (
j2 u2 u3 u4 u6 u7 u8 u48 u49 H_4b n_4c))) (
some ((.bool true), H, n))
noncomputable def C118_1 (cal : Cal) (k m1 : Nat) (b1 : V8) (u2 u3 u4 u6 u7 u8 u48 u49 : Value) (H : Hp) (n : Nat) : Res := B118_1 cal k m1 (C118_2 cal k m1 b1) b1 u2 u3 u4 u6 u7 u8 u48 u49 H n
noncomputable def S118_1 (cal : Cal) (k : Nat) : Nat → V8 := fun m => Nat.rec (motive := fun _ => V8) (C118_1 cal k 0 (fun _ _ _ _ _ _ _ _ _ _ => none)) (fun m ih => C118_1 cal k (m + 1) ih) m
theorem h118_1 (cal : Cal) (k m1 : Nat) (u2 u3 u4 u6 u7 u8 u48 u49 : Value) (H : Hp) (n : Nat) : labK (E118_1 cal k m1) (Tr.set (Tr.set (Tr.set (Tr.set (Tr.set (Tr.set (Tr.set (Tr.set Tr.nil 49 (some u49)) 48 (some u48)) 8 (some u8)) 7 (some u7)) 6 (some u6)) 4 (some u4)) 3 (some u3)) 2 (some u2)) H n [] = C118_1 cal k m1 (R118_1 cal k m1) u2 u3 u4 u6 u7 u8 u48 u49 H n := by
  refine Eq.trans (b := B118_1 cal k m1 (fun u2 u3 u4 u6 u7 u8 u48 u49 H n => labK (E118_2 cal k m1) (Tr.set (Tr.set (Tr.set (Tr.set (Tr.set (Tr.set (Tr.set (Tr.set Tr.nil 49 (some u49)) 48 (some u48)) 8 (some u8)) 7 (some u7)) 6 (some u6)) 4 (some u4)) 3 (some u3)) 2 (some u2)) H n []) (R118_1 cal k m1) u2 u3 u4 u6 u7 u8 u48 u49 H n) (by kernel_rfl) ?_
  rw [C118_1]
  have e2 : (fun u2 u3 u4 u6 u7 u8 u48 u49 H n => labK (E118_2 cal k m1) (Tr.set (Tr.set (Tr.set (Tr.set (Tr.set (Tr.set (Tr.set (Tr.set Tr.nil 49 (some u49)) 48 (some u48)) 8 (some u8)) 7 (some u7)) 6 (some u6)) 4 (some u4)) 3 (some u3)) 2 (some u2)) H n []) = (C118_2 cal k m1 (R118_1 cal k m1)) := by funext u2 u3 u4 u6 u7 u8 u48 u49 H n; exact h118_2 ..
  rw [e2]
theorem q118_1 (cal : Cal) (k : Nat) : ∀ (m : Nat) (u2 u3 u4 u6 u7 u8 u48 u49 : Value) (H : Hp) (n : Nat), labK (E118_1 cal k m) (Tr.set (Tr.set (Tr.set (Tr.set (Tr.set (Tr.set (Tr.set (Tr.set Tr.nil 49 (some u49)) 48 (some u48)) 8 (some u8)) 7 (some u7)) 6 (some u6)) 4 (some u4)) 3 (some u3)) 2 (some u2)) H n [] = S118_1 cal k m u2 u3 u4 u6 u7 u8 u48 u49 H n
  | 0, u2, u3, u4, u6, u7, u8, u48, u49, H, n => by
    rw [h118_1]
    have e : R118_1 cal k 0 = fun _ _ _ _ _ _ _ _ _ _ => none := by funext u2 u3 u4 u6 u7 u8 u48 u49 H n; kernel_rfl
    rw [e]; rfl
  | m + 1, u2, u3, u4, u6, u7, u8, u48, u49, H, n => by
    rw [h118_1]
    have e : R118_1 cal k (m + 1) = S118_1 cal k m := by
      funext u2 u3 u4 u6 u7 u8 u48 u49 H n
      have e : R118_1 cal k (m + 1) u2 u3 u4 u6 u7 u8 u48 u49 H n = labK (E118_1 cal k m) (Tr.set (Tr.set (Tr.set (Tr.set (Tr.set (Tr.set (Tr.set (Tr.set Tr.nil 49 (some u49)) 48 (some u48)) 8 (some u8)) 7 (some u7)) 6 (some u6)) 4 (some u4)) 3 (some u3)) 2 (some u2)) H n [] := by kernel_rfl
      rw [e]; exact q118_1 ..
    rw [e]; rfl
noncomputable def B118_0 (cal : Cal) (k : Nat) (j1 : V8) (v0 v1 v2 v3 v4 v5 v6 : Value) (H : Hp) (n : Nat) : Res :=
boxK 121 v0 H n fun v_1 H_2 n_3 =>
boxK 111 v1 H_2 n_3 fun v_4 H_5 n_6 =>
bindO (addrV v4) fun a_9 => bindO (loadV P H_5 105 a_9) fun v_8 =>
bindO (addrV v_4) fun a_b => bindO (loadV P H_5 111 a_b) fun v_a =>
callFK P cal 111 [v_8, v_a] H_5 n_6 fun v_c H_d n_e =>
bindO (pureSem P v_c (Op.unary UnOp.not v_c)) fun v_f =>
guardK v_f false (fun k_h =>
k_h v3 H_d n_e) H_d n_e fun v_i H_j n_k =>
guardK v_f false (fun k_m =>
bindO (addrV v4) fun a_r => bindO (loadV P H_j 105 a_r) fun v_q =>
k_m v_q H_j n_k) H_j n_k fun v_n H_o n_p =>
guardK v_f false (fun k_s =>
bindO (nilV v_n) fun v_w =>
k_s v_w H_o n_p) H_o n_p fun v_t H_u n_v =>
guardK v_f false (fun k_x =>
bindO (fieldAddrV P 117 v_t 0) fun v_11 =>
k_x v_11 H_u n_v) H_u n_v fun v_y H_z n_10 =>
guardK v_f false (fun k_12 =>
bindO (fieldAddrV P 35 v_y 0) fun v_16 =>
k_12 v_16 H_z n_10) H_z n_10 fun v_13 H_14 n_15 =>
guardK v_f false (fun k_17 =>
bindO (addrV v_13) fun a_1c => bindO (loadV P H_14 31 a_1c) fun v_1b =>
k_17 v_1b H_14 n_15) H_14 n_15 fun v_18 H_19 n_1a =>
guardK v_f false (fun k_1d =>
bindO (lenV P 31 v_18) fun v_1h =>
k_1d v_1h H_19 n_1a) H_19 n_1a fun v_1e H_1f n_1g =>
guardK v_f false (fun k_1i =>
k_1i v2 H_1f n_1g) H_1f n_1g fun v_1j H_1k n_1l =>
guardK v_f false (fun k_1n =>
binK P .sub 3 (.tmp 24) (.tmp 25) v_1e v_1j fun v_1r =>
k_1n v_1r H_1k n_1l) H_1k n_1l fun v_1o H_1p n_1q =>
guardK v_f false (fun k_1s =>
binK P .gtr 3 (.tmp 18) (.tmp 26) v_i v_1o fun v_1w =>
k_1s v_1w H_1p n_1q) H_1p n_1q fun v_1t H_1u n_1v =>
bindO (pickV v_f (.bool true) v_1t) fun v_1x =>
ifK v_1x (
some ((.bool true), H_1u, n_1v)) (
binK P .eql 3 (.tmp 29) (.const (.int .i64 0)) v3 (.int .i64 0) fun v_20 =>
ifK v_20 (
bindO (addrV v5) fun a_22 => bindO (loadV P H_1u 175 a_22) fun v_21 =>
bindO (addrV v_1) fun a_24 => bindO (loadV P H_1u 121 a_24) fun v_23 =>
bindO (addrV v_4) fun a_26 => bindO (loadV P H_1u 111 a_26) fun v_25 =>
callVK P cal v_21 [v_23, v_25] H_1u n_1v fun v_27 H_28 n_29 =>
some (v_27, H_28, n_29)) (
bindO (addrV v6) fun a_2c => bindO (loadV P H_1u 176 a_2c) fun v_2b =>
bindO (addrV v_1) fun a_2e => bindO (loadV P H_1u 121 a_2e) fun v_2d =>
bindO (addrV v_4) fun a_2g => bindO (loadV P H_1u 111 a_2g) fun v_2f =>
binK P .add 3 (.tmp 38) (.const (.int .i64 1)) v2 (.int .i64 1) fun v_2i =>
callVK P cal v_2b [v_2d, v_2f, v_2i, v3] H_1u n_1v fun v_2k H_2l n_2m =>
bindO (pureSem P v_2k (Op.unary UnOp.not v_2k)) fun v_2n =>
ifK v_2n (
some ((.bool false), H_2l, n_2m)) (
bindO (addrV v4) fun a_2q => bindO (loadV P H_2l 105 a_2q) fun v_2p =>
bindO (nilV v_2p) fun v_2r =>
bindO (fieldAddrV P 117 v_2r 0) fun v_2s =>
bindO (fieldAddrV P 35 v_2s 2) fun v_2t =>
bindO (addrV v_2t) fun a_2v => bindO (loadV P H_2l 33 a_2v) fun v_2u =>
bindO (lenV P 33 v_2u) fun v_2w =>
j1 v2 v3 v4 v6 v_1 v_4 v_2w (.int .i64 0) H_2l n_2m)))
noncomputable def C118_0 (cal : Cal) (k : Nat) (v0 v1 v2 v3 v4 v5 v6 : Value) (H : Hp) (n : Nat) : Res := B118_0 cal k (S118_1 cal k k) v0 v1 v2 v3 v4 v5 v6 H n
theorem h118_0 (cal : Cal) (k : Nat) (v0 v1 v2 v3 v4 v5 v6 : Value) (H : Hp) (n : Nat) : bodyE P cal A (k + 1) 118 [v0, v1, v2, v3, v4, v5, v6] H n = C118_0 cal k v0 v1 v2 v3 v4 v5 v6 H n := by
  have h : bodyE P cal A (k + 1) 118 [v0, v1, v2, v3, v4, v5, v6] H n = B118_0 cal k (fun u2 u3 u4 u6 u7 u8 u48 u49 H n => labK (E118_1 cal k k) (Tr.set (Tr.set (Tr.set (Tr.set (Tr.set (Tr.set (Tr.set (Tr.set Tr.nil 49 (some u49)) 48 (some u48)) 8 (some u8)) 7 (some u7)) 6 (some u6)) 4 (some u4)) 3 (some u3)) 2 (some u2)) H n []) v0 v1 v2 v3 v4 v5 v6 H n := by
    rw [body_eq (fn := Go.Proofs.Try.f118) (c := code118) (rs := results118) (by kernel_rfl) (by kernel_rfl) (by kernel_rfl) (by kernel_rfl)]
    kernel_rfl
  rw [h, C118_0]
  have e1 : (fun u2 u3 u4 u6 u7 u8 u48 u49 H n => labK (E118_1 cal k k) (Tr.set (Tr.set (Tr.set (Tr.set (Tr.set (Tr.set (Tr.set (Tr.set Tr.nil 49 (some u49)) 48 (some u48)) 8 (some u8)) 7 (some u7)) 6 (some u6)) 4 (some u4)) 3 (some u3)) 2 (some u2)) H n []) = (S118_1 cal k k) := by funext u2 u3 u4 u6 u7 u8 u48 u49 H n; exact q118_1 ..
  rw [e1]
noncomputable def code119 : Code := codeOf 119
noncomputable def results119 : List ResultVar := resOf 119
noncomputable def K119_p (cal : Cal) (k : Nat) : KR := (cutK (A 119).c (codeE P cal (codeF P cal k) none 119 (cR code119) (Lv.b (A 119)) (doneK P results119) X0 (doneK P results119)))
noncomputable def K119_pl (cal : Cal) (k : Nat) : KR := (cutK (Lv.a (A 119)).c (codeE P cal (codeF P cal k) none 119 (cR (cL code119)) (Lv.b (Lv.a (A 119))) (K119_p cal k) X0 (doneK P results119)))
noncomputable def K119_pr (cal : Cal) (k : Nat) : KR := (cutK (Lv.b (A 119)).c (codeE P cal (codeF P cal k) none 119 (cR (cR code119)) (Lv.b (Lv.b (A 119))) (doneK P results119) X0 (doneK P results119)))
noncomputable def K119_pxrr (cal : Cal) (k : Nat) : XR := (upX 0 (doneK P results119) X0)
noncomputable def K119_prrl (cal : Cal) (k : Nat) (m1 : Nat) : KR := (fun T H n D => codeF P cal m1 (Lv.a (Lv.b (Lv.b (A 119)))) none 119 (cL (cR (cR code119))) (doneK P results119) (K119_pxrr cal k) (doneK P results119) (cutT (Lv.a (Lv.b (Lv.b (A 119)))).c T) H n D)
noncomputable def K119_prrll (cal : Cal) (k : Nat) (m1 : Nat) : KR := (cutK (Lv.a (Lv.a (Lv.b (Lv.b (A 119))))).c (codeE P cal (codeF P cal m1) none 119 (cR (cL (cL (cR (cR code119))))) (Lv.b (Lv.a (Lv.a (Lv.b (Lv.b (A 119)))))) (K119_prrl cal k m1) (K119_pxrr cal k) (doneK P results119)))
noncomputable def K119_prrllr (cal : Cal) (k : Nat) (m1 : Nat) : KR := (cutK (Lv.b (Lv.a (Lv.a (Lv.b (Lv.b (A 119)))))).c (codeE P cal (codeF P cal m1) none 119 (cR (cR (cL (cL (cR (cR code119)))))) (Lv.b (Lv.b (Lv.a (Lv.a (Lv.b (Lv.b (A 119))))))) (K119_prrl cal k m1) (K119_pxrr cal k) (doneK P results119)))
noncomputable def K119_prrllrr (cal : Cal) (k : Nat) (m1 : Nat) : KR := (cutK (Lv.b (Lv.b (Lv.a (Lv.a (Lv.b (Lv.b (A 119))))))).c (codeE P cal (codeF P cal m1) none 119 (cR (cR (cR (cL (cL (cR (cR code119))))))) (Lv.b (Lv.b (Lv.b (Lv.a (Lv.a (Lv.b (Lv.b (A 119)))))))) (K119_prrl cal k m1) (K119_pxrr cal k) (doneK P results119)))
noncomputable def K119_pxrrllrrl (cal : Cal) (k : Nat) (m1 : Nat) : XR := (upX 1 (K119_prrllrr cal k m1) (K119_pxrr cal k))
noncomputable def K119_prrllrrll (cal : Cal) (k : Nat) (m1 : Nat) : KR := (cutK (Lv.a (Lv.a (Lv.b (Lv.b (Lv.a (Lv.a (Lv.b (Lv.b (A 119))))))))).c (codeE P cal (codeF P cal m1) none 119 (cR (cL (cL (cR (cR (cL (cL (cR (cR code119))))))))) (Lv.b (Lv.a (Lv.a (Lv.b (Lv.b (Lv.a (Lv.a (Lv.b (Lv.b (A 119)))))))))) (K119_prrllrr cal k m1) (K119_pxrrllrrl cal k m1) (doneK P results119)))
noncomputable def K119_prrllrrllr (cal : Cal) (k : Nat) (m1 : Nat) : KR := (cutK (Lv.b (Lv.a (Lv.a (Lv.b (Lv.b (Lv.a (Lv.a (Lv.b (Lv.b (A 119)))))))))).c (codeE P cal (codeF P cal m1) none 119 (cR (cR (cL (cL (cR (cR (cL (cL (cR (cR code119)))))))))) (Lv.b (Lv.b (Lv.a (Lv.a (Lv.b (Lv.b (Lv.a (Lv.a (Lv.b (Lv.b (A 119))))))))))) (K119_prrllrr cal k m1) (K119_pxrrllrrl cal k m1) (doneK P results119)))
noncomputable def E119_1 (cal : Cal) (k m1 : Nat) : KR := codeE P cal (codeF P cal m1) none 119 (cL (cL (cR (cR code119)))) (Lv.a (Lv.a (Lv.b (Lv.b (A 119))))) (K119_prrl cal k m1) (K119_pxrr cal k) (doneK P results119)
noncomputable def R119_1 (cal : Cal) (k m1 : Nat) : V5 := fun u0 u1 u2 u14 u15 H n => codeF P cal m1 (Lv.a (Lv.b (Lv.b (A 119)))) none 119 (cL (cR (cR code119))) (doneK P results119) (K119_pxrr cal k) (doneK P results119) (Tr.set (Tr.set (Tr.set (Tr.set (Tr.set Tr.nil 15 (some u15)) 14 (some u14)) 2 (some u2)) 1 (some u1)) 0 (some u0)) H n []
noncomputable def B119_1 (cal : Cal) (k m1 : Nat) (b1 : V5) (u0 u1 u2 u14 u15 : Value) (H : Hp) (n : Nat) : Res :=
binK P .lss 3 (.tmp 15) (.tmp 14) u15 u14 fun v_h =>
ifK v_h (
bindO (addrV u2) fun a_k => bindO (loadV P H 105 a_k) fun v_l =>
bindO (addrV u1) fun a_m => bindO (loadV P H 3 a_m) fun v_n =>
bindO (nilV v_l) fun v_p =>
bindO (fieldAddrV P 117 v_p 1) fun v_q =>
bindO (indexAddrV P 109 v_q v_n) fun v_r =>
bindO (indexAddrV P 108 v_r u15) fun v_s =>
bindO (addrV v_s) fun a_t => bindO (loadV P H 4 a_t) fun v_u =>
guardD v_u true (fun k_w =>
k_w u0 .p H n) .p H n fun v_x x_y H_z n_10 =>
guardD v_u true (fun k_12 =>
k_12 u15 .p H_z n_10) .p H_z n_10 fun v_13 x_14 H_15 n_16 =>
guardD v_u true (fun k_18 =>
callVK P cal v_x [v_13] H_15 n_16 fun v_1d H_1e n_1f =>
k_18 v_1d .e H_1e n_1f) .e H_15 n_16 fun v_19 x_1a H_1b n_1c =>
guardD v_u true (fun k_1g =>
bindO (pureSem P v_19 (Op.unary UnOp.not v_19)) fun v_1l =>
k_1g v_1l .p H_1b n_1c) .p H_1b n_1c fun v_1h x_1i H_1j n_1k =>
bindO (pickV v_u v_1h (.bool false)) fun v_1m =>
ifK v_1m (
some ((Value.tuple ⟨[]⟩), H_1j, n_1k)) (
binK P .add 3 (.tmp 15) (.const (.int .i64 1)) u15 (.int .i64 1) fun v_1n =>
b1 u0 u1 u2 u14 v_1n H_1j n_1k)) (
some ((Value.tuple ⟨[]⟩), H, n))
noncomputable def C119_1 (cal : Cal) (k m1 : Nat) (b1 : V5) (u0 u1 u2 u14 u15 : Value) (H : Hp) (n : Nat) : Res := B119_1 cal k m1 b1 u0 u1 u2 u14 u15 H n
noncomputable def S119_1 (cal : Cal) (k : Nat) : Nat → V5 := fun m => Nat.rec (motive := fun _ => V5) (C119_1 cal k 0 (fun _ _ _ _ _ _ _ => none)) (fun m ih => C119_1 cal k (m + 1) ih) m
theorem h119_1 (cal : Cal) (k m1 : Nat) (u0 u1 u2 u14 u15 : Value) (H : Hp) (n : Nat) : labK (E119_1 cal k m1) (Tr.set (Tr.set (Tr.set (Tr.set (Tr.set Tr.nil 15 (some u15)) 14 (some u14)) 2 (some u2)) 1 (some u1)) 0 (some u0)) H n [] = C119_1 cal k m1 (R119_1 cal k m1) u0 u1 u2 u14 u15 H n := by
  refine Eq.trans (b := B119_1 cal k m1 (R119_1 cal k m1) u0 u1 u2 u14 u15 H n) (by kernel_rfl) ?_
  rw [C119_1]
theorem q119_1 (cal : Cal) (k : Nat) : ∀ (m : Nat) (u0 u1 u2 u14 u15 : Value) (H : Hp) (n : Nat), labK (E119_1 cal k m) (Tr.set (Tr.set (Tr.set (Tr.set (Tr.set Tr.nil 15 (some u15)) 14 (some u14)) 2 (some u2)) 1 (some u1)) 0 (some u0)) H n [] = S119_1 cal k m u0 u1 u2 u14 u15 H n
  | 0, u0, u1, u2, u14, u15, H, n => by
    rw [h119_1]
    have e : R119_1 cal k 0 = fun _ _ _ _ _ _ _ => none := by funext u0 u1 u2 u14 u15 H n; kernel_rfl
    rw [e]; rfl
  | m + 1, u0, u1, u2, u14, u15, H, n => by
    rw [h119_1]
    have e : R119_1 cal k (m + 1) = S119_1 cal k m := by
      funext u0 u1 u2 u14 u15 H n
      have e : R119_1 cal k (m + 1) u0 u1 u2 u14 u15 H n = labK (E119_1 cal k m) (Tr.set (Tr.set (Tr.set (Tr.set (Tr.set Tr.nil 15 (some u15)) 14 (some u14)) 2 (some u2)) 1 (some u1)) 0 (some u0)) H n [] := by kernel_rfl
      rw [e]; exact q119_1 ..
    rw [e]; rfl
noncomputable def B119_0 (cal : Cal) (k : Nat) (j1 : V5) (v0 v1 v2 : Value) (H : Hp) (n : Nat) : Res :=
bindO (addrV v1) fun a_3 => bindO (loadV P H 3 a_3) fun v_2 =>
callVK P cal v0 [v_2] H n fun v_4 H_5 n_6 =>
bindO (pureSem P v_4 (Op.unary UnOp.not v_4)) fun v_7 =>
ifK v_7 (
some ((Value.tuple ⟨[]⟩), H_5, n_6)) (
bindO (addrV v2) fun a_9 => bindO (loadV P H_5 105 a_9) fun v_8 =>
bindO (nilV v_8) fun v_a =>
bindO (fieldAddrV P 117 v_a 0) fun v_b =>
bindO (fieldAddrV P 35 v_b 0) fun v_c =>
bindO (addrV v_c) fun a_e => bindO (loadV P H_5 31 a_e) fun v_d =>
bindO (lenV P 31 v_d) fun v_f =>
j1 v0 v1 v2 v_f (.int .i64 0) H_5 n_6)
noncomputable def C119_0 (cal : Cal) (k : Nat) (v0 v1 v2 : Value) (H : Hp) (n : Nat) : Res := B119_0 cal k (S119_1 cal k k) v0 v1 v2 H n
theorem h119_0 (cal : Cal) (k : Nat) (v0 v1 v2 : Value) (H : Hp) (n : Nat) : bodyE P cal A (k + 1) 119 [v0, v1, v2] H n = C119_0 cal k v0 v1 v2 H n := by
  have h : bodyE P cal A (k + 1) 119 [v0, v1, v2] H n = B119_0 cal k (fun u0 u1 u2 u14 u15 H n => labK (E119_1 cal k k) (Tr.set (Tr.set (Tr.set (Tr.set (Tr.set Tr.nil 15 (some u15)) 14 (some u14)) 2 (some u2)) 1 (some u1)) 0 (some u0)) H n []) v0 v1 v2 H n := by
    rw [body_eq (fn := Go.Proofs.Try.f119) (c := code119) (rs := results119) (by kernel_rfl) (by kernel_rfl) (by kernel_rfl) (by kernel_rfl)]
    kernel_rfl
  rw [h, C119_0]
  have e1 : (fun u0 u1 u2 u14 u15 H n => labK (E119_1 cal k k) (Tr.set (Tr.set (Tr.set (Tr.set (Tr.set Tr.nil 15 (some u15)) 14 (some u14)) 2 (some u2)) 1 (some u1)) 0 (some u0)) H n []) = (S119_1 cal k k) := by funext u0 u1 u2 u14 u15 H n; exact q119_1 ..
  rw [e1]
noncomputable def code120 : Code := codeOf 120
noncomputable def results120 : List ResultVar := resOf 120
noncomputable def K120_p (cal : Cal) (k : Nat) : KR := (cutK (A 120).c (codeE P cal (codeF P cal k) none 120 (cR code120) (Lv.b (A 120)) (doneK P results120) X0 (doneK P results120)))
noncomputable def K120_pr (cal : Cal) (k : Nat) : KR := (cutK (Lv.b (A 120)).c (codeE P cal (codeF P cal k) none 120 (cR (cR code120)) (Lv.b (Lv.b (A 120))) (doneK P results120) X0 (doneK P results120)))
noncomputable def K120_prr (cal : Cal) (k : Nat) : KR := (cutK (Lv.b (Lv.b (A 120))).c (codeE P cal (codeF P cal k) none 120 (cR (cR (cR code120))) (Lv.b (Lv.b (Lv.b (A 120)))) (doneK P results120) X0 (doneK P results120)))
noncomputable def B120_0 (cal : Cal) (k : Nat) (v0 v1 v2 : Value) (H : Hp) (n : Nat) : Res :=
boxK 113 v0 H n fun v_1 H_2 n_3 =>
boxK 179 v2 H_2 n_3 fun v_4 H_5 n_6 =>
bindO (addrV v_1) fun a_8 => bindO (loadV P H_5 113 a_8) fun v_9 =>
bindO (fieldAddrV P 179 v_4 1) fun v_a =>
bindO (addrV v_a) fun a_b => bindO (loadV P H_5 129 a_b) fun v_c =>
bindO (fieldAddrV P 179 v_4 1) fun v_d =>
bindO (addrV v_d) fun a_e => bindO (loadV P H_5 129 a_e) fun v_f =>
bindO (fieldAddrV P 113 v_1 1) fun v_h =>
bindO (indexAddrV P 111 v_h v1) fun v_i =>
bindO (addrV v_i) fun a_j => bindO (loadV P H_5 53 a_j) fun v_k =>
effK P [(.l 53 a_j), (.l 129 a_e)] H_5 n_6 (fun H_l n_m k_n =>
callFK P cal 98 [v_9, v_c] H_l n_m fun v_r H_s n_t =>
k_n v_r H_s n_t) fun v_o H_p n_q =>
callVK P cal v_f [v_k] H_p n_q fun v_u H_v n_w =>
binK P .sub 3 (.tmp 11) (.tmp 18) v_o v_u fun v_x =>
bindO (fieldAddrV P 179 v_4 2) fun v_z =>
bindO (addrV v_z) fun a_10 => bindO (loadV P H_v 160 a_10) fun v_11 =>
bindO (fieldAddrV P 179 v_4 0) fun v_12 =>
bindO (addrV v_12) fun a_13 => bindO (loadV P H_v 129 a_13) fun v_14 =>
bindO (fieldAddrV P 113 v_1 1) fun v_16 =>
bindO (indexAddrV P 111 v_16 v1) fun v_17 =>
bindO (addrV v_17) fun a_18 => bindO (loadV P H_v 53 a_18) fun v_19 =>
bindO (fieldAddrV P 113 v_1 0) fun v_1a =>
bindO (addrV v_1a) fun a_1b => bindO (loadV P H_v 3 a_1b) fun v_1c =>
binK P .sub 3 (.tmp 30) (.tmp 31) v_1c v_x fun v_1e =>
bindO (rowOf P 44 1 [(0, v_1e)]) fun q_1h => newK q_1h.1 q_1h.2 H_v n_w fun H_1f n_1g =>
effK P [(.a n_w q_1h.1 q_1h.2), (.l 3 a_1b), (.l 160 a_10)] H_1f n_1g (fun H_1i n_1j k_1k =>
callVK P cal v_14 [v_19] H_1i n_1j fun v_1o H_1p n_1q =>
k_1k v_1o H_1p n_1q) fun v_1l H_1m n_1n =>
callVK P cal v_11 [v_1l, (.slice (some ⟨n_w, 0, none⟩) 1 1)] H_1m n_1n fun v_1r H_1s n_1t =>
some (v_1r, H_1s, n_1t)
noncomputable def C120_0 (cal : Cal) (k : Nat) (v0 v1 v2 : Value) (H : Hp) (n : Nat) : Res := B120_0 cal k v0 v1 v2 H n
theorem h120_0 (cal : Cal) (k : Nat) (v0 v1 v2 : Value) (H : Hp) (n : Nat) : bodyE P cal A (k + 1) 120 [v0, v1, v2] H n = C120_0 cal k v0 v1 v2 H n := by
  have h : bodyE P cal A (k + 1) 120 [v0, v1, v2] H n = B120_0 cal k v0 v1 v2 H n := by
    rw [body_eq (fn := Go.Proofs.Try.f120) (c := code120) (rs := results120) (by kernel_rfl) (by kernel_rfl) (by kernel_rfl) (by kernel_rfl)]
    kernel_rfl
  rw [h, C120_0]
noncomputable def code121 : Code := codeOf 121
noncomputable def results121 : List ResultVar := resOf 121
noncomputable def K121_p (cal : Cal) (k : Nat) : KR := (cutK (A 121).c (codeE P cal (codeF P cal k) none 121 (cR code121) (Lv.b (A 121)) (doneK P results121) X0 (doneK P results121)))
noncomputable def K121_pr (cal : Cal) (k : Nat) : KR := (cutK (Lv.b (A 121)).c (codeE P cal (codeF P cal k) none 121 (cR (cR code121)) (Lv.b (Lv.b (A 121))) (doneK P results121) X0 (doneK P results121)))
noncomputable def B121_0 (cal : Cal) (k : Nat) (H : Hp) (n : Nat) : Res :=
allocK P 179 H n fun v_1 H_2 n_3 =>
bindO (buildP P 179 [(0, (Value.func (.func 72) #[] #[])), (1, (Value.func (.func 73) #[] #[])), (2, (Value.func (.func 106) #[] #[]))]) fun v_4 =>
bindO (storeP P 179 v_1 v_4 H_2) fun H_6 =>
bindO (resV P (Tr.set Tr.nil 0 (some v_1)) H_6 results121) fun v_7 => some (oneV v_7, H_6, n_3)
noncomputable def C121_0 (cal : Cal) (k : Nat) (H : Hp) (n : Nat) : Res := B121_0 cal k  H n
theorem h121_0 (cal : Cal) (k : Nat) (H : Hp) (n : Nat) : bodyE P cal A (k + 1) 121 [] H n = C121_0 cal k  H n := by
  have h : bodyE P cal A (k + 1) 121 [] H n = B121_0 cal k  H n := by
    rw [body_eq (fn := Go.Proofs.Try.f121) (c := code121) (rs := results121) (by kernel_rfl) (by kernel_rfl) (by kernel_rfl) (by kernel_rfl)]
    kernel_rfl
  rw [h, C121_0]
noncomputable def code122 : Code := codeOf 122
noncomputable def results122 : List ResultVar := resOf 122
noncomputable def K122_p (cal : Cal) (k : Nat) : KR := (cutK (A 122).c (codeE P cal (codeF P cal k) none 122 (cR code122) (Lv.b (A 122)) (doneK P results122) X0 (doneK P results122)))
noncomputable def K122_pr (cal : Cal) (k : Nat) : KR := (cutK (Lv.b (A 122)).c (codeE P cal (codeF P cal k) none 122 (cR (cR code122)) (Lv.b (Lv.b (A 122))) (doneK P results122) X0 (doneK P results122)))
noncomputable def B122_0 (cal : Cal) (k : Nat) (H : Hp) (n : Nat) : Res :=
allocK P 179 H n fun v_1 H_2 n_3 =>
bindO (buildP P 179 [(0, (Value.func (.func 73) #[] #[])), (1, (Value.func (.func 72) #[] #[])), (2, (Value.func (.func 105) #[] #[]))]) fun v_4 =>
bindO (storeP P 179 v_1 v_4 H_2) fun H_6 =>
bindO (resV P (Tr.set Tr.nil 0 (some v_1)) H_6 results122) fun v_7 => some (oneV v_7, H_6, n_3)
noncomputable def C122_0 (cal : Cal) (k : Nat) (H : Hp) (n : Nat) : Res := B122_0 cal k  H n
theorem h122_0 (cal : Cal) (k : Nat) (H : Hp) (n : Nat) : bodyE P cal A (k + 1) 122 [] H n = C122_0 cal k  H n := by
  have h : bodyE P cal A (k + 1) 122 [] H n = B122_0 cal k  H n := by
    rw [body_eq (fn := Go.Proofs.Try.f122) (c := code122) (rs := results122) (by kernel_rfl) (by kernel_rfl) (by kernel_rfl) (by kernel_rfl)]
    kernel_rfl
  rw [h, C122_0]
end Go.Proofs.Ytekajfobmnedjaa.G
