import Derived.Test.YtakjjillnllocaaG1
open Go Go.Ev
set_option maxRecDepth 1000000
set_option linter.unusedVariables false
noncomputable section
namespace Go.Proofs.Ytakjjillnllocaa.G
noncomputable def code4 : Code := codeOf 4
noncomputable def results4 : List ResultVar := resOf 4
noncomputable def K4_p (cal : Cal) (k : Nat) : KR := (cutK (A 4).c (codeE P cal (codeF P cal k) none 4 (cR code4) (Lv.b (A 4)) (doneK P results4) X0 (doneK P results4)))
noncomputable def K4_pr (cal : Cal) (k : Nat) : KR := (cutK (Lv.b (A 4)).c (codeE P cal (codeF P cal k) none 4 (cR (cR code4)) (Lv.b (Lv.b (A 4))) (doneK P results4) X0 (doneK P results4)))
noncomputable def K4_prl (cal : Cal) (k : Nat) : KR := (cutK (Lv.a (Lv.b (A 4))).c (codeE P cal (codeF P cal k) none 4 (cR (cL (cR code4))) (Lv.b (Lv.a (Lv.b (A 4)))) (K4_pr cal k) X0 (doneK P results4)))
noncomputable def K4_prlrl (cal : Cal) (k : Nat) : KR := (cutK (Lv.a (Lv.b (Lv.a (Lv.b (A 4))))).c (codeE P cal (codeF P cal k) none 4 (cR (cL (cR (cL (cR code4))))) (Lv.b (Lv.a (Lv.b (Lv.a (Lv.b (A 4)))))) (K4_pr cal k) X0 (doneK P results4)))
noncomputable def K4_prr (cal : Cal) (k : Nat) : KR := (cutK (Lv.b (Lv.b (A 4))).c (codeE P cal (codeF P cal k) none 4 (cR (cR (cR code4))) (Lv.b (Lv.b (Lv.b (A 4)))) (doneK P results4) X0 (doneK P results4)))
noncomputable def K4_prrr (cal : Cal) (k : Nat) : KR := (cutK (Lv.b (Lv.b (Lv.b (A 4)))).c (codeE P cal (codeF P cal k) none 4 (cR (cR (cR (cR code4)))) (Lv.b (Lv.b (Lv.b (Lv.b (A 4))))) (doneK P results4) X0 (doneK P results4)))
noncomputable def K4_prrrr (cal : Cal) (k : Nat) : KR := (cutK (Lv.b (Lv.b (Lv.b (Lv.b (A 4))))).c (codeE P cal (codeF P cal k) none 4 (cR (cR (cR (cR (cR code4))))) (Lv.b (Lv.b (Lv.b (Lv.b (Lv.b (A 4)))))) (doneK P results4) X0 (doneK P results4)))
noncomputable def K4_prrrrl (cal : Cal) (k : Nat) : KR := (cutK (Lv.a (Lv.b (Lv.b (Lv.b (Lv.b (A 4)))))).c (codeE P cal (codeF P cal k) none 4 (cR (cL (cR (cR (cR (cR code4)))))) (Lv.b (Lv.a (Lv.b (Lv.b (Lv.b (Lv.b (A 4))))))) (K4_prrrr cal k) X0 (doneK P results4)))
noncomputable def K4_prrrrlr (cal : Cal) (k : Nat) : KR := (cutK (Lv.b (Lv.a (Lv.b (Lv.b (Lv.b (Lv.b (A 4))))))).c (codeE P cal (codeF P cal k) none 4 (cR (cR (cL (cR (cR (cR (cR code4))))))) (Lv.b (Lv.b (Lv.a (Lv.b (Lv.b (Lv.b (Lv.b (A 4)))))))) (K4_prrrr cal k) X0 (doneK P results4)))
noncomputable def K4_prrrrlrrl (cal : Cal) (k : Nat) : KR := (cutK (Lv.a (Lv.b (Lv.b (Lv.a (Lv.b (Lv.b (Lv.b (Lv.b (A 4))))))))).c (codeE P cal (codeF P cal k) none 4 (cR (cL (cR (cR (cL (cR (cR (cR (cR code4))))))))) (Lv.b (Lv.a (Lv.b (Lv.b (Lv.a (Lv.b (Lv.b (Lv.b (Lv.b (A 4)))))))))) (K4_prrrr cal k) X0 (doneK P results4)))
noncomputable def K4_prrrrr (cal : Cal) (k : Nat) : KR := (cutK (Lv.b (Lv.b (Lv.b (Lv.b (Lv.b (A 4)))))).c (codeE P cal (codeF P cal k) none 4 (cR (cR (cR (cR (cR (cR code4)))))) (Lv.b (Lv.b (Lv.b (Lv.b (Lv.b (Lv.b (A 4))))))) (doneK P results4) X0 (doneK P results4)))
noncomputable def K4_prrrrrl (cal : Cal) (k : Nat) : KR := (cutK (Lv.a (Lv.b (Lv.b (Lv.b (Lv.b (Lv.b (A 4))))))).c (codeE P cal (codeF P cal k) none 4 (cR (cL (cR (cR (cR (cR (cR code4))))))) (Lv.b (Lv.a (Lv.b (Lv.b (Lv.b (Lv.b (Lv.b (A 4)))))))) (K4_prrrrr cal k) X0 (doneK P results4)))
noncomputable def K4_prrrrrlrl (cal : Cal) (k : Nat) : KR := (cutK (Lv.a (Lv.b (Lv.a (Lv.b (Lv.b (Lv.b (Lv.b (Lv.b (A 4))))))))).c (codeE P cal (codeF P cal k) none 4 (cR (cL (cR (cL (cR (cR (cR (cR (cR code4))))))))) (Lv.b (Lv.a (Lv.b (Lv.a (Lv.b (Lv.b (Lv.b (Lv.b (Lv.b (A 4)))))))))) (K4_prrrrr cal k) X0 (doneK P results4)))
noncomputable def K4_prrrrrr (cal : Cal) (k : Nat) : KR := (cutK (Lv.b (Lv.b (Lv.b (Lv.b (Lv.b (Lv.b (A 4))))))).c (codeE P cal (codeF P cal k) none 4 (cR (cR (cR (cR (cR (cR (cR code4))))))) (Lv.b (Lv.b (Lv.b (Lv.b (Lv.b (Lv.b (Lv.b (A 4)))))))) (doneK P results4) X0 (doneK P results4)))
noncomputable def K4_prrrrrrr (cal : Cal) (k : Nat) : KR := (cutK (Lv.b (Lv.b (Lv.b (Lv.b (Lv.b (Lv.b (Lv.b (A 4)))))))).c (codeE P cal (codeF P cal k) none 4 (cR (cR (cR (cR (cR (cR (cR (cR code4)))))))) (Lv.b (Lv.b (Lv.b (Lv.b (Lv.b (Lv.b (Lv.b (Lv.b (A 4))))))))) (doneK P results4) X0 (doneK P results4)))
noncomputable def K4_prrrrrrrl (cal : Cal) (k : Nat) : KR := (cutK (Lv.a (Lv.b (Lv.b (Lv.b (Lv.b (Lv.b (Lv.b (Lv.b (A 4))))))))).c (codeE P cal (codeF P cal k) none 4 (cR (cL (cR (cR (cR (cR (cR (cR (cR code4))))))))) (Lv.b (Lv.a (Lv.b (Lv.b (Lv.b (Lv.b (Lv.b (Lv.b (Lv.b (A 4)))))))))) (K4_prrrrrrr cal k) X0 (doneK P results4)))
noncomputable def K4_pxrrrrrrrlr (cal : Cal) (k : Nat) : XR := (upX 0 (K4_prrrrrrr cal k) X0)
noncomputable def K4_prrrrrrrlrl (cal : Cal) (k : Nat) (m1 : Nat) : KR := (fun T H n D => codeF P cal m1 (Lv.a (Lv.b (Lv.a (Lv.b (Lv.b (Lv.b (Lv.b (Lv.b (Lv.b (Lv.b (A 4))))))))))) none 4 (cL (cR (cL (cR (cR (cR (cR (cR (cR (cR code4)))))))))) (K4_prrrrrrr cal k) (K4_pxrrrrrrrlr cal k) (doneK P results4) (cutT (Lv.a (Lv.b (Lv.a (Lv.b (Lv.b (Lv.b (Lv.b (Lv.b (Lv.b (Lv.b (A 4))))))))))).c T) H n D)
noncomputable def K4_prrrrrrrlrll (cal : Cal) (k : Nat) (m1 : Nat) : KR := (cutK (Lv.a (Lv.a (Lv.b (Lv.a (Lv.b (Lv.b (Lv.b (Lv.b (Lv.b (Lv.b (Lv.b (A 4)))))))))))).c (codeE P cal (codeF P cal m1) none 4 (cR (cL (cL (cR (cL (cR (cR (cR (cR (cR (cR (cR code4)))))))))))) (Lv.b (Lv.a (Lv.a (Lv.b (Lv.a (Lv.b (Lv.b (Lv.b (Lv.b (Lv.b (Lv.b (Lv.b (A 4))))))))))))) (K4_prrrrrrrlrl cal k m1) (K4_pxrrrrrrrlr cal k) (doneK P results4)))
noncomputable def K4_prrrrrrrlrlll (cal : Cal) (k : Nat) (m1 : Nat) : KR := (cutK (Lv.a (Lv.a (Lv.a (Lv.b (Lv.a (Lv.b (Lv.b (Lv.b (Lv.b (Lv.b (Lv.b (Lv.b (A 4))))))))))))).c (codeE P cal (codeF P cal m1) none 4 (cR (cL (cL (cL (cR (cL (cR (cR (cR (cR (cR (cR (cR code4))))))))))))) (Lv.b (Lv.a (Lv.a (Lv.a (Lv.b (Lv.a (Lv.b (Lv.b (Lv.b (Lv.b (Lv.b (Lv.b (Lv.b (A 4)))))))))))))) (K4_prrrrrrrlrll cal k m1) (K4_pxrrrrrrrlr cal k) (doneK P results4)))
noncomputable def K4_prrrrrrrlrllr (cal : Cal) (k : Nat) (m1 : Nat) : KR := (cutK (Lv.b (Lv.a (Lv.a (Lv.b (Lv.a (Lv.b (Lv.b (Lv.b (Lv.b (Lv.b (Lv.b (Lv.b (A 4))))))))))))).c (codeE P cal (codeF P cal m1) none 4 (cR (cR (cL (cL (cR (cL (cR (cR (cR (cR (cR (cR (cR code4))))))))))))) (Lv.b (Lv.b (Lv.a (Lv.a (Lv.b (Lv.a (Lv.b (Lv.b (Lv.b (Lv.b (Lv.b (Lv.b (Lv.b (A 4)))))))))))))) (K4_prrrrrrrlrl cal k m1) (K4_pxrrrrrrrlr cal k) (doneK P results4)))
noncomputable def K4_pxrrrrrrrlrllrl (cal : Cal) (k : Nat) (m1 : Nat) : XR := (upX 1 (K4_prrrrrrrlrllr cal k m1) (K4_pxrrrrrrrlr cal k))
noncomputable def K4_prrrrrrrlrllrll (cal : Cal) (k : Nat) (m1 : Nat) : KR := (cutK (Lv.a (Lv.a (Lv.b (Lv.a (Lv.a (Lv.b (Lv.a (Lv.b (Lv.b (Lv.b (Lv.b (Lv.b (Lv.b (Lv.b (A 4))))))))))))))).c (codeE P cal (codeF P cal m1) none 4 (cR (cL (cL (cR (cL (cL (cR (cL (cR (cR (cR (cR (cR (cR (cR code4))))))))))))))) (Lv.b (Lv.a (Lv.a (Lv.b (Lv.a (Lv.a (Lv.b (Lv.a (Lv.b (Lv.b (Lv.b (Lv.b (Lv.b (Lv.b (Lv.b (A 4)))))))))))))))) (K4_prrrrrrrlrllr cal k m1) (K4_pxrrrrrrrlrllrl cal k m1) (doneK P results4)))
noncomputable def K4_prrrrrrrlrllrlll (cal : Cal) (k : Nat) (m1 : Nat) : KR := (cutK (Lv.a (Lv.a (Lv.a (Lv.b (Lv.a (Lv.a (Lv.b (Lv.a (Lv.b (Lv.b (Lv.b (Lv.b (Lv.b (Lv.b (Lv.b (A 4)))))))))))))))).c (codeE P cal (codeF P cal m1) none 4 (cR (cL (cL (cL (cR (cL (cL (cR (cL (cR (cR (cR (cR (cR (cR (cR code4)))))))))))))))) (Lv.b (Lv.a (Lv.a (Lv.a (Lv.b (Lv.a (Lv.a (Lv.b (Lv.a (Lv.b (Lv.b (Lv.b (Lv.b (Lv.b (Lv.b (Lv.b (A 4))))))))))))))))) (K4_prrrrrrrlrllrll cal k m1) (K4_pxrrrrrrrlrllrl cal k m1) (doneK P results4)))
noncomputable def K4_prrrrrrrlrllrlllrl (cal : Cal) (k : Nat) (m1 : Nat) : KR := (cutK (Lv.a (Lv.b (Lv.a (Lv.a (Lv.a (Lv.b (Lv.a (Lv.a (Lv.b (Lv.a (Lv.b (Lv.b (Lv.b (Lv.b (Lv.b (Lv.b (Lv.b (A 4)))))))))))))))))).c (codeE P cal (codeF P cal m1) none 4 (cR (cL (cR (cL (cL (cL (cR (cL (cL (cR (cL (cR (cR (cR (cR (cR (cR (cR code4)))))))))))))))))) (Lv.b (Lv.a (Lv.b (Lv.a (Lv.a (Lv.a (Lv.b (Lv.a (Lv.a (Lv.b (Lv.a (Lv.b (Lv.b (Lv.b (Lv.b (Lv.b (Lv.b (Lv.b (A 4))))))))))))))))))) (K4_prrrrrrrlrllrll cal k m1) (K4_pxrrrrrrrlrllrl cal k m1) (doneK P results4)))
noncomputable def K4_prrrrrrrlrllrllrr (cal : Cal) (k : Nat) (m1 : Nat) : KR := (cutK (Lv.b (Lv.b (Lv.a (Lv.a (Lv.b (Lv.a (Lv.a (Lv.b (Lv.a (Lv.b (Lv.b (Lv.b (Lv.b (Lv.b (Lv.b (Lv.b (A 4))))))))))))))))).c (codeE P cal (codeF P cal m1) none 4 (cR (cR (cR (cL (cL (cR (cL (cL (cR (cL (cR (cR (cR (cR (cR (cR (cR code4))))))))))))))))) (Lv.b (Lv.b (Lv.b (Lv.a (Lv.a (Lv.b (Lv.a (Lv.a (Lv.b (Lv.a (Lv.b (Lv.b (Lv.b (Lv.b (Lv.b (Lv.b (Lv.b (A 4)))))))))))))))))) (K4_prrrrrrrlrllr cal k m1) (K4_pxrrrrrrrlrllrl cal k m1) (doneK P results4)))
noncomputable def K4_prrrrrrrlrllrllr (cal : Cal) (k : Nat) (m1 : Nat) : KR := (cutK (Lv.b (Lv.a (Lv.a (Lv.b (Lv.a (Lv.a (Lv.b (Lv.a (Lv.b (Lv.b (Lv.b (Lv.b (Lv.b (Lv.b (Lv.b (A 4)))))))))))))))).c (codeE P cal (codeF P cal m1) none 4 (cR (cR (cL (cL (cR (cL (cL (cR (cL (cR (cR (cR (cR (cR (cR (cR code4)))))))))))))))) (Lv.b (Lv.b (Lv.a (Lv.a (Lv.b (Lv.a (Lv.a (Lv.b (Lv.a (Lv.b (Lv.b (Lv.b (Lv.b (Lv.b (Lv.b (Lv.b (A 4))))))))))))))))) (K4_prrrrrrrlrllr cal k m1) (K4_pxrrrrrrrlrllrl cal k m1) (doneK P results4)))
noncomputable def K4_prrrrrrrlrllrllrl (cal : Cal) (k : Nat) (m1 : Nat) : KR := (cutK (Lv.a (Lv.b (Lv.a (Lv.a (Lv.b (Lv.a (Lv.a (Lv.b (Lv.a (Lv.b (Lv.b (Lv.b (Lv.b (Lv.b (Lv.b (Lv.b (A 4))))))))))))))))).c (codeE P cal (codeF P cal m1) none 4 (cR (cL (cR (cL (cL (cR (cL (cL (cR (cL (cR (cR (cR (cR (cR (cR (cR code4))))))))))))))))) (Lv.b (Lv.a (Lv.b (Lv.a (Lv.a (Lv.b (Lv.a (Lv.a (Lv.b (Lv.a (Lv.b (Lv.b (Lv.b (Lv.b (Lv.b (Lv.b (Lv.b (A 4)))))))))))))))))) (K4_prrrrrrrlrllrllr cal k m1) (K4_pxrrrrrrrlrllrl cal k m1) (doneK P results4)))
noncomputable def K4_prrrrrrrr (cal : Cal) (k : Nat) : KR := (cutK (Lv.b (Lv.b (Lv.b (Lv.b (Lv.b (Lv.b (Lv.b (Lv.b (A 4))))))))).c (codeE P cal (codeF P cal k) none 4 (cR (cR (cR (cR (cR (cR (cR (cR (cR code4))))))))) (Lv.b (Lv.b (Lv.b (Lv.b (Lv.b (Lv.b (Lv.b (Lv.b (Lv.b (A 4)))))))))) (doneK P results4) X0 (doneK P results4)))
noncomputable def E4_2 (cal : Cal) (k m1 : Nat) : KR := codeE P cal (codeF P cal m1) none 4 (cR (cR (cL (cL (cR (cL (cR (cR (cR (cR (cR (cR (cR code4))))))))))))) (Lv.b (Lv.b (Lv.a (Lv.a (Lv.b (Lv.a (Lv.b (Lv.b (Lv.b (Lv.b (Lv.b (Lv.b (Lv.b (A 4)))))))))))))) (K4_prrrrrrrlrl cal k m1) (K4_pxrrrrrrrlr cal k) (doneK P results4)
noncomputable def E4_3 (cal : Cal) (k m1 : Nat) : KR := codeE P cal (codeF P cal m1) none 4 (cR (cR (cL (cL (cR (cL (cL (cR (cL (cR (cR (cR (cR (cR (cR (cR code4)))))))))))))))) (Lv.b (Lv.b (Lv.a (Lv.a (Lv.b (Lv.a (Lv.a (Lv.b (Lv.a (Lv.b (Lv.b (Lv.b (Lv.b (Lv.b (Lv.b (Lv.b (A 4))))))))))))))))) (K4_prrrrrrrlrllr cal k m1) (K4_pxrrrrrrrlrllrl cal k m1) (doneK P results4)
noncomputable def E4_1 (cal : Cal) (k m1 : Nat) : KR := codeE P cal (codeF P cal m1) none 4 (cL (cL (cR (cL (cR (cR (cR (cR (cR (cR (cR code4))))))))))) (Lv.a (Lv.a (Lv.b (Lv.a (Lv.b (Lv.b (Lv.b (Lv.b (Lv.b (Lv.b (Lv.b (A 4)))))))))))) (K4_prrrrrrrlrl cal k m1) (K4_pxrrrrrrrlr cal k) (doneK P results4)
noncomputable def R4_1 (cal : Cal) (k m1 : Nat) : V8 := fun u1 u2 u5 u7 u8 u11 u12 u13 H n => codeF P cal m1 (Lv.a (Lv.b (Lv.a (Lv.b (Lv.b (Lv.b (Lv.b (Lv.b (Lv.b (Lv.b (A 4))))))))))) none 4 (cL (cR (cL (cR (cR (cR (cR (cR (cR (cR code4)))))))))) (K4_prrrrrrr cal k) (K4_pxrrrrrrrlr cal k) (doneK P results4) (Tr.set (Tr.set (Tr.set (Tr.set (Tr.set (Tr.set (Tr.set (Tr.set Tr.nil 13 (some u13)) 12 (some u12)) 11 (some u11)) 8 (some u8)) 7 (some u7)) 5 (some u5)) 2 (some u2)) 1 (some u1)) H n []
noncomputable def B4_2 (cal : Cal) (k m1 : Nat) (b1 : V8) (u1 u2 u5 u7 u8 u11 u12 u13 : Value) (H : Hp) (n : Nat) : Res :=
binK P .add 3 (.tmp 80) (.const (.int .i64 1)) u13 (.int .i64 1) fun v_58 =>
b1 u1 u2 u5 u7 u8 u11 u12 v_58 H n
noncomputable def C4_2 (cal : Cal) (k m1 : Nat) (b1 : V8) (u1 u2 u5 u7 u8 u11 u12 u13 : Value) (H : Hp) (n : Nat) : Res := B4_2 cal k m1 b1 u1 u2 u5 u7 u8 u11 u12 u13 H n
theorem h4_2 (cal : Cal) (k m1 : Nat) (u1 u2 u5 u7 u8 u11 u12 u13 : Value) (H : Hp) (n : Nat) : labK (E4_2 cal k m1) (Tr.set (Tr.set (Tr.set (Tr.set (Tr.set (Tr.set (Tr.set (Tr.set Tr.nil 13 (some u13)) 12 (some u12)) 11 (some u11)) 8 (some u8)) 7 (some u7)) 5 (some u5)) 2 (some u2)) 1 (some u1)) H n [] = C4_2 cal k m1 (R4_1 cal k m1) u1 u2 u5 u7 u8 u11 u12 u13 H n := by
  refine Eq.trans (b := B4_2 cal k m1 (R4_1 cal k m1) u1 u2 u5 u7 u8 u11 u12 u13 H n) (by kernel_rfl) ?_
  rw [C4_2]
noncomputable def B4_3 (cal : Cal) (k m1 : Nat) (j2 : V8) (b1 : V8) (u1 u2 u5 u7 u8 u11 u12 u13 : Value) (H : Hp) (n : Nat) : Res :=
bindO (addrV u2) fun a_64 => bindO (loadV P H 26 a_64) fun v_63 =>
callFK P cal 29 [v_63, u1, u13] H n fun v_67 H_68 n_69 =>
ifK v_67 (
rowK P 44 1 [(0, u13)] H_68 n_69 fun v_6c H_6d n_6e =>
stK (appendV P (bare H_6d n_6e) 44 44 u12 v_6c) fun v_6f H_6g n_6h =>
j2 u1 u2 u5 u7 u8 u11 v_6f u13 H_6g n_6h) (
j2 u1 u2 u5 u7 u8 u11 u12 u13 H_68 n_69)
noncomputable def C4_3 (cal : Cal) (k m1 : Nat) (b1 : V8) (u1 u2 u5 u7 u8 u11 u12 u13 : Value) (H : Hp) (n : Nat) : Res := B4_3 cal k m1 (C4_2 cal k m1 b1) b1 u1 u2 u5 u7 u8 u11 u12 u13 H n
theorem h4_3 (cal : Cal) (k m1 : Nat) (u1 u2 u5 u7 u8 u11 u12 u13 : Value) (H : Hp) (n : Nat) : labK (E4_3 cal k m1) (Tr.set (Tr.set (Tr.set (Tr.set (Tr.set (Tr.set (Tr.set (Tr.set Tr.nil 13 (some u13)) 12 (some u12)) 11 (some u11)) 8 (some u8)) 7 (some u7)) 5 (some u5)) 2 (some u2)) 1 (some u1)) H n [] = C4_3 cal k m1 (R4_1 cal k m1) u1 u2 u5 u7 u8 u11 u12 u13 H n := by
  refine Eq.trans (b := B4_3 cal k m1 (fun u1 u2 u5 u7 u8 u11 u12 u13 H n => labK (E4_2 cal k m1) (Tr.set (Tr.set (Tr.set (Tr.set (Tr.set (Tr.set (Tr.set (Tr.set Tr.nil 13 (some u13)) 12 (some u12)) 11 (some u11)) 8 (some u8)) 7 (some u7)) 5 (some u5)) 2 (some u2)) 1 (some u1)) H n []) (R4_1 cal k m1) u1 u2 u5 u7 u8 u11 u12 u13 H n) (by kernel_rfl) ?_
  rw [C4_3]
  have e2 : (fun u1 u2 u5 u7 u8 u11 u12 u13 H n => labK (E4_2 cal k m1) (Tr.set (Tr.set (Tr.set (Tr.set (Tr.set (Tr.set (Tr.set (Tr.set Tr.nil 13 (some u13)) 12 (some u12)) 11 (some u11)) 8 (some u8)) 7 (some u7)) 5 (some u5)) 2 (some u2)) 1 (some u1)) H n []) = (C4_2 cal k m1 (R4_1 cal k m1)) := by funext u1 u2 u5 u7 u8 u11 u12 u13 H n; exact h4_2 ..
  rw [e2]
noncomputable def B4_1 (cal : Cal) (k m1 : Nat) (j3 : V8) (b1 : V8) (u1 u2 u5 u7 u8 u11 u12 u13 : Value) (H : Hp) (n : Nat) : Res :=
bindO (lenV P 44 u1) fun v_55 =>
binK P .lss 3 (.tmp 76) (.tmp 78) u13 v_55 fun v_56 =>
ifK v_56 (
bindO (indexAddrV P 45 u5 u13) fun v_5c =>
bindO (addrV v_5c) fun a_5d => bindO (loadV P H 53 a_5d) fun v_5e =>
bindO (addrV u2) fun a_5f => bindO (loadV P H 26 a_5f) fun v_5g =>
effK P [(.l 53 a_5d)] H n (fun H_5j n_5k k_5l =>
callFK P cal 27 [v_5g, u1, u13] H_5j n_5k fun v_5p H_5q n_5r =>
k_5l v_5p H_5q n_5r) fun v_5m H_5n n_5o =>
effK P [(.l 53 a_5d)] H_5n n_5o (fun H_5s n_5t k_5u =>
callFK P cal 26 [v_5m] H_5s n_5t fun v_5y H_5z n_60 =>
k_5u v_5y H_5z n_60) fun v_5v H_5w n_5x =>
binK P .neq 53 (.tmp 85) (.tmp 90) v_5e v_5v fun v_61 =>
ifK v_61 (
some ((.bool false), H_5w, n_5x)) (
bindO (addrV u2) fun a_6k => bindO (loadV P H_5w 26 a_6k) fun v_6j =>
callFK P cal 28 [v_6j, u1, u13] H_5w n_5x fun v_6n H_6o n_6p =>
ifK v_6n (
rowK P 44 1 [(0, u13)] H_6o n_6p fun v_6s H_6t n_6u =>
stK (appendV P (bare H_6t n_6u) 44 44 u11 v_6s) fun v_6v H_6w n_6x =>
j3 u1 u2 u5 u7 u8 v_6v u12 u13 H_6w n_6x) (
j3 u1 u2 u5 u7 u8 u11 u12 u13 H_6o n_6p))) (
callFK P cal 30 [u7, u11] H n fun v_71 H_72 n_73 =>
guardK v_71 true (fun k_75 =>
k_75 u8 H_72 n_73) H_72 n_73 fun v_76 H_77 n_78 =>
guardK v_71 true (fun k_7a =>
k_7a u12 H_77 n_78) H_77 n_78 fun v_7b H_7c n_7d =>
guardK v_71 true (fun k_7f =>
callFK P cal 30 [v_76, v_7b] H_7c n_7d fun v_7j H_7k n_7l =>
k_7f v_7j H_7k n_7l) H_7c n_7d fun v_7g H_7h n_7i =>
bindO (pickV v_71 v_7g (.bool false)) fun v_7m =>
guardK v_7m true (fun k_7o =>
callFK P cal 16 [] H_7h n_7i fun v_7s H_7t n_7u =>
k_7o v_7s H_7t n_7u) H_7h n_7i fun v_7p H_7q n_7r =>
bindO (pickV v_7m v_7p (.bool false)) fun v_7v =>
some (v_7v, H_7q, n_7r))
noncomputable def C4_1 (cal : Cal) (k m1 : Nat) (b1 : V8) (u1 u2 u5 u7 u8 u11 u12 u13 : Value) (H : Hp) (n : Nat) : Res := B4_1 cal k m1 (C4_3 cal k m1 b1) b1 u1 u2 u5 u7 u8 u11 u12 u13 H n
noncomputable def S4_1 (cal : Cal) (k : Nat) : Nat → V8 := fun m => Nat.rec (motive := fun _ => V8) (C4_1 cal k 0 (fun _ _ _ _ _ _ _ _ _ _ => none)) (fun m ih => C4_1 cal k (m + 1) ih) m
theorem h4_1 (cal : Cal) (k m1 : Nat) (u1 u2 u5 u7 u8 u11 u12 u13 : Value) (H : Hp) (n : Nat) : labK (E4_1 cal k m1) (Tr.set (Tr.set (Tr.set (Tr.set (Tr.set (Tr.set (Tr.set (Tr.set Tr.nil 13 (some u13)) 12 (some u12)) 11 (some u11)) 8 (some u8)) 7 (some u7)) 5 (some u5)) 2 (some u2)) 1 (some u1)) H n [] = C4_1 cal k m1 (R4_1 cal k m1) u1 u2 u5 u7 u8 u11 u12 u13 H n := by
  refine Eq.trans (b := B4_1 cal k m1 (fun u1 u2 u5 u7 u8 u11 u12 u13 H n => labK (E4_3 cal k m1) (Tr.set (Tr.set (Tr.set (Tr.set (Tr.set (Tr.set (Tr.set (Tr.set Tr.nil 13 (some u13)) 12 (some u12)) 11 (some u11)) 8 (some u8)) 7 (some u7)) 5 (some u5)) 2 (some u2)) 1 (some u1)) H n []) (R4_1 cal k m1) u1 u2 u5 u7 u8 u11 u12 u13 H n) (by kernel_rfl) ?_
  rw [C4_1]
  have e3 : (fun u1 u2 u5 u7 u8 u11 u12 u13 H n => labK (E4_3 cal k m1) (Tr.set (Tr.set (Tr.set (Tr.set (Tr.set (Tr.set (Tr.set (Tr.set Tr.nil 13 (some u13)) 12 (some u12)) 11 (some u11)) 8 (some u8)) 7 (some u7)) 5 (some u5)) 2 (some u2)) 1 (some u1)) H n []) = (C4_3 cal k m1 (R4_1 cal k m1)) := by funext u1 u2 u5 u7 u8 u11 u12 u13 H n; exact h4_3 ..
  rw [e3]
theorem q4_1 (cal : Cal) (k : Nat) : ∀ (m : Nat) (u1 u2 u5 u7 u8 u11 u12 u13 : Value) (H : Hp) (n : Nat), labK (E4_1 cal k m) (Tr.set (Tr.set (Tr.set (Tr.set (Tr.set (Tr.set (Tr.set (Tr.set Tr.nil 13 (some u13)) 12 (some u12)) 11 (some u11)) 8 (some u8)) 7 (some u7)) 5 (some u5)) 2 (some u2)) 1 (some u1)) H n [] = S4_1 cal k m u1 u2 u5 u7 u8 u11 u12 u13 H n
  | 0, u1, u2, u5, u7, u8, u11, u12, u13, H, n => by
    rw [h4_1]
    have e : R4_1 cal k 0 = fun _ _ _ _ _ _ _ _ _ _ => none := by funext u1 u2 u5 u7 u8 u11 u12 u13 H n; kernel_rfl
    rw [e]; rfl
  | m + 1, u1, u2, u5, u7, u8, u11, u12, u13, H, n => by
    rw [h4_1]
    have e : R4_1 cal k (m + 1) = S4_1 cal k m := by
      funext u1 u2 u5 u7 u8 u11 u12 u13 H n
      have e : R4_1 cal k (m + 1) u1 u2 u5 u7 u8 u11 u12 u13 H n = labK (E4_1 cal k m) (Tr.set (Tr.set (Tr.set (Tr.set (Tr.set (Tr.set (Tr.set (Tr.set Tr.nil 13 (some u13)) 12 (some u12)) 11 (some u11)) 8 (some u8)) 7 (some u7)) 5 (some u5)) 2 (some u2)) 1 (some u1)) H n [] := by kernel_rfl
      rw [e]; exact q4_1 ..
    rw [e]; rfl
noncomputable def B4_0 (cal : Cal) (k : Nat) (j1 : V8) (v0 v1 : Value) (H : Hp) (n : Nat) : Res :=
boxK 26 v0 H n fun v_1 H_2 n_3 =>
bindO (addrV v_1) fun a_6 => bindO (loadV P H_2 26 a_6) fun v_5 =>
callFK P cal 15 [v_5, v1] H_2 n_3 fun v_8 H_9 n_a =>
bindO (pureSem P v_8 (Op.unary UnOp.not v_8)) fun v_b =>
ifK v_b (
callFK P cal 16 [] H_9 n_a fun v_c H_d n_e =>
some (v_c, H_d, n_e)) (
bindO (addrV v_1) fun a_h => bindO (loadV P H_9 26 a_h) fun v_g =>
callFK P cal 18 [v_g] H_9 n_a fun v_i H_j n_k =>
callFK P cal 23 [v1] H_j n_k fun v_m H_n n_o =>
callFK P cal 22 [v_i, v_m] H_n n_o fun v_p H_q n_r =>
bindO (tupV v_p 0) fun v_t =>
bindO (tupV v_p 1) fun v_u =>
bindO (addrV v_1) fun a_y => bindO (loadV P H_q 26 a_y) fun v_x =>
callFK P cal 18 [v_x] H_q n_r fun v_z H_10 n_11 =>
callFK P cal 23 [v1] H_10 n_11 fun v_13 H_14 n_15 =>
callFK P cal 24 [v_z, v_13] H_14 n_15 fun v_16 H_17 n_18 =>
bindO (tupV v_16 0) fun v_1a =>
bindO (tupV v_16 1) fun v_1b =>
bindO (tupV v_16 2) fun v_1c =>
bindO (addrV v_1) fun a_1h => bindO (loadV P H_17 26 a_1h) fun v_1g =>
callFK P cal 25 [v_1g, v1] H_17 n_18 fun v_1j H_1k n_1l =>
binK P .neq 29 (.tmp 39) (.const (.int .i64 0)) v_1j (.int .i64 0) fun v_1o =>
ifK v_1o (
binK P .eql 29 (.tmp 41) (.tmp 42) v_u v_1j fun v_1r =>
guardK v_1r true (fun k_1t =>
k_1t v_1c H_1k n_1l) H_1k n_1l fun v_1u H_1v n_1w =>
guardK v_1r true (fun k_1y =>
k_1y v_1j H_1v n_1w) H_1v n_1w fun v_1z H_20 n_21 =>
guardK v_1r true (fun k_23 =>
binK P .eql 29 (.tmp 45) (.tmp 46) v_1u v_1z fun v_27 =>
k_23 v_27 H_20 n_21) H_20 n_21 fun v_24 H_25 n_26 =>
bindO (pickV v_1r v_24 (.bool false)) fun v_28 =>
guardK v_28 true (fun k_2a =>
k_2a v_t H_25 n_26) H_25 n_26 fun v_2b H_2c n_2d =>
guardK v_28 true (fun k_2f =>
bindO (lenV P 45 v_2b) fun v_2j =>
k_2f v_2j H_2c n_2d) H_2c n_2d fun v_2g H_2h n_2i =>
guardK v_28 true (fun k_2k =>
k_2k v_1a H_2h n_2i) H_2h n_2i fun v_2l H_2m n_2n =>
guardK v_28 true (fun k_2p =>
bindO (lenV P 44 v_2l) fun v_2t =>
k_2p v_2t H_2m n_2n) H_2m n_2n fun v_2q H_2r n_2s =>
guardK v_28 true (fun k_2u =>
binK P .add 3 (.tmp 51) (.tmp 53) v_2g v_2q fun v_2y =>
k_2u v_2y H_2r n_2s) H_2r n_2s fun v_2v H_2w n_2x =>
guardK v_28 true (fun k_2z =>
k_2z v_1b H_2w n_2x) H_2w n_2x fun v_30 H_31 n_32 =>
guardK v_28 true (fun k_34 =>
bindO (lenV P 44 v_30) fun v_38 =>
k_34 v_38 H_31 n_32) H_31 n_32 fun v_35 H_36 n_37 =>
guardK v_28 true (fun k_39 =>
binK P .add 3 (.tmp 54) (.tmp 56) v_2v v_35 fun v_3d =>
k_39 v_3d H_36 n_37) H_36 n_37 fun v_3a H_3b n_3c =>
guardK v_28 true (fun k_3e =>
binK P .eql 3 (.tmp 57) (.const (.int .i64 0)) v_3a (.int .i64 0) fun v_3i =>
k_3e v_3i H_3b n_3c) H_3b n_3c fun v_3f H_3g n_3h =>
bindO (pickV v_28 v_3f (.bool false)) fun v_3j =>
guardK v_3j true (fun k_3l =>
callFK P cal 16 [] H_3g n_3h fun v_3p H_3q n_3r =>
k_3l v_3p H_3q n_3r) H_3g n_3h fun v_3m H_3n n_3o =>
bindO (pickV v_3j v_3m (.bool false)) fun v_3s =>
some (v_3s, H_3n, n_3o)) (
binK P .neq 29 (.tmp 63) (.const (.int .i64 0)) v_u (.int .i64 0) fun v_3v =>
guardK v_3v false (fun k_3x =>
k_3x v_1c H_1k n_1l) H_1k n_1l fun v_3y H_3z n_40 =>
guardK v_3v false (fun k_42 =>
binK P .neq 29 (.tmp 66) (.const (.int .i64 0)) v_3y (.int .i64 0) fun v_46 =>
k_42 v_46 H_3z n_40) H_3z n_40 fun v_43 H_44 n_45 =>
bindO (pickV v_3v (.bool true) v_43) fun v_47 =>
guardK v_47 false (fun k_49 =>
k_49 v_t H_44 n_45) H_44 n_45 fun v_4a H_4b n_4c =>
guardK v_47 false (fun k_4e =>
bindO (lenV P 45 v_4a) fun v_4i =>
k_4e v_4i H_4b n_4c) H_4b n_4c fun v_4f H_4g n_4h =>
guardK v_47 false (fun k_4j =>
k_4j v1 H_4g n_4h) H_4g n_4h fun v_4k H_4l n_4m =>
guardK v_47 false (fun k_4o =>
bindO (lenV P 44 v_4k) fun v_4s =>
k_4o v_4s H_4l n_4m) H_4l n_4m fun v_4p H_4q n_4r =>
guardK v_47 false (fun k_4t =>
binK P .neq 3 (.tmp 71) (.tmp 73) v_4f v_4p fun v_4x =>
k_4t v_4x H_4q n_4r) H_4q n_4r fun v_4u H_4v n_4w =>
bindO (pickV v_47 (.bool true) v_4u) fun v_4y =>
ifK v_4y (
some ((.bool false), H_4v, n_4w)) (
j1 v1 v_1 v_t v_1a v_1b (.slice none 0 0) (.slice none 0 0) (.int .i64 0) H_4v n_4w)))
noncomputable def C4_0 (cal : Cal) (k : Nat) (v0 v1 : Value) (H : Hp) (n : Nat) : Res := B4_0 cal k (S4_1 cal k k) v0 v1 H n
theorem h4_0 (cal : Cal) (k : Nat) (v0 v1 : Value) (H : Hp) (n : Nat) : bodyE P cal A (k + 1) 4 [v0, v1] H n = C4_0 cal k v0 v1 H n := by
  have h : bodyE P cal A (k + 1) 4 [v0, v1] H n = B4_0 cal k (fun u1 u2 u5 u7 u8 u11 u12 u13 H n => labK (E4_1 cal k k) (Tr.set (Tr.set (Tr.set (Tr.set (Tr.set (Tr.set (Tr.set (Tr.set Tr.nil 13 (some u13)) 12 (some u12)) 11 (some u11)) 8 (some u8)) 7 (some u7)) 5 (some u5)) 2 (some u2)) 1 (some u1)) H n []) v0 v1 H n := by
    rw [body_eq (fn := Go.Proofs.Try.f4) (c := code4) (rs := results4) (by kernel_rfl) (by kernel_rfl) (by kernel_rfl) (by kernel_rfl)]
    kernel_rfl
  rw [h, C4_0]
  have e1 : (fun u1 u2 u5 u7 u8 u11 u12 u13 H n => labK (E4_1 cal k k) (Tr.set (Tr.set (Tr.set (Tr.set (Tr.set (Tr.set (Tr.set (Tr.set Tr.nil 13 (some u13)) 12 (some u12)) 11 (some u11)) 8 (some u8)) 7 (some u7)) 5 (some u5)) 2 (some u2)) 1 (some u1)) H n []) = (S4_1 cal k k) := by funext u1 u2 u5 u7 u8 u11 u12 u13 H n; exact q4_1 ..
  rw [e1]
noncomputable def code15 : Code := codeOf 15
noncomputable def results15 : List ResultVar := resOf 15
noncomputable def K15_p (cal : Cal) (k : Nat) : KR := (cutK (A 15).c (codeE P cal (codeF P cal k) none 15 (cR code15) (Lv.b (A 15)) (doneK P results15) X0 (doneK P results15)))
noncomputable def K15_pr (cal : Cal) (k : Nat) : KR := (cutK (Lv.b (A 15)).c (codeE P cal (codeF P cal k) none 15 (cR (cR code15)) (Lv.b (Lv.b (A 15))) (doneK P results15) X0 (doneK P results15)))
noncomputable def B15_0 (cal : Cal) (k : Nat) (v0 v1 : Value) (H : Hp) (n : Nat) : Res :=
boxK 26 v0 H n fun v_1 H_2 n_3 =>
bindO (fieldAddrV P 26 v_1 0) fun v_5 =>
bindO (addrV v_5) fun a_7 => bindO (loadV P H_2 22 a_7) fun v_6 =>
bindO (lenV P 22 v_6) fun v_8 =>
binK P .leq 3 (.tmp 7) (.const (.int .i64 11)) v_8 (.int .i64 11) fun v_9 =>
guardK v_9 true (fun k_b =>
bindO (fieldAddrV P 26 v_1 1) fun v_f =>
k_b v_f H_2 n_3) H_2 n_3 fun v_c H_d n_e =>
guardK v_9 true (fun k_g =>
bindO (addrV v_c) fun a_l => bindO (loadV P H_d 23 a_l) fun v_k =>
k_g v_k H_d n_e) H_d n_e fun v_h H_i n_j =>
guardK v_9 true (fun k_m =>
bindO (lenV P 23 v_h) fun v_q =>
k_m v_q H_i n_j) H_i n_j fun v_n H_o n_p =>
guardK v_9 true (fun k_r =>
binK P .leq 3 (.tmp 12) (.const (.int .i64 19)) v_n (.int .i64 19) fun v_v =>
k_r v_v H_o n_p) H_o n_p fun v_s H_t n_u =>
bindO (pickV v_9 v_s (.bool false)) fun v_w =>
guardK v_w true (fun k_y =>
bindO (fieldAddrV P 26 v_1 2) fun v_12 =>
k_y v_12 H_t n_u) H_t n_u fun v_z H_10 n_11 =>
guardK v_w true (fun k_13 =>
bindO (addrV v_z) fun a_18 => bindO (loadV P H_10 24 a_18) fun v_17 =>
k_13 v_17 H_10 n_11) H_10 n_11 fun v_14 H_15 n_16 =>
guardK v_w true (fun k_19 =>
bindO (lenV P 24 v_14) fun v_1d =>
k_19 v_1d H_15 n_16) H_15 n_16 fun v_1a H_1b n_1c =>
guardK v_w true (fun k_1e =>
binK P .leq 3 (.tmp 18) (.const (.int .i64 6)) v_1a (.int .i64 6) fun v_1i =>
k_1e v_1i H_1b n_1c) H_1b n_1c fun v_1f H_1g n_1h =>
bindO (pickV v_w v_1f (.bool false)) fun v_1j =>
guardK v_1j true (fun k_1l =>
k_1l v1 H_1g n_1h) H_1g n_1h fun v_1m H_1n n_1o =>
guardK v_1j true (fun k_1q =>
bindO (lenV P 44 v_1m) fun v_1u =>
k_1q v_1u H_1n n_1o) H_1n n_1o fun v_1r H_1s n_1t =>
guardK v_1j true (fun k_1v =>
binK P .leq 3 (.tmp 23) (.const (.int .i64 11)) v_1r (.int .i64 11) fun v_1z =>
k_1v v_1z H_1s n_1t) H_1s n_1t fun v_1w H_1x n_1y =>
bindO (pickV v_1j v_1w (.bool false)) fun v_20 =>
some (v_20, H_1x, n_1y)
noncomputable def C15_0 (cal : Cal) (k : Nat) (v0 v1 : Value) (H : Hp) (n : Nat) : Res := B15_0 cal k v0 v1 H n
theorem h15_0 (cal : Cal) (k : Nat) (v0 v1 : Value) (H : Hp) (n : Nat) : bodyE P cal A (k + 1) 15 [v0, v1] H n = C15_0 cal k v0 v1 H n := by
  have h : bodyE P cal A (k + 1) 15 [v0, v1] H n = B15_0 cal k v0 v1 H n := by
    rw [body_eq (fn := Go.Proofs.Try.f15) (c := code15) (rs := results15) (by kernel_rfl) (by kernel_rfl) (by kernel_rfl) (by kernel_rfl)]
    kernel_rfl
  rw [h, C15_0]
noncomputable def code16 : Code := codeOf 16
noncomputable def results16 : List ResultVar := resOf 16
noncomputable def K16_p (cal : Cal) (k : Nat) : KR := (cutK (A 16).c (codeE P cal (codeF P cal k) none 16 (cR code16) (Lv.b (A 16)) (doneK P results16) X0 (doneK P results16)))
noncomputable def K16_pr (cal : Cal) (k : Nat) : KR := (cutK (Lv.b (A 16)).c (codeE P cal (codeF P cal k) none 16 (cR (cR code16)) (Lv.b (Lv.b (A 16))) (doneK P results16) X0 (doneK P results16)))
noncomputable def K16_prr (cal : Cal) (k : Nat) : KR := (cutK (Lv.b (Lv.b (A 16))).c (codeE P cal (codeF P cal k) none 16 (cR (cR (cR code16))) (Lv.b (Lv.b (Lv.b (A 16)))) (doneK P results16) X0 (doneK P results16)))
noncomputable def K16_prrr (cal : Cal) (k : Nat) : KR := (cutK (Lv.b (Lv.b (Lv.b (A 16)))).c (codeE P cal (codeF P cal k) none 16 (cR (cR (cR (cR code16)))) (Lv.b (Lv.b (Lv.b (Lv.b (A 16))))) (doneK P results16) X0 (doneK P results16)))
noncomputable def K16_prrrr (cal : Cal) (k : Nat) : KR := (cutK (Lv.b (Lv.b (Lv.b (Lv.b (A 16))))).c (codeE P cal (codeF P cal k) none 16 (cR (cR (cR (cR (cR code16))))) (Lv.b (Lv.b (Lv.b (Lv.b (Lv.b (A 16)))))) (doneK P results16) X0 (doneK P results16)))
noncomputable def K16_prrrrr (cal : Cal) (k : Nat) : KR := (cutK (Lv.b (Lv.b (Lv.b (Lv.b (Lv.b (A 16)))))).c (codeE P cal (codeF P cal k) none 16 (cR (cR (cR (cR (cR (cR code16)))))) (Lv.b (Lv.b (Lv.b (Lv.b (Lv.b (Lv.b (A 16))))))) (doneK P results16) X0 (doneK P results16)))
noncomputable def K16_prrrrrr (cal : Cal) (k : Nat) : KR := (cutK (Lv.b (Lv.b (Lv.b (Lv.b (Lv.b (Lv.b (A 16))))))).c (codeE P cal (codeF P cal k) none 16 (cR (cR (cR (cR (cR (cR (cR code16))))))) (Lv.b (Lv.b (Lv.b (Lv.b (Lv.b (Lv.b (Lv.b (A 16)))))))) (doneK P results16) X0 (doneK P results16)))
noncomputable def B16_0 (cal : Cal) (k : Nat) (H : Hp) (n : Nat) : Res :=
callFK P cal 52 [] H n fun v_2 H_3 n_4 =>
rowK P 44 2 [(0, (.int .i64 1)), (1, (.int .i64 3))] H_3 n_4 fun v_5 H_6 n_7 =>
callFK P cal 53 [v_5] H_6 n_7 fun v_8 H_9 n_a =>
callFK P cal 22 [v_2, v_8] H_9 n_a fun v_b H_c n_d =>
bindO (tupV v_b 0) fun v_f =>
bindO (tupV v_b 1) fun v_g =>
callFK P cal 52 [] H_c n_d fun v_j H_k n_l =>
rowK P 44 2 [(0, (.int .i64 0)), (1, (.int .i64 1))] H_k n_l fun v_m H_n n_o =>
callFK P cal 53 [v_m] H_n n_o fun v_p H_q n_r =>
callFK P cal 24 [v_j, v_p] H_q n_r fun v_s H_t n_u =>
bindO (tupV v_s 0) fun v_w =>
bindO (tupV v_s 1) fun v_x =>
bindO (tupV v_s 2) fun v_y =>
callFK P cal 52 [] H_t n_u fun v_12 H_13 n_14 =>
callFK P cal 42 [v_12] H_13 n_14 fun v_15 H_16 n_17 =>
bindO (tupV v_15 0) fun v_19 =>
bindO (tupV v_15 1) fun v_1a =>
bindO (tupV v_15 2) fun v_1b =>
callFK P cal 52 [] H_16 n_17 fun v_1f H_1g n_1h =>
rowK P 44 3 [(0, (.int .i64 1)), (1, (.int .i64 2)), (2, (.int .i64 3))] H_1g n_1h fun v_1i H_1j n_1k =>
callFK P cal 53 [v_1i] H_1j n_1k fun v_1l H_1m n_1n =>
callFK P cal 47 [v_1f, v_1l] H_1m n_1n fun v_1o H_1p n_1q =>
bindO (tupV v_1o 0) fun v_1s =>
bindO (tupV v_1o 1) fun v_1t =>
callFK P cal 52 [] H_1p n_1q fun v_1w H_1x n_1y =>
callFK P cal 48 [v_1w] H_1x n_1y fun v_1z H_20 n_21 =>
bindO (tupV v_1z 0) fun v_23 =>
bindO (tupV v_1z 1) fun v_24 =>
binK P .eql 29 (.tmp 46) (.const (.int .i64 0)) v_g (.int .i64 0) fun v_28 =>
guardD v_28 true (fun k_2a =>
k_2a v_f .p H_20 n_21) .p H_20 n_21 fun v_2b x_2c H_2d n_2e =>
guardD v_28 true (fun k_2g =>
bindO (lenV P 45 v_2b) fun v_2l =>
k_2g v_2l .p H_2d n_2e) .p H_2d n_2e fun v_2h x_2i H_2j n_2k =>
guardD v_28 true (fun k_2m =>
binK P .eql 3 (.tmp 50) (.const (.int .i64 5)) v_2h (.int .i64 5) fun v_2r =>
k_2m v_2r .p H_2j n_2k) .p H_2j n_2k fun v_2n x_2o H_2p n_2q =>
bindO (pickV v_28 v_2n (.bool false)) fun v_2s =>
guardD v_2s true (fun k_2u =>
k_2u v_f .p H_2p n_2q) .p H_2p n_2q fun v_2v x_2w H_2x n_2y =>
guardD v_2s true (fun k_30 =>
bindO (indexAddrV P 45 v_2v (.int .i64 0)) fun v_35 =>
k_30 v_35 .p H_2x n_2y) .p H_2x n_2y fun v_31 x_32 H_33 n_34 =>
guardD v_2s true (fun k_36 =>
bindO (addrV v_31) fun a_3b => bindO (loadV P H_33 53 a_3b) fun v_3c =>
k_36 v_3c (.l 53 a_3b) H_33 n_34) .p H_33 n_34 fun v_37 x_38 H_39 n_3a =>
guardD v_2s true (fun k_3d =>
effK P [x_38] H_39 n_3a (fun H_3i n_3j k_3k =>
callFK P cal 54 [(.int .i64 10), (.int .i64 20)] H_3i n_3j fun v_3o H_3p n_3q =>
k_3k v_3o H_3p n_3q) fun v_3l H_3m n_3n =>
k_3d v_3l .e H_3m n_3n) .e H_39 n_3a fun v_3e x_3f H_3g n_3h =>
guardD v_2s true (fun k_3r =>
binK P .eql 53 (.tmp 56) (.tmp 57) v_37 v_3e fun v_3w =>
k_3r v_3w .p H_3g n_3h) .p H_3g n_3h fun v_3s x_3t H_3u n_3v =>
bindO (pickV v_2s v_3s (.bool false)) fun v_3x =>
guardD v_3x true (fun k_3z =>
k_3z v_f .p H_3u n_3v) .p H_3u n_3v fun v_40 x_41 H_42 n_43 =>
guardD v_3x true (fun k_45 =>
bindO (indexAddrV P 45 v_40 (.int .i64 2)) fun v_4a =>
k_45 v_4a .p H_42 n_43) .p H_42 n_43 fun v_46 x_47 H_48 n_49 =>
guardD v_3x true (fun k_4b =>
bindO (addrV v_46) fun a_4g => bindO (loadV P H_48 53 a_4g) fun v_4h =>
k_4b v_4h (.l 53 a_4g) H_48 n_49) .p H_48 n_49 fun v_4c x_4d H_4e n_4f =>
guardD v_3x true (fun k_4i =>
effK P [x_4d] H_4e n_4f (fun H_4n n_4o k_4p =>
callFK P cal 54 [(.int .i64 20), (.int .i64 40)] H_4n n_4o fun v_4t H_4u n_4v =>
k_4p v_4t H_4u n_4v) fun v_4q H_4r n_4s =>
k_4i v_4q .e H_4r n_4s) .e H_4e n_4f fun v_4j x_4k H_4l n_4m =>
guardD v_3x true (fun k_4w =>
binK P .eql 53 (.tmp 63) (.tmp 64) v_4c v_4j fun v_51 =>
k_4w v_51 .p H_4l n_4m) .p H_4l n_4m fun v_4x x_4y H_4z n_50 =>
bindO (pickV v_3x v_4x (.bool false)) fun v_52 =>
guardD v_52 true (fun k_54 =>
k_54 v_y .p H_4z n_50) .p H_4z n_50 fun v_55 x_56 H_57 n_58 =>
guardD v_52 true (fun k_5a =>
binK P .eql 29 (.tmp 68) (.const (.int .i64 0)) v_55 (.int .i64 0) fun v_5f =>
k_5a v_5f .p H_57 n_58) .p H_57 n_58 fun v_5b x_5c H_5d n_5e =>
bindO (pickV v_52 v_5b (.bool false)) fun v_5g =>
guardD v_5g true (fun k_5i =>
k_5i v_w .p H_5d n_5e) .p H_5d n_5e fun v_5j x_5k H_5l n_5m =>
guardD v_5g true (fun k_5o =>
bindO (rowOf P 44 2 [(0, (.int .i64 3)), (1, (.int .i64 4))]) fun q_5v => newK q_5v.1 q_5v.2 H_5l n_5m fun H_5t n_5u =>
k_5o (.slice (some ⟨n_5m, 0, none⟩) 2 2) (.a n_5m q_5v.1 q_5v.2) H_5t n_5u) .p H_5l n_5m fun v_5p x_5q H_5r n_5s =>
guardD v_5g true (fun k_5w =>
callFK P cal 30 [v_5j, v_5p] H_5r n_5s fun v_61 H_62 n_63 =>
k_5w v_61 .e H_62 n_63) .e H_5r n_5s fun v_5x x_5y H_5z n_60 =>
bindO (pickV v_5g v_5x (.bool false)) fun v_64 =>
guardD v_64 true (fun k_66 =>
k_66 v_x .p H_5z n_60) .p H_5z n_60 fun v_67 x_68 H_69 n_6a =>
guardD v_64 true (fun k_6c =>
bindO (rowOf P 44 2 [(0, (.int .i64 0)), (1, (.int .i64 1))]) fun q_6j => newK q_6j.1 q_6j.2 H_69 n_6a fun H_6h n_6i =>
k_6c (.slice (some ⟨n_6a, 0, none⟩) 2 2) (.a n_6a q_6j.1 q_6j.2) H_6h n_6i) .p H_69 n_6a fun v_6d x_6e H_6f n_6g =>
guardD v_64 true (fun k_6k =>
callFK P cal 30 [v_67, v_6d] H_6f n_6g fun v_6p H_6q n_6r =>
k_6k v_6p .e H_6q n_6r) .e H_6f n_6g fun v_6l x_6m H_6n n_6o =>
bindO (pickV v_64 v_6l (.bool false)) fun v_6s =>
guardD v_6s true (fun k_6u =>
k_6u v_1b .p H_6n n_6o) .p H_6n n_6o fun v_6v x_6w H_6x n_6y =>
guardD v_6s true (fun k_70 =>
binK P .eql 29 (.tmp 82) (.const (.int .i64 0)) v_6v (.int .i64 0) fun v_75 =>
k_70 v_75 .p H_6x n_6y) .p H_6x n_6y fun v_71 x_72 H_73 n_74 =>
bindO (pickV v_6s v_71 (.bool false)) fun v_76 =>
guardD v_76 true (fun k_78 =>
k_78 v_19 .p H_73 n_74) .p H_73 n_74 fun v_79 x_7a H_7b n_7c =>
guardD v_76 true (fun k_7e =>
bindO (rowOf P 44 2 [(0, (.int .i64 1)), (1, (.int .i64 4))]) fun q_7l => newK q_7l.1 q_7l.2 H_7b n_7c fun H_7j n_7k =>
k_7e (.slice (some ⟨n_7c, 0, none⟩) 2 2) (.a n_7c q_7l.1 q_7l.2) H_7j n_7k) .p H_7b n_7c fun v_7f x_7g H_7h n_7i =>
guardD v_76 true (fun k_7m =>
callFK P cal 53 [v_7f] H_7h n_7i fun v_7r H_7s n_7t =>
k_7m v_7r .e H_7s n_7t) .e H_7h n_7i fun v_7n x_7o H_7p n_7q =>
guardD v_76 true (fun k_7u =>
callFK P cal 30 [v_79, v_7n] H_7p n_7q fun v_7z H_80 n_81 =>
k_7u v_7z .e H_80 n_81) .e H_7p n_7q fun v_7v x_7w H_7x n_7y =>
bindO (pickV v_76 v_7v (.bool false)) fun v_82 =>
guardD v_82 true (fun k_84 =>
k_84 v_1a .p H_7x n_7y) .p H_7x n_7y fun v_85 x_86 H_87 n_88 =>
guardD v_82 true (fun k_8a =>
binK P .eql 3 (.tmp 92) (.const (.int .i64 2)) v_85 (.int .i64 2) fun v_8f =>
k_8a v_8f .p H_87 n_88) .p H_87 n_88 fun v_8b x_8c H_8d n_8e =>
bindO (pickV v_82 v_8b (.bool false)) fun v_8g =>
guardD v_8g true (fun k_8i =>
k_8i v_1t .p H_8d n_8e) .p H_8d n_8e fun v_8j x_8k H_8l n_8m =>
guardD v_8g true (fun k_8o =>
binK P .eql 29 (.tmp 96) (.const (.int .i64 0)) v_8j (.int .i64 0) fun v_8t =>
k_8o v_8t .p H_8l n_8m) .p H_8l n_8m fun v_8p x_8q H_8r n_8s =>
bindO (pickV v_8g v_8p (.bool false)) fun v_8u =>
guardD v_8u true (fun k_8w =>
k_8w v_1s .p H_8r n_8s) .p H_8r n_8s fun v_8x x_8y H_8z n_90 =>
guardD v_8u true (fun k_92 =>
bindO (rowOf P 44 1 [(0, (.int .i64 2))]) fun q_99 => newK q_99.1 q_99.2 H_8z n_90 fun H_97 n_98 =>
k_92 (.slice (some ⟨n_90, 0, none⟩) 1 1) (.a n_90 q_99.1 q_99.2) H_97 n_98) .p H_8z n_90 fun v_93 x_94 H_95 n_96 =>
guardD v_8u true (fun k_9a =>
callFK P cal 30 [v_8x, v_93] H_95 n_96 fun v_9f H_9g n_9h =>
k_9a v_9f .e H_9g n_9h) .e H_95 n_96 fun v_9b x_9c H_9d n_9e =>
bindO (pickV v_8u v_9b (.bool false)) fun v_9i =>
guardD v_9i true (fun k_9k =>
k_9k v_24 .p H_9d n_9e) .p H_9d n_9e fun v_9l x_9m H_9n n_9o =>
guardD v_9i true (fun k_9q =>
binK P .eql 29 (.tmp 105) (.const (.int .i64 0)) v_9l (.int .i64 0) fun v_9v =>
k_9q v_9v .p H_9n n_9o) .p H_9n n_9o fun v_9r x_9s H_9t n_9u =>
bindO (pickV v_9i v_9r (.bool false)) fun v_9w =>
guardD v_9w true (fun k_9y =>
k_9y v_23 .p H_9t n_9u) .p H_9t n_9u fun v_9z x_a0 H_a1 n_a2 =>
guardD v_9w true (fun k_a4 =>
bindO (rowOf P 44 2 [(0, (.int .i64 0)), (1, (.int .i64 3))]) fun q_ab => newK q_ab.1 q_ab.2 H_a1 n_a2 fun H_a9 n_aa =>
k_a4 (.slice (some ⟨n_a2, 0, none⟩) 2 2) (.a n_a2 q_ab.1 q_ab.2) H_a9 n_aa) .p H_a1 n_a2 fun v_a5 x_a6 H_a7 n_a8 =>
guardD v_9w true (fun k_ac =>
callFK P cal 30 [v_9z, v_a5] H_a7 n_a8 fun v_ah H_ai n_aj =>
k_ac v_ah .e H_ai n_aj) .e H_a7 n_a8 fun v_ad x_ae H_af n_ag =>
bindO (pickV v_9w v_ad (.bool false)) fun v_ak =>
some (v_ak, H_af, n_ag)
noncomputable def C16_0 (cal : Cal) (k : Nat) (H : Hp) (n : Nat) : Res := B16_0 cal k  H n
theorem h16_0 (cal : Cal) (k : Nat) (H : Hp) (n : Nat) : bodyE P cal A (k + 1) 16 [] H n = C16_0 cal k  H n := by
  have h : bodyE P cal A (k + 1) 16 [] H n = B16_0 cal k  H n := by
    rw [body_eq (fn := Go.Proofs.Try.f16) (c := code16) (rs := results16) (by kernel_rfl) (by kernel_rfl) (by kernel_rfl) (by kernel_rfl)]
    kernel_rfl
  rw [h, C16_0]
noncomputable def code18 : Code := codeOf 18
noncomputable def results18 : List ResultVar := resOf 18
noncomputable def K18_p (cal : Cal) (k : Nat) : KR := (cutK (A 18).c (codeE P cal (codeF P cal k) none 18 (cR code18) (Lv.b (A 18)) (doneK P results18) X0 (doneK P results18)))
noncomputable def K18_pr (cal : Cal) (k : Nat) : KR := (cutK (Lv.b (A 18)).c (codeE P cal (codeF P cal k) none 18 (cR (cR code18)) (Lv.b (Lv.b (A 18))) (doneK P results18) X0 (doneK P results18)))
noncomputable def K18_prr (cal : Cal) (k : Nat) : KR := (cutK (Lv.b (Lv.b (A 18))).c (codeE P cal (codeF P cal k) none 18 (cR (cR (cR code18))) (Lv.b (Lv.b (Lv.b (A 18)))) (doneK P results18) X0 (doneK P results18)))
noncomputable def K18_prrl (cal : Cal) (k : Nat) : KR := (cutK (Lv.a (Lv.b (Lv.b (A 18)))).c (codeE P cal (codeF P cal k) none 18 (cR (cL (cR (cR code18)))) (Lv.b (Lv.a (Lv.b (Lv.b (A 18))))) (K18_prr cal k) X0 (doneK P results18)))
noncomputable def K18_pxrrlr (cal : Cal) (k : Nat) : XR := (upX 0 (K18_prr cal k) X0)
noncomputable def K18_prrlrl (cal : Cal) (k : Nat) (m1 : Nat) : KR := (fun T H n D => codeF P cal m1 (Lv.a (Lv.b (Lv.a (Lv.b (Lv.b (A 18)))))) none 18 (cL (cR (cL (cR (cR code18))))) (K18_prr cal k) (K18_pxrrlr cal k) (doneK P results18) (cutT (Lv.a (Lv.b (Lv.a (Lv.b (Lv.b (A 18)))))).c T) H n D)
noncomputable def K18_prrlrll (cal : Cal) (k : Nat) (m1 : Nat) : KR := (cutK (Lv.a (Lv.a (Lv.b (Lv.a (Lv.b (Lv.b (A 18))))))).c (codeE P cal (codeF P cal m1) none 18 (cR (cL (cL (cR (cL (cR (cR code18))))))) (Lv.b (Lv.a (Lv.a (Lv.b (Lv.a (Lv.b (Lv.b (A 18)))))))) (K18_prrlrl cal k m1) (K18_pxrrlr cal k) (doneK P results18)))
noncomputable def K18_prrlrlll (cal : Cal) (k : Nat) (m1 : Nat) : KR := (cutK (Lv.a (Lv.a (Lv.a (Lv.b (Lv.a (Lv.b (Lv.b (A 18)))))))).c (codeE P cal (codeF P cal m1) none 18 (cR (cL (cL (cL (cR (cL (cR (cR code18)))))))) (Lv.b (Lv.a (Lv.a (Lv.a (Lv.b (Lv.a (Lv.b (Lv.b (A 18))))))))) (K18_prrlrll cal k m1) (K18_pxrrlr cal k) (doneK P results18)))
noncomputable def K18_prrlrllr (cal : Cal) (k : Nat) (m1 : Nat) : KR := (cutK (Lv.b (Lv.a (Lv.a (Lv.b (Lv.a (Lv.b (Lv.b (A 18)))))))).c (codeE P cal (codeF P cal m1) none 18 (cR (cR (cL (cL (cR (cL (cR (cR code18)))))))) (Lv.b (Lv.b (Lv.a (Lv.a (Lv.b (Lv.a (Lv.b (Lv.b (A 18))))))))) (K18_prrlrl cal k m1) (K18_pxrrlr cal k) (doneK P results18)))
noncomputable def K18_pxrrlrllrl (cal : Cal) (k : Nat) (m1 : Nat) : XR := (upX 1 (K18_prrlrllr cal k m1) (K18_pxrrlr cal k))
noncomputable def K18_prrr (cal : Cal) (k : Nat) : KR := (cutK (Lv.b (Lv.b (Lv.b (A 18)))).c (codeE P cal (codeF P cal k) none 18 (cR (cR (cR (cR code18)))) (Lv.b (Lv.b (Lv.b (Lv.b (A 18))))) (doneK P results18) X0 (doneK P results18)))
noncomputable def K18_prrrl (cal : Cal) (k : Nat) : KR := (cutK (Lv.a (Lv.b (Lv.b (Lv.b (A 18))))).c (codeE P cal (codeF P cal k) none 18 (cR (cL (cR (cR (cR code18))))) (Lv.b (Lv.a (Lv.b (Lv.b (Lv.b (A 18)))))) (K18_prrr cal k) X0 (doneK P results18)))
noncomputable def K18_pxrrrlr (cal : Cal) (k : Nat) : XR := (upX 2 (K18_prrr cal k) X0)
noncomputable def K18_prrrlrl (cal : Cal) (k : Nat) (m1 : Nat) : KR := (fun T H n D => codeF P cal m1 (Lv.a (Lv.b (Lv.a (Lv.b (Lv.b (Lv.b (A 18))))))) none 18 (cL (cR (cL (cR (cR (cR code18)))))) (K18_prrr cal k) (K18_pxrrrlr cal k) (doneK P results18) (cutT (Lv.a (Lv.b (Lv.a (Lv.b (Lv.b (Lv.b (A 18))))))).c T) H n D)
noncomputable def K18_prrrlrll (cal : Cal) (k : Nat) (m1 : Nat) : KR := (cutK (Lv.a (Lv.a (Lv.b (Lv.a (Lv.b (Lv.b (Lv.b (A 18)))))))).c (codeE P cal (codeF P cal m1) none 18 (cR (cL (cL (cR (cL (cR (cR (cR code18)))))))) (Lv.b (Lv.a (Lv.a (Lv.b (Lv.a (Lv.b (Lv.b (Lv.b (A 18))))))))) (K18_prrrlrl cal k m1) (K18_pxrrrlr cal k) (doneK P results18)))
noncomputable def K18_prrrlrlll (cal : Cal) (k : Nat) (m1 : Nat) : KR := (cutK (Lv.a (Lv.a (Lv.a (Lv.b (Lv.a (Lv.b (Lv.b (Lv.b (A 18))))))))).c (codeE P cal (codeF P cal m1) none 18 (cR (cL (cL (cL (cR (cL (cR (cR (cR code18))))))))) (Lv.b (Lv.a (Lv.a (Lv.a (Lv.b (Lv.a (Lv.b (Lv.b (Lv.b (A 18)))))))))) (K18_prrrlrll cal k m1) (K18_pxrrrlr cal k) (doneK P results18)))
noncomputable def K18_prrrlrllr (cal : Cal) (k : Nat) (m1 : Nat) : KR := (cutK (Lv.b (Lv.a (Lv.a (Lv.b (Lv.a (Lv.b (Lv.b (Lv.b (A 18))))))))).c (codeE P cal (codeF P cal m1) none 18 (cR (cR (cL (cL (cR (cL (cR (cR (cR code18))))))))) (Lv.b (Lv.b (Lv.a (Lv.a (Lv.b (Lv.a (Lv.b (Lv.b (Lv.b (A 18)))))))))) (K18_prrrlrl cal k m1) (K18_pxrrrlr cal k) (doneK P results18)))
noncomputable def K18_pxrrrlrllrl (cal : Cal) (k : Nat) (m1 : Nat) : XR := (upX 3 (K18_prrrlrllr cal k m1) (K18_pxrrrlr cal k))
noncomputable def K18_prrrr (cal : Cal) (k : Nat) : KR := (cutK (Lv.b (Lv.b (Lv.b (Lv.b (A 18))))).c (codeE P cal (codeF P cal k) none 18 (cR (cR (cR (cR (cR code18))))) (Lv.b (Lv.b (Lv.b (Lv.b (Lv.b (A 18)))))) (doneK P results18) X0 (doneK P results18)))
noncomputable def K18_prrrrl (cal : Cal) (k : Nat) : KR := (cutK (Lv.a (Lv.b (Lv.b (Lv.b (Lv.b (A 18)))))).c (codeE P cal (codeF P cal k) none 18 (cR (cL (cR (cR (cR (cR code18)))))) (Lv.b (Lv.a (Lv.b (Lv.b (Lv.b (Lv.b (A 18))))))) (K18_prrrr cal k) X0 (doneK P results18)))
noncomputable def K18_pxrrrrlr (cal : Cal) (k : Nat) : XR := (upX 4 (K18_prrrr cal k) X0)
noncomputable def K18_prrrrlrl (cal : Cal) (k : Nat) (m1 : Nat) : KR := (fun T H n D => codeF P cal m1 (Lv.a (Lv.b (Lv.a (Lv.b (Lv.b (Lv.b (Lv.b (A 18)))))))) none 18 (cL (cR (cL (cR (cR (cR (cR code18))))))) (K18_prrrr cal k) (K18_pxrrrrlr cal k) (doneK P results18) (cutT (Lv.a (Lv.b (Lv.a (Lv.b (Lv.b (Lv.b (Lv.b (A 18)))))))).c T) H n D)
noncomputable def K18_prrrrlrll (cal : Cal) (k : Nat) (m1 : Nat) : KR := (cutK (Lv.a (Lv.a (Lv.b (Lv.a (Lv.b (Lv.b (Lv.b (Lv.b (A 18))))))))).c (codeE P cal (codeF P cal m1) none 18 (cR (cL (cL (cR (cL (cR (cR (cR (cR code18))))))))) (Lv.b (Lv.a (Lv.a (Lv.b (Lv.a (Lv.b (Lv.b (Lv.b (Lv.b (A 18)))))))))) (K18_prrrrlrl cal k m1) (K18_pxrrrrlr cal k) (doneK P results18)))
noncomputable def K18_prrrrlrlll (cal : Cal) (k : Nat) (m1 : Nat) : KR := (cutK (Lv.a (Lv.a (Lv.a (Lv.b (Lv.a (Lv.b (Lv.b (Lv.b (Lv.b (A 18)))))))))).c (codeE P cal (codeF P cal m1) none 18 (cR (cL (cL (cL (cR (cL (cR (cR (cR (cR code18)))))))))) (Lv.b (Lv.a (Lv.a (Lv.a (Lv.b (Lv.a (Lv.b (Lv.b (Lv.b (Lv.b (A 18))))))))))) (K18_prrrrlrll cal k m1) (K18_pxrrrrlr cal k) (doneK P results18)))
noncomputable def K18_prrrrlrllr (cal : Cal) (k : Nat) (m1 : Nat) : KR := (cutK (Lv.b (Lv.a (Lv.a (Lv.b (Lv.a (Lv.b (Lv.b (Lv.b (Lv.b (A 18)))))))))).c (codeE P cal (codeF P cal m1) none 18 (cR (cR (cL (cL (cR (cL (cR (cR (cR (cR code18)))))))))) (Lv.b (Lv.b (Lv.a (Lv.a (Lv.b (Lv.a (Lv.b (Lv.b (Lv.b (Lv.b (A 18))))))))))) (K18_prrrrlrl cal k m1) (K18_pxrrrrlr cal k) (doneK P results18)))
noncomputable def K18_pxrrrrlrllrl (cal : Cal) (k : Nat) (m1 : Nat) : XR := (upX 5 (K18_prrrrlrllr cal k m1) (K18_pxrrrrlr cal k))
noncomputable def K18_prrrrlrllrll (cal : Cal) (k : Nat) (m1 : Nat) : KR := (cutK (Lv.a (Lv.a (Lv.b (Lv.a (Lv.a (Lv.b (Lv.a (Lv.b (Lv.b (Lv.b (Lv.b (A 18)))))))))))).c (codeE P cal (codeF P cal m1) none 18 (cR (cL (cL (cR (cL (cL (cR (cL (cR (cR (cR (cR code18)))))))))))) (Lv.b (Lv.a (Lv.a (Lv.b (Lv.a (Lv.a (Lv.b (Lv.a (Lv.b (Lv.b (Lv.b (Lv.b (A 18))))))))))))) (K18_prrrrlrllr cal k m1) (K18_pxrrrrlrllrl cal k m1) (doneK P results18)))
noncomputable def K18_prrrrr (cal : Cal) (k : Nat) : KR := (cutK (Lv.b (Lv.b (Lv.b (Lv.b (Lv.b (A 18)))))).c (codeE P cal (codeF P cal k) none 18 (cR (cR (cR (cR (cR (cR code18)))))) (Lv.b (Lv.b (Lv.b (Lv.b (Lv.b (Lv.b (A 18))))))) (doneK P results18) X0 (doneK P results18)))
noncomputable def E18_3 (cal : Cal) (k m1 : Nat) : KR := codeE P cal (codeF P cal m1) none 18 (cL (cL (cR (cL (cR (cR (cR (cR code18)))))))) (Lv.a (Lv.a (Lv.b (Lv.a (Lv.b (Lv.b (Lv.b (Lv.b (A 18))))))))) (K18_prrrrlrl cal k m1) (K18_pxrrrrlr cal k) (doneK P results18)
noncomputable def R18_3 (cal : Cal) (k m1 : Nat) : V4 := fun u1 u2 u3 u6 H n => codeF P cal m1 (Lv.a (Lv.b (Lv.a (Lv.b (Lv.b (Lv.b (Lv.b (A 18)))))))) none 18 (cL (cR (cL (cR (cR (cR (cR code18))))))) (K18_prrrr cal k) (K18_pxrrrrlr cal k) (doneK P results18) (Tr.set (Tr.set (Tr.set (Tr.set Tr.nil 6 (some u6)) 3 (some u3)) 2 (some u2)) 1 (some u1)) H n []
noncomputable def E18_2 (cal : Cal) (k m1 : Nat) : KR := codeE P cal (codeF P cal m1) none 18 (cL (cL (cR (cL (cR (cR (cR code18))))))) (Lv.a (Lv.a (Lv.b (Lv.a (Lv.b (Lv.b (Lv.b (A 18)))))))) (K18_prrrlrl cal k m1) (K18_pxrrrlr cal k) (doneK P results18)
noncomputable def R18_2 (cal : Cal) (k m1 : Nat) : V4 := fun u1 u2 u3 u5 H n => codeF P cal m1 (Lv.a (Lv.b (Lv.a (Lv.b (Lv.b (Lv.b (A 18))))))) none 18 (cL (cR (cL (cR (cR (cR code18)))))) (K18_prrr cal k) (K18_pxrrrlr cal k) (doneK P results18) (Tr.set (Tr.set (Tr.set (Tr.set Tr.nil 5 (some u5)) 3 (some u3)) 2 (some u2)) 1 (some u1)) H n []
noncomputable def E18_1 (cal : Cal) (k m1 : Nat) : KR := codeE P cal (codeF P cal m1) none 18 (cL (cL (cR (cL (cR (cR code18)))))) (Lv.a (Lv.a (Lv.b (Lv.a (Lv.b (Lv.b (A 18))))))) (K18_prrlrl cal k m1) (K18_pxrrlr cal k) (doneK P results18)
noncomputable def R18_1 (cal : Cal) (k m1 : Nat) : V4 := fun u1 u2 u3 u4 H n => codeF P cal m1 (Lv.a (Lv.b (Lv.a (Lv.b (Lv.b (A 18)))))) none 18 (cL (cR (cL (cR (cR code18))))) (K18_prr cal k) (K18_pxrrlr cal k) (doneK P results18) (Tr.set (Tr.set (Tr.set (Tr.set Tr.nil 4 (some u4)) 3 (some u3)) 2 (some u2)) 1 (some u1)) H n []
noncomputable def B18_3 (cal : Cal) (k m1 : Nat) (b3 : V4) (u1 u2 u3 u6 : Value) (H : Hp) (n : Nat) : Res :=
bindO (fieldAddrV P 26 u1 2) fun v_2i =>
bindO (addrV v_2i) fun a_2k => bindO (loadV P H 24 a_2k) fun v_2j =>
bindO (lenV P 24 v_2j) fun v_2l =>
binK P .lss 3 (.tmp 58) (.tmp 61) u6 v_2l fun v_2m =>
ifK v_2m (
bindO (fieldAddrV P 26 u1 2) fun v_2n =>
bindO (addrV v_2n) fun a_2p => bindO (loadV P H 24 a_2p) fun v_2o =>
bindO (indexAddrV P 24 v_2o u6) fun v_2r =>
bindO (addrV v_2r) fun a_2t => bindO (loadV P H 94 a_2t) fun v_2s =>
allocK P 94 H n fun v_2u H_2v n_2w =>
bindO (storeP P 94 v_2u v_2s H_2v) fun H_2y =>
bindO (fieldAddrV P 35 u3 2) fun v_2z =>
bindO (addrV v_2z) fun a_30 => bindO (loadV P H_2y 33 a_30) fun v_31 =>
bindO (fieldAddrV P 94 v_2u 0) fun v_32 =>
bindO (addrV v_32) fun a_33 => bindO (loadV P H_2y 3 a_33) fun v_34 =>
bindO (fieldAddrV P 94 v_2u 1) fun v_35 =>
bindO (addrV v_35) fun a_36 => bindO (loadV P H_2y 55 a_36) fun v_37 =>
bindO (fieldAddrV P 94 v_2u 2) fun v_38 =>
bindO (addrV v_38) fun a_39 => bindO (loadV P H_2y 55 a_39) fun v_3a =>
effK P [(.l 55 a_39), (.l 3 a_33), (.l 33 a_30)] H_2y n_2w (fun H_3b n_3c k_3d =>
callFK P cal 26 [v_37] H_3b n_3c fun v_3h H_3i n_3j =>
k_3d v_3h H_3i n_3j) fun v_3e H_3f n_3g =>
effK P [(.l 3 a_33), (.l 33 a_30)] H_3f n_3g (fun H_3k n_3l k_3m =>
callFK P cal 26 [v_3a] H_3k n_3l fun v_3q H_3r n_3s =>
k_3m v_3q H_3r n_3s) fun v_3n H_3o n_3p =>
bindO (buildP P 86 [(0, v_34), (1, v_3e), (2, v_3n)]) fun v_3t =>
bindO (rowOf P 33 1 [(0, v_3t)]) fun q_3w => newK q_3w.1 q_3w.2 H_3o n_3p fun H_3u n_3v =>
stK (appendV P (bare H_3u n_3v) 33 33 v_31 (.slice (some ⟨n_3p, 0, none⟩) 1 1)) fun v_3x H_3y n_3z =>
bindO (fieldAddrV P 35 u3 2) fun v_40 =>
bindO (storeP P 33 v_40 v_3x H_3y) fun H_42 =>
binK P .add 3 (.tmp 63) (.const (.int .i64 1)) u6 (.int .i64 1) fun v_44 =>
b3 u1 u2 u3 v_44 H_42 n_3z) (
bindO (addrV u3) fun a_47 => bindO (loadV P H 35 a_47) fun v_46 =>
bindO (storeP P 35 u2 v_46 H) fun H_49 =>
bindO (resV P (Tr.set Tr.nil 2 (some u2)) H_49 results18) fun v_4a => some (oneV v_4a, H_49, n))
noncomputable def C18_3 (cal : Cal) (k m1 : Nat) (b3 : V4) (u1 u2 u3 u6 : Value) (H : Hp) (n : Nat) : Res := B18_3 cal k m1 b3 u1 u2 u3 u6 H n
noncomputable def S18_3 (cal : Cal) (k : Nat) : Nat → V4 := fun m => Nat.rec (motive := fun _ => V4) (C18_3 cal k 0 (fun _ _ _ _ _ _ => none)) (fun m ih => C18_3 cal k (m + 1) ih) m
theorem h18_3 (cal : Cal) (k m1 : Nat) (u1 u2 u3 u6 : Value) (H : Hp) (n : Nat) : labK (E18_3 cal k m1) (Tr.set (Tr.set (Tr.set (Tr.set Tr.nil 6 (some u6)) 3 (some u3)) 2 (some u2)) 1 (some u1)) H n [] = C18_3 cal k m1 (R18_3 cal k m1) u1 u2 u3 u6 H n := by
  refine Eq.trans (b := B18_3 cal k m1 (R18_3 cal k m1) u1 u2 u3 u6 H n) (by kernel_rfl) ?_
  rw [C18_3]
theorem q18_3 (cal : Cal) (k : Nat) : ∀ (m : Nat) (u1 u2 u3 u6 : Value) (H : Hp) (n : Nat), labK (E18_3 cal k m) (Tr.set (Tr.set (Tr.set (Tr.set Tr.nil 6 (some u6)) 3 (some u3)) 2 (some u2)) 1 (some u1)) H n [] = S18_3 cal k m u1 u2 u3 u6 H n
  | 0, u1, u2, u3, u6, H, n => by
    rw [h18_3]
    have e : R18_3 cal k 0 = fun _ _ _ _ _ _ => none := by funext u1 u2 u3 u6 H n; kernel_rfl
    rw [e]; rfl
  | m + 1, u1, u2, u3, u6, H, n => by
    rw [h18_3]
    have e : R18_3 cal k (m + 1) = S18_3 cal k m := by
      funext u1 u2 u3 u6 H n
      have e : R18_3 cal k (m + 1) u1 u2 u3 u6 H n = labK (E18_3 cal k m) (Tr.set (Tr.set (Tr.set (Tr.set Tr.nil 6 (some u6)) 3 (some u3)) 2 (some u2)) 1 (some u1)) H n [] := by kernel_rfl
      rw [e]; exact q18_3 ..
    rw [e]; rfl
noncomputable def B18_2 (cal : Cal) (k m1 : Nat) (j3 : V4) (b2 : V4) (u1 u2 u3 u5 : Value) (H : Hp) (n : Nat) : Res :=
bindO (fieldAddrV P 26 u1 1) fun v_1f =>
bindO (addrV v_1f) fun a_1h => bindO (loadV P H 23 a_1h) fun v_1g =>
bindO (lenV P 23 v_1g) fun v_1i =>
binK P .lss 3 (.tmp 33) (.tmp 36) u5 v_1i fun v_1j =>
ifK v_1j (
bindO (fieldAddrV P 35 u3 1) fun v_1k =>
bindO (addrV v_1k) fun a_1l => bindO (loadV P H 32 a_1l) fun v_1m =>
bindO (fieldAddrV P 26 u1 1) fun v_1n =>
bindO (addrV v_1n) fun a_1o => bindO (loadV P H 23 a_1o) fun v_1p =>
bindO (indexAddrV P 23 v_1p u5) fun v_1r =>
bindO (fieldAddrV P 104 v_1r 0) fun v_1s =>
bindO (addrV v_1s) fun a_1t => bindO (loadV P H 3 a_1t) fun v_1u =>
bindO (fieldAddrV P 26 u1 1) fun v_1v =>
bindO (addrV v_1v) fun a_1w => bindO (loadV P H 23 a_1w) fun v_1x =>
bindO (indexAddrV P 23 v_1x u5) fun v_1z =>
bindO (fieldAddrV P 104 v_1z 1) fun v_20 =>
bindO (addrV v_20) fun a_21 => bindO (loadV P H 3 a_21) fun v_22 =>
bindO (buildP P 88 [(0, v_1u), (1, v_22)]) fun v_23 =>
bindO (rowOf P 32 1 [(0, v_23)]) fun q_26 => newK q_26.1 q_26.2 H n fun H_24 n_25 =>
stK (appendV P (bare H_24 n_25) 32 32 v_1m (.slice (some ⟨n, 0, none⟩) 1 1)) fun v_27 H_28 n_29 =>
bindO (fieldAddrV P 35 u3 1) fun v_2a =>
bindO (storeP P 32 v_2a v_27 H_28) fun H_2c =>
binK P .add 3 (.tmp 38) (.const (.int .i64 1)) u5 (.int .i64 1) fun v_2e =>
b2 u1 u2 u3 v_2e H_2c n_29) (
j3 u1 u2 u3 (.int .i64 0) H n)
noncomputable def C18_2 (cal : Cal) (k m1 : Nat) (b2 : V4) (u1 u2 u3 u5 : Value) (H : Hp) (n : Nat) : Res := B18_2 cal k m1 (S18_3 cal k k) b2 u1 u2 u3 u5 H n
noncomputable def S18_2 (cal : Cal) (k : Nat) : Nat → V4 := fun m => Nat.rec (motive := fun _ => V4) (C18_2 cal k 0 (fun _ _ _ _ _ _ => none)) (fun m ih => C18_2 cal k (m + 1) ih) m
theorem h18_2 (cal : Cal) (k m1 : Nat) (u1 u2 u3 u5 : Value) (H : Hp) (n : Nat) : labK (E18_2 cal k m1) (Tr.set (Tr.set (Tr.set (Tr.set Tr.nil 5 (some u5)) 3 (some u3)) 2 (some u2)) 1 (some u1)) H n [] = C18_2 cal k m1 (R18_2 cal k m1) u1 u2 u3 u5 H n := by
  refine Eq.trans (b := B18_2 cal k m1 (fun u1 u2 u3 u6 H n => labK (E18_3 cal k k) (Tr.set (Tr.set (Tr.set (Tr.set Tr.nil 6 (some u6)) 3 (some u3)) 2 (some u2)) 1 (some u1)) H n []) (R18_2 cal k m1) u1 u2 u3 u5 H n) (by kernel_rfl) ?_
  rw [C18_2]
  have e3 : (fun u1 u2 u3 u6 H n => labK (E18_3 cal k k) (Tr.set (Tr.set (Tr.set (Tr.set Tr.nil 6 (some u6)) 3 (some u3)) 2 (some u2)) 1 (some u1)) H n []) = (S18_3 cal k k) := by funext u1 u2 u3 u6 H n; exact q18_3 ..
  rw [e3]
theorem q18_2 (cal : Cal) (k : Nat) : ∀ (m : Nat) (u1 u2 u3 u5 : Value) (H : Hp) (n : Nat), labK (E18_2 cal k m) (Tr.set (Tr.set (Tr.set (Tr.set Tr.nil 5 (some u5)) 3 (some u3)) 2 (some u2)) 1 (some u1)) H n [] = S18_2 cal k m u1 u2 u3 u5 H n
  | 0, u1, u2, u3, u5, H, n => by
    rw [h18_2]
    have e : R18_2 cal k 0 = fun _ _ _ _ _ _ => none := by funext u1 u2 u3 u5 H n; kernel_rfl
    rw [e]; rfl
  | m + 1, u1, u2, u3, u5, H, n => by
    rw [h18_2]
    have e : R18_2 cal k (m + 1) = S18_2 cal k m := by
      funext u1 u2 u3 u5 H n
      have e : R18_2 cal k (m + 1) u1 u2 u3 u5 H n = labK (E18_2 cal k m) (Tr.set (Tr.set (Tr.set (Tr.set Tr.nil 5 (some u5)) 3 (some u3)) 2 (some u2)) 1 (some u1)) H n [] := by kernel_rfl
      rw [e]; exact q18_2 ..
    rw [e]; rfl
noncomputable def B18_1 (cal : Cal) (k m1 : Nat) (j2 : V4) (b1 : V4) (u1 u2 u3 u4 : Value) (H : Hp) (n : Nat) : Res :=
bindO (fieldAddrV P 26 u1 0) fun v_c =>
bindO (addrV v_c) fun a_e => bindO (loadV P H 22 a_e) fun v_d =>
bindO (lenV P 22 v_d) fun v_f =>
binK P .lss 3 (.tmp 8) (.tmp 11) u4 v_f fun v_g =>
ifK v_g (
bindO (fieldAddrV P 35 u3 0) fun v_h =>
bindO (addrV v_h) fun a_i => bindO (loadV P H 31 a_i) fun v_j =>
bindO (fieldAddrV P 26 u1 0) fun v_k =>
bindO (addrV v_k) fun a_l => bindO (loadV P H 22 a_l) fun v_m =>
bindO (indexAddrV P 22 v_m u4) fun v_o =>
bindO (fieldAddrV P 95 v_o 0) fun v_p =>
bindO (addrV v_p) fun a_q => bindO (loadV P H 3 a_q) fun v_r =>
bindO (fieldAddrV P 26 u1 0) fun v_s =>
bindO (addrV v_s) fun a_t => bindO (loadV P H 22 a_t) fun v_u =>
bindO (indexAddrV P 22 v_u u4) fun v_w =>
bindO (fieldAddrV P 95 v_w 1) fun v_x =>
bindO (addrV v_x) fun a_y => bindO (loadV P H 3 a_y) fun v_z =>
bindO (buildP P 90 [(0, v_r), (1, v_z)]) fun v_10 =>
bindO (rowOf P 31 1 [(0, v_10)]) fun q_13 => newK q_13.1 q_13.2 H n fun H_11 n_12 =>
stK (appendV P (bare H_11 n_12) 31 31 v_j (.slice (some ⟨n, 0, none⟩) 1 1)) fun v_14 H_15 n_16 =>
bindO (fieldAddrV P 35 u3 0) fun v_17 =>
bindO (storeP P 31 v_17 v_14 H_15) fun H_19 =>
binK P .add 3 (.tmp 13) (.const (.int .i64 1)) u4 (.int .i64 1) fun v_1b =>
b1 u1 u2 u3 v_1b H_19 n_16) (
j2 u1 u2 u3 (.int .i64 0) H n)
noncomputable def C18_1 (cal : Cal) (k m1 : Nat) (b1 : V4) (u1 u2 u3 u4 : Value) (H : Hp) (n : Nat) : Res := B18_1 cal k m1 (S18_2 cal k k) b1 u1 u2 u3 u4 H n
noncomputable def S18_1 (cal : Cal) (k : Nat) : Nat → V4 := fun m => Nat.rec (motive := fun _ => V4) (C18_1 cal k 0 (fun _ _ _ _ _ _ => none)) (fun m ih => C18_1 cal k (m + 1) ih) m
theorem h18_1 (cal : Cal) (k m1 : Nat) (u1 u2 u3 u4 : Value) (H : Hp) (n : Nat) : labK (E18_1 cal k m1) (Tr.set (Tr.set (Tr.set (Tr.set Tr.nil 4 (some u4)) 3 (some u3)) 2 (some u2)) 1 (some u1)) H n [] = C18_1 cal k m1 (R18_1 cal k m1) u1 u2 u3 u4 H n := by
  refine Eq.trans (b := B18_1 cal k m1 (fun u1 u2 u3 u5 H n => labK (E18_2 cal k k) (Tr.set (Tr.set (Tr.set (Tr.set Tr.nil 5 (some u5)) 3 (some u3)) 2 (some u2)) 1 (some u1)) H n []) (R18_1 cal k m1) u1 u2 u3 u4 H n) (by kernel_rfl) ?_
  rw [C18_1]
  have e2 : (fun u1 u2 u3 u5 H n => labK (E18_2 cal k k) (Tr.set (Tr.set (Tr.set (Tr.set Tr.nil 5 (some u5)) 3 (some u3)) 2 (some u2)) 1 (some u1)) H n []) = (S18_2 cal k k) := by funext u1 u2 u3 u5 H n; exact q18_2 ..
  rw [e2]
theorem q18_1 (cal : Cal) (k : Nat) : ∀ (m : Nat) (u1 u2 u3 u4 : Value) (H : Hp) (n : Nat), labK (E18_1 cal k m) (Tr.set (Tr.set (Tr.set (Tr.set Tr.nil 4 (some u4)) 3 (some u3)) 2 (some u2)) 1 (some u1)) H n [] = S18_1 cal k m u1 u2 u3 u4 H n
  | 0, u1, u2, u3, u4, H, n => by
    rw [h18_1]
    have e : R18_1 cal k 0 = fun _ _ _ _ _ _ => none := by funext u1 u2 u3 u4 H n; kernel_rfl
    rw [e]; rfl
  | m + 1, u1, u2, u3, u4, H, n => by
    rw [h18_1]
    have e : R18_1 cal k (m + 1) = S18_1 cal k m := by
      funext u1 u2 u3 u4 H n
      have e : R18_1 cal k (m + 1) u1 u2 u3 u4 H n = labK (E18_1 cal k m) (Tr.set (Tr.set (Tr.set (Tr.set Tr.nil 4 (some u4)) 3 (some u3)) 2 (some u2)) 1 (some u1)) H n [] := by kernel_rfl
      rw [e]; exact q18_1 ..
    rw [e]; rfl
noncomputable def B18_0 (cal : Cal) (k : Nat) (j1 : V4) (v0 : Value) (H : Hp) (n : Nat) : Res :=
boxK 26 v0 H n fun v_1 H_2 n_3 =>
allocK P 35 H_2 n_3 fun v_4 H_5 n_6 =>
allocK P 35 H_5 n_6 fun v_7 H_8 n_9 =>
j1 v_1 v_4 v_7 (.int .i64 0) H_8 n_9
noncomputable def C18_0 (cal : Cal) (k : Nat) (v0 : Value) (H : Hp) (n : Nat) : Res := B18_0 cal k (S18_1 cal k k) v0 H n
theorem h18_0 (cal : Cal) (k : Nat) (v0 : Value) (H : Hp) (n : Nat) : bodyE P cal A (k + 1) 18 [v0] H n = C18_0 cal k v0 H n := by
  have h : bodyE P cal A (k + 1) 18 [v0] H n = B18_0 cal k (fun u1 u2 u3 u4 H n => labK (E18_1 cal k k) (Tr.set (Tr.set (Tr.set (Tr.set Tr.nil 4 (some u4)) 3 (some u3)) 2 (some u2)) 1 (some u1)) H n []) v0 H n := by
    rw [body_eq (fn := Go.Proofs.Try.f18) (c := code18) (rs := results18) (by kernel_rfl) (by kernel_rfl) (by kernel_rfl) (by kernel_rfl)]
    kernel_rfl
  rw [h, C18_0]
  have e1 : (fun u1 u2 u3 u4 H n => labK (E18_1 cal k k) (Tr.set (Tr.set (Tr.set (Tr.set Tr.nil 4 (some u4)) 3 (some u3)) 2 (some u2)) 1 (some u1)) H n []) = (S18_1 cal k k) := by funext u1 u2 u3 u4 H n; exact q18_1 ..
  rw [e1]
noncomputable def code20 : Code := codeOf 20
noncomputable def results20 : List ResultVar := resOf 20
noncomputable def K20_p (cal : Cal) (k : Nat) : KR := (cutK (A 20).c (codeE P cal (codeF P cal k) none 20 (cR code20) (Lv.b (A 20)) (doneK P results20) X0 (doneK P results20)))
noncomputable def K20_pr (cal : Cal) (k : Nat) : KR := (cutK (Lv.b (A 20)).c (codeE P cal (codeF P cal k) none 20 (cR (cR code20)) (Lv.b (Lv.b (A 20))) (doneK P results20) X0 (doneK P results20)))
noncomputable def B20_0 (cal : Cal) (k : Nat) (v0 : Value) (H : Hp) (n : Nat) : Res :=
boxK 26 v0 H n fun v_1 H_2 n_3 =>
bindO (addrV v_1) fun a_6 => bindO (loadV P H_2 26 a_6) fun v_5 =>
callFK P cal 63 [v_5] H_2 n_3 fun v_7 H_8 n_9 =>
some (v_7, H_8, n_9)
noncomputable def C20_0 (cal : Cal) (k : Nat) (v0 : Value) (H : Hp) (n : Nat) : Res := B20_0 cal k v0 H n
theorem h20_0 (cal : Cal) (k : Nat) (v0 : Value) (H : Hp) (n : Nat) : bodyE P cal A (k + 1) 20 [v0] H n = C20_0 cal k v0 H n := by
  have h : bodyE P cal A (k + 1) 20 [v0] H n = B20_0 cal k v0 H n := by
    rw [body_eq (fn := Go.Proofs.Try.f20) (c := code20) (rs := results20) (by kernel_rfl) (by kernel_rfl) (by kernel_rfl) (by kernel_rfl)]
    kernel_rfl
  rw [h, C20_0]
noncomputable def code21 : Code := codeOf 21
noncomputable def results21 : List ResultVar := resOf 21
noncomputable def K21_p (cal : Cal) (k : Nat) : KR := (cutK (A 21).c (codeE P cal (codeF P cal k) none 21 (cR code21) (Lv.b (A 21)) (doneK P results21) X0 (doneK P results21)))
noncomputable def K21_pr (cal : Cal) (k : Nat) : KR := (cutK (Lv.b (A 21)).c (codeE P cal (codeF P cal k) none 21 (cR (cR code21)) (Lv.b (Lv.b (A 21))) (doneK P results21) X0 (doneK P results21)))
noncomputable def K21_prl (cal : Cal) (k : Nat) : KR := (cutK (Lv.a (Lv.b (A 21))).c (codeE P cal (codeF P cal k) none 21 (cR (cL (cR code21))) (Lv.b (Lv.a (Lv.b (A 21)))) (K21_pr cal k) X0 (doneK P results21)))
noncomputable def K21_pxrlr (cal : Cal) (k : Nat) : XR := (upX 0 (K21_pr cal k) X0)
noncomputable def K21_prlrl (cal : Cal) (k : Nat) (m1 : Nat) : KR := (fun T H n D => codeF P cal m1 (Lv.a (Lv.b (Lv.a (Lv.b (A 21))))) none 21 (cL (cR (cL (cR code21)))) (K21_pr cal k) (K21_pxrlr cal k) (doneK P results21) (cutT (Lv.a (Lv.b (Lv.a (Lv.b (A 21))))).c T) H n D)
noncomputable def K21_prlrll (cal : Cal) (k : Nat) (m1 : Nat) : KR := (cutK (Lv.a (Lv.a (Lv.b (Lv.a (Lv.b (A 21)))))).c (codeE P cal (codeF P cal m1) none 21 (cR (cL (cL (cR (cL (cR code21)))))) (Lv.b (Lv.a (Lv.a (Lv.b (Lv.a (Lv.b (A 21))))))) (K21_prlrl cal k m1) (K21_pxrlr cal k) (doneK P results21)))
noncomputable def K21_prlrlll (cal : Cal) (k : Nat) (m1 : Nat) : KR := (cutK (Lv.a (Lv.a (Lv.a (Lv.b (Lv.a (Lv.b (A 21))))))).c (codeE P cal (codeF P cal m1) none 21 (cR (cL (cL (cL (cR (cL (cR code21))))))) (Lv.b (Lv.a (Lv.a (Lv.a (Lv.b (Lv.a (Lv.b (A 21)))))))) (K21_prlrll cal k m1) (K21_pxrlr cal k) (doneK P results21)))
noncomputable def K21_prlrllr (cal : Cal) (k : Nat) (m1 : Nat) : KR := (cutK (Lv.b (Lv.a (Lv.a (Lv.b (Lv.a (Lv.b (A 21))))))).c (codeE P cal (codeF P cal m1) none 21 (cR (cR (cL (cL (cR (cL (cR code21))))))) (Lv.b (Lv.b (Lv.a (Lv.a (Lv.b (Lv.a (Lv.b (A 21)))))))) (K21_prlrl cal k m1) (K21_pxrlr cal k) (doneK P results21)))
noncomputable def K21_pxrlrllrl (cal : Cal) (k : Nat) (m1 : Nat) : XR := (upX 1 (K21_prlrllr cal k m1) (K21_pxrlr cal k))
noncomputable def K21_prlrllrll (cal : Cal) (k : Nat) (m1 : Nat) : KR := (cutK (Lv.a (Lv.a (Lv.b (Lv.a (Lv.a (Lv.b (Lv.a (Lv.b (A 21))))))))).c (codeE P cal (codeF P cal m1) none 21 (cR (cL (cL (cR (cL (cL (cR (cL (cR code21))))))))) (Lv.b (Lv.a (Lv.a (Lv.b (Lv.a (Lv.a (Lv.b (Lv.a (Lv.b (A 21)))))))))) (K21_prlrllr cal k m1) (K21_pxrlrllrl cal k m1) (doneK P results21)))
noncomputable def K21_prlrllrllrl (cal : Cal) (k : Nat) (m1 : Nat) : KR := (cutK (Lv.a (Lv.b (Lv.a (Lv.a (Lv.b (Lv.a (Lv.a (Lv.b (Lv.a (Lv.b (A 21))))))))))).c (codeE P cal (codeF P cal m1) none 21 (cR (cL (cR (cL (cL (cR (cL (cL (cR (cL (cR code21))))))))))) (Lv.b (Lv.a (Lv.b (Lv.a (Lv.a (Lv.b (Lv.a (Lv.a (Lv.b (Lv.a (Lv.b (A 21)))))))))))) (K21_prlrllr cal k m1) (K21_pxrlrllrl cal k m1) (doneK P results21)))
noncomputable def K21_prr (cal : Cal) (k : Nat) : KR := (cutK (Lv.b (Lv.b (A 21))).c (codeE P cal (codeF P cal k) none 21 (cR (cR (cR code21))) (Lv.b (Lv.b (Lv.b (A 21)))) (doneK P results21) X0 (doneK P results21)))
noncomputable def E21_1 (cal : Cal) (k m1 : Nat) : KR := codeE P cal (codeF P cal m1) none 21 (cL (cL (cR (cL (cR code21))))) (Lv.a (Lv.a (Lv.b (Lv.a (Lv.b (A 21)))))) (K21_prlrl cal k m1) (K21_pxrlr cal k) (doneK P results21)
noncomputable def R21_1 (cal : Cal) (k m1 : Nat) : V4 := fun u1 u2 u3 u7 H n => codeF P cal m1 (Lv.a (Lv.b (Lv.a (Lv.b (A 21))))) none 21 (cL (cR (cL (cR code21)))) (K21_pr cal k) (K21_pxrlr cal k) (doneK P results21) (Tr.set (Tr.set (Tr.set (Tr.set Tr.nil 7 (some u7)) 3 (some u3)) 2 (some u2)) 1 (some u1)) H n []
noncomputable def B21_1 (cal : Cal) (k m1 : Nat) (b1 : V4) (u1 u2 u3 u7 : Value) (H : Hp) (n : Nat) : Res :=
bindO (fieldAddrV P 26 u3 2) fun v_g =>
bindO (addrV v_g) fun a_i => bindO (loadV P H 24 a_i) fun v_h =>
bindO (indexAddrV P 24 v_h u1) fun v_k =>
bindO (fieldAddrV P 94 v_k 1) fun v_l =>
bindO (fieldAddrV P 55 v_l 1) fun v_m =>
bindO (addrV v_m) fun a_o => bindO (loadV P H 3 a_o) fun v_n =>
binK P .leq 3 (.tmp 15) (.tmp 22) u7 v_n fun v_p =>
ifK v_p (
bindO (addrV u3) fun a_r => bindO (loadV P H 26 a_r) fun v_q =>
callFK P cal 64 [v_q, u1, u2, u2, u7] H n fun v_w H_x n_y =>
ifK v_w (
some ((.bool true), H_x, n_y)) (
binK P .add 3 (.tmp 24) (.const (.int .i64 1)) u7 (.int .i64 1) fun v_11 =>
b1 u1 u2 u3 v_11 H_x n_y)) (
some ((.bool false), H, n))
noncomputable def C21_1 (cal : Cal) (k m1 : Nat) (b1 : V4) (u1 u2 u3 u7 : Value) (H : Hp) (n : Nat) : Res := B21_1 cal k m1 b1 u1 u2 u3 u7 H n
noncomputable def S21_1 (cal : Cal) (k : Nat) : Nat → V4 := fun m => Nat.rec (motive := fun _ => V4) (C21_1 cal k 0 (fun _ _ _ _ _ _ => none)) (fun m ih => C21_1 cal k (m + 1) ih) m
theorem h21_1 (cal : Cal) (k m1 : Nat) (u1 u2 u3 u7 : Value) (H : Hp) (n : Nat) : labK (E21_1 cal k m1) (Tr.set (Tr.set (Tr.set (Tr.set Tr.nil 7 (some u7)) 3 (some u3)) 2 (some u2)) 1 (some u1)) H n [] = C21_1 cal k m1 (R21_1 cal k m1) u1 u2 u3 u7 H n := by
  refine Eq.trans (b := B21_1 cal k m1 (R21_1 cal k m1) u1 u2 u3 u7 H n) (by kernel_rfl) ?_
  rw [C21_1]
theorem q21_1 (cal : Cal) (k : Nat) : ∀ (m : Nat) (u1 u2 u3 u7 : Value) (H : Hp) (n : Nat), labK (E21_1 cal k m) (Tr.set (Tr.set (Tr.set (Tr.set Tr.nil 7 (some u7)) 3 (some u3)) 2 (some u2)) 1 (some u1)) H n [] = S21_1 cal k m u1 u2 u3 u7 H n
  | 0, u1, u2, u3, u7, H, n => by
    rw [h21_1]
    have e : R21_1 cal k 0 = fun _ _ _ _ _ _ => none := by funext u1 u2 u3 u7 H n; kernel_rfl
    rw [e]; rfl
  | m + 1, u1, u2, u3, u7, H, n => by
    rw [h21_1]
    have e : R21_1 cal k (m + 1) = S21_1 cal k m := by
      funext u1 u2 u3 u7 H n
      have e : R21_1 cal k (m + 1) u1 u2 u3 u7 H n = labK (E21_1 cal k m) (Tr.set (Tr.set (Tr.set (Tr.set Tr.nil 7 (some u7)) 3 (some u3)) 2 (some u2)) 1 (some u1)) H n [] := by kernel_rfl
      rw [e]; exact q21_1 ..
    rw [e]; rfl
noncomputable def B21_0 (cal : Cal) (k : Nat) (j1 : V4) (v0 v1 v2 : Value) (H : Hp) (n : Nat) : Res :=
boxK 26 v0 H n fun v_1 H_2 n_3 =>
bindO (fieldAddrV P 26 v_1 2) fun v_5 =>
bindO (addrV v_5) fun a_7 => bindO (loadV P H_2 24 a_7) fun v_6 =>
bindO (indexAddrV P 24 v_6 v1) fun v_9 =>
bindO (fieldAddrV P 94 v_9 1) fun v_a =>
bindO (fieldAddrV P 55 v_a 0) fun v_b =>
bindO (addrV v_b) fun a_d => bindO (loadV P H_2 3 a_d) fun v_c =>
j1 v1 v2 v_1 v_c H_2 n_3
noncomputable def C21_0 (cal : Cal) (k : Nat) (v0 v1 v2 : Value) (H : Hp) (n : Nat) : Res := B21_0 cal k (S21_1 cal k k) v0 v1 v2 H n
theorem h21_0 (cal : Cal) (k : Nat) (v0 v1 v2 : Value) (H : Hp) (n : Nat) : bodyE P cal A (k + 1) 21 [v0, v1, v2] H n = C21_0 cal k v0 v1 v2 H n := by
  have h : bodyE P cal A (k + 1) 21 [v0, v1, v2] H n = B21_0 cal k (fun u1 u2 u3 u7 H n => labK (E21_1 cal k k) (Tr.set (Tr.set (Tr.set (Tr.set Tr.nil 7 (some u7)) 3 (some u3)) 2 (some u2)) 1 (some u1)) H n []) v0 v1 v2 H n := by
    rw [body_eq (fn := Go.Proofs.Try.f21) (c := code21) (rs := results21) (by kernel_rfl) (by kernel_rfl) (by kernel_rfl) (by kernel_rfl)]
    kernel_rfl
  rw [h, C21_0]
  have e1 : (fun u1 u2 u3 u7 H n => labK (E21_1 cal k k) (Tr.set (Tr.set (Tr.set (Tr.set Tr.nil 7 (some u7)) 3 (some u3)) 2 (some u2)) 1 (some u1)) H n []) = (S21_1 cal k k) := by funext u1 u2 u3 u7 H n; exact q21_1 ..
  rw [e1]
noncomputable def code22 : Code := codeOf 22
noncomputable def results22 : List ResultVar := resOf 22
noncomputable def K22_p (cal : Cal) (k : Nat) : KR := (cutK (A 22).c (codeE P cal (codeF P cal k) none 22 (cR code22) (Lv.b (A 22)) (doneK P results22) X0 (doneK P results22)))
noncomputable def K22_pr (cal : Cal) (k : Nat) : KR := (cutK (Lv.b (A 22)).c (codeE P cal (codeF P cal k) none 22 (cR (cR code22)) (Lv.b (Lv.b (A 22))) (doneK P results22) X0 (doneK P results22)))
noncomputable def K22_prr (cal : Cal) (k : Nat) : KR := (cutK (Lv.b (Lv.b (A 22))).c (codeE P cal (codeF P cal k) none 22 (cR (cR (cR code22))) (Lv.b (Lv.b (Lv.b (A 22)))) (doneK P results22) X0 (doneK P results22)))
noncomputable def K22_prrl (cal : Cal) (k : Nat) : KR := (cutK (Lv.a (Lv.b (Lv.b (A 22)))).c (codeE P cal (codeF P cal k) none 22 (cR (cL (cR (cR code22)))) (Lv.b (Lv.a (Lv.b (Lv.b (A 22))))) (K22_prr cal k) X0 (doneK P results22)))
noncomputable def K22_prrlrl (cal : Cal) (k : Nat) : KR := (cutK (Lv.a (Lv.b (Lv.a (Lv.b (Lv.b (A 22)))))).c (codeE P cal (codeF P cal k) none 22 (cR (cL (cR (cL (cR (cR code22)))))) (Lv.b (Lv.a (Lv.b (Lv.a (Lv.b (Lv.b (A 22))))))) (K22_prr cal k) X0 (doneK P results22)))
noncomputable def K22_prrr (cal : Cal) (k : Nat) : KR := (cutK (Lv.b (Lv.b (Lv.b (A 22)))).c (codeE P cal (codeF P cal k) none 22 (cR (cR (cR (cR code22)))) (Lv.b (Lv.b (Lv.b (Lv.b (A 22))))) (doneK P results22) X0 (doneK P results22)))
noncomputable def K22_prrrr (cal : Cal) (k : Nat) : KR := (cutK (Lv.b (Lv.b (Lv.b (Lv.b (A 22))))).c (codeE P cal (codeF P cal k) none 22 (cR (cR (cR (cR (cR code22))))) (Lv.b (Lv.b (Lv.b (Lv.b (Lv.b (A 22)))))) (doneK P results22) X0 (doneK P results22)))
noncomputable def B22_0 (cal : Cal) (k : Nat) (v0 v1 : Value) (H : Hp) (n : Nat) : Res :=
boxK 35 v0 H n fun v_1 H_2 n_3 =>
bindO (addrV v_1) fun a_7 => bindO (loadV P H_2 35 a_7) fun v_6 =>
callFK P cal 65 [v_6, v1] H_2 n_3 fun v_9 H_a n_b =>
bindO (tupV v_9 0) fun v_d =>
bindO (tupV v_9 1) fun v_e =>
bindO (tupV v_9 2) fun v_f =>
allocK P 121 H_a n_b fun v_g H_h n_i =>
bindO (storeP P 121 v_g v_e H_h) fun H_l =>
binK P .neq 29 (.tmp 17) (.const (.int .i64 0)) v_f (.int .i64 0) fun v_o =>
ifK v_o (
some ((Value.tuple ⟨[(.slice none 0 0), v_f]⟩), H_l, n_i)) (
bindO (addrV v_g) fun a_u => bindO (loadV P H_l 121 a_u) fun v_t =>
callFK P cal 66 [v_d, v_t] H_l n_i fun v_v H_w n_x =>
allocK P 111 H_w n_x fun v_y H_z n_10 =>
bindO (storeP P 111 v_y v_v H_z) fun H_12 =>
bindO (nilV v_d) fun v_14 =>
bindO (fieldAddrV P 117 v_14 0) fun v_15 =>
bindO (fieldAddrV P 35 v_15 0) fun v_16 =>
bindO (addrV v_16) fun a_18 => bindO (loadV P H_12 31 a_18) fun v_17 =>
bindO (lenV P 31 v_17) fun v_19 =>
bindO (sliceV P 111 v_y none (some v_19)) fun v_1a =>
callFK P cal 67 [v_1a] H_12 n_10 fun v_1b H_1c n_1d =>
some ((Value.tuple ⟨[v_1b, (.int .i64 0)]⟩), H_1c, n_1d))
noncomputable def C22_0 (cal : Cal) (k : Nat) (v0 v1 : Value) (H : Hp) (n : Nat) : Res := B22_0 cal k v0 v1 H n
theorem h22_0 (cal : Cal) (k : Nat) (v0 v1 : Value) (H : Hp) (n : Nat) : bodyE P cal A (k + 1) 22 [v0, v1] H n = C22_0 cal k v0 v1 H n := by
  have h : bodyE P cal A (k + 1) 22 [v0, v1] H n = B22_0 cal k v0 v1 H n := by
    rw [body_eq (fn := Go.Proofs.Try.f22) (c := code22) (rs := results22) (by kernel_rfl) (by kernel_rfl) (by kernel_rfl) (by kernel_rfl)]
    kernel_rfl
  rw [h, C22_0]
noncomputable def code23 : Code := codeOf 23
noncomputable def results23 : List ResultVar := resOf 23
noncomputable def K23_p (cal : Cal) (k : Nat) : KR := (cutK (A 23).c (codeE P cal (codeF P cal k) none 23 (cR code23) (Lv.b (A 23)) (doneK P results23) X0 (doneK P results23)))
noncomputable def K23_pr (cal : Cal) (k : Nat) : KR := (cutK (Lv.b (A 23)).c (codeE P cal (codeF P cal k) none 23 (cR (cR code23)) (Lv.b (Lv.b (A 23))) (doneK P results23) X0 (doneK P results23)))
noncomputable def B23_0 (cal : Cal) (k : Nat) (v0 : Value) (H : Hp) (n : Nat) : Res :=
rowK P 44 0 [] H n fun v_2 H_3 n_4 =>
stK (appendV P (bare H_3 n_4) 44 44 v_2 v0) fun v_6 H_7 n_8 =>
some (v_6, H_7, n_8)
noncomputable def C23_0 (cal : Cal) (k : Nat) (v0 : Value) (H : Hp) (n : Nat) : Res := B23_0 cal k v0 H n
theorem h23_0 (cal : Cal) (k : Nat) (v0 : Value) (H : Hp) (n : Nat) : bodyE P cal A (k + 1) 23 [v0] H n = C23_0 cal k v0 H n := by
  have h : bodyE P cal A (k + 1) 23 [v0] H n = B23_0 cal k v0 H n := by
    rw [body_eq (fn := Go.Proofs.Try.f23) (c := code23) (rs := results23) (by kernel_rfl) (by kernel_rfl) (by kernel_rfl) (by kernel_rfl)]
    kernel_rfl
  rw [h, C23_0]
noncomputable def code24 : Code := codeOf 24
noncomputable def results24 : List ResultVar := resOf 24
noncomputable def K24_p (cal : Cal) (k : Nat) : KR := (cutK (A 24).c (codeE P cal (codeF P cal k) none 24 (cR code24) (Lv.b (A 24)) (doneK P results24) X0 (doneK P results24)))
noncomputable def K24_pr (cal : Cal) (k : Nat) : KR := (cutK (Lv.b (A 24)).c (codeE P cal (codeF P cal k) none 24 (cR (cR code24)) (Lv.b (Lv.b (A 24))) (doneK P results24) X0 (doneK P results24)))
noncomputable def K24_prr (cal : Cal) (k : Nat) : KR := (cutK (Lv.b (Lv.b (A 24))).c (codeE P cal (codeF P cal k) none 24 (cR (cR (cR code24))) (Lv.b (Lv.b (Lv.b (A 24)))) (doneK P results24) X0 (doneK P results24)))
noncomputable def K24_prrl (cal : Cal) (k : Nat) : KR := (cutK (Lv.a (Lv.b (Lv.b (A 24)))).c (codeE P cal (codeF P cal k) none 24 (cR (cL (cR (cR code24)))) (Lv.b (Lv.a (Lv.b (Lv.b (A 24))))) (K24_prr cal k) X0 (doneK P results24)))
noncomputable def K24_prrlrl (cal : Cal) (k : Nat) : KR := (cutK (Lv.a (Lv.b (Lv.a (Lv.b (Lv.b (A 24)))))).c (codeE P cal (codeF P cal k) none 24 (cR (cL (cR (cL (cR (cR code24)))))) (Lv.b (Lv.a (Lv.b (Lv.a (Lv.b (Lv.b (A 24))))))) (K24_prr cal k) X0 (doneK P results24)))
noncomputable def K24_prrr (cal : Cal) (k : Nat) : KR := (cutK (Lv.b (Lv.b (Lv.b (A 24)))).c (codeE P cal (codeF P cal k) none 24 (cR (cR (cR (cR code24)))) (Lv.b (Lv.b (Lv.b (Lv.b (A 24))))) (doneK P results24) X0 (doneK P results24)))
noncomputable def K24_prrrr (cal : Cal) (k : Nat) : KR := (cutK (Lv.b (Lv.b (Lv.b (Lv.b (A 24))))).c (codeE P cal (codeF P cal k) none 24 (cR (cR (cR (cR (cR code24))))) (Lv.b (Lv.b (Lv.b (Lv.b (Lv.b (A 24)))))) (doneK P results24) X0 (doneK P results24)))
noncomputable def K24_prrrrl (cal : Cal) (k : Nat) : KR := (cutK (Lv.a (Lv.b (Lv.b (Lv.b (Lv.b (A 24)))))).c (codeE P cal (codeF P cal k) none 24 (cR (cL (cR (cR (cR (cR code24)))))) (Lv.b (Lv.a (Lv.b (Lv.b (Lv.b (Lv.b (A 24))))))) (K24_prrrr cal k) X0 (doneK P results24)))
noncomputable def K24_pxrrrrlr (cal : Cal) (k : Nat) : XR := (upX 0 (K24_prrrr cal k) X0)
noncomputable def K24_prrrrlrl (cal : Cal) (k : Nat) (m1 : Nat) : KR := (fun T H n D => codeF P cal m1 (Lv.a (Lv.b (Lv.a (Lv.b (Lv.b (Lv.b (Lv.b (A 24)))))))) none 24 (cL (cR (cL (cR (cR (cR (cR code24))))))) (K24_prrrr cal k) (K24_pxrrrrlr cal k) (doneK P results24) (cutT (Lv.a (Lv.b (Lv.a (Lv.b (Lv.b (Lv.b (Lv.b (A 24)))))))).c T) H n D)
noncomputable def K24_prrrrlrll (cal : Cal) (k : Nat) (m1 : Nat) : KR := (cutK (Lv.a (Lv.a (Lv.b (Lv.a (Lv.b (Lv.b (Lv.b (Lv.b (A 24))))))))).c (codeE P cal (codeF P cal m1) none 24 (cR (cL (cL (cR (cL (cR (cR (cR (cR code24))))))))) (Lv.b (Lv.a (Lv.a (Lv.b (Lv.a (Lv.b (Lv.b (Lv.b (Lv.b (A 24)))))))))) (K24_prrrrlrl cal k m1) (K24_pxrrrrlr cal k) (doneK P results24)))
noncomputable def K24_prrrrlrllr (cal : Cal) (k : Nat) (m1 : Nat) : KR := (cutK (Lv.b (Lv.a (Lv.a (Lv.b (Lv.a (Lv.b (Lv.b (Lv.b (Lv.b (A 24)))))))))).c (codeE P cal (codeF P cal m1) none 24 (cR (cR (cL (cL (cR (cL (cR (cR (cR (cR code24)))))))))) (Lv.b (Lv.b (Lv.a (Lv.a (Lv.b (Lv.a (Lv.b (Lv.b (Lv.b (Lv.b (A 24))))))))))) (K24_prrrrlrl cal k m1) (K24_pxrrrrlr cal k) (doneK P results24)))
noncomputable def K24_prrrrlrllrr (cal : Cal) (k : Nat) (m1 : Nat) : KR := (cutK (Lv.b (Lv.b (Lv.a (Lv.a (Lv.b (Lv.a (Lv.b (Lv.b (Lv.b (Lv.b (A 24))))))))))).c (codeE P cal (codeF P cal m1) none 24 (cR (cR (cR (cL (cL (cR (cL (cR (cR (cR (cR code24))))))))))) (Lv.b (Lv.b (Lv.b (Lv.a (Lv.a (Lv.b (Lv.a (Lv.b (Lv.b (Lv.b (Lv.b (A 24)))))))))))) (K24_prrrrlrl cal k m1) (K24_pxrrrrlr cal k) (doneK P results24)))
noncomputable def K24_pxrrrrlrllrrl (cal : Cal) (k : Nat) (m1 : Nat) : XR := (upX 1 (K24_prrrrlrllrr cal k m1) (K24_pxrrrrlr cal k))
noncomputable def K24_prrrrlrllrrll (cal : Cal) (k : Nat) (m1 : Nat) : KR := (cutK (Lv.a (Lv.a (Lv.b (Lv.b (Lv.a (Lv.a (Lv.b (Lv.a (Lv.b (Lv.b (Lv.b (Lv.b (A 24))))))))))))).c (codeE P cal (codeF P cal m1) none 24 (cR (cL (cL (cR (cR (cL (cL (cR (cL (cR (cR (cR (cR code24))))))))))))) (Lv.b (Lv.a (Lv.a (Lv.b (Lv.b (Lv.a (Lv.a (Lv.b (Lv.a (Lv.b (Lv.b (Lv.b (Lv.b (A 24)))))))))))))) (K24_prrrrlrllrr cal k m1) (K24_pxrrrrlrllrrl cal k m1) (doneK P results24)))
noncomputable def K24_prrrrlrllrrllrr (cal : Cal) (k : Nat) (m1 : Nat) : KR := (cutK (Lv.b (Lv.b (Lv.a (Lv.a (Lv.b (Lv.b (Lv.a (Lv.a (Lv.b (Lv.a (Lv.b (Lv.b (Lv.b (Lv.b (A 24))))))))))))))).c (codeE P cal (codeF P cal m1) none 24 (cR (cR (cR (cL (cL (cR (cR (cL (cL (cR (cL (cR (cR (cR (cR code24))))))))))))))) (Lv.b (Lv.b (Lv.b (Lv.a (Lv.a (Lv.b (Lv.b (Lv.a (Lv.a (Lv.b (Lv.a (Lv.b (Lv.b (Lv.b (Lv.b (A 24)))))))))))))))) (K24_prrrrlrllrr cal k m1) (K24_pxrrrrlrllrrl cal k m1) (doneK P results24)))
noncomputable def K24_prrrrlrllrrllr (cal : Cal) (k : Nat) (m1 : Nat) : KR := (cutK (Lv.b (Lv.a (Lv.a (Lv.b (Lv.b (Lv.a (Lv.a (Lv.b (Lv.a (Lv.b (Lv.b (Lv.b (Lv.b (A 24)))))))))))))).c (codeE P cal (codeF P cal m1) none 24 (cR (cR (cL (cL (cR (cR (cL (cL (cR (cL (cR (cR (cR (cR code24)))))))))))))) (Lv.b (Lv.b (Lv.a (Lv.a (Lv.b (Lv.b (Lv.a (Lv.a (Lv.b (Lv.a (Lv.b (Lv.b (Lv.b (Lv.b (A 24))))))))))))))) (K24_prrrrlrllrr cal k m1) (K24_pxrrrrlrllrrl cal k m1) (doneK P results24)))
noncomputable def K24_prrrrlrllrrllrl (cal : Cal) (k : Nat) (m1 : Nat) : KR := (cutK (Lv.a (Lv.b (Lv.a (Lv.a (Lv.b (Lv.b (Lv.a (Lv.a (Lv.b (Lv.a (Lv.b (Lv.b (Lv.b (Lv.b (A 24))))))))))))))).c (codeE P cal (codeF P cal m1) none 24 (cR (cL (cR (cL (cL (cR (cR (cL (cL (cR (cL (cR (cR (cR (cR code24))))))))))))))) (Lv.b (Lv.a (Lv.b (Lv.a (Lv.a (Lv.b (Lv.b (Lv.a (Lv.a (Lv.b (Lv.a (Lv.b (Lv.b (Lv.b (Lv.b (A 24)))))))))))))))) (K24_prrrrlrllrrllr cal k m1) (K24_pxrrrrlrllrrl cal k m1) (doneK P results24)))
noncomputable def K24_prrrrr (cal : Cal) (k : Nat) : KR := (cutK (Lv.b (Lv.b (Lv.b (Lv.b (Lv.b (A 24)))))).c (codeE P cal (codeF P cal k) none 24 (cR (cR (cR (cR (cR (cR code24)))))) (Lv.b (Lv.b (Lv.b (Lv.b (Lv.b (Lv.b (A 24))))))) (doneK P results24) X0 (doneK P results24)))
noncomputable def E24_2 (cal : Cal) (k m1 : Nat) : KR := codeE P cal (codeF P cal m1) none 24 (cR (cR (cR (cL (cL (cR (cL (cR (cR (cR (cR code24))))))))))) (Lv.b (Lv.b (Lv.b (Lv.a (Lv.a (Lv.b (Lv.a (Lv.b (Lv.b (Lv.b (Lv.b (A 24)))))))))))) (K24_prrrrlrl cal k m1) (K24_pxrrrrlr cal k) (doneK P results24)
noncomputable def E24_3 (cal : Cal) (k m1 : Nat) : KR := codeE P cal (codeF P cal m1) none 24 (cR (cR (cL (cL (cR (cR (cL (cL (cR (cL (cR (cR (cR (cR code24)))))))))))))) (Lv.b (Lv.b (Lv.a (Lv.a (Lv.b (Lv.b (Lv.a (Lv.a (Lv.b (Lv.a (Lv.b (Lv.b (Lv.b (Lv.b (A 24))))))))))))))) (K24_prrrrlrllrr cal k m1) (K24_pxrrrrlrllrrl cal k m1) (doneK P results24)
noncomputable def E24_1 (cal : Cal) (k m1 : Nat) : KR := codeE P cal (codeF P cal m1) none 24 (cL (cL (cR (cL (cR (cR (cR (cR code24)))))))) (Lv.a (Lv.a (Lv.b (Lv.a (Lv.b (Lv.b (Lv.b (Lv.b (A 24))))))))) (K24_prrrrlrl cal k m1) (K24_pxrrrrlr cal k) (doneK P results24)
noncomputable def R24_1 (cal : Cal) (k m1 : Nat) : V6 := fun u4 u5 u7 u9 u29 u30 H n => codeF P cal m1 (Lv.a (Lv.b (Lv.a (Lv.b (Lv.b (Lv.b (Lv.b (A 24)))))))) none 24 (cL (cR (cL (cR (cR (cR (cR code24))))))) (K24_prrrr cal k) (K24_pxrrrrlr cal k) (doneK P results24) (Tr.set (Tr.set (Tr.set (Tr.set (Tr.set (Tr.set Tr.nil 30 (some u30)) 29 (some u29)) 9 (some u9)) 7 (some u7)) 5 (some u5)) 4 (some u4)) H n []
noncomputable def B24_2 (cal : Cal) (k m1 : Nat) (b1 : V6) (u4 u5 u7 u9 u29 u30 : Value) (H : Hp) (n : Nat) : Res :=
binK P .add 3 (.tmp 30) (.const (.int .i64 1)) u30 (.int .i64 1) fun v_1e =>
b1 u4 u5 u7 u9 u29 v_1e H n
noncomputable def C24_2 (cal : Cal) (k m1 : Nat) (b1 : V6) (u4 u5 u7 u9 u29 u30 : Value) (H : Hp) (n : Nat) : Res := B24_2 cal k m1 b1 u4 u5 u7 u9 u29 u30 H n
theorem h24_2 (cal : Cal) (k m1 : Nat) (u4 u5 u7 u9 u29 u30 : Value) (H : Hp) (n : Nat) : labK (E24_2 cal k m1) (Tr.set (Tr.set (Tr.set (Tr.set (Tr.set (Tr.set Tr.nil 30 (some u30)) 29 (some u29)) 9 (some u9)) 7 (some u7)) 5 (some u5)) 4 (some u4)) H n [] = C24_2 cal k m1 (R24_1 cal k m1) u4 u5 u7 u9 u29 u30 H n := by
  refine Eq.trans (b := B24_2 cal k m1 (R24_1 cal k m1) u4 u5 u7 u9 u29 u30 H n) (by kernel_rfl) ?_
  rw [C24_2]
noncomputable def B24_3 (cal : Cal) (k m1 : Nat) (j2 : V6) (b1 : V6) (u4 u5 u7 u9 u10 u29 u30 : Value) (H : Hp) (n : Nat) : Res :=
bindO (addrV u9) fun a_1k => bindO (loadV P H 111 a_1k) fun v_1j =>
callFK P cal 69 [u7, v_1j, u10] H n fun v_1m H_1n n_1o =>
ifK v_1m (
rowK P 44 1 [(0, u10)] H_1n n_1o fun v_1r H_1s n_1t =>
stK (appendV P (bare H_1s n_1t) 44 44 u5 v_1r) fun v_1u H_1v n_1w =>
j2 u4 v_1u u7 u9 u29 u30 H_1v n_1w) (
j2 u4 u5 u7 u9 u29 u30 H_1n n_1o)
noncomputable def C24_3 (cal : Cal) (k m1 : Nat) (b1 : V6) (u4 u5 u7 u9 u10 u29 u30 : Value) (H : Hp) (n : Nat) : Res := B24_3 cal k m1 (C24_2 cal k m1 b1) b1 u4 u5 u7 u9 u10 u29 u30 H n
theorem h24_3 (cal : Cal) (k m1 : Nat) (u4 u5 u7 u9 u10 u29 u30 : Value) (H : Hp) (n : Nat) : labK (E24_3 cal k m1) (Tr.set (Tr.set (Tr.set (Tr.set (Tr.set (Tr.set (Tr.set Tr.nil 30 (some u30)) 29 (some u29)) 10 (some u10)) 9 (some u9)) 7 (some u7)) 5 (some u5)) 4 (some u4)) H n [] = C24_3 cal k m1 (R24_1 cal k m1) u4 u5 u7 u9 u10 u29 u30 H n := by
  refine Eq.trans (b := B24_3 cal k m1 (fun u4 u5 u7 u9 u29 u30 H n => labK (E24_2 cal k m1) (Tr.set (Tr.set (Tr.set (Tr.set (Tr.set (Tr.set Tr.nil 30 (some u30)) 29 (some u29)) 9 (some u9)) 7 (some u7)) 5 (some u5)) 4 (some u4)) H n []) (R24_1 cal k m1) u4 u5 u7 u9 u10 u29 u30 H n) (by kernel_rfl) ?_
  rw [C24_3]
  have e2 : (fun u4 u5 u7 u9 u29 u30 H n => labK (E24_2 cal k m1) (Tr.set (Tr.set (Tr.set (Tr.set (Tr.set (Tr.set Tr.nil 30 (some u30)) 29 (some u29)) 9 (some u9)) 7 (some u7)) 5 (some u5)) 4 (some u4)) H n []) = (C24_2 cal k m1 (R24_1 cal k m1)) := by funext u4 u5 u7 u9 u29 u30 H n; exact h24_2 ..
  rw [e2]
noncomputable def B24_1 (cal : Cal) (k m1 : Nat) (j3 : V7) (b1 : V6) (u4 u5 u7 u9 u29 u30 : Value) (H : Hp) (n : Nat) : Res :=
binK P .lss 3 (.tmp 30) (.tmp 29) u30 u29 fun v_1d =>
ifK v_1d (
bindO (addrV u9) fun a_20 => bindO (loadV P H 111 a_20) fun v_1z =>
callFK P cal 68 [u7, v_1z, u30] H n fun v_22 H_23 n_24 =>
ifK v_22 (
rowK P 44 1 [(0, u30)] H_23 n_24 fun v_27 H_28 n_29 =>
stK (appendV P (bare H_28 n_29) 44 44 u4 v_27) fun v_2a H_2b n_2c =>
j3 v_2a u5 u7 u9 u30 u29 u30 H_2b n_2c) (
j3 u4 u5 u7 u9 u30 u29 u30 H_23 n_24)) (
some ((Value.tuple ⟨[u4, u5, (.int .i64 0)]⟩), H, n))
noncomputable def C24_1 (cal : Cal) (k m1 : Nat) (b1 : V6) (u4 u5 u7 u9 u29 u30 : Value) (H : Hp) (n : Nat) : Res := B24_1 cal k m1 (C24_3 cal k m1 b1) b1 u4 u5 u7 u9 u29 u30 H n
noncomputable def S24_1 (cal : Cal) (k : Nat) : Nat → V6 := fun m => Nat.rec (motive := fun _ => V6) (C24_1 cal k 0 (fun _ _ _ _ _ _ _ _ => none)) (fun m ih => C24_1 cal k (m + 1) ih) m
theorem h24_1 (cal : Cal) (k m1 : Nat) (u4 u5 u7 u9 u29 u30 : Value) (H : Hp) (n : Nat) : labK (E24_1 cal k m1) (Tr.set (Tr.set (Tr.set (Tr.set (Tr.set (Tr.set Tr.nil 30 (some u30)) 29 (some u29)) 9 (some u9)) 7 (some u7)) 5 (some u5)) 4 (some u4)) H n [] = C24_1 cal k m1 (R24_1 cal k m1) u4 u5 u7 u9 u29 u30 H n := by
  refine Eq.trans (b := B24_1 cal k m1 (fun u4 u5 u7 u9 u10 u29 u30 H n => labK (E24_3 cal k m1) (Tr.set (Tr.set (Tr.set (Tr.set (Tr.set (Tr.set (Tr.set Tr.nil 30 (some u30)) 29 (some u29)) 10 (some u10)) 9 (some u9)) 7 (some u7)) 5 (some u5)) 4 (some u4)) H n []) (R24_1 cal k m1) u4 u5 u7 u9 u29 u30 H n) (by kernel_rfl) ?_
  rw [C24_1]
  have e3 : (fun u4 u5 u7 u9 u10 u29 u30 H n => labK (E24_3 cal k m1) (Tr.set (Tr.set (Tr.set (Tr.set (Tr.set (Tr.set (Tr.set Tr.nil 30 (some u30)) 29 (some u29)) 10 (some u10)) 9 (some u9)) 7 (some u7)) 5 (some u5)) 4 (some u4)) H n []) = (C24_3 cal k m1 (R24_1 cal k m1)) := by funext u4 u5 u7 u9 u10 u29 u30 H n; exact h24_3 ..
  rw [e3]
theorem q24_1 (cal : Cal) (k : Nat) : ∀ (m : Nat) (u4 u5 u7 u9 u29 u30 : Value) (H : Hp) (n : Nat), labK (E24_1 cal k m) (Tr.set (Tr.set (Tr.set (Tr.set (Tr.set (Tr.set Tr.nil 30 (some u30)) 29 (some u29)) 9 (some u9)) 7 (some u7)) 5 (some u5)) 4 (some u4)) H n [] = S24_1 cal k m u4 u5 u7 u9 u29 u30 H n
  | 0, u4, u5, u7, u9, u29, u30, H, n => by
    rw [h24_1]
    have e : R24_1 cal k 0 = fun _ _ _ _ _ _ _ _ => none := by funext u4 u5 u7 u9 u29 u30 H n; kernel_rfl
    rw [e]; rfl
  | m + 1, u4, u5, u7, u9, u29, u30, H, n => by
    rw [h24_1]
    have e : R24_1 cal k (m + 1) = S24_1 cal k m := by
      funext u4 u5 u7 u9 u29 u30 H n
      have e : R24_1 cal k (m + 1) u4 u5 u7 u9 u29 u30 H n = labK (E24_1 cal k m) (Tr.set (Tr.set (Tr.set (Tr.set (Tr.set (Tr.set Tr.nil 30 (some u30)) 29 (some u29)) 9 (some u9)) 7 (some u7)) 5 (some u5)) 4 (some u4)) H n [] := by kernel_rfl
      rw [e]; exact q24_1 ..
    rw [e]; rfl
noncomputable def B24_0 (cal : Cal) (k : Nat) (j1 : V6) (v0 v1 : Value) (H : Hp) (n : Nat) : Res :=
boxK 35 v0 H n fun v_1 H_2 n_3 =>
bindO (addrV v_1) fun a_8 => bindO (loadV P H_2 35 a_8) fun v_7 =>
callFK P cal 65 [v_7, v1] H_2 n_3 fun v_a H_b n_c =>
bindO (tupV v_a 0) fun v_e =>
bindO (tupV v_a 1) fun v_f =>
bindO (tupV v_a 2) fun v_g =>
allocK P 121 H_b n_c fun v_h H_i n_j =>
bindO (storeP P 121 v_h v_f H_i) fun H_m =>
binK P .neq 29 (.tmp 18) (.const (.int .i64 0)) v_g (.int .i64 0) fun v_p =>
ifK v_p (
some ((Value.tuple ⟨[(.slice none 0 0), (.slice none 0 0), v_g]⟩), H_m, n_j)) (
bindO (addrV v_h) fun a_w => bindO (loadV P H_m 121 a_w) fun v_v =>
callFK P cal 66 [v_e, v_v] H_m n_j fun v_x H_y n_z =>
allocK P 111 H_y n_z fun v_10 H_11 n_12 =>
bindO (storeP P 111 v_10 v_x H_11) fun H_14 =>
bindO (nilV v_e) fun v_16 =>
bindO (fieldAddrV P 117 v_16 0) fun v_17 =>
bindO (fieldAddrV P 35 v_17 0) fun v_18 =>
bindO (addrV v_18) fun a_1a => bindO (loadV P H_14 31 a_1a) fun v_19 =>
bindO (lenV P 31 v_19) fun v_1b =>
j1 (.slice none 0 0) (.slice none 0 0) v_e v_10 v_1b (.int .i64 0) H_14 n_12)
noncomputable def C24_0 (cal : Cal) (k : Nat) (v0 v1 : Value) (H : Hp) (n : Nat) : Res := B24_0 cal k (S24_1 cal k k) v0 v1 H n
theorem h24_0 (cal : Cal) (k : Nat) (v0 v1 : Value) (H : Hp) (n : Nat) : bodyE P cal A (k + 1) 24 [v0, v1] H n = C24_0 cal k v0 v1 H n := by
  have h : bodyE P cal A (k + 1) 24 [v0, v1] H n = B24_0 cal k (fun u4 u5 u7 u9 u29 u30 H n => labK (E24_1 cal k k) (Tr.set (Tr.set (Tr.set (Tr.set (Tr.set (Tr.set Tr.nil 30 (some u30)) 29 (some u29)) 9 (some u9)) 7 (some u7)) 5 (some u5)) 4 (some u4)) H n []) v0 v1 H n := by
    rw [body_eq (fn := Go.Proofs.Try.f24) (c := code24) (rs := results24) (by kernel_rfl) (by kernel_rfl) (by kernel_rfl) (by kernel_rfl)]
    kernel_rfl
  rw [h, C24_0]
  have e1 : (fun u4 u5 u7 u9 u29 u30 H n => labK (E24_1 cal k k) (Tr.set (Tr.set (Tr.set (Tr.set (Tr.set (Tr.set Tr.nil 30 (some u30)) 29 (some u29)) 9 (some u9)) 7 (some u7)) 5 (some u5)) 4 (some u4)) H n []) = (S24_1 cal k k) := by funext u4 u5 u7 u9 u29 u30 H n; exact q24_1 ..
  rw [e1]
noncomputable def code25 : Code := codeOf 25
noncomputable def results25 : List ResultVar := resOf 25
noncomputable def K25_p (cal : Cal) (k : Nat) : KR := (cutK (A 25).c (codeE P cal (codeF P cal k) none 25 (cR code25) (Lv.b (A 25)) (doneK P results25) X0 (doneK P results25)))
noncomputable def K25_pr (cal : Cal) (k : Nat) : KR := (cutK (Lv.b (A 25)).c (codeE P cal (codeF P cal k) none 25 (cR (cR code25)) (Lv.b (Lv.b (A 25))) (doneK P results25) X0 (doneK P results25)))
noncomputable def K25_prl (cal : Cal) (k : Nat) : KR := (cutK (Lv.a (Lv.b (A 25))).c (codeE P cal (codeF P cal k) none 25 (cR (cL (cR code25))) (Lv.b (Lv.a (Lv.b (A 25)))) (K25_pr cal k) X0 (doneK P results25)))
noncomputable def K25_prlr (cal : Cal) (k : Nat) : KR := (cutK (Lv.b (Lv.a (Lv.b (A 25)))).c (codeE P cal (codeF P cal k) none 25 (cR (cR (cL (cR code25)))) (Lv.b (Lv.b (Lv.a (Lv.b (A 25))))) (K25_pr cal k) X0 (doneK P results25)))
noncomputable def K25_prlrrl (cal : Cal) (k : Nat) : KR := (cutK (Lv.a (Lv.b (Lv.b (Lv.a (Lv.b (A 25)))))).c (codeE P cal (codeF P cal k) none 25 (cR (cL (cR (cR (cL (cR code25)))))) (Lv.b (Lv.a (Lv.b (Lv.b (Lv.a (Lv.b (A 25))))))) (K25_pr cal k) X0 (doneK P results25)))
noncomputable def K25_prr (cal : Cal) (k : Nat) : KR := (cutK (Lv.b (Lv.b (A 25))).c (codeE P cal (codeF P cal k) none 25 (cR (cR (cR code25))) (Lv.b (Lv.b (Lv.b (A 25)))) (doneK P results25) X0 (doneK P results25)))
noncomputable def K25_prrl (cal : Cal) (k : Nat) : KR := (cutK (Lv.a (Lv.b (Lv.b (A 25)))).c (codeE P cal (codeF P cal k) none 25 (cR (cL (cR (cR code25)))) (Lv.b (Lv.a (Lv.b (Lv.b (A 25))))) (K25_prr cal k) X0 (doneK P results25)))
noncomputable def K25_prrlrl (cal : Cal) (k : Nat) : KR := (cutK (Lv.a (Lv.b (Lv.a (Lv.b (Lv.b (A 25)))))).c (codeE P cal (codeF P cal k) none 25 (cR (cL (cR (cL (cR (cR code25)))))) (Lv.b (Lv.a (Lv.b (Lv.a (Lv.b (Lv.b (A 25))))))) (K25_prr cal k) X0 (doneK P results25)))
noncomputable def K25_prrr (cal : Cal) (k : Nat) : KR := (cutK (Lv.b (Lv.b (Lv.b (A 25)))).c (codeE P cal (codeF P cal k) none 25 (cR (cR (cR (cR code25)))) (Lv.b (Lv.b (Lv.b (Lv.b (A 25))))) (doneK P results25) X0 (doneK P results25)))
noncomputable def B25_0 (cal : Cal) (k : Nat) (v0 v1 : Value) (H : Hp) (n : Nat) : Res :=
boxK 26 v0 H n fun v_1 H_2 n_3 =>
bindO (addrV v_1) fun a_6 => bindO (loadV P H_2 26 a_6) fun v_5 =>
callFK P cal 20 [v_5] H_2 n_3 fun v_7 H_8 n_9 =>
binK P .neq 29 (.tmp 8) (.const (.int .i64 0)) v_7 (.int .i64 0) fun v_c =>
ifK v_c (
some (v_7, H_8, n_9)) (
bindO (addrV v_1) fun a_g => bindO (loadV P H_8 26 a_g) fun v_f =>
callFK P cal 58 [v_f, v1] H_8 n_9 fun v_i H_j n_k =>
bindO (pureSem P v_i (Op.unary UnOp.not v_i)) fun v_l =>
ifK v_l (
some ((.int .i64 2), H_j, n_k)) (
some ((.int .i64 0), H_j, n_k)))
noncomputable def C25_0 (cal : Cal) (k : Nat) (v0 v1 : Value) (H : Hp) (n : Nat) : Res := B25_0 cal k v0 v1 H n
theorem h25_0 (cal : Cal) (k : Nat) (v0 v1 : Value) (H : Hp) (n : Nat) : bodyE P cal A (k + 1) 25 [v0, v1] H n = C25_0 cal k v0 v1 H n := by
  have h : bodyE P cal A (k + 1) 25 [v0, v1] H n = B25_0 cal k v0 v1 H n := by
    rw [body_eq (fn := Go.Proofs.Try.f25) (c := code25) (rs := results25) (by kernel_rfl) (by kernel_rfl) (by kernel_rfl) (by kernel_rfl)]
    kernel_rfl
  rw [h, C25_0]
noncomputable def code26 : Code := codeOf 26
noncomputable def results26 : List ResultVar := resOf 26
noncomputable def K26_p (cal : Cal) (k : Nat) : KR := (cutK (A 26).c (codeE P cal (codeF P cal k) none 26 (cR code26) (Lv.b (A 26)) (doneK P results26) X0 (doneK P results26)))
noncomputable def K26_pr (cal : Cal) (k : Nat) : KR := (cutK (Lv.b (A 26)).c (codeE P cal (codeF P cal k) none 26 (cR (cR code26)) (Lv.b (Lv.b (A 26))) (doneK P results26) X0 (doneK P results26)))
noncomputable def B26_0 (cal : Cal) (k : Nat) (v0 : Value) (H : Hp) (n : Nat) : Res :=
boxK 55 v0 H n fun v_1 H_2 n_3 =>
allocK P 53 H_2 n_3 fun v_4 H_5 n_6 =>
bindO (fieldAddrV P 55 v_1 0) fun v_7 =>
bindO (addrV v_7) fun a_9 => bindO (loadV P H_5 3 a_9) fun v_8 =>
bindO (fieldAddrV P 55 v_1 1) fun v_a =>
bindO (addrV v_a) fun a_c => bindO (loadV P H_5 3 a_c) fun v_b =>
bindO (buildP P 53 [(0, v_8), (1, v_b)]) fun v_d =>
bindO (storeP P 53 v_4 v_d H_5) fun H_f =>
bindO (resV P (Tr.set Tr.nil 2 (some v_4)) H_f results26) fun v_g => some (oneV v_g, H_f, n_6)
noncomputable def C26_0 (cal : Cal) (k : Nat) (v0 : Value) (H : Hp) (n : Nat) : Res := B26_0 cal k v0 H n
theorem h26_0 (cal : Cal) (k : Nat) (v0 : Value) (H : Hp) (n : Nat) : bodyE P cal A (k + 1) 26 [v0] H n = C26_0 cal k v0 H n := by
  have h : bodyE P cal A (k + 1) 26 [v0] H n = B26_0 cal k v0 H n := by
    rw [body_eq (fn := Go.Proofs.Try.f26) (c := code26) (rs := results26) (by kernel_rfl) (by kernel_rfl) (by kernel_rfl) (by kernel_rfl)]
    kernel_rfl
  rw [h, C26_0]
noncomputable def code27 : Code := codeOf 27
noncomputable def results27 : List ResultVar := resOf 27
noncomputable def K27_p (cal : Cal) (k : Nat) : KR := (cutK (A 27).c (codeE P cal (codeF P cal k) none 27 (cR code27) (Lv.b (A 27)) (doneK P results27) X0 (doneK P results27)))
noncomputable def K27_pr (cal : Cal) (k : Nat) : KR := (cutK (Lv.b (A 27)).c (codeE P cal (codeF P cal k) none 27 (cR (cR code27)) (Lv.b (Lv.b (A 27))) (doneK P results27) X0 (doneK P results27)))
noncomputable def K27_prr (cal : Cal) (k : Nat) : KR := (cutK (Lv.b (Lv.b (A 27))).c (codeE P cal (codeF P cal k) none 27 (cR (cR (cR code27))) (Lv.b (Lv.b (Lv.b (A 27)))) (doneK P results27) X0 (doneK P results27)))
noncomputable def K27_prrl (cal : Cal) (k : Nat) : KR := (cutK (Lv.a (Lv.b (Lv.b (A 27)))).c (codeE P cal (codeF P cal k) none 27 (cR (cL (cR (cR code27)))) (Lv.b (Lv.a (Lv.b (Lv.b (A 27))))) (K27_prr cal k) X0 (doneK P results27)))
noncomputable def K27_pxrrlr (cal : Cal) (k : Nat) : XR := (upX 0 (K27_prr cal k) X0)
noncomputable def K27_prrlrl (cal : Cal) (k : Nat) (m1 : Nat) : KR := (fun T H n D => codeF P cal m1 (Lv.a (Lv.b (Lv.a (Lv.b (Lv.b (A 27)))))) none 27 (cL (cR (cL (cR (cR code27))))) (K27_prr cal k) (K27_pxrrlr cal k) (doneK P results27) (cutT (Lv.a (Lv.b (Lv.a (Lv.b (Lv.b (A 27)))))).c T) H n D)
noncomputable def K27_prrlrll (cal : Cal) (k : Nat) (m1 : Nat) : KR := (cutK (Lv.a (Lv.a (Lv.b (Lv.a (Lv.b (Lv.b (A 27))))))).c (codeE P cal (codeF P cal m1) none 27 (cR (cL (cL (cR (cL (cR (cR code27))))))) (Lv.b (Lv.a (Lv.a (Lv.b (Lv.a (Lv.b (Lv.b (A 27)))))))) (K27_prrlrl cal k m1) (K27_pxrrlr cal k) (doneK P results27)))
noncomputable def K27_prrlrlll (cal : Cal) (k : Nat) (m1 : Nat) : KR := (cutK (Lv.a (Lv.a (Lv.a (Lv.b (Lv.a (Lv.b (Lv.b (A 27)))))))).c (codeE P cal (codeF P cal m1) none 27 (cR (cL (cL (cL (cR (cL (cR (cR code27)))))))) (Lv.b (Lv.a (Lv.a (Lv.a (Lv.b (Lv.a (Lv.b (Lv.b (A 27))))))))) (K27_prrlrll cal k m1) (K27_pxrrlr cal k) (doneK P results27)))
noncomputable def K27_prrlrllr (cal : Cal) (k : Nat) (m1 : Nat) : KR := (cutK (Lv.b (Lv.a (Lv.a (Lv.b (Lv.a (Lv.b (Lv.b (A 27)))))))).c (codeE P cal (codeF P cal m1) none 27 (cR (cR (cL (cL (cR (cL (cR (cR code27)))))))) (Lv.b (Lv.b (Lv.a (Lv.a (Lv.b (Lv.a (Lv.b (Lv.b (A 27))))))))) (K27_prrlrl cal k m1) (K27_pxrrlr cal k) (doneK P results27)))
noncomputable def K27_pxrrlrllrl (cal : Cal) (k : Nat) (m1 : Nat) : XR := (upX 1 (K27_prrlrllr cal k m1) (K27_pxrrlr cal k))
noncomputable def K27_prrlrllrll (cal : Cal) (k : Nat) (m1 : Nat) : KR := (cutK (Lv.a (Lv.a (Lv.b (Lv.a (Lv.a (Lv.b (Lv.a (Lv.b (Lv.b (A 27)))))))))).c (codeE P cal (codeF P cal m1) none 27 (cR (cL (cL (cR (cL (cL (cR (cL (cR (cR code27)))))))))) (Lv.b (Lv.a (Lv.a (Lv.b (Lv.a (Lv.a (Lv.b (Lv.a (Lv.b (Lv.b (A 27))))))))))) (K27_prrlrllr cal k m1) (K27_pxrrlrllrl cal k m1) (doneK P results27)))
noncomputable def K27_prrlrllrllrl (cal : Cal) (k : Nat) (m1 : Nat) : KR := (cutK (Lv.a (Lv.b (Lv.a (Lv.a (Lv.b (Lv.a (Lv.a (Lv.b (Lv.a (Lv.b (Lv.b (A 27)))))))))))).c (codeE P cal (codeF P cal m1) none 27 (cR (cL (cR (cL (cL (cR (cL (cL (cR (cL (cR (cR code27)))))))))))) (Lv.b (Lv.a (Lv.b (Lv.a (Lv.a (Lv.b (Lv.a (Lv.a (Lv.b (Lv.a (Lv.b (Lv.b (A 27))))))))))))) (K27_prrlrllr cal k m1) (K27_pxrrlrllrl cal k m1) (doneK P results27)))
noncomputable def K27_prrr (cal : Cal) (k : Nat) : KR := (cutK (Lv.b (Lv.b (Lv.b (A 27)))).c (codeE P cal (codeF P cal k) none 27 (cR (cR (cR (cR code27)))) (Lv.b (Lv.b (Lv.b (Lv.b (A 27))))) (doneK P results27) X0 (doneK P results27)))
noncomputable def E27_2 (cal : Cal) (k m1 : Nat) : KR := codeE P cal (codeF P cal m1) none 27 (cR (cR (cL (cL (cR (cL (cR (cR code27)))))))) (Lv.b (Lv.b (Lv.a (Lv.a (Lv.b (Lv.a (Lv.b (Lv.b (A 27))))))))) (K27_prrlrl cal k m1) (K27_pxrrlr cal k) (doneK P results27)
noncomputable def E27_1 (cal : Cal) (k m1 : Nat) : KR := codeE P cal (codeF P cal m1) none 27 (cL (cL (cR (cL (cR (cR code27)))))) (Lv.a (Lv.a (Lv.b (Lv.a (Lv.b (Lv.b (A 27))))))) (K27_prrlrl cal k m1) (K27_pxrrlr cal k) (doneK P results27)
noncomputable def R27_1 (cal : Cal) (k m1 : Nat) : V6 := fun u1 u2 u3 u6 u7 u8 H n => codeF P cal m1 (Lv.a (Lv.b (Lv.a (Lv.b (Lv.b (A 27)))))) none 27 (cL (cR (cL (cR (cR code27))))) (K27_prr cal k) (K27_pxrrlr cal k) (doneK P results27) (Tr.set (Tr.set (Tr.set (Tr.set (Tr.set (Tr.set Tr.nil 8 (some u8)) 7 (some u7)) 6 (some u6)) 3 (some u3)) 2 (some u2)) 1 (some u1)) H n []
noncomputable def B27_2 (cal : Cal) (k m1 : Nat) (b1 : V6) (u1 u2 u3 u6 u7 u8 : Value) (H : Hp) (n : Nat) : Res :=
binK P .add 3 (.tmp 14) (.const (.int .i64 1)) u8 (.int .i64 1) fun v_g =>
b1 u1 u2 u3 u6 u7 v_g H n
noncomputable def C27_2 (cal : Cal) (k m1 : Nat) (b1 : V6) (u1 u2 u3 u6 u7 u8 : Value) (H : Hp) (n : Nat) : Res := B27_2 cal k m1 b1 u1 u2 u3 u6 u7 u8 H n
theorem h27_2 (cal : Cal) (k m1 : Nat) (u1 u2 u3 u6 u7 u8 : Value) (H : Hp) (n : Nat) : labK (E27_2 cal k m1) (Tr.set (Tr.set (Tr.set (Tr.set (Tr.set (Tr.set Tr.nil 8 (some u8)) 7 (some u7)) 6 (some u6)) 3 (some u3)) 2 (some u2)) 1 (some u1)) H n [] = C27_2 cal k m1 (R27_1 cal k m1) u1 u2 u3 u6 u7 u8 H n := by
  refine Eq.trans (b := B27_2 cal k m1 (R27_1 cal k m1) u1 u2 u3 u6 u7 u8 H n) (by kernel_rfl) ?_
  rw [C27_2]
noncomputable def B27_1 (cal : Cal) (k m1 : Nat) (j2 : V6) (b1 : V6) (u1 u2 u3 u6 u7 u8 : Value) (H : Hp) (n : Nat) : Res :=
bindO (lenV P 44 u1) fun v_d =>
binK P .lss 3 (.tmp 10) (.tmp 12) u8 v_d fun v_e =>
ifK v_e (
bindO (indexAddrV P 44 u1 u8) fun v_k =>
bindO (addrV v_k) fun a_m => bindO (loadV P H 3 a_m) fun v_l =>
binK P .geq 3 (.tmp 19) (.const (.int .i64 0)) v_l (.int .i64 0) fun v_n =>
ifK v_n (
bindO (addrV u3) fun a_o => bindO (loadV P H 26 a_o) fun v_p =>
bindO (indexAddrV P 44 u1 u8) fun v_s =>
bindO (addrV v_s) fun a_t => bindO (loadV P H 3 a_t) fun v_u =>
bindO (zeroT P 55) fun z_z => newK (cellsV z_z) 55 H n fun H_x n_y =>
effK P [(.a n (cellsV z_z) 55)] H_x n_y (fun H_10 n_11 k_12 =>
callFK P cal 70 [v_p, v_u, u8, u2] H_10 n_11 fun v_16 H_17 n_18 =>
k_12 v_16 H_17 n_18) fun v_13 H_14 n_15 =>
bindO (storeP P 55 (ptr n) v_13 H_14) fun H_1a =>
bindO (fieldAddrV P 55 u7 0) fun v_1b =>
bindO (addrV v_1b) fun a_1d => bindO (loadV P H_1a 3 a_1d) fun v_1c =>
bindO (fieldAddrV P 55 (ptr n) 0) fun v_1e =>
bindO (addrV v_1e) fun a_1g => bindO (loadV P H_1a 3 a_1g) fun v_1f =>
binK P .add 3 (.tmp 30) (.tmp 32) v_1c v_1f fun v_1h =>
bindO (fieldAddrV P 55 u7 1) fun v_1i =>
bindO (addrV v_1i) fun a_1k => bindO (loadV P H_1a 3 a_1k) fun v_1j =>
bindO (fieldAddrV P 55 (ptr n) 1) fun v_1l =>
bindO (addrV v_1l) fun a_1n => bindO (loadV P H_1a 3 a_1n) fun v_1m =>
binK P .add 3 (.tmp 35) (.tmp 37) v_1j v_1m fun v_1o =>
bindO (buildP P 55 [(0, v_1h), (1, v_1o)]) fun v_1p =>
bindO (storeP P 55 u7 v_1p H_1a) fun H_1r =>
j2 u1 u2 u3 u6 u7 u8 H_1r n_15) (
j2 u1 u2 u3 u6 u7 u8 H n)) (
bindO (addrV u7) fun a_1t => bindO (loadV P H 55 a_1t) fun v_1s =>
bindO (storeP P 55 u6 v_1s H) fun H_1v =>
bindO (resV P (Tr.set Tr.nil 6 (some u6)) H_1v results27) fun v_1w => some (oneV v_1w, H_1v, n))
noncomputable def C27_1 (cal : Cal) (k m1 : Nat) (b1 : V6) (u1 u2 u3 u6 u7 u8 : Value) (H : Hp) (n : Nat) : Res := B27_1 cal k m1 (C27_2 cal k m1 b1) b1 u1 u2 u3 u6 u7 u8 H n
noncomputable def S27_1 (cal : Cal) (k : Nat) : Nat → V6 := fun m => Nat.rec (motive := fun _ => V6) (C27_1 cal k 0 (fun _ _ _ _ _ _ _ _ => none)) (fun m ih => C27_1 cal k (m + 1) ih) m
theorem h27_1 (cal : Cal) (k m1 : Nat) (u1 u2 u3 u6 u7 u8 : Value) (H : Hp) (n : Nat) : labK (E27_1 cal k m1) (Tr.set (Tr.set (Tr.set (Tr.set (Tr.set (Tr.set Tr.nil 8 (some u8)) 7 (some u7)) 6 (some u6)) 3 (some u3)) 2 (some u2)) 1 (some u1)) H n [] = C27_1 cal k m1 (R27_1 cal k m1) u1 u2 u3 u6 u7 u8 H n := by
  refine Eq.trans (b := B27_1 cal k m1 (fun u1 u2 u3 u6 u7 u8 H n => labK (E27_2 cal k m1) (Tr.set (Tr.set (Tr.set (Tr.set (Tr.set (Tr.set Tr.nil 8 (some u8)) 7 (some u7)) 6 (some u6)) 3 (some u3)) 2 (some u2)) 1 (some u1)) H n []) (R27_1 cal k m1) u1 u2 u3 u6 u7 u8 H n) (by kernel_rfl) ?_
  rw [C27_1]
  have e2 : (fun u1 u2 u3 u6 u7 u8 H n => labK (E27_2 cal k m1) (Tr.set (Tr.set (Tr.set (Tr.set (Tr.set (Tr.set Tr.nil 8 (some u8)) 7 (some u7)) 6 (some u6)) 3 (some u3)) 2 (some u2)) 1 (some u1)) H n []) = (C27_2 cal k m1 (R27_1 cal k m1)) := by funext u1 u2 u3 u6 u7 u8 H n; exact h27_2 ..
  rw [e2]
theorem q27_1 (cal : Cal) (k : Nat) : ∀ (m : Nat) (u1 u2 u3 u6 u7 u8 : Value) (H : Hp) (n : Nat), labK (E27_1 cal k m) (Tr.set (Tr.set (Tr.set (Tr.set (Tr.set (Tr.set Tr.nil 8 (some u8)) 7 (some u7)) 6 (some u6)) 3 (some u3)) 2 (some u2)) 1 (some u1)) H n [] = S27_1 cal k m u1 u2 u3 u6 u7 u8 H n
  | 0, u1, u2, u3, u6, u7, u8, H, n => by
    rw [h27_1]
    have e : R27_1 cal k 0 = fun _ _ _ _ _ _ _ _ => none := by funext u1 u2 u3 u6 u7 u8 H n; kernel_rfl
    rw [e]; rfl
  | m + 1, u1, u2, u3, u6, u7, u8, H, n => by
    rw [h27_1]
    have e : R27_1 cal k (m + 1) = S27_1 cal k m := by
      funext u1 u2 u3 u6 u7 u8 H n
      have e : R27_1 cal k (m + 1) u1 u2 u3 u6 u7 u8 H n = labK (E27_1 cal k m) (Tr.set (Tr.set (Tr.set (Tr.set (Tr.set (Tr.set Tr.nil 8 (some u8)) 7 (some u7)) 6 (some u6)) 3 (some u3)) 2 (some u2)) 1 (some u1)) H n [] := by kernel_rfl
      rw [e]; exact q27_1 ..
    rw [e]; rfl
noncomputable def B27_0 (cal : Cal) (k : Nat) (j1 : V6) (v0 v1 v2 : Value) (H : Hp) (n : Nat) : Res :=
boxK 26 v0 H n fun v_1 H_2 n_3 =>
allocK P 55 H_2 n_3 fun v_4 H_5 n_6 =>
allocK P 55 H_5 n_6 fun v_7 H_8 n_9 =>
j1 v1 v2 v_1 v_4 v_7 (.int .i64 0) H_8 n_9
noncomputable def C27_0 (cal : Cal) (k : Nat) (v0 v1 v2 : Value) (H : Hp) (n : Nat) : Res := B27_0 cal k (S27_1 cal k k) v0 v1 v2 H n
theorem h27_0 (cal : Cal) (k : Nat) (v0 v1 v2 : Value) (H : Hp) (n : Nat) : bodyE P cal A (k + 1) 27 [v0, v1, v2] H n = C27_0 cal k v0 v1 v2 H n := by
  have h : bodyE P cal A (k + 1) 27 [v0, v1, v2] H n = B27_0 cal k (fun u1 u2 u3 u6 u7 u8 H n => labK (E27_1 cal k k) (Tr.set (Tr.set (Tr.set (Tr.set (Tr.set (Tr.set Tr.nil 8 (some u8)) 7 (some u7)) 6 (some u6)) 3 (some u3)) 2 (some u2)) 1 (some u1)) H n []) v0 v1 v2 H n := by
    rw [body_eq (fn := Go.Proofs.Try.f27) (c := code27) (rs := results27) (by kernel_rfl) (by kernel_rfl) (by kernel_rfl) (by kernel_rfl)]
    kernel_rfl
  rw [h, C27_0]
  have e1 : (fun u1 u2 u3 u6 u7 u8 H n => labK (E27_1 cal k k) (Tr.set (Tr.set (Tr.set (Tr.set (Tr.set (Tr.set Tr.nil 8 (some u8)) 7 (some u7)) 6 (some u6)) 3 (some u3)) 2 (some u2)) 1 (some u1)) H n []) = (S27_1 cal k k) := by funext u1 u2 u3 u6 u7 u8 H n; exact q27_1 ..
  rw [e1]
end Go.Proofs.Ytakjjillnllocaa.G
