/- The texts of functions, each with the proof that the evaluator says the same. -/
import Derived.Test.YtgojjellogiglaaH1
open Go Go.Ev
set_option maxRecDepth 1000000
set_option linter.unusedVariables false
noncomputable section
namespace Go.Proofs.Ytgojjellogiglaa.G
noncomputable def code13 : Code := codeOf 13
noncomputable def results13 : List ResultVar := resOf 13
noncomputable def K13_p (cal : Cal) (k : Nat) : KR := (cutK (A 13).c (codeE P cal (codeF P cal k) none 13 (cR code13) (Lv.b (A 13)) (doneK P results13) X0 (doneK P results13)))
noncomputable def K13_pr (cal : Cal) (k : Nat) : KR := (cutK (Lv.b (A 13)).c (codeE P cal (codeF P cal k) none 13 (cR (cR code13)) (Lv.b (Lv.b (A 13))) (doneK P results13) X0 (doneK P results13)))
noncomputable def K13_prl (cal : Cal) (k : Nat) : KR := (cutK (Lv.a (Lv.b (A 13))).c (codeE P cal (codeF P cal k) none 13 (cR (cL (cR code13))) (Lv.b (Lv.a (Lv.b (A 13)))) (K13_pr cal k) X0 (doneK P results13)))
noncomputable def K13_prlrl (cal : Cal) (k : Nat) : KR := (cutK (Lv.a (Lv.b (Lv.a (Lv.b (A 13))))).c (codeE P cal (codeF P cal k) none 13 (cR (cL (cR (cL (cR code13))))) (Lv.b (Lv.a (Lv.b (Lv.a (Lv.b (A 13)))))) (K13_pr cal k) X0 (doneK P results13)))
noncomputable def K13_prr (cal : Cal) (k : Nat) : KR := (cutK (Lv.b (Lv.b (A 13))).c (codeE P cal (codeF P cal k) none 13 (cR (cR (cR code13))) (Lv.b (Lv.b (Lv.b (A 13)))) (doneK P results13) X0 (doneK P results13)))
noncomputable def K13_prrr (cal : Cal) (k : Nat) : KR := (cutK (Lv.b (Lv.b (Lv.b (A 13)))).c (codeE P cal (codeF P cal k) none 13 (cR (cR (cR (cR code13)))) (Lv.b (Lv.b (Lv.b (Lv.b (A 13))))) (doneK P results13) X0 (doneK P results13)))
noncomputable def K13_prrrr (cal : Cal) (k : Nat) : KR := (cutK (Lv.b (Lv.b (Lv.b (Lv.b (A 13))))).c (codeE P cal (codeF P cal k) none 13 (cR (cR (cR (cR (cR code13))))) (Lv.b (Lv.b (Lv.b (Lv.b (Lv.b (A 13)))))) (doneK P results13) X0 (doneK P results13)))
noncomputable def K13_prrrrr (cal : Cal) (k : Nat) : KR := (cutK (Lv.b (Lv.b (Lv.b (Lv.b (Lv.b (A 13)))))).c (codeE P cal (codeF P cal k) none 13 (cR (cR (cR (cR (cR (cR code13)))))) (Lv.b (Lv.b (Lv.b (Lv.b (Lv.b (Lv.b (A 13))))))) (doneK P results13) X0 (doneK P results13)))
noncomputable def K13_prrrrrl (cal : Cal) (k : Nat) : KR := (cutK (Lv.a (Lv.b (Lv.b (Lv.b (Lv.b (Lv.b (A 13))))))).c (codeE P cal (codeF P cal k) none 13 (cR (cL (cR (cR (cR (cR (cR code13))))))) (Lv.b (Lv.a (Lv.b (Lv.b (Lv.b (Lv.b (Lv.b (A 13)))))))) (K13_prrrrr cal k) X0 (doneK P results13)))
noncomputable def K13_prrrrrlrl (cal : Cal) (k : Nat) : KR := (cutK (Lv.a (Lv.b (Lv.a (Lv.b (Lv.b (Lv.b (Lv.b (Lv.b (A 13))))))))).c (codeE P cal (codeF P cal k) none 13 (cR (cL (cR (cL (cR (cR (cR (cR (cR code13))))))))) (Lv.b (Lv.a (Lv.b (Lv.a (Lv.b (Lv.b (Lv.b (Lv.b (Lv.b (A 13)))))))))) (K13_prrrrr cal k) X0 (doneK P results13)))
noncomputable def K13_prrrrrr (cal : Cal) (k : Nat) : KR := (cutK (Lv.b (Lv.b (Lv.b (Lv.b (Lv.b (Lv.b (A 13))))))).c (codeE P cal (codeF P cal k) none 13 (cR (cR (cR (cR (cR (cR (cR code13))))))) (Lv.b (Lv.b (Lv.b (Lv.b (Lv.b (Lv.b (Lv.b (A 13)))))))) (doneK P results13) X0 (doneK P results13)))
noncomputable def K13_prrrrrrr (cal : Cal) (k : Nat) : KR := (cutK (Lv.b (Lv.b (Lv.b (Lv.b (Lv.b (Lv.b (Lv.b (A 13)))))))).c (codeE P cal (codeF P cal k) none 13 (cR (cR (cR (cR (cR (cR (cR (cR code13)))))))) (Lv.b (Lv.b (Lv.b (Lv.b (Lv.b (Lv.b (Lv.b (Lv.b (A 13))))))))) (doneK P results13) X0 (doneK P results13)))
noncomputable def K13_prrrrrrrr (cal : Cal) (k : Nat) : KR := (cutK (Lv.b (Lv.b (Lv.b (Lv.b (Lv.b (Lv.b (Lv.b (Lv.b (A 13))))))))).c (codeE P cal (codeF P cal k) none 13 (cR (cR (cR (cR (cR (cR (cR (cR (cR code13))))))))) (Lv.b (Lv.b (Lv.b (Lv.b (Lv.b (Lv.b (Lv.b (Lv.b (Lv.b (A 13)))))))))) (doneK P results13) X0 (doneK P results13)))
noncomputable def K13_prrrrrrrrr (cal : Cal) (k : Nat) : KR := (cutK (Lv.b (Lv.b (Lv.b (Lv.b (Lv.b (Lv.b (Lv.b (Lv.b (Lv.b (A 13)))))))))).c (codeE P cal (codeF P cal k) none 13 (cR (cR (cR (cR (cR (cR (cR (cR (cR (cR code13)))))))))) (Lv.b (Lv.b (Lv.b (Lv.b (Lv.b (Lv.b (Lv.b (Lv.b (Lv.b (Lv.b (A 13))))))))))) (doneK P results13) X0 (doneK P results13)))
noncomputable def K13_prrrrrrrrrr (cal : Cal) (k : Nat) : KR := (cutK (Lv.b (Lv.b (Lv.b (Lv.b (Lv.b (Lv.b (Lv.b (Lv.b (Lv.b (Lv.b (A 13))))))))))).c (codeE P cal (codeF P cal k) none 13 (cR (cR (cR (cR (cR (cR (cR (cR (cR (cR (cR code13))))))))))) (Lv.b (Lv.b (Lv.b (Lv.b (Lv.b (Lv.b (Lv.b (Lv.b (Lv.b (Lv.b (Lv.b (A 13)))))))))))) (doneK P results13) X0 (doneK P results13)))
noncomputable def K13_prrrrrrrrrrl (cal : Cal) (k : Nat) : KR := (cutK (Lv.a (Lv.b (Lv.b (Lv.b (Lv.b (Lv.b (Lv.b (Lv.b (Lv.b (Lv.b (Lv.b (A 13)))))))))))).c (codeE P cal (codeF P cal k) none 13 (cR (cL (cR (cR (cR (cR (cR (cR (cR (cR (cR (cR code13)))))))))))) (Lv.b (Lv.a (Lv.b (Lv.b (Lv.b (Lv.b (Lv.b (Lv.b (Lv.b (Lv.b (Lv.b (Lv.b (A 13))))))))))))) (K13_prrrrrrrrrr cal k) X0 (doneK P results13)))
noncomputable def K13_prrrrrrrrrrlrl (cal : Cal) (k : Nat) : KR := (cutK (Lv.a (Lv.b (Lv.a (Lv.b (Lv.b (Lv.b (Lv.b (Lv.b (Lv.b (Lv.b (Lv.b (Lv.b (Lv.b (A 13)))))))))))))).c (codeE P cal (codeF P cal k) none 13 (cR (cL (cR (cL (cR (cR (cR (cR (cR (cR (cR (cR (cR (cR code13)))))))))))))) (Lv.b (Lv.a (Lv.b (Lv.a (Lv.b (Lv.b (Lv.b (Lv.b (Lv.b (Lv.b (Lv.b (Lv.b (Lv.b (Lv.b (A 13))))))))))))))) (K13_prrrrrrrrrr cal k) X0 (doneK P results13)))
noncomputable def K13_prrrrrrrrrrr (cal : Cal) (k : Nat) : KR := (cutK (Lv.b (Lv.b (Lv.b (Lv.b (Lv.b (Lv.b (Lv.b (Lv.b (Lv.b (Lv.b (Lv.b (A 13)))))))))))).c (codeE P cal (codeF P cal k) none 13 (cR (cR (cR (cR (cR (cR (cR (cR (cR (cR (cR (cR code13)))))))))))) (Lv.b (Lv.b (Lv.b (Lv.b (Lv.b (Lv.b (Lv.b (Lv.b (Lv.b (Lv.b (Lv.b (Lv.b (A 13))))))))))))) (doneK P results13) X0 (doneK P results13)))
noncomputable def K13_prrrrrrrrrrrl (cal : Cal) (k : Nat) : KR := (cutK (Lv.a (Lv.b (Lv.b (Lv.b (Lv.b (Lv.b (Lv.b (Lv.b (Lv.b (Lv.b (Lv.b (Lv.b (A 13))))))))))))).c (codeE P cal (codeF P cal k) none 13 (cR (cL (cR (cR (cR (cR (cR (cR (cR (cR (cR (cR (cR code13))))))))))))) (Lv.b (Lv.a (Lv.b (Lv.b (Lv.b (Lv.b (Lv.b (Lv.b (Lv.b (Lv.b (Lv.b (Lv.b (Lv.b (A 13)))))))))))))) (K13_prrrrrrrrrrr cal k) X0 (doneK P results13)))
noncomputable def K13_pxrrrrrrrrrrrlr (cal : Cal) (k : Nat) : XR := (upX 0 (K13_prrrrrrrrrrr cal k) X0)
noncomputable def K13_prrrrrrrrrrrlrl (cal : Cal) (k : Nat) (m1 : Nat) : KR := (fun T H n D => codeF P cal m1 (Lv.a (Lv.b (Lv.a (Lv.b (Lv.b (Lv.b (Lv.b (Lv.b (Lv.b (Lv.b (Lv.b (Lv.b (Lv.b (Lv.b (A 13))))))))))))))) none 13 (cL (cR (cL (cR (cR (cR (cR (cR (cR (cR (cR (cR (cR (cR code13)))))))))))))) (K13_prrrrrrrrrrr cal k) (K13_pxrrrrrrrrrrrlr cal k) (doneK P results13) (cutT (Lv.a (Lv.b (Lv.a (Lv.b (Lv.b (Lv.b (Lv.b (Lv.b (Lv.b (Lv.b (Lv.b (Lv.b (Lv.b (Lv.b (A 13))))))))))))))).c T) H n D)
noncomputable def K13_prrrrrrrrrrrlrll (cal : Cal) (k : Nat) (m1 : Nat) : KR := (cutK (Lv.a (Lv.a (Lv.b (Lv.a (Lv.b (Lv.b (Lv.b (Lv.b (Lv.b (Lv.b (Lv.b (Lv.b (Lv.b (Lv.b (Lv.b (A 13)))))))))))))))).c (codeE P cal (codeF P cal m1) none 13 (cR (cL (cL (cR (cL (cR (cR (cR (cR (cR (cR (cR (cR (cR (cR (cR code13)))))))))))))))) (Lv.b (Lv.a (Lv.a (Lv.b (Lv.a (Lv.b (Lv.b (Lv.b (Lv.b (Lv.b (Lv.b (Lv.b (Lv.b (Lv.b (Lv.b (Lv.b (A 13))))))))))))))))) (K13_prrrrrrrrrrrlrl cal k m1) (K13_pxrrrrrrrrrrrlr cal k) (doneK P results13)))
noncomputable def K13_prrrrrrrrrrrlrlll (cal : Cal) (k : Nat) (m1 : Nat) : KR := (cutK (Lv.a (Lv.a (Lv.a (Lv.b (Lv.a (Lv.b (Lv.b (Lv.b (Lv.b (Lv.b (Lv.b (Lv.b (Lv.b (Lv.b (Lv.b (Lv.b (A 13))))))))))))))))).c (codeE P cal (codeF P cal m1) none 13 (cR (cL (cL (cL (cR (cL (cR (cR (cR (cR (cR (cR (cR (cR (cR (cR (cR code13))))))))))))))))) (Lv.b (Lv.a (Lv.a (Lv.a (Lv.b (Lv.a (Lv.b (Lv.b (Lv.b (Lv.b (Lv.b (Lv.b (Lv.b (Lv.b (Lv.b (Lv.b (Lv.b (A 13)))))))))))))))))) (K13_prrrrrrrrrrrlrll cal k m1) (K13_pxrrrrrrrrrrrlr cal k) (doneK P results13)))
noncomputable def K13_prrrrrrrrrrrlrllr (cal : Cal) (k : Nat) (m1 : Nat) : KR := (cutK (Lv.b (Lv.a (Lv.a (Lv.b (Lv.a (Lv.b (Lv.b (Lv.b (Lv.b (Lv.b (Lv.b (Lv.b (Lv.b (Lv.b (Lv.b (Lv.b (A 13))))))))))))))))).c (codeE P cal (codeF P cal m1) none 13 (cR (cR (cL (cL (cR (cL (cR (cR (cR (cR (cR (cR (cR (cR (cR (cR (cR code13))))))))))))))))) (Lv.b (Lv.b (Lv.a (Lv.a (Lv.b (Lv.a (Lv.b (Lv.b (Lv.b (Lv.b (Lv.b (Lv.b (Lv.b (Lv.b (Lv.b (Lv.b (Lv.b (A 13)))))))))))))))))) (K13_prrrrrrrrrrrlrl cal k m1) (K13_pxrrrrrrrrrrrlr cal k) (doneK P results13)))
noncomputable def K13_pxrrrrrrrrrrrlrllrl (cal : Cal) (k : Nat) (m1 : Nat) : XR := (upX 1 (K13_prrrrrrrrrrrlrllr cal k m1) (K13_pxrrrrrrrrrrrlr cal k))
noncomputable def K13_prrrrrrrrrrrlrllrll (cal : Cal) (k : Nat) (m1 : Nat) : KR := (cutK (Lv.a (Lv.a (Lv.b (Lv.a (Lv.a (Lv.b (Lv.a (Lv.b (Lv.b (Lv.b (Lv.b (Lv.b (Lv.b (Lv.b (Lv.b (Lv.b (Lv.b (Lv.b (A 13))))))))))))))))))).c (codeE P cal (codeF P cal m1) none 13 (cR (cL (cL (cR (cL (cL (cR (cL (cR (cR (cR (cR (cR (cR (cR (cR (cR (cR (cR code13))))))))))))))))))) (Lv.b (Lv.a (Lv.a (Lv.b (Lv.a (Lv.a (Lv.b (Lv.a (Lv.b (Lv.b (Lv.b (Lv.b (Lv.b (Lv.b (Lv.b (Lv.b (Lv.b (Lv.b (Lv.b (A 13)))))))))))))))))))) (K13_prrrrrrrrrrrlrllr cal k m1) (K13_pxrrrrrrrrrrrlrllrl cal k m1) (doneK P results13)))
noncomputable def K13_prrrrrrrrrrrlrllrllrl (cal : Cal) (k : Nat) (m1 : Nat) : KR := (cutK (Lv.a (Lv.b (Lv.a (Lv.a (Lv.b (Lv.a (Lv.a (Lv.b (Lv.a (Lv.b (Lv.b (Lv.b (Lv.b (Lv.b (Lv.b (Lv.b (Lv.b (Lv.b (Lv.b (Lv.b (A 13))))))))))))))))))))).c (codeE P cal (codeF P cal m1) none 13 (cR (cL (cR (cL (cL (cR (cL (cL (cR (cL (cR (cR (cR (cR (cR (cR (cR (cR (cR (cR (cR code13))))))))))))))))))))) (Lv.b (Lv.a (Lv.b (Lv.a (Lv.a (Lv.b (Lv.a (Lv.a (Lv.b (Lv.a (Lv.b (Lv.b (Lv.b (Lv.b (Lv.b (Lv.b (Lv.b (Lv.b (Lv.b (Lv.b (Lv.b (A 13)))))))))))))))))))))) (K13_prrrrrrrrrrrlrllr cal k m1) (K13_pxrrrrrrrrrrrlrllrl cal k m1) (doneK P results13)))
noncomputable def K13_prrrrrrrrrrrr (cal : Cal) (k : Nat) : KR := (cutK (Lv.b (Lv.b (Lv.b (Lv.b (Lv.b (Lv.b (Lv.b (Lv.b (Lv.b (Lv.b (Lv.b (Lv.b (A 13))))))))))))).c (codeE P cal (codeF P cal k) none 13 (cR (cR (cR (cR (cR (cR (cR (cR (cR (cR (cR (cR (cR code13))))))))))))) (Lv.b (Lv.b (Lv.b (Lv.b (Lv.b (Lv.b (Lv.b (Lv.b (Lv.b (Lv.b (Lv.b (Lv.b (Lv.b (A 13)))))))))))))) (doneK P results13) X0 (doneK P results13)))
noncomputable def K13_prrrrrrrrrrrrl (cal : Cal) (k : Nat) : KR := (cutK (Lv.a (Lv.b (Lv.b (Lv.b (Lv.b (Lv.b (Lv.b (Lv.b (Lv.b (Lv.b (Lv.b (Lv.b (Lv.b (A 13)))))))))))))).c (codeE P cal (codeF P cal k) none 13 (cR (cL (cR (cR (cR (cR (cR (cR (cR (cR (cR (cR (cR (cR code13)))))))))))))) (Lv.b (Lv.a (Lv.b (Lv.b (Lv.b (Lv.b (Lv.b (Lv.b (Lv.b (Lv.b (Lv.b (Lv.b (Lv.b (Lv.b (A 13))))))))))))))) (K13_prrrrrrrrrrrr cal k) X0 (doneK P results13)))
noncomputable def K13_pxrrrrrrrrrrrrlr (cal : Cal) (k : Nat) : XR := (upX 2 (K13_prrrrrrrrrrrr cal k) X0)
noncomputable def K13_prrrrrrrrrrrrlrl (cal : Cal) (k : Nat) (m1 : Nat) : KR := (fun T H n D => codeF P cal m1 (Lv.a (Lv.b (Lv.a (Lv.b (Lv.b (Lv.b (Lv.b (Lv.b (Lv.b (Lv.b (Lv.b (Lv.b (Lv.b (Lv.b (Lv.b (A 13)))))))))))))))) none 13 (cL (cR (cL (cR (cR (cR (cR (cR (cR (cR (cR (cR (cR (cR (cR code13))))))))))))))) (K13_prrrrrrrrrrrr cal k) (K13_pxrrrrrrrrrrrrlr cal k) (doneK P results13) (cutT (Lv.a (Lv.b (Lv.a (Lv.b (Lv.b (Lv.b (Lv.b (Lv.b (Lv.b (Lv.b (Lv.b (Lv.b (Lv.b (Lv.b (Lv.b (A 13)))))))))))))))).c T) H n D)
noncomputable def K13_prrrrrrrrrrrrlrll (cal : Cal) (k : Nat) (m1 : Nat) : KR := (cutK (Lv.a (Lv.a (Lv.b (Lv.a (Lv.b (Lv.b (Lv.b (Lv.b (Lv.b (Lv.b (Lv.b (Lv.b (Lv.b (Lv.b (Lv.b (Lv.b (A 13))))))))))))))))).c (codeE P cal (codeF P cal m1) none 13 (cR (cL (cL (cR (cL (cR (cR (cR (cR (cR (cR (cR (cR (cR (cR (cR (cR code13))))))))))))))))) (Lv.b (Lv.a (Lv.a (Lv.b (Lv.a (Lv.b (Lv.b (Lv.b (Lv.b (Lv.b (Lv.b (Lv.b (Lv.b (Lv.b (Lv.b (Lv.b (Lv.b (A 13)))))))))))))))))) (K13_prrrrrrrrrrrrlrl cal k m1) (K13_pxrrrrrrrrrrrrlr cal k) (doneK P results13)))
noncomputable def K13_prrrrrrrrrrrrlrlll (cal : Cal) (k : Nat) (m1 : Nat) : KR := (cutK (Lv.a (Lv.a (Lv.a (Lv.b (Lv.a (Lv.b (Lv.b (Lv.b (Lv.b (Lv.b (Lv.b (Lv.b (Lv.b (Lv.b (Lv.b (Lv.b (Lv.b (A 13)))))))))))))))))).c (codeE P cal (codeF P cal m1) none 13 (cR (cL (cL (cL (cR (cL (cR (cR (cR (cR (cR (cR (cR (cR (cR (cR (cR (cR code13)))))))))))))))))) (Lv.b (Lv.a (Lv.a (Lv.a (Lv.b (Lv.a (Lv.b (Lv.b (Lv.b (Lv.b (Lv.b (Lv.b (Lv.b (Lv.b (Lv.b (Lv.b (Lv.b (Lv.b (A 13))))))))))))))))))) (K13_prrrrrrrrrrrrlrll cal k m1) (K13_pxrrrrrrrrrrrrlr cal k) (doneK P results13)))
noncomputable def K13_prrrrrrrrrrrrlrllr (cal : Cal) (k : Nat) (m1 : Nat) : KR := (cutK (Lv.b (Lv.a (Lv.a (Lv.b (Lv.a (Lv.b (Lv.b (Lv.b (Lv.b (Lv.b (Lv.b (Lv.b (Lv.b (Lv.b (Lv.b (Lv.b (Lv.b (A 13)))))))))))))))))).c (codeE P cal (codeF P cal m1) none 13 (cR (cR (cL (cL (cR (cL (cR (cR (cR (cR (cR (cR (cR (cR (cR (cR (cR (cR code13)))))))))))))))))) (Lv.b (Lv.b (Lv.a (Lv.a (Lv.b (Lv.a (Lv.b (Lv.b (Lv.b (Lv.b (Lv.b (Lv.b (Lv.b (Lv.b (Lv.b (Lv.b (Lv.b (Lv.b (A 13))))))))))))))))))) (K13_prrrrrrrrrrrrlrl cal k m1) (K13_pxrrrrrrrrrrrrlr cal k) (doneK P results13)))
noncomputable def K13_pxrrrrrrrrrrrrlrllrl (cal : Cal) (k : Nat) (m1 : Nat) : XR := (upX 3 (K13_prrrrrrrrrrrrlrllr cal k m1) (K13_pxrrrrrrrrrrrrlr cal k))
noncomputable def K13_prrrrrrrrrrrrlrllrll (cal : Cal) (k : Nat) (m1 : Nat) : KR := (cutK (Lv.a (Lv.a (Lv.b (Lv.a (Lv.a (Lv.b (Lv.a (Lv.b (Lv.b (Lv.b (Lv.b (Lv.b (Lv.b (Lv.b (Lv.b (Lv.b (Lv.b (Lv.b (Lv.b (A 13)))))))))))))))))))).c (codeE P cal (codeF P cal m1) none 13 (cR (cL (cL (cR (cL (cL (cR (cL (cR (cR (cR (cR (cR (cR (cR (cR (cR (cR (cR (cR code13)))))))))))))))))))) (Lv.b (Lv.a (Lv.a (Lv.b (Lv.a (Lv.a (Lv.b (Lv.a (Lv.b (Lv.b (Lv.b (Lv.b (Lv.b (Lv.b (Lv.b (Lv.b (Lv.b (Lv.b (Lv.b (Lv.b (A 13))))))))))))))))))))) (K13_prrrrrrrrrrrrlrllr cal k m1) (K13_pxrrrrrrrrrrrrlrllrl cal k m1) (doneK P results13)))
noncomputable def K13_prrrrrrrrrrrrlrllrllr (cal : Cal) (k : Nat) (m1 : Nat) : KR := (cutK (Lv.b (Lv.a (Lv.a (Lv.b (Lv.a (Lv.a (Lv.b (Lv.a (Lv.b (Lv.b (Lv.b (Lv.b (Lv.b (Lv.b (Lv.b (Lv.b (Lv.b (Lv.b (Lv.b (Lv.b (A 13))))))))))))))))))))).c (codeE P cal (codeF P cal m1) none 13 (cR (cR (cL (cL (cR (cL (cL (cR (cL (cR (cR (cR (cR (cR (cR (cR (cR (cR (cR (cR (cR code13))))))))))))))))))))) (Lv.b (Lv.b (Lv.a (Lv.a (Lv.b (Lv.a (Lv.a (Lv.b (Lv.a (Lv.b (Lv.b (Lv.b (Lv.b (Lv.b (Lv.b (Lv.b (Lv.b (Lv.b (Lv.b (Lv.b (Lv.b (A 13)))))))))))))))))))))) (K13_prrrrrrrrrrrrlrllr cal k m1) (K13_pxrrrrrrrrrrrrlrllrl cal k m1) (doneK P results13)))
noncomputable def K13_prrrrrrrrrrrrlrllrllrl (cal : Cal) (k : Nat) (m1 : Nat) : KR := (cutK (Lv.a (Lv.b (Lv.a (Lv.a (Lv.b (Lv.a (Lv.a (Lv.b (Lv.a (Lv.b (Lv.b (Lv.b (Lv.b (Lv.b (Lv.b (Lv.b (Lv.b (Lv.b (Lv.b (Lv.b (Lv.b (A 13)))))))))))))))))))))).c (codeE P cal (codeF P cal m1) none 13 (cR (cL (cR (cL (cL (cR (cL (cL (cR (cL (cR (cR (cR (cR (cR (cR (cR (cR (cR (cR (cR (cR code13)))))))))))))))))))))) (Lv.b (Lv.a (Lv.b (Lv.a (Lv.a (Lv.b (Lv.a (Lv.a (Lv.b (Lv.a (Lv.b (Lv.b (Lv.b (Lv.b (Lv.b (Lv.b (Lv.b (Lv.b (Lv.b (Lv.b (Lv.b (Lv.b (A 13))))))))))))))))))))))) (K13_prrrrrrrrrrrrlrllrllr cal k m1) (K13_pxrrrrrrrrrrrrlrllrl cal k m1) (doneK P results13)))
noncomputable def K13_pxrrrrrrrrrrrrlrllrllrlr (cal : Cal) (k : Nat) (m1 : Nat) : XR := (upX 4 (K13_prrrrrrrrrrrrlrllrllr cal k m1) (K13_pxrrrrrrrrrrrrlrllrl cal k m1))
noncomputable def K13_prrrrrrrrrrrrlrllrllrlrl (cal : Cal) (k : Nat) (m1 : Nat) (m2 : Nat) : KR := (fun T H n D => codeF P cal m2 (Lv.a (Lv.b (Lv.a (Lv.b (Lv.a (Lv.a (Lv.b (Lv.a (Lv.a (Lv.b (Lv.a (Lv.b (Lv.b (Lv.b (Lv.b (Lv.b (Lv.b (Lv.b (Lv.b (Lv.b (Lv.b (Lv.b (Lv.b (A 13)))))))))))))))))))))))) none 13 (cL (cR (cL (cR (cL (cL (cR (cL (cL (cR (cL (cR (cR (cR (cR (cR (cR (cR (cR (cR (cR (cR (cR code13))))))))))))))))))))))) (K13_prrrrrrrrrrrrlrllrllr cal k m1) (K13_pxrrrrrrrrrrrrlrllrllrlr cal k m1) (doneK P results13) (cutT (Lv.a (Lv.b (Lv.a (Lv.b (Lv.a (Lv.a (Lv.b (Lv.a (Lv.a (Lv.b (Lv.a (Lv.b (Lv.b (Lv.b (Lv.b (Lv.b (Lv.b (Lv.b (Lv.b (Lv.b (Lv.b (Lv.b (Lv.b (A 13)))))))))))))))))))))))).c T) H n D)
noncomputable def K13_prrrrrrrrrrrrlrllrllrlrll (cal : Cal) (k : Nat) (m1 : Nat) (m2 : Nat) : KR := (cutK (Lv.a (Lv.a (Lv.b (Lv.a (Lv.b (Lv.a (Lv.a (Lv.b (Lv.a (Lv.a (Lv.b (Lv.a (Lv.b (Lv.b (Lv.b (Lv.b (Lv.b (Lv.b (Lv.b (Lv.b (Lv.b (Lv.b (Lv.b (Lv.b (A 13))))))))))))))))))))))))).c (codeE P cal (codeF P cal m2) none 13 (cR (cL (cL (cR (cL (cR (cL (cL (cR (cL (cL (cR (cL (cR (cR (cR (cR (cR (cR (cR (cR (cR (cR (cR (cR code13))))))))))))))))))))))))) (Lv.b (Lv.a (Lv.a (Lv.b (Lv.a (Lv.b (Lv.a (Lv.a (Lv.b (Lv.a (Lv.a (Lv.b (Lv.a (Lv.b (Lv.b (Lv.b (Lv.b (Lv.b (Lv.b (Lv.b (Lv.b (Lv.b (Lv.b (Lv.b (Lv.b (A 13)))))))))))))))))))))))))) (K13_prrrrrrrrrrrrlrllrllrlrl cal k m1 m2) (K13_pxrrrrrrrrrrrrlrllrllrlr cal k m1) (doneK P results13)))
noncomputable def K13_prrrrrrrrrrrrlrllrllrlrlll (cal : Cal) (k : Nat) (m1 : Nat) (m2 : Nat) : KR := (cutK (Lv.a (Lv.a (Lv.a (Lv.b (Lv.a (Lv.b (Lv.a (Lv.a (Lv.b (Lv.a (Lv.a (Lv.b (Lv.a (Lv.b (Lv.b (Lv.b (Lv.b (Lv.b (Lv.b (Lv.b (Lv.b (Lv.b (Lv.b (Lv.b (Lv.b (A 13)))))))))))))))))))))))))).c (codeE P cal (codeF P cal m2) none 13 (cR (cL (cL (cL (cR (cL (cR (cL (cL (cR (cL (cL (cR (cL (cR (cR (cR (cR (cR (cR (cR (cR (cR (cR (cR (cR code13)))))))))))))))))))))))))) (Lv.b (Lv.a (Lv.a (Lv.a (Lv.b (Lv.a (Lv.b (Lv.a (Lv.a (Lv.b (Lv.a (Lv.a (Lv.b (Lv.a (Lv.b (Lv.b (Lv.b (Lv.b (Lv.b (Lv.b (Lv.b (Lv.b (Lv.b (Lv.b (Lv.b (Lv.b (A 13))))))))))))))))))))))))))) (K13_prrrrrrrrrrrrlrllrllrlrll cal k m1 m2) (K13_pxrrrrrrrrrrrrlrllrllrlr cal k m1) (doneK P results13)))
noncomputable def K13_prrrrrrrrrrrrlrllrllrlrllr (cal : Cal) (k : Nat) (m1 : Nat) (m2 : Nat) : KR := (cutK (Lv.b (Lv.a (Lv.a (Lv.b (Lv.a (Lv.b (Lv.a (Lv.a (Lv.b (Lv.a (Lv.a (Lv.b (Lv.a (Lv.b (Lv.b (Lv.b (Lv.b (Lv.b (Lv.b (Lv.b (Lv.b (Lv.b (Lv.b (Lv.b (Lv.b (A 13)))))))))))))))))))))))))).c (codeE P cal (codeF P cal m2) none 13 (cR (cR (cL (cL (cR (cL (cR (cL (cL (cR (cL (cL (cR (cL (cR (cR (cR (cR (cR (cR (cR (cR (cR (cR (cR (cR code13)))))))))))))))))))))))))) (Lv.b (Lv.b (Lv.a (Lv.a (Lv.b (Lv.a (Lv.b (Lv.a (Lv.a (Lv.b (Lv.a (Lv.a (Lv.b (Lv.a (Lv.b (Lv.b (Lv.b (Lv.b (Lv.b (Lv.b (Lv.b (Lv.b (Lv.b (Lv.b (Lv.b (Lv.b (A 13))))))))))))))))))))))))))) (K13_prrrrrrrrrrrrlrllrllrlrl cal k m1 m2) (K13_pxrrrrrrrrrrrrlrllrllrlr cal k m1) (doneK P results13)))
noncomputable def K13_pxrrrrrrrrrrrrlrllrllrlrllrl (cal : Cal) (k : Nat) (m1 : Nat) (m2 : Nat) : XR := (upX 5 (K13_prrrrrrrrrrrrlrllrllrlrllr cal k m1 m2) (K13_pxrrrrrrrrrrrrlrllrllrlr cal k m1))
noncomputable def K13_prrrrrrrrrrrrlrllrllrr (cal : Cal) (k : Nat) (m1 : Nat) : KR := (cutK (Lv.b (Lv.b (Lv.a (Lv.a (Lv.b (Lv.a (Lv.a (Lv.b (Lv.a (Lv.b (Lv.b (Lv.b (Lv.b (Lv.b (Lv.b (Lv.b (Lv.b (Lv.b (Lv.b (Lv.b (Lv.b (A 13)))))))))))))))))))))).c (codeE P cal (codeF P cal m1) none 13 (cR (cR (cR (cL (cL (cR (cL (cL (cR (cL (cR (cR (cR (cR (cR (cR (cR (cR (cR (cR (cR (cR code13)))))))))))))))))))))) (Lv.b (Lv.b (Lv.b (Lv.a (Lv.a (Lv.b (Lv.a (Lv.a (Lv.b (Lv.a (Lv.b (Lv.b (Lv.b (Lv.b (Lv.b (Lv.b (Lv.b (Lv.b (Lv.b (Lv.b (Lv.b (Lv.b (A 13))))))))))))))))))))))) (K13_prrrrrrrrrrrrlrllr cal k m1) (K13_pxrrrrrrrrrrrrlrllrl cal k m1) (doneK P results13)))
noncomputable def K13_prrrrrrrrrrrrlrllrllrrrl (cal : Cal) (k : Nat) (m1 : Nat) : KR := (cutK (Lv.a (Lv.b (Lv.b (Lv.b (Lv.a (Lv.a (Lv.b (Lv.a (Lv.a (Lv.b (Lv.a (Lv.b (Lv.b (Lv.b (Lv.b (Lv.b (Lv.b (Lv.b (Lv.b (Lv.b (Lv.b (Lv.b (Lv.b (A 13)))))))))))))))))))))))).c (codeE P cal (codeF P cal m1) none 13 (cR (cL (cR (cR (cR (cL (cL (cR (cL (cL (cR (cL (cR (cR (cR (cR (cR (cR (cR (cR (cR (cR (cR (cR code13)))))))))))))))))))))))) (Lv.b (Lv.a (Lv.b (Lv.b (Lv.b (Lv.a (Lv.a (Lv.b (Lv.a (Lv.a (Lv.b (Lv.a (Lv.b (Lv.b (Lv.b (Lv.b (Lv.b (Lv.b (Lv.b (Lv.b (Lv.b (Lv.b (Lv.b (Lv.b (A 13))))))))))))))))))))))))) (K13_prrrrrrrrrrrrlrllr cal k m1) (K13_pxrrrrrrrrrrrrlrllrl cal k m1) (doneK P results13)))
noncomputable def K13_prrrrrrrrrrrrr (cal : Cal) (k : Nat) : KR := (cutK (Lv.b (Lv.b (Lv.b (Lv.b (Lv.b (Lv.b (Lv.b (Lv.b (Lv.b (Lv.b (Lv.b (Lv.b (Lv.b (A 13)))))))))))))).c (codeE P cal (codeF P cal k) none 13 (cR (cR (cR (cR (cR (cR (cR (cR (cR (cR (cR (cR (cR (cR code13)))))))))))))) (Lv.b (Lv.b (Lv.b (Lv.b (Lv.b (Lv.b (Lv.b (Lv.b (Lv.b (Lv.b (Lv.b (Lv.b (Lv.b (Lv.b (A 13))))))))))))))) (doneK P results13) X0 (doneK P results13)))
noncomputable def E13_3 (cal : Cal) (k m1 m2 : Nat) : KR := codeE P cal (codeF P cal m2) none 13 (cL (cL (cR (cL (cR (cL (cL (cR (cL (cL (cR (cL (cR (cR (cR (cR (cR (cR (cR (cR (cR (cR (cR (cR code13)))))))))))))))))))))))) (Lv.a (Lv.a (Lv.b (Lv.a (Lv.b (Lv.a (Lv.a (Lv.b (Lv.a (Lv.a (Lv.b (Lv.a (Lv.b (Lv.b (Lv.b (Lv.b (Lv.b (Lv.b (Lv.b (Lv.b (Lv.b (Lv.b (Lv.b (Lv.b (A 13))))))))))))))))))))))))) (K13_prrrrrrrrrrrrlrllrllrlrl cal k m1 m2) (K13_pxrrrrrrrrrrrrlrllrllrlr cal k m1) (doneK P results13)
noncomputable def R13_3 (cal : Cal) (k m1 m2 : Nat) : V5 := fun u16 u19 u23 u24 u25 H n => codeF P cal m2 (Lv.a (Lv.b (Lv.a (Lv.b (Lv.a (Lv.a (Lv.b (Lv.a (Lv.a (Lv.b (Lv.a (Lv.b (Lv.b (Lv.b (Lv.b (Lv.b (Lv.b (Lv.b (Lv.b (Lv.b (Lv.b (Lv.b (Lv.b (A 13)))))))))))))))))))))))) none 13 (cL (cR (cL (cR (cL (cL (cR (cL (cL (cR (cL (cR (cR (cR (cR (cR (cR (cR (cR (cR (cR (cR (cR code13))))))))))))))))))))))) (K13_prrrrrrrrrrrrlrllrllr cal k m1) (K13_pxrrrrrrrrrrrrlrllrllrlr cal k m1) (doneK P results13) (Tr.set (Tr.set (Tr.set (Tr.set (Tr.set Tr.nil 25 (some u25)) 24 (some u24)) 23 (some u23)) 19 (some u19)) 16 (some u16)) H n []
noncomputable def E13_2 (cal : Cal) (k m1 : Nat) : KR := codeE P cal (codeF P cal m1) none 13 (cL (cL (cR (cL (cR (cR (cR (cR (cR (cR (cR (cR (cR (cR (cR (cR code13)))))))))))))))) (Lv.a (Lv.a (Lv.b (Lv.a (Lv.b (Lv.b (Lv.b (Lv.b (Lv.b (Lv.b (Lv.b (Lv.b (Lv.b (Lv.b (Lv.b (Lv.b (A 13))))))))))))))))) (K13_prrrrrrrrrrrrlrl cal k m1) (K13_pxrrrrrrrrrrrrlr cal k) (doneK P results13)
noncomputable def R13_2 (cal : Cal) (k m1 : Nat) : V3 := fun u16 u19 u23 H n => codeF P cal m1 (Lv.a (Lv.b (Lv.a (Lv.b (Lv.b (Lv.b (Lv.b (Lv.b (Lv.b (Lv.b (Lv.b (Lv.b (Lv.b (Lv.b (Lv.b (A 13)))))))))))))))) none 13 (cL (cR (cL (cR (cR (cR (cR (cR (cR (cR (cR (cR (cR (cR (cR code13))))))))))))))) (K13_prrrrrrrrrrrr cal k) (K13_pxrrrrrrrrrrrrlr cal k) (doneK P results13) (Tr.set (Tr.set (Tr.set Tr.nil 23 (some u23)) 19 (some u19)) 16 (some u16)) H n []
noncomputable def E13_1 (cal : Cal) (k m1 : Nat) : KR := codeE P cal (codeF P cal m1) none 13 (cL (cL (cR (cL (cR (cR (cR (cR (cR (cR (cR (cR (cR (cR (cR code13))))))))))))))) (Lv.a (Lv.a (Lv.b (Lv.a (Lv.b (Lv.b (Lv.b (Lv.b (Lv.b (Lv.b (Lv.b (Lv.b (Lv.b (Lv.b (Lv.b (A 13)))))))))))))))) (K13_prrrrrrrrrrrlrl cal k m1) (K13_pxrrrrrrrrrrrlr cal k) (doneK P results13)
noncomputable def R13_1 (cal : Cal) (k m1 : Nat) : V6 := fun u1 u12 u14 u16 u19 u22 H n => codeF P cal m1 (Lv.a (Lv.b (Lv.a (Lv.b (Lv.b (Lv.b (Lv.b (Lv.b (Lv.b (Lv.b (Lv.b (Lv.b (Lv.b (Lv.b (A 13))))))))))))))) none 13 (cL (cR (cL (cR (cR (cR (cR (cR (cR (cR (cR (cR (cR (cR code13)))))))))))))) (K13_prrrrrrrrrrr cal k) (K13_pxrrrrrrrrrrrlr cal k) (doneK P results13) (Tr.set (Tr.set (Tr.set (Tr.set (Tr.set (Tr.set Tr.nil 22 (some u22)) 19 (some u19)) 16 (some u16)) 14 (some u14)) 12 (some u12)) 1 (some u1)) H n []
noncomputable def B13_3 (cal : Cal) (k m1 m2 : Nat) (b2 : V3) (b3 : V5) (u16 u19 u23 u24 u25 : Value) (H : Hp) (n : Nat) : Res :=
bindO (lenV P 44 u16) fun v_a9 =>
binK P .lss 3 (.tmp 165) (.tmp 167) u25 v_a9 fun v_aa =>
ifK v_aa (
guardD u24 false (fun k_ad =>
k_ad u16 .p H n) .p H n fun v_ae x_af H_ag n_ah =>
guardD u24 false (fun k_aj =>
k_aj u25 .p H_ag n_ah) .p H_ag n_ah fun v_ak x_al H_am n_an =>
guardD u24 false (fun k_ap =>
bindO (indexAddrV P 44 v_ae v_ak) fun v_au =>
k_ap v_au .p H_am n_an) .p H_am n_an fun v_aq x_ar H_as n_at =>
guardD u24 false (fun k_av =>
bindO (addrV v_aq) fun a_b0 => bindO (loadV P H_as 3 a_b0) fun v_b1 =>
k_av v_b1 (.l 3 a_b0) H_as n_at) .p H_as n_at fun v_aw x_ax H_ay n_az =>
guardD u24 false (fun k_b2 =>
k_b2 u19 .p H_ay n_az) .p H_ay n_az fun v_b3 x_b4 H_b5 n_b6 =>
guardD u24 false (fun k_b8 =>
k_b8 u23 .p H_b5 n_b6) .p H_b5 n_b6 fun v_b9 x_ba H_bb n_bc =>
guardD u24 false (fun k_be =>
bindO (indexAddrV P 44 v_b3 v_b9) fun v_bj =>
k_be v_bj .p H_bb n_bc) .p H_bb n_bc fun v_bf x_bg H_bh n_bi =>
guardD u24 false (fun k_bk =>
bindO (addrV v_bf) fun a_bp => bindO (loadV P H_bh 3 a_bp) fun v_bq =>
k_bk v_bq (.l 3 a_bp) H_bh n_bi) .p H_bh n_bi fun v_bl x_bm H_bn n_bo =>
guardD u24 false (fun k_br =>
binK P .eql 3 (.tmp 176) (.tmp 180) v_aw v_bl fun v_bw =>
k_br v_bw .p H_bn n_bo) .p H_bn n_bo fun v_bs x_bt H_bu n_bv =>
bindO (pickV u24 (.bool true) v_bs) fun v_bx =>
binK P .add 3 (.tmp 169) (.const (.int .i64 1)) u25 (.int .i64 1) fun v_c0 =>
b3 u16 u19 u23 v_bx v_c0 H_bu n_bv) (
bindO (pureSem P u24 (Op.unary UnOp.not u24)) fun v_c3 =>
ifK v_c3 (
some ((.bool false), H, n)) (
binK P .add 3 (.tmp 163) (.const (.int .i64 1)) u23 (.int .i64 1) fun v_c6 =>
b2 u16 u19 v_c6 H n))
noncomputable def C13_3 (cal : Cal) (k m1 m2 : Nat) (b2 : V3) (b3 : V5) (u16 u19 u23 u24 u25 : Value) (H : Hp) (n : Nat) : Res := B13_3 cal k m1 m2 b2 b3 u16 u19 u23 u24 u25 H n
noncomputable def S13_3 (cal : Cal) (k m1 : Nat) (b2 : V3) : Nat → V5 := fun m => Nat.rec (motive := fun _ => V5) (C13_3 cal k m1 0 b2 (fun _ _ _ _ _ _ _ => none)) (fun m ih => C13_3 cal k m1 (m + 1) b2 ih) m
theorem h13_3 (cal : Cal) (k m1 m2 : Nat) (u16 u19 u23 u24 u25 : Value) (H : Hp) (n : Nat) : labK (E13_3 cal k m1 m2) (Tr.set (Tr.set (Tr.set (Tr.set (Tr.set Tr.nil 25 (some u25)) 24 (some u24)) 23 (some u23)) 19 (some u19)) 16 (some u16)) H n [] = C13_3 cal k m1 m2 (R13_2 cal k m1) (R13_3 cal k m1 m2) u16 u19 u23 u24 u25 H n := by
  refine Eq.trans (b := B13_3 cal k m1 m2 (R13_2 cal k m1) (R13_3 cal k m1 m2) u16 u19 u23 u24 u25 H n) (by kernel_rfl) ?_
  rw [C13_3]
theorem q13_3 (cal : Cal) (k m1 : Nat) : ∀ (m : Nat) (u16 u19 u23 u24 u25 : Value) (H : Hp) (n : Nat), labK (E13_3 cal k m1 m) (Tr.set (Tr.set (Tr.set (Tr.set (Tr.set Tr.nil 25 (some u25)) 24 (some u24)) 23 (some u23)) 19 (some u19)) 16 (some u16)) H n [] = S13_3 cal k m1 (R13_2 cal k m1) m u16 u19 u23 u24 u25 H n
  | 0, u16, u19, u23, u24, u25, H, n => by
    rw [h13_3]
    have e : R13_3 cal k m1 0 = fun _ _ _ _ _ _ _ => none := by funext u16 u19 u23 u24 u25 H n; kernel_rfl
    rw [e]; rfl
  | m + 1, u16, u19, u23, u24, u25, H, n => by
    rw [h13_3]
    have e : R13_3 cal k m1 (m + 1) = S13_3 cal k m1 (R13_2 cal k m1) m := by
      funext u16 u19 u23 u24 u25 H n
      have e : R13_3 cal k m1 (m + 1) u16 u19 u23 u24 u25 H n = labK (E13_3 cal k m1 m) (Tr.set (Tr.set (Tr.set (Tr.set (Tr.set Tr.nil 25 (some u25)) 24 (some u24)) 23 (some u23)) 19 (some u19)) 16 (some u16)) H n [] := by kernel_rfl
      rw [e]; exact q13_3 ..
    rw [e]; rfl
noncomputable def B13_2 (cal : Cal) (k m1 : Nat) (j3 : V5) (b2 : V3) (u16 u19 u23 : Value) (H : Hp) (n : Nat) : Res :=
bindO (lenV P 44 u19) fun v_a3 =>
binK P .lss 3 (.tmp 159) (.tmp 161) u23 v_a3 fun v_a4 =>
ifK v_a4 (
j3 u16 u19 u23 (.bool false) (.int .i64 0) H n) (
callFK P cal 16 [] H n fun v_c8 H_c9 n_ca =>
some (v_c8, H_c9, n_ca))
noncomputable def C13_2 (cal : Cal) (k m1 : Nat) (b2 : V3) (u16 u19 u23 : Value) (H : Hp) (n : Nat) : Res := B13_2 cal k m1 (S13_3 cal k m1 b2 m1) b2 u16 u19 u23 H n
noncomputable def S13_2 (cal : Cal) (k : Nat) : Nat → V3 := fun m => Nat.rec (motive := fun _ => V3) (C13_2 cal k 0 (fun _ _ _ _ _ => none)) (fun m ih => C13_2 cal k (m + 1) ih) m
theorem h13_2 (cal : Cal) (k m1 : Nat) (u16 u19 u23 : Value) (H : Hp) (n : Nat) : labK (E13_2 cal k m1) (Tr.set (Tr.set (Tr.set Tr.nil 23 (some u23)) 19 (some u19)) 16 (some u16)) H n [] = C13_2 cal k m1 (R13_2 cal k m1) u16 u19 u23 H n := by
  refine Eq.trans (b := B13_2 cal k m1 (fun u16 u19 u23 u24 u25 H n => labK (E13_3 cal k m1 m1) (Tr.set (Tr.set (Tr.set (Tr.set (Tr.set Tr.nil 25 (some u25)) 24 (some u24)) 23 (some u23)) 19 (some u19)) 16 (some u16)) H n []) (R13_2 cal k m1) u16 u19 u23 H n) (by kernel_rfl) ?_
  rw [C13_2]
  have e3 : (fun u16 u19 u23 u24 u25 H n => labK (E13_3 cal k m1 m1) (Tr.set (Tr.set (Tr.set (Tr.set (Tr.set Tr.nil 25 (some u25)) 24 (some u24)) 23 (some u23)) 19 (some u19)) 16 (some u16)) H n []) = (S13_3 cal k m1 (R13_2 cal k m1) m1) := by funext u16 u19 u23 u24 u25 H n; exact q13_3 ..
  rw [e3]
theorem q13_2 (cal : Cal) (k : Nat) : ∀ (m : Nat) (u16 u19 u23 : Value) (H : Hp) (n : Nat), labK (E13_2 cal k m) (Tr.set (Tr.set (Tr.set Tr.nil 23 (some u23)) 19 (some u19)) 16 (some u16)) H n [] = S13_2 cal k m u16 u19 u23 H n
  | 0, u16, u19, u23, H, n => by
    rw [h13_2]
    have e : R13_2 cal k 0 = fun _ _ _ _ _ => none := by funext u16 u19 u23 H n; kernel_rfl
    rw [e]; rfl
  | m + 1, u16, u19, u23, H, n => by
    rw [h13_2]
    have e : R13_2 cal k (m + 1) = S13_2 cal k m := by
      funext u16 u19 u23 H n
      have e : R13_2 cal k (m + 1) u16 u19 u23 H n = labK (E13_2 cal k m) (Tr.set (Tr.set (Tr.set Tr.nil 23 (some u23)) 19 (some u19)) 16 (some u16)) H n [] := by kernel_rfl
      rw [e]; exact q13_2 ..
    rw [e]; rfl
noncomputable def B13_1 (cal : Cal) (k m1 : Nat) (j2 : V3) (b1 : V6) (u1 u12 u14 u16 u19 u22 : Value) (H : Hp) (n : Nat) : Res :=
bindO (lenV P 44 u1) fun v_7j =>
binK P .lss 3 (.tmp 129) (.tmp 131) u22 v_7j fun v_7k =>
ifK v_7k (
bindO (indexAddrV P 45 u14 u22) fun v_7n =>
bindO (fieldAddrV P 53 v_7n 0) fun v_7o =>
bindO (addrV v_7o) fun a_7p => bindO (loadV P H 3 a_7p) fun v_7q =>
bindO (indexAddrV P 45 u12 u22) fun v_7t =>
bindO (fieldAddrV P 53 v_7t 0) fun v_7u =>
bindO (addrV v_7u) fun a_7v => bindO (loadV P H 3 a_7v) fun v_7w =>
binK P .lss 3 (.tmp 139) (.tmp 144) v_7q v_7w fun v_7x =>
guardD v_7x false (fun k_7z =>
k_7z u14 .p H n) .p H n fun v_80 x_81 H_82 n_83 =>
guardD v_7x false (fun k_85 =>
k_85 u22 .p H_82 n_83) .p H_82 n_83 fun v_86 x_87 H_88 n_89 =>
guardD v_7x false (fun k_8b =>
bindO (indexAddrV P 45 v_80 v_86) fun v_8g =>
k_8b v_8g .p H_88 n_89) .p H_88 n_89 fun v_8c x_8d H_8e n_8f =>
guardD v_7x false (fun k_8h =>
bindO (fieldAddrV P 53 v_8c 1) fun v_8m =>
k_8h v_8m .p H_8e n_8f) .p H_8e n_8f fun v_8i x_8j H_8k n_8l =>
guardD v_7x false (fun k_8n =>
bindO (addrV v_8i) fun a_8s => bindO (loadV P H_8k 3 a_8s) fun v_8t =>
k_8n v_8t (.l 3 a_8s) H_8k n_8l) .p H_8k n_8l fun v_8o x_8p H_8q n_8r =>
guardD v_7x false (fun k_8u =>
k_8u u12 .p H_8q n_8r) .p H_8q n_8r fun v_8v x_8w H_8x n_8y =>
guardD v_7x false (fun k_90 =>
k_90 u22 .p H_8x n_8y) .p H_8x n_8y fun v_91 x_92 H_93 n_94 =>
guardD v_7x false (fun k_96 =>
bindO (indexAddrV P 45 v_8v v_91) fun v_9b =>
k_96 v_9b .p H_93 n_94) .p H_93 n_94 fun v_97 x_98 H_99 n_9a =>
guardD v_7x false (fun k_9c =>
bindO (fieldAddrV P 53 v_97 1) fun v_9h =>
k_9c v_9h .p H_99 n_9a) .p H_99 n_9a fun v_9d x_9e H_9f n_9g =>
guardD v_7x false (fun k_9i =>
bindO (addrV v_9d) fun a_9n => bindO (loadV P H_9f 3 a_9n) fun v_9o =>
k_9i v_9o (.l 3 a_9n) H_9f n_9g) .p H_9f n_9g fun v_9j x_9k H_9l n_9m =>
guardD v_7x false (fun k_9p =>
binK P .lss 3 (.tmp 151) (.tmp 156) v_8o v_9j fun v_9u =>
k_9p v_9u .p H_9l n_9m) .p H_9l n_9m fun v_9q x_9r H_9s n_9t =>
bindO (pickV v_7x (.bool true) v_9q) fun v_9v =>
ifK v_9v (
some ((.bool false), H_9s, n_9t)) (
binK P .add 3 (.tmp 133) (.const (.int .i64 1)) u22 (.int .i64 1) fun v_9y =>
b1 u1 u12 u14 u16 u19 v_9y H_9s n_9t)) (
j2 u16 u19 (.int .i64 0) H n)
noncomputable def C13_1 (cal : Cal) (k m1 : Nat) (b1 : V6) (u1 u12 u14 u16 u19 u22 : Value) (H : Hp) (n : Nat) : Res := B13_1 cal k m1 (S13_2 cal k k) b1 u1 u12 u14 u16 u19 u22 H n
noncomputable def S13_1 (cal : Cal) (k : Nat) : Nat → V6 := fun m => Nat.rec (motive := fun _ => V6) (C13_1 cal k 0 (fun _ _ _ _ _ _ _ _ => none)) (fun m ih => C13_1 cal k (m + 1) ih) m
theorem h13_1 (cal : Cal) (k m1 : Nat) (u1 u12 u14 u16 u19 u22 : Value) (H : Hp) (n : Nat) : labK (E13_1 cal k m1) (Tr.set (Tr.set (Tr.set (Tr.set (Tr.set (Tr.set Tr.nil 22 (some u22)) 19 (some u19)) 16 (some u16)) 14 (some u14)) 12 (some u12)) 1 (some u1)) H n [] = C13_1 cal k m1 (R13_1 cal k m1) u1 u12 u14 u16 u19 u22 H n := by
  refine Eq.trans (b := B13_1 cal k m1 (fun u16 u19 u23 H n => labK (E13_2 cal k k) (Tr.set (Tr.set (Tr.set Tr.nil 23 (some u23)) 19 (some u19)) 16 (some u16)) H n []) (R13_1 cal k m1) u1 u12 u14 u16 u19 u22 H n) (by kernel_rfl) ?_
  rw [C13_1]
  have e2 : (fun u16 u19 u23 H n => labK (E13_2 cal k k) (Tr.set (Tr.set (Tr.set Tr.nil 23 (some u23)) 19 (some u19)) 16 (some u16)) H n []) = (S13_2 cal k k) := by funext u16 u19 u23 H n; exact q13_2 ..
  rw [e2]
theorem q13_1 (cal : Cal) (k : Nat) : ∀ (m : Nat) (u1 u12 u14 u16 u19 u22 : Value) (H : Hp) (n : Nat), labK (E13_1 cal k m) (Tr.set (Tr.set (Tr.set (Tr.set (Tr.set (Tr.set Tr.nil 22 (some u22)) 19 (some u19)) 16 (some u16)) 14 (some u14)) 12 (some u12)) 1 (some u1)) H n [] = S13_1 cal k m u1 u12 u14 u16 u19 u22 H n
  | 0, u1, u12, u14, u16, u19, u22, H, n => by
    rw [h13_1]
    have e : R13_1 cal k 0 = fun _ _ _ _ _ _ _ _ => none := by funext u1 u12 u14 u16 u19 u22 H n; kernel_rfl
    rw [e]; rfl
  | m + 1, u1, u12, u14, u16, u19, u22, H, n => by
    rw [h13_1]
    have e : R13_1 cal k (m + 1) = S13_1 cal k m := by
      funext u1 u12 u14 u16 u19 u22 H n
      have e : R13_1 cal k (m + 1) u1 u12 u14 u16 u19 u22 H n = labK (E13_1 cal k m) (Tr.set (Tr.set (Tr.set (Tr.set (Tr.set (Tr.set Tr.nil 22 (some u22)) 19 (some u19)) 16 (some u16)) 14 (some u14)) 12 (some u12)) 1 (some u1)) H n [] := by kernel_rfl
      rw [e]; exact q13_1 ..
    rw [e]; rfl
noncomputable def B13_0 (cal : Cal) (k : Nat) (j1 : V6) (v0 v1 v2 v3 : Value) (H : Hp) (n : Nat) : Res :=
boxK 26 v0 H n fun v_1 H_2 n_3 =>
bindO (addrV v_1) fun a_6 => bindO (loadV P H_2 26 a_6) fun v_5 =>
callFK P cal 55 [v_5, v1] H_2 n_3 fun v_8 H_9 n_a =>
bindO (pureSem P v_8 (Op.unary UnOp.not v_8)) fun v_b =>
ifK v_b (
callFK P cal 16 [] H_9 n_a fun v_c H_d n_e =>
some (v_c, H_d, n_e)) (
bindO (pureSem P v2 (convert 5 3 v2)) fun v_h =>
bindO (lenV P 44 v1) fun v_j =>
binK P .rem 3 (.tmp 32) (.tmp 34) v_h v_j fun v_k =>
bindO (pureSem P v3 (convert 5 3 v3)) fun v_m =>
bindO (fieldAddrV P 26 v_1 2) fun v_n =>
bindO (addrV v_n) fun a_o => bindO (loadV P H_9 24 a_o) fun v_p =>
bindO (lenV P 24 v_p) fun v_q =>
binK P .rem 3 (.tmp 37) (.tmp 40) v_m v_q fun v_r =>
callFK P cal 23 [v1] H_9 n_a fun v_v H_w n_x =>
bindO (indexAddrV P 44 v_v v_k) fun v_12 =>
bindO (storeP P 3 v_12 v_r H_w) fun H_14 =>
bindO (indexAddrV P 44 v1 v_k) fun v_17 =>
bindO (addrV v_17) fun a_19 => bindO (loadV P H_14 3 a_19) fun v_18 =>
binK P .geq 3 (.tmp 51) (.const (.int .i64 0)) v_18 (.int .i64 0) fun v_1a =>
guardK v_1a false (fun k_1c =>
bindO (addrV v_1) fun a_1h => bindO (loadV P H_14 26 a_1h) fun v_1g =>
k_1c v_1g H_14 n_x) H_14 n_x fun v_1d H_1e n_1f =>
guardK v_1a false (fun k_1i =>
k_1i v_v H_1e n_1f) H_1e n_1f fun v_1j H_1k n_1l =>
guardK v_1a false (fun k_1n =>
callFK P cal 58 [v_1d, v_1j] H_1k n_1l fun v_1r H_1s n_1t =>
k_1n v_1r H_1s n_1t) H_1k n_1l fun v_1o H_1p n_1q =>
guardK v_1a false (fun k_1u =>
bindO (pureSem P v_1o (Op.unary UnOp.not v_1o)) fun v_1y =>
k_1u v_1y H_1p n_1q) H_1p n_1q fun v_1v H_1w n_1x =>
bindO (pickV v_1a (.bool true) v_1v) fun v_1z =>
ifK v_1z (
callFK P cal 16 [] H_1w n_1x fun v_20 H_21 n_22 =>
some (v_20, H_21, n_22)) (
bindO (addrV v_1) fun a_25 => bindO (loadV P H_1w 26 a_25) fun v_24 =>
callFK P cal 18 [v_24] H_1w n_1x fun v_26 H_27 n_28 =>
callFK P cal 23 [v1] H_27 n_28 fun v_2a H_2b n_2c =>
callFK P cal 22 [v_26, v_2a] H_2b n_2c fun v_2d H_2e n_2f =>
bindO (tupV v_2d 0) fun v_2h =>
bindO (tupV v_2d 1) fun v_2i =>
bindO (addrV v_1) fun a_2m => bindO (loadV P H_2e 26 a_2m) fun v_2l =>
callFK P cal 18 [v_2l] H_2e n_2f fun v_2n H_2o n_2p =>
callFK P cal 23 [v_v] H_2o n_2p fun v_2r H_2s n_2t =>
callFK P cal 22 [v_2n, v_2r] H_2s n_2t fun v_2u H_2v n_2w =>
bindO (tupV v_2u 0) fun v_2y =>
bindO (tupV v_2u 1) fun v_2z =>
bindO (addrV v_1) fun a_33 => bindO (loadV P H_2v 26 a_33) fun v_32 =>
callFK P cal 18 [v_32] H_2v n_2w fun v_34 H_35 n_36 =>
callFK P cal 23 [v1] H_35 n_36 fun v_38 H_39 n_3a =>
callFK P cal 24 [v_34, v_38] H_39 n_3a fun v_3b H_3c n_3d =>
bindO (tupV v_3b 0) fun v_3f =>
bindO (tupV v_3b 1) fun v_3g =>
bindO (tupV v_3b 2) fun v_3h =>
bindO (addrV v_1) fun a_3m => bindO (loadV P H_3c 26 a_3m) fun v_3l =>
callFK P cal 18 [v_3l] H_3c n_3d fun v_3n H_3o n_3p =>
callFK P cal 23 [v_v] H_3o n_3p fun v_3r H_3s n_3t =>
callFK P cal 24 [v_3n, v_3r] H_3s n_3t fun v_3u H_3v n_3w =>
bindO (tupV v_3u 0) fun v_3y =>
bindO (tupV v_3u 1) fun v_3z =>
bindO (tupV v_3u 2) fun v_40 =>
binK P .neq 29 (.tmp 94) (.const (.int .i64 0)) v_2i (.int .i64 0) fun v_45 =>
guardK v_45 false (fun k_47 =>
k_47 v_2z H_3v n_3w) H_3v n_3w fun v_48 H_49 n_4a =>
guardK v_45 false (fun k_4c =>
binK P .neq 29 (.tmp 97) (.const (.int .i64 0)) v_48 (.int .i64 0) fun v_4g =>
k_4c v_4g H_49 n_4a) H_49 n_4a fun v_4d H_4e n_4f =>
bindO (pickV v_45 (.bool true) v_4d) fun v_4h =>
guardK v_4h false (fun k_4j =>
k_4j v_3h H_4e n_4f) H_4e n_4f fun v_4k H_4l n_4m =>
guardK v_4h false (fun k_4o =>
binK P .neq 29 (.tmp 101) (.const (.int .i64 0)) v_4k (.int .i64 0) fun v_4s =>
k_4o v_4s H_4l n_4m) H_4l n_4m fun v_4p H_4q n_4r =>
bindO (pickV v_4h (.bool true) v_4p) fun v_4t =>
guardK v_4t false (fun k_4v =>
k_4v v_40 H_4q n_4r) H_4q n_4r fun v_4w H_4x n_4y =>
guardK v_4t false (fun k_50 =>
binK P .neq 29 (.tmp 105) (.const (.int .i64 0)) v_4w (.int .i64 0) fun v_54 =>
k_50 v_54 H_4x n_4y) H_4x n_4y fun v_51 H_52 n_53 =>
bindO (pickV v_4t (.bool true) v_51) fun v_55 =>
guardK v_55 false (fun k_57 =>
k_57 v_2h H_52 n_53) H_52 n_53 fun v_58 H_59 n_5a =>
guardK v_55 false (fun k_5c =>
bindO (lenV P 45 v_58) fun v_5g =>
k_5c v_5g H_59 n_5a) H_59 n_5a fun v_5d H_5e n_5f =>
guardK v_55 false (fun k_5h =>
k_5h v1 H_5e n_5f) H_5e n_5f fun v_5i H_5j n_5k =>
guardK v_55 false (fun k_5m =>
bindO (lenV P 44 v_5i) fun v_5q =>
k_5m v_5q H_5j n_5k) H_5j n_5k fun v_5n H_5o n_5p =>
guardK v_55 false (fun k_5r =>
binK P .neq 3 (.tmp 110) (.tmp 112) v_5d v_5n fun v_5v =>
k_5r v_5v H_5o n_5p) H_5o n_5p fun v_5s H_5t n_5u =>
bindO (pickV v_55 (.bool true) v_5s) fun v_5w =>
guardK v_5w false (fun k_5y =>
k_5y v_2y H_5t n_5u) H_5t n_5u fun v_5z H_60 n_61 =>
guardK v_5w false (fun k_63 =>
bindO (lenV P 45 v_5z) fun v_67 =>
k_63 v_67 H_60 n_61) H_60 n_61 fun v_64 H_65 n_66 =>
guardK v_5w false (fun k_68 =>
k_68 v1 H_65 n_66) H_65 n_66 fun v_69 H_6a n_6b =>
guardK v_5w false (fun k_6d =>
bindO (lenV P 44 v_69) fun v_6h =>
k_6d v_6h H_6a n_6b) H_6a n_6b fun v_6e H_6f n_6g =>
guardK v_5w false (fun k_6i =>
binK P .neq 3 (.tmp 117) (.tmp 119) v_64 v_6e fun v_6m =>
k_6i v_6m H_6f n_6g) H_6f n_6g fun v_6j H_6k n_6l =>
bindO (pickV v_5w (.bool true) v_6j) fun v_6n =>
guardK v_6n false (fun k_6p =>
k_6p v_3y H_6k n_6l) H_6k n_6l fun v_6q H_6r n_6s =>
guardK v_6n false (fun k_6u =>
bindO (lenV P 44 v_6q) fun v_6y =>
k_6u v_6y H_6r n_6s) H_6r n_6s fun v_6v H_6w n_6x =>
guardK v_6n false (fun k_6z =>
k_6z v_3f H_6w n_6x) H_6w n_6x fun v_70 H_71 n_72 =>
guardK v_6n false (fun k_74 =>
bindO (lenV P 44 v_70) fun v_78 =>
k_74 v_78 H_71 n_72) H_71 n_72 fun v_75 H_76 n_77 =>
guardK v_6n false (fun k_79 =>
binK P .gtr 3 (.tmp 124) (.tmp 126) v_6v v_75 fun v_7d =>
k_79 v_7d H_76 n_77) H_76 n_77 fun v_7a H_7b n_7c =>
bindO (pickV v_6n (.bool true) v_7a) fun v_7e =>
ifK v_7e (
some ((.bool false), H_7b, n_7c)) (
j1 v1 v_2h v_2y v_3f v_3y (.int .i64 0) H_7b n_7c)))
noncomputable def C13_0 (cal : Cal) (k : Nat) (v0 v1 v2 v3 : Value) (H : Hp) (n : Nat) : Res := B13_0 cal k (S13_1 cal k k) v0 v1 v2 v3 H n
theorem h13_0 (cal : Cal) (k : Nat) (v0 v1 v2 v3 : Value) (H : Hp) (n : Nat) : bodyE P cal A (k + 1) 13 [v0, v1, v2, v3] H n = C13_0 cal k v0 v1 v2 v3 H n := by
  have h : bodyE P cal A (k + 1) 13 [v0, v1, v2, v3] H n = B13_0 cal k (fun u1 u12 u14 u16 u19 u22 H n => labK (E13_1 cal k k) (Tr.set (Tr.set (Tr.set (Tr.set (Tr.set (Tr.set Tr.nil 22 (some u22)) 19 (some u19)) 16 (some u16)) 14 (some u14)) 12 (some u12)) 1 (some u1)) H n []) v0 v1 v2 v3 H n := by
    rw [body_eq (fn := Go.Proofs.Try.f13) (c := code13) (rs := results13) (by kernel_rfl) (by kernel_rfl) (by kernel_rfl) (by kernel_rfl)]
    kernel_rfl
  rw [h, C13_0]
  have e1 : (fun u1 u12 u14 u16 u19 u22 H n => labK (E13_1 cal k k) (Tr.set (Tr.set (Tr.set (Tr.set (Tr.set (Tr.set Tr.nil 22 (some u22)) 19 (some u19)) 16 (some u16)) 14 (some u14)) 12 (some u12)) 1 (some u1)) H n []) = (S13_1 cal k k) := by funext u1 u12 u14 u16 u19 u22 H n; exact q13_1 ..
  rw [e1]
noncomputable def code15 : Code := codeOf 15
noncomputable def results15 : List ResultVar := resOf 15
noncomputable def K15_p (cal : Cal) (k : Nat) : KR := (cutK (A 15).c (codeE P cal (codeF P cal k) none 15 (cR code15) (Lv.b (A 15)) (doneK P results15) X0 (doneK P results15)))
noncomputable def K15_pr (cal : Cal) (k : Nat) : KR := (cutK (Lv.b (A 15)).c (codeE P cal (codeF P cal k) none 15 (cR (cR code15)) (Lv.b (Lv.b (A 15))) (doneK P results15) X0 (doneK P results15)))
noncomputable def B15_0 (cal : Cal) (k : Nat) (v0 v1 : Value) (H : Hp) (n : Nat) : Res :=
boxK 26 v0 H n fun v_1 H_2 n_3 =>
bindO (fieldAddrV P 26 v_1 0) fun v_5 =>
bindO (addrV v_5) fun a_7 => bindO (loadV P H_2 22 a_7) fun v_6 =>
bindO (lenV P 22 v_6) fun v_8 =>
binK P .leq 3 (.tmp 7) (.const (.int .i64 11)) v_8 (.int .i64 11) fun v_9 =>
guardK v_9 true (fun k_b =>
bindO (fieldAddrV P 26 v_1 1) fun v_f =>
k_b v_f H_2 n_3) H_2 n_3 fun v_c H_d n_e =>
guardK v_9 true (fun k_g =>
bindO (addrV v_c) fun a_l => bindO (loadV P H_d 23 a_l) fun v_k =>
k_g v_k H_d n_e) H_d n_e fun v_h H_i n_j =>
guardK v_9 true (fun k_m =>
bindO (lenV P 23 v_h) fun v_q =>
k_m v_q H_i n_j) H_i n_j fun v_n H_o n_p =>
guardK v_9 true (fun k_r =>
binK P .leq 3 (.tmp 12) (.const (.int .i64 19)) v_n (.int .i64 19) fun v_v =>
k_r v_v H_o n_p) H_o n_p fun v_s H_t n_u =>
bindO (pickV v_9 v_s (.bool false)) fun v_w =>
guardK v_w true (fun k_y =>
bindO (fieldAddrV P 26 v_1 2) fun v_12 =>
k_y v_12 H_t n_u) H_t n_u fun v_z H_10 n_11 =>
guardK v_w true (fun k_13 =>
bindO (addrV v_z) fun a_18 => bindO (loadV P H_10 24 a_18) fun v_17 =>
k_13 v_17 H_10 n_11) H_10 n_11 fun v_14 H_15 n_16 =>
guardK v_w true (fun k_19 =>
bindO (lenV P 24 v_14) fun v_1d =>
k_19 v_1d H_15 n_16) H_15 n_16 fun v_1a H_1b n_1c =>
guardK v_w true (fun k_1e =>
binK P .leq 3 (.tmp 18) (.const (.int .i64 6)) v_1a (.int .i64 6) fun v_1i =>
k_1e v_1i H_1b n_1c) H_1b n_1c fun v_1f H_1g n_1h =>
bindO (pickV v_w v_1f (.bool false)) fun v_1j =>
guardK v_1j true (fun k_1l =>
k_1l v1 H_1g n_1h) H_1g n_1h fun v_1m H_1n n_1o =>
guardK v_1j true (fun k_1q =>
bindO (lenV P 44 v_1m) fun v_1u =>
k_1q v_1u H_1n n_1o) H_1n n_1o fun v_1r H_1s n_1t =>
guardK v_1j true (fun k_1v =>
binK P .leq 3 (.tmp 23) (.const (.int .i64 11)) v_1r (.int .i64 11) fun v_1z =>
k_1v v_1z H_1s n_1t) H_1s n_1t fun v_1w H_1x n_1y =>
bindO (pickV v_1j v_1w (.bool false)) fun v_20 =>
some (v_20, H_1x, n_1y)
noncomputable def C15_0 (cal : Cal) (k : Nat) (v0 v1 : Value) (H : Hp) (n : Nat) : Res := B15_0 cal k v0 v1 H n
theorem h15_0 (cal : Cal) (k : Nat) (v0 v1 : Value) (H : Hp) (n : Nat) : bodyE P cal A (k + 1) 15 [v0, v1] H n = C15_0 cal k v0 v1 H n := by
  have h : bodyE P cal A (k + 1) 15 [v0, v1] H n = B15_0 cal k v0 v1 H n := by
    rw [body_eq (fn := Go.Proofs.Try.f15) (c := code15) (rs := results15) (by kernel_rfl) (by kernel_rfl) (by kernel_rfl) (by kernel_rfl)]
    kernel_rfl
  rw [h, C15_0]
noncomputable def code16 : Code := codeOf 16
noncomputable def results16 : List ResultVar := resOf 16
noncomputable def K16_p (cal : Cal) (k : Nat) : KR := (cutK (A 16).c (codeE P cal (codeF P cal k) none 16 (cR code16) (Lv.b (A 16)) (doneK P results16) X0 (doneK P results16)))
noncomputable def K16_pr (cal : Cal) (k : Nat) : KR := (cutK (Lv.b (A 16)).c (codeE P cal (codeF P cal k) none 16 (cR (cR code16)) (Lv.b (Lv.b (A 16))) (doneK P results16) X0 (doneK P results16)))
noncomputable def K16_prr (cal : Cal) (k : Nat) : KR := (cutK (Lv.b (Lv.b (A 16))).c (codeE P cal (codeF P cal k) none 16 (cR (cR (cR code16))) (Lv.b (Lv.b (Lv.b (A 16)))) (doneK P results16) X0 (doneK P results16)))
noncomputable def K16_prrr (cal : Cal) (k : Nat) : KR := (cutK (Lv.b (Lv.b (Lv.b (A 16)))).c (codeE P cal (codeF P cal k) none 16 (cR (cR (cR (cR code16)))) (Lv.b (Lv.b (Lv.b (Lv.b (A 16))))) (doneK P results16) X0 (doneK P results16)))
noncomputable def K16_prrrr (cal : Cal) (k : Nat) : KR := (cutK (Lv.b (Lv.b (Lv.b (Lv.b (A 16))))).c (codeE P cal (codeF P cal k) none 16 (cR (cR (cR (cR (cR code16))))) (Lv.b (Lv.b (Lv.b (Lv.b (Lv.b (A 16)))))) (doneK P results16) X0 (doneK P results16)))
noncomputable def K16_prrrrr (cal : Cal) (k : Nat) : KR := (cutK (Lv.b (Lv.b (Lv.b (Lv.b (Lv.b (A 16)))))).c (codeE P cal (codeF P cal k) none 16 (cR (cR (cR (cR (cR (cR code16)))))) (Lv.b (Lv.b (Lv.b (Lv.b (Lv.b (Lv.b (A 16))))))) (doneK P results16) X0 (doneK P results16)))
noncomputable def K16_prrrrrr (cal : Cal) (k : Nat) : KR := (cutK (Lv.b (Lv.b (Lv.b (Lv.b (Lv.b (Lv.b (A 16))))))).c (codeE P cal (codeF P cal k) none 16 (cR (cR (cR (cR (cR (cR (cR code16))))))) (Lv.b (Lv.b (Lv.b (Lv.b (Lv.b (Lv.b (Lv.b (A 16)))))))) (doneK P results16) X0 (doneK P results16)))
noncomputable def B16_0 (cal : Cal) (k : Nat) (H : Hp) (n : Nat) : Res :=
callFK P cal 52 [] H n fun v_2 H_3 n_4 =>
rowK P 44 2 [(0, (.int .i64 1)), (1, (.int .i64 3))] H_3 n_4 fun v_5 H_6 n_7 =>
callFK P cal 53 [v_5] H_6 n_7 fun v_8 H_9 n_a =>
callFK P cal 22 [v_2, v_8] H_9 n_a fun v_b H_c n_d =>
bindO (tupV v_b 0) fun v_f =>
bindO (tupV v_b 1) fun v_g =>
callFK P cal 52 [] H_c n_d fun v_j H_k n_l =>
rowK P 44 2 [(0, (.int .i64 0)), (1, (.int .i64 1))] H_k n_l fun v_m H_n n_o =>
callFK P cal 53 [v_m] H_n n_o fun v_p H_q n_r =>
callFK P cal 24 [v_j, v_p] H_q n_r fun v_s H_t n_u =>
bindO (tupV v_s 0) fun v_w =>
bindO (tupV v_s 1) fun v_x =>
bindO (tupV v_s 2) fun v_y =>
callFK P cal 52 [] H_t n_u fun v_12 H_13 n_14 =>
callFK P cal 42 [v_12] H_13 n_14 fun v_15 H_16 n_17 =>
bindO (tupV v_15 0) fun v_19 =>
bindO (tupV v_15 1) fun v_1a =>
bindO (tupV v_15 2) fun v_1b =>
callFK P cal 52 [] H_16 n_17 fun v_1f H_1g n_1h =>
rowK P 44 3 [(0, (.int .i64 1)), (1, (.int .i64 2)), (2, (.int .i64 3))] H_1g n_1h fun v_1i H_1j n_1k =>
callFK P cal 53 [v_1i] H_1j n_1k fun v_1l H_1m n_1n =>
callFK P cal 47 [v_1f, v_1l] H_1m n_1n fun v_1o H_1p n_1q =>
bindO (tupV v_1o 0) fun v_1s =>
bindO (tupV v_1o 1) fun v_1t =>
callFK P cal 52 [] H_1p n_1q fun v_1w H_1x n_1y =>
callFK P cal 48 [v_1w] H_1x n_1y fun v_1z H_20 n_21 =>
bindO (tupV v_1z 0) fun v_23 =>
bindO (tupV v_1z 1) fun v_24 =>
binK P .eql 29 (.tmp 46) (.const (.int .i64 0)) v_g (.int .i64 0) fun v_28 =>
guardD v_28 true (fun k_2a =>
k_2a v_f .p H_20 n_21) .p H_20 n_21 fun v_2b x_2c H_2d n_2e =>
guardD v_28 true (fun k_2g =>
bindO (lenV P 45 v_2b) fun v_2l =>
k_2g v_2l .p H_2d n_2e) .p H_2d n_2e fun v_2h x_2i H_2j n_2k =>
guardD v_28 true (fun k_2m =>
binK P .eql 3 (.tmp 50) (.const (.int .i64 5)) v_2h (.int .i64 5) fun v_2r =>
k_2m v_2r .p H_2j n_2k) .p H_2j n_2k fun v_2n x_2o H_2p n_2q =>
bindO (pickV v_28 v_2n (.bool false)) fun v_2s =>
guardD v_2s true (fun k_2u =>
k_2u v_f .p H_2p n_2q) .p H_2p n_2q fun v_2v x_2w H_2x n_2y =>
guardD v_2s true (fun k_30 =>
bindO (indexAddrV P 45 v_2v (.int .i64 0)) fun v_35 =>
k_30 v_35 .p H_2x n_2y) .p H_2x n_2y fun v_31 x_32 H_33 n_34 =>
guardD v_2s true (fun k_36 =>
bindO (addrV v_31) fun a_3b => bindO (loadV P H_33 53 a_3b) fun v_3c =>
k_36 v_3c (.l 53 a_3b) H_33 n_34) .p H_33 n_34 fun v_37 x_38 H_39 n_3a =>
guardD v_2s true (fun k_3d =>
effK P [x_38] H_39 n_3a (fun H_3i n_3j k_3k =>
callFK P cal 54 [(.int .i64 10), (.int .i64 20)] H_3i n_3j fun v_3o H_3p n_3q =>
k_3k v_3o H_3p n_3q) fun v_3l H_3m n_3n =>
k_3d v_3l .e H_3m n_3n) .e H_39 n_3a fun v_3e x_3f H_3g n_3h =>
guardD v_2s true (fun k_3r =>
binK P .eql 53 (.tmp 56) (.tmp 57) v_37 v_3e fun v_3w =>
k_3r v_3w .p H_3g n_3h) .p H_3g n_3h fun v_3s x_3t H_3u n_3v =>
bindO (pickV v_2s v_3s (.bool false)) fun v_3x =>
guardD v_3x true (fun k_3z =>
k_3z v_f .p H_3u n_3v) .p H_3u n_3v fun v_40 x_41 H_42 n_43 =>
guardD v_3x true (fun k_45 =>
bindO (indexAddrV P 45 v_40 (.int .i64 2)) fun v_4a =>
k_45 v_4a .p H_42 n_43) .p H_42 n_43 fun v_46 x_47 H_48 n_49 =>
guardD v_3x true (fun k_4b =>
bindO (addrV v_46) fun a_4g => bindO (loadV P H_48 53 a_4g) fun v_4h =>
k_4b v_4h (.l 53 a_4g) H_48 n_49) .p H_48 n_49 fun v_4c x_4d H_4e n_4f =>
guardD v_3x true (fun k_4i =>
effK P [x_4d] H_4e n_4f (fun H_4n n_4o k_4p =>
callFK P cal 54 [(.int .i64 20), (.int .i64 40)] H_4n n_4o fun v_4t H_4u n_4v =>
k_4p v_4t H_4u n_4v) fun v_4q H_4r n_4s =>
k_4i v_4q .e H_4r n_4s) .e H_4e n_4f fun v_4j x_4k H_4l n_4m =>
guardD v_3x true (fun k_4w =>
binK P .eql 53 (.tmp 63) (.tmp 64) v_4c v_4j fun v_51 =>
k_4w v_51 .p H_4l n_4m) .p H_4l n_4m fun v_4x x_4y H_4z n_50 =>
bindO (pickV v_3x v_4x (.bool false)) fun v_52 =>
guardD v_52 true (fun k_54 =>
k_54 v_y .p H_4z n_50) .p H_4z n_50 fun v_55 x_56 H_57 n_58 =>
guardD v_52 true (fun k_5a =>
binK P .eql 29 (.tmp 68) (.const (.int .i64 0)) v_55 (.int .i64 0) fun v_5f =>
k_5a v_5f .p H_57 n_58) .p H_57 n_58 fun v_5b x_5c H_5d n_5e =>
bindO (pickV v_52 v_5b (.bool false)) fun v_5g =>
guardD v_5g true (fun k_5i =>
k_5i v_w .p H_5d n_5e) .p H_5d n_5e fun v_5j x_5k H_5l n_5m =>
guardD v_5g true (fun k_5o =>
bindO (rowOf P 44 2 [(0, (.int .i64 3)), (1, (.int .i64 4))]) fun q_5v => newK q_5v.1 q_5v.2 H_5l n_5m fun H_5t n_5u =>
k_5o (.slice (some ⟨n_5m, 0, none⟩) 2 2) (.a n_5m q_5v.1 q_5v.2) H_5t n_5u) .p H_5l n_5m fun v_5p x_5q H_5r n_5s =>
guardD v_5g true (fun k_5w =>
callFK P cal 30 [v_5j, v_5p] H_5r n_5s fun v_61 H_62 n_63 =>
k_5w v_61 .e H_62 n_63) .e H_5r n_5s fun v_5x x_5y H_5z n_60 =>
bindO (pickV v_5g v_5x (.bool false)) fun v_64 =>
guardD v_64 true (fun k_66 =>
k_66 v_x .p H_5z n_60) .p H_5z n_60 fun v_67 x_68 H_69 n_6a =>
guardD v_64 true (fun k_6c =>
bindO (rowOf P 44 2 [(0, (.int .i64 0)), (1, (.int .i64 1))]) fun q_6j => newK q_6j.1 q_6j.2 H_69 n_6a fun H_6h n_6i =>
k_6c (.slice (some ⟨n_6a, 0, none⟩) 2 2) (.a n_6a q_6j.1 q_6j.2) H_6h n_6i) .p H_69 n_6a fun v_6d x_6e H_6f n_6g =>
guardD v_64 true (fun k_6k =>
callFK P cal 30 [v_67, v_6d] H_6f n_6g fun v_6p H_6q n_6r =>
k_6k v_6p .e H_6q n_6r) .e H_6f n_6g fun v_6l x_6m H_6n n_6o =>
bindO (pickV v_64 v_6l (.bool false)) fun v_6s =>
guardD v_6s true (fun k_6u =>
k_6u v_1b .p H_6n n_6o) .p H_6n n_6o fun v_6v x_6w H_6x n_6y =>
guardD v_6s true (fun k_70 =>
binK P .eql 29 (.tmp 82) (.const (.int .i64 0)) v_6v (.int .i64 0) fun v_75 =>
k_70 v_75 .p H_6x n_6y) .p H_6x n_6y fun v_71 x_72 H_73 n_74 =>
bindO (pickV v_6s v_71 (.bool false)) fun v_76 =>
guardD v_76 true (fun k_78 =>
k_78 v_19 .p H_73 n_74) .p H_73 n_74 fun v_79 x_7a H_7b n_7c =>
guardD v_76 true (fun k_7e =>
bindO (rowOf P 44 2 [(0, (.int .i64 1)), (1, (.int .i64 4))]) fun q_7l => newK q_7l.1 q_7l.2 H_7b n_7c fun H_7j n_7k =>
k_7e (.slice (some ⟨n_7c, 0, none⟩) 2 2) (.a n_7c q_7l.1 q_7l.2) H_7j n_7k) .p H_7b n_7c fun v_7f x_7g H_7h n_7i =>
guardD v_76 true (fun k_7m =>
callFK P cal 53 [v_7f] H_7h n_7i fun v_7r H_7s n_7t =>
k_7m v_7r .e H_7s n_7t) .e H_7h n_7i fun v_7n x_7o H_7p n_7q =>
guardD v_76 true (fun k_7u =>
callFK P cal 30 [v_79, v_7n] H_7p n_7q fun v_7z H_80 n_81 =>
k_7u v_7z .e H_80 n_81) .e H_7p n_7q fun v_7v x_7w H_7x n_7y =>
bindO (pickV v_76 v_7v (.bool false)) fun v_82 =>
guardD v_82 true (fun k_84 =>
k_84 v_1a .p H_7x n_7y) .p H_7x n_7y fun v_85 x_86 H_87 n_88 =>
guardD v_82 true (fun k_8a =>
binK P .eql 3 (.tmp 92) (.const (.int .i64 2)) v_85 (.int .i64 2) fun v_8f =>
k_8a v_8f .p H_87 n_88) .p H_87 n_88 fun v_8b x_8c H_8d n_8e =>
bindO (pickV v_82 v_8b (.bool false)) fun v_8g =>
guardD v_8g true (fun k_8i =>
k_8i v_1t .p H_8d n_8e) .p H_8d n_8e fun v_8j x_8k H_8l n_8m =>
guardD v_8g true (fun k_8o =>
binK P .eql 29 (.tmp 96) (.const (.int .i64 0)) v_8j (.int .i64 0) fun v_8t =>
k_8o v_8t .p H_8l n_8m) .p H_8l n_8m fun v_8p x_8q H_8r n_8s =>
bindO (pickV v_8g v_8p (.bool false)) fun v_8u =>
guardD v_8u true (fun k_8w =>
k_8w v_1s .p H_8r n_8s) .p H_8r n_8s fun v_8x x_8y H_8z n_90 =>
guardD v_8u true (fun k_92 =>
bindO (rowOf P 44 1 [(0, (.int .i64 2))]) fun q_99 => newK q_99.1 q_99.2 H_8z n_90 fun H_97 n_98 =>
k_92 (.slice (some ⟨n_90, 0, none⟩) 1 1) (.a n_90 q_99.1 q_99.2) H_97 n_98) .p H_8z n_90 fun v_93 x_94 H_95 n_96 =>
guardD v_8u true (fun k_9a =>
callFK P cal 30 [v_8x, v_93] H_95 n_96 fun v_9f H_9g n_9h =>
k_9a v_9f .e H_9g n_9h) .e H_95 n_96 fun v_9b x_9c H_9d n_9e =>
bindO (pickV v_8u v_9b (.bool false)) fun v_9i =>
guardD v_9i true (fun k_9k =>
k_9k v_24 .p H_9d n_9e) .p H_9d n_9e fun v_9l x_9m H_9n n_9o =>
guardD v_9i true (fun k_9q =>
binK P .eql 29 (.tmp 105) (.const (.int .i64 0)) v_9l (.int .i64 0) fun v_9v =>
k_9q v_9v .p H_9n n_9o) .p H_9n n_9o fun v_9r x_9s H_9t n_9u =>
bindO (pickV v_9i v_9r (.bool false)) fun v_9w =>
guardD v_9w true (fun k_9y =>
k_9y v_23 .p H_9t n_9u) .p H_9t n_9u fun v_9z x_a0 H_a1 n_a2 =>
guardD v_9w true (fun k_a4 =>
bindO (rowOf P 44 2 [(0, (.int .i64 0)), (1, (.int .i64 3))]) fun q_ab => newK q_ab.1 q_ab.2 H_a1 n_a2 fun H_a9 n_aa =>
k_a4 (.slice (some ⟨n_a2, 0, none⟩) 2 2) (.a n_a2 q_ab.1 q_ab.2) H_a9 n_aa) .p H_a1 n_a2 fun v_a5 x_a6 H_a7 n_a8 =>
guardD v_9w true (fun k_ac =>
callFK P cal 30 [v_9z, v_a5] H_a7 n_a8 fun v_ah H_ai n_aj =>
k_ac v_ah .e H_ai n_aj) .e H_a7 n_a8 fun v_ad x_ae H_af n_ag =>
bindO (pickV v_9w v_ad (.bool false)) fun v_ak =>
some (v_ak, H_af, n_ag)
noncomputable def C16_0 (cal : Cal) (k : Nat) (H : Hp) (n : Nat) : Res := B16_0 cal k  H n
theorem h16_0 (cal : Cal) (k : Nat) (H : Hp) (n : Nat) : bodyE P cal A (k + 1) 16 [] H n = C16_0 cal k  H n := by
  have h : bodyE P cal A (k + 1) 16 [] H n = B16_0 cal k  H n := by
    rw [body_eq (fn := Go.Proofs.Try.f16) (c := code16) (rs := results16) (by kernel_rfl) (by kernel_rfl) (by kernel_rfl) (by kernel_rfl)]
    kernel_rfl
  rw [h, C16_0]
noncomputable def code18 : Code := codeOf 18
noncomputable def results18 : List ResultVar := resOf 18
noncomputable def K18_p (cal : Cal) (k : Nat) : KR := (cutK (A 18).c (codeE P cal (codeF P cal k) none 18 (cR code18) (Lv.b (A 18)) (doneK P results18) X0 (doneK P results18)))
noncomputable def K18_pr (cal : Cal) (k : Nat) : KR := (cutK (Lv.b (A 18)).c (codeE P cal (codeF P cal k) none 18 (cR (cR code18)) (Lv.b (Lv.b (A 18))) (doneK P results18) X0 (doneK P results18)))
noncomputable def K18_prr (cal : Cal) (k : Nat) : KR := (cutK (Lv.b (Lv.b (A 18))).c (codeE P cal (codeF P cal k) none 18 (cR (cR (cR code18))) (Lv.b (Lv.b (Lv.b (A 18)))) (doneK P results18) X0 (doneK P results18)))
noncomputable def K18_prrl (cal : Cal) (k : Nat) : KR := (cutK (Lv.a (Lv.b (Lv.b (A 18)))).c (codeE P cal (codeF P cal k) none 18 (cR (cL (cR (cR code18)))) (Lv.b (Lv.a (Lv.b (Lv.b (A 18))))) (K18_prr cal k) X0 (doneK P results18)))
noncomputable def K18_pxrrlr (cal : Cal) (k : Nat) : XR := (upX 0 (K18_prr cal k) X0)
noncomputable def K18_prrlrl (cal : Cal) (k : Nat) (m1 : Nat) : KR := (fun T H n D => codeF P cal m1 (Lv.a (Lv.b (Lv.a (Lv.b (Lv.b (A 18)))))) none 18 (cL (cR (cL (cR (cR code18))))) (K18_prr cal k) (K18_pxrrlr cal k) (doneK P results18) (cutT (Lv.a (Lv.b (Lv.a (Lv.b (Lv.b (A 18)))))).c T) H n D)
noncomputable def K18_prrlrll (cal : Cal) (k : Nat) (m1 : Nat) : KR := (cutK (Lv.a (Lv.a (Lv.b (Lv.a (Lv.b (Lv.b (A 18))))))).c (codeE P cal (codeF P cal m1) none 18 (cR (cL (cL (cR (cL (cR (cR code18))))))) (Lv.b (Lv.a (Lv.a (Lv.b (Lv.a (Lv.b (Lv.b (A 18)))))))) (K18_prrlrl cal k m1) (K18_pxrrlr cal k) (doneK P results18)))
noncomputable def K18_prrlrlll (cal : Cal) (k : Nat) (m1 : Nat) : KR := (cutK (Lv.a (Lv.a (Lv.a (Lv.b (Lv.a (Lv.b (Lv.b (A 18)))))))).c (codeE P cal (codeF P cal m1) none 18 (cR (cL (cL (cL (cR (cL (cR (cR code18)))))))) (Lv.b (Lv.a (Lv.a (Lv.a (Lv.b (Lv.a (Lv.b (Lv.b (A 18))))))))) (K18_prrlrll cal k m1) (K18_pxrrlr cal k) (doneK P results18)))
noncomputable def K18_prrlrllr (cal : Cal) (k : Nat) (m1 : Nat) : KR := (cutK (Lv.b (Lv.a (Lv.a (Lv.b (Lv.a (Lv.b (Lv.b (A 18)))))))).c (codeE P cal (codeF P cal m1) none 18 (cR (cR (cL (cL (cR (cL (cR (cR code18)))))))) (Lv.b (Lv.b (Lv.a (Lv.a (Lv.b (Lv.a (Lv.b (Lv.b (A 18))))))))) (K18_prrlrl cal k m1) (K18_pxrrlr cal k) (doneK P results18)))
noncomputable def K18_pxrrlrllrl (cal : Cal) (k : Nat) (m1 : Nat) : XR := (upX 1 (K18_prrlrllr cal k m1) (K18_pxrrlr cal k))
noncomputable def K18_prrr (cal : Cal) (k : Nat) : KR := (cutK (Lv.b (Lv.b (Lv.b (A 18)))).c (codeE P cal (codeF P cal k) none 18 (cR (cR (cR (cR code18)))) (Lv.b (Lv.b (Lv.b (Lv.b (A 18))))) (doneK P results18) X0 (doneK P results18)))
noncomputable def K18_prrrl (cal : Cal) (k : Nat) : KR := (cutK (Lv.a (Lv.b (Lv.b (Lv.b (A 18))))).c (codeE P cal (codeF P cal k) none 18 (cR (cL (cR (cR (cR code18))))) (Lv.b (Lv.a (Lv.b (Lv.b (Lv.b (A 18)))))) (K18_prrr cal k) X0 (doneK P results18)))
noncomputable def K18_pxrrrlr (cal : Cal) (k : Nat) : XR := (upX 2 (K18_prrr cal k) X0)
noncomputable def K18_prrrlrl (cal : Cal) (k : Nat) (m1 : Nat) : KR := (fun T H n D => codeF P cal m1 (Lv.a (Lv.b (Lv.a (Lv.b (Lv.b (Lv.b (A 18))))))) none 18 (cL (cR (cL (cR (cR (cR code18)))))) (K18_prrr cal k) (K18_pxrrrlr cal k) (doneK P results18) (cutT (Lv.a (Lv.b (Lv.a (Lv.b (Lv.b (Lv.b (A 18))))))).c T) H n D)
noncomputable def K18_prrrlrll (cal : Cal) (k : Nat) (m1 : Nat) : KR := (cutK (Lv.a (Lv.a (Lv.b (Lv.a (Lv.b (Lv.b (Lv.b (A 18)))))))).c (codeE P cal (codeF P cal m1) none 18 (cR (cL (cL (cR (cL (cR (cR (cR code18)))))))) (Lv.b (Lv.a (Lv.a (Lv.b (Lv.a (Lv.b (Lv.b (Lv.b (A 18))))))))) (K18_prrrlrl cal k m1) (K18_pxrrrlr cal k) (doneK P results18)))
noncomputable def K18_prrrlrlll (cal : Cal) (k : Nat) (m1 : Nat) : KR := (cutK (Lv.a (Lv.a (Lv.a (Lv.b (Lv.a (Lv.b (Lv.b (Lv.b (A 18))))))))).c (codeE P cal (codeF P cal m1) none 18 (cR (cL (cL (cL (cR (cL (cR (cR (cR code18))))))))) (Lv.b (Lv.a (Lv.a (Lv.a (Lv.b (Lv.a (Lv.b (Lv.b (Lv.b (A 18)))))))))) (K18_prrrlrll cal k m1) (K18_pxrrrlr cal k) (doneK P results18)))
noncomputable def K18_prrrlrllr (cal : Cal) (k : Nat) (m1 : Nat) : KR := (cutK (Lv.b (Lv.a (Lv.a (Lv.b (Lv.a (Lv.b (Lv.b (Lv.b (A 18))))))))).c (codeE P cal (codeF P cal m1) none 18 (cR (cR (cL (cL (cR (cL (cR (cR (cR code18))))))))) (Lv.b (Lv.b (Lv.a (Lv.a (Lv.b (Lv.a (Lv.b (Lv.b (Lv.b (A 18)))))))))) (K18_prrrlrl cal k m1) (K18_pxrrrlr cal k) (doneK P results18)))
noncomputable def K18_pxrrrlrllrl (cal : Cal) (k : Nat) (m1 : Nat) : XR := (upX 3 (K18_prrrlrllr cal k m1) (K18_pxrrrlr cal k))
noncomputable def K18_prrrr (cal : Cal) (k : Nat) : KR := (cutK (Lv.b (Lv.b (Lv.b (Lv.b (A 18))))).c (codeE P cal (codeF P cal k) none 18 (cR (cR (cR (cR (cR code18))))) (Lv.b (Lv.b (Lv.b (Lv.b (Lv.b (A 18)))))) (doneK P results18) X0 (doneK P results18)))
noncomputable def K18_prrrrl (cal : Cal) (k : Nat) : KR := (cutK (Lv.a (Lv.b (Lv.b (Lv.b (Lv.b (A 18)))))).c (codeE P cal (codeF P cal k) none 18 (cR (cL (cR (cR (cR (cR code18)))))) (Lv.b (Lv.a (Lv.b (Lv.b (Lv.b (Lv.b (A 18))))))) (K18_prrrr cal k) X0 (doneK P results18)))
noncomputable def K18_pxrrrrlr (cal : Cal) (k : Nat) : XR := (upX 4 (K18_prrrr cal k) X0)
noncomputable def K18_prrrrlrl (cal : Cal) (k : Nat) (m1 : Nat) : KR := (fun T H n D => codeF P cal m1 (Lv.a (Lv.b (Lv.a (Lv.b (Lv.b (Lv.b (Lv.b (A 18)))))))) none 18 (cL (cR (cL (cR (cR (cR (cR code18))))))) (K18_prrrr cal k) (K18_pxrrrrlr cal k) (doneK P results18) (cutT (Lv.a (Lv.b (Lv.a (Lv.b (Lv.b (Lv.b (Lv.b (A 18)))))))).c T) H n D)
noncomputable def K18_prrrrlrll (cal : Cal) (k : Nat) (m1 : Nat) : KR := (cutK (Lv.a (Lv.a (Lv.b (Lv.a (Lv.b (Lv.b (Lv.b (Lv.b (A 18))))))))).c (codeE P cal (codeF P cal m1) none 18 (cR (cL (cL (cR (cL (cR (cR (cR (cR code18))))))))) (Lv.b (Lv.a (Lv.a (Lv.b (Lv.a (Lv.b (Lv.b (Lv.b (Lv.b (A 18)))))))))) (K18_prrrrlrl cal k m1) (K18_pxrrrrlr cal k) (doneK P results18)))
noncomputable def K18_prrrrlrlll (cal : Cal) (k : Nat) (m1 : Nat) : KR := (cutK (Lv.a (Lv.a (Lv.a (Lv.b (Lv.a (Lv.b (Lv.b (Lv.b (Lv.b (A 18)))))))))).c (codeE P cal (codeF P cal m1) none 18 (cR (cL (cL (cL (cR (cL (cR (cR (cR (cR code18)))))))))) (Lv.b (Lv.a (Lv.a (Lv.a (Lv.b (Lv.a (Lv.b (Lv.b (Lv.b (Lv.b (A 18))))))))))) (K18_prrrrlrll cal k m1) (K18_pxrrrrlr cal k) (doneK P results18)))
noncomputable def K18_prrrrlrllr (cal : Cal) (k : Nat) (m1 : Nat) : KR := (cutK (Lv.b (Lv.a (Lv.a (Lv.b (Lv.a (Lv.b (Lv.b (Lv.b (Lv.b (A 18)))))))))).c (codeE P cal (codeF P cal m1) none 18 (cR (cR (cL (cL (cR (cL (cR (cR (cR (cR code18)))))))))) (Lv.b (Lv.b (Lv.a (Lv.a (Lv.b (Lv.a (Lv.b (Lv.b (Lv.b (Lv.b (A 18))))))))))) (K18_prrrrlrl cal k m1) (K18_pxrrrrlr cal k) (doneK P results18)))
noncomputable def K18_pxrrrrlrllrl (cal : Cal) (k : Nat) (m1 : Nat) : XR := (upX 5 (K18_prrrrlrllr cal k m1) (K18_pxrrrrlr cal k))
noncomputable def K18_prrrrlrllrll (cal : Cal) (k : Nat) (m1 : Nat) : KR := (cutK (Lv.a (Lv.a (Lv.b (Lv.a (Lv.a (Lv.b (Lv.a (Lv.b (Lv.b (Lv.b (Lv.b (A 18)))))))))))).c (codeE P cal (codeF P cal m1) none 18 (cR (cL (cL (cR (cL (cL (cR (cL (cR (cR (cR (cR code18)))))))))))) (Lv.b (Lv.a (Lv.a (Lv.b (Lv.a (Lv.a (Lv.b (Lv.a (Lv.b (Lv.b (Lv.b (Lv.b (A 18))))))))))))) (K18_prrrrlrllr cal k m1) (K18_pxrrrrlrllrl cal k m1) (doneK P results18)))
noncomputable def K18_prrrrr (cal : Cal) (k : Nat) : KR := (cutK (Lv.b (Lv.b (Lv.b (Lv.b (Lv.b (A 18)))))).c (codeE P cal (codeF P cal k) none 18 (cR (cR (cR (cR (cR (cR code18)))))) (Lv.b (Lv.b (Lv.b (Lv.b (Lv.b (Lv.b (A 18))))))) (doneK P results18) X0 (doneK P results18)))
noncomputable def E18_3 (cal : Cal) (k m1 : Nat) : KR := codeE P cal (codeF P cal m1) none 18 (cL (cL (cR (cL (cR (cR (cR (cR code18)))))))) (Lv.a (Lv.a (Lv.b (Lv.a (Lv.b (Lv.b (Lv.b (Lv.b (A 18))))))))) (K18_prrrrlrl cal k m1) (K18_pxrrrrlr cal k) (doneK P results18)
noncomputable def R18_3 (cal : Cal) (k m1 : Nat) : V4 := fun u1 u2 u3 u6 H n => codeF P cal m1 (Lv.a (Lv.b (Lv.a (Lv.b (Lv.b (Lv.b (Lv.b (A 18)))))))) none 18 (cL (cR (cL (cR (cR (cR (cR code18))))))) (K18_prrrr cal k) (K18_pxrrrrlr cal k) (doneK P results18) (Tr.set (Tr.set (Tr.set (Tr.set Tr.nil 6 (some u6)) 3 (some u3)) 2 (some u2)) 1 (some u1)) H n []
noncomputable def E18_2 (cal : Cal) (k m1 : Nat) : KR := codeE P cal (codeF P cal m1) none 18 (cL (cL (cR (cL (cR (cR (cR code18))))))) (Lv.a (Lv.a (Lv.b (Lv.a (Lv.b (Lv.b (Lv.b (A 18)))))))) (K18_prrrlrl cal k m1) (K18_pxrrrlr cal k) (doneK P results18)
noncomputable def R18_2 (cal : Cal) (k m1 : Nat) : V4 := fun u1 u2 u3 u5 H n => codeF P cal m1 (Lv.a (Lv.b (Lv.a (Lv.b (Lv.b (Lv.b (A 18))))))) none 18 (cL (cR (cL (cR (cR (cR code18)))))) (K18_prrr cal k) (K18_pxrrrlr cal k) (doneK P results18) (Tr.set (Tr.set (Tr.set (Tr.set Tr.nil 5 (some u5)) 3 (some u3)) 2 (some u2)) 1 (some u1)) H n []
noncomputable def E18_1 (cal : Cal) (k m1 : Nat) : KR := codeE P cal (codeF P cal m1) none 18 (cL (cL (cR (cL (cR (cR code18)))))) (Lv.a (Lv.a (Lv.b (Lv.a (Lv.b (Lv.b (A 18))))))) (K18_prrlrl cal k m1) (K18_pxrrlr cal k) (doneK P results18)
noncomputable def R18_1 (cal : Cal) (k m1 : Nat) : V4 := fun u1 u2 u3 u4 H n => codeF P cal m1 (Lv.a (Lv.b (Lv.a (Lv.b (Lv.b (A 18)))))) none 18 (cL (cR (cL (cR (cR code18))))) (K18_prr cal k) (K18_pxrrlr cal k) (doneK P results18) (Tr.set (Tr.set (Tr.set (Tr.set Tr.nil 4 (some u4)) 3 (some u3)) 2 (some u2)) 1 (some u1)) H n []
noncomputable def B18_3 (cal : Cal) (k m1 : Nat) (b3 : V4) (u1 u2 u3 u6 : Value) (H : Hp) (n : Nat) : Res :=
bindO (fieldAddrV P 26 u1 2) fun v_2i =>
bindO (addrV v_2i) fun a_2k => bindO (loadV P H 24 a_2k) fun v_2j =>
bindO (lenV P 24 v_2j) fun v_2l =>
binK P .lss 3 (.tmp 58) (.tmp 61) u6 v_2l fun v_2m =>
ifK v_2m (
bindO (fieldAddrV P 26 u1 2) fun v_2n =>
bindO (addrV v_2n) fun a_2p => bindO (loadV P H 24 a_2p) fun v_2o =>
bindO (indexAddrV P 24 v_2o u6) fun v_2r =>
bindO (addrV v_2r) fun a_2t => bindO (loadV P H 94 a_2t) fun v_2s =>
allocK P 94 H n fun v_2u H_2v n_2w =>
bindO (storeP P 94 v_2u v_2s H_2v) fun H_2y =>
bindO (fieldAddrV P 35 u3 2) fun v_2z =>
bindO (addrV v_2z) fun a_30 => bindO (loadV P H_2y 33 a_30) fun v_31 =>
bindO (fieldAddrV P 94 v_2u 0) fun v_32 =>
bindO (addrV v_32) fun a_33 => bindO (loadV P H_2y 3 a_33) fun v_34 =>
bindO (fieldAddrV P 94 v_2u 1) fun v_35 =>
bindO (addrV v_35) fun a_36 => bindO (loadV P H_2y 55 a_36) fun v_37 =>
bindO (fieldAddrV P 94 v_2u 2) fun v_38 =>
bindO (addrV v_38) fun a_39 => bindO (loadV P H_2y 55 a_39) fun v_3a =>
effK P [(.l 55 a_39), (.l 3 a_33), (.l 33 a_30)] H_2y n_2w (fun H_3b n_3c k_3d =>
callFK P cal 26 [v_37] H_3b n_3c fun v_3h H_3i n_3j =>
k_3d v_3h H_3i n_3j) fun v_3e H_3f n_3g =>
effK P [(.l 3 a_33), (.l 33 a_30)] H_3f n_3g (fun H_3k n_3l k_3m =>
callFK P cal 26 [v_3a] H_3k n_3l fun v_3q H_3r n_3s =>
k_3m v_3q H_3r n_3s) fun v_3n H_3o n_3p =>
bindO (buildP P 86 [(0, v_34), (1, v_3e), (2, v_3n)]) fun v_3t =>
bindO (rowOf P 33 1 [(0, v_3t)]) fun q_3w => newK q_3w.1 q_3w.2 H_3o n_3p fun H_3u n_3v =>
stK (appendV P (bare H_3u n_3v) 33 33 v_31 (.slice (some ⟨n_3p, 0, none⟩) 1 1)) fun v_3x H_3y n_3z =>
bindO (fieldAddrV P 35 u3 2) fun v_40 =>
bindO (storeP P 33 v_40 v_3x H_3y) fun H_42 =>
binK P .add 3 (.tmp 63) (.const (.int .i64 1)) u6 (.int .i64 1) fun v_44 =>
b3 u1 u2 u3 v_44 H_42 n_3z) (
bindO (addrV u3) fun a_47 => bindO (loadV P H 35 a_47) fun v_46 =>
bindO (storeP P 35 u2 v_46 H) fun H_49 =>
bindO (resV P (Tr.set Tr.nil 2 (some u2)) H_49 results18) fun v_4a => some (oneV v_4a, H_49, n))
noncomputable def C18_3 (cal : Cal) (k m1 : Nat) (b3 : V4) (u1 u2 u3 u6 : Value) (H : Hp) (n : Nat) : Res := B18_3 cal k m1 b3 u1 u2 u3 u6 H n
noncomputable def S18_3 (cal : Cal) (k : Nat) : Nat → V4 := fun m => Nat.rec (motive := fun _ => V4) (C18_3 cal k 0 (fun _ _ _ _ _ _ => none)) (fun m ih => C18_3 cal k (m + 1) ih) m
theorem h18_3 (cal : Cal) (k m1 : Nat) (u1 u2 u3 u6 : Value) (H : Hp) (n : Nat) : labK (E18_3 cal k m1) (Tr.set (Tr.set (Tr.set (Tr.set Tr.nil 6 (some u6)) 3 (some u3)) 2 (some u2)) 1 (some u1)) H n [] = C18_3 cal k m1 (R18_3 cal k m1) u1 u2 u3 u6 H n := by
  refine Eq.trans (b := B18_3 cal k m1 (R18_3 cal k m1) u1 u2 u3 u6 H n) (by kernel_rfl) ?_
  rw [C18_3]
theorem q18_3 (cal : Cal) (k : Nat) : ∀ (m : Nat) (u1 u2 u3 u6 : Value) (H : Hp) (n : Nat), labK (E18_3 cal k m) (Tr.set (Tr.set (Tr.set (Tr.set Tr.nil 6 (some u6)) 3 (some u3)) 2 (some u2)) 1 (some u1)) H n [] = S18_3 cal k m u1 u2 u3 u6 H n
  | 0, u1, u2, u3, u6, H, n => by
    rw [h18_3]
    have e : R18_3 cal k 0 = fun _ _ _ _ _ _ => none := by funext u1 u2 u3 u6 H n; kernel_rfl
    rw [e]; rfl
  | m + 1, u1, u2, u3, u6, H, n => by
    rw [h18_3]
    have e : R18_3 cal k (m + 1) = S18_3 cal k m := by
      funext u1 u2 u3 u6 H n
      have e : R18_3 cal k (m + 1) u1 u2 u3 u6 H n = labK (E18_3 cal k m) (Tr.set (Tr.set (Tr.set (Tr.set Tr.nil 6 (some u6)) 3 (some u3)) 2 (some u2)) 1 (some u1)) H n [] := by kernel_rfl
      rw [e]; exact q18_3 ..
    rw [e]; rfl
noncomputable def B18_2 (cal : Cal) (k m1 : Nat) (j3 : V4) (b2 : V4) (u1 u2 u3 u5 : Value) (H : Hp) (n : Nat) : Res :=
bindO (fieldAddrV P 26 u1 1) fun v_1f =>
bindO (addrV v_1f) fun a_1h => bindO (loadV P H 23 a_1h) fun v_1g =>
bindO (lenV P 23 v_1g) fun v_1i =>
binK P .lss 3 (.tmp 33) (.tmp 36) u5 v_1i fun v_1j =>
ifK v_1j (
bindO (fieldAddrV P 35 u3 1) fun v_1k =>
bindO (addrV v_1k) fun a_1l => bindO (loadV P H 32 a_1l) fun v_1m =>
bindO (fieldAddrV P 26 u1 1) fun v_1n =>
bindO (addrV v_1n) fun a_1o => bindO (loadV P H 23 a_1o) fun v_1p =>
bindO (indexAddrV P 23 v_1p u5) fun v_1r =>
bindO (fieldAddrV P 104 v_1r 0) fun v_1s =>
bindO (addrV v_1s) fun a_1t => bindO (loadV P H 3 a_1t) fun v_1u =>
bindO (fieldAddrV P 26 u1 1) fun v_1v =>
bindO (addrV v_1v) fun a_1w => bindO (loadV P H 23 a_1w) fun v_1x =>
bindO (indexAddrV P 23 v_1x u5) fun v_1z =>
bindO (fieldAddrV P 104 v_1z 1) fun v_20 =>
bindO (addrV v_20) fun a_21 => bindO (loadV P H 3 a_21) fun v_22 =>
bindO (buildP P 88 [(0, v_1u), (1, v_22)]) fun v_23 =>
bindO (rowOf P 32 1 [(0, v_23)]) fun q_26 => newK q_26.1 q_26.2 H n fun H_24 n_25 =>
stK (appendV P (bare H_24 n_25) 32 32 v_1m (.slice (some ⟨n, 0, none⟩) 1 1)) fun v_27 H_28 n_29 =>
bindO (fieldAddrV P 35 u3 1) fun v_2a =>
bindO (storeP P 32 v_2a v_27 H_28) fun H_2c =>
binK P .add 3 (.tmp 38) (.const (.int .i64 1)) u5 (.int .i64 1) fun v_2e =>
b2 u1 u2 u3 v_2e H_2c n_29) (
j3 u1 u2 u3 (.int .i64 0) H n)
noncomputable def C18_2 (cal : Cal) (k m1 : Nat) (b2 : V4) (u1 u2 u3 u5 : Value) (H : Hp) (n : Nat) : Res := B18_2 cal k m1 (S18_3 cal k k) b2 u1 u2 u3 u5 H n
noncomputable def S18_2 (cal : Cal) (k : Nat) : Nat → V4 := fun m => Nat.rec (motive := fun _ => V4) (C18_2 cal k 0 (fun _ _ _ _ _ _ => none)) (fun m ih => C18_2 cal k (m + 1) ih) m
theorem h18_2 (cal : Cal) (k m1 : Nat) (u1 u2 u3 u5 : Value) (H : Hp) (n : Nat) : labK (E18_2 cal k m1) (Tr.set (Tr.set (Tr.set (Tr.set Tr.nil 5 (some u5)) 3 (some u3)) 2 (some u2)) 1 (some u1)) H n [] = C18_2 cal k m1 (R18_2 cal k m1) u1 u2 u3 u5 H n := by
  refine Eq.trans (b := B18_2 cal k m1 (fun u1 u2 u3 u6 H n => labK (E18_3 cal k k) (Tr.set (Tr.set (Tr.set (Tr.set Tr.nil 6 (some u6)) 3 (some u3)) 2 (some u2)) 1 (some u1)) H n []) (R18_2 cal k m1) u1 u2 u3 u5 H n) (by kernel_rfl) ?_
  rw [C18_2]
  have e3 : (fun u1 u2 u3 u6 H n => labK (E18_3 cal k k) (Tr.set (Tr.set (Tr.set (Tr.set Tr.nil 6 (some u6)) 3 (some u3)) 2 (some u2)) 1 (some u1)) H n []) = (S18_3 cal k k) := by funext u1 u2 u3 u6 H n; exact q18_3 ..
  rw [e3]
theorem q18_2 (cal : Cal) (k : Nat) : ∀ (m : Nat) (u1 u2 u3 u5 : Value) (H : Hp) (n : Nat), labK (E18_2 cal k m) (Tr.set (Tr.set (Tr.set (Tr.set Tr.nil 5 (some u5)) 3 (some u3)) 2 (some u2)) 1 (some u1)) H n [] = S18_2 cal k m u1 u2 u3 u5 H n
  | 0, u1, u2, u3, u5, H, n => by
    rw [h18_2]
    have e : R18_2 cal k 0 = fun _ _ _ _ _ _ => none := by funext u1 u2 u3 u5 H n; kernel_rfl
    rw [e]; rfl
  | m + 1, u1, u2, u3, u5, H, n => by
    rw [h18_2]
    have e : R18_2 cal k (m + 1) = S18_2 cal k m := by
      funext u1 u2 u3 u5 H n
      have e : R18_2 cal k (m + 1) u1 u2 u3 u5 H n = labK (E18_2 cal k m) (Tr.set (Tr.set (Tr.set (Tr.set Tr.nil 5 (some u5)) 3 (some u3)) 2 (some u2)) 1 (some u1)) H n [] := by kernel_rfl
      rw [e]; exact q18_2 ..
    rw [e]; rfl
noncomputable def B18_1 (cal : Cal) (k m1 : Nat) (j2 : V4) (b1 : V4) (u1 u2 u3 u4 : Value) (H : Hp) (n : Nat) : Res :=
bindO (fieldAddrV P 26 u1 0) fun v_c =>
bindO (addrV v_c) fun a_e => bindO (loadV P H 22 a_e) fun v_d =>
bindO (lenV P 22 v_d) fun v_f =>
binK P .lss 3 (.tmp 8) (.tmp 11) u4 v_f fun v_g =>
ifK v_g (
bindO (fieldAddrV P 35 u3 0) fun v_h =>
bindO (addrV v_h) fun a_i => bindO (loadV P H 31 a_i) fun v_j =>
bindO (fieldAddrV P 26 u1 0) fun v_k =>
bindO (addrV v_k) fun a_l => bindO (loadV P H 22 a_l) fun v_m =>
bindO (indexAddrV P 22 v_m u4) fun v_o =>
bindO (fieldAddrV P 95 v_o 0) fun v_p =>
bindO (addrV v_p) fun a_q => bindO (loadV P H 3 a_q) fun v_r =>
bindO (fieldAddrV P 26 u1 0) fun v_s =>
bindO (addrV v_s) fun a_t => bindO (loadV P H 22 a_t) fun v_u =>
bindO (indexAddrV P 22 v_u u4) fun v_w =>
bindO (fieldAddrV P 95 v_w 1) fun v_x =>
bindO (addrV v_x) fun a_y => bindO (loadV P H 3 a_y) fun v_z =>
bindO (buildP P 90 [(0, v_r), (1, v_z)]) fun v_10 =>
bindO (rowOf P 31 1 [(0, v_10)]) fun q_13 => newK q_13.1 q_13.2 H n fun H_11 n_12 =>
stK (appendV P (bare H_11 n_12) 31 31 v_j (.slice (some ⟨n, 0, none⟩) 1 1)) fun v_14 H_15 n_16 =>
bindO (fieldAddrV P 35 u3 0) fun v_17 =>
bindO (storeP P 31 v_17 v_14 H_15) fun H_19 =>
binK P .add 3 (.tmp 13) (.const (.int .i64 1)) u4 (.int .i64 1) fun v_1b =>
b1 u1 u2 u3 v_1b H_19 n_16) (
j2 u1 u2 u3 (.int .i64 0) H n)
noncomputable def C18_1 (cal : Cal) (k m1 : Nat) (b1 : V4) (u1 u2 u3 u4 : Value) (H : Hp) (n : Nat) : Res := B18_1 cal k m1 (S18_2 cal k k) b1 u1 u2 u3 u4 H n
noncomputable def S18_1 (cal : Cal) (k : Nat) : Nat → V4 := fun m => Nat.rec (motive := fun _ => V4) (C18_1 cal k 0 (fun _ _ _ _ _ _ => none)) (fun m ih => C18_1 cal k (m + 1) ih) m
theorem h18_1 (cal : Cal) (k m1 : Nat) (u1 u2 u3 u4 : Value) (H : Hp) (n : Nat) : labK (E18_1 cal k m1) (Tr.set (Tr.set (Tr.set (Tr.set Tr.nil 4 (some u4)) 3 (some u3)) 2 (some u2)) 1 (some u1)) H n [] = C18_1 cal k m1 (R18_1 cal k m1) u1 u2 u3 u4 H n := by
  refine Eq.trans (b := B18_1 cal k m1 (fun u1 u2 u3 u5 H n => labK (E18_2 cal k k) (Tr.set (Tr.set (Tr.set (Tr.set Tr.nil 5 (some u5)) 3 (some u3)) 2 (some u2)) 1 (some u1)) H n []) (R18_1 cal k m1) u1 u2 u3 u4 H n) (by kernel_rfl) ?_
  rw [C18_1]
  have e2 : (fun u1 u2 u3 u5 H n => labK (E18_2 cal k k) (Tr.set (Tr.set (Tr.set (Tr.set Tr.nil 5 (some u5)) 3 (some u3)) 2 (some u2)) 1 (some u1)) H n []) = (S18_2 cal k k) := by funext u1 u2 u3 u5 H n; exact q18_2 ..
  rw [e2]
theorem q18_1 (cal : Cal) (k : Nat) : ∀ (m : Nat) (u1 u2 u3 u4 : Value) (H : Hp) (n : Nat), labK (E18_1 cal k m) (Tr.set (Tr.set (Tr.set (Tr.set Tr.nil 4 (some u4)) 3 (some u3)) 2 (some u2)) 1 (some u1)) H n [] = S18_1 cal k m u1 u2 u3 u4 H n
  | 0, u1, u2, u3, u4, H, n => by
    rw [h18_1]
    have e : R18_1 cal k 0 = fun _ _ _ _ _ _ => none := by funext u1 u2 u3 u4 H n; kernel_rfl
    rw [e]; rfl
  | m + 1, u1, u2, u3, u4, H, n => by
    rw [h18_1]
    have e : R18_1 cal k (m + 1) = S18_1 cal k m := by
      funext u1 u2 u3 u4 H n
      have e : R18_1 cal k (m + 1) u1 u2 u3 u4 H n = labK (E18_1 cal k m) (Tr.set (Tr.set (Tr.set (Tr.set Tr.nil 4 (some u4)) 3 (some u3)) 2 (some u2)) 1 (some u1)) H n [] := by kernel_rfl
      rw [e]; exact q18_1 ..
    rw [e]; rfl
noncomputable def B18_0 (cal : Cal) (k : Nat) (j1 : V4) (v0 : Value) (H : Hp) (n : Nat) : Res :=
boxK 26 v0 H n fun v_1 H_2 n_3 =>
allocK P 35 H_2 n_3 fun v_4 H_5 n_6 =>
allocK P 35 H_5 n_6 fun v_7 H_8 n_9 =>
j1 v_1 v_4 v_7 (.int .i64 0) H_8 n_9
noncomputable def C18_0 (cal : Cal) (k : Nat) (v0 : Value) (H : Hp) (n : Nat) : Res := B18_0 cal k (S18_1 cal k k) v0 H n
theorem h18_0 (cal : Cal) (k : Nat) (v0 : Value) (H : Hp) (n : Nat) : bodyE P cal A (k + 1) 18 [v0] H n = C18_0 cal k v0 H n := by
  have h : bodyE P cal A (k + 1) 18 [v0] H n = B18_0 cal k (fun u1 u2 u3 u4 H n => labK (E18_1 cal k k) (Tr.set (Tr.set (Tr.set (Tr.set Tr.nil 4 (some u4)) 3 (some u3)) 2 (some u2)) 1 (some u1)) H n []) v0 H n := by
    rw [body_eq (fn := Go.Proofs.Try.f18) (c := code18) (rs := results18) (by kernel_rfl) (by kernel_rfl) (by kernel_rfl) (by kernel_rfl)]
    kernel_rfl
  rw [h, C18_0]
  have e1 : (fun u1 u2 u3 u4 H n => labK (E18_1 cal k k) (Tr.set (Tr.set (Tr.set (Tr.set Tr.nil 4 (some u4)) 3 (some u3)) 2 (some u2)) 1 (some u1)) H n []) = (S18_1 cal k k) := by funext u1 u2 u3 u4 H n; exact q18_1 ..
  rw [e1]
noncomputable def code20 : Code := codeOf 20
noncomputable def results20 : List ResultVar := resOf 20
noncomputable def K20_p (cal : Cal) (k : Nat) : KR := (cutK (A 20).c (codeE P cal (codeF P cal k) none 20 (cR code20) (Lv.b (A 20)) (doneK P results20) X0 (doneK P results20)))
noncomputable def K20_pr (cal : Cal) (k : Nat) : KR := (cutK (Lv.b (A 20)).c (codeE P cal (codeF P cal k) none 20 (cR (cR code20)) (Lv.b (Lv.b (A 20))) (doneK P results20) X0 (doneK P results20)))
noncomputable def B20_0 (cal : Cal) (k : Nat) (v0 : Value) (H : Hp) (n : Nat) : Res :=
boxK 26 v0 H n fun v_1 H_2 n_3 =>
bindO (addrV v_1) fun a_6 => bindO (loadV P H_2 26 a_6) fun v_5 =>
callFK P cal 63 [v_5] H_2 n_3 fun v_7 H_8 n_9 =>
some (v_7, H_8, n_9)
noncomputable def C20_0 (cal : Cal) (k : Nat) (v0 : Value) (H : Hp) (n : Nat) : Res := B20_0 cal k v0 H n
theorem h20_0 (cal : Cal) (k : Nat) (v0 : Value) (H : Hp) (n : Nat) : bodyE P cal A (k + 1) 20 [v0] H n = C20_0 cal k v0 H n := by
  have h : bodyE P cal A (k + 1) 20 [v0] H n = B20_0 cal k v0 H n := by
    rw [body_eq (fn := Go.Proofs.Try.f20) (c := code20) (rs := results20) (by kernel_rfl) (by kernel_rfl) (by kernel_rfl) (by kernel_rfl)]
    kernel_rfl
  rw [h, C20_0]
noncomputable def code21 : Code := codeOf 21
noncomputable def results21 : List ResultVar := resOf 21
noncomputable def K21_p (cal : Cal) (k : Nat) : KR := (cutK (A 21).c (codeE P cal (codeF P cal k) none 21 (cR code21) (Lv.b (A 21)) (doneK P results21) X0 (doneK P results21)))
noncomputable def K21_pr (cal : Cal) (k : Nat) : KR := (cutK (Lv.b (A 21)).c (codeE P cal (codeF P cal k) none 21 (cR (cR code21)) (Lv.b (Lv.b (A 21))) (doneK P results21) X0 (doneK P results21)))
noncomputable def K21_prl (cal : Cal) (k : Nat) : KR := (cutK (Lv.a (Lv.b (A 21))).c (codeE P cal (codeF P cal k) none 21 (cR (cL (cR code21))) (Lv.b (Lv.a (Lv.b (A 21)))) (K21_pr cal k) X0 (doneK P results21)))
noncomputable def K21_pxrlr (cal : Cal) (k : Nat) : XR := (upX 0 (K21_pr cal k) X0)
noncomputable def K21_prlrl (cal : Cal) (k : Nat) (m1 : Nat) : KR := (fun T H n D => codeF P cal m1 (Lv.a (Lv.b (Lv.a (Lv.b (A 21))))) none 21 (cL (cR (cL (cR code21)))) (K21_pr cal k) (K21_pxrlr cal k) (doneK P results21) (cutT (Lv.a (Lv.b (Lv.a (Lv.b (A 21))))).c T) H n D)
noncomputable def K21_prlrll (cal : Cal) (k : Nat) (m1 : Nat) : KR := (cutK (Lv.a (Lv.a (Lv.b (Lv.a (Lv.b (A 21)))))).c (codeE P cal (codeF P cal m1) none 21 (cR (cL (cL (cR (cL (cR code21)))))) (Lv.b (Lv.a (Lv.a (Lv.b (Lv.a (Lv.b (A 21))))))) (K21_prlrl cal k m1) (K21_pxrlr cal k) (doneK P results21)))
noncomputable def K21_prlrlll (cal : Cal) (k : Nat) (m1 : Nat) : KR := (cutK (Lv.a (Lv.a (Lv.a (Lv.b (Lv.a (Lv.b (A 21))))))).c (codeE P cal (codeF P cal m1) none 21 (cR (cL (cL (cL (cR (cL (cR code21))))))) (Lv.b (Lv.a (Lv.a (Lv.a (Lv.b (Lv.a (Lv.b (A 21)))))))) (K21_prlrll cal k m1) (K21_pxrlr cal k) (doneK P results21)))
noncomputable def K21_prlrllr (cal : Cal) (k : Nat) (m1 : Nat) : KR := (cutK (Lv.b (Lv.a (Lv.a (Lv.b (Lv.a (Lv.b (A 21))))))).c (codeE P cal (codeF P cal m1) none 21 (cR (cR (cL (cL (cR (cL (cR code21))))))) (Lv.b (Lv.b (Lv.a (Lv.a (Lv.b (Lv.a (Lv.b (A 21)))))))) (K21_prlrl cal k m1) (K21_pxrlr cal k) (doneK P results21)))
noncomputable def K21_pxrlrllrl (cal : Cal) (k : Nat) (m1 : Nat) : XR := (upX 1 (K21_prlrllr cal k m1) (K21_pxrlr cal k))
noncomputable def K21_prlrllrll (cal : Cal) (k : Nat) (m1 : Nat) : KR := (cutK (Lv.a (Lv.a (Lv.b (Lv.a (Lv.a (Lv.b (Lv.a (Lv.b (A 21))))))))).c (codeE P cal (codeF P cal m1) none 21 (cR (cL (cL (cR (cL (cL (cR (cL (cR code21))))))))) (Lv.b (Lv.a (Lv.a (Lv.b (Lv.a (Lv.a (Lv.b (Lv.a (Lv.b (A 21)))))))))) (K21_prlrllr cal k m1) (K21_pxrlrllrl cal k m1) (doneK P results21)))
noncomputable def K21_prlrllrllrl (cal : Cal) (k : Nat) (m1 : Nat) : KR := (cutK (Lv.a (Lv.b (Lv.a (Lv.a (Lv.b (Lv.a (Lv.a (Lv.b (Lv.a (Lv.b (A 21))))))))))).c (codeE P cal (codeF P cal m1) none 21 (cR (cL (cR (cL (cL (cR (cL (cL (cR (cL (cR code21))))))))))) (Lv.b (Lv.a (Lv.b (Lv.a (Lv.a (Lv.b (Lv.a (Lv.a (Lv.b (Lv.a (Lv.b (A 21)))))))))))) (K21_prlrllr cal k m1) (K21_pxrlrllrl cal k m1) (doneK P results21)))
noncomputable def K21_prr (cal : Cal) (k : Nat) : KR := (cutK (Lv.b (Lv.b (A 21))).c (codeE P cal (codeF P cal k) none 21 (cR (cR (cR code21))) (Lv.b (Lv.b (Lv.b (A 21)))) (doneK P results21) X0 (doneK P results21)))
noncomputable def E21_1 (cal : Cal) (k m1 : Nat) : KR := codeE P cal (codeF P cal m1) none 21 (cL (cL (cR (cL (cR code21))))) (Lv.a (Lv.a (Lv.b (Lv.a (Lv.b (A 21)))))) (K21_prlrl cal k m1) (K21_pxrlr cal k) (doneK P results21)
noncomputable def R21_1 (cal : Cal) (k m1 : Nat) : V4 := fun u1 u2 u3 u7 H n => codeF P cal m1 (Lv.a (Lv.b (Lv.a (Lv.b (A 21))))) none 21 (cL (cR (cL (cR code21)))) (K21_pr cal k) (K21_pxrlr cal k) (doneK P results21) (Tr.set (Tr.set (Tr.set (Tr.set Tr.nil 7 (some u7)) 3 (some u3)) 2 (some u2)) 1 (some u1)) H n []
noncomputable def B21_1 (cal : Cal) (k m1 : Nat) (b1 : V4) (u1 u2 u3 u7 : Value) (H : Hp) (n : Nat) : Res :=
bindO (fieldAddrV P 26 u3 2) fun v_g =>
bindO (addrV v_g) fun a_i => bindO (loadV P H 24 a_i) fun v_h =>
bindO (indexAddrV P 24 v_h u1) fun v_k =>
bindO (fieldAddrV P 94 v_k 1) fun v_l =>
bindO (fieldAddrV P 55 v_l 1) fun v_m =>
bindO (addrV v_m) fun a_o => bindO (loadV P H 3 a_o) fun v_n =>
binK P .leq 3 (.tmp 15) (.tmp 22) u7 v_n fun v_p =>
ifK v_p (
bindO (addrV u3) fun a_r => bindO (loadV P H 26 a_r) fun v_q =>
callFK P cal 64 [v_q, u1, u2, u2, u7] H n fun v_w H_x n_y =>
ifK v_w (
some ((.bool true), H_x, n_y)) (
binK P .add 3 (.tmp 24) (.const (.int .i64 1)) u7 (.int .i64 1) fun v_11 =>
b1 u1 u2 u3 v_11 H_x n_y)) (
some ((.bool false), H, n))
noncomputable def C21_1 (cal : Cal) (k m1 : Nat) (b1 : V4) (u1 u2 u3 u7 : Value) (H : Hp) (n : Nat) : Res := B21_1 cal k m1 b1 u1 u2 u3 u7 H n
noncomputable def S21_1 (cal : Cal) (k : Nat) : Nat → V4 := fun m => Nat.rec (motive := fun _ => V4) (C21_1 cal k 0 (fun _ _ _ _ _ _ => none)) (fun m ih => C21_1 cal k (m + 1) ih) m
theorem h21_1 (cal : Cal) (k m1 : Nat) (u1 u2 u3 u7 : Value) (H : Hp) (n : Nat) : labK (E21_1 cal k m1) (Tr.set (Tr.set (Tr.set (Tr.set Tr.nil 7 (some u7)) 3 (some u3)) 2 (some u2)) 1 (some u1)) H n [] = C21_1 cal k m1 (R21_1 cal k m1) u1 u2 u3 u7 H n := by
  refine Eq.trans (b := B21_1 cal k m1 (R21_1 cal k m1) u1 u2 u3 u7 H n) (by kernel_rfl) ?_
  rw [C21_1]
theorem q21_1 (cal : Cal) (k : Nat) : ∀ (m : Nat) (u1 u2 u3 u7 : Value) (H : Hp) (n : Nat), labK (E21_1 cal k m) (Tr.set (Tr.set (Tr.set (Tr.set Tr.nil 7 (some u7)) 3 (some u3)) 2 (some u2)) 1 (some u1)) H n [] = S21_1 cal k m u1 u2 u3 u7 H n
  | 0, u1, u2, u3, u7, H, n => by
    rw [h21_1]
    have e : R21_1 cal k 0 = fun _ _ _ _ _ _ => none := by funext u1 u2 u3 u7 H n; kernel_rfl
    rw [e]; rfl
  | m + 1, u1, u2, u3, u7, H, n => by
    rw [h21_1]
    have e : R21_1 cal k (m + 1) = S21_1 cal k m := by
      funext u1 u2 u3 u7 H n
      have e : R21_1 cal k (m + 1) u1 u2 u3 u7 H n = labK (E21_1 cal k m) (Tr.set (Tr.set (Tr.set (Tr.set Tr.nil 7 (some u7)) 3 (some u3)) 2 (some u2)) 1 (some u1)) H n [] := by kernel_rfl
      rw [e]; exact q21_1 ..
    rw [e]; rfl
noncomputable def B21_0 (cal : Cal) (k : Nat) (j1 : V4) (v0 v1 v2 : Value) (H : Hp) (n : Nat) : Res :=
boxK 26 v0 H n fun v_1 H_2 n_3 =>
bindO (fieldAddrV P 26 v_1 2) fun v_5 =>
bindO (addrV v_5) fun a_7 => bindO (loadV P H_2 24 a_7) fun v_6 =>
bindO (indexAddrV P 24 v_6 v1) fun v_9 =>
bindO (fieldAddrV P 94 v_9 1) fun v_a =>
bindO (fieldAddrV P 55 v_a 0) fun v_b =>
bindO (addrV v_b) fun a_d => bindO (loadV P H_2 3 a_d) fun v_c =>
j1 v1 v2 v_1 v_c H_2 n_3
noncomputable def C21_0 (cal : Cal) (k : Nat) (v0 v1 v2 : Value) (H : Hp) (n : Nat) : Res := B21_0 cal k (S21_1 cal k k) v0 v1 v2 H n
theorem h21_0 (cal : Cal) (k : Nat) (v0 v1 v2 : Value) (H : Hp) (n : Nat) : bodyE P cal A (k + 1) 21 [v0, v1, v2] H n = C21_0 cal k v0 v1 v2 H n := by
  have h : bodyE P cal A (k + 1) 21 [v0, v1, v2] H n = B21_0 cal k (fun u1 u2 u3 u7 H n => labK (E21_1 cal k k) (Tr.set (Tr.set (Tr.set (Tr.set Tr.nil 7 (some u7)) 3 (some u3)) 2 (some u2)) 1 (some u1)) H n []) v0 v1 v2 H n := by
    rw [body_eq (fn := Go.Proofs.Try.f21) (c := code21) (rs := results21) (by kernel_rfl) (by kernel_rfl) (by kernel_rfl) (by kernel_rfl)]
    kernel_rfl
  rw [h, C21_0]
  have e1 : (fun u1 u2 u3 u7 H n => labK (E21_1 cal k k) (Tr.set (Tr.set (Tr.set (Tr.set Tr.nil 7 (some u7)) 3 (some u3)) 2 (some u2)) 1 (some u1)) H n []) = (S21_1 cal k k) := by funext u1 u2 u3 u7 H n; exact q21_1 ..
  rw [e1]
noncomputable def code22 : Code := codeOf 22
noncomputable def results22 : List ResultVar := resOf 22
noncomputable def K22_p (cal : Cal) (k : Nat) : KR := (cutK (A 22).c (codeE P cal (codeF P cal k) none 22 (cR code22) (Lv.b (A 22)) (doneK P results22) X0 (doneK P results22)))
noncomputable def K22_pr (cal : Cal) (k : Nat) : KR := (cutK (Lv.b (A 22)).c (codeE P cal (codeF P cal k) none 22 (cR (cR code22)) (Lv.b (Lv.b (A 22))) (doneK P results22) X0 (doneK P results22)))
noncomputable def K22_prr (cal : Cal) (k : Nat) : KR := (cutK (Lv.b (Lv.b (A 22))).c (codeE P cal (codeF P cal k) none 22 (cR (cR (cR code22))) (Lv.b (Lv.b (Lv.b (A 22)))) (doneK P results22) X0 (doneK P results22)))
noncomputable def K22_prrl (cal : Cal) (k : Nat) : KR := (cutK (Lv.a (Lv.b (Lv.b (A 22)))).c (codeE P cal (codeF P cal k) none 22 (cR (cL (cR (cR code22)))) (Lv.b (Lv.a (Lv.b (Lv.b (A 22))))) (K22_prr cal k) X0 (doneK P results22)))
noncomputable def K22_prrlrl (cal : Cal) (k : Nat) : KR := (cutK (Lv.a (Lv.b (Lv.a (Lv.b (Lv.b (A 22)))))).c (codeE P cal (codeF P cal k) none 22 (cR (cL (cR (cL (cR (cR code22)))))) (Lv.b (Lv.a (Lv.b (Lv.a (Lv.b (Lv.b (A 22))))))) (K22_prr cal k) X0 (doneK P results22)))
noncomputable def K22_prrr (cal : Cal) (k : Nat) : KR := (cutK (Lv.b (Lv.b (Lv.b (A 22)))).c (codeE P cal (codeF P cal k) none 22 (cR (cR (cR (cR code22)))) (Lv.b (Lv.b (Lv.b (Lv.b (A 22))))) (doneK P results22) X0 (doneK P results22)))
noncomputable def K22_prrrr (cal : Cal) (k : Nat) : KR := (cutK (Lv.b (Lv.b (Lv.b (Lv.b (A 22))))).c (codeE P cal (codeF P cal k) none 22 (cR (cR (cR (cR (cR code22))))) (Lv.b (Lv.b (Lv.b (Lv.b (Lv.b (A 22)))))) (doneK P results22) X0 (doneK P results22)))
noncomputable def B22_0 (cal : Cal) (k : Nat) (v0 v1 : Value) (H : Hp) (n : Nat) : Res :=
boxK 35 v0 H n fun v_1 H_2 n_3 =>
bindO (addrV v_1) fun a_7 => bindO (loadV P H_2 35 a_7) fun v_6 =>
callFK P cal 65 [v_6, v1] H_2 n_3 fun v_9 H_a n_b =>
bindO (tupV v_9 0) fun v_d =>
bindO (tupV v_9 1) fun v_e =>
bindO (tupV v_9 2) fun v_f =>
allocK P 121 H_a n_b fun v_g H_h n_i =>
bindO (storeP P 121 v_g v_e H_h) fun H_l =>
binK P .neq 29 (.tmp 17) (.const (.int .i64 0)) v_f (.int .i64 0) fun v_o =>
ifK v_o (
some ((Value.tuple ⟨[(.slice none 0 0), v_f]⟩), H_l, n_i)) (
bindO (addrV v_g) fun a_u => bindO (loadV P H_l 121 a_u) fun v_t =>
callFK P cal 66 [v_d, v_t] H_l n_i fun v_v H_w n_x =>
allocK P 111 H_w n_x fun v_y H_z n_10 =>
bindO (storeP P 111 v_y v_v H_z) fun H_12 =>
bindO (nilV v_d) fun v_14 =>
bindO (fieldAddrV P 117 v_14 0) fun v_15 =>
bindO (fieldAddrV P 35 v_15 0) fun v_16 =>
bindO (addrV v_16) fun a_18 => bindO (loadV P H_12 31 a_18) fun v_17 =>
bindO (lenV P 31 v_17) fun v_19 =>
bindO (sliceV P 111 v_y none (some v_19)) fun v_1a =>
callFK P cal 67 [v_1a] H_12 n_10 fun v_1b H_1c n_1d =>
some ((Value.tuple ⟨[v_1b, (.int .i64 0)]⟩), H_1c, n_1d))
noncomputable def C22_0 (cal : Cal) (k : Nat) (v0 v1 : Value) (H : Hp) (n : Nat) : Res := B22_0 cal k v0 v1 H n
theorem h22_0 (cal : Cal) (k : Nat) (v0 v1 : Value) (H : Hp) (n : Nat) : bodyE P cal A (k + 1) 22 [v0, v1] H n = C22_0 cal k v0 v1 H n := by
  have h : bodyE P cal A (k + 1) 22 [v0, v1] H n = B22_0 cal k v0 v1 H n := by
    rw [body_eq (fn := Go.Proofs.Try.f22) (c := code22) (rs := results22) (by kernel_rfl) (by kernel_rfl) (by kernel_rfl) (by kernel_rfl)]
    kernel_rfl
  rw [h, C22_0]
noncomputable def code23 : Code := codeOf 23
noncomputable def results23 : List ResultVar := resOf 23
noncomputable def K23_p (cal : Cal) (k : Nat) : KR := (cutK (A 23).c (codeE P cal (codeF P cal k) none 23 (cR code23) (Lv.b (A 23)) (doneK P results23) X0 (doneK P results23)))
noncomputable def K23_pr (cal : Cal) (k : Nat) : KR := (cutK (Lv.b (A 23)).c (codeE P cal (codeF P cal k) none 23 (cR (cR code23)) (Lv.b (Lv.b (A 23))) (doneK P results23) X0 (doneK P results23)))
noncomputable def B23_0 (cal : Cal) (k : Nat) (v0 : Value) (H : Hp) (n : Nat) : Res :=
rowK P 44 0 [] H n fun v_2 H_3 n_4 =>
stK (appendV P (bare H_3 n_4) 44 44 v_2 v0) fun v_6 H_7 n_8 =>
some (v_6, H_7, n_8)
noncomputable def C23_0 (cal : Cal) (k : Nat) (v0 : Value) (H : Hp) (n : Nat) : Res := B23_0 cal k v0 H n
theorem h23_0 (cal : Cal) (k : Nat) (v0 : Value) (H : Hp) (n : Nat) : bodyE P cal A (k + 1) 23 [v0] H n = C23_0 cal k v0 H n := by
  have h : bodyE P cal A (k + 1) 23 [v0] H n = B23_0 cal k v0 H n := by
    rw [body_eq (fn := Go.Proofs.Try.f23) (c := code23) (rs := results23) (by kernel_rfl) (by kernel_rfl) (by kernel_rfl) (by kernel_rfl)]
    kernel_rfl
  rw [h, C23_0]
noncomputable def code24 : Code := codeOf 24
noncomputable def results24 : List ResultVar := resOf 24
noncomputable def K24_p (cal : Cal) (k : Nat) : KR := (cutK (A 24).c (codeE P cal (codeF P cal k) none 24 (cR code24) (Lv.b (A 24)) (doneK P results24) X0 (doneK P results24)))
noncomputable def K24_pr (cal : Cal) (k : Nat) : KR := (cutK (Lv.b (A 24)).c (codeE P cal (codeF P cal k) none 24 (cR (cR code24)) (Lv.b (Lv.b (A 24))) (doneK P results24) X0 (doneK P results24)))
noncomputable def K24_prr (cal : Cal) (k : Nat) : KR := (cutK (Lv.b (Lv.b (A 24))).c (codeE P cal (codeF P cal k) none 24 (cR (cR (cR code24))) (Lv.b (Lv.b (Lv.b (A 24)))) (doneK P results24) X0 (doneK P results24)))
noncomputable def K24_prrl (cal : Cal) (k : Nat) : KR := (cutK (Lv.a (Lv.b (Lv.b (A 24)))).c (codeE P cal (codeF P cal k) none 24 (cR (cL (cR (cR code24)))) (Lv.b (Lv.a (Lv.b (Lv.b (A 24))))) (K24_prr cal k) X0 (doneK P results24)))
noncomputable def K24_prrlrl (cal : Cal) (k : Nat) : KR := (cutK (Lv.a (Lv.b (Lv.a (Lv.b (Lv.b (A 24)))))).c (codeE P cal (codeF P cal k) none 24 (cR (cL (cR (cL (cR (cR code24)))))) (Lv.b (Lv.a (Lv.b (Lv.a (Lv.b (Lv.b (A 24))))))) (K24_prr cal k) X0 (doneK P results24)))
noncomputable def K24_prrr (cal : Cal) (k : Nat) : KR := (cutK (Lv.b (Lv.b (Lv.b (A 24)))).c (codeE P cal (codeF P cal k) none 24 (cR (cR (cR (cR code24)))) (Lv.b (Lv.b (Lv.b (Lv.b (A 24))))) (doneK P results24) X0 (doneK P results24)))
noncomputable def K24_prrrr (cal : Cal) (k : Nat) : KR := (cutK (Lv.b (Lv.b (Lv.b (Lv.b (A 24))))).c (codeE P cal (codeF P cal k) none 24 (cR (cR (cR (cR (cR code24))))) (Lv.b (Lv.b (Lv.b (Lv.b (Lv.b (A 24)))))) (doneK P results24) X0 (doneK P results24)))
noncomputable def K24_prrrrl (cal : Cal) (k : Nat) : KR := (cutK (Lv.a (Lv.b (Lv.b (Lv.b (Lv.b (A 24)))))).c (codeE P cal (codeF P cal k) none 24 (cR (cL (cR (cR (cR (cR code24)))))) (Lv.b (Lv.a (Lv.b (Lv.b (Lv.b (Lv.b (A 24))))))) (K24_prrrr cal k) X0 (doneK P results24)))
noncomputable def K24_pxrrrrlr (cal : Cal) (k : Nat) : XR := (upX 0 (K24_prrrr cal k) X0)
noncomputable def K24_prrrrlrl (cal : Cal) (k : Nat) (m1 : Nat) : KR := (fun T H n D => codeF P cal m1 (Lv.a (Lv.b (Lv.a (Lv.b (Lv.b (Lv.b (Lv.b (A 24)))))))) none 24 (cL (cR (cL (cR (cR (cR (cR code24))))))) (K24_prrrr cal k) (K24_pxrrrrlr cal k) (doneK P results24) (cutT (Lv.a (Lv.b (Lv.a (Lv.b (Lv.b (Lv.b (Lv.b (A 24)))))))).c T) H n D)
noncomputable def K24_prrrrlrll (cal : Cal) (k : Nat) (m1 : Nat) : KR := (cutK (Lv.a (Lv.a (Lv.b (Lv.a (Lv.b (Lv.b (Lv.b (Lv.b (A 24))))))))).c (codeE P cal (codeF P cal m1) none 24 (cR (cL (cL (cR (cL (cR (cR (cR (cR code24))))))))) (Lv.b (Lv.a (Lv.a (Lv.b (Lv.a (Lv.b (Lv.b (Lv.b (Lv.b (A 24)))))))))) (K24_prrrrlrl cal k m1) (K24_pxrrrrlr cal k) (doneK P results24)))
noncomputable def K24_prrrrlrllr (cal : Cal) (k : Nat) (m1 : Nat) : KR := (cutK (Lv.b (Lv.a (Lv.a (Lv.b (Lv.a (Lv.b (Lv.b (Lv.b (Lv.b (A 24)))))))))).c (codeE P cal (codeF P cal m1) none 24 (cR (cR (cL (cL (cR (cL (cR (cR (cR (cR code24)))))))))) (Lv.b (Lv.b (Lv.a (Lv.a (Lv.b (Lv.a (Lv.b (Lv.b (Lv.b (Lv.b (A 24))))))))))) (K24_prrrrlrl cal k m1) (K24_pxrrrrlr cal k) (doneK P results24)))
noncomputable def K24_prrrrlrllrr (cal : Cal) (k : Nat) (m1 : Nat) : KR := (cutK (Lv.b (Lv.b (Lv.a (Lv.a (Lv.b (Lv.a (Lv.b (Lv.b (Lv.b (Lv.b (A 24))))))))))).c (codeE P cal (codeF P cal m1) none 24 (cR (cR (cR (cL (cL (cR (cL (cR (cR (cR (cR code24))))))))))) (Lv.b (Lv.b (Lv.b (Lv.a (Lv.a (Lv.b (Lv.a (Lv.b (Lv.b (Lv.b (Lv.b (A 24)))))))))))) (K24_prrrrlrl cal k m1) (K24_pxrrrrlr cal k) (doneK P results24)))
noncomputable def K24_pxrrrrlrllrrl (cal : Cal) (k : Nat) (m1 : Nat) : XR := (upX 1 (K24_prrrrlrllrr cal k m1) (K24_pxrrrrlr cal k))
noncomputable def K24_prrrrlrllrrll (cal : Cal) (k : Nat) (m1 : Nat) : KR := (cutK (Lv.a (Lv.a (Lv.b (Lv.b (Lv.a (Lv.a (Lv.b (Lv.a (Lv.b (Lv.b (Lv.b (Lv.b (A 24))))))))))))).c (codeE P cal (codeF P cal m1) none 24 (cR (cL (cL (cR (cR (cL (cL (cR (cL (cR (cR (cR (cR code24))))))))))))) (Lv.b (Lv.a (Lv.a (Lv.b (Lv.b (Lv.a (Lv.a (Lv.b (Lv.a (Lv.b (Lv.b (Lv.b (Lv.b (A 24)))))))))))))) (K24_prrrrlrllrr cal k m1) (K24_pxrrrrlrllrrl cal k m1) (doneK P results24)))
noncomputable def K24_prrrrlrllrrllrr (cal : Cal) (k : Nat) (m1 : Nat) : KR := (cutK (Lv.b (Lv.b (Lv.a (Lv.a (Lv.b (Lv.b (Lv.a (Lv.a (Lv.b (Lv.a (Lv.b (Lv.b (Lv.b (Lv.b (A 24))))))))))))))).c (codeE P cal (codeF P cal m1) none 24 (cR (cR (cR (cL (cL (cR (cR (cL (cL (cR (cL (cR (cR (cR (cR code24))))))))))))))) (Lv.b (Lv.b (Lv.b (Lv.a (Lv.a (Lv.b (Lv.b (Lv.a (Lv.a (Lv.b (Lv.a (Lv.b (Lv.b (Lv.b (Lv.b (A 24)))))))))))))))) (K24_prrrrlrllrr cal k m1) (K24_pxrrrrlrllrrl cal k m1) (doneK P results24)))
noncomputable def K24_prrrrlrllrrllr (cal : Cal) (k : Nat) (m1 : Nat) : KR := (cutK (Lv.b (Lv.a (Lv.a (Lv.b (Lv.b (Lv.a (Lv.a (Lv.b (Lv.a (Lv.b (Lv.b (Lv.b (Lv.b (A 24)))))))))))))).c (codeE P cal (codeF P cal m1) none 24 (cR (cR (cL (cL (cR (cR (cL (cL (cR (cL (cR (cR (cR (cR code24)))))))))))))) (Lv.b (Lv.b (Lv.a (Lv.a (Lv.b (Lv.b (Lv.a (Lv.a (Lv.b (Lv.a (Lv.b (Lv.b (Lv.b (Lv.b (A 24))))))))))))))) (K24_prrrrlrllrr cal k m1) (K24_pxrrrrlrllrrl cal k m1) (doneK P results24)))
noncomputable def K24_prrrrlrllrrllrl (cal : Cal) (k : Nat) (m1 : Nat) : KR := (cutK (Lv.a (Lv.b (Lv.a (Lv.a (Lv.b (Lv.b (Lv.a (Lv.a (Lv.b (Lv.a (Lv.b (Lv.b (Lv.b (Lv.b (A 24))))))))))))))).c (codeE P cal (codeF P cal m1) none 24 (cR (cL (cR (cL (cL (cR (cR (cL (cL (cR (cL (cR (cR (cR (cR code24))))))))))))))) (Lv.b (Lv.a (Lv.b (Lv.a (Lv.a (Lv.b (Lv.b (Lv.a (Lv.a (Lv.b (Lv.a (Lv.b (Lv.b (Lv.b (Lv.b (A 24)))))))))))))))) (K24_prrrrlrllrrllr cal k m1) (K24_pxrrrrlrllrrl cal k m1) (doneK P results24)))
noncomputable def K24_prrrrr (cal : Cal) (k : Nat) : KR := (cutK (Lv.b (Lv.b (Lv.b (Lv.b (Lv.b (A 24)))))).c (codeE P cal (codeF P cal k) none 24 (cR (cR (cR (cR (cR (cR code24)))))) (Lv.b (Lv.b (Lv.b (Lv.b (Lv.b (Lv.b (A 24))))))) (doneK P results24) X0 (doneK P results24)))
noncomputable def E24_2 (cal : Cal) (k m1 : Nat) : KR := codeE P cal (codeF P cal m1) none 24 (cR (cR (cR (cL (cL (cR (cL (cR (cR (cR (cR code24))))))))))) (Lv.b (Lv.b (Lv.b (Lv.a (Lv.a (Lv.b (Lv.a (Lv.b (Lv.b (Lv.b (Lv.b (A 24)))))))))))) (K24_prrrrlrl cal k m1) (K24_pxrrrrlr cal k) (doneK P results24)
noncomputable def E24_3 (cal : Cal) (k m1 : Nat) : KR := codeE P cal (codeF P cal m1) none 24 (cR (cR (cL (cL (cR (cR (cL (cL (cR (cL (cR (cR (cR (cR code24)))))))))))))) (Lv.b (Lv.b (Lv.a (Lv.a (Lv.b (Lv.b (Lv.a (Lv.a (Lv.b (Lv.a (Lv.b (Lv.b (Lv.b (Lv.b (A 24))))))))))))))) (K24_prrrrlrllrr cal k m1) (K24_pxrrrrlrllrrl cal k m1) (doneK P results24)
noncomputable def E24_1 (cal : Cal) (k m1 : Nat) : KR := codeE P cal (codeF P cal m1) none 24 (cL (cL (cR (cL (cR (cR (cR (cR code24)))))))) (Lv.a (Lv.a (Lv.b (Lv.a (Lv.b (Lv.b (Lv.b (Lv.b (A 24))))))))) (K24_prrrrlrl cal k m1) (K24_pxrrrrlr cal k) (doneK P results24)
noncomputable def R24_1 (cal : Cal) (k m1 : Nat) : V6 := fun u4 u5 u7 u9 u29 u30 H n => codeF P cal m1 (Lv.a (Lv.b (Lv.a (Lv.b (Lv.b (Lv.b (Lv.b (A 24)))))))) none 24 (cL (cR (cL (cR (cR (cR (cR code24))))))) (K24_prrrr cal k) (K24_pxrrrrlr cal k) (doneK P results24) (Tr.set (Tr.set (Tr.set (Tr.set (Tr.set (Tr.set Tr.nil 30 (some u30)) 29 (some u29)) 9 (some u9)) 7 (some u7)) 5 (some u5)) 4 (some u4)) H n []
noncomputable def B24_2 (cal : Cal) (k m1 : Nat) (b1 : V6) (u4 u5 u7 u9 u29 u30 : Value) (H : Hp) (n : Nat) : Res :=
binK P .add 3 (.tmp 30) (.const (.int .i64 1)) u30 (.int .i64 1) fun v_1e =>
b1 u4 u5 u7 u9 u29 v_1e H n
noncomputable def C24_2 (cal : Cal) (k m1 : Nat) (b1 : V6) (u4 u5 u7 u9 u29 u30 : Value) (H : Hp) (n : Nat) : Res := B24_2 cal k m1 b1 u4 u5 u7 u9 u29 u30 H n
theorem h24_2 (cal : Cal) (k m1 : Nat) (u4 u5 u7 u9 u29 u30 : Value) (H : Hp) (n : Nat) : labK (E24_2 cal k m1) (Tr.set (Tr.set (Tr.set (Tr.set (Tr.set (Tr.set Tr.nil 30 (some u30)) 29 (some u29)) 9 (some u9)) 7 (some u7)) 5 (some u5)) 4 (some u4)) H n [] = C24_2 cal k m1 (R24_1 cal k m1) u4 u5 u7 u9 u29 u30 H n := by
  refine Eq.trans (b := B24_2 cal k m1 (R24_1 cal k m1) u4 u5 u7 u9 u29 u30 H n) (by kernel_rfl) ?_
  rw [C24_2]
noncomputable def B24_3 (cal : Cal) (k m1 : Nat) (j2 : V6) (b1 : V6) (u4 u5 u7 u9 u10 u29 u30 : Value) (H : Hp) (n : Nat) : Res :=
bindO (addrV u9) fun a_1k => bindO (loadV P H 111 a_1k) fun v_1j =>
callFK P cal 69 [u7, v_1j, u10] H n fun v_1m H_1n n_1o =>
ifK v_1m (
rowK P 44 1 [(0, u10)] H_1n n_1o fun v_1r H_1s n_1t =>
stK (appendV P (bare H_1s n_1t) 44 44 u5 v_1r) fun v_1u H_1v n_1w =>
j2 u4 v_1u u7 u9 u29 u30 H_1v n_1w) (
j2 u4 u5 u7 u9 u29 u30 H_1n n_1o)
noncomputable def C24_3 (cal : Cal) (k m1 : Nat) (b1 : V6) (u4 u5 u7 u9 u10 u29 u30 : Value) (H : Hp) (n : Nat) : Res := B24_3 cal k m1 (C24_2 cal k m1 b1) b1 u4 u5 u7 u9 u10 u29 u30 H n
theorem h24_3 (cal : Cal) (k m1 : Nat) (u4 u5 u7 u9 u10 u29 u30 : Value) (H : Hp) (n : Nat) : labK (E24_3 cal k m1) (Tr.set (Tr.set (Tr.set (Tr.set (Tr.set (Tr.set (Tr.set Tr.nil 30 (some u30)) 29 (some u29)) 10 (some u10)) 9 (some u9)) 7 (some u7)) 5 (some u5)) 4 (some u4)) H n [] = C24_3 cal k m1 (R24_1 cal k m1) u4 u5 u7 u9 u10 u29 u30 H n := by
  refine Eq.trans (b := B24_3 cal k m1 (fun u4 u5 u7 u9 u29 u30 H n => labK (E24_2 cal k m1) (Tr.set (Tr.set (Tr.set (Tr.set (Tr.set (Tr.set Tr.nil 30 (some u30)) 29 (some u29)) 9 (some u9)) 7 (some u7)) 5 (some u5)) 4 (some u4)) H n []) (R24_1 cal k m1) u4 u5 u7 u9 u10 u29 u30 H n) (by kernel_rfl) ?_
  rw [C24_3]
  have e2 : (fun u4 u5 u7 u9 u29 u30 H n => labK (E24_2 cal k m1) (Tr.set (Tr.set (Tr.set (Tr.set (Tr.set (Tr.set Tr.nil 30 (some u30)) 29 (some u29)) 9 (some u9)) 7 (some u7)) 5 (some u5)) 4 (some u4)) H n []) = (C24_2 cal k m1 (R24_1 cal k m1)) := by funext u4 u5 u7 u9 u29 u30 H n; exact h24_2 ..
  rw [e2]
noncomputable def B24_1 (cal : Cal) (k m1 : Nat) (j3 : V7) (b1 : V6) (u4 u5 u7 u9 u29 u30 : Value) (H : Hp) (n : Nat) : Res :=
binK P .lss 3 (.tmp 30) (.tmp 29) u30 u29 fun v_1d =>
ifK v_1d (
bindO (addrV u9) fun a_20 => bindO (loadV P H 111 a_20) fun v_1z =>
callFK P cal 68 [u7, v_1z, u30] H n fun v_22 H_23 n_24 =>
ifK v_22 (
rowK P 44 1 [(0, u30)] H_23 n_24 fun v_27 H_28 n_29 =>
stK (appendV P (bare H_28 n_29) 44 44 u4 v_27) fun v_2a H_2b n_2c =>
j3 v_2a u5 u7 u9 u30 u29 u30 H_2b n_2c) (
j3 u4 u5 u7 u9 u30 u29 u30 H_23 n_24)) (
some ((Value.tuple ⟨[u4, u5, (.int .i64 0)]⟩), H, n))
noncomputable def C24_1 (cal : Cal) (k m1 : Nat) (b1 : V6) (u4 u5 u7 u9 u29 u30 : Value) (H : Hp) (n : Nat) : Res := B24_1 cal k m1 (C24_3 cal k m1 b1) b1 u4 u5 u7 u9 u29 u30 H n
noncomputable def S24_1 (cal : Cal) (k : Nat) : Nat → V6 := fun m => Nat.rec (motive := fun _ => V6) (C24_1 cal k 0 (fun _ _ _ _ _ _ _ _ => none)) (fun m ih => C24_1 cal k (m + 1) ih) m
theorem h24_1 (cal : Cal) (k m1 : Nat) (u4 u5 u7 u9 u29 u30 : Value) (H : Hp) (n : Nat) : labK (E24_1 cal k m1) (Tr.set (Tr.set (Tr.set (Tr.set (Tr.set (Tr.set Tr.nil 30 (some u30)) 29 (some u29)) 9 (some u9)) 7 (some u7)) 5 (some u5)) 4 (some u4)) H n [] = C24_1 cal k m1 (R24_1 cal k m1) u4 u5 u7 u9 u29 u30 H n := by
  refine Eq.trans (b := B24_1 cal k m1 (fun u4 u5 u7 u9 u10 u29 u30 H n => labK (E24_3 cal k m1) (Tr.set (Tr.set (Tr.set (Tr.set (Tr.set (Tr.set (Tr.set Tr.nil 30 (some u30)) 29 (some u29)) 10 (some u10)) 9 (some u9)) 7 (some u7)) 5 (some u5)) 4 (some u4)) H n []) (R24_1 cal k m1) u4 u5 u7 u9 u29 u30 H n) (by kernel_rfl) ?_
  rw [C24_1]
  have e3 : (fun u4 u5 u7 u9 u10 u29 u30 H n => labK (E24_3 cal k m1) (Tr.set (Tr.set (Tr.set (Tr.set (Tr.set (Tr.set (Tr.set Tr.nil 30 (some u30)) 29 (some u29)) 10 (some u10)) 9 (some u9)) 7 (some u7)) 5 (some u5)) 4 (some u4)) H n []) = (C24_3 cal k m1 (R24_1 cal k m1)) := by funext u4 u5 u7 u9 u10 u29 u30 H n; exact h24_3 ..
  rw [e3]
theorem q24_1 (cal : Cal) (k : Nat) : ∀ (m : Nat) (u4 u5 u7 u9 u29 u30 : Value) (H : Hp) (n : Nat), labK (E24_1 cal k m) (Tr.set (Tr.set (Tr.set (Tr.set (Tr.set (Tr.set Tr.nil 30 (some u30)) 29 (some u29)) 9 (some u9)) 7 (some u7)) 5 (some u5)) 4 (some u4)) H n [] = S24_1 cal k m u4 u5 u7 u9 u29 u30 H n
  | 0, u4, u5, u7, u9, u29, u30, H, n => by
    rw [h24_1]
    have e : R24_1 cal k 0 = fun _ _ _ _ _ _ _ _ => none := by funext u4 u5 u7 u9 u29 u30 H n; kernel_rfl
    rw [e]; rfl
  | m + 1, u4, u5, u7, u9, u29, u30, H, n => by
    rw [h24_1]
    have e : R24_1 cal k (m + 1) = S24_1 cal k m := by
      funext u4 u5 u7 u9 u29 u30 H n
      have e : R24_1 cal k (m + 1) u4 u5 u7 u9 u29 u30 H n = labK (E24_1 cal k m) (Tr.set (Tr.set (Tr.set (Tr.set (Tr.set (Tr.set Tr.nil 30 (some u30)) 29 (some u29)) 9 (some u9)) 7 (some u7)) 5 (some u5)) 4 (some u4)) H n [] := by kernel_rfl
      rw [e]; exact q24_1 ..
    rw [e]; rfl
noncomputable def B24_0 (cal : Cal) (k : Nat) (j1 : V6) (v0 v1 : Value) (H : Hp) (n : Nat) : Res :=
boxK 35 v0 H n fun v_1 H_2 n_3 =>
bindO (addrV v_1) fun a_8 => bindO (loadV P H_2 35 a_8) fun v_7 =>
callFK P cal 65 [v_7, v1] H_2 n_3 fun v_a H_b n_c =>
bindO (tupV v_a 0) fun v_e =>
bindO (tupV v_a 1) fun v_f =>
bindO (tupV v_a 2) fun v_g =>
allocK P 121 H_b n_c fun v_h H_i n_j =>
bindO (storeP P 121 v_h v_f H_i) fun H_m =>
binK P .neq 29 (.tmp 18) (.const (.int .i64 0)) v_g (.int .i64 0) fun v_p =>
ifK v_p (
some ((Value.tuple ⟨[(.slice none 0 0), (.slice none 0 0), v_g]⟩), H_m, n_j)) (
bindO (addrV v_h) fun a_w => bindO (loadV P H_m 121 a_w) fun v_v =>
callFK P cal 66 [v_e, v_v] H_m n_j fun v_x H_y n_z =>
allocK P 111 H_y n_z fun v_10 H_11 n_12 =>
bindO (storeP P 111 v_10 v_x H_11) fun H_14 =>
bindO (nilV v_e) fun v_16 =>
bindO (fieldAddrV P 117 v_16 0) fun v_17 =>
bindO (fieldAddrV P 35 v_17 0) fun v_18 =>
bindO (addrV v_18) fun a_1a => bindO (loadV P H_14 31 a_1a) fun v_19 =>
bindO (lenV P 31 v_19) fun v_1b =>
j1 (.slice none 0 0) (.slice none 0 0) v_e v_10 v_1b (.int .i64 0) H_14 n_12)
noncomputable def C24_0 (cal : Cal) (k : Nat) (v0 v1 : Value) (H : Hp) (n : Nat) : Res := B24_0 cal k (S24_1 cal k k) v0 v1 H n
theorem h24_0 (cal : Cal) (k : Nat) (v0 v1 : Value) (H : Hp) (n : Nat) : bodyE P cal A (k + 1) 24 [v0, v1] H n = C24_0 cal k v0 v1 H n := by
  have h : bodyE P cal A (k + 1) 24 [v0, v1] H n = B24_0 cal k (fun u4 u5 u7 u9 u29 u30 H n => labK (E24_1 cal k k) (Tr.set (Tr.set (Tr.set (Tr.set (Tr.set (Tr.set Tr.nil 30 (some u30)) 29 (some u29)) 9 (some u9)) 7 (some u7)) 5 (some u5)) 4 (some u4)) H n []) v0 v1 H n := by
    rw [body_eq (fn := Go.Proofs.Try.f24) (c := code24) (rs := results24) (by kernel_rfl) (by kernel_rfl) (by kernel_rfl) (by kernel_rfl)]
    kernel_rfl
  rw [h, C24_0]
  have e1 : (fun u4 u5 u7 u9 u29 u30 H n => labK (E24_1 cal k k) (Tr.set (Tr.set (Tr.set (Tr.set (Tr.set (Tr.set Tr.nil 30 (some u30)) 29 (some u29)) 9 (some u9)) 7 (some u7)) 5 (some u5)) 4 (some u4)) H n []) = (S24_1 cal k k) := by funext u4 u5 u7 u9 u29 u30 H n; exact q24_1 ..
  rw [e1]
end Go.Proofs.Ytgojjellogiglaa.G
