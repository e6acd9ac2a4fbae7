/- The texts of functions, each with the proof that the evaluator says the same. -/
import Derived.Test.YtakjjillnllocaaG1
open Go Go.Ev
set_option maxRecDepth 1000000
set_option linter.unusedVariables false
noncomputable section
namespace Go.Proofs.Ytakjjillnllocaa.G
noncomputable def code3 : Code := codeOf 3
noncomputable def results3 : List ResultVar := resOf 3
noncomputable def K3_p (cal : Cal) (k : Nat) : KC (Value × Hp × Nat) := (cutK (A 3).c (codeE P cal (codeF P cal k) none 3 (cR code3) (Lv.b (A 3)) (doneK P results3) X0 (doneK P results3)))
noncomputable def K3_pr (cal : Cal) (k : Nat) : KC (Value × Hp × Nat) := (cutK (Lv.b (A 3)).c (codeE P cal (codeF P cal k) none 3 (cR (cR code3)) (Lv.b (Lv.b (A 3))) (doneK P results3) X0 (doneK P results3)))
noncomputable def K3_prl (cal : Cal) (k : Nat) : KC (Value × Hp × Nat) := (cutK (Lv.a (Lv.b (A 3))).c (codeE P cal (codeF P cal k) none 3 (cR (cL (cR code3))) (Lv.b (Lv.a (Lv.b (A 3)))) (K3_pr cal k) X0 (doneK P results3)))
noncomputable def K3_prlrl (cal : Cal) (k : Nat) : KC (Value × Hp × Nat) := (cutK (Lv.a (Lv.b (Lv.a (Lv.b (A 3))))).c (codeE P cal (codeF P cal k) none 3 (cR (cL (cR (cL (cR code3))))) (Lv.b (Lv.a (Lv.b (Lv.a (Lv.b (A 3)))))) (K3_pr cal k) X0 (doneK P results3)))
noncomputable def K3_prr (cal : Cal) (k : Nat) : KC (Value × Hp × Nat) := (cutK (Lv.b (Lv.b (A 3))).c (codeE P cal (codeF P cal k) none 3 (cR (cR (cR code3))) (Lv.b (Lv.b (Lv.b (A 3)))) (doneK P results3) X0 (doneK P results3)))
noncomputable def K3_prrr (cal : Cal) (k : Nat) : KC (Value × Hp × Nat) := (cutK (Lv.b (Lv.b (Lv.b (A 3)))).c (codeE P cal (codeF P cal k) none 3 (cR (cR (cR (cR code3)))) (Lv.b (Lv.b (Lv.b (Lv.b (A 3))))) (doneK P results3) X0 (doneK P results3)))
noncomputable def K3_prrrr (cal : Cal) (k : Nat) : KC (Value × Hp × Nat) := (cutK (Lv.b (Lv.b (Lv.b (Lv.b (A 3))))).c (codeE P cal (codeF P cal k) none 3 (cR (cR (cR (cR (cR code3))))) (Lv.b (Lv.b (Lv.b (Lv.b (Lv.b (A 3)))))) (doneK P results3) X0 (doneK P results3)))
noncomputable def K3_prrrrr (cal : Cal) (k : Nat) : KC (Value × Hp × Nat) := (cutK (Lv.b (Lv.b (Lv.b (Lv.b (Lv.b (A 3)))))).c (codeE P cal (codeF P cal k) none 3 (cR (cR (cR (cR (cR (cR code3)))))) (Lv.b (Lv.b (Lv.b (Lv.b (Lv.b (Lv.b (A 3))))))) (doneK P results3) X0 (doneK P results3)))
noncomputable def K3_prrrrrl (cal : Cal) (k : Nat) : KC (Value × Hp × Nat) := (cutK (Lv.a (Lv.b (Lv.b (Lv.b (Lv.b (Lv.b (A 3))))))).c (codeE P cal (codeF P cal k) none 3 (cR (cL (cR (cR (cR (cR (cR code3))))))) (Lv.b (Lv.a (Lv.b (Lv.b (Lv.b (Lv.b (Lv.b (A 3)))))))) (K3_prrrrr cal k) X0 (doneK P results3)))
noncomputable def K3_prrrrrlrl (cal : Cal) (k : Nat) : KC (Value × Hp × Nat) := (cutK (Lv.a (Lv.b (Lv.a (Lv.b (Lv.b (Lv.b (Lv.b (Lv.b (A 3))))))))).c (codeE P cal (codeF P cal k) none 3 (cR (cL (cR (cL (cR (cR (cR (cR (cR code3))))))))) (Lv.b (Lv.a (Lv.b (Lv.a (Lv.b (Lv.b (Lv.b (Lv.b (Lv.b (A 3)))))))))) (K3_prrrrr cal k) X0 (doneK P results3)))
noncomputable def K3_prrrrrr (cal : Cal) (k : Nat) : KC (Value × Hp × Nat) := (cutK (Lv.b (Lv.b (Lv.b (Lv.b (Lv.b (Lv.b (A 3))))))).c (codeE P cal (codeF P cal k) none 3 (cR (cR (cR (cR (cR (cR (cR code3))))))) (Lv.b (Lv.b (Lv.b (Lv.b (Lv.b (Lv.b (Lv.b (A 3)))))))) (doneK P results3) X0 (doneK P results3)))
noncomputable def K3_prrrrrrl (cal : Cal) (k : Nat) : KC (Value × Hp × Nat) := (cutK (Lv.a (Lv.b (Lv.b (Lv.b (Lv.b (Lv.b (Lv.b (A 3)))))))).c (codeE P cal (codeF P cal k) none 3 (cR (cL (cR (cR (cR (cR (cR (cR code3)))))))) (Lv.b (Lv.a (Lv.b (Lv.b (Lv.b (Lv.b (Lv.b (Lv.b (A 3))))))))) (K3_prrrrrr cal k) X0 (doneK P results3)))
noncomputable def K3_prrrrrrlrl (cal : Cal) (k : Nat) : KC (Value × Hp × Nat) := (cutK (Lv.a (Lv.b (Lv.a (Lv.b (Lv.b (Lv.b (Lv.b (Lv.b (Lv.b (A 3)))))))))).c (codeE P cal (codeF P cal k) none 3 (cR (cL (cR (cL (cR (cR (cR (cR (cR (cR code3)))))))))) (Lv.b (Lv.a (Lv.b (Lv.a (Lv.b (Lv.b (Lv.b (Lv.b (Lv.b (Lv.b (A 3))))))))))) (K3_prrrrrr cal k) X0 (doneK P results3)))
noncomputable def K3_prrrrrrr (cal : Cal) (k : Nat) : KC (Value × Hp × Nat) := (cutK (Lv.b (Lv.b (Lv.b (Lv.b (Lv.b (Lv.b (Lv.b (A 3)))))))).c (codeE P cal (codeF P cal k) none 3 (cR (cR (cR (cR (cR (cR (cR (cR code3)))))))) (Lv.b (Lv.b (Lv.b (Lv.b (Lv.b (Lv.b (Lv.b (Lv.b (A 3))))))))) (doneK P results3) X0 (doneK P results3)))
noncomputable def K3_prrrrrrrl (cal : Cal) (k : Nat) : KC (Value × Hp × Nat) := (cutK (Lv.a (Lv.b (Lv.b (Lv.b (Lv.b (Lv.b (Lv.b (Lv.b (A 3))))))))).c (codeE P cal (codeF P cal k) none 3 (cR (cL (cR (cR (cR (cR (cR (cR (cR code3))))))))) (Lv.b (Lv.a (Lv.b (Lv.b (Lv.b (Lv.b (Lv.b (Lv.b (Lv.b (A 3)))))))))) (K3_prrrrrrr cal k) X0 (doneK P results3)))
noncomputable def K3_prrrrrrrlrl (cal : Cal) (k : Nat) : KC (Value × Hp × Nat) := (cutK (Lv.a (Lv.b (Lv.a (Lv.b (Lv.b (Lv.b (Lv.b (Lv.b (Lv.b (Lv.b (A 3))))))))))).c (codeE P cal (codeF P cal k) none 3 (cR (cL (cR (cL (cR (cR (cR (cR (cR (cR (cR code3))))))))))) (Lv.b (Lv.a (Lv.b (Lv.a (Lv.b (Lv.b (Lv.b (Lv.b (Lv.b (Lv.b (Lv.b (A 3)))))))))))) (K3_prrrrrrr cal k) X0 (doneK P results3)))
noncomputable def K3_prrrrrrrr (cal : Cal) (k : Nat) : KC (Value × Hp × Nat) := (cutK (Lv.b (Lv.b (Lv.b (Lv.b (Lv.b (Lv.b (Lv.b (Lv.b (A 3))))))))).c (codeE P cal (codeF P cal k) none 3 (cR (cR (cR (cR (cR (cR (cR (cR (cR code3))))))))) (Lv.b (Lv.b (Lv.b (Lv.b (Lv.b (Lv.b (Lv.b (Lv.b (Lv.b (A 3)))))))))) (doneK P results3) X0 (doneK P results3)))
noncomputable def K3_prrrrrrrrl (cal : Cal) (k : Nat) : KC (Value × Hp × Nat) := (cutK (Lv.a (Lv.b (Lv.b (Lv.b (Lv.b (Lv.b (Lv.b (Lv.b (Lv.b (A 3)))))))))).c (codeE P cal (codeF P cal k) none 3 (cR (cL (cR (cR (cR (cR (cR (cR (cR (cR code3)))))))))) (Lv.b (Lv.a (Lv.b (Lv.b (Lv.b (Lv.b (Lv.b (Lv.b (Lv.b (Lv.b (A 3))))))))))) (K3_prrrrrrrr cal k) X0 (doneK P results3)))
noncomputable def K3_pxrrrrrrrrlr (cal : Cal) (k : Nat) : XC (Value × Hp × Nat) := (upX 0 (K3_prrrrrrrr cal k) X0)
noncomputable def K3_prrrrrrrrlrl (cal : Cal) (k : Nat) (m1 : Nat) : KC (Value × Hp × Nat) := (fun T H n D => codeF P cal m1 (Lv.a (Lv.b (Lv.a (Lv.b (Lv.b (Lv.b (Lv.b (Lv.b (Lv.b (Lv.b (Lv.b (A 3)))))))))))) none 3 (cL (cR (cL (cR (cR (cR (cR (cR (cR (cR (cR code3))))))))))) (K3_prrrrrrrr cal k) (K3_pxrrrrrrrrlr cal k) (doneK P results3) (cutT (Lv.a (Lv.b (Lv.a (Lv.b (Lv.b (Lv.b (Lv.b (Lv.b (Lv.b (Lv.b (Lv.b (A 3)))))))))))).c T) H n D)
noncomputable def K3_prrrrrrrrlrll (cal : Cal) (k : Nat) (m1 : Nat) : KC (Value × Hp × Nat) := (cutK (Lv.a (Lv.a (Lv.b (Lv.a (Lv.b (Lv.b (Lv.b (Lv.b (Lv.b (Lv.b (Lv.b (Lv.b (A 3))))))))))))).c (codeE P cal (codeF P cal m1) none 3 (cR (cL (cL (cR (cL (cR (cR (cR (cR (cR (cR (cR (cR code3))))))))))))) (Lv.b (Lv.a (Lv.a (Lv.b (Lv.a (Lv.b (Lv.b (Lv.b (Lv.b (Lv.b (Lv.b (Lv.b (Lv.b (A 3)))))))))))))) (K3_prrrrrrrrlrl cal k m1) (K3_pxrrrrrrrrlr cal k) (doneK P results3)))
noncomputable def K3_prrrrrrrrlrlll (cal : Cal) (k : Nat) (m1 : Nat) : KC (Value × Hp × Nat) := (cutK (Lv.a (Lv.a (Lv.a (Lv.b (Lv.a (Lv.b (Lv.b (Lv.b (Lv.b (Lv.b (Lv.b (Lv.b (Lv.b (A 3)))))))))))))).c (codeE P cal (codeF P cal m1) none 3 (cR (cL (cL (cL (cR (cL (cR (cR (cR (cR (cR (cR (cR (cR code3)))))))))))))) (Lv.b (Lv.a (Lv.a (Lv.a (Lv.b (Lv.a (Lv.b (Lv.b (Lv.b (Lv.b (Lv.b (Lv.b (Lv.b (Lv.b (A 3))))))))))))))) (K3_prrrrrrrrlrll cal k m1) (K3_pxrrrrrrrrlr cal k) (doneK P results3)))
noncomputable def K3_prrrrrrrrlrllr (cal : Cal) (k : Nat) (m1 : Nat) : KC (Value × Hp × Nat) := (cutK (Lv.b (Lv.a (Lv.a (Lv.b (Lv.a (Lv.b (Lv.b (Lv.b (Lv.b (Lv.b (Lv.b (Lv.b (Lv.b (A 3)))))))))))))).c (codeE P cal (codeF P cal m1) none 3 (cR (cR (cL (cL (cR (cL (cR (cR (cR (cR (cR (cR (cR (cR code3)))))))))))))) (Lv.b (Lv.b (Lv.a (Lv.a (Lv.b (Lv.a (Lv.b (Lv.b (Lv.b (Lv.b (Lv.b (Lv.b (Lv.b (Lv.b (A 3))))))))))))))) (K3_prrrrrrrrlrl cal k m1) (K3_pxrrrrrrrrlr cal k) (doneK P results3)))
noncomputable def K3_pxrrrrrrrrlrllrl (cal : Cal) (k : Nat) (m1 : Nat) : XC (Value × Hp × Nat) := (upX 1 (K3_prrrrrrrrlrllr cal k m1) (K3_pxrrrrrrrrlr cal k))
noncomputable def K3_prrrrrrrrlrllrll (cal : Cal) (k : Nat) (m1 : Nat) : KC (Value × Hp × Nat) := (cutK (Lv.a (Lv.a (Lv.b (Lv.a (Lv.a (Lv.b (Lv.a (Lv.b (Lv.b (Lv.b (Lv.b (Lv.b (Lv.b (Lv.b (Lv.b (A 3)))))))))))))))).c (codeE P cal (codeF P cal m1) none 3 (cR (cL (cL (cR (cL (cL (cR (cL (cR (cR (cR (cR (cR (cR (cR (cR code3)))))))))))))))) (Lv.b (Lv.a (Lv.a (Lv.b (Lv.a (Lv.a (Lv.b (Lv.a (Lv.b (Lv.b (Lv.b (Lv.b (Lv.b (Lv.b (Lv.b (Lv.b (A 3))))))))))))))))) (K3_prrrrrrrrlrllr cal k m1) (K3_pxrrrrrrrrlrllrl cal k m1) (doneK P results3)))
noncomputable def K3_prrrrrrrrlrllrlll (cal : Cal) (k : Nat) (m1 : Nat) : KC (Value × Hp × Nat) := (cutK (Lv.a (Lv.a (Lv.a (Lv.b (Lv.a (Lv.a (Lv.b (Lv.a (Lv.b (Lv.b (Lv.b (Lv.b (Lv.b (Lv.b (Lv.b (Lv.b (A 3))))))))))))))))).c (codeE P cal (codeF P cal m1) none 3 (cR (cL (cL (cL (cR (cL (cL (cR (cL (cR (cR (cR (cR (cR (cR (cR (cR code3))))))))))))))))) (Lv.b (Lv.a (Lv.a (Lv.a (Lv.b (Lv.a (Lv.a (Lv.b (Lv.a (Lv.b (Lv.b (Lv.b (Lv.b (Lv.b (Lv.b (Lv.b (Lv.b (A 3)))))))))))))))))) (K3_prrrrrrrrlrllrll cal k m1) (K3_pxrrrrrrrrlrllrl cal k m1) (doneK P results3)))
noncomputable def K3_prrrrrrrrlrllrlllrl (cal : Cal) (k : Nat) (m1 : Nat) : KC (Value × Hp × Nat) := (cutK (Lv.a (Lv.b (Lv.a (Lv.a (Lv.a (Lv.b (Lv.a (Lv.a (Lv.b (Lv.a (Lv.b (Lv.b (Lv.b (Lv.b (Lv.b (Lv.b (Lv.b (Lv.b (A 3))))))))))))))))))).c (codeE P cal (codeF P cal m1) none 3 (cR (cL (cR (cL (cL (cL (cR (cL (cL (cR (cL (cR (cR (cR (cR (cR (cR (cR (cR code3))))))))))))))))))) (Lv.b (Lv.a (Lv.b (Lv.a (Lv.a (Lv.a (Lv.b (Lv.a (Lv.a (Lv.b (Lv.a (Lv.b (Lv.b (Lv.b (Lv.b (Lv.b (Lv.b (Lv.b (Lv.b (A 3)))))))))))))))))))) (K3_prrrrrrrrlrllrll cal k m1) (K3_pxrrrrrrrrlrllrl cal k m1) (doneK P results3)))
noncomputable def K3_prrrrrrrrlrllrllr (cal : Cal) (k : Nat) (m1 : Nat) : KC (Value × Hp × Nat) := (cutK (Lv.b (Lv.a (Lv.a (Lv.b (Lv.a (Lv.a (Lv.b (Lv.a (Lv.b (Lv.b (Lv.b (Lv.b (Lv.b (Lv.b (Lv.b (Lv.b (A 3))))))))))))))))).c (codeE P cal (codeF P cal m1) none 3 (cR (cR (cL (cL (cR (cL (cL (cR (cL (cR (cR (cR (cR (cR (cR (cR (cR code3))))))))))))))))) (Lv.b (Lv.b (Lv.a (Lv.a (Lv.b (Lv.a (Lv.a (Lv.b (Lv.a (Lv.b (Lv.b (Lv.b (Lv.b (Lv.b (Lv.b (Lv.b (Lv.b (A 3)))))))))))))))))) (K3_prrrrrrrrlrllr cal k m1) (K3_pxrrrrrrrrlrllrl cal k m1) (doneK P results3)))
noncomputable def K3_pxrrrrrrrrlrllrllrr (cal : Cal) (k : Nat) (m1 : Nat) : XC (Value × Hp × Nat) := (upX 2 (K3_prrrrrrrrlrllr cal k m1) (K3_pxrrrrrrrrlrllrl cal k m1))
noncomputable def K3_prrrrrrrrlrllrllrrl (cal : Cal) (k : Nat) (m1 : Nat) (m2 : Nat) : KC (Value × Hp × Nat) := (fun T H n D => codeF P cal m2 (Lv.a (Lv.b (Lv.b (Lv.a (Lv.a (Lv.b (Lv.a (Lv.a (Lv.b (Lv.a (Lv.b (Lv.b (Lv.b (Lv.b (Lv.b (Lv.b (Lv.b (Lv.b (A 3))))))))))))))))))) none 3 (cL (cR (cR (cL (cL (cR (cL (cL (cR (cL (cR (cR (cR (cR (cR (cR (cR (cR code3)))))))))))))))))) (K3_prrrrrrrrlrllr cal k m1) (K3_pxrrrrrrrrlrllrllrr cal k m1) (doneK P results3) (cutT (Lv.a (Lv.b (Lv.b (Lv.a (Lv.a (Lv.b (Lv.a (Lv.a (Lv.b (Lv.a (Lv.b (Lv.b (Lv.b (Lv.b (Lv.b (Lv.b (Lv.b (Lv.b (A 3))))))))))))))))))).c T) H n D)
noncomputable def K3_prrrrrrrrlrllrllrrll (cal : Cal) (k : Nat) (m1 : Nat) (m2 : Nat) : KC (Value × Hp × Nat) := (cutK (Lv.a (Lv.a (Lv.b (Lv.b (Lv.a (Lv.a (Lv.b (Lv.a (Lv.a (Lv.b (Lv.a (Lv.b (Lv.b (Lv.b (Lv.b (Lv.b (Lv.b (Lv.b (Lv.b (A 3)))))))))))))))))))).c (codeE P cal (codeF P cal m2) none 3 (cR (cL (cL (cR (cR (cL (cL (cR (cL (cL (cR (cL (cR (cR (cR (cR (cR (cR (cR (cR code3)))))))))))))))))))) (Lv.b (Lv.a (Lv.a (Lv.b (Lv.b (Lv.a (Lv.a (Lv.b (Lv.a (Lv.a (Lv.b (Lv.a (Lv.b (Lv.b (Lv.b (Lv.b (Lv.b (Lv.b (Lv.b (Lv.b (A 3))))))))))))))))))))) (K3_prrrrrrrrlrllrllrrl cal k m1 m2) (K3_pxrrrrrrrrlrllrllrr cal k m1) (doneK P results3)))
noncomputable def K3_prrrrrrrrlrllrllrrlll (cal : Cal) (k : Nat) (m1 : Nat) (m2 : Nat) : KC (Value × Hp × Nat) := (cutK (Lv.a (Lv.a (Lv.a (Lv.b (Lv.b (Lv.a (Lv.a (Lv.b (Lv.a (Lv.a (Lv.b (Lv.a (Lv.b (Lv.b (Lv.b (Lv.b (Lv.b (Lv.b (Lv.b (Lv.b (A 3))))))))))))))))))))).c (codeE P cal (codeF P cal m2) none 3 (cR (cL (cL (cL (cR (cR (cL (cL (cR (cL (cL (cR (cL (cR (cR (cR (cR (cR (cR (cR (cR code3))))))))))))))))))))) (Lv.b (Lv.a (Lv.a (Lv.a (Lv.b (Lv.b (Lv.a (Lv.a (Lv.b (Lv.a (Lv.a (Lv.b (Lv.a (Lv.b (Lv.b (Lv.b (Lv.b (Lv.b (Lv.b (Lv.b (Lv.b (A 3)))))))))))))))))))))) (K3_prrrrrrrrlrllrllrrll cal k m1 m2) (K3_pxrrrrrrrrlrllrllrr cal k m1) (doneK P results3)))
noncomputable def K3_prrrrrrrrlrllrllrrllr (cal : Cal) (k : Nat) (m1 : Nat) (m2 : Nat) : KC (Value × Hp × Nat) := (cutK (Lv.b (Lv.a (Lv.a (Lv.b (Lv.b (Lv.a (Lv.a (Lv.b (Lv.a (Lv.a (Lv.b (Lv.a (Lv.b (Lv.b (Lv.b (Lv.b (Lv.b (Lv.b (Lv.b (Lv.b (A 3))))))))))))))))))))).c (codeE P cal (codeF P cal m2) none 3 (cR (cR (cL (cL (cR (cR (cL (cL (cR (cL (cL (cR (cL (cR (cR (cR (cR (cR (cR (cR (cR code3))))))))))))))))))))) (Lv.b (Lv.b (Lv.a (Lv.a (Lv.b (Lv.b (Lv.a (Lv.a (Lv.b (Lv.a (Lv.a (Lv.b (Lv.a (Lv.b (Lv.b (Lv.b (Lv.b (Lv.b (Lv.b (Lv.b (Lv.b (A 3)))))))))))))))))))))) (K3_prrrrrrrrlrllrllrrl cal k m1 m2) (K3_pxrrrrrrrrlrllrllrr cal k m1) (doneK P results3)))
noncomputable def K3_pxrrrrrrrrlrllrllrrllrl (cal : Cal) (k : Nat) (m1 : Nat) (m2 : Nat) : XC (Value × Hp × Nat) := (upX 3 (K3_prrrrrrrrlrllrllrrllr cal k m1 m2) (K3_pxrrrrrrrrlrllrllrr cal k m1))
noncomputable def K3_prrrrrrrrlrllrllrrllrll (cal : Cal) (k : Nat) (m1 : Nat) (m2 : Nat) : KC (Value × Hp × Nat) := (cutK (Lv.a (Lv.a (Lv.b (Lv.a (Lv.a (Lv.b (Lv.b (Lv.a (Lv.a (Lv.b (Lv.a (Lv.a (Lv.b (Lv.a (Lv.b (Lv.b (Lv.b (Lv.b (Lv.b (Lv.b (Lv.b (Lv.b (A 3))))))))))))))))))))))).c (codeE P cal (codeF P cal m2) none 3 (cR (cL (cL (cR (cL (cL (cR (cR (cL (cL (cR (cL (cL (cR (cL (cR (cR (cR (cR (cR (cR (cR (cR code3))))))))))))))))))))))) (Lv.b (Lv.a (Lv.a (Lv.b (Lv.a (Lv.a (Lv.b (Lv.b (Lv.a (Lv.a (Lv.b (Lv.a (Lv.a (Lv.b (Lv.a (Lv.b (Lv.b (Lv.b (Lv.b (Lv.b (Lv.b (Lv.b (Lv.b (A 3)))))))))))))))))))))))) (K3_prrrrrrrrlrllrllrrllr cal k m1 m2) (K3_pxrrrrrrrrlrllrllrrllrl cal k m1 m2) (doneK P results3)))
noncomputable def K3_prrrrrrrrlrllrllrrllrllrl (cal : Cal) (k : Nat) (m1 : Nat) (m2 : Nat) : KC (Value × Hp × Nat) := (cutK (Lv.a (Lv.b (Lv.a (Lv.a (Lv.b (Lv.a (Lv.a (Lv.b (Lv.b (Lv.a (Lv.a (Lv.b (Lv.a (Lv.a (Lv.b (Lv.a (Lv.b (Lv.b (Lv.b (Lv.b (Lv.b (Lv.b (Lv.b (Lv.b (A 3))))))))))))))))))))))))).c (codeE P cal (codeF P cal m2) none 3 (cR (cL (cR (cL (cL (cR (cL (cL (cR (cR (cL (cL (cR (cL (cL (cR (cL (cR (cR (cR (cR (cR (cR (cR (cR code3))))))))))))))))))))))))) (Lv.b (Lv.a (Lv.b (Lv.a (Lv.a (Lv.b (Lv.a (Lv.a (Lv.b (Lv.b (Lv.a (Lv.a (Lv.b (Lv.a (Lv.a (Lv.b (Lv.a (Lv.b (Lv.b (Lv.b (Lv.b (Lv.b (Lv.b (Lv.b (Lv.b (A 3)))))))))))))))))))))))))) (K3_prrrrrrrrlrllrllrrllr cal k m1 m2) (K3_pxrrrrrrrrlrllrllrrllrl cal k m1 m2) (doneK P results3)))
noncomputable def K3_prrrrrrrrr (cal : Cal) (k : Nat) : KC (Value × Hp × Nat) := (cutK (Lv.b (Lv.b (Lv.b (Lv.b (Lv.b (Lv.b (Lv.b (Lv.b (Lv.b (A 3)))))))))).c (codeE P cal (codeF P cal k) none 3 (cR (cR (cR (cR (cR (cR (cR (cR (cR (cR code3)))))))))) (Lv.b (Lv.b (Lv.b (Lv.b (Lv.b (Lv.b (Lv.b (Lv.b (Lv.b (Lv.b (A 3))))))))))) (doneK P results3) X0 (doneK P results3)))
noncomputable def E3_2 (cal : Cal) (k m1 m2 : Nat) : KC (Value × Hp × Nat) := codeE P cal (codeF P cal m2) none 3 (cL (cL (cR (cR (cL (cL (cR (cL (cL (cR (cL (cR (cR (cR (cR (cR (cR (cR (cR code3))))))))))))))))))) (Lv.a (Lv.a (Lv.b (Lv.b (Lv.a (Lv.a (Lv.b (Lv.a (Lv.a (Lv.b (Lv.a (Lv.b (Lv.b (Lv.b (Lv.b (Lv.b (Lv.b (Lv.b (Lv.b (A 3)))))))))))))))))))) (K3_prrrrrrrrlrllrllrrl cal k m1 m2) (K3_pxrrrrrrrrlrllrllrr cal k m1) (doneK P results3)
noncomputable def R3_2 (cal : Cal) (k m1 m2 : Nat) : Value → Value → Value → Value → Hp → Nat → Res := fun u1 u4 u7 u8 H n => codeF P cal m2 (Lv.a (Lv.b (Lv.b (Lv.a (Lv.a (Lv.b (Lv.a (Lv.a (Lv.b (Lv.a (Lv.b (Lv.b (Lv.b (Lv.b (Lv.b (Lv.b (Lv.b (Lv.b (A 3))))))))))))))))))) none 3 (cL (cR (cR (cL (cL (cR (cL (cL (cR (cL (cR (cR (cR (cR (cR (cR (cR (cR code3)))))))))))))))))) (K3_prrrrrrrrlrllr cal k m1) (K3_pxrrrrrrrrlrllrllrr cal k m1) (doneK P results3) (Tr.set (Tr.set (Tr.set (Tr.set Tr.nil 8 (some u8)) 7 (some u7)) 4 (some u4)) 1 (some u1)) H n []
noncomputable def E3_1 (cal : Cal) (k m1 : Nat) : KC (Value × Hp × Nat) := codeE P cal (codeF P cal m1) none 3 (cL (cL (cR (cL (cR (cR (cR (cR (cR (cR (cR (cR code3)))))))))))) (Lv.a (Lv.a (Lv.b (Lv.a (Lv.b (Lv.b (Lv.b (Lv.b (Lv.b (Lv.b (Lv.b (Lv.b (A 3))))))))))))) (K3_prrrrrrrrlrl cal k m1) (K3_pxrrrrrrrrlr cal k) (doneK P results3)
noncomputable def R3_1 (cal : Cal) (k m1 : Nat) : Value → Value → Value → Hp → Nat → Res := fun u1 u4 u7 H n => codeF P cal m1 (Lv.a (Lv.b (Lv.a (Lv.b (Lv.b (Lv.b (Lv.b (Lv.b (Lv.b (Lv.b (Lv.b (A 3)))))))))))) none 3 (cL (cR (cL (cR (cR (cR (cR (cR (cR (cR (cR code3))))))))))) (K3_prrrrrrrr cal k) (K3_pxrrrrrrrrlr cal k) (doneK P results3) (Tr.set (Tr.set (Tr.set Tr.nil 7 (some u7)) 4 (some u4)) 1 (some u1)) H n []
noncomputable def B3_2 (cal : Cal) (k m1 m2 : Nat) (b1 : Value → Value → Value → Hp → Nat → Res) (b2 : Value → Value → Value → Value → Hp → Nat → Res) (u1 u4 u7 u8 : Value) (H : Hp) (n : Nat) : Res :=
bindO (indexAddrV P 37 u4 u7) fun v68_136 =>
bindO (addrV v68_136) fun a_138 => bindO (loadV P H 41 a_138) fun v69_137 =>
bindO (lenV P 41 v69_137) fun v70_139 =>
binK P Go.BinOp.lss 3 (Go.Operand.tmp 65) (Go.Operand.tmp 70) u8 v70_139 fun v71_140 =>
ifK v71_140 (
bindO (indexAddrV P 37 u4 u7) fun v76_143 =>
bindO (addrV v76_143) fun a_144 => bindO (loadV P H 41 a_144) fun v_145 =>
bindO (indexAddrV P 41 v_145 u8) fun v79_147 =>
bindO (addrV v79_147) fun a_148 => bindO (loadV P H 4 a_148) fun v_149 =>
bindO (addrV u1) fun a_150 => bindO (loadV P H 26 a_150) fun v_151 =>
effK P [(.l 4 a_148), (.l 41 a_144)] H n (fun H_154 n_155 k_156 =>
callFK P cal 21 [v_151, u8, u7] H_154 n_155 fun v84_160 H_161 n_162 =>
k_156 v84_160 H_161 n_162) fun v_157 H_158 n_159 =>
binK P Go.BinOp.neq 4 (Go.Operand.tmp 80) (Go.Operand.tmp 84) v_149 v_157 fun v85_163 =>
ifK v85_163 (
some ((Go.Value.bool false), H_158, n_159)) (
binK P Go.BinOp.add 3 (Go.Operand.tmp 72) (Go.Operand.const (Go.Value.int Go.IntKind.i64 1)) u8 (Go.Value.int Go.IntKind.i64 1) fun v73_166 =>
b2 u1 u4 u7 v73_166 H_158 n_159)) (
binK P Go.BinOp.add 3 (Go.Operand.tmp 54) (Go.Operand.const (Go.Value.int Go.IntKind.i64 1)) u7 (Go.Value.int Go.IntKind.i64 1) fun v55_169 =>
b1 u1 u4 v55_169 H n)
noncomputable def C3_2 (cal : Cal) (k m1 m2 : Nat) (b1 : Value → Value → Value → Hp → Nat → Res) (b2 : Value → Value → Value → Value → Hp → Nat → Res) (u1 u4 u7 u8 : Value) (H : Hp) (n : Nat) : Res := B3_2 cal k m1 m2 b1 b2 u1 u4 u7 u8 H n
noncomputable def S3_2 (cal : Cal) (k m1 : Nat) (b1 : Value → Value → Value → Hp → Nat → Res) : Nat → Value → Value → Value → Value → Hp → Nat → Res := fun m => Nat.rec (motive := fun _ => Value → Value → Value → Value → Hp → Nat → Res) (C3_2 cal k m1 0 b1 (fun _ _ _ _ _ _ => none)) (fun m ih => C3_2 cal k m1 (m + 1) b1 ih) m
theorem h3_2 (cal : Cal) (k m1 m2 : Nat) (u1 u4 u7 u8 : Value) (H : Hp) (n : Nat) : labK (E3_2 cal k m1 m2) (Tr.set (Tr.set (Tr.set (Tr.set Tr.nil 8 (some u8)) 7 (some u7)) 4 (some u4)) 1 (some u1)) H n [] = C3_2 cal k m1 m2 (R3_1 cal k m1) (R3_2 cal k m1 m2) u1 u4 u7 u8 H n := by
  have h : labK (E3_2 cal k m1 m2) (Tr.set (Tr.set (Tr.set (Tr.set Tr.nil 8 (some u8)) 7 (some u7)) 4 (some u4)) 1 (some u1)) H n [] = B3_2 cal k m1 m2 (R3_1 cal k m1) (R3_2 cal k m1 m2) u1 u4 u7 u8 H n := by kernel_rfl
  rw [h, C3_2]
theorem q3_2 (cal : Cal) (k m1 : Nat) : ∀ (m : Nat) (u1 u4 u7 u8 : Value) (H : Hp) (n : Nat), labK (E3_2 cal k m1 m) (Tr.set (Tr.set (Tr.set (Tr.set Tr.nil 8 (some u8)) 7 (some u7)) 4 (some u4)) 1 (some u1)) H n [] = S3_2 cal k m1 (R3_1 cal k m1) m u1 u4 u7 u8 H n
  | 0, u1, u4, u7, u8, H, n => by
    rw [h3_2]
    have e : R3_2 cal k m1 0 = fun _ _ _ _ _ _ => none := by funext u1 u4 u7 u8 H n; kernel_rfl
    rw [e]; rfl
  | m + 1, u1, u4, u7, u8, H, n => by
    rw [h3_2]
    have e : R3_2 cal k m1 (m + 1) = S3_2 cal k m1 (R3_1 cal k m1) m := by
      funext u1 u4 u7 u8 H n
      have e : R3_2 cal k m1 (m + 1) u1 u4 u7 u8 H n = labK (E3_2 cal k m1 m) (Tr.set (Tr.set (Tr.set (Tr.set Tr.nil 8 (some u8)) 7 (some u7)) 4 (some u4)) 1 (some u1)) H n [] := by kernel_rfl
      rw [e]; exact q3_2 ..
    rw [e]; rfl
noncomputable def B3_1 (cal : Cal) (k m1 : Nat) (j2 : Value → Value → Value → Value → Hp → Nat → Res) (b1 : Value → Value → Value → Hp → Nat → Res) (u1 u4 u7 : Value) (H : Hp) (n : Nat) : Res :=
bindO (lenV P 37 u4) fun v52_118 =>
binK P Go.BinOp.lss 3 (Go.Operand.tmp 50) (Go.Operand.tmp 52) u7 v52_118 fun v53_119 =>
ifK v53_119 (
bindO (indexAddrV P 37 u4 u7) fun v58_122 =>
bindO (addrV v58_122) fun a_123 => bindO (loadV P H 41 a_123) fun v_124 =>
bindO (lenV P 41 v_124) fun v60_125 =>
bindO (fieldAddrV P 26 u1 2) fun v61_126 =>
bindO (addrV v61_126) fun a_127 => bindO (loadV P H 24 a_127) fun v_128 =>
bindO (lenV P 24 v_128) fun v63_129 =>
binK P Go.BinOp.neq 3 (Go.Operand.tmp 60) (Go.Operand.tmp 63) v60_125 v63_129 fun v64_130 =>
ifK v64_130 (
some ((Go.Value.bool false), H, n)) (
j2 u1 u4 u7 (Go.Value.int Go.IntKind.i64 0) H n)) (
callFK P cal 16 [] H n fun v86_171 H_172 n_173 =>
some (v86_171, H_172, n_173))
noncomputable def C3_1 (cal : Cal) (k m1 : Nat) (b1 : Value → Value → Value → Hp → Nat → Res) (u1 u4 u7 : Value) (H : Hp) (n : Nat) : Res := B3_1 cal k m1 (S3_2 cal k m1 b1 m1) b1 u1 u4 u7 H n
noncomputable def S3_1 (cal : Cal) (k : Nat) : Nat → Value → Value → Value → Hp → Nat → Res := fun m => Nat.rec (motive := fun _ => Value → Value → Value → Hp → Nat → Res) (C3_1 cal k 0 (fun _ _ _ _ _ => none)) (fun m ih => C3_1 cal k (m + 1) ih) m
theorem h3_1 (cal : Cal) (k m1 : Nat) (u1 u4 u7 : Value) (H : Hp) (n : Nat) : labK (E3_1 cal k m1) (Tr.set (Tr.set (Tr.set Tr.nil 7 (some u7)) 4 (some u4)) 1 (some u1)) H n [] = C3_1 cal k m1 (R3_1 cal k m1) u1 u4 u7 H n := by
  have h : labK (E3_1 cal k m1) (Tr.set (Tr.set (Tr.set Tr.nil 7 (some u7)) 4 (some u4)) 1 (some u1)) H n [] = B3_1 cal k m1 (fun u1 u4 u7 u8 H n => labK (E3_2 cal k m1 m1) (Tr.set (Tr.set (Tr.set (Tr.set Tr.nil 8 (some u8)) 7 (some u7)) 4 (some u4)) 1 (some u1)) H n []) (R3_1 cal k m1) u1 u4 u7 H n := by kernel_rfl
  rw [h, C3_1]
  have e2 : (fun u1 u4 u7 u8 H n => labK (E3_2 cal k m1 m1) (Tr.set (Tr.set (Tr.set (Tr.set Tr.nil 8 (some u8)) 7 (some u7)) 4 (some u4)) 1 (some u1)) H n []) = (S3_2 cal k m1 (R3_1 cal k m1) m1) := by funext u1 u4 u7 u8 H n; exact q3_2 ..
  rw [e2]
theorem q3_1 (cal : Cal) (k : Nat) : ∀ (m : Nat) (u1 u4 u7 : Value) (H : Hp) (n : Nat), labK (E3_1 cal k m) (Tr.set (Tr.set (Tr.set Tr.nil 7 (some u7)) 4 (some u4)) 1 (some u1)) H n [] = S3_1 cal k m u1 u4 u7 H n
  | 0, u1, u4, u7, H, n => by
    rw [h3_1]
    have e : R3_1 cal k 0 = fun _ _ _ _ _ => none := by funext u1 u4 u7 H n; kernel_rfl
    rw [e]; rfl
  | m + 1, u1, u4, u7, H, n => by
    rw [h3_1]
    have e : R3_1 cal k (m + 1) = S3_1 cal k m := by
      funext u1 u4 u7 H n
      have e : R3_1 cal k (m + 1) u1 u4 u7 H n = labK (E3_1 cal k m) (Tr.set (Tr.set (Tr.set Tr.nil 7 (some u7)) 4 (some u4)) 1 (some u1)) H n [] := by kernel_rfl
      rw [e]; exact q3_1 ..
    rw [e]; rfl
noncomputable def B3_0 (cal : Cal) (k : Nat) (j1 : Value → Value → Value → Hp → Nat → Res) (v0 : Value) (H : Hp) (n : Nat) : Res :=
boxK 26 v0 H n fun v1_1 H_2 n_3 =>
bindO (addrV v1_1) fun a_6 => bindO (loadV P H_2 26 a_6) fun v9_5 =>
callFK P cal 15 [v9_5, (Go.Value.slice none 0 0)] H_2 n_3 fun v10_7 H_8 n_9 =>
bindO (pureSem P v10_7 (Op.unary Go.UnOp.not v10_7)) fun v11_10 =>
ifK v11_10 (
callFK P cal 16 [] H_8 n_9 fun v12_11 H_12 n_13 =>
some (v12_11, H_12, n_13)) (
bindO (addrV v1_1) fun a_16 => bindO (loadV P H_8 26 a_16) fun v13_15 =>
callFK P cal 18 [v13_15] H_8 n_9 fun v14_17 H_18 n_19 =>
callFK P cal 17 [v14_17] H_18 n_19 fun v15_20 H_21 n_22 =>
bindO (addrV v1_1) fun a_25 => bindO (loadV P H_21 26 a_25) fun v17_24 =>
callFK P cal 18 [v17_24] H_21 n_22 fun v18_26 H_27 n_28 =>
callFK P cal 19 [v18_26] H_27 n_28 fun v19_29 H_30 n_31 =>
bindO (tupV v19_29 0) fun v20_33 =>
bindO (tupV v19_29 1) fun v21_34 =>
bindO (addrV v1_1) fun a_38 => bindO (loadV P H_30 26 a_38) fun v22_37 =>
callFK P cal 20 [v22_37] H_30 n_31 fun v23_39 H_40 n_41 =>
binK P Go.BinOp.neq 29 (Go.Operand.tmp 24) (Go.Operand.tmp 25) v15_20 v23_39 fun v26_45 =>
ifK v26_45 (
some ((Go.Value.bool false), H_40, n_41)) (
binK P Go.BinOp.neq 29 (Go.Operand.tmp 27) (Go.Operand.const (Go.Value.int Go.IntKind.i64 0)) v23_39 (Go.Value.int Go.IntKind.i64 0) fun v28_48 =>
ifK v28_48 (
binK P Go.BinOp.eql 29 (Go.Operand.tmp 29) (Go.Operand.tmp 30) v21_34 v23_39 fun v31_51 =>
guardK v31_51 true (fun k_53 =>
k_53 v20_33 H_40 n_41) H_40 n_41 fun v_54 H_55 n_56 =>
guardK v31_51 true (fun k_58 =>
bindO (lenV P 37 v_54) fun v34_62 =>
k_58 v34_62 H_55 n_56) H_55 n_56 fun v_59 H_60 n_61 =>
guardK v31_51 true (fun k_63 =>
binK P Go.BinOp.eql 3 (Go.Operand.tmp 34) (Go.Operand.const (Go.Value.int Go.IntKind.i64 0)) v_59 (Go.Value.int Go.IntKind.i64 0) fun v35_67 =>
k_63 v35_67 H_60 n_61) H_60 n_61 fun v_64 H_65 n_66 =>
bindO (pickV v31_51 v_64 (Go.Value.bool false)) fun v36_68 =>
guardK v36_68 true (fun k_70 =>
callFK P cal 16 [] H_65 n_66 fun v38_74 H_75 n_76 =>
k_70 v38_74 H_75 n_76) H_65 n_66 fun v_71 H_72 n_73 =>
bindO (pickV v36_68 v_71 (Go.Value.bool false)) fun v39_77 =>
some (v39_77, H_72, n_73)) (
binK P Go.BinOp.neq 29 (Go.Operand.tmp 40) (Go.Operand.const (Go.Value.int Go.IntKind.i64 0)) v21_34 (Go.Value.int Go.IntKind.i64 0) fun v41_80 =>
guardK v41_80 false (fun k_82 =>
k_82 v20_33 H_40 n_41) H_40 n_41 fun v_83 H_84 n_85 =>
guardK v41_80 false (fun k_87 =>
bindO (lenV P 37 v_83) fun v44_91 =>
k_87 v44_91 H_84 n_85) H_84 n_85 fun v_88 H_89 n_90 =>
guardK v41_80 false (fun k_92 =>
bindO (fieldAddrV P 26 v1_1 0) fun v45_96 =>
k_92 v45_96 H_89 n_90) H_89 n_90 fun v_93 H_94 n_95 =>
guardK v41_80 false (fun k_97 =>
bindO (addrV v_93) fun a_102 => bindO (loadV P H_94 22 a_102) fun v46_101 =>
k_97 v46_101 H_94 n_95) H_94 n_95 fun v_98 H_99 n_100 =>
guardK v41_80 false (fun k_103 =>
bindO (lenV P 22 v_98) fun v47_107 =>
k_103 v47_107 H_99 n_100) H_99 n_100 fun v_104 H_105 n_106 =>
guardK v41_80 false (fun k_108 =>
binK P Go.BinOp.neq 3 (Go.Operand.tmp 44) (Go.Operand.tmp 47) v_88 v_104 fun v48_112 =>
k_108 v48_112 H_105 n_106) H_105 n_106 fun v_109 H_110 n_111 =>
bindO (pickV v41_80 (Go.Value.bool true) v_109) fun v49_113 =>
ifK v49_113 (
some ((Go.Value.bool false), H_110, n_111)) (
j1 v1_1 v20_33 (Go.Value.int Go.IntKind.i64 0) H_110 n_111))))
noncomputable def C3_0 (cal : Cal) (k : Nat) (v0 : Value) (H : Hp) (n : Nat) : Res := B3_0 cal k (S3_1 cal k k) v0 H n
theorem h3_0 (cal : Cal) (k : Nat) (v0 : Value) (H : Hp) (n : Nat) : bodyE P cal A (k + 1) 3 [v0] H n = C3_0 cal k v0 H n := by
  have h : bodyE P cal A (k + 1) 3 [v0] H n = B3_0 cal k (fun u1 u4 u7 H n => labK (E3_1 cal k k) (Tr.set (Tr.set (Tr.set Tr.nil 7 (some u7)) 4 (some u4)) 1 (some u1)) H n []) v0 H n := by
    rw [body_eq (fn := Go.Proofs.Try.f3) (c := code3) (rs := results3) (by kernel_rfl) (by kernel_rfl) (by kernel_rfl) (by kernel_rfl)]
    kernel_rfl
  rw [h, C3_0]
  have e1 : (fun u1 u4 u7 H n => labK (E3_1 cal k k) (Tr.set (Tr.set (Tr.set Tr.nil 7 (some u7)) 4 (some u4)) 1 (some u1)) H n []) = (S3_1 cal k k) := by funext u1 u4 u7 H n; exact q3_1 ..
  rw [e1]
noncomputable def code15 : Code := codeOf 15
noncomputable def results15 : List ResultVar := resOf 15
noncomputable def K15_p (cal : Cal) (k : Nat) : KC (Value × Hp × Nat) := (cutK (A 15).c (codeE P cal (codeF P cal k) none 15 (cR code15) (Lv.b (A 15)) (doneK P results15) X0 (doneK P results15)))
noncomputable def K15_pr (cal : Cal) (k : Nat) : KC (Value × Hp × Nat) := (cutK (Lv.b (A 15)).c (codeE P cal (codeF P cal k) none 15 (cR (cR code15)) (Lv.b (Lv.b (A 15))) (doneK P results15) X0 (doneK P results15)))
noncomputable def B15_0 (cal : Cal) (k : Nat) (v0 v1 : Value) (H : Hp) (n : Nat) : Res :=
boxK 26 v0 H n fun v2_1 H_2 n_3 =>
bindO (fieldAddrV P 26 v2_1 0) fun v5_5 =>
bindO (addrV v5_5) fun a_7 => bindO (loadV P H_2 22 a_7) fun v6_6 =>
bindO (lenV P 22 v6_6) fun v7_8 =>
binK P Go.BinOp.leq 3 (Go.Operand.tmp 7) (Go.Operand.const (Go.Value.int Go.IntKind.i64 11)) v7_8 (Go.Value.int Go.IntKind.i64 11) fun v8_9 =>
guardK v8_9 true (fun k_11 =>
bindO (fieldAddrV P 26 v2_1 1) fun v10_15 =>
k_11 v10_15 H_2 n_3) H_2 n_3 fun v_12 H_13 n_14 =>
guardK v8_9 true (fun k_16 =>
bindO (addrV v_12) fun a_21 => bindO (loadV P H_13 23 a_21) fun v11_20 =>
k_16 v11_20 H_13 n_14) H_13 n_14 fun v_17 H_18 n_19 =>
guardK v8_9 true (fun k_22 =>
bindO (lenV P 23 v_17) fun v12_26 =>
k_22 v12_26 H_18 n_19) H_18 n_19 fun v_23 H_24 n_25 =>
guardK v8_9 true (fun k_27 =>
binK P Go.BinOp.leq 3 (Go.Operand.tmp 12) (Go.Operand.const (Go.Value.int Go.IntKind.i64 19)) v_23 (Go.Value.int Go.IntKind.i64 19) fun v13_31 =>
k_27 v13_31 H_24 n_25) H_24 n_25 fun v_28 H_29 n_30 =>
bindO (pickV v8_9 v_28 (Go.Value.bool false)) fun v14_32 =>
guardK v14_32 true (fun k_34 =>
bindO (fieldAddrV P 26 v2_1 2) fun v16_38 =>
k_34 v16_38 H_29 n_30) H_29 n_30 fun v_35 H_36 n_37 =>
guardK v14_32 true (fun k_39 =>
bindO (addrV v_35) fun a_44 => bindO (loadV P H_36 24 a_44) fun v17_43 =>
k_39 v17_43 H_36 n_37) H_36 n_37 fun v_40 H_41 n_42 =>
guardK v14_32 true (fun k_45 =>
bindO (lenV P 24 v_40) fun v18_49 =>
k_45 v18_49 H_41 n_42) H_41 n_42 fun v_46 H_47 n_48 =>
guardK v14_32 true (fun k_50 =>
binK P Go.BinOp.leq 3 (Go.Operand.tmp 18) (Go.Operand.const (Go.Value.int Go.IntKind.i64 6)) v_46 (Go.Value.int Go.IntKind.i64 6) fun v19_54 =>
k_50 v19_54 H_47 n_48) H_47 n_48 fun v_51 H_52 n_53 =>
bindO (pickV v14_32 v_51 (Go.Value.bool false)) fun v20_55 =>
guardK v20_55 true (fun k_57 =>
k_57 v1 H_52 n_53) H_52 n_53 fun v_58 H_59 n_60 =>
guardK v20_55 true (fun k_62 =>
bindO (lenV P 44 v_58) fun v23_66 =>
k_62 v23_66 H_59 n_60) H_59 n_60 fun v_63 H_64 n_65 =>
guardK v20_55 true (fun k_67 =>
binK P Go.BinOp.leq 3 (Go.Operand.tmp 23) (Go.Operand.const (Go.Value.int Go.IntKind.i64 11)) v_63 (Go.Value.int Go.IntKind.i64 11) fun v24_71 =>
k_67 v24_71 H_64 n_65) H_64 n_65 fun v_68 H_69 n_70 =>
bindO (pickV v20_55 v_68 (Go.Value.bool false)) fun v25_72 =>
some (v25_72, H_69, n_70)
noncomputable def C15_0 (cal : Cal) (k : Nat) (v0 v1 : Value) (H : Hp) (n : Nat) : Res := B15_0 cal k v0 v1 H n
theorem h15_0 (cal : Cal) (k : Nat) (v0 v1 : Value) (H : Hp) (n : Nat) : bodyE P cal A (k + 1) 15 [v0, v1] H n = C15_0 cal k v0 v1 H n := by
  have h : bodyE P cal A (k + 1) 15 [v0, v1] H n = B15_0 cal k v0 v1 H n := by
    rw [body_eq (fn := Go.Proofs.Try.f15) (c := code15) (rs := results15) (by kernel_rfl) (by kernel_rfl) (by kernel_rfl) (by kernel_rfl)]
    kernel_rfl
  rw [h, C15_0]
noncomputable def code16 : Code := codeOf 16
noncomputable def results16 : List ResultVar := resOf 16
noncomputable def K16_p (cal : Cal) (k : Nat) : KC (Value × Hp × Nat) := (cutK (A 16).c (codeE P cal (codeF P cal k) none 16 (cR code16) (Lv.b (A 16)) (doneK P results16) X0 (doneK P results16)))
noncomputable def K16_pr (cal : Cal) (k : Nat) : KC (Value × Hp × Nat) := (cutK (Lv.b (A 16)).c (codeE P cal (codeF P cal k) none 16 (cR (cR code16)) (Lv.b (Lv.b (A 16))) (doneK P results16) X0 (doneK P results16)))
noncomputable def K16_prr (cal : Cal) (k : Nat) : KC (Value × Hp × Nat) := (cutK (Lv.b (Lv.b (A 16))).c (codeE P cal (codeF P cal k) none 16 (cR (cR (cR code16))) (Lv.b (Lv.b (Lv.b (A 16)))) (doneK P results16) X0 (doneK P results16)))
noncomputable def K16_prrr (cal : Cal) (k : Nat) : KC (Value × Hp × Nat) := (cutK (Lv.b (Lv.b (Lv.b (A 16)))).c (codeE P cal (codeF P cal k) none 16 (cR (cR (cR (cR code16)))) (Lv.b (Lv.b (Lv.b (Lv.b (A 16))))) (doneK P results16) X0 (doneK P results16)))
noncomputable def K16_prrrr (cal : Cal) (k : Nat) : KC (Value × Hp × Nat) := (cutK (Lv.b (Lv.b (Lv.b (Lv.b (A 16))))).c (codeE P cal (codeF P cal k) none 16 (cR (cR (cR (cR (cR code16))))) (Lv.b (Lv.b (Lv.b (Lv.b (Lv.b (A 16)))))) (doneK P results16) X0 (doneK P results16)))
noncomputable def K16_prrrrr (cal : Cal) (k : Nat) : KC (Value × Hp × Nat) := (cutK (Lv.b (Lv.b (Lv.b (Lv.b (Lv.b (A 16)))))).c (codeE P cal (codeF P cal k) none 16 (cR (cR (cR (cR (cR (cR code16)))))) (Lv.b (Lv.b (Lv.b (Lv.b (Lv.b (Lv.b (A 16))))))) (doneK P results16) X0 (doneK P results16)))
noncomputable def K16_prrrrrr (cal : Cal) (k : Nat) : KC (Value × Hp × Nat) := (cutK (Lv.b (Lv.b (Lv.b (Lv.b (Lv.b (Lv.b (A 16))))))).c (codeE P cal (codeF P cal k) none 16 (cR (cR (cR (cR (cR (cR (cR code16))))))) (Lv.b (Lv.b (Lv.b (Lv.b (Lv.b (Lv.b (Lv.b (A 16)))))))) (doneK P results16) X0 (doneK P results16)))
noncomputable def B16_0 (cal : Cal) (k : Nat) (H : Hp) (n : Nat) : Res :=
callFK P cal 52 [] H n fun v14_2 H_3 n_4 =>
rowK P 44 2 [(0, (Go.Value.int Go.IntKind.i64 1)), (1, (Go.Value.int Go.IntKind.i64 3))] H_3 n_4 fun v15_5 H_6 n_7 =>
callFK P cal 53 [v15_5] H_6 n_7 fun v16_8 H_9 n_10 =>
callFK P cal 22 [v14_2, v16_8] H_9 n_10 fun v17_11 H_12 n_13 =>
bindO (tupV v17_11 0) fun v18_15 =>
bindO (tupV v17_11 1) fun v19_16 =>
callFK P cal 52 [] H_12 n_13 fun v21_19 H_20 n_21 =>
rowK P 44 2 [(0, (Go.Value.int Go.IntKind.i64 0)), (1, (Go.Value.int Go.IntKind.i64 1))] H_20 n_21 fun v22_22 H_23 n_24 =>
callFK P cal 53 [v22_22] H_23 n_24 fun v23_25 H_26 n_27 =>
callFK P cal 24 [v21_19, v23_25] H_26 n_27 fun v24_28 H_29 n_30 =>
bindO (tupV v24_28 0) fun v25_32 =>
bindO (tupV v24_28 1) fun v26_33 =>
bindO (tupV v24_28 2) fun v27_34 =>
callFK P cal 52 [] H_29 n_30 fun v29_38 H_39 n_40 =>
callFK P cal 42 [v29_38] H_39 n_40 fun v30_41 H_42 n_43 =>
bindO (tupV v30_41 0) fun v31_45 =>
bindO (tupV v30_41 1) fun v32_46 =>
bindO (tupV v30_41 2) fun v33_47 =>
callFK P cal 52 [] H_42 n_43 fun v35_51 H_52 n_53 =>
rowK P 44 3 [(0, (Go.Value.int Go.IntKind.i64 1)), (1, (Go.Value.int Go.IntKind.i64 2)), (2, (Go.Value.int Go.IntKind.i64 3))] H_52 n_53 fun v36_54 H_55 n_56 =>
callFK P cal 53 [v36_54] H_55 n_56 fun v37_57 H_58 n_59 =>
callFK P cal 47 [v35_51, v37_57] H_58 n_59 fun v38_60 H_61 n_62 =>
bindO (tupV v38_60 0) fun v39_64 =>
bindO (tupV v38_60 1) fun v40_65 =>
callFK P cal 52 [] H_61 n_62 fun v42_68 H_69 n_70 =>
callFK P cal 48 [v42_68] H_69 n_70 fun v43_71 H_72 n_73 =>
bindO (tupV v43_71 0) fun v44_75 =>
bindO (tupV v43_71 1) fun v45_76 =>
binK P Go.BinOp.eql 29 (Go.Operand.tmp 46) (Go.Operand.const (Go.Value.int Go.IntKind.i64 0)) v19_16 (Go.Value.int Go.IntKind.i64 0) fun v47_80 =>
guardD v47_80 true (fun k_82 =>
k_82 v18_15 .p H_72 n_73) .p H_72 n_73 fun v_83 x_84 H_85 n_86 =>
guardD v47_80 true (fun k_88 =>
bindO (lenV P 45 v_83) fun v50_93 =>
k_88 v50_93 .p H_85 n_86) .p H_85 n_86 fun v_89 x_90 H_91 n_92 =>
guardD v47_80 true (fun k_94 =>
binK P Go.BinOp.eql 3 (Go.Operand.tmp 50) (Go.Operand.const (Go.Value.int Go.IntKind.i64 5)) v_89 (Go.Value.int Go.IntKind.i64 5) fun v51_99 =>
k_94 v51_99 .p H_91 n_92) .p H_91 n_92 fun v_95 x_96 H_97 n_98 =>
bindO (pickV v47_80 v_95 (Go.Value.bool false)) fun v52_100 =>
guardD v52_100 true (fun k_102 =>
k_102 v18_15 .p H_97 n_98) .p H_97 n_98 fun v_103 x_104 H_105 n_106 =>
guardD v52_100 true (fun k_108 =>
bindO (indexAddrV P 45 v_103 (Go.Value.int Go.IntKind.i64 0)) fun v55_113 =>
k_108 v55_113 .p H_105 n_106) .p H_105 n_106 fun v_109 x_110 H_111 n_112 =>
guardD v52_100 true (fun k_114 =>
bindO (addrV v_109) fun a_119 => bindO (loadV P H_111 53 a_119) fun v_120 =>
k_114 v_120 (.l 53 a_119) H_111 n_112) .p H_111 n_112 fun v_115 x_116 H_117 n_118 =>
guardD v52_100 true (fun k_121 =>
effK P [x_116] H_117 n_118 (fun H_126 n_127 k_128 =>
callFK P cal 54 [(Go.Value.int Go.IntKind.i64 10), (Go.Value.int Go.IntKind.i64 20)] H_126 n_127 fun v57_132 H_133 n_134 =>
k_128 v57_132 H_133 n_134) fun v_129 H_130 n_131 =>
k_121 v_129 .e H_130 n_131) .e H_117 n_118 fun v_122 x_123 H_124 n_125 =>
guardD v52_100 true (fun k_135 =>
binK P Go.BinOp.eql 53 (Go.Operand.tmp 56) (Go.Operand.tmp 57) v_115 v_122 fun v58_140 =>
k_135 v58_140 .p H_124 n_125) .p H_124 n_125 fun v_136 x_137 H_138 n_139 =>
bindO (pickV v52_100 v_136 (Go.Value.bool false)) fun v59_141 =>
guardD v59_141 true (fun k_143 =>
k_143 v18_15 .p H_138 n_139) .p H_138 n_139 fun v_144 x_145 H_146 n_147 =>
guardD v59_141 true (fun k_149 =>
bindO (indexAddrV P 45 v_144 (Go.Value.int Go.IntKind.i64 2)) fun v62_154 =>
k_149 v62_154 .p H_146 n_147) .p H_146 n_147 fun v_150 x_151 H_152 n_153 =>
guardD v59_141 true (fun k_155 =>
bindO (addrV v_150) fun a_160 => bindO (loadV P H_152 53 a_160) fun v_161 =>
k_155 v_161 (.l 53 a_160) H_152 n_153) .p H_152 n_153 fun v_156 x_157 H_158 n_159 =>
guardD v59_141 true (fun k_162 =>
effK P [x_157] H_158 n_159 (fun H_167 n_168 k_169 =>
callFK P cal 54 [(Go.Value.int Go.IntKind.i64 20), (Go.Value.int Go.IntKind.i64 40)] H_167 n_168 fun v64_173 H_174 n_175 =>
k_169 v64_173 H_174 n_175) fun v_170 H_171 n_172 =>
k_162 v_170 .e H_171 n_172) .e H_158 n_159 fun v_163 x_164 H_165 n_166 =>
guardD v59_141 true (fun k_176 =>
binK P Go.BinOp.eql 53 (Go.Operand.tmp 63) (Go.Operand.tmp 64) v_156 v_163 fun v65_181 =>
k_176 v65_181 .p H_165 n_166) .p H_165 n_166 fun v_177 x_178 H_179 n_180 =>
bindO (pickV v59_141 v_177 (Go.Value.bool false)) fun v66_182 =>
guardD v66_182 true (fun k_184 =>
k_184 v27_34 .p H_179 n_180) .p H_179 n_180 fun v_185 x_186 H_187 n_188 =>
guardD v66_182 true (fun k_190 =>
binK P Go.BinOp.eql 29 (Go.Operand.tmp 68) (Go.Operand.const (Go.Value.int Go.IntKind.i64 0)) v_185 (Go.Value.int Go.IntKind.i64 0) fun v69_195 =>
k_190 v69_195 .p H_187 n_188) .p H_187 n_188 fun v_191 x_192 H_193 n_194 =>
bindO (pickV v66_182 v_191 (Go.Value.bool false)) fun v70_196 =>
guardD v70_196 true (fun k_198 =>
k_198 v25_32 .p H_193 n_194) .p H_193 n_194 fun v_199 x_200 H_201 n_202 =>
guardD v70_196 true (fun k_204 =>
bindO (rowOf P 44 2 [(0, (Go.Value.int Go.IntKind.i64 3)), (1, (Go.Value.int Go.IntKind.i64 4))]) fun q_211 => newK q_211.1 q_211.2 H_201 n_202 fun H_209 n_210 =>
k_204 (.slice (some ⟨n_202, 0, none⟩) 2 2) (.a n_202 q_211.1 q_211.2) H_209 n_210) .p H_201 n_202 fun v_205 x_206 H_207 n_208 =>
guardD v70_196 true (fun k_212 =>
callFK P cal 30 [v_199, v_205] H_207 n_208 fun v74_217 H_218 n_219 =>
k_212 v74_217 .e H_218 n_219) .e H_207 n_208 fun v_213 x_214 H_215 n_216 =>
bindO (pickV v70_196 v_213 (Go.Value.bool false)) fun v75_220 =>
guardD v75_220 true (fun k_222 =>
k_222 v26_33 .p H_215 n_216) .p H_215 n_216 fun v_223 x_224 H_225 n_226 =>
guardD v75_220 true (fun k_228 =>
bindO (rowOf P 44 2 [(0, (Go.Value.int Go.IntKind.i64 0)), (1, (Go.Value.int Go.IntKind.i64 1))]) fun q_235 => newK q_235.1 q_235.2 H_225 n_226 fun H_233 n_234 =>
k_228 (.slice (some ⟨n_226, 0, none⟩) 2 2) (.a n_226 q_235.1 q_235.2) H_233 n_234) .p H_225 n_226 fun v_229 x_230 H_231 n_232 =>
guardD v75_220 true (fun k_236 =>
callFK P cal 30 [v_223, v_229] H_231 n_232 fun v79_241 H_242 n_243 =>
k_236 v79_241 .e H_242 n_243) .e H_231 n_232 fun v_237 x_238 H_239 n_240 =>
bindO (pickV v75_220 v_237 (Go.Value.bool false)) fun v80_244 =>
guardD v80_244 true (fun k_246 =>
k_246 v33_47 .p H_239 n_240) .p H_239 n_240 fun v_247 x_248 H_249 n_250 =>
guardD v80_244 true (fun k_252 =>
binK P Go.BinOp.eql 29 (Go.Operand.tmp 82) (Go.Operand.const (Go.Value.int Go.IntKind.i64 0)) v_247 (Go.Value.int Go.IntKind.i64 0) fun v83_257 =>
k_252 v83_257 .p H_249 n_250) .p H_249 n_250 fun v_253 x_254 H_255 n_256 =>
bindO (pickV v80_244 v_253 (Go.Value.bool false)) fun v84_258 =>
guardD v84_258 true (fun k_260 =>
k_260 v31_45 .p H_255 n_256) .p H_255 n_256 fun v_261 x_262 H_263 n_264 =>
guardD v84_258 true (fun k_266 =>
bindO (rowOf P 44 2 [(0, (Go.Value.int Go.IntKind.i64 1)), (1, (Go.Value.int Go.IntKind.i64 4))]) fun q_273 => newK q_273.1 q_273.2 H_263 n_264 fun H_271 n_272 =>
k_266 (.slice (some ⟨n_264, 0, none⟩) 2 2) (.a n_264 q_273.1 q_273.2) H_271 n_272) .p H_263 n_264 fun v_267 x_268 H_269 n_270 =>
guardD v84_258 true (fun k_274 =>
callFK P cal 53 [v_267] H_269 n_270 fun v88_279 H_280 n_281 =>
k_274 v88_279 .e H_280 n_281) .e H_269 n_270 fun v_275 x_276 H_277 n_278 =>
guardD v84_258 true (fun k_282 =>
callFK P cal 30 [v_261, v_275] H_277 n_278 fun v89_287 H_288 n_289 =>
k_282 v89_287 .e H_288 n_289) .e H_277 n_278 fun v_283 x_284 H_285 n_286 =>
bindO (pickV v84_258 v_283 (Go.Value.bool false)) fun v90_290 =>
guardD v90_290 true (fun k_292 =>
k_292 v32_46 .p H_285 n_286) .p H_285 n_286 fun v_293 x_294 H_295 n_296 =>
guardD v90_290 true (fun k_298 =>
binK P Go.BinOp.eql 3 (Go.Operand.tmp 92) (Go.Operand.const (Go.Value.int Go.IntKind.i64 2)) v_293 (Go.Value.int Go.IntKind.i64 2) fun v93_303 =>
k_298 v93_303 .p H_295 n_296) .p H_295 n_296 fun v_299 x_300 H_301 n_302 =>
bindO (pickV v90_290 v_299 (Go.Value.bool false)) fun v94_304 =>
guardD v94_304 true (fun k_306 =>
k_306 v40_65 .p H_301 n_302) .p H_301 n_302 fun v_307 x_308 H_309 n_310 =>
guardD v94_304 true (fun k_312 =>
binK P Go.BinOp.eql 29 (Go.Operand.tmp 96) (Go.Operand.const (Go.Value.int Go.IntKind.i64 0)) v_307 (Go.Value.int Go.IntKind.i64 0) fun v97_317 =>
k_312 v97_317 .p H_309 n_310) .p H_309 n_310 fun v_313 x_314 H_315 n_316 =>
bindO (pickV v94_304 v_313 (Go.Value.bool false)) fun v98_318 =>
guardD v98_318 true (fun k_320 =>
k_320 v39_64 .p H_315 n_316) .p H_315 n_316 fun v_321 x_322 H_323 n_324 =>
guardD v98_318 true (fun k_326 =>
bindO (rowOf P 44 1 [(0, (Go.Value.int Go.IntKind.i64 2))]) fun q_333 => newK q_333.1 q_333.2 H_323 n_324 fun H_331 n_332 =>
k_326 (.slice (some ⟨n_324, 0, none⟩) 1 1) (.a n_324 q_333.1 q_333.2) H_331 n_332) .p H_323 n_324 fun v_327 x_328 H_329 n_330 =>
guardD v98_318 true (fun k_334 =>
callFK P cal 30 [v_321, v_327] H_329 n_330 fun v102_339 H_340 n_341 =>
k_334 v102_339 .e H_340 n_341) .e H_329 n_330 fun v_335 x_336 H_337 n_338 =>
bindO (pickV v98_318 v_335 (Go.Value.bool false)) fun v103_342 =>
guardD v103_342 true (fun k_344 =>
k_344 v45_76 .p H_337 n_338) .p H_337 n_338 fun v_345 x_346 H_347 n_348 =>
guardD v103_342 true (fun k_350 =>
binK P Go.BinOp.eql 29 (Go.Operand.tmp 105) (Go.Operand.const (Go.Value.int Go.IntKind.i64 0)) v_345 (Go.Value.int Go.IntKind.i64 0) fun v106_355 =>
k_350 v106_355 .p H_347 n_348) .p H_347 n_348 fun v_351 x_352 H_353 n_354 =>
bindO (pickV v103_342 v_351 (Go.Value.bool false)) fun v107_356 =>
guardD v107_356 true (fun k_358 =>
k_358 v44_75 .p H_353 n_354) .p H_353 n_354 fun v_359 x_360 H_361 n_362 =>
guardD v107_356 true (fun k_364 =>
bindO (rowOf P 44 2 [(0, (Go.Value.int Go.IntKind.i64 0)), (1, (Go.Value.int Go.IntKind.i64 3))]) fun q_371 => newK q_371.1 q_371.2 H_361 n_362 fun H_369 n_370 =>
k_364 (.slice (some ⟨n_362, 0, none⟩) 2 2) (.a n_362 q_371.1 q_371.2) H_369 n_370) .p H_361 n_362 fun v_365 x_366 H_367 n_368 =>
guardD v107_356 true (fun k_372 =>
callFK P cal 30 [v_359, v_365] H_367 n_368 fun v111_377 H_378 n_379 =>
k_372 v111_377 .e H_378 n_379) .e H_367 n_368 fun v_373 x_374 H_375 n_376 =>
bindO (pickV v107_356 v_373 (Go.Value.bool false)) fun v112_380 =>
some (v112_380, H_375, n_376)
noncomputable def C16_0 (cal : Cal) (k : Nat) (H : Hp) (n : Nat) : Res := B16_0 cal k  H n
theorem h16_0 (cal : Cal) (k : Nat) (H : Hp) (n : Nat) : bodyE P cal A (k + 1) 16 [] H n = C16_0 cal k  H n := by
  have h : bodyE P cal A (k + 1) 16 [] H n = B16_0 cal k  H n := by
    rw [body_eq (fn := Go.Proofs.Try.f16) (c := code16) (rs := results16) (by kernel_rfl) (by kernel_rfl) (by kernel_rfl) (by kernel_rfl)]
    kernel_rfl
  rw [h, C16_0]
noncomputable def code17 : Code := codeOf 17
noncomputable def results17 : List ResultVar := resOf 17
noncomputable def K17_p (cal : Cal) (k : Nat) : KC (Value × Hp × Nat) := (cutK (A 17).c (codeE P cal (codeF P cal k) none 17 (cR code17) (Lv.b (A 17)) (doneK P results17) X0 (doneK P results17)))
noncomputable def K17_pr (cal : Cal) (k : Nat) : KC (Value × Hp × Nat) := (cutK (Lv.b (A 17)).c (codeE P cal (codeF P cal k) none 17 (cR (cR code17)) (Lv.b (Lv.b (A 17))) (doneK P results17) X0 (doneK P results17)))
noncomputable def B17_0 (cal : Cal) (k : Nat) (v0 : Value) (H : Hp) (n : Nat) : Res :=
boxK 35 v0 H n fun v1_1 H_2 n_3 =>
bindO (addrV v1_1) fun a_6 => bindO (loadV P H_2 35 a_6) fun v3_5 =>
callFK P cal 60 [v3_5] H_2 n_3 fun v4_7 H_8 n_9 =>
some (v4_7, H_8, n_9)
noncomputable def C17_0 (cal : Cal) (k : Nat) (v0 : Value) (H : Hp) (n : Nat) : Res := B17_0 cal k v0 H n
theorem h17_0 (cal : Cal) (k : Nat) (v0 : Value) (H : Hp) (n : Nat) : bodyE P cal A (k + 1) 17 [v0] H n = C17_0 cal k v0 H n := by
  have h : bodyE P cal A (k + 1) 17 [v0] H n = B17_0 cal k v0 H n := by
    rw [body_eq (fn := Go.Proofs.Try.f17) (c := code17) (rs := results17) (by kernel_rfl) (by kernel_rfl) (by kernel_rfl) (by kernel_rfl)]
    kernel_rfl
  rw [h, C17_0]
noncomputable def code18 : Code := codeOf 18
noncomputable def results18 : List ResultVar := resOf 18
noncomputable def K18_p (cal : Cal) (k : Nat) : KC (Value × Hp × Nat) := (cutK (A 18).c (codeE P cal (codeF P cal k) none 18 (cR code18) (Lv.b (A 18)) (doneK P results18) X0 (doneK P results18)))
noncomputable def K18_pr (cal : Cal) (k : Nat) : KC (Value × Hp × Nat) := (cutK (Lv.b (A 18)).c (codeE P cal (codeF P cal k) none 18 (cR (cR code18)) (Lv.b (Lv.b (A 18))) (doneK P results18) X0 (doneK P results18)))
noncomputable def K18_prr (cal : Cal) (k : Nat) : KC (Value × Hp × Nat) := (cutK (Lv.b (Lv.b (A 18))).c (codeE P cal (codeF P cal k) none 18 (cR (cR (cR code18))) (Lv.b (Lv.b (Lv.b (A 18)))) (doneK P results18) X0 (doneK P results18)))
noncomputable def K18_prrl (cal : Cal) (k : Nat) : KC (Value × Hp × Nat) := (cutK (Lv.a (Lv.b (Lv.b (A 18)))).c (codeE P cal (codeF P cal k) none 18 (cR (cL (cR (cR code18)))) (Lv.b (Lv.a (Lv.b (Lv.b (A 18))))) (K18_prr cal k) X0 (doneK P results18)))
noncomputable def K18_pxrrlr (cal : Cal) (k : Nat) : XC (Value × Hp × Nat) := (upX 0 (K18_prr cal k) X0)
noncomputable def K18_prrlrl (cal : Cal) (k : Nat) (m1 : Nat) : KC (Value × Hp × Nat) := (fun T H n D => codeF P cal m1 (Lv.a (Lv.b (Lv.a (Lv.b (Lv.b (A 18)))))) none 18 (cL (cR (cL (cR (cR code18))))) (K18_prr cal k) (K18_pxrrlr cal k) (doneK P results18) (cutT (Lv.a (Lv.b (Lv.a (Lv.b (Lv.b (A 18)))))).c T) H n D)
noncomputable def K18_prrlrll (cal : Cal) (k : Nat) (m1 : Nat) : KC (Value × Hp × Nat) := (cutK (Lv.a (Lv.a (Lv.b (Lv.a (Lv.b (Lv.b (A 18))))))).c (codeE P cal (codeF P cal m1) none 18 (cR (cL (cL (cR (cL (cR (cR code18))))))) (Lv.b (Lv.a (Lv.a (Lv.b (Lv.a (Lv.b (Lv.b (A 18)))))))) (K18_prrlrl cal k m1) (K18_pxrrlr cal k) (doneK P results18)))
noncomputable def K18_prrlrlll (cal : Cal) (k : Nat) (m1 : Nat) : KC (Value × Hp × Nat) := (cutK (Lv.a (Lv.a (Lv.a (Lv.b (Lv.a (Lv.b (Lv.b (A 18)))))))).c (codeE P cal (codeF P cal m1) none 18 (cR (cL (cL (cL (cR (cL (cR (cR code18)))))))) (Lv.b (Lv.a (Lv.a (Lv.a (Lv.b (Lv.a (Lv.b (Lv.b (A 18))))))))) (K18_prrlrll cal k m1) (K18_pxrrlr cal k) (doneK P results18)))
noncomputable def K18_prrlrllr (cal : Cal) (k : Nat) (m1 : Nat) : KC (Value × Hp × Nat) := (cutK (Lv.b (Lv.a (Lv.a (Lv.b (Lv.a (Lv.b (Lv.b (A 18)))))))).c (codeE P cal (codeF P cal m1) none 18 (cR (cR (cL (cL (cR (cL (cR (cR code18)))))))) (Lv.b (Lv.b (Lv.a (Lv.a (Lv.b (Lv.a (Lv.b (Lv.b (A 18))))))))) (K18_prrlrl cal k m1) (K18_pxrrlr cal k) (doneK P results18)))
noncomputable def K18_pxrrlrllrl (cal : Cal) (k : Nat) (m1 : Nat) : XC (Value × Hp × Nat) := (upX 1 (K18_prrlrllr cal k m1) (K18_pxrrlr cal k))
noncomputable def K18_prrr (cal : Cal) (k : Nat) : KC (Value × Hp × Nat) := (cutK (Lv.b (Lv.b (Lv.b (A 18)))).c (codeE P cal (codeF P cal k) none 18 (cR (cR (cR (cR code18)))) (Lv.b (Lv.b (Lv.b (Lv.b (A 18))))) (doneK P results18) X0 (doneK P results18)))
noncomputable def K18_prrrl (cal : Cal) (k : Nat) : KC (Value × Hp × Nat) := (cutK (Lv.a (Lv.b (Lv.b (Lv.b (A 18))))).c (codeE P cal (codeF P cal k) none 18 (cR (cL (cR (cR (cR code18))))) (Lv.b (Lv.a (Lv.b (Lv.b (Lv.b (A 18)))))) (K18_prrr cal k) X0 (doneK P results18)))
noncomputable def K18_pxrrrlr (cal : Cal) (k : Nat) : XC (Value × Hp × Nat) := (upX 2 (K18_prrr cal k) X0)
noncomputable def K18_prrrlrl (cal : Cal) (k : Nat) (m1 : Nat) : KC (Value × Hp × Nat) := (fun T H n D => codeF P cal m1 (Lv.a (Lv.b (Lv.a (Lv.b (Lv.b (Lv.b (A 18))))))) none 18 (cL (cR (cL (cR (cR (cR code18)))))) (K18_prrr cal k) (K18_pxrrrlr cal k) (doneK P results18) (cutT (Lv.a (Lv.b (Lv.a (Lv.b (Lv.b (Lv.b (A 18))))))).c T) H n D)
noncomputable def K18_prrrlrll (cal : Cal) (k : Nat) (m1 : Nat) : KC (Value × Hp × Nat) := (cutK (Lv.a (Lv.a (Lv.b (Lv.a (Lv.b (Lv.b (Lv.b (A 18)))))))).c (codeE P cal (codeF P cal m1) none 18 (cR (cL (cL (cR (cL (cR (cR (cR code18)))))))) (Lv.b (Lv.a (Lv.a (Lv.b (Lv.a (Lv.b (Lv.b (Lv.b (A 18))))))))) (K18_prrrlrl cal k m1) (K18_pxrrrlr cal k) (doneK P results18)))
noncomputable def K18_prrrlrlll (cal : Cal) (k : Nat) (m1 : Nat) : KC (Value × Hp × Nat) := (cutK (Lv.a (Lv.a (Lv.a (Lv.b (Lv.a (Lv.b (Lv.b (Lv.b (A 18))))))))).c (codeE P cal (codeF P cal m1) none 18 (cR (cL (cL (cL (cR (cL (cR (cR (cR code18))))))))) (Lv.b (Lv.a (Lv.a (Lv.a (Lv.b (Lv.a (Lv.b (Lv.b (Lv.b (A 18)))))))))) (K18_prrrlrll cal k m1) (K18_pxrrrlr cal k) (doneK P results18)))
noncomputable def K18_prrrlrllr (cal : Cal) (k : Nat) (m1 : Nat) : KC (Value × Hp × Nat) := (cutK (Lv.b (Lv.a (Lv.a (Lv.b (Lv.a (Lv.b (Lv.b (Lv.b (A 18))))))))).c (codeE P cal (codeF P cal m1) none 18 (cR (cR (cL (cL (cR (cL (cR (cR (cR code18))))))))) (Lv.b (Lv.b (Lv.a (Lv.a (Lv.b (Lv.a (Lv.b (Lv.b (Lv.b (A 18)))))))))) (K18_prrrlrl cal k m1) (K18_pxrrrlr cal k) (doneK P results18)))
noncomputable def K18_pxrrrlrllrl (cal : Cal) (k : Nat) (m1 : Nat) : XC (Value × Hp × Nat) := (upX 3 (K18_prrrlrllr cal k m1) (K18_pxrrrlr cal k))
noncomputable def K18_prrrr (cal : Cal) (k : Nat) : KC (Value × Hp × Nat) := (cutK (Lv.b (Lv.b (Lv.b (Lv.b (A 18))))).c (codeE P cal (codeF P cal k) none 18 (cR (cR (cR (cR (cR code18))))) (Lv.b (Lv.b (Lv.b (Lv.b (Lv.b (A 18)))))) (doneK P results18) X0 (doneK P results18)))
noncomputable def K18_prrrrl (cal : Cal) (k : Nat) : KC (Value × Hp × Nat) := (cutK (Lv.a (Lv.b (Lv.b (Lv.b (Lv.b (A 18)))))).c (codeE P cal (codeF P cal k) none 18 (cR (cL (cR (cR (cR (cR code18)))))) (Lv.b (Lv.a (Lv.b (Lv.b (Lv.b (Lv.b (A 18))))))) (K18_prrrr cal k) X0 (doneK P results18)))
noncomputable def K18_pxrrrrlr (cal : Cal) (k : Nat) : XC (Value × Hp × Nat) := (upX 4 (K18_prrrr cal k) X0)
noncomputable def K18_prrrrlrl (cal : Cal) (k : Nat) (m1 : Nat) : KC (Value × Hp × Nat) := (fun T H n D => codeF P cal m1 (Lv.a (Lv.b (Lv.a (Lv.b (Lv.b (Lv.b (Lv.b (A 18)))))))) none 18 (cL (cR (cL (cR (cR (cR (cR code18))))))) (K18_prrrr cal k) (K18_pxrrrrlr cal k) (doneK P results18) (cutT (Lv.a (Lv.b (Lv.a (Lv.b (Lv.b (Lv.b (Lv.b (A 18)))))))).c T) H n D)
noncomputable def K18_prrrrlrll (cal : Cal) (k : Nat) (m1 : Nat) : KC (Value × Hp × Nat) := (cutK (Lv.a (Lv.a (Lv.b (Lv.a (Lv.b (Lv.b (Lv.b (Lv.b (A 18))))))))).c (codeE P cal (codeF P cal m1) none 18 (cR (cL (cL (cR (cL (cR (cR (cR (cR code18))))))))) (Lv.b (Lv.a (Lv.a (Lv.b (Lv.a (Lv.b (Lv.b (Lv.b (Lv.b (A 18)))))))))) (K18_prrrrlrl cal k m1) (K18_pxrrrrlr cal k) (doneK P results18)))
noncomputable def K18_prrrrlrlll (cal : Cal) (k : Nat) (m1 : Nat) : KC (Value × Hp × Nat) := (cutK (Lv.a (Lv.a (Lv.a (Lv.b (Lv.a (Lv.b (Lv.b (Lv.b (Lv.b (A 18)))))))))).c (codeE P cal (codeF P cal m1) none 18 (cR (cL (cL (cL (cR (cL (cR (cR (cR (cR code18)))))))))) (Lv.b (Lv.a (Lv.a (Lv.a (Lv.b (Lv.a (Lv.b (Lv.b (Lv.b (Lv.b (A 18))))))))))) (K18_prrrrlrll cal k m1) (K18_pxrrrrlr cal k) (doneK P results18)))
noncomputable def K18_prrrrlrllr (cal : Cal) (k : Nat) (m1 : Nat) : KC (Value × Hp × Nat) := (cutK (Lv.b (Lv.a (Lv.a (Lv.b (Lv.a (Lv.b (Lv.b (Lv.b (Lv.b (A 18)))))))))).c (codeE P cal (codeF P cal m1) none 18 (cR (cR (cL (cL (cR (cL (cR (cR (cR (cR code18)))))))))) (Lv.b (Lv.b (Lv.a (Lv.a (Lv.b (Lv.a (Lv.b (Lv.b (Lv.b (Lv.b (A 18))))))))))) (K18_prrrrlrl cal k m1) (K18_pxrrrrlr cal k) (doneK P results18)))
noncomputable def K18_pxrrrrlrllrl (cal : Cal) (k : Nat) (m1 : Nat) : XC (Value × Hp × Nat) := (upX 5 (K18_prrrrlrllr cal k m1) (K18_pxrrrrlr cal k))
noncomputable def K18_prrrrlrllrll (cal : Cal) (k : Nat) (m1 : Nat) : KC (Value × Hp × Nat) := (cutK (Lv.a (Lv.a (Lv.b (Lv.a (Lv.a (Lv.b (Lv.a (Lv.b (Lv.b (Lv.b (Lv.b (A 18)))))))))))).c (codeE P cal (codeF P cal m1) none 18 (cR (cL (cL (cR (cL (cL (cR (cL (cR (cR (cR (cR code18)))))))))))) (Lv.b (Lv.a (Lv.a (Lv.b (Lv.a (Lv.a (Lv.b (Lv.a (Lv.b (Lv.b (Lv.b (Lv.b (A 18))))))))))))) (K18_prrrrlrllr cal k m1) (K18_pxrrrrlrllrl cal k m1) (doneK P results18)))
noncomputable def K18_prrrrr (cal : Cal) (k : Nat) : KC (Value × Hp × Nat) := (cutK (Lv.b (Lv.b (Lv.b (Lv.b (Lv.b (A 18)))))).c (codeE P cal (codeF P cal k) none 18 (cR (cR (cR (cR (cR (cR code18)))))) (Lv.b (Lv.b (Lv.b (Lv.b (Lv.b (Lv.b (A 18))))))) (doneK P results18) X0 (doneK P results18)))
noncomputable def E18_3 (cal : Cal) (k m1 : Nat) : KC (Value × Hp × Nat) := codeE P cal (codeF P cal m1) none 18 (cL (cL (cR (cL (cR (cR (cR (cR code18)))))))) (Lv.a (Lv.a (Lv.b (Lv.a (Lv.b (Lv.b (Lv.b (Lv.b (A 18))))))))) (K18_prrrrlrl cal k m1) (K18_pxrrrrlr cal k) (doneK P results18)
noncomputable def R18_3 (cal : Cal) (k m1 : Nat) : Value → Value → Value → Value → Hp → Nat → Res := fun u1 u2 u3 u6 H n => codeF P cal m1 (Lv.a (Lv.b (Lv.a (Lv.b (Lv.b (Lv.b (Lv.b (A 18)))))))) none 18 (cL (cR (cL (cR (cR (cR (cR code18))))))) (K18_prrrr cal k) (K18_pxrrrrlr cal k) (doneK P results18) (Tr.set (Tr.set (Tr.set (Tr.set Tr.nil 6 (some u6)) 3 (some u3)) 2 (some u2)) 1 (some u1)) H n []
noncomputable def E18_2 (cal : Cal) (k m1 : Nat) : KC (Value × Hp × Nat) := codeE P cal (codeF P cal m1) none 18 (cL (cL (cR (cL (cR (cR (cR code18))))))) (Lv.a (Lv.a (Lv.b (Lv.a (Lv.b (Lv.b (Lv.b (A 18)))))))) (K18_prrrlrl cal k m1) (K18_pxrrrlr cal k) (doneK P results18)
noncomputable def R18_2 (cal : Cal) (k m1 : Nat) : Value → Value → Value → Value → Hp → Nat → Res := fun u1 u2 u3 u5 H n => codeF P cal m1 (Lv.a (Lv.b (Lv.a (Lv.b (Lv.b (Lv.b (A 18))))))) none 18 (cL (cR (cL (cR (cR (cR code18)))))) (K18_prrr cal k) (K18_pxrrrlr cal k) (doneK P results18) (Tr.set (Tr.set (Tr.set (Tr.set Tr.nil 5 (some u5)) 3 (some u3)) 2 (some u2)) 1 (some u1)) H n []
noncomputable def E18_1 (cal : Cal) (k m1 : Nat) : KC (Value × Hp × Nat) := codeE P cal (codeF P cal m1) none 18 (cL (cL (cR (cL (cR (cR code18)))))) (Lv.a (Lv.a (Lv.b (Lv.a (Lv.b (Lv.b (A 18))))))) (K18_prrlrl cal k m1) (K18_pxrrlr cal k) (doneK P results18)
noncomputable def R18_1 (cal : Cal) (k m1 : Nat) : Value → Value → Value → Value → Hp → Nat → Res := fun u1 u2 u3 u4 H n => codeF P cal m1 (Lv.a (Lv.b (Lv.a (Lv.b (Lv.b (A 18)))))) none 18 (cL (cR (cL (cR (cR code18))))) (K18_prr cal k) (K18_pxrrlr cal k) (doneK P results18) (Tr.set (Tr.set (Tr.set (Tr.set Tr.nil 4 (some u4)) 3 (some u3)) 2 (some u2)) 1 (some u1)) H n []
noncomputable def B18_3 (cal : Cal) (k m1 : Nat) (b3 : Value → Value → Value → Value → Hp → Nat → Res) (u1 u2 u3 u6 : Value) (H : Hp) (n : Nat) : Res :=
bindO (fieldAddrV P 26 u1 2) fun v59_90 =>
bindO (addrV v59_90) fun a_92 => bindO (loadV P H 24 a_92) fun v60_91 =>
bindO (lenV P 24 v60_91) fun v61_93 =>
binK P Go.BinOp.lss 3 (Go.Operand.tmp 58) (Go.Operand.tmp 61) u6 v61_93 fun v62_94 =>
ifK v62_94 (
bindO (fieldAddrV P 26 u1 2) fun v65_95 =>
bindO (addrV v65_95) fun a_97 => bindO (loadV P H 24 a_97) fun v66_96 =>
bindO (indexAddrV P 24 v66_96 u6) fun v68_99 =>
bindO (addrV v68_99) fun a_101 => bindO (loadV P H 94 a_101) fun v69_100 =>
allocK P 94 H n fun v7_102 H_103 n_104 =>
bindO (storeP P 94 v7_102 v69_100 H_103) fun H_106 =>
bindO (fieldAddrV P 35 u3 2) fun v70_107 =>
bindO (addrV v70_107) fun a_108 => bindO (loadV P H_106 33 a_108) fun v_109 =>
bindO (fieldAddrV P 94 v7_102 0) fun v72_110 =>
bindO (addrV v72_110) fun a_111 => bindO (loadV P H_106 3 a_111) fun v_112 =>
bindO (fieldAddrV P 94 v7_102 1) fun v74_113 =>
bindO (addrV v74_113) fun a_114 => bindO (loadV P H_106 55 a_114) fun v_115 =>
bindO (fieldAddrV P 94 v7_102 2) fun v77_116 =>
bindO (addrV v77_116) fun a_117 => bindO (loadV P H_106 55 a_117) fun v_118 =>
effK P [(.l 55 a_117), (.l 3 a_111), (.l 33 a_108)] H_106 n_104 (fun H_119 n_120 k_121 =>
callFK P cal 26 [v_115] H_119 n_120 fun v76_125 H_126 n_127 =>
k_121 v76_125 H_126 n_127) fun v_122 H_123 n_124 =>
effK P [(.l 3 a_111), (.l 33 a_108)] H_123 n_124 (fun H_128 n_129 k_130 =>
callFK P cal 26 [v_118] H_128 n_129 fun v79_134 H_135 n_136 =>
k_130 v79_134 H_135 n_136) fun v_131 H_132 n_133 =>
bindO (buildP P 86 [(0, v_112), (1, v_122), (2, v_131)]) fun v80_137 =>
bindO (rowOf P 33 1 [(0, v80_137)]) fun q_140 => newK q_140.1 q_140.2 H_132 n_133 fun H_138 n_139 =>
stK (appendV P (bare H_138 n_139) 33 33 v_109 (.slice (some ⟨n_133, 0, none⟩) 1 1)) fun v82_141 H_142 n_143 =>
bindO (fieldAddrV P 35 u3 2) fun v83_144 =>
bindO (storeP P 33 v83_144 v82_141 H_142) fun H_146 =>
binK P Go.BinOp.add 3 (Go.Operand.tmp 63) (Go.Operand.const (Go.Value.int Go.IntKind.i64 1)) u6 (Go.Value.int Go.IntKind.i64 1) fun v64_148 =>
b3 u1 u2 u3 v64_148 H_146 n_143) (
bindO (addrV u3) fun a_151 => bindO (loadV P H 35 a_151) fun v84_150 =>
bindO (storeP P 35 u2 v84_150 H) fun H_153 =>
bindO (resV P (Tr.set Tr.nil 2 (some u2)) H_153 results18) fun vs_154 => some (oneV vs_154, H_153, n))
noncomputable def C18_3 (cal : Cal) (k m1 : Nat) (b3 : Value → Value → Value → Value → Hp → Nat → Res) (u1 u2 u3 u6 : Value) (H : Hp) (n : Nat) : Res := B18_3 cal k m1 b3 u1 u2 u3 u6 H n
noncomputable def S18_3 (cal : Cal) (k : Nat) : Nat → Value → Value → Value → Value → Hp → Nat → Res := fun m => Nat.rec (motive := fun _ => Value → Value → Value → Value → Hp → Nat → Res) (C18_3 cal k 0 (fun _ _ _ _ _ _ => none)) (fun m ih => C18_3 cal k (m + 1) ih) m
theorem h18_3 (cal : Cal) (k m1 : Nat) (u1 u2 u3 u6 : Value) (H : Hp) (n : Nat) : labK (E18_3 cal k m1) (Tr.set (Tr.set (Tr.set (Tr.set Tr.nil 6 (some u6)) 3 (some u3)) 2 (some u2)) 1 (some u1)) H n [] = C18_3 cal k m1 (R18_3 cal k m1) u1 u2 u3 u6 H n := by
  have h : labK (E18_3 cal k m1) (Tr.set (Tr.set (Tr.set (Tr.set Tr.nil 6 (some u6)) 3 (some u3)) 2 (some u2)) 1 (some u1)) H n [] = B18_3 cal k m1 (R18_3 cal k m1) u1 u2 u3 u6 H n := by kernel_rfl
  rw [h, C18_3]
theorem q18_3 (cal : Cal) (k : Nat) : ∀ (m : Nat) (u1 u2 u3 u6 : Value) (H : Hp) (n : Nat), labK (E18_3 cal k m) (Tr.set (Tr.set (Tr.set (Tr.set Tr.nil 6 (some u6)) 3 (some u3)) 2 (some u2)) 1 (some u1)) H n [] = S18_3 cal k m u1 u2 u3 u6 H n
  | 0, u1, u2, u3, u6, H, n => by
    rw [h18_3]
    have e : R18_3 cal k 0 = fun _ _ _ _ _ _ => none := by funext u1 u2 u3 u6 H n; kernel_rfl
    rw [e]; rfl
  | m + 1, u1, u2, u3, u6, H, n => by
    rw [h18_3]
    have e : R18_3 cal k (m + 1) = S18_3 cal k m := by
      funext u1 u2 u3 u6 H n
      have e : R18_3 cal k (m + 1) u1 u2 u3 u6 H n = labK (E18_3 cal k m) (Tr.set (Tr.set (Tr.set (Tr.set Tr.nil 6 (some u6)) 3 (some u3)) 2 (some u2)) 1 (some u1)) H n [] := by kernel_rfl
      rw [e]; exact q18_3 ..
    rw [e]; rfl
noncomputable def B18_2 (cal : Cal) (k m1 : Nat) (j3 : Value → Value → Value → Value → Hp → Nat → Res) (b2 : Value → Value → Value → Value → Hp → Nat → Res) (u1 u2 u3 u5 : Value) (H : Hp) (n : Nat) : Res :=
bindO (fieldAddrV P 26 u1 1) fun v34_51 =>
bindO (addrV v34_51) fun a_53 => bindO (loadV P H 23 a_53) fun v35_52 =>
bindO (lenV P 23 v35_52) fun v36_54 =>
binK P Go.BinOp.lss 3 (Go.Operand.tmp 33) (Go.Operand.tmp 36) u5 v36_54 fun v37_55 =>
ifK v37_55 (
bindO (fieldAddrV P 35 u3 1) fun v40_56 =>
bindO (addrV v40_56) fun a_57 => bindO (loadV P H 32 a_57) fun v_58 =>
bindO (fieldAddrV P 26 u1 1) fun v42_59 =>
bindO (addrV v42_59) fun a_60 => bindO (loadV P H 23 a_60) fun v_61 =>
bindO (indexAddrV P 23 v_61 u5) fun v45_63 =>
bindO (fieldAddrV P 104 v45_63 0) fun v46_64 =>
bindO (addrV v46_64) fun a_65 => bindO (loadV P H 3 a_65) fun v_66 =>
bindO (fieldAddrV P 26 u1 1) fun v48_67 =>
bindO (addrV v48_67) fun a_68 => bindO (loadV P H 23 a_68) fun v_69 =>
bindO (indexAddrV P 23 v_69 u5) fun v51_71 =>
bindO (fieldAddrV P 104 v51_71 1) fun v52_72 =>
bindO (addrV v52_72) fun a_73 => bindO (loadV P H 3 a_73) fun v_74 =>
bindO (buildP P 88 [(0, v_66), (1, v_74)]) fun v54_75 =>
bindO (rowOf P 32 1 [(0, v54_75)]) fun q_78 => newK q_78.1 q_78.2 H n fun H_76 n_77 =>
stK (appendV P (bare H_76 n_77) 32 32 v_58 (.slice (some ⟨n, 0, none⟩) 1 1)) fun v56_79 H_80 n_81 =>
bindO (fieldAddrV P 35 u3 1) fun v57_82 =>
bindO (storeP P 32 v57_82 v56_79 H_80) fun H_84 =>
binK P Go.BinOp.add 3 (Go.Operand.tmp 38) (Go.Operand.const (Go.Value.int Go.IntKind.i64 1)) u5 (Go.Value.int Go.IntKind.i64 1) fun v39_86 =>
b2 u1 u2 u3 v39_86 H_84 n_81) (
j3 u1 u2 u3 (Go.Value.int Go.IntKind.i64 0) H n)
noncomputable def C18_2 (cal : Cal) (k m1 : Nat) (b2 : Value → Value → Value → Value → Hp → Nat → Res) (u1 u2 u3 u5 : Value) (H : Hp) (n : Nat) : Res := B18_2 cal k m1 (S18_3 cal k k) b2 u1 u2 u3 u5 H n
noncomputable def S18_2 (cal : Cal) (k : Nat) : Nat → Value → Value → Value → Value → Hp → Nat → Res := fun m => Nat.rec (motive := fun _ => Value → Value → Value → Value → Hp → Nat → Res) (C18_2 cal k 0 (fun _ _ _ _ _ _ => none)) (fun m ih => C18_2 cal k (m + 1) ih) m
theorem h18_2 (cal : Cal) (k m1 : Nat) (u1 u2 u3 u5 : Value) (H : Hp) (n : Nat) : labK (E18_2 cal k m1) (Tr.set (Tr.set (Tr.set (Tr.set Tr.nil 5 (some u5)) 3 (some u3)) 2 (some u2)) 1 (some u1)) H n [] = C18_2 cal k m1 (R18_2 cal k m1) u1 u2 u3 u5 H n := by
  have h : labK (E18_2 cal k m1) (Tr.set (Tr.set (Tr.set (Tr.set Tr.nil 5 (some u5)) 3 (some u3)) 2 (some u2)) 1 (some u1)) H n [] = B18_2 cal k m1 (fun u1 u2 u3 u6 H n => labK (E18_3 cal k k) (Tr.set (Tr.set (Tr.set (Tr.set Tr.nil 6 (some u6)) 3 (some u3)) 2 (some u2)) 1 (some u1)) H n []) (R18_2 cal k m1) u1 u2 u3 u5 H n := by kernel_rfl
  rw [h, C18_2]
  have e3 : (fun u1 u2 u3 u6 H n => labK (E18_3 cal k k) (Tr.set (Tr.set (Tr.set (Tr.set Tr.nil 6 (some u6)) 3 (some u3)) 2 (some u2)) 1 (some u1)) H n []) = (S18_3 cal k k) := by funext u1 u2 u3 u6 H n; exact q18_3 ..
  rw [e3]
theorem q18_2 (cal : Cal) (k : Nat) : ∀ (m : Nat) (u1 u2 u3 u5 : Value) (H : Hp) (n : Nat), labK (E18_2 cal k m) (Tr.set (Tr.set (Tr.set (Tr.set Tr.nil 5 (some u5)) 3 (some u3)) 2 (some u2)) 1 (some u1)) H n [] = S18_2 cal k m u1 u2 u3 u5 H n
  | 0, u1, u2, u3, u5, H, n => by
    rw [h18_2]
    have e : R18_2 cal k 0 = fun _ _ _ _ _ _ => none := by funext u1 u2 u3 u5 H n; kernel_rfl
    rw [e]; rfl
  | m + 1, u1, u2, u3, u5, H, n => by
    rw [h18_2]
    have e : R18_2 cal k (m + 1) = S18_2 cal k m := by
      funext u1 u2 u3 u5 H n
      have e : R18_2 cal k (m + 1) u1 u2 u3 u5 H n = labK (E18_2 cal k m) (Tr.set (Tr.set (Tr.set (Tr.set Tr.nil 5 (some u5)) 3 (some u3)) 2 (some u2)) 1 (some u1)) H n [] := by kernel_rfl
      rw [e]; exact q18_2 ..
    rw [e]; rfl
noncomputable def B18_1 (cal : Cal) (k m1 : Nat) (j2 : Value → Value → Value → Value → Hp → Nat → Res) (b1 : Value → Value → Value → Value → Hp → Nat → Res) (u1 u2 u3 u4 : Value) (H : Hp) (n : Nat) : Res :=
bindO (fieldAddrV P 26 u1 0) fun v9_12 =>
bindO (addrV v9_12) fun a_14 => bindO (loadV P H 22 a_14) fun v10_13 =>
bindO (lenV P 22 v10_13) fun v11_15 =>
binK P Go.BinOp.lss 3 (Go.Operand.tmp 8) (Go.Operand.tmp 11) u4 v11_15 fun v12_16 =>
ifK v12_16 (
bindO (fieldAddrV P 35 u3 0) fun v15_17 =>
bindO (addrV v15_17) fun a_18 => bindO (loadV P H 31 a_18) fun v_19 =>
bindO (fieldAddrV P 26 u1 0) fun v17_20 =>
bindO (addrV v17_20) fun a_21 => bindO (loadV P H 22 a_21) fun v_22 =>
bindO (indexAddrV P 22 v_22 u4) fun v20_24 =>
bindO (fieldAddrV P 95 v20_24 0) fun v21_25 =>
bindO (addrV v21_25) fun a_26 => bindO (loadV P H 3 a_26) fun v_27 =>
bindO (fieldAddrV P 26 u1 0) fun v23_28 =>
bindO (addrV v23_28) fun a_29 => bindO (loadV P H 22 a_29) fun v_30 =>
bindO (indexAddrV P 22 v_30 u4) fun v26_32 =>
bindO (fieldAddrV P 95 v26_32 1) fun v27_33 =>
bindO (addrV v27_33) fun a_34 => bindO (loadV P H 3 a_34) fun v_35 =>
bindO (buildP P 90 [(0, v_27), (1, v_35)]) fun v29_36 =>
bindO (rowOf P 31 1 [(0, v29_36)]) fun q_39 => newK q_39.1 q_39.2 H n fun H_37 n_38 =>
stK (appendV P (bare H_37 n_38) 31 31 v_19 (.slice (some ⟨n, 0, none⟩) 1 1)) fun v31_40 H_41 n_42 =>
bindO (fieldAddrV P 35 u3 0) fun v32_43 =>
bindO (storeP P 31 v32_43 v31_40 H_41) fun H_45 =>
binK P Go.BinOp.add 3 (Go.Operand.tmp 13) (Go.Operand.const (Go.Value.int Go.IntKind.i64 1)) u4 (Go.Value.int Go.IntKind.i64 1) fun v14_47 =>
b1 u1 u2 u3 v14_47 H_45 n_42) (
j2 u1 u2 u3 (Go.Value.int Go.IntKind.i64 0) H n)
noncomputable def C18_1 (cal : Cal) (k m1 : Nat) (b1 : Value → Value → Value → Value → Hp → Nat → Res) (u1 u2 u3 u4 : Value) (H : Hp) (n : Nat) : Res := B18_1 cal k m1 (S18_2 cal k k) b1 u1 u2 u3 u4 H n
noncomputable def S18_1 (cal : Cal) (k : Nat) : Nat → Value → Value → Value → Value → Hp → Nat → Res := fun m => Nat.rec (motive := fun _ => Value → Value → Value → Value → Hp → Nat → Res) (C18_1 cal k 0 (fun _ _ _ _ _ _ => none)) (fun m ih => C18_1 cal k (m + 1) ih) m
theorem h18_1 (cal : Cal) (k m1 : Nat) (u1 u2 u3 u4 : Value) (H : Hp) (n : Nat) : labK (E18_1 cal k m1) (Tr.set (Tr.set (Tr.set (Tr.set Tr.nil 4 (some u4)) 3 (some u3)) 2 (some u2)) 1 (some u1)) H n [] = C18_1 cal k m1 (R18_1 cal k m1) u1 u2 u3 u4 H n := by
  have h : labK (E18_1 cal k m1) (Tr.set (Tr.set (Tr.set (Tr.set Tr.nil 4 (some u4)) 3 (some u3)) 2 (some u2)) 1 (some u1)) H n [] = B18_1 cal k m1 (fun u1 u2 u3 u5 H n => labK (E18_2 cal k k) (Tr.set (Tr.set (Tr.set (Tr.set Tr.nil 5 (some u5)) 3 (some u3)) 2 (some u2)) 1 (some u1)) H n []) (R18_1 cal k m1) u1 u2 u3 u4 H n := by kernel_rfl
  rw [h, C18_1]
  have e2 : (fun u1 u2 u3 u5 H n => labK (E18_2 cal k k) (Tr.set (Tr.set (Tr.set (Tr.set Tr.nil 5 (some u5)) 3 (some u3)) 2 (some u2)) 1 (some u1)) H n []) = (S18_2 cal k k) := by funext u1 u2 u3 u5 H n; exact q18_2 ..
  rw [e2]
theorem q18_1 (cal : Cal) (k : Nat) : ∀ (m : Nat) (u1 u2 u3 u4 : Value) (H : Hp) (n : Nat), labK (E18_1 cal k m) (Tr.set (Tr.set (Tr.set (Tr.set Tr.nil 4 (some u4)) 3 (some u3)) 2 (some u2)) 1 (some u1)) H n [] = S18_1 cal k m u1 u2 u3 u4 H n
  | 0, u1, u2, u3, u4, H, n => by
    rw [h18_1]
    have e : R18_1 cal k 0 = fun _ _ _ _ _ _ => none := by funext u1 u2 u3 u4 H n; kernel_rfl
    rw [e]; rfl
  | m + 1, u1, u2, u3, u4, H, n => by
    rw [h18_1]
    have e : R18_1 cal k (m + 1) = S18_1 cal k m := by
      funext u1 u2 u3 u4 H n
      have e : R18_1 cal k (m + 1) u1 u2 u3 u4 H n = labK (E18_1 cal k m) (Tr.set (Tr.set (Tr.set (Tr.set Tr.nil 4 (some u4)) 3 (some u3)) 2 (some u2)) 1 (some u1)) H n [] := by kernel_rfl
      rw [e]; exact q18_1 ..
    rw [e]; rfl
noncomputable def B18_0 (cal : Cal) (k : Nat) (j1 : Value → Value → Value → Value → Hp → Nat → Res) (v0 : Value) (H : Hp) (n : Nat) : Res :=
boxK 26 v0 H n fun v1_1 H_2 n_3 =>
allocK P 35 H_2 n_3 fun v2_4 H_5 n_6 =>
allocK P 35 H_5 n_6 fun v3_7 H_8 n_9 =>
j1 v1_1 v2_4 v3_7 (Go.Value.int Go.IntKind.i64 0) H_8 n_9
noncomputable def C18_0 (cal : Cal) (k : Nat) (v0 : Value) (H : Hp) (n : Nat) : Res := B18_0 cal k (S18_1 cal k k) v0 H n
theorem h18_0 (cal : Cal) (k : Nat) (v0 : Value) (H : Hp) (n : Nat) : bodyE P cal A (k + 1) 18 [v0] H n = C18_0 cal k v0 H n := by
  have h : bodyE P cal A (k + 1) 18 [v0] H n = B18_0 cal k (fun u1 u2 u3 u4 H n => labK (E18_1 cal k k) (Tr.set (Tr.set (Tr.set (Tr.set Tr.nil 4 (some u4)) 3 (some u3)) 2 (some u2)) 1 (some u1)) H n []) v0 H n := by
    rw [body_eq (fn := Go.Proofs.Try.f18) (c := code18) (rs := results18) (by kernel_rfl) (by kernel_rfl) (by kernel_rfl) (by kernel_rfl)]
    kernel_rfl
  rw [h, C18_0]
  have e1 : (fun u1 u2 u3 u4 H n => labK (E18_1 cal k k) (Tr.set (Tr.set (Tr.set (Tr.set Tr.nil 4 (some u4)) 3 (some u3)) 2 (some u2)) 1 (some u1)) H n []) = (S18_1 cal k k) := by funext u1 u2 u3 u4 H n; exact q18_1 ..
  rw [e1]
noncomputable def code19 : Code := codeOf 19
noncomputable def results19 : List ResultVar := resOf 19
noncomputable def K19_p (cal : Cal) (k : Nat) : KC (Value × Hp × Nat) := (cutK (A 19).c (codeE P cal (codeF P cal k) none 19 (cR code19) (Lv.b (A 19)) (doneK P results19) X0 (doneK P results19)))
noncomputable def K19_pr (cal : Cal) (k : Nat) : KC (Value × Hp × Nat) := (cutK (Lv.b (A 19)).c (codeE P cal (codeF P cal k) none 19 (cR (cR code19)) (Lv.b (Lv.b (A 19))) (doneK P results19) X0 (doneK P results19)))
noncomputable def K19_prr (cal : Cal) (k : Nat) : KC (Value × Hp × Nat) := (cutK (Lv.b (Lv.b (A 19))).c (codeE P cal (codeF P cal k) none 19 (cR (cR (cR code19))) (Lv.b (Lv.b (Lv.b (A 19)))) (doneK P results19) X0 (doneK P results19)))
noncomputable def K19_prrl (cal : Cal) (k : Nat) : KC (Value × Hp × Nat) := (cutK (Lv.a (Lv.b (Lv.b (A 19)))).c (codeE P cal (codeF P cal k) none 19 (cR (cL (cR (cR code19)))) (Lv.b (Lv.a (Lv.b (Lv.b (A 19))))) (K19_prr cal k) X0 (doneK P results19)))
noncomputable def K19_prrlrl (cal : Cal) (k : Nat) : KC (Value × Hp × Nat) := (cutK (Lv.a (Lv.b (Lv.a (Lv.b (Lv.b (A 19)))))).c (codeE P cal (codeF P cal k) none 19 (cR (cL (cR (cL (cR (cR code19)))))) (Lv.b (Lv.a (Lv.b (Lv.a (Lv.b (Lv.b (A 19))))))) (K19_prr cal k) X0 (doneK P results19)))
noncomputable def K19_prrr (cal : Cal) (k : Nat) : KC (Value × Hp × Nat) := (cutK (Lv.b (Lv.b (Lv.b (A 19)))).c (codeE P cal (codeF P cal k) none 19 (cR (cR (cR (cR code19)))) (Lv.b (Lv.b (Lv.b (Lv.b (A 19))))) (doneK P results19) X0 (doneK P results19)))
noncomputable def K19_prrrr (cal : Cal) (k : Nat) : KC (Value × Hp × Nat) := (cutK (Lv.b (Lv.b (Lv.b (Lv.b (A 19))))).c (codeE P cal (codeF P cal k) none 19 (cR (cR (cR (cR (cR code19))))) (Lv.b (Lv.b (Lv.b (Lv.b (Lv.b (A 19)))))) (doneK P results19) X0 (doneK P results19)))
noncomputable def K19_prrrrl (cal : Cal) (k : Nat) : KC (Value × Hp × Nat) := (cutK (Lv.a (Lv.b (Lv.b (Lv.b (Lv.b (A 19)))))).c (codeE P cal (codeF P cal k) none 19 (cR (cL (cR (cR (cR (cR code19)))))) (Lv.b (Lv.a (Lv.b (Lv.b (Lv.b (Lv.b (A 19))))))) (K19_prrrr cal k) X0 (doneK P results19)))
noncomputable def K19_pxrrrrlr (cal : Cal) (k : Nat) : XC (Value × Hp × Nat) := (upX 0 (K19_prrrr cal k) X0)
noncomputable def K19_prrrrlrl (cal : Cal) (k : Nat) (m1 : Nat) : KC (Value × Hp × Nat) := (fun T H n D => codeF P cal m1 (Lv.a (Lv.b (Lv.a (Lv.b (Lv.b (Lv.b (Lv.b (A 19)))))))) none 19 (cL (cR (cL (cR (cR (cR (cR code19))))))) (K19_prrrr cal k) (K19_pxrrrrlr cal k) (doneK P results19) (cutT (Lv.a (Lv.b (Lv.a (Lv.b (Lv.b (Lv.b (Lv.b (A 19)))))))).c T) H n D)
noncomputable def K19_prrrrlrll (cal : Cal) (k : Nat) (m1 : Nat) : KC (Value × Hp × Nat) := (cutK (Lv.a (Lv.a (Lv.b (Lv.a (Lv.b (Lv.b (Lv.b (Lv.b (A 19))))))))).c (codeE P cal (codeF P cal m1) none 19 (cR (cL (cL (cR (cL (cR (cR (cR (cR code19))))))))) (Lv.b (Lv.a (Lv.a (Lv.b (Lv.a (Lv.b (Lv.b (Lv.b (Lv.b (A 19)))))))))) (K19_prrrrlrl cal k m1) (K19_pxrrrrlr cal k) (doneK P results19)))
noncomputable def K19_prrrrlrllr (cal : Cal) (k : Nat) (m1 : Nat) : KC (Value × Hp × Nat) := (cutK (Lv.b (Lv.a (Lv.a (Lv.b (Lv.a (Lv.b (Lv.b (Lv.b (Lv.b (A 19)))))))))).c (codeE P cal (codeF P cal m1) none 19 (cR (cR (cL (cL (cR (cL (cR (cR (cR (cR code19)))))))))) (Lv.b (Lv.b (Lv.a (Lv.a (Lv.b (Lv.a (Lv.b (Lv.b (Lv.b (Lv.b (A 19))))))))))) (K19_prrrrlrl cal k m1) (K19_pxrrrrlr cal k) (doneK P results19)))
noncomputable def K19_prrrrlrllrr (cal : Cal) (k : Nat) (m1 : Nat) : KC (Value × Hp × Nat) := (cutK (Lv.b (Lv.b (Lv.a (Lv.a (Lv.b (Lv.a (Lv.b (Lv.b (Lv.b (Lv.b (A 19))))))))))).c (codeE P cal (codeF P cal m1) none 19 (cR (cR (cR (cL (cL (cR (cL (cR (cR (cR (cR code19))))))))))) (Lv.b (Lv.b (Lv.b (Lv.a (Lv.a (Lv.b (Lv.a (Lv.b (Lv.b (Lv.b (Lv.b (A 19)))))))))))) (K19_prrrrlrl cal k m1) (K19_pxrrrrlr cal k) (doneK P results19)))
noncomputable def K19_pxrrrrlrllrrl (cal : Cal) (k : Nat) (m1 : Nat) : XC (Value × Hp × Nat) := (upX 1 (K19_prrrrlrllrr cal k m1) (K19_pxrrrrlr cal k))
noncomputable def K19_prrrrlrllrrll (cal : Cal) (k : Nat) (m1 : Nat) : KC (Value × Hp × Nat) := (cutK (Lv.a (Lv.a (Lv.b (Lv.b (Lv.a (Lv.a (Lv.b (Lv.a (Lv.b (Lv.b (Lv.b (Lv.b (A 19))))))))))))).c (codeE P cal (codeF P cal m1) none 19 (cR (cL (cL (cR (cR (cL (cL (cR (cL (cR (cR (cR (cR code19))))))))))))) (Lv.b (Lv.a (Lv.a (Lv.b (Lv.b (Lv.a (Lv.a (Lv.b (Lv.a (Lv.b (Lv.b (Lv.b (Lv.b (A 19)))))))))))))) (K19_prrrrlrllrr cal k m1) (K19_pxrrrrlrllrrl cal k m1) (doneK P results19)))
noncomputable def K19_prrrrlrllrrllr (cal : Cal) (k : Nat) (m1 : Nat) : KC (Value × Hp × Nat) := (cutK (Lv.b (Lv.a (Lv.a (Lv.b (Lv.b (Lv.a (Lv.a (Lv.b (Lv.a (Lv.b (Lv.b (Lv.b (Lv.b (A 19)))))))))))))).c (codeE P cal (codeF P cal m1) none 19 (cR (cR (cL (cL (cR (cR (cL (cL (cR (cL (cR (cR (cR (cR code19)))))))))))))) (Lv.b (Lv.b (Lv.a (Lv.a (Lv.b (Lv.b (Lv.a (Lv.a (Lv.b (Lv.a (Lv.b (Lv.b (Lv.b (Lv.b (A 19))))))))))))))) (K19_prrrrlrllrr cal k m1) (K19_pxrrrrlrllrrl cal k m1) (doneK P results19)))
noncomputable def K19_pxrrrrlrllrrllrr (cal : Cal) (k : Nat) (m1 : Nat) : XC (Value × Hp × Nat) := (upX 2 (K19_prrrrlrllrr cal k m1) (K19_pxrrrrlrllrrl cal k m1))
noncomputable def K19_prrrrlrllrrllrrl (cal : Cal) (k : Nat) (m1 : Nat) (m2 : Nat) : KC (Value × Hp × Nat) := (fun T H n D => codeF P cal m2 (Lv.a (Lv.b (Lv.b (Lv.a (Lv.a (Lv.b (Lv.b (Lv.a (Lv.a (Lv.b (Lv.a (Lv.b (Lv.b (Lv.b (Lv.b (A 19)))))))))))))))) none 19 (cL (cR (cR (cL (cL (cR (cR (cL (cL (cR (cL (cR (cR (cR (cR code19))))))))))))))) (K19_prrrrlrllrr cal k m1) (K19_pxrrrrlrllrrllrr cal k m1) (doneK P results19) (cutT (Lv.a (Lv.b (Lv.b (Lv.a (Lv.a (Lv.b (Lv.b (Lv.a (Lv.a (Lv.b (Lv.a (Lv.b (Lv.b (Lv.b (Lv.b (A 19)))))))))))))))).c T) H n D)
noncomputable def K19_prrrrlrllrrllrrll (cal : Cal) (k : Nat) (m1 : Nat) (m2 : Nat) : KC (Value × Hp × Nat) := (cutK (Lv.a (Lv.a (Lv.b (Lv.b (Lv.a (Lv.a (Lv.b (Lv.b (Lv.a (Lv.a (Lv.b (Lv.a (Lv.b (Lv.b (Lv.b (Lv.b (A 19))))))))))))))))).c (codeE P cal (codeF P cal m2) none 19 (cR (cL (cL (cR (cR (cL (cL (cR (cR (cL (cL (cR (cL (cR (cR (cR (cR code19))))))))))))))))) (Lv.b (Lv.a (Lv.a (Lv.b (Lv.b (Lv.a (Lv.a (Lv.b (Lv.b (Lv.a (Lv.a (Lv.b (Lv.a (Lv.b (Lv.b (Lv.b (Lv.b (A 19)))))))))))))))))) (K19_prrrrlrllrrllrrl cal k m1 m2) (K19_pxrrrrlrllrrllrr cal k m1) (doneK P results19)))
noncomputable def K19_prrrrlrllrrllrrllr (cal : Cal) (k : Nat) (m1 : Nat) (m2 : Nat) : KC (Value × Hp × Nat) := (cutK (Lv.b (Lv.a (Lv.a (Lv.b (Lv.b (Lv.a (Lv.a (Lv.b (Lv.b (Lv.a (Lv.a (Lv.b (Lv.a (Lv.b (Lv.b (Lv.b (Lv.b (A 19)))))))))))))))))).c (codeE P cal (codeF P cal m2) none 19 (cR (cR (cL (cL (cR (cR (cL (cL (cR (cR (cL (cL (cR (cL (cR (cR (cR (cR code19)))))))))))))))))) (Lv.b (Lv.b (Lv.a (Lv.a (Lv.b (Lv.b (Lv.a (Lv.a (Lv.b (Lv.b (Lv.a (Lv.a (Lv.b (Lv.a (Lv.b (Lv.b (Lv.b (Lv.b (A 19))))))))))))))))))) (K19_prrrrlrllrrllrrl cal k m1 m2) (K19_pxrrrrlrllrrllrr cal k m1) (doneK P results19)))
noncomputable def K19_prrrrlrllrrllrrllrr (cal : Cal) (k : Nat) (m1 : Nat) (m2 : Nat) : KC (Value × Hp × Nat) := (cutK (Lv.b (Lv.b (Lv.a (Lv.a (Lv.b (Lv.b (Lv.a (Lv.a (Lv.b (Lv.b (Lv.a (Lv.a (Lv.b (Lv.a (Lv.b (Lv.b (Lv.b (Lv.b (A 19))))))))))))))))))).c (codeE P cal (codeF P cal m2) none 19 (cR (cR (cR (cL (cL (cR (cR (cL (cL (cR (cR (cL (cL (cR (cL (cR (cR (cR (cR code19))))))))))))))))))) (Lv.b (Lv.b (Lv.b (Lv.a (Lv.a (Lv.b (Lv.b (Lv.a (Lv.a (Lv.b (Lv.b (Lv.a (Lv.a (Lv.b (Lv.a (Lv.b (Lv.b (Lv.b (Lv.b (A 19)))))))))))))))))))) (K19_prrrrlrllrrllrrl cal k m1 m2) (K19_pxrrrrlrllrrllrr cal k m1) (doneK P results19)))
noncomputable def K19_pxrrrrlrllrrllrrllrrl (cal : Cal) (k : Nat) (m1 : Nat) (m2 : Nat) : XC (Value × Hp × Nat) := (upX 3 (K19_prrrrlrllrrllrrllrr cal k m1 m2) (K19_pxrrrrlrllrrllrr cal k m1))
noncomputable def K19_prrrrlrllrrllrrllrrll (cal : Cal) (k : Nat) (m1 : Nat) (m2 : Nat) : KC (Value × Hp × Nat) := (cutK (Lv.a (Lv.a (Lv.b (Lv.b (Lv.a (Lv.a (Lv.b (Lv.b (Lv.a (Lv.a (Lv.b (Lv.b (Lv.a (Lv.a (Lv.b (Lv.a (Lv.b (Lv.b (Lv.b (Lv.b (A 19))))))))))))))))))))).c (codeE P cal (codeF P cal m2) none 19 (cR (cL (cL (cR (cR (cL (cL (cR (cR (cL (cL (cR (cR (cL (cL (cR (cL (cR (cR (cR (cR code19))))))))))))))))))))) (Lv.b (Lv.a (Lv.a (Lv.b (Lv.b (Lv.a (Lv.a (Lv.b (Lv.b (Lv.a (Lv.a (Lv.b (Lv.b (Lv.a (Lv.a (Lv.b (Lv.a (Lv.b (Lv.b (Lv.b (Lv.b (A 19)))))))))))))))))))))) (K19_prrrrlrllrrllrrllrr cal k m1 m2) (K19_pxrrrrlrllrrllrrllrrl cal k m1 m2) (doneK P results19)))
noncomputable def K19_prrrrr (cal : Cal) (k : Nat) : KC (Value × Hp × Nat) := (cutK (Lv.b (Lv.b (Lv.b (Lv.b (Lv.b (A 19)))))).c (codeE P cal (codeF P cal k) none 19 (cR (cR (cR (cR (cR (cR code19)))))) (Lv.b (Lv.b (Lv.b (Lv.b (Lv.b (Lv.b (A 19))))))) (doneK P results19) X0 (doneK P results19)))
noncomputable def E19_2 (cal : Cal) (k m1 m2 : Nat) : KC (Value × Hp × Nat) := codeE P cal (codeF P cal m2) none 19 (cL (cL (cR (cR (cL (cL (cR (cR (cL (cL (cR (cL (cR (cR (cR (cR code19)))))))))))))))) (Lv.a (Lv.a (Lv.b (Lv.b (Lv.a (Lv.a (Lv.b (Lv.b (Lv.a (Lv.a (Lv.b (Lv.a (Lv.b (Lv.b (Lv.b (Lv.b (A 19))))))))))))))))) (K19_prrrrlrllrrllrrl cal k m1 m2) (K19_pxrrrrlrllrrllrr cal k m1) (doneK P results19)
noncomputable def R19_2 (cal : Cal) (k m1 m2 : Nat) : Value → Value → Value → Value → Value → Value → Value → Hp → Nat → Res := fun u4 u6 u7 u29 u30 u38 u39 H n => codeF P cal m2 (Lv.a (Lv.b (Lv.b (Lv.a (Lv.a (Lv.b (Lv.b (Lv.a (Lv.a (Lv.b (Lv.a (Lv.b (Lv.b (Lv.b (Lv.b (A 19)))))))))))))))) none 19 (cL (cR (cR (cL (cL (cR (cR (cL (cL (cR (cL (cR (cR (cR (cR code19))))))))))))))) (K19_prrrrlrllrr cal k m1) (K19_pxrrrrlrllrrllrr cal k m1) (doneK P results19) (Tr.set (Tr.set (Tr.set (Tr.set (Tr.set (Tr.set (Tr.set Tr.nil 39 (some u39)) 38 (some u38)) 30 (some u30)) 29 (some u29)) 7 (some u7)) 6 (some u6)) 4 (some u4)) H n []
noncomputable def E19_1 (cal : Cal) (k m1 : Nat) : KC (Value × Hp × Nat) := codeE P cal (codeF P cal m1) none 19 (cL (cL (cR (cL (cR (cR (cR (cR code19)))))))) (Lv.a (Lv.a (Lv.b (Lv.a (Lv.b (Lv.b (Lv.b (Lv.b (A 19))))))))) (K19_prrrrlrl cal k m1) (K19_pxrrrrlr cal k) (doneK P results19)
noncomputable def R19_1 (cal : Cal) (k m1 : Nat) : Value → Value → Value → Value → Hp → Nat → Res := fun u4 u6 u29 u30 H n => codeF P cal m1 (Lv.a (Lv.b (Lv.a (Lv.b (Lv.b (Lv.b (Lv.b (A 19)))))))) none 19 (cL (cR (cL (cR (cR (cR (cR code19))))))) (K19_prrrr cal k) (K19_pxrrrrlr cal k) (doneK P results19) (Tr.set (Tr.set (Tr.set (Tr.set Tr.nil 30 (some u30)) 29 (some u29)) 6 (some u6)) 4 (some u4)) H n []
noncomputable def B19_2 (cal : Cal) (k m1 m2 : Nat) (b1 : Value → Value → Value → Value → Hp → Nat → Res) (b2 : Value → Value → Value → Value → Value → Value → Value → Hp → Nat → Res) (u4 u6 u7 u29 u30 u38 u39 : Value) (H : Hp) (n : Nat) : Res :=
binK P Go.BinOp.lss 3 (Go.Operand.tmp 39) (Go.Operand.tmp 38) u39 u38 fun v40_51 =>
ifK v40_51 (
bindO (indexAddrV P 37 u6 u7) fun v46_58 =>
bindO (addrV v46_58) fun a_59 => bindO (loadV P H 41 a_59) fun v_60 =>
bindO (nilV u4) fun v51_64 =>
bindO (fieldAddrV P 117 v51_64 2) fun v52_65 =>
bindO (indexAddrV P 115 v52_65 u7) fun v53_66 =>
bindO (indexAddrV P 114 v53_66 u39) fun v54_67 =>
bindO (addrV v54_67) fun a_68 => bindO (loadV P H 113 a_68) fun v_69 =>
effK P [(.l 41 a_59)] H n (fun H_70 n_71 k_72 =>
callFK P cal 62 [v_69] H_70 n_71 fun v56_76 H_77 n_78 =>
k_72 v56_76 H_77 n_78) fun v_73 H_74 n_75 =>
bindO (rowOf P 41 1 [(0, v_73)]) fun q_81 => newK q_81.1 q_81.2 H_74 n_75 fun H_79 n_80 =>
stK (appendV P (bare H_79 n_80) 41 41 v_60 (.slice (some ⟨n_75, 0, none⟩) 1 1)) fun v58_82 H_83 n_84 =>
bindO (indexAddrV P 37 u6 u7) fun v59_85 =>
bindO (storeP P 41 v59_85 v58_82 H_83) fun H_87 =>
binK P Go.BinOp.add 3 (Go.Operand.tmp 39) (Go.Operand.const (Go.Value.int Go.IntKind.i64 1)) u39 (Go.Value.int Go.IntKind.i64 1) fun v60_88 =>
b2 u4 u6 u7 u29 u30 u38 v60_88 H_87 n_84) (
binK P Go.BinOp.add 3 (Go.Operand.tmp 30) (Go.Operand.const (Go.Value.int Go.IntKind.i64 1)) u30 (Go.Value.int Go.IntKind.i64 1) fun v61_90 =>
b1 u4 u6 u29 v61_90 H n)
noncomputable def C19_2 (cal : Cal) (k m1 m2 : Nat) (b1 : Value → Value → Value → Value → Hp → Nat → Res) (b2 : Value → Value → Value → Value → Value → Value → Value → Hp → Nat → Res) (u4 u6 u7 u29 u30 u38 u39 : Value) (H : Hp) (n : Nat) : Res := B19_2 cal k m1 m2 b1 b2 u4 u6 u7 u29 u30 u38 u39 H n
noncomputable def S19_2 (cal : Cal) (k m1 : Nat) (b1 : Value → Value → Value → Value → Hp → Nat → Res) : Nat → Value → Value → Value → Value → Value → Value → Value → Hp → Nat → Res := fun m => Nat.rec (motive := fun _ => Value → Value → Value → Value → Value → Value → Value → Hp → Nat → Res) (C19_2 cal k m1 0 b1 (fun _ _ _ _ _ _ _ _ _ => none)) (fun m ih => C19_2 cal k m1 (m + 1) b1 ih) m
theorem h19_2 (cal : Cal) (k m1 m2 : Nat) (u4 u6 u7 u29 u30 u38 u39 : Value) (H : Hp) (n : Nat) : labK (E19_2 cal k m1 m2) (Tr.set (Tr.set (Tr.set (Tr.set (Tr.set (Tr.set (Tr.set Tr.nil 39 (some u39)) 38 (some u38)) 30 (some u30)) 29 (some u29)) 7 (some u7)) 6 (some u6)) 4 (some u4)) H n [] = C19_2 cal k m1 m2 (R19_1 cal k m1) (R19_2 cal k m1 m2) u4 u6 u7 u29 u30 u38 u39 H n := by
  have h : labK (E19_2 cal k m1 m2) (Tr.set (Tr.set (Tr.set (Tr.set (Tr.set (Tr.set (Tr.set Tr.nil 39 (some u39)) 38 (some u38)) 30 (some u30)) 29 (some u29)) 7 (some u7)) 6 (some u6)) 4 (some u4)) H n [] = B19_2 cal k m1 m2 (R19_1 cal k m1) (R19_2 cal k m1 m2) u4 u6 u7 u29 u30 u38 u39 H n := by kernel_rfl
  rw [h, C19_2]
theorem q19_2 (cal : Cal) (k m1 : Nat) : ∀ (m : Nat) (u4 u6 u7 u29 u30 u38 u39 : Value) (H : Hp) (n : Nat), labK (E19_2 cal k m1 m) (Tr.set (Tr.set (Tr.set (Tr.set (Tr.set (Tr.set (Tr.set Tr.nil 39 (some u39)) 38 (some u38)) 30 (some u30)) 29 (some u29)) 7 (some u7)) 6 (some u6)) 4 (some u4)) H n [] = S19_2 cal k m1 (R19_1 cal k m1) m u4 u6 u7 u29 u30 u38 u39 H n
  | 0, u4, u6, u7, u29, u30, u38, u39, H, n => by
    rw [h19_2]
    have e : R19_2 cal k m1 0 = fun _ _ _ _ _ _ _ _ _ => none := by funext u4 u6 u7 u29 u30 u38 u39 H n; kernel_rfl
    rw [e]; rfl
  | m + 1, u4, u6, u7, u29, u30, u38, u39, H, n => by
    rw [h19_2]
    have e : R19_2 cal k m1 (m + 1) = S19_2 cal k m1 (R19_1 cal k m1) m := by
      funext u4 u6 u7 u29 u30 u38 u39 H n
      have e : R19_2 cal k m1 (m + 1) u4 u6 u7 u29 u30 u38 u39 H n = labK (E19_2 cal k m1 m) (Tr.set (Tr.set (Tr.set (Tr.set (Tr.set (Tr.set (Tr.set Tr.nil 39 (some u39)) 38 (some u38)) 30 (some u30)) 29 (some u29)) 7 (some u7)) 6 (some u6)) 4 (some u4)) H n [] := by kernel_rfl
      rw [e]; exact q19_2 ..
    rw [e]; rfl
noncomputable def B19_1 (cal : Cal) (k m1 : Nat) (j2 : Value → Value → Value → Value → Value → Value → Value → Hp → Nat → Res) (b1 : Value → Value → Value → Value → Hp → Nat → Res) (u4 u6 u29 u30 : Value) (H : Hp) (n : Nat) : Res :=
binK P Go.BinOp.lss 3 (Go.Operand.tmp 30) (Go.Operand.tmp 29) u30 u29 fun v31_40 =>
ifK v31_40 (
bindO (nilV u4) fun v34_44 =>
bindO (fieldAddrV P 117 v34_44 0) fun v35_45 =>
bindO (fieldAddrV P 35 v35_45 2) fun v36_46 =>
bindO (addrV v36_46) fun a_48 => bindO (loadV P H 33 a_48) fun v37_47 =>
bindO (lenV P 33 v37_47) fun v38_49 =>
j2 u4 u6 u30 u29 u30 v38_49 (Go.Value.int Go.IntKind.i64 0) H n) (
some ((Value.tuple ⟨[u6, (Go.Value.int Go.IntKind.i64 0)]⟩), H, n))
noncomputable def C19_1 (cal : Cal) (k m1 : Nat) (b1 : Value → Value → Value → Value → Hp → Nat → Res) (u4 u6 u29 u30 : Value) (H : Hp) (n : Nat) : Res := B19_1 cal k m1 (S19_2 cal k m1 b1 m1) b1 u4 u6 u29 u30 H n
noncomputable def S19_1 (cal : Cal) (k : Nat) : Nat → Value → Value → Value → Value → Hp → Nat → Res := fun m => Nat.rec (motive := fun _ => Value → Value → Value → Value → Hp → Nat → Res) (C19_1 cal k 0 (fun _ _ _ _ _ _ => none)) (fun m ih => C19_1 cal k (m + 1) ih) m
theorem h19_1 (cal : Cal) (k m1 : Nat) (u4 u6 u29 u30 : Value) (H : Hp) (n : Nat) : labK (E19_1 cal k m1) (Tr.set (Tr.set (Tr.set (Tr.set Tr.nil 30 (some u30)) 29 (some u29)) 6 (some u6)) 4 (some u4)) H n [] = C19_1 cal k m1 (R19_1 cal k m1) u4 u6 u29 u30 H n := by
  have h : labK (E19_1 cal k m1) (Tr.set (Tr.set (Tr.set (Tr.set Tr.nil 30 (some u30)) 29 (some u29)) 6 (some u6)) 4 (some u4)) H n [] = B19_1 cal k m1 (fun u4 u6 u7 u29 u30 u38 u39 H n => labK (E19_2 cal k m1 m1) (Tr.set (Tr.set (Tr.set (Tr.set (Tr.set (Tr.set (Tr.set Tr.nil 39 (some u39)) 38 (some u38)) 30 (some u30)) 29 (some u29)) 7 (some u7)) 6 (some u6)) 4 (some u4)) H n []) (R19_1 cal k m1) u4 u6 u29 u30 H n := by kernel_rfl
  rw [h, C19_1]
  have e2 : (fun u4 u6 u7 u29 u30 u38 u39 H n => labK (E19_2 cal k m1 m1) (Tr.set (Tr.set (Tr.set (Tr.set (Tr.set (Tr.set (Tr.set Tr.nil 39 (some u39)) 38 (some u38)) 30 (some u30)) 29 (some u29)) 7 (some u7)) 6 (some u6)) 4 (some u4)) H n []) = (S19_2 cal k m1 (R19_1 cal k m1) m1) := by funext u4 u6 u7 u29 u30 u38 u39 H n; exact q19_2 ..
  rw [e2]
theorem q19_1 (cal : Cal) (k : Nat) : ∀ (m : Nat) (u4 u6 u29 u30 : Value) (H : Hp) (n : Nat), labK (E19_1 cal k m) (Tr.set (Tr.set (Tr.set (Tr.set Tr.nil 30 (some u30)) 29 (some u29)) 6 (some u6)) 4 (some u4)) H n [] = S19_1 cal k m u4 u6 u29 u30 H n
  | 0, u4, u6, u29, u30, H, n => by
    rw [h19_1]
    have e : R19_1 cal k 0 = fun _ _ _ _ _ _ => none := by funext u4 u6 u29 u30 H n; kernel_rfl
    rw [e]; rfl
  | m + 1, u4, u6, u29, u30, H, n => by
    rw [h19_1]
    have e : R19_1 cal k (m + 1) = S19_1 cal k m := by
      funext u4 u6 u29 u30 H n
      have e : R19_1 cal k (m + 1) u4 u6 u29 u30 H n = labK (E19_1 cal k m) (Tr.set (Tr.set (Tr.set (Tr.set Tr.nil 30 (some u30)) 29 (some u29)) 6 (some u6)) 4 (some u4)) H n [] := by kernel_rfl
      rw [e]; exact q19_1 ..
    rw [e]; rfl
noncomputable def B19_0 (cal : Cal) (k : Nat) (j1 : Value → Value → Value → Value → Hp → Nat → Res) (v0 : Value) (H : Hp) (n : Nat) : Res :=
boxK 35 v0 H n fun v1_1 H_2 n_3 =>
bindO (addrV v1_1) fun a_7 => bindO (loadV P H_2 35 a_7) fun v10_6 =>
callFK P cal 61 [v10_6] H_2 n_3 fun v11_8 H_9 n_10 =>
bindO (tupV v11_8 0) fun v12_12 =>
bindO (tupV v11_8 1) fun v13_13 =>
binK P Go.BinOp.neq 29 (Go.Operand.tmp 14) (Go.Operand.const (Go.Value.int Go.IntKind.i64 0)) v13_13 (Go.Value.int Go.IntKind.i64 0) fun v15_17 =>
ifK v15_17 (
some ((Value.tuple ⟨[(Go.Value.slice none 0 0), v13_13]⟩), H_9, n_10)) (
bindO (nilV v12_12) fun v18_22 =>
bindO (fieldAddrV P 117 v18_22 0) fun v19_23 =>
bindO (fieldAddrV P 35 v19_23 0) fun v20_24 =>
bindO (addrV v20_24) fun a_26 => bindO (loadV P H_9 31 a_26) fun v21_25 =>
bindO (lenV P 31 v21_25) fun v22_27 =>
stK (makeSliceP P 37 v22_27 v22_27 (bare H_9 n_10)) fun v23_28 H_29 n_30 =>
bindO (nilV v12_12) fun v25_33 =>
bindO (fieldAddrV P 117 v25_33 0) fun v26_34 =>
bindO (fieldAddrV P 35 v26_34 0) fun v27_35 =>
bindO (addrV v27_35) fun a_37 => bindO (loadV P H_29 31 a_37) fun v28_36 =>
bindO (lenV P 31 v28_36) fun v29_38 =>
j1 v12_12 v23_28 v29_38 (Go.Value.int Go.IntKind.i64 0) H_29 n_30)
noncomputable def C19_0 (cal : Cal) (k : Nat) (v0 : Value) (H : Hp) (n : Nat) : Res := B19_0 cal k (S19_1 cal k k) v0 H n
theorem h19_0 (cal : Cal) (k : Nat) (v0 : Value) (H : Hp) (n : Nat) : bodyE P cal A (k + 1) 19 [v0] H n = C19_0 cal k v0 H n := by
  have h : bodyE P cal A (k + 1) 19 [v0] H n = B19_0 cal k (fun u4 u6 u29 u30 H n => labK (E19_1 cal k k) (Tr.set (Tr.set (Tr.set (Tr.set Tr.nil 30 (some u30)) 29 (some u29)) 6 (some u6)) 4 (some u4)) H n []) v0 H n := by
    rw [body_eq (fn := Go.Proofs.Try.f19) (c := code19) (rs := results19) (by kernel_rfl) (by kernel_rfl) (by kernel_rfl) (by kernel_rfl)]
    kernel_rfl
  rw [h, C19_0]
  have e1 : (fun u4 u6 u29 u30 H n => labK (E19_1 cal k k) (Tr.set (Tr.set (Tr.set (Tr.set Tr.nil 30 (some u30)) 29 (some u29)) 6 (some u6)) 4 (some u4)) H n []) = (S19_1 cal k k) := by funext u4 u6 u29 u30 H n; exact q19_1 ..
  rw [e1]
noncomputable def code20 : Code := codeOf 20
noncomputable def results20 : List ResultVar := resOf 20
noncomputable def K20_p (cal : Cal) (k : Nat) : KC (Value × Hp × Nat) := (cutK (A 20).c (codeE P cal (codeF P cal k) none 20 (cR code20) (Lv.b (A 20)) (doneK P results20) X0 (doneK P results20)))
noncomputable def K20_pr (cal : Cal) (k : Nat) : KC (Value × Hp × Nat) := (cutK (Lv.b (A 20)).c (codeE P cal (codeF P cal k) none 20 (cR (cR code20)) (Lv.b (Lv.b (A 20))) (doneK P results20) X0 (doneK P results20)))
noncomputable def B20_0 (cal : Cal) (k : Nat) (v0 : Value) (H : Hp) (n : Nat) : Res :=
boxK 26 v0 H n fun v1_1 H_2 n_3 =>
bindO (addrV v1_1) fun a_6 => bindO (loadV P H_2 26 a_6) fun v3_5 =>
callFK P cal 63 [v3_5] H_2 n_3 fun v4_7 H_8 n_9 =>
some (v4_7, H_8, n_9)
noncomputable def C20_0 (cal : Cal) (k : Nat) (v0 : Value) (H : Hp) (n : Nat) : Res := B20_0 cal k v0 H n
theorem h20_0 (cal : Cal) (k : Nat) (v0 : Value) (H : Hp) (n : Nat) : bodyE P cal A (k + 1) 20 [v0] H n = C20_0 cal k v0 H n := by
  have h : bodyE P cal A (k + 1) 20 [v0] H n = B20_0 cal k v0 H n := by
    rw [body_eq (fn := Go.Proofs.Try.f20) (c := code20) (rs := results20) (by kernel_rfl) (by kernel_rfl) (by kernel_rfl) (by kernel_rfl)]
    kernel_rfl
  rw [h, C20_0]
noncomputable def code21 : Code := codeOf 21
noncomputable def results21 : List ResultVar := resOf 21
noncomputable def K21_p (cal : Cal) (k : Nat) : KC (Value × Hp × Nat) := (cutK (A 21).c (codeE P cal (codeF P cal k) none 21 (cR code21) (Lv.b (A 21)) (doneK P results21) X0 (doneK P results21)))
noncomputable def K21_pr (cal : Cal) (k : Nat) : KC (Value × Hp × Nat) := (cutK (Lv.b (A 21)).c (codeE P cal (codeF P cal k) none 21 (cR (cR code21)) (Lv.b (Lv.b (A 21))) (doneK P results21) X0 (doneK P results21)))
noncomputable def K21_prl (cal : Cal) (k : Nat) : KC (Value × Hp × Nat) := (cutK (Lv.a (Lv.b (A 21))).c (codeE P cal (codeF P cal k) none 21 (cR (cL (cR code21))) (Lv.b (Lv.a (Lv.b (A 21)))) (K21_pr cal k) X0 (doneK P results21)))
noncomputable def K21_pxrlr (cal : Cal) (k : Nat) : XC (Value × Hp × Nat) := (upX 0 (K21_pr cal k) X0)
noncomputable def K21_prlrl (cal : Cal) (k : Nat) (m1 : Nat) : KC (Value × Hp × Nat) := (fun T H n D => codeF P cal m1 (Lv.a (Lv.b (Lv.a (Lv.b (A 21))))) none 21 (cL (cR (cL (cR code21)))) (K21_pr cal k) (K21_pxrlr cal k) (doneK P results21) (cutT (Lv.a (Lv.b (Lv.a (Lv.b (A 21))))).c T) H n D)
noncomputable def K21_prlrll (cal : Cal) (k : Nat) (m1 : Nat) : KC (Value × Hp × Nat) := (cutK (Lv.a (Lv.a (Lv.b (Lv.a (Lv.b (A 21)))))).c (codeE P cal (codeF P cal m1) none 21 (cR (cL (cL (cR (cL (cR code21)))))) (Lv.b (Lv.a (Lv.a (Lv.b (Lv.a (Lv.b (A 21))))))) (K21_prlrl cal k m1) (K21_pxrlr cal k) (doneK P results21)))
noncomputable def K21_prlrlll (cal : Cal) (k : Nat) (m1 : Nat) : KC (Value × Hp × Nat) := (cutK (Lv.a (Lv.a (Lv.a (Lv.b (Lv.a (Lv.b (A 21))))))).c (codeE P cal (codeF P cal m1) none 21 (cR (cL (cL (cL (cR (cL (cR code21))))))) (Lv.b (Lv.a (Lv.a (Lv.a (Lv.b (Lv.a (Lv.b (A 21)))))))) (K21_prlrll cal k m1) (K21_pxrlr cal k) (doneK P results21)))
noncomputable def K21_prlrllr (cal : Cal) (k : Nat) (m1 : Nat) : KC (Value × Hp × Nat) := (cutK (Lv.b (Lv.a (Lv.a (Lv.b (Lv.a (Lv.b (A 21))))))).c (codeE P cal (codeF P cal m1) none 21 (cR (cR (cL (cL (cR (cL (cR code21))))))) (Lv.b (Lv.b (Lv.a (Lv.a (Lv.b (Lv.a (Lv.b (A 21)))))))) (K21_prlrl cal k m1) (K21_pxrlr cal k) (doneK P results21)))
noncomputable def K21_pxrlrllrl (cal : Cal) (k : Nat) (m1 : Nat) : XC (Value × Hp × Nat) := (upX 1 (K21_prlrllr cal k m1) (K21_pxrlr cal k))
noncomputable def K21_prlrllrll (cal : Cal) (k : Nat) (m1 : Nat) : KC (Value × Hp × Nat) := (cutK (Lv.a (Lv.a (Lv.b (Lv.a (Lv.a (Lv.b (Lv.a (Lv.b (A 21))))))))).c (codeE P cal (codeF P cal m1) none 21 (cR (cL (cL (cR (cL (cL (cR (cL (cR code21))))))))) (Lv.b (Lv.a (Lv.a (Lv.b (Lv.a (Lv.a (Lv.b (Lv.a (Lv.b (A 21)))))))))) (K21_prlrllr cal k m1) (K21_pxrlrllrl cal k m1) (doneK P results21)))
noncomputable def K21_prlrllrllrl (cal : Cal) (k : Nat) (m1 : Nat) : KC (Value × Hp × Nat) := (cutK (Lv.a (Lv.b (Lv.a (Lv.a (Lv.b (Lv.a (Lv.a (Lv.b (Lv.a (Lv.b (A 21))))))))))).c (codeE P cal (codeF P cal m1) none 21 (cR (cL (cR (cL (cL (cR (cL (cL (cR (cL (cR code21))))))))))) (Lv.b (Lv.a (Lv.b (Lv.a (Lv.a (Lv.b (Lv.a (Lv.a (Lv.b (Lv.a (Lv.b (A 21)))))))))))) (K21_prlrllr cal k m1) (K21_pxrlrllrl cal k m1) (doneK P results21)))
noncomputable def K21_prr (cal : Cal) (k : Nat) : KC (Value × Hp × Nat) := (cutK (Lv.b (Lv.b (A 21))).c (codeE P cal (codeF P cal k) none 21 (cR (cR (cR code21))) (Lv.b (Lv.b (Lv.b (A 21)))) (doneK P results21) X0 (doneK P results21)))
noncomputable def E21_1 (cal : Cal) (k m1 : Nat) : KC (Value × Hp × Nat) := codeE P cal (codeF P cal m1) none 21 (cL (cL (cR (cL (cR code21))))) (Lv.a (Lv.a (Lv.b (Lv.a (Lv.b (A 21)))))) (K21_prlrl cal k m1) (K21_pxrlr cal k) (doneK P results21)
noncomputable def R21_1 (cal : Cal) (k m1 : Nat) : Value → Value → Value → Value → Hp → Nat → Res := fun u1 u2 u3 u7 H n => codeF P cal m1 (Lv.a (Lv.b (Lv.a (Lv.b (A 21))))) none 21 (cL (cR (cL (cR code21)))) (K21_pr cal k) (K21_pxrlr cal k) (doneK P results21) (Tr.set (Tr.set (Tr.set (Tr.set Tr.nil 7 (some u7)) 3 (some u3)) 2 (some u2)) 1 (some u1)) H n []
noncomputable def B21_1 (cal : Cal) (k m1 : Nat) (b1 : Value → Value → Value → Value → Hp → Nat → Res) (u1 u2 u3 u7 : Value) (H : Hp) (n : Nat) : Res :=
bindO (fieldAddrV P 26 u3 2) fun v16_16 =>
bindO (addrV v16_16) fun a_18 => bindO (loadV P H 24 a_18) fun v17_17 =>
bindO (indexAddrV P 24 v17_17 u1) fun v19_20 =>
bindO (fieldAddrV P 94 v19_20 1) fun v20_21 =>
bindO (fieldAddrV P 55 v20_21 1) fun v21_22 =>
bindO (addrV v21_22) fun a_24 => bindO (loadV P H 3 a_24) fun v22_23 =>
binK P Go.BinOp.leq 3 (Go.Operand.tmp 15) (Go.Operand.tmp 22) u7 v22_23 fun v23_25 =>
ifK v23_25 (
bindO (addrV u3) fun a_27 => bindO (loadV P H 26 a_27) fun v26_26 =>
callFK P cal 64 [v26_26, u1, u2, u2, u7] H n fun v31_32 H_33 n_34 =>
ifK v31_32 (
some ((Go.Value.bool true), H_33, n_34)) (
binK P Go.BinOp.add 3 (Go.Operand.tmp 24) (Go.Operand.const (Go.Value.int Go.IntKind.i64 1)) u7 (Go.Value.int Go.IntKind.i64 1) fun v25_37 =>
b1 u1 u2 u3 v25_37 H_33 n_34)) (
some ((Go.Value.bool false), H, n))
noncomputable def C21_1 (cal : Cal) (k m1 : Nat) (b1 : Value → Value → Value → Value → Hp → Nat → Res) (u1 u2 u3 u7 : Value) (H : Hp) (n : Nat) : Res := B21_1 cal k m1 b1 u1 u2 u3 u7 H n
noncomputable def S21_1 (cal : Cal) (k : Nat) : Nat → Value → Value → Value → Value → Hp → Nat → Res := fun m => Nat.rec (motive := fun _ => Value → Value → Value → Value → Hp → Nat → Res) (C21_1 cal k 0 (fun _ _ _ _ _ _ => none)) (fun m ih => C21_1 cal k (m + 1) ih) m
theorem h21_1 (cal : Cal) (k m1 : Nat) (u1 u2 u3 u7 : Value) (H : Hp) (n : Nat) : labK (E21_1 cal k m1) (Tr.set (Tr.set (Tr.set (Tr.set Tr.nil 7 (some u7)) 3 (some u3)) 2 (some u2)) 1 (some u1)) H n [] = C21_1 cal k m1 (R21_1 cal k m1) u1 u2 u3 u7 H n := by
  have h : labK (E21_1 cal k m1) (Tr.set (Tr.set (Tr.set (Tr.set Tr.nil 7 (some u7)) 3 (some u3)) 2 (some u2)) 1 (some u1)) H n [] = B21_1 cal k m1 (R21_1 cal k m1) u1 u2 u3 u7 H n := by kernel_rfl
  rw [h, C21_1]
theorem q21_1 (cal : Cal) (k : Nat) : ∀ (m : Nat) (u1 u2 u3 u7 : Value) (H : Hp) (n : Nat), labK (E21_1 cal k m) (Tr.set (Tr.set (Tr.set (Tr.set Tr.nil 7 (some u7)) 3 (some u3)) 2 (some u2)) 1 (some u1)) H n [] = S21_1 cal k m u1 u2 u3 u7 H n
  | 0, u1, u2, u3, u7, H, n => by
    rw [h21_1]
    have e : R21_1 cal k 0 = fun _ _ _ _ _ _ => none := by funext u1 u2 u3 u7 H n; kernel_rfl
    rw [e]; rfl
  | m + 1, u1, u2, u3, u7, H, n => by
    rw [h21_1]
    have e : R21_1 cal k (m + 1) = S21_1 cal k m := by
      funext u1 u2 u3 u7 H n
      have e : R21_1 cal k (m + 1) u1 u2 u3 u7 H n = labK (E21_1 cal k m) (Tr.set (Tr.set (Tr.set (Tr.set Tr.nil 7 (some u7)) 3 (some u3)) 2 (some u2)) 1 (some u1)) H n [] := by kernel_rfl
      rw [e]; exact q21_1 ..
    rw [e]; rfl
noncomputable def B21_0 (cal : Cal) (k : Nat) (j1 : Value → Value → Value → Value → Hp → Nat → Res) (v0 v1 v2 : Value) (H : Hp) (n : Nat) : Res :=
boxK 26 v0 H n fun v3_1 H_2 n_3 =>
bindO (fieldAddrV P 26 v3_1 2) fun v8_5 =>
bindO (addrV v8_5) fun a_7 => bindO (loadV P H_2 24 a_7) fun v9_6 =>
bindO (indexAddrV P 24 v9_6 v1) fun v11_9 =>
bindO (fieldAddrV P 94 v11_9 1) fun v12_10 =>
bindO (fieldAddrV P 55 v12_10 0) fun v13_11 =>
bindO (addrV v13_11) fun a_13 => bindO (loadV P H_2 3 a_13) fun v14_12 =>
j1 v1 v2 v3_1 v14_12 H_2 n_3
noncomputable def C21_0 (cal : Cal) (k : Nat) (v0 v1 v2 : Value) (H : Hp) (n : Nat) : Res := B21_0 cal k (S21_1 cal k k) v0 v1 v2 H n
theorem h21_0 (cal : Cal) (k : Nat) (v0 v1 v2 : Value) (H : Hp) (n : Nat) : bodyE P cal A (k + 1) 21 [v0, v1, v2] H n = C21_0 cal k v0 v1 v2 H n := by
  have h : bodyE P cal A (k + 1) 21 [v0, v1, v2] H n = B21_0 cal k (fun u1 u2 u3 u7 H n => labK (E21_1 cal k k) (Tr.set (Tr.set (Tr.set (Tr.set Tr.nil 7 (some u7)) 3 (some u3)) 2 (some u2)) 1 (some u1)) H n []) v0 v1 v2 H n := by
    rw [body_eq (fn := Go.Proofs.Try.f21) (c := code21) (rs := results21) (by kernel_rfl) (by kernel_rfl) (by kernel_rfl) (by kernel_rfl)]
    kernel_rfl
  rw [h, C21_0]
  have e1 : (fun u1 u2 u3 u7 H n => labK (E21_1 cal k k) (Tr.set (Tr.set (Tr.set (Tr.set Tr.nil 7 (some u7)) 3 (some u3)) 2 (some u2)) 1 (some u1)) H n []) = (S21_1 cal k k) := by funext u1 u2 u3 u7 H n; exact q21_1 ..
  rw [e1]
noncomputable def code22 : Code := codeOf 22
noncomputable def results22 : List ResultVar := resOf 22
noncomputable def K22_p (cal : Cal) (k : Nat) : KC (Value × Hp × Nat) := (cutK (A 22).c (codeE P cal (codeF P cal k) none 22 (cR code22) (Lv.b (A 22)) (doneK P results22) X0 (doneK P results22)))
noncomputable def K22_pr (cal : Cal) (k : Nat) : KC (Value × Hp × Nat) := (cutK (Lv.b (A 22)).c (codeE P cal (codeF P cal k) none 22 (cR (cR code22)) (Lv.b (Lv.b (A 22))) (doneK P results22) X0 (doneK P results22)))
noncomputable def K22_prr (cal : Cal) (k : Nat) : KC (Value × Hp × Nat) := (cutK (Lv.b (Lv.b (A 22))).c (codeE P cal (codeF P cal k) none 22 (cR (cR (cR code22))) (Lv.b (Lv.b (Lv.b (A 22)))) (doneK P results22) X0 (doneK P results22)))
noncomputable def K22_prrl (cal : Cal) (k : Nat) : KC (Value × Hp × Nat) := (cutK (Lv.a (Lv.b (Lv.b (A 22)))).c (codeE P cal (codeF P cal k) none 22 (cR (cL (cR (cR code22)))) (Lv.b (Lv.a (Lv.b (Lv.b (A 22))))) (K22_prr cal k) X0 (doneK P results22)))
noncomputable def K22_prrlrl (cal : Cal) (k : Nat) : KC (Value × Hp × Nat) := (cutK (Lv.a (Lv.b (Lv.a (Lv.b (Lv.b (A 22)))))).c (codeE P cal (codeF P cal k) none 22 (cR (cL (cR (cL (cR (cR code22)))))) (Lv.b (Lv.a (Lv.b (Lv.a (Lv.b (Lv.b (A 22))))))) (K22_prr cal k) X0 (doneK P results22)))
noncomputable def K22_prrr (cal : Cal) (k : Nat) : KC (Value × Hp × Nat) := (cutK (Lv.b (Lv.b (Lv.b (A 22)))).c (codeE P cal (codeF P cal k) none 22 (cR (cR (cR (cR code22)))) (Lv.b (Lv.b (Lv.b (Lv.b (A 22))))) (doneK P results22) X0 (doneK P results22)))
noncomputable def K22_prrrr (cal : Cal) (k : Nat) : KC (Value × Hp × Nat) := (cutK (Lv.b (Lv.b (Lv.b (Lv.b (A 22))))).c (codeE P cal (codeF P cal k) none 22 (cR (cR (cR (cR (cR code22))))) (Lv.b (Lv.b (Lv.b (Lv.b (Lv.b (A 22)))))) (doneK P results22) X0 (doneK P results22)))
noncomputable def B22_0 (cal : Cal) (k : Nat) (v0 v1 : Value) (H : Hp) (n : Nat) : Res :=
boxK 35 v0 H n fun v2_1 H_2 n_3 =>
bindO (addrV v2_1) fun a_7 => bindO (loadV P H_2 35 a_7) fun v11_6 =>
callFK P cal 65 [v11_6, v1] H_2 n_3 fun v13_9 H_10 n_11 =>
bindO (tupV v13_9 0) fun v14_13 =>
bindO (tupV v13_9 1) fun v15_14 =>
bindO (tupV v13_9 2) fun v16_15 =>
allocK P 121 H_10 n_11 fun v7_16 H_17 n_18 =>
bindO (storeP P 121 v7_16 v15_14 H_17) fun H_21 =>
binK P Go.BinOp.neq 29 (Go.Operand.tmp 17) (Go.Operand.const (Go.Value.int Go.IntKind.i64 0)) v16_15 (Go.Value.int Go.IntKind.i64 0) fun v18_24 =>
ifK v18_24 (
some ((Value.tuple ⟨[(Go.Value.slice none 0 0), v16_15]⟩), H_21, n_18)) (
bindO (addrV v7_16) fun a_30 => bindO (loadV P H_21 121 a_30) fun v21_29 =>
callFK P cal 66 [v14_13, v21_29] H_21 n_18 fun v22_31 H_32 n_33 =>
allocK P 111 H_32 n_33 fun v9_34 H_35 n_36 =>
bindO (storeP P 111 v9_34 v22_31 H_35) fun H_38 =>
bindO (nilV v14_13) fun v24_40 =>
bindO (fieldAddrV P 117 v24_40 0) fun v25_41 =>
bindO (fieldAddrV P 35 v25_41 0) fun v26_42 =>
bindO (addrV v26_42) fun a_44 => bindO (loadV P H_38 31 a_44) fun v27_43 =>
bindO (lenV P 31 v27_43) fun v28_45 =>
bindO (sliceV P 111 v9_34 none (some v28_45)) fun v29_46 =>
callFK P cal 67 [v29_46] H_38 n_36 fun v30_47 H_48 n_49 =>
some ((Value.tuple ⟨[v30_47, (Go.Value.int Go.IntKind.i64 0)]⟩), H_48, n_49))
noncomputable def C22_0 (cal : Cal) (k : Nat) (v0 v1 : Value) (H : Hp) (n : Nat) : Res := B22_0 cal k v0 v1 H n
theorem h22_0 (cal : Cal) (k : Nat) (v0 v1 : Value) (H : Hp) (n : Nat) : bodyE P cal A (k + 1) 22 [v0, v1] H n = C22_0 cal k v0 v1 H n := by
  have h : bodyE P cal A (k + 1) 22 [v0, v1] H n = B22_0 cal k v0 v1 H n := by
    rw [body_eq (fn := Go.Proofs.Try.f22) (c := code22) (rs := results22) (by kernel_rfl) (by kernel_rfl) (by kernel_rfl) (by kernel_rfl)]
    kernel_rfl
  rw [h, C22_0]
end Go.Proofs.Ytakjjillnllocaa.G
