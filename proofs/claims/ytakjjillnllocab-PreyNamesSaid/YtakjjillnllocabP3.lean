/- The texts of functions, each with the proof that the evaluator says the same. -/
import Derived.Test.YtakjjillnllocabP1
open Go Go.Ev
set_option maxRecDepth 1000000
set_option linter.unusedVariables false
noncomputable section
namespace Go.Proofs.Ytakjjillnllocab.P
noncomputable def code18 : Code := codeOf 18
noncomputable def results18 : List ResultVar := resOf 18
noncomputable def K18_p (cal : Cal) (k : Nat) : KC (Value × Hp × Nat) := (cutK (A 18).c (codeE P cal (codeF P cal k) none 18 (cR code18) (Lv.b (A 18)) (doneK P results18) X0 (doneK P results18)))
noncomputable def K18_prl (cal : Cal) (k : Nat) : KC (Value × Hp × Nat) := (cutK (Lv.a (Lv.b (A 18))).c (codeE P cal (codeF P cal k) none 18 (cR (cL (cR code18))) (Lv.b (Lv.a (Lv.b (A 18)))) (doneK P results18) X0 (doneK P results18)))
noncomputable def K18_prlr (cal : Cal) (k : Nat) : KC (Value × Hp × Nat) := (cutK (Lv.b (Lv.a (Lv.b (A 18)))).c (codeE P cal (codeF P cal k) none 18 (cR (cR (cL (cR code18)))) (Lv.b (Lv.b (Lv.a (Lv.b (A 18))))) (doneK P results18) X0 (doneK P results18)))
noncomputable def K18_prlrl (cal : Cal) (k : Nat) : KC (Value × Hp × Nat) := (cutK (Lv.a (Lv.b (Lv.a (Lv.b (A 18))))).c (codeE P cal (codeF P cal k) none 18 (cR (cL (cR (cL (cR code18))))) (Lv.b (Lv.a (Lv.b (Lv.a (Lv.b (A 18)))))) (K18_prlr cal k) X0 (doneK P results18)))
noncomputable def K18_prlrlrl (cal : Cal) (k : Nat) : KC (Value × Hp × Nat) := (cutK (Lv.a (Lv.b (Lv.a (Lv.b (Lv.a (Lv.b (A 18))))))).c (codeE P cal (codeF P cal k) none 18 (cR (cL (cR (cL (cR (cL (cR code18))))))) (Lv.b (Lv.a (Lv.b (Lv.a (Lv.b (Lv.a (Lv.b (A 18)))))))) (K18_prlr cal k) X0 (doneK P results18)))
noncomputable def K18_prlrr (cal : Cal) (k : Nat) : KC (Value × Hp × Nat) := (cutK (Lv.b (Lv.b (Lv.a (Lv.b (A 18))))).c (codeE P cal (codeF P cal k) none 18 (cR (cR (cR (cL (cR code18))))) (Lv.b (Lv.b (Lv.b (Lv.a (Lv.b (A 18)))))) (doneK P results18) X0 (doneK P results18)))
noncomputable def K18_prlrrr (cal : Cal) (k : Nat) : KC (Value × Hp × Nat) := (cutK (Lv.b (Lv.b (Lv.b (Lv.a (Lv.b (A 18)))))).c (codeE P cal (codeF P cal k) none 18 (cR (cR (cR (cR (cL (cR code18)))))) (Lv.b (Lv.b (Lv.b (Lv.b (Lv.a (Lv.b (A 18))))))) (doneK P results18) X0 (doneK P results18)))
noncomputable def K18_prlrrrr (cal : Cal) (k : Nat) : KC (Value × Hp × Nat) := (cutK (Lv.b (Lv.b (Lv.b (Lv.b (Lv.a (Lv.b (A 18))))))).c (codeE P cal (codeF P cal k) none 18 (cR (cR (cR (cR (cR (cL (cR code18))))))) (Lv.b (Lv.b (Lv.b (Lv.b (Lv.b (Lv.a (Lv.b (A 18)))))))) (doneK P results18) X0 (doneK P results18)))
noncomputable def K18_prlrrrrr (cal : Cal) (k : Nat) : KC (Value × Hp × Nat) := (cutK (Lv.b (Lv.b (Lv.b (Lv.b (Lv.b (Lv.a (Lv.b (A 18)))))))).c (codeE P cal (codeF P cal k) none 18 (cR (cR (cR (cR (cR (cR (cL (cR code18)))))))) (Lv.b (Lv.b (Lv.b (Lv.b (Lv.b (Lv.b (Lv.a (Lv.b (A 18))))))))) (doneK P results18) X0 (doneK P results18)))
noncomputable def K18_prlrrrrrr (cal : Cal) (k : Nat) : KC (Value × Hp × Nat) := (cutK (Lv.b (Lv.b (Lv.b (Lv.b (Lv.b (Lv.b (Lv.a (Lv.b (A 18))))))))).c (codeE P cal (codeF P cal k) none 18 (cR (cR (cR (cR (cR (cR (cR (cL (cR code18))))))))) (Lv.b (Lv.b (Lv.b (Lv.b (Lv.b (Lv.b (Lv.b (Lv.a (Lv.b (A 18)))))))))) (doneK P results18) X0 (doneK P results18)))
noncomputable def K18_prlrrrrrrr (cal : Cal) (k : Nat) : KC (Value × Hp × Nat) := (cutK (Lv.b (Lv.b (Lv.b (Lv.b (Lv.b (Lv.b (Lv.b (Lv.a (Lv.b (A 18)))))))))).c (codeE P cal (codeF P cal k) none 18 (cR (cR (cR (cR (cR (cR (cR (cR (cL (cR code18)))))))))) (Lv.b (Lv.b (Lv.b (Lv.b (Lv.b (Lv.b (Lv.b (Lv.b (Lv.a (Lv.b (A 18))))))))))) (doneK P results18) X0 (doneK P results18)))
noncomputable def K18_prlrrrrrrrrr (cal : Cal) (k : Nat) : KC (Value × Hp × Nat) := (cutK (Lv.b (Lv.b (Lv.b (Lv.b (Lv.b (Lv.b (Lv.b (Lv.b (Lv.b (Lv.a (Lv.b (A 18)))))))))))).c (codeE P cal (codeF P cal k) none 18 (cR (cR (cR (cR (cR (cR (cR (cR (cR (cR (cL (cR code18)))))))))))) (Lv.b (Lv.b (Lv.b (Lv.b (Lv.b (Lv.b (Lv.b (Lv.b (Lv.b (Lv.b (Lv.a (Lv.b (A 18))))))))))))) (doneK P results18) X0 (doneK P results18)))
noncomputable def K18_prlrrrrrrrrrl (cal : Cal) (k : Nat) : KC (Value × Hp × Nat) := (cutK (Lv.a (Lv.b (Lv.b (Lv.b (Lv.b (Lv.b (Lv.b (Lv.b (Lv.b (Lv.b (Lv.a (Lv.b (A 18))))))))))))).c (codeE P cal (codeF P cal k) none 18 (cR (cL (cR (cR (cR (cR (cR (cR (cR (cR (cR (cL (cR code18))))))))))))) (Lv.b (Lv.a (Lv.b (Lv.b (Lv.b (Lv.b (Lv.b (Lv.b (Lv.b (Lv.b (Lv.b (Lv.a (Lv.b (A 18)))))))))))))) (K18_prlrrrrrrrrr cal k) X0 (doneK P results18)))
noncomputable def K18_prlrrrrrrrrrlrl (cal : Cal) (k : Nat) : KC (Value × Hp × Nat) := (cutK (Lv.a (Lv.b (Lv.a (Lv.b (Lv.b (Lv.b (Lv.b (Lv.b (Lv.b (Lv.b (Lv.b (Lv.b (Lv.a (Lv.b (A 18))))))))))))))).c (codeE P cal (codeF P cal k) none 18 (cR (cL (cR (cL (cR (cR (cR (cR (cR (cR (cR (cR (cR (cL (cR code18))))))))))))))) (Lv.b (Lv.a (Lv.b (Lv.a (Lv.b (Lv.b (Lv.b (Lv.b (Lv.b (Lv.b (Lv.b (Lv.b (Lv.b (Lv.a (Lv.b (A 18)))))))))))))))) (K18_prlrrrrrrrrr cal k) X0 (doneK P results18)))
noncomputable def K18_prlrrrrrrrrrr (cal : Cal) (k : Nat) : KC (Value × Hp × Nat) := (cutK (Lv.b (Lv.b (Lv.b (Lv.b (Lv.b (Lv.b (Lv.b (Lv.b (Lv.b (Lv.b (Lv.a (Lv.b (A 18))))))))))))).c (codeE P cal (codeF P cal k) none 18 (cR (cR (cR (cR (cR (cR (cR (cR (cR (cR (cR (cL (cR code18))))))))))))) (Lv.b (Lv.b (Lv.b (Lv.b (Lv.b (Lv.b (Lv.b (Lv.b (Lv.b (Lv.b (Lv.b (Lv.a (Lv.b (A 18)))))))))))))) (doneK P results18) X0 (doneK P results18)))
noncomputable def K18_prlrrrrrrrr (cal : Cal) (k : Nat) : KC (Value × Hp × Nat) := (cutK (Lv.b (Lv.b (Lv.b (Lv.b (Lv.b (Lv.b (Lv.b (Lv.b (Lv.a (Lv.b (A 18))))))))))).c (codeE P cal (codeF P cal k) none 18 (cR (cR (cR (cR (cR (cR (cR (cR (cR (cL (cR code18))))))))))) (Lv.b (Lv.b (Lv.b (Lv.b (Lv.b (Lv.b (Lv.b (Lv.b (Lv.b (Lv.a (Lv.b (A 18)))))))))))) (doneK P results18) X0 (doneK P results18)))
noncomputable def K18_prlrrrrrrrrl (cal : Cal) (k : Nat) : KC (Value × Hp × Nat) := (cutK (Lv.a (Lv.b (Lv.b (Lv.b (Lv.b (Lv.b (Lv.b (Lv.b (Lv.b (Lv.a (Lv.b (A 18)))))))))))).c (codeE P cal (codeF P cal k) none 18 (cR (cL (cR (cR (cR (cR (cR (cR (cR (cR (cL (cR code18)))))))))))) (Lv.b (Lv.a (Lv.b (Lv.b (Lv.b (Lv.b (Lv.b (Lv.b (Lv.b (Lv.b (Lv.a (Lv.b (A 18))))))))))))) (K18_prlrrrrrrrr cal k) X0 (doneK P results18)))
noncomputable def K18_pxrlrrrrrrrrlr (cal : Cal) (k : Nat) : XC (Value × Hp × Nat) := (upX 0 (K18_prlrrrrrrrr cal k) X0)
noncomputable def K18_prlrrrrrrrrlrl (cal : Cal) (k : Nat) (m1 : Nat) : KC (Value × Hp × Nat) := (fun T H n D => codeF P cal m1 (Lv.a (Lv.b (Lv.a (Lv.b (Lv.b (Lv.b (Lv.b (Lv.b (Lv.b (Lv.b (Lv.b (Lv.a (Lv.b (A 18)))))))))))))) none 18 (cL (cR (cL (cR (cR (cR (cR (cR (cR (cR (cR (cL (cR code18))))))))))))) (K18_prlrrrrrrrr cal k) (K18_pxrlrrrrrrrrlr cal k) (doneK P results18) (cutT (Lv.a (Lv.b (Lv.a (Lv.b (Lv.b (Lv.b (Lv.b (Lv.b (Lv.b (Lv.b (Lv.b (Lv.a (Lv.b (A 18)))))))))))))).c T) H n D)
noncomputable def K18_prlrrrrrrrrlrll (cal : Cal) (k : Nat) (m1 : Nat) : KC (Value × Hp × Nat) := (cutK (Lv.a (Lv.a (Lv.b (Lv.a (Lv.b (Lv.b (Lv.b (Lv.b (Lv.b (Lv.b (Lv.b (Lv.b (Lv.a (Lv.b (A 18))))))))))))))).c (codeE P cal (codeF P cal m1) none 18 (cR (cL (cL (cR (cL (cR (cR (cR (cR (cR (cR (cR (cR (cL (cR code18))))))))))))))) (Lv.b (Lv.a (Lv.a (Lv.b (Lv.a (Lv.b (Lv.b (Lv.b (Lv.b (Lv.b (Lv.b (Lv.b (Lv.b (Lv.a (Lv.b (A 18)))))))))))))))) (K18_prlrrrrrrrrlrl cal k m1) (K18_pxrlrrrrrrrrlr cal k) (doneK P results18)))
noncomputable def K18_prlrrrrrrrrlrlll (cal : Cal) (k : Nat) (m1 : Nat) : KC (Value × Hp × Nat) := (cutK (Lv.a (Lv.a (Lv.a (Lv.b (Lv.a (Lv.b (Lv.b (Lv.b (Lv.b (Lv.b (Lv.b (Lv.b (Lv.b (Lv.a (Lv.b (A 18)))))))))))))))).c (codeE P cal (codeF P cal m1) none 18 (cR (cL (cL (cL (cR (cL (cR (cR (cR (cR (cR (cR (cR (cR (cL (cR code18)))))))))))))))) (Lv.b (Lv.a (Lv.a (Lv.a (Lv.b (Lv.a (Lv.b (Lv.b (Lv.b (Lv.b (Lv.b (Lv.b (Lv.b (Lv.b (Lv.a (Lv.b (A 18))))))))))))))))) (K18_prlrrrrrrrrlrll cal k m1) (K18_pxrlrrrrrrrrlr cal k) (doneK P results18)))
noncomputable def K18_prlrrrrrrrrlrllr (cal : Cal) (k : Nat) (m1 : Nat) : KC (Value × Hp × Nat) := (cutK (Lv.b (Lv.a (Lv.a (Lv.b (Lv.a (Lv.b (Lv.b (Lv.b (Lv.b (Lv.b (Lv.b (Lv.b (Lv.b (Lv.a (Lv.b (A 18)))))))))))))))).c (codeE P cal (codeF P cal m1) none 18 (cR (cR (cL (cL (cR (cL (cR (cR (cR (cR (cR (cR (cR (cR (cL (cR code18)))))))))))))))) (Lv.b (Lv.b (Lv.a (Lv.a (Lv.b (Lv.a (Lv.b (Lv.b (Lv.b (Lv.b (Lv.b (Lv.b (Lv.b (Lv.b (Lv.a (Lv.b (A 18))))))))))))))))) (K18_prlrrrrrrrrlrl cal k m1) (K18_pxrlrrrrrrrrlr cal k) (doneK P results18)))
noncomputable def K18_pxrlrrrrrrrrlrllrl (cal : Cal) (k : Nat) (m1 : Nat) : XC (Value × Hp × Nat) := (upX 1 (K18_prlrrrrrrrrlrllr cal k m1) (K18_pxrlrrrrrrrrlr cal k))
noncomputable def K18_prlrrrrrrrrlrllrll (cal : Cal) (k : Nat) (m1 : Nat) : KC (Value × Hp × Nat) := (cutK (Lv.a (Lv.a (Lv.b (Lv.a (Lv.a (Lv.b (Lv.a (Lv.b (Lv.b (Lv.b (Lv.b (Lv.b (Lv.b (Lv.b (Lv.b (Lv.a (Lv.b (A 18)))))))))))))))))).c (codeE P cal (codeF P cal m1) none 18 (cR (cL (cL (cR (cL (cL (cR (cL (cR (cR (cR (cR (cR (cR (cR (cR (cL (cR code18)))))))))))))))))) (Lv.b (Lv.a (Lv.a (Lv.b (Lv.a (Lv.a (Lv.b (Lv.a (Lv.b (Lv.b (Lv.b (Lv.b (Lv.b (Lv.b (Lv.b (Lv.b (Lv.a (Lv.b (A 18))))))))))))))))))) (K18_prlrrrrrrrrlrllr cal k m1) (K18_pxrlrrrrrrrrlrllrl cal k m1) (doneK P results18)))
noncomputable def K18_prlrrrrrrrrlrllrllr (cal : Cal) (k : Nat) (m1 : Nat) : KC (Value × Hp × Nat) := (cutK (Lv.b (Lv.a (Lv.a (Lv.b (Lv.a (Lv.a (Lv.b (Lv.a (Lv.b (Lv.b (Lv.b (Lv.b (Lv.b (Lv.b (Lv.b (Lv.b (Lv.a (Lv.b (A 18))))))))))))))))))).c (codeE P cal (codeF P cal m1) none 18 (cR (cR (cL (cL (cR (cL (cL (cR (cL (cR (cR (cR (cR (cR (cR (cR (cR (cL (cR code18))))))))))))))))))) (Lv.b (Lv.b (Lv.a (Lv.a (Lv.b (Lv.a (Lv.a (Lv.b (Lv.a (Lv.b (Lv.b (Lv.b (Lv.b (Lv.b (Lv.b (Lv.b (Lv.b (Lv.a (Lv.b (A 18)))))))))))))))))))) (K18_prlrrrrrrrrlrllr cal k m1) (K18_pxrlrrrrrrrrlrllrl cal k m1) (doneK P results18)))
noncomputable def K18_pxrlrrrrrrrrlrllrllrr (cal : Cal) (k : Nat) (m1 : Nat) : XC (Value × Hp × Nat) := (upX 2 (K18_prlrrrrrrrrlrllr cal k m1) (K18_pxrlrrrrrrrrlrllrl cal k m1))
noncomputable def K18_prlrrrrrrrrlrllrllrrl (cal : Cal) (k : Nat) (m1 : Nat) (m2 : Nat) : KC (Value × Hp × Nat) := (fun T H n D => codeF P cal m2 (Lv.a (Lv.b (Lv.b (Lv.a (Lv.a (Lv.b (Lv.a (Lv.a (Lv.b (Lv.a (Lv.b (Lv.b (Lv.b (Lv.b (Lv.b (Lv.b (Lv.b (Lv.b (Lv.a (Lv.b (A 18))))))))))))))))))))) none 18 (cL (cR (cR (cL (cL (cR (cL (cL (cR (cL (cR (cR (cR (cR (cR (cR (cR (cR (cL (cR code18)))))))))))))))))))) (K18_prlrrrrrrrrlrllr cal k m1) (K18_pxrlrrrrrrrrlrllrllrr cal k m1) (doneK P results18) (cutT (Lv.a (Lv.b (Lv.b (Lv.a (Lv.a (Lv.b (Lv.a (Lv.a (Lv.b (Lv.a (Lv.b (Lv.b (Lv.b (Lv.b (Lv.b (Lv.b (Lv.b (Lv.b (Lv.a (Lv.b (A 18))))))))))))))))))))).c T) H n D)
noncomputable def K18_prlrrrrrrrrlrllrllrrll (cal : Cal) (k : Nat) (m1 : Nat) (m2 : Nat) : KC (Value × Hp × Nat) := (cutK (Lv.a (Lv.a (Lv.b (Lv.b (Lv.a (Lv.a (Lv.b (Lv.a (Lv.a (Lv.b (Lv.a (Lv.b (Lv.b (Lv.b (Lv.b (Lv.b (Lv.b (Lv.b (Lv.b (Lv.a (Lv.b (A 18)))))))))))))))))))))).c (codeE P cal (codeF P cal m2) none 18 (cR (cL (cL (cR (cR (cL (cL (cR (cL (cL (cR (cL (cR (cR (cR (cR (cR (cR (cR (cR (cL (cR code18)))))))))))))))))))))) (Lv.b (Lv.a (Lv.a (Lv.b (Lv.b (Lv.a (Lv.a (Lv.b (Lv.a (Lv.a (Lv.b (Lv.a (Lv.b (Lv.b (Lv.b (Lv.b (Lv.b (Lv.b (Lv.b (Lv.b (Lv.a (Lv.b (A 18))))))))))))))))))))))) (K18_prlrrrrrrrrlrllrllrrl cal k m1 m2) (K18_pxrlrrrrrrrrlrllrllrr cal k m1) (doneK P results18)))
noncomputable def K18_prlrrrrrrrrlrllrllrrllr (cal : Cal) (k : Nat) (m1 : Nat) (m2 : Nat) : KC (Value × Hp × Nat) := (cutK (Lv.b (Lv.a (Lv.a (Lv.b (Lv.b (Lv.a (Lv.a (Lv.b (Lv.a (Lv.a (Lv.b (Lv.a (Lv.b (Lv.b (Lv.b (Lv.b (Lv.b (Lv.b (Lv.b (Lv.b (Lv.a (Lv.b (A 18))))))))))))))))))))))).c (codeE P cal (codeF P cal m2) none 18 (cR (cR (cL (cL (cR (cR (cL (cL (cR (cL (cL (cR (cL (cR (cR (cR (cR (cR (cR (cR (cR (cL (cR code18))))))))))))))))))))))) (Lv.b (Lv.b (Lv.a (Lv.a (Lv.b (Lv.b (Lv.a (Lv.a (Lv.b (Lv.a (Lv.a (Lv.b (Lv.a (Lv.b (Lv.b (Lv.b (Lv.b (Lv.b (Lv.b (Lv.b (Lv.b (Lv.a (Lv.b (A 18)))))))))))))))))))))))) (K18_prlrrrrrrrrlrllrllrrl cal k m1 m2) (K18_pxrlrrrrrrrrlrllrllrr cal k m1) (doneK P results18)))
noncomputable def K18_prlrrrrrrrrlrllrllrrllrr (cal : Cal) (k : Nat) (m1 : Nat) (m2 : Nat) : KC (Value × Hp × Nat) := (cutK (Lv.b (Lv.b (Lv.a (Lv.a (Lv.b (Lv.b (Lv.a (Lv.a (Lv.b (Lv.a (Lv.a (Lv.b (Lv.a (Lv.b (Lv.b (Lv.b (Lv.b (Lv.b (Lv.b (Lv.b (Lv.b (Lv.a (Lv.b (A 18)))))))))))))))))))))))).c (codeE P cal (codeF P cal m2) none 18 (cR (cR (cR (cL (cL (cR (cR (cL (cL (cR (cL (cL (cR (cL (cR (cR (cR (cR (cR (cR (cR (cR (cL (cR code18)))))))))))))))))))))))) (Lv.b (Lv.b (Lv.b (Lv.a (Lv.a (Lv.b (Lv.b (Lv.a (Lv.a (Lv.b (Lv.a (Lv.a (Lv.b (Lv.a (Lv.b (Lv.b (Lv.b (Lv.b (Lv.b (Lv.b (Lv.b (Lv.b (Lv.a (Lv.b (A 18))))))))))))))))))))))))) (K18_prlrrrrrrrrlrllrllrrl cal k m1 m2) (K18_pxrlrrrrrrrrlrllrllrr cal k m1) (doneK P results18)))
noncomputable def K18_pxrlrrrrrrrrlrllrllrrllrrl (cal : Cal) (k : Nat) (m1 : Nat) (m2 : Nat) : XC (Value × Hp × Nat) := (upX 3 (K18_prlrrrrrrrrlrllrllrrllrr cal k m1 m2) (K18_pxrlrrrrrrrrlrllrllrr cal k m1))
noncomputable def K18_prlrrrrrrrrlrllrllrrllrrll (cal : Cal) (k : Nat) (m1 : Nat) (m2 : Nat) : KC (Value × Hp × Nat) := (cutK (Lv.a (Lv.a (Lv.b (Lv.b (Lv.a (Lv.a (Lv.b (Lv.b (Lv.a (Lv.a (Lv.b (Lv.a (Lv.a (Lv.b (Lv.a (Lv.b (Lv.b (Lv.b (Lv.b (Lv.b (Lv.b (Lv.b (Lv.b (Lv.a (Lv.b (A 18)))))))))))))))))))))))))).c (codeE P cal (codeF P cal m2) none 18 (cR (cL (cL (cR (cR (cL (cL (cR (cR (cL (cL (cR (cL (cL (cR (cL (cR (cR (cR (cR (cR (cR (cR (cR (cL (cR code18)))))))))))))))))))))))))) (Lv.b (Lv.a (Lv.a (Lv.b (Lv.b (Lv.a (Lv.a (Lv.b (Lv.b (Lv.a (Lv.a (Lv.b (Lv.a (Lv.a (Lv.b (Lv.a (Lv.b (Lv.b (Lv.b (Lv.b (Lv.b (Lv.b (Lv.b (Lv.b (Lv.a (Lv.b (A 18))))))))))))))))))))))))))) (K18_prlrrrrrrrrlrllrllrrllrr cal k m1 m2) (K18_pxrlrrrrrrrrlrllrllrrllrrl cal k m1 m2) (doneK P results18)))
noncomputable def K18_prlrrrrrrrrlrllrllrrllrrllr (cal : Cal) (k : Nat) (m1 : Nat) (m2 : Nat) : KC (Value × Hp × Nat) := (cutK (Lv.b (Lv.a (Lv.a (Lv.b (Lv.b (Lv.a (Lv.a (Lv.b (Lv.b (Lv.a (Lv.a (Lv.b (Lv.a (Lv.a (Lv.b (Lv.a (Lv.b (Lv.b (Lv.b (Lv.b (Lv.b (Lv.b (Lv.b (Lv.b (Lv.a (Lv.b (A 18))))))))))))))))))))))))))).c (codeE P cal (codeF P cal m2) none 18 (cR (cR (cL (cL (cR (cR (cL (cL (cR (cR (cL (cL (cR (cL (cL (cR (cL (cR (cR (cR (cR (cR (cR (cR (cR (cL (cR code18))))))))))))))))))))))))))) (Lv.b (Lv.b (Lv.a (Lv.a (Lv.b (Lv.b (Lv.a (Lv.a (Lv.b (Lv.b (Lv.a (Lv.a (Lv.b (Lv.a (Lv.a (Lv.b (Lv.a (Lv.b (Lv.b (Lv.b (Lv.b (Lv.b (Lv.b (Lv.b (Lv.b (Lv.a (Lv.b (A 18)))))))))))))))))))))))))))) (K18_prlrrrrrrrrlrllrllrrllrr cal k m1 m2) (K18_pxrlrrrrrrrrlrllrllrrllrrl cal k m1 m2) (doneK P results18)))
noncomputable def K18_prlrrrrrrrrlrllrllrrllrrllrr (cal : Cal) (k : Nat) (m1 : Nat) (m2 : Nat) : KC (Value × Hp × Nat) := (cutK (Lv.b (Lv.b (Lv.a (Lv.a (Lv.b (Lv.b (Lv.a (Lv.a (Lv.b (Lv.b (Lv.a (Lv.a (Lv.b (Lv.a (Lv.a (Lv.b (Lv.a (Lv.b (Lv.b (Lv.b (Lv.b (Lv.b (Lv.b (Lv.b (Lv.b (Lv.a (Lv.b (A 18)))))))))))))))))))))))))))).c (codeE P cal (codeF P cal m2) none 18 (cR (cR (cR (cL (cL (cR (cR (cL (cL (cR (cR (cL (cL (cR (cL (cL (cR (cL (cR (cR (cR (cR (cR (cR (cR (cR (cL (cR code18)))))))))))))))))))))))))))) (Lv.b (Lv.b (Lv.b (Lv.a (Lv.a (Lv.b (Lv.b (Lv.a (Lv.a (Lv.b (Lv.b (Lv.a (Lv.a (Lv.b (Lv.a (Lv.a (Lv.b (Lv.a (Lv.b (Lv.b (Lv.b (Lv.b (Lv.b (Lv.b (Lv.b (Lv.b (Lv.a (Lv.b (A 18))))))))))))))))))))))))))))) (K18_prlrrrrrrrrlrllrllrrllrr cal k m1 m2) (K18_pxrlrrrrrrrrlrllrllrrllrrl cal k m1 m2) (doneK P results18)))
noncomputable def K18_prlrrrrrrrrlrllrllrrllrrllrrl (cal : Cal) (k : Nat) (m1 : Nat) (m2 : Nat) : KC (Value × Hp × Nat) := (cutK (Lv.a (Lv.b (Lv.b (Lv.a (Lv.a (Lv.b (Lv.b (Lv.a (Lv.a (Lv.b (Lv.b (Lv.a (Lv.a (Lv.b (Lv.a (Lv.a (Lv.b (Lv.a (Lv.b (Lv.b (Lv.b (Lv.b (Lv.b (Lv.b (Lv.b (Lv.b (Lv.a (Lv.b (A 18))))))))))))))))))))))))))))).c (codeE P cal (codeF P cal m2) none 18 (cR (cL (cR (cR (cL (cL (cR (cR (cL (cL (cR (cR (cL (cL (cR (cL (cL (cR (cL (cR (cR (cR (cR (cR (cR (cR (cR (cL (cR code18))))))))))))))))))))))))))))) (Lv.b (Lv.a (Lv.b (Lv.b (Lv.a (Lv.a (Lv.b (Lv.b (Lv.a (Lv.a (Lv.b (Lv.b (Lv.a (Lv.a (Lv.b (Lv.a (Lv.a (Lv.b (Lv.a (Lv.b (Lv.b (Lv.b (Lv.b (Lv.b (Lv.b (Lv.b (Lv.b (Lv.a (Lv.b (A 18)))))))))))))))))))))))))))))) (K18_prlrrrrrrrrlrllrllrrllrrllrr cal k m1 m2) (K18_pxrlrrrrrrrrlrllrllrrllrrl cal k m1 m2) (doneK P results18)))
noncomputable def K18_prlrrrrrrrrlrllrllrrllrrllrrr (cal : Cal) (k : Nat) (m1 : Nat) (m2 : Nat) : KC (Value × Hp × Nat) := (cutK (Lv.b (Lv.b (Lv.b (Lv.a (Lv.a (Lv.b (Lv.b (Lv.a (Lv.a (Lv.b (Lv.b (Lv.a (Lv.a (Lv.b (Lv.a (Lv.a (Lv.b (Lv.a (Lv.b (Lv.b (Lv.b (Lv.b (Lv.b (Lv.b (Lv.b (Lv.b (Lv.a (Lv.b (A 18))))))))))))))))))))))))))))).c (codeE P cal (codeF P cal m2) none 18 (cR (cR (cR (cR (cL (cL (cR (cR (cL (cL (cR (cR (cL (cL (cR (cL (cL (cR (cL (cR (cR (cR (cR (cR (cR (cR (cR (cL (cR code18))))))))))))))))))))))))))))) (Lv.b (Lv.b (Lv.b (Lv.b (Lv.a (Lv.a (Lv.b (Lv.b (Lv.a (Lv.a (Lv.b (Lv.b (Lv.a (Lv.a (Lv.b (Lv.a (Lv.a (Lv.b (Lv.a (Lv.b (Lv.b (Lv.b (Lv.b (Lv.b (Lv.b (Lv.b (Lv.b (Lv.a (Lv.b (A 18)))))))))))))))))))))))))))))) (K18_prlrrrrrrrrlrllrllrrllrr cal k m1 m2) (K18_pxrlrrrrrrrrlrllrllrrllrrl cal k m1 m2) (doneK P results18)))
noncomputable def K18_prlrrrrrrrrlrllrllrrllrrllrrrr (cal : Cal) (k : Nat) (m1 : Nat) (m2 : Nat) : KC (Value × Hp × Nat) := (cutK (Lv.b (Lv.b (Lv.b (Lv.b (Lv.a (Lv.a (Lv.b (Lv.b (Lv.a (Lv.a (Lv.b (Lv.b (Lv.a (Lv.a (Lv.b (Lv.a (Lv.a (Lv.b (Lv.a (Lv.b (Lv.b (Lv.b (Lv.b (Lv.b (Lv.b (Lv.b (Lv.b (Lv.a (Lv.b (A 18)))))))))))))))))))))))))))))).c (codeE P cal (codeF P cal m2) none 18 (cR (cR (cR (cR (cR (cL (cL (cR (cR (cL (cL (cR (cR (cL (cL (cR (cL (cL (cR (cL (cR (cR (cR (cR (cR (cR (cR (cR (cL (cR code18)))))))))))))))))))))))))))))) (Lv.b (Lv.b (Lv.b (Lv.b (Lv.b (Lv.a (Lv.a (Lv.b (Lv.b (Lv.a (Lv.a (Lv.b (Lv.b (Lv.a (Lv.a (Lv.b (Lv.a (Lv.a (Lv.b (Lv.a (Lv.b (Lv.b (Lv.b (Lv.b (Lv.b (Lv.b (Lv.b (Lv.b (Lv.a (Lv.b (A 18))))))))))))))))))))))))))))))) (K18_prlrrrrrrrrlrllrllrrllrr cal k m1 m2) (K18_pxrlrrrrrrrrlrllrllrrllrrl cal k m1 m2) (doneK P results18)))
noncomputable def K18_prlrrrrrrrrlrllrllrrllrrllrrrrr (cal : Cal) (k : Nat) (m1 : Nat) (m2 : Nat) : KC (Value × Hp × Nat) := (cutK (Lv.b (Lv.b (Lv.b (Lv.b (Lv.b (Lv.a (Lv.a (Lv.b (Lv.b (Lv.a (Lv.a (Lv.b (Lv.b (Lv.a (Lv.a (Lv.b (Lv.a (Lv.a (Lv.b (Lv.a (Lv.b (Lv.b (Lv.b (Lv.b (Lv.b (Lv.b (Lv.b (Lv.b (Lv.a (Lv.b (A 18))))))))))))))))))))))))))))))).c (codeE P cal (codeF P cal m2) none 18 (cR (cR (cR (cR (cR (cR (cL (cL (cR (cR (cL (cL (cR (cR (cL (cL (cR (cL (cL (cR (cL (cR (cR (cR (cR (cR (cR (cR (cR (cL (cR code18))))))))))))))))))))))))))))))) (Lv.b (Lv.b (Lv.b (Lv.b (Lv.b (Lv.b (Lv.a (Lv.a (Lv.b (Lv.b (Lv.a (Lv.a (Lv.b (Lv.b (Lv.a (Lv.a (Lv.b (Lv.a (Lv.a (Lv.b (Lv.a (Lv.b (Lv.b (Lv.b (Lv.b (Lv.b (Lv.b (Lv.b (Lv.b (Lv.a (Lv.b (A 18)))))))))))))))))))))))))))))))) (K18_prlrrrrrrrrlrllrllrrllrr cal k m1 m2) (K18_pxrlrrrrrrrrlrllrllrrllrrl cal k m1 m2) (doneK P results18)))
noncomputable def K18_prlrrrrrrrrlrllrllrrllrrllrrrrrrl (cal : Cal) (k : Nat) (m1 : Nat) (m2 : Nat) : KC (Value × Hp × Nat) := (cutK (Lv.a (Lv.b (Lv.b (Lv.b (Lv.b (Lv.b (Lv.b (Lv.a (Lv.a (Lv.b (Lv.b (Lv.a (Lv.a (Lv.b (Lv.b (Lv.a (Lv.a (Lv.b (Lv.a (Lv.a (Lv.b (Lv.a (Lv.b (Lv.b (Lv.b (Lv.b (Lv.b (Lv.b (Lv.b (Lv.b (Lv.a (Lv.b (A 18))))))))))))))))))))))))))))))))).c (codeE P cal (codeF P cal m2) none 18 (cR (cL (cR (cR (cR (cR (cR (cR (cL (cL (cR (cR (cL (cL (cR (cR (cL (cL (cR (cL (cL (cR (cL (cR (cR (cR (cR (cR (cR (cR (cR (cL (cR code18))))))))))))))))))))))))))))))))) (Lv.b (Lv.a (Lv.b (Lv.b (Lv.b (Lv.b (Lv.b (Lv.b (Lv.a (Lv.a (Lv.b (Lv.b (Lv.a (Lv.a (Lv.b (Lv.b (Lv.a (Lv.a (Lv.b (Lv.a (Lv.a (Lv.b (Lv.a (Lv.b (Lv.b (Lv.b (Lv.b (Lv.b (Lv.b (Lv.b (Lv.b (Lv.a (Lv.b (A 18)))))))))))))))))))))))))))))))))) (K18_prlrrrrrrrrlrllrllrrllrr cal k m1 m2) (K18_pxrlrrrrrrrrlrllrllrrllrrl cal k m1 m2) (doneK P results18)))
noncomputable def E18_1 (cal : Cal) (k : Nat) : KC (Value × Hp × Nat) := codeE P cal (codeF P cal k) none 18 (cR (cR (cR (cR (cR (cR (cR (cR (cR (cL (cR code18))))))))))) (Lv.b (Lv.b (Lv.b (Lv.b (Lv.b (Lv.b (Lv.b (Lv.b (Lv.b (Lv.a (Lv.b (A 18)))))))))))) (doneK P results18) X0 (doneK P results18)
noncomputable def E18_4 (cal : Cal) (k m1 m2 : Nat) : KC (Value × Hp × Nat) := codeE P cal (codeF P cal m2) none 18 (cR (cR (cR (cL (cL (cR (cR (cL (cL (cR (cL (cL (cR (cL (cR (cR (cR (cR (cR (cR (cR (cR (cL (cR code18)))))))))))))))))))))))) (Lv.b (Lv.b (Lv.b (Lv.a (Lv.a (Lv.b (Lv.b (Lv.a (Lv.a (Lv.b (Lv.a (Lv.a (Lv.b (Lv.a (Lv.b (Lv.b (Lv.b (Lv.b (Lv.b (Lv.b (Lv.b (Lv.b (Lv.a (Lv.b (A 18))))))))))))))))))))))))) (K18_prlrrrrrrrrlrllrllrrl cal k m1 m2) (K18_pxrlrrrrrrrrlrllrllrr cal k m1) (doneK P results18)
noncomputable def E18_3 (cal : Cal) (k m1 m2 : Nat) : KC (Value × Hp × Nat) := codeE P cal (codeF P cal m2) none 18 (cL (cL (cR (cR (cL (cL (cR (cL (cL (cR (cL (cR (cR (cR (cR (cR (cR (cR (cR (cL (cR code18))))))))))))))))))))) (Lv.a (Lv.a (Lv.b (Lv.b (Lv.a (Lv.a (Lv.b (Lv.a (Lv.a (Lv.b (Lv.a (Lv.b (Lv.b (Lv.b (Lv.b (Lv.b (Lv.b (Lv.b (Lv.b (Lv.a (Lv.b (A 18)))))))))))))))))))))) (K18_prlrrrrrrrrlrllrllrrl cal k m1 m2) (K18_pxrlrrrrrrrrlrllrllrr cal k m1) (doneK P results18)
noncomputable def R18_3 (cal : Cal) (k m1 m2 : Nat) : Value → Value → Value → Value → Value → Value → Value → Value → Value → Value → Hp → Nat → Res := fun u0 u7 u8 u9 u10 u11 u12 u54 u55 u56 H n => codeF P cal m2 (Lv.a (Lv.b (Lv.b (Lv.a (Lv.a (Lv.b (Lv.a (Lv.a (Lv.b (Lv.a (Lv.b (Lv.b (Lv.b (Lv.b (Lv.b (Lv.b (Lv.b (Lv.b (Lv.a (Lv.b (A 18))))))))))))))))))))) none 18 (cL (cR (cR (cL (cL (cR (cL (cL (cR (cL (cR (cR (cR (cR (cR (cR (cR (cR (cL (cR code18)))))))))))))))))))) (K18_prlrrrrrrrrlrllr cal k m1) (K18_pxrlrrrrrrrrlrllrllrr cal k m1) (doneK P results18) (Tr.set (Tr.set (Tr.set (Tr.set (Tr.set (Tr.set (Tr.set (Tr.set (Tr.set (Tr.set Tr.nil 56 (some u56)) 55 (some u55)) 54 (some u54)) 12 (some u12)) 11 (some u11)) 10 (some u10)) 9 (some u9)) 8 (some u8)) 7 (some u7)) 0 (some u0)) H n []
noncomputable def E18_2 (cal : Cal) (k m1 : Nat) : KC (Value × Hp × Nat) := codeE P cal (codeF P cal m1) none 18 (cL (cL (cR (cL (cR (cR (cR (cR (cR (cR (cR (cR (cL (cR code18)))))))))))))) (Lv.a (Lv.a (Lv.b (Lv.a (Lv.b (Lv.b (Lv.b (Lv.b (Lv.b (Lv.b (Lv.b (Lv.b (Lv.a (Lv.b (A 18))))))))))))))) (K18_prlrrrrrrrrlrl cal k m1) (K18_pxrlrrrrrrrrlr cal k) (doneK P results18)
noncomputable def R18_2 (cal : Cal) (k m1 : Nat) : Value → Value → Value → Value → Value → Value → Hp → Nat → Res := fun u0 u7 u8 u9 u10 u11 H n => codeF P cal m1 (Lv.a (Lv.b (Lv.a (Lv.b (Lv.b (Lv.b (Lv.b (Lv.b (Lv.b (Lv.b (Lv.b (Lv.a (Lv.b (A 18)))))))))))))) none 18 (cL (cR (cL (cR (cR (cR (cR (cR (cR (cR (cR (cL (cR code18))))))))))))) (K18_prlrrrrrrrr cal k) (K18_pxrlrrrrrrrrlr cal k) (doneK P results18) (Tr.set (Tr.set (Tr.set (Tr.set (Tr.set (Tr.set Tr.nil 11 (some u11)) 10 (some u10)) 9 (some u9)) 8 (some u8)) 7 (some u7)) 0 (some u0)) H n []
noncomputable def B18_1 (cal : Cal) (k : Nat) (u10 : Value) (H : Hp) (n : Nat) : Res :=
binK P Go.BinOp.eql 84 (Go.Operand.tmp 88) (Go.Operand.const (Go.Value.pointer none)) u10 (Go.Value.pointer none) fun v89_49 =>
ifK v89_49 (
some ((Value.tuple ⟨[(Go.Value.slice none 0 0), (Go.Value.bool false)]⟩), H, n)) (
callFK P cal 36 [u10] H n fun v91_53 H_54 n_55 =>
some ((Value.tuple ⟨[v91_53, (Go.Value.bool true)]⟩), H_54, n_55))
noncomputable def C18_1 (cal : Cal) (k : Nat) (u10 : Value) (H : Hp) (n : Nat) : Res := B18_1 cal k u10 H n
theorem h18_1 (cal : Cal) (k : Nat) (u10 : Value) (H : Hp) (n : Nat) : labK (E18_1 cal k) (Tr.set Tr.nil 10 (some u10)) H n [] = C18_1 cal k u10 H n := by
  have h : labK (E18_1 cal k) (Tr.set Tr.nil 10 (some u10)) H n [] = B18_1 cal k u10 H n := by kernel_rfl
  rw [h, C18_1]
theorem q18_1 (cal : Cal) (k : Nat) (u10 : Value) (H : Hp) (n : Nat) : labK (E18_1 cal k) (Tr.set Tr.nil 10 (some u10)) H n [] = C18_1 cal k u10 H n := h18_1 ..
noncomputable def B18_4 (cal : Cal) (k m1 m2 : Nat) (b2 : Value → Value → Value → Value → Value → Value → Hp → Nat → Res) (b3 : Value → Value → Value → Value → Value → Value → Value → Value → Value → Value → Hp → Nat → Res) (u0 u7 u8 u9 u10 u11 u12 u54 u55 u56 : Value) (H : Hp) (n : Nat) : Res :=
binK P Go.BinOp.add 3 (Go.Operand.tmp 56) (Go.Operand.const (Go.Value.int Go.IntKind.i64 1)) u56 (Go.Value.int Go.IntKind.i64 1) fun v87_81 =>
b3 u0 u7 u8 u9 u10 u11 u12 u54 u55 v87_81 H n
noncomputable def C18_4 (cal : Cal) (k m1 m2 : Nat) (b2 : Value → Value → Value → Value → Value → Value → Hp → Nat → Res) (b3 : Value → Value → Value → Value → Value → Value → Value → Value → Value → Value → Hp → Nat → Res) (u0 u7 u8 u9 u10 u11 u12 u54 u55 u56 : Value) (H : Hp) (n : Nat) : Res := B18_4 cal k m1 m2 b2 b3 u0 u7 u8 u9 u10 u11 u12 u54 u55 u56 H n
theorem h18_4 (cal : Cal) (k m1 m2 : Nat) (u0 u7 u8 u9 u10 u11 u12 u54 u55 u56 : Value) (H : Hp) (n : Nat) : labK (E18_4 cal k m1 m2) (Tr.set (Tr.set (Tr.set (Tr.set (Tr.set (Tr.set (Tr.set (Tr.set (Tr.set (Tr.set Tr.nil 56 (some u56)) 55 (some u55)) 54 (some u54)) 12 (some u12)) 11 (some u11)) 10 (some u10)) 9 (some u9)) 8 (some u8)) 7 (some u7)) 0 (some u0)) H n [] = C18_4 cal k m1 m2 (R18_2 cal k m1) (R18_3 cal k m1 m2) u0 u7 u8 u9 u10 u11 u12 u54 u55 u56 H n := by
  have h : labK (E18_4 cal k m1 m2) (Tr.set (Tr.set (Tr.set (Tr.set (Tr.set (Tr.set (Tr.set (Tr.set (Tr.set (Tr.set Tr.nil 56 (some u56)) 55 (some u55)) 54 (some u54)) 12 (some u12)) 11 (some u11)) 10 (some u10)) 9 (some u9)) 8 (some u8)) 7 (some u7)) 0 (some u0)) H n [] = B18_4 cal k m1 m2 (R18_2 cal k m1) (R18_3 cal k m1 m2) u0 u7 u8 u9 u10 u11 u12 u54 u55 u56 H n := by kernel_rfl
  rw [h, C18_4]
theorem q18_4 (cal : Cal) (k m1 m2 : Nat) (u0 u7 u8 u9 u10 u11 u12 u54 u55 u56 : Value) (H : Hp) (n : Nat) : labK (E18_4 cal k m1 m2) (Tr.set (Tr.set (Tr.set (Tr.set (Tr.set (Tr.set (Tr.set (Tr.set (Tr.set (Tr.set Tr.nil 56 (some u56)) 55 (some u55)) 54 (some u54)) 12 (some u12)) 11 (some u11)) 10 (some u10)) 9 (some u9)) 8 (some u8)) 7 (some u7)) 0 (some u0)) H n [] = C18_4 cal k m1 m2 (R18_2 cal k m1) (R18_3 cal k m1 m2) u0 u7 u8 u9 u10 u11 u12 u54 u55 u56 H n := h18_4 ..
noncomputable def B18_3 (cal : Cal) (k m1 m2 : Nat) (j4 : Value → Value → Value → Value → Value → Value → Value → Value → Value → Value → Hp → Nat → Res) (j1 : Value → Hp → Nat → Res) (b2 : Value → Value → Value → Value → Value → Value → Hp → Nat → Res) (b3 : Value → Value → Value → Value → Value → Value → Value → Value → Value → Value → Hp → Nat → Res) (u0 u7 u8 u9 u10 u11 u12 u54 u55 u56 : Value) (H : Hp) (n : Nat) : Res :=
binK P Go.BinOp.lss 3 (Go.Operand.tmp 56) (Go.Operand.tmp 55) u56 u55 fun v57_80 =>
ifK v57_80 (
bindO (indexAddrV P 54 u54 u56) fun v58_83 =>
bindO (addrV v58_83) fun a_85 => bindO (loadV P H 50 a_85) fun v59_84 =>
callFK P cal 35 [u12, v59_84] H n fun v62_89 H_90 n_91 =>
bindO (indexAddrV P 88 u9 v62_89) fun v64_94 =>
bindO (addrV v64_94) fun a_96 => bindO (loadV P H_90 4 a_96) fun v65_95 =>
ifK v65_95 (
j4 u0 u7 u8 u9 u10 u11 u12 u54 u55 u56 H_90 n_91) (
bindO (indexAddrV P 88 u9 v62_89) fun v67_98 =>
bindO (storeP P 4 v67_98 (Go.Value.bool true) H_90) fun H_100 =>
bindO (indexAddrV P 87 u8 u11) fun v71_104 =>
bindO (addrV v71_104) fun a_106 => bindO (loadV P H_100 84 a_106) fun v72_105 =>
bindO (buildP P 86 [(0, v72_105), (1, v59_84), (2, v62_89)]) fun v75_109 =>
boxK 86 v75_109 H_100 n_91 fun v76_110 H_111 n_112 =>
rowK P 87 1 [(0, v76_110)] H_111 n_112 fun v77_113 H_114 n_115 =>
stK (appendV P (bare H_114 n_115) 87 87 u8 v77_113) fun v78_116 H_117 n_118 =>
binK P Go.BinOp.eql 50 (Go.Operand.tmp 79) (Go.Operand.const (Go.Value.int Go.IntKind.u64 0)) v62_89 (Go.Value.int Go.IntKind.u64 0) fun v80_121 =>
ifK v80_121 (
bindO (lenV P 87 v78_116) fun v83_124 =>
binK P Go.BinOp.sub 3 (Go.Operand.tmp 83) (Go.Operand.const (Go.Value.int Go.IntKind.i64 1)) v83_124 (Go.Value.int Go.IntKind.i64 1) fun v84_125 =>
bindO (indexAddrV P 87 v78_116 v84_125) fun v85_126 =>
bindO (addrV v85_126) fun a_128 => bindO (loadV P H_117 84 a_128) fun v86_127 =>
j1 v86_127 H_117 n_118) (
j4 u0 u7 v78_116 u9 u10 u11 u12 u54 u55 u56 H_117 n_118))) (
binK P Go.BinOp.add 3 (Go.Operand.tmp 43) (Go.Operand.const (Go.Value.int Go.IntKind.i64 1)) u11 (Go.Value.int Go.IntKind.i64 1) fun v44_131 =>
b2 u0 u7 u8 u9 u10 v44_131 H n)
noncomputable def C18_3 (cal : Cal) (k m1 m2 : Nat) (b2 : Value → Value → Value → Value → Value → Value → Hp → Nat → Res) (b3 : Value → Value → Value → Value → Value → Value → Value → Value → Value → Value → Hp → Nat → Res) (u0 u7 u8 u9 u10 u11 u12 u54 u55 u56 : Value) (H : Hp) (n : Nat) : Res := B18_3 cal k m1 m2 (C18_4 cal k m1 m2 b2 b3) (C18_1 cal k) b2 b3 u0 u7 u8 u9 u10 u11 u12 u54 u55 u56 H n
noncomputable def S18_3 (cal : Cal) (k m1 : Nat) (b2 : Value → Value → Value → Value → Value → Value → Hp → Nat → Res) : Nat → Value → Value → Value → Value → Value → Value → Value → Value → Value → Value → Hp → Nat → Res := fun m => Nat.rec (motive := fun _ => Value → Value → Value → Value → Value → Value → Value → Value → Value → Value → Hp → Nat → Res) (C18_3 cal k m1 0 b2 (fun _ _ _ _ _ _ _ _ _ _ _ _ => none)) (fun m ih => C18_3 cal k m1 (m + 1) b2 ih) m
theorem h18_3 (cal : Cal) (k m1 m2 : Nat) (u0 u7 u8 u9 u10 u11 u12 u54 u55 u56 : Value) (H : Hp) (n : Nat) : labK (E18_3 cal k m1 m2) (Tr.set (Tr.set (Tr.set (Tr.set (Tr.set (Tr.set (Tr.set (Tr.set (Tr.set (Tr.set Tr.nil 56 (some u56)) 55 (some u55)) 54 (some u54)) 12 (some u12)) 11 (some u11)) 10 (some u10)) 9 (some u9)) 8 (some u8)) 7 (some u7)) 0 (some u0)) H n [] = C18_3 cal k m1 m2 (R18_2 cal k m1) (R18_3 cal k m1 m2) u0 u7 u8 u9 u10 u11 u12 u54 u55 u56 H n := by
  have h : labK (E18_3 cal k m1 m2) (Tr.set (Tr.set (Tr.set (Tr.set (Tr.set (Tr.set (Tr.set (Tr.set (Tr.set (Tr.set Tr.nil 56 (some u56)) 55 (some u55)) 54 (some u54)) 12 (some u12)) 11 (some u11)) 10 (some u10)) 9 (some u9)) 8 (some u8)) 7 (some u7)) 0 (some u0)) H n [] = B18_3 cal k m1 m2 (fun u0 u7 u8 u9 u10 u11 u12 u54 u55 u56 H n => labK (E18_4 cal k m1 m2) (Tr.set (Tr.set (Tr.set (Tr.set (Tr.set (Tr.set (Tr.set (Tr.set (Tr.set (Tr.set Tr.nil 56 (some u56)) 55 (some u55)) 54 (some u54)) 12 (some u12)) 11 (some u11)) 10 (some u10)) 9 (some u9)) 8 (some u8)) 7 (some u7)) 0 (some u0)) H n []) (fun u10 H n => labK (E18_1 cal k) (Tr.set Tr.nil 10 (some u10)) H n []) (R18_2 cal k m1) (R18_3 cal k m1 m2) u0 u7 u8 u9 u10 u11 u12 u54 u55 u56 H n := by kernel_rfl
  rw [h, C18_3]
  have e4 : (fun u0 u7 u8 u9 u10 u11 u12 u54 u55 u56 H n => labK (E18_4 cal k m1 m2) (Tr.set (Tr.set (Tr.set (Tr.set (Tr.set (Tr.set (Tr.set (Tr.set (Tr.set (Tr.set Tr.nil 56 (some u56)) 55 (some u55)) 54 (some u54)) 12 (some u12)) 11 (some u11)) 10 (some u10)) 9 (some u9)) 8 (some u8)) 7 (some u7)) 0 (some u0)) H n []) = (C18_4 cal k m1 m2 (R18_2 cal k m1) (R18_3 cal k m1 m2)) := by funext u0 u7 u8 u9 u10 u11 u12 u54 u55 u56 H n; exact q18_4 ..
  rw [e4]
  have e1 : (fun u10 H n => labK (E18_1 cal k) (Tr.set Tr.nil 10 (some u10)) H n []) = (C18_1 cal k) := by funext u10 H n; exact q18_1 ..
  rw [e1]
theorem q18_3 (cal : Cal) (k m1 : Nat) : ∀ (m : Nat) (u0 u7 u8 u9 u10 u11 u12 u54 u55 u56 : Value) (H : Hp) (n : Nat), labK (E18_3 cal k m1 m) (Tr.set (Tr.set (Tr.set (Tr.set (Tr.set (Tr.set (Tr.set (Tr.set (Tr.set (Tr.set Tr.nil 56 (some u56)) 55 (some u55)) 54 (some u54)) 12 (some u12)) 11 (some u11)) 10 (some u10)) 9 (some u9)) 8 (some u8)) 7 (some u7)) 0 (some u0)) H n [] = S18_3 cal k m1 (R18_2 cal k m1) m u0 u7 u8 u9 u10 u11 u12 u54 u55 u56 H n
  | 0, u0, u7, u8, u9, u10, u11, u12, u54, u55, u56, H, n => by
    rw [h18_3]
    have e : R18_3 cal k m1 0 = fun _ _ _ _ _ _ _ _ _ _ _ _ => none := by funext u0 u7 u8 u9 u10 u11 u12 u54 u55 u56 H n; kernel_rfl
    rw [e]; rfl
  | m + 1, u0, u7, u8, u9, u10, u11, u12, u54, u55, u56, H, n => by
    rw [h18_3]
    have e : R18_3 cal k m1 (m + 1) = S18_3 cal k m1 (R18_2 cal k m1) m := by
      funext u0 u7 u8 u9 u10 u11 u12 u54 u55 u56 H n
      have e : R18_3 cal k m1 (m + 1) u0 u7 u8 u9 u10 u11 u12 u54 u55 u56 H n = labK (E18_3 cal k m1 m) (Tr.set (Tr.set (Tr.set (Tr.set (Tr.set (Tr.set (Tr.set (Tr.set (Tr.set (Tr.set Tr.nil 56 (some u56)) 55 (some u55)) 54 (some u54)) 12 (some u12)) 11 (some u11)) 10 (some u10)) 9 (some u9)) 8 (some u8)) 7 (some u7)) 0 (some u0)) H n [] := by kernel_rfl
      rw [e]; exact q18_3 ..
    rw [e]; rfl
noncomputable def B18_2 (cal : Cal) (k m1 : Nat) (j3 : Value → Value → Value → Value → Value → Value → Value → Value → Value → Value → Hp → Nat → Res) (j1 : Value → Hp → Nat → Res) (b2 : Value → Value → Value → Value → Value → Value → Hp → Nat → Res) (u0 u7 u8 u9 u10 u11 : Value) (H : Hp) (n : Nat) : Res :=
bindO (lenV P 87 u8) fun v41_61 =>
binK P Go.BinOp.lss 3 (Go.Operand.tmp 39) (Go.Operand.tmp 41) u11 v41_61 fun v42_62 =>
ifK v42_62 (
bindO (indexAddrV P 87 u8 u11) fun v48_66 =>
bindO (addrV v48_66) fun a_68 => bindO (loadV P H 84 a_68) fun v49_67 =>
bindO (nilV v49_67) fun v50_69 =>
bindO (fieldAddrV P 86 v50_69 2) fun v51_70 =>
bindO (addrV v51_70) fun a_72 => bindO (loadV P H 50 a_72) fun v52_71 =>
callFK P cal 34 [u0, v52_71] H n fun v53_73 H_74 n_75 =>
bindO (lenV P 54 u7) fun v55_78 =>
j3 u0 u7 u8 u9 u10 u11 v53_73 u7 v55_78 (Go.Value.int Go.IntKind.i64 0) H_74 n_75) (
j1 u10 H n)
noncomputable def C18_2 (cal : Cal) (k m1 : Nat) (b2 : Value → Value → Value → Value → Value → Value → Hp → Nat → Res) (u0 u7 u8 u9 u10 u11 : Value) (H : Hp) (n : Nat) : Res := B18_2 cal k m1 (S18_3 cal k m1 b2 m1) (C18_1 cal k) b2 u0 u7 u8 u9 u10 u11 H n
noncomputable def S18_2 (cal : Cal) (k : Nat) : Nat → Value → Value → Value → Value → Value → Value → Hp → Nat → Res := fun m => Nat.rec (motive := fun _ => Value → Value → Value → Value → Value → Value → Hp → Nat → Res) (C18_2 cal k 0 (fun _ _ _ _ _ _ _ _ => none)) (fun m ih => C18_2 cal k (m + 1) ih) m
theorem h18_2 (cal : Cal) (k m1 : Nat) (u0 u7 u8 u9 u10 u11 : Value) (H : Hp) (n : Nat) : labK (E18_2 cal k m1) (Tr.set (Tr.set (Tr.set (Tr.set (Tr.set (Tr.set Tr.nil 11 (some u11)) 10 (some u10)) 9 (some u9)) 8 (some u8)) 7 (some u7)) 0 (some u0)) H n [] = C18_2 cal k m1 (R18_2 cal k m1) u0 u7 u8 u9 u10 u11 H n := by
  have h : labK (E18_2 cal k m1) (Tr.set (Tr.set (Tr.set (Tr.set (Tr.set (Tr.set Tr.nil 11 (some u11)) 10 (some u10)) 9 (some u9)) 8 (some u8)) 7 (some u7)) 0 (some u0)) H n [] = B18_2 cal k m1 (fun u0 u7 u8 u9 u10 u11 u12 u54 u55 u56 H n => labK (E18_3 cal k m1 m1) (Tr.set (Tr.set (Tr.set (Tr.set (Tr.set (Tr.set (Tr.set (Tr.set (Tr.set (Tr.set Tr.nil 56 (some u56)) 55 (some u55)) 54 (some u54)) 12 (some u12)) 11 (some u11)) 10 (some u10)) 9 (some u9)) 8 (some u8)) 7 (some u7)) 0 (some u0)) H n []) (fun u10 H n => labK (E18_1 cal k) (Tr.set Tr.nil 10 (some u10)) H n []) (R18_2 cal k m1) u0 u7 u8 u9 u10 u11 H n := by kernel_rfl
  rw [h, C18_2]
  have e3 : (fun u0 u7 u8 u9 u10 u11 u12 u54 u55 u56 H n => labK (E18_3 cal k m1 m1) (Tr.set (Tr.set (Tr.set (Tr.set (Tr.set (Tr.set (Tr.set (Tr.set (Tr.set (Tr.set Tr.nil 56 (some u56)) 55 (some u55)) 54 (some u54)) 12 (some u12)) 11 (some u11)) 10 (some u10)) 9 (some u9)) 8 (some u8)) 7 (some u7)) 0 (some u0)) H n []) = (S18_3 cal k m1 (R18_2 cal k m1) m1) := by funext u0 u7 u8 u9 u10 u11 u12 u54 u55 u56 H n; exact q18_3 ..
  rw [e3]
  have e1 : (fun u10 H n => labK (E18_1 cal k) (Tr.set Tr.nil 10 (some u10)) H n []) = (C18_1 cal k) := by funext u10 H n; exact q18_1 ..
  rw [e1]
theorem q18_2 (cal : Cal) (k : Nat) : ∀ (m : Nat) (u0 u7 u8 u9 u10 u11 : Value) (H : Hp) (n : Nat), labK (E18_2 cal k m) (Tr.set (Tr.set (Tr.set (Tr.set (Tr.set (Tr.set Tr.nil 11 (some u11)) 10 (some u10)) 9 (some u9)) 8 (some u8)) 7 (some u7)) 0 (some u0)) H n [] = S18_2 cal k m u0 u7 u8 u9 u10 u11 H n
  | 0, u0, u7, u8, u9, u10, u11, H, n => by
    rw [h18_2]
    have e : R18_2 cal k 0 = fun _ _ _ _ _ _ _ _ => none := by funext u0 u7 u8 u9 u10 u11 H n; kernel_rfl
    rw [e]; rfl
  | m + 1, u0, u7, u8, u9, u10, u11, H, n => by
    rw [h18_2]
    have e : R18_2 cal k (m + 1) = S18_2 cal k m := by
      funext u0 u7 u8 u9 u10 u11 H n
      have e : R18_2 cal k (m + 1) u0 u7 u8 u9 u10 u11 H n = labK (E18_2 cal k m) (Tr.set (Tr.set (Tr.set (Tr.set (Tr.set (Tr.set Tr.nil 11 (some u11)) 10 (some u10)) 9 (some u9)) 8 (some u8)) 7 (some u7)) 0 (some u0)) H n [] := by kernel_rfl
      rw [e]; exact q18_2 ..
    rw [e]; rfl
noncomputable def B18_0 (cal : Cal) (k : Nat) (j2 : Value → Value → Value → Value → Value → Value → Hp → Nat → Res) (v0 v1 : Value) (H : Hp) (n : Nat) : Res :=
bindO (nilV v0) fun v17_4 =>
bindO (fieldAddrV P 53 v17_4 0) fun v18_5 =>
bindO (fieldAddrV P 33 v18_5 1) fun v19_6 =>
bindO (addrV v19_6) fun a_8 => bindO (loadV P H 31 a_8) fun v20_7 =>
callFK P cal 29 [v20_7] H n fun v21_9 H_10 n_11 =>
bindO (buildP P 86 [(2, v21_9)]) fun v22_12 =>
boxK 86 v22_12 H_10 n_11 fun v23_13 H_14 n_15 =>
bindO (nilV v23_13) fun v25_18 =>
bindO (fieldAddrV P 86 v25_18 2) fun v26_19 =>
bindO (addrV v26_19) fun a_21 => bindO (loadV P H_14 50 a_21) fun v27_20 =>
binK P Go.BinOp.eql 50 (Go.Operand.tmp 27) (Go.Operand.const (Go.Value.int Go.IntKind.u64 0)) v27_20 (Go.Value.int Go.IntKind.u64 0) fun v28_22 =>
ifK v28_22 (
some ((Value.tuple ⟨[(Go.Value.slice none 0 0), (Go.Value.bool true)]⟩), H_14, n_15)) (
callFK P cal 30 [v0, v1] H_14 n_15 fun v31_27 H_28 n_29 =>
rowK P 87 1 [(0, v23_13)] H_28 n_29 fun v33_32 H_33 n_34 =>
allocK P 88 H_33 n_34 fun v9_36 H_37 n_38 =>
bindO (nilV v23_13) fun v35_40 =>
bindO (fieldAddrV P 86 v35_40 2) fun v36_41 =>
bindO (addrV v36_41) fun a_43 => bindO (loadV P H_37 50 a_43) fun v37_42 =>
bindO (indexAddrV P 88 v9_36 v37_42) fun v38_44 =>
bindO (storeP P 4 v38_44 (Go.Value.bool true) H_37) fun H_46 =>
j2 v0 v31_27 v33_32 v9_36 (Go.Value.pointer none) (Go.Value.int Go.IntKind.i64 0) H_46 n_38)
noncomputable def C18_0 (cal : Cal) (k : Nat) (v0 v1 : Value) (H : Hp) (n : Nat) : Res := B18_0 cal k (S18_2 cal k k) v0 v1 H n
theorem h18_0 (cal : Cal) (k : Nat) (v0 v1 : Value) (H : Hp) (n : Nat) : bodyE P cal A (k + 1) 18 [v0, v1] H n = C18_0 cal k v0 v1 H n := by
  have h : bodyE P cal A (k + 1) 18 [v0, v1] H n = B18_0 cal k (fun u0 u7 u8 u9 u10 u11 H n => labK (E18_2 cal k k) (Tr.set (Tr.set (Tr.set (Tr.set (Tr.set (Tr.set Tr.nil 11 (some u11)) 10 (some u10)) 9 (some u9)) 8 (some u8)) 7 (some u7)) 0 (some u0)) H n []) v0 v1 H n := by
    rw [body_eq (fn := Go.Proofs.Try.f18) (c := code18) (rs := results18) (by kernel_rfl) (by kernel_rfl) (by kernel_rfl) (by kernel_rfl)]
    kernel_rfl
  rw [h, C18_0]
  have e2 : (fun u0 u7 u8 u9 u10 u11 H n => labK (E18_2 cal k k) (Tr.set (Tr.set (Tr.set (Tr.set (Tr.set (Tr.set Tr.nil 11 (some u11)) 10 (some u10)) 9 (some u9)) 8 (some u8)) 7 (some u7)) 0 (some u0)) H n []) = (S18_2 cal k k) := by funext u0 u7 u8 u9 u10 u11 H n; exact q18_2 ..
  rw [e2]
noncomputable def code19 : Code := codeOf 19
noncomputable def results19 : List ResultVar := resOf 19
noncomputable def K19_p (cal : Cal) (k : Nat) : KC (Value × Hp × Nat) := (cutK (A 19).c (codeE P cal (codeF P cal k) none 19 (cR code19) (Lv.b (A 19)) (doneK P results19) X0 (doneK P results19)))
noncomputable def K19_pr (cal : Cal) (k : Nat) : KC (Value × Hp × Nat) := (cutK (Lv.b (A 19)).c (codeE P cal (codeF P cal k) none 19 (cR (cR code19)) (Lv.b (Lv.b (A 19))) (doneK P results19) X0 (doneK P results19)))
noncomputable def K19_prl (cal : Cal) (k : Nat) : KC (Value × Hp × Nat) := (cutK (Lv.a (Lv.b (A 19))).c (codeE P cal (codeF P cal k) none 19 (cR (cL (cR code19))) (Lv.b (Lv.a (Lv.b (A 19)))) (K19_pr cal k) X0 (doneK P results19)))
noncomputable def K19_prlrl (cal : Cal) (k : Nat) : KC (Value × Hp × Nat) := (cutK (Lv.a (Lv.b (Lv.a (Lv.b (A 19))))).c (codeE P cal (codeF P cal k) none 19 (cR (cL (cR (cL (cR code19))))) (Lv.b (Lv.a (Lv.b (Lv.a (Lv.b (A 19)))))) (K19_pr cal k) X0 (doneK P results19)))
noncomputable def K19_prr (cal : Cal) (k : Nat) : KC (Value × Hp × Nat) := (cutK (Lv.b (Lv.b (A 19))).c (codeE P cal (codeF P cal k) none 19 (cR (cR (cR code19))) (Lv.b (Lv.b (Lv.b (A 19)))) (doneK P results19) X0 (doneK P results19)))
noncomputable def K19_prrl (cal : Cal) (k : Nat) : KC (Value × Hp × Nat) := (cutK (Lv.a (Lv.b (Lv.b (A 19)))).c (codeE P cal (codeF P cal k) none 19 (cR (cL (cR (cR code19)))) (Lv.b (Lv.a (Lv.b (Lv.b (A 19))))) (K19_prr cal k) X0 (doneK P results19)))
noncomputable def K19_pxrrlr (cal : Cal) (k : Nat) : XC (Value × Hp × Nat) := (upX 0 (K19_prr cal k) X0)
noncomputable def K19_prrlrl (cal : Cal) (k : Nat) (m1 : Nat) : KC (Value × Hp × Nat) := (fun T H n D => codeF P cal m1 (Lv.a (Lv.b (Lv.a (Lv.b (Lv.b (A 19)))))) none 19 (cL (cR (cL (cR (cR code19))))) (K19_prr cal k) (K19_pxrrlr cal k) (doneK P results19) (cutT (Lv.a (Lv.b (Lv.a (Lv.b (Lv.b (A 19)))))).c T) H n D)
noncomputable def K19_prrlrll (cal : Cal) (k : Nat) (m1 : Nat) : KC (Value × Hp × Nat) := (cutK (Lv.a (Lv.a (Lv.b (Lv.a (Lv.b (Lv.b (A 19))))))).c (codeE P cal (codeF P cal m1) none 19 (cR (cL (cL (cR (cL (cR (cR code19))))))) (Lv.b (Lv.a (Lv.a (Lv.b (Lv.a (Lv.b (Lv.b (A 19)))))))) (K19_prrlrl cal k m1) (K19_pxrrlr cal k) (doneK P results19)))
noncomputable def K19_prrlrlll (cal : Cal) (k : Nat) (m1 : Nat) : KC (Value × Hp × Nat) := (cutK (Lv.a (Lv.a (Lv.a (Lv.b (Lv.a (Lv.b (Lv.b (A 19)))))))).c (codeE P cal (codeF P cal m1) none 19 (cR (cL (cL (cL (cR (cL (cR (cR code19)))))))) (Lv.b (Lv.a (Lv.a (Lv.a (Lv.b (Lv.a (Lv.b (Lv.b (A 19))))))))) (K19_prrlrll cal k m1) (K19_pxrrlr cal k) (doneK P results19)))
noncomputable def K19_prrlrllr (cal : Cal) (k : Nat) (m1 : Nat) : KC (Value × Hp × Nat) := (cutK (Lv.b (Lv.a (Lv.a (Lv.b (Lv.a (Lv.b (Lv.b (A 19)))))))).c (codeE P cal (codeF P cal m1) none 19 (cR (cR (cL (cL (cR (cL (cR (cR code19)))))))) (Lv.b (Lv.b (Lv.a (Lv.a (Lv.b (Lv.a (Lv.b (Lv.b (A 19))))))))) (K19_prrlrl cal k m1) (K19_pxrrlr cal k) (doneK P results19)))
noncomputable def K19_pxrrlrllrl (cal : Cal) (k : Nat) (m1 : Nat) : XC (Value × Hp × Nat) := (upX 1 (K19_prrlrllr cal k m1) (K19_pxrrlr cal k))
noncomputable def K19_prrlrllrll (cal : Cal) (k : Nat) (m1 : Nat) : KC (Value × Hp × Nat) := (cutK (Lv.a (Lv.a (Lv.b (Lv.a (Lv.a (Lv.b (Lv.a (Lv.b (Lv.b (A 19)))))))))).c (codeE P cal (codeF P cal m1) none 19 (cR (cL (cL (cR (cL (cL (cR (cL (cR (cR code19)))))))))) (Lv.b (Lv.a (Lv.a (Lv.b (Lv.a (Lv.a (Lv.b (Lv.a (Lv.b (Lv.b (A 19))))))))))) (K19_prrlrllr cal k m1) (K19_pxrrlrllrl cal k m1) (doneK P results19)))
noncomputable def K19_prrlrllrllrl (cal : Cal) (k : Nat) (m1 : Nat) : KC (Value × Hp × Nat) := (cutK (Lv.a (Lv.b (Lv.a (Lv.a (Lv.b (Lv.a (Lv.a (Lv.b (Lv.a (Lv.b (Lv.b (A 19)))))))))))).c (codeE P cal (codeF P cal m1) none 19 (cR (cL (cR (cL (cL (cR (cL (cL (cR (cL (cR (cR code19)))))))))))) (Lv.b (Lv.a (Lv.b (Lv.a (Lv.a (Lv.b (Lv.a (Lv.a (Lv.b (Lv.a (Lv.b (Lv.b (A 19))))))))))))) (K19_prrlrllr cal k m1) (K19_pxrrlrllrl cal k m1) (doneK P results19)))
noncomputable def K19_prrr (cal : Cal) (k : Nat) : KC (Value × Hp × Nat) := (cutK (Lv.b (Lv.b (Lv.b (A 19)))).c (codeE P cal (codeF P cal k) none 19 (cR (cR (cR (cR code19)))) (Lv.b (Lv.b (Lv.b (Lv.b (A 19))))) (doneK P results19) X0 (doneK P results19)))
noncomputable def E19_1 (cal : Cal) (k m1 : Nat) : KC (Value × Hp × Nat) := codeE P cal (codeF P cal m1) none 19 (cL (cL (cR (cL (cR (cR code19)))))) (Lv.a (Lv.a (Lv.b (Lv.a (Lv.b (Lv.b (A 19))))))) (K19_prrlrl cal k m1) (K19_pxrrlr cal k) (doneK P results19)
noncomputable def R19_1 (cal : Cal) (k m1 : Nat) : Value → Value → Value → Hp → Nat → Res := fun u0 u1 u5 H n => codeF P cal m1 (Lv.a (Lv.b (Lv.a (Lv.b (Lv.b (A 19)))))) none 19 (cL (cR (cL (cR (cR code19))))) (K19_prr cal k) (K19_pxrrlr cal k) (doneK P results19) (Tr.set (Tr.set (Tr.set Tr.nil 5 (some u5)) 1 (some u1)) 0 (some u0)) H n []
noncomputable def B19_1 (cal : Cal) (k m1 : Nat) (b1 : Value → Value → Value → Hp → Nat → Res) (u0 u1 u5 : Value) (H : Hp) (n : Nat) : Res :=
bindO (lenV P 31 u0) fun v13_11 =>
binK P Go.BinOp.lss 3 (Go.Operand.tmp 11) (Go.Operand.tmp 13) u5 v13_11 fun v14_12 =>
ifK v14_12 (
bindO (indexAddrV P 31 u0 u5) fun v19_15 =>
bindO (addrV v19_15) fun a_16 => bindO (loadV P H 3 a_16) fun v_17 =>
bindO (indexAddrV P 31 u1 u5) fun v23_20 =>
bindO (addrV v23_20) fun a_21 => bindO (loadV P H 3 a_21) fun v_22 =>
binK P Go.BinOp.neq 3 (Go.Operand.tmp 20) (Go.Operand.tmp 24) v_17 v_22 fun v25_23 =>
ifK v25_23 (
some ((Go.Value.bool false), H, n)) (
binK P Go.BinOp.add 3 (Go.Operand.tmp 15) (Go.Operand.const (Go.Value.int Go.IntKind.i64 1)) u5 (Go.Value.int Go.IntKind.i64 1) fun v16_26 =>
b1 u0 u1 v16_26 H n)) (
some ((Go.Value.bool true), H, n))
noncomputable def C19_1 (cal : Cal) (k m1 : Nat) (b1 : Value → Value → Value → Hp → Nat → Res) (u0 u1 u5 : Value) (H : Hp) (n : Nat) : Res := B19_1 cal k m1 b1 u0 u1 u5 H n
noncomputable def S19_1 (cal : Cal) (k : Nat) : Nat → Value → Value → Value → Hp → Nat → Res := fun m => Nat.rec (motive := fun _ => Value → Value → Value → Hp → Nat → Res) (C19_1 cal k 0 (fun _ _ _ _ _ => none)) (fun m ih => C19_1 cal k (m + 1) ih) m
theorem h19_1 (cal : Cal) (k m1 : Nat) (u0 u1 u5 : Value) (H : Hp) (n : Nat) : labK (E19_1 cal k m1) (Tr.set (Tr.set (Tr.set Tr.nil 5 (some u5)) 1 (some u1)) 0 (some u0)) H n [] = C19_1 cal k m1 (R19_1 cal k m1) u0 u1 u5 H n := by
  have h : labK (E19_1 cal k m1) (Tr.set (Tr.set (Tr.set Tr.nil 5 (some u5)) 1 (some u1)) 0 (some u0)) H n [] = B19_1 cal k m1 (R19_1 cal k m1) u0 u1 u5 H n := by kernel_rfl
  rw [h, C19_1]
theorem q19_1 (cal : Cal) (k : Nat) : ∀ (m : Nat) (u0 u1 u5 : Value) (H : Hp) (n : Nat), labK (E19_1 cal k m) (Tr.set (Tr.set (Tr.set Tr.nil 5 (some u5)) 1 (some u1)) 0 (some u0)) H n [] = S19_1 cal k m u0 u1 u5 H n
  | 0, u0, u1, u5, H, n => by
    rw [h19_1]
    have e : R19_1 cal k 0 = fun _ _ _ _ _ => none := by funext u0 u1 u5 H n; kernel_rfl
    rw [e]; rfl
  | m + 1, u0, u1, u5, H, n => by
    rw [h19_1]
    have e : R19_1 cal k (m + 1) = S19_1 cal k m := by
      funext u0 u1 u5 H n
      have e : R19_1 cal k (m + 1) u0 u1 u5 H n = labK (E19_1 cal k m) (Tr.set (Tr.set (Tr.set Tr.nil 5 (some u5)) 1 (some u1)) 0 (some u0)) H n [] := by kernel_rfl
      rw [e]; exact q19_1 ..
    rw [e]; rfl
noncomputable def B19_0 (cal : Cal) (k : Nat) (j1 : Value → Value → Value → Hp → Nat → Res) (v0 v1 : Value) (H : Hp) (n : Nat) : Res :=
bindO (lenV P 31 v0) fun v7_3 =>
bindO (lenV P 31 v1) fun v9_5 =>
binK P Go.BinOp.neq 3 (Go.Operand.tmp 7) (Go.Operand.tmp 9) v7_3 v9_5 fun v10_6 =>
ifK v10_6 (
some ((Go.Value.bool false), H, n)) (
j1 v0 v1 (Go.Value.int Go.IntKind.i64 0) H n)
noncomputable def C19_0 (cal : Cal) (k : Nat) (v0 v1 : Value) (H : Hp) (n : Nat) : Res := B19_0 cal k (S19_1 cal k k) v0 v1 H n
theorem h19_0 (cal : Cal) (k : Nat) (v0 v1 : Value) (H : Hp) (n : Nat) : bodyE P cal A (k + 1) 19 [v0, v1] H n = C19_0 cal k v0 v1 H n := by
  have h : bodyE P cal A (k + 1) 19 [v0, v1] H n = B19_0 cal k (fun u0 u1 u5 H n => labK (E19_1 cal k k) (Tr.set (Tr.set (Tr.set Tr.nil 5 (some u5)) 1 (some u1)) 0 (some u0)) H n []) v0 v1 H n := by
    rw [body_eq (fn := Go.Proofs.Try.f19) (c := code19) (rs := results19) (by kernel_rfl) (by kernel_rfl) (by kernel_rfl) (by kernel_rfl)]
    kernel_rfl
  rw [h, C19_0]
  have e1 : (fun u0 u1 u5 H n => labK (E19_1 cal k k) (Tr.set (Tr.set (Tr.set Tr.nil 5 (some u5)) 1 (some u1)) 0 (some u0)) H n []) = (S19_1 cal k k) := by funext u0 u1 u5 H n; exact q19_1 ..
  rw [e1]
noncomputable def code20 : Code := codeOf 20
noncomputable def results20 : List ResultVar := resOf 20
noncomputable def K20_p (cal : Cal) (k : Nat) : KC (Value × Hp × Nat) := (cutK (A 20).c (codeE P cal (codeF P cal k) none 20 (cR code20) (Lv.b (A 20)) (doneK P results20) X0 (doneK P results20)))
noncomputable def K20_pr (cal : Cal) (k : Nat) : KC (Value × Hp × Nat) := (cutK (Lv.b (A 20)).c (codeE P cal (codeF P cal k) none 20 (cR (cR code20)) (Lv.b (Lv.b (A 20))) (doneK P results20) X0 (doneK P results20)))
noncomputable def K20_prr (cal : Cal) (k : Nat) : KC (Value × Hp × Nat) := (cutK (Lv.b (Lv.b (A 20))).c (codeE P cal (codeF P cal k) none 20 (cR (cR (cR code20))) (Lv.b (Lv.b (Lv.b (A 20)))) (doneK P results20) X0 (doneK P results20)))
noncomputable def K20_prrl (cal : Cal) (k : Nat) : KC (Value × Hp × Nat) := (cutK (Lv.a (Lv.b (Lv.b (A 20)))).c (codeE P cal (codeF P cal k) none 20 (cR (cL (cR (cR code20)))) (Lv.b (Lv.a (Lv.b (Lv.b (A 20))))) (K20_prr cal k) X0 (doneK P results20)))
noncomputable def K20_prrlrl (cal : Cal) (k : Nat) : KC (Value × Hp × Nat) := (cutK (Lv.a (Lv.b (Lv.a (Lv.b (Lv.b (A 20)))))).c (codeE P cal (codeF P cal k) none 20 (cR (cL (cR (cL (cR (cR code20)))))) (Lv.b (Lv.a (Lv.b (Lv.a (Lv.b (Lv.b (A 20))))))) (K20_prr cal k) X0 (doneK P results20)))
noncomputable def K20_prrr (cal : Cal) (k : Nat) : KC (Value × Hp × Nat) := (cutK (Lv.b (Lv.b (Lv.b (A 20)))).c (codeE P cal (codeF P cal k) none 20 (cR (cR (cR (cR code20)))) (Lv.b (Lv.b (Lv.b (Lv.b (A 20))))) (doneK P results20) X0 (doneK P results20)))
noncomputable def K20_prrrl (cal : Cal) (k : Nat) : KC (Value × Hp × Nat) := (cutK (Lv.a (Lv.b (Lv.b (Lv.b (A 20))))).c (codeE P cal (codeF P cal k) none 20 (cR (cL (cR (cR (cR code20))))) (Lv.b (Lv.a (Lv.b (Lv.b (Lv.b (A 20)))))) (K20_prrr cal k) X0 (doneK P results20)))
noncomputable def K20_prrrlrl (cal : Cal) (k : Nat) : KC (Value × Hp × Nat) := (cutK (Lv.a (Lv.b (Lv.a (Lv.b (Lv.b (Lv.b (A 20))))))).c (codeE P cal (codeF P cal k) none 20 (cR (cL (cR (cL (cR (cR (cR code20))))))) (Lv.b (Lv.a (Lv.b (Lv.a (Lv.b (Lv.b (Lv.b (A 20)))))))) (K20_prrr cal k) X0 (doneK P results20)))
noncomputable def K20_prrrr (cal : Cal) (k : Nat) : KC (Value × Hp × Nat) := (cutK (Lv.b (Lv.b (Lv.b (Lv.b (A 20))))).c (codeE P cal (codeF P cal k) none 20 (cR (cR (cR (cR (cR code20))))) (Lv.b (Lv.b (Lv.b (Lv.b (Lv.b (A 20)))))) (doneK P results20) X0 (doneK P results20)))
noncomputable def K20_prrrrl (cal : Cal) (k : Nat) : KC (Value × Hp × Nat) := (cutK (Lv.a (Lv.b (Lv.b (Lv.b (Lv.b (A 20)))))).c (codeE P cal (codeF P cal k) none 20 (cR (cL (cR (cR (cR (cR code20)))))) (Lv.b (Lv.a (Lv.b (Lv.b (Lv.b (Lv.b (A 20))))))) (K20_prrrr cal k) X0 (doneK P results20)))
noncomputable def K20_prrrrlrl (cal : Cal) (k : Nat) : KC (Value × Hp × Nat) := (cutK (Lv.a (Lv.b (Lv.a (Lv.b (Lv.b (Lv.b (Lv.b (A 20)))))))).c (codeE P cal (codeF P cal k) none 20 (cR (cL (cR (cL (cR (cR (cR (cR code20)))))))) (Lv.b (Lv.a (Lv.b (Lv.a (Lv.b (Lv.b (Lv.b (Lv.b (A 20))))))))) (K20_prrrr cal k) X0 (doneK P results20)))
noncomputable def K20_prrrrr (cal : Cal) (k : Nat) : KC (Value × Hp × Nat) := (cutK (Lv.b (Lv.b (Lv.b (Lv.b (Lv.b (A 20)))))).c (codeE P cal (codeF P cal k) none 20 (cR (cR (cR (cR (cR (cR code20)))))) (Lv.b (Lv.b (Lv.b (Lv.b (Lv.b (Lv.b (A 20))))))) (doneK P results20) X0 (doneK P results20)))
noncomputable def K20_prrrrrr (cal : Cal) (k : Nat) : KC (Value × Hp × Nat) := (cutK (Lv.b (Lv.b (Lv.b (Lv.b (Lv.b (Lv.b (A 20))))))).c (codeE P cal (codeF P cal k) none 20 (cR (cR (cR (cR (cR (cR (cR code20))))))) (Lv.b (Lv.b (Lv.b (Lv.b (Lv.b (Lv.b (Lv.b (A 20)))))))) (doneK P results20) X0 (doneK P results20)))
noncomputable def K20_prrrrrrl (cal : Cal) (k : Nat) : KC (Value × Hp × Nat) := (cutK (Lv.a (Lv.b (Lv.b (Lv.b (Lv.b (Lv.b (Lv.b (A 20)))))))).c (codeE P cal (codeF P cal k) none 20 (cR (cL (cR (cR (cR (cR (cR (cR code20)))))))) (Lv.b (Lv.a (Lv.b (Lv.b (Lv.b (Lv.b (Lv.b (Lv.b (A 20))))))))) (K20_prrrrrr cal k) X0 (doneK P results20)))
noncomputable def K20_pxrrrrrrlr (cal : Cal) (k : Nat) : XC (Value × Hp × Nat) := (upX 0 (K20_prrrrrr cal k) X0)
noncomputable def K20_prrrrrrlrl (cal : Cal) (k : Nat) (m1 : Nat) : KC (Value × Hp × Nat) := (fun T H n D => codeF P cal m1 (Lv.a (Lv.b (Lv.a (Lv.b (Lv.b (Lv.b (Lv.b (Lv.b (Lv.b (A 20)))))))))) none 20 (cL (cR (cL (cR (cR (cR (cR (cR (cR code20))))))))) (K20_prrrrrr cal k) (K20_pxrrrrrrlr cal k) (doneK P results20) (cutT (Lv.a (Lv.b (Lv.a (Lv.b (Lv.b (Lv.b (Lv.b (Lv.b (Lv.b (A 20)))))))))).c T) H n D)
noncomputable def K20_prrrrrrlrll (cal : Cal) (k : Nat) (m1 : Nat) : KC (Value × Hp × Nat) := (cutK (Lv.a (Lv.a (Lv.b (Lv.a (Lv.b (Lv.b (Lv.b (Lv.b (Lv.b (Lv.b (A 20))))))))))).c (codeE P cal (codeF P cal m1) none 20 (cR (cL (cL (cR (cL (cR (cR (cR (cR (cR (cR code20))))))))))) (Lv.b (Lv.a (Lv.a (Lv.b (Lv.a (Lv.b (Lv.b (Lv.b (Lv.b (Lv.b (Lv.b (A 20)))))))))))) (K20_prrrrrrlrl cal k m1) (K20_pxrrrrrrlr cal k) (doneK P results20)))
noncomputable def K20_prrrrrrlrllr (cal : Cal) (k : Nat) (m1 : Nat) : KC (Value × Hp × Nat) := (cutK (Lv.b (Lv.a (Lv.a (Lv.b (Lv.a (Lv.b (Lv.b (Lv.b (Lv.b (Lv.b (Lv.b (A 20)))))))))))).c (codeE P cal (codeF P cal m1) none 20 (cR (cR (cL (cL (cR (cL (cR (cR (cR (cR (cR (cR code20)))))))))))) (Lv.b (Lv.b (Lv.a (Lv.a (Lv.b (Lv.a (Lv.b (Lv.b (Lv.b (Lv.b (Lv.b (Lv.b (A 20))))))))))))) (K20_prrrrrrlrl cal k m1) (K20_pxrrrrrrlr cal k) (doneK P results20)))
noncomputable def K20_prrrrrrlrllrr (cal : Cal) (k : Nat) (m1 : Nat) : KC (Value × Hp × Nat) := (cutK (Lv.b (Lv.b (Lv.a (Lv.a (Lv.b (Lv.a (Lv.b (Lv.b (Lv.b (Lv.b (Lv.b (Lv.b (A 20))))))))))))).c (codeE P cal (codeF P cal m1) none 20 (cR (cR (cR (cL (cL (cR (cL (cR (cR (cR (cR (cR (cR code20))))))))))))) (Lv.b (Lv.b (Lv.b (Lv.a (Lv.a (Lv.b (Lv.a (Lv.b (Lv.b (Lv.b (Lv.b (Lv.b (Lv.b (A 20)))))))))))))) (K20_prrrrrrlrl cal k m1) (K20_pxrrrrrrlr cal k) (doneK P results20)))
noncomputable def K20_pxrrrrrrlrllrrl (cal : Cal) (k : Nat) (m1 : Nat) : XC (Value × Hp × Nat) := (upX 1 (K20_prrrrrrlrllrr cal k m1) (K20_pxrrrrrrlr cal k))
noncomputable def K20_prrrrrrlrllrrll (cal : Cal) (k : Nat) (m1 : Nat) : KC (Value × Hp × Nat) := (cutK (Lv.a (Lv.a (Lv.b (Lv.b (Lv.a (Lv.a (Lv.b (Lv.a (Lv.b (Lv.b (Lv.b (Lv.b (Lv.b (Lv.b (A 20))))))))))))))).c (codeE P cal (codeF P cal m1) none 20 (cR (cL (cL (cR (cR (cL (cL (cR (cL (cR (cR (cR (cR (cR (cR code20))))))))))))))) (Lv.b (Lv.a (Lv.a (Lv.b (Lv.b (Lv.a (Lv.a (Lv.b (Lv.a (Lv.b (Lv.b (Lv.b (Lv.b (Lv.b (Lv.b (A 20)))))))))))))))) (K20_prrrrrrlrllrr cal k m1) (K20_pxrrrrrrlrllrrl cal k m1) (doneK P results20)))
noncomputable def K20_prrrrrrr (cal : Cal) (k : Nat) : KC (Value × Hp × Nat) := (cutK (Lv.b (Lv.b (Lv.b (Lv.b (Lv.b (Lv.b (Lv.b (A 20)))))))).c (codeE P cal (codeF P cal k) none 20 (cR (cR (cR (cR (cR (cR (cR (cR code20)))))))) (Lv.b (Lv.b (Lv.b (Lv.b (Lv.b (Lv.b (Lv.b (Lv.b (A 20))))))))) (doneK P results20) X0 (doneK P results20)))
noncomputable def E20_1 (cal : Cal) (k m1 : Nat) : KC (Value × Hp × Nat) := codeE P cal (codeF P cal m1) none 20 (cL (cL (cR (cL (cR (cR (cR (cR (cR (cR code20)))))))))) (Lv.a (Lv.a (Lv.b (Lv.a (Lv.b (Lv.b (Lv.b (Lv.b (Lv.b (Lv.b (A 20))))))))))) (K20_prrrrrrlrl cal k m1) (K20_pxrrrrrrlr cal k) (doneK P results20)
noncomputable def R20_1 (cal : Cal) (k m1 : Nat) : Value → Value → Value → Value → Value → Hp → Nat → Res := fun u7 u9 u34 u35 u36 H n => codeF P cal m1 (Lv.a (Lv.b (Lv.a (Lv.b (Lv.b (Lv.b (Lv.b (Lv.b (Lv.b (A 20)))))))))) none 20 (cL (cR (cL (cR (cR (cR (cR (cR (cR code20))))))))) (K20_prrrrrr cal k) (K20_pxrrrrrrlr cal k) (doneK P results20) (Tr.set (Tr.set (Tr.set (Tr.set (Tr.set Tr.nil 36 (some u36)) 35 (some u35)) 34 (some u34)) 9 (some u9)) 7 (some u7)) H n []
noncomputable def B20_1 (cal : Cal) (k m1 : Nat) (b1 : Value → Value → Value → Value → Value → Hp → Nat → Res) (u7 u9 u34 u35 u36 : Value) (H : Hp) (n : Nat) : Res :=
binK P Go.BinOp.lss 3 (Go.Operand.tmp 36) (Go.Operand.tmp 35) u36 u35 fun v37_52 =>
ifK v37_52 (
bindO (indexAddrV P 22 u34 u36) fun v39_54 =>
bindO (addrV v39_54) fun a_56 => bindO (loadV P H 31 a_56) fun v40_55 =>
callFK P cal 29 [v40_55] H n fun v44_62 H_63 n_64 =>
bindO (indexAddrV P 54 u9 u36) fun v45_65 =>
bindO (storeP P 50 v45_65 v44_62 H_63) fun H_67 =>
binK P Go.BinOp.add 3 (Go.Operand.tmp 36) (Go.Operand.const (Go.Value.int Go.IntKind.i64 1)) u36 (Go.Value.int Go.IntKind.i64 1) fun v46_68 =>
b1 u7 u9 u34 u35 v46_68 H_67 n_64) (
some ((Value.tuple ⟨[u7, u9, (Go.Value.int Go.IntKind.i64 0)]⟩), H, n))
noncomputable def C20_1 (cal : Cal) (k m1 : Nat) (b1 : Value → Value → Value → Value → Value → Hp → Nat → Res) (u7 u9 u34 u35 u36 : Value) (H : Hp) (n : Nat) : Res := B20_1 cal k m1 b1 u7 u9 u34 u35 u36 H n
noncomputable def S20_1 (cal : Cal) (k : Nat) : Nat → Value → Value → Value → Value → Value → Hp → Nat → Res := fun m => Nat.rec (motive := fun _ => Value → Value → Value → Value → Value → Hp → Nat → Res) (C20_1 cal k 0 (fun _ _ _ _ _ _ _ => none)) (fun m ih => C20_1 cal k (m + 1) ih) m
theorem h20_1 (cal : Cal) (k m1 : Nat) (u7 u9 u34 u35 u36 : Value) (H : Hp) (n : Nat) : labK (E20_1 cal k m1) (Tr.set (Tr.set (Tr.set (Tr.set (Tr.set Tr.nil 36 (some u36)) 35 (some u35)) 34 (some u34)) 9 (some u9)) 7 (some u7)) H n [] = C20_1 cal k m1 (R20_1 cal k m1) u7 u9 u34 u35 u36 H n := by
  have h : labK (E20_1 cal k m1) (Tr.set (Tr.set (Tr.set (Tr.set (Tr.set Tr.nil 36 (some u36)) 35 (some u35)) 34 (some u34)) 9 (some u9)) 7 (some u7)) H n [] = B20_1 cal k m1 (R20_1 cal k m1) u7 u9 u34 u35 u36 H n := by kernel_rfl
  rw [h, C20_1]
theorem q20_1 (cal : Cal) (k : Nat) : ∀ (m : Nat) (u7 u9 u34 u35 u36 : Value) (H : Hp) (n : Nat), labK (E20_1 cal k m) (Tr.set (Tr.set (Tr.set (Tr.set (Tr.set Tr.nil 36 (some u36)) 35 (some u35)) 34 (some u34)) 9 (some u9)) 7 (some u7)) H n [] = S20_1 cal k m u7 u9 u34 u35 u36 H n
  | 0, u7, u9, u34, u35, u36, H, n => by
    rw [h20_1]
    have e : R20_1 cal k 0 = fun _ _ _ _ _ _ _ => none := by funext u7 u9 u34 u35 u36 H n; kernel_rfl
    rw [e]; rfl
  | m + 1, u7, u9, u34, u35, u36, H, n => by
    rw [h20_1]
    have e : R20_1 cal k (m + 1) = S20_1 cal k m := by
      funext u7 u9 u34 u35 u36 H n
      have e : R20_1 cal k (m + 1) u7 u9 u34 u35 u36 H n = labK (E20_1 cal k m) (Tr.set (Tr.set (Tr.set (Tr.set (Tr.set Tr.nil 36 (some u36)) 35 (some u35)) 34 (some u34)) 9 (some u9)) 7 (some u7)) H n [] := by kernel_rfl
      rw [e]; exact q20_1 ..
    rw [e]; rfl
noncomputable def B20_0 (cal : Cal) (k : Nat) (j1 : Value → Value → Value → Value → Value → Hp → Nat → Res) (v0 v1 : Value) (H : Hp) (n : Nat) : Res :=
boxK 33 v0 H n fun v2_1 H_2 n_3 =>
bindO (addrV v2_1) fun a_8 => bindO (loadV P H_2 33 a_8) fun v13_7 =>
callFK P cal 15 [v13_7] H_2 n_3 fun v14_9 H_10 n_11 =>
bindO (tupV v14_9 0) fun v15_13 =>
bindO (tupV v14_9 1) fun v16_14 =>
binK P Go.BinOp.neq 23 (Go.Operand.tmp 17) (Go.Operand.const (Go.Value.int Go.IntKind.i64 0)) v16_14 (Go.Value.int Go.IntKind.i64 0) fun v18_18 =>
ifK v18_18 (
some ((Value.tuple ⟨[(Go.Value.pointer none), (Go.Value.slice none 0 0), v16_14]⟩), H_10, n_11)) (
bindO (lenV P 22 v1) fun v21_24 =>
binK P Go.BinOp.gtr 3 (Go.Operand.tmp 21) (Go.Operand.const (Go.Value.int Go.IntKind.i64 300)) v21_24 (Go.Value.int Go.IntKind.i64 300) fun v22_25 =>
ifK v22_25 (
some ((Value.tuple ⟨[(Go.Value.pointer none), (Go.Value.slice none 0 0), (Go.Value.int Go.IntKind.i64 3)]⟩), H_10, n_11)) (
bindO (nilV v15_13) fun v25_31 =>
bindO (fieldAddrV P 53 v25_31 0) fun v26_32 =>
bindO (addrV v26_32) fun a_34 => bindO (loadV P H_10 33 a_34) fun v27_33 =>
callFK P cal 37 [v1, (Value.func (Go.Fn.func 38) ⟨[v27_33]⟩ ⟨[]⟩)] H_10 n_11 fun v29_36 H_37 n_38 =>
bindO (pureSem P v29_36 (Op.unary Go.UnOp.not v29_36)) fun v30_39 =>
ifK v30_39 (
some ((Value.tuple ⟨[(Go.Value.pointer none), (Go.Value.slice none 0 0), (Go.Value.int Go.IntKind.i64 2)]⟩), H_37, n_38)) (
bindO (lenV P 22 v1) fun v32_44 =>
stK (makeSliceP P 54 v32_44 v32_44 (bare H_37 n_38)) fun v33_45 H_46 n_47 =>
bindO (lenV P 22 v1) fun v35_50 =>
j1 v15_13 v33_45 v1 v35_50 (Go.Value.int Go.IntKind.i64 0) H_46 n_47)))
noncomputable def C20_0 (cal : Cal) (k : Nat) (v0 v1 : Value) (H : Hp) (n : Nat) : Res := B20_0 cal k (S20_1 cal k k) v0 v1 H n
theorem h20_0 (cal : Cal) (k : Nat) (v0 v1 : Value) (H : Hp) (n : Nat) : bodyE P cal A (k + 1) 20 [v0, v1] H n = C20_0 cal k v0 v1 H n := by
  have h : bodyE P cal A (k + 1) 20 [v0, v1] H n = B20_0 cal k (fun u7 u9 u34 u35 u36 H n => labK (E20_1 cal k k) (Tr.set (Tr.set (Tr.set (Tr.set (Tr.set Tr.nil 36 (some u36)) 35 (some u35)) 34 (some u34)) 9 (some u9)) 7 (some u7)) H n []) v0 v1 H n := by
    rw [body_eq (fn := Go.Proofs.Try.f20) (c := code20) (rs := results20) (by kernel_rfl) (by kernel_rfl) (by kernel_rfl) (by kernel_rfl)]
    kernel_rfl
  rw [h, C20_0]
  have e1 : (fun u7 u9 u34 u35 u36 H n => labK (E20_1 cal k k) (Tr.set (Tr.set (Tr.set (Tr.set (Tr.set Tr.nil 36 (some u36)) 35 (some u35)) 34 (some u34)) 9 (some u9)) 7 (some u7)) H n []) = (S20_1 cal k k) := by funext u7 u9 u34 u35 u36 H n; exact q20_1 ..
  rw [e1]
noncomputable def code21 : Code := codeOf 21
noncomputable def results21 : List ResultVar := resOf 21
noncomputable def K21_p (cal : Cal) (k : Nat) : KC (Value × Hp × Nat) := (cutK (A 21).c (codeE P cal (codeF P cal k) none 21 (cR code21) (Lv.b (A 21)) (doneK P results21) X0 (doneK P results21)))
noncomputable def K21_pr (cal : Cal) (k : Nat) : KC (Value × Hp × Nat) := (cutK (Lv.b (A 21)).c (codeE P cal (codeF P cal k) none 21 (cR (cR code21)) (Lv.b (Lv.b (A 21))) (doneK P results21) X0 (doneK P results21)))
noncomputable def B21_0 (cal : Cal) (k : Nat) (v0 v1 : Value) (H : Hp) (n : Nat) : Res :=
callFK P cal 26 [v0, v1] H n fun v7_4 H_5 n_6 =>
bindO (lenV P 54 v1) fun v9_8 =>
bindO (indexAddrV P 54 v7_4 v9_8) fun v10_9 =>
bindO (addrV v10_9) fun a_11 => bindO (loadV P H_5 50 a_11) fun v11_10 =>
binK P Go.BinOp.eql 50 (Go.Operand.tmp 11) (Go.Operand.const (Go.Value.int Go.IntKind.u64 0)) v11_10 (Go.Value.int Go.IntKind.u64 0) fun v12_12 =>
some (v12_12, H_5, n_6)
noncomputable def C21_0 (cal : Cal) (k : Nat) (v0 v1 : Value) (H : Hp) (n : Nat) : Res := B21_0 cal k v0 v1 H n
theorem h21_0 (cal : Cal) (k : Nat) (v0 v1 : Value) (H : Hp) (n : Nat) : bodyE P cal A (k + 1) 21 [v0, v1] H n = C21_0 cal k v0 v1 H n := by
  have h : bodyE P cal A (k + 1) 21 [v0, v1] H n = B21_0 cal k v0 v1 H n := by
    rw [body_eq (fn := Go.Proofs.Try.f21) (c := code21) (rs := results21) (by kernel_rfl) (by kernel_rfl) (by kernel_rfl) (by kernel_rfl)]
    kernel_rfl
  rw [h, C21_0]
noncomputable def code22 : Code := codeOf 22
noncomputable def results22 : List ResultVar := resOf 22
noncomputable def K22_p (cal : Cal) (k : Nat) : KC (Value × Hp × Nat) := (cutK (A 22).c (codeE P cal (codeF P cal k) none 22 (cR code22) (Lv.b (A 22)) (doneK P results22) X0 (doneK P results22)))
noncomputable def K22_pr (cal : Cal) (k : Nat) : KC (Value × Hp × Nat) := (cutK (Lv.b (A 22)).c (codeE P cal (codeF P cal k) none 22 (cR (cR code22)) (Lv.b (Lv.b (A 22))) (doneK P results22) X0 (doneK P results22)))
noncomputable def K22_prr (cal : Cal) (k : Nat) : KC (Value × Hp × Nat) := (cutK (Lv.b (Lv.b (A 22))).c (codeE P cal (codeF P cal k) none 22 (cR (cR (cR code22))) (Lv.b (Lv.b (Lv.b (A 22)))) (doneK P results22) X0 (doneK P results22)))
noncomputable def K22_prrl (cal : Cal) (k : Nat) : KC (Value × Hp × Nat) := (cutK (Lv.a (Lv.b (Lv.b (A 22)))).c (codeE P cal (codeF P cal k) none 22 (cR (cL (cR (cR code22)))) (Lv.b (Lv.a (Lv.b (Lv.b (A 22))))) (K22_prr cal k) X0 (doneK P results22)))
noncomputable def K22_pxrrlr (cal : Cal) (k : Nat) : XC (Value × Hp × Nat) := (upX 0 (K22_prr cal k) X0)
noncomputable def K22_prrlrl (cal : Cal) (k : Nat) (m1 : Nat) : KC (Value × Hp × Nat) := (fun T H n D => codeF P cal m1 (Lv.a (Lv.b (Lv.a (Lv.b (Lv.b (A 22)))))) none 22 (cL (cR (cL (cR (cR code22))))) (K22_prr cal k) (K22_pxrrlr cal k) (doneK P results22) (cutT (Lv.a (Lv.b (Lv.a (Lv.b (Lv.b (A 22)))))).c T) H n D)
noncomputable def K22_prrlrll (cal : Cal) (k : Nat) (m1 : Nat) : KC (Value × Hp × Nat) := (cutK (Lv.a (Lv.a (Lv.b (Lv.a (Lv.b (Lv.b (A 22))))))).c (codeE P cal (codeF P cal m1) none 22 (cR (cL (cL (cR (cL (cR (cR code22))))))) (Lv.b (Lv.a (Lv.a (Lv.b (Lv.a (Lv.b (Lv.b (A 22)))))))) (K22_prrlrl cal k m1) (K22_pxrrlr cal k) (doneK P results22)))
noncomputable def K22_prrlrllr (cal : Cal) (k : Nat) (m1 : Nat) : KC (Value × Hp × Nat) := (cutK (Lv.b (Lv.a (Lv.a (Lv.b (Lv.a (Lv.b (Lv.b (A 22)))))))).c (codeE P cal (codeF P cal m1) none 22 (cR (cR (cL (cL (cR (cL (cR (cR code22)))))))) (Lv.b (Lv.b (Lv.a (Lv.a (Lv.b (Lv.a (Lv.b (Lv.b (A 22))))))))) (K22_prrlrl cal k m1) (K22_pxrrlr cal k) (doneK P results22)))
noncomputable def K22_prrlrllrr (cal : Cal) (k : Nat) (m1 : Nat) : KC (Value × Hp × Nat) := (cutK (Lv.b (Lv.b (Lv.a (Lv.a (Lv.b (Lv.a (Lv.b (Lv.b (A 22))))))))).c (codeE P cal (codeF P cal m1) none 22 (cR (cR (cR (cL (cL (cR (cL (cR (cR code22))))))))) (Lv.b (Lv.b (Lv.b (Lv.a (Lv.a (Lv.b (Lv.a (Lv.b (Lv.b (A 22)))))))))) (K22_prrlrl cal k m1) (K22_pxrrlr cal k) (doneK P results22)))
noncomputable def K22_pxrrlrllrrl (cal : Cal) (k : Nat) (m1 : Nat) : XC (Value × Hp × Nat) := (upX 1 (K22_prrlrllrr cal k m1) (K22_pxrrlr cal k))
noncomputable def K22_prrlrllrrll (cal : Cal) (k : Nat) (m1 : Nat) : KC (Value × Hp × Nat) := (cutK (Lv.a (Lv.a (Lv.b (Lv.b (Lv.a (Lv.a (Lv.b (Lv.a (Lv.b (Lv.b (A 22))))))))))).c (codeE P cal (codeF P cal m1) none 22 (cR (cL (cL (cR (cR (cL (cL (cR (cL (cR (cR code22))))))))))) (Lv.b (Lv.a (Lv.a (Lv.b (Lv.b (Lv.a (Lv.a (Lv.b (Lv.a (Lv.b (Lv.b (A 22)))))))))))) (K22_prrlrllrr cal k m1) (K22_pxrrlrllrrl cal k m1) (doneK P results22)))
noncomputable def K22_prrr (cal : Cal) (k : Nat) : KC (Value × Hp × Nat) := (cutK (Lv.b (Lv.b (Lv.b (A 22)))).c (codeE P cal (codeF P cal k) none 22 (cR (cR (cR (cR code22)))) (Lv.b (Lv.b (Lv.b (Lv.b (A 22))))) (doneK P results22) X0 (doneK P results22)))
noncomputable def E22_1 (cal : Cal) (k m1 : Nat) : KC (Value × Hp × Nat) := codeE P cal (codeF P cal m1) none 22 (cL (cL (cR (cL (cR (cR code22)))))) (Lv.a (Lv.a (Lv.b (Lv.a (Lv.b (Lv.b (A 22))))))) (K22_prrlrl cal k m1) (K22_pxrrlr cal k) (doneK P results22)
noncomputable def R22_1 (cal : Cal) (k m1 : Nat) : Value → Value → Value → Value → Hp → Nat → Res := fun u3 u6 u7 u8 H n => codeF P cal m1 (Lv.a (Lv.b (Lv.a (Lv.b (Lv.b (A 22)))))) none 22 (cL (cR (cL (cR (cR code22))))) (K22_prr cal k) (K22_pxrrlr cal k) (doneK P results22) (Tr.set (Tr.set (Tr.set (Tr.set Tr.nil 8 (some u8)) 7 (some u7)) 6 (some u6)) 3 (some u3)) H n []
noncomputable def B22_1 (cal : Cal) (k m1 : Nat) (b1 : Value → Value → Value → Value → Hp → Nat → Res) (u3 u6 u7 u8 : Value) (H : Hp) (n : Nat) : Res :=
binK P Go.BinOp.lss 3 (Go.Operand.tmp 8) (Go.Operand.tmp 7) u8 u7 fun v9_6 =>
ifK v9_6 (
bindO (indexAddrV P 54 u6 u8) fun v10_7 =>
bindO (addrV v10_7) fun a_9 => bindO (loadV P H 50 a_9) fun v11_8 =>
callFK P cal 39 [v11_8] H n fun v14_13 H_14 n_15 =>
rowK P 31 1 [(0, v14_13)] H_14 n_15 fun v15_16 H_17 n_18 =>
stK (appendV P (bare H_17 n_18) 31 31 u3 v15_16) fun v16_19 H_20 n_21 =>
binK P Go.BinOp.add 3 (Go.Operand.tmp 8) (Go.Operand.const (Go.Value.int Go.IntKind.i64 1)) u8 (Go.Value.int Go.IntKind.i64 1) fun v17_23 =>
b1 v16_19 u6 u7 v17_23 H_20 n_21) (
callFK P cal 40 [(Go.Value.int Go.IntKind.i64 0), u3] H n fun v19_26 H_27 n_28 =>
some (v19_26, H_27, n_28))
noncomputable def C22_1 (cal : Cal) (k m1 : Nat) (b1 : Value → Value → Value → Value → Hp → Nat → Res) (u3 u6 u7 u8 : Value) (H : Hp) (n : Nat) : Res := B22_1 cal k m1 b1 u3 u6 u7 u8 H n
noncomputable def S22_1 (cal : Cal) (k : Nat) : Nat → Value → Value → Value → Value → Hp → Nat → Res := fun m => Nat.rec (motive := fun _ => Value → Value → Value → Value → Hp → Nat → Res) (C22_1 cal k 0 (fun _ _ _ _ _ _ => none)) (fun m ih => C22_1 cal k (m + 1) ih) m
theorem h22_1 (cal : Cal) (k m1 : Nat) (u3 u6 u7 u8 : Value) (H : Hp) (n : Nat) : labK (E22_1 cal k m1) (Tr.set (Tr.set (Tr.set (Tr.set Tr.nil 8 (some u8)) 7 (some u7)) 6 (some u6)) 3 (some u3)) H n [] = C22_1 cal k m1 (R22_1 cal k m1) u3 u6 u7 u8 H n := by
  have h : labK (E22_1 cal k m1) (Tr.set (Tr.set (Tr.set (Tr.set Tr.nil 8 (some u8)) 7 (some u7)) 6 (some u6)) 3 (some u3)) H n [] = B22_1 cal k m1 (R22_1 cal k m1) u3 u6 u7 u8 H n := by kernel_rfl
  rw [h, C22_1]
theorem q22_1 (cal : Cal) (k : Nat) : ∀ (m : Nat) (u3 u6 u7 u8 : Value) (H : Hp) (n : Nat), labK (E22_1 cal k m) (Tr.set (Tr.set (Tr.set (Tr.set Tr.nil 8 (some u8)) 7 (some u7)) 6 (some u6)) 3 (some u3)) H n [] = S22_1 cal k m u3 u6 u7 u8 H n
  | 0, u3, u6, u7, u8, H, n => by
    rw [h22_1]
    have e : R22_1 cal k 0 = fun _ _ _ _ _ _ => none := by funext u3 u6 u7 u8 H n; kernel_rfl
    rw [e]; rfl
  | m + 1, u3, u6, u7, u8, H, n => by
    rw [h22_1]
    have e : R22_1 cal k (m + 1) = S22_1 cal k m := by
      funext u3 u6 u7 u8 H n
      have e : R22_1 cal k (m + 1) u3 u6 u7 u8 H n = labK (E22_1 cal k m) (Tr.set (Tr.set (Tr.set (Tr.set Tr.nil 8 (some u8)) 7 (some u7)) 6 (some u6)) 3 (some u3)) H n [] := by kernel_rfl
      rw [e]; exact q22_1 ..
    rw [e]; rfl
noncomputable def B22_0 (cal : Cal) (k : Nat) (j1 : Value → Value → Value → Value → Hp → Nat → Res) (v0 : Value) (H : Hp) (n : Nat) : Res :=
bindO (lenV P 54 v0) fun v7_4 =>
j1 (Go.Value.slice none 0 0) v0 v7_4 (Go.Value.int Go.IntKind.i64 0) H n
noncomputable def C22_0 (cal : Cal) (k : Nat) (v0 : Value) (H : Hp) (n : Nat) : Res := B22_0 cal k (S22_1 cal k k) v0 H n
theorem h22_0 (cal : Cal) (k : Nat) (v0 : Value) (H : Hp) (n : Nat) : bodyE P cal A (k + 1) 22 [v0] H n = C22_0 cal k v0 H n := by
  have h : bodyE P cal A (k + 1) 22 [v0] H n = B22_0 cal k (fun u3 u6 u7 u8 H n => labK (E22_1 cal k k) (Tr.set (Tr.set (Tr.set (Tr.set Tr.nil 8 (some u8)) 7 (some u7)) 6 (some u6)) 3 (some u3)) H n []) v0 H n := by
    rw [body_eq (fn := Go.Proofs.Try.f22) (c := code22) (rs := results22) (by kernel_rfl) (by kernel_rfl) (by kernel_rfl) (by kernel_rfl)]
    kernel_rfl
  rw [h, C22_0]
  have e1 : (fun u3 u6 u7 u8 H n => labK (E22_1 cal k k) (Tr.set (Tr.set (Tr.set (Tr.set Tr.nil 8 (some u8)) 7 (some u7)) 6 (some u6)) 3 (some u3)) H n []) = (S22_1 cal k k) := by funext u3 u6 u7 u8 H n; exact q22_1 ..
  rw [e1]
noncomputable def code23 : Code := codeOf 23
noncomputable def results23 : List ResultVar := resOf 23
noncomputable def K23_p (cal : Cal) (k : Nat) : KC (Value × Hp × Nat) := (cutK (A 23).c (codeE P cal (codeF P cal k) none 23 (cR code23) (Lv.b (A 23)) (doneK P results23) X0 (doneK P results23)))
noncomputable def K23_pr (cal : Cal) (k : Nat) : KC (Value × Hp × Nat) := (cutK (Lv.b (A 23)).c (codeE P cal (codeF P cal k) none 23 (cR (cR code23)) (Lv.b (Lv.b (A 23))) (doneK P results23) X0 (doneK P results23)))
noncomputable def K23_prl (cal : Cal) (k : Nat) : KC (Value × Hp × Nat) := (cutK (Lv.a (Lv.b (A 23))).c (codeE P cal (codeF P cal k) none 23 (cR (cL (cR code23))) (Lv.b (Lv.a (Lv.b (A 23)))) (K23_pr cal k) X0 (doneK P results23)))
noncomputable def K23_prlrl (cal : Cal) (k : Nat) : KC (Value × Hp × Nat) := (cutK (Lv.a (Lv.b (Lv.a (Lv.b (A 23))))).c (codeE P cal (codeF P cal k) none 23 (cR (cL (cR (cL (cR code23))))) (Lv.b (Lv.a (Lv.b (Lv.a (Lv.b (A 23)))))) (K23_pr cal k) X0 (doneK P results23)))
noncomputable def K23_prr (cal : Cal) (k : Nat) : KC (Value × Hp × Nat) := (cutK (Lv.b (Lv.b (A 23))).c (codeE P cal (codeF P cal k) none 23 (cR (cR (cR code23))) (Lv.b (Lv.b (Lv.b (A 23)))) (doneK P results23) X0 (doneK P results23)))
noncomputable def K23_prrr (cal : Cal) (k : Nat) : KC (Value × Hp × Nat) := (cutK (Lv.b (Lv.b (Lv.b (A 23)))).c (codeE P cal (codeF P cal k) none 23 (cR (cR (cR (cR code23)))) (Lv.b (Lv.b (Lv.b (Lv.b (A 23))))) (doneK P results23) X0 (doneK P results23)))
noncomputable def K23_prrrl (cal : Cal) (k : Nat) : KC (Value × Hp × Nat) := (cutK (Lv.a (Lv.b (Lv.b (Lv.b (A 23))))).c (codeE P cal (codeF P cal k) none 23 (cR (cL (cR (cR (cR code23))))) (Lv.b (Lv.a (Lv.b (Lv.b (Lv.b (A 23)))))) (K23_prrr cal k) X0 (doneK P results23)))
noncomputable def K23_pxrrrlr (cal : Cal) (k : Nat) : XC (Value × Hp × Nat) := (upX 0 (K23_prrr cal k) X0)
noncomputable def K23_prrrlrl (cal : Cal) (k : Nat) (m1 : Nat) : KC (Value × Hp × Nat) := (fun T H n D => codeF P cal m1 (Lv.a (Lv.b (Lv.a (Lv.b (Lv.b (Lv.b (A 23))))))) none 23 (cL (cR (cL (cR (cR (cR code23)))))) (K23_prrr cal k) (K23_pxrrrlr cal k) (doneK P results23) (cutT (Lv.a (Lv.b (Lv.a (Lv.b (Lv.b (Lv.b (A 23))))))).c T) H n D)
noncomputable def K23_prrrlrll (cal : Cal) (k : Nat) (m1 : Nat) : KC (Value × Hp × Nat) := (cutK (Lv.a (Lv.a (Lv.b (Lv.a (Lv.b (Lv.b (Lv.b (A 23)))))))).c (codeE P cal (codeF P cal m1) none 23 (cR (cL (cL (cR (cL (cR (cR (cR code23)))))))) (Lv.b (Lv.a (Lv.a (Lv.b (Lv.a (Lv.b (Lv.b (Lv.b (A 23))))))))) (K23_prrrlrl cal k m1) (K23_pxrrrlr cal k) (doneK P results23)))
noncomputable def K23_prrrlrllr (cal : Cal) (k : Nat) (m1 : Nat) : KC (Value × Hp × Nat) := (cutK (Lv.b (Lv.a (Lv.a (Lv.b (Lv.a (Lv.b (Lv.b (Lv.b (A 23))))))))).c (codeE P cal (codeF P cal m1) none 23 (cR (cR (cL (cL (cR (cL (cR (cR (cR code23))))))))) (Lv.b (Lv.b (Lv.a (Lv.a (Lv.b (Lv.a (Lv.b (Lv.b (Lv.b (A 23)))))))))) (K23_prrrlrl cal k m1) (K23_pxrrrlr cal k) (doneK P results23)))
noncomputable def K23_prrrlrllrr (cal : Cal) (k : Nat) (m1 : Nat) : KC (Value × Hp × Nat) := (cutK (Lv.b (Lv.b (Lv.a (Lv.a (Lv.b (Lv.a (Lv.b (Lv.b (Lv.b (A 23)))))))))).c (codeE P cal (codeF P cal m1) none 23 (cR (cR (cR (cL (cL (cR (cL (cR (cR (cR code23)))))))))) (Lv.b (Lv.b (Lv.b (Lv.a (Lv.a (Lv.b (Lv.a (Lv.b (Lv.b (Lv.b (A 23))))))))))) (K23_prrrlrl cal k m1) (K23_pxrrrlr cal k) (doneK P results23)))
noncomputable def K23_pxrrrlrllrrl (cal : Cal) (k : Nat) (m1 : Nat) : XC (Value × Hp × Nat) := (upX 1 (K23_prrrlrllrr cal k m1) (K23_pxrrrlr cal k))
noncomputable def K23_prrrlrllrrll (cal : Cal) (k : Nat) (m1 : Nat) : KC (Value × Hp × Nat) := (cutK (Lv.a (Lv.a (Lv.b (Lv.b (Lv.a (Lv.a (Lv.b (Lv.a (Lv.b (Lv.b (Lv.b (A 23)))))))))))).c (codeE P cal (codeF P cal m1) none 23 (cR (cL (cL (cR (cR (cL (cL (cR (cL (cR (cR (cR code23)))))))))))) (Lv.b (Lv.a (Lv.a (Lv.b (Lv.b (Lv.a (Lv.a (Lv.b (Lv.a (Lv.b (Lv.b (Lv.b (A 23))))))))))))) (K23_prrrlrllrr cal k m1) (K23_pxrrrlrllrrl cal k m1) (doneK P results23)))
noncomputable def K23_prrrlrllrrllr (cal : Cal) (k : Nat) (m1 : Nat) : KC (Value × Hp × Nat) := (cutK (Lv.b (Lv.a (Lv.a (Lv.b (Lv.b (Lv.a (Lv.a (Lv.b (Lv.a (Lv.b (Lv.b (Lv.b (A 23))))))))))))).c (codeE P cal (codeF P cal m1) none 23 (cR (cR (cL (cL (cR (cR (cL (cL (cR (cL (cR (cR (cR code23))))))))))))) (Lv.b (Lv.b (Lv.a (Lv.a (Lv.b (Lv.b (Lv.a (Lv.a (Lv.b (Lv.a (Lv.b (Lv.b (Lv.b (A 23)))))))))))))) (K23_prrrlrllrr cal k m1) (K23_pxrrrlrllrrl cal k m1) (doneK P results23)))
noncomputable def K23_prrrlrllrrllrl (cal : Cal) (k : Nat) (m1 : Nat) : KC (Value × Hp × Nat) := (cutK (Lv.a (Lv.b (Lv.a (Lv.a (Lv.b (Lv.b (Lv.a (Lv.a (Lv.b (Lv.a (Lv.b (Lv.b (Lv.b (A 23)))))))))))))).c (codeE P cal (codeF P cal m1) none 23 (cR (cL (cR (cL (cL (cR (cR (cL (cL (cR (cL (cR (cR (cR code23)))))))))))))) (Lv.b (Lv.a (Lv.b (Lv.a (Lv.a (Lv.b (Lv.b (Lv.a (Lv.a (Lv.b (Lv.a (Lv.b (Lv.b (Lv.b (A 23))))))))))))))) (K23_prrrlrllrrllr cal k m1) (K23_pxrrrlrllrrl cal k m1) (doneK P results23)))
noncomputable def K23_prrrlrllrrllrlrl (cal : Cal) (k : Nat) (m1 : Nat) : KC (Value × Hp × Nat) := (cutK (Lv.a (Lv.b (Lv.a (Lv.b (Lv.a (Lv.a (Lv.b (Lv.b (Lv.a (Lv.a (Lv.b (Lv.a (Lv.b (Lv.b (Lv.b (A 23)))))))))))))))).c (codeE P cal (codeF P cal m1) none 23 (cR (cL (cR (cL (cR (cL (cL (cR (cR (cL (cL (cR (cL (cR (cR (cR code23)))))))))))))))) (Lv.b (Lv.a (Lv.b (Lv.a (Lv.b (Lv.a (Lv.a (Lv.b (Lv.b (Lv.a (Lv.a (Lv.b (Lv.a (Lv.b (Lv.b (Lv.b (A 23))))))))))))))))) (K23_prrrlrllrrllr cal k m1) (K23_pxrrrlrllrrl cal k m1) (doneK P results23)))
noncomputable def K23_prrrlrllrrllrr (cal : Cal) (k : Nat) (m1 : Nat) : KC (Value × Hp × Nat) := (cutK (Lv.b (Lv.b (Lv.a (Lv.a (Lv.b (Lv.b (Lv.a (Lv.a (Lv.b (Lv.a (Lv.b (Lv.b (Lv.b (A 23)))))))))))))).c (codeE P cal (codeF P cal m1) none 23 (cR (cR (cR (cL (cL (cR (cR (cL (cL (cR (cL (cR (cR (cR code23)))))))))))))) (Lv.b (Lv.b (Lv.b (Lv.a (Lv.a (Lv.b (Lv.b (Lv.a (Lv.a (Lv.b (Lv.a (Lv.b (Lv.b (Lv.b (A 23))))))))))))))) (K23_prrrlrllrr cal k m1) (K23_pxrrrlrllrrl cal k m1) (doneK P results23)))
noncomputable def K23_prrrr (cal : Cal) (k : Nat) : KC (Value × Hp × Nat) := (cutK (Lv.b (Lv.b (Lv.b (Lv.b (A 23))))).c (codeE P cal (codeF P cal k) none 23 (cR (cR (cR (cR (cR code23))))) (Lv.b (Lv.b (Lv.b (Lv.b (Lv.b (A 23)))))) (doneK P results23) X0 (doneK P results23)))
noncomputable def E23_1 (cal : Cal) (k m1 : Nat) : KC (Value × Hp × Nat) := codeE P cal (codeF P cal m1) none 23 (cL (cL (cR (cL (cR (cR (cR code23))))))) (Lv.a (Lv.a (Lv.b (Lv.a (Lv.b (Lv.b (Lv.b (A 23)))))))) (K23_prrrlrl cal k m1) (K23_pxrrrlr cal k) (doneK P results23)
noncomputable def R23_1 (cal : Cal) (k m1 : Nat) : Value → Value → Value → Value → Value → Value → Value → Value → Hp → Nat → Res := fun u0 u1 u2 u7 u8 u23 u24 u25 H n => codeF P cal m1 (Lv.a (Lv.b (Lv.a (Lv.b (Lv.b (Lv.b (A 23))))))) none 23 (cL (cR (cL (cR (cR (cR code23)))))) (K23_prrr cal k) (K23_pxrrrlr cal k) (doneK P results23) (Tr.set (Tr.set (Tr.set (Tr.set (Tr.set (Tr.set (Tr.set (Tr.set Tr.nil 25 (some u25)) 24 (some u24)) 23 (some u23)) 8 (some u8)) 7 (some u7)) 2 (some u2)) 1 (some u1)) 0 (some u0)) H n []
noncomputable def B23_1 (cal : Cal) (k m1 : Nat) (b1 : Value → Value → Value → Value → Value → Value → Value → Value → Hp → Nat → Res) (u0 u1 u2 u7 u8 u23 u24 u25 : Value) (H : Hp) (n : Nat) : Res :=
binK P Go.BinOp.lss 3 (Go.Operand.tmp 25) (Go.Operand.tmp 24) u25 u24 fun v26_22 =>
ifK v26_22 (
bindO (indexAddrV P 31 u23 u25) fun v28_24 =>
bindO (addrV v28_24) fun a_26 => bindO (loadV P H 3 a_26) fun v29_25 =>
bindO (nilV u0) fun v31_30 =>
bindO (fieldAddrV P 53 v31_30 0) fun v32_31 =>
bindO (addrV v32_31) fun a_33 => bindO (loadV P H 33 a_33) fun v33_32 =>
callFK P cal 41 [v33_32, v29_25] H n fun v35_35 H_36 n_37 =>
bindO (pureSem P v35_35 (Op.unary Go.UnOp.not v35_35)) fun v36_38 =>
guardK v36_38 false (fun k_40 =>
k_40 u7 H_36 n_37) H_36 n_37 fun v_41 H_42 n_43 =>
guardK v36_38 false (fun k_45 =>
k_45 v29_25 H_42 n_43) H_42 n_43 fun v_46 H_47 n_48 =>
guardK v36_38 false (fun k_50 =>
callFK P cal 42 [v_41, v_46] H_47 n_48 fun v40_54 H_55 n_56 =>
k_50 v40_54 H_55 n_56) H_47 n_48 fun v_51 H_52 n_53 =>
guardK v36_38 false (fun k_57 =>
bindO (pureSem P v_51 (Op.unary Go.UnOp.not v_51)) fun v41_61 =>
k_57 v41_61 H_52 n_53) H_52 n_53 fun v_58 H_59 n_60 =>
bindO (pickV v36_38 (Go.Value.bool true) v_58) fun v42_62 =>
ifK v42_62 (
some ((Go.Value.bool false), H_59, n_60)) (
rowK P 31 1 [(0, v29_25)] H_59 n_60 fun v45_66 H_67 n_68 =>
callFK P cal 29 [v45_66] H_67 n_68 fun v46_69 H_70 n_71 =>
callFK P cal 34 [u0, v46_69] H_70 n_71 fun v47_72 H_73 n_74 =>
bindO (indexAddrV P 54 u1 u25) fun v51_79 =>
bindO (addrV v51_79) fun a_80 => bindO (loadV P H_73 50 a_80) fun v_81 =>
bindO (indexAddrV P 54 u1 u25) fun v57_85 =>
bindO (addrV v57_85) fun a_86 => bindO (loadV P H_73 50 a_86) fun v_87 =>
effK P [(.l 50 a_86)] H_73 n_74 (fun H_88 n_89 k_90 =>
callFK P cal 35 [v47_72, v_81] H_88 n_89 fun v53_94 H_95 n_96 =>
k_90 v53_94 H_95 n_96) fun v_91 H_92 n_93 =>
callFK P cal 43 [v47_72, v_87] H_92 n_93 fun v59_97 H_98 n_99 =>
binK P Go.BinOp.add 3 (Go.Operand.tmp 25) (Go.Operand.const (Go.Value.int Go.IntKind.i64 1)) u25 (Go.Value.int Go.IntKind.i64 1) fun v60_102 =>
b1 u0 u1 u2 v_91 v59_97 u23 u24 v60_102 H_98 n_99)) (
bindO (lenV P 31 u2) fun v62_105 =>
bindO (lenV P 54 u1) fun v64_107 =>
binK P Go.BinOp.eql 3 (Go.Operand.tmp 62) (Go.Operand.tmp 64) v62_105 v64_107 fun v65_108 =>
guardK v65_108 false (fun k_110 =>
k_110 u8 H n) H n fun v_111 H_112 n_113 =>
bindO (pickV v65_108 (Go.Value.bool true) v_111) fun v68_115 =>
some (v68_115, H_112, n_113))
noncomputable def C23_1 (cal : Cal) (k m1 : Nat) (b1 : Value → Value → Value → Value → Value → Value → Value → Value → Hp → Nat → Res) (u0 u1 u2 u7 u8 u23 u24 u25 : Value) (H : Hp) (n : Nat) : Res := B23_1 cal k m1 b1 u0 u1 u2 u7 u8 u23 u24 u25 H n
noncomputable def S23_1 (cal : Cal) (k : Nat) : Nat → Value → Value → Value → Value → Value → Value → Value → Value → Hp → Nat → Res := fun m => Nat.rec (motive := fun _ => Value → Value → Value → Value → Value → Value → Value → Value → Hp → Nat → Res) (C23_1 cal k 0 (fun _ _ _ _ _ _ _ _ _ _ => none)) (fun m ih => C23_1 cal k (m + 1) ih) m
theorem h23_1 (cal : Cal) (k m1 : Nat) (u0 u1 u2 u7 u8 u23 u24 u25 : Value) (H : Hp) (n : Nat) : labK (E23_1 cal k m1) (Tr.set (Tr.set (Tr.set (Tr.set (Tr.set (Tr.set (Tr.set (Tr.set Tr.nil 25 (some u25)) 24 (some u24)) 23 (some u23)) 8 (some u8)) 7 (some u7)) 2 (some u2)) 1 (some u1)) 0 (some u0)) H n [] = C23_1 cal k m1 (R23_1 cal k m1) u0 u1 u2 u7 u8 u23 u24 u25 H n := by
  have h : labK (E23_1 cal k m1) (Tr.set (Tr.set (Tr.set (Tr.set (Tr.set (Tr.set (Tr.set (Tr.set Tr.nil 25 (some u25)) 24 (some u24)) 23 (some u23)) 8 (some u8)) 7 (some u7)) 2 (some u2)) 1 (some u1)) 0 (some u0)) H n [] = B23_1 cal k m1 (R23_1 cal k m1) u0 u1 u2 u7 u8 u23 u24 u25 H n := by kernel_rfl
  rw [h, C23_1]
theorem q23_1 (cal : Cal) (k : Nat) : ∀ (m : Nat) (u0 u1 u2 u7 u8 u23 u24 u25 : Value) (H : Hp) (n : Nat), labK (E23_1 cal k m) (Tr.set (Tr.set (Tr.set (Tr.set (Tr.set (Tr.set (Tr.set (Tr.set Tr.nil 25 (some u25)) 24 (some u24)) 23 (some u23)) 8 (some u8)) 7 (some u7)) 2 (some u2)) 1 (some u1)) 0 (some u0)) H n [] = S23_1 cal k m u0 u1 u2 u7 u8 u23 u24 u25 H n
  | 0, u0, u1, u2, u7, u8, u23, u24, u25, H, n => by
    rw [h23_1]
    have e : R23_1 cal k 0 = fun _ _ _ _ _ _ _ _ _ _ => none := by funext u0 u1 u2 u7 u8 u23 u24 u25 H n; kernel_rfl
    rw [e]; rfl
  | m + 1, u0, u1, u2, u7, u8, u23, u24, u25, H, n => by
    rw [h23_1]
    have e : R23_1 cal k (m + 1) = S23_1 cal k m := by
      funext u0 u1 u2 u7 u8 u23 u24 u25 H n
      have e : R23_1 cal k (m + 1) u0 u1 u2 u7 u8 u23 u24 u25 H n = labK (E23_1 cal k m) (Tr.set (Tr.set (Tr.set (Tr.set (Tr.set (Tr.set (Tr.set (Tr.set Tr.nil 25 (some u25)) 24 (some u24)) 23 (some u23)) 8 (some u8)) 7 (some u7)) 2 (some u2)) 1 (some u1)) 0 (some u0)) H n [] := by kernel_rfl
      rw [e]; exact q23_1 ..
    rw [e]; rfl
noncomputable def B23_0 (cal : Cal) (k : Nat) (j1 : Value → Value → Value → Value → Value → Value → Value → Value → Hp → Nat → Res) (v0 v1 v2 : Value) (H : Hp) (n : Nat) : Res :=
bindO (lenV P 31 v2) fun v13_3 =>
bindO (lenV P 54 v1) fun v15_5 =>
binK P Go.BinOp.gtr 3 (Go.Operand.tmp 13) (Go.Operand.tmp 15) v13_3 v15_5 fun v16_6 =>
ifK v16_6 (
some ((Go.Value.bool false), H, n)) (
bindO (nilV v0) fun v18_9 =>
bindO (fieldAddrV P 53 v18_9 0) fun v19_10 =>
bindO (fieldAddrV P 33 v19_10 1) fun v20_11 =>
bindO (addrV v20_11) fun a_13 => bindO (loadV P H 31 a_13) fun v21_12 =>
callFK P cal 29 [v21_12] H n fun v22_14 H_15 n_16 =>
bindO (lenV P 31 v2) fun v24_20 =>
j1 v0 v1 v2 v22_14 (Go.Value.bool false) v2 v24_20 (Go.Value.int Go.IntKind.i64 0) H_15 n_16)
noncomputable def C23_0 (cal : Cal) (k : Nat) (v0 v1 v2 : Value) (H : Hp) (n : Nat) : Res := B23_0 cal k (S23_1 cal k k) v0 v1 v2 H n
theorem h23_0 (cal : Cal) (k : Nat) (v0 v1 v2 : Value) (H : Hp) (n : Nat) : bodyE P cal A (k + 1) 23 [v0, v1, v2] H n = C23_0 cal k v0 v1 v2 H n := by
  have h : bodyE P cal A (k + 1) 23 [v0, v1, v2] H n = B23_0 cal k (fun u0 u1 u2 u7 u8 u23 u24 u25 H n => labK (E23_1 cal k k) (Tr.set (Tr.set (Tr.set (Tr.set (Tr.set (Tr.set (Tr.set (Tr.set Tr.nil 25 (some u25)) 24 (some u24)) 23 (some u23)) 8 (some u8)) 7 (some u7)) 2 (some u2)) 1 (some u1)) 0 (some u0)) H n []) v0 v1 v2 H n := by
    rw [body_eq (fn := Go.Proofs.Try.f23) (c := code23) (rs := results23) (by kernel_rfl) (by kernel_rfl) (by kernel_rfl) (by kernel_rfl)]
    kernel_rfl
  rw [h, C23_0]
  have e1 : (fun u0 u1 u2 u7 u8 u23 u24 u25 H n => labK (E23_1 cal k k) (Tr.set (Tr.set (Tr.set (Tr.set (Tr.set (Tr.set (Tr.set (Tr.set Tr.nil 25 (some u25)) 24 (some u24)) 23 (some u23)) 8 (some u8)) 7 (some u7)) 2 (some u2)) 1 (some u1)) 0 (some u0)) H n []) = (S23_1 cal k k) := by funext u0 u1 u2 u7 u8 u23 u24 u25 H n; exact q23_1 ..
  rw [e1]
noncomputable def code24 : Code := codeOf 24
noncomputable def results24 : List ResultVar := resOf 24
noncomputable def K24_p (cal : Cal) (k : Nat) : KC (Value × Hp × Nat) := (cutK (A 24).c (codeE P cal (codeF P cal k) none 24 (cR code24) (Lv.b (A 24)) (doneK P results24) X0 (doneK P results24)))
noncomputable def K24_pr (cal : Cal) (k : Nat) : KC (Value × Hp × Nat) := (cutK (Lv.b (A 24)).c (codeE P cal (codeF P cal k) none 24 (cR (cR code24)) (Lv.b (Lv.b (A 24))) (doneK P results24) X0 (doneK P results24)))
noncomputable def K24_prr (cal : Cal) (k : Nat) : KC (Value × Hp × Nat) := (cutK (Lv.b (Lv.b (A 24))).c (codeE P cal (codeF P cal k) none 24 (cR (cR (cR code24))) (Lv.b (Lv.b (Lv.b (A 24)))) (doneK P results24) X0 (doneK P results24)))
noncomputable def K24_prrl (cal : Cal) (k : Nat) : KC (Value × Hp × Nat) := (cutK (Lv.a (Lv.b (Lv.b (A 24)))).c (codeE P cal (codeF P cal k) none 24 (cR (cL (cR (cR code24)))) (Lv.b (Lv.a (Lv.b (Lv.b (A 24))))) (K24_prr cal k) X0 (doneK P results24)))
noncomputable def K24_pxrrlr (cal : Cal) (k : Nat) : XC (Value × Hp × Nat) := (upX 0 (K24_prr cal k) X0)
noncomputable def K24_prrlrl (cal : Cal) (k : Nat) (m1 : Nat) : KC (Value × Hp × Nat) := (fun T H n D => codeF P cal m1 (Lv.a (Lv.b (Lv.a (Lv.b (Lv.b (A 24)))))) none 24 (cL (cR (cL (cR (cR code24))))) (K24_prr cal k) (K24_pxrrlr cal k) (doneK P results24) (cutT (Lv.a (Lv.b (Lv.a (Lv.b (Lv.b (A 24)))))).c T) H n D)
noncomputable def K24_prrlrll (cal : Cal) (k : Nat) (m1 : Nat) : KC (Value × Hp × Nat) := (cutK (Lv.a (Lv.a (Lv.b (Lv.a (Lv.b (Lv.b (A 24))))))).c (codeE P cal (codeF P cal m1) none 24 (cR (cL (cL (cR (cL (cR (cR code24))))))) (Lv.b (Lv.a (Lv.a (Lv.b (Lv.a (Lv.b (Lv.b (A 24)))))))) (K24_prrlrl cal k m1) (K24_pxrrlr cal k) (doneK P results24)))
noncomputable def K24_prrlrllr (cal : Cal) (k : Nat) (m1 : Nat) : KC (Value × Hp × Nat) := (cutK (Lv.b (Lv.a (Lv.a (Lv.b (Lv.a (Lv.b (Lv.b (A 24)))))))).c (codeE P cal (codeF P cal m1) none 24 (cR (cR (cL (cL (cR (cL (cR (cR code24)))))))) (Lv.b (Lv.b (Lv.a (Lv.a (Lv.b (Lv.a (Lv.b (Lv.b (A 24))))))))) (K24_prrlrl cal k m1) (K24_pxrrlr cal k) (doneK P results24)))
noncomputable def K24_prrlrllrr (cal : Cal) (k : Nat) (m1 : Nat) : KC (Value × Hp × Nat) := (cutK (Lv.b (Lv.b (Lv.a (Lv.a (Lv.b (Lv.a (Lv.b (Lv.b (A 24))))))))).c (codeE P cal (codeF P cal m1) none 24 (cR (cR (cR (cL (cL (cR (cL (cR (cR code24))))))))) (Lv.b (Lv.b (Lv.b (Lv.a (Lv.a (Lv.b (Lv.a (Lv.b (Lv.b (A 24)))))))))) (K24_prrlrl cal k m1) (K24_pxrrlr cal k) (doneK P results24)))
noncomputable def K24_pxrrlrllrrl (cal : Cal) (k : Nat) (m1 : Nat) : XC (Value × Hp × Nat) := (upX 1 (K24_prrlrllrr cal k m1) (K24_pxrrlr cal k))
noncomputable def K24_prrlrllrrll (cal : Cal) (k : Nat) (m1 : Nat) : KC (Value × Hp × Nat) := (cutK (Lv.a (Lv.a (Lv.b (Lv.b (Lv.a (Lv.a (Lv.b (Lv.a (Lv.b (Lv.b (A 24))))))))))).c (codeE P cal (codeF P cal m1) none 24 (cR (cL (cL (cR (cR (cL (cL (cR (cL (cR (cR code24))))))))))) (Lv.b (Lv.a (Lv.a (Lv.b (Lv.b (Lv.a (Lv.a (Lv.b (Lv.a (Lv.b (Lv.b (A 24)))))))))))) (K24_prrlrllrr cal k m1) (K24_pxrrlrllrrl cal k m1) (doneK P results24)))
noncomputable def K24_prrr (cal : Cal) (k : Nat) : KC (Value × Hp × Nat) := (cutK (Lv.b (Lv.b (Lv.b (A 24)))).c (codeE P cal (codeF P cal k) none 24 (cR (cR (cR (cR code24)))) (Lv.b (Lv.b (Lv.b (Lv.b (A 24))))) (doneK P results24) X0 (doneK P results24)))
noncomputable def E24_1 (cal : Cal) (k m1 : Nat) : KC (Value × Hp × Nat) := codeE P cal (codeF P cal m1) none 24 (cL (cL (cR (cL (cR (cR code24)))))) (Lv.a (Lv.a (Lv.b (Lv.a (Lv.b (Lv.b (A 24))))))) (K24_prrlrl cal k m1) (K24_pxrrlr cal k) (doneK P results24)
noncomputable def R24_1 (cal : Cal) (k m1 : Nat) : Value → Value → Value → Value → Value → Hp → Nat → Res := fun u0 u5 u8 u9 u10 H n => codeF P cal m1 (Lv.a (Lv.b (Lv.a (Lv.b (Lv.b (A 24)))))) none 24 (cL (cR (cL (cR (cR code24))))) (K24_prr cal k) (K24_pxrrlr cal k) (doneK P results24) (Tr.set (Tr.set (Tr.set (Tr.set (Tr.set Tr.nil 10 (some u10)) 9 (some u9)) 8 (some u8)) 5 (some u5)) 0 (some u0)) H n []
noncomputable def B24_1 (cal : Cal) (k m1 : Nat) (b1 : Value → Value → Value → Value → Value → Hp → Nat → Res) (u0 u5 u8 u9 u10 : Value) (H : Hp) (n : Nat) : Res :=
binK P Go.BinOp.lss 3 (Go.Operand.tmp 10) (Go.Operand.tmp 9) u10 u9 fun v11_6 =>
ifK v11_6 (
bindO (indexAddrV P 31 u8 u10) fun v12_7 =>
bindO (addrV v12_7) fun a_9 => bindO (loadV P H 3 a_9) fun v13_8 =>
bindO (nilV u0) fun v16_13 =>
bindO (fieldAddrV P 53 v16_13 0) fun v17_14 =>
bindO (fieldAddrV P 33 v17_14 2) fun v18_15 =>
bindO (addrV v18_15) fun a_17 => bindO (loadV P H 31 a_17) fun v19_16 =>
bindO (indexAddrV P 31 v19_16 v13_8) fun v21_19 =>
bindO (addrV v21_19) fun a_21 => bindO (loadV P H 3 a_21) fun v22_20 =>
binK P Go.BinOp.add 3 (Go.Operand.tmp 14) (Go.Operand.tmp 22) u5 v22_20 fun v23_22 =>
binK P Go.BinOp.add 3 (Go.Operand.tmp 10) (Go.Operand.const (Go.Value.int Go.IntKind.i64 1)) u10 (Go.Value.int Go.IntKind.i64 1) fun v24_24 =>
b1 u0 v23_22 u8 u9 v24_24 H n) (
some (u5, H, n))
noncomputable def C24_1 (cal : Cal) (k m1 : Nat) (b1 : Value → Value → Value → Value → Value → Hp → Nat → Res) (u0 u5 u8 u9 u10 : Value) (H : Hp) (n : Nat) : Res := B24_1 cal k m1 b1 u0 u5 u8 u9 u10 H n
noncomputable def S24_1 (cal : Cal) (k : Nat) : Nat → Value → Value → Value → Value → Value → Hp → Nat → Res := fun m => Nat.rec (motive := fun _ => Value → Value → Value → Value → Value → Hp → Nat → Res) (C24_1 cal k 0 (fun _ _ _ _ _ _ _ => none)) (fun m ih => C24_1 cal k (m + 1) ih) m
theorem h24_1 (cal : Cal) (k m1 : Nat) (u0 u5 u8 u9 u10 : Value) (H : Hp) (n : Nat) : labK (E24_1 cal k m1) (Tr.set (Tr.set (Tr.set (Tr.set (Tr.set Tr.nil 10 (some u10)) 9 (some u9)) 8 (some u8)) 5 (some u5)) 0 (some u0)) H n [] = C24_1 cal k m1 (R24_1 cal k m1) u0 u5 u8 u9 u10 H n := by
  have h : labK (E24_1 cal k m1) (Tr.set (Tr.set (Tr.set (Tr.set (Tr.set Tr.nil 10 (some u10)) 9 (some u9)) 8 (some u8)) 5 (some u5)) 0 (some u0)) H n [] = B24_1 cal k m1 (R24_1 cal k m1) u0 u5 u8 u9 u10 H n := by kernel_rfl
  rw [h, C24_1]
theorem q24_1 (cal : Cal) (k : Nat) : ∀ (m : Nat) (u0 u5 u8 u9 u10 : Value) (H : Hp) (n : Nat), labK (E24_1 cal k m) (Tr.set (Tr.set (Tr.set (Tr.set (Tr.set Tr.nil 10 (some u10)) 9 (some u9)) 8 (some u8)) 5 (some u5)) 0 (some u0)) H n [] = S24_1 cal k m u0 u5 u8 u9 u10 H n
  | 0, u0, u5, u8, u9, u10, H, n => by
    rw [h24_1]
    have e : R24_1 cal k 0 = fun _ _ _ _ _ _ _ => none := by funext u0 u5 u8 u9 u10 H n; kernel_rfl
    rw [e]; rfl
  | m + 1, u0, u5, u8, u9, u10, H, n => by
    rw [h24_1]
    have e : R24_1 cal k (m + 1) = S24_1 cal k m := by
      funext u0 u5 u8 u9 u10 H n
      have e : R24_1 cal k (m + 1) u0 u5 u8 u9 u10 H n = labK (E24_1 cal k m) (Tr.set (Tr.set (Tr.set (Tr.set (Tr.set Tr.nil 10 (some u10)) 9 (some u9)) 8 (some u8)) 5 (some u5)) 0 (some u0)) H n [] := by kernel_rfl
      rw [e]; exact q24_1 ..
    rw [e]; rfl
noncomputable def B24_0 (cal : Cal) (k : Nat) (j1 : Value → Value → Value → Value → Value → Hp → Nat → Res) (v0 v1 : Value) (H : Hp) (n : Nat) : Res :=
bindO (lenV P 31 v1) fun v9_4 =>
j1 v0 (Go.Value.int Go.IntKind.i64 0) v1 v9_4 (Go.Value.int Go.IntKind.i64 0) H n
noncomputable def C24_0 (cal : Cal) (k : Nat) (v0 v1 : Value) (H : Hp) (n : Nat) : Res := B24_0 cal k (S24_1 cal k k) v0 v1 H n
theorem h24_0 (cal : Cal) (k : Nat) (v0 v1 : Value) (H : Hp) (n : Nat) : bodyE P cal A (k + 1) 24 [v0, v1] H n = C24_0 cal k v0 v1 H n := by
  have h : bodyE P cal A (k + 1) 24 [v0, v1] H n = B24_0 cal k (fun u0 u5 u8 u9 u10 H n => labK (E24_1 cal k k) (Tr.set (Tr.set (Tr.set (Tr.set (Tr.set Tr.nil 10 (some u10)) 9 (some u9)) 8 (some u8)) 5 (some u5)) 0 (some u0)) H n []) v0 v1 H n := by
    rw [body_eq (fn := Go.Proofs.Try.f24) (c := code24) (rs := results24) (by kernel_rfl) (by kernel_rfl) (by kernel_rfl) (by kernel_rfl)]
    kernel_rfl
  rw [h, C24_0]
  have e1 : (fun u0 u5 u8 u9 u10 H n => labK (E24_1 cal k k) (Tr.set (Tr.set (Tr.set (Tr.set (Tr.set Tr.nil 10 (some u10)) 9 (some u9)) 8 (some u8)) 5 (some u5)) 0 (some u0)) H n []) = (S24_1 cal k k) := by funext u0 u5 u8 u9 u10 H n; exact q24_1 ..
  rw [e1]
noncomputable def code25 : Code := codeOf 25
noncomputable def results25 : List ResultVar := resOf 25
noncomputable def K25_p (cal : Cal) (k : Nat) : KC (Value × Hp × Nat) := (cutK (A 25).c (codeE P cal (codeF P cal k) none 25 (cR code25) (Lv.b (A 25)) (doneK P results25) X0 (doneK P results25)))
noncomputable def K25_pr (cal : Cal) (k : Nat) : KC (Value × Hp × Nat) := (cutK (Lv.b (A 25)).c (codeE P cal (codeF P cal k) none 25 (cR (cR code25)) (Lv.b (Lv.b (A 25))) (doneK P results25) X0 (doneK P results25)))
noncomputable def K25_prr (cal : Cal) (k : Nat) : KC (Value × Hp × Nat) := (cutK (Lv.b (Lv.b (A 25))).c (codeE P cal (codeF P cal k) none 25 (cR (cR (cR code25))) (Lv.b (Lv.b (Lv.b (A 25)))) (doneK P results25) X0 (doneK P results25)))
noncomputable def K25_prrr (cal : Cal) (k : Nat) : KC (Value × Hp × Nat) := (cutK (Lv.b (Lv.b (Lv.b (A 25)))).c (codeE P cal (codeF P cal k) none 25 (cR (cR (cR (cR code25)))) (Lv.b (Lv.b (Lv.b (Lv.b (A 25))))) (doneK P results25) X0 (doneK P results25)))
noncomputable def K25_prrrrr (cal : Cal) (k : Nat) : KC (Value × Hp × Nat) := (cutK (Lv.b (Lv.b (Lv.b (Lv.b (Lv.b (A 25)))))).c (codeE P cal (codeF P cal k) none 25 (cR (cR (cR (cR (cR (cR code25)))))) (Lv.b (Lv.b (Lv.b (Lv.b (Lv.b (Lv.b (A 25))))))) (doneK P results25) X0 (doneK P results25)))
noncomputable def K25_prrrr (cal : Cal) (k : Nat) : KC (Value × Hp × Nat) := (cutK (Lv.b (Lv.b (Lv.b (Lv.b (A 25))))).c (codeE P cal (codeF P cal k) none 25 (cR (cR (cR (cR (cR code25))))) (Lv.b (Lv.b (Lv.b (Lv.b (Lv.b (A 25)))))) (doneK P results25) X0 (doneK P results25)))
noncomputable def K25_prrrrl (cal : Cal) (k : Nat) : KC (Value × Hp × Nat) := (cutK (Lv.a (Lv.b (Lv.b (Lv.b (Lv.b (A 25)))))).c (codeE P cal (codeF P cal k) none 25 (cR (cL (cR (cR (cR (cR code25)))))) (Lv.b (Lv.a (Lv.b (Lv.b (Lv.b (Lv.b (A 25))))))) (K25_prrrr cal k) X0 (doneK P results25)))
noncomputable def K25_pxrrrrlr (cal : Cal) (k : Nat) : XC (Value × Hp × Nat) := (upX 0 (K25_prrrr cal k) X0)
noncomputable def K25_prrrrlrl (cal : Cal) (k : Nat) (m1 : Nat) : KC (Value × Hp × Nat) := (fun T H n D => codeF P cal m1 (Lv.a (Lv.b (Lv.a (Lv.b (Lv.b (Lv.b (Lv.b (A 25)))))))) none 25 (cL (cR (cL (cR (cR (cR (cR code25))))))) (K25_prrrr cal k) (K25_pxrrrrlr cal k) (doneK P results25) (cutT (Lv.a (Lv.b (Lv.a (Lv.b (Lv.b (Lv.b (Lv.b (A 25)))))))).c T) H n D)
noncomputable def K25_prrrrlrll (cal : Cal) (k : Nat) (m1 : Nat) : KC (Value × Hp × Nat) := (cutK (Lv.a (Lv.a (Lv.b (Lv.a (Lv.b (Lv.b (Lv.b (Lv.b (A 25))))))))).c (codeE P cal (codeF P cal m1) none 25 (cR (cL (cL (cR (cL (cR (cR (cR (cR code25))))))))) (Lv.b (Lv.a (Lv.a (Lv.b (Lv.a (Lv.b (Lv.b (Lv.b (Lv.b (A 25)))))))))) (K25_prrrrlrl cal k m1) (K25_pxrrrrlr cal k) (doneK P results25)))
noncomputable def K25_prrrrlrllr (cal : Cal) (k : Nat) (m1 : Nat) : KC (Value × Hp × Nat) := (cutK (Lv.b (Lv.a (Lv.a (Lv.b (Lv.a (Lv.b (Lv.b (Lv.b (Lv.b (A 25)))))))))).c (codeE P cal (codeF P cal m1) none 25 (cR (cR (cL (cL (cR (cL (cR (cR (cR (cR code25)))))))))) (Lv.b (Lv.b (Lv.a (Lv.a (Lv.b (Lv.a (Lv.b (Lv.b (Lv.b (Lv.b (A 25))))))))))) (K25_prrrrlrl cal k m1) (K25_pxrrrrlr cal k) (doneK P results25)))
noncomputable def K25_prrrrlrllrr (cal : Cal) (k : Nat) (m1 : Nat) : KC (Value × Hp × Nat) := (cutK (Lv.b (Lv.b (Lv.a (Lv.a (Lv.b (Lv.a (Lv.b (Lv.b (Lv.b (Lv.b (A 25))))))))))).c (codeE P cal (codeF P cal m1) none 25 (cR (cR (cR (cL (cL (cR (cL (cR (cR (cR (cR code25))))))))))) (Lv.b (Lv.b (Lv.b (Lv.a (Lv.a (Lv.b (Lv.a (Lv.b (Lv.b (Lv.b (Lv.b (A 25)))))))))))) (K25_prrrrlrl cal k m1) (K25_pxrrrrlr cal k) (doneK P results25)))
noncomputable def K25_pxrrrrlrllrrl (cal : Cal) (k : Nat) (m1 : Nat) : XC (Value × Hp × Nat) := (upX 1 (K25_prrrrlrllrr cal k m1) (K25_pxrrrrlr cal k))
noncomputable def K25_prrrrlrllrrll (cal : Cal) (k : Nat) (m1 : Nat) : KC (Value × Hp × Nat) := (cutK (Lv.a (Lv.a (Lv.b (Lv.b (Lv.a (Lv.a (Lv.b (Lv.a (Lv.b (Lv.b (Lv.b (Lv.b (A 25))))))))))))).c (codeE P cal (codeF P cal m1) none 25 (cR (cL (cL (cR (cR (cL (cL (cR (cL (cR (cR (cR (cR code25))))))))))))) (Lv.b (Lv.a (Lv.a (Lv.b (Lv.b (Lv.a (Lv.a (Lv.b (Lv.a (Lv.b (Lv.b (Lv.b (Lv.b (A 25)))))))))))))) (K25_prrrrlrllrr cal k m1) (K25_pxrrrrlrllrrl cal k m1) (doneK P results25)))
noncomputable def K25_prrrrlrllrrllr (cal : Cal) (k : Nat) (m1 : Nat) : KC (Value × Hp × Nat) := (cutK (Lv.b (Lv.a (Lv.a (Lv.b (Lv.b (Lv.a (Lv.a (Lv.b (Lv.a (Lv.b (Lv.b (Lv.b (Lv.b (A 25)))))))))))))).c (codeE P cal (codeF P cal m1) none 25 (cR (cR (cL (cL (cR (cR (cL (cL (cR (cL (cR (cR (cR (cR code25)))))))))))))) (Lv.b (Lv.b (Lv.a (Lv.a (Lv.b (Lv.b (Lv.a (Lv.a (Lv.b (Lv.a (Lv.b (Lv.b (Lv.b (Lv.b (A 25))))))))))))))) (K25_prrrrlrllrr cal k m1) (K25_pxrrrrlrllrrl cal k m1) (doneK P results25)))
noncomputable def K25_prrrrlrllrrllrl (cal : Cal) (k : Nat) (m1 : Nat) : KC (Value × Hp × Nat) := (cutK (Lv.a (Lv.b (Lv.a (Lv.a (Lv.b (Lv.b (Lv.a (Lv.a (Lv.b (Lv.a (Lv.b (Lv.b (Lv.b (Lv.b (A 25))))))))))))))).c (codeE P cal (codeF P cal m1) none 25 (cR (cL (cR (cL (cL (cR (cR (cL (cL (cR (cL (cR (cR (cR (cR code25))))))))))))))) (Lv.b (Lv.a (Lv.b (Lv.a (Lv.a (Lv.b (Lv.b (Lv.a (Lv.a (Lv.b (Lv.a (Lv.b (Lv.b (Lv.b (Lv.b (A 25)))))))))))))))) (K25_prrrrlrllrrllr cal k m1) (K25_pxrrrrlrllrrl cal k m1) (doneK P results25)))
noncomputable def K25_prrrrlrllrrllrr (cal : Cal) (k : Nat) (m1 : Nat) : KC (Value × Hp × Nat) := (cutK (Lv.b (Lv.b (Lv.a (Lv.a (Lv.b (Lv.b (Lv.a (Lv.a (Lv.b (Lv.a (Lv.b (Lv.b (Lv.b (Lv.b (A 25))))))))))))))).c (codeE P cal (codeF P cal m1) none 25 (cR (cR (cR (cL (cL (cR (cR (cL (cL (cR (cL (cR (cR (cR (cR code25))))))))))))))) (Lv.b (Lv.b (Lv.b (Lv.a (Lv.a (Lv.b (Lv.b (Lv.a (Lv.a (Lv.b (Lv.a (Lv.b (Lv.b (Lv.b (Lv.b (A 25)))))))))))))))) (K25_prrrrlrllrr cal k m1) (K25_pxrrrrlrllrrl cal k m1) (doneK P results25)))
noncomputable def K25_prrrrlrllrrllrrr (cal : Cal) (k : Nat) (m1 : Nat) : KC (Value × Hp × Nat) := (cutK (Lv.b (Lv.b (Lv.b (Lv.a (Lv.a (Lv.b (Lv.b (Lv.a (Lv.a (Lv.b (Lv.a (Lv.b (Lv.b (Lv.b (Lv.b (A 25)))))))))))))))).c (codeE P cal (codeF P cal m1) none 25 (cR (cR (cR (cR (cL (cL (cR (cR (cL (cL (cR (cL (cR (cR (cR (cR code25)))))))))))))))) (Lv.b (Lv.b (Lv.b (Lv.b (Lv.a (Lv.a (Lv.b (Lv.b (Lv.a (Lv.a (Lv.b (Lv.a (Lv.b (Lv.b (Lv.b (Lv.b (A 25))))))))))))))))) (K25_prrrrlrllrr cal k m1) (K25_pxrrrrlrllrrl cal k m1) (doneK P results25)))
noncomputable def E25_1 (cal : Cal) (k : Nat) : KC (Value × Hp × Nat) := codeE P cal (codeF P cal k) none 25 (cR (cR (cR (cR (cR code25))))) (Lv.b (Lv.b (Lv.b (Lv.b (Lv.b (A 25)))))) (doneK P results25) X0 (doneK P results25)
noncomputable def E25_2 (cal : Cal) (k m1 : Nat) : KC (Value × Hp × Nat) := codeE P cal (codeF P cal m1) none 25 (cL (cL (cR (cL (cR (cR (cR (cR code25)))))))) (Lv.a (Lv.a (Lv.b (Lv.a (Lv.b (Lv.b (Lv.b (Lv.b (A 25))))))))) (K25_prrrrlrl cal k m1) (K25_pxrrrrlr cal k) (doneK P results25)
noncomputable def R25_2 (cal : Cal) (k m1 : Nat) : Value → Value → Value → Value → Value → Value → Value → Hp → Nat → Res := fun u0 u5 u6 u7 u20 u21 u22 H n => codeF P cal m1 (Lv.a (Lv.b (Lv.a (Lv.b (Lv.b (Lv.b (Lv.b (A 25)))))))) none 25 (cL (cR (cL (cR (cR (cR (cR code25))))))) (K25_prrrr cal k) (K25_pxrrrrlr cal k) (doneK P results25) (Tr.set (Tr.set (Tr.set (Tr.set (Tr.set (Tr.set (Tr.set Tr.nil 22 (some u22)) 21 (some u21)) 20 (some u20)) 7 (some u7)) 6 (some u6)) 5 (some u5)) 0 (some u0)) H n []
noncomputable def B25_1 (cal : Cal) (k : Nat) (u6 : Value) (H : Hp) (n : Nat) : Res :=
some (u6, H, n)
noncomputable def C25_1 (cal : Cal) (k : Nat) (u6 : Value) (H : Hp) (n : Nat) : Res := B25_1 cal k u6 H n
theorem h25_1 (cal : Cal) (k : Nat) (u6 : Value) (H : Hp) (n : Nat) : labK (E25_1 cal k) (Tr.set Tr.nil 6 (some u6)) H n [] = C25_1 cal k u6 H n := by
  have h : labK (E25_1 cal k) (Tr.set Tr.nil 6 (some u6)) H n [] = B25_1 cal k u6 H n := by kernel_rfl
  rw [h, C25_1]
theorem q25_1 (cal : Cal) (k : Nat) (u6 : Value) (H : Hp) (n : Nat) : labK (E25_1 cal k) (Tr.set Tr.nil 6 (some u6)) H n [] = C25_1 cal k u6 H n := h25_1 ..
noncomputable def B25_2 (cal : Cal) (k m1 : Nat) (j1 : Value → Hp → Nat → Res) (b2 : Value → Value → Value → Value → Value → Value → Value → Hp → Nat → Res) (u0 u5 u6 u7 u20 u21 u22 : Value) (H : Hp) (n : Nat) : Res :=
binK P Go.BinOp.lss 3 (Go.Operand.tmp 22) (Go.Operand.tmp 21) u22 u21 fun v23_28 =>
ifK v23_28 (
bindO (indexAddrV P 54 u20 u22) fun v25_30 =>
bindO (addrV v25_30) fun a_32 => bindO (loadV P H 50 a_32) fun v26_31 =>
allocK P 3 H n fun v8_33 H_34 n_35 =>
bindO (storeP P 3 v8_33 u22 H_34) fun H_37 =>
binK P Go.BinOp.eql 50 (Go.Operand.tmp 27) (Go.Operand.const (Go.Value.int Go.IntKind.u64 0)) u7 (Go.Value.int Go.IntKind.u64 0) fun v28_40 =>
ifK v28_40 (
j1 u6 H_37 n_35) (
callFK P cal 33 [u7] H_37 n_35 fun v30_42 H_43 n_44 =>
callFK P cal 45 [v30_42, (Value.func (Go.Fn.func 46) ⟨[]⟩ ⟨[u5, v8_33]⟩)] H_43 n_44 fun v32_46 H_47 n_48 =>
rowK P 31 1 [(0, v32_46)] H_47 n_48 fun v35_52 H_53 n_54 =>
stK (appendV P (bare H_53 n_54) 31 31 u6 v35_52) fun v36_55 H_56 n_57 =>
rowK P 31 1 [(0, v32_46)] H_56 n_57 fun v39_61 H_62 n_63 =>
callFK P cal 29 [v39_61] H_62 n_63 fun v40_64 H_65 n_66 =>
callFK P cal 34 [u0, v40_64] H_65 n_66 fun v41_67 H_68 n_69 =>
callFK P cal 35 [v41_67, v26_31] H_68 n_69 fun v43_71 H_72 n_73 =>
binK P Go.BinOp.add 3 (Go.Operand.tmp 22) (Go.Operand.const (Go.Value.int Go.IntKind.i64 1)) u22 (Go.Value.int Go.IntKind.i64 1) fun v44_75 =>
b2 u0 u5 v36_55 v43_71 u20 u21 v44_75 H_72 n_73)) (
j1 u6 H n)
noncomputable def C25_2 (cal : Cal) (k m1 : Nat) (b2 : Value → Value → Value → Value → Value → Value → Value → Hp → Nat → Res) (u0 u5 u6 u7 u20 u21 u22 : Value) (H : Hp) (n : Nat) : Res := B25_2 cal k m1 (C25_1 cal k) b2 u0 u5 u6 u7 u20 u21 u22 H n
noncomputable def S25_2 (cal : Cal) (k : Nat) : Nat → Value → Value → Value → Value → Value → Value → Value → Hp → Nat → Res := fun m => Nat.rec (motive := fun _ => Value → Value → Value → Value → Value → Value → Value → Hp → Nat → Res) (C25_2 cal k 0 (fun _ _ _ _ _ _ _ _ _ => none)) (fun m ih => C25_2 cal k (m + 1) ih) m
theorem h25_2 (cal : Cal) (k m1 : Nat) (u0 u5 u6 u7 u20 u21 u22 : Value) (H : Hp) (n : Nat) : labK (E25_2 cal k m1) (Tr.set (Tr.set (Tr.set (Tr.set (Tr.set (Tr.set (Tr.set Tr.nil 22 (some u22)) 21 (some u21)) 20 (some u20)) 7 (some u7)) 6 (some u6)) 5 (some u5)) 0 (some u0)) H n [] = C25_2 cal k m1 (R25_2 cal k m1) u0 u5 u6 u7 u20 u21 u22 H n := by
  have h : labK (E25_2 cal k m1) (Tr.set (Tr.set (Tr.set (Tr.set (Tr.set (Tr.set (Tr.set Tr.nil 22 (some u22)) 21 (some u21)) 20 (some u20)) 7 (some u7)) 6 (some u6)) 5 (some u5)) 0 (some u0)) H n [] = B25_2 cal k m1 (fun u6 H n => labK (E25_1 cal k) (Tr.set Tr.nil 6 (some u6)) H n []) (R25_2 cal k m1) u0 u5 u6 u7 u20 u21 u22 H n := by kernel_rfl
  rw [h, C25_2]
  have e1 : (fun u6 H n => labK (E25_1 cal k) (Tr.set Tr.nil 6 (some u6)) H n []) = (C25_1 cal k) := by funext u6 H n; exact q25_1 ..
  rw [e1]
theorem q25_2 (cal : Cal) (k : Nat) : ∀ (m : Nat) (u0 u5 u6 u7 u20 u21 u22 : Value) (H : Hp) (n : Nat), labK (E25_2 cal k m) (Tr.set (Tr.set (Tr.set (Tr.set (Tr.set (Tr.set (Tr.set Tr.nil 22 (some u22)) 21 (some u21)) 20 (some u20)) 7 (some u7)) 6 (some u6)) 5 (some u5)) 0 (some u0)) H n [] = S25_2 cal k m u0 u5 u6 u7 u20 u21 u22 H n
  | 0, u0, u5, u6, u7, u20, u21, u22, H, n => by
    rw [h25_2]
    have e : R25_2 cal k 0 = fun _ _ _ _ _ _ _ _ _ => none := by funext u0 u5 u6 u7 u20 u21 u22 H n; kernel_rfl
    rw [e]; rfl
  | m + 1, u0, u5, u6, u7, u20, u21, u22, H, n => by
    rw [h25_2]
    have e : R25_2 cal k (m + 1) = S25_2 cal k m := by
      funext u0 u5 u6 u7 u20 u21 u22 H n
      have e : R25_2 cal k (m + 1) u0 u5 u6 u7 u20 u21 u22 H n = labK (E25_2 cal k m) (Tr.set (Tr.set (Tr.set (Tr.set (Tr.set (Tr.set (Tr.set Tr.nil 22 (some u22)) 21 (some u21)) 20 (some u20)) 7 (some u7)) 6 (some u6)) 5 (some u5)) 0 (some u0)) H n [] := by kernel_rfl
      rw [e]; exact q25_2 ..
    rw [e]; rfl
noncomputable def B25_0 (cal : Cal) (k : Nat) (j2 : Value → Value → Value → Value → Value → Value → Value → Hp → Nat → Res) (v0 v1 : Value) (H : Hp) (n : Nat) : Res :=
callFK P cal 44 [v0, v1] H n fun v13_4 H_5 n_6 =>
allocK P 98 H_5 n_6 fun v5_7 H_8 n_9 =>
bindO (storeP P 98 v5_7 v13_4 H_8) fun H_11 =>
bindO (nilV v0) fun v15_14 =>
bindO (fieldAddrV P 53 v15_14 0) fun v16_15 =>
bindO (fieldAddrV P 33 v16_15 1) fun v17_16 =>
bindO (addrV v17_16) fun a_18 => bindO (loadV P H_11 31 a_18) fun v18_17 =>
callFK P cal 29 [v18_17] H_11 n_9 fun v19_19 H_20 n_21 =>
bindO (lenV P 54 v1) fun v21_26 =>
j2 v0 v5_7 (Go.Value.slice none 0 0) v19_19 v1 v21_26 (Go.Value.int Go.IntKind.i64 0) H_20 n_21
noncomputable def C25_0 (cal : Cal) (k : Nat) (v0 v1 : Value) (H : Hp) (n : Nat) : Res := B25_0 cal k (S25_2 cal k k) v0 v1 H n
theorem h25_0 (cal : Cal) (k : Nat) (v0 v1 : Value) (H : Hp) (n : Nat) : bodyE P cal A (k + 1) 25 [v0, v1] H n = C25_0 cal k v0 v1 H n := by
  have h : bodyE P cal A (k + 1) 25 [v0, v1] H n = B25_0 cal k (fun u0 u5 u6 u7 u20 u21 u22 H n => labK (E25_2 cal k k) (Tr.set (Tr.set (Tr.set (Tr.set (Tr.set (Tr.set (Tr.set Tr.nil 22 (some u22)) 21 (some u21)) 20 (some u20)) 7 (some u7)) 6 (some u6)) 5 (some u5)) 0 (some u0)) H n []) v0 v1 H n := by
    rw [body_eq (fn := Go.Proofs.Try.f25) (c := code25) (rs := results25) (by kernel_rfl) (by kernel_rfl) (by kernel_rfl) (by kernel_rfl)]
    kernel_rfl
  rw [h, C25_0]
  have e2 : (fun u0 u5 u6 u7 u20 u21 u22 H n => labK (E25_2 cal k k) (Tr.set (Tr.set (Tr.set (Tr.set (Tr.set (Tr.set (Tr.set Tr.nil 22 (some u22)) 21 (some u21)) 20 (some u20)) 7 (some u7)) 6 (some u6)) 5 (some u5)) 0 (some u0)) H n []) = (S25_2 cal k k) := by funext u0 u5 u6 u7 u20 u21 u22 H n; exact q25_2 ..
  rw [e2]
end Go.Proofs.Ytakjjillnllocab.P
