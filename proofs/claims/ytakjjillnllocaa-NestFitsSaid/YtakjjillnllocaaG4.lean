/- The texts of functions, each with the proof that the evaluator says the same. -/
import Derived.Test.YtakjjillnllocaaG1
open Go Go.Ev
set_option maxRecDepth 1000000
set_option linter.unusedVariables false
noncomputable section
namespace Go.Proofs.Ytakjjillnllocaa.G
noncomputable def code63 : Code := codeOf 63
noncomputable def results63 : List ResultVar := resOf 63
noncomputable def K63_p (cal : Cal) (k : Nat) : KC (Value × Hp × Nat) := (cutK (A 63).c (codeE P cal (codeF P cal k) none 63 (cR code63) (Lv.b (A 63)) (doneK P results63) X0 (doneK P results63)))
noncomputable def K63_pr (cal : Cal) (k : Nat) : KC (Value × Hp × Nat) := (cutK (Lv.b (A 63)).c (codeE P cal (codeF P cal k) none 63 (cR (cR code63)) (Lv.b (Lv.b (A 63))) (doneK P results63) X0 (doneK P results63)))
noncomputable def K63_prl (cal : Cal) (k : Nat) : KC (Value × Hp × Nat) := (cutK (Lv.a (Lv.b (A 63))).c (codeE P cal (codeF P cal k) none 63 (cR (cL (cR code63))) (Lv.b (Lv.a (Lv.b (A 63)))) (K63_pr cal k) X0 (doneK P results63)))
noncomputable def K63_prlrl (cal : Cal) (k : Nat) : KC (Value × Hp × Nat) := (cutK (Lv.a (Lv.b (Lv.a (Lv.b (A 63))))).c (codeE P cal (codeF P cal k) none 63 (cR (cL (cR (cL (cR code63))))) (Lv.b (Lv.a (Lv.b (Lv.a (Lv.b (A 63)))))) (K63_pr cal k) X0 (doneK P results63)))
noncomputable def K63_prr (cal : Cal) (k : Nat) : KC (Value × Hp × Nat) := (cutK (Lv.b (Lv.b (A 63))).c (codeE P cal (codeF P cal k) none 63 (cR (cR (cR code63))) (Lv.b (Lv.b (Lv.b (A 63)))) (doneK P results63) X0 (doneK P results63)))
noncomputable def K63_prrl (cal : Cal) (k : Nat) : KC (Value × Hp × Nat) := (cutK (Lv.a (Lv.b (Lv.b (A 63)))).c (codeE P cal (codeF P cal k) none 63 (cR (cL (cR (cR code63)))) (Lv.b (Lv.a (Lv.b (Lv.b (A 63))))) (K63_prr cal k) X0 (doneK P results63)))
noncomputable def K63_prrlrl (cal : Cal) (k : Nat) : KC (Value × Hp × Nat) := (cutK (Lv.a (Lv.b (Lv.a (Lv.b (Lv.b (A 63)))))).c (codeE P cal (codeF P cal k) none 63 (cR (cL (cR (cL (cR (cR code63)))))) (Lv.b (Lv.a (Lv.b (Lv.a (Lv.b (Lv.b (A 63))))))) (K63_prr cal k) X0 (doneK P results63)))
noncomputable def K63_prrr (cal : Cal) (k : Nat) : KC (Value × Hp × Nat) := (cutK (Lv.b (Lv.b (Lv.b (A 63)))).c (codeE P cal (codeF P cal k) none 63 (cR (cR (cR (cR code63)))) (Lv.b (Lv.b (Lv.b (Lv.b (A 63))))) (doneK P results63) X0 (doneK P results63)))
noncomputable def K63_prrrl (cal : Cal) (k : Nat) : KC (Value × Hp × Nat) := (cutK (Lv.a (Lv.b (Lv.b (Lv.b (A 63))))).c (codeE P cal (codeF P cal k) none 63 (cR (cL (cR (cR (cR code63))))) (Lv.b (Lv.a (Lv.b (Lv.b (Lv.b (A 63)))))) (K63_prrr cal k) X0 (doneK P results63)))
noncomputable def K63_pxrrrlr (cal : Cal) (k : Nat) : XC (Value × Hp × Nat) := (upX 0 (K63_prrr cal k) X0)
noncomputable def K63_prrrlrl (cal : Cal) (k : Nat) (m1 : Nat) : KC (Value × Hp × Nat) := (fun T H n D => codeF P cal m1 (Lv.a (Lv.b (Lv.a (Lv.b (Lv.b (Lv.b (A 63))))))) none 63 (cL (cR (cL (cR (cR (cR code63)))))) (K63_prrr cal k) (K63_pxrrrlr cal k) (doneK P results63) (cutT (Lv.a (Lv.b (Lv.a (Lv.b (Lv.b (Lv.b (A 63))))))).c T) H n D)
noncomputable def K63_prrrlrll (cal : Cal) (k : Nat) (m1 : Nat) : KC (Value × Hp × Nat) := (cutK (Lv.a (Lv.a (Lv.b (Lv.a (Lv.b (Lv.b (Lv.b (A 63)))))))).c (codeE P cal (codeF P cal m1) none 63 (cR (cL (cL (cR (cL (cR (cR (cR code63)))))))) (Lv.b (Lv.a (Lv.a (Lv.b (Lv.a (Lv.b (Lv.b (Lv.b (A 63))))))))) (K63_prrrlrl cal k m1) (K63_pxrrrlr cal k) (doneK P results63)))
noncomputable def K63_prrrlrlll (cal : Cal) (k : Nat) (m1 : Nat) : KC (Value × Hp × Nat) := (cutK (Lv.a (Lv.a (Lv.a (Lv.b (Lv.a (Lv.b (Lv.b (Lv.b (A 63))))))))).c (codeE P cal (codeF P cal m1) none 63 (cR (cL (cL (cL (cR (cL (cR (cR (cR code63))))))))) (Lv.b (Lv.a (Lv.a (Lv.a (Lv.b (Lv.a (Lv.b (Lv.b (Lv.b (A 63)))))))))) (K63_prrrlrll cal k m1) (K63_pxrrrlr cal k) (doneK P results63)))
noncomputable def K63_prrrlrllr (cal : Cal) (k : Nat) (m1 : Nat) : KC (Value × Hp × Nat) := (cutK (Lv.b (Lv.a (Lv.a (Lv.b (Lv.a (Lv.b (Lv.b (Lv.b (A 63))))))))).c (codeE P cal (codeF P cal m1) none 63 (cR (cR (cL (cL (cR (cL (cR (cR (cR code63))))))))) (Lv.b (Lv.b (Lv.a (Lv.a (Lv.b (Lv.a (Lv.b (Lv.b (Lv.b (A 63)))))))))) (K63_prrrlrl cal k m1) (K63_pxrrrlr cal k) (doneK P results63)))
noncomputable def K63_pxrrrlrllrl (cal : Cal) (k : Nat) (m1 : Nat) : XC (Value × Hp × Nat) := (upX 1 (K63_prrrlrllr cal k m1) (K63_pxrrrlr cal k))
noncomputable def K63_prrrlrllrll (cal : Cal) (k : Nat) (m1 : Nat) : KC (Value × Hp × Nat) := (cutK (Lv.a (Lv.a (Lv.b (Lv.a (Lv.a (Lv.b (Lv.a (Lv.b (Lv.b (Lv.b (A 63))))))))))).c (codeE P cal (codeF P cal m1) none 63 (cR (cL (cL (cR (cL (cL (cR (cL (cR (cR (cR code63))))))))))) (Lv.b (Lv.a (Lv.a (Lv.b (Lv.a (Lv.a (Lv.b (Lv.a (Lv.b (Lv.b (Lv.b (A 63)))))))))))) (K63_prrrlrllr cal k m1) (K63_pxrrrlrllrl cal k m1) (doneK P results63)))
noncomputable def K63_prrrlrllrllrl (cal : Cal) (k : Nat) (m1 : Nat) : KC (Value × Hp × Nat) := (cutK (Lv.a (Lv.b (Lv.a (Lv.a (Lv.b (Lv.a (Lv.a (Lv.b (Lv.a (Lv.b (Lv.b (Lv.b (A 63))))))))))))).c (codeE P cal (codeF P cal m1) none 63 (cR (cL (cR (cL (cL (cR (cL (cL (cR (cL (cR (cR (cR code63))))))))))))) (Lv.b (Lv.a (Lv.b (Lv.a (Lv.a (Lv.b (Lv.a (Lv.a (Lv.b (Lv.a (Lv.b (Lv.b (Lv.b (A 63)))))))))))))) (K63_prrrlrllr cal k m1) (K63_pxrrrlrllrl cal k m1) (doneK P results63)))
noncomputable def K63_prrrr (cal : Cal) (k : Nat) : KC (Value × Hp × Nat) := (cutK (Lv.b (Lv.b (Lv.b (Lv.b (A 63))))).c (codeE P cal (codeF P cal k) none 63 (cR (cR (cR (cR (cR code63))))) (Lv.b (Lv.b (Lv.b (Lv.b (Lv.b (A 63)))))) (doneK P results63) X0 (doneK P results63)))
noncomputable def K63_prrrrl (cal : Cal) (k : Nat) : KC (Value × Hp × Nat) := (cutK (Lv.a (Lv.b (Lv.b (Lv.b (Lv.b (A 63)))))).c (codeE P cal (codeF P cal k) none 63 (cR (cL (cR (cR (cR (cR code63)))))) (Lv.b (Lv.a (Lv.b (Lv.b (Lv.b (Lv.b (A 63))))))) (K63_prrrr cal k) X0 (doneK P results63)))
noncomputable def K63_pxrrrrlr (cal : Cal) (k : Nat) : XC (Value × Hp × Nat) := (upX 2 (K63_prrrr cal k) X0)
noncomputable def K63_prrrrlrl (cal : Cal) (k : Nat) (m1 : Nat) : KC (Value × Hp × Nat) := (fun T H n D => codeF P cal m1 (Lv.a (Lv.b (Lv.a (Lv.b (Lv.b (Lv.b (Lv.b (A 63)))))))) none 63 (cL (cR (cL (cR (cR (cR (cR code63))))))) (K63_prrrr cal k) (K63_pxrrrrlr cal k) (doneK P results63) (cutT (Lv.a (Lv.b (Lv.a (Lv.b (Lv.b (Lv.b (Lv.b (A 63)))))))).c T) H n D)
noncomputable def K63_prrrrlrll (cal : Cal) (k : Nat) (m1 : Nat) : KC (Value × Hp × Nat) := (cutK (Lv.a (Lv.a (Lv.b (Lv.a (Lv.b (Lv.b (Lv.b (Lv.b (A 63))))))))).c (codeE P cal (codeF P cal m1) none 63 (cR (cL (cL (cR (cL (cR (cR (cR (cR code63))))))))) (Lv.b (Lv.a (Lv.a (Lv.b (Lv.a (Lv.b (Lv.b (Lv.b (Lv.b (A 63)))))))))) (K63_prrrrlrl cal k m1) (K63_pxrrrrlr cal k) (doneK P results63)))
noncomputable def K63_prrrrlrlll (cal : Cal) (k : Nat) (m1 : Nat) : KC (Value × Hp × Nat) := (cutK (Lv.a (Lv.a (Lv.a (Lv.b (Lv.a (Lv.b (Lv.b (Lv.b (Lv.b (A 63)))))))))).c (codeE P cal (codeF P cal m1) none 63 (cR (cL (cL (cL (cR (cL (cR (cR (cR (cR code63)))))))))) (Lv.b (Lv.a (Lv.a (Lv.a (Lv.b (Lv.a (Lv.b (Lv.b (Lv.b (Lv.b (A 63))))))))))) (K63_prrrrlrll cal k m1) (K63_pxrrrrlr cal k) (doneK P results63)))
noncomputable def K63_prrrrlrllr (cal : Cal) (k : Nat) (m1 : Nat) : KC (Value × Hp × Nat) := (cutK (Lv.b (Lv.a (Lv.a (Lv.b (Lv.a (Lv.b (Lv.b (Lv.b (Lv.b (A 63)))))))))).c (codeE P cal (codeF P cal m1) none 63 (cR (cR (cL (cL (cR (cL (cR (cR (cR (cR code63)))))))))) (Lv.b (Lv.b (Lv.a (Lv.a (Lv.b (Lv.a (Lv.b (Lv.b (Lv.b (Lv.b (A 63))))))))))) (K63_prrrrlrl cal k m1) (K63_pxrrrrlr cal k) (doneK P results63)))
noncomputable def K63_pxrrrrlrllrl (cal : Cal) (k : Nat) (m1 : Nat) : XC (Value × Hp × Nat) := (upX 3 (K63_prrrrlrllr cal k m1) (K63_pxrrrrlr cal k))
noncomputable def K63_prrrrlrllrll (cal : Cal) (k : Nat) (m1 : Nat) : KC (Value × Hp × Nat) := (cutK (Lv.a (Lv.a (Lv.b (Lv.a (Lv.a (Lv.b (Lv.a (Lv.b (Lv.b (Lv.b (Lv.b (A 63)))))))))))).c (codeE P cal (codeF P cal m1) none 63 (cR (cL (cL (cR (cL (cL (cR (cL (cR (cR (cR (cR code63)))))))))))) (Lv.b (Lv.a (Lv.a (Lv.b (Lv.a (Lv.a (Lv.b (Lv.a (Lv.b (Lv.b (Lv.b (Lv.b (A 63))))))))))))) (K63_prrrrlrllr cal k m1) (K63_pxrrrrlrllrl cal k m1) (doneK P results63)))
noncomputable def K63_prrrrlrllrllr (cal : Cal) (k : Nat) (m1 : Nat) : KC (Value × Hp × Nat) := (cutK (Lv.b (Lv.a (Lv.a (Lv.b (Lv.a (Lv.a (Lv.b (Lv.a (Lv.b (Lv.b (Lv.b (Lv.b (A 63))))))))))))).c (codeE P cal (codeF P cal m1) none 63 (cR (cR (cL (cL (cR (cL (cL (cR (cL (cR (cR (cR (cR code63))))))))))))) (Lv.b (Lv.b (Lv.a (Lv.a (Lv.b (Lv.a (Lv.a (Lv.b (Lv.a (Lv.b (Lv.b (Lv.b (Lv.b (A 63)))))))))))))) (K63_prrrrlrllr cal k m1) (K63_pxrrrrlrllrl cal k m1) (doneK P results63)))
noncomputable def K63_prrrrlrllrllrrl (cal : Cal) (k : Nat) (m1 : Nat) : KC (Value × Hp × Nat) := (cutK (Lv.a (Lv.b (Lv.b (Lv.a (Lv.a (Lv.b (Lv.a (Lv.a (Lv.b (Lv.a (Lv.b (Lv.b (Lv.b (Lv.b (A 63))))))))))))))).c (codeE P cal (codeF P cal m1) none 63 (cR (cL (cR (cR (cL (cL (cR (cL (cL (cR (cL (cR (cR (cR (cR code63))))))))))))))) (Lv.b (Lv.a (Lv.b (Lv.b (Lv.a (Lv.a (Lv.b (Lv.a (Lv.a (Lv.b (Lv.a (Lv.b (Lv.b (Lv.b (Lv.b (A 63)))))))))))))))) (K63_prrrrlrllr cal k m1) (K63_pxrrrrlrllrl cal k m1) (doneK P results63)))
noncomputable def K63_prrrrr (cal : Cal) (k : Nat) : KC (Value × Hp × Nat) := (cutK (Lv.b (Lv.b (Lv.b (Lv.b (Lv.b (A 63)))))).c (codeE P cal (codeF P cal k) none 63 (cR (cR (cR (cR (cR (cR code63)))))) (Lv.b (Lv.b (Lv.b (Lv.b (Lv.b (Lv.b (A 63))))))) (doneK P results63) X0 (doneK P results63)))
noncomputable def K63_prrrrrl (cal : Cal) (k : Nat) : KC (Value × Hp × Nat) := (cutK (Lv.a (Lv.b (Lv.b (Lv.b (Lv.b (Lv.b (A 63))))))).c (codeE P cal (codeF P cal k) none 63 (cR (cL (cR (cR (cR (cR (cR code63))))))) (Lv.b (Lv.a (Lv.b (Lv.b (Lv.b (Lv.b (Lv.b (A 63)))))))) (K63_prrrrr cal k) X0 (doneK P results63)))
noncomputable def K63_pxrrrrrlr (cal : Cal) (k : Nat) : XC (Value × Hp × Nat) := (upX 4 (K63_prrrrr cal k) X0)
noncomputable def K63_prrrrrlrl (cal : Cal) (k : Nat) (m1 : Nat) : KC (Value × Hp × Nat) := (fun T H n D => codeF P cal m1 (Lv.a (Lv.b (Lv.a (Lv.b (Lv.b (Lv.b (Lv.b (Lv.b (A 63))))))))) none 63 (cL (cR (cL (cR (cR (cR (cR (cR code63)))))))) (K63_prrrrr cal k) (K63_pxrrrrrlr cal k) (doneK P results63) (cutT (Lv.a (Lv.b (Lv.a (Lv.b (Lv.b (Lv.b (Lv.b (Lv.b (A 63))))))))).c T) H n D)
noncomputable def K63_prrrrrlrll (cal : Cal) (k : Nat) (m1 : Nat) : KC (Value × Hp × Nat) := (cutK (Lv.a (Lv.a (Lv.b (Lv.a (Lv.b (Lv.b (Lv.b (Lv.b (Lv.b (A 63)))))))))).c (codeE P cal (codeF P cal m1) none 63 (cR (cL (cL (cR (cL (cR (cR (cR (cR (cR code63)))))))))) (Lv.b (Lv.a (Lv.a (Lv.b (Lv.a (Lv.b (Lv.b (Lv.b (Lv.b (Lv.b (A 63))))))))))) (K63_prrrrrlrl cal k m1) (K63_pxrrrrrlr cal k) (doneK P results63)))
noncomputable def K63_prrrrrlrlll (cal : Cal) (k : Nat) (m1 : Nat) : KC (Value × Hp × Nat) := (cutK (Lv.a (Lv.a (Lv.a (Lv.b (Lv.a (Lv.b (Lv.b (Lv.b (Lv.b (Lv.b (A 63))))))))))).c (codeE P cal (codeF P cal m1) none 63 (cR (cL (cL (cL (cR (cL (cR (cR (cR (cR (cR code63))))))))))) (Lv.b (Lv.a (Lv.a (Lv.a (Lv.b (Lv.a (Lv.b (Lv.b (Lv.b (Lv.b (Lv.b (A 63)))))))))))) (K63_prrrrrlrll cal k m1) (K63_pxrrrrrlr cal k) (doneK P results63)))
noncomputable def K63_prrrrrlrllr (cal : Cal) (k : Nat) (m1 : Nat) : KC (Value × Hp × Nat) := (cutK (Lv.b (Lv.a (Lv.a (Lv.b (Lv.a (Lv.b (Lv.b (Lv.b (Lv.b (Lv.b (A 63))))))))))).c (codeE P cal (codeF P cal m1) none 63 (cR (cR (cL (cL (cR (cL (cR (cR (cR (cR (cR code63))))))))))) (Lv.b (Lv.b (Lv.a (Lv.a (Lv.b (Lv.a (Lv.b (Lv.b (Lv.b (Lv.b (Lv.b (A 63)))))))))))) (K63_prrrrrlrl cal k m1) (K63_pxrrrrrlr cal k) (doneK P results63)))
noncomputable def K63_pxrrrrrlrllrl (cal : Cal) (k : Nat) (m1 : Nat) : XC (Value × Hp × Nat) := (upX 5 (K63_prrrrrlrllr cal k m1) (K63_pxrrrrrlr cal k))
noncomputable def K63_prrrrrlrllrll (cal : Cal) (k : Nat) (m1 : Nat) : KC (Value × Hp × Nat) := (cutK (Lv.a (Lv.a (Lv.b (Lv.a (Lv.a (Lv.b (Lv.a (Lv.b (Lv.b (Lv.b (Lv.b (Lv.b (A 63))))))))))))).c (codeE P cal (codeF P cal m1) none 63 (cR (cL (cL (cR (cL (cL (cR (cL (cR (cR (cR (cR (cR code63))))))))))))) (Lv.b (Lv.a (Lv.a (Lv.b (Lv.a (Lv.a (Lv.b (Lv.a (Lv.b (Lv.b (Lv.b (Lv.b (Lv.b (A 63)))))))))))))) (K63_prrrrrlrllr cal k m1) (K63_pxrrrrrlrllrl cal k m1) (doneK P results63)))
noncomputable def K63_prrrrrlrllrllr (cal : Cal) (k : Nat) (m1 : Nat) : KC (Value × Hp × Nat) := (cutK (Lv.b (Lv.a (Lv.a (Lv.b (Lv.a (Lv.a (Lv.b (Lv.a (Lv.b (Lv.b (Lv.b (Lv.b (Lv.b (A 63)))))))))))))).c (codeE P cal (codeF P cal m1) none 63 (cR (cR (cL (cL (cR (cL (cL (cR (cL (cR (cR (cR (cR (cR code63)))))))))))))) (Lv.b (Lv.b (Lv.a (Lv.a (Lv.b (Lv.a (Lv.a (Lv.b (Lv.a (Lv.b (Lv.b (Lv.b (Lv.b (Lv.b (A 63))))))))))))))) (K63_prrrrrlrllr cal k m1) (K63_pxrrrrrlrllrl cal k m1) (doneK P results63)))
noncomputable def K63_prrrrrlrllrllrl (cal : Cal) (k : Nat) (m1 : Nat) : KC (Value × Hp × Nat) := (cutK (Lv.a (Lv.b (Lv.a (Lv.a (Lv.b (Lv.a (Lv.a (Lv.b (Lv.a (Lv.b (Lv.b (Lv.b (Lv.b (Lv.b (A 63))))))))))))))).c (codeE P cal (codeF P cal m1) none 63 (cR (cL (cR (cL (cL (cR (cL (cL (cR (cL (cR (cR (cR (cR (cR code63))))))))))))))) (Lv.b (Lv.a (Lv.b (Lv.a (Lv.a (Lv.b (Lv.a (Lv.a (Lv.b (Lv.a (Lv.b (Lv.b (Lv.b (Lv.b (Lv.b (A 63)))))))))))))))) (K63_prrrrrlrllrllr cal k m1) (K63_pxrrrrrlrllrl cal k m1) (doneK P results63)))
noncomputable def K63_prrrrrlrllrllrlrl (cal : Cal) (k : Nat) (m1 : Nat) : KC (Value × Hp × Nat) := (cutK (Lv.a (Lv.b (Lv.a (Lv.b (Lv.a (Lv.a (Lv.b (Lv.a (Lv.a (Lv.b (Lv.a (Lv.b (Lv.b (Lv.b (Lv.b (Lv.b (A 63))))))))))))))))).c (codeE P cal (codeF P cal m1) none 63 (cR (cL (cR (cL (cR (cL (cL (cR (cL (cL (cR (cL (cR (cR (cR (cR (cR code63))))))))))))))))) (Lv.b (Lv.a (Lv.b (Lv.a (Lv.b (Lv.a (Lv.a (Lv.b (Lv.a (Lv.a (Lv.b (Lv.a (Lv.b (Lv.b (Lv.b (Lv.b (Lv.b (A 63)))))))))))))))))) (K63_prrrrrlrllrllr cal k m1) (K63_pxrrrrrlrllrl cal k m1) (doneK P results63)))
noncomputable def K63_prrrrrlrllrllrr (cal : Cal) (k : Nat) (m1 : Nat) : KC (Value × Hp × Nat) := (cutK (Lv.b (Lv.b (Lv.a (Lv.a (Lv.b (Lv.a (Lv.a (Lv.b (Lv.a (Lv.b (Lv.b (Lv.b (Lv.b (Lv.b (A 63))))))))))))))).c (codeE P cal (codeF P cal m1) none 63 (cR (cR (cR (cL (cL (cR (cL (cL (cR (cL (cR (cR (cR (cR (cR code63))))))))))))))) (Lv.b (Lv.b (Lv.b (Lv.a (Lv.a (Lv.b (Lv.a (Lv.a (Lv.b (Lv.a (Lv.b (Lv.b (Lv.b (Lv.b (Lv.b (A 63)))))))))))))))) (K63_prrrrrlrllr cal k m1) (K63_pxrrrrrlrllrl cal k m1) (doneK P results63)))
noncomputable def K63_pxrrrrrlrllrllrrr (cal : Cal) (k : Nat) (m1 : Nat) : XC (Value × Hp × Nat) := (upX 6 (K63_prrrrrlrllr cal k m1) (K63_pxrrrrrlrllrl cal k m1))
noncomputable def K63_prrrrrlrllrllrrrl (cal : Cal) (k : Nat) (m1 : Nat) (m2 : Nat) : KC (Value × Hp × Nat) := (fun T H n D => codeF P cal m2 (Lv.a (Lv.b (Lv.b (Lv.b (Lv.a (Lv.a (Lv.b (Lv.a (Lv.a (Lv.b (Lv.a (Lv.b (Lv.b (Lv.b (Lv.b (Lv.b (A 63))))))))))))))))) none 63 (cL (cR (cR (cR (cL (cL (cR (cL (cL (cR (cL (cR (cR (cR (cR (cR code63)))))))))))))))) (K63_prrrrrlrllr cal k m1) (K63_pxrrrrrlrllrllrrr cal k m1) (doneK P results63) (cutT (Lv.a (Lv.b (Lv.b (Lv.b (Lv.a (Lv.a (Lv.b (Lv.a (Lv.a (Lv.b (Lv.a (Lv.b (Lv.b (Lv.b (Lv.b (Lv.b (A 63))))))))))))))))).c T) H n D)
noncomputable def K63_prrrrrlrllrllrrrll (cal : Cal) (k : Nat) (m1 : Nat) (m2 : Nat) : KC (Value × Hp × Nat) := (cutK (Lv.a (Lv.a (Lv.b (Lv.b (Lv.b (Lv.a (Lv.a (Lv.b (Lv.a (Lv.a (Lv.b (Lv.a (Lv.b (Lv.b (Lv.b (Lv.b (Lv.b (A 63)))))))))))))))))).c (codeE P cal (codeF P cal m2) none 63 (cR (cL (cL (cR (cR (cR (cL (cL (cR (cL (cL (cR (cL (cR (cR (cR (cR (cR code63)))))))))))))))))) (Lv.b (Lv.a (Lv.a (Lv.b (Lv.b (Lv.b (Lv.a (Lv.a (Lv.b (Lv.a (Lv.a (Lv.b (Lv.a (Lv.b (Lv.b (Lv.b (Lv.b (Lv.b (A 63))))))))))))))))))) (K63_prrrrrlrllrllrrrl cal k m1 m2) (K63_pxrrrrrlrllrllrrr cal k m1) (doneK P results63)))
noncomputable def K63_prrrrrlrllrllrrrlll (cal : Cal) (k : Nat) (m1 : Nat) (m2 : Nat) : KC (Value × Hp × Nat) := (cutK (Lv.a (Lv.a (Lv.a (Lv.b (Lv.b (Lv.b (Lv.a (Lv.a (Lv.b (Lv.a (Lv.a (Lv.b (Lv.a (Lv.b (Lv.b (Lv.b (Lv.b (Lv.b (A 63))))))))))))))))))).c (codeE P cal (codeF P cal m2) none 63 (cR (cL (cL (cL (cR (cR (cR (cL (cL (cR (cL (cL (cR (cL (cR (cR (cR (cR (cR code63))))))))))))))))))) (Lv.b (Lv.a (Lv.a (Lv.a (Lv.b (Lv.b (Lv.b (Lv.a (Lv.a (Lv.b (Lv.a (Lv.a (Lv.b (Lv.a (Lv.b (Lv.b (Lv.b (Lv.b (Lv.b (A 63)))))))))))))))))))) (K63_prrrrrlrllrllrrrll cal k m1 m2) (K63_pxrrrrrlrllrllrrr cal k m1) (doneK P results63)))
noncomputable def K63_prrrrrlrllrllrrrllr (cal : Cal) (k : Nat) (m1 : Nat) (m2 : Nat) : KC (Value × Hp × Nat) := (cutK (Lv.b (Lv.a (Lv.a (Lv.b (Lv.b (Lv.b (Lv.a (Lv.a (Lv.b (Lv.a (Lv.a (Lv.b (Lv.a (Lv.b (Lv.b (Lv.b (Lv.b (Lv.b (A 63))))))))))))))))))).c (codeE P cal (codeF P cal m2) none 63 (cR (cR (cL (cL (cR (cR (cR (cL (cL (cR (cL (cL (cR (cL (cR (cR (cR (cR (cR code63))))))))))))))))))) (Lv.b (Lv.b (Lv.a (Lv.a (Lv.b (Lv.b (Lv.b (Lv.a (Lv.a (Lv.b (Lv.a (Lv.a (Lv.b (Lv.a (Lv.b (Lv.b (Lv.b (Lv.b (Lv.b (A 63)))))))))))))))))))) (K63_prrrrrlrllrllrrrl cal k m1 m2) (K63_pxrrrrrlrllrllrrr cal k m1) (doneK P results63)))
noncomputable def K63_pxrrrrrlrllrllrrrllrl (cal : Cal) (k : Nat) (m1 : Nat) (m2 : Nat) : XC (Value × Hp × Nat) := (upX 7 (K63_prrrrrlrllrllrrrllr cal k m1 m2) (K63_pxrrrrrlrllrllrrr cal k m1))
noncomputable def K63_prrrrrlrllrllrrrllrll (cal : Cal) (k : Nat) (m1 : Nat) (m2 : Nat) : KC (Value × Hp × Nat) := (cutK (Lv.a (Lv.a (Lv.b (Lv.a (Lv.a (Lv.b (Lv.b (Lv.b (Lv.a (Lv.a (Lv.b (Lv.a (Lv.a (Lv.b (Lv.a (Lv.b (Lv.b (Lv.b (Lv.b (Lv.b (A 63))))))))))))))))))))).c (codeE P cal (codeF P cal m2) none 63 (cR (cL (cL (cR (cL (cL (cR (cR (cR (cL (cL (cR (cL (cL (cR (cL (cR (cR (cR (cR (cR code63))))))))))))))))))))) (Lv.b (Lv.a (Lv.a (Lv.b (Lv.a (Lv.a (Lv.b (Lv.b (Lv.b (Lv.a (Lv.a (Lv.b (Lv.a (Lv.a (Lv.b (Lv.a (Lv.b (Lv.b (Lv.b (Lv.b (Lv.b (A 63)))))))))))))))))))))) (K63_prrrrrlrllrllrrrllr cal k m1 m2) (K63_pxrrrrrlrllrllrrrllrl cal k m1 m2) (doneK P results63)))
noncomputable def K63_prrrrrlrllrllrrrllrllr (cal : Cal) (k : Nat) (m1 : Nat) (m2 : Nat) : KC (Value × Hp × Nat) := (cutK (Lv.b (Lv.a (Lv.a (Lv.b (Lv.a (Lv.a (Lv.b (Lv.b (Lv.b (Lv.a (Lv.a (Lv.b (Lv.a (Lv.a (Lv.b (Lv.a (Lv.b (Lv.b (Lv.b (Lv.b (Lv.b (A 63)))))))))))))))))))))).c (codeE P cal (codeF P cal m2) none 63 (cR (cR (cL (cL (cR (cL (cL (cR (cR (cR (cL (cL (cR (cL (cL (cR (cL (cR (cR (cR (cR (cR code63)))))))))))))))))))))) (Lv.b (Lv.b (Lv.a (Lv.a (Lv.b (Lv.a (Lv.a (Lv.b (Lv.b (Lv.b (Lv.a (Lv.a (Lv.b (Lv.a (Lv.a (Lv.b (Lv.a (Lv.b (Lv.b (Lv.b (Lv.b (Lv.b (A 63))))))))))))))))))))))) (K63_prrrrrlrllrllrrrllr cal k m1 m2) (K63_pxrrrrrlrllrllrrrllrl cal k m1 m2) (doneK P results63)))
noncomputable def K63_prrrrrlrllrllrrrllrllrrl (cal : Cal) (k : Nat) (m1 : Nat) (m2 : Nat) : KC (Value × Hp × Nat) := (cutK (Lv.a (Lv.b (Lv.b (Lv.a (Lv.a (Lv.b (Lv.a (Lv.a (Lv.b (Lv.b (Lv.b (Lv.a (Lv.a (Lv.b (Lv.a (Lv.a (Lv.b (Lv.a (Lv.b (Lv.b (Lv.b (Lv.b (Lv.b (A 63)))))))))))))))))))))))).c (codeE P cal (codeF P cal m2) none 63 (cR (cL (cR (cR (cL (cL (cR (cL (cL (cR (cR (cR (cL (cL (cR (cL (cL (cR (cL (cR (cR (cR (cR (cR code63)))))))))))))))))))))))) (Lv.b (Lv.a (Lv.b (Lv.b (Lv.a (Lv.a (Lv.b (Lv.a (Lv.a (Lv.b (Lv.b (Lv.b (Lv.a (Lv.a (Lv.b (Lv.a (Lv.a (Lv.b (Lv.a (Lv.b (Lv.b (Lv.b (Lv.b (Lv.b (A 63))))))))))))))))))))))))) (K63_prrrrrlrllrllrrrllr cal k m1 m2) (K63_pxrrrrrlrllrllrrrllrl cal k m1 m2) (doneK P results63)))
noncomputable def K63_prrrrrr (cal : Cal) (k : Nat) : KC (Value × Hp × Nat) := (cutK (Lv.b (Lv.b (Lv.b (Lv.b (Lv.b (Lv.b (A 63))))))).c (codeE P cal (codeF P cal k) none 63 (cR (cR (cR (cR (cR (cR (cR code63))))))) (Lv.b (Lv.b (Lv.b (Lv.b (Lv.b (Lv.b (Lv.b (A 63)))))))) (doneK P results63) X0 (doneK P results63)))
noncomputable def E63_4 (cal : Cal) (k m1 m2 : Nat) : KC (Value × Hp × Nat) := codeE P cal (codeF P cal m2) none 63 (cL (cL (cR (cR (cR (cL (cL (cR (cL (cL (cR (cL (cR (cR (cR (cR (cR code63))))))))))))))))) (Lv.a (Lv.a (Lv.b (Lv.b (Lv.b (Lv.a (Lv.a (Lv.b (Lv.a (Lv.a (Lv.b (Lv.a (Lv.b (Lv.b (Lv.b (Lv.b (Lv.b (A 63)))))))))))))))))) (K63_prrrrrlrllrllrrrl cal k m1 m2) (K63_pxrrrrrlrllrllrrr cal k m1) (doneK P results63)
noncomputable def R63_4 (cal : Cal) (k m1 m2 : Nat) : Value → Value → Value → Value → Hp → Nat → Res := fun u1 u6 u7 u8 H n => codeF P cal m2 (Lv.a (Lv.b (Lv.b (Lv.b (Lv.a (Lv.a (Lv.b (Lv.a (Lv.a (Lv.b (Lv.a (Lv.b (Lv.b (Lv.b (Lv.b (Lv.b (A 63))))))))))))))))) none 63 (cL (cR (cR (cR (cL (cL (cR (cL (cL (cR (cL (cR (cR (cR (cR (cR code63)))))))))))))))) (K63_prrrrrlrllr cal k m1) (K63_pxrrrrrlrllrllrrr cal k m1) (doneK P results63) (Tr.set (Tr.set (Tr.set (Tr.set Tr.nil 8 (some u8)) 7 (some u7)) 6 (some u6)) 1 (some u1)) H n []
noncomputable def E63_3 (cal : Cal) (k m1 : Nat) : KC (Value × Hp × Nat) := codeE P cal (codeF P cal m1) none 63 (cL (cL (cR (cL (cR (cR (cR (cR (cR code63))))))))) (Lv.a (Lv.a (Lv.b (Lv.a (Lv.b (Lv.b (Lv.b (Lv.b (Lv.b (A 63)))))))))) (K63_prrrrrlrl cal k m1) (K63_pxrrrrrlr cal k) (doneK P results63)
noncomputable def R63_3 (cal : Cal) (k m1 : Nat) : Value → Value → Hp → Nat → Res := fun u1 u6 H n => codeF P cal m1 (Lv.a (Lv.b (Lv.a (Lv.b (Lv.b (Lv.b (Lv.b (Lv.b (A 63))))))))) none 63 (cL (cR (cL (cR (cR (cR (cR (cR code63)))))))) (K63_prrrrr cal k) (K63_pxrrrrrlr cal k) (doneK P results63) (Tr.set (Tr.set Tr.nil 6 (some u6)) 1 (some u1)) H n []
noncomputable def E63_2 (cal : Cal) (k m1 : Nat) : KC (Value × Hp × Nat) := codeE P cal (codeF P cal m1) none 63 (cL (cL (cR (cL (cR (cR (cR (cR code63)))))))) (Lv.a (Lv.a (Lv.b (Lv.a (Lv.b (Lv.b (Lv.b (Lv.b (A 63))))))))) (K63_prrrrlrl cal k m1) (K63_pxrrrrlr cal k) (doneK P results63)
noncomputable def R63_2 (cal : Cal) (k m1 : Nat) : Value → Value → Hp → Nat → Res := fun u1 u4 H n => codeF P cal m1 (Lv.a (Lv.b (Lv.a (Lv.b (Lv.b (Lv.b (Lv.b (A 63)))))))) none 63 (cL (cR (cL (cR (cR (cR (cR code63))))))) (K63_prrrr cal k) (K63_pxrrrrlr cal k) (doneK P results63) (Tr.set (Tr.set Tr.nil 4 (some u4)) 1 (some u1)) H n []
noncomputable def E63_1 (cal : Cal) (k m1 : Nat) : KC (Value × Hp × Nat) := codeE P cal (codeF P cal m1) none 63 (cL (cL (cR (cL (cR (cR (cR code63))))))) (Lv.a (Lv.a (Lv.b (Lv.a (Lv.b (Lv.b (Lv.b (A 63)))))))) (K63_prrrlrl cal k m1) (K63_pxrrrlr cal k) (doneK P results63)
noncomputable def R63_1 (cal : Cal) (k m1 : Nat) : Value → Value → Hp → Nat → Res := fun u1 u3 H n => codeF P cal m1 (Lv.a (Lv.b (Lv.a (Lv.b (Lv.b (Lv.b (A 63))))))) none 63 (cL (cR (cL (cR (cR (cR code63)))))) (K63_prrr cal k) (K63_pxrrrlr cal k) (doneK P results63) (Tr.set (Tr.set Tr.nil 3 (some u3)) 1 (some u1)) H n []
noncomputable def B63_4 (cal : Cal) (k m1 m2 : Nat) (b3 : Value → Value → Hp → Nat → Res) (b4 : Value → Value → Value → Value → Hp → Nat → Res) (u1 u6 u7 u8 : Value) (H : Hp) (n : Nat) : Res :=
binK P Go.BinOp.lss 3 (Go.Operand.tmp 130) (Go.Operand.tmp 131) u8 u6 fun v132_349 =>
ifK v132_349 (
bindO (fieldAddrV P 26 u1 1) fun v135_350 =>
bindO (addrV v135_350) fun a_352 => bindO (loadV P H 23 a_352) fun v136_351 =>
bindO (indexAddrV P 23 v136_351 u8) fun v138_354 =>
bindO (addrV v138_354) fun a_356 => bindO (loadV P H 104 a_356) fun v139_355 =>
allocK P 104 H n fun v9_357 H_358 n_359 =>
bindO (storeP P 104 v9_357 v139_355 H_358) fun H_361 =>
bindO (addrV v9_357) fun a_363 => bindO (loadV P H_361 104 a_363) fun v140_362 =>
bindO (addrV u7) fun a_365 => bindO (loadV P H_361 104 a_365) fun v141_364 =>
binK P Go.BinOp.eql 104 (Go.Operand.tmp 140) (Go.Operand.tmp 141) v140_362 v141_364 fun v142_366 =>
guardK v142_366 false (fun k_368 =>
bindO (fieldAddrV P 104 v9_357 0) fun v144_372 =>
k_368 v144_372 H_361 n_359) H_361 n_359 fun v_369 H_370 n_371 =>
guardK v142_366 false (fun k_373 =>
bindO (addrV v_369) fun a_378 => bindO (loadV P H_370 3 a_378) fun v145_377 =>
k_373 v145_377 H_370 n_371) H_370 n_371 fun v_374 H_375 n_376 =>
guardK v142_366 false (fun k_379 =>
bindO (fieldAddrV P 104 u7 1) fun v146_383 =>
k_379 v146_383 H_375 n_376) H_375 n_376 fun v_380 H_381 n_382 =>
guardK v142_366 false (fun k_384 =>
bindO (addrV v_380) fun a_389 => bindO (loadV P H_381 3 a_389) fun v147_388 =>
k_384 v147_388 H_381 n_382) H_381 n_382 fun v_385 H_386 n_387 =>
guardK v142_366 false (fun k_390 =>
binK P Go.BinOp.eql 3 (Go.Operand.tmp 145) (Go.Operand.tmp 147) v_374 v_385 fun v148_394 =>
k_390 v148_394 H_386 n_387) H_386 n_387 fun v_391 H_392 n_393 =>
guardK v142_366 false (fun k_395 =>
k_395 v_391 H_392 n_393) H_392 n_393 fun v_396 H_397 n_398 =>
guardK v_396 true (fun k_400 =>
bindO (fieldAddrV P 104 v9_357 1) fun v150_404 =>
k_400 v150_404 H_397 n_398) H_397 n_398 fun v_401 H_402 n_403 =>
guardK v_396 true (fun k_405 =>
bindO (addrV v_401) fun a_410 => bindO (loadV P H_402 3 a_410) fun v151_409 =>
k_405 v151_409 H_402 n_403) H_402 n_403 fun v_406 H_407 n_408 =>
guardK v_396 true (fun k_411 =>
bindO (fieldAddrV P 104 u7 0) fun v152_415 =>
k_411 v152_415 H_407 n_408) H_407 n_408 fun v_412 H_413 n_414 =>
guardK v_396 true (fun k_416 =>
bindO (addrV v_412) fun a_421 => bindO (loadV P H_413 3 a_421) fun v153_420 =>
k_416 v153_420 H_413 n_414) H_413 n_414 fun v_417 H_418 n_419 =>
guardK v_396 true (fun k_422 =>
binK P Go.BinOp.eql 3 (Go.Operand.tmp 151) (Go.Operand.tmp 153) v_406 v_417 fun v154_426 =>
k_422 v154_426 H_418 n_419) H_418 n_419 fun v_423 H_424 n_425 =>
guardK v142_366 false (fun k_427 =>
bindO (pickV v_396 v_423 (Go.Value.bool false)) fun v155_431 =>
k_427 v155_431 H_424 n_425) H_424 n_425 fun v_428 H_429 n_430 =>
bindO (pickV v142_366 (Go.Value.bool true) v_428) fun v156_432 =>
ifK v156_432 (
some ((Go.Value.int Go.IntKind.i64 1), H_429, n_430)) (
binK P Go.BinOp.add 3 (Go.Operand.tmp 133) (Go.Operand.const (Go.Value.int Go.IntKind.i64 1)) u8 (Go.Value.int Go.IntKind.i64 1) fun v134_435 =>
b4 u1 u6 u7 v134_435 H_429 n_430)) (
binK P Go.BinOp.add 3 (Go.Operand.tmp 98) (Go.Operand.const (Go.Value.int Go.IntKind.i64 1)) u6 (Go.Value.int Go.IntKind.i64 1) fun v99_438 =>
b3 u1 v99_438 H n)
noncomputable def C63_4 (cal : Cal) (k m1 m2 : Nat) (b3 : Value → Value → Hp → Nat → Res) (b4 : Value → Value → Value → Value → Hp → Nat → Res) (u1 u6 u7 u8 : Value) (H : Hp) (n : Nat) : Res := B63_4 cal k m1 m2 b3 b4 u1 u6 u7 u8 H n
noncomputable def S63_4 (cal : Cal) (k m1 : Nat) (b3 : Value → Value → Hp → Nat → Res) : Nat → Value → Value → Value → Value → Hp → Nat → Res := fun m => Nat.rec (motive := fun _ => Value → Value → Value → Value → Hp → Nat → Res) (C63_4 cal k m1 0 b3 (fun _ _ _ _ _ _ => none)) (fun m ih => C63_4 cal k m1 (m + 1) b3 ih) m
theorem h63_4 (cal : Cal) (k m1 m2 : Nat) (u1 u6 u7 u8 : Value) (H : Hp) (n : Nat) : labK (E63_4 cal k m1 m2) (Tr.set (Tr.set (Tr.set (Tr.set Tr.nil 8 (some u8)) 7 (some u7)) 6 (some u6)) 1 (some u1)) H n [] = C63_4 cal k m1 m2 (R63_3 cal k m1) (R63_4 cal k m1 m2) u1 u6 u7 u8 H n := by
  have h : labK (E63_4 cal k m1 m2) (Tr.set (Tr.set (Tr.set (Tr.set Tr.nil 8 (some u8)) 7 (some u7)) 6 (some u6)) 1 (some u1)) H n [] = B63_4 cal k m1 m2 (R63_3 cal k m1) (R63_4 cal k m1 m2) u1 u6 u7 u8 H n := by kernel_rfl
  rw [h, C63_4]
theorem q63_4 (cal : Cal) (k m1 : Nat) : ∀ (m : Nat) (u1 u6 u7 u8 : Value) (H : Hp) (n : Nat), labK (E63_4 cal k m1 m) (Tr.set (Tr.set (Tr.set (Tr.set Tr.nil 8 (some u8)) 7 (some u7)) 6 (some u6)) 1 (some u1)) H n [] = S63_4 cal k m1 (R63_3 cal k m1) m u1 u6 u7 u8 H n
  | 0, u1, u6, u7, u8, H, n => by
    rw [h63_4]
    have e : R63_4 cal k m1 0 = fun _ _ _ _ _ _ => none := by funext u1 u6 u7 u8 H n; kernel_rfl
    rw [e]; rfl
  | m + 1, u1, u6, u7, u8, H, n => by
    rw [h63_4]
    have e : R63_4 cal k m1 (m + 1) = S63_4 cal k m1 (R63_3 cal k m1) m := by
      funext u1 u6 u7 u8 H n
      have e : R63_4 cal k m1 (m + 1) u1 u6 u7 u8 H n = labK (E63_4 cal k m1 m) (Tr.set (Tr.set (Tr.set (Tr.set Tr.nil 8 (some u8)) 7 (some u7)) 6 (some u6)) 1 (some u1)) H n [] := by kernel_rfl
      rw [e]; exact q63_4 ..
    rw [e]; rfl
noncomputable def B63_3 (cal : Cal) (k m1 : Nat) (j4 : Value → Value → Value → Value → Hp → Nat → Res) (b3 : Value → Value → Hp → Nat → Res) (u1 u6 : Value) (H : Hp) (n : Nat) : Res :=
bindO (fieldAddrV P 26 u1 1) fun v94_241 =>
bindO (addrV v94_241) fun a_243 => bindO (loadV P H 23 a_243) fun v95_242 =>
bindO (lenV P 23 v95_242) fun v96_244 =>
binK P Go.BinOp.lss 3 (Go.Operand.tmp 93) (Go.Operand.tmp 96) u6 v96_244 fun v97_245 =>
ifK v97_245 (
bindO (fieldAddrV P 26 u1 1) fun v100_246 =>
bindO (addrV v100_246) fun a_248 => bindO (loadV P H 23 a_248) fun v101_247 =>
bindO (indexAddrV P 23 v101_247 u6) fun v103_250 =>
bindO (addrV v103_250) fun a_252 => bindO (loadV P H 104 a_252) fun v104_251 =>
allocK P 104 H n fun v7_253 H_254 n_255 =>
bindO (storeP P 104 v7_253 v104_251 H_254) fun H_257 =>
bindO (fieldAddrV P 104 v7_253 0) fun v105_258 =>
bindO (addrV v105_258) fun a_260 => bindO (loadV P H_257 3 a_260) fun v106_259 =>
bindO (fieldAddrV P 26 u1 0) fun v107_261 =>
bindO (addrV v107_261) fun a_263 => bindO (loadV P H_257 22 a_263) fun v108_262 =>
bindO (lenV P 22 v108_262) fun v109_264 =>
binK P Go.BinOp.sub 3 (Go.Operand.tmp 109) (Go.Operand.const (Go.Value.int Go.IntKind.i64 1)) v109_264 (Go.Value.int Go.IntKind.i64 1) fun v110_265 =>
callFK P cal 32 [v106_259, (Go.Value.int Go.IntKind.i64 0), v110_265] H_257 n_255 fun v111_266 H_267 n_268 =>
bindO (pureSem P v111_266 (Op.unary Go.UnOp.not v111_266)) fun v112_269 =>
guardK v112_269 false (fun k_271 =>
bindO (fieldAddrV P 104 v7_253 1) fun v114_275 =>
k_271 v114_275 H_267 n_268) H_267 n_268 fun v_272 H_273 n_274 =>
guardK v112_269 false (fun k_276 =>
bindO (addrV v_272) fun a_281 => bindO (loadV P H_273 3 a_281) fun v115_280 =>
k_276 v115_280 H_273 n_274) H_273 n_274 fun v_277 H_278 n_279 =>
guardK v112_269 false (fun k_282 =>
bindO (fieldAddrV P 26 u1 0) fun v116_286 =>
k_282 v116_286 H_278 n_279) H_278 n_279 fun v_283 H_284 n_285 =>
guardK v112_269 false (fun k_287 =>
bindO (addrV v_283) fun a_292 => bindO (loadV P H_284 22 a_292) fun v117_291 =>
k_287 v117_291 H_284 n_285) H_284 n_285 fun v_288 H_289 n_290 =>
guardK v112_269 false (fun k_293 =>
bindO (lenV P 22 v_288) fun v118_297 =>
k_293 v118_297 H_289 n_290) H_289 n_290 fun v_294 H_295 n_296 =>
guardK v112_269 false (fun k_298 =>
binK P Go.BinOp.sub 3 (Go.Operand.tmp 118) (Go.Operand.const (Go.Value.int Go.IntKind.i64 1)) v_294 (Go.Value.int Go.IntKind.i64 1) fun v119_302 =>
k_298 v119_302 H_295 n_296) H_295 n_296 fun v_299 H_300 n_301 =>
guardK v112_269 false (fun k_303 =>
callFK P cal 32 [v_277, (Go.Value.int Go.IntKind.i64 0), v_299] H_300 n_301 fun v120_307 H_308 n_309 =>
k_303 v120_307 H_308 n_309) H_300 n_301 fun v_304 H_305 n_306 =>
guardK v112_269 false (fun k_310 =>
bindO (pureSem P v_304 (Op.unary Go.UnOp.not v_304)) fun v121_314 =>
k_310 v121_314 H_305 n_306) H_305 n_306 fun v_311 H_312 n_313 =>
bindO (pickV v112_269 (Go.Value.bool true) v_311) fun v122_315 =>
guardK v122_315 false (fun k_317 =>
bindO (fieldAddrV P 104 v7_253 0) fun v124_321 =>
k_317 v124_321 H_312 n_313) H_312 n_313 fun v_318 H_319 n_320 =>
guardK v122_315 false (fun k_322 =>
bindO (addrV v_318) fun a_327 => bindO (loadV P H_319 3 a_327) fun v125_326 =>
k_322 v125_326 H_319 n_320) H_319 n_320 fun v_323 H_324 n_325 =>
guardK v122_315 false (fun k_328 =>
bindO (fieldAddrV P 104 v7_253 1) fun v126_332 =>
k_328 v126_332 H_324 n_325) H_324 n_325 fun v_329 H_330 n_331 =>
guardK v122_315 false (fun k_333 =>
bindO (addrV v_329) fun a_338 => bindO (loadV P H_330 3 a_338) fun v127_337 =>
k_333 v127_337 H_330 n_331) H_330 n_331 fun v_334 H_335 n_336 =>
guardK v122_315 false (fun k_339 =>
binK P Go.BinOp.eql 3 (Go.Operand.tmp 125) (Go.Operand.tmp 127) v_323 v_334 fun v128_343 =>
k_339 v128_343 H_335 n_336) H_335 n_336 fun v_340 H_341 n_342 =>
bindO (pickV v122_315 (Go.Value.bool true) v_340) fun v129_344 =>
ifK v129_344 (
some ((Go.Value.int Go.IntKind.i64 1), H_341, n_342)) (
j4 u1 u6 v7_253 (Go.Value.int Go.IntKind.i64 0) H_341 n_342)) (
some ((Go.Value.int Go.IntKind.i64 0), H, n))
noncomputable def C63_3 (cal : Cal) (k m1 : Nat) (b3 : Value → Value → Hp → Nat → Res) (u1 u6 : Value) (H : Hp) (n : Nat) : Res := B63_3 cal k m1 (S63_4 cal k m1 b3 m1) b3 u1 u6 H n
noncomputable def S63_3 (cal : Cal) (k : Nat) : Nat → Value → Value → Hp → Nat → Res := fun m => Nat.rec (motive := fun _ => Value → Value → Hp → Nat → Res) (C63_3 cal k 0 (fun _ _ _ _ => none)) (fun m ih => C63_3 cal k (m + 1) ih) m
theorem h63_3 (cal : Cal) (k m1 : Nat) (u1 u6 : Value) (H : Hp) (n : Nat) : labK (E63_3 cal k m1) (Tr.set (Tr.set Tr.nil 6 (some u6)) 1 (some u1)) H n [] = C63_3 cal k m1 (R63_3 cal k m1) u1 u6 H n := by
  have h : labK (E63_3 cal k m1) (Tr.set (Tr.set Tr.nil 6 (some u6)) 1 (some u1)) H n [] = B63_3 cal k m1 (fun u1 u6 u7 u8 H n => labK (E63_4 cal k m1 m1) (Tr.set (Tr.set (Tr.set (Tr.set Tr.nil 8 (some u8)) 7 (some u7)) 6 (some u6)) 1 (some u1)) H n []) (R63_3 cal k m1) u1 u6 H n := by kernel_rfl
  rw [h, C63_3]
  have e4 : (fun u1 u6 u7 u8 H n => labK (E63_4 cal k m1 m1) (Tr.set (Tr.set (Tr.set (Tr.set Tr.nil 8 (some u8)) 7 (some u7)) 6 (some u6)) 1 (some u1)) H n []) = (S63_4 cal k m1 (R63_3 cal k m1) m1) := by funext u1 u6 u7 u8 H n; exact q63_4 ..
  rw [e4]
theorem q63_3 (cal : Cal) (k : Nat) : ∀ (m : Nat) (u1 u6 : Value) (H : Hp) (n : Nat), labK (E63_3 cal k m) (Tr.set (Tr.set Tr.nil 6 (some u6)) 1 (some u1)) H n [] = S63_3 cal k m u1 u6 H n
  | 0, u1, u6, H, n => by
    rw [h63_3]
    have e : R63_3 cal k 0 = fun _ _ _ _ => none := by funext u1 u6 H n; kernel_rfl
    rw [e]; rfl
  | m + 1, u1, u6, H, n => by
    rw [h63_3]
    have e : R63_3 cal k (m + 1) = S63_3 cal k m := by
      funext u1 u6 H n
      have e : R63_3 cal k (m + 1) u1 u6 H n = labK (E63_3 cal k m) (Tr.set (Tr.set Tr.nil 6 (some u6)) 1 (some u1)) H n [] := by kernel_rfl
      rw [e]; exact q63_3 ..
    rw [e]; rfl
noncomputable def B63_2 (cal : Cal) (k m1 : Nat) (j3 : Value → Value → Hp → Nat → Res) (b2 : Value → Value → Hp → Nat → Res) (u1 u4 : Value) (H : Hp) (n : Nat) : Res :=
bindO (fieldAddrV P 26 u1 2) fun v58_119 =>
bindO (addrV v58_119) fun a_121 => bindO (loadV P H 24 a_121) fun v59_120 =>
bindO (lenV P 24 v59_120) fun v60_122 =>
binK P Go.BinOp.lss 3 (Go.Operand.tmp 57) (Go.Operand.tmp 60) u4 v60_122 fun v61_123 =>
ifK v61_123 (
bindO (fieldAddrV P 26 u1 2) fun v64_124 =>
bindO (addrV v64_124) fun a_126 => bindO (loadV P H 24 a_126) fun v65_125 =>
bindO (indexAddrV P 24 v65_125 u4) fun v67_128 =>
bindO (addrV v67_128) fun a_130 => bindO (loadV P H 94 a_130) fun v68_129 =>
allocK P 94 H n fun v5_131 H_132 n_133 =>
bindO (storeP P 94 v5_131 v68_129 H_132) fun H_135 =>
bindO (fieldAddrV P 94 v5_131 0) fun v69_136 =>
bindO (addrV v69_136) fun a_138 => bindO (loadV P H_135 3 a_138) fun v70_137 =>
callFK P cal 32 [v70_137, (Go.Value.int Go.IntKind.i64 0), (Go.Value.int Go.IntKind.i64 1000)] H_135 n_133 fun v71_139 H_140 n_141 =>
bindO (pureSem P v71_139 (Op.unary Go.UnOp.not v71_139)) fun v72_142 =>
guardK v72_142 false (fun k_144 =>
bindO (fieldAddrV P 94 v5_131 1) fun v74_148 =>
k_144 v74_148 H_140 n_141) H_140 n_141 fun v_145 H_146 n_147 =>
guardK v72_142 false (fun k_149 =>
bindO (fieldAddrV P 55 v_145 0) fun v75_153 =>
k_149 v75_153 H_146 n_147) H_146 n_147 fun v_150 H_151 n_152 =>
guardK v72_142 false (fun k_154 =>
bindO (addrV v_150) fun a_159 => bindO (loadV P H_151 3 a_159) fun v76_158 =>
k_154 v76_158 H_151 n_152) H_151 n_152 fun v_155 H_156 n_157 =>
guardK v72_142 false (fun k_160 =>
bindO (fieldAddrV P 94 v5_131 1) fun v77_164 =>
k_160 v77_164 H_156 n_157) H_156 n_157 fun v_161 H_162 n_163 =>
guardK v72_142 false (fun k_165 =>
bindO (fieldAddrV P 55 v_161 1) fun v78_169 =>
k_165 v78_169 H_162 n_163) H_162 n_163 fun v_166 H_167 n_168 =>
guardK v72_142 false (fun k_170 =>
bindO (addrV v_166) fun a_175 => bindO (loadV P H_167 3 a_175) fun v79_174 =>
k_170 v79_174 H_167 n_168) H_167 n_168 fun v_171 H_172 n_173 =>
guardK v72_142 false (fun k_176 =>
callFK P cal 100 [v_155, v_171] H_172 n_173 fun v80_180 H_181 n_182 =>
k_176 v80_180 H_181 n_182) H_172 n_173 fun v_177 H_178 n_179 =>
guardK v72_142 false (fun k_183 =>
bindO (pureSem P v_177 (Op.unary Go.UnOp.not v_177)) fun v81_187 =>
k_183 v81_187 H_178 n_179) H_178 n_179 fun v_184 H_185 n_186 =>
bindO (pickV v72_142 (Go.Value.bool true) v_184) fun v82_188 =>
guardK v82_188 false (fun k_190 =>
bindO (fieldAddrV P 94 v5_131 2) fun v84_194 =>
k_190 v84_194 H_185 n_186) H_185 n_186 fun v_191 H_192 n_193 =>
guardK v82_188 false (fun k_195 =>
bindO (fieldAddrV P 55 v_191 0) fun v85_199 =>
k_195 v85_199 H_192 n_193) H_192 n_193 fun v_196 H_197 n_198 =>
guardK v82_188 false (fun k_200 =>
bindO (addrV v_196) fun a_205 => bindO (loadV P H_197 3 a_205) fun v86_204 =>
k_200 v86_204 H_197 n_198) H_197 n_198 fun v_201 H_202 n_203 =>
guardK v82_188 false (fun k_206 =>
bindO (fieldAddrV P 94 v5_131 2) fun v87_210 =>
k_206 v87_210 H_202 n_203) H_202 n_203 fun v_207 H_208 n_209 =>
guardK v82_188 false (fun k_211 =>
bindO (fieldAddrV P 55 v_207 1) fun v88_215 =>
k_211 v88_215 H_208 n_209) H_208 n_209 fun v_212 H_213 n_214 =>
guardK v82_188 false (fun k_216 =>
bindO (addrV v_212) fun a_221 => bindO (loadV P H_213 3 a_221) fun v89_220 =>
k_216 v89_220 H_213 n_214) H_213 n_214 fun v_217 H_218 n_219 =>
guardK v82_188 false (fun k_222 =>
callFK P cal 100 [v_201, v_217] H_218 n_219 fun v90_226 H_227 n_228 =>
k_222 v90_226 H_227 n_228) H_218 n_219 fun v_223 H_224 n_225 =>
guardK v82_188 false (fun k_229 =>
bindO (pureSem P v_223 (Op.unary Go.UnOp.not v_223)) fun v91_233 =>
k_229 v91_233 H_224 n_225) H_224 n_225 fun v_230 H_231 n_232 =>
bindO (pickV v82_188 (Go.Value.bool true) v_230) fun v92_234 =>
ifK v92_234 (
some ((Go.Value.int Go.IntKind.i64 1), H_231, n_232)) (
binK P Go.BinOp.add 3 (Go.Operand.tmp 62) (Go.Operand.const (Go.Value.int Go.IntKind.i64 1)) u4 (Go.Value.int Go.IntKind.i64 1) fun v63_237 =>
b2 u1 v63_237 H_231 n_232)) (
j3 u1 (Go.Value.int Go.IntKind.i64 0) H n)
noncomputable def C63_2 (cal : Cal) (k m1 : Nat) (b2 : Value → Value → Hp → Nat → Res) (u1 u4 : Value) (H : Hp) (n : Nat) : Res := B63_2 cal k m1 (S63_3 cal k k) b2 u1 u4 H n
noncomputable def S63_2 (cal : Cal) (k : Nat) : Nat → Value → Value → Hp → Nat → Res := fun m => Nat.rec (motive := fun _ => Value → Value → Hp → Nat → Res) (C63_2 cal k 0 (fun _ _ _ _ => none)) (fun m ih => C63_2 cal k (m + 1) ih) m
theorem h63_2 (cal : Cal) (k m1 : Nat) (u1 u4 : Value) (H : Hp) (n : Nat) : labK (E63_2 cal k m1) (Tr.set (Tr.set Tr.nil 4 (some u4)) 1 (some u1)) H n [] = C63_2 cal k m1 (R63_2 cal k m1) u1 u4 H n := by
  have h : labK (E63_2 cal k m1) (Tr.set (Tr.set Tr.nil 4 (some u4)) 1 (some u1)) H n [] = B63_2 cal k m1 (fun u1 u6 H n => labK (E63_3 cal k k) (Tr.set (Tr.set Tr.nil 6 (some u6)) 1 (some u1)) H n []) (R63_2 cal k m1) u1 u4 H n := by kernel_rfl
  rw [h, C63_2]
  have e3 : (fun u1 u6 H n => labK (E63_3 cal k k) (Tr.set (Tr.set Tr.nil 6 (some u6)) 1 (some u1)) H n []) = (S63_3 cal k k) := by funext u1 u6 H n; exact q63_3 ..
  rw [e3]
theorem q63_2 (cal : Cal) (k : Nat) : ∀ (m : Nat) (u1 u4 : Value) (H : Hp) (n : Nat), labK (E63_2 cal k m) (Tr.set (Tr.set Tr.nil 4 (some u4)) 1 (some u1)) H n [] = S63_2 cal k m u1 u4 H n
  | 0, u1, u4, H, n => by
    rw [h63_2]
    have e : R63_2 cal k 0 = fun _ _ _ _ => none := by funext u1 u4 H n; kernel_rfl
    rw [e]; rfl
  | m + 1, u1, u4, H, n => by
    rw [h63_2]
    have e : R63_2 cal k (m + 1) = S63_2 cal k m := by
      funext u1 u4 H n
      have e : R63_2 cal k (m + 1) u1 u4 H n = labK (E63_2 cal k m) (Tr.set (Tr.set Tr.nil 4 (some u4)) 1 (some u1)) H n [] := by kernel_rfl
      rw [e]; exact q63_2 ..
    rw [e]; rfl
noncomputable def B63_1 (cal : Cal) (k m1 : Nat) (j2 : Value → Value → Hp → Nat → Res) (b1 : Value → Value → Hp → Nat → Res) (u1 u3 : Value) (H : Hp) (n : Nat) : Res :=
bindO (fieldAddrV P 26 u1 0) fun v37_88 =>
bindO (addrV v37_88) fun a_90 => bindO (loadV P H 22 a_90) fun v38_89 =>
bindO (lenV P 22 v38_89) fun v39_91 =>
binK P Go.BinOp.lss 3 (Go.Operand.tmp 36) (Go.Operand.tmp 39) u3 v39_91 fun v40_92 =>
ifK v40_92 (
bindO (fieldAddrV P 26 u1 0) fun v43_93 =>
bindO (addrV v43_93) fun a_94 => bindO (loadV P H 22 a_94) fun v_95 =>
bindO (indexAddrV P 22 v_95 u3) fun v46_97 =>
bindO (fieldAddrV P 95 v46_97 0) fun v47_98 =>
bindO (addrV v47_98) fun a_99 => bindO (loadV P H 3 a_99) fun v_100 =>
bindO (fieldAddrV P 26 u1 0) fun v49_101 =>
bindO (addrV v49_101) fun a_102 => bindO (loadV P H 22 a_102) fun v_103 =>
bindO (indexAddrV P 22 v_103 u3) fun v52_105 =>
bindO (fieldAddrV P 95 v52_105 1) fun v53_106 =>
bindO (addrV v53_106) fun a_107 => bindO (loadV P H 3 a_107) fun v_108 =>
callFK P cal 100 [v_100, v_108] H n fun v55_109 H_110 n_111 =>
bindO (pureSem P v55_109 (Op.unary Go.UnOp.not v55_109)) fun v56_112 =>
ifK v56_112 (
some ((Go.Value.int Go.IntKind.i64 1), H_110, n_111)) (
binK P Go.BinOp.add 3 (Go.Operand.tmp 41) (Go.Operand.const (Go.Value.int Go.IntKind.i64 1)) u3 (Go.Value.int Go.IntKind.i64 1) fun v42_115 =>
b1 u1 v42_115 H_110 n_111)) (
j2 u1 (Go.Value.int Go.IntKind.i64 0) H n)
noncomputable def C63_1 (cal : Cal) (k m1 : Nat) (b1 : Value → Value → Hp → Nat → Res) (u1 u3 : Value) (H : Hp) (n : Nat) : Res := B63_1 cal k m1 (S63_2 cal k k) b1 u1 u3 H n
noncomputable def S63_1 (cal : Cal) (k : Nat) : Nat → Value → Value → Hp → Nat → Res := fun m => Nat.rec (motive := fun _ => Value → Value → Hp → Nat → Res) (C63_1 cal k 0 (fun _ _ _ _ => none)) (fun m ih => C63_1 cal k (m + 1) ih) m
theorem h63_1 (cal : Cal) (k m1 : Nat) (u1 u3 : Value) (H : Hp) (n : Nat) : labK (E63_1 cal k m1) (Tr.set (Tr.set Tr.nil 3 (some u3)) 1 (some u1)) H n [] = C63_1 cal k m1 (R63_1 cal k m1) u1 u3 H n := by
  have h : labK (E63_1 cal k m1) (Tr.set (Tr.set Tr.nil 3 (some u3)) 1 (some u1)) H n [] = B63_1 cal k m1 (fun u1 u4 H n => labK (E63_2 cal k k) (Tr.set (Tr.set Tr.nil 4 (some u4)) 1 (some u1)) H n []) (R63_1 cal k m1) u1 u3 H n := by kernel_rfl
  rw [h, C63_1]
  have e2 : (fun u1 u4 H n => labK (E63_2 cal k k) (Tr.set (Tr.set Tr.nil 4 (some u4)) 1 (some u1)) H n []) = (S63_2 cal k k) := by funext u1 u4 H n; exact q63_2 ..
  rw [e2]
theorem q63_1 (cal : Cal) (k : Nat) : ∀ (m : Nat) (u1 u3 : Value) (H : Hp) (n : Nat), labK (E63_1 cal k m) (Tr.set (Tr.set Tr.nil 3 (some u3)) 1 (some u1)) H n [] = S63_1 cal k m u1 u3 H n
  | 0, u1, u3, H, n => by
    rw [h63_1]
    have e : R63_1 cal k 0 = fun _ _ _ _ => none := by funext u1 u3 H n; kernel_rfl
    rw [e]; rfl
  | m + 1, u1, u3, H, n => by
    rw [h63_1]
    have e : R63_1 cal k (m + 1) = S63_1 cal k m := by
      funext u1 u3 H n
      have e : R63_1 cal k (m + 1) u1 u3 H n = labK (E63_1 cal k m) (Tr.set (Tr.set Tr.nil 3 (some u3)) 1 (some u1)) H n [] := by kernel_rfl
      rw [e]; exact q63_1 ..
    rw [e]; rfl
noncomputable def B63_0 (cal : Cal) (k : Nat) (j1 : Value → Value → Hp → Nat → Res) (v0 : Value) (H : Hp) (n : Nat) : Res :=
boxK 26 v0 H n fun v1_1 H_2 n_3 =>
bindO (fieldAddrV P 26 v1_1 0) fun v10_5 =>
bindO (addrV v10_5) fun a_7 => bindO (loadV P H_2 22 a_7) fun v11_6 =>
bindO (lenV P 22 v11_6) fun v12_8 =>
binK P Go.BinOp.gtr 3 (Go.Operand.tmp 12) (Go.Operand.const (Go.Value.int Go.IntKind.i64 8)) v12_8 (Go.Value.int Go.IntKind.i64 8) fun v13_9 =>
guardK v13_9 false (fun k_11 =>
bindO (fieldAddrV P 26 v1_1 1) fun v15_15 =>
k_11 v15_15 H_2 n_3) H_2 n_3 fun v_12 H_13 n_14 =>
guardK v13_9 false (fun k_16 =>
bindO (addrV v_12) fun a_21 => bindO (loadV P H_13 23 a_21) fun v16_20 =>
k_16 v16_20 H_13 n_14) H_13 n_14 fun v_17 H_18 n_19 =>
guardK v13_9 false (fun k_22 =>
bindO (lenV P 23 v_17) fun v17_26 =>
k_22 v17_26 H_18 n_19) H_18 n_19 fun v_23 H_24 n_25 =>
guardK v13_9 false (fun k_27 =>
binK P Go.BinOp.gtr 3 (Go.Operand.tmp 17) (Go.Operand.const (Go.Value.int Go.IntKind.i64 16)) v_23 (Go.Value.int Go.IntKind.i64 16) fun v18_31 =>
k_27 v18_31 H_24 n_25) H_24 n_25 fun v_28 H_29 n_30 =>
bindO (pickV v13_9 (Go.Value.bool true) v_28) fun v19_32 =>
guardK v19_32 false (fun k_34 =>
bindO (fieldAddrV P 26 v1_1 2) fun v21_38 =>
k_34 v21_38 H_29 n_30) H_29 n_30 fun v_35 H_36 n_37 =>
guardK v19_32 false (fun k_39 =>
bindO (addrV v_35) fun a_44 => bindO (loadV P H_36 24 a_44) fun v22_43 =>
k_39 v22_43 H_36 n_37) H_36 n_37 fun v_40 H_41 n_42 =>
guardK v19_32 false (fun k_45 =>
bindO (lenV P 24 v_40) fun v23_49 =>
k_45 v23_49 H_41 n_42) H_41 n_42 fun v_46 H_47 n_48 =>
guardK v19_32 false (fun k_50 =>
binK P Go.BinOp.gtr 3 (Go.Operand.tmp 23) (Go.Operand.const (Go.Value.int Go.IntKind.i64 3)) v_46 (Go.Value.int Go.IntKind.i64 3) fun v24_54 =>
k_50 v24_54 H_47 n_48) H_47 n_48 fun v_51 H_52 n_53 =>
bindO (pickV v19_32 (Go.Value.bool true) v_51) fun v25_55 =>
ifK v25_55 (
some ((Go.Value.int Go.IntKind.i64 3), H_52, n_53)) (
bindO (fieldAddrV P 26 v1_1 0) fun v26_57 =>
bindO (addrV v26_57) fun a_59 => bindO (loadV P H_52 22 a_59) fun v27_58 =>
bindO (lenV P 22 v27_58) fun v28_60 =>
binK P Go.BinOp.eql 3 (Go.Operand.tmp 28) (Go.Operand.const (Go.Value.int Go.IntKind.i64 0)) v28_60 (Go.Value.int Go.IntKind.i64 0) fun v29_61 =>
guardK v29_61 false (fun k_63 =>
bindO (fieldAddrV P 26 v1_1 2) fun v31_67 =>
k_63 v31_67 H_52 n_53) H_52 n_53 fun v_64 H_65 n_66 =>
guardK v29_61 false (fun k_68 =>
bindO (addrV v_64) fun a_73 => bindO (loadV P H_65 24 a_73) fun v32_72 =>
k_68 v32_72 H_65 n_66) H_65 n_66 fun v_69 H_70 n_71 =>
guardK v29_61 false (fun k_74 =>
bindO (lenV P 24 v_69) fun v33_78 =>
k_74 v33_78 H_70 n_71) H_70 n_71 fun v_75 H_76 n_77 =>
guardK v29_61 false (fun k_79 =>
binK P Go.BinOp.eql 3 (Go.Operand.tmp 33) (Go.Operand.const (Go.Value.int Go.IntKind.i64 0)) v_75 (Go.Value.int Go.IntKind.i64 0) fun v34_83 =>
k_79 v34_83 H_76 n_77) H_76 n_77 fun v_80 H_81 n_82 =>
bindO (pickV v29_61 (Go.Value.bool true) v_80) fun v35_84 =>
ifK v35_84 (
some ((Go.Value.int Go.IntKind.i64 1), H_81, n_82)) (
j1 v1_1 (Go.Value.int Go.IntKind.i64 0) H_81 n_82))
noncomputable def C63_0 (cal : Cal) (k : Nat) (v0 : Value) (H : Hp) (n : Nat) : Res := B63_0 cal k (S63_1 cal k k) v0 H n
theorem h63_0 (cal : Cal) (k : Nat) (v0 : Value) (H : Hp) (n : Nat) : bodyE P cal A (k + 1) 63 [v0] H n = C63_0 cal k v0 H n := by
  have h : bodyE P cal A (k + 1) 63 [v0] H n = B63_0 cal k (fun u1 u3 H n => labK (E63_1 cal k k) (Tr.set (Tr.set Tr.nil 3 (some u3)) 1 (some u1)) H n []) v0 H n := by
    rw [body_eq (fn := Go.Proofs.Try.f63) (c := code63) (rs := results63) (by kernel_rfl) (by kernel_rfl) (by kernel_rfl) (by kernel_rfl)]
    kernel_rfl
  rw [h, C63_0]
  have e1 : (fun u1 u3 H n => labK (E63_1 cal k k) (Tr.set (Tr.set Tr.nil 3 (some u3)) 1 (some u1)) H n []) = (S63_1 cal k k) := by funext u1 u3 H n; exact q63_1 ..
  rw [e1]
noncomputable def code64 : Code := codeOf 64
noncomputable def results64 : List ResultVar := resOf 64
noncomputable def K64_p (cal : Cal) (k : Nat) : KC (Value × Hp × Nat) := (cutK (A 64).c (codeE P cal (codeF P cal k) none 64 (cR code64) (Lv.b (A 64)) (doneK P results64) X0 (doneK P results64)))
noncomputable def K64_pr (cal : Cal) (k : Nat) : KC (Value × Hp × Nat) := (cutK (Lv.b (A 64)).c (codeE P cal (codeF P cal k) none 64 (cR (cR code64)) (Lv.b (Lv.b (A 64))) (doneK P results64) X0 (doneK P results64)))
noncomputable def K64_prr (cal : Cal) (k : Nat) : KC (Value × Hp × Nat) := (cutK (Lv.b (Lv.b (A 64))).c (codeE P cal (codeF P cal k) none 64 (cR (cR (cR code64))) (Lv.b (Lv.b (Lv.b (A 64)))) (doneK P results64) X0 (doneK P results64)))
noncomputable def K64_prrl (cal : Cal) (k : Nat) : KC (Value × Hp × Nat) := (cutK (Lv.a (Lv.b (Lv.b (A 64)))).c (codeE P cal (codeF P cal k) none 64 (cR (cL (cR (cR code64)))) (Lv.b (Lv.a (Lv.b (Lv.b (A 64))))) (K64_prr cal k) X0 (doneK P results64)))
noncomputable def K64_pxrrlr (cal : Cal) (k : Nat) : XC (Value × Hp × Nat) := (upX 0 (K64_prr cal k) X0)
noncomputable def K64_prrlrl (cal : Cal) (k : Nat) (m1 : Nat) : KC (Value × Hp × Nat) := (fun T H n D => codeF P cal m1 (Lv.a (Lv.b (Lv.a (Lv.b (Lv.b (A 64)))))) none 64 (cL (cR (cL (cR (cR code64))))) (K64_prr cal k) (K64_pxrrlr cal k) (doneK P results64) (cutT (Lv.a (Lv.b (Lv.a (Lv.b (Lv.b (A 64)))))).c T) H n D)
noncomputable def K64_prrlrll (cal : Cal) (k : Nat) (m1 : Nat) : KC (Value × Hp × Nat) := (cutK (Lv.a (Lv.a (Lv.b (Lv.a (Lv.b (Lv.b (A 64))))))).c (codeE P cal (codeF P cal m1) none 64 (cR (cL (cL (cR (cL (cR (cR code64))))))) (Lv.b (Lv.a (Lv.a (Lv.b (Lv.a (Lv.b (Lv.b (A 64)))))))) (K64_prrlrl cal k m1) (K64_pxrrlr cal k) (doneK P results64)))
noncomputable def K64_prrlrlll (cal : Cal) (k : Nat) (m1 : Nat) : KC (Value × Hp × Nat) := (cutK (Lv.a (Lv.a (Lv.a (Lv.b (Lv.a (Lv.b (Lv.b (A 64)))))))).c (codeE P cal (codeF P cal m1) none 64 (cR (cL (cL (cL (cR (cL (cR (cR code64)))))))) (Lv.b (Lv.a (Lv.a (Lv.a (Lv.b (Lv.a (Lv.b (Lv.b (A 64))))))))) (K64_prrlrll cal k m1) (K64_pxrrlr cal k) (doneK P results64)))
noncomputable def K64_prrlrllr (cal : Cal) (k : Nat) (m1 : Nat) : KC (Value × Hp × Nat) := (cutK (Lv.b (Lv.a (Lv.a (Lv.b (Lv.a (Lv.b (Lv.b (A 64)))))))).c (codeE P cal (codeF P cal m1) none 64 (cR (cR (cL (cL (cR (cL (cR (cR code64)))))))) (Lv.b (Lv.b (Lv.a (Lv.a (Lv.b (Lv.a (Lv.b (Lv.b (A 64))))))))) (K64_prrlrl cal k m1) (K64_pxrrlr cal k) (doneK P results64)))
noncomputable def K64_pxrrlrllrl (cal : Cal) (k : Nat) (m1 : Nat) : XC (Value × Hp × Nat) := (upX 1 (K64_prrlrllr cal k m1) (K64_pxrrlr cal k))
noncomputable def K64_prrlrllrll (cal : Cal) (k : Nat) (m1 : Nat) : KC (Value × Hp × Nat) := (cutK (Lv.a (Lv.a (Lv.b (Lv.a (Lv.a (Lv.b (Lv.a (Lv.b (Lv.b (A 64)))))))))).c (codeE P cal (codeF P cal m1) none 64 (cR (cL (cL (cR (cL (cL (cR (cL (cR (cR code64)))))))))) (Lv.b (Lv.a (Lv.a (Lv.b (Lv.a (Lv.a (Lv.b (Lv.a (Lv.b (Lv.b (A 64))))))))))) (K64_prrlrllr cal k m1) (K64_pxrrlrllrl cal k m1) (doneK P results64)))
noncomputable def K64_prrlrllrllr (cal : Cal) (k : Nat) (m1 : Nat) : KC (Value × Hp × Nat) := (cutK (Lv.b (Lv.a (Lv.a (Lv.b (Lv.a (Lv.a (Lv.b (Lv.a (Lv.b (Lv.b (A 64))))))))))).c (codeE P cal (codeF P cal m1) none 64 (cR (cR (cL (cL (cR (cL (cL (cR (cL (cR (cR code64))))))))))) (Lv.b (Lv.b (Lv.a (Lv.a (Lv.b (Lv.a (Lv.a (Lv.b (Lv.a (Lv.b (Lv.b (A 64)))))))))))) (K64_prrlrllr cal k m1) (K64_pxrrlrllrl cal k m1) (doneK P results64)))
noncomputable def K64_prrr (cal : Cal) (k : Nat) : KC (Value × Hp × Nat) := (cutK (Lv.b (Lv.b (Lv.b (A 64)))).c (codeE P cal (codeF P cal k) none 64 (cR (cR (cR (cR code64)))) (Lv.b (Lv.b (Lv.b (Lv.b (A 64))))) (doneK P results64) X0 (doneK P results64)))
noncomputable def K64_prrrr (cal : Cal) (k : Nat) : KC (Value × Hp × Nat) := (cutK (Lv.b (Lv.b (Lv.b (Lv.b (A 64))))).c (codeE P cal (codeF P cal k) none 64 (cR (cR (cR (cR (cR code64))))) (Lv.b (Lv.b (Lv.b (Lv.b (Lv.b (A 64)))))) (doneK P results64) X0 (doneK P results64)))
noncomputable def E64_2 (cal : Cal) (k m1 : Nat) : KC (Value × Hp × Nat) := codeE P cal (codeF P cal m1) none 64 (cR (cR (cL (cL (cR (cL (cR (cR code64)))))))) (Lv.b (Lv.b (Lv.a (Lv.a (Lv.b (Lv.a (Lv.b (Lv.b (A 64))))))))) (K64_prrlrl cal k m1) (K64_pxrrlr cal k) (doneK P results64)
noncomputable def E64_1 (cal : Cal) (k m1 : Nat) : KC (Value × Hp × Nat) := codeE P cal (codeF P cal m1) none 64 (cL (cL (cR (cL (cR (cR code64)))))) (Lv.a (Lv.a (Lv.b (Lv.a (Lv.b (Lv.b (A 64))))))) (K64_prrlrl cal k m1) (K64_pxrrlr cal k) (doneK P results64)
noncomputable def R64_1 (cal : Cal) (k m1 : Nat) : Value → Value → Value → Value → Value → Value → Value → Value → Hp → Nat → Res := fun u1 u2 u3 u4 u5 u11 u12 u13 H n => codeF P cal m1 (Lv.a (Lv.b (Lv.a (Lv.b (Lv.b (A 64)))))) none 64 (cL (cR (cL (cR (cR code64))))) (K64_prr cal k) (K64_pxrrlr cal k) (doneK P results64) (Tr.set (Tr.set (Tr.set (Tr.set (Tr.set (Tr.set (Tr.set (Tr.set Tr.nil 13 (some u13)) 12 (some u12)) 11 (some u11)) 5 (some u5)) 4 (some u4)) 3 (some u3)) 2 (some u2)) 1 (some u1)) H n []
noncomputable def B64_2 (cal : Cal) (k m1 : Nat) (b1 : Value → Value → Value → Value → Value → Value → Value → Value → Hp → Nat → Res) (u1 u2 u3 u4 u5 u11 u12 u13 : Value) (H : Hp) (n : Nat) : Res :=
binK P Go.BinOp.add 3 (Go.Operand.tmp 23) (Go.Operand.const (Go.Value.int Go.IntKind.i64 1)) u13 (Go.Value.int Go.IntKind.i64 1) fun v24_17 =>
b1 u1 u2 u3 u4 u5 u11 u12 v24_17 H n
noncomputable def C64_2 (cal : Cal) (k m1 : Nat) (b1 : Value → Value → Value → Value → Value → Value → Value → Value → Hp → Nat → Res) (u1 u2 u3 u4 u5 u11 u12 u13 : Value) (H : Hp) (n : Nat) : Res := B64_2 cal k m1 b1 u1 u2 u3 u4 u5 u11 u12 u13 H n
theorem h64_2 (cal : Cal) (k m1 : Nat) (u1 u2 u3 u4 u5 u11 u12 u13 : Value) (H : Hp) (n : Nat) : labK (E64_2 cal k m1) (Tr.set (Tr.set (Tr.set (Tr.set (Tr.set (Tr.set (Tr.set (Tr.set Tr.nil 13 (some u13)) 12 (some u12)) 11 (some u11)) 5 (some u5)) 4 (some u4)) 3 (some u3)) 2 (some u2)) 1 (some u1)) H n [] = C64_2 cal k m1 (R64_1 cal k m1) u1 u2 u3 u4 u5 u11 u12 u13 H n := by
  have h : labK (E64_2 cal k m1) (Tr.set (Tr.set (Tr.set (Tr.set (Tr.set (Tr.set (Tr.set (Tr.set Tr.nil 13 (some u13)) 12 (some u12)) 11 (some u11)) 5 (some u5)) 4 (some u4)) 3 (some u3)) 2 (some u2)) 1 (some u1)) H n [] = B64_2 cal k m1 (R64_1 cal k m1) u1 u2 u3 u4 u5 u11 u12 u13 H n := by kernel_rfl
  rw [h, C64_2]
theorem q64_2 (cal : Cal) (k m1 : Nat) (u1 u2 u3 u4 u5 u11 u12 u13 : Value) (H : Hp) (n : Nat) : labK (E64_2 cal k m1) (Tr.set (Tr.set (Tr.set (Tr.set (Tr.set (Tr.set (Tr.set (Tr.set Tr.nil 13 (some u13)) 12 (some u12)) 11 (some u11)) 5 (some u5)) 4 (some u4)) 3 (some u3)) 2 (some u2)) 1 (some u1)) H n [] = C64_2 cal k m1 (R64_1 cal k m1) u1 u2 u3 u4 u5 u11 u12 u13 H n := h64_2 ..
noncomputable def B64_1 (cal : Cal) (k m1 : Nat) (j2 : Value → Value → Value → Value → Value → Value → Value → Value → Hp → Nat → Res) (b1 : Value → Value → Value → Value → Value → Value → Value → Value → Hp → Nat → Res) (u1 u2 u3 u4 u5 u11 u12 u13 : Value) (H : Hp) (n : Nat) : Res :=
bindO (fieldAddrV P 26 u5 0) fun v19_11 =>
bindO (addrV v19_11) fun a_13 => bindO (loadV P H 22 a_13) fun v20_12 =>
bindO (lenV P 22 v20_12) fun v21_14 =>
binK P Go.BinOp.lss 3 (Go.Operand.tmp 18) (Go.Operand.tmp 21) u13 v21_14 fun v22_15 =>
ifK v22_15 (
bindO (addrV u5) fun a_20 => bindO (loadV P H 26 a_20) fun v25_19 =>
callFK P cal 77 [v25_19, u1, u2, u13] H n fun v29_24 H_25 n_26 =>
allocK P 55 H_25 n_26 fun v14_27 H_28 n_29 =>
bindO (storeP P 55 v14_27 v29_24 H_28) fun H_31 =>
binK P Go.BinOp.neq 3 (Go.Operand.tmp 30) (Go.Operand.tmp 31) u13 u3 fun v32_34 =>
ifK v32_34 (
bindO (fieldAddrV P 55 v14_27 0) fun v34_36 =>
bindO (addrV v34_36) fun a_37 => bindO (loadV P H_31 3 a_37) fun v_38 =>
binK P Go.BinOp.add 3 (Go.Operand.tmp 33) (Go.Operand.tmp 35) u11 v_38 fun v36_39 =>
bindO (fieldAddrV P 55 v14_27 1) fun v38_41 =>
bindO (addrV v38_41) fun a_42 => bindO (loadV P H_31 3 a_42) fun v_43 =>
binK P Go.BinOp.add 3 (Go.Operand.tmp 37) (Go.Operand.tmp 39) u12 v_43 fun v40_44 =>
j2 u1 u2 u3 u4 u5 v36_39 v40_44 u13 H_31 n_29) (
j2 u1 u2 u3 u4 u5 u11 u12 u13 H_31 n_29)) (
bindO (addrV u5) fun a_48 => bindO (loadV P H 26 a_48) fun v41_47 =>
callFK P cal 77 [v41_47, u1, u2, u3] H n fun v45_52 H_53 n_54 =>
allocK P 55 H_53 n_54 fun v15_55 H_56 n_57 =>
bindO (storeP P 55 v15_55 v45_52 H_56) fun H_59 =>
bindO (fieldAddrV P 55 v15_55 0) fun v47_61 =>
bindO (addrV v47_61) fun a_63 => bindO (loadV P H_59 3 a_63) fun v48_62 =>
bindO (fieldAddrV P 55 v15_55 1) fun v49_64 =>
bindO (addrV v49_64) fun a_66 => bindO (loadV P H_59 3 a_66) fun v50_65 =>
callFK P cal 32 [u4, v48_62, v50_65] H_59 n_57 fun v51_67 H_68 n_69 =>
guardK v51_67 true (fun k_71 =>
bindO (fieldAddrV P 26 u5 2) fun v53_75 =>
k_71 v53_75 H_68 n_69) H_68 n_69 fun v_72 H_73 n_74 =>
guardK v51_67 true (fun k_76 =>
bindO (addrV v_72) fun a_81 => bindO (loadV P H_73 24 a_81) fun v54_80 =>
k_76 v54_80 H_73 n_74) H_73 n_74 fun v_77 H_78 n_79 =>
guardK v51_67 true (fun k_82 =>
k_82 u1 H_78 n_79) H_78 n_79 fun v_83 H_84 n_85 =>
guardK v51_67 true (fun k_87 =>
bindO (indexAddrV P 24 v_77 v_83) fun v56_91 =>
k_87 v56_91 H_84 n_85) H_84 n_85 fun v_88 H_89 n_90 =>
guardK v51_67 true (fun k_92 =>
bindO (fieldAddrV P 94 v_88 0) fun v57_96 =>
k_92 v57_96 H_89 n_90) H_89 n_90 fun v_93 H_94 n_95 =>
guardK v51_67 true (fun k_97 =>
bindO (addrV v_93) fun a_102 => bindO (loadV P H_94 3 a_102) fun v58_101 =>
k_97 v58_101 H_94 n_95) H_94 n_95 fun v_98 H_99 n_100 =>
guardK v51_67 true (fun k_103 =>
k_103 u11 H_99 n_100) H_99 n_100 fun v_104 H_105 n_106 =>
guardK v51_67 true (fun k_108 =>
k_108 u12 H_105 n_106) H_105 n_106 fun v_109 H_110 n_111 =>
guardK v51_67 true (fun k_113 =>
callFK P cal 32 [v_98, v_104, v_109] H_110 n_111 fun v61_117 H_118 n_119 =>
k_113 v61_117 H_118 n_119) H_110 n_111 fun v_114 H_115 n_116 =>
bindO (pickV v51_67 v_114 (Go.Value.bool false)) fun v62_120 =>
some (v62_120, H_115, n_116))
noncomputable def C64_1 (cal : Cal) (k m1 : Nat) (b1 : Value → Value → Value → Value → Value → Value → Value → Value → Hp → Nat → Res) (u1 u2 u3 u4 u5 u11 u12 u13 : Value) (H : Hp) (n : Nat) : Res := B64_1 cal k m1 (C64_2 cal k m1 b1) b1 u1 u2 u3 u4 u5 u11 u12 u13 H n
noncomputable def S64_1 (cal : Cal) (k : Nat) : Nat → Value → Value → Value → Value → Value → Value → Value → Value → Hp → Nat → Res := fun m => Nat.rec (motive := fun _ => Value → Value → Value → Value → Value → Value → Value → Value → Hp → Nat → Res) (C64_1 cal k 0 (fun _ _ _ _ _ _ _ _ _ _ => none)) (fun m ih => C64_1 cal k (m + 1) ih) m
theorem h64_1 (cal : Cal) (k m1 : Nat) (u1 u2 u3 u4 u5 u11 u12 u13 : Value) (H : Hp) (n : Nat) : labK (E64_1 cal k m1) (Tr.set (Tr.set (Tr.set (Tr.set (Tr.set (Tr.set (Tr.set (Tr.set Tr.nil 13 (some u13)) 12 (some u12)) 11 (some u11)) 5 (some u5)) 4 (some u4)) 3 (some u3)) 2 (some u2)) 1 (some u1)) H n [] = C64_1 cal k m1 (R64_1 cal k m1) u1 u2 u3 u4 u5 u11 u12 u13 H n := by
  have h : labK (E64_1 cal k m1) (Tr.set (Tr.set (Tr.set (Tr.set (Tr.set (Tr.set (Tr.set (Tr.set Tr.nil 13 (some u13)) 12 (some u12)) 11 (some u11)) 5 (some u5)) 4 (some u4)) 3 (some u3)) 2 (some u2)) 1 (some u1)) H n [] = B64_1 cal k m1 (fun u1 u2 u3 u4 u5 u11 u12 u13 H n => labK (E64_2 cal k m1) (Tr.set (Tr.set (Tr.set (Tr.set (Tr.set (Tr.set (Tr.set (Tr.set Tr.nil 13 (some u13)) 12 (some u12)) 11 (some u11)) 5 (some u5)) 4 (some u4)) 3 (some u3)) 2 (some u2)) 1 (some u1)) H n []) (R64_1 cal k m1) u1 u2 u3 u4 u5 u11 u12 u13 H n := by kernel_rfl
  rw [h, C64_1]
  have e2 : (fun u1 u2 u3 u4 u5 u11 u12 u13 H n => labK (E64_2 cal k m1) (Tr.set (Tr.set (Tr.set (Tr.set (Tr.set (Tr.set (Tr.set (Tr.set Tr.nil 13 (some u13)) 12 (some u12)) 11 (some u11)) 5 (some u5)) 4 (some u4)) 3 (some u3)) 2 (some u2)) 1 (some u1)) H n []) = (C64_2 cal k m1 (R64_1 cal k m1)) := by funext u1 u2 u3 u4 u5 u11 u12 u13 H n; exact q64_2 ..
  rw [e2]
theorem q64_1 (cal : Cal) (k : Nat) : ∀ (m : Nat) (u1 u2 u3 u4 u5 u11 u12 u13 : Value) (H : Hp) (n : Nat), labK (E64_1 cal k m) (Tr.set (Tr.set (Tr.set (Tr.set (Tr.set (Tr.set (Tr.set (Tr.set Tr.nil 13 (some u13)) 12 (some u12)) 11 (some u11)) 5 (some u5)) 4 (some u4)) 3 (some u3)) 2 (some u2)) 1 (some u1)) H n [] = S64_1 cal k m u1 u2 u3 u4 u5 u11 u12 u13 H n
  | 0, u1, u2, u3, u4, u5, u11, u12, u13, H, n => by
    rw [h64_1]
    have e : R64_1 cal k 0 = fun _ _ _ _ _ _ _ _ _ _ => none := by funext u1 u2 u3 u4 u5 u11 u12 u13 H n; kernel_rfl
    rw [e]; rfl
  | m + 1, u1, u2, u3, u4, u5, u11, u12, u13, H, n => by
    rw [h64_1]
    have e : R64_1 cal k (m + 1) = S64_1 cal k m := by
      funext u1 u2 u3 u4 u5 u11 u12 u13 H n
      have e : R64_1 cal k (m + 1) u1 u2 u3 u4 u5 u11 u12 u13 H n = labK (E64_1 cal k m) (Tr.set (Tr.set (Tr.set (Tr.set (Tr.set (Tr.set (Tr.set (Tr.set Tr.nil 13 (some u13)) 12 (some u12)) 11 (some u11)) 5 (some u5)) 4 (some u4)) 3 (some u3)) 2 (some u2)) 1 (some u1)) H n [] := by kernel_rfl
      rw [e]; exact q64_1 ..
    rw [e]; rfl
noncomputable def B64_0 (cal : Cal) (k : Nat) (j1 : Value → Value → Value → Value → Value → Value → Value → Value → Hp → Nat → Res) (v0 v1 v2 v3 v4 : Value) (H : Hp) (n : Nat) : Res :=
boxK 26 v0 H n fun v5_1 H_2 n_3 =>
j1 v1 v2 v3 v4 v5_1 v4 v4 (Go.Value.int Go.IntKind.i64 0) H_2 n_3
noncomputable def C64_0 (cal : Cal) (k : Nat) (v0 v1 v2 v3 v4 : Value) (H : Hp) (n : Nat) : Res := B64_0 cal k (S64_1 cal k k) v0 v1 v2 v3 v4 H n
theorem h64_0 (cal : Cal) (k : Nat) (v0 v1 v2 v3 v4 : Value) (H : Hp) (n : Nat) : bodyE P cal A (k + 1) 64 [v0, v1, v2, v3, v4] H n = C64_0 cal k v0 v1 v2 v3 v4 H n := by
  have h : bodyE P cal A (k + 1) 64 [v0, v1, v2, v3, v4] H n = B64_0 cal k (fun u1 u2 u3 u4 u5 u11 u12 u13 H n => labK (E64_1 cal k k) (Tr.set (Tr.set (Tr.set (Tr.set (Tr.set (Tr.set (Tr.set (Tr.set Tr.nil 13 (some u13)) 12 (some u12)) 11 (some u11)) 5 (some u5)) 4 (some u4)) 3 (some u3)) 2 (some u2)) 1 (some u1)) H n []) v0 v1 v2 v3 v4 H n := by
    rw [body_eq (fn := Go.Proofs.Try.f64) (c := code64) (rs := results64) (by kernel_rfl) (by kernel_rfl) (by kernel_rfl) (by kernel_rfl)]
    kernel_rfl
  rw [h, C64_0]
  have e1 : (fun u1 u2 u3 u4 u5 u11 u12 u13 H n => labK (E64_1 cal k k) (Tr.set (Tr.set (Tr.set (Tr.set (Tr.set (Tr.set (Tr.set (Tr.set Tr.nil 13 (some u13)) 12 (some u12)) 11 (some u11)) 5 (some u5)) 4 (some u4)) 3 (some u3)) 2 (some u2)) 1 (some u1)) H n []) = (S64_1 cal k k) := by funext u1 u2 u3 u4 u5 u11 u12 u13 H n; exact q64_1 ..
  rw [e1]
noncomputable def code65 : Code := codeOf 65
noncomputable def results65 : List ResultVar := resOf 65
noncomputable def K65_p (cal : Cal) (k : Nat) : KC (Value × Hp × Nat) := (cutK (A 65).c (codeE P cal (codeF P cal k) none 65 (cR code65) (Lv.b (A 65)) (doneK P results65) X0 (doneK P results65)))
noncomputable def K65_pr (cal : Cal) (k : Nat) : KC (Value × Hp × Nat) := (cutK (Lv.b (A 65)).c (codeE P cal (codeF P cal k) none 65 (cR (cR code65)) (Lv.b (Lv.b (A 65))) (doneK P results65) X0 (doneK P results65)))
noncomputable def K65_prr (cal : Cal) (k : Nat) : KC (Value × Hp × Nat) := (cutK (Lv.b (Lv.b (A 65))).c (codeE P cal (codeF P cal k) none 65 (cR (cR (cR code65))) (Lv.b (Lv.b (Lv.b (A 65)))) (doneK P results65) X0 (doneK P results65)))
noncomputable def K65_prrl (cal : Cal) (k : Nat) : KC (Value × Hp × Nat) := (cutK (Lv.a (Lv.b (Lv.b (A 65)))).c (codeE P cal (codeF P cal k) none 65 (cR (cL (cR (cR code65)))) (Lv.b (Lv.a (Lv.b (Lv.b (A 65))))) (K65_prr cal k) X0 (doneK P results65)))
noncomputable def K65_prrlrl (cal : Cal) (k : Nat) : KC (Value × Hp × Nat) := (cutK (Lv.a (Lv.b (Lv.a (Lv.b (Lv.b (A 65)))))).c (codeE P cal (codeF P cal k) none 65 (cR (cL (cR (cL (cR (cR code65)))))) (Lv.b (Lv.a (Lv.b (Lv.a (Lv.b (Lv.b (A 65))))))) (K65_prr cal k) X0 (doneK P results65)))
noncomputable def K65_prrr (cal : Cal) (k : Nat) : KC (Value × Hp × Nat) := (cutK (Lv.b (Lv.b (Lv.b (A 65)))).c (codeE P cal (codeF P cal k) none 65 (cR (cR (cR (cR code65)))) (Lv.b (Lv.b (Lv.b (Lv.b (A 65))))) (doneK P results65) X0 (doneK P results65)))
noncomputable def K65_prrrl (cal : Cal) (k : Nat) : KC (Value × Hp × Nat) := (cutK (Lv.a (Lv.b (Lv.b (Lv.b (A 65))))).c (codeE P cal (codeF P cal k) none 65 (cR (cL (cR (cR (cR code65))))) (Lv.b (Lv.a (Lv.b (Lv.b (Lv.b (A 65)))))) (K65_prrr cal k) X0 (doneK P results65)))
noncomputable def K65_prrrlrl (cal : Cal) (k : Nat) : KC (Value × Hp × Nat) := (cutK (Lv.a (Lv.b (Lv.a (Lv.b (Lv.b (Lv.b (A 65))))))).c (codeE P cal (codeF P cal k) none 65 (cR (cL (cR (cL (cR (cR (cR code65))))))) (Lv.b (Lv.a (Lv.b (Lv.a (Lv.b (Lv.b (Lv.b (A 65)))))))) (K65_prrr cal k) X0 (doneK P results65)))
noncomputable def K65_prrrr (cal : Cal) (k : Nat) : KC (Value × Hp × Nat) := (cutK (Lv.b (Lv.b (Lv.b (Lv.b (A 65))))).c (codeE P cal (codeF P cal k) none 65 (cR (cR (cR (cR (cR code65))))) (Lv.b (Lv.b (Lv.b (Lv.b (Lv.b (A 65)))))) (doneK P results65) X0 (doneK P results65)))
noncomputable def K65_prrrrr (cal : Cal) (k : Nat) : KC (Value × Hp × Nat) := (cutK (Lv.b (Lv.b (Lv.b (Lv.b (Lv.b (A 65)))))).c (codeE P cal (codeF P cal k) none 65 (cR (cR (cR (cR (cR (cR code65)))))) (Lv.b (Lv.b (Lv.b (Lv.b (Lv.b (Lv.b (A 65))))))) (doneK P results65) X0 (doneK P results65)))
noncomputable def K65_prrrrrr (cal : Cal) (k : Nat) : KC (Value × Hp × Nat) := (cutK (Lv.b (Lv.b (Lv.b (Lv.b (Lv.b (Lv.b (A 65))))))).c (codeE P cal (codeF P cal k) none 65 (cR (cR (cR (cR (cR (cR (cR code65))))))) (Lv.b (Lv.b (Lv.b (Lv.b (Lv.b (Lv.b (Lv.b (A 65)))))))) (doneK P results65) X0 (doneK P results65)))
noncomputable def K65_prrrrrrl (cal : Cal) (k : Nat) : KC (Value × Hp × Nat) := (cutK (Lv.a (Lv.b (Lv.b (Lv.b (Lv.b (Lv.b (Lv.b (A 65)))))))).c (codeE P cal (codeF P cal k) none 65 (cR (cL (cR (cR (cR (cR (cR (cR code65)))))))) (Lv.b (Lv.a (Lv.b (Lv.b (Lv.b (Lv.b (Lv.b (Lv.b (A 65))))))))) (K65_prrrrrr cal k) X0 (doneK P results65)))
noncomputable def K65_pxrrrrrrlr (cal : Cal) (k : Nat) : XC (Value × Hp × Nat) := (upX 0 (K65_prrrrrr cal k) X0)
noncomputable def K65_prrrrrrlrl (cal : Cal) (k : Nat) (m1 : Nat) : KC (Value × Hp × Nat) := (fun T H n D => codeF P cal m1 (Lv.a (Lv.b (Lv.a (Lv.b (Lv.b (Lv.b (Lv.b (Lv.b (Lv.b (A 65)))))))))) none 65 (cL (cR (cL (cR (cR (cR (cR (cR (cR code65))))))))) (K65_prrrrrr cal k) (K65_pxrrrrrrlr cal k) (doneK P results65) (cutT (Lv.a (Lv.b (Lv.a (Lv.b (Lv.b (Lv.b (Lv.b (Lv.b (Lv.b (A 65)))))))))).c T) H n D)
noncomputable def K65_prrrrrrlrll (cal : Cal) (k : Nat) (m1 : Nat) : KC (Value × Hp × Nat) := (cutK (Lv.a (Lv.a (Lv.b (Lv.a (Lv.b (Lv.b (Lv.b (Lv.b (Lv.b (Lv.b (A 65))))))))))).c (codeE P cal (codeF P cal m1) none 65 (cR (cL (cL (cR (cL (cR (cR (cR (cR (cR (cR code65))))))))))) (Lv.b (Lv.a (Lv.a (Lv.b (Lv.a (Lv.b (Lv.b (Lv.b (Lv.b (Lv.b (Lv.b (A 65)))))))))))) (K65_prrrrrrlrl cal k m1) (K65_pxrrrrrrlr cal k) (doneK P results65)))
noncomputable def K65_prrrrrrlrllr (cal : Cal) (k : Nat) (m1 : Nat) : KC (Value × Hp × Nat) := (cutK (Lv.b (Lv.a (Lv.a (Lv.b (Lv.a (Lv.b (Lv.b (Lv.b (Lv.b (Lv.b (Lv.b (A 65)))))))))))).c (codeE P cal (codeF P cal m1) none 65 (cR (cR (cL (cL (cR (cL (cR (cR (cR (cR (cR (cR code65)))))))))))) (Lv.b (Lv.b (Lv.a (Lv.a (Lv.b (Lv.a (Lv.b (Lv.b (Lv.b (Lv.b (Lv.b (Lv.b (A 65))))))))))))) (K65_prrrrrrlrl cal k m1) (K65_pxrrrrrrlr cal k) (doneK P results65)))
noncomputable def K65_prrrrrrlrllrr (cal : Cal) (k : Nat) (m1 : Nat) : KC (Value × Hp × Nat) := (cutK (Lv.b (Lv.b (Lv.a (Lv.a (Lv.b (Lv.a (Lv.b (Lv.b (Lv.b (Lv.b (Lv.b (Lv.b (A 65))))))))))))).c (codeE P cal (codeF P cal m1) none 65 (cR (cR (cR (cL (cL (cR (cL (cR (cR (cR (cR (cR (cR code65))))))))))))) (Lv.b (Lv.b (Lv.b (Lv.a (Lv.a (Lv.b (Lv.a (Lv.b (Lv.b (Lv.b (Lv.b (Lv.b (Lv.b (A 65)))))))))))))) (K65_prrrrrrlrl cal k m1) (K65_pxrrrrrrlr cal k) (doneK P results65)))
noncomputable def K65_pxrrrrrrlrllrrl (cal : Cal) (k : Nat) (m1 : Nat) : XC (Value × Hp × Nat) := (upX 1 (K65_prrrrrrlrllrr cal k m1) (K65_pxrrrrrrlr cal k))
noncomputable def K65_prrrrrrlrllrrll (cal : Cal) (k : Nat) (m1 : Nat) : KC (Value × Hp × Nat) := (cutK (Lv.a (Lv.a (Lv.b (Lv.b (Lv.a (Lv.a (Lv.b (Lv.a (Lv.b (Lv.b (Lv.b (Lv.b (Lv.b (Lv.b (A 65))))))))))))))).c (codeE P cal (codeF P cal m1) none 65 (cR (cL (cL (cR (cR (cL (cL (cR (cL (cR (cR (cR (cR (cR (cR code65))))))))))))))) (Lv.b (Lv.a (Lv.a (Lv.b (Lv.b (Lv.a (Lv.a (Lv.b (Lv.a (Lv.b (Lv.b (Lv.b (Lv.b (Lv.b (Lv.b (A 65)))))))))))))))) (K65_prrrrrrlrllrr cal k m1) (K65_pxrrrrrrlrllrrl cal k m1) (doneK P results65)))
noncomputable def K65_prrrrrrlrllrrllr (cal : Cal) (k : Nat) (m1 : Nat) : KC (Value × Hp × Nat) := (cutK (Lv.b (Lv.a (Lv.a (Lv.b (Lv.b (Lv.a (Lv.a (Lv.b (Lv.a (Lv.b (Lv.b (Lv.b (Lv.b (Lv.b (Lv.b (A 65)))))))))))))))).c (codeE P cal (codeF P cal m1) none 65 (cR (cR (cL (cL (cR (cR (cL (cL (cR (cL (cR (cR (cR (cR (cR (cR code65)))))))))))))))) (Lv.b (Lv.b (Lv.a (Lv.a (Lv.b (Lv.b (Lv.a (Lv.a (Lv.b (Lv.a (Lv.b (Lv.b (Lv.b (Lv.b (Lv.b (Lv.b (A 65))))))))))))))))) (K65_prrrrrrlrllrr cal k m1) (K65_pxrrrrrrlrllrrl cal k m1) (doneK P results65)))
noncomputable def K65_prrrrrrlrllrrllrrl (cal : Cal) (k : Nat) (m1 : Nat) : KC (Value × Hp × Nat) := (cutK (Lv.a (Lv.b (Lv.b (Lv.a (Lv.a (Lv.b (Lv.b (Lv.a (Lv.a (Lv.b (Lv.a (Lv.b (Lv.b (Lv.b (Lv.b (Lv.b (Lv.b (A 65)))))))))))))))))).c (codeE P cal (codeF P cal m1) none 65 (cR (cL (cR (cR (cL (cL (cR (cR (cL (cL (cR (cL (cR (cR (cR (cR (cR (cR code65)))))))))))))))))) (Lv.b (Lv.a (Lv.b (Lv.b (Lv.a (Lv.a (Lv.b (Lv.b (Lv.a (Lv.a (Lv.b (Lv.a (Lv.b (Lv.b (Lv.b (Lv.b (Lv.b (Lv.b (A 65))))))))))))))))))) (K65_prrrrrrlrllrr cal k m1) (K65_pxrrrrrrlrllrrl cal k m1) (doneK P results65)))
noncomputable def K65_prrrrrrr (cal : Cal) (k : Nat) : KC (Value × Hp × Nat) := (cutK (Lv.b (Lv.b (Lv.b (Lv.b (Lv.b (Lv.b (Lv.b (A 65)))))))).c (codeE P cal (codeF P cal k) none 65 (cR (cR (cR (cR (cR (cR (cR (cR code65)))))))) (Lv.b (Lv.b (Lv.b (Lv.b (Lv.b (Lv.b (Lv.b (Lv.b (A 65))))))))) (doneK P results65) X0 (doneK P results65)))
noncomputable def E65_1 (cal : Cal) (k m1 : Nat) : KC (Value × Hp × Nat) := codeE P cal (codeF P cal m1) none 65 (cL (cL (cR (cL (cR (cR (cR (cR (cR (cR code65)))))))))) (Lv.a (Lv.a (Lv.b (Lv.a (Lv.b (Lv.b (Lv.b (Lv.b (Lv.b (Lv.b (A 65))))))))))) (K65_prrrrrrlrl cal k m1) (K65_pxrrrrrrlr cal k) (doneK P results65)
noncomputable def R65_1 (cal : Cal) (k m1 : Nat) : Value → Value → Value → Value → Value → Hp → Nat → Res := fun u5 u7 u9 u35 u36 H n => codeF P cal m1 (Lv.a (Lv.b (Lv.a (Lv.b (Lv.b (Lv.b (Lv.b (Lv.b (Lv.b (A 65)))))))))) none 65 (cL (cR (cL (cR (cR (cR (cR (cR (cR code65))))))))) (K65_prrrrrr cal k) (K65_pxrrrrrrlr cal k) (doneK P results65) (Tr.set (Tr.set (Tr.set (Tr.set (Tr.set Tr.nil 36 (some u36)) 35 (some u35)) 9 (some u9)) 7 (some u7)) 5 (some u5)) H n []
noncomputable def B65_1 (cal : Cal) (k m1 : Nat) (b1 : Value → Value → Value → Value → Value → Hp → Nat → Res) (u5 u7 u9 u35 u36 : Value) (H : Hp) (n : Nat) : Res :=
binK P Go.BinOp.lss 3 (Go.Operand.tmp 36) (Go.Operand.const (Go.Value.int Go.IntKind.i64 8)) u36 (Go.Value.int Go.IntKind.i64 8) fun v37_60 =>
ifK v37_60 (
bindO (indexV P 121 u35 u36) fun v39_62 =>
binK P Go.BinOp.neq 3 (Go.Operand.tmp 40) (Go.Operand.const (Go.Value.int Go.IntKind.i64 (-1))) v39_62 (Go.Value.int Go.IntKind.i64 (-1)) fun v41_66 =>
guardK v41_66 true (fun k_68 =>
k_68 u7 H n) H n fun v_69 H_70 n_71 =>
guardK v41_66 true (fun k_73 =>
k_73 u36 H_70 n_71) H_70 n_71 fun v_74 H_75 n_76 =>
guardK v41_66 true (fun k_78 =>
k_78 v39_62 H_75 n_76) H_75 n_76 fun v_79 H_80 n_81 =>
guardK v41_66 true (fun k_83 =>
callFK P cal 102 [v_69, v_74, v_79] H_80 n_81 fun v46_87 H_88 n_89 =>
k_83 v46_87 H_88 n_89) H_80 n_81 fun v_84 H_85 n_86 =>
guardK v41_66 true (fun k_90 =>
bindO (pureSem P v_84 (Op.unary Go.UnOp.not v_84)) fun v47_94 =>
k_90 v47_94 H_85 n_86) H_85 n_86 fun v_91 H_92 n_93 =>
bindO (pickV v41_66 v_91 (Go.Value.bool false)) fun v48_95 =>
ifK v48_95 (
bindO (buildP P 121 []) fun v49_96 =>
bindO (storeP P 121 u5 v49_96 H_92) fun H_99 =>
bindO (resV P (Tr.set (Tr.set (Tr.set Tr.nil 6 (some (Go.Value.int Go.IntKind.i64 2))) 5 (some u5)) 4 (some (Go.Value.pointer none))) H_99 results65) fun vs_101 => some (oneV vs_101, H_99, n_93)) (
binK P Go.BinOp.add 3 (Go.Operand.tmp 36) (Go.Operand.const (Go.Value.int Go.IntKind.i64 1)) u36 (Go.Value.int Go.IntKind.i64 1) fun v50_102 =>
b1 u5 u7 u9 u35 v50_102 H_92 n_93)) (
bindO (addrV u9) fun a_105 => bindO (loadV P H 121 a_105) fun v_106 =>
bindO (storeP P 121 u5 v_106 H) fun H_109 =>
bindO (resV P (Tr.set (Tr.set (Tr.set Tr.nil 6 (some (Go.Value.int Go.IntKind.i64 0))) 5 (some u5)) 4 (some u7)) H_109 results65) fun vs_111 => some (oneV vs_111, H_109, n))
noncomputable def C65_1 (cal : Cal) (k m1 : Nat) (b1 : Value → Value → Value → Value → Value → Hp → Nat → Res) (u5 u7 u9 u35 u36 : Value) (H : Hp) (n : Nat) : Res := B65_1 cal k m1 b1 u5 u7 u9 u35 u36 H n
noncomputable def S65_1 (cal : Cal) (k : Nat) : Nat → Value → Value → Value → Value → Value → Hp → Nat → Res := fun m => Nat.rec (motive := fun _ => Value → Value → Value → Value → Value → Hp → Nat → Res) (C65_1 cal k 0 (fun _ _ _ _ _ _ _ => none)) (fun m ih => C65_1 cal k (m + 1) ih) m
theorem h65_1 (cal : Cal) (k m1 : Nat) (u5 u7 u9 u35 u36 : Value) (H : Hp) (n : Nat) : labK (E65_1 cal k m1) (Tr.set (Tr.set (Tr.set (Tr.set (Tr.set Tr.nil 36 (some u36)) 35 (some u35)) 9 (some u9)) 7 (some u7)) 5 (some u5)) H n [] = C65_1 cal k m1 (R65_1 cal k m1) u5 u7 u9 u35 u36 H n := by
  have h : labK (E65_1 cal k m1) (Tr.set (Tr.set (Tr.set (Tr.set (Tr.set Tr.nil 36 (some u36)) 35 (some u35)) 9 (some u9)) 7 (some u7)) 5 (some u5)) H n [] = B65_1 cal k m1 (R65_1 cal k m1) u5 u7 u9 u35 u36 H n := by kernel_rfl
  rw [h, C65_1]
theorem q65_1 (cal : Cal) (k : Nat) : ∀ (m : Nat) (u5 u7 u9 u35 u36 : Value) (H : Hp) (n : Nat), labK (E65_1 cal k m) (Tr.set (Tr.set (Tr.set (Tr.set (Tr.set Tr.nil 36 (some u36)) 35 (some u35)) 9 (some u9)) 7 (some u7)) 5 (some u5)) H n [] = S65_1 cal k m u5 u7 u9 u35 u36 H n
  | 0, u5, u7, u9, u35, u36, H, n => by
    rw [h65_1]
    have e : R65_1 cal k 0 = fun _ _ _ _ _ _ _ => none := by funext u5 u7 u9 u35 u36 H n; kernel_rfl
    rw [e]; rfl
  | m + 1, u5, u7, u9, u35, u36, H, n => by
    rw [h65_1]
    have e : R65_1 cal k (m + 1) = S65_1 cal k m := by
      funext u5 u7 u9 u35 u36 H n
      have e : R65_1 cal k (m + 1) u5 u7 u9 u35 u36 H n = labK (E65_1 cal k m) (Tr.set (Tr.set (Tr.set (Tr.set (Tr.set Tr.nil 36 (some u36)) 35 (some u35)) 9 (some u9)) 7 (some u7)) 5 (some u5)) H n [] := by kernel_rfl
      rw [e]; exact q65_1 ..
    rw [e]; rfl
noncomputable def B65_0 (cal : Cal) (k : Nat) (j1 : Value → Value → Value → Value → Value → Hp → Nat → Res) (v0 v1 : Value) (H : Hp) (n : Nat) : Res :=
boxK 35 v0 H n fun v2_1 H_2 n_3 =>
allocK P 121 H_2 n_3 fun v5_5 H_6 n_7 =>
bindO (addrV v2_1) fun a_10 => bindO (loadV P H_6 35 a_10) fun v13_9 =>
callFK P cal 61 [v13_9] H_6 n_7 fun v14_11 H_12 n_13 =>
bindO (tupV v14_11 0) fun v15_15 =>
bindO (tupV v14_11 1) fun v16_16 =>
binK P Go.BinOp.neq 29 (Go.Operand.tmp 17) (Go.Operand.const (Go.Value.int Go.IntKind.i64 0)) v16_16 (Go.Value.int Go.IntKind.i64 0) fun v18_20 =>
ifK v18_20 (
bindO (buildP P 121 []) fun v19_21 =>
bindO (storeP P 121 v5_5 v19_21 H_12) fun H_25 =>
bindO (resV P (Tr.set (Tr.set (Tr.set Tr.nil 6 (some v16_16)) 5 (some v5_5)) 4 (some (Go.Value.pointer none))) H_25 results65) fun vs_27 => some (oneV vs_27, H_25, n_13)) (
bindO (lenV P 44 v1) fun v22_29 =>
bindO (nilV v15_15) fun v24_31 =>
bindO (fieldAddrV P 117 v24_31 0) fun v25_32 =>
bindO (fieldAddrV P 35 v25_32 0) fun v26_33 =>
bindO (addrV v26_33) fun a_35 => bindO (loadV P H_12 31 a_35) fun v27_34 =>
bindO (lenV P 31 v27_34) fun v28_36 =>
binK P Go.BinOp.neq 3 (Go.Operand.tmp 22) (Go.Operand.tmp 28) v22_29 v28_36 fun v29_37 =>
ifK v29_37 (
bindO (buildP P 121 []) fun v30_38 =>
bindO (storeP P 121 v5_5 v30_38 H_12) fun H_41 =>
bindO (resV P (Tr.set (Tr.set (Tr.set Tr.nil 6 (some (Go.Value.int Go.IntKind.i64 2))) 5 (some v5_5)) 4 (some (Go.Value.pointer none))) H_41 results65) fun vs_43 => some (oneV vs_43, H_41, n_13)) (
callFK P cal 101 [] H_12 n_13 fun v31_44 H_45 n_46 =>
allocK P 121 H_45 n_46 fun v9_47 H_48 n_49 =>
bindO (storeP P 121 v9_47 v31_44 H_48) fun H_51 =>
bindO (sliceV P 121 v9_47 none none) fun v32_52 =>
stK (copyV P (bare H_51 n_49) 44 v32_52 v1) fun v34_54 H_55 n_56 =>
bindO (addrV v9_47) fun a_58 => bindO (loadV P H_55 121 a_58) fun v35_57 =>
j1 v5_5 v15_15 v9_47 v35_57 (Go.Value.int Go.IntKind.i64 0) H_55 n_56))
noncomputable def C65_0 (cal : Cal) (k : Nat) (v0 v1 : Value) (H : Hp) (n : Nat) : Res := B65_0 cal k (S65_1 cal k k) v0 v1 H n
theorem h65_0 (cal : Cal) (k : Nat) (v0 v1 : Value) (H : Hp) (n : Nat) : bodyE P cal A (k + 1) 65 [v0, v1] H n = C65_0 cal k v0 v1 H n := by
  have h : bodyE P cal A (k + 1) 65 [v0, v1] H n = B65_0 cal k (fun u5 u7 u9 u35 u36 H n => labK (E65_1 cal k k) (Tr.set (Tr.set (Tr.set (Tr.set (Tr.set Tr.nil 36 (some u36)) 35 (some u35)) 9 (some u9)) 7 (some u7)) 5 (some u5)) H n []) v0 v1 H n := by
    rw [body_eq (fn := Go.Proofs.Try.f65) (c := code65) (rs := results65) (by kernel_rfl) (by kernel_rfl) (by kernel_rfl) (by kernel_rfl)]
    kernel_rfl
  rw [h, C65_0]
  have e1 : (fun u5 u7 u9 u35 u36 H n => labK (E65_1 cal k k) (Tr.set (Tr.set (Tr.set (Tr.set (Tr.set Tr.nil 36 (some u36)) 35 (some u35)) 9 (some u9)) 7 (some u7)) 5 (some u5)) H n []) = (S65_1 cal k k) := by funext u5 u7 u9 u35 u36 H n; exact q65_1 ..
  rw [e1]
noncomputable def code67 : Code := codeOf 67
noncomputable def results67 : List ResultVar := resOf 67
noncomputable def K67_p (cal : Cal) (k : Nat) : KC (Value × Hp × Nat) := (cutK (A 67).c (codeE P cal (codeF P cal k) none 67 (cR code67) (Lv.b (A 67)) (doneK P results67) X0 (doneK P results67)))
noncomputable def K67_pr (cal : Cal) (k : Nat) : KC (Value × Hp × Nat) := (cutK (Lv.b (A 67)).c (codeE P cal (codeF P cal k) none 67 (cR (cR code67)) (Lv.b (Lv.b (A 67))) (doneK P results67) X0 (doneK P results67)))
noncomputable def K67_prl (cal : Cal) (k : Nat) : KC (Value × Hp × Nat) := (cutK (Lv.a (Lv.b (A 67))).c (codeE P cal (codeF P cal k) none 67 (cR (cL (cR code67))) (Lv.b (Lv.a (Lv.b (A 67)))) (K67_pr cal k) X0 (doneK P results67)))
noncomputable def K67_prlrl (cal : Cal) (k : Nat) : KC (Value × Hp × Nat) := (cutK (Lv.a (Lv.b (Lv.a (Lv.b (A 67))))).c (codeE P cal (codeF P cal k) none 67 (cR (cL (cR (cL (cR code67))))) (Lv.b (Lv.a (Lv.b (Lv.a (Lv.b (A 67)))))) (K67_pr cal k) X0 (doneK P results67)))
noncomputable def K67_prr (cal : Cal) (k : Nat) : KC (Value × Hp × Nat) := (cutK (Lv.b (Lv.b (A 67))).c (codeE P cal (codeF P cal k) none 67 (cR (cR (cR code67))) (Lv.b (Lv.b (Lv.b (A 67)))) (doneK P results67) X0 (doneK P results67)))
noncomputable def B67_0 (cal : Cal) (k : Nat) (v0 : Value) (H : Hp) (n : Nat) : Res :=
binK P Go.BinOp.eql 45 (Go.Operand.tmp 3) (Go.Operand.const (Go.Value.slice none 0 0)) v0 (Go.Value.slice none 0 0) fun v4_3 =>
ifK v4_3 (
some ((Go.Value.slice none 0 0), H, n)) (
rowK P 45 0 [] H n fun v5_5 H_6 n_7 =>
stK (appendV P (bare H_6 n_7) 45 45 v5_5 v0) fun v7_9 H_10 n_11 =>
some (v7_9, H_10, n_11))
noncomputable def C67_0 (cal : Cal) (k : Nat) (v0 : Value) (H : Hp) (n : Nat) : Res := B67_0 cal k v0 H n
theorem h67_0 (cal : Cal) (k : Nat) (v0 : Value) (H : Hp) (n : Nat) : bodyE P cal A (k + 1) 67 [v0] H n = C67_0 cal k v0 H n := by
  have h : bodyE P cal A (k + 1) 67 [v0] H n = B67_0 cal k v0 H n := by
    rw [body_eq (fn := Go.Proofs.Try.f67) (c := code67) (rs := results67) (by kernel_rfl) (by kernel_rfl) (by kernel_rfl) (by kernel_rfl)]
    kernel_rfl
  rw [h, C67_0]
noncomputable def code68 : Code := codeOf 68
noncomputable def results68 : List ResultVar := resOf 68
noncomputable def K68_p (cal : Cal) (k : Nat) : KC (Value × Hp × Nat) := (cutK (A 68).c (codeE P cal (codeF P cal k) none 68 (cR code68) (Lv.b (A 68)) (doneK P results68) X0 (doneK P results68)))
noncomputable def K68_pr (cal : Cal) (k : Nat) : KC (Value × Hp × Nat) := (cutK (Lv.b (A 68)).c (codeE P cal (codeF P cal k) none 68 (cR (cR code68)) (Lv.b (Lv.b (A 68))) (doneK P results68) X0 (doneK P results68)))
noncomputable def B68_0 (cal : Cal) (k : Nat) (v0 v1 v2 : Value) (H : Hp) (n : Nat) : Res :=
boxK 111 v1 H n fun v4_1 H_2 n_3 =>
bindO (indexAddrV P 111 v4_1 v2) fun v8_6 =>
bindO (fieldAddrV P 53 v8_6 0) fun v9_7 =>
bindO (addrV v9_7) fun a_8 => bindO (loadV P H_2 3 a_8) fun v_9 =>
bindO (nilV v0) fun v12_11 =>
bindO (fieldAddrV P 117 v12_11 0) fun v13_12 =>
bindO (fieldAddrV P 35 v13_12 0) fun v14_13 =>
bindO (addrV v14_13) fun a_14 => bindO (loadV P H_2 31 a_14) fun v_15 =>
bindO (indexAddrV P 31 v_15 v2) fun v17_17 =>
bindO (fieldAddrV P 90 v17_17 0) fun v18_18 =>
bindO (addrV v18_18) fun a_19 => bindO (loadV P H_2 3 a_19) fun v_20 =>
binK P Go.BinOp.lss 3 (Go.Operand.tmp 10) (Go.Operand.tmp 19) v_9 v_20 fun v20_21 =>
some (v20_21, H_2, n_3)
noncomputable def C68_0 (cal : Cal) (k : Nat) (v0 v1 v2 : Value) (H : Hp) (n : Nat) : Res := B68_0 cal k v0 v1 v2 H n
theorem h68_0 (cal : Cal) (k : Nat) (v0 v1 v2 : Value) (H : Hp) (n : Nat) : bodyE P cal A (k + 1) 68 [v0, v1, v2] H n = C68_0 cal k v0 v1 v2 H n := by
  have h : bodyE P cal A (k + 1) 68 [v0, v1, v2] H n = B68_0 cal k v0 v1 v2 H n := by
    rw [body_eq (fn := Go.Proofs.Try.f68) (c := code68) (rs := results68) (by kernel_rfl) (by kernel_rfl) (by kernel_rfl) (by kernel_rfl)]
    kernel_rfl
  rw [h, C68_0]
noncomputable def code69 : Code := codeOf 69
noncomputable def results69 : List ResultVar := resOf 69
noncomputable def K69_p (cal : Cal) (k : Nat) : KC (Value × Hp × Nat) := (cutK (A 69).c (codeE P cal (codeF P cal k) none 69 (cR code69) (Lv.b (A 69)) (doneK P results69) X0 (doneK P results69)))
noncomputable def K69_pr (cal : Cal) (k : Nat) : KC (Value × Hp × Nat) := (cutK (Lv.b (A 69)).c (codeE P cal (codeF P cal k) none 69 (cR (cR code69)) (Lv.b (Lv.b (A 69))) (doneK P results69) X0 (doneK P results69)))
noncomputable def B69_0 (cal : Cal) (k : Nat) (v0 v1 v2 : Value) (H : Hp) (n : Nat) : Res :=
boxK 111 v1 H n fun v4_1 H_2 n_3 =>
bindO (indexAddrV P 111 v4_1 v2) fun v8_6 =>
bindO (fieldAddrV P 53 v8_6 1) fun v9_7 =>
bindO (addrV v9_7) fun a_8 => bindO (loadV P H_2 3 a_8) fun v_9 =>
bindO (nilV v0) fun v12_11 =>
bindO (fieldAddrV P 117 v12_11 0) fun v13_12 =>
bindO (fieldAddrV P 35 v13_12 0) fun v14_13 =>
bindO (addrV v14_13) fun a_14 => bindO (loadV P H_2 31 a_14) fun v_15 =>
bindO (indexAddrV P 31 v_15 v2) fun v17_17 =>
bindO (fieldAddrV P 90 v17_17 1) fun v18_18 =>
bindO (addrV v18_18) fun a_19 => bindO (loadV P H_2 3 a_19) fun v_20 =>
binK P Go.BinOp.gtr 3 (Go.Operand.tmp 10) (Go.Operand.tmp 19) v_9 v_20 fun v20_21 =>
some (v20_21, H_2, n_3)
noncomputable def C69_0 (cal : Cal) (k : Nat) (v0 v1 v2 : Value) (H : Hp) (n : Nat) : Res := B69_0 cal k v0 v1 v2 H n
theorem h69_0 (cal : Cal) (k : Nat) (v0 v1 v2 : Value) (H : Hp) (n : Nat) : bodyE P cal A (k + 1) 69 [v0, v1, v2] H n = C69_0 cal k v0 v1 v2 H n := by
  have h : bodyE P cal A (k + 1) 69 [v0, v1, v2] H n = B69_0 cal k v0 v1 v2 H n := by
    rw [body_eq (fn := Go.Proofs.Try.f69) (c := code69) (rs := results69) (by kernel_rfl) (by kernel_rfl) (by kernel_rfl) (by kernel_rfl)]
    kernel_rfl
  rw [h, C69_0]
noncomputable def code71 : Code := codeOf 71
noncomputable def results71 : List ResultVar := resOf 71
noncomputable def K71_p (cal : Cal) (k : Nat) : KC (Value × Hp × Nat) := (cutK (A 71).c (codeE P cal (codeF P cal k) none 71 (cR code71) (Lv.b (A 71)) (doneK P results71) X0 (doneK P results71)))
noncomputable def K71_pr (cal : Cal) (k : Nat) : KC (Value × Hp × Nat) := (cutK (Lv.b (A 71)).c (codeE P cal (codeF P cal k) none 71 (cR (cR code71)) (Lv.b (Lv.b (A 71))) (doneK P results71) X0 (doneK P results71)))
noncomputable def B71_0 (cal : Cal) (k : Nat) (v0 v1 : Value) (H : Hp) (n : Nat) : Res :=
boxK 35 v0 H n fun v2_1 H_2 n_3 =>
binK P Go.BinOp.geq 3 (Go.Operand.tmp 5) (Go.Operand.const (Go.Value.int Go.IntKind.i64 0)) v1 (Go.Value.int Go.IntKind.i64 0) fun v6_6 =>
guardK v6_6 true (fun k_8 =>
k_8 v1 H_2 n_3) H_2 n_3 fun v_9 H_10 n_11 =>
guardK v6_6 true (fun k_13 =>
bindO (fieldAddrV P 35 v2_1 0) fun v9_17 =>
k_13 v9_17 H_10 n_11) H_10 n_11 fun v_14 H_15 n_16 =>
guardK v6_6 true (fun k_18 =>
bindO (addrV v_14) fun a_23 => bindO (loadV P H_15 31 a_23) fun v10_22 =>
k_18 v10_22 H_15 n_16) H_15 n_16 fun v_19 H_20 n_21 =>
guardK v6_6 true (fun k_24 =>
bindO (lenV P 31 v_19) fun v11_28 =>
k_24 v11_28 H_20 n_21) H_20 n_21 fun v_25 H_26 n_27 =>
guardK v6_6 true (fun k_29 =>
binK P Go.BinOp.lss 3 (Go.Operand.tmp 8) (Go.Operand.tmp 11) v_9 v_25 fun v12_33 =>
k_29 v12_33 H_26 n_27) H_26 n_27 fun v_30 H_31 n_32 =>
bindO (pickV v6_6 v_30 (Go.Value.bool false)) fun v13_34 =>
some (v13_34, H_31, n_32)
noncomputable def C71_0 (cal : Cal) (k : Nat) (v0 v1 : Value) (H : Hp) (n : Nat) : Res := B71_0 cal k v0 v1 H n
theorem h71_0 (cal : Cal) (k : Nat) (v0 v1 : Value) (H : Hp) (n : Nat) : bodyE P cal A (k + 1) 71 [v0, v1] H n = C71_0 cal k v0 v1 H n := by
  have h : bodyE P cal A (k + 1) 71 [v0, v1] H n = B71_0 cal k v0 v1 H n := by
    rw [body_eq (fn := Go.Proofs.Try.f71) (c := code71) (rs := results71) (by kernel_rfl) (by kernel_rfl) (by kernel_rfl) (by kernel_rfl)]
    kernel_rfl
  rw [h, C71_0]
noncomputable def code72 : Code := codeOf 72
noncomputable def results72 : List ResultVar := resOf 72
noncomputable def K72_p (cal : Cal) (k : Nat) : KC (Value × Hp × Nat) := (cutK (A 72).c (codeE P cal (codeF P cal k) none 72 (cR code72) (Lv.b (A 72)) (doneK P results72) X0 (doneK P results72)))
noncomputable def K72_pr (cal : Cal) (k : Nat) : KC (Value × Hp × Nat) := (cutK (Lv.b (A 72)).c (codeE P cal (codeF P cal k) none 72 (cR (cR code72)) (Lv.b (Lv.b (A 72))) (doneK P results72) X0 (doneK P results72)))
noncomputable def B72_0 (cal : Cal) (k : Nat) (v0 : Value) (H : Hp) (n : Nat) : Res :=
boxK 53 v0 H n fun v1_1 H_2 n_3 =>
bindO (fieldAddrV P 53 v1_1 0) fun v3_5 =>
bindO (addrV v3_5) fun a_7 => bindO (loadV P H_2 3 a_7) fun v4_6 =>
some (v4_6, H_2, n_3)
noncomputable def C72_0 (cal : Cal) (k : Nat) (v0 : Value) (H : Hp) (n : Nat) : Res := B72_0 cal k v0 H n
theorem h72_0 (cal : Cal) (k : Nat) (v0 : Value) (H : Hp) (n : Nat) : bodyE P cal A (k + 1) 72 [v0] H n = C72_0 cal k v0 H n := by
  have h : bodyE P cal A (k + 1) 72 [v0] H n = B72_0 cal k v0 H n := by
    rw [body_eq (fn := Go.Proofs.Try.f72) (c := code72) (rs := results72) (by kernel_rfl) (by kernel_rfl) (by kernel_rfl) (by kernel_rfl)]
    kernel_rfl
  rw [h, C72_0]
noncomputable def code73 : Code := codeOf 73
noncomputable def results73 : List ResultVar := resOf 73
noncomputable def K73_p (cal : Cal) (k : Nat) : KC (Value × Hp × Nat) := (cutK (A 73).c (codeE P cal (codeF P cal k) none 73 (cR code73) (Lv.b (A 73)) (doneK P results73) X0 (doneK P results73)))
noncomputable def K73_pr (cal : Cal) (k : Nat) : KC (Value × Hp × Nat) := (cutK (Lv.b (A 73)).c (codeE P cal (codeF P cal k) none 73 (cR (cR code73)) (Lv.b (Lv.b (A 73))) (doneK P results73) X0 (doneK P results73)))
noncomputable def B73_0 (cal : Cal) (k : Nat) (v0 : Value) (H : Hp) (n : Nat) : Res :=
boxK 53 v0 H n fun v1_1 H_2 n_3 =>
bindO (fieldAddrV P 53 v1_1 1) fun v3_5 =>
bindO (addrV v3_5) fun a_7 => bindO (loadV P H_2 3 a_7) fun v4_6 =>
some (v4_6, H_2, n_3)
noncomputable def C73_0 (cal : Cal) (k : Nat) (v0 : Value) (H : Hp) (n : Nat) : Res := B73_0 cal k v0 H n
theorem h73_0 (cal : Cal) (k : Nat) (v0 : Value) (H : Hp) (n : Nat) : bodyE P cal A (k + 1) 73 [v0] H n = C73_0 cal k v0 H n := by
  have h : bodyE P cal A (k + 1) 73 [v0] H n = B73_0 cal k v0 H n := by
    rw [body_eq (fn := Go.Proofs.Try.f73) (c := code73) (rs := results73) (by kernel_rfl) (by kernel_rfl) (by kernel_rfl) (by kernel_rfl)]
    kernel_rfl
  rw [h, C73_0]
noncomputable def code74 : Code := codeOf 74
noncomputable def results74 : List ResultVar := resOf 74
noncomputable def K74_p (cal : Cal) (k : Nat) : KC (Value × Hp × Nat) := (cutK (A 74).c (codeE P cal (codeF P cal k) none 74 (cR code74) (Lv.b (A 74)) (doneK P results74) X0 (doneK P results74)))
noncomputable def K74_pr (cal : Cal) (k : Nat) : KC (Value × Hp × Nat) := (cutK (Lv.b (A 74)).c (codeE P cal (codeF P cal k) none 74 (cR (cR code74)) (Lv.b (Lv.b (A 74))) (doneK P results74) X0 (doneK P results74)))
noncomputable def B74_0 (cal : Cal) (k : Nat) (v0 v1 : Value) (H : Hp) (n : Nat) : Res :=
boxK 105 v0 H n fun v2_1 H_2 n_3 =>
boxK 121 v1 H_2 n_3 fun v3_4 H_5 n_6 =>
some ((Value.func (Go.Fn.func 104) ⟨[]⟩ ⟨[v3_4, v2_1]⟩), H_5, n_6)
noncomputable def C74_0 (cal : Cal) (k : Nat) (v0 v1 : Value) (H : Hp) (n : Nat) : Res := B74_0 cal k v0 v1 H n
theorem h74_0 (cal : Cal) (k : Nat) (v0 v1 : Value) (H : Hp) (n : Nat) : bodyE P cal A (k + 1) 74 [v0, v1] H n = C74_0 cal k v0 v1 H n := by
  have h : bodyE P cal A (k + 1) 74 [v0, v1] H n = B74_0 cal k v0 v1 H n := by
    rw [body_eq (fn := Go.Proofs.Try.f74) (c := code74) (rs := results74) (by kernel_rfl) (by kernel_rfl) (by kernel_rfl) (by kernel_rfl)]
    kernel_rfl
  rw [h, C74_0]
noncomputable def code76 : Code := codeOf 76
noncomputable def results76 : List ResultVar := resOf 76
noncomputable def K76_p (cal : Cal) (k : Nat) : KC (Value × Hp × Nat) := (cutK (A 76).c (codeE P cal (codeF P cal k) none 76 (cR code76) (Lv.b (A 76)) (doneK P results76) X0 (doneK P results76)))
noncomputable def K76_pr (cal : Cal) (k : Nat) : KC (Value × Hp × Nat) := (cutK (Lv.b (A 76)).c (codeE P cal (codeF P cal k) none 76 (cR (cR code76)) (Lv.b (Lv.b (A 76))) (doneK P results76) X0 (doneK P results76)))
noncomputable def K76_prl (cal : Cal) (k : Nat) : KC (Value × Hp × Nat) := (cutK (Lv.a (Lv.b (A 76))).c (codeE P cal (codeF P cal k) none 76 (cR (cL (cR code76))) (Lv.b (Lv.a (Lv.b (A 76)))) (K76_pr cal k) X0 (doneK P results76)))
noncomputable def K76_prlrl (cal : Cal) (k : Nat) : KC (Value × Hp × Nat) := (cutK (Lv.a (Lv.b (Lv.a (Lv.b (A 76))))).c (codeE P cal (codeF P cal k) none 76 (cR (cL (cR (cL (cR code76))))) (Lv.b (Lv.a (Lv.b (Lv.a (Lv.b (A 76)))))) (K76_pr cal k) X0 (doneK P results76)))
noncomputable def K76_prr (cal : Cal) (k : Nat) : KC (Value × Hp × Nat) := (cutK (Lv.b (Lv.b (A 76))).c (codeE P cal (codeF P cal k) none 76 (cR (cR (cR code76))) (Lv.b (Lv.b (Lv.b (A 76)))) (doneK P results76) X0 (doneK P results76)))
noncomputable def B76_0 (cal : Cal) (k : Nat) (v0 : Value) (H : Hp) (n : Nat) : Res :=
binK P Go.BinOp.eql 44 (Go.Operand.tmp 3) (Go.Operand.const (Go.Value.slice none 0 0)) v0 (Go.Value.slice none 0 0) fun v4_3 =>
ifK v4_3 (
some ((Go.Value.slice none 0 0), H, n)) (
rowK P 44 0 [] H n fun v5_5 H_6 n_7 =>
stK (appendV P (bare H_6 n_7) 44 44 v5_5 v0) fun v7_9 H_10 n_11 =>
some (v7_9, H_10, n_11))
noncomputable def C76_0 (cal : Cal) (k : Nat) (v0 : Value) (H : Hp) (n : Nat) : Res := B76_0 cal k v0 H n
theorem h76_0 (cal : Cal) (k : Nat) (v0 : Value) (H : Hp) (n : Nat) : bodyE P cal A (k + 1) 76 [v0] H n = C76_0 cal k v0 H n := by
  have h : bodyE P cal A (k + 1) 76 [v0] H n = B76_0 cal k v0 H n := by
    rw [body_eq (fn := Go.Proofs.Try.f76) (c := code76) (rs := results76) (by kernel_rfl) (by kernel_rfl) (by kernel_rfl) (by kernel_rfl)]
    kernel_rfl
  rw [h, C76_0]
noncomputable def code77 : Code := codeOf 77
noncomputable def results77 : List ResultVar := resOf 77
noncomputable def K77_p (cal : Cal) (k : Nat) : KC (Value × Hp × Nat) := (cutK (A 77).c (codeE P cal (codeF P cal k) none 77 (cR code77) (Lv.b (A 77)) (doneK P results77) X0 (doneK P results77)))
noncomputable def K77_pr (cal : Cal) (k : Nat) : KC (Value × Hp × Nat) := (cutK (Lv.b (A 77)).c (codeE P cal (codeF P cal k) none 77 (cR (cR code77)) (Lv.b (Lv.b (A 77))) (doneK P results77) X0 (doneK P results77)))
noncomputable def K77_pxrl (cal : Cal) (k : Nat) : XC (Value × Hp × Nat) := (upX 0 (K77_pr cal k) X0)
noncomputable def K77_prll (cal : Cal) (k : Nat) : KC (Value × Hp × Nat) := (cutK (Lv.a (Lv.a (Lv.b (A 77)))).c (codeE P cal (codeF P cal k) none 77 (cR (cL (cL (cR code77)))) (Lv.b (Lv.a (Lv.a (Lv.b (A 77))))) (K77_pr cal k) (K77_pxrl cal k) (doneK P results77)))
noncomputable def K77_prllrl (cal : Cal) (k : Nat) : KC (Value × Hp × Nat) := (cutK (Lv.a (Lv.b (Lv.a (Lv.a (Lv.b (A 77)))))).c (codeE P cal (codeF P cal k) none 77 (cR (cL (cR (cL (cL (cR code77)))))) (Lv.b (Lv.a (Lv.b (Lv.a (Lv.a (Lv.b (A 77))))))) (K77_pr cal k) (K77_pxrl cal k) (doneK P results77)))
noncomputable def K77_prllrr (cal : Cal) (k : Nat) : KC (Value × Hp × Nat) := (cutK (Lv.b (Lv.b (Lv.a (Lv.a (Lv.b (A 77)))))).c (codeE P cal (codeF P cal k) none 77 (cR (cR (cR (cL (cL (cR code77)))))) (Lv.b (Lv.b (Lv.b (Lv.a (Lv.a (Lv.b (A 77))))))) (K77_pr cal k) (K77_pxrl cal k) (doneK P results77)))
noncomputable def K77_prllrrrl (cal : Cal) (k : Nat) : KC (Value × Hp × Nat) := (cutK (Lv.a (Lv.b (Lv.b (Lv.b (Lv.a (Lv.a (Lv.b (A 77)))))))).c (codeE P cal (codeF P cal k) none 77 (cR (cL (cR (cR (cR (cL (cL (cR code77)))))))) (Lv.b (Lv.a (Lv.b (Lv.b (Lv.b (Lv.a (Lv.a (Lv.b (A 77))))))))) (K77_pr cal k) (K77_pxrl cal k) (doneK P results77)))
noncomputable def K77_prr (cal : Cal) (k : Nat) : KC (Value × Hp × Nat) := (cutK (Lv.b (Lv.b (A 77))).c (codeE P cal (codeF P cal k) none 77 (cR (cR (cR code77))) (Lv.b (Lv.b (Lv.b (A 77)))) (doneK P results77) X0 (doneK P results77)))
noncomputable def B77_0 (cal : Cal) (k : Nat) (v0 v1 v2 v3 : Value) (H : Hp) (n : Nat) : Res :=
boxK 26 v0 H n fun v4_1 H_2 n_3 =>
allocK P 55 H_2 n_3 fun v8_4 H_5 n_6 =>
binK P Go.BinOp.eql 3 (Go.Operand.tmp 10) (Go.Operand.tmp 11) v2 v3 fun v12_9 =>
ifK v12_9 (
bindO (fieldAddrV P 26 v4_1 2) fun v13_11 =>
bindO (addrV v13_11) fun a_13 => bindO (loadV P H_5 24 a_13) fun v14_12 =>
bindO (indexAddrV P 24 v14_12 v1) fun v16_15 =>
bindO (fieldAddrV P 94 v16_15 1) fun v17_16 =>
bindO (addrV v17_16) fun a_18 => bindO (loadV P H_5 55 a_18) fun v18_17 =>
bindO (storeP P 55 v8_4 v18_17 H_5) fun H_20 =>
bindO (resV P (Tr.set Tr.nil 8 (some v8_4)) H_20 results77) fun vs_21 => some (oneV vs_21, H_20, n_6)) (
bindO (addrV v4_1) fun a_23 => bindO (loadV P H_5 26 a_23) fun v20_22 =>
callFK P cal 89 [v20_22, v2, v3] H_5 n_6 fun v23_26 H_27 n_28 =>
ifK v23_26 (
bindO (fieldAddrV P 26 v4_1 2) fun v24_30 =>
bindO (addrV v24_30) fun a_32 => bindO (loadV P H_27 24 a_32) fun v25_31 =>
bindO (indexAddrV P 24 v25_31 v1) fun v27_34 =>
bindO (fieldAddrV P 94 v27_34 2) fun v28_35 =>
bindO (addrV v28_35) fun a_37 => bindO (loadV P H_27 55 a_37) fun v29_36 =>
bindO (storeP P 55 v8_4 v29_36 H_27) fun H_39 =>
bindO (resV P (Tr.set Tr.nil 8 (some v8_4)) H_39 results77) fun vs_40 => some (oneV vs_40, H_39, n_28)) (
bindO (buildP P 55 []) fun v30_41 =>
bindO (storeP P 55 v8_4 v30_41 H_27) fun H_43 =>
bindO (resV P (Tr.set Tr.nil 8 (some v8_4)) H_43 results77) fun vs_44 => some (oneV vs_44, H_43, n_28)))
noncomputable def C77_0 (cal : Cal) (k : Nat) (v0 v1 v2 v3 : Value) (H : Hp) (n : Nat) : Res := B77_0 cal k v0 v1 v2 v3 H n
theorem h77_0 (cal : Cal) (k : Nat) (v0 v1 v2 v3 : Value) (H : Hp) (n : Nat) : bodyE P cal A (k + 1) 77 [v0, v1, v2, v3] H n = C77_0 cal k v0 v1 v2 v3 H n := by
  have h : bodyE P cal A (k + 1) 77 [v0, v1, v2, v3] H n = B77_0 cal k v0 v1 v2 v3 H n := by
    rw [body_eq (fn := Go.Proofs.Try.f77) (c := code77) (rs := results77) (by kernel_rfl) (by kernel_rfl) (by kernel_rfl) (by kernel_rfl)]
    kernel_rfl
  rw [h, C77_0]
noncomputable def code83 : Code := codeOf 83
noncomputable def results83 : List ResultVar := resOf 83
noncomputable def K83_p (cal : Cal) (k : Nat) : KC (Value × Hp × Nat) := (cutK (A 83).c (codeE P cal (codeF P cal k) none 83 (cR code83) (Lv.b (A 83)) (doneK P results83) X0 (doneK P results83)))
noncomputable def K83_pr (cal : Cal) (k : Nat) : KC (Value × Hp × Nat) := (cutK (Lv.b (A 83)).c (codeE P cal (codeF P cal k) none 83 (cR (cR code83)) (Lv.b (Lv.b (A 83))) (doneK P results83) X0 (doneK P results83)))
noncomputable def K83_prl (cal : Cal) (k : Nat) : KC (Value × Hp × Nat) := (cutK (Lv.a (Lv.b (A 83))).c (codeE P cal (codeF P cal k) none 83 (cR (cL (cR code83))) (Lv.b (Lv.a (Lv.b (A 83)))) (K83_pr cal k) X0 (doneK P results83)))
noncomputable def K83_pxrlr (cal : Cal) (k : Nat) : XC (Value × Hp × Nat) := (upX 0 (K83_pr cal k) X0)
noncomputable def K83_prlrl (cal : Cal) (k : Nat) (m1 : Nat) : KC (Value × Hp × Nat) := (fun T H n D => codeF P cal m1 (Lv.a (Lv.b (Lv.a (Lv.b (A 83))))) none 83 (cL (cR (cL (cR code83)))) (K83_pr cal k) (K83_pxrlr cal k) (doneK P results83) (cutT (Lv.a (Lv.b (Lv.a (Lv.b (A 83))))).c T) H n D)
noncomputable def K83_prlrll (cal : Cal) (k : Nat) (m1 : Nat) : KC (Value × Hp × Nat) := (cutK (Lv.a (Lv.a (Lv.b (Lv.a (Lv.b (A 83)))))).c (codeE P cal (codeF P cal m1) none 83 (cR (cL (cL (cR (cL (cR code83)))))) (Lv.b (Lv.a (Lv.a (Lv.b (Lv.a (Lv.b (A 83))))))) (K83_prlrl cal k m1) (K83_pxrlr cal k) (doneK P results83)))
noncomputable def K83_prlrllr (cal : Cal) (k : Nat) (m1 : Nat) : KC (Value × Hp × Nat) := (cutK (Lv.b (Lv.a (Lv.a (Lv.b (Lv.a (Lv.b (A 83))))))).c (codeE P cal (codeF P cal m1) none 83 (cR (cR (cL (cL (cR (cL (cR code83))))))) (Lv.b (Lv.b (Lv.a (Lv.a (Lv.b (Lv.a (Lv.b (A 83)))))))) (K83_prlrl cal k m1) (K83_pxrlr cal k) (doneK P results83)))
noncomputable def K83_prlrllrr (cal : Cal) (k : Nat) (m1 : Nat) : KC (Value × Hp × Nat) := (cutK (Lv.b (Lv.b (Lv.a (Lv.a (Lv.b (Lv.a (Lv.b (A 83)))))))).c (codeE P cal (codeF P cal m1) none 83 (cR (cR (cR (cL (cL (cR (cL (cR code83)))))))) (Lv.b (Lv.b (Lv.b (Lv.a (Lv.a (Lv.b (Lv.a (Lv.b (A 83))))))))) (K83_prlrl cal k m1) (K83_pxrlr cal k) (doneK P results83)))
noncomputable def K83_pxrlrllrrl (cal : Cal) (k : Nat) (m1 : Nat) : XC (Value × Hp × Nat) := (upX 1 (K83_prlrllrr cal k m1) (K83_pxrlr cal k))
noncomputable def K83_prlrllrrll (cal : Cal) (k : Nat) (m1 : Nat) : KC (Value × Hp × Nat) := (cutK (Lv.a (Lv.a (Lv.b (Lv.b (Lv.a (Lv.a (Lv.b (Lv.a (Lv.b (A 83)))))))))).c (codeE P cal (codeF P cal m1) none 83 (cR (cL (cL (cR (cR (cL (cL (cR (cL (cR code83)))))))))) (Lv.b (Lv.a (Lv.a (Lv.b (Lv.b (Lv.a (Lv.a (Lv.b (Lv.a (Lv.b (A 83))))))))))) (K83_prlrllrr cal k m1) (K83_pxrlrllrrl cal k m1) (doneK P results83)))
noncomputable def K83_prlrllrrllr (cal : Cal) (k : Nat) (m1 : Nat) : KC (Value × Hp × Nat) := (cutK (Lv.b (Lv.a (Lv.a (Lv.b (Lv.b (Lv.a (Lv.a (Lv.b (Lv.a (Lv.b (A 83))))))))))).c (codeE P cal (codeF P cal m1) none 83 (cR (cR (cL (cL (cR (cR (cL (cL (cR (cL (cR code83))))))))))) (Lv.b (Lv.b (Lv.a (Lv.a (Lv.b (Lv.b (Lv.a (Lv.a (Lv.b (Lv.a (Lv.b (A 83)))))))))))) (K83_prlrllrr cal k m1) (K83_pxrlrllrrl cal k m1) (doneK P results83)))
noncomputable def K83_prlrllrrllrrl (cal : Cal) (k : Nat) (m1 : Nat) : KC (Value × Hp × Nat) := (cutK (Lv.a (Lv.b (Lv.b (Lv.a (Lv.a (Lv.b (Lv.b (Lv.a (Lv.a (Lv.b (Lv.a (Lv.b (A 83))))))))))))).c (codeE P cal (codeF P cal m1) none 83 (cR (cL (cR (cR (cL (cL (cR (cR (cL (cL (cR (cL (cR code83))))))))))))) (Lv.b (Lv.a (Lv.b (Lv.b (Lv.a (Lv.a (Lv.b (Lv.b (Lv.a (Lv.a (Lv.b (Lv.a (Lv.b (A 83)))))))))))))) (K83_prlrllrr cal k m1) (K83_pxrlrllrrl cal k m1) (doneK P results83)))
noncomputable def K83_prr (cal : Cal) (k : Nat) : KC (Value × Hp × Nat) := (cutK (Lv.b (Lv.b (A 83))).c (codeE P cal (codeF P cal k) none 83 (cR (cR (cR code83))) (Lv.b (Lv.b (Lv.b (A 83)))) (doneK P results83) X0 (doneK P results83)))
noncomputable def E83_1 (cal : Cal) (k m1 : Nat) : KC (Value × Hp × Nat) := codeE P cal (codeF P cal m1) none 83 (cL (cL (cR (cL (cR code83))))) (Lv.a (Lv.a (Lv.b (Lv.a (Lv.b (A 83)))))) (K83_prlrl cal k m1) (K83_pxrlr cal k) (doneK P results83)
noncomputable def R83_1 (cal : Cal) (k m1 : Nat) : Value → Value → Value → Value → Hp → Nat → Res := fun u0 u3 u11 u12 H n => codeF P cal m1 (Lv.a (Lv.b (Lv.a (Lv.b (A 83))))) none 83 (cL (cR (cL (cR code83)))) (K83_pr cal k) (K83_pxrlr cal k) (doneK P results83) (Tr.set (Tr.set (Tr.set (Tr.set Tr.nil 12 (some u12)) 11 (some u11)) 3 (some u3)) 0 (some u0)) H n []
noncomputable def B83_1 (cal : Cal) (k m1 : Nat) (b1 : Value → Value → Value → Value → Hp → Nat → Res) (u0 u3 u11 u12 : Value) (H : Hp) (n : Nat) : Res :=
binK P Go.BinOp.lss 3 (Go.Operand.tmp 12) (Go.Operand.tmp 11) u12 u11 fun v13_13 =>
ifK v13_13 (
bindO (addrV u3) fun a_18 => bindO (loadV P H 111 a_18) fun v16_17 =>
callFK P cal 68 [u0, v16_17, u12] H n fun v18_20 H_21 n_22 =>
ifK v18_20 (
some ((Go.Value.bool false), H_21, n_22)) (
binK P Go.BinOp.add 3 (Go.Operand.tmp 12) (Go.Operand.const (Go.Value.int Go.IntKind.i64 1)) u12 (Go.Value.int Go.IntKind.i64 1) fun v19_24 =>
b1 u0 u3 u11 v19_24 H_21 n_22)) (
bindO (addrV u3) fun a_28 => bindO (loadV P H 111 a_28) fun v21_27 =>
callFK P cal 111 [u0, v21_27] H n fun v22_29 H_30 n_31 =>
some (v22_29, H_30, n_31))
noncomputable def C83_1 (cal : Cal) (k m1 : Nat) (b1 : Value → Value → Value → Value → Hp → Nat → Res) (u0 u3 u11 u12 : Value) (H : Hp) (n : Nat) : Res := B83_1 cal k m1 b1 u0 u3 u11 u12 H n
noncomputable def S83_1 (cal : Cal) (k : Nat) : Nat → Value → Value → Value → Value → Hp → Nat → Res := fun m => Nat.rec (motive := fun _ => Value → Value → Value → Value → Hp → Nat → Res) (C83_1 cal k 0 (fun _ _ _ _ _ _ => none)) (fun m ih => C83_1 cal k (m + 1) ih) m
theorem h83_1 (cal : Cal) (k m1 : Nat) (u0 u3 u11 u12 : Value) (H : Hp) (n : Nat) : labK (E83_1 cal k m1) (Tr.set (Tr.set (Tr.set (Tr.set Tr.nil 12 (some u12)) 11 (some u11)) 3 (some u3)) 0 (some u0)) H n [] = C83_1 cal k m1 (R83_1 cal k m1) u0 u3 u11 u12 H n := by
  have h : labK (E83_1 cal k m1) (Tr.set (Tr.set (Tr.set (Tr.set Tr.nil 12 (some u12)) 11 (some u11)) 3 (some u3)) 0 (some u0)) H n [] = B83_1 cal k m1 (R83_1 cal k m1) u0 u3 u11 u12 H n := by kernel_rfl
  rw [h, C83_1]
theorem q83_1 (cal : Cal) (k : Nat) : ∀ (m : Nat) (u0 u3 u11 u12 : Value) (H : Hp) (n : Nat), labK (E83_1 cal k m) (Tr.set (Tr.set (Tr.set (Tr.set Tr.nil 12 (some u12)) 11 (some u11)) 3 (some u3)) 0 (some u0)) H n [] = S83_1 cal k m u0 u3 u11 u12 H n
  | 0, u0, u3, u11, u12, H, n => by
    rw [h83_1]
    have e : R83_1 cal k 0 = fun _ _ _ _ _ _ => none := by funext u0 u3 u11 u12 H n; kernel_rfl
    rw [e]; rfl
  | m + 1, u0, u3, u11, u12, H, n => by
    rw [h83_1]
    have e : R83_1 cal k (m + 1) = S83_1 cal k m := by
      funext u0 u3 u11 u12 H n
      have e : R83_1 cal k (m + 1) u0 u3 u11 u12 H n = labK (E83_1 cal k m) (Tr.set (Tr.set (Tr.set (Tr.set Tr.nil 12 (some u12)) 11 (some u11)) 3 (some u3)) 0 (some u0)) H n [] := by kernel_rfl
      rw [e]; exact q83_1 ..
    rw [e]; rfl
noncomputable def B83_0 (cal : Cal) (k : Nat) (j1 : Value → Value → Value → Value → Hp → Nat → Res) (v0 v1 : Value) (H : Hp) (n : Nat) : Res :=
boxK 111 v1 H n fun v3_1 H_2 n_3 =>
bindO (nilV v0) fun v7_6 =>
bindO (fieldAddrV P 117 v7_6 0) fun v8_7 =>
bindO (fieldAddrV P 35 v8_7 0) fun v9_8 =>
bindO (addrV v9_8) fun a_10 => bindO (loadV P H_2 31 a_10) fun v10_9 =>
bindO (lenV P 31 v10_9) fun v11_11 =>
j1 v0 v3_1 v11_11 (Go.Value.int Go.IntKind.i64 0) H_2 n_3
noncomputable def C83_0 (cal : Cal) (k : Nat) (v0 v1 : Value) (H : Hp) (n : Nat) : Res := B83_0 cal k (S83_1 cal k k) v0 v1 H n
theorem h83_0 (cal : Cal) (k : Nat) (v0 v1 : Value) (H : Hp) (n : Nat) : bodyE P cal A (k + 1) 83 [v0, v1] H n = C83_0 cal k v0 v1 H n := by
  have h : bodyE P cal A (k + 1) 83 [v0, v1] H n = B83_0 cal k (fun u0 u3 u11 u12 H n => labK (E83_1 cal k k) (Tr.set (Tr.set (Tr.set (Tr.set Tr.nil 12 (some u12)) 11 (some u11)) 3 (some u3)) 0 (some u0)) H n []) v0 v1 H n := by
    rw [body_eq (fn := Go.Proofs.Try.f83) (c := code83) (rs := results83) (by kernel_rfl) (by kernel_rfl) (by kernel_rfl) (by kernel_rfl)]
    kernel_rfl
  rw [h, C83_0]
  have e1 : (fun u0 u3 u11 u12 H n => labK (E83_1 cal k k) (Tr.set (Tr.set (Tr.set (Tr.set Tr.nil 12 (some u12)) 11 (some u11)) 3 (some u3)) 0 (some u0)) H n []) = (S83_1 cal k k) := by funext u0 u3 u11 u12 H n; exact q83_1 ..
  rw [e1]
noncomputable def code85 : Code := codeOf 85
noncomputable def results85 : List ResultVar := resOf 85
noncomputable def K85_p (cal : Cal) (k : Nat) : KC (Value × Hp × Nat) := (cutK (A 85).c (codeE P cal (codeF P cal k) none 85 (cR code85) (Lv.b (A 85)) (doneK P results85) X0 (doneK P results85)))
noncomputable def K85_pr (cal : Cal) (k : Nat) : KC (Value × Hp × Nat) := (cutK (Lv.b (A 85)).c (codeE P cal (codeF P cal k) none 85 (cR (cR code85)) (Lv.b (Lv.b (A 85))) (doneK P results85) X0 (doneK P results85)))
noncomputable def K85_prr (cal : Cal) (k : Nat) : KC (Value × Hp × Nat) := (cutK (Lv.b (Lv.b (A 85))).c (codeE P cal (codeF P cal k) none 85 (cR (cR (cR code85))) (Lv.b (Lv.b (Lv.b (A 85)))) (doneK P results85) X0 (doneK P results85)))
noncomputable def K85_prrr (cal : Cal) (k : Nat) : KC (Value × Hp × Nat) := (cutK (Lv.b (Lv.b (Lv.b (A 85)))).c (codeE P cal (codeF P cal k) none 85 (cR (cR (cR (cR code85)))) (Lv.b (Lv.b (Lv.b (Lv.b (A 85))))) (doneK P results85) X0 (doneK P results85)))
noncomputable def K85_prrrr (cal : Cal) (k : Nat) : KC (Value × Hp × Nat) := (cutK (Lv.b (Lv.b (Lv.b (Lv.b (A 85))))).c (codeE P cal (codeF P cal k) none 85 (cR (cR (cR (cR (cR code85))))) (Lv.b (Lv.b (Lv.b (Lv.b (Lv.b (A 85)))))) (doneK P results85) X0 (doneK P results85)))
noncomputable def K85_prrrrr (cal : Cal) (k : Nat) : KC (Value × Hp × Nat) := (cutK (Lv.b (Lv.b (Lv.b (Lv.b (Lv.b (A 85)))))).c (codeE P cal (codeF P cal k) none 85 (cR (cR (cR (cR (cR (cR code85)))))) (Lv.b (Lv.b (Lv.b (Lv.b (Lv.b (Lv.b (A 85))))))) (doneK P results85) X0 (doneK P results85)))
noncomputable def B85_0 (cal : Cal) (k : Nat) (v0 : Value) (H : Hp) (n : Nat) : Res :=
boxK 105 v0 H n fun v1_1 H_2 n_3 =>
allocK P 44 H_2 n_3 fun v3_5 H_6 n_7 =>
allocK P 170 H_6 n_7 fun v4_8 H_9 n_10 =>
bindO (storeP P 170 v4_8 (Value.func (Go.Fn.func 112) ⟨[]⟩ ⟨[v3_5, v1_1, v4_8]⟩) H_9) fun H_13 =>
bindO (addrV v4_8) fun a_15 => bindO (loadV P H_13 170 a_15) fun v6_14 =>
callVK P cal v6_14 [(Go.Value.slice none 0 0), (Go.Value.int Go.IntKind.i64 0)] H_13 n_10 fun v7_16 H_17 n_18 =>
bindO (addrV v3_5) fun a_20 => bindO (loadV P H_17 44 a_20) fun v8_19 =>
some (v8_19, H_17, n_18)
noncomputable def C85_0 (cal : Cal) (k : Nat) (v0 : Value) (H : Hp) (n : Nat) : Res := B85_0 cal k v0 H n
theorem h85_0 (cal : Cal) (k : Nat) (v0 : Value) (H : Hp) (n : Nat) : bodyE P cal A (k + 1) 85 [v0] H n = C85_0 cal k v0 H n := by
  have h : bodyE P cal A (k + 1) 85 [v0] H n = B85_0 cal k v0 H n := by
    rw [body_eq (fn := Go.Proofs.Try.f85) (c := code85) (rs := results85) (by kernel_rfl) (by kernel_rfl) (by kernel_rfl) (by kernel_rfl)]
    kernel_rfl
  rw [h, C85_0]
end Go.Proofs.Ytakjjillnllocaa.G
