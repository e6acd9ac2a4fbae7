/- The texts of functions, each with the proof that the evaluator says the same. -/
import Derived.Test.YtekajfobmnedjaaH1
open Go Go.Ev
set_option maxRecDepth 1000000
set_option linter.unusedVariables false
noncomputable section
namespace Go.Proofs.Ytekajfobmnedjaa.G
noncomputable def code63 : Code := codeOf 63
noncomputable def results63 : List ResultVar := resOf 63
noncomputable def K63_p (cal : Cal) (k : Nat) : KR := (cutK (A 63).c (codeE P cal (codeF P cal k) none 63 (cR code63) (Lv.b (A 63)) (doneK P results63) X0 (doneK P results63)))
noncomputable def K63_pr (cal : Cal) (k : Nat) : KR := (cutK (Lv.b (A 63)).c (codeE P cal (codeF P cal k) none 63 (cR (cR code63)) (Lv.b (Lv.b (A 63))) (doneK P results63) X0 (doneK P results63)))
noncomputable def K63_prl (cal : Cal) (k : Nat) : KR := (cutK (Lv.a (Lv.b (A 63))).c (codeE P cal (codeF P cal k) none 63 (cR (cL (cR code63))) (Lv.b (Lv.a (Lv.b (A 63)))) (K63_pr cal k) X0 (doneK P results63)))
noncomputable def K63_prlrl (cal : Cal) (k : Nat) : KR := (cutK (Lv.a (Lv.b (Lv.a (Lv.b (A 63))))).c (codeE P cal (codeF P cal k) none 63 (cR (cL (cR (cL (cR code63))))) (Lv.b (Lv.a (Lv.b (Lv.a (Lv.b (A 63)))))) (K63_pr cal k) X0 (doneK P results63)))
noncomputable def K63_prr (cal : Cal) (k : Nat) : KR := (cutK (Lv.b (Lv.b (A 63))).c (codeE P cal (codeF P cal k) none 63 (cR (cR (cR code63))) (Lv.b (Lv.b (Lv.b (A 63)))) (doneK P results63) X0 (doneK P results63)))
noncomputable def K63_prrl (cal : Cal) (k : Nat) : KR := (cutK (Lv.a (Lv.b (Lv.b (A 63)))).c (codeE P cal (codeF P cal k) none 63 (cR (cL (cR (cR code63)))) (Lv.b (Lv.a (Lv.b (Lv.b (A 63))))) (K63_prr cal k) X0 (doneK P results63)))
noncomputable def K63_prrlrl (cal : Cal) (k : Nat) : KR := (cutK (Lv.a (Lv.b (Lv.a (Lv.b (Lv.b (A 63)))))).c (codeE P cal (codeF P cal k) none 63 (cR (cL (cR (cL (cR (cR code63)))))) (Lv.b (Lv.a (Lv.b (Lv.a (Lv.b (Lv.b (A 63))))))) (K63_prr cal k) X0 (doneK P results63)))
noncomputable def K63_prrr (cal : Cal) (k : Nat) : KR := (cutK (Lv.b (Lv.b (Lv.b (A 63)))).c (codeE P cal (codeF P cal k) none 63 (cR (cR (cR (cR code63)))) (Lv.b (Lv.b (Lv.b (Lv.b (A 63))))) (doneK P results63) X0 (doneK P results63)))
noncomputable def K63_prrrl (cal : Cal) (k : Nat) : KR := (cutK (Lv.a (Lv.b (Lv.b (Lv.b (A 63))))).c (codeE P cal (codeF P cal k) none 63 (cR (cL (cR (cR (cR code63))))) (Lv.b (Lv.a (Lv.b (Lv.b (Lv.b (A 63)))))) (K63_prrr cal k) X0 (doneK P results63)))
noncomputable def K63_pxrrrlr (cal : Cal) (k : Nat) : XR := (upX 0 (K63_prrr cal k) X0)
noncomputable def K63_prrrlrl (cal : Cal) (k : Nat) (m1 : Nat) : KR := (fun T H n D => codeF P cal m1 (Lv.a (Lv.b (Lv.a (Lv.b (Lv.b (Lv.b (A 63))))))) none 63 (cL (cR (cL (cR (cR (cR code63)))))) (K63_prrr cal k) (K63_pxrrrlr cal k) (doneK P results63) (cutT (Lv.a (Lv.b (Lv.a (Lv.b (Lv.b (Lv.b (A 63))))))).c T) H n D)
noncomputable def K63_prrrlrll (cal : Cal) (k : Nat) (m1 : Nat) : KR := (cutK (Lv.a (Lv.a (Lv.b (Lv.a (Lv.b (Lv.b (Lv.b (A 63)))))))).c (codeE P cal (codeF P cal m1) none 63 (cR (cL (cL (cR (cL (cR (cR (cR code63)))))))) (Lv.b (Lv.a (Lv.a (Lv.b (Lv.a (Lv.b (Lv.b (Lv.b (A 63))))))))) (K63_prrrlrl cal k m1) (K63_pxrrrlr cal k) (doneK P results63)))
noncomputable def K63_prrrlrlll (cal : Cal) (k : Nat) (m1 : Nat) : KR := (cutK (Lv.a (Lv.a (Lv.a (Lv.b (Lv.a (Lv.b (Lv.b (Lv.b (A 63))))))))).c (codeE P cal (codeF P cal m1) none 63 (cR (cL (cL (cL (cR (cL (cR (cR (cR code63))))))))) (Lv.b (Lv.a (Lv.a (Lv.a (Lv.b (Lv.a (Lv.b (Lv.b (Lv.b (A 63)))))))))) (K63_prrrlrll cal k m1) (K63_pxrrrlr cal k) (doneK P results63)))
noncomputable def K63_prrrlrllr (cal : Cal) (k : Nat) (m1 : Nat) : KR := (cutK (Lv.b (Lv.a (Lv.a (Lv.b (Lv.a (Lv.b (Lv.b (Lv.b (A 63))))))))).c (codeE P cal (codeF P cal m1) none 63 (cR (cR (cL (cL (cR (cL (cR (cR (cR code63))))))))) (Lv.b (Lv.b (Lv.a (Lv.a (Lv.b (Lv.a (Lv.b (Lv.b (Lv.b (A 63)))))))))) (K63_prrrlrl cal k m1) (K63_pxrrrlr cal k) (doneK P results63)))
noncomputable def K63_pxrrrlrllrl (cal : Cal) (k : Nat) (m1 : Nat) : XR := (upX 1 (K63_prrrlrllr cal k m1) (K63_pxrrrlr cal k))
noncomputable def K63_prrrlrllrll (cal : Cal) (k : Nat) (m1 : Nat) : KR := (cutK (Lv.a (Lv.a (Lv.b (Lv.a (Lv.a (Lv.b (Lv.a (Lv.b (Lv.b (Lv.b (A 63))))))))))).c (codeE P cal (codeF P cal m1) none 63 (cR (cL (cL (cR (cL (cL (cR (cL (cR (cR (cR code63))))))))))) (Lv.b (Lv.a (Lv.a (Lv.b (Lv.a (Lv.a (Lv.b (Lv.a (Lv.b (Lv.b (Lv.b (A 63)))))))))))) (K63_prrrlrllr cal k m1) (K63_pxrrrlrllrl cal k m1) (doneK P results63)))
noncomputable def K63_prrrlrllrllrl (cal : Cal) (k : Nat) (m1 : Nat) : KR := (cutK (Lv.a (Lv.b (Lv.a (Lv.a (Lv.b (Lv.a (Lv.a (Lv.b (Lv.a (Lv.b (Lv.b (Lv.b (A 63))))))))))))).c (codeE P cal (codeF P cal m1) none 63 (cR (cL (cR (cL (cL (cR (cL (cL (cR (cL (cR (cR (cR code63))))))))))))) (Lv.b (Lv.a (Lv.b (Lv.a (Lv.a (Lv.b (Lv.a (Lv.a (Lv.b (Lv.a (Lv.b (Lv.b (Lv.b (A 63)))))))))))))) (K63_prrrlrllr cal k m1) (K63_pxrrrlrllrl cal k m1) (doneK P results63)))
noncomputable def K63_prrrr (cal : Cal) (k : Nat) : KR := (cutK (Lv.b (Lv.b (Lv.b (Lv.b (A 63))))).c (codeE P cal (codeF P cal k) none 63 (cR (cR (cR (cR (cR code63))))) (Lv.b (Lv.b (Lv.b (Lv.b (Lv.b (A 63)))))) (doneK P results63) X0 (doneK P results63)))
noncomputable def K63_prrrrl (cal : Cal) (k : Nat) : KR := (cutK (Lv.a (Lv.b (Lv.b (Lv.b (Lv.b (A 63)))))).c (codeE P cal (codeF P cal k) none 63 (cR (cL (cR (cR (cR (cR code63)))))) (Lv.b (Lv.a (Lv.b (Lv.b (Lv.b (Lv.b (A 63))))))) (K63_prrrr cal k) X0 (doneK P results63)))
noncomputable def K63_pxrrrrlr (cal : Cal) (k : Nat) : XR := (upX 2 (K63_prrrr cal k) X0)
noncomputable def K63_prrrrlrl (cal : Cal) (k : Nat) (m1 : Nat) : KR := (fun T H n D => codeF P cal m1 (Lv.a (Lv.b (Lv.a (Lv.b (Lv.b (Lv.b (Lv.b (A 63)))))))) none 63 (cL (cR (cL (cR (cR (cR (cR code63))))))) (K63_prrrr cal k) (K63_pxrrrrlr cal k) (doneK P results63) (cutT (Lv.a (Lv.b (Lv.a (Lv.b (Lv.b (Lv.b (Lv.b (A 63)))))))).c T) H n D)
noncomputable def K63_prrrrlrll (cal : Cal) (k : Nat) (m1 : Nat) : KR := (cutK (Lv.a (Lv.a (Lv.b (Lv.a (Lv.b (Lv.b (Lv.b (Lv.b (A 63))))))))).c (codeE P cal (codeF P cal m1) none 63 (cR (cL (cL (cR (cL (cR (cR (cR (cR code63))))))))) (Lv.b (Lv.a (Lv.a (Lv.b (Lv.a (Lv.b (Lv.b (Lv.b (Lv.b (A 63)))))))))) (K63_prrrrlrl cal k m1) (K63_pxrrrrlr cal k) (doneK P results63)))
noncomputable def K63_prrrrlrlll (cal : Cal) (k : Nat) (m1 : Nat) : KR := (cutK (Lv.a (Lv.a (Lv.a (Lv.b (Lv.a (Lv.b (Lv.b (Lv.b (Lv.b (A 63)))))))))).c (codeE P cal (codeF P cal m1) none 63 (cR (cL (cL (cL (cR (cL (cR (cR (cR (cR code63)))))))))) (Lv.b (Lv.a (Lv.a (Lv.a (Lv.b (Lv.a (Lv.b (Lv.b (Lv.b (Lv.b (A 63))))))))))) (K63_prrrrlrll cal k m1) (K63_pxrrrrlr cal k) (doneK P results63)))
noncomputable def K63_prrrrlrllr (cal : Cal) (k : Nat) (m1 : Nat) : KR := (cutK (Lv.b (Lv.a (Lv.a (Lv.b (Lv.a (Lv.b (Lv.b (Lv.b (Lv.b (A 63)))))))))).c (codeE P cal (codeF P cal m1) none 63 (cR (cR (cL (cL (cR (cL (cR (cR (cR (cR code63)))))))))) (Lv.b (Lv.b (Lv.a (Lv.a (Lv.b (Lv.a (Lv.b (Lv.b (Lv.b (Lv.b (A 63))))))))))) (K63_prrrrlrl cal k m1) (K63_pxrrrrlr cal k) (doneK P results63)))
noncomputable def K63_pxrrrrlrllrl (cal : Cal) (k : Nat) (m1 : Nat) : XR := (upX 3 (K63_prrrrlrllr cal k m1) (K63_pxrrrrlr cal k))
noncomputable def K63_prrrrlrllrll (cal : Cal) (k : Nat) (m1 : Nat) : KR := (cutK (Lv.a (Lv.a (Lv.b (Lv.a (Lv.a (Lv.b (Lv.a (Lv.b (Lv.b (Lv.b (Lv.b (A 63)))))))))))).c (codeE P cal (codeF P cal m1) none 63 (cR (cL (cL (cR (cL (cL (cR (cL (cR (cR (cR (cR code63)))))))))))) (Lv.b (Lv.a (Lv.a (Lv.b (Lv.a (Lv.a (Lv.b (Lv.a (Lv.b (Lv.b (Lv.b (Lv.b (A 63))))))))))))) (K63_prrrrlrllr cal k m1) (K63_pxrrrrlrllrl cal k m1) (doneK P results63)))
noncomputable def K63_prrrrlrllrllr (cal : Cal) (k : Nat) (m1 : Nat) : KR := (cutK (Lv.b (Lv.a (Lv.a (Lv.b (Lv.a (Lv.a (Lv.b (Lv.a (Lv.b (Lv.b (Lv.b (Lv.b (A 63))))))))))))).c (codeE P cal (codeF P cal m1) none 63 (cR (cR (cL (cL (cR (cL (cL (cR (cL (cR (cR (cR (cR code63))))))))))))) (Lv.b (Lv.b (Lv.a (Lv.a (Lv.b (Lv.a (Lv.a (Lv.b (Lv.a (Lv.b (Lv.b (Lv.b (Lv.b (A 63)))))))))))))) (K63_prrrrlrllr cal k m1) (K63_pxrrrrlrllrl cal k m1) (doneK P results63)))
noncomputable def K63_prrrrlrllrllrrl (cal : Cal) (k : Nat) (m1 : Nat) : KR := (cutK (Lv.a (Lv.b (Lv.b (Lv.a (Lv.a (Lv.b (Lv.a (Lv.a (Lv.b (Lv.a (Lv.b (Lv.b (Lv.b (Lv.b (A 63))))))))))))))).c (codeE P cal (codeF P cal m1) none 63 (cR (cL (cR (cR (cL (cL (cR (cL (cL (cR (cL (cR (cR (cR (cR code63))))))))))))))) (Lv.b (Lv.a (Lv.b (Lv.b (Lv.a (Lv.a (Lv.b (Lv.a (Lv.a (Lv.b (Lv.a (Lv.b (Lv.b (Lv.b (Lv.b (A 63)))))))))))))))) (K63_prrrrlrllr cal k m1) (K63_pxrrrrlrllrl cal k m1) (doneK P results63)))
noncomputable def K63_prrrrr (cal : Cal) (k : Nat) : KR := (cutK (Lv.b (Lv.b (Lv.b (Lv.b (Lv.b (A 63)))))).c (codeE P cal (codeF P cal k) none 63 (cR (cR (cR (cR (cR (cR code63)))))) (Lv.b (Lv.b (Lv.b (Lv.b (Lv.b (Lv.b (A 63))))))) (doneK P results63) X0 (doneK P results63)))
noncomputable def K63_prrrrrl (cal : Cal) (k : Nat) : KR := (cutK (Lv.a (Lv.b (Lv.b (Lv.b (Lv.b (Lv.b (A 63))))))).c (codeE P cal (codeF P cal k) none 63 (cR (cL (cR (cR (cR (cR (cR code63))))))) (Lv.b (Lv.a (Lv.b (Lv.b (Lv.b (Lv.b (Lv.b (A 63)))))))) (K63_prrrrr cal k) X0 (doneK P results63)))
noncomputable def K63_pxrrrrrlr (cal : Cal) (k : Nat) : XR := (upX 4 (K63_prrrrr cal k) X0)
noncomputable def K63_prrrrrlrl (cal : Cal) (k : Nat) (m1 : Nat) : KR := (fun T H n D => codeF P cal m1 (Lv.a (Lv.b (Lv.a (Lv.b (Lv.b (Lv.b (Lv.b (Lv.b (A 63))))))))) none 63 (cL (cR (cL (cR (cR (cR (cR (cR code63)))))))) (K63_prrrrr cal k) (K63_pxrrrrrlr cal k) (doneK P results63) (cutT (Lv.a (Lv.b (Lv.a (Lv.b (Lv.b (Lv.b (Lv.b (Lv.b (A 63))))))))).c T) H n D)
noncomputable def K63_prrrrrlrll (cal : Cal) (k : Nat) (m1 : Nat) : KR := (cutK (Lv.a (Lv.a (Lv.b (Lv.a (Lv.b (Lv.b (Lv.b (Lv.b (Lv.b (A 63)))))))))).c (codeE P cal (codeF P cal m1) none 63 (cR (cL (cL (cR (cL (cR (cR (cR (cR (cR code63)))))))))) (Lv.b (Lv.a (Lv.a (Lv.b (Lv.a (Lv.b (Lv.b (Lv.b (Lv.b (Lv.b (A 63))))))))))) (K63_prrrrrlrl cal k m1) (K63_pxrrrrrlr cal k) (doneK P results63)))
noncomputable def K63_prrrrrlrlll (cal : Cal) (k : Nat) (m1 : Nat) : KR := (cutK (Lv.a (Lv.a (Lv.a (Lv.b (Lv.a (Lv.b (Lv.b (Lv.b (Lv.b (Lv.b (A 63))))))))))).c (codeE P cal (codeF P cal m1) none 63 (cR (cL (cL (cL (cR (cL (cR (cR (cR (cR (cR code63))))))))))) (Lv.b (Lv.a (Lv.a (Lv.a (Lv.b (Lv.a (Lv.b (Lv.b (Lv.b (Lv.b (Lv.b (A 63)))))))))))) (K63_prrrrrlrll cal k m1) (K63_pxrrrrrlr cal k) (doneK P results63)))
noncomputable def K63_prrrrrlrllr (cal : Cal) (k : Nat) (m1 : Nat) : KR := (cutK (Lv.b (Lv.a (Lv.a (Lv.b (Lv.a (Lv.b (Lv.b (Lv.b (Lv.b (Lv.b (A 63))))))))))).c (codeE P cal (codeF P cal m1) none 63 (cR (cR (cL (cL (cR (cL (cR (cR (cR (cR (cR code63))))))))))) (Lv.b (Lv.b (Lv.a (Lv.a (Lv.b (Lv.a (Lv.b (Lv.b (Lv.b (Lv.b (Lv.b (A 63)))))))))))) (K63_prrrrrlrl cal k m1) (K63_pxrrrrrlr cal k) (doneK P results63)))
noncomputable def K63_pxrrrrrlrllrl (cal : Cal) (k : Nat) (m1 : Nat) : XR := (upX 5 (K63_prrrrrlrllr cal k m1) (K63_pxrrrrrlr cal k))
noncomputable def K63_prrrrrlrllrll (cal : Cal) (k : Nat) (m1 : Nat) : KR := (cutK (Lv.a (Lv.a (Lv.b (Lv.a (Lv.a (Lv.b (Lv.a (Lv.b (Lv.b (Lv.b (Lv.b (Lv.b (A 63))))))))))))).c (codeE P cal (codeF P cal m1) none 63 (cR (cL (cL (cR (cL (cL (cR (cL (cR (cR (cR (cR (cR code63))))))))))))) (Lv.b (Lv.a (Lv.a (Lv.b (Lv.a (Lv.a (Lv.b (Lv.a (Lv.b (Lv.b (Lv.b (Lv.b (Lv.b (A 63)))))))))))))) (K63_prrrrrlrllr cal k m1) (K63_pxrrrrrlrllrl cal k m1) (doneK P results63)))
noncomputable def K63_prrrrrlrllrllr (cal : Cal) (k : Nat) (m1 : Nat) : KR := (cutK (Lv.b (Lv.a (Lv.a (Lv.b (Lv.a (Lv.a (Lv.b (Lv.a (Lv.b (Lv.b (Lv.b (Lv.b (Lv.b (A 63)))))))))))))).c (codeE P cal (codeF P cal m1) none 63 (cR (cR (cL (cL (cR (cL (cL (cR (cL (cR (cR (cR (cR (cR code63)))))))))))))) (Lv.b (Lv.b (Lv.a (Lv.a (Lv.b (Lv.a (Lv.a (Lv.b (Lv.a (Lv.b (Lv.b (Lv.b (Lv.b (Lv.b (A 63))))))))))))))) (K63_prrrrrlrllr cal k m1) (K63_pxrrrrrlrllrl cal k m1) (doneK P results63)))
noncomputable def K63_prrrrrlrllrllrl (cal : Cal) (k : Nat) (m1 : Nat) : KR := (cutK (Lv.a (Lv.b (Lv.a (Lv.a (Lv.b (Lv.a (Lv.a (Lv.b (Lv.a (Lv.b (Lv.b (Lv.b (Lv.b (Lv.b (A 63))))))))))))))).c (codeE P cal (codeF P cal m1) none 63 (cR (cL (cR (cL (cL (cR (cL (cL (cR (cL (cR (cR (cR (cR (cR code63))))))))))))))) (Lv.b (Lv.a (Lv.b (Lv.a (Lv.a (Lv.b (Lv.a (Lv.a (Lv.b (Lv.a (Lv.b (Lv.b (Lv.b (Lv.b (Lv.b (A 63)))))))))))))))) (K63_prrrrrlrllrllr cal k m1) (K63_pxrrrrrlrllrl cal k m1) (doneK P results63)))
noncomputable def K63_prrrrrlrllrllrlrl (cal : Cal) (k : Nat) (m1 : Nat) : KR := (cutK (Lv.a (Lv.b (Lv.a (Lv.b (Lv.a (Lv.a (Lv.b (Lv.a (Lv.a (Lv.b (Lv.a (Lv.b (Lv.b (Lv.b (Lv.b (Lv.b (A 63))))))))))))))))).c (codeE P cal (codeF P cal m1) none 63 (cR (cL (cR (cL (cR (cL (cL (cR (cL (cL (cR (cL (cR (cR (cR (cR (cR code63))))))))))))))))) (Lv.b (Lv.a (Lv.b (Lv.a (Lv.b (Lv.a (Lv.a (Lv.b (Lv.a (Lv.a (Lv.b (Lv.a (Lv.b (Lv.b (Lv.b (Lv.b (Lv.b (A 63)))))))))))))))))) (K63_prrrrrlrllrllr cal k m1) (K63_pxrrrrrlrllrl cal k m1) (doneK P results63)))
noncomputable def K63_prrrrrlrllrllrr (cal : Cal) (k : Nat) (m1 : Nat) : KR := (cutK (Lv.b (Lv.b (Lv.a (Lv.a (Lv.b (Lv.a (Lv.a (Lv.b (Lv.a (Lv.b (Lv.b (Lv.b (Lv.b (Lv.b (A 63))))))))))))))).c (codeE P cal (codeF P cal m1) none 63 (cR (cR (cR (cL (cL (cR (cL (cL (cR (cL (cR (cR (cR (cR (cR code63))))))))))))))) (Lv.b (Lv.b (Lv.b (Lv.a (Lv.a (Lv.b (Lv.a (Lv.a (Lv.b (Lv.a (Lv.b (Lv.b (Lv.b (Lv.b (Lv.b (A 63)))))))))))))))) (K63_prrrrrlrllr cal k m1) (K63_pxrrrrrlrllrl cal k m1) (doneK P results63)))
noncomputable def K63_pxrrrrrlrllrllrrr (cal : Cal) (k : Nat) (m1 : Nat) : XR := (upX 6 (K63_prrrrrlrllr cal k m1) (K63_pxrrrrrlrllrl cal k m1))
noncomputable def K63_prrrrrlrllrllrrrl (cal : Cal) (k : Nat) (m1 : Nat) (m2 : Nat) : KR := (fun T H n D => codeF P cal m2 (Lv.a (Lv.b (Lv.b (Lv.b (Lv.a (Lv.a (Lv.b (Lv.a (Lv.a (Lv.b (Lv.a (Lv.b (Lv.b (Lv.b (Lv.b (Lv.b (A 63))))))))))))))))) none 63 (cL (cR (cR (cR (cL (cL (cR (cL (cL (cR (cL (cR (cR (cR (cR (cR code63)))))))))))))))) (K63_prrrrrlrllr cal k m1) (K63_pxrrrrrlrllrllrrr cal k m1) (doneK P results63) (cutT (Lv.a (Lv.b (Lv.b (Lv.b (Lv.a (Lv.a (Lv.b (Lv.a (Lv.a (Lv.b (Lv.a (Lv.b (Lv.b (Lv.b (Lv.b (Lv.b (A 63))))))))))))))))).c T) H n D)
noncomputable def K63_prrrrrlrllrllrrrll (cal : Cal) (k : Nat) (m1 : Nat) (m2 : Nat) : KR := (cutK (Lv.a (Lv.a (Lv.b (Lv.b (Lv.b (Lv.a (Lv.a (Lv.b (Lv.a (Lv.a (Lv.b (Lv.a (Lv.b (Lv.b (Lv.b (Lv.b (Lv.b (A 63)))))))))))))))))).c (codeE P cal (codeF P cal m2) none 63 (cR (cL (cL (cR (cR (cR (cL (cL (cR (cL (cL (cR (cL (cR (cR (cR (cR (cR code63)))))))))))))))))) (Lv.b (Lv.a (Lv.a (Lv.b (Lv.b (Lv.b (Lv.a (Lv.a (Lv.b (Lv.a (Lv.a (Lv.b (Lv.a (Lv.b (Lv.b (Lv.b (Lv.b (Lv.b (A 63))))))))))))))))))) (K63_prrrrrlrllrllrrrl cal k m1 m2) (K63_pxrrrrrlrllrllrrr cal k m1) (doneK P results63)))
noncomputable def K63_prrrrrlrllrllrrrlll (cal : Cal) (k : Nat) (m1 : Nat) (m2 : Nat) : KR := (cutK (Lv.a (Lv.a (Lv.a (Lv.b (Lv.b (Lv.b (Lv.a (Lv.a (Lv.b (Lv.a (Lv.a (Lv.b (Lv.a (Lv.b (Lv.b (Lv.b (Lv.b (Lv.b (A 63))))))))))))))))))).c (codeE P cal (codeF P cal m2) none 63 (cR (cL (cL (cL (cR (cR (cR (cL (cL (cR (cL (cL (cR (cL (cR (cR (cR (cR (cR code63))))))))))))))))))) (Lv.b (Lv.a (Lv.a (Lv.a (Lv.b (Lv.b (Lv.b (Lv.a (Lv.a (Lv.b (Lv.a (Lv.a (Lv.b (Lv.a (Lv.b (Lv.b (Lv.b (Lv.b (Lv.b (A 63)))))))))))))))))))) (K63_prrrrrlrllrllrrrll cal k m1 m2) (K63_pxrrrrrlrllrllrrr cal k m1) (doneK P results63)))
noncomputable def K63_prrrrrlrllrllrrrllr (cal : Cal) (k : Nat) (m1 : Nat) (m2 : Nat) : KR := (cutK (Lv.b (Lv.a (Lv.a (Lv.b (Lv.b (Lv.b (Lv.a (Lv.a (Lv.b (Lv.a (Lv.a (Lv.b (Lv.a (Lv.b (Lv.b (Lv.b (Lv.b (Lv.b (A 63))))))))))))))))))).c (codeE P cal (codeF P cal m2) none 63 (cR (cR (cL (cL (cR (cR (cR (cL (cL (cR (cL (cL (cR (cL (cR (cR (cR (cR (cR code63))))))))))))))))))) (Lv.b (Lv.b (Lv.a (Lv.a (Lv.b (Lv.b (Lv.b (Lv.a (Lv.a (Lv.b (Lv.a (Lv.a (Lv.b (Lv.a (Lv.b (Lv.b (Lv.b (Lv.b (Lv.b (A 63)))))))))))))))))))) (K63_prrrrrlrllrllrrrl cal k m1 m2) (K63_pxrrrrrlrllrllrrr cal k m1) (doneK P results63)))
noncomputable def K63_pxrrrrrlrllrllrrrllrl (cal : Cal) (k : Nat) (m1 : Nat) (m2 : Nat) : XR := (upX 7 (K63_prrrrrlrllrllrrrllr cal k m1 m2) (K63_pxrrrrrlrllrllrrr cal k m1))
noncomputable def K63_prrrrrlrllrllrrrllrll (cal : Cal) (k : Nat) (m1 : Nat) (m2 : Nat) : KR := (cutK (Lv.a (Lv.a (Lv.b (Lv.a (Lv.a (Lv.b (Lv.b (Lv.b (Lv.a (Lv.a (Lv.b (Lv.a (Lv.a (Lv.b (Lv.a (Lv.b (Lv.b (Lv.b (Lv.b (Lv.b (A 63))))))))))))))))))))).c (codeE P cal (codeF P cal m2) none 63 (cR (cL (cL (cR (cL (cL (cR (cR (cR (cL (cL (cR (cL (cL (cR (cL (cR (cR (cR (cR (cR code63))))))))))))))))))))) (Lv.b (Lv.a (Lv.a (Lv.b (Lv.a (Lv.a (Lv.b (Lv.b (Lv.b (Lv.a (Lv.a (Lv.b (Lv.a (Lv.a (Lv.b (Lv.a (Lv.b (Lv.b (Lv.b (Lv.b (Lv.b (A 63)))))))))))))))))))))) (K63_prrrrrlrllrllrrrllr cal k m1 m2) (K63_pxrrrrrlrllrllrrrllrl cal k m1 m2) (doneK P results63)))
noncomputable def K63_prrrrrlrllrllrrrllrllr (cal : Cal) (k : Nat) (m1 : Nat) (m2 : Nat) : KR := (cutK (Lv.b (Lv.a (Lv.a (Lv.b (Lv.a (Lv.a (Lv.b (Lv.b (Lv.b (Lv.a (Lv.a (Lv.b (Lv.a (Lv.a (Lv.b (Lv.a (Lv.b (Lv.b (Lv.b (Lv.b (Lv.b (A 63)))))))))))))))))))))).c (codeE P cal (codeF P cal m2) none 63 (cR (cR (cL (cL (cR (cL (cL (cR (cR (cR (cL (cL (cR (cL (cL (cR (cL (cR (cR (cR (cR (cR code63)))))))))))))))))))))) (Lv.b (Lv.b (Lv.a (Lv.a (Lv.b (Lv.a (Lv.a (Lv.b (Lv.b (Lv.b (Lv.a (Lv.a (Lv.b (Lv.a (Lv.a (Lv.b (Lv.a (Lv.b (Lv.b (Lv.b (Lv.b (Lv.b (A 63))))))))))))))))))))))) (K63_prrrrrlrllrllrrrllr cal k m1 m2) (K63_pxrrrrrlrllrllrrrllrl cal k m1 m2) (doneK P results63)))
noncomputable def K63_prrrrrlrllrllrrrllrllrrl (cal : Cal) (k : Nat) (m1 : Nat) (m2 : Nat) : KR := (cutK (Lv.a (Lv.b (Lv.b (Lv.a (Lv.a (Lv.b (Lv.a (Lv.a (Lv.b (Lv.b (Lv.b (Lv.a (Lv.a (Lv.b (Lv.a (Lv.a (Lv.b (Lv.a (Lv.b (Lv.b (Lv.b (Lv.b (Lv.b (A 63)))))))))))))))))))))))).c (codeE P cal (codeF P cal m2) none 63 (cR (cL (cR (cR (cL (cL (cR (cL (cL (cR (cR (cR (cL (cL (cR (cL (cL (cR (cL (cR (cR (cR (cR (cR code63)))))))))))))))))))))))) (Lv.b (Lv.a (Lv.b (Lv.b (Lv.a (Lv.a (Lv.b (Lv.a (Lv.a (Lv.b (Lv.b (Lv.b (Lv.a (Lv.a (Lv.b (Lv.a (Lv.a (Lv.b (Lv.a (Lv.b (Lv.b (Lv.b (Lv.b (Lv.b (A 63))))))))))))))))))))))))) (K63_prrrrrlrllrllrrrllr cal k m1 m2) (K63_pxrrrrrlrllrllrrrllrl cal k m1 m2) (doneK P results63)))
noncomputable def K63_prrrrrr (cal : Cal) (k : Nat) : KR := (cutK (Lv.b (Lv.b (Lv.b (Lv.b (Lv.b (Lv.b (A 63))))))).c (codeE P cal (codeF P cal k) none 63 (cR (cR (cR (cR (cR (cR (cR code63))))))) (Lv.b (Lv.b (Lv.b (Lv.b (Lv.b (Lv.b (Lv.b (A 63)))))))) (doneK P results63) X0 (doneK P results63)))
noncomputable def E63_4 (cal : Cal) (k m1 m2 : Nat) : KR := codeE P cal (codeF P cal m2) none 63 (cL (cL (cR (cR (cR (cL (cL (cR (cL (cL (cR (cL (cR (cR (cR (cR (cR code63))))))))))))))))) (Lv.a (Lv.a (Lv.b (Lv.b (Lv.b (Lv.a (Lv.a (Lv.b (Lv.a (Lv.a (Lv.b (Lv.a (Lv.b (Lv.b (Lv.b (Lv.b (Lv.b (A 63)))))))))))))))))) (K63_prrrrrlrllrllrrrl cal k m1 m2) (K63_pxrrrrrlrllrllrrr cal k m1) (doneK P results63)
noncomputable def R63_4 (cal : Cal) (k m1 m2 : Nat) : V4 := fun u1 u6 u7 u8 H n => codeF P cal m2 (Lv.a (Lv.b (Lv.b (Lv.b (Lv.a (Lv.a (Lv.b (Lv.a (Lv.a (Lv.b (Lv.a (Lv.b (Lv.b (Lv.b (Lv.b (Lv.b (A 63))))))))))))))))) none 63 (cL (cR (cR (cR (cL (cL (cR (cL (cL (cR (cL (cR (cR (cR (cR (cR code63)))))))))))))))) (K63_prrrrrlrllr cal k m1) (K63_pxrrrrrlrllrllrrr cal k m1) (doneK P results63) (Tr.set (Tr.set (Tr.set (Tr.set Tr.nil 8 (some u8)) 7 (some u7)) 6 (some u6)) 1 (some u1)) H n []
noncomputable def E63_3 (cal : Cal) (k m1 : Nat) : KR := codeE P cal (codeF P cal m1) none 63 (cL (cL (cR (cL (cR (cR (cR (cR (cR code63))))))))) (Lv.a (Lv.a (Lv.b (Lv.a (Lv.b (Lv.b (Lv.b (Lv.b (Lv.b (A 63)))))))))) (K63_prrrrrlrl cal k m1) (K63_pxrrrrrlr cal k) (doneK P results63)
noncomputable def R63_3 (cal : Cal) (k m1 : Nat) : V2 := fun u1 u6 H n => codeF P cal m1 (Lv.a (Lv.b (Lv.a (Lv.b (Lv.b (Lv.b (Lv.b (Lv.b (A 63))))))))) none 63 (cL (cR (cL (cR (cR (cR (cR (cR code63)))))))) (K63_prrrrr cal k) (K63_pxrrrrrlr cal k) (doneK P results63) (Tr.set (Tr.set Tr.nil 6 (some u6)) 1 (some u1)) H n []
noncomputable def E63_2 (cal : Cal) (k m1 : Nat) : KR := codeE P cal (codeF P cal m1) none 63 (cL (cL (cR (cL (cR (cR (cR (cR code63)))))))) (Lv.a (Lv.a (Lv.b (Lv.a (Lv.b (Lv.b (Lv.b (Lv.b (A 63))))))))) (K63_prrrrlrl cal k m1) (K63_pxrrrrlr cal k) (doneK P results63)
noncomputable def R63_2 (cal : Cal) (k m1 : Nat) : V2 := fun u1 u4 H n => codeF P cal m1 (Lv.a (Lv.b (Lv.a (Lv.b (Lv.b (Lv.b (Lv.b (A 63)))))))) none 63 (cL (cR (cL (cR (cR (cR (cR code63))))))) (K63_prrrr cal k) (K63_pxrrrrlr cal k) (doneK P results63) (Tr.set (Tr.set Tr.nil 4 (some u4)) 1 (some u1)) H n []
noncomputable def E63_1 (cal : Cal) (k m1 : Nat) : KR := codeE P cal (codeF P cal m1) none 63 (cL (cL (cR (cL (cR (cR (cR code63))))))) (Lv.a (Lv.a (Lv.b (Lv.a (Lv.b (Lv.b (Lv.b (A 63)))))))) (K63_prrrlrl cal k m1) (K63_pxrrrlr cal k) (doneK P results63)
noncomputable def R63_1 (cal : Cal) (k m1 : Nat) : V2 := fun u1 u3 H n => codeF P cal m1 (Lv.a (Lv.b (Lv.a (Lv.b (Lv.b (Lv.b (A 63))))))) none 63 (cL (cR (cL (cR (cR (cR code63)))))) (K63_prrr cal k) (K63_pxrrrlr cal k) (doneK P results63) (Tr.set (Tr.set Tr.nil 3 (some u3)) 1 (some u1)) H n []
noncomputable def B63_4 (cal : Cal) (k m1 m2 : Nat) (b3 : V2) (b4 : V4) (u1 u6 u7 u8 : Value) (H : Hp) (n : Nat) : Res :=
binK P .lss 3 (.tmp 130) (.tmp 131) u8 u6 fun v_9p =>
ifK v_9p (
bindO (fieldAddrV P 26 u1 1) fun v_9q =>
bindO (addrV v_9q) fun a_9s => bindO (loadV P H 23 a_9s) fun v_9r =>
bindO (indexAddrV P 23 v_9r u8) fun v_9u =>
bindO (addrV v_9u) fun a_9w => bindO (loadV P H 104 a_9w) fun v_9v =>
allocK P 104 H n fun v_9x H_9y n_9z =>
bindO (storeP P 104 v_9x v_9v H_9y) fun H_a1 =>
bindO (addrV v_9x) fun a_a3 => bindO (loadV P H_a1 104 a_a3) fun v_a2 =>
bindO (addrV u7) fun a_a5 => bindO (loadV P H_a1 104 a_a5) fun v_a4 =>
binK P .eql 104 (.tmp 140) (.tmp 141) v_a2 v_a4 fun v_a6 =>
guardK v_a6 false (fun k_a8 =>
bindO (fieldAddrV P 104 v_9x 0) fun v_ac =>
k_a8 v_ac H_a1 n_9z) H_a1 n_9z fun v_a9 H_aa n_ab =>
guardK v_a6 false (fun k_ad =>
bindO (addrV v_a9) fun a_ai => bindO (loadV P H_aa 3 a_ai) fun v_ah =>
k_ad v_ah H_aa n_ab) H_aa n_ab fun v_ae H_af n_ag =>
guardK v_a6 false (fun k_aj =>
bindO (fieldAddrV P 104 u7 1) fun v_an =>
k_aj v_an H_af n_ag) H_af n_ag fun v_ak H_al n_am =>
guardK v_a6 false (fun k_ao =>
bindO (addrV v_ak) fun a_at => bindO (loadV P H_al 3 a_at) fun v_as =>
k_ao v_as H_al n_am) H_al n_am fun v_ap H_aq n_ar =>
guardK v_a6 false (fun k_au =>
binK P .eql 3 (.tmp 145) (.tmp 147) v_ae v_ap fun v_ay =>
k_au v_ay H_aq n_ar) H_aq n_ar fun v_av H_aw n_ax =>
guardK v_a6 false (fun k_az =>
k_az v_av H_aw n_ax) H_aw n_ax fun v_b0 H_b1 n_b2 =>
guardK v_b0 true (fun k_b4 =>
bindO (fieldAddrV P 104 v_9x 1) fun v_b8 =>
k_b4 v_b8 H_b1 n_b2) H_b1 n_b2 fun v_b5 H_b6 n_b7 =>
guardK v_b0 true (fun k_b9 =>
bindO (addrV v_b5) fun a_be => bindO (loadV P H_b6 3 a_be) fun v_bd =>
k_b9 v_bd H_b6 n_b7) H_b6 n_b7 fun v_ba H_bb n_bc =>
guardK v_b0 true (fun k_bf =>
bindO (fieldAddrV P 104 u7 0) fun v_bj =>
k_bf v_bj H_bb n_bc) H_bb n_bc fun v_bg H_bh n_bi =>
guardK v_b0 true (fun k_bk =>
bindO (addrV v_bg) fun a_bp => bindO (loadV P H_bh 3 a_bp) fun v_bo =>
k_bk v_bo H_bh n_bi) H_bh n_bi fun v_bl H_bm n_bn =>
guardK v_b0 true (fun k_bq =>
binK P .eql 3 (.tmp 151) (.tmp 153) v_ba v_bl fun v_bu =>
k_bq v_bu H_bm n_bn) H_bm n_bn fun v_br H_bs n_bt =>
guardK v_a6 false (fun k_bv =>
bindO (pickV v_b0 v_br (.bool false)) fun v_bz =>
k_bv v_bz H_bs n_bt) H_bs n_bt fun v_bw H_bx n_by =>
bindO (pickV v_a6 (.bool true) v_bw) fun v_c0 =>
ifK v_c0 (
some ((.int .i64 1), H_bx, n_by)) (
binK P .add 3 (.tmp 133) (.const (.int .i64 1)) u8 (.int .i64 1) fun v_c3 =>
b4 u1 u6 u7 v_c3 H_bx n_by)) (
binK P .add 3 (.tmp 98) (.const (.int .i64 1)) u6 (.int .i64 1) fun v_c6 =>
b3 u1 v_c6 H n)
noncomputable def C63_4 (cal : Cal) (k m1 m2 : Nat) (b3 : V2) (b4 : V4) (u1 u6 u7 u8 : Value) (H : Hp) (n : Nat) : Res := B63_4 cal k m1 m2 b3 b4 u1 u6 u7 u8 H n
noncomputable def S63_4 (cal : Cal) (k m1 : Nat) (b3 : V2) : Nat → V4 := fun m => Nat.rec (motive := fun _ => V4) (C63_4 cal k m1 0 b3 (fun _ _ _ _ _ _ => none)) (fun m ih => C63_4 cal k m1 (m + 1) b3 ih) m
theorem h63_4 (cal : Cal) (k m1 m2 : Nat) (u1 u6 u7 u8 : Value) (H : Hp) (n : Nat) : labK (E63_4 cal k m1 m2) (Tr.set (Tr.set (Tr.set (Tr.set Tr.nil 8 (some u8)) 7 (some u7)) 6 (some u6)) 1 (some u1)) H n [] = C63_4 cal k m1 m2 (R63_3 cal k m1) (R63_4 cal k m1 m2) u1 u6 u7 u8 H n := by
  refine Eq.trans (b := B63_4 cal k m1 m2 (R63_3 cal k m1) (R63_4 cal k m1 m2) u1 u6 u7 u8 H n) (by kernel_rfl) ?_
  rw [C63_4]
theorem q63_4 (cal : Cal) (k m1 : Nat) : ∀ (m : Nat) (u1 u6 u7 u8 : Value) (H : Hp) (n : Nat), labK (E63_4 cal k m1 m) (Tr.set (Tr.set (Tr.set (Tr.set Tr.nil 8 (some u8)) 7 (some u7)) 6 (some u6)) 1 (some u1)) H n [] = S63_4 cal k m1 (R63_3 cal k m1) m u1 u6 u7 u8 H n
  | 0, u1, u6, u7, u8, H, n => by
    rw [h63_4]
    have e : R63_4 cal k m1 0 = fun _ _ _ _ _ _ => none := by funext u1 u6 u7 u8 H n; kernel_rfl
    rw [e]; rfl
  | m + 1, u1, u6, u7, u8, H, n => by
    rw [h63_4]
    have e : R63_4 cal k m1 (m + 1) = S63_4 cal k m1 (R63_3 cal k m1) m := by
      funext u1 u6 u7 u8 H n
      have e : R63_4 cal k m1 (m + 1) u1 u6 u7 u8 H n = labK (E63_4 cal k m1 m) (Tr.set (Tr.set (Tr.set (Tr.set Tr.nil 8 (some u8)) 7 (some u7)) 6 (some u6)) 1 (some u1)) H n [] := by kernel_rfl
      rw [e]; exact q63_4 ..
    rw [e]; rfl
noncomputable def B63_3 (cal : Cal) (k m1 : Nat) (j4 : V4) (b3 : V2) (u1 u6 : Value) (H : Hp) (n : Nat) : Res :=
bindO (fieldAddrV P 26 u1 1) fun v_6p =>
bindO (addrV v_6p) fun a_6r => bindO (loadV P H 23 a_6r) fun v_6q =>
bindO (lenV P 23 v_6q) fun v_6s =>
binK P .lss 3 (.tmp 93) (.tmp 96) u6 v_6s fun v_6t =>
ifK v_6t (
bindO (fieldAddrV P 26 u1 1) fun v_6u =>
bindO (addrV v_6u) fun a_6w => bindO (loadV P H 23 a_6w) fun v_6v =>
bindO (indexAddrV P 23 v_6v u6) fun v_6y =>
bindO (addrV v_6y) fun a_70 => bindO (loadV P H 104 a_70) fun v_6z =>
allocK P 104 H n fun v_71 H_72 n_73 =>
bindO (storeP P 104 v_71 v_6z H_72) fun H_75 =>
bindO (fieldAddrV P 104 v_71 0) fun v_76 =>
bindO (addrV v_76) fun a_78 => bindO (loadV P H_75 3 a_78) fun v_77 =>
bindO (fieldAddrV P 26 u1 0) fun v_79 =>
bindO (addrV v_79) fun a_7b => bindO (loadV P H_75 22 a_7b) fun v_7a =>
bindO (lenV P 22 v_7a) fun v_7c =>
binK P .sub 3 (.tmp 109) (.const (.int .i64 1)) v_7c (.int .i64 1) fun v_7d =>
callFK P cal 32 [v_77, (.int .i64 0), v_7d] H_75 n_73 fun v_7e H_7f n_7g =>
bindO (pureSem P v_7e (Op.unary UnOp.not v_7e)) fun v_7h =>
guardK v_7h false (fun k_7j =>
bindO (fieldAddrV P 104 v_71 1) fun v_7n =>
k_7j v_7n H_7f n_7g) H_7f n_7g fun v_7k H_7l n_7m =>
guardK v_7h false (fun k_7o =>
bindO (addrV v_7k) fun a_7t => bindO (loadV P H_7l 3 a_7t) fun v_7s =>
k_7o v_7s H_7l n_7m) H_7l n_7m fun v_7p H_7q n_7r =>
guardK v_7h false (fun k_7u =>
bindO (fieldAddrV P 26 u1 0) fun v_7y =>
k_7u v_7y H_7q n_7r) H_7q n_7r fun v_7v H_7w n_7x =>
guardK v_7h false (fun k_7z =>
bindO (addrV v_7v) fun a_84 => bindO (loadV P H_7w 22 a_84) fun v_83 =>
k_7z v_83 H_7w n_7x) H_7w n_7x fun v_80 H_81 n_82 =>
guardK v_7h false (fun k_85 =>
bindO (lenV P 22 v_80) fun v_89 =>
k_85 v_89 H_81 n_82) H_81 n_82 fun v_86 H_87 n_88 =>
guardK v_7h false (fun k_8a =>
binK P .sub 3 (.tmp 118) (.const (.int .i64 1)) v_86 (.int .i64 1) fun v_8e =>
k_8a v_8e H_87 n_88) H_87 n_88 fun v_8b H_8c n_8d =>
guardK v_7h false (fun k_8f =>
callFK P cal 32 [v_7p, (.int .i64 0), v_8b] H_8c n_8d fun v_8j H_8k n_8l =>
k_8f v_8j H_8k n_8l) H_8c n_8d fun v_8g H_8h n_8i =>
guardK v_7h false (fun k_8m =>
bindO (pureSem P v_8g (Op.unary UnOp.not v_8g)) fun v_8q =>
k_8m v_8q H_8h n_8i) H_8h n_8i fun v_8n H_8o n_8p =>
bindO (pickV v_7h (.bool true) v_8n) fun v_8r =>
guardK v_8r false (fun k_8t =>
bindO (fieldAddrV P 104 v_71 0) fun v_8x =>
k_8t v_8x H_8o n_8p) H_8o n_8p fun v_8u H_8v n_8w =>
guardK v_8r false (fun k_8y =>
bindO (addrV v_8u) fun a_93 => bindO (loadV P H_8v 3 a_93) fun v_92 =>
k_8y v_92 H_8v n_8w) H_8v n_8w fun v_8z H_90 n_91 =>
guardK v_8r false (fun k_94 =>
bindO (fieldAddrV P 104 v_71 1) fun v_98 =>
k_94 v_98 H_90 n_91) H_90 n_91 fun v_95 H_96 n_97 =>
guardK v_8r false (fun k_99 =>
bindO (addrV v_95) fun a_9e => bindO (loadV P H_96 3 a_9e) fun v_9d =>
k_99 v_9d H_96 n_97) H_96 n_97 fun v_9a H_9b n_9c =>
guardK v_8r false (fun k_9f =>
binK P .eql 3 (.tmp 125) (.tmp 127) v_8z v_9a fun v_9j =>
k_9f v_9j H_9b n_9c) H_9b n_9c fun v_9g H_9h n_9i =>
bindO (pickV v_8r (.bool true) v_9g) fun v_9k =>
ifK v_9k (
some ((.int .i64 1), H_9h, n_9i)) (
j4 u1 u6 v_71 (.int .i64 0) H_9h n_9i)) (
some ((.int .i64 0), H, n))
noncomputable def C63_3 (cal : Cal) (k m1 : Nat) (b3 : V2) (u1 u6 : Value) (H : Hp) (n : Nat) : Res := B63_3 cal k m1 (S63_4 cal k m1 b3 m1) b3 u1 u6 H n
noncomputable def S63_3 (cal : Cal) (k : Nat) : Nat → V2 := fun m => Nat.rec (motive := fun _ => V2) (C63_3 cal k 0 (fun _ _ _ _ => none)) (fun m ih => C63_3 cal k (m + 1) ih) m
theorem h63_3 (cal : Cal) (k m1 : Nat) (u1 u6 : Value) (H : Hp) (n : Nat) : labK (E63_3 cal k m1) (Tr.set (Tr.set Tr.nil 6 (some u6)) 1 (some u1)) H n [] = C63_3 cal k m1 (R63_3 cal k m1) u1 u6 H n := by
  refine Eq.trans (b := B63_3 cal k m1 (fun u1 u6 u7 u8 H n => labK (E63_4 cal k m1 m1) (Tr.set (Tr.set (Tr.set (Tr.set Tr.nil 8 (some u8)) 7 (some u7)) 6 (some u6)) 1 (some u1)) H n []) (R63_3 cal k m1) u1 u6 H n) (by kernel_rfl) ?_
  rw [C63_3]
  have e4 : (fun u1 u6 u7 u8 H n => labK (E63_4 cal k m1 m1) (Tr.set (Tr.set (Tr.set (Tr.set Tr.nil 8 (some u8)) 7 (some u7)) 6 (some u6)) 1 (some u1)) H n []) = (S63_4 cal k m1 (R63_3 cal k m1) m1) := by funext u1 u6 u7 u8 H n; exact q63_4 ..
  rw [e4]
theorem q63_3 (cal : Cal) (k : Nat) : ∀ (m : Nat) (u1 u6 : Value) (H : Hp) (n : Nat), labK (E63_3 cal k m) (Tr.set (Tr.set Tr.nil 6 (some u6)) 1 (some u1)) H n [] = S63_3 cal k m u1 u6 H n
  | 0, u1, u6, H, n => by
    rw [h63_3]
    have e : R63_3 cal k 0 = fun _ _ _ _ => none := by funext u1 u6 H n; kernel_rfl
    rw [e]; rfl
  | m + 1, u1, u6, H, n => by
    rw [h63_3]
    have e : R63_3 cal k (m + 1) = S63_3 cal k m := by
      funext u1 u6 H n
      have e : R63_3 cal k (m + 1) u1 u6 H n = labK (E63_3 cal k m) (Tr.set (Tr.set Tr.nil 6 (some u6)) 1 (some u1)) H n [] := by kernel_rfl
      rw [e]; exact q63_3 ..
    rw [e]; rfl
noncomputable def B63_2 (cal : Cal) (k m1 : Nat) (j3 : V2) (b2 : V2) (u1 u4 : Value) (H : Hp) (n : Nat) : Res :=
bindO (fieldAddrV P 26 u1 2) fun v_3b =>
bindO (addrV v_3b) fun a_3d => bindO (loadV P H 24 a_3d) fun v_3c =>
bindO (lenV P 24 v_3c) fun v_3e =>
binK P .lss 3 (.tmp 57) (.tmp 60) u4 v_3e fun v_3f =>
ifK v_3f (
bindO (fieldAddrV P 26 u1 2) fun v_3g =>
bindO (addrV v_3g) fun a_3i => bindO (loadV P H 24 a_3i) fun v_3h =>
bindO (indexAddrV P 24 v_3h u4) fun v_3k =>
bindO (addrV v_3k) fun a_3m => bindO (loadV P H 94 a_3m) fun v_3l =>
allocK P 94 H n fun v_3n H_3o n_3p =>
bindO (storeP P 94 v_3n v_3l H_3o) fun H_3r =>
bindO (fieldAddrV P 94 v_3n 0) fun v_3s =>
bindO (addrV v_3s) fun a_3u => bindO (loadV P H_3r 3 a_3u) fun v_3t =>
callFK P cal 32 [v_3t, (.int .i64 0), (.int .i64 1000)] H_3r n_3p fun v_3v H_3w n_3x =>
bindO (pureSem P v_3v (Op.unary UnOp.not v_3v)) fun v_3y =>
guardK v_3y false (fun k_40 =>
bindO (fieldAddrV P 94 v_3n 1) fun v_44 =>
k_40 v_44 H_3w n_3x) H_3w n_3x fun v_41 H_42 n_43 =>
guardK v_3y false (fun k_45 =>
bindO (fieldAddrV P 55 v_41 0) fun v_49 =>
k_45 v_49 H_42 n_43) H_42 n_43 fun v_46 H_47 n_48 =>
guardK v_3y false (fun k_4a =>
bindO (addrV v_46) fun a_4f => bindO (loadV P H_47 3 a_4f) fun v_4e =>
k_4a v_4e H_47 n_48) H_47 n_48 fun v_4b H_4c n_4d =>
guardK v_3y false (fun k_4g =>
bindO (fieldAddrV P 94 v_3n 1) fun v_4k =>
k_4g v_4k H_4c n_4d) H_4c n_4d fun v_4h H_4i n_4j =>
guardK v_3y false (fun k_4l =>
bindO (fieldAddrV P 55 v_4h 1) fun v_4p =>
k_4l v_4p H_4i n_4j) H_4i n_4j fun v_4m H_4n n_4o =>
guardK v_3y false (fun k_4q =>
bindO (addrV v_4m) fun a_4v => bindO (loadV P H_4n 3 a_4v) fun v_4u =>
k_4q v_4u H_4n n_4o) H_4n n_4o fun v_4r H_4s n_4t =>
guardK v_3y false (fun k_4w =>
callFK P cal 100 [v_4b, v_4r] H_4s n_4t fun v_50 H_51 n_52 =>
k_4w v_50 H_51 n_52) H_4s n_4t fun v_4x H_4y n_4z =>
guardK v_3y false (fun k_53 =>
bindO (pureSem P v_4x (Op.unary UnOp.not v_4x)) fun v_57 =>
k_53 v_57 H_4y n_4z) H_4y n_4z fun v_54 H_55 n_56 =>
bindO (pickV v_3y (.bool true) v_54) fun v_58 =>
guardK v_58 false (fun k_5a =>
bindO (fieldAddrV P 94 v_3n 2) fun v_5e =>
k_5a v_5e H_55 n_56) H_55 n_56 fun v_5b H_5c n_5d =>
guardK v_58 false (fun k_5f =>
bindO (fieldAddrV P 55 v_5b 0) fun v_5j =>
k_5f v_5j H_5c n_5d) H_5c n_5d fun v_5g H_5h n_5i =>
guardK v_58 false (fun k_5k =>
bindO (addrV v_5g) fun a_5p => bindO (loadV P H_5h 3 a_5p) fun v_5o =>
k_5k v_5o H_5h n_5i) H_5h n_5i fun v_5l H_5m n_5n =>
guardK v_58 false (fun k_5q =>
bindO (fieldAddrV P 94 v_3n 2) fun v_5u =>
k_5q v_5u H_5m n_5n) H_5m n_5n fun v_5r H_5s n_5t =>
guardK v_58 false (fun k_5v =>
bindO (fieldAddrV P 55 v_5r 1) fun v_5z =>
k_5v v_5z H_5s n_5t) H_5s n_5t fun v_5w H_5x n_5y =>
guardK v_58 false (fun k_60 =>
bindO (addrV v_5w) fun a_65 => bindO (loadV P H_5x 3 a_65) fun v_64 =>
k_60 v_64 H_5x n_5y) H_5x n_5y fun v_61 H_62 n_63 =>
guardK v_58 false (fun k_66 =>
callFK P cal 100 [v_5l, v_61] H_62 n_63 fun v_6a H_6b n_6c =>
k_66 v_6a H_6b n_6c) H_62 n_63 fun v_67 H_68 n_69 =>
guardK v_58 false (fun k_6d =>
bindO (pureSem P v_67 (Op.unary UnOp.not v_67)) fun v_6h =>
k_6d v_6h H_68 n_69) H_68 n_69 fun v_6e H_6f n_6g =>
bindO (pickV v_58 (.bool true) v_6e) fun v_6i =>
ifK v_6i (
some ((.int .i64 1), H_6f, n_6g)) (
binK P .add 3 (.tmp 62) (.const (.int .i64 1)) u4 (.int .i64 1) fun v_6l =>
b2 u1 v_6l H_6f n_6g)) (
j3 u1 (.int .i64 0) H n)
noncomputable def C63_2 (cal : Cal) (k m1 : Nat) (b2 : V2) (u1 u4 : Value) (H : Hp) (n : Nat) : Res := B63_2 cal k m1 (S63_3 cal k k) b2 u1 u4 H n
noncomputable def S63_2 (cal : Cal) (k : Nat) : Nat → V2 := fun m => Nat.rec (motive := fun _ => V2) (C63_2 cal k 0 (fun _ _ _ _ => none)) (fun m ih => C63_2 cal k (m + 1) ih) m
theorem h63_2 (cal : Cal) (k m1 : Nat) (u1 u4 : Value) (H : Hp) (n : Nat) : labK (E63_2 cal k m1) (Tr.set (Tr.set Tr.nil 4 (some u4)) 1 (some u1)) H n [] = C63_2 cal k m1 (R63_2 cal k m1) u1 u4 H n := by
  refine Eq.trans (b := B63_2 cal k m1 (fun u1 u6 H n => labK (E63_3 cal k k) (Tr.set (Tr.set Tr.nil 6 (some u6)) 1 (some u1)) H n []) (R63_2 cal k m1) u1 u4 H n) (by kernel_rfl) ?_
  rw [C63_2]
  have e3 : (fun u1 u6 H n => labK (E63_3 cal k k) (Tr.set (Tr.set Tr.nil 6 (some u6)) 1 (some u1)) H n []) = (S63_3 cal k k) := by funext u1 u6 H n; exact q63_3 ..
  rw [e3]
theorem q63_2 (cal : Cal) (k : Nat) : ∀ (m : Nat) (u1 u4 : Value) (H : Hp) (n : Nat), labK (E63_2 cal k m) (Tr.set (Tr.set Tr.nil 4 (some u4)) 1 (some u1)) H n [] = S63_2 cal k m u1 u4 H n
  | 0, u1, u4, H, n => by
    rw [h63_2]
    have e : R63_2 cal k 0 = fun _ _ _ _ => none := by funext u1 u4 H n; kernel_rfl
    rw [e]; rfl
  | m + 1, u1, u4, H, n => by
    rw [h63_2]
    have e : R63_2 cal k (m + 1) = S63_2 cal k m := by
      funext u1 u4 H n
      have e : R63_2 cal k (m + 1) u1 u4 H n = labK (E63_2 cal k m) (Tr.set (Tr.set Tr.nil 4 (some u4)) 1 (some u1)) H n [] := by kernel_rfl
      rw [e]; exact q63_2 ..
    rw [e]; rfl
noncomputable def B63_1 (cal : Cal) (k m1 : Nat) (j2 : V2) (b1 : V2) (u1 u3 : Value) (H : Hp) (n : Nat) : Res :=
bindO (fieldAddrV P 26 u1 0) fun v_2g =>
bindO (addrV v_2g) fun a_2i => bindO (loadV P H 22 a_2i) fun v_2h =>
bindO (lenV P 22 v_2h) fun v_2j =>
binK P .lss 3 (.tmp 36) (.tmp 39) u3 v_2j fun v_2k =>
ifK v_2k (
bindO (fieldAddrV P 26 u1 0) fun v_2l =>
bindO (addrV v_2l) fun a_2m => bindO (loadV P H 22 a_2m) fun v_2n =>
bindO (indexAddrV P 22 v_2n u3) fun v_2p =>
bindO (fieldAddrV P 95 v_2p 0) fun v_2q =>
bindO (addrV v_2q) fun a_2r => bindO (loadV P H 3 a_2r) fun v_2s =>
bindO (fieldAddrV P 26 u1 0) fun v_2t =>
bindO (addrV v_2t) fun a_2u => bindO (loadV P H 22 a_2u) fun v_2v =>
bindO (indexAddrV P 22 v_2v u3) fun v_2x =>
bindO (fieldAddrV P 95 v_2x 1) fun v_2y =>
bindO (addrV v_2y) fun a_2z => bindO (loadV P H 3 a_2z) fun v_30 =>
callFK P cal 100 [v_2s, v_30] H n fun v_31 H_32 n_33 =>
bindO (pureSem P v_31 (Op.unary UnOp.not v_31)) fun v_34 =>
ifK v_34 (
some ((.int .i64 1), H_32, n_33)) (
binK P .add 3 (.tmp 41) (.const (.int .i64 1)) u3 (.int .i64 1) fun v_37 =>
b1 u1 v_37 H_32 n_33)) (
j2 u1 (.int .i64 0) H n)
noncomputable def C63_1 (cal : Cal) (k m1 : Nat) (b1 : V2) (u1 u3 : Value) (H : Hp) (n : Nat) : Res := B63_1 cal k m1 (S63_2 cal k k) b1 u1 u3 H n
noncomputable def S63_1 (cal : Cal) (k : Nat) : Nat → V2 := fun m => Nat.rec (motive := fun _ => V2) (C63_1 cal k 0 (fun _ _ _ _ => none)) (fun m ih => C63_1 cal k (m + 1) ih) m
theorem h63_1 (cal : Cal) (k m1 : Nat) (u1 u3 : Value) (H : Hp) (n : Nat) : labK (E63_1 cal k m1) (Tr.set (Tr.set Tr.nil 3 (some u3)) 1 (some u1)) H n [] = C63_1 cal k m1 (R63_1 cal k m1) u1 u3 H n := by
  refine Eq.trans (b := B63_1 cal k m1 (fun u1 u4 H n => labK (E63_2 cal k k) (Tr.set (Tr.set Tr.nil 4 (some u4)) 1 (some u1)) H n []) (R63_1 cal k m1) u1 u3 H n) (by kernel_rfl) ?_
  rw [C63_1]
  have e2 : (fun u1 u4 H n => labK (E63_2 cal k k) (Tr.set (Tr.set Tr.nil 4 (some u4)) 1 (some u1)) H n []) = (S63_2 cal k k) := by funext u1 u4 H n; exact q63_2 ..
  rw [e2]
theorem q63_1 (cal : Cal) (k : Nat) : ∀ (m : Nat) (u1 u3 : Value) (H : Hp) (n : Nat), labK (E63_1 cal k m) (Tr.set (Tr.set Tr.nil 3 (some u3)) 1 (some u1)) H n [] = S63_1 cal k m u1 u3 H n
  | 0, u1, u3, H, n => by
    rw [h63_1]
    have e : R63_1 cal k 0 = fun _ _ _ _ => none := by funext u1 u3 H n; kernel_rfl
    rw [e]; rfl
  | m + 1, u1, u3, H, n => by
    rw [h63_1]
    have e : R63_1 cal k (m + 1) = S63_1 cal k m := by
      funext u1 u3 H n
      have e : R63_1 cal k (m + 1) u1 u3 H n = labK (E63_1 cal k m) (Tr.set (Tr.set Tr.nil 3 (some u3)) 1 (some u1)) H n [] := by kernel_rfl
      rw [e]; exact q63_1 ..
    rw [e]; rfl
noncomputable def B63_0 (cal : Cal) (k : Nat) (j1 : V2) (v0 : Value) (H : Hp) (n : Nat) : Res :=
boxK 26 v0 H n fun v_1 H_2 n_3 =>
bindO (fieldAddrV P 26 v_1 0) fun v_5 =>
bindO (addrV v_5) fun a_7 => bindO (loadV P H_2 22 a_7) fun v_6 =>
bindO (lenV P 22 v_6) fun v_8 =>
binK P .gtr 3 (.tmp 12) (.const (.int .i64 8)) v_8 (.int .i64 8) fun v_9 =>
guardK v_9 false (fun k_b =>
bindO (fieldAddrV P 26 v_1 1) fun v_f =>
k_b v_f H_2 n_3) H_2 n_3 fun v_c H_d n_e =>
guardK v_9 false (fun k_g =>
bindO (addrV v_c) fun a_l => bindO (loadV P H_d 23 a_l) fun v_k =>
k_g v_k H_d n_e) H_d n_e fun v_h H_i n_j =>
guardK v_9 false (fun k_m =>
bindO (lenV P 23 v_h) fun v_q =>
k_m v_q H_i n_j) H_i n_j fun v_n H_o n_p =>
guardK v_9 false (fun k_r =>
binK P .gtr 3 (.tmp 17) (.const (.int .i64 16)) v_n (.int .i64 16) fun v_v =>
k_r v_v H_o n_p) H_o n_p fun v_s H_t n_u =>
bindO (pickV v_9 (.bool true) v_s) fun v_w =>
guardK v_w false (fun k_y =>
bindO (fieldAddrV P 26 v_1 2) fun v_12 =>
k_y v_12 H_t n_u) H_t n_u fun v_z H_10 n_11 =>
guardK v_w false (fun k_13 =>
bindO (addrV v_z) fun a_18 => bindO (loadV P H_10 24 a_18) fun v_17 =>
k_13 v_17 H_10 n_11) H_10 n_11 fun v_14 H_15 n_16 =>
guardK v_w false (fun k_19 =>
bindO (lenV P 24 v_14) fun v_1d =>
k_19 v_1d H_15 n_16) H_15 n_16 fun v_1a H_1b n_1c =>
guardK v_w false (fun k_1e =>
binK P .gtr 3 (.tmp 23) (.const (.int .i64 3)) v_1a (.int .i64 3) fun v_1i =>
k_1e v_1i H_1b n_1c) H_1b n_1c fun v_1f H_1g n_1h =>
bindO (pickV v_w (.bool true) v_1f) fun v_1j =>
ifK v_1j (
some ((.int .i64 3), H_1g, n_1h)) (
bindO (fieldAddrV P 26 v_1 0) fun v_1l =>
bindO (addrV v_1l) fun a_1n => bindO (loadV P H_1g 22 a_1n) fun v_1m =>
bindO (lenV P 22 v_1m) fun v_1o =>
binK P .eql 3 (.tmp 28) (.const (.int .i64 0)) v_1o (.int .i64 0) fun v_1p =>
guardK v_1p false (fun k_1r =>
bindO (fieldAddrV P 26 v_1 2) fun v_1v =>
k_1r v_1v H_1g n_1h) H_1g n_1h fun v_1s H_1t n_1u =>
guardK v_1p false (fun k_1w =>
bindO (addrV v_1s) fun a_21 => bindO (loadV P H_1t 24 a_21) fun v_20 =>
k_1w v_20 H_1t n_1u) H_1t n_1u fun v_1x H_1y n_1z =>
guardK v_1p false (fun k_22 =>
bindO (lenV P 24 v_1x) fun v_26 =>
k_22 v_26 H_1y n_1z) H_1y n_1z fun v_23 H_24 n_25 =>
guardK v_1p false (fun k_27 =>
binK P .eql 3 (.tmp 33) (.const (.int .i64 0)) v_23 (.int .i64 0) fun v_2b =>
k_27 v_2b H_24 n_25) H_24 n_25 fun v_28 H_29 n_2a =>
bindO (pickV v_1p (.bool true) v_28) fun v_2c =>
ifK v_2c (
some ((.int .i64 1), H_29, n_2a)) (
j1 v_1 (.int .i64 0) H_29 n_2a))
noncomputable def C63_0 (cal : Cal) (k : Nat) (v0 : Value) (H : Hp) (n : Nat) : Res := B63_0 cal k (S63_1 cal k k) v0 H n
theorem h63_0 (cal : Cal) (k : Nat) (v0 : Value) (H : Hp) (n : Nat) : bodyE P cal A (k + 1) 63 [v0] H n = C63_0 cal k v0 H n := by
  have h : bodyE P cal A (k + 1) 63 [v0] H n = B63_0 cal k (fun u1 u3 H n => labK (E63_1 cal k k) (Tr.set (Tr.set Tr.nil 3 (some u3)) 1 (some u1)) H n []) v0 H n := by
    rw [body_eq (fn := Go.Proofs.Try.f63) (c := code63) (rs := results63) (by kernel_rfl) (by kernel_rfl) (by kernel_rfl) (by kernel_rfl)]
    kernel_rfl
  rw [h, C63_0]
  have e1 : (fun u1 u3 H n => labK (E63_1 cal k k) (Tr.set (Tr.set Tr.nil 3 (some u3)) 1 (some u1)) H n []) = (S63_1 cal k k) := by funext u1 u3 H n; exact q63_1 ..
  rw [e1]
noncomputable def code65 : Code := codeOf 65
noncomputable def results65 : List ResultVar := resOf 65
noncomputable def K65_p (cal : Cal) (k : Nat) : KR := (cutK (A 65).c (codeE P cal (codeF P cal k) none 65 (cR code65) (Lv.b (A 65)) (doneK P results65) X0 (doneK P results65)))
noncomputable def K65_pr (cal : Cal) (k : Nat) : KR := (cutK (Lv.b (A 65)).c (codeE P cal (codeF P cal k) none 65 (cR (cR code65)) (Lv.b (Lv.b (A 65))) (doneK P results65) X0 (doneK P results65)))
noncomputable def K65_prr (cal : Cal) (k : Nat) : KR := (cutK (Lv.b (Lv.b (A 65))).c (codeE P cal (codeF P cal k) none 65 (cR (cR (cR code65))) (Lv.b (Lv.b (Lv.b (A 65)))) (doneK P results65) X0 (doneK P results65)))
noncomputable def K65_prrl (cal : Cal) (k : Nat) : KR := (cutK (Lv.a (Lv.b (Lv.b (A 65)))).c (codeE P cal (codeF P cal k) none 65 (cR (cL (cR (cR code65)))) (Lv.b (Lv.a (Lv.b (Lv.b (A 65))))) (K65_prr cal k) X0 (doneK P results65)))
noncomputable def K65_prrlrl (cal : Cal) (k : Nat) : KR := (cutK (Lv.a (Lv.b (Lv.a (Lv.b (Lv.b (A 65)))))).c (codeE P cal (codeF P cal k) none 65 (cR (cL (cR (cL (cR (cR code65)))))) (Lv.b (Lv.a (Lv.b (Lv.a (Lv.b (Lv.b (A 65))))))) (K65_prr cal k) X0 (doneK P results65)))
noncomputable def K65_prrr (cal : Cal) (k : Nat) : KR := (cutK (Lv.b (Lv.b (Lv.b (A 65)))).c (codeE P cal (codeF P cal k) none 65 (cR (cR (cR (cR code65)))) (Lv.b (Lv.b (Lv.b (Lv.b (A 65))))) (doneK P results65) X0 (doneK P results65)))
noncomputable def K65_prrrl (cal : Cal) (k : Nat) : KR := (cutK (Lv.a (Lv.b (Lv.b (Lv.b (A 65))))).c (codeE P cal (codeF P cal k) none 65 (cR (cL (cR (cR (cR code65))))) (Lv.b (Lv.a (Lv.b (Lv.b (Lv.b (A 65)))))) (K65_prrr cal k) X0 (doneK P results65)))
noncomputable def K65_prrrlrl (cal : Cal) (k : Nat) : KR := (cutK (Lv.a (Lv.b (Lv.a (Lv.b (Lv.b (Lv.b (A 65))))))).c (codeE P cal (codeF P cal k) none 65 (cR (cL (cR (cL (cR (cR (cR code65))))))) (Lv.b (Lv.a (Lv.b (Lv.a (Lv.b (Lv.b (Lv.b (A 65)))))))) (K65_prrr cal k) X0 (doneK P results65)))
noncomputable def K65_prrrr (cal : Cal) (k : Nat) : KR := (cutK (Lv.b (Lv.b (Lv.b (Lv.b (A 65))))).c (codeE P cal (codeF P cal k) none 65 (cR (cR (cR (cR (cR code65))))) (Lv.b (Lv.b (Lv.b (Lv.b (Lv.b (A 65)))))) (doneK P results65) X0 (doneK P results65)))
noncomputable def K65_prrrrr (cal : Cal) (k : Nat) : KR := (cutK (Lv.b (Lv.b (Lv.b (Lv.b (Lv.b (A 65)))))).c (codeE P cal (codeF P cal k) none 65 (cR (cR (cR (cR (cR (cR code65)))))) (Lv.b (Lv.b (Lv.b (Lv.b (Lv.b (Lv.b (A 65))))))) (doneK P results65) X0 (doneK P results65)))
noncomputable def K65_prrrrrr (cal : Cal) (k : Nat) : KR := (cutK (Lv.b (Lv.b (Lv.b (Lv.b (Lv.b (Lv.b (A 65))))))).c (codeE P cal (codeF P cal k) none 65 (cR (cR (cR (cR (cR (cR (cR code65))))))) (Lv.b (Lv.b (Lv.b (Lv.b (Lv.b (Lv.b (Lv.b (A 65)))))))) (doneK P results65) X0 (doneK P results65)))
noncomputable def K65_prrrrrrl (cal : Cal) (k : Nat) : KR := (cutK (Lv.a (Lv.b (Lv.b (Lv.b (Lv.b (Lv.b (Lv.b (A 65)))))))).c (codeE P cal (codeF P cal k) none 65 (cR (cL (cR (cR (cR (cR (cR (cR code65)))))))) (Lv.b (Lv.a (Lv.b (Lv.b (Lv.b (Lv.b (Lv.b (Lv.b (A 65))))))))) (K65_prrrrrr cal k) X0 (doneK P results65)))
noncomputable def K65_pxrrrrrrlr (cal : Cal) (k : Nat) : XR := (upX 0 (K65_prrrrrr cal k) X0)
noncomputable def K65_prrrrrrlrl (cal : Cal) (k : Nat) (m1 : Nat) : KR := (fun T H n D => codeF P cal m1 (Lv.a (Lv.b (Lv.a (Lv.b (Lv.b (Lv.b (Lv.b (Lv.b (Lv.b (A 65)))))))))) none 65 (cL (cR (cL (cR (cR (cR (cR (cR (cR code65))))))))) (K65_prrrrrr cal k) (K65_pxrrrrrrlr cal k) (doneK P results65) (cutT (Lv.a (Lv.b (Lv.a (Lv.b (Lv.b (Lv.b (Lv.b (Lv.b (Lv.b (A 65)))))))))).c T) H n D)
noncomputable def K65_prrrrrrlrll (cal : Cal) (k : Nat) (m1 : Nat) : KR := (cutK (Lv.a (Lv.a (Lv.b (Lv.a (Lv.b (Lv.b (Lv.b (Lv.b (Lv.b (Lv.b (A 65))))))))))).c (codeE P cal (codeF P cal m1) none 65 (cR (cL (cL (cR (cL (cR (cR (cR (cR (cR (cR code65))))))))))) (Lv.b (Lv.a (Lv.a (Lv.b (Lv.a (Lv.b (Lv.b (Lv.b (Lv.b (Lv.b (Lv.b (A 65)))))))))))) (K65_prrrrrrlrl cal k m1) (K65_pxrrrrrrlr cal k) (doneK P results65)))
noncomputable def K65_prrrrrrlrllr (cal : Cal) (k : Nat) (m1 : Nat) : KR := (cutK (Lv.b (Lv.a (Lv.a (Lv.b (Lv.a (Lv.b (Lv.b (Lv.b (Lv.b (Lv.b (Lv.b (A 65)))))))))))).c (codeE P cal (codeF P cal m1) none 65 (cR (cR (cL (cL (cR (cL (cR (cR (cR (cR (cR (cR code65)))))))))))) (Lv.b (Lv.b (Lv.a (Lv.a (Lv.b (Lv.a (Lv.b (Lv.b (Lv.b (Lv.b (Lv.b (Lv.b (A 65))))))))))))) (K65_prrrrrrlrl cal k m1) (K65_pxrrrrrrlr cal k) (doneK P results65)))
noncomputable def K65_prrrrrrlrllrr (cal : Cal) (k : Nat) (m1 : Nat) : KR := (cutK (Lv.b (Lv.b (Lv.a (Lv.a (Lv.b (Lv.a (Lv.b (Lv.b (Lv.b (Lv.b (Lv.b (Lv.b (A 65))))))))))))).c (codeE P cal (codeF P cal m1) none 65 (cR (cR (cR (cL (cL (cR (cL (cR (cR (cR (cR (cR (cR code65))))))))))))) (Lv.b (Lv.b (Lv.b (Lv.a (Lv.a (Lv.b (Lv.a (Lv.b (Lv.b (Lv.b (Lv.b (Lv.b (Lv.b (A 65)))))))))))))) (K65_prrrrrrlrl cal k m1) (K65_pxrrrrrrlr cal k) (doneK P results65)))
noncomputable def K65_pxrrrrrrlrllrrl (cal : Cal) (k : Nat) (m1 : Nat) : XR := (upX 1 (K65_prrrrrrlrllrr cal k m1) (K65_pxrrrrrrlr cal k))
noncomputable def K65_prrrrrrlrllrrll (cal : Cal) (k : Nat) (m1 : Nat) : KR := (cutK (Lv.a (Lv.a (Lv.b (Lv.b (Lv.a (Lv.a (Lv.b (Lv.a (Lv.b (Lv.b (Lv.b (Lv.b (Lv.b (Lv.b (A 65))))))))))))))).c (codeE P cal (codeF P cal m1) none 65 (cR (cL (cL (cR (cR (cL (cL (cR (cL (cR (cR (cR (cR (cR (cR code65))))))))))))))) (Lv.b (Lv.a (Lv.a (Lv.b (Lv.b (Lv.a (Lv.a (Lv.b (Lv.a (Lv.b (Lv.b (Lv.b (Lv.b (Lv.b (Lv.b (A 65)))))))))))))))) (K65_prrrrrrlrllrr cal k m1) (K65_pxrrrrrrlrllrrl cal k m1) (doneK P results65)))
noncomputable def K65_prrrrrrlrllrrllr (cal : Cal) (k : Nat) (m1 : Nat) : KR := (cutK (Lv.b (Lv.a (Lv.a (Lv.b (Lv.b (Lv.a (Lv.a (Lv.b (Lv.a (Lv.b (Lv.b (Lv.b (Lv.b (Lv.b (Lv.b (A 65)))))))))))))))).c (codeE P cal (codeF P cal m1) none 65 (cR (cR (cL (cL (cR (cR (cL (cL (cR (cL (cR (cR (cR (cR (cR (cR code65)))))))))))))))) (Lv.b (Lv.b (Lv.a (Lv.a (Lv.b (Lv.b (Lv.a (Lv.a (Lv.b (Lv.a (Lv.b (Lv.b (Lv.b (Lv.b (Lv.b (Lv.b (A 65))))))))))))))))) (K65_prrrrrrlrllrr cal k m1) (K65_pxrrrrrrlrllrrl cal k m1) (doneK P results65)))
noncomputable def K65_prrrrrrlrllrrllrrl (cal : Cal) (k : Nat) (m1 : Nat) : KR := (cutK (Lv.a (Lv.b (Lv.b (Lv.a (Lv.a (Lv.b (Lv.b (Lv.a (Lv.a (Lv.b (Lv.a (Lv.b (Lv.b (Lv.b (Lv.b (Lv.b (Lv.b (A 65)))))))))))))))))).c (codeE P cal (codeF P cal m1) none 65 (cR (cL (cR (cR (cL (cL (cR (cR (cL (cL (cR (cL (cR (cR (cR (cR (cR (cR code65)))))))))))))))))) (Lv.b (Lv.a (Lv.b (Lv.b (Lv.a (Lv.a (Lv.b (Lv.b (Lv.a (Lv.a (Lv.b (Lv.a (Lv.b (Lv.b (Lv.b (Lv.b (Lv.b (Lv.b (A 65))))))))))))))))))) (K65_prrrrrrlrllrr cal k m1) (K65_pxrrrrrrlrllrrl cal k m1) (doneK P results65)))
noncomputable def K65_prrrrrrr (cal : Cal) (k : Nat) : KR := (cutK (Lv.b (Lv.b (Lv.b (Lv.b (Lv.b (Lv.b (Lv.b (A 65)))))))).c (codeE P cal (codeF P cal k) none 65 (cR (cR (cR (cR (cR (cR (cR (cR code65)))))))) (Lv.b (Lv.b (Lv.b (Lv.b (Lv.b (Lv.b (Lv.b (Lv.b (A 65))))))))) (doneK P results65) X0 (doneK P results65)))
noncomputable def E65_1 (cal : Cal) (k m1 : Nat) : KR := codeE P cal (codeF P cal m1) none 65 (cL (cL (cR (cL (cR (cR (cR (cR (cR (cR code65)))))))))) (Lv.a (Lv.a (Lv.b (Lv.a (Lv.b (Lv.b (Lv.b (Lv.b (Lv.b (Lv.b (A 65))))))))))) (K65_prrrrrrlrl cal k m1) (K65_pxrrrrrrlr cal k) (doneK P results65)
noncomputable def R65_1 (cal : Cal) (k m1 : Nat) : V5 := fun u5 u7 u9 u35 u36 H n => codeF P cal m1 (Lv.a (Lv.b (Lv.a (Lv.b (Lv.b (Lv.b (Lv.b (Lv.b (Lv.b (A 65)))))))))) none 65 (cL (cR (cL (cR (cR (cR (cR (cR (cR code65))))))))) (K65_prrrrrr cal k) (K65_pxrrrrrrlr cal k) (doneK P results65) (Tr.set (Tr.set (Tr.set (Tr.set (Tr.set Tr.nil 36 (some u36)) 35 (some u35)) 9 (some u9)) 7 (some u7)) 5 (some u5)) H n []
noncomputable def B65_1 (cal : Cal) (k m1 : Nat) (b1 : V5) (u5 u7 u9 u35 u36 : Value) (H : Hp) (n : Nat) : Res :=
binK P .lss 3 (.tmp 36) (.const (.int .i64 8)) u36 (.int .i64 8) fun v_1o =>
ifK v_1o (
bindO (indexV P 121 u35 u36) fun v_1q =>
binK P .neq 3 (.tmp 40) (.const (.int .i64 (-1))) v_1q (.int .i64 (-1)) fun v_1u =>
guardK v_1u true (fun k_1w =>
k_1w u7 H n) H n fun v_1x H_1y n_1z =>
guardK v_1u true (fun k_21 =>
k_21 u36 H_1y n_1z) H_1y n_1z fun v_22 H_23 n_24 =>
guardK v_1u true (fun k_26 =>
k_26 v_1q H_23 n_24) H_23 n_24 fun v_27 H_28 n_29 =>
guardK v_1u true (fun k_2b =>
callFK P cal 102 [v_1x, v_22, v_27] H_28 n_29 fun v_2f H_2g n_2h =>
k_2b v_2f H_2g n_2h) H_28 n_29 fun v_2c H_2d n_2e =>
guardK v_1u true (fun k_2i =>
bindO (pureSem P v_2c (Op.unary UnOp.not v_2c)) fun v_2m =>
k_2i v_2m H_2d n_2e) H_2d n_2e fun v_2j H_2k n_2l =>
bindO (pickV v_1u v_2j (.bool false)) fun v_2n =>
ifK v_2n (
bindO (buildP P 121 []) fun v_2o =>
bindO (storeP P 121 u5 v_2o H_2k) fun H_2r =>
bindO (resV P (Tr.set (Tr.set (Tr.set Tr.nil 6 (some (.int .i64 2))) 5 (some u5)) 4 (some (.pointer none))) H_2r results65) fun v_2t => some (oneV v_2t, H_2r, n_2l)) (
binK P .add 3 (.tmp 36) (.const (.int .i64 1)) u36 (.int .i64 1) fun v_2u =>
b1 u5 u7 u9 u35 v_2u H_2k n_2l)) (
bindO (addrV u9) fun a_2x => bindO (loadV P H 121 a_2x) fun v_2y =>
bindO (storeP P 121 u5 v_2y H) fun H_31 =>
bindO (resV P (Tr.set (Tr.set (Tr.set Tr.nil 6 (some (.int .i64 0))) 5 (some u5)) 4 (some u7)) H_31 results65) fun v_33 => some (oneV v_33, H_31, n))
noncomputable def C65_1 (cal : Cal) (k m1 : Nat) (b1 : V5) (u5 u7 u9 u35 u36 : Value) (H : Hp) (n : Nat) : Res := B65_1 cal k m1 b1 u5 u7 u9 u35 u36 H n
noncomputable def S65_1 (cal : Cal) (k : Nat) : Nat → V5 := fun m => Nat.rec (motive := fun _ => V5) (C65_1 cal k 0 (fun _ _ _ _ _ _ _ => none)) (fun m ih => C65_1 cal k (m + 1) ih) m
theorem h65_1 (cal : Cal) (k m1 : Nat) (u5 u7 u9 u35 u36 : Value) (H : Hp) (n : Nat) : labK (E65_1 cal k m1) (Tr.set (Tr.set (Tr.set (Tr.set (Tr.set Tr.nil 36 (some u36)) 35 (some u35)) 9 (some u9)) 7 (some u7)) 5 (some u5)) H n [] = C65_1 cal k m1 (R65_1 cal k m1) u5 u7 u9 u35 u36 H n := by
  refine Eq.trans (b := B65_1 cal k m1 (R65_1 cal k m1) u5 u7 u9 u35 u36 H n) (by kernel_rfl) ?_
  rw [C65_1]
theorem q65_1 (cal : Cal) (k : Nat) : ∀ (m : Nat) (u5 u7 u9 u35 u36 : Value) (H : Hp) (n : Nat), labK (E65_1 cal k m) (Tr.set (Tr.set (Tr.set (Tr.set (Tr.set Tr.nil 36 (some u36)) 35 (some u35)) 9 (some u9)) 7 (some u7)) 5 (some u5)) H n [] = S65_1 cal k m u5 u7 u9 u35 u36 H n
  | 0, u5, u7, u9, u35, u36, H, n => by
    rw [h65_1]
    have e : R65_1 cal k 0 = fun _ _ _ _ _ _ _ => none := by funext u5 u7 u9 u35 u36 H n; kernel_rfl
    rw [e]; rfl
  | m + 1, u5, u7, u9, u35, u36, H, n => by
    rw [h65_1]
    have e : R65_1 cal k (m + 1) = S65_1 cal k m := by
      funext u5 u7 u9 u35 u36 H n
      have e : R65_1 cal k (m + 1) u5 u7 u9 u35 u36 H n = labK (E65_1 cal k m) (Tr.set (Tr.set (Tr.set (Tr.set (Tr.set Tr.nil 36 (some u36)) 35 (some u35)) 9 (some u9)) 7 (some u7)) 5 (some u5)) H n [] := by kernel_rfl
      rw [e]; exact q65_1 ..
    rw [e]; rfl
noncomputable def B65_0 (cal : Cal) (k : Nat) (j1 : V5) (v0 v1 : Value) (H : Hp) (n : Nat) : Res :=
boxK 35 v0 H n fun v_1 H_2 n_3 =>
allocK P 121 H_2 n_3 fun v_5 H_6 n_7 =>
bindO (addrV v_1) fun a_a => bindO (loadV P H_6 35 a_a) fun v_9 =>
callFK P cal 61 [v_9] H_6 n_7 fun v_b H_c n_d =>
bindO (tupV v_b 0) fun v_f =>
bindO (tupV v_b 1) fun v_g =>
binK P .neq 29 (.tmp 17) (.const (.int .i64 0)) v_g (.int .i64 0) fun v_k =>
ifK v_k (
bindO (buildP P 121 []) fun v_l =>
bindO (storeP P 121 v_5 v_l H_c) fun H_p =>
bindO (resV P (Tr.set (Tr.set (Tr.set Tr.nil 6 (some v_g)) 5 (some v_5)) 4 (some (.pointer none))) H_p results65) fun v_r => some (oneV v_r, H_p, n_d)) (
bindO (lenV P 44 v1) fun v_t =>
bindO (nilV v_f) fun v_v =>
bindO (fieldAddrV P 117 v_v 0) fun v_w =>
bindO (fieldAddrV P 35 v_w 0) fun v_x =>
bindO (addrV v_x) fun a_z => bindO (loadV P H_c 31 a_z) fun v_y =>
bindO (lenV P 31 v_y) fun v_10 =>
binK P .neq 3 (.tmp 22) (.tmp 28) v_t v_10 fun v_11 =>
ifK v_11 (
bindO (buildP P 121 []) fun v_12 =>
bindO (storeP P 121 v_5 v_12 H_c) fun H_15 =>
bindO (resV P (Tr.set (Tr.set (Tr.set Tr.nil 6 (some (.int .i64 2))) 5 (some v_5)) 4 (some (.pointer none))) H_15 results65) fun v_17 => some (oneV v_17, H_15, n_d)) (
callFK P cal 101 [] H_c n_d fun v_18 H_19 n_1a =>
allocK P 121 H_19 n_1a fun v_1b H_1c n_1d =>
bindO (storeP P 121 v_1b v_18 H_1c) fun H_1f =>
bindO (sliceV P 121 v_1b none none) fun v_1g =>
stK (copyV P (bare H_1f n_1d) 44 v_1g v1) fun v_1i H_1j n_1k =>
bindO (addrV v_1b) fun a_1m => bindO (loadV P H_1j 121 a_1m) fun v_1l =>
j1 v_5 v_f v_1b v_1l (.int .i64 0) H_1j n_1k))
noncomputable def C65_0 (cal : Cal) (k : Nat) (v0 v1 : Value) (H : Hp) (n : Nat) : Res := B65_0 cal k (S65_1 cal k k) v0 v1 H n
theorem h65_0 (cal : Cal) (k : Nat) (v0 v1 : Value) (H : Hp) (n : Nat) : bodyE P cal A (k + 1) 65 [v0, v1] H n = C65_0 cal k v0 v1 H n := by
  have h : bodyE P cal A (k + 1) 65 [v0, v1] H n = B65_0 cal k (fun u5 u7 u9 u35 u36 H n => labK (E65_1 cal k k) (Tr.set (Tr.set (Tr.set (Tr.set (Tr.set Tr.nil 36 (some u36)) 35 (some u35)) 9 (some u9)) 7 (some u7)) 5 (some u5)) H n []) v0 v1 H n := by
    rw [body_eq (fn := Go.Proofs.Try.f65) (c := code65) (rs := results65) (by kernel_rfl) (by kernel_rfl) (by kernel_rfl) (by kernel_rfl)]
    kernel_rfl
  rw [h, C65_0]
  have e1 : (fun u5 u7 u9 u35 u36 H n => labK (E65_1 cal k k) (Tr.set (Tr.set (Tr.set (Tr.set (Tr.set Tr.nil 36 (some u36)) 35 (some u35)) 9 (some u9)) 7 (some u7)) 5 (some u5)) H n []) = (S65_1 cal k k) := by funext u5 u7 u9 u35 u36 H n; exact q65_1 ..
  rw [e1]
noncomputable def code67 : Code := codeOf 67
noncomputable def results67 : List ResultVar := resOf 67
noncomputable def K67_p (cal : Cal) (k : Nat) : KR := (cutK (A 67).c (codeE P cal (codeF P cal k) none 67 (cR code67) (Lv.b (A 67)) (doneK P results67) X0 (doneK P results67)))
noncomputable def K67_pr (cal : Cal) (k : Nat) : KR := (cutK (Lv.b (A 67)).c (codeE P cal (codeF P cal k) none 67 (cR (cR code67)) (Lv.b (Lv.b (A 67))) (doneK P results67) X0 (doneK P results67)))
noncomputable def K67_prl (cal : Cal) (k : Nat) : KR := (cutK (Lv.a (Lv.b (A 67))).c (codeE P cal (codeF P cal k) none 67 (cR (cL (cR code67))) (Lv.b (Lv.a (Lv.b (A 67)))) (K67_pr cal k) X0 (doneK P results67)))
noncomputable def K67_prlrl (cal : Cal) (k : Nat) : KR := (cutK (Lv.a (Lv.b (Lv.a (Lv.b (A 67))))).c (codeE P cal (codeF P cal k) none 67 (cR (cL (cR (cL (cR code67))))) (Lv.b (Lv.a (Lv.b (Lv.a (Lv.b (A 67)))))) (K67_pr cal k) X0 (doneK P results67)))
noncomputable def K67_prr (cal : Cal) (k : Nat) : KR := (cutK (Lv.b (Lv.b (A 67))).c (codeE P cal (codeF P cal k) none 67 (cR (cR (cR code67))) (Lv.b (Lv.b (Lv.b (A 67)))) (doneK P results67) X0 (doneK P results67)))
noncomputable def B67_0 (cal : Cal) (k : Nat) (v0 : Value) (H : Hp) (n : Nat) : Res :=
binK P .eql 45 (.tmp 3) (.const (.slice none 0 0)) v0 (.slice none 0 0) fun v_3 =>
ifK v_3 (
some ((.slice none 0 0), H, n)) (
rowK P 45 0 [] H n fun v_5 H_6 n_7 =>
stK (appendV P (bare H_6 n_7) 45 45 v_5 v0) fun v_9 H_a n_b =>
some (v_9, H_a, n_b))
noncomputable def C67_0 (cal : Cal) (k : Nat) (v0 : Value) (H : Hp) (n : Nat) : Res := B67_0 cal k v0 H n
theorem h67_0 (cal : Cal) (k : Nat) (v0 : Value) (H : Hp) (n : Nat) : bodyE P cal A (k + 1) 67 [v0] H n = C67_0 cal k v0 H n := by
  have h : bodyE P cal A (k + 1) 67 [v0] H n = B67_0 cal k v0 H n := by
    rw [body_eq (fn := Go.Proofs.Try.f67) (c := code67) (rs := results67) (by kernel_rfl) (by kernel_rfl) (by kernel_rfl) (by kernel_rfl)]
    kernel_rfl
  rw [h, C67_0]
noncomputable def code68 : Code := codeOf 68
noncomputable def results68 : List ResultVar := resOf 68
noncomputable def K68_p (cal : Cal) (k : Nat) : KR := (cutK (A 68).c (codeE P cal (codeF P cal k) none 68 (cR code68) (Lv.b (A 68)) (doneK P results68) X0 (doneK P results68)))
noncomputable def K68_pr (cal : Cal) (k : Nat) : KR := (cutK (Lv.b (A 68)).c (codeE P cal (codeF P cal k) none 68 (cR (cR code68)) (Lv.b (Lv.b (A 68))) (doneK P results68) X0 (doneK P results68)))
noncomputable def B68_0 (cal : Cal) (k : Nat) (v0 v1 v2 : Value) (H : Hp) (n : Nat) : Res :=
boxK 111 v1 H n fun v_1 H_2 n_3 =>
bindO (indexAddrV P 111 v_1 v2) fun v_6 =>
bindO (fieldAddrV P 53 v_6 0) fun v_7 =>
bindO (addrV v_7) fun a_8 => bindO (loadV P H_2 3 a_8) fun v_9 =>
bindO (nilV v0) fun v_b =>
bindO (fieldAddrV P 117 v_b 0) fun v_c =>
bindO (fieldAddrV P 35 v_c 0) fun v_d =>
bindO (addrV v_d) fun a_e => bindO (loadV P H_2 31 a_e) fun v_f =>
bindO (indexAddrV P 31 v_f v2) fun v_h =>
bindO (fieldAddrV P 90 v_h 0) fun v_i =>
bindO (addrV v_i) fun a_j => bindO (loadV P H_2 3 a_j) fun v_k =>
binK P .lss 3 (.tmp 10) (.tmp 19) v_9 v_k fun v_l =>
some (v_l, H_2, n_3)
noncomputable def C68_0 (cal : Cal) (k : Nat) (v0 v1 v2 : Value) (H : Hp) (n : Nat) : Res := B68_0 cal k v0 v1 v2 H n
theorem h68_0 (cal : Cal) (k : Nat) (v0 v1 v2 : Value) (H : Hp) (n : Nat) : bodyE P cal A (k + 1) 68 [v0, v1, v2] H n = C68_0 cal k v0 v1 v2 H n := by
  have h : bodyE P cal A (k + 1) 68 [v0, v1, v2] H n = B68_0 cal k v0 v1 v2 H n := by
    rw [body_eq (fn := Go.Proofs.Try.f68) (c := code68) (rs := results68) (by kernel_rfl) (by kernel_rfl) (by kernel_rfl) (by kernel_rfl)]
    kernel_rfl
  rw [h, C68_0]
noncomputable def code69 : Code := codeOf 69
noncomputable def results69 : List ResultVar := resOf 69
noncomputable def K69_p (cal : Cal) (k : Nat) : KR := (cutK (A 69).c (codeE P cal (codeF P cal k) none 69 (cR code69) (Lv.b (A 69)) (doneK P results69) X0 (doneK P results69)))
noncomputable def K69_pr (cal : Cal) (k : Nat) : KR := (cutK (Lv.b (A 69)).c (codeE P cal (codeF P cal k) none 69 (cR (cR code69)) (Lv.b (Lv.b (A 69))) (doneK P results69) X0 (doneK P results69)))
noncomputable def B69_0 (cal : Cal) (k : Nat) (v0 v1 v2 : Value) (H : Hp) (n : Nat) : Res :=
boxK 111 v1 H n fun v_1 H_2 n_3 =>
bindO (indexAddrV P 111 v_1 v2) fun v_6 =>
bindO (fieldAddrV P 53 v_6 1) fun v_7 =>
bindO (addrV v_7) fun a_8 => bindO (loadV P H_2 3 a_8) fun v_9 =>
bindO (nilV v0) fun v_b =>
bindO (fieldAddrV P 117 v_b 0) fun v_c =>
bindO (fieldAddrV P 35 v_c 0) fun v_d =>
bindO (addrV v_d) fun a_e => bindO (loadV P H_2 31 a_e) fun v_f =>
bindO (indexAddrV P 31 v_f v2) fun v_h =>
bindO (fieldAddrV P 90 v_h 1) fun v_i =>
bindO (addrV v_i) fun a_j => bindO (loadV P H_2 3 a_j) fun v_k =>
binK P .gtr 3 (.tmp 10) (.tmp 19) v_9 v_k fun v_l =>
some (v_l, H_2, n_3)
noncomputable def C69_0 (cal : Cal) (k : Nat) (v0 v1 v2 : Value) (H : Hp) (n : Nat) : Res := B69_0 cal k v0 v1 v2 H n
theorem h69_0 (cal : Cal) (k : Nat) (v0 v1 v2 : Value) (H : Hp) (n : Nat) : bodyE P cal A (k + 1) 69 [v0, v1, v2] H n = C69_0 cal k v0 v1 v2 H n := by
  have h : bodyE P cal A (k + 1) 69 [v0, v1, v2] H n = B69_0 cal k v0 v1 v2 H n := by
    rw [body_eq (fn := Go.Proofs.Try.f69) (c := code69) (rs := results69) (by kernel_rfl) (by kernel_rfl) (by kernel_rfl) (by kernel_rfl)]
    kernel_rfl
  rw [h, C69_0]
noncomputable def code71 : Code := codeOf 71
noncomputable def results71 : List ResultVar := resOf 71
noncomputable def K71_p (cal : Cal) (k : Nat) : KR := (cutK (A 71).c (codeE P cal (codeF P cal k) none 71 (cR code71) (Lv.b (A 71)) (doneK P results71) X0 (doneK P results71)))
noncomputable def K71_pr (cal : Cal) (k : Nat) : KR := (cutK (Lv.b (A 71)).c (codeE P cal (codeF P cal k) none 71 (cR (cR code71)) (Lv.b (Lv.b (A 71))) (doneK P results71) X0 (doneK P results71)))
noncomputable def B71_0 (cal : Cal) (k : Nat) (v0 v1 : Value) (H : Hp) (n : Nat) : Res :=
boxK 35 v0 H n fun v_1 H_2 n_3 =>
binK P .geq 3 (.tmp 5) (.const (.int .i64 0)) v1 (.int .i64 0) fun v_6 =>
guardK v_6 true (fun k_8 =>
k_8 v1 H_2 n_3) H_2 n_3 fun v_9 H_a n_b =>
guardK v_6 true (fun k_d =>
bindO (fieldAddrV P 35 v_1 0) fun v_h =>
k_d v_h H_a n_b) H_a n_b fun v_e H_f n_g =>
guardK v_6 true (fun k_i =>
bindO (addrV v_e) fun a_n => bindO (loadV P H_f 31 a_n) fun v_m =>
k_i v_m H_f n_g) H_f n_g fun v_j H_k n_l =>
guardK v_6 true (fun k_o =>
bindO (lenV P 31 v_j) fun v_s =>
k_o v_s H_k n_l) H_k n_l fun v_p H_q n_r =>
guardK v_6 true (fun k_t =>
binK P .lss 3 (.tmp 8) (.tmp 11) v_9 v_p fun v_x =>
k_t v_x H_q n_r) H_q n_r fun v_u H_v n_w =>
bindO (pickV v_6 v_u (.bool false)) fun v_y =>
some (v_y, H_v, n_w)
noncomputable def C71_0 (cal : Cal) (k : Nat) (v0 v1 : Value) (H : Hp) (n : Nat) : Res := B71_0 cal k v0 v1 H n
theorem h71_0 (cal : Cal) (k : Nat) (v0 v1 : Value) (H : Hp) (n : Nat) : bodyE P cal A (k + 1) 71 [v0, v1] H n = C71_0 cal k v0 v1 H n := by
  have h : bodyE P cal A (k + 1) 71 [v0, v1] H n = B71_0 cal k v0 v1 H n := by
    rw [body_eq (fn := Go.Proofs.Try.f71) (c := code71) (rs := results71) (by kernel_rfl) (by kernel_rfl) (by kernel_rfl) (by kernel_rfl)]
    kernel_rfl
  rw [h, C71_0]
noncomputable def code72 : Code := codeOf 72
noncomputable def results72 : List ResultVar := resOf 72
noncomputable def K72_p (cal : Cal) (k : Nat) : KR := (cutK (A 72).c (codeE P cal (codeF P cal k) none 72 (cR code72) (Lv.b (A 72)) (doneK P results72) X0 (doneK P results72)))
noncomputable def K72_pr (cal : Cal) (k : Nat) : KR := (cutK (Lv.b (A 72)).c (codeE P cal (codeF P cal k) none 72 (cR (cR code72)) (Lv.b (Lv.b (A 72))) (doneK P results72) X0 (doneK P results72)))
noncomputable def B72_0 (cal : Cal) (k : Nat) (v0 : Value) (H : Hp) (n : Nat) : Res :=
boxK 53 v0 H n fun v_1 H_2 n_3 =>
bindO (fieldAddrV P 53 v_1 0) fun v_5 =>
bindO (addrV v_5) fun a_7 => bindO (loadV P H_2 3 a_7) fun v_6 =>
some (v_6, H_2, n_3)
noncomputable def C72_0 (cal : Cal) (k : Nat) (v0 : Value) (H : Hp) (n : Nat) : Res := B72_0 cal k v0 H n
theorem h72_0 (cal : Cal) (k : Nat) (v0 : Value) (H : Hp) (n : Nat) : bodyE P cal A (k + 1) 72 [v0] H n = C72_0 cal k v0 H n := by
  have h : bodyE P cal A (k + 1) 72 [v0] H n = B72_0 cal k v0 H n := by
    rw [body_eq (fn := Go.Proofs.Try.f72) (c := code72) (rs := results72) (by kernel_rfl) (by kernel_rfl) (by kernel_rfl) (by kernel_rfl)]
    kernel_rfl
  rw [h, C72_0]
noncomputable def code73 : Code := codeOf 73
noncomputable def results73 : List ResultVar := resOf 73
noncomputable def K73_p (cal : Cal) (k : Nat) : KR := (cutK (A 73).c (codeE P cal (codeF P cal k) none 73 (cR code73) (Lv.b (A 73)) (doneK P results73) X0 (doneK P results73)))
noncomputable def K73_pr (cal : Cal) (k : Nat) : KR := (cutK (Lv.b (A 73)).c (codeE P cal (codeF P cal k) none 73 (cR (cR code73)) (Lv.b (Lv.b (A 73))) (doneK P results73) X0 (doneK P results73)))
noncomputable def B73_0 (cal : Cal) (k : Nat) (v0 : Value) (H : Hp) (n : Nat) : Res :=
boxK 53 v0 H n fun v_1 H_2 n_3 =>
bindO (fieldAddrV P 53 v_1 1) fun v_5 =>
bindO (addrV v_5) fun a_7 => bindO (loadV P H_2 3 a_7) fun v_6 =>
some (v_6, H_2, n_3)
noncomputable def C73_0 (cal : Cal) (k : Nat) (v0 : Value) (H : Hp) (n : Nat) : Res := B73_0 cal k v0 H n
theorem h73_0 (cal : Cal) (k : Nat) (v0 : Value) (H : Hp) (n : Nat) : bodyE P cal A (k + 1) 73 [v0] H n = C73_0 cal k v0 H n := by
  have h : bodyE P cal A (k + 1) 73 [v0] H n = B73_0 cal k v0 H n := by
    rw [body_eq (fn := Go.Proofs.Try.f73) (c := code73) (rs := results73) (by kernel_rfl) (by kernel_rfl) (by kernel_rfl) (by kernel_rfl)]
    kernel_rfl
  rw [h, C73_0]
noncomputable def code74 : Code := codeOf 74
noncomputable def results74 : List ResultVar := resOf 74
noncomputable def K74_p (cal : Cal) (k : Nat) : KR := (cutK (A 74).c (codeE P cal (codeF P cal k) none 74 (cR code74) (Lv.b (A 74)) (doneK P results74) X0 (doneK P results74)))
noncomputable def K74_pr (cal : Cal) (k : Nat) : KR := (cutK (Lv.b (A 74)).c (codeE P cal (codeF P cal k) none 74 (cR (cR code74)) (Lv.b (Lv.b (A 74))) (doneK P results74) X0 (doneK P results74)))
noncomputable def B74_0 (cal : Cal) (k : Nat) (v0 v1 : Value) (H : Hp) (n : Nat) : Res :=
boxK 105 v0 H n fun v_1 H_2 n_3 =>
boxK 121 v1 H_2 n_3 fun v_4 H_5 n_6 =>
some ((Value.func (Fn.func 104) ⟨[]⟩ ⟨[v_4, v_1]⟩), H_5, n_6)
noncomputable def C74_0 (cal : Cal) (k : Nat) (v0 v1 : Value) (H : Hp) (n : Nat) : Res := B74_0 cal k v0 v1 H n
theorem h74_0 (cal : Cal) (k : Nat) (v0 v1 : Value) (H : Hp) (n : Nat) : bodyE P cal A (k + 1) 74 [v0, v1] H n = C74_0 cal k v0 v1 H n := by
  have h : bodyE P cal A (k + 1) 74 [v0, v1] H n = B74_0 cal k v0 v1 H n := by
    rw [body_eq (fn := Go.Proofs.Try.f74) (c := code74) (rs := results74) (by kernel_rfl) (by kernel_rfl) (by kernel_rfl) (by kernel_rfl)]
    kernel_rfl
  rw [h, C74_0]
noncomputable def code76 : Code := codeOf 76
noncomputable def results76 : List ResultVar := resOf 76
noncomputable def K76_p (cal : Cal) (k : Nat) : KR := (cutK (A 76).c (codeE P cal (codeF P cal k) none 76 (cR code76) (Lv.b (A 76)) (doneK P results76) X0 (doneK P results76)))
noncomputable def K76_pr (cal : Cal) (k : Nat) : KR := (cutK (Lv.b (A 76)).c (codeE P cal (codeF P cal k) none 76 (cR (cR code76)) (Lv.b (Lv.b (A 76))) (doneK P results76) X0 (doneK P results76)))
noncomputable def K76_prl (cal : Cal) (k : Nat) : KR := (cutK (Lv.a (Lv.b (A 76))).c (codeE P cal (codeF P cal k) none 76 (cR (cL (cR code76))) (Lv.b (Lv.a (Lv.b (A 76)))) (K76_pr cal k) X0 (doneK P results76)))
noncomputable def K76_prlrl (cal : Cal) (k : Nat) : KR := (cutK (Lv.a (Lv.b (Lv.a (Lv.b (A 76))))).c (codeE P cal (codeF P cal k) none 76 (cR (cL (cR (cL (cR code76))))) (Lv.b (Lv.a (Lv.b (Lv.a (Lv.b (A 76)))))) (K76_pr cal k) X0 (doneK P results76)))
noncomputable def K76_prr (cal : Cal) (k : Nat) : KR := (cutK (Lv.b (Lv.b (A 76))).c (codeE P cal (codeF P cal k) none 76 (cR (cR (cR code76))) (Lv.b (Lv.b (Lv.b (A 76)))) (doneK P results76) X0 (doneK P results76)))
noncomputable def B76_0 (cal : Cal) (k : Nat) (v0 : Value) (H : Hp) (n : Nat) : Res :=
binK P .eql 44 (.tmp 3) (.const (.slice none 0 0)) v0 (.slice none 0 0) fun v_3 =>
ifK v_3 (
some ((.slice none 0 0), H, n)) (
rowK P 44 0 [] H n fun v_5 H_6 n_7 =>
stK (appendV P (bare H_6 n_7) 44 44 v_5 v0) fun v_9 H_a n_b =>
some (v_9, H_a, n_b))
noncomputable def C76_0 (cal : Cal) (k : Nat) (v0 : Value) (H : Hp) (n : Nat) : Res := B76_0 cal k v0 H n
theorem h76_0 (cal : Cal) (k : Nat) (v0 : Value) (H : Hp) (n : Nat) : bodyE P cal A (k + 1) 76 [v0] H n = C76_0 cal k v0 H n := by
  have h : bodyE P cal A (k + 1) 76 [v0] H n = B76_0 cal k v0 H n := by
    rw [body_eq (fn := Go.Proofs.Try.f76) (c := code76) (rs := results76) (by kernel_rfl) (by kernel_rfl) (by kernel_rfl) (by kernel_rfl)]
    kernel_rfl
  rw [h, C76_0]
noncomputable def code83 : Code := codeOf 83
noncomputable def results83 : List ResultVar := resOf 83
noncomputable def K83_p (cal : Cal) (k : Nat) : KR := (cutK (A 83).c (codeE P cal (codeF P cal k) none 83 (cR code83) (Lv.b (A 83)) (doneK P results83) X0 (doneK P results83)))
noncomputable def K83_pr (cal : Cal) (k : Nat) : KR := (cutK (Lv.b (A 83)).c (codeE P cal (codeF P cal k) none 83 (cR (cR code83)) (Lv.b (Lv.b (A 83))) (doneK P results83) X0 (doneK P results83)))
noncomputable def K83_prl (cal : Cal) (k : Nat) : KR := (cutK (Lv.a (Lv.b (A 83))).c (codeE P cal (codeF P cal k) none 83 (cR (cL (cR code83))) (Lv.b (Lv.a (Lv.b (A 83)))) (K83_pr cal k) X0 (doneK P results83)))
noncomputable def K83_pxrlr (cal : Cal) (k : Nat) : XR := (upX 0 (K83_pr cal k) X0)
noncomputable def K83_prlrl (cal : Cal) (k : Nat) (m1 : Nat) : KR := (fun T H n D => codeF P cal m1 (Lv.a (Lv.b (Lv.a (Lv.b (A 83))))) none 83 (cL (cR (cL (cR code83)))) (K83_pr cal k) (K83_pxrlr cal k) (doneK P results83) (cutT (Lv.a (Lv.b (Lv.a (Lv.b (A 83))))).c T) H n D)
noncomputable def K83_prlrll (cal : Cal) (k : Nat) (m1 : Nat) : KR := (cutK (Lv.a (Lv.a (Lv.b (Lv.a (Lv.b (A 83)))))).c (codeE P cal (codeF P cal m1) none 83 (cR (cL (cL (cR (cL (cR code83)))))) (Lv.b (Lv.a (Lv.a (Lv.b (Lv.a (Lv.b (A 83))))))) (K83_prlrl cal k m1) (K83_pxrlr cal k) (doneK P results83)))
noncomputable def K83_prlrllr (cal : Cal) (k : Nat) (m1 : Nat) : KR := (cutK (Lv.b (Lv.a (Lv.a (Lv.b (Lv.a (Lv.b (A 83))))))).c (codeE P cal (codeF P cal m1) none 83 (cR (cR (cL (cL (cR (cL (cR code83))))))) (Lv.b (Lv.b (Lv.a (Lv.a (Lv.b (Lv.a (Lv.b (A 83)))))))) (K83_prlrl cal k m1) (K83_pxrlr cal k) (doneK P results83)))
noncomputable def K83_prlrllrr (cal : Cal) (k : Nat) (m1 : Nat) : KR := (cutK (Lv.b (Lv.b (Lv.a (Lv.a (Lv.b (Lv.a (Lv.b (A 83)))))))).c (codeE P cal (codeF P cal m1) none 83 (cR (cR (cR (cL (cL (cR (cL (cR code83)))))))) (Lv.b (Lv.b (Lv.b (Lv.a (Lv.a (Lv.b (Lv.a (Lv.b (A 83))))))))) (K83_prlrl cal k m1) (K83_pxrlr cal k) (doneK P results83)))
noncomputable def K83_pxrlrllrrl (cal : Cal) (k : Nat) (m1 : Nat) : XR := (upX 1 (K83_prlrllrr cal k m1) (K83_pxrlr cal k))
noncomputable def K83_prlrllrrll (cal : Cal) (k : Nat) (m1 : Nat) : KR := (cutK (Lv.a (Lv.a (Lv.b (Lv.b (Lv.a (Lv.a (Lv.b (Lv.a (Lv.b (A 83)))))))))).c (codeE P cal (codeF P cal m1) none 83 (cR (cL (cL (cR (cR (cL (cL (cR (cL (cR code83)))))))))) (Lv.b (Lv.a (Lv.a (Lv.b (Lv.b (Lv.a (Lv.a (Lv.b (Lv.a (Lv.b (A 83))))))))))) (K83_prlrllrr cal k m1) (K83_pxrlrllrrl cal k m1) (doneK P results83)))
noncomputable def K83_prlrllrrllr (cal : Cal) (k : Nat) (m1 : Nat) : KR := (cutK (Lv.b (Lv.a (Lv.a (Lv.b (Lv.b (Lv.a (Lv.a (Lv.b (Lv.a (Lv.b (A 83))))))))))).c (codeE P cal (codeF P cal m1) none 83 (cR (cR (cL (cL (cR (cR (cL (cL (cR (cL (cR code83))))))))))) (Lv.b (Lv.b (Lv.a (Lv.a (Lv.b (Lv.b (Lv.a (Lv.a (Lv.b (Lv.a (Lv.b (A 83)))))))))))) (K83_prlrllrr cal k m1) (K83_pxrlrllrrl cal k m1) (doneK P results83)))
noncomputable def K83_prlrllrrllrrl (cal : Cal) (k : Nat) (m1 : Nat) : KR := (cutK (Lv.a (Lv.b (Lv.b (Lv.a (Lv.a (Lv.b (Lv.b (Lv.a (Lv.a (Lv.b (Lv.a (Lv.b (A 83))))))))))))).c (codeE P cal (codeF P cal m1) none 83 (cR (cL (cR (cR (cL (cL (cR (cR (cL (cL (cR (cL (cR code83))))))))))))) (Lv.b (Lv.a (Lv.b (Lv.b (Lv.a (Lv.a (Lv.b (Lv.b (Lv.a (Lv.a (Lv.b (Lv.a (Lv.b (A 83)))))))))))))) (K83_prlrllrr cal k m1) (K83_pxrlrllrrl cal k m1) (doneK P results83)))
noncomputable def K83_prr (cal : Cal) (k : Nat) : KR := (cutK (Lv.b (Lv.b (A 83))).c (codeE P cal (codeF P cal k) none 83 (cR (cR (cR code83))) (Lv.b (Lv.b (Lv.b (A 83)))) (doneK P results83) X0 (doneK P results83)))
noncomputable def E83_1 (cal : Cal) (k m1 : Nat) : KR := codeE P cal (codeF P cal m1) none 83 (cL (cL (cR (cL (cR code83))))) (Lv.a (Lv.a (Lv.b (Lv.a (Lv.b (A 83)))))) (K83_prlrl cal k m1) (K83_pxrlr cal k) (doneK P results83)
noncomputable def R83_1 (cal : Cal) (k m1 : Nat) : V4 := fun u0 u3 u11 u12 H n => codeF P cal m1 (Lv.a (Lv.b (Lv.a (Lv.b (A 83))))) none 83 (cL (cR (cL (cR code83)))) (K83_pr cal k) (K83_pxrlr cal k) (doneK P results83) (Tr.set (Tr.set (Tr.set (Tr.set Tr.nil 12 (some u12)) 11 (some u11)) 3 (some u3)) 0 (some u0)) H n []
noncomputable def B83_1 (cal : Cal) (k m1 : Nat) (b1 : V4) (u0 u3 u11 u12 : Value) (H : Hp) (n : Nat) : Res :=
binK P .lss 3 (.tmp 12) (.tmp 11) u12 u11 fun v_d =>
ifK v_d (
bindO (addrV u3) fun a_i => bindO (loadV P H 111 a_i) fun v_h =>
callFK P cal 68 [u0, v_h, u12] H n fun v_k H_l n_m =>
ifK v_k (
some ((.bool false), H_l, n_m)) (
binK P .add 3 (.tmp 12) (.const (.int .i64 1)) u12 (.int .i64 1) fun v_o =>
b1 u0 u3 u11 v_o H_l n_m)) (
bindO (addrV u3) fun a_s => bindO (loadV P H 111 a_s) fun v_r =>
callFK P cal 111 [u0, v_r] H n fun v_t H_u n_v =>
some (v_t, H_u, n_v))
noncomputable def C83_1 (cal : Cal) (k m1 : Nat) (b1 : V4) (u0 u3 u11 u12 : Value) (H : Hp) (n : Nat) : Res := B83_1 cal k m1 b1 u0 u3 u11 u12 H n
noncomputable def S83_1 (cal : Cal) (k : Nat) : Nat → V4 := fun m => Nat.rec (motive := fun _ => V4) (C83_1 cal k 0 (fun _ _ _ _ _ _ => none)) (fun m ih => C83_1 cal k (m + 1) ih) m
theorem h83_1 (cal : Cal) (k m1 : Nat) (u0 u3 u11 u12 : Value) (H : Hp) (n : Nat) : labK (E83_1 cal k m1) (Tr.set (Tr.set (Tr.set (Tr.set Tr.nil 12 (some u12)) 11 (some u11)) 3 (some u3)) 0 (some u0)) H n [] = C83_1 cal k m1 (R83_1 cal k m1) u0 u3 u11 u12 H n := by
  refine Eq.trans (b := B83_1 cal k m1 (R83_1 cal k m1) u0 u3 u11 u12 H n) (by kernel_rfl) ?_
  rw [C83_1]
theorem q83_1 (cal : Cal) (k : Nat) : ∀ (m : Nat) (u0 u3 u11 u12 : Value) (H : Hp) (n : Nat), labK (E83_1 cal k m) (Tr.set (Tr.set (Tr.set (Tr.set Tr.nil 12 (some u12)) 11 (some u11)) 3 (some u3)) 0 (some u0)) H n [] = S83_1 cal k m u0 u3 u11 u12 H n
  | 0, u0, u3, u11, u12, H, n => by
    rw [h83_1]
    have e : R83_1 cal k 0 = fun _ _ _ _ _ _ => none := by funext u0 u3 u11 u12 H n; kernel_rfl
    rw [e]; rfl
  | m + 1, u0, u3, u11, u12, H, n => by
    rw [h83_1]
    have e : R83_1 cal k (m + 1) = S83_1 cal k m := by
      funext u0 u3 u11 u12 H n
      have e : R83_1 cal k (m + 1) u0 u3 u11 u12 H n = labK (E83_1 cal k m) (Tr.set (Tr.set (Tr.set (Tr.set Tr.nil 12 (some u12)) 11 (some u11)) 3 (some u3)) 0 (some u0)) H n [] := by kernel_rfl
      rw [e]; exact q83_1 ..
    rw [e]; rfl
noncomputable def B83_0 (cal : Cal) (k : Nat) (j1 : V4) (v0 v1 : Value) (H : Hp) (n : Nat) : Res :=
boxK 111 v1 H n fun v_1 H_2 n_3 =>
bindO (nilV v0) fun v_6 =>
bindO (fieldAddrV P 117 v_6 0) fun v_7 =>
bindO (fieldAddrV P 35 v_7 0) fun v_8 =>
bindO (addrV v_8) fun a_a => bindO (loadV P H_2 31 a_a) fun v_9 =>
bindO (lenV P 31 v_9) fun v_b =>
j1 v0 v_1 v_b (.int .i64 0) H_2 n_3
noncomputable def C83_0 (cal : Cal) (k : Nat) (v0 v1 : Value) (H : Hp) (n : Nat) : Res := B83_0 cal k (S83_1 cal k k) v0 v1 H n
theorem h83_0 (cal : Cal) (k : Nat) (v0 v1 : Value) (H : Hp) (n : Nat) : bodyE P cal A (k + 1) 83 [v0, v1] H n = C83_0 cal k v0 v1 H n := by
  have h : bodyE P cal A (k + 1) 83 [v0, v1] H n = B83_0 cal k (fun u0 u3 u11 u12 H n => labK (E83_1 cal k k) (Tr.set (Tr.set (Tr.set (Tr.set Tr.nil 12 (some u12)) 11 (some u11)) 3 (some u3)) 0 (some u0)) H n []) v0 v1 H n := by
    rw [body_eq (fn := Go.Proofs.Try.f83) (c := code83) (rs := results83) (by kernel_rfl) (by kernel_rfl) (by kernel_rfl) (by kernel_rfl)]
    kernel_rfl
  rw [h, C83_0]
  have e1 : (fun u0 u3 u11 u12 H n => labK (E83_1 cal k k) (Tr.set (Tr.set (Tr.set (Tr.set Tr.nil 12 (some u12)) 11 (some u11)) 3 (some u3)) 0 (some u0)) H n []) = (S83_1 cal k k) := by funext u0 u3 u11 u12 H n; exact q83_1 ..
  rw [e1]
noncomputable def code85 : Code := codeOf 85
noncomputable def results85 : List ResultVar := resOf 85
noncomputable def K85_p (cal : Cal) (k : Nat) : KR := (cutK (A 85).c (codeE P cal (codeF P cal k) none 85 (cR code85) (Lv.b (A 85)) (doneK P results85) X0 (doneK P results85)))
noncomputable def K85_pr (cal : Cal) (k : Nat) : KR := (cutK (Lv.b (A 85)).c (codeE P cal (codeF P cal k) none 85 (cR (cR code85)) (Lv.b (Lv.b (A 85))) (doneK P results85) X0 (doneK P results85)))
noncomputable def K85_prr (cal : Cal) (k : Nat) : KR := (cutK (Lv.b (Lv.b (A 85))).c (codeE P cal (codeF P cal k) none 85 (cR (cR (cR code85))) (Lv.b (Lv.b (Lv.b (A 85)))) (doneK P results85) X0 (doneK P results85)))
noncomputable def K85_prrr (cal : Cal) (k : Nat) : KR := (cutK (Lv.b (Lv.b (Lv.b (A 85)))).c (codeE P cal (codeF P cal k) none 85 (cR (cR (cR (cR code85)))) (Lv.b (Lv.b (Lv.b (Lv.b (A 85))))) (doneK P results85) X0 (doneK P results85)))
noncomputable def K85_prrrr (cal : Cal) (k : Nat) : KR := (cutK (Lv.b (Lv.b (Lv.b (Lv.b (A 85))))).c (codeE P cal (codeF P cal k) none 85 (cR (cR (cR (cR (cR code85))))) (Lv.b (Lv.b (Lv.b (Lv.b (Lv.b (A 85)))))) (doneK P results85) X0 (doneK P results85)))
noncomputable def K85_prrrrr (cal : Cal) (k : Nat) : KR := (cutK (Lv.b (Lv.b (Lv.b (Lv.b (Lv.b (A 85)))))).c (codeE P cal (codeF P cal k) none 85 (cR (cR (cR (cR (cR (cR code85)))))) (Lv.b (Lv.b (Lv.b (Lv.b (Lv.b (Lv.b (A 85))))))) (doneK P results85) X0 (doneK P results85)))
noncomputable def B85_0 (cal : Cal) (k : Nat) (v0 : Value) (H : Hp) (n : Nat) : Res :=
boxK 105 v0 H n fun v_1 H_2 n_3 =>
allocK P 44 H_2 n_3 fun v_5 H_6 n_7 =>
allocK P 170 H_6 n_7 fun v_8 H_9 n_a =>
bindO (storeP P 170 v_8 (Value.func (Fn.func 112) ⟨[]⟩ ⟨[v_5, v_1, v_8]⟩) H_9) fun H_d =>
bindO (addrV v_8) fun a_f => bindO (loadV P H_d 170 a_f) fun v_e =>
callVK P cal v_e [(.slice none 0 0), (.int .i64 0)] H_d n_a fun v_g H_h n_i =>
bindO (addrV v_5) fun a_k => bindO (loadV P H_h 44 a_k) fun v_j =>
some (v_j, H_h, n_i)
noncomputable def C85_0 (cal : Cal) (k : Nat) (v0 : Value) (H : Hp) (n : Nat) : Res := B85_0 cal k v0 H n
theorem h85_0 (cal : Cal) (k : Nat) (v0 : Value) (H : Hp) (n : Nat) : bodyE P cal A (k + 1) 85 [v0] H n = C85_0 cal k v0 H n := by
  have h : bodyE P cal A (k + 1) 85 [v0] H n = B85_0 cal k v0 H n := by
    rw [body_eq (fn := Go.Proofs.Try.f85) (c := code85) (rs := results85) (by kernel_rfl) (by kernel_rfl) (by kernel_rfl) (by kernel_rfl)]
    kernel_rfl
  rw [h, C85_0]
noncomputable def code91 : Code := codeOf 91
noncomputable def results91 : List ResultVar := resOf 91
noncomputable def K91_p (cal : Cal) (k : Nat) : KR := (cutK (A 91).c (codeE P cal (codeF P cal k) none 91 (cR code91) (Lv.b (A 91)) (doneK P results91) X0 (doneK P results91)))
noncomputable def K91_pr (cal : Cal) (k : Nat) : KR := (cutK (Lv.b (A 91)).c (codeE P cal (codeF P cal k) none 91 (cR (cR code91)) (Lv.b (Lv.b (A 91))) (doneK P results91) X0 (doneK P results91)))
noncomputable def K91_prl (cal : Cal) (k : Nat) : KR := (cutK (Lv.a (Lv.b (A 91))).c (codeE P cal (codeF P cal k) none 91 (cR (cL (cR code91))) (Lv.b (Lv.a (Lv.b (A 91)))) (K91_pr cal k) X0 (doneK P results91)))
noncomputable def K91_pxrlr (cal : Cal) (k : Nat) : XR := (upX 0 (K91_pr cal k) X0)
noncomputable def K91_prlrl (cal : Cal) (k : Nat) (m1 : Nat) : KR := (fun T H n D => codeF P cal m1 (Lv.a (Lv.b (Lv.a (Lv.b (A 91))))) none 91 (cL (cR (cL (cR code91)))) (K91_pr cal k) (K91_pxrlr cal k) (doneK P results91) (cutT (Lv.a (Lv.b (Lv.a (Lv.b (A 91))))).c T) H n D)
noncomputable def K91_prlrll (cal : Cal) (k : Nat) (m1 : Nat) : KR := (cutK (Lv.a (Lv.a (Lv.b (Lv.a (Lv.b (A 91)))))).c (codeE P cal (codeF P cal m1) none 91 (cR (cL (cL (cR (cL (cR code91)))))) (Lv.b (Lv.a (Lv.a (Lv.b (Lv.a (Lv.b (A 91))))))) (K91_prlrl cal k m1) (K91_pxrlr cal k) (doneK P results91)))
noncomputable def K91_prlrllr (cal : Cal) (k : Nat) (m1 : Nat) : KR := (cutK (Lv.b (Lv.a (Lv.a (Lv.b (Lv.a (Lv.b (A 91))))))).c (codeE P cal (codeF P cal m1) none 91 (cR (cR (cL (cL (cR (cL (cR code91))))))) (Lv.b (Lv.b (Lv.a (Lv.a (Lv.b (Lv.a (Lv.b (A 91)))))))) (K91_prlrl cal k m1) (K91_pxrlr cal k) (doneK P results91)))
noncomputable def K91_prlrllrr (cal : Cal) (k : Nat) (m1 : Nat) : KR := (cutK (Lv.b (Lv.b (Lv.a (Lv.a (Lv.b (Lv.a (Lv.b (A 91)))))))).c (codeE P cal (codeF P cal m1) none 91 (cR (cR (cR (cL (cL (cR (cL (cR code91)))))))) (Lv.b (Lv.b (Lv.b (Lv.a (Lv.a (Lv.b (Lv.a (Lv.b (A 91))))))))) (K91_prlrl cal k m1) (K91_pxrlr cal k) (doneK P results91)))
noncomputable def K91_pxrlrllrrl (cal : Cal) (k : Nat) (m1 : Nat) : XR := (upX 1 (K91_prlrllrr cal k m1) (K91_pxrlr cal k))
noncomputable def K91_prlrllrrll (cal : Cal) (k : Nat) (m1 : Nat) : KR := (cutK (Lv.a (Lv.a (Lv.b (Lv.b (Lv.a (Lv.a (Lv.b (Lv.a (Lv.b (A 91)))))))))).c (codeE P cal (codeF P cal m1) none 91 (cR (cL (cL (cR (cR (cL (cL (cR (cL (cR code91)))))))))) (Lv.b (Lv.a (Lv.a (Lv.b (Lv.b (Lv.a (Lv.a (Lv.b (Lv.a (Lv.b (A 91))))))))))) (K91_prlrllrr cal k m1) (K91_pxrlrllrrl cal k m1) (doneK P results91)))
noncomputable def K91_prlrllrrllr (cal : Cal) (k : Nat) (m1 : Nat) : KR := (cutK (Lv.b (Lv.a (Lv.a (Lv.b (Lv.b (Lv.a (Lv.a (Lv.b (Lv.a (Lv.b (A 91))))))))))).c (codeE P cal (codeF P cal m1) none 91 (cR (cR (cL (cL (cR (cR (cL (cL (cR (cL (cR code91))))))))))) (Lv.b (Lv.b (Lv.a (Lv.a (Lv.b (Lv.b (Lv.a (Lv.a (Lv.b (Lv.a (Lv.b (A 91)))))))))))) (K91_prlrllrr cal k m1) (K91_pxrlrllrrl cal k m1) (doneK P results91)))
noncomputable def K91_prlrllrrllrrl (cal : Cal) (k : Nat) (m1 : Nat) : KR := (cutK (Lv.a (Lv.b (Lv.b (Lv.a (Lv.a (Lv.b (Lv.b (Lv.a (Lv.a (Lv.b (Lv.a (Lv.b (A 91))))))))))))).c (codeE P cal (codeF P cal m1) none 91 (cR (cL (cR (cR (cL (cL (cR (cR (cL (cL (cR (cL (cR code91))))))))))))) (Lv.b (Lv.a (Lv.b (Lv.b (Lv.a (Lv.a (Lv.b (Lv.b (Lv.a (Lv.a (Lv.b (Lv.a (Lv.b (A 91)))))))))))))) (K91_prlrllrr cal k m1) (K91_pxrlrllrrl cal k m1) (doneK P results91)))
noncomputable def K91_prr (cal : Cal) (k : Nat) : KR := (cutK (Lv.b (Lv.b (A 91))).c (codeE P cal (codeF P cal k) none 91 (cR (cR (cR code91))) (Lv.b (Lv.b (Lv.b (A 91)))) (doneK P results91) X0 (doneK P results91)))
noncomputable def E91_1 (cal : Cal) (k m1 : Nat) : KR := codeE P cal (codeF P cal m1) none 91 (cL (cL (cR (cL (cR code91))))) (Lv.a (Lv.a (Lv.b (Lv.a (Lv.b (A 91)))))) (K91_prlrl cal k m1) (K91_pxrlr cal k) (doneK P results91)
noncomputable def R91_1 (cal : Cal) (k m1 : Nat) : V4 := fun u1 u7 u8 u9 H n => codeF P cal m1 (Lv.a (Lv.b (Lv.a (Lv.b (A 91))))) none 91 (cL (cR (cL (cR code91)))) (K91_pr cal k) (K91_pxrlr cal k) (doneK P results91) (Tr.set (Tr.set (Tr.set (Tr.set Tr.nil 9 (some u9)) 8 (some u8)) 7 (some u7)) 1 (some u1)) H n []
noncomputable def B91_1 (cal : Cal) (k m1 : Nat) (b1 : V4) (u1 u7 u8 u9 : Value) (H : Hp) (n : Nat) : Res :=
binK P .lss 3 (.tmp 9) (.tmp 8) u9 u8 fun v_5 =>
ifK v_5 (
bindO (indexAddrV P 31 u7 u9) fun v_6 =>
bindO (addrV v_6) fun a_8 => bindO (loadV P H 90 a_8) fun v_7 =>
allocK P 90 H n fun v_9 H_a n_b =>
bindO (storeP P 90 v_9 v_7 H_a) fun H_d =>
bindO (addrV v_9) fun a_g => bindO (loadV P H_d 90 a_g) fun v_f =>
callVK P cal u1 [v_f] H_d n_b fun v_h H_i n_j =>
bindO (pureSem P v_h (Op.unary UnOp.not v_h)) fun v_k =>
ifK v_k (
some ((.bool false), H_i, n_j)) (
binK P .add 3 (.tmp 9) (.const (.int .i64 1)) u9 (.int .i64 1) fun v_m =>
b1 u1 u7 u8 v_m H_i n_j)) (
some ((.bool true), H, n))
noncomputable def C91_1 (cal : Cal) (k m1 : Nat) (b1 : V4) (u1 u7 u8 u9 : Value) (H : Hp) (n : Nat) : Res := B91_1 cal k m1 b1 u1 u7 u8 u9 H n
noncomputable def S91_1 (cal : Cal) (k : Nat) : Nat → V4 := fun m => Nat.rec (motive := fun _ => V4) (C91_1 cal k 0 (fun _ _ _ _ _ _ => none)) (fun m ih => C91_1 cal k (m + 1) ih) m
theorem h91_1 (cal : Cal) (k m1 : Nat) (u1 u7 u8 u9 : Value) (H : Hp) (n : Nat) : labK (E91_1 cal k m1) (Tr.set (Tr.set (Tr.set (Tr.set Tr.nil 9 (some u9)) 8 (some u8)) 7 (some u7)) 1 (some u1)) H n [] = C91_1 cal k m1 (R91_1 cal k m1) u1 u7 u8 u9 H n := by
  refine Eq.trans (b := B91_1 cal k m1 (R91_1 cal k m1) u1 u7 u8 u9 H n) (by kernel_rfl) ?_
  rw [C91_1]
theorem q91_1 (cal : Cal) (k : Nat) : ∀ (m : Nat) (u1 u7 u8 u9 : Value) (H : Hp) (n : Nat), labK (E91_1 cal k m) (Tr.set (Tr.set (Tr.set (Tr.set Tr.nil 9 (some u9)) 8 (some u8)) 7 (some u7)) 1 (some u1)) H n [] = S91_1 cal k m u1 u7 u8 u9 H n
  | 0, u1, u7, u8, u9, H, n => by
    rw [h91_1]
    have e : R91_1 cal k 0 = fun _ _ _ _ _ _ => none := by funext u1 u7 u8 u9 H n; kernel_rfl
    rw [e]; rfl
  | m + 1, u1, u7, u8, u9, H, n => by
    rw [h91_1]
    have e : R91_1 cal k (m + 1) = S91_1 cal k m := by
      funext u1 u7 u8 u9 H n
      have e : R91_1 cal k (m + 1) u1 u7 u8 u9 H n = labK (E91_1 cal k m) (Tr.set (Tr.set (Tr.set (Tr.set Tr.nil 9 (some u9)) 8 (some u8)) 7 (some u7)) 1 (some u1)) H n [] := by kernel_rfl
      rw [e]; exact q91_1 ..
    rw [e]; rfl
noncomputable def B91_0 (cal : Cal) (k : Nat) (j1 : V4) (v0 v1 : Value) (H : Hp) (n : Nat) : Res :=
bindO (lenV P 31 v0) fun v_3 =>
j1 v1 v0 v_3 (.int .i64 0) H n
noncomputable def C91_0 (cal : Cal) (k : Nat) (v0 v1 : Value) (H : Hp) (n : Nat) : Res := B91_0 cal k (S91_1 cal k k) v0 v1 H n
theorem h91_0 (cal : Cal) (k : Nat) (v0 v1 : Value) (H : Hp) (n : Nat) : bodyE P cal A (k + 1) 91 [v0, v1] H n = C91_0 cal k v0 v1 H n := by
  have h : bodyE P cal A (k + 1) 91 [v0, v1] H n = B91_0 cal k (fun u1 u7 u8 u9 H n => labK (E91_1 cal k k) (Tr.set (Tr.set (Tr.set (Tr.set Tr.nil 9 (some u9)) 8 (some u8)) 7 (some u7)) 1 (some u1)) H n []) v0 v1 H n := by
    rw [body_eq (fn := Go.Proofs.Try.f91) (c := code91) (rs := results91) (by kernel_rfl) (by kernel_rfl) (by kernel_rfl) (by kernel_rfl)]
    kernel_rfl
  rw [h, C91_0]
  have e1 : (fun u1 u7 u8 u9 H n => labK (E91_1 cal k k) (Tr.set (Tr.set (Tr.set (Tr.set Tr.nil 9 (some u9)) 8 (some u8)) 7 (some u7)) 1 (some u1)) H n []) = (S91_1 cal k k) := by funext u1 u7 u8 u9 H n; exact q91_1 ..
  rw [e1]
noncomputable def code92 : Code := codeOf 92
noncomputable def results92 : List ResultVar := resOf 92
noncomputable def K92_p (cal : Cal) (k : Nat) : KR := (cutK (A 92).c (codeE P cal (codeF P cal k) none 92 (cR code92) (Lv.b (A 92)) (doneK P results92) X0 (doneK P results92)))
noncomputable def K92_pr (cal : Cal) (k : Nat) : KR := (cutK (Lv.b (A 92)).c (codeE P cal (codeF P cal k) none 92 (cR (cR code92)) (Lv.b (Lv.b (A 92))) (doneK P results92) X0 (doneK P results92)))
noncomputable def B92_0 (cal : Cal) (k : Nat) (v0 : Value) (H : Hp) (n : Nat) : Res :=
boxK 90 v0 H n fun v_1 H_2 n_3 =>
bindO (fieldAddrV P 90 v_1 0) fun v_5 =>
bindO (addrV v_5) fun a_7 => bindO (loadV P H_2 3 a_7) fun v_6 =>
binK P .geq 3 (.tmp 4) (.const (.int .i64 0)) v_6 (.int .i64 0) fun v_8 =>
guardK v_8 true (fun k_a =>
bindO (fieldAddrV P 90 v_1 0) fun v_e =>
k_a v_e H_2 n_3) H_2 n_3 fun v_b H_c n_d =>
guardK v_8 true (fun k_f =>
bindO (addrV v_b) fun a_k => bindO (loadV P H_c 3 a_k) fun v_j =>
k_f v_j H_c n_d) H_c n_d fun v_g H_h n_i =>
guardK v_8 true (fun k_l =>
bindO (fieldAddrV P 90 v_1 1) fun v_p =>
k_l v_p H_h n_i) H_h n_i fun v_m H_n n_o =>
guardK v_8 true (fun k_q =>
bindO (addrV v_m) fun a_v => bindO (loadV P H_n 3 a_v) fun v_u =>
k_q v_u H_n n_o) H_n n_o fun v_r H_s n_t =>
guardK v_8 true (fun k_w =>
binK P .leq 3 (.tmp 8) (.tmp 10) v_g v_r fun v_10 =>
k_w v_10 H_s n_t) H_s n_t fun v_x H_y n_z =>
bindO (pickV v_8 v_x (.bool false)) fun v_11 =>
guardK v_11 true (fun k_13 =>
bindO (fieldAddrV P 90 v_1 1) fun v_17 =>
k_13 v_17 H_y n_z) H_y n_z fun v_14 H_15 n_16 =>
guardK v_11 true (fun k_18 =>
bindO (addrV v_14) fun a_1d => bindO (loadV P H_15 3 a_1d) fun v_1c =>
k_18 v_1c H_15 n_16) H_15 n_16 fun v_19 H_1a n_1b =>
guardK v_11 true (fun k_1e =>
binK P .leq 3 (.tmp 15) (.const (.int .i64 1000)) v_19 (.int .i64 1000) fun v_1i =>
k_1e v_1i H_1a n_1b) H_1a n_1b fun v_1f H_1g n_1h =>
bindO (pickV v_11 v_1f (.bool false)) fun v_1j =>
some (v_1j, H_1g, n_1h)
noncomputable def C92_0 (cal : Cal) (k : Nat) (v0 : Value) (H : Hp) (n : Nat) : Res := B92_0 cal k v0 H n
theorem h92_0 (cal : Cal) (k : Nat) (v0 : Value) (H : Hp) (n : Nat) : bodyE P cal A (k + 1) 92 [v0] H n = C92_0 cal k v0 H n := by
  have h : bodyE P cal A (k + 1) 92 [v0] H n = B92_0 cal k v0 H n := by
    rw [body_eq (fn := Go.Proofs.Try.f92) (c := code92) (rs := results92) (by kernel_rfl) (by kernel_rfl) (by kernel_rfl) (by kernel_rfl)]
    kernel_rfl
  rw [h, C92_0]
noncomputable def code93 : Code := codeOf 93
noncomputable def results93 : List ResultVar := resOf 93
noncomputable def K93_p (cal : Cal) (k : Nat) : KR := (cutK (A 93).c (codeE P cal (codeF P cal k) none 93 (cR code93) (Lv.b (A 93)) (doneK P results93) X0 (doneK P results93)))
noncomputable def K93_pr (cal : Cal) (k : Nat) : KR := (cutK (Lv.b (A 93)).c (codeE P cal (codeF P cal k) none 93 (cR (cR code93)) (Lv.b (Lv.b (A 93))) (doneK P results93) X0 (doneK P results93)))
noncomputable def K93_prl (cal : Cal) (k : Nat) : KR := (cutK (Lv.a (Lv.b (A 93))).c (codeE P cal (codeF P cal k) none 93 (cR (cL (cR code93))) (Lv.b (Lv.a (Lv.b (A 93)))) (K93_pr cal k) X0 (doneK P results93)))
noncomputable def K93_pxrlr (cal : Cal) (k : Nat) : XR := (upX 0 (K93_pr cal k) X0)
noncomputable def K93_prlrl (cal : Cal) (k : Nat) (m1 : Nat) : KR := (fun T H n D => codeF P cal m1 (Lv.a (Lv.b (Lv.a (Lv.b (A 93))))) none 93 (cL (cR (cL (cR code93)))) (K93_pr cal k) (K93_pxrlr cal k) (doneK P results93) (cutT (Lv.a (Lv.b (Lv.a (Lv.b (A 93))))).c T) H n D)
noncomputable def K93_prlrll (cal : Cal) (k : Nat) (m1 : Nat) : KR := (cutK (Lv.a (Lv.a (Lv.b (Lv.a (Lv.b (A 93)))))).c (codeE P cal (codeF P cal m1) none 93 (cR (cL (cL (cR (cL (cR code93)))))) (Lv.b (Lv.a (Lv.a (Lv.b (Lv.a (Lv.b (A 93))))))) (K93_prlrl cal k m1) (K93_pxrlr cal k) (doneK P results93)))
noncomputable def K93_prlrllr (cal : Cal) (k : Nat) (m1 : Nat) : KR := (cutK (Lv.b (Lv.a (Lv.a (Lv.b (Lv.a (Lv.b (A 93))))))).c (codeE P cal (codeF P cal m1) none 93 (cR (cR (cL (cL (cR (cL (cR code93))))))) (Lv.b (Lv.b (Lv.a (Lv.a (Lv.b (Lv.a (Lv.b (A 93)))))))) (K93_prlrl cal k m1) (K93_pxrlr cal k) (doneK P results93)))
noncomputable def K93_prlrllrr (cal : Cal) (k : Nat) (m1 : Nat) : KR := (cutK (Lv.b (Lv.b (Lv.a (Lv.a (Lv.b (Lv.a (Lv.b (A 93)))))))).c (codeE P cal (codeF P cal m1) none 93 (cR (cR (cR (cL (cL (cR (cL (cR code93)))))))) (Lv.b (Lv.b (Lv.b (Lv.a (Lv.a (Lv.b (Lv.a (Lv.b (A 93))))))))) (K93_prlrl cal k m1) (K93_pxrlr cal k) (doneK P results93)))
noncomputable def K93_pxrlrllrrl (cal : Cal) (k : Nat) (m1 : Nat) : XR := (upX 1 (K93_prlrllrr cal k m1) (K93_pxrlr cal k))
noncomputable def K93_prlrllrrll (cal : Cal) (k : Nat) (m1 : Nat) : KR := (cutK (Lv.a (Lv.a (Lv.b (Lv.b (Lv.a (Lv.a (Lv.b (Lv.a (Lv.b (A 93)))))))))).c (codeE P cal (codeF P cal m1) none 93 (cR (cL (cL (cR (cR (cL (cL (cR (cL (cR code93)))))))))) (Lv.b (Lv.a (Lv.a (Lv.b (Lv.b (Lv.a (Lv.a (Lv.b (Lv.a (Lv.b (A 93))))))))))) (K93_prlrllrr cal k m1) (K93_pxrlrllrrl cal k m1) (doneK P results93)))
noncomputable def K93_prlrllrrllr (cal : Cal) (k : Nat) (m1 : Nat) : KR := (cutK (Lv.b (Lv.a (Lv.a (Lv.b (Lv.b (Lv.a (Lv.a (Lv.b (Lv.a (Lv.b (A 93))))))))))).c (codeE P cal (codeF P cal m1) none 93 (cR (cR (cL (cL (cR (cR (cL (cL (cR (cL (cR code93))))))))))) (Lv.b (Lv.b (Lv.a (Lv.a (Lv.b (Lv.b (Lv.a (Lv.a (Lv.b (Lv.a (Lv.b (A 93)))))))))))) (K93_prlrllrr cal k m1) (K93_pxrlrllrrl cal k m1) (doneK P results93)))
noncomputable def K93_prlrllrrllrrl (cal : Cal) (k : Nat) (m1 : Nat) : KR := (cutK (Lv.a (Lv.b (Lv.b (Lv.a (Lv.a (Lv.b (Lv.b (Lv.a (Lv.a (Lv.b (Lv.a (Lv.b (A 93))))))))))))).c (codeE P cal (codeF P cal m1) none 93 (cR (cL (cR (cR (cL (cL (cR (cR (cL (cL (cR (cL (cR code93))))))))))))) (Lv.b (Lv.a (Lv.b (Lv.b (Lv.a (Lv.a (Lv.b (Lv.b (Lv.a (Lv.a (Lv.b (Lv.a (Lv.b (A 93)))))))))))))) (K93_prlrllrr cal k m1) (K93_pxrlrllrrl cal k m1) (doneK P results93)))
noncomputable def K93_prr (cal : Cal) (k : Nat) : KR := (cutK (Lv.b (Lv.b (A 93))).c (codeE P cal (codeF P cal k) none 93 (cR (cR (cR code93))) (Lv.b (Lv.b (Lv.b (A 93)))) (doneK P results93) X0 (doneK P results93)))
noncomputable def E93_1 (cal : Cal) (k m1 : Nat) : KR := codeE P cal (codeF P cal m1) none 93 (cL (cL (cR (cL (cR code93))))) (Lv.a (Lv.a (Lv.b (Lv.a (Lv.b (A 93)))))) (K93_prlrl cal k m1) (K93_pxrlr cal k) (doneK P results93)
noncomputable def R93_1 (cal : Cal) (k m1 : Nat) : V4 := fun u1 u7 u8 u9 H n => codeF P cal m1 (Lv.a (Lv.b (Lv.a (Lv.b (A 93))))) none 93 (cL (cR (cL (cR code93)))) (K93_pr cal k) (K93_pxrlr cal k) (doneK P results93) (Tr.set (Tr.set (Tr.set (Tr.set Tr.nil 9 (some u9)) 8 (some u8)) 7 (some u7)) 1 (some u1)) H n []
noncomputable def B93_1 (cal : Cal) (k m1 : Nat) (b1 : V4) (u1 u7 u8 u9 : Value) (H : Hp) (n : Nat) : Res :=
binK P .lss 3 (.tmp 9) (.tmp 8) u9 u8 fun v_5 =>
ifK v_5 (
bindO (indexAddrV P 32 u7 u9) fun v_6 =>
bindO (addrV v_6) fun a_8 => bindO (loadV P H 88 a_8) fun v_7 =>
allocK P 88 H n fun v_9 H_a n_b =>
bindO (storeP P 88 v_9 v_7 H_a) fun H_d =>
bindO (addrV v_9) fun a_g => bindO (loadV P H_d 88 a_g) fun v_f =>
callVK P cal u1 [v_f] H_d n_b fun v_h H_i n_j =>
bindO (pureSem P v_h (Op.unary UnOp.not v_h)) fun v_k =>
ifK v_k (
some ((.bool false), H_i, n_j)) (
binK P .add 3 (.tmp 9) (.const (.int .i64 1)) u9 (.int .i64 1) fun v_m =>
b1 u1 u7 u8 v_m H_i n_j)) (
some ((.bool true), H, n))
noncomputable def C93_1 (cal : Cal) (k m1 : Nat) (b1 : V4) (u1 u7 u8 u9 : Value) (H : Hp) (n : Nat) : Res := B93_1 cal k m1 b1 u1 u7 u8 u9 H n
noncomputable def S93_1 (cal : Cal) (k : Nat) : Nat → V4 := fun m => Nat.rec (motive := fun _ => V4) (C93_1 cal k 0 (fun _ _ _ _ _ _ => none)) (fun m ih => C93_1 cal k (m + 1) ih) m
theorem h93_1 (cal : Cal) (k m1 : Nat) (u1 u7 u8 u9 : Value) (H : Hp) (n : Nat) : labK (E93_1 cal k m1) (Tr.set (Tr.set (Tr.set (Tr.set Tr.nil 9 (some u9)) 8 (some u8)) 7 (some u7)) 1 (some u1)) H n [] = C93_1 cal k m1 (R93_1 cal k m1) u1 u7 u8 u9 H n := by
  refine Eq.trans (b := B93_1 cal k m1 (R93_1 cal k m1) u1 u7 u8 u9 H n) (by kernel_rfl) ?_
  rw [C93_1]
theorem q93_1 (cal : Cal) (k : Nat) : ∀ (m : Nat) (u1 u7 u8 u9 : Value) (H : Hp) (n : Nat), labK (E93_1 cal k m) (Tr.set (Tr.set (Tr.set (Tr.set Tr.nil 9 (some u9)) 8 (some u8)) 7 (some u7)) 1 (some u1)) H n [] = S93_1 cal k m u1 u7 u8 u9 H n
  | 0, u1, u7, u8, u9, H, n => by
    rw [h93_1]
    have e : R93_1 cal k 0 = fun _ _ _ _ _ _ => none := by funext u1 u7 u8 u9 H n; kernel_rfl
    rw [e]; rfl
  | m + 1, u1, u7, u8, u9, H, n => by
    rw [h93_1]
    have e : R93_1 cal k (m + 1) = S93_1 cal k m := by
      funext u1 u7 u8 u9 H n
      have e : R93_1 cal k (m + 1) u1 u7 u8 u9 H n = labK (E93_1 cal k m) (Tr.set (Tr.set (Tr.set (Tr.set Tr.nil 9 (some u9)) 8 (some u8)) 7 (some u7)) 1 (some u1)) H n [] := by kernel_rfl
      rw [e]; exact q93_1 ..
    rw [e]; rfl
noncomputable def B93_0 (cal : Cal) (k : Nat) (j1 : V4) (v0 v1 : Value) (H : Hp) (n : Nat) : Res :=
bindO (lenV P 32 v0) fun v_3 =>
j1 v1 v0 v_3 (.int .i64 0) H n
noncomputable def C93_0 (cal : Cal) (k : Nat) (v0 v1 : Value) (H : Hp) (n : Nat) : Res := B93_0 cal k (S93_1 cal k k) v0 v1 H n
theorem h93_0 (cal : Cal) (k : Nat) (v0 v1 : Value) (H : Hp) (n : Nat) : bodyE P cal A (k + 1) 93 [v0, v1] H n = C93_0 cal k v0 v1 H n := by
  have h : bodyE P cal A (k + 1) 93 [v0, v1] H n = B93_0 cal k (fun u1 u7 u8 u9 H n => labK (E93_1 cal k k) (Tr.set (Tr.set (Tr.set (Tr.set Tr.nil 9 (some u9)) 8 (some u8)) 7 (some u7)) 1 (some u1)) H n []) v0 v1 H n := by
    rw [body_eq (fn := Go.Proofs.Try.f93) (c := code93) (rs := results93) (by kernel_rfl) (by kernel_rfl) (by kernel_rfl) (by kernel_rfl)]
    kernel_rfl
  rw [h, C93_0]
  have e1 : (fun u1 u7 u8 u9 H n => labK (E93_1 cal k k) (Tr.set (Tr.set (Tr.set (Tr.set Tr.nil 9 (some u9)) 8 (some u8)) 7 (some u7)) 1 (some u1)) H n []) = (S93_1 cal k k) := by funext u1 u7 u8 u9 H n; exact q93_1 ..
  rw [e1]
end Go.Proofs.Ytekajfobmnedjaa.G
