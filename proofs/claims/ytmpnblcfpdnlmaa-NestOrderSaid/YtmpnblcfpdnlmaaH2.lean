/- The texts of functions, each with the proof that the evaluator says the same. -/
import Derived.Test.YtmpnblcfpdnlmaaH1
open Go Go.Ev
set_option maxRecDepth 1000000
set_option linter.unusedVariables false
noncomputable section
namespace Go.Proofs.Ytmpnblcfpdnlmaa.G
noncomputable def code14:Code:=codeOf 14
noncomputable def results14:List ResultVar:=resOf 14
noncomputable def K14_p (cal:Cal) (k:Nat):KR:=(cutK (A 14).c (codeE P cal (codeF P cal k) none 14 (cR code14) (Lv.b (A 14)) (doneK P results14) X0 (doneK P results14)))
noncomputable def K14_pr (cal:Cal) (k:Nat):KR:=(cutK (Lv.b (A 14)).c (codeE P cal (codeF P cal k) none 14 (cR (cR code14)) (Lv.b (Lv.b (A 14))) (doneK P results14) X0 (doneK P results14)))
noncomputable def K14_prl (cal:Cal) (k:Nat):KR:=(cutK (Lv.a (Lv.b (A 14))).c (codeE P cal (codeF P cal k) none 14 (cR (cL (cR code14))) (Lv.b (Lv.a (Lv.b (A 14)))) (K14_pr cal k) X0 (doneK P results14)))
noncomputable def K14_prlrl (cal:Cal) (k:Nat):KR:=(cutK (Lv.a (Lv.b (Lv.a (Lv.b (A 14))))).c (codeE P cal (codeF P cal k) none 14 (cR (cL (cR (cL (cR code14))))) (Lv.b (Lv.a (Lv.b (Lv.a (Lv.b (A 14)))))) (K14_pr cal k) X0 (doneK P results14)))
noncomputable def K14_prr (cal:Cal) (k:Nat):KR:=(cutK (Lv.b (Lv.b (A 14))).c (codeE P cal (codeF P cal k) none 14 (cR (cR (cR code14))) (Lv.b (Lv.b (Lv.b (A 14)))) (doneK P results14) X0 (doneK P results14)))
noncomputable def K14_prrr (cal:Cal) (k:Nat):KR:=(cutK (Lv.b (Lv.b (Lv.b (A 14)))).c (codeE P cal (codeF P cal k) none 14 (cR (cR (cR (cR code14)))) (Lv.b (Lv.b (Lv.b (Lv.b (A 14))))) (doneK P results14) X0 (doneK P results14)))
noncomputable def K14_prrrr (cal:Cal) (k:Nat):KR:=(cutK (Lv.b (Lv.b (Lv.b (Lv.b (A 14))))).c (codeE P cal (codeF P cal k) none 14 (cR (cR (cR (cR (cR code14))))) (Lv.b (Lv.b (Lv.b (Lv.b (Lv.b (A 14)))))) (doneK P results14) X0 (doneK P results14)))
noncomputable def K14_prrrrr (cal:Cal) (k:Nat):KR:=(cutK (Lv.b (Lv.b (Lv.b (Lv.b (Lv.b (A 14)))))).c (codeE P cal (codeF P cal k) none 14 (cR (cR (cR (cR (cR (cR code14)))))) (Lv.b (Lv.b (Lv.b (Lv.b (Lv.b (Lv.b (A 14))))))) (doneK P results14) X0 (doneK P results14)))
noncomputable def K14_prrrrrr (cal:Cal) (k:Nat):KR:=(cutK (Lv.b (Lv.b (Lv.b (Lv.b (Lv.b (Lv.b (A 14))))))).c (codeE P cal (codeF P cal k) none 14 (cR (cR (cR (cR (cR (cR (cR code14))))))) (Lv.b (Lv.b (Lv.b (Lv.b (Lv.b (Lv.b (Lv.b (A 14)))))))) (doneK P results14) X0 (doneK P results14)))
noncomputable def K14_prrrrrrr (cal:Cal) (k:Nat):KR:=(cutK (Lv.b (Lv.b (Lv.b (Lv.b (Lv.b (Lv.b (Lv.b (A 14)))))))).c (codeE P cal (codeF P cal k) none 14 (cR (cR (cR (cR (cR (cR (cR (cR code14)))))))) (Lv.b (Lv.b (Lv.b (Lv.b (Lv.b (Lv.b (Lv.b (Lv.b (A 14))))))))) (doneK P results14) X0 (doneK P results14)))
noncomputable def K14_prrrrrrrl (cal:Cal) (k:Nat):KR:=(cutK (Lv.a (Lv.b (Lv.b (Lv.b (Lv.b (Lv.b (Lv.b (Lv.b (A 14))))))))).c (codeE P cal (codeF P cal k) none 14 (cR (cL (cR (cR (cR (cR (cR (cR (cR code14))))))))) (Lv.b (Lv.a (Lv.b (Lv.b (Lv.b (Lv.b (Lv.b (Lv.b (Lv.b (A 14)))))))))) (K14_prrrrrrr cal k) X0 (doneK P results14)))
noncomputable def K14_pxrrrrrrrlr (cal:Cal) (k:Nat):XR:=(upX 0 (K14_prrrrrrr cal k) X0)
noncomputable def K14_prrrrrrrlrl (cal:Cal) (k:Nat) (m1:Nat):KR:=(fun T H n D=>codeF P cal m1 (Lv.a (Lv.b (Lv.a (Lv.b (Lv.b (Lv.b (Lv.b (Lv.b (Lv.b (Lv.b (A 14))))))))))) none 14 (cL (cR (cL (cR (cR (cR (cR (cR (cR (cR code14)))))))))) (K14_prrrrrrr cal k) (K14_pxrrrrrrrlr cal k) (doneK P results14) (cutT (Lv.a (Lv.b (Lv.a (Lv.b (Lv.b (Lv.b (Lv.b (Lv.b (Lv.b (Lv.b (A 14))))))))))).c T) H n D)
noncomputable def K14_prrrrrrrlrll (cal:Cal) (k:Nat) (m1:Nat):KR:=(cutK (Lv.a (Lv.a (Lv.b (Lv.a (Lv.b (Lv.b (Lv.b (Lv.b (Lv.b (Lv.b (Lv.b (A 14)))))))))))).c (codeE P cal (codeF P cal m1) none 14 (cR (cL (cL (cR (cL (cR (cR (cR (cR (cR (cR (cR code14)))))))))))) (Lv.b (Lv.a (Lv.a (Lv.b (Lv.a (Lv.b (Lv.b (Lv.b (Lv.b (Lv.b (Lv.b (Lv.b (A 14))))))))))))) (K14_prrrrrrrlrl cal k m1) (K14_pxrrrrrrrlr cal k) (doneK P results14)))
noncomputable def K14_prrrrrrrlrlll (cal:Cal) (k:Nat) (m1:Nat):KR:=(cutK (Lv.a (Lv.a (Lv.a (Lv.b (Lv.a (Lv.b (Lv.b (Lv.b (Lv.b (Lv.b (Lv.b (Lv.b (A 14))))))))))))).c (codeE P cal (codeF P cal m1) none 14 (cR (cL (cL (cL (cR (cL (cR (cR (cR (cR (cR (cR (cR code14))))))))))))) (Lv.b (Lv.a (Lv.a (Lv.a (Lv.b (Lv.a (Lv.b (Lv.b (Lv.b (Lv.b (Lv.b (Lv.b (Lv.b (A 14)))))))))))))) (K14_prrrrrrrlrll cal k m1) (K14_pxrrrrrrrlr cal k) (doneK P results14)))
noncomputable def K14_prrrrrrrlrllr (cal:Cal) (k:Nat) (m1:Nat):KR:=(cutK (Lv.b (Lv.a (Lv.a (Lv.b (Lv.a (Lv.b (Lv.b (Lv.b (Lv.b (Lv.b (Lv.b (Lv.b (A 14))))))))))))).c (codeE P cal (codeF P cal m1) none 14 (cR (cR (cL (cL (cR (cL (cR (cR (cR (cR (cR (cR (cR code14))))))))))))) (Lv.b (Lv.b (Lv.a (Lv.a (Lv.b (Lv.a (Lv.b (Lv.b (Lv.b (Lv.b (Lv.b (Lv.b (Lv.b (A 14)))))))))))))) (K14_prrrrrrrlrl cal k m1) (K14_pxrrrrrrrlr cal k) (doneK P results14)))
noncomputable def K14_pxrrrrrrrlrllrl (cal:Cal) (k:Nat) (m1:Nat):XR:=(upX 1 (K14_prrrrrrrlrllr cal k m1) (K14_pxrrrrrrrlr cal k))
noncomputable def K14_prrrrrrrr (cal:Cal) (k:Nat):KR:=(cutK (Lv.b (Lv.b (Lv.b (Lv.b (Lv.b (Lv.b (Lv.b (Lv.b (A 14))))))))).c (codeE P cal (codeF P cal k) none 14 (cR (cR (cR (cR (cR (cR (cR (cR (cR code14))))))))) (Lv.b (Lv.b (Lv.b (Lv.b (Lv.b (Lv.b (Lv.b (Lv.b (Lv.b (A 14)))))))))) (doneK P results14) X0 (doneK P results14)))
noncomputable def K14_prrrrrrrrr (cal:Cal) (k:Nat):KR:=(cutK (Lv.b (Lv.b (Lv.b (Lv.b (Lv.b (Lv.b (Lv.b (Lv.b (Lv.b (A 14)))))))))).c (codeE P cal (codeF P cal k) none 14 (cR (cR (cR (cR (cR (cR (cR (cR (cR (cR code14)))))))))) (Lv.b (Lv.b (Lv.b (Lv.b (Lv.b (Lv.b (Lv.b (Lv.b (Lv.b (Lv.b (A 14))))))))))) (doneK P results14) X0 (doneK P results14)))
noncomputable def K14_prrrrrrrrrr (cal:Cal) (k:Nat):KR:=(cutK (Lv.b (Lv.b (Lv.b (Lv.b (Lv.b (Lv.b (Lv.b (Lv.b (Lv.b (Lv.b (A 14))))))))))).c (codeE P cal (codeF P cal k) none 14 (cR (cR (cR (cR (cR (cR (cR (cR (cR (cR (cR code14))))))))))) (Lv.b (Lv.b (Lv.b (Lv.b (Lv.b (Lv.b (Lv.b (Lv.b (Lv.b (Lv.b (Lv.b (A 14)))))))))))) (doneK P results14) X0 (doneK P results14)))
noncomputable def K14_prrrrrrrrrrr (cal:Cal) (k:Nat):KR:=(cutK (Lv.b (Lv.b (Lv.b (Lv.b (Lv.b (Lv.b (Lv.b (Lv.b (Lv.b (Lv.b (Lv.b (A 14)))))))))))).c (codeE P cal (codeF P cal k) none 14 (cR (cR (cR (cR (cR (cR (cR (cR (cR (cR (cR (cR code14)))))))))))) (Lv.b (Lv.b (Lv.b (Lv.b (Lv.b (Lv.b (Lv.b (Lv.b (Lv.b (Lv.b (Lv.b (Lv.b (A 14))))))))))))) (doneK P results14) X0 (doneK P results14)))
noncomputable def K14_prrrrrrrrrrrr (cal:Cal) (k:Nat):KR:=(cutK (Lv.b (Lv.b (Lv.b (Lv.b (Lv.b (Lv.b (Lv.b (Lv.b (Lv.b (Lv.b (Lv.b (Lv.b (A 14))))))))))))).c (codeE P cal (codeF P cal k) none 14 (cR (cR (cR (cR (cR (cR (cR (cR (cR (cR (cR (cR (cR code14))))))))))))) (Lv.b (Lv.b (Lv.b (Lv.b (Lv.b (Lv.b (Lv.b (Lv.b (Lv.b (Lv.b (Lv.b (Lv.b (Lv.b (A 14)))))))))))))) (doneK P results14) X0 (doneK P results14)))
noncomputable def K14_prrrrrrrrrrrrr (cal:Cal) (k:Nat):KR:=(cutK (Lv.b (Lv.b (Lv.b (Lv.b (Lv.b (Lv.b (Lv.b (Lv.b (Lv.b (Lv.b (Lv.b (Lv.b (Lv.b (A 14)))))))))))))).c (codeE P cal (codeF P cal k) none 14 (cR (cR (cR (cR (cR (cR (cR (cR (cR (cR (cR (cR (cR (cR code14)))))))))))))) (Lv.b (Lv.b (Lv.b (Lv.b (Lv.b (Lv.b (Lv.b (Lv.b (Lv.b (Lv.b (Lv.b (Lv.b (Lv.b (Lv.b (A 14))))))))))))))) (doneK P results14) X0 (doneK P results14)))
noncomputable def K14_prrrrrrrrrrrrrl (cal:Cal) (k:Nat):KR:=(cutK (Lv.a (Lv.b (Lv.b (Lv.b (Lv.b (Lv.b (Lv.b (Lv.b (Lv.b (Lv.b (Lv.b (Lv.b (Lv.b (Lv.b (A 14))))))))))))))).c (codeE P cal (codeF P cal k) none 14 (cR (cL (cR (cR (cR (cR (cR (cR (cR (cR (cR (cR (cR (cR (cR code14))))))))))))))) (Lv.b (Lv.a (Lv.b (Lv.b (Lv.b (Lv.b (Lv.b (Lv.b (Lv.b (Lv.b (Lv.b (Lv.b (Lv.b (Lv.b (Lv.b (A 14)))))))))))))))) (K14_prrrrrrrrrrrrr cal k) X0 (doneK P results14)))
noncomputable def K14_prrrrrrrrrrrrrlrl (cal:Cal) (k:Nat):KR:=(cutK (Lv.a (Lv.b (Lv.a (Lv.b (Lv.b (Lv.b (Lv.b (Lv.b (Lv.b (Lv.b (Lv.b (Lv.b (Lv.b (Lv.b (Lv.b (Lv.b (A 14))))))))))))))))).c (codeE P cal (codeF P cal k) none 14 (cR (cL (cR (cL (cR (cR (cR (cR (cR (cR (cR (cR (cR (cR (cR (cR (cR code14))))))))))))))))) (Lv.b (Lv.a (Lv.b (Lv.a (Lv.b (Lv.b (Lv.b (Lv.b (Lv.b (Lv.b (Lv.b (Lv.b (Lv.b (Lv.b (Lv.b (Lv.b (Lv.b (A 14)))))))))))))))))) (K14_prrrrrrrrrrrrr cal k) X0 (doneK P results14)))
noncomputable def K14_prrrrrrrrrrrrrr (cal:Cal) (k:Nat):KR:=(cutK (Lv.b (Lv.b (Lv.b (Lv.b (Lv.b (Lv.b (Lv.b (Lv.b (Lv.b (Lv.b (Lv.b (Lv.b (Lv.b (Lv.b (A 14))))))))))))))).c (codeE P cal (codeF P cal k) none 14 (cR (cR (cR (cR (cR (cR (cR (cR (cR (cR (cR (cR (cR (cR (cR code14))))))))))))))) (Lv.b (Lv.b (Lv.b (Lv.b (Lv.b (Lv.b (Lv.b (Lv.b (Lv.b (Lv.b (Lv.b (Lv.b (Lv.b (Lv.b (Lv.b (A 14)))))))))))))))) (doneK P results14) X0 (doneK P results14)))
noncomputable def K14_prrrrrrrrrrrrrrl (cal:Cal) (k:Nat):KR:=(cutK (Lv.a (Lv.b (Lv.b (Lv.b (Lv.b (Lv.b (Lv.b (Lv.b (Lv.b (Lv.b (Lv.b (Lv.b (Lv.b (Lv.b (Lv.b (A 14)))))))))))))))).c (codeE P cal (codeF P cal k) none 14 (cR (cL (cR (cR (cR (cR (cR (cR (cR (cR (cR (cR (cR (cR (cR (cR code14)))))))))))))))) (Lv.b (Lv.a (Lv.b (Lv.b (Lv.b (Lv.b (Lv.b (Lv.b (Lv.b (Lv.b (Lv.b (Lv.b (Lv.b (Lv.b (Lv.b (Lv.b (A 14))))))))))))))))) (K14_prrrrrrrrrrrrrr cal k) X0 (doneK P results14)))
noncomputable def K14_pxrrrrrrrrrrrrrrlr (cal:Cal) (k:Nat):XR:=(upX 2 (K14_prrrrrrrrrrrrrr cal k) X0)
noncomputable def K14_prrrrrrrrrrrrrrlrl (cal:Cal) (k:Nat) (m1:Nat):KR:=(fun T H n D=>codeF P cal m1 (Lv.a (Lv.b (Lv.a (Lv.b (Lv.b (Lv.b (Lv.b (Lv.b (Lv.b (Lv.b (Lv.b (Lv.b (Lv.b (Lv.b (Lv.b (Lv.b (Lv.b (A 14)))))))))))))))))) none 14 (cL (cR (cL (cR (cR (cR (cR (cR (cR (cR (cR (cR (cR (cR (cR (cR (cR code14))))))))))))))))) (K14_prrrrrrrrrrrrrr cal k) (K14_pxrrrrrrrrrrrrrrlr cal k) (doneK P results14) (cutT (Lv.a (Lv.b (Lv.a (Lv.b (Lv.b (Lv.b (Lv.b (Lv.b (Lv.b (Lv.b (Lv.b (Lv.b (Lv.b (Lv.b (Lv.b (Lv.b (Lv.b (A 14)))))))))))))))))).c T) H n D)
noncomputable def K14_prrrrrrrrrrrrrrlrll (cal:Cal) (k:Nat) (m1:Nat):KR:=(cutK (Lv.a (Lv.a (Lv.b (Lv.a (Lv.b (Lv.b (Lv.b (Lv.b (Lv.b (Lv.b (Lv.b (Lv.b (Lv.b (Lv.b (Lv.b (Lv.b (Lv.b (Lv.b (A 14))))))))))))))))))).c (codeE P cal (codeF P cal m1) none 14 (cR (cL (cL (cR (cL (cR (cR (cR (cR (cR (cR (cR (cR (cR (cR (cR (cR (cR (cR code14))))))))))))))))))) (Lv.b (Lv.a (Lv.a (Lv.b (Lv.a (Lv.b (Lv.b (Lv.b (Lv.b (Lv.b (Lv.b (Lv.b (Lv.b (Lv.b (Lv.b (Lv.b (Lv.b (Lv.b (Lv.b (A 14)))))))))))))))))))) (K14_prrrrrrrrrrrrrrlrl cal k m1) (K14_pxrrrrrrrrrrrrrrlr cal k) (doneK P results14)))
noncomputable def K14_prrrrrrrrrrrrrrlrlll (cal:Cal) (k:Nat) (m1:Nat):KR:=(cutK (Lv.a (Lv.a (Lv.a (Lv.b (Lv.a (Lv.b (Lv.b (Lv.b (Lv.b (Lv.b (Lv.b (Lv.b (Lv.b (Lv.b (Lv.b (Lv.b (Lv.b (Lv.b (Lv.b (A 14)))))))))))))))))))).c (codeE P cal (codeF P cal m1) none 14 (cR (cL (cL (cL (cR (cL (cR (cR (cR (cR (cR (cR (cR (cR (cR (cR (cR (cR (cR (cR code14)))))))))))))))))))) (Lv.b (Lv.a (Lv.a (Lv.a (Lv.b (Lv.a (Lv.b (Lv.b (Lv.b (Lv.b (Lv.b (Lv.b (Lv.b (Lv.b (Lv.b (Lv.b (Lv.b (Lv.b (Lv.b (Lv.b (A 14))))))))))))))))))))) (K14_prrrrrrrrrrrrrrlrll cal k m1) (K14_pxrrrrrrrrrrrrrrlr cal k) (doneK P results14)))
noncomputable def K14_prrrrrrrrrrrrrrlrllr (cal:Cal) (k:Nat) (m1:Nat):KR:=(cutK (Lv.b (Lv.a (Lv.a (Lv.b (Lv.a (Lv.b (Lv.b (Lv.b (Lv.b (Lv.b (Lv.b (Lv.b (Lv.b (Lv.b (Lv.b (Lv.b (Lv.b (Lv.b (Lv.b (A 14)))))))))))))))))))).c (codeE P cal (codeF P cal m1) none 14 (cR (cR (cL (cL (cR (cL (cR (cR (cR (cR (cR (cR (cR (cR (cR (cR (cR (cR (cR (cR code14)))))))))))))))))))) (Lv.b (Lv.b (Lv.a (Lv.a (Lv.b (Lv.a (Lv.b (Lv.b (Lv.b (Lv.b (Lv.b (Lv.b (Lv.b (Lv.b (Lv.b (Lv.b (Lv.b (Lv.b (Lv.b (Lv.b (A 14))))))))))))))))))))) (K14_prrrrrrrrrrrrrrlrl cal k m1) (K14_pxrrrrrrrrrrrrrrlr cal k) (doneK P results14)))
noncomputable def K14_pxrrrrrrrrrrrrrrlrllrl (cal:Cal) (k:Nat) (m1:Nat):XR:=(upX 3 (K14_prrrrrrrrrrrrrrlrllr cal k m1) (K14_pxrrrrrrrrrrrrrrlr cal k))
noncomputable def K14_prrrrrrrrrrrrrrlrllrll (cal:Cal) (k:Nat) (m1:Nat):KR:=(cutK (Lv.a (Lv.a (Lv.b (Lv.a (Lv.a (Lv.b (Lv.a (Lv.b (Lv.b (Lv.b (Lv.b (Lv.b (Lv.b (Lv.b (Lv.b (Lv.b (Lv.b (Lv.b (Lv.b (Lv.b (Lv.b (A 14)))))))))))))))))))))).c (codeE P cal (codeF P cal m1) none 14 (cR (cL (cL (cR (cL (cL (cR (cL (cR (cR (cR (cR (cR (cR (cR (cR (cR (cR (cR (cR (cR (cR code14)))))))))))))))))))))) (Lv.b (Lv.a (Lv.a (Lv.b (Lv.a (Lv.a (Lv.b (Lv.a (Lv.b (Lv.b (Lv.b (Lv.b (Lv.b (Lv.b (Lv.b (Lv.b (Lv.b (Lv.b (Lv.b (Lv.b (Lv.b (Lv.b (A 14))))))))))))))))))))))) (K14_prrrrrrrrrrrrrrlrllr cal k m1) (K14_pxrrrrrrrrrrrrrrlrllrl cal k m1) (doneK P results14)))
noncomputable def K14_prrrrrrrrrrrrrrlrllrllrl (cal:Cal) (k:Nat) (m1:Nat):KR:=(cutK (Lv.a (Lv.b (Lv.a (Lv.a (Lv.b (Lv.a (Lv.a (Lv.b (Lv.a (Lv.b (Lv.b (Lv.b (Lv.b (Lv.b (Lv.b (Lv.b (Lv.b (Lv.b (Lv.b (Lv.b (Lv.b (Lv.b (Lv.b (A 14)))))))))))))))))))))))).c (codeE P cal (codeF P cal m1) none 14 (cR (cL (cR (cL (cL (cR (cL (cL (cR (cL (cR (cR (cR (cR (cR (cR (cR (cR (cR (cR (cR (cR (cR (cR code14)))))))))))))))))))))))) (Lv.b (Lv.a (Lv.b (Lv.a (Lv.a (Lv.b (Lv.a (Lv.a (Lv.b (Lv.a (Lv.b (Lv.b (Lv.b (Lv.b (Lv.b (Lv.b (Lv.b (Lv.b (Lv.b (Lv.b (Lv.b (Lv.b (Lv.b (Lv.b (A 14))))))))))))))))))))))))) (K14_prrrrrrrrrrrrrrlrllr cal k m1) (K14_pxrrrrrrrrrrrrrrlrllrl cal k m1) (doneK P results14)))
noncomputable def K14_prrrrrrrrrrrrrrr (cal:Cal) (k:Nat):KR:=(cutK (Lv.b (Lv.b (Lv.b (Lv.b (Lv.b (Lv.b (Lv.b (Lv.b (Lv.b (Lv.b (Lv.b (Lv.b (Lv.b (Lv.b (Lv.b (A 14)))))))))))))))).c (codeE P cal (codeF P cal k) none 14 (cR (cR (cR (cR (cR (cR (cR (cR (cR (cR (cR (cR (cR (cR (cR (cR code14)))))))))))))))) (Lv.b (Lv.b (Lv.b (Lv.b (Lv.b (Lv.b (Lv.b (Lv.b (Lv.b (Lv.b (Lv.b (Lv.b (Lv.b (Lv.b (Lv.b (Lv.b (A 14))))))))))))))))) (doneK P results14) X0 (doneK P results14)))
noncomputable def E14_2 (cal:Cal) (k m1:Nat):KR:=codeE P cal (codeF P cal m1) none 14 (cL (cL (cR (cL (cR (cR (cR (cR (cR (cR (cR (cR (cR (cR (cR (cR (cR (cR code14)))))))))))))))))) (Lv.a (Lv.a (Lv.b (Lv.a (Lv.b (Lv.b (Lv.b (Lv.b (Lv.b (Lv.b (Lv.b (Lv.b (Lv.b (Lv.b (Lv.b (Lv.b (Lv.b (Lv.b (A 14))))))))))))))))))) (K14_prrrrrrrrrrrrrrlrl cal k m1) (K14_pxrrrrrrrrrrrrrrlr cal k) (doneK P results14)
noncomputable def R14_2 (cal:Cal) (k m1:Nat):V5:=fun u7 u8 u12 u14 u22 H n=>codeF P cal m1 (Lv.a (Lv.b (Lv.a (Lv.b (Lv.b (Lv.b (Lv.b (Lv.b (Lv.b (Lv.b (Lv.b (Lv.b (Lv.b (Lv.b (Lv.b (Lv.b (Lv.b (A 14)))))))))))))))))) none 14 (cL (cR (cL (cR (cR (cR (cR (cR (cR (cR (cR (cR (cR (cR (cR (cR (cR code14))))))))))))))))) (K14_prrrrrrrrrrrrrr cal k) (K14_pxrrrrrrrrrrrrrrlr cal k) (doneK P results14) (Tr.set (Tr.set (Tr.set (Tr.set (Tr.set Tr.nil 22 (some u22)) 14 (some u14)) 12 (some u12)) 8 (some u8)) 7 (some u7)) H n []
noncomputable def E14_1 (cal:Cal) (k m1:Nat):KR:=codeE P cal (codeF P cal m1) none 14 (cL (cL (cR (cL (cR (cR (cR (cR (cR (cR (cR code14))))))))))) (Lv.a (Lv.a (Lv.b (Lv.a (Lv.b (Lv.b (Lv.b (Lv.b (Lv.b (Lv.b (Lv.b (A 14)))))))))))) (K14_prrrrrrrlrl cal k m1) (K14_pxrrrrrrrlr cal k) (doneK P results14)
noncomputable def R14_1 (cal:Cal) (k m1:Nat):V6:=fun u1 u3 u7 u8 u9 u10 H n=>codeF P cal m1 (Lv.a (Lv.b (Lv.a (Lv.b (Lv.b (Lv.b (Lv.b (Lv.b (Lv.b (Lv.b (A 14))))))))))) none 14 (cL (cR (cL (cR (cR (cR (cR (cR (cR (cR code14)))))))))) (K14_prrrrrrr cal k) (K14_pxrrrrrrrlr cal k) (doneK P results14) (Tr.set (Tr.set (Tr.set (Tr.set (Tr.set (Tr.set Tr.nil 10 (some u10)) 9 (some u9)) 8 (some u8)) 7 (some u7)) 3 (some u3)) 1 (some u1)) H n []
noncomputable def B14_2 (cal:Cal) (k m1:Nat) (b2:V5) (u7 u8 u12 u14 u22:Value) (H:Hp) (n:Nat):Res:=
binK P .lss 3 (.tmp 158) (.tmp 159) u22 u7 fun v_8r=>
ifK v_8r (
binK P .add 3 (.tmp 164) (.tmp 165) u22 u7 fun v_8v=>
binK P .sub 3 (.tmp 166) (.tmp 167) v_8v u8 fun v_8x=>
binK P .rem 3 (.tmp 168) (.tmp 169) v_8x u7 fun v_8z=>
bindO (indexAddrV P 45 u14 v_8z) fun v_90=>
bindO (addrV v_90) fun a_91=>bindO (loadV P H 53 a_91) fun v_92=>
bindO (indexAddrV P 45 u12 u22) fun v_95=>
bindO (addrV v_95) fun a_96=>bindO (loadV P H 53 a_96) fun v_97=>
binK P .neq 53 (.tmp 172) (.tmp 176) v_92 v_97 fun v_98=>
ifK v_98 (
some ((.bool false),H,n)) (
binK P .add 3 (.tmp 161) (.const (.int .i64 1)) u22 (.int .i64 1) fun v_9b=>
b2 u7 u8 u12 u14 v_9b H n)) (
callFK P cal 16 [] H n fun v_9d H_9e n_9f=>
some (v_9d,H_9e,n_9f))
noncomputable def C14_2 (cal:Cal) (k m1:Nat) (b2:V5) (u7 u8 u12 u14 u22:Value) (H:Hp) (n:Nat):Res:=B14_2 cal k m1 b2 u7 u8 u12 u14 u22 H n
noncomputable def S14_2 (cal:Cal) (k:Nat):Nat→V5:=fun m=>Nat.rec (motive:=fun _=>V5) (C14_2 cal k 0 (fun _ _ _ _ _ _ _=>none)) (fun m ih=>C14_2 cal k (m+1) ih) m
theorem h14_2 (cal:Cal) (k m1:Nat) (u7 u8 u12 u14 u22:Value) (H:Hp) (n:Nat):labK (E14_2 cal k m1) (Tr.set (Tr.set (Tr.set (Tr.set (Tr.set Tr.nil 22 (some u22)) 14 (some u14)) 12 (some u12)) 8 (some u8)) 7 (some u7)) H n []=C14_2 cal k m1 (R14_2 cal k m1) u7 u8 u12 u14 u22 H n:=by
  refine Eq.trans (b:=B14_2 cal k m1 (R14_2 cal k m1) u7 u8 u12 u14 u22 H n) (by kernel_rfl) ?_
  rw[C14_2]
theorem q14_2 (cal:Cal) (k:Nat):∀(m:Nat) (u7 u8 u12 u14 u22:Value) (H:Hp) (n:Nat),labK (E14_2 cal k m) (Tr.set (Tr.set (Tr.set (Tr.set (Tr.set Tr.nil 22 (some u22)) 14 (some u14)) 12 (some u12)) 8 (some u8)) 7 (some u7)) H n []=S14_2 cal k m u7 u8 u12 u14 u22 H n
  | 0,u7,u8,u12,u14,u22,H,n=>by
    rw[h14_2]
    have e:R14_2 cal k 0=fun _ _ _ _ _ _ _=>none:=by funext u7 u8 u12 u14 u22 H n; kernel_rfl
    rw[e]; rfl
  | m+1,u7,u8,u12,u14,u22,H,n=>by
    rw[h14_2]
    have e:R14_2 cal k (m+1)=S14_2 cal k m:=by
      funext u7 u8 u12 u14 u22 H n
      have e:R14_2 cal k (m+1) u7 u8 u12 u14 u22 H n=labK (E14_2 cal k m) (Tr.set (Tr.set (Tr.set (Tr.set (Tr.set Tr.nil 22 (some u22)) 14 (some u14)) 12 (some u12)) 8 (some u8)) 7 (some u7)) H n []:=by kernel_rfl
      rw[e]; exact q14_2 ..
    rw[e]; rfl
noncomputable def B14_1 (cal:Cal) (k m1:Nat) (j2:V5) (b1:V6) (u1 u3 u7 u8 u9 u10:Value) (H:Hp) (n:Nat):Res:=
bindO (fieldAddrV P 26 u3 1) fun v_1s=>
bindO (addrV v_1s) fun a_1u=>bindO (loadV P H 23 a_1u) fun v_1t=>
bindO (lenV P 23 v_1t) fun v_1v=>
binK P .lss 3 (.tmp 48) (.tmp 51) u10 v_1v fun v_1w=>
ifK v_1w (
bindO (fieldAddrV P 26 u9 1) fun v_1x=>
bindO (addrV v_1x) fun a_1y=>bindO (loadV P H 23 a_1y) fun v_1z=>
bindO (fieldAddrV P 26 u3 1) fun v_20=>
bindO (addrV v_20) fun a_21=>bindO (loadV P H 23 a_21) fun v_22=>
bindO (indexAddrV P 23 v_22 u10) fun v_24=>
bindO (fieldAddrV P 101 v_24 0) fun v_25=>
bindO (addrV v_25) fun a_26=>bindO (loadV P H 3 a_26) fun v_27=>
binK P .add 3 (.tmp 62) (.tmp 63) v_27 u7 fun v_29=>
binK P .sub 3 (.tmp 64) (.tmp 65) v_29 u8 fun v_2b=>
binK P .rem 3 (.tmp 66) (.tmp 67) v_2b u7 fun v_2d=>
bindO (fieldAddrV P 26 u3 1) fun v_2e=>
bindO (addrV v_2e) fun a_2f=>bindO (loadV P H 23 a_2f) fun v_2g=>
bindO (indexAddrV P 23 v_2g u10) fun v_2i=>
bindO (fieldAddrV P 101 v_2i 1) fun v_2j=>
bindO (addrV v_2j) fun a_2k=>bindO (loadV P H 3 a_2k) fun v_2l=>
binK P .add 3 (.tmp 74) (.tmp 75) v_2l u7 fun v_2n=>
binK P .sub 3 (.tmp 76) (.tmp 77) v_2n u8 fun v_2p=>
binK P .rem 3 (.tmp 78) (.tmp 79) v_2p u7 fun v_2r=>
bindO (buildP P 101 [(0,v_2d),(1,v_2r)]) fun v_2s=>
bindO (rowOf P 23 1 [(0,v_2s)]) fun q_2v=>newK q_2v.1 q_2v.2 H n fun H_2t n_2u=>
stK (appendV P (bare H_2t n_2u) 23 23 v_1z (.slice (some ⟨n,0,none⟩) 1 1)) fun v_2w H_2x n_2y=>
bindO (fieldAddrV P 26 u9 1) fun v_2z=>
bindO (storeP P 23 v_2z v_2w H_2x) fun H_31=>
binK P .add 3 (.tmp 53) (.const (.int .i64 1)) u10 (.int .i64 1) fun v_33=>
b1 u1 u3 u7 u8 u9 v_33 H_31 n_2y) (
bindO (sliceV P 44 u1 (some u8) none) fun v_37=>
bindO (sliceV P 44 u1 none (some u8)) fun v_3a=>
callFK P cal 23 [v_37] H n fun v_3b H_3c n_3d=>
stK (appendV P (bare H_3c n_3d) 44 44 v_3b v_3a) fun v_3e H_3f n_3g=>
bindO (addrV u3) fun a_3j=>bindO (loadV P H_3f 26 a_3j) fun v_3i=>
callFK P cal 18 [v_3i] H_3f n_3g fun v_3k H_3l n_3m=>
callFK P cal 23 [u1] H_3l n_3m fun v_3o H_3p n_3q=>
callFK P cal 22 [v_3k,v_3o] H_3p n_3q fun v_3r H_3s n_3t=>
bindO (tupV v_3r 0) fun v_3v=>
bindO (tupV v_3r 1) fun v_3w=>
bindO (addrV u9) fun a_40=>bindO (loadV P H_3s 26 a_40) fun v_3z=>
callFK P cal 18 [v_3z] H_3s n_3t fun v_41 H_42 n_43=>
callFK P cal 22 [v_41,v_3e] H_42 n_43 fun v_45 H_46 n_47=>
bindO (tupV v_45 0) fun v_49=>
bindO (tupV v_45 1) fun v_4a=>
bindO (addrV u3) fun a_4e=>bindO (loadV P H_46 26 a_4e) fun v_4d=>
callFK P cal 18 [v_4d] H_46 n_47 fun v_4f H_4g n_4h=>
callFK P cal 42 [v_4f] H_4g n_4h fun v_4i H_4j n_4k=>
bindO (tupV v_4i 0) fun v_4m=>
bindO (tupV v_4i 1) fun v_4n=>
bindO (tupV v_4i 2) fun v_4o=>
bindO (addrV u9) fun a_4t=>bindO (loadV P H_4j 26 a_4t) fun v_4s=>
callFK P cal 18 [v_4s] H_4j n_4k fun v_4u H_4v n_4w=>
callFK P cal 42 [v_4u] H_4v n_4w fun v_4x H_4y n_4z=>
bindO (tupV v_4x 0) fun v_51=>
bindO (tupV v_4x 1) fun v_52=>
bindO (tupV v_4x 2) fun v_53=>
binK P .neq 29 (.tmp 122) (.const (.int .i64 0)) v_3w (.int .i64 0) fun v_58=>
guardK v_58 false (fun k_5a=>
k_5a v_4a H_4y n_4z) H_4y n_4z fun v_5b H_5c n_5d=>
guardK v_58 false (fun k_5f=>
binK P .neq 29 (.tmp 125) (.const (.int .i64 0)) v_5b (.int .i64 0) fun v_5j=>
k_5f v_5j H_5c n_5d) H_5c n_5d fun v_5g H_5h n_5i=>
bindO (pickV v_58 (.bool true) v_5g) fun v_5k=>
guardK v_5k false (fun k_5m=>
k_5m v_3v H_5h n_5i) H_5h n_5i fun v_5n H_5o n_5p=>
guardK v_5k false (fun k_5r=>
bindO (lenV P 45 v_5n) fun v_5v=>
k_5r v_5v H_5o n_5p) H_5o n_5p fun v_5s H_5t n_5u=>
guardK v_5k false (fun k_5w=>
k_5w u7 H_5t n_5u) H_5t n_5u fun v_5x H_5y n_5z=>
guardK v_5k false (fun k_61=>
binK P .neq 3 (.tmp 130) (.tmp 131) v_5s v_5x fun v_65=>
k_61 v_65 H_5y n_5z) H_5y n_5z fun v_62 H_63 n_64=>
bindO (pickV v_5k (.bool true) v_62) fun v_66=>
guardK v_66 false (fun k_68=>
k_68 v_49 H_63 n_64) H_63 n_64 fun v_69 H_6a n_6b=>
guardK v_66 false (fun k_6d=>
bindO (lenV P 45 v_69) fun v_6h=>
k_6d v_6h H_6a n_6b) H_6a n_6b fun v_6e H_6f n_6g=>
guardK v_66 false (fun k_6i=>
k_6i u7 H_6f n_6g) H_6f n_6g fun v_6j H_6k n_6l=>
guardK v_66 false (fun k_6n=>
binK P .neq 3 (.tmp 136) (.tmp 137) v_6e v_6j fun v_6r=>
k_6n v_6r H_6k n_6l) H_6k n_6l fun v_6o H_6p n_6q=>
bindO (pickV v_66 (.bool true) v_6o) fun v_6s=>
guardK v_6s false (fun k_6u=>
k_6u v_4o H_6p n_6q) H_6p n_6q fun v_6v H_6w n_6x=>
guardK v_6s false (fun k_6z=>
k_6z v_53 H_6w n_6x) H_6w n_6x fun v_70 H_71 n_72=>
guardK v_6s false (fun k_74=>
binK P .neq 29 (.tmp 141) (.tmp 142) v_6v v_70 fun v_78=>
k_74 v_78 H_71 n_72) H_71 n_72 fun v_75 H_76 n_77=>
bindO (pickV v_6s (.bool true) v_75) fun v_79=>
guardK v_79 false (fun k_7b=>
k_7b v_4n H_76 n_77) H_76 n_77 fun v_7c H_7d n_7e=>
guardK v_79 false (fun k_7g=>
k_7g v_52 H_7d n_7e) H_7d n_7e fun v_7h H_7i n_7j=>
guardK v_79 false (fun k_7l=>
binK P .neq 3 (.tmp 146) (.tmp 147) v_7c v_7h fun v_7p=>
k_7l v_7p H_7i n_7j) H_7i n_7j fun v_7m H_7n n_7o=>
bindO (pickV v_79 (.bool true) v_7m) fun v_7q=>
guardK v_7q false (fun k_7s=>
k_7s v_4o H_7n n_7o) H_7n n_7o fun v_7t H_7u n_7v=>
guardK v_7q false (fun k_7x=>
binK P .neq 29 (.tmp 151) (.const (.int .i64 0)) v_7t (.int .i64 0) fun v_81=>
k_7x v_81 H_7u n_7v) H_7u n_7v fun v_7y H_7z n_80=>
guardK v_7q false (fun k_82=>
k_82 v_7y H_7z n_80) H_7z n_80 fun v_83 H_84 n_85=>
guardK v_83 true (fun k_87=>
k_87 v_4o H_84 n_85) H_84 n_85 fun v_88 H_89 n_8a=>
guardK v_83 true (fun k_8c=>
binK P .neq 29 (.tmp 154) (.const (.int .i64 10)) v_88 (.int .i64 10) fun v_8g=>
k_8c v_8g H_89 n_8a) H_89 n_8a fun v_8d H_8e n_8f=>
guardK v_7q false (fun k_8h=>
bindO (pickV v_83 v_8d (.bool false)) fun v_8l=>
k_8h v_8l H_8e n_8f) H_8e n_8f fun v_8i H_8j n_8k=>
bindO (pickV v_7q (.bool true) v_8i) fun v_8m=>
ifK v_8m (
some ((.bool false),H_8j,n_8k)) (
j2 u7 u8 v_3v v_49 (.int .i64 0) H_8j n_8k))
noncomputable def C14_1 (cal:Cal) (k m1:Nat) (b1:V6) (u1 u3 u7 u8 u9 u10:Value) (H:Hp) (n:Nat):Res:=B14_1 cal k m1 (S14_2 cal k k) b1 u1 u3 u7 u8 u9 u10 H n
noncomputable def S14_1 (cal:Cal) (k:Nat):Nat→V6:=fun m=>Nat.rec (motive:=fun _=>V6) (C14_1 cal k 0 (fun _ _ _ _ _ _ _ _=>none)) (fun m ih=>C14_1 cal k (m+1) ih) m
theorem h14_1 (cal:Cal) (k m1:Nat) (u1 u3 u7 u8 u9 u10:Value) (H:Hp) (n:Nat):labK (E14_1 cal k m1) (Tr.set (Tr.set (Tr.set (Tr.set (Tr.set (Tr.set Tr.nil 10 (some u10)) 9 (some u9)) 8 (some u8)) 7 (some u7)) 3 (some u3)) 1 (some u1)) H n []=C14_1 cal k m1 (R14_1 cal k m1) u1 u3 u7 u8 u9 u10 H n:=by
  refine Eq.trans (b:=B14_1 cal k m1 (fun u7 u8 u12 u14 u22 H n=>labK (E14_2 cal k k) (Tr.set (Tr.set (Tr.set (Tr.set (Tr.set Tr.nil 22 (some u22)) 14 (some u14)) 12 (some u12)) 8 (some u8)) 7 (some u7)) H n []) (R14_1 cal k m1) u1 u3 u7 u8 u9 u10 H n) (by kernel_rfl) ?_
  rw[C14_1]
  have e2:(fun u7 u8 u12 u14 u22 H n=>labK (E14_2 cal k k) (Tr.set (Tr.set (Tr.set (Tr.set (Tr.set Tr.nil 22 (some u22)) 14 (some u14)) 12 (some u12)) 8 (some u8)) 7 (some u7)) H n [])=(S14_2 cal k k):=by funext u7 u8 u12 u14 u22 H n; exact q14_2 ..
  rw[e2]
theorem q14_1 (cal:Cal) (k:Nat):∀(m:Nat) (u1 u3 u7 u8 u9 u10:Value) (H:Hp) (n:Nat),labK (E14_1 cal k m) (Tr.set (Tr.set (Tr.set (Tr.set (Tr.set (Tr.set Tr.nil 10 (some u10)) 9 (some u9)) 8 (some u8)) 7 (some u7)) 3 (some u3)) 1 (some u1)) H n []=S14_1 cal k m u1 u3 u7 u8 u9 u10 H n
  | 0,u1,u3,u7,u8,u9,u10,H,n=>by
    rw[h14_1]
    have e:R14_1 cal k 0=fun _ _ _ _ _ _ _ _=>none:=by funext u1 u3 u7 u8 u9 u10 H n; kernel_rfl
    rw[e]; rfl
  | m+1,u1,u3,u7,u8,u9,u10,H,n=>by
    rw[h14_1]
    have e:R14_1 cal k (m+1)=S14_1 cal k m:=by
      funext u1 u3 u7 u8 u9 u10 H n
      have e:R14_1 cal k (m+1) u1 u3 u7 u8 u9 u10 H n=labK (E14_1 cal k m) (Tr.set (Tr.set (Tr.set (Tr.set (Tr.set (Tr.set Tr.nil 10 (some u10)) 9 (some u9)) 8 (some u8)) 7 (some u7)) 3 (some u3)) 1 (some u1)) H n []:=by kernel_rfl
      rw[e]; exact q14_1 ..
    rw[e]; rfl
noncomputable def B14_0 (cal:Cal) (k:Nat) (j1:V6) (v0 v1 v2:Value) (H:Hp) (n:Nat):Res:=
boxK 26 v0 H n fun v_1 H_2 n_3=>
bindO (addrV v_1) fun a_6=>bindO (loadV P H_2 26 a_6) fun v_5=>
callFK P cal 55 [v_5,v1] H_2 n_3 fun v_8 H_9 n_a=>
bindO (pureSem P v_8 (Op.unary UnOp.not v_8)) fun v_b=>
ifK v_b (
callFK P cal 16 [] H_9 n_a fun v_c H_d n_e=>
some (v_c,H_d,n_e)) (
bindO (lenV P 44 v1) fun v_h=>
bindO (pureSem P v2 (convert 5 3 v2)) fun v_k=>
binK P .rem 3 (.tmp 31) (.tmp 32) v_k v_h fun v_m=>
bindO (addrV v_1) fun a_p=>bindO (loadV P H_9 26 a_p) fun v_o=>
allocK P 26 H_9 n_a fun v_q H_r n_s=>
bindO (storeP P 26 v_q v_o H_r) fun H_u=>
bindO (rowOf P 22 0 []) fun q_x=>newK q_x.1 q_x.2 H_u n_s fun H_v n_w=>
bindO (fieldAddrV P 26 v_1 0) fun v_y=>
bindO (addrV v_y) fun a_z=>bindO (loadV P H_v 22 a_z) fun v_10=>
bindO (sliceV P 22 v_10 (some v_m) none) fun v_12=>
bindO (fieldAddrV P 26 v_1 0) fun v_13=>
bindO (addrV v_13) fun a_14=>bindO (loadV P H_v 22 a_14) fun v_15=>
bindO (sliceV P 22 v_15 none (some v_m)) fun v_17=>
effK P [(.l 22 a_14)] H_v n_w (fun H_18 n_19 k_1a=>
stK (appendV P (bare H_18 n_19) 22 22 (.slice (some ⟨n_s,0,none⟩) 0 0) v_12) fun v_1e H_1f n_1g=>
k_1a v_1e H_1f n_1g) fun v_1b H_1c n_1d=>
stK (appendV P (bare H_1c n_1d) 22 22 v_1b v_17) fun v_1h H_1i n_1j=>
bindO (fieldAddrV P 26 v_q 0) fun v_1k=>
bindO (storeP P 22 v_1k v_1h H_1i) fun H_1m=>
bindO (fieldAddrV P 26 v_q 1) fun v_1n=>
bindO (storeP P 23 v_1n (.slice none 0 0) H_1m) fun H_1p=>
j1 v1 v_1 v_h v_m v_q (.int .i64 0) H_1p n_1j)
noncomputable def C14_0 (cal:Cal) (k:Nat) (v0 v1 v2:Value) (H:Hp) (n:Nat):Res:=B14_0 cal k (S14_1 cal k k) v0 v1 v2 H n
theorem h14_0 (cal:Cal) (k:Nat) (v0 v1 v2:Value) (H:Hp) (n:Nat):bodyE P cal A (k+1) 14 [v0,v1,v2] H n=C14_0 cal k v0 v1 v2 H n:=by
  have h:bodyE P cal A (k+1) 14 [v0,v1,v2] H n=B14_0 cal k (fun u1 u3 u7 u8 u9 u10 H n=>labK (E14_1 cal k k) (Tr.set (Tr.set (Tr.set (Tr.set (Tr.set (Tr.set Tr.nil 10 (some u10)) 9 (some u9)) 8 (some u8)) 7 (some u7)) 3 (some u3)) 1 (some u1)) H n []) v0 v1 v2 H n:=by
    rw[body_eq (fn:=Go.Proofs.Try.f14) (c:=code14) (rs:=results14) (by kernel_rfl) (by kernel_rfl) (by kernel_rfl) (by kernel_rfl)]
    kernel_rfl
  rw[h,C14_0]
  have e1:(fun u1 u3 u7 u8 u9 u10 H n=>labK (E14_1 cal k k) (Tr.set (Tr.set (Tr.set (Tr.set (Tr.set (Tr.set Tr.nil 10 (some u10)) 9 (some u9)) 8 (some u8)) 7 (some u7)) 3 (some u3)) 1 (some u1)) H n [])=(S14_1 cal k k):=by funext u1 u3 u7 u8 u9 u10 H n; exact q14_1 ..
  rw[e1]
noncomputable def code15:Code:=codeOf 15
noncomputable def results15:List ResultVar:=resOf 15
noncomputable def K15_p (cal:Cal) (k:Nat):KR:=(cutK (A 15).c (codeE P cal (codeF P cal k) none 15 (cR code15) (Lv.b (A 15)) (doneK P results15) X0 (doneK P results15)))
noncomputable def K15_pr (cal:Cal) (k:Nat):KR:=(cutK (Lv.b (A 15)).c (codeE P cal (codeF P cal k) none 15 (cR (cR code15)) (Lv.b (Lv.b (A 15))) (doneK P results15) X0 (doneK P results15)))
noncomputable def B15_0 (cal:Cal) (k:Nat) (v0 v1:Value) (H:Hp) (n:Nat):Res:=
boxK 26 v0 H n fun v_1 H_2 n_3=>
bindO (fieldAddrV P 26 v_1 0) fun v_5=>
bindO (addrV v_5) fun a_7=>bindO (loadV P H_2 22 a_7) fun v_6=>
bindO (lenV P 22 v_6) fun v_8=>
binK P .leq 3 (.tmp 7) (.const (.int .i64 11)) v_8 (.int .i64 11) fun v_9=>
guardK v_9 true (fun k_b=>
bindO (fieldAddrV P 26 v_1 1) fun v_f=>
k_b v_f H_2 n_3) H_2 n_3 fun v_c H_d n_e=>
guardK v_9 true (fun k_g=>
bindO (addrV v_c) fun a_l=>bindO (loadV P H_d 23 a_l) fun v_k=>
k_g v_k H_d n_e) H_d n_e fun v_h H_i n_j=>
guardK v_9 true (fun k_m=>
bindO (lenV P 23 v_h) fun v_q=>
k_m v_q H_i n_j) H_i n_j fun v_n H_o n_p=>
guardK v_9 true (fun k_r=>
binK P .leq 3 (.tmp 12) (.const (.int .i64 19)) v_n (.int .i64 19) fun v_v=>
k_r v_v H_o n_p) H_o n_p fun v_s H_t n_u=>
bindO (pickV v_9 v_s (.bool false)) fun v_w=>
guardK v_w true (fun k_y=>
bindO (fieldAddrV P 26 v_1 2) fun v_12=>
k_y v_12 H_t n_u) H_t n_u fun v_z H_10 n_11=>
guardK v_w true (fun k_13=>
bindO (addrV v_z) fun a_18=>bindO (loadV P H_10 24 a_18) fun v_17=>
k_13 v_17 H_10 n_11) H_10 n_11 fun v_14 H_15 n_16=>
guardK v_w true (fun k_19=>
bindO (lenV P 24 v_14) fun v_1d=>
k_19 v_1d H_15 n_16) H_15 n_16 fun v_1a H_1b n_1c=>
guardK v_w true (fun k_1e=>
binK P .leq 3 (.tmp 18) (.const (.int .i64 6)) v_1a (.int .i64 6) fun v_1i=>
k_1e v_1i H_1b n_1c) H_1b n_1c fun v_1f H_1g n_1h=>
bindO (pickV v_w v_1f (.bool false)) fun v_1j=>
guardK v_1j true (fun k_1l=>
k_1l v1 H_1g n_1h) H_1g n_1h fun v_1m H_1n n_1o=>
guardK v_1j true (fun k_1q=>
bindO (lenV P 44 v_1m) fun v_1u=>
k_1q v_1u H_1n n_1o) H_1n n_1o fun v_1r H_1s n_1t=>
guardK v_1j true (fun k_1v=>
binK P .leq 3 (.tmp 23) (.const (.int .i64 11)) v_1r (.int .i64 11) fun v_1z=>
k_1v v_1z H_1s n_1t) H_1s n_1t fun v_1w H_1x n_1y=>
bindO (pickV v_1j v_1w (.bool false)) fun v_20=>
some (v_20,H_1x,n_1y)
noncomputable def C15_0 (cal:Cal) (k:Nat) (v0 v1:Value) (H:Hp) (n:Nat):Res:=B15_0 cal k v0 v1 H n
theorem h15_0 (cal:Cal) (k:Nat) (v0 v1:Value) (H:Hp) (n:Nat):bodyE P cal A (k+1) 15 [v0,v1] H n=C15_0 cal k v0 v1 H n:=by
  have h:bodyE P cal A (k+1) 15 [v0,v1] H n=B15_0 cal k v0 v1 H n:=by
    rw[body_eq (fn:=Go.Proofs.Try.f15) (c:=code15) (rs:=results15) (by kernel_rfl) (by kernel_rfl) (by kernel_rfl) (by kernel_rfl)]
    kernel_rfl
  rw[h,C15_0]
noncomputable def code18:Code:=codeOf 18
noncomputable def results18:List ResultVar:=resOf 18
noncomputable def K18_p (cal:Cal) (k:Nat):KR:=(cutK (A 18).c (codeE P cal (codeF P cal k) none 18 (cR code18) (Lv.b (A 18)) (doneK P results18) X0 (doneK P results18)))
noncomputable def K18_pr (cal:Cal) (k:Nat):KR:=(cutK (Lv.b (A 18)).c (codeE P cal (codeF P cal k) none 18 (cR (cR code18)) (Lv.b (Lv.b (A 18))) (doneK P results18) X0 (doneK P results18)))
noncomputable def K18_prr (cal:Cal) (k:Nat):KR:=(cutK (Lv.b (Lv.b (A 18))).c (codeE P cal (codeF P cal k) none 18 (cR (cR (cR code18))) (Lv.b (Lv.b (Lv.b (A 18)))) (doneK P results18) X0 (doneK P results18)))
noncomputable def K18_prrl (cal:Cal) (k:Nat):KR:=(cutK (Lv.a (Lv.b (Lv.b (A 18)))).c (codeE P cal (codeF P cal k) none 18 (cR (cL (cR (cR code18)))) (Lv.b (Lv.a (Lv.b (Lv.b (A 18))))) (K18_prr cal k) X0 (doneK P results18)))
noncomputable def K18_pxrrlr (cal:Cal) (k:Nat):XR:=(upX 0 (K18_prr cal k) X0)
noncomputable def K18_prrlrl (cal:Cal) (k:Nat) (m1:Nat):KR:=(fun T H n D=>codeF P cal m1 (Lv.a (Lv.b (Lv.a (Lv.b (Lv.b (A 18)))))) none 18 (cL (cR (cL (cR (cR code18))))) (K18_prr cal k) (K18_pxrrlr cal k) (doneK P results18) (cutT (Lv.a (Lv.b (Lv.a (Lv.b (Lv.b (A 18)))))).c T) H n D)
noncomputable def K18_prrlrll (cal:Cal) (k:Nat) (m1:Nat):KR:=(cutK (Lv.a (Lv.a (Lv.b (Lv.a (Lv.b (Lv.b (A 18))))))).c (codeE P cal (codeF P cal m1) none 18 (cR (cL (cL (cR (cL (cR (cR code18))))))) (Lv.b (Lv.a (Lv.a (Lv.b (Lv.a (Lv.b (Lv.b (A 18)))))))) (K18_prrlrl cal k m1) (K18_pxrrlr cal k) (doneK P results18)))
noncomputable def K18_prrlrlll (cal:Cal) (k:Nat) (m1:Nat):KR:=(cutK (Lv.a (Lv.a (Lv.a (Lv.b (Lv.a (Lv.b (Lv.b (A 18)))))))).c (codeE P cal (codeF P cal m1) none 18 (cR (cL (cL (cL (cR (cL (cR (cR code18)))))))) (Lv.b (Lv.a (Lv.a (Lv.a (Lv.b (Lv.a (Lv.b (Lv.b (A 18))))))))) (K18_prrlrll cal k m1) (K18_pxrrlr cal k) (doneK P results18)))
noncomputable def K18_prrlrllr (cal:Cal) (k:Nat) (m1:Nat):KR:=(cutK (Lv.b (Lv.a (Lv.a (Lv.b (Lv.a (Lv.b (Lv.b (A 18)))))))).c (codeE P cal (codeF P cal m1) none 18 (cR (cR (cL (cL (cR (cL (cR (cR code18)))))))) (Lv.b (Lv.b (Lv.a (Lv.a (Lv.b (Lv.a (Lv.b (Lv.b (A 18))))))))) (K18_prrlrl cal k m1) (K18_pxrrlr cal k) (doneK P results18)))
noncomputable def K18_pxrrlrllrl (cal:Cal) (k:Nat) (m1:Nat):XR:=(upX 1 (K18_prrlrllr cal k m1) (K18_pxrrlr cal k))
noncomputable def K18_prrr (cal:Cal) (k:Nat):KR:=(cutK (Lv.b (Lv.b (Lv.b (A 18)))).c (codeE P cal (codeF P cal k) none 18 (cR (cR (cR (cR code18)))) (Lv.b (Lv.b (Lv.b (Lv.b (A 18))))) (doneK P results18) X0 (doneK P results18)))
noncomputable def K18_prrrl (cal:Cal) (k:Nat):KR:=(cutK (Lv.a (Lv.b (Lv.b (Lv.b (A 18))))).c (codeE P cal (codeF P cal k) none 18 (cR (cL (cR (cR (cR code18))))) (Lv.b (Lv.a (Lv.b (Lv.b (Lv.b (A 18)))))) (K18_prrr cal k) X0 (doneK P results18)))
noncomputable def K18_pxrrrlr (cal:Cal) (k:Nat):XR:=(upX 2 (K18_prrr cal k) X0)
noncomputable def K18_prrrlrl (cal:Cal) (k:Nat) (m1:Nat):KR:=(fun T H n D=>codeF P cal m1 (Lv.a (Lv.b (Lv.a (Lv.b (Lv.b (Lv.b (A 18))))))) none 18 (cL (cR (cL (cR (cR (cR code18)))))) (K18_prrr cal k) (K18_pxrrrlr cal k) (doneK P results18) (cutT (Lv.a (Lv.b (Lv.a (Lv.b (Lv.b (Lv.b (A 18))))))).c T) H n D)
noncomputable def K18_prrrlrll (cal:Cal) (k:Nat) (m1:Nat):KR:=(cutK (Lv.a (Lv.a (Lv.b (Lv.a (Lv.b (Lv.b (Lv.b (A 18)))))))).c (codeE P cal (codeF P cal m1) none 18 (cR (cL (cL (cR (cL (cR (cR (cR code18)))))))) (Lv.b (Lv.a (Lv.a (Lv.b (Lv.a (Lv.b (Lv.b (Lv.b (A 18))))))))) (K18_prrrlrl cal k m1) (K18_pxrrrlr cal k) (doneK P results18)))
noncomputable def K18_prrrlrlll (cal:Cal) (k:Nat) (m1:Nat):KR:=(cutK (Lv.a (Lv.a (Lv.a (Lv.b (Lv.a (Lv.b (Lv.b (Lv.b (A 18))))))))).c (codeE P cal (codeF P cal m1) none 18 (cR (cL (cL (cL (cR (cL (cR (cR (cR code18))))))))) (Lv.b (Lv.a (Lv.a (Lv.a (Lv.b (Lv.a (Lv.b (Lv.b (Lv.b (A 18)))))))))) (K18_prrrlrll cal k m1) (K18_pxrrrlr cal k) (doneK P results18)))
noncomputable def K18_prrrlrllr (cal:Cal) (k:Nat) (m1:Nat):KR:=(cutK (Lv.b (Lv.a (Lv.a (Lv.b (Lv.a (Lv.b (Lv.b (Lv.b (A 18))))))))).c (codeE P cal (codeF P cal m1) none 18 (cR (cR (cL (cL (cR (cL (cR (cR (cR code18))))))))) (Lv.b (Lv.b (Lv.a (Lv.a (Lv.b (Lv.a (Lv.b (Lv.b (Lv.b (A 18)))))))))) (K18_prrrlrl cal k m1) (K18_pxrrrlr cal k) (doneK P results18)))
noncomputable def K18_pxrrrlrllrl (cal:Cal) (k:Nat) (m1:Nat):XR:=(upX 3 (K18_prrrlrllr cal k m1) (K18_pxrrrlr cal k))
noncomputable def K18_prrrr (cal:Cal) (k:Nat):KR:=(cutK (Lv.b (Lv.b (Lv.b (Lv.b (A 18))))).c (codeE P cal (codeF P cal k) none 18 (cR (cR (cR (cR (cR code18))))) (Lv.b (Lv.b (Lv.b (Lv.b (Lv.b (A 18)))))) (doneK P results18) X0 (doneK P results18)))
noncomputable def K18_prrrrl (cal:Cal) (k:Nat):KR:=(cutK (Lv.a (Lv.b (Lv.b (Lv.b (Lv.b (A 18)))))).c (codeE P cal (codeF P cal k) none 18 (cR (cL (cR (cR (cR (cR code18)))))) (Lv.b (Lv.a (Lv.b (Lv.b (Lv.b (Lv.b (A 18))))))) (K18_prrrr cal k) X0 (doneK P results18)))
noncomputable def K18_pxrrrrlr (cal:Cal) (k:Nat):XR:=(upX 4 (K18_prrrr cal k) X0)
noncomputable def K18_prrrrlrl (cal:Cal) (k:Nat) (m1:Nat):KR:=(fun T H n D=>codeF P cal m1 (Lv.a (Lv.b (Lv.a (Lv.b (Lv.b (Lv.b (Lv.b (A 18)))))))) none 18 (cL (cR (cL (cR (cR (cR (cR code18))))))) (K18_prrrr cal k) (K18_pxrrrrlr cal k) (doneK P results18) (cutT (Lv.a (Lv.b (Lv.a (Lv.b (Lv.b (Lv.b (Lv.b (A 18)))))))).c T) H n D)
noncomputable def K18_prrrrlrll (cal:Cal) (k:Nat) (m1:Nat):KR:=(cutK (Lv.a (Lv.a (Lv.b (Lv.a (Lv.b (Lv.b (Lv.b (Lv.b (A 18))))))))).c (codeE P cal (codeF P cal m1) none 18 (cR (cL (cL (cR (cL (cR (cR (cR (cR code18))))))))) (Lv.b (Lv.a (Lv.a (Lv.b (Lv.a (Lv.b (Lv.b (Lv.b (Lv.b (A 18)))))))))) (K18_prrrrlrl cal k m1) (K18_pxrrrrlr cal k) (doneK P results18)))
noncomputable def K18_prrrrlrlll (cal:Cal) (k:Nat) (m1:Nat):KR:=(cutK (Lv.a (Lv.a (Lv.a (Lv.b (Lv.a (Lv.b (Lv.b (Lv.b (Lv.b (A 18)))))))))).c (codeE P cal (codeF P cal m1) none 18 (cR (cL (cL (cL (cR (cL (cR (cR (cR (cR code18)))))))))) (Lv.b (Lv.a (Lv.a (Lv.a (Lv.b (Lv.a (Lv.b (Lv.b (Lv.b (Lv.b (A 18))))))))))) (K18_prrrrlrll cal k m1) (K18_pxrrrrlr cal k) (doneK P results18)))
noncomputable def K18_prrrrlrllr (cal:Cal) (k:Nat) (m1:Nat):KR:=(cutK (Lv.b (Lv.a (Lv.a (Lv.b (Lv.a (Lv.b (Lv.b (Lv.b (Lv.b (A 18)))))))))).c (codeE P cal (codeF P cal m1) none 18 (cR (cR (cL (cL (cR (cL (cR (cR (cR (cR code18)))))))))) (Lv.b (Lv.b (Lv.a (Lv.a (Lv.b (Lv.a (Lv.b (Lv.b (Lv.b (Lv.b (A 18))))))))))) (K18_prrrrlrl cal k m1) (K18_pxrrrrlr cal k) (doneK P results18)))
noncomputable def K18_pxrrrrlrllrl (cal:Cal) (k:Nat) (m1:Nat):XR:=(upX 5 (K18_prrrrlrllr cal k m1) (K18_pxrrrrlr cal k))
noncomputable def K18_prrrrlrllrll (cal:Cal) (k:Nat) (m1:Nat):KR:=(cutK (Lv.a (Lv.a (Lv.b (Lv.a (Lv.a (Lv.b (Lv.a (Lv.b (Lv.b (Lv.b (Lv.b (A 18)))))))))))).c (codeE P cal (codeF P cal m1) none 18 (cR (cL (cL (cR (cL (cL (cR (cL (cR (cR (cR (cR code18)))))))))))) (Lv.b (Lv.a (Lv.a (Lv.b (Lv.a (Lv.a (Lv.b (Lv.a (Lv.b (Lv.b (Lv.b (Lv.b (A 18))))))))))))) (K18_prrrrlrllr cal k m1) (K18_pxrrrrlrllrl cal k m1) (doneK P results18)))
noncomputable def K18_prrrrr (cal:Cal) (k:Nat):KR:=(cutK (Lv.b (Lv.b (Lv.b (Lv.b (Lv.b (A 18)))))).c (codeE P cal (codeF P cal k) none 18 (cR (cR (cR (cR (cR (cR code18)))))) (Lv.b (Lv.b (Lv.b (Lv.b (Lv.b (Lv.b (A 18))))))) (doneK P results18) X0 (doneK P results18)))
noncomputable def E18_3 (cal:Cal) (k m1:Nat):KR:=codeE P cal (codeF P cal m1) none 18 (cL (cL (cR (cL (cR (cR (cR (cR code18)))))))) (Lv.a (Lv.a (Lv.b (Lv.a (Lv.b (Lv.b (Lv.b (Lv.b (A 18))))))))) (K18_prrrrlrl cal k m1) (K18_pxrrrrlr cal k) (doneK P results18)
noncomputable def R18_3 (cal:Cal) (k m1:Nat):V4:=fun u1 u2 u3 u6 H n=>codeF P cal m1 (Lv.a (Lv.b (Lv.a (Lv.b (Lv.b (Lv.b (Lv.b (A 18)))))))) none 18 (cL (cR (cL (cR (cR (cR (cR code18))))))) (K18_prrrr cal k) (K18_pxrrrrlr cal k) (doneK P results18) (Tr.set (Tr.set (Tr.set (Tr.set Tr.nil 6 (some u6)) 3 (some u3)) 2 (some u2)) 1 (some u1)) H n []
noncomputable def E18_2 (cal:Cal) (k m1:Nat):KR:=codeE P cal (codeF P cal m1) none 18 (cL (cL (cR (cL (cR (cR (cR code18))))))) (Lv.a (Lv.a (Lv.b (Lv.a (Lv.b (Lv.b (Lv.b (A 18)))))))) (K18_prrrlrl cal k m1) (K18_pxrrrlr cal k) (doneK P results18)
noncomputable def R18_2 (cal:Cal) (k m1:Nat):V4:=fun u1 u2 u3 u5 H n=>codeF P cal m1 (Lv.a (Lv.b (Lv.a (Lv.b (Lv.b (Lv.b (A 18))))))) none 18 (cL (cR (cL (cR (cR (cR code18)))))) (K18_prrr cal k) (K18_pxrrrlr cal k) (doneK P results18) (Tr.set (Tr.set (Tr.set (Tr.set Tr.nil 5 (some u5)) 3 (some u3)) 2 (some u2)) 1 (some u1)) H n []
noncomputable def E18_1 (cal:Cal) (k m1:Nat):KR:=codeE P cal (codeF P cal m1) none 18 (cL (cL (cR (cL (cR (cR code18)))))) (Lv.a (Lv.a (Lv.b (Lv.a (Lv.b (Lv.b (A 18))))))) (K18_prrlrl cal k m1) (K18_pxrrlr cal k) (doneK P results18)
noncomputable def R18_1 (cal:Cal) (k m1:Nat):V4:=fun u1 u2 u3 u4 H n=>codeF P cal m1 (Lv.a (Lv.b (Lv.a (Lv.b (Lv.b (A 18)))))) none 18 (cL (cR (cL (cR (cR code18))))) (K18_prr cal k) (K18_pxrrlr cal k) (doneK P results18) (Tr.set (Tr.set (Tr.set (Tr.set Tr.nil 4 (some u4)) 3 (some u3)) 2 (some u2)) 1 (some u1)) H n []
noncomputable def B18_3 (cal:Cal) (k m1:Nat) (b3:V4) (u1 u2 u3 u6:Value) (H:Hp) (n:Nat):Res:=
bindO (fieldAddrV P 26 u1 2) fun v_2i=>
bindO (addrV v_2i) fun a_2k=>bindO (loadV P H 24 a_2k) fun v_2j=>
bindO (lenV P 24 v_2j) fun v_2l=>
binK P .lss 3 (.tmp 58) (.tmp 61) u6 v_2l fun v_2m=>
ifK v_2m (
bindO (fieldAddrV P 26 u1 2) fun v_2n=>
bindO (addrV v_2n) fun a_2p=>bindO (loadV P H 24 a_2p) fun v_2o=>
bindO (indexAddrV P 24 v_2o u6) fun v_2r=>
bindO (addrV v_2r) fun a_2t=>bindO (loadV P H 94 a_2t) fun v_2s=>
allocK P 94 H n fun v_2u H_2v n_2w=>
bindO (storeP P 94 v_2u v_2s H_2v) fun H_2y=>
bindO (fieldAddrV P 35 u3 2) fun v_2z=>
bindO (addrV v_2z) fun a_30=>bindO (loadV P H_2y 33 a_30) fun v_31=>
bindO (fieldAddrV P 94 v_2u 0) fun v_32=>
bindO (addrV v_32) fun a_33=>bindO (loadV P H_2y 3 a_33) fun v_34=>
bindO (fieldAddrV P 94 v_2u 1) fun v_35=>
bindO (addrV v_35) fun a_36=>bindO (loadV P H_2y 55 a_36) fun v_37=>
bindO (fieldAddrV P 94 v_2u 2) fun v_38=>
bindO (addrV v_38) fun a_39=>bindO (loadV P H_2y 55 a_39) fun v_3a=>
effK P [(.l 55 a_39),(.l 3 a_33),(.l 33 a_30)] H_2y n_2w (fun H_3b n_3c k_3d=>
callFK P cal 26 [v_37] H_3b n_3c fun v_3h H_3i n_3j=>
k_3d v_3h H_3i n_3j) fun v_3e H_3f n_3g=>
effK P [(.l 3 a_33),(.l 33 a_30)] H_3f n_3g (fun H_3k n_3l k_3m=>
callFK P cal 26 [v_3a] H_3k n_3l fun v_3q H_3r n_3s=>
k_3m v_3q H_3r n_3s) fun v_3n H_3o n_3p=>
bindO (buildP P 86 [(0,v_34),(1,v_3e),(2,v_3n)]) fun v_3t=>
bindO (rowOf P 33 1 [(0,v_3t)]) fun q_3w=>newK q_3w.1 q_3w.2 H_3o n_3p fun H_3u n_3v=>
stK (appendV P (bare H_3u n_3v) 33 33 v_31 (.slice (some ⟨n_3p,0,none⟩) 1 1)) fun v_3x H_3y n_3z=>
bindO (fieldAddrV P 35 u3 2) fun v_40=>
bindO (storeP P 33 v_40 v_3x H_3y) fun H_42=>
binK P .add 3 (.tmp 63) (.const (.int .i64 1)) u6 (.int .i64 1) fun v_44=>
b3 u1 u2 u3 v_44 H_42 n_3z) (
bindO (addrV u3) fun a_47=>bindO (loadV P H 35 a_47) fun v_46=>
bindO (storeP P 35 u2 v_46 H) fun H_49=>
bindO (resV P (Tr.set Tr.nil 2 (some u2)) H_49 results18) fun v_4a=>some (oneV v_4a,H_49,n))
noncomputable def C18_3 (cal:Cal) (k m1:Nat) (b3:V4) (u1 u2 u3 u6:Value) (H:Hp) (n:Nat):Res:=B18_3 cal k m1 b3 u1 u2 u3 u6 H n
noncomputable def S18_3 (cal:Cal) (k:Nat):Nat→V4:=fun m=>Nat.rec (motive:=fun _=>V4) (C18_3 cal k 0 (fun _ _ _ _ _ _=>none)) (fun m ih=>C18_3 cal k (m+1) ih) m
theorem h18_3 (cal:Cal) (k m1:Nat) (u1 u2 u3 u6:Value) (H:Hp) (n:Nat):labK (E18_3 cal k m1) (Tr.set (Tr.set (Tr.set (Tr.set Tr.nil 6 (some u6)) 3 (some u3)) 2 (some u2)) 1 (some u1)) H n []=C18_3 cal k m1 (R18_3 cal k m1) u1 u2 u3 u6 H n:=by
  refine Eq.trans (b:=B18_3 cal k m1 (R18_3 cal k m1) u1 u2 u3 u6 H n) (by kernel_rfl) ?_
  rw[C18_3]
theorem q18_3 (cal:Cal) (k:Nat):∀(m:Nat) (u1 u2 u3 u6:Value) (H:Hp) (n:Nat),labK (E18_3 cal k m) (Tr.set (Tr.set (Tr.set (Tr.set Tr.nil 6 (some u6)) 3 (some u3)) 2 (some u2)) 1 (some u1)) H n []=S18_3 cal k m u1 u2 u3 u6 H n
  | 0,u1,u2,u3,u6,H,n=>by
    rw[h18_3]
    have e:R18_3 cal k 0=fun _ _ _ _ _ _=>none:=by funext u1 u2 u3 u6 H n; kernel_rfl
    rw[e]; rfl
  | m+1,u1,u2,u3,u6,H,n=>by
    rw[h18_3]
    have e:R18_3 cal k (m+1)=S18_3 cal k m:=by
      funext u1 u2 u3 u6 H n
      have e:R18_3 cal k (m+1) u1 u2 u3 u6 H n=labK (E18_3 cal k m) (Tr.set (Tr.set (Tr.set (Tr.set Tr.nil 6 (some u6)) 3 (some u3)) 2 (some u2)) 1 (some u1)) H n []:=by kernel_rfl
      rw[e]; exact q18_3 ..
    rw[e]; rfl
noncomputable def B18_2 (cal:Cal) (k m1:Nat) (j3:V4) (b2:V4) (u1 u2 u3 u5:Value) (H:Hp) (n:Nat):Res:=
bindO (fieldAddrV P 26 u1 1) fun v_1f=>
bindO (addrV v_1f) fun a_1h=>bindO (loadV P H 23 a_1h) fun v_1g=>
bindO (lenV P 23 v_1g) fun v_1i=>
binK P .lss 3 (.tmp 33) (.tmp 36) u5 v_1i fun v_1j=>
ifK v_1j (
bindO (fieldAddrV P 35 u3 1) fun v_1k=>
bindO (addrV v_1k) fun a_1l=>bindO (loadV P H 32 a_1l) fun v_1m=>
bindO (fieldAddrV P 26 u1 1) fun v_1n=>
bindO (addrV v_1n) fun a_1o=>bindO (loadV P H 23 a_1o) fun v_1p=>
bindO (indexAddrV P 23 v_1p u5) fun v_1r=>
bindO (fieldAddrV P 101 v_1r 0) fun v_1s=>
bindO (addrV v_1s) fun a_1t=>bindO (loadV P H 3 a_1t) fun v_1u=>
bindO (fieldAddrV P 26 u1 1) fun v_1v=>
bindO (addrV v_1v) fun a_1w=>bindO (loadV P H 23 a_1w) fun v_1x=>
bindO (indexAddrV P 23 v_1x u5) fun v_1z=>
bindO (fieldAddrV P 101 v_1z 1) fun v_20=>
bindO (addrV v_20) fun a_21=>bindO (loadV P H 3 a_21) fun v_22=>
bindO (buildP P 88 [(0,v_1u),(1,v_22)]) fun v_23=>
bindO (rowOf P 32 1 [(0,v_23)]) fun q_26=>newK q_26.1 q_26.2 H n fun H_24 n_25=>
stK (appendV P (bare H_24 n_25) 32 32 v_1m (.slice (some ⟨n,0,none⟩) 1 1)) fun v_27 H_28 n_29=>
bindO (fieldAddrV P 35 u3 1) fun v_2a=>
bindO (storeP P 32 v_2a v_27 H_28) fun H_2c=>
binK P .add 3 (.tmp 38) (.const (.int .i64 1)) u5 (.int .i64 1) fun v_2e=>
b2 u1 u2 u3 v_2e H_2c n_29) (
j3 u1 u2 u3 (.int .i64 0) H n)
noncomputable def C18_2 (cal:Cal) (k m1:Nat) (b2:V4) (u1 u2 u3 u5:Value) (H:Hp) (n:Nat):Res:=B18_2 cal k m1 (S18_3 cal k k) b2 u1 u2 u3 u5 H n
noncomputable def S18_2 (cal:Cal) (k:Nat):Nat→V4:=fun m=>Nat.rec (motive:=fun _=>V4) (C18_2 cal k 0 (fun _ _ _ _ _ _=>none)) (fun m ih=>C18_2 cal k (m+1) ih) m
theorem h18_2 (cal:Cal) (k m1:Nat) (u1 u2 u3 u5:Value) (H:Hp) (n:Nat):labK (E18_2 cal k m1) (Tr.set (Tr.set (Tr.set (Tr.set Tr.nil 5 (some u5)) 3 (some u3)) 2 (some u2)) 1 (some u1)) H n []=C18_2 cal k m1 (R18_2 cal k m1) u1 u2 u3 u5 H n:=by
  refine Eq.trans (b:=B18_2 cal k m1 (fun u1 u2 u3 u6 H n=>labK (E18_3 cal k k) (Tr.set (Tr.set (Tr.set (Tr.set Tr.nil 6 (some u6)) 3 (some u3)) 2 (some u2)) 1 (some u1)) H n []) (R18_2 cal k m1) u1 u2 u3 u5 H n) (by kernel_rfl) ?_
  rw[C18_2]
  have e3:(fun u1 u2 u3 u6 H n=>labK (E18_3 cal k k) (Tr.set (Tr.set (Tr.set (Tr.set Tr.nil 6 (some u6)) 3 (some u3)) 2 (some u2)) 1 (some u1)) H n [])=(S18_3 cal k k):=by funext u1 u2 u3 u6 H n; exact q18_3 ..
  rw[e3]
theorem q18_2 (cal:Cal) (k:Nat):∀(m:Nat) (u1 u2 u3 u5:Value) (H:Hp) (n:Nat),labK (E18_2 cal k m) (Tr.set (Tr.set (Tr.set (Tr.set Tr.nil 5 (some u5)) 3 (some u3)) 2 (some u2)) 1 (some u1)) H n []=S18_2 cal k m u1 u2 u3 u5 H n
  | 0,u1,u2,u3,u5,H,n=>by
    rw[h18_2]
    have e:R18_2 cal k 0=fun _ _ _ _ _ _=>none:=by funext u1 u2 u3 u5 H n; kernel_rfl
    rw[e]; rfl
  | m+1,u1,u2,u3,u5,H,n=>by
    rw[h18_2]
    have e:R18_2 cal k (m+1)=S18_2 cal k m:=by
      funext u1 u2 u3 u5 H n
      have e:R18_2 cal k (m+1) u1 u2 u3 u5 H n=labK (E18_2 cal k m) (Tr.set (Tr.set (Tr.set (Tr.set Tr.nil 5 (some u5)) 3 (some u3)) 2 (some u2)) 1 (some u1)) H n []:=by kernel_rfl
      rw[e]; exact q18_2 ..
    rw[e]; rfl
noncomputable def B18_1 (cal:Cal) (k m1:Nat) (j2:V4) (b1:V4) (u1 u2 u3 u4:Value) (H:Hp) (n:Nat):Res:=
bindO (fieldAddrV P 26 u1 0) fun v_c=>
bindO (addrV v_c) fun a_e=>bindO (loadV P H 22 a_e) fun v_d=>
bindO (lenV P 22 v_d) fun v_f=>
binK P .lss 3 (.tmp 8) (.tmp 11) u4 v_f fun v_g=>
ifK v_g (
bindO (fieldAddrV P 35 u3 0) fun v_h=>
bindO (addrV v_h) fun a_i=>bindO (loadV P H 31 a_i) fun v_j=>
bindO (fieldAddrV P 26 u1 0) fun v_k=>
bindO (addrV v_k) fun a_l=>bindO (loadV P H 22 a_l) fun v_m=>
bindO (indexAddrV P 22 v_m u4) fun v_o=>
bindO (fieldAddrV P 95 v_o 0) fun v_p=>
bindO (addrV v_p) fun a_q=>bindO (loadV P H 3 a_q) fun v_r=>
bindO (fieldAddrV P 26 u1 0) fun v_s=>
bindO (addrV v_s) fun a_t=>bindO (loadV P H 22 a_t) fun v_u=>
bindO (indexAddrV P 22 v_u u4) fun v_w=>
bindO (fieldAddrV P 95 v_w 1) fun v_x=>
bindO (addrV v_x) fun a_y=>bindO (loadV P H 3 a_y) fun v_z=>
bindO (buildP P 90 [(0,v_r),(1,v_z)]) fun v_10=>
bindO (rowOf P 31 1 [(0,v_10)]) fun q_13=>newK q_13.1 q_13.2 H n fun H_11 n_12=>
stK (appendV P (bare H_11 n_12) 31 31 v_j (.slice (some ⟨n,0,none⟩) 1 1)) fun v_14 H_15 n_16=>
bindO (fieldAddrV P 35 u3 0) fun v_17=>
bindO (storeP P 31 v_17 v_14 H_15) fun H_19=>
binK P .add 3 (.tmp 13) (.const (.int .i64 1)) u4 (.int .i64 1) fun v_1b=>
b1 u1 u2 u3 v_1b H_19 n_16) (
j2 u1 u2 u3 (.int .i64 0) H n)
noncomputable def C18_1 (cal:Cal) (k m1:Nat) (b1:V4) (u1 u2 u3 u4:Value) (H:Hp) (n:Nat):Res:=B18_1 cal k m1 (S18_2 cal k k) b1 u1 u2 u3 u4 H n
noncomputable def S18_1 (cal:Cal) (k:Nat):Nat→V4:=fun m=>Nat.rec (motive:=fun _=>V4) (C18_1 cal k 0 (fun _ _ _ _ _ _=>none)) (fun m ih=>C18_1 cal k (m+1) ih) m
theorem h18_1 (cal:Cal) (k m1:Nat) (u1 u2 u3 u4:Value) (H:Hp) (n:Nat):labK (E18_1 cal k m1) (Tr.set (Tr.set (Tr.set (Tr.set Tr.nil 4 (some u4)) 3 (some u3)) 2 (some u2)) 1 (some u1)) H n []=C18_1 cal k m1 (R18_1 cal k m1) u1 u2 u3 u4 H n:=by
  refine Eq.trans (b:=B18_1 cal k m1 (fun u1 u2 u3 u5 H n=>labK (E18_2 cal k k) (Tr.set (Tr.set (Tr.set (Tr.set Tr.nil 5 (some u5)) 3 (some u3)) 2 (some u2)) 1 (some u1)) H n []) (R18_1 cal k m1) u1 u2 u3 u4 H n) (by kernel_rfl) ?_
  rw[C18_1]
  have e2:(fun u1 u2 u3 u5 H n=>labK (E18_2 cal k k) (Tr.set (Tr.set (Tr.set (Tr.set Tr.nil 5 (some u5)) 3 (some u3)) 2 (some u2)) 1 (some u1)) H n [])=(S18_2 cal k k):=by funext u1 u2 u3 u5 H n; exact q18_2 ..
  rw[e2]
theorem q18_1 (cal:Cal) (k:Nat):∀(m:Nat) (u1 u2 u3 u4:Value) (H:Hp) (n:Nat),labK (E18_1 cal k m) (Tr.set (Tr.set (Tr.set (Tr.set Tr.nil 4 (some u4)) 3 (some u3)) 2 (some u2)) 1 (some u1)) H n []=S18_1 cal k m u1 u2 u3 u4 H n
  | 0,u1,u2,u3,u4,H,n=>by
    rw[h18_1]
    have e:R18_1 cal k 0=fun _ _ _ _ _ _=>none:=by funext u1 u2 u3 u4 H n; kernel_rfl
    rw[e]; rfl
  | m+1,u1,u2,u3,u4,H,n=>by
    rw[h18_1]
    have e:R18_1 cal k (m+1)=S18_1 cal k m:=by
      funext u1 u2 u3 u4 H n
      have e:R18_1 cal k (m+1) u1 u2 u3 u4 H n=labK (E18_1 cal k m) (Tr.set (Tr.set (Tr.set (Tr.set Tr.nil 4 (some u4)) 3 (some u3)) 2 (some u2)) 1 (some u1)) H n []:=by kernel_rfl
      rw[e]; exact q18_1 ..
    rw[e]; rfl
noncomputable def B18_0 (cal:Cal) (k:Nat) (j1:V4) (v0:Value) (H:Hp) (n:Nat):Res:=
boxK 26 v0 H n fun v_1 H_2 n_3=>
allocK P 35 H_2 n_3 fun v_4 H_5 n_6=>
allocK P 35 H_5 n_6 fun v_7 H_8 n_9=>
j1 v_1 v_4 v_7 (.int .i64 0) H_8 n_9
noncomputable def C18_0 (cal:Cal) (k:Nat) (v0:Value) (H:Hp) (n:Nat):Res:=B18_0 cal k (S18_1 cal k k) v0 H n
theorem h18_0 (cal:Cal) (k:Nat) (v0:Value) (H:Hp) (n:Nat):bodyE P cal A (k+1) 18 [v0] H n=C18_0 cal k v0 H n:=by
  have h:bodyE P cal A (k+1) 18 [v0] H n=B18_0 cal k (fun u1 u2 u3 u4 H n=>labK (E18_1 cal k k) (Tr.set (Tr.set (Tr.set (Tr.set Tr.nil 4 (some u4)) 3 (some u3)) 2 (some u2)) 1 (some u1)) H n []) v0 H n:=by
    rw[body_eq (fn:=Go.Proofs.Try.f18) (c:=code18) (rs:=results18) (by kernel_rfl) (by kernel_rfl) (by kernel_rfl) (by kernel_rfl)]
    kernel_rfl
  rw[h,C18_0]
  have e1:(fun u1 u2 u3 u4 H n=>labK (E18_1 cal k k) (Tr.set (Tr.set (Tr.set (Tr.set Tr.nil 4 (some u4)) 3 (some u3)) 2 (some u2)) 1 (some u1)) H n [])=(S18_1 cal k k):=by funext u1 u2 u3 u4 H n; exact q18_1 ..
  rw[e1]
noncomputable def code20:Code:=codeOf 20
noncomputable def results20:List ResultVar:=resOf 20
noncomputable def K20_p (cal:Cal) (k:Nat):KR:=(cutK (A 20).c (codeE P cal (codeF P cal k) none 20 (cR code20) (Lv.b (A 20)) (doneK P results20) X0 (doneK P results20)))
noncomputable def K20_pr (cal:Cal) (k:Nat):KR:=(cutK (Lv.b (A 20)).c (codeE P cal (codeF P cal k) none 20 (cR (cR code20)) (Lv.b (Lv.b (A 20))) (doneK P results20) X0 (doneK P results20)))
noncomputable def B20_0 (cal:Cal) (k:Nat) (v0:Value) (H:Hp) (n:Nat):Res:=
boxK 26 v0 H n fun v_1 H_2 n_3=>
bindO (addrV v_1) fun a_6=>bindO (loadV P H_2 26 a_6) fun v_5=>
callFK P cal 63 [v_5] H_2 n_3 fun v_7 H_8 n_9=>
some (v_7,H_8,n_9)
noncomputable def C20_0 (cal:Cal) (k:Nat) (v0:Value) (H:Hp) (n:Nat):Res:=B20_0 cal k v0 H n
theorem h20_0 (cal:Cal) (k:Nat) (v0:Value) (H:Hp) (n:Nat):bodyE P cal A (k+1) 20 [v0] H n=C20_0 cal k v0 H n:=by
  have h:bodyE P cal A (k+1) 20 [v0] H n=B20_0 cal k v0 H n:=by
    rw[body_eq (fn:=Go.Proofs.Try.f20) (c:=code20) (rs:=results20) (by kernel_rfl) (by kernel_rfl) (by kernel_rfl) (by kernel_rfl)]
    kernel_rfl
  rw[h,C20_0]
noncomputable def code21:Code:=codeOf 21
noncomputable def results21:List ResultVar:=resOf 21
noncomputable def K21_p (cal:Cal) (k:Nat):KR:=(cutK (A 21).c (codeE P cal (codeF P cal k) none 21 (cR code21) (Lv.b (A 21)) (doneK P results21) X0 (doneK P results21)))
noncomputable def K21_pr (cal:Cal) (k:Nat):KR:=(cutK (Lv.b (A 21)).c (codeE P cal (codeF P cal k) none 21 (cR (cR code21)) (Lv.b (Lv.b (A 21))) (doneK P results21) X0 (doneK P results21)))
noncomputable def K21_prl (cal:Cal) (k:Nat):KR:=(cutK (Lv.a (Lv.b (A 21))).c (codeE P cal (codeF P cal k) none 21 (cR (cL (cR code21))) (Lv.b (Lv.a (Lv.b (A 21)))) (K21_pr cal k) X0 (doneK P results21)))
noncomputable def K21_pxrlr (cal:Cal) (k:Nat):XR:=(upX 0 (K21_pr cal k) X0)
noncomputable def K21_prlrl (cal:Cal) (k:Nat) (m1:Nat):KR:=(fun T H n D=>codeF P cal m1 (Lv.a (Lv.b (Lv.a (Lv.b (A 21))))) none 21 (cL (cR (cL (cR code21)))) (K21_pr cal k) (K21_pxrlr cal k) (doneK P results21) (cutT (Lv.a (Lv.b (Lv.a (Lv.b (A 21))))).c T) H n D)
noncomputable def K21_prlrll (cal:Cal) (k:Nat) (m1:Nat):KR:=(cutK (Lv.a (Lv.a (Lv.b (Lv.a (Lv.b (A 21)))))).c (codeE P cal (codeF P cal m1) none 21 (cR (cL (cL (cR (cL (cR code21)))))) (Lv.b (Lv.a (Lv.a (Lv.b (Lv.a (Lv.b (A 21))))))) (K21_prlrl cal k m1) (K21_pxrlr cal k) (doneK P results21)))
noncomputable def K21_prlrlll (cal:Cal) (k:Nat) (m1:Nat):KR:=(cutK (Lv.a (Lv.a (Lv.a (Lv.b (Lv.a (Lv.b (A 21))))))).c (codeE P cal (codeF P cal m1) none 21 (cR (cL (cL (cL (cR (cL (cR code21))))))) (Lv.b (Lv.a (Lv.a (Lv.a (Lv.b (Lv.a (Lv.b (A 21)))))))) (K21_prlrll cal k m1) (K21_pxrlr cal k) (doneK P results21)))
noncomputable def K21_prlrllr (cal:Cal) (k:Nat) (m1:Nat):KR:=(cutK (Lv.b (Lv.a (Lv.a (Lv.b (Lv.a (Lv.b (A 21))))))).c (codeE P cal (codeF P cal m1) none 21 (cR (cR (cL (cL (cR (cL (cR code21))))))) (Lv.b (Lv.b (Lv.a (Lv.a (Lv.b (Lv.a (Lv.b (A 21)))))))) (K21_prlrl cal k m1) (K21_pxrlr cal k) (doneK P results21)))
noncomputable def K21_pxrlrllrl (cal:Cal) (k:Nat) (m1:Nat):XR:=(upX 1 (K21_prlrllr cal k m1) (K21_pxrlr cal k))
noncomputable def K21_prlrllrll (cal:Cal) (k:Nat) (m1:Nat):KR:=(cutK (Lv.a (Lv.a (Lv.b (Lv.a (Lv.a (Lv.b (Lv.a (Lv.b (A 21))))))))).c (codeE P cal (codeF P cal m1) none 21 (cR (cL (cL (cR (cL (cL (cR (cL (cR code21))))))))) (Lv.b (Lv.a (Lv.a (Lv.b (Lv.a (Lv.a (Lv.b (Lv.a (Lv.b (A 21)))))))))) (K21_prlrllr cal k m1) (K21_pxrlrllrl cal k m1) (doneK P results21)))
noncomputable def K21_prlrllrllrl (cal:Cal) (k:Nat) (m1:Nat):KR:=(cutK (Lv.a (Lv.b (Lv.a (Lv.a (Lv.b (Lv.a (Lv.a (Lv.b (Lv.a (Lv.b (A 21))))))))))).c (codeE P cal (codeF P cal m1) none 21 (cR (cL (cR (cL (cL (cR (cL (cL (cR (cL (cR code21))))))))))) (Lv.b (Lv.a (Lv.b (Lv.a (Lv.a (Lv.b (Lv.a (Lv.a (Lv.b (Lv.a (Lv.b (A 21)))))))))))) (K21_prlrllr cal k m1) (K21_pxrlrllrl cal k m1) (doneK P results21)))
noncomputable def K21_prr (cal:Cal) (k:Nat):KR:=(cutK (Lv.b (Lv.b (A 21))).c (codeE P cal (codeF P cal k) none 21 (cR (cR (cR code21))) (Lv.b (Lv.b (Lv.b (A 21)))) (doneK P results21) X0 (doneK P results21)))
noncomputable def E21_1 (cal:Cal) (k m1:Nat):KR:=codeE P cal (codeF P cal m1) none 21 (cL (cL (cR (cL (cR code21))))) (Lv.a (Lv.a (Lv.b (Lv.a (Lv.b (A 21)))))) (K21_prlrl cal k m1) (K21_pxrlr cal k) (doneK P results21)
noncomputable def R21_1 (cal:Cal) (k m1:Nat):V4:=fun u1 u2 u3 u7 H n=>codeF P cal m1 (Lv.a (Lv.b (Lv.a (Lv.b (A 21))))) none 21 (cL (cR (cL (cR code21)))) (K21_pr cal k) (K21_pxrlr cal k) (doneK P results21) (Tr.set (Tr.set (Tr.set (Tr.set Tr.nil 7 (some u7)) 3 (some u3)) 2 (some u2)) 1 (some u1)) H n []
noncomputable def B21_1 (cal:Cal) (k m1:Nat) (b1:V4) (u1 u2 u3 u7:Value) (H:Hp) (n:Nat):Res:=
bindO (fieldAddrV P 26 u3 2) fun v_g=>
bindO (addrV v_g) fun a_i=>bindO (loadV P H 24 a_i) fun v_h=>
bindO (indexAddrV P 24 v_h u1) fun v_k=>
bindO (fieldAddrV P 94 v_k 1) fun v_l=>
bindO (fieldAddrV P 55 v_l 1) fun v_m=>
bindO (addrV v_m) fun a_o=>bindO (loadV P H 3 a_o) fun v_n=>
binK P .leq 3 (.tmp 15) (.tmp 22) u7 v_n fun v_p=>
ifK v_p (
bindO (addrV u3) fun a_r=>bindO (loadV P H 26 a_r) fun v_q=>
callFK P cal 64 [v_q,u1,u2,u2,u7] H n fun v_w H_x n_y=>
ifK v_w (
some ((.bool true),H_x,n_y)) (
binK P .add 3 (.tmp 24) (.const (.int .i64 1)) u7 (.int .i64 1) fun v_11=>
b1 u1 u2 u3 v_11 H_x n_y)) (
some ((.bool false),H,n))
noncomputable def C21_1 (cal:Cal) (k m1:Nat) (b1:V4) (u1 u2 u3 u7:Value) (H:Hp) (n:Nat):Res:=B21_1 cal k m1 b1 u1 u2 u3 u7 H n
noncomputable def S21_1 (cal:Cal) (k:Nat):Nat→V4:=fun m=>Nat.rec (motive:=fun _=>V4) (C21_1 cal k 0 (fun _ _ _ _ _ _=>none)) (fun m ih=>C21_1 cal k (m+1) ih) m
theorem h21_1 (cal:Cal) (k m1:Nat) (u1 u2 u3 u7:Value) (H:Hp) (n:Nat):labK (E21_1 cal k m1) (Tr.set (Tr.set (Tr.set (Tr.set Tr.nil 7 (some u7)) 3 (some u3)) 2 (some u2)) 1 (some u1)) H n []=C21_1 cal k m1 (R21_1 cal k m1) u1 u2 u3 u7 H n:=by
  refine Eq.trans (b:=B21_1 cal k m1 (R21_1 cal k m1) u1 u2 u3 u7 H n) (by kernel_rfl) ?_
  rw[C21_1]
theorem q21_1 (cal:Cal) (k:Nat):∀(m:Nat) (u1 u2 u3 u7:Value) (H:Hp) (n:Nat),labK (E21_1 cal k m) (Tr.set (Tr.set (Tr.set (Tr.set Tr.nil 7 (some u7)) 3 (some u3)) 2 (some u2)) 1 (some u1)) H n []=S21_1 cal k m u1 u2 u3 u7 H n
  | 0,u1,u2,u3,u7,H,n=>by
    rw[h21_1]
    have e:R21_1 cal k 0=fun _ _ _ _ _ _=>none:=by funext u1 u2 u3 u7 H n; kernel_rfl
    rw[e]; rfl
  | m+1,u1,u2,u3,u7,H,n=>by
    rw[h21_1]
    have e:R21_1 cal k (m+1)=S21_1 cal k m:=by
      funext u1 u2 u3 u7 H n
      have e:R21_1 cal k (m+1) u1 u2 u3 u7 H n=labK (E21_1 cal k m) (Tr.set (Tr.set (Tr.set (Tr.set Tr.nil 7 (some u7)) 3 (some u3)) 2 (some u2)) 1 (some u1)) H n []:=by kernel_rfl
      rw[e]; exact q21_1 ..
    rw[e]; rfl
noncomputable def B21_0 (cal:Cal) (k:Nat) (j1:V4) (v0 v1 v2:Value) (H:Hp) (n:Nat):Res:=
boxK 26 v0 H n fun v_1 H_2 n_3=>
bindO (fieldAddrV P 26 v_1 2) fun v_5=>
bindO (addrV v_5) fun a_7=>bindO (loadV P H_2 24 a_7) fun v_6=>
bindO (indexAddrV P 24 v_6 v1) fun v_9=>
bindO (fieldAddrV P 94 v_9 1) fun v_a=>
bindO (fieldAddrV P 55 v_a 0) fun v_b=>
bindO (addrV v_b) fun a_d=>bindO (loadV P H_2 3 a_d) fun v_c=>
j1 v1 v2 v_1 v_c H_2 n_3
noncomputable def C21_0 (cal:Cal) (k:Nat) (v0 v1 v2:Value) (H:Hp) (n:Nat):Res:=B21_0 cal k (S21_1 cal k k) v0 v1 v2 H n
theorem h21_0 (cal:Cal) (k:Nat) (v0 v1 v2:Value) (H:Hp) (n:Nat):bodyE P cal A (k+1) 21 [v0,v1,v2] H n=C21_0 cal k v0 v1 v2 H n:=by
  have h:bodyE P cal A (k+1) 21 [v0,v1,v2] H n=B21_0 cal k (fun u1 u2 u3 u7 H n=>labK (E21_1 cal k k) (Tr.set (Tr.set (Tr.set (Tr.set Tr.nil 7 (some u7)) 3 (some u3)) 2 (some u2)) 1 (some u1)) H n []) v0 v1 v2 H n:=by
    rw[body_eq (fn:=Go.Proofs.Try.f21) (c:=code21) (rs:=results21) (by kernel_rfl) (by kernel_rfl) (by kernel_rfl) (by kernel_rfl)]
    kernel_rfl
  rw[h,C21_0]
  have e1:(fun u1 u2 u3 u7 H n=>labK (E21_1 cal k k) (Tr.set (Tr.set (Tr.set (Tr.set Tr.nil 7 (some u7)) 3 (some u3)) 2 (some u2)) 1 (some u1)) H n [])=(S21_1 cal k k):=by funext u1 u2 u3 u7 H n; exact q21_1 ..
  rw[e1]
noncomputable def code22:Code:=codeOf 22
noncomputable def results22:List ResultVar:=resOf 22
noncomputable def K22_p (cal:Cal) (k:Nat):KR:=(cutK (A 22).c (codeE P cal (codeF P cal k) none 22 (cR code22) (Lv.b (A 22)) (doneK P results22) X0 (doneK P results22)))
noncomputable def K22_pr (cal:Cal) (k:Nat):KR:=(cutK (Lv.b (A 22)).c (codeE P cal (codeF P cal k) none 22 (cR (cR code22)) (Lv.b (Lv.b (A 22))) (doneK P results22) X0 (doneK P results22)))
noncomputable def K22_prr (cal:Cal) (k:Nat):KR:=(cutK (Lv.b (Lv.b (A 22))).c (codeE P cal (codeF P cal k) none 22 (cR (cR (cR code22))) (Lv.b (Lv.b (Lv.b (A 22)))) (doneK P results22) X0 (doneK P results22)))
noncomputable def K22_prrl (cal:Cal) (k:Nat):KR:=(cutK (Lv.a (Lv.b (Lv.b (A 22)))).c (codeE P cal (codeF P cal k) none 22 (cR (cL (cR (cR code22)))) (Lv.b (Lv.a (Lv.b (Lv.b (A 22))))) (K22_prr cal k) X0 (doneK P results22)))
noncomputable def K22_prrlrl (cal:Cal) (k:Nat):KR:=(cutK (Lv.a (Lv.b (Lv.a (Lv.b (Lv.b (A 22)))))).c (codeE P cal (codeF P cal k) none 22 (cR (cL (cR (cL (cR (cR code22)))))) (Lv.b (Lv.a (Lv.b (Lv.a (Lv.b (Lv.b (A 22))))))) (K22_prr cal k) X0 (doneK P results22)))
noncomputable def K22_prrr (cal:Cal) (k:Nat):KR:=(cutK (Lv.b (Lv.b (Lv.b (A 22)))).c (codeE P cal (codeF P cal k) none 22 (cR (cR (cR (cR code22)))) (Lv.b (Lv.b (Lv.b (Lv.b (A 22))))) (doneK P results22) X0 (doneK P results22)))
noncomputable def K22_prrrr (cal:Cal) (k:Nat):KR:=(cutK (Lv.b (Lv.b (Lv.b (Lv.b (A 22))))).c (codeE P cal (codeF P cal k) none 22 (cR (cR (cR (cR (cR code22))))) (Lv.b (Lv.b (Lv.b (Lv.b (Lv.b (A 22)))))) (doneK P results22) X0 (doneK P results22)))
noncomputable def B22_0 (cal:Cal) (k:Nat) (v0 v1:Value) (H:Hp) (n:Nat):Res:=
boxK 35 v0 H n fun v_1 H_2 n_3=>
bindO (addrV v_1) fun a_7=>bindO (loadV P H_2 35 a_7) fun v_6=>
callFK P cal 65 [v_6,v1] H_2 n_3 fun v_9 H_a n_b=>
bindO (tupV v_9 0) fun v_d=>
bindO (tupV v_9 1) fun v_e=>
bindO (tupV v_9 2) fun v_f=>
allocK P 120 H_a n_b fun v_g H_h n_i=>
bindO (storeP P 120 v_g v_e H_h) fun H_l=>
binK P .neq 29 (.tmp 17) (.const (.int .i64 0)) v_f (.int .i64 0) fun v_o=>
ifK v_o (
some ((Value.tuple ⟨[(.slice none 0 0),v_f]⟩),H_l,n_i)) (
bindO (addrV v_g) fun a_u=>bindO (loadV P H_l 120 a_u) fun v_t=>
callFK P cal 66 [v_d,v_t] H_l n_i fun v_v H_w n_x=>
allocK P 110 H_w n_x fun v_y H_z n_10=>
bindO (storeP P 110 v_y v_v H_z) fun H_12=>
bindO (nilV v_d) fun v_14=>
bindO (fieldAddrV P 116 v_14 0) fun v_15=>
bindO (fieldAddrV P 35 v_15 0) fun v_16=>
bindO (addrV v_16) fun a_18=>bindO (loadV P H_12 31 a_18) fun v_17=>
bindO (lenV P 31 v_17) fun v_19=>
bindO (sliceV P 110 v_y none (some v_19)) fun v_1a=>
callFK P cal 67 [v_1a] H_12 n_10 fun v_1b H_1c n_1d=>
some ((Value.tuple ⟨[v_1b,(.int .i64 0)]⟩),H_1c,n_1d))
noncomputable def C22_0 (cal:Cal) (k:Nat) (v0 v1:Value) (H:Hp) (n:Nat):Res:=B22_0 cal k v0 v1 H n
theorem h22_0 (cal:Cal) (k:Nat) (v0 v1:Value) (H:Hp) (n:Nat):bodyE P cal A (k+1) 22 [v0,v1] H n=C22_0 cal k v0 v1 H n:=by
  have h:bodyE P cal A (k+1) 22 [v0,v1] H n=B22_0 cal k v0 v1 H n:=by
    rw[body_eq (fn:=Go.Proofs.Try.f22) (c:=code22) (rs:=results22) (by kernel_rfl) (by kernel_rfl) (by kernel_rfl) (by kernel_rfl)]
    kernel_rfl
  rw[h,C22_0]
noncomputable def code23:Code:=codeOf 23
noncomputable def results23:List ResultVar:=resOf 23
noncomputable def K23_p (cal:Cal) (k:Nat):KR:=(cutK (A 23).c (codeE P cal (codeF P cal k) none 23 (cR code23) (Lv.b (A 23)) (doneK P results23) X0 (doneK P results23)))
noncomputable def K23_pr (cal:Cal) (k:Nat):KR:=(cutK (Lv.b (A 23)).c (codeE P cal (codeF P cal k) none 23 (cR (cR code23)) (Lv.b (Lv.b (A 23))) (doneK P results23) X0 (doneK P results23)))
noncomputable def B23_0 (cal:Cal) (k:Nat) (v0:Value) (H:Hp) (n:Nat):Res:=
rowK P 44 0 [] H n fun v_2 H_3 n_4=>
stK (appendV P (bare H_3 n_4) 44 44 v_2 v0) fun v_6 H_7 n_8=>
some (v_6,H_7,n_8)
noncomputable def C23_0 (cal:Cal) (k:Nat) (v0:Value) (H:Hp) (n:Nat):Res:=B23_0 cal k v0 H n
theorem h23_0 (cal:Cal) (k:Nat) (v0:Value) (H:Hp) (n:Nat):bodyE P cal A (k+1) 23 [v0] H n=C23_0 cal k v0 H n:=by
  have h:bodyE P cal A (k+1) 23 [v0] H n=B23_0 cal k v0 H n:=by
    rw[body_eq (fn:=Go.Proofs.Try.f23) (c:=code23) (rs:=results23) (by kernel_rfl) (by kernel_rfl) (by kernel_rfl) (by kernel_rfl)]
    kernel_rfl
  rw[h,C23_0]
noncomputable def code25:Code:=codeOf 25
noncomputable def results25:List ResultVar:=resOf 25
noncomputable def K25_p (cal:Cal) (k:Nat):KR:=(cutK (A 25).c (codeE P cal (codeF P cal k) none 25 (cR code25) (Lv.b (A 25)) (doneK P results25) X0 (doneK P results25)))
noncomputable def K25_pr (cal:Cal) (k:Nat):KR:=(cutK (Lv.b (A 25)).c (codeE P cal (codeF P cal k) none 25 (cR (cR code25)) (Lv.b (Lv.b (A 25))) (doneK P results25) X0 (doneK P results25)))
noncomputable def K25_prl (cal:Cal) (k:Nat):KR:=(cutK (Lv.a (Lv.b (A 25))).c (codeE P cal (codeF P cal k) none 25 (cR (cL (cR code25))) (Lv.b (Lv.a (Lv.b (A 25)))) (K25_pr cal k) X0 (doneK P results25)))
noncomputable def K25_prlr (cal:Cal) (k:Nat):KR:=(cutK (Lv.b (Lv.a (Lv.b (A 25)))).c (codeE P cal (codeF P cal k) none 25 (cR (cR (cL (cR code25)))) (Lv.b (Lv.b (Lv.a (Lv.b (A 25))))) (K25_pr cal k) X0 (doneK P results25)))
noncomputable def K25_prlrrl (cal:Cal) (k:Nat):KR:=(cutK (Lv.a (Lv.b (Lv.b (Lv.a (Lv.b (A 25)))))).c (codeE P cal (codeF P cal k) none 25 (cR (cL (cR (cR (cL (cR code25)))))) (Lv.b (Lv.a (Lv.b (Lv.b (Lv.a (Lv.b (A 25))))))) (K25_pr cal k) X0 (doneK P results25)))
noncomputable def K25_prr (cal:Cal) (k:Nat):KR:=(cutK (Lv.b (Lv.b (A 25))).c (codeE P cal (codeF P cal k) none 25 (cR (cR (cR code25))) (Lv.b (Lv.b (Lv.b (A 25)))) (doneK P results25) X0 (doneK P results25)))
noncomputable def K25_prrl (cal:Cal) (k:Nat):KR:=(cutK (Lv.a (Lv.b (Lv.b (A 25)))).c (codeE P cal (codeF P cal k) none 25 (cR (cL (cR (cR code25)))) (Lv.b (Lv.a (Lv.b (Lv.b (A 25))))) (K25_prr cal k) X0 (doneK P results25)))
noncomputable def K25_prrlrl (cal:Cal) (k:Nat):KR:=(cutK (Lv.a (Lv.b (Lv.a (Lv.b (Lv.b (A 25)))))).c (codeE P cal (codeF P cal k) none 25 (cR (cL (cR (cL (cR (cR code25)))))) (Lv.b (Lv.a (Lv.b (Lv.a (Lv.b (Lv.b (A 25))))))) (K25_prr cal k) X0 (doneK P results25)))
noncomputable def K25_prrr (cal:Cal) (k:Nat):KR:=(cutK (Lv.b (Lv.b (Lv.b (A 25)))).c (codeE P cal (codeF P cal k) none 25 (cR (cR (cR (cR code25)))) (Lv.b (Lv.b (Lv.b (Lv.b (A 25))))) (doneK P results25) X0 (doneK P results25)))
noncomputable def B25_0 (cal:Cal) (k:Nat) (v0 v1:Value) (H:Hp) (n:Nat):Res:=
boxK 26 v0 H n fun v_1 H_2 n_3=>
bindO (addrV v_1) fun a_6=>bindO (loadV P H_2 26 a_6) fun v_5=>
callFK P cal 20 [v_5] H_2 n_3 fun v_7 H_8 n_9=>
binK P .neq 29 (.tmp 8) (.const (.int .i64 0)) v_7 (.int .i64 0) fun v_c=>
ifK v_c (
some (v_7,H_8,n_9)) (
bindO (addrV v_1) fun a_g=>bindO (loadV P H_8 26 a_g) fun v_f=>
callFK P cal 58 [v_f,v1] H_8 n_9 fun v_i H_j n_k=>
bindO (pureSem P v_i (Op.unary UnOp.not v_i)) fun v_l=>
ifK v_l (
some ((.int .i64 2),H_j,n_k)) (
some ((.int .i64 0),H_j,n_k)))
noncomputable def C25_0 (cal:Cal) (k:Nat) (v0 v1:Value) (H:Hp) (n:Nat):Res:=B25_0 cal k v0 v1 H n
theorem h25_0 (cal:Cal) (k:Nat) (v0 v1:Value) (H:Hp) (n:Nat):bodyE P cal A (k+1) 25 [v0,v1] H n=C25_0 cal k v0 v1 H n:=by
  have h:bodyE P cal A (k+1) 25 [v0,v1] H n=B25_0 cal k v0 v1 H n:=by
    rw[body_eq (fn:=Go.Proofs.Try.f25) (c:=code25) (rs:=results25) (by kernel_rfl) (by kernel_rfl) (by kernel_rfl) (by kernel_rfl)]
    kernel_rfl
  rw[h,C25_0]
noncomputable def code26:Code:=codeOf 26
noncomputable def results26:List ResultVar:=resOf 26
noncomputable def K26_p (cal:Cal) (k:Nat):KR:=(cutK (A 26).c (codeE P cal (codeF P cal k) none 26 (cR code26) (Lv.b (A 26)) (doneK P results26) X0 (doneK P results26)))
noncomputable def K26_pr (cal:Cal) (k:Nat):KR:=(cutK (Lv.b (A 26)).c (codeE P cal (codeF P cal k) none 26 (cR (cR code26)) (Lv.b (Lv.b (A 26))) (doneK P results26) X0 (doneK P results26)))
noncomputable def B26_0 (cal:Cal) (k:Nat) (v0:Value) (H:Hp) (n:Nat):Res:=
boxK 55 v0 H n fun v_1 H_2 n_3=>
allocK P 53 H_2 n_3 fun v_4 H_5 n_6=>
bindO (fieldAddrV P 55 v_1 0) fun v_7=>
bindO (addrV v_7) fun a_9=>bindO (loadV P H_5 3 a_9) fun v_8=>
bindO (fieldAddrV P 55 v_1 1) fun v_a=>
bindO (addrV v_a) fun a_c=>bindO (loadV P H_5 3 a_c) fun v_b=>
bindO (buildP P 53 [(0,v_8),(1,v_b)]) fun v_d=>
bindO (storeP P 53 v_4 v_d H_5) fun H_f=>
bindO (resV P (Tr.set Tr.nil 2 (some v_4)) H_f results26) fun v_g=>some (oneV v_g,H_f,n_6)
noncomputable def C26_0 (cal:Cal) (k:Nat) (v0:Value) (H:Hp) (n:Nat):Res:=B26_0 cal k v0 H n
theorem h26_0 (cal:Cal) (k:Nat) (v0:Value) (H:Hp) (n:Nat):bodyE P cal A (k+1) 26 [v0] H n=C26_0 cal k v0 H n:=by
  have h:bodyE P cal A (k+1) 26 [v0] H n=B26_0 cal k v0 H n:=by
    rw[body_eq (fn:=Go.Proofs.Try.f26) (c:=code26) (rs:=results26) (by kernel_rfl) (by kernel_rfl) (by kernel_rfl) (by kernel_rfl)]
    kernel_rfl
  rw[h,C26_0]
noncomputable def code30:Code:=codeOf 30
noncomputable def results30:List ResultVar:=resOf 30
noncomputable def K30_p (cal:Cal) (k:Nat):KR:=(cutK (A 30).c (codeE P cal (codeF P cal k) none 30 (cR code30) (Lv.b (A 30)) (doneK P results30) X0 (doneK P results30)))
noncomputable def K30_pr (cal:Cal) (k:Nat):KR:=(cutK (Lv.b (A 30)).c (codeE P cal (codeF P cal k) none 30 (cR (cR code30)) (Lv.b (Lv.b (A 30))) (doneK P results30) X0 (doneK P results30)))
noncomputable def K30_prl (cal:Cal) (k:Nat):KR:=(cutK (Lv.a (Lv.b (A 30))).c (codeE P cal (codeF P cal k) none 30 (cR (cL (cR code30))) (Lv.b (Lv.a (Lv.b (A 30)))) (K30_pr cal k) X0 (doneK P results30)))
noncomputable def K30_prlrl (cal:Cal) (k:Nat):KR:=(cutK (Lv.a (Lv.b (Lv.a (Lv.b (A 30))))).c (codeE P cal (codeF P cal k) none 30 (cR (cL (cR (cL (cR code30))))) (Lv.b (Lv.a (Lv.b (Lv.a (Lv.b (A 30)))))) (K30_pr cal k) X0 (doneK P results30)))
noncomputable def K30_prr (cal:Cal) (k:Nat):KR:=(cutK (Lv.b (Lv.b (A 30))).c (codeE P cal (codeF P cal k) none 30 (cR (cR (cR code30))) (Lv.b (Lv.b (Lv.b (A 30)))) (doneK P results30) X0 (doneK P results30)))
noncomputable def K30_prrl (cal:Cal) (k:Nat):KR:=(cutK (Lv.a (Lv.b (Lv.b (A 30)))).c (codeE P cal (codeF P cal k) none 30 (cR (cL (cR (cR code30)))) (Lv.b (Lv.a (Lv.b (Lv.b (A 30))))) (K30_prr cal k) X0 (doneK P results30)))
noncomputable def K30_pxrrlr (cal:Cal) (k:Nat):XR:=(upX 0 (K30_prr cal k) X0)
noncomputable def K30_prrlrl (cal:Cal) (k:Nat) (m1:Nat):KR:=(fun T H n D=>codeF P cal m1 (Lv.a (Lv.b (Lv.a (Lv.b (Lv.b (A 30)))))) none 30 (cL (cR (cL (cR (cR code30))))) (K30_prr cal k) (K30_pxrrlr cal k) (doneK P results30) (cutT (Lv.a (Lv.b (Lv.a (Lv.b (Lv.b (A 30)))))).c T) H n D)
noncomputable def K30_prrlrll (cal:Cal) (k:Nat) (m1:Nat):KR:=(cutK (Lv.a (Lv.a (Lv.b (Lv.a (Lv.b (Lv.b (A 30))))))).c (codeE P cal (codeF P cal m1) none 30 (cR (cL (cL (cR (cL (cR (cR code30))))))) (Lv.b (Lv.a (Lv.a (Lv.b (Lv.a (Lv.b (Lv.b (A 30)))))))) (K30_prrlrl cal k m1) (K30_pxrrlr cal k) (doneK P results30)))
noncomputable def K30_prrlrlll (cal:Cal) (k:Nat) (m1:Nat):KR:=(cutK (Lv.a (Lv.a (Lv.a (Lv.b (Lv.a (Lv.b (Lv.b (A 30)))))))).c (codeE P cal (codeF P cal m1) none 30 (cR (cL (cL (cL (cR (cL (cR (cR code30)))))))) (Lv.b (Lv.a (Lv.a (Lv.a (Lv.b (Lv.a (Lv.b (Lv.b (A 30))))))))) (K30_prrlrll cal k m1) (K30_pxrrlr cal k) (doneK P results30)))
noncomputable def K30_prrlrllr (cal:Cal) (k:Nat) (m1:Nat):KR:=(cutK (Lv.b (Lv.a (Lv.a (Lv.b (Lv.a (Lv.b (Lv.b (A 30)))))))).c (codeE P cal (codeF P cal m1) none 30 (cR (cR (cL (cL (cR (cL (cR (cR code30)))))))) (Lv.b (Lv.b (Lv.a (Lv.a (Lv.b (Lv.a (Lv.b (Lv.b (A 30))))))))) (K30_prrlrl cal k m1) (K30_pxrrlr cal k) (doneK P results30)))
noncomputable def K30_pxrrlrllrl (cal:Cal) (k:Nat) (m1:Nat):XR:=(upX 1 (K30_prrlrllr cal k m1) (K30_pxrrlr cal k))
noncomputable def K30_prrlrllrll (cal:Cal) (k:Nat) (m1:Nat):KR:=(cutK (Lv.a (Lv.a (Lv.b (Lv.a (Lv.a (Lv.b (Lv.a (Lv.b (Lv.b (A 30)))))))))).c (codeE P cal (codeF P cal m1) none 30 (cR (cL (cL (cR (cL (cL (cR (cL (cR (cR code30)))))))))) (Lv.b (Lv.a (Lv.a (Lv.b (Lv.a (Lv.a (Lv.b (Lv.a (Lv.b (Lv.b (A 30))))))))))) (K30_prrlrllr cal k m1) (K30_pxrrlrllrl cal k m1) (doneK P results30)))
noncomputable def K30_prrlrllrllrl (cal:Cal) (k:Nat) (m1:Nat):KR:=(cutK (Lv.a (Lv.b (Lv.a (Lv.a (Lv.b (Lv.a (Lv.a (Lv.b (Lv.a (Lv.b (Lv.b (A 30)))))))))))).c (codeE P cal (codeF P cal m1) none 30 (cR (cL (cR (cL (cL (cR (cL (cL (cR (cL (cR (cR code30)))))))))))) (Lv.b (Lv.a (Lv.b (Lv.a (Lv.a (Lv.b (Lv.a (Lv.a (Lv.b (Lv.a (Lv.b (Lv.b (A 30))))))))))))) (K30_prrlrllr cal k m1) (K30_pxrrlrllrl cal k m1) (doneK P results30)))
noncomputable def K30_prrr (cal:Cal) (k:Nat):KR:=(cutK (Lv.b (Lv.b (Lv.b (A 30)))).c (codeE P cal (codeF P cal k) none 30 (cR (cR (cR (cR code30)))) (Lv.b (Lv.b (Lv.b (Lv.b (A 30))))) (doneK P results30) X0 (doneK P results30)))
noncomputable def E30_1 (cal:Cal) (k m1:Nat):KR:=codeE P cal (codeF P cal m1) none 30 (cL (cL (cR (cL (cR (cR code30)))))) (Lv.a (Lv.a (Lv.b (Lv.a (Lv.b (Lv.b (A 30))))))) (K30_prrlrl cal k m1) (K30_pxrrlr cal k) (doneK P results30)
noncomputable def R30_1 (cal:Cal) (k m1:Nat):V3:=fun u0 u1 u5 H n=>codeF P cal m1 (Lv.a (Lv.b (Lv.a (Lv.b (Lv.b (A 30)))))) none 30 (cL (cR (cL (cR (cR code30))))) (K30_prr cal k) (K30_pxrrlr cal k) (doneK P results30) (Tr.set (Tr.set (Tr.set Tr.nil 5 (some u5)) 1 (some u1)) 0 (some u0)) H n []
noncomputable def B30_1 (cal:Cal) (k m1:Nat) (b1:V3) (u0 u1 u5:Value) (H:Hp) (n:Nat):Res:=
bindO (lenV P 44 u0) fun v_b=>
binK P .lss 3 (.tmp 11) (.tmp 13) u5 v_b fun v_c=>
ifK v_c (
bindO (indexAddrV P 44 u0 u5) fun v_f=>
bindO (addrV v_f) fun a_g=>bindO (loadV P H 3 a_g) fun v_h=>
bindO (indexAddrV P 44 u1 u5) fun v_k=>
bindO (addrV v_k) fun a_l=>bindO (loadV P H 3 a_l) fun v_m=>
binK P .neq 3 (.tmp 20) (.tmp 24) v_h v_m fun v_n=>
ifK v_n (
some ((.bool false),H,n)) (
binK P .add 3 (.tmp 15) (.const (.int .i64 1)) u5 (.int .i64 1) fun v_q=>
b1 u0 u1 v_q H n)) (
some ((.bool true),H,n))
noncomputable def C30_1 (cal:Cal) (k m1:Nat) (b1:V3) (u0 u1 u5:Value) (H:Hp) (n:Nat):Res:=B30_1 cal k m1 b1 u0 u1 u5 H n
noncomputable def S30_1 (cal:Cal) (k:Nat):Nat→V3:=fun m=>Nat.rec (motive:=fun _=>V3) (C30_1 cal k 0 (fun _ _ _ _ _=>none)) (fun m ih=>C30_1 cal k (m+1) ih) m
theorem h30_1 (cal:Cal) (k m1:Nat) (u0 u1 u5:Value) (H:Hp) (n:Nat):labK (E30_1 cal k m1) (Tr.set (Tr.set (Tr.set Tr.nil 5 (some u5)) 1 (some u1)) 0 (some u0)) H n []=C30_1 cal k m1 (R30_1 cal k m1) u0 u1 u5 H n:=by
  refine Eq.trans (b:=B30_1 cal k m1 (R30_1 cal k m1) u0 u1 u5 H n) (by kernel_rfl) ?_
  rw[C30_1]
theorem q30_1 (cal:Cal) (k:Nat):∀(m:Nat) (u0 u1 u5:Value) (H:Hp) (n:Nat),labK (E30_1 cal k m) (Tr.set (Tr.set (Tr.set Tr.nil 5 (some u5)) 1 (some u1)) 0 (some u0)) H n []=S30_1 cal k m u0 u1 u5 H n
  | 0,u0,u1,u5,H,n=>by
    rw[h30_1]
    have e:R30_1 cal k 0=fun _ _ _ _ _=>none:=by funext u0 u1 u5 H n; kernel_rfl
    rw[e]; rfl
  | m+1,u0,u1,u5,H,n=>by
    rw[h30_1]
    have e:R30_1 cal k (m+1)=S30_1 cal k m:=by
      funext u0 u1 u5 H n
      have e:R30_1 cal k (m+1) u0 u1 u5 H n=labK (E30_1 cal k m) (Tr.set (Tr.set (Tr.set Tr.nil 5 (some u5)) 1 (some u1)) 0 (some u0)) H n []:=by kernel_rfl
      rw[e]; exact q30_1 ..
    rw[e]; rfl
noncomputable def B30_0 (cal:Cal) (k:Nat) (j1:V3) (v0 v1:Value) (H:Hp) (n:Nat):Res:=
bindO (lenV P 44 v0) fun v_3=>
bindO (lenV P 44 v1) fun v_5=>
binK P .neq 3 (.tmp 7) (.tmp 9) v_3 v_5 fun v_6=>
ifK v_6 (
some ((.bool false),H,n)) (
j1 v0 v1 (.int .i64 0) H n)
noncomputable def C30_0 (cal:Cal) (k:Nat) (v0 v1:Value) (H:Hp) (n:Nat):Res:=B30_0 cal k (S30_1 cal k k) v0 v1 H n
theorem h30_0 (cal:Cal) (k:Nat) (v0 v1:Value) (H:Hp) (n:Nat):bodyE P cal A (k+1) 30 [v0,v1] H n=C30_0 cal k v0 v1 H n:=by
  have h:bodyE P cal A (k+1) 30 [v0,v1] H n=B30_0 cal k (fun u0 u1 u5 H n=>labK (E30_1 cal k k) (Tr.set (Tr.set (Tr.set Tr.nil 5 (some u5)) 1 (some u1)) 0 (some u0)) H n []) v0 v1 H n:=by
    rw[body_eq (fn:=Go.Proofs.Try.f30) (c:=code30) (rs:=results30) (by kernel_rfl) (by kernel_rfl) (by kernel_rfl) (by kernel_rfl)]
    kernel_rfl
  rw[h,C30_0]
  have e1:(fun u0 u1 u5 H n=>labK (E30_1 cal k k) (Tr.set (Tr.set (Tr.set Tr.nil 5 (some u5)) 1 (some u1)) 0 (some u0)) H n [])=(S30_1 cal k k):=by funext u0 u1 u5 H n; exact q30_1 ..
  rw[e1]
noncomputable def code32:Code:=codeOf 32
noncomputable def results32:List ResultVar:=resOf 32
noncomputable def K32_p (cal:Cal) (k:Nat):KR:=(cutK (A 32).c (codeE P cal (codeF P cal k) none 32 (cR code32) (Lv.b (A 32)) (doneK P results32) X0 (doneK P results32)))
noncomputable def K32_pr (cal:Cal) (k:Nat):KR:=(cutK (Lv.b (A 32)).c (codeE P cal (codeF P cal k) none 32 (cR (cR code32)) (Lv.b (Lv.b (A 32))) (doneK P results32) X0 (doneK P results32)))
noncomputable def B32_0 (cal:Cal) (k:Nat) (v0 v1 v2:Value) (H:Hp) (n:Nat):Res:=
binK P .geq 3 (.tmp 7) (.tmp 8) v0 v1 fun v_4=>
guardK v_4 true (fun k_6=>
k_6 v0 H n) H n fun v_7 H_8 n_9=>
guardK v_4 true (fun k_b=>
k_b v2 H_8 n_9) H_8 n_9 fun v_c H_d n_e=>
guardK v_4 true (fun k_g=>
binK P .leq 3 (.tmp 11) (.tmp 12) v_7 v_c fun v_k=>
k_g v_k H_d n_e) H_d n_e fun v_h H_i n_j=>
bindO (pickV v_4 v_h (.bool false)) fun v_l=>
some (v_l,H_i,n_j)
noncomputable def C32_0 (cal:Cal) (k:Nat) (v0 v1 v2:Value) (H:Hp) (n:Nat):Res:=B32_0 cal k v0 v1 v2 H n
theorem h32_0 (cal:Cal) (k:Nat) (v0 v1 v2:Value) (H:Hp) (n:Nat):bodyE P cal A (k+1) 32 [v0,v1,v2] H n=C32_0 cal k v0 v1 v2 H n:=by
  have h:bodyE P cal A (k+1) 32 [v0,v1,v2] H n=B32_0 cal k v0 v1 v2 H n:=by
    rw[body_eq (fn:=Go.Proofs.Try.f32) (c:=code32) (rs:=results32) (by kernel_rfl) (by kernel_rfl) (by kernel_rfl) (by kernel_rfl)]
    kernel_rfl
  rw[h,C32_0]
noncomputable def code42:Code:=codeOf 42
noncomputable def results42:List ResultVar:=resOf 42
noncomputable def K42_p (cal:Cal) (k:Nat):KR:=(cutK (A 42).c (codeE P cal (codeF P cal k) none 42 (cR code42) (Lv.b (A 42)) (doneK P results42) X0 (doneK P results42)))
noncomputable def K42_pr (cal:Cal) (k:Nat):KR:=(cutK (Lv.b (A 42)).c (codeE P cal (codeF P cal k) none 42 (cR (cR code42)) (Lv.b (Lv.b (A 42))) (doneK P results42) X0 (doneK P results42)))
noncomputable def K42_prr (cal:Cal) (k:Nat):KR:=(cutK (Lv.b (Lv.b (A 42))).c (codeE P cal (codeF P cal k) none 42 (cR (cR (cR code42))) (Lv.b (Lv.b (Lv.b (A 42)))) (doneK P results42) X0 (doneK P results42)))
noncomputable def K42_prrl (cal:Cal) (k:Nat):KR:=(cutK (Lv.a (Lv.b (Lv.b (A 42)))).c (codeE P cal (codeF P cal k) none 42 (cR (cL (cR (cR code42)))) (Lv.b (Lv.a (Lv.b (Lv.b (A 42))))) (K42_prr cal k) X0 (doneK P results42)))
noncomputable def K42_prrlrl (cal:Cal) (k:Nat):KR:=(cutK (Lv.a (Lv.b (Lv.a (Lv.b (Lv.b (A 42)))))).c (codeE P cal (codeF P cal k) none 42 (cR (cL (cR (cL (cR (cR code42)))))) (Lv.b (Lv.a (Lv.b (Lv.a (Lv.b (Lv.b (A 42))))))) (K42_prr cal k) X0 (doneK P results42)))
noncomputable def K42_prrr (cal:Cal) (k:Nat):KR:=(cutK (Lv.b (Lv.b (Lv.b (A 42)))).c (codeE P cal (codeF P cal k) none 42 (cR (cR (cR (cR code42)))) (Lv.b (Lv.b (Lv.b (Lv.b (A 42))))) (doneK P results42) X0 (doneK P results42)))
noncomputable def K42_prrrr (cal:Cal) (k:Nat):KR:=(cutK (Lv.b (Lv.b (Lv.b (Lv.b (A 42))))).c (codeE P cal (codeF P cal k) none 42 (cR (cR (cR (cR (cR code42))))) (Lv.b (Lv.b (Lv.b (Lv.b (Lv.b (A 42)))))) (doneK P results42) X0 (doneK P results42)))
noncomputable def K42_prrrrl (cal:Cal) (k:Nat):KR:=(cutK (Lv.a (Lv.b (Lv.b (Lv.b (Lv.b (A 42)))))).c (codeE P cal (codeF P cal k) none 42 (cR (cL (cR (cR (cR (cR code42)))))) (Lv.b (Lv.a (Lv.b (Lv.b (Lv.b (Lv.b (A 42))))))) (K42_prrrr cal k) X0 (doneK P results42)))
noncomputable def K42_prrrrlrl (cal:Cal) (k:Nat):KR:=(cutK (Lv.a (Lv.b (Lv.a (Lv.b (Lv.b (Lv.b (Lv.b (A 42)))))))).c (codeE P cal (codeF P cal k) none 42 (cR (cL (cR (cL (cR (cR (cR (cR code42)))))))) (Lv.b (Lv.a (Lv.b (Lv.a (Lv.b (Lv.b (Lv.b (Lv.b (A 42))))))))) (K42_prrrr cal k) X0 (doneK P results42)))
noncomputable def K42_prrrrr (cal:Cal) (k:Nat):KR:=(cutK (Lv.b (Lv.b (Lv.b (Lv.b (Lv.b (A 42)))))).c (codeE P cal (codeF P cal k) none 42 (cR (cR (cR (cR (cR (cR code42)))))) (Lv.b (Lv.b (Lv.b (Lv.b (Lv.b (Lv.b (A 42))))))) (doneK P results42) X0 (doneK P results42)))
noncomputable def B42_0 (cal:Cal) (k:Nat) (v0:Value) (H:Hp) (n:Nat):Res:=
boxK 35 v0 H n fun v_1 H_2 n_3=>
bindO (addrV v_1) fun a_8=>bindO (loadV P H_2 35 a_8) fun v_7=>
callFK P cal 61 [v_7] H_2 n_3 fun v_9 H_a n_b=>
bindO (tupV v_9 0) fun v_d=>
bindO (tupV v_9 1) fun v_e=>
binK P .neq 29 (.tmp 13) (.const (.int .i64 0)) v_e (.int .i64 0) fun v_i=>
ifK v_i (
some ((Value.tuple ⟨[(.slice none 0 0),(.int .i64 0),v_e]⟩),H_a,n_b)) (
callFK P cal 81 [v_d] H_a n_b fun v_o H_p n_q=>
bindO (tupV v_o 0) fun v_s=>
bindO (tupV v_o 1) fun v_t=>
allocK P 120 H_p n_q fun v_u H_v n_w=>
bindO (storeP P 120 v_u v_s H_v) fun H_y=>
bindO (pureSem P v_t (Op.unary UnOp.not v_t)) fun v_11=>
ifK v_11 (
some ((Value.tuple ⟨[(.slice none 0 0),(.int .i64 0),(.int .i64 10)]⟩),H_y,n_w)) (
bindO (nilV v_d) fun v_16=>
bindO (fieldAddrV P 116 v_16 0) fun v_17=>
bindO (fieldAddrV P 35 v_17 0) fun v_18=>
bindO (addrV v_18) fun a_19=>bindO (loadV P H_y 31 a_19) fun v_1a=>
bindO (lenV P 31 v_1a) fun v_1b=>
bindO (sliceV P 120 v_u none (some v_1b)) fun v_1c=>
bindO (addrV v_u) fun a_1e=>bindO (loadV P H_y 120 a_1e) fun v_1f=>
effK P [(.l 120 a_1e)] H_y n_w (fun H_1g n_1h k_1i=>
callFK P cal 76 [v_1c] H_1g n_1h fun v_1m H_1n n_1o=>
k_1i v_1m H_1n n_1o) fun v_1j H_1k n_1l=>
callFK P cal 82 [v_d,v_1f] H_1k n_1l fun v_1p H_1q n_1r=>
some ((Value.tuple ⟨[v_1j,v_1p,(.int .i64 0)]⟩),H_1q,n_1r)))
noncomputable def C42_0 (cal:Cal) (k:Nat) (v0:Value) (H:Hp) (n:Nat):Res:=B42_0 cal k v0 H n
theorem h42_0 (cal:Cal) (k:Nat) (v0:Value) (H:Hp) (n:Nat):bodyE P cal A (k+1) 42 [v0] H n=C42_0 cal k v0 H n:=by
  have h:bodyE P cal A (k+1) 42 [v0] H n=B42_0 cal k v0 H n:=by
    rw[body_eq (fn:=Go.Proofs.Try.f42) (c:=code42) (rs:=results42) (by kernel_rfl) (by kernel_rfl) (by kernel_rfl) (by kernel_rfl)]
    kernel_rfl
  rw[h,C42_0]
noncomputable def code54:Code:=codeOf 54
noncomputable def results54:List ResultVar:=resOf 54
noncomputable def K54_p (cal:Cal) (k:Nat):KR:=(cutK (A 54).c (codeE P cal (codeF P cal k) none 54 (cR code54) (Lv.b (A 54)) (doneK P results54) X0 (doneK P results54)))
noncomputable def K54_pr (cal:Cal) (k:Nat):KR:=(cutK (Lv.b (A 54)).c (codeE P cal (codeF P cal k) none 54 (cR (cR code54)) (Lv.b (Lv.b (A 54))) (doneK P results54) X0 (doneK P results54)))
noncomputable def B54_0 (cal:Cal) (k:Nat) (v0 v1:Value) (H:Hp) (n:Nat):Res:=
allocK P 53 H n fun v_1 H_2 n_3=>
bindO (buildP P 53 [(0,v0),(1,v1)]) fun v_6=>
bindO (storeP P 53 v_1 v_6 H_2) fun H_8=>
bindO (resV P (Tr.set Tr.nil 4 (some v_1)) H_8 results54) fun v_9=>some (oneV v_9,H_8,n_3)
noncomputable def C54_0 (cal:Cal) (k:Nat) (v0 v1:Value) (H:Hp) (n:Nat):Res:=B54_0 cal k v0 v1 H n
theorem h54_0 (cal:Cal) (k:Nat) (v0 v1:Value) (H:Hp) (n:Nat):bodyE P cal A (k+1) 54 [v0,v1] H n=C54_0 cal k v0 v1 H n:=by
  have h:bodyE P cal A (k+1) 54 [v0,v1] H n=B54_0 cal k v0 v1 H n:=by
    rw[body_eq (fn:=Go.Proofs.Try.f54) (c:=code54) (rs:=results54) (by kernel_rfl) (by kernel_rfl) (by kernel_rfl) (by kernel_rfl)]
    kernel_rfl
  rw[h,C54_0]
noncomputable def code55:Code:=codeOf 55
noncomputable def results55:List ResultVar:=resOf 55
noncomputable def K55_p (cal:Cal) (k:Nat):KR:=(cutK (A 55).c (codeE P cal (codeF P cal k) none 55 (cR code55) (Lv.b (A 55)) (doneK P results55) X0 (doneK P results55)))
noncomputable def K55_pr (cal:Cal) (k:Nat):KR:=(cutK (Lv.b (A 55)).c (codeE P cal (codeF P cal k) none 55 (cR (cR code55)) (Lv.b (Lv.b (A 55))) (doneK P results55) X0 (doneK P results55)))
noncomputable def B55_0 (cal:Cal) (k:Nat) (v0 v1:Value) (H:Hp) (n:Nat):Res:=
boxK 26 v0 H n fun v_1 H_2 n_3=>
bindO (addrV v_1) fun a_6=>bindO (loadV P H_2 26 a_6) fun v_5=>
callFK P cal 15 [v_5,v1] H_2 n_3 fun v_8 H_9 n_a=>
guardK v_8 true (fun k_c=>
bindO (addrV v_1) fun a_h=>bindO (loadV P H_9 26 a_h) fun v_g=>
k_c v_g H_9 n_a) H_9 n_a fun v_d H_e n_f=>
guardK v_8 true (fun k_i=>
k_i v1 H_e n_f) H_e n_f fun v_j H_k n_l=>
guardK v_8 true (fun k_n=>
callFK P cal 25 [v_d,v_j] H_k n_l fun v_r H_s n_t=>
k_n v_r H_s n_t) H_k n_l fun v_o H_p n_q=>
guardK v_8 true (fun k_u=>
binK P .eql 29 (.tmp 11) (.const (.int .i64 0)) v_o (.int .i64 0) fun v_y=>
k_u v_y H_p n_q) H_p n_q fun v_v H_w n_x=>
bindO (pickV v_8 v_v (.bool false)) fun v_z=>
some (v_z,H_w,n_x)
noncomputable def C55_0 (cal:Cal) (k:Nat) (v0 v1:Value) (H:Hp) (n:Nat):Res:=B55_0 cal k v0 v1 H n
theorem h55_0 (cal:Cal) (k:Nat) (v0 v1:Value) (H:Hp) (n:Nat):bodyE P cal A (k+1) 55 [v0,v1] H n=C55_0 cal k v0 v1 H n:=by
  have h:bodyE P cal A (k+1) 55 [v0,v1] H n=B55_0 cal k v0 v1 H n:=by
    rw[body_eq (fn:=Go.Proofs.Try.f55) (c:=code55) (rs:=results55) (by kernel_rfl) (by kernel_rfl) (by kernel_rfl) (by kernel_rfl)]
    kernel_rfl
  rw[h,C55_0]
noncomputable def code58:Code:=codeOf 58
noncomputable def results58:List ResultVar:=resOf 58
noncomputable def K58_p (cal:Cal) (k:Nat):KR:=(cutK (A 58).c (codeE P cal (codeF P cal k) none 58 (cR code58) (Lv.b (A 58)) (doneK P results58) X0 (doneK P results58)))
noncomputable def K58_pr (cal:Cal) (k:Nat):KR:=(cutK (Lv.b (A 58)).c (codeE P cal (codeF P cal k) none 58 (cR (cR code58)) (Lv.b (Lv.b (A 58))) (doneK P results58) X0 (doneK P results58)))
noncomputable def K58_prl (cal:Cal) (k:Nat):KR:=(cutK (Lv.a (Lv.b (A 58))).c (codeE P cal (codeF P cal k) none 58 (cR (cL (cR code58))) (Lv.b (Lv.a (Lv.b (A 58)))) (K58_pr cal k) X0 (doneK P results58)))
noncomputable def K58_prlrl (cal:Cal) (k:Nat):KR:=(cutK (Lv.a (Lv.b (Lv.a (Lv.b (A 58))))).c (codeE P cal (codeF P cal k) none 58 (cR (cL (cR (cL (cR code58))))) (Lv.b (Lv.a (Lv.b (Lv.a (Lv.b (A 58)))))) (K58_pr cal k) X0 (doneK P results58)))
noncomputable def K58_prr (cal:Cal) (k:Nat):KR:=(cutK (Lv.b (Lv.b (A 58))).c (codeE P cal (codeF P cal k) none 58 (cR (cR (cR code58))) (Lv.b (Lv.b (Lv.b (A 58)))) (doneK P results58) X0 (doneK P results58)))
noncomputable def K58_prrl (cal:Cal) (k:Nat):KR:=(cutK (Lv.a (Lv.b (Lv.b (A 58)))).c (codeE P cal (codeF P cal k) none 58 (cR (cL (cR (cR code58)))) (Lv.b (Lv.a (Lv.b (Lv.b (A 58))))) (K58_prr cal k) X0 (doneK P results58)))
noncomputable def K58_pxrrlr (cal:Cal) (k:Nat):XR:=(upX 0 (K58_prr cal k) X0)
noncomputable def K58_prrlrl (cal:Cal) (k:Nat) (m1:Nat):KR:=(fun T H n D=>codeF P cal m1 (Lv.a (Lv.b (Lv.a (Lv.b (Lv.b (A 58)))))) none 58 (cL (cR (cL (cR (cR code58))))) (K58_prr cal k) (K58_pxrrlr cal k) (doneK P results58) (cutT (Lv.a (Lv.b (Lv.a (Lv.b (Lv.b (A 58)))))).c T) H n D)
noncomputable def K58_prrlrll (cal:Cal) (k:Nat) (m1:Nat):KR:=(cutK (Lv.a (Lv.a (Lv.b (Lv.a (Lv.b (Lv.b (A 58))))))).c (codeE P cal (codeF P cal m1) none 58 (cR (cL (cL (cR (cL (cR (cR code58))))))) (Lv.b (Lv.a (Lv.a (Lv.b (Lv.a (Lv.b (Lv.b (A 58)))))))) (K58_prrlrl cal k m1) (K58_pxrrlr cal k) (doneK P results58)))
noncomputable def K58_prrlrlll (cal:Cal) (k:Nat) (m1:Nat):KR:=(cutK (Lv.a (Lv.a (Lv.a (Lv.b (Lv.a (Lv.b (Lv.b (A 58)))))))).c (codeE P cal (codeF P cal m1) none 58 (cR (cL (cL (cL (cR (cL (cR (cR code58)))))))) (Lv.b (Lv.a (Lv.a (Lv.a (Lv.b (Lv.a (Lv.b (Lv.b (A 58))))))))) (K58_prrlrll cal k m1) (K58_pxrrlr cal k) (doneK P results58)))
noncomputable def K58_prrlrllr (cal:Cal) (k:Nat) (m1:Nat):KR:=(cutK (Lv.b (Lv.a (Lv.a (Lv.b (Lv.a (Lv.b (Lv.b (A 58)))))))).c (codeE P cal (codeF P cal m1) none 58 (cR (cR (cL (cL (cR (cL (cR (cR code58)))))))) (Lv.b (Lv.b (Lv.a (Lv.a (Lv.b (Lv.a (Lv.b (Lv.b (A 58))))))))) (K58_prrlrl cal k m1) (K58_pxrrlr cal k) (doneK P results58)))
noncomputable def K58_pxrrlrllrl (cal:Cal) (k:Nat) (m1:Nat):XR:=(upX 1 (K58_prrlrllr cal k m1) (K58_pxrrlr cal k))
noncomputable def K58_prrlrllrll (cal:Cal) (k:Nat) (m1:Nat):KR:=(cutK (Lv.a (Lv.a (Lv.b (Lv.a (Lv.a (Lv.b (Lv.a (Lv.b (Lv.b (A 58)))))))))).c (codeE P cal (codeF P cal m1) none 58 (cR (cL (cL (cR (cL (cL (cR (cL (cR (cR code58)))))))))) (Lv.b (Lv.a (Lv.a (Lv.b (Lv.a (Lv.a (Lv.b (Lv.a (Lv.b (Lv.b (A 58))))))))))) (K58_prrlrllr cal k m1) (K58_pxrrlrllrl cal k m1) (doneK P results58)))
noncomputable def K58_prrlrllrllrl (cal:Cal) (k:Nat) (m1:Nat):KR:=(cutK (Lv.a (Lv.b (Lv.a (Lv.a (Lv.b (Lv.a (Lv.a (Lv.b (Lv.a (Lv.b (Lv.b (A 58)))))))))))).c (codeE P cal (codeF P cal m1) none 58 (cR (cL (cR (cL (cL (cR (cL (cL (cR (cL (cR (cR code58)))))))))))) (Lv.b (Lv.a (Lv.b (Lv.a (Lv.a (Lv.b (Lv.a (Lv.a (Lv.b (Lv.a (Lv.b (Lv.b (A 58))))))))))))) (K58_prrlrllr cal k m1) (K58_pxrrlrllrl cal k m1) (doneK P results58)))
noncomputable def K58_prrr (cal:Cal) (k:Nat):KR:=(cutK (Lv.b (Lv.b (Lv.b (A 58)))).c (codeE P cal (codeF P cal k) none 58 (cR (cR (cR (cR code58)))) (Lv.b (Lv.b (Lv.b (Lv.b (A 58))))) (doneK P results58) X0 (doneK P results58)))
noncomputable def E58_1 (cal:Cal) (k m1:Nat):KR:=codeE P cal (codeF P cal m1) none 58 (cL (cL (cR (cL (cR (cR code58)))))) (Lv.a (Lv.a (Lv.b (Lv.a (Lv.b (Lv.b (A 58))))))) (K58_prrlrl cal k m1) (K58_pxrrlr cal k) (doneK P results58)
noncomputable def R58_1 (cal:Cal) (k m1:Nat):V3:=fun u1 u2 u5 H n=>codeF P cal m1 (Lv.a (Lv.b (Lv.a (Lv.b (Lv.b (A 58)))))) none 58 (cL (cR (cL (cR (cR code58))))) (K58_prr cal k) (K58_pxrrlr cal k) (doneK P results58) (Tr.set (Tr.set (Tr.set Tr.nil 5 (some u5)) 2 (some u2)) 1 (some u1)) H n []
noncomputable def B58_1 (cal:Cal) (k m1:Nat) (b1:V3) (u1 u2 u5:Value) (H:Hp) (n:Nat):Res:=
bindO (lenV P 44 u1) fun v_g=>
binK P .lss 3 (.tmp 12) (.tmp 14) u5 v_g fun v_h=>
ifK v_h (
bindO (indexAddrV P 44 u1 u5) fun v_k=>
bindO (addrV v_k) fun a_l=>bindO (loadV P H 3 a_l) fun v_m=>
binK P .neq 3 (.tmp 21) (.const (.int .i64 (-1))) v_m (.int .i64 (-1)) fun v_n=>
guardD v_n true (fun k_p=>
k_p u1 .p H n) .p H n fun v_q x_r H_s n_t=>
guardD v_n true (fun k_v=>
k_v u5 .p H_s n_t) .p H_s n_t fun v_w x_x H_y n_z=>
guardD v_n true (fun k_11=>
bindO (indexAddrV P 44 v_q v_w) fun v_16=>
k_11 v_16 .p H_y n_z) .p H_y n_z fun v_12 x_13 H_14 n_15=>
guardD v_n true (fun k_17=>
bindO (addrV v_12) fun a_1c=>bindO (loadV P H_14 3 a_1c) fun v_1d=>
k_17 v_1d (.l 3 a_1c) H_14 n_15) .p H_14 n_15 fun v_18 x_19 H_1a n_1b=>
guardD v_n true (fun k_1e=>
bindO (fieldAddrV P 26 u2 2) fun v_1j=>
k_1e v_1j .p H_1a n_1b) .p H_1a n_1b fun v_1f x_1g H_1h n_1i=>
guardD v_n true (fun k_1k=>
bindO (addrV v_1f) fun a_1p=>bindO (loadV P H_1h 24 a_1p) fun v_1q=>
k_1k v_1q (.l 24 a_1p) H_1h n_1i) .p H_1h n_1i fun v_1l x_1m H_1n n_1o=>
guardD v_n true (fun k_1r=>
bindO (lenV P 24 v_1l) fun v_1w=>
k_1r v_1w .p H_1n n_1o) .p H_1n n_1o fun v_1s x_1t H_1u n_1v=>
guardD v_n true (fun k_1x=>
binK P .sub 3 (.tmp 30) (.const (.int .i64 1)) v_1s (.int .i64 1) fun v_22=>
k_1x v_22 .p H_1u n_1v) .p H_1u n_1v fun v_1y x_1z H_20 n_21=>
guardD v_n true (fun k_23=>
callFK P cal 32 [v_18,(.int .i64 0),v_1y] H_20 n_21 fun v_28 H_29 n_2a=>
k_23 v_28 .e H_29 n_2a) .e H_20 n_21 fun v_24 x_25 H_26 n_27=>
guardD v_n true (fun k_2b=>
bindO (pureSem P v_24 (Op.unary UnOp.not v_24)) fun v_2g=>
k_2b v_2g .p H_26 n_27) .p H_26 n_27 fun v_2c x_2d H_2e n_2f=>
guardD v_n true (fun k_2h=>
k_2h v_2c .p H_2e n_2f) .p H_2e n_2f fun v_2i x_2j H_2k n_2l=>
guardD v_2i false (fun k_2n=>
bindO (addrV u2) fun a_2s=>bindO (loadV P H_2k 26 a_2s) fun v_2t=>
k_2n v_2t (.l 26 a_2s) H_2k n_2l) .p H_2k n_2l fun v_2o x_2p H_2q n_2r=>
guardD v_2i false (fun k_2u=>
k_2u u1 .p H_2q n_2r) .p H_2q n_2r fun v_2v x_2w H_2x n_2y=>
guardD v_2i false (fun k_30=>
k_30 u5 .p H_2x n_2y) .p H_2x n_2y fun v_31 x_32 H_33 n_34=>
guardD v_2i false (fun k_36=>
bindO (indexAddrV P 44 v_2v v_31) fun v_3b=>
k_36 v_3b .p H_33 n_34) .p H_33 n_34 fun v_37 x_38 H_39 n_3a=>
guardD v_2i false (fun k_3c=>
bindO (addrV v_37) fun a_3h=>bindO (loadV P H_39 3 a_3h) fun v_3i=>
k_3c v_3i (.l 3 a_3h) H_39 n_3a) .p H_39 n_3a fun v_3d x_3e H_3f n_3g=>
guardD v_2i false (fun k_3j=>
k_3j u5 .p H_3f n_3g) .p H_3f n_3g fun v_3k x_3l H_3m n_3n=>
guardD v_2i false (fun k_3p=>
callFK P cal 21 [v_2o,v_3d,v_3k] H_3m n_3n fun v_3u H_3v n_3w=>
k_3p v_3u .e H_3v n_3w) .e H_3m n_3n fun v_3q x_3r H_3s n_3t=>
guardD v_2i false (fun k_3x=>
bindO (pureSem P v_3q (Op.unary UnOp.not v_3q)) fun v_42=>
k_3x v_42 .p H_3s n_3t) .p H_3s n_3t fun v_3y x_3z H_40 n_41=>
guardD v_n true (fun k_43=>
bindO (pickV v_2i (.bool true) v_3y) fun v_48=>
k_43 v_48 .p H_40 n_41) .p H_40 n_41 fun v_44 x_45 H_46 n_47=>
bindO (pickV v_n v_44 (.bool false)) fun v_49=>
ifK v_49 (
some ((.bool false),H_46,n_47)) (
binK P .add 3 (.tmp 16) (.const (.int .i64 1)) u5 (.int .i64 1) fun v_4c=>
b1 u1 u2 v_4c H_46 n_47)) (
some ((.bool true),H,n))
noncomputable def C58_1 (cal:Cal) (k m1:Nat) (b1:V3) (u1 u2 u5:Value) (H:Hp) (n:Nat):Res:=B58_1 cal k m1 b1 u1 u2 u5 H n
noncomputable def S58_1 (cal:Cal) (k:Nat):Nat→V3:=fun m=>Nat.rec (motive:=fun _=>V3) (C58_1 cal k 0 (fun _ _ _ _ _=>none)) (fun m ih=>C58_1 cal k (m+1) ih) m
theorem h58_1 (cal:Cal) (k m1:Nat) (u1 u2 u5:Value) (H:Hp) (n:Nat):labK (E58_1 cal k m1) (Tr.set (Tr.set (Tr.set Tr.nil 5 (some u5)) 2 (some u2)) 1 (some u1)) H n []=C58_1 cal k m1 (R58_1 cal k m1) u1 u2 u5 H n:=by
  refine Eq.trans (b:=B58_1 cal k m1 (R58_1 cal k m1) u1 u2 u5 H n) (by kernel_rfl) ?_
  rw[C58_1]
theorem q58_1 (cal:Cal) (k:Nat):∀(m:Nat) (u1 u2 u5:Value) (H:Hp) (n:Nat),labK (E58_1 cal k m) (Tr.set (Tr.set (Tr.set Tr.nil 5 (some u5)) 2 (some u2)) 1 (some u1)) H n []=S58_1 cal k m u1 u2 u5 H n
  | 0,u1,u2,u5,H,n=>by
    rw[h58_1]
    have e:R58_1 cal k 0=fun _ _ _ _ _=>none:=by funext u1 u2 u5 H n; kernel_rfl
    rw[e]; rfl
  | m+1,u1,u2,u5,H,n=>by
    rw[h58_1]
    have e:R58_1 cal k (m+1)=S58_1 cal k m:=by
      funext u1 u2 u5 H n
      have e:R58_1 cal k (m+1) u1 u2 u5 H n=labK (E58_1 cal k m) (Tr.set (Tr.set (Tr.set Tr.nil 5 (some u5)) 2 (some u2)) 1 (some u1)) H n []:=by kernel_rfl
      rw[e]; exact q58_1 ..
    rw[e]; rfl
noncomputable def B58_0 (cal:Cal) (k:Nat) (j1:V3) (v0 v1:Value) (H:Hp) (n:Nat):Res:=
boxK 26 v0 H n fun v_1 H_2 n_3=>
bindO (lenV P 44 v1) fun v_6=>
bindO (fieldAddrV P 26 v_1 0) fun v_7=>
bindO (addrV v_7) fun a_9=>bindO (loadV P H_2 22 a_9) fun v_8=>
bindO (lenV P 22 v_8) fun v_a=>
binK P .neq 3 (.tmp 7) (.tmp 10) v_6 v_a fun v_b=>
ifK v_b (
some ((.bool false),H_2,n_3)) (
j1 v1 v_1 (.int .i64 0) H_2 n_3)
noncomputable def C58_0 (cal:Cal) (k:Nat) (v0 v1:Value) (H:Hp) (n:Nat):Res:=B58_0 cal k (S58_1 cal k k) v0 v1 H n
theorem h58_0 (cal:Cal) (k:Nat) (v0 v1:Value) (H:Hp) (n:Nat):bodyE P cal A (k+1) 58 [v0,v1] H n=C58_0 cal k v0 v1 H n:=by
  have h:bodyE P cal A (k+1) 58 [v0,v1] H n=B58_0 cal k (fun u1 u2 u5 H n=>labK (E58_1 cal k k) (Tr.set (Tr.set (Tr.set Tr.nil 5 (some u5)) 2 (some u2)) 1 (some u1)) H n []) v0 v1 H n:=by
    rw[body_eq (fn:=Go.Proofs.Try.f58) (c:=code58) (rs:=results58) (by kernel_rfl) (by kernel_rfl) (by kernel_rfl) (by kernel_rfl)]
    kernel_rfl
  rw[h,C58_0]
  have e1:(fun u1 u2 u5 H n=>labK (E58_1 cal k k) (Tr.set (Tr.set (Tr.set Tr.nil 5 (some u5)) 2 (some u2)) 1 (some u1)) H n [])=(S58_1 cal k k):=by funext u1 u2 u5 H n; exact q58_1 ..
  rw[e1]
end Go.Proofs.Ytmpnblcfpdnlmaa.G
