/- The texts of functions, each with the proof that the evaluator says the same. -/
import Derived.Test.YtekajfobmnedjaaH1
open Go Go.Ev
set_option maxRecDepth 1000000
set_option linter.unusedVariables false
noncomputable section
namespace Go.Proofs.Ytekajfobmnedjaa.G
noncomputable def fJ:Code:=cV 33
noncomputable def cq:List ResultVar:=dW 33
noncomputable def K33_p (cal:Cal) (k:Nat):KR:=(cutK (A 33).c (ay P cal (aw P cal k) none 33 (cR fJ) (Lv.b (A 33)) (av P cq) X0 (av P cq)))
noncomputable def K33_pr (cal:Cal) (k:Nat):KR:=(cutK (Lv.b (A 33)).c (ay P cal (aw P cal k) none 33 (cR (cR fJ)) (Lv.b (Lv.b (A 33))) (av P cq) X0 (av P cq)))
noncomputable def K33_prl (cal:Cal) (k:Nat):KR:=(cutK (Lv.a (Lv.b (A 33))).c (ay P cal (aw P cal k) none 33 (cR (cL (cR fJ))) (Lv.b (Lv.a (Lv.b (A 33)))) (K33_pr cal k) X0 (av P cq)))
noncomputable def K33_prlrl (cal:Cal) (k:Nat):KR:=(cutK (Lv.a (Lv.b (Lv.a (Lv.b (A 33))))).c (ay P cal (aw P cal k) none 33 (cR (cL (cR (cL (cR fJ))))) (Lv.b (Lv.a (Lv.b (Lv.a (Lv.b (A 33)))))) (K33_pr cal k) X0 (av P cq)))
noncomputable def Xj (cal:Cal) (k:Nat):KR:=(cutK (Lv.b (Lv.b (A 33))).c (ay P cal (aw P cal k) none 33 (cR (cR (cR fJ))) (Lv.b (Lv.b (Lv.b (A 33)))) (av P cq) X0 (av P cq)))
noncomputable def K33_prrl (cal:Cal) (k:Nat):KR:=(cutK (Lv.a (Lv.b (Lv.b (A 33)))).c (ay P cal (aw P cal k) none 33 (cR (cL (cR (cR fJ)))) (Lv.b (Lv.a (Lv.b (Lv.b (A 33))))) (Xj cal k) X0 (av P cq)))
noncomputable def rZ (cal:Cal) (k:Nat):XR:=(upX 0 (Xj cal k) X0)
noncomputable def Ik (cal:Cal) (k:Nat) (m1:Nat):KR:=(fun T H n D=>aw P cal m1 (Lv.a (Lv.b (Lv.a (Lv.b (Lv.b (A 33)))))) none 33 (cL (cR (cL (cR (cR fJ))))) (Xj cal k) (rZ cal k) (av P cq) (cutT (Lv.a (Lv.b (Lv.a (Lv.b (Lv.b (A 33)))))).c T) H n D)
noncomputable def K33_prrlrll (cal:Cal) (k:Nat) (m1:Nat):KR:=(cutK (Lv.a (Lv.a (Lv.b (Lv.a (Lv.b (Lv.b (A 33))))))).c (ay P cal (aw P cal m1) none 33 (cR (cL (cL (cR (cL (cR (cR fJ))))))) (Lv.b (Lv.a (Lv.a (Lv.b (Lv.a (Lv.b (Lv.b (A 33)))))))) (Ik cal k m1) (rZ cal k) (av P cq)))
noncomputable def K33_prrlrlll (cal:Cal) (k:Nat) (m1:Nat):KR:=(cutK (Lv.a (Lv.a (Lv.a (Lv.b (Lv.a (Lv.b (Lv.b (A 33)))))))).c (ay P cal (aw P cal m1) none 33 (cR (cL (cL (cL (cR (cL (cR (cR fJ)))))))) (Lv.b (Lv.a (Lv.a (Lv.a (Lv.b (Lv.a (Lv.b (Lv.b (A 33))))))))) (K33_prrlrll cal k m1) (rZ cal k) (av P cq)))
noncomputable def pV (cal:Cal) (k:Nat) (m1:Nat):KR:=(cutK (Lv.b (Lv.a (Lv.a (Lv.b (Lv.a (Lv.b (Lv.b (A 33)))))))).c (ay P cal (aw P cal m1) none 33 (cR (cR (cL (cL (cR (cL (cR (cR fJ)))))))) (Lv.b (Lv.b (Lv.a (Lv.a (Lv.b (Lv.a (Lv.b (Lv.b (A 33))))))))) (Ik cal k m1) (rZ cal k) (av P cq)))
noncomputable def eV (cal:Cal) (k:Nat) (m1:Nat):XR:=(upX 1 (pV cal k m1) (rZ cal k))
noncomputable def K33_prrlrllrll (cal:Cal) (k:Nat) (m1:Nat):KR:=(cutK (Lv.a (Lv.a (Lv.b (Lv.a (Lv.a (Lv.b (Lv.a (Lv.b (Lv.b (A 33)))))))))).c (ay P cal (aw P cal m1) none 33 (cR (cL (cL (cR (cL (cL (cR (cL (cR (cR fJ)))))))))) (Lv.b (Lv.a (Lv.a (Lv.b (Lv.a (Lv.a (Lv.b (Lv.a (Lv.b (Lv.b (A 33))))))))))) (pV cal k m1) (eV cal k m1) (av P cq)))
noncomputable def K33_prrlrllrlll (cal:Cal) (k:Nat) (m1:Nat):KR:=(cutK (Lv.a (Lv.a (Lv.a (Lv.b (Lv.a (Lv.a (Lv.b (Lv.a (Lv.b (Lv.b (A 33))))))))))).c (ay P cal (aw P cal m1) none 33 (cR (cL (cL (cL (cR (cL (cL (cR (cL (cR (cR fJ))))))))))) (Lv.b (Lv.a (Lv.a (Lv.a (Lv.b (Lv.a (Lv.a (Lv.b (Lv.a (Lv.b (Lv.b (A 33)))))))))))) (K33_prrlrllrll cal k m1) (eV cal k m1) (av P cq)))
noncomputable def K33_prrlrllrlllrl (cal:Cal) (k:Nat) (m1:Nat):KR:=(cutK (Lv.a (Lv.b (Lv.a (Lv.a (Lv.a (Lv.b (Lv.a (Lv.a (Lv.b (Lv.a (Lv.b (Lv.b (A 33))))))))))))).c (ay P cal (aw P cal m1) none 33 (cR (cL (cR (cL (cL (cL (cR (cL (cL (cR (cL (cR (cR fJ))))))))))))) (Lv.b (Lv.a (Lv.b (Lv.a (Lv.a (Lv.a (Lv.b (Lv.a (Lv.a (Lv.b (Lv.a (Lv.b (Lv.b (A 33)))))))))))))) (K33_prrlrllrll cal k m1) (eV cal k m1) (av P cq)))
noncomputable def K33_prrlrllrlllrll (cal:Cal) (k:Nat) (m1:Nat):KR:=(cutK (Lv.a (Lv.a (Lv.b (Lv.a (Lv.a (Lv.a (Lv.b (Lv.a (Lv.a (Lv.b (Lv.a (Lv.b (Lv.b (A 33)))))))))))))).c (ay P cal (aw P cal m1) none 33 (cR (cL (cL (cR (cL (cL (cL (cR (cL (cL (cR (cL (cR (cR fJ)))))))))))))) (Lv.b (Lv.a (Lv.a (Lv.b (Lv.a (Lv.a (Lv.a (Lv.b (Lv.a (Lv.a (Lv.b (Lv.a (Lv.b (Lv.b (A 33))))))))))))))) (K33_prrlrllrlllrl cal k m1) (eV cal k m1) (av P cq)))
noncomputable def K33_prrlrllrlllrllrl (cal:Cal) (k:Nat) (m1:Nat):KR:=(cutK (Lv.a (Lv.b (Lv.a (Lv.a (Lv.b (Lv.a (Lv.a (Lv.a (Lv.b (Lv.a (Lv.a (Lv.b (Lv.a (Lv.b (Lv.b (A 33)))))))))))))))).c (ay P cal (aw P cal m1) none 33 (cR (cL (cR (cL (cL (cR (cL (cL (cL (cR (cL (cL (cR (cL (cR (cR fJ)))))))))))))))) (Lv.b (Lv.a (Lv.b (Lv.a (Lv.a (Lv.b (Lv.a (Lv.a (Lv.a (Lv.b (Lv.a (Lv.a (Lv.b (Lv.a (Lv.b (Lv.b (A 33))))))))))))))))) (K33_prrlrllrlllrl cal k m1) (eV cal k m1) (av P cq)))
noncomputable def K33_prrlrllrllr (cal:Cal) (k:Nat) (m1:Nat):KR:=(cutK (Lv.b (Lv.a (Lv.a (Lv.b (Lv.a (Lv.a (Lv.b (Lv.a (Lv.b (Lv.b (A 33))))))))))).c (ay P cal (aw P cal m1) none 33 (cR (cR (cL (cL (cR (cL (cL (cR (cL (cR (cR fJ))))))))))) (Lv.b (Lv.b (Lv.a (Lv.a (Lv.b (Lv.a (Lv.a (Lv.b (Lv.a (Lv.b (Lv.b (A 33)))))))))))) (pV cal k m1) (eV cal k m1) (av P cq)))
noncomputable def K33_prrlrllrllrl (cal:Cal) (k:Nat) (m1:Nat):KR:=(cutK (Lv.a (Lv.b (Lv.a (Lv.a (Lv.b (Lv.a (Lv.a (Lv.b (Lv.a (Lv.b (Lv.b (A 33)))))))))))).c (ay P cal (aw P cal m1) none 33 (cR (cL (cR (cL (cL (cR (cL (cL (cR (cL (cR (cR fJ)))))))))))) (Lv.b (Lv.a (Lv.b (Lv.a (Lv.a (Lv.b (Lv.a (Lv.a (Lv.b (Lv.a (Lv.b (Lv.b (A 33))))))))))))) (K33_prrlrllrllr cal k m1) (eV cal k m1) (av P cq)))
noncomputable def K33_prrlrllrllrlrl (cal:Cal) (k:Nat) (m1:Nat):KR:=(cutK (Lv.a (Lv.b (Lv.a (Lv.b (Lv.a (Lv.a (Lv.b (Lv.a (Lv.a (Lv.b (Lv.a (Lv.b (Lv.b (A 33)))))))))))))).c (ay P cal (aw P cal m1) none 33 (cR (cL (cR (cL (cR (cL (cL (cR (cL (cL (cR (cL (cR (cR fJ)))))))))))))) (Lv.b (Lv.a (Lv.b (Lv.a (Lv.b (Lv.a (Lv.a (Lv.b (Lv.a (Lv.a (Lv.b (Lv.a (Lv.b (Lv.b (A 33))))))))))))))) (K33_prrlrllrllr cal k m1) (eV cal k m1) (av P cq)))
noncomputable def K33_prrlrllrllrr (cal:Cal) (k:Nat) (m1:Nat):KR:=(cutK (Lv.b (Lv.b (Lv.a (Lv.a (Lv.b (Lv.a (Lv.a (Lv.b (Lv.a (Lv.b (Lv.b (A 33)))))))))))).c (ay P cal (aw P cal m1) none 33 (cR (cR (cR (cL (cL (cR (cL (cL (cR (cL (cR (cR fJ)))))))))))) (Lv.b (Lv.b (Lv.b (Lv.a (Lv.a (Lv.b (Lv.a (Lv.a (Lv.b (Lv.a (Lv.b (Lv.b (A 33))))))))))))) (pV cal k m1) (eV cal k m1) (av P cq)))
noncomputable def qZ (cal:Cal) (k:Nat) (m1:Nat):KR:=(cutK (Lv.b (Lv.b (Lv.b (Lv.a (Lv.a (Lv.b (Lv.a (Lv.a (Lv.b (Lv.a (Lv.b (Lv.b (A 33))))))))))))).c (ay P cal (aw P cal m1) none 33 (cR (cR (cR (cR (cL (cL (cR (cL (cL (cR (cL (cR (cR fJ))))))))))))) (Lv.b (Lv.b (Lv.b (Lv.b (Lv.a (Lv.a (Lv.b (Lv.a (Lv.a (Lv.b (Lv.a (Lv.b (Lv.b (A 33)))))))))))))) (pV cal k m1) (eV cal k m1) (av P cq)))
noncomputable def K33_prrlrllrllrrrl (cal:Cal) (k:Nat) (m1:Nat):KR:=(cutK (Lv.a (Lv.b (Lv.b (Lv.b (Lv.a (Lv.a (Lv.b (Lv.a (Lv.a (Lv.b (Lv.a (Lv.b (Lv.b (A 33)))))))))))))).c (ay P cal (aw P cal m1) none 33 (cR (cL (cR (cR (cR (cL (cL (cR (cL (cL (cR (cL (cR (cR fJ)))))))))))))) (Lv.b (Lv.a (Lv.b (Lv.b (Lv.b (Lv.a (Lv.a (Lv.b (Lv.a (Lv.a (Lv.b (Lv.a (Lv.b (Lv.b (A 33))))))))))))))) (qZ cal k m1) (eV cal k m1) (av P cq)))
noncomputable def ij (cal:Cal) (k:Nat) (m1:Nat):XR:=(upX 2 (qZ cal k m1) (eV cal k m1))
noncomputable def rK (cal:Cal) (k:Nat) (m1:Nat) (m2:Nat):KR:=(fun T H n D=>aw P cal m2 (Lv.a (Lv.b (Lv.a (Lv.b (Lv.b (Lv.b (Lv.a (Lv.a (Lv.b (Lv.a (Lv.a (Lv.b (Lv.a (Lv.b (Lv.b (A 33)))))))))))))))) none 33 (cL (cR (cL (cR (cR (cR (cL (cL (cR (cL (cL (cR (cL (cR (cR fJ))))))))))))))) (qZ cal k m1) (ij cal k m1) (av P cq) (cutT (Lv.a (Lv.b (Lv.a (Lv.b (Lv.b (Lv.b (Lv.a (Lv.a (Lv.b (Lv.a (Lv.a (Lv.b (Lv.a (Lv.b (Lv.b (A 33)))))))))))))))).c T) H n D)
noncomputable def K33_prrlrllrllrrrlrll (cal:Cal) (k:Nat) (m1:Nat) (m2:Nat):KR:=(cutK (Lv.a (Lv.a (Lv.b (Lv.a (Lv.b (Lv.b (Lv.b (Lv.a (Lv.a (Lv.b (Lv.a (Lv.a (Lv.b (Lv.a (Lv.b (Lv.b (A 33))))))))))))))))).c (ay P cal (aw P cal m2) none 33 (cR (cL (cL (cR (cL (cR (cR (cR (cL (cL (cR (cL (cL (cR (cL (cR (cR fJ))))))))))))))))) (Lv.b (Lv.a (Lv.a (Lv.b (Lv.a (Lv.b (Lv.b (Lv.b (Lv.a (Lv.a (Lv.b (Lv.a (Lv.a (Lv.b (Lv.a (Lv.b (Lv.b (A 33)))))))))))))))))) (rK cal k m1 m2) (ij cal k m1) (av P cq)))
noncomputable def K33_prrlrllrllrrrlrlll (cal:Cal) (k:Nat) (m1:Nat) (m2:Nat):KR:=(cutK (Lv.a (Lv.a (Lv.a (Lv.b (Lv.a (Lv.b (Lv.b (Lv.b (Lv.a (Lv.a (Lv.b (Lv.a (Lv.a (Lv.b (Lv.a (Lv.b (Lv.b (A 33)))))))))))))))))).c (ay P cal (aw P cal m2) none 33 (cR (cL (cL (cL (cR (cL (cR (cR (cR (cL (cL (cR (cL (cL (cR (cL (cR (cR fJ)))))))))))))))))) (Lv.b (Lv.a (Lv.a (Lv.a (Lv.b (Lv.a (Lv.b (Lv.b (Lv.b (Lv.a (Lv.a (Lv.b (Lv.a (Lv.a (Lv.b (Lv.a (Lv.b (Lv.b (A 33))))))))))))))))))) (K33_prrlrllrllrrrlrll cal k m1 m2) (ij cal k m1) (av P cq)))
noncomputable def pW (cal:Cal) (k:Nat) (m1:Nat) (m2:Nat):KR:=(cutK (Lv.b (Lv.a (Lv.a (Lv.b (Lv.a (Lv.b (Lv.b (Lv.b (Lv.a (Lv.a (Lv.b (Lv.a (Lv.a (Lv.b (Lv.a (Lv.b (Lv.b (A 33)))))))))))))))))).c (ay P cal (aw P cal m2) none 33 (cR (cR (cL (cL (cR (cL (cR (cR (cR (cL (cL (cR (cL (cL (cR (cL (cR (cR fJ)))))))))))))))))) (Lv.b (Lv.b (Lv.a (Lv.a (Lv.b (Lv.a (Lv.b (Lv.b (Lv.b (Lv.a (Lv.a (Lv.b (Lv.a (Lv.a (Lv.b (Lv.a (Lv.b (Lv.b (A 33))))))))))))))))))) (rK cal k m1 m2) (ij cal k m1) (av P cq)))
noncomputable def kX (cal:Cal) (k:Nat) (m1:Nat) (m2:Nat):XR:=(upX 3 (pW cal k m1 m2) (ij cal k m1))
noncomputable def K33_prrlrllrllrrrlrllrll (cal:Cal) (k:Nat) (m1:Nat) (m2:Nat):KR:=(cutK (Lv.a (Lv.a (Lv.b (Lv.a (Lv.a (Lv.b (Lv.a (Lv.b (Lv.b (Lv.b (Lv.a (Lv.a (Lv.b (Lv.a (Lv.a (Lv.b (Lv.a (Lv.b (Lv.b (A 33)))))))))))))))))))).c (ay P cal (aw P cal m2) none 33 (cR (cL (cL (cR (cL (cL (cR (cL (cR (cR (cR (cL (cL (cR (cL (cL (cR (cL (cR (cR fJ)))))))))))))))))))) (Lv.b (Lv.a (Lv.a (Lv.b (Lv.a (Lv.a (Lv.b (Lv.a (Lv.b (Lv.b (Lv.b (Lv.a (Lv.a (Lv.b (Lv.a (Lv.a (Lv.b (Lv.a (Lv.b (Lv.b (A 33))))))))))))))))))))) (pW cal k m1 m2) (kX cal k m1 m2) (av P cq)))
noncomputable def K33_prrlrllrllrrrlrllrllr (cal:Cal) (k:Nat) (m1:Nat) (m2:Nat):KR:=(cutK (Lv.b (Lv.a (Lv.a (Lv.b (Lv.a (Lv.a (Lv.b (Lv.a (Lv.b (Lv.b (Lv.b (Lv.a (Lv.a (Lv.b (Lv.a (Lv.a (Lv.b (Lv.a (Lv.b (Lv.b (A 33))))))))))))))))))))).c (ay P cal (aw P cal m2) none 33 (cR (cR (cL (cL (cR (cL (cL (cR (cL (cR (cR (cR (cL (cL (cR (cL (cL (cR (cL (cR (cR fJ))))))))))))))))))))) (Lv.b (Lv.b (Lv.a (Lv.a (Lv.b (Lv.a (Lv.a (Lv.b (Lv.a (Lv.b (Lv.b (Lv.b (Lv.a (Lv.a (Lv.b (Lv.a (Lv.a (Lv.b (Lv.a (Lv.b (Lv.b (A 33)))))))))))))))))))))) (pW cal k m1 m2) (kX cal k m1 m2) (av P cq)))
noncomputable def K33_prrlrllrllrrrlrllrllrl (cal:Cal) (k:Nat) (m1:Nat) (m2:Nat):KR:=(cutK (Lv.a (Lv.b (Lv.a (Lv.a (Lv.b (Lv.a (Lv.a (Lv.b (Lv.a (Lv.b (Lv.b (Lv.b (Lv.a (Lv.a (Lv.b (Lv.a (Lv.a (Lv.b (Lv.a (Lv.b (Lv.b (A 33)))))))))))))))))))))).c (ay P cal (aw P cal m2) none 33 (cR (cL (cR (cL (cL (cR (cL (cL (cR (cL (cR (cR (cR (cL (cL (cR (cL (cL (cR (cL (cR (cR fJ)))))))))))))))))))))) (Lv.b (Lv.a (Lv.b (Lv.a (Lv.a (Lv.b (Lv.a (Lv.a (Lv.b (Lv.a (Lv.b (Lv.b (Lv.b (Lv.a (Lv.a (Lv.b (Lv.a (Lv.a (Lv.b (Lv.a (Lv.b (Lv.b (A 33))))))))))))))))))))))) (K33_prrlrllrllrrrlrllrllr cal k m1 m2) (kX cal k m1 m2) (av P cq)))
noncomputable def K33_prrlrllrllrrrlrllrllrlrl (cal:Cal) (k:Nat) (m1:Nat) (m2:Nat):KR:=(cutK (Lv.a (Lv.b (Lv.a (Lv.b (Lv.a (Lv.a (Lv.b (Lv.a (Lv.a (Lv.b (Lv.a (Lv.b (Lv.b (Lv.b (Lv.a (Lv.a (Lv.b (Lv.a (Lv.a (Lv.b (Lv.a (Lv.b (Lv.b (A 33)))))))))))))))))))))))).c (ay P cal (aw P cal m2) none 33 (cR (cL (cR (cL (cR (cL (cL (cR (cL (cL (cR (cL (cR (cR (cR (cL (cL (cR (cL (cL (cR (cL (cR (cR fJ)))))))))))))))))))))))) (Lv.b (Lv.a (Lv.b (Lv.a (Lv.b (Lv.a (Lv.a (Lv.b (Lv.a (Lv.a (Lv.b (Lv.a (Lv.b (Lv.b (Lv.b (Lv.a (Lv.a (Lv.b (Lv.a (Lv.a (Lv.b (Lv.a (Lv.b (Lv.b (A 33))))))))))))))))))))))))) (K33_prrlrllrllrrrlrllrllr cal k m1 m2) (kX cal k m1 m2) (av P cq)))
noncomputable def K33_prrlrllrllrrrr (cal:Cal) (k:Nat) (m1:Nat):KR:=(cutK (Lv.b (Lv.b (Lv.b (Lv.b (Lv.a (Lv.a (Lv.b (Lv.a (Lv.a (Lv.b (Lv.a (Lv.b (Lv.b (A 33)))))))))))))).c (ay P cal (aw P cal m1) none 33 (cR (cR (cR (cR (cR (cL (cL (cR (cL (cL (cR (cL (cR (cR fJ)))))))))))))) (Lv.b (Lv.b (Lv.b (Lv.b (Lv.b (Lv.a (Lv.a (Lv.b (Lv.a (Lv.a (Lv.b (Lv.a (Lv.b (Lv.b (A 33))))))))))))))) (pV cal k m1) (eV cal k m1) (av P cq)))
noncomputable def K33_prrlrllrllrrrrrl (cal:Cal) (k:Nat) (m1:Nat):KR:=(cutK (Lv.a (Lv.b (Lv.b (Lv.b (Lv.b (Lv.b (Lv.a (Lv.a (Lv.b (Lv.a (Lv.a (Lv.b (Lv.a (Lv.b (Lv.b (A 33)))))))))))))))).c (ay P cal (aw P cal m1) none 33 (cR (cL (cR (cR (cR (cR (cR (cL (cL (cR (cL (cL (cR (cL (cR (cR fJ)))))))))))))))) (Lv.b (Lv.a (Lv.b (Lv.b (Lv.b (Lv.b (Lv.b (Lv.a (Lv.a (Lv.b (Lv.a (Lv.a (Lv.b (Lv.a (Lv.b (Lv.b (A 33))))))))))))))))) (pV cal k m1) (eV cal k m1) (av P cq)))
noncomputable def K33_prrr (cal:Cal) (k:Nat):KR:=(cutK (Lv.b (Lv.b (Lv.b (A 33)))).c (ay P cal (aw P cal k) none 33 (cR (cR (cR (cR fJ)))) (Lv.b (Lv.b (Lv.b (Lv.b (A 33))))) (av P cq) X0 (av P cq)))
noncomputable def E33_2 (cal:Cal) (k m1:Nat):KR:=ay P cal (aw P cal m1) none 33 (cR (cR (cL (cL (cR (cL (cR (cR fJ)))))))) (Lv.b (Lv.b (Lv.a (Lv.a (Lv.b (Lv.a (Lv.b (Lv.b (A 33))))))))) (Ik cal k m1) (rZ cal k) (av P cq)
noncomputable def E33_3 (cal:Cal) (k m1 m2:Nat):KR:=ay P cal (aw P cal m2) none 33 (cL (cL (cR (cL (cR (cR (cR (cL (cL (cR (cL (cL (cR (cL (cR (cR fJ)))))))))))))))) (Lv.a (Lv.a (Lv.b (Lv.a (Lv.b (Lv.b (Lv.b (Lv.a (Lv.a (Lv.b (Lv.a (Lv.a (Lv.b (Lv.a (Lv.b (Lv.b (A 33))))))))))))))))) (rK cal k m1 m2) (ij cal k m1) (av P cq)
noncomputable def R33_3 (cal:Cal) (k m1 m2:Nat):V6:=fun u1 u2 u3 u7 u8 u9 H n=>aw P cal m2 (Lv.a (Lv.b (Lv.a (Lv.b (Lv.b (Lv.b (Lv.a (Lv.a (Lv.b (Lv.a (Lv.a (Lv.b (Lv.a (Lv.b (Lv.b (A 33)))))))))))))))) none 33 (cL (cR (cL (cR (cR (cR (cL (cL (cR (cL (cL (cR (cL (cR (cR fJ))))))))))))))) (qZ cal k m1) (ij cal k m1) (av P cq) (Tr.set (Tr.set (Tr.set (Tr.set (Tr.set (Tr.set Tr.nil 9 (some u9)) 8 (some u8)) 7 (some u7)) 3 (some u3)) 2 (some u2)) 1 (some u1)) H n []
noncomputable def E33_1 (cal:Cal) (k m1:Nat):KR:=ay P cal (aw P cal m1) none 33 (cL (cL (cR (cL (cR (cR fJ)))))) (Lv.a (Lv.a (Lv.b (Lv.a (Lv.b (Lv.b (A 33))))))) (Ik cal k m1) (rZ cal k) (av P cq)
noncomputable def DW (cal:Cal) (k m1:Nat):V4:=fun u1 u2 u3 u7 H n=>aw P cal m1 (Lv.a (Lv.b (Lv.a (Lv.b (Lv.b (A 33)))))) none 33 (cL (cR (cL (cR (cR fJ))))) (Xj cal k) (rZ cal k) (av P cq) (Tr.set (Tr.set (Tr.set (Tr.set Tr.nil 7 (some u7)) 3 (some u3)) 2 (some u2)) 1 (some u1)) H n []
noncomputable def B33_2 (cal:Cal) (k m1:Nat) (b1:V4) (u1 u2 u3 u7:Value) (H:Hp) (n:Nat):Res:=
binK P .add 3 (.tmp 20) (.const (.int .i64 1)) u7 (.int .i64 1) fun v_h=>
b1 u1 u2 u3 v_h H n
noncomputable def Vz (cal:Cal) (k m1:Nat) (b1:V4) (u1 u2 u3 u7:Value) (H:Hp) (n:Nat):Res:=B33_2 cal k m1 b1 u1 u2 u3 u7 H n
theorem h33_2 (cal:Cal) (k m1:Nat) (u1 u2 u3 u7:Value) (H:Hp) (n:Nat):labK (E33_2 cal k m1) (Tr.set (Tr.set (Tr.set (Tr.set Tr.nil 7 (some u7)) 3 (some u3)) 2 (some u2)) 1 (some u1)) H n []=Vz cal k m1 (DW cal k m1) u1 u2 u3 u7 H n:=by
  refine Eq.trans (b:=B33_2 cal k m1 (DW cal k m1) u1 u2 u3 u7 H n) (by kernel_rfl) ?_
  rw[Vz]
noncomputable def B33_3 (cal:Cal) (k m1 m2:Nat) (j2:V4) (b1:V4) (b3:V6) (u1 u2 u3 u7 u8 u9:Value) (H:Hp) (n:Nat):Res:=
aq (lenV P 44 u1) fun v_1b=>
binK P .lss 3 (.tmp 41) (.tmp 43) u9 v_1b fun v_1c=>
ifK v_1c (
aq (aW u3) fun a_1d=>aq (az P H 26 a_1d) fun v_1e=>
aq (aQ P 44 u1 u7) fun v_1h=>
aq (aW v_1h) fun a_1i=>aq (az P H 3 a_1i) fun v_1j=>
aq (jX P 55) fun z_1o=>newK (bj z_1o) 55 H n fun H_1m n_1n=>
effK P [(.a n (bj z_1o) 55)] H_1m n_1n (fun H_1p n_1q k_1r=>
aY P cal 77 [v_1e,v_1j,u7,u9] H_1p n_1q fun v_1v H_1w n_1x=>
k_1r v_1v H_1w n_1x) fun v_1s H_1t n_1u=>
aq (bJ P 55 (ptr n) v_1s H_1t) fun H_1z=>
aq (aQ P 59 u2 u7) fun v_22=>
aq (aW v_22) fun a_23=>aq (az P H_1z 44 a_23) fun v_24=>
aq (aQ P 44 v_24 u9) fun v_26=>
aq (aW v_26) fun a_27=>aq (az P H_1z 3 a_27) fun v_28=>
aq (ax P 55 (ptr n) 0) fun v_29=>
aq (aW v_29) fun a_2a=>aq (az P H_1z 3 a_2a) fun v_2b=>
aq (ax P 55 (ptr n) 1) fun v_2c=>
aq (aW v_2c) fun a_2d=>aq (az P H_1z 3 a_2d) fun v_2e=>
aY P cal 32 [v_28,v_2b,v_2e] H_1z n_1u fun v_2f H_2g n_2h=>
aq (eW P v_2f (Op.unary UnOp.not v_2f)) fun v_2i=>
ifK v_2i (
some ((.bool false),H_2g,n_2h)) (
aq (aQ P 59 u2 u7) fun v_2n=>
aq (aW v_2n) fun a_2p=>aq (az P H_2g 44 a_2p) fun v_2o=>
aq (aQ P 44 v_2o u9) fun v_2r=>
aq (aW v_2r) fun a_2t=>aq (az P H_2g 3 a_2t) fun v_2s=>
binK P .add 3 (.tmp 68) (.tmp 75) u8 v_2s fun v_2u=>
binK P .add 3 (.tmp 45) (.const (.int .i64 1)) u9 (.int .i64 1) fun v_2x=>
b3 u1 u2 u3 u7 v_2u v_2x H_2g n_2h)) (
aq (ax P 26 u3 2) fun v_30=>
aq (aW v_30) fun a_31=>aq (az P H 24 a_31) fun v_32=>
aq (aQ P 44 u1 u7) fun v_35=>
aq (aW v_35) fun a_36=>aq (az P H 3 a_36) fun v_37=>
aq (aQ P 24 v_32 v_37) fun v_38=>
aq (ax P 94 v_38 0) fun v_39=>
aq (aW v_39) fun a_3a=>aq (az P H 3 a_3a) fun v_3b=>
binK P .neq 3 (.tmp 77) (.tmp 86) u8 v_3b fun v_3c=>
ifK v_3c (
some ((.bool false),H,n)) (
j2 u1 u2 u3 u7 H n))
noncomputable def C33_3 (cal:Cal) (k m1 m2:Nat) (b1:V4) (b3:V6) (u1 u2 u3 u7 u8 u9:Value) (H:Hp) (n:Nat):Res:=B33_3 cal k m1 m2 (Vz cal k m1 b1) b1 b3 u1 u2 u3 u7 u8 u9 H n
noncomputable def S33_3 (cal:Cal) (k m1:Nat) (b1:V4):Nat→V6:=fun m=>Nat.rec (motive:=fun _=>V6) (C33_3 cal k m1 0 b1 (fun _ _ _ _ _ _ _ _=>none)) (fun m ih=>C33_3 cal k m1 (m+1) b1 ih) m
theorem h33_3 (cal:Cal) (k m1 m2:Nat) (u1 u2 u3 u7 u8 u9:Value) (H:Hp) (n:Nat):labK (E33_3 cal k m1 m2) (Tr.set (Tr.set (Tr.set (Tr.set (Tr.set (Tr.set Tr.nil 9 (some u9)) 8 (some u8)) 7 (some u7)) 3 (some u3)) 2 (some u2)) 1 (some u1)) H n []=C33_3 cal k m1 m2 (DW cal k m1) (R33_3 cal k m1 m2) u1 u2 u3 u7 u8 u9 H n:=by
  refine Eq.trans (b:=B33_3 cal k m1 m2 (fun u1 u2 u3 u7 H n=>labK (E33_2 cal k m1) (Tr.set (Tr.set (Tr.set (Tr.set Tr.nil 7 (some u7)) 3 (some u3)) 2 (some u2)) 1 (some u1)) H n []) (DW cal k m1) (R33_3 cal k m1 m2) u1 u2 u3 u7 u8 u9 H n) (by kernel_rfl) ?_
  rw[C33_3]
  have e2:(fun u1 u2 u3 u7 H n=>labK (E33_2 cal k m1) (Tr.set (Tr.set (Tr.set (Tr.set Tr.nil 7 (some u7)) 3 (some u3)) 2 (some u2)) 1 (some u1)) H n [])=(Vz cal k m1 (DW cal k m1)):=by funext u1 u2 u3 u7 H n; exact h33_2 ..
  rw[e2]
theorem q33_3 (cal:Cal) (k m1:Nat):∀(m:Nat) (u1 u2 u3 u7 u8 u9:Value) (H:Hp) (n:Nat),labK (E33_3 cal k m1 m) (Tr.set (Tr.set (Tr.set (Tr.set (Tr.set (Tr.set Tr.nil 9 (some u9)) 8 (some u8)) 7 (some u7)) 3 (some u3)) 2 (some u2)) 1 (some u1)) H n []=S33_3 cal k m1 (DW cal k m1) m u1 u2 u3 u7 u8 u9 H n
  | 0,u1,u2,u3,u7,u8,u9,H,n=>by
    rw[h33_3]
    have e:R33_3 cal k m1 0=fun _ _ _ _ _ _ _ _=>none:=by funext u1 u2 u3 u7 u8 u9 H n; kernel_rfl
    rw[e]; rfl
  | m+1,u1,u2,u3,u7,u8,u9,H,n=>by
    rw[h33_3]
    have e:R33_3 cal k m1 (m+1)=S33_3 cal k m1 (DW cal k m1) m:=by
      funext u1 u2 u3 u7 u8 u9 H n
      have e:R33_3 cal k m1 (m+1) u1 u2 u3 u7 u8 u9 H n=labK (E33_3 cal k m1 m) (Tr.set (Tr.set (Tr.set (Tr.set (Tr.set (Tr.set Tr.nil 9 (some u9)) 8 (some u8)) 7 (some u7)) 3 (some u3)) 2 (some u2)) 1 (some u1)) H n []:=by kernel_rfl
      rw[e]; exact q33_3 ..
    rw[e]; rfl
noncomputable def B33_1 (cal:Cal) (k m1:Nat) (j2:V4) (j3:V6) (b1:V4) (u1 u2 u3 u7:Value) (H:Hp) (n:Nat):Res:=
aq (lenV P 44 u1) fun v_e=>
binK P .lss 3 (.tmp 16) (.tmp 18) u7 v_e fun v_f=>
ifK v_f (
aq (aQ P 44 u1 u7) fun v_l=>
aq (aW v_l) fun a_n=>aq (az P H 3 a_n) fun v_m=>
binK P .lss 3 (.tmp 25) (.const (.int .i64 0)) v_m (.int .i64 0) fun v_o=>
ifK v_o (
aq (aQ P 59 u2 u7) fun v_r=>
aq (aW v_r) fun a_t=>aq (az P H 44 a_t) fun v_s=>
aq (lenV P 44 v_s) fun v_u=>
binK P .neq 3 (.tmp 31) (.const (.int .i64 0)) v_u (.int .i64 0) fun v_v=>
ifK v_v (
some ((.bool false),H,n)) (
j2 u1 u2 u3 u7 H n)) (
aq (aQ P 59 u2 u7) fun v_z=>
aq (aW v_z) fun a_11=>aq (az P H 44 a_11) fun v_10=>
aq (lenV P 44 v_10) fun v_12=>
aq (lenV P 44 u1) fun v_14=>
binK P .neq 3 (.tmp 37) (.tmp 39) v_12 v_14 fun v_15=>
ifK v_15 (
some ((.bool false),H,n)) (
j3 u1 u2 u3 u7 (.int .i64 0) (.int .i64 0) H n))) (
some ((.bool true),H,n))
noncomputable def C33_1 (cal:Cal) (k m1:Nat) (b1:V4) (u1 u2 u3 u7:Value) (H:Hp) (n:Nat):Res:=B33_1 cal k m1 (Vz cal k m1 b1) (S33_3 cal k m1 b1 m1) b1 u1 u2 u3 u7 H n
noncomputable def S33_1 (cal:Cal) (k:Nat):Nat→V4:=fun m=>Nat.rec (motive:=fun _=>V4) (C33_1 cal k 0 (fun _ _ _ _ _ _=>none)) (fun m ih=>C33_1 cal k (m+1) ih) m
theorem h33_1 (cal:Cal) (k m1:Nat) (u1 u2 u3 u7:Value) (H:Hp) (n:Nat):labK (E33_1 cal k m1) (Tr.set (Tr.set (Tr.set (Tr.set Tr.nil 7 (some u7)) 3 (some u3)) 2 (some u2)) 1 (some u1)) H n []=C33_1 cal k m1 (DW cal k m1) u1 u2 u3 u7 H n:=by
  refine Eq.trans (b:=B33_1 cal k m1 (fun u1 u2 u3 u7 H n=>labK (E33_2 cal k m1) (Tr.set (Tr.set (Tr.set (Tr.set Tr.nil 7 (some u7)) 3 (some u3)) 2 (some u2)) 1 (some u1)) H n []) (fun u1 u2 u3 u7 u8 u9 H n=>labK (E33_3 cal k m1 m1) (Tr.set (Tr.set (Tr.set (Tr.set (Tr.set (Tr.set Tr.nil 9 (some u9)) 8 (some u8)) 7 (some u7)) 3 (some u3)) 2 (some u2)) 1 (some u1)) H n []) (DW cal k m1) u1 u2 u3 u7 H n) (by kernel_rfl) ?_
  rw[C33_1]
  have e2:(fun u1 u2 u3 u7 H n=>labK (E33_2 cal k m1) (Tr.set (Tr.set (Tr.set (Tr.set Tr.nil 7 (some u7)) 3 (some u3)) 2 (some u2)) 1 (some u1)) H n [])=(Vz cal k m1 (DW cal k m1)):=by funext u1 u2 u3 u7 H n; exact h33_2 ..
  rw[e2]
  have e3:(fun u1 u2 u3 u7 u8 u9 H n=>labK (E33_3 cal k m1 m1) (Tr.set (Tr.set (Tr.set (Tr.set (Tr.set (Tr.set Tr.nil 9 (some u9)) 8 (some u8)) 7 (some u7)) 3 (some u3)) 2 (some u2)) 1 (some u1)) H n [])=(S33_3 cal k m1 (DW cal k m1) m1):=by funext u1 u2 u3 u7 u8 u9 H n; exact q33_3 ..
  rw[e3]
theorem q33_1 (cal:Cal) (k:Nat):∀(m:Nat) (u1 u2 u3 u7:Value) (H:Hp) (n:Nat),labK (E33_1 cal k m) (Tr.set (Tr.set (Tr.set (Tr.set Tr.nil 7 (some u7)) 3 (some u3)) 2 (some u2)) 1 (some u1)) H n []=S33_1 cal k m u1 u2 u3 u7 H n
  | 0,u1,u2,u3,u7,H,n=>by
    rw[h33_1]
    have e:DW cal k 0=fun _ _ _ _ _ _=>none:=by funext u1 u2 u3 u7 H n; kernel_rfl
    rw[e]; rfl
  | m+1,u1,u2,u3,u7,H,n=>by
    rw[h33_1]
    have e:DW cal k (m+1)=S33_1 cal k m:=by
      funext u1 u2 u3 u7 H n
      have e:DW cal k (m+1) u1 u2 u3 u7 H n=labK (E33_1 cal k m) (Tr.set (Tr.set (Tr.set (Tr.set Tr.nil 7 (some u7)) 3 (some u3)) 2 (some u2)) 1 (some u1)) H n []:=by kernel_rfl
      rw[e]; exact q33_1 ..
    rw[e]; rfl
noncomputable def B33_0 (cal:Cal) (k:Nat) (j1:V4) (v0 v1 v2:Value) (H:Hp) (n:Nat):Res:=
boxK 26 v0 H n fun v_1 H_2 n_3=>
aq (lenV P 59 v2) fun v_6=>
aq (lenV P 44 v1) fun v_8=>
binK P .neq 3 (.tmp 12) (.tmp 14) v_6 v_8 fun v_9=>
ifK v_9 (
some ((.bool false),H_2,n_3)) (
j1 v1 v2 v_1 (.int .i64 0) H_2 n_3)
noncomputable def C33_0 (cal:Cal) (k:Nat) (v0 v1 v2:Value) (H:Hp) (n:Nat):Res:=B33_0 cal k (S33_1 cal k k) v0 v1 v2 H n
theorem h33_0 (cal:Cal) (k:Nat) (v0 v1 v2:Value) (H:Hp) (n:Nat):aK P cal A (k+1) 33 [v0,v1,v2] H n=C33_0 cal k v0 v1 v2 H n:=by
  have h:aK P cal A (k+1) 33 [v0,v1,v2] H n=B33_0 cal k (fun u1 u2 u3 u7 H n=>labK (E33_1 cal k k) (Tr.set (Tr.set (Tr.set (Tr.set Tr.nil 7 (some u7)) 3 (some u3)) 2 (some u2)) 1 (some u1)) H n []) v0 v1 v2 H n:=by
    rw[bW (fn:=Go.Proofs.Try.f33) (c:=fJ) (rs:=cq) (by kernel_rfl) (by kernel_rfl) (by kernel_rfl) (by kernel_rfl)]
    kernel_rfl
  rw[h,C33_0]
  have e1:(fun u1 u2 u3 u7 H n=>labK (E33_1 cal k k) (Tr.set (Tr.set (Tr.set (Tr.set Tr.nil 7 (some u7)) 3 (some u3)) 2 (some u2)) 1 (some u1)) H n [])=(S33_1 cal k k):=by funext u1 u2 u3 u7 H n; exact q33_1 ..
  rw[e1]
noncomputable def xz:Code:=cV 34
noncomputable def iW:List ResultVar:=dW 34
noncomputable def K34_p (cal:Cal) (k:Nat):KR:=(cutK (A 34).c (ay P cal (aw P cal k) none 34 (cR xz) (Lv.b (A 34)) (av P iW) X0 (av P iW)))
noncomputable def K34_pr (cal:Cal) (k:Nat):KR:=(cutK (Lv.b (A 34)).c (ay P cal (aw P cal k) none 34 (cR (cR xz)) (Lv.b (Lv.b (A 34))) (av P iW) X0 (av P iW)))
noncomputable def Xq (cal:Cal) (k:Nat):KR:=(cutK (Lv.b (Lv.b (A 34))).c (ay P cal (aw P cal k) none 34 (cR (cR (cR xz))) (Lv.b (Lv.b (Lv.b (A 34)))) (av P iW) X0 (av P iW)))
noncomputable def K34_prrl (cal:Cal) (k:Nat):KR:=(cutK (Lv.a (Lv.b (Lv.b (A 34)))).c (ay P cal (aw P cal k) none 34 (cR (cL (cR (cR xz)))) (Lv.b (Lv.a (Lv.b (Lv.b (A 34))))) (Xq cal k) X0 (av P iW)))
noncomputable def sq (cal:Cal) (k:Nat):XR:=(upX 0 (Xq cal k) X0)
noncomputable def IJ (cal:Cal) (k:Nat) (m1:Nat):KR:=(fun T H n D=>aw P cal m1 (Lv.a (Lv.b (Lv.a (Lv.b (Lv.b (A 34)))))) none 34 (cL (cR (cL (cR (cR xz))))) (Xq cal k) (sq cal k) (av P iW) (cutT (Lv.a (Lv.b (Lv.a (Lv.b (Lv.b (A 34)))))).c T) H n D)
noncomputable def K34_prrlrll (cal:Cal) (k:Nat) (m1:Nat):KR:=(cutK (Lv.a (Lv.a (Lv.b (Lv.a (Lv.b (Lv.b (A 34))))))).c (ay P cal (aw P cal m1) none 34 (cR (cL (cL (cR (cL (cR (cR xz))))))) (Lv.b (Lv.a (Lv.a (Lv.b (Lv.a (Lv.b (Lv.b (A 34)))))))) (IJ cal k m1) (sq cal k) (av P iW)))
noncomputable def K34_prrlrlll (cal:Cal) (k:Nat) (m1:Nat):KR:=(cutK (Lv.a (Lv.a (Lv.a (Lv.b (Lv.a (Lv.b (Lv.b (A 34)))))))).c (ay P cal (aw P cal m1) none 34 (cR (cL (cL (cL (cR (cL (cR (cR xz)))))))) (Lv.b (Lv.a (Lv.a (Lv.a (Lv.b (Lv.a (Lv.b (Lv.b (A 34))))))))) (K34_prrlrll cal k m1) (sq cal k) (av P iW)))
noncomputable def K34_prrlrllr (cal:Cal) (k:Nat) (m1:Nat):KR:=(cutK (Lv.b (Lv.a (Lv.a (Lv.b (Lv.a (Lv.b (Lv.b (A 34)))))))).c (ay P cal (aw P cal m1) none 34 (cR (cR (cL (cL (cR (cL (cR (cR xz)))))))) (Lv.b (Lv.b (Lv.a (Lv.a (Lv.b (Lv.a (Lv.b (Lv.b (A 34))))))))) (IJ cal k m1) (sq cal k) (av P iW)))
noncomputable def K34_pxrrlrllrl (cal:Cal) (k:Nat) (m1:Nat):XR:=(upX 1 (K34_prrlrllr cal k m1) (sq cal k))
noncomputable def K34_prrlrllrll (cal:Cal) (k:Nat) (m1:Nat):KR:=(cutK (Lv.a (Lv.a (Lv.b (Lv.a (Lv.a (Lv.b (Lv.a (Lv.b (Lv.b (A 34)))))))))).c (ay P cal (aw P cal m1) none 34 (cR (cL (cL (cR (cL (cL (cR (cL (cR (cR xz)))))))))) (Lv.b (Lv.a (Lv.a (Lv.b (Lv.a (Lv.a (Lv.b (Lv.a (Lv.b (Lv.b (A 34))))))))))) (K34_prrlrllr cal k m1) (K34_pxrrlrllrl cal k m1) (av P iW)))
noncomputable def K34_prrr (cal:Cal) (k:Nat):KR:=(cutK (Lv.b (Lv.b (Lv.b (A 34)))).c (ay P cal (aw P cal k) none 34 (cR (cR (cR (cR xz)))) (Lv.b (Lv.b (Lv.b (Lv.b (A 34))))) (av P iW) X0 (av P iW)))
noncomputable def E34_2 (cal:Cal) (k m1:Nat):KR:=ay P cal (aw P cal m1) none 34 (cR (cR (cL (cL (cR (cL (cR (cR xz)))))))) (Lv.b (Lv.b (Lv.a (Lv.a (Lv.b (Lv.a (Lv.b (Lv.b (A 34))))))))) (IJ cal k m1) (sq cal k) (av P iW)
noncomputable def E34_1 (cal:Cal) (k m1:Nat):KR:=ay P cal (aw P cal m1) none 34 (cL (cL (cR (cL (cR (cR xz)))))) (Lv.a (Lv.a (Lv.b (Lv.a (Lv.b (Lv.b (A 34))))))) (IJ cal k m1) (sq cal k) (av P iW)
noncomputable def Vk (cal:Cal) (k m1:Nat):V4:=fun u0 u1 u5 u6 H n=>aw P cal m1 (Lv.a (Lv.b (Lv.a (Lv.b (Lv.b (A 34)))))) none 34 (cL (cR (cL (cR (cR xz))))) (Xq cal k) (sq cal k) (av P iW) (Tr.set (Tr.set (Tr.set (Tr.set Tr.nil 6 (some u6)) 5 (some u5)) 1 (some u1)) 0 (some u0)) H n []
noncomputable def B34_2 (cal:Cal) (k m1:Nat) (b1:V4) (u0 u1 u5 u6:Value) (H:Hp) (n:Nat):Res:=
binK P .add 3 (.tmp 11) (.const (.int .i64 1)) u6 (.int .i64 1) fun v_9=>
b1 u0 u1 u5 v_9 H n
noncomputable def C34_2 (cal:Cal) (k m1:Nat) (b1:V4) (u0 u1 u5 u6:Value) (H:Hp) (n:Nat):Res:=B34_2 cal k m1 b1 u0 u1 u5 u6 H n
theorem h34_2 (cal:Cal) (k m1:Nat) (u0 u1 u5 u6:Value) (H:Hp) (n:Nat):labK (E34_2 cal k m1) (Tr.set (Tr.set (Tr.set (Tr.set Tr.nil 6 (some u6)) 5 (some u5)) 1 (some u1)) 0 (some u0)) H n []=C34_2 cal k m1 (Vk cal k m1) u0 u1 u5 u6 H n:=by
  refine Eq.trans (b:=B34_2 cal k m1 (Vk cal k m1) u0 u1 u5 u6 H n) (by kernel_rfl) ?_
  rw[C34_2]
noncomputable def B34_1 (cal:Cal) (k m1:Nat) (j2:V4) (b1:V4) (u0 u1 u5 u6:Value) (H:Hp) (n:Nat):Res:=
aq (lenV P 59 u0) fun v_6=>
binK P .lss 3 (.tmp 7) (.tmp 9) u6 v_6 fun v_7=>
ifK v_7 (
aq (aQ P 59 u0 u6) fun v_d=>
aq (aW v_d) fun a_f=>aq (az P H 44 a_f) fun v_e=>
aq (lenV P 44 v_e) fun v_g=>
binK P .gtr 3 (.tmp 17) (.const (.int .i64 0)) v_g (.int .i64 0) fun v_h=>
ifK v_h (
aq (aQ P 59 u0 u6) fun v_l=>
aq (aW v_l) fun a_n=>aq (az P H 44 a_n) fun v_m=>
aq (aQ P 44 v_m u1) fun v_p=>
aq (aW v_p) fun a_r=>aq (az P H 3 a_r) fun v_q=>
binK P .add 3 (.tmp 19) (.tmp 26) u5 v_q fun v_s=>
j2 u0 u1 v_s u6 H n) (
j2 u0 u1 u5 u6 H n)) (
some (u5,H,n))
noncomputable def C34_1 (cal:Cal) (k m1:Nat) (b1:V4) (u0 u1 u5 u6:Value) (H:Hp) (n:Nat):Res:=B34_1 cal k m1 (C34_2 cal k m1 b1) b1 u0 u1 u5 u6 H n
noncomputable def S34_1 (cal:Cal) (k:Nat):Nat→V4:=fun m=>Nat.rec (motive:=fun _=>V4) (C34_1 cal k 0 (fun _ _ _ _ _ _=>none)) (fun m ih=>C34_1 cal k (m+1) ih) m
theorem h34_1 (cal:Cal) (k m1:Nat) (u0 u1 u5 u6:Value) (H:Hp) (n:Nat):labK (E34_1 cal k m1) (Tr.set (Tr.set (Tr.set (Tr.set Tr.nil 6 (some u6)) 5 (some u5)) 1 (some u1)) 0 (some u0)) H n []=C34_1 cal k m1 (Vk cal k m1) u0 u1 u5 u6 H n:=by
  refine Eq.trans (b:=B34_1 cal k m1 (fun u0 u1 u5 u6 H n=>labK (E34_2 cal k m1) (Tr.set (Tr.set (Tr.set (Tr.set Tr.nil 6 (some u6)) 5 (some u5)) 1 (some u1)) 0 (some u0)) H n []) (Vk cal k m1) u0 u1 u5 u6 H n) (by kernel_rfl) ?_
  rw[C34_1]
  have e2:(fun u0 u1 u5 u6 H n=>labK (E34_2 cal k m1) (Tr.set (Tr.set (Tr.set (Tr.set Tr.nil 6 (some u6)) 5 (some u5)) 1 (some u1)) 0 (some u0)) H n [])=(C34_2 cal k m1 (Vk cal k m1)):=by funext u0 u1 u5 u6 H n; exact h34_2 ..
  rw[e2]
theorem q34_1 (cal:Cal) (k:Nat):∀(m:Nat) (u0 u1 u5 u6:Value) (H:Hp) (n:Nat),labK (E34_1 cal k m) (Tr.set (Tr.set (Tr.set (Tr.set Tr.nil 6 (some u6)) 5 (some u5)) 1 (some u1)) 0 (some u0)) H n []=S34_1 cal k m u0 u1 u5 u6 H n
  | 0,u0,u1,u5,u6,H,n=>by
    rw[h34_1]
    have e:Vk cal k 0=fun _ _ _ _ _ _=>none:=by funext u0 u1 u5 u6 H n; kernel_rfl
    rw[e]; rfl
  | m+1,u0,u1,u5,u6,H,n=>by
    rw[h34_1]
    have e:Vk cal k (m+1)=S34_1 cal k m:=by
      funext u0 u1 u5 u6 H n
      have e:Vk cal k (m+1) u0 u1 u5 u6 H n=labK (E34_1 cal k m) (Tr.set (Tr.set (Tr.set (Tr.set Tr.nil 6 (some u6)) 5 (some u5)) 1 (some u1)) 0 (some u0)) H n []:=by kernel_rfl
      rw[e]; exact q34_1 ..
    rw[e]; rfl
noncomputable def B34_0 (cal:Cal) (k:Nat) (j1:V4) (v0 v1:Value) (H:Hp) (n:Nat):Res:=
j1 v0 v1 (.int .i64 0) (.int .i64 0) H n
noncomputable def C34_0 (cal:Cal) (k:Nat) (v0 v1:Value) (H:Hp) (n:Nat):Res:=B34_0 cal k (S34_1 cal k k) v0 v1 H n
theorem h34_0 (cal:Cal) (k:Nat) (v0 v1:Value) (H:Hp) (n:Nat):aK P cal A (k+1) 34 [v0,v1] H n=C34_0 cal k v0 v1 H n:=by
  have h:aK P cal A (k+1) 34 [v0,v1] H n=B34_0 cal k (fun u0 u1 u5 u6 H n=>labK (E34_1 cal k k) (Tr.set (Tr.set (Tr.set (Tr.set Tr.nil 6 (some u6)) 5 (some u5)) 1 (some u1)) 0 (some u0)) H n []) v0 v1 H n:=by
    rw[bW (fn:=Go.Proofs.Try.f34) (c:=xz) (rs:=iW) (by kernel_rfl) (by kernel_rfl) (by kernel_rfl) (by kernel_rfl)]
    kernel_rfl
  rw[h,C34_0]
  have e1:(fun u0 u1 u5 u6 H n=>labK (E34_1 cal k k) (Tr.set (Tr.set (Tr.set (Tr.set Tr.nil 6 (some u6)) 5 (some u5)) 1 (some u1)) 0 (some u0)) H n [])=(S34_1 cal k k):=by funext u0 u1 u5 u6 H n; exact q34_1 ..
  rw[e1]
noncomputable def code38:Code:=cV 38
noncomputable def zv:List ResultVar:=dW 38
noncomputable def K38_p (cal:Cal) (k:Nat):KR:=(cutK (A 38).c (ay P cal (aw P cal k) none 38 (cR code38) (Lv.b (A 38)) (av P zv) X0 (av P zv)))
noncomputable def K38_pr (cal:Cal) (k:Nat):KR:=(cutK (Lv.b (A 38)).c (ay P cal (aw P cal k) none 38 (cR (cR code38)) (Lv.b (Lv.b (A 38))) (av P zv) X0 (av P zv)))
noncomputable def K38_prr (cal:Cal) (k:Nat):KR:=(cutK (Lv.b (Lv.b (A 38))).c (ay P cal (aw P cal k) none 38 (cR (cR (cR code38))) (Lv.b (Lv.b (Lv.b (A 38)))) (av P zv) X0 (av P zv)))
noncomputable def B38_0 (cal:Cal) (k:Nat) (v0 v1 v2:Value) (H:Hp) (n:Nat):Res:=
boxK 35 v0 H n fun v_1 H_2 n_3=>
aq (aW v_1) fun a_6=>aq (az P H_2 35 a_6) fun v_5=>
aY P cal 65 [v_5,v1] H_2 n_3 fun v_8 H_9 n_a=>
aq (tupV v_8 0) fun v_c=>
aq (tupV v_8 1) fun v_d=>
aq (tupV v_8 2) fun v_e=>
ez P 121 H_9 n_a fun v_f H_g n_h=>
aq (bJ P 121 v_f v_d H_g) fun H_k=>
binK P .eql 29 (.tmp 17) (.const (.int .i64 0)) v_e (.int .i64 0) fun v_n=>
aV v_n true (fun k_p=>
k_p v_c H_k n_h) H_k n_h fun v_q H_r n_s=>
aV v_n true (fun k_u=>
aq (aW v_f) fun a_z=>aq (az P H_r 121 a_z) fun v_y=>
k_u v_y H_r n_s) H_r n_s fun v_v H_w n_x=>
aV v_n true (fun k_10=>
k_10 v2 H_w n_x) H_w n_x fun v_11 H_12 n_13=>
aV v_n true (fun k_15=>
aY P cal 79 [v_q,v_v,v_11] H_12 n_13 fun v_19 H_1a n_1b=>
k_15 v_19 H_1a n_1b) H_12 n_13 fun v_16 H_17 n_18=>
aq (eQ v_n v_16 (.bool false)) fun v_1c=>
aV v_1c true (fun k_1e=>
k_1e v_c H_17 n_18) H_17 n_18 fun v_1f H_1g n_1h=>
aV v_1c true (fun k_1j=>
k_1j v2 H_1g n_1h) H_1g n_1h fun v_1k H_1l n_1m=>
aV v_1c true (fun k_1o=>
aY P cal 80 [v_1f,v_1k] H_1l n_1m fun v_1s H_1t n_1u=>
k_1o v_1s H_1t n_1u) H_1l n_1m fun v_1p H_1q n_1r=>
aq (eQ v_1c v_1p (.bool false)) fun v_1v=>
some (v_1v,H_1q,n_1r)
noncomputable def C38_0 (cal:Cal) (k:Nat) (v0 v1 v2:Value) (H:Hp) (n:Nat):Res:=B38_0 cal k v0 v1 v2 H n
theorem h38_0 (cal:Cal) (k:Nat) (v0 v1 v2:Value) (H:Hp) (n:Nat):aK P cal A (k+1) 38 [v0,v1,v2] H n=C38_0 cal k v0 v1 v2 H n:=by
  have h:aK P cal A (k+1) 38 [v0,v1,v2] H n=B38_0 cal k v0 v1 v2 H n:=by
    rw[bW (fn:=Go.Proofs.Try.f38) (c:=code38) (rs:=zv) (by kernel_rfl) (by kernel_rfl) (by kernel_rfl) (by kernel_rfl)]
    kernel_rfl
  rw[h,C38_0]
noncomputable def AY:Code:=cV 39
noncomputable def kv:List ResultVar:=dW 39
noncomputable def K39_p (cal:Cal) (k:Nat):KR:=(cutK (A 39).c (ay P cal (aw P cal k) none 39 (cR AY) (Lv.b (A 39)) (av P kv) X0 (av P kv)))
noncomputable def K39_pr (cal:Cal) (k:Nat):KR:=(cutK (Lv.b (A 39)).c (ay P cal (aw P cal k) none 39 (cR (cR AY)) (Lv.b (Lv.b (A 39))) (av P kv) X0 (av P kv)))
noncomputable def Xv (cal:Cal) (k:Nat):KR:=(cutK (Lv.b (Lv.b (A 39))).c (ay P cal (aw P cal k) none 39 (cR (cR (cR AY))) (Lv.b (Lv.b (Lv.b (A 39)))) (av P kv) X0 (av P kv)))
noncomputable def K39_prrl (cal:Cal) (k:Nat):KR:=(cutK (Lv.a (Lv.b (Lv.b (A 39)))).c (ay P cal (aw P cal k) none 39 (cR (cL (cR (cR AY)))) (Lv.b (Lv.a (Lv.b (Lv.b (A 39))))) (Xv cal k) X0 (av P kv)))
noncomputable def vX (cal:Cal) (k:Nat):XR:=(upX 0 (Xv cal k) X0)
noncomputable def Py (cal:Cal) (k:Nat) (m1:Nat):KR:=(fun T H n D=>aw P cal m1 (Lv.a (Lv.b (Lv.a (Lv.b (Lv.b (A 39)))))) none 39 (cL (cR (cL (cR (cR AY))))) (Xv cal k) (vX cal k) (av P kv) (cutT (Lv.a (Lv.b (Lv.a (Lv.b (Lv.b (A 39)))))).c T) H n D)
noncomputable def K39_prrlrll (cal:Cal) (k:Nat) (m1:Nat):KR:=(cutK (Lv.a (Lv.a (Lv.b (Lv.a (Lv.b (Lv.b (A 39))))))).c (ay P cal (aw P cal m1) none 39 (cR (cL (cL (cR (cL (cR (cR AY))))))) (Lv.b (Lv.a (Lv.a (Lv.b (Lv.a (Lv.b (Lv.b (A 39)))))))) (Py cal k m1) (vX cal k) (av P kv)))
noncomputable def K39_prrlrlll (cal:Cal) (k:Nat) (m1:Nat):KR:=(cutK (Lv.a (Lv.a (Lv.a (Lv.b (Lv.a (Lv.b (Lv.b (A 39)))))))).c (ay P cal (aw P cal m1) none 39 (cR (cL (cL (cL (cR (cL (cR (cR AY)))))))) (Lv.b (Lv.a (Lv.a (Lv.a (Lv.b (Lv.a (Lv.b (Lv.b (A 39))))))))) (K39_prrlrll cal k m1) (vX cal k) (av P kv)))
noncomputable def K39_prrlrllr (cal:Cal) (k:Nat) (m1:Nat):KR:=(cutK (Lv.b (Lv.a (Lv.a (Lv.b (Lv.a (Lv.b (Lv.b (A 39)))))))).c (ay P cal (aw P cal m1) none 39 (cR (cR (cL (cL (cR (cL (cR (cR AY)))))))) (Lv.b (Lv.b (Lv.a (Lv.a (Lv.b (Lv.a (Lv.b (Lv.b (A 39))))))))) (Py cal k m1) (vX cal k) (av P kv)))
noncomputable def K39_pxrrlrllrl (cal:Cal) (k:Nat) (m1:Nat):XR:=(upX 1 (K39_prrlrllr cal k m1) (vX cal k))
noncomputable def K39_prrr (cal:Cal) (k:Nat):KR:=(cutK (Lv.b (Lv.b (Lv.b (A 39)))).c (ay P cal (aw P cal k) none 39 (cR (cR (cR (cR AY)))) (Lv.b (Lv.b (Lv.b (Lv.b (A 39))))) (av P kv) X0 (av P kv)))
noncomputable def E39_1 (cal:Cal) (k m1:Nat):KR:=ay P cal (aw P cal m1) none 39 (cL (cL (cR (cL (cR (cR AY)))))) (Lv.a (Lv.a (Lv.b (Lv.a (Lv.b (Lv.b (A 39))))))) (Py cal k m1) (vX cal k) (av P kv)
noncomputable def R39_1 (cal:Cal) (k m1:Nat):V3:=fun u0 u3 u4 H n=>aw P cal m1 (Lv.a (Lv.b (Lv.a (Lv.b (Lv.b (A 39)))))) none 39 (cL (cR (cL (cR (cR AY))))) (Xv cal k) (vX cal k) (av P kv) (Tr.set (Tr.set (Tr.set Tr.nil 4 (some u4)) 3 (some u3)) 0 (some u0)) H n []
noncomputable def B39_1 (cal:Cal) (k m1:Nat) (b1:V3) (u0 u3 u4:Value) (H:Hp) (n:Nat):Res:=
aq (lenV P 59 u0) fun v_6=>
binK P .lss 3 (.tmp 5) (.tmp 7) u4 v_6 fun v_7=>
ifK v_7 (
aq (aQ P 59 u0 u4) fun v_b=>
aq (aW v_b) fun a_d=>aq (az P H 44 a_d) fun v_c=>
aY P cal 23 [v_c] H n fun v_e H_f n_g=>
rowK P 59 1 [(0,v_e)] H_f n_g fun v_h H_i n_j=>
stK (fQ P (bare H_i n_j) 59 59 u3 v_h) fun v_k H_l n_m=>
binK P .add 3 (.tmp 9) (.const (.int .i64 1)) u4 (.int .i64 1) fun v_p=>
b1 u0 v_k v_p H_l n_m) (
some (u3,H,n))
noncomputable def C39_1 (cal:Cal) (k m1:Nat) (b1:V3) (u0 u3 u4:Value) (H:Hp) (n:Nat):Res:=B39_1 cal k m1 b1 u0 u3 u4 H n
noncomputable def S39_1 (cal:Cal) (k:Nat):Nat→V3:=fun m=>Nat.rec (motive:=fun _=>V3) (C39_1 cal k 0 (fun _ _ _ _ _=>none)) (fun m ih=>C39_1 cal k (m+1) ih) m
theorem h39_1 (cal:Cal) (k m1:Nat) (u0 u3 u4:Value) (H:Hp) (n:Nat):labK (E39_1 cal k m1) (Tr.set (Tr.set (Tr.set Tr.nil 4 (some u4)) 3 (some u3)) 0 (some u0)) H n []=C39_1 cal k m1 (R39_1 cal k m1) u0 u3 u4 H n:=by
  refine Eq.trans (b:=B39_1 cal k m1 (R39_1 cal k m1) u0 u3 u4 H n) (by kernel_rfl) ?_
  rw[C39_1]
theorem q39_1 (cal:Cal) (k:Nat):∀(m:Nat) (u0 u3 u4:Value) (H:Hp) (n:Nat),labK (E39_1 cal k m) (Tr.set (Tr.set (Tr.set Tr.nil 4 (some u4)) 3 (some u3)) 0 (some u0)) H n []=S39_1 cal k m u0 u3 u4 H n
  | 0,u0,u3,u4,H,n=>by
    rw[h39_1]
    have e:R39_1 cal k 0=fun _ _ _ _ _=>none:=by funext u0 u3 u4 H n; kernel_rfl
    rw[e]; rfl
  | m+1,u0,u3,u4,H,n=>by
    rw[h39_1]
    have e:R39_1 cal k (m+1)=S39_1 cal k m:=by
      funext u0 u3 u4 H n
      have e:R39_1 cal k (m+1) u0 u3 u4 H n=labK (E39_1 cal k m) (Tr.set (Tr.set (Tr.set Tr.nil 4 (some u4)) 3 (some u3)) 0 (some u0)) H n []:=by kernel_rfl
      rw[e]; exact q39_1 ..
    rw[e]; rfl
noncomputable def B39_0 (cal:Cal) (k:Nat) (j1:V3) (v0:Value) (H:Hp) (n:Nat):Res:=
j1 v0 (.slice none 0 0) (.int .i64 0) H n
noncomputable def C39_0 (cal:Cal) (k:Nat) (v0:Value) (H:Hp) (n:Nat):Res:=B39_0 cal k (S39_1 cal k k) v0 H n
theorem h39_0 (cal:Cal) (k:Nat) (v0:Value) (H:Hp) (n:Nat):aK P cal A (k+1) 39 [v0] H n=C39_0 cal k v0 H n:=by
  have h:aK P cal A (k+1) 39 [v0] H n=B39_0 cal k (fun u0 u3 u4 H n=>labK (E39_1 cal k k) (Tr.set (Tr.set (Tr.set Tr.nil 4 (some u4)) 3 (some u3)) 0 (some u0)) H n []) v0 H n:=by
    rw[bW (fn:=Go.Proofs.Try.f39) (c:=AY) (rs:=kv) (by kernel_rfl) (by kernel_rfl) (by kernel_rfl) (by kernel_rfl)]
    kernel_rfl
  rw[h,C39_0]
  have e1:(fun u0 u3 u4 H n=>labK (E39_1 cal k k) (Tr.set (Tr.set (Tr.set Tr.nil 4 (some u4)) 3 (some u3)) 0 (some u0)) H n [])=(S39_1 cal k k):=by funext u0 u3 u4 H n; exact q39_1 ..
  rw[e1]
noncomputable def code43:Code:=cV 43
noncomputable def zw:List ResultVar:=dW 43
noncomputable def K43_p (cal:Cal) (k:Nat):KR:=(cutK (A 43).c (ay P cal (aw P cal k) none 43 (cR code43) (Lv.b (A 43)) (av P zw) X0 (av P zw)))
noncomputable def K43_pr (cal:Cal) (k:Nat):KR:=(cutK (Lv.b (A 43)).c (ay P cal (aw P cal k) none 43 (cR (cR code43)) (Lv.b (Lv.b (A 43))) (av P zw) X0 (av P zw)))
noncomputable def K43_prr (cal:Cal) (k:Nat):KR:=(cutK (Lv.b (Lv.b (A 43))).c (ay P cal (aw P cal k) none 43 (cR (cR (cR code43))) (Lv.b (Lv.b (Lv.b (A 43)))) (av P zw) X0 (av P zw)))
noncomputable def B43_0 (cal:Cal) (k:Nat) (v0 v1 v2:Value) (H:Hp) (n:Nat):Res:=
boxK 35 v0 H n fun v_1 H_2 n_3=>
aq (aW v_1) fun a_6=>aq (az P H_2 35 a_6) fun v_5=>
aY P cal 65 [v_5,v1] H_2 n_3 fun v_8 H_9 n_a=>
aq (tupV v_8 0) fun v_c=>
aq (tupV v_8 1) fun v_d=>
aq (tupV v_8 2) fun v_e=>
ez P 121 H_9 n_a fun v_f H_g n_h=>
aq (bJ P 121 v_f v_d H_g) fun H_k=>
binK P .eql 29 (.tmp 17) (.const (.int .i64 0)) v_e (.int .i64 0) fun v_n=>
aV v_n true (fun k_p=>
k_p v_c H_k n_h) H_k n_h fun v_q H_r n_s=>
aV v_n true (fun k_u=>
k_u v_c H_r n_s) H_r n_s fun v_v H_w n_x=>
aV v_n true (fun k_z=>
aq (aW v_f) fun a_14=>aq (az P H_w 121 a_14) fun v_13=>
k_z v_13 H_w n_x) H_w n_x fun v_10 H_11 n_12=>
aV v_n true (fun k_15=>
aY P cal 66 [v_v,v_10] H_11 n_12 fun v_19 H_1a n_1b=>
k_15 v_19 H_1a n_1b) H_11 n_12 fun v_16 H_17 n_18=>
aV v_n true (fun k_1c=>
aY P cal 83 [v_q,v_16] H_17 n_18 fun v_1g H_1h n_1i=>
k_1c v_1g H_1h n_1i) H_17 n_18 fun v_1d H_1e n_1f=>
aq (eQ v_n v_1d (.bool false)) fun v_1j=>
aV v_1j true (fun k_1l=>
k_1l v_c H_1e n_1f) H_1e n_1f fun v_1m H_1n n_1o=>
aV v_1j true (fun k_1q=>
aq (aW v_f) fun a_1v=>aq (az P H_1n 121 a_1v) fun v_1u=>
k_1q v_1u H_1n n_1o) H_1n n_1o fun v_1r H_1s n_1t=>
aV v_1j true (fun k_1w=>
aY P cal 82 [v_1m,v_1r] H_1s n_1t fun v_20 H_21 n_22=>
k_1w v_20 H_21 n_22) H_1s n_1t fun v_1x H_1y n_1z=>
aV v_1j true (fun k_23=>
k_23 v2 H_1y n_1z) H_1y n_1z fun v_24 H_25 n_26=>
aV v_1j true (fun k_28=>
binK P .leq 3 (.tmp 29) (.tmp 30) v_1x v_24 fun v_2c=>
k_28 v_2c H_25 n_26) H_25 n_26 fun v_29 H_2a n_2b=>
aq (eQ v_1j v_29 (.bool false)) fun v_2d=>
some (v_2d,H_2a,n_2b)
noncomputable def C43_0 (cal:Cal) (k:Nat) (v0 v1 v2:Value) (H:Hp) (n:Nat):Res:=B43_0 cal k v0 v1 v2 H n
theorem h43_0 (cal:Cal) (k:Nat) (v0 v1 v2:Value) (H:Hp) (n:Nat):aK P cal A (k+1) 43 [v0,v1,v2] H n=C43_0 cal k v0 v1 v2 H n:=by
  have h:aK P cal A (k+1) 43 [v0,v1,v2] H n=B43_0 cal k v0 v1 v2 H n:=by
    rw[bW (fn:=Go.Proofs.Try.f43) (c:=code43) (rs:=zw) (by kernel_rfl) (by kernel_rfl) (by kernel_rfl) (by kernel_rfl)]
    kernel_rfl
  rw[h,C43_0]
noncomputable def code54:Code:=cV 54
noncomputable def BZ:List ResultVar:=dW 54
noncomputable def K54_p (cal:Cal) (k:Nat):KR:=(cutK (A 54).c (ay P cal (aw P cal k) none 54 (cR code54) (Lv.b (A 54)) (av P BZ) X0 (av P BZ)))
noncomputable def K54_pr (cal:Cal) (k:Nat):KR:=(cutK (Lv.b (A 54)).c (ay P cal (aw P cal k) none 54 (cR (cR code54)) (Lv.b (Lv.b (A 54))) (av P BZ) X0 (av P BZ)))
noncomputable def B54_0 (cal:Cal) (k:Nat) (v0 v1:Value) (H:Hp) (n:Nat):Res:=
ez P 53 H n fun v_1 H_2 n_3=>
aq (jW P 53 [(0,v0),(1,v1)]) fun v_6=>
aq (bJ P 53 v_1 v_6 H_2) fun H_8=>
aq (resV P (Tr.set Tr.nil 4 (some v_1)) H_8 BZ) fun v_9=>some (oneV v_9,H_8,n_3)
noncomputable def C54_0 (cal:Cal) (k:Nat) (v0 v1:Value) (H:Hp) (n:Nat):Res:=B54_0 cal k v0 v1 H n
theorem h54_0 (cal:Cal) (k:Nat) (v0 v1:Value) (H:Hp) (n:Nat):aK P cal A (k+1) 54 [v0,v1] H n=C54_0 cal k v0 v1 H n:=by
  have h:aK P cal A (k+1) 54 [v0,v1] H n=B54_0 cal k v0 v1 H n:=by
    rw[bW (fn:=Go.Proofs.Try.f54) (c:=code54) (rs:=BZ) (by kernel_rfl) (by kernel_rfl) (by kernel_rfl) (by kernel_rfl)]
    kernel_rfl
  rw[h,C54_0]
noncomputable def code55:Code:=cV 55
noncomputable def Gw:List ResultVar:=dW 55
noncomputable def K55_p (cal:Cal) (k:Nat):KR:=(cutK (A 55).c (ay P cal (aw P cal k) none 55 (cR code55) (Lv.b (A 55)) (av P Gw) X0 (av P Gw)))
noncomputable def K55_pr (cal:Cal) (k:Nat):KR:=(cutK (Lv.b (A 55)).c (ay P cal (aw P cal k) none 55 (cR (cR code55)) (Lv.b (Lv.b (A 55))) (av P Gw) X0 (av P Gw)))
noncomputable def B55_0 (cal:Cal) (k:Nat) (v0 v1:Value) (H:Hp) (n:Nat):Res:=
boxK 26 v0 H n fun v_1 H_2 n_3=>
aq (aW v_1) fun a_6=>aq (az P H_2 26 a_6) fun v_5=>
aY P cal 15 [v_5,v1] H_2 n_3 fun v_8 H_9 n_a=>
aV v_8 true (fun k_c=>
aq (aW v_1) fun a_h=>aq (az P H_9 26 a_h) fun v_g=>
k_c v_g H_9 n_a) H_9 n_a fun v_d H_e n_f=>
aV v_8 true (fun k_i=>
k_i v1 H_e n_f) H_e n_f fun v_j H_k n_l=>
aV v_8 true (fun k_n=>
aY P cal 25 [v_d,v_j] H_k n_l fun v_r H_s n_t=>
k_n v_r H_s n_t) H_k n_l fun v_o H_p n_q=>
aV v_8 true (fun k_u=>
binK P .eql 29 (.tmp 11) (.const (.int .i64 0)) v_o (.int .i64 0) fun v_y=>
k_u v_y H_p n_q) H_p n_q fun v_v H_w n_x=>
aq (eQ v_8 v_v (.bool false)) fun v_z=>
some (v_z,H_w,n_x)
noncomputable def C55_0 (cal:Cal) (k:Nat) (v0 v1:Value) (H:Hp) (n:Nat):Res:=B55_0 cal k v0 v1 H n
theorem h55_0 (cal:Cal) (k:Nat) (v0 v1:Value) (H:Hp) (n:Nat):aK P cal A (k+1) 55 [v0,v1] H n=C55_0 cal k v0 v1 H n:=by
  have h:aK P cal A (k+1) 55 [v0,v1] H n=B55_0 cal k v0 v1 H n:=by
    rw[bW (fn:=Go.Proofs.Try.f55) (c:=code55) (rs:=Gw) (by kernel_rfl) (by kernel_rfl) (by kernel_rfl) (by kernel_rfl)]
    kernel_rfl
  rw[h,C55_0]
noncomputable def eZ:Code:=cV 56
noncomputable def bX:List ResultVar:=dW 56
noncomputable def K56_p (cal:Cal) (k:Nat):KR:=(cutK (A 56).c (ay P cal (aw P cal k) none 56 (cR eZ) (Lv.b (A 56)) (av P bX) X0 (av P bX)))
noncomputable def K56_pr (cal:Cal) (k:Nat):KR:=(cutK (Lv.b (A 56)).c (ay P cal (aw P cal k) none 56 (cR (cR eZ)) (Lv.b (Lv.b (A 56))) (av P bX) X0 (av P bX)))
noncomputable def Xw (cal:Cal) (k:Nat):KR:=(cutK (Lv.b (Lv.b (A 56))).c (ay P cal (aw P cal k) none 56 (cR (cR (cR eZ))) (Lv.b (Lv.b (Lv.b (A 56)))) (av P bX) X0 (av P bX)))
noncomputable def K56_prrl (cal:Cal) (k:Nat):KR:=(cutK (Lv.a (Lv.b (Lv.b (A 56)))).c (ay P cal (aw P cal k) none 56 (cR (cL (cR (cR eZ)))) (Lv.b (Lv.a (Lv.b (Lv.b (A 56))))) (Xw cal k) X0 (av P bX)))
noncomputable def sw (cal:Cal) (k:Nat):XR:=(upX 0 (Xw cal k) X0)
noncomputable def IQ (cal:Cal) (k:Nat) (m1:Nat):KR:=(fun T H n D=>aw P cal m1 (Lv.a (Lv.b (Lv.a (Lv.b (Lv.b (A 56)))))) none 56 (cL (cR (cL (cR (cR eZ))))) (Xw cal k) (sw cal k) (av P bX) (cutT (Lv.a (Lv.b (Lv.a (Lv.b (Lv.b (A 56)))))).c T) H n D)
noncomputable def K56_prrlrll (cal:Cal) (k:Nat) (m1:Nat):KR:=(cutK (Lv.a (Lv.a (Lv.b (Lv.a (Lv.b (Lv.b (A 56))))))).c (ay P cal (aw P cal m1) none 56 (cR (cL (cL (cR (cL (cR (cR eZ))))))) (Lv.b (Lv.a (Lv.a (Lv.b (Lv.a (Lv.b (Lv.b (A 56)))))))) (IQ cal k m1) (sw cal k) (av P bX)))
noncomputable def K56_prrlrlll (cal:Cal) (k:Nat) (m1:Nat):KR:=(cutK (Lv.a (Lv.a (Lv.a (Lv.b (Lv.a (Lv.b (Lv.b (A 56)))))))).c (ay P cal (aw P cal m1) none 56 (cR (cL (cL (cL (cR (cL (cR (cR eZ)))))))) (Lv.b (Lv.a (Lv.a (Lv.a (Lv.b (Lv.a (Lv.b (Lv.b (A 56))))))))) (K56_prrlrll cal k m1) (sw cal k) (av P bX)))
noncomputable def nK (cal:Cal) (k:Nat) (m1:Nat):KR:=(cutK (Lv.b (Lv.a (Lv.a (Lv.b (Lv.a (Lv.b (Lv.b (A 56)))))))).c (ay P cal (aw P cal m1) none 56 (cR (cR (cL (cL (cR (cL (cR (cR eZ)))))))) (Lv.b (Lv.b (Lv.a (Lv.a (Lv.b (Lv.a (Lv.b (Lv.b (A 56))))))))) (IQ cal k m1) (sw cal k) (av P bX)))
noncomputable def oK (cal:Cal) (k:Nat) (m1:Nat):XR:=(upX 1 (nK cal k m1) (sw cal k))
noncomputable def K56_prrlrllrll (cal:Cal) (k:Nat) (m1:Nat):KR:=(cutK (Lv.a (Lv.a (Lv.b (Lv.a (Lv.a (Lv.b (Lv.a (Lv.b (Lv.b (A 56)))))))))).c (ay P cal (aw P cal m1) none 56 (cR (cL (cL (cR (cL (cL (cR (cL (cR (cR eZ)))))))))) (Lv.b (Lv.a (Lv.a (Lv.b (Lv.a (Lv.a (Lv.b (Lv.a (Lv.b (Lv.b (A 56))))))))))) (nK cal k m1) (oK cal k m1) (av P bX)))
noncomputable def K56_prrlrllrlll (cal:Cal) (k:Nat) (m1:Nat):KR:=(cutK (Lv.a (Lv.a (Lv.a (Lv.b (Lv.a (Lv.a (Lv.b (Lv.a (Lv.b (Lv.b (A 56))))))))))).c (ay P cal (aw P cal m1) none 56 (cR (cL (cL (cL (cR (cL (cL (cR (cL (cR (cR eZ))))))))))) (Lv.b (Lv.a (Lv.a (Lv.a (Lv.b (Lv.a (Lv.a (Lv.b (Lv.a (Lv.b (Lv.b (A 56)))))))))))) (K56_prrlrllrll cal k m1) (oK cal k m1) (av P bX)))
noncomputable def K56_prrlrllrllr (cal:Cal) (k:Nat) (m1:Nat):KR:=(cutK (Lv.b (Lv.a (Lv.a (Lv.b (Lv.a (Lv.a (Lv.b (Lv.a (Lv.b (Lv.b (A 56))))))))))).c (ay P cal (aw P cal m1) none 56 (cR (cR (cL (cL (cR (cL (cL (cR (cL (cR (cR eZ))))))))))) (Lv.b (Lv.b (Lv.a (Lv.a (Lv.b (Lv.a (Lv.a (Lv.b (Lv.a (Lv.b (Lv.b (A 56)))))))))))) (nK cal k m1) (oK cal k m1) (av P bX)))
noncomputable def K56_prrlrllrllrr (cal:Cal) (k:Nat) (m1:Nat):KR:=(cutK (Lv.b (Lv.b (Lv.a (Lv.a (Lv.b (Lv.a (Lv.a (Lv.b (Lv.a (Lv.b (Lv.b (A 56)))))))))))).c (ay P cal (aw P cal m1) none 56 (cR (cR (cR (cL (cL (cR (cL (cL (cR (cL (cR (cR eZ)))))))))))) (Lv.b (Lv.b (Lv.b (Lv.a (Lv.a (Lv.b (Lv.a (Lv.a (Lv.b (Lv.a (Lv.b (Lv.b (A 56))))))))))))) (nK cal k m1) (oK cal k m1) (av P bX)))
noncomputable def K56_prrlrllrllrrr (cal:Cal) (k:Nat) (m1:Nat):KR:=(cutK (Lv.b (Lv.b (Lv.b (Lv.a (Lv.a (Lv.b (Lv.a (Lv.a (Lv.b (Lv.a (Lv.b (Lv.b (A 56))))))))))))).c (ay P cal (aw P cal m1) none 56 (cR (cR (cR (cR (cL (cL (cR (cL (cL (cR (cL (cR (cR eZ))))))))))))) (Lv.b (Lv.b (Lv.b (Lv.b (Lv.a (Lv.a (Lv.b (Lv.a (Lv.a (Lv.b (Lv.a (Lv.b (Lv.b (A 56)))))))))))))) (nK cal k m1) (oK cal k m1) (av P bX)))
noncomputable def ik (cal:Cal) (k:Nat) (m1:Nat):XR:=(upX 2 (nK cal k m1) (oK cal k m1))
noncomputable def uy (cal:Cal) (k:Nat) (m1:Nat) (m2:Nat):KR:=(fun T H n D=>aw P cal m2 (Lv.a (Lv.b (Lv.b (Lv.b (Lv.b (Lv.a (Lv.a (Lv.b (Lv.a (Lv.a (Lv.b (Lv.a (Lv.b (Lv.b (A 56))))))))))))))) none 56 (cL (cR (cR (cR (cR (cL (cL (cR (cL (cL (cR (cL (cR (cR eZ)))))))))))))) (nK cal k m1) (ik cal k m1) (av P bX) (cutT (Lv.a (Lv.b (Lv.b (Lv.b (Lv.b (Lv.a (Lv.a (Lv.b (Lv.a (Lv.a (Lv.b (Lv.a (Lv.b (Lv.b (A 56))))))))))))))).c T) H n D)
noncomputable def K56_prrlrllrllrrrrll (cal:Cal) (k:Nat) (m1:Nat) (m2:Nat):KR:=(cutK (Lv.a (Lv.a (Lv.b (Lv.b (Lv.b (Lv.b (Lv.a (Lv.a (Lv.b (Lv.a (Lv.a (Lv.b (Lv.a (Lv.b (Lv.b (A 56)))))))))))))))).c (ay P cal (aw P cal m2) none 56 (cR (cL (cL (cR (cR (cR (cR (cL (cL (cR (cL (cL (cR (cL (cR (cR eZ)))))))))))))))) (Lv.b (Lv.a (Lv.a (Lv.b (Lv.b (Lv.b (Lv.b (Lv.a (Lv.a (Lv.b (Lv.a (Lv.a (Lv.b (Lv.a (Lv.b (Lv.b (A 56))))))))))))))))) (uy cal k m1 m2) (ik cal k m1) (av P bX)))
noncomputable def K56_prrlrllrllrrrrlll (cal:Cal) (k:Nat) (m1:Nat) (m2:Nat):KR:=(cutK (Lv.a (Lv.a (Lv.a (Lv.b (Lv.b (Lv.b (Lv.b (Lv.a (Lv.a (Lv.b (Lv.a (Lv.a (Lv.b (Lv.a (Lv.b (Lv.b (A 56))))))))))))))))).c (ay P cal (aw P cal m2) none 56 (cR (cL (cL (cL (cR (cR (cR (cR (cL (cL (cR (cL (cL (cR (cL (cR (cR eZ))))))))))))))))) (Lv.b (Lv.a (Lv.a (Lv.a (Lv.b (Lv.b (Lv.b (Lv.b (Lv.a (Lv.a (Lv.b (Lv.a (Lv.a (Lv.b (Lv.a (Lv.b (Lv.b (A 56)))))))))))))))))) (K56_prrlrllrllrrrrll cal k m1 m2) (ik cal k m1) (av P bX)))
noncomputable def fK (cal:Cal) (k:Nat) (m1:Nat) (m2:Nat):KR:=(cutK (Lv.b (Lv.a (Lv.a (Lv.b (Lv.b (Lv.b (Lv.b (Lv.a (Lv.a (Lv.b (Lv.a (Lv.a (Lv.b (Lv.a (Lv.b (Lv.b (A 56))))))))))))))))).c (ay P cal (aw P cal m2) none 56 (cR (cR (cL (cL (cR (cR (cR (cR (cL (cL (cR (cL (cL (cR (cL (cR (cR eZ))))))))))))))))) (Lv.b (Lv.b (Lv.a (Lv.a (Lv.b (Lv.b (Lv.b (Lv.b (Lv.a (Lv.a (Lv.b (Lv.a (Lv.a (Lv.b (Lv.a (Lv.b (Lv.b (A 56)))))))))))))))))) (uy cal k m1 m2) (ik cal k m1) (av P bX)))
noncomputable def cZ (cal:Cal) (k:Nat) (m1:Nat) (m2:Nat):XR:=(upX 3 (fK cal k m1 m2) (ik cal k m1))
noncomputable def K56_prrlrllrllrrrrllrll (cal:Cal) (k:Nat) (m1:Nat) (m2:Nat):KR:=(cutK (Lv.a (Lv.a (Lv.b (Lv.a (Lv.a (Lv.b (Lv.b (Lv.b (Lv.b (Lv.a (Lv.a (Lv.b (Lv.a (Lv.a (Lv.b (Lv.a (Lv.b (Lv.b (A 56))))))))))))))))))).c (ay P cal (aw P cal m2) none 56 (cR (cL (cL (cR (cL (cL (cR (cR (cR (cR (cL (cL (cR (cL (cL (cR (cL (cR (cR eZ))))))))))))))))))) (Lv.b (Lv.a (Lv.a (Lv.b (Lv.a (Lv.a (Lv.b (Lv.b (Lv.b (Lv.b (Lv.a (Lv.a (Lv.b (Lv.a (Lv.a (Lv.b (Lv.a (Lv.b (Lv.b (A 56)))))))))))))))))))) (fK cal k m1 m2) (cZ cal k m1 m2) (av P bX)))
noncomputable def kY (cal:Cal) (k:Nat) (m1:Nat) (m2:Nat):KR:=(cutK (Lv.b (Lv.a (Lv.a (Lv.b (Lv.a (Lv.a (Lv.b (Lv.b (Lv.b (Lv.b (Lv.a (Lv.a (Lv.b (Lv.a (Lv.a (Lv.b (Lv.a (Lv.b (Lv.b (A 56)))))))))))))))))))).c (ay P cal (aw P cal m2) none 56 (cR (cR (cL (cL (cR (cL (cL (cR (cR (cR (cR (cL (cL (cR (cL (cL (cR (cL (cR (cR eZ)))))))))))))))))))) (Lv.b (Lv.b (Lv.a (Lv.a (Lv.b (Lv.a (Lv.a (Lv.b (Lv.b (Lv.b (Lv.b (Lv.a (Lv.a (Lv.b (Lv.a (Lv.a (Lv.b (Lv.a (Lv.b (Lv.b (A 56))))))))))))))))))))) (fK cal k m1 m2) (cZ cal k m1 m2) (av P bX)))
noncomputable def K56_prrlrllrllrrrrllrllrl (cal:Cal) (k:Nat) (m1:Nat) (m2:Nat):KR:=(cutK (Lv.a (Lv.b (Lv.a (Lv.a (Lv.b (Lv.a (Lv.a (Lv.b (Lv.b (Lv.b (Lv.b (Lv.a (Lv.a (Lv.b (Lv.a (Lv.a (Lv.b (Lv.a (Lv.b (Lv.b (A 56))))))))))))))))))))).c (ay P cal (aw P cal m2) none 56 (cR (cL (cR (cL (cL (cR (cL (cL (cR (cR (cR (cR (cL (cL (cR (cL (cL (cR (cL (cR (cR eZ))))))))))))))))))))) (Lv.b (Lv.a (Lv.b (Lv.a (Lv.a (Lv.b (Lv.a (Lv.a (Lv.b (Lv.b (Lv.b (Lv.b (Lv.a (Lv.a (Lv.b (Lv.a (Lv.a (Lv.b (Lv.a (Lv.b (Lv.b (A 56)))))))))))))))))))))) (kY cal k m1 m2) (cZ cal k m1 m2) (av P bX)))
noncomputable def dZ (cal:Cal) (k:Nat) (m1:Nat) (m2:Nat):XR:=(upX 4 (kY cal k m1 m2) (cZ cal k m1 m2))
noncomputable def mq (cal:Cal) (k:Nat) (m1:Nat) (m2:Nat) (m3:Nat):KR:=(fun T H n D=>aw P cal m3 (Lv.a (Lv.b (Lv.a (Lv.b (Lv.a (Lv.a (Lv.b (Lv.a (Lv.a (Lv.b (Lv.b (Lv.b (Lv.b (Lv.a (Lv.a (Lv.b (Lv.a (Lv.a (Lv.b (Lv.a (Lv.b (Lv.b (A 56))))))))))))))))))))))) none 56 (cL (cR (cL (cR (cL (cL (cR (cL (cL (cR (cR (cR (cR (cL (cL (cR (cL (cL (cR (cL (cR (cR eZ)))))))))))))))))))))) (kY cal k m1 m2) (dZ cal k m1 m2) (av P bX) (cutT (Lv.a (Lv.b (Lv.a (Lv.b (Lv.a (Lv.a (Lv.b (Lv.a (Lv.a (Lv.b (Lv.b (Lv.b (Lv.b (Lv.a (Lv.a (Lv.b (Lv.a (Lv.a (Lv.b (Lv.a (Lv.b (Lv.b (A 56))))))))))))))))))))))).c T) H n D)
noncomputable def K56_prrlrllrllrrrrllrllrlrll (cal:Cal) (k:Nat) (m1:Nat) (m2:Nat) (m3:Nat):KR:=(cutK (Lv.a (Lv.a (Lv.b (Lv.a (Lv.b (Lv.a (Lv.a (Lv.b (Lv.a (Lv.a (Lv.b (Lv.b (Lv.b (Lv.b (Lv.a (Lv.a (Lv.b (Lv.a (Lv.a (Lv.b (Lv.a (Lv.b (Lv.b (A 56)))))))))))))))))))))))).c (ay P cal (aw P cal m3) none 56 (cR (cL (cL (cR (cL (cR (cL (cL (cR (cL (cL (cR (cR (cR (cR (cL (cL (cR (cL (cL (cR (cL (cR (cR eZ)))))))))))))))))))))))) (Lv.b (Lv.a (Lv.a (Lv.b (Lv.a (Lv.b (Lv.a (Lv.a (Lv.b (Lv.a (Lv.a (Lv.b (Lv.b (Lv.b (Lv.b (Lv.a (Lv.a (Lv.b (Lv.a (Lv.a (Lv.b (Lv.a (Lv.b (Lv.b (A 56))))))))))))))))))))))))) (mq cal k m1 m2 m3) (dZ cal k m1 m2) (av P bX)))
noncomputable def K56_prrlrllrllrrrrllrllrlrlll (cal:Cal) (k:Nat) (m1:Nat) (m2:Nat) (m3:Nat):KR:=(cutK (Lv.a (Lv.a (Lv.a (Lv.b (Lv.a (Lv.b (Lv.a (Lv.a (Lv.b (Lv.a (Lv.a (Lv.b (Lv.b (Lv.b (Lv.b (Lv.a (Lv.a (Lv.b (Lv.a (Lv.a (Lv.b (Lv.a (Lv.b (Lv.b (A 56))))))))))))))))))))))))).c (ay P cal (aw P cal m3) none 56 (cR (cL (cL (cL (cR (cL (cR (cL (cL (cR (cL (cL (cR (cR (cR (cR (cL (cL (cR (cL (cL (cR (cL (cR (cR eZ))))))))))))))))))))))))) (Lv.b (Lv.a (Lv.a (Lv.a (Lv.b (Lv.a (Lv.b (Lv.a (Lv.a (Lv.b (Lv.a (Lv.a (Lv.b (Lv.b (Lv.b (Lv.b (Lv.a (Lv.a (Lv.b (Lv.a (Lv.a (Lv.b (Lv.a (Lv.b (Lv.b (A 56)))))))))))))))))))))))))) (K56_prrlrllrllrrrrllrllrlrll cal k m1 m2 m3) (dZ cal k m1 m2) (av P bX)))
noncomputable def K56_prrlrllrllrrrrllrllrlrllr (cal:Cal) (k:Nat) (m1:Nat) (m2:Nat) (m3:Nat):KR:=(cutK (Lv.b (Lv.a (Lv.a (Lv.b (Lv.a (Lv.b (Lv.a (Lv.a (Lv.b (Lv.a (Lv.a (Lv.b (Lv.b (Lv.b (Lv.b (Lv.a (Lv.a (Lv.b (Lv.a (Lv.a (Lv.b (Lv.a (Lv.b (Lv.b (A 56))))))))))))))))))))))))).c (ay P cal (aw P cal m3) none 56 (cR (cR (cL (cL (cR (cL (cR (cL (cL (cR (cL (cL (cR (cR (cR (cR (cL (cL (cR (cL (cL (cR (cL (cR (cR eZ))))))))))))))))))))))))) (Lv.b (Lv.b (Lv.a (Lv.a (Lv.b (Lv.a (Lv.b (Lv.a (Lv.a (Lv.b (Lv.a (Lv.a (Lv.b (Lv.b (Lv.b (Lv.b (Lv.a (Lv.a (Lv.b (Lv.a (Lv.a (Lv.b (Lv.a (Lv.b (Lv.b (A 56)))))))))))))))))))))))))) (mq cal k m1 m2 m3) (dZ cal k m1 m2) (av P bX)))
noncomputable def K56_pxrrlrllrllrrrrllrllrlrllrl (cal:Cal) (k:Nat) (m1:Nat) (m2:Nat) (m3:Nat):XR:=(upX 5 (K56_prrlrllrllrrrrllrllrlrllr cal k m1 m2 m3) (dZ cal k m1 m2))
noncomputable def K56_prrlrllrllrrrrllrllrlrllrll (cal:Cal) (k:Nat) (m1:Nat) (m2:Nat) (m3:Nat):KR:=(cutK (Lv.a (Lv.a (Lv.b (Lv.a (Lv.a (Lv.b (Lv.a (Lv.b (Lv.a (Lv.a (Lv.b (Lv.a (Lv.a (Lv.b (Lv.b (Lv.b (Lv.b (Lv.a (Lv.a (Lv.b (Lv.a (Lv.a (Lv.b (Lv.a (Lv.b (Lv.b (A 56))))))))))))))))))))))))))).c (ay P cal (aw P cal m3) none 56 (cR (cL (cL (cR (cL (cL (cR (cL (cR (cL (cL (cR (cL (cL (cR (cR (cR (cR (cL (cL (cR (cL (cL (cR (cL (cR (cR eZ))))))))))))))))))))))))))) (Lv.b (Lv.a (Lv.a (Lv.b (Lv.a (Lv.a (Lv.b (Lv.a (Lv.b (Lv.a (Lv.a (Lv.b (Lv.a (Lv.a (Lv.b (Lv.b (Lv.b (Lv.b (Lv.a (Lv.a (Lv.b (Lv.a (Lv.a (Lv.b (Lv.a (Lv.b (Lv.b (A 56)))))))))))))))))))))))))))) (K56_prrlrllrllrrrrllrllrlrllr cal k m1 m2 m3) (K56_pxrrlrllrllrrrrllrllrlrllrl cal k m1 m2 m3) (av P bX)))
noncomputable def K56_prrlrllrllrrrrllrllrr (cal:Cal) (k:Nat) (m1:Nat) (m2:Nat):KR:=(cutK (Lv.b (Lv.b (Lv.a (Lv.a (Lv.b (Lv.a (Lv.a (Lv.b (Lv.b (Lv.b (Lv.b (Lv.a (Lv.a (Lv.b (Lv.a (Lv.a (Lv.b (Lv.a (Lv.b (Lv.b (A 56))))))))))))))))))))).c (ay P cal (aw P cal m2) none 56 (cR (cR (cR (cL (cL (cR (cL (cL (cR (cR (cR (cR (cL (cL (cR (cL (cL (cR (cL (cR (cR eZ))))))))))))))))))))) (Lv.b (Lv.b (Lv.b (Lv.a (Lv.a (Lv.b (Lv.a (Lv.a (Lv.b (Lv.b (Lv.b (Lv.b (Lv.a (Lv.a (Lv.b (Lv.a (Lv.a (Lv.b (Lv.a (Lv.b (Lv.b (A 56)))))))))))))))))))))) (fK cal k m1 m2) (cZ cal k m1 m2) (av P bX)))
noncomputable def K56_prrlrllrllrrrrllrllrrr (cal:Cal) (k:Nat) (m1:Nat) (m2:Nat):KR:=(cutK (Lv.b (Lv.b (Lv.b (Lv.a (Lv.a (Lv.b (Lv.a (Lv.a (Lv.b (Lv.b (Lv.b (Lv.b (Lv.a (Lv.a (Lv.b (Lv.a (Lv.a (Lv.b (Lv.a (Lv.b (Lv.b (A 56)))))))))))))))))))))).c (ay P cal (aw P cal m2) none 56 (cR (cR (cR (cR (cL (cL (cR (cL (cL (cR (cR (cR (cR (cL (cL (cR (cL (cL (cR (cL (cR (cR eZ)))))))))))))))))))))) (Lv.b (Lv.b (Lv.b (Lv.b (Lv.a (Lv.a (Lv.b (Lv.a (Lv.a (Lv.b (Lv.b (Lv.b (Lv.b (Lv.a (Lv.a (Lv.b (Lv.a (Lv.a (Lv.b (Lv.a (Lv.b (Lv.b (A 56))))))))))))))))))))))) (fK cal k m1 m2) (cZ cal k m1 m2) (av P bX)))
noncomputable def gk (cal:Cal) (k:Nat) (m1:Nat) (m2:Nat):KR:=(cutK (Lv.b (Lv.b (Lv.b (Lv.b (Lv.a (Lv.a (Lv.b (Lv.a (Lv.a (Lv.b (Lv.b (Lv.b (Lv.b (Lv.a (Lv.a (Lv.b (Lv.a (Lv.a (Lv.b (Lv.a (Lv.b (Lv.b (A 56))))))))))))))))))))))).c (ay P cal (aw P cal m2) none 56 (cR (cR (cR (cR (cR (cL (cL (cR (cL (cL (cR (cR (cR (cR (cL (cL (cR (cL (cL (cR (cL (cR (cR eZ))))))))))))))))))))))) (Lv.b (Lv.b (Lv.b (Lv.b (Lv.b (Lv.a (Lv.a (Lv.b (Lv.a (Lv.a (Lv.b (Lv.b (Lv.b (Lv.b (Lv.a (Lv.a (Lv.b (Lv.a (Lv.a (Lv.b (Lv.a (Lv.b (Lv.b (A 56)))))))))))))))))))))))) (fK cal k m1 m2) (cZ cal k m1 m2) (av P bX)))
noncomputable def K56_prrlrllrllrrrrllrllrrrrl (cal:Cal) (k:Nat) (m1:Nat) (m2:Nat):KR:=(cutK (Lv.a (Lv.b (Lv.b (Lv.b (Lv.b (Lv.a (Lv.a (Lv.b (Lv.a (Lv.a (Lv.b (Lv.b (Lv.b (Lv.b (Lv.a (Lv.a (Lv.b (Lv.a (Lv.a (Lv.b (Lv.a (Lv.b (Lv.b (A 56)))))))))))))))))))))))).c (ay P cal (aw P cal m2) none 56 (cR (cL (cR (cR (cR (cR (cL (cL (cR (cL (cL (cR (cR (cR (cR (cL (cL (cR (cL (cL (cR (cL (cR (cR eZ)))))))))))))))))))))))) (Lv.b (Lv.a (Lv.b (Lv.b (Lv.b (Lv.b (Lv.a (Lv.a (Lv.b (Lv.a (Lv.a (Lv.b (Lv.b (Lv.b (Lv.b (Lv.a (Lv.a (Lv.b (Lv.a (Lv.a (Lv.b (Lv.a (Lv.b (Lv.b (A 56))))))))))))))))))))))))) (gk cal k m1 m2) (cZ cal k m1 m2) (av P bX)))
noncomputable def K56_prrlrllrllrrrrllrllrrrrlr (cal:Cal) (k:Nat) (m1:Nat) (m2:Nat):KR:=(cutK (Lv.b (Lv.a (Lv.b (Lv.b (Lv.b (Lv.b (Lv.a (Lv.a (Lv.b (Lv.a (Lv.a (Lv.b (Lv.b (Lv.b (Lv.b (Lv.a (Lv.a (Lv.b (Lv.a (Lv.a (Lv.b (Lv.a (Lv.b (Lv.b (A 56))))))))))))))))))))))))).c (ay P cal (aw P cal m2) none 56 (cR (cR (cL (cR (cR (cR (cR (cL (cL (cR (cL (cL (cR (cR (cR (cR (cL (cL (cR (cL (cL (cR (cL (cR (cR eZ))))))))))))))))))))))))) (Lv.b (Lv.b (Lv.a (Lv.b (Lv.b (Lv.b (Lv.b (Lv.a (Lv.a (Lv.b (Lv.a (Lv.a (Lv.b (Lv.b (Lv.b (Lv.b (Lv.a (Lv.a (Lv.b (Lv.a (Lv.a (Lv.b (Lv.a (Lv.b (Lv.b (A 56)))))))))))))))))))))))))) (gk cal k m1 m2) (cZ cal k m1 m2) (av P bX)))
noncomputable def K56_pxrrlrllrllrrrrllrllrrrrlrr (cal:Cal) (k:Nat) (m1:Nat) (m2:Nat):XR:=(upX 6 (gk cal k m1 m2) (cZ cal k m1 m2))
noncomputable def K56_prrlrllrllrrrrllrllrrrrlrrl (cal:Cal) (k:Nat) (m1:Nat) (m2:Nat):KR:=(cutK (Lv.a (Lv.b (Lv.b (Lv.a (Lv.b (Lv.b (Lv.b (Lv.b (Lv.a (Lv.a (Lv.b (Lv.a (Lv.a (Lv.b (Lv.b (Lv.b (Lv.b (Lv.a (Lv.a (Lv.b (Lv.a (Lv.a (Lv.b (Lv.a (Lv.b (Lv.b (A 56))))))))))))))))))))))))))).c (ay P cal (aw P cal m2) none 56 (cR (cL (cR (cR (cL (cR (cR (cR (cR (cL (cL (cR (cL (cL (cR (cR (cR (cR (cL (cL (cR (cL (cL (cR (cL (cR (cR eZ))))))))))))))))))))))))))) (Lv.b (Lv.a (Lv.b (Lv.b (Lv.a (Lv.b (Lv.b (Lv.b (Lv.b (Lv.a (Lv.a (Lv.b (Lv.a (Lv.a (Lv.b (Lv.b (Lv.b (Lv.b (Lv.a (Lv.a (Lv.b (Lv.a (Lv.a (Lv.b (Lv.a (Lv.b (Lv.b (A 56)))))))))))))))))))))))))))) (gk cal k m1 m2) (K56_pxrrlrllrllrrrrllrllrrrrlrr cal k m1 m2) (av P bX)))
noncomputable def K56_prrlrllrllrrrrllrllrrrrlrrlrr (cal:Cal) (k:Nat) (m1:Nat) (m2:Nat):KR:=(cutK (Lv.b (Lv.b (Lv.a (Lv.b (Lv.b (Lv.a (Lv.b (Lv.b (Lv.b (Lv.b (Lv.a (Lv.a (Lv.b (Lv.a (Lv.a (Lv.b (Lv.b (Lv.b (Lv.b (Lv.a (Lv.a (Lv.b (Lv.a (Lv.a (Lv.b (Lv.a (Lv.b (Lv.b (A 56))))))))))))))))))))))))))))).c (ay P cal (aw P cal m2) none 56 (cR (cR (cR (cL (cR (cR (cL (cR (cR (cR (cR (cL (cL (cR (cL (cL (cR (cR (cR (cR (cL (cL (cR (cL (cL (cR (cL (cR (cR eZ))))))))))))))))))))))))))))) (Lv.b (Lv.b (Lv.b (Lv.a (Lv.b (Lv.b (Lv.a (Lv.b (Lv.b (Lv.b (Lv.b (Lv.a (Lv.a (Lv.b (Lv.a (Lv.a (Lv.b (Lv.b (Lv.b (Lv.b (Lv.a (Lv.a (Lv.b (Lv.a (Lv.a (Lv.b (Lv.a (Lv.b (Lv.b (A 56)))))))))))))))))))))))))))))) (gk cal k m1 m2) (K56_pxrrlrllrllrrrrllrllrrrrlrr cal k m1 m2) (av P bX)))
noncomputable def K56_prrr (cal:Cal) (k:Nat):KR:=(cutK (Lv.b (Lv.b (Lv.b (A 56)))).c (ay P cal (aw P cal k) none 56 (cR (cR (cR (cR eZ)))) (Lv.b (Lv.b (Lv.b (Lv.b (A 56))))) (av P bX) X0 (av P bX)))
noncomputable def E56_2 (cal:Cal) (k m1:Nat):KR:=ay P cal (aw P cal m1) none 56 (cR (cR (cL (cL (cR (cL (cR (cR eZ)))))))) (Lv.b (Lv.b (Lv.a (Lv.a (Lv.b (Lv.a (Lv.b (Lv.b (A 56))))))))) (IQ cal k m1) (sw cal k) (av P bX)
noncomputable def E56_5 (cal:Cal) (k m1 m2:Nat):KR:=ay P cal (aw P cal m2) none 56 (cR (cR (cR (cR (cR (cL (cL (cR (cL (cL (cR (cR (cR (cR (cL (cL (cR (cL (cL (cR (cL (cR (cR eZ))))))))))))))))))))))) (Lv.b (Lv.b (Lv.b (Lv.b (Lv.b (Lv.a (Lv.a (Lv.b (Lv.a (Lv.a (Lv.b (Lv.b (Lv.b (Lv.b (Lv.a (Lv.a (Lv.b (Lv.a (Lv.a (Lv.b (Lv.a (Lv.b (Lv.b (A 56)))))))))))))))))))))))) (fK cal k m1 m2) (cZ cal k m1 m2) (av P bX)
noncomputable def E56_4 (cal:Cal) (k m1 m2 m3:Nat):KR:=ay P cal (aw P cal m3) none 56 (cL (cL (cR (cL (cR (cL (cL (cR (cL (cL (cR (cR (cR (cR (cL (cL (cR (cL (cL (cR (cL (cR (cR eZ))))))))))))))))))))))) (Lv.a (Lv.a (Lv.b (Lv.a (Lv.b (Lv.a (Lv.a (Lv.b (Lv.a (Lv.a (Lv.b (Lv.b (Lv.b (Lv.b (Lv.a (Lv.a (Lv.b (Lv.a (Lv.a (Lv.b (Lv.a (Lv.b (Lv.b (A 56)))))))))))))))))))))))) (mq cal k m1 m2 m3) (dZ cal k m1 m2) (av P bX)
noncomputable def R56_4 (cal:Cal) (k m1 m2 m3:Nat):V10:=fun u1 u2 u3 u7 u8 u9 u10 u11 u12 u13 H n=>aw P cal m3 (Lv.a (Lv.b (Lv.a (Lv.b (Lv.a (Lv.a (Lv.b (Lv.a (Lv.a (Lv.b (Lv.b (Lv.b (Lv.b (Lv.a (Lv.a (Lv.b (Lv.a (Lv.a (Lv.b (Lv.a (Lv.b (Lv.b (A 56))))))))))))))))))))))) none 56 (cL (cR (cL (cR (cL (cL (cR (cL (cL (cR (cR (cR (cR (cL (cL (cR (cL (cL (cR (cL (cR (cR eZ)))))))))))))))))))))) (kY cal k m1 m2) (dZ cal k m1 m2) (av P bX) (Tr.set (Tr.set (Tr.set (Tr.set (Tr.set (Tr.set (Tr.set (Tr.set (Tr.set (Tr.set Tr.nil 13 (some u13)) 12 (some u12)) 11 (some u11)) 10 (some u10)) 9 (some u9)) 8 (some u8)) 7 (some u7)) 3 (some u3)) 2 (some u2)) 1 (some u1)) H n []
noncomputable def E56_3 (cal:Cal) (k m1 m2:Nat):KR:=ay P cal (aw P cal m2) none 56 (cL (cL (cR (cR (cR (cR (cL (cL (cR (cL (cL (cR (cL (cR (cR eZ))))))))))))))) (Lv.a (Lv.a (Lv.b (Lv.b (Lv.b (Lv.b (Lv.a (Lv.a (Lv.b (Lv.a (Lv.a (Lv.b (Lv.a (Lv.b (Lv.b (A 56)))))))))))))))) (uy cal k m1 m2) (ik cal k m1) (av P bX)
noncomputable def Gx (cal:Cal) (k m1 m2:Nat):V7:=fun u1 u2 u3 u7 u8 u9 u10 H n=>aw P cal m2 (Lv.a (Lv.b (Lv.b (Lv.b (Lv.b (Lv.a (Lv.a (Lv.b (Lv.a (Lv.a (Lv.b (Lv.a (Lv.b (Lv.b (A 56))))))))))))))) none 56 (cL (cR (cR (cR (cR (cL (cL (cR (cL (cL (cR (cL (cR (cR eZ)))))))))))))) (nK cal k m1) (ik cal k m1) (av P bX) (Tr.set (Tr.set (Tr.set (Tr.set (Tr.set (Tr.set (Tr.set Tr.nil 10 (some u10)) 9 (some u9)) 8 (some u8)) 7 (some u7)) 3 (some u3)) 2 (some u2)) 1 (some u1)) H n []
noncomputable def E56_1 (cal:Cal) (k m1:Nat):KR:=ay P cal (aw P cal m1) none 56 (cL (cL (cR (cL (cR (cR eZ)))))) (Lv.a (Lv.a (Lv.b (Lv.a (Lv.b (Lv.b (A 56))))))) (IQ cal k m1) (sw cal k) (av P bX)
noncomputable def tY (cal:Cal) (k m1:Nat):V5:=fun u1 u2 u3 u7 u8 H n=>aw P cal m1 (Lv.a (Lv.b (Lv.a (Lv.b (Lv.b (A 56)))))) none 56 (cL (cR (cL (cR (cR eZ))))) (Xw cal k) (sw cal k) (av P bX) (Tr.set (Tr.set (Tr.set (Tr.set (Tr.set Tr.nil 8 (some u8)) 7 (some u7)) 3 (some u3)) 2 (some u2)) 1 (some u1)) H n []
noncomputable def B56_2 (cal:Cal) (k m1:Nat) (b1:V5) (u1 u2 u3 u7 u8:Value) (H:Hp) (n:Nat):Res:=
binK P .add 3 (.tmp 24) (.const (.int .i64 1)) u8 (.int .i64 1) fun v_h=>
b1 u1 u2 u3 u7 v_h H n
noncomputable def QY (cal:Cal) (k m1:Nat) (b1:V5) (u1 u2 u3 u7 u8:Value) (H:Hp) (n:Nat):Res:=B56_2 cal k m1 b1 u1 u2 u3 u7 u8 H n
theorem h56_2 (cal:Cal) (k m1:Nat) (u1 u2 u3 u7 u8:Value) (H:Hp) (n:Nat):labK (E56_2 cal k m1) (Tr.set (Tr.set (Tr.set (Tr.set (Tr.set Tr.nil 8 (some u8)) 7 (some u7)) 3 (some u3)) 2 (some u2)) 1 (some u1)) H n []=QY cal k m1 (tY cal k m1) u1 u2 u3 u7 u8 H n:=by
  refine Eq.trans (b:=B56_2 cal k m1 (tY cal k m1) u1 u2 u3 u7 u8 H n) (by kernel_rfl) ?_
  rw[QY]
noncomputable def B56_5 (cal:Cal) (k m1 m2:Nat) (b1:V5) (b3:V7) (u1 u2 u3 u7 u8 u9 u10:Value) (H:Hp) (n:Nat):Res:=
aq (aQ P 59 u7 u8) fun v_40=>
aq (aW v_40) fun a_42=>aq (az P H 44 a_42) fun v_41=>
aq (aQ P 44 v_41 u10) fun v_44=>
aq (aW v_44) fun a_46=>aq (az P H 3 a_46) fun v_45=>
binK P .sub 3 (.tmp 135) (.tmp 142) u9 v_45 fun v_47=>
binK P .add 3 (.tmp 50) (.const (.int .i64 1)) u10 (.int .i64 1) fun v_4a=>
b3 u1 u2 u3 u7 u8 v_47 v_4a H n
noncomputable def C56_5 (cal:Cal) (k m1 m2:Nat) (b1:V5) (b3:V7) (u1 u2 u3 u7 u8 u9 u10:Value) (H:Hp) (n:Nat):Res:=B56_5 cal k m1 m2 b1 b3 u1 u2 u3 u7 u8 u9 u10 H n
theorem h56_5 (cal:Cal) (k m1 m2:Nat) (u1 u2 u3 u7 u8 u9 u10:Value) (H:Hp) (n:Nat):labK (E56_5 cal k m1 m2) (Tr.set (Tr.set (Tr.set (Tr.set (Tr.set (Tr.set (Tr.set Tr.nil 10 (some u10)) 9 (some u9)) 8 (some u8)) 7 (some u7)) 3 (some u3)) 2 (some u2)) 1 (some u1)) H n []=C56_5 cal k m1 m2 (tY cal k m1) (Gx cal k m1 m2) u1 u2 u3 u7 u8 u9 u10 H n:=by
  refine Eq.trans (b:=B56_5 cal k m1 m2 (tY cal k m1) (Gx cal k m1 m2) u1 u2 u3 u7 u8 u9 u10 H n) (by kernel_rfl) ?_
  rw[C56_5]
noncomputable def B56_4 (cal:Cal) (k m1 m2 m3:Nat) (j5:V7) (b1:V5) (b3:V7) (b4:V10) (u1 u2 u3 u7 u8 u9 u10 u11 u12 u13:Value) (H:Hp) (n:Nat):Res:=
aq (lenV P 44 u1) fun v_1q=>
binK P .lss 3 (.tmp 56) (.tmp 58) u13 v_1q fun v_1r=>
ifK v_1r (
aq (aW u3) fun a_1s=>aq (az P H 26 a_1s) fun v_1t=>
aq (aQ P 44 u1 u8) fun v_1w=>
aq (aW v_1w) fun a_1x=>aq (az P H 3 a_1x) fun v_1y=>
aq (jX P 55) fun z_23=>newK (bj z_23) 55 H n fun H_21 n_22=>
effK P [(.a n (bj z_23) 55)] H_21 n_22 (fun H_24 n_25 k_26=>
aY P cal 77 [v_1t,v_1y,u8,u13] H_24 n_25 fun v_2a H_2b n_2c=>
k_26 v_2a H_2b n_2c) fun v_27 H_28 n_29=>
aq (bJ P 55 (ptr n) v_27 H_28) fun H_2e=>
aq (ax P 55 (ptr n) 1) fun v_2g=>
aq (aW v_2g) fun a_2h=>aq (az P H_2e 3 a_2h) fun v_2i=>
binK P .sub 3 (.tmp 70) (.tmp 72) u11 v_2i fun v_2j=>
aq (ax P 55 (ptr n) 0) fun v_2l=>
aq (aW v_2l) fun a_2m=>aq (az P H_2e 3 a_2m) fun v_2n=>
binK P .sub 3 (.tmp 74) (.tmp 76) u12 v_2n fun v_2o=>
binK P .add 3 (.tmp 60) (.const (.int .i64 1)) u13 (.int .i64 1) fun v_2s=>
b4 u1 u2 u3 u7 u8 u9 u10 v_2j v_2o v_2s H_2e n_29) (
aq (aW u3) fun a_2u=>aq (az P H 26 a_2u) fun v_2v=>
aq (aQ P 44 u1 u8) fun v_2y=>
aq (aW v_2y) fun a_2z=>aq (az P H 3 a_2z) fun v_30=>
aq (jX P 55) fun z_35=>newK (bj z_35) 55 H n fun H_33 n_34=>
effK P [(.a n (bj z_35) 55)] H_33 n_34 (fun H_36 n_37 k_38=>
aY P cal 77 [v_2v,v_30,u8,u10] H_36 n_37 fun v_3c H_3d n_3e=>
k_38 v_3c H_3d n_3e) fun v_39 H_3a n_3b=>
aq (bJ P 55 (ptr n) v_39 H_3a) fun H_3g=>
aq (ax P 55 (ptr n) 0) fun v_3i=>
aq (aW v_3i) fun a_3j=>aq (az P H_3g 3 a_3j) fun v_3k=>
ry P .max [3,3] (Call.mk (Callee.builtin Builtin.max) #[(.tmp 86),(.tmp 88)] #[3,3]) 3 [u11,v_3k] H_3g n_3b fun v_3l H_3m n_3n=>
aq (ax P 55 (ptr n) 1) fun v_3p=>
aq (aW v_3p) fun a_3q=>aq (az P H_3g 3 a_3q) fun v_3r=>
ry P .min [3,3] (Call.mk (Callee.builtin Builtin.min) #[(.tmp 90),(.tmp 92)] #[3,3]) 3 [u12,v_3r] H_3g n_3b fun v_3s H_3t n_3u=>
binK P .mul 3 (.const (.int .i64 7)) (.tmp 95) (.int .i64 7) u8 fun v_4e=>
binK P .add 3 (.tmp 96) (.tmp 97) v_4e u10 fun v_4g=>
aY P cal 90 [u2,v_4g] H_3g n_3b fun v_4h H_4i n_4j=>
binK P .rem 3 (.tmp 100) (.const (.int .i64 4)) v_4h (.int .i64 4) fun v_4m=>
binK P .eql 3 (.tmp 101) (.const (.int .i64 0)) v_4m (.int .i64 0) fun v_4n=>
ifK v_4n (
aq (aQ P 59 u7 u8) fun v_4r=>
aq (aW v_4r) fun a_4t=>aq (az P H_4i 44 a_4t) fun v_4s=>
aq (aQ P 44 v_4s u10) fun v_4w=>
aq (bJ P 3 v_4w v_3l H_4i) fun H_4y=>
j5 u1 u2 u3 u7 u8 u9 u10 H_4y n_4j) (
binK P .eql 3 (.tmp 101) (.const (.int .i64 1)) v_4m (.int .i64 1) fun v_4z=>
ifK v_4z (
aq (aQ P 59 u7 u8) fun v_53=>
aq (aW v_53) fun a_55=>aq (az P H_4i 44 a_55) fun v_54=>
aq (aQ P 44 v_54 u10) fun v_58=>
aq (bJ P 3 v_58 v_3s H_4i) fun H_5a=>
j5 u1 u2 u3 u7 u8 u9 u10 H_5a n_4j) (
aq (aQ P 59 u7 u8) fun v_5d=>
aq (aW v_5d) fun a_5e=>aq (az P H_4i 44 a_5e) fun v_5f=>
binK P .quo 3 (.tmp 108) (.const (.int .i64 4)) v_4h (.int .i64 4) fun v_5j=>
binK P .sub 3 (.tmp 110) (.tmp 111) v_3s v_3l fun v_5m=>
binK P .add 3 (.tmp 112) (.const (.int .i64 1)) v_5m (.int .i64 1) fun v_5n=>
binK P .rem 3 (.tmp 109) (.tmp 113) v_5j v_5n fun v_5o=>
binK P .add 3 (.tmp 107) (.tmp 114) v_3l v_5o fun v_5p=>
aq (aQ P 44 v_5f u10) fun v_5q=>
aq (bJ P 3 v_5q v_5p H_4i) fun H_5s=>
j5 u1 u2 u3 u7 u8 u9 u10 H_5s n_4j)))
noncomputable def C56_4 (cal:Cal) (k m1 m2 m3:Nat) (b1:V5) (b3:V7) (b4:V10) (u1 u2 u3 u7 u8 u9 u10 u11 u12 u13:Value) (H:Hp) (n:Nat):Res:=B56_4 cal k m1 m2 m3 (C56_5 cal k m1 m2 b1 b3) b1 b3 b4 u1 u2 u3 u7 u8 u9 u10 u11 u12 u13 H n
noncomputable def S56_4 (cal:Cal) (k m1 m2:Nat) (b1:V5) (b3:V7):Nat→V10:=fun m=>Nat.rec (motive:=fun _=>V10) (C56_4 cal k m1 m2 0 b1 b3 (fun _ _ _ _ _ _ _ _ _ _ _ _=>none)) (fun m ih=>C56_4 cal k m1 m2 (m+1) b1 b3 ih) m
theorem h56_4 (cal:Cal) (k m1 m2 m3:Nat) (u1 u2 u3 u7 u8 u9 u10 u11 u12 u13:Value) (H:Hp) (n:Nat):labK (E56_4 cal k m1 m2 m3) (Tr.set (Tr.set (Tr.set (Tr.set (Tr.set (Tr.set (Tr.set (Tr.set (Tr.set (Tr.set Tr.nil 13 (some u13)) 12 (some u12)) 11 (some u11)) 10 (some u10)) 9 (some u9)) 8 (some u8)) 7 (some u7)) 3 (some u3)) 2 (some u2)) 1 (some u1)) H n []=C56_4 cal k m1 m2 m3 (tY cal k m1) (Gx cal k m1 m2) (R56_4 cal k m1 m2 m3) u1 u2 u3 u7 u8 u9 u10 u11 u12 u13 H n:=by
  refine Eq.trans (b:=B56_4 cal k m1 m2 m3 (fun u1 u2 u3 u7 u8 u9 u10 H n=>labK (E56_5 cal k m1 m2) (Tr.set (Tr.set (Tr.set (Tr.set (Tr.set (Tr.set (Tr.set Tr.nil 10 (some u10)) 9 (some u9)) 8 (some u8)) 7 (some u7)) 3 (some u3)) 2 (some u2)) 1 (some u1)) H n []) (tY cal k m1) (Gx cal k m1 m2) (R56_4 cal k m1 m2 m3) u1 u2 u3 u7 u8 u9 u10 u11 u12 u13 H n) (by kernel_rfl) ?_
  rw[C56_4]
  have e5:(fun u1 u2 u3 u7 u8 u9 u10 H n=>labK (E56_5 cal k m1 m2) (Tr.set (Tr.set (Tr.set (Tr.set (Tr.set (Tr.set (Tr.set Tr.nil 10 (some u10)) 9 (some u9)) 8 (some u8)) 7 (some u7)) 3 (some u3)) 2 (some u2)) 1 (some u1)) H n [])=(C56_5 cal k m1 m2 (tY cal k m1) (Gx cal k m1 m2)):=by funext u1 u2 u3 u7 u8 u9 u10 H n; exact h56_5 ..
  rw[e5]
theorem q56_4 (cal:Cal) (k m1 m2:Nat):∀(m:Nat) (u1 u2 u3 u7 u8 u9 u10 u11 u12 u13:Value) (H:Hp) (n:Nat),labK (E56_4 cal k m1 m2 m) (Tr.set (Tr.set (Tr.set (Tr.set (Tr.set (Tr.set (Tr.set (Tr.set (Tr.set (Tr.set Tr.nil 13 (some u13)) 12 (some u12)) 11 (some u11)) 10 (some u10)) 9 (some u9)) 8 (some u8)) 7 (some u7)) 3 (some u3)) 2 (some u2)) 1 (some u1)) H n []=S56_4 cal k m1 m2 (tY cal k m1) (Gx cal k m1 m2) m u1 u2 u3 u7 u8 u9 u10 u11 u12 u13 H n
  | 0,u1,u2,u3,u7,u8,u9,u10,u11,u12,u13,H,n=>by
    rw[h56_4]
    have e:R56_4 cal k m1 m2 0=fun _ _ _ _ _ _ _ _ _ _ _ _=>none:=by funext u1 u2 u3 u7 u8 u9 u10 u11 u12 u13 H n; kernel_rfl
    rw[e]; rfl
  | m+1,u1,u2,u3,u7,u8,u9,u10,u11,u12,u13,H,n=>by
    rw[h56_4]
    have e:R56_4 cal k m1 m2 (m+1)=S56_4 cal k m1 m2 (tY cal k m1) (Gx cal k m1 m2) m:=by
      funext u1 u2 u3 u7 u8 u9 u10 u11 u12 u13 H n
      have e:R56_4 cal k m1 m2 (m+1) u1 u2 u3 u7 u8 u9 u10 u11 u12 u13 H n=labK (E56_4 cal k m1 m2 m) (Tr.set (Tr.set (Tr.set (Tr.set (Tr.set (Tr.set (Tr.set (Tr.set (Tr.set (Tr.set Tr.nil 13 (some u13)) 12 (some u12)) 11 (some u11)) 10 (some u10)) 9 (some u9)) 8 (some u8)) 7 (some u7)) 3 (some u3)) 2 (some u2)) 1 (some u1)) H n []:=by kernel_rfl
      rw[e]; exact q56_4 ..
    rw[e]; rfl
noncomputable def B56_3 (cal:Cal) (k m1 m2:Nat) (j4:V10) (j2:V5) (b1:V5) (b3:V7) (u1 u2 u3 u7 u8 u9 u10:Value) (H:Hp) (n:Nat):Res:=
aq (lenV P 44 u1) fun v_1f=>
binK P .lss 3 (.tmp 46) (.tmp 48) u10 v_1f fun v_1g=>
ifK v_1g (
binK P .add 3 (.tmp 54) (.const (.int .i64 1)) u10 (.int .i64 1) fun v_1m=>
j4 u1 u2 u3 u7 u8 u9 u10 u9 u9 v_1m H n) (
j2 u1 u2 u3 u7 u8 H n)
noncomputable def C56_3 (cal:Cal) (k m1 m2:Nat) (b1:V5) (b3:V7) (u1 u2 u3 u7 u8 u9 u10:Value) (H:Hp) (n:Nat):Res:=B56_3 cal k m1 m2 (S56_4 cal k m1 m2 b1 b3 m2) (QY cal k m1 b1) b1 b3 u1 u2 u3 u7 u8 u9 u10 H n
noncomputable def S56_3 (cal:Cal) (k m1:Nat) (b1:V5):Nat→V7:=fun m=>Nat.rec (motive:=fun _=>V7) (C56_3 cal k m1 0 b1 (fun _ _ _ _ _ _ _ _ _=>none)) (fun m ih=>C56_3 cal k m1 (m+1) b1 ih) m
theorem h56_3 (cal:Cal) (k m1 m2:Nat) (u1 u2 u3 u7 u8 u9 u10:Value) (H:Hp) (n:Nat):labK (E56_3 cal k m1 m2) (Tr.set (Tr.set (Tr.set (Tr.set (Tr.set (Tr.set (Tr.set Tr.nil 10 (some u10)) 9 (some u9)) 8 (some u8)) 7 (some u7)) 3 (some u3)) 2 (some u2)) 1 (some u1)) H n []=C56_3 cal k m1 m2 (tY cal k m1) (Gx cal k m1 m2) u1 u2 u3 u7 u8 u9 u10 H n:=by
  refine Eq.trans (b:=B56_3 cal k m1 m2 (fun u1 u2 u3 u7 u8 u9 u10 u11 u12 u13 H n=>labK (E56_4 cal k m1 m2 m2) (Tr.set (Tr.set (Tr.set (Tr.set (Tr.set (Tr.set (Tr.set (Tr.set (Tr.set (Tr.set Tr.nil 13 (some u13)) 12 (some u12)) 11 (some u11)) 10 (some u10)) 9 (some u9)) 8 (some u8)) 7 (some u7)) 3 (some u3)) 2 (some u2)) 1 (some u1)) H n []) (fun u1 u2 u3 u7 u8 H n=>labK (E56_2 cal k m1) (Tr.set (Tr.set (Tr.set (Tr.set (Tr.set Tr.nil 8 (some u8)) 7 (some u7)) 3 (some u3)) 2 (some u2)) 1 (some u1)) H n []) (tY cal k m1) (Gx cal k m1 m2) u1 u2 u3 u7 u8 u9 u10 H n) (by kernel_rfl) ?_
  rw[C56_3]
  have e4:(fun u1 u2 u3 u7 u8 u9 u10 u11 u12 u13 H n=>labK (E56_4 cal k m1 m2 m2) (Tr.set (Tr.set (Tr.set (Tr.set (Tr.set (Tr.set (Tr.set (Tr.set (Tr.set (Tr.set Tr.nil 13 (some u13)) 12 (some u12)) 11 (some u11)) 10 (some u10)) 9 (some u9)) 8 (some u8)) 7 (some u7)) 3 (some u3)) 2 (some u2)) 1 (some u1)) H n [])=(S56_4 cal k m1 m2 (tY cal k m1) (Gx cal k m1 m2) m2):=by funext u1 u2 u3 u7 u8 u9 u10 u11 u12 u13 H n; exact q56_4 ..
  rw[e4]
  have e2:(fun u1 u2 u3 u7 u8 H n=>labK (E56_2 cal k m1) (Tr.set (Tr.set (Tr.set (Tr.set (Tr.set Tr.nil 8 (some u8)) 7 (some u7)) 3 (some u3)) 2 (some u2)) 1 (some u1)) H n [])=(QY cal k m1 (tY cal k m1)):=by funext u1 u2 u3 u7 u8 H n; exact h56_2 ..
  rw[e2]
theorem q56_3 (cal:Cal) (k m1:Nat):∀(m:Nat) (u1 u2 u3 u7 u8 u9 u10:Value) (H:Hp) (n:Nat),labK (E56_3 cal k m1 m) (Tr.set (Tr.set (Tr.set (Tr.set (Tr.set (Tr.set (Tr.set Tr.nil 10 (some u10)) 9 (some u9)) 8 (some u8)) 7 (some u7)) 3 (some u3)) 2 (some u2)) 1 (some u1)) H n []=S56_3 cal k m1 (tY cal k m1) m u1 u2 u3 u7 u8 u9 u10 H n
  | 0,u1,u2,u3,u7,u8,u9,u10,H,n=>by
    rw[h56_3]
    have e:Gx cal k m1 0=fun _ _ _ _ _ _ _ _ _=>none:=by funext u1 u2 u3 u7 u8 u9 u10 H n; kernel_rfl
    rw[e]; rfl
  | m+1,u1,u2,u3,u7,u8,u9,u10,H,n=>by
    rw[h56_3]
    have e:Gx cal k m1 (m+1)=S56_3 cal k m1 (tY cal k m1) m:=by
      funext u1 u2 u3 u7 u8 u9 u10 H n
      have e:Gx cal k m1 (m+1) u1 u2 u3 u7 u8 u9 u10 H n=labK (E56_3 cal k m1 m) (Tr.set (Tr.set (Tr.set (Tr.set (Tr.set (Tr.set (Tr.set Tr.nil 10 (some u10)) 9 (some u9)) 8 (some u8)) 7 (some u7)) 3 (some u3)) 2 (some u2)) 1 (some u1)) H n []:=by kernel_rfl
      rw[e]; exact q56_3 ..
    rw[e]; rfl
noncomputable def B56_1 (cal:Cal) (k m1:Nat) (j2:V5) (j3:V7) (b1:V5) (u1 u2 u3 u7 u8:Value) (H:Hp) (n:Nat):Res:=
aq (lenV P 44 u1) fun v_e=>
binK P .lss 3 (.tmp 20) (.tmp 22) u8 v_e fun v_f=>
ifK v_f (
aq (aQ P 44 u1 u8) fun v_l=>
aq (aW v_l) fun a_n=>aq (az P H 3 a_n) fun v_m=>
binK P .lss 3 (.tmp 29) (.const (.int .i64 0)) v_m (.int .i64 0) fun v_o=>
ifK v_o (
j2 u1 u2 u3 u7 u8 H n) (
aq (lenV P 44 u1) fun v_s=>
stK (kJ P 44 v_s v_s (bare H n)) fun v_t H_u n_v=>
aq (aQ P 59 u7 u8) fun v_w=>
aq (bJ P 44 v_w v_t H_u) fun H_y=>
aq (ax P 26 u3 2) fun v_z=>
aq (aW v_z) fun a_10=>aq (az P H_y 24 a_10) fun v_11=>
aq (aQ P 44 u1 u8) fun v_14=>
aq (aW v_14) fun a_15=>aq (az P H_y 3 a_15) fun v_16=>
aq (aQ P 24 v_11 v_16) fun v_17=>
aq (ax P 94 v_17 0) fun v_18=>
aq (aW v_18) fun a_19=>aq (az P H_y 3 a_19) fun v_1a=>
j3 u1 u2 u3 u7 u8 v_1a (.int .i64 0) H_y n_v)) (
some (u7,H,n))
noncomputable def C56_1 (cal:Cal) (k m1:Nat) (b1:V5) (u1 u2 u3 u7 u8:Value) (H:Hp) (n:Nat):Res:=B56_1 cal k m1 (QY cal k m1 b1) (S56_3 cal k m1 b1 m1) b1 u1 u2 u3 u7 u8 H n
noncomputable def S56_1 (cal:Cal) (k:Nat):Nat→V5:=fun m=>Nat.rec (motive:=fun _=>V5) (C56_1 cal k 0 (fun _ _ _ _ _ _ _=>none)) (fun m ih=>C56_1 cal k (m+1) ih) m
theorem h56_1 (cal:Cal) (k m1:Nat) (u1 u2 u3 u7 u8:Value) (H:Hp) (n:Nat):labK (E56_1 cal k m1) (Tr.set (Tr.set (Tr.set (Tr.set (Tr.set Tr.nil 8 (some u8)) 7 (some u7)) 3 (some u3)) 2 (some u2)) 1 (some u1)) H n []=C56_1 cal k m1 (tY cal k m1) u1 u2 u3 u7 u8 H n:=by
  refine Eq.trans (b:=B56_1 cal k m1 (fun u1 u2 u3 u7 u8 H n=>labK (E56_2 cal k m1) (Tr.set (Tr.set (Tr.set (Tr.set (Tr.set Tr.nil 8 (some u8)) 7 (some u7)) 3 (some u3)) 2 (some u2)) 1 (some u1)) H n []) (fun u1 u2 u3 u7 u8 u9 u10 H n=>labK (E56_3 cal k m1 m1) (Tr.set (Tr.set (Tr.set (Tr.set (Tr.set (Tr.set (Tr.set Tr.nil 10 (some u10)) 9 (some u9)) 8 (some u8)) 7 (some u7)) 3 (some u3)) 2 (some u2)) 1 (some u1)) H n []) (tY cal k m1) u1 u2 u3 u7 u8 H n) (by kernel_rfl) ?_
  rw[C56_1]
  have e2:(fun u1 u2 u3 u7 u8 H n=>labK (E56_2 cal k m1) (Tr.set (Tr.set (Tr.set (Tr.set (Tr.set Tr.nil 8 (some u8)) 7 (some u7)) 3 (some u3)) 2 (some u2)) 1 (some u1)) H n [])=(QY cal k m1 (tY cal k m1)):=by funext u1 u2 u3 u7 u8 H n; exact h56_2 ..
  rw[e2]
  have e3:(fun u1 u2 u3 u7 u8 u9 u10 H n=>labK (E56_3 cal k m1 m1) (Tr.set (Tr.set (Tr.set (Tr.set (Tr.set (Tr.set (Tr.set Tr.nil 10 (some u10)) 9 (some u9)) 8 (some u8)) 7 (some u7)) 3 (some u3)) 2 (some u2)) 1 (some u1)) H n [])=(S56_3 cal k m1 (tY cal k m1) m1):=by funext u1 u2 u3 u7 u8 u9 u10 H n; exact q56_3 ..
  rw[e3]
theorem q56_1 (cal:Cal) (k:Nat):∀(m:Nat) (u1 u2 u3 u7 u8:Value) (H:Hp) (n:Nat),labK (E56_1 cal k m) (Tr.set (Tr.set (Tr.set (Tr.set (Tr.set Tr.nil 8 (some u8)) 7 (some u7)) 3 (some u3)) 2 (some u2)) 1 (some u1)) H n []=S56_1 cal k m u1 u2 u3 u7 u8 H n
  | 0,u1,u2,u3,u7,u8,H,n=>by
    rw[h56_1]
    have e:tY cal k 0=fun _ _ _ _ _ _ _=>none:=by funext u1 u2 u3 u7 u8 H n; kernel_rfl
    rw[e]; rfl
  | m+1,u1,u2,u3,u7,u8,H,n=>by
    rw[h56_1]
    have e:tY cal k (m+1)=S56_1 cal k m:=by
      funext u1 u2 u3 u7 u8 H n
      have e:tY cal k (m+1) u1 u2 u3 u7 u8 H n=labK (E56_1 cal k m) (Tr.set (Tr.set (Tr.set (Tr.set (Tr.set Tr.nil 8 (some u8)) 7 (some u7)) 3 (some u3)) 2 (some u2)) 1 (some u1)) H n []:=by kernel_rfl
      rw[e]; exact q56_1 ..
    rw[e]; rfl
noncomputable def B56_0 (cal:Cal) (k:Nat) (j1:V5) (v0 v1 v2:Value) (H:Hp) (n:Nat):Res:=
boxK 26 v0 H n fun v_1 H_2 n_3=>
aq (lenV P 44 v1) fun v_6=>
stK (kJ P 59 v_6 v_6 (bare H_2 n_3)) fun v_7 H_8 n_9=>
j1 v1 v2 v_1 v_7 (.int .i64 0) H_8 n_9
noncomputable def C56_0 (cal:Cal) (k:Nat) (v0 v1 v2:Value) (H:Hp) (n:Nat):Res:=B56_0 cal k (S56_1 cal k k) v0 v1 v2 H n
theorem h56_0 (cal:Cal) (k:Nat) (v0 v1 v2:Value) (H:Hp) (n:Nat):aK P cal A (k+1) 56 [v0,v1,v2] H n=C56_0 cal k v0 v1 v2 H n:=by
  have h:aK P cal A (k+1) 56 [v0,v1,v2] H n=B56_0 cal k (fun u1 u2 u3 u7 u8 H n=>labK (E56_1 cal k k) (Tr.set (Tr.set (Tr.set (Tr.set (Tr.set Tr.nil 8 (some u8)) 7 (some u7)) 3 (some u3)) 2 (some u2)) 1 (some u1)) H n []) v0 v1 v2 H n:=by
    rw[bW (fn:=Go.Proofs.Try.f56) (c:=eZ) (rs:=bX) (by kernel_rfl) (by kernel_rfl) (by kernel_rfl) (by kernel_rfl)]
    kernel_rfl
  rw[h,C56_0]
  have e1:(fun u1 u2 u3 u7 u8 H n=>labK (E56_1 cal k k) (Tr.set (Tr.set (Tr.set (Tr.set (Tr.set Tr.nil 8 (some u8)) 7 (some u7)) 3 (some u3)) 2 (some u2)) 1 (some u1)) H n [])=(S56_1 cal k k):=by funext u1 u2 u3 u7 u8 H n; exact q56_1 ..
  rw[e1]
noncomputable def uz:Code:=cV 58
noncomputable def gV:List ResultVar:=dW 58
noncomputable def K58_p (cal:Cal) (k:Nat):KR:=(cutK (A 58).c (ay P cal (aw P cal k) none 58 (cR uz) (Lv.b (A 58)) (av P gV) X0 (av P gV)))
noncomputable def K58_pr (cal:Cal) (k:Nat):KR:=(cutK (Lv.b (A 58)).c (ay P cal (aw P cal k) none 58 (cR (cR uz)) (Lv.b (Lv.b (A 58))) (av P gV) X0 (av P gV)))
noncomputable def K58_prl (cal:Cal) (k:Nat):KR:=(cutK (Lv.a (Lv.b (A 58))).c (ay P cal (aw P cal k) none 58 (cR (cL (cR uz))) (Lv.b (Lv.a (Lv.b (A 58)))) (K58_pr cal k) X0 (av P gV)))
noncomputable def K58_prlrl (cal:Cal) (k:Nat):KR:=(cutK (Lv.a (Lv.b (Lv.a (Lv.b (A 58))))).c (ay P cal (aw P cal k) none 58 (cR (cL (cR (cL (cR uz))))) (Lv.b (Lv.a (Lv.b (Lv.a (Lv.b (A 58)))))) (K58_pr cal k) X0 (av P gV)))
noncomputable def Xx (cal:Cal) (k:Nat):KR:=(cutK (Lv.b (Lv.b (A 58))).c (ay P cal (aw P cal k) none 58 (cR (cR (cR uz))) (Lv.b (Lv.b (Lv.b (A 58)))) (av P gV) X0 (av P gV)))
noncomputable def K58_prrl (cal:Cal) (k:Nat):KR:=(cutK (Lv.a (Lv.b (Lv.b (A 58)))).c (ay P cal (aw P cal k) none 58 (cR (cL (cR (cR uz)))) (Lv.b (Lv.a (Lv.b (Lv.b (A 58))))) (Xx cal k) X0 (av P gV)))
noncomputable def vY (cal:Cal) (k:Nat):XR:=(upX 0 (Xx cal k) X0)
noncomputable def Pz (cal:Cal) (k:Nat) (m1:Nat):KR:=(fun T H n D=>aw P cal m1 (Lv.a (Lv.b (Lv.a (Lv.b (Lv.b (A 58)))))) none 58 (cL (cR (cL (cR (cR uz))))) (Xx cal k) (vY cal k) (av P gV) (cutT (Lv.a (Lv.b (Lv.a (Lv.b (Lv.b (A 58)))))).c T) H n D)
noncomputable def K58_prrlrll (cal:Cal) (k:Nat) (m1:Nat):KR:=(cutK (Lv.a (Lv.a (Lv.b (Lv.a (Lv.b (Lv.b (A 58))))))).c (ay P cal (aw P cal m1) none 58 (cR (cL (cL (cR (cL (cR (cR uz))))))) (Lv.b (Lv.a (Lv.a (Lv.b (Lv.a (Lv.b (Lv.b (A 58)))))))) (Pz cal k m1) (vY cal k) (av P gV)))
noncomputable def K58_prrlrlll (cal:Cal) (k:Nat) (m1:Nat):KR:=(cutK (Lv.a (Lv.a (Lv.a (Lv.b (Lv.a (Lv.b (Lv.b (A 58)))))))).c (ay P cal (aw P cal m1) none 58 (cR (cL (cL (cL (cR (cL (cR (cR uz)))))))) (Lv.b (Lv.a (Lv.a (Lv.a (Lv.b (Lv.a (Lv.b (Lv.b (A 58))))))))) (K58_prrlrll cal k m1) (vY cal k) (av P gV)))
noncomputable def IV (cal:Cal) (k:Nat) (m1:Nat):KR:=(cutK (Lv.b (Lv.a (Lv.a (Lv.b (Lv.a (Lv.b (Lv.b (A 58)))))))).c (ay P cal (aw P cal m1) none 58 (cR (cR (cL (cL (cR (cL (cR (cR uz)))))))) (Lv.b (Lv.b (Lv.a (Lv.a (Lv.b (Lv.a (Lv.b (Lv.b (A 58))))))))) (Pz cal k m1) (vY cal k) (av P gV)))
noncomputable def K58_pxrrlrllrl (cal:Cal) (k:Nat) (m1:Nat):XR:=(upX 1 (IV cal k m1) (vY cal k))
noncomputable def K58_prrlrllrll (cal:Cal) (k:Nat) (m1:Nat):KR:=(cutK (Lv.a (Lv.a (Lv.b (Lv.a (Lv.a (Lv.b (Lv.a (Lv.b (Lv.b (A 58)))))))))).c (ay P cal (aw P cal m1) none 58 (cR (cL (cL (cR (cL (cL (cR (cL (cR (cR uz)))))))))) (Lv.b (Lv.a (Lv.a (Lv.b (Lv.a (Lv.a (Lv.b (Lv.a (Lv.b (Lv.b (A 58))))))))))) (IV cal k m1) (K58_pxrrlrllrl cal k m1) (av P gV)))
noncomputable def K58_prrlrllrllrl (cal:Cal) (k:Nat) (m1:Nat):KR:=(cutK (Lv.a (Lv.b (Lv.a (Lv.a (Lv.b (Lv.a (Lv.a (Lv.b (Lv.a (Lv.b (Lv.b (A 58)))))))))))).c (ay P cal (aw P cal m1) none 58 (cR (cL (cR (cL (cL (cR (cL (cL (cR (cL (cR (cR uz)))))))))))) (Lv.b (Lv.a (Lv.b (Lv.a (Lv.a (Lv.b (Lv.a (Lv.a (Lv.b (Lv.a (Lv.b (Lv.b (A 58))))))))))))) (IV cal k m1) (K58_pxrrlrllrl cal k m1) (av P gV)))
noncomputable def K58_prrr (cal:Cal) (k:Nat):KR:=(cutK (Lv.b (Lv.b (Lv.b (A 58)))).c (ay P cal (aw P cal k) none 58 (cR (cR (cR (cR uz)))) (Lv.b (Lv.b (Lv.b (Lv.b (A 58))))) (av P gV) X0 (av P gV)))
noncomputable def E58_1 (cal:Cal) (k m1:Nat):KR:=ay P cal (aw P cal m1) none 58 (cL (cL (cR (cL (cR (cR uz)))))) (Lv.a (Lv.a (Lv.b (Lv.a (Lv.b (Lv.b (A 58))))))) (Pz cal k m1) (vY cal k) (av P gV)
noncomputable def R58_1 (cal:Cal) (k m1:Nat):V3:=fun u1 u2 u5 H n=>aw P cal m1 (Lv.a (Lv.b (Lv.a (Lv.b (Lv.b (A 58)))))) none 58 (cL (cR (cL (cR (cR uz))))) (Xx cal k) (vY cal k) (av P gV) (Tr.set (Tr.set (Tr.set Tr.nil 5 (some u5)) 2 (some u2)) 1 (some u1)) H n []
noncomputable def B58_1 (cal:Cal) (k m1:Nat) (b1:V3) (u1 u2 u5:Value) (H:Hp) (n:Nat):Res:=
aq (lenV P 44 u1) fun v_g=>
binK P .lss 3 (.tmp 12) (.tmp 14) u5 v_g fun v_h=>
ifK v_h (
aq (aQ P 44 u1 u5) fun v_k=>
aq (aW v_k) fun a_l=>aq (az P H 3 a_l) fun v_m=>
binK P .neq 3 (.tmp 21) (.const (.int .i64 (-1))) v_m (.int .i64 (-1)) fun v_n=>
cz v_n true (fun k_p=>
k_p u1 .p H n) .p H n fun v_q x_r H_s n_t=>
cz v_n true (fun k_v=>
k_v u5 .p H_s n_t) .p H_s n_t fun v_w x_x H_y n_z=>
cz v_n true (fun k_11=>
aq (aQ P 44 v_q v_w) fun v_16=>
k_11 v_16 .p H_y n_z) .p H_y n_z fun v_12 x_13 H_14 n_15=>
cz v_n true (fun k_17=>
aq (aW v_12) fun a_1c=>aq (az P H_14 3 a_1c) fun v_1d=>
k_17 v_1d (.l 3 a_1c) H_14 n_15) .p H_14 n_15 fun v_18 x_19 H_1a n_1b=>
cz v_n true (fun k_1e=>
aq (ax P 26 u2 2) fun v_1j=>
k_1e v_1j .p H_1a n_1b) .p H_1a n_1b fun v_1f x_1g H_1h n_1i=>
cz v_n true (fun k_1k=>
aq (aW v_1f) fun a_1p=>aq (az P H_1h 24 a_1p) fun v_1q=>
k_1k v_1q (.l 24 a_1p) H_1h n_1i) .p H_1h n_1i fun v_1l x_1m H_1n n_1o=>
cz v_n true (fun k_1r=>
aq (lenV P 24 v_1l) fun v_1w=>
k_1r v_1w .p H_1n n_1o) .p H_1n n_1o fun v_1s x_1t H_1u n_1v=>
cz v_n true (fun k_1x=>
binK P .sub 3 (.tmp 30) (.const (.int .i64 1)) v_1s (.int .i64 1) fun v_22=>
k_1x v_22 .p H_1u n_1v) .p H_1u n_1v fun v_1y x_1z H_20 n_21=>
cz v_n true (fun k_23=>
aY P cal 32 [v_18,(.int .i64 0),v_1y] H_20 n_21 fun v_28 H_29 n_2a=>
k_23 v_28 .e H_29 n_2a) .e H_20 n_21 fun v_24 x_25 H_26 n_27=>
cz v_n true (fun k_2b=>
aq (eW P v_24 (Op.unary UnOp.not v_24)) fun v_2g=>
k_2b v_2g .p H_26 n_27) .p H_26 n_27 fun v_2c x_2d H_2e n_2f=>
cz v_n true (fun k_2h=>
k_2h v_2c .p H_2e n_2f) .p H_2e n_2f fun v_2i x_2j H_2k n_2l=>
cz v_2i false (fun k_2n=>
aq (aW u2) fun a_2s=>aq (az P H_2k 26 a_2s) fun v_2t=>
k_2n v_2t (.l 26 a_2s) H_2k n_2l) .p H_2k n_2l fun v_2o x_2p H_2q n_2r=>
cz v_2i false (fun k_2u=>
k_2u u1 .p H_2q n_2r) .p H_2q n_2r fun v_2v x_2w H_2x n_2y=>
cz v_2i false (fun k_30=>
k_30 u5 .p H_2x n_2y) .p H_2x n_2y fun v_31 x_32 H_33 n_34=>
cz v_2i false (fun k_36=>
aq (aQ P 44 v_2v v_31) fun v_3b=>
k_36 v_3b .p H_33 n_34) .p H_33 n_34 fun v_37 x_38 H_39 n_3a=>
cz v_2i false (fun k_3c=>
aq (aW v_37) fun a_3h=>aq (az P H_39 3 a_3h) fun v_3i=>
k_3c v_3i (.l 3 a_3h) H_39 n_3a) .p H_39 n_3a fun v_3d x_3e H_3f n_3g=>
cz v_2i false (fun k_3j=>
k_3j u5 .p H_3f n_3g) .p H_3f n_3g fun v_3k x_3l H_3m n_3n=>
cz v_2i false (fun k_3p=>
aY P cal 21 [v_2o,v_3d,v_3k] H_3m n_3n fun v_3u H_3v n_3w=>
k_3p v_3u .e H_3v n_3w) .e H_3m n_3n fun v_3q x_3r H_3s n_3t=>
cz v_2i false (fun k_3x=>
aq (eW P v_3q (Op.unary UnOp.not v_3q)) fun v_42=>
k_3x v_42 .p H_3s n_3t) .p H_3s n_3t fun v_3y x_3z H_40 n_41=>
cz v_n true (fun k_43=>
aq (eQ v_2i (.bool true) v_3y) fun v_48=>
k_43 v_48 .p H_40 n_41) .p H_40 n_41 fun v_44 x_45 H_46 n_47=>
aq (eQ v_n v_44 (.bool false)) fun v_49=>
ifK v_49 (
some ((.bool false),H_46,n_47)) (
binK P .add 3 (.tmp 16) (.const (.int .i64 1)) u5 (.int .i64 1) fun v_4c=>
b1 u1 u2 v_4c H_46 n_47)) (
some ((.bool true),H,n))
noncomputable def C58_1 (cal:Cal) (k m1:Nat) (b1:V3) (u1 u2 u5:Value) (H:Hp) (n:Nat):Res:=B58_1 cal k m1 b1 u1 u2 u5 H n
noncomputable def S58_1 (cal:Cal) (k:Nat):Nat→V3:=fun m=>Nat.rec (motive:=fun _=>V3) (C58_1 cal k 0 (fun _ _ _ _ _=>none)) (fun m ih=>C58_1 cal k (m+1) ih) m
theorem h58_1 (cal:Cal) (k m1:Nat) (u1 u2 u5:Value) (H:Hp) (n:Nat):labK (E58_1 cal k m1) (Tr.set (Tr.set (Tr.set Tr.nil 5 (some u5)) 2 (some u2)) 1 (some u1)) H n []=C58_1 cal k m1 (R58_1 cal k m1) u1 u2 u5 H n:=by
  refine Eq.trans (b:=B58_1 cal k m1 (R58_1 cal k m1) u1 u2 u5 H n) (by kernel_rfl) ?_
  rw[C58_1]
theorem q58_1 (cal:Cal) (k:Nat):∀(m:Nat) (u1 u2 u5:Value) (H:Hp) (n:Nat),labK (E58_1 cal k m) (Tr.set (Tr.set (Tr.set Tr.nil 5 (some u5)) 2 (some u2)) 1 (some u1)) H n []=S58_1 cal k m u1 u2 u5 H n
  | 0,u1,u2,u5,H,n=>by
    rw[h58_1]
    have e:R58_1 cal k 0=fun _ _ _ _ _=>none:=by funext u1 u2 u5 H n; kernel_rfl
    rw[e]; rfl
  | m+1,u1,u2,u5,H,n=>by
    rw[h58_1]
    have e:R58_1 cal k (m+1)=S58_1 cal k m:=by
      funext u1 u2 u5 H n
      have e:R58_1 cal k (m+1) u1 u2 u5 H n=labK (E58_1 cal k m) (Tr.set (Tr.set (Tr.set Tr.nil 5 (some u5)) 2 (some u2)) 1 (some u1)) H n []:=by kernel_rfl
      rw[e]; exact q58_1 ..
    rw[e]; rfl
noncomputable def B58_0 (cal:Cal) (k:Nat) (j1:V3) (v0 v1:Value) (H:Hp) (n:Nat):Res:=
boxK 26 v0 H n fun v_1 H_2 n_3=>
aq (lenV P 44 v1) fun v_6=>
aq (ax P 26 v_1 0) fun v_7=>
aq (aW v_7) fun a_9=>aq (az P H_2 22 a_9) fun v_8=>
aq (lenV P 22 v_8) fun v_a=>
binK P .neq 3 (.tmp 7) (.tmp 10) v_6 v_a fun v_b=>
ifK v_b (
some ((.bool false),H_2,n_3)) (
j1 v1 v_1 (.int .i64 0) H_2 n_3)
noncomputable def C58_0 (cal:Cal) (k:Nat) (v0 v1:Value) (H:Hp) (n:Nat):Res:=B58_0 cal k (S58_1 cal k k) v0 v1 H n
theorem h58_0 (cal:Cal) (k:Nat) (v0 v1:Value) (H:Hp) (n:Nat):aK P cal A (k+1) 58 [v0,v1] H n=C58_0 cal k v0 v1 H n:=by
  have h:aK P cal A (k+1) 58 [v0,v1] H n=B58_0 cal k (fun u1 u2 u5 H n=>labK (E58_1 cal k k) (Tr.set (Tr.set (Tr.set Tr.nil 5 (some u5)) 2 (some u2)) 1 (some u1)) H n []) v0 v1 H n:=by
    rw[bW (fn:=Go.Proofs.Try.f58) (c:=uz) (rs:=gV) (by kernel_rfl) (by kernel_rfl) (by kernel_rfl) (by kernel_rfl)]
    kernel_rfl
  rw[h,C58_0]
  have e1:(fun u1 u2 u5 H n=>labK (E58_1 cal k k) (Tr.set (Tr.set (Tr.set Tr.nil 5 (some u5)) 2 (some u2)) 1 (some u1)) H n [])=(S58_1 cal k k):=by funext u1 u2 u5 H n; exact q58_1 ..
  rw[e1]
end Go.Proofs.Ytekajfobmnedjaa.G
