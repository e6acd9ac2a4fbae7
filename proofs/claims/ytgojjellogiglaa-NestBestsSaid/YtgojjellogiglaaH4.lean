/- The texts of functions, each with the proof that the evaluator says the same. -/
import Derived.Test.YtgojjellogiglaaH1
open Go Go.Ev
set_option maxRecDepth 1000000
set_option linter.unusedVariables false
noncomputable section
namespace Go.Proofs.Ytgojjellogiglaa.G
noncomputable def dQ:Code:=cq 63
noncomputable def bk:List ResultVar:=dJ 63
noncomputable def K63_p (cal:Cal) (k:Nat):KR:=(cutK (A 63).c (ay P cal (aw P cal k) none 63 (cR dQ) (Lv.b (A 63)) (av P bk) X0 (av P bk)))
noncomputable def K63_pr (cal:Cal) (k:Nat):KR:=(cutK (Lv.b (A 63)).c (ay P cal (aw P cal k) none 63 (cR (cR dQ)) (Lv.b (Lv.b (A 63))) (av P bk) X0 (av P bk)))
noncomputable def K63_prl (cal:Cal) (k:Nat):KR:=(cutK (Lv.a (Lv.b (A 63))).c (ay P cal (aw P cal k) none 63 (cR (cL (cR dQ))) (Lv.b (Lv.a (Lv.b (A 63)))) (K63_pr cal k) X0 (av P bk)))
noncomputable def K63_prlrl (cal:Cal) (k:Nat):KR:=(cutK (Lv.a (Lv.b (Lv.a (Lv.b (A 63))))).c (ay P cal (aw P cal k) none 63 (cR (cL (cR (cL (cR dQ))))) (Lv.b (Lv.a (Lv.b (Lv.a (Lv.b (A 63)))))) (K63_pr cal k) X0 (av P bk)))
noncomputable def K63_prr (cal:Cal) (k:Nat):KR:=(cutK (Lv.b (Lv.b (A 63))).c (ay P cal (aw P cal k) none 63 (cR (cR (cR dQ))) (Lv.b (Lv.b (Lv.b (A 63)))) (av P bk) X0 (av P bk)))
noncomputable def K63_prrl (cal:Cal) (k:Nat):KR:=(cutK (Lv.a (Lv.b (Lv.b (A 63)))).c (ay P cal (aw P cal k) none 63 (cR (cL (cR (cR dQ)))) (Lv.b (Lv.a (Lv.b (Lv.b (A 63))))) (K63_prr cal k) X0 (av P bk)))
noncomputable def K63_prrlrl (cal:Cal) (k:Nat):KR:=(cutK (Lv.a (Lv.b (Lv.a (Lv.b (Lv.b (A 63)))))).c (ay P cal (aw P cal k) none 63 (cR (cL (cR (cL (cR (cR dQ)))))) (Lv.b (Lv.a (Lv.b (Lv.a (Lv.b (Lv.b (A 63))))))) (K63_prr cal k) X0 (av P bk)))
noncomputable def RJ (cal:Cal) (k:Nat):KR:=(cutK (Lv.b (Lv.b (Lv.b (A 63)))).c (ay P cal (aw P cal k) none 63 (cR (cR (cR (cR dQ)))) (Lv.b (Lv.b (Lv.b (Lv.b (A 63))))) (av P bk) X0 (av P bk)))
noncomputable def K63_prrrl (cal:Cal) (k:Nat):KR:=(cutK (Lv.a (Lv.b (Lv.b (Lv.b (A 63))))).c (ay P cal (aw P cal k) none 63 (cR (cL (cR (cR (cR dQ))))) (Lv.b (Lv.a (Lv.b (Lv.b (Lv.b (A 63)))))) (RJ cal k) X0 (av P bk)))
noncomputable def rk (cal:Cal) (k:Nat):XR:=(upX 0 (RJ cal k) X0)
noncomputable def KW (cal:Cal) (k:Nat) (m1:Nat):KR:=(fun T H n D=>aw P cal m1 (Lv.a (Lv.b (Lv.a (Lv.b (Lv.b (Lv.b (A 63))))))) none 63 (cL (cR (cL (cR (cR (cR dQ)))))) (RJ cal k) (rk cal k) (av P bk) (cutT (Lv.a (Lv.b (Lv.a (Lv.b (Lv.b (Lv.b (A 63))))))).c T) H n D)
noncomputable def K63_prrrlrll (cal:Cal) (k:Nat) (m1:Nat):KR:=(cutK (Lv.a (Lv.a (Lv.b (Lv.a (Lv.b (Lv.b (Lv.b (A 63)))))))).c (ay P cal (aw P cal m1) none 63 (cR (cL (cL (cR (cL (cR (cR (cR dQ)))))))) (Lv.b (Lv.a (Lv.a (Lv.b (Lv.a (Lv.b (Lv.b (Lv.b (A 63))))))))) (KW cal k m1) (rk cal k) (av P bk)))
noncomputable def K63_prrrlrlll (cal:Cal) (k:Nat) (m1:Nat):KR:=(cutK (Lv.a (Lv.a (Lv.a (Lv.b (Lv.a (Lv.b (Lv.b (Lv.b (A 63))))))))).c (ay P cal (aw P cal m1) none 63 (cR (cL (cL (cL (cR (cL (cR (cR (cR dQ))))))))) (Lv.b (Lv.a (Lv.a (Lv.a (Lv.b (Lv.a (Lv.b (Lv.b (Lv.b (A 63)))))))))) (K63_prrrlrll cal k m1) (rk cal k) (av P bk)))
noncomputable def DQ (cal:Cal) (k:Nat) (m1:Nat):KR:=(cutK (Lv.b (Lv.a (Lv.a (Lv.b (Lv.a (Lv.b (Lv.b (Lv.b (A 63))))))))).c (ay P cal (aw P cal m1) none 63 (cR (cR (cL (cL (cR (cL (cR (cR (cR dQ))))))))) (Lv.b (Lv.b (Lv.a (Lv.a (Lv.b (Lv.a (Lv.b (Lv.b (Lv.b (A 63)))))))))) (KW cal k m1) (rk cal k) (av P bk)))
noncomputable def K63_pxrrrlrllrl (cal:Cal) (k:Nat) (m1:Nat):XR:=(upX 1 (DQ cal k m1) (rk cal k))
noncomputable def K63_prrrlrllrll (cal:Cal) (k:Nat) (m1:Nat):KR:=(cutK (Lv.a (Lv.a (Lv.b (Lv.a (Lv.a (Lv.b (Lv.a (Lv.b (Lv.b (Lv.b (A 63))))))))))).c (ay P cal (aw P cal m1) none 63 (cR (cL (cL (cR (cL (cL (cR (cL (cR (cR (cR dQ))))))))))) (Lv.b (Lv.a (Lv.a (Lv.b (Lv.a (Lv.a (Lv.b (Lv.a (Lv.b (Lv.b (Lv.b (A 63)))))))))))) (DQ cal k m1) (K63_pxrrrlrllrl cal k m1) (av P bk)))
noncomputable def K63_prrrlrllrllrl (cal:Cal) (k:Nat) (m1:Nat):KR:=(cutK (Lv.a (Lv.b (Lv.a (Lv.a (Lv.b (Lv.a (Lv.a (Lv.b (Lv.a (Lv.b (Lv.b (Lv.b (A 63))))))))))))).c (ay P cal (aw P cal m1) none 63 (cR (cL (cR (cL (cL (cR (cL (cL (cR (cL (cR (cR (cR dQ))))))))))))) (Lv.b (Lv.a (Lv.b (Lv.a (Lv.a (Lv.b (Lv.a (Lv.a (Lv.b (Lv.a (Lv.b (Lv.b (Lv.b (A 63)))))))))))))) (DQ cal k m1) (K63_pxrrrlrllrl cal k m1) (av P bk)))
noncomputable def Mx (cal:Cal) (k:Nat):KR:=(cutK (Lv.b (Lv.b (Lv.b (Lv.b (A 63))))).c (ay P cal (aw P cal k) none 63 (cR (cR (cR (cR (cR dQ))))) (Lv.b (Lv.b (Lv.b (Lv.b (Lv.b (A 63)))))) (av P bk) X0 (av P bk)))
noncomputable def K63_prrrrl (cal:Cal) (k:Nat):KR:=(cutK (Lv.a (Lv.b (Lv.b (Lv.b (Lv.b (A 63)))))).c (ay P cal (aw P cal k) none 63 (cR (cL (cR (cR (cR (cR dQ)))))) (Lv.b (Lv.a (Lv.b (Lv.b (Lv.b (Lv.b (A 63))))))) (Mx cal k) X0 (av P bk)))
noncomputable def pJ (cal:Cal) (k:Nat):XR:=(upX 2 (Mx cal k) X0)
noncomputable def Iq (cal:Cal) (k:Nat) (m1:Nat):KR:=(fun T H n D=>aw P cal m1 (Lv.a (Lv.b (Lv.a (Lv.b (Lv.b (Lv.b (Lv.b (A 63)))))))) none 63 (cL (cR (cL (cR (cR (cR (cR dQ))))))) (Mx cal k) (pJ cal k) (av P bk) (cutT (Lv.a (Lv.b (Lv.a (Lv.b (Lv.b (Lv.b (Lv.b (A 63)))))))).c T) H n D)
noncomputable def K63_prrrrlrll (cal:Cal) (k:Nat) (m1:Nat):KR:=(cutK (Lv.a (Lv.a (Lv.b (Lv.a (Lv.b (Lv.b (Lv.b (Lv.b (A 63))))))))).c (ay P cal (aw P cal m1) none 63 (cR (cL (cL (cR (cL (cR (cR (cR (cR dQ))))))))) (Lv.b (Lv.a (Lv.a (Lv.b (Lv.a (Lv.b (Lv.b (Lv.b (Lv.b (A 63)))))))))) (Iq cal k m1) (pJ cal k) (av P bk)))
noncomputable def K63_prrrrlrlll (cal:Cal) (k:Nat) (m1:Nat):KR:=(cutK (Lv.a (Lv.a (Lv.a (Lv.b (Lv.a (Lv.b (Lv.b (Lv.b (Lv.b (A 63)))))))))).c (ay P cal (aw P cal m1) none 63 (cR (cL (cL (cL (cR (cL (cR (cR (cR (cR dQ)))))))))) (Lv.b (Lv.a (Lv.a (Lv.a (Lv.b (Lv.a (Lv.b (Lv.b (Lv.b (Lv.b (A 63))))))))))) (K63_prrrrlrll cal k m1) (pJ cal k) (av P bk)))
noncomputable def wZ (cal:Cal) (k:Nat) (m1:Nat):KR:=(cutK (Lv.b (Lv.a (Lv.a (Lv.b (Lv.a (Lv.b (Lv.b (Lv.b (Lv.b (A 63)))))))))).c (ay P cal (aw P cal m1) none 63 (cR (cR (cL (cL (cR (cL (cR (cR (cR (cR dQ)))))))))) (Lv.b (Lv.b (Lv.a (Lv.a (Lv.b (Lv.a (Lv.b (Lv.b (Lv.b (Lv.b (A 63))))))))))) (Iq cal k m1) (pJ cal k) (av P bk)))
noncomputable def yQ (cal:Cal) (k:Nat) (m1:Nat):XR:=(upX 3 (wZ cal k m1) (pJ cal k))
noncomputable def K63_prrrrlrllrll (cal:Cal) (k:Nat) (m1:Nat):KR:=(cutK (Lv.a (Lv.a (Lv.b (Lv.a (Lv.a (Lv.b (Lv.a (Lv.b (Lv.b (Lv.b (Lv.b (A 63)))))))))))).c (ay P cal (aw P cal m1) none 63 (cR (cL (cL (cR (cL (cL (cR (cL (cR (cR (cR (cR dQ)))))))))))) (Lv.b (Lv.a (Lv.a (Lv.b (Lv.a (Lv.a (Lv.b (Lv.a (Lv.b (Lv.b (Lv.b (Lv.b (A 63))))))))))))) (wZ cal k m1) (yQ cal k m1) (av P bk)))
noncomputable def K63_prrrrlrllrllr (cal:Cal) (k:Nat) (m1:Nat):KR:=(cutK (Lv.b (Lv.a (Lv.a (Lv.b (Lv.a (Lv.a (Lv.b (Lv.a (Lv.b (Lv.b (Lv.b (Lv.b (A 63))))))))))))).c (ay P cal (aw P cal m1) none 63 (cR (cR (cL (cL (cR (cL (cL (cR (cL (cR (cR (cR (cR dQ))))))))))))) (Lv.b (Lv.b (Lv.a (Lv.a (Lv.b (Lv.a (Lv.a (Lv.b (Lv.a (Lv.b (Lv.b (Lv.b (Lv.b (A 63)))))))))))))) (wZ cal k m1) (yQ cal k m1) (av P bk)))
noncomputable def K63_prrrrlrllrllrrl (cal:Cal) (k:Nat) (m1:Nat):KR:=(cutK (Lv.a (Lv.b (Lv.b (Lv.a (Lv.a (Lv.b (Lv.a (Lv.a (Lv.b (Lv.a (Lv.b (Lv.b (Lv.b (Lv.b (A 63))))))))))))))).c (ay P cal (aw P cal m1) none 63 (cR (cL (cR (cR (cL (cL (cR (cL (cL (cR (cL (cR (cR (cR (cR dQ))))))))))))))) (Lv.b (Lv.a (Lv.b (Lv.b (Lv.a (Lv.a (Lv.b (Lv.a (Lv.a (Lv.b (Lv.a (Lv.b (Lv.b (Lv.b (Lv.b (A 63)))))))))))))))) (wZ cal k m1) (yQ cal k m1) (av P bk)))
noncomputable def Iv (cal:Cal) (k:Nat):KR:=(cutK (Lv.b (Lv.b (Lv.b (Lv.b (Lv.b (A 63)))))).c (ay P cal (aw P cal k) none 63 (cR (cR (cR (cR (cR (cR dQ)))))) (Lv.b (Lv.b (Lv.b (Lv.b (Lv.b (Lv.b (A 63))))))) (av P bk) X0 (av P bk)))
noncomputable def K63_prrrrrl (cal:Cal) (k:Nat):KR:=(cutK (Lv.a (Lv.b (Lv.b (Lv.b (Lv.b (Lv.b (A 63))))))).c (ay P cal (aw P cal k) none 63 (cR (cL (cR (cR (cR (cR (cR dQ))))))) (Lv.b (Lv.a (Lv.b (Lv.b (Lv.b (Lv.b (Lv.b (A 63)))))))) (Iv cal k) X0 (av P bk)))
noncomputable def ov (cal:Cal) (k:Nat):XR:=(upX 4 (Iv cal k) X0)
noncomputable def DV (cal:Cal) (k:Nat) (m1:Nat):KR:=(fun T H n D=>aw P cal m1 (Lv.a (Lv.b (Lv.a (Lv.b (Lv.b (Lv.b (Lv.b (Lv.b (A 63))))))))) none 63 (cL (cR (cL (cR (cR (cR (cR (cR dQ)))))))) (Iv cal k) (ov cal k) (av P bk) (cutT (Lv.a (Lv.b (Lv.a (Lv.b (Lv.b (Lv.b (Lv.b (Lv.b (A 63))))))))).c T) H n D)
noncomputable def K63_prrrrrlrll (cal:Cal) (k:Nat) (m1:Nat):KR:=(cutK (Lv.a (Lv.a (Lv.b (Lv.a (Lv.b (Lv.b (Lv.b (Lv.b (Lv.b (A 63)))))))))).c (ay P cal (aw P cal m1) none 63 (cR (cL (cL (cR (cL (cR (cR (cR (cR (cR dQ)))))))))) (Lv.b (Lv.a (Lv.a (Lv.b (Lv.a (Lv.b (Lv.b (Lv.b (Lv.b (Lv.b (A 63))))))))))) (DV cal k m1) (ov cal k) (av P bk)))
noncomputable def K63_prrrrrlrlll (cal:Cal) (k:Nat) (m1:Nat):KR:=(cutK (Lv.a (Lv.a (Lv.a (Lv.b (Lv.a (Lv.b (Lv.b (Lv.b (Lv.b (Lv.b (A 63))))))))))).c (ay P cal (aw P cal m1) none 63 (cR (cL (cL (cL (cR (cL (cR (cR (cR (cR (cR dQ))))))))))) (Lv.b (Lv.a (Lv.a (Lv.a (Lv.b (Lv.a (Lv.b (Lv.b (Lv.b (Lv.b (Lv.b (A 63)))))))))))) (K63_prrrrrlrll cal k m1) (ov cal k) (av P bk)))
noncomputable def lW (cal:Cal) (k:Nat) (m1:Nat):KR:=(cutK (Lv.b (Lv.a (Lv.a (Lv.b (Lv.a (Lv.b (Lv.b (Lv.b (Lv.b (Lv.b (A 63))))))))))).c (ay P cal (aw P cal m1) none 63 (cR (cR (cL (cL (cR (cL (cR (cR (cR (cR (cR dQ))))))))))) (Lv.b (Lv.b (Lv.a (Lv.a (Lv.b (Lv.a (Lv.b (Lv.b (Lv.b (Lv.b (Lv.b (A 63)))))))))))) (DV cal k m1) (ov cal k) (av P bk)))
noncomputable def lQ (cal:Cal) (k:Nat) (m1:Nat):XR:=(upX 5 (lW cal k m1) (ov cal k))
noncomputable def K63_prrrrrlrllrll (cal:Cal) (k:Nat) (m1:Nat):KR:=(cutK (Lv.a (Lv.a (Lv.b (Lv.a (Lv.a (Lv.b (Lv.a (Lv.b (Lv.b (Lv.b (Lv.b (Lv.b (A 63))))))))))))).c (ay P cal (aw P cal m1) none 63 (cR (cL (cL (cR (cL (cL (cR (cL (cR (cR (cR (cR (cR dQ))))))))))))) (Lv.b (Lv.a (Lv.a (Lv.b (Lv.a (Lv.a (Lv.b (Lv.a (Lv.b (Lv.b (Lv.b (Lv.b (Lv.b (A 63)))))))))))))) (lW cal k m1) (lQ cal k m1) (av P bk)))
noncomputable def K63_prrrrrlrllrllr (cal:Cal) (k:Nat) (m1:Nat):KR:=(cutK (Lv.b (Lv.a (Lv.a (Lv.b (Lv.a (Lv.a (Lv.b (Lv.a (Lv.b (Lv.b (Lv.b (Lv.b (Lv.b (A 63)))))))))))))).c (ay P cal (aw P cal m1) none 63 (cR (cR (cL (cL (cR (cL (cL (cR (cL (cR (cR (cR (cR (cR dQ)))))))))))))) (Lv.b (Lv.b (Lv.a (Lv.a (Lv.b (Lv.a (Lv.a (Lv.b (Lv.a (Lv.b (Lv.b (Lv.b (Lv.b (Lv.b (A 63))))))))))))))) (lW cal k m1) (lQ cal k m1) (av P bk)))
noncomputable def K63_prrrrrlrllrllrl (cal:Cal) (k:Nat) (m1:Nat):KR:=(cutK (Lv.a (Lv.b (Lv.a (Lv.a (Lv.b (Lv.a (Lv.a (Lv.b (Lv.a (Lv.b (Lv.b (Lv.b (Lv.b (Lv.b (A 63))))))))))))))).c (ay P cal (aw P cal m1) none 63 (cR (cL (cR (cL (cL (cR (cL (cL (cR (cL (cR (cR (cR (cR (cR dQ))))))))))))))) (Lv.b (Lv.a (Lv.b (Lv.a (Lv.a (Lv.b (Lv.a (Lv.a (Lv.b (Lv.a (Lv.b (Lv.b (Lv.b (Lv.b (Lv.b (A 63)))))))))))))))) (K63_prrrrrlrllrllr cal k m1) (lQ cal k m1) (av P bk)))
noncomputable def K63_prrrrrlrllrllrlrl (cal:Cal) (k:Nat) (m1:Nat):KR:=(cutK (Lv.a (Lv.b (Lv.a (Lv.b (Lv.a (Lv.a (Lv.b (Lv.a (Lv.a (Lv.b (Lv.a (Lv.b (Lv.b (Lv.b (Lv.b (Lv.b (A 63))))))))))))))))).c (ay P cal (aw P cal m1) none 63 (cR (cL (cR (cL (cR (cL (cL (cR (cL (cL (cR (cL (cR (cR (cR (cR (cR dQ))))))))))))))))) (Lv.b (Lv.a (Lv.b (Lv.a (Lv.b (Lv.a (Lv.a (Lv.b (Lv.a (Lv.a (Lv.b (Lv.a (Lv.b (Lv.b (Lv.b (Lv.b (Lv.b (A 63)))))))))))))))))) (K63_prrrrrlrllrllr cal k m1) (lQ cal k m1) (av P bk)))
noncomputable def K63_prrrrrlrllrllrr (cal:Cal) (k:Nat) (m1:Nat):KR:=(cutK (Lv.b (Lv.b (Lv.a (Lv.a (Lv.b (Lv.a (Lv.a (Lv.b (Lv.a (Lv.b (Lv.b (Lv.b (Lv.b (Lv.b (A 63))))))))))))))).c (ay P cal (aw P cal m1) none 63 (cR (cR (cR (cL (cL (cR (cL (cL (cR (cL (cR (cR (cR (cR (cR dQ))))))))))))))) (Lv.b (Lv.b (Lv.b (Lv.a (Lv.a (Lv.b (Lv.a (Lv.a (Lv.b (Lv.a (Lv.b (Lv.b (Lv.b (Lv.b (Lv.b (A 63)))))))))))))))) (lW cal k m1) (lQ cal k m1) (av P bk)))
noncomputable def fW (cal:Cal) (k:Nat) (m1:Nat):XR:=(upX 6 (lW cal k m1) (lQ cal k m1))
noncomputable def qv (cal:Cal) (k:Nat) (m1:Nat) (m2:Nat):KR:=(fun T H n D=>aw P cal m2 (Lv.a (Lv.b (Lv.b (Lv.b (Lv.a (Lv.a (Lv.b (Lv.a (Lv.a (Lv.b (Lv.a (Lv.b (Lv.b (Lv.b (Lv.b (Lv.b (A 63))))))))))))))))) none 63 (cL (cR (cR (cR (cL (cL (cR (cL (cL (cR (cL (cR (cR (cR (cR (cR dQ)))))))))))))))) (lW cal k m1) (fW cal k m1) (av P bk) (cutT (Lv.a (Lv.b (Lv.b (Lv.b (Lv.a (Lv.a (Lv.b (Lv.a (Lv.a (Lv.b (Lv.a (Lv.b (Lv.b (Lv.b (Lv.b (Lv.b (A 63))))))))))))))))).c T) H n D)
noncomputable def K63_prrrrrlrllrllrrrll (cal:Cal) (k:Nat) (m1:Nat) (m2:Nat):KR:=(cutK (Lv.a (Lv.a (Lv.b (Lv.b (Lv.b (Lv.a (Lv.a (Lv.b (Lv.a (Lv.a (Lv.b (Lv.a (Lv.b (Lv.b (Lv.b (Lv.b (Lv.b (A 63)))))))))))))))))).c (ay P cal (aw P cal m2) none 63 (cR (cL (cL (cR (cR (cR (cL (cL (cR (cL (cL (cR (cL (cR (cR (cR (cR (cR dQ)))))))))))))))))) (Lv.b (Lv.a (Lv.a (Lv.b (Lv.b (Lv.b (Lv.a (Lv.a (Lv.b (Lv.a (Lv.a (Lv.b (Lv.a (Lv.b (Lv.b (Lv.b (Lv.b (Lv.b (A 63))))))))))))))))))) (qv cal k m1 m2) (fW cal k m1) (av P bk)))
noncomputable def K63_prrrrrlrllrllrrrlll (cal:Cal) (k:Nat) (m1:Nat) (m2:Nat):KR:=(cutK (Lv.a (Lv.a (Lv.a (Lv.b (Lv.b (Lv.b (Lv.a (Lv.a (Lv.b (Lv.a (Lv.a (Lv.b (Lv.a (Lv.b (Lv.b (Lv.b (Lv.b (Lv.b (A 63))))))))))))))))))).c (ay P cal (aw P cal m2) none 63 (cR (cL (cL (cL (cR (cR (cR (cL (cL (cR (cL (cL (cR (cL (cR (cR (cR (cR (cR dQ))))))))))))))))))) (Lv.b (Lv.a (Lv.a (Lv.a (Lv.b (Lv.b (Lv.b (Lv.a (Lv.a (Lv.b (Lv.a (Lv.a (Lv.b (Lv.a (Lv.b (Lv.b (Lv.b (Lv.b (Lv.b (A 63)))))))))))))))))))) (K63_prrrrrlrllrllrrrll cal k m1 m2) (fW cal k m1) (av P bk)))
noncomputable def lV (cal:Cal) (k:Nat) (m1:Nat) (m2:Nat):KR:=(cutK (Lv.b (Lv.a (Lv.a (Lv.b (Lv.b (Lv.b (Lv.a (Lv.a (Lv.b (Lv.a (Lv.a (Lv.b (Lv.a (Lv.b (Lv.b (Lv.b (Lv.b (Lv.b (A 63))))))))))))))))))).c (ay P cal (aw P cal m2) none 63 (cR (cR (cL (cL (cR (cR (cR (cL (cL (cR (cL (cL (cR (cL (cR (cR (cR (cR (cR dQ))))))))))))))))))) (Lv.b (Lv.b (Lv.a (Lv.a (Lv.b (Lv.b (Lv.b (Lv.a (Lv.a (Lv.b (Lv.a (Lv.a (Lv.b (Lv.a (Lv.b (Lv.b (Lv.b (Lv.b (Lv.b (A 63)))))))))))))))))))) (qv cal k m1 m2) (fW cal k m1) (av P bk)))
noncomputable def nx (cal:Cal) (k:Nat) (m1:Nat) (m2:Nat):XR:=(upX 7 (lV cal k m1 m2) (fW cal k m1))
noncomputable def K63_prrrrrlrllrllrrrllrll (cal:Cal) (k:Nat) (m1:Nat) (m2:Nat):KR:=(cutK (Lv.a (Lv.a (Lv.b (Lv.a (Lv.a (Lv.b (Lv.b (Lv.b (Lv.a (Lv.a (Lv.b (Lv.a (Lv.a (Lv.b (Lv.a (Lv.b (Lv.b (Lv.b (Lv.b (Lv.b (A 63))))))))))))))))))))).c (ay P cal (aw P cal m2) none 63 (cR (cL (cL (cR (cL (cL (cR (cR (cR (cL (cL (cR (cL (cL (cR (cL (cR (cR (cR (cR (cR dQ))))))))))))))))))))) (Lv.b (Lv.a (Lv.a (Lv.b (Lv.a (Lv.a (Lv.b (Lv.b (Lv.b (Lv.a (Lv.a (Lv.b (Lv.a (Lv.a (Lv.b (Lv.a (Lv.b (Lv.b (Lv.b (Lv.b (Lv.b (A 63)))))))))))))))))))))) (lV cal k m1 m2) (nx cal k m1 m2) (av P bk)))
noncomputable def K63_prrrrrlrllrllrrrllrllr (cal:Cal) (k:Nat) (m1:Nat) (m2:Nat):KR:=(cutK (Lv.b (Lv.a (Lv.a (Lv.b (Lv.a (Lv.a (Lv.b (Lv.b (Lv.b (Lv.a (Lv.a (Lv.b (Lv.a (Lv.a (Lv.b (Lv.a (Lv.b (Lv.b (Lv.b (Lv.b (Lv.b (A 63)))))))))))))))))))))).c (ay P cal (aw P cal m2) none 63 (cR (cR (cL (cL (cR (cL (cL (cR (cR (cR (cL (cL (cR (cL (cL (cR (cL (cR (cR (cR (cR (cR dQ)))))))))))))))))))))) (Lv.b (Lv.b (Lv.a (Lv.a (Lv.b (Lv.a (Lv.a (Lv.b (Lv.b (Lv.b (Lv.a (Lv.a (Lv.b (Lv.a (Lv.a (Lv.b (Lv.a (Lv.b (Lv.b (Lv.b (Lv.b (Lv.b (A 63))))))))))))))))))))))) (lV cal k m1 m2) (nx cal k m1 m2) (av P bk)))
noncomputable def K63_prrrrrlrllrllrrrllrllrrl (cal:Cal) (k:Nat) (m1:Nat) (m2:Nat):KR:=(cutK (Lv.a (Lv.b (Lv.b (Lv.a (Lv.a (Lv.b (Lv.a (Lv.a (Lv.b (Lv.b (Lv.b (Lv.a (Lv.a (Lv.b (Lv.a (Lv.a (Lv.b (Lv.a (Lv.b (Lv.b (Lv.b (Lv.b (Lv.b (A 63)))))))))))))))))))))))).c (ay P cal (aw P cal m2) none 63 (cR (cL (cR (cR (cL (cL (cR (cL (cL (cR (cR (cR (cL (cL (cR (cL (cL (cR (cL (cR (cR (cR (cR (cR dQ)))))))))))))))))))))))) (Lv.b (Lv.a (Lv.b (Lv.b (Lv.a (Lv.a (Lv.b (Lv.a (Lv.a (Lv.b (Lv.b (Lv.b (Lv.a (Lv.a (Lv.b (Lv.a (Lv.a (Lv.b (Lv.a (Lv.b (Lv.b (Lv.b (Lv.b (Lv.b (A 63))))))))))))))))))))))))) (lV cal k m1 m2) (nx cal k m1 m2) (av P bk)))
noncomputable def K63_prrrrrr (cal:Cal) (k:Nat):KR:=(cutK (Lv.b (Lv.b (Lv.b (Lv.b (Lv.b (Lv.b (A 63))))))).c (ay P cal (aw P cal k) none 63 (cR (cR (cR (cR (cR (cR (cR dQ))))))) (Lv.b (Lv.b (Lv.b (Lv.b (Lv.b (Lv.b (Lv.b (A 63)))))))) (av P bk) X0 (av P bk)))
noncomputable def E63_4 (cal:Cal) (k m1 m2:Nat):KR:=ay P cal (aw P cal m2) none 63 (cL (cL (cR (cR (cR (cL (cL (cR (cL (cL (cR (cL (cR (cR (cR (cR (cR dQ))))))))))))))))) (Lv.a (Lv.a (Lv.b (Lv.b (Lv.b (Lv.a (Lv.a (Lv.b (Lv.a (Lv.a (Lv.b (Lv.a (Lv.b (Lv.b (Lv.b (Lv.b (Lv.b (A 63)))))))))))))))))) (qv cal k m1 m2) (fW cal k m1) (av P bk)
noncomputable def R63_4 (cal:Cal) (k m1 m2:Nat):V4:=fun u1 u6 u7 u8 H n=>aw P cal m2 (Lv.a (Lv.b (Lv.b (Lv.b (Lv.a (Lv.a (Lv.b (Lv.a (Lv.a (Lv.b (Lv.a (Lv.b (Lv.b (Lv.b (Lv.b (Lv.b (A 63))))))))))))))))) none 63 (cL (cR (cR (cR (cL (cL (cR (cL (cL (cR (cL (cR (cR (cR (cR (cR dQ)))))))))))))))) (lW cal k m1) (fW cal k m1) (av P bk) (Tr.set (Tr.set (Tr.set (Tr.set Tr.nil 8 (some u8)) 7 (some u7)) 6 (some u6)) 1 (some u1)) H n []
noncomputable def E63_3 (cal:Cal) (k m1:Nat):KR:=ay P cal (aw P cal m1) none 63 (cL (cL (cR (cL (cR (cR (cR (cR (cR dQ))))))))) (Lv.a (Lv.a (Lv.b (Lv.a (Lv.b (Lv.b (Lv.b (Lv.b (Lv.b (A 63)))))))))) (DV cal k m1) (ov cal k) (av P bk)
noncomputable def Ny (cal:Cal) (k m1:Nat):V2:=fun u1 u6 H n=>aw P cal m1 (Lv.a (Lv.b (Lv.a (Lv.b (Lv.b (Lv.b (Lv.b (Lv.b (A 63))))))))) none 63 (cL (cR (cL (cR (cR (cR (cR (cR dQ)))))))) (Iv cal k) (ov cal k) (av P bk) (Tr.set (Tr.set Tr.nil 6 (some u6)) 1 (some u1)) H n []
noncomputable def E63_2 (cal:Cal) (k m1:Nat):KR:=ay P cal (aw P cal m1) none 63 (cL (cL (cR (cL (cR (cR (cR (cR dQ)))))))) (Lv.a (Lv.a (Lv.b (Lv.a (Lv.b (Lv.b (Lv.b (Lv.b (A 63))))))))) (Iq cal k m1) (pJ cal k) (av P bk)
noncomputable def R63_2 (cal:Cal) (k m1:Nat):V2:=fun u1 u4 H n=>aw P cal m1 (Lv.a (Lv.b (Lv.a (Lv.b (Lv.b (Lv.b (Lv.b (A 63)))))))) none 63 (cL (cR (cL (cR (cR (cR (cR dQ))))))) (Mx cal k) (pJ cal k) (av P bk) (Tr.set (Tr.set Tr.nil 4 (some u4)) 1 (some u1)) H n []
noncomputable def E63_1 (cal:Cal) (k m1:Nat):KR:=ay P cal (aw P cal m1) none 63 (cL (cL (cR (cL (cR (cR (cR dQ))))))) (Lv.a (Lv.a (Lv.b (Lv.a (Lv.b (Lv.b (Lv.b (A 63)))))))) (KW cal k m1) (rk cal k) (av P bk)
noncomputable def R63_1 (cal:Cal) (k m1:Nat):V2:=fun u1 u3 H n=>aw P cal m1 (Lv.a (Lv.b (Lv.a (Lv.b (Lv.b (Lv.b (A 63))))))) none 63 (cL (cR (cL (cR (cR (cR dQ)))))) (RJ cal k) (rk cal k) (av P bk) (Tr.set (Tr.set Tr.nil 3 (some u3)) 1 (some u1)) H n []
noncomputable def B63_4 (cal:Cal) (k m1 m2:Nat) (b3:V2) (b4:V4) (u1 u6 u7 u8:Value) (H:Hp) (n:Nat):Res:=
binK P .lss 3 (.tmp 130) (.tmp 131) u8 u6 fun v_9p=>
ifK v_9p (
aq (ax P 26 u1 1) fun v_9q=>
aq (aW v_9q) fun a_9s=>aq (az P H 23 a_9s) fun v_9r=>
aq (aY P 23 v_9r u8) fun v_9u=>
aq (aW v_9u) fun a_9w=>aq (az P H 104 a_9w) fun v_9v=>
cX P 104 H n fun v_9x H_9y n_9z=>
aq (bx P 104 v_9x v_9v H_9y) fun H_a1=>
aq (aW v_9x) fun a_a3=>aq (az P H_a1 104 a_a3) fun v_a2=>
aq (aW u7) fun a_a5=>aq (az P H_a1 104 a_a5) fun v_a4=>
binK P .eql 104 (.tmp 140) (.tmp 141) v_a2 v_a4 fun v_a6=>
aQ v_a6 false (fun k_a8=>
aq (ax P 104 v_9x 0) fun v_ac=>
k_a8 v_ac H_a1 n_9z) H_a1 n_9z fun v_a9 H_aa n_ab=>
aQ v_a6 false (fun k_ad=>
aq (aW v_a9) fun a_ai=>aq (az P H_aa 3 a_ai) fun v_ah=>
k_ad v_ah H_aa n_ab) H_aa n_ab fun v_ae H_af n_ag=>
aQ v_a6 false (fun k_aj=>
aq (ax P 104 u7 1) fun v_an=>
k_aj v_an H_af n_ag) H_af n_ag fun v_ak H_al n_am=>
aQ v_a6 false (fun k_ao=>
aq (aW v_ak) fun a_at=>aq (az P H_al 3 a_at) fun v_as=>
k_ao v_as H_al n_am) H_al n_am fun v_ap H_aq n_ar=>
aQ v_a6 false (fun k_au=>
binK P .eql 3 (.tmp 145) (.tmp 147) v_ae v_ap fun v_ay=>
k_au v_ay H_aq n_ar) H_aq n_ar fun v_av H_aw n_ax=>
aQ v_a6 false (fun k_az=>
k_az v_av H_aw n_ax) H_aw n_ax fun v_b0 H_b1 n_b2=>
aQ v_b0 true (fun k_b4=>
aq (ax P 104 v_9x 1) fun v_b8=>
k_b4 v_b8 H_b1 n_b2) H_b1 n_b2 fun v_b5 H_b6 n_b7=>
aQ v_b0 true (fun k_b9=>
aq (aW v_b5) fun a_be=>aq (az P H_b6 3 a_be) fun v_bd=>
k_b9 v_bd H_b6 n_b7) H_b6 n_b7 fun v_ba H_bb n_bc=>
aQ v_b0 true (fun k_bf=>
aq (ax P 104 u7 0) fun v_bj=>
k_bf v_bj H_bb n_bc) H_bb n_bc fun v_bg H_bh n_bi=>
aQ v_b0 true (fun k_bk=>
aq (aW v_bg) fun a_bp=>aq (az P H_bh 3 a_bp) fun v_bo=>
k_bk v_bo H_bh n_bi) H_bh n_bi fun v_bl H_bm n_bn=>
aQ v_b0 true (fun k_bq=>
binK P .eql 3 (.tmp 151) (.tmp 153) v_ba v_bl fun v_bu=>
k_bq v_bu H_bm n_bn) H_bm n_bn fun v_br H_bs n_bt=>
aQ v_a6 false (fun k_bv=>
aq (cK v_b0 v_br (.bool false)) fun v_bz=>
k_bv v_bz H_bs n_bt) H_bs n_bt fun v_bw H_bx n_by=>
aq (cK v_a6 (.bool true) v_bw) fun v_c0=>
ifK v_c0 (
some ((.int .i64 1),H_bx,n_by)) (
binK P .add 3 (.tmp 133) (.const (.int .i64 1)) u8 (.int .i64 1) fun v_c3=>
b4 u1 u6 u7 v_c3 H_bx n_by)) (
binK P .add 3 (.tmp 98) (.const (.int .i64 1)) u6 (.int .i64 1) fun v_c6=>
b3 u1 v_c6 H n)
noncomputable def C63_4 (cal:Cal) (k m1 m2:Nat) (b3:V2) (b4:V4) (u1 u6 u7 u8:Value) (H:Hp) (n:Nat):Res:=B63_4 cal k m1 m2 b3 b4 u1 u6 u7 u8 H n
noncomputable def S63_4 (cal:Cal) (k m1:Nat) (b3:V2):Nat→V4:=fun m=>Nat.rec (motive:=fun _=>V4) (C63_4 cal k m1 0 b3 (fun _ _ _ _ _ _=>none)) (fun m ih=>C63_4 cal k m1 (m+1) b3 ih) m
theorem h63_4 (cal:Cal) (k m1 m2:Nat) (u1 u6 u7 u8:Value) (H:Hp) (n:Nat):labK (E63_4 cal k m1 m2) (Tr.set (Tr.set (Tr.set (Tr.set Tr.nil 8 (some u8)) 7 (some u7)) 6 (some u6)) 1 (some u1)) H n []=C63_4 cal k m1 m2 (Ny cal k m1) (R63_4 cal k m1 m2) u1 u6 u7 u8 H n:=by
  refine Eq.trans (b:=B63_4 cal k m1 m2 (Ny cal k m1) (R63_4 cal k m1 m2) u1 u6 u7 u8 H n) (by kernel_rfl) ?_
  rw[C63_4]
theorem q63_4 (cal:Cal) (k m1:Nat):∀(m:Nat) (u1 u6 u7 u8:Value) (H:Hp) (n:Nat),labK (E63_4 cal k m1 m) (Tr.set (Tr.set (Tr.set (Tr.set Tr.nil 8 (some u8)) 7 (some u7)) 6 (some u6)) 1 (some u1)) H n []=S63_4 cal k m1 (Ny cal k m1) m u1 u6 u7 u8 H n
  | 0,u1,u6,u7,u8,H,n=>by
    rw[h63_4]
    have e:R63_4 cal k m1 0=fun _ _ _ _ _ _=>none:=by funext u1 u6 u7 u8 H n; kernel_rfl
    rw[e]; rfl
  | m+1,u1,u6,u7,u8,H,n=>by
    rw[h63_4]
    have e:R63_4 cal k m1 (m+1)=S63_4 cal k m1 (Ny cal k m1) m:=by
      funext u1 u6 u7 u8 H n
      have e:R63_4 cal k m1 (m+1) u1 u6 u7 u8 H n=labK (E63_4 cal k m1 m) (Tr.set (Tr.set (Tr.set (Tr.set Tr.nil 8 (some u8)) 7 (some u7)) 6 (some u6)) 1 (some u1)) H n []:=by kernel_rfl
      rw[e]; exact q63_4 ..
    rw[e]; rfl
noncomputable def B63_3 (cal:Cal) (k m1:Nat) (j4:V4) (b3:V2) (u1 u6:Value) (H:Hp) (n:Nat):Res:=
aq (ax P 26 u1 1) fun v_6p=>
aq (aW v_6p) fun a_6r=>aq (az P H 23 a_6r) fun v_6q=>
aq (lenV P 23 v_6q) fun v_6s=>
binK P .lss 3 (.tmp 93) (.tmp 96) u6 v_6s fun v_6t=>
ifK v_6t (
aq (ax P 26 u1 1) fun v_6u=>
aq (aW v_6u) fun a_6w=>aq (az P H 23 a_6w) fun v_6v=>
aq (aY P 23 v_6v u6) fun v_6y=>
aq (aW v_6y) fun a_70=>aq (az P H 104 a_70) fun v_6z=>
cX P 104 H n fun v_71 H_72 n_73=>
aq (bx P 104 v_71 v_6z H_72) fun H_75=>
aq (ax P 104 v_71 0) fun v_76=>
aq (aW v_76) fun a_78=>aq (az P H_75 3 a_78) fun v_77=>
aq (ax P 26 u1 0) fun v_79=>
aq (aW v_79) fun a_7b=>aq (az P H_75 22 a_7b) fun v_7a=>
aq (lenV P 22 v_7a) fun v_7c=>
binK P .sub 3 (.tmp 109) (.const (.int .i64 1)) v_7c (.int .i64 1) fun v_7d=>
aV P cal 32 [v_77,(.int .i64 0),v_7d] H_75 n_73 fun v_7e H_7f n_7g=>
aq (ej P v_7e (Op.unary UnOp.not v_7e)) fun v_7h=>
aQ v_7h false (fun k_7j=>
aq (ax P 104 v_71 1) fun v_7n=>
k_7j v_7n H_7f n_7g) H_7f n_7g fun v_7k H_7l n_7m=>
aQ v_7h false (fun k_7o=>
aq (aW v_7k) fun a_7t=>aq (az P H_7l 3 a_7t) fun v_7s=>
k_7o v_7s H_7l n_7m) H_7l n_7m fun v_7p H_7q n_7r=>
aQ v_7h false (fun k_7u=>
aq (ax P 26 u1 0) fun v_7y=>
k_7u v_7y H_7q n_7r) H_7q n_7r fun v_7v H_7w n_7x=>
aQ v_7h false (fun k_7z=>
aq (aW v_7v) fun a_84=>aq (az P H_7w 22 a_84) fun v_83=>
k_7z v_83 H_7w n_7x) H_7w n_7x fun v_80 H_81 n_82=>
aQ v_7h false (fun k_85=>
aq (lenV P 22 v_80) fun v_89=>
k_85 v_89 H_81 n_82) H_81 n_82 fun v_86 H_87 n_88=>
aQ v_7h false (fun k_8a=>
binK P .sub 3 (.tmp 118) (.const (.int .i64 1)) v_86 (.int .i64 1) fun v_8e=>
k_8a v_8e H_87 n_88) H_87 n_88 fun v_8b H_8c n_8d=>
aQ v_7h false (fun k_8f=>
aV P cal 32 [v_7p,(.int .i64 0),v_8b] H_8c n_8d fun v_8j H_8k n_8l=>
k_8f v_8j H_8k n_8l) H_8c n_8d fun v_8g H_8h n_8i=>
aQ v_7h false (fun k_8m=>
aq (ej P v_8g (Op.unary UnOp.not v_8g)) fun v_8q=>
k_8m v_8q H_8h n_8i) H_8h n_8i fun v_8n H_8o n_8p=>
aq (cK v_7h (.bool true) v_8n) fun v_8r=>
aQ v_8r false (fun k_8t=>
aq (ax P 104 v_71 0) fun v_8x=>
k_8t v_8x H_8o n_8p) H_8o n_8p fun v_8u H_8v n_8w=>
aQ v_8r false (fun k_8y=>
aq (aW v_8u) fun a_93=>aq (az P H_8v 3 a_93) fun v_92=>
k_8y v_92 H_8v n_8w) H_8v n_8w fun v_8z H_90 n_91=>
aQ v_8r false (fun k_94=>
aq (ax P 104 v_71 1) fun v_98=>
k_94 v_98 H_90 n_91) H_90 n_91 fun v_95 H_96 n_97=>
aQ v_8r false (fun k_99=>
aq (aW v_95) fun a_9e=>aq (az P H_96 3 a_9e) fun v_9d=>
k_99 v_9d H_96 n_97) H_96 n_97 fun v_9a H_9b n_9c=>
aQ v_8r false (fun k_9f=>
binK P .eql 3 (.tmp 125) (.tmp 127) v_8z v_9a fun v_9j=>
k_9f v_9j H_9b n_9c) H_9b n_9c fun v_9g H_9h n_9i=>
aq (cK v_8r (.bool true) v_9g) fun v_9k=>
ifK v_9k (
some ((.int .i64 1),H_9h,n_9i)) (
j4 u1 u6 v_71 (.int .i64 0) H_9h n_9i)) (
some ((.int .i64 0),H,n))
noncomputable def C63_3 (cal:Cal) (k m1:Nat) (b3:V2) (u1 u6:Value) (H:Hp) (n:Nat):Res:=B63_3 cal k m1 (S63_4 cal k m1 b3 m1) b3 u1 u6 H n
noncomputable def S63_3 (cal:Cal) (k:Nat):Nat→V2:=fun m=>Nat.rec (motive:=fun _=>V2) (C63_3 cal k 0 (fun _ _ _ _=>none)) (fun m ih=>C63_3 cal k (m+1) ih) m
theorem h63_3 (cal:Cal) (k m1:Nat) (u1 u6:Value) (H:Hp) (n:Nat):labK (E63_3 cal k m1) (Tr.set (Tr.set Tr.nil 6 (some u6)) 1 (some u1)) H n []=C63_3 cal k m1 (Ny cal k m1) u1 u6 H n:=by
  refine Eq.trans (b:=B63_3 cal k m1 (fun u1 u6 u7 u8 H n=>labK (E63_4 cal k m1 m1) (Tr.set (Tr.set (Tr.set (Tr.set Tr.nil 8 (some u8)) 7 (some u7)) 6 (some u6)) 1 (some u1)) H n []) (Ny cal k m1) u1 u6 H n) (by kernel_rfl) ?_
  rw[C63_3]
  have e4:(fun u1 u6 u7 u8 H n=>labK (E63_4 cal k m1 m1) (Tr.set (Tr.set (Tr.set (Tr.set Tr.nil 8 (some u8)) 7 (some u7)) 6 (some u6)) 1 (some u1)) H n [])=(S63_4 cal k m1 (Ny cal k m1) m1):=by funext u1 u6 u7 u8 H n; exact q63_4 ..
  rw[e4]
theorem q63_3 (cal:Cal) (k:Nat):∀(m:Nat) (u1 u6:Value) (H:Hp) (n:Nat),labK (E63_3 cal k m) (Tr.set (Tr.set Tr.nil 6 (some u6)) 1 (some u1)) H n []=S63_3 cal k m u1 u6 H n
  | 0,u1,u6,H,n=>by
    rw[h63_3]
    have e:Ny cal k 0=fun _ _ _ _=>none:=by funext u1 u6 H n; kernel_rfl
    rw[e]; rfl
  | m+1,u1,u6,H,n=>by
    rw[h63_3]
    have e:Ny cal k (m+1)=S63_3 cal k m:=by
      funext u1 u6 H n
      have e:Ny cal k (m+1) u1 u6 H n=labK (E63_3 cal k m) (Tr.set (Tr.set Tr.nil 6 (some u6)) 1 (some u1)) H n []:=by kernel_rfl
      rw[e]; exact q63_3 ..
    rw[e]; rfl
noncomputable def B63_2 (cal:Cal) (k m1:Nat) (j3:V2) (b2:V2) (u1 u4:Value) (H:Hp) (n:Nat):Res:=
aq (ax P 26 u1 2) fun v_3b=>
aq (aW v_3b) fun a_3d=>aq (az P H 24 a_3d) fun v_3c=>
aq (lenV P 24 v_3c) fun v_3e=>
binK P .lss 3 (.tmp 57) (.tmp 60) u4 v_3e fun v_3f=>
ifK v_3f (
aq (ax P 26 u1 2) fun v_3g=>
aq (aW v_3g) fun a_3i=>aq (az P H 24 a_3i) fun v_3h=>
aq (aY P 24 v_3h u4) fun v_3k=>
aq (aW v_3k) fun a_3m=>aq (az P H 94 a_3m) fun v_3l=>
cX P 94 H n fun v_3n H_3o n_3p=>
aq (bx P 94 v_3n v_3l H_3o) fun H_3r=>
aq (ax P 94 v_3n 0) fun v_3s=>
aq (aW v_3s) fun a_3u=>aq (az P H_3r 3 a_3u) fun v_3t=>
aV P cal 32 [v_3t,(.int .i64 0),(.int .i64 1000)] H_3r n_3p fun v_3v H_3w n_3x=>
aq (ej P v_3v (Op.unary UnOp.not v_3v)) fun v_3y=>
aQ v_3y false (fun k_40=>
aq (ax P 94 v_3n 1) fun v_44=>
k_40 v_44 H_3w n_3x) H_3w n_3x fun v_41 H_42 n_43=>
aQ v_3y false (fun k_45=>
aq (ax P 55 v_41 0) fun v_49=>
k_45 v_49 H_42 n_43) H_42 n_43 fun v_46 H_47 n_48=>
aQ v_3y false (fun k_4a=>
aq (aW v_46) fun a_4f=>aq (az P H_47 3 a_4f) fun v_4e=>
k_4a v_4e H_47 n_48) H_47 n_48 fun v_4b H_4c n_4d=>
aQ v_3y false (fun k_4g=>
aq (ax P 94 v_3n 1) fun v_4k=>
k_4g v_4k H_4c n_4d) H_4c n_4d fun v_4h H_4i n_4j=>
aQ v_3y false (fun k_4l=>
aq (ax P 55 v_4h 1) fun v_4p=>
k_4l v_4p H_4i n_4j) H_4i n_4j fun v_4m H_4n n_4o=>
aQ v_3y false (fun k_4q=>
aq (aW v_4m) fun a_4v=>aq (az P H_4n 3 a_4v) fun v_4u=>
k_4q v_4u H_4n n_4o) H_4n n_4o fun v_4r H_4s n_4t=>
aQ v_3y false (fun k_4w=>
aV P cal 100 [v_4b,v_4r] H_4s n_4t fun v_50 H_51 n_52=>
k_4w v_50 H_51 n_52) H_4s n_4t fun v_4x H_4y n_4z=>
aQ v_3y false (fun k_53=>
aq (ej P v_4x (Op.unary UnOp.not v_4x)) fun v_57=>
k_53 v_57 H_4y n_4z) H_4y n_4z fun v_54 H_55 n_56=>
aq (cK v_3y (.bool true) v_54) fun v_58=>
aQ v_58 false (fun k_5a=>
aq (ax P 94 v_3n 2) fun v_5e=>
k_5a v_5e H_55 n_56) H_55 n_56 fun v_5b H_5c n_5d=>
aQ v_58 false (fun k_5f=>
aq (ax P 55 v_5b 0) fun v_5j=>
k_5f v_5j H_5c n_5d) H_5c n_5d fun v_5g H_5h n_5i=>
aQ v_58 false (fun k_5k=>
aq (aW v_5g) fun a_5p=>aq (az P H_5h 3 a_5p) fun v_5o=>
k_5k v_5o H_5h n_5i) H_5h n_5i fun v_5l H_5m n_5n=>
aQ v_58 false (fun k_5q=>
aq (ax P 94 v_3n 2) fun v_5u=>
k_5q v_5u H_5m n_5n) H_5m n_5n fun v_5r H_5s n_5t=>
aQ v_58 false (fun k_5v=>
aq (ax P 55 v_5r 1) fun v_5z=>
k_5v v_5z H_5s n_5t) H_5s n_5t fun v_5w H_5x n_5y=>
aQ v_58 false (fun k_60=>
aq (aW v_5w) fun a_65=>aq (az P H_5x 3 a_65) fun v_64=>
k_60 v_64 H_5x n_5y) H_5x n_5y fun v_61 H_62 n_63=>
aQ v_58 false (fun k_66=>
aV P cal 100 [v_5l,v_61] H_62 n_63 fun v_6a H_6b n_6c=>
k_66 v_6a H_6b n_6c) H_62 n_63 fun v_67 H_68 n_69=>
aQ v_58 false (fun k_6d=>
aq (ej P v_67 (Op.unary UnOp.not v_67)) fun v_6h=>
k_6d v_6h H_68 n_69) H_68 n_69 fun v_6e H_6f n_6g=>
aq (cK v_58 (.bool true) v_6e) fun v_6i=>
ifK v_6i (
some ((.int .i64 1),H_6f,n_6g)) (
binK P .add 3 (.tmp 62) (.const (.int .i64 1)) u4 (.int .i64 1) fun v_6l=>
b2 u1 v_6l H_6f n_6g)) (
j3 u1 (.int .i64 0) H n)
noncomputable def C63_2 (cal:Cal) (k m1:Nat) (b2:V2) (u1 u4:Value) (H:Hp) (n:Nat):Res:=B63_2 cal k m1 (S63_3 cal k k) b2 u1 u4 H n
noncomputable def S63_2 (cal:Cal) (k:Nat):Nat→V2:=fun m=>Nat.rec (motive:=fun _=>V2) (C63_2 cal k 0 (fun _ _ _ _=>none)) (fun m ih=>C63_2 cal k (m+1) ih) m
theorem h63_2 (cal:Cal) (k m1:Nat) (u1 u4:Value) (H:Hp) (n:Nat):labK (E63_2 cal k m1) (Tr.set (Tr.set Tr.nil 4 (some u4)) 1 (some u1)) H n []=C63_2 cal k m1 (R63_2 cal k m1) u1 u4 H n:=by
  refine Eq.trans (b:=B63_2 cal k m1 (fun u1 u6 H n=>labK (E63_3 cal k k) (Tr.set (Tr.set Tr.nil 6 (some u6)) 1 (some u1)) H n []) (R63_2 cal k m1) u1 u4 H n) (by kernel_rfl) ?_
  rw[C63_2]
  have e3:(fun u1 u6 H n=>labK (E63_3 cal k k) (Tr.set (Tr.set Tr.nil 6 (some u6)) 1 (some u1)) H n [])=(S63_3 cal k k):=by funext u1 u6 H n; exact q63_3 ..
  rw[e3]
theorem q63_2 (cal:Cal) (k:Nat):∀(m:Nat) (u1 u4:Value) (H:Hp) (n:Nat),labK (E63_2 cal k m) (Tr.set (Tr.set Tr.nil 4 (some u4)) 1 (some u1)) H n []=S63_2 cal k m u1 u4 H n
  | 0,u1,u4,H,n=>by
    rw[h63_2]
    have e:R63_2 cal k 0=fun _ _ _ _=>none:=by funext u1 u4 H n; kernel_rfl
    rw[e]; rfl
  | m+1,u1,u4,H,n=>by
    rw[h63_2]
    have e:R63_2 cal k (m+1)=S63_2 cal k m:=by
      funext u1 u4 H n
      have e:R63_2 cal k (m+1) u1 u4 H n=labK (E63_2 cal k m) (Tr.set (Tr.set Tr.nil 4 (some u4)) 1 (some u1)) H n []:=by kernel_rfl
      rw[e]; exact q63_2 ..
    rw[e]; rfl
noncomputable def B63_1 (cal:Cal) (k m1:Nat) (j2:V2) (b1:V2) (u1 u3:Value) (H:Hp) (n:Nat):Res:=
aq (ax P 26 u1 0) fun v_2g=>
aq (aW v_2g) fun a_2i=>aq (az P H 22 a_2i) fun v_2h=>
aq (lenV P 22 v_2h) fun v_2j=>
binK P .lss 3 (.tmp 36) (.tmp 39) u3 v_2j fun v_2k=>
ifK v_2k (
aq (ax P 26 u1 0) fun v_2l=>
aq (aW v_2l) fun a_2m=>aq (az P H 22 a_2m) fun v_2n=>
aq (aY P 22 v_2n u3) fun v_2p=>
aq (ax P 95 v_2p 0) fun v_2q=>
aq (aW v_2q) fun a_2r=>aq (az P H 3 a_2r) fun v_2s=>
aq (ax P 26 u1 0) fun v_2t=>
aq (aW v_2t) fun a_2u=>aq (az P H 22 a_2u) fun v_2v=>
aq (aY P 22 v_2v u3) fun v_2x=>
aq (ax P 95 v_2x 1) fun v_2y=>
aq (aW v_2y) fun a_2z=>aq (az P H 3 a_2z) fun v_30=>
aV P cal 100 [v_2s,v_30] H n fun v_31 H_32 n_33=>
aq (ej P v_31 (Op.unary UnOp.not v_31)) fun v_34=>
ifK v_34 (
some ((.int .i64 1),H_32,n_33)) (
binK P .add 3 (.tmp 41) (.const (.int .i64 1)) u3 (.int .i64 1) fun v_37=>
b1 u1 v_37 H_32 n_33)) (
j2 u1 (.int .i64 0) H n)
noncomputable def C63_1 (cal:Cal) (k m1:Nat) (b1:V2) (u1 u3:Value) (H:Hp) (n:Nat):Res:=B63_1 cal k m1 (S63_2 cal k k) b1 u1 u3 H n
noncomputable def S63_1 (cal:Cal) (k:Nat):Nat→V2:=fun m=>Nat.rec (motive:=fun _=>V2) (C63_1 cal k 0 (fun _ _ _ _=>none)) (fun m ih=>C63_1 cal k (m+1) ih) m
theorem h63_1 (cal:Cal) (k m1:Nat) (u1 u3:Value) (H:Hp) (n:Nat):labK (E63_1 cal k m1) (Tr.set (Tr.set Tr.nil 3 (some u3)) 1 (some u1)) H n []=C63_1 cal k m1 (R63_1 cal k m1) u1 u3 H n:=by
  refine Eq.trans (b:=B63_1 cal k m1 (fun u1 u4 H n=>labK (E63_2 cal k k) (Tr.set (Tr.set Tr.nil 4 (some u4)) 1 (some u1)) H n []) (R63_1 cal k m1) u1 u3 H n) (by kernel_rfl) ?_
  rw[C63_1]
  have e2:(fun u1 u4 H n=>labK (E63_2 cal k k) (Tr.set (Tr.set Tr.nil 4 (some u4)) 1 (some u1)) H n [])=(S63_2 cal k k):=by funext u1 u4 H n; exact q63_2 ..
  rw[e2]
theorem q63_1 (cal:Cal) (k:Nat):∀(m:Nat) (u1 u3:Value) (H:Hp) (n:Nat),labK (E63_1 cal k m) (Tr.set (Tr.set Tr.nil 3 (some u3)) 1 (some u1)) H n []=S63_1 cal k m u1 u3 H n
  | 0,u1,u3,H,n=>by
    rw[h63_1]
    have e:R63_1 cal k 0=fun _ _ _ _=>none:=by funext u1 u3 H n; kernel_rfl
    rw[e]; rfl
  | m+1,u1,u3,H,n=>by
    rw[h63_1]
    have e:R63_1 cal k (m+1)=S63_1 cal k m:=by
      funext u1 u3 H n
      have e:R63_1 cal k (m+1) u1 u3 H n=labK (E63_1 cal k m) (Tr.set (Tr.set Tr.nil 3 (some u3)) 1 (some u1)) H n []:=by kernel_rfl
      rw[e]; exact q63_1 ..
    rw[e]; rfl
noncomputable def B63_0 (cal:Cal) (k:Nat) (j1:V2) (v0:Value) (H:Hp) (n:Nat):Res:=
boxK 26 v0 H n fun v_1 H_2 n_3=>
aq (ax P 26 v_1 0) fun v_5=>
aq (aW v_5) fun a_7=>aq (az P H_2 22 a_7) fun v_6=>
aq (lenV P 22 v_6) fun v_8=>
binK P .gtr 3 (.tmp 12) (.const (.int .i64 8)) v_8 (.int .i64 8) fun v_9=>
aQ v_9 false (fun k_b=>
aq (ax P 26 v_1 1) fun v_f=>
k_b v_f H_2 n_3) H_2 n_3 fun v_c H_d n_e=>
aQ v_9 false (fun k_g=>
aq (aW v_c) fun a_l=>aq (az P H_d 23 a_l) fun v_k=>
k_g v_k H_d n_e) H_d n_e fun v_h H_i n_j=>
aQ v_9 false (fun k_m=>
aq (lenV P 23 v_h) fun v_q=>
k_m v_q H_i n_j) H_i n_j fun v_n H_o n_p=>
aQ v_9 false (fun k_r=>
binK P .gtr 3 (.tmp 17) (.const (.int .i64 16)) v_n (.int .i64 16) fun v_v=>
k_r v_v H_o n_p) H_o n_p fun v_s H_t n_u=>
aq (cK v_9 (.bool true) v_s) fun v_w=>
aQ v_w false (fun k_y=>
aq (ax P 26 v_1 2) fun v_12=>
k_y v_12 H_t n_u) H_t n_u fun v_z H_10 n_11=>
aQ v_w false (fun k_13=>
aq (aW v_z) fun a_18=>aq (az P H_10 24 a_18) fun v_17=>
k_13 v_17 H_10 n_11) H_10 n_11 fun v_14 H_15 n_16=>
aQ v_w false (fun k_19=>
aq (lenV P 24 v_14) fun v_1d=>
k_19 v_1d H_15 n_16) H_15 n_16 fun v_1a H_1b n_1c=>
aQ v_w false (fun k_1e=>
binK P .gtr 3 (.tmp 23) (.const (.int .i64 3)) v_1a (.int .i64 3) fun v_1i=>
k_1e v_1i H_1b n_1c) H_1b n_1c fun v_1f H_1g n_1h=>
aq (cK v_w (.bool true) v_1f) fun v_1j=>
ifK v_1j (
some ((.int .i64 3),H_1g,n_1h)) (
aq (ax P 26 v_1 0) fun v_1l=>
aq (aW v_1l) fun a_1n=>aq (az P H_1g 22 a_1n) fun v_1m=>
aq (lenV P 22 v_1m) fun v_1o=>
binK P .eql 3 (.tmp 28) (.const (.int .i64 0)) v_1o (.int .i64 0) fun v_1p=>
aQ v_1p false (fun k_1r=>
aq (ax P 26 v_1 2) fun v_1v=>
k_1r v_1v H_1g n_1h) H_1g n_1h fun v_1s H_1t n_1u=>
aQ v_1p false (fun k_1w=>
aq (aW v_1s) fun a_21=>aq (az P H_1t 24 a_21) fun v_20=>
k_1w v_20 H_1t n_1u) H_1t n_1u fun v_1x H_1y n_1z=>
aQ v_1p false (fun k_22=>
aq (lenV P 24 v_1x) fun v_26=>
k_22 v_26 H_1y n_1z) H_1y n_1z fun v_23 H_24 n_25=>
aQ v_1p false (fun k_27=>
binK P .eql 3 (.tmp 33) (.const (.int .i64 0)) v_23 (.int .i64 0) fun v_2b=>
k_27 v_2b H_24 n_25) H_24 n_25 fun v_28 H_29 n_2a=>
aq (cK v_1p (.bool true) v_28) fun v_2c=>
ifK v_2c (
some ((.int .i64 1),H_29,n_2a)) (
j1 v_1 (.int .i64 0) H_29 n_2a))
noncomputable def C63_0 (cal:Cal) (k:Nat) (v0:Value) (H:Hp) (n:Nat):Res:=B63_0 cal k (S63_1 cal k k) v0 H n
theorem h63_0 (cal:Cal) (k:Nat) (v0:Value) (H:Hp) (n:Nat):aZ P cal A (k+1) 63 [v0] H n=C63_0 cal k v0 H n:=by
  have h:aZ P cal A (k+1) 63 [v0] H n=B63_0 cal k (fun u1 u3 H n=>labK (E63_1 cal k k) (Tr.set (Tr.set Tr.nil 3 (some u3)) 1 (some u1)) H n []) v0 H n:=by
    rw[bJ (fn:=Go.Proofs.Try.f63) (c:=dQ) (rs:=bk) (by kernel_rfl) (by kernel_rfl) (by kernel_rfl) (by kernel_rfl)]
    kernel_rfl
  rw[h,C63_0]
  have e1:(fun u1 u3 H n=>labK (E63_1 cal k k) (Tr.set (Tr.set Tr.nil 3 (some u3)) 1 (some u1)) H n [])=(S63_1 cal k k):=by funext u1 u3 H n; exact q63_1 ..
  rw[e1]
noncomputable def sK:Code:=cq 64
noncomputable def fJ:List ResultVar:=dJ 64
noncomputable def K64_p (cal:Cal) (k:Nat):KR:=(cutK (A 64).c (ay P cal (aw P cal k) none 64 (cR sK) (Lv.b (A 64)) (av P fJ) X0 (av P fJ)))
noncomputable def K64_pr (cal:Cal) (k:Nat):KR:=(cutK (Lv.b (A 64)).c (ay P cal (aw P cal k) none 64 (cR (cR sK)) (Lv.b (Lv.b (A 64))) (av P fJ) X0 (av P fJ)))
noncomputable def Yj (cal:Cal) (k:Nat):KR:=(cutK (Lv.b (Lv.b (A 64))).c (ay P cal (aw P cal k) none 64 (cR (cR (cR sK))) (Lv.b (Lv.b (Lv.b (A 64)))) (av P fJ) X0 (av P fJ)))
noncomputable def K64_prrl (cal:Cal) (k:Nat):KR:=(cutK (Lv.a (Lv.b (Lv.b (A 64)))).c (ay P cal (aw P cal k) none 64 (cR (cL (cR (cR sK)))) (Lv.b (Lv.a (Lv.b (Lv.b (A 64))))) (Yj cal k) X0 (av P fJ)))
noncomputable def rJ (cal:Cal) (k:Nat):XR:=(upX 0 (Yj cal k) X0)
noncomputable def Iw (cal:Cal) (k:Nat) (m1:Nat):KR:=(fun T H n D=>aw P cal m1 (Lv.a (Lv.b (Lv.a (Lv.b (Lv.b (A 64)))))) none 64 (cL (cR (cL (cR (cR sK))))) (Yj cal k) (rJ cal k) (av P fJ) (cutT (Lv.a (Lv.b (Lv.a (Lv.b (Lv.b (A 64)))))).c T) H n D)
noncomputable def K64_prrlrll (cal:Cal) (k:Nat) (m1:Nat):KR:=(cutK (Lv.a (Lv.a (Lv.b (Lv.a (Lv.b (Lv.b (A 64))))))).c (ay P cal (aw P cal m1) none 64 (cR (cL (cL (cR (cL (cR (cR sK))))))) (Lv.b (Lv.a (Lv.a (Lv.b (Lv.a (Lv.b (Lv.b (A 64)))))))) (Iw cal k m1) (rJ cal k) (av P fJ)))
noncomputable def K64_prrlrlll (cal:Cal) (k:Nat) (m1:Nat):KR:=(cutK (Lv.a (Lv.a (Lv.a (Lv.b (Lv.a (Lv.b (Lv.b (A 64)))))))).c (ay P cal (aw P cal m1) none 64 (cR (cL (cL (cL (cR (cL (cR (cR sK)))))))) (Lv.b (Lv.a (Lv.a (Lv.a (Lv.b (Lv.a (Lv.b (Lv.b (A 64))))))))) (K64_prrlrll cal k m1) (rJ cal k) (av P fJ)))
noncomputable def Ix (cal:Cal) (k:Nat) (m1:Nat):KR:=(cutK (Lv.b (Lv.a (Lv.a (Lv.b (Lv.a (Lv.b (Lv.b (A 64)))))))).c (ay P cal (aw P cal m1) none 64 (cR (cR (cL (cL (cR (cL (cR (cR sK)))))))) (Lv.b (Lv.b (Lv.a (Lv.a (Lv.b (Lv.a (Lv.b (Lv.b (A 64))))))))) (Iw cal k m1) (rJ cal k) (av P fJ)))
noncomputable def K64_pxrrlrllrl (cal:Cal) (k:Nat) (m1:Nat):XR:=(upX 1 (Ix cal k m1) (rJ cal k))
noncomputable def K64_prrlrllrll (cal:Cal) (k:Nat) (m1:Nat):KR:=(cutK (Lv.a (Lv.a (Lv.b (Lv.a (Lv.a (Lv.b (Lv.a (Lv.b (Lv.b (A 64)))))))))).c (ay P cal (aw P cal m1) none 64 (cR (cL (cL (cR (cL (cL (cR (cL (cR (cR sK)))))))))) (Lv.b (Lv.a (Lv.a (Lv.b (Lv.a (Lv.a (Lv.b (Lv.a (Lv.b (Lv.b (A 64))))))))))) (Ix cal k m1) (K64_pxrrlrllrl cal k m1) (av P fJ)))
noncomputable def K64_prrlrllrllr (cal:Cal) (k:Nat) (m1:Nat):KR:=(cutK (Lv.b (Lv.a (Lv.a (Lv.b (Lv.a (Lv.a (Lv.b (Lv.a (Lv.b (Lv.b (A 64))))))))))).c (ay P cal (aw P cal m1) none 64 (cR (cR (cL (cL (cR (cL (cL (cR (cL (cR (cR sK))))))))))) (Lv.b (Lv.b (Lv.a (Lv.a (Lv.b (Lv.a (Lv.a (Lv.b (Lv.a (Lv.b (Lv.b (A 64)))))))))))) (Ix cal k m1) (K64_pxrrlrllrl cal k m1) (av P fJ)))
noncomputable def K64_prrr (cal:Cal) (k:Nat):KR:=(cutK (Lv.b (Lv.b (Lv.b (A 64)))).c (ay P cal (aw P cal k) none 64 (cR (cR (cR (cR sK)))) (Lv.b (Lv.b (Lv.b (Lv.b (A 64))))) (av P fJ) X0 (av P fJ)))
noncomputable def K64_prrrr (cal:Cal) (k:Nat):KR:=(cutK (Lv.b (Lv.b (Lv.b (Lv.b (A 64))))).c (ay P cal (aw P cal k) none 64 (cR (cR (cR (cR (cR sK))))) (Lv.b (Lv.b (Lv.b (Lv.b (Lv.b (A 64)))))) (av P fJ) X0 (av P fJ)))
noncomputable def E64_2 (cal:Cal) (k m1:Nat):KR:=ay P cal (aw P cal m1) none 64 (cR (cR (cL (cL (cR (cL (cR (cR sK)))))))) (Lv.b (Lv.b (Lv.a (Lv.a (Lv.b (Lv.a (Lv.b (Lv.b (A 64))))))))) (Iw cal k m1) (rJ cal k) (av P fJ)
noncomputable def E64_1 (cal:Cal) (k m1:Nat):KR:=ay P cal (aw P cal m1) none 64 (cL (cL (cR (cL (cR (cR sK)))))) (Lv.a (Lv.a (Lv.b (Lv.a (Lv.b (Lv.b (A 64))))))) (Iw cal k m1) (rJ cal k) (av P fJ)
noncomputable def Wk (cal:Cal) (k m1:Nat):V8:=fun u1 u2 u3 u4 u5 u11 u12 u13 H n=>aw P cal m1 (Lv.a (Lv.b (Lv.a (Lv.b (Lv.b (A 64)))))) none 64 (cL (cR (cL (cR (cR sK))))) (Yj cal k) (rJ cal k) (av P fJ) (Tr.set (Tr.set (Tr.set (Tr.set (Tr.set (Tr.set (Tr.set (Tr.set Tr.nil 13 (some u13)) 12 (some u12)) 11 (some u11)) 5 (some u5)) 4 (some u4)) 3 (some u3)) 2 (some u2)) 1 (some u1)) H n []
noncomputable def B64_2 (cal:Cal) (k m1:Nat) (b1:V8) (u1 u2 u3 u4 u5 u11 u12 u13:Value) (H:Hp) (n:Nat):Res:=
binK P .add 3 (.tmp 23) (.const (.int .i64 1)) u13 (.int .i64 1) fun v_h=>
b1 u1 u2 u3 u4 u5 u11 u12 v_h H n
noncomputable def C64_2 (cal:Cal) (k m1:Nat) (b1:V8) (u1 u2 u3 u4 u5 u11 u12 u13:Value) (H:Hp) (n:Nat):Res:=B64_2 cal k m1 b1 u1 u2 u3 u4 u5 u11 u12 u13 H n
theorem h64_2 (cal:Cal) (k m1:Nat) (u1 u2 u3 u4 u5 u11 u12 u13:Value) (H:Hp) (n:Nat):labK (E64_2 cal k m1) (Tr.set (Tr.set (Tr.set (Tr.set (Tr.set (Tr.set (Tr.set (Tr.set Tr.nil 13 (some u13)) 12 (some u12)) 11 (some u11)) 5 (some u5)) 4 (some u4)) 3 (some u3)) 2 (some u2)) 1 (some u1)) H n []=C64_2 cal k m1 (Wk cal k m1) u1 u2 u3 u4 u5 u11 u12 u13 H n:=by
  refine Eq.trans (b:=B64_2 cal k m1 (Wk cal k m1) u1 u2 u3 u4 u5 u11 u12 u13 H n) (by kernel_rfl) ?_
  rw[C64_2]
noncomputable def B64_1 (cal:Cal) (k m1:Nat) (j2:V8) (b1:V8) (u1 u2 u3 u4 u5 u11 u12 u13:Value) (H:Hp) (n:Nat):Res:=
aq (ax P 26 u5 0) fun v_b=>
aq (aW v_b) fun a_d=>aq (az P H 22 a_d) fun v_c=>
aq (lenV P 22 v_c) fun v_e=>
binK P .lss 3 (.tmp 18) (.tmp 21) u13 v_e fun v_f=>
ifK v_f (
aq (aW u5) fun a_k=>aq (az P H 26 a_k) fun v_j=>
aV P cal 77 [v_j,u1,u2,u13] H n fun v_o H_p n_q=>
cX P 55 H_p n_q fun v_r H_s n_t=>
aq (bx P 55 v_r v_o H_s) fun H_v=>
binK P .neq 3 (.tmp 30) (.tmp 31) u13 u3 fun v_y=>
ifK v_y (
aq (ax P 55 v_r 0) fun v_10=>
aq (aW v_10) fun a_11=>aq (az P H_v 3 a_11) fun v_12=>
binK P .add 3 (.tmp 33) (.tmp 35) u11 v_12 fun v_13=>
aq (ax P 55 v_r 1) fun v_15=>
aq (aW v_15) fun a_16=>aq (az P H_v 3 a_16) fun v_17=>
binK P .add 3 (.tmp 37) (.tmp 39) u12 v_17 fun v_18=>
j2 u1 u2 u3 u4 u5 v_13 v_18 u13 H_v n_t) (
j2 u1 u2 u3 u4 u5 u11 u12 u13 H_v n_t)) (
aq (aW u5) fun a_1c=>aq (az P H 26 a_1c) fun v_1b=>
aV P cal 77 [v_1b,u1,u2,u3] H n fun v_1g H_1h n_1i=>
cX P 55 H_1h n_1i fun v_1j H_1k n_1l=>
aq (bx P 55 v_1j v_1g H_1k) fun H_1n=>
aq (ax P 55 v_1j 0) fun v_1p=>
aq (aW v_1p) fun a_1r=>aq (az P H_1n 3 a_1r) fun v_1q=>
aq (ax P 55 v_1j 1) fun v_1s=>
aq (aW v_1s) fun a_1u=>aq (az P H_1n 3 a_1u) fun v_1t=>
aV P cal 32 [u4,v_1q,v_1t] H_1n n_1l fun v_1v H_1w n_1x=>
aQ v_1v true (fun k_1z=>
aq (ax P 26 u5 2) fun v_23=>
k_1z v_23 H_1w n_1x) H_1w n_1x fun v_20 H_21 n_22=>
aQ v_1v true (fun k_24=>
aq (aW v_20) fun a_29=>aq (az P H_21 24 a_29) fun v_28=>
k_24 v_28 H_21 n_22) H_21 n_22 fun v_25 H_26 n_27=>
aQ v_1v true (fun k_2a=>
k_2a u1 H_26 n_27) H_26 n_27 fun v_2b H_2c n_2d=>
aQ v_1v true (fun k_2f=>
aq (aY P 24 v_25 v_2b) fun v_2j=>
k_2f v_2j H_2c n_2d) H_2c n_2d fun v_2g H_2h n_2i=>
aQ v_1v true (fun k_2k=>
aq (ax P 94 v_2g 0) fun v_2o=>
k_2k v_2o H_2h n_2i) H_2h n_2i fun v_2l H_2m n_2n=>
aQ v_1v true (fun k_2p=>
aq (aW v_2l) fun a_2u=>aq (az P H_2m 3 a_2u) fun v_2t=>
k_2p v_2t H_2m n_2n) H_2m n_2n fun v_2q H_2r n_2s=>
aQ v_1v true (fun k_2v=>
k_2v u11 H_2r n_2s) H_2r n_2s fun v_2w H_2x n_2y=>
aQ v_1v true (fun k_30=>
k_30 u12 H_2x n_2y) H_2x n_2y fun v_31 H_32 n_33=>
aQ v_1v true (fun k_35=>
aV P cal 32 [v_2q,v_2w,v_31] H_32 n_33 fun v_39 H_3a n_3b=>
k_35 v_39 H_3a n_3b) H_32 n_33 fun v_36 H_37 n_38=>
aq (cK v_1v v_36 (.bool false)) fun v_3c=>
some (v_3c,H_37,n_38))
noncomputable def C64_1 (cal:Cal) (k m1:Nat) (b1:V8) (u1 u2 u3 u4 u5 u11 u12 u13:Value) (H:Hp) (n:Nat):Res:=B64_1 cal k m1 (C64_2 cal k m1 b1) b1 u1 u2 u3 u4 u5 u11 u12 u13 H n
noncomputable def S64_1 (cal:Cal) (k:Nat):Nat→V8:=fun m=>Nat.rec (motive:=fun _=>V8) (C64_1 cal k 0 (fun _ _ _ _ _ _ _ _ _ _=>none)) (fun m ih=>C64_1 cal k (m+1) ih) m
theorem h64_1 (cal:Cal) (k m1:Nat) (u1 u2 u3 u4 u5 u11 u12 u13:Value) (H:Hp) (n:Nat):labK (E64_1 cal k m1) (Tr.set (Tr.set (Tr.set (Tr.set (Tr.set (Tr.set (Tr.set (Tr.set Tr.nil 13 (some u13)) 12 (some u12)) 11 (some u11)) 5 (some u5)) 4 (some u4)) 3 (some u3)) 2 (some u2)) 1 (some u1)) H n []=C64_1 cal k m1 (Wk cal k m1) u1 u2 u3 u4 u5 u11 u12 u13 H n:=by
  refine Eq.trans (b:=B64_1 cal k m1 (fun u1 u2 u3 u4 u5 u11 u12 u13 H n=>labK (E64_2 cal k m1) (Tr.set (Tr.set (Tr.set (Tr.set (Tr.set (Tr.set (Tr.set (Tr.set Tr.nil 13 (some u13)) 12 (some u12)) 11 (some u11)) 5 (some u5)) 4 (some u4)) 3 (some u3)) 2 (some u2)) 1 (some u1)) H n []) (Wk cal k m1) u1 u2 u3 u4 u5 u11 u12 u13 H n) (by kernel_rfl) ?_
  rw[C64_1]
  have e2:(fun u1 u2 u3 u4 u5 u11 u12 u13 H n=>labK (E64_2 cal k m1) (Tr.set (Tr.set (Tr.set (Tr.set (Tr.set (Tr.set (Tr.set (Tr.set Tr.nil 13 (some u13)) 12 (some u12)) 11 (some u11)) 5 (some u5)) 4 (some u4)) 3 (some u3)) 2 (some u2)) 1 (some u1)) H n [])=(C64_2 cal k m1 (Wk cal k m1)):=by funext u1 u2 u3 u4 u5 u11 u12 u13 H n; exact h64_2 ..
  rw[e2]
theorem q64_1 (cal:Cal) (k:Nat):∀(m:Nat) (u1 u2 u3 u4 u5 u11 u12 u13:Value) (H:Hp) (n:Nat),labK (E64_1 cal k m) (Tr.set (Tr.set (Tr.set (Tr.set (Tr.set (Tr.set (Tr.set (Tr.set Tr.nil 13 (some u13)) 12 (some u12)) 11 (some u11)) 5 (some u5)) 4 (some u4)) 3 (some u3)) 2 (some u2)) 1 (some u1)) H n []=S64_1 cal k m u1 u2 u3 u4 u5 u11 u12 u13 H n
  | 0,u1,u2,u3,u4,u5,u11,u12,u13,H,n=>by
    rw[h64_1]
    have e:Wk cal k 0=fun _ _ _ _ _ _ _ _ _ _=>none:=by funext u1 u2 u3 u4 u5 u11 u12 u13 H n; kernel_rfl
    rw[e]; rfl
  | m+1,u1,u2,u3,u4,u5,u11,u12,u13,H,n=>by
    rw[h64_1]
    have e:Wk cal k (m+1)=S64_1 cal k m:=by
      funext u1 u2 u3 u4 u5 u11 u12 u13 H n
      have e:Wk cal k (m+1) u1 u2 u3 u4 u5 u11 u12 u13 H n=labK (E64_1 cal k m) (Tr.set (Tr.set (Tr.set (Tr.set (Tr.set (Tr.set (Tr.set (Tr.set Tr.nil 13 (some u13)) 12 (some u12)) 11 (some u11)) 5 (some u5)) 4 (some u4)) 3 (some u3)) 2 (some u2)) 1 (some u1)) H n []:=by kernel_rfl
      rw[e]; exact q64_1 ..
    rw[e]; rfl
noncomputable def B64_0 (cal:Cal) (k:Nat) (j1:V8) (v0 v1 v2 v3 v4:Value) (H:Hp) (n:Nat):Res:=
boxK 26 v0 H n fun v_1 H_2 n_3=>
j1 v1 v2 v3 v4 v_1 v4 v4 (.int .i64 0) H_2 n_3
noncomputable def C64_0 (cal:Cal) (k:Nat) (v0 v1 v2 v3 v4:Value) (H:Hp) (n:Nat):Res:=B64_0 cal k (S64_1 cal k k) v0 v1 v2 v3 v4 H n
theorem h64_0 (cal:Cal) (k:Nat) (v0 v1 v2 v3 v4:Value) (H:Hp) (n:Nat):aZ P cal A (k+1) 64 [v0,v1,v2,v3,v4] H n=C64_0 cal k v0 v1 v2 v3 v4 H n:=by
  have h:aZ P cal A (k+1) 64 [v0,v1,v2,v3,v4] H n=B64_0 cal k (fun u1 u2 u3 u4 u5 u11 u12 u13 H n=>labK (E64_1 cal k k) (Tr.set (Tr.set (Tr.set (Tr.set (Tr.set (Tr.set (Tr.set (Tr.set Tr.nil 13 (some u13)) 12 (some u12)) 11 (some u11)) 5 (some u5)) 4 (some u4)) 3 (some u3)) 2 (some u2)) 1 (some u1)) H n []) v0 v1 v2 v3 v4 H n:=by
    rw[bJ (fn:=Go.Proofs.Try.f64) (c:=sK) (rs:=fJ) (by kernel_rfl) (by kernel_rfl) (by kernel_rfl) (by kernel_rfl)]
    kernel_rfl
  rw[h,C64_0]
  have e1:(fun u1 u2 u3 u4 u5 u11 u12 u13 H n=>labK (E64_1 cal k k) (Tr.set (Tr.set (Tr.set (Tr.set (Tr.set (Tr.set (Tr.set (Tr.set Tr.nil 13 (some u13)) 12 (some u12)) 11 (some u11)) 5 (some u5)) 4 (some u4)) 3 (some u3)) 2 (some u2)) 1 (some u1)) H n [])=(S64_1 cal k k):=by funext u1 u2 u3 u4 u5 u11 u12 u13 H n; exact q64_1 ..
  rw[e1]
noncomputable def mW:Code:=cq 65
noncomputable def cz:List ResultVar:=dJ 65
noncomputable def K65_p (cal:Cal) (k:Nat):KR:=(cutK (A 65).c (ay P cal (aw P cal k) none 65 (cR mW) (Lv.b (A 65)) (av P cz) X0 (av P cz)))
noncomputable def K65_pr (cal:Cal) (k:Nat):KR:=(cutK (Lv.b (A 65)).c (ay P cal (aw P cal k) none 65 (cR (cR mW)) (Lv.b (Lv.b (A 65))) (av P cz) X0 (av P cz)))
noncomputable def K65_prr (cal:Cal) (k:Nat):KR:=(cutK (Lv.b (Lv.b (A 65))).c (ay P cal (aw P cal k) none 65 (cR (cR (cR mW))) (Lv.b (Lv.b (Lv.b (A 65)))) (av P cz) X0 (av P cz)))
noncomputable def K65_prrl (cal:Cal) (k:Nat):KR:=(cutK (Lv.a (Lv.b (Lv.b (A 65)))).c (ay P cal (aw P cal k) none 65 (cR (cL (cR (cR mW)))) (Lv.b (Lv.a (Lv.b (Lv.b (A 65))))) (K65_prr cal k) X0 (av P cz)))
noncomputable def K65_prrlrl (cal:Cal) (k:Nat):KR:=(cutK (Lv.a (Lv.b (Lv.a (Lv.b (Lv.b (A 65)))))).c (ay P cal (aw P cal k) none 65 (cR (cL (cR (cL (cR (cR mW)))))) (Lv.b (Lv.a (Lv.b (Lv.a (Lv.b (Lv.b (A 65))))))) (K65_prr cal k) X0 (av P cz)))
noncomputable def K65_prrr (cal:Cal) (k:Nat):KR:=(cutK (Lv.b (Lv.b (Lv.b (A 65)))).c (ay P cal (aw P cal k) none 65 (cR (cR (cR (cR mW)))) (Lv.b (Lv.b (Lv.b (Lv.b (A 65))))) (av P cz) X0 (av P cz)))
noncomputable def K65_prrrl (cal:Cal) (k:Nat):KR:=(cutK (Lv.a (Lv.b (Lv.b (Lv.b (A 65))))).c (ay P cal (aw P cal k) none 65 (cR (cL (cR (cR (cR mW))))) (Lv.b (Lv.a (Lv.b (Lv.b (Lv.b (A 65)))))) (K65_prrr cal k) X0 (av P cz)))
noncomputable def K65_prrrlrl (cal:Cal) (k:Nat):KR:=(cutK (Lv.a (Lv.b (Lv.a (Lv.b (Lv.b (Lv.b (A 65))))))).c (ay P cal (aw P cal k) none 65 (cR (cL (cR (cL (cR (cR (cR mW))))))) (Lv.b (Lv.a (Lv.b (Lv.a (Lv.b (Lv.b (Lv.b (A 65)))))))) (K65_prrr cal k) X0 (av P cz)))
noncomputable def K65_prrrr (cal:Cal) (k:Nat):KR:=(cutK (Lv.b (Lv.b (Lv.b (Lv.b (A 65))))).c (ay P cal (aw P cal k) none 65 (cR (cR (cR (cR (cR mW))))) (Lv.b (Lv.b (Lv.b (Lv.b (Lv.b (A 65)))))) (av P cz) X0 (av P cz)))
noncomputable def K65_prrrrr (cal:Cal) (k:Nat):KR:=(cutK (Lv.b (Lv.b (Lv.b (Lv.b (Lv.b (A 65)))))).c (ay P cal (aw P cal k) none 65 (cR (cR (cR (cR (cR (cR mW)))))) (Lv.b (Lv.b (Lv.b (Lv.b (Lv.b (Lv.b (A 65))))))) (av P cz) X0 (av P cz)))
noncomputable def CK (cal:Cal) (k:Nat):KR:=(cutK (Lv.b (Lv.b (Lv.b (Lv.b (Lv.b (Lv.b (A 65))))))).c (ay P cal (aw P cal k) none 65 (cR (cR (cR (cR (cR (cR (cR mW))))))) (Lv.b (Lv.b (Lv.b (Lv.b (Lv.b (Lv.b (Lv.b (A 65)))))))) (av P cz) X0 (av P cz)))
noncomputable def K65_prrrrrrl (cal:Cal) (k:Nat):KR:=(cutK (Lv.a (Lv.b (Lv.b (Lv.b (Lv.b (Lv.b (Lv.b (A 65)))))))).c (ay P cal (aw P cal k) none 65 (cR (cL (cR (cR (cR (cR (cR (cR mW)))))))) (Lv.b (Lv.a (Lv.b (Lv.b (Lv.b (Lv.b (Lv.b (Lv.b (A 65))))))))) (CK cal k) X0 (av P cz)))
noncomputable def mZ (cal:Cal) (k:Nat):XR:=(upX 0 (CK cal k) X0)
noncomputable def wK (cal:Cal) (k:Nat) (m1:Nat):KR:=(fun T H n D=>aw P cal m1 (Lv.a (Lv.b (Lv.a (Lv.b (Lv.b (Lv.b (Lv.b (Lv.b (Lv.b (A 65)))))))))) none 65 (cL (cR (cL (cR (cR (cR (cR (cR (cR mW))))))))) (CK cal k) (mZ cal k) (av P cz) (cutT (Lv.a (Lv.b (Lv.a (Lv.b (Lv.b (Lv.b (Lv.b (Lv.b (Lv.b (A 65)))))))))).c T) H n D)
noncomputable def K65_prrrrrrlrll (cal:Cal) (k:Nat) (m1:Nat):KR:=(cutK (Lv.a (Lv.a (Lv.b (Lv.a (Lv.b (Lv.b (Lv.b (Lv.b (Lv.b (Lv.b (A 65))))))))))).c (ay P cal (aw P cal m1) none 65 (cR (cL (cL (cR (cL (cR (cR (cR (cR (cR (cR mW))))))))))) (Lv.b (Lv.a (Lv.a (Lv.b (Lv.a (Lv.b (Lv.b (Lv.b (Lv.b (Lv.b (Lv.b (A 65)))))))))))) (wK cal k m1) (mZ cal k) (av P cz)))
noncomputable def K65_prrrrrrlrllr (cal:Cal) (k:Nat) (m1:Nat):KR:=(cutK (Lv.b (Lv.a (Lv.a (Lv.b (Lv.a (Lv.b (Lv.b (Lv.b (Lv.b (Lv.b (Lv.b (A 65)))))))))))).c (ay P cal (aw P cal m1) none 65 (cR (cR (cL (cL (cR (cL (cR (cR (cR (cR (cR (cR mW)))))))))))) (Lv.b (Lv.b (Lv.a (Lv.a (Lv.b (Lv.a (Lv.b (Lv.b (Lv.b (Lv.b (Lv.b (Lv.b (A 65))))))))))))) (wK cal k m1) (mZ cal k) (av P cz)))
noncomputable def qk (cal:Cal) (k:Nat) (m1:Nat):KR:=(cutK (Lv.b (Lv.b (Lv.a (Lv.a (Lv.b (Lv.a (Lv.b (Lv.b (Lv.b (Lv.b (Lv.b (Lv.b (A 65))))))))))))).c (ay P cal (aw P cal m1) none 65 (cR (cR (cR (cL (cL (cR (cL (cR (cR (cR (cR (cR (cR mW))))))))))))) (Lv.b (Lv.b (Lv.b (Lv.a (Lv.a (Lv.b (Lv.a (Lv.b (Lv.b (Lv.b (Lv.b (Lv.b (Lv.b (A 65)))))))))))))) (wK cal k m1) (mZ cal k) (av P cz)))
noncomputable def tj (cal:Cal) (k:Nat) (m1:Nat):XR:=(upX 1 (qk cal k m1) (mZ cal k))
noncomputable def K65_prrrrrrlrllrrll (cal:Cal) (k:Nat) (m1:Nat):KR:=(cutK (Lv.a (Lv.a (Lv.b (Lv.b (Lv.a (Lv.a (Lv.b (Lv.a (Lv.b (Lv.b (Lv.b (Lv.b (Lv.b (Lv.b (A 65))))))))))))))).c (ay P cal (aw P cal m1) none 65 (cR (cL (cL (cR (cR (cL (cL (cR (cL (cR (cR (cR (cR (cR (cR mW))))))))))))))) (Lv.b (Lv.a (Lv.a (Lv.b (Lv.b (Lv.a (Lv.a (Lv.b (Lv.a (Lv.b (Lv.b (Lv.b (Lv.b (Lv.b (Lv.b (A 65)))))))))))))))) (qk cal k m1) (tj cal k m1) (av P cz)))
noncomputable def K65_prrrrrrlrllrrllr (cal:Cal) (k:Nat) (m1:Nat):KR:=(cutK (Lv.b (Lv.a (Lv.a (Lv.b (Lv.b (Lv.a (Lv.a (Lv.b (Lv.a (Lv.b (Lv.b (Lv.b (Lv.b (Lv.b (Lv.b (A 65)))))))))))))))).c (ay P cal (aw P cal m1) none 65 (cR (cR (cL (cL (cR (cR (cL (cL (cR (cL (cR (cR (cR (cR (cR (cR mW)))))))))))))))) (Lv.b (Lv.b (Lv.a (Lv.a (Lv.b (Lv.b (Lv.a (Lv.a (Lv.b (Lv.a (Lv.b (Lv.b (Lv.b (Lv.b (Lv.b (Lv.b (A 65))))))))))))))))) (qk cal k m1) (tj cal k m1) (av P cz)))
noncomputable def K65_prrrrrrlrllrrllrrl (cal:Cal) (k:Nat) (m1:Nat):KR:=(cutK (Lv.a (Lv.b (Lv.b (Lv.a (Lv.a (Lv.b (Lv.b (Lv.a (Lv.a (Lv.b (Lv.a (Lv.b (Lv.b (Lv.b (Lv.b (Lv.b (Lv.b (A 65)))))))))))))))))).c (ay P cal (aw P cal m1) none 65 (cR (cL (cR (cR (cL (cL (cR (cR (cL (cL (cR (cL (cR (cR (cR (cR (cR (cR mW)))))))))))))))))) (Lv.b (Lv.a (Lv.b (Lv.b (Lv.a (Lv.a (Lv.b (Lv.b (Lv.a (Lv.a (Lv.b (Lv.a (Lv.b (Lv.b (Lv.b (Lv.b (Lv.b (Lv.b (A 65))))))))))))))))))) (qk cal k m1) (tj cal k m1) (av P cz)))
noncomputable def K65_prrrrrrr (cal:Cal) (k:Nat):KR:=(cutK (Lv.b (Lv.b (Lv.b (Lv.b (Lv.b (Lv.b (Lv.b (A 65)))))))).c (ay P cal (aw P cal k) none 65 (cR (cR (cR (cR (cR (cR (cR (cR mW)))))))) (Lv.b (Lv.b (Lv.b (Lv.b (Lv.b (Lv.b (Lv.b (Lv.b (A 65))))))))) (av P cz) X0 (av P cz)))
noncomputable def E65_1 (cal:Cal) (k m1:Nat):KR:=ay P cal (aw P cal m1) none 65 (cL (cL (cR (cL (cR (cR (cR (cR (cR (cR mW)))))))))) (Lv.a (Lv.a (Lv.b (Lv.a (Lv.b (Lv.b (Lv.b (Lv.b (Lv.b (Lv.b (A 65))))))))))) (wK cal k m1) (mZ cal k) (av P cz)
noncomputable def R65_1 (cal:Cal) (k m1:Nat):V5:=fun u5 u7 u9 u35 u36 H n=>aw P cal m1 (Lv.a (Lv.b (Lv.a (Lv.b (Lv.b (Lv.b (Lv.b (Lv.b (Lv.b (A 65)))))))))) none 65 (cL (cR (cL (cR (cR (cR (cR (cR (cR mW))))))))) (CK cal k) (mZ cal k) (av P cz) (Tr.set (Tr.set (Tr.set (Tr.set (Tr.set Tr.nil 36 (some u36)) 35 (some u35)) 9 (some u9)) 7 (some u7)) 5 (some u5)) H n []
noncomputable def B65_1 (cal:Cal) (k m1:Nat) (b1:V5) (u5 u7 u9 u35 u36:Value) (H:Hp) (n:Nat):Res:=
binK P .lss 3 (.tmp 36) (.const (.int .i64 8)) u36 (.int .i64 8) fun v_1o=>
ifK v_1o (
aq (Bj P 121 u35 u36) fun v_1q=>
binK P .neq 3 (.tmp 40) (.const (.int .i64 (-1))) v_1q (.int .i64 (-1)) fun v_1u=>
aQ v_1u true (fun k_1w=>
k_1w u7 H n) H n fun v_1x H_1y n_1z=>
aQ v_1u true (fun k_21=>
k_21 u36 H_1y n_1z) H_1y n_1z fun v_22 H_23 n_24=>
aQ v_1u true (fun k_26=>
k_26 v_1q H_23 n_24) H_23 n_24 fun v_27 H_28 n_29=>
aQ v_1u true (fun k_2b=>
aV P cal 102 [v_1x,v_22,v_27] H_28 n_29 fun v_2f H_2g n_2h=>
k_2b v_2f H_2g n_2h) H_28 n_29 fun v_2c H_2d n_2e=>
aQ v_1u true (fun k_2i=>
aq (ej P v_2c (Op.unary UnOp.not v_2c)) fun v_2m=>
k_2i v_2m H_2d n_2e) H_2d n_2e fun v_2j H_2k n_2l=>
aq (cK v_1u v_2j (.bool false)) fun v_2n=>
ifK v_2n (
aq (fK P 121 []) fun v_2o=>
aq (bx P 121 u5 v_2o H_2k) fun H_2r=>
aq (resV P (Tr.set (Tr.set (Tr.set Tr.nil 6 (some (.int .i64 2))) 5 (some u5)) 4 (some (.pointer none))) H_2r cz) fun v_2t=>some (oneV v_2t,H_2r,n_2l)) (
binK P .add 3 (.tmp 36) (.const (.int .i64 1)) u36 (.int .i64 1) fun v_2u=>
b1 u5 u7 u9 u35 v_2u H_2k n_2l)) (
aq (aW u9) fun a_2x=>aq (az P H 121 a_2x) fun v_2y=>
aq (bx P 121 u5 v_2y H) fun H_31=>
aq (resV P (Tr.set (Tr.set (Tr.set Tr.nil 6 (some (.int .i64 0))) 5 (some u5)) 4 (some u7)) H_31 cz) fun v_33=>some (oneV v_33,H_31,n))
noncomputable def C65_1 (cal:Cal) (k m1:Nat) (b1:V5) (u5 u7 u9 u35 u36:Value) (H:Hp) (n:Nat):Res:=B65_1 cal k m1 b1 u5 u7 u9 u35 u36 H n
noncomputable def S65_1 (cal:Cal) (k:Nat):Nat→V5:=fun m=>Nat.rec (motive:=fun _=>V5) (C65_1 cal k 0 (fun _ _ _ _ _ _ _=>none)) (fun m ih=>C65_1 cal k (m+1) ih) m
theorem h65_1 (cal:Cal) (k m1:Nat) (u5 u7 u9 u35 u36:Value) (H:Hp) (n:Nat):labK (E65_1 cal k m1) (Tr.set (Tr.set (Tr.set (Tr.set (Tr.set Tr.nil 36 (some u36)) 35 (some u35)) 9 (some u9)) 7 (some u7)) 5 (some u5)) H n []=C65_1 cal k m1 (R65_1 cal k m1) u5 u7 u9 u35 u36 H n:=by
  refine Eq.trans (b:=B65_1 cal k m1 (R65_1 cal k m1) u5 u7 u9 u35 u36 H n) (by kernel_rfl) ?_
  rw[C65_1]
theorem q65_1 (cal:Cal) (k:Nat):∀(m:Nat) (u5 u7 u9 u35 u36:Value) (H:Hp) (n:Nat),labK (E65_1 cal k m) (Tr.set (Tr.set (Tr.set (Tr.set (Tr.set Tr.nil 36 (some u36)) 35 (some u35)) 9 (some u9)) 7 (some u7)) 5 (some u5)) H n []=S65_1 cal k m u5 u7 u9 u35 u36 H n
  | 0,u5,u7,u9,u35,u36,H,n=>by
    rw[h65_1]
    have e:R65_1 cal k 0=fun _ _ _ _ _ _ _=>none:=by funext u5 u7 u9 u35 u36 H n; kernel_rfl
    rw[e]; rfl
  | m+1,u5,u7,u9,u35,u36,H,n=>by
    rw[h65_1]
    have e:R65_1 cal k (m+1)=S65_1 cal k m:=by
      funext u5 u7 u9 u35 u36 H n
      have e:R65_1 cal k (m+1) u5 u7 u9 u35 u36 H n=labK (E65_1 cal k m) (Tr.set (Tr.set (Tr.set (Tr.set (Tr.set Tr.nil 36 (some u36)) 35 (some u35)) 9 (some u9)) 7 (some u7)) 5 (some u5)) H n []:=by kernel_rfl
      rw[e]; exact q65_1 ..
    rw[e]; rfl
noncomputable def B65_0 (cal:Cal) (k:Nat) (j1:V5) (v0 v1:Value) (H:Hp) (n:Nat):Res:=
boxK 35 v0 H n fun v_1 H_2 n_3=>
cX P 121 H_2 n_3 fun v_5 H_6 n_7=>
aq (aW v_1) fun a_a=>aq (az P H_6 35 a_a) fun v_9=>
aV P cal 61 [v_9] H_6 n_7 fun v_b H_c n_d=>
aq (tupV v_b 0) fun v_f=>
aq (tupV v_b 1) fun v_g=>
binK P .neq 29 (.tmp 17) (.const (.int .i64 0)) v_g (.int .i64 0) fun v_k=>
ifK v_k (
aq (fK P 121 []) fun v_l=>
aq (bx P 121 v_5 v_l H_c) fun H_p=>
aq (resV P (Tr.set (Tr.set (Tr.set Tr.nil 6 (some v_g)) 5 (some v_5)) 4 (some (.pointer none))) H_p cz) fun v_r=>some (oneV v_r,H_p,n_d)) (
aq (lenV P 44 v1) fun v_t=>
aq (nilV v_f) fun v_v=>
aq (ax P 117 v_v 0) fun v_w=>
aq (ax P 35 v_w 0) fun v_x=>
aq (aW v_x) fun a_z=>aq (az P H_c 31 a_z) fun v_y=>
aq (lenV P 31 v_y) fun v_10=>
binK P .neq 3 (.tmp 22) (.tmp 28) v_t v_10 fun v_11=>
ifK v_11 (
aq (fK P 121 []) fun v_12=>
aq (bx P 121 v_5 v_12 H_c) fun H_15=>
aq (resV P (Tr.set (Tr.set (Tr.set Tr.nil 6 (some (.int .i64 2))) 5 (some v_5)) 4 (some (.pointer none))) H_15 cz) fun v_17=>some (oneV v_17,H_15,n_d)) (
aV P cal 101 [] H_c n_d fun v_18 H_19 n_1a=>
cX P 121 H_19 n_1a fun v_1b H_1c n_1d=>
aq (bx P 121 v_1b v_18 H_1c) fun H_1f=>
aq (Gk P 121 v_1b none none) fun v_1g=>
stK (PX P (bare H_1f n_1d) 44 v_1g v1) fun v_1i H_1j n_1k=>
aq (aW v_1b) fun a_1m=>aq (az P H_1j 121 a_1m) fun v_1l=>
j1 v_5 v_f v_1b v_1l (.int .i64 0) H_1j n_1k))
noncomputable def WJ (cal:Cal) (k:Nat) (v0 v1:Value) (H:Hp) (n:Nat):Res:=B65_0 cal k (S65_1 cal k k) v0 v1 H n
theorem h65_0 (cal:Cal) (k:Nat) (v0 v1:Value) (H:Hp) (n:Nat):aZ P cal A (k+1) 65 [v0,v1] H n=WJ cal k v0 v1 H n:=by
  have h:aZ P cal A (k+1) 65 [v0,v1] H n=B65_0 cal k (fun u5 u7 u9 u35 u36 H n=>labK (E65_1 cal k k) (Tr.set (Tr.set (Tr.set (Tr.set (Tr.set Tr.nil 36 (some u36)) 35 (some u35)) 9 (some u9)) 7 (some u7)) 5 (some u5)) H n []) v0 v1 H n:=by
    rw[bJ (fn:=Go.Proofs.Try.f65) (c:=mW) (rs:=cz) (by kernel_rfl) (by kernel_rfl) (by kernel_rfl) (by kernel_rfl)]
    kernel_rfl
  rw[h,WJ]
  have e1:(fun u5 u7 u9 u35 u36 H n=>labK (E65_1 cal k k) (Tr.set (Tr.set (Tr.set (Tr.set (Tr.set Tr.nil 36 (some u36)) 35 (some u35)) 9 (some u9)) 7 (some u7)) 5 (some u5)) H n [])=(S65_1 cal k k):=by funext u5 u7 u9 u35 u36 H n; exact q65_1 ..
  rw[e1]
noncomputable def Uq:Code:=cq 67
noncomputable def rZ:List ResultVar:=dJ 67
noncomputable def K67_p (cal:Cal) (k:Nat):KR:=(cutK (A 67).c (ay P cal (aw P cal k) none 67 (cR Uq) (Lv.b (A 67)) (av P rZ) X0 (av P rZ)))
noncomputable def K67_pr (cal:Cal) (k:Nat):KR:=(cutK (Lv.b (A 67)).c (ay P cal (aw P cal k) none 67 (cR (cR Uq)) (Lv.b (Lv.b (A 67))) (av P rZ) X0 (av P rZ)))
noncomputable def K67_prl (cal:Cal) (k:Nat):KR:=(cutK (Lv.a (Lv.b (A 67))).c (ay P cal (aw P cal k) none 67 (cR (cL (cR Uq))) (Lv.b (Lv.a (Lv.b (A 67)))) (K67_pr cal k) X0 (av P rZ)))
noncomputable def K67_prlrl (cal:Cal) (k:Nat):KR:=(cutK (Lv.a (Lv.b (Lv.a (Lv.b (A 67))))).c (ay P cal (aw P cal k) none 67 (cR (cL (cR (cL (cR Uq))))) (Lv.b (Lv.a (Lv.b (Lv.a (Lv.b (A 67)))))) (K67_pr cal k) X0 (av P rZ)))
noncomputable def K67_prr (cal:Cal) (k:Nat):KR:=(cutK (Lv.b (Lv.b (A 67))).c (ay P cal (aw P cal k) none 67 (cR (cR (cR Uq))) (Lv.b (Lv.b (Lv.b (A 67)))) (av P rZ) X0 (av P rZ)))
noncomputable def B67_0 (cal:Cal) (k:Nat) (v0:Value) (H:Hp) (n:Nat):Res:=
binK P .eql 45 (.tmp 3) (.const (.slice none 0 0)) v0 (.slice none 0 0) fun v_3=>
ifK v_3 (
some ((.slice none 0 0),H,n)) (
rowK P 45 0 [] H n fun v_5 H_6 n_7=>
stK (jZ P (bare H_6 n_7) 45 45 v_5 v0) fun v_9 H_a n_b=>
some (v_9,H_a,n_b))
noncomputable def C67_0 (cal:Cal) (k:Nat) (v0:Value) (H:Hp) (n:Nat):Res:=B67_0 cal k v0 H n
theorem h67_0 (cal:Cal) (k:Nat) (v0:Value) (H:Hp) (n:Nat):aZ P cal A (k+1) 67 [v0] H n=C67_0 cal k v0 H n:=by
  have h:aZ P cal A (k+1) 67 [v0] H n=B67_0 cal k v0 H n:=by
    rw[bJ (fn:=Go.Proofs.Try.f67) (c:=Uq) (rs:=rZ) (by kernel_rfl) (by kernel_rfl) (by kernel_rfl) (by kernel_rfl)]
    kernel_rfl
  rw[h,C67_0]
noncomputable def code68:Code:=cq 68
noncomputable def FX:List ResultVar:=dJ 68
noncomputable def K68_p (cal:Cal) (k:Nat):KR:=(cutK (A 68).c (ay P cal (aw P cal k) none 68 (cR code68) (Lv.b (A 68)) (av P FX) X0 (av P FX)))
noncomputable def K68_pr (cal:Cal) (k:Nat):KR:=(cutK (Lv.b (A 68)).c (ay P cal (aw P cal k) none 68 (cR (cR code68)) (Lv.b (Lv.b (A 68))) (av P FX) X0 (av P FX)))
noncomputable def B68_0 (cal:Cal) (k:Nat) (v0 v1 v2:Value) (H:Hp) (n:Nat):Res:=
boxK 111 v1 H n fun v_1 H_2 n_3=>
aq (aY P 111 v_1 v2) fun v_6=>
aq (ax P 53 v_6 0) fun v_7=>
aq (aW v_7) fun a_8=>aq (az P H_2 3 a_8) fun v_9=>
aq (nilV v0) fun v_b=>
aq (ax P 117 v_b 0) fun v_c=>
aq (ax P 35 v_c 0) fun v_d=>
aq (aW v_d) fun a_e=>aq (az P H_2 31 a_e) fun v_f=>
aq (aY P 31 v_f v2) fun v_h=>
aq (ax P 90 v_h 0) fun v_i=>
aq (aW v_i) fun a_j=>aq (az P H_2 3 a_j) fun v_k=>
binK P .lss 3 (.tmp 10) (.tmp 19) v_9 v_k fun v_l=>
some (v_l,H_2,n_3)
noncomputable def C68_0 (cal:Cal) (k:Nat) (v0 v1 v2:Value) (H:Hp) (n:Nat):Res:=B68_0 cal k v0 v1 v2 H n
theorem h68_0 (cal:Cal) (k:Nat) (v0 v1 v2:Value) (H:Hp) (n:Nat):aZ P cal A (k+1) 68 [v0,v1,v2] H n=C68_0 cal k v0 v1 v2 H n:=by
  have h:aZ P cal A (k+1) 68 [v0,v1,v2] H n=B68_0 cal k v0 v1 v2 H n:=by
    rw[bJ (fn:=Go.Proofs.Try.f68) (c:=code68) (rs:=FX) (by kernel_rfl) (by kernel_rfl) (by kernel_rfl) (by kernel_rfl)]
    kernel_rfl
  rw[h,C68_0]
noncomputable def code69:Code:=cq 69
noncomputable def FY:List ResultVar:=dJ 69
noncomputable def K69_p (cal:Cal) (k:Nat):KR:=(cutK (A 69).c (ay P cal (aw P cal k) none 69 (cR code69) (Lv.b (A 69)) (av P FY) X0 (av P FY)))
noncomputable def K69_pr (cal:Cal) (k:Nat):KR:=(cutK (Lv.b (A 69)).c (ay P cal (aw P cal k) none 69 (cR (cR code69)) (Lv.b (Lv.b (A 69))) (av P FY) X0 (av P FY)))
noncomputable def B69_0 (cal:Cal) (k:Nat) (v0 v1 v2:Value) (H:Hp) (n:Nat):Res:=
boxK 111 v1 H n fun v_1 H_2 n_3=>
aq (aY P 111 v_1 v2) fun v_6=>
aq (ax P 53 v_6 1) fun v_7=>
aq (aW v_7) fun a_8=>aq (az P H_2 3 a_8) fun v_9=>
aq (nilV v0) fun v_b=>
aq (ax P 117 v_b 0) fun v_c=>
aq (ax P 35 v_c 0) fun v_d=>
aq (aW v_d) fun a_e=>aq (az P H_2 31 a_e) fun v_f=>
aq (aY P 31 v_f v2) fun v_h=>
aq (ax P 90 v_h 1) fun v_i=>
aq (aW v_i) fun a_j=>aq (az P H_2 3 a_j) fun v_k=>
binK P .gtr 3 (.tmp 10) (.tmp 19) v_9 v_k fun v_l=>
some (v_l,H_2,n_3)
noncomputable def C69_0 (cal:Cal) (k:Nat) (v0 v1 v2:Value) (H:Hp) (n:Nat):Res:=B69_0 cal k v0 v1 v2 H n
theorem h69_0 (cal:Cal) (k:Nat) (v0 v1 v2:Value) (H:Hp) (n:Nat):aZ P cal A (k+1) 69 [v0,v1,v2] H n=C69_0 cal k v0 v1 v2 H n:=by
  have h:aZ P cal A (k+1) 69 [v0,v1,v2] H n=B69_0 cal k v0 v1 v2 H n:=by
    rw[bJ (fn:=Go.Proofs.Try.f69) (c:=code69) (rs:=FY) (by kernel_rfl) (by kernel_rfl) (by kernel_rfl) (by kernel_rfl)]
    kernel_rfl
  rw[h,C69_0]
noncomputable def uV:Code:=cq 70
noncomputable def eX:List ResultVar:=dJ 70
noncomputable def K70_p (cal:Cal) (k:Nat):KR:=(cutK (A 70).c (ay P cal (aw P cal k) none 70 (cR uV) (Lv.b (A 70)) (av P eX) X0 (av P eX)))
noncomputable def K70_pr (cal:Cal) (k:Nat):KR:=(cutK (Lv.b (A 70)).c (ay P cal (aw P cal k) none 70 (cR (cR uV)) (Lv.b (Lv.b (A 70))) (av P eX) X0 (av P eX)))
noncomputable def K70_prr (cal:Cal) (k:Nat):KR:=(cutK (Lv.b (Lv.b (A 70))).c (ay P cal (aw P cal k) none 70 (cR (cR (cR uV))) (Lv.b (Lv.b (Lv.b (A 70)))) (av P eX) X0 (av P eX)))
noncomputable def RQ (cal:Cal) (k:Nat):KR:=(cutK (Lv.b (Lv.b (Lv.b (A 70)))).c (ay P cal (aw P cal k) none 70 (cR (cR (cR (cR uV)))) (Lv.b (Lv.b (Lv.b (Lv.b (A 70))))) (av P eX) X0 (av P eX)))
noncomputable def K70_prrrl (cal:Cal) (k:Nat):KR:=(cutK (Lv.a (Lv.b (Lv.b (Lv.b (A 70))))).c (ay P cal (aw P cal k) none 70 (cR (cL (cR (cR (cR uV))))) (Lv.b (Lv.a (Lv.b (Lv.b (Lv.b (A 70)))))) (RQ cal k) X0 (av P eX)))
noncomputable def oY (cal:Cal) (k:Nat):XR:=(upX 0 (RQ cal k) X0)
noncomputable def Dj (cal:Cal) (k:Nat) (m1:Nat):KR:=(fun T H n D=>aw P cal m1 (Lv.a (Lv.b (Lv.a (Lv.b (Lv.b (Lv.b (A 70))))))) none 70 (cL (cR (cL (cR (cR (cR uV)))))) (RQ cal k) (oY cal k) (av P eX) (cutT (Lv.a (Lv.b (Lv.a (Lv.b (Lv.b (Lv.b (A 70))))))).c T) H n D)
noncomputable def K70_prrrlrll (cal:Cal) (k:Nat) (m1:Nat):KR:=(cutK (Lv.a (Lv.a (Lv.b (Lv.a (Lv.b (Lv.b (Lv.b (A 70)))))))).c (ay P cal (aw P cal m1) none 70 (cR (cL (cL (cR (cL (cR (cR (cR uV)))))))) (Lv.b (Lv.a (Lv.a (Lv.b (Lv.a (Lv.b (Lv.b (Lv.b (A 70))))))))) (Dj cal k m1) (oY cal k) (av P eX)))
noncomputable def K70_prrrlrlll (cal:Cal) (k:Nat) (m1:Nat):KR:=(cutK (Lv.a (Lv.a (Lv.a (Lv.b (Lv.a (Lv.b (Lv.b (Lv.b (A 70))))))))).c (ay P cal (aw P cal m1) none 70 (cR (cL (cL (cL (cR (cL (cR (cR (cR uV))))))))) (Lv.b (Lv.a (Lv.a (Lv.a (Lv.b (Lv.a (Lv.b (Lv.b (Lv.b (A 70)))))))))) (K70_prrrlrll cal k m1) (oY cal k) (av P eX)))
noncomputable def K70_prrrlrllr (cal:Cal) (k:Nat) (m1:Nat):KR:=(cutK (Lv.b (Lv.a (Lv.a (Lv.b (Lv.a (Lv.b (Lv.b (Lv.b (A 70))))))))).c (ay P cal (aw P cal m1) none 70 (cR (cR (cL (cL (cR (cL (cR (cR (cR uV))))))))) (Lv.b (Lv.b (Lv.a (Lv.a (Lv.b (Lv.a (Lv.b (Lv.b (Lv.b (A 70)))))))))) (Dj cal k m1) (oY cal k) (av P eX)))
noncomputable def K70_pxrrrlrllrl (cal:Cal) (k:Nat) (m1:Nat):XR:=(upX 1 (K70_prrrlrllr cal k m1) (oY cal k))
noncomputable def K70_prrrlrllrll (cal:Cal) (k:Nat) (m1:Nat):KR:=(cutK (Lv.a (Lv.a (Lv.b (Lv.a (Lv.a (Lv.b (Lv.a (Lv.b (Lv.b (Lv.b (A 70))))))))))).c (ay P cal (aw P cal m1) none 70 (cR (cL (cL (cR (cL (cL (cR (cL (cR (cR (cR uV))))))))))) (Lv.b (Lv.a (Lv.a (Lv.b (Lv.a (Lv.a (Lv.b (Lv.a (Lv.b (Lv.b (Lv.b (A 70)))))))))))) (K70_prrrlrllr cal k m1) (K70_pxrrrlrllrl cal k m1) (av P eX)))
noncomputable def K70_prrrr (cal:Cal) (k:Nat):KR:=(cutK (Lv.b (Lv.b (Lv.b (Lv.b (A 70))))).c (ay P cal (aw P cal k) none 70 (cR (cR (cR (cR (cR uV))))) (Lv.b (Lv.b (Lv.b (Lv.b (Lv.b (A 70)))))) (av P eX) X0 (av P eX)))
noncomputable def E70_2 (cal:Cal) (k m1:Nat):KR:=ay P cal (aw P cal m1) none 70 (cR (cR (cL (cL (cR (cL (cR (cR (cR uV))))))))) (Lv.b (Lv.b (Lv.a (Lv.a (Lv.b (Lv.a (Lv.b (Lv.b (Lv.b (A 70)))))))))) (Dj cal k m1) (oY cal k) (av P eX)
noncomputable def E70_1 (cal:Cal) (k m1:Nat):KR:=ay P cal (aw P cal m1) none 70 (cL (cL (cR (cL (cR (cR (cR uV))))))) (Lv.a (Lv.a (Lv.b (Lv.a (Lv.b (Lv.b (Lv.b (A 70)))))))) (Dj cal k m1) (oY cal k) (av P eX)
noncomputable def WQ (cal:Cal) (k m1:Nat):V8:=fun u1 u2 u3 u4 u8 u9 u10 u11 H n=>aw P cal m1 (Lv.a (Lv.b (Lv.a (Lv.b (Lv.b (Lv.b (A 70))))))) none 70 (cL (cR (cL (cR (cR (cR uV)))))) (RQ cal k) (oY cal k) (av P eX) (Tr.set (Tr.set (Tr.set (Tr.set (Tr.set (Tr.set (Tr.set (Tr.set Tr.nil 11 (some u11)) 10 (some u10)) 9 (some u9)) 8 (some u8)) 4 (some u4)) 3 (some u3)) 2 (some u2)) 1 (some u1)) H n []
noncomputable def B70_2 (cal:Cal) (k m1:Nat) (b1:V8) (u1 u2 u3 u4 u8 u9 u10 u11:Value) (H:Hp) (n:Nat):Res:=
binK P .add 3 (.tmp 24) (.const (.int .i64 1)) u11 (.int .i64 1) fun v_10=>
b1 u1 u2 u3 u4 u8 u9 u10 v_10 H n
noncomputable def C70_2 (cal:Cal) (k m1:Nat) (b1:V8) (u1 u2 u3 u4 u8 u9 u10 u11:Value) (H:Hp) (n:Nat):Res:=B70_2 cal k m1 b1 u1 u2 u3 u4 u8 u9 u10 u11 H n
theorem h70_2 (cal:Cal) (k m1:Nat) (u1 u2 u3 u4 u8 u9 u10 u11:Value) (H:Hp) (n:Nat):labK (E70_2 cal k m1) (Tr.set (Tr.set (Tr.set (Tr.set (Tr.set (Tr.set (Tr.set (Tr.set Tr.nil 11 (some u11)) 10 (some u10)) 9 (some u9)) 8 (some u8)) 4 (some u4)) 3 (some u3)) 2 (some u2)) 1 (some u1)) H n []=C70_2 cal k m1 (WQ cal k m1) u1 u2 u3 u4 u8 u9 u10 u11 H n:=by
  refine Eq.trans (b:=B70_2 cal k m1 (WQ cal k m1) u1 u2 u3 u4 u8 u9 u10 u11 H n) (by kernel_rfl) ?_
  rw[C70_2]
noncomputable def B70_1 (cal:Cal) (k m1:Nat) (j2:V8) (b1:V8) (u1 u2 u3 u4 u8 u9 u10 u11:Value) (H:Hp) (n:Nat):Res:=
aq (ax P 55 u10 1) fun v_v=>
aq (aW v_v) fun a_x=>aq (az P H 3 a_x) fun v_w=>
binK P .leq 3 (.tmp 20) (.tmp 22) u11 v_w fun v_y=>
ifK v_y (
aq (aW u4) fun a_13=>aq (az P H 26 a_13) fun v_12=>
aV P cal 64 [v_12,u1,u2,u3,u11] H n fun v_18 H_19 n_1a=>
ifK v_18 (
aq (ax P 55 u9 0) fun v_1b=>
aq (aW v_1b) fun a_1d=>aq (az P H_19 3 a_1d) fun v_1c=>
wj P .min [3,3] (Call.mk (Callee.builtin Builtin.min) #[(.tmp 33),(.tmp 34)] #[3,3]) 3 [v_1c,u11] H_19 n_1a fun v_1f H_1g n_1h=>
aq (fK P 55 [(0,v_1f),(1,u11)]) fun v_1j=>
aq (bx P 55 u9 v_1j H_1g) fun H_1l=>
j2 u1 u2 u3 u4 u8 u9 u10 u11 H_1l n_1h) (
j2 u1 u2 u3 u4 u8 u9 u10 u11 H_19 n_1a)) (
aq (aW u9) fun a_1n=>aq (az P H 55 a_1n) fun v_1m=>
aq (bx P 55 u8 v_1m H) fun H_1p=>
aq (resV P (Tr.set Tr.nil 8 (some u8)) H_1p eX) fun v_1q=>some (oneV v_1q,H_1p,n))
noncomputable def C70_1 (cal:Cal) (k m1:Nat) (b1:V8) (u1 u2 u3 u4 u8 u9 u10 u11:Value) (H:Hp) (n:Nat):Res:=B70_1 cal k m1 (C70_2 cal k m1 b1) b1 u1 u2 u3 u4 u8 u9 u10 u11 H n
noncomputable def S70_1 (cal:Cal) (k:Nat):Nat→V8:=fun m=>Nat.rec (motive:=fun _=>V8) (C70_1 cal k 0 (fun _ _ _ _ _ _ _ _ _ _=>none)) (fun m ih=>C70_1 cal k (m+1) ih) m
theorem h70_1 (cal:Cal) (k m1:Nat) (u1 u2 u3 u4 u8 u9 u10 u11:Value) (H:Hp) (n:Nat):labK (E70_1 cal k m1) (Tr.set (Tr.set (Tr.set (Tr.set (Tr.set (Tr.set (Tr.set (Tr.set Tr.nil 11 (some u11)) 10 (some u10)) 9 (some u9)) 8 (some u8)) 4 (some u4)) 3 (some u3)) 2 (some u2)) 1 (some u1)) H n []=C70_1 cal k m1 (WQ cal k m1) u1 u2 u3 u4 u8 u9 u10 u11 H n:=by
  refine Eq.trans (b:=B70_1 cal k m1 (fun u1 u2 u3 u4 u8 u9 u10 u11 H n=>labK (E70_2 cal k m1) (Tr.set (Tr.set (Tr.set (Tr.set (Tr.set (Tr.set (Tr.set (Tr.set Tr.nil 11 (some u11)) 10 (some u10)) 9 (some u9)) 8 (some u8)) 4 (some u4)) 3 (some u3)) 2 (some u2)) 1 (some u1)) H n []) (WQ cal k m1) u1 u2 u3 u4 u8 u9 u10 u11 H n) (by kernel_rfl) ?_
  rw[C70_1]
  have e2:(fun u1 u2 u3 u4 u8 u9 u10 u11 H n=>labK (E70_2 cal k m1) (Tr.set (Tr.set (Tr.set (Tr.set (Tr.set (Tr.set (Tr.set (Tr.set Tr.nil 11 (some u11)) 10 (some u10)) 9 (some u9)) 8 (some u8)) 4 (some u4)) 3 (some u3)) 2 (some u2)) 1 (some u1)) H n [])=(C70_2 cal k m1 (WQ cal k m1)):=by funext u1 u2 u3 u4 u8 u9 u10 u11 H n; exact h70_2 ..
  rw[e2]
theorem q70_1 (cal:Cal) (k:Nat):∀(m:Nat) (u1 u2 u3 u4 u8 u9 u10 u11:Value) (H:Hp) (n:Nat),labK (E70_1 cal k m) (Tr.set (Tr.set (Tr.set (Tr.set (Tr.set (Tr.set (Tr.set (Tr.set Tr.nil 11 (some u11)) 10 (some u10)) 9 (some u9)) 8 (some u8)) 4 (some u4)) 3 (some u3)) 2 (some u2)) 1 (some u1)) H n []=S70_1 cal k m u1 u2 u3 u4 u8 u9 u10 u11 H n
  | 0,u1,u2,u3,u4,u8,u9,u10,u11,H,n=>by
    rw[h70_1]
    have e:WQ cal k 0=fun _ _ _ _ _ _ _ _ _ _=>none:=by funext u1 u2 u3 u4 u8 u9 u10 u11 H n; kernel_rfl
    rw[e]; rfl
  | m+1,u1,u2,u3,u4,u8,u9,u10,u11,H,n=>by
    rw[h70_1]
    have e:WQ cal k (m+1)=S70_1 cal k m:=by
      funext u1 u2 u3 u4 u8 u9 u10 u11 H n
      have e:WQ cal k (m+1) u1 u2 u3 u4 u8 u9 u10 u11 H n=labK (E70_1 cal k m) (Tr.set (Tr.set (Tr.set (Tr.set (Tr.set (Tr.set (Tr.set (Tr.set Tr.nil 11 (some u11)) 10 (some u10)) 9 (some u9)) 8 (some u8)) 4 (some u4)) 3 (some u3)) 2 (some u2)) 1 (some u1)) H n []:=by kernel_rfl
      rw[e]; exact q70_1 ..
    rw[e]; rfl
noncomputable def B70_0 (cal:Cal) (k:Nat) (j1:V8) (v0 v1 v2 v3:Value) (H:Hp) (n:Nat):Res:=
boxK 26 v0 H n fun v_1 H_2 n_3=>
cX P 55 H_2 n_3 fun v_4 H_5 n_6=>
aq (fK P 55 [(0,(.int .i64 2000)),(1,(.int .i64 (-1)))]) fun v_7=>
cX P 55 H_5 n_6 fun v_8 H_9 n_a=>
aq (bx P 55 v_8 v_7 H_9) fun H_c=>
aq (aW v_1) fun a_e=>aq (az P H_c 26 a_e) fun v_d=>
aV P cal 77 [v_d,v1,v2,v3] H_c n_a fun v_i H_j n_k=>
cX P 55 H_j n_k fun v_l H_m n_n=>
aq (bx P 55 v_l v_i H_m) fun H_p=>
aq (ax P 55 v_l 0) fun v_q=>
aq (aW v_q) fun a_s=>aq (az P H_p 3 a_s) fun v_r=>
j1 v1 v2 v3 v_1 v_4 v_8 v_l v_r H_p n_n
noncomputable def C70_0 (cal:Cal) (k:Nat) (v0 v1 v2 v3:Value) (H:Hp) (n:Nat):Res:=B70_0 cal k (S70_1 cal k k) v0 v1 v2 v3 H n
theorem h70_0 (cal:Cal) (k:Nat) (v0 v1 v2 v3:Value) (H:Hp) (n:Nat):aZ P cal A (k+1) 70 [v0,v1,v2,v3] H n=C70_0 cal k v0 v1 v2 v3 H n:=by
  have h:aZ P cal A (k+1) 70 [v0,v1,v2,v3] H n=B70_0 cal k (fun u1 u2 u3 u4 u8 u9 u10 u11 H n=>labK (E70_1 cal k k) (Tr.set (Tr.set (Tr.set (Tr.set (Tr.set (Tr.set (Tr.set (Tr.set Tr.nil 11 (some u11)) 10 (some u10)) 9 (some u9)) 8 (some u8)) 4 (some u4)) 3 (some u3)) 2 (some u2)) 1 (some u1)) H n []) v0 v1 v2 v3 H n:=by
    rw[bJ (fn:=Go.Proofs.Try.f70) (c:=uV) (rs:=eX) (by kernel_rfl) (by kernel_rfl) (by kernel_rfl) (by kernel_rfl)]
    kernel_rfl
  rw[h,C70_0]
  have e1:(fun u1 u2 u3 u4 u8 u9 u10 u11 H n=>labK (E70_1 cal k k) (Tr.set (Tr.set (Tr.set (Tr.set (Tr.set (Tr.set (Tr.set (Tr.set Tr.nil 11 (some u11)) 10 (some u10)) 9 (some u9)) 8 (some u8)) 4 (some u4)) 3 (some u3)) 2 (some u2)) 1 (some u1)) H n [])=(S70_1 cal k k):=by funext u1 u2 u3 u4 u8 u9 u10 u11 H n; exact q70_1 ..
  rw[e1]
noncomputable def code71:Code:=cq 71
noncomputable def FZ:List ResultVar:=dJ 71
noncomputable def K71_p (cal:Cal) (k:Nat):KR:=(cutK (A 71).c (ay P cal (aw P cal k) none 71 (cR code71) (Lv.b (A 71)) (av P FZ) X0 (av P FZ)))
noncomputable def K71_pr (cal:Cal) (k:Nat):KR:=(cutK (Lv.b (A 71)).c (ay P cal (aw P cal k) none 71 (cR (cR code71)) (Lv.b (Lv.b (A 71))) (av P FZ) X0 (av P FZ)))
noncomputable def B71_0 (cal:Cal) (k:Nat) (v0 v1:Value) (H:Hp) (n:Nat):Res:=
boxK 35 v0 H n fun v_1 H_2 n_3=>
binK P .geq 3 (.tmp 5) (.const (.int .i64 0)) v1 (.int .i64 0) fun v_6=>
aQ v_6 true (fun k_8=>
k_8 v1 H_2 n_3) H_2 n_3 fun v_9 H_a n_b=>
aQ v_6 true (fun k_d=>
aq (ax P 35 v_1 0) fun v_h=>
k_d v_h H_a n_b) H_a n_b fun v_e H_f n_g=>
aQ v_6 true (fun k_i=>
aq (aW v_e) fun a_n=>aq (az P H_f 31 a_n) fun v_m=>
k_i v_m H_f n_g) H_f n_g fun v_j H_k n_l=>
aQ v_6 true (fun k_o=>
aq (lenV P 31 v_j) fun v_s=>
k_o v_s H_k n_l) H_k n_l fun v_p H_q n_r=>
aQ v_6 true (fun k_t=>
binK P .lss 3 (.tmp 8) (.tmp 11) v_9 v_p fun v_x=>
k_t v_x H_q n_r) H_q n_r fun v_u H_v n_w=>
aq (cK v_6 v_u (.bool false)) fun v_y=>
some (v_y,H_v,n_w)
noncomputable def C71_0 (cal:Cal) (k:Nat) (v0 v1:Value) (H:Hp) (n:Nat):Res:=B71_0 cal k v0 v1 H n
theorem h71_0 (cal:Cal) (k:Nat) (v0 v1:Value) (H:Hp) (n:Nat):aZ P cal A (k+1) 71 [v0,v1] H n=C71_0 cal k v0 v1 H n:=by
  have h:aZ P cal A (k+1) 71 [v0,v1] H n=B71_0 cal k v0 v1 H n:=by
    rw[bJ (fn:=Go.Proofs.Try.f71) (c:=code71) (rs:=FZ) (by kernel_rfl) (by kernel_rfl) (by kernel_rfl) (by kernel_rfl)]
    kernel_rfl
  rw[h,C71_0]
noncomputable def code72:Code:=cq 72
noncomputable def FK:List ResultVar:=dJ 72
noncomputable def K72_p (cal:Cal) (k:Nat):KR:=(cutK (A 72).c (ay P cal (aw P cal k) none 72 (cR code72) (Lv.b (A 72)) (av P FK) X0 (av P FK)))
noncomputable def K72_pr (cal:Cal) (k:Nat):KR:=(cutK (Lv.b (A 72)).c (ay P cal (aw P cal k) none 72 (cR (cR code72)) (Lv.b (Lv.b (A 72))) (av P FK) X0 (av P FK)))
noncomputable def B72_0 (cal:Cal) (k:Nat) (v0:Value) (H:Hp) (n:Nat):Res:=
boxK 53 v0 H n fun v_1 H_2 n_3=>
aq (ax P 53 v_1 0) fun v_5=>
aq (aW v_5) fun a_7=>aq (az P H_2 3 a_7) fun v_6=>
some (v_6,H_2,n_3)
noncomputable def C72_0 (cal:Cal) (k:Nat) (v0:Value) (H:Hp) (n:Nat):Res:=B72_0 cal k v0 H n
theorem h72_0 (cal:Cal) (k:Nat) (v0:Value) (H:Hp) (n:Nat):aZ P cal A (k+1) 72 [v0] H n=C72_0 cal k v0 H n:=by
  have h:aZ P cal A (k+1) 72 [v0] H n=B72_0 cal k v0 H n:=by
    rw[bJ (fn:=Go.Proofs.Try.f72) (c:=code72) (rs:=FK) (by kernel_rfl) (by kernel_rfl) (by kernel_rfl) (by kernel_rfl)]
    kernel_rfl
  rw[h,C72_0]
noncomputable def code73:Code:=cq 73
noncomputable def Gj:List ResultVar:=dJ 73
noncomputable def K73_p (cal:Cal) (k:Nat):KR:=(cutK (A 73).c (ay P cal (aw P cal k) none 73 (cR code73) (Lv.b (A 73)) (av P Gj) X0 (av P Gj)))
noncomputable def K73_pr (cal:Cal) (k:Nat):KR:=(cutK (Lv.b (A 73)).c (ay P cal (aw P cal k) none 73 (cR (cR code73)) (Lv.b (Lv.b (A 73))) (av P Gj) X0 (av P Gj)))
noncomputable def B73_0 (cal:Cal) (k:Nat) (v0:Value) (H:Hp) (n:Nat):Res:=
boxK 53 v0 H n fun v_1 H_2 n_3=>
aq (ax P 53 v_1 1) fun v_5=>
aq (aW v_5) fun a_7=>aq (az P H_2 3 a_7) fun v_6=>
some (v_6,H_2,n_3)
noncomputable def C73_0 (cal:Cal) (k:Nat) (v0:Value) (H:Hp) (n:Nat):Res:=B73_0 cal k v0 H n
theorem h73_0 (cal:Cal) (k:Nat) (v0:Value) (H:Hp) (n:Nat):aZ P cal A (k+1) 73 [v0] H n=C73_0 cal k v0 H n:=by
  have h:aZ P cal A (k+1) 73 [v0] H n=B73_0 cal k v0 H n:=by
    rw[bJ (fn:=Go.Proofs.Try.f73) (c:=code73) (rs:=Gj) (by kernel_rfl) (by kernel_rfl) (by kernel_rfl) (by kernel_rfl)]
    kernel_rfl
  rw[h,C73_0]
noncomputable def code74:Code:=cq 74
noncomputable def Gq:List ResultVar:=dJ 74
noncomputable def K74_p (cal:Cal) (k:Nat):KR:=(cutK (A 74).c (ay P cal (aw P cal k) none 74 (cR code74) (Lv.b (A 74)) (av P Gq) X0 (av P Gq)))
noncomputable def K74_pr (cal:Cal) (k:Nat):KR:=(cutK (Lv.b (A 74)).c (ay P cal (aw P cal k) none 74 (cR (cR code74)) (Lv.b (Lv.b (A 74))) (av P Gq) X0 (av P Gq)))
noncomputable def B74_0 (cal:Cal) (k:Nat) (v0 v1:Value) (H:Hp) (n:Nat):Res:=
boxK 105 v0 H n fun v_1 H_2 n_3=>
boxK 121 v1 H_2 n_3 fun v_4 H_5 n_6=>
some ((Value.func (Fn.func 104) ⟨[]⟩ ⟨[v_4,v_1]⟩),H_5,n_6)
noncomputable def C74_0 (cal:Cal) (k:Nat) (v0 v1:Value) (H:Hp) (n:Nat):Res:=B74_0 cal k v0 v1 H n
theorem h74_0 (cal:Cal) (k:Nat) (v0 v1:Value) (H:Hp) (n:Nat):aZ P cal A (k+1) 74 [v0,v1] H n=C74_0 cal k v0 v1 H n:=by
  have h:aZ P cal A (k+1) 74 [v0,v1] H n=B74_0 cal k v0 v1 H n:=by
    rw[bJ (fn:=Go.Proofs.Try.f74) (c:=code74) (rs:=Gq) (by kernel_rfl) (by kernel_rfl) (by kernel_rfl) (by kernel_rfl)]
    kernel_rfl
  rw[h,C74_0]
noncomputable def Uv:Code:=cq 76
noncomputable def rK:List ResultVar:=dJ 76
noncomputable def K76_p (cal:Cal) (k:Nat):KR:=(cutK (A 76).c (ay P cal (aw P cal k) none 76 (cR Uv) (Lv.b (A 76)) (av P rK) X0 (av P rK)))
noncomputable def K76_pr (cal:Cal) (k:Nat):KR:=(cutK (Lv.b (A 76)).c (ay P cal (aw P cal k) none 76 (cR (cR Uv)) (Lv.b (Lv.b (A 76))) (av P rK) X0 (av P rK)))
noncomputable def K76_prl (cal:Cal) (k:Nat):KR:=(cutK (Lv.a (Lv.b (A 76))).c (ay P cal (aw P cal k) none 76 (cR (cL (cR Uv))) (Lv.b (Lv.a (Lv.b (A 76)))) (K76_pr cal k) X0 (av P rK)))
noncomputable def K76_prlrl (cal:Cal) (k:Nat):KR:=(cutK (Lv.a (Lv.b (Lv.a (Lv.b (A 76))))).c (ay P cal (aw P cal k) none 76 (cR (cL (cR (cL (cR Uv))))) (Lv.b (Lv.a (Lv.b (Lv.a (Lv.b (A 76)))))) (K76_pr cal k) X0 (av P rK)))
noncomputable def K76_prr (cal:Cal) (k:Nat):KR:=(cutK (Lv.b (Lv.b (A 76))).c (ay P cal (aw P cal k) none 76 (cR (cR (cR Uv))) (Lv.b (Lv.b (Lv.b (A 76)))) (av P rK) X0 (av P rK)))
noncomputable def B76_0 (cal:Cal) (k:Nat) (v0:Value) (H:Hp) (n:Nat):Res:=
binK P .eql 44 (.tmp 3) (.const (.slice none 0 0)) v0 (.slice none 0 0) fun v_3=>
ifK v_3 (
some ((.slice none 0 0),H,n)) (
rowK P 44 0 [] H n fun v_5 H_6 n_7=>
stK (jZ P (bare H_6 n_7) 44 44 v_5 v0) fun v_9 H_a n_b=>
some (v_9,H_a,n_b))
noncomputable def C76_0 (cal:Cal) (k:Nat) (v0:Value) (H:Hp) (n:Nat):Res:=B76_0 cal k v0 H n
theorem h76_0 (cal:Cal) (k:Nat) (v0:Value) (H:Hp) (n:Nat):aZ P cal A (k+1) 76 [v0] H n=C76_0 cal k v0 H n:=by
  have h:aZ P cal A (k+1) 76 [v0] H n=B76_0 cal k v0 H n:=by
    rw[bJ (fn:=Go.Proofs.Try.f76) (c:=Uv) (rs:=rK) (by kernel_rfl) (by kernel_rfl) (by kernel_rfl) (by kernel_rfl)]
    kernel_rfl
  rw[h,C76_0]
noncomputable def KX:Code:=cq 77
noncomputable def jY:List ResultVar:=dJ 77
noncomputable def K77_p (cal:Cal) (k:Nat):KR:=(cutK (A 77).c (ay P cal (aw P cal k) none 77 (cR KX) (Lv.b (A 77)) (av P jY) X0 (av P jY)))
noncomputable def K77_pr (cal:Cal) (k:Nat):KR:=(cutK (Lv.b (A 77)).c (ay P cal (aw P cal k) none 77 (cR (cR KX)) (Lv.b (Lv.b (A 77))) (av P jY) X0 (av P jY)))
noncomputable def RV (cal:Cal) (k:Nat):XR:=(upX 0 (K77_pr cal k) X0)
noncomputable def K77_prll (cal:Cal) (k:Nat):KR:=(cutK (Lv.a (Lv.a (Lv.b (A 77)))).c (ay P cal (aw P cal k) none 77 (cR (cL (cL (cR KX)))) (Lv.b (Lv.a (Lv.a (Lv.b (A 77))))) (K77_pr cal k) (RV cal k) (av P jY)))
noncomputable def K77_prllrl (cal:Cal) (k:Nat):KR:=(cutK (Lv.a (Lv.b (Lv.a (Lv.a (Lv.b (A 77)))))).c (ay P cal (aw P cal k) none 77 (cR (cL (cR (cL (cL (cR KX)))))) (Lv.b (Lv.a (Lv.b (Lv.a (Lv.a (Lv.b (A 77))))))) (K77_pr cal k) (RV cal k) (av P jY)))
noncomputable def K77_prllrr (cal:Cal) (k:Nat):KR:=(cutK (Lv.b (Lv.b (Lv.a (Lv.a (Lv.b (A 77)))))).c (ay P cal (aw P cal k) none 77 (cR (cR (cR (cL (cL (cR KX)))))) (Lv.b (Lv.b (Lv.b (Lv.a (Lv.a (Lv.b (A 77))))))) (K77_pr cal k) (RV cal k) (av P jY)))
noncomputable def K77_prllrrrl (cal:Cal) (k:Nat):KR:=(cutK (Lv.a (Lv.b (Lv.b (Lv.b (Lv.a (Lv.a (Lv.b (A 77)))))))).c (ay P cal (aw P cal k) none 77 (cR (cL (cR (cR (cR (cL (cL (cR KX)))))))) (Lv.b (Lv.a (Lv.b (Lv.b (Lv.b (Lv.a (Lv.a (Lv.b (A 77))))))))) (K77_pr cal k) (RV cal k) (av P jY)))
noncomputable def K77_prr (cal:Cal) (k:Nat):KR:=(cutK (Lv.b (Lv.b (A 77))).c (ay P cal (aw P cal k) none 77 (cR (cR (cR KX))) (Lv.b (Lv.b (Lv.b (A 77)))) (av P jY) X0 (av P jY)))
noncomputable def B77_0 (cal:Cal) (k:Nat) (v0 v1 v2 v3:Value) (H:Hp) (n:Nat):Res:=
boxK 26 v0 H n fun v_1 H_2 n_3=>
cX P 55 H_2 n_3 fun v_4 H_5 n_6=>
binK P .eql 3 (.tmp 10) (.tmp 11) v2 v3 fun v_9=>
ifK v_9 (
aq (ax P 26 v_1 2) fun v_b=>
aq (aW v_b) fun a_d=>aq (az P H_5 24 a_d) fun v_c=>
aq (aY P 24 v_c v1) fun v_f=>
aq (ax P 94 v_f 1) fun v_g=>
aq (aW v_g) fun a_i=>aq (az P H_5 55 a_i) fun v_h=>
aq (bx P 55 v_4 v_h H_5) fun H_k=>
aq (resV P (Tr.set Tr.nil 8 (some v_4)) H_k jY) fun v_l=>some (oneV v_l,H_k,n_6)) (
aq (aW v_1) fun a_n=>aq (az P H_5 26 a_n) fun v_m=>
aV P cal 89 [v_m,v2,v3] H_5 n_6 fun v_q H_r n_s=>
ifK v_q (
aq (ax P 26 v_1 2) fun v_u=>
aq (aW v_u) fun a_w=>aq (az P H_r 24 a_w) fun v_v=>
aq (aY P 24 v_v v1) fun v_y=>
aq (ax P 94 v_y 2) fun v_z=>
aq (aW v_z) fun a_11=>aq (az P H_r 55 a_11) fun v_10=>
aq (bx P 55 v_4 v_10 H_r) fun H_13=>
aq (resV P (Tr.set Tr.nil 8 (some v_4)) H_13 jY) fun v_14=>some (oneV v_14,H_13,n_s)) (
aq (fK P 55 []) fun v_15=>
aq (bx P 55 v_4 v_15 H_r) fun H_17=>
aq (resV P (Tr.set Tr.nil 8 (some v_4)) H_17 jY) fun v_18=>some (oneV v_18,H_17,n_s)))
noncomputable def C77_0 (cal:Cal) (k:Nat) (v0 v1 v2 v3:Value) (H:Hp) (n:Nat):Res:=B77_0 cal k v0 v1 v2 v3 H n
theorem h77_0 (cal:Cal) (k:Nat) (v0 v1 v2 v3:Value) (H:Hp) (n:Nat):aZ P cal A (k+1) 77 [v0,v1,v2,v3] H n=C77_0 cal k v0 v1 v2 v3 H n:=by
  have h:aZ P cal A (k+1) 77 [v0,v1,v2,v3] H n=B77_0 cal k v0 v1 v2 v3 H n:=by
    rw[bJ (fn:=Go.Proofs.Try.f77) (c:=KX) (rs:=jY) (by kernel_rfl) (by kernel_rfl) (by kernel_rfl) (by kernel_rfl)]
    kernel_rfl
  rw[h,C77_0]
noncomputable def xj:Code:=cq 83
noncomputable def iW:List ResultVar:=dJ 83
noncomputable def K83_p (cal:Cal) (k:Nat):KR:=(cutK (A 83).c (ay P cal (aw P cal k) none 83 (cR xj) (Lv.b (A 83)) (av P iW) X0 (av P iW)))
noncomputable def K83_pr (cal:Cal) (k:Nat):KR:=(cutK (Lv.b (A 83)).c (ay P cal (aw P cal k) none 83 (cR (cR xj)) (Lv.b (Lv.b (A 83))) (av P iW) X0 (av P iW)))
noncomputable def K83_prl (cal:Cal) (k:Nat):KR:=(cutK (Lv.a (Lv.b (A 83))).c (ay P cal (aw P cal k) none 83 (cR (cL (cR xj))) (Lv.b (Lv.a (Lv.b (A 83)))) (K83_pr cal k) X0 (av P iW)))
noncomputable def yV (cal:Cal) (k:Nat):XR:=(upX 0 (K83_pr cal k) X0)
noncomputable def My (cal:Cal) (k:Nat) (m1:Nat):KR:=(fun T H n D=>aw P cal m1 (Lv.a (Lv.b (Lv.a (Lv.b (A 83))))) none 83 (cL (cR (cL (cR xj)))) (K83_pr cal k) (yV cal k) (av P iW) (cutT (Lv.a (Lv.b (Lv.a (Lv.b (A 83))))).c T) H n D)
noncomputable def K83_prlrll (cal:Cal) (k:Nat) (m1:Nat):KR:=(cutK (Lv.a (Lv.a (Lv.b (Lv.a (Lv.b (A 83)))))).c (ay P cal (aw P cal m1) none 83 (cR (cL (cL (cR (cL (cR xj)))))) (Lv.b (Lv.a (Lv.a (Lv.b (Lv.a (Lv.b (A 83))))))) (My cal k m1) (yV cal k) (av P iW)))
noncomputable def K83_prlrllr (cal:Cal) (k:Nat) (m1:Nat):KR:=(cutK (Lv.b (Lv.a (Lv.a (Lv.b (Lv.a (Lv.b (A 83))))))).c (ay P cal (aw P cal m1) none 83 (cR (cR (cL (cL (cR (cL (cR xj))))))) (Lv.b (Lv.b (Lv.a (Lv.a (Lv.b (Lv.a (Lv.b (A 83)))))))) (My cal k m1) (yV cal k) (av P iW)))
noncomputable def Az (cal:Cal) (k:Nat) (m1:Nat):KR:=(cutK (Lv.b (Lv.b (Lv.a (Lv.a (Lv.b (Lv.a (Lv.b (A 83)))))))).c (ay P cal (aw P cal m1) none 83 (cR (cR (cR (cL (cL (cR (cL (cR xj)))))))) (Lv.b (Lv.b (Lv.b (Lv.a (Lv.a (Lv.b (Lv.a (Lv.b (A 83))))))))) (My cal k m1) (yV cal k) (av P iW)))
noncomputable def BV (cal:Cal) (k:Nat) (m1:Nat):XR:=(upX 1 (Az cal k m1) (yV cal k))
noncomputable def K83_prlrllrrll (cal:Cal) (k:Nat) (m1:Nat):KR:=(cutK (Lv.a (Lv.a (Lv.b (Lv.b (Lv.a (Lv.a (Lv.b (Lv.a (Lv.b (A 83)))))))))).c (ay P cal (aw P cal m1) none 83 (cR (cL (cL (cR (cR (cL (cL (cR (cL (cR xj)))))))))) (Lv.b (Lv.a (Lv.a (Lv.b (Lv.b (Lv.a (Lv.a (Lv.b (Lv.a (Lv.b (A 83))))))))))) (Az cal k m1) (BV cal k m1) (av P iW)))
noncomputable def K83_prlrllrrllr (cal:Cal) (k:Nat) (m1:Nat):KR:=(cutK (Lv.b (Lv.a (Lv.a (Lv.b (Lv.b (Lv.a (Lv.a (Lv.b (Lv.a (Lv.b (A 83))))))))))).c (ay P cal (aw P cal m1) none 83 (cR (cR (cL (cL (cR (cR (cL (cL (cR (cL (cR xj))))))))))) (Lv.b (Lv.b (Lv.a (Lv.a (Lv.b (Lv.b (Lv.a (Lv.a (Lv.b (Lv.a (Lv.b (A 83)))))))))))) (Az cal k m1) (BV cal k m1) (av P iW)))
noncomputable def K83_prlrllrrllrrl (cal:Cal) (k:Nat) (m1:Nat):KR:=(cutK (Lv.a (Lv.b (Lv.b (Lv.a (Lv.a (Lv.b (Lv.b (Lv.a (Lv.a (Lv.b (Lv.a (Lv.b (A 83))))))))))))).c (ay P cal (aw P cal m1) none 83 (cR (cL (cR (cR (cL (cL (cR (cR (cL (cL (cR (cL (cR xj))))))))))))) (Lv.b (Lv.a (Lv.b (Lv.b (Lv.a (Lv.a (Lv.b (Lv.b (Lv.a (Lv.a (Lv.b (Lv.a (Lv.b (A 83)))))))))))))) (Az cal k m1) (BV cal k m1) (av P iW)))
noncomputable def K83_prr (cal:Cal) (k:Nat):KR:=(cutK (Lv.b (Lv.b (A 83))).c (ay P cal (aw P cal k) none 83 (cR (cR (cR xj))) (Lv.b (Lv.b (Lv.b (A 83)))) (av P iW) X0 (av P iW)))
noncomputable def E83_1 (cal:Cal) (k m1:Nat):KR:=ay P cal (aw P cal m1) none 83 (cL (cL (cR (cL (cR xj))))) (Lv.a (Lv.a (Lv.b (Lv.a (Lv.b (A 83)))))) (My cal k m1) (yV cal k) (av P iW)
noncomputable def R83_1 (cal:Cal) (k m1:Nat):V4:=fun u0 u3 u11 u12 H n=>aw P cal m1 (Lv.a (Lv.b (Lv.a (Lv.b (A 83))))) none 83 (cL (cR (cL (cR xj)))) (K83_pr cal k) (yV cal k) (av P iW) (Tr.set (Tr.set (Tr.set (Tr.set Tr.nil 12 (some u12)) 11 (some u11)) 3 (some u3)) 0 (some u0)) H n []
noncomputable def B83_1 (cal:Cal) (k m1:Nat) (b1:V4) (u0 u3 u11 u12:Value) (H:Hp) (n:Nat):Res:=
binK P .lss 3 (.tmp 12) (.tmp 11) u12 u11 fun v_d=>
ifK v_d (
aq (aW u3) fun a_i=>aq (az P H 111 a_i) fun v_h=>
aV P cal 68 [u0,v_h,u12] H n fun v_k H_l n_m=>
ifK v_k (
some ((.bool false),H_l,n_m)) (
binK P .add 3 (.tmp 12) (.const (.int .i64 1)) u12 (.int .i64 1) fun v_o=>
b1 u0 u3 u11 v_o H_l n_m)) (
aq (aW u3) fun a_s=>aq (az P H 111 a_s) fun v_r=>
aV P cal 111 [u0,v_r] H n fun v_t H_u n_v=>
some (v_t,H_u,n_v))
noncomputable def C83_1 (cal:Cal) (k m1:Nat) (b1:V4) (u0 u3 u11 u12:Value) (H:Hp) (n:Nat):Res:=B83_1 cal k m1 b1 u0 u3 u11 u12 H n
noncomputable def S83_1 (cal:Cal) (k:Nat):Nat→V4:=fun m=>Nat.rec (motive:=fun _=>V4) (C83_1 cal k 0 (fun _ _ _ _ _ _=>none)) (fun m ih=>C83_1 cal k (m+1) ih) m
theorem h83_1 (cal:Cal) (k m1:Nat) (u0 u3 u11 u12:Value) (H:Hp) (n:Nat):labK (E83_1 cal k m1) (Tr.set (Tr.set (Tr.set (Tr.set Tr.nil 12 (some u12)) 11 (some u11)) 3 (some u3)) 0 (some u0)) H n []=C83_1 cal k m1 (R83_1 cal k m1) u0 u3 u11 u12 H n:=by
  refine Eq.trans (b:=B83_1 cal k m1 (R83_1 cal k m1) u0 u3 u11 u12 H n) (by kernel_rfl) ?_
  rw[C83_1]
theorem q83_1 (cal:Cal) (k:Nat):∀(m:Nat) (u0 u3 u11 u12:Value) (H:Hp) (n:Nat),labK (E83_1 cal k m) (Tr.set (Tr.set (Tr.set (Tr.set Tr.nil 12 (some u12)) 11 (some u11)) 3 (some u3)) 0 (some u0)) H n []=S83_1 cal k m u0 u3 u11 u12 H n
  | 0,u0,u3,u11,u12,H,n=>by
    rw[h83_1]
    have e:R83_1 cal k 0=fun _ _ _ _ _ _=>none:=by funext u0 u3 u11 u12 H n; kernel_rfl
    rw[e]; rfl
  | m+1,u0,u3,u11,u12,H,n=>by
    rw[h83_1]
    have e:R83_1 cal k (m+1)=S83_1 cal k m:=by
      funext u0 u3 u11 u12 H n
      have e:R83_1 cal k (m+1) u0 u3 u11 u12 H n=labK (E83_1 cal k m) (Tr.set (Tr.set (Tr.set (Tr.set Tr.nil 12 (some u12)) 11 (some u11)) 3 (some u3)) 0 (some u0)) H n []:=by kernel_rfl
      rw[e]; exact q83_1 ..
    rw[e]; rfl
noncomputable def B83_0 (cal:Cal) (k:Nat) (j1:V4) (v0 v1:Value) (H:Hp) (n:Nat):Res:=
boxK 111 v1 H n fun v_1 H_2 n_3=>
aq (nilV v0) fun v_6=>
aq (ax P 117 v_6 0) fun v_7=>
aq (ax P 35 v_7 0) fun v_8=>
aq (aW v_8) fun a_a=>aq (az P H_2 31 a_a) fun v_9=>
aq (lenV P 31 v_9) fun v_b=>
j1 v0 v_1 v_b (.int .i64 0) H_2 n_3
noncomputable def C83_0 (cal:Cal) (k:Nat) (v0 v1:Value) (H:Hp) (n:Nat):Res:=B83_0 cal k (S83_1 cal k k) v0 v1 H n
theorem h83_0 (cal:Cal) (k:Nat) (v0 v1:Value) (H:Hp) (n:Nat):aZ P cal A (k+1) 83 [v0,v1] H n=C83_0 cal k v0 v1 H n:=by
  have h:aZ P cal A (k+1) 83 [v0,v1] H n=B83_0 cal k (fun u0 u3 u11 u12 H n=>labK (E83_1 cal k k) (Tr.set (Tr.set (Tr.set (Tr.set Tr.nil 12 (some u12)) 11 (some u11)) 3 (some u3)) 0 (some u0)) H n []) v0 v1 H n:=by
    rw[bJ (fn:=Go.Proofs.Try.f83) (c:=xj) (rs:=iW) (by kernel_rfl) (by kernel_rfl) (by kernel_rfl) (by kernel_rfl)]
    kernel_rfl
  rw[h,C83_0]
  have e1:(fun u0 u3 u11 u12 H n=>labK (E83_1 cal k k) (Tr.set (Tr.set (Tr.set (Tr.set Tr.nil 12 (some u12)) 11 (some u11)) 3 (some u3)) 0 (some u0)) H n [])=(S83_1 cal k k):=by funext u0 u3 u11 u12 H n; exact q83_1 ..
  rw[e1]
end Go.Proofs.Ytgojjellogiglaa.G
