/- The texts of functions, each with the proof that the evaluator says the same. -/
import Derived.Test.YtekajfobmnedjaaH1
open Go Go.Ev
set_option maxRecDepth 1000000
set_option linter.unusedVariables false
noncomputable section
namespace Go.Proofs.Ytekajfobmnedjaa.G
noncomputable def iK:Code:=cV 11
noncomputable def ck:List ResultVar:=dW 11
noncomputable def K11_p (cal:Cal) (k:Nat):KR:=(cutK (A 11).c (ay P cal (aw P cal k) none 11 (cR iK) (Lv.b (A 11)) (av P ck) X0 (av P ck)))
noncomputable def K11_pr (cal:Cal) (k:Nat):KR:=(cutK (Lv.b (A 11)).c (ay P cal (aw P cal k) none 11 (cR (cR iK)) (Lv.b (Lv.b (A 11))) (av P ck) X0 (av P ck)))
noncomputable def K11_prl (cal:Cal) (k:Nat):KR:=(cutK (Lv.a (Lv.b (A 11))).c (ay P cal (aw P cal k) none 11 (cR (cL (cR iK))) (Lv.b (Lv.a (Lv.b (A 11)))) (K11_pr cal k) X0 (av P ck)))
noncomputable def K11_prlrl (cal:Cal) (k:Nat):KR:=(cutK (Lv.a (Lv.b (Lv.a (Lv.b (A 11))))).c (ay P cal (aw P cal k) none 11 (cR (cL (cR (cL (cR iK))))) (Lv.b (Lv.a (Lv.b (Lv.a (Lv.b (A 11)))))) (K11_pr cal k) X0 (av P ck)))
noncomputable def K11_prr (cal:Cal) (k:Nat):KR:=(cutK (Lv.b (Lv.b (A 11))).c (ay P cal (aw P cal k) none 11 (cR (cR (cR iK))) (Lv.b (Lv.b (Lv.b (A 11)))) (av P ck) X0 (av P ck)))
noncomputable def K11_prrr (cal:Cal) (k:Nat):KR:=(cutK (Lv.b (Lv.b (Lv.b (A 11)))).c (ay P cal (aw P cal k) none 11 (cR (cR (cR (cR iK)))) (Lv.b (Lv.b (Lv.b (Lv.b (A 11))))) (av P ck) X0 (av P ck)))
noncomputable def K11_prrrr (cal:Cal) (k:Nat):KR:=(cutK (Lv.b (Lv.b (Lv.b (Lv.b (A 11))))).c (ay P cal (aw P cal k) none 11 (cR (cR (cR (cR (cR iK))))) (Lv.b (Lv.b (Lv.b (Lv.b (Lv.b (A 11)))))) (av P ck) X0 (av P ck)))
noncomputable def K11_prrrrl (cal:Cal) (k:Nat):KR:=(cutK (Lv.a (Lv.b (Lv.b (Lv.b (Lv.b (A 11)))))).c (ay P cal (aw P cal k) none 11 (cR (cL (cR (cR (cR (cR iK)))))) (Lv.b (Lv.a (Lv.b (Lv.b (Lv.b (Lv.b (A 11))))))) (K11_prrrr cal k) X0 (av P ck)))
noncomputable def K11_prrrrlrl (cal:Cal) (k:Nat):KR:=(cutK (Lv.a (Lv.b (Lv.a (Lv.b (Lv.b (Lv.b (Lv.b (A 11)))))))).c (ay P cal (aw P cal k) none 11 (cR (cL (cR (cL (cR (cR (cR (cR iK)))))))) (Lv.b (Lv.a (Lv.b (Lv.a (Lv.b (Lv.b (Lv.b (Lv.b (A 11))))))))) (K11_prrrr cal k) X0 (av P ck)))
noncomputable def K11_prrrrr (cal:Cal) (k:Nat):KR:=(cutK (Lv.b (Lv.b (Lv.b (Lv.b (Lv.b (A 11)))))).c (ay P cal (aw P cal k) none 11 (cR (cR (cR (cR (cR (cR iK)))))) (Lv.b (Lv.b (Lv.b (Lv.b (Lv.b (Lv.b (A 11))))))) (av P ck) X0 (av P ck)))
noncomputable def DV (cal:Cal) (k:Nat):KR:=(cutK (Lv.b (Lv.b (Lv.b (Lv.b (Lv.b (Lv.b (A 11))))))).c (ay P cal (aw P cal k) none 11 (cR (cR (cR (cR (cR (cR (cR iK))))))) (Lv.b (Lv.b (Lv.b (Lv.b (Lv.b (Lv.b (Lv.b (A 11)))))))) (av P ck) X0 (av P ck)))
noncomputable def K11_prrrrrrl (cal:Cal) (k:Nat):KR:=(cutK (Lv.a (Lv.b (Lv.b (Lv.b (Lv.b (Lv.b (Lv.b (A 11)))))))).c (ay P cal (aw P cal k) none 11 (cR (cL (cR (cR (cR (cR (cR (cR iK)))))))) (Lv.b (Lv.a (Lv.b (Lv.b (Lv.b (Lv.b (Lv.b (Lv.b (A 11))))))))) (DV cal k) X0 (av P ck)))
noncomputable def mW (cal:Cal) (k:Nat):XR:=(upX 0 (DV cal k) X0)
noncomputable def CV (cal:Cal) (k:Nat) (m1:Nat):KR:=(fun T H n D=>aw P cal m1 (Lv.a (Lv.b (Lv.a (Lv.b (Lv.b (Lv.b (Lv.b (Lv.b (Lv.b (A 11)))))))))) none 11 (cL (cR (cL (cR (cR (cR (cR (cR (cR iK))))))))) (DV cal k) (mW cal k) (av P ck) (cutT (Lv.a (Lv.b (Lv.a (Lv.b (Lv.b (Lv.b (Lv.b (Lv.b (Lv.b (A 11)))))))))).c T) H n D)
noncomputable def K11_prrrrrrlrll (cal:Cal) (k:Nat) (m1:Nat):KR:=(cutK (Lv.a (Lv.a (Lv.b (Lv.a (Lv.b (Lv.b (Lv.b (Lv.b (Lv.b (Lv.b (A 11))))))))))).c (ay P cal (aw P cal m1) none 11 (cR (cL (cL (cR (cL (cR (cR (cR (cR (cR (cR iK))))))))))) (Lv.b (Lv.a (Lv.a (Lv.b (Lv.a (Lv.b (Lv.b (Lv.b (Lv.b (Lv.b (Lv.b (A 11)))))))))))) (CV cal k m1) (mW cal k) (av P ck)))
noncomputable def K11_prrrrrrlrlll (cal:Cal) (k:Nat) (m1:Nat):KR:=(cutK (Lv.a (Lv.a (Lv.a (Lv.b (Lv.a (Lv.b (Lv.b (Lv.b (Lv.b (Lv.b (Lv.b (A 11)))))))))))).c (ay P cal (aw P cal m1) none 11 (cR (cL (cL (cL (cR (cL (cR (cR (cR (cR (cR (cR iK)))))))))))) (Lv.b (Lv.a (Lv.a (Lv.a (Lv.b (Lv.a (Lv.b (Lv.b (Lv.b (Lv.b (Lv.b (Lv.b (A 11))))))))))))) (K11_prrrrrrlrll cal k m1) (mW cal k) (av P ck)))
noncomputable def mJ (cal:Cal) (k:Nat) (m1:Nat):KR:=(cutK (Lv.b (Lv.a (Lv.a (Lv.b (Lv.a (Lv.b (Lv.b (Lv.b (Lv.b (Lv.b (Lv.b (A 11)))))))))))).c (ay P cal (aw P cal m1) none 11 (cR (cR (cL (cL (cR (cL (cR (cR (cR (cR (cR (cR iK)))))))))))) (Lv.b (Lv.b (Lv.a (Lv.a (Lv.b (Lv.a (Lv.b (Lv.b (Lv.b (Lv.b (Lv.b (Lv.b (A 11))))))))))))) (CV cal k m1) (mW cal k) (av P ck)))
noncomputable def gK (cal:Cal) (k:Nat) (m1:Nat):XR:=(upX 1 (mJ cal k m1) (mW cal k))
noncomputable def K11_prrrrrrlrllrll (cal:Cal) (k:Nat) (m1:Nat):KR:=(cutK (Lv.a (Lv.a (Lv.b (Lv.a (Lv.a (Lv.b (Lv.a (Lv.b (Lv.b (Lv.b (Lv.b (Lv.b (Lv.b (A 11)))))))))))))).c (ay P cal (aw P cal m1) none 11 (cR (cL (cL (cR (cL (cL (cR (cL (cR (cR (cR (cR (cR (cR iK)))))))))))))) (Lv.b (Lv.a (Lv.a (Lv.b (Lv.a (Lv.a (Lv.b (Lv.a (Lv.b (Lv.b (Lv.b (Lv.b (Lv.b (Lv.b (A 11))))))))))))))) (mJ cal k m1) (gK cal k m1) (av P ck)))
noncomputable def K11_prrrrrrlrllrllr (cal:Cal) (k:Nat) (m1:Nat):KR:=(cutK (Lv.b (Lv.a (Lv.a (Lv.b (Lv.a (Lv.a (Lv.b (Lv.a (Lv.b (Lv.b (Lv.b (Lv.b (Lv.b (Lv.b (A 11))))))))))))))).c (ay P cal (aw P cal m1) none 11 (cR (cR (cL (cL (cR (cL (cL (cR (cL (cR (cR (cR (cR (cR (cR iK))))))))))))))) (Lv.b (Lv.b (Lv.a (Lv.a (Lv.b (Lv.a (Lv.a (Lv.b (Lv.a (Lv.b (Lv.b (Lv.b (Lv.b (Lv.b (Lv.b (A 11)))))))))))))))) (mJ cal k m1) (gK cal k m1) (av P ck)))
noncomputable def K11_prrrrrrlrllrllrl (cal:Cal) (k:Nat) (m1:Nat):KR:=(cutK (Lv.a (Lv.b (Lv.a (Lv.a (Lv.b (Lv.a (Lv.a (Lv.b (Lv.a (Lv.b (Lv.b (Lv.b (Lv.b (Lv.b (Lv.b (A 11)))))))))))))))).c (ay P cal (aw P cal m1) none 11 (cR (cL (cR (cL (cL (cR (cL (cL (cR (cL (cR (cR (cR (cR (cR (cR iK)))))))))))))))) (Lv.b (Lv.a (Lv.b (Lv.a (Lv.a (Lv.b (Lv.a (Lv.a (Lv.b (Lv.a (Lv.b (Lv.b (Lv.b (Lv.b (Lv.b (Lv.b (A 11))))))))))))))))) (K11_prrrrrrlrllrllr cal k m1) (gK cal k m1) (av P ck)))
noncomputable def K11_prrrrrrlrllrllrlrl (cal:Cal) (k:Nat) (m1:Nat):KR:=(cutK (Lv.a (Lv.b (Lv.a (Lv.b (Lv.a (Lv.a (Lv.b (Lv.a (Lv.a (Lv.b (Lv.a (Lv.b (Lv.b (Lv.b (Lv.b (Lv.b (Lv.b (A 11)))))))))))))))))).c (ay P cal (aw P cal m1) none 11 (cR (cL (cR (cL (cR (cL (cL (cR (cL (cL (cR (cL (cR (cR (cR (cR (cR (cR iK)))))))))))))))))) (Lv.b (Lv.a (Lv.b (Lv.a (Lv.b (Lv.a (Lv.a (Lv.b (Lv.a (Lv.a (Lv.b (Lv.a (Lv.b (Lv.b (Lv.b (Lv.b (Lv.b (Lv.b (A 11))))))))))))))))))) (K11_prrrrrrlrllrllr cal k m1) (gK cal k m1) (av P ck)))
noncomputable def K11_prrrrrrlrllrllrrr (cal:Cal) (k:Nat) (m1:Nat):KR:=(cutK (Lv.b (Lv.b (Lv.b (Lv.a (Lv.a (Lv.b (Lv.a (Lv.a (Lv.b (Lv.a (Lv.b (Lv.b (Lv.b (Lv.b (Lv.b (Lv.b (A 11))))))))))))))))).c (ay P cal (aw P cal m1) none 11 (cR (cR (cR (cR (cL (cL (cR (cL (cL (cR (cL (cR (cR (cR (cR (cR (cR iK))))))))))))))))) (Lv.b (Lv.b (Lv.b (Lv.b (Lv.a (Lv.a (Lv.b (Lv.a (Lv.a (Lv.b (Lv.a (Lv.b (Lv.b (Lv.b (Lv.b (Lv.b (Lv.b (A 11)))))))))))))))))) (mJ cal k m1) (gK cal k m1) (av P ck)))
noncomputable def K11_prrrrrrlrllrllrr (cal:Cal) (k:Nat) (m1:Nat):KR:=(cutK (Lv.b (Lv.b (Lv.a (Lv.a (Lv.b (Lv.a (Lv.a (Lv.b (Lv.a (Lv.b (Lv.b (Lv.b (Lv.b (Lv.b (Lv.b (A 11)))))))))))))))).c (ay P cal (aw P cal m1) none 11 (cR (cR (cR (cL (cL (cR (cL (cL (cR (cL (cR (cR (cR (cR (cR (cR iK)))))))))))))))) (Lv.b (Lv.b (Lv.b (Lv.a (Lv.a (Lv.b (Lv.a (Lv.a (Lv.b (Lv.a (Lv.b (Lv.b (Lv.b (Lv.b (Lv.b (Lv.b (A 11))))))))))))))))) (mJ cal k m1) (gK cal k m1) (av P ck)))
noncomputable def K11_prrrrrrlrllrllrrl (cal:Cal) (k:Nat) (m1:Nat):KR:=(cutK (Lv.a (Lv.b (Lv.b (Lv.a (Lv.a (Lv.b (Lv.a (Lv.a (Lv.b (Lv.a (Lv.b (Lv.b (Lv.b (Lv.b (Lv.b (Lv.b (A 11))))))))))))))))).c (ay P cal (aw P cal m1) none 11 (cR (cL (cR (cR (cL (cL (cR (cL (cL (cR (cL (cR (cR (cR (cR (cR (cR iK))))))))))))))))) (Lv.b (Lv.a (Lv.b (Lv.b (Lv.a (Lv.a (Lv.b (Lv.a (Lv.a (Lv.b (Lv.a (Lv.b (Lv.b (Lv.b (Lv.b (Lv.b (Lv.b (A 11)))))))))))))))))) (K11_prrrrrrlrllrllrr cal k m1) (gK cal k m1) (av P ck)))
noncomputable def K11_prrrrrrr (cal:Cal) (k:Nat):KR:=(cutK (Lv.b (Lv.b (Lv.b (Lv.b (Lv.b (Lv.b (Lv.b (A 11)))))))).c (ay P cal (aw P cal k) none 11 (cR (cR (cR (cR (cR (cR (cR (cR iK)))))))) (Lv.b (Lv.b (Lv.b (Lv.b (Lv.b (Lv.b (Lv.b (Lv.b (A 11))))))))) (av P ck) X0 (av P ck)))
noncomputable def K11_prrrrrrrl (cal:Cal) (k:Nat):KR:=(cutK (Lv.a (Lv.b (Lv.b (Lv.b (Lv.b (Lv.b (Lv.b (Lv.b (A 11))))))))).c (ay P cal (aw P cal k) none 11 (cR (cL (cR (cR (cR (cR (cR (cR (cR iK))))))))) (Lv.b (Lv.a (Lv.b (Lv.b (Lv.b (Lv.b (Lv.b (Lv.b (Lv.b (A 11)))))))))) (K11_prrrrrrr cal k) X0 (av P ck)))
noncomputable def K11_prrrrrrrlrl (cal:Cal) (k:Nat):KR:=(cutK (Lv.a (Lv.b (Lv.a (Lv.b (Lv.b (Lv.b (Lv.b (Lv.b (Lv.b (Lv.b (A 11))))))))))).c (ay P cal (aw P cal k) none 11 (cR (cL (cR (cL (cR (cR (cR (cR (cR (cR (cR iK))))))))))) (Lv.b (Lv.a (Lv.b (Lv.a (Lv.b (Lv.b (Lv.b (Lv.b (Lv.b (Lv.b (Lv.b (A 11)))))))))))) (K11_prrrrrrr cal k) X0 (av P ck)))
noncomputable def K11_prrrrrrrr (cal:Cal) (k:Nat):KR:=(cutK (Lv.b (Lv.b (Lv.b (Lv.b (Lv.b (Lv.b (Lv.b (Lv.b (A 11))))))))).c (ay P cal (aw P cal k) none 11 (cR (cR (cR (cR (cR (cR (cR (cR (cR iK))))))))) (Lv.b (Lv.b (Lv.b (Lv.b (Lv.b (Lv.b (Lv.b (Lv.b (Lv.b (A 11)))))))))) (av P ck) X0 (av P ck)))
noncomputable def E11_2 (cal:Cal) (k m1:Nat):KR:=ay P cal (aw P cal m1) none 11 (cR (cR (cR (cL (cL (cR (cL (cL (cR (cL (cR (cR (cR (cR (cR (cR iK)))))))))))))))) (Lv.b (Lv.b (Lv.b (Lv.a (Lv.a (Lv.b (Lv.a (Lv.a (Lv.b (Lv.a (Lv.b (Lv.b (Lv.b (Lv.b (Lv.b (Lv.b (A 11))))))))))))))))) (mJ cal k m1) (gK cal k m1) (av P ck)
noncomputable def E11_1 (cal:Cal) (k m1:Nat):KR:=ay P cal (aw P cal m1) none 11 (cL (cL (cR (cL (cR (cR (cR (cR (cR (cR iK)))))))))) (Lv.a (Lv.a (Lv.b (Lv.a (Lv.b (Lv.b (Lv.b (Lv.b (Lv.b (Lv.b (A 11))))))))))) (CV cal k m1) (mW cal k) (av P ck)
noncomputable def Vx (cal:Cal) (k m1:Nat):V10:=fun u1 u3 u7 u8 u10 u11 u12 u13 u14 u15 H n=>aw P cal m1 (Lv.a (Lv.b (Lv.a (Lv.b (Lv.b (Lv.b (Lv.b (Lv.b (Lv.b (A 11)))))))))) none 11 (cL (cR (cL (cR (cR (cR (cR (cR (cR iK))))))))) (DV cal k) (mW cal k) (av P ck) (Tr.set (Tr.set (Tr.set (Tr.set (Tr.set (Tr.set (Tr.set (Tr.set (Tr.set (Tr.set Tr.nil 15 (some u15)) 14 (some u14)) 13 (some u13)) 12 (some u12)) 11 (some u11)) 10 (some u10)) 8 (some u8)) 7 (some u7)) 3 (some u3)) 1 (some u1)) H n []
noncomputable def B11_2 (cal:Cal) (k m1:Nat) (b1:V10) (u1 u3 u7 u8 u10 u11 u12 u13 u14 u15 u16:Value) (H:Hp) (n:Nat):Res:=
binK P .add 3 (.tmp 91) (.tmp 92) u10 u16 fun v_4m=>
aq (aQ P 45 u8 u15) fun v_4q=>
aq (ax P 53 v_4q 0) fun v_4r=>
aq (aW v_4r) fun a_4s=>aq (az P H 3 a_4s) fun v_4t=>
binK P .add 3 (.tmp 94) (.tmp 99) u12 v_4t fun v_4u=>
aq (aQ P 45 u8 u15) fun v_4y=>
aq (ax P 53 v_4y 1) fun v_4z=>
aq (aW v_4z) fun a_50=>aq (az P H 3 a_50) fun v_51=>
binK P .add 3 (.tmp 101) (.tmp 106) u13 v_51 fun v_52=>
cz u14 true (fun k_58=>
k_58 u16 .p H n) .p H n fun v_59 x_5a H_5b n_5c=>
cz u14 true (fun k_5e=>
aq (ax P 26 u3 0) fun v_5j=>
k_5e v_5j .p H_5b n_5c) .p H_5b n_5c fun v_5f x_5g H_5h n_5i=>
cz u14 true (fun k_5k=>
aq (aW v_5f) fun a_5p=>aq (az P H_5h 22 a_5p) fun v_5q=>
k_5k v_5q (.l 22 a_5p) H_5h n_5i) .p H_5h n_5i fun v_5l x_5m H_5n n_5o=>
cz u14 true (fun k_5r=>
k_5r u15 .p H_5n n_5o) .p H_5n n_5o fun v_5s x_5t H_5u n_5v=>
cz u14 true (fun k_5x=>
aq (aQ P 22 v_5l v_5s) fun v_62=>
k_5x v_62 .p H_5u n_5v) .p H_5u n_5v fun v_5y x_5z H_60 n_61=>
cz u14 true (fun k_63=>
aq (ax P 95 v_5y 0) fun v_68=>
k_63 v_68 .p H_60 n_61) .p H_60 n_61 fun v_64 x_65 H_66 n_67=>
cz u14 true (fun k_69=>
aq (aW v_64) fun a_6e=>aq (az P H_66 3 a_6e) fun v_6f=>
k_69 v_6f (.l 3 a_6e) H_66 n_67) .p H_66 n_67 fun v_6a x_6b H_6c n_6d=>
cz u14 true (fun k_6g=>
aq (ax P 26 u3 0) fun v_6l=>
k_6g v_6l .p H_6c n_6d) .p H_6c n_6d fun v_6h x_6i H_6j n_6k=>
cz u14 true (fun k_6m=>
aq (aW v_6h) fun a_6r=>aq (az P H_6j 22 a_6r) fun v_6s=>
k_6m v_6s (.l 22 a_6r) H_6j n_6k) .p H_6j n_6k fun v_6n x_6o H_6p n_6q=>
cz u14 true (fun k_6t=>
k_6t u15 .p H_6p n_6q) .p H_6p n_6q fun v_6u x_6v H_6w n_6x=>
cz u14 true (fun k_6z=>
aq (aQ P 22 v_6n v_6u) fun v_74=>
k_6z v_74 .p H_6w n_6x) .p H_6w n_6x fun v_70 x_71 H_72 n_73=>
cz u14 true (fun k_75=>
aq (ax P 95 v_70 1) fun v_7a=>
k_75 v_7a .p H_72 n_73) .p H_72 n_73 fun v_76 x_77 H_78 n_79=>
cz u14 true (fun k_7b=>
aq (aW v_76) fun a_7g=>aq (az P H_78 3 a_7g) fun v_7h=>
k_7b v_7h (.l 3 a_7g) H_78 n_79) .p H_78 n_79 fun v_7c x_7d H_7e n_7f=>
cz u14 true (fun k_7i=>
aY P cal 32 [v_59,v_6a,v_7c] H_7e n_7f fun v_7n H_7o n_7p=>
k_7i v_7n .e H_7o n_7p) .e H_7e n_7f fun v_7j x_7k H_7l n_7m=>
aq (eQ u14 v_7j (.bool false)) fun v_7q=>
binK P .add 3 (.tmp 54) (.const (.int .i64 1)) u15 (.int .i64 1) fun v_7t=>
b1 u1 u3 u7 u8 v_4m u11 v_4u v_52 v_7q v_7t H_7l n_7m
noncomputable def C11_2 (cal:Cal) (k m1:Nat) (b1:V10) (u1 u3 u7 u8 u10 u11 u12 u13 u14 u15 u16:Value) (H:Hp) (n:Nat):Res:=B11_2 cal k m1 b1 u1 u3 u7 u8 u10 u11 u12 u13 u14 u15 u16 H n
theorem h11_2 (cal:Cal) (k m1:Nat) (u1 u3 u7 u8 u10 u11 u12 u13 u14 u15 u16:Value) (H:Hp) (n:Nat):labK (E11_2 cal k m1) (Tr.set (Tr.set (Tr.set (Tr.set (Tr.set (Tr.set (Tr.set (Tr.set (Tr.set (Tr.set (Tr.set Tr.nil 16 (some u16)) 15 (some u15)) 14 (some u14)) 13 (some u13)) 12 (some u12)) 11 (some u11)) 10 (some u10)) 8 (some u8)) 7 (some u7)) 3 (some u3)) 1 (some u1)) H n []=C11_2 cal k m1 (Vx cal k m1) u1 u3 u7 u8 u10 u11 u12 u13 u14 u15 u16 H n:=by
  refine Eq.trans (b:=B11_2 cal k m1 (Vx cal k m1) u1 u3 u7 u8 u10 u11 u12 u13 u14 u15 u16 H n) (by kernel_rfl) ?_
  rw[C11_2]
noncomputable def B11_1 (cal:Cal) (k m1:Nat) (j2:V11) (b1:V10) (u1 u3 u7 u8 u10 u11 u12 u13 u14 u15:Value) (H:Hp) (n:Nat):Res:=
aq (lenV P 44 u1) fun v_31=>
binK P .lss 3 (.tmp 50) (.tmp 52) u15 v_31 fun v_32=>
ifK v_32 (
aY P cal 34 [u7,u15] H n fun v_35 H_36 n_37=>
aq (aQ P 45 u8 u15) fun v_3c=>
aq (ax P 53 v_3c 0) fun v_3d=>
aq (aW v_3d) fun a_3f=>aq (az P H_36 3 a_3f) fun v_3e=>
binK P .lss 3 (.tmp 59) (.tmp 64) v_35 v_3e fun v_3g=>
aV v_3g false (fun k_3i=>
k_3i v_35 H_36 n_37) H_36 n_37 fun v_3j H_3k n_3l=>
aV v_3g false (fun k_3n=>
k_3n u8 H_3k n_3l) H_3k n_3l fun v_3o H_3p n_3q=>
aV v_3g false (fun k_3s=>
k_3s u15 H_3p n_3q) H_3p n_3q fun v_3t H_3u n_3v=>
aV v_3g false (fun k_3x=>
aq (aQ P 45 v_3o v_3t) fun v_41=>
k_3x v_41 H_3u n_3v) H_3u n_3v fun v_3y H_3z n_40=>
aV v_3g false (fun k_42=>
aq (ax P 53 v_3y 1) fun v_46=>
k_42 v_46 H_3z n_40) H_3z n_40 fun v_43 H_44 n_45=>
aV v_3g false (fun k_47=>
aq (aW v_43) fun a_4c=>aq (az P H_44 3 a_4c) fun v_4b=>
k_47 v_4b H_44 n_45) H_44 n_45 fun v_48 H_49 n_4a=>
aV v_3g false (fun k_4d=>
binK P .gtr 3 (.tmp 67) (.tmp 72) v_3j v_48 fun v_4h=>
k_4d v_4h H_49 n_4a) H_49 n_4a fun v_4e H_4f n_4g=>
aq (eQ v_3g (.bool true) v_4e) fun v_4i=>
ifK v_4i (
some ((.bool false),H_4f,n_4g)) (
aq (aQ P 44 u1 u15) fun v_7x=>
aq (aW v_7x) fun a_7z=>aq (az P H_4f 3 a_7z) fun v_7y=>
binK P .geq 3 (.tmp 78) (.const (.int .i64 0)) v_7y (.int .i64 0) fun v_80=>
ifK v_80 (
aq (ax P 26 u3 2) fun v_82=>
aq (aW v_82) fun a_83=>aq (az P H_4f 24 a_83) fun v_84=>
aq (aQ P 44 u1 u15) fun v_87=>
aq (aW v_87) fun a_88=>aq (az P H_4f 3 a_88) fun v_89=>
aq (aQ P 24 v_84 v_89) fun v_8a=>
aq (ax P 94 v_8a 0) fun v_8b=>
aq (aW v_8b) fun a_8c=>aq (az P H_4f 3 a_8c) fun v_8d=>
binK P .add 3 (.tmp 80) (.tmp 89) u11 v_8d fun v_8e=>
j2 u1 u3 u7 u8 u10 v_8e u12 u13 u14 u15 v_35 H_4f n_4g) (
j2 u1 u3 u7 u8 u10 u11 u12 u13 u14 u15 v_35 H_4f n_4g))) (
binK P .neq 3 (.tmp 125) (.tmp 126) u10 u11 fun v_8i=>
aV v_8i false (fun k_8k=>
k_8k u12 H n) H n fun v_8l H_8m n_8n=>
aV v_8i false (fun k_8p=>
k_8p u11 H_8m n_8n) H_8m n_8n fun v_8q H_8r n_8s=>
aV v_8i false (fun k_8u=>
binK P .gtr 3 (.tmp 129) (.tmp 130) v_8l v_8q fun v_8y=>
k_8u v_8y H_8r n_8s) H_8r n_8s fun v_8v H_8w n_8x=>
aq (eQ v_8i (.bool true) v_8v) fun v_8z=>
aV v_8z false (fun k_91=>
k_91 u13 H_8w n_8x) H_8w n_8x fun v_92 H_93 n_94=>
aV v_8z false (fun k_96=>
k_96 u11 H_93 n_94) H_93 n_94 fun v_97 H_98 n_99=>
aV v_8z false (fun k_9b=>
binK P .lss 3 (.tmp 134) (.tmp 135) v_92 v_97 fun v_9f=>
k_9b v_9f H_98 n_99) H_98 n_99 fun v_9c H_9d n_9e=>
aq (eQ v_8z (.bool true) v_9c) fun v_9g=>
aV v_9g false (fun k_9i=>
aq (aW u3) fun a_9n=>aq (az P H_9d 26 a_9n) fun v_9m=>
k_9i v_9m H_9d n_9e) H_9d n_9e fun v_9j H_9k n_9l=>
aV v_9g false (fun k_9o=>
aY P cal 18 [v_9j] H_9k n_9l fun v_9s H_9t n_9u=>
k_9o v_9s H_9t n_9u) H_9k n_9l fun v_9p H_9q n_9r=>
aV v_9g false (fun k_9v=>
k_9v u1 H_9q n_9r) H_9q n_9r fun v_9w H_9x n_9y=>
aV v_9g false (fun k_a0=>
aY P cal 23 [v_9w] H_9x n_9y fun v_a4 H_a5 n_a6=>
k_a0 v_a4 H_a5 n_a6) H_9x n_9y fun v_a1 H_a2 n_a3=>
aV v_9g false (fun k_a7=>
k_a7 u7 H_a2 n_a3) H_a2 n_a3 fun v_a8 H_a9 n_aa=>
aV v_9g false (fun k_ac=>
aY P cal 39 [v_a8] H_a9 n_aa fun v_ag H_ah n_ai=>
k_ac v_ag H_ah n_ai) H_a9 n_aa fun v_ad H_ae n_af=>
aV v_9g false (fun k_aj=>
aY P cal 38 [v_9p,v_a1,v_ad] H_ae n_af fun v_an H_ao n_ap=>
k_aj v_an H_ao n_ap) H_ae n_af fun v_ak H_al n_am=>
aV v_9g false (fun k_aq=>
k_aq u14 H_al n_am) H_al n_am fun v_ar H_as n_at=>
aV v_9g false (fun k_av=>
binK P .neq 4 (.tmp 145) (.tmp 146) v_ak v_ar fun v_az=>
k_av v_az H_as n_at) H_as n_at fun v_aw H_ax n_ay=>
aq (eQ v_9g (.bool true) v_aw) fun v_b0=>
ifK v_b0 (
some ((.bool false),H_ax,n_ay)) (
aV u14 false (fun k_b4=>
aq (aW u3) fun a_b9=>aq (az P H_ax 26 a_b9) fun v_b8=>
k_b4 v_b8 H_ax n_ay) H_ax n_ay fun v_b5 H_b6 n_b7=>
aV u14 false (fun k_ba=>
aY P cal 18 [v_b5] H_b6 n_b7 fun v_be H_bf n_bg=>
k_ba v_be H_bf n_bg) H_b6 n_b7 fun v_bb H_bc n_bd=>
aV u14 false (fun k_bh=>
k_bh u1 H_bc n_bd) H_bc n_bd fun v_bi H_bj n_bk=>
aV u14 false (fun k_bm=>
aY P cal 23 [v_bi] H_bj n_bk fun v_bq H_br n_bs=>
k_bm v_bq H_br n_bs) H_bj n_bk fun v_bn H_bo n_bp=>
aV u14 false (fun k_bt=>
k_bt u1 H_bo n_bp) H_bo n_bp fun v_bu H_bv n_bw=>
aV u14 false (fun k_by=>
aq (lenV P 44 v_bu) fun v_c2=>
k_by v_c2 H_bv n_bw) H_bv n_bw fun v_bz H_c0 n_c1=>
aV u14 false (fun k_c3=>
aY P cal 43 [v_bb,v_bn,v_bz] H_c0 n_c1 fun v_c7 H_c8 n_c9=>
k_c3 v_c7 H_c8 n_c9) H_c0 n_c1 fun v_c4 H_c5 n_c6=>
aV u14 false (fun k_ca=>
aq (eW P v_c4 (Op.unary UnOp.not v_c4)) fun v_ce=>
k_ca v_ce H_c5 n_c6) H_c5 n_c6 fun v_cb H_cc n_cd=>
aq (eQ u14 (.bool true) v_cb) fun v_cf=>
aV v_cf true (fun k_ch=>
aY P cal 16 [] H_cc n_cd fun v_cl H_cm n_cn=>
k_ch v_cl H_cm n_cn) H_cc n_cd fun v_ci H_cj n_ck=>
aq (eQ v_cf v_ci (.bool false)) fun v_co=>
some (v_co,H_cj,n_ck)))
noncomputable def C11_1 (cal:Cal) (k m1:Nat) (b1:V10) (u1 u3 u7 u8 u10 u11 u12 u13 u14 u15:Value) (H:Hp) (n:Nat):Res:=B11_1 cal k m1 (C11_2 cal k m1 b1) b1 u1 u3 u7 u8 u10 u11 u12 u13 u14 u15 H n
noncomputable def S11_1 (cal:Cal) (k:Nat):Nat→V10:=fun m=>Nat.rec (motive:=fun _=>V10) (C11_1 cal k 0 (fun _ _ _ _ _ _ _ _ _ _ _ _=>none)) (fun m ih=>C11_1 cal k (m+1) ih) m
theorem h11_1 (cal:Cal) (k m1:Nat) (u1 u3 u7 u8 u10 u11 u12 u13 u14 u15:Value) (H:Hp) (n:Nat):labK (E11_1 cal k m1) (Tr.set (Tr.set (Tr.set (Tr.set (Tr.set (Tr.set (Tr.set (Tr.set (Tr.set (Tr.set Tr.nil 15 (some u15)) 14 (some u14)) 13 (some u13)) 12 (some u12)) 11 (some u11)) 10 (some u10)) 8 (some u8)) 7 (some u7)) 3 (some u3)) 1 (some u1)) H n []=C11_1 cal k m1 (Vx cal k m1) u1 u3 u7 u8 u10 u11 u12 u13 u14 u15 H n:=by
  refine Eq.trans (b:=B11_1 cal k m1 (fun u1 u3 u7 u8 u10 u11 u12 u13 u14 u15 u16 H n=>labK (E11_2 cal k m1) (Tr.set (Tr.set (Tr.set (Tr.set (Tr.set (Tr.set (Tr.set (Tr.set (Tr.set (Tr.set (Tr.set Tr.nil 16 (some u16)) 15 (some u15)) 14 (some u14)) 13 (some u13)) 12 (some u12)) 11 (some u11)) 10 (some u10)) 8 (some u8)) 7 (some u7)) 3 (some u3)) 1 (some u1)) H n []) (Vx cal k m1) u1 u3 u7 u8 u10 u11 u12 u13 u14 u15 H n) (by kernel_rfl) ?_
  rw[C11_1]
  have e2:(fun u1 u3 u7 u8 u10 u11 u12 u13 u14 u15 u16 H n=>labK (E11_2 cal k m1) (Tr.set (Tr.set (Tr.set (Tr.set (Tr.set (Tr.set (Tr.set (Tr.set (Tr.set (Tr.set (Tr.set Tr.nil 16 (some u16)) 15 (some u15)) 14 (some u14)) 13 (some u13)) 12 (some u12)) 11 (some u11)) 10 (some u10)) 8 (some u8)) 7 (some u7)) 3 (some u3)) 1 (some u1)) H n [])=(C11_2 cal k m1 (Vx cal k m1)):=by funext u1 u3 u7 u8 u10 u11 u12 u13 u14 u15 u16 H n; exact h11_2 ..
  rw[e2]
theorem q11_1 (cal:Cal) (k:Nat):∀(m:Nat) (u1 u3 u7 u8 u10 u11 u12 u13 u14 u15:Value) (H:Hp) (n:Nat),labK (E11_1 cal k m) (Tr.set (Tr.set (Tr.set (Tr.set (Tr.set (Tr.set (Tr.set (Tr.set (Tr.set (Tr.set Tr.nil 15 (some u15)) 14 (some u14)) 13 (some u13)) 12 (some u12)) 11 (some u11)) 10 (some u10)) 8 (some u8)) 7 (some u7)) 3 (some u3)) 1 (some u1)) H n []=S11_1 cal k m u1 u3 u7 u8 u10 u11 u12 u13 u14 u15 H n
  | 0,u1,u3,u7,u8,u10,u11,u12,u13,u14,u15,H,n=>by
    rw[h11_1]
    have e:Vx cal k 0=fun _ _ _ _ _ _ _ _ _ _ _ _=>none:=by funext u1 u3 u7 u8 u10 u11 u12 u13 u14 u15 H n; kernel_rfl
    rw[e]; rfl
  | m+1,u1,u3,u7,u8,u10,u11,u12,u13,u14,u15,H,n=>by
    rw[h11_1]
    have e:Vx cal k (m+1)=S11_1 cal k m:=by
      funext u1 u3 u7 u8 u10 u11 u12 u13 u14 u15 H n
      have e:Vx cal k (m+1) u1 u3 u7 u8 u10 u11 u12 u13 u14 u15 H n=labK (E11_1 cal k m) (Tr.set (Tr.set (Tr.set (Tr.set (Tr.set (Tr.set (Tr.set (Tr.set (Tr.set (Tr.set Tr.nil 15 (some u15)) 14 (some u14)) 13 (some u13)) 12 (some u12)) 11 (some u11)) 10 (some u10)) 8 (some u8)) 7 (some u7)) 3 (some u3)) 1 (some u1)) H n []:=by kernel_rfl
      rw[e]; exact q11_1 ..
    rw[e]; rfl
noncomputable def B11_0 (cal:Cal) (k:Nat) (j1:V10) (v0 v1 v2:Value) (H:Hp) (n:Nat):Res:=
boxK 26 v0 H n fun v_1 H_2 n_3=>
aq (aW v_1) fun a_6=>aq (az P H_2 26 a_6) fun v_5=>
aY P cal 55 [v_5,v1] H_2 n_3 fun v_8 H_9 n_a=>
aq (eW P v_8 (Op.unary UnOp.not v_8)) fun v_b=>
ifK v_b (
aY P cal 16 [] H_9 n_a fun v_c H_d n_e=>
some (v_c,H_d,n_e)) (
aq (aW v_1) fun a_h=>aq (az P H_9 26 a_h) fun v_g=>
aY P cal 56 [v_g,v1,v2] H_9 n_a fun v_k H_l n_m=>
aq (aW v_1) fun a_p=>aq (az P H_l 26 a_p) fun v_o=>
aY P cal 18 [v_o] H_l n_m fun v_q H_r n_s=>
aY P cal 23 [v1] H_r n_s fun v_u H_v n_w=>
aY P cal 22 [v_q,v_u] H_v n_w fun v_x H_y n_z=>
aq (tupV v_x 0) fun v_11=>
aq (tupV v_x 1) fun v_12=>
binK P .neq 29 (.tmp 34) (.const (.int .i64 0)) v_12 (.int .i64 0) fun v_16=>
aV v_16 false (fun k_18=>
k_18 v_11 H_y n_z) H_y n_z fun v_19 H_1a n_1b=>
aV v_16 false (fun k_1d=>
aq (lenV P 45 v_19) fun v_1h=>
k_1d v_1h H_1a n_1b) H_1a n_1b fun v_1e H_1f n_1g=>
aV v_16 false (fun k_1i=>
k_1i v1 H_1f n_1g) H_1f n_1g fun v_1j H_1k n_1l=>
aV v_16 false (fun k_1n=>
aq (lenV P 44 v_1j) fun v_1r=>
k_1n v_1r H_1k n_1l) H_1k n_1l fun v_1o H_1p n_1q=>
aV v_16 false (fun k_1s=>
binK P .neq 3 (.tmp 38) (.tmp 40) v_1e v_1o fun v_1w=>
k_1s v_1w H_1p n_1q) H_1p n_1q fun v_1t H_1u n_1v=>
aq (eQ v_16 (.bool true) v_1t) fun v_1x=>
aV v_1x false (fun k_1z=>
aq (aW v_1) fun a_24=>aq (az P H_1u 26 a_24) fun v_23=>
k_1z v_23 H_1u n_1v) H_1u n_1v fun v_20 H_21 n_22=>
aV v_1x false (fun k_25=>
k_25 v1 H_21 n_22) H_21 n_22 fun v_26 H_27 n_28=>
aV v_1x false (fun k_2a=>
k_2a v_k H_27 n_28) H_27 n_28 fun v_2b H_2c n_2d=>
aV v_1x false (fun k_2f=>
aY P cal 33 [v_20,v_26,v_2b] H_2c n_2d fun v_2j H_2k n_2l=>
k_2f v_2j H_2k n_2l) H_2c n_2d fun v_2g H_2h n_2i=>
aV v_1x false (fun k_2m=>
aq (eW P v_2g (Op.unary UnOp.not v_2g)) fun v_2q=>
k_2m v_2q H_2h n_2i) H_2h n_2i fun v_2n H_2o n_2p=>
aq (eQ v_1x (.bool true) v_2n) fun v_2r=>
ifK v_2r (
some ((.bool false),H_2o,n_2p)) (
j1 v1 v_1 v_k v_11 (.int .i64 0) (.int .i64 0) (.int .i64 0) (.int .i64 0) (.bool true) (.int .i64 0) H_2o n_2p))
noncomputable def C11_0 (cal:Cal) (k:Nat) (v0 v1 v2:Value) (H:Hp) (n:Nat):Res:=B11_0 cal k (S11_1 cal k k) v0 v1 v2 H n
theorem h11_0 (cal:Cal) (k:Nat) (v0 v1 v2:Value) (H:Hp) (n:Nat):aK P cal A (k+1) 11 [v0,v1,v2] H n=C11_0 cal k v0 v1 v2 H n:=by
  have h:aK P cal A (k+1) 11 [v0,v1,v2] H n=B11_0 cal k (fun u1 u3 u7 u8 u10 u11 u12 u13 u14 u15 H n=>labK (E11_1 cal k k) (Tr.set (Tr.set (Tr.set (Tr.set (Tr.set (Tr.set (Tr.set (Tr.set (Tr.set (Tr.set Tr.nil 15 (some u15)) 14 (some u14)) 13 (some u13)) 12 (some u12)) 11 (some u11)) 10 (some u10)) 8 (some u8)) 7 (some u7)) 3 (some u3)) 1 (some u1)) H n []) v0 v1 v2 H n:=by
    rw[bW (fn:=Go.Proofs.Try.f11) (c:=iK) (rs:=ck) (by kernel_rfl) (by kernel_rfl) (by kernel_rfl) (by kernel_rfl)]
    kernel_rfl
  rw[h,C11_0]
  have e1:(fun u1 u3 u7 u8 u10 u11 u12 u13 u14 u15 H n=>labK (E11_1 cal k k) (Tr.set (Tr.set (Tr.set (Tr.set (Tr.set (Tr.set (Tr.set (Tr.set (Tr.set (Tr.set Tr.nil 15 (some u15)) 14 (some u14)) 13 (some u13)) 12 (some u12)) 11 (some u11)) 10 (some u10)) 8 (some u8)) 7 (some u7)) 3 (some u3)) 1 (some u1)) H n [])=(S11_1 cal k k):=by funext u1 u3 u7 u8 u10 u11 u12 u13 u14 u15 H n; exact q11_1 ..
  rw[e1]
noncomputable def code15:Code:=cV 15
noncomputable def FK:List ResultVar:=dW 15
noncomputable def K15_p (cal:Cal) (k:Nat):KR:=(cutK (A 15).c (ay P cal (aw P cal k) none 15 (cR code15) (Lv.b (A 15)) (av P FK) X0 (av P FK)))
noncomputable def K15_pr (cal:Cal) (k:Nat):KR:=(cutK (Lv.b (A 15)).c (ay P cal (aw P cal k) none 15 (cR (cR code15)) (Lv.b (Lv.b (A 15))) (av P FK) X0 (av P FK)))
noncomputable def B15_0 (cal:Cal) (k:Nat) (v0 v1:Value) (H:Hp) (n:Nat):Res:=
boxK 26 v0 H n fun v_1 H_2 n_3=>
aq (ax P 26 v_1 0) fun v_5=>
aq (aW v_5) fun a_7=>aq (az P H_2 22 a_7) fun v_6=>
aq (lenV P 22 v_6) fun v_8=>
binK P .leq 3 (.tmp 7) (.const (.int .i64 11)) v_8 (.int .i64 11) fun v_9=>
aV v_9 true (fun k_b=>
aq (ax P 26 v_1 1) fun v_f=>
k_b v_f H_2 n_3) H_2 n_3 fun v_c H_d n_e=>
aV v_9 true (fun k_g=>
aq (aW v_c) fun a_l=>aq (az P H_d 23 a_l) fun v_k=>
k_g v_k H_d n_e) H_d n_e fun v_h H_i n_j=>
aV v_9 true (fun k_m=>
aq (lenV P 23 v_h) fun v_q=>
k_m v_q H_i n_j) H_i n_j fun v_n H_o n_p=>
aV v_9 true (fun k_r=>
binK P .leq 3 (.tmp 12) (.const (.int .i64 19)) v_n (.int .i64 19) fun v_v=>
k_r v_v H_o n_p) H_o n_p fun v_s H_t n_u=>
aq (eQ v_9 v_s (.bool false)) fun v_w=>
aV v_w true (fun k_y=>
aq (ax P 26 v_1 2) fun v_12=>
k_y v_12 H_t n_u) H_t n_u fun v_z H_10 n_11=>
aV v_w true (fun k_13=>
aq (aW v_z) fun a_18=>aq (az P H_10 24 a_18) fun v_17=>
k_13 v_17 H_10 n_11) H_10 n_11 fun v_14 H_15 n_16=>
aV v_w true (fun k_19=>
aq (lenV P 24 v_14) fun v_1d=>
k_19 v_1d H_15 n_16) H_15 n_16 fun v_1a H_1b n_1c=>
aV v_w true (fun k_1e=>
binK P .leq 3 (.tmp 18) (.const (.int .i64 6)) v_1a (.int .i64 6) fun v_1i=>
k_1e v_1i H_1b n_1c) H_1b n_1c fun v_1f H_1g n_1h=>
aq (eQ v_w v_1f (.bool false)) fun v_1j=>
aV v_1j true (fun k_1l=>
k_1l v1 H_1g n_1h) H_1g n_1h fun v_1m H_1n n_1o=>
aV v_1j true (fun k_1q=>
aq (lenV P 44 v_1m) fun v_1u=>
k_1q v_1u H_1n n_1o) H_1n n_1o fun v_1r H_1s n_1t=>
aV v_1j true (fun k_1v=>
binK P .leq 3 (.tmp 23) (.const (.int .i64 11)) v_1r (.int .i64 11) fun v_1z=>
k_1v v_1z H_1s n_1t) H_1s n_1t fun v_1w H_1x n_1y=>
aq (eQ v_1j v_1w (.bool false)) fun v_20=>
some (v_20,H_1x,n_1y)
noncomputable def C15_0 (cal:Cal) (k:Nat) (v0 v1:Value) (H:Hp) (n:Nat):Res:=B15_0 cal k v0 v1 H n
theorem h15_0 (cal:Cal) (k:Nat) (v0 v1:Value) (H:Hp) (n:Nat):aK P cal A (k+1) 15 [v0,v1] H n=C15_0 cal k v0 v1 H n:=by
  have h:aK P cal A (k+1) 15 [v0,v1] H n=B15_0 cal k v0 v1 H n:=by
    rw[bW (fn:=Go.Proofs.Try.f15) (c:=code15) (rs:=FK) (by kernel_rfl) (by kernel_rfl) (by kernel_rfl) (by kernel_rfl)]
    kernel_rfl
  rw[h,C15_0]
noncomputable def jK:Code:=cV 18
noncomputable def cW:List ResultVar:=dW 18
noncomputable def K18_p (cal:Cal) (k:Nat):KR:=(cutK (A 18).c (ay P cal (aw P cal k) none 18 (cR jK) (Lv.b (A 18)) (av P cW) X0 (av P cW)))
noncomputable def K18_pr (cal:Cal) (k:Nat):KR:=(cutK (Lv.b (A 18)).c (ay P cal (aw P cal k) none 18 (cR (cR jK)) (Lv.b (Lv.b (A 18))) (av P cW) X0 (av P cW)))
noncomputable def WZ (cal:Cal) (k:Nat):KR:=(cutK (Lv.b (Lv.b (A 18))).c (ay P cal (aw P cal k) none 18 (cR (cR (cR jK))) (Lv.b (Lv.b (Lv.b (A 18)))) (av P cW) X0 (av P cW)))
noncomputable def K18_prrl (cal:Cal) (k:Nat):KR:=(cutK (Lv.a (Lv.b (Lv.b (A 18)))).c (ay P cal (aw P cal k) none 18 (cR (cL (cR (cR jK)))) (Lv.b (Lv.a (Lv.b (Lv.b (A 18))))) (WZ cal k) X0 (av P cW)))
noncomputable def vV (cal:Cal) (k:Nat):XR:=(upX 0 (WZ cal k) X0)
noncomputable def Pw (cal:Cal) (k:Nat) (m1:Nat):KR:=(fun T H n D=>aw P cal m1 (Lv.a (Lv.b (Lv.a (Lv.b (Lv.b (A 18)))))) none 18 (cL (cR (cL (cR (cR jK))))) (WZ cal k) (vV cal k) (av P cW) (cutT (Lv.a (Lv.b (Lv.a (Lv.b (Lv.b (A 18)))))).c T) H n D)
noncomputable def K18_prrlrll (cal:Cal) (k:Nat) (m1:Nat):KR:=(cutK (Lv.a (Lv.a (Lv.b (Lv.a (Lv.b (Lv.b (A 18))))))).c (ay P cal (aw P cal m1) none 18 (cR (cL (cL (cR (cL (cR (cR jK))))))) (Lv.b (Lv.a (Lv.a (Lv.b (Lv.a (Lv.b (Lv.b (A 18)))))))) (Pw cal k m1) (vV cal k) (av P cW)))
noncomputable def K18_prrlrlll (cal:Cal) (k:Nat) (m1:Nat):KR:=(cutK (Lv.a (Lv.a (Lv.a (Lv.b (Lv.a (Lv.b (Lv.b (A 18)))))))).c (ay P cal (aw P cal m1) none 18 (cR (cL (cL (cL (cR (cL (cR (cR jK)))))))) (Lv.b (Lv.a (Lv.a (Lv.a (Lv.b (Lv.a (Lv.b (Lv.b (A 18))))))))) (K18_prrlrll cal k m1) (vV cal k) (av P cW)))
noncomputable def K18_prrlrllr (cal:Cal) (k:Nat) (m1:Nat):KR:=(cutK (Lv.b (Lv.a (Lv.a (Lv.b (Lv.a (Lv.b (Lv.b (A 18)))))))).c (ay P cal (aw P cal m1) none 18 (cR (cR (cL (cL (cR (cL (cR (cR jK)))))))) (Lv.b (Lv.b (Lv.a (Lv.a (Lv.b (Lv.a (Lv.b (Lv.b (A 18))))))))) (Pw cal k m1) (vV cal k) (av P cW)))
noncomputable def K18_pxrrlrllrl (cal:Cal) (k:Nat) (m1:Nat):XR:=(upX 1 (K18_prrlrllr cal k m1) (vV cal k))
noncomputable def QX (cal:Cal) (k:Nat):KR:=(cutK (Lv.b (Lv.b (Lv.b (A 18)))).c (ay P cal (aw P cal k) none 18 (cR (cR (cR (cR jK)))) (Lv.b (Lv.b (Lv.b (Lv.b (A 18))))) (av P cW) X0 (av P cW)))
noncomputable def K18_prrrl (cal:Cal) (k:Nat):KR:=(cutK (Lv.a (Lv.b (Lv.b (Lv.b (A 18))))).c (ay P cal (aw P cal k) none 18 (cR (cL (cR (cR (cR jK))))) (Lv.b (Lv.a (Lv.b (Lv.b (Lv.b (A 18)))))) (QX cal k) X0 (av P cW)))
noncomputable def rY (cal:Cal) (k:Nat):XR:=(upX 2 (QX cal k) X0)
noncomputable def Lq (cal:Cal) (k:Nat) (m1:Nat):KR:=(fun T H n D=>aw P cal m1 (Lv.a (Lv.b (Lv.a (Lv.b (Lv.b (Lv.b (A 18))))))) none 18 (cL (cR (cL (cR (cR (cR jK)))))) (QX cal k) (rY cal k) (av P cW) (cutT (Lv.a (Lv.b (Lv.a (Lv.b (Lv.b (Lv.b (A 18))))))).c T) H n D)
noncomputable def K18_prrrlrll (cal:Cal) (k:Nat) (m1:Nat):KR:=(cutK (Lv.a (Lv.a (Lv.b (Lv.a (Lv.b (Lv.b (Lv.b (A 18)))))))).c (ay P cal (aw P cal m1) none 18 (cR (cL (cL (cR (cL (cR (cR (cR jK)))))))) (Lv.b (Lv.a (Lv.a (Lv.b (Lv.a (Lv.b (Lv.b (Lv.b (A 18))))))))) (Lq cal k m1) (rY cal k) (av P cW)))
noncomputable def K18_prrrlrlll (cal:Cal) (k:Nat) (m1:Nat):KR:=(cutK (Lv.a (Lv.a (Lv.a (Lv.b (Lv.a (Lv.b (Lv.b (Lv.b (A 18))))))))).c (ay P cal (aw P cal m1) none 18 (cR (cL (cL (cL (cR (cL (cR (cR (cR jK))))))))) (Lv.b (Lv.a (Lv.a (Lv.a (Lv.b (Lv.a (Lv.b (Lv.b (Lv.b (A 18)))))))))) (K18_prrrlrll cal k m1) (rY cal k) (av P cW)))
noncomputable def K18_prrrlrllr (cal:Cal) (k:Nat) (m1:Nat):KR:=(cutK (Lv.b (Lv.a (Lv.a (Lv.b (Lv.a (Lv.b (Lv.b (Lv.b (A 18))))))))).c (ay P cal (aw P cal m1) none 18 (cR (cR (cL (cL (cR (cL (cR (cR (cR jK))))))))) (Lv.b (Lv.b (Lv.a (Lv.a (Lv.b (Lv.a (Lv.b (Lv.b (Lv.b (A 18)))))))))) (Lq cal k m1) (rY cal k) (av P cW)))
noncomputable def K18_pxrrrlrllrl (cal:Cal) (k:Nat) (m1:Nat):XR:=(upX 3 (K18_prrrlrllr cal k m1) (rY cal k))
noncomputable def MV (cal:Cal) (k:Nat):KR:=(cutK (Lv.b (Lv.b (Lv.b (Lv.b (A 18))))).c (ay P cal (aw P cal k) none 18 (cR (cR (cR (cR (cR jK))))) (Lv.b (Lv.b (Lv.b (Lv.b (Lv.b (A 18)))))) (av P cW) X0 (av P cW)))
noncomputable def K18_prrrrl (cal:Cal) (k:Nat):KR:=(cutK (Lv.a (Lv.b (Lv.b (Lv.b (Lv.b (A 18)))))).c (ay P cal (aw P cal k) none 18 (cR (cL (cR (cR (cR (cR jK)))))) (Lv.b (Lv.a (Lv.b (Lv.b (Lv.b (Lv.b (A 18))))))) (MV cal k) X0 (av P cW)))
noncomputable def pQ (cal:Cal) (k:Nat):XR:=(upX 4 (MV cal k) X0)
noncomputable def Iy (cal:Cal) (k:Nat) (m1:Nat):KR:=(fun T H n D=>aw P cal m1 (Lv.a (Lv.b (Lv.a (Lv.b (Lv.b (Lv.b (Lv.b (A 18)))))))) none 18 (cL (cR (cL (cR (cR (cR (cR jK))))))) (MV cal k) (pQ cal k) (av P cW) (cutT (Lv.a (Lv.b (Lv.a (Lv.b (Lv.b (Lv.b (Lv.b (A 18)))))))).c T) H n D)
noncomputable def K18_prrrrlrll (cal:Cal) (k:Nat) (m1:Nat):KR:=(cutK (Lv.a (Lv.a (Lv.b (Lv.a (Lv.b (Lv.b (Lv.b (Lv.b (A 18))))))))).c (ay P cal (aw P cal m1) none 18 (cR (cL (cL (cR (cL (cR (cR (cR (cR jK))))))))) (Lv.b (Lv.a (Lv.a (Lv.b (Lv.a (Lv.b (Lv.b (Lv.b (Lv.b (A 18)))))))))) (Iy cal k m1) (pQ cal k) (av P cW)))
noncomputable def K18_prrrrlrlll (cal:Cal) (k:Nat) (m1:Nat):KR:=(cutK (Lv.a (Lv.a (Lv.a (Lv.b (Lv.a (Lv.b (Lv.b (Lv.b (Lv.b (A 18)))))))))).c (ay P cal (aw P cal m1) none 18 (cR (cL (cL (cL (cR (cL (cR (cR (cR (cR jK)))))))))) (Lv.b (Lv.a (Lv.a (Lv.a (Lv.b (Lv.a (Lv.b (Lv.b (Lv.b (Lv.b (A 18))))))))))) (K18_prrrrlrll cal k m1) (pQ cal k) (av P cW)))
noncomputable def K18_prrrrlrllr (cal:Cal) (k:Nat) (m1:Nat):KR:=(cutK (Lv.b (Lv.a (Lv.a (Lv.b (Lv.a (Lv.b (Lv.b (Lv.b (Lv.b (A 18)))))))))).c (ay P cal (aw P cal m1) none 18 (cR (cR (cL (cL (cR (cL (cR (cR (cR (cR jK)))))))))) (Lv.b (Lv.b (Lv.a (Lv.a (Lv.b (Lv.a (Lv.b (Lv.b (Lv.b (Lv.b (A 18))))))))))) (Iy cal k m1) (pQ cal k) (av P cW)))
noncomputable def K18_pxrrrrlrllrl (cal:Cal) (k:Nat) (m1:Nat):XR:=(upX 5 (K18_prrrrlrllr cal k m1) (pQ cal k))
noncomputable def K18_prrrrlrllrll (cal:Cal) (k:Nat) (m1:Nat):KR:=(cutK (Lv.a (Lv.a (Lv.b (Lv.a (Lv.a (Lv.b (Lv.a (Lv.b (Lv.b (Lv.b (Lv.b (A 18)))))))))))).c (ay P cal (aw P cal m1) none 18 (cR (cL (cL (cR (cL (cL (cR (cL (cR (cR (cR (cR jK)))))))))))) (Lv.b (Lv.a (Lv.a (Lv.b (Lv.a (Lv.a (Lv.b (Lv.a (Lv.b (Lv.b (Lv.b (Lv.b (A 18))))))))))))) (K18_prrrrlrllr cal k m1) (K18_pxrrrrlrllrl cal k m1) (av P cW)))
noncomputable def K18_prrrrr (cal:Cal) (k:Nat):KR:=(cutK (Lv.b (Lv.b (Lv.b (Lv.b (Lv.b (A 18)))))).c (ay P cal (aw P cal k) none 18 (cR (cR (cR (cR (cR (cR jK)))))) (Lv.b (Lv.b (Lv.b (Lv.b (Lv.b (Lv.b (A 18))))))) (av P cW) X0 (av P cW)))
noncomputable def E18_3 (cal:Cal) (k m1:Nat):KR:=ay P cal (aw P cal m1) none 18 (cL (cL (cR (cL (cR (cR (cR (cR jK)))))))) (Lv.a (Lv.a (Lv.b (Lv.a (Lv.b (Lv.b (Lv.b (Lv.b (A 18))))))))) (Iy cal k m1) (pQ cal k) (av P cW)
noncomputable def R18_3 (cal:Cal) (k m1:Nat):V4:=fun u1 u2 u3 u6 H n=>aw P cal m1 (Lv.a (Lv.b (Lv.a (Lv.b (Lv.b (Lv.b (Lv.b (A 18)))))))) none 18 (cL (cR (cL (cR (cR (cR (cR jK))))))) (MV cal k) (pQ cal k) (av P cW) (Tr.set (Tr.set (Tr.set (Tr.set Tr.nil 6 (some u6)) 3 (some u3)) 2 (some u2)) 1 (some u1)) H n []
noncomputable def E18_2 (cal:Cal) (k m1:Nat):KR:=ay P cal (aw P cal m1) none 18 (cL (cL (cR (cL (cR (cR (cR jK))))))) (Lv.a (Lv.a (Lv.b (Lv.a (Lv.b (Lv.b (Lv.b (A 18)))))))) (Lq cal k m1) (rY cal k) (av P cW)
noncomputable def R18_2 (cal:Cal) (k m1:Nat):V4:=fun u1 u2 u3 u5 H n=>aw P cal m1 (Lv.a (Lv.b (Lv.a (Lv.b (Lv.b (Lv.b (A 18))))))) none 18 (cL (cR (cL (cR (cR (cR jK)))))) (QX cal k) (rY cal k) (av P cW) (Tr.set (Tr.set (Tr.set (Tr.set Tr.nil 5 (some u5)) 3 (some u3)) 2 (some u2)) 1 (some u1)) H n []
noncomputable def E18_1 (cal:Cal) (k m1:Nat):KR:=ay P cal (aw P cal m1) none 18 (cL (cL (cR (cL (cR (cR jK)))))) (Lv.a (Lv.a (Lv.b (Lv.a (Lv.b (Lv.b (A 18))))))) (Pw cal k m1) (vV cal k) (av P cW)
noncomputable def R18_1 (cal:Cal) (k m1:Nat):V4:=fun u1 u2 u3 u4 H n=>aw P cal m1 (Lv.a (Lv.b (Lv.a (Lv.b (Lv.b (A 18)))))) none 18 (cL (cR (cL (cR (cR jK))))) (WZ cal k) (vV cal k) (av P cW) (Tr.set (Tr.set (Tr.set (Tr.set Tr.nil 4 (some u4)) 3 (some u3)) 2 (some u2)) 1 (some u1)) H n []
noncomputable def B18_3 (cal:Cal) (k m1:Nat) (b3:V4) (u1 u2 u3 u6:Value) (H:Hp) (n:Nat):Res:=
aq (ax P 26 u1 2) fun v_2i=>
aq (aW v_2i) fun a_2k=>aq (az P H 24 a_2k) fun v_2j=>
aq (lenV P 24 v_2j) fun v_2l=>
binK P .lss 3 (.tmp 58) (.tmp 61) u6 v_2l fun v_2m=>
ifK v_2m (
aq (ax P 26 u1 2) fun v_2n=>
aq (aW v_2n) fun a_2p=>aq (az P H 24 a_2p) fun v_2o=>
aq (aQ P 24 v_2o u6) fun v_2r=>
aq (aW v_2r) fun a_2t=>aq (az P H 94 a_2t) fun v_2s=>
ez P 94 H n fun v_2u H_2v n_2w=>
aq (bJ P 94 v_2u v_2s H_2v) fun H_2y=>
aq (ax P 35 u3 2) fun v_2z=>
aq (aW v_2z) fun a_30=>aq (az P H_2y 33 a_30) fun v_31=>
aq (ax P 94 v_2u 0) fun v_32=>
aq (aW v_32) fun a_33=>aq (az P H_2y 3 a_33) fun v_34=>
aq (ax P 94 v_2u 1) fun v_35=>
aq (aW v_35) fun a_36=>aq (az P H_2y 55 a_36) fun v_37=>
aq (ax P 94 v_2u 2) fun v_38=>
aq (aW v_38) fun a_39=>aq (az P H_2y 55 a_39) fun v_3a=>
effK P [(.l 55 a_39),(.l 3 a_33),(.l 33 a_30)] H_2y n_2w (fun H_3b n_3c k_3d=>
aY P cal 26 [v_37] H_3b n_3c fun v_3h H_3i n_3j=>
k_3d v_3h H_3i n_3j) fun v_3e H_3f n_3g=>
effK P [(.l 3 a_33),(.l 33 a_30)] H_3f n_3g (fun H_3k n_3l k_3m=>
aY P cal 26 [v_3a] H_3k n_3l fun v_3q H_3r n_3s=>
k_3m v_3q H_3r n_3s) fun v_3n H_3o n_3p=>
aq (jW P 86 [(0,v_34),(1,v_3e),(2,v_3n)]) fun v_3t=>
aq (Cx P 33 1 [(0,v_3t)]) fun q_3w=>newK q_3w.1 q_3w.2 H_3o n_3p fun H_3u n_3v=>
stK (fQ P (bare H_3u n_3v) 33 33 v_31 (.slice (some ⟨n_3p,0,none⟩) 1 1)) fun v_3x H_3y n_3z=>
aq (ax P 35 u3 2) fun v_40=>
aq (bJ P 33 v_40 v_3x H_3y) fun H_42=>
binK P .add 3 (.tmp 63) (.const (.int .i64 1)) u6 (.int .i64 1) fun v_44=>
b3 u1 u2 u3 v_44 H_42 n_3z) (
aq (aW u3) fun a_47=>aq (az P H 35 a_47) fun v_46=>
aq (bJ P 35 u2 v_46 H) fun H_49=>
aq (resV P (Tr.set Tr.nil 2 (some u2)) H_49 cW) fun v_4a=>some (oneV v_4a,H_49,n))
noncomputable def C18_3 (cal:Cal) (k m1:Nat) (b3:V4) (u1 u2 u3 u6:Value) (H:Hp) (n:Nat):Res:=B18_3 cal k m1 b3 u1 u2 u3 u6 H n
noncomputable def S18_3 (cal:Cal) (k:Nat):Nat→V4:=fun m=>Nat.rec (motive:=fun _=>V4) (C18_3 cal k 0 (fun _ _ _ _ _ _=>none)) (fun m ih=>C18_3 cal k (m+1) ih) m
theorem h18_3 (cal:Cal) (k m1:Nat) (u1 u2 u3 u6:Value) (H:Hp) (n:Nat):labK (E18_3 cal k m1) (Tr.set (Tr.set (Tr.set (Tr.set Tr.nil 6 (some u6)) 3 (some u3)) 2 (some u2)) 1 (some u1)) H n []=C18_3 cal k m1 (R18_3 cal k m1) u1 u2 u3 u6 H n:=by
  refine Eq.trans (b:=B18_3 cal k m1 (R18_3 cal k m1) u1 u2 u3 u6 H n) (by kernel_rfl) ?_
  rw[C18_3]
theorem q18_3 (cal:Cal) (k:Nat):∀(m:Nat) (u1 u2 u3 u6:Value) (H:Hp) (n:Nat),labK (E18_3 cal k m) (Tr.set (Tr.set (Tr.set (Tr.set Tr.nil 6 (some u6)) 3 (some u3)) 2 (some u2)) 1 (some u1)) H n []=S18_3 cal k m u1 u2 u3 u6 H n
  | 0,u1,u2,u3,u6,H,n=>by
    rw[h18_3]
    have e:R18_3 cal k 0=fun _ _ _ _ _ _=>none:=by funext u1 u2 u3 u6 H n; kernel_rfl
    rw[e]; rfl
  | m+1,u1,u2,u3,u6,H,n=>by
    rw[h18_3]
    have e:R18_3 cal k (m+1)=S18_3 cal k m:=by
      funext u1 u2 u3 u6 H n
      have e:R18_3 cal k (m+1) u1 u2 u3 u6 H n=labK (E18_3 cal k m) (Tr.set (Tr.set (Tr.set (Tr.set Tr.nil 6 (some u6)) 3 (some u3)) 2 (some u2)) 1 (some u1)) H n []:=by kernel_rfl
      rw[e]; exact q18_3 ..
    rw[e]; rfl
noncomputable def B18_2 (cal:Cal) (k m1:Nat) (j3:V4) (b2:V4) (u1 u2 u3 u5:Value) (H:Hp) (n:Nat):Res:=
aq (ax P 26 u1 1) fun v_1f=>
aq (aW v_1f) fun a_1h=>aq (az P H 23 a_1h) fun v_1g=>
aq (lenV P 23 v_1g) fun v_1i=>
binK P .lss 3 (.tmp 33) (.tmp 36) u5 v_1i fun v_1j=>
ifK v_1j (
aq (ax P 35 u3 1) fun v_1k=>
aq (aW v_1k) fun a_1l=>aq (az P H 32 a_1l) fun v_1m=>
aq (ax P 26 u1 1) fun v_1n=>
aq (aW v_1n) fun a_1o=>aq (az P H 23 a_1o) fun v_1p=>
aq (aQ P 23 v_1p u5) fun v_1r=>
aq (ax P 104 v_1r 0) fun v_1s=>
aq (aW v_1s) fun a_1t=>aq (az P H 3 a_1t) fun v_1u=>
aq (ax P 26 u1 1) fun v_1v=>
aq (aW v_1v) fun a_1w=>aq (az P H 23 a_1w) fun v_1x=>
aq (aQ P 23 v_1x u5) fun v_1z=>
aq (ax P 104 v_1z 1) fun v_20=>
aq (aW v_20) fun a_21=>aq (az P H 3 a_21) fun v_22=>
aq (jW P 88 [(0,v_1u),(1,v_22)]) fun v_23=>
aq (Cx P 32 1 [(0,v_23)]) fun q_26=>newK q_26.1 q_26.2 H n fun H_24 n_25=>
stK (fQ P (bare H_24 n_25) 32 32 v_1m (.slice (some ⟨n,0,none⟩) 1 1)) fun v_27 H_28 n_29=>
aq (ax P 35 u3 1) fun v_2a=>
aq (bJ P 32 v_2a v_27 H_28) fun H_2c=>
binK P .add 3 (.tmp 38) (.const (.int .i64 1)) u5 (.int .i64 1) fun v_2e=>
b2 u1 u2 u3 v_2e H_2c n_29) (
j3 u1 u2 u3 (.int .i64 0) H n)
noncomputable def C18_2 (cal:Cal) (k m1:Nat) (b2:V4) (u1 u2 u3 u5:Value) (H:Hp) (n:Nat):Res:=B18_2 cal k m1 (S18_3 cal k k) b2 u1 u2 u3 u5 H n
noncomputable def S18_2 (cal:Cal) (k:Nat):Nat→V4:=fun m=>Nat.rec (motive:=fun _=>V4) (C18_2 cal k 0 (fun _ _ _ _ _ _=>none)) (fun m ih=>C18_2 cal k (m+1) ih) m
theorem h18_2 (cal:Cal) (k m1:Nat) (u1 u2 u3 u5:Value) (H:Hp) (n:Nat):labK (E18_2 cal k m1) (Tr.set (Tr.set (Tr.set (Tr.set Tr.nil 5 (some u5)) 3 (some u3)) 2 (some u2)) 1 (some u1)) H n []=C18_2 cal k m1 (R18_2 cal k m1) u1 u2 u3 u5 H n:=by
  refine Eq.trans (b:=B18_2 cal k m1 (fun u1 u2 u3 u6 H n=>labK (E18_3 cal k k) (Tr.set (Tr.set (Tr.set (Tr.set Tr.nil 6 (some u6)) 3 (some u3)) 2 (some u2)) 1 (some u1)) H n []) (R18_2 cal k m1) u1 u2 u3 u5 H n) (by kernel_rfl) ?_
  rw[C18_2]
  have e3:(fun u1 u2 u3 u6 H n=>labK (E18_3 cal k k) (Tr.set (Tr.set (Tr.set (Tr.set Tr.nil 6 (some u6)) 3 (some u3)) 2 (some u2)) 1 (some u1)) H n [])=(S18_3 cal k k):=by funext u1 u2 u3 u6 H n; exact q18_3 ..
  rw[e3]
theorem q18_2 (cal:Cal) (k:Nat):∀(m:Nat) (u1 u2 u3 u5:Value) (H:Hp) (n:Nat),labK (E18_2 cal k m) (Tr.set (Tr.set (Tr.set (Tr.set Tr.nil 5 (some u5)) 3 (some u3)) 2 (some u2)) 1 (some u1)) H n []=S18_2 cal k m u1 u2 u3 u5 H n
  | 0,u1,u2,u3,u5,H,n=>by
    rw[h18_2]
    have e:R18_2 cal k 0=fun _ _ _ _ _ _=>none:=by funext u1 u2 u3 u5 H n; kernel_rfl
    rw[e]; rfl
  | m+1,u1,u2,u3,u5,H,n=>by
    rw[h18_2]
    have e:R18_2 cal k (m+1)=S18_2 cal k m:=by
      funext u1 u2 u3 u5 H n
      have e:R18_2 cal k (m+1) u1 u2 u3 u5 H n=labK (E18_2 cal k m) (Tr.set (Tr.set (Tr.set (Tr.set Tr.nil 5 (some u5)) 3 (some u3)) 2 (some u2)) 1 (some u1)) H n []:=by kernel_rfl
      rw[e]; exact q18_2 ..
    rw[e]; rfl
noncomputable def B18_1 (cal:Cal) (k m1:Nat) (j2:V4) (b1:V4) (u1 u2 u3 u4:Value) (H:Hp) (n:Nat):Res:=
aq (ax P 26 u1 0) fun v_c=>
aq (aW v_c) fun a_e=>aq (az P H 22 a_e) fun v_d=>
aq (lenV P 22 v_d) fun v_f=>
binK P .lss 3 (.tmp 8) (.tmp 11) u4 v_f fun v_g=>
ifK v_g (
aq (ax P 35 u3 0) fun v_h=>
aq (aW v_h) fun a_i=>aq (az P H 31 a_i) fun v_j=>
aq (ax P 26 u1 0) fun v_k=>
aq (aW v_k) fun a_l=>aq (az P H 22 a_l) fun v_m=>
aq (aQ P 22 v_m u4) fun v_o=>
aq (ax P 95 v_o 0) fun v_p=>
aq (aW v_p) fun a_q=>aq (az P H 3 a_q) fun v_r=>
aq (ax P 26 u1 0) fun v_s=>
aq (aW v_s) fun a_t=>aq (az P H 22 a_t) fun v_u=>
aq (aQ P 22 v_u u4) fun v_w=>
aq (ax P 95 v_w 1) fun v_x=>
aq (aW v_x) fun a_y=>aq (az P H 3 a_y) fun v_z=>
aq (jW P 90 [(0,v_r),(1,v_z)]) fun v_10=>
aq (Cx P 31 1 [(0,v_10)]) fun q_13=>newK q_13.1 q_13.2 H n fun H_11 n_12=>
stK (fQ P (bare H_11 n_12) 31 31 v_j (.slice (some ⟨n,0,none⟩) 1 1)) fun v_14 H_15 n_16=>
aq (ax P 35 u3 0) fun v_17=>
aq (bJ P 31 v_17 v_14 H_15) fun H_19=>
binK P .add 3 (.tmp 13) (.const (.int .i64 1)) u4 (.int .i64 1) fun v_1b=>
b1 u1 u2 u3 v_1b H_19 n_16) (
j2 u1 u2 u3 (.int .i64 0) H n)
noncomputable def C18_1 (cal:Cal) (k m1:Nat) (b1:V4) (u1 u2 u3 u4:Value) (H:Hp) (n:Nat):Res:=B18_1 cal k m1 (S18_2 cal k k) b1 u1 u2 u3 u4 H n
noncomputable def S18_1 (cal:Cal) (k:Nat):Nat→V4:=fun m=>Nat.rec (motive:=fun _=>V4) (C18_1 cal k 0 (fun _ _ _ _ _ _=>none)) (fun m ih=>C18_1 cal k (m+1) ih) m
theorem h18_1 (cal:Cal) (k m1:Nat) (u1 u2 u3 u4:Value) (H:Hp) (n:Nat):labK (E18_1 cal k m1) (Tr.set (Tr.set (Tr.set (Tr.set Tr.nil 4 (some u4)) 3 (some u3)) 2 (some u2)) 1 (some u1)) H n []=C18_1 cal k m1 (R18_1 cal k m1) u1 u2 u3 u4 H n:=by
  refine Eq.trans (b:=B18_1 cal k m1 (fun u1 u2 u3 u5 H n=>labK (E18_2 cal k k) (Tr.set (Tr.set (Tr.set (Tr.set Tr.nil 5 (some u5)) 3 (some u3)) 2 (some u2)) 1 (some u1)) H n []) (R18_1 cal k m1) u1 u2 u3 u4 H n) (by kernel_rfl) ?_
  rw[C18_1]
  have e2:(fun u1 u2 u3 u5 H n=>labK (E18_2 cal k k) (Tr.set (Tr.set (Tr.set (Tr.set Tr.nil 5 (some u5)) 3 (some u3)) 2 (some u2)) 1 (some u1)) H n [])=(S18_2 cal k k):=by funext u1 u2 u3 u5 H n; exact q18_2 ..
  rw[e2]
theorem q18_1 (cal:Cal) (k:Nat):∀(m:Nat) (u1 u2 u3 u4:Value) (H:Hp) (n:Nat),labK (E18_1 cal k m) (Tr.set (Tr.set (Tr.set (Tr.set Tr.nil 4 (some u4)) 3 (some u3)) 2 (some u2)) 1 (some u1)) H n []=S18_1 cal k m u1 u2 u3 u4 H n
  | 0,u1,u2,u3,u4,H,n=>by
    rw[h18_1]
    have e:R18_1 cal k 0=fun _ _ _ _ _ _=>none:=by funext u1 u2 u3 u4 H n; kernel_rfl
    rw[e]; rfl
  | m+1,u1,u2,u3,u4,H,n=>by
    rw[h18_1]
    have e:R18_1 cal k (m+1)=S18_1 cal k m:=by
      funext u1 u2 u3 u4 H n
      have e:R18_1 cal k (m+1) u1 u2 u3 u4 H n=labK (E18_1 cal k m) (Tr.set (Tr.set (Tr.set (Tr.set Tr.nil 4 (some u4)) 3 (some u3)) 2 (some u2)) 1 (some u1)) H n []:=by kernel_rfl
      rw[e]; exact q18_1 ..
    rw[e]; rfl
noncomputable def B18_0 (cal:Cal) (k:Nat) (j1:V4) (v0:Value) (H:Hp) (n:Nat):Res:=
boxK 26 v0 H n fun v_1 H_2 n_3=>
ez P 35 H_2 n_3 fun v_4 H_5 n_6=>
ez P 35 H_5 n_6 fun v_7 H_8 n_9=>
j1 v_1 v_4 v_7 (.int .i64 0) H_8 n_9
noncomputable def C18_0 (cal:Cal) (k:Nat) (v0:Value) (H:Hp) (n:Nat):Res:=B18_0 cal k (S18_1 cal k k) v0 H n
theorem h18_0 (cal:Cal) (k:Nat) (v0:Value) (H:Hp) (n:Nat):aK P cal A (k+1) 18 [v0] H n=C18_0 cal k v0 H n:=by
  have h:aK P cal A (k+1) 18 [v0] H n=B18_0 cal k (fun u1 u2 u3 u4 H n=>labK (E18_1 cal k k) (Tr.set (Tr.set (Tr.set (Tr.set Tr.nil 4 (some u4)) 3 (some u3)) 2 (some u2)) 1 (some u1)) H n []) v0 H n:=by
    rw[bW (fn:=Go.Proofs.Try.f18) (c:=jK) (rs:=cW) (by kernel_rfl) (by kernel_rfl) (by kernel_rfl) (by kernel_rfl)]
    kernel_rfl
  rw[h,C18_0]
  have e1:(fun u1 u2 u3 u4 H n=>labK (E18_1 cal k k) (Tr.set (Tr.set (Tr.set (Tr.set Tr.nil 4 (some u4)) 3 (some u3)) 2 (some u2)) 1 (some u1)) H n [])=(S18_1 cal k k):=by funext u1 u2 u3 u4 H n; exact q18_1 ..
  rw[e1]
noncomputable def code20:Code:=cV 20
noncomputable def Gj:List ResultVar:=dW 20
noncomputable def K20_p (cal:Cal) (k:Nat):KR:=(cutK (A 20).c (ay P cal (aw P cal k) none 20 (cR code20) (Lv.b (A 20)) (av P Gj) X0 (av P Gj)))
noncomputable def K20_pr (cal:Cal) (k:Nat):KR:=(cutK (Lv.b (A 20)).c (ay P cal (aw P cal k) none 20 (cR (cR code20)) (Lv.b (Lv.b (A 20))) (av P Gj) X0 (av P Gj)))
noncomputable def B20_0 (cal:Cal) (k:Nat) (v0:Value) (H:Hp) (n:Nat):Res:=
boxK 26 v0 H n fun v_1 H_2 n_3=>
aq (aW v_1) fun a_6=>aq (az P H_2 26 a_6) fun v_5=>
aY P cal 63 [v_5] H_2 n_3 fun v_7 H_8 n_9=>
some (v_7,H_8,n_9)
noncomputable def C20_0 (cal:Cal) (k:Nat) (v0:Value) (H:Hp) (n:Nat):Res:=B20_0 cal k v0 H n
theorem h20_0 (cal:Cal) (k:Nat) (v0:Value) (H:Hp) (n:Nat):aK P cal A (k+1) 20 [v0] H n=C20_0 cal k v0 H n:=by
  have h:aK P cal A (k+1) 20 [v0] H n=B20_0 cal k v0 H n:=by
    rw[bW (fn:=Go.Proofs.Try.f20) (c:=code20) (rs:=Gj) (by kernel_rfl) (by kernel_rfl) (by kernel_rfl) (by kernel_rfl)]
    kernel_rfl
  rw[h,C20_0]
noncomputable def yK:Code:=cV 21
noncomputable def kq:List ResultVar:=dW 21
noncomputable def K21_p (cal:Cal) (k:Nat):KR:=(cutK (A 21).c (ay P cal (aw P cal k) none 21 (cR yK) (Lv.b (A 21)) (av P kq) X0 (av P kq)))
noncomputable def K21_pr (cal:Cal) (k:Nat):KR:=(cutK (Lv.b (A 21)).c (ay P cal (aw P cal k) none 21 (cR (cR yK)) (Lv.b (Lv.b (A 21))) (av P kq) X0 (av P kq)))
noncomputable def K21_prl (cal:Cal) (k:Nat):KR:=(cutK (Lv.a (Lv.b (A 21))).c (ay P cal (aw P cal k) none 21 (cR (cL (cR yK))) (Lv.b (Lv.a (Lv.b (A 21)))) (K21_pr cal k) X0 (av P kq)))
noncomputable def zj (cal:Cal) (k:Nat):XR:=(upX 0 (K21_pr cal k) X0)
noncomputable def Tv (cal:Cal) (k:Nat) (m1:Nat):KR:=(fun T H n D=>aw P cal m1 (Lv.a (Lv.b (Lv.a (Lv.b (A 21))))) none 21 (cL (cR (cL (cR yK)))) (K21_pr cal k) (zj cal k) (av P kq) (cutT (Lv.a (Lv.b (Lv.a (Lv.b (A 21))))).c T) H n D)
noncomputable def K21_prlrll (cal:Cal) (k:Nat) (m1:Nat):KR:=(cutK (Lv.a (Lv.a (Lv.b (Lv.a (Lv.b (A 21)))))).c (ay P cal (aw P cal m1) none 21 (cR (cL (cL (cR (cL (cR yK)))))) (Lv.b (Lv.a (Lv.a (Lv.b (Lv.a (Lv.b (A 21))))))) (Tv cal k m1) (zj cal k) (av P kq)))
noncomputable def K21_prlrlll (cal:Cal) (k:Nat) (m1:Nat):KR:=(cutK (Lv.a (Lv.a (Lv.a (Lv.b (Lv.a (Lv.b (A 21))))))).c (ay P cal (aw P cal m1) none 21 (cR (cL (cL (cL (cR (cL (cR yK))))))) (Lv.b (Lv.a (Lv.a (Lv.a (Lv.b (Lv.a (Lv.b (A 21)))))))) (K21_prlrll cal k m1) (zj cal k) (av P kq)))
noncomputable def Lw (cal:Cal) (k:Nat) (m1:Nat):KR:=(cutK (Lv.b (Lv.a (Lv.a (Lv.b (Lv.a (Lv.b (A 21))))))).c (ay P cal (aw P cal m1) none 21 (cR (cR (cL (cL (cR (cL (cR yK))))))) (Lv.b (Lv.b (Lv.a (Lv.a (Lv.b (Lv.a (Lv.b (A 21)))))))) (Tv cal k m1) (zj cal k) (av P kq)))
noncomputable def K21_pxrlrllrl (cal:Cal) (k:Nat) (m1:Nat):XR:=(upX 1 (Lw cal k m1) (zj cal k))
noncomputable def K21_prlrllrll (cal:Cal) (k:Nat) (m1:Nat):KR:=(cutK (Lv.a (Lv.a (Lv.b (Lv.a (Lv.a (Lv.b (Lv.a (Lv.b (A 21))))))))).c (ay P cal (aw P cal m1) none 21 (cR (cL (cL (cR (cL (cL (cR (cL (cR yK))))))))) (Lv.b (Lv.a (Lv.a (Lv.b (Lv.a (Lv.a (Lv.b (Lv.a (Lv.b (A 21)))))))))) (Lw cal k m1) (K21_pxrlrllrl cal k m1) (av P kq)))
noncomputable def K21_prlrllrllrl (cal:Cal) (k:Nat) (m1:Nat):KR:=(cutK (Lv.a (Lv.b (Lv.a (Lv.a (Lv.b (Lv.a (Lv.a (Lv.b (Lv.a (Lv.b (A 21))))))))))).c (ay P cal (aw P cal m1) none 21 (cR (cL (cR (cL (cL (cR (cL (cL (cR (cL (cR yK))))))))))) (Lv.b (Lv.a (Lv.b (Lv.a (Lv.a (Lv.b (Lv.a (Lv.a (Lv.b (Lv.a (Lv.b (A 21)))))))))))) (Lw cal k m1) (K21_pxrlrllrl cal k m1) (av P kq)))
noncomputable def K21_prr (cal:Cal) (k:Nat):KR:=(cutK (Lv.b (Lv.b (A 21))).c (ay P cal (aw P cal k) none 21 (cR (cR (cR yK))) (Lv.b (Lv.b (Lv.b (A 21)))) (av P kq) X0 (av P kq)))
noncomputable def E21_1 (cal:Cal) (k m1:Nat):KR:=ay P cal (aw P cal m1) none 21 (cL (cL (cR (cL (cR yK))))) (Lv.a (Lv.a (Lv.b (Lv.a (Lv.b (A 21)))))) (Tv cal k m1) (zj cal k) (av P kq)
noncomputable def R21_1 (cal:Cal) (k m1:Nat):V4:=fun u1 u2 u3 u7 H n=>aw P cal m1 (Lv.a (Lv.b (Lv.a (Lv.b (A 21))))) none 21 (cL (cR (cL (cR yK)))) (K21_pr cal k) (zj cal k) (av P kq) (Tr.set (Tr.set (Tr.set (Tr.set Tr.nil 7 (some u7)) 3 (some u3)) 2 (some u2)) 1 (some u1)) H n []
noncomputable def B21_1 (cal:Cal) (k m1:Nat) (b1:V4) (u1 u2 u3 u7:Value) (H:Hp) (n:Nat):Res:=
aq (ax P 26 u3 2) fun v_g=>
aq (aW v_g) fun a_i=>aq (az P H 24 a_i) fun v_h=>
aq (aQ P 24 v_h u1) fun v_k=>
aq (ax P 94 v_k 1) fun v_l=>
aq (ax P 55 v_l 1) fun v_m=>
aq (aW v_m) fun a_o=>aq (az P H 3 a_o) fun v_n=>
binK P .leq 3 (.tmp 15) (.tmp 22) u7 v_n fun v_p=>
ifK v_p (
aq (aW u3) fun a_r=>aq (az P H 26 a_r) fun v_q=>
aY P cal 64 [v_q,u1,u2,u2,u7] H n fun v_w H_x n_y=>
ifK v_w (
some ((.bool true),H_x,n_y)) (
binK P .add 3 (.tmp 24) (.const (.int .i64 1)) u7 (.int .i64 1) fun v_11=>
b1 u1 u2 u3 v_11 H_x n_y)) (
some ((.bool false),H,n))
noncomputable def C21_1 (cal:Cal) (k m1:Nat) (b1:V4) (u1 u2 u3 u7:Value) (H:Hp) (n:Nat):Res:=B21_1 cal k m1 b1 u1 u2 u3 u7 H n
noncomputable def S21_1 (cal:Cal) (k:Nat):Nat→V4:=fun m=>Nat.rec (motive:=fun _=>V4) (C21_1 cal k 0 (fun _ _ _ _ _ _=>none)) (fun m ih=>C21_1 cal k (m+1) ih) m
theorem h21_1 (cal:Cal) (k m1:Nat) (u1 u2 u3 u7:Value) (H:Hp) (n:Nat):labK (E21_1 cal k m1) (Tr.set (Tr.set (Tr.set (Tr.set Tr.nil 7 (some u7)) 3 (some u3)) 2 (some u2)) 1 (some u1)) H n []=C21_1 cal k m1 (R21_1 cal k m1) u1 u2 u3 u7 H n:=by
  refine Eq.trans (b:=B21_1 cal k m1 (R21_1 cal k m1) u1 u2 u3 u7 H n) (by kernel_rfl) ?_
  rw[C21_1]
theorem q21_1 (cal:Cal) (k:Nat):∀(m:Nat) (u1 u2 u3 u7:Value) (H:Hp) (n:Nat),labK (E21_1 cal k m) (Tr.set (Tr.set (Tr.set (Tr.set Tr.nil 7 (some u7)) 3 (some u3)) 2 (some u2)) 1 (some u1)) H n []=S21_1 cal k m u1 u2 u3 u7 H n
  | 0,u1,u2,u3,u7,H,n=>by
    rw[h21_1]
    have e:R21_1 cal k 0=fun _ _ _ _ _ _=>none:=by funext u1 u2 u3 u7 H n; kernel_rfl
    rw[e]; rfl
  | m+1,u1,u2,u3,u7,H,n=>by
    rw[h21_1]
    have e:R21_1 cal k (m+1)=S21_1 cal k m:=by
      funext u1 u2 u3 u7 H n
      have e:R21_1 cal k (m+1) u1 u2 u3 u7 H n=labK (E21_1 cal k m) (Tr.set (Tr.set (Tr.set (Tr.set Tr.nil 7 (some u7)) 3 (some u3)) 2 (some u2)) 1 (some u1)) H n []:=by kernel_rfl
      rw[e]; exact q21_1 ..
    rw[e]; rfl
noncomputable def B21_0 (cal:Cal) (k:Nat) (j1:V4) (v0 v1 v2:Value) (H:Hp) (n:Nat):Res:=
boxK 26 v0 H n fun v_1 H_2 n_3=>
aq (ax P 26 v_1 2) fun v_5=>
aq (aW v_5) fun a_7=>aq (az P H_2 24 a_7) fun v_6=>
aq (aQ P 24 v_6 v1) fun v_9=>
aq (ax P 94 v_9 1) fun v_a=>
aq (ax P 55 v_a 0) fun v_b=>
aq (aW v_b) fun a_d=>aq (az P H_2 3 a_d) fun v_c=>
j1 v1 v2 v_1 v_c H_2 n_3
noncomputable def C21_0 (cal:Cal) (k:Nat) (v0 v1 v2:Value) (H:Hp) (n:Nat):Res:=B21_0 cal k (S21_1 cal k k) v0 v1 v2 H n
theorem h21_0 (cal:Cal) (k:Nat) (v0 v1 v2:Value) (H:Hp) (n:Nat):aK P cal A (k+1) 21 [v0,v1,v2] H n=C21_0 cal k v0 v1 v2 H n:=by
  have h:aK P cal A (k+1) 21 [v0,v1,v2] H n=B21_0 cal k (fun u1 u2 u3 u7 H n=>labK (E21_1 cal k k) (Tr.set (Tr.set (Tr.set (Tr.set Tr.nil 7 (some u7)) 3 (some u3)) 2 (some u2)) 1 (some u1)) H n []) v0 v1 v2 H n:=by
    rw[bW (fn:=Go.Proofs.Try.f21) (c:=yK) (rs:=kq) (by kernel_rfl) (by kernel_rfl) (by kernel_rfl) (by kernel_rfl)]
    kernel_rfl
  rw[h,C21_0]
  have e1:(fun u1 u2 u3 u7 H n=>labK (E21_1 cal k k) (Tr.set (Tr.set (Tr.set (Tr.set Tr.nil 7 (some u7)) 3 (some u3)) 2 (some u2)) 1 (some u1)) H n [])=(S21_1 cal k k):=by funext u1 u2 u3 u7 H n; exact q21_1 ..
  rw[e1]
noncomputable def Lx:Code:=cV 22
noncomputable def mQ:List ResultVar:=dW 22
noncomputable def K22_p (cal:Cal) (k:Nat):KR:=(cutK (A 22).c (ay P cal (aw P cal k) none 22 (cR Lx) (Lv.b (A 22)) (av P mQ) X0 (av P mQ)))
noncomputable def K22_pr (cal:Cal) (k:Nat):KR:=(cutK (Lv.b (A 22)).c (ay P cal (aw P cal k) none 22 (cR (cR Lx)) (Lv.b (Lv.b (A 22))) (av P mQ) X0 (av P mQ)))
noncomputable def K22_prr (cal:Cal) (k:Nat):KR:=(cutK (Lv.b (Lv.b (A 22))).c (ay P cal (aw P cal k) none 22 (cR (cR (cR Lx))) (Lv.b (Lv.b (Lv.b (A 22)))) (av P mQ) X0 (av P mQ)))
noncomputable def K22_prrl (cal:Cal) (k:Nat):KR:=(cutK (Lv.a (Lv.b (Lv.b (A 22)))).c (ay P cal (aw P cal k) none 22 (cR (cL (cR (cR Lx)))) (Lv.b (Lv.a (Lv.b (Lv.b (A 22))))) (K22_prr cal k) X0 (av P mQ)))
noncomputable def K22_prrlrl (cal:Cal) (k:Nat):KR:=(cutK (Lv.a (Lv.b (Lv.a (Lv.b (Lv.b (A 22)))))).c (ay P cal (aw P cal k) none 22 (cR (cL (cR (cL (cR (cR Lx)))))) (Lv.b (Lv.a (Lv.b (Lv.a (Lv.b (Lv.b (A 22))))))) (K22_prr cal k) X0 (av P mQ)))
noncomputable def K22_prrr (cal:Cal) (k:Nat):KR:=(cutK (Lv.b (Lv.b (Lv.b (A 22)))).c (ay P cal (aw P cal k) none 22 (cR (cR (cR (cR Lx)))) (Lv.b (Lv.b (Lv.b (Lv.b (A 22))))) (av P mQ) X0 (av P mQ)))
noncomputable def K22_prrrr (cal:Cal) (k:Nat):KR:=(cutK (Lv.b (Lv.b (Lv.b (Lv.b (A 22))))).c (ay P cal (aw P cal k) none 22 (cR (cR (cR (cR (cR Lx))))) (Lv.b (Lv.b (Lv.b (Lv.b (Lv.b (A 22)))))) (av P mQ) X0 (av P mQ)))
noncomputable def B22_0 (cal:Cal) (k:Nat) (v0 v1:Value) (H:Hp) (n:Nat):Res:=
boxK 35 v0 H n fun v_1 H_2 n_3=>
aq (aW v_1) fun a_7=>aq (az P H_2 35 a_7) fun v_6=>
aY P cal 65 [v_6,v1] H_2 n_3 fun v_9 H_a n_b=>
aq (tupV v_9 0) fun v_d=>
aq (tupV v_9 1) fun v_e=>
aq (tupV v_9 2) fun v_f=>
ez P 121 H_a n_b fun v_g H_h n_i=>
aq (bJ P 121 v_g v_e H_h) fun H_l=>
binK P .neq 29 (.tmp 17) (.const (.int .i64 0)) v_f (.int .i64 0) fun v_o=>
ifK v_o (
some ((Value.tuple ⟨[(.slice none 0 0),v_f]⟩),H_l,n_i)) (
aq (aW v_g) fun a_u=>aq (az P H_l 121 a_u) fun v_t=>
aY P cal 66 [v_d,v_t] H_l n_i fun v_v H_w n_x=>
ez P 111 H_w n_x fun v_y H_z n_10=>
aq (bJ P 111 v_y v_v H_z) fun H_12=>
aq (nilV v_d) fun v_14=>
aq (ax P 117 v_14 0) fun v_15=>
aq (ax P 35 v_15 0) fun v_16=>
aq (aW v_16) fun a_18=>aq (az P H_12 31 a_18) fun v_17=>
aq (lenV P 31 v_17) fun v_19=>
aq (yx P 111 v_y none (some v_19)) fun v_1a=>
aY P cal 67 [v_1a] H_12 n_10 fun v_1b H_1c n_1d=>
some ((Value.tuple ⟨[v_1b,(.int .i64 0)]⟩),H_1c,n_1d))
noncomputable def Vy (cal:Cal) (k:Nat) (v0 v1:Value) (H:Hp) (n:Nat):Res:=B22_0 cal k v0 v1 H n
theorem h22_0 (cal:Cal) (k:Nat) (v0 v1:Value) (H:Hp) (n:Nat):aK P cal A (k+1) 22 [v0,v1] H n=Vy cal k v0 v1 H n:=by
  have h:aK P cal A (k+1) 22 [v0,v1] H n=B22_0 cal k v0 v1 H n:=by
    rw[bW (fn:=Go.Proofs.Try.f22) (c:=Lx) (rs:=mQ) (by kernel_rfl) (by kernel_rfl) (by kernel_rfl) (by kernel_rfl)]
    kernel_rfl
  rw[h,Vy]
noncomputable def code23:Code:=cV 23
noncomputable def Gq:List ResultVar:=dW 23
noncomputable def K23_p (cal:Cal) (k:Nat):KR:=(cutK (A 23).c (ay P cal (aw P cal k) none 23 (cR code23) (Lv.b (A 23)) (av P Gq) X0 (av P Gq)))
noncomputable def K23_pr (cal:Cal) (k:Nat):KR:=(cutK (Lv.b (A 23)).c (ay P cal (aw P cal k) none 23 (cR (cR code23)) (Lv.b (Lv.b (A 23))) (av P Gq) X0 (av P Gq)))
noncomputable def B23_0 (cal:Cal) (k:Nat) (v0:Value) (H:Hp) (n:Nat):Res:=
rowK P 44 0 [] H n fun v_2 H_3 n_4=>
stK (fQ P (bare H_3 n_4) 44 44 v_2 v0) fun v_6 H_7 n_8=>
some (v_6,H_7,n_8)
noncomputable def Ly (cal:Cal) (k:Nat) (v0:Value) (H:Hp) (n:Nat):Res:=B23_0 cal k v0 H n
theorem h23_0 (cal:Cal) (k:Nat) (v0:Value) (H:Hp) (n:Nat):aK P cal A (k+1) 23 [v0] H n=Ly cal k v0 H n:=by
  have h:aK P cal A (k+1) 23 [v0] H n=B23_0 cal k v0 H n:=by
    rw[bW (fn:=Go.Proofs.Try.f23) (c:=code23) (rs:=Gq) (by kernel_rfl) (by kernel_rfl) (by kernel_rfl) (by kernel_rfl)]
    kernel_rfl
  rw[h,Ly]
noncomputable def EV:Code:=cV 25
noncomputable def lk:List ResultVar:=dW 25
noncomputable def K25_p (cal:Cal) (k:Nat):KR:=(cutK (A 25).c (ay P cal (aw P cal k) none 25 (cR EV) (Lv.b (A 25)) (av P lk) X0 (av P lk)))
noncomputable def K25_pr (cal:Cal) (k:Nat):KR:=(cutK (Lv.b (A 25)).c (ay P cal (aw P cal k) none 25 (cR (cR EV)) (Lv.b (Lv.b (A 25))) (av P lk) X0 (av P lk)))
noncomputable def K25_prl (cal:Cal) (k:Nat):KR:=(cutK (Lv.a (Lv.b (A 25))).c (ay P cal (aw P cal k) none 25 (cR (cL (cR EV))) (Lv.b (Lv.a (Lv.b (A 25)))) (K25_pr cal k) X0 (av P lk)))
noncomputable def K25_prlr (cal:Cal) (k:Nat):KR:=(cutK (Lv.b (Lv.a (Lv.b (A 25)))).c (ay P cal (aw P cal k) none 25 (cR (cR (cL (cR EV)))) (Lv.b (Lv.b (Lv.a (Lv.b (A 25))))) (K25_pr cal k) X0 (av P lk)))
noncomputable def K25_prlrrl (cal:Cal) (k:Nat):KR:=(cutK (Lv.a (Lv.b (Lv.b (Lv.a (Lv.b (A 25)))))).c (ay P cal (aw P cal k) none 25 (cR (cL (cR (cR (cL (cR EV)))))) (Lv.b (Lv.a (Lv.b (Lv.b (Lv.a (Lv.b (A 25))))))) (K25_pr cal k) X0 (av P lk)))
noncomputable def K25_prr (cal:Cal) (k:Nat):KR:=(cutK (Lv.b (Lv.b (A 25))).c (ay P cal (aw P cal k) none 25 (cR (cR (cR EV))) (Lv.b (Lv.b (Lv.b (A 25)))) (av P lk) X0 (av P lk)))
noncomputable def K25_prrl (cal:Cal) (k:Nat):KR:=(cutK (Lv.a (Lv.b (Lv.b (A 25)))).c (ay P cal (aw P cal k) none 25 (cR (cL (cR (cR EV)))) (Lv.b (Lv.a (Lv.b (Lv.b (A 25))))) (K25_prr cal k) X0 (av P lk)))
noncomputable def K25_prrlrl (cal:Cal) (k:Nat):KR:=(cutK (Lv.a (Lv.b (Lv.a (Lv.b (Lv.b (A 25)))))).c (ay P cal (aw P cal k) none 25 (cR (cL (cR (cL (cR (cR EV)))))) (Lv.b (Lv.a (Lv.b (Lv.a (Lv.b (Lv.b (A 25))))))) (K25_prr cal k) X0 (av P lk)))
noncomputable def K25_prrr (cal:Cal) (k:Nat):KR:=(cutK (Lv.b (Lv.b (Lv.b (A 25)))).c (ay P cal (aw P cal k) none 25 (cR (cR (cR (cR EV)))) (Lv.b (Lv.b (Lv.b (Lv.b (A 25))))) (av P lk) X0 (av P lk)))
noncomputable def B25_0 (cal:Cal) (k:Nat) (v0 v1:Value) (H:Hp) (n:Nat):Res:=
boxK 26 v0 H n fun v_1 H_2 n_3=>
aq (aW v_1) fun a_6=>aq (az P H_2 26 a_6) fun v_5=>
aY P cal 20 [v_5] H_2 n_3 fun v_7 H_8 n_9=>
binK P .neq 29 (.tmp 8) (.const (.int .i64 0)) v_7 (.int .i64 0) fun v_c=>
ifK v_c (
some (v_7,H_8,n_9)) (
aq (aW v_1) fun a_g=>aq (az P H_8 26 a_g) fun v_f=>
aY P cal 58 [v_f,v1] H_8 n_9 fun v_i H_j n_k=>
aq (eW P v_i (Op.unary UnOp.not v_i)) fun v_l=>
ifK v_l (
some ((.int .i64 2),H_j,n_k)) (
some ((.int .i64 0),H_j,n_k)))
noncomputable def C25_0 (cal:Cal) (k:Nat) (v0 v1:Value) (H:Hp) (n:Nat):Res:=B25_0 cal k v0 v1 H n
theorem h25_0 (cal:Cal) (k:Nat) (v0 v1:Value) (H:Hp) (n:Nat):aK P cal A (k+1) 25 [v0,v1] H n=C25_0 cal k v0 v1 H n:=by
  have h:aK P cal A (k+1) 25 [v0,v1] H n=B25_0 cal k v0 v1 H n:=by
    rw[bW (fn:=Go.Proofs.Try.f25) (c:=EV) (rs:=lk) (by kernel_rfl) (by kernel_rfl) (by kernel_rfl) (by kernel_rfl)]
    kernel_rfl
  rw[h,C25_0]
noncomputable def code26:Code:=cV 26
noncomputable def zq:List ResultVar:=dW 26
noncomputable def K26_p (cal:Cal) (k:Nat):KR:=(cutK (A 26).c (ay P cal (aw P cal k) none 26 (cR code26) (Lv.b (A 26)) (av P zq) X0 (av P zq)))
noncomputable def K26_pr (cal:Cal) (k:Nat):KR:=(cutK (Lv.b (A 26)).c (ay P cal (aw P cal k) none 26 (cR (cR code26)) (Lv.b (Lv.b (A 26))) (av P zq) X0 (av P zq)))
noncomputable def B26_0 (cal:Cal) (k:Nat) (v0:Value) (H:Hp) (n:Nat):Res:=
boxK 55 v0 H n fun v_1 H_2 n_3=>
ez P 53 H_2 n_3 fun v_4 H_5 n_6=>
aq (ax P 55 v_1 0) fun v_7=>
aq (aW v_7) fun a_9=>aq (az P H_5 3 a_9) fun v_8=>
aq (ax P 55 v_1 1) fun v_a=>
aq (aW v_a) fun a_c=>aq (az P H_5 3 a_c) fun v_b=>
aq (jW P 53 [(0,v_8),(1,v_b)]) fun v_d=>
aq (bJ P 53 v_4 v_d H_5) fun H_f=>
aq (resV P (Tr.set Tr.nil 2 (some v_4)) H_f zq) fun v_g=>some (oneV v_g,H_f,n_6)
noncomputable def C26_0 (cal:Cal) (k:Nat) (v0:Value) (H:Hp) (n:Nat):Res:=B26_0 cal k v0 H n
theorem h26_0 (cal:Cal) (k:Nat) (v0:Value) (H:Hp) (n:Nat):aK P cal A (k+1) 26 [v0] H n=C26_0 cal k v0 H n:=by
  have h:aK P cal A (k+1) 26 [v0] H n=B26_0 cal k v0 H n:=by
    rw[bW (fn:=Go.Proofs.Try.f26) (c:=code26) (rs:=zq) (by kernel_rfl) (by kernel_rfl) (by kernel_rfl) (by kernel_rfl)]
    kernel_rfl
  rw[h,C26_0]
noncomputable def ux:Code:=cV 30
noncomputable def gQ:List ResultVar:=dW 30
noncomputable def K30_p (cal:Cal) (k:Nat):KR:=(cutK (A 30).c (ay P cal (aw P cal k) none 30 (cR ux) (Lv.b (A 30)) (av P gQ) X0 (av P gQ)))
noncomputable def K30_pr (cal:Cal) (k:Nat):KR:=(cutK (Lv.b (A 30)).c (ay P cal (aw P cal k) none 30 (cR (cR ux)) (Lv.b (Lv.b (A 30))) (av P gQ) X0 (av P gQ)))
noncomputable def K30_prl (cal:Cal) (k:Nat):KR:=(cutK (Lv.a (Lv.b (A 30))).c (ay P cal (aw P cal k) none 30 (cR (cL (cR ux))) (Lv.b (Lv.a (Lv.b (A 30)))) (K30_pr cal k) X0 (av P gQ)))
noncomputable def K30_prlrl (cal:Cal) (k:Nat):KR:=(cutK (Lv.a (Lv.b (Lv.a (Lv.b (A 30))))).c (ay P cal (aw P cal k) none 30 (cR (cL (cR (cL (cR ux))))) (Lv.b (Lv.a (Lv.b (Lv.a (Lv.b (A 30)))))) (K30_pr cal k) X0 (av P gQ)))
noncomputable def WK (cal:Cal) (k:Nat):KR:=(cutK (Lv.b (Lv.b (A 30))).c (ay P cal (aw P cal k) none 30 (cR (cR (cR ux))) (Lv.b (Lv.b (Lv.b (A 30)))) (av P gQ) X0 (av P gQ)))
noncomputable def K30_prrl (cal:Cal) (k:Nat):KR:=(cutK (Lv.a (Lv.b (Lv.b (A 30)))).c (ay P cal (aw P cal k) none 30 (cR (cL (cR (cR ux)))) (Lv.b (Lv.a (Lv.b (Lv.b (A 30))))) (WK cal k) X0 (av P gQ)))
noncomputable def vW (cal:Cal) (k:Nat):XR:=(upX 0 (WK cal k) X0)
noncomputable def Px (cal:Cal) (k:Nat) (m1:Nat):KR:=(fun T H n D=>aw P cal m1 (Lv.a (Lv.b (Lv.a (Lv.b (Lv.b (A 30)))))) none 30 (cL (cR (cL (cR (cR ux))))) (WK cal k) (vW cal k) (av P gQ) (cutT (Lv.a (Lv.b (Lv.a (Lv.b (Lv.b (A 30)))))).c T) H n D)
noncomputable def K30_prrlrll (cal:Cal) (k:Nat) (m1:Nat):KR:=(cutK (Lv.a (Lv.a (Lv.b (Lv.a (Lv.b (Lv.b (A 30))))))).c (ay P cal (aw P cal m1) none 30 (cR (cL (cL (cR (cL (cR (cR ux))))))) (Lv.b (Lv.a (Lv.a (Lv.b (Lv.a (Lv.b (Lv.b (A 30)))))))) (Px cal k m1) (vW cal k) (av P gQ)))
noncomputable def K30_prrlrlll (cal:Cal) (k:Nat) (m1:Nat):KR:=(cutK (Lv.a (Lv.a (Lv.a (Lv.b (Lv.a (Lv.b (Lv.b (A 30)))))))).c (ay P cal (aw P cal m1) none 30 (cR (cL (cL (cL (cR (cL (cR (cR ux)))))))) (Lv.b (Lv.a (Lv.a (Lv.a (Lv.b (Lv.a (Lv.b (Lv.b (A 30))))))))) (K30_prrlrll cal k m1) (vW cal k) (av P gQ)))
noncomputable def Iz (cal:Cal) (k:Nat) (m1:Nat):KR:=(cutK (Lv.b (Lv.a (Lv.a (Lv.b (Lv.a (Lv.b (Lv.b (A 30)))))))).c (ay P cal (aw P cal m1) none 30 (cR (cR (cL (cL (cR (cL (cR (cR ux)))))))) (Lv.b (Lv.b (Lv.a (Lv.a (Lv.b (Lv.a (Lv.b (Lv.b (A 30))))))))) (Px cal k m1) (vW cal k) (av P gQ)))
noncomputable def K30_pxrrlrllrl (cal:Cal) (k:Nat) (m1:Nat):XR:=(upX 1 (Iz cal k m1) (vW cal k))
noncomputable def K30_prrlrllrll (cal:Cal) (k:Nat) (m1:Nat):KR:=(cutK (Lv.a (Lv.a (Lv.b (Lv.a (Lv.a (Lv.b (Lv.a (Lv.b (Lv.b (A 30)))))))))).c (ay P cal (aw P cal m1) none 30 (cR (cL (cL (cR (cL (cL (cR (cL (cR (cR ux)))))))))) (Lv.b (Lv.a (Lv.a (Lv.b (Lv.a (Lv.a (Lv.b (Lv.a (Lv.b (Lv.b (A 30))))))))))) (Iz cal k m1) (K30_pxrrlrllrl cal k m1) (av P gQ)))
noncomputable def K30_prrlrllrllrl (cal:Cal) (k:Nat) (m1:Nat):KR:=(cutK (Lv.a (Lv.b (Lv.a (Lv.a (Lv.b (Lv.a (Lv.a (Lv.b (Lv.a (Lv.b (Lv.b (A 30)))))))))))).c (ay P cal (aw P cal m1) none 30 (cR (cL (cR (cL (cL (cR (cL (cL (cR (cL (cR (cR ux)))))))))))) (Lv.b (Lv.a (Lv.b (Lv.a (Lv.a (Lv.b (Lv.a (Lv.a (Lv.b (Lv.a (Lv.b (Lv.b (A 30))))))))))))) (Iz cal k m1) (K30_pxrrlrllrl cal k m1) (av P gQ)))
noncomputable def K30_prrr (cal:Cal) (k:Nat):KR:=(cutK (Lv.b (Lv.b (Lv.b (A 30)))).c (ay P cal (aw P cal k) none 30 (cR (cR (cR (cR ux)))) (Lv.b (Lv.b (Lv.b (Lv.b (A 30))))) (av P gQ) X0 (av P gQ)))
noncomputable def E30_1 (cal:Cal) (k m1:Nat):KR:=ay P cal (aw P cal m1) none 30 (cL (cL (cR (cL (cR (cR ux)))))) (Lv.a (Lv.a (Lv.b (Lv.a (Lv.b (Lv.b (A 30))))))) (Px cal k m1) (vW cal k) (av P gQ)
noncomputable def R30_1 (cal:Cal) (k m1:Nat):V3:=fun u0 u1 u5 H n=>aw P cal m1 (Lv.a (Lv.b (Lv.a (Lv.b (Lv.b (A 30)))))) none 30 (cL (cR (cL (cR (cR ux))))) (WK cal k) (vW cal k) (av P gQ) (Tr.set (Tr.set (Tr.set Tr.nil 5 (some u5)) 1 (some u1)) 0 (some u0)) H n []
noncomputable def B30_1 (cal:Cal) (k m1:Nat) (b1:V3) (u0 u1 u5:Value) (H:Hp) (n:Nat):Res:=
aq (lenV P 44 u0) fun v_b=>
binK P .lss 3 (.tmp 11) (.tmp 13) u5 v_b fun v_c=>
ifK v_c (
aq (aQ P 44 u0 u5) fun v_f=>
aq (aW v_f) fun a_g=>aq (az P H 3 a_g) fun v_h=>
aq (aQ P 44 u1 u5) fun v_k=>
aq (aW v_k) fun a_l=>aq (az P H 3 a_l) fun v_m=>
binK P .neq 3 (.tmp 20) (.tmp 24) v_h v_m fun v_n=>
ifK v_n (
some ((.bool false),H,n)) (
binK P .add 3 (.tmp 15) (.const (.int .i64 1)) u5 (.int .i64 1) fun v_q=>
b1 u0 u1 v_q H n)) (
some ((.bool true),H,n))
noncomputable def C30_1 (cal:Cal) (k m1:Nat) (b1:V3) (u0 u1 u5:Value) (H:Hp) (n:Nat):Res:=B30_1 cal k m1 b1 u0 u1 u5 H n
noncomputable def S30_1 (cal:Cal) (k:Nat):Nat→V3:=fun m=>Nat.rec (motive:=fun _=>V3) (C30_1 cal k 0 (fun _ _ _ _ _=>none)) (fun m ih=>C30_1 cal k (m+1) ih) m
theorem h30_1 (cal:Cal) (k m1:Nat) (u0 u1 u5:Value) (H:Hp) (n:Nat):labK (E30_1 cal k m1) (Tr.set (Tr.set (Tr.set Tr.nil 5 (some u5)) 1 (some u1)) 0 (some u0)) H n []=C30_1 cal k m1 (R30_1 cal k m1) u0 u1 u5 H n:=by
  refine Eq.trans (b:=B30_1 cal k m1 (R30_1 cal k m1) u0 u1 u5 H n) (by kernel_rfl) ?_
  rw[C30_1]
theorem q30_1 (cal:Cal) (k:Nat):∀(m:Nat) (u0 u1 u5:Value) (H:Hp) (n:Nat),labK (E30_1 cal k m) (Tr.set (Tr.set (Tr.set Tr.nil 5 (some u5)) 1 (some u1)) 0 (some u0)) H n []=S30_1 cal k m u0 u1 u5 H n
  | 0,u0,u1,u5,H,n=>by
    rw[h30_1]
    have e:R30_1 cal k 0=fun _ _ _ _ _=>none:=by funext u0 u1 u5 H n; kernel_rfl
    rw[e]; rfl
  | m+1,u0,u1,u5,H,n=>by
    rw[h30_1]
    have e:R30_1 cal k (m+1)=S30_1 cal k m:=by
      funext u0 u1 u5 H n
      have e:R30_1 cal k (m+1) u0 u1 u5 H n=labK (E30_1 cal k m) (Tr.set (Tr.set (Tr.set Tr.nil 5 (some u5)) 1 (some u1)) 0 (some u0)) H n []:=by kernel_rfl
      rw[e]; exact q30_1 ..
    rw[e]; rfl
noncomputable def B30_0 (cal:Cal) (k:Nat) (j1:V3) (v0 v1:Value) (H:Hp) (n:Nat):Res:=
aq (lenV P 44 v0) fun v_3=>
aq (lenV P 44 v1) fun v_5=>
binK P .neq 3 (.tmp 7) (.tmp 9) v_3 v_5 fun v_6=>
ifK v_6 (
some ((.bool false),H,n)) (
j1 v0 v1 (.int .i64 0) H n)
noncomputable def C30_0 (cal:Cal) (k:Nat) (v0 v1:Value) (H:Hp) (n:Nat):Res:=B30_0 cal k (S30_1 cal k k) v0 v1 H n
theorem h30_0 (cal:Cal) (k:Nat) (v0 v1:Value) (H:Hp) (n:Nat):aK P cal A (k+1) 30 [v0,v1] H n=C30_0 cal k v0 v1 H n:=by
  have h:aK P cal A (k+1) 30 [v0,v1] H n=B30_0 cal k (fun u0 u1 u5 H n=>labK (E30_1 cal k k) (Tr.set (Tr.set (Tr.set Tr.nil 5 (some u5)) 1 (some u1)) 0 (some u0)) H n []) v0 v1 H n:=by
    rw[bW (fn:=Go.Proofs.Try.f30) (c:=ux) (rs:=gQ) (by kernel_rfl) (by kernel_rfl) (by kernel_rfl) (by kernel_rfl)]
    kernel_rfl
  rw[h,C30_0]
  have e1:(fun u0 u1 u5 H n=>labK (E30_1 cal k k) (Tr.set (Tr.set (Tr.set Tr.nil 5 (some u5)) 1 (some u1)) 0 (some u0)) H n [])=(S30_1 cal k k):=by funext u0 u1 u5 H n; exact q30_1 ..
  rw[e1]
noncomputable def code32:Code:=cV 32
noncomputable def Gv:List ResultVar:=dW 32
noncomputable def K32_p (cal:Cal) (k:Nat):KR:=(cutK (A 32).c (ay P cal (aw P cal k) none 32 (cR code32) (Lv.b (A 32)) (av P Gv) X0 (av P Gv)))
noncomputable def K32_pr (cal:Cal) (k:Nat):KR:=(cutK (Lv.b (A 32)).c (ay P cal (aw P cal k) none 32 (cR (cR code32)) (Lv.b (Lv.b (A 32))) (av P Gv) X0 (av P Gv)))
noncomputable def B32_0 (cal:Cal) (k:Nat) (v0 v1 v2:Value) (H:Hp) (n:Nat):Res:=
binK P .geq 3 (.tmp 7) (.tmp 8) v0 v1 fun v_4=>
aV v_4 true (fun k_6=>
k_6 v0 H n) H n fun v_7 H_8 n_9=>
aV v_4 true (fun k_b=>
k_b v2 H_8 n_9) H_8 n_9 fun v_c H_d n_e=>
aV v_4 true (fun k_g=>
binK P .leq 3 (.tmp 11) (.tmp 12) v_7 v_c fun v_k=>
k_g v_k H_d n_e) H_d n_e fun v_h H_i n_j=>
aq (eQ v_4 v_h (.bool false)) fun v_l=>
some (v_l,H_i,n_j)
noncomputable def C32_0 (cal:Cal) (k:Nat) (v0 v1 v2:Value) (H:Hp) (n:Nat):Res:=B32_0 cal k v0 v1 v2 H n
theorem h32_0 (cal:Cal) (k:Nat) (v0 v1 v2:Value) (H:Hp) (n:Nat):aK P cal A (k+1) 32 [v0,v1,v2] H n=C32_0 cal k v0 v1 v2 H n:=by
  have h:aK P cal A (k+1) 32 [v0,v1,v2] H n=B32_0 cal k v0 v1 v2 H n:=by
    rw[bW (fn:=Go.Proofs.Try.f32) (c:=code32) (rs:=Gv) (by kernel_rfl) (by kernel_rfl) (by kernel_rfl) (by kernel_rfl)]
    kernel_rfl
  rw[h,C32_0]
end Go.Proofs.Ytekajfobmnedjaa.G
