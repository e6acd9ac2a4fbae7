/- The texts of functions, each with the proof that the evaluator says the same. -/
import Derived.Test.YtmjbdjnnojfhkaaH1
open Go Go.Ev
set_option maxRecDepth 1000000
set_option linter.unusedVariables false
noncomputable section
namespace Go.Proofs.Ytmjbdjnnojfhkaa.G
variable (cal:Cal) (k:Nat)
noncomputable def gq:Code:=dj 78
noncomputable def bV:List ResultVar:=fk 78
noncomputable def tW:Code:=asgR (cL (cR (cL (cR (cR (cR (cR gq)))))))
noncomputable def jZ:Code:=bodR (cL (cR (cL (cR (cR (cR (cR gq)))))))
noncomputable def K78_p:KR:=kD cal k 78 gq (A 78) (av P bV) X0 (av P bV)
noncomputable def K78_pr:KR:=kD cal k 78 (cR gq) (Lb (A 78)) (av P bV) X0 (av P bV)
noncomputable def K78_prr:KR:=kD cal k 78 (cR (cR gq)) (Lb (Lb (A 78))) (av P bV) X0 (av P bV)
noncomputable def K78_prrr:KR:=kD cal k 78 (cR (cR (cR gq))) (Lb (Lb (Lb (A 78)))) (av P bV) X0 (av P bV)
noncomputable def yJ:KR:=kD cal k 78 (cR (cR (cR (cR gq)))) (Lb (Lb (Lb (Lb (A 78))))) (av P bV) X0 (av P bV)
noncomputable def LW(k:Nat):XR:=(upX 0 (yJ cal k) X0)
noncomputable def K78_prrrrr:KR:=kD cal k 78 (cR (cR (cR (cR (cR gq))))) (Lb (Lb (Lb (Lb (Lb (A 78)))))) (av P bV) X0 (av P bV)
noncomputable def GY:KR:=kD cal k 78 (cR (cR (cR (cR (cR (cR gq)))))) (Lb (Lb (Lb (Lb (Lb (Lb (A 78))))))) (av P bV) X0 (av P bV)
noncomputable def K78_prrrrrrl:KR:=kD cal k 78 (cL (cR (cR (cR (cR (cR (cR gq))))))) (La (Lb (Lb (Lb (Lb (Lb (Lb (A 78)))))))) (GY cal k) X0 (av P bV)
noncomputable def oQ(k:Nat):XR:=(upX 4 (GY cal k) X0)
noncomputable def zX(k:Nat)(m1:Nat):KR:=(fun T H n D=>aK P cal m1 (La (Lb (La (Lb (Lb (Lb (Lb (Lb (Lb (A 78)))))))))) none 78 (cL (cR (cL (cR (cR (cR (cR (cR (cR gq))))))))) (GY cal k) (oQ cal k) (av P bV) (cutT (La (Lb (La (Lb (Lb (Lb (Lb (Lb (Lb (A 78)))))))))).c T) H n D)
noncomputable def K78_prrrrrrlrll(k:Nat)(m1:Nat):KR:=kD cal m1 78 (cL (cL (cR (cL (cR (cR (cR (cR (cR (cR gq)))))))))) (La (La (Lb (La (Lb (Lb (Lb (Lb (Lb (Lb (A 78))))))))))) (zX cal k m1) (oQ cal k) (av P bV)
noncomputable def K78_prrrrrrlrllr(k:Nat)(m1:Nat):KR:=kD cal m1 78 (cR (cL (cL (cR (cL (cR (cR (cR (cR (cR (cR gq))))))))))) (Lb (La (La (Lb (La (Lb (Lb (Lb (Lb (Lb (Lb (A 78)))))))))))) (zX cal k m1) (oQ cal k) (av P bV)
noncomputable def qx(k:Nat)(m1:Nat):KR:=kD cal m1 78 (cR (cR (cL (cL (cR (cL (cR (cR (cR (cR (cR (cR gq)))))))))))) (Lb (Lb (La (La (Lb (La (Lb (Lb (Lb (Lb (Lb (Lb (A 78))))))))))))) (zX cal k m1) (oQ cal k) (av P bV)
noncomputable def mJ(k:Nat)(m1:Nat):XR:=(upX 5 (qx cal k m1) (oQ cal k))
noncomputable def K78_prrrrrrlrllrrll(k:Nat)(m1:Nat):KR:=kD cal m1 78 (cL (cL (cR (cR (cL (cL (cR (cL (cR (cR (cR (cR (cR (cR gq)))))))))))))) (La (La (Lb (Lb (La (La (Lb (La (Lb (Lb (Lb (Lb (Lb (Lb (A 78))))))))))))))) (qx cal k m1) (mJ cal k m1) (av P bV)
noncomputable def K78_prrrrrrlrllrrllr(k:Nat)(m1:Nat):KR:=kD cal m1 78 (cR (cL (cL (cR (cR (cL (cL (cR (cL (cR (cR (cR (cR (cR (cR gq))))))))))))))) (Lb (La (La (Lb (Lb (La (La (Lb (La (Lb (Lb (Lb (Lb (Lb (Lb (A 78)))))))))))))))) (qx cal k m1) (mJ cal k m1) (av P bV)
noncomputable def K78_prrrrrrlrllrrllrl(k:Nat)(m1:Nat):KR:=kD cal m1 78 (cL (cR (cL (cL (cR (cR (cL (cL (cR (cL (cR (cR (cR (cR (cR (cR gq)))))))))))))))) (La (Lb (La (La (Lb (Lb (La (La (Lb (La (Lb (Lb (Lb (Lb (Lb (Lb (A 78))))))))))))))))) (K78_prrrrrrlrllrrllr cal k m1) (mJ cal k m1) (av P bV)
noncomputable def K78_prrrrrrlrllrrllrlrl(k:Nat)(m1:Nat):KR:=kD cal m1 78 (cL (cR (cL (cR (cL (cL (cR (cR (cL (cL (cR (cL (cR (cR (cR (cR (cR (cR gq)))))))))))))))))) (La (Lb (La (Lb (La (La (Lb (Lb (La (La (Lb (La (Lb (Lb (Lb (Lb (Lb (Lb (A 78))))))))))))))))))) (K78_prrrrrrlrllrrllr cal k m1) (mJ cal k m1) (av P bV)
noncomputable def K78_prrrrrrlrllrrllrr(k:Nat)(m1:Nat):KR:=kD cal m1 78 (cR (cR (cL (cL (cR (cR (cL (cL (cR (cL (cR (cR (cR (cR (cR (cR gq)))))))))))))))) (Lb (Lb (La (La (Lb (Lb (La (La (Lb (La (Lb (Lb (Lb (Lb (Lb (Lb (A 78))))))))))))))))) (qx cal k m1) (mJ cal k m1) (av P bV)
noncomputable def K78_prrrrrrlrllrrllrrr(k:Nat)(m1:Nat):KR:=kD cal m1 78 (cR (cR (cR (cL (cL (cR (cR (cL (cL (cR (cL (cR (cR (cR (cR (cR (cR gq))))))))))))))))) (Lb (Lb (Lb (La (La (Lb (Lb (La (La (Lb (La (Lb (Lb (Lb (Lb (Lb (Lb (A 78)))))))))))))))))) (qx cal k m1) (mJ cal k m1) (av P bV)
noncomputable def K78_prrrrrrr:KR:=kD cal k 78 (cR (cR (cR (cR (cR (cR (cR gq))))))) (Lb (Lb (Lb (Lb (Lb (Lb (Lb (A 78)))))))) (av P bV) X0 (av P bV)
noncomputable def K78_prrrrrrrl:KR:=kD cal k 78 (cL (cR (cR (cR (cR (cR (cR (cR gq)))))))) (La (Lb (Lb (Lb (Lb (Lb (Lb (Lb (A 78))))))))) (K78_prrrrrrr cal k) X0 (av P bV)
noncomputable def K78_prrrrrrrlrl:KR:=kD cal k 78 (cL (cR (cL (cR (cR (cR (cR (cR (cR (cR gq)))))))))) (La (Lb (La (Lb (Lb (Lb (Lb (Lb (Lb (Lb (A 78))))))))))) (K78_prrrrrrr cal k) X0 (av P bV)
noncomputable def Cq:KR:=kD cal k 78 (cR (cR (cR (cR (cR (cR (cR (cR gq)))))))) (Lb (Lb (Lb (Lb (Lb (Lb (Lb (Lb (A 78))))))))) (av P bV) X0 (av P bV)
noncomputable def K78_prrrrrrrrl:KR:=kD cal k 78 (cL (cR (cR (cR (cR (cR (cR (cR (cR gq))))))))) (La (Lb (Lb (Lb (Lb (Lb (Lb (Lb (Lb (A 78)))))))))) (Cq cal k) X0 (av P bV)
noncomputable def mX(k:Nat):XR:=(upX 6 (Cq cal k) X0)
noncomputable def vq(k:Nat)(m1:Nat):KR:=(fun T H n D=>aK P cal m1 (La (Lb (La (Lb (Lb (Lb (Lb (Lb (Lb (Lb (Lb (A 78)))))))))))) none 78 (cL (cR (cL (cR (cR (cR (cR (cR (cR (cR (cR gq))))))))))) (Cq cal k) (mX cal k) (av P bV) (cutT (La (Lb (La (Lb (Lb (Lb (Lb (Lb (Lb (Lb (Lb (A 78)))))))))))).c T) H n D)
noncomputable def K78_prrrrrrrrlrll(k:Nat)(m1:Nat):KR:=kD cal m1 78 (cL (cL (cR (cL (cR (cR (cR (cR (cR (cR (cR (cR gq)))))))))))) (La (La (Lb (La (Lb (Lb (Lb (Lb (Lb (Lb (Lb (Lb (A 78))))))))))))) (vq cal k m1) (mX cal k) (av P bV)
noncomputable def K78_prrrrrrrrlrllr(k:Nat)(m1:Nat):KR:=kD cal m1 78 (cR (cL (cL (cR (cL (cR (cR (cR (cR (cR (cR (cR (cR gq))))))))))))) (Lb (La (La (Lb (La (Lb (Lb (Lb (Lb (Lb (Lb (Lb (Lb (A 78)))))))))))))) (vq cal k m1) (mX cal k) (av P bV)
noncomputable def K78_prrrrrrrrlrllrr(k:Nat)(m1:Nat):KR:=kD cal m1 78 (cR (cR (cL (cL (cR (cL (cR (cR (cR (cR (cR (cR (cR (cR gq)))))))))))))) (Lb (Lb (La (La (Lb (La (Lb (Lb (Lb (Lb (Lb (Lb (Lb (Lb (A 78))))))))))))))) (vq cal k m1) (mX cal k) (av P bV)
noncomputable def K78_pxrrrrrrrrlrllrrl(k:Nat)(m1:Nat):XR:=(upX 7 (K78_prrrrrrrrlrllrr cal k m1) (mX cal k))
noncomputable def K78_prrrrrrrrlrllrrll(k:Nat)(m1:Nat):KR:=kD cal m1 78 (cL (cL (cR (cR (cL (cL (cR (cL (cR (cR (cR (cR (cR (cR (cR (cR gq)))))))))))))))) (La (La (Lb (Lb (La (La (Lb (La (Lb (Lb (Lb (Lb (Lb (Lb (Lb (Lb (A 78))))))))))))))))) (K78_prrrrrrrrlrllrr cal k m1) (K78_pxrrrrrrrrlrllrrl cal k m1) (av P bV)
noncomputable def K78_prrrrrrrrr:KR:=kD cal k 78 (cR (cR (cR (cR (cR (cR (cR (cR (cR gq))))))))) (Lb (Lb (Lb (Lb (Lb (Lb (Lb (Lb (Lb (A 78)))))))))) (av P bV) X0 (av P bV)
noncomputable def K78_prrrrrrrrrl:KR:=kD cal k 78 (cL (cR (cR (cR (cR (cR (cR (cR (cR (cR gq)))))))))) (La (Lb (Lb (Lb (Lb (Lb (Lb (Lb (Lb (Lb (A 78))))))))))) (K78_prrrrrrrrr cal k) X0 (av P bV)
noncomputable def K78_prrrrrrrrrlrl:KR:=kD cal k 78 (cL (cR (cL (cR (cR (cR (cR (cR (cR (cR (cR (cR gq)))))))))))) (La (Lb (La (Lb (Lb (Lb (Lb (Lb (Lb (Lb (Lb (Lb (A 78))))))))))))) (K78_prrrrrrrrr cal k) X0 (av P bV)
noncomputable def K78_prrrrrrrrrr:KR:=kD cal k 78 (cR (cR (cR (cR (cR (cR (cR (cR (cR (cR gq)))))))))) (Lb (Lb (Lb (Lb (Lb (Lb (Lb (Lb (Lb (Lb (A 78))))))))))) (av P bV) X0 (av P bV)
noncomputable def K78_prrrrl:KR:=kD cal k 78 (cL (cR (cR (cR (cR gq))))) (La (Lb (Lb (Lb (Lb (A 78)))))) (yJ cal k) X0 (av P bV)
noncomputable def E78_4(k:Nat)(m1:Nat):KR:=cj P cal (aK P cal m1) none 78 (cL (cL (cR (cL (cR (cR (cR (cR (cR (cR (cR (cR gq)))))))))))) (La (La (Lb (La (Lb (Lb (Lb (Lb (Lb (Lb (Lb (Lb (A 78))))))))))))) (vq cal k m1) (mX cal k) (av P bV)
noncomputable def R78_4(k:Nat)(m1:Nat):W9 (Value × Hp × Nat):=fun u0 u3 u6 u7 u8 u14 u106 u107 u108 H n D=>aK P cal m1 (La (Lb (La (Lb (Lb (Lb (Lb (Lb (Lb (Lb (Lb (A 78)))))))))))) none 78 (cL (cR (cL (cR (cR (cR (cR (cR (cR (cR (cR gq))))))))))) (Cq cal k) (mX cal k) (av P bV) (ts (ts (ts (ts (ts (ts (ts (ts (ts Tr.nil 108 u108) 107 u107) 106 u106) 14 u14) 8 u8) 7 u7) 6 u6) 3 u3) 0 u0) H n D
noncomputable def E78_3(k:Nat)(m1:Nat):KR:=cj P cal (aK P cal m1) none 78 (cL (cL (cR (cL (cR (cR (cR (cR (cR (cR gq)))))))))) (La (La (Lb (La (Lb (Lb (Lb (Lb (Lb (Lb (A 78))))))))))) (zX cal k m1) (oQ cal k) (av P bV)
noncomputable def R78_3(k:Nat)(m1:Nat):W9 (Value × Hp × Nat):=fun u0 u3 u6 u7 u8 u14 u68 u69 u70 H n D=>aK P cal m1 (La (Lb (La (Lb (Lb (Lb (Lb (Lb (Lb (A 78)))))))))) none 78 (cL (cR (cL (cR (cR (cR (cR (cR (cR gq))))))))) (GY cal k) (oQ cal k) (av P bV) (ts (ts (ts (ts (ts (ts (ts (ts (ts Tr.nil 70 u70) 69 u69) 68 u68) 14 u14) 8 u8) 7 u7) 6 u6) 3 u3) 0 u0) H n D
noncomputable def E78_2(k:Nat):KR:=(yJ cal k)
noncomputable def E78_1(k:Nat):KR:=cj P cal (aK P cal k) none 78 (cR (cL (cR (cR (cR (cR gq)))))) (Lb (La (Lb (Lb (Lb (Lb (A 78))))))) (yJ cal k) X0 (av P bV)
noncomputable def B78_4(cal:Cal)(k:Nat)(m1:Nat)(b4:W9 (Value × Hp × Nat))(u0 u3 u6 u7 u8 u14 u106 u107 u108:Value)(H:Hp)(n:Nat)(D:List Nat):Option (Value × Hp × Nat):=
binK P .lss 3 (.tmp 108) (.tmp 107) u108 u107 fun v_2s=>
ifK v_2s (
aq (aJ P 31 u106 u108) fun v_2u=>
aq (aV v_2u) fun a_2w=>aq (az P H 90 a_2w) fun v_2v=>
eQ P 90 H n fun v_2x H_2y n_2z=>
aq (bX P 90 v_2x v_2v H_2y) fun H_32=>
aq (aV u6) fun a_33=>aq (az P H_32 160 a_33) fun v_34=>
binK P .add 3 (.const (.int .i64 8)) (.tmp 114) (.int .i64 8) u108 fun v_36=>
aq (fK P 162 [(0,v_36),(1,(.int .i64 17))]) fun v_37=>
aq (aw P 90 v_2x 1) fun v_38=>
aq (aV v_38) fun a_39=>aq (az P H_32 3 a_39) fun v_3a=>
aq (aw P 90 v_2x 0) fun v_3b=>
aq (aV v_3b) fun a_3c=>aq (az P H_32 3 a_3c) fun v_3d=>
aq (aJ P 118 u7 u108) fun v_3f=>
aq (aV v_3f) fun a_3g=>aq (az P H_32 3 a_3g) fun v_3h=>
aq (zj P 44 1 [(0,v_3h)]) fun q_3k=>newK q_3k.1 q_3k.2 H_32 n_2z fun H_3i n_3j=>
effK P [(.l 3 a_39),(.l 160 a_33)] H_3i n_3j (fun H_3l n_3m k_3n=>
aX P cal 106 [v_3d,(.slice (some ⟨n_2z,0,none⟩) 1 1)] H_3l n_3m fun v_3r H_3s n_3t=>
k_3n v_3r H_3s n_3t) fun v_3o H_3p n_3q=>
binK P .sub 3 (.tmp 118) (.tmp 125) v_3a v_3o fun v_3u=>
aq (BZ P 160 v_34 v_37 v_3u H_3p) fun H_3w=>
binK P .add 3 (.tmp 108) (.const (.int .i64 1)) u108 (.int .i64 1) fun v_3x=>
b4 u0 u3 u6 u7 u8 u14 u106 u107 v_3x H_3w n_3q D) (
aq (aV u6) fun a_3z=>aq (az P H 160 a_3z) fun v_40=>
aq (aV u8) fun a_41=>aq (az P H 3 a_41) fun v_42=>
binK P .sub 3 (.tmp 130) (.tmp 131) v_42 u14 fun v_44=>
effK P [(.l 3 a_41)] H n (fun H_45 n_46 k_47=>
aX P cal 107 [v_40] H_45 n_46 fun v_4b H_4c n_4d=>
k_47 v_4b H_4c n_4d) fun v_48 H_49 n_4a=>
binK P .neq 3 (.tmp 129) (.tmp 132) v_48 v_44 fun v_4e=>
ifK v_4e (
getK (wj H_49 D) fun H_4h=>
some ((Value.tuple ⟨[(.slice none 0 0),(.bool false)]⟩),H_4h,n_4a)) (
aq (aV u3) fun a_4k=>aq (az P H_49 119 a_4k) fun v_4j=>
aq (aV u6) fun a_4m=>aq (az P H_49 160 a_4m) fun v_4l=>
aX P cal 108 [u0,v_4j,v_4l] H_49 n_4a fun v_4n H_4o n_4p=>
getK (wj H_4o D) fun H_4s=>
some ((Value.tuple ⟨[v_4n,(.bool true)]⟩),H_4s,n_4p)))
noncomputable def C78_4(k:Nat)(m1:Nat)(b4:W9 (Value × Hp × Nat))(u0 u3 u6 u7 u8 u14 u106 u107 u108:Value)(H:Hp)(n:Nat)(D:List Nat):Option (Value × Hp × Nat):=B78_4 cal k m1 b4 u0 u3 u6 u7 u8 u14 u106 u107 u108 H n D
noncomputable def S78_4(k:Nat):Nat→W9 (Value × Hp × Nat):=fun m=>Nat.rec (motive:=fun _=>W9 (Value × Hp × Nat)) (C78_4 cal k 0 (fun _ _ _ _ _ _ _ _ _ _ _ _=>none)) (fun m ih=>C78_4 cal k (m+1) ih) m
theorem h78_4(k:Nat)(m1:Nat)(u0 u3 u6 u7 u8 u14 u106 u107 u108:Value)(H:Hp)(n:Nat)(D:List Nat):labK (E78_4 cal k m1) (ts (ts (ts (ts (ts (ts (ts (ts (ts Tr.nil 108 u108) 107 u107) 106 u106) 14 u14) 8 u8) 7 u7) 6 u6) 3 u3) 0 u0) H n D=C78_4 cal k m1 (R78_4 cal k m1) u0 u3 u6 u7 u8 u14 u106 u107 u108 H n D:=by
 refine Eq.trans (b:=B78_4 cal k m1 (R78_4 cal k m1) u0 u3 u6 u7 u8 u14 u106 u107 u108 H n D) (by kernel_rfl) ?_
 rw[C78_4]
theorem q78_4(k:Nat):∀(m:Nat) (u0 u3 u6 u7 u8 u14 u106 u107 u108:Value) (H:Hp) (n:Nat) (D:List Nat),labK (E78_4 cal k m) (ts (ts (ts (ts (ts (ts (ts (ts (ts Tr.nil 108 u108) 107 u107) 106 u106) 14 u14) 8 u8) 7 u7) 6 u6) 3 u3) 0 u0) H n D=S78_4 cal k m u0 u3 u6 u7 u8 u14 u106 u107 u108 H n D
 | 0,u0,u3,u6,u7,u8,u14,u106,u107,u108,H,n,D=>by
  rw[h78_4]
  have e:R78_4 cal k 0=fun _ _ _ _ _ _ _ _ _ _ _ _=>none:=by funext u0 u3 u6 u7 u8 u14 u106 u107 u108 H n D; kernel_rfl
  rw[e]; rfl
 | m+1,u0,u3,u6,u7,u8,u14,u106,u107,u108,H,n,D=>by
  rw[h78_4]
  have e:R78_4 cal k (m+1)=S78_4 cal k m:=by
   funext u0 u3 u6 u7 u8 u14 u106 u107 u108 H n D
   have e:R78_4 cal k (m+1) u0 u3 u6 u7 u8 u14 u106 u107 u108 H n D=labK (E78_4 cal k m) (ts (ts (ts (ts (ts (ts (ts (ts (ts Tr.nil 108 u108) 107 u107) 106 u106) 14 u14) 8 u8) 7 u7) 6 u6) 3 u3) 0 u0) H n D:=by kernel_rfl
   rw[e]; exact q78_4 ..
  rw[e]; rfl
noncomputable def B78_3(cal:Cal)(k:Nat)(m1:Nat)(j4:W9 (Value × Hp × Nat))(b3:W9 (Value × Hp × Nat))(u0 u3 u6 u7 u8 u14 u68 u69 u70:Value)(H:Hp)(n:Nat)(D:List Nat):Option (Value × Hp × Nat):=
binK P .lss 3 (.tmp 70) (.tmp 69) u70 u69 fun v_v=>
ifK v_v (
aq (aJ P 31 u68 u70) fun v_x=>
aq (aV v_x) fun a_z=>aq (az P H 90 a_z) fun v_y=>
eQ P 90 H n fun v_10 H_11 n_12=>
aq (bX P 90 v_10 v_y H_11) fun H_15=>
aq (aJ P 118 u7 u70) fun v_17=>
aq (aV v_17) fun a_18=>aq (az P H_15 3 a_18) fun v_19=>
aq (aw P 90 v_10 1) fun v_1a=>
aq (aV v_1a) fun a_1b=>aq (az P H_15 3 a_1b) fun v_1c=>
binK P .gtr 3 (.tmp 77) (.tmp 79) v_19 v_1c fun v_1d=>
ifK v_1d (
getK (wj H_15 D) fun H_1g=>
some ((Value.tuple ⟨[(.slice none 0 0),(.bool false)]⟩),H_1g,n_12)) (
aq (aw P 90 v_10 0) fun v_1h=>
aq (aV v_1h) fun a_1i=>aq (az P H_15 3 a_1i) fun v_1j=>
aq (aJ P 118 u7 u70) fun v_1l=>
aq (aV v_1l) fun a_1m=>aq (az P H_15 3 a_1m) fun v_1n=>
binK P .sub 3 (.tmp 82) (.tmp 85) v_1j v_1n fun v_1o=>
aq (zj P 44 1 [(0,(.int .i64 0))]) fun q_1r=>newK q_1r.1 q_1r.2 H_15 n_12 fun H_1p n_1q=>
aX P cal 106 [v_1o,(.slice (some ⟨n_12,0,none⟩) 1 1)] H_1p n_1q fun v_1s H_1t n_1u=>
binK P .add 3 (.tmp 89) (.tmp 90) u14 v_1s fun v_1y=>
aq (aV u6) fun a_21=>aq (az P H_1t 160 a_21) fun v_20=>
binK P .add 3 (.const (.int .i64 8)) (.tmp 93) (.int .i64 8) u70 fun v_23=>
aq (fK P 162 [(0,v_23),(1,(.int .i64 17))]) fun v_24=>
aq (BZ P 160 v_20 v_24 v_1s H_1t) fun H_27=>
binK P .add 3 (.tmp 70) (.const (.int .i64 1)) u70 (.int .i64 1) fun v_28=>
b3 u0 u3 u6 u7 u8 v_1y u68 u69 v_28 H_27 n_1u D)) (
aq (aV u6) fun a_2b=>aq (az P H 160 a_2b) fun v_2a=>
aX P cal 107 [v_2a] H n fun v_2c H_2d n_2e=>
binK P .neq 3 (.tmp 99) (.tmp 100) v_2c u14 fun v_2g=>
ifK v_2g (
getK (wj H_2d D) fun H_2j=>
some ((Value.tuple ⟨[(.slice none 0 0),(.bool false)]⟩),H_2j,n_2e)) (
aq (nilV u0) fun v_2l=>
aq (aw P 115 v_2l 0) fun v_2m=>
aq (aw P 35 v_2m 0) fun v_2n=>
aq (aV v_2n) fun a_2p=>aq (az P H_2d 31 a_2p) fun v_2o=>
aq (lenV P 31 v_2o) fun v_2q=>
j4 u0 u3 u6 u7 u8 u14 v_2o v_2q (.int .i64 0) H_2d n_2e D))
noncomputable def C78_3(k:Nat)(m1:Nat)(b3:W9 (Value × Hp × Nat))(u0 u3 u6 u7 u8 u14 u68 u69 u70:Value)(H:Hp)(n:Nat)(D:List Nat):Option (Value × Hp × Nat):=B78_3 cal k m1 (S78_4 cal k k) b3 u0 u3 u6 u7 u8 u14 u68 u69 u70 H n D
noncomputable def S78_3(k:Nat):Nat→W9 (Value × Hp × Nat):=fun m=>Nat.rec (motive:=fun _=>W9 (Value × Hp × Nat)) (C78_3 cal k 0 (fun _ _ _ _ _ _ _ _ _ _ _ _=>none)) (fun m ih=>C78_3 cal k (m+1) ih) m
theorem h78_3(k:Nat)(m1:Nat)(u0 u3 u6 u7 u8 u14 u68 u69 u70:Value)(H:Hp)(n:Nat)(D:List Nat):labK (E78_3 cal k m1) (ts (ts (ts (ts (ts (ts (ts (ts (ts Tr.nil 70 u70) 69 u69) 68 u68) 14 u14) 8 u8) 7 u7) 6 u6) 3 u3) 0 u0) H n D=C78_3 cal k m1 (R78_3 cal k m1) u0 u3 u6 u7 u8 u14 u68 u69 u70 H n D:=by
 refine Eq.trans (b:=B78_3 cal k m1 (fun u0 u3 u6 u7 u8 u14 u106 u107 u108 H n D=>labK (E78_4 cal k k) (ts (ts (ts (ts (ts (ts (ts (ts (ts Tr.nil 108 u108) 107 u107) 106 u106) 14 u14) 8 u8) 7 u7) 6 u6) 3 u3) 0 u0) H n D) (R78_3 cal k m1) u0 u3 u6 u7 u8 u14 u68 u69 u70 H n D) (by kernel_rfl) ?_
 rw[C78_3]
 have e4:(fun u0 u3 u6 u7 u8 u14 u106 u107 u108 H n D=>labK (E78_4 cal k k) (ts (ts (ts (ts (ts (ts (ts (ts (ts Tr.nil 108 u108) 107 u107) 106 u106) 14 u14) 8 u8) 7 u7) 6 u6) 3 u3) 0 u0) H n D)=(S78_4 cal k k):=by funext u0 u3 u6 u7 u8 u14 u106 u107 u108 H n D; exact q78_4 ..
 rw[e4]
theorem q78_3(k:Nat):∀(m:Nat) (u0 u3 u6 u7 u8 u14 u68 u69 u70:Value) (H:Hp) (n:Nat) (D:List Nat),labK (E78_3 cal k m) (ts (ts (ts (ts (ts (ts (ts (ts (ts Tr.nil 70 u70) 69 u69) 68 u68) 14 u14) 8 u8) 7 u7) 6 u6) 3 u3) 0 u0) H n D=S78_3 cal k m u0 u3 u6 u7 u8 u14 u68 u69 u70 H n D
 | 0,u0,u3,u6,u7,u8,u14,u68,u69,u70,H,n,D=>by
  rw[h78_3]
  have e:R78_3 cal k 0=fun _ _ _ _ _ _ _ _ _ _ _ _=>none:=by funext u0 u3 u6 u7 u8 u14 u68 u69 u70 H n D; kernel_rfl
  rw[e]; rfl
 | m+1,u0,u3,u6,u7,u8,u14,u68,u69,u70,H,n,D=>by
  rw[h78_3]
  have e:R78_3 cal k (m+1)=S78_3 cal k m:=by
   funext u0 u3 u6 u7 u8 u14 u68 u69 u70 H n D
   have e:R78_3 cal k (m+1) u0 u3 u6 u7 u8 u14 u68 u69 u70 H n D=labK (E78_3 cal k m) (ts (ts (ts (ts (ts (ts (ts (ts (ts Tr.nil 70 u70) 69 u69) 68 u68) 14 u14) 8 u8) 7 u7) 6 u6) 3 u3) 0 u0) H n D:=by kernel_rfl
   rw[e]; exact q78_3 ..
  rw[e]; rfl
noncomputable def B78_2(cal:Cal)(k:Nat)(j3:W9 (Value × Hp × Nat))(u0 u3 u6 u7 u8 u23:Value)(H:Hp)(n:Nat)(D:List Nat):Option (Value × Hp × Nat):=
aq (nilV u0) fun v_o=>
aq (aw P 115 v_o 0) fun v_p=>
aq (aw P 35 v_p 0) fun v_q=>
aq (aV v_q) fun a_s=>aq (az P H 31 a_s) fun v_r=>
aq (lenV P 31 v_r) fun v_t=>
j3 u0 u3 u6 u7 u8 (.int .i64 0) v_r v_t (.int .i64 0) H n D
noncomputable def C78_2(k:Nat)(u0 u3 u6 u7 u8 u23:Value)(H:Hp)(n:Nat)(D:List Nat):Option (Value × Hp × Nat):=B78_2 cal k (S78_3 cal k k) u0 u3 u6 u7 u8 u23 H n D
theorem h78_2(k:Nat)(u0 u3 u6 u7 u8 u23:Value)(H:Hp)(n:Nat)(D:List Nat):labK (E78_2 cal k) (ts (ts (ts (ts (ts (ts Tr.nil 23 u23) 8 u8) 7 u7) 6 u6) 3 u3) 0 u0) H n D=C78_2 cal k u0 u3 u6 u7 u8 u23 H n D:=by
 refine Eq.trans (b:=B78_2 cal k (fun u0 u3 u6 u7 u8 u14 u68 u69 u70 H n D=>labK (E78_3 cal k k) (ts (ts (ts (ts (ts (ts (ts (ts (ts Tr.nil 70 u70) 69 u69) 68 u68) 14 u14) 8 u8) 7 u7) 6 u6) 3 u3) 0 u0) H n D) u0 u3 u6 u7 u8 u23 H n D) (by kernel_rfl) ?_
 rw[C78_2]
 have e3:(fun u0 u3 u6 u7 u8 u14 u68 u69 u70 H n D=>labK (E78_3 cal k k) (ts (ts (ts (ts (ts (ts (ts (ts (ts Tr.nil 70 u70) 69 u69) 68 u68) 14 u14) 8 u8) 7 u7) 6 u6) 3 u3) 0 u0) H n D)=(S78_3 cal k k):=by funext u0 u3 u6 u7 u8 u14 u68 u69 u70 H n D; exact q78_3 ..
 rw[e3]
noncomputable def B78_1(cal:Cal)(k:Nat)(u0 u3 u6 u7 u8 u23:Value)(H:Hp)(n:Nat)(D:List Nat):Option (Value × Hp × Nat):=
EZ P cal none 78 u23 #[24,25] tW jZ (yJ cal k) (LW cal k) (av P bV) (ts (ts (ts (ts (ts (ts Tr.nil 23 u23) 8 u8) 7 u7) 6 u6) 3 u3) 0 u0) H n D
noncomputable def C78_1(k:Nat)(u0 u3 u6 u7 u8 u23:Value)(H:Hp)(n:Nat)(D:List Nat):Option (Value × Hp × Nat):=B78_1 cal k u0 u3 u6 u7 u8 u23 H n D
theorem h78_1(k:Nat)(u0 u3 u6 u7 u8 u23:Value)(H:Hp)(n:Nat)(D:List Nat):labK (E78_1 cal k) (ts (ts (ts (ts (ts (ts Tr.nil 23 u23) 8 u8) 7 u7) 6 u6) 3 u3) 0 u0) H n D=C78_1 cal k u0 u3 u6 u7 u8 u23 H n D:=by
 refine Eq.trans (b:=B78_1 cal k u0 u3 u6 u7 u8 u23 H n D) (by kernel_rfl) ?_
 rw[C78_1]
noncomputable def B78_0(cal:Cal)(k:Nat)(j1:W6 (Value × Hp × Nat))(v0 v1:Value)(H:Hp)(n:Nat)(D:List Nat):Option (Value × Hp × Nat):=
boxK 119 v1 H n fun v_1 H_2 n_3=>
newMapK H_2 n_3 fun v_6 H_7 n_8=>
eQ P 160 H_7 n_8 fun v_9 H_a n_b=>
aq (bX P 160 v_9 v_6 H_a) fun H_d=>
eQ P 118 H_d n_b fun v_e H_f n_g=>
eQ P 3 H_f n_g fun v_h H_i n_j=>
aq (bX P 3 v_h (.int .i64 0) H_i) fun H_l=>
aq (aV v_1) fun a_4v=>aq (az P H_l 119 a_4v) fun v_4u=>
aX P cal 74 [v0,v_4u] H_l n_j fun v_4w H_4x n_4y=>
j1 v0 v_1 v_9 v_e v_h v_4w H_4x n_4y D
noncomputable def C78_0(k:Nat)(v0 v1:Value)(H:Hp)(n:Nat)(D:List Nat):Option (Value × Hp × Nat):=B78_0 cal k (C78_1 cal k) v0 v1 H n D
theorem h78_0(k:Nat)(v0 v1:Value)(H:Hp)(n:Nat)  : aY P cal A (k+1) 78 [v0,v1] H n=C78_0 cal k v0 v1 H n []:=by
 have h:aY P cal A (k+1) 78 [v0,v1] H n=B78_0 cal k (fun u0 u3 u6 u7 u8 u23 H n D=>labK (E78_1 cal k) (ts (ts (ts (ts (ts (ts Tr.nil 23 u23) 8 u8) 7 u7) 6 u6) 3 u3) 0 u0) H n D) v0 v1 H n []:=by
  rw[bY (fn:=Go.Proofs.Try.f78) (c:=gq) (rs:=bV) (by kernel_rfl) (by kernel_rfl) (by kernel_rfl) (by kernel_rfl)]
  kernel_rfl
 rw[h,C78_0]
 have e1:(fun u0 u3 u6 u7 u8 u23 H n D=>labK (E78_1 cal k) (ts (ts (ts (ts (ts (ts Tr.nil 23 u23) 8 u8) 7 u7) 6 u6) 3 u3) 0 u0) H n D)=(C78_1 cal k):=by funext u0 u3 u6 u7 u8 u23 H n D; exact h78_1 ..
 rw[e1]
noncomputable def K78a0_p(k:Nat)(lp:Nat):KC (Ex × St):=(cutK (Lv.leaf).c (cj P cal (aK P cal k) (some lp) 78 (cR tW) (Lb (Lv.leaf)) KNb XNb KRb))
noncomputable def B78a0_0(cal:Cal)(k:Nat)(lp:Nat)(v0 v3 v6 v7 v8 v23 v24 v25:Value)(H:Hp)(n:Nat)(D:List Nat):Option (Ex × St):=
eQ P 111 H n fun v_50 H_51 n_52=>
aq (bX P 111 v_50 v25 H_51) fun H_54=>
some (.norm,{ T:=(Tr.set (Tr.set (Tr.set (Tr.set (Tr.set (Tr.set (Tr.set (Tr.set (Tr.set (Tr.set Tr.nil 25 (some v25)) 24 (some v24)) 23 (some v23)) 10 (some v_50)) 9 (some v24)) 8 (some v8)) 7 (some v7)) 6 (some v6)) 3 (some v3)) 0 (some v0)),H:=H_54,n:=n_52,D:=D })
noncomputable def C78a0_0(k:Nat)(lp:Nat)(v0 v3 v6 v7 v8 v23 v24 v25:Value)(H:Hp)(n:Nat)(D:List Nat):Option (Ex × St):=B78a0_0 cal k lp v0 v3 v6 v7 v8 v23 v24 v25 H n D
theorem h78a0_0(k:Nat)(lp:Nat)(v0 v3 v6 v7 v8 v23 v24 v25:Value)(H:Hp)(n:Nat)(D:List Nat):aK P cal (k+1) (Lv.leaf) (some lp) 78 tW KNb XNb KRb (Tr.set (Tr.set (Tr.set (Tr.set (Tr.set (Tr.set (Tr.set (Tr.set Tr.nil 25 (some v25)) 24 (some v24)) 23 (some v23)) 8 (some v8)) 7 (some v7)) 6 (some v6)) 3 (some v3)) 0 (some v0)) H n D=C78a0_0 cal k lp v0 v3 v6 v7 v8 v23 v24 v25 H n D:=by
 have h:aK P cal (k+1) (Lv.leaf) (some lp) 78 tW KNb XNb KRb (Tr.set (Tr.set (Tr.set (Tr.set (Tr.set (Tr.set (Tr.set (Tr.set Tr.nil 25 (some v25)) 24 (some v24)) 23 (some v23)) 8 (some v8)) 7 (some v7)) 6 (some v6)) 3 (some v3)) 0 (some v0)) H n D=B78a0_0 cal k lp v0 v3 v6 v7 v8 v23 v24 v25 H n D:=by kernel_rfl
 rw[h,C78a0_0]
noncomputable def OW(cal:Cal)(k:Nat)(lp:Nat):XC (Ex × St):=(upX 1 KNb XNb)
noncomputable def K78b0_pl(k:Nat)(lp:Nat):KC (Ex × St):=(cutK (La (A 131150)).c (cj P cal (aK P cal k) (some lp) 78 (cR (cL jZ)) (Lb (La (A 131150))) KNb (OW cal k lp) KRb))
noncomputable def K78b0_plr(k:Nat)(lp:Nat):KC (Ex × St):=(cutK (Lb (La (A 131150))).c (cj P cal (aK P cal k) (some lp) 78 (cR (cR (cL jZ))) (Lb (Lb (La (A 131150)))) KNb (OW cal k lp) KRb))
noncomputable def K78b0_plrr(k:Nat)(lp:Nat):KC (Ex × St):=(cutK (Lb (Lb (La (A 131150)))).c (cj P cal (aK P cal k) (some lp) 78 (cR (cR (cR (cL jZ)))) (Lb (Lb (Lb (La (A 131150))))) KNb (OW cal k lp) KRb))
noncomputable def K78b0_plrrr(k:Nat)(lp:Nat):KC (Ex × St):=(cutK (Lb (Lb (Lb (La (A 131150))))).c (cj P cal (aK P cal k) (some lp) 78 (cR (cR (cR (cR (cL jZ))))) (Lb (Lb (Lb (Lb (La (A 131150)))))) KNb (OW cal k lp) KRb))
noncomputable def qV(k:Nat)(lp:Nat):XC (Ex × St):=(upX 2 KNb (OW cal k lp))
noncomputable def Cv(k:Nat)(lp:Nat)(m1:Nat):KC (Ex × St):=(fun T H n D=>aK P cal m1 (La (Lb (Lb (Lb (Lb (La (A 131150))))))) (some lp) 78 (cL (cR (cR (cR (cR (cL jZ)))))) KNb (qV cal k lp) KRb (cutT (La (Lb (Lb (Lb (Lb (La (A 131150))))))).c T) H n D)
noncomputable def K78b0_plrrrrll(k:Nat)(lp:Nat)(m1:Nat):KC (Ex × St):=(cutK (La (La (Lb (Lb (Lb (Lb (La (A 131150)))))))).c (cj P cal (aK P cal m1) (some lp) 78 (cR (cL (cL (cR (cR (cR (cR (cL jZ)))))))) (Lb (La (La (Lb (Lb (Lb (Lb (La (A 131150))))))))) (Cv cal k lp m1) (qV cal k lp) KRb))
noncomputable def K78b0_plrrrrllr(k:Nat)(lp:Nat)(m1:Nat):KC (Ex × St):=(cutK (Lb (La (La (Lb (Lb (Lb (Lb (La (A 131150))))))))).c (cj P cal (aK P cal m1) (some lp) 78 (cR (cR (cL (cL (cR (cR (cR (cR (cL jZ))))))))) (Lb (Lb (La (La (Lb (Lb (Lb (Lb (La (A 131150)))))))))) (Cv cal k lp m1) (qV cal k lp) KRb))
noncomputable def Bz(k:Nat)(lp:Nat)(m1:Nat):KC (Ex × St):=(cutK (Lb (Lb (La (La (Lb (Lb (Lb (Lb (La (A 131150)))))))))).c (cj P cal (aK P cal m1) (some lp) 78 (cR (cR (cR (cL (cL (cR (cR (cR (cR (cL jZ)))))))))) (Lb (Lb (Lb (La (La (Lb (Lb (Lb (Lb (La (A 131150))))))))))) (Cv cal k lp m1) (qV cal k lp) KRb))
noncomputable def K78b0_pxlrrrrllrrl(k:Nat)(lp:Nat)(m1:Nat):XC (Ex × St):=(upX 3 (Bz cal k lp m1) (qV cal k lp))
noncomputable def K78b0_plrrrrllrrll(k:Nat)(lp:Nat)(m1:Nat):KC (Ex × St):=(cutK (La (La (Lb (Lb (La (La (Lb (Lb (Lb (Lb (La (A 131150)))))))))))).c (cj P cal (aK P cal m1) (some lp) 78 (cR (cL (cL (cR (cR (cL (cL (cR (cR (cR (cR (cL jZ)))))))))))) (Lb (La (La (Lb (Lb (La (La (Lb (Lb (Lb (Lb (La (A 131150))))))))))))) (Bz cal k lp m1) (K78b0_pxlrrrrllrrl cal k lp m1) KRb))
noncomputable def K78b0_plrrrrllrrllr(k:Nat)(lp:Nat)(m1:Nat):KC (Ex × St):=(cutK (Lb (La (La (Lb (Lb (La (La (Lb (Lb (Lb (Lb (La (A 131150))))))))))))).c (cj P cal (aK P cal m1) (some lp) 78 (cR (cR (cL (cL (cR (cR (cL (cL (cR (cR (cR (cR (cL jZ))))))))))))) (Lb (Lb (La (La (Lb (Lb (La (La (Lb (Lb (Lb (Lb (La (A 131150)))))))))))))) (Bz cal k lp m1) (K78b0_pxlrrrrllrrl cal k lp m1) KRb))
noncomputable def QZ(k:Nat)(lp:Nat)(m1:Nat):KC (Ex × St):=cj P cal (aK P cal m1) (some lp) 78 (cL (cL (cR (cR (cR (cR (cL jZ))))))) (La (La (Lb (Lb (Lb (Lb (La (A 131150)))))))) (Cv cal k lp m1) (qV cal k lp) KRb
noncomputable def VK(k:Nat)(lp:Nat)(m1:Nat):W5 (Ex × St):=fun u6 u7 u9 u40 u41 H n D=>aK P cal m1 (La (Lb (Lb (Lb (Lb (La (A 131150))))))) (some lp) 78 (cL (cR (cR (cR (cR (cL jZ)))))) KNb (qV cal k lp) KRb (ts (ts (ts (ts (ts Tr.nil 41 u41) 40 u40) 9 u9) 7 u7) 6 u6) H n D
noncomputable def B78b0_1(cal:Cal)(k:Nat)(lp:Nat)(m1:Nat)(b1:W5 (Ex × St))(u6 u7 u9 u40 u41:Value)(H:Hp)(n:Nat)(D:List Nat):Option (Ex × St):=
binK P .lss 3 (.tmp 41) (.const (.int .i64 8)) u41 (.int .i64 8) fun v_63=>
ifK v_63 (
aq (EJ P 109 u40 u41) fun v_65=>
eQ P 53 H n fun v_66 H_67 n_68=>
aq (bX P 53 v_66 v_65 H_67) fun H_6b=>
aq (aV u6) fun a_6d=>aq (az P H_6b 160 a_6d) fun v_6c=>
binK P .add 3 (.const (.int .i64 0)) (.tmp 46) (.int .i64 0) u9 fun v_6f=>
binK P .add 3 (.const (.int .i64 8)) (.tmp 48) (.int .i64 8) u41 fun v_6h=>
aq (fK P 162 [(0,v_6f),(1,v_6h)]) fun v_6i=>
aq (aw P 53 v_66 1) fun v_6j=>
aq (aV v_6j) fun a_6l=>aq (az P H_6b 3 a_6l) fun v_6k=>
aq (aw P 53 v_66 0) fun v_6m=>
aq (aV v_6m) fun a_6o=>aq (az P H_6b 3 a_6o) fun v_6n=>
binK P .sub 3 (.tmp 52) (.tmp 54) v_6k v_6n fun v_6p=>
aq (BZ P 160 v_6c v_6i v_6p H_6b) fun H_6r=>
aq (aJ P 118 u7 u41) fun v_6t=>
aq (aV v_6t) fun a_6u=>aq (az P H_6r 3 a_6u) fun v_6v=>
aq (aw P 53 v_66 0) fun v_6w=>
aq (aV v_6w) fun a_6x=>aq (az P H_6r 3 a_6x) fun v_6y=>
binK P .add 3 (.tmp 58) (.tmp 60) v_6v v_6y fun v_6z=>
aq (aJ P 118 u7 u41) fun v_70=>
aq (bX P 3 v_70 v_6z H_6r) fun H_72=>
binK P .add 3 (.tmp 41) (.const (.int .i64 1)) u41 (.int .i64 1) fun v_73=>
b1 u6 u7 u9 u40 v_73 H_72 n_68 D) (
some (.norm,{ T:=(ts (ts (ts (ts (ts (Tr.set Tr.nil 42 (some v_63)) 41 u41) 40 u40) 9 u9) 7 u7) 6 u6),H:=H,n:=n,D:=D }))
noncomputable def QK(k:Nat)(lp:Nat)(m1:Nat)(b1:W5 (Ex × St))(u6 u7 u9 u40 u41:Value)(H:Hp)(n:Nat)(D:List Nat):Option (Ex × St):=B78b0_1 cal k lp m1 b1 u6 u7 u9 u40 u41 H n D
noncomputable def Rj(k:Nat)(lp:Nat):Nat→W5 (Ex × St):=fun m=>Nat.rec (motive:=fun _=>W5 (Ex × St)) (QK cal k lp 0 (fun _ _ _ _ _ _ _ _=>none)) (fun m ih=>QK cal k lp (m+1) ih) m
theorem h78b0_1(k:Nat)(lp:Nat)(m1:Nat)(u6 u7 u9 u40 u41:Value)(H:Hp)(n:Nat)(D:List Nat):labK (QZ cal k lp m1) (ts (ts (ts (ts (ts Tr.nil 41 u41) 40 u40) 9 u9) 7 u7) 6 u6) H n D=QK cal k lp m1 (VK cal k lp m1) u6 u7 u9 u40 u41 H n D:=by
 have h:labK (QZ cal k lp m1) (ts (ts (ts (ts (ts Tr.nil 41 u41) 40 u40) 9 u9) 7 u7) 6 u6) H n D=B78b0_1 cal k lp m1 (VK cal k lp m1) u6 u7 u9 u40 u41 H n D:=by kernel_rfl
 rw[h,QK]
theorem q78b0_1(k:Nat)(lp:Nat):∀(m:Nat) (u6 u7 u9 u40 u41:Value) (H:Hp) (n:Nat) (D:List Nat),labK (QZ cal k lp m) (ts (ts (ts (ts (ts Tr.nil 41 u41) 40 u40) 9 u9) 7 u7) 6 u6) H n D=Rj cal k lp m u6 u7 u9 u40 u41 H n D
 | 0,u6,u7,u9,u40,u41,H,n,D=>by
  rw[h78b0_1]
  have e:VK cal k lp 0=fun _ _ _ _ _ _ _ _=>none:=by funext u6 u7 u9 u40 u41 H n D; kernel_rfl
  rw[e]; rfl
 | m+1,u6,u7,u9,u40,u41,H,n,D=>by
  rw[h78b0_1]
  have e:VK cal k lp (m+1)=Rj cal k lp m:=by
   funext u6 u7 u9 u40 u41 H n D
   have e:VK cal k lp (m+1) u6 u7 u9 u40 u41 H n D=labK (QZ cal k lp m) (ts (ts (ts (ts (ts Tr.nil 41 u41) 40 u40) 9 u9) 7 u7) 6 u6) H n D:=by kernel_rfl
   rw[e]; exact q78b0_1 ..
  rw[e]; rfl
noncomputable def B78b0_0(cal:Cal)(k:Nat)(lp:Nat)(j1:W5 (Ex × St))(v0 v3 v6 v7 v8 v9 v10 v23 v24 v25:Value)(H:Hp)(n:Nat)(D:List Nat):Option (Ex × St):=
aq (aw P 111 v10 0) fun v_55=>
aq (aV v_55) fun a_56=>aq (az P H 3 a_56) fun v_57=>
aq (aV v10) fun a_58=>aq (az P H 111 a_58) fun v_59=>
effK P [(.l 3 a_56)] H n (fun H_5a n_5b k_5c=>
aX P cal 98 [v_59,(Value.func (.func 72) #[] #[])] H_5a n_5b fun v_5g H_5h n_5i=>
k_5c v_5g H_5h n_5i) fun v_5d H_5e n_5f=>
binK P .sub 3 (.tmp 27) (.tmp 29) v_57 v_5d fun v_5j=>
aq (aV v8) fun a_5m=>aq (az P H_5e 3 a_5m) fun v_5l=>
binK P .add 3 (.tmp 31) (.tmp 32) v_5l v_5j fun v_5o=>
aq (bX P 3 v8 v_5o H_5e) fun H_5q=>
aq (aV v6) fun a_5s=>aq (az P H_5q 160 a_5s) fun v_5r=>
binK P .add 3 (.const (.int .i64 0)) (.tmp 35) (.int .i64 0) v9 fun v_5u=>
aq (fK P 162 [(0,(.int .i64 16)),(1,v_5u)]) fun v_5v=>
aq (BZ P 160 v_5r v_5v v_5j H_5q) fun H_5y=>
aq (aw P 111 v10 1) fun v_5z=>
aq (aV v_5z) fun a_61=>aq (az P H_5y 109 a_61) fun v_60=>
j1 v6 v7 v9 v_60 (.int .i64 0) H_5y n_5f D
noncomputable def C78b0_0(k:Nat)(lp:Nat)(v0 v3 v6 v7 v8 v9 v10 v23 v24 v25:Value)(H:Hp)(n:Nat)(D:List Nat):Option (Ex × St):=B78b0_0 cal k lp (Rj cal k lp k) v0 v3 v6 v7 v8 v9 v10 v23 v24 v25 H n D
theorem h78b0_0(k:Nat)(lp:Nat)(v0 v3 v6 v7 v8 v9 v10 v23 v24 v25:Value)(H:Hp)(n:Nat)(D:List Nat):aK P cal (k+1) (A 131150) (some lp) 78 jZ KNb XNb KRb (Tr.set (Tr.set (Tr.set (Tr.set (Tr.set (Tr.set (Tr.set (Tr.set (Tr.set (Tr.set Tr.nil 25 (some v25)) 24 (some v24)) 23 (some v23)) 10 (some v10)) 9 (some v9)) 8 (some v8)) 7 (some v7)) 6 (some v6)) 3 (some v3)) 0 (some v0)) H n D=C78b0_0 cal k lp v0 v3 v6 v7 v8 v9 v10 v23 v24 v25 H n D:=by
 have h:aK P cal (k+1) (A 131150) (some lp) 78 jZ KNb XNb KRb (Tr.set (Tr.set (Tr.set (Tr.set (Tr.set (Tr.set (Tr.set (Tr.set (Tr.set (Tr.set Tr.nil 25 (some v25)) 24 (some v24)) 23 (some v23)) 10 (some v10)) 9 (some v9)) 8 (some v8)) 7 (some v7)) 6 (some v6)) 3 (some v3)) 0 (some v0)) H n D=B78b0_0 cal k lp (fun u6 u7 u9 u40 u41 H n D=>labK (QZ cal k lp k) (ts (ts (ts (ts (ts Tr.nil 41 u41) 40 u40) 9 u9) 7 u7) 6 u6) H n D) v0 v3 v6 v7 v8 v9 v10 v23 v24 v25 H n D:=by kernel_rfl
 rw[h,C78b0_0]
 have e1:(fun u6 u7 u9 u40 u41 H n D=>labK (QZ cal k lp k) (ts (ts (ts (ts (ts Tr.nil 41 u41) 40 u40) 9 u9) 7 u7) 6 u6) H n D)=(Rj cal k lp k):=by funext u6 u7 u9 u40 u41 H n D; exact q78b0_1 ..
 rw[e1]
noncomputable def ry:Code:=dj 79
noncomputable def fW:List ResultVar:=fk 79
noncomputable def K79_p:KR:=kD cal k 79 ry (A 79) (av P fW) X0 (av P fW)
noncomputable def K79_pr:KR:=kD cal k 79 (cR ry) (Lb (A 79)) (av P fW) X0 (av P fW)
noncomputable def K79_prl:KR:=kD cal k 79 (cL (cR ry)) (La (Lb (A 79))) (K79_pr cal k) X0 (av P fW)
noncomputable def K79_prlrl:KR:=kD cal k 79 (cL (cR (cL (cR ry)))) (La (Lb (La (Lb (A 79))))) (K79_pr cal k) X0 (av P fW)
noncomputable def qfk:KR:=kD cal k 79 (cR (cR ry)) (Lb (Lb (A 79))) (av P fW) X0 (av P fW)
noncomputable def K79_prrl:KR:=kD cal k 79 (cL (cR (cR ry))) (La (Lb (Lb (A 79)))) (qfk cal k) X0 (av P fW)
noncomputable def xQ(k:Nat):XR:=(upX 0 (qfk cal k) X0)
noncomputable def LX(k:Nat)(m1:Nat):KR:=(fun T H n D=>aK P cal m1 (La (Lb (La (Lb (Lb (A 79)))))) none 79 (cL (cR (cL (cR (cR ry))))) (qfk cal k) (xQ cal k) (av P fW) (cutT (La (Lb (La (Lb (Lb (A 79)))))).c T) H n D)
noncomputable def K79_prrlrll(k:Nat)(m1:Nat):KR:=kD cal m1 79 (cL (cL (cR (cL (cR (cR ry)))))) (La (La (Lb (La (Lb (Lb (A 79))))))) (LX cal k m1) (xQ cal k) (av P fW)
noncomputable def K79_prrlrllr(k:Nat)(m1:Nat):KR:=kD cal m1 79 (cR (cL (cL (cR (cL (cR (cR ry))))))) (Lb (La (La (Lb (La (Lb (Lb (A 79)))))))) (LX cal k m1) (xQ cal k) (av P fW)
noncomputable def wJ(k:Nat)(m1:Nat):KR:=kD cal m1 79 (cR (cR (cL (cL (cR (cL (cR (cR ry)))))))) (Lb (Lb (La (La (Lb (La (Lb (Lb (A 79))))))))) (LX cal k m1) (xQ cal k) (av P fW)
noncomputable def pW(k:Nat)(m1:Nat):XR:=(upX 1 (wJ cal k m1) (xQ cal k))
noncomputable def K79_prrlrllrrll(k:Nat)(m1:Nat):KR:=kD cal m1 79 (cL (cL (cR (cR (cL (cL (cR (cL (cR (cR ry)))))))))) (La (La (Lb (Lb (La (La (Lb (La (Lb (Lb (A 79))))))))))) (wJ cal k m1) (pW cal k m1) (av P fW)
noncomputable def K79_prrlrllrrllr(k:Nat)(m1:Nat):KR:=kD cal m1 79 (cR (cL (cL (cR (cR (cL (cL (cR (cL (cR (cR ry))))))))))) (Lb (La (La (Lb (Lb (La (La (Lb (La (Lb (Lb (A 79)))))))))))) (wJ cal k m1) (pW cal k m1) (av P fW)
noncomputable def K79_prrlrllrrllrl(k:Nat)(m1:Nat):KR:=kD cal m1 79 (cL (cR (cL (cL (cR (cR (cL (cL (cR (cL (cR (cR ry)))))))))))) (La (Lb (La (La (Lb (Lb (La (La (Lb (La (Lb (Lb (A 79))))))))))))) (K79_prrlrllrrllr cal k m1) (pW cal k m1) (av P fW)
noncomputable def K79_prrlrllrrllrlrl(k:Nat)(m1:Nat):KR:=kD cal m1 79 (cL (cR (cL (cR (cL (cL (cR (cR (cL (cL (cR (cL (cR (cR ry)))))))))))))) (La (Lb (La (Lb (La (La (Lb (Lb (La (La (Lb (La (Lb (Lb (A 79))))))))))))))) (K79_prrlrllrrllr cal k m1) (pW cal k m1) (av P fW)
noncomputable def K79_prrlrllrrllrr(k:Nat)(m1:Nat):KR:=kD cal m1 79 (cR (cR (cL (cL (cR (cR (cL (cL (cR (cL (cR (cR ry)))))))))))) (Lb (Lb (La (La (Lb (Lb (La (La (Lb (La (Lb (Lb (A 79))))))))))))) (wJ cal k m1) (pW cal k m1) (av P fW)
noncomputable def K79_prrlrllrrllrrrl(k:Nat)(m1:Nat):KR:=kD cal m1 79 (cL (cR (cR (cR (cL (cL (cR (cR (cL (cL (cR (cL (cR (cR ry)))))))))))))) (La (Lb (Lb (Lb (La (La (Lb (Lb (La (La (Lb (La (Lb (Lb (A 79))))))))))))))) (wJ cal k m1) (pW cal k m1) (av P fW)
noncomputable def K79_prrr:KR:=kD cal k 79 (cR (cR (cR ry))) (Lb (Lb (Lb (A 79)))) (av P fW) X0 (av P fW)
noncomputable def E79_1(k m1:Nat):KR:=cj P cal (aK P cal m1) none 79 (cL (cL (cR (cL (cR (cR ry)))))) (La (La (Lb (La (Lb (Lb (A 79))))))) (LX cal k m1) (xQ cal k) (av P fW)
noncomputable def R79_1(k m1:Nat):V5:=fun u0 u2 u24 u25 u26 H n=>aK P cal m1 (La (Lb (La (Lb (Lb (A 79)))))) none 79 (cL (cR (cL (cR (cR ry))))) (qfk cal k) (xQ cal k) (av P fW) (ts (ts (ts (ts (ts Tr.nil 26 u26) 25 u25) 24 u24) 2 u2) 0 u0) H n []
noncomputable def B79_1(cal:Cal)(k m1:Nat)(b1:V5)(u0 u2 u24 u25 u26:Value)(H:Hp)(n:Nat):Res:=
binK P .lss 3 (.tmp 26) (.tmp 25) u26 u25 fun v_q=>
ifK v_q (
aq (aJ P 44 u24 u26) fun v_s=>
aq (aV v_s) fun a_u=>aq (az P H 3 a_u) fun v_t=>
binK P .eql 3 (.tmp 31) (.const (.int .i64 (-1))) v_t (.int .i64 (-1)) fun v_y=>
aQ v_y true (fun k_10=>
k_10 u2 H n) H n fun v_11 H_12 n_13=>
aQ v_y true (fun k_15=>
k_15 u26 H_12 n_13) H_12 n_13 fun v_16 H_17 n_18=>
aQ v_y true (fun k_1a=>
aq (aJ P 59 v_11 v_16) fun v_1e=>
k_1a v_1e H_17 n_18) H_17 n_18 fun v_1b H_1c n_1d=>
aQ v_y true (fun k_1f=>
aq (aV v_1b) fun a_1k=>aq (az P H_1c 44 a_1k) fun v_1j=>
k_1f v_1j H_1c n_1d) H_1c n_1d fun v_1g H_1h n_1i=>
aQ v_y true (fun k_1l=>
aq (lenV P 44 v_1g) fun v_1p=>
k_1l v_1p H_1h n_1i) H_1h n_1i fun v_1m H_1n n_1o=>
aQ v_y true (fun k_1q=>
binK P .gtr 3 (.tmp 38) (.const (.int .i64 0)) v_1m (.int .i64 0) fun v_1u=>
k_1q v_1u H_1n n_1o) H_1n n_1o fun v_1r H_1s n_1t=>
aq (fy v_y v_1r (.bool false)) fun v_1v=>
ifK v_1v (
some ((.bool false),H_1s,n_1t)) (
binK P .neq 3 (.tmp 41) (.const (.int .i64 (-1))) v_t (.int .i64 (-1)) fun v_1y=>
dJ v_1y true (fun k_20=>
k_20 u0 .p H_1s n_1t) .p H_1s n_1t fun v_21 x_22 H_23 n_24=>
dJ v_1y true (fun k_26=>
k_26 u26 .p H_23 n_24) .p H_23 n_24 fun v_27 x_28 H_29 n_2a=>
dJ v_1y true (fun k_2c=>
k_2c v_t .p H_29 n_2a) .p H_29 n_2a fun v_2d x_2e H_2f n_2g=>
dJ v_1y true (fun k_2i=>
aq (nilV v_21) fun v_2n=>
k_2i v_2n .p H_2f n_2g) .p H_2f n_2g fun v_2j x_2k H_2l n_2m=>
dJ v_1y true (fun k_2o=>
aq (aw P 115 v_2j 2) fun v_2t=>
k_2o v_2t .p H_2l n_2m) .p H_2l n_2m fun v_2p x_2q H_2r n_2s=>
dJ v_1y true (fun k_2u=>
aq (aJ P 113 v_2p v_27) fun v_2z=>
k_2u v_2z .p H_2r n_2s) .p H_2r n_2s fun v_2v x_2w H_2x n_2y=>
dJ v_1y true (fun k_30=>
aq (aJ P 112 v_2v v_2d) fun v_35=>
k_30 v_35 .p H_2x n_2y) .p H_2x n_2y fun v_31 x_32 H_33 n_34=>
dJ v_1y true (fun k_36=>
aq (aV v_31) fun a_3b=>aq (az P H_33 111 a_3b) fun v_3c=>
k_36 v_3c (.l 111 a_3b) H_33 n_34) .p H_33 n_34 fun v_37 x_38 H_39 n_3a=>
dJ v_1y true (fun k_3d=>
k_3d u2 .p H_39 n_3a) .p H_39 n_3a fun v_3e x_3f H_3g n_3h=>
dJ v_1y true (fun k_3j=>
k_3j u26 .p H_3g n_3h) .p H_3g n_3h fun v_3k x_3l H_3m n_3n=>
dJ v_1y true (fun k_3p=>
aq (aJ P 59 v_3e v_3k) fun v_3u=>
k_3p v_3u .p H_3m n_3n) .p H_3m n_3n fun v_3q x_3r H_3s n_3t=>
dJ v_1y true (fun k_3v=>
aq (aV v_3q) fun a_40=>aq (az P H_3s 44 a_40) fun v_41=>
k_3v v_41 (.l 44 a_40) H_3s n_3t) .p H_3s n_3t fun v_3w x_3x H_3y n_3z=>
dJ v_1y true (fun k_42=>
k_42 u0 .p H_3y n_3z) .p H_3y n_3z fun v_43 x_44 H_45 n_46=>
dJ v_1y true (fun k_48=>
aq (nilV v_43) fun v_4d=>
k_48 v_4d .p H_45 n_46) .p H_45 n_46 fun v_49 x_4a H_4b n_4c=>
dJ v_1y true (fun k_4e=>
aq (aw P 115 v_49 0) fun v_4j=>
k_4e v_4j .p H_4b n_4c) .p H_4b n_4c fun v_4f x_4g H_4h n_4i=>
dJ v_1y true (fun k_4k=>
aq (aw P 35 v_4f 0) fun v_4p=>
k_4k v_4p .p H_4h n_4i) .p H_4h n_4i fun v_4l x_4m H_4n n_4o=>
dJ v_1y true (fun k_4q=>
aq (aV v_4l) fun a_4v=>aq (az P H_4n 31 a_4v) fun v_4w=>
k_4q v_4w (.l 31 a_4v) H_4n n_4o) .p H_4n n_4o fun v_4r x_4s H_4t n_4u=>
dJ v_1y true (fun k_4x=>
aq (lenV P 31 v_4r) fun v_52=>
k_4x v_52 .p H_4t n_4u) .p H_4t n_4u fun v_4y x_4z H_50 n_51=>
dJ v_1y true (fun k_53=>
aX P cal 109 [v_37,v_3w,v_4y] H_50 n_51 fun v_58 H_59 n_5a=>
k_53 v_58 .e H_59 n_5a) .e H_50 n_51 fun v_54 x_55 H_56 n_57=>
dJ v_1y true (fun k_5b=>
aq (dX P v_54 (Op.unary UnOp.not v_54)) fun v_5g=>
k_5b v_5g .p H_56 n_57) .p H_56 n_57 fun v_5c x_5d H_5e n_5f=>
aq (fy v_1y v_5c (.bool false)) fun v_5h=>
ifK v_5h (
some ((.bool false),H_5e,n_5f)) (
binK P .add 3 (.tmp 26) (.const (.int .i64 1)) u26 (.int .i64 1) fun v_5j=>
b1 u0 u2 u24 u25 v_5j H_5e n_5f))) (
some ((.bool true),H,n))
noncomputable def C79_1(k m1:Nat)(b1:V5)(u0 u2 u24 u25 u26:Value)(H:Hp)(n:Nat):Res:=B79_1 cal k m1 b1 u0 u2 u24 u25 u26 H n
noncomputable def S79_1(k:Nat):Nat→V5:=fun m=>Nat.rec (motive:=fun _=>V5) (C79_1 cal k 0 (fun _ _ _ _ _ _ _=>none)) (fun m ih=>C79_1 cal k (m+1) ih) m
theorem h79_1(k m1:Nat)(u0 u2 u24 u25 u26:Value)(H:Hp)(n:Nat):labK (E79_1 cal k m1) (ts (ts (ts (ts (ts Tr.nil 26 u26) 25 u25) 24 u24) 2 u2) 0 u0) H n []=C79_1 cal k m1 (R79_1 cal k m1) u0 u2 u24 u25 u26 H n:=by
 refine Eq.trans (b:=B79_1 cal k m1 (R79_1 cal k m1) u0 u2 u24 u25 u26 H n) (by kernel_rfl) ?_
 rw[C79_1]
theorem q79_1(k:Nat):∀(m:Nat) (u0 u2 u24 u25 u26:Value) (H:Hp) (n:Nat),labK (E79_1 cal k m) (ts (ts (ts (ts (ts Tr.nil 26 u26) 25 u25) 24 u24) 2 u2) 0 u0) H n []=S79_1 cal k m u0 u2 u24 u25 u26 H n
 | 0,u0,u2,u24,u25,u26,H,n=>by
  rw[h79_1]
  have e:R79_1 cal k 0=fun _ _ _ _ _ _ _=>none:=by funext u0 u2 u24 u25 u26 H n; kernel_rfl
  rw[e]; rfl
 | m+1,u0,u2,u24,u25,u26,H,n=>by
  rw[h79_1]
  have e:R79_1 cal k (m+1)=S79_1 cal k m:=by
   funext u0 u2 u24 u25 u26 H n
   have e:R79_1 cal k (m+1) u0 u2 u24 u25 u26 H n=labK (E79_1 cal k m) (ts (ts (ts (ts (ts Tr.nil 26 u26) 25 u25) 24 u24) 2 u2) 0 u0) H n []:=by kernel_rfl
   rw[e]; exact q79_1 ..
  rw[e]; rfl
noncomputable def B79_0(cal:Cal)(k:Nat)(j1:V5)(v0 v1 v2:Value)(H:Hp)(n:Nat):Res:=
boxK 119 v1 H n fun v_1 H_2 n_3=>
aq (lenV P 59 v2) fun v_6=>
aq (nilV v0) fun v_8=>
aq (aw P 115 v_8 0) fun v_9=>
aq (aw P 35 v_9 0) fun v_a=>
aq (aV v_a) fun a_c=>aq (az P H_2 31 a_c) fun v_b=>
aq (lenV P 31 v_b) fun v_d=>
binK P .neq 3 (.tmp 10) (.tmp 16) v_6 v_d fun v_e=>
ifK v_e (
some ((.bool false),H_2,n_3)) (
aq (nilV v0) fun v_h=>
aq (aw P 115 v_h 0) fun v_i=>
aq (aw P 35 v_i 0) fun v_j=>
aq (aV v_j) fun a_l=>aq (az P H_2 31 a_l) fun v_k=>
aq (lenV P 31 v_k) fun v_m=>
aq (Kj P 119 v_1 none (some v_m)) fun v_n=>
aq (lenV P 44 v_n) fun v_o=>
j1 v0 v2 v_n v_o (.int .i64 0) H_2 n_3)
noncomputable def C79_0(k:Nat)(v0 v1 v2:Value)(H:Hp)(n:Nat):Res:=B79_0 cal k (S79_1 cal k k) v0 v1 v2 H n
theorem h79_0(k:Nat)(v0 v1 v2:Value)(H:Hp)(n:Nat):aY P cal A (k+1) 79 [v0,v1,v2] H n=C79_0 cal k v0 v1 v2 H n:=by
 have h:aY P cal A (k+1) 79 [v0,v1,v2] H n=B79_0 cal k (fun u0 u2 u24 u25 u26 H n=>labK (E79_1 cal k k) (ts (ts (ts (ts (ts Tr.nil 26 u26) 25 u25) 24 u24) 2 u2) 0 u0) H n []) v0 v1 v2 H n:=by
  rw[bY (fn:=Go.Proofs.Try.f79) (c:=ry) (rs:=fW) (by kernel_rfl) (by kernel_rfl) (by kernel_rfl) (by kernel_rfl)]
  kernel_rfl
 rw[h,C79_0]
 have e1:(fun u0 u2 u24 u25 u26 H n=>labK (E79_1 cal k k) (ts (ts (ts (ts (ts Tr.nil 26 u26) 25 u25) 24 u24) 2 u2) 0 u0) H n [])=(S79_1 cal k k):=by funext u0 u2 u24 u25 u26 H n; exact q79_1 ..
 rw[e1]
noncomputable def jW:Code:=dj 80
noncomputable def cW:List ResultVar:=fk 80
noncomputable def K80_p:KR:=kD cal k 80 jW (A 80) (av P cW) X0 (av P cW)
noncomputable def K80_pr:KR:=kD cal k 80 (cR jW) (Lb (A 80)) (av P cW) X0 (av P cW)
noncomputable def qfv:KR:=kD cal k 80 (cR (cR jW)) (Lb (Lb (A 80))) (av P cW) X0 (av P cW)
noncomputable def K80_prrl:KR:=kD cal k 80 (cL (cR (cR jW))) (La (Lb (Lb (A 80)))) (qfv cal k) X0 (av P cW)
noncomputable def xV(k:Nat):XR:=(upX 0 (qfv cal k) X0)
noncomputable def LY(k:Nat)(m1:Nat):KR:=(fun T H n D=>aK P cal m1 (La (Lb (La (Lb (Lb (A 80)))))) none 80 (cL (cR (cL (cR (cR jW))))) (qfv cal k) (xV cal k) (av P cW) (cutT (La (Lb (La (Lb (Lb (A 80)))))).c T) H n D)
noncomputable def K80_prrlrll(k:Nat)(m1:Nat):KR:=kD cal m1 80 (cL (cL (cR (cL (cR (cR jW)))))) (La (La (Lb (La (Lb (Lb (A 80))))))) (LY cal k m1) (xV cal k) (av P cW)
noncomputable def K80_prrlrllr(k:Nat)(m1:Nat):KR:=kD cal m1 80 (cR (cL (cL (cR (cL (cR (cR jW))))))) (Lb (La (La (Lb (La (Lb (Lb (A 80)))))))) (LY cal k m1) (xV cal k) (av P cW)
noncomputable def sQ(k:Nat)(m1:Nat):KR:=kD cal m1 80 (cR (cR (cL (cL (cR (cL (cR (cR jW)))))))) (Lb (Lb (La (La (Lb (La (Lb (Lb (A 80))))))))) (LY cal k m1) (xV cal k) (av P cW)
noncomputable def Dx(k:Nat)(m1:Nat):XR:=(upX 1 (sQ cal k m1) (xV cal k))
noncomputable def K80_prrlrllrrll(k:Nat)(m1:Nat):KR:=kD cal m1 80 (cL (cL (cR (cR (cL (cL (cR (cL (cR (cR jW)))))))))) (La (La (Lb (Lb (La (La (Lb (La (Lb (Lb (A 80))))))))))) (sQ cal k m1) (Dx cal k m1) (av P cW)
noncomputable def K80_prrlrllrrllr(k:Nat)(m1:Nat):KR:=kD cal m1 80 (cR (cL (cL (cR (cR (cL (cL (cR (cL (cR (cR jW))))))))))) (Lb (La (La (Lb (Lb (La (La (Lb (La (Lb (Lb (A 80)))))))))))) (sQ cal k m1) (Dx cal k m1) (av P cW)
noncomputable def kv(k:Nat)(m1:Nat):XR:=(upX 2 (sQ cal k m1) (Dx cal k m1))
noncomputable def sv(k:Nat)(m1:Nat)(m2:Nat):KR:=(fun T H n D=>aK P cal m2 (La (Lb (Lb (La (La (Lb (Lb (La (La (Lb (La (Lb (Lb (A 80)))))))))))))) none 80 (cL (cR (cR (cL (cL (cR (cR (cL (cL (cR (cL (cR (cR jW))))))))))))) (sQ cal k m1) (kv cal k m1) (av P cW) (cutT (La (Lb (Lb (La (La (Lb (Lb (La (La (Lb (La (Lb (Lb (A 80)))))))))))))).c T) H n D)
noncomputable def K80_prrlrllrrllrrll(k:Nat)(m1:Nat)(m2:Nat):KR:=kD cal m2 80 (cL (cL (cR (cR (cL (cL (cR (cR (cL (cL (cR (cL (cR (cR jW)))))))))))))) (La (La (Lb (Lb (La (La (Lb (Lb (La (La (Lb (La (Lb (Lb (A 80))))))))))))))) (sv cal k m1 m2) (kv cal k m1) (av P cW)
noncomputable def K80_prrlrllrrllrrllr(k:Nat)(m1:Nat)(m2:Nat):KR:=kD cal m2 80 (cR (cL (cL (cR (cR (cL (cL (cR (cR (cL (cL (cR (cL (cR (cR jW))))))))))))))) (Lb (La (La (Lb (Lb (La (La (Lb (Lb (La (La (Lb (La (Lb (Lb (A 80)))))))))))))))) (sv cal k m1 m2) (kv cal k m1) (av P cW)
noncomputable def K80_prrlrllrrllrrllrr(k:Nat)(m1:Nat)(m2:Nat):KR:=kD cal m2 80 (cR (cR (cL (cL (cR (cR (cL (cL (cR (cR (cL (cL (cR (cL (cR (cR jW)))))))))))))))) (Lb (Lb (La (La (Lb (Lb (La (La (Lb (Lb (La (La (Lb (La (Lb (Lb (A 80))))))))))))))))) (sv cal k m1 m2) (kv cal k m1) (av P cW)
noncomputable def K80_pxrrlrllrrllrrllrrl(k:Nat)(m1:Nat)(m2:Nat):XR:=(upX 3 (K80_prrlrllrrllrrllrr cal k m1 m2) (kv cal k m1))
noncomputable def K80_prrlrllrrllrrllrrll(k:Nat)(m1:Nat)(m2:Nat):KR:=kD cal m2 80 (cL (cL (cR (cR (cL (cL (cR (cR (cL (cL (cR (cR (cL (cL (cR (cL (cR (cR jW)))))))))))))))))) (La (La (Lb (Lb (La (La (Lb (Lb (La (La (Lb (Lb (La (La (Lb (La (Lb (Lb (A 80))))))))))))))))))) (K80_prrlrllrrllrrllrr cal k m1 m2) (K80_pxrrlrllrrllrrllrrl cal k m1 m2) (av P cW)
noncomputable def Wj:KR:=kD cal k 80 (cR (cR (cR jW))) (Lb (Lb (Lb (A 80)))) (av P cW) X0 (av P cW)
noncomputable def K80_prrrl:KR:=kD cal k 80 (cL (cR (cR (cR jW)))) (La (Lb (Lb (Lb (A 80))))) (Wj cal k) X0 (av P cW)
noncomputable def uW(k:Nat):XR:=(upX 4 (Wj cal k) X0)
noncomputable def GZ(k:Nat)(m1:Nat):KR:=(fun T H n D=>aK P cal m1 (La (Lb (La (Lb (Lb (Lb (A 80))))))) none 80 (cL (cR (cL (cR (cR (cR jW)))))) (Wj cal k) (uW cal k) (av P cW) (cutT (La (Lb (La (Lb (Lb (Lb (A 80))))))).c T) H n D)
noncomputable def K80_prrrlrll(k:Nat)(m1:Nat):KR:=kD cal m1 80 (cL (cL (cR (cL (cR (cR (cR jW))))))) (La (La (Lb (La (Lb (Lb (Lb (A 80)))))))) (GZ cal k m1) (uW cal k) (av P cW)
noncomputable def K80_prrrlrllr(k:Nat)(m1:Nat):KR:=kD cal m1 80 (cR (cL (cL (cR (cL (cR (cR (cR jW)))))))) (Lb (La (La (Lb (La (Lb (Lb (Lb (A 80))))))))) (GZ cal k m1) (uW cal k) (av P cW)
noncomputable def zY(k:Nat)(m1:Nat):KR:=kD cal m1 80 (cR (cR (cL (cL (cR (cL (cR (cR (cR jW))))))))) (Lb (Lb (La (La (Lb (La (Lb (Lb (Lb (A 80)))))))))) (GZ cal k m1) (uW cal k) (av P cW)
noncomputable def Bk(k:Nat)(m1:Nat):XR:=(upX 5 (zY cal k m1) (uW cal k))
noncomputable def K80_prrrlrllrrll(k:Nat)(m1:Nat):KR:=kD cal m1 80 (cL (cL (cR (cR (cL (cL (cR (cL (cR (cR (cR jW))))))))))) (La (La (Lb (Lb (La (La (Lb (La (Lb (Lb (Lb (A 80)))))))))))) (zY cal k m1) (Bk cal k m1) (av P cW)
noncomputable def K80_prrrlrllrrllr(k:Nat)(m1:Nat):KR:=kD cal m1 80 (cR (cL (cL (cR (cR (cL (cL (cR (cL (cR (cR (cR jW)))))))))))) (Lb (La (La (Lb (Lb (La (La (Lb (La (Lb (Lb (Lb (A 80))))))))))))) (zY cal k m1) (Bk cal k m1) (av P cW)
noncomputable def K80_prrrlrllrrllrrl(k:Nat)(m1:Nat):KR:=kD cal m1 80 (cL (cR (cR (cL (cL (cR (cR (cL (cL (cR (cL (cR (cR (cR jW)))))))))))))) (La (Lb (Lb (La (La (Lb (Lb (La (La (Lb (La (Lb (Lb (Lb (A 80))))))))))))))) (zY cal k m1) (Bk cal k m1) (av P cW)
noncomputable def K80_prrrr:KR:=kD cal k 80 (cR (cR (cR (cR jW)))) (Lb (Lb (Lb (Lb (A 80))))) (av P cW) X0 (av P cW)
noncomputable def E80_2(k m1 m2:Nat):KR:=cj P cal (aK P cal m2) none 80 (cL (cL (cR (cR (cL (cL (cR (cR (cL (cL (cR (cL (cR (cR jW)))))))))))))) (La (La (Lb (Lb (La (La (Lb (Lb (La (La (Lb (La (Lb (Lb (A 80))))))))))))))) (sv cal k m1 m2) (kv cal k m1) (av P cW)
noncomputable def R80_2(k m1 m2:Nat):V8:=fun u0 u5 u12 u13 u14 u18 u19 u20 H n=>aK P cal m2 (La (Lb (Lb (La (La (Lb (Lb (La (La (Lb (La (Lb (Lb (A 80)))))))))))))) none 80 (cL (cR (cR (cL (cL (cR (cR (cL (cL (cR (cL (cR (cR jW))))))))))))) (sQ cal k m1) (kv cal k m1) (av P cW) (ts (ts (ts (ts (ts (ts (ts (ts Tr.nil 20 u20) 19 u19) 18 u18) 14 u14) 13 u13) 12 u12) 5 u5) 0 u0) H n []
noncomputable def E80_3(k m1:Nat):KR:=cj P cal (aK P cal m1) none 80 (cL (cL (cR (cL (cR (cR (cR jW))))))) (La (La (Lb (La (Lb (Lb (Lb (A 80)))))))) (GZ cal k m1) (uW cal k) (av P cW)
noncomputable def R80_3(k m1:Nat):V4:=fun u5 u37 u38 u39 H n=>aK P cal m1 (La (Lb (La (Lb (Lb (Lb (A 80))))))) none 80 (cL (cR (cL (cR (cR (cR jW)))))) (Wj cal k) (uW cal k) (av P cW) (ts (ts (ts (ts Tr.nil 39 u39) 38 u38) 37 u37) 5 u5) H n []
noncomputable def E80_1(k m1:Nat):KR:=cj P cal (aK P cal m1) none 80 (cL (cL (cR (cL (cR (cR jW)))))) (La (La (Lb (La (Lb (Lb (A 80))))))) (LY cal k m1) (xV cal k) (av P cW)
noncomputable def Sy(k m1:Nat):V5:=fun u0 u5 u12 u13 u14 H n=>aK P cal m1 (La (Lb (La (Lb (Lb (A 80)))))) none 80 (cL (cR (cL (cR (cR jW))))) (qfv cal k) (xV cal k) (av P cW) (ts (ts (ts (ts (ts Tr.nil 14 u14) 13 u13) 12 u12) 5 u5) 0 u0) H n []
noncomputable def B80_2(cal:Cal)(k m1 m2:Nat)(b1:V5)(b2:V8)(u0 u5 u12 u13 u14 u18 u19 u20:Value)(H:Hp)(n:Nat):Res:=
binK P .lss 3 (.tmp 20) (.tmp 19) u20 u19 fun v_g=>
ifK v_g (
aq (aJ P 44 u18 u20) fun v_i=>
aq (aV v_i) fun a_k=>aq (az P H 3 a_k) fun v_j=>
aq (aJ P 118 u5 u20) fun v_o=>
aq (aV v_o) fun a_q=>aq (az P H 3 a_q) fun v_p=>
binK P .add 3 (.tmp 27) (.tmp 28) v_p v_j fun v_s=>
aq (aJ P 118 u5 u20) fun v_t=>
aq (bX P 3 v_t v_s H) fun H_v=>
binK P .add 3 (.tmp 20) (.const (.int .i64 1)) u20 (.int .i64 1) fun v_w=>
b2 u0 u5 u12 u13 u14 u18 u19 v_w H_v n) (
binK P .add 3 (.tmp 14) (.const (.int .i64 1)) u14 (.int .i64 1) fun v_y=>
b1 u0 u5 u12 u13 v_y H n)
noncomputable def C80_2(k m1 m2:Nat)(b1:V5)(b2:V8)(u0 u5 u12 u13 u14 u18 u19 u20:Value)(H:Hp)(n:Nat):Res:=B80_2 cal k m1 m2 b1 b2 u0 u5 u12 u13 u14 u18 u19 u20 H n
noncomputable def S80_2(k m1:Nat)(b1:V5):Nat→V8:=fun m=>Nat.rec (motive:=fun _=>V8) (C80_2 cal k m1 0 b1 (fun _ _ _ _ _ _ _ _ _ _=>none)) (fun m ih=>C80_2 cal k m1 (m+1) b1 ih) m
theorem h80_2(k m1 m2:Nat)(u0 u5 u12 u13 u14 u18 u19 u20:Value)(H:Hp)(n:Nat):labK (E80_2 cal k m1 m2) (ts (ts (ts (ts (ts (ts (ts (ts Tr.nil 20 u20) 19 u19) 18 u18) 14 u14) 13 u13) 12 u12) 5 u5) 0 u0) H n []=C80_2 cal k m1 m2 (Sy cal k m1) (R80_2 cal k m1 m2) u0 u5 u12 u13 u14 u18 u19 u20 H n:=by
 refine Eq.trans (b:=B80_2 cal k m1 m2 (Sy cal k m1) (R80_2 cal k m1 m2) u0 u5 u12 u13 u14 u18 u19 u20 H n) (by kernel_rfl) ?_
 rw[C80_2]
theorem q80_2(k m1:Nat):∀(m:Nat) (u0 u5 u12 u13 u14 u18 u19 u20:Value) (H:Hp) (n:Nat),labK (E80_2 cal k m1 m) (ts (ts (ts (ts (ts (ts (ts (ts Tr.nil 20 u20) 19 u19) 18 u18) 14 u14) 13 u13) 12 u12) 5 u5) 0 u0) H n []=S80_2 cal k m1 (Sy cal k m1) m u0 u5 u12 u13 u14 u18 u19 u20 H n
 | 0,u0,u5,u12,u13,u14,u18,u19,u20,H,n=>by
  rw[h80_2]
  have e:R80_2 cal k m1 0=fun _ _ _ _ _ _ _ _ _ _=>none:=by funext u0 u5 u12 u13 u14 u18 u19 u20 H n; kernel_rfl
  rw[e]; rfl
 | m+1,u0,u5,u12,u13,u14,u18,u19,u20,H,n=>by
  rw[h80_2]
  have e:R80_2 cal k m1 (m+1)=S80_2 cal k m1 (Sy cal k m1) m:=by
   funext u0 u5 u12 u13 u14 u18 u19 u20 H n
   have e:R80_2 cal k m1 (m+1) u0 u5 u12 u13 u14 u18 u19 u20 H n=labK (E80_2 cal k m1 m) (ts (ts (ts (ts (ts (ts (ts (ts Tr.nil 20 u20) 19 u19) 18 u18) 14 u14) 13 u13) 12 u12) 5 u5) 0 u0) H n []:=by kernel_rfl
   rw[e]; exact q80_2 ..
  rw[e]; rfl
noncomputable def B80_3(cal:Cal)(k m1:Nat)(b3:V4)(u5 u37 u38 u39:Value)(H:Hp)(n:Nat):Res:=
binK P .lss 3 (.tmp 39) (.tmp 38) u39 u38 fun v_18=>
ifK v_18 (
aq (aJ P 31 u37 u39) fun v_1a=>
aq (aV v_1a) fun a_1c=>aq (az P H 90 a_1c) fun v_1b=>
eQ P 90 H n fun v_1d H_1e n_1f=>
aq (bX P 90 v_1d v_1b H_1e) fun H_1i=>
aq (aJ P 118 u5 u39) fun v_1k=>
aq (aV v_1k) fun a_1l=>aq (az P H_1i 3 a_1l) fun v_1m=>
aq (aw P 90 v_1d 0) fun v_1n=>
aq (aV v_1n) fun a_1o=>aq (az P H_1i 3 a_1o) fun v_1p=>
binK P .lss 3 (.tmp 46) (.tmp 48) v_1m v_1p fun v_1q=>
dJ v_1q false (fun k_1s=>
k_1s u39 .p H_1i n_1f) .p H_1i n_1f fun v_1t x_1u H_1v n_1w=>
dJ v_1q false (fun k_1y=>
aq (aJ P 118 u5 v_1t) fun v_23=>
k_1y v_23 .p H_1v n_1w) .p H_1v n_1w fun v_1z x_20 H_21 n_22=>
dJ v_1q false (fun k_24=>
aq (aV v_1z) fun a_29=>aq (az P H_21 3 a_29) fun v_2a=>
k_24 v_2a (.l 3 a_29) H_21 n_22) .p H_21 n_22 fun v_25 x_26 H_27 n_28=>
dJ v_1q false (fun k_2b=>
aq (aw P 90 v_1d 1) fun v_2g=>
k_2b v_2g .p H_27 n_28) .p H_27 n_28 fun v_2c x_2d H_2e n_2f=>
dJ v_1q false (fun k_2h=>
aq (aV v_2c) fun a_2m=>aq (az P H_2e 3 a_2m) fun v_2n=>
k_2h v_2n (.l 3 a_2m) H_2e n_2f) .p H_2e n_2f fun v_2i x_2j H_2k n_2l=>
dJ v_1q false (fun k_2o=>
binK P .gtr 3 (.tmp 53) (.tmp 55) v_25 v_2i fun v_2t=>
k_2o v_2t .p H_2k n_2l) .p H_2k n_2l fun v_2p x_2q H_2r n_2s=>
aq (fy v_1q (.bool true) v_2p) fun v_2u=>
ifK v_2u (
some ((.bool false),H_2r,n_2s)) (
binK P .add 3 (.tmp 39) (.const (.int .i64 1)) u39 (.int .i64 1) fun v_2w=>
b3 u5 u37 u38 v_2w H_2r n_2s)) (
some ((.bool true),H,n))
noncomputable def C80_3(k m1:Nat)(b3:V4)(u5 u37 u38 u39:Value)(H:Hp)(n:Nat):Res:=B80_3 cal k m1 b3 u5 u37 u38 u39 H n
noncomputable def S80_3(k:Nat):Nat→V4:=fun m=>Nat.rec (motive:=fun _=>V4) (C80_3 cal k 0 (fun _ _ _ _ _ _=>none)) (fun m ih=>C80_3 cal k (m+1) ih) m
theorem h80_3(k m1:Nat)(u5 u37 u38 u39:Value)(H:Hp)(n:Nat):labK (E80_3 cal k m1) (ts (ts (ts (ts Tr.nil 39 u39) 38 u38) 37 u37) 5 u5) H n []=C80_3 cal k m1 (R80_3 cal k m1) u5 u37 u38 u39 H n:=by
 refine Eq.trans (b:=B80_3 cal k m1 (R80_3 cal k m1) u5 u37 u38 u39 H n) (by kernel_rfl) ?_
 rw[C80_3]
theorem q80_3(k:Nat):∀(m:Nat) (u5 u37 u38 u39:Value) (H:Hp) (n:Nat),labK (E80_3 cal k m) (ts (ts (ts (ts Tr.nil 39 u39) 38 u38) 37 u37) 5 u5) H n []=S80_3 cal k m u5 u37 u38 u39 H n
 | 0,u5,u37,u38,u39,H,n=>by
  rw[h80_3]
  have e:R80_3 cal k 0=fun _ _ _ _ _ _=>none:=by funext u5 u37 u38 u39 H n; kernel_rfl
  rw[e]; rfl
 | m+1,u5,u37,u38,u39,H,n=>by
  rw[h80_3]
  have e:R80_3 cal k (m+1)=S80_3 cal k m:=by
   funext u5 u37 u38 u39 H n
   have e:R80_3 cal k (m+1) u5 u37 u38 u39 H n=labK (E80_3 cal k m) (ts (ts (ts (ts Tr.nil 39 u39) 38 u38) 37 u37) 5 u5) H n []:=by kernel_rfl
   rw[e]; exact q80_3 ..
  rw[e]; rfl
noncomputable def B80_1(cal:Cal)(k m1:Nat)(j2:V8)(j3:V4)(b1:V5)(u0 u5 u12 u13 u14:Value)(H:Hp)(n:Nat):Res:=
binK P .lss 3 (.tmp 14) (.tmp 13) u14 u13 fun v_8=>
ifK v_8 (
aq (aJ P 59 u12 u14) fun v_9=>
aq (aV v_9) fun a_b=>aq (az P H 44 a_b) fun v_a=>
aq (lenV P 44 v_a) fun v_e=>
j2 u0 u5 u12 u13 u14 v_a v_e (.int .i64 0) H n) (
aq (nilV u0) fun v_11=>
aq (aw P 115 v_11 0) fun v_12=>
aq (aw P 35 v_12 0) fun v_13=>
aq (aV v_13) fun a_15=>aq (az P H 31 a_15) fun v_14=>
aq (lenV P 31 v_14) fun v_16=>
j3 u5 v_14 v_16 (.int .i64 0) H n)
noncomputable def C80_1(k m1:Nat)(b1:V5)(u0 u5 u12 u13 u14:Value)(H:Hp)(n:Nat):Res:=B80_1 cal k m1 (S80_2 cal k m1 b1 m1) (S80_3 cal k k) b1 u0 u5 u12 u13 u14 H n
noncomputable def S80_1(k:Nat):Nat→V5:=fun m=>Nat.rec (motive:=fun _=>V5) (C80_1 cal k 0 (fun _ _ _ _ _ _ _=>none)) (fun m ih=>C80_1 cal k (m+1) ih) m
theorem h80_1(k m1:Nat)(u0 u5 u12 u13 u14:Value)(H:Hp)(n:Nat):labK (E80_1 cal k m1) (ts (ts (ts (ts (ts Tr.nil 14 u14) 13 u13) 12 u12) 5 u5) 0 u0) H n []=C80_1 cal k m1 (Sy cal k m1) u0 u5 u12 u13 u14 H n:=by
 refine Eq.trans (b:=B80_1 cal k m1 (fun u0 u5 u12 u13 u14 u18 u19 u20 H n=>labK (E80_2 cal k m1 m1) (ts (ts (ts (ts (ts (ts (ts (ts Tr.nil 20 u20) 19 u19) 18 u18) 14 u14) 13 u13) 12 u12) 5 u5) 0 u0) H n []) (fun u5 u37 u38 u39 H n=>labK (E80_3 cal k k) (ts (ts (ts (ts Tr.nil 39 u39) 38 u38) 37 u37) 5 u5) H n []) (Sy cal k m1) u0 u5 u12 u13 u14 H n) (by kernel_rfl) ?_
 rw[C80_1]
 have e2:(fun u0 u5 u12 u13 u14 u18 u19 u20 H n=>labK (E80_2 cal k m1 m1) (ts (ts (ts (ts (ts (ts (ts (ts Tr.nil 20 u20) 19 u19) 18 u18) 14 u14) 13 u13) 12 u12) 5 u5) 0 u0) H n [])=(S80_2 cal k m1 (Sy cal k m1) m1):=by funext u0 u5 u12 u13 u14 u18 u19 u20 H n; exact q80_2 ..
 rw[e2]
 have e3:(fun u5 u37 u38 u39 H n=>labK (E80_3 cal k k) (ts (ts (ts (ts Tr.nil 39 u39) 38 u38) 37 u37) 5 u5) H n [])=(S80_3 cal k k):=by funext u5 u37 u38 u39 H n; exact q80_3 ..
 rw[e3]
theorem q80_1(k:Nat):∀(m:Nat) (u0 u5 u12 u13 u14:Value) (H:Hp) (n:Nat),labK (E80_1 cal k m) (ts (ts (ts (ts (ts Tr.nil 14 u14) 13 u13) 12 u12) 5 u5) 0 u0) H n []=S80_1 cal k m u0 u5 u12 u13 u14 H n
 | 0,u0,u5,u12,u13,u14,H,n=>by
  rw[h80_1]
  have e:Sy cal k 0=fun _ _ _ _ _ _ _=>none:=by funext u0 u5 u12 u13 u14 H n; kernel_rfl
  rw[e]; rfl
 | m+1,u0,u5,u12,u13,u14,H,n=>by
  rw[h80_1]
  have e:Sy cal k (m+1)=S80_1 cal k m:=by
   funext u0 u5 u12 u13 u14 H n
   have e:Sy cal k (m+1) u0 u5 u12 u13 u14 H n=labK (E80_1 cal k m) (ts (ts (ts (ts (ts Tr.nil 14 u14) 13 u13) 12 u12) 5 u5) 0 u0) H n []:=by kernel_rfl
   rw[e]; exact q80_1 ..
  rw[e]; rfl
noncomputable def B80_0(cal:Cal)(k:Nat)(j1:V5)(v0 v1:Value)(H:Hp)(n:Nat):Res:=
eQ P 118 H n fun v_2 H_3 n_4=>
aq (lenV P 59 v1) fun v_6=>
j1 v0 v_2 v1 v_6 (.int .i64 0) H_3 n_4
noncomputable def C80_0(k:Nat)(v0 v1:Value)(H:Hp)(n:Nat):Res:=B80_0 cal k (S80_1 cal k k) v0 v1 H n
theorem h80_0(k:Nat)(v0 v1:Value)(H:Hp)(n:Nat):aY P cal A (k+1) 80 [v0,v1] H n=C80_0 cal k v0 v1 H n:=by
 have h:aY P cal A (k+1) 80 [v0,v1] H n=B80_0 cal k (fun u0 u5 u12 u13 u14 H n=>labK (E80_1 cal k k) (ts (ts (ts (ts (ts Tr.nil 14 u14) 13 u13) 12 u12) 5 u5) 0 u0) H n []) v0 v1 H n:=by
  rw[bY (fn:=Go.Proofs.Try.f80) (c:=jW) (rs:=cW) (by kernel_rfl) (by kernel_rfl) (by kernel_rfl) (by kernel_rfl)]
  kernel_rfl
 rw[h,C80_0]
 have e1:(fun u0 u5 u12 u13 u14 H n=>labK (E80_1 cal k k) (ts (ts (ts (ts (ts Tr.nil 14 u14) 13 u13) 12 u12) 5 u5) 0 u0) H n [])=(S80_1 cal k k):=by funext u0 u5 u12 u13 u14 H n; exact q80_1 ..
 rw[e1]
noncomputable def zZ:Code:=dj 89
noncomputable def kX:List ResultVar:=fk 89
noncomputable def K89_p:KR:=kD cal k 89 zZ (A 89) (av P kX) X0 (av P kX)
noncomputable def K89_pr:KR:=kD cal k 89 (cR zZ) (Lb (A 89)) (av P kX) X0 (av P kX)
noncomputable def K89_prl:KR:=kD cal k 89 (cL (cR zZ)) (La (Lb (A 89))) (K89_pr cal k) X0 (av P kX)
noncomputable def BJ(k:Nat):XR:=(upX 0 (K89_pr cal k) X0)
noncomputable def Yk(k:Nat)(m1:Nat):KR:=(fun T H n D=>aK P cal m1 (La (Lb (La (Lb (A 89))))) none 89 (cL (cR (cL (cR zZ)))) (K89_pr cal k) (BJ cal k) (av P kX) (cutT (La (Lb (La (Lb (A 89))))).c T) H n D)
noncomputable def K89_prlrll(k:Nat)(m1:Nat):KR:=kD cal m1 89 (cL (cL (cR (cL (cR zZ))))) (La (La (Lb (La (Lb (A 89)))))) (Yk cal k m1) (BJ cal k) (av P kX)
noncomputable def K89_prlrlll(k:Nat)(m1:Nat):KR:=kD cal m1 89 (cL (cL (cL (cR (cL (cR zZ)))))) (La (La (La (Lb (La (Lb (A 89))))))) (K89_prlrll cal k m1) (BJ cal k) (av P kX)
noncomputable def GK(k:Nat)(m1:Nat):KR:=kD cal m1 89 (cR (cL (cL (cR (cL (cR zZ)))))) (Lb (La (La (Lb (La (Lb (A 89))))))) (Yk cal k m1) (BJ cal k) (av P kX)
noncomputable def HZ(k:Nat)(m1:Nat):XR:=(upX 1 (GK cal k m1) (BJ cal k))
noncomputable def K89_prlrllrll(k:Nat)(m1:Nat):KR:=kD cal m1 89 (cL (cL (cR (cL (cL (cR (cL (cR zZ)))))))) (La (La (Lb (La (La (Lb (La (Lb (A 89))))))))) (GK cal k m1) (HZ cal k m1) (av P kX)
noncomputable def K89_prlrllrllr(k:Nat)(m1:Nat):KR:=kD cal m1 89 (cR (cL (cL (cR (cL (cL (cR (cL (cR zZ))))))))) (Lb (La (La (Lb (La (La (Lb (La (Lb (A 89)))))))))) (GK cal k m1) (HZ cal k m1) (av P kX)
noncomputable def K89_prlrllrllrrl(k:Nat)(m1:Nat):KR:=kD cal m1 89 (cL (cR (cR (cL (cL (cR (cL (cL (cR (cL (cR zZ))))))))))) (La (Lb (Lb (La (La (Lb (La (La (Lb (La (Lb (A 89)))))))))))) (GK cal k m1) (HZ cal k m1) (av P kX)
noncomputable def K89_prr:KR:=kD cal k 89 (cR (cR zZ)) (Lb (Lb (A 89))) (av P kX) X0 (av P kX)
noncomputable def E89_1(k m1:Nat):KR:=cj P cal (aK P cal m1) none 89 (cL (cL (cR (cL (cR zZ))))) (La (La (Lb (La (Lb (A 89)))))) (Yk cal k m1) (BJ cal k) (av P kX)
noncomputable def R89_1(k m1:Nat):V4:=fun u1 u2 u3 u7 H n=>aK P cal m1 (La (Lb (La (Lb (A 89))))) none 89 (cL (cR (cL (cR zZ)))) (K89_pr cal k) (BJ cal k) (av P kX) (ts (ts (ts (ts Tr.nil 7 u7) 3 u3) 2 u2) 1 u1) H n []
noncomputable def B89_1(cal:Cal)(k m1:Nat)(b1:V4)(u1 u2 u3 u7:Value)(H:Hp)(n:Nat):Res:=
aq (aw P 26 u3 1) fun v_7=>
aq (aV v_7) fun a_9=>aq (az P H 23 a_9) fun v_8=>
aq (lenV P 23 v_8) fun v_a=>
binK P .lss 3 (.tmp 9) (.tmp 12) u7 v_a fun v_b=>
ifK v_b (
aq (aw P 26 u3 1) fun v_c=>
aq (aV v_c) fun a_e=>aq (az P H 23 a_e) fun v_d=>
aq (aJ P 23 v_d u7) fun v_g=>
aq (aV v_g) fun a_i=>aq (az P H 102 a_i) fun v_h=>
eQ P 102 H n fun v_j H_k n_l=>
aq (bX P 102 v_j v_h H_k) fun H_n=>
aq (aw P 102 v_j 0) fun v_o=>
aq (aV v_o) fun a_q=>aq (az P H_n 3 a_q) fun v_p=>
binK P .eql 3 (.tmp 22) (.tmp 23) v_p u1 fun v_s=>
aQ v_s true (fun k_u=>
aq (aw P 102 v_j 1) fun v_y=>
k_u v_y H_n n_l) H_n n_l fun v_v H_w n_x=>
aQ v_s true (fun k_z=>
aq (aV v_v) fun a_14=>aq (az P H_w 3 a_14) fun v_13=>
k_z v_13 H_w n_x) H_w n_x fun v_10 H_11 n_12=>
aQ v_s true (fun k_15=>
k_15 u2 H_11 n_12) H_11 n_12 fun v_16 H_17 n_18=>
aQ v_s true (fun k_1a=>
binK P .eql 3 (.tmp 27) (.tmp 28) v_10 v_16 fun v_1e=>
k_1a v_1e H_17 n_18) H_17 n_18 fun v_1b H_1c n_1d=>
aq (fy v_s v_1b (.bool false)) fun v_1f=>
aQ v_1f false (fun k_1h=>
aq (aw P 102 v_j 0) fun v_1l=>
k_1h v_1l H_1c n_1d) H_1c n_1d fun v_1i H_1j n_1k=>
aQ v_1f false (fun k_1m=>
aq (aV v_1i) fun a_1r=>aq (az P H_1j 3 a_1r) fun v_1q=>
k_1m v_1q H_1j n_1k) H_1j n_1k fun v_1n H_1o n_1p=>
aQ v_1f false (fun k_1s=>
k_1s u2 H_1o n_1p) H_1o n_1p fun v_1t H_1u n_1v=>
aQ v_1f false (fun k_1x=>
binK P .eql 3 (.tmp 33) (.tmp 34) v_1n v_1t fun v_21=>
k_1x v_21 H_1u n_1v) H_1u n_1v fun v_1y H_1z n_20=>
aQ v_1f false (fun k_22=>
k_22 v_1y H_1z n_20) H_1z n_20 fun v_23 H_24 n_25=>
aQ v_23 true (fun k_27=>
aq (aw P 102 v_j 1) fun v_2b=>
k_27 v_2b H_24 n_25) H_24 n_25 fun v_28 H_29 n_2a=>
aQ v_23 true (fun k_2c=>
aq (aV v_28) fun a_2h=>aq (az P H_29 3 a_2h) fun v_2g=>
k_2c v_2g H_29 n_2a) H_29 n_2a fun v_2d H_2e n_2f=>
aQ v_23 true (fun k_2i=>
k_2i u1 H_2e n_2f) H_2e n_2f fun v_2j H_2k n_2l=>
aQ v_23 true (fun k_2n=>
binK P .eql 3 (.tmp 38) (.tmp 39) v_2d v_2j fun v_2r=>
k_2n v_2r H_2k n_2l) H_2k n_2l fun v_2o H_2p n_2q=>
aQ v_1f false (fun k_2s=>
aq (fy v_23 v_2o (.bool false)) fun v_2w=>
k_2s v_2w H_2p n_2q) H_2p n_2q fun v_2t H_2u n_2v=>
aq (fy v_1f (.bool true) v_2t) fun v_2x=>
ifK v_2x (
some ((.bool true),H_2u,n_2v)) (
binK P .add 3 (.tmp 14) (.const (.int .i64 1)) u7 (.int .i64 1) fun v_30=>
b1 u1 u2 u3 v_30 H_2u n_2v)) (
some ((.bool false),H,n))
noncomputable def C89_1(k m1:Nat)(b1:V4)(u1 u2 u3 u7:Value)(H:Hp)(n:Nat):Res:=B89_1 cal k m1 b1 u1 u2 u3 u7 H n
noncomputable def S89_1(k:Nat):Nat→V4:=fun m=>Nat.rec (motive:=fun _=>V4) (C89_1 cal k 0 (fun _ _ _ _ _ _=>none)) (fun m ih=>C89_1 cal k (m+1) ih) m
theorem h89_1(k m1:Nat)(u1 u2 u3 u7:Value)(H:Hp)(n:Nat):labK (E89_1 cal k m1) (ts (ts (ts (ts Tr.nil 7 u7) 3 u3) 2 u2) 1 u1) H n []=C89_1 cal k m1 (R89_1 cal k m1) u1 u2 u3 u7 H n:=by
 refine Eq.trans (b:=B89_1 cal k m1 (R89_1 cal k m1) u1 u2 u3 u7 H n) (by kernel_rfl) ?_
 rw[C89_1]
theorem q89_1(k:Nat):∀(m:Nat) (u1 u2 u3 u7:Value) (H:Hp) (n:Nat),labK (E89_1 cal k m) (ts (ts (ts (ts Tr.nil 7 u7) 3 u3) 2 u2) 1 u1) H n []=S89_1 cal k m u1 u2 u3 u7 H n
 | 0,u1,u2,u3,u7,H,n=>by
  rw[h89_1]
  have e:R89_1 cal k 0=fun _ _ _ _ _ _=>none:=by funext u1 u2 u3 u7 H n; kernel_rfl
  rw[e]; rfl
 | m+1,u1,u2,u3,u7,H,n=>by
  rw[h89_1]
  have e:R89_1 cal k (m+1)=S89_1 cal k m:=by
   funext u1 u2 u3 u7 H n
   have e:R89_1 cal k (m+1) u1 u2 u3 u7 H n=labK (E89_1 cal k m) (ts (ts (ts (ts Tr.nil 7 u7) 3 u3) 2 u2) 1 u1) H n []:=by kernel_rfl
   rw[e]; exact q89_1 ..
  rw[e]; rfl
noncomputable def B89_0(cal:Cal)(k:Nat)(j1:V4)(v0 v1 v2:Value)(H:Hp)(n:Nat):Res:=
boxK 26 v0 H n fun v_1 H_2 n_3=>
j1 v1 v2 v_1 (.int .i64 0) H_2 n_3
noncomputable def C89_0(k:Nat)(v0 v1 v2:Value)(H:Hp)(n:Nat):Res:=B89_0 cal k (S89_1 cal k k) v0 v1 v2 H n
theorem h89_0(k:Nat)(v0 v1 v2:Value)(H:Hp)(n:Nat):aY P cal A (k+1) 89 [v0,v1,v2] H n=C89_0 cal k v0 v1 v2 H n:=by
 have h:aY P cal A (k+1) 89 [v0,v1,v2] H n=B89_0 cal k (fun u1 u2 u3 u7 H n=>labK (E89_1 cal k k) (ts (ts (ts (ts Tr.nil 7 u7) 3 u3) 2 u2) 1 u1) H n []) v0 v1 v2 H n:=by
  rw[bY (fn:=Go.Proofs.Try.f89) (c:=zZ) (rs:=kX) (by kernel_rfl) (by kernel_rfl) (by kernel_rfl) (by kernel_rfl)]
  kernel_rfl
 rw[h,C89_0]
 have e1:(fun u1 u2 u3 u7 H n=>labK (E89_1 cal k k) (ts (ts (ts (ts Tr.nil 7 u7) 3 u3) 2 u2) 1 u1) H n [])=(S89_1 cal k k):=by funext u1 u2 u3 u7 H n; exact q89_1 ..
 rw[e1]
noncomputable def zK:Code:=dj 91
noncomputable def kY:List ResultVar:=fk 91
noncomputable def K91_p:KR:=kD cal k 91 zK (A 91) (av P kY) X0 (av P kY)
noncomputable def K91_pr:KR:=kD cal k 91 (cR zK) (Lb (A 91)) (av P kY) X0 (av P kY)
noncomputable def K91_prl:KR:=kD cal k 91 (cL (cR zK)) (La (Lb (A 91))) (K91_pr cal k) X0 (av P kY)
noncomputable def BQ(k:Nat):XR:=(upX 0 (K91_pr cal k) X0)
noncomputable def Rq(k:Nat)(m1:Nat):KR:=(fun T H n D=>aK P cal m1 (La (Lb (La (Lb (A 91))))) none 91 (cL (cR (cL (cR zK)))) (K91_pr cal k) (BQ cal k) (av P kY) (cutT (La (Lb (La (Lb (A 91))))).c T) H n D)
noncomputable def K91_prlrll(k:Nat)(m1:Nat):KR:=kD cal m1 91 (cL (cL (cR (cL (cR zK))))) (La (La (Lb (La (Lb (A 91)))))) (Rq cal k m1) (BQ cal k) (av P kY)
noncomputable def K91_prlrllr(k:Nat)(m1:Nat):KR:=kD cal m1 91 (cR (cL (cL (cR (cL (cR zK)))))) (Lb (La (La (Lb (La (Lb (A 91))))))) (Rq cal k m1) (BQ cal k) (av P kY)
noncomputable def DX(k:Nat)(m1:Nat):KR:=kD cal m1 91 (cR (cR (cL (cL (cR (cL (cR zK))))))) (Lb (Lb (La (La (Lb (La (Lb (A 91)))))))) (Rq cal k m1) (BQ cal k) (av P kY)
noncomputable def FW(k:Nat)(m1:Nat):XR:=(upX 1 (DX cal k m1) (BQ cal k))
noncomputable def K91_prlrllrrll(k:Nat)(m1:Nat):KR:=kD cal m1 91 (cL (cL (cR (cR (cL (cL (cR (cL (cR zK))))))))) (La (La (Lb (Lb (La (La (Lb (La (Lb (A 91)))))))))) (DX cal k m1) (FW cal k m1) (av P kY)
noncomputable def K91_prlrllrrllr(k:Nat)(m1:Nat):KR:=kD cal m1 91 (cR (cL (cL (cR (cR (cL (cL (cR (cL (cR zK)))))))))) (Lb (La (La (Lb (Lb (La (La (Lb (La (Lb (A 91))))))))))) (DX cal k m1) (FW cal k m1) (av P kY)
noncomputable def K91_prlrllrrllrrl(k:Nat)(m1:Nat):KR:=kD cal m1 91 (cL (cR (cR (cL (cL (cR (cR (cL (cL (cR (cL (cR zK)))))))))))) (La (Lb (Lb (La (La (Lb (Lb (La (La (Lb (La (Lb (A 91))))))))))))) (DX cal k m1) (FW cal k m1) (av P kY)
noncomputable def K91_prr:KR:=kD cal k 91 (cR (cR zK)) (Lb (Lb (A 91))) (av P kY) X0 (av P kY)
noncomputable def E91_1(k m1:Nat):KR:=cj P cal (aK P cal m1) none 91 (cL (cL (cR (cL (cR zK))))) (La (La (Lb (La (Lb (A 91)))))) (Rq cal k m1) (BQ cal k) (av P kY)
noncomputable def R91_1(k m1:Nat):V4:=fun u1 u7 u8 u9 H n=>aK P cal m1 (La (Lb (La (Lb (A 91))))) none 91 (cL (cR (cL (cR zK)))) (K91_pr cal k) (BQ cal k) (av P kY) (ts (ts (ts (ts Tr.nil 9 u9) 8 u8) 7 u7) 1 u1) H n []
noncomputable def B91_1(cal:Cal)(k m1:Nat)(b1:V4)(u1 u7 u8 u9:Value)(H:Hp)(n:Nat):Res:=
binK P .lss 3 (.tmp 9) (.tmp 8) u9 u8 fun v_5=>
ifK v_5 (
aq (aJ P 31 u7 u9) fun v_6=>
aq (aV v_6) fun a_8=>aq (az P H 90 a_8) fun v_7=>
eQ P 90 H n fun v_9 H_a n_b=>
aq (bX P 90 v_9 v_7 H_a) fun H_d=>
aq (aV v_9) fun a_g=>aq (az P H_d 90 a_g) fun v_f=>
lQ P cal u1 [v_f] H_d n_b fun v_h H_i n_j=>
aq (dX P v_h (Op.unary UnOp.not v_h)) fun v_k=>
ifK v_k (
some ((.bool false),H_i,n_j)) (
binK P .add 3 (.tmp 9) (.const (.int .i64 1)) u9 (.int .i64 1) fun v_m=>
b1 u1 u7 u8 v_m H_i n_j)) (
some ((.bool true),H,n))
noncomputable def C91_1(k m1:Nat)(b1:V4)(u1 u7 u8 u9:Value)(H:Hp)(n:Nat):Res:=B91_1 cal k m1 b1 u1 u7 u8 u9 H n
noncomputable def S91_1(k:Nat):Nat→V4:=fun m=>Nat.rec (motive:=fun _=>V4) (C91_1 cal k 0 (fun _ _ _ _ _ _=>none)) (fun m ih=>C91_1 cal k (m+1) ih) m
theorem h91_1(k m1:Nat)(u1 u7 u8 u9:Value)(H:Hp)(n:Nat):labK (E91_1 cal k m1) (ts (ts (ts (ts Tr.nil 9 u9) 8 u8) 7 u7) 1 u1) H n []=C91_1 cal k m1 (R91_1 cal k m1) u1 u7 u8 u9 H n:=by
 refine Eq.trans (b:=B91_1 cal k m1 (R91_1 cal k m1) u1 u7 u8 u9 H n) (by kernel_rfl) ?_
 rw[C91_1]
theorem q91_1(k:Nat):∀(m:Nat) (u1 u7 u8 u9:Value) (H:Hp) (n:Nat),labK (E91_1 cal k m) (ts (ts (ts (ts Tr.nil 9 u9) 8 u8) 7 u7) 1 u1) H n []=S91_1 cal k m u1 u7 u8 u9 H n
 | 0,u1,u7,u8,u9,H,n=>by
  rw[h91_1]
  have e:R91_1 cal k 0=fun _ _ _ _ _ _=>none:=by funext u1 u7 u8 u9 H n; kernel_rfl
  rw[e]; rfl
 | m+1,u1,u7,u8,u9,H,n=>by
  rw[h91_1]
  have e:R91_1 cal k (m+1)=S91_1 cal k m:=by
   funext u1 u7 u8 u9 H n
   have e:R91_1 cal k (m+1) u1 u7 u8 u9 H n=labK (E91_1 cal k m) (ts (ts (ts (ts Tr.nil 9 u9) 8 u8) 7 u7) 1 u1) H n []:=by kernel_rfl
   rw[e]; exact q91_1 ..
  rw[e]; rfl
noncomputable def B91_0(cal:Cal)(k:Nat)(j1:V4)(v0 v1:Value)(H:Hp)(n:Nat):Res:=
aq (lenV P 31 v0) fun v_3=>
j1 v1 v0 v_3 (.int .i64 0) H n
noncomputable def C91_0(k:Nat)(v0 v1:Value)(H:Hp)(n:Nat):Res:=B91_0 cal k (S91_1 cal k k) v0 v1 H n
theorem h91_0(k:Nat)(v0 v1:Value)(H:Hp)(n:Nat):aY P cal A (k+1) 91 [v0,v1] H n=C91_0 cal k v0 v1 H n:=by
 have h:aY P cal A (k+1) 91 [v0,v1] H n=B91_0 cal k (fun u1 u7 u8 u9 H n=>labK (E91_1 cal k k) (ts (ts (ts (ts Tr.nil 9 u9) 8 u8) 7 u7) 1 u1) H n []) v0 v1 H n:=by
  rw[bY (fn:=Go.Proofs.Try.f91) (c:=zK) (rs:=kY) (by kernel_rfl) (by kernel_rfl) (by kernel_rfl) (by kernel_rfl)]
  kernel_rfl
 rw[h,C91_0]
 have e1:(fun u1 u7 u8 u9 H n=>labK (E91_1 cal k k) (ts (ts (ts (ts Tr.nil 9 u9) 8 u8) 7 u7) 1 u1) H n [])=(S91_1 cal k k):=by funext u1 u7 u8 u9 H n; exact q91_1 ..
 rw[e1]
noncomputable def code92:Code:=dj 92
noncomputable def JV:List ResultVar:=fk 92
noncomputable def K92_p:KR:=kD cal k 92 code92 (A 92) (av P JV) X0 (av P JV)
noncomputable def K92_pr:KR:=kD cal k 92 (cR code92) (Lb (A 92)) (av P JV) X0 (av P JV)
noncomputable def B92_0(cal:Cal)(k:Nat)(v0:Value)(H:Hp)(n:Nat):Res:=
boxK 90 v0 H n fun v_1 H_2 n_3=>
aq (aw P 90 v_1 0) fun v_5=>
aq (aV v_5) fun a_7=>aq (az P H_2 3 a_7) fun v_6=>
binK P .geq 3 (.tmp 4) (.const (.int .i64 0)) v_6 (.int .i64 0) fun v_8=>
aQ v_8 true (fun k_a=>
aq (aw P 90 v_1 0) fun v_e=>
k_a v_e H_2 n_3) H_2 n_3 fun v_b H_c n_d=>
aQ v_8 true (fun k_f=>
aq (aV v_b) fun a_k=>aq (az P H_c 3 a_k) fun v_j=>
k_f v_j H_c n_d) H_c n_d fun v_g H_h n_i=>
aQ v_8 true (fun k_l=>
aq (aw P 90 v_1 1) fun v_p=>
k_l v_p H_h n_i) H_h n_i fun v_m H_n n_o=>
aQ v_8 true (fun k_q=>
aq (aV v_m) fun a_v=>aq (az P H_n 3 a_v) fun v_u=>
k_q v_u H_n n_o) H_n n_o fun v_r H_s n_t=>
aQ v_8 true (fun k_w=>
binK P .leq 3 (.tmp 8) (.tmp 10) v_g v_r fun v_10=>
k_w v_10 H_s n_t) H_s n_t fun v_x H_y n_z=>
aq (fy v_8 v_x (.bool false)) fun v_11=>
aQ v_11 true (fun k_13=>
aq (aw P 90 v_1 1) fun v_17=>
k_13 v_17 H_y n_z) H_y n_z fun v_14 H_15 n_16=>
aQ v_11 true (fun k_18=>
aq (aV v_14) fun a_1d=>aq (az P H_15 3 a_1d) fun v_1c=>
k_18 v_1c H_15 n_16) H_15 n_16 fun v_19 H_1a n_1b=>
aQ v_11 true (fun k_1e=>
binK P .leq 3 (.tmp 15) (.const (.int .i64 1000)) v_19 (.int .i64 1000) fun v_1i=>
k_1e v_1i H_1a n_1b) H_1a n_1b fun v_1f H_1g n_1h=>
aq (fy v_11 v_1f (.bool false)) fun v_1j=>
some (v_1j,H_1g,n_1h)
noncomputable def C92_0(k:Nat)(v0:Value)(H:Hp)(n:Nat):Res:=B92_0 cal k v0 H n
theorem h92_0(k:Nat)(v0:Value)(H:Hp)(n:Nat):aY P cal A (k+1) 92 [v0] H n=C92_0 cal k v0 H n:=by
 have h:aY P cal A (k+1) 92 [v0] H n=B92_0 cal k v0 H n:=by
  rw[bY (fn:=Go.Proofs.Try.f92) (c:=code92) (rs:=JV) (by kernel_rfl) (by kernel_rfl) (by kernel_rfl) (by kernel_rfl)]
  kernel_rfl
 rw[h,C92_0]
end Go.Proofs.Ytmjbdjnnojfhkaa.G
