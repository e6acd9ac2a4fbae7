/- The texts of functions, each with the proof that the evaluator says the same. -/
import Derived.Test.YtgojjellogiglaaH1
open Go Go.Ev
set_option maxRecDepth 1000000
set_option linter.unusedVariables false
noncomputable section
namespace Go.Proofs.Ytgojjellogiglaa.G
noncomputable def mj:Code:=cq 46
noncomputable def dz:List ResultVar:=dJ 46
noncomputable def K46_p (cal:Cal) (k:Nat):KR:=(cutK (A 46).c (ay P cal (aw P cal k) none 46 (cR mj) (Lv.b (A 46)) (av P dz) X0 (av P dz)))
noncomputable def K46_pr (cal:Cal) (k:Nat):KR:=(cutK (Lv.b (A 46)).c (ay P cal (aw P cal k) none 46 (cR (cR mj)) (Lv.b (Lv.b (A 46))) (av P dz) X0 (av P dz)))
noncomputable def XY (cal:Cal) (k:Nat):KR:=(cutK (Lv.b (Lv.b (A 46))).c (ay P cal (aw P cal k) none 46 (cR (cR (cR mj))) (Lv.b (Lv.b (Lv.b (A 46)))) (av P dz) X0 (av P dz)))
noncomputable def K46_prrl (cal:Cal) (k:Nat):KR:=(cutK (Lv.a (Lv.b (Lv.b (A 46)))).c (ay P cal (aw P cal k) none 46 (cR (cL (cR (cR mj)))) (Lv.b (Lv.a (Lv.b (Lv.b (A 46))))) (XY cal k) X0 (av P dz)))
noncomputable def uk (cal:Cal) (k:Nat):XR:=(upX 0 (XY cal k) X0)
noncomputable def Pv (cal:Cal) (k:Nat) (m1:Nat):KR:=(fun T H n D=>aw P cal m1 (Lv.a (Lv.b (Lv.a (Lv.b (Lv.b (A 46)))))) none 46 (cL (cR (cL (cR (cR mj))))) (XY cal k) (uk cal k) (av P dz) (cutT (Lv.a (Lv.b (Lv.a (Lv.b (Lv.b (A 46)))))).c T) H n D)
noncomputable def K46_prrlrll (cal:Cal) (k:Nat) (m1:Nat):KR:=(cutK (Lv.a (Lv.a (Lv.b (Lv.a (Lv.b (Lv.b (A 46))))))).c (ay P cal (aw P cal m1) none 46 (cR (cL (cL (cR (cL (cR (cR mj))))))) (Lv.b (Lv.a (Lv.a (Lv.b (Lv.a (Lv.b (Lv.b (A 46)))))))) (Pv cal k m1) (uk cal k) (av P dz)))
noncomputable def K46_prrlrlll (cal:Cal) (k:Nat) (m1:Nat):KR:=(cutK (Lv.a (Lv.a (Lv.a (Lv.b (Lv.a (Lv.b (Lv.b (A 46)))))))).c (ay P cal (aw P cal m1) none 46 (cR (cL (cL (cL (cR (cL (cR (cR mj)))))))) (Lv.b (Lv.a (Lv.a (Lv.a (Lv.b (Lv.a (Lv.b (Lv.b (A 46))))))))) (K46_prrlrll cal k m1) (uk cal k) (av P dz)))
noncomputable def K46_prrlrllr (cal:Cal) (k:Nat) (m1:Nat):KR:=(cutK (Lv.b (Lv.a (Lv.a (Lv.b (Lv.a (Lv.b (Lv.b (A 46)))))))).c (ay P cal (aw P cal m1) none 46 (cR (cR (cL (cL (cR (cL (cR (cR mj)))))))) (Lv.b (Lv.b (Lv.a (Lv.a (Lv.b (Lv.a (Lv.b (Lv.b (A 46))))))))) (Pv cal k m1) (uk cal k) (av P dz)))
noncomputable def K46_pxrrlrllrl (cal:Cal) (k:Nat) (m1:Nat):XR:=(upX 1 (K46_prrlrllr cal k m1) (uk cal k))
noncomputable def K46_prrr (cal:Cal) (k:Nat):KR:=(cutK (Lv.b (Lv.b (Lv.b (A 46)))).c (ay P cal (aw P cal k) none 46 (cR (cR (cR (cR mj)))) (Lv.b (Lv.b (Lv.b (Lv.b (A 46))))) (av P dz) X0 (av P dz)))
noncomputable def Mv (cal:Cal) (k:Nat):KR:=(cutK (Lv.b (Lv.b (Lv.b (Lv.b (A 46))))).c (ay P cal (aw P cal k) none 46 (cR (cR (cR (cR (cR mj))))) (Lv.b (Lv.b (Lv.b (Lv.b (Lv.b (A 46)))))) (av P dz) X0 (av P dz)))
noncomputable def K46_prrrrl (cal:Cal) (k:Nat):KR:=(cutK (Lv.a (Lv.b (Lv.b (Lv.b (Lv.b (A 46)))))).c (ay P cal (aw P cal k) none 46 (cR (cL (cR (cR (cR (cR mj)))))) (Lv.b (Lv.a (Lv.b (Lv.b (Lv.b (Lv.b (A 46))))))) (Mv cal k) X0 (av P dz)))
noncomputable def nY (cal:Cal) (k:Nat):XR:=(upX 2 (Mv cal k) X0)
noncomputable def Ax (cal:Cal) (k:Nat) (m1:Nat):KR:=(fun T H n D=>aw P cal m1 (Lv.a (Lv.b (Lv.a (Lv.b (Lv.b (Lv.b (Lv.b (A 46)))))))) none 46 (cL (cR (cL (cR (cR (cR (cR mj))))))) (Mv cal k) (nY cal k) (av P dz) (cutT (Lv.a (Lv.b (Lv.a (Lv.b (Lv.b (Lv.b (Lv.b (A 46)))))))).c T) H n D)
noncomputable def K46_prrrrlrll (cal:Cal) (k:Nat) (m1:Nat):KR:=(cutK (Lv.a (Lv.a (Lv.b (Lv.a (Lv.b (Lv.b (Lv.b (Lv.b (A 46))))))))).c (ay P cal (aw P cal m1) none 46 (cR (cL (cL (cR (cL (cR (cR (cR (cR mj))))))))) (Lv.b (Lv.a (Lv.a (Lv.b (Lv.a (Lv.b (Lv.b (Lv.b (Lv.b (A 46)))))))))) (Ax cal k m1) (nY cal k) (av P dz)))
noncomputable def K46_prrrrlrlll (cal:Cal) (k:Nat) (m1:Nat):KR:=(cutK (Lv.a (Lv.a (Lv.a (Lv.b (Lv.a (Lv.b (Lv.b (Lv.b (Lv.b (A 46)))))))))).c (ay P cal (aw P cal m1) none 46 (cR (cL (cL (cL (cR (cL (cR (cR (cR (cR mj)))))))))) (Lv.b (Lv.a (Lv.a (Lv.a (Lv.b (Lv.a (Lv.b (Lv.b (Lv.b (Lv.b (A 46))))))))))) (K46_prrrrlrll cal k m1) (nY cal k) (av P dz)))
noncomputable def BQ (cal:Cal) (k:Nat) (m1:Nat):KR:=(cutK (Lv.b (Lv.a (Lv.a (Lv.b (Lv.a (Lv.b (Lv.b (Lv.b (Lv.b (A 46)))))))))).c (ay P cal (aw P cal m1) none 46 (cR (cR (cL (cL (cR (cL (cR (cR (cR (cR mj)))))))))) (Lv.b (Lv.b (Lv.a (Lv.a (Lv.b (Lv.a (Lv.b (Lv.b (Lv.b (Lv.b (A 46))))))))))) (Ax cal k m1) (nY cal k) (av P dz)))
noncomputable def K46_pxrrrrlrllrl (cal:Cal) (k:Nat) (m1:Nat):XR:=(upX 3 (BQ cal k m1) (nY cal k))
noncomputable def K46_prrrrlrllrll (cal:Cal) (k:Nat) (m1:Nat):KR:=(cutK (Lv.a (Lv.a (Lv.b (Lv.a (Lv.a (Lv.b (Lv.a (Lv.b (Lv.b (Lv.b (Lv.b (A 46)))))))))))).c (ay P cal (aw P cal m1) none 46 (cR (cL (cL (cR (cL (cL (cR (cL (cR (cR (cR (cR mj)))))))))))) (Lv.b (Lv.a (Lv.a (Lv.b (Lv.a (Lv.a (Lv.b (Lv.a (Lv.b (Lv.b (Lv.b (Lv.b (A 46))))))))))))) (BQ cal k m1) (K46_pxrrrrlrllrl cal k m1) (av P dz)))
noncomputable def K46_prrrrlrllrllr (cal:Cal) (k:Nat) (m1:Nat):KR:=(cutK (Lv.b (Lv.a (Lv.a (Lv.b (Lv.a (Lv.a (Lv.b (Lv.a (Lv.b (Lv.b (Lv.b (Lv.b (A 46))))))))))))).c (ay P cal (aw P cal m1) none 46 (cR (cR (cL (cL (cR (cL (cL (cR (cL (cR (cR (cR (cR mj))))))))))))) (Lv.b (Lv.b (Lv.a (Lv.a (Lv.b (Lv.a (Lv.a (Lv.b (Lv.a (Lv.b (Lv.b (Lv.b (Lv.b (A 46)))))))))))))) (BQ cal k m1) (K46_pxrrrrlrllrl cal k m1) (av P dz)))
noncomputable def K46_prrrrr (cal:Cal) (k:Nat):KR:=(cutK (Lv.b (Lv.b (Lv.b (Lv.b (Lv.b (A 46)))))).c (ay P cal (aw P cal k) none 46 (cR (cR (cR (cR (cR (cR mj)))))) (Lv.b (Lv.b (Lv.b (Lv.b (Lv.b (Lv.b (A 46))))))) (av P dz) X0 (av P dz)))
noncomputable def E46_3 (cal:Cal) (k m1:Nat):KR:=ay P cal (aw P cal m1) none 46 (cR (cR (cL (cL (cR (cL (cR (cR (cR (cR mj)))))))))) (Lv.b (Lv.b (Lv.a (Lv.a (Lv.b (Lv.a (Lv.b (Lv.b (Lv.b (Lv.b (A 46))))))))))) (Ax cal k m1) (nY cal k) (av P dz)
noncomputable def E46_2 (cal:Cal) (k m1:Nat):KR:=ay P cal (aw P cal m1) none 46 (cL (cL (cR (cL (cR (cR (cR (cR mj)))))))) (Lv.a (Lv.a (Lv.b (Lv.a (Lv.b (Lv.b (Lv.b (Lv.b (A 46))))))))) (Ax cal k m1) (nY cal k) (av P dz)
noncomputable def Wx (cal:Cal) (k m1:Nat):V4:=fun u1 u4 u6 u7 H n=>aw P cal m1 (Lv.a (Lv.b (Lv.a (Lv.b (Lv.b (Lv.b (Lv.b (A 46)))))))) none 46 (cL (cR (cL (cR (cR (cR (cR mj))))))) (Mv cal k) (nY cal k) (av P dz) (Tr.set (Tr.set (Tr.set (Tr.set Tr.nil 7 (some u7)) 6 (some u6)) 4 (some u4)) 1 (some u1)) H n []
noncomputable def E46_1 (cal:Cal) (k m1:Nat):KR:=ay P cal (aw P cal m1) none 46 (cL (cL (cR (cL (cR (cR mj)))))) (Lv.a (Lv.a (Lv.b (Lv.a (Lv.b (Lv.b (A 46))))))) (Pv cal k m1) (uk cal k) (av P dz)
noncomputable def R46_1 (cal:Cal) (k m1:Nat):V3:=fun u1 u4 u5 H n=>aw P cal m1 (Lv.a (Lv.b (Lv.a (Lv.b (Lv.b (A 46)))))) none 46 (cL (cR (cL (cR (cR mj))))) (XY cal k) (uk cal k) (av P dz) (Tr.set (Tr.set (Tr.set Tr.nil 5 (some u5)) 4 (some u4)) 1 (some u1)) H n []
noncomputable def B46_3 (cal:Cal) (k m1:Nat) (b2:V4) (u1 u4 u6 u7:Value) (H:Hp) (n:Nat):Res:=
binK P .add 3 (.tmp 25) (.const (.int .i64 1)) u7 (.int .i64 1) fun v_v=>
b2 u1 u4 u6 v_v H n
noncomputable def Rz (cal:Cal) (k m1:Nat) (b2:V4) (u1 u4 u6 u7:Value) (H:Hp) (n:Nat):Res:=B46_3 cal k m1 b2 u1 u4 u6 u7 H n
theorem h46_3 (cal:Cal) (k m1:Nat) (u1 u4 u6 u7:Value) (H:Hp) (n:Nat):labK (E46_3 cal k m1) (Tr.set (Tr.set (Tr.set (Tr.set Tr.nil 7 (some u7)) 6 (some u6)) 4 (some u4)) 1 (some u1)) H n []=Rz cal k m1 (Wx cal k m1) u1 u4 u6 u7 H n:=by
  refine Eq.trans (b:=B46_3 cal k m1 (Wx cal k m1) u1 u4 u6 u7 H n) (by kernel_rfl) ?_
  rw[Rz]
noncomputable def B46_2 (cal:Cal) (k m1:Nat) (j3:V4) (b2:V4) (u1 u4 u6 u7:Value) (H:Hp) (n:Nat):Res:=
binK P .lss 3 (.tmp 22) (.tmp 23) u7 u4 fun v_t=>
ifK v_t (
aq (aW u1) fun a_y=>aq (az P H 26 a_y) fun v_x=>
aV P cal 84 [v_x,u7] H n fun v_10 H_11 n_12=>
aq (lenV P 44 u6) fun v_15=>
binK P .eql 3 (.tmp 31) (.const (.int .i64 0)) v_15 (.int .i64 0) fun v_16=>
aQ v_16 false (fun k_18=>
k_18 v_10 H_11 n_12) H_11 n_12 fun v_19 H_1a n_1b=>
aQ v_16 false (fun k_1d=>
k_1d u6 H_1a n_1b) H_1a n_1b fun v_1e H_1f n_1g=>
aQ v_16 false (fun k_1i=>
aV P cal 59 [v_19,v_1e] H_1f n_1g fun v_1m H_1n n_1o=>
k_1i v_1m H_1n n_1o) H_1f n_1g fun v_1j H_1k n_1l=>
aq (cK v_16 (.bool true) v_1j) fun v_1p=>
aQ v_1p true (fun k_1r=>
aq (aW u1) fun a_1w=>aq (az P H_1k 26 a_1w) fun v_1v=>
k_1r v_1v H_1k n_1l) H_1k n_1l fun v_1s H_1t n_1u=>
aQ v_1p true (fun k_1x=>
k_1x v_10 H_1t n_1u) H_1t n_1u fun v_1y H_1z n_20=>
aQ v_1p true (fun k_22=>
aV P cal 58 [v_1s,v_1y] H_1z n_20 fun v_26 H_27 n_28=>
k_22 v_26 H_27 n_28) H_1z n_20 fun v_23 H_24 n_25=>
aq (cK v_1p v_23 (.bool false)) fun v_29=>
aQ v_29 true (fun k_2b=>
aq (aW u1) fun a_2g=>aq (az P H_24 26 a_2g) fun v_2f=>
k_2b v_2f H_24 n_25) H_24 n_25 fun v_2c H_2d n_2e=>
aQ v_29 true (fun k_2h=>
k_2h v_10 H_2d n_2e) H_2d n_2e fun v_2i H_2j n_2k=>
aQ v_29 true (fun k_2m=>
aV P cal 44 [v_2c,v_2i] H_2j n_2k fun v_2q H_2r n_2s=>
k_2m v_2q H_2r n_2s) H_2j n_2k fun v_2n H_2o n_2p=>
aq (cK v_29 v_2n (.bool false)) fun v_2t=>
ifK v_2t (
j3 u1 u4 v_10 u7 H_2o n_2p) (
j3 u1 u4 u6 u7 H_2o n_2p)) (
aq (lenV P 44 u6) fun v_2y=>
binK P .gtr 3 (.tmp 51) (.const (.int .i64 0)) v_2y (.int .i64 0) fun v_2z=>
some ((Value.tuple ⟨[u6,v_2z]⟩),H,n))
noncomputable def C46_2 (cal:Cal) (k m1:Nat) (b2:V4) (u1 u4 u6 u7:Value) (H:Hp) (n:Nat):Res:=B46_2 cal k m1 (Rz cal k m1 b2) b2 u1 u4 u6 u7 H n
noncomputable def S46_2 (cal:Cal) (k:Nat):Nat→V4:=fun m=>Nat.rec (motive:=fun _=>V4) (C46_2 cal k 0 (fun _ _ _ _ _ _=>none)) (fun m ih=>C46_2 cal k (m+1) ih) m
theorem h46_2 (cal:Cal) (k m1:Nat) (u1 u4 u6 u7:Value) (H:Hp) (n:Nat):labK (E46_2 cal k m1) (Tr.set (Tr.set (Tr.set (Tr.set Tr.nil 7 (some u7)) 6 (some u6)) 4 (some u4)) 1 (some u1)) H n []=C46_2 cal k m1 (Wx cal k m1) u1 u4 u6 u7 H n:=by
  refine Eq.trans (b:=B46_2 cal k m1 (fun u1 u4 u6 u7 H n=>labK (E46_3 cal k m1) (Tr.set (Tr.set (Tr.set (Tr.set Tr.nil 7 (some u7)) 6 (some u6)) 4 (some u4)) 1 (some u1)) H n []) (Wx cal k m1) u1 u4 u6 u7 H n) (by kernel_rfl) ?_
  rw[C46_2]
  have e3:(fun u1 u4 u6 u7 H n=>labK (E46_3 cal k m1) (Tr.set (Tr.set (Tr.set (Tr.set Tr.nil 7 (some u7)) 6 (some u6)) 4 (some u4)) 1 (some u1)) H n [])=(Rz cal k m1 (Wx cal k m1)):=by funext u1 u4 u6 u7 H n; exact h46_3 ..
  rw[e3]
theorem q46_2 (cal:Cal) (k:Nat):∀(m:Nat) (u1 u4 u6 u7:Value) (H:Hp) (n:Nat),labK (E46_2 cal k m) (Tr.set (Tr.set (Tr.set (Tr.set Tr.nil 7 (some u7)) 6 (some u6)) 4 (some u4)) 1 (some u1)) H n []=S46_2 cal k m u1 u4 u6 u7 H n
  | 0,u1,u4,u6,u7,H,n=>by
    rw[h46_2]
    have e:Wx cal k 0=fun _ _ _ _ _ _=>none:=by funext u1 u4 u6 u7 H n; kernel_rfl
    rw[e]; rfl
  | m+1,u1,u4,u6,u7,H,n=>by
    rw[h46_2]
    have e:Wx cal k (m+1)=S46_2 cal k m:=by
      funext u1 u4 u6 u7 H n
      have e:Wx cal k (m+1) u1 u4 u6 u7 H n=labK (E46_2 cal k m) (Tr.set (Tr.set (Tr.set (Tr.set Tr.nil 7 (some u7)) 6 (some u6)) 4 (some u4)) 1 (some u1)) H n []:=by kernel_rfl
      rw[e]; exact q46_2 ..
    rw[e]; rfl
noncomputable def B46_1 (cal:Cal) (k m1:Nat) (j2:V4) (b1:V3) (u1 u4 u5:Value) (H:Hp) (n:Nat):Res:=
aq (ax P 26 u1 0) fun v_9=>
aq (aW v_9) fun a_b=>aq (az P H 22 a_b) fun v_a=>
aq (lenV P 22 v_a) fun v_c=>
binK P .lss 3 (.tmp 9) (.tmp 12) u5 v_c fun v_d=>
ifK v_d (
aq (ax P 26 u1 2) fun v_f=>
aq (aW v_f) fun a_h=>aq (az P H 24 a_h) fun v_g=>
aq (lenV P 24 v_g) fun v_i=>
binK P .add 3 (.tmp 19) (.const (.int .i64 1)) v_i (.int .i64 1) fun v_j=>
binK P .mul 3 (.tmp 16) (.tmp 20) u4 v_j fun v_k=>
binK P .add 3 (.tmp 14) (.const (.int .i64 1)) u5 (.int .i64 1) fun v_n=>
b1 u1 v_k v_n H n) (
j2 u1 u4 (.slice none 0 0) (.int .i64 0) H n)
noncomputable def C46_1 (cal:Cal) (k m1:Nat) (b1:V3) (u1 u4 u5:Value) (H:Hp) (n:Nat):Res:=B46_1 cal k m1 (S46_2 cal k k) b1 u1 u4 u5 H n
noncomputable def S46_1 (cal:Cal) (k:Nat):Nat→V3:=fun m=>Nat.rec (motive:=fun _=>V3) (C46_1 cal k 0 (fun _ _ _ _ _=>none)) (fun m ih=>C46_1 cal k (m+1) ih) m
theorem h46_1 (cal:Cal) (k m1:Nat) (u1 u4 u5:Value) (H:Hp) (n:Nat):labK (E46_1 cal k m1) (Tr.set (Tr.set (Tr.set Tr.nil 5 (some u5)) 4 (some u4)) 1 (some u1)) H n []=C46_1 cal k m1 (R46_1 cal k m1) u1 u4 u5 H n:=by
  refine Eq.trans (b:=B46_1 cal k m1 (fun u1 u4 u6 u7 H n=>labK (E46_2 cal k k) (Tr.set (Tr.set (Tr.set (Tr.set Tr.nil 7 (some u7)) 6 (some u6)) 4 (some u4)) 1 (some u1)) H n []) (R46_1 cal k m1) u1 u4 u5 H n) (by kernel_rfl) ?_
  rw[C46_1]
  have e2:(fun u1 u4 u6 u7 H n=>labK (E46_2 cal k k) (Tr.set (Tr.set (Tr.set (Tr.set Tr.nil 7 (some u7)) 6 (some u6)) 4 (some u4)) 1 (some u1)) H n [])=(S46_2 cal k k):=by funext u1 u4 u6 u7 H n; exact q46_2 ..
  rw[e2]
theorem q46_1 (cal:Cal) (k:Nat):∀(m:Nat) (u1 u4 u5:Value) (H:Hp) (n:Nat),labK (E46_1 cal k m) (Tr.set (Tr.set (Tr.set Tr.nil 5 (some u5)) 4 (some u4)) 1 (some u1)) H n []=S46_1 cal k m u1 u4 u5 H n
  | 0,u1,u4,u5,H,n=>by
    rw[h46_1]
    have e:R46_1 cal k 0=fun _ _ _ _ _=>none:=by funext u1 u4 u5 H n; kernel_rfl
    rw[e]; rfl
  | m+1,u1,u4,u5,H,n=>by
    rw[h46_1]
    have e:R46_1 cal k (m+1)=S46_1 cal k m:=by
      funext u1 u4 u5 H n
      have e:R46_1 cal k (m+1) u1 u4 u5 H n=labK (E46_1 cal k m) (Tr.set (Tr.set (Tr.set Tr.nil 5 (some u5)) 4 (some u4)) 1 (some u1)) H n []:=by kernel_rfl
      rw[e]; exact q46_1 ..
    rw[e]; rfl
noncomputable def B46_0 (cal:Cal) (k:Nat) (j1:V3) (v0:Value) (H:Hp) (n:Nat):Res:=
boxK 26 v0 H n fun v_1 H_2 n_3=>
j1 v_1 (.int .i64 1) (.int .i64 0) H_2 n_3
noncomputable def C46_0 (cal:Cal) (k:Nat) (v0:Value) (H:Hp) (n:Nat):Res:=B46_0 cal k (S46_1 cal k k) v0 H n
theorem h46_0 (cal:Cal) (k:Nat) (v0:Value) (H:Hp) (n:Nat):aZ P cal A (k+1) 46 [v0] H n=C46_0 cal k v0 H n:=by
  have h:aZ P cal A (k+1) 46 [v0] H n=B46_0 cal k (fun u1 u4 u5 H n=>labK (E46_1 cal k k) (Tr.set (Tr.set (Tr.set Tr.nil 5 (some u5)) 4 (some u4)) 1 (some u1)) H n []) v0 H n:=by
    rw[bJ (fn:=Go.Proofs.Try.f46) (c:=mj) (rs:=dz) (by kernel_rfl) (by kernel_rfl) (by kernel_rfl) (by kernel_rfl)]
    kernel_rfl
  rw[h,C46_0]
  have e1:(fun u1 u4 u5 H n=>labK (E46_1 cal k k) (Tr.set (Tr.set (Tr.set Tr.nil 5 (some u5)) 4 (some u4)) 1 (some u1)) H n [])=(S46_1 cal k k):=by funext u1 u4 u5 H n; exact q46_1 ..
  rw[e1]
noncomputable def code54:Code:=cq 54
noncomputable def AK:List ResultVar:=dJ 54
noncomputable def K54_p (cal:Cal) (k:Nat):KR:=(cutK (A 54).c (ay P cal (aw P cal k) none 54 (cR code54) (Lv.b (A 54)) (av P AK) X0 (av P AK)))
noncomputable def K54_pr (cal:Cal) (k:Nat):KR:=(cutK (Lv.b (A 54)).c (ay P cal (aw P cal k) none 54 (cR (cR code54)) (Lv.b (Lv.b (A 54))) (av P AK) X0 (av P AK)))
noncomputable def B54_0 (cal:Cal) (k:Nat) (v0 v1:Value) (H:Hp) (n:Nat):Res:=
cX P 53 H n fun v_1 H_2 n_3=>
aq (fK P 53 [(0,v0),(1,v1)]) fun v_6=>
aq (bx P 53 v_1 v_6 H_2) fun H_8=>
aq (resV P (Tr.set Tr.nil 4 (some v_1)) H_8 AK) fun v_9=>some (oneV v_9,H_8,n_3)
noncomputable def C54_0 (cal:Cal) (k:Nat) (v0 v1:Value) (H:Hp) (n:Nat):Res:=B54_0 cal k v0 v1 H n
theorem h54_0 (cal:Cal) (k:Nat) (v0 v1:Value) (H:Hp) (n:Nat):aZ P cal A (k+1) 54 [v0,v1] H n=C54_0 cal k v0 v1 H n:=by
  have h:aZ P cal A (k+1) 54 [v0,v1] H n=B54_0 cal k v0 v1 H n:=by
    rw[bJ (fn:=Go.Proofs.Try.f54) (c:=code54) (rs:=AK) (by kernel_rfl) (by kernel_rfl) (by kernel_rfl) (by kernel_rfl)]
    kernel_rfl
  rw[h,C54_0]
noncomputable def sZ:Code:=cq 58
noncomputable def gz:List ResultVar:=dJ 58
noncomputable def K58_p (cal:Cal) (k:Nat):KR:=(cutK (A 58).c (ay P cal (aw P cal k) none 58 (cR sZ) (Lv.b (A 58)) (av P gz) X0 (av P gz)))
noncomputable def K58_pr (cal:Cal) (k:Nat):KR:=(cutK (Lv.b (A 58)).c (ay P cal (aw P cal k) none 58 (cR (cR sZ)) (Lv.b (Lv.b (A 58))) (av P gz) X0 (av P gz)))
noncomputable def K58_prl (cal:Cal) (k:Nat):KR:=(cutK (Lv.a (Lv.b (A 58))).c (ay P cal (aw P cal k) none 58 (cR (cL (cR sZ))) (Lv.b (Lv.a (Lv.b (A 58)))) (K58_pr cal k) X0 (av P gz)))
noncomputable def K58_prlrl (cal:Cal) (k:Nat):KR:=(cutK (Lv.a (Lv.b (Lv.a (Lv.b (A 58))))).c (ay P cal (aw P cal k) none 58 (cR (cL (cR (cL (cR sZ))))) (Lv.b (Lv.a (Lv.b (Lv.a (Lv.b (A 58)))))) (K58_pr cal k) X0 (av P gz)))
noncomputable def XZ (cal:Cal) (k:Nat):KR:=(cutK (Lv.b (Lv.b (A 58))).c (ay P cal (aw P cal k) none 58 (cR (cR (cR sZ))) (Lv.b (Lv.b (Lv.b (A 58)))) (av P gz) X0 (av P gz)))
noncomputable def K58_prrl (cal:Cal) (k:Nat):KR:=(cutK (Lv.a (Lv.b (Lv.b (A 58)))).c (ay P cal (aw P cal k) none 58 (cR (cL (cR (cR sZ)))) (Lv.b (Lv.a (Lv.b (Lv.b (A 58))))) (XZ cal k) X0 (av P gz)))
noncomputable def uJ (cal:Cal) (k:Nat):XR:=(upX 0 (XZ cal k) X0)
noncomputable def Pw (cal:Cal) (k:Nat) (m1:Nat):KR:=(fun T H n D=>aw P cal m1 (Lv.a (Lv.b (Lv.a (Lv.b (Lv.b (A 58)))))) none 58 (cL (cR (cL (cR (cR sZ))))) (XZ cal k) (uJ cal k) (av P gz) (cutT (Lv.a (Lv.b (Lv.a (Lv.b (Lv.b (A 58)))))).c T) H n D)
noncomputable def K58_prrlrll (cal:Cal) (k:Nat) (m1:Nat):KR:=(cutK (Lv.a (Lv.a (Lv.b (Lv.a (Lv.b (Lv.b (A 58))))))).c (ay P cal (aw P cal m1) none 58 (cR (cL (cL (cR (cL (cR (cR sZ))))))) (Lv.b (Lv.a (Lv.a (Lv.b (Lv.a (Lv.b (Lv.b (A 58)))))))) (Pw cal k m1) (uJ cal k) (av P gz)))
noncomputable def K58_prrlrlll (cal:Cal) (k:Nat) (m1:Nat):KR:=(cutK (Lv.a (Lv.a (Lv.a (Lv.b (Lv.a (Lv.b (Lv.b (A 58)))))))).c (ay P cal (aw P cal m1) none 58 (cR (cL (cL (cL (cR (cL (cR (cR sZ)))))))) (Lv.b (Lv.a (Lv.a (Lv.a (Lv.b (Lv.a (Lv.b (Lv.b (A 58))))))))) (K58_prrlrll cal k m1) (uJ cal k) (av P gz)))
noncomputable def HK (cal:Cal) (k:Nat) (m1:Nat):KR:=(cutK (Lv.b (Lv.a (Lv.a (Lv.b (Lv.a (Lv.b (Lv.b (A 58)))))))).c (ay P cal (aw P cal m1) none 58 (cR (cR (cL (cL (cR (cL (cR (cR sZ)))))))) (Lv.b (Lv.b (Lv.a (Lv.a (Lv.b (Lv.a (Lv.b (Lv.b (A 58))))))))) (Pw cal k m1) (uJ cal k) (av P gz)))
noncomputable def K58_pxrrlrllrl (cal:Cal) (k:Nat) (m1:Nat):XR:=(upX 1 (HK cal k m1) (uJ cal k))
noncomputable def K58_prrlrllrll (cal:Cal) (k:Nat) (m1:Nat):KR:=(cutK (Lv.a (Lv.a (Lv.b (Lv.a (Lv.a (Lv.b (Lv.a (Lv.b (Lv.b (A 58)))))))))).c (ay P cal (aw P cal m1) none 58 (cR (cL (cL (cR (cL (cL (cR (cL (cR (cR sZ)))))))))) (Lv.b (Lv.a (Lv.a (Lv.b (Lv.a (Lv.a (Lv.b (Lv.a (Lv.b (Lv.b (A 58))))))))))) (HK cal k m1) (K58_pxrrlrllrl cal k m1) (av P gz)))
noncomputable def K58_prrlrllrllrl (cal:Cal) (k:Nat) (m1:Nat):KR:=(cutK (Lv.a (Lv.b (Lv.a (Lv.a (Lv.b (Lv.a (Lv.a (Lv.b (Lv.a (Lv.b (Lv.b (A 58)))))))))))).c (ay P cal (aw P cal m1) none 58 (cR (cL (cR (cL (cL (cR (cL (cL (cR (cL (cR (cR sZ)))))))))))) (Lv.b (Lv.a (Lv.b (Lv.a (Lv.a (Lv.b (Lv.a (Lv.a (Lv.b (Lv.a (Lv.b (Lv.b (A 58))))))))))))) (HK cal k m1) (K58_pxrrlrllrl cal k m1) (av P gz)))
noncomputable def K58_prrr (cal:Cal) (k:Nat):KR:=(cutK (Lv.b (Lv.b (Lv.b (A 58)))).c (ay P cal (aw P cal k) none 58 (cR (cR (cR (cR sZ)))) (Lv.b (Lv.b (Lv.b (Lv.b (A 58))))) (av P gz) X0 (av P gz)))
noncomputable def E58_1 (cal:Cal) (k m1:Nat):KR:=ay P cal (aw P cal m1) none 58 (cL (cL (cR (cL (cR (cR sZ)))))) (Lv.a (Lv.a (Lv.b (Lv.a (Lv.b (Lv.b (A 58))))))) (Pw cal k m1) (uJ cal k) (av P gz)
noncomputable def R58_1 (cal:Cal) (k m1:Nat):V3:=fun u1 u2 u5 H n=>aw P cal m1 (Lv.a (Lv.b (Lv.a (Lv.b (Lv.b (A 58)))))) none 58 (cL (cR (cL (cR (cR sZ))))) (XZ cal k) (uJ cal k) (av P gz) (Tr.set (Tr.set (Tr.set Tr.nil 5 (some u5)) 2 (some u2)) 1 (some u1)) H n []
noncomputable def B58_1 (cal:Cal) (k m1:Nat) (b1:V3) (u1 u2 u5:Value) (H:Hp) (n:Nat):Res:=
aq (lenV P 44 u1) fun v_g=>
binK P .lss 3 (.tmp 12) (.tmp 14) u5 v_g fun v_h=>
ifK v_h (
aq (aY P 44 u1 u5) fun v_k=>
aq (aW v_k) fun a_l=>aq (az P H 3 a_l) fun v_m=>
binK P .neq 3 (.tmp 21) (.const (.int .i64 (-1))) v_m (.int .i64 (-1)) fun v_n=>
ix v_n true (fun k_p=>
k_p u1 .p H n) .p H n fun v_q x_r H_s n_t=>
ix v_n true (fun k_v=>
k_v u5 .p H_s n_t) .p H_s n_t fun v_w x_x H_y n_z=>
ix v_n true (fun k_11=>
aq (aY P 44 v_q v_w) fun v_16=>
k_11 v_16 .p H_y n_z) .p H_y n_z fun v_12 x_13 H_14 n_15=>
ix v_n true (fun k_17=>
aq (aW v_12) fun a_1c=>aq (az P H_14 3 a_1c) fun v_1d=>
k_17 v_1d (.l 3 a_1c) H_14 n_15) .p H_14 n_15 fun v_18 x_19 H_1a n_1b=>
ix v_n true (fun k_1e=>
aq (ax P 26 u2 2) fun v_1j=>
k_1e v_1j .p H_1a n_1b) .p H_1a n_1b fun v_1f x_1g H_1h n_1i=>
ix v_n true (fun k_1k=>
aq (aW v_1f) fun a_1p=>aq (az P H_1h 24 a_1p) fun v_1q=>
k_1k v_1q (.l 24 a_1p) H_1h n_1i) .p H_1h n_1i fun v_1l x_1m H_1n n_1o=>
ix v_n true (fun k_1r=>
aq (lenV P 24 v_1l) fun v_1w=>
k_1r v_1w .p H_1n n_1o) .p H_1n n_1o fun v_1s x_1t H_1u n_1v=>
ix v_n true (fun k_1x=>
binK P .sub 3 (.tmp 30) (.const (.int .i64 1)) v_1s (.int .i64 1) fun v_22=>
k_1x v_22 .p H_1u n_1v) .p H_1u n_1v fun v_1y x_1z H_20 n_21=>
ix v_n true (fun k_23=>
aV P cal 32 [v_18,(.int .i64 0),v_1y] H_20 n_21 fun v_28 H_29 n_2a=>
k_23 v_28 .e H_29 n_2a) .e H_20 n_21 fun v_24 x_25 H_26 n_27=>
ix v_n true (fun k_2b=>
aq (ej P v_24 (Op.unary UnOp.not v_24)) fun v_2g=>
k_2b v_2g .p H_26 n_27) .p H_26 n_27 fun v_2c x_2d H_2e n_2f=>
ix v_n true (fun k_2h=>
k_2h v_2c .p H_2e n_2f) .p H_2e n_2f fun v_2i x_2j H_2k n_2l=>
ix v_2i false (fun k_2n=>
aq (aW u2) fun a_2s=>aq (az P H_2k 26 a_2s) fun v_2t=>
k_2n v_2t (.l 26 a_2s) H_2k n_2l) .p H_2k n_2l fun v_2o x_2p H_2q n_2r=>
ix v_2i false (fun k_2u=>
k_2u u1 .p H_2q n_2r) .p H_2q n_2r fun v_2v x_2w H_2x n_2y=>
ix v_2i false (fun k_30=>
k_30 u5 .p H_2x n_2y) .p H_2x n_2y fun v_31 x_32 H_33 n_34=>
ix v_2i false (fun k_36=>
aq (aY P 44 v_2v v_31) fun v_3b=>
k_36 v_3b .p H_33 n_34) .p H_33 n_34 fun v_37 x_38 H_39 n_3a=>
ix v_2i false (fun k_3c=>
aq (aW v_37) fun a_3h=>aq (az P H_39 3 a_3h) fun v_3i=>
k_3c v_3i (.l 3 a_3h) H_39 n_3a) .p H_39 n_3a fun v_3d x_3e H_3f n_3g=>
ix v_2i false (fun k_3j=>
k_3j u5 .p H_3f n_3g) .p H_3f n_3g fun v_3k x_3l H_3m n_3n=>
ix v_2i false (fun k_3p=>
aV P cal 21 [v_2o,v_3d,v_3k] H_3m n_3n fun v_3u H_3v n_3w=>
k_3p v_3u .e H_3v n_3w) .e H_3m n_3n fun v_3q x_3r H_3s n_3t=>
ix v_2i false (fun k_3x=>
aq (ej P v_3q (Op.unary UnOp.not v_3q)) fun v_42=>
k_3x v_42 .p H_3s n_3t) .p H_3s n_3t fun v_3y x_3z H_40 n_41=>
ix v_n true (fun k_43=>
aq (cK v_2i (.bool true) v_3y) fun v_48=>
k_43 v_48 .p H_40 n_41) .p H_40 n_41 fun v_44 x_45 H_46 n_47=>
aq (cK v_n v_44 (.bool false)) fun v_49=>
ifK v_49 (
some ((.bool false),H_46,n_47)) (
binK P .add 3 (.tmp 16) (.const (.int .i64 1)) u5 (.int .i64 1) fun v_4c=>
b1 u1 u2 v_4c H_46 n_47)) (
some ((.bool true),H,n))
noncomputable def C58_1 (cal:Cal) (k m1:Nat) (b1:V3) (u1 u2 u5:Value) (H:Hp) (n:Nat):Res:=B58_1 cal k m1 b1 u1 u2 u5 H n
noncomputable def S58_1 (cal:Cal) (k:Nat):Nat→V3:=fun m=>Nat.rec (motive:=fun _=>V3) (C58_1 cal k 0 (fun _ _ _ _ _=>none)) (fun m ih=>C58_1 cal k (m+1) ih) m
theorem h58_1 (cal:Cal) (k m1:Nat) (u1 u2 u5:Value) (H:Hp) (n:Nat):labK (E58_1 cal k m1) (Tr.set (Tr.set (Tr.set Tr.nil 5 (some u5)) 2 (some u2)) 1 (some u1)) H n []=C58_1 cal k m1 (R58_1 cal k m1) u1 u2 u5 H n:=by
  refine Eq.trans (b:=B58_1 cal k m1 (R58_1 cal k m1) u1 u2 u5 H n) (by kernel_rfl) ?_
  rw[C58_1]
theorem q58_1 (cal:Cal) (k:Nat):∀(m:Nat) (u1 u2 u5:Value) (H:Hp) (n:Nat),labK (E58_1 cal k m) (Tr.set (Tr.set (Tr.set Tr.nil 5 (some u5)) 2 (some u2)) 1 (some u1)) H n []=S58_1 cal k m u1 u2 u5 H n
  | 0,u1,u2,u5,H,n=>by
    rw[h58_1]
    have e:R58_1 cal k 0=fun _ _ _ _ _=>none:=by funext u1 u2 u5 H n; kernel_rfl
    rw[e]; rfl
  | m+1,u1,u2,u5,H,n=>by
    rw[h58_1]
    have e:R58_1 cal k (m+1)=S58_1 cal k m:=by
      funext u1 u2 u5 H n
      have e:R58_1 cal k (m+1) u1 u2 u5 H n=labK (E58_1 cal k m) (Tr.set (Tr.set (Tr.set Tr.nil 5 (some u5)) 2 (some u2)) 1 (some u1)) H n []:=by kernel_rfl
      rw[e]; exact q58_1 ..
    rw[e]; rfl
noncomputable def B58_0 (cal:Cal) (k:Nat) (j1:V3) (v0 v1:Value) (H:Hp) (n:Nat):Res:=
boxK 26 v0 H n fun v_1 H_2 n_3=>
aq (lenV P 44 v1) fun v_6=>
aq (ax P 26 v_1 0) fun v_7=>
aq (aW v_7) fun a_9=>aq (az P H_2 22 a_9) fun v_8=>
aq (lenV P 22 v_8) fun v_a=>
binK P .neq 3 (.tmp 7) (.tmp 10) v_6 v_a fun v_b=>
ifK v_b (
some ((.bool false),H_2,n_3)) (
j1 v1 v_1 (.int .i64 0) H_2 n_3)
noncomputable def C58_0 (cal:Cal) (k:Nat) (v0 v1:Value) (H:Hp) (n:Nat):Res:=B58_0 cal k (S58_1 cal k k) v0 v1 H n
theorem h58_0 (cal:Cal) (k:Nat) (v0 v1:Value) (H:Hp) (n:Nat):aZ P cal A (k+1) 58 [v0,v1] H n=C58_0 cal k v0 v1 H n:=by
  have h:aZ P cal A (k+1) 58 [v0,v1] H n=B58_0 cal k (fun u1 u2 u5 H n=>labK (E58_1 cal k k) (Tr.set (Tr.set (Tr.set Tr.nil 5 (some u5)) 2 (some u2)) 1 (some u1)) H n []) v0 v1 H n:=by
    rw[bJ (fn:=Go.Proofs.Try.f58) (c:=sZ) (rs:=gz) (by kernel_rfl) (by kernel_rfl) (by kernel_rfl) (by kernel_rfl)]
    kernel_rfl
  rw[h,C58_0]
  have e1:(fun u1 u2 u5 H n=>labK (E58_1 cal k k) (Tr.set (Tr.set (Tr.set Tr.nil 5 (some u5)) 2 (some u2)) 1 (some u1)) H n [])=(S58_1 cal k k):=by funext u1 u2 u5 H n; exact q58_1 ..
  rw[e1]
noncomputable def ry:Code:=cq 59
noncomputable def fy:List ResultVar:=dJ 59
noncomputable def K59_p (cal:Cal) (k:Nat):KR:=(cutK (A 59).c (ay P cal (aw P cal k) none 59 (cR ry) (Lv.b (A 59)) (av P fy) X0 (av P fy)))
noncomputable def K59_pr (cal:Cal) (k:Nat):KR:=(cutK (Lv.b (A 59)).c (ay P cal (aw P cal k) none 59 (cR (cR ry)) (Lv.b (Lv.b (A 59))) (av P fy) X0 (av P fy)))
noncomputable def K59_prl (cal:Cal) (k:Nat):KR:=(cutK (Lv.a (Lv.b (A 59))).c (ay P cal (aw P cal k) none 59 (cR (cL (cR ry))) (Lv.b (Lv.a (Lv.b (A 59)))) (K59_pr cal k) X0 (av P fy)))
noncomputable def K59_prlr (cal:Cal) (k:Nat):KR:=(cutK (Lv.b (Lv.a (Lv.b (A 59)))).c (ay P cal (aw P cal k) none 59 (cR (cR (cL (cR ry)))) (Lv.b (Lv.b (Lv.a (Lv.b (A 59))))) (K59_pr cal k) X0 (av P fy)))
noncomputable def K59_prlrrl (cal:Cal) (k:Nat):KR:=(cutK (Lv.a (Lv.b (Lv.b (Lv.a (Lv.b (A 59)))))).c (ay P cal (aw P cal k) none 59 (cR (cL (cR (cR (cL (cR ry)))))) (Lv.b (Lv.a (Lv.b (Lv.b (Lv.a (Lv.b (A 59))))))) (K59_pr cal k) X0 (av P fy)))
noncomputable def XK (cal:Cal) (k:Nat):KR:=(cutK (Lv.b (Lv.b (A 59))).c (ay P cal (aw P cal k) none 59 (cR (cR (cR ry))) (Lv.b (Lv.b (Lv.b (A 59)))) (av P fy) X0 (av P fy)))
noncomputable def K59_prrl (cal:Cal) (k:Nat):KR:=(cutK (Lv.a (Lv.b (Lv.b (A 59)))).c (ay P cal (aw P cal k) none 59 (cR (cL (cR (cR ry)))) (Lv.b (Lv.a (Lv.b (Lv.b (A 59))))) (XK cal k) X0 (av P fy)))
noncomputable def uQ (cal:Cal) (k:Nat):XR:=(upX 0 (XK cal k) X0)
noncomputable def Px (cal:Cal) (k:Nat) (m1:Nat):KR:=(fun T H n D=>aw P cal m1 (Lv.a (Lv.b (Lv.a (Lv.b (Lv.b (A 59)))))) none 59 (cL (cR (cL (cR (cR ry))))) (XK cal k) (uQ cal k) (av P fy) (cutT (Lv.a (Lv.b (Lv.a (Lv.b (Lv.b (A 59)))))).c T) H n D)
noncomputable def K59_prrlrll (cal:Cal) (k:Nat) (m1:Nat):KR:=(cutK (Lv.a (Lv.a (Lv.b (Lv.a (Lv.b (Lv.b (A 59))))))).c (ay P cal (aw P cal m1) none 59 (cR (cL (cL (cR (cL (cR (cR ry))))))) (Lv.b (Lv.a (Lv.a (Lv.b (Lv.a (Lv.b (Lv.b (A 59)))))))) (Px cal k m1) (uQ cal k) (av P fy)))
noncomputable def K59_prrlrlll (cal:Cal) (k:Nat) (m1:Nat):KR:=(cutK (Lv.a (Lv.a (Lv.a (Lv.b (Lv.a (Lv.b (Lv.b (A 59)))))))).c (ay P cal (aw P cal m1) none 59 (cR (cL (cL (cL (cR (cL (cR (cR ry)))))))) (Lv.b (Lv.a (Lv.a (Lv.a (Lv.b (Lv.a (Lv.b (Lv.b (A 59))))))))) (K59_prrlrll cal k m1) (uQ cal k) (av P fy)))
noncomputable def Ij (cal:Cal) (k:Nat) (m1:Nat):KR:=(cutK (Lv.b (Lv.a (Lv.a (Lv.b (Lv.a (Lv.b (Lv.b (A 59)))))))).c (ay P cal (aw P cal m1) none 59 (cR (cR (cL (cL (cR (cL (cR (cR ry)))))))) (Lv.b (Lv.b (Lv.a (Lv.a (Lv.b (Lv.a (Lv.b (Lv.b (A 59))))))))) (Px cal k m1) (uQ cal k) (av P fy)))
noncomputable def K59_pxrrlrllrl (cal:Cal) (k:Nat) (m1:Nat):XR:=(upX 1 (Ij cal k m1) (uQ cal k))
noncomputable def K59_prrlrllrll (cal:Cal) (k:Nat) (m1:Nat):KR:=(cutK (Lv.a (Lv.a (Lv.b (Lv.a (Lv.a (Lv.b (Lv.a (Lv.b (Lv.b (A 59)))))))))).c (ay P cal (aw P cal m1) none 59 (cR (cL (cL (cR (cL (cL (cR (cL (cR (cR ry)))))))))) (Lv.b (Lv.a (Lv.a (Lv.b (Lv.a (Lv.a (Lv.b (Lv.a (Lv.b (Lv.b (A 59))))))))))) (Ij cal k m1) (K59_pxrrlrllrl cal k m1) (av P fy)))
noncomputable def K59_prrlrllrllrl (cal:Cal) (k:Nat) (m1:Nat):KR:=(cutK (Lv.a (Lv.b (Lv.a (Lv.a (Lv.b (Lv.a (Lv.a (Lv.b (Lv.a (Lv.b (Lv.b (A 59)))))))))))).c (ay P cal (aw P cal m1) none 59 (cR (cL (cR (cL (cL (cR (cL (cL (cR (cL (cR (cR ry)))))))))))) (Lv.b (Lv.a (Lv.b (Lv.a (Lv.a (Lv.b (Lv.a (Lv.a (Lv.b (Lv.a (Lv.b (Lv.b (A 59))))))))))))) (Ij cal k m1) (K59_pxrrlrllrl cal k m1) (av P fy)))
noncomputable def K59_prrr (cal:Cal) (k:Nat):KR:=(cutK (Lv.b (Lv.b (Lv.b (A 59)))).c (ay P cal (aw P cal k) none 59 (cR (cR (cR (cR ry)))) (Lv.b (Lv.b (Lv.b (Lv.b (A 59))))) (av P fy) X0 (av P fy)))
noncomputable def E59_1 (cal:Cal) (k m1:Nat):KR:=ay P cal (aw P cal m1) none 59 (cL (cL (cR (cL (cR (cR ry)))))) (Lv.a (Lv.a (Lv.b (Lv.a (Lv.b (Lv.b (A 59))))))) (Px cal k m1) (uQ cal k) (av P fy)
noncomputable def R59_1 (cal:Cal) (k m1:Nat):V3:=fun u0 u1 u7 H n=>aw P cal m1 (Lv.a (Lv.b (Lv.a (Lv.b (Lv.b (A 59)))))) none 59 (cL (cR (cL (cR (cR ry))))) (XK cal k) (uQ cal k) (av P fy) (Tr.set (Tr.set (Tr.set Tr.nil 7 (some u7)) 1 (some u1)) 0 (some u0)) H n []
noncomputable def B59_1 (cal:Cal) (k m1:Nat) (b1:V3) (u0 u1 u7:Value) (H:Hp) (n:Nat):Res:=
aq (lenV P 44 u0) fun v_m=>
binK P .lss 3 (.tmp 18) (.tmp 20) u7 v_m fun v_n=>
ifK v_n (
aq (aY P 44 u0 u7) fun v_q=>
aq (aW v_q) fun a_r=>aq (az P H 3 a_r) fun v_s=>
aq (aY P 44 u1 u7) fun v_v=>
aq (aW v_v) fun a_w=>aq (az P H 3 a_w) fun v_x=>
binK P .neq 3 (.tmp 27) (.tmp 31) v_s v_x fun v_y=>
ifK v_y (
aq (aY P 44 u0 u7) fun v_11=>
aq (aW v_11) fun a_12=>aq (az P H 3 a_12) fun v_13=>
aq (aY P 44 u1 u7) fun v_16=>
aq (aW v_16) fun a_17=>aq (az P H 3 a_17) fun v_18=>
binK P .lss 3 (.tmp 36) (.tmp 40) v_13 v_18 fun v_19=>
some (v_19,H,n)) (
binK P .add 3 (.tmp 22) (.const (.int .i64 1)) u7 (.int .i64 1) fun v_1c=>
b1 u0 u1 v_1c H n)) (
some ((.bool false),H,n))
noncomputable def C59_1 (cal:Cal) (k m1:Nat) (b1:V3) (u0 u1 u7:Value) (H:Hp) (n:Nat):Res:=B59_1 cal k m1 b1 u0 u1 u7 H n
noncomputable def S59_1 (cal:Cal) (k:Nat):Nat→V3:=fun m=>Nat.rec (motive:=fun _=>V3) (C59_1 cal k 0 (fun _ _ _ _ _=>none)) (fun m ih=>C59_1 cal k (m+1) ih) m
theorem h59_1 (cal:Cal) (k m1:Nat) (u0 u1 u7:Value) (H:Hp) (n:Nat):labK (E59_1 cal k m1) (Tr.set (Tr.set (Tr.set Tr.nil 7 (some u7)) 1 (some u1)) 0 (some u0)) H n []=C59_1 cal k m1 (R59_1 cal k m1) u0 u1 u7 H n:=by
  refine Eq.trans (b:=B59_1 cal k m1 (R59_1 cal k m1) u0 u1 u7 H n) (by kernel_rfl) ?_
  rw[C59_1]
theorem q59_1 (cal:Cal) (k:Nat):∀(m:Nat) (u0 u1 u7:Value) (H:Hp) (n:Nat),labK (E59_1 cal k m) (Tr.set (Tr.set (Tr.set Tr.nil 7 (some u7)) 1 (some u1)) 0 (some u0)) H n []=S59_1 cal k m u0 u1 u7 H n
  | 0,u0,u1,u7,H,n=>by
    rw[h59_1]
    have e:R59_1 cal k 0=fun _ _ _ _ _=>none:=by funext u0 u1 u7 H n; kernel_rfl
    rw[e]; rfl
  | m+1,u0,u1,u7,H,n=>by
    rw[h59_1]
    have e:R59_1 cal k (m+1)=S59_1 cal k m:=by
      funext u0 u1 u7 H n
      have e:R59_1 cal k (m+1) u0 u1 u7 H n=labK (E59_1 cal k m) (Tr.set (Tr.set (Tr.set Tr.nil 7 (some u7)) 1 (some u1)) 0 (some u0)) H n []:=by kernel_rfl
      rw[e]; exact q59_1 ..
    rw[e]; rfl
noncomputable def B59_0 (cal:Cal) (k:Nat) (j1:V3) (v0 v1:Value) (H:Hp) (n:Nat):Res:=
aV P cal 45 [v0] H n fun v_3 H_4 n_5=>
aV P cal 45 [v1] H_4 n_5 fun v_7 H_8 n_9=>
binK P .neq 3 (.tmp 12) (.tmp 13) v_3 v_7 fun v_e=>
ifK v_e (
binK P .lss 3 (.tmp 15) (.tmp 16) v_3 v_7 fun v_h=>
some (v_h,H_8,n_9)) (
j1 v0 v1 (.int .i64 0) H_8 n_9)
noncomputable def C59_0 (cal:Cal) (k:Nat) (v0 v1:Value) (H:Hp) (n:Nat):Res:=B59_0 cal k (S59_1 cal k k) v0 v1 H n
theorem h59_0 (cal:Cal) (k:Nat) (v0 v1:Value) (H:Hp) (n:Nat):aZ P cal A (k+1) 59 [v0,v1] H n=C59_0 cal k v0 v1 H n:=by
  have h:aZ P cal A (k+1) 59 [v0,v1] H n=B59_0 cal k (fun u0 u1 u7 H n=>labK (E59_1 cal k k) (Tr.set (Tr.set (Tr.set Tr.nil 7 (some u7)) 1 (some u1)) 0 (some u0)) H n []) v0 v1 H n:=by
    rw[bJ (fn:=Go.Proofs.Try.f59) (c:=ry) (rs:=fy) (by kernel_rfl) (by kernel_rfl) (by kernel_rfl) (by kernel_rfl)]
    kernel_rfl
  rw[h,C59_0]
  have e1:(fun u0 u1 u7 H n=>labK (E59_1 cal k k) (Tr.set (Tr.set (Tr.set Tr.nil 7 (some u7)) 1 (some u1)) 0 (some u0)) H n [])=(S59_1 cal k k):=by funext u0 u1 u7 H n; exact q59_1 ..
  rw[e1]
noncomputable def qq:Code:=cq 60
noncomputable def fk:List ResultVar:=dJ 60
noncomputable def K60_p (cal:Cal) (k:Nat):KR:=(cutK (A 60).c (ay P cal (aw P cal k) none 60 (cR qq) (Lv.b (A 60)) (av P fk) X0 (av P fk)))
noncomputable def DJ (cal:Cal) (k:Nat):KR:=(cutK (Lv.b (A 60)).c (ay P cal (aw P cal k) none 60 (cR (cR qq)) (Lv.b (Lv.b (A 60))) (av P fk) X0 (av P fk)))
noncomputable def nZ (cal:Cal) (k:Nat):XR:=(upX 0 (DJ cal k) X0)
noncomputable def K60_prllrl (cal:Cal) (k:Nat):KR:=(cutK (Lv.a (Lv.b (Lv.a (Lv.a (Lv.b (A 60)))))).c (ay P cal (aw P cal k) none 60 (cR (cL (cR (cL (cL (cR qq)))))) (Lv.b (Lv.a (Lv.b (Lv.a (Lv.a (Lv.b (A 60))))))) (DJ cal k) (nZ cal k) (av P fk)))
noncomputable def K60_prllrrrl (cal:Cal) (k:Nat):KR:=(cutK (Lv.a (Lv.b (Lv.b (Lv.b (Lv.a (Lv.a (Lv.b (A 60)))))))).c (ay P cal (aw P cal k) none 60 (cR (cL (cR (cR (cR (cL (cL (cR qq)))))))) (Lv.b (Lv.a (Lv.b (Lv.b (Lv.b (Lv.a (Lv.a (Lv.b (A 60))))))))) (DJ cal k) (nZ cal k) (av P fk)))
noncomputable def K60_prllrrrrrl (cal:Cal) (k:Nat):KR:=(cutK (Lv.a (Lv.b (Lv.b (Lv.b (Lv.b (Lv.b (Lv.a (Lv.a (Lv.b (A 60)))))))))).c (ay P cal (aw P cal k) none 60 (cR (cL (cR (cR (cR (cR (cR (cL (cL (cR qq)))))))))) (Lv.b (Lv.a (Lv.b (Lv.b (Lv.b (Lv.b (Lv.b (Lv.a (Lv.a (Lv.b (A 60))))))))))) (DJ cal k) (nZ cal k) (av P fk)))
noncomputable def K60_prr (cal:Cal) (k:Nat):KR:=(cutK (Lv.b (Lv.b (A 60))).c (ay P cal (aw P cal k) none 60 (cR (cR (cR qq))) (Lv.b (Lv.b (Lv.b (A 60)))) (av P fk) X0 (av P fk)))
noncomputable def K60_prllrrrr (cal:Cal) (k:Nat):KR:=(cutK (Lv.b (Lv.b (Lv.b (Lv.b (Lv.a (Lv.a (Lv.b (A 60)))))))).c (ay P cal (aw P cal k) none 60 (cR (cR (cR (cR (cR (cL (cL (cR qq)))))))) (Lv.b (Lv.b (Lv.b (Lv.b (Lv.b (Lv.a (Lv.a (Lv.b (A 60))))))))) (DJ cal k) (nZ cal k) (av P fk)))
noncomputable def K60_prllrrrrl (cal:Cal) (k:Nat):KR:=(cutK (Lv.a (Lv.b (Lv.b (Lv.b (Lv.b (Lv.a (Lv.a (Lv.b (A 60))))))))).c (ay P cal (aw P cal k) none 60 (cR (cL (cR (cR (cR (cR (cL (cL (cR qq))))))))) (Lv.b (Lv.a (Lv.b (Lv.b (Lv.b (Lv.b (Lv.a (Lv.a (Lv.b (A 60)))))))))) (K60_prllrrrr cal k) (nZ cal k) (av P fk)))
noncomputable def K60_prllrrrrlrr (cal:Cal) (k:Nat):KR:=(cutK (Lv.b (Lv.b (Lv.a (Lv.b (Lv.b (Lv.b (Lv.b (Lv.a (Lv.a (Lv.b (A 60))))))))))).c (ay P cal (aw P cal k) none 60 (cR (cR (cR (cL (cR (cR (cR (cR (cL (cL (cR qq))))))))))) (Lv.b (Lv.b (Lv.b (Lv.a (Lv.b (Lv.b (Lv.b (Lv.b (Lv.a (Lv.a (Lv.b (A 60)))))))))))) (K60_prllrrrr cal k) (nZ cal k) (av P fk)))
noncomputable def K60_prllrr (cal:Cal) (k:Nat):KR:=(cutK (Lv.b (Lv.b (Lv.a (Lv.a (Lv.b (A 60)))))).c (ay P cal (aw P cal k) none 60 (cR (cR (cR (cL (cL (cR qq)))))) (Lv.b (Lv.b (Lv.b (Lv.a (Lv.a (Lv.b (A 60))))))) (DJ cal k) (nZ cal k) (av P fk)))
noncomputable def K60_prllrrl (cal:Cal) (k:Nat):KR:=(cutK (Lv.a (Lv.b (Lv.b (Lv.a (Lv.a (Lv.b (A 60))))))).c (ay P cal (aw P cal k) none 60 (cR (cL (cR (cR (cL (cL (cR qq))))))) (Lv.b (Lv.a (Lv.b (Lv.b (Lv.a (Lv.a (Lv.b (A 60)))))))) (K60_prllrr cal k) (nZ cal k) (av P fk)))
noncomputable def K60_prll (cal:Cal) (k:Nat):KR:=(cutK (Lv.a (Lv.a (Lv.b (A 60)))).c (ay P cal (aw P cal k) none 60 (cR (cL (cL (cR qq)))) (Lv.b (Lv.a (Lv.a (Lv.b (A 60))))) (DJ cal k) (nZ cal k) (av P fk)))
noncomputable def K60_prlll (cal:Cal) (k:Nat):KR:=(cutK (Lv.a (Lv.a (Lv.a (Lv.b (A 60))))).c (ay P cal (aw P cal k) none 60 (cR (cL (cL (cL (cR qq))))) (Lv.b (Lv.a (Lv.a (Lv.a (Lv.b (A 60)))))) (K60_prll cal k) (nZ cal k) (av P fk)))
noncomputable def K60_prlllrr (cal:Cal) (k:Nat):KR:=(cutK (Lv.b (Lv.b (Lv.a (Lv.a (Lv.a (Lv.b (A 60))))))).c (ay P cal (aw P cal k) none 60 (cR (cR (cR (cL (cL (cL (cR qq))))))) (Lv.b (Lv.b (Lv.b (Lv.a (Lv.a (Lv.a (Lv.b (A 60)))))))) (K60_prll cal k) (nZ cal k) (av P fk)))
noncomputable def E60_3 (cal:Cal) (k:Nat):KR:=ay P cal (aw P cal k) none 60 (cR (cR (cR (cR (cR (cL (cL (cR qq)))))))) (Lv.b (Lv.b (Lv.b (Lv.b (Lv.b (Lv.a (Lv.a (Lv.b (A 60))))))))) (DJ cal k) (nZ cal k) (av P fk)
noncomputable def E60_2 (cal:Cal) (k:Nat):KR:=ay P cal (aw P cal k) none 60 (cR (cR (cR (cL (cL (cR qq)))))) (Lv.b (Lv.b (Lv.b (Lv.a (Lv.a (Lv.b (A 60))))))) (DJ cal k) (nZ cal k) (av P fk)
noncomputable def E60_1 (cal:Cal) (k:Nat):KR:=ay P cal (aw P cal k) none 60 (cR (cL (cL (cR qq)))) (Lv.b (Lv.a (Lv.a (Lv.b (A 60))))) (DJ cal k) (nZ cal k) (av P fk)
noncomputable def B60_3 (cal:Cal) (k:Nat) (u25:Value) (H:Hp) (n:Nat):Res:=
ifK u25 (
some ((.int .i64 1),H,n)) (
some ((.int .i64 0),H,n))
noncomputable def C60_3 (cal:Cal) (k:Nat) (u25:Value) (H:Hp) (n:Nat):Res:=B60_3 cal k u25 H n
theorem h60_3 (cal:Cal) (k:Nat) (u25:Value) (H:Hp) (n:Nat):labK (E60_3 cal k) (Tr.set Tr.nil 25 (some u25)) H n []=C60_3 cal k u25 H n:=by
  refine Eq.trans (b:=B60_3 cal k u25 H n) (by kernel_rfl) ?_
  rw[C60_3]
noncomputable def B60_2 (cal:Cal) (k:Nat) (j3:V1) (u1 u16:Value) (H:Hp) (n:Nat):Res:=
ifK u16 (
some ((.int .i64 1),H,n)) (
aq (ax P 35 u1 0) fun v_9=>
aq (aW v_9) fun a_b=>aq (az P H 31 a_b) fun v_a=>
aV P cal 91 [v_a,(Value.func (.func 92) #[] #[])] H n fun v_c H_d n_e=>
aq (ej P v_c (Op.unary UnOp.not v_c)) fun v_f=>
ifK v_f (
j3 v_f H_d n_e) (
aq (ax P 35 u1 1) fun v_h=>
aq (aW v_h) fun a_j=>aq (az P H_d 32 a_j) fun v_i=>
aq (aW u1) fun a_l=>aq (az P H_d 35 a_l) fun v_k=>
aV P cal 93 [v_i,(Value.func (Fn.func 94) ⟨[v_k]⟩ ⟨[]⟩)] H_d n_e fun v_n H_o n_p=>
aq (ej P v_n (Op.unary UnOp.not v_n)) fun v_q=>
ifK v_q (
j3 v_q H_o n_p) (
aq (ax P 35 u1 2) fun v_s=>
aq (aW v_s) fun a_u=>aq (az P H_o 33 a_u) fun v_t=>
aV P cal 95 [v_t,(Value.func (.func 96) #[] #[])] H_o n_p fun v_v H_w n_x=>
aq (ej P v_v (Op.unary UnOp.not v_v)) fun v_y=>
j3 v_y H_w n_x)))
noncomputable def C60_2 (cal:Cal) (k:Nat) (u1 u16:Value) (H:Hp) (n:Nat):Res:=B60_2 cal k (C60_3 cal k) u1 u16 H n
theorem h60_2 (cal:Cal) (k:Nat) (u1 u16:Value) (H:Hp) (n:Nat):labK (E60_2 cal k) (Tr.set (Tr.set Tr.nil 16 (some u16)) 1 (some u1)) H n []=C60_2 cal k u1 u16 H n:=by
  refine Eq.trans (b:=B60_2 cal k (fun u25 H n=>labK (E60_3 cal k) (Tr.set Tr.nil 25 (some u25)) H n []) u1 u16 H n) (by kernel_rfl) ?_
  rw[C60_2]
  have e3:(fun u25 H n=>labK (E60_3 cal k) (Tr.set Tr.nil 25 (some u25)) H n [])=(C60_3 cal k):=by funext u25 H n; exact h60_3 ..
  rw[e3]
noncomputable def B60_1 (cal:Cal) (k:Nat) (j2:V2) (u1 u3:Value) (H:Hp) (n:Nat):Res:=
ifK u3 (
some ((.int .i64 3),H,n)) (
aq (ax P 35 u1 0) fun v_10=>
aq (aW v_10) fun a_12=>aq (az P H 31 a_12) fun v_11=>
aq (lenV P 31 v_11) fun v_13=>
binK P .eql 3 (.tmp 19) (.const (.int .i64 0)) v_13 (.int .i64 0) fun v_14=>
ifK v_14 (
j2 u1 v_14 H n) (
aq (ax P 35 u1 2) fun v_16=>
aq (aW v_16) fun a_18=>aq (az P H 33 a_18) fun v_17=>
aq (lenV P 33 v_17) fun v_19=>
binK P .eql 3 (.tmp 23) (.const (.int .i64 0)) v_19 (.int .i64 0) fun v_1a=>
j2 u1 v_1a H n))
noncomputable def Wy (cal:Cal) (k:Nat) (u1 u3:Value) (H:Hp) (n:Nat):Res:=B60_1 cal k (C60_2 cal k) u1 u3 H n
theorem h60_1 (cal:Cal) (k:Nat) (u1 u3:Value) (H:Hp) (n:Nat):labK (E60_1 cal k) (Tr.set (Tr.set Tr.nil 3 (some u3)) 1 (some u1)) H n []=Wy cal k u1 u3 H n:=by
  refine Eq.trans (b:=B60_1 cal k (fun u1 u16 H n=>labK (E60_2 cal k) (Tr.set (Tr.set Tr.nil 16 (some u16)) 1 (some u1)) H n []) u1 u3 H n) (by kernel_rfl) ?_
  rw[Wy]
  have e2:(fun u1 u16 H n=>labK (E60_2 cal k) (Tr.set (Tr.set Tr.nil 16 (some u16)) 1 (some u1)) H n [])=(C60_2 cal k):=by funext u1 u16 H n; exact h60_2 ..
  rw[e2]
noncomputable def B60_0 (cal:Cal) (k:Nat) (j1:V2) (v0:Value) (H:Hp) (n:Nat):Res:=
boxK 35 v0 H n fun v_1 H_2 n_3=>
aq (ax P 35 v_1 0) fun v_1c=>
aq (aW v_1c) fun a_1e=>aq (az P H_2 31 a_1e) fun v_1d=>
aq (lenV P 31 v_1d) fun v_1f=>
binK P .gtr 3 (.tmp 6) (.const (.int .i64 8)) v_1f (.int .i64 8) fun v_1g=>
ifK v_1g (
j1 v_1 v_1g H_2 n_3) (
aq (ax P 35 v_1 1) fun v_1i=>
aq (aW v_1i) fun a_1k=>aq (az P H_2 32 a_1k) fun v_1j=>
aq (lenV P 32 v_1j) fun v_1l=>
binK P .gtr 3 (.tmp 10) (.const (.int .i64 16)) v_1l (.int .i64 16) fun v_1m=>
ifK v_1m (
j1 v_1 v_1m H_2 n_3) (
aq (ax P 35 v_1 2) fun v_1o=>
aq (aW v_1o) fun a_1q=>aq (az P H_2 33 a_1q) fun v_1p=>
aq (lenV P 33 v_1p) fun v_1r=>
binK P .gtr 3 (.tmp 14) (.const (.int .i64 3)) v_1r (.int .i64 3) fun v_1s=>
j1 v_1 v_1s H_2 n_3))
noncomputable def C60_0 (cal:Cal) (k:Nat) (v0:Value) (H:Hp) (n:Nat):Res:=B60_0 cal k (Wy cal k) v0 H n
theorem h60_0 (cal:Cal) (k:Nat) (v0:Value) (H:Hp) (n:Nat):aZ P cal A (k+1) 60 [v0] H n=C60_0 cal k v0 H n:=by
  have h:aZ P cal A (k+1) 60 [v0] H n=B60_0 cal k (fun u1 u3 H n=>labK (E60_1 cal k) (Tr.set (Tr.set Tr.nil 3 (some u3)) 1 (some u1)) H n []) v0 H n:=by
    rw[bJ (fn:=Go.Proofs.Try.f60) (c:=qq) (rs:=fk) (by kernel_rfl) (by kernel_rfl) (by kernel_rfl) (by kernel_rfl)]
    kernel_rfl
  rw[h,C60_0]
  have e1:(fun u1 u3 H n=>labK (E60_1 cal k) (Tr.set (Tr.set Tr.nil 3 (some u3)) 1 (some u1)) H n [])=(Wy cal k):=by funext u1 u3 H n; exact h60_1 ..
  rw[e1]
noncomputable def gX:Code:=cq 61
noncomputable def cj:List ResultVar:=dJ 61
noncomputable def K61_p (cal:Cal) (k:Nat):KR:=(cutK (A 61).c (ay P cal (aw P cal k) none 61 (cR gX) (Lv.b (A 61)) (av P cj) X0 (av P cj)))
noncomputable def K61_pr (cal:Cal) (k:Nat):KR:=(cutK (Lv.b (A 61)).c (ay P cal (aw P cal k) none 61 (cR (cR gX)) (Lv.b (Lv.b (A 61))) (av P cj) X0 (av P cj)))
noncomputable def K61_prl (cal:Cal) (k:Nat):KR:=(cutK (Lv.a (Lv.b (A 61))).c (ay P cal (aw P cal k) none 61 (cR (cL (cR gX))) (Lv.b (Lv.a (Lv.b (A 61)))) (K61_pr cal k) X0 (av P cj)))
noncomputable def K61_prlr (cal:Cal) (k:Nat):KR:=(cutK (Lv.b (Lv.a (Lv.b (A 61)))).c (ay P cal (aw P cal k) none 61 (cR (cR (cL (cR gX)))) (Lv.b (Lv.b (Lv.a (Lv.b (A 61))))) (K61_pr cal k) X0 (av P cj)))
noncomputable def K61_prlrrl (cal:Cal) (k:Nat):KR:=(cutK (Lv.a (Lv.b (Lv.b (Lv.a (Lv.b (A 61)))))).c (ay P cal (aw P cal k) none 61 (cR (cL (cR (cR (cL (cR gX)))))) (Lv.b (Lv.a (Lv.b (Lv.b (Lv.a (Lv.b (A 61))))))) (K61_pr cal k) X0 (av P cj)))
noncomputable def K61_prr (cal:Cal) (k:Nat):KR:=(cutK (Lv.b (Lv.b (A 61))).c (ay P cal (aw P cal k) none 61 (cR (cR (cR gX))) (Lv.b (Lv.b (Lv.b (A 61)))) (av P cj) X0 (av P cj)))
noncomputable def Rk (cal:Cal) (k:Nat):KR:=(cutK (Lv.b (Lv.b (Lv.b (A 61)))).c (ay P cal (aw P cal k) none 61 (cR (cR (cR (cR gX)))) (Lv.b (Lv.b (Lv.b (Lv.b (A 61))))) (av P cj) X0 (av P cj)))
noncomputable def K61_prrrl (cal:Cal) (k:Nat):KR:=(cutK (Lv.a (Lv.b (Lv.b (Lv.b (A 61))))).c (ay P cal (aw P cal k) none 61 (cR (cL (cR (cR (cR gX))))) (Lv.b (Lv.a (Lv.b (Lv.b (Lv.b (A 61)))))) (Rk cal k) X0 (av P cj)))
noncomputable def rz (cal:Cal) (k:Nat):XR:=(upX 0 (Rk cal k) X0)
noncomputable def CZ (cal:Cal) (k:Nat) (m1:Nat):KR:=(fun T H n D=>aw P cal m1 (Lv.a (Lv.b (Lv.a (Lv.b (Lv.b (Lv.b (A 61))))))) none 61 (cL (cR (cL (cR (cR (cR gX)))))) (Rk cal k) (rz cal k) (av P cj) (cutT (Lv.a (Lv.b (Lv.a (Lv.b (Lv.b (Lv.b (A 61))))))).c T) H n D)
noncomputable def K61_prrrlrll (cal:Cal) (k:Nat) (m1:Nat):KR:=(cutK (Lv.a (Lv.a (Lv.b (Lv.a (Lv.b (Lv.b (Lv.b (A 61)))))))).c (ay P cal (aw P cal m1) none 61 (cR (cL (cL (cR (cL (cR (cR (cR gX)))))))) (Lv.b (Lv.a (Lv.a (Lv.b (Lv.a (Lv.b (Lv.b (Lv.b (A 61))))))))) (CZ cal k m1) (rz cal k) (av P cj)))
noncomputable def K61_prrrlrllr (cal:Cal) (k:Nat) (m1:Nat):KR:=(cutK (Lv.b (Lv.a (Lv.a (Lv.b (Lv.a (Lv.b (Lv.b (Lv.b (A 61))))))))).c (ay P cal (aw P cal m1) none 61 (cR (cR (cL (cL (cR (cL (cR (cR (cR gX))))))))) (Lv.b (Lv.b (Lv.a (Lv.a (Lv.b (Lv.a (Lv.b (Lv.b (Lv.b (A 61)))))))))) (CZ cal k m1) (rz cal k) (av P cj)))
noncomputable def K61_prrrlrllrr (cal:Cal) (k:Nat) (m1:Nat):KR:=(cutK (Lv.b (Lv.b (Lv.a (Lv.a (Lv.b (Lv.a (Lv.b (Lv.b (Lv.b (A 61)))))))))).c (ay P cal (aw P cal m1) none 61 (cR (cR (cR (cL (cL (cR (cL (cR (cR (cR gX)))))))))) (Lv.b (Lv.b (Lv.b (Lv.a (Lv.a (Lv.b (Lv.a (Lv.b (Lv.b (Lv.b (A 61))))))))))) (CZ cal k m1) (rz cal k) (av P cj)))
noncomputable def K61_pxrrrlrllrrl (cal:Cal) (k:Nat) (m1:Nat):XR:=(upX 1 (K61_prrrlrllrr cal k m1) (rz cal k))
noncomputable def K61_prrrlrllrrll (cal:Cal) (k:Nat) (m1:Nat):KR:=(cutK (Lv.a (Lv.a (Lv.b (Lv.b (Lv.a (Lv.a (Lv.b (Lv.a (Lv.b (Lv.b (Lv.b (A 61)))))))))))).c (ay P cal (aw P cal m1) none 61 (cR (cL (cL (cR (cR (cL (cL (cR (cL (cR (cR (cR gX)))))))))))) (Lv.b (Lv.a (Lv.a (Lv.b (Lv.b (Lv.a (Lv.a (Lv.b (Lv.a (Lv.b (Lv.b (Lv.b (A 61))))))))))))) (K61_prrrlrllrr cal k m1) (K61_pxrrrlrllrrl cal k m1) (av P cj)))
noncomputable def Mw (cal:Cal) (k:Nat):KR:=(cutK (Lv.b (Lv.b (Lv.b (Lv.b (A 61))))).c (ay P cal (aw P cal k) none 61 (cR (cR (cR (cR (cR gX))))) (Lv.b (Lv.b (Lv.b (Lv.b (Lv.b (A 61)))))) (av P cj) X0 (av P cj)))
noncomputable def K61_prrrrl (cal:Cal) (k:Nat):KR:=(cutK (Lv.a (Lv.b (Lv.b (Lv.b (Lv.b (A 61)))))).c (ay P cal (aw P cal k) none 61 (cR (cL (cR (cR (cR (cR gX)))))) (Lv.b (Lv.a (Lv.b (Lv.b (Lv.b (Lv.b (A 61))))))) (Mw cal k) X0 (av P cj)))
noncomputable def pk (cal:Cal) (k:Nat):XR:=(upX 2 (Mw cal k) X0)
noncomputable def Ay (cal:Cal) (k:Nat) (m1:Nat):KR:=(fun T H n D=>aw P cal m1 (Lv.a (Lv.b (Lv.a (Lv.b (Lv.b (Lv.b (Lv.b (A 61)))))))) none 61 (cL (cR (cL (cR (cR (cR (cR gX))))))) (Mw cal k) (pk cal k) (av P cj) (cutT (Lv.a (Lv.b (Lv.a (Lv.b (Lv.b (Lv.b (Lv.b (A 61)))))))).c T) H n D)
noncomputable def K61_prrrrlrll (cal:Cal) (k:Nat) (m1:Nat):KR:=(cutK (Lv.a (Lv.a (Lv.b (Lv.a (Lv.b (Lv.b (Lv.b (Lv.b (A 61))))))))).c (ay P cal (aw P cal m1) none 61 (cR (cL (cL (cR (cL (cR (cR (cR (cR gX))))))))) (Lv.b (Lv.a (Lv.a (Lv.b (Lv.a (Lv.b (Lv.b (Lv.b (Lv.b (A 61)))))))))) (Ay cal k m1) (pk cal k) (av P cj)))
noncomputable def K61_prrrrlrllr (cal:Cal) (k:Nat) (m1:Nat):KR:=(cutK (Lv.b (Lv.a (Lv.a (Lv.b (Lv.a (Lv.b (Lv.b (Lv.b (Lv.b (A 61)))))))))).c (ay P cal (aw P cal m1) none 61 (cR (cR (cL (cL (cR (cL (cR (cR (cR (cR gX)))))))))) (Lv.b (Lv.b (Lv.a (Lv.a (Lv.b (Lv.a (Lv.b (Lv.b (Lv.b (Lv.b (A 61))))))))))) (Ay cal k m1) (pk cal k) (av P cj)))
noncomputable def nQ (cal:Cal) (k:Nat) (m1:Nat):KR:=(cutK (Lv.b (Lv.b (Lv.a (Lv.a (Lv.b (Lv.a (Lv.b (Lv.b (Lv.b (Lv.b (A 61))))))))))).c (ay P cal (aw P cal m1) none 61 (cR (cR (cR (cL (cL (cR (cL (cR (cR (cR (cR gX))))))))))) (Lv.b (Lv.b (Lv.b (Lv.a (Lv.a (Lv.b (Lv.a (Lv.b (Lv.b (Lv.b (Lv.b (A 61)))))))))))) (Ay cal k m1) (pk cal k) (av P cj)))
noncomputable def wY (cal:Cal) (k:Nat) (m1:Nat):XR:=(upX 3 (nQ cal k m1) (pk cal k))
noncomputable def K61_prrrrlrllrrll (cal:Cal) (k:Nat) (m1:Nat):KR:=(cutK (Lv.a (Lv.a (Lv.b (Lv.b (Lv.a (Lv.a (Lv.b (Lv.a (Lv.b (Lv.b (Lv.b (Lv.b (A 61))))))))))))).c (ay P cal (aw P cal m1) none 61 (cR (cL (cL (cR (cR (cL (cL (cR (cL (cR (cR (cR (cR gX))))))))))))) (Lv.b (Lv.a (Lv.a (Lv.b (Lv.b (Lv.a (Lv.a (Lv.b (Lv.a (Lv.b (Lv.b (Lv.b (Lv.b (A 61)))))))))))))) (nQ cal k m1) (wY cal k m1) (av P cj)))
noncomputable def K61_prrrrlrllrrllr (cal:Cal) (k:Nat) (m1:Nat):KR:=(cutK (Lv.b (Lv.a (Lv.a (Lv.b (Lv.b (Lv.a (Lv.a (Lv.b (Lv.a (Lv.b (Lv.b (Lv.b (Lv.b (A 61)))))))))))))).c (ay P cal (aw P cal m1) none 61 (cR (cR (cL (cL (cR (cR (cL (cL (cR (cL (cR (cR (cR (cR gX)))))))))))))) (Lv.b (Lv.b (Lv.a (Lv.a (Lv.b (Lv.b (Lv.a (Lv.a (Lv.b (Lv.a (Lv.b (Lv.b (Lv.b (Lv.b (A 61))))))))))))))) (nQ cal k m1) (wY cal k m1) (av P cj)))
noncomputable def gQ (cal:Cal) (k:Nat) (m1:Nat):XR:=(upX 4 (nQ cal k m1) (wY cal k m1))
noncomputable def nK (cal:Cal) (k:Nat) (m1:Nat) (m2:Nat):KR:=(fun T H n D=>aw P cal m2 (Lv.a (Lv.b (Lv.b (Lv.a (Lv.a (Lv.b (Lv.b (Lv.a (Lv.a (Lv.b (Lv.a (Lv.b (Lv.b (Lv.b (Lv.b (A 61)))))))))))))))) none 61 (cL (cR (cR (cL (cL (cR (cR (cL (cL (cR (cL (cR (cR (cR (cR gX))))))))))))))) (nQ cal k m1) (gQ cal k m1) (av P cj) (cutT (Lv.a (Lv.b (Lv.b (Lv.a (Lv.a (Lv.b (Lv.b (Lv.a (Lv.a (Lv.b (Lv.a (Lv.b (Lv.b (Lv.b (Lv.b (A 61)))))))))))))))).c T) H n D)
noncomputable def K61_prrrrlrllrrllrrll (cal:Cal) (k:Nat) (m1:Nat) (m2:Nat):KR:=(cutK (Lv.a (Lv.a (Lv.b (Lv.b (Lv.a (Lv.a (Lv.b (Lv.b (Lv.a (Lv.a (Lv.b (Lv.a (Lv.b (Lv.b (Lv.b (Lv.b (A 61))))))))))))))))).c (ay P cal (aw P cal m2) none 61 (cR (cL (cL (cR (cR (cL (cL (cR (cR (cL (cL (cR (cL (cR (cR (cR (cR gX))))))))))))))))) (Lv.b (Lv.a (Lv.a (Lv.b (Lv.b (Lv.a (Lv.a (Lv.b (Lv.b (Lv.a (Lv.a (Lv.b (Lv.a (Lv.b (Lv.b (Lv.b (Lv.b (A 61)))))))))))))))))) (nK cal k m1 m2) (gQ cal k m1) (av P cj)))
noncomputable def K61_prrrrlrllrrllrrllr (cal:Cal) (k:Nat) (m1:Nat) (m2:Nat):KR:=(cutK (Lv.b (Lv.a (Lv.a (Lv.b (Lv.b (Lv.a (Lv.a (Lv.b (Lv.b (Lv.a (Lv.a (Lv.b (Lv.a (Lv.b (Lv.b (Lv.b (Lv.b (A 61)))))))))))))))))).c (ay P cal (aw P cal m2) none 61 (cR (cR (cL (cL (cR (cR (cL (cL (cR (cR (cL (cL (cR (cL (cR (cR (cR (cR gX)))))))))))))))))) (Lv.b (Lv.b (Lv.a (Lv.a (Lv.b (Lv.b (Lv.a (Lv.a (Lv.b (Lv.b (Lv.a (Lv.a (Lv.b (Lv.a (Lv.b (Lv.b (Lv.b (Lv.b (A 61))))))))))))))))))) (nK cal k m1 m2) (gQ cal k m1) (av P cj)))
noncomputable def K61_prrrrlrllrrllrrllrr (cal:Cal) (k:Nat) (m1:Nat) (m2:Nat):KR:=(cutK (Lv.b (Lv.b (Lv.a (Lv.a (Lv.b (Lv.b (Lv.a (Lv.a (Lv.b (Lv.b (Lv.a (Lv.a (Lv.b (Lv.a (Lv.b (Lv.b (Lv.b (Lv.b (A 61))))))))))))))))))).c (ay P cal (aw P cal m2) none 61 (cR (cR (cR (cL (cL (cR (cR (cL (cL (cR (cR (cL (cL (cR (cL (cR (cR (cR (cR gX))))))))))))))))))) (Lv.b (Lv.b (Lv.b (Lv.a (Lv.a (Lv.b (Lv.b (Lv.a (Lv.a (Lv.b (Lv.b (Lv.a (Lv.a (Lv.b (Lv.a (Lv.b (Lv.b (Lv.b (Lv.b (A 61)))))))))))))))))))) (nK cal k m1 m2) (gQ cal k m1) (av P cj)))
noncomputable def K61_pxrrrrlrllrrllrrllrrl (cal:Cal) (k:Nat) (m1:Nat) (m2:Nat):XR:=(upX 5 (K61_prrrrlrllrrllrrllrr cal k m1 m2) (gQ cal k m1))
noncomputable def K61_prrrrlrllrrllrrllrrll (cal:Cal) (k:Nat) (m1:Nat) (m2:Nat):KR:=(cutK (Lv.a (Lv.a (Lv.b (Lv.b (Lv.a (Lv.a (Lv.b (Lv.b (Lv.a (Lv.a (Lv.b (Lv.b (Lv.a (Lv.a (Lv.b (Lv.a (Lv.b (Lv.b (Lv.b (Lv.b (A 61))))))))))))))))))))).c (ay P cal (aw P cal m2) none 61 (cR (cL (cL (cR (cR (cL (cL (cR (cR (cL (cL (cR (cR (cL (cL (cR (cL (cR (cR (cR (cR gX))))))))))))))))))))) (Lv.b (Lv.a (Lv.a (Lv.b (Lv.b (Lv.a (Lv.a (Lv.b (Lv.b (Lv.a (Lv.a (Lv.b (Lv.b (Lv.a (Lv.a (Lv.b (Lv.a (Lv.b (Lv.b (Lv.b (Lv.b (A 61)))))))))))))))))))))) (K61_prrrrlrllrrllrrllrr cal k m1 m2) (K61_pxrrrrlrllrrllrrllrrl cal k m1 m2) (av P cj)))
noncomputable def K61_prrrrr (cal:Cal) (k:Nat):KR:=(cutK (Lv.b (Lv.b (Lv.b (Lv.b (Lv.b (A 61)))))).c (ay P cal (aw P cal k) none 61 (cR (cR (cR (cR (cR (cR gX)))))) (Lv.b (Lv.b (Lv.b (Lv.b (Lv.b (Lv.b (A 61))))))) (av P cj) X0 (av P cj)))
noncomputable def E61_3 (cal:Cal) (k m1 m2:Nat):KR:=ay P cal (aw P cal m2) none 61 (cL (cL (cR (cR (cL (cL (cR (cR (cL (cL (cR (cL (cR (cR (cR (cR gX)))))))))))))))) (Lv.a (Lv.a (Lv.b (Lv.b (Lv.a (Lv.a (Lv.b (Lv.b (Lv.a (Lv.a (Lv.b (Lv.a (Lv.b (Lv.b (Lv.b (Lv.b (A 61))))))))))))))))) (nK cal k m1 m2) (gQ cal k m1) (av P cj)
noncomputable def R61_3 (cal:Cal) (k m1 m2:Nat):V7:=fun u5 u8 u53 u54 u61 u62 u63 H n=>aw P cal m2 (Lv.a (Lv.b (Lv.b (Lv.a (Lv.a (Lv.b (Lv.b (Lv.a (Lv.a (Lv.b (Lv.a (Lv.b (Lv.b (Lv.b (Lv.b (A 61)))))))))))))))) none 61 (cL (cR (cR (cL (cL (cR (cR (cL (cL (cR (cL (cR (cR (cR (cR gX))))))))))))))) (nQ cal k m1) (gQ cal k m1) (av P cj) (Tr.set (Tr.set (Tr.set (Tr.set (Tr.set (Tr.set (Tr.set Tr.nil 63 (some u63)) 62 (some u62)) 61 (some u61)) 54 (some u54)) 53 (some u53)) 8 (some u8)) 5 (some u5)) H n []
noncomputable def E61_2 (cal:Cal) (k m1:Nat):KR:=ay P cal (aw P cal m1) none 61 (cL (cL (cR (cL (cR (cR (cR (cR gX)))))))) (Lv.a (Lv.a (Lv.b (Lv.a (Lv.b (Lv.b (Lv.b (Lv.b (A 61))))))))) (Ay cal k m1) (pk cal k) (av P cj)
noncomputable def Nx (cal:Cal) (k m1:Nat):V3:=fun u5 u53 u54 H n=>aw P cal m1 (Lv.a (Lv.b (Lv.a (Lv.b (Lv.b (Lv.b (Lv.b (A 61)))))))) none 61 (cL (cR (cL (cR (cR (cR (cR gX))))))) (Mw cal k) (pk cal k) (av P cj) (Tr.set (Tr.set (Tr.set Tr.nil 54 (some u54)) 53 (some u53)) 5 (some u5)) H n []
noncomputable def E61_1 (cal:Cal) (k m1:Nat):KR:=ay P cal (aw P cal m1) none 61 (cL (cL (cR (cL (cR (cR (cR gX))))))) (Lv.a (Lv.a (Lv.b (Lv.a (Lv.b (Lv.b (Lv.b (A 61)))))))) (CZ cal k m1) (rz cal k) (av P cj)
noncomputable def R61_1 (cal:Cal) (k m1:Nat):V4:=fun u5 u23 u24 u25 H n=>aw P cal m1 (Lv.a (Lv.b (Lv.a (Lv.b (Lv.b (Lv.b (A 61))))))) none 61 (cL (cR (cL (cR (cR (cR gX)))))) (Rk cal k) (rz cal k) (av P cj) (Tr.set (Tr.set (Tr.set (Tr.set Tr.nil 25 (some u25)) 24 (some u24)) 23 (some u23)) 5 (some u5)) H n []
noncomputable def B61_3 (cal:Cal) (k m1 m2:Nat) (b2:V3) (b3:V7) (u5 u8 u53 u54 u61 u62 u63:Value) (H:Hp) (n:Nat):Res:=
binK P .lss 3 (.tmp 63) (.tmp 62) u63 u62 fun v_2m=>
ifK v_2m (
aq (aY P 33 u61 u63) fun v_2o=>
aq (aW v_2o) fun a_2q=>aq (az P H 86 a_2q) fun v_2p=>
cX P 86 H n fun v_2r H_2s n_2t=>
aq (bx P 86 v_2r v_2p H_2s) fun H_2w=>
aq (aW v_2r) fun a_32=>aq (az P H_2w 86 a_32) fun v_33=>
aq (nilV u5) fun v_34=>
aq (ax P 117 v_34 2) fun v_35=>
aq (aY P 115 v_35 u8) fun v_36=>
aV P cal 97 [u5,u8,v_33] H_2w n_2t fun v_37 H_38 n_39=>
aq (aY P 114 v_36 u63) fun v_3a=>
aq (bx P 113 v_3a v_37 H_38) fun H_3c=>
binK P .add 3 (.tmp 63) (.const (.int .i64 1)) u63 (.int .i64 1) fun v_3d=>
b3 u5 u8 u53 u54 u61 u62 v_3d H_3c n_39) (
binK P .add 3 (.tmp 54) (.const (.int .i64 1)) u54 (.int .i64 1) fun v_3f=>
b2 u5 u53 v_3f H n)
noncomputable def C61_3 (cal:Cal) (k m1 m2:Nat) (b2:V3) (b3:V7) (u5 u8 u53 u54 u61 u62 u63:Value) (H:Hp) (n:Nat):Res:=B61_3 cal k m1 m2 b2 b3 u5 u8 u53 u54 u61 u62 u63 H n
noncomputable def S61_3 (cal:Cal) (k m1:Nat) (b2:V3):Nat→V7:=fun m=>Nat.rec (motive:=fun _=>V7) (C61_3 cal k m1 0 b2 (fun _ _ _ _ _ _ _ _ _=>none)) (fun m ih=>C61_3 cal k m1 (m+1) b2 ih) m
theorem h61_3 (cal:Cal) (k m1 m2:Nat) (u5 u8 u53 u54 u61 u62 u63:Value) (H:Hp) (n:Nat):labK (E61_3 cal k m1 m2) (Tr.set (Tr.set (Tr.set (Tr.set (Tr.set (Tr.set (Tr.set Tr.nil 63 (some u63)) 62 (some u62)) 61 (some u61)) 54 (some u54)) 53 (some u53)) 8 (some u8)) 5 (some u5)) H n []=C61_3 cal k m1 m2 (Nx cal k m1) (R61_3 cal k m1 m2) u5 u8 u53 u54 u61 u62 u63 H n:=by
  refine Eq.trans (b:=B61_3 cal k m1 m2 (Nx cal k m1) (R61_3 cal k m1 m2) u5 u8 u53 u54 u61 u62 u63 H n) (by kernel_rfl) ?_
  rw[C61_3]
theorem q61_3 (cal:Cal) (k m1:Nat):∀(m:Nat) (u5 u8 u53 u54 u61 u62 u63:Value) (H:Hp) (n:Nat),labK (E61_3 cal k m1 m) (Tr.set (Tr.set (Tr.set (Tr.set (Tr.set (Tr.set (Tr.set Tr.nil 63 (some u63)) 62 (some u62)) 61 (some u61)) 54 (some u54)) 53 (some u53)) 8 (some u8)) 5 (some u5)) H n []=S61_3 cal k m1 (Nx cal k m1) m u5 u8 u53 u54 u61 u62 u63 H n
  | 0,u5,u8,u53,u54,u61,u62,u63,H,n=>by
    rw[h61_3]
    have e:R61_3 cal k m1 0=fun _ _ _ _ _ _ _ _ _=>none:=by funext u5 u8 u53 u54 u61 u62 u63 H n; kernel_rfl
    rw[e]; rfl
  | m+1,u5,u8,u53,u54,u61,u62,u63,H,n=>by
    rw[h61_3]
    have e:R61_3 cal k m1 (m+1)=S61_3 cal k m1 (Nx cal k m1) m:=by
      funext u5 u8 u53 u54 u61 u62 u63 H n
      have e:R61_3 cal k m1 (m+1) u5 u8 u53 u54 u61 u62 u63 H n=labK (E61_3 cal k m1 m) (Tr.set (Tr.set (Tr.set (Tr.set (Tr.set (Tr.set (Tr.set Tr.nil 63 (some u63)) 62 (some u62)) 61 (some u61)) 54 (some u54)) 53 (some u53)) 8 (some u8)) 5 (some u5)) H n []:=by kernel_rfl
      rw[e]; exact q61_3 ..
    rw[e]; rfl
noncomputable def B61_2 (cal:Cal) (k m1:Nat) (j3:V7) (b2:V3) (u5 u53 u54:Value) (H:Hp) (n:Nat):Res:=
binK P .lss 3 (.tmp 54) (.tmp 53) u54 u53 fun v_2b=>
ifK v_2b (
aq (nilV u5) fun v_2f=>
aq (ax P 117 v_2f 0) fun v_2g=>
aq (ax P 35 v_2g 2) fun v_2h=>
aq (aW v_2h) fun a_2j=>aq (az P H 33 a_2j) fun v_2i=>
aq (lenV P 33 v_2i) fun v_2k=>
j3 u5 u54 u53 u54 v_2i v_2k (.int .i64 0) H n) (
some ((Value.tuple ⟨[u5,(.int .i64 0)]⟩),H,n))
noncomputable def C61_2 (cal:Cal) (k m1:Nat) (b2:V3) (u5 u53 u54:Value) (H:Hp) (n:Nat):Res:=B61_2 cal k m1 (S61_3 cal k m1 b2 m1) b2 u5 u53 u54 H n
noncomputable def S61_2 (cal:Cal) (k:Nat):Nat→V3:=fun m=>Nat.rec (motive:=fun _=>V3) (C61_2 cal k 0 (fun _ _ _ _ _=>none)) (fun m ih=>C61_2 cal k (m+1) ih) m
theorem h61_2 (cal:Cal) (k m1:Nat) (u5 u53 u54:Value) (H:Hp) (n:Nat):labK (E61_2 cal k m1) (Tr.set (Tr.set (Tr.set Tr.nil 54 (some u54)) 53 (some u53)) 5 (some u5)) H n []=C61_2 cal k m1 (Nx cal k m1) u5 u53 u54 H n:=by
  refine Eq.trans (b:=B61_2 cal k m1 (fun u5 u8 u53 u54 u61 u62 u63 H n=>labK (E61_3 cal k m1 m1) (Tr.set (Tr.set (Tr.set (Tr.set (Tr.set (Tr.set (Tr.set Tr.nil 63 (some u63)) 62 (some u62)) 61 (some u61)) 54 (some u54)) 53 (some u53)) 8 (some u8)) 5 (some u5)) H n []) (Nx cal k m1) u5 u53 u54 H n) (by kernel_rfl) ?_
  rw[C61_2]
  have e3:(fun u5 u8 u53 u54 u61 u62 u63 H n=>labK (E61_3 cal k m1 m1) (Tr.set (Tr.set (Tr.set (Tr.set (Tr.set (Tr.set (Tr.set Tr.nil 63 (some u63)) 62 (some u62)) 61 (some u61)) 54 (some u54)) 53 (some u53)) 8 (some u8)) 5 (some u5)) H n [])=(S61_3 cal k m1 (Nx cal k m1) m1):=by funext u5 u8 u53 u54 u61 u62 u63 H n; exact q61_3 ..
  rw[e3]
theorem q61_2 (cal:Cal) (k:Nat):∀(m:Nat) (u5 u53 u54:Value) (H:Hp) (n:Nat),labK (E61_2 cal k m) (Tr.set (Tr.set (Tr.set Tr.nil 54 (some u54)) 53 (some u53)) 5 (some u5)) H n []=S61_2 cal k m u5 u53 u54 H n
  | 0,u5,u53,u54,H,n=>by
    rw[h61_2]
    have e:Nx cal k 0=fun _ _ _ _ _=>none:=by funext u5 u53 u54 H n; kernel_rfl
    rw[e]; rfl
  | m+1,u5,u53,u54,H,n=>by
    rw[h61_2]
    have e:Nx cal k (m+1)=S61_2 cal k m:=by
      funext u5 u53 u54 H n
      have e:Nx cal k (m+1) u5 u53 u54 H n=labK (E61_2 cal k m) (Tr.set (Tr.set (Tr.set Tr.nil 54 (some u54)) 53 (some u53)) 5 (some u5)) H n []:=by kernel_rfl
      rw[e]; exact q61_2 ..
    rw[e]; rfl
noncomputable def B61_1 (cal:Cal) (k m1:Nat) (j2:V3) (b1:V4) (u5 u23 u24 u25:Value) (H:Hp) (n:Nat):Res:=
binK P .lss 3 (.tmp 25) (.tmp 24) u25 u24 fun v_w=>
ifK v_w (
aq (aY P 32 u23 u25) fun v_x=>
aq (aW v_x) fun a_z=>aq (az P H 88 a_z) fun v_y=>
cX P 88 H n fun v_10 H_11 n_12=>
aq (bx P 88 v_10 v_y H_11) fun H_14=>
aq (ax P 88 v_10 0) fun v_16=>
aq (aW v_16) fun a_17=>aq (az P H_14 3 a_17) fun v_18=>
aq (ax P 88 v_10 1) fun v_19=>
aq (aW v_19) fun a_1a=>aq (az P H_14 3 a_1a) fun v_1b=>
aq (ax P 88 v_10 1) fun v_1d=>
aq (aW v_1d) fun a_1e=>aq (az P H_14 3 a_1e) fun v_1f=>
aq (ax P 88 v_10 0) fun v_1g=>
aq (aW v_1g) fun a_1h=>aq (az P H_14 3 a_1h) fun v_1i=>
aq (nilV u5) fun v_1j=>
aq (ax P 117 v_1j 1) fun v_1k=>
aq (aY P 109 v_1k v_18) fun v_1l=>
aq (aY P 108 v_1l v_1b) fun v_1m=>
aq (nilV u5) fun v_1n=>
aq (ax P 117 v_1n 1) fun v_1o=>
aq (aY P 109 v_1o v_1f) fun v_1p=>
effK P [(.l 3 a_1h),(.l 3 a_1e)] H_14 n_12 (fun H_1q n_1r k_1s=>
aq (bx P 4 v_1m (.bool true) H_1q) fun H_1x=>
k_1s undef H_1x n_1r) fun v_1t H_1u n_1v=>
aq (aY P 108 v_1p v_1i) fun v_1y=>
aq (bx P 4 v_1y (.bool true) H_1u) fun H_20=>
binK P .add 3 (.tmp 25) (.const (.int .i64 1)) u25 (.int .i64 1) fun v_21=>
b1 u5 u23 u24 v_21 H_20 n_1v) (
aq (nilV u5) fun v_24=>
aq (ax P 117 v_24 0) fun v_25=>
aq (ax P 35 v_25 0) fun v_26=>
aq (aW v_26) fun a_28=>aq (az P H 31 a_28) fun v_27=>
aq (lenV P 31 v_27) fun v_29=>
j2 u5 v_29 (.int .i64 0) H n)
noncomputable def C61_1 (cal:Cal) (k m1:Nat) (b1:V4) (u5 u23 u24 u25:Value) (H:Hp) (n:Nat):Res:=B61_1 cal k m1 (S61_2 cal k k) b1 u5 u23 u24 u25 H n
noncomputable def S61_1 (cal:Cal) (k:Nat):Nat→V4:=fun m=>Nat.rec (motive:=fun _=>V4) (C61_1 cal k 0 (fun _ _ _ _ _ _=>none)) (fun m ih=>C61_1 cal k (m+1) ih) m
theorem h61_1 (cal:Cal) (k m1:Nat) (u5 u23 u24 u25:Value) (H:Hp) (n:Nat):labK (E61_1 cal k m1) (Tr.set (Tr.set (Tr.set (Tr.set Tr.nil 25 (some u25)) 24 (some u24)) 23 (some u23)) 5 (some u5)) H n []=C61_1 cal k m1 (R61_1 cal k m1) u5 u23 u24 u25 H n:=by
  refine Eq.trans (b:=B61_1 cal k m1 (fun u5 u53 u54 H n=>labK (E61_2 cal k k) (Tr.set (Tr.set (Tr.set Tr.nil 54 (some u54)) 53 (some u53)) 5 (some u5)) H n []) (R61_1 cal k m1) u5 u23 u24 u25 H n) (by kernel_rfl) ?_
  rw[C61_1]
  have e2:(fun u5 u53 u54 H n=>labK (E61_2 cal k k) (Tr.set (Tr.set (Tr.set Tr.nil 54 (some u54)) 53 (some u53)) 5 (some u5)) H n [])=(S61_2 cal k k):=by funext u5 u53 u54 H n; exact q61_2 ..
  rw[e2]
theorem q61_1 (cal:Cal) (k:Nat):∀(m:Nat) (u5 u23 u24 u25:Value) (H:Hp) (n:Nat),labK (E61_1 cal k m) (Tr.set (Tr.set (Tr.set (Tr.set Tr.nil 25 (some u25)) 24 (some u24)) 23 (some u23)) 5 (some u5)) H n []=S61_1 cal k m u5 u23 u24 u25 H n
  | 0,u5,u23,u24,u25,H,n=>by
    rw[h61_1]
    have e:R61_1 cal k 0=fun _ _ _ _ _ _=>none:=by funext u5 u23 u24 u25 H n; kernel_rfl
    rw[e]; rfl
  | m+1,u5,u23,u24,u25,H,n=>by
    rw[h61_1]
    have e:R61_1 cal k (m+1)=S61_1 cal k m:=by
      funext u5 u23 u24 u25 H n
      have e:R61_1 cal k (m+1) u5 u23 u24 u25 H n=labK (E61_1 cal k m) (Tr.set (Tr.set (Tr.set (Tr.set Tr.nil 25 (some u25)) 24 (some u24)) 23 (some u23)) 5 (some u5)) H n []:=by kernel_rfl
      rw[e]; exact q61_1 ..
    rw[e]; rfl
noncomputable def B61_0 (cal:Cal) (k:Nat) (j1:V4) (v0:Value) (H:Hp) (n:Nat):Res:=
boxK 35 v0 H n fun v_1 H_2 n_3=>
aq (aW v_1) fun a_7=>aq (az P H_2 35 a_7) fun v_6=>
aV P cal 60 [v_6] H_2 n_3 fun v_8 H_9 n_a=>
binK P .neq 29 (.tmp 13) (.const (.int .i64 0)) v_8 (.int .i64 0) fun v_d=>
ifK v_d (
some ((Value.tuple ⟨[(.pointer none),v_8]⟩),H_9,n_a)) (
aq (aW v_1) fun a_i=>aq (az P H_9 35 a_i) fun v_h=>
aq (fK P 117 [(0,v_h)]) fun v_j=>
boxK 117 v_j H_9 n_a fun v_k H_l n_m=>
aq (nilV v_k) fun v_p=>
aq (ax P 117 v_p 0) fun v_q=>
aq (ax P 35 v_q 1) fun v_r=>
aq (aW v_r) fun a_t=>aq (az P H_l 32 a_t) fun v_s=>
aq (lenV P 32 v_s) fun v_u=>
j1 v_k v_s v_u (.int .i64 0) H_l n_m)
noncomputable def Wz (cal:Cal) (k:Nat) (v0:Value) (H:Hp) (n:Nat):Res:=B61_0 cal k (S61_1 cal k k) v0 H n
theorem h61_0 (cal:Cal) (k:Nat) (v0:Value) (H:Hp) (n:Nat):aZ P cal A (k+1) 61 [v0] H n=Wz cal k v0 H n:=by
  have h:aZ P cal A (k+1) 61 [v0] H n=B61_0 cal k (fun u5 u23 u24 u25 H n=>labK (E61_1 cal k k) (Tr.set (Tr.set (Tr.set (Tr.set Tr.nil 25 (some u25)) 24 (some u24)) 23 (some u23)) 5 (some u5)) H n []) v0 H n:=by
    rw[bJ (fn:=Go.Proofs.Try.f61) (c:=gX) (rs:=cj) (by kernel_rfl) (by kernel_rfl) (by kernel_rfl) (by kernel_rfl)]
    kernel_rfl
  rw[h,Wz]
  have e1:(fun u5 u23 u24 u25 H n=>labK (E61_1 cal k k) (Tr.set (Tr.set (Tr.set (Tr.set Tr.nil 25 (some u25)) 24 (some u24)) 23 (some u23)) 5 (some u5)) H n [])=(S61_1 cal k k):=by funext u5 u23 u24 u25 H n; exact q61_1 ..
  rw[e1]
noncomputable def code62:Code:=cq 62
noncomputable def FW:List ResultVar:=dJ 62
noncomputable def K62_p (cal:Cal) (k:Nat):KR:=(cutK (A 62).c (ay P cal (aw P cal k) none 62 (cR code62) (Lv.b (A 62)) (av P FW) X0 (av P FW)))
noncomputable def K62_pr (cal:Cal) (k:Nat):KR:=(cutK (Lv.b (A 62)).c (ay P cal (aw P cal k) none 62 (cR (cR code62)) (Lv.b (Lv.b (A 62))) (av P FW) X0 (av P FW)))
noncomputable def B62_0 (cal:Cal) (k:Nat) (v0:Value) (H:Hp) (n:Nat):Res:=
boxK 113 v0 H n fun v_1 H_2 n_3=>
aq (aW v_1) fun a_5=>aq (az P H_2 113 a_5) fun v_6=>
aq (aW v_1) fun a_7=>aq (az P H_2 113 a_7) fun v_8=>
aq (ax P 113 v_1 0) fun v_9=>
aq (aW v_9) fun a_a=>aq (az P H_2 3 a_a) fun v_b=>
effK P [(.l 3 a_a),(.l 113 a_7)] H_2 n_3 (fun H_c n_d k_e=>
aV P cal 98 [v_6,(Value.func (.func 72) #[] #[])] H_c n_d fun v_i H_j n_k=>
k_e v_i H_j n_k) fun v_f H_g n_h=>
effK P [(.l 3 a_a)] H_g n_h (fun H_l n_m k_n=>
aV P cal 98 [v_8,(Value.func (.func 73) #[] #[])] H_l n_m fun v_r H_s n_t=>
k_n v_r H_s n_t) fun v_o H_p n_q=>
aq (fK P 53 [(0,v_f),(1,v_o)]) fun v_u=>
aV P cal 99 [v_u,v_b] H_p n_q fun v_v H_w n_x=>
some (v_v,H_w,n_x)
noncomputable def C62_0 (cal:Cal) (k:Nat) (v0:Value) (H:Hp) (n:Nat):Res:=B62_0 cal k v0 H n
theorem h62_0 (cal:Cal) (k:Nat) (v0:Value) (H:Hp) (n:Nat):aZ P cal A (k+1) 62 [v0] H n=C62_0 cal k v0 H n:=by
  have h:aZ P cal A (k+1) 62 [v0] H n=B62_0 cal k v0 H n:=by
    rw[bJ (fn:=Go.Proofs.Try.f62) (c:=code62) (rs:=FW) (by kernel_rfl) (by kernel_rfl) (by kernel_rfl) (by kernel_rfl)]
    kernel_rfl
  rw[h,C62_0]
end Go.Proofs.Ytgojjellogiglaa.G
