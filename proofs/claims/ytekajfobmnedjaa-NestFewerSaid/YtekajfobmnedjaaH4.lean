/- The texts of functions, each with the proof that the evaluator says the same. -/
import Derived.Test.YtekajfobmnedjaaH1
open Go Go.Ev
set_option maxRecDepth 1000000
set_option linter.unusedVariables false
noncomputable section
namespace Go.Proofs.Ytekajfobmnedjaa.G
noncomputable def ny:Code:=cw 65
noncomputable def cz:List ResultVar:=dk 65
noncomputable def K65_p (cal:Cal) (k:Nat):KR:=(cutK (A 65).c (az P cal (ax P cal k) none 65 (cR ny) (Lv.b (A 65)) (aw P cz) X0 (aw P cz)))
noncomputable def K65_pr (cal:Cal) (k:Nat):KR:=(cutK (Lv.b (A 65)).c (az P cal (ax P cal k) none 65 (cR (cR ny)) (Lv.b (Lv.b (A 65))) (aw P cz) X0 (aw P cz)))
noncomputable def K65_prr (cal:Cal) (k:Nat):KR:=(cutK (Lv.b (Lv.b (A 65))).c (az P cal (ax P cal k) none 65 (cR (cR (cR ny))) (Lv.b (Lv.b (Lv.b (A 65)))) (aw P cz) X0 (aw P cz)))
noncomputable def K65_prrl (cal:Cal) (k:Nat):KR:=(cutK (Lv.a (Lv.b (Lv.b (A 65)))).c (az P cal (ax P cal k) none 65 (cR (cL (cR (cR ny)))) (Lv.b (Lv.a (Lv.b (Lv.b (A 65))))) (K65_prr cal k) X0 (aw P cz)))
noncomputable def K65_prrlrl (cal:Cal) (k:Nat):KR:=(cutK (Lv.a (Lv.b (Lv.a (Lv.b (Lv.b (A 65)))))).c (az P cal (ax P cal k) none 65 (cR (cL (cR (cL (cR (cR ny)))))) (Lv.b (Lv.a (Lv.b (Lv.a (Lv.b (Lv.b (A 65))))))) (K65_prr cal k) X0 (aw P cz)))
noncomputable def K65_prrr (cal:Cal) (k:Nat):KR:=(cutK (Lv.b (Lv.b (Lv.b (A 65)))).c (az P cal (ax P cal k) none 65 (cR (cR (cR (cR ny)))) (Lv.b (Lv.b (Lv.b (Lv.b (A 65))))) (aw P cz) X0 (aw P cz)))
noncomputable def K65_prrrl (cal:Cal) (k:Nat):KR:=(cutK (Lv.a (Lv.b (Lv.b (Lv.b (A 65))))).c (az P cal (ax P cal k) none 65 (cR (cL (cR (cR (cR ny))))) (Lv.b (Lv.a (Lv.b (Lv.b (Lv.b (A 65)))))) (K65_prrr cal k) X0 (aw P cz)))
noncomputable def K65_prrrlrl (cal:Cal) (k:Nat):KR:=(cutK (Lv.a (Lv.b (Lv.a (Lv.b (Lv.b (Lv.b (A 65))))))).c (az P cal (ax P cal k) none 65 (cR (cL (cR (cL (cR (cR (cR ny))))))) (Lv.b (Lv.a (Lv.b (Lv.a (Lv.b (Lv.b (Lv.b (A 65)))))))) (K65_prrr cal k) X0 (aw P cz)))
noncomputable def K65_prrrr (cal:Cal) (k:Nat):KR:=(cutK (Lv.b (Lv.b (Lv.b (Lv.b (A 65))))).c (az P cal (ax P cal k) none 65 (cR (cR (cR (cR (cR ny))))) (Lv.b (Lv.b (Lv.b (Lv.b (Lv.b (A 65)))))) (aw P cz) X0 (aw P cz)))
noncomputable def K65_prrrrr (cal:Cal) (k:Nat):KR:=(cutK (Lv.b (Lv.b (Lv.b (Lv.b (Lv.b (A 65)))))).c (az P cal (ax P cal k) none 65 (cR (cR (cR (cR (cR (cR ny)))))) (Lv.b (Lv.b (Lv.b (Lv.b (Lv.b (Lv.b (A 65))))))) (aw P cz) X0 (aw P cz)))
noncomputable def DJ (cal:Cal) (k:Nat):KR:=(cutK (Lv.b (Lv.b (Lv.b (Lv.b (Lv.b (Lv.b (A 65))))))).c (az P cal (ax P cal k) none 65 (cR (cR (cR (cR (cR (cR (cR ny))))))) (Lv.b (Lv.b (Lv.b (Lv.b (Lv.b (Lv.b (Lv.b (A 65)))))))) (aw P cz) X0 (aw P cz)))
noncomputable def K65_prrrrrrl (cal:Cal) (k:Nat):KR:=(cutK (Lv.a (Lv.b (Lv.b (Lv.b (Lv.b (Lv.b (Lv.b (A 65)))))))).c (az P cal (ax P cal k) none 65 (cR (cL (cR (cR (cR (cR (cR (cR ny)))))))) (Lv.b (Lv.a (Lv.b (Lv.b (Lv.b (Lv.b (Lv.b (Lv.b (A 65))))))))) (DJ cal k) X0 (aw P cz)))
noncomputable def nz (cal:Cal) (k:Nat):XR:=(upX 0 (DJ cal k) X0)
noncomputable def xj (cal:Cal) (k:Nat) (m1:Nat):KR:=(fun T H n D=>ax P cal m1 (Lv.a (Lv.b (Lv.a (Lv.b (Lv.b (Lv.b (Lv.b (Lv.b (Lv.b (A 65)))))))))) none 65 (cL (cR (cL (cR (cR (cR (cR (cR (cR ny))))))))) (DJ cal k) (nz cal k) (aw P cz) (cutT (Lv.a (Lv.b (Lv.a (Lv.b (Lv.b (Lv.b (Lv.b (Lv.b (Lv.b (A 65)))))))))).c T) H n D)
noncomputable def K65_prrrrrrlrll (cal:Cal) (k:Nat) (m1:Nat):KR:=(cutK (Lv.a (Lv.a (Lv.b (Lv.a (Lv.b (Lv.b (Lv.b (Lv.b (Lv.b (Lv.b (A 65))))))))))).c (az P cal (ax P cal m1) none 65 (cR (cL (cL (cR (cL (cR (cR (cR (cR (cR (cR ny))))))))))) (Lv.b (Lv.a (Lv.a (Lv.b (Lv.a (Lv.b (Lv.b (Lv.b (Lv.b (Lv.b (Lv.b (A 65)))))))))))) (xj cal k m1) (nz cal k) (aw P cz)))
noncomputable def K65_prrrrrrlrllr (cal:Cal) (k:Nat) (m1:Nat):KR:=(cutK (Lv.b (Lv.a (Lv.a (Lv.b (Lv.a (Lv.b (Lv.b (Lv.b (Lv.b (Lv.b (Lv.b (A 65)))))))))))).c (az P cal (ax P cal m1) none 65 (cR (cR (cL (cL (cR (cL (cR (cR (cR (cR (cR (cR ny)))))))))))) (Lv.b (Lv.b (Lv.a (Lv.a (Lv.b (Lv.a (Lv.b (Lv.b (Lv.b (Lv.b (Lv.b (Lv.b (A 65))))))))))))) (xj cal k m1) (nz cal k) (aw P cz)))
noncomputable def qX (cal:Cal) (k:Nat) (m1:Nat):KR:=(cutK (Lv.b (Lv.b (Lv.a (Lv.a (Lv.b (Lv.a (Lv.b (Lv.b (Lv.b (Lv.b (Lv.b (Lv.b (A 65))))))))))))).c (az P cal (ax P cal m1) none 65 (cR (cR (cR (cL (cL (cR (cL (cR (cR (cR (cR (cR (cR ny))))))))))))) (Lv.b (Lv.b (Lv.b (Lv.a (Lv.a (Lv.b (Lv.a (Lv.b (Lv.b (Lv.b (Lv.b (Lv.b (Lv.b (A 65)))))))))))))) (xj cal k m1) (nz cal k) (aw P cz)))
noncomputable def tJ (cal:Cal) (k:Nat) (m1:Nat):XR:=(upX 1 (qX cal k m1) (nz cal k))
noncomputable def K65_prrrrrrlrllrrll (cal:Cal) (k:Nat) (m1:Nat):KR:=(cutK (Lv.a (Lv.a (Lv.b (Lv.b (Lv.a (Lv.a (Lv.b (Lv.a (Lv.b (Lv.b (Lv.b (Lv.b (Lv.b (Lv.b (A 65))))))))))))))).c (az P cal (ax P cal m1) none 65 (cR (cL (cL (cR (cR (cL (cL (cR (cL (cR (cR (cR (cR (cR (cR ny))))))))))))))) (Lv.b (Lv.a (Lv.a (Lv.b (Lv.b (Lv.a (Lv.a (Lv.b (Lv.a (Lv.b (Lv.b (Lv.b (Lv.b (Lv.b (Lv.b (A 65)))))))))))))))) (qX cal k m1) (tJ cal k m1) (aw P cz)))
noncomputable def K65_prrrrrrlrllrrllr (cal:Cal) (k:Nat) (m1:Nat):KR:=(cutK (Lv.b (Lv.a (Lv.a (Lv.b (Lv.b (Lv.a (Lv.a (Lv.b (Lv.a (Lv.b (Lv.b (Lv.b (Lv.b (Lv.b (Lv.b (A 65)))))))))))))))).c (az P cal (ax P cal m1) none 65 (cR (cR (cL (cL (cR (cR (cL (cL (cR (cL (cR (cR (cR (cR (cR (cR ny)))))))))))))))) (Lv.b (Lv.b (Lv.a (Lv.a (Lv.b (Lv.b (Lv.a (Lv.a (Lv.b (Lv.a (Lv.b (Lv.b (Lv.b (Lv.b (Lv.b (Lv.b (A 65))))))))))))))))) (qX cal k m1) (tJ cal k m1) (aw P cz)))
noncomputable def K65_prrrrrrlrllrrllrrl (cal:Cal) (k:Nat) (m1:Nat):KR:=(cutK (Lv.a (Lv.b (Lv.b (Lv.a (Lv.a (Lv.b (Lv.b (Lv.a (Lv.a (Lv.b (Lv.a (Lv.b (Lv.b (Lv.b (Lv.b (Lv.b (Lv.b (A 65)))))))))))))))))).c (az P cal (ax P cal m1) none 65 (cR (cL (cR (cR (cL (cL (cR (cR (cL (cL (cR (cL (cR (cR (cR (cR (cR (cR ny)))))))))))))))))) (Lv.b (Lv.a (Lv.b (Lv.b (Lv.a (Lv.a (Lv.b (Lv.b (Lv.a (Lv.a (Lv.b (Lv.a (Lv.b (Lv.b (Lv.b (Lv.b (Lv.b (Lv.b (A 65))))))))))))))))))) (qX cal k m1) (tJ cal k m1) (aw P cz)))
noncomputable def K65_prrrrrrr (cal:Cal) (k:Nat):KR:=(cutK (Lv.b (Lv.b (Lv.b (Lv.b (Lv.b (Lv.b (Lv.b (A 65)))))))).c (az P cal (ax P cal k) none 65 (cR (cR (cR (cR (cR (cR (cR (cR ny)))))))) (Lv.b (Lv.b (Lv.b (Lv.b (Lv.b (Lv.b (Lv.b (Lv.b (A 65))))))))) (aw P cz) X0 (aw P cz)))
noncomputable def E65_1 (cal:Cal) (k m1:Nat):KR:=az P cal (ax P cal m1) none 65 (cL (cL (cR (cL (cR (cR (cR (cR (cR (cR ny)))))))))) (Lv.a (Lv.a (Lv.b (Lv.a (Lv.b (Lv.b (Lv.b (Lv.b (Lv.b (Lv.b (A 65))))))))))) (xj cal k m1) (nz cal k) (aw P cz)
noncomputable def R65_1 (cal:Cal) (k m1:Nat):V5:=fun u5 u7 u9 u35 u36 H n=>ax P cal m1 (Lv.a (Lv.b (Lv.a (Lv.b (Lv.b (Lv.b (Lv.b (Lv.b (Lv.b (A 65)))))))))) none 65 (cL (cR (cL (cR (cR (cR (cR (cR (cR ny))))))))) (DJ cal k) (nz cal k) (aw P cz) (Tr.set (Tr.set (Tr.set (Tr.set (Tr.set Tr.nil 36 (some u36)) 35 (some u35)) 9 (some u9)) 7 (some u7)) 5 (some u5)) H n []
noncomputable def B65_1 (cal:Cal) (k m1:Nat) (b1:V5) (u5 u7 u9 u35 u36:Value) (H:Hp) (n:Nat):Res:=
binK P .lss 3 (.tmp 36) (.const (.int .i64 8)) u36 (.int .i64 8) fun v_1o=>
ifK v_1o (
aq (Bk P 121 u35 u36) fun v_1q=>
binK P .neq 3 (.tmp 40) (.const (.int .i64 (-1))) v_1q (.int .i64 (-1)) fun v_1u=>
aV v_1u true (fun k_1w=>
k_1w u7 H n) H n fun v_1x H_1y n_1z=>
aV v_1u true (fun k_21=>
k_21 u36 H_1y n_1z) H_1y n_1z fun v_22 H_23 n_24=>
aV v_1u true (fun k_26=>
k_26 v_1q H_23 n_24) H_23 n_24 fun v_27 H_28 n_29=>
aV v_1u true (fun k_2b=>
aW P cal 102 [v_1x,v_22,v_27] H_28 n_29 fun v_2f H_2g n_2h=>
k_2b v_2f H_2g n_2h) H_28 n_29 fun v_2c H_2d n_2e=>
aV v_1u true (fun k_2i=>
aq (cW P v_2c (Op.unary UnOp.not v_2c)) fun v_2m=>
k_2i v_2m H_2d n_2e) H_2d n_2e fun v_2j H_2k n_2l=>
aq (dv v_1u v_2j (.bool false)) fun v_2n=>
ifK v_2n (
aq (iW P 121 []) fun v_2o=>
aq (bx P 121 u5 v_2o H_2k) fun H_2r=>
aq (resV P (Tr.set (Tr.set (Tr.set Tr.nil 6 (some (.int .i64 2))) 5 (some u5)) 4 (some (.pointer none))) H_2r cz) fun v_2t=>some (oneV v_2t,H_2r,n_2l)) (
binK P .add 3 (.tmp 36) (.const (.int .i64 1)) u36 (.int .i64 1) fun v_2u=>
b1 u5 u7 u9 u35 v_2u H_2k n_2l)) (
aq (aX u9) fun a_2x=>aq (ak P H 121 a_2x) fun v_2y=>
aq (bx P 121 u5 v_2y H) fun H_31=>
aq (resV P (Tr.set (Tr.set (Tr.set Tr.nil 6 (some (.int .i64 0))) 5 (some u5)) 4 (some u7)) H_31 cz) fun v_33=>some (oneV v_33,H_31,n))
noncomputable def C65_1 (cal:Cal) (k m1:Nat) (b1:V5) (u5 u7 u9 u35 u36:Value) (H:Hp) (n:Nat):Res:=B65_1 cal k m1 b1 u5 u7 u9 u35 u36 H n
noncomputable def S65_1 (cal:Cal) (k:Nat):Nat→V5:=fun m=>Nat.rec (motive:=fun _=>V5) (C65_1 cal k 0 (fun _ _ _ _ _ _ _=>none)) (fun m ih=>C65_1 cal k (m+1) ih) m
theorem h65_1 (cal:Cal) (k m1:Nat) (u5 u7 u9 u35 u36:Value) (H:Hp) (n:Nat):labK (E65_1 cal k m1) (Tr.set (Tr.set (Tr.set (Tr.set (Tr.set Tr.nil 36 (some u36)) 35 (some u35)) 9 (some u9)) 7 (some u7)) 5 (some u5)) H n []=C65_1 cal k m1 (R65_1 cal k m1) u5 u7 u9 u35 u36 H n:=by
 refine Eq.trans (b:=B65_1 cal k m1 (R65_1 cal k m1) u5 u7 u9 u35 u36 H n) (by kernel_rfl) ?_
 rw[C65_1]
theorem q65_1 (cal:Cal) (k:Nat):∀(m:Nat) (u5 u7 u9 u35 u36:Value) (H:Hp) (n:Nat),labK (E65_1 cal k m) (Tr.set (Tr.set (Tr.set (Tr.set (Tr.set Tr.nil 36 (some u36)) 35 (some u35)) 9 (some u9)) 7 (some u7)) 5 (some u5)) H n []=S65_1 cal k m u5 u7 u9 u35 u36 H n
 | 0,u5,u7,u9,u35,u36,H,n=>by
  rw[h65_1]
  have e:R65_1 cal k 0=fun _ _ _ _ _ _ _=>none:=by funext u5 u7 u9 u35 u36 H n; kernel_rfl
  rw[e]; rfl
 | m+1,u5,u7,u9,u35,u36,H,n=>by
  rw[h65_1]
  have e:R65_1 cal k (m+1)=S65_1 cal k m:=by
   funext u5 u7 u9 u35 u36 H n
   have e:R65_1 cal k (m+1) u5 u7 u9 u35 u36 H n=labK (E65_1 cal k m) (Tr.set (Tr.set (Tr.set (Tr.set (Tr.set Tr.nil 36 (some u36)) 35 (some u35)) 9 (some u9)) 7 (some u7)) 5 (some u5)) H n []:=by kernel_rfl
   rw[e]; exact q65_1 ..
  rw[e]; rfl
noncomputable def B65_0 (cal:Cal) (k:Nat) (j1:V5) (v0 v1:Value) (H:Hp) (n:Nat):Res:=
boxK 35 v0 H n fun v_1 H_2 n_3=>
cQ P 121 H_2 n_3 fun v_5 H_6 n_7=>
aq (aX v_1) fun a_a=>aq (ak P H_6 35 a_a) fun v_9=>
aW P cal 61 [v_9] H_6 n_7 fun v_b H_c n_d=>
aq (tupV v_b 0) fun v_f=>
aq (tupV v_b 1) fun v_g=>
binK P .neq 29 (.tmp 17) (.const (.int .i64 0)) v_g (.int .i64 0) fun v_k=>
ifK v_k (
aq (iW P 121 []) fun v_l=>
aq (bx P 121 v_5 v_l H_c) fun H_p=>
aq (resV P (Tr.set (Tr.set (Tr.set Tr.nil 6 (some v_g)) 5 (some v_5)) 4 (some (.pointer none))) H_p cz) fun v_r=>some (oneV v_r,H_p,n_d)) (
aq (lenV P 44 v1) fun v_t=>
aq (nilV v_f) fun v_v=>
aq (ay P 117 v_v 0) fun v_w=>
aq (ay P 35 v_w 0) fun v_x=>
aq (aX v_x) fun a_z=>aq (ak P H_c 31 a_z) fun v_y=>
aq (lenV P 31 v_y) fun v_10=>
binK P .neq 3 (.tmp 22) (.tmp 28) v_t v_10 fun v_11=>
ifK v_11 (
aq (iW P 121 []) fun v_12=>
aq (bx P 121 v_5 v_12 H_c) fun H_15=>
aq (resV P (Tr.set (Tr.set (Tr.set Tr.nil 6 (some (.int .i64 2))) 5 (some v_5)) 4 (some (.pointer none))) H_15 cz) fun v_17=>some (oneV v_17,H_15,n_d)) (
aW P cal 101 [] H_c n_d fun v_18 H_19 n_1a=>
cQ P 121 H_19 n_1a fun v_1b H_1c n_1d=>
aq (bx P 121 v_1b v_18 H_1c) fun H_1f=>
aq (GJ P 121 v_1b none none) fun v_1g=>
stK (Qy P (bare H_1f n_1d) 44 v_1g v1) fun v_1i H_1j n_1k=>
aq (aX v_1b) fun a_1m=>aq (ak P H_1j 121 a_1m) fun v_1l=>
j1 v_5 v_f v_1b v_1l (.int .i64 0) H_1j n_1k))
noncomputable def Xq (cal:Cal) (k:Nat) (v0 v1:Value) (H:Hp) (n:Nat):Res:=B65_0 cal k (S65_1 cal k k) v0 v1 H n
theorem h65_0 (cal:Cal) (k:Nat) (v0 v1:Value) (H:Hp) (n:Nat):aK P cal A (k+1) 65 [v0,v1] H n=Xq cal k v0 v1 H n:=by
 have h:aK P cal A (k+1) 65 [v0,v1] H n=B65_0 cal k (fun u5 u7 u9 u35 u36 H n=>labK (E65_1 cal k k) (Tr.set (Tr.set (Tr.set (Tr.set (Tr.set Tr.nil 36 (some u36)) 35 (some u35)) 9 (some u9)) 7 (some u7)) 5 (some u5)) H n []) v0 v1 H n:=by
  rw[bQ (fn:=Go.Proofs.Try.f65) (c:=ny) (rs:=cz) (by kernel_rfl) (by kernel_rfl) (by kernel_rfl) (by kernel_rfl)]
  kernel_rfl
 rw[h,Xq]
 have e1:(fun u5 u7 u9 u35 u36 H n=>labK (E65_1 cal k k) (Tr.set (Tr.set (Tr.set (Tr.set (Tr.set Tr.nil 36 (some u36)) 35 (some u35)) 9 (some u9)) 7 (some u7)) 5 (some u5)) H n [])=(S65_1 cal k k):=by funext u5 u7 u9 u35 u36 H n; exact q65_1 ..
 rw[e1]
noncomputable def Uz:Code:=cw 67
noncomputable def sV:List ResultVar:=dk 67
noncomputable def K67_p (cal:Cal) (k:Nat):KR:=(cutK (A 67).c (az P cal (ax P cal k) none 67 (cR Uz) (Lv.b (A 67)) (aw P sV) X0 (aw P sV)))
noncomputable def K67_pr (cal:Cal) (k:Nat):KR:=(cutK (Lv.b (A 67)).c (az P cal (ax P cal k) none 67 (cR (cR Uz)) (Lv.b (Lv.b (A 67))) (aw P sV) X0 (aw P sV)))
noncomputable def K67_prl (cal:Cal) (k:Nat):KR:=(cutK (Lv.a (Lv.b (A 67))).c (az P cal (ax P cal k) none 67 (cR (cL (cR Uz))) (Lv.b (Lv.a (Lv.b (A 67)))) (K67_pr cal k) X0 (aw P sV)))
noncomputable def K67_prlrl (cal:Cal) (k:Nat):KR:=(cutK (Lv.a (Lv.b (Lv.a (Lv.b (A 67))))).c (az P cal (ax P cal k) none 67 (cR (cL (cR (cL (cR Uz))))) (Lv.b (Lv.a (Lv.b (Lv.a (Lv.b (A 67)))))) (K67_pr cal k) X0 (aw P sV)))
noncomputable def K67_prr (cal:Cal) (k:Nat):KR:=(cutK (Lv.b (Lv.b (A 67))).c (az P cal (ax P cal k) none 67 (cR (cR (cR Uz))) (Lv.b (Lv.b (Lv.b (A 67)))) (aw P sV) X0 (aw P sV)))
noncomputable def B67_0 (cal:Cal) (k:Nat) (v0:Value) (H:Hp) (n:Nat):Res:=
binK P .eql 45 (.tmp 3) (.const (.slice none 0 0)) v0 (.slice none 0 0) fun v_3=>
ifK v_3 (
some ((.slice none 0 0),H,n)) (
rowK P 45 0 [] H n fun v_5 H_6 n_7=>
stK (fk P (bare H_6 n_7) 45 45 v_5 v0) fun v_9 H_a n_b=>
some (v_9,H_a,n_b))
noncomputable def C67_0 (cal:Cal) (k:Nat) (v0:Value) (H:Hp) (n:Nat):Res:=B67_0 cal k v0 H n
theorem h67_0 (cal:Cal) (k:Nat) (v0:Value) (H:Hp) (n:Nat):aK P cal A (k+1) 67 [v0] H n=C67_0 cal k v0 H n:=by
 have h:aK P cal A (k+1) 67 [v0] H n=B67_0 cal k v0 H n:=by
  rw[bQ (fn:=Go.Proofs.Try.f67) (c:=Uz) (rs:=sV) (by kernel_rfl) (by kernel_rfl) (by kernel_rfl) (by kernel_rfl)]
  kernel_rfl
 rw[h,C67_0]
noncomputable def code68:Code:=cw 68
noncomputable def FY:List ResultVar:=dk 68
noncomputable def K68_p (cal:Cal) (k:Nat):KR:=(cutK (A 68).c (az P cal (ax P cal k) none 68 (cR code68) (Lv.b (A 68)) (aw P FY) X0 (aw P FY)))
noncomputable def K68_pr (cal:Cal) (k:Nat):KR:=(cutK (Lv.b (A 68)).c (az P cal (ax P cal k) none 68 (cR (cR code68)) (Lv.b (Lv.b (A 68))) (aw P FY) X0 (aw P FY)))
noncomputable def B68_0 (cal:Cal) (k:Nat) (v0 v1 v2:Value) (H:Hp) (n:Nat):Res:=
boxK 111 v1 H n fun v_1 H_2 n_3=>
aq (aY P 111 v_1 v2) fun v_6=>
aq (ay P 53 v_6 0) fun v_7=>
aq (aX v_7) fun a_8=>aq (ak P H_2 3 a_8) fun v_9=>
aq (nilV v0) fun v_b=>
aq (ay P 117 v_b 0) fun v_c=>
aq (ay P 35 v_c 0) fun v_d=>
aq (aX v_d) fun a_e=>aq (ak P H_2 31 a_e) fun v_f=>
aq (aY P 31 v_f v2) fun v_h=>
aq (ay P 90 v_h 0) fun v_i=>
aq (aX v_i) fun a_j=>aq (ak P H_2 3 a_j) fun v_k=>
binK P .lss 3 (.tmp 10) (.tmp 19) v_9 v_k fun v_l=>
some (v_l,H_2,n_3)
noncomputable def C68_0 (cal:Cal) (k:Nat) (v0 v1 v2:Value) (H:Hp) (n:Nat):Res:=B68_0 cal k v0 v1 v2 H n
theorem h68_0 (cal:Cal) (k:Nat) (v0 v1 v2:Value) (H:Hp) (n:Nat):aK P cal A (k+1) 68 [v0,v1,v2] H n=C68_0 cal k v0 v1 v2 H n:=by
 have h:aK P cal A (k+1) 68 [v0,v1,v2] H n=B68_0 cal k v0 v1 v2 H n:=by
  rw[bQ (fn:=Go.Proofs.Try.f68) (c:=code68) (rs:=FY) (by kernel_rfl) (by kernel_rfl) (by kernel_rfl) (by kernel_rfl)]
  kernel_rfl
 rw[h,C68_0]
noncomputable def code69:Code:=cw 69
noncomputable def FZ:List ResultVar:=dk 69
noncomputable def K69_p (cal:Cal) (k:Nat):KR:=(cutK (A 69).c (az P cal (ax P cal k) none 69 (cR code69) (Lv.b (A 69)) (aw P FZ) X0 (aw P FZ)))
noncomputable def K69_pr (cal:Cal) (k:Nat):KR:=(cutK (Lv.b (A 69)).c (az P cal (ax P cal k) none 69 (cR (cR code69)) (Lv.b (Lv.b (A 69))) (aw P FZ) X0 (aw P FZ)))
noncomputable def B69_0 (cal:Cal) (k:Nat) (v0 v1 v2:Value) (H:Hp) (n:Nat):Res:=
boxK 111 v1 H n fun v_1 H_2 n_3=>
aq (aY P 111 v_1 v2) fun v_6=>
aq (ay P 53 v_6 1) fun v_7=>
aq (aX v_7) fun a_8=>aq (ak P H_2 3 a_8) fun v_9=>
aq (nilV v0) fun v_b=>
aq (ay P 117 v_b 0) fun v_c=>
aq (ay P 35 v_c 0) fun v_d=>
aq (aX v_d) fun a_e=>aq (ak P H_2 31 a_e) fun v_f=>
aq (aY P 31 v_f v2) fun v_h=>
aq (ay P 90 v_h 1) fun v_i=>
aq (aX v_i) fun a_j=>aq (ak P H_2 3 a_j) fun v_k=>
binK P .gtr 3 (.tmp 10) (.tmp 19) v_9 v_k fun v_l=>
some (v_l,H_2,n_3)
noncomputable def C69_0 (cal:Cal) (k:Nat) (v0 v1 v2:Value) (H:Hp) (n:Nat):Res:=B69_0 cal k v0 v1 v2 H n
theorem h69_0 (cal:Cal) (k:Nat) (v0 v1 v2:Value) (H:Hp) (n:Nat):aK P cal A (k+1) 69 [v0,v1,v2] H n=C69_0 cal k v0 v1 v2 H n:=by
 have h:aK P cal A (k+1) 69 [v0,v1,v2] H n=B69_0 cal k v0 v1 v2 H n:=by
  rw[bQ (fn:=Go.Proofs.Try.f69) (c:=code69) (rs:=FZ) (by kernel_rfl) (by kernel_rfl) (by kernel_rfl) (by kernel_rfl)]
  kernel_rfl
 rw[h,C69_0]
noncomputable def code71:Code:=cw 71
noncomputable def FK:List ResultVar:=dk 71
noncomputable def K71_p (cal:Cal) (k:Nat):KR:=(cutK (A 71).c (az P cal (ax P cal k) none 71 (cR code71) (Lv.b (A 71)) (aw P FK) X0 (aw P FK)))
noncomputable def K71_pr (cal:Cal) (k:Nat):KR:=(cutK (Lv.b (A 71)).c (az P cal (ax P cal k) none 71 (cR (cR code71)) (Lv.b (Lv.b (A 71))) (aw P FK) X0 (aw P FK)))
noncomputable def B71_0 (cal:Cal) (k:Nat) (v0 v1:Value) (H:Hp) (n:Nat):Res:=
boxK 35 v0 H n fun v_1 H_2 n_3=>
binK P .geq 3 (.tmp 5) (.const (.int .i64 0)) v1 (.int .i64 0) fun v_6=>
aV v_6 true (fun k_8=>
k_8 v1 H_2 n_3) H_2 n_3 fun v_9 H_a n_b=>
aV v_6 true (fun k_d=>
aq (ay P 35 v_1 0) fun v_h=>
k_d v_h H_a n_b) H_a n_b fun v_e H_f n_g=>
aV v_6 true (fun k_i=>
aq (aX v_e) fun a_n=>aq (ak P H_f 31 a_n) fun v_m=>
k_i v_m H_f n_g) H_f n_g fun v_j H_k n_l=>
aV v_6 true (fun k_o=>
aq (lenV P 31 v_j) fun v_s=>
k_o v_s H_k n_l) H_k n_l fun v_p H_q n_r=>
aV v_6 true (fun k_t=>
binK P .lss 3 (.tmp 8) (.tmp 11) v_9 v_p fun v_x=>
k_t v_x H_q n_r) H_q n_r fun v_u H_v n_w=>
aq (dv v_6 v_u (.bool false)) fun v_y=>
some (v_y,H_v,n_w)
noncomputable def C71_0 (cal:Cal) (k:Nat) (v0 v1:Value) (H:Hp) (n:Nat):Res:=B71_0 cal k v0 v1 H n
theorem h71_0 (cal:Cal) (k:Nat) (v0 v1:Value) (H:Hp) (n:Nat):aK P cal A (k+1) 71 [v0,v1] H n=C71_0 cal k v0 v1 H n:=by
 have h:aK P cal A (k+1) 71 [v0,v1] H n=B71_0 cal k v0 v1 H n:=by
  rw[bQ (fn:=Go.Proofs.Try.f71) (c:=code71) (rs:=FK) (by kernel_rfl) (by kernel_rfl) (by kernel_rfl) (by kernel_rfl)]
  kernel_rfl
 rw[h,C71_0]
noncomputable def code72:Code:=cw 72
noncomputable def Gj:List ResultVar:=dk 72
noncomputable def K72_p (cal:Cal) (k:Nat):KR:=(cutK (A 72).c (az P cal (ax P cal k) none 72 (cR code72) (Lv.b (A 72)) (aw P Gj) X0 (aw P Gj)))
noncomputable def K72_pr (cal:Cal) (k:Nat):KR:=(cutK (Lv.b (A 72)).c (az P cal (ax P cal k) none 72 (cR (cR code72)) (Lv.b (Lv.b (A 72))) (aw P Gj) X0 (aw P Gj)))
noncomputable def B72_0 (cal:Cal) (k:Nat) (v0:Value) (H:Hp) (n:Nat):Res:=
boxK 53 v0 H n fun v_1 H_2 n_3=>
aq (ay P 53 v_1 0) fun v_5=>
aq (aX v_5) fun a_7=>aq (ak P H_2 3 a_7) fun v_6=>
some (v_6,H_2,n_3)
noncomputable def C72_0 (cal:Cal) (k:Nat) (v0:Value) (H:Hp) (n:Nat):Res:=B72_0 cal k v0 H n
theorem h72_0 (cal:Cal) (k:Nat) (v0:Value) (H:Hp) (n:Nat):aK P cal A (k+1) 72 [v0] H n=C72_0 cal k v0 H n:=by
 have h:aK P cal A (k+1) 72 [v0] H n=B72_0 cal k v0 H n:=by
  rw[bQ (fn:=Go.Proofs.Try.f72) (c:=code72) (rs:=Gj) (by kernel_rfl) (by kernel_rfl) (by kernel_rfl) (by kernel_rfl)]
  kernel_rfl
 rw[h,C72_0]
noncomputable def code73:Code:=cw 73
noncomputable def Gq:List ResultVar:=dk 73
noncomputable def K73_p (cal:Cal) (k:Nat):KR:=(cutK (A 73).c (az P cal (ax P cal k) none 73 (cR code73) (Lv.b (A 73)) (aw P Gq) X0 (aw P Gq)))
noncomputable def K73_pr (cal:Cal) (k:Nat):KR:=(cutK (Lv.b (A 73)).c (az P cal (ax P cal k) none 73 (cR (cR code73)) (Lv.b (Lv.b (A 73))) (aw P Gq) X0 (aw P Gq)))
noncomputable def B73_0 (cal:Cal) (k:Nat) (v0:Value) (H:Hp) (n:Nat):Res:=
boxK 53 v0 H n fun v_1 H_2 n_3=>
aq (ay P 53 v_1 1) fun v_5=>
aq (aX v_5) fun a_7=>aq (ak P H_2 3 a_7) fun v_6=>
some (v_6,H_2,n_3)
noncomputable def C73_0 (cal:Cal) (k:Nat) (v0:Value) (H:Hp) (n:Nat):Res:=B73_0 cal k v0 H n
theorem h73_0 (cal:Cal) (k:Nat) (v0:Value) (H:Hp) (n:Nat):aK P cal A (k+1) 73 [v0] H n=C73_0 cal k v0 H n:=by
 have h:aK P cal A (k+1) 73 [v0] H n=B73_0 cal k v0 H n:=by
  rw[bQ (fn:=Go.Proofs.Try.f73) (c:=code73) (rs:=Gq) (by kernel_rfl) (by kernel_rfl) (by kernel_rfl) (by kernel_rfl)]
  kernel_rfl
 rw[h,C73_0]
noncomputable def code74:Code:=cw 74
noncomputable def Gv:List ResultVar:=dk 74
noncomputable def K74_p (cal:Cal) (k:Nat):KR:=(cutK (A 74).c (az P cal (ax P cal k) none 74 (cR code74) (Lv.b (A 74)) (aw P Gv) X0 (aw P Gv)))
noncomputable def K74_pr (cal:Cal) (k:Nat):KR:=(cutK (Lv.b (A 74)).c (az P cal (ax P cal k) none 74 (cR (cR code74)) (Lv.b (Lv.b (A 74))) (aw P Gv) X0 (aw P Gv)))
noncomputable def B74_0 (cal:Cal) (k:Nat) (v0 v1:Value) (H:Hp) (n:Nat):Res:=
boxK 105 v0 H n fun v_1 H_2 n_3=>
boxK 121 v1 H_2 n_3 fun v_4 H_5 n_6=>
some ((Value.func (Fn.func 104) ⟨[]⟩ ⟨[v_4,v_1]⟩),H_5,n_6)
noncomputable def C74_0 (cal:Cal) (k:Nat) (v0 v1:Value) (H:Hp) (n:Nat):Res:=B74_0 cal k v0 v1 H n
theorem h74_0 (cal:Cal) (k:Nat) (v0 v1:Value) (H:Hp) (n:Nat):aK P cal A (k+1) 74 [v0,v1] H n=C74_0 cal k v0 v1 H n:=by
 have h:aK P cal A (k+1) 74 [v0,v1] H n=B74_0 cal k v0 v1 H n:=by
  rw[bQ (fn:=Go.Proofs.Try.f74) (c:=code74) (rs:=Gv) (by kernel_rfl) (by kernel_rfl) (by kernel_rfl) (by kernel_rfl)]
  kernel_rfl
 rw[h,C74_0]
noncomputable def Uk:Code:=cw 76
noncomputable def sW:List ResultVar:=dk 76
noncomputable def K76_p (cal:Cal) (k:Nat):KR:=(cutK (A 76).c (az P cal (ax P cal k) none 76 (cR Uk) (Lv.b (A 76)) (aw P sW) X0 (aw P sW)))
noncomputable def K76_pr (cal:Cal) (k:Nat):KR:=(cutK (Lv.b (A 76)).c (az P cal (ax P cal k) none 76 (cR (cR Uk)) (Lv.b (Lv.b (A 76))) (aw P sW) X0 (aw P sW)))
noncomputable def K76_prl (cal:Cal) (k:Nat):KR:=(cutK (Lv.a (Lv.b (A 76))).c (az P cal (ax P cal k) none 76 (cR (cL (cR Uk))) (Lv.b (Lv.a (Lv.b (A 76)))) (K76_pr cal k) X0 (aw P sW)))
noncomputable def K76_prlrl (cal:Cal) (k:Nat):KR:=(cutK (Lv.a (Lv.b (Lv.a (Lv.b (A 76))))).c (az P cal (ax P cal k) none 76 (cR (cL (cR (cL (cR Uk))))) (Lv.b (Lv.a (Lv.b (Lv.a (Lv.b (A 76)))))) (K76_pr cal k) X0 (aw P sW)))
noncomputable def K76_prr (cal:Cal) (k:Nat):KR:=(cutK (Lv.b (Lv.b (A 76))).c (az P cal (ax P cal k) none 76 (cR (cR (cR Uk))) (Lv.b (Lv.b (Lv.b (A 76)))) (aw P sW) X0 (aw P sW)))
noncomputable def B76_0 (cal:Cal) (k:Nat) (v0:Value) (H:Hp) (n:Nat):Res:=
binK P .eql 44 (.tmp 3) (.const (.slice none 0 0)) v0 (.slice none 0 0) fun v_3=>
ifK v_3 (
some ((.slice none 0 0),H,n)) (
rowK P 44 0 [] H n fun v_5 H_6 n_7=>
stK (fk P (bare H_6 n_7) 44 44 v_5 v0) fun v_9 H_a n_b=>
some (v_9,H_a,n_b))
noncomputable def Oz (cal:Cal) (k:Nat) (v0:Value) (H:Hp) (n:Nat):Res:=B76_0 cal k v0 H n
theorem h76_0 (cal:Cal) (k:Nat) (v0:Value) (H:Hp) (n:Nat):aK P cal A (k+1) 76 [v0] H n=Oz cal k v0 H n:=by
 have h:aK P cal A (k+1) 76 [v0] H n=B76_0 cal k v0 H n:=by
  rw[bQ (fn:=Go.Proofs.Try.f76) (c:=Uk) (rs:=sW) (by kernel_rfl) (by kernel_rfl) (by kernel_rfl) (by kernel_rfl)]
  kernel_rfl
 rw[h,Oz]
noncomputable def KZ:Code:=cw 77
noncomputable def kz:List ResultVar:=dk 77
noncomputable def K77_p (cal:Cal) (k:Nat):KR:=(cutK (A 77).c (az P cal (ax P cal k) none 77 (cR KZ) (Lv.b (A 77)) (aw P kz) X0 (aw P kz)))
noncomputable def K77_pr (cal:Cal) (k:Nat):KR:=(cutK (Lv.b (A 77)).c (az P cal (ax P cal k) none 77 (cR (cR KZ)) (Lv.b (Lv.b (A 77))) (aw P kz) X0 (aw P kz)))
noncomputable def RK (cal:Cal) (k:Nat):XR:=(upX 0 (K77_pr cal k) X0)
noncomputable def K77_prll (cal:Cal) (k:Nat):KR:=(cutK (Lv.a (Lv.a (Lv.b (A 77)))).c (az P cal (ax P cal k) none 77 (cR (cL (cL (cR KZ)))) (Lv.b (Lv.a (Lv.a (Lv.b (A 77))))) (K77_pr cal k) (RK cal k) (aw P kz)))
noncomputable def K77_prllrl (cal:Cal) (k:Nat):KR:=(cutK (Lv.a (Lv.b (Lv.a (Lv.a (Lv.b (A 77)))))).c (az P cal (ax P cal k) none 77 (cR (cL (cR (cL (cL (cR KZ)))))) (Lv.b (Lv.a (Lv.b (Lv.a (Lv.a (Lv.b (A 77))))))) (K77_pr cal k) (RK cal k) (aw P kz)))
noncomputable def K77_prllrr (cal:Cal) (k:Nat):KR:=(cutK (Lv.b (Lv.b (Lv.a (Lv.a (Lv.b (A 77)))))).c (az P cal (ax P cal k) none 77 (cR (cR (cR (cL (cL (cR KZ)))))) (Lv.b (Lv.b (Lv.b (Lv.a (Lv.a (Lv.b (A 77))))))) (K77_pr cal k) (RK cal k) (aw P kz)))
noncomputable def K77_prllrrrl (cal:Cal) (k:Nat):KR:=(cutK (Lv.a (Lv.b (Lv.b (Lv.b (Lv.a (Lv.a (Lv.b (A 77)))))))).c (az P cal (ax P cal k) none 77 (cR (cL (cR (cR (cR (cL (cL (cR KZ)))))))) (Lv.b (Lv.a (Lv.b (Lv.b (Lv.b (Lv.a (Lv.a (Lv.b (A 77))))))))) (K77_pr cal k) (RK cal k) (aw P kz)))
noncomputable def K77_prr (cal:Cal) (k:Nat):KR:=(cutK (Lv.b (Lv.b (A 77))).c (az P cal (ax P cal k) none 77 (cR (cR (cR KZ))) (Lv.b (Lv.b (Lv.b (A 77)))) (aw P kz) X0 (aw P kz)))
noncomputable def B77_0 (cal:Cal) (k:Nat) (v0 v1 v2 v3:Value) (H:Hp) (n:Nat):Res:=
boxK 26 v0 H n fun v_1 H_2 n_3=>
cQ P 55 H_2 n_3 fun v_4 H_5 n_6=>
binK P .eql 3 (.tmp 10) (.tmp 11) v2 v3 fun v_9=>
ifK v_9 (
aq (ay P 26 v_1 2) fun v_b=>
aq (aX v_b) fun a_d=>aq (ak P H_5 24 a_d) fun v_c=>
aq (aY P 24 v_c v1) fun v_f=>
aq (ay P 94 v_f 1) fun v_g=>
aq (aX v_g) fun a_i=>aq (ak P H_5 55 a_i) fun v_h=>
aq (bx P 55 v_4 v_h H_5) fun H_k=>
aq (resV P (Tr.set Tr.nil 8 (some v_4)) H_k kz) fun v_l=>some (oneV v_l,H_k,n_6)) (
aq (aX v_1) fun a_n=>aq (ak P H_5 26 a_n) fun v_m=>
aW P cal 89 [v_m,v2,v3] H_5 n_6 fun v_q H_r n_s=>
ifK v_q (
aq (ay P 26 v_1 2) fun v_u=>
aq (aX v_u) fun a_w=>aq (ak P H_r 24 a_w) fun v_v=>
aq (aY P 24 v_v v1) fun v_y=>
aq (ay P 94 v_y 2) fun v_z=>
aq (aX v_z) fun a_11=>aq (ak P H_r 55 a_11) fun v_10=>
aq (bx P 55 v_4 v_10 H_r) fun H_13=>
aq (resV P (Tr.set Tr.nil 8 (some v_4)) H_13 kz) fun v_14=>some (oneV v_14,H_13,n_s)) (
aq (iW P 55 []) fun v_15=>
aq (bx P 55 v_4 v_15 H_r) fun H_17=>
aq (resV P (Tr.set Tr.nil 8 (some v_4)) H_17 kz) fun v_18=>some (oneV v_18,H_17,n_s)))
noncomputable def C77_0 (cal:Cal) (k:Nat) (v0 v1 v2 v3:Value) (H:Hp) (n:Nat):Res:=B77_0 cal k v0 v1 v2 v3 H n
theorem h77_0 (cal:Cal) (k:Nat) (v0 v1 v2 v3:Value) (H:Hp) (n:Nat):aK P cal A (k+1) 77 [v0,v1,v2,v3] H n=C77_0 cal k v0 v1 v2 v3 H n:=by
 have h:aK P cal A (k+1) 77 [v0,v1,v2,v3] H n=B77_0 cal k v0 v1 v2 v3 H n:=by
  rw[bQ (fn:=Go.Proofs.Try.f77) (c:=KZ) (rs:=kz) (by kernel_rfl) (by kernel_rfl) (by kernel_rfl) (by kernel_rfl)]
  kernel_rfl
 rw[h,C77_0]
noncomputable def xq:Code:=cw 83
noncomputable def jw:List ResultVar:=dk 83
noncomputable def K83_p (cal:Cal) (k:Nat):KR:=(cutK (A 83).c (az P cal (ax P cal k) none 83 (cR xq) (Lv.b (A 83)) (aw P jw) X0 (aw P jw)))
noncomputable def K83_pr (cal:Cal) (k:Nat):KR:=(cutK (Lv.b (A 83)).c (az P cal (ax P cal k) none 83 (cR (cR xq)) (Lv.b (Lv.b (A 83))) (aw P jw) X0 (aw P jw)))
noncomputable def K83_prl (cal:Cal) (k:Nat):KR:=(cutK (Lv.a (Lv.b (A 83))).c (az P cal (ax P cal k) none 83 (cR (cL (cR xq))) (Lv.b (Lv.a (Lv.b (A 83)))) (K83_pr cal k) X0 (aw P jw)))
noncomputable def yZ (cal:Cal) (k:Nat):XR:=(upX 0 (K83_pr cal k) X0)
noncomputable def Nv (cal:Cal) (k:Nat) (m1:Nat):KR:=(fun T H n D=>ax P cal m1 (Lv.a (Lv.b (Lv.a (Lv.b (A 83))))) none 83 (cL (cR (cL (cR xq)))) (K83_pr cal k) (yZ cal k) (aw P jw) (cutT (Lv.a (Lv.b (Lv.a (Lv.b (A 83))))).c T) H n D)
noncomputable def K83_prlrll (cal:Cal) (k:Nat) (m1:Nat):KR:=(cutK (Lv.a (Lv.a (Lv.b (Lv.a (Lv.b (A 83)))))).c (az P cal (ax P cal m1) none 83 (cR (cL (cL (cR (cL (cR xq)))))) (Lv.b (Lv.a (Lv.a (Lv.b (Lv.a (Lv.b (A 83))))))) (Nv cal k m1) (yZ cal k) (aw P jw)))
noncomputable def K83_prlrllr (cal:Cal) (k:Nat) (m1:Nat):KR:=(cutK (Lv.b (Lv.a (Lv.a (Lv.b (Lv.a (Lv.b (A 83))))))).c (az P cal (ax P cal m1) none 83 (cR (cR (cL (cL (cR (cL (cR xq))))))) (Lv.b (Lv.b (Lv.a (Lv.a (Lv.b (Lv.a (Lv.b (A 83)))))))) (Nv cal k m1) (yZ cal k) (aw P jw)))
noncomputable def AX (cal:Cal) (k:Nat) (m1:Nat):KR:=(cutK (Lv.b (Lv.b (Lv.a (Lv.a (Lv.b (Lv.a (Lv.b (A 83)))))))).c (az P cal (ax P cal m1) none 83 (cR (cR (cR (cL (cL (cR (cL (cR xq)))))))) (Lv.b (Lv.b (Lv.b (Lv.a (Lv.a (Lv.b (Lv.a (Lv.b (A 83))))))))) (Nv cal k m1) (yZ cal k) (aw P jw)))
noncomputable def Cy (cal:Cal) (k:Nat) (m1:Nat):XR:=(upX 1 (AX cal k m1) (yZ cal k))
noncomputable def K83_prlrllrrll (cal:Cal) (k:Nat) (m1:Nat):KR:=(cutK (Lv.a (Lv.a (Lv.b (Lv.b (Lv.a (Lv.a (Lv.b (Lv.a (Lv.b (A 83)))))))))).c (az P cal (ax P cal m1) none 83 (cR (cL (cL (cR (cR (cL (cL (cR (cL (cR xq)))))))))) (Lv.b (Lv.a (Lv.a (Lv.b (Lv.b (Lv.a (Lv.a (Lv.b (Lv.a (Lv.b (A 83))))))))))) (AX cal k m1) (Cy cal k m1) (aw P jw)))
noncomputable def K83_prlrllrrllr (cal:Cal) (k:Nat) (m1:Nat):KR:=(cutK (Lv.b (Lv.a (Lv.a (Lv.b (Lv.b (Lv.a (Lv.a (Lv.b (Lv.a (Lv.b (A 83))))))))))).c (az P cal (ax P cal m1) none 83 (cR (cR (cL (cL (cR (cR (cL (cL (cR (cL (cR xq))))))))))) (Lv.b (Lv.b (Lv.a (Lv.a (Lv.b (Lv.b (Lv.a (Lv.a (Lv.b (Lv.a (Lv.b (A 83)))))))))))) (AX cal k m1) (Cy cal k m1) (aw P jw)))
noncomputable def K83_prlrllrrllrrl (cal:Cal) (k:Nat) (m1:Nat):KR:=(cutK (Lv.a (Lv.b (Lv.b (Lv.a (Lv.a (Lv.b (Lv.b (Lv.a (Lv.a (Lv.b (Lv.a (Lv.b (A 83))))))))))))).c (az P cal (ax P cal m1) none 83 (cR (cL (cR (cR (cL (cL (cR (cR (cL (cL (cR (cL (cR xq))))))))))))) (Lv.b (Lv.a (Lv.b (Lv.b (Lv.a (Lv.a (Lv.b (Lv.b (Lv.a (Lv.a (Lv.b (Lv.a (Lv.b (A 83)))))))))))))) (AX cal k m1) (Cy cal k m1) (aw P jw)))
noncomputable def K83_prr (cal:Cal) (k:Nat):KR:=(cutK (Lv.b (Lv.b (A 83))).c (az P cal (ax P cal k) none 83 (cR (cR (cR xq))) (Lv.b (Lv.b (Lv.b (A 83)))) (aw P jw) X0 (aw P jw)))
noncomputable def E83_1 (cal:Cal) (k m1:Nat):KR:=az P cal (ax P cal m1) none 83 (cL (cL (cR (cL (cR xq))))) (Lv.a (Lv.a (Lv.b (Lv.a (Lv.b (A 83)))))) (Nv cal k m1) (yZ cal k) (aw P jw)
noncomputable def R83_1 (cal:Cal) (k m1:Nat):V4:=fun u0 u3 u11 u12 H n=>ax P cal m1 (Lv.a (Lv.b (Lv.a (Lv.b (A 83))))) none 83 (cL (cR (cL (cR xq)))) (K83_pr cal k) (yZ cal k) (aw P jw) (Tr.set (Tr.set (Tr.set (Tr.set Tr.nil 12 (some u12)) 11 (some u11)) 3 (some u3)) 0 (some u0)) H n []
noncomputable def B83_1 (cal:Cal) (k m1:Nat) (b1:V4) (u0 u3 u11 u12:Value) (H:Hp) (n:Nat):Res:=
binK P .lss 3 (.tmp 12) (.tmp 11) u12 u11 fun v_d=>
ifK v_d (
aq (aX u3) fun a_i=>aq (ak P H 111 a_i) fun v_h=>
aW P cal 68 [u0,v_h,u12] H n fun v_k H_l n_m=>
ifK v_k (
some ((.bool false),H_l,n_m)) (
binK P .add 3 (.tmp 12) (.const (.int .i64 1)) u12 (.int .i64 1) fun v_o=>
b1 u0 u3 u11 v_o H_l n_m)) (
aq (aX u3) fun a_s=>aq (ak P H 111 a_s) fun v_r=>
aW P cal 111 [u0,v_r] H n fun v_t H_u n_v=>
some (v_t,H_u,n_v))
noncomputable def C83_1 (cal:Cal) (k m1:Nat) (b1:V4) (u0 u3 u11 u12:Value) (H:Hp) (n:Nat):Res:=B83_1 cal k m1 b1 u0 u3 u11 u12 H n
noncomputable def S83_1 (cal:Cal) (k:Nat):Nat→V4:=fun m=>Nat.rec (motive:=fun _=>V4) (C83_1 cal k 0 (fun _ _ _ _ _ _=>none)) (fun m ih=>C83_1 cal k (m+1) ih) m
theorem h83_1 (cal:Cal) (k m1:Nat) (u0 u3 u11 u12:Value) (H:Hp) (n:Nat):labK (E83_1 cal k m1) (Tr.set (Tr.set (Tr.set (Tr.set Tr.nil 12 (some u12)) 11 (some u11)) 3 (some u3)) 0 (some u0)) H n []=C83_1 cal k m1 (R83_1 cal k m1) u0 u3 u11 u12 H n:=by
 refine Eq.trans (b:=B83_1 cal k m1 (R83_1 cal k m1) u0 u3 u11 u12 H n) (by kernel_rfl) ?_
 rw[C83_1]
theorem q83_1 (cal:Cal) (k:Nat):∀(m:Nat) (u0 u3 u11 u12:Value) (H:Hp) (n:Nat),labK (E83_1 cal k m) (Tr.set (Tr.set (Tr.set (Tr.set Tr.nil 12 (some u12)) 11 (some u11)) 3 (some u3)) 0 (some u0)) H n []=S83_1 cal k m u0 u3 u11 u12 H n
 | 0,u0,u3,u11,u12,H,n=>by
  rw[h83_1]
  have e:R83_1 cal k 0=fun _ _ _ _ _ _=>none:=by funext u0 u3 u11 u12 H n; kernel_rfl
  rw[e]; rfl
 | m+1,u0,u3,u11,u12,H,n=>by
  rw[h83_1]
  have e:R83_1 cal k (m+1)=S83_1 cal k m:=by
   funext u0 u3 u11 u12 H n
   have e:R83_1 cal k (m+1) u0 u3 u11 u12 H n=labK (E83_1 cal k m) (Tr.set (Tr.set (Tr.set (Tr.set Tr.nil 12 (some u12)) 11 (some u11)) 3 (some u3)) 0 (some u0)) H n []:=by kernel_rfl
   rw[e]; exact q83_1 ..
  rw[e]; rfl
noncomputable def B83_0 (cal:Cal) (k:Nat) (j1:V4) (v0 v1:Value) (H:Hp) (n:Nat):Res:=
boxK 111 v1 H n fun v_1 H_2 n_3=>
aq (nilV v0) fun v_6=>
aq (ay P 117 v_6 0) fun v_7=>
aq (ay P 35 v_7 0) fun v_8=>
aq (aX v_8) fun a_a=>aq (ak P H_2 31 a_a) fun v_9=>
aq (lenV P 31 v_9) fun v_b=>
j1 v0 v_1 v_b (.int .i64 0) H_2 n_3
noncomputable def C83_0 (cal:Cal) (k:Nat) (v0 v1:Value) (H:Hp) (n:Nat):Res:=B83_0 cal k (S83_1 cal k k) v0 v1 H n
theorem h83_0 (cal:Cal) (k:Nat) (v0 v1:Value) (H:Hp) (n:Nat):aK P cal A (k+1) 83 [v0,v1] H n=C83_0 cal k v0 v1 H n:=by
 have h:aK P cal A (k+1) 83 [v0,v1] H n=B83_0 cal k (fun u0 u3 u11 u12 H n=>labK (E83_1 cal k k) (Tr.set (Tr.set (Tr.set (Tr.set Tr.nil 12 (some u12)) 11 (some u11)) 3 (some u3)) 0 (some u0)) H n []) v0 v1 H n:=by
  rw[bQ (fn:=Go.Proofs.Try.f83) (c:=xq) (rs:=jw) (by kernel_rfl) (by kernel_rfl) (by kernel_rfl) (by kernel_rfl)]
  kernel_rfl
 rw[h,C83_0]
 have e1:(fun u0 u3 u11 u12 H n=>labK (E83_1 cal k k) (Tr.set (Tr.set (Tr.set (Tr.set Tr.nil 12 (some u12)) 11 (some u11)) 3 (some u3)) 0 (some u0)) H n [])=(S83_1 cal k k):=by funext u0 u3 u11 u12 H n; exact q83_1 ..
 rw[e1]
noncomputable def PK:Code:=cw 85
noncomputable def nv:List ResultVar:=dk 85
noncomputable def K85_p (cal:Cal) (k:Nat):KR:=(cutK (A 85).c (az P cal (ax P cal k) none 85 (cR PK) (Lv.b (A 85)) (aw P nv) X0 (aw P nv)))
noncomputable def K85_pr (cal:Cal) (k:Nat):KR:=(cutK (Lv.b (A 85)).c (az P cal (ax P cal k) none 85 (cR (cR PK)) (Lv.b (Lv.b (A 85))) (aw P nv) X0 (aw P nv)))
noncomputable def K85_prr (cal:Cal) (k:Nat):KR:=(cutK (Lv.b (Lv.b (A 85))).c (az P cal (ax P cal k) none 85 (cR (cR (cR PK))) (Lv.b (Lv.b (Lv.b (A 85)))) (aw P nv) X0 (aw P nv)))
noncomputable def K85_prrr (cal:Cal) (k:Nat):KR:=(cutK (Lv.b (Lv.b (Lv.b (A 85)))).c (az P cal (ax P cal k) none 85 (cR (cR (cR (cR PK)))) (Lv.b (Lv.b (Lv.b (Lv.b (A 85))))) (aw P nv) X0 (aw P nv)))
noncomputable def K85_prrrr (cal:Cal) (k:Nat):KR:=(cutK (Lv.b (Lv.b (Lv.b (Lv.b (A 85))))).c (az P cal (ax P cal k) none 85 (cR (cR (cR (cR (cR PK))))) (Lv.b (Lv.b (Lv.b (Lv.b (Lv.b (A 85)))))) (aw P nv) X0 (aw P nv)))
noncomputable def K85_prrrrr (cal:Cal) (k:Nat):KR:=(cutK (Lv.b (Lv.b (Lv.b (Lv.b (Lv.b (A 85)))))).c (az P cal (ax P cal k) none 85 (cR (cR (cR (cR (cR (cR PK)))))) (Lv.b (Lv.b (Lv.b (Lv.b (Lv.b (Lv.b (A 85))))))) (aw P nv) X0 (aw P nv)))
noncomputable def B85_0 (cal:Cal) (k:Nat) (v0:Value) (H:Hp) (n:Nat):Res:=
boxK 105 v0 H n fun v_1 H_2 n_3=>
cQ P 44 H_2 n_3 fun v_5 H_6 n_7=>
cQ P 170 H_6 n_7 fun v_8 H_9 n_a=>
aq (bx P 170 v_8 (Value.func (Fn.func 112) ⟨[]⟩ ⟨[v_5,v_1,v_8]⟩) H_9) fun H_d=>
aq (aX v_8) fun a_f=>aq (ak P H_d 170 a_f) fun v_e=>
ew P cal v_e [(.slice none 0 0),(.int .i64 0)] H_d n_a fun v_g H_h n_i=>
aq (aX v_5) fun a_k=>aq (ak P H_h 44 a_k) fun v_j=>
some (v_j,H_h,n_i)
noncomputable def C85_0 (cal:Cal) (k:Nat) (v0:Value) (H:Hp) (n:Nat):Res:=B85_0 cal k v0 H n
theorem h85_0 (cal:Cal) (k:Nat) (v0:Value) (H:Hp) (n:Nat):aK P cal A (k+1) 85 [v0] H n=C85_0 cal k v0 H n:=by
 have h:aK P cal A (k+1) 85 [v0] H n=B85_0 cal k v0 H n:=by
  rw[bQ (fn:=Go.Proofs.Try.f85) (c:=PK) (rs:=nv) (by kernel_rfl) (by kernel_rfl) (by kernel_rfl) (by kernel_rfl)]
  kernel_rfl
 rw[h,C85_0]
noncomputable def xv:Code:=cw 86
noncomputable def jx:List ResultVar:=dk 86
noncomputable def K86_p (cal:Cal) (k:Nat):KR:=(cutK (A 86).c (az P cal (ax P cal k) none 86 (cR xv) (Lv.b (A 86)) (aw P jx) X0 (aw P jx)))
noncomputable def K86_pr (cal:Cal) (k:Nat):KR:=(cutK (Lv.b (A 86)).c (az P cal (ax P cal k) none 86 (cR (cR xv)) (Lv.b (Lv.b (A 86))) (aw P jx) X0 (aw P jx)))
noncomputable def K86_prl (cal:Cal) (k:Nat):KR:=(cutK (Lv.a (Lv.b (A 86))).c (az P cal (ax P cal k) none 86 (cR (cL (cR xv))) (Lv.b (Lv.a (Lv.b (A 86)))) (K86_pr cal k) X0 (aw P jx)))
noncomputable def yK (cal:Cal) (k:Nat):XR:=(upX 0 (K86_pr cal k) X0)
noncomputable def Nw (cal:Cal) (k:Nat) (m1:Nat):KR:=(fun T H n D=>ax P cal m1 (Lv.a (Lv.b (Lv.a (Lv.b (A 86))))) none 86 (cL (cR (cL (cR xv)))) (K86_pr cal k) (yK cal k) (aw P jx) (cutT (Lv.a (Lv.b (Lv.a (Lv.b (A 86))))).c T) H n D)
noncomputable def K86_prlrll (cal:Cal) (k:Nat) (m1:Nat):KR:=(cutK (Lv.a (Lv.a (Lv.b (Lv.a (Lv.b (A 86)))))).c (az P cal (ax P cal m1) none 86 (cR (cL (cL (cR (cL (cR xv)))))) (Lv.b (Lv.a (Lv.a (Lv.b (Lv.a (Lv.b (A 86))))))) (Nw cal k m1) (yK cal k) (aw P jx)))
noncomputable def K86_prlrllr (cal:Cal) (k:Nat) (m1:Nat):KR:=(cutK (Lv.b (Lv.a (Lv.a (Lv.b (Lv.a (Lv.b (A 86))))))).c (az P cal (ax P cal m1) none 86 (cR (cR (cL (cL (cR (cL (cR xv))))))) (Lv.b (Lv.b (Lv.a (Lv.a (Lv.b (Lv.a (Lv.b (A 86)))))))) (Nw cal k m1) (yK cal k) (aw P jx)))
noncomputable def AY (cal:Cal) (k:Nat) (m1:Nat):KR:=(cutK (Lv.b (Lv.b (Lv.a (Lv.a (Lv.b (Lv.a (Lv.b (A 86)))))))).c (az P cal (ax P cal m1) none 86 (cR (cR (cR (cL (cL (cR (cL (cR xv)))))))) (Lv.b (Lv.b (Lv.b (Lv.a (Lv.a (Lv.b (Lv.a (Lv.b (A 86))))))))) (Nw cal k m1) (yK cal k) (aw P jx)))
noncomputable def Cz (cal:Cal) (k:Nat) (m1:Nat):XR:=(upX 1 (AY cal k m1) (yK cal k))
noncomputable def K86_prlrllrrll (cal:Cal) (k:Nat) (m1:Nat):KR:=(cutK (Lv.a (Lv.a (Lv.b (Lv.b (Lv.a (Lv.a (Lv.b (Lv.a (Lv.b (A 86)))))))))).c (az P cal (ax P cal m1) none 86 (cR (cL (cL (cR (cR (cL (cL (cR (cL (cR xv)))))))))) (Lv.b (Lv.a (Lv.a (Lv.b (Lv.b (Lv.a (Lv.a (Lv.b (Lv.a (Lv.b (A 86))))))))))) (AY cal k m1) (Cz cal k m1) (aw P jx)))
noncomputable def K86_prlrllrrllr (cal:Cal) (k:Nat) (m1:Nat):KR:=(cutK (Lv.b (Lv.a (Lv.a (Lv.b (Lv.b (Lv.a (Lv.a (Lv.b (Lv.a (Lv.b (A 86))))))))))).c (az P cal (ax P cal m1) none 86 (cR (cR (cL (cL (cR (cR (cL (cL (cR (cL (cR xv))))))))))) (Lv.b (Lv.b (Lv.a (Lv.a (Lv.b (Lv.b (Lv.a (Lv.a (Lv.b (Lv.a (Lv.b (A 86)))))))))))) (AY cal k m1) (Cz cal k m1) (aw P jx)))
noncomputable def K86_prlrllrrllrrl (cal:Cal) (k:Nat) (m1:Nat):KR:=(cutK (Lv.a (Lv.b (Lv.b (Lv.a (Lv.a (Lv.b (Lv.b (Lv.a (Lv.a (Lv.b (Lv.a (Lv.b (A 86))))))))))))).c (az P cal (ax P cal m1) none 86 (cR (cL (cR (cR (cL (cL (cR (cR (cL (cL (cR (cL (cR xv))))))))))))) (Lv.b (Lv.a (Lv.b (Lv.b (Lv.a (Lv.a (Lv.b (Lv.b (Lv.a (Lv.a (Lv.b (Lv.a (Lv.b (A 86)))))))))))))) (AY cal k m1) (Cz cal k m1) (aw P jx)))
noncomputable def K86_prr (cal:Cal) (k:Nat):KR:=(cutK (Lv.b (Lv.b (A 86))).c (az P cal (ax P cal k) none 86 (cR (cR (cR xv))) (Lv.b (Lv.b (Lv.b (A 86)))) (aw P jx) X0 (aw P jx)))
noncomputable def E86_1 (cal:Cal) (k m1:Nat):KR:=az P cal (ax P cal m1) none 86 (cL (cL (cR (cL (cR xv))))) (Lv.a (Lv.a (Lv.b (Lv.a (Lv.b (A 86)))))) (Nw cal k m1) (yK cal k) (aw P jx)
noncomputable def R86_1 (cal:Cal) (k m1:Nat):V4:=fun u1 u7 u8 u9 H n=>ax P cal m1 (Lv.a (Lv.b (Lv.a (Lv.b (A 86))))) none 86 (cL (cR (cL (cR xv)))) (K86_pr cal k) (yK cal k) (aw P jx) (Tr.set (Tr.set (Tr.set (Tr.set Tr.nil 9 (some u9)) 8 (some u8)) 7 (some u7)) 1 (some u1)) H n []
noncomputable def B86_1 (cal:Cal) (k m1:Nat) (b1:V4) (u1 u7 u8 u9:Value) (H:Hp) (n:Nat):Res:=
binK P .lss 3 (.tmp 9) (.tmp 8) u9 u8 fun v_5=>
ifK v_5 (
aq (aY P 44 u7 u9) fun v_6=>
aq (aX v_6) fun a_8=>aq (ak P H 3 a_8) fun v_7=>
ew P cal u1 [v_7] H n fun v_c H_d n_e=>
aq (cW P v_c (Op.unary UnOp.not v_c)) fun v_f=>
ifK v_f (
some ((.bool false),H_d,n_e)) (
binK P .add 3 (.tmp 9) (.const (.int .i64 1)) u9 (.int .i64 1) fun v_h=>
b1 u1 u7 u8 v_h H_d n_e)) (
some ((.bool true),H,n))
noncomputable def C86_1 (cal:Cal) (k m1:Nat) (b1:V4) (u1 u7 u8 u9:Value) (H:Hp) (n:Nat):Res:=B86_1 cal k m1 b1 u1 u7 u8 u9 H n
noncomputable def S86_1 (cal:Cal) (k:Nat):Nat→V4:=fun m=>Nat.rec (motive:=fun _=>V4) (C86_1 cal k 0 (fun _ _ _ _ _ _=>none)) (fun m ih=>C86_1 cal k (m+1) ih) m
theorem h86_1 (cal:Cal) (k m1:Nat) (u1 u7 u8 u9:Value) (H:Hp) (n:Nat):labK (E86_1 cal k m1) (Tr.set (Tr.set (Tr.set (Tr.set Tr.nil 9 (some u9)) 8 (some u8)) 7 (some u7)) 1 (some u1)) H n []=C86_1 cal k m1 (R86_1 cal k m1) u1 u7 u8 u9 H n:=by
 refine Eq.trans (b:=B86_1 cal k m1 (R86_1 cal k m1) u1 u7 u8 u9 H n) (by kernel_rfl) ?_
 rw[C86_1]
theorem q86_1 (cal:Cal) (k:Nat):∀(m:Nat) (u1 u7 u8 u9:Value) (H:Hp) (n:Nat),labK (E86_1 cal k m) (Tr.set (Tr.set (Tr.set (Tr.set Tr.nil 9 (some u9)) 8 (some u8)) 7 (some u7)) 1 (some u1)) H n []=S86_1 cal k m u1 u7 u8 u9 H n
 | 0,u1,u7,u8,u9,H,n=>by
  rw[h86_1]
  have e:R86_1 cal k 0=fun _ _ _ _ _ _=>none:=by funext u1 u7 u8 u9 H n; kernel_rfl
  rw[e]; rfl
 | m+1,u1,u7,u8,u9,H,n=>by
  rw[h86_1]
  have e:R86_1 cal k (m+1)=S86_1 cal k m:=by
   funext u1 u7 u8 u9 H n
   have e:R86_1 cal k (m+1) u1 u7 u8 u9 H n=labK (E86_1 cal k m) (Tr.set (Tr.set (Tr.set (Tr.set Tr.nil 9 (some u9)) 8 (some u8)) 7 (some u7)) 1 (some u1)) H n []:=by kernel_rfl
   rw[e]; exact q86_1 ..
  rw[e]; rfl
noncomputable def B86_0 (cal:Cal) (k:Nat) (j1:V4) (v0 v1:Value) (H:Hp) (n:Nat):Res:=
aq (lenV P 44 v0) fun v_3=>
j1 v1 v0 v_3 (.int .i64 0) H n
noncomputable def C86_0 (cal:Cal) (k:Nat) (v0 v1:Value) (H:Hp) (n:Nat):Res:=B86_0 cal k (S86_1 cal k k) v0 v1 H n
theorem h86_0 (cal:Cal) (k:Nat) (v0 v1:Value) (H:Hp) (n:Nat):aK P cal A (k+1) 86 [v0,v1] H n=C86_0 cal k v0 v1 H n:=by
 have h:aK P cal A (k+1) 86 [v0,v1] H n=B86_0 cal k (fun u1 u7 u8 u9 H n=>labK (E86_1 cal k k) (Tr.set (Tr.set (Tr.set (Tr.set Tr.nil 9 (some u9)) 8 (some u8)) 7 (some u7)) 1 (some u1)) H n []) v0 v1 H n:=by
  rw[bQ (fn:=Go.Proofs.Try.f86) (c:=xv) (rs:=jx) (by kernel_rfl) (by kernel_rfl) (by kernel_rfl) (by kernel_rfl)]
  kernel_rfl
 rw[h,C86_0]
 have e1:(fun u1 u7 u8 u9 H n=>labK (E86_1 cal k k) (Tr.set (Tr.set (Tr.set (Tr.set Tr.nil 9 (some u9)) 8 (some u8)) 7 (some u7)) 1 (some u1)) H n [])=(S86_1 cal k k):=by funext u1 u7 u8 u9 H n; exact q86_1 ..
 rw[e1]
noncomputable def zj:Code:=cw 87
noncomputable def kJ:List ResultVar:=dk 87
noncomputable def K87_p (cal:Cal) (k:Nat):KR:=(cutK (A 87).c (az P cal (ax P cal k) none 87 (cR zj) (Lv.b (A 87)) (aw P kJ) X0 (aw P kJ)))
noncomputable def K87_pr (cal:Cal) (k:Nat):KR:=(cutK (Lv.b (A 87)).c (az P cal (ax P cal k) none 87 (cR (cR zj)) (Lv.b (Lv.b (A 87))) (aw P kJ) X0 (aw P kJ)))
noncomputable def K87_prl (cal:Cal) (k:Nat):KR:=(cutK (Lv.a (Lv.b (A 87))).c (az P cal (ax P cal k) none 87 (cR (cL (cR zj))) (Lv.b (Lv.a (Lv.b (A 87)))) (K87_pr cal k) X0 (aw P kJ)))
noncomputable def zq (cal:Cal) (k:Nat):XR:=(upX 0 (K87_pr cal k) X0)
noncomputable def UJ (cal:Cal) (k:Nat) (m1:Nat):KR:=(fun T H n D=>ax P cal m1 (Lv.a (Lv.b (Lv.a (Lv.b (A 87))))) none 87 (cL (cR (cL (cR zj)))) (K87_pr cal k) (zq cal k) (aw P kJ) (cutT (Lv.a (Lv.b (Lv.a (Lv.b (A 87))))).c T) H n D)
noncomputable def K87_prlrll (cal:Cal) (k:Nat) (m1:Nat):KR:=(cutK (Lv.a (Lv.a (Lv.b (Lv.a (Lv.b (A 87)))))).c (az P cal (ax P cal m1) none 87 (cR (cL (cL (cR (cL (cR zj)))))) (Lv.b (Lv.a (Lv.a (Lv.b (Lv.a (Lv.b (A 87))))))) (UJ cal k m1) (zq cal k) (aw P kJ)))
noncomputable def K87_prlrlll (cal:Cal) (k:Nat) (m1:Nat):KR:=(cutK (Lv.a (Lv.a (Lv.a (Lv.b (Lv.a (Lv.b (A 87))))))).c (az P cal (ax P cal m1) none 87 (cR (cL (cL (cL (cR (cL (cR zj))))))) (Lv.b (Lv.a (Lv.a (Lv.a (Lv.b (Lv.a (Lv.b (A 87)))))))) (K87_prlrll cal k m1) (zq cal k) (aw P kJ)))
noncomputable def Lj (cal:Cal) (k:Nat) (m1:Nat):KR:=(cutK (Lv.b (Lv.a (Lv.a (Lv.b (Lv.a (Lv.b (A 87))))))).c (az P cal (ax P cal m1) none 87 (cR (cR (cL (cL (cR (cL (cR zj))))))) (Lv.b (Lv.b (Lv.a (Lv.a (Lv.b (Lv.a (Lv.b (A 87)))))))) (UJ cal k m1) (zq cal k) (aw P kJ)))
noncomputable def K87_pxrlrllrl (cal:Cal) (k:Nat) (m1:Nat):XR:=(upX 1 (Lj cal k m1) (zq cal k))
noncomputable def K87_prlrllrll (cal:Cal) (k:Nat) (m1:Nat):KR:=(cutK (Lv.a (Lv.a (Lv.b (Lv.a (Lv.a (Lv.b (Lv.a (Lv.b (A 87))))))))).c (az P cal (ax P cal m1) none 87 (cR (cL (cL (cR (cL (cL (cR (cL (cR zj))))))))) (Lv.b (Lv.a (Lv.a (Lv.b (Lv.a (Lv.a (Lv.b (Lv.a (Lv.b (A 87)))))))))) (Lj cal k m1) (K87_pxrlrllrl cal k m1) (aw P kJ)))
noncomputable def K87_prlrllrllrl (cal:Cal) (k:Nat) (m1:Nat):KR:=(cutK (Lv.a (Lv.b (Lv.a (Lv.a (Lv.b (Lv.a (Lv.a (Lv.b (Lv.a (Lv.b (A 87))))))))))).c (az P cal (ax P cal m1) none 87 (cR (cL (cR (cL (cL (cR (cL (cL (cR (cL (cR zj))))))))))) (Lv.b (Lv.a (Lv.b (Lv.a (Lv.a (Lv.b (Lv.a (Lv.a (Lv.b (Lv.a (Lv.b (A 87)))))))))))) (Lj cal k m1) (K87_pxrlrllrl cal k m1) (aw P kJ)))
noncomputable def K87_prr (cal:Cal) (k:Nat):KR:=(cutK (Lv.b (Lv.b (A 87))).c (az P cal (ax P cal k) none 87 (cR (cR (cR zj))) (Lv.b (Lv.b (Lv.b (A 87)))) (aw P kJ) X0 (aw P kJ)))
noncomputable def E87_1 (cal:Cal) (k m1:Nat):KR:=az P cal (ax P cal m1) none 87 (cL (cL (cR (cL (cR zj))))) (Lv.a (Lv.a (Lv.b (Lv.a (Lv.b (A 87)))))) (UJ cal k m1) (zq cal k) (aw P kJ)
noncomputable def R87_1 (cal:Cal) (k m1:Nat):V2:=fun u0 u3 H n=>ax P cal m1 (Lv.a (Lv.b (Lv.a (Lv.b (A 87))))) none 87 (cL (cR (cL (cR zj)))) (K87_pr cal k) (zq cal k) (aw P kJ) (Tr.set (Tr.set Tr.nil 3 (some u3)) 0 (some u0)) H n []
noncomputable def B87_1 (cal:Cal) (k m1:Nat) (b1:V2) (u0 u3:Value) (H:Hp) (n:Nat):Res:=
aq (lenV P 44 u0) fun v_5=>
binK P .lss 3 (.tmp 4) (.tmp 6) u3 v_5 fun v_6=>
ifK v_6 (
aq (aY P 44 u0 u3) fun v_9=>
aq (aX v_9) fun a_a=>aq (ak P H 3 a_a) fun v_b=>
binK P .sub 3 (.tmp 15) (.const (.int .i64 1)) u3 (.int .i64 1) fun v_e=>
aq (aY P 44 u0 v_e) fun v_f=>
aq (aX v_f) fun a_g=>aq (ak P H 3 a_g) fun v_h=>
binK P .leq 3 (.tmp 13) (.tmp 18) v_b v_h fun v_i=>
ifK v_i (
some ((.bool false),H,n)) (
binK P .add 3 (.tmp 8) (.const (.int .i64 1)) u3 (.int .i64 1) fun v_l=>
b1 u0 v_l H n)) (
some ((.bool true),H,n))
noncomputable def C87_1 (cal:Cal) (k m1:Nat) (b1:V2) (u0 u3:Value) (H:Hp) (n:Nat):Res:=B87_1 cal k m1 b1 u0 u3 H n
noncomputable def S87_1 (cal:Cal) (k:Nat):Nat→V2:=fun m=>Nat.rec (motive:=fun _=>V2) (C87_1 cal k 0 (fun _ _ _ _=>none)) (fun m ih=>C87_1 cal k (m+1) ih) m
theorem h87_1 (cal:Cal) (k m1:Nat) (u0 u3:Value) (H:Hp) (n:Nat):labK (E87_1 cal k m1) (Tr.set (Tr.set Tr.nil 3 (some u3)) 0 (some u0)) H n []=C87_1 cal k m1 (R87_1 cal k m1) u0 u3 H n:=by
 refine Eq.trans (b:=B87_1 cal k m1 (R87_1 cal k m1) u0 u3 H n) (by kernel_rfl) ?_
 rw[C87_1]
theorem q87_1 (cal:Cal) (k:Nat):∀(m:Nat) (u0 u3:Value) (H:Hp) (n:Nat),labK (E87_1 cal k m) (Tr.set (Tr.set Tr.nil 3 (some u3)) 0 (some u0)) H n []=S87_1 cal k m u0 u3 H n
 | 0,u0,u3,H,n=>by
  rw[h87_1]
  have e:R87_1 cal k 0=fun _ _ _ _=>none:=by funext u0 u3 H n; kernel_rfl
  rw[e]; rfl
 | m+1,u0,u3,H,n=>by
  rw[h87_1]
  have e:R87_1 cal k (m+1)=S87_1 cal k m:=by
   funext u0 u3 H n
   have e:R87_1 cal k (m+1) u0 u3 H n=labK (E87_1 cal k m) (Tr.set (Tr.set Tr.nil 3 (some u3)) 0 (some u0)) H n []:=by kernel_rfl
   rw[e]; exact q87_1 ..
  rw[e]; rfl
noncomputable def B87_0 (cal:Cal) (k:Nat) (j1:V2) (v0:Value) (H:Hp) (n:Nat):Res:=
j1 v0 (.int .i64 1) H n
noncomputable def C87_0 (cal:Cal) (k:Nat) (v0:Value) (H:Hp) (n:Nat):Res:=B87_0 cal k (S87_1 cal k k) v0 H n
theorem h87_0 (cal:Cal) (k:Nat) (v0:Value) (H:Hp) (n:Nat):aK P cal A (k+1) 87 [v0] H n=C87_0 cal k v0 H n:=by
 have h:aK P cal A (k+1) 87 [v0] H n=B87_0 cal k (fun u0 u3 H n=>labK (E87_1 cal k k) (Tr.set (Tr.set Tr.nil 3 (some u3)) 0 (some u0)) H n []) v0 H n:=by
  rw[bQ (fn:=Go.Proofs.Try.f87) (c:=zj) (rs:=kJ) (by kernel_rfl) (by kernel_rfl) (by kernel_rfl) (by kernel_rfl)]
  kernel_rfl
 rw[h,C87_0]
 have e1:(fun u0 u3 H n=>labK (E87_1 cal k k) (Tr.set (Tr.set Tr.nil 3 (some u3)) 0 (some u0)) H n [])=(S87_1 cal k k):=by funext u0 u3 H n; exact q87_1 ..
 rw[e1]
noncomputable def xw:Code:=cw 89
noncomputable def jy:List ResultVar:=dk 89
noncomputable def K89_p (cal:Cal) (k:Nat):KR:=(cutK (A 89).c (az P cal (ax P cal k) none 89 (cR xw) (Lv.b (A 89)) (aw P jy) X0 (aw P jy)))
noncomputable def K89_pr (cal:Cal) (k:Nat):KR:=(cutK (Lv.b (A 89)).c (az P cal (ax P cal k) none 89 (cR (cR xw)) (Lv.b (Lv.b (A 89))) (aw P jy) X0 (aw P jy)))
noncomputable def K89_prl (cal:Cal) (k:Nat):KR:=(cutK (Lv.a (Lv.b (A 89))).c (az P cal (ax P cal k) none 89 (cR (cL (cR xw))) (Lv.b (Lv.a (Lv.b (A 89)))) (K89_pr cal k) X0 (aw P jy)))
noncomputable def zv (cal:Cal) (k:Nat):XR:=(upX 0 (K89_pr cal k) X0)
noncomputable def UQ (cal:Cal) (k:Nat) (m1:Nat):KR:=(fun T H n D=>ax P cal m1 (Lv.a (Lv.b (Lv.a (Lv.b (A 89))))) none 89 (cL (cR (cL (cR xw)))) (K89_pr cal k) (zv cal k) (aw P jy) (cutT (Lv.a (Lv.b (Lv.a (Lv.b (A 89))))).c T) H n D)
noncomputable def K89_prlrll (cal:Cal) (k:Nat) (m1:Nat):KR:=(cutK (Lv.a (Lv.a (Lv.b (Lv.a (Lv.b (A 89)))))).c (az P cal (ax P cal m1) none 89 (cR (cL (cL (cR (cL (cR xw)))))) (Lv.b (Lv.a (Lv.a (Lv.b (Lv.a (Lv.b (A 89))))))) (UQ cal k m1) (zv cal k) (aw P jy)))
noncomputable def K89_prlrlll (cal:Cal) (k:Nat) (m1:Nat):KR:=(cutK (Lv.a (Lv.a (Lv.a (Lv.b (Lv.a (Lv.b (A 89))))))).c (az P cal (ax P cal m1) none 89 (cR (cL (cL (cL (cR (cL (cR xw))))))) (Lv.b (Lv.a (Lv.a (Lv.a (Lv.b (Lv.a (Lv.b (A 89)))))))) (K89_prlrll cal k m1) (zv cal k) (aw P jy)))
noncomputable def DQ (cal:Cal) (k:Nat) (m1:Nat):KR:=(cutK (Lv.b (Lv.a (Lv.a (Lv.b (Lv.a (Lv.b (A 89))))))).c (az P cal (ax P cal m1) none 89 (cR (cR (cL (cL (cR (cL (cR xw))))))) (Lv.b (Lv.b (Lv.a (Lv.a (Lv.b (Lv.a (Lv.b (A 89)))))))) (UQ cal k m1) (zv cal k) (aw P jy)))
noncomputable def Ek (cal:Cal) (k:Nat) (m1:Nat):XR:=(upX 1 (DQ cal k m1) (zv cal k))
noncomputable def K89_prlrllrll (cal:Cal) (k:Nat) (m1:Nat):KR:=(cutK (Lv.a (Lv.a (Lv.b (Lv.a (Lv.a (Lv.b (Lv.a (Lv.b (A 89))))))))).c (az P cal (ax P cal m1) none 89 (cR (cL (cL (cR (cL (cL (cR (cL (cR xw))))))))) (Lv.b (Lv.a (Lv.a (Lv.b (Lv.a (Lv.a (Lv.b (Lv.a (Lv.b (A 89)))))))))) (DQ cal k m1) (Ek cal k m1) (aw P jy)))
noncomputable def K89_prlrllrllr (cal:Cal) (k:Nat) (m1:Nat):KR:=(cutK (Lv.b (Lv.a (Lv.a (Lv.b (Lv.a (Lv.a (Lv.b (Lv.a (Lv.b (A 89)))))))))).c (az P cal (ax P cal m1) none 89 (cR (cR (cL (cL (cR (cL (cL (cR (cL (cR xw)))))))))) (Lv.b (Lv.b (Lv.a (Lv.a (Lv.b (Lv.a (Lv.a (Lv.b (Lv.a (Lv.b (A 89))))))))))) (DQ cal k m1) (Ek cal k m1) (aw P jy)))
noncomputable def K89_prlrllrllrrl (cal:Cal) (k:Nat) (m1:Nat):KR:=(cutK (Lv.a (Lv.b (Lv.b (Lv.a (Lv.a (Lv.b (Lv.a (Lv.a (Lv.b (Lv.a (Lv.b (A 89)))))))))))).c (az P cal (ax P cal m1) none 89 (cR (cL (cR (cR (cL (cL (cR (cL (cL (cR (cL (cR xw)))))))))))) (Lv.b (Lv.a (Lv.b (Lv.b (Lv.a (Lv.a (Lv.b (Lv.a (Lv.a (Lv.b (Lv.a (Lv.b (A 89))))))))))))) (DQ cal k m1) (Ek cal k m1) (aw P jy)))
noncomputable def K89_prr (cal:Cal) (k:Nat):KR:=(cutK (Lv.b (Lv.b (A 89))).c (az P cal (ax P cal k) none 89 (cR (cR (cR xw))) (Lv.b (Lv.b (Lv.b (A 89)))) (aw P jy) X0 (aw P jy)))
noncomputable def E89_1 (cal:Cal) (k m1:Nat):KR:=az P cal (ax P cal m1) none 89 (cL (cL (cR (cL (cR xw))))) (Lv.a (Lv.a (Lv.b (Lv.a (Lv.b (A 89)))))) (UQ cal k m1) (zv cal k) (aw P jy)
noncomputable def R89_1 (cal:Cal) (k m1:Nat):V4:=fun u1 u2 u3 u7 H n=>ax P cal m1 (Lv.a (Lv.b (Lv.a (Lv.b (A 89))))) none 89 (cL (cR (cL (cR xw)))) (K89_pr cal k) (zv cal k) (aw P jy) (Tr.set (Tr.set (Tr.set (Tr.set Tr.nil 7 (some u7)) 3 (some u3)) 2 (some u2)) 1 (some u1)) H n []
noncomputable def B89_1 (cal:Cal) (k m1:Nat) (b1:V4) (u1 u2 u3 u7:Value) (H:Hp) (n:Nat):Res:=
aq (ay P 26 u3 1) fun v_7=>
aq (aX v_7) fun a_9=>aq (ak P H 23 a_9) fun v_8=>
aq (lenV P 23 v_8) fun v_a=>
binK P .lss 3 (.tmp 9) (.tmp 12) u7 v_a fun v_b=>
ifK v_b (
aq (ay P 26 u3 1) fun v_c=>
aq (aX v_c) fun a_e=>aq (ak P H 23 a_e) fun v_d=>
aq (aY P 23 v_d u7) fun v_g=>
aq (aX v_g) fun a_i=>aq (ak P H 104 a_i) fun v_h=>
cQ P 104 H n fun v_j H_k n_l=>
aq (bx P 104 v_j v_h H_k) fun H_n=>
aq (ay P 104 v_j 0) fun v_o=>
aq (aX v_o) fun a_q=>aq (ak P H_n 3 a_q) fun v_p=>
binK P .eql 3 (.tmp 22) (.tmp 23) v_p u1 fun v_s=>
aV v_s true (fun k_u=>
aq (ay P 104 v_j 1) fun v_y=>
k_u v_y H_n n_l) H_n n_l fun v_v H_w n_x=>
aV v_s true (fun k_z=>
aq (aX v_v) fun a_14=>aq (ak P H_w 3 a_14) fun v_13=>
k_z v_13 H_w n_x) H_w n_x fun v_10 H_11 n_12=>
aV v_s true (fun k_15=>
k_15 u2 H_11 n_12) H_11 n_12 fun v_16 H_17 n_18=>
aV v_s true (fun k_1a=>
binK P .eql 3 (.tmp 27) (.tmp 28) v_10 v_16 fun v_1e=>
k_1a v_1e H_17 n_18) H_17 n_18 fun v_1b H_1c n_1d=>
aq (dv v_s v_1b (.bool false)) fun v_1f=>
aV v_1f false (fun k_1h=>
aq (ay P 104 v_j 0) fun v_1l=>
k_1h v_1l H_1c n_1d) H_1c n_1d fun v_1i H_1j n_1k=>
aV v_1f false (fun k_1m=>
aq (aX v_1i) fun a_1r=>aq (ak P H_1j 3 a_1r) fun v_1q=>
k_1m v_1q H_1j n_1k) H_1j n_1k fun v_1n H_1o n_1p=>
aV v_1f false (fun k_1s=>
k_1s u2 H_1o n_1p) H_1o n_1p fun v_1t H_1u n_1v=>
aV v_1f false (fun k_1x=>
binK P .eql 3 (.tmp 33) (.tmp 34) v_1n v_1t fun v_21=>
k_1x v_21 H_1u n_1v) H_1u n_1v fun v_1y H_1z n_20=>
aV v_1f false (fun k_22=>
k_22 v_1y H_1z n_20) H_1z n_20 fun v_23 H_24 n_25=>
aV v_23 true (fun k_27=>
aq (ay P 104 v_j 1) fun v_2b=>
k_27 v_2b H_24 n_25) H_24 n_25 fun v_28 H_29 n_2a=>
aV v_23 true (fun k_2c=>
aq (aX v_28) fun a_2h=>aq (ak P H_29 3 a_2h) fun v_2g=>
k_2c v_2g H_29 n_2a) H_29 n_2a fun v_2d H_2e n_2f=>
aV v_23 true (fun k_2i=>
k_2i u1 H_2e n_2f) H_2e n_2f fun v_2j H_2k n_2l=>
aV v_23 true (fun k_2n=>
binK P .eql 3 (.tmp 38) (.tmp 39) v_2d v_2j fun v_2r=>
k_2n v_2r H_2k n_2l) H_2k n_2l fun v_2o H_2p n_2q=>
aV v_1f false (fun k_2s=>
aq (dv v_23 v_2o (.bool false)) fun v_2w=>
k_2s v_2w H_2p n_2q) H_2p n_2q fun v_2t H_2u n_2v=>
aq (dv v_1f (.bool true) v_2t) fun v_2x=>
ifK v_2x (
some ((.bool true),H_2u,n_2v)) (
binK P .add 3 (.tmp 14) (.const (.int .i64 1)) u7 (.int .i64 1) fun v_30=>
b1 u1 u2 u3 v_30 H_2u n_2v)) (
some ((.bool false),H,n))
noncomputable def C89_1 (cal:Cal) (k m1:Nat) (b1:V4) (u1 u2 u3 u7:Value) (H:Hp) (n:Nat):Res:=B89_1 cal k m1 b1 u1 u2 u3 u7 H n
noncomputable def S89_1 (cal:Cal) (k:Nat):Nat→V4:=fun m=>Nat.rec (motive:=fun _=>V4) (C89_1 cal k 0 (fun _ _ _ _ _ _=>none)) (fun m ih=>C89_1 cal k (m+1) ih) m
theorem h89_1 (cal:Cal) (k m1:Nat) (u1 u2 u3 u7:Value) (H:Hp) (n:Nat):labK (E89_1 cal k m1) (Tr.set (Tr.set (Tr.set (Tr.set Tr.nil 7 (some u7)) 3 (some u3)) 2 (some u2)) 1 (some u1)) H n []=C89_1 cal k m1 (R89_1 cal k m1) u1 u2 u3 u7 H n:=by
 refine Eq.trans (b:=B89_1 cal k m1 (R89_1 cal k m1) u1 u2 u3 u7 H n) (by kernel_rfl) ?_
 rw[C89_1]
theorem q89_1 (cal:Cal) (k:Nat):∀(m:Nat) (u1 u2 u3 u7:Value) (H:Hp) (n:Nat),labK (E89_1 cal k m) (Tr.set (Tr.set (Tr.set (Tr.set Tr.nil 7 (some u7)) 3 (some u3)) 2 (some u2)) 1 (some u1)) H n []=S89_1 cal k m u1 u2 u3 u7 H n
 | 0,u1,u2,u3,u7,H,n=>by
  rw[h89_1]
  have e:R89_1 cal k 0=fun _ _ _ _ _ _=>none:=by funext u1 u2 u3 u7 H n; kernel_rfl
  rw[e]; rfl
 | m+1,u1,u2,u3,u7,H,n=>by
  rw[h89_1]
  have e:R89_1 cal k (m+1)=S89_1 cal k m:=by
   funext u1 u2 u3 u7 H n
   have e:R89_1 cal k (m+1) u1 u2 u3 u7 H n=labK (E89_1 cal k m) (Tr.set (Tr.set (Tr.set (Tr.set Tr.nil 7 (some u7)) 3 (some u3)) 2 (some u2)) 1 (some u1)) H n []:=by kernel_rfl
   rw[e]; exact q89_1 ..
  rw[e]; rfl
noncomputable def B89_0 (cal:Cal) (k:Nat) (j1:V4) (v0 v1 v2:Value) (H:Hp) (n:Nat):Res:=
boxK 26 v0 H n fun v_1 H_2 n_3=>
j1 v1 v2 v_1 (.int .i64 0) H_2 n_3
noncomputable def C89_0 (cal:Cal) (k:Nat) (v0 v1 v2:Value) (H:Hp) (n:Nat):Res:=B89_0 cal k (S89_1 cal k k) v0 v1 v2 H n
theorem h89_0 (cal:Cal) (k:Nat) (v0 v1 v2:Value) (H:Hp) (n:Nat):aK P cal A (k+1) 89 [v0,v1,v2] H n=C89_0 cal k v0 v1 v2 H n:=by
 have h:aK P cal A (k+1) 89 [v0,v1,v2] H n=B89_0 cal k (fun u1 u2 u3 u7 H n=>labK (E89_1 cal k k) (Tr.set (Tr.set (Tr.set (Tr.set Tr.nil 7 (some u7)) 3 (some u3)) 2 (some u2)) 1 (some u1)) H n []) v0 v1 v2 H n:=by
  rw[bQ (fn:=Go.Proofs.Try.f89) (c:=xw) (rs:=jy) (by kernel_rfl) (by kernel_rfl) (by kernel_rfl) (by kernel_rfl)]
  kernel_rfl
 rw[h,C89_0]
 have e1:(fun u1 u2 u3 u7 H n=>labK (E89_1 cal k k) (Tr.set (Tr.set (Tr.set (Tr.set Tr.nil 7 (some u7)) 3 (some u3)) 2 (some u2)) 1 (some u1)) H n [])=(S89_1 cal k k):=by funext u1 u2 u3 u7 H n; exact q89_1 ..
 rw[e1]
noncomputable def xx:Code:=cw 91
noncomputable def jz:List ResultVar:=dk 91
noncomputable def K91_p (cal:Cal) (k:Nat):KR:=(cutK (A 91).c (az P cal (ax P cal k) none 91 (cR xx) (Lv.b (A 91)) (aw P jz) X0 (aw P jz)))
noncomputable def K91_pr (cal:Cal) (k:Nat):KR:=(cutK (Lv.b (A 91)).c (az P cal (ax P cal k) none 91 (cR (cR xx)) (Lv.b (Lv.b (A 91))) (aw P jz) X0 (aw P jz)))
noncomputable def K91_prl (cal:Cal) (k:Nat):KR:=(cutK (Lv.a (Lv.b (A 91))).c (az P cal (ax P cal k) none 91 (cR (cL (cR xx))) (Lv.b (Lv.a (Lv.b (A 91)))) (K91_pr cal k) X0 (aw P jz)))
noncomputable def zw (cal:Cal) (k:Nat):XR:=(upX 0 (K91_pr cal k) X0)
noncomputable def Nx (cal:Cal) (k:Nat) (m1:Nat):KR:=(fun T H n D=>ax P cal m1 (Lv.a (Lv.b (Lv.a (Lv.b (A 91))))) none 91 (cL (cR (cL (cR xx)))) (K91_pr cal k) (zw cal k) (aw P jz) (cutT (Lv.a (Lv.b (Lv.a (Lv.b (A 91))))).c T) H n D)
noncomputable def K91_prlrll (cal:Cal) (k:Nat) (m1:Nat):KR:=(cutK (Lv.a (Lv.a (Lv.b (Lv.a (Lv.b (A 91)))))).c (az P cal (ax P cal m1) none 91 (cR (cL (cL (cR (cL (cR xx)))))) (Lv.b (Lv.a (Lv.a (Lv.b (Lv.a (Lv.b (A 91))))))) (Nx cal k m1) (zw cal k) (aw P jz)))
noncomputable def K91_prlrllr (cal:Cal) (k:Nat) (m1:Nat):KR:=(cutK (Lv.b (Lv.a (Lv.a (Lv.b (Lv.a (Lv.b (A 91))))))).c (az P cal (ax P cal m1) none 91 (cR (cR (cL (cL (cR (cL (cR xx))))))) (Lv.b (Lv.b (Lv.a (Lv.a (Lv.b (Lv.a (Lv.b (A 91)))))))) (Nx cal k m1) (zw cal k) (aw P jz)))
noncomputable def AZ (cal:Cal) (k:Nat) (m1:Nat):KR:=(cutK (Lv.b (Lv.b (Lv.a (Lv.a (Lv.b (Lv.a (Lv.b (A 91)))))))).c (az P cal (ax P cal m1) none 91 (cR (cR (cR (cL (cL (cR (cL (cR xx)))))))) (Lv.b (Lv.b (Lv.b (Lv.a (Lv.a (Lv.b (Lv.a (Lv.b (A 91))))))))) (Nx cal k m1) (zw cal k) (aw P jz)))
noncomputable def Ck (cal:Cal) (k:Nat) (m1:Nat):XR:=(upX 1 (AZ cal k m1) (zw cal k))
noncomputable def K91_prlrllrrll (cal:Cal) (k:Nat) (m1:Nat):KR:=(cutK (Lv.a (Lv.a (Lv.b (Lv.b (Lv.a (Lv.a (Lv.b (Lv.a (Lv.b (A 91)))))))))).c (az P cal (ax P cal m1) none 91 (cR (cL (cL (cR (cR (cL (cL (cR (cL (cR xx)))))))))) (Lv.b (Lv.a (Lv.a (Lv.b (Lv.b (Lv.a (Lv.a (Lv.b (Lv.a (Lv.b (A 91))))))))))) (AZ cal k m1) (Ck cal k m1) (aw P jz)))
noncomputable def K91_prlrllrrllr (cal:Cal) (k:Nat) (m1:Nat):KR:=(cutK (Lv.b (Lv.a (Lv.a (Lv.b (Lv.b (Lv.a (Lv.a (Lv.b (Lv.a (Lv.b (A 91))))))))))).c (az P cal (ax P cal m1) none 91 (cR (cR (cL (cL (cR (cR (cL (cL (cR (cL (cR xx))))))))))) (Lv.b (Lv.b (Lv.a (Lv.a (Lv.b (Lv.b (Lv.a (Lv.a (Lv.b (Lv.a (Lv.b (A 91)))))))))))) (AZ cal k m1) (Ck cal k m1) (aw P jz)))
noncomputable def K91_prlrllrrllrrl (cal:Cal) (k:Nat) (m1:Nat):KR:=(cutK (Lv.a (Lv.b (Lv.b (Lv.a (Lv.a (Lv.b (Lv.b (Lv.a (Lv.a (Lv.b (Lv.a (Lv.b (A 91))))))))))))).c (az P cal (ax P cal m1) none 91 (cR (cL (cR (cR (cL (cL (cR (cR (cL (cL (cR (cL (cR xx))))))))))))) (Lv.b (Lv.a (Lv.b (Lv.b (Lv.a (Lv.a (Lv.b (Lv.b (Lv.a (Lv.a (Lv.b (Lv.a (Lv.b (A 91)))))))))))))) (AZ cal k m1) (Ck cal k m1) (aw P jz)))
noncomputable def K91_prr (cal:Cal) (k:Nat):KR:=(cutK (Lv.b (Lv.b (A 91))).c (az P cal (ax P cal k) none 91 (cR (cR (cR xx))) (Lv.b (Lv.b (Lv.b (A 91)))) (aw P jz) X0 (aw P jz)))
noncomputable def E91_1 (cal:Cal) (k m1:Nat):KR:=az P cal (ax P cal m1) none 91 (cL (cL (cR (cL (cR xx))))) (Lv.a (Lv.a (Lv.b (Lv.a (Lv.b (A 91)))))) (Nx cal k m1) (zw cal k) (aw P jz)
noncomputable def R91_1 (cal:Cal) (k m1:Nat):V4:=fun u1 u7 u8 u9 H n=>ax P cal m1 (Lv.a (Lv.b (Lv.a (Lv.b (A 91))))) none 91 (cL (cR (cL (cR xx)))) (K91_pr cal k) (zw cal k) (aw P jz) (Tr.set (Tr.set (Tr.set (Tr.set Tr.nil 9 (some u9)) 8 (some u8)) 7 (some u7)) 1 (some u1)) H n []
noncomputable def B91_1 (cal:Cal) (k m1:Nat) (b1:V4) (u1 u7 u8 u9:Value) (H:Hp) (n:Nat):Res:=
binK P .lss 3 (.tmp 9) (.tmp 8) u9 u8 fun v_5=>
ifK v_5 (
aq (aY P 31 u7 u9) fun v_6=>
aq (aX v_6) fun a_8=>aq (ak P H 90 a_8) fun v_7=>
cQ P 90 H n fun v_9 H_a n_b=>
aq (bx P 90 v_9 v_7 H_a) fun H_d=>
aq (aX v_9) fun a_g=>aq (ak P H_d 90 a_g) fun v_f=>
ew P cal u1 [v_f] H_d n_b fun v_h H_i n_j=>
aq (cW P v_h (Op.unary UnOp.not v_h)) fun v_k=>
ifK v_k (
some ((.bool false),H_i,n_j)) (
binK P .add 3 (.tmp 9) (.const (.int .i64 1)) u9 (.int .i64 1) fun v_m=>
b1 u1 u7 u8 v_m H_i n_j)) (
some ((.bool true),H,n))
noncomputable def C91_1 (cal:Cal) (k m1:Nat) (b1:V4) (u1 u7 u8 u9:Value) (H:Hp) (n:Nat):Res:=B91_1 cal k m1 b1 u1 u7 u8 u9 H n
noncomputable def S91_1 (cal:Cal) (k:Nat):Nat→V4:=fun m=>Nat.rec (motive:=fun _=>V4) (C91_1 cal k 0 (fun _ _ _ _ _ _=>none)) (fun m ih=>C91_1 cal k (m+1) ih) m
theorem h91_1 (cal:Cal) (k m1:Nat) (u1 u7 u8 u9:Value) (H:Hp) (n:Nat):labK (E91_1 cal k m1) (Tr.set (Tr.set (Tr.set (Tr.set Tr.nil 9 (some u9)) 8 (some u8)) 7 (some u7)) 1 (some u1)) H n []=C91_1 cal k m1 (R91_1 cal k m1) u1 u7 u8 u9 H n:=by
 refine Eq.trans (b:=B91_1 cal k m1 (R91_1 cal k m1) u1 u7 u8 u9 H n) (by kernel_rfl) ?_
 rw[C91_1]
theorem q91_1 (cal:Cal) (k:Nat):∀(m:Nat) (u1 u7 u8 u9:Value) (H:Hp) (n:Nat),labK (E91_1 cal k m) (Tr.set (Tr.set (Tr.set (Tr.set Tr.nil 9 (some u9)) 8 (some u8)) 7 (some u7)) 1 (some u1)) H n []=S91_1 cal k m u1 u7 u8 u9 H n
 | 0,u1,u7,u8,u9,H,n=>by
  rw[h91_1]
  have e:R91_1 cal k 0=fun _ _ _ _ _ _=>none:=by funext u1 u7 u8 u9 H n; kernel_rfl
  rw[e]; rfl
 | m+1,u1,u7,u8,u9,H,n=>by
  rw[h91_1]
  have e:R91_1 cal k (m+1)=S91_1 cal k m:=by
   funext u1 u7 u8 u9 H n
   have e:R91_1 cal k (m+1) u1 u7 u8 u9 H n=labK (E91_1 cal k m) (Tr.set (Tr.set (Tr.set (Tr.set Tr.nil 9 (some u9)) 8 (some u8)) 7 (some u7)) 1 (some u1)) H n []:=by kernel_rfl
   rw[e]; exact q91_1 ..
  rw[e]; rfl
noncomputable def B91_0 (cal:Cal) (k:Nat) (j1:V4) (v0 v1:Value) (H:Hp) (n:Nat):Res:=
aq (lenV P 31 v0) fun v_3=>
j1 v1 v0 v_3 (.int .i64 0) H n
noncomputable def C91_0 (cal:Cal) (k:Nat) (v0 v1:Value) (H:Hp) (n:Nat):Res:=B91_0 cal k (S91_1 cal k k) v0 v1 H n
theorem h91_0 (cal:Cal) (k:Nat) (v0 v1:Value) (H:Hp) (n:Nat):aK P cal A (k+1) 91 [v0,v1] H n=C91_0 cal k v0 v1 H n:=by
 have h:aK P cal A (k+1) 91 [v0,v1] H n=B91_0 cal k (fun u1 u7 u8 u9 H n=>labK (E91_1 cal k k) (Tr.set (Tr.set (Tr.set (Tr.set Tr.nil 9 (some u9)) 8 (some u8)) 7 (some u7)) 1 (some u1)) H n []) v0 v1 H n:=by
  rw[bQ (fn:=Go.Proofs.Try.f91) (c:=xx) (rs:=jz) (by kernel_rfl) (by kernel_rfl) (by kernel_rfl) (by kernel_rfl)]
  kernel_rfl
 rw[h,C91_0]
 have e1:(fun u1 u7 u8 u9 H n=>labK (E91_1 cal k k) (Tr.set (Tr.set (Tr.set (Tr.set Tr.nil 9 (some u9)) 8 (some u8)) 7 (some u7)) 1 (some u1)) H n [])=(S91_1 cal k k):=by funext u1 u7 u8 u9 H n; exact q91_1 ..
 rw[e1]
noncomputable def code92:Code:=cw 92
noncomputable def Gw:List ResultVar:=dk 92
noncomputable def K92_p (cal:Cal) (k:Nat):KR:=(cutK (A 92).c (az P cal (ax P cal k) none 92 (cR code92) (Lv.b (A 92)) (aw P Gw) X0 (aw P Gw)))
noncomputable def K92_pr (cal:Cal) (k:Nat):KR:=(cutK (Lv.b (A 92)).c (az P cal (ax P cal k) none 92 (cR (cR code92)) (Lv.b (Lv.b (A 92))) (aw P Gw) X0 (aw P Gw)))
noncomputable def B92_0 (cal:Cal) (k:Nat) (v0:Value) (H:Hp) (n:Nat):Res:=
boxK 90 v0 H n fun v_1 H_2 n_3=>
aq (ay P 90 v_1 0) fun v_5=>
aq (aX v_5) fun a_7=>aq (ak P H_2 3 a_7) fun v_6=>
binK P .geq 3 (.tmp 4) (.const (.int .i64 0)) v_6 (.int .i64 0) fun v_8=>
aV v_8 true (fun k_a=>
aq (ay P 90 v_1 0) fun v_e=>
k_a v_e H_2 n_3) H_2 n_3 fun v_b H_c n_d=>
aV v_8 true (fun k_f=>
aq (aX v_b) fun a_k=>aq (ak P H_c 3 a_k) fun v_j=>
k_f v_j H_c n_d) H_c n_d fun v_g H_h n_i=>
aV v_8 true (fun k_l=>
aq (ay P 90 v_1 1) fun v_p=>
k_l v_p H_h n_i) H_h n_i fun v_m H_n n_o=>
aV v_8 true (fun k_q=>
aq (aX v_m) fun a_v=>aq (ak P H_n 3 a_v) fun v_u=>
k_q v_u H_n n_o) H_n n_o fun v_r H_s n_t=>
aV v_8 true (fun k_w=>
binK P .leq 3 (.tmp 8) (.tmp 10) v_g v_r fun v_10=>
k_w v_10 H_s n_t) H_s n_t fun v_x H_y n_z=>
aq (dv v_8 v_x (.bool false)) fun v_11=>
aV v_11 true (fun k_13=>
aq (ay P 90 v_1 1) fun v_17=>
k_13 v_17 H_y n_z) H_y n_z fun v_14 H_15 n_16=>
aV v_11 true (fun k_18=>
aq (aX v_14) fun a_1d=>aq (ak P H_15 3 a_1d) fun v_1c=>
k_18 v_1c H_15 n_16) H_15 n_16 fun v_19 H_1a n_1b=>
aV v_11 true (fun k_1e=>
binK P .leq 3 (.tmp 15) (.const (.int .i64 1000)) v_19 (.int .i64 1000) fun v_1i=>
k_1e v_1i H_1a n_1b) H_1a n_1b fun v_1f H_1g n_1h=>
aq (dv v_11 v_1f (.bool false)) fun v_1j=>
some (v_1j,H_1g,n_1h)
noncomputable def C92_0 (cal:Cal) (k:Nat) (v0:Value) (H:Hp) (n:Nat):Res:=B92_0 cal k v0 H n
theorem h92_0 (cal:Cal) (k:Nat) (v0:Value) (H:Hp) (n:Nat):aK P cal A (k+1) 92 [v0] H n=C92_0 cal k v0 H n:=by
 have h:aK P cal A (k+1) 92 [v0] H n=B92_0 cal k v0 H n:=by
  rw[bQ (fn:=Go.Proofs.Try.f92) (c:=code92) (rs:=Gw) (by kernel_rfl) (by kernel_rfl) (by kernel_rfl) (by kernel_rfl)]
  kernel_rfl
 rw[h,C92_0]
noncomputable def xy:Code:=cw 93
noncomputable def jk:List ResultVar:=dk 93
noncomputable def K93_p (cal:Cal) (k:Nat):KR:=(cutK (A 93).c (az P cal (ax P cal k) none 93 (cR xy) (Lv.b (A 93)) (aw P jk) X0 (aw P jk)))
noncomputable def K93_pr (cal:Cal) (k:Nat):KR:=(cutK (Lv.b (A 93)).c (az P cal (ax P cal k) none 93 (cR (cR xy)) (Lv.b (Lv.b (A 93))) (aw P jk) X0 (aw P jk)))
noncomputable def K93_prl (cal:Cal) (k:Nat):KR:=(cutK (Lv.a (Lv.b (A 93))).c (az P cal (ax P cal k) none 93 (cR (cL (cR xy))) (Lv.b (Lv.a (Lv.b (A 93)))) (K93_pr cal k) X0 (aw P jk)))
noncomputable def zx (cal:Cal) (k:Nat):XR:=(upX 0 (K93_pr cal k) X0)
noncomputable def Ny (cal:Cal) (k:Nat) (m1:Nat):KR:=(fun T H n D=>ax P cal m1 (Lv.a (Lv.b (Lv.a (Lv.b (A 93))))) none 93 (cL (cR (cL (cR xy)))) (K93_pr cal k) (zx cal k) (aw P jk) (cutT (Lv.a (Lv.b (Lv.a (Lv.b (A 93))))).c T) H n D)
noncomputable def K93_prlrll (cal:Cal) (k:Nat) (m1:Nat):KR:=(cutK (Lv.a (Lv.a (Lv.b (Lv.a (Lv.b (A 93)))))).c (az P cal (ax P cal m1) none 93 (cR (cL (cL (cR (cL (cR xy)))))) (Lv.b (Lv.a (Lv.a (Lv.b (Lv.a (Lv.b (A 93))))))) (Ny cal k m1) (zx cal k) (aw P jk)))
noncomputable def K93_prlrllr (cal:Cal) (k:Nat) (m1:Nat):KR:=(cutK (Lv.b (Lv.a (Lv.a (Lv.b (Lv.a (Lv.b (A 93))))))).c (az P cal (ax P cal m1) none 93 (cR (cR (cL (cL (cR (cL (cR xy))))))) (Lv.b (Lv.b (Lv.a (Lv.a (Lv.b (Lv.a (Lv.b (A 93)))))))) (Ny cal k m1) (zx cal k) (aw P jk)))
noncomputable def AK (cal:Cal) (k:Nat) (m1:Nat):KR:=(cutK (Lv.b (Lv.b (Lv.a (Lv.a (Lv.b (Lv.a (Lv.b (A 93)))))))).c (az P cal (ax P cal m1) none 93 (cR (cR (cR (cL (cL (cR (cL (cR xy)))))))) (Lv.b (Lv.b (Lv.b (Lv.a (Lv.a (Lv.b (Lv.a (Lv.b (A 93))))))))) (Ny cal k m1) (zx cal k) (aw P jk)))
noncomputable def CJ (cal:Cal) (k:Nat) (m1:Nat):XR:=(upX 1 (AK cal k m1) (zx cal k))
noncomputable def K93_prlrllrrll (cal:Cal) (k:Nat) (m1:Nat):KR:=(cutK (Lv.a (Lv.a (Lv.b (Lv.b (Lv.a (Lv.a (Lv.b (Lv.a (Lv.b (A 93)))))))))).c (az P cal (ax P cal m1) none 93 (cR (cL (cL (cR (cR (cL (cL (cR (cL (cR xy)))))))))) (Lv.b (Lv.a (Lv.a (Lv.b (Lv.b (Lv.a (Lv.a (Lv.b (Lv.a (Lv.b (A 93))))))))))) (AK cal k m1) (CJ cal k m1) (aw P jk)))
noncomputable def K93_prlrllrrllr (cal:Cal) (k:Nat) (m1:Nat):KR:=(cutK (Lv.b (Lv.a (Lv.a (Lv.b (Lv.b (Lv.a (Lv.a (Lv.b (Lv.a (Lv.b (A 93))))))))))).c (az P cal (ax P cal m1) none 93 (cR (cR (cL (cL (cR (cR (cL (cL (cR (cL (cR xy))))))))))) (Lv.b (Lv.b (Lv.a (Lv.a (Lv.b (Lv.b (Lv.a (Lv.a (Lv.b (Lv.a (Lv.b (A 93)))))))))))) (AK cal k m1) (CJ cal k m1) (aw P jk)))
noncomputable def K93_prlrllrrllrrl (cal:Cal) (k:Nat) (m1:Nat):KR:=(cutK (Lv.a (Lv.b (Lv.b (Lv.a (Lv.a (Lv.b (Lv.b (Lv.a (Lv.a (Lv.b (Lv.a (Lv.b (A 93))))))))))))).c (az P cal (ax P cal m1) none 93 (cR (cL (cR (cR (cL (cL (cR (cR (cL (cL (cR (cL (cR xy))))))))))))) (Lv.b (Lv.a (Lv.b (Lv.b (Lv.a (Lv.a (Lv.b (Lv.b (Lv.a (Lv.a (Lv.b (Lv.a (Lv.b (A 93)))))))))))))) (AK cal k m1) (CJ cal k m1) (aw P jk)))
noncomputable def K93_prr (cal:Cal) (k:Nat):KR:=(cutK (Lv.b (Lv.b (A 93))).c (az P cal (ax P cal k) none 93 (cR (cR (cR xy))) (Lv.b (Lv.b (Lv.b (A 93)))) (aw P jk) X0 (aw P jk)))
noncomputable def E93_1 (cal:Cal) (k m1:Nat):KR:=az P cal (ax P cal m1) none 93 (cL (cL (cR (cL (cR xy))))) (Lv.a (Lv.a (Lv.b (Lv.a (Lv.b (A 93)))))) (Ny cal k m1) (zx cal k) (aw P jk)
noncomputable def R93_1 (cal:Cal) (k m1:Nat):V4:=fun u1 u7 u8 u9 H n=>ax P cal m1 (Lv.a (Lv.b (Lv.a (Lv.b (A 93))))) none 93 (cL (cR (cL (cR xy)))) (K93_pr cal k) (zx cal k) (aw P jk) (Tr.set (Tr.set (Tr.set (Tr.set Tr.nil 9 (some u9)) 8 (some u8)) 7 (some u7)) 1 (some u1)) H n []
noncomputable def B93_1 (cal:Cal) (k m1:Nat) (b1:V4) (u1 u7 u8 u9:Value) (H:Hp) (n:Nat):Res:=
binK P .lss 3 (.tmp 9) (.tmp 8) u9 u8 fun v_5=>
ifK v_5 (
aq (aY P 32 u7 u9) fun v_6=>
aq (aX v_6) fun a_8=>aq (ak P H 88 a_8) fun v_7=>
cQ P 88 H n fun v_9 H_a n_b=>
aq (bx P 88 v_9 v_7 H_a) fun H_d=>
aq (aX v_9) fun a_g=>aq (ak P H_d 88 a_g) fun v_f=>
ew P cal u1 [v_f] H_d n_b fun v_h H_i n_j=>
aq (cW P v_h (Op.unary UnOp.not v_h)) fun v_k=>
ifK v_k (
some ((.bool false),H_i,n_j)) (
binK P .add 3 (.tmp 9) (.const (.int .i64 1)) u9 (.int .i64 1) fun v_m=>
b1 u1 u7 u8 v_m H_i n_j)) (
some ((.bool true),H,n))
noncomputable def C93_1 (cal:Cal) (k m1:Nat) (b1:V4) (u1 u7 u8 u9:Value) (H:Hp) (n:Nat):Res:=B93_1 cal k m1 b1 u1 u7 u8 u9 H n
noncomputable def S93_1 (cal:Cal) (k:Nat):Nat→V4:=fun m=>Nat.rec (motive:=fun _=>V4) (C93_1 cal k 0 (fun _ _ _ _ _ _=>none)) (fun m ih=>C93_1 cal k (m+1) ih) m
theorem h93_1 (cal:Cal) (k m1:Nat) (u1 u7 u8 u9:Value) (H:Hp) (n:Nat):labK (E93_1 cal k m1) (Tr.set (Tr.set (Tr.set (Tr.set Tr.nil 9 (some u9)) 8 (some u8)) 7 (some u7)) 1 (some u1)) H n []=C93_1 cal k m1 (R93_1 cal k m1) u1 u7 u8 u9 H n:=by
 refine Eq.trans (b:=B93_1 cal k m1 (R93_1 cal k m1) u1 u7 u8 u9 H n) (by kernel_rfl) ?_
 rw[C93_1]
theorem q93_1 (cal:Cal) (k:Nat):∀(m:Nat) (u1 u7 u8 u9:Value) (H:Hp) (n:Nat),labK (E93_1 cal k m) (Tr.set (Tr.set (Tr.set (Tr.set Tr.nil 9 (some u9)) 8 (some u8)) 7 (some u7)) 1 (some u1)) H n []=S93_1 cal k m u1 u7 u8 u9 H n
 | 0,u1,u7,u8,u9,H,n=>by
  rw[h93_1]
  have e:R93_1 cal k 0=fun _ _ _ _ _ _=>none:=by funext u1 u7 u8 u9 H n; kernel_rfl
  rw[e]; rfl
 | m+1,u1,u7,u8,u9,H,n=>by
  rw[h93_1]
  have e:R93_1 cal k (m+1)=S93_1 cal k m:=by
   funext u1 u7 u8 u9 H n
   have e:R93_1 cal k (m+1) u1 u7 u8 u9 H n=labK (E93_1 cal k m) (Tr.set (Tr.set (Tr.set (Tr.set Tr.nil 9 (some u9)) 8 (some u8)) 7 (some u7)) 1 (some u1)) H n []:=by kernel_rfl
   rw[e]; exact q93_1 ..
  rw[e]; rfl
noncomputable def B93_0 (cal:Cal) (k:Nat) (j1:V4) (v0 v1:Value) (H:Hp) (n:Nat):Res:=
aq (lenV P 32 v0) fun v_3=>
j1 v1 v0 v_3 (.int .i64 0) H n
noncomputable def C93_0 (cal:Cal) (k:Nat) (v0 v1:Value) (H:Hp) (n:Nat):Res:=B93_0 cal k (S93_1 cal k k) v0 v1 H n
theorem h93_0 (cal:Cal) (k:Nat) (v0 v1:Value) (H:Hp) (n:Nat):aK P cal A (k+1) 93 [v0,v1] H n=C93_0 cal k v0 v1 H n:=by
 have h:aK P cal A (k+1) 93 [v0,v1] H n=B93_0 cal k (fun u1 u7 u8 u9 H n=>labK (E93_1 cal k k) (Tr.set (Tr.set (Tr.set (Tr.set Tr.nil 9 (some u9)) 8 (some u8)) 7 (some u7)) 1 (some u1)) H n []) v0 v1 H n:=by
  rw[bQ (fn:=Go.Proofs.Try.f93) (c:=xy) (rs:=jk) (by kernel_rfl) (by kernel_rfl) (by kernel_rfl) (by kernel_rfl)]
  kernel_rfl
 rw[h,C93_0]
 have e1:(fun u1 u7 u8 u9 H n=>labK (E93_1 cal k k) (Tr.set (Tr.set (Tr.set (Tr.set Tr.nil 9 (some u9)) 8 (some u8)) 7 (some u7)) 1 (some u1)) H n [])=(S93_1 cal k k):=by funext u1 u7 u8 u9 H n; exact q93_1 ..
 rw[e1]
noncomputable def vq:Code:=cw 94
noncomputable def iw:List ResultVar:=dk 94
noncomputable def K94_p (cal:Cal) (k:Nat):KR:=(cutK (A 94).c (az P cal (ax P cal k) none 94 (cR vq) (Lv.b (A 94)) (aw P iw) X0 (aw P iw)))
noncomputable def K94_pr (cal:Cal) (k:Nat):KR:=(cutK (Lv.b (A 94)).c (az P cal (ax P cal k) none 94 (cR (cR vq)) (Lv.b (Lv.b (A 94))) (aw P iw) X0 (aw P iw)))
noncomputable def YX (cal:Cal) (k:Nat):KR:=(cutK (Lv.b (Lv.b (A 94))).c (az P cal (ax P cal k) none 94 (cR (cR (cR vq))) (Lv.b (Lv.b (Lv.b (A 94)))) (aw P iw) X0 (aw P iw)))
noncomputable def K94_prrl (cal:Cal) (k:Nat):KR:=(cutK (Lv.a (Lv.b (Lv.b (A 94)))).c (az P cal (ax P cal k) none 94 (cR (cL (cR (cR vq)))) (Lv.b (Lv.a (Lv.b (Lv.b (A 94))))) (YX cal k) X0 (aw P iw)))
noncomputable def rK (cal:Cal) (k:Nat):XR:=(upX 0 (YX cal k) X0)
noncomputable def CQ (cal:Cal) (k:Nat) (m1:Nat):KR:=(fun T H n D=>ax P cal m1 (Lv.a (Lv.b (Lv.a (Lv.b (Lv.b (A 94)))))) none 94 (cL (cR (cL (cR (cR vq))))) (YX cal k) (rK cal k) (aw P iw) (cutT (Lv.a (Lv.b (Lv.a (Lv.b (Lv.b (A 94)))))).c T) H n D)
noncomputable def K94_prrlrll (cal:Cal) (k:Nat) (m1:Nat):KR:=(cutK (Lv.a (Lv.a (Lv.b (Lv.a (Lv.b (Lv.b (A 94))))))).c (az P cal (ax P cal m1) none 94 (cR (cL (cL (cR (cL (cR (cR vq))))))) (Lv.b (Lv.a (Lv.a (Lv.b (Lv.a (Lv.b (Lv.b (A 94)))))))) (CQ cal k m1) (rK cal k) (aw P iw)))
noncomputable def K94_prrlrllr (cal:Cal) (k:Nat) (m1:Nat):KR:=(cutK (Lv.b (Lv.a (Lv.a (Lv.b (Lv.a (Lv.b (Lv.b (A 94)))))))).c (az P cal (ax P cal m1) none 94 (cR (cR (cL (cL (cR (cL (cR (cR vq)))))))) (Lv.b (Lv.b (Lv.a (Lv.a (Lv.b (Lv.a (Lv.b (Lv.b (A 94))))))))) (CQ cal k m1) (rK cal k) (aw P iw)))
noncomputable def EJ (cal:Cal) (k:Nat) (m1:Nat):KR:=(cutK (Lv.b (Lv.b (Lv.a (Lv.a (Lv.b (Lv.a (Lv.b (Lv.b (A 94))))))))).c (az P cal (ax P cal m1) none 94 (cR (cR (cR (cL (cL (cR (cL (cR (cR vq))))))))) (Lv.b (Lv.b (Lv.b (Lv.a (Lv.a (Lv.b (Lv.a (Lv.b (Lv.b (A 94)))))))))) (CQ cal k m1) (rK cal k) (aw P iw)))
noncomputable def K94_pxrrlrllrrl (cal:Cal) (k:Nat) (m1:Nat):XR:=(upX 1 (EJ cal k m1) (rK cal k))
noncomputable def K94_prrlrllrrll (cal:Cal) (k:Nat) (m1:Nat):KR:=(cutK (Lv.a (Lv.a (Lv.b (Lv.b (Lv.a (Lv.a (Lv.b (Lv.a (Lv.b (Lv.b (A 94))))))))))).c (az P cal (ax P cal m1) none 94 (cR (cL (cL (cR (cR (cL (cL (cR (cL (cR (cR vq))))))))))) (Lv.b (Lv.a (Lv.a (Lv.b (Lv.b (Lv.a (Lv.a (Lv.b (Lv.a (Lv.b (Lv.b (A 94)))))))))))) (EJ cal k m1) (K94_pxrrlrllrrl cal k m1) (aw P iw)))
noncomputable def K94_prrlrllrrllr (cal:Cal) (k:Nat) (m1:Nat):KR:=(cutK (Lv.b (Lv.a (Lv.a (Lv.b (Lv.b (Lv.a (Lv.a (Lv.b (Lv.a (Lv.b (Lv.b (A 94)))))))))))).c (az P cal (ax P cal m1) none 94 (cR (cR (cL (cL (cR (cR (cL (cL (cR (cL (cR (cR vq)))))))))))) (Lv.b (Lv.b (Lv.a (Lv.a (Lv.b (Lv.b (Lv.a (Lv.a (Lv.b (Lv.a (Lv.b (Lv.b (A 94))))))))))))) (EJ cal k m1) (K94_pxrrlrllrrl cal k m1) (aw P iw)))
noncomputable def K94_prrr (cal:Cal) (k:Nat):KR:=(cutK (Lv.b (Lv.b (Lv.b (A 94)))).c (az P cal (ax P cal k) none 94 (cR (cR (cR (cR vq)))) (Lv.b (Lv.b (Lv.b (Lv.b (A 94))))) (aw P iw) X0 (aw P iw)))
noncomputable def E94_2 (cal:Cal) (k m1:Nat):KR:=az P cal (ax P cal m1) none 94 (cR (cR (cR (cL (cL (cR (cL (cR (cR vq))))))))) (Lv.b (Lv.b (Lv.b (Lv.a (Lv.a (Lv.b (Lv.a (Lv.b (Lv.b (A 94)))))))))) (CQ cal k m1) (rK cal k) (aw P iw)
noncomputable def E94_1 (cal:Cal) (k m1:Nat):KR:=az P cal (ax P cal m1) none 94 (cL (cL (cR (cL (cR (cR vq)))))) (Lv.a (Lv.a (Lv.b (Lv.a (Lv.b (Lv.b (A 94))))))) (CQ cal k m1) (rK cal k) (aw P iw)
noncomputable def Xv (cal:Cal) (k m1:Nat):V6:=fun u2 u3 u5 u9 u10 u11 H n=>ax P cal m1 (Lv.a (Lv.b (Lv.a (Lv.b (Lv.b (A 94)))))) none 94 (cL (cR (cL (cR (cR vq))))) (YX cal k) (rK cal k) (aw P iw) (Tr.set (Tr.set (Tr.set (Tr.set (Tr.set (Tr.set Tr.nil 11 (some u11)) 10 (some u10)) 9 (some u9)) 5 (some u5)) 3 (some u3)) 2 (some u2)) H n []
noncomputable def B94_2 (cal:Cal) (k m1:Nat) (b1:V6) (u2 u3 u5 u9 u10 u11:Value) (H:Hp) (n:Nat):Res:=
binK P .add 3 (.tmp 11) (.const (.int .i64 1)) u11 (.int .i64 1) fun v_f=>
b1 u2 u3 u5 u9 u10 v_f H n
noncomputable def C94_2 (cal:Cal) (k m1:Nat) (b1:V6) (u2 u3 u5 u9 u10 u11:Value) (H:Hp) (n:Nat):Res:=B94_2 cal k m1 b1 u2 u3 u5 u9 u10 u11 H n
theorem h94_2 (cal:Cal) (k m1:Nat) (u2 u3 u5 u9 u10 u11:Value) (H:Hp) (n:Nat):labK (E94_2 cal k m1) (Tr.set (Tr.set (Tr.set (Tr.set (Tr.set (Tr.set Tr.nil 11 (some u11)) 10 (some u10)) 9 (some u9)) 5 (some u5)) 3 (some u3)) 2 (some u2)) H n []=C94_2 cal k m1 (Xv cal k m1) u2 u3 u5 u9 u10 u11 H n:=by
 refine Eq.trans (b:=B94_2 cal k m1 (Xv cal k m1) u2 u3 u5 u9 u10 u11 H n) (by kernel_rfl) ?_
 rw[C94_2]
noncomputable def B94_1 (cal:Cal) (k m1:Nat) (j2:V6) (b1:V6) (u2 u3 u5 u9 u10 u11:Value) (H:Hp) (n:Nat):Res:=
binK P .lss 3 (.tmp 11) (.tmp 10) u11 u10 fun v_e=>
ifK v_e (
aq (aY P 32 u9 u11) fun v_h=>
aq (aX v_h) fun a_j=>aq (ak P H 88 a_j) fun v_i=>
cQ P 88 H n fun v_k H_l n_m=>
aq (bx P 88 v_k v_i H_l) fun H_o=>
aq (aX v_k) fun a_q=>aq (ak P H_o 88 a_q) fun v_p=>
aq (aX u3) fun a_s=>aq (ak P H_o 88 a_s) fun v_r=>
binK P .eql 88 (.tmp 15) (.tmp 16) v_p v_r fun v_t=>
aV v_t false (fun k_v=>
aq (aX v_k) fun a_10=>aq (ak P H_o 88 a_10) fun v_z=>
k_v v_z H_o n_m) H_o n_m fun v_w H_x n_y=>
aV v_t false (fun k_11=>
aq (ay P 88 u3 1) fun v_15=>
k_11 v_15 H_x n_y) H_x n_y fun v_12 H_13 n_14=>
aV v_t false (fun k_16=>
aq (aX v_12) fun a_1b=>aq (ak P H_13 3 a_1b) fun v_1a=>
k_16 v_1a H_13 n_14) H_13 n_14 fun v_17 H_18 n_19=>
aV v_t false (fun k_1c=>
aq (ay P 88 u3 0) fun v_1g=>
k_1c v_1g H_18 n_19) H_18 n_19 fun v_1d H_1e n_1f=>
aV v_t false (fun k_1h=>
aq (aX v_1d) fun a_1m=>aq (ak P H_1e 3 a_1m) fun v_1l=>
k_1h v_1l H_1e n_1f) H_1e n_1f fun v_1i H_1j n_1k=>
aV v_t false (fun k_1n=>
aq (iW P 88 [(0,v_17),(1,v_1i)]) fun v_1r=>
k_1n v_1r H_1j n_1k) H_1j n_1k fun v_1o H_1p n_1q=>
aV v_t false (fun k_1s=>
binK P .eql 88 (.tmp 19) (.tmp 24) v_w v_1o fun v_1w=>
k_1s v_1w H_1p n_1q) H_1p n_1q fun v_1t H_1u n_1v=>
aq (dv v_t (.bool true) v_1t) fun v_1x=>
ifK v_1x (
binK P .add 3 (.tmp 27) (.const (.int .i64 1)) u5 (.int .i64 1) fun v_1z=>
j2 u2 u3 v_1z u9 u10 u11 H_1u n_1v) (
j2 u2 u3 u5 u9 u10 u11 H_1u n_1v)) (
aq (aX u2) fun a_22=>aq (ak P H 35 a_22) fun v_21=>
aq (ay P 88 u3 0) fun v_23=>
aq (aX v_23) fun a_25=>aq (ak P H 3 a_25) fun v_24=>
aW P cal 71 [v_21,v_24] H n fun v_26 H_27 n_28=>
aV v_26 true (fun k_2a=>
aq (aX u2) fun a_2f=>aq (ak P H_27 35 a_2f) fun v_2e=>
k_2a v_2e H_27 n_28) H_27 n_28 fun v_2b H_2c n_2d=>
aV v_26 true (fun k_2g=>
aq (ay P 88 u3 1) fun v_2k=>
k_2g v_2k H_2c n_2d) H_2c n_2d fun v_2h H_2i n_2j=>
aV v_26 true (fun k_2l=>
aq (aX v_2h) fun a_2q=>aq (ak P H_2i 3 a_2q) fun v_2p=>
k_2l v_2p H_2i n_2j) H_2i n_2j fun v_2m H_2n n_2o=>
aV v_26 true (fun k_2r=>
aW P cal 71 [v_2b,v_2m] H_2n n_2o fun v_2v H_2w n_2x=>
k_2r v_2v H_2w n_2x) H_2n n_2o fun v_2s H_2t n_2u=>
aq (dv v_26 v_2s (.bool false)) fun v_2y=>
aV v_2y true (fun k_30=>
aq (ay P 88 u3 0) fun v_34=>
k_30 v_34 H_2t n_2u) H_2t n_2u fun v_31 H_32 n_33=>
aV v_2y true (fun k_35=>
aq (aX v_31) fun a_3a=>aq (ak P H_32 3 a_3a) fun v_39=>
k_35 v_39 H_32 n_33) H_32 n_33 fun v_36 H_37 n_38=>
aV v_2y true (fun k_3b=>
aq (ay P 88 u3 1) fun v_3f=>
k_3b v_3f H_37 n_38) H_37 n_38 fun v_3c H_3d n_3e=>
aV v_2y true (fun k_3g=>
aq (aX v_3c) fun a_3l=>aq (ak P H_3d 3 a_3l) fun v_3k=>
k_3g v_3k H_3d n_3e) H_3d n_3e fun v_3h H_3i n_3j=>
aV v_2y true (fun k_3m=>
binK P .neq 3 (.tmp 42) (.tmp 44) v_36 v_3h fun v_3q=>
k_3m v_3q H_3i n_3j) H_3i n_3j fun v_3n H_3o n_3p=>
aq (dv v_2y v_3n (.bool false)) fun v_3r=>
aV v_3r true (fun k_3t=>
k_3t u5 H_3o n_3p) H_3o n_3p fun v_3u H_3v n_3w=>
aV v_3r true (fun k_3y=>
binK P .eql 3 (.tmp 48) (.const (.int .i64 1)) v_3u (.int .i64 1) fun v_42=>
k_3y v_42 H_3v n_3w) H_3v n_3w fun v_3z H_40 n_41=>
aq (dv v_3r v_3z (.bool false)) fun v_43=>
some (v_43,H_40,n_41))
noncomputable def C94_1 (cal:Cal) (k m1:Nat) (b1:V6) (u2 u3 u5 u9 u10 u11:Value) (H:Hp) (n:Nat):Res:=B94_1 cal k m1 (C94_2 cal k m1 b1) b1 u2 u3 u5 u9 u10 u11 H n
noncomputable def S94_1 (cal:Cal) (k:Nat):Nat→V6:=fun m=>Nat.rec (motive:=fun _=>V6) (C94_1 cal k 0 (fun _ _ _ _ _ _ _ _=>none)) (fun m ih=>C94_1 cal k (m+1) ih) m
theorem h94_1 (cal:Cal) (k m1:Nat) (u2 u3 u5 u9 u10 u11:Value) (H:Hp) (n:Nat):labK (E94_1 cal k m1) (Tr.set (Tr.set (Tr.set (Tr.set (Tr.set (Tr.set Tr.nil 11 (some u11)) 10 (some u10)) 9 (some u9)) 5 (some u5)) 3 (some u3)) 2 (some u2)) H n []=C94_1 cal k m1 (Xv cal k m1) u2 u3 u5 u9 u10 u11 H n:=by
 refine Eq.trans (b:=B94_1 cal k m1 (fun u2 u3 u5 u9 u10 u11 H n=>labK (E94_2 cal k m1) (Tr.set (Tr.set (Tr.set (Tr.set (Tr.set (Tr.set Tr.nil 11 (some u11)) 10 (some u10)) 9 (some u9)) 5 (some u5)) 3 (some u3)) 2 (some u2)) H n []) (Xv cal k m1) u2 u3 u5 u9 u10 u11 H n) (by kernel_rfl) ?_
 rw[C94_1]
 have e2:(fun u2 u3 u5 u9 u10 u11 H n=>labK (E94_2 cal k m1) (Tr.set (Tr.set (Tr.set (Tr.set (Tr.set (Tr.set Tr.nil 11 (some u11)) 10 (some u10)) 9 (some u9)) 5 (some u5)) 3 (some u3)) 2 (some u2)) H n [])=(C94_2 cal k m1 (Xv cal k m1)):=by funext u2 u3 u5 u9 u10 u11 H n; exact h94_2 ..
 rw[e2]
theorem q94_1 (cal:Cal) (k:Nat):∀(m:Nat) (u2 u3 u5 u9 u10 u11:Value) (H:Hp) (n:Nat),labK (E94_1 cal k m) (Tr.set (Tr.set (Tr.set (Tr.set (Tr.set (Tr.set Tr.nil 11 (some u11)) 10 (some u10)) 9 (some u9)) 5 (some u5)) 3 (some u3)) 2 (some u2)) H n []=S94_1 cal k m u2 u3 u5 u9 u10 u11 H n
 | 0,u2,u3,u5,u9,u10,u11,H,n=>by
  rw[h94_1]
  have e:Xv cal k 0=fun _ _ _ _ _ _ _ _=>none:=by funext u2 u3 u5 u9 u10 u11 H n; kernel_rfl
  rw[e]; rfl
 | m+1,u2,u3,u5,u9,u10,u11,H,n=>by
  rw[h94_1]
  have e:Xv cal k (m+1)=S94_1 cal k m:=by
   funext u2 u3 u5 u9 u10 u11 H n
   have e:Xv cal k (m+1) u2 u3 u5 u9 u10 u11 H n=labK (E94_1 cal k m) (Tr.set (Tr.set (Tr.set (Tr.set (Tr.set (Tr.set Tr.nil 11 (some u11)) 10 (some u10)) 9 (some u9)) 5 (some u5)) 3 (some u3)) 2 (some u2)) H n []:=by kernel_rfl
   rw[e]; exact q94_1 ..
  rw[e]; rfl
noncomputable def B94_0 (cal:Cal) (k:Nat) (j1:V6) (v0 v1:Value) (H:Hp) (n:Nat):Res:=
boxK 35 v0 H n fun v_1 H_2 n_3=>
boxK 88 v1 H_2 n_3 fun v_4 H_5 n_6=>
aq (ay P 35 v_1 1) fun v_9=>
aq (aX v_9) fun a_b=>aq (ak P H_5 32 a_b) fun v_a=>
aq (lenV P 32 v_a) fun v_c=>
j1 v_1 v_4 (.int .i64 0) v_a v_c (.int .i64 0) H_5 n_6
noncomputable def C94_0 (cal:Cal) (k:Nat) (v0 v1:Value) (H:Hp) (n:Nat):Res:=B94_0 cal k (S94_1 cal k k) v0 v1 H n
theorem h94_0 (cal:Cal) (k:Nat) (v0 v1:Value) (H:Hp) (n:Nat):aK P cal A (k+1) 94 [v0,v1] H n=C94_0 cal k v0 v1 H n:=by
 have h:aK P cal A (k+1) 94 [v0,v1] H n=B94_0 cal k (fun u2 u3 u5 u9 u10 u11 H n=>labK (E94_1 cal k k) (Tr.set (Tr.set (Tr.set (Tr.set (Tr.set (Tr.set Tr.nil 11 (some u11)) 10 (some u10)) 9 (some u9)) 5 (some u5)) 3 (some u3)) 2 (some u2)) H n []) v0 v1 H n:=by
  rw[bQ (fn:=Go.Proofs.Try.f94) (c:=vq) (rs:=iw) (by kernel_rfl) (by kernel_rfl) (by kernel_rfl) (by kernel_rfl)]
  kernel_rfl
 rw[h,C94_0]
 have e1:(fun u2 u3 u5 u9 u10 u11 H n=>labK (E94_1 cal k k) (Tr.set (Tr.set (Tr.set (Tr.set (Tr.set (Tr.set Tr.nil 11 (some u11)) 10 (some u10)) 9 (some u9)) 5 (some u5)) 3 (some u3)) 2 (some u2)) H n [])=(S94_1 cal k k):=by funext u2 u3 u5 u9 u10 u11 H n; exact q94_1 ..
 rw[e1]
noncomputable def xz:Code:=cw 95
noncomputable def jJ:List ResultVar:=dk 95
noncomputable def K95_p (cal:Cal) (k:Nat):KR:=(cutK (A 95).c (az P cal (ax P cal k) none 95 (cR xz) (Lv.b (A 95)) (aw P jJ) X0 (aw P jJ)))
noncomputable def K95_pr (cal:Cal) (k:Nat):KR:=(cutK (Lv.b (A 95)).c (az P cal (ax P cal k) none 95 (cR (cR xz)) (Lv.b (Lv.b (A 95))) (aw P jJ) X0 (aw P jJ)))
noncomputable def K95_prl (cal:Cal) (k:Nat):KR:=(cutK (Lv.a (Lv.b (A 95))).c (az P cal (ax P cal k) none 95 (cR (cL (cR xz))) (Lv.b (Lv.a (Lv.b (A 95)))) (K95_pr cal k) X0 (aw P jJ)))
noncomputable def zy (cal:Cal) (k:Nat):XR:=(upX 0 (K95_pr cal k) X0)
noncomputable def Nz (cal:Cal) (k:Nat) (m1:Nat):KR:=(fun T H n D=>ax P cal m1 (Lv.a (Lv.b (Lv.a (Lv.b (A 95))))) none 95 (cL (cR (cL (cR xz)))) (K95_pr cal k) (zy cal k) (aw P jJ) (cutT (Lv.a (Lv.b (Lv.a (Lv.b (A 95))))).c T) H n D)
noncomputable def K95_prlrll (cal:Cal) (k:Nat) (m1:Nat):KR:=(cutK (Lv.a (Lv.a (Lv.b (Lv.a (Lv.b (A 95)))))).c (az P cal (ax P cal m1) none 95 (cR (cL (cL (cR (cL (cR xz)))))) (Lv.b (Lv.a (Lv.a (Lv.b (Lv.a (Lv.b (A 95))))))) (Nz cal k m1) (zy cal k) (aw P jJ)))
noncomputable def K95_prlrllr (cal:Cal) (k:Nat) (m1:Nat):KR:=(cutK (Lv.b (Lv.a (Lv.a (Lv.b (Lv.a (Lv.b (A 95))))))).c (az P cal (ax P cal m1) none 95 (cR (cR (cL (cL (cR (cL (cR xz))))))) (Lv.b (Lv.b (Lv.a (Lv.a (Lv.b (Lv.a (Lv.b (A 95)))))))) (Nz cal k m1) (zy cal k) (aw P jJ)))
noncomputable def Bj (cal:Cal) (k:Nat) (m1:Nat):KR:=(cutK (Lv.b (Lv.b (Lv.a (Lv.a (Lv.b (Lv.a (Lv.b (A 95)))))))).c (az P cal (ax P cal m1) none 95 (cR (cR (cR (cL (cL (cR (cL (cR xz)))))))) (Lv.b (Lv.b (Lv.b (Lv.a (Lv.a (Lv.b (Lv.a (Lv.b (A 95))))))))) (Nz cal k m1) (zy cal k) (aw P jJ)))
noncomputable def CV (cal:Cal) (k:Nat) (m1:Nat):XR:=(upX 1 (Bj cal k m1) (zy cal k))
noncomputable def K95_prlrllrrll (cal:Cal) (k:Nat) (m1:Nat):KR:=(cutK (Lv.a (Lv.a (Lv.b (Lv.b (Lv.a (Lv.a (Lv.b (Lv.a (Lv.b (A 95)))))))))).c (az P cal (ax P cal m1) none 95 (cR (cL (cL (cR (cR (cL (cL (cR (cL (cR xz)))))))))) (Lv.b (Lv.a (Lv.a (Lv.b (Lv.b (Lv.a (Lv.a (Lv.b (Lv.a (Lv.b (A 95))))))))))) (Bj cal k m1) (CV cal k m1) (aw P jJ)))
noncomputable def K95_prlrllrrllr (cal:Cal) (k:Nat) (m1:Nat):KR:=(cutK (Lv.b (Lv.a (Lv.a (Lv.b (Lv.b (Lv.a (Lv.a (Lv.b (Lv.a (Lv.b (A 95))))))))))).c (az P cal (ax P cal m1) none 95 (cR (cR (cL (cL (cR (cR (cL (cL (cR (cL (cR xz))))))))))) (Lv.b (Lv.b (Lv.a (Lv.a (Lv.b (Lv.b (Lv.a (Lv.a (Lv.b (Lv.a (Lv.b (A 95)))))))))))) (Bj cal k m1) (CV cal k m1) (aw P jJ)))
noncomputable def K95_prlrllrrllrrl (cal:Cal) (k:Nat) (m1:Nat):KR:=(cutK (Lv.a (Lv.b (Lv.b (Lv.a (Lv.a (Lv.b (Lv.b (Lv.a (Lv.a (Lv.b (Lv.a (Lv.b (A 95))))))))))))).c (az P cal (ax P cal m1) none 95 (cR (cL (cR (cR (cL (cL (cR (cR (cL (cL (cR (cL (cR xz))))))))))))) (Lv.b (Lv.a (Lv.b (Lv.b (Lv.a (Lv.a (Lv.b (Lv.b (Lv.a (Lv.a (Lv.b (Lv.a (Lv.b (A 95)))))))))))))) (Bj cal k m1) (CV cal k m1) (aw P jJ)))
noncomputable def K95_prr (cal:Cal) (k:Nat):KR:=(cutK (Lv.b (Lv.b (A 95))).c (az P cal (ax P cal k) none 95 (cR (cR (cR xz))) (Lv.b (Lv.b (Lv.b (A 95)))) (aw P jJ) X0 (aw P jJ)))
noncomputable def E95_1 (cal:Cal) (k m1:Nat):KR:=az P cal (ax P cal m1) none 95 (cL (cL (cR (cL (cR xz))))) (Lv.a (Lv.a (Lv.b (Lv.a (Lv.b (A 95)))))) (Nz cal k m1) (zy cal k) (aw P jJ)
noncomputable def R95_1 (cal:Cal) (k m1:Nat):V4:=fun u1 u7 u8 u9 H n=>ax P cal m1 (Lv.a (Lv.b (Lv.a (Lv.b (A 95))))) none 95 (cL (cR (cL (cR xz)))) (K95_pr cal k) (zy cal k) (aw P jJ) (Tr.set (Tr.set (Tr.set (Tr.set Tr.nil 9 (some u9)) 8 (some u8)) 7 (some u7)) 1 (some u1)) H n []
noncomputable def B95_1 (cal:Cal) (k m1:Nat) (b1:V4) (u1 u7 u8 u9:Value) (H:Hp) (n:Nat):Res:=
binK P .lss 3 (.tmp 9) (.tmp 8) u9 u8 fun v_5=>
ifK v_5 (
aq (aY P 33 u7 u9) fun v_6=>
aq (aX v_6) fun a_8=>aq (ak P H 86 a_8) fun v_7=>
cQ P 86 H n fun v_9 H_a n_b=>
aq (bx P 86 v_9 v_7 H_a) fun H_d=>
aq (aX v_9) fun a_g=>aq (ak P H_d 86 a_g) fun v_f=>
ew P cal u1 [v_f] H_d n_b fun v_h H_i n_j=>
aq (cW P v_h (Op.unary UnOp.not v_h)) fun v_k=>
ifK v_k (
some ((.bool false),H_i,n_j)) (
binK P .add 3 (.tmp 9) (.const (.int .i64 1)) u9 (.int .i64 1) fun v_m=>
b1 u1 u7 u8 v_m H_i n_j)) (
some ((.bool true),H,n))
noncomputable def C95_1 (cal:Cal) (k m1:Nat) (b1:V4) (u1 u7 u8 u9:Value) (H:Hp) (n:Nat):Res:=B95_1 cal k m1 b1 u1 u7 u8 u9 H n
noncomputable def S95_1 (cal:Cal) (k:Nat):Nat→V4:=fun m=>Nat.rec (motive:=fun _=>V4) (C95_1 cal k 0 (fun _ _ _ _ _ _=>none)) (fun m ih=>C95_1 cal k (m+1) ih) m
theorem h95_1 (cal:Cal) (k m1:Nat) (u1 u7 u8 u9:Value) (H:Hp) (n:Nat):labK (E95_1 cal k m1) (Tr.set (Tr.set (Tr.set (Tr.set Tr.nil 9 (some u9)) 8 (some u8)) 7 (some u7)) 1 (some u1)) H n []=C95_1 cal k m1 (R95_1 cal k m1) u1 u7 u8 u9 H n:=by
 refine Eq.trans (b:=B95_1 cal k m1 (R95_1 cal k m1) u1 u7 u8 u9 H n) (by kernel_rfl) ?_
 rw[C95_1]
theorem q95_1 (cal:Cal) (k:Nat):∀(m:Nat) (u1 u7 u8 u9:Value) (H:Hp) (n:Nat),labK (E95_1 cal k m) (Tr.set (Tr.set (Tr.set (Tr.set Tr.nil 9 (some u9)) 8 (some u8)) 7 (some u7)) 1 (some u1)) H n []=S95_1 cal k m u1 u7 u8 u9 H n
 | 0,u1,u7,u8,u9,H,n=>by
  rw[h95_1]
  have e:R95_1 cal k 0=fun _ _ _ _ _ _=>none:=by funext u1 u7 u8 u9 H n; kernel_rfl
  rw[e]; rfl
 | m+1,u1,u7,u8,u9,H,n=>by
  rw[h95_1]
  have e:R95_1 cal k (m+1)=S95_1 cal k m:=by
   funext u1 u7 u8 u9 H n
   have e:R95_1 cal k (m+1) u1 u7 u8 u9 H n=labK (E95_1 cal k m) (Tr.set (Tr.set (Tr.set (Tr.set Tr.nil 9 (some u9)) 8 (some u8)) 7 (some u7)) 1 (some u1)) H n []:=by kernel_rfl
   rw[e]; exact q95_1 ..
  rw[e]; rfl
noncomputable def B95_0 (cal:Cal) (k:Nat) (j1:V4) (v0 v1:Value) (H:Hp) (n:Nat):Res:=
aq (lenV P 33 v0) fun v_3=>
j1 v1 v0 v_3 (.int .i64 0) H n
noncomputable def C95_0 (cal:Cal) (k:Nat) (v0 v1:Value) (H:Hp) (n:Nat):Res:=B95_0 cal k (S95_1 cal k k) v0 v1 H n
theorem h95_0 (cal:Cal) (k:Nat) (v0 v1:Value) (H:Hp) (n:Nat):aK P cal A (k+1) 95 [v0,v1] H n=C95_0 cal k v0 v1 H n:=by
 have h:aK P cal A (k+1) 95 [v0,v1] H n=B95_0 cal k (fun u1 u7 u8 u9 H n=>labK (E95_1 cal k k) (Tr.set (Tr.set (Tr.set (Tr.set Tr.nil 9 (some u9)) 8 (some u8)) 7 (some u7)) 1 (some u1)) H n []) v0 v1 H n:=by
  rw[bQ (fn:=Go.Proofs.Try.f95) (c:=xz) (rs:=jJ) (by kernel_rfl) (by kernel_rfl) (by kernel_rfl) (by kernel_rfl)]
  kernel_rfl
 rw[h,C95_0]
 have e1:(fun u1 u7 u8 u9 H n=>labK (E95_1 cal k k) (Tr.set (Tr.set (Tr.set (Tr.set Tr.nil 9 (some u9)) 8 (some u8)) 7 (some u7)) 1 (some u1)) H n [])=(S95_1 cal k k):=by funext u1 u7 u8 u9 H n; exact q95_1 ..
 rw[e1]
noncomputable def code96:Code:=cw 96
noncomputable def Gx:List ResultVar:=dk 96
noncomputable def K96_p (cal:Cal) (k:Nat):KR:=(cutK (A 96).c (az P cal (ax P cal k) none 96 (cR code96) (Lv.b (A 96)) (aw P Gx) X0 (aw P Gx)))
noncomputable def K96_pr (cal:Cal) (k:Nat):KR:=(cutK (Lv.b (A 96)).c (az P cal (ax P cal k) none 96 (cR (cR code96)) (Lv.b (Lv.b (A 96))) (aw P Gx) X0 (aw P Gx)))
noncomputable def B96_0 (cal:Cal) (k:Nat) (v0:Value) (H:Hp) (n:Nat):Res:=
boxK 86 v0 H n fun v_1 H_2 n_3=>
aq (ay P 86 v_1 0) fun v_5=>
aq (aX v_5) fun a_7=>aq (ak P H_2 3 a_7) fun v_6=>
binK P .geq 3 (.tmp 4) (.const (.int .i64 0)) v_6 (.int .i64 0) fun v_8=>
aV v_8 true (fun k_a=>
aq (ay P 86 v_1 0) fun v_e=>
k_a v_e H_2 n_3) H_2 n_3 fun v_b H_c n_d=>
aV v_8 true (fun k_f=>
aq (aX v_b) fun a_k=>aq (ak P H_c 3 a_k) fun v_j=>
k_f v_j H_c n_d) H_c n_d fun v_g H_h n_i=>
aV v_8 true (fun k_l=>
binK P .leq 3 (.tmp 8) (.const (.int .i64 1000)) v_g (.int .i64 1000) fun v_p=>
k_l v_p H_h n_i) H_h n_i fun v_m H_n n_o=>
aq (dv v_8 v_m (.bool false)) fun v_q=>
aV v_q true (fun k_s=>
aq (ay P 86 v_1 1) fun v_w=>
k_s v_w H_n n_o) H_n n_o fun v_t H_u n_v=>
aV v_q true (fun k_x=>
aq (aX v_t) fun a_12=>aq (ak P H_u 53 a_12) fun v_11=>
k_x v_11 H_u n_v) H_u n_v fun v_y H_z n_10=>
aV v_q true (fun k_13=>
aW P cal 114 [v_y] H_z n_10 fun v_17 H_18 n_19=>
k_13 v_17 H_18 n_19) H_z n_10 fun v_14 H_15 n_16=>
aq (dv v_q v_14 (.bool false)) fun v_1a=>
aV v_1a true (fun k_1c=>
aq (ay P 86 v_1 2) fun v_1g=>
k_1c v_1g H_15 n_16) H_15 n_16 fun v_1d H_1e n_1f=>
aV v_1a true (fun k_1h=>
aq (aX v_1d) fun a_1m=>aq (ak P H_1e 53 a_1m) fun v_1l=>
k_1h v_1l H_1e n_1f) H_1e n_1f fun v_1i H_1j n_1k=>
aV v_1a true (fun k_1n=>
aW P cal 114 [v_1i] H_1j n_1k fun v_1r H_1s n_1t=>
k_1n v_1r H_1s n_1t) H_1j n_1k fun v_1o H_1p n_1q=>
aq (dv v_1a v_1o (.bool false)) fun v_1u=>
some (v_1u,H_1p,n_1q)
noncomputable def C96_0 (cal:Cal) (k:Nat) (v0:Value) (H:Hp) (n:Nat):Res:=B96_0 cal k v0 H n
theorem h96_0 (cal:Cal) (k:Nat) (v0:Value) (H:Hp) (n:Nat):aK P cal A (k+1) 96 [v0] H n=C96_0 cal k v0 H n:=by
 have h:aK P cal A (k+1) 96 [v0] H n=B96_0 cal k v0 H n:=by
  rw[bQ (fn:=Go.Proofs.Try.f96) (c:=code96) (rs:=Gx) (by kernel_rfl) (by kernel_rfl) (by kernel_rfl) (by kernel_rfl)]
  kernel_rfl
 rw[h,C96_0]
end Go.Proofs.Ytekajfobmnedjaa.G
