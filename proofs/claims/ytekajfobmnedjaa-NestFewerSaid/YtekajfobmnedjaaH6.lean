/- The texts of functions, each with the proof that the evaluator says the same. -/
import Derived.Test.YtekajfobmnedjaaH1
open Go Go.Ev
set_option maxRecDepth 1000000
set_option linter.unusedVariables false
noncomputable section
namespace Go.Proofs.Ytekajfobmnedjaa.G
noncomputable def uQ:Code:=cw 119
noncomputable def gK:List ResultVar:=dk 119
noncomputable def K119_p (cal:Cal) (k:Nat):KR:=(cutK (A 119).c (az P cal (ax P cal k) none 119 (cR uQ) (Lv.b (A 119)) (aw P gK) X0 (aw P gK)))
noncomputable def K119_pl (cal:Cal) (k:Nat):KR:=(cutK (Lv.a (A 119)).c (az P cal (ax P cal k) none 119 (cR (cL uQ)) (Lv.b (Lv.a (A 119))) (K119_p cal k) X0 (aw P gK)))
noncomputable def K119_pr (cal:Cal) (k:Nat):KR:=(cutK (Lv.b (A 119)).c (az P cal (ax P cal k) none 119 (cR (cR uQ)) (Lv.b (Lv.b (A 119))) (aw P gK) X0 (aw P gK)))
noncomputable def zJ (cal:Cal) (k:Nat):XR:=(upX 0 (aw P gK) X0)
noncomputable def NJ (cal:Cal) (k:Nat) (m1:Nat):KR:=(fun T H n D=>ax P cal m1 (Lv.a (Lv.b (Lv.b (A 119)))) none 119 (cL (cR (cR uQ))) (aw P gK) (zJ cal k) (aw P gK) (cutT (Lv.a (Lv.b (Lv.b (A 119)))).c T) H n D)
noncomputable def K119_prrll (cal:Cal) (k:Nat) (m1:Nat):KR:=(cutK (Lv.a (Lv.a (Lv.b (Lv.b (A 119))))).c (az P cal (ax P cal m1) none 119 (cR (cL (cL (cR (cR uQ))))) (Lv.b (Lv.a (Lv.a (Lv.b (Lv.b (A 119)))))) (NJ cal k m1) (zJ cal k) (aw P gK)))
noncomputable def K119_prrllr (cal:Cal) (k:Nat) (m1:Nat):KR:=(cutK (Lv.b (Lv.a (Lv.a (Lv.b (Lv.b (A 119)))))).c (az P cal (ax P cal m1) none 119 (cR (cR (cL (cL (cR (cR uQ)))))) (Lv.b (Lv.b (Lv.a (Lv.a (Lv.b (Lv.b (A 119))))))) (NJ cal k m1) (zJ cal k) (aw P gK)))
noncomputable def IQ (cal:Cal) (k:Nat) (m1:Nat):KR:=(cutK (Lv.b (Lv.b (Lv.a (Lv.a (Lv.b (Lv.b (A 119))))))).c (az P cal (ax P cal m1) none 119 (cR (cR (cR (cL (cL (cR (cR uQ))))))) (Lv.b (Lv.b (Lv.b (Lv.a (Lv.a (Lv.b (Lv.b (A 119)))))))) (NJ cal k m1) (zJ cal k) (aw P gK)))
noncomputable def K119_pxrrllrrl (cal:Cal) (k:Nat) (m1:Nat):XR:=(upX 1 (IQ cal k m1) (zJ cal k))
noncomputable def K119_prrllrrll (cal:Cal) (k:Nat) (m1:Nat):KR:=(cutK (Lv.a (Lv.a (Lv.b (Lv.b (Lv.a (Lv.a (Lv.b (Lv.b (A 119))))))))).c (az P cal (ax P cal m1) none 119 (cR (cL (cL (cR (cR (cL (cL (cR (cR uQ))))))))) (Lv.b (Lv.a (Lv.a (Lv.b (Lv.b (Lv.a (Lv.a (Lv.b (Lv.b (A 119)))))))))) (IQ cal k m1) (K119_pxrrllrrl cal k m1) (aw P gK)))
noncomputable def K119_prrllrrllr (cal:Cal) (k:Nat) (m1:Nat):KR:=(cutK (Lv.b (Lv.a (Lv.a (Lv.b (Lv.b (Lv.a (Lv.a (Lv.b (Lv.b (A 119)))))))))).c (az P cal (ax P cal m1) none 119 (cR (cR (cL (cL (cR (cR (cL (cL (cR (cR uQ)))))))))) (Lv.b (Lv.b (Lv.a (Lv.a (Lv.b (Lv.b (Lv.a (Lv.a (Lv.b (Lv.b (A 119))))))))))) (IQ cal k m1) (K119_pxrrllrrl cal k m1) (aw P gK)))
noncomputable def E119_1 (cal:Cal) (k m1:Nat):KR:=az P cal (ax P cal m1) none 119 (cL (cL (cR (cR uQ)))) (Lv.a (Lv.a (Lv.b (Lv.b (A 119))))) (NJ cal k m1) (zJ cal k) (aw P gK)
noncomputable def R119_1 (cal:Cal) (k m1:Nat):V5:=fun u0 u1 u2 u14 u15 H n=>ax P cal m1 (Lv.a (Lv.b (Lv.b (A 119)))) none 119 (cL (cR (cR uQ))) (aw P gK) (zJ cal k) (aw P gK) (Tr.set (Tr.set (Tr.set (Tr.set (Tr.set Tr.nil 15 (some u15)) 14 (some u14)) 2 (some u2)) 1 (some u1)) 0 (some u0)) H n []
noncomputable def B119_1 (cal:Cal) (k m1:Nat) (b1:V5) (u0 u1 u2 u14 u15:Value) (H:Hp) (n:Nat):Res:=
binK P .lss 3 (.tmp 15) (.tmp 14) u15 u14 fun v_h=>
ifK v_h (
aq (aX u2) fun a_k=>aq (ak P H 105 a_k) fun v_l=>
aq (aX u1) fun a_m=>aq (ak P H 3 a_m) fun v_n=>
aq (nilV v_l) fun v_p=>
aq (ay P 117 v_p 1) fun v_q=>
aq (aY P 109 v_q v_n) fun v_r=>
aq (aY P 108 v_r u15) fun v_s=>
aq (aX v_s) fun a_t=>aq (ak P H 4 a_t) fun v_u=>
iK v_u true (fun k_w=>
k_w u0 .p H n) .p H n fun v_x x_y H_z n_10=>
iK v_u true (fun k_12=>
k_12 u15 .p H_z n_10) .p H_z n_10 fun v_13 x_14 H_15 n_16=>
iK v_u true (fun k_18=>
ew P cal v_x [v_13] H_15 n_16 fun v_1d H_1e n_1f=>
k_18 v_1d .e H_1e n_1f) .e H_15 n_16 fun v_19 x_1a H_1b n_1c=>
iK v_u true (fun k_1g=>
aq (cW P v_19 (Op.unary UnOp.not v_19)) fun v_1l=>
k_1g v_1l .p H_1b n_1c) .p H_1b n_1c fun v_1h x_1i H_1j n_1k=>
aq (dv v_u v_1h (.bool false)) fun v_1m=>
ifK v_1m (
some ((Value.tuple ⟨[]⟩),H_1j,n_1k)) (
binK P .add 3 (.tmp 15) (.const (.int .i64 1)) u15 (.int .i64 1) fun v_1n=>
b1 u0 u1 u2 u14 v_1n H_1j n_1k)) (
some ((Value.tuple ⟨[]⟩),H,n))
noncomputable def Lz (cal:Cal) (k m1:Nat) (b1:V5) (u0 u1 u2 u14 u15:Value) (H:Hp) (n:Nat):Res:=B119_1 cal k m1 b1 u0 u1 u2 u14 u15 H n
noncomputable def Lk (cal:Cal) (k:Nat):Nat→V5:=fun m=>Nat.rec (motive:=fun _=>V5) (Lz cal k 0 (fun _ _ _ _ _ _ _=>none)) (fun m ih=>Lz cal k (m+1) ih) m
theorem h119_1 (cal:Cal) (k m1:Nat) (u0 u1 u2 u14 u15:Value) (H:Hp) (n:Nat):labK (E119_1 cal k m1) (Tr.set (Tr.set (Tr.set (Tr.set (Tr.set Tr.nil 15 (some u15)) 14 (some u14)) 2 (some u2)) 1 (some u1)) 0 (some u0)) H n []=Lz cal k m1 (R119_1 cal k m1) u0 u1 u2 u14 u15 H n:=by
 refine Eq.trans (b:=B119_1 cal k m1 (R119_1 cal k m1) u0 u1 u2 u14 u15 H n) (by kernel_rfl) ?_
 rw[Lz]
theorem q119_1 (cal:Cal) (k:Nat):∀(m:Nat) (u0 u1 u2 u14 u15:Value) (H:Hp) (n:Nat),labK (E119_1 cal k m) (Tr.set (Tr.set (Tr.set (Tr.set (Tr.set Tr.nil 15 (some u15)) 14 (some u14)) 2 (some u2)) 1 (some u1)) 0 (some u0)) H n []=Lk cal k m u0 u1 u2 u14 u15 H n
 | 0,u0,u1,u2,u14,u15,H,n=>by
  rw[h119_1]
  have e:R119_1 cal k 0=fun _ _ _ _ _ _ _=>none:=by funext u0 u1 u2 u14 u15 H n; kernel_rfl
  rw[e]; rfl
 | m+1,u0,u1,u2,u14,u15,H,n=>by
  rw[h119_1]
  have e:R119_1 cal k (m+1)=Lk cal k m:=by
   funext u0 u1 u2 u14 u15 H n
   have e:R119_1 cal k (m+1) u0 u1 u2 u14 u15 H n=labK (E119_1 cal k m) (Tr.set (Tr.set (Tr.set (Tr.set (Tr.set Tr.nil 15 (some u15)) 14 (some u14)) 2 (some u2)) 1 (some u1)) 0 (some u0)) H n []:=by kernel_rfl
   rw[e]; exact q119_1 ..
  rw[e]; rfl
noncomputable def B119_0 (cal:Cal) (k:Nat) (j1:V5) (v0 v1 v2:Value) (H:Hp) (n:Nat):Res:=
aq (aX v1) fun a_3=>aq (ak P H 3 a_3) fun v_2=>
ew P cal v0 [v_2] H n fun v_4 H_5 n_6=>
aq (cW P v_4 (Op.unary UnOp.not v_4)) fun v_7=>
ifK v_7 (
some ((Value.tuple ⟨[]⟩),H_5,n_6)) (
aq (aX v2) fun a_9=>aq (ak P H_5 105 a_9) fun v_8=>
aq (nilV v_8) fun v_a=>
aq (ay P 117 v_a 0) fun v_b=>
aq (ay P 35 v_b 0) fun v_c=>
aq (aX v_c) fun a_e=>aq (ak P H_5 31 a_e) fun v_d=>
aq (lenV P 31 v_d) fun v_f=>
j1 v0 v1 v2 v_f (.int .i64 0) H_5 n_6)
noncomputable def EX (cal:Cal) (k:Nat) (v0 v1 v2:Value) (H:Hp) (n:Nat):Res:=B119_0 cal k (Lk cal k k) v0 v1 v2 H n
theorem h119_0 (cal:Cal) (k:Nat) (v0 v1 v2:Value) (H:Hp) (n:Nat):aK P cal A (k+1) 119 [v0,v1,v2] H n=EX cal k v0 v1 v2 H n:=by
 have h:aK P cal A (k+1) 119 [v0,v1,v2] H n=B119_0 cal k (fun u0 u1 u2 u14 u15 H n=>labK (E119_1 cal k k) (Tr.set (Tr.set (Tr.set (Tr.set (Tr.set Tr.nil 15 (some u15)) 14 (some u14)) 2 (some u2)) 1 (some u1)) 0 (some u0)) H n []) v0 v1 v2 H n:=by
  rw[bQ (fn:=Go.Proofs.Try.f119) (c:=uQ) (rs:=gK) (by kernel_rfl) (by kernel_rfl) (by kernel_rfl) (by kernel_rfl)]
  kernel_rfl
 rw[h,EX]
 have e1:(fun u0 u1 u2 u14 u15 H n=>labK (E119_1 cal k k) (Tr.set (Tr.set (Tr.set (Tr.set (Tr.set Tr.nil 15 (some u15)) 14 (some u14)) 2 (some u2)) 1 (some u1)) 0 (some u0)) H n [])=(Lk cal k k):=by funext u0 u1 u2 u14 u15 H n; exact q119_1 ..
 rw[e1]
noncomputable def Zw:Code:=cw 120
noncomputable def vJ:List ResultVar:=dk 120
noncomputable def K120_p (cal:Cal) (k:Nat):KR:=(cutK (A 120).c (az P cal (ax P cal k) none 120 (cR Zw) (Lv.b (A 120)) (aw P vJ) X0 (aw P vJ)))
noncomputable def K120_pr (cal:Cal) (k:Nat):KR:=(cutK (Lv.b (A 120)).c (az P cal (ax P cal k) none 120 (cR (cR Zw)) (Lv.b (Lv.b (A 120))) (aw P vJ) X0 (aw P vJ)))
noncomputable def K120_prr (cal:Cal) (k:Nat):KR:=(cutK (Lv.b (Lv.b (A 120))).c (az P cal (ax P cal k) none 120 (cR (cR (cR Zw))) (Lv.b (Lv.b (Lv.b (A 120)))) (aw P vJ) X0 (aw P vJ)))
noncomputable def B120_0 (cal:Cal) (k:Nat) (v0 v1 v2:Value) (H:Hp) (n:Nat):Res:=
boxK 113 v0 H n fun v_1 H_2 n_3=>
boxK 179 v2 H_2 n_3 fun v_4 H_5 n_6=>
aq (aX v_1) fun a_8=>aq (ak P H_5 113 a_8) fun v_9=>
aq (ay P 179 v_4 1) fun v_a=>
aq (aX v_a) fun a_b=>aq (ak P H_5 129 a_b) fun v_c=>
aq (ay P 179 v_4 1) fun v_d=>
aq (aX v_d) fun a_e=>aq (ak P H_5 129 a_e) fun v_f=>
aq (ay P 113 v_1 1) fun v_h=>
aq (aY P 111 v_h v1) fun v_i=>
aq (aX v_i) fun a_j=>aq (ak P H_5 53 a_j) fun v_k=>
effK P [(.l 53 a_j),(.l 129 a_e)] H_5 n_6 (fun H_l n_m k_n=>
aW P cal 98 [v_9,v_c] H_l n_m fun v_r H_s n_t=>
k_n v_r H_s n_t) fun v_o H_p n_q=>
ew P cal v_f [v_k] H_p n_q fun v_u H_v n_w=>
binK P .sub 3 (.tmp 11) (.tmp 18) v_o v_u fun v_x=>
aq (ay P 179 v_4 2) fun v_z=>
aq (aX v_z) fun a_10=>aq (ak P H_v 160 a_10) fun v_11=>
aq (ay P 179 v_4 0) fun v_12=>
aq (aX v_12) fun a_13=>aq (ak P H_v 129 a_13) fun v_14=>
aq (ay P 113 v_1 1) fun v_16=>
aq (aY P 111 v_16 v1) fun v_17=>
aq (aX v_17) fun a_18=>aq (ak P H_v 53 a_18) fun v_19=>
aq (ay P 113 v_1 0) fun v_1a=>
aq (aX v_1a) fun a_1b=>aq (ak P H_v 3 a_1b) fun v_1c=>
binK P .sub 3 (.tmp 30) (.tmp 31) v_1c v_x fun v_1e=>
aq (Fx P 44 1 [(0,v_1e)]) fun q_1h=>newK q_1h.1 q_1h.2 H_v n_w fun H_1f n_1g=>
effK P [(.a n_w q_1h.1 q_1h.2),(.l 3 a_1b),(.l 160 a_10)] H_1f n_1g (fun H_1i n_1j k_1k=>
ew P cal v_14 [v_19] H_1i n_1j fun v_1o H_1p n_1q=>
k_1k v_1o H_1p n_1q) fun v_1l H_1m n_1n=>
ew P cal v_11 [v_1l,(.slice (some ⟨n_w,0,none⟩) 1 1)] H_1m n_1n fun v_1r H_1s n_1t=>
some (v_1r,H_1s,n_1t)
noncomputable def VX (cal:Cal) (k:Nat) (v0 v1 v2:Value) (H:Hp) (n:Nat):Res:=B120_0 cal k v0 v1 v2 H n
theorem h120_0 (cal:Cal) (k:Nat) (v0 v1 v2:Value) (H:Hp) (n:Nat):aK P cal A (k+1) 120 [v0,v1,v2] H n=VX cal k v0 v1 v2 H n:=by
 have h:aK P cal A (k+1) 120 [v0,v1,v2] H n=B120_0 cal k v0 v1 v2 H n:=by
  rw[bQ (fn:=Go.Proofs.Try.f120) (c:=Zw) (rs:=vJ) (by kernel_rfl) (by kernel_rfl) (by kernel_rfl) (by kernel_rfl)]
  kernel_rfl
 rw[h,VX]
noncomputable def code121:Code:=cw 121
noncomputable def vQ:List ResultVar:=dk 121
noncomputable def K121_p (cal:Cal) (k:Nat):KR:=(cutK (A 121).c (az P cal (ax P cal k) none 121 (cR code121) (Lv.b (A 121)) (aw P vQ) X0 (aw P vQ)))
noncomputable def K121_pr (cal:Cal) (k:Nat):KR:=(cutK (Lv.b (A 121)).c (az P cal (ax P cal k) none 121 (cR (cR code121)) (Lv.b (Lv.b (A 121))) (aw P vQ) X0 (aw P vQ)))
noncomputable def B121_0 (cal:Cal) (k:Nat) (H:Hp) (n:Nat):Res:=
cQ P 179 H n fun v_1 H_2 n_3=>
aq (iW P 179 [(0,(Value.func (.func 72) #[] #[])),(1,(Value.func (.func 73) #[] #[])),(2,(Value.func (.func 106) #[] #[]))]) fun v_4=>
aq (bx P 179 v_1 v_4 H_2) fun H_6=>
aq (resV P (Tr.set Tr.nil 0 (some v_1)) H_6 vQ) fun v_7=>some (oneV v_7,H_6,n_3)
noncomputable def VY (cal:Cal) (k:Nat) (H:Hp) (n:Nat):Res:=B121_0 cal k  H n
theorem h121_0 (cal:Cal) (k:Nat) (H:Hp) (n:Nat):aK P cal A (k+1) 121 [] H n=VY cal k  H n:=by
 have h:aK P cal A (k+1) 121 [] H n=B121_0 cal k  H n:=by
  rw[bQ (fn:=Go.Proofs.Try.f121) (c:=code121) (rs:=vQ) (by kernel_rfl) (by kernel_rfl) (by kernel_rfl) (by kernel_rfl)]
  kernel_rfl
 rw[h,VY]
noncomputable def code122:Code:=cw 122
noncomputable def vV:List ResultVar:=dk 122
noncomputable def K122_p (cal:Cal) (k:Nat):KR:=(cutK (A 122).c (az P cal (ax P cal k) none 122 (cR code122) (Lv.b (A 122)) (aw P vV) X0 (aw P vV)))
noncomputable def K122_pr (cal:Cal) (k:Nat):KR:=(cutK (Lv.b (A 122)).c (az P cal (ax P cal k) none 122 (cR (cR code122)) (Lv.b (Lv.b (A 122))) (aw P vV) X0 (aw P vV)))
noncomputable def B122_0 (cal:Cal) (k:Nat) (H:Hp) (n:Nat):Res:=
cQ P 179 H n fun v_1 H_2 n_3=>
aq (iW P 179 [(0,(Value.func (.func 73) #[] #[])),(1,(Value.func (.func 72) #[] #[])),(2,(Value.func (.func 105) #[] #[]))]) fun v_4=>
aq (bx P 179 v_1 v_4 H_2) fun H_6=>
aq (resV P (Tr.set Tr.nil 0 (some v_1)) H_6 vV) fun v_7=>some (oneV v_7,H_6,n_3)
noncomputable def VZ (cal:Cal) (k:Nat) (H:Hp) (n:Nat):Res:=B122_0 cal k  H n
theorem h122_0 (cal:Cal) (k:Nat) (H:Hp) (n:Nat):aK P cal A (k+1) 122 [] H n=VZ cal k  H n:=by
 have h:aK P cal A (k+1) 122 [] H n=B122_0 cal k  H n:=by
  rw[bQ (fn:=Go.Proofs.Try.f122) (c:=code122) (rs:=vV) (by kernel_rfl) (by kernel_rfl) (by kernel_rfl) (by kernel_rfl)]
  kernel_rfl
 rw[h,VZ]
end Go.Proofs.Ytekajfobmnedjaa.G
