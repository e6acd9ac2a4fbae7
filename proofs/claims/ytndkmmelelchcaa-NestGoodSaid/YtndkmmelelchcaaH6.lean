/- The texts of functions, each with the proof that the evaluator says the same. -/
import Derived.Test.YtndkmmelelchcaaH1
open Go Go.Ev
set_option maxRecDepth 1000000
set_option linter.unusedVariables false
noncomputable section
namespace Go.Proofs.Ytndkmmelelchcaa.G
noncomputable def Ck:Code:=cW 108
noncomputable def kQ:List ResultVar:=eX 108
noncomputable def pW:Code:=asgR (cL (cR (cL (cR (cR Ck)))))
noncomputable def iQ:Code:=bodR (cL (cR (cL (cR (cR Ck)))))
noncomputable def K108_p(cal:Cal)(k:Nat):KR:=(cutK (A 108).c (ay P cal (aw P cal k) none 108 (cR Ck) (Lv.b (A 108)) (av P kQ) X0 (av P kQ)))
noncomputable def K108_pr(cal:Cal)(k:Nat):KR:=(cutK (Lv.b (A 108)).c (ay P cal (aw P cal k) none 108 (cR (cR Ck)) (Lv.b (Lv.b (A 108))) (av P kQ) X0 (av P kQ)))
noncomputable def Bk(cal:Cal)(k:Nat):KR:=(cutK (Lv.b (Lv.b (A 108))).c (ay P cal (aw P cal k) none 108 (cR (cR (cR Ck))) (Lv.b (Lv.b (Lv.b (A 108)))) (av P kQ) X0 (av P kQ)))
noncomputable def NQ(cal:Cal)(k:Nat):XR:=(upX 0 (Bk cal k) X0)
noncomputable def K108_prrr(cal:Cal)(k:Nat):KR:=(cutK (Lv.b (Lv.b (Lv.b (A 108)))).c (ay P cal (aw P cal k) none 108 (cR (cR (cR (cR Ck)))) (Lv.b (Lv.b (Lv.b (Lv.b (A 108))))) (av P kQ) X0 (av P kQ)))
noncomputable def K108_prrl(cal:Cal)(k:Nat):KR:=(cutK (Lv.a (Lv.b (Lv.b (A 108)))).c (ay P cal (aw P cal k) none 108 (cR (cL (cR (cR Ck)))) (Lv.b (Lv.a (Lv.b (Lv.b (A 108))))) (Bk cal k) X0 (av P kQ)))
noncomputable def E108_2(cal:Cal)(k:Nat):KR:=(Bk cal k)
noncomputable def E108_1(cal:Cal)(k:Nat):KR:=ay P cal (aw P cal k) none 108 (cR (cL (cR (cR Ck)))) (Lv.b (Lv.a (Lv.b (Lv.b (A 108))))) (Bk cal k) X0 (av P kQ)
noncomputable def B108_2(cal:Cal)(k:Nat)(u3 u5 u7 u21:Value)(H:Hp)(n:Nat)(D:List Nat):Option (Value × Hp × Nat):=
aq (aW u7) fun a_s=>aq (az P H 59 a_s) fun v_r=>
getK (rV H D) fun H_u=>
some (v_r,H_u,n)
noncomputable def C108_2(cal:Cal)(k:Nat)(u3 u5 u7 u21:Value)(H:Hp)(n:Nat)(D:List Nat):Option (Value × Hp × Nat):=B108_2 cal k u3 u5 u7 u21 H n D
theorem h108_2(cal:Cal)(k:Nat)(u3 u5 u7 u21:Value)(H:Hp)(n:Nat)(D:List Nat):labK (E108_2 cal k) (Tr.set (Tr.set (Tr.set (Tr.set Tr.nil 21 (some u21)) 7 (some u7)) 5 (some u5)) 3 (some u3)) H n D=C108_2 cal k u3 u5 u7 u21 H n D:=by
 refine Eq.trans (b:=B108_2 cal k u3 u5 u7 u21 H n D) (by kernel_rfl) ?_
 rw[C108_2]
noncomputable def B108_1(cal:Cal)(k:Nat)(u3 u5 u7 u21:Value)(H:Hp)(n:Nat)(D:List Nat):Option (Value × Hp × Nat):=
yY P cal none 108 u21 #[22,23] pW iQ (Bk cal k) (NQ cal k) (av P kQ) (Tr.set (Tr.set (Tr.set (Tr.set Tr.nil 21 (some u21)) 7 (some u7)) 5 (some u5)) 3 (some u3)) H n D
noncomputable def C108_1(cal:Cal)(k:Nat)(u3 u5 u7 u21:Value)(H:Hp)(n:Nat)(D:List Nat):Option (Value × Hp × Nat):=B108_1 cal k u3 u5 u7 u21 H n D
theorem h108_1(cal:Cal)(k:Nat)(u3 u5 u7 u21:Value)(H:Hp)(n:Nat)(D:List Nat):labK (E108_1 cal k) (Tr.set (Tr.set (Tr.set (Tr.set Tr.nil 21 (some u21)) 7 (some u7)) 5 (some u5)) 3 (some u3)) H n D=C108_1 cal k u3 u5 u7 u21 H n D:=by
 refine Eq.trans (b:=B108_1 cal k u3 u5 u7 u21 H n D) (by kernel_rfl) ?_
 rw[C108_1]
noncomputable def B108_0(cal:Cal)(k:Nat)(j1:W4 (Value × Hp × Nat))(v0 v1 v2:Value)(H:Hp)(n:Nat)(D:List Nat):Option (Value × Hp × Nat):=
boxK 103 v0 H n fun v_1 H_2 n_3=>
boxK 119 v1 H_2 n_3 fun v_4 H_5 n_6=>
boxK 160 v2 H_5 n_6 fun v_7 H_8 n_9=>
aq (aW v_1) fun a_c=>aq (az P H_8 103 a_c) fun v_b=>
aq (nilV v_b) fun v_d=>
aq (ax P 115 v_d 0) fun v_e=>
aq (ax P 35 v_e 0) fun v_f=>
aq (aW v_f) fun a_h=>aq (az P H_8 31 a_h) fun v_g=>
aq (lenV P 31 v_g) fun v_i=>
stK (qk P 59 v_i v_i (bare H_8 n_9)) fun v_j H_k n_l=>
dj P 59 H_k n_l fun v_m H_n n_o=>
aq (bV P 59 v_m v_j H_n) fun H_q=>
aq (aW v_1) fun a_w=>aq (az P H_q 103 a_w) fun v_v=>
aq (aW v_4) fun a_y=>aq (az P H_q 119 a_y) fun v_x=>
aY P cal 74 [v_v,v_x] H_q n_o fun v_z H_10 n_11=>
j1 v_1 v_7 v_m v_z H_10 n_11 D
noncomputable def Yx(cal:Cal)(k:Nat)(v0 v1 v2:Value)(H:Hp)(n:Nat)(D:List Nat):Option (Value × Hp × Nat):=B108_0 cal k (C108_1 cal k) v0 v1 v2 H n D
theorem h108_0(cal:Cal)(k:Nat)(v0 v1 v2:Value)(H:Hp)(n:Nat)  : aK P cal A (k+1) 108 [v0,v1,v2] H n=Yx cal k v0 v1 v2 H n []:=by
 have h:aK P cal A (k+1) 108 [v0,v1,v2] H n=B108_0 cal k (fun u3 u5 u7 u21 H n D=>labK (E108_1 cal k) (Tr.set (Tr.set (Tr.set (Tr.set Tr.nil 21 (some u21)) 7 (some u7)) 5 (some u5)) 3 (some u3)) H n D) v0 v1 v2 H n []:=by
  rw[bX (fn:=Go.Proofs.Try.f108) (c:=Ck) (rs:=kQ) (by kernel_rfl) (by kernel_rfl) (by kernel_rfl) (by kernel_rfl)]
  kernel_rfl
 rw[h,Yx]
 have e1:(fun u3 u5 u7 u21 H n D=>labK (E108_1 cal k) (Tr.set (Tr.set (Tr.set (Tr.set Tr.nil 21 (some u21)) 7 (some u7)) 5 (some u5)) 3 (some u3)) H n D)=(C108_1 cal k):=by funext u3 u5 u7 u21 H n D; exact h108_1 ..
 rw[e1]
noncomputable def K108a0_p(cal:Cal)(k:Nat)(lp:Nat):KC (Ex × St):=(cutK (Lv.leaf).c (ay P cal (aw P cal k) (some lp) 108 (cR pW) (Lv.b (Lv.leaf)) KNb XNb KRb))
noncomputable def qov(cal:Cal)(k:Nat)(lp:Nat)(v3 v5 v7 v21 v22 v23:Value)(H:Hp)(n:Nat)(D:List Nat):Option (Ex × St):=
dj P 111 H n fun v_13 H_14 n_15=>
aq (bV P 111 v_13 v23 H_14) fun H_17=>
some (.norm,{ T:=(Tr.set (Tr.set (Tr.set (Tr.set (Tr.set (Tr.set (Tr.set (Tr.set Tr.nil 23 (some v23)) 22 (some v22)) 21 (some v21)) 9 (some v_13)) 8 (some v22)) 7 (some v7)) 5 (some v5)) 3 (some v3)),H:=H_17,n:=n_15,D:=D })
noncomputable def qow(cal:Cal)(k:Nat)(lp:Nat)(v3 v5 v7 v21 v22 v23:Value)(H:Hp)(n:Nat)(D:List Nat):Option (Ex × St):=qov cal k lp v3 v5 v7 v21 v22 v23 H n D
theorem h108a0_0(cal:Cal)(k:Nat)(lp:Nat)(v3 v5 v7 v21 v22 v23:Value)(H:Hp)(n:Nat)(D:List Nat):aw P cal (k+1) (Lv.leaf) (some lp) 108 pW KNb XNb KRb (Tr.set (Tr.set (Tr.set (Tr.set (Tr.set (Tr.set Tr.nil 23 (some v23)) 22 (some v22)) 21 (some v21)) 7 (some v7)) 5 (some v5)) 3 (some v3)) H n D=qow cal k lp v3 v5 v7 v21 v22 v23 H n D:=by
 have h:aw P cal (k+1) (Lv.leaf) (some lp) 108 pW KNb XNb KRb (Tr.set (Tr.set (Tr.set (Tr.set (Tr.set (Tr.set Tr.nil 23 (some v23)) 22 (some v22)) 21 (some v21)) 7 (some v7)) 5 (some v5)) 3 (some v3)) H n D=qov cal k lp v3 v5 v7 v21 v22 v23 H n D:=by kernel_rfl
 rw[h,qow]
noncomputable def K108b0_px(cal:Cal)(k:Nat)(lp:Nat):XC (Ex × St):=(upX 1 KNb XNb)
noncomputable def K108b0_pl(cal:Cal)(k:Nat)(lp:Nat):KC (Ex × St):=(cutK (Lv.a (A 131180)).c (ay P cal (aw P cal k) (some lp) 108 (cR (cL iQ)) (Lv.b (Lv.a (A 131180))) KNb (K108b0_px cal k lp) KRb))
noncomputable def tQ(cal:Cal)(k:Nat)(lp:Nat):XC (Ex × St):=(upX 2 KNb (K108b0_px cal k lp))
noncomputable def FX(cal:Cal)(k:Nat)(lp:Nat)(m1:Nat):KC (Ex × St):=(fun T H n D=>aw P cal m1 (Lv.a (Lv.b (Lv.a (A 131180)))) (some lp) 108 (cL (cR (cL iQ))) KNb (tQ cal k lp) KRb (cutT (Lv.a (Lv.b (Lv.a (A 131180)))).c T) H n D)
noncomputable def K108b0_plrll(cal:Cal)(k:Nat)(lp:Nat)(m1:Nat):KC (Ex × St):=(cutK (Lv.a (Lv.a (Lv.b (Lv.a (A 131180))))).c (ay P cal (aw P cal m1) (some lp) 108 (cR (cL (cL (cR (cL iQ))))) (Lv.b (Lv.a (Lv.a (Lv.b (Lv.a (A 131180)))))) (FX cal k lp m1) (tQ cal k lp) KRb))
noncomputable def K108b0_plrllr(cal:Cal)(k:Nat)(lp:Nat)(m1:Nat):KC (Ex × St):=(cutK (Lv.b (Lv.a (Lv.a (Lv.b (Lv.a (A 131180)))))).c (ay P cal (aw P cal m1) (some lp) 108 (cR (cR (cL (cL (cR (cL iQ)))))) (Lv.b (Lv.b (Lv.a (Lv.a (Lv.b (Lv.a (A 131180))))))) (FX cal k lp m1) (tQ cal k lp) KRb))
noncomputable def EJ(cal:Cal)(k:Nat)(lp:Nat)(m1:Nat):KC (Ex × St):=(cutK (Lv.b (Lv.b (Lv.a (Lv.a (Lv.b (Lv.a (A 131180))))))).c (ay P cal (aw P cal m1) (some lp) 108 (cR (cR (cR (cL (cL (cR (cL iQ))))))) (Lv.b (Lv.b (Lv.b (Lv.a (Lv.a (Lv.b (Lv.a (A 131180)))))))) (FX cal k lp m1) (tQ cal k lp) KRb))
noncomputable def K108b0_pxlrllrrl(cal:Cal)(k:Nat)(lp:Nat)(m1:Nat):XC (Ex × St):=(upX 3 (EJ cal k lp m1) (tQ cal k lp))
noncomputable def K108b0_plrllrrll(cal:Cal)(k:Nat)(lp:Nat)(m1:Nat):KC (Ex × St):=(cutK (Lv.a (Lv.a (Lv.b (Lv.b (Lv.a (Lv.a (Lv.b (Lv.a (A 131180))))))))).c (ay P cal (aw P cal m1) (some lp) 108 (cR (cL (cL (cR (cR (cL (cL (cR (cL iQ))))))))) (Lv.b (Lv.a (Lv.a (Lv.b (Lv.b (Lv.a (Lv.a (Lv.b (Lv.a (A 131180)))))))))) (EJ cal k lp m1) (K108b0_pxlrllrrl cal k lp m1) KRb))
noncomputable def K108b0_plrllrrllr(cal:Cal)(k:Nat)(lp:Nat)(m1:Nat):KC (Ex × St):=(cutK (Lv.b (Lv.a (Lv.a (Lv.b (Lv.b (Lv.a (Lv.a (Lv.b (Lv.a (A 131180)))))))))).c (ay P cal (aw P cal m1) (some lp) 108 (cR (cR (cL (cL (cR (cR (cL (cL (cR (cL iQ)))))))))) (Lv.b (Lv.b (Lv.a (Lv.a (Lv.b (Lv.b (Lv.a (Lv.a (Lv.b (Lv.a (A 131180))))))))))) (EJ cal k lp m1) (K108b0_pxlrllrrl cal k lp m1) KRb))
noncomputable def IQ(cal:Cal)(k:Nat)(lp:Nat)(m1:Nat):KC (Ex × St):=ay P cal (aw P cal m1) (some lp) 108 (cL (cL (cR (cL iQ)))) (Lv.a (Lv.a (Lv.b (Lv.a (A 131180))))) (FX cal k lp m1) (tQ cal k lp) KRb
noncomputable def NV(cal:Cal)(k:Nat)(lp:Nat)(m1:Nat):W6 (Ex × St):=fun u5 u7 u8 u9 u29 u30 H n D=>aw P cal m1 (Lv.a (Lv.b (Lv.a (A 131180)))) (some lp) 108 (cL (cR (cL iQ))) KNb (tQ cal k lp) KRb (Tr.set (Tr.set (Tr.set (Tr.set (Tr.set (Tr.set Tr.nil 30 (some u30)) 29 (some u29)) 9 (some u9)) 8 (some u8)) 7 (some u7)) 5 (some u5)) H n D
noncomputable def qpq(cal:Cal)(k:Nat)(lp:Nat)(m1:Nat)(b1:W6 (Ex × St))(u5 u7 u8 u9 u29 u30:Value)(H:Hp)(n:Nat)(D:List Nat):Option (Ex × St):=
binK P .lss 3 (.tmp 30) (.tmp 29) u30 u29 fun v_1h=>
ifK v_1h (
binK P .add 3 (.const (.int .i64 8)) (.tmp 33) (.int .i64 8) u30 fun v_1l=>
binK P .add 3 (.const (.int .i64 0)) (.tmp 35) (.int .i64 0) u8 fun v_1n=>
aq (fw P 162 [(0,v_1l),(1,v_1n)]) fun v_1o=>
dj P 162 H n fun v_1p H_1q n_1r=>
aq (bV P 162 v_1p v_1o H_1q) fun H_1t=>
aq (aW u7) fun a_1u=>aq (az P H_1t 59 a_1u) fun v_1v=>
aq (aW u7) fun a_1x=>aq (az P H_1t 59 a_1x) fun v_1y=>
aq (aV P 59 v_1y u8) fun v_20=>
aq (aW v_20) fun a_21=>aq (az P H_1t 44 a_21) fun v_22=>
aq (ax P 111 u9 1) fun v_24=>
aq (aV P 109 v_24 u30) fun v_25=>
aq (ax P 53 v_25 0) fun v_26=>
aq (aW v_26) fun a_27=>aq (az P H_1t 3 a_27) fun v_28=>
aq (aW u5) fun a_29=>aq (az P H_1t 160 a_29) fun v_2a=>
aq (aW v_1p) fun a_2b=>aq (az P H_1t 162 a_2b) fun v_2c=>
aq (kw P H_1t 160 v_2a v_2c false) fun v_2d=>
binK P .add 3 (.tmp 48) (.tmp 51) v_28 v_2d fun v_2e=>
aq (yz P 44 1 [(0,v_2e)]) fun q_2h=>newK q_2h.1 q_2h.2 H_1t n_1r fun H_2f n_2g=>
effK P [(.l 59 a_1u)] H_2f n_2g (fun H_2i n_2j k_2k=>
stK (kv P (bare H_2i n_2j) 44 44 v_22 (.slice (some ⟨n_1r,0,none⟩) 1 1)) fun v_2o H_2p n_2q=>
k_2k v_2o H_2p n_2q) fun v_2l H_2m n_2n=>
aq (aV P 59 v_1v u8) fun v_2r=>
aq (bV P 44 v_2r v_2l H_2m) fun H_2t=>
binK P .add 3 (.tmp 30) (.const (.int .i64 1)) u30 (.int .i64 1) fun v_2u=>
b1 u5 u7 u8 u9 u29 v_2u H_2t n_2n D) (
some (.norm,{ T:=(Tr.set (Tr.set (Tr.set (Tr.set (Tr.set (Tr.set (Tr.set Tr.nil 31 (some v_1h)) 30 (some u30)) 29 (some u29)) 9 (some u9)) 8 (some u8)) 7 (some u7)) 5 (some u5)),H:=H,n:=n,D:=D }))
noncomputable def IV(cal:Cal)(k:Nat)(lp:Nat)(m1:Nat)(b1:W6 (Ex × St))(u5 u7 u8 u9 u29 u30:Value)(H:Hp)(n:Nat)(D:List Nat):Option (Ex × St):=qpq cal k lp m1 b1 u5 u7 u8 u9 u29 u30 H n D
noncomputable def IW(cal:Cal)(k:Nat)(lp:Nat):Nat→W6 (Ex × St):=fun m=>Nat.rec (motive:=fun _=>W6 (Ex × St)) (IV cal k lp 0 (fun _ _ _ _ _ _ _ _ _=>none)) (fun m ih=>IV cal k lp (m+1) ih) m
theorem h108b0_1(cal:Cal)(k:Nat)(lp:Nat)(m1:Nat)(u5 u7 u8 u9 u29 u30:Value)(H:Hp)(n:Nat)(D:List Nat):labK (IQ cal k lp m1) (Tr.set (Tr.set (Tr.set (Tr.set (Tr.set (Tr.set Tr.nil 30 (some u30)) 29 (some u29)) 9 (some u9)) 8 (some u8)) 7 (some u7)) 5 (some u5)) H n D=IV cal k lp m1 (NV cal k lp m1) u5 u7 u8 u9 u29 u30 H n D:=by
 have h:labK (IQ cal k lp m1) (Tr.set (Tr.set (Tr.set (Tr.set (Tr.set (Tr.set Tr.nil 30 (some u30)) 29 (some u29)) 9 (some u9)) 8 (some u8)) 7 (some u7)) 5 (some u5)) H n D=qpq cal k lp m1 (NV cal k lp m1) u5 u7 u8 u9 u29 u30 H n D:=by kernel_rfl
 rw[h,IV]
theorem q108b0_1(cal:Cal)(k:Nat)(lp:Nat):∀(m:Nat) (u5 u7 u8 u9 u29 u30:Value) (H:Hp) (n:Nat) (D:List Nat),labK (IQ cal k lp m) (Tr.set (Tr.set (Tr.set (Tr.set (Tr.set (Tr.set Tr.nil 30 (some u30)) 29 (some u29)) 9 (some u9)) 8 (some u8)) 7 (some u7)) 5 (some u5)) H n D=IW cal k lp m u5 u7 u8 u9 u29 u30 H n D
 | 0,u5,u7,u8,u9,u29,u30,H,n,D=>by
  rw[h108b0_1]
  have e:NV cal k lp 0=fun _ _ _ _ _ _ _ _ _=>none:=by funext u5 u7 u8 u9 u29 u30 H n D; kernel_rfl
  rw[e]; rfl
 | m+1,u5,u7,u8,u9,u29,u30,H,n,D=>by
  rw[h108b0_1]
  have e:NV cal k lp (m+1)=IW cal k lp m:=by
   funext u5 u7 u8 u9 u29 u30 H n D
   have e:NV cal k lp (m+1) u5 u7 u8 u9 u29 u30 H n D=labK (IQ cal k lp m) (Tr.set (Tr.set (Tr.set (Tr.set (Tr.set (Tr.set Tr.nil 30 (some u30)) 29 (some u29)) 9 (some u9)) 8 (some u8)) 7 (some u7)) 5 (some u5)) H n D:=by kernel_rfl
   rw[e]; exact q108b0_1 ..
  rw[e]; rfl
noncomputable def qpz(cal:Cal)(k:Nat)(lp:Nat)(j1:W6 (Ex × St))(v3 v5 v7 v8 v9 v21 v22 v23:Value)(H:Hp)(n:Nat)(D:List Nat):Option (Ex × St):=
aq (aW v3) fun a_19=>aq (az P H 103 a_19) fun v_18=>
aq (nilV v_18) fun v_1a=>
aq (ax P 115 v_1a 0) fun v_1b=>
aq (ax P 35 v_1b 0) fun v_1c=>
aq (aW v_1c) fun a_1e=>aq (az P H 31 a_1e) fun v_1d=>
aq (lenV P 31 v_1d) fun v_1f=>
j1 v5 v7 v8 v9 v_1f (.int .i64 0) H n D
noncomputable def qpx(cal:Cal)(k:Nat)(lp:Nat)(v3 v5 v7 v8 v9 v21 v22 v23:Value)(H:Hp)(n:Nat)(D:List Nat):Option (Ex × St):=qpz cal k lp (IW cal k lp k) v3 v5 v7 v8 v9 v21 v22 v23 H n D
theorem h108b0_0(cal:Cal)(k:Nat)(lp:Nat)(v3 v5 v7 v8 v9 v21 v22 v23:Value)(H:Hp)(n:Nat)(D:List Nat):aw P cal (k+1) (A 131180) (some lp) 108 iQ KNb XNb KRb (Tr.set (Tr.set (Tr.set (Tr.set (Tr.set (Tr.set (Tr.set (Tr.set Tr.nil 23 (some v23)) 22 (some v22)) 21 (some v21)) 9 (some v9)) 8 (some v8)) 7 (some v7)) 5 (some v5)) 3 (some v3)) H n D=qpx cal k lp v3 v5 v7 v8 v9 v21 v22 v23 H n D:=by
 have h:aw P cal (k+1) (A 131180) (some lp) 108 iQ KNb XNb KRb (Tr.set (Tr.set (Tr.set (Tr.set (Tr.set (Tr.set (Tr.set (Tr.set Tr.nil 23 (some v23)) 22 (some v22)) 21 (some v21)) 9 (some v9)) 8 (some v8)) 7 (some v7)) 5 (some v5)) 3 (some v3)) H n D=qpz cal k lp (fun u5 u7 u8 u9 u29 u30 H n D=>labK (IQ cal k lp k) (Tr.set (Tr.set (Tr.set (Tr.set (Tr.set (Tr.set Tr.nil 30 (some u30)) 29 (some u29)) 9 (some u9)) 8 (some u8)) 7 (some u7)) 5 (some u5)) H n D) v3 v5 v7 v8 v9 v21 v22 v23 H n D:=by kernel_rfl
 rw[h,qpx]
 have e1:(fun u5 u7 u8 u9 u29 u30 H n D=>labK (IQ cal k lp k) (Tr.set (Tr.set (Tr.set (Tr.set (Tr.set (Tr.set Tr.nil 30 (some u30)) 29 (some u29)) 9 (some u9)) 8 (some u8)) 7 (some u7)) 5 (some u5)) H n D)=(IW cal k lp k):=by funext u5 u7 u8 u9 u29 u30 H n D; exact q108b0_1 ..
 rw[e1]
noncomputable def mV:Code:=cW 109
noncomputable def dK:List ResultVar:=eX 109
noncomputable def K109_p(cal:Cal)(k:Nat):KR:=(cutK (A 109).c (ay P cal (aw P cal k) none 109 (cR mV) (Lv.b (A 109)) (av P dK) X0 (av P dK)))
noncomputable def K109_pr(cal:Cal)(k:Nat):KR:=(cutK (Lv.b (A 109)).c (ay P cal (aw P cal k) none 109 (cR (cR mV)) (Lv.b (Lv.b (A 109))) (av P dK) X0 (av P dK)))
noncomputable def K109_prl(cal:Cal)(k:Nat):KR:=(cutK (Lv.a (Lv.b (A 109))).c (ay P cal (aw P cal k) none 109 (cR (cL (cR mV))) (Lv.b (Lv.a (Lv.b (A 109)))) (K109_pr cal k) X0 (av P dK)))
noncomputable def K109_prlrl(cal:Cal)(k:Nat):KR:=(cutK (Lv.a (Lv.b (Lv.a (Lv.b (A 109))))).c (ay P cal (aw P cal k) none 109 (cR (cL (cR (cL (cR mV))))) (Lv.b (Lv.a (Lv.b (Lv.a (Lv.b (A 109)))))) (K109_pr cal k) X0 (av P dK)))
noncomputable def K109_prr(cal:Cal)(k:Nat):KR:=(cutK (Lv.b (Lv.b (A 109))).c (ay P cal (aw P cal k) none 109 (cR (cR (cR mV))) (Lv.b (Lv.b (Lv.b (A 109)))) (av P dK) X0 (av P dK)))
noncomputable def Qv(cal:Cal)(k:Nat):KR:=(cutK (Lv.b (Lv.b (Lv.b (A 109)))).c (ay P cal (aw P cal k) none 109 (cR (cR (cR (cR mV)))) (Lv.b (Lv.b (Lv.b (Lv.b (A 109))))) (av P dK) X0 (av P dK)))
noncomputable def K109_prrrl(cal:Cal)(k:Nat):KR:=(cutK (Lv.a (Lv.b (Lv.b (Lv.b (A 109))))).c (ay P cal (aw P cal k) none 109 (cR (cL (cR (cR (cR mV))))) (Lv.b (Lv.a (Lv.b (Lv.b (Lv.b (A 109)))))) (Qv cal k) X0 (av P dK)))
noncomputable def qY(cal:Cal)(k:Nat):XR:=(upX 0 (Qv cal k) X0)
noncomputable def CJ(cal:Cal)(k:Nat)(m1:Nat):KR:=(fun T H n D=>aw P cal m1 (Lv.a (Lv.b (Lv.a (Lv.b (Lv.b (Lv.b (A 109))))))) none 109 (cL (cR (cL (cR (cR (cR mV)))))) (Qv cal k) (qY cal k) (av P dK) (cutT (Lv.a (Lv.b (Lv.a (Lv.b (Lv.b (Lv.b (A 109))))))).c T) H n D)
noncomputable def K109_prrrlrll(cal:Cal)(k:Nat)(m1:Nat):KR:=(cutK (Lv.a (Lv.a (Lv.b (Lv.a (Lv.b (Lv.b (Lv.b (A 109)))))))).c (ay P cal (aw P cal m1) none 109 (cR (cL (cL (cR (cL (cR (cR (cR mV)))))))) (Lv.b (Lv.a (Lv.a (Lv.b (Lv.a (Lv.b (Lv.b (Lv.b (A 109))))))))) (CJ cal k m1) (qY cal k) (av P dK)))
noncomputable def K109_prrrlrllr(cal:Cal)(k:Nat)(m1:Nat):KR:=(cutK (Lv.b (Lv.a (Lv.a (Lv.b (Lv.a (Lv.b (Lv.b (Lv.b (A 109))))))))).c (ay P cal (aw P cal m1) none 109 (cR (cR (cL (cL (cR (cL (cR (cR (cR mV))))))))) (Lv.b (Lv.b (Lv.a (Lv.a (Lv.b (Lv.a (Lv.b (Lv.b (Lv.b (A 109)))))))))) (CJ cal k m1) (qY cal k) (av P dK)))
noncomputable def BW(cal:Cal)(k:Nat)(m1:Nat):KR:=(cutK (Lv.b (Lv.b (Lv.a (Lv.a (Lv.b (Lv.a (Lv.b (Lv.b (Lv.b (A 109)))))))))).c (ay P cal (aw P cal m1) none 109 (cR (cR (cR (cL (cL (cR (cL (cR (cR (cR mV)))))))))) (Lv.b (Lv.b (Lv.b (Lv.a (Lv.a (Lv.b (Lv.a (Lv.b (Lv.b (Lv.b (A 109))))))))))) (CJ cal k m1) (qY cal k) (av P dK)))
noncomputable def sw(cal:Cal)(k:Nat)(m1:Nat):XR:=(upX 1 (BW cal k m1) (qY cal k))
noncomputable def K109_prrrlrllrrll(cal:Cal)(k:Nat)(m1:Nat):KR:=(cutK (Lv.a (Lv.a (Lv.b (Lv.b (Lv.a (Lv.a (Lv.b (Lv.a (Lv.b (Lv.b (Lv.b (A 109)))))))))))).c (ay P cal (aw P cal m1) none 109 (cR (cL (cL (cR (cR (cL (cL (cR (cL (cR (cR (cR mV)))))))))))) (Lv.b (Lv.a (Lv.a (Lv.b (Lv.b (Lv.a (Lv.a (Lv.b (Lv.a (Lv.b (Lv.b (Lv.b (A 109))))))))))))) (BW cal k m1) (sw cal k m1) (av P dK)))
noncomputable def K109_prrrlrllrrllr(cal:Cal)(k:Nat)(m1:Nat):KR:=(cutK (Lv.b (Lv.a (Lv.a (Lv.b (Lv.b (Lv.a (Lv.a (Lv.b (Lv.a (Lv.b (Lv.b (Lv.b (A 109))))))))))))).c (ay P cal (aw P cal m1) none 109 (cR (cR (cL (cL (cR (cR (cL (cL (cR (cL (cR (cR (cR mV))))))))))))) (Lv.b (Lv.b (Lv.a (Lv.a (Lv.b (Lv.b (Lv.a (Lv.a (Lv.b (Lv.a (Lv.b (Lv.b (Lv.b (A 109)))))))))))))) (BW cal k m1) (sw cal k m1) (av P dK)))
noncomputable def K109_prrrlrllrrllrl(cal:Cal)(k:Nat)(m1:Nat):KR:=(cutK (Lv.a (Lv.b (Lv.a (Lv.a (Lv.b (Lv.b (Lv.a (Lv.a (Lv.b (Lv.a (Lv.b (Lv.b (Lv.b (A 109)))))))))))))).c (ay P cal (aw P cal m1) none 109 (cR (cL (cR (cL (cL (cR (cR (cL (cL (cR (cL (cR (cR (cR mV)))))))))))))) (Lv.b (Lv.a (Lv.b (Lv.a (Lv.a (Lv.b (Lv.b (Lv.a (Lv.a (Lv.b (Lv.a (Lv.b (Lv.b (Lv.b (A 109))))))))))))))) (K109_prrrlrllrrllr cal k m1) (sw cal k m1) (av P dK)))
noncomputable def K109_prrrlrllrrllrlrl(cal:Cal)(k:Nat)(m1:Nat):KR:=(cutK (Lv.a (Lv.b (Lv.a (Lv.b (Lv.a (Lv.a (Lv.b (Lv.b (Lv.a (Lv.a (Lv.b (Lv.a (Lv.b (Lv.b (Lv.b (A 109)))))))))))))))).c (ay P cal (aw P cal m1) none 109 (cR (cL (cR (cL (cR (cL (cL (cR (cR (cL (cL (cR (cL (cR (cR (cR mV)))))))))))))))) (Lv.b (Lv.a (Lv.b (Lv.a (Lv.b (Lv.a (Lv.a (Lv.b (Lv.b (Lv.a (Lv.a (Lv.b (Lv.a (Lv.b (Lv.b (Lv.b (A 109))))))))))))))))) (K109_prrrlrllrrllr cal k m1) (sw cal k m1) (av P dK)))
noncomputable def K109_prrrr(cal:Cal)(k:Nat):KR:=(cutK (Lv.b (Lv.b (Lv.b (Lv.b (A 109))))).c (ay P cal (aw P cal k) none 109 (cR (cR (cR (cR (cR mV))))) (Lv.b (Lv.b (Lv.b (Lv.b (Lv.b (A 109)))))) (av P dK) X0 (av P dK)))
noncomputable def E109_1(cal:Cal)(k m1:Nat):KR:=ay P cal (aw P cal m1) none 109 (cL (cL (cR (cL (cR (cR (cR mV))))))) (Lv.a (Lv.a (Lv.b (Lv.a (Lv.b (Lv.b (Lv.b (A 109)))))))) (CJ cal k m1) (qY cal k) (av P dK)
noncomputable def R109_1(cal:Cal)(k m1:Nat):V5:=fun u3 u7 u16 u17 u18 H n=>aw P cal m1 (Lv.a (Lv.b (Lv.a (Lv.b (Lv.b (Lv.b (A 109))))))) none 109 (cL (cR (cL (cR (cR (cR mV)))))) (Qv cal k) (qY cal k) (av P dK) (Tr.set (Tr.set (Tr.set (Tr.set (Tr.set Tr.nil 18 (some u18)) 17 (some u17)) 16 (some u16)) 7 (some u7)) 3 (some u3)) H n []
noncomputable def B109_1(cal:Cal)(k m1:Nat)(b1:V5)(u3 u7 u16 u17 u18:Value)(H:Hp)(n:Nat):Res:=
binK P .lss 3 (.tmp 18) (.tmp 17) u18 u17 fun v_h=>
ifK v_h (
aq (aV P 44 u16 u18) fun v_j=>
aq (aW v_j) fun a_l=>aq (az P H 3 a_l) fun v_k=>
aq (ax P 111 u3 1) fun v_p=>
aq (aV P 109 v_p u18) fun v_q=>
aq (aW v_q) fun a_s=>aq (az P H 53 a_s) fun v_r=>
aY P cal 99 [v_r,v_k] H n fun v_u H_v n_w=>
aq (fY P v_u (Op.unary UnOp.not v_u)) fun v_x=>
ifK v_x (
some ((.bool false),H_v,n_w)) (
binK P .sub 3 (.tmp 30) (.tmp 31) u7 v_k fun v_11=>
binK P .add 3 (.tmp 18) (.const (.int .i64 1)) u18 (.int .i64 1) fun v_13=>
b1 u3 v_11 u16 u17 v_13 H_v n_w)) (
binK P .eql 3 (.tmp 34) (.const (.int .i64 0)) u7 (.int .i64 0) fun v_16=>
some (v_16,H,n))
noncomputable def Yy(cal:Cal)(k m1:Nat)(b1:V5)(u3 u7 u16 u17 u18:Value)(H:Hp)(n:Nat):Res:=B109_1 cal k m1 b1 u3 u7 u16 u17 u18 H n
noncomputable def S109_1(cal:Cal)(k:Nat):Nat→V5:=fun m=>Nat.rec (motive:=fun _=>V5) (Yy cal k 0 (fun _ _ _ _ _ _ _=>none)) (fun m ih=>Yy cal k (m+1) ih) m
theorem h109_1(cal:Cal)(k m1:Nat)(u3 u7 u16 u17 u18:Value)(H:Hp)(n:Nat):labK (E109_1 cal k m1) (Tr.set (Tr.set (Tr.set (Tr.set (Tr.set Tr.nil 18 (some u18)) 17 (some u17)) 16 (some u16)) 7 (some u7)) 3 (some u3)) H n []=Yy cal k m1 (R109_1 cal k m1) u3 u7 u16 u17 u18 H n:=by
 refine Eq.trans (b:=B109_1 cal k m1 (R109_1 cal k m1) u3 u7 u16 u17 u18 H n) (by kernel_rfl) ?_
 rw[Yy]
theorem q109_1(cal:Cal)(k:Nat):∀(m:Nat) (u3 u7 u16 u17 u18:Value) (H:Hp) (n:Nat),labK (E109_1 cal k m) (Tr.set (Tr.set (Tr.set (Tr.set (Tr.set Tr.nil 18 (some u18)) 17 (some u17)) 16 (some u16)) 7 (some u7)) 3 (some u3)) H n []=S109_1 cal k m u3 u7 u16 u17 u18 H n
 | 0,u3,u7,u16,u17,u18,H,n=>by
  rw[h109_1]
  have e:R109_1 cal k 0=fun _ _ _ _ _ _ _=>none:=by funext u3 u7 u16 u17 u18 H n; kernel_rfl
  rw[e]; rfl
 | m+1,u3,u7,u16,u17,u18,H,n=>by
  rw[h109_1]
  have e:R109_1 cal k (m+1)=S109_1 cal k m:=by
   funext u3 u7 u16 u17 u18 H n
   have e:R109_1 cal k (m+1) u3 u7 u16 u17 u18 H n=labK (E109_1 cal k m) (Tr.set (Tr.set (Tr.set (Tr.set (Tr.set Tr.nil 18 (some u18)) 17 (some u17)) 16 (some u16)) 7 (some u7)) 3 (some u3)) H n []:=by kernel_rfl
   rw[e]; exact q109_1 ..
  rw[e]; rfl
noncomputable def B109_0(cal:Cal)(k:Nat)(j1:V5)(v0 v1 v2:Value)(H:Hp)(n:Nat):Res:=
boxK 111 v0 H n fun v_1 H_2 n_3=>
aq (lenV P 44 v1) fun v_6=>
binK P .neq 3 (.tmp 11) (.tmp 12) v_6 v2 fun v_8=>
ifK v_8 (
some ((.bool false),H_2,n_3)) (
aq (ax P 111 v_1 0) fun v_a=>
aq (aW v_a) fun a_c=>aq (az P H_2 3 a_c) fun v_b=>
aq (lenV P 44 v1) fun v_f=>
j1 v_1 v_b v1 v_f (.int .i64 0) H_2 n_3)
noncomputable def Yz(cal:Cal)(k:Nat)(v0 v1 v2:Value)(H:Hp)(n:Nat):Res:=B109_0 cal k (S109_1 cal k k) v0 v1 v2 H n
theorem h109_0(cal:Cal)(k:Nat)(v0 v1 v2:Value)(H:Hp)(n:Nat):aK P cal A (k+1) 109 [v0,v1,v2] H n=Yz cal k v0 v1 v2 H n:=by
 have h:aK P cal A (k+1) 109 [v0,v1,v2] H n=B109_0 cal k (fun u3 u7 u16 u17 u18 H n=>labK (E109_1 cal k k) (Tr.set (Tr.set (Tr.set (Tr.set (Tr.set Tr.nil 18 (some u18)) 17 (some u17)) 16 (some u16)) 7 (some u7)) 3 (some u3)) H n []) v0 v1 v2 H n:=by
  rw[bX (fn:=Go.Proofs.Try.f109) (c:=mV) (rs:=dK) (by kernel_rfl) (by kernel_rfl) (by kernel_rfl) (by kernel_rfl)]
  kernel_rfl
 rw[h,Yz]
 have e1:(fun u3 u7 u16 u17 u18 H n=>labK (E109_1 cal k k) (Tr.set (Tr.set (Tr.set (Tr.set (Tr.set Tr.nil 18 (some u18)) 17 (some u17)) 16 (some u16)) 7 (some u7)) 3 (some u3)) H n [])=(S109_1 cal k k):=by funext u3 u7 u16 u17 u18 H n; exact q109_1 ..
 rw[e1]
noncomputable def code113:Code:=cW 113
noncomputable def EQ:List ResultVar:=eX 113
noncomputable def K113_p(cal:Cal)(k:Nat):KR:=(cutK (A 113).c (ay P cal (aw P cal k) none 113 (cR code113) (Lv.b (A 113)) (av P EQ) X0 (av P EQ)))
noncomputable def K113_pr(cal:Cal)(k:Nat):KR:=(cutK (Lv.b (A 113)).c (ay P cal (aw P cal k) none 113 (cR (cR code113)) (Lv.b (Lv.b (A 113))) (av P EQ) X0 (av P EQ)))
noncomputable def B113_0(cal:Cal)(k:Nat)(v0 v1:Value)(H:Hp)(n:Nat):Res:=
boxK 103 v0 H n fun v_1 H_2 n_3=>
boxK 3 v1 H_2 n_3 fun v_4 H_5 n_6=>
some ((Value.func (Fn.func 119) ⟨[]⟩ ⟨[v_4,v_1]⟩),H_5,n_6)
noncomputable def C113_0(cal:Cal)(k:Nat)(v0 v1:Value)(H:Hp)(n:Nat):Res:=B113_0 cal k v0 v1 H n
theorem h113_0(cal:Cal)(k:Nat)(v0 v1:Value)(H:Hp)(n:Nat):aK P cal A (k+1) 113 [v0,v1] H n=C113_0 cal k v0 v1 H n:=by
 have h:aK P cal A (k+1) 113 [v0,v1] H n=B113_0 cal k v0 v1 H n:=by
  rw[bX (fn:=Go.Proofs.Try.f113) (c:=code113) (rs:=EQ) (by kernel_rfl) (by kernel_rfl) (by kernel_rfl) (by kernel_rfl)]
  kernel_rfl
 rw[h,C113_0]
noncomputable def code114:Code:=cW 114
noncomputable def EV:List ResultVar:=eX 114
noncomputable def K114_p(cal:Cal)(k:Nat):KR:=(cutK (A 114).c (ay P cal (aw P cal k) none 114 (cR code114) (Lv.b (A 114)) (av P EV) X0 (av P EV)))
noncomputable def K114_pr(cal:Cal)(k:Nat):KR:=(cutK (Lv.b (A 114)).c (ay P cal (aw P cal k) none 114 (cR (cR code114)) (Lv.b (Lv.b (A 114))) (av P EV) X0 (av P EV)))
noncomputable def B114_0(cal:Cal)(k:Nat)(v0:Value)(H:Hp)(n:Nat):Res:=
boxK 53 v0 H n fun v_1 H_2 n_3=>
aq (ax P 53 v_1 0) fun v_5=>
aq (aW v_5) fun a_7=>aq (az P H_2 3 a_7) fun v_6=>
binK P .geq 3 (.tmp 4) (.const (.int .i64 0)) v_6 (.int .i64 0) fun v_8=>
aX v_8 true (fun k_a=>
aq (ax P 53 v_1 0) fun v_e=>
k_a v_e H_2 n_3) H_2 n_3 fun v_b H_c n_d=>
aX v_8 true (fun k_f=>
aq (aW v_b) fun a_k=>aq (az P H_c 3 a_k) fun v_j=>
k_f v_j H_c n_d) H_c n_d fun v_g H_h n_i=>
aX v_8 true (fun k_l=>
aq (ax P 53 v_1 1) fun v_p=>
k_l v_p H_h n_i) H_h n_i fun v_m H_n n_o=>
aX v_8 true (fun k_q=>
aq (aW v_m) fun a_v=>aq (az P H_n 3 a_v) fun v_u=>
k_q v_u H_n n_o) H_n n_o fun v_r H_s n_t=>
aX v_8 true (fun k_w=>
binK P .leq 3 (.tmp 8) (.tmp 10) v_g v_r fun v_10=>
k_w v_10 H_s n_t) H_s n_t fun v_x H_y n_z=>
aq (fJ v_8 v_x (.bool false)) fun v_11=>
aX v_11 true (fun k_13=>
aq (ax P 53 v_1 1) fun v_17=>
k_13 v_17 H_y n_z) H_y n_z fun v_14 H_15 n_16=>
aX v_11 true (fun k_18=>
aq (aW v_14) fun a_1d=>aq (az P H_15 3 a_1d) fun v_1c=>
k_18 v_1c H_15 n_16) H_15 n_16 fun v_19 H_1a n_1b=>
aX v_11 true (fun k_1e=>
binK P .leq 3 (.tmp 15) (.const (.int .i64 1000)) v_19 (.int .i64 1000) fun v_1i=>
k_1e v_1i H_1a n_1b) H_1a n_1b fun v_1f H_1g n_1h=>
aq (fJ v_11 v_1f (.bool false)) fun v_1j=>
some (v_1j,H_1g,n_1h)
noncomputable def Yk(cal:Cal)(k:Nat)(v0:Value)(H:Hp)(n:Nat):Res:=B114_0 cal k v0 H n
theorem h114_0(cal:Cal)(k:Nat)(v0:Value)(H:Hp)(n:Nat):aK P cal A (k+1) 114 [v0] H n=Yk cal k v0 H n:=by
 have h:aK P cal A (k+1) 114 [v0] H n=B114_0 cal k v0 H n:=by
  rw[bX (fn:=Go.Proofs.Try.f114) (c:=code114) (rs:=EV) (by kernel_rfl) (by kernel_rfl) (by kernel_rfl) (by kernel_rfl)]
  kernel_rfl
 rw[h,Yk]
noncomputable def tK:Code:=cW 115
noncomputable def fW:List ResultVar:=eX 115
noncomputable def K115_p(cal:Cal)(k:Nat):KR:=(cutK (A 115).c (ay P cal (aw P cal k) none 115 (cR tK) (Lv.b (A 115)) (av P fW) X0 (av P fW)))
noncomputable def K115_pr(cal:Cal)(k:Nat):KR:=(cutK (Lv.b (A 115)).c (ay P cal (aw P cal k) none 115 (cR (cR tK)) (Lv.b (Lv.b (A 115))) (av P fW) X0 (av P fW)))
noncomputable def Vv(cal:Cal)(k:Nat):KR:=(cutK (Lv.b (Lv.b (A 115))).c (ay P cal (aw P cal k) none 115 (cR (cR (cR tK))) (Lv.b (Lv.b (Lv.b (A 115)))) (av P fW) X0 (av P fW)))
noncomputable def K115_prrl(cal:Cal)(k:Nat):KR:=(cutK (Lv.a (Lv.b (Lv.b (A 115)))).c (ay P cal (aw P cal k) none 115 (cR (cL (cR (cR tK)))) (Lv.b (Lv.a (Lv.b (Lv.b (A 115))))) (Vv cal k) X0 (av P fW)))
noncomputable def tV(cal:Cal)(k:Nat):XR:=(upX 0 (Vv cal k) X0)
noncomputable def FY(cal:Cal)(k:Nat)(m1:Nat):KR:=(fun T H n D=>aw P cal m1 (Lv.a (Lv.b (Lv.a (Lv.b (Lv.b (A 115)))))) none 115 (cL (cR (cL (cR (cR tK))))) (Vv cal k) (tV cal k) (av P fW) (cutT (Lv.a (Lv.b (Lv.a (Lv.b (Lv.b (A 115)))))).c T) H n D)
noncomputable def K115_prrlrll(cal:Cal)(k:Nat)(m1:Nat):KR:=(cutK (Lv.a (Lv.a (Lv.b (Lv.a (Lv.b (Lv.b (A 115))))))).c (ay P cal (aw P cal m1) none 115 (cR (cL (cL (cR (cL (cR (cR tK))))))) (Lv.b (Lv.a (Lv.a (Lv.b (Lv.a (Lv.b (Lv.b (A 115)))))))) (FY cal k m1) (tV cal k) (av P fW)))
noncomputable def K115_prrlrllr(cal:Cal)(k:Nat)(m1:Nat):KR:=(cutK (Lv.b (Lv.a (Lv.a (Lv.b (Lv.a (Lv.b (Lv.b (A 115)))))))).c (ay P cal (aw P cal m1) none 115 (cR (cR (cL (cL (cR (cL (cR (cR tK)))))))) (Lv.b (Lv.b (Lv.a (Lv.a (Lv.b (Lv.a (Lv.b (Lv.b (A 115))))))))) (FY cal k m1) (tV cal k) (av P fW)))
noncomputable def K115_prrlrllrr(cal:Cal)(k:Nat)(m1:Nat):KR:=(cutK (Lv.b (Lv.b (Lv.a (Lv.a (Lv.b (Lv.a (Lv.b (Lv.b (A 115))))))))).c (ay P cal (aw P cal m1) none 115 (cR (cR (cR (cL (cL (cR (cL (cR (cR tK))))))))) (Lv.b (Lv.b (Lv.b (Lv.a (Lv.a (Lv.b (Lv.a (Lv.b (Lv.b (A 115)))))))))) (FY cal k m1) (tV cal k) (av P fW)))
noncomputable def K115_pxrrlrllrrl(cal:Cal)(k:Nat)(m1:Nat):XR:=(upX 1 (K115_prrlrllrr cal k m1) (tV cal k))
noncomputable def K115_prrlrllrrll(cal:Cal)(k:Nat)(m1:Nat):KR:=(cutK (Lv.a (Lv.a (Lv.b (Lv.b (Lv.a (Lv.a (Lv.b (Lv.a (Lv.b (Lv.b (A 115))))))))))).c (ay P cal (aw P cal m1) none 115 (cR (cL (cL (cR (cR (cL (cL (cR (cL (cR (cR tK))))))))))) (Lv.b (Lv.a (Lv.a (Lv.b (Lv.b (Lv.a (Lv.a (Lv.b (Lv.a (Lv.b (Lv.b (A 115)))))))))))) (K115_prrlrllrr cal k m1) (K115_pxrrlrllrrl cal k m1) (av P fW)))
noncomputable def K115_prrr(cal:Cal)(k:Nat):KR:=(cutK (Lv.b (Lv.b (Lv.b (A 115)))).c (ay P cal (aw P cal k) none 115 (cR (cR (cR (cR tK)))) (Lv.b (Lv.b (Lv.b (Lv.b (A 115))))) (av P fW) X0 (av P fW)))
noncomputable def E115_1(cal:Cal)(k m1:Nat):KR:=ay P cal (aw P cal m1) none 115 (cL (cL (cR (cL (cR (cR tK)))))) (Lv.a (Lv.a (Lv.b (Lv.a (Lv.b (Lv.b (A 115))))))) (FY cal k m1) (tV cal k) (av P fW)
noncomputable def R115_1(cal:Cal)(k m1:Nat):V3:=fun u4 u5 u10 H n=>aw P cal m1 (Lv.a (Lv.b (Lv.a (Lv.b (Lv.b (A 115)))))) none 115 (cL (cR (cL (cR (cR tK))))) (Vv cal k) (tV cal k) (av P fW) (Tr.set (Tr.set (Tr.set Tr.nil 10 (some u10)) 5 (some u5)) 4 (some u4)) H n []
noncomputable def B115_1(cal:Cal)(k m1:Nat)(b1:V3)(u4 u5 u10:Value)(H:Hp)(n:Nat):Res:=
binK P .lss 3 (.tmp 10) (.const (.int .i64 8)) u10 (.int .i64 8) fun v_h=>
ifK v_h (
aq (aW u5) fun a_l=>aq (az P H 111 a_l) fun v_m=>
aq (aW u5) fun a_o=>aq (az P H 111 a_o) fun v_p=>
aq (ax P 111 u5 2) fun v_r=>
effK P [(.l 111 a_o),(.l 111 a_l)] H n (fun H_s n_t k_u=>
aY P cal 121 [] H_s n_t fun v_y H_z n_10=>
k_u v_y H_z n_10) fun v_v H_w n_x=>
effK P [(.l 111 a_o)] H_w n_x (fun H_11 n_12 k_13=>
aY P cal 120 [v_m,u10,v_v] H_11 n_12 fun v_17 H_18 n_19=>
k_13 v_17 H_18 n_19) fun v_14 H_15 n_16=>
effK P [(.l 111 a_o)] H_15 n_16 (fun H_1a n_1b k_1c=>
aY P cal 122 [] H_1a n_1b fun v_1g H_1h n_1i=>
k_1c v_1g H_1h n_1i) fun v_1d H_1e n_1f=>
aY P cal 120 [v_p,u10,v_1d] H_1e n_1f fun v_1j H_1k n_1l=>
aq (fw P 53 [(0,v_14),(1,v_1j)]) fun v_1m=>
aq (aV P 109 v_r u10) fun v_1n=>
aq (bV P 53 v_1n v_1m H_1k) fun H_1p=>
binK P .add 3 (.tmp 10) (.const (.int .i64 1)) u10 (.int .i64 1) fun v_1q=>
b1 u4 u5 v_1q H_1p n_1l) (
aq (aW u5) fun a_1t=>aq (az P H 111 a_1t) fun v_1s=>
aq (bV P 111 u4 v_1s H) fun H_1v=>
aq (resV P (Tr.set Tr.nil 4 (some u4)) H_1v fW) fun v_1w=>some (oneV v_1w,H_1v,n))
noncomputable def YJ(cal:Cal)(k m1:Nat)(b1:V3)(u4 u5 u10:Value)(H:Hp)(n:Nat):Res:=B115_1 cal k m1 b1 u4 u5 u10 H n
noncomputable def S115_1(cal:Cal)(k:Nat):Nat→V3:=fun m=>Nat.rec (motive:=fun _=>V3) (YJ cal k 0 (fun _ _ _ _ _=>none)) (fun m ih=>YJ cal k (m+1) ih) m
theorem h115_1(cal:Cal)(k m1:Nat)(u4 u5 u10:Value)(H:Hp)(n:Nat):labK (E115_1 cal k m1) (Tr.set (Tr.set (Tr.set Tr.nil 10 (some u10)) 5 (some u5)) 4 (some u4)) H n []=YJ cal k m1 (R115_1 cal k m1) u4 u5 u10 H n:=by
 refine Eq.trans (b:=B115_1 cal k m1 (R115_1 cal k m1) u4 u5 u10 H n) (by kernel_rfl) ?_
 rw[YJ]
theorem q115_1(cal:Cal)(k:Nat):∀(m:Nat) (u4 u5 u10:Value) (H:Hp) (n:Nat),labK (E115_1 cal k m) (Tr.set (Tr.set (Tr.set Tr.nil 10 (some u10)) 5 (some u5)) 4 (some u4)) H n []=S115_1 cal k m u4 u5 u10 H n
 | 0,u4,u5,u10,H,n=>by
  rw[h115_1]
  have e:R115_1 cal k 0=fun _ _ _ _ _=>none:=by funext u4 u5 u10 H n; kernel_rfl
  rw[e]; rfl
 | m+1,u4,u5,u10,H,n=>by
  rw[h115_1]
  have e:R115_1 cal k (m+1)=S115_1 cal k m:=by
   funext u4 u5 u10 H n
   have e:R115_1 cal k (m+1) u4 u5 u10 H n=labK (E115_1 cal k m) (Tr.set (Tr.set (Tr.set Tr.nil 10 (some u10)) 5 (some u5)) 4 (some u4)) H n []:=by kernel_rfl
   rw[e]; exact q115_1 ..
  rw[e]; rfl
noncomputable def B115_0(cal:Cal)(k:Nat)(j1:V3)(v0 v1:Value)(H:Hp)(n:Nat):Res:=
boxK 109 v1 H n fun v_1 H_2 n_3=>
dj P 111 H_2 n_3 fun v_4 H_5 n_6=>
aq (aW v_1) fun a_9=>aq (az P H_5 109 a_9) fun v_8=>
aq (fw P 111 [(0,v0),(1,v_8)]) fun v_a=>
dj P 111 H_5 n_6 fun v_b H_c n_d=>
aq (bV P 111 v_b v_a H_c) fun H_f=>
j1 v_4 v_b (.int .i64 0) H_f n_d
noncomputable def YQ(cal:Cal)(k:Nat)(v0 v1:Value)(H:Hp)(n:Nat):Res:=B115_0 cal k (S115_1 cal k k) v0 v1 H n
theorem h115_0(cal:Cal)(k:Nat)(v0 v1:Value)(H:Hp)(n:Nat):aK P cal A (k+1) 115 [v0,v1] H n=YQ cal k v0 v1 H n:=by
 have h:aK P cal A (k+1) 115 [v0,v1] H n=B115_0 cal k (fun u4 u5 u10 H n=>labK (E115_1 cal k k) (Tr.set (Tr.set (Tr.set Tr.nil 10 (some u10)) 5 (some u5)) 4 (some u4)) H n []) v0 v1 H n:=by
  rw[bX (fn:=Go.Proofs.Try.f115) (c:=tK) (rs:=fW) (by kernel_rfl) (by kernel_rfl) (by kernel_rfl) (by kernel_rfl)]
  kernel_rfl
 rw[h,YQ]
 have e1:(fun u4 u5 u10 H n=>labK (E115_1 cal k k) (Tr.set (Tr.set (Tr.set Tr.nil 10 (some u10)) 5 (some u5)) 4 (some u4)) H n [])=(S115_1 cal k k):=by funext u4 u5 u10 H n; exact q115_1 ..
 rw[e1]
noncomputable def Qw:Code:=cW 116
noncomputable def nY:List ResultVar:=eX 116
noncomputable def K116_p(cal:Cal)(k:Nat):KR:=(cutK (A 116).c (ay P cal (aw P cal k) none 116 (cR Qw) (Lv.b (A 116)) (av P nY) X0 (av P nY)))
noncomputable def K116_pr(cal:Cal)(k:Nat):KR:=(cutK (Lv.b (A 116)).c (ay P cal (aw P cal k) none 116 (cR (cR Qw)) (Lv.b (Lv.b (A 116))) (av P nY) X0 (av P nY)))
noncomputable def K116_prr(cal:Cal)(k:Nat):KR:=(cutK (Lv.b (Lv.b (A 116))).c (ay P cal (aw P cal k) none 116 (cR (cR (cR Qw))) (Lv.b (Lv.b (Lv.b (A 116)))) (av P nY) X0 (av P nY)))
noncomputable def K116_prrr(cal:Cal)(k:Nat):KR:=(cutK (Lv.b (Lv.b (Lv.b (A 116)))).c (ay P cal (aw P cal k) none 116 (cR (cR (cR (cR Qw)))) (Lv.b (Lv.b (Lv.b (Lv.b (A 116))))) (av P nY) X0 (av P nY)))
noncomputable def K116_prrrr(cal:Cal)(k:Nat):KR:=(cutK (Lv.b (Lv.b (Lv.b (Lv.b (A 116))))).c (ay P cal (aw P cal k) none 116 (cR (cR (cR (cR (cR Qw))))) (Lv.b (Lv.b (Lv.b (Lv.b (Lv.b (A 116)))))) (av P nY) X0 (av P nY)))
noncomputable def B116_0(cal:Cal)(k:Nat)(v0:Value)(H:Hp)(n:Nat):Res:=
boxK 160 v0 H n fun v_1 H_2 n_3=>
dj P 179 H_2 n_3 fun v_5 H_6 n_7=>
dj P 180 H_6 n_7 fun v_8 H_9 n_a=>
aq (bV P 180 v_8 (Value.func (Fn.func 123) ⟨[]⟩ ⟨[v_5,v_1,v_8]⟩) H_9) fun H_d=>
aq (aW v_8) fun a_f=>aq (az P H_d 180 a_f) fun v_e=>
jy P cal v_e [(.int .i64 16),(.int .i64 8000)] H_d n_a fun v_g H_h n_i=>
some (v_g,H_h,n_i)
noncomputable def YV(cal:Cal)(k:Nat)(v0:Value)(H:Hp)(n:Nat):Res:=B116_0 cal k v0 H n
theorem h116_0(cal:Cal)(k:Nat)(v0:Value)(H:Hp)(n:Nat):aK P cal A (k+1) 116 [v0] H n=YV cal k v0 H n:=by
 have h:aK P cal A (k+1) 116 [v0] H n=B116_0 cal k v0 H n:=by
  rw[bX (fn:=Go.Proofs.Try.f116) (c:=Qw) (rs:=nY) (by kernel_rfl) (by kernel_rfl) (by kernel_rfl) (by kernel_rfl)]
  kernel_rfl
 rw[h,YV]
noncomputable def vJ:Code:=cW 119
noncomputable def iw:List ResultVar:=eX 119
noncomputable def K119_p(cal:Cal)(k:Nat):KR:=(cutK (A 119).c (ay P cal (aw P cal k) none 119 (cR vJ) (Lv.b (A 119)) (av P iw) X0 (av P iw)))
noncomputable def K119_pl(cal:Cal)(k:Nat):KR:=(cutK (Lv.a (A 119)).c (ay P cal (aw P cal k) none 119 (cR (cL vJ)) (Lv.b (Lv.a (A 119))) (K119_p cal k) X0 (av P iw)))
noncomputable def K119_pr(cal:Cal)(k:Nat):KR:=(cutK (Lv.b (A 119)).c (ay P cal (aw P cal k) none 119 (cR (cR vJ)) (Lv.b (Lv.b (A 119))) (av P iw) X0 (av P iw)))
noncomputable def Av(cal:Cal)(k:Nat):XR:=(upX 0 (av P iw) X0)
noncomputable def Qx(cal:Cal)(k:Nat)(m1:Nat):KR:=(fun T H n D=>aw P cal m1 (Lv.a (Lv.b (Lv.b (A 119)))) none 119 (cL (cR (cR vJ))) (av P iw) (Av cal k) (av P iw) (cutT (Lv.a (Lv.b (Lv.b (A 119)))).c T) H n D)
noncomputable def K119_prrll(cal:Cal)(k:Nat)(m1:Nat):KR:=(cutK (Lv.a (Lv.a (Lv.b (Lv.b (A 119))))).c (ay P cal (aw P cal m1) none 119 (cR (cL (cL (cR (cR vJ))))) (Lv.b (Lv.a (Lv.a (Lv.b (Lv.b (A 119)))))) (Qx cal k m1) (Av cal k) (av P iw)))
noncomputable def K119_prrllr(cal:Cal)(k:Nat)(m1:Nat):KR:=(cutK (Lv.b (Lv.a (Lv.a (Lv.b (Lv.b (A 119)))))).c (ay P cal (aw P cal m1) none 119 (cR (cR (cL (cL (cR (cR vJ)))))) (Lv.b (Lv.b (Lv.a (Lv.a (Lv.b (Lv.b (A 119))))))) (Qx cal k m1) (Av cal k) (av P iw)))
noncomputable def KX(cal:Cal)(k:Nat)(m1:Nat):KR:=(cutK (Lv.b (Lv.b (Lv.a (Lv.a (Lv.b (Lv.b (A 119))))))).c (ay P cal (aw P cal m1) none 119 (cR (cR (cR (cL (cL (cR (cR vJ))))))) (Lv.b (Lv.b (Lv.b (Lv.a (Lv.a (Lv.b (Lv.b (A 119)))))))) (Qx cal k m1) (Av cal k) (av P iw)))
noncomputable def K119_pxrrllrrl(cal:Cal)(k:Nat)(m1:Nat):XR:=(upX 1 (KX cal k m1) (Av cal k))
noncomputable def K119_prrllrrll(cal:Cal)(k:Nat)(m1:Nat):KR:=(cutK (Lv.a (Lv.a (Lv.b (Lv.b (Lv.a (Lv.a (Lv.b (Lv.b (A 119))))))))).c (ay P cal (aw P cal m1) none 119 (cR (cL (cL (cR (cR (cL (cL (cR (cR vJ))))))))) (Lv.b (Lv.a (Lv.a (Lv.b (Lv.b (Lv.a (Lv.a (Lv.b (Lv.b (A 119)))))))))) (KX cal k m1) (K119_pxrrllrrl cal k m1) (av P iw)))
noncomputable def K119_prrllrrllr(cal:Cal)(k:Nat)(m1:Nat):KR:=(cutK (Lv.b (Lv.a (Lv.a (Lv.b (Lv.b (Lv.a (Lv.a (Lv.b (Lv.b (A 119)))))))))).c (ay P cal (aw P cal m1) none 119 (cR (cR (cL (cL (cR (cR (cL (cL (cR (cR vJ)))))))))) (Lv.b (Lv.b (Lv.a (Lv.a (Lv.b (Lv.b (Lv.a (Lv.a (Lv.b (Lv.b (A 119))))))))))) (KX cal k m1) (K119_pxrrllrrl cal k m1) (av P iw)))
noncomputable def E119_1(cal:Cal)(k m1:Nat):KR:=ay P cal (aw P cal m1) none 119 (cL (cL (cR (cR vJ)))) (Lv.a (Lv.a (Lv.b (Lv.b (A 119))))) (Qx cal k m1) (Av cal k) (av P iw)
noncomputable def R119_1(cal:Cal)(k m1:Nat):V5:=fun u0 u1 u2 u14 u15 H n=>aw P cal m1 (Lv.a (Lv.b (Lv.b (A 119)))) none 119 (cL (cR (cR vJ))) (av P iw) (Av cal k) (av P iw) (Tr.set (Tr.set (Tr.set (Tr.set (Tr.set Tr.nil 15 (some u15)) 14 (some u14)) 2 (some u2)) 1 (some u1)) 0 (some u0)) H n []
noncomputable def B119_1(cal:Cal)(k m1:Nat)(b1:V5)(u0 u1 u2 u14 u15:Value)(H:Hp)(n:Nat):Res:=
binK P .lss 3 (.tmp 15) (.tmp 14) u15 u14 fun v_h=>
ifK v_h (
aq (aW u2) fun a_k=>aq (az P H 103 a_k) fun v_l=>
aq (aW u1) fun a_m=>aq (az P H 3 a_m) fun v_n=>
aq (nilV v_l) fun v_p=>
aq (ax P 115 v_p 1) fun v_q=>
aq (aV P 107 v_q v_n) fun v_r=>
aq (aV P 106 v_r u15) fun v_s=>
aq (aW v_s) fun a_t=>aq (az P H 4 a_t) fun v_u=>
dw v_u true (fun k_w=>
k_w u0 .p H n) .p H n fun v_x x_y H_z n_10=>
dw v_u true (fun k_12=>
k_12 u15 .p H_z n_10) .p H_z n_10 fun v_13 x_14 H_15 n_16=>
dw v_u true (fun k_18=>
jy P cal v_x [v_13] H_15 n_16 fun v_1d H_1e n_1f=>
k_18 v_1d .e H_1e n_1f) .e H_15 n_16 fun v_19 x_1a H_1b n_1c=>
dw v_u true (fun k_1g=>
aq (fY P v_19 (Op.unary UnOp.not v_19)) fun v_1l=>
k_1g v_1l .p H_1b n_1c) .p H_1b n_1c fun v_1h x_1i H_1j n_1k=>
aq (fJ v_u v_1h (.bool false)) fun v_1m=>
ifK v_1m (
some ((Value.tuple ⟨[]⟩),H_1j,n_1k)) (
binK P .add 3 (.tmp 15) (.const (.int .i64 1)) u15 (.int .i64 1) fun v_1n=>
b1 u0 u1 u2 u14 v_1n H_1j n_1k)) (
some ((Value.tuple ⟨[]⟩),H,n))
noncomputable def YW(cal:Cal)(k m1:Nat)(b1:V5)(u0 u1 u2 u14 u15:Value)(H:Hp)(n:Nat):Res:=B119_1 cal k m1 b1 u0 u1 u2 u14 u15 H n
noncomputable def YX(cal:Cal)(k:Nat):Nat→V5:=fun m=>Nat.rec (motive:=fun _=>V5) (YW cal k 0 (fun _ _ _ _ _ _ _=>none)) (fun m ih=>YW cal k (m+1) ih) m
theorem h119_1(cal:Cal)(k m1:Nat)(u0 u1 u2 u14 u15:Value)(H:Hp)(n:Nat):labK (E119_1 cal k m1) (Tr.set (Tr.set (Tr.set (Tr.set (Tr.set Tr.nil 15 (some u15)) 14 (some u14)) 2 (some u2)) 1 (some u1)) 0 (some u0)) H n []=YW cal k m1 (R119_1 cal k m1) u0 u1 u2 u14 u15 H n:=by
 refine Eq.trans (b:=B119_1 cal k m1 (R119_1 cal k m1) u0 u1 u2 u14 u15 H n) (by kernel_rfl) ?_
 rw[YW]
theorem q119_1(cal:Cal)(k:Nat):∀(m:Nat) (u0 u1 u2 u14 u15:Value) (H:Hp) (n:Nat),labK (E119_1 cal k m) (Tr.set (Tr.set (Tr.set (Tr.set (Tr.set Tr.nil 15 (some u15)) 14 (some u14)) 2 (some u2)) 1 (some u1)) 0 (some u0)) H n []=YX cal k m u0 u1 u2 u14 u15 H n
 | 0,u0,u1,u2,u14,u15,H,n=>by
  rw[h119_1]
  have e:R119_1 cal k 0=fun _ _ _ _ _ _ _=>none:=by funext u0 u1 u2 u14 u15 H n; kernel_rfl
  rw[e]; rfl
 | m+1,u0,u1,u2,u14,u15,H,n=>by
  rw[h119_1]
  have e:R119_1 cal k (m+1)=YX cal k m:=by
   funext u0 u1 u2 u14 u15 H n
   have e:R119_1 cal k (m+1) u0 u1 u2 u14 u15 H n=labK (E119_1 cal k m) (Tr.set (Tr.set (Tr.set (Tr.set (Tr.set Tr.nil 15 (some u15)) 14 (some u14)) 2 (some u2)) 1 (some u1)) 0 (some u0)) H n []:=by kernel_rfl
   rw[e]; exact q119_1 ..
  rw[e]; rfl
noncomputable def B119_0(cal:Cal)(k:Nat)(j1:V5)(v0 v1 v2:Value)(H:Hp)(n:Nat):Res:=
aq (aW v1) fun a_3=>aq (az P H 3 a_3) fun v_2=>
jy P cal v0 [v_2] H n fun v_4 H_5 n_6=>
aq (fY P v_4 (Op.unary UnOp.not v_4)) fun v_7=>
ifK v_7 (
some ((Value.tuple ⟨[]⟩),H_5,n_6)) (
aq (aW v2) fun a_9=>aq (az P H_5 103 a_9) fun v_8=>
aq (nilV v_8) fun v_a=>
aq (ax P 115 v_a 0) fun v_b=>
aq (ax P 35 v_b 0) fun v_c=>
aq (aW v_c) fun a_e=>aq (az P H_5 31 a_e) fun v_d=>
aq (lenV P 31 v_d) fun v_f=>
j1 v0 v1 v2 v_f (.int .i64 0) H_5 n_6)
noncomputable def SY(cal:Cal)(k:Nat)(v0 v1 v2:Value)(H:Hp)(n:Nat):Res:=B119_0 cal k (YX cal k k) v0 v1 v2 H n
theorem h119_0(cal:Cal)(k:Nat)(v0 v1 v2:Value)(H:Hp)(n:Nat):aK P cal A (k+1) 119 [v0,v1,v2] H n=SY cal k v0 v1 v2 H n:=by
 have h:aK P cal A (k+1) 119 [v0,v1,v2] H n=B119_0 cal k (fun u0 u1 u2 u14 u15 H n=>labK (E119_1 cal k k) (Tr.set (Tr.set (Tr.set (Tr.set (Tr.set Tr.nil 15 (some u15)) 14 (some u14)) 2 (some u2)) 1 (some u1)) 0 (some u0)) H n []) v0 v1 v2 H n:=by
  rw[bX (fn:=Go.Proofs.Try.f119) (c:=vJ) (rs:=iw) (by kernel_rfl) (by kernel_rfl) (by kernel_rfl) (by kernel_rfl)]
  kernel_rfl
 rw[h,SY]
 have e1:(fun u0 u1 u2 u14 u15 H n=>labK (E119_1 cal k k) (Tr.set (Tr.set (Tr.set (Tr.set (Tr.set Tr.nil 15 (some u15)) 14 (some u14)) 2 (some u2)) 1 (some u1)) 0 (some u0)) H n [])=(YX cal k k):=by funext u0 u1 u2 u14 u15 H n; exact q119_1 ..
 rw[e1]
noncomputable def qev:Code:=cW 120
noncomputable def wy:List ResultVar:=eX 120
noncomputable def K120_p(cal:Cal)(k:Nat):KR:=(cutK (A 120).c (ay P cal (aw P cal k) none 120 (cR qev) (Lv.b (A 120)) (av P wy) X0 (av P wy)))
noncomputable def K120_pr(cal:Cal)(k:Nat):KR:=(cutK (Lv.b (A 120)).c (ay P cal (aw P cal k) none 120 (cR (cR qev)) (Lv.b (Lv.b (A 120))) (av P wy) X0 (av P wy)))
noncomputable def K120_prr(cal:Cal)(k:Nat):KR:=(cutK (Lv.b (Lv.b (A 120))).c (ay P cal (aw P cal k) none 120 (cR (cR (cR qev))) (Lv.b (Lv.b (Lv.b (A 120)))) (av P wy) X0 (av P wy)))
noncomputable def B120_0(cal:Cal)(k:Nat)(v0 v1 v2:Value)(H:Hp)(n:Nat):Res:=
boxK 111 v0 H n fun v_1 H_2 n_3=>
boxK 177 v2 H_2 n_3 fun v_4 H_5 n_6=>
aq (aW v_1) fun a_8=>aq (az P H_5 111 a_8) fun v_9=>
aq (ax P 177 v_4 1) fun v_a=>
aq (aW v_a) fun a_b=>aq (az P H_5 127 a_b) fun v_c=>
aq (ax P 177 v_4 1) fun v_d=>
aq (aW v_d) fun a_e=>aq (az P H_5 127 a_e) fun v_f=>
aq (ax P 111 v_1 1) fun v_h=>
aq (aV P 109 v_h v1) fun v_i=>
aq (aW v_i) fun a_j=>aq (az P H_5 53 a_j) fun v_k=>
effK P [(.l 53 a_j),(.l 127 a_e)] H_5 n_6 (fun H_l n_m k_n=>
aY P cal 98 [v_9,v_c] H_l n_m fun v_r H_s n_t=>
k_n v_r H_s n_t) fun v_o H_p n_q=>
jy P cal v_f [v_k] H_p n_q fun v_u H_v n_w=>
binK P .sub 3 (.tmp 11) (.tmp 18) v_o v_u fun v_x=>
aq (ax P 177 v_4 2) fun v_z=>
aq (aW v_z) fun a_10=>aq (az P H_v 158 a_10) fun v_11=>
aq (ax P 177 v_4 0) fun v_12=>
aq (aW v_12) fun a_13=>aq (az P H_v 127 a_13) fun v_14=>
aq (ax P 111 v_1 1) fun v_16=>
aq (aV P 109 v_16 v1) fun v_17=>
aq (aW v_17) fun a_18=>aq (az P H_v 53 a_18) fun v_19=>
aq (ax P 111 v_1 0) fun v_1a=>
aq (aW v_1a) fun a_1b=>aq (az P H_v 3 a_1b) fun v_1c=>
binK P .sub 3 (.tmp 30) (.tmp 31) v_1c v_x fun v_1e=>
aq (yz P 44 1 [(0,v_1e)]) fun q_1h=>newK q_1h.1 q_1h.2 H_v n_w fun H_1f n_1g=>
effK P [(.a n_w q_1h.1 q_1h.2),(.l 3 a_1b),(.l 158 a_10)] H_1f n_1g (fun H_1i n_1j k_1k=>
jy P cal v_14 [v_19] H_1i n_1j fun v_1o H_1p n_1q=>
k_1k v_1o H_1p n_1q) fun v_1l H_1m n_1n=>
jy P cal v_11 [v_1l,(.slice (some ⟨n_w,0,none⟩) 1 1)] H_1m n_1n fun v_1r H_1s n_1t=>
some (v_1r,H_1s,n_1t)
noncomputable def YY(cal:Cal)(k:Nat)(v0 v1 v2:Value)(H:Hp)(n:Nat):Res:=B120_0 cal k v0 v1 v2 H n
theorem h120_0(cal:Cal)(k:Nat)(v0 v1 v2:Value)(H:Hp)(n:Nat):aK P cal A (k+1) 120 [v0,v1,v2] H n=YY cal k v0 v1 v2 H n:=by
 have h:aK P cal A (k+1) 120 [v0,v1,v2] H n=B120_0 cal k v0 v1 v2 H n:=by
  rw[bX (fn:=Go.Proofs.Try.f120) (c:=qev) (rs:=wy) (by kernel_rfl) (by kernel_rfl) (by kernel_rfl) (by kernel_rfl)]
  kernel_rfl
 rw[h,YY]
noncomputable def code121:Code:=cW 121
noncomputable def wz:List ResultVar:=eX 121
noncomputable def K121_p(cal:Cal)(k:Nat):KR:=(cutK (A 121).c (ay P cal (aw P cal k) none 121 (cR code121) (Lv.b (A 121)) (av P wz) X0 (av P wz)))
noncomputable def K121_pr(cal:Cal)(k:Nat):KR:=(cutK (Lv.b (A 121)).c (ay P cal (aw P cal k) none 121 (cR (cR code121)) (Lv.b (Lv.b (A 121))) (av P wz) X0 (av P wz)))
noncomputable def B121_0(cal:Cal)(k:Nat)(H:Hp)(n:Nat):Res:=
dj P 177 H n fun v_1 H_2 n_3=>
aq (fw P 177 [(0,(Value.func (.func 72) #[] #[])),(1,(Value.func (.func 73) #[] #[])),(2,(Value.func (.func 106) #[] #[]))]) fun v_4=>
aq (bV P 177 v_1 v_4 H_2) fun H_6=>
aq (resV P (Tr.set Tr.nil 0 (some v_1)) H_6 wz) fun v_7=>some (oneV v_7,H_6,n_3)
noncomputable def YZ(cal:Cal)(k:Nat)(H:Hp)(n:Nat):Res:=B121_0 cal k  H n
theorem h121_0(cal:Cal)(k:Nat)(H:Hp)(n:Nat):aK P cal A (k+1) 121 [] H n=YZ cal k  H n:=by
 have h:aK P cal A (k+1) 121 [] H n=B121_0 cal k  H n:=by
  rw[bX (fn:=Go.Proofs.Try.f121) (c:=code121) (rs:=wz) (by kernel_rfl) (by kernel_rfl) (by kernel_rfl) (by kernel_rfl)]
  kernel_rfl
 rw[h,YZ]
noncomputable def code122:Code:=cW 122
noncomputable def wk:List ResultVar:=eX 122
noncomputable def K122_p(cal:Cal)(k:Nat):KR:=(cutK (A 122).c (ay P cal (aw P cal k) none 122 (cR code122) (Lv.b (A 122)) (av P wk) X0 (av P wk)))
noncomputable def K122_pr(cal:Cal)(k:Nat):KR:=(cutK (Lv.b (A 122)).c (ay P cal (aw P cal k) none 122 (cR (cR code122)) (Lv.b (Lv.b (A 122))) (av P wk) X0 (av P wk)))
noncomputable def B122_0(cal:Cal)(k:Nat)(H:Hp)(n:Nat):Res:=
dj P 177 H n fun v_1 H_2 n_3=>
aq (fw P 177 [(0,(Value.func (.func 73) #[] #[])),(1,(Value.func (.func 72) #[] #[])),(2,(Value.func (.func 105) #[] #[]))]) fun v_4=>
aq (bV P 177 v_1 v_4 H_2) fun H_6=>
aq (resV P (Tr.set Tr.nil 0 (some v_1)) H_6 wk) fun v_7=>some (oneV v_7,H_6,n_3)
noncomputable def YK(cal:Cal)(k:Nat)(H:Hp)(n:Nat):Res:=B122_0 cal k  H n
theorem h122_0(cal:Cal)(k:Nat)(H:Hp)(n:Nat):aK P cal A (k+1) 122 [] H n=YK cal k  H n:=by
 have h:aK P cal A (k+1) 122 [] H n=B122_0 cal k  H n:=by
  rw[bX (fn:=Go.Proofs.Try.f122) (c:=code122) (rs:=wk) (by kernel_rfl) (by kernel_rfl) (by kernel_rfl) (by kernel_rfl)]
  kernel_rfl
 rw[h,YK]
noncomputable def jv:Code:=cW 123
noncomputable def cX:List ResultVar:=eX 123
noncomputable def K123_p(cal:Cal)(k:Nat):KR:=(cutK (A 123).c (ay P cal (aw P cal k) none 123 (cR jv) (Lv.b (A 123)) (av P cX) X0 (av P cX)))
noncomputable def K123_pr(cal:Cal)(k:Nat):KR:=(cutK (Lv.b (A 123)).c (ay P cal (aw P cal k) none 123 (cR (cR jv)) (Lv.b (Lv.b (A 123))) (av P cX) X0 (av P cX)))
noncomputable def K123_prl(cal:Cal)(k:Nat):KR:=(cutK (Lv.a (Lv.b (A 123))).c (ay P cal (aw P cal k) none 123 (cR (cL (cR jv))) (Lv.b (Lv.a (Lv.b (A 123)))) (K123_pr cal k) X0 (av P cX)))
noncomputable def K123_prlrl(cal:Cal)(k:Nat):KR:=(cutK (Lv.a (Lv.b (Lv.a (Lv.b (A 123))))).c (ay P cal (aw P cal k) none 123 (cR (cL (cR (cL (cR jv))))) (Lv.b (Lv.a (Lv.b (Lv.a (Lv.b (A 123)))))) (K123_pr cal k) X0 (av P cX)))
noncomputable def K123_prr(cal:Cal)(k:Nat):KR:=(cutK (Lv.b (Lv.b (A 123))).c (ay P cal (aw P cal k) none 123 (cR (cR (cR jv))) (Lv.b (Lv.b (Lv.b (A 123)))) (av P cX) X0 (av P cX)))
noncomputable def Qy(cal:Cal)(k:Nat):KR:=(cutK (Lv.b (Lv.b (Lv.b (A 123)))).c (ay P cal (aw P cal k) none 123 (cR (cR (cR (cR jv)))) (Lv.b (Lv.b (Lv.b (Lv.b (A 123))))) (av P cX) X0 (av P cX)))
noncomputable def K123_prrrl(cal:Cal)(k:Nat):KR:=(cutK (Lv.a (Lv.b (Lv.b (Lv.b (A 123))))).c (ay P cal (aw P cal k) none 123 (cR (cL (cR (cR (cR jv))))) (Lv.b (Lv.a (Lv.b (Lv.b (Lv.b (A 123)))))) (Qy cal k) X0 (av P cX)))
noncomputable def pX(cal:Cal)(k:Nat):XR:=(upX 0 (Qy cal k) X0)
noncomputable def yx(cal:Cal)(k:Nat)(m1:Nat):KR:=(fun T H n D=>aw P cal m1 (Lv.a (Lv.b (Lv.a (Lv.b (Lv.b (Lv.b (A 123))))))) none 123 (cL (cR (cL (cR (cR (cR jv)))))) (Qy cal k) (pX cal k) (av P cX) (cutT (Lv.a (Lv.b (Lv.a (Lv.b (Lv.b (Lv.b (A 123))))))).c T) H n D)
noncomputable def K123_prrrlrll(cal:Cal)(k:Nat)(m1:Nat):KR:=(cutK (Lv.a (Lv.a (Lv.b (Lv.a (Lv.b (Lv.b (Lv.b (A 123)))))))).c (ay P cal (aw P cal m1) none 123 (cR (cL (cL (cR (cL (cR (cR (cR jv)))))))) (Lv.b (Lv.a (Lv.a (Lv.b (Lv.a (Lv.b (Lv.b (Lv.b (A 123))))))))) (yx cal k m1) (pX cal k) (av P cX)))
noncomputable def K123_prrrlrllr(cal:Cal)(k:Nat)(m1:Nat):KR:=(cutK (Lv.b (Lv.a (Lv.a (Lv.b (Lv.a (Lv.b (Lv.b (Lv.b (A 123))))))))).c (ay P cal (aw P cal m1) none 123 (cR (cR (cL (cL (cR (cL (cR (cR (cR jv))))))))) (Lv.b (Lv.b (Lv.a (Lv.a (Lv.b (Lv.a (Lv.b (Lv.b (Lv.b (A 123)))))))))) (yx cal k m1) (pX cal k) (av P cX)))
noncomputable def jw(cal:Cal)(k:Nat)(m1:Nat):KR:=(cutK (Lv.b (Lv.b (Lv.a (Lv.a (Lv.b (Lv.a (Lv.b (Lv.b (Lv.b (A 123)))))))))).c (ay P cal (aw P cal m1) none 123 (cR (cR (cR (cL (cL (cR (cL (cR (cR (cR jv)))))))))) (Lv.b (Lv.b (Lv.b (Lv.a (Lv.a (Lv.b (Lv.a (Lv.b (Lv.b (Lv.b (A 123))))))))))) (yx cal k m1) (pX cal k) (av P cX)))
noncomputable def gY(cal:Cal)(k:Nat)(m1:Nat):XR:=(upX 1 (jw cal k m1) (pX cal k))
noncomputable def K123_prrrlrllrrll(cal:Cal)(k:Nat)(m1:Nat):KR:=(cutK (Lv.a (Lv.a (Lv.b (Lv.b (Lv.a (Lv.a (Lv.b (Lv.a (Lv.b (Lv.b (Lv.b (A 123)))))))))))).c (ay P cal (aw P cal m1) none 123 (cR (cL (cL (cR (cR (cL (cL (cR (cL (cR (cR (cR jv)))))))))))) (Lv.b (Lv.a (Lv.a (Lv.b (Lv.b (Lv.a (Lv.a (Lv.b (Lv.a (Lv.b (Lv.b (Lv.b (A 123))))))))))))) (jw cal k m1) (gY cal k m1) (av P cX)))
noncomputable def K123_prrrlrllrrllr(cal:Cal)(k:Nat)(m1:Nat):KR:=(cutK (Lv.b (Lv.a (Lv.a (Lv.b (Lv.b (Lv.a (Lv.a (Lv.b (Lv.a (Lv.b (Lv.b (Lv.b (A 123))))))))))))).c (ay P cal (aw P cal m1) none 123 (cR (cR (cL (cL (cR (cR (cL (cL (cR (cL (cR (cR (cR jv))))))))))))) (Lv.b (Lv.b (Lv.a (Lv.a (Lv.b (Lv.b (Lv.a (Lv.a (Lv.b (Lv.a (Lv.b (Lv.b (Lv.b (A 123)))))))))))))) (jw cal k m1) (gY cal k m1) (av P cX)))
noncomputable def K123_prrrlrllrrllrr(cal:Cal)(k:Nat)(m1:Nat):KR:=(cutK (Lv.b (Lv.b (Lv.a (Lv.a (Lv.b (Lv.b (Lv.a (Lv.a (Lv.b (Lv.a (Lv.b (Lv.b (Lv.b (A 123)))))))))))))).c (ay P cal (aw P cal m1) none 123 (cR (cR (cR (cL (cL (cR (cR (cL (cL (cR (cL (cR (cR (cR jv)))))))))))))) (Lv.b (Lv.b (Lv.b (Lv.a (Lv.a (Lv.b (Lv.b (Lv.a (Lv.a (Lv.b (Lv.a (Lv.b (Lv.b (Lv.b (A 123))))))))))))))) (jw cal k m1) (gY cal k m1) (av P cX)))
noncomputable def K123_prrrlrllrrllrrl(cal:Cal)(k:Nat)(m1:Nat):KR:=(cutK (Lv.a (Lv.b (Lv.b (Lv.a (Lv.a (Lv.b (Lv.b (Lv.a (Lv.a (Lv.b (Lv.a (Lv.b (Lv.b (Lv.b (A 123))))))))))))))).c (ay P cal (aw P cal m1) none 123 (cR (cL (cR (cR (cL (cL (cR (cR (cL (cL (cR (cL (cR (cR (cR jv))))))))))))))) (Lv.b (Lv.a (Lv.b (Lv.b (Lv.a (Lv.a (Lv.b (Lv.b (Lv.a (Lv.a (Lv.b (Lv.a (Lv.b (Lv.b (Lv.b (A 123)))))))))))))))) (K123_prrrlrllrrllrr cal k m1) (gY cal k m1) (av P cX)))
noncomputable def K123_prrrlrllrrllrrr(cal:Cal)(k:Nat)(m1:Nat):KR:=(cutK (Lv.b (Lv.b (Lv.b (Lv.a (Lv.a (Lv.b (Lv.b (Lv.a (Lv.a (Lv.b (Lv.a (Lv.b (Lv.b (Lv.b (A 123))))))))))))))).c (ay P cal (aw P cal m1) none 123 (cR (cR (cR (cR (cL (cL (cR (cR (cL (cL (cR (cL (cR (cR (cR jv))))))))))))))) (Lv.b (Lv.b (Lv.b (Lv.b (Lv.a (Lv.a (Lv.b (Lv.b (Lv.a (Lv.a (Lv.b (Lv.a (Lv.b (Lv.b (Lv.b (A 123)))))))))))))))) (jw cal k m1) (gY cal k m1) (av P cX)))
noncomputable def K123_prrrlrllrrllrrrr(cal:Cal)(k:Nat)(m1:Nat):KR:=(cutK (Lv.b (Lv.b (Lv.b (Lv.b (Lv.a (Lv.a (Lv.b (Lv.b (Lv.a (Lv.a (Lv.b (Lv.a (Lv.b (Lv.b (Lv.b (A 123)))))))))))))))).c (ay P cal (aw P cal m1) none 123 (cR (cR (cR (cR (cR (cL (cL (cR (cR (cL (cL (cR (cL (cR (cR (cR jv)))))))))))))))) (Lv.b (Lv.b (Lv.b (Lv.b (Lv.b (Lv.a (Lv.a (Lv.b (Lv.b (Lv.a (Lv.a (Lv.b (Lv.a (Lv.b (Lv.b (Lv.b (A 123))))))))))))))))) (jw cal k m1) (gY cal k m1) (av P cX)))
noncomputable def K123_prrrlrllrrllrrrrrl(cal:Cal)(k:Nat)(m1:Nat):KR:=(cutK (Lv.a (Lv.b (Lv.b (Lv.b (Lv.b (Lv.b (Lv.a (Lv.a (Lv.b (Lv.b (Lv.a (Lv.a (Lv.b (Lv.a (Lv.b (Lv.b (Lv.b (A 123)))))))))))))))))).c (ay P cal (aw P cal m1) none 123 (cR (cL (cR (cR (cR (cR (cR (cL (cL (cR (cR (cL (cL (cR (cL (cR (cR (cR jv)))))))))))))))))) (Lv.b (Lv.a (Lv.b (Lv.b (Lv.b (Lv.b (Lv.b (Lv.a (Lv.a (Lv.b (Lv.b (Lv.a (Lv.a (Lv.b (Lv.a (Lv.b (Lv.b (Lv.b (A 123))))))))))))))))))) (jw cal k m1) (gY cal k m1) (av P cX)))
noncomputable def K123_prrrlrllrrllrrrrrlr(cal:Cal)(k:Nat)(m1:Nat):KR:=(cutK (Lv.b (Lv.a (Lv.b (Lv.b (Lv.b (Lv.b (Lv.b (Lv.a (Lv.a (Lv.b (Lv.b (Lv.a (Lv.a (Lv.b (Lv.a (Lv.b (Lv.b (Lv.b (A 123))))))))))))))))))).c (ay P cal (aw P cal m1) none 123 (cR (cR (cL (cR (cR (cR (cR (cR (cL (cL (cR (cR (cL (cL (cR (cL (cR (cR (cR jv))))))))))))))))))) (Lv.b (Lv.b (Lv.a (Lv.b (Lv.b (Lv.b (Lv.b (Lv.b (Lv.a (Lv.a (Lv.b (Lv.b (Lv.a (Lv.a (Lv.b (Lv.a (Lv.b (Lv.b (Lv.b (A 123)))))))))))))))))))) (jw cal k m1) (gY cal k m1) (av P cX)))
noncomputable def K123_prrrlrllrrllrrrrrlrr(cal:Cal)(k:Nat)(m1:Nat):KR:=(cutK (Lv.b (Lv.b (Lv.a (Lv.b (Lv.b (Lv.b (Lv.b (Lv.b (Lv.a (Lv.a (Lv.b (Lv.b (Lv.a (Lv.a (Lv.b (Lv.a (Lv.b (Lv.b (Lv.b (A 123)))))))))))))))))))).c (ay P cal (aw P cal m1) none 123 (cR (cR (cR (cL (cR (cR (cR (cR (cR (cL (cL (cR (cR (cL (cL (cR (cL (cR (cR (cR jv)))))))))))))))))))) (Lv.b (Lv.b (Lv.b (Lv.a (Lv.b (Lv.b (Lv.b (Lv.b (Lv.b (Lv.a (Lv.a (Lv.b (Lv.b (Lv.a (Lv.a (Lv.b (Lv.a (Lv.b (Lv.b (Lv.b (A 123))))))))))))))))))))) (jw cal k m1) (gY cal k m1) (av P cX)))
noncomputable def K123_prrrr(cal:Cal)(k:Nat):KR:=(cutK (Lv.b (Lv.b (Lv.b (Lv.b (A 123))))).c (ay P cal (aw P cal k) none 123 (cR (cR (cR (cR (cR jv))))) (Lv.b (Lv.b (Lv.b (Lv.b (Lv.b (A 123)))))) (av P cX) X0 (av P cX)))
noncomputable def E123_2(cal:Cal)(k m1:Nat):KR:=ay P cal (aw P cal m1) none 123 (cR (cR (cR (cL (cL (cR (cL (cR (cR (cR jv)))))))))) (Lv.b (Lv.b (Lv.b (Lv.a (Lv.a (Lv.b (Lv.a (Lv.b (Lv.b (Lv.b (A 123))))))))))) (yx cal k m1) (pX cal k) (av P cX)
noncomputable def E123_1(cal:Cal)(k m1:Nat):KR:=ay P cal (aw P cal m1) none 123 (cL (cL (cR (cL (cR (cR (cR jv))))))) (Lv.a (Lv.a (Lv.b (Lv.a (Lv.b (Lv.b (Lv.b (A 123)))))))) (yx cal k m1) (pX cal k) (av P cX)
noncomputable def NW(cal:Cal)(k m1:Nat):V6:=fun u0 u1 u2 u3 u4 u16 H n=>aw P cal m1 (Lv.a (Lv.b (Lv.a (Lv.b (Lv.b (Lv.b (A 123))))))) none 123 (cL (cR (cL (cR (cR (cR jv)))))) (Qy cal k) (pX cal k) (av P cX) (Tr.set (Tr.set (Tr.set (Tr.set (Tr.set (Tr.set Tr.nil 16 (some u16)) 4 (some u4)) 3 (some u3)) 2 (some u2)) 1 (some u1)) 0 (some u0)) H n []
noncomputable def B123_2(cal:Cal)(k m1:Nat)(b1:V6)(u0 u1 u2 u3 u4 u16:Value)(H:Hp)(n:Nat):Res:=
binK P .add 3 (.tmp 16) (.const (.int .i64 1)) u16 (.int .i64 1) fun v_c=>
b1 u0 u1 u2 u3 u4 v_c H n
noncomputable def Zj(cal:Cal)(k m1:Nat)(b1:V6)(u0 u1 u2 u3 u4 u16:Value)(H:Hp)(n:Nat):Res:=B123_2 cal k m1 b1 u0 u1 u2 u3 u4 u16 H n
theorem h123_2(cal:Cal)(k m1:Nat)(u0 u1 u2 u3 u4 u16:Value)(H:Hp)(n:Nat):labK (E123_2 cal k m1) (Tr.set (Tr.set (Tr.set (Tr.set (Tr.set (Tr.set Tr.nil 16 (some u16)) 4 (some u4)) 3 (some u3)) 2 (some u2)) 1 (some u1)) 0 (some u0)) H n []=Zj cal k m1 (NW cal k m1) u0 u1 u2 u3 u4 u16 H n:=by
 refine Eq.trans (b:=B123_2 cal k m1 (NW cal k m1) u0 u1 u2 u3 u4 u16 H n) (by kernel_rfl) ?_
 rw[Zj]
noncomputable def B123_1(cal:Cal)(k m1:Nat)(j2:V6)(b1:V6)(u0 u1 u2 u3 u4 u16:Value)(H:Hp)(n:Nat):Res:=
binK P .lss 3 (.tmp 16) (.const (.int .i64 18)) u16 (.int .i64 18) fun v_b=>
ifK v_b (
aq (aW u3) fun a_h=>aq (az P H 160 a_h) fun v_g=>
aq (fw P 162 [(0,u0),(1,u16)]) fun v_k=>
aq (kw P H 160 v_g v_k false) fun v_l=>
binK P .eql 3 (.tmp 24) (.const (.int .i64 0)) v_l (.int .i64 0) fun v_o=>
aX v_o false (fun k_q=>
k_q u16 H n) H n fun v_r H_s n_t=>
aX v_o false (fun k_v=>
aq (aV P 179 u2 v_r) fun v_z=>
k_v v_z H_s n_t) H_s n_t fun v_w H_x n_y=>
aX v_o false (fun k_10=>
aq (aW v_w) fun a_15=>aq (az P H_x 4 a_15) fun v_14=>
k_10 v_14 H_x n_y) H_x n_y fun v_11 H_12 n_13=>
aq (fJ v_o (.bool true) v_11) fun v_16=>
ifK v_16 (
j2 u0 u1 u2 u3 u4 u16 H_12 n_13) (
aq (aW u4) fun a_17=>aq (az P H_12 180 a_17) fun v_18=>
aq (yz P 44 1 [(0,v_l)]) fun q_1e=>newK q_1e.1 q_1e.2 H_12 n_13 fun H_1c n_1d=>
effK P [(.l 180 a_17)] H_1c n_1d (fun H_1f n_1g k_1h=>
aY P cal 105 [u1,(.slice (some ⟨n_13,0,none⟩) 1 1)] H_1f n_1g fun v_1l H_1m n_1n=>
k_1h v_1l H_1m n_1n) fun v_1i H_1j n_1k=>
jy P cal v_18 [u16,v_1i] H_1j n_1k fun v_1o H_1p n_1q=>
binK P .gtr 3 (.tmp 38) (.const (.int .i64 0)) v_1o (.int .i64 0) fun v_1t=>
ifK v_1t (
aq (aW u3) fun a_1u=>aq (az P H_1p 160 a_1u) fun v_1v=>
aq (fw P 162 [(0,u0),(1,u16)]) fun v_1y=>
aq (kw P H_1p 160 v_1v v_1y false) fun v_1z=>
binK P .sub 3 (.tmp 44) (.tmp 45) v_1z v_1o fun v_21=>
effK P [(.m 160 v_1v v_1y false v_1z)] H_1p n_1q (fun H_22 n_23 k_24=>
aq (BY P 160 v_1v v_1y H_22) fun r_29=>
k_24 r_29.1 r_29.2 n_23) fun v_25 H_26 n_27=>
aq (tupV v_25 1) fun v_2a=>
aq (Ly v_1v v_2a v_21 H_26) fun H_2c=>
aq (aW u3) fun a_2d=>aq (az P H_2c 160 a_2d) fun v_2e=>
aq (fw P 162 [(0,u16),(1,u0)]) fun v_2h=>
aq (kw P H_2c 160 v_2e v_2h false) fun v_2i=>
binK P .add 3 (.tmp 53) (.tmp 54) v_2i v_1o fun v_2k=>
effK P [(.m 160 v_2e v_2h false v_2i)] H_2c n_27 (fun H_2l n_2m k_2n=>
aq (BY P 160 v_2e v_2h H_2l) fun r_2s=>
k_2n r_2s.1 r_2s.2 n_2m) fun v_2o H_2p n_2q=>
aq (tupV v_2o 1) fun v_2t=>
aq (Ly v_2e v_2t v_2k H_2p) fun H_2v=>
some (v_1o,H_2v,n_2q)) (
j2 u0 u1 u2 u3 u4 u16 H_1p n_1q))) (
some ((.int .i64 0),H,n))
noncomputable def Zq(cal:Cal)(k m1:Nat)(b1:V6)(u0 u1 u2 u3 u4 u16:Value)(H:Hp)(n:Nat):Res:=B123_1 cal k m1 (Zj cal k m1 b1) b1 u0 u1 u2 u3 u4 u16 H n
noncomputable def Zv(cal:Cal)(k:Nat):Nat→V6:=fun m=>Nat.rec (motive:=fun _=>V6) (Zq cal k 0 (fun _ _ _ _ _ _ _ _=>none)) (fun m ih=>Zq cal k (m+1) ih) m
theorem h123_1(cal:Cal)(k m1:Nat)(u0 u1 u2 u3 u4 u16:Value)(H:Hp)(n:Nat):labK (E123_1 cal k m1) (Tr.set (Tr.set (Tr.set (Tr.set (Tr.set (Tr.set Tr.nil 16 (some u16)) 4 (some u4)) 3 (some u3)) 2 (some u2)) 1 (some u1)) 0 (some u0)) H n []=Zq cal k m1 (NW cal k m1) u0 u1 u2 u3 u4 u16 H n:=by
 refine Eq.trans (b:=B123_1 cal k m1 (fun u0 u1 u2 u3 u4 u16 H n=>labK (E123_2 cal k m1) (Tr.set (Tr.set (Tr.set (Tr.set (Tr.set (Tr.set Tr.nil 16 (some u16)) 4 (some u4)) 3 (some u3)) 2 (some u2)) 1 (some u1)) 0 (some u0)) H n []) (NW cal k m1) u0 u1 u2 u3 u4 u16 H n) (by kernel_rfl) ?_
 rw[Zq]
 have e2:(fun u0 u1 u2 u3 u4 u16 H n=>labK (E123_2 cal k m1) (Tr.set (Tr.set (Tr.set (Tr.set (Tr.set (Tr.set Tr.nil 16 (some u16)) 4 (some u4)) 3 (some u3)) 2 (some u2)) 1 (some u1)) 0 (some u0)) H n [])=(Zj cal k m1 (NW cal k m1)):=by funext u0 u1 u2 u3 u4 u16 H n; exact h123_2 ..
 rw[e2]
theorem q123_1(cal:Cal)(k:Nat):∀(m:Nat) (u0 u1 u2 u3 u4 u16:Value) (H:Hp) (n:Nat),labK (E123_1 cal k m) (Tr.set (Tr.set (Tr.set (Tr.set (Tr.set (Tr.set Tr.nil 16 (some u16)) 4 (some u4)) 3 (some u3)) 2 (some u2)) 1 (some u1)) 0 (some u0)) H n []=Zv cal k m u0 u1 u2 u3 u4 u16 H n
 | 0,u0,u1,u2,u3,u4,u16,H,n=>by
  rw[h123_1]
  have e:NW cal k 0=fun _ _ _ _ _ _ _ _=>none:=by funext u0 u1 u2 u3 u4 u16 H n; kernel_rfl
  rw[e]; rfl
 | m+1,u0,u1,u2,u3,u4,u16,H,n=>by
  rw[h123_1]
  have e:NW cal k (m+1)=Zv cal k m:=by
   funext u0 u1 u2 u3 u4 u16 H n
   have e:NW cal k (m+1) u0 u1 u2 u3 u4 u16 H n=labK (E123_1 cal k m) (Tr.set (Tr.set (Tr.set (Tr.set (Tr.set (Tr.set Tr.nil 16 (some u16)) 4 (some u4)) 3 (some u3)) 2 (some u2)) 1 (some u1)) 0 (some u0)) H n []:=by kernel_rfl
   rw[e]; exact q123_1 ..
  rw[e]; rfl
noncomputable def B123_0(cal:Cal)(k:Nat)(j1:V6)(v0 v1 v2 v3 v4:Value)(H:Hp)(n:Nat):Res:=
binK P .eql 3 (.tmp 11) (.const (.int .i64 17)) v0 (.int .i64 17) fun v_3=>
ifK v_3 (
some (v1,H,n)) (
aq (aV P 179 v2 v0) fun v_7=>
aq (bV P 4 v_7 (.bool true) H) fun H_9=>
j1 v0 v1 v2 v3 v4 (.int .i64 0) H_9 n)
noncomputable def NX(cal:Cal)(k:Nat)(v0 v1 v2 v3 v4:Value)(H:Hp)(n:Nat):Res:=B123_0 cal k (Zv cal k k) v0 v1 v2 v3 v4 H n
theorem h123_0(cal:Cal)(k:Nat)(v0 v1 v2 v3 v4:Value)(H:Hp)(n:Nat):aK P cal A (k+1) 123 [v0,v1,v2,v3,v4] H n=NX cal k v0 v1 v2 v3 v4 H n:=by
 have h:aK P cal A (k+1) 123 [v0,v1,v2,v3,v4] H n=B123_0 cal k (fun u0 u1 u2 u3 u4 u16 H n=>labK (E123_1 cal k k) (Tr.set (Tr.set (Tr.set (Tr.set (Tr.set (Tr.set Tr.nil 16 (some u16)) 4 (some u4)) 3 (some u3)) 2 (some u2)) 1 (some u1)) 0 (some u0)) H n []) v0 v1 v2 v3 v4 H n:=by
  rw[bX (fn:=Go.Proofs.Try.f123) (c:=jv) (rs:=cX) (by kernel_rfl) (by kernel_rfl) (by kernel_rfl) (by kernel_rfl)]
  kernel_rfl
 rw[h,NX]
 have e1:(fun u0 u1 u2 u3 u4 u16 H n=>labK (E123_1 cal k k) (Tr.set (Tr.set (Tr.set (Tr.set (Tr.set (Tr.set Tr.nil 16 (some u16)) 4 (some u4)) 3 (some u3)) 2 (some u2)) 1 (some u1)) 0 (some u0)) H n [])=(Zv cal k k):=by funext u0 u1 u2 u3 u4 u16 H n; exact q123_1 ..
 rw[e1]
end Go.Proofs.Ytndkmmelelchcaa.G
