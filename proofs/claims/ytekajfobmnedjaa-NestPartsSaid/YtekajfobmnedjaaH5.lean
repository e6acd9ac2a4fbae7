/- The texts of functions, each with the proof that the evaluator says the same. -/
import Derived.Test.YtekajfobmnedjaaH1
open Go Go.Ev
set_option maxRecDepth 1000000
set_option linter.unusedVariables false
noncomputable section
namespace Go.Proofs.Ytekajfobmnedjaa.G
noncomputable def oX:Code:=cw 103
noncomputable def eX:List ResultVar:=dj 103
noncomputable def K103_p (cal:Cal) (k:Nat):KR:=(cutK (A 103).c (az P cal (ax P cal k) none 103 (cR oX) (Lv.b (A 103)) (aw P eX) X0 (aw P eX)))
noncomputable def PZ (cal:Cal) (k:Nat):KR:=(cutK (Lv.b (A 103)).c (az P cal (ax P cal k) none 103 (cR (cR oX)) (Lv.b (Lv.b (A 103))) (aw P eX) X0 (aw P eX)))
noncomputable def K103_prl (cal:Cal) (k:Nat):KR:=(cutK (Lv.a (Lv.b (A 103))).c (az P cal (ax P cal k) none 103 (cR (cL (cR oX))) (Lv.b (Lv.a (Lv.b (A 103)))) (PZ cal k) X0 (aw P eX)))
noncomputable def qY (cal:Cal) (k:Nat):XR:=(upX 0 (PZ cal k) X0)
noncomputable def CZ (cal:Cal) (k:Nat) (m1:Nat):KR:=(fun T H n D=>ax P cal m1 (Lv.a (Lv.b (Lv.a (Lv.b (A 103))))) none 103 (cL (cR (cL (cR oX)))) (PZ cal k) (qY cal k) (aw P eX) (cutT (Lv.a (Lv.b (Lv.a (Lv.b (A 103))))).c T) H n D)
noncomputable def K103_prlrll (cal:Cal) (k:Nat) (m1:Nat):KR:=(cutK (Lv.a (Lv.a (Lv.b (Lv.a (Lv.b (A 103)))))).c (az P cal (ax P cal m1) none 103 (cR (cL (cL (cR (cL (cR oX)))))) (Lv.b (Lv.a (Lv.a (Lv.b (Lv.a (Lv.b (A 103))))))) (CZ cal k m1) (qY cal k) (aw P eX)))
noncomputable def K103_prlrllr (cal:Cal) (k:Nat) (m1:Nat):KR:=(cutK (Lv.b (Lv.a (Lv.a (Lv.b (Lv.a (Lv.b (A 103))))))).c (az P cal (ax P cal m1) none 103 (cR (cR (cL (cL (cR (cL (cR oX))))))) (Lv.b (Lv.b (Lv.a (Lv.a (Lv.b (Lv.a (Lv.b (A 103)))))))) (CZ cal k m1) (qY cal k) (aw P eX)))
noncomputable def zQ (cal:Cal) (k:Nat) (m1:Nat):KR:=(cutK (Lv.b (Lv.b (Lv.a (Lv.a (Lv.b (Lv.a (Lv.b (A 103)))))))).c (az P cal (ax P cal m1) none 103 (cR (cR (cR (cL (cL (cR (cL (cR oX)))))))) (Lv.b (Lv.b (Lv.b (Lv.a (Lv.a (Lv.b (Lv.a (Lv.b (A 103))))))))) (CZ cal k m1) (qY cal k) (aw P eX)))
noncomputable def K103_pxrlrllrrl (cal:Cal) (k:Nat) (m1:Nat):XR:=(upX 1 (zQ cal k m1) (qY cal k))
noncomputable def K103_prlrllrrll (cal:Cal) (k:Nat) (m1:Nat):KR:=(cutK (Lv.a (Lv.a (Lv.b (Lv.b (Lv.a (Lv.a (Lv.b (Lv.a (Lv.b (A 103)))))))))).c (az P cal (ax P cal m1) none 103 (cR (cL (cL (cR (cR (cL (cL (cR (cL (cR oX)))))))))) (Lv.b (Lv.a (Lv.a (Lv.b (Lv.b (Lv.a (Lv.a (Lv.b (Lv.a (Lv.b (A 103))))))))))) (zQ cal k m1) (K103_pxrlrllrrl cal k m1) (aw P eX)))
noncomputable def K103_prlrllrrllr (cal:Cal) (k:Nat) (m1:Nat):KR:=(cutK (Lv.b (Lv.a (Lv.a (Lv.b (Lv.b (Lv.a (Lv.a (Lv.b (Lv.a (Lv.b (A 103))))))))))).c (az P cal (ax P cal m1) none 103 (cR (cR (cL (cL (cR (cR (cL (cL (cR (cL (cR oX))))))))))) (Lv.b (Lv.b (Lv.a (Lv.a (Lv.b (Lv.b (Lv.a (Lv.a (Lv.b (Lv.a (Lv.b (A 103)))))))))))) (zQ cal k m1) (K103_pxrlrllrrl cal k m1) (aw P eX)))
noncomputable def K103_prr (cal:Cal) (k:Nat):KR:=(cutK (Lv.b (Lv.b (A 103))).c (az P cal (ax P cal k) none 103 (cR (cR (cR oX))) (Lv.b (Lv.b (Lv.b (A 103)))) (aw P eX) X0 (aw P eX)))
noncomputable def Tw (cal:Cal) (k m1:Nat):KR:=az P cal (ax P cal m1) none 103 (cL (cL (cR (cL (cR oX))))) (Lv.a (Lv.a (Lv.b (Lv.a (Lv.b (A 103)))))) (CZ cal k m1) (qY cal k) (aw P eX)
noncomputable def Tx (cal:Cal) (k m1:Nat):V4:=fun u2 u4 u7 u8 H n=>ax P cal m1 (Lv.a (Lv.b (Lv.a (Lv.b (A 103))))) none 103 (cL (cR (cL (cR oX)))) (PZ cal k) (qY cal k) (aw P eX) (Tr.set (Tr.set (Tr.set (Tr.set Tr.nil 8 (some u8)) 7 (some u7)) 4 (some u4)) 2 (some u2)) H n []
noncomputable def B103_1 (cal:Cal) (k m1:Nat) (b1:V4) (u2 u4 u7 u8:Value) (H:Hp) (n:Nat):Res:=
binK P .lss 3 (.tmp 8) (.const (.int .i64 8)) u8 (.int .i64 8) fun v_d=>
ifK v_d (
aq (BJ P 111 u7 u8) fun v_f=>
dZ P 53 H n fun v_g H_h n_i=>
aq (bz P 53 v_g v_f H_h) fun H_l=>
aq (aW P 111 u2 u8) fun v_n=>
aq (ay P 53 v_n 0) fun v_o=>
aq (aX v_o) fun a_p=>aq (ak P H_l 3 a_p) fun v_q=>
aq (ay P 53 v_g 0) fun v_r=>
aq (aX v_r) fun a_s=>aq (ak P H_l 3 a_s) fun v_t=>
binK P .add 3 (.tmp 15) (.tmp 17) v_q v_t fun v_u=>
aq (aW P 111 u2 u8) fun v_v=>
aq (ay P 53 v_v 0) fun v_w=>
aq (bz P 3 v_w v_u H_l) fun H_y=>
aq (aW P 111 u2 u8) fun v_10=>
aq (ay P 53 v_10 1) fun v_11=>
aq (aX v_11) fun a_12=>aq (ak P H_y 3 a_12) fun v_13=>
aq (ay P 53 v_g 1) fun v_14=>
aq (aX v_14) fun a_15=>aq (ak P H_y 3 a_15) fun v_16=>
binK P .add 3 (.tmp 24) (.tmp 26) v_13 v_16 fun v_17=>
aq (aW P 111 u2 u8) fun v_18=>
aq (ay P 53 v_18 1) fun v_19=>
aq (bz P 3 v_19 v_17 H_y) fun H_1b=>
binK P .add 3 (.tmp 8) (.const (.int .i64 1)) u8 (.int .i64 1) fun v_1c=>
b1 u2 u4 u7 v_1c H_1b n_i) (
aq (aX u2) fun a_1f=>aq (ak P H 111 a_1f) fun v_1e=>
aq (bz P 111 u4 v_1e H) fun H_1h=>
aq (resV P (Tr.set Tr.nil 4 (some u4)) H_1h eX) fun v_1i=>some (oneV v_1i,H_1h,n))
noncomputable def C103_1 (cal:Cal) (k m1:Nat) (b1:V4) (u2 u4 u7 u8:Value) (H:Hp) (n:Nat):Res:=B103_1 cal k m1 b1 u2 u4 u7 u8 H n
noncomputable def S103_1 (cal:Cal) (k:Nat):Nat→V4:=fun m=>Nat.rec (motive:=fun _=>V4) (C103_1 cal k 0 (fun _ _ _ _ _ _=>none)) (fun m ih=>C103_1 cal k (m+1) ih) m
theorem h103_1 (cal:Cal) (k m1:Nat) (u2 u4 u7 u8:Value) (H:Hp) (n:Nat):labK (Tw cal k m1) (Tr.set (Tr.set (Tr.set (Tr.set Tr.nil 8 (some u8)) 7 (some u7)) 4 (some u4)) 2 (some u2)) H n []=C103_1 cal k m1 (Tx cal k m1) u2 u4 u7 u8 H n:=by
 refine Eq.trans (b:=B103_1 cal k m1 (Tx cal k m1) u2 u4 u7 u8 H n) (by kernel_rfl) ?_
 rw[C103_1]
theorem q103_1 (cal:Cal) (k:Nat):∀(m:Nat) (u2 u4 u7 u8:Value) (H:Hp) (n:Nat),labK (Tw cal k m) (Tr.set (Tr.set (Tr.set (Tr.set Tr.nil 8 (some u8)) 7 (some u7)) 4 (some u4)) 2 (some u2)) H n []=S103_1 cal k m u2 u4 u7 u8 H n
 | 0,u2,u4,u7,u8,H,n=>by
  rw[h103_1]
  have e:Tx cal k 0=fun _ _ _ _ _ _=>none:=by funext u2 u4 u7 u8 H n; kernel_rfl
  rw[e]; rfl
 | m+1,u2,u4,u7,u8,H,n=>by
  rw[h103_1]
  have e:Tx cal k (m+1)=S103_1 cal k m:=by
   funext u2 u4 u7 u8 H n
   have e:Tx cal k (m+1) u2 u4 u7 u8 H n=labK (Tw cal k m) (Tr.set (Tr.set (Tr.set (Tr.set Tr.nil 8 (some u8)) 7 (some u7)) 4 (some u4)) 2 (some u2)) H n []:=by kernel_rfl
   rw[e]; exact q103_1 ..
  rw[e]; rfl
noncomputable def B103_0 (cal:Cal) (k:Nat) (j1:V4) (v0 v1:Value) (H:Hp) (n:Nat):Res:=
boxK 111 v0 H n fun v_1 H_2 n_3=>
boxK 111 v1 H_2 n_3 fun v_4 H_5 n_6=>
dZ P 111 H_5 n_6 fun v_7 H_8 n_9=>
aq (aX v_4) fun a_b=>aq (ak P H_8 111 a_b) fun v_a=>
j1 v_1 v_7 v_a (.int .i64 0) H_8 n_9
noncomputable def C103_0 (cal:Cal) (k:Nat) (v0 v1:Value) (H:Hp) (n:Nat):Res:=B103_0 cal k (S103_1 cal k k) v0 v1 H n
theorem h103_0 (cal:Cal) (k:Nat) (v0 v1:Value) (H:Hp) (n:Nat):aK P cal A (k+1) 103 [v0,v1] H n=C103_0 cal k v0 v1 H n:=by
 have h:aK P cal A (k+1) 103 [v0,v1] H n=B103_0 cal k (fun u2 u4 u7 u8 H n=>labK (Tw cal k k) (Tr.set (Tr.set (Tr.set (Tr.set Tr.nil 8 (some u8)) 7 (some u7)) 4 (some u4)) 2 (some u2)) H n []) v0 v1 H n:=by
  rw[bk (fn:=Go.Proofs.Try.f103) (c:=oX) (rs:=eX) (by kernel_rfl) (by kernel_rfl) (by kernel_rfl) (by kernel_rfl)]
  kernel_rfl
 rw[h,C103_0]
 have e1:(fun u2 u4 u7 u8 H n=>labK (Tw cal k k) (Tr.set (Tr.set (Tr.set (Tr.set Tr.nil 8 (some u8)) 7 (some u7)) 4 (some u4)) 2 (some u2)) H n [])=(S103_1 cal k k):=by funext u2 u4 u7 u8 H n; exact q103_1 ..
 rw[e1]
noncomputable def vj:Code:=cw 104
noncomputable def iq:List ResultVar:=dj 104
noncomputable def K104_p (cal:Cal) (k:Nat):KR:=(cutK (A 104).c (az P cal (ax P cal k) none 104 (cR vj) (Lv.b (A 104)) (aw P iq) X0 (aw P iq)))
noncomputable def yx (cal:Cal) (k:Nat):XR:=(upX 0 (aw P iq) X0)
noncomputable def KY (cal:Cal) (k:Nat) (m1:Nat):KR:=(fun T H n D=>ax P cal m1 (Lv.a (Lv.b (A 104))) none 104 (cL (cR vj)) (aw P iq) (yx cal k) (aw P iq) (cutT (Lv.a (Lv.b (A 104))).c T) H n D)
noncomputable def K104_prll (cal:Cal) (k:Nat) (m1:Nat):KR:=(cutK (Lv.a (Lv.a (Lv.b (A 104)))).c (az P cal (ax P cal m1) none 104 (cR (cL (cL (cR vj)))) (Lv.b (Lv.a (Lv.a (Lv.b (A 104))))) (KY cal k m1) (yx cal k) (aw P iq)))
noncomputable def K104_prllr (cal:Cal) (k:Nat) (m1:Nat):KR:=(cutK (Lv.b (Lv.a (Lv.a (Lv.b (A 104))))).c (az P cal (ax P cal m1) none 104 (cR (cR (cL (cL (cR vj))))) (Lv.b (Lv.b (Lv.a (Lv.a (Lv.b (A 104)))))) (KY cal k m1) (yx cal k) (aw P iq)))
noncomputable def EX (cal:Cal) (k:Nat) (m1:Nat):KR:=(cutK (Lv.b (Lv.b (Lv.a (Lv.a (Lv.b (A 104)))))).c (az P cal (ax P cal m1) none 104 (cR (cR (cR (cL (cL (cR vj)))))) (Lv.b (Lv.b (Lv.b (Lv.a (Lv.a (Lv.b (A 104))))))) (KY cal k m1) (yx cal k) (aw P iq)))
noncomputable def K104_pxrllrrl (cal:Cal) (k:Nat) (m1:Nat):XR:=(upX 1 (EX cal k m1) (yx cal k))
noncomputable def K104_prllrrll (cal:Cal) (k:Nat) (m1:Nat):KR:=(cutK (Lv.a (Lv.a (Lv.b (Lv.b (Lv.a (Lv.a (Lv.b (A 104)))))))).c (az P cal (ax P cal m1) none 104 (cR (cL (cL (cR (cR (cL (cL (cR vj)))))))) (Lv.b (Lv.a (Lv.a (Lv.b (Lv.b (Lv.a (Lv.a (Lv.b (A 104))))))))) (EX cal k m1) (K104_pxrllrrl cal k m1) (aw P iq)))
noncomputable def K104_prllrrllr (cal:Cal) (k:Nat) (m1:Nat):KR:=(cutK (Lv.b (Lv.a (Lv.a (Lv.b (Lv.b (Lv.a (Lv.a (Lv.b (A 104))))))))).c (az P cal (ax P cal m1) none 104 (cR (cR (cL (cL (cR (cR (cL (cL (cR vj))))))))) (Lv.b (Lv.b (Lv.a (Lv.a (Lv.b (Lv.b (Lv.a (Lv.a (Lv.b (A 104)))))))))) (EX cal k m1) (K104_pxrllrrl cal k m1) (aw P iq)))
noncomputable def Ty (cal:Cal) (k m1:Nat):KR:=az P cal (ax P cal m1) none 104 (cL (cL (cR vj))) (Lv.a (Lv.a (Lv.b (A 104)))) (KY cal k m1) (yx cal k) (aw P iq)
noncomputable def Tz (cal:Cal) (k m1:Nat):V4:=fun u0 u2 u6 u7 H n=>ax P cal m1 (Lv.a (Lv.b (A 104))) none 104 (cL (cR vj)) (aw P iq) (yx cal k) (aw P iq) (Tr.set (Tr.set (Tr.set (Tr.set Tr.nil 7 (some u7)) 6 (some u6)) 2 (some u2)) 0 (some u0)) H n []
noncomputable def B104_1 (cal:Cal) (k m1:Nat) (b1:V4) (u0 u2 u6 u7:Value) (H:Hp) (n:Nat):Res:=
binK P .lss 3 (.tmp 7) (.const (.int .i64 8)) u7 (.int .i64 8) fun v_4=>
ifK v_4 (
aq (BJ P 121 u6 u7) fun v_6=>
binK P .neq 3 (.tmp 11) (.const (.int .i64 (-1))) v_6 (.int .i64 (-1)) fun v_a=>
aV v_a true (fun k_c=>
k_c u0 H n) H n fun v_d H_e n_f=>
aV v_a true (fun k_h=>
k_h u7 H_e n_f) H_e n_f fun v_i H_j n_k=>
aV v_a true (fun k_m=>
aq (aX u2) fun a_r=>aq (ak P H_j 105 a_r) fun v_q=>
k_m v_q H_j n_k) H_j n_k fun v_n H_o n_p=>
aV v_a true (fun k_s=>
k_s u7 H_o n_p) H_o n_p fun v_t H_u n_v=>
aV v_a true (fun k_x=>
k_x v_6 H_u n_v) H_u n_v fun v_y H_z n_10=>
aV v_a true (fun k_12=>
aq (nilV v_n) fun v_16=>
k_12 v_16 H_z n_10) H_z n_10 fun v_13 H_14 n_15=>
aV v_a true (fun k_17=>
aq (ay P 117 v_13 2) fun v_1b=>
k_17 v_1b H_14 n_15) H_14 n_15 fun v_18 H_19 n_1a=>
aV v_a true (fun k_1c=>
aq (aW P 115 v_18 v_t) fun v_1g=>
k_1c v_1g H_19 n_1a) H_19 n_1a fun v_1d H_1e n_1f=>
aV v_a true (fun k_1h=>
aq (aW P 114 v_1d v_y) fun v_1l=>
k_1h v_1l H_1e n_1f) H_1e n_1f fun v_1i H_1j n_1k=>
aV v_a true (fun k_1m=>
aq (aX v_1i) fun a_1r=>aq (ak P H_1j 113 a_1r) fun v_1q=>
k_1m v_1q H_1j n_1k) H_1j n_1k fun v_1n H_1o n_1p=>
aV v_a true (fun k_1s=>
eK P cal v_d [v_i,v_1n] H_1o n_1p fun v_1w H_1x n_1y=>
k_1s v_1w H_1x n_1y) H_1o n_1p fun v_1t H_1u n_1v=>
aV v_a true (fun k_1z=>
aq (dJ P v_1t (Op.unary UnOp.not v_1t)) fun v_23=>
k_1z v_23 H_1u n_1v) H_1u n_1v fun v_20 H_21 n_22=>
aq (dq v_a v_20 (.bool false)) fun v_24=>
ifK v_24 (
some ((Value.tuple ⟨[]⟩),H_21,n_22)) (
binK P .add 3 (.tmp 7) (.const (.int .i64 1)) u7 (.int .i64 1) fun v_25=>
b1 u0 u2 u6 v_25 H_21 n_22)) (
some ((Value.tuple ⟨[]⟩),H,n))
noncomputable def C104_1 (cal:Cal) (k m1:Nat) (b1:V4) (u0 u2 u6 u7:Value) (H:Hp) (n:Nat):Res:=B104_1 cal k m1 b1 u0 u2 u6 u7 H n
noncomputable def S104_1 (cal:Cal) (k:Nat):Nat→V4:=fun m=>Nat.rec (motive:=fun _=>V4) (C104_1 cal k 0 (fun _ _ _ _ _ _=>none)) (fun m ih=>C104_1 cal k (m+1) ih) m
theorem h104_1 (cal:Cal) (k m1:Nat) (u0 u2 u6 u7:Value) (H:Hp) (n:Nat):labK (Ty cal k m1) (Tr.set (Tr.set (Tr.set (Tr.set Tr.nil 7 (some u7)) 6 (some u6)) 2 (some u2)) 0 (some u0)) H n []=C104_1 cal k m1 (Tz cal k m1) u0 u2 u6 u7 H n:=by
 refine Eq.trans (b:=B104_1 cal k m1 (Tz cal k m1) u0 u2 u6 u7 H n) (by kernel_rfl) ?_
 rw[C104_1]
theorem q104_1 (cal:Cal) (k:Nat):∀(m:Nat) (u0 u2 u6 u7:Value) (H:Hp) (n:Nat),labK (Ty cal k m) (Tr.set (Tr.set (Tr.set (Tr.set Tr.nil 7 (some u7)) 6 (some u6)) 2 (some u2)) 0 (some u0)) H n []=S104_1 cal k m u0 u2 u6 u7 H n
 | 0,u0,u2,u6,u7,H,n=>by
  rw[h104_1]
  have e:Tz cal k 0=fun _ _ _ _ _ _=>none:=by funext u0 u2 u6 u7 H n; kernel_rfl
  rw[e]; rfl
 | m+1,u0,u2,u6,u7,H,n=>by
  rw[h104_1]
  have e:Tz cal k (m+1)=S104_1 cal k m:=by
   funext u0 u2 u6 u7 H n
   have e:Tz cal k (m+1) u0 u2 u6 u7 H n=labK (Ty cal k m) (Tr.set (Tr.set (Tr.set (Tr.set Tr.nil 7 (some u7)) 6 (some u6)) 2 (some u2)) 0 (some u0)) H n []:=by kernel_rfl
   rw[e]; exact q104_1 ..
  rw[e]; rfl
noncomputable def B104_0 (cal:Cal) (k:Nat) (j1:V4) (v0 v1 v2:Value) (H:Hp) (n:Nat):Res:=
aq (aX v1) fun a_2=>aq (ak P H 121 a_2) fun v_1=>
j1 v0 v2 v_1 (.int .i64 0) H n
noncomputable def C104_0 (cal:Cal) (k:Nat) (v0 v1 v2:Value) (H:Hp) (n:Nat):Res:=B104_0 cal k (S104_1 cal k k) v0 v1 v2 H n
theorem h104_0 (cal:Cal) (k:Nat) (v0 v1 v2:Value) (H:Hp) (n:Nat):aK P cal A (k+1) 104 [v0,v1,v2] H n=C104_0 cal k v0 v1 v2 H n:=by
 have h:aK P cal A (k+1) 104 [v0,v1,v2] H n=B104_0 cal k (fun u0 u2 u6 u7 H n=>labK (Ty cal k k) (Tr.set (Tr.set (Tr.set (Tr.set Tr.nil 7 (some u7)) 6 (some u6)) 2 (some u2)) 0 (some u0)) H n []) v0 v1 v2 H n:=by
  rw[bk (fn:=Go.Proofs.Try.f104) (c:=vj) (rs:=iq) (by kernel_rfl) (by kernel_rfl) (by kernel_rfl) (by kernel_rfl)]
  kernel_rfl
 rw[h,C104_0]
 have e1:(fun u0 u2 u6 u7 H n=>labK (Ty cal k k) (Tr.set (Tr.set (Tr.set (Tr.set Tr.nil 7 (some u7)) 6 (some u6)) 2 (some u2)) 0 (some u0)) H n [])=(S104_1 cal k k):=by funext u0 u2 u6 u7 H n; exact q104_1 ..
 rw[e1]
noncomputable def qv:Code:=cw 105
noncomputable def fY:List ResultVar:=dj 105
noncomputable def K105_p (cal:Cal) (k:Nat):KR:=(cutK (A 105).c (az P cal (ax P cal k) none 105 (cR qv) (Lv.b (A 105)) (aw P fY) X0 (aw P fY)))
noncomputable def PK (cal:Cal) (k:Nat):KR:=(cutK (Lv.b (A 105)).c (az P cal (ax P cal k) none 105 (cR (cR qv)) (Lv.b (Lv.b (A 105))) (aw P fY) X0 (aw P fY)))
noncomputable def K105_prl (cal:Cal) (k:Nat):KR:=(cutK (Lv.a (Lv.b (A 105))).c (az P cal (ax P cal k) none 105 (cR (cL (cR qv))) (Lv.b (Lv.a (Lv.b (A 105)))) (PK cal k) X0 (aw P fY)))
noncomputable def qZ (cal:Cal) (k:Nat):XR:=(upX 0 (PK cal k) X0)
noncomputable def CK (cal:Cal) (k:Nat) (m1:Nat):KR:=(fun T H n D=>ax P cal m1 (Lv.a (Lv.b (Lv.a (Lv.b (A 105))))) none 105 (cL (cR (cL (cR qv)))) (PK cal k) (qZ cal k) (aw P fY) (cutT (Lv.a (Lv.b (Lv.a (Lv.b (A 105))))).c T) H n D)
noncomputable def K105_prlrll (cal:Cal) (k:Nat) (m1:Nat):KR:=(cutK (Lv.a (Lv.a (Lv.b (Lv.a (Lv.b (A 105)))))).c (az P cal (ax P cal m1) none 105 (cR (cL (cL (cR (cL (cR qv)))))) (Lv.b (Lv.a (Lv.a (Lv.b (Lv.a (Lv.b (A 105))))))) (CK cal k m1) (qZ cal k) (aw P fY)))
noncomputable def K105_prlrllr (cal:Cal) (k:Nat) (m1:Nat):KR:=(cutK (Lv.b (Lv.a (Lv.a (Lv.b (Lv.a (Lv.b (A 105))))))).c (az P cal (ax P cal m1) none 105 (cR (cR (cL (cL (cR (cL (cR qv))))))) (Lv.b (Lv.b (Lv.a (Lv.a (Lv.b (Lv.a (Lv.b (A 105)))))))) (CK cal k m1) (qZ cal k) (aw P fY)))
noncomputable def K105_prlrllrr (cal:Cal) (k:Nat) (m1:Nat):KR:=(cutK (Lv.b (Lv.b (Lv.a (Lv.a (Lv.b (Lv.a (Lv.b (A 105)))))))).c (az P cal (ax P cal m1) none 105 (cR (cR (cR (cL (cL (cR (cL (cR qv)))))))) (Lv.b (Lv.b (Lv.b (Lv.a (Lv.a (Lv.b (Lv.a (Lv.b (A 105))))))))) (CK cal k m1) (qZ cal k) (aw P fY)))
noncomputable def K105_pxrlrllrrl (cal:Cal) (k:Nat) (m1:Nat):XR:=(upX 1 (K105_prlrllrr cal k m1) (qZ cal k))
noncomputable def K105_prlrllrrll (cal:Cal) (k:Nat) (m1:Nat):KR:=(cutK (Lv.a (Lv.a (Lv.b (Lv.b (Lv.a (Lv.a (Lv.b (Lv.a (Lv.b (A 105)))))))))).c (az P cal (ax P cal m1) none 105 (cR (cL (cL (cR (cR (cL (cL (cR (cL (cR qv)))))))))) (Lv.b (Lv.a (Lv.a (Lv.b (Lv.b (Lv.a (Lv.a (Lv.b (Lv.a (Lv.b (A 105))))))))))) (K105_prlrllrr cal k m1) (K105_pxrlrllrrl cal k m1) (aw P fY)))
noncomputable def K105_prr (cal:Cal) (k:Nat):KR:=(cutK (Lv.b (Lv.b (A 105))).c (az P cal (ax P cal k) none 105 (cR (cR (cR qv))) (Lv.b (Lv.b (Lv.b (A 105)))) (aw P fY) X0 (aw P fY)))
noncomputable def Tk (cal:Cal) (k m1:Nat):KR:=az P cal (ax P cal m1) none 105 (cL (cL (cR (cL (cR qv))))) (Lv.a (Lv.a (Lv.b (Lv.a (Lv.b (A 105)))))) (CK cal k m1) (qZ cal k) (aw P fY)
noncomputable def TJ (cal:Cal) (k m1:Nat):V4:=fun u0 u7 u8 u9 H n=>ax P cal m1 (Lv.a (Lv.b (Lv.a (Lv.b (A 105))))) none 105 (cL (cR (cL (cR qv)))) (PK cal k) (qZ cal k) (aw P fY) (Tr.set (Tr.set (Tr.set (Tr.set Tr.nil 9 (some u9)) 8 (some u8)) 7 (some u7)) 0 (some u0)) H n []
noncomputable def B105_1 (cal:Cal) (k m1:Nat) (b1:V4) (u0 u7 u8 u9:Value) (H:Hp) (n:Nat):Res:=
binK P .lss 3 (.tmp 9) (.tmp 8) u9 u8 fun v_5=>
ifK v_5 (
aq (aW P 44 u7 u9) fun v_6=>
aq (aX v_6) fun a_8=>aq (ak P H 3 a_8) fun v_7=>
xv P .min [3,3] (Call.mk (Callee.builtin Builtin.min) #[(.tmp 13),(.tmp 14)] #[3,3]) 3 [u0,v_7] H n fun v_c H_d n_e=>
binK P .add 3 (.tmp 9) (.const (.int .i64 1)) u9 (.int .i64 1) fun v_g=>
b1 v_c u7 u8 v_g H_d n_e) (
some (u0,H,n))
noncomputable def IK (cal:Cal) (k m1:Nat) (b1:V4) (u0 u7 u8 u9:Value) (H:Hp) (n:Nat):Res:=B105_1 cal k m1 b1 u0 u7 u8 u9 H n
noncomputable def zV (cal:Cal) (k:Nat):Nat→V4:=fun m=>Nat.rec (motive:=fun _=>V4) (IK cal k 0 (fun _ _ _ _ _ _=>none)) (fun m ih=>IK cal k (m+1) ih) m
theorem h105_1 (cal:Cal) (k m1:Nat) (u0 u7 u8 u9:Value) (H:Hp) (n:Nat):labK (Tk cal k m1) (Tr.set (Tr.set (Tr.set (Tr.set Tr.nil 9 (some u9)) 8 (some u8)) 7 (some u7)) 0 (some u0)) H n []=IK cal k m1 (TJ cal k m1) u0 u7 u8 u9 H n:=by
 refine Eq.trans (b:=B105_1 cal k m1 (TJ cal k m1) u0 u7 u8 u9 H n) (by kernel_rfl) ?_
 rw[IK]
theorem q105_1 (cal:Cal) (k:Nat):∀(m:Nat) (u0 u7 u8 u9:Value) (H:Hp) (n:Nat),labK (Tk cal k m) (Tr.set (Tr.set (Tr.set (Tr.set Tr.nil 9 (some u9)) 8 (some u8)) 7 (some u7)) 0 (some u0)) H n []=zV cal k m u0 u7 u8 u9 H n
 | 0,u0,u7,u8,u9,H,n=>by
  rw[h105_1]
  have e:TJ cal k 0=fun _ _ _ _ _ _=>none:=by funext u0 u7 u8 u9 H n; kernel_rfl
  rw[e]; rfl
 | m+1,u0,u7,u8,u9,H,n=>by
  rw[h105_1]
  have e:TJ cal k (m+1)=zV cal k m:=by
   funext u0 u7 u8 u9 H n
   have e:TJ cal k (m+1) u0 u7 u8 u9 H n=labK (Tk cal k m) (Tr.set (Tr.set (Tr.set (Tr.set Tr.nil 9 (some u9)) 8 (some u8)) 7 (some u7)) 0 (some u0)) H n []:=by kernel_rfl
   rw[e]; exact q105_1 ..
  rw[e]; rfl
noncomputable def B105_0 (cal:Cal) (k:Nat) (j1:V4) (v0 v1:Value) (H:Hp) (n:Nat):Res:=
aq (lenV P 44 v1) fun v_3=>
j1 v0 v1 v_3 (.int .i64 0) H n
noncomputable def Nq (cal:Cal) (k:Nat) (v0 v1:Value) (H:Hp) (n:Nat):Res:=B105_0 cal k (zV cal k k) v0 v1 H n
theorem h105_0 (cal:Cal) (k:Nat) (v0 v1:Value) (H:Hp) (n:Nat):aK P cal A (k+1) 105 [v0,v1] H n=Nq cal k v0 v1 H n:=by
 have h:aK P cal A (k+1) 105 [v0,v1] H n=B105_0 cal k (fun u0 u7 u8 u9 H n=>labK (Tk cal k k) (Tr.set (Tr.set (Tr.set (Tr.set Tr.nil 9 (some u9)) 8 (some u8)) 7 (some u7)) 0 (some u0)) H n []) v0 v1 H n:=by
  rw[bk (fn:=Go.Proofs.Try.f105) (c:=qv) (rs:=fY) (by kernel_rfl) (by kernel_rfl) (by kernel_rfl) (by kernel_rfl)]
  kernel_rfl
 rw[h,Nq]
 have e1:(fun u0 u7 u8 u9 H n=>labK (Tk cal k k) (Tr.set (Tr.set (Tr.set (Tr.set Tr.nil 9 (some u9)) 8 (some u8)) 7 (some u7)) 0 (some u0)) H n [])=(zV cal k k):=by funext u0 u7 u8 u9 H n; exact q105_1 ..
 rw[e1]
noncomputable def qw:Code:=cw 106
noncomputable def fZ:List ResultVar:=dj 106
noncomputable def K106_p (cal:Cal) (k:Nat):KR:=(cutK (A 106).c (az P cal (ax P cal k) none 106 (cR qw) (Lv.b (A 106)) (aw P fZ) X0 (aw P fZ)))
noncomputable def Qj (cal:Cal) (k:Nat):KR:=(cutK (Lv.b (A 106)).c (az P cal (ax P cal k) none 106 (cR (cR qw)) (Lv.b (Lv.b (A 106))) (aw P fZ) X0 (aw P fZ)))
noncomputable def K106_prl (cal:Cal) (k:Nat):KR:=(cutK (Lv.a (Lv.b (A 106))).c (az P cal (ax P cal k) none 106 (cR (cL (cR qw))) (Lv.b (Lv.a (Lv.b (A 106)))) (Qj cal k) X0 (aw P fZ)))
noncomputable def qK (cal:Cal) (k:Nat):XR:=(upX 0 (Qj cal k) X0)
noncomputable def Dj (cal:Cal) (k:Nat) (m1:Nat):KR:=(fun T H n D=>ax P cal m1 (Lv.a (Lv.b (Lv.a (Lv.b (A 106))))) none 106 (cL (cR (cL (cR qw)))) (Qj cal k) (qK cal k) (aw P fZ) (cutT (Lv.a (Lv.b (Lv.a (Lv.b (A 106))))).c T) H n D)
noncomputable def K106_prlrll (cal:Cal) (k:Nat) (m1:Nat):KR:=(cutK (Lv.a (Lv.a (Lv.b (Lv.a (Lv.b (A 106)))))).c (az P cal (ax P cal m1) none 106 (cR (cL (cL (cR (cL (cR qw)))))) (Lv.b (Lv.a (Lv.a (Lv.b (Lv.a (Lv.b (A 106))))))) (Dj cal k m1) (qK cal k) (aw P fZ)))
noncomputable def K106_prlrllr (cal:Cal) (k:Nat) (m1:Nat):KR:=(cutK (Lv.b (Lv.a (Lv.a (Lv.b (Lv.a (Lv.b (A 106))))))).c (az P cal (ax P cal m1) none 106 (cR (cR (cL (cL (cR (cL (cR qw))))))) (Lv.b (Lv.b (Lv.a (Lv.a (Lv.b (Lv.a (Lv.b (A 106)))))))) (Dj cal k m1) (qK cal k) (aw P fZ)))
noncomputable def K106_prlrllrr (cal:Cal) (k:Nat) (m1:Nat):KR:=(cutK (Lv.b (Lv.b (Lv.a (Lv.a (Lv.b (Lv.a (Lv.b (A 106)))))))).c (az P cal (ax P cal m1) none 106 (cR (cR (cR (cL (cL (cR (cL (cR qw)))))))) (Lv.b (Lv.b (Lv.b (Lv.a (Lv.a (Lv.b (Lv.a (Lv.b (A 106))))))))) (Dj cal k m1) (qK cal k) (aw P fZ)))
noncomputable def K106_pxrlrllrrl (cal:Cal) (k:Nat) (m1:Nat):XR:=(upX 1 (K106_prlrllrr cal k m1) (qK cal k))
noncomputable def K106_prlrllrrll (cal:Cal) (k:Nat) (m1:Nat):KR:=(cutK (Lv.a (Lv.a (Lv.b (Lv.b (Lv.a (Lv.a (Lv.b (Lv.a (Lv.b (A 106)))))))))).c (az P cal (ax P cal m1) none 106 (cR (cL (cL (cR (cR (cL (cL (cR (cL (cR qw)))))))))) (Lv.b (Lv.a (Lv.a (Lv.b (Lv.b (Lv.a (Lv.a (Lv.b (Lv.a (Lv.b (A 106))))))))))) (K106_prlrllrr cal k m1) (K106_pxrlrllrrl cal k m1) (aw P fZ)))
noncomputable def K106_prr (cal:Cal) (k:Nat):KR:=(cutK (Lv.b (Lv.b (A 106))).c (az P cal (ax P cal k) none 106 (cR (cR (cR qw))) (Lv.b (Lv.b (Lv.b (A 106)))) (aw P fZ) X0 (aw P fZ)))
noncomputable def TQ (cal:Cal) (k m1:Nat):KR:=az P cal (ax P cal m1) none 106 (cL (cL (cR (cL (cR qw))))) (Lv.a (Lv.a (Lv.b (Lv.a (Lv.b (A 106)))))) (Dj cal k m1) (qK cal k) (aw P fZ)
noncomputable def TV (cal:Cal) (k m1:Nat):V4:=fun u0 u7 u8 u9 H n=>ax P cal m1 (Lv.a (Lv.b (Lv.a (Lv.b (A 106))))) none 106 (cL (cR (cL (cR qw)))) (Qj cal k) (qK cal k) (aw P fZ) (Tr.set (Tr.set (Tr.set (Tr.set Tr.nil 9 (some u9)) 8 (some u8)) 7 (some u7)) 0 (some u0)) H n []
noncomputable def B106_1 (cal:Cal) (k m1:Nat) (b1:V4) (u0 u7 u8 u9:Value) (H:Hp) (n:Nat):Res:=
binK P .lss 3 (.tmp 9) (.tmp 8) u9 u8 fun v_5=>
ifK v_5 (
aq (aW P 44 u7 u9) fun v_6=>
aq (aX v_6) fun a_8=>aq (ak P H 3 a_8) fun v_7=>
xv P .max [3,3] (Call.mk (Callee.builtin Builtin.max) #[(.tmp 13),(.tmp 14)] #[3,3]) 3 [u0,v_7] H n fun v_c H_d n_e=>
binK P .add 3 (.tmp 9) (.const (.int .i64 1)) u9 (.int .i64 1) fun v_g=>
b1 v_c u7 u8 v_g H_d n_e) (
some (u0,H,n))
noncomputable def Jj (cal:Cal) (k m1:Nat) (b1:V4) (u0 u7 u8 u9:Value) (H:Hp) (n:Nat):Res:=B106_1 cal k m1 b1 u0 u7 u8 u9 H n
noncomputable def zW (cal:Cal) (k:Nat):Nat→V4:=fun m=>Nat.rec (motive:=fun _=>V4) (Jj cal k 0 (fun _ _ _ _ _ _=>none)) (fun m ih=>Jj cal k (m+1) ih) m
theorem h106_1 (cal:Cal) (k m1:Nat) (u0 u7 u8 u9:Value) (H:Hp) (n:Nat):labK (TQ cal k m1) (Tr.set (Tr.set (Tr.set (Tr.set Tr.nil 9 (some u9)) 8 (some u8)) 7 (some u7)) 0 (some u0)) H n []=Jj cal k m1 (TV cal k m1) u0 u7 u8 u9 H n:=by
 refine Eq.trans (b:=B106_1 cal k m1 (TV cal k m1) u0 u7 u8 u9 H n) (by kernel_rfl) ?_
 rw[Jj]
theorem q106_1 (cal:Cal) (k:Nat):∀(m:Nat) (u0 u7 u8 u9:Value) (H:Hp) (n:Nat),labK (TQ cal k m) (Tr.set (Tr.set (Tr.set (Tr.set Tr.nil 9 (some u9)) 8 (some u8)) 7 (some u7)) 0 (some u0)) H n []=zW cal k m u0 u7 u8 u9 H n
 | 0,u0,u7,u8,u9,H,n=>by
  rw[h106_1]
  have e:TV cal k 0=fun _ _ _ _ _ _=>none:=by funext u0 u7 u8 u9 H n; kernel_rfl
  rw[e]; rfl
 | m+1,u0,u7,u8,u9,H,n=>by
  rw[h106_1]
  have e:TV cal k (m+1)=zW cal k m:=by
   funext u0 u7 u8 u9 H n
   have e:TV cal k (m+1) u0 u7 u8 u9 H n=labK (TQ cal k m) (Tr.set (Tr.set (Tr.set (Tr.set Tr.nil 9 (some u9)) 8 (some u8)) 7 (some u7)) 0 (some u0)) H n []:=by kernel_rfl
   rw[e]; exact q106_1 ..
  rw[e]; rfl
noncomputable def B106_0 (cal:Cal) (k:Nat) (j1:V4) (v0 v1:Value) (H:Hp) (n:Nat):Res:=
aq (lenV P 44 v1) fun v_3=>
j1 v0 v1 v_3 (.int .i64 0) H n
noncomputable def Nv (cal:Cal) (k:Nat) (v0 v1:Value) (H:Hp) (n:Nat):Res:=B106_0 cal k (zW cal k k) v0 v1 H n
theorem h106_0 (cal:Cal) (k:Nat) (v0 v1:Value) (H:Hp) (n:Nat):aK P cal A (k+1) 106 [v0,v1] H n=Nv cal k v0 v1 H n:=by
 have h:aK P cal A (k+1) 106 [v0,v1] H n=B106_0 cal k (fun u0 u7 u8 u9 H n=>labK (TQ cal k k) (Tr.set (Tr.set (Tr.set (Tr.set Tr.nil 9 (some u9)) 8 (some u8)) 7 (some u7)) 0 (some u0)) H n []) v0 v1 H n:=by
  rw[bk (fn:=Go.Proofs.Try.f106) (c:=qw) (rs:=fZ) (by kernel_rfl) (by kernel_rfl) (by kernel_rfl) (by kernel_rfl)]
  kernel_rfl
 rw[h,Nv]
 have e1:(fun u0 u7 u8 u9 H n=>labK (TQ cal k k) (Tr.set (Tr.set (Tr.set (Tr.set Tr.nil 9 (some u9)) 8 (some u8)) 7 (some u7)) 0 (some u0)) H n [])=(zW cal k k):=by funext u0 u7 u8 u9 H n; exact q106_1 ..
 rw[e1]
noncomputable def ny:Code:=cw 111
noncomputable def eY:List ResultVar:=dj 111
noncomputable def K111_p (cal:Cal) (k:Nat):KR:=(cutK (A 111).c (az P cal (ax P cal k) none 111 (cR ny) (Lv.b (A 111)) (aw P eY) X0 (aw P eY)))
noncomputable def Qq (cal:Cal) (k:Nat):KR:=(cutK (Lv.b (A 111)).c (az P cal (ax P cal k) none 111 (cR (cR ny)) (Lv.b (Lv.b (A 111))) (aw P eY) X0 (aw P eY)))
noncomputable def K111_prl (cal:Cal) (k:Nat):KR:=(cutK (Lv.a (Lv.b (A 111))).c (az P cal (ax P cal k) none 111 (cR (cL (cR ny))) (Lv.b (Lv.a (Lv.b (A 111)))) (Qq cal k) X0 (aw P eY)))
noncomputable def rj (cal:Cal) (k:Nat):XR:=(upX 0 (Qq cal k) X0)
noncomputable def Dq (cal:Cal) (k:Nat) (m1:Nat):KR:=(fun T H n D=>ax P cal m1 (Lv.a (Lv.b (Lv.a (Lv.b (A 111))))) none 111 (cL (cR (cL (cR ny)))) (Qq cal k) (rj cal k) (aw P eY) (cutT (Lv.a (Lv.b (Lv.a (Lv.b (A 111))))).c T) H n D)
noncomputable def K111_prlrll (cal:Cal) (k:Nat) (m1:Nat):KR:=(cutK (Lv.a (Lv.a (Lv.b (Lv.a (Lv.b (A 111)))))).c (az P cal (ax P cal m1) none 111 (cR (cL (cL (cR (cL (cR ny)))))) (Lv.b (Lv.a (Lv.a (Lv.b (Lv.a (Lv.b (A 111))))))) (Dq cal k m1) (rj cal k) (aw P eY)))
noncomputable def K111_prlrllr (cal:Cal) (k:Nat) (m1:Nat):KR:=(cutK (Lv.b (Lv.a (Lv.a (Lv.b (Lv.a (Lv.b (A 111))))))).c (az P cal (ax P cal m1) none 111 (cR (cR (cL (cL (cR (cL (cR ny))))))) (Lv.b (Lv.b (Lv.a (Lv.a (Lv.b (Lv.a (Lv.b (A 111)))))))) (Dq cal k m1) (rj cal k) (aw P eY)))
noncomputable def vq (cal:Cal) (k:Nat) (m1:Nat):KR:=(cutK (Lv.b (Lv.b (Lv.a (Lv.a (Lv.b (Lv.a (Lv.b (A 111)))))))).c (az P cal (ax P cal m1) none 111 (cR (cR (cR (cL (cL (cR (cL (cR ny)))))))) (Lv.b (Lv.b (Lv.b (Lv.a (Lv.a (Lv.b (Lv.a (Lv.b (A 111))))))))) (Dq cal k m1) (rj cal k) (aw P eY)))
noncomputable def vJ (cal:Cal) (k:Nat) (m1:Nat):XR:=(upX 1 (vq cal k m1) (rj cal k))
noncomputable def K111_prlrllrrll (cal:Cal) (k:Nat) (m1:Nat):KR:=(cutK (Lv.a (Lv.a (Lv.b (Lv.b (Lv.a (Lv.a (Lv.b (Lv.a (Lv.b (A 111)))))))))).c (az P cal (ax P cal m1) none 111 (cR (cL (cL (cR (cR (cL (cL (cR (cL (cR ny)))))))))) (Lv.b (Lv.a (Lv.a (Lv.b (Lv.b (Lv.a (Lv.a (Lv.b (Lv.a (Lv.b (A 111))))))))))) (vq cal k m1) (vJ cal k m1) (aw P eY)))
noncomputable def K111_prlrllrrllr (cal:Cal) (k:Nat) (m1:Nat):KR:=(cutK (Lv.b (Lv.a (Lv.a (Lv.b (Lv.b (Lv.a (Lv.a (Lv.b (Lv.a (Lv.b (A 111))))))))))).c (az P cal (ax P cal m1) none 111 (cR (cR (cL (cL (cR (cR (cL (cL (cR (cL (cR ny))))))))))) (Lv.b (Lv.b (Lv.a (Lv.a (Lv.b (Lv.b (Lv.a (Lv.a (Lv.b (Lv.a (Lv.b (A 111)))))))))))) (vq cal k m1) (vJ cal k m1) (aw P eY)))
noncomputable def K111_prlrllrrllrrl (cal:Cal) (k:Nat) (m1:Nat):KR:=(cutK (Lv.a (Lv.b (Lv.b (Lv.a (Lv.a (Lv.b (Lv.b (Lv.a (Lv.a (Lv.b (Lv.a (Lv.b (A 111))))))))))))).c (az P cal (ax P cal m1) none 111 (cR (cL (cR (cR (cL (cL (cR (cR (cL (cL (cR (cL (cR ny))))))))))))) (Lv.b (Lv.a (Lv.b (Lv.b (Lv.a (Lv.a (Lv.b (Lv.b (Lv.a (Lv.a (Lv.b (Lv.a (Lv.b (A 111)))))))))))))) (vq cal k m1) (vJ cal k m1) (aw P eY)))
noncomputable def K111_prr (cal:Cal) (k:Nat):KR:=(cutK (Lv.b (Lv.b (A 111))).c (az P cal (ax P cal k) none 111 (cR (cR (cR ny))) (Lv.b (Lv.b (Lv.b (A 111)))) (aw P eY) X0 (aw P eY)))
noncomputable def TW (cal:Cal) (k m1:Nat):KR:=az P cal (ax P cal m1) none 111 (cL (cL (cR (cL (cR ny))))) (Lv.a (Lv.a (Lv.b (Lv.a (Lv.b (A 111)))))) (Dq cal k m1) (rj cal k) (aw P eY)
noncomputable def TX (cal:Cal) (k m1:Nat):V4:=fun u0 u3 u11 u12 H n=>ax P cal m1 (Lv.a (Lv.b (Lv.a (Lv.b (A 111))))) none 111 (cL (cR (cL (cR ny)))) (Qq cal k) (rj cal k) (aw P eY) (Tr.set (Tr.set (Tr.set (Tr.set Tr.nil 12 (some u12)) 11 (some u11)) 3 (some u3)) 0 (some u0)) H n []
noncomputable def B111_1 (cal:Cal) (k m1:Nat) (b1:V4) (u0 u3 u11 u12:Value) (H:Hp) (n:Nat):Res:=
binK P .lss 3 (.tmp 12) (.tmp 11) u12 u11 fun v_d=>
ifK v_d (
aq (aX u3) fun a_i=>aq (ak P H 111 a_i) fun v_h=>
aY P cal 69 [u0,v_h,u12] H n fun v_k H_l n_m=>
ifK v_k (
some ((.bool false),H_l,n_m)) (
binK P .add 3 (.tmp 12) (.const (.int .i64 1)) u12 (.int .i64 1) fun v_o=>
b1 u0 u3 u11 v_o H_l n_m)) (
some ((.bool true),H,n))
noncomputable def C111_1 (cal:Cal) (k m1:Nat) (b1:V4) (u0 u3 u11 u12:Value) (H:Hp) (n:Nat):Res:=B111_1 cal k m1 b1 u0 u3 u11 u12 H n
noncomputable def S111_1 (cal:Cal) (k:Nat):Nat→V4:=fun m=>Nat.rec (motive:=fun _=>V4) (C111_1 cal k 0 (fun _ _ _ _ _ _=>none)) (fun m ih=>C111_1 cal k (m+1) ih) m
theorem h111_1 (cal:Cal) (k m1:Nat) (u0 u3 u11 u12:Value) (H:Hp) (n:Nat):labK (TW cal k m1) (Tr.set (Tr.set (Tr.set (Tr.set Tr.nil 12 (some u12)) 11 (some u11)) 3 (some u3)) 0 (some u0)) H n []=C111_1 cal k m1 (TX cal k m1) u0 u3 u11 u12 H n:=by
 refine Eq.trans (b:=B111_1 cal k m1 (TX cal k m1) u0 u3 u11 u12 H n) (by kernel_rfl) ?_
 rw[C111_1]
theorem q111_1 (cal:Cal) (k:Nat):∀(m:Nat) (u0 u3 u11 u12:Value) (H:Hp) (n:Nat),labK (TW cal k m) (Tr.set (Tr.set (Tr.set (Tr.set Tr.nil 12 (some u12)) 11 (some u11)) 3 (some u3)) 0 (some u0)) H n []=S111_1 cal k m u0 u3 u11 u12 H n
 | 0,u0,u3,u11,u12,H,n=>by
  rw[h111_1]
  have e:TX cal k 0=fun _ _ _ _ _ _=>none:=by funext u0 u3 u11 u12 H n; kernel_rfl
  rw[e]; rfl
 | m+1,u0,u3,u11,u12,H,n=>by
  rw[h111_1]
  have e:TX cal k (m+1)=S111_1 cal k m:=by
   funext u0 u3 u11 u12 H n
   have e:TX cal k (m+1) u0 u3 u11 u12 H n=labK (TW cal k m) (Tr.set (Tr.set (Tr.set (Tr.set Tr.nil 12 (some u12)) 11 (some u11)) 3 (some u3)) 0 (some u0)) H n []:=by kernel_rfl
   rw[e]; exact q111_1 ..
  rw[e]; rfl
noncomputable def B111_0 (cal:Cal) (k:Nat) (j1:V4) (v0 v1:Value) (H:Hp) (n:Nat):Res:=
boxK 111 v1 H n fun v_1 H_2 n_3=>
aq (nilV v0) fun v_6=>
aq (ay P 117 v_6 0) fun v_7=>
aq (ay P 35 v_7 0) fun v_8=>
aq (aX v_8) fun a_a=>aq (ak P H_2 31 a_a) fun v_9=>
aq (lenV P 31 v_9) fun v_b=>
j1 v0 v_1 v_b (.int .i64 0) H_2 n_3
noncomputable def C111_0 (cal:Cal) (k:Nat) (v0 v1:Value) (H:Hp) (n:Nat):Res:=B111_0 cal k (S111_1 cal k k) v0 v1 H n
theorem h111_0 (cal:Cal) (k:Nat) (v0 v1:Value) (H:Hp) (n:Nat):aK P cal A (k+1) 111 [v0,v1] H n=C111_0 cal k v0 v1 H n:=by
 have h:aK P cal A (k+1) 111 [v0,v1] H n=B111_0 cal k (fun u0 u3 u11 u12 H n=>labK (TW cal k k) (Tr.set (Tr.set (Tr.set (Tr.set Tr.nil 12 (some u12)) 11 (some u11)) 3 (some u3)) 0 (some u0)) H n []) v0 v1 H n:=by
  rw[bk (fn:=Go.Proofs.Try.f111) (c:=ny) (rs:=eY) (by kernel_rfl) (by kernel_rfl) (by kernel_rfl) (by kernel_rfl)]
  kernel_rfl
 rw[h,C111_0]
 have e1:(fun u0 u3 u11 u12 H n=>labK (TW cal k k) (Tr.set (Tr.set (Tr.set (Tr.set Tr.nil 12 (some u12)) 11 (some u11)) 3 (some u3)) 0 (some u0)) H n [])=(S111_1 cal k k):=by funext u0 u3 u11 u12 H n; exact q111_1 ..
 rw[e1]
noncomputable def nz:Code:=cw 112
noncomputable def dk:List ResultVar:=dj 112
noncomputable def K112_pr (cal:Cal) (k:Nat):KR:=(cutK (Lv.b (A 112)).c (az P cal (ax P cal k) none 112 (cR (cR nz)) (Lv.b (Lv.b (A 112))) (aw P dk) X0 (aw P dk)))
noncomputable def rW (cal:Cal) (k:Nat):XR:=(upX 0 (aw P dk) X0)
noncomputable def GX (cal:Cal) (k:Nat) (m1:Nat):KR:=(fun T H n D=>ax P cal m1 (Lv.a (Lv.b (Lv.b (A 112)))) none 112 (cL (cR (cR nz))) (aw P dk) (rW cal k) (aw P dk) (cutT (Lv.a (Lv.b (Lv.b (A 112)))).c T) H n D)
noncomputable def K112_prrll (cal:Cal) (k:Nat) (m1:Nat):KR:=(cutK (Lv.a (Lv.a (Lv.b (Lv.b (A 112))))).c (az P cal (ax P cal m1) none 112 (cR (cL (cL (cR (cR nz))))) (Lv.b (Lv.a (Lv.a (Lv.b (Lv.b (A 112)))))) (GX cal k m1) (rW cal k) (aw P dk)))
noncomputable def K112_prrlll (cal:Cal) (k:Nat) (m1:Nat):KR:=(cutK (Lv.a (Lv.a (Lv.a (Lv.b (Lv.b (A 112)))))).c (az P cal (ax P cal m1) none 112 (cR (cL (cL (cL (cR (cR nz)))))) (Lv.b (Lv.a (Lv.a (Lv.a (Lv.b (Lv.b (A 112))))))) (K112_prrll cal k m1) (rW cal k) (aw P dk)))
noncomputable def EY (cal:Cal) (k:Nat) (m1:Nat):KR:=(cutK (Lv.b (Lv.a (Lv.a (Lv.b (Lv.b (A 112)))))).c (az P cal (ax P cal m1) none 112 (cR (cR (cL (cL (cR (cR nz)))))) (Lv.b (Lv.b (Lv.a (Lv.a (Lv.b (Lv.b (A 112))))))) (GX cal k m1) (rW cal k) (aw P dk)))
noncomputable def K112_pxrrllrl (cal:Cal) (k:Nat) (m1:Nat):XR:=(upX 1 (EY cal k m1) (rW cal k))
noncomputable def K112_prrllrll (cal:Cal) (k:Nat) (m1:Nat):KR:=(cutK (Lv.a (Lv.a (Lv.b (Lv.a (Lv.a (Lv.b (Lv.b (A 112)))))))).c (az P cal (ax P cal m1) none 112 (cR (cL (cL (cR (cL (cL (cR (cR nz)))))))) (Lv.b (Lv.a (Lv.a (Lv.b (Lv.a (Lv.a (Lv.b (Lv.b (A 112))))))))) (EY cal k m1) (K112_pxrrllrl cal k m1) (aw P dk)))
noncomputable def K112_prrllrllr (cal:Cal) (k:Nat) (m1:Nat):KR:=(cutK (Lv.b (Lv.a (Lv.a (Lv.b (Lv.a (Lv.a (Lv.b (Lv.b (A 112))))))))).c (az P cal (ax P cal m1) none 112 (cR (cR (cL (cL (cR (cL (cL (cR (cR nz))))))))) (Lv.b (Lv.b (Lv.a (Lv.a (Lv.b (Lv.a (Lv.a (Lv.b (Lv.b (A 112)))))))))) (EY cal k m1) (K112_pxrrllrl cal k m1) (aw P dk)))
noncomputable def K112_p (cal:Cal) (k:Nat):KR:=(cutK (A 112).c (az P cal (ax P cal k) none 112 (cR nz) (Lv.b (A 112)) (aw P dk) X0 (aw P dk)))
noncomputable def K112_pl (cal:Cal) (k:Nat):KR:=(cutK (Lv.a (A 112)).c (az P cal (ax P cal k) none 112 (cR (cL nz)) (Lv.b (Lv.a (A 112))) (K112_p cal k) X0 (aw P dk)))
noncomputable def E112_3 (cal:Cal) (k m1:Nat):KR:=az P cal (ax P cal m1) none 112 (cR (cR (cL (cL (cR (cR nz)))))) (Lv.b (Lv.b (Lv.a (Lv.a (Lv.b (Lv.b (A 112))))))) (GX cal k m1) (rW cal k) (aw P dk)
noncomputable def TY (cal:Cal) (k m1:Nat):KR:=az P cal (ax P cal m1) none 112 (cL (cL (cR (cR nz)))) (Lv.a (Lv.a (Lv.b (Lv.b (A 112))))) (GX cal k m1) (rW cal k) (aw P dk)
noncomputable def EZ (cal:Cal) (k m1:Nat):V4:=fun u0 u3 u4 u7 H n=>ax P cal m1 (Lv.a (Lv.b (Lv.b (A 112)))) none 112 (cL (cR (cR nz))) (aw P dk) (rW cal k) (aw P dk) (Tr.set (Tr.set (Tr.set (Tr.set Tr.nil 7 (some u7)) 4 (some u4)) 3 (some u3)) 0 (some u0)) H n []
noncomputable def E112_1 (cal:Cal) (k:Nat):KR:=az P cal (ax P cal k) none 112 (cR nz) (Lv.b (A 112)) (aw P dk) X0 (aw P dk)
noncomputable def B112_3 (cal:Cal) (k m1:Nat) (b2:V4) (u0 u3 u4 u7:Value) (H:Hp) (n:Nat):Res:=
binK P .add 3 (.tmp 24) (.const (.int .i64 1)) u7 (.int .i64 1) fun v_e=>
b2 u0 u3 u4 v_e H n
noncomputable def Nw (cal:Cal) (k m1:Nat) (b2:V4) (u0 u3 u4 u7:Value) (H:Hp) (n:Nat):Res:=B112_3 cal k m1 b2 u0 u3 u4 u7 H n
theorem h112_3 (cal:Cal) (k m1:Nat) (u0 u3 u4 u7:Value) (H:Hp) (n:Nat):labK (E112_3 cal k m1) (Tr.set (Tr.set (Tr.set (Tr.set Tr.nil 7 (some u7)) 4 (some u4)) 3 (some u3)) 0 (some u0)) H n []=Nw cal k m1 (EZ cal k m1) u0 u3 u4 u7 H n:=by
 refine Eq.trans (b:=B112_3 cal k m1 (EZ cal k m1) u0 u3 u4 u7 H n) (by kernel_rfl) ?_
 rw[Nw]
noncomputable def B112_2 (cal:Cal) (k m1:Nat) (j3:V4) (b2:V4) (u0 u3 u4 u7:Value) (H:Hp) (n:Nat):Res:=
aq (aX u3) fun a_5=>aq (ak P H 105 a_5) fun v_4=>
aq (nilV v_4) fun v_6=>
aq (ay P 117 v_6 0) fun v_7=>
aq (ay P 35 v_7 0) fun v_8=>
aq (aX v_8) fun a_a=>aq (ak P H 31 a_a) fun v_9=>
aq (lenV P 31 v_9) fun v_b=>
binK P .lss 3 (.tmp 16) (.tmp 22) u7 v_b fun v_c=>
ifK v_c (
aY P cal 76 [u0] H n fun v_h H_i n_j=>
rowK P 44 1 [(0,u7)] H_i n_j fun v_l H_m n_n=>
stK (dW P (bare H_m n_n) 44 44 v_h v_l) fun v_o H_p n_q=>
aq (aX u3) fun a_t=>aq (ak P H_p 105 a_t) fun v_s=>
aY P cal 88 [v_s,v_o] H_p n_q fun v_v H_w n_x=>
ifK v_v (
aq (aX u4) fun a_z=>aq (ak P H_w 170 a_z) fun v_y=>
binK P .add 3 (.tmp 36) (.const (.int .i64 1)) u7 (.int .i64 1) fun v_12=>
eK P cal v_y [v_o,v_12] H_w n_x fun v_13 H_14 n_15=>
j3 u0 u3 u4 u7 H_14 n_15) (
j3 u0 u3 u4 u7 H_w n_x)) (
some ((Value.tuple ⟨[]⟩),H,n))
noncomputable def Nx (cal:Cal) (k m1:Nat) (b2:V4) (u0 u3 u4 u7:Value) (H:Hp) (n:Nat):Res:=B112_2 cal k m1 (Nw cal k m1 b2) b2 u0 u3 u4 u7 H n
noncomputable def Ny (cal:Cal) (k:Nat):Nat→V4:=fun m=>Nat.rec (motive:=fun _=>V4) (Nx cal k 0 (fun _ _ _ _ _ _=>none)) (fun m ih=>Nx cal k (m+1) ih) m
theorem h112_2 (cal:Cal) (k m1:Nat) (u0 u3 u4 u7:Value) (H:Hp) (n:Nat):labK (TY cal k m1) (Tr.set (Tr.set (Tr.set (Tr.set Tr.nil 7 (some u7)) 4 (some u4)) 3 (some u3)) 0 (some u0)) H n []=Nx cal k m1 (EZ cal k m1) u0 u3 u4 u7 H n:=by
 refine Eq.trans (b:=B112_2 cal k m1 (fun u0 u3 u4 u7 H n=>labK (E112_3 cal k m1) (Tr.set (Tr.set (Tr.set (Tr.set Tr.nil 7 (some u7)) 4 (some u4)) 3 (some u3)) 0 (some u0)) H n []) (EZ cal k m1) u0 u3 u4 u7 H n) (by kernel_rfl) ?_
 rw[Nx]
 have e3:(fun u0 u3 u4 u7 H n=>labK (E112_3 cal k m1) (Tr.set (Tr.set (Tr.set (Tr.set Tr.nil 7 (some u7)) 4 (some u4)) 3 (some u3)) 0 (some u0)) H n [])=(Nw cal k m1 (EZ cal k m1)):=by funext u0 u3 u4 u7 H n; exact h112_3 ..
 rw[e3]
theorem q112_2 (cal:Cal) (k:Nat):∀(m:Nat) (u0 u3 u4 u7:Value) (H:Hp) (n:Nat),labK (TY cal k m) (Tr.set (Tr.set (Tr.set (Tr.set Tr.nil 7 (some u7)) 4 (some u4)) 3 (some u3)) 0 (some u0)) H n []=Ny cal k m u0 u3 u4 u7 H n
 | 0,u0,u3,u4,u7,H,n=>by
  rw[h112_2]
  have e:EZ cal k 0=fun _ _ _ _ _ _=>none:=by funext u0 u3 u4 u7 H n; kernel_rfl
  rw[e]; rfl
 | m+1,u0,u3,u4,u7,H,n=>by
  rw[h112_2]
  have e:EZ cal k (m+1)=Ny cal k m:=by
   funext u0 u3 u4 u7 H n
   have e:EZ cal k (m+1) u0 u3 u4 u7 H n=labK (TY cal k m) (Tr.set (Tr.set (Tr.set (Tr.set Tr.nil 7 (some u7)) 4 (some u4)) 3 (some u3)) 0 (some u0)) H n []:=by kernel_rfl
   rw[e]; exact q112_2 ..
  rw[e]; rfl
noncomputable def B112_1 (cal:Cal) (k:Nat) (j2:V4) (u0 u1 u3 u4:Value) (H:Hp) (n:Nat):Res:=
j2 u0 u3 u4 u1 H n
noncomputable def TZ (cal:Cal) (k:Nat) (u0 u1 u3 u4:Value) (H:Hp) (n:Nat):Res:=B112_1 cal k (Ny cal k k) u0 u1 u3 u4 H n
theorem h112_1 (cal:Cal) (k:Nat) (u0 u1 u3 u4:Value) (H:Hp) (n:Nat):labK (E112_1 cal k) (Tr.set (Tr.set (Tr.set (Tr.set Tr.nil 4 (some u4)) 3 (some u3)) 1 (some u1)) 0 (some u0)) H n []=TZ cal k u0 u1 u3 u4 H n:=by
 refine Eq.trans (b:=B112_1 cal k (fun u0 u3 u4 u7 H n=>labK (TY cal k k) (Tr.set (Tr.set (Tr.set (Tr.set Tr.nil 7 (some u7)) 4 (some u4)) 3 (some u3)) 0 (some u0)) H n []) u0 u1 u3 u4 H n) (by kernel_rfl) ?_
 rw[TZ]
 have e2:(fun u0 u3 u4 u7 H n=>labK (TY cal k k) (Tr.set (Tr.set (Tr.set (Tr.set Tr.nil 7 (some u7)) 4 (some u4)) 3 (some u3)) 0 (some u0)) H n [])=(Ny cal k k):=by funext u0 u3 u4 u7 H n; exact q112_2 ..
 rw[e2]
noncomputable def B112_0 (cal:Cal) (k:Nat) (j1:V4) (v0 v1 v2 v3 v4:Value) (H:Hp) (n:Nat):Res:=
aq (lenV P 44 v0) fun v_17=>
aq (aX v2) fun a_19=>aq (ak P H 44 a_19) fun v_18=>
aq (lenV P 44 v_18) fun v_1a=>
binK P .gtr 3 (.tmp 10) (.tmp 12) v_17 v_1a fun v_1b=>
ifK v_1b (
aq (bz P 44 v2 v0 H) fun H_1e=>
j1 v0 v1 v3 v4 H_1e n) (
j1 v0 v1 v3 v4 H n)
noncomputable def Dv (cal:Cal) (k:Nat) (v0 v1 v2 v3 v4:Value) (H:Hp) (n:Nat):Res:=B112_0 cal k (TZ cal k) v0 v1 v2 v3 v4 H n
theorem h112_0 (cal:Cal) (k:Nat) (v0 v1 v2 v3 v4:Value) (H:Hp) (n:Nat):aK P cal A (k+1) 112 [v0,v1,v2,v3,v4] H n=Dv cal k v0 v1 v2 v3 v4 H n:=by
 have h:aK P cal A (k+1) 112 [v0,v1,v2,v3,v4] H n=B112_0 cal k (fun u0 u1 u3 u4 H n=>labK (E112_1 cal k) (Tr.set (Tr.set (Tr.set (Tr.set Tr.nil 4 (some u4)) 3 (some u3)) 1 (some u1)) 0 (some u0)) H n []) v0 v1 v2 v3 v4 H n:=by
  rw[bk (fn:=Go.Proofs.Try.f112) (c:=nz) (rs:=dk) (by kernel_rfl) (by kernel_rfl) (by kernel_rfl) (by kernel_rfl)]
  kernel_rfl
 rw[h,Dv]
 have e1:(fun u0 u1 u3 u4 H n=>labK (E112_1 cal k) (Tr.set (Tr.set (Tr.set (Tr.set Tr.nil 4 (some u4)) 3 (some u3)) 1 (some u1)) 0 (some u0)) H n [])=(TZ cal k):=by funext u0 u1 u3 u4 H n; exact h112_1 ..
 rw[e1]
noncomputable def code113:Code:=cw 113
noncomputable def yy:List ResultVar:=dj 113
noncomputable def K113_p (cal:Cal) (k:Nat):KR:=(cutK (A 113).c (az P cal (ax P cal k) none 113 (cR code113) (Lv.b (A 113)) (aw P yy) X0 (aw P yy)))
noncomputable def K113_pr (cal:Cal) (k:Nat):KR:=(cutK (Lv.b (A 113)).c (az P cal (ax P cal k) none 113 (cR (cR code113)) (Lv.b (Lv.b (A 113))) (aw P yy) X0 (aw P yy)))
noncomputable def B113_0 (cal:Cal) (k:Nat) (v0 v1:Value) (H:Hp) (n:Nat):Res:=
boxK 105 v0 H n fun v_1 H_2 n_3=>
boxK 3 v1 H_2 n_3 fun v_4 H_5 n_6=>
some ((Value.func (Fn.func 119) ⟨[]⟩ ⟨[v_4,v_1]⟩),H_5,n_6)
noncomputable def C113_0 (cal:Cal) (k:Nat) (v0 v1:Value) (H:Hp) (n:Nat):Res:=B113_0 cal k v0 v1 H n
theorem h113_0 (cal:Cal) (k:Nat) (v0 v1:Value) (H:Hp) (n:Nat):aK P cal A (k+1) 113 [v0,v1] H n=C113_0 cal k v0 v1 H n:=by
 have h:aK P cal A (k+1) 113 [v0,v1] H n=B113_0 cal k v0 v1 H n:=by
  rw[bk (fn:=Go.Proofs.Try.f113) (c:=code113) (rs:=yy) (by kernel_rfl) (by kernel_rfl) (by kernel_rfl) (by kernel_rfl)]
  kernel_rfl
 rw[h,C113_0]
noncomputable def code114:Code:=cw 114
noncomputable def yz:List ResultVar:=dj 114
noncomputable def K114_p (cal:Cal) (k:Nat):KR:=(cutK (A 114).c (az P cal (ax P cal k) none 114 (cR code114) (Lv.b (A 114)) (aw P yz) X0 (aw P yz)))
noncomputable def K114_pr (cal:Cal) (k:Nat):KR:=(cutK (Lv.b (A 114)).c (az P cal (ax P cal k) none 114 (cR (cR code114)) (Lv.b (Lv.b (A 114))) (aw P yz) X0 (aw P yz)))
noncomputable def B114_0 (cal:Cal) (k:Nat) (v0:Value) (H:Hp) (n:Nat):Res:=
boxK 53 v0 H n fun v_1 H_2 n_3=>
aq (ay P 53 v_1 0) fun v_5=>
aq (aX v_5) fun a_7=>aq (ak P H_2 3 a_7) fun v_6=>
binK P .geq 3 (.tmp 4) (.const (.int .i64 0)) v_6 (.int .i64 0) fun v_8=>
aV v_8 true (fun k_a=>
aq (ay P 53 v_1 0) fun v_e=>
k_a v_e H_2 n_3) H_2 n_3 fun v_b H_c n_d=>
aV v_8 true (fun k_f=>
aq (aX v_b) fun a_k=>aq (ak P H_c 3 a_k) fun v_j=>
k_f v_j H_c n_d) H_c n_d fun v_g H_h n_i=>
aV v_8 true (fun k_l=>
aq (ay P 53 v_1 1) fun v_p=>
k_l v_p H_h n_i) H_h n_i fun v_m H_n n_o=>
aV v_8 true (fun k_q=>
aq (aX v_m) fun a_v=>aq (ak P H_n 3 a_v) fun v_u=>
k_q v_u H_n n_o) H_n n_o fun v_r H_s n_t=>
aV v_8 true (fun k_w=>
binK P .leq 3 (.tmp 8) (.tmp 10) v_g v_r fun v_10=>
k_w v_10 H_s n_t) H_s n_t fun v_x H_y n_z=>
aq (dq v_8 v_x (.bool false)) fun v_11=>
aV v_11 true (fun k_13=>
aq (ay P 53 v_1 1) fun v_17=>
k_13 v_17 H_y n_z) H_y n_z fun v_14 H_15 n_16=>
aV v_11 true (fun k_18=>
aq (aX v_14) fun a_1d=>aq (ak P H_15 3 a_1d) fun v_1c=>
k_18 v_1c H_15 n_16) H_15 n_16 fun v_19 H_1a n_1b=>
aV v_11 true (fun k_1e=>
binK P .leq 3 (.tmp 15) (.const (.int .i64 1000)) v_19 (.int .i64 1000) fun v_1i=>
k_1e v_1i H_1a n_1b) H_1a n_1b fun v_1f H_1g n_1h=>
aq (dq v_11 v_1f (.bool false)) fun v_1j=>
some (v_1j,H_1g,n_1h)
noncomputable def Nz (cal:Cal) (k:Nat) (v0:Value) (H:Hp) (n:Nat):Res:=B114_0 cal k v0 H n
theorem h114_0 (cal:Cal) (k:Nat) (v0:Value) (H:Hp) (n:Nat):aK P cal A (k+1) 114 [v0] H n=Nz cal k v0 H n:=by
 have h:aK P cal A (k+1) 114 [v0] H n=B114_0 cal k v0 H n:=by
  rw[bk (fn:=Go.Proofs.Try.f114) (c:=code114) (rs:=yz) (by kernel_rfl) (by kernel_rfl) (by kernel_rfl) (by kernel_rfl)]
  kernel_rfl
 rw[h,Nz]
noncomputable def oY:Code:=cw 115
noncomputable def dV:List ResultVar:=dj 115
noncomputable def K115_p (cal:Cal) (k:Nat):KR:=(cutK (A 115).c (az P cal (ax P cal k) none 115 (cR oY) (Lv.b (A 115)) (aw P dV) X0 (aw P dV)))
noncomputable def K115_pr (cal:Cal) (k:Nat):KR:=(cutK (Lv.b (A 115)).c (az P cal (ax P cal k) none 115 (cR (cR oY)) (Lv.b (Lv.b (A 115))) (aw P dV) X0 (aw P dV)))
noncomputable def KZ (cal:Cal) (k:Nat):KR:=(cutK (Lv.b (Lv.b (A 115))).c (az P cal (ax P cal k) none 115 (cR (cR (cR oY))) (Lv.b (Lv.b (Lv.b (A 115)))) (aw P dV) X0 (aw P dV)))
noncomputable def K115_prrl (cal:Cal) (k:Nat):KR:=(cutK (Lv.a (Lv.b (Lv.b (A 115)))).c (az P cal (ax P cal k) none 115 (cR (cL (cR (cR oY)))) (Lv.b (Lv.a (Lv.b (Lv.b (A 115))))) (KZ cal k) X0 (aw P dV)))
noncomputable def oJ (cal:Cal) (k:Nat):XR:=(upX 0 (KZ cal k) X0)
noncomputable def yZ (cal:Cal) (k:Nat) (m1:Nat):KR:=(fun T H n D=>ax P cal m1 (Lv.a (Lv.b (Lv.a (Lv.b (Lv.b (A 115)))))) none 115 (cL (cR (cL (cR (cR oY))))) (KZ cal k) (oJ cal k) (aw P dV) (cutT (Lv.a (Lv.b (Lv.a (Lv.b (Lv.b (A 115)))))).c T) H n D)
noncomputable def K115_prrlrll (cal:Cal) (k:Nat) (m1:Nat):KR:=(cutK (Lv.a (Lv.a (Lv.b (Lv.a (Lv.b (Lv.b (A 115))))))).c (az P cal (ax P cal m1) none 115 (cR (cL (cL (cR (cL (cR (cR oY))))))) (Lv.b (Lv.a (Lv.a (Lv.b (Lv.a (Lv.b (Lv.b (A 115)))))))) (yZ cal k m1) (oJ cal k) (aw P dV)))
noncomputable def K115_prrlrllr (cal:Cal) (k:Nat) (m1:Nat):KR:=(cutK (Lv.b (Lv.a (Lv.a (Lv.b (Lv.a (Lv.b (Lv.b (A 115)))))))).c (az P cal (ax P cal m1) none 115 (cR (cR (cL (cL (cR (cL (cR (cR oY)))))))) (Lv.b (Lv.b (Lv.a (Lv.a (Lv.b (Lv.a (Lv.b (Lv.b (A 115))))))))) (yZ cal k m1) (oJ cal k) (aw P dV)))
noncomputable def K115_prrlrllrr (cal:Cal) (k:Nat) (m1:Nat):KR:=(cutK (Lv.b (Lv.b (Lv.a (Lv.a (Lv.b (Lv.a (Lv.b (Lv.b (A 115))))))))).c (az P cal (ax P cal m1) none 115 (cR (cR (cR (cL (cL (cR (cL (cR (cR oY))))))))) (Lv.b (Lv.b (Lv.b (Lv.a (Lv.a (Lv.b (Lv.a (Lv.b (Lv.b (A 115)))))))))) (yZ cal k m1) (oJ cal k) (aw P dV)))
noncomputable def K115_pxrrlrllrrl (cal:Cal) (k:Nat) (m1:Nat):XR:=(upX 1 (K115_prrlrllrr cal k m1) (oJ cal k))
noncomputable def K115_prrlrllrrll (cal:Cal) (k:Nat) (m1:Nat):KR:=(cutK (Lv.a (Lv.a (Lv.b (Lv.b (Lv.a (Lv.a (Lv.b (Lv.a (Lv.b (Lv.b (A 115))))))))))).c (az P cal (ax P cal m1) none 115 (cR (cL (cL (cR (cR (cL (cL (cR (cL (cR (cR oY))))))))))) (Lv.b (Lv.a (Lv.a (Lv.b (Lv.b (Lv.a (Lv.a (Lv.b (Lv.a (Lv.b (Lv.b (A 115)))))))))))) (K115_prrlrllrr cal k m1) (K115_pxrrlrllrrl cal k m1) (aw P dV)))
noncomputable def K115_prrr (cal:Cal) (k:Nat):KR:=(cutK (Lv.b (Lv.b (Lv.b (A 115)))).c (az P cal (ax P cal k) none 115 (cR (cR (cR (cR oY)))) (Lv.b (Lv.b (Lv.b (Lv.b (A 115))))) (aw P dV) X0 (aw P dV)))
noncomputable def TK (cal:Cal) (k m1:Nat):KR:=az P cal (ax P cal m1) none 115 (cL (cL (cR (cL (cR (cR oY)))))) (Lv.a (Lv.a (Lv.b (Lv.a (Lv.b (Lv.b (A 115))))))) (yZ cal k m1) (oJ cal k) (aw P dV)
noncomputable def Uj (cal:Cal) (k m1:Nat):V3:=fun u4 u5 u10 H n=>ax P cal m1 (Lv.a (Lv.b (Lv.a (Lv.b (Lv.b (A 115)))))) none 115 (cL (cR (cL (cR (cR oY))))) (KZ cal k) (oJ cal k) (aw P dV) (Tr.set (Tr.set (Tr.set Tr.nil 10 (some u10)) 5 (some u5)) 4 (some u4)) H n []
noncomputable def B115_1 (cal:Cal) (k m1:Nat) (b1:V3) (u4 u5 u10:Value) (H:Hp) (n:Nat):Res:=
binK P .lss 3 (.tmp 10) (.const (.int .i64 8)) u10 (.int .i64 8) fun v_h=>
ifK v_h (
aq (aX u5) fun a_l=>aq (ak P H 113 a_l) fun v_m=>
aq (aX u5) fun a_o=>aq (ak P H 113 a_o) fun v_p=>
aq (ay P 113 u5 2) fun v_r=>
effK P [(.l 113 a_o),(.l 113 a_l)] H n (fun H_s n_t k_u=>
aY P cal 121 [] H_s n_t fun v_y H_z n_10=>
k_u v_y H_z n_10) fun v_v H_w n_x=>
effK P [(.l 113 a_o)] H_w n_x (fun H_11 n_12 k_13=>
aY P cal 120 [v_m,u10,v_v] H_11 n_12 fun v_17 H_18 n_19=>
k_13 v_17 H_18 n_19) fun v_14 H_15 n_16=>
effK P [(.l 113 a_o)] H_15 n_16 (fun H_1a n_1b k_1c=>
aY P cal 122 [] H_1a n_1b fun v_1g H_1h n_1i=>
k_1c v_1g H_1h n_1i) fun v_1d H_1e n_1f=>
aY P cal 120 [v_p,u10,v_1d] H_1e n_1f fun v_1j H_1k n_1l=>
aq (iQ P 53 [(0,v_14),(1,v_1j)]) fun v_1m=>
aq (aW P 111 v_r u10) fun v_1n=>
aq (bz P 53 v_1n v_1m H_1k) fun H_1p=>
binK P .add 3 (.tmp 10) (.const (.int .i64 1)) u10 (.int .i64 1) fun v_1q=>
b1 u4 u5 v_1q H_1p n_1l) (
aq (aX u5) fun a_1t=>aq (ak P H 113 a_1t) fun v_1s=>
aq (bz P 113 u4 v_1s H) fun H_1v=>
aq (resV P (Tr.set Tr.nil 4 (some u4)) H_1v dV) fun v_1w=>some (oneV v_1w,H_1v,n))
noncomputable def Nk (cal:Cal) (k m1:Nat) (b1:V3) (u4 u5 u10:Value) (H:Hp) (n:Nat):Res:=B115_1 cal k m1 b1 u4 u5 u10 H n
noncomputable def Uq (cal:Cal) (k:Nat):Nat→V3:=fun m=>Nat.rec (motive:=fun _=>V3) (Nk cal k 0 (fun _ _ _ _ _=>none)) (fun m ih=>Nk cal k (m+1) ih) m
theorem h115_1 (cal:Cal) (k m1:Nat) (u4 u5 u10:Value) (H:Hp) (n:Nat):labK (TK cal k m1) (Tr.set (Tr.set (Tr.set Tr.nil 10 (some u10)) 5 (some u5)) 4 (some u4)) H n []=Nk cal k m1 (Uj cal k m1) u4 u5 u10 H n:=by
 refine Eq.trans (b:=B115_1 cal k m1 (Uj cal k m1) u4 u5 u10 H n) (by kernel_rfl) ?_
 rw[Nk]
theorem q115_1 (cal:Cal) (k:Nat):∀(m:Nat) (u4 u5 u10:Value) (H:Hp) (n:Nat),labK (TK cal k m) (Tr.set (Tr.set (Tr.set Tr.nil 10 (some u10)) 5 (some u5)) 4 (some u4)) H n []=Uq cal k m u4 u5 u10 H n
 | 0,u4,u5,u10,H,n=>by
  rw[h115_1]
  have e:Uj cal k 0=fun _ _ _ _ _=>none:=by funext u4 u5 u10 H n; kernel_rfl
  rw[e]; rfl
 | m+1,u4,u5,u10,H,n=>by
  rw[h115_1]
  have e:Uj cal k (m+1)=Uq cal k m:=by
   funext u4 u5 u10 H n
   have e:Uj cal k (m+1) u4 u5 u10 H n=labK (TK cal k m) (Tr.set (Tr.set (Tr.set Tr.nil 10 (some u10)) 5 (some u5)) 4 (some u4)) H n []:=by kernel_rfl
   rw[e]; exact q115_1 ..
  rw[e]; rfl
noncomputable def B115_0 (cal:Cal) (k:Nat) (j1:V3) (v0 v1:Value) (H:Hp) (n:Nat):Res:=
boxK 111 v1 H n fun v_1 H_2 n_3=>
dZ P 113 H_2 n_3 fun v_4 H_5 n_6=>
aq (aX v_1) fun a_9=>aq (ak P H_5 111 a_9) fun v_8=>
aq (iQ P 113 [(0,v0),(1,v_8)]) fun v_a=>
dZ P 113 H_5 n_6 fun v_b H_c n_d=>
aq (bz P 113 v_b v_a H_c) fun H_f=>
j1 v_4 v_b (.int .i64 0) H_f n_d
noncomputable def NJ (cal:Cal) (k:Nat) (v0 v1:Value) (H:Hp) (n:Nat):Res:=B115_0 cal k (Uq cal k k) v0 v1 H n
theorem h115_0 (cal:Cal) (k:Nat) (v0 v1:Value) (H:Hp) (n:Nat):aK P cal A (k+1) 115 [v0,v1] H n=NJ cal k v0 v1 H n:=by
 have h:aK P cal A (k+1) 115 [v0,v1] H n=B115_0 cal k (fun u4 u5 u10 H n=>labK (TK cal k k) (Tr.set (Tr.set (Tr.set Tr.nil 10 (some u10)) 5 (some u5)) 4 (some u4)) H n []) v0 v1 H n:=by
  rw[bk (fn:=Go.Proofs.Try.f115) (c:=oY) (rs:=dV) (by kernel_rfl) (by kernel_rfl) (by kernel_rfl) (by kernel_rfl)]
  kernel_rfl
 rw[h,NJ]
 have e1:(fun u4 u5 u10 H n=>labK (TK cal k k) (Tr.set (Tr.set (Tr.set Tr.nil 10 (some u10)) 5 (some u5)) 4 (some u4)) H n [])=(Uq cal k k):=by funext u4 u5 u10 H n; exact q115_1 ..
 rw[e1]
noncomputable def qx:Code:=cw 119
noncomputable def eZ:List ResultVar:=dj 119
noncomputable def K119_p (cal:Cal) (k:Nat):KR:=(cutK (A 119).c (az P cal (ax P cal k) none 119 (cR qx) (Lv.b (A 119)) (aw P eZ) X0 (aw P eZ)))
noncomputable def K119_pl (cal:Cal) (k:Nat):KR:=(cutK (Lv.a (A 119)).c (az P cal (ax P cal k) none 119 (cR (cL qx)) (Lv.b (Lv.a (A 119))) (K119_p cal k) X0 (aw P eZ)))
noncomputable def K119_pr (cal:Cal) (k:Nat):KR:=(cutK (Lv.b (A 119)).c (az P cal (ax P cal k) none 119 (cR (cR qx)) (Lv.b (Lv.b (A 119))) (aw P eZ) X0 (aw P eZ)))
noncomputable def uX (cal:Cal) (k:Nat):XR:=(upX 0 (aw P eZ) X0)
noncomputable def GY (cal:Cal) (k:Nat) (m1:Nat):KR:=(fun T H n D=>ax P cal m1 (Lv.a (Lv.b (Lv.b (A 119)))) none 119 (cL (cR (cR qx))) (aw P eZ) (uX cal k) (aw P eZ) (cutT (Lv.a (Lv.b (Lv.b (A 119)))).c T) H n D)
noncomputable def K119_prrll (cal:Cal) (k:Nat) (m1:Nat):KR:=(cutK (Lv.a (Lv.a (Lv.b (Lv.b (A 119))))).c (az P cal (ax P cal m1) none 119 (cR (cL (cL (cR (cR qx))))) (Lv.b (Lv.a (Lv.a (Lv.b (Lv.b (A 119)))))) (GY cal k m1) (uX cal k) (aw P eZ)))
noncomputable def K119_prrllr (cal:Cal) (k:Nat) (m1:Nat):KR:=(cutK (Lv.b (Lv.a (Lv.a (Lv.b (Lv.b (A 119)))))).c (az P cal (ax P cal m1) none 119 (cR (cR (cL (cL (cR (cR qx)))))) (Lv.b (Lv.b (Lv.a (Lv.a (Lv.b (Lv.b (A 119))))))) (GY cal k m1) (uX cal k) (aw P eZ)))
noncomputable def Dw (cal:Cal) (k:Nat) (m1:Nat):KR:=(cutK (Lv.b (Lv.b (Lv.a (Lv.a (Lv.b (Lv.b (A 119))))))).c (az P cal (ax P cal m1) none 119 (cR (cR (cR (cL (cL (cR (cR qx))))))) (Lv.b (Lv.b (Lv.b (Lv.a (Lv.a (Lv.b (Lv.b (A 119)))))))) (GY cal k m1) (uX cal k) (aw P eZ)))
noncomputable def K119_pxrrllrrl (cal:Cal) (k:Nat) (m1:Nat):XR:=(upX 1 (Dw cal k m1) (uX cal k))
noncomputable def K119_prrllrrll (cal:Cal) (k:Nat) (m1:Nat):KR:=(cutK (Lv.a (Lv.a (Lv.b (Lv.b (Lv.a (Lv.a (Lv.b (Lv.b (A 119))))))))).c (az P cal (ax P cal m1) none 119 (cR (cL (cL (cR (cR (cL (cL (cR (cR qx))))))))) (Lv.b (Lv.a (Lv.a (Lv.b (Lv.b (Lv.a (Lv.a (Lv.b (Lv.b (A 119)))))))))) (Dw cal k m1) (K119_pxrrllrrl cal k m1) (aw P eZ)))
noncomputable def K119_prrllrrllr (cal:Cal) (k:Nat) (m1:Nat):KR:=(cutK (Lv.b (Lv.a (Lv.a (Lv.b (Lv.b (Lv.a (Lv.a (Lv.b (Lv.b (A 119)))))))))).c (az P cal (ax P cal m1) none 119 (cR (cR (cL (cL (cR (cR (cL (cL (cR (cR qx)))))))))) (Lv.b (Lv.b (Lv.a (Lv.a (Lv.b (Lv.b (Lv.a (Lv.a (Lv.b (Lv.b (A 119))))))))))) (Dw cal k m1) (K119_pxrrllrrl cal k m1) (aw P eZ)))
noncomputable def Uv (cal:Cal) (k m1:Nat):KR:=az P cal (ax P cal m1) none 119 (cL (cL (cR (cR qx)))) (Lv.a (Lv.a (Lv.b (Lv.b (A 119))))) (GY cal k m1) (uX cal k) (aw P eZ)
noncomputable def Uw (cal:Cal) (k m1:Nat):V5:=fun u0 u1 u2 u14 u15 H n=>ax P cal m1 (Lv.a (Lv.b (Lv.b (A 119)))) none 119 (cL (cR (cR qx))) (aw P eZ) (uX cal k) (aw P eZ) (Tr.set (Tr.set (Tr.set (Tr.set (Tr.set Tr.nil 15 (some u15)) 14 (some u14)) 2 (some u2)) 1 (some u1)) 0 (some u0)) H n []
noncomputable def B119_1 (cal:Cal) (k m1:Nat) (b1:V5) (u0 u1 u2 u14 u15:Value) (H:Hp) (n:Nat):Res:=
binK P .lss 3 (.tmp 15) (.tmp 14) u15 u14 fun v_h=>
ifK v_h (
aq (aX u2) fun a_k=>aq (ak P H 105 a_k) fun v_l=>
aq (aX u1) fun a_m=>aq (ak P H 3 a_m) fun v_n=>
aq (nilV v_l) fun v_p=>
aq (ay P 117 v_p 1) fun v_q=>
aq (aW P 109 v_q v_n) fun v_r=>
aq (aW P 108 v_r u15) fun v_s=>
aq (aX v_s) fun a_t=>aq (ak P H 4 a_t) fun v_u=>
bJ v_u true (fun k_w=>
k_w u0 .p H n) .p H n fun v_x x_y H_z n_10=>
bJ v_u true (fun k_12=>
k_12 u15 .p H_z n_10) .p H_z n_10 fun v_13 x_14 H_15 n_16=>
bJ v_u true (fun k_18=>
eK P cal v_x [v_13] H_15 n_16 fun v_1d H_1e n_1f=>
k_18 v_1d .e H_1e n_1f) .e H_15 n_16 fun v_19 x_1a H_1b n_1c=>
bJ v_u true (fun k_1g=>
aq (dJ P v_19 (Op.unary UnOp.not v_19)) fun v_1l=>
k_1g v_1l .p H_1b n_1c) .p H_1b n_1c fun v_1h x_1i H_1j n_1k=>
aq (dq v_u v_1h (.bool false)) fun v_1m=>
ifK v_1m (
some ((Value.tuple ⟨[]⟩),H_1j,n_1k)) (
binK P .add 3 (.tmp 15) (.const (.int .i64 1)) u15 (.int .i64 1) fun v_1n=>
b1 u0 u1 u2 u14 v_1n H_1j n_1k)) (
some ((Value.tuple ⟨[]⟩),H,n))
noncomputable def EK (cal:Cal) (k m1:Nat) (b1:V5) (u0 u1 u2 u14 u15:Value) (H:Hp) (n:Nat):Res:=B119_1 cal k m1 b1 u0 u1 u2 u14 u15 H n
noncomputable def Fj (cal:Cal) (k:Nat):Nat→V5:=fun m=>Nat.rec (motive:=fun _=>V5) (EK cal k 0 (fun _ _ _ _ _ _ _=>none)) (fun m ih=>EK cal k (m+1) ih) m
theorem h119_1 (cal:Cal) (k m1:Nat) (u0 u1 u2 u14 u15:Value) (H:Hp) (n:Nat):labK (Uv cal k m1) (Tr.set (Tr.set (Tr.set (Tr.set (Tr.set Tr.nil 15 (some u15)) 14 (some u14)) 2 (some u2)) 1 (some u1)) 0 (some u0)) H n []=EK cal k m1 (Uw cal k m1) u0 u1 u2 u14 u15 H n:=by
 refine Eq.trans (b:=B119_1 cal k m1 (Uw cal k m1) u0 u1 u2 u14 u15 H n) (by kernel_rfl) ?_
 rw[EK]
theorem q119_1 (cal:Cal) (k:Nat):∀(m:Nat) (u0 u1 u2 u14 u15:Value) (H:Hp) (n:Nat),labK (Uv cal k m) (Tr.set (Tr.set (Tr.set (Tr.set (Tr.set Tr.nil 15 (some u15)) 14 (some u14)) 2 (some u2)) 1 (some u1)) 0 (some u0)) H n []=Fj cal k m u0 u1 u2 u14 u15 H n
 | 0,u0,u1,u2,u14,u15,H,n=>by
  rw[h119_1]
  have e:Uw cal k 0=fun _ _ _ _ _ _ _=>none:=by funext u0 u1 u2 u14 u15 H n; kernel_rfl
  rw[e]; rfl
 | m+1,u0,u1,u2,u14,u15,H,n=>by
  rw[h119_1]
  have e:Uw cal k (m+1)=Fj cal k m:=by
   funext u0 u1 u2 u14 u15 H n
   have e:Uw cal k (m+1) u0 u1 u2 u14 u15 H n=labK (Uv cal k m) (Tr.set (Tr.set (Tr.set (Tr.set (Tr.set Tr.nil 15 (some u15)) 14 (some u14)) 2 (some u2)) 1 (some u1)) 0 (some u0)) H n []:=by kernel_rfl
   rw[e]; exact q119_1 ..
  rw[e]; rfl
noncomputable def B119_0 (cal:Cal) (k:Nat) (j1:V5) (v0 v1 v2:Value) (H:Hp) (n:Nat):Res:=
aq (aX v1) fun a_3=>aq (ak P H 3 a_3) fun v_2=>
eK P cal v0 [v_2] H n fun v_4 H_5 n_6=>
aq (dJ P v_4 (Op.unary UnOp.not v_4)) fun v_7=>
ifK v_7 (
some ((Value.tuple ⟨[]⟩),H_5,n_6)) (
aq (aX v2) fun a_9=>aq (ak P H_5 105 a_9) fun v_8=>
aq (nilV v_8) fun v_a=>
aq (ay P 117 v_a 0) fun v_b=>
aq (ay P 35 v_b 0) fun v_c=>
aq (aX v_c) fun a_e=>aq (ak P H_5 31 a_e) fun v_d=>
aq (lenV P 31 v_d) fun v_f=>
j1 v0 v1 v2 v_f (.int .i64 0) H_5 n_6)
noncomputable def zX (cal:Cal) (k:Nat) (v0 v1 v2:Value) (H:Hp) (n:Nat):Res:=B119_0 cal k (Fj cal k k) v0 v1 v2 H n
theorem h119_0 (cal:Cal) (k:Nat) (v0 v1 v2:Value) (H:Hp) (n:Nat):aK P cal A (k+1) 119 [v0,v1,v2] H n=zX cal k v0 v1 v2 H n:=by
 have h:aK P cal A (k+1) 119 [v0,v1,v2] H n=B119_0 cal k (fun u0 u1 u2 u14 u15 H n=>labK (Uv cal k k) (Tr.set (Tr.set (Tr.set (Tr.set (Tr.set Tr.nil 15 (some u15)) 14 (some u14)) 2 (some u2)) 1 (some u1)) 0 (some u0)) H n []) v0 v1 v2 H n:=by
  rw[bk (fn:=Go.Proofs.Try.f119) (c:=qx) (rs:=eZ) (by kernel_rfl) (by kernel_rfl) (by kernel_rfl) (by kernel_rfl)]
  kernel_rfl
 rw[h,zX]
 have e1:(fun u0 u1 u2 u14 u15 H n=>labK (Uv cal k k) (Tr.set (Tr.set (Tr.set (Tr.set (Tr.set Tr.nil 15 (some u15)) 14 (some u14)) 2 (some u2)) 1 (some u1)) 0 (some u0)) H n [])=(Fj cal k k):=by funext u0 u1 u2 u14 u15 H n; exact q119_1 ..
 rw[e1]
noncomputable def Qv:Code:=cw 120
noncomputable def rq:List ResultVar:=dj 120
noncomputable def K120_p (cal:Cal) (k:Nat):KR:=(cutK (A 120).c (az P cal (ax P cal k) none 120 (cR Qv) (Lv.b (A 120)) (aw P rq) X0 (aw P rq)))
noncomputable def K120_pr (cal:Cal) (k:Nat):KR:=(cutK (Lv.b (A 120)).c (az P cal (ax P cal k) none 120 (cR (cR Qv)) (Lv.b (Lv.b (A 120))) (aw P rq) X0 (aw P rq)))
noncomputable def K120_prr (cal:Cal) (k:Nat):KR:=(cutK (Lv.b (Lv.b (A 120))).c (az P cal (ax P cal k) none 120 (cR (cR (cR Qv))) (Lv.b (Lv.b (Lv.b (A 120)))) (aw P rq) X0 (aw P rq)))
noncomputable def B120_0 (cal:Cal) (k:Nat) (v0 v1 v2:Value) (H:Hp) (n:Nat):Res:=
boxK 113 v0 H n fun v_1 H_2 n_3=>
boxK 179 v2 H_2 n_3 fun v_4 H_5 n_6=>
aq (aX v_1) fun a_8=>aq (ak P H_5 113 a_8) fun v_9=>
aq (ay P 179 v_4 1) fun v_a=>
aq (aX v_a) fun a_b=>aq (ak P H_5 129 a_b) fun v_c=>
aq (ay P 179 v_4 1) fun v_d=>
aq (aX v_d) fun a_e=>aq (ak P H_5 129 a_e) fun v_f=>
aq (ay P 113 v_1 1) fun v_h=>
aq (aW P 111 v_h v1) fun v_i=>
aq (aX v_i) fun a_j=>aq (ak P H_5 53 a_j) fun v_k=>
effK P [(.l 53 a_j),(.l 129 a_e)] H_5 n_6 (fun H_l n_m k_n=>
aY P cal 98 [v_9,v_c] H_l n_m fun v_r H_s n_t=>
k_n v_r H_s n_t) fun v_o H_p n_q=>
eK P cal v_f [v_k] H_p n_q fun v_u H_v n_w=>
binK P .sub 3 (.tmp 11) (.tmp 18) v_o v_u fun v_x=>
aq (ay P 179 v_4 2) fun v_z=>
aq (aX v_z) fun a_10=>aq (ak P H_v 160 a_10) fun v_11=>
aq (ay P 179 v_4 0) fun v_12=>
aq (aX v_12) fun a_13=>aq (ak P H_v 129 a_13) fun v_14=>
aq (ay P 113 v_1 1) fun v_16=>
aq (aW P 111 v_16 v1) fun v_17=>
aq (aX v_17) fun a_18=>aq (ak P H_v 53 a_18) fun v_19=>
aq (ay P 113 v_1 0) fun v_1a=>
aq (aX v_1a) fun a_1b=>aq (ak P H_v 3 a_1b) fun v_1c=>
binK P .sub 3 (.tmp 30) (.tmp 31) v_1c v_x fun v_1e=>
aq (Ax P 44 1 [(0,v_1e)]) fun q_1h=>newK q_1h.1 q_1h.2 H_v n_w fun H_1f n_1g=>
effK P [(.a n_w q_1h.1 q_1h.2),(.l 3 a_1b),(.l 160 a_10)] H_1f n_1g (fun H_1i n_1j k_1k=>
eK P cal v_14 [v_19] H_1i n_1j fun v_1o H_1p n_1q=>
k_1k v_1o H_1p n_1q) fun v_1l H_1m n_1n=>
eK P cal v_11 [v_1l,(.slice (some ⟨n_w,0,none⟩) 1 1)] H_1m n_1n fun v_1r H_1s n_1t=>
some (v_1r,H_1s,n_1t)
noncomputable def NQ (cal:Cal) (k:Nat) (v0 v1 v2:Value) (H:Hp) (n:Nat):Res:=B120_0 cal k v0 v1 v2 H n
theorem h120_0 (cal:Cal) (k:Nat) (v0 v1 v2:Value) (H:Hp) (n:Nat):aK P cal A (k+1) 120 [v0,v1,v2] H n=NQ cal k v0 v1 v2 H n:=by
 have h:aK P cal A (k+1) 120 [v0,v1,v2] H n=B120_0 cal k v0 v1 v2 H n:=by
  rw[bk (fn:=Go.Proofs.Try.f120) (c:=Qv) (rs:=rq) (by kernel_rfl) (by kernel_rfl) (by kernel_rfl) (by kernel_rfl)]
  kernel_rfl
 rw[h,NQ]
noncomputable def code121:Code:=cw 121
noncomputable def rx:List ResultVar:=dj 121
noncomputable def K121_p (cal:Cal) (k:Nat):KR:=(cutK (A 121).c (az P cal (ax P cal k) none 121 (cR code121) (Lv.b (A 121)) (aw P rx) X0 (aw P rx)))
noncomputable def K121_pr (cal:Cal) (k:Nat):KR:=(cutK (Lv.b (A 121)).c (az P cal (ax P cal k) none 121 (cR (cR code121)) (Lv.b (Lv.b (A 121))) (aw P rx) X0 (aw P rx)))
noncomputable def B121_0 (cal:Cal) (k:Nat) (H:Hp) (n:Nat):Res:=
dZ P 179 H n fun v_1 H_2 n_3=>
aq (iQ P 179 [(0,(Value.func (.func 72) #[] #[])),(1,(Value.func (.func 73) #[] #[])),(2,(Value.func (.func 106) #[] #[]))]) fun v_4=>
aq (bz P 179 v_1 v_4 H_2) fun H_6=>
aq (resV P (Tr.set Tr.nil 0 (some v_1)) H_6 rx) fun v_7=>some (oneV v_7,H_6,n_3)
noncomputable def NV (cal:Cal) (k:Nat) (H:Hp) (n:Nat):Res:=B121_0 cal k  H n
theorem h121_0 (cal:Cal) (k:Nat) (H:Hp) (n:Nat):aK P cal A (k+1) 121 [] H n=NV cal k  H n:=by
 have h:aK P cal A (k+1) 121 [] H n=B121_0 cal k  H n:=by
  rw[bk (fn:=Go.Proofs.Try.f121) (c:=code121) (rs:=rx) (by kernel_rfl) (by kernel_rfl) (by kernel_rfl) (by kernel_rfl)]
  kernel_rfl
 rw[h,NV]
noncomputable def code122:Code:=cw 122
noncomputable def ry:List ResultVar:=dj 122
noncomputable def K122_p (cal:Cal) (k:Nat):KR:=(cutK (A 122).c (az P cal (ax P cal k) none 122 (cR code122) (Lv.b (A 122)) (aw P ry) X0 (aw P ry)))
noncomputable def K122_pr (cal:Cal) (k:Nat):KR:=(cutK (Lv.b (A 122)).c (az P cal (ax P cal k) none 122 (cR (cR code122)) (Lv.b (Lv.b (A 122))) (aw P ry) X0 (aw P ry)))
noncomputable def B122_0 (cal:Cal) (k:Nat) (H:Hp) (n:Nat):Res:=
dZ P 179 H n fun v_1 H_2 n_3=>
aq (iQ P 179 [(0,(Value.func (.func 73) #[] #[])),(1,(Value.func (.func 72) #[] #[])),(2,(Value.func (.func 105) #[] #[]))]) fun v_4=>
aq (bz P 179 v_1 v_4 H_2) fun H_6=>
aq (resV P (Tr.set Tr.nil 0 (some v_1)) H_6 ry) fun v_7=>some (oneV v_7,H_6,n_3)
noncomputable def NW (cal:Cal) (k:Nat) (H:Hp) (n:Nat):Res:=B122_0 cal k  H n
theorem h122_0 (cal:Cal) (k:Nat) (H:Hp) (n:Nat):aK P cal A (k+1) 122 [] H n=NW cal k  H n:=by
 have h:aK P cal A (k+1) 122 [] H n=B122_0 cal k  H n:=by
  rw[bk (fn:=Go.Proofs.Try.f122) (c:=code122) (rs:=ry) (by kernel_rfl) (by kernel_rfl) (by kernel_rfl) (by kernel_rfl)]
  kernel_rfl
 rw[h,NW]
end Go.Proofs.Ytekajfobmnedjaa.G
