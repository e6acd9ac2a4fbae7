/- The texts of functions, each with the proof that the evaluator says the same. -/
import Derived.Test.YtekajfobmnedjaaH1
open Go Go.Ev
set_option maxRecDepth 1000000
set_option linter.unusedVariables false
noncomputable section
namespace Go.Proofs.Ytekajfobmnedjaa.G
noncomputable def zz:Code:=cw 98
noncomputable def jQ:List ResultVar:=dk 98
noncomputable def K98_p (cal:Cal) (k:Nat):KR:=(cutK (A 98).c (az P cal (ax P cal k) none 98 (cR zz) (Lv.b (A 98)) (aw P jQ) X0 (aw P jQ)))
noncomputable def K98_pr (cal:Cal) (k:Nat):KR:=(cutK (Lv.b (A 98)).c (az P cal (ax P cal k) none 98 (cR (cR zz)) (Lv.b (Lv.b (A 98))) (aw P jQ) X0 (aw P jQ)))
noncomputable def YY (cal:Cal) (k:Nat):KR:=(cutK (Lv.b (Lv.b (A 98))).c (az P cal (ax P cal k) none 98 (cR (cR (cR zz))) (Lv.b (Lv.b (Lv.b (A 98)))) (aw P jQ) X0 (aw P jQ)))
noncomputable def K98_prrl (cal:Cal) (k:Nat):KR:=(cutK (Lv.a (Lv.b (Lv.b (A 98)))).c (az P cal (ax P cal k) none 98 (cR (cL (cR (cR zz)))) (Lv.b (Lv.a (Lv.b (Lv.b (A 98))))) (YY cal k) X0 (aw P jQ)))
noncomputable def vv (cal:Cal) (k:Nat):XR:=(upX 0 (YY cal k) X0)
noncomputable def Iq (cal:Cal) (k:Nat) (m1:Nat):KR:=(fun T H n D=>ax P cal m1 (Lv.a (Lv.b (Lv.a (Lv.b (Lv.b (A 98)))))) none 98 (cL (cR (cL (cR (cR zz))))) (YY cal k) (vv cal k) (aw P jQ) (cutT (Lv.a (Lv.b (Lv.a (Lv.b (Lv.b (A 98)))))).c T) H n D)
noncomputable def K98_prrlrll (cal:Cal) (k:Nat) (m1:Nat):KR:=(cutK (Lv.a (Lv.a (Lv.b (Lv.a (Lv.b (Lv.b (A 98))))))).c (az P cal (ax P cal m1) none 98 (cR (cL (cL (cR (cL (cR (cR zz))))))) (Lv.b (Lv.a (Lv.a (Lv.b (Lv.a (Lv.b (Lv.b (A 98)))))))) (Iq cal k m1) (vv cal k) (aw P jQ)))
noncomputable def K98_prrlrllr (cal:Cal) (k:Nat) (m1:Nat):KR:=(cutK (Lv.b (Lv.a (Lv.a (Lv.b (Lv.a (Lv.b (Lv.b (A 98)))))))).c (az P cal (ax P cal m1) none 98 (cR (cR (cL (cL (cR (cL (cR (cR zz)))))))) (Lv.b (Lv.b (Lv.a (Lv.a (Lv.b (Lv.a (Lv.b (Lv.b (A 98))))))))) (Iq cal k m1) (vv cal k) (aw P jQ)))
noncomputable def K98_prrlrllrr (cal:Cal) (k:Nat) (m1:Nat):KR:=(cutK (Lv.b (Lv.b (Lv.a (Lv.a (Lv.b (Lv.a (Lv.b (Lv.b (A 98))))))))).c (az P cal (ax P cal m1) none 98 (cR (cR (cR (cL (cL (cR (cL (cR (cR zz))))))))) (Lv.b (Lv.b (Lv.b (Lv.a (Lv.a (Lv.b (Lv.a (Lv.b (Lv.b (A 98)))))))))) (Iq cal k m1) (vv cal k) (aw P jQ)))
noncomputable def K98_pxrrlrllrrl (cal:Cal) (k:Nat) (m1:Nat):XR:=(upX 1 (K98_prrlrllrr cal k m1) (vv cal k))
noncomputable def K98_prrlrllrrll (cal:Cal) (k:Nat) (m1:Nat):KR:=(cutK (Lv.a (Lv.a (Lv.b (Lv.b (Lv.a (Lv.a (Lv.b (Lv.a (Lv.b (Lv.b (A 98))))))))))).c (az P cal (ax P cal m1) none 98 (cR (cL (cL (cR (cR (cL (cL (cR (cL (cR (cR zz))))))))))) (Lv.b (Lv.a (Lv.a (Lv.b (Lv.b (Lv.a (Lv.a (Lv.b (Lv.a (Lv.b (Lv.b (A 98)))))))))))) (K98_prrlrllrr cal k m1) (K98_pxrrlrllrrl cal k m1) (aw P jQ)))
noncomputable def K98_prrr (cal:Cal) (k:Nat):KR:=(cutK (Lv.b (Lv.b (Lv.b (A 98)))).c (az P cal (ax P cal k) none 98 (cR (cR (cR (cR zz)))) (Lv.b (Lv.b (Lv.b (Lv.b (A 98))))) (aw P jQ) X0 (aw P jQ)))
noncomputable def E98_1 (cal:Cal) (k m1:Nat):KR:=az P cal (ax P cal m1) none 98 (cL (cL (cR (cL (cR (cR zz)))))) (Lv.a (Lv.a (Lv.b (Lv.a (Lv.b (Lv.b (A 98))))))) (Iq cal k m1) (vv cal k) (aw P jQ)
noncomputable def R98_1 (cal:Cal) (k m1:Nat):V4:=fun u1 u5 u9 u10 H n=>ax P cal m1 (Lv.a (Lv.b (Lv.a (Lv.b (Lv.b (A 98)))))) none 98 (cL (cR (cL (cR (cR zz))))) (YY cal k) (vv cal k) (aw P jQ) (Tr.set (Tr.set (Tr.set (Tr.set Tr.nil 10 (some u10)) 9 (some u9)) 5 (some u5)) 1 (some u1)) H n []
noncomputable def B98_1 (cal:Cal) (k m1:Nat) (b1:V4) (u1 u5 u9 u10:Value) (H:Hp) (n:Nat):Res:=
binK P .lss 3 (.tmp 10) (.const (.int .i64 8)) u10 (.int .i64 8) fun v_a=>
ifK v_a (
aq (Bk P 111 u9 u10) fun v_b=>
cQ P 53 H n fun v_c H_d n_e=>
aq (bx P 53 v_c v_b H_d) fun H_g=>
aq (aX v_c) fun a_k=>aq (ak P H_g 53 a_k) fun v_j=>
ew P cal u1 [v_j] H_g n_e fun v_l H_m n_n=>
binK P .add 3 (.tmp 13) (.tmp 16) u5 v_l fun v_o=>
binK P .add 3 (.tmp 10) (.const (.int .i64 1)) u10 (.int .i64 1) fun v_q=>
b1 u1 v_o u9 v_q H_m n_n) (
some (u5,H,n))
noncomputable def C98_1 (cal:Cal) (k m1:Nat) (b1:V4) (u1 u5 u9 u10:Value) (H:Hp) (n:Nat):Res:=B98_1 cal k m1 b1 u1 u5 u9 u10 H n
noncomputable def S98_1 (cal:Cal) (k:Nat):Nat→V4:=fun m=>Nat.rec (motive:=fun _=>V4) (C98_1 cal k 0 (fun _ _ _ _ _ _=>none)) (fun m ih=>C98_1 cal k (m+1) ih) m
theorem h98_1 (cal:Cal) (k m1:Nat) (u1 u5 u9 u10:Value) (H:Hp) (n:Nat):labK (E98_1 cal k m1) (Tr.set (Tr.set (Tr.set (Tr.set Tr.nil 10 (some u10)) 9 (some u9)) 5 (some u5)) 1 (some u1)) H n []=C98_1 cal k m1 (R98_1 cal k m1) u1 u5 u9 u10 H n:=by
 refine Eq.trans (b:=B98_1 cal k m1 (R98_1 cal k m1) u1 u5 u9 u10 H n) (by kernel_rfl) ?_
 rw[C98_1]
theorem q98_1 (cal:Cal) (k:Nat):∀(m:Nat) (u1 u5 u9 u10:Value) (H:Hp) (n:Nat),labK (E98_1 cal k m) (Tr.set (Tr.set (Tr.set (Tr.set Tr.nil 10 (some u10)) 9 (some u9)) 5 (some u5)) 1 (some u1)) H n []=S98_1 cal k m u1 u5 u9 u10 H n
 | 0,u1,u5,u9,u10,H,n=>by
  rw[h98_1]
  have e:R98_1 cal k 0=fun _ _ _ _ _ _=>none:=by funext u1 u5 u9 u10 H n; kernel_rfl
  rw[e]; rfl
 | m+1,u1,u5,u9,u10,H,n=>by
  rw[h98_1]
  have e:R98_1 cal k (m+1)=S98_1 cal k m:=by
   funext u1 u5 u9 u10 H n
   have e:R98_1 cal k (m+1) u1 u5 u9 u10 H n=labK (E98_1 cal k m) (Tr.set (Tr.set (Tr.set (Tr.set Tr.nil 10 (some u10)) 9 (some u9)) 5 (some u5)) 1 (some u1)) H n []:=by kernel_rfl
   rw[e]; exact q98_1 ..
  rw[e]; rfl
noncomputable def B98_0 (cal:Cal) (k:Nat) (j1:V4) (v0 v1:Value) (H:Hp) (n:Nat):Res:=
boxK 113 v0 H n fun v_1 H_2 n_3=>
aq (ay P 113 v_1 1) fun v_6=>
aq (aX v_6) fun a_8=>aq (ak P H_2 111 a_8) fun v_7=>
j1 v1 (.int .i64 0) v_7 (.int .i64 0) H_2 n_3
noncomputable def C98_0 (cal:Cal) (k:Nat) (v0 v1:Value) (H:Hp) (n:Nat):Res:=B98_0 cal k (S98_1 cal k k) v0 v1 H n
theorem h98_0 (cal:Cal) (k:Nat) (v0 v1:Value) (H:Hp) (n:Nat):aK P cal A (k+1) 98 [v0,v1] H n=C98_0 cal k v0 v1 H n:=by
 have h:aK P cal A (k+1) 98 [v0,v1] H n=B98_0 cal k (fun u1 u5 u9 u10 H n=>labK (E98_1 cal k k) (Tr.set (Tr.set (Tr.set (Tr.set Tr.nil 10 (some u10)) 9 (some u9)) 5 (some u5)) 1 (some u1)) H n []) v0 v1 H n:=by
  rw[bQ (fn:=Go.Proofs.Try.f98) (c:=zz) (rs:=jQ) (by kernel_rfl) (by kernel_rfl) (by kernel_rfl) (by kernel_rfl)]
  kernel_rfl
 rw[h,C98_0]
 have e1:(fun u1 u5 u9 u10 H n=>labK (E98_1 cal k k) (Tr.set (Tr.set (Tr.set (Tr.set Tr.nil 10 (some u10)) 9 (some u9)) 5 (some u5)) 1 (some u1)) H n [])=(S98_1 cal k k):=by funext u1 u5 u9 u10 H n; exact q98_1 ..
 rw[e1]
noncomputable def code99:Code:=cw 99
noncomputable def Gy:List ResultVar:=dk 99
noncomputable def K99_p (cal:Cal) (k:Nat):KR:=(cutK (A 99).c (az P cal (ax P cal k) none 99 (cR code99) (Lv.b (A 99)) (aw P Gy) X0 (aw P Gy)))
noncomputable def K99_pr (cal:Cal) (k:Nat):KR:=(cutK (Lv.b (A 99)).c (az P cal (ax P cal k) none 99 (cR (cR code99)) (Lv.b (Lv.b (A 99))) (aw P Gy) X0 (aw P Gy)))
noncomputable def B99_0 (cal:Cal) (k:Nat) (v0 v1:Value) (H:Hp) (n:Nat):Res:=
boxK 53 v0 H n fun v_1 H_2 n_3=>
aq (ay P 53 v_1 0) fun v_5=>
aq (aX v_5) fun a_7=>aq (ak P H_2 3 a_7) fun v_6=>
binK P .leq 3 (.tmp 6) (.tmp 7) v_6 v1 fun v_9=>
aV v_9 true (fun k_b=>
k_b v1 H_2 n_3) H_2 n_3 fun v_c H_d n_e=>
aV v_9 true (fun k_g=>
aq (ay P 53 v_1 1) fun v_k=>
k_g v_k H_d n_e) H_d n_e fun v_h H_i n_j=>
aV v_9 true (fun k_l=>
aq (aX v_h) fun a_q=>aq (ak P H_i 3 a_q) fun v_p=>
k_l v_p H_i n_j) H_i n_j fun v_m H_n n_o=>
aV v_9 true (fun k_r=>
binK P .leq 3 (.tmp 10) (.tmp 12) v_c v_m fun v_v=>
k_r v_v H_n n_o) H_n n_o fun v_s H_t n_u=>
aq (dv v_9 v_s (.bool false)) fun v_w=>
some (v_w,H_t,n_u)
noncomputable def C99_0 (cal:Cal) (k:Nat) (v0 v1:Value) (H:Hp) (n:Nat):Res:=B99_0 cal k v0 v1 H n
theorem h99_0 (cal:Cal) (k:Nat) (v0 v1:Value) (H:Hp) (n:Nat):aK P cal A (k+1) 99 [v0,v1] H n=C99_0 cal k v0 v1 H n:=by
 have h:aK P cal A (k+1) 99 [v0,v1] H n=B99_0 cal k v0 v1 H n:=by
  rw[bQ (fn:=Go.Proofs.Try.f99) (c:=code99) (rs:=Gy) (by kernel_rfl) (by kernel_rfl) (by kernel_rfl) (by kernel_rfl)]
  kernel_rfl
 rw[h,C99_0]
noncomputable def code100:Code:=cw 100
noncomputable def CW:List ResultVar:=dk 100
noncomputable def K100_p (cal:Cal) (k:Nat):KR:=(cutK (A 100).c (az P cal (ax P cal k) none 100 (cR code100) (Lv.b (A 100)) (aw P CW) X0 (aw P CW)))
noncomputable def K100_pr (cal:Cal) (k:Nat):KR:=(cutK (Lv.b (A 100)).c (az P cal (ax P cal k) none 100 (cR (cR code100)) (Lv.b (Lv.b (A 100))) (aw P CW) X0 (aw P CW)))
noncomputable def B100_0 (cal:Cal) (k:Nat) (v0 v1:Value) (H:Hp) (n:Nat):Res:=
aW P cal 32 [v0,(.int .i64 0),v1] H n fun v_4 H_5 n_6=>
aV v_4 true (fun k_8=>
k_8 v1 H_5 n_6) H_5 n_6 fun v_9 H_a n_b=>
aV v_4 true (fun k_d=>
binK P .leq 3 (.tmp 9) (.const (.int .i64 1000)) v_9 (.int .i64 1000) fun v_h=>
k_d v_h H_a n_b) H_a n_b fun v_e H_f n_g=>
aq (dv v_4 v_e (.bool false)) fun v_i=>
some (v_i,H_f,n_g)
noncomputable def UV (cal:Cal) (k:Nat) (v0 v1:Value) (H:Hp) (n:Nat):Res:=B100_0 cal k v0 v1 H n
theorem h100_0 (cal:Cal) (k:Nat) (v0 v1:Value) (H:Hp) (n:Nat):aK P cal A (k+1) 100 [v0,v1] H n=UV cal k v0 v1 H n:=by
 have h:aK P cal A (k+1) 100 [v0,v1] H n=B100_0 cal k v0 v1 H n:=by
  rw[bQ (fn:=Go.Proofs.Try.f100) (c:=code100) (rs:=CW) (by kernel_rfl) (by kernel_rfl) (by kernel_rfl) (by kernel_rfl)]
  kernel_rfl
 rw[h,UV]
noncomputable def sX:Code:=cw 101
noncomputable def gk:List ResultVar:=dk 101
noncomputable def K101_p (cal:Cal) (k:Nat):KR:=(cutK (A 101).c (az P cal (ax P cal k) none 101 (cR sX) (Lv.b (A 101)) (aw P gk) X0 (aw P gk)))
noncomputable def K101_pr (cal:Cal) (k:Nat):KR:=(cutK (Lv.b (A 101)).c (az P cal (ax P cal k) none 101 (cR (cR sX)) (Lv.b (Lv.b (A 101))) (aw P gk) X0 (aw P gk)))
noncomputable def Sj (cal:Cal) (k:Nat):KR:=(cutK (Lv.b (Lv.b (A 101))).c (az P cal (ax P cal k) none 101 (cR (cR (cR sX))) (Lv.b (Lv.b (Lv.b (A 101)))) (aw P gk) X0 (aw P gk)))
noncomputable def K101_prrl (cal:Cal) (k:Nat):KR:=(cutK (Lv.a (Lv.b (Lv.b (A 101)))).c (az P cal (ax P cal k) none 101 (cR (cL (cR (cR sX)))) (Lv.b (Lv.a (Lv.b (Lv.b (A 101))))) (Sj cal k) X0 (aw P gk)))
noncomputable def sq (cal:Cal) (k:Nat):XR:=(upX 0 (Sj cal k) X0)
noncomputable def DV (cal:Cal) (k:Nat) (m1:Nat):KR:=(fun T H n D=>ax P cal m1 (Lv.a (Lv.b (Lv.a (Lv.b (Lv.b (A 101)))))) none 101 (cL (cR (cL (cR (cR sX))))) (Sj cal k) (sq cal k) (aw P gk) (cutT (Lv.a (Lv.b (Lv.a (Lv.b (Lv.b (A 101)))))).c T) H n D)
noncomputable def K101_prrlrll (cal:Cal) (k:Nat) (m1:Nat):KR:=(cutK (Lv.a (Lv.a (Lv.b (Lv.a (Lv.b (Lv.b (A 101))))))).c (az P cal (ax P cal m1) none 101 (cR (cL (cL (cR (cL (cR (cR sX))))))) (Lv.b (Lv.a (Lv.a (Lv.b (Lv.a (Lv.b (Lv.b (A 101)))))))) (DV cal k m1) (sq cal k) (aw P gk)))
noncomputable def K101_prrlrllr (cal:Cal) (k:Nat) (m1:Nat):KR:=(cutK (Lv.b (Lv.a (Lv.a (Lv.b (Lv.a (Lv.b (Lv.b (A 101)))))))).c (az P cal (ax P cal m1) none 101 (cR (cR (cL (cL (cR (cL (cR (cR sX)))))))) (Lv.b (Lv.b (Lv.a (Lv.a (Lv.b (Lv.a (Lv.b (Lv.b (A 101))))))))) (DV cal k m1) (sq cal k) (aw P gk)))
noncomputable def K101_prrlrllrr (cal:Cal) (k:Nat) (m1:Nat):KR:=(cutK (Lv.b (Lv.b (Lv.a (Lv.a (Lv.b (Lv.a (Lv.b (Lv.b (A 101))))))))).c (az P cal (ax P cal m1) none 101 (cR (cR (cR (cL (cL (cR (cL (cR (cR sX))))))))) (Lv.b (Lv.b (Lv.b (Lv.a (Lv.a (Lv.b (Lv.a (Lv.b (Lv.b (A 101)))))))))) (DV cal k m1) (sq cal k) (aw P gk)))
noncomputable def K101_pxrrlrllrrl (cal:Cal) (k:Nat) (m1:Nat):XR:=(upX 1 (K101_prrlrllrr cal k m1) (sq cal k))
noncomputable def K101_prrlrllrrll (cal:Cal) (k:Nat) (m1:Nat):KR:=(cutK (Lv.a (Lv.a (Lv.b (Lv.b (Lv.a (Lv.a (Lv.b (Lv.a (Lv.b (Lv.b (A 101))))))))))).c (az P cal (ax P cal m1) none 101 (cR (cL (cL (cR (cR (cL (cL (cR (cL (cR (cR sX))))))))))) (Lv.b (Lv.a (Lv.a (Lv.b (Lv.b (Lv.a (Lv.a (Lv.b (Lv.a (Lv.b (Lv.b (A 101)))))))))))) (K101_prrlrllrr cal k m1) (K101_pxrrlrllrrl cal k m1) (aw P gk)))
noncomputable def K101_prrr (cal:Cal) (k:Nat):KR:=(cutK (Lv.b (Lv.b (Lv.b (A 101)))).c (az P cal (ax P cal k) none 101 (cR (cR (cR (cR sX)))) (Lv.b (Lv.b (Lv.b (Lv.b (A 101))))) (aw P gk) X0 (aw P gk)))
noncomputable def E101_1 (cal:Cal) (k m1:Nat):KR:=az P cal (ax P cal m1) none 101 (cL (cL (cR (cL (cR (cR sX)))))) (Lv.a (Lv.a (Lv.b (Lv.a (Lv.b (Lv.b (A 101))))))) (DV cal k m1) (sq cal k) (aw P gk)
noncomputable def R101_1 (cal:Cal) (k m1:Nat):V3:=fun u0 u1 u3 H n=>ax P cal m1 (Lv.a (Lv.b (Lv.a (Lv.b (Lv.b (A 101)))))) none 101 (cL (cR (cL (cR (cR sX))))) (Sj cal k) (sq cal k) (aw P gk) (Tr.set (Tr.set (Tr.set Tr.nil 3 (some u3)) 1 (some u1)) 0 (some u0)) H n []
noncomputable def B101_1 (cal:Cal) (k m1:Nat) (b1:V3) (u0 u1 u3:Value) (H:Hp) (n:Nat):Res:=
binK P .lss 3 (.tmp 3) (.const (.int .i64 8)) u3 (.int .i64 8) fun v_8=>
ifK v_8 (
aq (aY P 121 u1 u3) fun v_c=>
aq (bx P 3 v_c (.int .i64 (-1)) H) fun H_e=>
binK P .add 3 (.tmp 3) (.const (.int .i64 1)) u3 (.int .i64 1) fun v_f=>
b1 u0 u1 v_f H_e n) (
aq (aX u1) fun a_i=>aq (ak P H 121 a_i) fun v_h=>
aq (bx P 121 u0 v_h H) fun H_k=>
aq (resV P (Tr.set Tr.nil 0 (some u0)) H_k gk) fun v_l=>some (oneV v_l,H_k,n))
noncomputable def C101_1 (cal:Cal) (k m1:Nat) (b1:V3) (u0 u1 u3:Value) (H:Hp) (n:Nat):Res:=B101_1 cal k m1 b1 u0 u1 u3 H n
noncomputable def S101_1 (cal:Cal) (k:Nat):Nat→V3:=fun m=>Nat.rec (motive:=fun _=>V3) (C101_1 cal k 0 (fun _ _ _ _ _=>none)) (fun m ih=>C101_1 cal k (m+1) ih) m
theorem h101_1 (cal:Cal) (k m1:Nat) (u0 u1 u3:Value) (H:Hp) (n:Nat):labK (E101_1 cal k m1) (Tr.set (Tr.set (Tr.set Tr.nil 3 (some u3)) 1 (some u1)) 0 (some u0)) H n []=C101_1 cal k m1 (R101_1 cal k m1) u0 u1 u3 H n:=by
 refine Eq.trans (b:=B101_1 cal k m1 (R101_1 cal k m1) u0 u1 u3 H n) (by kernel_rfl) ?_
 rw[C101_1]
theorem q101_1 (cal:Cal) (k:Nat):∀(m:Nat) (u0 u1 u3:Value) (H:Hp) (n:Nat),labK (E101_1 cal k m) (Tr.set (Tr.set (Tr.set Tr.nil 3 (some u3)) 1 (some u1)) 0 (some u0)) H n []=S101_1 cal k m u0 u1 u3 H n
 | 0,u0,u1,u3,H,n=>by
  rw[h101_1]
  have e:R101_1 cal k 0=fun _ _ _ _ _=>none:=by funext u0 u1 u3 H n; kernel_rfl
  rw[e]; rfl
 | m+1,u0,u1,u3,H,n=>by
  rw[h101_1]
  have e:R101_1 cal k (m+1)=S101_1 cal k m:=by
   funext u0 u1 u3 H n
   have e:R101_1 cal k (m+1) u0 u1 u3 H n=labK (E101_1 cal k m) (Tr.set (Tr.set (Tr.set Tr.nil 3 (some u3)) 1 (some u1)) 0 (some u0)) H n []:=by kernel_rfl
   rw[e]; exact q101_1 ..
  rw[e]; rfl
noncomputable def B101_0 (cal:Cal) (k:Nat) (j1:V3) (H:Hp) (n:Nat):Res:=
cQ P 121 H n fun v_1 H_2 n_3=>
cQ P 121 H_2 n_3 fun v_4 H_5 n_6=>
j1 v_1 v_4 (.int .i64 0) H_5 n_6
noncomputable def C101_0 (cal:Cal) (k:Nat) (H:Hp) (n:Nat):Res:=B101_0 cal k (S101_1 cal k k)  H n
theorem h101_0 (cal:Cal) (k:Nat) (H:Hp) (n:Nat):aK P cal A (k+1) 101 [] H n=C101_0 cal k  H n:=by
 have h:aK P cal A (k+1) 101 [] H n=B101_0 cal k (fun u0 u1 u3 H n=>labK (E101_1 cal k k) (Tr.set (Tr.set (Tr.set Tr.nil 3 (some u3)) 1 (some u1)) 0 (some u0)) H n [])  H n:=by
  rw[bQ (fn:=Go.Proofs.Try.f101) (c:=sX) (rs:=gk) (by kernel_rfl) (by kernel_rfl) (by kernel_rfl) (by kernel_rfl)]
  kernel_rfl
 rw[h,C101_0]
 have e1:(fun u0 u1 u3 H n=>labK (E101_1 cal k k) (Tr.set (Tr.set (Tr.set Tr.nil 3 (some u3)) 1 (some u1)) 0 (some u0)) H n [])=(S101_1 cal k k):=by funext u0 u1 u3 H n; exact q101_1 ..
 rw[e1]
noncomputable def code102:Code:=cw 102
noncomputable def CX:List ResultVar:=dk 102
noncomputable def K102_p (cal:Cal) (k:Nat):KR:=(cutK (A 102).c (az P cal (ax P cal k) none 102 (cR code102) (Lv.b (A 102)) (aw P CX) X0 (aw P CX)))
noncomputable def K102_pr (cal:Cal) (k:Nat):KR:=(cutK (Lv.b (A 102)).c (az P cal (ax P cal k) none 102 (cR (cR code102)) (Lv.b (Lv.b (A 102))) (aw P CX) X0 (aw P CX)))
noncomputable def B102_0 (cal:Cal) (k:Nat) (v0 v1 v2:Value) (H:Hp) (n:Nat):Res:=
binK P .geq 3 (.tmp 7) (.const (.int .i64 0)) v2 (.int .i64 0) fun v_3=>
aV v_3 true (fun k_5=>
k_5 v2 H n) H n fun v_6 H_7 n_8=>
aV v_3 true (fun k_a=>
k_a v0 H_7 n_8) H_7 n_8 fun v_b H_c n_d=>
aV v_3 true (fun k_f=>
aq (nilV v_b) fun v_j=>
k_f v_j H_c n_d) H_c n_d fun v_g H_h n_i=>
aV v_3 true (fun k_k=>
aq (ay P 117 v_g 0) fun v_o=>
k_k v_o H_h n_i) H_h n_i fun v_l H_m n_n=>
aV v_3 true (fun k_p=>
aq (ay P 35 v_l 2) fun v_t=>
k_p v_t H_m n_n) H_m n_n fun v_q H_r n_s=>
aV v_3 true (fun k_u=>
aq (aX v_q) fun a_z=>aq (ak P H_r 33 a_z) fun v_y=>
k_u v_y H_r n_s) H_r n_s fun v_v H_w n_x=>
aV v_3 true (fun k_10=>
aq (lenV P 33 v_v) fun v_14=>
k_10 v_14 H_w n_x) H_w n_x fun v_11 H_12 n_13=>
aV v_3 true (fun k_15=>
binK P .lss 3 (.tmp 10) (.tmp 16) v_6 v_11 fun v_19=>
k_15 v_19 H_12 n_13) H_12 n_13 fun v_16 H_17 n_18=>
aq (dv v_3 v_16 (.bool false)) fun v_1a=>
aV v_1a true (fun k_1c=>
k_1c v0 H_17 n_18) H_17 n_18 fun v_1d H_1e n_1f=>
aV v_1a true (fun k_1h=>
k_1h v1 H_1e n_1f) H_1e n_1f fun v_1i H_1j n_1k=>
aV v_1a true (fun k_1m=>
k_1m v2 H_1j n_1k) H_1j n_1k fun v_1n H_1o n_1p=>
aV v_1a true (fun k_1r=>
aq (nilV v_1d) fun v_1v=>
k_1r v_1v H_1o n_1p) H_1o n_1p fun v_1s H_1t n_1u=>
aV v_1a true (fun k_1w=>
aq (ay P 117 v_1s 2) fun v_20=>
k_1w v_20 H_1t n_1u) H_1t n_1u fun v_1x H_1y n_1z=>
aV v_1a true (fun k_21=>
aq (aY P 115 v_1x v_1i) fun v_25=>
k_21 v_25 H_1y n_1z) H_1y n_1z fun v_22 H_23 n_24=>
aV v_1a true (fun k_26=>
aq (aY P 114 v_22 v_1n) fun v_2a=>
k_26 v_2a H_23 n_24) H_23 n_24 fun v_27 H_28 n_29=>
aV v_1a true (fun k_2b=>
aq (aX v_27) fun a_2g=>aq (ak P H_28 113 a_2g) fun v_2f=>
k_2b v_2f H_28 n_29) H_28 n_29 fun v_2c H_2d n_2e=>
aV v_1a true (fun k_2h=>
aW P cal 62 [v_2c] H_2d n_2e fun v_2l H_2m n_2n=>
k_2h v_2l H_2m n_2n) H_2d n_2e fun v_2i H_2j n_2k=>
aq (dv v_1a v_2i (.bool false)) fun v_2o=>
some (v_2o,H_2j,n_2k)
noncomputable def UW (cal:Cal) (k:Nat) (v0 v1 v2:Value) (H:Hp) (n:Nat):Res:=B102_0 cal k v0 v1 v2 H n
theorem h102_0 (cal:Cal) (k:Nat) (v0 v1 v2:Value) (H:Hp) (n:Nat):aK P cal A (k+1) 102 [v0,v1,v2] H n=UW cal k v0 v1 v2 H n:=by
 have h:aK P cal A (k+1) 102 [v0,v1,v2] H n=B102_0 cal k v0 v1 v2 H n:=by
  rw[bQ (fn:=Go.Proofs.Try.f102) (c:=code102) (rs:=CX) (by kernel_rfl) (by kernel_rfl) (by kernel_rfl) (by kernel_rfl)]
  kernel_rfl
 rw[h,UW]
noncomputable def sY:Code:=cw 103
noncomputable def gJ:List ResultVar:=dk 103
noncomputable def K103_p (cal:Cal) (k:Nat):KR:=(cutK (A 103).c (az P cal (ax P cal k) none 103 (cR sY) (Lv.b (A 103)) (aw P gJ) X0 (aw P gJ)))
noncomputable def YZ (cal:Cal) (k:Nat):KR:=(cutK (Lv.b (A 103)).c (az P cal (ax P cal k) none 103 (cR (cR sY)) (Lv.b (Lv.b (A 103))) (aw P gJ) X0 (aw P gJ)))
noncomputable def K103_prl (cal:Cal) (k:Nat):KR:=(cutK (Lv.a (Lv.b (A 103))).c (az P cal (ax P cal k) none 103 (cR (cL (cR sY))) (Lv.b (Lv.a (Lv.b (A 103)))) (YZ cal k) X0 (aw P gJ)))
noncomputable def vw (cal:Cal) (k:Nat):XR:=(upX 0 (YZ cal k) X0)
noncomputable def Iv (cal:Cal) (k:Nat) (m1:Nat):KR:=(fun T H n D=>ax P cal m1 (Lv.a (Lv.b (Lv.a (Lv.b (A 103))))) none 103 (cL (cR (cL (cR sY)))) (YZ cal k) (vw cal k) (aw P gJ) (cutT (Lv.a (Lv.b (Lv.a (Lv.b (A 103))))).c T) H n D)
noncomputable def K103_prlrll (cal:Cal) (k:Nat) (m1:Nat):KR:=(cutK (Lv.a (Lv.a (Lv.b (Lv.a (Lv.b (A 103)))))).c (az P cal (ax P cal m1) none 103 (cR (cL (cL (cR (cL (cR sY)))))) (Lv.b (Lv.a (Lv.a (Lv.b (Lv.a (Lv.b (A 103))))))) (Iv cal k m1) (vw cal k) (aw P gJ)))
noncomputable def K103_prlrllr (cal:Cal) (k:Nat) (m1:Nat):KR:=(cutK (Lv.b (Lv.a (Lv.a (Lv.b (Lv.a (Lv.b (A 103))))))).c (az P cal (ax P cal m1) none 103 (cR (cR (cL (cL (cR (cL (cR sY))))))) (Lv.b (Lv.b (Lv.a (Lv.a (Lv.b (Lv.a (Lv.b (A 103)))))))) (Iv cal k m1) (vw cal k) (aw P gJ)))
noncomputable def EQ (cal:Cal) (k:Nat) (m1:Nat):KR:=(cutK (Lv.b (Lv.b (Lv.a (Lv.a (Lv.b (Lv.a (Lv.b (A 103)))))))).c (az P cal (ax P cal m1) none 103 (cR (cR (cR (cL (cL (cR (cL (cR sY)))))))) (Lv.b (Lv.b (Lv.b (Lv.a (Lv.a (Lv.b (Lv.a (Lv.b (A 103))))))))) (Iv cal k m1) (vw cal k) (aw P gJ)))
noncomputable def K103_pxrlrllrrl (cal:Cal) (k:Nat) (m1:Nat):XR:=(upX 1 (EQ cal k m1) (vw cal k))
noncomputable def K103_prlrllrrll (cal:Cal) (k:Nat) (m1:Nat):KR:=(cutK (Lv.a (Lv.a (Lv.b (Lv.b (Lv.a (Lv.a (Lv.b (Lv.a (Lv.b (A 103)))))))))).c (az P cal (ax P cal m1) none 103 (cR (cL (cL (cR (cR (cL (cL (cR (cL (cR sY)))))))))) (Lv.b (Lv.a (Lv.a (Lv.b (Lv.b (Lv.a (Lv.a (Lv.b (Lv.a (Lv.b (A 103))))))))))) (EQ cal k m1) (K103_pxrlrllrrl cal k m1) (aw P gJ)))
noncomputable def K103_prlrllrrllr (cal:Cal) (k:Nat) (m1:Nat):KR:=(cutK (Lv.b (Lv.a (Lv.a (Lv.b (Lv.b (Lv.a (Lv.a (Lv.b (Lv.a (Lv.b (A 103))))))))))).c (az P cal (ax P cal m1) none 103 (cR (cR (cL (cL (cR (cR (cL (cL (cR (cL (cR sY))))))))))) (Lv.b (Lv.b (Lv.a (Lv.a (Lv.b (Lv.b (Lv.a (Lv.a (Lv.b (Lv.a (Lv.b (A 103)))))))))))) (EQ cal k m1) (K103_pxrlrllrrl cal k m1) (aw P gJ)))
noncomputable def K103_prr (cal:Cal) (k:Nat):KR:=(cutK (Lv.b (Lv.b (A 103))).c (az P cal (ax P cal k) none 103 (cR (cR (cR sY))) (Lv.b (Lv.b (Lv.b (A 103)))) (aw P gJ) X0 (aw P gJ)))
noncomputable def E103_1 (cal:Cal) (k m1:Nat):KR:=az P cal (ax P cal m1) none 103 (cL (cL (cR (cL (cR sY))))) (Lv.a (Lv.a (Lv.b (Lv.a (Lv.b (A 103)))))) (Iv cal k m1) (vw cal k) (aw P gJ)
noncomputable def R103_1 (cal:Cal) (k m1:Nat):V4:=fun u2 u4 u7 u8 H n=>ax P cal m1 (Lv.a (Lv.b (Lv.a (Lv.b (A 103))))) none 103 (cL (cR (cL (cR sY)))) (YZ cal k) (vw cal k) (aw P gJ) (Tr.set (Tr.set (Tr.set (Tr.set Tr.nil 8 (some u8)) 7 (some u7)) 4 (some u4)) 2 (some u2)) H n []
noncomputable def B103_1 (cal:Cal) (k m1:Nat) (b1:V4) (u2 u4 u7 u8:Value) (H:Hp) (n:Nat):Res:=
binK P .lss 3 (.tmp 8) (.const (.int .i64 8)) u8 (.int .i64 8) fun v_d=>
ifK v_d (
aq (Bk P 111 u7 u8) fun v_f=>
cQ P 53 H n fun v_g H_h n_i=>
aq (bx P 53 v_g v_f H_h) fun H_l=>
aq (aY P 111 u2 u8) fun v_n=>
aq (ay P 53 v_n 0) fun v_o=>
aq (aX v_o) fun a_p=>aq (ak P H_l 3 a_p) fun v_q=>
aq (ay P 53 v_g 0) fun v_r=>
aq (aX v_r) fun a_s=>aq (ak P H_l 3 a_s) fun v_t=>
binK P .add 3 (.tmp 15) (.tmp 17) v_q v_t fun v_u=>
aq (aY P 111 u2 u8) fun v_v=>
aq (ay P 53 v_v 0) fun v_w=>
aq (bx P 3 v_w v_u H_l) fun H_y=>
aq (aY P 111 u2 u8) fun v_10=>
aq (ay P 53 v_10 1) fun v_11=>
aq (aX v_11) fun a_12=>aq (ak P H_y 3 a_12) fun v_13=>
aq (ay P 53 v_g 1) fun v_14=>
aq (aX v_14) fun a_15=>aq (ak P H_y 3 a_15) fun v_16=>
binK P .add 3 (.tmp 24) (.tmp 26) v_13 v_16 fun v_17=>
aq (aY P 111 u2 u8) fun v_18=>
aq (ay P 53 v_18 1) fun v_19=>
aq (bx P 3 v_19 v_17 H_y) fun H_1b=>
binK P .add 3 (.tmp 8) (.const (.int .i64 1)) u8 (.int .i64 1) fun v_1c=>
b1 u2 u4 u7 v_1c H_1b n_i) (
aq (aX u2) fun a_1f=>aq (ak P H 111 a_1f) fun v_1e=>
aq (bx P 111 u4 v_1e H) fun H_1h=>
aq (resV P (Tr.set Tr.nil 4 (some u4)) H_1h gJ) fun v_1i=>some (oneV v_1i,H_1h,n))
noncomputable def UX (cal:Cal) (k m1:Nat) (b1:V4) (u2 u4 u7 u8:Value) (H:Hp) (n:Nat):Res:=B103_1 cal k m1 b1 u2 u4 u7 u8 H n
noncomputable def UY (cal:Cal) (k:Nat):Nat→V4:=fun m=>Nat.rec (motive:=fun _=>V4) (UX cal k 0 (fun _ _ _ _ _ _=>none)) (fun m ih=>UX cal k (m+1) ih) m
theorem h103_1 (cal:Cal) (k m1:Nat) (u2 u4 u7 u8:Value) (H:Hp) (n:Nat):labK (E103_1 cal k m1) (Tr.set (Tr.set (Tr.set (Tr.set Tr.nil 8 (some u8)) 7 (some u7)) 4 (some u4)) 2 (some u2)) H n []=UX cal k m1 (R103_1 cal k m1) u2 u4 u7 u8 H n:=by
 refine Eq.trans (b:=B103_1 cal k m1 (R103_1 cal k m1) u2 u4 u7 u8 H n) (by kernel_rfl) ?_
 rw[UX]
theorem q103_1 (cal:Cal) (k:Nat):∀(m:Nat) (u2 u4 u7 u8:Value) (H:Hp) (n:Nat),labK (E103_1 cal k m) (Tr.set (Tr.set (Tr.set (Tr.set Tr.nil 8 (some u8)) 7 (some u7)) 4 (some u4)) 2 (some u2)) H n []=UY cal k m u2 u4 u7 u8 H n
 | 0,u2,u4,u7,u8,H,n=>by
  rw[h103_1]
  have e:R103_1 cal k 0=fun _ _ _ _ _ _=>none:=by funext u2 u4 u7 u8 H n; kernel_rfl
  rw[e]; rfl
 | m+1,u2,u4,u7,u8,H,n=>by
  rw[h103_1]
  have e:R103_1 cal k (m+1)=UY cal k m:=by
   funext u2 u4 u7 u8 H n
   have e:R103_1 cal k (m+1) u2 u4 u7 u8 H n=labK (E103_1 cal k m) (Tr.set (Tr.set (Tr.set (Tr.set Tr.nil 8 (some u8)) 7 (some u7)) 4 (some u4)) 2 (some u2)) H n []:=by kernel_rfl
   rw[e]; exact q103_1 ..
  rw[e]; rfl
noncomputable def B103_0 (cal:Cal) (k:Nat) (j1:V4) (v0 v1:Value) (H:Hp) (n:Nat):Res:=
boxK 111 v0 H n fun v_1 H_2 n_3=>
boxK 111 v1 H_2 n_3 fun v_4 H_5 n_6=>
cQ P 111 H_5 n_6 fun v_7 H_8 n_9=>
aq (aX v_4) fun a_b=>aq (ak P H_8 111 a_b) fun v_a=>
j1 v_1 v_7 v_a (.int .i64 0) H_8 n_9
noncomputable def UZ (cal:Cal) (k:Nat) (v0 v1:Value) (H:Hp) (n:Nat):Res:=B103_0 cal k (UY cal k k) v0 v1 H n
theorem h103_0 (cal:Cal) (k:Nat) (v0 v1:Value) (H:Hp) (n:Nat):aK P cal A (k+1) 103 [v0,v1] H n=UZ cal k v0 v1 H n:=by
 have h:aK P cal A (k+1) 103 [v0,v1] H n=B103_0 cal k (fun u2 u4 u7 u8 H n=>labK (E103_1 cal k k) (Tr.set (Tr.set (Tr.set (Tr.set Tr.nil 8 (some u8)) 7 (some u7)) 4 (some u4)) 2 (some u2)) H n []) v0 v1 H n:=by
  rw[bQ (fn:=Go.Proofs.Try.f103) (c:=sY) (rs:=gJ) (by kernel_rfl) (by kernel_rfl) (by kernel_rfl) (by kernel_rfl)]
  kernel_rfl
 rw[h,UZ]
 have e1:(fun u2 u4 u7 u8 H n=>labK (E103_1 cal k k) (Tr.set (Tr.set (Tr.set (Tr.set Tr.nil 8 (some u8)) 7 (some u7)) 4 (some u4)) 2 (some u2)) H n [])=(UY cal k k):=by funext u2 u4 u7 u8 H n; exact q103_1 ..
 rw[e1]
noncomputable def zW:Code:=cw 104
noncomputable def kj:List ResultVar:=dk 104
noncomputable def K104_p (cal:Cal) (k:Nat):KR:=(cutK (A 104).c (az P cal (ax P cal k) none 104 (cR zW) (Lv.b (A 104)) (aw P kj) X0 (aw P kj)))
noncomputable def CY (cal:Cal) (k:Nat):XR:=(upX 0 (aw P kj) X0)
noncomputable def Sq (cal:Cal) (k:Nat) (m1:Nat):KR:=(fun T H n D=>ax P cal m1 (Lv.a (Lv.b (A 104))) none 104 (cL (cR zW)) (aw P kj) (CY cal k) (aw P kj) (cutT (Lv.a (Lv.b (A 104))).c T) H n D)
noncomputable def K104_prll (cal:Cal) (k:Nat) (m1:Nat):KR:=(cutK (Lv.a (Lv.a (Lv.b (A 104)))).c (az P cal (ax P cal m1) none 104 (cR (cL (cL (cR zW)))) (Lv.b (Lv.a (Lv.a (Lv.b (A 104))))) (Sq cal k m1) (CY cal k) (aw P kj)))
noncomputable def K104_prllr (cal:Cal) (k:Nat) (m1:Nat):KR:=(cutK (Lv.b (Lv.a (Lv.a (Lv.b (A 104))))).c (az P cal (ax P cal m1) none 104 (cR (cR (cL (cL (cR zW))))) (Lv.b (Lv.b (Lv.a (Lv.a (Lv.b (A 104)))))) (Sq cal k m1) (CY cal k) (aw P kj)))
noncomputable def Lq (cal:Cal) (k:Nat) (m1:Nat):KR:=(cutK (Lv.b (Lv.b (Lv.a (Lv.a (Lv.b (A 104)))))).c (az P cal (ax P cal m1) none 104 (cR (cR (cR (cL (cL (cR zW)))))) (Lv.b (Lv.b (Lv.b (Lv.a (Lv.a (Lv.b (A 104))))))) (Sq cal k m1) (CY cal k) (aw P kj)))
noncomputable def K104_pxrllrrl (cal:Cal) (k:Nat) (m1:Nat):XR:=(upX 1 (Lq cal k m1) (CY cal k))
noncomputable def K104_prllrrll (cal:Cal) (k:Nat) (m1:Nat):KR:=(cutK (Lv.a (Lv.a (Lv.b (Lv.b (Lv.a (Lv.a (Lv.b (A 104)))))))).c (az P cal (ax P cal m1) none 104 (cR (cL (cL (cR (cR (cL (cL (cR zW)))))))) (Lv.b (Lv.a (Lv.a (Lv.b (Lv.b (Lv.a (Lv.a (Lv.b (A 104))))))))) (Lq cal k m1) (K104_pxrllrrl cal k m1) (aw P kj)))
noncomputable def K104_prllrrllr (cal:Cal) (k:Nat) (m1:Nat):KR:=(cutK (Lv.b (Lv.a (Lv.a (Lv.b (Lv.b (Lv.a (Lv.a (Lv.b (A 104))))))))).c (az P cal (ax P cal m1) none 104 (cR (cR (cL (cL (cR (cR (cL (cL (cR zW))))))))) (Lv.b (Lv.b (Lv.a (Lv.a (Lv.b (Lv.b (Lv.a (Lv.a (Lv.b (A 104)))))))))) (Lq cal k m1) (K104_pxrllrrl cal k m1) (aw P kj)))
noncomputable def E104_1 (cal:Cal) (k m1:Nat):KR:=az P cal (ax P cal m1) none 104 (cL (cL (cR zW))) (Lv.a (Lv.a (Lv.b (A 104)))) (Sq cal k m1) (CY cal k) (aw P kj)
noncomputable def R104_1 (cal:Cal) (k m1:Nat):V4:=fun u0 u2 u6 u7 H n=>ax P cal m1 (Lv.a (Lv.b (A 104))) none 104 (cL (cR zW)) (aw P kj) (CY cal k) (aw P kj) (Tr.set (Tr.set (Tr.set (Tr.set Tr.nil 7 (some u7)) 6 (some u6)) 2 (some u2)) 0 (some u0)) H n []
noncomputable def B104_1 (cal:Cal) (k m1:Nat) (b1:V4) (u0 u2 u6 u7:Value) (H:Hp) (n:Nat):Res:=
binK P .lss 3 (.tmp 7) (.const (.int .i64 8)) u7 (.int .i64 8) fun v_4=>
ifK v_4 (
aq (Bk P 121 u6 u7) fun v_6=>
binK P .neq 3 (.tmp 11) (.const (.int .i64 (-1))) v_6 (.int .i64 (-1)) fun v_a=>
aV v_a true (fun k_c=>
k_c u0 H n) H n fun v_d H_e n_f=>
aV v_a true (fun k_h=>
k_h u7 H_e n_f) H_e n_f fun v_i H_j n_k=>
aV v_a true (fun k_m=>
aq (aX u2) fun a_r=>aq (ak P H_j 105 a_r) fun v_q=>
k_m v_q H_j n_k) H_j n_k fun v_n H_o n_p=>
aV v_a true (fun k_s=>
k_s u7 H_o n_p) H_o n_p fun v_t H_u n_v=>
aV v_a true (fun k_x=>
k_x v_6 H_u n_v) H_u n_v fun v_y H_z n_10=>
aV v_a true (fun k_12=>
aq (nilV v_n) fun v_16=>
k_12 v_16 H_z n_10) H_z n_10 fun v_13 H_14 n_15=>
aV v_a true (fun k_17=>
aq (ay P 117 v_13 2) fun v_1b=>
k_17 v_1b H_14 n_15) H_14 n_15 fun v_18 H_19 n_1a=>
aV v_a true (fun k_1c=>
aq (aY P 115 v_18 v_t) fun v_1g=>
k_1c v_1g H_19 n_1a) H_19 n_1a fun v_1d H_1e n_1f=>
aV v_a true (fun k_1h=>
aq (aY P 114 v_1d v_y) fun v_1l=>
k_1h v_1l H_1e n_1f) H_1e n_1f fun v_1i H_1j n_1k=>
aV v_a true (fun k_1m=>
aq (aX v_1i) fun a_1r=>aq (ak P H_1j 113 a_1r) fun v_1q=>
k_1m v_1q H_1j n_1k) H_1j n_1k fun v_1n H_1o n_1p=>
aV v_a true (fun k_1s=>
ew P cal v_d [v_i,v_1n] H_1o n_1p fun v_1w H_1x n_1y=>
k_1s v_1w H_1x n_1y) H_1o n_1p fun v_1t H_1u n_1v=>
aV v_a true (fun k_1z=>
aq (cW P v_1t (Op.unary UnOp.not v_1t)) fun v_23=>
k_1z v_23 H_1u n_1v) H_1u n_1v fun v_20 H_21 n_22=>
aq (dv v_a v_20 (.bool false)) fun v_24=>
ifK v_24 (
some ((Value.tuple ⟨[]⟩),H_21,n_22)) (
binK P .add 3 (.tmp 7) (.const (.int .i64 1)) u7 (.int .i64 1) fun v_25=>
b1 u0 u2 u6 v_25 H_21 n_22)) (
some ((Value.tuple ⟨[]⟩),H,n))
noncomputable def UK (cal:Cal) (k m1:Nat) (b1:V4) (u0 u2 u6 u7:Value) (H:Hp) (n:Nat):Res:=B104_1 cal k m1 b1 u0 u2 u6 u7 H n
noncomputable def S104_1 (cal:Cal) (k:Nat):Nat→V4:=fun m=>Nat.rec (motive:=fun _=>V4) (UK cal k 0 (fun _ _ _ _ _ _=>none)) (fun m ih=>UK cal k (m+1) ih) m
theorem h104_1 (cal:Cal) (k m1:Nat) (u0 u2 u6 u7:Value) (H:Hp) (n:Nat):labK (E104_1 cal k m1) (Tr.set (Tr.set (Tr.set (Tr.set Tr.nil 7 (some u7)) 6 (some u6)) 2 (some u2)) 0 (some u0)) H n []=UK cal k m1 (R104_1 cal k m1) u0 u2 u6 u7 H n:=by
 refine Eq.trans (b:=B104_1 cal k m1 (R104_1 cal k m1) u0 u2 u6 u7 H n) (by kernel_rfl) ?_
 rw[UK]
theorem q104_1 (cal:Cal) (k:Nat):∀(m:Nat) (u0 u2 u6 u7:Value) (H:Hp) (n:Nat),labK (E104_1 cal k m) (Tr.set (Tr.set (Tr.set (Tr.set Tr.nil 7 (some u7)) 6 (some u6)) 2 (some u2)) 0 (some u0)) H n []=S104_1 cal k m u0 u2 u6 u7 H n
 | 0,u0,u2,u6,u7,H,n=>by
  rw[h104_1]
  have e:R104_1 cal k 0=fun _ _ _ _ _ _=>none:=by funext u0 u2 u6 u7 H n; kernel_rfl
  rw[e]; rfl
 | m+1,u0,u2,u6,u7,H,n=>by
  rw[h104_1]
  have e:R104_1 cal k (m+1)=S104_1 cal k m:=by
   funext u0 u2 u6 u7 H n
   have e:R104_1 cal k (m+1) u0 u2 u6 u7 H n=labK (E104_1 cal k m) (Tr.set (Tr.set (Tr.set (Tr.set Tr.nil 7 (some u7)) 6 (some u6)) 2 (some u2)) 0 (some u0)) H n []:=by kernel_rfl
   rw[e]; exact q104_1 ..
  rw[e]; rfl
noncomputable def B104_0 (cal:Cal) (k:Nat) (j1:V4) (v0 v1 v2:Value) (H:Hp) (n:Nat):Res:=
aq (aX v1) fun a_2=>aq (ak P H 121 a_2) fun v_1=>
j1 v0 v2 v_1 (.int .i64 0) H n
noncomputable def zk (cal:Cal) (k:Nat) (v0 v1 v2:Value) (H:Hp) (n:Nat):Res:=B104_0 cal k (S104_1 cal k k) v0 v1 v2 H n
theorem h104_0 (cal:Cal) (k:Nat) (v0 v1 v2:Value) (H:Hp) (n:Nat):aK P cal A (k+1) 104 [v0,v1,v2] H n=zk cal k v0 v1 v2 H n:=by
 have h:aK P cal A (k+1) 104 [v0,v1,v2] H n=B104_0 cal k (fun u0 u2 u6 u7 H n=>labK (E104_1 cal k k) (Tr.set (Tr.set (Tr.set (Tr.set Tr.nil 7 (some u7)) 6 (some u6)) 2 (some u2)) 0 (some u0)) H n []) v0 v1 v2 H n:=by
  rw[bQ (fn:=Go.Proofs.Try.f104) (c:=zW) (rs:=kj) (by kernel_rfl) (by kernel_rfl) (by kernel_rfl) (by kernel_rfl)]
  kernel_rfl
 rw[h,zk]
 have e1:(fun u0 u2 u6 u7 H n=>labK (E104_1 cal k k) (Tr.set (Tr.set (Tr.set (Tr.set Tr.nil 7 (some u7)) 6 (some u6)) 2 (some u2)) 0 (some u0)) H n [])=(S104_1 cal k k):=by funext u0 u2 u6 u7 H n; exact q104_1 ..
 rw[e1]
noncomputable def uk:Code:=cw 105
noncomputable def jj:List ResultVar:=dk 105
noncomputable def K105_p (cal:Cal) (k:Nat):KR:=(cutK (A 105).c (az P cal (ax P cal k) none 105 (cR uk) (Lv.b (A 105)) (aw P jj) X0 (aw P jj)))
noncomputable def YK (cal:Cal) (k:Nat):KR:=(cutK (Lv.b (A 105)).c (az P cal (ax P cal k) none 105 (cR (cR uk)) (Lv.b (Lv.b (A 105))) (aw P jj) X0 (aw P jj)))
noncomputable def K105_prl (cal:Cal) (k:Nat):KR:=(cutK (Lv.a (Lv.b (A 105))).c (az P cal (ax P cal k) none 105 (cR (cL (cR uk))) (Lv.b (Lv.a (Lv.b (A 105)))) (YK cal k) X0 (aw P jj)))
noncomputable def vx (cal:Cal) (k:Nat):XR:=(upX 0 (YK cal k) X0)
noncomputable def Iw (cal:Cal) (k:Nat) (m1:Nat):KR:=(fun T H n D=>ax P cal m1 (Lv.a (Lv.b (Lv.a (Lv.b (A 105))))) none 105 (cL (cR (cL (cR uk)))) (YK cal k) (vx cal k) (aw P jj) (cutT (Lv.a (Lv.b (Lv.a (Lv.b (A 105))))).c T) H n D)
noncomputable def K105_prlrll (cal:Cal) (k:Nat) (m1:Nat):KR:=(cutK (Lv.a (Lv.a (Lv.b (Lv.a (Lv.b (A 105)))))).c (az P cal (ax P cal m1) none 105 (cR (cL (cL (cR (cL (cR uk)))))) (Lv.b (Lv.a (Lv.a (Lv.b (Lv.a (Lv.b (A 105))))))) (Iw cal k m1) (vx cal k) (aw P jj)))
noncomputable def K105_prlrllr (cal:Cal) (k:Nat) (m1:Nat):KR:=(cutK (Lv.b (Lv.a (Lv.a (Lv.b (Lv.a (Lv.b (A 105))))))).c (az P cal (ax P cal m1) none 105 (cR (cR (cL (cL (cR (cL (cR uk))))))) (Lv.b (Lv.b (Lv.a (Lv.a (Lv.b (Lv.a (Lv.b (A 105)))))))) (Iw cal k m1) (vx cal k) (aw P jj)))
noncomputable def K105_prlrllrr (cal:Cal) (k:Nat) (m1:Nat):KR:=(cutK (Lv.b (Lv.b (Lv.a (Lv.a (Lv.b (Lv.a (Lv.b (A 105)))))))).c (az P cal (ax P cal m1) none 105 (cR (cR (cR (cL (cL (cR (cL (cR uk)))))))) (Lv.b (Lv.b (Lv.b (Lv.a (Lv.a (Lv.b (Lv.a (Lv.b (A 105))))))))) (Iw cal k m1) (vx cal k) (aw P jj)))
noncomputable def K105_pxrlrllrrl (cal:Cal) (k:Nat) (m1:Nat):XR:=(upX 1 (K105_prlrllrr cal k m1) (vx cal k))
noncomputable def K105_prlrllrrll (cal:Cal) (k:Nat) (m1:Nat):KR:=(cutK (Lv.a (Lv.a (Lv.b (Lv.b (Lv.a (Lv.a (Lv.b (Lv.a (Lv.b (A 105)))))))))).c (az P cal (ax P cal m1) none 105 (cR (cL (cL (cR (cR (cL (cL (cR (cL (cR uk)))))))))) (Lv.b (Lv.a (Lv.a (Lv.b (Lv.b (Lv.a (Lv.a (Lv.b (Lv.a (Lv.b (A 105))))))))))) (K105_prlrllrr cal k m1) (K105_pxrlrllrrl cal k m1) (aw P jj)))
noncomputable def K105_prr (cal:Cal) (k:Nat):KR:=(cutK (Lv.b (Lv.b (A 105))).c (az P cal (ax P cal k) none 105 (cR (cR (cR uk))) (Lv.b (Lv.b (Lv.b (A 105)))) (aw P jj) X0 (aw P jj)))
noncomputable def E105_1 (cal:Cal) (k m1:Nat):KR:=az P cal (ax P cal m1) none 105 (cL (cL (cR (cL (cR uk))))) (Lv.a (Lv.a (Lv.b (Lv.a (Lv.b (A 105)))))) (Iw cal k m1) (vx cal k) (aw P jj)
noncomputable def R105_1 (cal:Cal) (k m1:Nat):V4:=fun u0 u7 u8 u9 H n=>ax P cal m1 (Lv.a (Lv.b (Lv.a (Lv.b (A 105))))) none 105 (cL (cR (cL (cR uk)))) (YK cal k) (vx cal k) (aw P jj) (Tr.set (Tr.set (Tr.set (Tr.set Tr.nil 9 (some u9)) 8 (some u8)) 7 (some u7)) 0 (some u0)) H n []
noncomputable def B105_1 (cal:Cal) (k m1:Nat) (b1:V4) (u0 u7 u8 u9:Value) (H:Hp) (n:Nat):Res:=
binK P .lss 3 (.tmp 9) (.tmp 8) u9 u8 fun v_5=>
ifK v_5 (
aq (aY P 44 u7 u9) fun v_6=>
aq (aX v_6) fun a_8=>aq (ak P H 3 a_8) fun v_7=>
BZ P .min [3,3] (Call.mk (Callee.builtin Builtin.min) #[(.tmp 13),(.tmp 14)] #[3,3]) 3 [u0,v_7] H n fun v_c H_d n_e=>
binK P .add 3 (.tmp 9) (.const (.int .i64 1)) u9 (.int .i64 1) fun v_g=>
b1 v_c u7 u8 v_g H_d n_e) (
some (u0,H,n))
noncomputable def Qj (cal:Cal) (k m1:Nat) (b1:V4) (u0 u7 u8 u9:Value) (H:Hp) (n:Nat):Res:=B105_1 cal k m1 b1 u0 u7 u8 u9 H n
noncomputable def EV (cal:Cal) (k:Nat):Nat→V4:=fun m=>Nat.rec (motive:=fun _=>V4) (Qj cal k 0 (fun _ _ _ _ _ _=>none)) (fun m ih=>Qj cal k (m+1) ih) m
theorem h105_1 (cal:Cal) (k m1:Nat) (u0 u7 u8 u9:Value) (H:Hp) (n:Nat):labK (E105_1 cal k m1) (Tr.set (Tr.set (Tr.set (Tr.set Tr.nil 9 (some u9)) 8 (some u8)) 7 (some u7)) 0 (some u0)) H n []=Qj cal k m1 (R105_1 cal k m1) u0 u7 u8 u9 H n:=by
 refine Eq.trans (b:=B105_1 cal k m1 (R105_1 cal k m1) u0 u7 u8 u9 H n) (by kernel_rfl) ?_
 rw[Qj]
theorem q105_1 (cal:Cal) (k:Nat):∀(m:Nat) (u0 u7 u8 u9:Value) (H:Hp) (n:Nat),labK (E105_1 cal k m) (Tr.set (Tr.set (Tr.set (Tr.set Tr.nil 9 (some u9)) 8 (some u8)) 7 (some u7)) 0 (some u0)) H n []=EV cal k m u0 u7 u8 u9 H n
 | 0,u0,u7,u8,u9,H,n=>by
  rw[h105_1]
  have e:R105_1 cal k 0=fun _ _ _ _ _ _=>none:=by funext u0 u7 u8 u9 H n; kernel_rfl
  rw[e]; rfl
 | m+1,u0,u7,u8,u9,H,n=>by
  rw[h105_1]
  have e:R105_1 cal k (m+1)=EV cal k m:=by
   funext u0 u7 u8 u9 H n
   have e:R105_1 cal k (m+1) u0 u7 u8 u9 H n=labK (E105_1 cal k m) (Tr.set (Tr.set (Tr.set (Tr.set Tr.nil 9 (some u9)) 8 (some u8)) 7 (some u7)) 0 (some u0)) H n []:=by kernel_rfl
   rw[e]; exact q105_1 ..
  rw[e]; rfl
noncomputable def B105_0 (cal:Cal) (k:Nat) (j1:V4) (v0 v1:Value) (H:Hp) (n:Nat):Res:=
aq (lenV P 44 v1) fun v_3=>
j1 v0 v1 v_3 (.int .i64 0) H n
noncomputable def Vj (cal:Cal) (k:Nat) (v0 v1:Value) (H:Hp) (n:Nat):Res:=B105_0 cal k (EV cal k k) v0 v1 H n
theorem h105_0 (cal:Cal) (k:Nat) (v0 v1:Value) (H:Hp) (n:Nat):aK P cal A (k+1) 105 [v0,v1] H n=Vj cal k v0 v1 H n:=by
 have h:aK P cal A (k+1) 105 [v0,v1] H n=B105_0 cal k (fun u0 u7 u8 u9 H n=>labK (E105_1 cal k k) (Tr.set (Tr.set (Tr.set (Tr.set Tr.nil 9 (some u9)) 8 (some u8)) 7 (some u7)) 0 (some u0)) H n []) v0 v1 H n:=by
  rw[bQ (fn:=Go.Proofs.Try.f105) (c:=uk) (rs:=jj) (by kernel_rfl) (by kernel_rfl) (by kernel_rfl) (by kernel_rfl)]
  kernel_rfl
 rw[h,Vj]
 have e1:(fun u0 u7 u8 u9 H n=>labK (E105_1 cal k k) (Tr.set (Tr.set (Tr.set (Tr.set Tr.nil 9 (some u9)) 8 (some u8)) 7 (some u7)) 0 (some u0)) H n [])=(EV cal k k):=by funext u0 u7 u8 u9 H n; exact q105_1 ..
 rw[e1]
noncomputable def uJ:Code:=cw 106
noncomputable def jq:List ResultVar:=dk 106
noncomputable def K106_p (cal:Cal) (k:Nat):KR:=(cutK (A 106).c (az P cal (ax P cal k) none 106 (cR uJ) (Lv.b (A 106)) (aw P jq) X0 (aw P jq)))
noncomputable def Zj (cal:Cal) (k:Nat):KR:=(cutK (Lv.b (A 106)).c (az P cal (ax P cal k) none 106 (cR (cR uJ)) (Lv.b (Lv.b (A 106))) (aw P jq) X0 (aw P jq)))
noncomputable def K106_prl (cal:Cal) (k:Nat):KR:=(cutK (Lv.a (Lv.b (A 106))).c (az P cal (ax P cal k) none 106 (cR (cL (cR uJ))) (Lv.b (Lv.a (Lv.b (A 106)))) (Zj cal k) X0 (aw P jq)))
noncomputable def vy (cal:Cal) (k:Nat):XR:=(upX 0 (Zj cal k) X0)
noncomputable def Ix (cal:Cal) (k:Nat) (m1:Nat):KR:=(fun T H n D=>ax P cal m1 (Lv.a (Lv.b (Lv.a (Lv.b (A 106))))) none 106 (cL (cR (cL (cR uJ)))) (Zj cal k) (vy cal k) (aw P jq) (cutT (Lv.a (Lv.b (Lv.a (Lv.b (A 106))))).c T) H n D)
noncomputable def K106_prlrll (cal:Cal) (k:Nat) (m1:Nat):KR:=(cutK (Lv.a (Lv.a (Lv.b (Lv.a (Lv.b (A 106)))))).c (az P cal (ax P cal m1) none 106 (cR (cL (cL (cR (cL (cR uJ)))))) (Lv.b (Lv.a (Lv.a (Lv.b (Lv.a (Lv.b (A 106))))))) (Ix cal k m1) (vy cal k) (aw P jq)))
noncomputable def K106_prlrllr (cal:Cal) (k:Nat) (m1:Nat):KR:=(cutK (Lv.b (Lv.a (Lv.a (Lv.b (Lv.a (Lv.b (A 106))))))).c (az P cal (ax P cal m1) none 106 (cR (cR (cL (cL (cR (cL (cR uJ))))))) (Lv.b (Lv.b (Lv.a (Lv.a (Lv.b (Lv.a (Lv.b (A 106)))))))) (Ix cal k m1) (vy cal k) (aw P jq)))
noncomputable def K106_prlrllrr (cal:Cal) (k:Nat) (m1:Nat):KR:=(cutK (Lv.b (Lv.b (Lv.a (Lv.a (Lv.b (Lv.a (Lv.b (A 106)))))))).c (az P cal (ax P cal m1) none 106 (cR (cR (cR (cL (cL (cR (cL (cR uJ)))))))) (Lv.b (Lv.b (Lv.b (Lv.a (Lv.a (Lv.b (Lv.a (Lv.b (A 106))))))))) (Ix cal k m1) (vy cal k) (aw P jq)))
noncomputable def K106_pxrlrllrrl (cal:Cal) (k:Nat) (m1:Nat):XR:=(upX 1 (K106_prlrllrr cal k m1) (vy cal k))
noncomputable def K106_prlrllrrll (cal:Cal) (k:Nat) (m1:Nat):KR:=(cutK (Lv.a (Lv.a (Lv.b (Lv.b (Lv.a (Lv.a (Lv.b (Lv.a (Lv.b (A 106)))))))))).c (az P cal (ax P cal m1) none 106 (cR (cL (cL (cR (cR (cL (cL (cR (cL (cR uJ)))))))))) (Lv.b (Lv.a (Lv.a (Lv.b (Lv.b (Lv.a (Lv.a (Lv.b (Lv.a (Lv.b (A 106))))))))))) (K106_prlrllrr cal k m1) (K106_pxrlrllrrl cal k m1) (aw P jq)))
noncomputable def K106_prr (cal:Cal) (k:Nat):KR:=(cutK (Lv.b (Lv.b (A 106))).c (az P cal (ax P cal k) none 106 (cR (cR (cR uJ))) (Lv.b (Lv.b (Lv.b (A 106)))) (aw P jq) X0 (aw P jq)))
noncomputable def E106_1 (cal:Cal) (k m1:Nat):KR:=az P cal (ax P cal m1) none 106 (cL (cL (cR (cL (cR uJ))))) (Lv.a (Lv.a (Lv.b (Lv.a (Lv.b (A 106)))))) (Ix cal k m1) (vy cal k) (aw P jq)
noncomputable def R106_1 (cal:Cal) (k m1:Nat):V4:=fun u0 u7 u8 u9 H n=>ax P cal m1 (Lv.a (Lv.b (Lv.a (Lv.b (A 106))))) none 106 (cL (cR (cL (cR uJ)))) (Zj cal k) (vy cal k) (aw P jq) (Tr.set (Tr.set (Tr.set (Tr.set Tr.nil 9 (some u9)) 8 (some u8)) 7 (some u7)) 0 (some u0)) H n []
noncomputable def B106_1 (cal:Cal) (k m1:Nat) (b1:V4) (u0 u7 u8 u9:Value) (H:Hp) (n:Nat):Res:=
binK P .lss 3 (.tmp 9) (.tmp 8) u9 u8 fun v_5=>
ifK v_5 (
aq (aY P 44 u7 u9) fun v_6=>
aq (aX v_6) fun a_8=>aq (ak P H 3 a_8) fun v_7=>
BZ P .max [3,3] (Call.mk (Callee.builtin Builtin.max) #[(.tmp 13),(.tmp 14)] #[3,3]) 3 [u0,v_7] H n fun v_c H_d n_e=>
binK P .add 3 (.tmp 9) (.const (.int .i64 1)) u9 (.int .i64 1) fun v_g=>
b1 v_c u7 u8 v_g H_d n_e) (
some (u0,H,n))
noncomputable def Qq (cal:Cal) (k m1:Nat) (b1:V4) (u0 u7 u8 u9:Value) (H:Hp) (n:Nat):Res:=B106_1 cal k m1 b1 u0 u7 u8 u9 H n
noncomputable def EW (cal:Cal) (k:Nat):Nat→V4:=fun m=>Nat.rec (motive:=fun _=>V4) (Qq cal k 0 (fun _ _ _ _ _ _=>none)) (fun m ih=>Qq cal k (m+1) ih) m
theorem h106_1 (cal:Cal) (k m1:Nat) (u0 u7 u8 u9:Value) (H:Hp) (n:Nat):labK (E106_1 cal k m1) (Tr.set (Tr.set (Tr.set (Tr.set Tr.nil 9 (some u9)) 8 (some u8)) 7 (some u7)) 0 (some u0)) H n []=Qq cal k m1 (R106_1 cal k m1) u0 u7 u8 u9 H n:=by
 refine Eq.trans (b:=B106_1 cal k m1 (R106_1 cal k m1) u0 u7 u8 u9 H n) (by kernel_rfl) ?_
 rw[Qq]
theorem q106_1 (cal:Cal) (k:Nat):∀(m:Nat) (u0 u7 u8 u9:Value) (H:Hp) (n:Nat),labK (E106_1 cal k m) (Tr.set (Tr.set (Tr.set (Tr.set Tr.nil 9 (some u9)) 8 (some u8)) 7 (some u7)) 0 (some u0)) H n []=EW cal k m u0 u7 u8 u9 H n
 | 0,u0,u7,u8,u9,H,n=>by
  rw[h106_1]
  have e:R106_1 cal k 0=fun _ _ _ _ _ _=>none:=by funext u0 u7 u8 u9 H n; kernel_rfl
  rw[e]; rfl
 | m+1,u0,u7,u8,u9,H,n=>by
  rw[h106_1]
  have e:R106_1 cal k (m+1)=EW cal k m:=by
   funext u0 u7 u8 u9 H n
   have e:R106_1 cal k (m+1) u0 u7 u8 u9 H n=labK (E106_1 cal k m) (Tr.set (Tr.set (Tr.set (Tr.set Tr.nil 9 (some u9)) 8 (some u8)) 7 (some u7)) 0 (some u0)) H n []:=by kernel_rfl
   rw[e]; exact q106_1 ..
  rw[e]; rfl
noncomputable def B106_0 (cal:Cal) (k:Nat) (j1:V4) (v0 v1:Value) (H:Hp) (n:Nat):Res:=
aq (lenV P 44 v1) fun v_3=>
j1 v0 v1 v_3 (.int .i64 0) H n
noncomputable def Vq (cal:Cal) (k:Nat) (v0 v1:Value) (H:Hp) (n:Nat):Res:=B106_0 cal k (EW cal k k) v0 v1 H n
theorem h106_0 (cal:Cal) (k:Nat) (v0 v1:Value) (H:Hp) (n:Nat):aK P cal A (k+1) 106 [v0,v1] H n=Vq cal k v0 v1 H n:=by
 have h:aK P cal A (k+1) 106 [v0,v1] H n=B106_0 cal k (fun u0 u7 u8 u9 H n=>labK (E106_1 cal k k) (Tr.set (Tr.set (Tr.set (Tr.set Tr.nil 9 (some u9)) 8 (some u8)) 7 (some u7)) 0 (some u0)) H n []) v0 v1 H n:=by
  rw[bQ (fn:=Go.Proofs.Try.f106) (c:=uJ) (rs:=jq) (by kernel_rfl) (by kernel_rfl) (by kernel_rfl) (by kernel_rfl)]
  kernel_rfl
 rw[h,Vq]
 have e1:(fun u0 u7 u8 u9 H n=>labK (E106_1 cal k k) (Tr.set (Tr.set (Tr.set (Tr.set Tr.nil 9 (some u9)) 8 (some u8)) 7 (some u7)) 0 (some u0)) H n [])=(EW cal k k):=by funext u0 u7 u8 u9 H n; exact q106_1 ..
 rw[e1]
noncomputable def code110:Code:=cw 110
noncomputable def CZ:List ResultVar:=dk 110
noncomputable def K110_p (cal:Cal) (k:Nat):KR:=(cutK (A 110).c (az P cal (ax P cal k) none 110 (cR code110) (Lv.b (A 110)) (aw P CZ) X0 (aw P CZ)))
noncomputable def K110_pr (cal:Cal) (k:Nat):KR:=(cutK (Lv.b (A 110)).c (az P cal (ax P cal k) none 110 (cR (cR code110)) (Lv.b (Lv.b (A 110))) (aw P CZ) X0 (aw P CZ)))
noncomputable def B110_0 (cal:Cal) (k:Nat) (v0 v1:Value) (H:Hp) (n:Nat):Res:=
boxK 105 v0 H n fun v_1 H_2 n_3=>
boxK 3 v1 H_2 n_3 fun v_4 H_5 n_6=>
some ((Value.func (Fn.func 117) ⟨[]⟩ ⟨[v_1,v_4]⟩),H_5,n_6)
noncomputable def C110_0 (cal:Cal) (k:Nat) (v0 v1:Value) (H:Hp) (n:Nat):Res:=B110_0 cal k v0 v1 H n
theorem h110_0 (cal:Cal) (k:Nat) (v0 v1:Value) (H:Hp) (n:Nat):aK P cal A (k+1) 110 [v0,v1] H n=C110_0 cal k v0 v1 H n:=by
 have h:aK P cal A (k+1) 110 [v0,v1] H n=B110_0 cal k v0 v1 H n:=by
  rw[bQ (fn:=Go.Proofs.Try.f110) (c:=code110) (rs:=CZ) (by kernel_rfl) (by kernel_rfl) (by kernel_rfl) (by kernel_rfl)]
  kernel_rfl
 rw[h,C110_0]
noncomputable def qY:Code:=cw 111
noncomputable def gZ:List ResultVar:=dk 111
noncomputable def K111_p (cal:Cal) (k:Nat):KR:=(cutK (A 111).c (az P cal (ax P cal k) none 111 (cR qY) (Lv.b (A 111)) (aw P gZ) X0 (aw P gZ)))
noncomputable def Zq (cal:Cal) (k:Nat):KR:=(cutK (Lv.b (A 111)).c (az P cal (ax P cal k) none 111 (cR (cR qY)) (Lv.b (Lv.b (A 111))) (aw P gZ) X0 (aw P gZ)))
noncomputable def K111_prl (cal:Cal) (k:Nat):KR:=(cutK (Lv.a (Lv.b (A 111))).c (az P cal (ax P cal k) none 111 (cR (cL (cR qY))) (Lv.b (Lv.a (Lv.b (A 111)))) (Zq cal k) X0 (aw P gZ)))
noncomputable def vz (cal:Cal) (k:Nat):XR:=(upX 0 (Zq cal k) X0)
noncomputable def Iy (cal:Cal) (k:Nat) (m1:Nat):KR:=(fun T H n D=>ax P cal m1 (Lv.a (Lv.b (Lv.a (Lv.b (A 111))))) none 111 (cL (cR (cL (cR qY)))) (Zq cal k) (vz cal k) (aw P gZ) (cutT (Lv.a (Lv.b (Lv.a (Lv.b (A 111))))).c T) H n D)
noncomputable def K111_prlrll (cal:Cal) (k:Nat) (m1:Nat):KR:=(cutK (Lv.a (Lv.a (Lv.b (Lv.a (Lv.b (A 111)))))).c (az P cal (ax P cal m1) none 111 (cR (cL (cL (cR (cL (cR qY)))))) (Lv.b (Lv.a (Lv.a (Lv.b (Lv.a (Lv.b (A 111))))))) (Iy cal k m1) (vz cal k) (aw P gZ)))
noncomputable def K111_prlrllr (cal:Cal) (k:Nat) (m1:Nat):KR:=(cutK (Lv.b (Lv.a (Lv.a (Lv.b (Lv.a (Lv.b (A 111))))))).c (az P cal (ax P cal m1) none 111 (cR (cR (cL (cL (cR (cL (cR qY))))))) (Lv.b (Lv.b (Lv.a (Lv.a (Lv.b (Lv.a (Lv.b (A 111)))))))) (Iy cal k m1) (vz cal k) (aw P gZ)))
noncomputable def zX (cal:Cal) (k:Nat) (m1:Nat):KR:=(cutK (Lv.b (Lv.b (Lv.a (Lv.a (Lv.b (Lv.a (Lv.b (A 111)))))))).c (az P cal (ax P cal m1) none 111 (cR (cR (cR (cL (cL (cR (cL (cR qY)))))))) (Lv.b (Lv.b (Lv.b (Lv.a (Lv.a (Lv.b (Lv.a (Lv.b (A 111))))))))) (Iy cal k m1) (vz cal k) (aw P gZ)))
noncomputable def Ak (cal:Cal) (k:Nat) (m1:Nat):XR:=(upX 1 (zX cal k m1) (vz cal k))
noncomputable def K111_prlrllrrll (cal:Cal) (k:Nat) (m1:Nat):KR:=(cutK (Lv.a (Lv.a (Lv.b (Lv.b (Lv.a (Lv.a (Lv.b (Lv.a (Lv.b (A 111)))))))))).c (az P cal (ax P cal m1) none 111 (cR (cL (cL (cR (cR (cL (cL (cR (cL (cR qY)))))))))) (Lv.b (Lv.a (Lv.a (Lv.b (Lv.b (Lv.a (Lv.a (Lv.b (Lv.a (Lv.b (A 111))))))))))) (zX cal k m1) (Ak cal k m1) (aw P gZ)))
noncomputable def K111_prlrllrrllr (cal:Cal) (k:Nat) (m1:Nat):KR:=(cutK (Lv.b (Lv.a (Lv.a (Lv.b (Lv.b (Lv.a (Lv.a (Lv.b (Lv.a (Lv.b (A 111))))))))))).c (az P cal (ax P cal m1) none 111 (cR (cR (cL (cL (cR (cR (cL (cL (cR (cL (cR qY))))))))))) (Lv.b (Lv.b (Lv.a (Lv.a (Lv.b (Lv.b (Lv.a (Lv.a (Lv.b (Lv.a (Lv.b (A 111)))))))))))) (zX cal k m1) (Ak cal k m1) (aw P gZ)))
noncomputable def K111_prlrllrrllrrl (cal:Cal) (k:Nat) (m1:Nat):KR:=(cutK (Lv.a (Lv.b (Lv.b (Lv.a (Lv.a (Lv.b (Lv.b (Lv.a (Lv.a (Lv.b (Lv.a (Lv.b (A 111))))))))))))).c (az P cal (ax P cal m1) none 111 (cR (cL (cR (cR (cL (cL (cR (cR (cL (cL (cR (cL (cR qY))))))))))))) (Lv.b (Lv.a (Lv.b (Lv.b (Lv.a (Lv.a (Lv.b (Lv.b (Lv.a (Lv.a (Lv.b (Lv.a (Lv.b (A 111)))))))))))))) (zX cal k m1) (Ak cal k m1) (aw P gZ)))
noncomputable def K111_prr (cal:Cal) (k:Nat):KR:=(cutK (Lv.b (Lv.b (A 111))).c (az P cal (ax P cal k) none 111 (cR (cR (cR qY))) (Lv.b (Lv.b (Lv.b (A 111)))) (aw P gZ) X0 (aw P gZ)))
noncomputable def E111_1 (cal:Cal) (k m1:Nat):KR:=az P cal (ax P cal m1) none 111 (cL (cL (cR (cL (cR qY))))) (Lv.a (Lv.a (Lv.b (Lv.a (Lv.b (A 111)))))) (Iy cal k m1) (vz cal k) (aw P gZ)
noncomputable def R111_1 (cal:Cal) (k m1:Nat):V4:=fun u0 u3 u11 u12 H n=>ax P cal m1 (Lv.a (Lv.b (Lv.a (Lv.b (A 111))))) none 111 (cL (cR (cL (cR qY)))) (Zq cal k) (vz cal k) (aw P gZ) (Tr.set (Tr.set (Tr.set (Tr.set Tr.nil 12 (some u12)) 11 (some u11)) 3 (some u3)) 0 (some u0)) H n []
noncomputable def B111_1 (cal:Cal) (k m1:Nat) (b1:V4) (u0 u3 u11 u12:Value) (H:Hp) (n:Nat):Res:=
binK P .lss 3 (.tmp 12) (.tmp 11) u12 u11 fun v_d=>
ifK v_d (
aq (aX u3) fun a_i=>aq (ak P H 111 a_i) fun v_h=>
aW P cal 69 [u0,v_h,u12] H n fun v_k H_l n_m=>
ifK v_k (
some ((.bool false),H_l,n_m)) (
binK P .add 3 (.tmp 12) (.const (.int .i64 1)) u12 (.int .i64 1) fun v_o=>
b1 u0 u3 u11 v_o H_l n_m)) (
some ((.bool true),H,n))
noncomputable def Vv (cal:Cal) (k m1:Nat) (b1:V4) (u0 u3 u11 u12:Value) (H:Hp) (n:Nat):Res:=B111_1 cal k m1 b1 u0 u3 u11 u12 H n
noncomputable def Vw (cal:Cal) (k:Nat):Nat→V4:=fun m=>Nat.rec (motive:=fun _=>V4) (Vv cal k 0 (fun _ _ _ _ _ _=>none)) (fun m ih=>Vv cal k (m+1) ih) m
theorem h111_1 (cal:Cal) (k m1:Nat) (u0 u3 u11 u12:Value) (H:Hp) (n:Nat):labK (E111_1 cal k m1) (Tr.set (Tr.set (Tr.set (Tr.set Tr.nil 12 (some u12)) 11 (some u11)) 3 (some u3)) 0 (some u0)) H n []=Vv cal k m1 (R111_1 cal k m1) u0 u3 u11 u12 H n:=by
 refine Eq.trans (b:=B111_1 cal k m1 (R111_1 cal k m1) u0 u3 u11 u12 H n) (by kernel_rfl) ?_
 rw[Vv]
theorem q111_1 (cal:Cal) (k:Nat):∀(m:Nat) (u0 u3 u11 u12:Value) (H:Hp) (n:Nat),labK (E111_1 cal k m) (Tr.set (Tr.set (Tr.set (Tr.set Tr.nil 12 (some u12)) 11 (some u11)) 3 (some u3)) 0 (some u0)) H n []=Vw cal k m u0 u3 u11 u12 H n
 | 0,u0,u3,u11,u12,H,n=>by
  rw[h111_1]
  have e:R111_1 cal k 0=fun _ _ _ _ _ _=>none:=by funext u0 u3 u11 u12 H n; kernel_rfl
  rw[e]; rfl
 | m+1,u0,u3,u11,u12,H,n=>by
  rw[h111_1]
  have e:R111_1 cal k (m+1)=Vw cal k m:=by
   funext u0 u3 u11 u12 H n
   have e:R111_1 cal k (m+1) u0 u3 u11 u12 H n=labK (E111_1 cal k m) (Tr.set (Tr.set (Tr.set (Tr.set Tr.nil 12 (some u12)) 11 (some u11)) 3 (some u3)) 0 (some u0)) H n []:=by kernel_rfl
   rw[e]; exact q111_1 ..
  rw[e]; rfl
noncomputable def B111_0 (cal:Cal) (k:Nat) (j1:V4) (v0 v1:Value) (H:Hp) (n:Nat):Res:=
boxK 111 v1 H n fun v_1 H_2 n_3=>
aq (nilV v0) fun v_6=>
aq (ay P 117 v_6 0) fun v_7=>
aq (ay P 35 v_7 0) fun v_8=>
aq (aX v_8) fun a_a=>aq (ak P H_2 31 a_a) fun v_9=>
aq (lenV P 31 v_9) fun v_b=>
j1 v0 v_1 v_b (.int .i64 0) H_2 n_3
noncomputable def C111_0 (cal:Cal) (k:Nat) (v0 v1:Value) (H:Hp) (n:Nat):Res:=B111_0 cal k (Vw cal k k) v0 v1 H n
theorem h111_0 (cal:Cal) (k:Nat) (v0 v1:Value) (H:Hp) (n:Nat):aK P cal A (k+1) 111 [v0,v1] H n=C111_0 cal k v0 v1 H n:=by
 have h:aK P cal A (k+1) 111 [v0,v1] H n=B111_0 cal k (fun u0 u3 u11 u12 H n=>labK (E111_1 cal k k) (Tr.set (Tr.set (Tr.set (Tr.set Tr.nil 12 (some u12)) 11 (some u11)) 3 (some u3)) 0 (some u0)) H n []) v0 v1 H n:=by
  rw[bQ (fn:=Go.Proofs.Try.f111) (c:=qY) (rs:=gZ) (by kernel_rfl) (by kernel_rfl) (by kernel_rfl) (by kernel_rfl)]
  kernel_rfl
 rw[h,C111_0]
 have e1:(fun u0 u3 u11 u12 H n=>labK (E111_1 cal k k) (Tr.set (Tr.set (Tr.set (Tr.set Tr.nil 12 (some u12)) 11 (some u11)) 3 (some u3)) 0 (some u0)) H n [])=(Vw cal k k):=by funext u0 u3 u11 u12 H n; exact q111_1 ..
 rw[e1]
noncomputable def qZ:Code:=cw 112
noncomputable def fy:List ResultVar:=dk 112
noncomputable def K112_pr (cal:Cal) (k:Nat):KR:=(cutK (Lv.b (A 112)).c (az P cal (ax P cal k) none 112 (cR (cR qZ)) (Lv.b (Lv.b (A 112))) (aw P fy) X0 (aw P fy)))
noncomputable def wq (cal:Cal) (k:Nat):XR:=(upX 0 (aw P fy) X0)
noncomputable def Nk (cal:Cal) (k:Nat) (m1:Nat):KR:=(fun T H n D=>ax P cal m1 (Lv.a (Lv.b (Lv.b (A 112)))) none 112 (cL (cR (cR qZ))) (aw P fy) (wq cal k) (aw P fy) (cutT (Lv.a (Lv.b (Lv.b (A 112)))).c T) H n D)
noncomputable def K112_prrll (cal:Cal) (k:Nat) (m1:Nat):KR:=(cutK (Lv.a (Lv.a (Lv.b (Lv.b (A 112))))).c (az P cal (ax P cal m1) none 112 (cR (cL (cL (cR (cR qZ))))) (Lv.b (Lv.a (Lv.a (Lv.b (Lv.b (A 112)))))) (Nk cal k m1) (wq cal k) (aw P fy)))
noncomputable def K112_prrlll (cal:Cal) (k:Nat) (m1:Nat):KR:=(cutK (Lv.a (Lv.a (Lv.a (Lv.b (Lv.b (A 112)))))).c (az P cal (ax P cal m1) none 112 (cR (cL (cL (cL (cR (cR qZ)))))) (Lv.b (Lv.a (Lv.a (Lv.a (Lv.b (Lv.b (A 112))))))) (K112_prrll cal k m1) (wq cal k) (aw P fy)))
noncomputable def Lw (cal:Cal) (k:Nat) (m1:Nat):KR:=(cutK (Lv.b (Lv.a (Lv.a (Lv.b (Lv.b (A 112)))))).c (az P cal (ax P cal m1) none 112 (cR (cR (cL (cL (cR (cR qZ)))))) (Lv.b (Lv.b (Lv.a (Lv.a (Lv.b (Lv.b (A 112))))))) (Nk cal k m1) (wq cal k) (aw P fy)))
noncomputable def K112_pxrrllrl (cal:Cal) (k:Nat) (m1:Nat):XR:=(upX 1 (Lw cal k m1) (wq cal k))
noncomputable def K112_prrllrll (cal:Cal) (k:Nat) (m1:Nat):KR:=(cutK (Lv.a (Lv.a (Lv.b (Lv.a (Lv.a (Lv.b (Lv.b (A 112)))))))).c (az P cal (ax P cal m1) none 112 (cR (cL (cL (cR (cL (cL (cR (cR qZ)))))))) (Lv.b (Lv.a (Lv.a (Lv.b (Lv.a (Lv.a (Lv.b (Lv.b (A 112))))))))) (Lw cal k m1) (K112_pxrrllrl cal k m1) (aw P fy)))
noncomputable def K112_prrllrllr (cal:Cal) (k:Nat) (m1:Nat):KR:=(cutK (Lv.b (Lv.a (Lv.a (Lv.b (Lv.a (Lv.a (Lv.b (Lv.b (A 112))))))))).c (az P cal (ax P cal m1) none 112 (cR (cR (cL (cL (cR (cL (cL (cR (cR qZ))))))))) (Lv.b (Lv.b (Lv.a (Lv.a (Lv.b (Lv.a (Lv.a (Lv.b (Lv.b (A 112)))))))))) (Lw cal k m1) (K112_pxrrllrl cal k m1) (aw P fy)))
noncomputable def K112_p (cal:Cal) (k:Nat):KR:=(cutK (A 112).c (az P cal (ax P cal k) none 112 (cR qZ) (Lv.b (A 112)) (aw P fy) X0 (aw P fy)))
noncomputable def K112_pl (cal:Cal) (k:Nat):KR:=(cutK (Lv.a (A 112)).c (az P cal (ax P cal k) none 112 (cR (cL qZ)) (Lv.b (Lv.a (A 112))) (K112_p cal k) X0 (aw P fy)))
noncomputable def E112_3 (cal:Cal) (k m1:Nat):KR:=az P cal (ax P cal m1) none 112 (cR (cR (cL (cL (cR (cR qZ)))))) (Lv.b (Lv.b (Lv.a (Lv.a (Lv.b (Lv.b (A 112))))))) (Nk cal k m1) (wq cal k) (aw P fy)
noncomputable def E112_2 (cal:Cal) (k m1:Nat):KR:=az P cal (ax P cal m1) none 112 (cL (cL (cR (cR qZ)))) (Lv.a (Lv.a (Lv.b (Lv.b (A 112))))) (Nk cal k m1) (wq cal k) (aw P fy)
noncomputable def Lx (cal:Cal) (k m1:Nat):V4:=fun u0 u3 u4 u7 H n=>ax P cal m1 (Lv.a (Lv.b (Lv.b (A 112)))) none 112 (cL (cR (cR qZ))) (aw P fy) (wq cal k) (aw P fy) (Tr.set (Tr.set (Tr.set (Tr.set Tr.nil 7 (some u7)) 4 (some u4)) 3 (some u3)) 0 (some u0)) H n []
noncomputable def E112_1 (cal:Cal) (k:Nat):KR:=az P cal (ax P cal k) none 112 (cR qZ) (Lv.b (A 112)) (aw P fy) X0 (aw P fy)
noncomputable def B112_3 (cal:Cal) (k m1:Nat) (b2:V4) (u0 u3 u4 u7:Value) (H:Hp) (n:Nat):Res:=
binK P .add 3 (.tmp 24) (.const (.int .i64 1)) u7 (.int .i64 1) fun v_e=>
b2 u0 u3 u4 v_e H n
noncomputable def Vx (cal:Cal) (k m1:Nat) (b2:V4) (u0 u3 u4 u7:Value) (H:Hp) (n:Nat):Res:=B112_3 cal k m1 b2 u0 u3 u4 u7 H n
theorem h112_3 (cal:Cal) (k m1:Nat) (u0 u3 u4 u7:Value) (H:Hp) (n:Nat):labK (E112_3 cal k m1) (Tr.set (Tr.set (Tr.set (Tr.set Tr.nil 7 (some u7)) 4 (some u4)) 3 (some u3)) 0 (some u0)) H n []=Vx cal k m1 (Lx cal k m1) u0 u3 u4 u7 H n:=by
 refine Eq.trans (b:=B112_3 cal k m1 (Lx cal k m1) u0 u3 u4 u7 H n) (by kernel_rfl) ?_
 rw[Vx]
noncomputable def B112_2 (cal:Cal) (k m1:Nat) (j3:V4) (b2:V4) (u0 u3 u4 u7:Value) (H:Hp) (n:Nat):Res:=
aq (aX u3) fun a_5=>aq (ak P H 105 a_5) fun v_4=>
aq (nilV v_4) fun v_6=>
aq (ay P 117 v_6 0) fun v_7=>
aq (ay P 35 v_7 0) fun v_8=>
aq (aX v_8) fun a_a=>aq (ak P H 31 a_a) fun v_9=>
aq (lenV P 31 v_9) fun v_b=>
binK P .lss 3 (.tmp 16) (.tmp 22) u7 v_b fun v_c=>
ifK v_c (
aW P cal 76 [u0] H n fun v_h H_i n_j=>
rowK P 44 1 [(0,u7)] H_i n_j fun v_l H_m n_n=>
stK (fk P (bare H_m n_n) 44 44 v_h v_l) fun v_o H_p n_q=>
aq (aX u3) fun a_t=>aq (ak P H_p 105 a_t) fun v_s=>
aW P cal 88 [v_s,v_o] H_p n_q fun v_v H_w n_x=>
ifK v_v (
aq (aX u4) fun a_z=>aq (ak P H_w 170 a_z) fun v_y=>
binK P .add 3 (.tmp 36) (.const (.int .i64 1)) u7 (.int .i64 1) fun v_12=>
ew P cal v_y [v_o,v_12] H_w n_x fun v_13 H_14 n_15=>
j3 u0 u3 u4 u7 H_14 n_15) (
j3 u0 u3 u4 u7 H_w n_x)) (
some ((Value.tuple ⟨[]⟩),H,n))
noncomputable def Vy (cal:Cal) (k m1:Nat) (b2:V4) (u0 u3 u4 u7:Value) (H:Hp) (n:Nat):Res:=B112_2 cal k m1 (Vx cal k m1 b2) b2 u0 u3 u4 u7 H n
noncomputable def Vz (cal:Cal) (k:Nat):Nat→V4:=fun m=>Nat.rec (motive:=fun _=>V4) (Vy cal k 0 (fun _ _ _ _ _ _=>none)) (fun m ih=>Vy cal k (m+1) ih) m
theorem h112_2 (cal:Cal) (k m1:Nat) (u0 u3 u4 u7:Value) (H:Hp) (n:Nat):labK (E112_2 cal k m1) (Tr.set (Tr.set (Tr.set (Tr.set Tr.nil 7 (some u7)) 4 (some u4)) 3 (some u3)) 0 (some u0)) H n []=Vy cal k m1 (Lx cal k m1) u0 u3 u4 u7 H n:=by
 refine Eq.trans (b:=B112_2 cal k m1 (fun u0 u3 u4 u7 H n=>labK (E112_3 cal k m1) (Tr.set (Tr.set (Tr.set (Tr.set Tr.nil 7 (some u7)) 4 (some u4)) 3 (some u3)) 0 (some u0)) H n []) (Lx cal k m1) u0 u3 u4 u7 H n) (by kernel_rfl) ?_
 rw[Vy]
 have e3:(fun u0 u3 u4 u7 H n=>labK (E112_3 cal k m1) (Tr.set (Tr.set (Tr.set (Tr.set Tr.nil 7 (some u7)) 4 (some u4)) 3 (some u3)) 0 (some u0)) H n [])=(Vx cal k m1 (Lx cal k m1)):=by funext u0 u3 u4 u7 H n; exact h112_3 ..
 rw[e3]
theorem q112_2 (cal:Cal) (k:Nat):∀(m:Nat) (u0 u3 u4 u7:Value) (H:Hp) (n:Nat),labK (E112_2 cal k m) (Tr.set (Tr.set (Tr.set (Tr.set Tr.nil 7 (some u7)) 4 (some u4)) 3 (some u3)) 0 (some u0)) H n []=Vz cal k m u0 u3 u4 u7 H n
 | 0,u0,u3,u4,u7,H,n=>by
  rw[h112_2]
  have e:Lx cal k 0=fun _ _ _ _ _ _=>none:=by funext u0 u3 u4 u7 H n; kernel_rfl
  rw[e]; rfl
 | m+1,u0,u3,u4,u7,H,n=>by
  rw[h112_2]
  have e:Lx cal k (m+1)=Vz cal k m:=by
   funext u0 u3 u4 u7 H n
   have e:Lx cal k (m+1) u0 u3 u4 u7 H n=labK (E112_2 cal k m) (Tr.set (Tr.set (Tr.set (Tr.set Tr.nil 7 (some u7)) 4 (some u4)) 3 (some u3)) 0 (some u0)) H n []:=by kernel_rfl
   rw[e]; exact q112_2 ..
  rw[e]; rfl
noncomputable def B112_1 (cal:Cal) (k:Nat) (j2:V4) (u0 u1 u3 u4:Value) (H:Hp) (n:Nat):Res:=
j2 u0 u3 u4 u1 H n
noncomputable def C112_1 (cal:Cal) (k:Nat) (u0 u1 u3 u4:Value) (H:Hp) (n:Nat):Res:=B112_1 cal k (Vz cal k k) u0 u1 u3 u4 H n
theorem h112_1 (cal:Cal) (k:Nat) (u0 u1 u3 u4:Value) (H:Hp) (n:Nat):labK (E112_1 cal k) (Tr.set (Tr.set (Tr.set (Tr.set Tr.nil 4 (some u4)) 3 (some u3)) 1 (some u1)) 0 (some u0)) H n []=C112_1 cal k u0 u1 u3 u4 H n:=by
 refine Eq.trans (b:=B112_1 cal k (fun u0 u3 u4 u7 H n=>labK (E112_2 cal k k) (Tr.set (Tr.set (Tr.set (Tr.set Tr.nil 7 (some u7)) 4 (some u4)) 3 (some u3)) 0 (some u0)) H n []) u0 u1 u3 u4 H n) (by kernel_rfl) ?_
 rw[C112_1]
 have e2:(fun u0 u3 u4 u7 H n=>labK (E112_2 cal k k) (Tr.set (Tr.set (Tr.set (Tr.set Tr.nil 7 (some u7)) 4 (some u4)) 3 (some u3)) 0 (some u0)) H n [])=(Vz cal k k):=by funext u0 u3 u4 u7 H n; exact q112_2 ..
 rw[e2]
noncomputable def B112_0 (cal:Cal) (k:Nat) (j1:V4) (v0 v1 v2 v3 v4:Value) (H:Hp) (n:Nat):Res:=
aq (lenV P 44 v0) fun v_17=>
aq (aX v2) fun a_19=>aq (ak P H 44 a_19) fun v_18=>
aq (lenV P 44 v_18) fun v_1a=>
binK P .gtr 3 (.tmp 10) (.tmp 12) v_17 v_1a fun v_1b=>
ifK v_1b (
aq (bx P 44 v2 v0 H) fun H_1e=>
j1 v0 v1 v3 v4 H_1e n) (
j1 v0 v1 v3 v4 H n)
noncomputable def Iz (cal:Cal) (k:Nat) (v0 v1 v2 v3 v4:Value) (H:Hp) (n:Nat):Res:=B112_0 cal k (C112_1 cal k) v0 v1 v2 v3 v4 H n
theorem h112_0 (cal:Cal) (k:Nat) (v0 v1 v2 v3 v4:Value) (H:Hp) (n:Nat):aK P cal A (k+1) 112 [v0,v1,v2,v3,v4] H n=Iz cal k v0 v1 v2 v3 v4 H n:=by
 have h:aK P cal A (k+1) 112 [v0,v1,v2,v3,v4] H n=B112_0 cal k (fun u0 u1 u3 u4 H n=>labK (E112_1 cal k) (Tr.set (Tr.set (Tr.set (Tr.set Tr.nil 4 (some u4)) 3 (some u3)) 1 (some u1)) 0 (some u0)) H n []) v0 v1 v2 v3 v4 H n:=by
  rw[bQ (fn:=Go.Proofs.Try.f112) (c:=qZ) (rs:=fy) (by kernel_rfl) (by kernel_rfl) (by kernel_rfl) (by kernel_rfl)]
  kernel_rfl
 rw[h,Iz]
 have e1:(fun u0 u1 u3 u4 H n=>labK (E112_1 cal k) (Tr.set (Tr.set (Tr.set (Tr.set Tr.nil 4 (some u4)) 3 (some u3)) 1 (some u1)) 0 (some u0)) H n [])=(C112_1 cal k):=by funext u0 u1 u3 u4 H n; exact h112_1 ..
 rw[e1]
noncomputable def code113:Code:=cw 113
noncomputable def CK:List ResultVar:=dk 113
noncomputable def K113_p (cal:Cal) (k:Nat):KR:=(cutK (A 113).c (az P cal (ax P cal k) none 113 (cR code113) (Lv.b (A 113)) (aw P CK) X0 (aw P CK)))
noncomputable def K113_pr (cal:Cal) (k:Nat):KR:=(cutK (Lv.b (A 113)).c (az P cal (ax P cal k) none 113 (cR (cR code113)) (Lv.b (Lv.b (A 113))) (aw P CK) X0 (aw P CK)))
noncomputable def B113_0 (cal:Cal) (k:Nat) (v0 v1:Value) (H:Hp) (n:Nat):Res:=
boxK 105 v0 H n fun v_1 H_2 n_3=>
boxK 3 v1 H_2 n_3 fun v_4 H_5 n_6=>
some ((Value.func (Fn.func 119) ⟨[]⟩ ⟨[v_4,v_1]⟩),H_5,n_6)
noncomputable def C113_0 (cal:Cal) (k:Nat) (v0 v1:Value) (H:Hp) (n:Nat):Res:=B113_0 cal k v0 v1 H n
theorem h113_0 (cal:Cal) (k:Nat) (v0 v1:Value) (H:Hp) (n:Nat):aK P cal A (k+1) 113 [v0,v1] H n=C113_0 cal k v0 v1 H n:=by
 have h:aK P cal A (k+1) 113 [v0,v1] H n=B113_0 cal k v0 v1 H n:=by
  rw[bQ (fn:=Go.Proofs.Try.f113) (c:=code113) (rs:=CK) (by kernel_rfl) (by kernel_rfl) (by kernel_rfl) (by kernel_rfl)]
  kernel_rfl
 rw[h,C113_0]
noncomputable def code114:Code:=cw 114
noncomputable def Dj:List ResultVar:=dk 114
noncomputable def K114_p (cal:Cal) (k:Nat):KR:=(cutK (A 114).c (az P cal (ax P cal k) none 114 (cR code114) (Lv.b (A 114)) (aw P Dj) X0 (aw P Dj)))
noncomputable def K114_pr (cal:Cal) (k:Nat):KR:=(cutK (Lv.b (A 114)).c (az P cal (ax P cal k) none 114 (cR (cR code114)) (Lv.b (Lv.b (A 114))) (aw P Dj) X0 (aw P Dj)))
noncomputable def B114_0 (cal:Cal) (k:Nat) (v0:Value) (H:Hp) (n:Nat):Res:=
boxK 53 v0 H n fun v_1 H_2 n_3=>
aq (ay P 53 v_1 0) fun v_5=>
aq (aX v_5) fun a_7=>aq (ak P H_2 3 a_7) fun v_6=>
binK P .geq 3 (.tmp 4) (.const (.int .i64 0)) v_6 (.int .i64 0) fun v_8=>
aV v_8 true (fun k_a=>
aq (ay P 53 v_1 0) fun v_e=>
k_a v_e H_2 n_3) H_2 n_3 fun v_b H_c n_d=>
aV v_8 true (fun k_f=>
aq (aX v_b) fun a_k=>aq (ak P H_c 3 a_k) fun v_j=>
k_f v_j H_c n_d) H_c n_d fun v_g H_h n_i=>
aV v_8 true (fun k_l=>
aq (ay P 53 v_1 1) fun v_p=>
k_l v_p H_h n_i) H_h n_i fun v_m H_n n_o=>
aV v_8 true (fun k_q=>
aq (aX v_m) fun a_v=>aq (ak P H_n 3 a_v) fun v_u=>
k_q v_u H_n n_o) H_n n_o fun v_r H_s n_t=>
aV v_8 true (fun k_w=>
binK P .leq 3 (.tmp 8) (.tmp 10) v_g v_r fun v_10=>
k_w v_10 H_s n_t) H_s n_t fun v_x H_y n_z=>
aq (dv v_8 v_x (.bool false)) fun v_11=>
aV v_11 true (fun k_13=>
aq (ay P 53 v_1 1) fun v_17=>
k_13 v_17 H_y n_z) H_y n_z fun v_14 H_15 n_16=>
aV v_11 true (fun k_18=>
aq (aX v_14) fun a_1d=>aq (ak P H_15 3 a_1d) fun v_1c=>
k_18 v_1c H_15 n_16) H_15 n_16 fun v_19 H_1a n_1b=>
aV v_11 true (fun k_1e=>
binK P .leq 3 (.tmp 15) (.const (.int .i64 1000)) v_19 (.int .i64 1000) fun v_1i=>
k_1e v_1i H_1a n_1b) H_1a n_1b fun v_1f H_1g n_1h=>
aq (dv v_11 v_1f (.bool false)) fun v_1j=>
some (v_1j,H_1g,n_1h)
noncomputable def Vk (cal:Cal) (k:Nat) (v0:Value) (H:Hp) (n:Nat):Res:=B114_0 cal k v0 H n
theorem h114_0 (cal:Cal) (k:Nat) (v0:Value) (H:Hp) (n:Nat):aK P cal A (k+1) 114 [v0] H n=Vk cal k v0 H n:=by
 have h:aK P cal A (k+1) 114 [v0] H n=B114_0 cal k v0 H n:=by
  rw[bQ (fn:=Go.Proofs.Try.f114) (c:=code114) (rs:=Dj) (by kernel_rfl) (by kernel_rfl) (by kernel_rfl) (by kernel_rfl)]
  kernel_rfl
 rw[h,Vk]
noncomputable def sZ:Code:=cw 115
noncomputable def fV:List ResultVar:=dk 115
noncomputable def K115_p (cal:Cal) (k:Nat):KR:=(cutK (A 115).c (az P cal (ax P cal k) none 115 (cR sZ) (Lv.b (A 115)) (aw P fV) X0 (aw P fV)))
noncomputable def K115_pr (cal:Cal) (k:Nat):KR:=(cutK (Lv.b (A 115)).c (az P cal (ax P cal k) none 115 (cR (cR sZ)) (Lv.b (Lv.b (A 115))) (aw P fV) X0 (aw P fV)))
noncomputable def Sv (cal:Cal) (k:Nat):KR:=(cutK (Lv.b (Lv.b (A 115))).c (az P cal (ax P cal k) none 115 (cR (cR (cR sZ))) (Lv.b (Lv.b (Lv.b (A 115)))) (aw P fV) X0 (aw P fV)))
noncomputable def K115_prrl (cal:Cal) (k:Nat):KR:=(cutK (Lv.a (Lv.b (Lv.b (A 115)))).c (az P cal (ax P cal k) none 115 (cR (cL (cR (cR sZ)))) (Lv.b (Lv.a (Lv.b (Lv.b (A 115))))) (Sv cal k) X0 (aw P fV)))
noncomputable def sw (cal:Cal) (k:Nat):XR:=(upX 0 (Sv cal k) X0)
noncomputable def DW (cal:Cal) (k:Nat) (m1:Nat):KR:=(fun T H n D=>ax P cal m1 (Lv.a (Lv.b (Lv.a (Lv.b (Lv.b (A 115)))))) none 115 (cL (cR (cL (cR (cR sZ))))) (Sv cal k) (sw cal k) (aw P fV) (cutT (Lv.a (Lv.b (Lv.a (Lv.b (Lv.b (A 115)))))).c T) H n D)
noncomputable def K115_prrlrll (cal:Cal) (k:Nat) (m1:Nat):KR:=(cutK (Lv.a (Lv.a (Lv.b (Lv.a (Lv.b (Lv.b (A 115))))))).c (az P cal (ax P cal m1) none 115 (cR (cL (cL (cR (cL (cR (cR sZ))))))) (Lv.b (Lv.a (Lv.a (Lv.b (Lv.a (Lv.b (Lv.b (A 115)))))))) (DW cal k m1) (sw cal k) (aw P fV)))
noncomputable def K115_prrlrllr (cal:Cal) (k:Nat) (m1:Nat):KR:=(cutK (Lv.b (Lv.a (Lv.a (Lv.b (Lv.a (Lv.b (Lv.b (A 115)))))))).c (az P cal (ax P cal m1) none 115 (cR (cR (cL (cL (cR (cL (cR (cR sZ)))))))) (Lv.b (Lv.b (Lv.a (Lv.a (Lv.b (Lv.a (Lv.b (Lv.b (A 115))))))))) (DW cal k m1) (sw cal k) (aw P fV)))
noncomputable def K115_prrlrllrr (cal:Cal) (k:Nat) (m1:Nat):KR:=(cutK (Lv.b (Lv.b (Lv.a (Lv.a (Lv.b (Lv.a (Lv.b (Lv.b (A 115))))))))).c (az P cal (ax P cal m1) none 115 (cR (cR (cR (cL (cL (cR (cL (cR (cR sZ))))))))) (Lv.b (Lv.b (Lv.b (Lv.a (Lv.a (Lv.b (Lv.a (Lv.b (Lv.b (A 115)))))))))) (DW cal k m1) (sw cal k) (aw P fV)))
noncomputable def K115_pxrrlrllrrl (cal:Cal) (k:Nat) (m1:Nat):XR:=(upX 1 (K115_prrlrllrr cal k m1) (sw cal k))
noncomputable def K115_prrlrllrrll (cal:Cal) (k:Nat) (m1:Nat):KR:=(cutK (Lv.a (Lv.a (Lv.b (Lv.b (Lv.a (Lv.a (Lv.b (Lv.a (Lv.b (Lv.b (A 115))))))))))).c (az P cal (ax P cal m1) none 115 (cR (cL (cL (cR (cR (cL (cL (cR (cL (cR (cR sZ))))))))))) (Lv.b (Lv.a (Lv.a (Lv.b (Lv.b (Lv.a (Lv.a (Lv.b (Lv.a (Lv.b (Lv.b (A 115)))))))))))) (K115_prrlrllrr cal k m1) (K115_pxrrlrllrrl cal k m1) (aw P fV)))
noncomputable def K115_prrr (cal:Cal) (k:Nat):KR:=(cutK (Lv.b (Lv.b (Lv.b (A 115)))).c (az P cal (ax P cal k) none 115 (cR (cR (cR (cR sZ)))) (Lv.b (Lv.b (Lv.b (Lv.b (A 115))))) (aw P fV) X0 (aw P fV)))
noncomputable def E115_1 (cal:Cal) (k m1:Nat):KR:=az P cal (ax P cal m1) none 115 (cL (cL (cR (cL (cR (cR sZ)))))) (Lv.a (Lv.a (Lv.b (Lv.a (Lv.b (Lv.b (A 115))))))) (DW cal k m1) (sw cal k) (aw P fV)
noncomputable def R115_1 (cal:Cal) (k m1:Nat):V3:=fun u4 u5 u10 H n=>ax P cal m1 (Lv.a (Lv.b (Lv.a (Lv.b (Lv.b (A 115)))))) none 115 (cL (cR (cL (cR (cR sZ))))) (Sv cal k) (sw cal k) (aw P fV) (Tr.set (Tr.set (Tr.set Tr.nil 10 (some u10)) 5 (some u5)) 4 (some u4)) H n []
noncomputable def B115_1 (cal:Cal) (k m1:Nat) (b1:V3) (u4 u5 u10:Value) (H:Hp) (n:Nat):Res:=
binK P .lss 3 (.tmp 10) (.const (.int .i64 8)) u10 (.int .i64 8) fun v_h=>
ifK v_h (
aq (aX u5) fun a_l=>aq (ak P H 113 a_l) fun v_m=>
aq (aX u5) fun a_o=>aq (ak P H 113 a_o) fun v_p=>
aq (ay P 113 u5 2) fun v_r=>
effK P [(.l 113 a_o),(.l 113 a_l)] H n (fun H_s n_t k_u=>
aW P cal 121 [] H_s n_t fun v_y H_z n_10=>
k_u v_y H_z n_10) fun v_v H_w n_x=>
effK P [(.l 113 a_o)] H_w n_x (fun H_11 n_12 k_13=>
aW P cal 120 [v_m,u10,v_v] H_11 n_12 fun v_17 H_18 n_19=>
k_13 v_17 H_18 n_19) fun v_14 H_15 n_16=>
effK P [(.l 113 a_o)] H_15 n_16 (fun H_1a n_1b k_1c=>
aW P cal 122 [] H_1a n_1b fun v_1g H_1h n_1i=>
k_1c v_1g H_1h n_1i) fun v_1d H_1e n_1f=>
aW P cal 120 [v_p,u10,v_1d] H_1e n_1f fun v_1j H_1k n_1l=>
aq (iW P 53 [(0,v_14),(1,v_1j)]) fun v_1m=>
aq (aY P 111 v_r u10) fun v_1n=>
aq (bx P 53 v_1n v_1m H_1k) fun H_1p=>
binK P .add 3 (.tmp 10) (.const (.int .i64 1)) u10 (.int .i64 1) fun v_1q=>
b1 u4 u5 v_1q H_1p n_1l) (
aq (aX u5) fun a_1t=>aq (ak P H 113 a_1t) fun v_1s=>
aq (bx P 113 u4 v_1s H) fun H_1v=>
aq (resV P (Tr.set Tr.nil 4 (some u4)) H_1v fV) fun v_1w=>some (oneV v_1w,H_1v,n))
noncomputable def VJ (cal:Cal) (k m1:Nat) (b1:V3) (u4 u5 u10:Value) (H:Hp) (n:Nat):Res:=B115_1 cal k m1 b1 u4 u5 u10 H n
noncomputable def S115_1 (cal:Cal) (k:Nat):Nat→V3:=fun m=>Nat.rec (motive:=fun _=>V3) (VJ cal k 0 (fun _ _ _ _ _=>none)) (fun m ih=>VJ cal k (m+1) ih) m
theorem h115_1 (cal:Cal) (k m1:Nat) (u4 u5 u10:Value) (H:Hp) (n:Nat):labK (E115_1 cal k m1) (Tr.set (Tr.set (Tr.set Tr.nil 10 (some u10)) 5 (some u5)) 4 (some u4)) H n []=VJ cal k m1 (R115_1 cal k m1) u4 u5 u10 H n:=by
 refine Eq.trans (b:=B115_1 cal k m1 (R115_1 cal k m1) u4 u5 u10 H n) (by kernel_rfl) ?_
 rw[VJ]
theorem q115_1 (cal:Cal) (k:Nat):∀(m:Nat) (u4 u5 u10:Value) (H:Hp) (n:Nat),labK (E115_1 cal k m) (Tr.set (Tr.set (Tr.set Tr.nil 10 (some u10)) 5 (some u5)) 4 (some u4)) H n []=S115_1 cal k m u4 u5 u10 H n
 | 0,u4,u5,u10,H,n=>by
  rw[h115_1]
  have e:R115_1 cal k 0=fun _ _ _ _ _=>none:=by funext u4 u5 u10 H n; kernel_rfl
  rw[e]; rfl
 | m+1,u4,u5,u10,H,n=>by
  rw[h115_1]
  have e:R115_1 cal k (m+1)=S115_1 cal k m:=by
   funext u4 u5 u10 H n
   have e:R115_1 cal k (m+1) u4 u5 u10 H n=labK (E115_1 cal k m) (Tr.set (Tr.set (Tr.set Tr.nil 10 (some u10)) 5 (some u5)) 4 (some u4)) H n []:=by kernel_rfl
   rw[e]; exact q115_1 ..
  rw[e]; rfl
noncomputable def B115_0 (cal:Cal) (k:Nat) (j1:V3) (v0 v1:Value) (H:Hp) (n:Nat):Res:=
boxK 111 v1 H n fun v_1 H_2 n_3=>
cQ P 113 H_2 n_3 fun v_4 H_5 n_6=>
aq (aX v_1) fun a_9=>aq (ak P H_5 111 a_9) fun v_8=>
aq (iW P 113 [(0,v0),(1,v_8)]) fun v_a=>
cQ P 113 H_5 n_6 fun v_b H_c n_d=>
aq (bx P 113 v_b v_a H_c) fun H_f=>
j1 v_4 v_b (.int .i64 0) H_f n_d
noncomputable def VQ (cal:Cal) (k:Nat) (v0 v1:Value) (H:Hp) (n:Nat):Res:=B115_0 cal k (S115_1 cal k k) v0 v1 H n
theorem h115_0 (cal:Cal) (k:Nat) (v0 v1:Value) (H:Hp) (n:Nat):aK P cal A (k+1) 115 [v0,v1] H n=VQ cal k v0 v1 H n:=by
 have h:aK P cal A (k+1) 115 [v0,v1] H n=B115_0 cal k (fun u4 u5 u10 H n=>labK (E115_1 cal k k) (Tr.set (Tr.set (Tr.set Tr.nil 10 (some u10)) 5 (some u5)) 4 (some u4)) H n []) v0 v1 H n:=by
  rw[bQ (fn:=Go.Proofs.Try.f115) (c:=sZ) (rs:=fV) (by kernel_rfl) (by kernel_rfl) (by kernel_rfl) (by kernel_rfl)]
  kernel_rfl
 rw[h,VQ]
 have e1:(fun u4 u5 u10 H n=>labK (E115_1 cal k k) (Tr.set (Tr.set (Tr.set Tr.nil 10 (some u10)) 5 (some u5)) 4 (some u4)) H n [])=(S115_1 cal k k):=by funext u4 u5 u10 H n; exact q115_1 ..
 rw[e1]
noncomputable def Zv:Code:=cw 117
noncomputable def vk:List ResultVar:=dk 117
noncomputable def K117_p (cal:Cal) (k:Nat):KR:=(cutK (A 117).c (az P cal (ax P cal k) none 117 (cR Zv) (Lv.b (A 117)) (aw P vk) X0 (aw P vk)))
noncomputable def K117_pr (cal:Cal) (k:Nat):KR:=(cutK (Lv.b (A 117)).c (az P cal (ax P cal k) none 117 (cR (cR Zv)) (Lv.b (Lv.b (A 117))) (aw P vk) X0 (aw P vk)))
noncomputable def K117_prr (cal:Cal) (k:Nat):KR:=(cutK (Lv.b (Lv.b (A 117))).c (az P cal (ax P cal k) none 117 (cR (cR (cR Zv))) (Lv.b (Lv.b (Lv.b (A 117)))) (aw P vk) X0 (aw P vk)))
noncomputable def B117_0 (cal:Cal) (k:Nat) (v0 v1 v2:Value) (H:Hp) (n:Nat):Res:=
boxK 175 v0 H n fun v_1 H_2 n_3=>
cQ P 176 H_2 n_3 fun v_4 H_5 n_6=>
aq (bx P 176 v_4 (Value.func (Fn.func 118) ⟨[]⟩ ⟨[v1,v_1,v_4]⟩) H_5) fun H_9=>
aq (aX v_4) fun a_a=>aq (ak P H_9 176 a_a) fun v_b=>
aq (iW P 111 []) fun v_c=>
aq (aX v2) fun a_d=>aq (ak P H_9 3 a_d) fun v_e=>
effK P [(.l 3 a_d),(.l 176 a_a)] H_9 n_6 (fun H_f n_g k_h=>
aW P cal 101 [] H_f n_g fun v_l H_m n_n=>
k_h v_l H_m n_n) fun v_i H_j n_k=>
ew P cal v_b [v_i,v_c,(.int .i64 0),v_e] H_j n_k fun v_o H_p n_q=>
some ((Value.tuple ⟨[]⟩),H_p,n_q)
noncomputable def Qv (cal:Cal) (k:Nat) (v0 v1 v2:Value) (H:Hp) (n:Nat):Res:=B117_0 cal k v0 v1 v2 H n
theorem h117_0 (cal:Cal) (k:Nat) (v0 v1 v2:Value) (H:Hp) (n:Nat):aK P cal A (k+1) 117 [v0,v1,v2] H n=Qv cal k v0 v1 v2 H n:=by
 have h:aK P cal A (k+1) 117 [v0,v1,v2] H n=B117_0 cal k v0 v1 v2 H n:=by
  rw[bQ (fn:=Go.Proofs.Try.f117) (c:=Zv) (rs:=vk) (by kernel_rfl) (by kernel_rfl) (by kernel_rfl) (by kernel_rfl)]
  kernel_rfl
 rw[h,Qv]
noncomputable def ix:Code:=cw 118
noncomputable def ck:List ResultVar:=dk 118
noncomputable def K118_p (cal:Cal) (k:Nat):KR:=(cutK (A 118).c (az P cal (ax P cal k) none 118 (cR ix) (Lv.b (A 118)) (aw P ck) X0 (aw P ck)))
noncomputable def K118_pr (cal:Cal) (k:Nat):KR:=(cutK (Lv.b (A 118)).c (az P cal (ax P cal k) none 118 (cR (cR ix)) (Lv.b (Lv.b (A 118))) (aw P ck) X0 (aw P ck)))
noncomputable def K118_prl (cal:Cal) (k:Nat):KR:=(cutK (Lv.a (Lv.b (A 118))).c (az P cal (ax P cal k) none 118 (cR (cL (cR ix))) (Lv.b (Lv.a (Lv.b (A 118)))) (K118_pr cal k) X0 (aw P ck)))
noncomputable def K118_prlrl (cal:Cal) (k:Nat):KR:=(cutK (Lv.a (Lv.b (Lv.a (Lv.b (A 118))))).c (az P cal (ax P cal k) none 118 (cR (cL (cR (cL (cR ix))))) (Lv.b (Lv.a (Lv.b (Lv.a (Lv.b (A 118)))))) (K118_pr cal k) X0 (aw P ck)))
noncomputable def K118_prr (cal:Cal) (k:Nat):KR:=(cutK (Lv.b (Lv.b (A 118))).c (az P cal (ax P cal k) none 118 (cR (cR (cR ix))) (Lv.b (Lv.b (Lv.b (A 118)))) (aw P ck) X0 (aw P ck)))
noncomputable def K118_prrl (cal:Cal) (k:Nat):KR:=(cutK (Lv.a (Lv.b (Lv.b (A 118)))).c (az P cal (ax P cal k) none 118 (cR (cL (cR (cR ix)))) (Lv.b (Lv.a (Lv.b (Lv.b (A 118))))) (K118_prr cal k) X0 (aw P ck)))
noncomputable def K118_prrlrl (cal:Cal) (k:Nat):KR:=(cutK (Lv.a (Lv.b (Lv.a (Lv.b (Lv.b (A 118)))))).c (az P cal (ax P cal k) none 118 (cR (cL (cR (cL (cR (cR ix)))))) (Lv.b (Lv.a (Lv.b (Lv.a (Lv.b (Lv.b (A 118))))))) (K118_prr cal k) X0 (aw P ck)))
noncomputable def K118_prrr (cal:Cal) (k:Nat):KR:=(cutK (Lv.b (Lv.b (Lv.b (A 118)))).c (az P cal (ax P cal k) none 118 (cR (cR (cR (cR ix)))) (Lv.b (Lv.b (Lv.b (Lv.b (A 118))))) (aw P ck) X0 (aw P ck)))
noncomputable def K118_prrrl (cal:Cal) (k:Nat):KR:=(cutK (Lv.a (Lv.b (Lv.b (Lv.b (A 118))))).c (az P cal (ax P cal k) none 118 (cR (cL (cR (cR (cR ix))))) (Lv.b (Lv.a (Lv.b (Lv.b (Lv.b (A 118)))))) (K118_prrr cal k) X0 (aw P ck)))
noncomputable def K118_prrrlrl (cal:Cal) (k:Nat):KR:=(cutK (Lv.a (Lv.b (Lv.a (Lv.b (Lv.b (Lv.b (A 118))))))).c (az P cal (ax P cal k) none 118 (cR (cL (cR (cL (cR (cR (cR ix))))))) (Lv.b (Lv.a (Lv.b (Lv.a (Lv.b (Lv.b (Lv.b (A 118)))))))) (K118_prrr cal k) X0 (aw P ck)))
noncomputable def Ik (cal:Cal) (k:Nat):KR:=(cutK (Lv.b (Lv.b (Lv.b (Lv.b (A 118))))).c (az P cal (ax P cal k) none 118 (cR (cR (cR (cR (cR ix))))) (Lv.b (Lv.b (Lv.b (Lv.b (Lv.b (A 118)))))) (aw P ck) X0 (aw P ck)))
noncomputable def K118_prrrrl (cal:Cal) (k:Nat):KR:=(cutK (Lv.a (Lv.b (Lv.b (Lv.b (Lv.b (A 118)))))).c (az P cal (ax P cal k) none 118 (cR (cL (cR (cR (cR (cR ix)))))) (Lv.b (Lv.a (Lv.b (Lv.b (Lv.b (Lv.b (A 118))))))) (Ik cal k) X0 (aw P ck)))
noncomputable def mK (cal:Cal) (k:Nat):XR:=(upX 0 (Ik cal k) X0)
noncomputable def uv (cal:Cal) (k:Nat) (m1:Nat):KR:=(fun T H n D=>ax P cal m1 (Lv.a (Lv.b (Lv.a (Lv.b (Lv.b (Lv.b (Lv.b (A 118)))))))) none 118 (cL (cR (cL (cR (cR (cR (cR ix))))))) (Ik cal k) (mK cal k) (aw P ck) (cutT (Lv.a (Lv.b (Lv.a (Lv.b (Lv.b (Lv.b (Lv.b (A 118)))))))).c T) H n D)
noncomputable def K118_prrrrlrll (cal:Cal) (k:Nat) (m1:Nat):KR:=(cutK (Lv.a (Lv.a (Lv.b (Lv.a (Lv.b (Lv.b (Lv.b (Lv.b (A 118))))))))).c (az P cal (ax P cal m1) none 118 (cR (cL (cL (cR (cL (cR (cR (cR (cR ix))))))))) (Lv.b (Lv.a (Lv.a (Lv.b (Lv.a (Lv.b (Lv.b (Lv.b (Lv.b (A 118)))))))))) (uv cal k m1) (mK cal k) (aw P ck)))
noncomputable def K118_prrrrlrllr (cal:Cal) (k:Nat) (m1:Nat):KR:=(cutK (Lv.b (Lv.a (Lv.a (Lv.b (Lv.a (Lv.b (Lv.b (Lv.b (Lv.b (A 118)))))))))).c (az P cal (ax P cal m1) none 118 (cR (cR (cL (cL (cR (cL (cR (cR (cR (cR ix)))))))))) (Lv.b (Lv.b (Lv.a (Lv.a (Lv.b (Lv.a (Lv.b (Lv.b (Lv.b (Lv.b (A 118))))))))))) (uv cal k m1) (mK cal k) (aw P ck)))
noncomputable def nw (cal:Cal) (k:Nat) (m1:Nat):KR:=(cutK (Lv.b (Lv.b (Lv.a (Lv.a (Lv.b (Lv.a (Lv.b (Lv.b (Lv.b (Lv.b (A 118))))))))))).c (az P cal (ax P cal m1) none 118 (cR (cR (cR (cL (cL (cR (cL (cR (cR (cR (cR ix))))))))))) (Lv.b (Lv.b (Lv.b (Lv.a (Lv.a (Lv.b (Lv.a (Lv.b (Lv.b (Lv.b (Lv.b (A 118)))))))))))) (uv cal k m1) (mK cal k) (aw P ck)))
noncomputable def kZ (cal:Cal) (k:Nat) (m1:Nat):XR:=(upX 1 (nw cal k m1) (mK cal k))
noncomputable def K118_prrrrlrllrrll (cal:Cal) (k:Nat) (m1:Nat):KR:=(cutK (Lv.a (Lv.a (Lv.b (Lv.b (Lv.a (Lv.a (Lv.b (Lv.a (Lv.b (Lv.b (Lv.b (Lv.b (A 118))))))))))))).c (az P cal (ax P cal m1) none 118 (cR (cL (cL (cR (cR (cL (cL (cR (cL (cR (cR (cR (cR ix))))))))))))) (Lv.b (Lv.a (Lv.a (Lv.b (Lv.b (Lv.a (Lv.a (Lv.b (Lv.a (Lv.b (Lv.b (Lv.b (Lv.b (A 118)))))))))))))) (nw cal k m1) (kZ cal k m1) (aw P ck)))
noncomputable def K118_prrrrlrllrrllr (cal:Cal) (k:Nat) (m1:Nat):KR:=(cutK (Lv.b (Lv.a (Lv.a (Lv.b (Lv.b (Lv.a (Lv.a (Lv.b (Lv.a (Lv.b (Lv.b (Lv.b (Lv.b (A 118)))))))))))))).c (az P cal (ax P cal m1) none 118 (cR (cR (cL (cL (cR (cR (cL (cL (cR (cL (cR (cR (cR (cR ix)))))))))))))) (Lv.b (Lv.b (Lv.a (Lv.a (Lv.b (Lv.b (Lv.a (Lv.a (Lv.b (Lv.a (Lv.b (Lv.b (Lv.b (Lv.b (A 118))))))))))))))) (nw cal k m1) (kZ cal k m1) (aw P ck)))
noncomputable def K118_prrrrlrllrrllrl (cal:Cal) (k:Nat) (m1:Nat):KR:=(cutK (Lv.a (Lv.b (Lv.a (Lv.a (Lv.b (Lv.b (Lv.a (Lv.a (Lv.b (Lv.a (Lv.b (Lv.b (Lv.b (Lv.b (A 118))))))))))))))).c (az P cal (ax P cal m1) none 118 (cR (cL (cR (cL (cL (cR (cR (cL (cL (cR (cL (cR (cR (cR (cR ix))))))))))))))) (Lv.b (Lv.a (Lv.b (Lv.a (Lv.a (Lv.b (Lv.b (Lv.a (Lv.a (Lv.b (Lv.a (Lv.b (Lv.b (Lv.b (Lv.b (A 118)))))))))))))))) (K118_prrrrlrllrrllr cal k m1) (kZ cal k m1) (aw P ck)))
noncomputable def K118_prrrrlrllrrllrr (cal:Cal) (k:Nat) (m1:Nat):KR:=(cutK (Lv.b (Lv.b (Lv.a (Lv.a (Lv.b (Lv.b (Lv.a (Lv.a (Lv.b (Lv.a (Lv.b (Lv.b (Lv.b (Lv.b (A 118))))))))))))))).c (az P cal (ax P cal m1) none 118 (cR (cR (cR (cL (cL (cR (cR (cL (cL (cR (cL (cR (cR (cR (cR ix))))))))))))))) (Lv.b (Lv.b (Lv.b (Lv.a (Lv.a (Lv.b (Lv.b (Lv.a (Lv.a (Lv.b (Lv.a (Lv.b (Lv.b (Lv.b (Lv.b (A 118)))))))))))))))) (nw cal k m1) (kZ cal k m1) (aw P ck)))
noncomputable def K118_prrrrlrllrrllrrr (cal:Cal) (k:Nat) (m1:Nat):KR:=(cutK (Lv.b (Lv.b (Lv.b (Lv.a (Lv.a (Lv.b (Lv.b (Lv.a (Lv.a (Lv.b (Lv.a (Lv.b (Lv.b (Lv.b (Lv.b (A 118)))))))))))))))).c (az P cal (ax P cal m1) none 118 (cR (cR (cR (cR (cL (cL (cR (cR (cL (cL (cR (cL (cR (cR (cR (cR ix)))))))))))))))) (Lv.b (Lv.b (Lv.b (Lv.b (Lv.a (Lv.a (Lv.b (Lv.b (Lv.a (Lv.a (Lv.b (Lv.a (Lv.b (Lv.b (Lv.b (Lv.b (A 118))))))))))))))))) (nw cal k m1) (kZ cal k m1) (aw P ck)))
noncomputable def K118_prrrrlrllrrllrrrrl (cal:Cal) (k:Nat) (m1:Nat):KR:=(cutK (Lv.a (Lv.b (Lv.b (Lv.b (Lv.b (Lv.a (Lv.a (Lv.b (Lv.b (Lv.a (Lv.a (Lv.b (Lv.a (Lv.b (Lv.b (Lv.b (Lv.b (A 118)))))))))))))))))).c (az P cal (ax P cal m1) none 118 (cR (cL (cR (cR (cR (cR (cL (cL (cR (cR (cL (cL (cR (cL (cR (cR (cR (cR ix)))))))))))))))))) (Lv.b (Lv.a (Lv.b (Lv.b (Lv.b (Lv.b (Lv.a (Lv.a (Lv.b (Lv.b (Lv.a (Lv.a (Lv.b (Lv.a (Lv.b (Lv.b (Lv.b (Lv.b (A 118))))))))))))))))))) (nw cal k m1) (kZ cal k m1) (aw P ck)))
noncomputable def K118_prrrrr (cal:Cal) (k:Nat):KR:=(cutK (Lv.b (Lv.b (Lv.b (Lv.b (Lv.b (A 118)))))).c (az P cal (ax P cal k) none 118 (cR (cR (cR (cR (cR (cR ix)))))) (Lv.b (Lv.b (Lv.b (Lv.b (Lv.b (Lv.b (A 118))))))) (aw P ck) X0 (aw P ck)))
noncomputable def E118_2 (cal:Cal) (k m1:Nat):KR:=az P cal (ax P cal m1) none 118 (cR (cR (cR (cL (cL (cR (cL (cR (cR (cR (cR ix))))))))))) (Lv.b (Lv.b (Lv.b (Lv.a (Lv.a (Lv.b (Lv.a (Lv.b (Lv.b (Lv.b (Lv.b (A 118)))))))))))) (uv cal k m1) (mK cal k) (aw P ck)
noncomputable def E118_1 (cal:Cal) (k m1:Nat):KR:=az P cal (ax P cal m1) none 118 (cL (cL (cR (cL (cR (cR (cR (cR ix)))))))) (Lv.a (Lv.a (Lv.b (Lv.a (Lv.b (Lv.b (Lv.b (Lv.b (A 118))))))))) (uv cal k m1) (mK cal k) (aw P ck)
noncomputable def Ly (cal:Cal) (k m1:Nat):V8:=fun u2 u3 u4 u6 u7 u8 u48 u49 H n=>ax P cal m1 (Lv.a (Lv.b (Lv.a (Lv.b (Lv.b (Lv.b (Lv.b (A 118)))))))) none 118 (cL (cR (cL (cR (cR (cR (cR ix))))))) (Ik cal k) (mK cal k) (aw P ck) (Tr.set (Tr.set (Tr.set (Tr.set (Tr.set (Tr.set (Tr.set (Tr.set Tr.nil 49 (some u49)) 48 (some u48)) 8 (some u8)) 7 (some u7)) 6 (some u6)) 4 (some u4)) 3 (some u3)) 2 (some u2)) H n []
noncomputable def B118_2 (cal:Cal) (k m1:Nat) (b1:V8) (u2 u3 u4 u6 u7 u8 u48 u49:Value) (H:Hp) (n:Nat):Res:=
binK P .add 3 (.tmp 49) (.const (.int .i64 1)) u49 (.int .i64 1) fun v_2z=>
b1 u2 u3 u4 u6 u7 u8 u48 v_2z H n
noncomputable def VV (cal:Cal) (k m1:Nat) (b1:V8) (u2 u3 u4 u6 u7 u8 u48 u49:Value) (H:Hp) (n:Nat):Res:=B118_2 cal k m1 b1 u2 u3 u4 u6 u7 u8 u48 u49 H n
theorem h118_2 (cal:Cal) (k m1:Nat) (u2 u3 u4 u6 u7 u8 u48 u49:Value) (H:Hp) (n:Nat):labK (E118_2 cal k m1) (Tr.set (Tr.set (Tr.set (Tr.set (Tr.set (Tr.set (Tr.set (Tr.set Tr.nil 49 (some u49)) 48 (some u48)) 8 (some u8)) 7 (some u7)) 6 (some u6)) 4 (some u4)) 3 (some u3)) 2 (some u2)) H n []=VV cal k m1 (Ly cal k m1) u2 u3 u4 u6 u7 u8 u48 u49 H n:=by
 refine Eq.trans (b:=B118_2 cal k m1 (Ly cal k m1) u2 u3 u4 u6 u7 u8 u48 u49 H n) (by kernel_rfl) ?_
 rw[VV]
noncomputable def B118_1 (cal:Cal) (k m1:Nat) (j2:V8) (b1:V8) (u2 u3 u4 u6 u7 u8 u48 u49:Value) (H:Hp) (n:Nat):Res:=
binK P .lss 3 (.tmp 49) (.tmp 48) u49 u48 fun v_2y=>
ifK v_2y (
aq (aX u4) fun a_34=>aq (ak P H 105 a_34) fun v_33=>
aW P cal 102 [v_33,u2,u49] H n fun v_37 H_38 n_39=>
aq (cW P v_37 (Op.unary UnOp.not v_37)) fun v_3a=>
ifK v_3a (
j2 u2 u3 u4 u6 u7 u8 u48 u49 H_38 n_39) (
aq (aY P 121 u7 u2) fun v_3d=>
aq (bx P 3 v_3d u49 H_38) fun H_3f=>
aq (aX u6) fun a_3g=>aq (ak P H_3f 176 a_3g) fun v_3h=>
aq (aX u7) fun a_3i=>aq (ak P H_3f 121 a_3i) fun v_3j=>
aq (aX u8) fun a_3k=>aq (ak P H_3f 111 a_3k) fun v_3l=>
aq (aX u4) fun a_3m=>aq (ak P H_3f 105 a_3m) fun v_3n=>
aq (nilV v_3n) fun v_3q=>
aq (ay P 117 v_3q 2) fun v_3r=>
aq (aY P 115 v_3r u2) fun v_3s=>
aq (aY P 114 v_3s u49) fun v_3t=>
aq (ay P 113 v_3t 2) fun v_3u=>
aq (aX v_3u) fun a_3v=>aq (ak P H_3f 111 a_3v) fun v_3w=>
binK P .add 3 (.tmp 73) (.const (.int .i64 1)) u2 (.int .i64 1) fun v_3y=>
binK P .sub 3 (.tmp 75) (.const (.int .i64 1)) u3 (.int .i64 1) fun v_40=>
effK P [(.l 121 a_3i),(.l 176 a_3g)] H_3f n_39 (fun H_41 n_42 k_43=>
aW P cal 103 [v_3l,v_3w] H_41 n_42 fun v_47 H_48 n_49=>
k_43 v_47 H_48 n_49) fun v_44 H_45 n_46=>
ew P cal v_3h [v_3j,v_44,v_3y,v_40] H_45 n_46 fun v_4a H_4b n_4c=>
aq (cW P v_4a (Op.unary UnOp.not v_4a)) fun v_4d=>
ifK v_4d (
some ((.bool false),H_4b,n_4c)) (
j2 u2 u3 u4 u6 u7 u8 u48 u49 H_4b n_4c))) (
some ((.bool true),H,n))
noncomputable def VW (cal:Cal) (k m1:Nat) (b1:V8) (u2 u3 u4 u6 u7 u8 u48 u49:Value) (H:Hp) (n:Nat):Res:=B118_1 cal k m1 (VV cal k m1 b1) b1 u2 u3 u4 u6 u7 u8 u48 u49 H n
noncomputable def Qw (cal:Cal) (k:Nat):Nat→V8:=fun m=>Nat.rec (motive:=fun _=>V8) (VW cal k 0 (fun _ _ _ _ _ _ _ _ _ _=>none)) (fun m ih=>VW cal k (m+1) ih) m
theorem h118_1 (cal:Cal) (k m1:Nat) (u2 u3 u4 u6 u7 u8 u48 u49:Value) (H:Hp) (n:Nat):labK (E118_1 cal k m1) (Tr.set (Tr.set (Tr.set (Tr.set (Tr.set (Tr.set (Tr.set (Tr.set Tr.nil 49 (some u49)) 48 (some u48)) 8 (some u8)) 7 (some u7)) 6 (some u6)) 4 (some u4)) 3 (some u3)) 2 (some u2)) H n []=VW cal k m1 (Ly cal k m1) u2 u3 u4 u6 u7 u8 u48 u49 H n:=by
 refine Eq.trans (b:=B118_1 cal k m1 (fun u2 u3 u4 u6 u7 u8 u48 u49 H n=>labK (E118_2 cal k m1) (Tr.set (Tr.set (Tr.set (Tr.set (Tr.set (Tr.set (Tr.set (Tr.set Tr.nil 49 (some u49)) 48 (some u48)) 8 (some u8)) 7 (some u7)) 6 (some u6)) 4 (some u4)) 3 (some u3)) 2 (some u2)) H n []) (Ly cal k m1) u2 u3 u4 u6 u7 u8 u48 u49 H n) (by kernel_rfl) ?_
 rw[VW]
 have e2:(fun u2 u3 u4 u6 u7 u8 u48 u49 H n=>labK (E118_2 cal k m1) (Tr.set (Tr.set (Tr.set (Tr.set (Tr.set (Tr.set (Tr.set (Tr.set Tr.nil 49 (some u49)) 48 (some u48)) 8 (some u8)) 7 (some u7)) 6 (some u6)) 4 (some u4)) 3 (some u3)) 2 (some u2)) H n [])=(VV cal k m1 (Ly cal k m1)):=by funext u2 u3 u4 u6 u7 u8 u48 u49 H n; exact h118_2 ..
 rw[e2]
theorem q118_1 (cal:Cal) (k:Nat):∀(m:Nat) (u2 u3 u4 u6 u7 u8 u48 u49:Value) (H:Hp) (n:Nat),labK (E118_1 cal k m) (Tr.set (Tr.set (Tr.set (Tr.set (Tr.set (Tr.set (Tr.set (Tr.set Tr.nil 49 (some u49)) 48 (some u48)) 8 (some u8)) 7 (some u7)) 6 (some u6)) 4 (some u4)) 3 (some u3)) 2 (some u2)) H n []=Qw cal k m u2 u3 u4 u6 u7 u8 u48 u49 H n
 | 0,u2,u3,u4,u6,u7,u8,u48,u49,H,n=>by
  rw[h118_1]
  have e:Ly cal k 0=fun _ _ _ _ _ _ _ _ _ _=>none:=by funext u2 u3 u4 u6 u7 u8 u48 u49 H n; kernel_rfl
  rw[e]; rfl
 | m+1,u2,u3,u4,u6,u7,u8,u48,u49,H,n=>by
  rw[h118_1]
  have e:Ly cal k (m+1)=Qw cal k m:=by
   funext u2 u3 u4 u6 u7 u8 u48 u49 H n
   have e:Ly cal k (m+1) u2 u3 u4 u6 u7 u8 u48 u49 H n=labK (E118_1 cal k m) (Tr.set (Tr.set (Tr.set (Tr.set (Tr.set (Tr.set (Tr.set (Tr.set Tr.nil 49 (some u49)) 48 (some u48)) 8 (some u8)) 7 (some u7)) 6 (some u6)) 4 (some u4)) 3 (some u3)) 2 (some u2)) H n []:=by kernel_rfl
   rw[e]; exact q118_1 ..
  rw[e]; rfl
noncomputable def B118_0 (cal:Cal) (k:Nat) (j1:V8) (v0 v1 v2 v3 v4 v5 v6:Value) (H:Hp) (n:Nat):Res:=
boxK 121 v0 H n fun v_1 H_2 n_3=>
boxK 111 v1 H_2 n_3 fun v_4 H_5 n_6=>
aq (aX v4) fun a_9=>aq (ak P H_5 105 a_9) fun v_8=>
aq (aX v_4) fun a_b=>aq (ak P H_5 111 a_b) fun v_a=>
aW P cal 111 [v_8,v_a] H_5 n_6 fun v_c H_d n_e=>
aq (cW P v_c (Op.unary UnOp.not v_c)) fun v_f=>
aV v_f false (fun k_h=>
k_h v3 H_d n_e) H_d n_e fun v_i H_j n_k=>
aV v_f false (fun k_m=>
aq (aX v4) fun a_r=>aq (ak P H_j 105 a_r) fun v_q=>
k_m v_q H_j n_k) H_j n_k fun v_n H_o n_p=>
aV v_f false (fun k_s=>
aq (nilV v_n) fun v_w=>
k_s v_w H_o n_p) H_o n_p fun v_t H_u n_v=>
aV v_f false (fun k_x=>
aq (ay P 117 v_t 0) fun v_11=>
k_x v_11 H_u n_v) H_u n_v fun v_y H_z n_10=>
aV v_f false (fun k_12=>
aq (ay P 35 v_y 0) fun v_16=>
k_12 v_16 H_z n_10) H_z n_10 fun v_13 H_14 n_15=>
aV v_f false (fun k_17=>
aq (aX v_13) fun a_1c=>aq (ak P H_14 31 a_1c) fun v_1b=>
k_17 v_1b H_14 n_15) H_14 n_15 fun v_18 H_19 n_1a=>
aV v_f false (fun k_1d=>
aq (lenV P 31 v_18) fun v_1h=>
k_1d v_1h H_19 n_1a) H_19 n_1a fun v_1e H_1f n_1g=>
aV v_f false (fun k_1i=>
k_1i v2 H_1f n_1g) H_1f n_1g fun v_1j H_1k n_1l=>
aV v_f false (fun k_1n=>
binK P .sub 3 (.tmp 24) (.tmp 25) v_1e v_1j fun v_1r=>
k_1n v_1r H_1k n_1l) H_1k n_1l fun v_1o H_1p n_1q=>
aV v_f false (fun k_1s=>
binK P .gtr 3 (.tmp 18) (.tmp 26) v_i v_1o fun v_1w=>
k_1s v_1w H_1p n_1q) H_1p n_1q fun v_1t H_1u n_1v=>
aq (dv v_f (.bool true) v_1t) fun v_1x=>
ifK v_1x (
some ((.bool true),H_1u,n_1v)) (
binK P .eql 3 (.tmp 29) (.const (.int .i64 0)) v3 (.int .i64 0) fun v_20=>
ifK v_20 (
aq (aX v5) fun a_22=>aq (ak P H_1u 175 a_22) fun v_21=>
aq (aX v_1) fun a_24=>aq (ak P H_1u 121 a_24) fun v_23=>
aq (aX v_4) fun a_26=>aq (ak P H_1u 111 a_26) fun v_25=>
ew P cal v_21 [v_23,v_25] H_1u n_1v fun v_27 H_28 n_29=>
some (v_27,H_28,n_29)) (
aq (aX v6) fun a_2c=>aq (ak P H_1u 176 a_2c) fun v_2b=>
aq (aX v_1) fun a_2e=>aq (ak P H_1u 121 a_2e) fun v_2d=>
aq (aX v_4) fun a_2g=>aq (ak P H_1u 111 a_2g) fun v_2f=>
binK P .add 3 (.tmp 38) (.const (.int .i64 1)) v2 (.int .i64 1) fun v_2i=>
ew P cal v_2b [v_2d,v_2f,v_2i,v3] H_1u n_1v fun v_2k H_2l n_2m=>
aq (cW P v_2k (Op.unary UnOp.not v_2k)) fun v_2n=>
ifK v_2n (
some ((.bool false),H_2l,n_2m)) (
aq (aX v4) fun a_2q=>aq (ak P H_2l 105 a_2q) fun v_2p=>
aq (nilV v_2p) fun v_2r=>
aq (ay P 117 v_2r 0) fun v_2s=>
aq (ay P 35 v_2s 2) fun v_2t=>
aq (aX v_2t) fun a_2v=>aq (ak P H_2l 33 a_2v) fun v_2u=>
aq (lenV P 33 v_2u) fun v_2w=>
j1 v2 v3 v4 v6 v_1 v_4 v_2w (.int .i64 0) H_2l n_2m)))
noncomputable def IJ (cal:Cal) (k:Nat) (v0 v1 v2 v3 v4 v5 v6:Value) (H:Hp) (n:Nat):Res:=B118_0 cal k (Qw cal k k) v0 v1 v2 v3 v4 v5 v6 H n
theorem h118_0 (cal:Cal) (k:Nat) (v0 v1 v2 v3 v4 v5 v6:Value) (H:Hp) (n:Nat):aK P cal A (k+1) 118 [v0,v1,v2,v3,v4,v5,v6] H n=IJ cal k v0 v1 v2 v3 v4 v5 v6 H n:=by
 have h:aK P cal A (k+1) 118 [v0,v1,v2,v3,v4,v5,v6] H n=B118_0 cal k (fun u2 u3 u4 u6 u7 u8 u48 u49 H n=>labK (E118_1 cal k k) (Tr.set (Tr.set (Tr.set (Tr.set (Tr.set (Tr.set (Tr.set (Tr.set Tr.nil 49 (some u49)) 48 (some u48)) 8 (some u8)) 7 (some u7)) 6 (some u6)) 4 (some u4)) 3 (some u3)) 2 (some u2)) H n []) v0 v1 v2 v3 v4 v5 v6 H n:=by
  rw[bQ (fn:=Go.Proofs.Try.f118) (c:=ix) (rs:=ck) (by kernel_rfl) (by kernel_rfl) (by kernel_rfl) (by kernel_rfl)]
  kernel_rfl
 rw[h,IJ]
 have e1:(fun u2 u3 u4 u6 u7 u8 u48 u49 H n=>labK (E118_1 cal k k) (Tr.set (Tr.set (Tr.set (Tr.set (Tr.set (Tr.set (Tr.set (Tr.set Tr.nil 49 (some u49)) 48 (some u48)) 8 (some u8)) 7 (some u7)) 6 (some u6)) 4 (some u4)) 3 (some u3)) 2 (some u2)) H n [])=(Qw cal k k):=by funext u2 u3 u4 u6 u7 u8 u48 u49 H n; exact q118_1 ..
 rw[e1]
end Go.Proofs.Ytekajfobmnedjaa.G
