/- The texts of functions, each with the proof that the evaluator says the same. -/
import Derived.Test.YtekajfobmnedjaaH1
open Go Go.Ev
set_option maxRecDepth 1000000
set_option linter.unusedVariables false
noncomputable section
namespace Go.Proofs.Ytekajfobmnedjaa.G
noncomputable def rW:Code:=cw 59
noncomputable def fY:List ResultVar:=dk 59
noncomputable def K59_p (cal:Cal) (k:Nat):KR:=(cutK (A 59).c (az P cal (ax P cal k) none 59 (cR rW) (Lv.b (A 59)) (aw P fY) X0 (aw P fY)))
noncomputable def K59_pr (cal:Cal) (k:Nat):KR:=(cutK (Lv.b (A 59)).c (az P cal (ax P cal k) none 59 (cR (cR rW)) (Lv.b (Lv.b (A 59))) (aw P fY) X0 (aw P fY)))
noncomputable def K59_prl (cal:Cal) (k:Nat):KR:=(cutK (Lv.a (Lv.b (A 59))).c (az P cal (ax P cal k) none 59 (cR (cL (cR rW))) (Lv.b (Lv.a (Lv.b (A 59)))) (K59_pr cal k) X0 (aw P fY)))
noncomputable def K59_prlr (cal:Cal) (k:Nat):KR:=(cutK (Lv.b (Lv.a (Lv.b (A 59)))).c (az P cal (ax P cal k) none 59 (cR (cR (cL (cR rW)))) (Lv.b (Lv.b (Lv.a (Lv.b (A 59))))) (K59_pr cal k) X0 (aw P fY)))
noncomputable def K59_prlrrl (cal:Cal) (k:Nat):KR:=(cutK (Lv.a (Lv.b (Lv.b (Lv.a (Lv.b (A 59)))))).c (az P cal (ax P cal k) none 59 (cR (cL (cR (cR (cL (cR rW)))))) (Lv.b (Lv.a (Lv.b (Lv.b (Lv.a (Lv.b (A 59))))))) (K59_pr cal k) X0 (aw P fY)))
noncomputable def YV (cal:Cal) (k:Nat):KR:=(cutK (Lv.b (Lv.b (A 59))).c (az P cal (ax P cal k) none 59 (cR (cR (cR rW))) (Lv.b (Lv.b (Lv.b (A 59)))) (aw P fY) X0 (aw P fY)))
noncomputable def K59_prrl (cal:Cal) (k:Nat):KR:=(cutK (Lv.a (Lv.b (Lv.b (A 59)))).c (az P cal (ax P cal k) none 59 (cR (cL (cR (cR rW)))) (Lv.b (Lv.a (Lv.b (Lv.b (A 59))))) (YV cal k) X0 (aw P fY)))
noncomputable def vj (cal:Cal) (k:Nat):XR:=(upX 0 (YV cal k) X0)
noncomputable def PZ (cal:Cal) (k:Nat) (m1:Nat):KR:=(fun T H n D=>ax P cal m1 (Lv.a (Lv.b (Lv.a (Lv.b (Lv.b (A 59)))))) none 59 (cL (cR (cL (cR (cR rW))))) (YV cal k) (vj cal k) (aw P fY) (cutT (Lv.a (Lv.b (Lv.a (Lv.b (Lv.b (A 59)))))).c T) H n D)
noncomputable def K59_prrlrll (cal:Cal) (k:Nat) (m1:Nat):KR:=(cutK (Lv.a (Lv.a (Lv.b (Lv.a (Lv.b (Lv.b (A 59))))))).c (az P cal (ax P cal m1) none 59 (cR (cL (cL (cR (cL (cR (cR rW))))))) (Lv.b (Lv.a (Lv.a (Lv.b (Lv.a (Lv.b (Lv.b (A 59)))))))) (PZ cal k m1) (vj cal k) (aw P fY)))
noncomputable def K59_prrlrlll (cal:Cal) (k:Nat) (m1:Nat):KR:=(cutK (Lv.a (Lv.a (Lv.a (Lv.b (Lv.a (Lv.b (Lv.b (A 59)))))))).c (az P cal (ax P cal m1) none 59 (cR (cL (cL (cL (cR (cL (cR (cR rW)))))))) (Lv.b (Lv.a (Lv.a (Lv.a (Lv.b (Lv.a (Lv.b (Lv.b (A 59))))))))) (K59_prrlrll cal k m1) (vj cal k) (aw P fY)))
noncomputable def HX (cal:Cal) (k:Nat) (m1:Nat):KR:=(cutK (Lv.b (Lv.a (Lv.a (Lv.b (Lv.a (Lv.b (Lv.b (A 59)))))))).c (az P cal (ax P cal m1) none 59 (cR (cR (cL (cL (cR (cL (cR (cR rW)))))))) (Lv.b (Lv.b (Lv.a (Lv.a (Lv.b (Lv.a (Lv.b (Lv.b (A 59))))))))) (PZ cal k m1) (vj cal k) (aw P fY)))
noncomputable def K59_pxrrlrllrl (cal:Cal) (k:Nat) (m1:Nat):XR:=(upX 1 (HX cal k m1) (vj cal k))
noncomputable def K59_prrlrllrll (cal:Cal) (k:Nat) (m1:Nat):KR:=(cutK (Lv.a (Lv.a (Lv.b (Lv.a (Lv.a (Lv.b (Lv.a (Lv.b (Lv.b (A 59)))))))))).c (az P cal (ax P cal m1) none 59 (cR (cL (cL (cR (cL (cL (cR (cL (cR (cR rW)))))))))) (Lv.b (Lv.a (Lv.a (Lv.b (Lv.a (Lv.a (Lv.b (Lv.a (Lv.b (Lv.b (A 59))))))))))) (HX cal k m1) (K59_pxrrlrllrl cal k m1) (aw P fY)))
noncomputable def K59_prrlrllrllrl (cal:Cal) (k:Nat) (m1:Nat):KR:=(cutK (Lv.a (Lv.b (Lv.a (Lv.a (Lv.b (Lv.a (Lv.a (Lv.b (Lv.a (Lv.b (Lv.b (A 59)))))))))))).c (az P cal (ax P cal m1) none 59 (cR (cL (cR (cL (cL (cR (cL (cL (cR (cL (cR (cR rW)))))))))))) (Lv.b (Lv.a (Lv.b (Lv.a (Lv.a (Lv.b (Lv.a (Lv.a (Lv.b (Lv.a (Lv.b (Lv.b (A 59))))))))))))) (HX cal k m1) (K59_pxrrlrllrl cal k m1) (aw P fY)))
noncomputable def K59_prrr (cal:Cal) (k:Nat):KR:=(cutK (Lv.b (Lv.b (Lv.b (A 59)))).c (az P cal (ax P cal k) none 59 (cR (cR (cR (cR rW)))) (Lv.b (Lv.b (Lv.b (Lv.b (A 59))))) (aw P fY) X0 (aw P fY)))
noncomputable def E59_1 (cal:Cal) (k m1:Nat):KR:=az P cal (ax P cal m1) none 59 (cL (cL (cR (cL (cR (cR rW)))))) (Lv.a (Lv.a (Lv.b (Lv.a (Lv.b (Lv.b (A 59))))))) (PZ cal k m1) (vj cal k) (aw P fY)
noncomputable def R59_1 (cal:Cal) (k m1:Nat):V3:=fun u0 u1 u7 H n=>ax P cal m1 (Lv.a (Lv.b (Lv.a (Lv.b (Lv.b (A 59)))))) none 59 (cL (cR (cL (cR (cR rW))))) (YV cal k) (vj cal k) (aw P fY) (Tr.set (Tr.set (Tr.set Tr.nil 7 (some u7)) 1 (some u1)) 0 (some u0)) H n []
noncomputable def B59_1 (cal:Cal) (k m1:Nat) (b1:V3) (u0 u1 u7:Value) (H:Hp) (n:Nat):Res:=
aq (lenV P 44 u0) fun v_m=>
binK P .lss 3 (.tmp 18) (.tmp 20) u7 v_m fun v_n=>
ifK v_n (
aq (aY P 44 u0 u7) fun v_q=>
aq (aX v_q) fun a_r=>aq (ak P H 3 a_r) fun v_s=>
aq (aY P 44 u1 u7) fun v_v=>
aq (aX v_v) fun a_w=>aq (ak P H 3 a_w) fun v_x=>
binK P .neq 3 (.tmp 27) (.tmp 31) v_s v_x fun v_y=>
ifK v_y (
aq (aY P 44 u0 u7) fun v_11=>
aq (aX v_11) fun a_12=>aq (ak P H 3 a_12) fun v_13=>
aq (aY P 44 u1 u7) fun v_16=>
aq (aX v_16) fun a_17=>aq (ak P H 3 a_17) fun v_18=>
binK P .lss 3 (.tmp 36) (.tmp 40) v_13 v_18 fun v_19=>
some (v_19,H,n)) (
binK P .add 3 (.tmp 22) (.const (.int .i64 1)) u7 (.int .i64 1) fun v_1c=>
b1 u0 u1 v_1c H n)) (
some ((.bool false),H,n))
noncomputable def C59_1 (cal:Cal) (k m1:Nat) (b1:V3) (u0 u1 u7:Value) (H:Hp) (n:Nat):Res:=B59_1 cal k m1 b1 u0 u1 u7 H n
noncomputable def S59_1 (cal:Cal) (k:Nat):Nat→V3:=fun m=>Nat.rec (motive:=fun _=>V3) (C59_1 cal k 0 (fun _ _ _ _ _=>none)) (fun m ih=>C59_1 cal k (m+1) ih) m
theorem h59_1 (cal:Cal) (k m1:Nat) (u0 u1 u7:Value) (H:Hp) (n:Nat):labK (E59_1 cal k m1) (Tr.set (Tr.set (Tr.set Tr.nil 7 (some u7)) 1 (some u1)) 0 (some u0)) H n []=C59_1 cal k m1 (R59_1 cal k m1) u0 u1 u7 H n:=by
 refine Eq.trans (b:=B59_1 cal k m1 (R59_1 cal k m1) u0 u1 u7 H n) (by kernel_rfl) ?_
 rw[C59_1]
theorem q59_1 (cal:Cal) (k:Nat):∀(m:Nat) (u0 u1 u7:Value) (H:Hp) (n:Nat),labK (E59_1 cal k m) (Tr.set (Tr.set (Tr.set Tr.nil 7 (some u7)) 1 (some u1)) 0 (some u0)) H n []=S59_1 cal k m u0 u1 u7 H n
 | 0,u0,u1,u7,H,n=>by
  rw[h59_1]
  have e:R59_1 cal k 0=fun _ _ _ _ _=>none:=by funext u0 u1 u7 H n; kernel_rfl
  rw[e]; rfl
 | m+1,u0,u1,u7,H,n=>by
  rw[h59_1]
  have e:R59_1 cal k (m+1)=S59_1 cal k m:=by
   funext u0 u1 u7 H n
   have e:R59_1 cal k (m+1) u0 u1 u7 H n=labK (E59_1 cal k m) (Tr.set (Tr.set (Tr.set Tr.nil 7 (some u7)) 1 (some u1)) 0 (some u0)) H n []:=by kernel_rfl
   rw[e]; exact q59_1 ..
  rw[e]; rfl
noncomputable def B59_0 (cal:Cal) (k:Nat) (j1:V3) (v0 v1:Value) (H:Hp) (n:Nat):Res:=
aW P cal 45 [v0] H n fun v_3 H_4 n_5=>
aW P cal 45 [v1] H_4 n_5 fun v_7 H_8 n_9=>
binK P .neq 3 (.tmp 12) (.tmp 13) v_3 v_7 fun v_e=>
ifK v_e (
binK P .lss 3 (.tmp 15) (.tmp 16) v_3 v_7 fun v_h=>
some (v_h,H_8,n_9)) (
j1 v0 v1 (.int .i64 0) H_8 n_9)
noncomputable def C59_0 (cal:Cal) (k:Nat) (v0 v1:Value) (H:Hp) (n:Nat):Res:=B59_0 cal k (S59_1 cal k k) v0 v1 H n
theorem h59_0 (cal:Cal) (k:Nat) (v0 v1:Value) (H:Hp) (n:Nat):aK P cal A (k+1) 59 [v0,v1] H n=C59_0 cal k v0 v1 H n:=by
 have h:aK P cal A (k+1) 59 [v0,v1] H n=B59_0 cal k (fun u0 u1 u7 H n=>labK (E59_1 cal k k) (Tr.set (Tr.set (Tr.set Tr.nil 7 (some u7)) 1 (some u1)) 0 (some u0)) H n []) v0 v1 H n:=by
  rw[bQ (fn:=Go.Proofs.Try.f59) (c:=rW) (rs:=fY) (by kernel_rfl) (by kernel_rfl) (by kernel_rfl) (by kernel_rfl)]
  kernel_rfl
 rw[h,C59_0]
 have e1:(fun u0 u1 u7 H n=>labK (E59_1 cal k k) (Tr.set (Tr.set (Tr.set Tr.nil 7 (some u7)) 1 (some u1)) 0 (some u0)) H n [])=(S59_1 cal k k):=by funext u0 u1 u7 H n; exact q59_1 ..
 rw[e1]
noncomputable def qk:Code:=cw 60
noncomputable def fZ:List ResultVar:=dk 60
noncomputable def K60_p (cal:Cal) (k:Nat):KR:=(cutK (A 60).c (az P cal (ax P cal k) none 60 (cR qk) (Lv.b (A 60)) (aw P fZ) X0 (aw P fZ)))
noncomputable def Ew (cal:Cal) (k:Nat):KR:=(cutK (Lv.b (A 60)).c (az P cal (ax P cal k) none 60 (cR (cR qk)) (Lv.b (Lv.b (A 60))) (aw P fZ) X0 (aw P fZ)))
noncomputable def oJ (cal:Cal) (k:Nat):XR:=(upX 0 (Ew cal k) X0)
noncomputable def K60_prllrl (cal:Cal) (k:Nat):KR:=(cutK (Lv.a (Lv.b (Lv.a (Lv.a (Lv.b (A 60)))))).c (az P cal (ax P cal k) none 60 (cR (cL (cR (cL (cL (cR qk)))))) (Lv.b (Lv.a (Lv.b (Lv.a (Lv.a (Lv.b (A 60))))))) (Ew cal k) (oJ cal k) (aw P fZ)))
noncomputable def K60_prllrrrl (cal:Cal) (k:Nat):KR:=(cutK (Lv.a (Lv.b (Lv.b (Lv.b (Lv.a (Lv.a (Lv.b (A 60)))))))).c (az P cal (ax P cal k) none 60 (cR (cL (cR (cR (cR (cL (cL (cR qk)))))))) (Lv.b (Lv.a (Lv.b (Lv.b (Lv.b (Lv.a (Lv.a (Lv.b (A 60))))))))) (Ew cal k) (oJ cal k) (aw P fZ)))
noncomputable def K60_prllrrrrrl (cal:Cal) (k:Nat):KR:=(cutK (Lv.a (Lv.b (Lv.b (Lv.b (Lv.b (Lv.b (Lv.a (Lv.a (Lv.b (A 60)))))))))).c (az P cal (ax P cal k) none 60 (cR (cL (cR (cR (cR (cR (cR (cL (cL (cR qk)))))))))) (Lv.b (Lv.a (Lv.b (Lv.b (Lv.b (Lv.b (Lv.b (Lv.a (Lv.a (Lv.b (A 60))))))))))) (Ew cal k) (oJ cal k) (aw P fZ)))
noncomputable def K60_prr (cal:Cal) (k:Nat):KR:=(cutK (Lv.b (Lv.b (A 60))).c (az P cal (ax P cal k) none 60 (cR (cR (cR qk))) (Lv.b (Lv.b (Lv.b (A 60)))) (aw P fZ) X0 (aw P fZ)))
noncomputable def K60_prllrrrr (cal:Cal) (k:Nat):KR:=(cutK (Lv.b (Lv.b (Lv.b (Lv.b (Lv.a (Lv.a (Lv.b (A 60)))))))).c (az P cal (ax P cal k) none 60 (cR (cR (cR (cR (cR (cL (cL (cR qk)))))))) (Lv.b (Lv.b (Lv.b (Lv.b (Lv.b (Lv.a (Lv.a (Lv.b (A 60))))))))) (Ew cal k) (oJ cal k) (aw P fZ)))
noncomputable def K60_prllrrrrl (cal:Cal) (k:Nat):KR:=(cutK (Lv.a (Lv.b (Lv.b (Lv.b (Lv.b (Lv.a (Lv.a (Lv.b (A 60))))))))).c (az P cal (ax P cal k) none 60 (cR (cL (cR (cR (cR (cR (cL (cL (cR qk))))))))) (Lv.b (Lv.a (Lv.b (Lv.b (Lv.b (Lv.b (Lv.a (Lv.a (Lv.b (A 60)))))))))) (K60_prllrrrr cal k) (oJ cal k) (aw P fZ)))
noncomputable def K60_prllrrrrlrr (cal:Cal) (k:Nat):KR:=(cutK (Lv.b (Lv.b (Lv.a (Lv.b (Lv.b (Lv.b (Lv.b (Lv.a (Lv.a (Lv.b (A 60))))))))))).c (az P cal (ax P cal k) none 60 (cR (cR (cR (cL (cR (cR (cR (cR (cL (cL (cR qk))))))))))) (Lv.b (Lv.b (Lv.b (Lv.a (Lv.b (Lv.b (Lv.b (Lv.b (Lv.a (Lv.a (Lv.b (A 60)))))))))))) (K60_prllrrrr cal k) (oJ cal k) (aw P fZ)))
noncomputable def K60_prllrr (cal:Cal) (k:Nat):KR:=(cutK (Lv.b (Lv.b (Lv.a (Lv.a (Lv.b (A 60)))))).c (az P cal (ax P cal k) none 60 (cR (cR (cR (cL (cL (cR qk)))))) (Lv.b (Lv.b (Lv.b (Lv.a (Lv.a (Lv.b (A 60))))))) (Ew cal k) (oJ cal k) (aw P fZ)))
noncomputable def K60_prllrrl (cal:Cal) (k:Nat):KR:=(cutK (Lv.a (Lv.b (Lv.b (Lv.a (Lv.a (Lv.b (A 60))))))).c (az P cal (ax P cal k) none 60 (cR (cL (cR (cR (cL (cL (cR qk))))))) (Lv.b (Lv.a (Lv.b (Lv.b (Lv.a (Lv.a (Lv.b (A 60)))))))) (K60_prllrr cal k) (oJ cal k) (aw P fZ)))
noncomputable def K60_prll (cal:Cal) (k:Nat):KR:=(cutK (Lv.a (Lv.a (Lv.b (A 60)))).c (az P cal (ax P cal k) none 60 (cR (cL (cL (cR qk)))) (Lv.b (Lv.a (Lv.a (Lv.b (A 60))))) (Ew cal k) (oJ cal k) (aw P fZ)))
noncomputable def K60_prlll (cal:Cal) (k:Nat):KR:=(cutK (Lv.a (Lv.a (Lv.a (Lv.b (A 60))))).c (az P cal (ax P cal k) none 60 (cR (cL (cL (cL (cR qk))))) (Lv.b (Lv.a (Lv.a (Lv.a (Lv.b (A 60)))))) (K60_prll cal k) (oJ cal k) (aw P fZ)))
noncomputable def K60_prlllrr (cal:Cal) (k:Nat):KR:=(cutK (Lv.b (Lv.b (Lv.a (Lv.a (Lv.a (Lv.b (A 60))))))).c (az P cal (ax P cal k) none 60 (cR (cR (cR (cL (cL (cL (cR qk))))))) (Lv.b (Lv.b (Lv.b (Lv.a (Lv.a (Lv.a (Lv.b (A 60)))))))) (K60_prll cal k) (oJ cal k) (aw P fZ)))
noncomputable def E60_3 (cal:Cal) (k:Nat):KR:=az P cal (ax P cal k) none 60 (cR (cR (cR (cR (cR (cL (cL (cR qk)))))))) (Lv.b (Lv.b (Lv.b (Lv.b (Lv.b (Lv.a (Lv.a (Lv.b (A 60))))))))) (Ew cal k) (oJ cal k) (aw P fZ)
noncomputable def E60_2 (cal:Cal) (k:Nat):KR:=az P cal (ax P cal k) none 60 (cR (cR (cR (cL (cL (cR qk)))))) (Lv.b (Lv.b (Lv.b (Lv.a (Lv.a (Lv.b (A 60))))))) (Ew cal k) (oJ cal k) (aw P fZ)
noncomputable def E60_1 (cal:Cal) (k:Nat):KR:=az P cal (ax P cal k) none 60 (cR (cL (cL (cR qk)))) (Lv.b (Lv.a (Lv.a (Lv.b (A 60))))) (Ew cal k) (oJ cal k) (aw P fZ)
noncomputable def B60_3 (cal:Cal) (k:Nat) (u25:Value) (H:Hp) (n:Nat):Res:=
ifK u25 (
some ((.int .i64 1),H,n)) (
some ((.int .i64 0),H,n))
noncomputable def C60_3 (cal:Cal) (k:Nat) (u25:Value) (H:Hp) (n:Nat):Res:=B60_3 cal k u25 H n
theorem h60_3 (cal:Cal) (k:Nat) (u25:Value) (H:Hp) (n:Nat):labK (E60_3 cal k) (Tr.set Tr.nil 25 (some u25)) H n []=C60_3 cal k u25 H n:=by
 refine Eq.trans (b:=B60_3 cal k u25 H n) (by kernel_rfl) ?_
 rw[C60_3]
noncomputable def B60_2 (cal:Cal) (k:Nat) (j3:V1) (u1 u16:Value) (H:Hp) (n:Nat):Res:=
ifK u16 (
some ((.int .i64 1),H,n)) (
aq (ay P 35 u1 0) fun v_9=>
aq (aX v_9) fun a_b=>aq (ak P H 31 a_b) fun v_a=>
aW P cal 91 [v_a,(Value.func (.func 92) #[] #[])] H n fun v_c H_d n_e=>
aq (cW P v_c (Op.unary UnOp.not v_c)) fun v_f=>
ifK v_f (
j3 v_f H_d n_e) (
aq (ay P 35 u1 1) fun v_h=>
aq (aX v_h) fun a_j=>aq (ak P H_d 32 a_j) fun v_i=>
aq (aX u1) fun a_l=>aq (ak P H_d 35 a_l) fun v_k=>
aW P cal 93 [v_i,(Value.func (Fn.func 94) ⟨[v_k]⟩ ⟨[]⟩)] H_d n_e fun v_n H_o n_p=>
aq (cW P v_n (Op.unary UnOp.not v_n)) fun v_q=>
ifK v_q (
j3 v_q H_o n_p) (
aq (ay P 35 u1 2) fun v_s=>
aq (aX v_s) fun a_u=>aq (ak P H_o 33 a_u) fun v_t=>
aW P cal 95 [v_t,(Value.func (.func 96) #[] #[])] H_o n_p fun v_v H_w n_x=>
aq (cW P v_v (Op.unary UnOp.not v_v)) fun v_y=>
j3 v_y H_w n_x)))
noncomputable def C60_2 (cal:Cal) (k:Nat) (u1 u16:Value) (H:Hp) (n:Nat):Res:=B60_2 cal k (C60_3 cal k) u1 u16 H n
theorem h60_2 (cal:Cal) (k:Nat) (u1 u16:Value) (H:Hp) (n:Nat):labK (E60_2 cal k) (Tr.set (Tr.set Tr.nil 16 (some u16)) 1 (some u1)) H n []=C60_2 cal k u1 u16 H n:=by
 refine Eq.trans (b:=B60_2 cal k (fun u25 H n=>labK (E60_3 cal k) (Tr.set Tr.nil 25 (some u25)) H n []) u1 u16 H n) (by kernel_rfl) ?_
 rw[C60_2]
 have e3:(fun u25 H n=>labK (E60_3 cal k) (Tr.set Tr.nil 25 (some u25)) H n [])=(C60_3 cal k):=by funext u25 H n; exact h60_3 ..
 rw[e3]
noncomputable def B60_1 (cal:Cal) (k:Nat) (j2:V2) (u1 u3:Value) (H:Hp) (n:Nat):Res:=
ifK u3 (
some ((.int .i64 3),H,n)) (
aq (ay P 35 u1 0) fun v_10=>
aq (aX v_10) fun a_12=>aq (ak P H 31 a_12) fun v_11=>
aq (lenV P 31 v_11) fun v_13=>
binK P .eql 3 (.tmp 19) (.const (.int .i64 0)) v_13 (.int .i64 0) fun v_14=>
ifK v_14 (
j2 u1 v_14 H n) (
aq (ay P 35 u1 2) fun v_16=>
aq (aX v_16) fun a_18=>aq (ak P H 33 a_18) fun v_17=>
aq (lenV P 33 v_17) fun v_19=>
binK P .eql 3 (.tmp 23) (.const (.int .i64 0)) v_19 (.int .i64 0) fun v_1a=>
j2 u1 v_1a H n))
noncomputable def WZ (cal:Cal) (k:Nat) (u1 u3:Value) (H:Hp) (n:Nat):Res:=B60_1 cal k (C60_2 cal k) u1 u3 H n
theorem h60_1 (cal:Cal) (k:Nat) (u1 u3:Value) (H:Hp) (n:Nat):labK (E60_1 cal k) (Tr.set (Tr.set Tr.nil 3 (some u3)) 1 (some u1)) H n []=WZ cal k u1 u3 H n:=by
 refine Eq.trans (b:=B60_1 cal k (fun u1 u16 H n=>labK (E60_2 cal k) (Tr.set (Tr.set Tr.nil 16 (some u16)) 1 (some u1)) H n []) u1 u3 H n) (by kernel_rfl) ?_
 rw[WZ]
 have e2:(fun u1 u16 H n=>labK (E60_2 cal k) (Tr.set (Tr.set Tr.nil 16 (some u16)) 1 (some u1)) H n [])=(C60_2 cal k):=by funext u1 u16 H n; exact h60_2 ..
 rw[e2]
noncomputable def B60_0 (cal:Cal) (k:Nat) (j1:V2) (v0:Value) (H:Hp) (n:Nat):Res:=
boxK 35 v0 H n fun v_1 H_2 n_3=>
aq (ay P 35 v_1 0) fun v_1c=>
aq (aX v_1c) fun a_1e=>aq (ak P H_2 31 a_1e) fun v_1d=>
aq (lenV P 31 v_1d) fun v_1f=>
binK P .gtr 3 (.tmp 6) (.const (.int .i64 8)) v_1f (.int .i64 8) fun v_1g=>
ifK v_1g (
j1 v_1 v_1g H_2 n_3) (
aq (ay P 35 v_1 1) fun v_1i=>
aq (aX v_1i) fun a_1k=>aq (ak P H_2 32 a_1k) fun v_1j=>
aq (lenV P 32 v_1j) fun v_1l=>
binK P .gtr 3 (.tmp 10) (.const (.int .i64 16)) v_1l (.int .i64 16) fun v_1m=>
ifK v_1m (
j1 v_1 v_1m H_2 n_3) (
aq (ay P 35 v_1 2) fun v_1o=>
aq (aX v_1o) fun a_1q=>aq (ak P H_2 33 a_1q) fun v_1p=>
aq (lenV P 33 v_1p) fun v_1r=>
binK P .gtr 3 (.tmp 14) (.const (.int .i64 3)) v_1r (.int .i64 3) fun v_1s=>
j1 v_1 v_1s H_2 n_3))
noncomputable def C60_0 (cal:Cal) (k:Nat) (v0:Value) (H:Hp) (n:Nat):Res:=B60_0 cal k (WZ cal k) v0 H n
theorem h60_0 (cal:Cal) (k:Nat) (v0:Value) (H:Hp) (n:Nat):aK P cal A (k+1) 60 [v0] H n=C60_0 cal k v0 H n:=by
 have h:aK P cal A (k+1) 60 [v0] H n=B60_0 cal k (fun u1 u3 H n=>labK (E60_1 cal k) (Tr.set (Tr.set Tr.nil 3 (some u3)) 1 (some u1)) H n []) v0 H n:=by
  rw[bQ (fn:=Go.Proofs.Try.f60) (c:=qk) (rs:=fZ) (by kernel_rfl) (by kernel_rfl) (by kernel_rfl) (by kernel_rfl)]
  kernel_rfl
 rw[h,C60_0]
 have e1:(fun u1 u3 H n=>labK (E60_1 cal k) (Tr.set (Tr.set Tr.nil 3 (some u3)) 1 (some u1)) H n [])=(WZ cal k):=by funext u1 u3 H n; exact h60_1 ..
 rw[e1]
noncomputable def iq:Code:=cw 61
noncomputable def cx:List ResultVar:=dk 61
noncomputable def K61_p (cal:Cal) (k:Nat):KR:=(cutK (A 61).c (az P cal (ax P cal k) none 61 (cR iq) (Lv.b (A 61)) (aw P cx) X0 (aw P cx)))
noncomputable def K61_pr (cal:Cal) (k:Nat):KR:=(cutK (Lv.b (A 61)).c (az P cal (ax P cal k) none 61 (cR (cR iq)) (Lv.b (Lv.b (A 61))) (aw P cx) X0 (aw P cx)))
noncomputable def K61_prl (cal:Cal) (k:Nat):KR:=(cutK (Lv.a (Lv.b (A 61))).c (az P cal (ax P cal k) none 61 (cR (cL (cR iq))) (Lv.b (Lv.a (Lv.b (A 61)))) (K61_pr cal k) X0 (aw P cx)))
noncomputable def K61_prlr (cal:Cal) (k:Nat):KR:=(cutK (Lv.b (Lv.a (Lv.b (A 61)))).c (az P cal (ax P cal k) none 61 (cR (cR (cL (cR iq)))) (Lv.b (Lv.b (Lv.a (Lv.b (A 61))))) (K61_pr cal k) X0 (aw P cx)))
noncomputable def K61_prlrrl (cal:Cal) (k:Nat):KR:=(cutK (Lv.a (Lv.b (Lv.b (Lv.a (Lv.b (A 61)))))).c (az P cal (ax P cal k) none 61 (cR (cL (cR (cR (cL (cR iq)))))) (Lv.b (Lv.a (Lv.b (Lv.b (Lv.a (Lv.b (A 61))))))) (K61_pr cal k) X0 (aw P cx)))
noncomputable def K61_prr (cal:Cal) (k:Nat):KR:=(cutK (Lv.b (Lv.b (A 61))).c (az P cal (ax P cal k) none 61 (cR (cR (cR iq))) (Lv.b (Lv.b (Lv.b (A 61)))) (aw P cx) X0 (aw P cx)))
noncomputable def RY (cal:Cal) (k:Nat):KR:=(cutK (Lv.b (Lv.b (Lv.b (A 61)))).c (az P cal (ax P cal k) none 61 (cR (cR (cR (cR iq)))) (Lv.b (Lv.b (Lv.b (Lv.b (A 61))))) (aw P cx) X0 (aw P cx)))
noncomputable def K61_prrrl (cal:Cal) (k:Nat):KR:=(cutK (Lv.a (Lv.b (Lv.b (Lv.b (A 61))))).c (az P cal (ax P cal k) none 61 (cR (cL (cR (cR (cR iq))))) (Lv.b (Lv.a (Lv.b (Lv.b (Lv.b (A 61)))))) (RY cal k) X0 (aw P cx)))
noncomputable def rX (cal:Cal) (k:Nat):XR:=(upX 0 (RY cal k) X0)
noncomputable def Dk (cal:Cal) (k:Nat) (m1:Nat):KR:=(fun T H n D=>ax P cal m1 (Lv.a (Lv.b (Lv.a (Lv.b (Lv.b (Lv.b (A 61))))))) none 61 (cL (cR (cL (cR (cR (cR iq)))))) (RY cal k) (rX cal k) (aw P cx) (cutT (Lv.a (Lv.b (Lv.a (Lv.b (Lv.b (Lv.b (A 61))))))).c T) H n D)
noncomputable def K61_prrrlrll (cal:Cal) (k:Nat) (m1:Nat):KR:=(cutK (Lv.a (Lv.a (Lv.b (Lv.a (Lv.b (Lv.b (Lv.b (A 61)))))))).c (az P cal (ax P cal m1) none 61 (cR (cL (cL (cR (cL (cR (cR (cR iq)))))))) (Lv.b (Lv.a (Lv.a (Lv.b (Lv.a (Lv.b (Lv.b (Lv.b (A 61))))))))) (Dk cal k m1) (rX cal k) (aw P cx)))
noncomputable def K61_prrrlrllr (cal:Cal) (k:Nat) (m1:Nat):KR:=(cutK (Lv.b (Lv.a (Lv.a (Lv.b (Lv.a (Lv.b (Lv.b (Lv.b (A 61))))))))).c (az P cal (ax P cal m1) none 61 (cR (cR (cL (cL (cR (cL (cR (cR (cR iq))))))))) (Lv.b (Lv.b (Lv.a (Lv.a (Lv.b (Lv.a (Lv.b (Lv.b (Lv.b (A 61)))))))))) (Dk cal k m1) (rX cal k) (aw P cx)))
noncomputable def K61_prrrlrllrr (cal:Cal) (k:Nat) (m1:Nat):KR:=(cutK (Lv.b (Lv.b (Lv.a (Lv.a (Lv.b (Lv.a (Lv.b (Lv.b (Lv.b (A 61)))))))))).c (az P cal (ax P cal m1) none 61 (cR (cR (cR (cL (cL (cR (cL (cR (cR (cR iq)))))))))) (Lv.b (Lv.b (Lv.b (Lv.a (Lv.a (Lv.b (Lv.a (Lv.b (Lv.b (Lv.b (A 61))))))))))) (Dk cal k m1) (rX cal k) (aw P cx)))
noncomputable def K61_pxrrrlrllrrl (cal:Cal) (k:Nat) (m1:Nat):XR:=(upX 1 (K61_prrrlrllrr cal k m1) (rX cal k))
noncomputable def K61_prrrlrllrrll (cal:Cal) (k:Nat) (m1:Nat):KR:=(cutK (Lv.a (Lv.a (Lv.b (Lv.b (Lv.a (Lv.a (Lv.b (Lv.a (Lv.b (Lv.b (Lv.b (A 61)))))))))))).c (az P cal (ax P cal m1) none 61 (cR (cL (cL (cR (cR (cL (cL (cR (cL (cR (cR (cR iq)))))))))))) (Lv.b (Lv.a (Lv.a (Lv.b (Lv.b (Lv.a (Lv.a (Lv.b (Lv.a (Lv.b (Lv.b (Lv.b (A 61))))))))))))) (K61_prrrlrllrr cal k m1) (K61_pxrrrlrllrrl cal k m1) (aw P cx)))
noncomputable def Nj (cal:Cal) (k:Nat):KR:=(cutK (Lv.b (Lv.b (Lv.b (Lv.b (A 61))))).c (az P cal (ax P cal k) none 61 (cR (cR (cR (cR (cR iq))))) (Lv.b (Lv.b (Lv.b (Lv.b (Lv.b (A 61)))))) (aw P cx) X0 (aw P cx)))
noncomputable def K61_prrrrl (cal:Cal) (k:Nat):KR:=(cutK (Lv.a (Lv.b (Lv.b (Lv.b (Lv.b (A 61)))))).c (az P cal (ax P cal k) none 61 (cR (cL (cR (cR (cR (cR iq)))))) (Lv.b (Lv.a (Lv.b (Lv.b (Lv.b (Lv.b (A 61))))))) (Nj cal k) X0 (aw P cx)))
noncomputable def qv (cal:Cal) (k:Nat):XR:=(upX 2 (Nj cal k) X0)
noncomputable def AW (cal:Cal) (k:Nat) (m1:Nat):KR:=(fun T H n D=>ax P cal m1 (Lv.a (Lv.b (Lv.a (Lv.b (Lv.b (Lv.b (Lv.b (A 61)))))))) none 61 (cL (cR (cL (cR (cR (cR (cR iq))))))) (Nj cal k) (qv cal k) (aw P cx) (cutT (Lv.a (Lv.b (Lv.a (Lv.b (Lv.b (Lv.b (Lv.b (A 61)))))))).c T) H n D)
noncomputable def K61_prrrrlrll (cal:Cal) (k:Nat) (m1:Nat):KR:=(cutK (Lv.a (Lv.a (Lv.b (Lv.a (Lv.b (Lv.b (Lv.b (Lv.b (A 61))))))))).c (az P cal (ax P cal m1) none 61 (cR (cL (cL (cR (cL (cR (cR (cR (cR iq))))))))) (Lv.b (Lv.a (Lv.a (Lv.b (Lv.a (Lv.b (Lv.b (Lv.b (Lv.b (A 61)))))))))) (AW cal k m1) (qv cal k) (aw P cx)))
noncomputable def K61_prrrrlrllr (cal:Cal) (k:Nat) (m1:Nat):KR:=(cutK (Lv.b (Lv.a (Lv.a (Lv.b (Lv.a (Lv.b (Lv.b (Lv.b (Lv.b (A 61)))))))))).c (az P cal (ax P cal m1) none 61 (cR (cR (cL (cL (cR (cL (cR (cR (cR (cR iq)))))))))) (Lv.b (Lv.b (Lv.a (Lv.a (Lv.b (Lv.a (Lv.b (Lv.b (Lv.b (Lv.b (A 61))))))))))) (AW cal k m1) (qv cal k) (aw P cx)))
noncomputable def ox (cal:Cal) (k:Nat) (m1:Nat):KR:=(cutK (Lv.b (Lv.b (Lv.a (Lv.a (Lv.b (Lv.a (Lv.b (Lv.b (Lv.b (Lv.b (A 61))))))))))).c (az P cal (ax P cal m1) none 61 (cR (cR (cR (cL (cL (cR (cL (cR (cR (cR (cR iq))))))))))) (Lv.b (Lv.b (Lv.b (Lv.a (Lv.a (Lv.b (Lv.a (Lv.b (Lv.b (Lv.b (Lv.b (A 61)))))))))))) (AW cal k m1) (qv cal k) (aw P cx)))
noncomputable def wZ (cal:Cal) (k:Nat) (m1:Nat):XR:=(upX 3 (ox cal k m1) (qv cal k))
noncomputable def K61_prrrrlrllrrll (cal:Cal) (k:Nat) (m1:Nat):KR:=(cutK (Lv.a (Lv.a (Lv.b (Lv.b (Lv.a (Lv.a (Lv.b (Lv.a (Lv.b (Lv.b (Lv.b (Lv.b (A 61))))))))))))).c (az P cal (ax P cal m1) none 61 (cR (cL (cL (cR (cR (cL (cL (cR (cL (cR (cR (cR (cR iq))))))))))))) (Lv.b (Lv.a (Lv.a (Lv.b (Lv.b (Lv.a (Lv.a (Lv.b (Lv.a (Lv.b (Lv.b (Lv.b (Lv.b (A 61)))))))))))))) (ox cal k m1) (wZ cal k m1) (aw P cx)))
noncomputable def K61_prrrrlrllrrllr (cal:Cal) (k:Nat) (m1:Nat):KR:=(cutK (Lv.b (Lv.a (Lv.a (Lv.b (Lv.b (Lv.a (Lv.a (Lv.b (Lv.a (Lv.b (Lv.b (Lv.b (Lv.b (A 61)))))))))))))).c (az P cal (ax P cal m1) none 61 (cR (cR (cL (cL (cR (cR (cL (cL (cR (cL (cR (cR (cR (cR iq)))))))))))))) (Lv.b (Lv.b (Lv.a (Lv.a (Lv.b (Lv.b (Lv.a (Lv.a (Lv.b (Lv.a (Lv.b (Lv.b (Lv.b (Lv.b (A 61))))))))))))))) (ox cal k m1) (wZ cal k m1) (aw P cx)))
noncomputable def gY (cal:Cal) (k:Nat) (m1:Nat):XR:=(upX 4 (ox cal k m1) (wZ cal k m1))
noncomputable def oQ (cal:Cal) (k:Nat) (m1:Nat) (m2:Nat):KR:=(fun T H n D=>ax P cal m2 (Lv.a (Lv.b (Lv.b (Lv.a (Lv.a (Lv.b (Lv.b (Lv.a (Lv.a (Lv.b (Lv.a (Lv.b (Lv.b (Lv.b (Lv.b (A 61)))))))))))))))) none 61 (cL (cR (cR (cL (cL (cR (cR (cL (cL (cR (cL (cR (cR (cR (cR iq))))))))))))))) (ox cal k m1) (gY cal k m1) (aw P cx) (cutT (Lv.a (Lv.b (Lv.b (Lv.a (Lv.a (Lv.b (Lv.b (Lv.a (Lv.a (Lv.b (Lv.a (Lv.b (Lv.b (Lv.b (Lv.b (A 61)))))))))))))))).c T) H n D)
noncomputable def K61_prrrrlrllrrllrrll (cal:Cal) (k:Nat) (m1:Nat) (m2:Nat):KR:=(cutK (Lv.a (Lv.a (Lv.b (Lv.b (Lv.a (Lv.a (Lv.b (Lv.b (Lv.a (Lv.a (Lv.b (Lv.a (Lv.b (Lv.b (Lv.b (Lv.b (A 61))))))))))))))))).c (az P cal (ax P cal m2) none 61 (cR (cL (cL (cR (cR (cL (cL (cR (cR (cL (cL (cR (cL (cR (cR (cR (cR iq))))))))))))))))) (Lv.b (Lv.a (Lv.a (Lv.b (Lv.b (Lv.a (Lv.a (Lv.b (Lv.b (Lv.a (Lv.a (Lv.b (Lv.a (Lv.b (Lv.b (Lv.b (Lv.b (A 61)))))))))))))))))) (oQ cal k m1 m2) (gY cal k m1) (aw P cx)))
noncomputable def K61_prrrrlrllrrllrrllr (cal:Cal) (k:Nat) (m1:Nat) (m2:Nat):KR:=(cutK (Lv.b (Lv.a (Lv.a (Lv.b (Lv.b (Lv.a (Lv.a (Lv.b (Lv.b (Lv.a (Lv.a (Lv.b (Lv.a (Lv.b (Lv.b (Lv.b (Lv.b (A 61)))))))))))))))))).c (az P cal (ax P cal m2) none 61 (cR (cR (cL (cL (cR (cR (cL (cL (cR (cR (cL (cL (cR (cL (cR (cR (cR (cR iq)))))))))))))))))) (Lv.b (Lv.b (Lv.a (Lv.a (Lv.b (Lv.b (Lv.a (Lv.a (Lv.b (Lv.b (Lv.a (Lv.a (Lv.b (Lv.a (Lv.b (Lv.b (Lv.b (Lv.b (A 61))))))))))))))))))) (oQ cal k m1 m2) (gY cal k m1) (aw P cx)))
noncomputable def K61_prrrrlrllrrllrrllrr (cal:Cal) (k:Nat) (m1:Nat) (m2:Nat):KR:=(cutK (Lv.b (Lv.b (Lv.a (Lv.a (Lv.b (Lv.b (Lv.a (Lv.a (Lv.b (Lv.b (Lv.a (Lv.a (Lv.b (Lv.a (Lv.b (Lv.b (Lv.b (Lv.b (A 61))))))))))))))))))).c (az P cal (ax P cal m2) none 61 (cR (cR (cR (cL (cL (cR (cR (cL (cL (cR (cR (cL (cL (cR (cL (cR (cR (cR (cR iq))))))))))))))))))) (Lv.b (Lv.b (Lv.b (Lv.a (Lv.a (Lv.b (Lv.b (Lv.a (Lv.a (Lv.b (Lv.b (Lv.a (Lv.a (Lv.b (Lv.a (Lv.b (Lv.b (Lv.b (Lv.b (A 61)))))))))))))))))))) (oQ cal k m1 m2) (gY cal k m1) (aw P cx)))
noncomputable def K61_pxrrrrlrllrrllrrllrrl (cal:Cal) (k:Nat) (m1:Nat) (m2:Nat):XR:=(upX 5 (K61_prrrrlrllrrllrrllrr cal k m1 m2) (gY cal k m1))
noncomputable def K61_prrrrlrllrrllrrllrrll (cal:Cal) (k:Nat) (m1:Nat) (m2:Nat):KR:=(cutK (Lv.a (Lv.a (Lv.b (Lv.b (Lv.a (Lv.a (Lv.b (Lv.b (Lv.a (Lv.a (Lv.b (Lv.b (Lv.a (Lv.a (Lv.b (Lv.a (Lv.b (Lv.b (Lv.b (Lv.b (A 61))))))))))))))))))))).c (az P cal (ax P cal m2) none 61 (cR (cL (cL (cR (cR (cL (cL (cR (cR (cL (cL (cR (cR (cL (cL (cR (cL (cR (cR (cR (cR iq))))))))))))))))))))) (Lv.b (Lv.a (Lv.a (Lv.b (Lv.b (Lv.a (Lv.a (Lv.b (Lv.b (Lv.a (Lv.a (Lv.b (Lv.b (Lv.a (Lv.a (Lv.b (Lv.a (Lv.b (Lv.b (Lv.b (Lv.b (A 61)))))))))))))))))))))) (K61_prrrrlrllrrllrrllrr cal k m1 m2) (K61_pxrrrrlrllrrllrrllrrl cal k m1 m2) (aw P cx)))
noncomputable def K61_prrrrr (cal:Cal) (k:Nat):KR:=(cutK (Lv.b (Lv.b (Lv.b (Lv.b (Lv.b (A 61)))))).c (az P cal (ax P cal k) none 61 (cR (cR (cR (cR (cR (cR iq)))))) (Lv.b (Lv.b (Lv.b (Lv.b (Lv.b (Lv.b (A 61))))))) (aw P cx) X0 (aw P cx)))
noncomputable def E61_3 (cal:Cal) (k m1 m2:Nat):KR:=az P cal (ax P cal m2) none 61 (cL (cL (cR (cR (cL (cL (cR (cR (cL (cL (cR (cL (cR (cR (cR (cR iq)))))))))))))))) (Lv.a (Lv.a (Lv.b (Lv.b (Lv.a (Lv.a (Lv.b (Lv.b (Lv.a (Lv.a (Lv.b (Lv.a (Lv.b (Lv.b (Lv.b (Lv.b (A 61))))))))))))))))) (oQ cal k m1 m2) (gY cal k m1) (aw P cx)
noncomputable def R61_3 (cal:Cal) (k m1 m2:Nat):V7:=fun u5 u8 u53 u54 u61 u62 u63 H n=>ax P cal m2 (Lv.a (Lv.b (Lv.b (Lv.a (Lv.a (Lv.b (Lv.b (Lv.a (Lv.a (Lv.b (Lv.a (Lv.b (Lv.b (Lv.b (Lv.b (A 61)))))))))))))))) none 61 (cL (cR (cR (cL (cL (cR (cR (cL (cL (cR (cL (cR (cR (cR (cR iq))))))))))))))) (ox cal k m1) (gY cal k m1) (aw P cx) (Tr.set (Tr.set (Tr.set (Tr.set (Tr.set (Tr.set (Tr.set Tr.nil 63 (some u63)) 62 (some u62)) 61 (some u61)) 54 (some u54)) 53 (some u53)) 8 (some u8)) 5 (some u5)) H n []
noncomputable def E61_2 (cal:Cal) (k m1:Nat):KR:=az P cal (ax P cal m1) none 61 (cL (cL (cR (cL (cR (cR (cR (cR iq)))))))) (Lv.a (Lv.a (Lv.b (Lv.a (Lv.b (Lv.b (Lv.b (Lv.b (A 61))))))))) (AW cal k m1) (qv cal k) (aw P cx)
noncomputable def Ox (cal:Cal) (k m1:Nat):V3:=fun u5 u53 u54 H n=>ax P cal m1 (Lv.a (Lv.b (Lv.a (Lv.b (Lv.b (Lv.b (Lv.b (A 61)))))))) none 61 (cL (cR (cL (cR (cR (cR (cR iq))))))) (Nj cal k) (qv cal k) (aw P cx) (Tr.set (Tr.set (Tr.set Tr.nil 54 (some u54)) 53 (some u53)) 5 (some u5)) H n []
noncomputable def E61_1 (cal:Cal) (k m1:Nat):KR:=az P cal (ax P cal m1) none 61 (cL (cL (cR (cL (cR (cR (cR iq))))))) (Lv.a (Lv.a (Lv.b (Lv.a (Lv.b (Lv.b (Lv.b (A 61)))))))) (Dk cal k m1) (rX cal k) (aw P cx)
noncomputable def R61_1 (cal:Cal) (k m1:Nat):V4:=fun u5 u23 u24 u25 H n=>ax P cal m1 (Lv.a (Lv.b (Lv.a (Lv.b (Lv.b (Lv.b (A 61))))))) none 61 (cL (cR (cL (cR (cR (cR iq)))))) (RY cal k) (rX cal k) (aw P cx) (Tr.set (Tr.set (Tr.set (Tr.set Tr.nil 25 (some u25)) 24 (some u24)) 23 (some u23)) 5 (some u5)) H n []
noncomputable def B61_3 (cal:Cal) (k m1 m2:Nat) (b2:V3) (b3:V7) (u5 u8 u53 u54 u61 u62 u63:Value) (H:Hp) (n:Nat):Res:=
binK P .lss 3 (.tmp 63) (.tmp 62) u63 u62 fun v_2m=>
ifK v_2m (
aq (aY P 33 u61 u63) fun v_2o=>
aq (aX v_2o) fun a_2q=>aq (ak P H 86 a_2q) fun v_2p=>
cQ P 86 H n fun v_2r H_2s n_2t=>
aq (bx P 86 v_2r v_2p H_2s) fun H_2w=>
aq (aX v_2r) fun a_32=>aq (ak P H_2w 86 a_32) fun v_33=>
aq (nilV u5) fun v_34=>
aq (ay P 117 v_34 2) fun v_35=>
aq (aY P 115 v_35 u8) fun v_36=>
aW P cal 97 [u5,u8,v_33] H_2w n_2t fun v_37 H_38 n_39=>
aq (aY P 114 v_36 u63) fun v_3a=>
aq (bx P 113 v_3a v_37 H_38) fun H_3c=>
binK P .add 3 (.tmp 63) (.const (.int .i64 1)) u63 (.int .i64 1) fun v_3d=>
b3 u5 u8 u53 u54 u61 u62 v_3d H_3c n_39) (
binK P .add 3 (.tmp 54) (.const (.int .i64 1)) u54 (.int .i64 1) fun v_3f=>
b2 u5 u53 v_3f H n)
noncomputable def C61_3 (cal:Cal) (k m1 m2:Nat) (b2:V3) (b3:V7) (u5 u8 u53 u54 u61 u62 u63:Value) (H:Hp) (n:Nat):Res:=B61_3 cal k m1 m2 b2 b3 u5 u8 u53 u54 u61 u62 u63 H n
noncomputable def S61_3 (cal:Cal) (k m1:Nat) (b2:V3):Nat→V7:=fun m=>Nat.rec (motive:=fun _=>V7) (C61_3 cal k m1 0 b2 (fun _ _ _ _ _ _ _ _ _=>none)) (fun m ih=>C61_3 cal k m1 (m+1) b2 ih) m
theorem h61_3 (cal:Cal) (k m1 m2:Nat) (u5 u8 u53 u54 u61 u62 u63:Value) (H:Hp) (n:Nat):labK (E61_3 cal k m1 m2) (Tr.set (Tr.set (Tr.set (Tr.set (Tr.set (Tr.set (Tr.set Tr.nil 63 (some u63)) 62 (some u62)) 61 (some u61)) 54 (some u54)) 53 (some u53)) 8 (some u8)) 5 (some u5)) H n []=C61_3 cal k m1 m2 (Ox cal k m1) (R61_3 cal k m1 m2) u5 u8 u53 u54 u61 u62 u63 H n:=by
 refine Eq.trans (b:=B61_3 cal k m1 m2 (Ox cal k m1) (R61_3 cal k m1 m2) u5 u8 u53 u54 u61 u62 u63 H n) (by kernel_rfl) ?_
 rw[C61_3]
theorem q61_3 (cal:Cal) (k m1:Nat):∀(m:Nat) (u5 u8 u53 u54 u61 u62 u63:Value) (H:Hp) (n:Nat),labK (E61_3 cal k m1 m) (Tr.set (Tr.set (Tr.set (Tr.set (Tr.set (Tr.set (Tr.set Tr.nil 63 (some u63)) 62 (some u62)) 61 (some u61)) 54 (some u54)) 53 (some u53)) 8 (some u8)) 5 (some u5)) H n []=S61_3 cal k m1 (Ox cal k m1) m u5 u8 u53 u54 u61 u62 u63 H n
 | 0,u5,u8,u53,u54,u61,u62,u63,H,n=>by
  rw[h61_3]
  have e:R61_3 cal k m1 0=fun _ _ _ _ _ _ _ _ _=>none:=by funext u5 u8 u53 u54 u61 u62 u63 H n; kernel_rfl
  rw[e]; rfl
 | m+1,u5,u8,u53,u54,u61,u62,u63,H,n=>by
  rw[h61_3]
  have e:R61_3 cal k m1 (m+1)=S61_3 cal k m1 (Ox cal k m1) m:=by
   funext u5 u8 u53 u54 u61 u62 u63 H n
   have e:R61_3 cal k m1 (m+1) u5 u8 u53 u54 u61 u62 u63 H n=labK (E61_3 cal k m1 m) (Tr.set (Tr.set (Tr.set (Tr.set (Tr.set (Tr.set (Tr.set Tr.nil 63 (some u63)) 62 (some u62)) 61 (some u61)) 54 (some u54)) 53 (some u53)) 8 (some u8)) 5 (some u5)) H n []:=by kernel_rfl
   rw[e]; exact q61_3 ..
  rw[e]; rfl
noncomputable def B61_2 (cal:Cal) (k m1:Nat) (j3:V7) (b2:V3) (u5 u53 u54:Value) (H:Hp) (n:Nat):Res:=
binK P .lss 3 (.tmp 54) (.tmp 53) u54 u53 fun v_2b=>
ifK v_2b (
aq (nilV u5) fun v_2f=>
aq (ay P 117 v_2f 0) fun v_2g=>
aq (ay P 35 v_2g 2) fun v_2h=>
aq (aX v_2h) fun a_2j=>aq (ak P H 33 a_2j) fun v_2i=>
aq (lenV P 33 v_2i) fun v_2k=>
j3 u5 u54 u53 u54 v_2i v_2k (.int .i64 0) H n) (
some ((Value.tuple ⟨[u5,(.int .i64 0)]⟩),H,n))
noncomputable def C61_2 (cal:Cal) (k m1:Nat) (b2:V3) (u5 u53 u54:Value) (H:Hp) (n:Nat):Res:=B61_2 cal k m1 (S61_3 cal k m1 b2 m1) b2 u5 u53 u54 H n
noncomputable def S61_2 (cal:Cal) (k:Nat):Nat→V3:=fun m=>Nat.rec (motive:=fun _=>V3) (C61_2 cal k 0 (fun _ _ _ _ _=>none)) (fun m ih=>C61_2 cal k (m+1) ih) m
theorem h61_2 (cal:Cal) (k m1:Nat) (u5 u53 u54:Value) (H:Hp) (n:Nat):labK (E61_2 cal k m1) (Tr.set (Tr.set (Tr.set Tr.nil 54 (some u54)) 53 (some u53)) 5 (some u5)) H n []=C61_2 cal k m1 (Ox cal k m1) u5 u53 u54 H n:=by
 refine Eq.trans (b:=B61_2 cal k m1 (fun u5 u8 u53 u54 u61 u62 u63 H n=>labK (E61_3 cal k m1 m1) (Tr.set (Tr.set (Tr.set (Tr.set (Tr.set (Tr.set (Tr.set Tr.nil 63 (some u63)) 62 (some u62)) 61 (some u61)) 54 (some u54)) 53 (some u53)) 8 (some u8)) 5 (some u5)) H n []) (Ox cal k m1) u5 u53 u54 H n) (by kernel_rfl) ?_
 rw[C61_2]
 have e3:(fun u5 u8 u53 u54 u61 u62 u63 H n=>labK (E61_3 cal k m1 m1) (Tr.set (Tr.set (Tr.set (Tr.set (Tr.set (Tr.set (Tr.set Tr.nil 63 (some u63)) 62 (some u62)) 61 (some u61)) 54 (some u54)) 53 (some u53)) 8 (some u8)) 5 (some u5)) H n [])=(S61_3 cal k m1 (Ox cal k m1) m1):=by funext u5 u8 u53 u54 u61 u62 u63 H n; exact q61_3 ..
 rw[e3]
theorem q61_2 (cal:Cal) (k:Nat):∀(m:Nat) (u5 u53 u54:Value) (H:Hp) (n:Nat),labK (E61_2 cal k m) (Tr.set (Tr.set (Tr.set Tr.nil 54 (some u54)) 53 (some u53)) 5 (some u5)) H n []=S61_2 cal k m u5 u53 u54 H n
 | 0,u5,u53,u54,H,n=>by
  rw[h61_2]
  have e:Ox cal k 0=fun _ _ _ _ _=>none:=by funext u5 u53 u54 H n; kernel_rfl
  rw[e]; rfl
 | m+1,u5,u53,u54,H,n=>by
  rw[h61_2]
  have e:Ox cal k (m+1)=S61_2 cal k m:=by
   funext u5 u53 u54 H n
   have e:Ox cal k (m+1) u5 u53 u54 H n=labK (E61_2 cal k m) (Tr.set (Tr.set (Tr.set Tr.nil 54 (some u54)) 53 (some u53)) 5 (some u5)) H n []:=by kernel_rfl
   rw[e]; exact q61_2 ..
  rw[e]; rfl
noncomputable def B61_1 (cal:Cal) (k m1:Nat) (j2:V3) (b1:V4) (u5 u23 u24 u25:Value) (H:Hp) (n:Nat):Res:=
binK P .lss 3 (.tmp 25) (.tmp 24) u25 u24 fun v_w=>
ifK v_w (
aq (aY P 32 u23 u25) fun v_x=>
aq (aX v_x) fun a_z=>aq (ak P H 88 a_z) fun v_y=>
cQ P 88 H n fun v_10 H_11 n_12=>
aq (bx P 88 v_10 v_y H_11) fun H_14=>
aq (ay P 88 v_10 0) fun v_16=>
aq (aX v_16) fun a_17=>aq (ak P H_14 3 a_17) fun v_18=>
aq (ay P 88 v_10 1) fun v_19=>
aq (aX v_19) fun a_1a=>aq (ak P H_14 3 a_1a) fun v_1b=>
aq (ay P 88 v_10 1) fun v_1d=>
aq (aX v_1d) fun a_1e=>aq (ak P H_14 3 a_1e) fun v_1f=>
aq (ay P 88 v_10 0) fun v_1g=>
aq (aX v_1g) fun a_1h=>aq (ak P H_14 3 a_1h) fun v_1i=>
aq (nilV u5) fun v_1j=>
aq (ay P 117 v_1j 1) fun v_1k=>
aq (aY P 109 v_1k v_18) fun v_1l=>
aq (aY P 108 v_1l v_1b) fun v_1m=>
aq (nilV u5) fun v_1n=>
aq (ay P 117 v_1n 1) fun v_1o=>
aq (aY P 109 v_1o v_1f) fun v_1p=>
effK P [(.l 3 a_1h),(.l 3 a_1e)] H_14 n_12 (fun H_1q n_1r k_1s=>
aq (bx P 4 v_1m (.bool true) H_1q) fun H_1x=>
k_1s undef H_1x n_1r) fun v_1t H_1u n_1v=>
aq (aY P 108 v_1p v_1i) fun v_1y=>
aq (bx P 4 v_1y (.bool true) H_1u) fun H_20=>
binK P .add 3 (.tmp 25) (.const (.int .i64 1)) u25 (.int .i64 1) fun v_21=>
b1 u5 u23 u24 v_21 H_20 n_1v) (
aq (nilV u5) fun v_24=>
aq (ay P 117 v_24 0) fun v_25=>
aq (ay P 35 v_25 0) fun v_26=>
aq (aX v_26) fun a_28=>aq (ak P H 31 a_28) fun v_27=>
aq (lenV P 31 v_27) fun v_29=>
j2 u5 v_29 (.int .i64 0) H n)
noncomputable def C61_1 (cal:Cal) (k m1:Nat) (b1:V4) (u5 u23 u24 u25:Value) (H:Hp) (n:Nat):Res:=B61_1 cal k m1 (S61_2 cal k k) b1 u5 u23 u24 u25 H n
noncomputable def S61_1 (cal:Cal) (k:Nat):Nat→V4:=fun m=>Nat.rec (motive:=fun _=>V4) (C61_1 cal k 0 (fun _ _ _ _ _ _=>none)) (fun m ih=>C61_1 cal k (m+1) ih) m
theorem h61_1 (cal:Cal) (k m1:Nat) (u5 u23 u24 u25:Value) (H:Hp) (n:Nat):labK (E61_1 cal k m1) (Tr.set (Tr.set (Tr.set (Tr.set Tr.nil 25 (some u25)) 24 (some u24)) 23 (some u23)) 5 (some u5)) H n []=C61_1 cal k m1 (R61_1 cal k m1) u5 u23 u24 u25 H n:=by
 refine Eq.trans (b:=B61_1 cal k m1 (fun u5 u53 u54 H n=>labK (E61_2 cal k k) (Tr.set (Tr.set (Tr.set Tr.nil 54 (some u54)) 53 (some u53)) 5 (some u5)) H n []) (R61_1 cal k m1) u5 u23 u24 u25 H n) (by kernel_rfl) ?_
 rw[C61_1]
 have e2:(fun u5 u53 u54 H n=>labK (E61_2 cal k k) (Tr.set (Tr.set (Tr.set Tr.nil 54 (some u54)) 53 (some u53)) 5 (some u5)) H n [])=(S61_2 cal k k):=by funext u5 u53 u54 H n; exact q61_2 ..
 rw[e2]
theorem q61_1 (cal:Cal) (k:Nat):∀(m:Nat) (u5 u23 u24 u25:Value) (H:Hp) (n:Nat),labK (E61_1 cal k m) (Tr.set (Tr.set (Tr.set (Tr.set Tr.nil 25 (some u25)) 24 (some u24)) 23 (some u23)) 5 (some u5)) H n []=S61_1 cal k m u5 u23 u24 u25 H n
 | 0,u5,u23,u24,u25,H,n=>by
  rw[h61_1]
  have e:R61_1 cal k 0=fun _ _ _ _ _ _=>none:=by funext u5 u23 u24 u25 H n; kernel_rfl
  rw[e]; rfl
 | m+1,u5,u23,u24,u25,H,n=>by
  rw[h61_1]
  have e:R61_1 cal k (m+1)=S61_1 cal k m:=by
   funext u5 u23 u24 u25 H n
   have e:R61_1 cal k (m+1) u5 u23 u24 u25 H n=labK (E61_1 cal k m) (Tr.set (Tr.set (Tr.set (Tr.set Tr.nil 25 (some u25)) 24 (some u24)) 23 (some u23)) 5 (some u5)) H n []:=by kernel_rfl
   rw[e]; exact q61_1 ..
  rw[e]; rfl
noncomputable def B61_0 (cal:Cal) (k:Nat) (j1:V4) (v0:Value) (H:Hp) (n:Nat):Res:=
boxK 35 v0 H n fun v_1 H_2 n_3=>
aq (aX v_1) fun a_7=>aq (ak P H_2 35 a_7) fun v_6=>
aW P cal 60 [v_6] H_2 n_3 fun v_8 H_9 n_a=>
binK P .neq 29 (.tmp 13) (.const (.int .i64 0)) v_8 (.int .i64 0) fun v_d=>
ifK v_d (
some ((Value.tuple ⟨[(.pointer none),v_8]⟩),H_9,n_a)) (
aq (aX v_1) fun a_i=>aq (ak P H_9 35 a_i) fun v_h=>
aq (iW P 117 [(0,v_h)]) fun v_j=>
boxK 117 v_j H_9 n_a fun v_k H_l n_m=>
aq (nilV v_k) fun v_p=>
aq (ay P 117 v_p 0) fun v_q=>
aq (ay P 35 v_q 1) fun v_r=>
aq (aX v_r) fun a_t=>aq (ak P H_l 32 a_t) fun v_s=>
aq (lenV P 32 v_s) fun v_u=>
j1 v_k v_s v_u (.int .i64 0) H_l n_m)
noncomputable def WK (cal:Cal) (k:Nat) (v0:Value) (H:Hp) (n:Nat):Res:=B61_0 cal k (S61_1 cal k k) v0 H n
theorem h61_0 (cal:Cal) (k:Nat) (v0:Value) (H:Hp) (n:Nat):aK P cal A (k+1) 61 [v0] H n=WK cal k v0 H n:=by
 have h:aK P cal A (k+1) 61 [v0] H n=B61_0 cal k (fun u5 u23 u24 u25 H n=>labK (E61_1 cal k k) (Tr.set (Tr.set (Tr.set (Tr.set Tr.nil 25 (some u25)) 24 (some u24)) 23 (some u23)) 5 (some u5)) H n []) v0 H n:=by
  rw[bQ (fn:=Go.Proofs.Try.f61) (c:=iq) (rs:=cx) (by kernel_rfl) (by kernel_rfl) (by kernel_rfl) (by kernel_rfl)]
  kernel_rfl
 rw[h,WK]
 have e1:(fun u5 u23 u24 u25 H n=>labK (E61_1 cal k k) (Tr.set (Tr.set (Tr.set (Tr.set Tr.nil 25 (some u25)) 24 (some u24)) 23 (some u23)) 5 (some u5)) H n [])=(S61_1 cal k k):=by funext u5 u23 u24 u25 H n; exact q61_1 ..
 rw[e1]
noncomputable def code62:Code:=cw 62
noncomputable def FX:List ResultVar:=dk 62
noncomputable def K62_p (cal:Cal) (k:Nat):KR:=(cutK (A 62).c (az P cal (ax P cal k) none 62 (cR code62) (Lv.b (A 62)) (aw P FX) X0 (aw P FX)))
noncomputable def K62_pr (cal:Cal) (k:Nat):KR:=(cutK (Lv.b (A 62)).c (az P cal (ax P cal k) none 62 (cR (cR code62)) (Lv.b (Lv.b (A 62))) (aw P FX) X0 (aw P FX)))
noncomputable def B62_0 (cal:Cal) (k:Nat) (v0:Value) (H:Hp) (n:Nat):Res:=
boxK 113 v0 H n fun v_1 H_2 n_3=>
aq (aX v_1) fun a_5=>aq (ak P H_2 113 a_5) fun v_6=>
aq (aX v_1) fun a_7=>aq (ak P H_2 113 a_7) fun v_8=>
aq (ay P 113 v_1 0) fun v_9=>
aq (aX v_9) fun a_a=>aq (ak P H_2 3 a_a) fun v_b=>
effK P [(.l 3 a_a),(.l 113 a_7)] H_2 n_3 (fun H_c n_d k_e=>
aW P cal 98 [v_6,(Value.func (.func 72) #[] #[])] H_c n_d fun v_i H_j n_k=>
k_e v_i H_j n_k) fun v_f H_g n_h=>
effK P [(.l 3 a_a)] H_g n_h (fun H_l n_m k_n=>
aW P cal 98 [v_8,(Value.func (.func 73) #[] #[])] H_l n_m fun v_r H_s n_t=>
k_n v_r H_s n_t) fun v_o H_p n_q=>
aq (iW P 53 [(0,v_f),(1,v_o)]) fun v_u=>
aW P cal 99 [v_u,v_b] H_p n_q fun v_v H_w n_x=>
some (v_v,H_w,n_x)
noncomputable def C62_0 (cal:Cal) (k:Nat) (v0:Value) (H:Hp) (n:Nat):Res:=B62_0 cal k v0 H n
theorem h62_0 (cal:Cal) (k:Nat) (v0:Value) (H:Hp) (n:Nat):aK P cal A (k+1) 62 [v0] H n=C62_0 cal k v0 H n:=by
 have h:aK P cal A (k+1) 62 [v0] H n=B62_0 cal k v0 H n:=by
  rw[bQ (fn:=Go.Proofs.Try.f62) (c:=code62) (rs:=FX) (by kernel_rfl) (by kernel_rfl) (by kernel_rfl) (by kernel_rfl)]
  kernel_rfl
 rw[h,C62_0]
noncomputable def dJ:Code:=cw 63
noncomputable def bk:List ResultVar:=dk 63
noncomputable def K63_p (cal:Cal) (k:Nat):KR:=(cutK (A 63).c (az P cal (ax P cal k) none 63 (cR dJ) (Lv.b (A 63)) (aw P bk) X0 (aw P bk)))
noncomputable def K63_pr (cal:Cal) (k:Nat):KR:=(cutK (Lv.b (A 63)).c (az P cal (ax P cal k) none 63 (cR (cR dJ)) (Lv.b (Lv.b (A 63))) (aw P bk) X0 (aw P bk)))
noncomputable def K63_prl (cal:Cal) (k:Nat):KR:=(cutK (Lv.a (Lv.b (A 63))).c (az P cal (ax P cal k) none 63 (cR (cL (cR dJ))) (Lv.b (Lv.a (Lv.b (A 63)))) (K63_pr cal k) X0 (aw P bk)))
noncomputable def K63_prlrl (cal:Cal) (k:Nat):KR:=(cutK (Lv.a (Lv.b (Lv.a (Lv.b (A 63))))).c (az P cal (ax P cal k) none 63 (cR (cL (cR (cL (cR dJ))))) (Lv.b (Lv.a (Lv.b (Lv.a (Lv.b (A 63)))))) (K63_pr cal k) X0 (aw P bk)))
noncomputable def K63_prr (cal:Cal) (k:Nat):KR:=(cutK (Lv.b (Lv.b (A 63))).c (az P cal (ax P cal k) none 63 (cR (cR (cR dJ))) (Lv.b (Lv.b (Lv.b (A 63)))) (aw P bk) X0 (aw P bk)))
noncomputable def K63_prrl (cal:Cal) (k:Nat):KR:=(cutK (Lv.a (Lv.b (Lv.b (A 63)))).c (az P cal (ax P cal k) none 63 (cR (cL (cR (cR dJ)))) (Lv.b (Lv.a (Lv.b (Lv.b (A 63))))) (K63_prr cal k) X0 (aw P bk)))
noncomputable def K63_prrlrl (cal:Cal) (k:Nat):KR:=(cutK (Lv.a (Lv.b (Lv.a (Lv.b (Lv.b (A 63)))))).c (az P cal (ax P cal k) none 63 (cR (cL (cR (cL (cR (cR dJ)))))) (Lv.b (Lv.a (Lv.b (Lv.a (Lv.b (Lv.b (A 63))))))) (K63_prr cal k) X0 (aw P bk)))
noncomputable def RZ (cal:Cal) (k:Nat):KR:=(cutK (Lv.b (Lv.b (Lv.b (A 63)))).c (az P cal (ax P cal k) none 63 (cR (cR (cR (cR dJ)))) (Lv.b (Lv.b (Lv.b (Lv.b (A 63))))) (aw P bk) X0 (aw P bk)))
noncomputable def K63_prrrl (cal:Cal) (k:Nat):KR:=(cutK (Lv.a (Lv.b (Lv.b (Lv.b (A 63))))).c (az P cal (ax P cal k) none 63 (cR (cL (cR (cR (cR dJ))))) (Lv.b (Lv.a (Lv.b (Lv.b (Lv.b (A 63)))))) (RZ cal k) X0 (aw P bk)))
noncomputable def rY (cal:Cal) (k:Nat):XR:=(upX 0 (RZ cal k) X0)
noncomputable def KY (cal:Cal) (k:Nat) (m1:Nat):KR:=(fun T H n D=>ax P cal m1 (Lv.a (Lv.b (Lv.a (Lv.b (Lv.b (Lv.b (A 63))))))) none 63 (cL (cR (cL (cR (cR (cR dJ)))))) (RZ cal k) (rY cal k) (aw P bk) (cutT (Lv.a (Lv.b (Lv.a (Lv.b (Lv.b (Lv.b (A 63))))))).c T) H n D)
noncomputable def K63_prrrlrll (cal:Cal) (k:Nat) (m1:Nat):KR:=(cutK (Lv.a (Lv.a (Lv.b (Lv.a (Lv.b (Lv.b (Lv.b (A 63)))))))).c (az P cal (ax P cal m1) none 63 (cR (cL (cL (cR (cL (cR (cR (cR dJ)))))))) (Lv.b (Lv.a (Lv.a (Lv.b (Lv.a (Lv.b (Lv.b (Lv.b (A 63))))))))) (KY cal k m1) (rY cal k) (aw P bk)))
noncomputable def K63_prrrlrlll (cal:Cal) (k:Nat) (m1:Nat):KR:=(cutK (Lv.a (Lv.a (Lv.a (Lv.b (Lv.a (Lv.b (Lv.b (Lv.b (A 63))))))))).c (az P cal (ax P cal m1) none 63 (cR (cL (cL (cL (cR (cL (cR (cR (cR dJ))))))))) (Lv.b (Lv.a (Lv.a (Lv.a (Lv.b (Lv.a (Lv.b (Lv.b (Lv.b (A 63)))))))))) (K63_prrrlrll cal k m1) (rY cal k) (aw P bk)))
noncomputable def Ey (cal:Cal) (k:Nat) (m1:Nat):KR:=(cutK (Lv.b (Lv.a (Lv.a (Lv.b (Lv.a (Lv.b (Lv.b (Lv.b (A 63))))))))).c (az P cal (ax P cal m1) none 63 (cR (cR (cL (cL (cR (cL (cR (cR (cR dJ))))))))) (Lv.b (Lv.b (Lv.a (Lv.a (Lv.b (Lv.a (Lv.b (Lv.b (Lv.b (A 63)))))))))) (KY cal k m1) (rY cal k) (aw P bk)))
noncomputable def K63_pxrrrlrllrl (cal:Cal) (k:Nat) (m1:Nat):XR:=(upX 1 (Ey cal k m1) (rY cal k))
noncomputable def K63_prrrlrllrll (cal:Cal) (k:Nat) (m1:Nat):KR:=(cutK (Lv.a (Lv.a (Lv.b (Lv.a (Lv.a (Lv.b (Lv.a (Lv.b (Lv.b (Lv.b (A 63))))))))))).c (az P cal (ax P cal m1) none 63 (cR (cL (cL (cR (cL (cL (cR (cL (cR (cR (cR dJ))))))))))) (Lv.b (Lv.a (Lv.a (Lv.b (Lv.a (Lv.a (Lv.b (Lv.a (Lv.b (Lv.b (Lv.b (A 63)))))))))))) (Ey cal k m1) (K63_pxrrrlrllrl cal k m1) (aw P bk)))
noncomputable def K63_prrrlrllrllrl (cal:Cal) (k:Nat) (m1:Nat):KR:=(cutK (Lv.a (Lv.b (Lv.a (Lv.a (Lv.b (Lv.a (Lv.a (Lv.b (Lv.a (Lv.b (Lv.b (Lv.b (A 63))))))))))))).c (az P cal (ax P cal m1) none 63 (cR (cL (cR (cL (cL (cR (cL (cL (cR (cL (cR (cR (cR dJ))))))))))))) (Lv.b (Lv.a (Lv.b (Lv.a (Lv.a (Lv.b (Lv.a (Lv.a (Lv.b (Lv.a (Lv.b (Lv.b (Lv.b (A 63)))))))))))))) (Ey cal k m1) (K63_pxrrrlrllrl cal k m1) (aw P bk)))
noncomputable def Nq (cal:Cal) (k:Nat):KR:=(cutK (Lv.b (Lv.b (Lv.b (Lv.b (A 63))))).c (az P cal (ax P cal k) none 63 (cR (cR (cR (cR (cR dJ))))) (Lv.b (Lv.b (Lv.b (Lv.b (Lv.b (A 63)))))) (aw P bk) X0 (aw P bk)))
noncomputable def K63_prrrrl (cal:Cal) (k:Nat):KR:=(cutK (Lv.a (Lv.b (Lv.b (Lv.b (Lv.b (A 63)))))).c (az P cal (ax P cal k) none 63 (cR (cL (cR (cR (cR (cR dJ)))))) (Lv.b (Lv.a (Lv.b (Lv.b (Lv.b (Lv.b (A 63))))))) (Nq cal k) X0 (aw P bk)))
noncomputable def qw (cal:Cal) (k:Nat):XR:=(upX 2 (Nq cal k) X0)
noncomputable def HY (cal:Cal) (k:Nat) (m1:Nat):KR:=(fun T H n D=>ax P cal m1 (Lv.a (Lv.b (Lv.a (Lv.b (Lv.b (Lv.b (Lv.b (A 63)))))))) none 63 (cL (cR (cL (cR (cR (cR (cR dJ))))))) (Nq cal k) (qw cal k) (aw P bk) (cutT (Lv.a (Lv.b (Lv.a (Lv.b (Lv.b (Lv.b (Lv.b (A 63)))))))).c T) H n D)
noncomputable def K63_prrrrlrll (cal:Cal) (k:Nat) (m1:Nat):KR:=(cutK (Lv.a (Lv.a (Lv.b (Lv.a (Lv.b (Lv.b (Lv.b (Lv.b (A 63))))))))).c (az P cal (ax P cal m1) none 63 (cR (cL (cL (cR (cL (cR (cR (cR (cR dJ))))))))) (Lv.b (Lv.a (Lv.a (Lv.b (Lv.a (Lv.b (Lv.b (Lv.b (Lv.b (A 63)))))))))) (HY cal k m1) (qw cal k) (aw P bk)))
noncomputable def K63_prrrrlrlll (cal:Cal) (k:Nat) (m1:Nat):KR:=(cutK (Lv.a (Lv.a (Lv.a (Lv.b (Lv.a (Lv.b (Lv.b (Lv.b (Lv.b (A 63)))))))))).c (az P cal (ax P cal m1) none 63 (cR (cL (cL (cL (cR (cL (cR (cR (cR (cR dJ)))))))))) (Lv.b (Lv.a (Lv.a (Lv.a (Lv.b (Lv.a (Lv.b (Lv.b (Lv.b (Lv.b (A 63))))))))))) (K63_prrrrlrll cal k m1) (qw cal k) (aw P bk)))
noncomputable def wK (cal:Cal) (k:Nat) (m1:Nat):KR:=(cutK (Lv.b (Lv.a (Lv.a (Lv.b (Lv.a (Lv.b (Lv.b (Lv.b (Lv.b (A 63)))))))))).c (az P cal (ax P cal m1) none 63 (cR (cR (cL (cL (cR (cL (cR (cR (cR (cR dJ)))))))))) (Lv.b (Lv.b (Lv.a (Lv.a (Lv.b (Lv.a (Lv.b (Lv.b (Lv.b (Lv.b (A 63))))))))))) (HY cal k m1) (qw cal k) (aw P bk)))
noncomputable def yY (cal:Cal) (k:Nat) (m1:Nat):XR:=(upX 3 (wK cal k m1) (qw cal k))
noncomputable def K63_prrrrlrllrll (cal:Cal) (k:Nat) (m1:Nat):KR:=(cutK (Lv.a (Lv.a (Lv.b (Lv.a (Lv.a (Lv.b (Lv.a (Lv.b (Lv.b (Lv.b (Lv.b (A 63)))))))))))).c (az P cal (ax P cal m1) none 63 (cR (cL (cL (cR (cL (cL (cR (cL (cR (cR (cR (cR dJ)))))))))))) (Lv.b (Lv.a (Lv.a (Lv.b (Lv.a (Lv.a (Lv.b (Lv.a (Lv.b (Lv.b (Lv.b (Lv.b (A 63))))))))))))) (wK cal k m1) (yY cal k m1) (aw P bk)))
noncomputable def K63_prrrrlrllrllr (cal:Cal) (k:Nat) (m1:Nat):KR:=(cutK (Lv.b (Lv.a (Lv.a (Lv.b (Lv.a (Lv.a (Lv.b (Lv.a (Lv.b (Lv.b (Lv.b (Lv.b (A 63))))))))))))).c (az P cal (ax P cal m1) none 63 (cR (cR (cL (cL (cR (cL (cL (cR (cL (cR (cR (cR (cR dJ))))))))))))) (Lv.b (Lv.b (Lv.a (Lv.a (Lv.b (Lv.a (Lv.a (Lv.b (Lv.a (Lv.b (Lv.b (Lv.b (Lv.b (A 63)))))))))))))) (wK cal k m1) (yY cal k m1) (aw P bk)))
noncomputable def K63_prrrrlrllrllrrl (cal:Cal) (k:Nat) (m1:Nat):KR:=(cutK (Lv.a (Lv.b (Lv.b (Lv.a (Lv.a (Lv.b (Lv.a (Lv.a (Lv.b (Lv.a (Lv.b (Lv.b (Lv.b (Lv.b (A 63))))))))))))))).c (az P cal (ax P cal m1) none 63 (cR (cL (cR (cR (cL (cL (cR (cL (cL (cR (cL (cR (cR (cR (cR dJ))))))))))))))) (Lv.b (Lv.a (Lv.b (Lv.b (Lv.a (Lv.a (Lv.b (Lv.a (Lv.a (Lv.b (Lv.a (Lv.b (Lv.b (Lv.b (Lv.b (A 63)))))))))))))))) (wK cal k m1) (yY cal k m1) (aw P bk)))
noncomputable def HZ (cal:Cal) (k:Nat):KR:=(cutK (Lv.b (Lv.b (Lv.b (Lv.b (Lv.b (A 63)))))).c (az P cal (ax P cal k) none 63 (cR (cR (cR (cR (cR (cR dJ)))))) (Lv.b (Lv.b (Lv.b (Lv.b (Lv.b (Lv.b (A 63))))))) (aw P bk) X0 (aw P bk)))
noncomputable def K63_prrrrrl (cal:Cal) (k:Nat):KR:=(cutK (Lv.a (Lv.b (Lv.b (Lv.b (Lv.b (Lv.b (A 63))))))).c (az P cal (ax P cal k) none 63 (cR (cL (cR (cR (cR (cR (cR dJ))))))) (Lv.b (Lv.a (Lv.b (Lv.b (Lv.b (Lv.b (Lv.b (A 63)))))))) (HZ cal k) X0 (aw P bk)))
noncomputable def oY (cal:Cal) (k:Nat):XR:=(upX 4 (HZ cal k) X0)
noncomputable def Ez (cal:Cal) (k:Nat) (m1:Nat):KR:=(fun T H n D=>ax P cal m1 (Lv.a (Lv.b (Lv.a (Lv.b (Lv.b (Lv.b (Lv.b (Lv.b (A 63))))))))) none 63 (cL (cR (cL (cR (cR (cR (cR (cR dJ)))))))) (HZ cal k) (oY cal k) (aw P bk) (cutT (Lv.a (Lv.b (Lv.a (Lv.b (Lv.b (Lv.b (Lv.b (Lv.b (A 63))))))))).c T) H n D)
noncomputable def K63_prrrrrlrll (cal:Cal) (k:Nat) (m1:Nat):KR:=(cutK (Lv.a (Lv.a (Lv.b (Lv.a (Lv.b (Lv.b (Lv.b (Lv.b (Lv.b (A 63)))))))))).c (az P cal (ax P cal m1) none 63 (cR (cL (cL (cR (cL (cR (cR (cR (cR (cR dJ)))))))))) (Lv.b (Lv.a (Lv.a (Lv.b (Lv.a (Lv.b (Lv.b (Lv.b (Lv.b (Lv.b (A 63))))))))))) (Ez cal k m1) (oY cal k) (aw P bk)))
noncomputable def K63_prrrrrlrlll (cal:Cal) (k:Nat) (m1:Nat):KR:=(cutK (Lv.a (Lv.a (Lv.a (Lv.b (Lv.a (Lv.b (Lv.b (Lv.b (Lv.b (Lv.b (A 63))))))))))).c (az P cal (ax P cal m1) none 63 (cR (cL (cL (cL (cR (cL (cR (cR (cR (cR (cR dJ))))))))))) (Lv.b (Lv.a (Lv.a (Lv.a (Lv.b (Lv.a (Lv.b (Lv.b (Lv.b (Lv.b (Lv.b (A 63)))))))))))) (K63_prrrrrlrll cal k m1) (oY cal k) (aw P bk)))
noncomputable def mj (cal:Cal) (k:Nat) (m1:Nat):KR:=(cutK (Lv.b (Lv.a (Lv.a (Lv.b (Lv.a (Lv.b (Lv.b (Lv.b (Lv.b (Lv.b (A 63))))))))))).c (az P cal (ax P cal m1) none 63 (cR (cR (cL (cL (cR (cL (cR (cR (cR (cR (cR dJ))))))))))) (Lv.b (Lv.b (Lv.a (Lv.a (Lv.b (Lv.a (Lv.b (Lv.b (Lv.b (Lv.b (Lv.b (A 63)))))))))))) (Ez cal k m1) (oY cal k) (aw P bk)))
noncomputable def lY (cal:Cal) (k:Nat) (m1:Nat):XR:=(upX 5 (mj cal k m1) (oY cal k))
noncomputable def K63_prrrrrlrllrll (cal:Cal) (k:Nat) (m1:Nat):KR:=(cutK (Lv.a (Lv.a (Lv.b (Lv.a (Lv.a (Lv.b (Lv.a (Lv.b (Lv.b (Lv.b (Lv.b (Lv.b (A 63))))))))))))).c (az P cal (ax P cal m1) none 63 (cR (cL (cL (cR (cL (cL (cR (cL (cR (cR (cR (cR (cR dJ))))))))))))) (Lv.b (Lv.a (Lv.a (Lv.b (Lv.a (Lv.a (Lv.b (Lv.a (Lv.b (Lv.b (Lv.b (Lv.b (Lv.b (A 63)))))))))))))) (mj cal k m1) (lY cal k m1) (aw P bk)))
noncomputable def K63_prrrrrlrllrllr (cal:Cal) (k:Nat) (m1:Nat):KR:=(cutK (Lv.b (Lv.a (Lv.a (Lv.b (Lv.a (Lv.a (Lv.b (Lv.a (Lv.b (Lv.b (Lv.b (Lv.b (Lv.b (A 63)))))))))))))).c (az P cal (ax P cal m1) none 63 (cR (cR (cL (cL (cR (cL (cL (cR (cL (cR (cR (cR (cR (cR dJ)))))))))))))) (Lv.b (Lv.b (Lv.a (Lv.a (Lv.b (Lv.a (Lv.a (Lv.b (Lv.a (Lv.b (Lv.b (Lv.b (Lv.b (Lv.b (A 63))))))))))))))) (mj cal k m1) (lY cal k m1) (aw P bk)))
noncomputable def K63_prrrrrlrllrllrl (cal:Cal) (k:Nat) (m1:Nat):KR:=(cutK (Lv.a (Lv.b (Lv.a (Lv.a (Lv.b (Lv.a (Lv.a (Lv.b (Lv.a (Lv.b (Lv.b (Lv.b (Lv.b (Lv.b (A 63))))))))))))))).c (az P cal (ax P cal m1) none 63 (cR (cL (cR (cL (cL (cR (cL (cL (cR (cL (cR (cR (cR (cR (cR dJ))))))))))))))) (Lv.b (Lv.a (Lv.b (Lv.a (Lv.a (Lv.b (Lv.a (Lv.a (Lv.b (Lv.a (Lv.b (Lv.b (Lv.b (Lv.b (Lv.b (A 63)))))))))))))))) (K63_prrrrrlrllrllr cal k m1) (lY cal k m1) (aw P bk)))
noncomputable def K63_prrrrrlrllrllrlrl (cal:Cal) (k:Nat) (m1:Nat):KR:=(cutK (Lv.a (Lv.b (Lv.a (Lv.b (Lv.a (Lv.a (Lv.b (Lv.a (Lv.a (Lv.b (Lv.a (Lv.b (Lv.b (Lv.b (Lv.b (Lv.b (A 63))))))))))))))))).c (az P cal (ax P cal m1) none 63 (cR (cL (cR (cL (cR (cL (cL (cR (cL (cL (cR (cL (cR (cR (cR (cR (cR dJ))))))))))))))))) (Lv.b (Lv.a (Lv.b (Lv.a (Lv.b (Lv.a (Lv.a (Lv.b (Lv.a (Lv.a (Lv.b (Lv.a (Lv.b (Lv.b (Lv.b (Lv.b (Lv.b (A 63)))))))))))))))))) (K63_prrrrrlrllrllr cal k m1) (lY cal k m1) (aw P bk)))
noncomputable def K63_prrrrrlrllrllrr (cal:Cal) (k:Nat) (m1:Nat):KR:=(cutK (Lv.b (Lv.b (Lv.a (Lv.a (Lv.b (Lv.a (Lv.a (Lv.b (Lv.a (Lv.b (Lv.b (Lv.b (Lv.b (Lv.b (A 63))))))))))))))).c (az P cal (ax P cal m1) none 63 (cR (cR (cR (cL (cL (cR (cL (cL (cR (cL (cR (cR (cR (cR (cR dJ))))))))))))))) (Lv.b (Lv.b (Lv.b (Lv.a (Lv.a (Lv.b (Lv.a (Lv.a (Lv.b (Lv.a (Lv.b (Lv.b (Lv.b (Lv.b (Lv.b (A 63)))))))))))))))) (mj cal k m1) (lY cal k m1) (aw P bk)))
noncomputable def gz (cal:Cal) (k:Nat) (m1:Nat):XR:=(upX 6 (mj cal k m1) (lY cal k m1))
noncomputable def qJ (cal:Cal) (k:Nat) (m1:Nat) (m2:Nat):KR:=(fun T H n D=>ax P cal m2 (Lv.a (Lv.b (Lv.b (Lv.b (Lv.a (Lv.a (Lv.b (Lv.a (Lv.a (Lv.b (Lv.a (Lv.b (Lv.b (Lv.b (Lv.b (Lv.b (A 63))))))))))))))))) none 63 (cL (cR (cR (cR (cL (cL (cR (cL (cL (cR (cL (cR (cR (cR (cR (cR dJ)))))))))))))))) (mj cal k m1) (gz cal k m1) (aw P bk) (cutT (Lv.a (Lv.b (Lv.b (Lv.b (Lv.a (Lv.a (Lv.b (Lv.a (Lv.a (Lv.b (Lv.a (Lv.b (Lv.b (Lv.b (Lv.b (Lv.b (A 63))))))))))))))))).c T) H n D)
noncomputable def K63_prrrrrlrllrllrrrll (cal:Cal) (k:Nat) (m1:Nat) (m2:Nat):KR:=(cutK (Lv.a (Lv.a (Lv.b (Lv.b (Lv.b (Lv.a (Lv.a (Lv.b (Lv.a (Lv.a (Lv.b (Lv.a (Lv.b (Lv.b (Lv.b (Lv.b (Lv.b (A 63)))))))))))))))))).c (az P cal (ax P cal m2) none 63 (cR (cL (cL (cR (cR (cR (cL (cL (cR (cL (cL (cR (cL (cR (cR (cR (cR (cR dJ)))))))))))))))))) (Lv.b (Lv.a (Lv.a (Lv.b (Lv.b (Lv.b (Lv.a (Lv.a (Lv.b (Lv.a (Lv.a (Lv.b (Lv.a (Lv.b (Lv.b (Lv.b (Lv.b (Lv.b (A 63))))))))))))))))))) (qJ cal k m1 m2) (gz cal k m1) (aw P bk)))
noncomputable def K63_prrrrrlrllrllrrrlll (cal:Cal) (k:Nat) (m1:Nat) (m2:Nat):KR:=(cutK (Lv.a (Lv.a (Lv.a (Lv.b (Lv.b (Lv.b (Lv.a (Lv.a (Lv.b (Lv.a (Lv.a (Lv.b (Lv.a (Lv.b (Lv.b (Lv.b (Lv.b (Lv.b (A 63))))))))))))))))))).c (az P cal (ax P cal m2) none 63 (cR (cL (cL (cL (cR (cR (cR (cL (cL (cR (cL (cL (cR (cL (cR (cR (cR (cR (cR dJ))))))))))))))))))) (Lv.b (Lv.a (Lv.a (Lv.a (Lv.b (Lv.b (Lv.b (Lv.a (Lv.a (Lv.b (Lv.a (Lv.a (Lv.b (Lv.a (Lv.b (Lv.b (Lv.b (Lv.b (Lv.b (A 63)))))))))))))))))))) (K63_prrrrrlrllrllrrrll cal k m1 m2) (gz cal k m1) (aw P bk)))
noncomputable def lK (cal:Cal) (k:Nat) (m1:Nat) (m2:Nat):KR:=(cutK (Lv.b (Lv.a (Lv.a (Lv.b (Lv.b (Lv.b (Lv.a (Lv.a (Lv.b (Lv.a (Lv.a (Lv.b (Lv.a (Lv.b (Lv.b (Lv.b (Lv.b (Lv.b (A 63))))))))))))))))))).c (az P cal (ax P cal m2) none 63 (cR (cR (cL (cL (cR (cR (cR (cL (cL (cR (cL (cL (cR (cL (cR (cR (cR (cR (cR dJ))))))))))))))))))) (Lv.b (Lv.b (Lv.a (Lv.a (Lv.b (Lv.b (Lv.b (Lv.a (Lv.a (Lv.b (Lv.a (Lv.a (Lv.b (Lv.a (Lv.b (Lv.b (Lv.b (Lv.b (Lv.b (A 63)))))))))))))))))))) (qJ cal k m1 m2) (gz cal k m1) (aw P bk)))
noncomputable def oq (cal:Cal) (k:Nat) (m1:Nat) (m2:Nat):XR:=(upX 7 (lK cal k m1 m2) (gz cal k m1))
noncomputable def K63_prrrrrlrllrllrrrllrll (cal:Cal) (k:Nat) (m1:Nat) (m2:Nat):KR:=(cutK (Lv.a (Lv.a (Lv.b (Lv.a (Lv.a (Lv.b (Lv.b (Lv.b (Lv.a (Lv.a (Lv.b (Lv.a (Lv.a (Lv.b (Lv.a (Lv.b (Lv.b (Lv.b (Lv.b (Lv.b (A 63))))))))))))))))))))).c (az P cal (ax P cal m2) none 63 (cR (cL (cL (cR (cL (cL (cR (cR (cR (cL (cL (cR (cL (cL (cR (cL (cR (cR (cR (cR (cR dJ))))))))))))))))))))) (Lv.b (Lv.a (Lv.a (Lv.b (Lv.a (Lv.a (Lv.b (Lv.b (Lv.b (Lv.a (Lv.a (Lv.b (Lv.a (Lv.a (Lv.b (Lv.a (Lv.b (Lv.b (Lv.b (Lv.b (Lv.b (A 63)))))))))))))))))))))) (lK cal k m1 m2) (oq cal k m1 m2) (aw P bk)))
noncomputable def K63_prrrrrlrllrllrrrllrllr (cal:Cal) (k:Nat) (m1:Nat) (m2:Nat):KR:=(cutK (Lv.b (Lv.a (Lv.a (Lv.b (Lv.a (Lv.a (Lv.b (Lv.b (Lv.b (Lv.a (Lv.a (Lv.b (Lv.a (Lv.a (Lv.b (Lv.a (Lv.b (Lv.b (Lv.b (Lv.b (Lv.b (A 63)))))))))))))))))))))).c (az P cal (ax P cal m2) none 63 (cR (cR (cL (cL (cR (cL (cL (cR (cR (cR (cL (cL (cR (cL (cL (cR (cL (cR (cR (cR (cR (cR dJ)))))))))))))))))))))) (Lv.b (Lv.b (Lv.a (Lv.a (Lv.b (Lv.a (Lv.a (Lv.b (Lv.b (Lv.b (Lv.a (Lv.a (Lv.b (Lv.a (Lv.a (Lv.b (Lv.a (Lv.b (Lv.b (Lv.b (Lv.b (Lv.b (A 63))))))))))))))))))))))) (lK cal k m1 m2) (oq cal k m1 m2) (aw P bk)))
noncomputable def K63_prrrrrlrllrllrrrllrllrrl (cal:Cal) (k:Nat) (m1:Nat) (m2:Nat):KR:=(cutK (Lv.a (Lv.b (Lv.b (Lv.a (Lv.a (Lv.b (Lv.a (Lv.a (Lv.b (Lv.b (Lv.b (Lv.a (Lv.a (Lv.b (Lv.a (Lv.a (Lv.b (Lv.a (Lv.b (Lv.b (Lv.b (Lv.b (Lv.b (A 63)))))))))))))))))))))))).c (az P cal (ax P cal m2) none 63 (cR (cL (cR (cR (cL (cL (cR (cL (cL (cR (cR (cR (cL (cL (cR (cL (cL (cR (cL (cR (cR (cR (cR (cR dJ)))))))))))))))))))))))) (Lv.b (Lv.a (Lv.b (Lv.b (Lv.a (Lv.a (Lv.b (Lv.a (Lv.a (Lv.b (Lv.b (Lv.b (Lv.a (Lv.a (Lv.b (Lv.a (Lv.a (Lv.b (Lv.a (Lv.b (Lv.b (Lv.b (Lv.b (Lv.b (A 63))))))))))))))))))))))))) (lK cal k m1 m2) (oq cal k m1 m2) (aw P bk)))
noncomputable def K63_prrrrrr (cal:Cal) (k:Nat):KR:=(cutK (Lv.b (Lv.b (Lv.b (Lv.b (Lv.b (Lv.b (A 63))))))).c (az P cal (ax P cal k) none 63 (cR (cR (cR (cR (cR (cR (cR dJ))))))) (Lv.b (Lv.b (Lv.b (Lv.b (Lv.b (Lv.b (Lv.b (A 63)))))))) (aw P bk) X0 (aw P bk)))
noncomputable def E63_4 (cal:Cal) (k m1 m2:Nat):KR:=az P cal (ax P cal m2) none 63 (cL (cL (cR (cR (cR (cL (cL (cR (cL (cL (cR (cL (cR (cR (cR (cR (cR dJ))))))))))))))))) (Lv.a (Lv.a (Lv.b (Lv.b (Lv.b (Lv.a (Lv.a (Lv.b (Lv.a (Lv.a (Lv.b (Lv.a (Lv.b (Lv.b (Lv.b (Lv.b (Lv.b (A 63)))))))))))))))))) (qJ cal k m1 m2) (gz cal k m1) (aw P bk)
noncomputable def R63_4 (cal:Cal) (k m1 m2:Nat):V4:=fun u1 u6 u7 u8 H n=>ax P cal m2 (Lv.a (Lv.b (Lv.b (Lv.b (Lv.a (Lv.a (Lv.b (Lv.a (Lv.a (Lv.b (Lv.a (Lv.b (Lv.b (Lv.b (Lv.b (Lv.b (A 63))))))))))))))))) none 63 (cL (cR (cR (cR (cL (cL (cR (cL (cL (cR (cL (cR (cR (cR (cR (cR dJ)))))))))))))))) (mj cal k m1) (gz cal k m1) (aw P bk) (Tr.set (Tr.set (Tr.set (Tr.set Tr.nil 8 (some u8)) 7 (some u7)) 6 (some u6)) 1 (some u1)) H n []
noncomputable def E63_3 (cal:Cal) (k m1:Nat):KR:=az P cal (ax P cal m1) none 63 (cL (cL (cR (cL (cR (cR (cR (cR (cR dJ))))))))) (Lv.a (Lv.a (Lv.b (Lv.a (Lv.b (Lv.b (Lv.b (Lv.b (Lv.b (A 63)))))))))) (Ez cal k m1) (oY cal k) (aw P bk)
noncomputable def Oy (cal:Cal) (k m1:Nat):V2:=fun u1 u6 H n=>ax P cal m1 (Lv.a (Lv.b (Lv.a (Lv.b (Lv.b (Lv.b (Lv.b (Lv.b (A 63))))))))) none 63 (cL (cR (cL (cR (cR (cR (cR (cR dJ)))))))) (HZ cal k) (oY cal k) (aw P bk) (Tr.set (Tr.set Tr.nil 6 (some u6)) 1 (some u1)) H n []
noncomputable def E63_2 (cal:Cal) (k m1:Nat):KR:=az P cal (ax P cal m1) none 63 (cL (cL (cR (cL (cR (cR (cR (cR dJ)))))))) (Lv.a (Lv.a (Lv.b (Lv.a (Lv.b (Lv.b (Lv.b (Lv.b (A 63))))))))) (HY cal k m1) (qw cal k) (aw P bk)
noncomputable def R63_2 (cal:Cal) (k m1:Nat):V2:=fun u1 u4 H n=>ax P cal m1 (Lv.a (Lv.b (Lv.a (Lv.b (Lv.b (Lv.b (Lv.b (A 63)))))))) none 63 (cL (cR (cL (cR (cR (cR (cR dJ))))))) (Nq cal k) (qw cal k) (aw P bk) (Tr.set (Tr.set Tr.nil 4 (some u4)) 1 (some u1)) H n []
noncomputable def E63_1 (cal:Cal) (k m1:Nat):KR:=az P cal (ax P cal m1) none 63 (cL (cL (cR (cL (cR (cR (cR dJ))))))) (Lv.a (Lv.a (Lv.b (Lv.a (Lv.b (Lv.b (Lv.b (A 63)))))))) (KY cal k m1) (rY cal k) (aw P bk)
noncomputable def R63_1 (cal:Cal) (k m1:Nat):V2:=fun u1 u3 H n=>ax P cal m1 (Lv.a (Lv.b (Lv.a (Lv.b (Lv.b (Lv.b (A 63))))))) none 63 (cL (cR (cL (cR (cR (cR dJ)))))) (RZ cal k) (rY cal k) (aw P bk) (Tr.set (Tr.set Tr.nil 3 (some u3)) 1 (some u1)) H n []
noncomputable def B63_4 (cal:Cal) (k m1 m2:Nat) (b3:V2) (b4:V4) (u1 u6 u7 u8:Value) (H:Hp) (n:Nat):Res:=
binK P .lss 3 (.tmp 130) (.tmp 131) u8 u6 fun v_9p=>
ifK v_9p (
aq (ay P 26 u1 1) fun v_9q=>
aq (aX v_9q) fun a_9s=>aq (ak P H 23 a_9s) fun v_9r=>
aq (aY P 23 v_9r u8) fun v_9u=>
aq (aX v_9u) fun a_9w=>aq (ak P H 104 a_9w) fun v_9v=>
cQ P 104 H n fun v_9x H_9y n_9z=>
aq (bx P 104 v_9x v_9v H_9y) fun H_a1=>
aq (aX v_9x) fun a_a3=>aq (ak P H_a1 104 a_a3) fun v_a2=>
aq (aX u7) fun a_a5=>aq (ak P H_a1 104 a_a5) fun v_a4=>
binK P .eql 104 (.tmp 140) (.tmp 141) v_a2 v_a4 fun v_a6=>
aV v_a6 false (fun k_a8=>
aq (ay P 104 v_9x 0) fun v_ac=>
k_a8 v_ac H_a1 n_9z) H_a1 n_9z fun v_a9 H_aa n_ab=>
aV v_a6 false (fun k_ad=>
aq (aX v_a9) fun a_ai=>aq (ak P H_aa 3 a_ai) fun v_ah=>
k_ad v_ah H_aa n_ab) H_aa n_ab fun v_ae H_af n_ag=>
aV v_a6 false (fun k_aj=>
aq (ay P 104 u7 1) fun v_an=>
k_aj v_an H_af n_ag) H_af n_ag fun v_ak H_al n_am=>
aV v_a6 false (fun k_ao=>
aq (aX v_ak) fun a_at=>aq (ak P H_al 3 a_at) fun v_as=>
k_ao v_as H_al n_am) H_al n_am fun v_ap H_aq n_ar=>
aV v_a6 false (fun k_au=>
binK P .eql 3 (.tmp 145) (.tmp 147) v_ae v_ap fun v_ay=>
k_au v_ay H_aq n_ar) H_aq n_ar fun v_av H_aw n_ax=>
aV v_a6 false (fun k_az=>
k_az v_av H_aw n_ax) H_aw n_ax fun v_b0 H_b1 n_b2=>
aV v_b0 true (fun k_b4=>
aq (ay P 104 v_9x 1) fun v_b8=>
k_b4 v_b8 H_b1 n_b2) H_b1 n_b2 fun v_b5 H_b6 n_b7=>
aV v_b0 true (fun k_b9=>
aq (aX v_b5) fun a_be=>aq (ak P H_b6 3 a_be) fun v_bd=>
k_b9 v_bd H_b6 n_b7) H_b6 n_b7 fun v_ba H_bb n_bc=>
aV v_b0 true (fun k_bf=>
aq (ay P 104 u7 0) fun v_bj=>
k_bf v_bj H_bb n_bc) H_bb n_bc fun v_bg H_bh n_bi=>
aV v_b0 true (fun k_bk=>
aq (aX v_bg) fun a_bp=>aq (ak P H_bh 3 a_bp) fun v_bo=>
k_bk v_bo H_bh n_bi) H_bh n_bi fun v_bl H_bm n_bn=>
aV v_b0 true (fun k_bq=>
binK P .eql 3 (.tmp 151) (.tmp 153) v_ba v_bl fun v_bu=>
k_bq v_bu H_bm n_bn) H_bm n_bn fun v_br H_bs n_bt=>
aV v_a6 false (fun k_bv=>
aq (dv v_b0 v_br (.bool false)) fun v_bz=>
k_bv v_bz H_bs n_bt) H_bs n_bt fun v_bw H_bx n_by=>
aq (dv v_a6 (.bool true) v_bw) fun v_c0=>
ifK v_c0 (
some ((.int .i64 1),H_bx,n_by)) (
binK P .add 3 (.tmp 133) (.const (.int .i64 1)) u8 (.int .i64 1) fun v_c3=>
b4 u1 u6 u7 v_c3 H_bx n_by)) (
binK P .add 3 (.tmp 98) (.const (.int .i64 1)) u6 (.int .i64 1) fun v_c6=>
b3 u1 v_c6 H n)
noncomputable def C63_4 (cal:Cal) (k m1 m2:Nat) (b3:V2) (b4:V4) (u1 u6 u7 u8:Value) (H:Hp) (n:Nat):Res:=B63_4 cal k m1 m2 b3 b4 u1 u6 u7 u8 H n
noncomputable def S63_4 (cal:Cal) (k m1:Nat) (b3:V2):Nat→V4:=fun m=>Nat.rec (motive:=fun _=>V4) (C63_4 cal k m1 0 b3 (fun _ _ _ _ _ _=>none)) (fun m ih=>C63_4 cal k m1 (m+1) b3 ih) m
theorem h63_4 (cal:Cal) (k m1 m2:Nat) (u1 u6 u7 u8:Value) (H:Hp) (n:Nat):labK (E63_4 cal k m1 m2) (Tr.set (Tr.set (Tr.set (Tr.set Tr.nil 8 (some u8)) 7 (some u7)) 6 (some u6)) 1 (some u1)) H n []=C63_4 cal k m1 m2 (Oy cal k m1) (R63_4 cal k m1 m2) u1 u6 u7 u8 H n:=by
 refine Eq.trans (b:=B63_4 cal k m1 m2 (Oy cal k m1) (R63_4 cal k m1 m2) u1 u6 u7 u8 H n) (by kernel_rfl) ?_
 rw[C63_4]
theorem q63_4 (cal:Cal) (k m1:Nat):∀(m:Nat) (u1 u6 u7 u8:Value) (H:Hp) (n:Nat),labK (E63_4 cal k m1 m) (Tr.set (Tr.set (Tr.set (Tr.set Tr.nil 8 (some u8)) 7 (some u7)) 6 (some u6)) 1 (some u1)) H n []=S63_4 cal k m1 (Oy cal k m1) m u1 u6 u7 u8 H n
 | 0,u1,u6,u7,u8,H,n=>by
  rw[h63_4]
  have e:R63_4 cal k m1 0=fun _ _ _ _ _ _=>none:=by funext u1 u6 u7 u8 H n; kernel_rfl
  rw[e]; rfl
 | m+1,u1,u6,u7,u8,H,n=>by
  rw[h63_4]
  have e:R63_4 cal k m1 (m+1)=S63_4 cal k m1 (Oy cal k m1) m:=by
   funext u1 u6 u7 u8 H n
   have e:R63_4 cal k m1 (m+1) u1 u6 u7 u8 H n=labK (E63_4 cal k m1 m) (Tr.set (Tr.set (Tr.set (Tr.set Tr.nil 8 (some u8)) 7 (some u7)) 6 (some u6)) 1 (some u1)) H n []:=by kernel_rfl
   rw[e]; exact q63_4 ..
  rw[e]; rfl
noncomputable def B63_3 (cal:Cal) (k m1:Nat) (j4:V4) (b3:V2) (u1 u6:Value) (H:Hp) (n:Nat):Res:=
aq (ay P 26 u1 1) fun v_6p=>
aq (aX v_6p) fun a_6r=>aq (ak P H 23 a_6r) fun v_6q=>
aq (lenV P 23 v_6q) fun v_6s=>
binK P .lss 3 (.tmp 93) (.tmp 96) u6 v_6s fun v_6t=>
ifK v_6t (
aq (ay P 26 u1 1) fun v_6u=>
aq (aX v_6u) fun a_6w=>aq (ak P H 23 a_6w) fun v_6v=>
aq (aY P 23 v_6v u6) fun v_6y=>
aq (aX v_6y) fun a_70=>aq (ak P H 104 a_70) fun v_6z=>
cQ P 104 H n fun v_71 H_72 n_73=>
aq (bx P 104 v_71 v_6z H_72) fun H_75=>
aq (ay P 104 v_71 0) fun v_76=>
aq (aX v_76) fun a_78=>aq (ak P H_75 3 a_78) fun v_77=>
aq (ay P 26 u1 0) fun v_79=>
aq (aX v_79) fun a_7b=>aq (ak P H_75 22 a_7b) fun v_7a=>
aq (lenV P 22 v_7a) fun v_7c=>
binK P .sub 3 (.tmp 109) (.const (.int .i64 1)) v_7c (.int .i64 1) fun v_7d=>
aW P cal 32 [v_77,(.int .i64 0),v_7d] H_75 n_73 fun v_7e H_7f n_7g=>
aq (cW P v_7e (Op.unary UnOp.not v_7e)) fun v_7h=>
aV v_7h false (fun k_7j=>
aq (ay P 104 v_71 1) fun v_7n=>
k_7j v_7n H_7f n_7g) H_7f n_7g fun v_7k H_7l n_7m=>
aV v_7h false (fun k_7o=>
aq (aX v_7k) fun a_7t=>aq (ak P H_7l 3 a_7t) fun v_7s=>
k_7o v_7s H_7l n_7m) H_7l n_7m fun v_7p H_7q n_7r=>
aV v_7h false (fun k_7u=>
aq (ay P 26 u1 0) fun v_7y=>
k_7u v_7y H_7q n_7r) H_7q n_7r fun v_7v H_7w n_7x=>
aV v_7h false (fun k_7z=>
aq (aX v_7v) fun a_84=>aq (ak P H_7w 22 a_84) fun v_83=>
k_7z v_83 H_7w n_7x) H_7w n_7x fun v_80 H_81 n_82=>
aV v_7h false (fun k_85=>
aq (lenV P 22 v_80) fun v_89=>
k_85 v_89 H_81 n_82) H_81 n_82 fun v_86 H_87 n_88=>
aV v_7h false (fun k_8a=>
binK P .sub 3 (.tmp 118) (.const (.int .i64 1)) v_86 (.int .i64 1) fun v_8e=>
k_8a v_8e H_87 n_88) H_87 n_88 fun v_8b H_8c n_8d=>
aV v_7h false (fun k_8f=>
aW P cal 32 [v_7p,(.int .i64 0),v_8b] H_8c n_8d fun v_8j H_8k n_8l=>
k_8f v_8j H_8k n_8l) H_8c n_8d fun v_8g H_8h n_8i=>
aV v_7h false (fun k_8m=>
aq (cW P v_8g (Op.unary UnOp.not v_8g)) fun v_8q=>
k_8m v_8q H_8h n_8i) H_8h n_8i fun v_8n H_8o n_8p=>
aq (dv v_7h (.bool true) v_8n) fun v_8r=>
aV v_8r false (fun k_8t=>
aq (ay P 104 v_71 0) fun v_8x=>
k_8t v_8x H_8o n_8p) H_8o n_8p fun v_8u H_8v n_8w=>
aV v_8r false (fun k_8y=>
aq (aX v_8u) fun a_93=>aq (ak P H_8v 3 a_93) fun v_92=>
k_8y v_92 H_8v n_8w) H_8v n_8w fun v_8z H_90 n_91=>
aV v_8r false (fun k_94=>
aq (ay P 104 v_71 1) fun v_98=>
k_94 v_98 H_90 n_91) H_90 n_91 fun v_95 H_96 n_97=>
aV v_8r false (fun k_99=>
aq (aX v_95) fun a_9e=>aq (ak P H_96 3 a_9e) fun v_9d=>
k_99 v_9d H_96 n_97) H_96 n_97 fun v_9a H_9b n_9c=>
aV v_8r false (fun k_9f=>
binK P .eql 3 (.tmp 125) (.tmp 127) v_8z v_9a fun v_9j=>
k_9f v_9j H_9b n_9c) H_9b n_9c fun v_9g H_9h n_9i=>
aq (dv v_8r (.bool true) v_9g) fun v_9k=>
ifK v_9k (
some ((.int .i64 1),H_9h,n_9i)) (
j4 u1 u6 v_71 (.int .i64 0) H_9h n_9i)) (
some ((.int .i64 0),H,n))
noncomputable def C63_3 (cal:Cal) (k m1:Nat) (b3:V2) (u1 u6:Value) (H:Hp) (n:Nat):Res:=B63_3 cal k m1 (S63_4 cal k m1 b3 m1) b3 u1 u6 H n
noncomputable def S63_3 (cal:Cal) (k:Nat):Nat→V2:=fun m=>Nat.rec (motive:=fun _=>V2) (C63_3 cal k 0 (fun _ _ _ _=>none)) (fun m ih=>C63_3 cal k (m+1) ih) m
theorem h63_3 (cal:Cal) (k m1:Nat) (u1 u6:Value) (H:Hp) (n:Nat):labK (E63_3 cal k m1) (Tr.set (Tr.set Tr.nil 6 (some u6)) 1 (some u1)) H n []=C63_3 cal k m1 (Oy cal k m1) u1 u6 H n:=by
 refine Eq.trans (b:=B63_3 cal k m1 (fun u1 u6 u7 u8 H n=>labK (E63_4 cal k m1 m1) (Tr.set (Tr.set (Tr.set (Tr.set Tr.nil 8 (some u8)) 7 (some u7)) 6 (some u6)) 1 (some u1)) H n []) (Oy cal k m1) u1 u6 H n) (by kernel_rfl) ?_
 rw[C63_3]
 have e4:(fun u1 u6 u7 u8 H n=>labK (E63_4 cal k m1 m1) (Tr.set (Tr.set (Tr.set (Tr.set Tr.nil 8 (some u8)) 7 (some u7)) 6 (some u6)) 1 (some u1)) H n [])=(S63_4 cal k m1 (Oy cal k m1) m1):=by funext u1 u6 u7 u8 H n; exact q63_4 ..
 rw[e4]
theorem q63_3 (cal:Cal) (k:Nat):∀(m:Nat) (u1 u6:Value) (H:Hp) (n:Nat),labK (E63_3 cal k m) (Tr.set (Tr.set Tr.nil 6 (some u6)) 1 (some u1)) H n []=S63_3 cal k m u1 u6 H n
 | 0,u1,u6,H,n=>by
  rw[h63_3]
  have e:Oy cal k 0=fun _ _ _ _=>none:=by funext u1 u6 H n; kernel_rfl
  rw[e]; rfl
 | m+1,u1,u6,H,n=>by
  rw[h63_3]
  have e:Oy cal k (m+1)=S63_3 cal k m:=by
   funext u1 u6 H n
   have e:Oy cal k (m+1) u1 u6 H n=labK (E63_3 cal k m) (Tr.set (Tr.set Tr.nil 6 (some u6)) 1 (some u1)) H n []:=by kernel_rfl
   rw[e]; exact q63_3 ..
  rw[e]; rfl
noncomputable def B63_2 (cal:Cal) (k m1:Nat) (j3:V2) (b2:V2) (u1 u4:Value) (H:Hp) (n:Nat):Res:=
aq (ay P 26 u1 2) fun v_3b=>
aq (aX v_3b) fun a_3d=>aq (ak P H 24 a_3d) fun v_3c=>
aq (lenV P 24 v_3c) fun v_3e=>
binK P .lss 3 (.tmp 57) (.tmp 60) u4 v_3e fun v_3f=>
ifK v_3f (
aq (ay P 26 u1 2) fun v_3g=>
aq (aX v_3g) fun a_3i=>aq (ak P H 24 a_3i) fun v_3h=>
aq (aY P 24 v_3h u4) fun v_3k=>
aq (aX v_3k) fun a_3m=>aq (ak P H 94 a_3m) fun v_3l=>
cQ P 94 H n fun v_3n H_3o n_3p=>
aq (bx P 94 v_3n v_3l H_3o) fun H_3r=>
aq (ay P 94 v_3n 0) fun v_3s=>
aq (aX v_3s) fun a_3u=>aq (ak P H_3r 3 a_3u) fun v_3t=>
aW P cal 32 [v_3t,(.int .i64 0),(.int .i64 1000)] H_3r n_3p fun v_3v H_3w n_3x=>
aq (cW P v_3v (Op.unary UnOp.not v_3v)) fun v_3y=>
aV v_3y false (fun k_40=>
aq (ay P 94 v_3n 1) fun v_44=>
k_40 v_44 H_3w n_3x) H_3w n_3x fun v_41 H_42 n_43=>
aV v_3y false (fun k_45=>
aq (ay P 55 v_41 0) fun v_49=>
k_45 v_49 H_42 n_43) H_42 n_43 fun v_46 H_47 n_48=>
aV v_3y false (fun k_4a=>
aq (aX v_46) fun a_4f=>aq (ak P H_47 3 a_4f) fun v_4e=>
k_4a v_4e H_47 n_48) H_47 n_48 fun v_4b H_4c n_4d=>
aV v_3y false (fun k_4g=>
aq (ay P 94 v_3n 1) fun v_4k=>
k_4g v_4k H_4c n_4d) H_4c n_4d fun v_4h H_4i n_4j=>
aV v_3y false (fun k_4l=>
aq (ay P 55 v_4h 1) fun v_4p=>
k_4l v_4p H_4i n_4j) H_4i n_4j fun v_4m H_4n n_4o=>
aV v_3y false (fun k_4q=>
aq (aX v_4m) fun a_4v=>aq (ak P H_4n 3 a_4v) fun v_4u=>
k_4q v_4u H_4n n_4o) H_4n n_4o fun v_4r H_4s n_4t=>
aV v_3y false (fun k_4w=>
aW P cal 100 [v_4b,v_4r] H_4s n_4t fun v_50 H_51 n_52=>
k_4w v_50 H_51 n_52) H_4s n_4t fun v_4x H_4y n_4z=>
aV v_3y false (fun k_53=>
aq (cW P v_4x (Op.unary UnOp.not v_4x)) fun v_57=>
k_53 v_57 H_4y n_4z) H_4y n_4z fun v_54 H_55 n_56=>
aq (dv v_3y (.bool true) v_54) fun v_58=>
aV v_58 false (fun k_5a=>
aq (ay P 94 v_3n 2) fun v_5e=>
k_5a v_5e H_55 n_56) H_55 n_56 fun v_5b H_5c n_5d=>
aV v_58 false (fun k_5f=>
aq (ay P 55 v_5b 0) fun v_5j=>
k_5f v_5j H_5c n_5d) H_5c n_5d fun v_5g H_5h n_5i=>
aV v_58 false (fun k_5k=>
aq (aX v_5g) fun a_5p=>aq (ak P H_5h 3 a_5p) fun v_5o=>
k_5k v_5o H_5h n_5i) H_5h n_5i fun v_5l H_5m n_5n=>
aV v_58 false (fun k_5q=>
aq (ay P 94 v_3n 2) fun v_5u=>
k_5q v_5u H_5m n_5n) H_5m n_5n fun v_5r H_5s n_5t=>
aV v_58 false (fun k_5v=>
aq (ay P 55 v_5r 1) fun v_5z=>
k_5v v_5z H_5s n_5t) H_5s n_5t fun v_5w H_5x n_5y=>
aV v_58 false (fun k_60=>
aq (aX v_5w) fun a_65=>aq (ak P H_5x 3 a_65) fun v_64=>
k_60 v_64 H_5x n_5y) H_5x n_5y fun v_61 H_62 n_63=>
aV v_58 false (fun k_66=>
aW P cal 100 [v_5l,v_61] H_62 n_63 fun v_6a H_6b n_6c=>
k_66 v_6a H_6b n_6c) H_62 n_63 fun v_67 H_68 n_69=>
aV v_58 false (fun k_6d=>
aq (cW P v_67 (Op.unary UnOp.not v_67)) fun v_6h=>
k_6d v_6h H_68 n_69) H_68 n_69 fun v_6e H_6f n_6g=>
aq (dv v_58 (.bool true) v_6e) fun v_6i=>
ifK v_6i (
some ((.int .i64 1),H_6f,n_6g)) (
binK P .add 3 (.tmp 62) (.const (.int .i64 1)) u4 (.int .i64 1) fun v_6l=>
b2 u1 v_6l H_6f n_6g)) (
j3 u1 (.int .i64 0) H n)
noncomputable def C63_2 (cal:Cal) (k m1:Nat) (b2:V2) (u1 u4:Value) (H:Hp) (n:Nat):Res:=B63_2 cal k m1 (S63_3 cal k k) b2 u1 u4 H n
noncomputable def S63_2 (cal:Cal) (k:Nat):Nat→V2:=fun m=>Nat.rec (motive:=fun _=>V2) (C63_2 cal k 0 (fun _ _ _ _=>none)) (fun m ih=>C63_2 cal k (m+1) ih) m
theorem h63_2 (cal:Cal) (k m1:Nat) (u1 u4:Value) (H:Hp) (n:Nat):labK (E63_2 cal k m1) (Tr.set (Tr.set Tr.nil 4 (some u4)) 1 (some u1)) H n []=C63_2 cal k m1 (R63_2 cal k m1) u1 u4 H n:=by
 refine Eq.trans (b:=B63_2 cal k m1 (fun u1 u6 H n=>labK (E63_3 cal k k) (Tr.set (Tr.set Tr.nil 6 (some u6)) 1 (some u1)) H n []) (R63_2 cal k m1) u1 u4 H n) (by kernel_rfl) ?_
 rw[C63_2]
 have e3:(fun u1 u6 H n=>labK (E63_3 cal k k) (Tr.set (Tr.set Tr.nil 6 (some u6)) 1 (some u1)) H n [])=(S63_3 cal k k):=by funext u1 u6 H n; exact q63_3 ..
 rw[e3]
theorem q63_2 (cal:Cal) (k:Nat):∀(m:Nat) (u1 u4:Value) (H:Hp) (n:Nat),labK (E63_2 cal k m) (Tr.set (Tr.set Tr.nil 4 (some u4)) 1 (some u1)) H n []=S63_2 cal k m u1 u4 H n
 | 0,u1,u4,H,n=>by
  rw[h63_2]
  have e:R63_2 cal k 0=fun _ _ _ _=>none:=by funext u1 u4 H n; kernel_rfl
  rw[e]; rfl
 | m+1,u1,u4,H,n=>by
  rw[h63_2]
  have e:R63_2 cal k (m+1)=S63_2 cal k m:=by
   funext u1 u4 H n
   have e:R63_2 cal k (m+1) u1 u4 H n=labK (E63_2 cal k m) (Tr.set (Tr.set Tr.nil 4 (some u4)) 1 (some u1)) H n []:=by kernel_rfl
   rw[e]; exact q63_2 ..
  rw[e]; rfl
noncomputable def B63_1 (cal:Cal) (k m1:Nat) (j2:V2) (b1:V2) (u1 u3:Value) (H:Hp) (n:Nat):Res:=
aq (ay P 26 u1 0) fun v_2g=>
aq (aX v_2g) fun a_2i=>aq (ak P H 22 a_2i) fun v_2h=>
aq (lenV P 22 v_2h) fun v_2j=>
binK P .lss 3 (.tmp 36) (.tmp 39) u3 v_2j fun v_2k=>
ifK v_2k (
aq (ay P 26 u1 0) fun v_2l=>
aq (aX v_2l) fun a_2m=>aq (ak P H 22 a_2m) fun v_2n=>
aq (aY P 22 v_2n u3) fun v_2p=>
aq (ay P 95 v_2p 0) fun v_2q=>
aq (aX v_2q) fun a_2r=>aq (ak P H 3 a_2r) fun v_2s=>
aq (ay P 26 u1 0) fun v_2t=>
aq (aX v_2t) fun a_2u=>aq (ak P H 22 a_2u) fun v_2v=>
aq (aY P 22 v_2v u3) fun v_2x=>
aq (ay P 95 v_2x 1) fun v_2y=>
aq (aX v_2y) fun a_2z=>aq (ak P H 3 a_2z) fun v_30=>
aW P cal 100 [v_2s,v_30] H n fun v_31 H_32 n_33=>
aq (cW P v_31 (Op.unary UnOp.not v_31)) fun v_34=>
ifK v_34 (
some ((.int .i64 1),H_32,n_33)) (
binK P .add 3 (.tmp 41) (.const (.int .i64 1)) u3 (.int .i64 1) fun v_37=>
b1 u1 v_37 H_32 n_33)) (
j2 u1 (.int .i64 0) H n)
noncomputable def C63_1 (cal:Cal) (k m1:Nat) (b1:V2) (u1 u3:Value) (H:Hp) (n:Nat):Res:=B63_1 cal k m1 (S63_2 cal k k) b1 u1 u3 H n
noncomputable def S63_1 (cal:Cal) (k:Nat):Nat→V2:=fun m=>Nat.rec (motive:=fun _=>V2) (C63_1 cal k 0 (fun _ _ _ _=>none)) (fun m ih=>C63_1 cal k (m+1) ih) m
theorem h63_1 (cal:Cal) (k m1:Nat) (u1 u3:Value) (H:Hp) (n:Nat):labK (E63_1 cal k m1) (Tr.set (Tr.set Tr.nil 3 (some u3)) 1 (some u1)) H n []=C63_1 cal k m1 (R63_1 cal k m1) u1 u3 H n:=by
 refine Eq.trans (b:=B63_1 cal k m1 (fun u1 u4 H n=>labK (E63_2 cal k k) (Tr.set (Tr.set Tr.nil 4 (some u4)) 1 (some u1)) H n []) (R63_1 cal k m1) u1 u3 H n) (by kernel_rfl) ?_
 rw[C63_1]
 have e2:(fun u1 u4 H n=>labK (E63_2 cal k k) (Tr.set (Tr.set Tr.nil 4 (some u4)) 1 (some u1)) H n [])=(S63_2 cal k k):=by funext u1 u4 H n; exact q63_2 ..
 rw[e2]
theorem q63_1 (cal:Cal) (k:Nat):∀(m:Nat) (u1 u3:Value) (H:Hp) (n:Nat),labK (E63_1 cal k m) (Tr.set (Tr.set Tr.nil 3 (some u3)) 1 (some u1)) H n []=S63_1 cal k m u1 u3 H n
 | 0,u1,u3,H,n=>by
  rw[h63_1]
  have e:R63_1 cal k 0=fun _ _ _ _=>none:=by funext u1 u3 H n; kernel_rfl
  rw[e]; rfl
 | m+1,u1,u3,H,n=>by
  rw[h63_1]
  have e:R63_1 cal k (m+1)=S63_1 cal k m:=by
   funext u1 u3 H n
   have e:R63_1 cal k (m+1) u1 u3 H n=labK (E63_1 cal k m) (Tr.set (Tr.set Tr.nil 3 (some u3)) 1 (some u1)) H n []:=by kernel_rfl
   rw[e]; exact q63_1 ..
  rw[e]; rfl
noncomputable def B63_0 (cal:Cal) (k:Nat) (j1:V2) (v0:Value) (H:Hp) (n:Nat):Res:=
boxK 26 v0 H n fun v_1 H_2 n_3=>
aq (ay P 26 v_1 0) fun v_5=>
aq (aX v_5) fun a_7=>aq (ak P H_2 22 a_7) fun v_6=>
aq (lenV P 22 v_6) fun v_8=>
binK P .gtr 3 (.tmp 12) (.const (.int .i64 8)) v_8 (.int .i64 8) fun v_9=>
aV v_9 false (fun k_b=>
aq (ay P 26 v_1 1) fun v_f=>
k_b v_f H_2 n_3) H_2 n_3 fun v_c H_d n_e=>
aV v_9 false (fun k_g=>
aq (aX v_c) fun a_l=>aq (ak P H_d 23 a_l) fun v_k=>
k_g v_k H_d n_e) H_d n_e fun v_h H_i n_j=>
aV v_9 false (fun k_m=>
aq (lenV P 23 v_h) fun v_q=>
k_m v_q H_i n_j) H_i n_j fun v_n H_o n_p=>
aV v_9 false (fun k_r=>
binK P .gtr 3 (.tmp 17) (.const (.int .i64 16)) v_n (.int .i64 16) fun v_v=>
k_r v_v H_o n_p) H_o n_p fun v_s H_t n_u=>
aq (dv v_9 (.bool true) v_s) fun v_w=>
aV v_w false (fun k_y=>
aq (ay P 26 v_1 2) fun v_12=>
k_y v_12 H_t n_u) H_t n_u fun v_z H_10 n_11=>
aV v_w false (fun k_13=>
aq (aX v_z) fun a_18=>aq (ak P H_10 24 a_18) fun v_17=>
k_13 v_17 H_10 n_11) H_10 n_11 fun v_14 H_15 n_16=>
aV v_w false (fun k_19=>
aq (lenV P 24 v_14) fun v_1d=>
k_19 v_1d H_15 n_16) H_15 n_16 fun v_1a H_1b n_1c=>
aV v_w false (fun k_1e=>
binK P .gtr 3 (.tmp 23) (.const (.int .i64 3)) v_1a (.int .i64 3) fun v_1i=>
k_1e v_1i H_1b n_1c) H_1b n_1c fun v_1f H_1g n_1h=>
aq (dv v_w (.bool true) v_1f) fun v_1j=>
ifK v_1j (
some ((.int .i64 3),H_1g,n_1h)) (
aq (ay P 26 v_1 0) fun v_1l=>
aq (aX v_1l) fun a_1n=>aq (ak P H_1g 22 a_1n) fun v_1m=>
aq (lenV P 22 v_1m) fun v_1o=>
binK P .eql 3 (.tmp 28) (.const (.int .i64 0)) v_1o (.int .i64 0) fun v_1p=>
aV v_1p false (fun k_1r=>
aq (ay P 26 v_1 2) fun v_1v=>
k_1r v_1v H_1g n_1h) H_1g n_1h fun v_1s H_1t n_1u=>
aV v_1p false (fun k_1w=>
aq (aX v_1s) fun a_21=>aq (ak P H_1t 24 a_21) fun v_20=>
k_1w v_20 H_1t n_1u) H_1t n_1u fun v_1x H_1y n_1z=>
aV v_1p false (fun k_22=>
aq (lenV P 24 v_1x) fun v_26=>
k_22 v_26 H_1y n_1z) H_1y n_1z fun v_23 H_24 n_25=>
aV v_1p false (fun k_27=>
binK P .eql 3 (.tmp 33) (.const (.int .i64 0)) v_23 (.int .i64 0) fun v_2b=>
k_27 v_2b H_24 n_25) H_24 n_25 fun v_28 H_29 n_2a=>
aq (dv v_1p (.bool true) v_28) fun v_2c=>
ifK v_2c (
some ((.int .i64 1),H_29,n_2a)) (
j1 v_1 (.int .i64 0) H_29 n_2a))
noncomputable def C63_0 (cal:Cal) (k:Nat) (v0:Value) (H:Hp) (n:Nat):Res:=B63_0 cal k (S63_1 cal k k) v0 H n
theorem h63_0 (cal:Cal) (k:Nat) (v0:Value) (H:Hp) (n:Nat):aK P cal A (k+1) 63 [v0] H n=C63_0 cal k v0 H n:=by
 have h:aK P cal A (k+1) 63 [v0] H n=B63_0 cal k (fun u1 u3 H n=>labK (E63_1 cal k k) (Tr.set (Tr.set Tr.nil 3 (some u3)) 1 (some u1)) H n []) v0 H n:=by
  rw[bQ (fn:=Go.Proofs.Try.f63) (c:=dJ) (rs:=bk) (by kernel_rfl) (by kernel_rfl) (by kernel_rfl) (by kernel_rfl)]
  kernel_rfl
 rw[h,C63_0]
 have e1:(fun u1 u3 H n=>labK (E63_1 cal k k) (Tr.set (Tr.set Tr.nil 3 (some u3)) 1 (some u1)) H n [])=(S63_1 cal k k):=by funext u1 u3 H n; exact q63_1 ..
 rw[e1]
noncomputable def tz:Code:=cw 64
noncomputable def fK:List ResultVar:=dk 64
noncomputable def K64_p (cal:Cal) (k:Nat):KR:=(cutK (A 64).c (az P cal (ax P cal k) none 64 (cR tz) (Lv.b (A 64)) (aw P fK) X0 (aw P fK)))
noncomputable def K64_pr (cal:Cal) (k:Nat):KR:=(cutK (Lv.b (A 64)).c (az P cal (ax P cal k) none 64 (cR (cR tz)) (Lv.b (Lv.b (A 64))) (aw P fK) X0 (aw P fK)))
noncomputable def YW (cal:Cal) (k:Nat):KR:=(cutK (Lv.b (Lv.b (A 64))).c (az P cal (ax P cal k) none 64 (cR (cR (cR tz))) (Lv.b (Lv.b (Lv.b (A 64)))) (aw P fK) X0 (aw P fK)))
noncomputable def K64_prrl (cal:Cal) (k:Nat):KR:=(cutK (Lv.a (Lv.b (Lv.b (A 64)))).c (az P cal (ax P cal k) none 64 (cR (cL (cR (cR tz)))) (Lv.b (Lv.a (Lv.b (Lv.b (A 64))))) (YW cal k) X0 (aw P fK)))
noncomputable def rZ (cal:Cal) (k:Nat):XR:=(upX 0 (YW cal k) X0)
noncomputable def HK (cal:Cal) (k:Nat) (m1:Nat):KR:=(fun T H n D=>ax P cal m1 (Lv.a (Lv.b (Lv.a (Lv.b (Lv.b (A 64)))))) none 64 (cL (cR (cL (cR (cR tz))))) (YW cal k) (rZ cal k) (aw P fK) (cutT (Lv.a (Lv.b (Lv.a (Lv.b (Lv.b (A 64)))))).c T) H n D)
noncomputable def K64_prrlrll (cal:Cal) (k:Nat) (m1:Nat):KR:=(cutK (Lv.a (Lv.a (Lv.b (Lv.a (Lv.b (Lv.b (A 64))))))).c (az P cal (ax P cal m1) none 64 (cR (cL (cL (cR (cL (cR (cR tz))))))) (Lv.b (Lv.a (Lv.a (Lv.b (Lv.a (Lv.b (Lv.b (A 64)))))))) (HK cal k m1) (rZ cal k) (aw P fK)))
noncomputable def K64_prrlrlll (cal:Cal) (k:Nat) (m1:Nat):KR:=(cutK (Lv.a (Lv.a (Lv.a (Lv.b (Lv.a (Lv.b (Lv.b (A 64)))))))).c (az P cal (ax P cal m1) none 64 (cR (cL (cL (cL (cR (cL (cR (cR tz)))))))) (Lv.b (Lv.a (Lv.a (Lv.a (Lv.b (Lv.a (Lv.b (Lv.b (A 64))))))))) (K64_prrlrll cal k m1) (rZ cal k) (aw P fK)))
noncomputable def Ij (cal:Cal) (k:Nat) (m1:Nat):KR:=(cutK (Lv.b (Lv.a (Lv.a (Lv.b (Lv.a (Lv.b (Lv.b (A 64)))))))).c (az P cal (ax P cal m1) none 64 (cR (cR (cL (cL (cR (cL (cR (cR tz)))))))) (Lv.b (Lv.b (Lv.a (Lv.a (Lv.b (Lv.a (Lv.b (Lv.b (A 64))))))))) (HK cal k m1) (rZ cal k) (aw P fK)))
noncomputable def K64_pxrrlrllrl (cal:Cal) (k:Nat) (m1:Nat):XR:=(upX 1 (Ij cal k m1) (rZ cal k))
noncomputable def K64_prrlrllrll (cal:Cal) (k:Nat) (m1:Nat):KR:=(cutK (Lv.a (Lv.a (Lv.b (Lv.a (Lv.a (Lv.b (Lv.a (Lv.b (Lv.b (A 64)))))))))).c (az P cal (ax P cal m1) none 64 (cR (cL (cL (cR (cL (cL (cR (cL (cR (cR tz)))))))))) (Lv.b (Lv.a (Lv.a (Lv.b (Lv.a (Lv.a (Lv.b (Lv.a (Lv.b (Lv.b (A 64))))))))))) (Ij cal k m1) (K64_pxrrlrllrl cal k m1) (aw P fK)))
noncomputable def K64_prrlrllrllr (cal:Cal) (k:Nat) (m1:Nat):KR:=(cutK (Lv.b (Lv.a (Lv.a (Lv.b (Lv.a (Lv.a (Lv.b (Lv.a (Lv.b (Lv.b (A 64))))))))))).c (az P cal (ax P cal m1) none 64 (cR (cR (cL (cL (cR (cL (cL (cR (cL (cR (cR tz))))))))))) (Lv.b (Lv.b (Lv.a (Lv.a (Lv.b (Lv.a (Lv.a (Lv.b (Lv.a (Lv.b (Lv.b (A 64)))))))))))) (Ij cal k m1) (K64_pxrrlrllrl cal k m1) (aw P fK)))
noncomputable def K64_prrr (cal:Cal) (k:Nat):KR:=(cutK (Lv.b (Lv.b (Lv.b (A 64)))).c (az P cal (ax P cal k) none 64 (cR (cR (cR (cR tz)))) (Lv.b (Lv.b (Lv.b (Lv.b (A 64))))) (aw P fK) X0 (aw P fK)))
noncomputable def K64_prrrr (cal:Cal) (k:Nat):KR:=(cutK (Lv.b (Lv.b (Lv.b (Lv.b (A 64))))).c (az P cal (ax P cal k) none 64 (cR (cR (cR (cR (cR tz))))) (Lv.b (Lv.b (Lv.b (Lv.b (Lv.b (A 64)))))) (aw P fK) X0 (aw P fK)))
noncomputable def E64_2 (cal:Cal) (k m1:Nat):KR:=az P cal (ax P cal m1) none 64 (cR (cR (cL (cL (cR (cL (cR (cR tz)))))))) (Lv.b (Lv.b (Lv.a (Lv.a (Lv.b (Lv.a (Lv.b (Lv.b (A 64))))))))) (HK cal k m1) (rZ cal k) (aw P fK)
noncomputable def E64_1 (cal:Cal) (k m1:Nat):KR:=az P cal (ax P cal m1) none 64 (cL (cL (cR (cL (cR (cR tz)))))) (Lv.a (Lv.a (Lv.b (Lv.a (Lv.b (Lv.b (A 64))))))) (HK cal k m1) (rZ cal k) (aw P fK)
noncomputable def Xj (cal:Cal) (k m1:Nat):V8:=fun u1 u2 u3 u4 u5 u11 u12 u13 H n=>ax P cal m1 (Lv.a (Lv.b (Lv.a (Lv.b (Lv.b (A 64)))))) none 64 (cL (cR (cL (cR (cR tz))))) (YW cal k) (rZ cal k) (aw P fK) (Tr.set (Tr.set (Tr.set (Tr.set (Tr.set (Tr.set (Tr.set (Tr.set Tr.nil 13 (some u13)) 12 (some u12)) 11 (some u11)) 5 (some u5)) 4 (some u4)) 3 (some u3)) 2 (some u2)) 1 (some u1)) H n []
noncomputable def B64_2 (cal:Cal) (k m1:Nat) (b1:V8) (u1 u2 u3 u4 u5 u11 u12 u13:Value) (H:Hp) (n:Nat):Res:=
binK P .add 3 (.tmp 23) (.const (.int .i64 1)) u13 (.int .i64 1) fun v_h=>
b1 u1 u2 u3 u4 u5 u11 u12 v_h H n
noncomputable def C64_2 (cal:Cal) (k m1:Nat) (b1:V8) (u1 u2 u3 u4 u5 u11 u12 u13:Value) (H:Hp) (n:Nat):Res:=B64_2 cal k m1 b1 u1 u2 u3 u4 u5 u11 u12 u13 H n
theorem h64_2 (cal:Cal) (k m1:Nat) (u1 u2 u3 u4 u5 u11 u12 u13:Value) (H:Hp) (n:Nat):labK (E64_2 cal k m1) (Tr.set (Tr.set (Tr.set (Tr.set (Tr.set (Tr.set (Tr.set (Tr.set Tr.nil 13 (some u13)) 12 (some u12)) 11 (some u11)) 5 (some u5)) 4 (some u4)) 3 (some u3)) 2 (some u2)) 1 (some u1)) H n []=C64_2 cal k m1 (Xj cal k m1) u1 u2 u3 u4 u5 u11 u12 u13 H n:=by
 refine Eq.trans (b:=B64_2 cal k m1 (Xj cal k m1) u1 u2 u3 u4 u5 u11 u12 u13 H n) (by kernel_rfl) ?_
 rw[C64_2]
noncomputable def B64_1 (cal:Cal) (k m1:Nat) (j2:V8) (b1:V8) (u1 u2 u3 u4 u5 u11 u12 u13:Value) (H:Hp) (n:Nat):Res:=
aq (ay P 26 u5 0) fun v_b=>
aq (aX v_b) fun a_d=>aq (ak P H 22 a_d) fun v_c=>
aq (lenV P 22 v_c) fun v_e=>
binK P .lss 3 (.tmp 18) (.tmp 21) u13 v_e fun v_f=>
ifK v_f (
aq (aX u5) fun a_k=>aq (ak P H 26 a_k) fun v_j=>
aW P cal 77 [v_j,u1,u2,u13] H n fun v_o H_p n_q=>
cQ P 55 H_p n_q fun v_r H_s n_t=>
aq (bx P 55 v_r v_o H_s) fun H_v=>
binK P .neq 3 (.tmp 30) (.tmp 31) u13 u3 fun v_y=>
ifK v_y (
aq (ay P 55 v_r 0) fun v_10=>
aq (aX v_10) fun a_11=>aq (ak P H_v 3 a_11) fun v_12=>
binK P .add 3 (.tmp 33) (.tmp 35) u11 v_12 fun v_13=>
aq (ay P 55 v_r 1) fun v_15=>
aq (aX v_15) fun a_16=>aq (ak P H_v 3 a_16) fun v_17=>
binK P .add 3 (.tmp 37) (.tmp 39) u12 v_17 fun v_18=>
j2 u1 u2 u3 u4 u5 v_13 v_18 u13 H_v n_t) (
j2 u1 u2 u3 u4 u5 u11 u12 u13 H_v n_t)) (
aq (aX u5) fun a_1c=>aq (ak P H 26 a_1c) fun v_1b=>
aW P cal 77 [v_1b,u1,u2,u3] H n fun v_1g H_1h n_1i=>
cQ P 55 H_1h n_1i fun v_1j H_1k n_1l=>
aq (bx P 55 v_1j v_1g H_1k) fun H_1n=>
aq (ay P 55 v_1j 0) fun v_1p=>
aq (aX v_1p) fun a_1r=>aq (ak P H_1n 3 a_1r) fun v_1q=>
aq (ay P 55 v_1j 1) fun v_1s=>
aq (aX v_1s) fun a_1u=>aq (ak P H_1n 3 a_1u) fun v_1t=>
aW P cal 32 [u4,v_1q,v_1t] H_1n n_1l fun v_1v H_1w n_1x=>
aV v_1v true (fun k_1z=>
aq (ay P 26 u5 2) fun v_23=>
k_1z v_23 H_1w n_1x) H_1w n_1x fun v_20 H_21 n_22=>
aV v_1v true (fun k_24=>
aq (aX v_20) fun a_29=>aq (ak P H_21 24 a_29) fun v_28=>
k_24 v_28 H_21 n_22) H_21 n_22 fun v_25 H_26 n_27=>
aV v_1v true (fun k_2a=>
k_2a u1 H_26 n_27) H_26 n_27 fun v_2b H_2c n_2d=>
aV v_1v true (fun k_2f=>
aq (aY P 24 v_25 v_2b) fun v_2j=>
k_2f v_2j H_2c n_2d) H_2c n_2d fun v_2g H_2h n_2i=>
aV v_1v true (fun k_2k=>
aq (ay P 94 v_2g 0) fun v_2o=>
k_2k v_2o H_2h n_2i) H_2h n_2i fun v_2l H_2m n_2n=>
aV v_1v true (fun k_2p=>
aq (aX v_2l) fun a_2u=>aq (ak P H_2m 3 a_2u) fun v_2t=>
k_2p v_2t H_2m n_2n) H_2m n_2n fun v_2q H_2r n_2s=>
aV v_1v true (fun k_2v=>
k_2v u11 H_2r n_2s) H_2r n_2s fun v_2w H_2x n_2y=>
aV v_1v true (fun k_30=>
k_30 u12 H_2x n_2y) H_2x n_2y fun v_31 H_32 n_33=>
aV v_1v true (fun k_35=>
aW P cal 32 [v_2q,v_2w,v_31] H_32 n_33 fun v_39 H_3a n_3b=>
k_35 v_39 H_3a n_3b) H_32 n_33 fun v_36 H_37 n_38=>
aq (dv v_1v v_36 (.bool false)) fun v_3c=>
some (v_3c,H_37,n_38))
noncomputable def C64_1 (cal:Cal) (k m1:Nat) (b1:V8) (u1 u2 u3 u4 u5 u11 u12 u13:Value) (H:Hp) (n:Nat):Res:=B64_1 cal k m1 (C64_2 cal k m1 b1) b1 u1 u2 u3 u4 u5 u11 u12 u13 H n
noncomputable def S64_1 (cal:Cal) (k:Nat):Nat→V8:=fun m=>Nat.rec (motive:=fun _=>V8) (C64_1 cal k 0 (fun _ _ _ _ _ _ _ _ _ _=>none)) (fun m ih=>C64_1 cal k (m+1) ih) m
theorem h64_1 (cal:Cal) (k m1:Nat) (u1 u2 u3 u4 u5 u11 u12 u13:Value) (H:Hp) (n:Nat):labK (E64_1 cal k m1) (Tr.set (Tr.set (Tr.set (Tr.set (Tr.set (Tr.set (Tr.set (Tr.set Tr.nil 13 (some u13)) 12 (some u12)) 11 (some u11)) 5 (some u5)) 4 (some u4)) 3 (some u3)) 2 (some u2)) 1 (some u1)) H n []=C64_1 cal k m1 (Xj cal k m1) u1 u2 u3 u4 u5 u11 u12 u13 H n:=by
 refine Eq.trans (b:=B64_1 cal k m1 (fun u1 u2 u3 u4 u5 u11 u12 u13 H n=>labK (E64_2 cal k m1) (Tr.set (Tr.set (Tr.set (Tr.set (Tr.set (Tr.set (Tr.set (Tr.set Tr.nil 13 (some u13)) 12 (some u12)) 11 (some u11)) 5 (some u5)) 4 (some u4)) 3 (some u3)) 2 (some u2)) 1 (some u1)) H n []) (Xj cal k m1) u1 u2 u3 u4 u5 u11 u12 u13 H n) (by kernel_rfl) ?_
 rw[C64_1]
 have e2:(fun u1 u2 u3 u4 u5 u11 u12 u13 H n=>labK (E64_2 cal k m1) (Tr.set (Tr.set (Tr.set (Tr.set (Tr.set (Tr.set (Tr.set (Tr.set Tr.nil 13 (some u13)) 12 (some u12)) 11 (some u11)) 5 (some u5)) 4 (some u4)) 3 (some u3)) 2 (some u2)) 1 (some u1)) H n [])=(C64_2 cal k m1 (Xj cal k m1)):=by funext u1 u2 u3 u4 u5 u11 u12 u13 H n; exact h64_2 ..
 rw[e2]
theorem q64_1 (cal:Cal) (k:Nat):∀(m:Nat) (u1 u2 u3 u4 u5 u11 u12 u13:Value) (H:Hp) (n:Nat),labK (E64_1 cal k m) (Tr.set (Tr.set (Tr.set (Tr.set (Tr.set (Tr.set (Tr.set (Tr.set Tr.nil 13 (some u13)) 12 (some u12)) 11 (some u11)) 5 (some u5)) 4 (some u4)) 3 (some u3)) 2 (some u2)) 1 (some u1)) H n []=S64_1 cal k m u1 u2 u3 u4 u5 u11 u12 u13 H n
 | 0,u1,u2,u3,u4,u5,u11,u12,u13,H,n=>by
  rw[h64_1]
  have e:Xj cal k 0=fun _ _ _ _ _ _ _ _ _ _=>none:=by funext u1 u2 u3 u4 u5 u11 u12 u13 H n; kernel_rfl
  rw[e]; rfl
 | m+1,u1,u2,u3,u4,u5,u11,u12,u13,H,n=>by
  rw[h64_1]
  have e:Xj cal k (m+1)=S64_1 cal k m:=by
   funext u1 u2 u3 u4 u5 u11 u12 u13 H n
   have e:Xj cal k (m+1) u1 u2 u3 u4 u5 u11 u12 u13 H n=labK (E64_1 cal k m) (Tr.set (Tr.set (Tr.set (Tr.set (Tr.set (Tr.set (Tr.set (Tr.set Tr.nil 13 (some u13)) 12 (some u12)) 11 (some u11)) 5 (some u5)) 4 (some u4)) 3 (some u3)) 2 (some u2)) 1 (some u1)) H n []:=by kernel_rfl
   rw[e]; exact q64_1 ..
  rw[e]; rfl
noncomputable def B64_0 (cal:Cal) (k:Nat) (j1:V8) (v0 v1 v2 v3 v4:Value) (H:Hp) (n:Nat):Res:=
boxK 26 v0 H n fun v_1 H_2 n_3=>
j1 v1 v2 v3 v4 v_1 v4 v4 (.int .i64 0) H_2 n_3
noncomputable def C64_0 (cal:Cal) (k:Nat) (v0 v1 v2 v3 v4:Value) (H:Hp) (n:Nat):Res:=B64_0 cal k (S64_1 cal k k) v0 v1 v2 v3 v4 H n
theorem h64_0 (cal:Cal) (k:Nat) (v0 v1 v2 v3 v4:Value) (H:Hp) (n:Nat):aK P cal A (k+1) 64 [v0,v1,v2,v3,v4] H n=C64_0 cal k v0 v1 v2 v3 v4 H n:=by
 have h:aK P cal A (k+1) 64 [v0,v1,v2,v3,v4] H n=B64_0 cal k (fun u1 u2 u3 u4 u5 u11 u12 u13 H n=>labK (E64_1 cal k k) (Tr.set (Tr.set (Tr.set (Tr.set (Tr.set (Tr.set (Tr.set (Tr.set Tr.nil 13 (some u13)) 12 (some u12)) 11 (some u11)) 5 (some u5)) 4 (some u4)) 3 (some u3)) 2 (some u2)) 1 (some u1)) H n []) v0 v1 v2 v3 v4 H n:=by
  rw[bQ (fn:=Go.Proofs.Try.f64) (c:=tz) (rs:=fK) (by kernel_rfl) (by kernel_rfl) (by kernel_rfl) (by kernel_rfl)]
  kernel_rfl
 rw[h,C64_0]
 have e1:(fun u1 u2 u3 u4 u5 u11 u12 u13 H n=>labK (E64_1 cal k k) (Tr.set (Tr.set (Tr.set (Tr.set (Tr.set (Tr.set (Tr.set (Tr.set Tr.nil 13 (some u13)) 12 (some u12)) 11 (some u11)) 5 (some u5)) 4 (some u4)) 3 (some u3)) 2 (some u2)) 1 (some u1)) H n [])=(S64_1 cal k k):=by funext u1 u2 u3 u4 u5 u11 u12 u13 H n; exact q64_1 ..
 rw[e1]
end Go.Proofs.Ytekajfobmnedjaa.G
