/- The texts of functions, each with the proof that the evaluator says the same. -/
import Derived.Test.YtmjbdjnnojfhkaaH1
open Go Go.Ev
set_option maxRecDepth 1000000
set_option linter.unusedVariables false
noncomputable section
namespace Go.Proofs.Ytmjbdjnnojfhkaa.G
variable (cal:Cal) (k:Nat)
noncomputable def jy:Code:=dj 61
noncomputable def cx:List ResultVar:=fk 61
noncomputable def K61_p:KR:=kD cal k 61 jy (A 61) (av P cx) X0 (av P cx)
noncomputable def K61_pr:KR:=kD cal k 61 (cR jy) (Lb (A 61)) (av P cx) X0 (av P cx)
noncomputable def K61_prl:KR:=kD cal k 61 (cL (cR jy)) (La (Lb (A 61))) (K61_pr cal k) X0 (av P cx)
noncomputable def K61_prlr:KR:=kD cal k 61 (cR (cL (cR jy))) (Lb (La (Lb (A 61)))) (K61_pr cal k) X0 (av P cx)
noncomputable def K61_prlrrl:KR:=kD cal k 61 (cL (cR (cR (cL (cR jy))))) (La (Lb (Lb (La (Lb (A 61)))))) (K61_pr cal k) X0 (av P cx)
noncomputable def K61_prr:KR:=kD cal k 61 (cR (cR jy)) (Lb (Lb (A 61))) (av P cx) X0 (av P cx)
noncomputable def VX:KR:=kD cal k 61 (cR (cR (cR jy))) (Lb (Lb (Lb (A 61)))) (av P cx) X0 (av P cx)
noncomputable def K61_prrrl:KR:=kD cal k 61 (cL (cR (cR (cR jy)))) (La (Lb (Lb (Lb (A 61))))) (VX cal k) X0 (av P cx)
noncomputable def uJ(k:Nat):XR:=(upX 0 (VX cal k) X0)
noncomputable def GW(k:Nat)(m1:Nat):KR:=(fun T H n D=>aK P cal m1 (La (Lb (La (Lb (Lb (Lb (A 61))))))) none 61 (cL (cR (cL (cR (cR (cR jy)))))) (VX cal k) (uJ cal k) (av P cx) (cutT (La (Lb (La (Lb (Lb (Lb (A 61))))))).c T) H n D)
noncomputable def K61_prrrlrll(k:Nat)(m1:Nat):KR:=kD cal m1 61 (cL (cL (cR (cL (cR (cR (cR jy))))))) (La (La (Lb (La (Lb (Lb (Lb (A 61)))))))) (GW cal k m1) (uJ cal k) (av P cx)
noncomputable def K61_prrrlrllr(k:Nat)(m1:Nat):KR:=kD cal m1 61 (cR (cL (cL (cR (cL (cR (cR (cR jy)))))))) (Lb (La (La (Lb (La (Lb (Lb (Lb (A 61))))))))) (GW cal k m1) (uJ cal k) (av P cx)
noncomputable def K61_prrrlrllrr(k:Nat)(m1:Nat):KR:=kD cal m1 61 (cR (cR (cL (cL (cR (cL (cR (cR (cR jy))))))))) (Lb (Lb (La (La (Lb (La (Lb (Lb (Lb (A 61)))))))))) (GW cal k m1) (uJ cal k) (av P cx)
noncomputable def K61_pxrrrlrllrrl(k:Nat)(m1:Nat):XR:=(upX 1 (K61_prrrlrllrr cal k m1) (uJ cal k))
noncomputable def K61_prrrlrllrrll(k:Nat)(m1:Nat):KR:=kD cal m1 61 (cL (cL (cR (cR (cL (cL (cR (cL (cR (cR (cR jy))))))))))) (La (La (Lb (Lb (La (La (Lb (La (Lb (Lb (Lb (A 61)))))))))))) (K61_prrrlrllrr cal k m1) (K61_pxrrrlrllrrl cal k m1) (av P cx)
noncomputable def QX:KR:=kD cal k 61 (cR (cR (cR (cR jy)))) (Lb (Lb (Lb (Lb (A 61))))) (av P cx) X0 (av P cx)
noncomputable def K61_prrrrl:KR:=kD cal k 61 (cL (cR (cR (cR (cR jy))))) (La (Lb (Lb (Lb (Lb (A 61)))))) (QX cal k) X0 (av P cx)
noncomputable def rK(k:Nat):XR:=(upX 2 (QX cal k) X0)
noncomputable def DW(k:Nat)(m1:Nat):KR:=(fun T H n D=>aK P cal m1 (La (Lb (La (Lb (Lb (Lb (Lb (A 61)))))))) none 61 (cL (cR (cL (cR (cR (cR (cR jy))))))) (QX cal k) (rK cal k) (av P cx) (cutT (La (Lb (La (Lb (Lb (Lb (Lb (A 61)))))))).c T) H n D)
noncomputable def K61_prrrrlrll(k:Nat)(m1:Nat):KR:=kD cal m1 61 (cL (cL (cR (cL (cR (cR (cR (cR jy)))))))) (La (La (Lb (La (Lb (Lb (Lb (Lb (A 61))))))))) (DW cal k m1) (rK cal k) (av P cx)
noncomputable def K61_prrrrlrllr(k:Nat)(m1:Nat):KR:=kD cal m1 61 (cR (cL (cL (cR (cL (cR (cR (cR (cR jy))))))))) (Lb (La (La (Lb (La (Lb (Lb (Lb (Lb (A 61)))))))))) (DW cal k m1) (rK cal k) (av P cx)
noncomputable def pV(k:Nat)(m1:Nat):KR:=kD cal m1 61 (cR (cR (cL (cL (cR (cL (cR (cR (cR (cR jy)))))))))) (Lb (Lb (La (La (Lb (La (Lb (Lb (Lb (Lb (A 61))))))))))) (DW cal k m1) (rK cal k) (av P cx)
noncomputable def zQ(k:Nat)(m1:Nat):XR:=(upX 3 (pV cal k m1) (rK cal k))
noncomputable def K61_prrrrlrllrrll(k:Nat)(m1:Nat):KR:=kD cal m1 61 (cL (cL (cR (cR (cL (cL (cR (cL (cR (cR (cR (cR jy)))))))))))) (La (La (Lb (Lb (La (La (Lb (La (Lb (Lb (Lb (Lb (A 61))))))))))))) (pV cal k m1) (zQ cal k m1) (av P cx)
noncomputable def K61_prrrrlrllrrllr(k:Nat)(m1:Nat):KR:=kD cal m1 61 (cR (cL (cL (cR (cR (cL (cL (cR (cL (cR (cR (cR (cR jy))))))))))))) (Lb (La (La (Lb (Lb (La (La (Lb (La (Lb (Lb (Lb (Lb (A 61)))))))))))))) (pV cal k m1) (zQ cal k m1) (av P cx)
noncomputable def jj(k:Nat)(m1:Nat):XR:=(upX 4 (pV cal k m1) (zQ cal k m1))
noncomputable def qw(k:Nat)(m1:Nat)(m2:Nat):KR:=(fun T H n D=>aK P cal m2 (La (Lb (Lb (La (La (Lb (Lb (La (La (Lb (La (Lb (Lb (Lb (Lb (A 61)))))))))))))))) none 61 (cL (cR (cR (cL (cL (cR (cR (cL (cL (cR (cL (cR (cR (cR (cR jy))))))))))))))) (pV cal k m1) (jj cal k m1) (av P cx) (cutT (La (Lb (Lb (La (La (Lb (Lb (La (La (Lb (La (Lb (Lb (Lb (Lb (A 61)))))))))))))))).c T) H n D)
noncomputable def K61_prrrrlrllrrllrrll(k:Nat)(m1:Nat)(m2:Nat):KR:=kD cal m2 61 (cL (cL (cR (cR (cL (cL (cR (cR (cL (cL (cR (cL (cR (cR (cR (cR jy)))))))))))))))) (La (La (Lb (Lb (La (La (Lb (Lb (La (La (Lb (La (Lb (Lb (Lb (Lb (A 61))))))))))))))))) (qw cal k m1 m2) (jj cal k m1) (av P cx)
noncomputable def K61_prrrrlrllrrllrrllr(k:Nat)(m1:Nat)(m2:Nat):KR:=kD cal m2 61 (cR (cL (cL (cR (cR (cL (cL (cR (cR (cL (cL (cR (cL (cR (cR (cR (cR jy))))))))))))))))) (Lb (La (La (Lb (Lb (La (La (Lb (Lb (La (La (Lb (La (Lb (Lb (Lb (Lb (A 61)))))))))))))))))) (qw cal k m1 m2) (jj cal k m1) (av P cx)
noncomputable def K61_prrrrlrllrrllrrllrr(k:Nat)(m1:Nat)(m2:Nat):KR:=kD cal m2 61 (cR (cR (cL (cL (cR (cR (cL (cL (cR (cR (cL (cL (cR (cL (cR (cR (cR (cR jy)))))))))))))))))) (Lb (Lb (La (La (Lb (Lb (La (La (Lb (Lb (La (La (Lb (La (Lb (Lb (Lb (Lb (A 61))))))))))))))))))) (qw cal k m1 m2) (jj cal k m1) (av P cx)
noncomputable def K61_pxrrrrlrllrrllrrllrrl(k:Nat)(m1:Nat)(m2:Nat):XR:=(upX 5 (K61_prrrrlrllrrllrrllrr cal k m1 m2) (jj cal k m1))
noncomputable def K61_prrrrlrllrrllrrllrrll(k:Nat)(m1:Nat)(m2:Nat):KR:=kD cal m2 61 (cL (cL (cR (cR (cL (cL (cR (cR (cL (cL (cR (cR (cL (cL (cR (cL (cR (cR (cR (cR jy)))))))))))))))))))) (La (La (Lb (Lb (La (La (Lb (Lb (La (La (Lb (Lb (La (La (Lb (La (Lb (Lb (Lb (Lb (A 61))))))))))))))))))))) (K61_prrrrlrllrrllrrllrr cal k m1 m2) (K61_pxrrrrlrllrrllrrllrrl cal k m1 m2) (av P cx)
noncomputable def K61_prrrrr:KR:=kD cal k 61 (cR (cR (cR (cR (cR jy))))) (Lb (Lb (Lb (Lb (Lb (A 61)))))) (av P cx) X0 (av P cx)
noncomputable def E61_3(k m1 m2:Nat):KR:=cj P cal (aK P cal m2) none 61 (cL (cL (cR (cR (cL (cL (cR (cR (cL (cL (cR (cL (cR (cR (cR (cR jy)))))))))))))))) (La (La (Lb (Lb (La (La (Lb (Lb (La (La (Lb (La (Lb (Lb (Lb (Lb (A 61))))))))))))))))) (qw cal k m1 m2) (jj cal k m1) (av P cx)
noncomputable def R61_3(k m1 m2:Nat):V7:=fun u5 u8 u53 u54 u61 u62 u63 H n=>aK P cal m2 (La (Lb (Lb (La (La (Lb (Lb (La (La (Lb (La (Lb (Lb (Lb (Lb (A 61)))))))))))))))) none 61 (cL (cR (cR (cL (cL (cR (cR (cL (cL (cR (cL (cR (cR (cR (cR jy))))))))))))))) (pV cal k m1) (jj cal k m1) (av P cx) (ts (ts (ts (ts (ts (ts (ts Tr.nil 63 u63) 62 u62) 61 u61) 54 u54) 53 u53) 8 u8) 5 u5) H n []
noncomputable def E61_2(k m1:Nat):KR:=cj P cal (aK P cal m1) none 61 (cL (cL (cR (cL (cR (cR (cR (cR jy)))))))) (La (La (Lb (La (Lb (Lb (Lb (Lb (A 61))))))))) (DW cal k m1) (rK cal k) (av P cx)
noncomputable def Sw(k m1:Nat):V3:=fun u5 u53 u54 H n=>aK P cal m1 (La (Lb (La (Lb (Lb (Lb (Lb (A 61)))))))) none 61 (cL (cR (cL (cR (cR (cR (cR jy))))))) (QX cal k) (rK cal k) (av P cx) (ts (ts (ts Tr.nil 54 u54) 53 u53) 5 u5) H n []
noncomputable def E61_1(k m1:Nat):KR:=cj P cal (aK P cal m1) none 61 (cL (cL (cR (cL (cR (cR (cR jy))))))) (La (La (Lb (La (Lb (Lb (Lb (A 61)))))))) (GW cal k m1) (uJ cal k) (av P cx)
noncomputable def R61_1(k m1:Nat):V4:=fun u5 u23 u24 u25 H n=>aK P cal m1 (La (Lb (La (Lb (Lb (Lb (A 61))))))) none 61 (cL (cR (cL (cR (cR (cR jy)))))) (VX cal k) (uJ cal k) (av P cx) (ts (ts (ts (ts Tr.nil 25 u25) 24 u24) 23 u23) 5 u5) H n []
noncomputable def B61_3(cal:Cal)(k m1 m2:Nat)(b2:V3)(b3:V7)(u5 u8 u53 u54 u61 u62 u63:Value)(H:Hp)(n:Nat):Res:=
binK P .lss 3 (.tmp 63) (.tmp 62) u63 u62 fun v_2m=>
ifK v_2m (
aq (aJ P 33 u61 u63) fun v_2o=>
aq (aV v_2o) fun a_2q=>aq (az P H 86 a_2q) fun v_2p=>
eQ P 86 H n fun v_2r H_2s n_2t=>
aq (bX P 86 v_2r v_2p H_2s) fun H_2w=>
aq (aV v_2r) fun a_32=>aq (az P H_2w 86 a_32) fun v_33=>
aq (nilV u5) fun v_34=>
aq (aw P 115 v_34 2) fun v_35=>
aq (aJ P 113 v_35 u8) fun v_36=>
aX P cal 97 [u5,u8,v_33] H_2w n_2t fun v_37 H_38 n_39=>
aq (aJ P 112 v_36 u63) fun v_3a=>
aq (bX P 111 v_3a v_37 H_38) fun H_3c=>
binK P .add 3 (.tmp 63) (.const (.int .i64 1)) u63 (.int .i64 1) fun v_3d=>
b3 u5 u8 u53 u54 u61 u62 v_3d H_3c n_39) (
binK P .add 3 (.tmp 54) (.const (.int .i64 1)) u54 (.int .i64 1) fun v_3f=>
b2 u5 u53 v_3f H n)
noncomputable def C61_3(k m1 m2:Nat)(b2:V3)(b3:V7)(u5 u8 u53 u54 u61 u62 u63:Value)(H:Hp)(n:Nat):Res:=B61_3 cal k m1 m2 b2 b3 u5 u8 u53 u54 u61 u62 u63 H n
noncomputable def S61_3(k m1:Nat)(b2:V3):Nat→V7:=fun m=>Nat.rec (motive:=fun _=>V7) (C61_3 cal k m1 0 b2 (fun _ _ _ _ _ _ _ _ _=>none)) (fun m ih=>C61_3 cal k m1 (m+1) b2 ih) m
theorem h61_3(k m1 m2:Nat)(u5 u8 u53 u54 u61 u62 u63:Value)(H:Hp)(n:Nat):labK (E61_3 cal k m1 m2) (ts (ts (ts (ts (ts (ts (ts Tr.nil 63 u63) 62 u62) 61 u61) 54 u54) 53 u53) 8 u8) 5 u5) H n []=C61_3 cal k m1 m2 (Sw cal k m1) (R61_3 cal k m1 m2) u5 u8 u53 u54 u61 u62 u63 H n:=by
 refine Eq.trans (b:=B61_3 cal k m1 m2 (Sw cal k m1) (R61_3 cal k m1 m2) u5 u8 u53 u54 u61 u62 u63 H n) (by kernel_rfl) ?_
 rw[C61_3]
theorem q61_3(k m1:Nat):∀(m:Nat) (u5 u8 u53 u54 u61 u62 u63:Value) (H:Hp) (n:Nat),labK (E61_3 cal k m1 m) (ts (ts (ts (ts (ts (ts (ts Tr.nil 63 u63) 62 u62) 61 u61) 54 u54) 53 u53) 8 u8) 5 u5) H n []=S61_3 cal k m1 (Sw cal k m1) m u5 u8 u53 u54 u61 u62 u63 H n
 | 0,u5,u8,u53,u54,u61,u62,u63,H,n=>by
  rw[h61_3]
  have e:R61_3 cal k m1 0=fun _ _ _ _ _ _ _ _ _=>none:=by funext u5 u8 u53 u54 u61 u62 u63 H n; kernel_rfl
  rw[e]; rfl
 | m+1,u5,u8,u53,u54,u61,u62,u63,H,n=>by
  rw[h61_3]
  have e:R61_3 cal k m1 (m+1)=S61_3 cal k m1 (Sw cal k m1) m:=by
   funext u5 u8 u53 u54 u61 u62 u63 H n
   have e:R61_3 cal k m1 (m+1) u5 u8 u53 u54 u61 u62 u63 H n=labK (E61_3 cal k m1 m) (ts (ts (ts (ts (ts (ts (ts Tr.nil 63 u63) 62 u62) 61 u61) 54 u54) 53 u53) 8 u8) 5 u5) H n []:=by kernel_rfl
   rw[e]; exact q61_3 ..
  rw[e]; rfl
noncomputable def B61_2(cal:Cal)(k m1:Nat)(j3:V7)(b2:V3)(u5 u53 u54:Value)(H:Hp)(n:Nat):Res:=
binK P .lss 3 (.tmp 54) (.tmp 53) u54 u53 fun v_2b=>
ifK v_2b (
aq (nilV u5) fun v_2f=>
aq (aw P 115 v_2f 0) fun v_2g=>
aq (aw P 35 v_2g 2) fun v_2h=>
aq (aV v_2h) fun a_2j=>aq (az P H 33 a_2j) fun v_2i=>
aq (lenV P 33 v_2i) fun v_2k=>
j3 u5 u54 u53 u54 v_2i v_2k (.int .i64 0) H n) (
some ((Value.tuple ⟨[u5,(.int .i64 0)]⟩),H,n))
noncomputable def C61_2(k m1:Nat)(b2:V3)(u5 u53 u54:Value)(H:Hp)(n:Nat):Res:=B61_2 cal k m1 (S61_3 cal k m1 b2 m1) b2 u5 u53 u54 H n
noncomputable def S61_2(k:Nat):Nat→V3:=fun m=>Nat.rec (motive:=fun _=>V3) (C61_2 cal k 0 (fun _ _ _ _ _=>none)) (fun m ih=>C61_2 cal k (m+1) ih) m
theorem h61_2(k m1:Nat)(u5 u53 u54:Value)(H:Hp)(n:Nat):labK (E61_2 cal k m1) (ts (ts (ts Tr.nil 54 u54) 53 u53) 5 u5) H n []=C61_2 cal k m1 (Sw cal k m1) u5 u53 u54 H n:=by
 refine Eq.trans (b:=B61_2 cal k m1 (fun u5 u8 u53 u54 u61 u62 u63 H n=>labK (E61_3 cal k m1 m1) (ts (ts (ts (ts (ts (ts (ts Tr.nil 63 u63) 62 u62) 61 u61) 54 u54) 53 u53) 8 u8) 5 u5) H n []) (Sw cal k m1) u5 u53 u54 H n) (by kernel_rfl) ?_
 rw[C61_2]
 have e3:(fun u5 u8 u53 u54 u61 u62 u63 H n=>labK (E61_3 cal k m1 m1) (ts (ts (ts (ts (ts (ts (ts Tr.nil 63 u63) 62 u62) 61 u61) 54 u54) 53 u53) 8 u8) 5 u5) H n [])=(S61_3 cal k m1 (Sw cal k m1) m1):=by funext u5 u8 u53 u54 u61 u62 u63 H n; exact q61_3 ..
 rw[e3]
theorem q61_2(k:Nat):∀(m:Nat) (u5 u53 u54:Value) (H:Hp) (n:Nat),labK (E61_2 cal k m) (ts (ts (ts Tr.nil 54 u54) 53 u53) 5 u5) H n []=S61_2 cal k m u5 u53 u54 H n
 | 0,u5,u53,u54,H,n=>by
  rw[h61_2]
  have e:Sw cal k 0=fun _ _ _ _ _=>none:=by funext u5 u53 u54 H n; kernel_rfl
  rw[e]; rfl
 | m+1,u5,u53,u54,H,n=>by
  rw[h61_2]
  have e:Sw cal k (m+1)=S61_2 cal k m:=by
   funext u5 u53 u54 H n
   have e:Sw cal k (m+1) u5 u53 u54 H n=labK (E61_2 cal k m) (ts (ts (ts Tr.nil 54 u54) 53 u53) 5 u5) H n []:=by kernel_rfl
   rw[e]; exact q61_2 ..
  rw[e]; rfl
noncomputable def B61_1(cal:Cal)(k m1:Nat)(j2:V3)(b1:V4)(u5 u23 u24 u25:Value)(H:Hp)(n:Nat):Res:=
binK P .lss 3 (.tmp 25) (.tmp 24) u25 u24 fun v_w=>
ifK v_w (
aq (aJ P 32 u23 u25) fun v_x=>
aq (aV v_x) fun a_z=>aq (az P H 88 a_z) fun v_y=>
eQ P 88 H n fun v_10 H_11 n_12=>
aq (bX P 88 v_10 v_y H_11) fun H_14=>
aq (aw P 88 v_10 0) fun v_16=>
aq (aV v_16) fun a_17=>aq (az P H_14 3 a_17) fun v_18=>
aq (aw P 88 v_10 1) fun v_19=>
aq (aV v_19) fun a_1a=>aq (az P H_14 3 a_1a) fun v_1b=>
aq (aw P 88 v_10 1) fun v_1d=>
aq (aV v_1d) fun a_1e=>aq (az P H_14 3 a_1e) fun v_1f=>
aq (aw P 88 v_10 0) fun v_1g=>
aq (aV v_1g) fun a_1h=>aq (az P H_14 3 a_1h) fun v_1i=>
aq (nilV u5) fun v_1j=>
aq (aw P 115 v_1j 1) fun v_1k=>
aq (aJ P 107 v_1k v_18) fun v_1l=>
aq (aJ P 106 v_1l v_1b) fun v_1m=>
aq (nilV u5) fun v_1n=>
aq (aw P 115 v_1n 1) fun v_1o=>
aq (aJ P 107 v_1o v_1f) fun v_1p=>
effK P [(.l 3 a_1h),(.l 3 a_1e)] H_14 n_12 (fun H_1q n_1r k_1s=>
aq (bX P 4 v_1m (.bool true) H_1q) fun H_1x=>
k_1s undef H_1x n_1r) fun v_1t H_1u n_1v=>
aq (aJ P 106 v_1p v_1i) fun v_1y=>
aq (bX P 4 v_1y (.bool true) H_1u) fun H_20=>
binK P .add 3 (.tmp 25) (.const (.int .i64 1)) u25 (.int .i64 1) fun v_21=>
b1 u5 u23 u24 v_21 H_20 n_1v) (
aq (nilV u5) fun v_24=>
aq (aw P 115 v_24 0) fun v_25=>
aq (aw P 35 v_25 0) fun v_26=>
aq (aV v_26) fun a_28=>aq (az P H 31 a_28) fun v_27=>
aq (lenV P 31 v_27) fun v_29=>
j2 u5 v_29 (.int .i64 0) H n)
noncomputable def C61_1(k m1:Nat)(b1:V4)(u5 u23 u24 u25:Value)(H:Hp)(n:Nat):Res:=B61_1 cal k m1 (S61_2 cal k k) b1 u5 u23 u24 u25 H n
noncomputable def S61_1(k:Nat):Nat→V4:=fun m=>Nat.rec (motive:=fun _=>V4) (C61_1 cal k 0 (fun _ _ _ _ _ _=>none)) (fun m ih=>C61_1 cal k (m+1) ih) m
theorem h61_1(k m1:Nat)(u5 u23 u24 u25:Value)(H:Hp)(n:Nat):labK (E61_1 cal k m1) (ts (ts (ts (ts Tr.nil 25 u25) 24 u24) 23 u23) 5 u5) H n []=C61_1 cal k m1 (R61_1 cal k m1) u5 u23 u24 u25 H n:=by
 refine Eq.trans (b:=B61_1 cal k m1 (fun u5 u53 u54 H n=>labK (E61_2 cal k k) (ts (ts (ts Tr.nil 54 u54) 53 u53) 5 u5) H n []) (R61_1 cal k m1) u5 u23 u24 u25 H n) (by kernel_rfl) ?_
 rw[C61_1]
 have e2:(fun u5 u53 u54 H n=>labK (E61_2 cal k k) (ts (ts (ts Tr.nil 54 u54) 53 u53) 5 u5) H n [])=(S61_2 cal k k):=by funext u5 u53 u54 H n; exact q61_2 ..
 rw[e2]
theorem q61_1(k:Nat):∀(m:Nat) (u5 u23 u24 u25:Value) (H:Hp) (n:Nat),labK (E61_1 cal k m) (ts (ts (ts (ts Tr.nil 25 u25) 24 u24) 23 u23) 5 u5) H n []=S61_1 cal k m u5 u23 u24 u25 H n
 | 0,u5,u23,u24,u25,H,n=>by
  rw[h61_1]
  have e:R61_1 cal k 0=fun _ _ _ _ _ _=>none:=by funext u5 u23 u24 u25 H n; kernel_rfl
  rw[e]; rfl
 | m+1,u5,u23,u24,u25,H,n=>by
  rw[h61_1]
  have e:R61_1 cal k (m+1)=S61_1 cal k m:=by
   funext u5 u23 u24 u25 H n
   have e:R61_1 cal k (m+1) u5 u23 u24 u25 H n=labK (E61_1 cal k m) (ts (ts (ts (ts Tr.nil 25 u25) 24 u24) 23 u23) 5 u5) H n []:=by kernel_rfl
   rw[e]; exact q61_1 ..
  rw[e]; rfl
noncomputable def B61_0(cal:Cal)(k:Nat)(j1:V4)(v0:Value)(H:Hp)(n:Nat):Res:=
boxK 35 v0 H n fun v_1 H_2 n_3=>
aq (aV v_1) fun a_7=>aq (az P H_2 35 a_7) fun v_6=>
aX P cal 60 [v_6] H_2 n_3 fun v_8 H_9 n_a=>
binK P .neq 29 (.tmp 13) (.const (.int .i64 0)) v_8 (.int .i64 0) fun v_d=>
ifK v_d (
some ((Value.tuple ⟨[(.pointer none),v_8]⟩),H_9,n_a)) (
aq (aV v_1) fun a_i=>aq (az P H_9 35 a_i) fun v_h=>
aq (fK P 115 [(0,v_h)]) fun v_j=>
boxK 115 v_j H_9 n_a fun v_k H_l n_m=>
aq (nilV v_k) fun v_p=>
aq (aw P 115 v_p 0) fun v_q=>
aq (aw P 35 v_q 1) fun v_r=>
aq (aV v_r) fun a_t=>aq (az P H_l 32 a_t) fun v_s=>
aq (lenV P 32 v_s) fun v_u=>
j1 v_k v_s v_u (.int .i64 0) H_l n_m)
noncomputable def C61_0(k:Nat)(v0:Value)(H:Hp)(n:Nat):Res:=B61_0 cal k (S61_1 cal k k) v0 H n
theorem h61_0(k:Nat)(v0:Value)(H:Hp)(n:Nat):aY P cal A (k+1) 61 [v0] H n=C61_0 cal k v0 H n:=by
 have h:aY P cal A (k+1) 61 [v0] H n=B61_0 cal k (fun u5 u23 u24 u25 H n=>labK (E61_1 cal k k) (ts (ts (ts (ts Tr.nil 25 u25) 24 u24) 23 u23) 5 u5) H n []) v0 H n:=by
  rw[bY (fn:=Go.Proofs.Try.f61) (c:=jy) (rs:=cx) (by kernel_rfl) (by kernel_rfl) (by kernel_rfl) (by kernel_rfl)]
  kernel_rfl
 rw[h,C61_0]
 have e1:(fun u5 u23 u24 u25 H n=>labK (E61_1 cal k k) (ts (ts (ts (ts Tr.nil 25 u25) 24 u24) 23 u23) 5 u5) H n [])=(S61_1 cal k k):=by funext u5 u23 u24 u25 H n; exact q61_1 ..
 rw[e1]
noncomputable def code62:Code:=dj 62
noncomputable def Jy:List ResultVar:=fk 62
noncomputable def K62_p:KR:=kD cal k 62 code62 (A 62) (av P Jy) X0 (av P Jy)
noncomputable def K62_pr:KR:=kD cal k 62 (cR code62) (Lb (A 62)) (av P Jy) X0 (av P Jy)
noncomputable def B62_0(cal:Cal)(k:Nat)(v0:Value)(H:Hp)(n:Nat):Res:=
boxK 111 v0 H n fun v_1 H_2 n_3=>
aq (aV v_1) fun a_5=>aq (az P H_2 111 a_5) fun v_6=>
aq (aV v_1) fun a_7=>aq (az P H_2 111 a_7) fun v_8=>
aq (aw P 111 v_1 0) fun v_9=>
aq (aV v_9) fun a_a=>aq (az P H_2 3 a_a) fun v_b=>
effK P [(.l 3 a_a),(.l 111 a_7)] H_2 n_3 (fun H_c n_d k_e=>
aX P cal 98 [v_6,(Value.func (.func 72) #[] #[])] H_c n_d fun v_i H_j n_k=>
k_e v_i H_j n_k) fun v_f H_g n_h=>
effK P [(.l 3 a_a)] H_g n_h (fun H_l n_m k_n=>
aX P cal 98 [v_8,(Value.func (.func 73) #[] #[])] H_l n_m fun v_r H_s n_t=>
k_n v_r H_s n_t) fun v_o H_p n_q=>
aq (fK P 53 [(0,v_f),(1,v_o)]) fun v_u=>
aX P cal 99 [v_u,v_b] H_p n_q fun v_v H_w n_x=>
some (v_v,H_w,n_x)
noncomputable def C62_0(k:Nat)(v0:Value)(H:Hp)(n:Nat):Res:=B62_0 cal k v0 H n
theorem h62_0(k:Nat)(v0:Value)(H:Hp)(n:Nat):aY P cal A (k+1) 62 [v0] H n=C62_0 cal k v0 H n:=by
 have h:aY P cal A (k+1) 62 [v0] H n=B62_0 cal k v0 H n:=by
  rw[bY (fn:=Go.Proofs.Try.f62) (c:=code62) (rs:=Jy) (by kernel_rfl) (by kernel_rfl) (by kernel_rfl) (by kernel_rfl)]
  kernel_rfl
 rw[h,C62_0]
noncomputable def ew:Code:=dj 63
noncomputable def bJ:List ResultVar:=fk 63
noncomputable def K63_p:KR:=kD cal k 63 ew (A 63) (av P bJ) X0 (av P bJ)
noncomputable def K63_pr:KR:=kD cal k 63 (cR ew) (Lb (A 63)) (av P bJ) X0 (av P bJ)
noncomputable def K63_prl:KR:=kD cal k 63 (cL (cR ew)) (La (Lb (A 63))) (K63_pr cal k) X0 (av P bJ)
noncomputable def K63_prlrl:KR:=kD cal k 63 (cL (cR (cL (cR ew)))) (La (Lb (La (Lb (A 63))))) (K63_pr cal k) X0 (av P bJ)
noncomputable def K63_prr:KR:=kD cal k 63 (cR (cR ew)) (Lb (Lb (A 63))) (av P bJ) X0 (av P bJ)
noncomputable def K63_prrl:KR:=kD cal k 63 (cL (cR (cR ew))) (La (Lb (Lb (A 63)))) (K63_prr cal k) X0 (av P bJ)
noncomputable def K63_prrlrl:KR:=kD cal k 63 (cL (cR (cL (cR (cR ew))))) (La (Lb (La (Lb (Lb (A 63)))))) (K63_prr cal k) X0 (av P bJ)
noncomputable def VY:KR:=kD cal k 63 (cR (cR (cR ew))) (Lb (Lb (Lb (A 63)))) (av P bJ) X0 (av P bJ)
noncomputable def K63_prrrl:KR:=kD cal k 63 (cL (cR (cR (cR ew)))) (La (Lb (Lb (Lb (A 63))))) (VY cal k) X0 (av P bJ)
noncomputable def uQ(k:Nat):XR:=(upX 0 (VY cal k) X0)
noncomputable def OQ(k:Nat)(m1:Nat):KR:=(fun T H n D=>aK P cal m1 (La (Lb (La (Lb (Lb (Lb (A 63))))))) none 63 (cL (cR (cL (cR (cR (cR ew)))))) (VY cal k) (uQ cal k) (av P bJ) (cutT (La (Lb (La (Lb (Lb (Lb (A 63))))))).c T) H n D)
noncomputable def K63_prrrlrll(k:Nat)(m1:Nat):KR:=kD cal m1 63 (cL (cL (cR (cL (cR (cR (cR ew))))))) (La (La (Lb (La (Lb (Lb (Lb (A 63)))))))) (OQ cal k m1) (uQ cal k) (av P bJ)
noncomputable def K63_prrrlrlll(k:Nat)(m1:Nat):KR:=kD cal m1 63 (cL (cL (cL (cR (cL (cR (cR (cR ew)))))))) (La (La (La (Lb (La (Lb (Lb (Lb (A 63))))))))) (K63_prrrlrll cal k m1) (uQ cal k) (av P bJ)
noncomputable def HX(k:Nat)(m1:Nat):KR:=kD cal m1 63 (cR (cL (cL (cR (cL (cR (cR (cR ew)))))))) (Lb (La (La (Lb (La (Lb (Lb (Lb (A 63))))))))) (OQ cal k m1) (uQ cal k) (av P bJ)
noncomputable def K63_pxrrrlrllrl(k:Nat)(m1:Nat):XR:=(upX 1 (HX cal k m1) (uQ cal k))
noncomputable def K63_prrrlrllrll(k:Nat)(m1:Nat):KR:=kD cal m1 63 (cL (cL (cR (cL (cL (cR (cL (cR (cR (cR ew)))))))))) (La (La (Lb (La (La (Lb (La (Lb (Lb (Lb (A 63))))))))))) (HX cal k m1) (K63_pxrrrlrllrl cal k m1) (av P bJ)
noncomputable def K63_prrrlrllrllrl(k:Nat)(m1:Nat):KR:=kD cal m1 63 (cL (cR (cL (cL (cR (cL (cL (cR (cL (cR (cR (cR ew)))))))))))) (La (Lb (La (La (Lb (La (La (Lb (La (Lb (Lb (Lb (A 63))))))))))))) (HX cal k m1) (K63_pxrrrlrllrl cal k m1) (av P bJ)
noncomputable def QY:KR:=kD cal k 63 (cR (cR (cR (cR ew)))) (Lb (Lb (Lb (Lb (A 63))))) (av P bJ) X0 (av P bJ)
noncomputable def K63_prrrrl:KR:=kD cal k 63 (cL (cR (cR (cR (cR ew))))) (La (Lb (Lb (Lb (Lb (A 63)))))) (QY cal k) X0 (av P bJ)
noncomputable def sq(k:Nat):XR:=(upX 2 (QY cal k) X0)
noncomputable def Lk(k:Nat)(m1:Nat):KR:=(fun T H n D=>aK P cal m1 (La (Lb (La (Lb (Lb (Lb (Lb (A 63)))))))) none 63 (cL (cR (cL (cR (cR (cR (cR ew))))))) (QY cal k) (sq cal k) (av P bJ) (cutT (La (Lb (La (Lb (Lb (Lb (Lb (A 63)))))))).c T) H n D)
noncomputable def K63_prrrrlrll(k:Nat)(m1:Nat):KR:=kD cal m1 63 (cL (cL (cR (cL (cR (cR (cR (cR ew)))))))) (La (La (Lb (La (Lb (Lb (Lb (Lb (A 63))))))))) (Lk cal k m1) (sq cal k) (av P bJ)
noncomputable def K63_prrrrlrlll(k:Nat)(m1:Nat):KR:=kD cal m1 63 (cL (cL (cL (cR (cL (cR (cR (cR (cR ew))))))))) (La (La (La (Lb (La (Lb (Lb (Lb (Lb (A 63)))))))))) (K63_prrrrlrll cal k m1) (sq cal k) (av P bJ)
noncomputable def zV(k:Nat)(m1:Nat):KR:=kD cal m1 63 (cR (cL (cL (cR (cL (cR (cR (cR (cR ew))))))))) (Lb (La (La (Lb (La (Lb (Lb (Lb (Lb (A 63)))))))))) (Lk cal k m1) (sq cal k) (av P bJ)
noncomputable def By(k:Nat)(m1:Nat):XR:=(upX 3 (zV cal k m1) (sq cal k))
noncomputable def K63_prrrrlrllrll(k:Nat)(m1:Nat):KR:=kD cal m1 63 (cL (cL (cR (cL (cL (cR (cL (cR (cR (cR (cR ew))))))))))) (La (La (Lb (La (La (Lb (La (Lb (Lb (Lb (Lb (A 63)))))))))))) (zV cal k m1) (By cal k m1) (av P bJ)
noncomputable def K63_prrrrlrllrllr(k:Nat)(m1:Nat):KR:=kD cal m1 63 (cR (cL (cL (cR (cL (cL (cR (cL (cR (cR (cR (cR ew)))))))))))) (Lb (La (La (Lb (La (La (Lb (La (Lb (Lb (Lb (Lb (A 63))))))))))))) (zV cal k m1) (By cal k m1) (av P bJ)
noncomputable def K63_prrrrlrllrllrrl(k:Nat)(m1:Nat):KR:=kD cal m1 63 (cL (cR (cR (cL (cL (cR (cL (cL (cR (cL (cR (cR (cR (cR ew)))))))))))))) (La (Lb (Lb (La (La (Lb (La (La (Lb (La (Lb (Lb (Lb (Lb (A 63))))))))))))))) (zV cal k m1) (By cal k m1) (av P bJ)
noncomputable def LJ:KR:=kD cal k 63 (cR (cR (cR (cR (cR ew))))) (Lb (Lb (Lb (Lb (Lb (A 63)))))) (av P bJ) X0 (av P bJ)
noncomputable def K63_prrrrrl:KR:=kD cal k 63 (cL (cR (cR (cR (cR (cR ew)))))) (La (Lb (Lb (Lb (Lb (Lb (A 63))))))) (LJ cal k) X0 (av P bJ)
noncomputable def qQ(k:Nat):XR:=(upX 4 (LJ cal k) X0)
noncomputable def HY(k:Nat)(m1:Nat):KR:=(fun T H n D=>aK P cal m1 (La (Lb (La (Lb (Lb (Lb (Lb (Lb (A 63))))))))) none 63 (cL (cR (cL (cR (cR (cR (cR (cR ew)))))))) (LJ cal k) (qQ cal k) (av P bJ) (cutT (La (Lb (La (Lb (Lb (Lb (Lb (Lb (A 63))))))))).c T) H n D)
noncomputable def K63_prrrrrlrll(k:Nat)(m1:Nat):KR:=kD cal m1 63 (cL (cL (cR (cL (cR (cR (cR (cR (cR ew))))))))) (La (La (Lb (La (Lb (Lb (Lb (Lb (Lb (A 63)))))))))) (HY cal k m1) (qQ cal k) (av P bJ)
noncomputable def K63_prrrrrlrlll(k:Nat)(m1:Nat):KR:=kD cal m1 63 (cL (cL (cL (cR (cL (cR (cR (cR (cR (cR ew)))))))))) (La (La (La (Lb (La (Lb (Lb (Lb (Lb (Lb (A 63))))))))))) (K63_prrrrrlrll cal k m1) (qQ cal k) (av P bJ)
noncomputable def nV(k:Nat)(m1:Nat):KR:=kD cal m1 63 (cR (cL (cL (cR (cL (cR (cR (cR (cR (cR ew)))))))))) (Lb (La (La (Lb (La (Lb (Lb (Lb (Lb (Lb (A 63))))))))))) (HY cal k m1) (qQ cal k) (av P bJ)
noncomputable def nz(k:Nat)(m1:Nat):XR:=(upX 5 (nV cal k m1) (qQ cal k))
noncomputable def K63_prrrrrlrllrll(k:Nat)(m1:Nat):KR:=kD cal m1 63 (cL (cL (cR (cL (cL (cR (cL (cR (cR (cR (cR (cR ew)))))))))))) (La (La (Lb (La (La (Lb (La (Lb (Lb (Lb (Lb (Lb (A 63))))))))))))) (nV cal k m1) (nz cal k m1) (av P bJ)
noncomputable def K63_prrrrrlrllrllr(k:Nat)(m1:Nat):KR:=kD cal m1 63 (cR (cL (cL (cR (cL (cL (cR (cL (cR (cR (cR (cR (cR ew))))))))))))) (Lb (La (La (Lb (La (La (Lb (La (Lb (Lb (Lb (Lb (Lb (A 63)))))))))))))) (nV cal k m1) (nz cal k m1) (av P bJ)
noncomputable def K63_prrrrrlrllrllrl(k:Nat)(m1:Nat):KR:=kD cal m1 63 (cL (cR (cL (cL (cR (cL (cL (cR (cL (cR (cR (cR (cR (cR ew)))))))))))))) (La (Lb (La (La (Lb (La (La (Lb (La (Lb (Lb (Lb (Lb (Lb (A 63))))))))))))))) (K63_prrrrrlrllrllr cal k m1) (nz cal k m1) (av P bJ)
noncomputable def K63_prrrrrlrllrllrlrl(k:Nat)(m1:Nat):KR:=kD cal m1 63 (cL (cR (cL (cR (cL (cL (cR (cL (cL (cR (cL (cR (cR (cR (cR (cR ew)))))))))))))))) (La (Lb (La (Lb (La (La (Lb (La (La (Lb (La (Lb (Lb (Lb (Lb (Lb (A 63))))))))))))))))) (K63_prrrrrlrllrllr cal k m1) (nz cal k m1) (av P bJ)
noncomputable def K63_prrrrrlrllrllrr(k:Nat)(m1:Nat):KR:=kD cal m1 63 (cR (cR (cL (cL (cR (cL (cL (cR (cL (cR (cR (cR (cR (cR ew)))))))))))))) (Lb (Lb (La (La (Lb (La (La (Lb (La (Lb (Lb (Lb (Lb (Lb (A 63))))))))))))))) (nV cal k m1) (nz cal k m1) (av P bJ)
noncomputable def ix(k:Nat)(m1:Nat):XR:=(upX 6 (nV cal k m1) (nz cal k m1))
noncomputable def sK(k:Nat)(m1:Nat)(m2:Nat):KR:=(fun T H n D=>aK P cal m2 (La (Lb (Lb (Lb (La (La (Lb (La (La (Lb (La (Lb (Lb (Lb (Lb (Lb (A 63))))))))))))))))) none 63 (cL (cR (cR (cR (cL (cL (cR (cL (cL (cR (cL (cR (cR (cR (cR (cR ew)))))))))))))))) (nV cal k m1) (ix cal k m1) (av P bJ) (cutT (La (Lb (Lb (Lb (La (La (Lb (La (La (Lb (La (Lb (Lb (Lb (Lb (Lb (A 63))))))))))))))))).c T) H n D)
noncomputable def K63_prrrrrlrllrllrrrll(k:Nat)(m1:Nat)(m2:Nat):KR:=kD cal m2 63 (cL (cL (cR (cR (cR (cL (cL (cR (cL (cL (cR (cL (cR (cR (cR (cR (cR ew))))))))))))))))) (La (La (Lb (Lb (Lb (La (La (Lb (La (La (Lb (La (Lb (Lb (Lb (Lb (Lb (A 63)))))))))))))))))) (sK cal k m1 m2) (ix cal k m1) (av P bJ)
noncomputable def K63_prrrrrlrllrllrrrlll(k:Nat)(m1:Nat)(m2:Nat):KR:=kD cal m2 63 (cL (cL (cL (cR (cR (cR (cL (cL (cR (cL (cL (cR (cL (cR (cR (cR (cR (cR ew)))))))))))))))))) (La (La (La (Lb (Lb (Lb (La (La (Lb (La (La (Lb (La (Lb (Lb (Lb (Lb (Lb (A 63))))))))))))))))))) (K63_prrrrrlrllrllrrrll cal k m1 m2) (ix cal k m1) (av P bJ)
noncomputable def nJ(k:Nat)(m1:Nat)(m2:Nat):KR:=kD cal m2 63 (cR (cL (cL (cR (cR (cR (cL (cL (cR (cL (cL (cR (cL (cR (cR (cR (cR (cR ew)))))))))))))))))) (Lb (La (La (Lb (Lb (Lb (La (La (Lb (La (La (Lb (La (Lb (Lb (Lb (Lb (Lb (A 63))))))))))))))))))) (sK cal k m1 m2) (ix cal k m1) (av P bJ)
noncomputable def pk(k:Nat)(m1:Nat)(m2:Nat):XR:=(upX 7 (nJ cal k m1 m2) (ix cal k m1))
noncomputable def K63_prrrrrlrllrllrrrllrll(k:Nat)(m1:Nat)(m2:Nat):KR:=kD cal m2 63 (cL (cL (cR (cL (cL (cR (cR (cR (cL (cL (cR (cL (cL (cR (cL (cR (cR (cR (cR (cR ew)))))))))))))))))))) (La (La (Lb (La (La (Lb (Lb (Lb (La (La (Lb (La (La (Lb (La (Lb (Lb (Lb (Lb (Lb (A 63))))))))))))))))))))) (nJ cal k m1 m2) (pk cal k m1 m2) (av P bJ)
noncomputable def K63_prrrrrlrllrllrrrllrllr(k:Nat)(m1:Nat)(m2:Nat):KR:=kD cal m2 63 (cR (cL (cL (cR (cL (cL (cR (cR (cR (cL (cL (cR (cL (cL (cR (cL (cR (cR (cR (cR (cR ew))))))))))))))))))))) (Lb (La (La (Lb (La (La (Lb (Lb (Lb (La (La (Lb (La (La (Lb (La (Lb (Lb (Lb (Lb (Lb (A 63)))))))))))))))))))))) (nJ cal k m1 m2) (pk cal k m1 m2) (av P bJ)
noncomputable def K63_prrrrrlrllrllrrrllrllrrl(k:Nat)(m1:Nat)(m2:Nat):KR:=kD cal m2 63 (cL (cR (cR (cL (cL (cR (cL (cL (cR (cR (cR (cL (cL (cR (cL (cL (cR (cL (cR (cR (cR (cR (cR ew))))))))))))))))))))))) (La (Lb (Lb (La (La (Lb (La (La (Lb (Lb (Lb (La (La (Lb (La (La (Lb (La (Lb (Lb (Lb (Lb (Lb (A 63)))))))))))))))))))))))) (nJ cal k m1 m2) (pk cal k m1 m2) (av P bJ)
noncomputable def K63_prrrrrr:KR:=kD cal k 63 (cR (cR (cR (cR (cR (cR ew)))))) (Lb (Lb (Lb (Lb (Lb (Lb (A 63))))))) (av P bJ) X0 (av P bJ)
noncomputable def E63_4(k m1 m2:Nat):KR:=cj P cal (aK P cal m2) none 63 (cL (cL (cR (cR (cR (cL (cL (cR (cL (cL (cR (cL (cR (cR (cR (cR (cR ew))))))))))))))))) (La (La (Lb (Lb (Lb (La (La (Lb (La (La (Lb (La (Lb (Lb (Lb (Lb (Lb (A 63)))))))))))))))))) (sK cal k m1 m2) (ix cal k m1) (av P bJ)
noncomputable def R63_4(k m1 m2:Nat):V4:=fun u1 u6 u7 u8 H n=>aK P cal m2 (La (Lb (Lb (Lb (La (La (Lb (La (La (Lb (La (Lb (Lb (Lb (Lb (Lb (A 63))))))))))))))))) none 63 (cL (cR (cR (cR (cL (cL (cR (cL (cL (cR (cL (cR (cR (cR (cR (cR ew)))))))))))))))) (nV cal k m1) (ix cal k m1) (av P bJ) (ts (ts (ts (ts Tr.nil 8 u8) 7 u7) 6 u6) 1 u1) H n []
noncomputable def E63_3(k m1:Nat):KR:=cj P cal (aK P cal m1) none 63 (cL (cL (cR (cL (cR (cR (cR (cR (cR ew))))))))) (La (La (Lb (La (Lb (Lb (Lb (Lb (Lb (A 63)))))))))) (HY cal k m1) (qQ cal k) (av P bJ)
noncomputable def Sx(k m1:Nat):V2:=fun u1 u6 H n=>aK P cal m1 (La (Lb (La (Lb (Lb (Lb (Lb (Lb (A 63))))))))) none 63 (cL (cR (cL (cR (cR (cR (cR (cR ew)))))))) (LJ cal k) (qQ cal k) (av P bJ) (ts (ts Tr.nil 6 u6) 1 u1) H n []
noncomputable def E63_2(k m1:Nat):KR:=cj P cal (aK P cal m1) none 63 (cL (cL (cR (cL (cR (cR (cR (cR ew)))))))) (La (La (Lb (La (Lb (Lb (Lb (Lb (A 63))))))))) (Lk cal k m1) (sq cal k) (av P bJ)
noncomputable def R63_2(k m1:Nat):V2:=fun u1 u4 H n=>aK P cal m1 (La (Lb (La (Lb (Lb (Lb (Lb (A 63)))))))) none 63 (cL (cR (cL (cR (cR (cR (cR ew))))))) (QY cal k) (sq cal k) (av P bJ) (ts (ts Tr.nil 4 u4) 1 u1) H n []
noncomputable def E63_1(k m1:Nat):KR:=cj P cal (aK P cal m1) none 63 (cL (cL (cR (cL (cR (cR (cR ew))))))) (La (La (Lb (La (Lb (Lb (Lb (A 63)))))))) (OQ cal k m1) (uQ cal k) (av P bJ)
noncomputable def R63_1(k m1:Nat):V2:=fun u1 u3 H n=>aK P cal m1 (La (Lb (La (Lb (Lb (Lb (A 63))))))) none 63 (cL (cR (cL (cR (cR (cR ew)))))) (VY cal k) (uQ cal k) (av P bJ) (ts (ts Tr.nil 3 u3) 1 u1) H n []
noncomputable def B63_4(cal:Cal)(k m1 m2:Nat)(b3:V2)(b4:V4)(u1 u6 u7 u8:Value)(H:Hp)(n:Nat):Res:=
binK P .lss 3 (.tmp 130) (.tmp 131) u8 u6 fun v_9p=>
ifK v_9p (
aq (aw P 26 u1 1) fun v_9q=>
aq (aV v_9q) fun a_9s=>aq (az P H 23 a_9s) fun v_9r=>
aq (aJ P 23 v_9r u8) fun v_9u=>
aq (aV v_9u) fun a_9w=>aq (az P H 102 a_9w) fun v_9v=>
eQ P 102 H n fun v_9x H_9y n_9z=>
aq (bX P 102 v_9x v_9v H_9y) fun H_a1=>
aq (aV v_9x) fun a_a3=>aq (az P H_a1 102 a_a3) fun v_a2=>
aq (aV u7) fun a_a5=>aq (az P H_a1 102 a_a5) fun v_a4=>
binK P .eql 102 (.tmp 140) (.tmp 141) v_a2 v_a4 fun v_a6=>
aQ v_a6 false (fun k_a8=>
aq (aw P 102 v_9x 0) fun v_ac=>
k_a8 v_ac H_a1 n_9z) H_a1 n_9z fun v_a9 H_aa n_ab=>
aQ v_a6 false (fun k_ad=>
aq (aV v_a9) fun a_ai=>aq (az P H_aa 3 a_ai) fun v_ah=>
k_ad v_ah H_aa n_ab) H_aa n_ab fun v_ae H_af n_ag=>
aQ v_a6 false (fun k_aj=>
aq (aw P 102 u7 1) fun v_an=>
k_aj v_an H_af n_ag) H_af n_ag fun v_ak H_al n_am=>
aQ v_a6 false (fun k_ao=>
aq (aV v_ak) fun a_at=>aq (az P H_al 3 a_at) fun v_as=>
k_ao v_as H_al n_am) H_al n_am fun v_ap H_aq n_ar=>
aQ v_a6 false (fun k_au=>
binK P .eql 3 (.tmp 145) (.tmp 147) v_ae v_ap fun v_ay=>
k_au v_ay H_aq n_ar) H_aq n_ar fun v_av H_aw n_ax=>
aQ v_a6 false (fun k_az=>
k_az v_av H_aw n_ax) H_aw n_ax fun v_b0 H_b1 n_b2=>
aQ v_b0 true (fun k_b4=>
aq (aw P 102 v_9x 1) fun v_b8=>
k_b4 v_b8 H_b1 n_b2) H_b1 n_b2 fun v_b5 H_b6 n_b7=>
aQ v_b0 true (fun k_b9=>
aq (aV v_b5) fun a_be=>aq (az P H_b6 3 a_be) fun v_bd=>
k_b9 v_bd H_b6 n_b7) H_b6 n_b7 fun v_ba H_bb n_bc=>
aQ v_b0 true (fun k_bf=>
aq (aw P 102 u7 0) fun v_bj=>
k_bf v_bj H_bb n_bc) H_bb n_bc fun v_bg H_bh n_bi=>
aQ v_b0 true (fun k_bk=>
aq (aV v_bg) fun a_bp=>aq (az P H_bh 3 a_bp) fun v_bo=>
k_bk v_bo H_bh n_bi) H_bh n_bi fun v_bl H_bm n_bn=>
aQ v_b0 true (fun k_bq=>
binK P .eql 3 (.tmp 151) (.tmp 153) v_ba v_bl fun v_bu=>
k_bq v_bu H_bm n_bn) H_bm n_bn fun v_br H_bs n_bt=>
aQ v_a6 false (fun k_bv=>
aq (fy v_b0 v_br (.bool false)) fun v_bz=>
k_bv v_bz H_bs n_bt) H_bs n_bt fun v_bw H_bx n_by=>
aq (fy v_a6 (.bool true) v_bw) fun v_c0=>
ifK v_c0 (
some ((.int .i64 1),H_bx,n_by)) (
binK P .add 3 (.tmp 133) (.const (.int .i64 1)) u8 (.int .i64 1) fun v_c3=>
b4 u1 u6 u7 v_c3 H_bx n_by)) (
binK P .add 3 (.tmp 98) (.const (.int .i64 1)) u6 (.int .i64 1) fun v_c6=>
b3 u1 v_c6 H n)
noncomputable def C63_4(k m1 m2:Nat)(b3:V2)(b4:V4)(u1 u6 u7 u8:Value)(H:Hp)(n:Nat):Res:=B63_4 cal k m1 m2 b3 b4 u1 u6 u7 u8 H n
noncomputable def S63_4(k m1:Nat)(b3:V2):Nat→V4:=fun m=>Nat.rec (motive:=fun _=>V4) (C63_4 cal k m1 0 b3 (fun _ _ _ _ _ _=>none)) (fun m ih=>C63_4 cal k m1 (m+1) b3 ih) m
theorem h63_4(k m1 m2:Nat)(u1 u6 u7 u8:Value)(H:Hp)(n:Nat):labK (E63_4 cal k m1 m2) (ts (ts (ts (ts Tr.nil 8 u8) 7 u7) 6 u6) 1 u1) H n []=C63_4 cal k m1 m2 (Sx cal k m1) (R63_4 cal k m1 m2) u1 u6 u7 u8 H n:=by
 refine Eq.trans (b:=B63_4 cal k m1 m2 (Sx cal k m1) (R63_4 cal k m1 m2) u1 u6 u7 u8 H n) (by kernel_rfl) ?_
 rw[C63_4]
theorem q63_4(k m1:Nat):∀(m:Nat) (u1 u6 u7 u8:Value) (H:Hp) (n:Nat),labK (E63_4 cal k m1 m) (ts (ts (ts (ts Tr.nil 8 u8) 7 u7) 6 u6) 1 u1) H n []=S63_4 cal k m1 (Sx cal k m1) m u1 u6 u7 u8 H n
 | 0,u1,u6,u7,u8,H,n=>by
  rw[h63_4]
  have e:R63_4 cal k m1 0=fun _ _ _ _ _ _=>none:=by funext u1 u6 u7 u8 H n; kernel_rfl
  rw[e]; rfl
 | m+1,u1,u6,u7,u8,H,n=>by
  rw[h63_4]
  have e:R63_4 cal k m1 (m+1)=S63_4 cal k m1 (Sx cal k m1) m:=by
   funext u1 u6 u7 u8 H n
   have e:R63_4 cal k m1 (m+1) u1 u6 u7 u8 H n=labK (E63_4 cal k m1 m) (ts (ts (ts (ts Tr.nil 8 u8) 7 u7) 6 u6) 1 u1) H n []:=by kernel_rfl
   rw[e]; exact q63_4 ..
  rw[e]; rfl
noncomputable def B63_3(cal:Cal)(k m1:Nat)(j4:V4)(b3:V2)(u1 u6:Value)(H:Hp)(n:Nat):Res:=
aq (aw P 26 u1 1) fun v_6p=>
aq (aV v_6p) fun a_6r=>aq (az P H 23 a_6r) fun v_6q=>
aq (lenV P 23 v_6q) fun v_6s=>
binK P .lss 3 (.tmp 93) (.tmp 96) u6 v_6s fun v_6t=>
ifK v_6t (
aq (aw P 26 u1 1) fun v_6u=>
aq (aV v_6u) fun a_6w=>aq (az P H 23 a_6w) fun v_6v=>
aq (aJ P 23 v_6v u6) fun v_6y=>
aq (aV v_6y) fun a_70=>aq (az P H 102 a_70) fun v_6z=>
eQ P 102 H n fun v_71 H_72 n_73=>
aq (bX P 102 v_71 v_6z H_72) fun H_75=>
aq (aw P 102 v_71 0) fun v_76=>
aq (aV v_76) fun a_78=>aq (az P H_75 3 a_78) fun v_77=>
aq (aw P 26 u1 0) fun v_79=>
aq (aV v_79) fun a_7b=>aq (az P H_75 22 a_7b) fun v_7a=>
aq (lenV P 22 v_7a) fun v_7c=>
binK P .sub 3 (.tmp 109) (.const (.int .i64 1)) v_7c (.int .i64 1) fun v_7d=>
aX P cal 32 [v_77,(.int .i64 0),v_7d] H_75 n_73 fun v_7e H_7f n_7g=>
aq (dX P v_7e (Op.unary UnOp.not v_7e)) fun v_7h=>
aQ v_7h false (fun k_7j=>
aq (aw P 102 v_71 1) fun v_7n=>
k_7j v_7n H_7f n_7g) H_7f n_7g fun v_7k H_7l n_7m=>
aQ v_7h false (fun k_7o=>
aq (aV v_7k) fun a_7t=>aq (az P H_7l 3 a_7t) fun v_7s=>
k_7o v_7s H_7l n_7m) H_7l n_7m fun v_7p H_7q n_7r=>
aQ v_7h false (fun k_7u=>
aq (aw P 26 u1 0) fun v_7y=>
k_7u v_7y H_7q n_7r) H_7q n_7r fun v_7v H_7w n_7x=>
aQ v_7h false (fun k_7z=>
aq (aV v_7v) fun a_84=>aq (az P H_7w 22 a_84) fun v_83=>
k_7z v_83 H_7w n_7x) H_7w n_7x fun v_80 H_81 n_82=>
aQ v_7h false (fun k_85=>
aq (lenV P 22 v_80) fun v_89=>
k_85 v_89 H_81 n_82) H_81 n_82 fun v_86 H_87 n_88=>
aQ v_7h false (fun k_8a=>
binK P .sub 3 (.tmp 118) (.const (.int .i64 1)) v_86 (.int .i64 1) fun v_8e=>
k_8a v_8e H_87 n_88) H_87 n_88 fun v_8b H_8c n_8d=>
aQ v_7h false (fun k_8f=>
aX P cal 32 [v_7p,(.int .i64 0),v_8b] H_8c n_8d fun v_8j H_8k n_8l=>
k_8f v_8j H_8k n_8l) H_8c n_8d fun v_8g H_8h n_8i=>
aQ v_7h false (fun k_8m=>
aq (dX P v_8g (Op.unary UnOp.not v_8g)) fun v_8q=>
k_8m v_8q H_8h n_8i) H_8h n_8i fun v_8n H_8o n_8p=>
aq (fy v_7h (.bool true) v_8n) fun v_8r=>
aQ v_8r false (fun k_8t=>
aq (aw P 102 v_71 0) fun v_8x=>
k_8t v_8x H_8o n_8p) H_8o n_8p fun v_8u H_8v n_8w=>
aQ v_8r false (fun k_8y=>
aq (aV v_8u) fun a_93=>aq (az P H_8v 3 a_93) fun v_92=>
k_8y v_92 H_8v n_8w) H_8v n_8w fun v_8z H_90 n_91=>
aQ v_8r false (fun k_94=>
aq (aw P 102 v_71 1) fun v_98=>
k_94 v_98 H_90 n_91) H_90 n_91 fun v_95 H_96 n_97=>
aQ v_8r false (fun k_99=>
aq (aV v_95) fun a_9e=>aq (az P H_96 3 a_9e) fun v_9d=>
k_99 v_9d H_96 n_97) H_96 n_97 fun v_9a H_9b n_9c=>
aQ v_8r false (fun k_9f=>
binK P .eql 3 (.tmp 125) (.tmp 127) v_8z v_9a fun v_9j=>
k_9f v_9j H_9b n_9c) H_9b n_9c fun v_9g H_9h n_9i=>
aq (fy v_8r (.bool true) v_9g) fun v_9k=>
ifK v_9k (
some ((.int .i64 1),H_9h,n_9i)) (
j4 u1 u6 v_71 (.int .i64 0) H_9h n_9i)) (
some ((.int .i64 0),H,n))
noncomputable def C63_3(k m1:Nat)(b3:V2)(u1 u6:Value)(H:Hp)(n:Nat):Res:=B63_3 cal k m1 (S63_4 cal k m1 b3 m1) b3 u1 u6 H n
noncomputable def S63_3(k:Nat):Nat→V2:=fun m=>Nat.rec (motive:=fun _=>V2) (C63_3 cal k 0 (fun _ _ _ _=>none)) (fun m ih=>C63_3 cal k (m+1) ih) m
theorem h63_3(k m1:Nat)(u1 u6:Value)(H:Hp)(n:Nat):labK (E63_3 cal k m1) (ts (ts Tr.nil 6 u6) 1 u1) H n []=C63_3 cal k m1 (Sx cal k m1) u1 u6 H n:=by
 refine Eq.trans (b:=B63_3 cal k m1 (fun u1 u6 u7 u8 H n=>labK (E63_4 cal k m1 m1) (ts (ts (ts (ts Tr.nil 8 u8) 7 u7) 6 u6) 1 u1) H n []) (Sx cal k m1) u1 u6 H n) (by kernel_rfl) ?_
 rw[C63_3]
 have e4:(fun u1 u6 u7 u8 H n=>labK (E63_4 cal k m1 m1) (ts (ts (ts (ts Tr.nil 8 u8) 7 u7) 6 u6) 1 u1) H n [])=(S63_4 cal k m1 (Sx cal k m1) m1):=by funext u1 u6 u7 u8 H n; exact q63_4 ..
 rw[e4]
theorem q63_3(k:Nat):∀(m:Nat) (u1 u6:Value) (H:Hp) (n:Nat),labK (E63_3 cal k m) (ts (ts Tr.nil 6 u6) 1 u1) H n []=S63_3 cal k m u1 u6 H n
 | 0,u1,u6,H,n=>by
  rw[h63_3]
  have e:Sx cal k 0=fun _ _ _ _=>none:=by funext u1 u6 H n; kernel_rfl
  rw[e]; rfl
 | m+1,u1,u6,H,n=>by
  rw[h63_3]
  have e:Sx cal k (m+1)=S63_3 cal k m:=by
   funext u1 u6 H n
   have e:Sx cal k (m+1) u1 u6 H n=labK (E63_3 cal k m) (ts (ts Tr.nil 6 u6) 1 u1) H n []:=by kernel_rfl
   rw[e]; exact q63_3 ..
  rw[e]; rfl
noncomputable def B63_2(cal:Cal)(k m1:Nat)(j3:V2)(b2:V2)(u1 u4:Value)(H:Hp)(n:Nat):Res:=
aq (aw P 26 u1 2) fun v_3b=>
aq (aV v_3b) fun a_3d=>aq (az P H 24 a_3d) fun v_3c=>
aq (lenV P 24 v_3c) fun v_3e=>
binK P .lss 3 (.tmp 57) (.tmp 60) u4 v_3e fun v_3f=>
ifK v_3f (
aq (aw P 26 u1 2) fun v_3g=>
aq (aV v_3g) fun a_3i=>aq (az P H 24 a_3i) fun v_3h=>
aq (aJ P 24 v_3h u4) fun v_3k=>
aq (aV v_3k) fun a_3m=>aq (az P H 94 a_3m) fun v_3l=>
eQ P 94 H n fun v_3n H_3o n_3p=>
aq (bX P 94 v_3n v_3l H_3o) fun H_3r=>
aq (aw P 94 v_3n 0) fun v_3s=>
aq (aV v_3s) fun a_3u=>aq (az P H_3r 3 a_3u) fun v_3t=>
aX P cal 32 [v_3t,(.int .i64 0),(.int .i64 1000)] H_3r n_3p fun v_3v H_3w n_3x=>
aq (dX P v_3v (Op.unary UnOp.not v_3v)) fun v_3y=>
aQ v_3y false (fun k_40=>
aq (aw P 94 v_3n 1) fun v_44=>
k_40 v_44 H_3w n_3x) H_3w n_3x fun v_41 H_42 n_43=>
aQ v_3y false (fun k_45=>
aq (aw P 55 v_41 0) fun v_49=>
k_45 v_49 H_42 n_43) H_42 n_43 fun v_46 H_47 n_48=>
aQ v_3y false (fun k_4a=>
aq (aV v_46) fun a_4f=>aq (az P H_47 3 a_4f) fun v_4e=>
k_4a v_4e H_47 n_48) H_47 n_48 fun v_4b H_4c n_4d=>
aQ v_3y false (fun k_4g=>
aq (aw P 94 v_3n 1) fun v_4k=>
k_4g v_4k H_4c n_4d) H_4c n_4d fun v_4h H_4i n_4j=>
aQ v_3y false (fun k_4l=>
aq (aw P 55 v_4h 1) fun v_4p=>
k_4l v_4p H_4i n_4j) H_4i n_4j fun v_4m H_4n n_4o=>
aQ v_3y false (fun k_4q=>
aq (aV v_4m) fun a_4v=>aq (az P H_4n 3 a_4v) fun v_4u=>
k_4q v_4u H_4n n_4o) H_4n n_4o fun v_4r H_4s n_4t=>
aQ v_3y false (fun k_4w=>
aX P cal 100 [v_4b,v_4r] H_4s n_4t fun v_50 H_51 n_52=>
k_4w v_50 H_51 n_52) H_4s n_4t fun v_4x H_4y n_4z=>
aQ v_3y false (fun k_53=>
aq (dX P v_4x (Op.unary UnOp.not v_4x)) fun v_57=>
k_53 v_57 H_4y n_4z) H_4y n_4z fun v_54 H_55 n_56=>
aq (fy v_3y (.bool true) v_54) fun v_58=>
aQ v_58 false (fun k_5a=>
aq (aw P 94 v_3n 2) fun v_5e=>
k_5a v_5e H_55 n_56) H_55 n_56 fun v_5b H_5c n_5d=>
aQ v_58 false (fun k_5f=>
aq (aw P 55 v_5b 0) fun v_5j=>
k_5f v_5j H_5c n_5d) H_5c n_5d fun v_5g H_5h n_5i=>
aQ v_58 false (fun k_5k=>
aq (aV v_5g) fun a_5p=>aq (az P H_5h 3 a_5p) fun v_5o=>
k_5k v_5o H_5h n_5i) H_5h n_5i fun v_5l H_5m n_5n=>
aQ v_58 false (fun k_5q=>
aq (aw P 94 v_3n 2) fun v_5u=>
k_5q v_5u H_5m n_5n) H_5m n_5n fun v_5r H_5s n_5t=>
aQ v_58 false (fun k_5v=>
aq (aw P 55 v_5r 1) fun v_5z=>
k_5v v_5z H_5s n_5t) H_5s n_5t fun v_5w H_5x n_5y=>
aQ v_58 false (fun k_60=>
aq (aV v_5w) fun a_65=>aq (az P H_5x 3 a_65) fun v_64=>
k_60 v_64 H_5x n_5y) H_5x n_5y fun v_61 H_62 n_63=>
aQ v_58 false (fun k_66=>
aX P cal 100 [v_5l,v_61] H_62 n_63 fun v_6a H_6b n_6c=>
k_66 v_6a H_6b n_6c) H_62 n_63 fun v_67 H_68 n_69=>
aQ v_58 false (fun k_6d=>
aq (dX P v_67 (Op.unary UnOp.not v_67)) fun v_6h=>
k_6d v_6h H_68 n_69) H_68 n_69 fun v_6e H_6f n_6g=>
aq (fy v_58 (.bool true) v_6e) fun v_6i=>
ifK v_6i (
some ((.int .i64 1),H_6f,n_6g)) (
binK P .add 3 (.tmp 62) (.const (.int .i64 1)) u4 (.int .i64 1) fun v_6l=>
b2 u1 v_6l H_6f n_6g)) (
j3 u1 (.int .i64 0) H n)
noncomputable def C63_2(k m1:Nat)(b2:V2)(u1 u4:Value)(H:Hp)(n:Nat):Res:=B63_2 cal k m1 (S63_3 cal k k) b2 u1 u4 H n
noncomputable def S63_2(k:Nat):Nat→V2:=fun m=>Nat.rec (motive:=fun _=>V2) (C63_2 cal k 0 (fun _ _ _ _=>none)) (fun m ih=>C63_2 cal k (m+1) ih) m
theorem h63_2(k m1:Nat)(u1 u4:Value)(H:Hp)(n:Nat):labK (E63_2 cal k m1) (ts (ts Tr.nil 4 u4) 1 u1) H n []=C63_2 cal k m1 (R63_2 cal k m1) u1 u4 H n:=by
 refine Eq.trans (b:=B63_2 cal k m1 (fun u1 u6 H n=>labK (E63_3 cal k k) (ts (ts Tr.nil 6 u6) 1 u1) H n []) (R63_2 cal k m1) u1 u4 H n) (by kernel_rfl) ?_
 rw[C63_2]
 have e3:(fun u1 u6 H n=>labK (E63_3 cal k k) (ts (ts Tr.nil 6 u6) 1 u1) H n [])=(S63_3 cal k k):=by funext u1 u6 H n; exact q63_3 ..
 rw[e3]
theorem q63_2(k:Nat):∀(m:Nat) (u1 u4:Value) (H:Hp) (n:Nat),labK (E63_2 cal k m) (ts (ts Tr.nil 4 u4) 1 u1) H n []=S63_2 cal k m u1 u4 H n
 | 0,u1,u4,H,n=>by
  rw[h63_2]
  have e:R63_2 cal k 0=fun _ _ _ _=>none:=by funext u1 u4 H n; kernel_rfl
  rw[e]; rfl
 | m+1,u1,u4,H,n=>by
  rw[h63_2]
  have e:R63_2 cal k (m+1)=S63_2 cal k m:=by
   funext u1 u4 H n
   have e:R63_2 cal k (m+1) u1 u4 H n=labK (E63_2 cal k m) (ts (ts Tr.nil 4 u4) 1 u1) H n []:=by kernel_rfl
   rw[e]; exact q63_2 ..
  rw[e]; rfl
noncomputable def B63_1(cal:Cal)(k m1:Nat)(j2:V2)(b1:V2)(u1 u3:Value)(H:Hp)(n:Nat):Res:=
aq (aw P 26 u1 0) fun v_2g=>
aq (aV v_2g) fun a_2i=>aq (az P H 22 a_2i) fun v_2h=>
aq (lenV P 22 v_2h) fun v_2j=>
binK P .lss 3 (.tmp 36) (.tmp 39) u3 v_2j fun v_2k=>
ifK v_2k (
aq (aw P 26 u1 0) fun v_2l=>
aq (aV v_2l) fun a_2m=>aq (az P H 22 a_2m) fun v_2n=>
aq (aJ P 22 v_2n u3) fun v_2p=>
aq (aw P 95 v_2p 0) fun v_2q=>
aq (aV v_2q) fun a_2r=>aq (az P H 3 a_2r) fun v_2s=>
aq (aw P 26 u1 0) fun v_2t=>
aq (aV v_2t) fun a_2u=>aq (az P H 22 a_2u) fun v_2v=>
aq (aJ P 22 v_2v u3) fun v_2x=>
aq (aw P 95 v_2x 1) fun v_2y=>
aq (aV v_2y) fun a_2z=>aq (az P H 3 a_2z) fun v_30=>
aX P cal 100 [v_2s,v_30] H n fun v_31 H_32 n_33=>
aq (dX P v_31 (Op.unary UnOp.not v_31)) fun v_34=>
ifK v_34 (
some ((.int .i64 1),H_32,n_33)) (
binK P .add 3 (.tmp 41) (.const (.int .i64 1)) u3 (.int .i64 1) fun v_37=>
b1 u1 v_37 H_32 n_33)) (
j2 u1 (.int .i64 0) H n)
noncomputable def C63_1(k m1:Nat)(b1:V2)(u1 u3:Value)(H:Hp)(n:Nat):Res:=B63_1 cal k m1 (S63_2 cal k k) b1 u1 u3 H n
noncomputable def S63_1(k:Nat):Nat→V2:=fun m=>Nat.rec (motive:=fun _=>V2) (C63_1 cal k 0 (fun _ _ _ _=>none)) (fun m ih=>C63_1 cal k (m+1) ih) m
theorem h63_1(k m1:Nat)(u1 u3:Value)(H:Hp)(n:Nat):labK (E63_1 cal k m1) (ts (ts Tr.nil 3 u3) 1 u1) H n []=C63_1 cal k m1 (R63_1 cal k m1) u1 u3 H n:=by
 refine Eq.trans (b:=B63_1 cal k m1 (fun u1 u4 H n=>labK (E63_2 cal k k) (ts (ts Tr.nil 4 u4) 1 u1) H n []) (R63_1 cal k m1) u1 u3 H n) (by kernel_rfl) ?_
 rw[C63_1]
 have e2:(fun u1 u4 H n=>labK (E63_2 cal k k) (ts (ts Tr.nil 4 u4) 1 u1) H n [])=(S63_2 cal k k):=by funext u1 u4 H n; exact q63_2 ..
 rw[e2]
theorem q63_1(k:Nat):∀(m:Nat) (u1 u3:Value) (H:Hp) (n:Nat),labK (E63_1 cal k m) (ts (ts Tr.nil 3 u3) 1 u1) H n []=S63_1 cal k m u1 u3 H n
 | 0,u1,u3,H,n=>by
  rw[h63_1]
  have e:R63_1 cal k 0=fun _ _ _ _=>none:=by funext u1 u3 H n; kernel_rfl
  rw[e]; rfl
 | m+1,u1,u3,H,n=>by
  rw[h63_1]
  have e:R63_1 cal k (m+1)=S63_1 cal k m:=by
   funext u1 u3 H n
   have e:R63_1 cal k (m+1) u1 u3 H n=labK (E63_1 cal k m) (ts (ts Tr.nil 3 u3) 1 u1) H n []:=by kernel_rfl
   rw[e]; exact q63_1 ..
  rw[e]; rfl
noncomputable def B63_0(cal:Cal)(k:Nat)(j1:V2)(v0:Value)(H:Hp)(n:Nat):Res:=
boxK 26 v0 H n fun v_1 H_2 n_3=>
aq (aw P 26 v_1 0) fun v_5=>
aq (aV v_5) fun a_7=>aq (az P H_2 22 a_7) fun v_6=>
aq (lenV P 22 v_6) fun v_8=>
binK P .gtr 3 (.tmp 12) (.const (.int .i64 8)) v_8 (.int .i64 8) fun v_9=>
aQ v_9 false (fun k_b=>
aq (aw P 26 v_1 1) fun v_f=>
k_b v_f H_2 n_3) H_2 n_3 fun v_c H_d n_e=>
aQ v_9 false (fun k_g=>
aq (aV v_c) fun a_l=>aq (az P H_d 23 a_l) fun v_k=>
k_g v_k H_d n_e) H_d n_e fun v_h H_i n_j=>
aQ v_9 false (fun k_m=>
aq (lenV P 23 v_h) fun v_q=>
k_m v_q H_i n_j) H_i n_j fun v_n H_o n_p=>
aQ v_9 false (fun k_r=>
binK P .gtr 3 (.tmp 17) (.const (.int .i64 16)) v_n (.int .i64 16) fun v_v=>
k_r v_v H_o n_p) H_o n_p fun v_s H_t n_u=>
aq (fy v_9 (.bool true) v_s) fun v_w=>
aQ v_w false (fun k_y=>
aq (aw P 26 v_1 2) fun v_12=>
k_y v_12 H_t n_u) H_t n_u fun v_z H_10 n_11=>
aQ v_w false (fun k_13=>
aq (aV v_z) fun a_18=>aq (az P H_10 24 a_18) fun v_17=>
k_13 v_17 H_10 n_11) H_10 n_11 fun v_14 H_15 n_16=>
aQ v_w false (fun k_19=>
aq (lenV P 24 v_14) fun v_1d=>
k_19 v_1d H_15 n_16) H_15 n_16 fun v_1a H_1b n_1c=>
aQ v_w false (fun k_1e=>
binK P .gtr 3 (.tmp 23) (.const (.int .i64 3)) v_1a (.int .i64 3) fun v_1i=>
k_1e v_1i H_1b n_1c) H_1b n_1c fun v_1f H_1g n_1h=>
aq (fy v_w (.bool true) v_1f) fun v_1j=>
ifK v_1j (
some ((.int .i64 3),H_1g,n_1h)) (
aq (aw P 26 v_1 0) fun v_1l=>
aq (aV v_1l) fun a_1n=>aq (az P H_1g 22 a_1n) fun v_1m=>
aq (lenV P 22 v_1m) fun v_1o=>
binK P .eql 3 (.tmp 28) (.const (.int .i64 0)) v_1o (.int .i64 0) fun v_1p=>
aQ v_1p false (fun k_1r=>
aq (aw P 26 v_1 2) fun v_1v=>
k_1r v_1v H_1g n_1h) H_1g n_1h fun v_1s H_1t n_1u=>
aQ v_1p false (fun k_1w=>
aq (aV v_1s) fun a_21=>aq (az P H_1t 24 a_21) fun v_20=>
k_1w v_20 H_1t n_1u) H_1t n_1u fun v_1x H_1y n_1z=>
aQ v_1p false (fun k_22=>
aq (lenV P 24 v_1x) fun v_26=>
k_22 v_26 H_1y n_1z) H_1y n_1z fun v_23 H_24 n_25=>
aQ v_1p false (fun k_27=>
binK P .eql 3 (.tmp 33) (.const (.int .i64 0)) v_23 (.int .i64 0) fun v_2b=>
k_27 v_2b H_24 n_25) H_24 n_25 fun v_28 H_29 n_2a=>
aq (fy v_1p (.bool true) v_28) fun v_2c=>
ifK v_2c (
some ((.int .i64 1),H_29,n_2a)) (
j1 v_1 (.int .i64 0) H_29 n_2a))
noncomputable def C63_0(k:Nat)(v0:Value)(H:Hp)(n:Nat):Res:=B63_0 cal k (S63_1 cal k k) v0 H n
theorem h63_0(k:Nat)(v0:Value)(H:Hp)(n:Nat):aY P cal A (k+1) 63 [v0] H n=C63_0 cal k v0 H n:=by
 have h:aY P cal A (k+1) 63 [v0] H n=B63_0 cal k (fun u1 u3 H n=>labK (E63_1 cal k k) (ts (ts Tr.nil 3 u3) 1 u1) H n []) v0 H n:=by
  rw[bY (fn:=Go.Proofs.Try.f63) (c:=ew) (rs:=bJ) (by kernel_rfl) (by kernel_rfl) (by kernel_rfl) (by kernel_rfl)]
  kernel_rfl
 rw[h,C63_0]
 have e1:(fun u1 u3 H n=>labK (E63_1 cal k k) (ts (ts Tr.nil 3 u3) 1 u1) H n [])=(S63_1 cal k k):=by funext u1 u3 H n; exact q63_1 ..
 rw[e1]
noncomputable def vY:Code:=dj 64
noncomputable def gZ:List ResultVar:=fk 64
noncomputable def K64_p:KR:=kD cal k 64 vY (A 64) (av P gZ) X0 (av P gZ)
noncomputable def K64_pr:KR:=kD cal k 64 (cR vY) (Lb (A 64)) (av P gZ) X0 (av P gZ)
noncomputable def qfj:KR:=kD cal k 64 (cR (cR vY)) (Lb (Lb (A 64))) (av P gZ) X0 (av P gZ)
noncomputable def K64_prrl:KR:=kD cal k 64 (cL (cR (cR vY))) (La (Lb (Lb (A 64)))) (qfj cal k) X0 (av P gZ)
noncomputable def uV(k:Nat):XR:=(upX 0 (qfj cal k) X0)
noncomputable def LQ(k:Nat)(m1:Nat):KR:=(fun T H n D=>aK P cal m1 (La (Lb (La (Lb (Lb (A 64)))))) none 64 (cL (cR (cL (cR (cR vY))))) (qfj cal k) (uV cal k) (av P gZ) (cutT (La (Lb (La (Lb (Lb (A 64)))))).c T) H n D)
noncomputable def K64_prrlrll(k:Nat)(m1:Nat):KR:=kD cal m1 64 (cL (cL (cR (cL (cR (cR vY)))))) (La (La (Lb (La (Lb (Lb (A 64))))))) (LQ cal k m1) (uV cal k) (av P gZ)
noncomputable def K64_prrlrlll(k:Nat)(m1:Nat):KR:=kD cal m1 64 (cL (cL (cL (cR (cL (cR (cR vY))))))) (La (La (La (Lb (La (Lb (Lb (A 64)))))))) (K64_prrlrll cal k m1) (uV cal k) (av P gZ)
noncomputable def LV(k:Nat)(m1:Nat):KR:=kD cal m1 64 (cR (cL (cL (cR (cL (cR (cR vY))))))) (Lb (La (La (Lb (La (Lb (Lb (A 64)))))))) (LQ cal k m1) (uV cal k) (av P gZ)
noncomputable def K64_pxrrlrllrl(k:Nat)(m1:Nat):XR:=(upX 1 (LV cal k m1) (uV cal k))
noncomputable def K64_prrlrllrll(k:Nat)(m1:Nat):KR:=kD cal m1 64 (cL (cL (cR (cL (cL (cR (cL (cR (cR vY))))))))) (La (La (Lb (La (La (Lb (La (Lb (Lb (A 64)))))))))) (LV cal k m1) (K64_pxrrlrllrl cal k m1) (av P gZ)
noncomputable def K64_prrlrllrllr(k:Nat)(m1:Nat):KR:=kD cal m1 64 (cR (cL (cL (cR (cL (cL (cR (cL (cR (cR vY)))))))))) (Lb (La (La (Lb (La (La (Lb (La (Lb (Lb (A 64))))))))))) (LV cal k m1) (K64_pxrrlrllrl cal k m1) (av P gZ)
noncomputable def K64_prrr:KR:=kD cal k 64 (cR (cR (cR vY))) (Lb (Lb (Lb (A 64)))) (av P gZ) X0 (av P gZ)
noncomputable def K64_prrrr:KR:=kD cal k 64 (cR (cR (cR (cR vY)))) (Lb (Lb (Lb (Lb (A 64))))) (av P gZ) X0 (av P gZ)
noncomputable def E64_2(k m1:Nat):KR:=cj P cal (aK P cal m1) none 64 (cR (cR (cL (cL (cR (cL (cR (cR vY)))))))) (Lb (Lb (La (La (Lb (La (Lb (Lb (A 64))))))))) (LQ cal k m1) (uV cal k) (av P gZ)
noncomputable def E64_1(k m1:Nat):KR:=cj P cal (aK P cal m1) none 64 (cL (cL (cR (cL (cR (cR vY)))))) (La (La (Lb (La (Lb (Lb (A 64))))))) (LQ cal k m1) (uV cal k) (av P gZ)
noncomputable def R64_1(k m1:Nat):V8:=fun u1 u2 u3 u4 u5 u11 u12 u13 H n=>aK P cal m1 (La (Lb (La (Lb (Lb (A 64)))))) none 64 (cL (cR (cL (cR (cR vY))))) (qfj cal k) (uV cal k) (av P gZ) (ts (ts (ts (ts (ts (ts (ts (ts Tr.nil 13 u13) 12 u12) 11 u11) 5 u5) 4 u4) 3 u3) 2 u2) 1 u1) H n []
noncomputable def B64_2(cal:Cal)(k m1:Nat)(b1:V8)(u1 u2 u3 u4 u5 u11 u12 u13:Value)(H:Hp)(n:Nat):Res:=
binK P .add 3 (.tmp 23) (.const (.int .i64 1)) u13 (.int .i64 1) fun v_h=>
b1 u1 u2 u3 u4 u5 u11 u12 v_h H n
noncomputable def C64_2(k m1:Nat)(b1:V8)(u1 u2 u3 u4 u5 u11 u12 u13:Value)(H:Hp)(n:Nat):Res:=B64_2 cal k m1 b1 u1 u2 u3 u4 u5 u11 u12 u13 H n
theorem h64_2(k m1:Nat)(u1 u2 u3 u4 u5 u11 u12 u13:Value)(H:Hp)(n:Nat):labK (E64_2 cal k m1) (ts (ts (ts (ts (ts (ts (ts (ts Tr.nil 13 u13) 12 u12) 11 u11) 5 u5) 4 u4) 3 u3) 2 u2) 1 u1) H n []=C64_2 cal k m1 (R64_1 cal k m1) u1 u2 u3 u4 u5 u11 u12 u13 H n:=by
 refine Eq.trans (b:=B64_2 cal k m1 (R64_1 cal k m1) u1 u2 u3 u4 u5 u11 u12 u13 H n) (by kernel_rfl) ?_
 rw[C64_2]
noncomputable def B64_1(cal:Cal)(k m1:Nat)(j2:V8)(b1:V8)(u1 u2 u3 u4 u5 u11 u12 u13:Value)(H:Hp)(n:Nat):Res:=
aq (aw P 26 u5 0) fun v_b=>
aq (aV v_b) fun a_d=>aq (az P H 22 a_d) fun v_c=>
aq (lenV P 22 v_c) fun v_e=>
binK P .lss 3 (.tmp 18) (.tmp 21) u13 v_e fun v_f=>
ifK v_f (
aq (aV u5) fun a_k=>aq (az P H 26 a_k) fun v_j=>
aX P cal 77 [v_j,u1,u2,u13] H n fun v_o H_p n_q=>
eQ P 55 H_p n_q fun v_r H_s n_t=>
aq (bX P 55 v_r v_o H_s) fun H_v=>
binK P .neq 3 (.tmp 30) (.tmp 31) u13 u3 fun v_y=>
ifK v_y (
aq (aw P 55 v_r 0) fun v_10=>
aq (aV v_10) fun a_11=>aq (az P H_v 3 a_11) fun v_12=>
binK P .add 3 (.tmp 33) (.tmp 35) u11 v_12 fun v_13=>
aq (aw P 55 v_r 1) fun v_15=>
aq (aV v_15) fun a_16=>aq (az P H_v 3 a_16) fun v_17=>
binK P .add 3 (.tmp 37) (.tmp 39) u12 v_17 fun v_18=>
j2 u1 u2 u3 u4 u5 v_13 v_18 u13 H_v n_t) (
j2 u1 u2 u3 u4 u5 u11 u12 u13 H_v n_t)) (
aq (aV u5) fun a_1c=>aq (az P H 26 a_1c) fun v_1b=>
aX P cal 77 [v_1b,u1,u2,u3] H n fun v_1g H_1h n_1i=>
eQ P 55 H_1h n_1i fun v_1j H_1k n_1l=>
aq (bX P 55 v_1j v_1g H_1k) fun H_1n=>
aq (aw P 55 v_1j 0) fun v_1p=>
aq (aV v_1p) fun a_1r=>aq (az P H_1n 3 a_1r) fun v_1q=>
aq (aw P 55 v_1j 1) fun v_1s=>
aq (aV v_1s) fun a_1u=>aq (az P H_1n 3 a_1u) fun v_1t=>
aX P cal 32 [u4,v_1q,v_1t] H_1n n_1l fun v_1v H_1w n_1x=>
aQ v_1v true (fun k_1z=>
aq (aw P 26 u5 2) fun v_23=>
k_1z v_23 H_1w n_1x) H_1w n_1x fun v_20 H_21 n_22=>
aQ v_1v true (fun k_24=>
aq (aV v_20) fun a_29=>aq (az P H_21 24 a_29) fun v_28=>
k_24 v_28 H_21 n_22) H_21 n_22 fun v_25 H_26 n_27=>
aQ v_1v true (fun k_2a=>
k_2a u1 H_26 n_27) H_26 n_27 fun v_2b H_2c n_2d=>
aQ v_1v true (fun k_2f=>
aq (aJ P 24 v_25 v_2b) fun v_2j=>
k_2f v_2j H_2c n_2d) H_2c n_2d fun v_2g H_2h n_2i=>
aQ v_1v true (fun k_2k=>
aq (aw P 94 v_2g 0) fun v_2o=>
k_2k v_2o H_2h n_2i) H_2h n_2i fun v_2l H_2m n_2n=>
aQ v_1v true (fun k_2p=>
aq (aV v_2l) fun a_2u=>aq (az P H_2m 3 a_2u) fun v_2t=>
k_2p v_2t H_2m n_2n) H_2m n_2n fun v_2q H_2r n_2s=>
aQ v_1v true (fun k_2v=>
k_2v u11 H_2r n_2s) H_2r n_2s fun v_2w H_2x n_2y=>
aQ v_1v true (fun k_30=>
k_30 u12 H_2x n_2y) H_2x n_2y fun v_31 H_32 n_33=>
aQ v_1v true (fun k_35=>
aX P cal 32 [v_2q,v_2w,v_31] H_32 n_33 fun v_39 H_3a n_3b=>
k_35 v_39 H_3a n_3b) H_32 n_33 fun v_36 H_37 n_38=>
aq (fy v_1v v_36 (.bool false)) fun v_3c=>
some (v_3c,H_37,n_38))
noncomputable def C64_1(k m1:Nat)(b1:V8)(u1 u2 u3 u4 u5 u11 u12 u13:Value)(H:Hp)(n:Nat):Res:=B64_1 cal k m1 (C64_2 cal k m1 b1) b1 u1 u2 u3 u4 u5 u11 u12 u13 H n
noncomputable def S64_1(k:Nat):Nat→V8:=fun m=>Nat.rec (motive:=fun _=>V8) (C64_1 cal k 0 (fun _ _ _ _ _ _ _ _ _ _=>none)) (fun m ih=>C64_1 cal k (m+1) ih) m
theorem h64_1(k m1:Nat)(u1 u2 u3 u4 u5 u11 u12 u13:Value)(H:Hp)(n:Nat):labK (E64_1 cal k m1) (ts (ts (ts (ts (ts (ts (ts (ts Tr.nil 13 u13) 12 u12) 11 u11) 5 u5) 4 u4) 3 u3) 2 u2) 1 u1) H n []=C64_1 cal k m1 (R64_1 cal k m1) u1 u2 u3 u4 u5 u11 u12 u13 H n:=by
 refine Eq.trans (b:=B64_1 cal k m1 (fun u1 u2 u3 u4 u5 u11 u12 u13 H n=>labK (E64_2 cal k m1) (ts (ts (ts (ts (ts (ts (ts (ts Tr.nil 13 u13) 12 u12) 11 u11) 5 u5) 4 u4) 3 u3) 2 u2) 1 u1) H n []) (R64_1 cal k m1) u1 u2 u3 u4 u5 u11 u12 u13 H n) (by kernel_rfl) ?_
 rw[C64_1]
 have e2:(fun u1 u2 u3 u4 u5 u11 u12 u13 H n=>labK (E64_2 cal k m1) (ts (ts (ts (ts (ts (ts (ts (ts Tr.nil 13 u13) 12 u12) 11 u11) 5 u5) 4 u4) 3 u3) 2 u2) 1 u1) H n [])=(C64_2 cal k m1 (R64_1 cal k m1)):=by funext u1 u2 u3 u4 u5 u11 u12 u13 H n; exact h64_2 ..
 rw[e2]
theorem q64_1(k:Nat):∀(m:Nat) (u1 u2 u3 u4 u5 u11 u12 u13:Value) (H:Hp) (n:Nat),labK (E64_1 cal k m) (ts (ts (ts (ts (ts (ts (ts (ts Tr.nil 13 u13) 12 u12) 11 u11) 5 u5) 4 u4) 3 u3) 2 u2) 1 u1) H n []=S64_1 cal k m u1 u2 u3 u4 u5 u11 u12 u13 H n
 | 0,u1,u2,u3,u4,u5,u11,u12,u13,H,n=>by
  rw[h64_1]
  have e:R64_1 cal k 0=fun _ _ _ _ _ _ _ _ _ _=>none:=by funext u1 u2 u3 u4 u5 u11 u12 u13 H n; kernel_rfl
  rw[e]; rfl
 | m+1,u1,u2,u3,u4,u5,u11,u12,u13,H,n=>by
  rw[h64_1]
  have e:R64_1 cal k (m+1)=S64_1 cal k m:=by
   funext u1 u2 u3 u4 u5 u11 u12 u13 H n
   have e:R64_1 cal k (m+1) u1 u2 u3 u4 u5 u11 u12 u13 H n=labK (E64_1 cal k m) (ts (ts (ts (ts (ts (ts (ts (ts Tr.nil 13 u13) 12 u12) 11 u11) 5 u5) 4 u4) 3 u3) 2 u2) 1 u1) H n []:=by kernel_rfl
   rw[e]; exact q64_1 ..
  rw[e]; rfl
noncomputable def B64_0(cal:Cal)(k:Nat)(j1:V8)(v0 v1 v2 v3 v4:Value)(H:Hp)(n:Nat):Res:=
boxK 26 v0 H n fun v_1 H_2 n_3=>
j1 v1 v2 v3 v4 v_1 v4 v4 (.int .i64 0) H_2 n_3
noncomputable def C64_0(k:Nat)(v0 v1 v2 v3 v4:Value)(H:Hp)(n:Nat):Res:=B64_0 cal k (S64_1 cal k k) v0 v1 v2 v3 v4 H n
theorem h64_0(k:Nat)(v0 v1 v2 v3 v4:Value)(H:Hp)(n:Nat):aY P cal A (k+1) 64 [v0,v1,v2,v3,v4] H n=C64_0 cal k v0 v1 v2 v3 v4 H n:=by
 have h:aY P cal A (k+1) 64 [v0,v1,v2,v3,v4] H n=B64_0 cal k (fun u1 u2 u3 u4 u5 u11 u12 u13 H n=>labK (E64_1 cal k k) (ts (ts (ts (ts (ts (ts (ts (ts Tr.nil 13 u13) 12 u12) 11 u11) 5 u5) 4 u4) 3 u3) 2 u2) 1 u1) H n []) v0 v1 v2 v3 v4 H n:=by
  rw[bY (fn:=Go.Proofs.Try.f64) (c:=vY) (rs:=gZ) (by kernel_rfl) (by kernel_rfl) (by kernel_rfl) (by kernel_rfl)]
  kernel_rfl
 rw[h,C64_0]
 have e1:(fun u1 u2 u3 u4 u5 u11 u12 u13 H n=>labK (E64_1 cal k k) (ts (ts (ts (ts (ts (ts (ts (ts Tr.nil 13 u13) 12 u12) 11 u11) 5 u5) 4 u4) 3 u3) 2 u2) 1 u1) H n [])=(S64_1 cal k k):=by funext u1 u2 u3 u4 u5 u11 u12 u13 H n; exact q64_1 ..
 rw[e1]
noncomputable def oz:Code:=dj 65
noncomputable def cQ:List ResultVar:=fk 65
noncomputable def K65_p:KR:=kD cal k 65 oz (A 65) (av P cQ) X0 (av P cQ)
noncomputable def K65_pr:KR:=kD cal k 65 (cR oz) (Lb (A 65)) (av P cQ) X0 (av P cQ)
noncomputable def K65_prr:KR:=kD cal k 65 (cR (cR oz)) (Lb (Lb (A 65))) (av P cQ) X0 (av P cQ)
noncomputable def K65_prrl:KR:=kD cal k 65 (cL (cR (cR oz))) (La (Lb (Lb (A 65)))) (K65_prr cal k) X0 (av P cQ)
noncomputable def K65_prrlrl:KR:=kD cal k 65 (cL (cR (cL (cR (cR oz))))) (La (Lb (La (Lb (Lb (A 65)))))) (K65_prr cal k) X0 (av P cQ)
noncomputable def K65_prrr:KR:=kD cal k 65 (cR (cR (cR oz))) (Lb (Lb (Lb (A 65)))) (av P cQ) X0 (av P cQ)
noncomputable def K65_prrrl:KR:=kD cal k 65 (cL (cR (cR (cR oz)))) (La (Lb (Lb (Lb (A 65))))) (K65_prrr cal k) X0 (av P cQ)
noncomputable def K65_prrrlrl:KR:=kD cal k 65 (cL (cR (cL (cR (cR (cR oz)))))) (La (Lb (La (Lb (Lb (Lb (A 65))))))) (K65_prrr cal k) X0 (av P cQ)
noncomputable def K65_prrrr:KR:=kD cal k 65 (cR (cR (cR (cR oz)))) (Lb (Lb (Lb (Lb (A 65))))) (av P cQ) X0 (av P cQ)
noncomputable def K65_prrrrr:KR:=kD cal k 65 (cR (cR (cR (cR (cR oz))))) (Lb (Lb (Lb (Lb (Lb (A 65)))))) (av P cQ) X0 (av P cQ)
noncomputable def GX:KR:=kD cal k 65 (cR (cR (cR (cR (cR (cR oz)))))) (Lb (Lb (Lb (Lb (Lb (Lb (A 65))))))) (av P cQ) X0 (av P cQ)
noncomputable def K65_prrrrrrl:KR:=kD cal k 65 (cL (cR (cR (cR (cR (cR (cR oz))))))) (La (Lb (Lb (Lb (Lb (Lb (Lb (A 65)))))))) (GX cal k) X0 (av P cQ)
noncomputable def oJ(k:Nat):XR:=(upX 0 (GX cal k) X0)
noncomputable def zW(k:Nat)(m1:Nat):KR:=(fun T H n D=>aK P cal m1 (La (Lb (La (Lb (Lb (Lb (Lb (Lb (Lb (A 65)))))))))) none 65 (cL (cR (cL (cR (cR (cR (cR (cR (cR oz))))))))) (GX cal k) (oJ cal k) (av P cQ) (cutT (La (Lb (La (Lb (Lb (Lb (Lb (Lb (Lb (A 65)))))))))).c T) H n D)
noncomputable def K65_prrrrrrlrll(k:Nat)(m1:Nat):KR:=kD cal m1 65 (cL (cL (cR (cL (cR (cR (cR (cR (cR (cR oz)))))))))) (La (La (Lb (La (Lb (Lb (Lb (Lb (Lb (Lb (A 65))))))))))) (zW cal k m1) (oJ cal k) (av P cQ)
noncomputable def K65_prrrrrrlrllr(k:Nat)(m1:Nat):KR:=kD cal m1 65 (cR (cL (cL (cR (cL (cR (cR (cR (cR (cR (cR oz))))))))))) (Lb (La (La (Lb (La (Lb (Lb (Lb (Lb (Lb (Lb (A 65)))))))))))) (zW cal k m1) (oJ cal k) (av P cQ)
noncomputable def tV(k:Nat)(m1:Nat):KR:=kD cal m1 65 (cR (cR (cL (cL (cR (cL (cR (cR (cR (cR (cR (cR oz)))))))))))) (Lb (Lb (La (La (Lb (La (Lb (Lb (Lb (Lb (Lb (Lb (A 65))))))))))))) (zW cal k m1) (oJ cal k) (av P cQ)
noncomputable def vZ(k:Nat)(m1:Nat):XR:=(upX 1 (tV cal k m1) (oJ cal k))
noncomputable def K65_prrrrrrlrllrrll(k:Nat)(m1:Nat):KR:=kD cal m1 65 (cL (cL (cR (cR (cL (cL (cR (cL (cR (cR (cR (cR (cR (cR oz)))))))))))))) (La (La (Lb (Lb (La (La (Lb (La (Lb (Lb (Lb (Lb (Lb (Lb (A 65))))))))))))))) (tV cal k m1) (vZ cal k m1) (av P cQ)
noncomputable def K65_prrrrrrlrllrrllr(k:Nat)(m1:Nat):KR:=kD cal m1 65 (cR (cL (cL (cR (cR (cL (cL (cR (cL (cR (cR (cR (cR (cR (cR oz))))))))))))))) (Lb (La (La (Lb (Lb (La (La (Lb (La (Lb (Lb (Lb (Lb (Lb (Lb (A 65)))))))))))))))) (tV cal k m1) (vZ cal k m1) (av P cQ)
noncomputable def K65_prrrrrrlrllrrllrrl(k:Nat)(m1:Nat):KR:=kD cal m1 65 (cL (cR (cR (cL (cL (cR (cR (cL (cL (cR (cL (cR (cR (cR (cR (cR (cR oz))))))))))))))))) (La (Lb (Lb (La (La (Lb (Lb (La (La (Lb (La (Lb (Lb (Lb (Lb (Lb (Lb (A 65)))))))))))))))))) (tV cal k m1) (vZ cal k m1) (av P cQ)
noncomputable def K65_prrrrrrr:KR:=kD cal k 65 (cR (cR (cR (cR (cR (cR (cR oz))))))) (Lb (Lb (Lb (Lb (Lb (Lb (Lb (A 65)))))))) (av P cQ) X0 (av P cQ)
noncomputable def E65_1(k m1:Nat):KR:=cj P cal (aK P cal m1) none 65 (cL (cL (cR (cL (cR (cR (cR (cR (cR (cR oz)))))))))) (La (La (Lb (La (Lb (Lb (Lb (Lb (Lb (Lb (A 65))))))))))) (zW cal k m1) (oJ cal k) (av P cQ)
noncomputable def R65_1(k m1:Nat):V5:=fun u5 u7 u9 u35 u36 H n=>aK P cal m1 (La (Lb (La (Lb (Lb (Lb (Lb (Lb (Lb (A 65)))))))))) none 65 (cL (cR (cL (cR (cR (cR (cR (cR (cR oz))))))))) (GX cal k) (oJ cal k) (av P cQ) (ts (ts (ts (ts (ts Tr.nil 36 u36) 35 u35) 9 u9) 7 u7) 5 u5) H n []
noncomputable def B65_1(cal:Cal)(k m1:Nat)(b1:V5)(u5 u7 u9 u35 u36:Value)(H:Hp)(n:Nat):Res:=
binK P .lss 3 (.tmp 36) (.const (.int .i64 8)) u36 (.int .i64 8) fun v_1o=>
ifK v_1o (
aq (EJ P 119 u35 u36) fun v_1q=>
binK P .neq 3 (.tmp 40) (.const (.int .i64 (-1))) v_1q (.int .i64 (-1)) fun v_1u=>
aQ v_1u true (fun k_1w=>
k_1w u7 H n) H n fun v_1x H_1y n_1z=>
aQ v_1u true (fun k_21=>
k_21 u36 H_1y n_1z) H_1y n_1z fun v_22 H_23 n_24=>
aQ v_1u true (fun k_26=>
k_26 v_1q H_23 n_24) H_23 n_24 fun v_27 H_28 n_29=>
aQ v_1u true (fun k_2b=>
aX P cal 102 [v_1x,v_22,v_27] H_28 n_29 fun v_2f H_2g n_2h=>
k_2b v_2f H_2g n_2h) H_28 n_29 fun v_2c H_2d n_2e=>
aQ v_1u true (fun k_2i=>
aq (dX P v_2c (Op.unary UnOp.not v_2c)) fun v_2m=>
k_2i v_2m H_2d n_2e) H_2d n_2e fun v_2j H_2k n_2l=>
aq (fy v_1u v_2j (.bool false)) fun v_2n=>
ifK v_2n (
aq (fK P 119 []) fun v_2o=>
aq (bX P 119 u5 v_2o H_2k) fun H_2r=>
aq (resV P (Tr.set (ts (Tr.set Tr.nil 6 (some (.int .i64 2))) 5 u5) 4 (some (.pointer none))) H_2r cQ) fun v_2t=>some (oneV v_2t,H_2r,n_2l)) (
binK P .add 3 (.tmp 36) (.const (.int .i64 1)) u36 (.int .i64 1) fun v_2u=>
b1 u5 u7 u9 u35 v_2u H_2k n_2l)) (
aq (aV u9) fun a_2x=>aq (az P H 119 a_2x) fun v_2y=>
aq (bX P 119 u5 v_2y H) fun H_31=>
aq (resV P (ts (ts (Tr.set Tr.nil 6 (some (.int .i64 0))) 5 u5) 4 u7) H_31 cQ) fun v_33=>some (oneV v_33,H_31,n))
noncomputable def C65_1(k m1:Nat)(b1:V5)(u5 u7 u9 u35 u36:Value)(H:Hp)(n:Nat):Res:=B65_1 cal k m1 b1 u5 u7 u9 u35 u36 H n
noncomputable def S65_1(k:Nat):Nat→V5:=fun m=>Nat.rec (motive:=fun _=>V5) (C65_1 cal k 0 (fun _ _ _ _ _ _ _=>none)) (fun m ih=>C65_1 cal k (m+1) ih) m
theorem h65_1(k m1:Nat)(u5 u7 u9 u35 u36:Value)(H:Hp)(n:Nat):labK (E65_1 cal k m1) (ts (ts (ts (ts (ts Tr.nil 36 u36) 35 u35) 9 u9) 7 u7) 5 u5) H n []=C65_1 cal k m1 (R65_1 cal k m1) u5 u7 u9 u35 u36 H n:=by
 refine Eq.trans (b:=B65_1 cal k m1 (R65_1 cal k m1) u5 u7 u9 u35 u36 H n) (by kernel_rfl) ?_
 rw[C65_1]
theorem q65_1(k:Nat):∀(m:Nat) (u5 u7 u9 u35 u36:Value) (H:Hp) (n:Nat),labK (E65_1 cal k m) (ts (ts (ts (ts (ts Tr.nil 36 u36) 35 u35) 9 u9) 7 u7) 5 u5) H n []=S65_1 cal k m u5 u7 u9 u35 u36 H n
 | 0,u5,u7,u9,u35,u36,H,n=>by
  rw[h65_1]
  have e:R65_1 cal k 0=fun _ _ _ _ _ _ _=>none:=by funext u5 u7 u9 u35 u36 H n; kernel_rfl
  rw[e]; rfl
 | m+1,u5,u7,u9,u35,u36,H,n=>by
  rw[h65_1]
  have e:R65_1 cal k (m+1)=S65_1 cal k m:=by
   funext u5 u7 u9 u35 u36 H n
   have e:R65_1 cal k (m+1) u5 u7 u9 u35 u36 H n=labK (E65_1 cal k m) (ts (ts (ts (ts (ts Tr.nil 36 u36) 35 u35) 9 u9) 7 u7) 5 u5) H n []:=by kernel_rfl
   rw[e]; exact q65_1 ..
  rw[e]; rfl
noncomputable def B65_0(cal:Cal)(k:Nat)(j1:V5)(v0 v1:Value)(H:Hp)(n:Nat):Res:=
boxK 35 v0 H n fun v_1 H_2 n_3=>
eQ P 119 H_2 n_3 fun v_5 H_6 n_7=>
aq (aV v_1) fun a_a=>aq (az P H_6 35 a_a) fun v_9=>
aX P cal 61 [v_9] H_6 n_7 fun v_b H_c n_d=>
aq (tupV v_b 0) fun v_f=>
aq (tupV v_b 1) fun v_g=>
binK P .neq 29 (.tmp 17) (.const (.int .i64 0)) v_g (.int .i64 0) fun v_k=>
ifK v_k (
aq (fK P 119 []) fun v_l=>
aq (bX P 119 v_5 v_l H_c) fun H_p=>
aq (resV P (Tr.set (Tr.set (Tr.set Tr.nil 6 (some v_g)) 5 (some v_5)) 4 (some (.pointer none))) H_p cQ) fun v_r=>some (oneV v_r,H_p,n_d)) (
aq (lenV P 44 v1) fun v_t=>
aq (nilV v_f) fun v_v=>
aq (aw P 115 v_v 0) fun v_w=>
aq (aw P 35 v_w 0) fun v_x=>
aq (aV v_x) fun a_z=>aq (az P H_c 31 a_z) fun v_y=>
aq (lenV P 31 v_y) fun v_10=>
binK P .neq 3 (.tmp 22) (.tmp 28) v_t v_10 fun v_11=>
ifK v_11 (
aq (fK P 119 []) fun v_12=>
aq (bX P 119 v_5 v_12 H_c) fun H_15=>
aq (resV P (Tr.set (Tr.set (Tr.set Tr.nil 6 (some (.int .i64 2))) 5 (some v_5)) 4 (some (.pointer none))) H_15 cQ) fun v_17=>some (oneV v_17,H_15,n_d)) (
aX P cal 101 [] H_c n_d fun v_18 H_19 n_1a=>
eQ P 119 H_19 n_1a fun v_1b H_1c n_1d=>
aq (bX P 119 v_1b v_18 H_1c) fun H_1f=>
aq (Kj P 119 v_1b none none) fun v_1g=>
stK (TX P (bare H_1f n_1d) 44 v_1g v1) fun v_1i H_1j n_1k=>
aq (aV v_1b) fun a_1m=>aq (az P H_1j 119 a_1m) fun v_1l=>
j1 v_5 v_f v_1b v_1l (.int .i64 0) H_1j n_1k))
noncomputable def C65_0(k:Nat)(v0 v1:Value)(H:Hp)(n:Nat):Res:=B65_0 cal k (S65_1 cal k k) v0 v1 H n
theorem h65_0(k:Nat)(v0 v1:Value)(H:Hp)(n:Nat):aY P cal A (k+1) 65 [v0,v1] H n=C65_0 cal k v0 v1 H n:=by
 have h:aY P cal A (k+1) 65 [v0,v1] H n=B65_0 cal k (fun u5 u7 u9 u35 u36 H n=>labK (E65_1 cal k k) (ts (ts (ts (ts (ts Tr.nil 36 u36) 35 u35) 9 u9) 7 u7) 5 u5) H n []) v0 v1 H n:=by
  rw[bY (fn:=Go.Proofs.Try.f65) (c:=oz) (rs:=cQ) (by kernel_rfl) (by kernel_rfl) (by kernel_rfl) (by kernel_rfl)]
  kernel_rfl
 rw[h,C65_0]
 have e1:(fun u5 u7 u9 u35 u36 H n=>labK (E65_1 cal k k) (ts (ts (ts (ts (ts Tr.nil 36 u36) 35 u35) 9 u9) 7 u7) 5 u5) H n [])=(S65_1 cal k k):=by funext u5 u7 u9 u35 u36 H n; exact q65_1 ..
 rw[e1]
noncomputable def code71:Code:=dj 71
noncomputable def Jz:List ResultVar:=fk 71
noncomputable def K71_p:KR:=kD cal k 71 code71 (A 71) (av P Jz) X0 (av P Jz)
noncomputable def K71_pr:KR:=kD cal k 71 (cR code71) (Lb (A 71)) (av P Jz) X0 (av P Jz)
noncomputable def B71_0(cal:Cal)(k:Nat)(v0 v1:Value)(H:Hp)(n:Nat):Res:=
boxK 35 v0 H n fun v_1 H_2 n_3=>
binK P .geq 3 (.tmp 5) (.const (.int .i64 0)) v1 (.int .i64 0) fun v_6=>
aQ v_6 true (fun k_8=>
k_8 v1 H_2 n_3) H_2 n_3 fun v_9 H_a n_b=>
aQ v_6 true (fun k_d=>
aq (aw P 35 v_1 0) fun v_h=>
k_d v_h H_a n_b) H_a n_b fun v_e H_f n_g=>
aQ v_6 true (fun k_i=>
aq (aV v_e) fun a_n=>aq (az P H_f 31 a_n) fun v_m=>
k_i v_m H_f n_g) H_f n_g fun v_j H_k n_l=>
aQ v_6 true (fun k_o=>
aq (lenV P 31 v_j) fun v_s=>
k_o v_s H_k n_l) H_k n_l fun v_p H_q n_r=>
aQ v_6 true (fun k_t=>
binK P .lss 3 (.tmp 8) (.tmp 11) v_9 v_p fun v_x=>
k_t v_x H_q n_r) H_q n_r fun v_u H_v n_w=>
aq (fy v_6 v_u (.bool false)) fun v_y=>
some (v_y,H_v,n_w)
noncomputable def C71_0(k:Nat)(v0 v1:Value)(H:Hp)(n:Nat):Res:=B71_0 cal k v0 v1 H n
theorem h71_0(k:Nat)(v0 v1:Value)(H:Hp)(n:Nat):aY P cal A (k+1) 71 [v0,v1] H n=C71_0 cal k v0 v1 H n:=by
 have h:aY P cal A (k+1) 71 [v0,v1] H n=B71_0 cal k v0 v1 H n:=by
  rw[bY (fn:=Go.Proofs.Try.f71) (c:=code71) (rs:=Jz) (by kernel_rfl) (by kernel_rfl) (by kernel_rfl) (by kernel_rfl)]
  kernel_rfl
 rw[h,C71_0]
noncomputable def code72:Code:=dj 72
noncomputable def Jk:List ResultVar:=fk 72
noncomputable def K72_p:KR:=kD cal k 72 code72 (A 72) (av P Jk) X0 (av P Jk)
noncomputable def K72_pr:KR:=kD cal k 72 (cR code72) (Lb (A 72)) (av P Jk) X0 (av P Jk)
noncomputable def B72_0(cal:Cal)(k:Nat)(v0:Value)(H:Hp)(n:Nat):Res:=
boxK 53 v0 H n fun v_1 H_2 n_3=>
aq (aw P 53 v_1 0) fun v_5=>
aq (aV v_5) fun a_7=>aq (az P H_2 3 a_7) fun v_6=>
some (v_6,H_2,n_3)
noncomputable def C72_0(k:Nat)(v0:Value)(H:Hp)(n:Nat):Res:=B72_0 cal k v0 H n
theorem h72_0(k:Nat)(v0:Value)(H:Hp)(n:Nat):aY P cal A (k+1) 72 [v0] H n=C72_0 cal k v0 H n:=by
 have h:aY P cal A (k+1) 72 [v0] H n=B72_0 cal k v0 H n:=by
  rw[bY (fn:=Go.Proofs.Try.f72) (c:=code72) (rs:=Jk) (by kernel_rfl) (by kernel_rfl) (by kernel_rfl) (by kernel_rfl)]
  kernel_rfl
 rw[h,C72_0]
noncomputable def code73:Code:=dj 73
noncomputable def JJ:List ResultVar:=fk 73
noncomputable def K73_p:KR:=kD cal k 73 code73 (A 73) (av P JJ) X0 (av P JJ)
noncomputable def K73_pr:KR:=kD cal k 73 (cR code73) (Lb (A 73)) (av P JJ) X0 (av P JJ)
noncomputable def B73_0(cal:Cal)(k:Nat)(v0:Value)(H:Hp)(n:Nat):Res:=
boxK 53 v0 H n fun v_1 H_2 n_3=>
aq (aw P 53 v_1 1) fun v_5=>
aq (aV v_5) fun a_7=>aq (az P H_2 3 a_7) fun v_6=>
some (v_6,H_2,n_3)
noncomputable def C73_0(k:Nat)(v0:Value)(H:Hp)(n:Nat):Res:=B73_0 cal k v0 H n
theorem h73_0(k:Nat)(v0:Value)(H:Hp)(n:Nat):aY P cal A (k+1) 73 [v0] H n=C73_0 cal k v0 H n:=by
 have h:aY P cal A (k+1) 73 [v0] H n=B73_0 cal k v0 H n:=by
  rw[bY (fn:=Go.Proofs.Try.f73) (c:=code73) (rs:=JJ) (by kernel_rfl) (by kernel_rfl) (by kernel_rfl) (by kernel_rfl)]
  kernel_rfl
 rw[h,C73_0]
noncomputable def code74:Code:=dj 74
noncomputable def JQ:List ResultVar:=fk 74
noncomputable def K74_p:KR:=kD cal k 74 code74 (A 74) (av P JQ) X0 (av P JQ)
noncomputable def K74_pr:KR:=kD cal k 74 (cR code74) (Lb (A 74)) (av P JQ) X0 (av P JQ)
noncomputable def B74_0(cal:Cal)(k:Nat)(v0 v1:Value)(H:Hp)(n:Nat):Res:=
boxK 103 v0 H n fun v_1 H_2 n_3=>
boxK 119 v1 H_2 n_3 fun v_4 H_5 n_6=>
some ((Value.func (Fn.func 104) ⟨[]⟩ ⟨[v_4,v_1]⟩),H_5,n_6)
noncomputable def C74_0(k:Nat)(v0 v1:Value)(H:Hp)(n:Nat):Res:=B74_0 cal k v0 v1 H n
theorem h74_0(k:Nat)(v0 v1:Value)(H:Hp)(n:Nat):aY P cal A (k+1) 74 [v0,v1] H n=C74_0 cal k v0 v1 H n:=by
 have h:aY P cal A (k+1) 74 [v0,v1] H n=B74_0 cal k v0 v1 H n:=by
  rw[bY (fn:=Go.Proofs.Try.f74) (c:=code74) (rs:=JQ) (by kernel_rfl) (by kernel_rfl) (by kernel_rfl) (by kernel_rfl)]
  kernel_rfl
 rw[h,C74_0]
noncomputable def OV:Code:=dj 77
noncomputable def mz:List ResultVar:=fk 77
noncomputable def K77_p:KR:=kD cal k 77 OV (A 77) (av P mz) X0 (av P mz)
noncomputable def K77_pr:KR:=kD cal k 77 (cR OV) (Lb (A 77)) (av P mz) X0 (av P mz)
noncomputable def VZ(k:Nat):XR:=(upX 0 (K77_pr cal k) X0)
noncomputable def K77_prll:KR:=kD cal k 77 (cL (cL (cR OV))) (La (La (Lb (A 77)))) (K77_pr cal k) (VZ cal k) (av P mz)
noncomputable def K77_prllrl:KR:=kD cal k 77 (cL (cR (cL (cL (cR OV))))) (La (Lb (La (La (Lb (A 77)))))) (K77_pr cal k) (VZ cal k) (av P mz)
noncomputable def K77_prllrr:KR:=kD cal k 77 (cR (cR (cL (cL (cR OV))))) (Lb (Lb (La (La (Lb (A 77)))))) (K77_pr cal k) (VZ cal k) (av P mz)
noncomputable def K77_prllrrrl:KR:=kD cal k 77 (cL (cR (cR (cR (cL (cL (cR OV))))))) (La (Lb (Lb (Lb (La (La (Lb (A 77)))))))) (K77_pr cal k) (VZ cal k) (av P mz)
noncomputable def K77_prr:KR:=kD cal k 77 (cR (cR OV)) (Lb (Lb (A 77))) (av P mz) X0 (av P mz)
noncomputable def B77_0(cal:Cal)(k:Nat)(v0 v1 v2 v3:Value)(H:Hp)(n:Nat):Res:=
boxK 26 v0 H n fun v_1 H_2 n_3=>
eQ P 55 H_2 n_3 fun v_4 H_5 n_6=>
binK P .eql 3 (.tmp 10) (.tmp 11) v2 v3 fun v_9=>
ifK v_9 (
aq (aw P 26 v_1 2) fun v_b=>
aq (aV v_b) fun a_d=>aq (az P H_5 24 a_d) fun v_c=>
aq (aJ P 24 v_c v1) fun v_f=>
aq (aw P 94 v_f 1) fun v_g=>
aq (aV v_g) fun a_i=>aq (az P H_5 55 a_i) fun v_h=>
aq (bX P 55 v_4 v_h H_5) fun H_k=>
aq (resV P (Tr.set Tr.nil 8 (some v_4)) H_k mz) fun v_l=>some (oneV v_l,H_k,n_6)) (
aq (aV v_1) fun a_n=>aq (az P H_5 26 a_n) fun v_m=>
aX P cal 89 [v_m,v2,v3] H_5 n_6 fun v_q H_r n_s=>
ifK v_q (
aq (aw P 26 v_1 2) fun v_u=>
aq (aV v_u) fun a_w=>aq (az P H_r 24 a_w) fun v_v=>
aq (aJ P 24 v_v v1) fun v_y=>
aq (aw P 94 v_y 2) fun v_z=>
aq (aV v_z) fun a_11=>aq (az P H_r 55 a_11) fun v_10=>
aq (bX P 55 v_4 v_10 H_r) fun H_13=>
aq (resV P (Tr.set Tr.nil 8 (some v_4)) H_13 mz) fun v_14=>some (oneV v_14,H_13,n_s)) (
aq (fK P 55 []) fun v_15=>
aq (bX P 55 v_4 v_15 H_r) fun H_17=>
aq (resV P (Tr.set Tr.nil 8 (some v_4)) H_17 mz) fun v_18=>some (oneV v_18,H_17,n_s)))
noncomputable def C77_0(k:Nat)(v0 v1 v2 v3:Value)(H:Hp)(n:Nat):Res:=B77_0 cal k v0 v1 v2 v3 H n
theorem h77_0(k:Nat)(v0 v1 v2 v3:Value)(H:Hp)(n:Nat):aY P cal A (k+1) 77 [v0,v1,v2,v3] H n=C77_0 cal k v0 v1 v2 v3 H n:=by
 have h:aY P cal A (k+1) 77 [v0,v1,v2,v3] H n=B77_0 cal k v0 v1 v2 v3 H n:=by
  rw[bY (fn:=Go.Proofs.Try.f77) (c:=OV) (rs:=mz) (by kernel_rfl) (by kernel_rfl) (by kernel_rfl) (by kernel_rfl)]
  kernel_rfl
 rw[h,C77_0]
end Go.Proofs.Ytmjbdjnnojfhkaa.G
