/- The texts of functions, each with the proof that the evaluator says the same. -/
import Derived.Test.YtgojjellogiglaaH1
open Go Go.Ev
set_option maxRecDepth 1000000
set_option linter.unusedVariables false
noncomputable section
namespace Go.Proofs.Ytgojjellogiglaa.G
noncomputable def tZ:Code:=cq 106
noncomputable def ik:List ResultVar:=dJ 106
noncomputable def K106_p (cal:Cal) (k:Nat):KR:=(cutK (A 106).c (ay P cal (aw P cal k) none 106 (cR tZ) (Lv.b (A 106)) (av P ik) X0 (av P ik)))
noncomputable def Yz (cal:Cal) (k:Nat):KR:=(cutK (Lv.b (A 106)).c (ay P cal (aw P cal k) none 106 (cR (cR tZ)) (Lv.b (Lv.b (A 106))) (av P ik) X0 (av P ik)))
noncomputable def K106_prl (cal:Cal) (k:Nat):KR:=(cutK (Lv.a (Lv.b (A 106))).c (ay P cal (aw P cal k) none 106 (cR (cL (cR tZ))) (Lv.b (Lv.a (Lv.b (A 106)))) (Yz cal k) X0 (av P ik)))
noncomputable def vj (cal:Cal) (k:Nat):XR:=(upX 0 (Yz cal k) X0)
noncomputable def IJ (cal:Cal) (k:Nat) (m1:Nat):KR:=(fun T H n D=>aw P cal m1 (Lv.a (Lv.b (Lv.a (Lv.b (A 106))))) none 106 (cL (cR (cL (cR tZ)))) (Yz cal k) (vj cal k) (av P ik) (cutT (Lv.a (Lv.b (Lv.a (Lv.b (A 106))))).c T) H n D)
noncomputable def K106_prlrll (cal:Cal) (k:Nat) (m1:Nat):KR:=(cutK (Lv.a (Lv.a (Lv.b (Lv.a (Lv.b (A 106)))))).c (ay P cal (aw P cal m1) none 106 (cR (cL (cL (cR (cL (cR tZ)))))) (Lv.b (Lv.a (Lv.a (Lv.b (Lv.a (Lv.b (A 106))))))) (IJ cal k m1) (vj cal k) (av P ik)))
noncomputable def K106_prlrllr (cal:Cal) (k:Nat) (m1:Nat):KR:=(cutK (Lv.b (Lv.a (Lv.a (Lv.b (Lv.a (Lv.b (A 106))))))).c (ay P cal (aw P cal m1) none 106 (cR (cR (cL (cL (cR (cL (cR tZ))))))) (Lv.b (Lv.b (Lv.a (Lv.a (Lv.b (Lv.a (Lv.b (A 106)))))))) (IJ cal k m1) (vj cal k) (av P ik)))
noncomputable def K106_prlrllrr (cal:Cal) (k:Nat) (m1:Nat):KR:=(cutK (Lv.b (Lv.b (Lv.a (Lv.a (Lv.b (Lv.a (Lv.b (A 106)))))))).c (ay P cal (aw P cal m1) none 106 (cR (cR (cR (cL (cL (cR (cL (cR tZ)))))))) (Lv.b (Lv.b (Lv.b (Lv.a (Lv.a (Lv.b (Lv.a (Lv.b (A 106))))))))) (IJ cal k m1) (vj cal k) (av P ik)))
noncomputable def K106_pxrlrllrrl (cal:Cal) (k:Nat) (m1:Nat):XR:=(upX 1 (K106_prlrllrr cal k m1) (vj cal k))
noncomputable def K106_prlrllrrll (cal:Cal) (k:Nat) (m1:Nat):KR:=(cutK (Lv.a (Lv.a (Lv.b (Lv.b (Lv.a (Lv.a (Lv.b (Lv.a (Lv.b (A 106)))))))))).c (ay P cal (aw P cal m1) none 106 (cR (cL (cL (cR (cR (cL (cL (cR (cL (cR tZ)))))))))) (Lv.b (Lv.a (Lv.a (Lv.b (Lv.b (Lv.a (Lv.a (Lv.b (Lv.a (Lv.b (A 106))))))))))) (K106_prlrllrr cal k m1) (K106_pxrlrllrrl cal k m1) (av P ik)))
noncomputable def K106_prr (cal:Cal) (k:Nat):KR:=(cutK (Lv.b (Lv.b (A 106))).c (ay P cal (aw P cal k) none 106 (cR (cR (cR tZ))) (Lv.b (Lv.b (Lv.b (A 106)))) (av P ik) X0 (av P ik)))
noncomputable def E106_1 (cal:Cal) (k m1:Nat):KR:=ay P cal (aw P cal m1) none 106 (cL (cL (cR (cL (cR tZ))))) (Lv.a (Lv.a (Lv.b (Lv.a (Lv.b (A 106)))))) (IJ cal k m1) (vj cal k) (av P ik)
noncomputable def R106_1 (cal:Cal) (k m1:Nat):V4:=fun u0 u7 u8 u9 H n=>aw P cal m1 (Lv.a (Lv.b (Lv.a (Lv.b (A 106))))) none 106 (cL (cR (cL (cR tZ)))) (Yz cal k) (vj cal k) (av P ik) (Tr.set (Tr.set (Tr.set (Tr.set Tr.nil 9 (some u9)) 8 (some u8)) 7 (some u7)) 0 (some u0)) H n []
noncomputable def B106_1 (cal:Cal) (k m1:Nat) (b1:V4) (u0 u7 u8 u9:Value) (H:Hp) (n:Nat):Res:=
binK P .lss 3 (.tmp 9) (.tmp 8) u9 u8 fun v_5=>
ifK v_5 (
aq (aY P 44 u7 u9) fun v_6=>
aq (aW v_6) fun a_8=>aq (az P H 3 a_8) fun v_7=>
wj P .max [3,3] (Call.mk (Callee.builtin Builtin.max) #[(.tmp 13),(.tmp 14)] #[3,3]) 3 [u0,v_7] H n fun v_c H_d n_e=>
binK P .add 3 (.tmp 9) (.const (.int .i64 1)) u9 (.int .i64 1) fun v_g=>
b1 v_c u7 u8 v_g H_d n_e) (
some (u0,H,n))
noncomputable def Pk (cal:Cal) (k m1:Nat) (b1:V4) (u0 u7 u8 u9:Value) (H:Hp) (n:Nat):Res:=B106_1 cal k m1 b1 u0 u7 u8 u9 H n
noncomputable def Ej (cal:Cal) (k:Nat):Nat→V4:=fun m=>Nat.rec (motive:=fun _=>V4) (Pk cal k 0 (fun _ _ _ _ _ _=>none)) (fun m ih=>Pk cal k (m+1) ih) m
theorem h106_1 (cal:Cal) (k m1:Nat) (u0 u7 u8 u9:Value) (H:Hp) (n:Nat):labK (E106_1 cal k m1) (Tr.set (Tr.set (Tr.set (Tr.set Tr.nil 9 (some u9)) 8 (some u8)) 7 (some u7)) 0 (some u0)) H n []=Pk cal k m1 (R106_1 cal k m1) u0 u7 u8 u9 H n:=by
  refine Eq.trans (b:=B106_1 cal k m1 (R106_1 cal k m1) u0 u7 u8 u9 H n) (by kernel_rfl) ?_
  rw[Pk]
theorem q106_1 (cal:Cal) (k:Nat):∀(m:Nat) (u0 u7 u8 u9:Value) (H:Hp) (n:Nat),labK (E106_1 cal k m) (Tr.set (Tr.set (Tr.set (Tr.set Tr.nil 9 (some u9)) 8 (some u8)) 7 (some u7)) 0 (some u0)) H n []=Ej cal k m u0 u7 u8 u9 H n
  | 0,u0,u7,u8,u9,H,n=>by
    rw[h106_1]
    have e:R106_1 cal k 0=fun _ _ _ _ _ _=>none:=by funext u0 u7 u8 u9 H n; kernel_rfl
    rw[e]; rfl
  | m+1,u0,u7,u8,u9,H,n=>by
    rw[h106_1]
    have e:R106_1 cal k (m+1)=Ej cal k m:=by
      funext u0 u7 u8 u9 H n
      have e:R106_1 cal k (m+1) u0 u7 u8 u9 H n=labK (E106_1 cal k m) (Tr.set (Tr.set (Tr.set (Tr.set Tr.nil 9 (some u9)) 8 (some u8)) 7 (some u7)) 0 (some u0)) H n []:=by kernel_rfl
      rw[e]; exact q106_1 ..
    rw[e]; rfl
noncomputable def B106_0 (cal:Cal) (k:Nat) (j1:V4) (v0 v1:Value) (H:Hp) (n:Nat):Res:=
aq (lenV P 44 v1) fun v_3=>
j1 v0 v1 v_3 (.int .i64 0) H n
noncomputable def UW (cal:Cal) (k:Nat) (v0 v1:Value) (H:Hp) (n:Nat):Res:=B106_0 cal k (Ej cal k k) v0 v1 H n
theorem h106_0 (cal:Cal) (k:Nat) (v0 v1:Value) (H:Hp) (n:Nat):aZ P cal A (k+1) 106 [v0,v1] H n=UW cal k v0 v1 H n:=by
  have h:aZ P cal A (k+1) 106 [v0,v1] H n=B106_0 cal k (fun u0 u7 u8 u9 H n=>labK (E106_1 cal k k) (Tr.set (Tr.set (Tr.set (Tr.set Tr.nil 9 (some u9)) 8 (some u8)) 7 (some u7)) 0 (some u0)) H n []) v0 v1 H n:=by
    rw[bJ (fn:=Go.Proofs.Try.f106) (c:=tZ) (rs:=ik) (by kernel_rfl) (by kernel_rfl) (by kernel_rfl) (by kernel_rfl)]
    kernel_rfl
  rw[h,UW]
  have e1:(fun u0 u7 u8 u9 H n=>labK (E106_1 cal k k) (Tr.set (Tr.set (Tr.set (Tr.set Tr.nil 9 (some u9)) 8 (some u8)) 7 (some u7)) 0 (some u0)) H n [])=(Ej cal k k):=by funext u0 u7 u8 u9 H n; exact q106_1 ..
  rw[e1]
noncomputable def code110:Code:=cq 110
noncomputable def Cv:List ResultVar:=dJ 110
noncomputable def K110_p (cal:Cal) (k:Nat):KR:=(cutK (A 110).c (ay P cal (aw P cal k) none 110 (cR code110) (Lv.b (A 110)) (av P Cv) X0 (av P Cv)))
noncomputable def K110_pr (cal:Cal) (k:Nat):KR:=(cutK (Lv.b (A 110)).c (ay P cal (aw P cal k) none 110 (cR (cR code110)) (Lv.b (Lv.b (A 110))) (av P Cv) X0 (av P Cv)))
noncomputable def B110_0 (cal:Cal) (k:Nat) (v0 v1:Value) (H:Hp) (n:Nat):Res:=
boxK 105 v0 H n fun v_1 H_2 n_3=>
boxK 3 v1 H_2 n_3 fun v_4 H_5 n_6=>
some ((Value.func (Fn.func 117) ⟨[]⟩ ⟨[v_1,v_4]⟩),H_5,n_6)
noncomputable def C110_0 (cal:Cal) (k:Nat) (v0 v1:Value) (H:Hp) (n:Nat):Res:=B110_0 cal k v0 v1 H n
theorem h110_0 (cal:Cal) (k:Nat) (v0 v1:Value) (H:Hp) (n:Nat):aZ P cal A (k+1) 110 [v0,v1] H n=C110_0 cal k v0 v1 H n:=by
  have h:aZ P cal A (k+1) 110 [v0,v1] H n=B110_0 cal k v0 v1 H n:=by
    rw[bJ (fn:=Go.Proofs.Try.f110) (c:=code110) (rs:=Cv) (by kernel_rfl) (by kernel_rfl) (by kernel_rfl) (by kernel_rfl)]
    kernel_rfl
  rw[h,C110_0]
noncomputable def qJ:Code:=cq 111
noncomputable def gV:List ResultVar:=dJ 111
noncomputable def K111_p (cal:Cal) (k:Nat):KR:=(cutK (A 111).c (ay P cal (aw P cal k) none 111 (cR qJ) (Lv.b (A 111)) (av P gV) X0 (av P gV)))
noncomputable def Yk (cal:Cal) (k:Nat):KR:=(cutK (Lv.b (A 111)).c (ay P cal (aw P cal k) none 111 (cR (cR qJ)) (Lv.b (Lv.b (A 111))) (av P gV) X0 (av P gV)))
noncomputable def K111_prl (cal:Cal) (k:Nat):KR:=(cutK (Lv.a (Lv.b (A 111))).c (ay P cal (aw P cal k) none 111 (cR (cL (cR qJ))) (Lv.b (Lv.a (Lv.b (A 111)))) (Yk cal k) X0 (av P gV)))
noncomputable def vq (cal:Cal) (k:Nat):XR:=(upX 0 (Yk cal k) X0)
noncomputable def IQ (cal:Cal) (k:Nat) (m1:Nat):KR:=(fun T H n D=>aw P cal m1 (Lv.a (Lv.b (Lv.a (Lv.b (A 111))))) none 111 (cL (cR (cL (cR qJ)))) (Yk cal k) (vq cal k) (av P gV) (cutT (Lv.a (Lv.b (Lv.a (Lv.b (A 111))))).c T) H n D)
noncomputable def K111_prlrll (cal:Cal) (k:Nat) (m1:Nat):KR:=(cutK (Lv.a (Lv.a (Lv.b (Lv.a (Lv.b (A 111)))))).c (ay P cal (aw P cal m1) none 111 (cR (cL (cL (cR (cL (cR qJ)))))) (Lv.b (Lv.a (Lv.a (Lv.b (Lv.a (Lv.b (A 111))))))) (IQ cal k m1) (vq cal k) (av P gV)))
noncomputable def K111_prlrllr (cal:Cal) (k:Nat) (m1:Nat):KR:=(cutK (Lv.b (Lv.a (Lv.a (Lv.b (Lv.a (Lv.b (A 111))))))).c (ay P cal (aw P cal m1) none 111 (cR (cR (cL (cL (cR (cL (cR qJ))))))) (Lv.b (Lv.b (Lv.a (Lv.a (Lv.b (Lv.a (Lv.b (A 111)))))))) (IQ cal k m1) (vq cal k) (av P gV)))
noncomputable def zy (cal:Cal) (k:Nat) (m1:Nat):KR:=(cutK (Lv.b (Lv.b (Lv.a (Lv.a (Lv.b (Lv.a (Lv.b (A 111)))))))).c (ay P cal (aw P cal m1) none 111 (cR (cR (cR (cL (cL (cR (cL (cR qJ)))))))) (Lv.b (Lv.b (Lv.b (Lv.a (Lv.a (Lv.b (Lv.a (Lv.b (A 111))))))))) (IQ cal k m1) (vq cal k) (av P gV)))
noncomputable def zK (cal:Cal) (k:Nat) (m1:Nat):XR:=(upX 1 (zy cal k m1) (vq cal k))
noncomputable def K111_prlrllrrll (cal:Cal) (k:Nat) (m1:Nat):KR:=(cutK (Lv.a (Lv.a (Lv.b (Lv.b (Lv.a (Lv.a (Lv.b (Lv.a (Lv.b (A 111)))))))))).c (ay P cal (aw P cal m1) none 111 (cR (cL (cL (cR (cR (cL (cL (cR (cL (cR qJ)))))))))) (Lv.b (Lv.a (Lv.a (Lv.b (Lv.b (Lv.a (Lv.a (Lv.b (Lv.a (Lv.b (A 111))))))))))) (zy cal k m1) (zK cal k m1) (av P gV)))
noncomputable def K111_prlrllrrllr (cal:Cal) (k:Nat) (m1:Nat):KR:=(cutK (Lv.b (Lv.a (Lv.a (Lv.b (Lv.b (Lv.a (Lv.a (Lv.b (Lv.a (Lv.b (A 111))))))))))).c (ay P cal (aw P cal m1) none 111 (cR (cR (cL (cL (cR (cR (cL (cL (cR (cL (cR qJ))))))))))) (Lv.b (Lv.b (Lv.a (Lv.a (Lv.b (Lv.b (Lv.a (Lv.a (Lv.b (Lv.a (Lv.b (A 111)))))))))))) (zy cal k m1) (zK cal k m1) (av P gV)))
noncomputable def K111_prlrllrrllrrl (cal:Cal) (k:Nat) (m1:Nat):KR:=(cutK (Lv.a (Lv.b (Lv.b (Lv.a (Lv.a (Lv.b (Lv.b (Lv.a (Lv.a (Lv.b (Lv.a (Lv.b (A 111))))))))))))).c (ay P cal (aw P cal m1) none 111 (cR (cL (cR (cR (cL (cL (cR (cR (cL (cL (cR (cL (cR qJ))))))))))))) (Lv.b (Lv.a (Lv.b (Lv.b (Lv.a (Lv.a (Lv.b (Lv.b (Lv.a (Lv.a (Lv.b (Lv.a (Lv.b (A 111)))))))))))))) (zy cal k m1) (zK cal k m1) (av P gV)))
noncomputable def K111_prr (cal:Cal) (k:Nat):KR:=(cutK (Lv.b (Lv.b (A 111))).c (ay P cal (aw P cal k) none 111 (cR (cR (cR qJ))) (Lv.b (Lv.b (Lv.b (A 111)))) (av P gV) X0 (av P gV)))
noncomputable def E111_1 (cal:Cal) (k m1:Nat):KR:=ay P cal (aw P cal m1) none 111 (cL (cL (cR (cL (cR qJ))))) (Lv.a (Lv.a (Lv.b (Lv.a (Lv.b (A 111)))))) (IQ cal k m1) (vq cal k) (av P gV)
noncomputable def R111_1 (cal:Cal) (k m1:Nat):V4:=fun u0 u3 u11 u12 H n=>aw P cal m1 (Lv.a (Lv.b (Lv.a (Lv.b (A 111))))) none 111 (cL (cR (cL (cR qJ)))) (Yk cal k) (vq cal k) (av P gV) (Tr.set (Tr.set (Tr.set (Tr.set Tr.nil 12 (some u12)) 11 (some u11)) 3 (some u3)) 0 (some u0)) H n []
noncomputable def B111_1 (cal:Cal) (k m1:Nat) (b1:V4) (u0 u3 u11 u12:Value) (H:Hp) (n:Nat):Res:=
binK P .lss 3 (.tmp 12) (.tmp 11) u12 u11 fun v_d=>
ifK v_d (
aq (aW u3) fun a_i=>aq (az P H 111 a_i) fun v_h=>
aV P cal 69 [u0,v_h,u12] H n fun v_k H_l n_m=>
ifK v_k (
some ((.bool false),H_l,n_m)) (
binK P .add 3 (.tmp 12) (.const (.int .i64 1)) u12 (.int .i64 1) fun v_o=>
b1 u0 u3 u11 v_o H_l n_m)) (
some ((.bool true),H,n))
noncomputable def UX (cal:Cal) (k m1:Nat) (b1:V4) (u0 u3 u11 u12:Value) (H:Hp) (n:Nat):Res:=B111_1 cal k m1 b1 u0 u3 u11 u12 H n
noncomputable def UY (cal:Cal) (k:Nat):Nat→V4:=fun m=>Nat.rec (motive:=fun _=>V4) (UX cal k 0 (fun _ _ _ _ _ _=>none)) (fun m ih=>UX cal k (m+1) ih) m
theorem h111_1 (cal:Cal) (k m1:Nat) (u0 u3 u11 u12:Value) (H:Hp) (n:Nat):labK (E111_1 cal k m1) (Tr.set (Tr.set (Tr.set (Tr.set Tr.nil 12 (some u12)) 11 (some u11)) 3 (some u3)) 0 (some u0)) H n []=UX cal k m1 (R111_1 cal k m1) u0 u3 u11 u12 H n:=by
  refine Eq.trans (b:=B111_1 cal k m1 (R111_1 cal k m1) u0 u3 u11 u12 H n) (by kernel_rfl) ?_
  rw[UX]
theorem q111_1 (cal:Cal) (k:Nat):∀(m:Nat) (u0 u3 u11 u12:Value) (H:Hp) (n:Nat),labK (E111_1 cal k m) (Tr.set (Tr.set (Tr.set (Tr.set Tr.nil 12 (some u12)) 11 (some u11)) 3 (some u3)) 0 (some u0)) H n []=UY cal k m u0 u3 u11 u12 H n
  | 0,u0,u3,u11,u12,H,n=>by
    rw[h111_1]
    have e:R111_1 cal k 0=fun _ _ _ _ _ _=>none:=by funext u0 u3 u11 u12 H n; kernel_rfl
    rw[e]; rfl
  | m+1,u0,u3,u11,u12,H,n=>by
    rw[h111_1]
    have e:R111_1 cal k (m+1)=UY cal k m:=by
      funext u0 u3 u11 u12 H n
      have e:R111_1 cal k (m+1) u0 u3 u11 u12 H n=labK (E111_1 cal k m) (Tr.set (Tr.set (Tr.set (Tr.set Tr.nil 12 (some u12)) 11 (some u11)) 3 (some u3)) 0 (some u0)) H n []:=by kernel_rfl
      rw[e]; exact q111_1 ..
    rw[e]; rfl
noncomputable def B111_0 (cal:Cal) (k:Nat) (j1:V4) (v0 v1:Value) (H:Hp) (n:Nat):Res:=
boxK 111 v1 H n fun v_1 H_2 n_3=>
aq (nilV v0) fun v_6=>
aq (ax P 117 v_6 0) fun v_7=>
aq (ax P 35 v_7 0) fun v_8=>
aq (aW v_8) fun a_a=>aq (az P H_2 31 a_a) fun v_9=>
aq (lenV P 31 v_9) fun v_b=>
j1 v0 v_1 v_b (.int .i64 0) H_2 n_3
noncomputable def C111_0 (cal:Cal) (k:Nat) (v0 v1:Value) (H:Hp) (n:Nat):Res:=B111_0 cal k (UY cal k k) v0 v1 H n
theorem h111_0 (cal:Cal) (k:Nat) (v0 v1:Value) (H:Hp) (n:Nat):aZ P cal A (k+1) 111 [v0,v1] H n=C111_0 cal k v0 v1 H n:=by
  have h:aZ P cal A (k+1) 111 [v0,v1] H n=B111_0 cal k (fun u0 u3 u11 u12 H n=>labK (E111_1 cal k k) (Tr.set (Tr.set (Tr.set (Tr.set Tr.nil 12 (some u12)) 11 (some u11)) 3 (some u3)) 0 (some u0)) H n []) v0 v1 H n:=by
    rw[bJ (fn:=Go.Proofs.Try.f111) (c:=qJ) (rs:=gV) (by kernel_rfl) (by kernel_rfl) (by kernel_rfl) (by kernel_rfl)]
    kernel_rfl
  rw[h,C111_0]
  have e1:(fun u0 u3 u11 u12 H n=>labK (E111_1 cal k k) (Tr.set (Tr.set (Tr.set (Tr.set Tr.nil 12 (some u12)) 11 (some u11)) 3 (some u3)) 0 (some u0)) H n [])=(UY cal k k):=by funext u0 u3 u11 u12 H n; exact q111_1 ..
  rw[e1]
noncomputable def code113:Code:=cq 113
noncomputable def Cw:List ResultVar:=dJ 113
noncomputable def K113_p (cal:Cal) (k:Nat):KR:=(cutK (A 113).c (ay P cal (aw P cal k) none 113 (cR code113) (Lv.b (A 113)) (av P Cw) X0 (av P Cw)))
noncomputable def K113_pr (cal:Cal) (k:Nat):KR:=(cutK (Lv.b (A 113)).c (ay P cal (aw P cal k) none 113 (cR (cR code113)) (Lv.b (Lv.b (A 113))) (av P Cw) X0 (av P Cw)))
noncomputable def B113_0 (cal:Cal) (k:Nat) (v0 v1:Value) (H:Hp) (n:Nat):Res:=
boxK 105 v0 H n fun v_1 H_2 n_3=>
boxK 3 v1 H_2 n_3 fun v_4 H_5 n_6=>
some ((Value.func (Fn.func 119) ⟨[]⟩ ⟨[v_4,v_1]⟩),H_5,n_6)
noncomputable def C113_0 (cal:Cal) (k:Nat) (v0 v1:Value) (H:Hp) (n:Nat):Res:=B113_0 cal k v0 v1 H n
theorem h113_0 (cal:Cal) (k:Nat) (v0 v1:Value) (H:Hp) (n:Nat):aZ P cal A (k+1) 113 [v0,v1] H n=C113_0 cal k v0 v1 H n:=by
  have h:aZ P cal A (k+1) 113 [v0,v1] H n=B113_0 cal k v0 v1 H n:=by
    rw[bJ (fn:=Go.Proofs.Try.f113) (c:=code113) (rs:=Cw) (by kernel_rfl) (by kernel_rfl) (by kernel_rfl) (by kernel_rfl)]
    kernel_rfl
  rw[h,C113_0]
noncomputable def code114:Code:=cq 114
noncomputable def Cx:List ResultVar:=dJ 114
noncomputable def K114_p (cal:Cal) (k:Nat):KR:=(cutK (A 114).c (ay P cal (aw P cal k) none 114 (cR code114) (Lv.b (A 114)) (av P Cx) X0 (av P Cx)))
noncomputable def K114_pr (cal:Cal) (k:Nat):KR:=(cutK (Lv.b (A 114)).c (ay P cal (aw P cal k) none 114 (cR (cR code114)) (Lv.b (Lv.b (A 114))) (av P Cx) X0 (av P Cx)))
noncomputable def B114_0 (cal:Cal) (k:Nat) (v0:Value) (H:Hp) (n:Nat):Res:=
boxK 53 v0 H n fun v_1 H_2 n_3=>
aq (ax P 53 v_1 0) fun v_5=>
aq (aW v_5) fun a_7=>aq (az P H_2 3 a_7) fun v_6=>
binK P .geq 3 (.tmp 4) (.const (.int .i64 0)) v_6 (.int .i64 0) fun v_8=>
aQ v_8 true (fun k_a=>
aq (ax P 53 v_1 0) fun v_e=>
k_a v_e H_2 n_3) H_2 n_3 fun v_b H_c n_d=>
aQ v_8 true (fun k_f=>
aq (aW v_b) fun a_k=>aq (az P H_c 3 a_k) fun v_j=>
k_f v_j H_c n_d) H_c n_d fun v_g H_h n_i=>
aQ v_8 true (fun k_l=>
aq (ax P 53 v_1 1) fun v_p=>
k_l v_p H_h n_i) H_h n_i fun v_m H_n n_o=>
aQ v_8 true (fun k_q=>
aq (aW v_m) fun a_v=>aq (az P H_n 3 a_v) fun v_u=>
k_q v_u H_n n_o) H_n n_o fun v_r H_s n_t=>
aQ v_8 true (fun k_w=>
binK P .leq 3 (.tmp 8) (.tmp 10) v_g v_r fun v_10=>
k_w v_10 H_s n_t) H_s n_t fun v_x H_y n_z=>
aq (cK v_8 v_x (.bool false)) fun v_11=>
aQ v_11 true (fun k_13=>
aq (ax P 53 v_1 1) fun v_17=>
k_13 v_17 H_y n_z) H_y n_z fun v_14 H_15 n_16=>
aQ v_11 true (fun k_18=>
aq (aW v_14) fun a_1d=>aq (az P H_15 3 a_1d) fun v_1c=>
k_18 v_1c H_15 n_16) H_15 n_16 fun v_19 H_1a n_1b=>
aQ v_11 true (fun k_1e=>
binK P .leq 3 (.tmp 15) (.const (.int .i64 1000)) v_19 (.int .i64 1000) fun v_1i=>
k_1e v_1i H_1a n_1b) H_1a n_1b fun v_1f H_1g n_1h=>
aq (cK v_11 v_1f (.bool false)) fun v_1j=>
some (v_1j,H_1g,n_1h)
noncomputable def UZ (cal:Cal) (k:Nat) (v0:Value) (H:Hp) (n:Nat):Res:=B114_0 cal k v0 H n
theorem h114_0 (cal:Cal) (k:Nat) (v0:Value) (H:Hp) (n:Nat):aZ P cal A (k+1) 114 [v0] H n=UZ cal k v0 H n:=by
  have h:aZ P cal A (k+1) 114 [v0] H n=B114_0 cal k v0 H n:=by
    rw[bJ (fn:=Go.Proofs.Try.f114) (c:=code114) (rs:=Cx) (by kernel_rfl) (by kernel_rfl) (by kernel_rfl) (by kernel_rfl)]
    kernel_rfl
  rw[h,UZ]
noncomputable def sw:Code:=cq 115
noncomputable def fq:List ResultVar:=dJ 115
noncomputable def K115_p (cal:Cal) (k:Nat):KR:=(cutK (A 115).c (ay P cal (aw P cal k) none 115 (cR sw) (Lv.b (A 115)) (av P fq) X0 (av P fq)))
noncomputable def K115_pr (cal:Cal) (k:Nat):KR:=(cutK (Lv.b (A 115)).c (ay P cal (aw P cal k) none 115 (cR (cR sw)) (Lv.b (Lv.b (A 115))) (av P fq) X0 (av P fq)))
noncomputable def RY (cal:Cal) (k:Nat):KR:=(cutK (Lv.b (Lv.b (A 115))).c (ay P cal (aw P cal k) none 115 (cR (cR (cR sw))) (Lv.b (Lv.b (Lv.b (A 115)))) (av P fq) X0 (av P fq)))
noncomputable def K115_prrl (cal:Cal) (k:Nat):KR:=(cutK (Lv.a (Lv.b (Lv.b (A 115)))).c (ay P cal (aw P cal k) none 115 (cR (cL (cR (cR sw)))) (Lv.b (Lv.a (Lv.b (Lv.b (A 115))))) (RY cal k) X0 (av P fq)))
noncomputable def rW (cal:Cal) (k:Nat):XR:=(upX 0 (RY cal k) X0)
noncomputable def Dw (cal:Cal) (k:Nat) (m1:Nat):KR:=(fun T H n D=>aw P cal m1 (Lv.a (Lv.b (Lv.a (Lv.b (Lv.b (A 115)))))) none 115 (cL (cR (cL (cR (cR sw))))) (RY cal k) (rW cal k) (av P fq) (cutT (Lv.a (Lv.b (Lv.a (Lv.b (Lv.b (A 115)))))).c T) H n D)
noncomputable def K115_prrlrll (cal:Cal) (k:Nat) (m1:Nat):KR:=(cutK (Lv.a (Lv.a (Lv.b (Lv.a (Lv.b (Lv.b (A 115))))))).c (ay P cal (aw P cal m1) none 115 (cR (cL (cL (cR (cL (cR (cR sw))))))) (Lv.b (Lv.a (Lv.a (Lv.b (Lv.a (Lv.b (Lv.b (A 115)))))))) (Dw cal k m1) (rW cal k) (av P fq)))
noncomputable def K115_prrlrllr (cal:Cal) (k:Nat) (m1:Nat):KR:=(cutK (Lv.b (Lv.a (Lv.a (Lv.b (Lv.a (Lv.b (Lv.b (A 115)))))))).c (ay P cal (aw P cal m1) none 115 (cR (cR (cL (cL (cR (cL (cR (cR sw)))))))) (Lv.b (Lv.b (Lv.a (Lv.a (Lv.b (Lv.a (Lv.b (Lv.b (A 115))))))))) (Dw cal k m1) (rW cal k) (av P fq)))
noncomputable def K115_prrlrllrr (cal:Cal) (k:Nat) (m1:Nat):KR:=(cutK (Lv.b (Lv.b (Lv.a (Lv.a (Lv.b (Lv.a (Lv.b (Lv.b (A 115))))))))).c (ay P cal (aw P cal m1) none 115 (cR (cR (cR (cL (cL (cR (cL (cR (cR sw))))))))) (Lv.b (Lv.b (Lv.b (Lv.a (Lv.a (Lv.b (Lv.a (Lv.b (Lv.b (A 115)))))))))) (Dw cal k m1) (rW cal k) (av P fq)))
noncomputable def K115_pxrrlrllrrl (cal:Cal) (k:Nat) (m1:Nat):XR:=(upX 1 (K115_prrlrllrr cal k m1) (rW cal k))
noncomputable def K115_prrlrllrrll (cal:Cal) (k:Nat) (m1:Nat):KR:=(cutK (Lv.a (Lv.a (Lv.b (Lv.b (Lv.a (Lv.a (Lv.b (Lv.a (Lv.b (Lv.b (A 115))))))))))).c (ay P cal (aw P cal m1) none 115 (cR (cL (cL (cR (cR (cL (cL (cR (cL (cR (cR sw))))))))))) (Lv.b (Lv.a (Lv.a (Lv.b (Lv.b (Lv.a (Lv.a (Lv.b (Lv.a (Lv.b (Lv.b (A 115)))))))))))) (K115_prrlrllrr cal k m1) (K115_pxrrlrllrrl cal k m1) (av P fq)))
noncomputable def K115_prrr (cal:Cal) (k:Nat):KR:=(cutK (Lv.b (Lv.b (Lv.b (A 115)))).c (ay P cal (aw P cal k) none 115 (cR (cR (cR (cR sw)))) (Lv.b (Lv.b (Lv.b (Lv.b (A 115))))) (av P fq) X0 (av P fq)))
noncomputable def E115_1 (cal:Cal) (k m1:Nat):KR:=ay P cal (aw P cal m1) none 115 (cL (cL (cR (cL (cR (cR sw)))))) (Lv.a (Lv.a (Lv.b (Lv.a (Lv.b (Lv.b (A 115))))))) (Dw cal k m1) (rW cal k) (av P fq)
noncomputable def R115_1 (cal:Cal) (k m1:Nat):V3:=fun u4 u5 u10 H n=>aw P cal m1 (Lv.a (Lv.b (Lv.a (Lv.b (Lv.b (A 115)))))) none 115 (cL (cR (cL (cR (cR sw))))) (RY cal k) (rW cal k) (av P fq) (Tr.set (Tr.set (Tr.set Tr.nil 10 (some u10)) 5 (some u5)) 4 (some u4)) H n []
noncomputable def B115_1 (cal:Cal) (k m1:Nat) (b1:V3) (u4 u5 u10:Value) (H:Hp) (n:Nat):Res:=
binK P .lss 3 (.tmp 10) (.const (.int .i64 8)) u10 (.int .i64 8) fun v_h=>
ifK v_h (
aq (aW u5) fun a_l=>aq (az P H 113 a_l) fun v_m=>
aq (aW u5) fun a_o=>aq (az P H 113 a_o) fun v_p=>
aq (ax P 113 u5 2) fun v_r=>
effK P [(.l 113 a_o),(.l 113 a_l)] H n (fun H_s n_t k_u=>
aV P cal 121 [] H_s n_t fun v_y H_z n_10=>
k_u v_y H_z n_10) fun v_v H_w n_x=>
effK P [(.l 113 a_o)] H_w n_x (fun H_11 n_12 k_13=>
aV P cal 120 [v_m,u10,v_v] H_11 n_12 fun v_17 H_18 n_19=>
k_13 v_17 H_18 n_19) fun v_14 H_15 n_16=>
effK P [(.l 113 a_o)] H_15 n_16 (fun H_1a n_1b k_1c=>
aV P cal 122 [] H_1a n_1b fun v_1g H_1h n_1i=>
k_1c v_1g H_1h n_1i) fun v_1d H_1e n_1f=>
aV P cal 120 [v_p,u10,v_1d] H_1e n_1f fun v_1j H_1k n_1l=>
aq (fK P 53 [(0,v_14),(1,v_1j)]) fun v_1m=>
aq (aY P 111 v_r u10) fun v_1n=>
aq (bx P 53 v_1n v_1m H_1k) fun H_1p=>
binK P .add 3 (.tmp 10) (.const (.int .i64 1)) u10 (.int .i64 1) fun v_1q=>
b1 u4 u5 v_1q H_1p n_1l) (
aq (aW u5) fun a_1t=>aq (az P H 113 a_1t) fun v_1s=>
aq (bx P 113 u4 v_1s H) fun H_1v=>
aq (resV P (Tr.set Tr.nil 4 (some u4)) H_1v fq) fun v_1w=>some (oneV v_1w,H_1v,n))
noncomputable def UK (cal:Cal) (k m1:Nat) (b1:V3) (u4 u5 u10:Value) (H:Hp) (n:Nat):Res:=B115_1 cal k m1 b1 u4 u5 u10 H n
noncomputable def S115_1 (cal:Cal) (k:Nat):Nat→V3:=fun m=>Nat.rec (motive:=fun _=>V3) (UK cal k 0 (fun _ _ _ _ _=>none)) (fun m ih=>UK cal k (m+1) ih) m
theorem h115_1 (cal:Cal) (k m1:Nat) (u4 u5 u10:Value) (H:Hp) (n:Nat):labK (E115_1 cal k m1) (Tr.set (Tr.set (Tr.set Tr.nil 10 (some u10)) 5 (some u5)) 4 (some u4)) H n []=UK cal k m1 (R115_1 cal k m1) u4 u5 u10 H n:=by
  refine Eq.trans (b:=B115_1 cal k m1 (R115_1 cal k m1) u4 u5 u10 H n) (by kernel_rfl) ?_
  rw[UK]
theorem q115_1 (cal:Cal) (k:Nat):∀(m:Nat) (u4 u5 u10:Value) (H:Hp) (n:Nat),labK (E115_1 cal k m) (Tr.set (Tr.set (Tr.set Tr.nil 10 (some u10)) 5 (some u5)) 4 (some u4)) H n []=S115_1 cal k m u4 u5 u10 H n
  | 0,u4,u5,u10,H,n=>by
    rw[h115_1]
    have e:R115_1 cal k 0=fun _ _ _ _ _=>none:=by funext u4 u5 u10 H n; kernel_rfl
    rw[e]; rfl
  | m+1,u4,u5,u10,H,n=>by
    rw[h115_1]
    have e:R115_1 cal k (m+1)=S115_1 cal k m:=by
      funext u4 u5 u10 H n
      have e:R115_1 cal k (m+1) u4 u5 u10 H n=labK (E115_1 cal k m) (Tr.set (Tr.set (Tr.set Tr.nil 10 (some u10)) 5 (some u5)) 4 (some u4)) H n []:=by kernel_rfl
      rw[e]; exact q115_1 ..
    rw[e]; rfl
noncomputable def B115_0 (cal:Cal) (k:Nat) (j1:V3) (v0 v1:Value) (H:Hp) (n:Nat):Res:=
boxK 111 v1 H n fun v_1 H_2 n_3=>
cX P 113 H_2 n_3 fun v_4 H_5 n_6=>
aq (aW v_1) fun a_9=>aq (az P H_5 111 a_9) fun v_8=>
aq (fK P 113 [(0,v0),(1,v_8)]) fun v_a=>
cX P 113 H_5 n_6 fun v_b H_c n_d=>
aq (bx P 113 v_b v_a H_c) fun H_f=>
j1 v_4 v_b (.int .i64 0) H_f n_d
noncomputable def Vj (cal:Cal) (k:Nat) (v0 v1:Value) (H:Hp) (n:Nat):Res:=B115_0 cal k (S115_1 cal k k) v0 v1 H n
theorem h115_0 (cal:Cal) (k:Nat) (v0 v1:Value) (H:Hp) (n:Nat):aZ P cal A (k+1) 115 [v0,v1] H n=Vj cal k v0 v1 H n:=by
  have h:aZ P cal A (k+1) 115 [v0,v1] H n=B115_0 cal k (fun u4 u5 u10 H n=>labK (E115_1 cal k k) (Tr.set (Tr.set (Tr.set Tr.nil 10 (some u10)) 5 (some u5)) 4 (some u4)) H n []) v0 v1 H n:=by
    rw[bJ (fn:=Go.Proofs.Try.f115) (c:=sw) (rs:=fq) (by kernel_rfl) (by kernel_rfl) (by kernel_rfl) (by kernel_rfl)]
    kernel_rfl
  rw[h,Vj]
  have e1:(fun u4 u5 u10 H n=>labK (E115_1 cal k k) (Tr.set (Tr.set (Tr.set Tr.nil 10 (some u10)) 5 (some u5)) 4 (some u4)) H n [])=(S115_1 cal k k):=by funext u4 u5 u10 H n; exact q115_1 ..
  rw[e1]
noncomputable def YJ:Code:=cq 117
noncomputable def vv:List ResultVar:=dJ 117
noncomputable def K117_p (cal:Cal) (k:Nat):KR:=(cutK (A 117).c (ay P cal (aw P cal k) none 117 (cR YJ) (Lv.b (A 117)) (av P vv) X0 (av P vv)))
noncomputable def K117_pr (cal:Cal) (k:Nat):KR:=(cutK (Lv.b (A 117)).c (ay P cal (aw P cal k) none 117 (cR (cR YJ)) (Lv.b (Lv.b (A 117))) (av P vv) X0 (av P vv)))
noncomputable def K117_prr (cal:Cal) (k:Nat):KR:=(cutK (Lv.b (Lv.b (A 117))).c (ay P cal (aw P cal k) none 117 (cR (cR (cR YJ))) (Lv.b (Lv.b (Lv.b (A 117)))) (av P vv) X0 (av P vv)))
noncomputable def B117_0 (cal:Cal) (k:Nat) (v0 v1 v2:Value) (H:Hp) (n:Nat):Res:=
boxK 175 v0 H n fun v_1 H_2 n_3=>
cX P 176 H_2 n_3 fun v_4 H_5 n_6=>
aq (bx P 176 v_4 (Value.func (Fn.func 118) ⟨[]⟩ ⟨[v1,v_1,v_4]⟩) H_5) fun H_9=>
aq (aW v_4) fun a_a=>aq (az P H_9 176 a_a) fun v_b=>
aq (fK P 111 []) fun v_c=>
aq (aW v2) fun a_d=>aq (az P H_9 3 a_d) fun v_e=>
effK P [(.l 3 a_d),(.l 176 a_a)] H_9 n_6 (fun H_f n_g k_h=>
aV P cal 101 [] H_f n_g fun v_l H_m n_n=>
k_h v_l H_m n_n) fun v_i H_j n_k=>
gk P cal v_b [v_i,v_c,(.int .i64 0),v_e] H_j n_k fun v_o H_p n_q=>
some ((Value.tuple ⟨[]⟩),H_p,n_q)
noncomputable def PJ (cal:Cal) (k:Nat) (v0 v1 v2:Value) (H:Hp) (n:Nat):Res:=B117_0 cal k v0 v1 v2 H n
theorem h117_0 (cal:Cal) (k:Nat) (v0 v1 v2:Value) (H:Hp) (n:Nat):aZ P cal A (k+1) 117 [v0,v1,v2] H n=PJ cal k v0 v1 v2 H n:=by
  have h:aZ P cal A (k+1) 117 [v0,v1,v2] H n=B117_0 cal k v0 v1 v2 H n:=by
    rw[bJ (fn:=Go.Proofs.Try.f117) (c:=YJ) (rs:=vv) (by kernel_rfl) (by kernel_rfl) (by kernel_rfl) (by kernel_rfl)]
    kernel_rfl
  rw[h,PJ]
noncomputable def gZ:Code:=cq 118
noncomputable def ck:List ResultVar:=dJ 118
noncomputable def K118_p (cal:Cal) (k:Nat):KR:=(cutK (A 118).c (ay P cal (aw P cal k) none 118 (cR gZ) (Lv.b (A 118)) (av P ck) X0 (av P ck)))
noncomputable def K118_pr (cal:Cal) (k:Nat):KR:=(cutK (Lv.b (A 118)).c (ay P cal (aw P cal k) none 118 (cR (cR gZ)) (Lv.b (Lv.b (A 118))) (av P ck) X0 (av P ck)))
noncomputable def K118_prl (cal:Cal) (k:Nat):KR:=(cutK (Lv.a (Lv.b (A 118))).c (ay P cal (aw P cal k) none 118 (cR (cL (cR gZ))) (Lv.b (Lv.a (Lv.b (A 118)))) (K118_pr cal k) X0 (av P ck)))
noncomputable def K118_prlrl (cal:Cal) (k:Nat):KR:=(cutK (Lv.a (Lv.b (Lv.a (Lv.b (A 118))))).c (ay P cal (aw P cal k) none 118 (cR (cL (cR (cL (cR gZ))))) (Lv.b (Lv.a (Lv.b (Lv.a (Lv.b (A 118)))))) (K118_pr cal k) X0 (av P ck)))
noncomputable def K118_prr (cal:Cal) (k:Nat):KR:=(cutK (Lv.b (Lv.b (A 118))).c (ay P cal (aw P cal k) none 118 (cR (cR (cR gZ))) (Lv.b (Lv.b (Lv.b (A 118)))) (av P ck) X0 (av P ck)))
noncomputable def K118_prrl (cal:Cal) (k:Nat):KR:=(cutK (Lv.a (Lv.b (Lv.b (A 118)))).c (ay P cal (aw P cal k) none 118 (cR (cL (cR (cR gZ)))) (Lv.b (Lv.a (Lv.b (Lv.b (A 118))))) (K118_prr cal k) X0 (av P ck)))
noncomputable def K118_prrlrl (cal:Cal) (k:Nat):KR:=(cutK (Lv.a (Lv.b (Lv.a (Lv.b (Lv.b (A 118)))))).c (ay P cal (aw P cal k) none 118 (cR (cL (cR (cL (cR (cR gZ)))))) (Lv.b (Lv.a (Lv.b (Lv.a (Lv.b (Lv.b (A 118))))))) (K118_prr cal k) X0 (av P ck)))
noncomputable def K118_prrr (cal:Cal) (k:Nat):KR:=(cutK (Lv.b (Lv.b (Lv.b (A 118)))).c (ay P cal (aw P cal k) none 118 (cR (cR (cR (cR gZ)))) (Lv.b (Lv.b (Lv.b (Lv.b (A 118))))) (av P ck) X0 (av P ck)))
noncomputable def K118_prrrl (cal:Cal) (k:Nat):KR:=(cutK (Lv.a (Lv.b (Lv.b (Lv.b (A 118))))).c (ay P cal (aw P cal k) none 118 (cR (cL (cR (cR (cR gZ))))) (Lv.b (Lv.a (Lv.b (Lv.b (Lv.b (A 118)))))) (K118_prrr cal k) X0 (av P ck)))
noncomputable def K118_prrrlrl (cal:Cal) (k:Nat):KR:=(cutK (Lv.a (Lv.b (Lv.a (Lv.b (Lv.b (Lv.b (A 118))))))).c (ay P cal (aw P cal k) none 118 (cR (cL (cR (cL (cR (cR (cR gZ))))))) (Lv.b (Lv.a (Lv.b (Lv.a (Lv.b (Lv.b (Lv.b (A 118)))))))) (K118_prrr cal k) X0 (av P ck)))
noncomputable def IV (cal:Cal) (k:Nat):KR:=(cutK (Lv.b (Lv.b (Lv.b (Lv.b (A 118))))).c (ay P cal (aw P cal k) none 118 (cR (cR (cR (cR (cR gZ))))) (Lv.b (Lv.b (Lv.b (Lv.b (Lv.b (A 118)))))) (av P ck) X0 (av P ck)))
noncomputable def K118_prrrrl (cal:Cal) (k:Nat):KR:=(cutK (Lv.a (Lv.b (Lv.b (Lv.b (Lv.b (A 118)))))).c (ay P cal (aw P cal k) none 118 (cR (cL (cR (cR (cR (cR gZ)))))) (Lv.b (Lv.a (Lv.b (Lv.b (Lv.b (Lv.b (A 118))))))) (IV cal k) X0 (av P ck)))
noncomputable def mw (cal:Cal) (k:Nat):XR:=(upX 0 (IV cal k) X0)
noncomputable def tV (cal:Cal) (k:Nat) (m1:Nat):KR:=(fun T H n D=>aw P cal m1 (Lv.a (Lv.b (Lv.a (Lv.b (Lv.b (Lv.b (Lv.b (A 118)))))))) none 118 (cL (cR (cL (cR (cR (cR (cR gZ))))))) (IV cal k) (mw cal k) (av P ck) (cutT (Lv.a (Lv.b (Lv.a (Lv.b (Lv.b (Lv.b (Lv.b (A 118)))))))).c T) H n D)
noncomputable def K118_prrrrlrll (cal:Cal) (k:Nat) (m1:Nat):KR:=(cutK (Lv.a (Lv.a (Lv.b (Lv.a (Lv.b (Lv.b (Lv.b (Lv.b (A 118))))))))).c (ay P cal (aw P cal m1) none 118 (cR (cL (cL (cR (cL (cR (cR (cR (cR gZ))))))))) (Lv.b (Lv.a (Lv.a (Lv.b (Lv.a (Lv.b (Lv.b (Lv.b (Lv.b (A 118)))))))))) (tV cal k m1) (mw cal k) (av P ck)))
noncomputable def K118_prrrrlrllr (cal:Cal) (k:Nat) (m1:Nat):KR:=(cutK (Lv.b (Lv.a (Lv.a (Lv.b (Lv.a (Lv.b (Lv.b (Lv.b (Lv.b (A 118)))))))))).c (ay P cal (aw P cal m1) none 118 (cR (cR (cL (cL (cR (cL (cR (cR (cR (cR gZ)))))))))) (Lv.b (Lv.b (Lv.a (Lv.a (Lv.b (Lv.a (Lv.b (Lv.b (Lv.b (Lv.b (A 118))))))))))) (tV cal k m1) (mw cal k) (av P ck)))
noncomputable def mz (cal:Cal) (k:Nat) (m1:Nat):KR:=(cutK (Lv.b (Lv.b (Lv.a (Lv.a (Lv.b (Lv.a (Lv.b (Lv.b (Lv.b (Lv.b (A 118))))))))))).c (ay P cal (aw P cal m1) none 118 (cR (cR (cR (cL (cL (cR (cL (cR (cR (cR (cR gZ))))))))))) (Lv.b (Lv.b (Lv.b (Lv.a (Lv.a (Lv.b (Lv.a (Lv.b (Lv.b (Lv.b (Lv.b (A 118)))))))))))) (tV cal k m1) (mw cal k) (av P ck)))
noncomputable def kQ (cal:Cal) (k:Nat) (m1:Nat):XR:=(upX 1 (mz cal k m1) (mw cal k))
noncomputable def K118_prrrrlrllrrll (cal:Cal) (k:Nat) (m1:Nat):KR:=(cutK (Lv.a (Lv.a (Lv.b (Lv.b (Lv.a (Lv.a (Lv.b (Lv.a (Lv.b (Lv.b (Lv.b (Lv.b (A 118))))))))))))).c (ay P cal (aw P cal m1) none 118 (cR (cL (cL (cR (cR (cL (cL (cR (cL (cR (cR (cR (cR gZ))))))))))))) (Lv.b (Lv.a (Lv.a (Lv.b (Lv.b (Lv.a (Lv.a (Lv.b (Lv.a (Lv.b (Lv.b (Lv.b (Lv.b (A 118)))))))))))))) (mz cal k m1) (kQ cal k m1) (av P ck)))
noncomputable def K118_prrrrlrllrrllr (cal:Cal) (k:Nat) (m1:Nat):KR:=(cutK (Lv.b (Lv.a (Lv.a (Lv.b (Lv.b (Lv.a (Lv.a (Lv.b (Lv.a (Lv.b (Lv.b (Lv.b (Lv.b (A 118)))))))))))))).c (ay P cal (aw P cal m1) none 118 (cR (cR (cL (cL (cR (cR (cL (cL (cR (cL (cR (cR (cR (cR gZ)))))))))))))) (Lv.b (Lv.b (Lv.a (Lv.a (Lv.b (Lv.b (Lv.a (Lv.a (Lv.b (Lv.a (Lv.b (Lv.b (Lv.b (Lv.b (A 118))))))))))))))) (mz cal k m1) (kQ cal k m1) (av P ck)))
noncomputable def K118_prrrrlrllrrllrl (cal:Cal) (k:Nat) (m1:Nat):KR:=(cutK (Lv.a (Lv.b (Lv.a (Lv.a (Lv.b (Lv.b (Lv.a (Lv.a (Lv.b (Lv.a (Lv.b (Lv.b (Lv.b (Lv.b (A 118))))))))))))))).c (ay P cal (aw P cal m1) none 118 (cR (cL (cR (cL (cL (cR (cR (cL (cL (cR (cL (cR (cR (cR (cR gZ))))))))))))))) (Lv.b (Lv.a (Lv.b (Lv.a (Lv.a (Lv.b (Lv.b (Lv.a (Lv.a (Lv.b (Lv.a (Lv.b (Lv.b (Lv.b (Lv.b (A 118)))))))))))))))) (K118_prrrrlrllrrllr cal k m1) (kQ cal k m1) (av P ck)))
noncomputable def K118_prrrrlrllrrllrr (cal:Cal) (k:Nat) (m1:Nat):KR:=(cutK (Lv.b (Lv.b (Lv.a (Lv.a (Lv.b (Lv.b (Lv.a (Lv.a (Lv.b (Lv.a (Lv.b (Lv.b (Lv.b (Lv.b (A 118))))))))))))))).c (ay P cal (aw P cal m1) none 118 (cR (cR (cR (cL (cL (cR (cR (cL (cL (cR (cL (cR (cR (cR (cR gZ))))))))))))))) (Lv.b (Lv.b (Lv.b (Lv.a (Lv.a (Lv.b (Lv.b (Lv.a (Lv.a (Lv.b (Lv.a (Lv.b (Lv.b (Lv.b (Lv.b (A 118)))))))))))))))) (mz cal k m1) (kQ cal k m1) (av P ck)))
noncomputable def K118_prrrrlrllrrllrrr (cal:Cal) (k:Nat) (m1:Nat):KR:=(cutK (Lv.b (Lv.b (Lv.b (Lv.a (Lv.a (Lv.b (Lv.b (Lv.a (Lv.a (Lv.b (Lv.a (Lv.b (Lv.b (Lv.b (Lv.b (A 118)))))))))))))))).c (ay P cal (aw P cal m1) none 118 (cR (cR (cR (cR (cL (cL (cR (cR (cL (cL (cR (cL (cR (cR (cR (cR gZ)))))))))))))))) (Lv.b (Lv.b (Lv.b (Lv.b (Lv.a (Lv.a (Lv.b (Lv.b (Lv.a (Lv.a (Lv.b (Lv.a (Lv.b (Lv.b (Lv.b (Lv.b (A 118))))))))))))))))) (mz cal k m1) (kQ cal k m1) (av P ck)))
noncomputable def K118_prrrrlrllrrllrrrrl (cal:Cal) (k:Nat) (m1:Nat):KR:=(cutK (Lv.a (Lv.b (Lv.b (Lv.b (Lv.b (Lv.a (Lv.a (Lv.b (Lv.b (Lv.a (Lv.a (Lv.b (Lv.a (Lv.b (Lv.b (Lv.b (Lv.b (A 118)))))))))))))))))).c (ay P cal (aw P cal m1) none 118 (cR (cL (cR (cR (cR (cR (cL (cL (cR (cR (cL (cL (cR (cL (cR (cR (cR (cR gZ)))))))))))))))))) (Lv.b (Lv.a (Lv.b (Lv.b (Lv.b (Lv.b (Lv.a (Lv.a (Lv.b (Lv.b (Lv.a (Lv.a (Lv.b (Lv.a (Lv.b (Lv.b (Lv.b (Lv.b (A 118))))))))))))))))))) (mz cal k m1) (kQ cal k m1) (av P ck)))
noncomputable def K118_prrrrr (cal:Cal) (k:Nat):KR:=(cutK (Lv.b (Lv.b (Lv.b (Lv.b (Lv.b (A 118)))))).c (ay P cal (aw P cal k) none 118 (cR (cR (cR (cR (cR (cR gZ)))))) (Lv.b (Lv.b (Lv.b (Lv.b (Lv.b (Lv.b (A 118))))))) (av P ck) X0 (av P ck)))
noncomputable def E118_2 (cal:Cal) (k m1:Nat):KR:=ay P cal (aw P cal m1) none 118 (cR (cR (cR (cL (cL (cR (cL (cR (cR (cR (cR gZ))))))))))) (Lv.b (Lv.b (Lv.b (Lv.a (Lv.a (Lv.b (Lv.a (Lv.b (Lv.b (Lv.b (Lv.b (A 118)))))))))))) (tV cal k m1) (mw cal k) (av P ck)
noncomputable def E118_1 (cal:Cal) (k m1:Nat):KR:=ay P cal (aw P cal m1) none 118 (cL (cL (cR (cL (cR (cR (cR (cR gZ)))))))) (Lv.a (Lv.a (Lv.b (Lv.a (Lv.b (Lv.b (Lv.b (Lv.b (A 118))))))))) (tV cal k m1) (mw cal k) (av P ck)
noncomputable def KZ (cal:Cal) (k m1:Nat):V8:=fun u2 u3 u4 u6 u7 u8 u48 u49 H n=>aw P cal m1 (Lv.a (Lv.b (Lv.a (Lv.b (Lv.b (Lv.b (Lv.b (A 118)))))))) none 118 (cL (cR (cL (cR (cR (cR (cR gZ))))))) (IV cal k) (mw cal k) (av P ck) (Tr.set (Tr.set (Tr.set (Tr.set (Tr.set (Tr.set (Tr.set (Tr.set Tr.nil 49 (some u49)) 48 (some u48)) 8 (some u8)) 7 (some u7)) 6 (some u6)) 4 (some u4)) 3 (some u3)) 2 (some u2)) H n []
noncomputable def B118_2 (cal:Cal) (k m1:Nat) (b1:V8) (u2 u3 u4 u6 u7 u8 u48 u49:Value) (H:Hp) (n:Nat):Res:=
binK P .add 3 (.tmp 49) (.const (.int .i64 1)) u49 (.int .i64 1) fun v_2z=>
b1 u2 u3 u4 u6 u7 u8 u48 v_2z H n
noncomputable def Vq (cal:Cal) (k m1:Nat) (b1:V8) (u2 u3 u4 u6 u7 u8 u48 u49:Value) (H:Hp) (n:Nat):Res:=B118_2 cal k m1 b1 u2 u3 u4 u6 u7 u8 u48 u49 H n
theorem h118_2 (cal:Cal) (k m1:Nat) (u2 u3 u4 u6 u7 u8 u48 u49:Value) (H:Hp) (n:Nat):labK (E118_2 cal k m1) (Tr.set (Tr.set (Tr.set (Tr.set (Tr.set (Tr.set (Tr.set (Tr.set Tr.nil 49 (some u49)) 48 (some u48)) 8 (some u8)) 7 (some u7)) 6 (some u6)) 4 (some u4)) 3 (some u3)) 2 (some u2)) H n []=Vq cal k m1 (KZ cal k m1) u2 u3 u4 u6 u7 u8 u48 u49 H n:=by
  refine Eq.trans (b:=B118_2 cal k m1 (KZ cal k m1) u2 u3 u4 u6 u7 u8 u48 u49 H n) (by kernel_rfl) ?_
  rw[Vq]
noncomputable def B118_1 (cal:Cal) (k m1:Nat) (j2:V8) (b1:V8) (u2 u3 u4 u6 u7 u8 u48 u49:Value) (H:Hp) (n:Nat):Res:=
binK P .lss 3 (.tmp 49) (.tmp 48) u49 u48 fun v_2y=>
ifK v_2y (
aq (aW u4) fun a_34=>aq (az P H 105 a_34) fun v_33=>
aV P cal 102 [v_33,u2,u49] H n fun v_37 H_38 n_39=>
aq (ej P v_37 (Op.unary UnOp.not v_37)) fun v_3a=>
ifK v_3a (
j2 u2 u3 u4 u6 u7 u8 u48 u49 H_38 n_39) (
aq (aY P 121 u7 u2) fun v_3d=>
aq (bx P 3 v_3d u49 H_38) fun H_3f=>
aq (aW u6) fun a_3g=>aq (az P H_3f 176 a_3g) fun v_3h=>
aq (aW u7) fun a_3i=>aq (az P H_3f 121 a_3i) fun v_3j=>
aq (aW u8) fun a_3k=>aq (az P H_3f 111 a_3k) fun v_3l=>
aq (aW u4) fun a_3m=>aq (az P H_3f 105 a_3m) fun v_3n=>
aq (nilV v_3n) fun v_3q=>
aq (ax P 117 v_3q 2) fun v_3r=>
aq (aY P 115 v_3r u2) fun v_3s=>
aq (aY P 114 v_3s u49) fun v_3t=>
aq (ax P 113 v_3t 2) fun v_3u=>
aq (aW v_3u) fun a_3v=>aq (az P H_3f 111 a_3v) fun v_3w=>
binK P .add 3 (.tmp 73) (.const (.int .i64 1)) u2 (.int .i64 1) fun v_3y=>
binK P .sub 3 (.tmp 75) (.const (.int .i64 1)) u3 (.int .i64 1) fun v_40=>
effK P [(.l 121 a_3i),(.l 176 a_3g)] H_3f n_39 (fun H_41 n_42 k_43=>
aV P cal 103 [v_3l,v_3w] H_41 n_42 fun v_47 H_48 n_49=>
k_43 v_47 H_48 n_49) fun v_44 H_45 n_46=>
gk P cal v_3h [v_3j,v_44,v_3y,v_40] H_45 n_46 fun v_4a H_4b n_4c=>
aq (ej P v_4a (Op.unary UnOp.not v_4a)) fun v_4d=>
ifK v_4d (
some ((.bool false),H_4b,n_4c)) (
j2 u2 u3 u4 u6 u7 u8 u48 u49 H_4b n_4c))) (
some ((.bool true),H,n))
noncomputable def Vv (cal:Cal) (k m1:Nat) (b1:V8) (u2 u3 u4 u6 u7 u8 u48 u49:Value) (H:Hp) (n:Nat):Res:=B118_1 cal k m1 (Vq cal k m1 b1) b1 u2 u3 u4 u6 u7 u8 u48 u49 H n
noncomputable def PQ (cal:Cal) (k:Nat):Nat→V8:=fun m=>Nat.rec (motive:=fun _=>V8) (Vv cal k 0 (fun _ _ _ _ _ _ _ _ _ _=>none)) (fun m ih=>Vv cal k (m+1) ih) m
theorem h118_1 (cal:Cal) (k m1:Nat) (u2 u3 u4 u6 u7 u8 u48 u49:Value) (H:Hp) (n:Nat):labK (E118_1 cal k m1) (Tr.set (Tr.set (Tr.set (Tr.set (Tr.set (Tr.set (Tr.set (Tr.set Tr.nil 49 (some u49)) 48 (some u48)) 8 (some u8)) 7 (some u7)) 6 (some u6)) 4 (some u4)) 3 (some u3)) 2 (some u2)) H n []=Vv cal k m1 (KZ cal k m1) u2 u3 u4 u6 u7 u8 u48 u49 H n:=by
  refine Eq.trans (b:=B118_1 cal k m1 (fun u2 u3 u4 u6 u7 u8 u48 u49 H n=>labK (E118_2 cal k m1) (Tr.set (Tr.set (Tr.set (Tr.set (Tr.set (Tr.set (Tr.set (Tr.set Tr.nil 49 (some u49)) 48 (some u48)) 8 (some u8)) 7 (some u7)) 6 (some u6)) 4 (some u4)) 3 (some u3)) 2 (some u2)) H n []) (KZ cal k m1) u2 u3 u4 u6 u7 u8 u48 u49 H n) (by kernel_rfl) ?_
  rw[Vv]
  have e2:(fun u2 u3 u4 u6 u7 u8 u48 u49 H n=>labK (E118_2 cal k m1) (Tr.set (Tr.set (Tr.set (Tr.set (Tr.set (Tr.set (Tr.set (Tr.set Tr.nil 49 (some u49)) 48 (some u48)) 8 (some u8)) 7 (some u7)) 6 (some u6)) 4 (some u4)) 3 (some u3)) 2 (some u2)) H n [])=(Vq cal k m1 (KZ cal k m1)):=by funext u2 u3 u4 u6 u7 u8 u48 u49 H n; exact h118_2 ..
  rw[e2]
theorem q118_1 (cal:Cal) (k:Nat):∀(m:Nat) (u2 u3 u4 u6 u7 u8 u48 u49:Value) (H:Hp) (n:Nat),labK (E118_1 cal k m) (Tr.set (Tr.set (Tr.set (Tr.set (Tr.set (Tr.set (Tr.set (Tr.set Tr.nil 49 (some u49)) 48 (some u48)) 8 (some u8)) 7 (some u7)) 6 (some u6)) 4 (some u4)) 3 (some u3)) 2 (some u2)) H n []=PQ cal k m u2 u3 u4 u6 u7 u8 u48 u49 H n
  | 0,u2,u3,u4,u6,u7,u8,u48,u49,H,n=>by
    rw[h118_1]
    have e:KZ cal k 0=fun _ _ _ _ _ _ _ _ _ _=>none:=by funext u2 u3 u4 u6 u7 u8 u48 u49 H n; kernel_rfl
    rw[e]; rfl
  | m+1,u2,u3,u4,u6,u7,u8,u48,u49,H,n=>by
    rw[h118_1]
    have e:KZ cal k (m+1)=PQ cal k m:=by
      funext u2 u3 u4 u6 u7 u8 u48 u49 H n
      have e:KZ cal k (m+1) u2 u3 u4 u6 u7 u8 u48 u49 H n=labK (E118_1 cal k m) (Tr.set (Tr.set (Tr.set (Tr.set (Tr.set (Tr.set (Tr.set (Tr.set Tr.nil 49 (some u49)) 48 (some u48)) 8 (some u8)) 7 (some u7)) 6 (some u6)) 4 (some u4)) 3 (some u3)) 2 (some u2)) H n []:=by kernel_rfl
      rw[e]; exact q118_1 ..
    rw[e]; rfl
noncomputable def B118_0 (cal:Cal) (k:Nat) (j1:V8) (v0 v1 v2 v3 v4 v5 v6:Value) (H:Hp) (n:Nat):Res:=
boxK 121 v0 H n fun v_1 H_2 n_3=>
boxK 111 v1 H_2 n_3 fun v_4 H_5 n_6=>
aq (aW v4) fun a_9=>aq (az P H_5 105 a_9) fun v_8=>
aq (aW v_4) fun a_b=>aq (az P H_5 111 a_b) fun v_a=>
aV P cal 111 [v_8,v_a] H_5 n_6 fun v_c H_d n_e=>
aq (ej P v_c (Op.unary UnOp.not v_c)) fun v_f=>
aQ v_f false (fun k_h=>
k_h v3 H_d n_e) H_d n_e fun v_i H_j n_k=>
aQ v_f false (fun k_m=>
aq (aW v4) fun a_r=>aq (az P H_j 105 a_r) fun v_q=>
k_m v_q H_j n_k) H_j n_k fun v_n H_o n_p=>
aQ v_f false (fun k_s=>
aq (nilV v_n) fun v_w=>
k_s v_w H_o n_p) H_o n_p fun v_t H_u n_v=>
aQ v_f false (fun k_x=>
aq (ax P 117 v_t 0) fun v_11=>
k_x v_11 H_u n_v) H_u n_v fun v_y H_z n_10=>
aQ v_f false (fun k_12=>
aq (ax P 35 v_y 0) fun v_16=>
k_12 v_16 H_z n_10) H_z n_10 fun v_13 H_14 n_15=>
aQ v_f false (fun k_17=>
aq (aW v_13) fun a_1c=>aq (az P H_14 31 a_1c) fun v_1b=>
k_17 v_1b H_14 n_15) H_14 n_15 fun v_18 H_19 n_1a=>
aQ v_f false (fun k_1d=>
aq (lenV P 31 v_18) fun v_1h=>
k_1d v_1h H_19 n_1a) H_19 n_1a fun v_1e H_1f n_1g=>
aQ v_f false (fun k_1i=>
k_1i v2 H_1f n_1g) H_1f n_1g fun v_1j H_1k n_1l=>
aQ v_f false (fun k_1n=>
binK P .sub 3 (.tmp 24) (.tmp 25) v_1e v_1j fun v_1r=>
k_1n v_1r H_1k n_1l) H_1k n_1l fun v_1o H_1p n_1q=>
aQ v_f false (fun k_1s=>
binK P .gtr 3 (.tmp 18) (.tmp 26) v_i v_1o fun v_1w=>
k_1s v_1w H_1p n_1q) H_1p n_1q fun v_1t H_1u n_1v=>
aq (cK v_f (.bool true) v_1t) fun v_1x=>
ifK v_1x (
some ((.bool true),H_1u,n_1v)) (
binK P .eql 3 (.tmp 29) (.const (.int .i64 0)) v3 (.int .i64 0) fun v_20=>
ifK v_20 (
aq (aW v5) fun a_22=>aq (az P H_1u 175 a_22) fun v_21=>
aq (aW v_1) fun a_24=>aq (az P H_1u 121 a_24) fun v_23=>
aq (aW v_4) fun a_26=>aq (az P H_1u 111 a_26) fun v_25=>
gk P cal v_21 [v_23,v_25] H_1u n_1v fun v_27 H_28 n_29=>
some (v_27,H_28,n_29)) (
aq (aW v6) fun a_2c=>aq (az P H_1u 176 a_2c) fun v_2b=>
aq (aW v_1) fun a_2e=>aq (az P H_1u 121 a_2e) fun v_2d=>
aq (aW v_4) fun a_2g=>aq (az P H_1u 111 a_2g) fun v_2f=>
binK P .add 3 (.tmp 38) (.const (.int .i64 1)) v2 (.int .i64 1) fun v_2i=>
gk P cal v_2b [v_2d,v_2f,v_2i,v3] H_1u n_1v fun v_2k H_2l n_2m=>
aq (ej P v_2k (Op.unary UnOp.not v_2k)) fun v_2n=>
ifK v_2n (
some ((.bool false),H_2l,n_2m)) (
aq (aW v4) fun a_2q=>aq (az P H_2l 105 a_2q) fun v_2p=>
aq (nilV v_2p) fun v_2r=>
aq (ax P 117 v_2r 0) fun v_2s=>
aq (ax P 35 v_2s 2) fun v_2t=>
aq (aW v_2t) fun a_2v=>aq (az P H_2l 33 a_2v) fun v_2u=>
aq (lenV P 33 v_2u) fun v_2w=>
j1 v2 v3 v4 v6 v_1 v_4 v_2w (.int .i64 0) H_2l n_2m)))
noncomputable def IW (cal:Cal) (k:Nat) (v0 v1 v2 v3 v4 v5 v6:Value) (H:Hp) (n:Nat):Res:=B118_0 cal k (PQ cal k k) v0 v1 v2 v3 v4 v5 v6 H n
theorem h118_0 (cal:Cal) (k:Nat) (v0 v1 v2 v3 v4 v5 v6:Value) (H:Hp) (n:Nat):aZ P cal A (k+1) 118 [v0,v1,v2,v3,v4,v5,v6] H n=IW cal k v0 v1 v2 v3 v4 v5 v6 H n:=by
  have h:aZ P cal A (k+1) 118 [v0,v1,v2,v3,v4,v5,v6] H n=B118_0 cal k (fun u2 u3 u4 u6 u7 u8 u48 u49 H n=>labK (E118_1 cal k k) (Tr.set (Tr.set (Tr.set (Tr.set (Tr.set (Tr.set (Tr.set (Tr.set Tr.nil 49 (some u49)) 48 (some u48)) 8 (some u8)) 7 (some u7)) 6 (some u6)) 4 (some u4)) 3 (some u3)) 2 (some u2)) H n []) v0 v1 v2 v3 v4 v5 v6 H n:=by
    rw[bJ (fn:=Go.Proofs.Try.f118) (c:=gZ) (rs:=ck) (by kernel_rfl) (by kernel_rfl) (by kernel_rfl) (by kernel_rfl)]
    kernel_rfl
  rw[h,IW]
  have e1:(fun u2 u3 u4 u6 u7 u8 u48 u49 H n=>labK (E118_1 cal k k) (Tr.set (Tr.set (Tr.set (Tr.set (Tr.set (Tr.set (Tr.set (Tr.set Tr.nil 49 (some u49)) 48 (some u48)) 8 (some u8)) 7 (some u7)) 6 (some u6)) 4 (some u4)) 3 (some u3)) 2 (some u2)) H n [])=(PQ cal k k):=by funext u2 u3 u4 u6 u7 u8 u48 u49 H n; exact q118_1 ..
  rw[e1]
noncomputable def tK:Code:=cq 119
noncomputable def gW:List ResultVar:=dJ 119
noncomputable def K119_p (cal:Cal) (k:Nat):KR:=(cutK (A 119).c (ay P cal (aw P cal k) none 119 (cR tK) (Lv.b (A 119)) (av P gW) X0 (av P gW)))
noncomputable def K119_pl (cal:Cal) (k:Nat):KR:=(cutK (Lv.a (A 119)).c (ay P cal (aw P cal k) none 119 (cR (cL tK)) (Lv.b (Lv.a (A 119))) (K119_p cal k) X0 (av P gW)))
noncomputable def K119_pr (cal:Cal) (k:Nat):KR:=(cutK (Lv.b (A 119)).c (ay P cal (aw P cal k) none 119 (cR (cR tK)) (Lv.b (Lv.b (A 119))) (av P gW) X0 (av P gW)))
noncomputable def zq (cal:Cal) (k:Nat):XR:=(upX 0 (av P gW) X0)
noncomputable def MQ (cal:Cal) (k:Nat) (m1:Nat):KR:=(fun T H n D=>aw P cal m1 (Lv.a (Lv.b (Lv.b (A 119)))) none 119 (cL (cR (cR tK))) (av P gW) (zq cal k) (av P gW) (cutT (Lv.a (Lv.b (Lv.b (A 119)))).c T) H n D)
noncomputable def K119_prrll (cal:Cal) (k:Nat) (m1:Nat):KR:=(cutK (Lv.a (Lv.a (Lv.b (Lv.b (A 119))))).c (ay P cal (aw P cal m1) none 119 (cR (cL (cL (cR (cR tK))))) (Lv.b (Lv.a (Lv.a (Lv.b (Lv.b (A 119)))))) (MQ cal k m1) (zq cal k) (av P gW)))
noncomputable def K119_prrllr (cal:Cal) (k:Nat) (m1:Nat):KR:=(cutK (Lv.b (Lv.a (Lv.a (Lv.b (Lv.b (A 119)))))).c (ay P cal (aw P cal m1) none 119 (cR (cR (cL (cL (cR (cR tK)))))) (Lv.b (Lv.b (Lv.a (Lv.a (Lv.b (Lv.b (A 119))))))) (MQ cal k m1) (zq cal k) (av P gW)))
noncomputable def IX (cal:Cal) (k:Nat) (m1:Nat):KR:=(cutK (Lv.b (Lv.b (Lv.a (Lv.a (Lv.b (Lv.b (A 119))))))).c (ay P cal (aw P cal m1) none 119 (cR (cR (cR (cL (cL (cR (cR tK))))))) (Lv.b (Lv.b (Lv.b (Lv.a (Lv.a (Lv.b (Lv.b (A 119)))))))) (MQ cal k m1) (zq cal k) (av P gW)))
noncomputable def K119_pxrrllrrl (cal:Cal) (k:Nat) (m1:Nat):XR:=(upX 1 (IX cal k m1) (zq cal k))
noncomputable def K119_prrllrrll (cal:Cal) (k:Nat) (m1:Nat):KR:=(cutK (Lv.a (Lv.a (Lv.b (Lv.b (Lv.a (Lv.a (Lv.b (Lv.b (A 119))))))))).c (ay P cal (aw P cal m1) none 119 (cR (cL (cL (cR (cR (cL (cL (cR (cR tK))))))))) (Lv.b (Lv.a (Lv.a (Lv.b (Lv.b (Lv.a (Lv.a (Lv.b (Lv.b (A 119)))))))))) (IX cal k m1) (K119_pxrrllrrl cal k m1) (av P gW)))
noncomputable def K119_prrllrrllr (cal:Cal) (k:Nat) (m1:Nat):KR:=(cutK (Lv.b (Lv.a (Lv.a (Lv.b (Lv.b (Lv.a (Lv.a (Lv.b (Lv.b (A 119)))))))))).c (ay P cal (aw P cal m1) none 119 (cR (cR (cL (cL (cR (cR (cL (cL (cR (cR tK)))))))))) (Lv.b (Lv.b (Lv.a (Lv.a (Lv.b (Lv.b (Lv.a (Lv.a (Lv.b (Lv.b (A 119))))))))))) (IX cal k m1) (K119_pxrrllrrl cal k m1) (av P gW)))
noncomputable def E119_1 (cal:Cal) (k m1:Nat):KR:=ay P cal (aw P cal m1) none 119 (cL (cL (cR (cR tK)))) (Lv.a (Lv.a (Lv.b (Lv.b (A 119))))) (MQ cal k m1) (zq cal k) (av P gW)
noncomputable def R119_1 (cal:Cal) (k m1:Nat):V5:=fun u0 u1 u2 u14 u15 H n=>aw P cal m1 (Lv.a (Lv.b (Lv.b (A 119)))) none 119 (cL (cR (cR tK))) (av P gW) (zq cal k) (av P gW) (Tr.set (Tr.set (Tr.set (Tr.set (Tr.set Tr.nil 15 (some u15)) 14 (some u14)) 2 (some u2)) 1 (some u1)) 0 (some u0)) H n []
noncomputable def B119_1 (cal:Cal) (k m1:Nat) (b1:V5) (u0 u1 u2 u14 u15:Value) (H:Hp) (n:Nat):Res:=
binK P .lss 3 (.tmp 15) (.tmp 14) u15 u14 fun v_h=>
ifK v_h (
aq (aW u2) fun a_k=>aq (az P H 105 a_k) fun v_l=>
aq (aW u1) fun a_m=>aq (az P H 3 a_m) fun v_n=>
aq (nilV v_l) fun v_p=>
aq (ax P 117 v_p 1) fun v_q=>
aq (aY P 109 v_q v_n) fun v_r=>
aq (aY P 108 v_r u15) fun v_s=>
aq (aW v_s) fun a_t=>aq (az P H 4 a_t) fun v_u=>
ix v_u true (fun k_w=>
k_w u0 .p H n) .p H n fun v_x x_y H_z n_10=>
ix v_u true (fun k_12=>
k_12 u15 .p H_z n_10) .p H_z n_10 fun v_13 x_14 H_15 n_16=>
ix v_u true (fun k_18=>
gk P cal v_x [v_13] H_15 n_16 fun v_1d H_1e n_1f=>
k_18 v_1d .e H_1e n_1f) .e H_15 n_16 fun v_19 x_1a H_1b n_1c=>
ix v_u true (fun k_1g=>
aq (ej P v_19 (Op.unary UnOp.not v_19)) fun v_1l=>
k_1g v_1l .p H_1b n_1c) .p H_1b n_1c fun v_1h x_1i H_1j n_1k=>
aq (cK v_u v_1h (.bool false)) fun v_1m=>
ifK v_1m (
some ((Value.tuple ⟨[]⟩),H_1j,n_1k)) (
binK P .add 3 (.tmp 15) (.const (.int .i64 1)) u15 (.int .i64 1) fun v_1n=>
b1 u0 u1 u2 u14 v_1n H_1j n_1k)) (
some ((Value.tuple ⟨[]⟩),H,n))
noncomputable def Vw (cal:Cal) (k m1:Nat) (b1:V5) (u0 u1 u2 u14 u15:Value) (H:Hp) (n:Nat):Res:=B119_1 cal k m1 b1 u0 u1 u2 u14 u15 H n
noncomputable def Vx (cal:Cal) (k:Nat):Nat→V5:=fun m=>Nat.rec (motive:=fun _=>V5) (Vw cal k 0 (fun _ _ _ _ _ _ _=>none)) (fun m ih=>Vw cal k (m+1) ih) m
theorem h119_1 (cal:Cal) (k m1:Nat) (u0 u1 u2 u14 u15:Value) (H:Hp) (n:Nat):labK (E119_1 cal k m1) (Tr.set (Tr.set (Tr.set (Tr.set (Tr.set Tr.nil 15 (some u15)) 14 (some u14)) 2 (some u2)) 1 (some u1)) 0 (some u0)) H n []=Vw cal k m1 (R119_1 cal k m1) u0 u1 u2 u14 u15 H n:=by
  refine Eq.trans (b:=B119_1 cal k m1 (R119_1 cal k m1) u0 u1 u2 u14 u15 H n) (by kernel_rfl) ?_
  rw[Vw]
theorem q119_1 (cal:Cal) (k:Nat):∀(m:Nat) (u0 u1 u2 u14 u15:Value) (H:Hp) (n:Nat),labK (E119_1 cal k m) (Tr.set (Tr.set (Tr.set (Tr.set (Tr.set Tr.nil 15 (some u15)) 14 (some u14)) 2 (some u2)) 1 (some u1)) 0 (some u0)) H n []=Vx cal k m u0 u1 u2 u14 u15 H n
  | 0,u0,u1,u2,u14,u15,H,n=>by
    rw[h119_1]
    have e:R119_1 cal k 0=fun _ _ _ _ _ _ _=>none:=by funext u0 u1 u2 u14 u15 H n; kernel_rfl
    rw[e]; rfl
  | m+1,u0,u1,u2,u14,u15,H,n=>by
    rw[h119_1]
    have e:R119_1 cal k (m+1)=Vx cal k m:=by
      funext u0 u1 u2 u14 u15 H n
      have e:R119_1 cal k (m+1) u0 u1 u2 u14 u15 H n=labK (E119_1 cal k m) (Tr.set (Tr.set (Tr.set (Tr.set (Tr.set Tr.nil 15 (some u15)) 14 (some u14)) 2 (some u2)) 1 (some u1)) 0 (some u0)) H n []:=by kernel_rfl
      rw[e]; exact q119_1 ..
    rw[e]; rfl
noncomputable def B119_0 (cal:Cal) (k:Nat) (j1:V5) (v0 v1 v2:Value) (H:Hp) (n:Nat):Res:=
aq (aW v1) fun a_3=>aq (az P H 3 a_3) fun v_2=>
gk P cal v0 [v_2] H n fun v_4 H_5 n_6=>
aq (ej P v_4 (Op.unary UnOp.not v_4)) fun v_7=>
ifK v_7 (
some ((Value.tuple ⟨[]⟩),H_5,n_6)) (
aq (aW v2) fun a_9=>aq (az P H_5 105 a_9) fun v_8=>
aq (nilV v_8) fun v_a=>
aq (ax P 117 v_a 0) fun v_b=>
aq (ax P 35 v_b 0) fun v_c=>
aq (aW v_c) fun a_e=>aq (az P H_5 31 a_e) fun v_d=>
aq (lenV P 31 v_d) fun v_f=>
j1 v0 v1 v2 v_f (.int .i64 0) H_5 n_6)
noncomputable def PV (cal:Cal) (k:Nat) (v0 v1 v2:Value) (H:Hp) (n:Nat):Res:=B119_0 cal k (Vx cal k k) v0 v1 v2 H n
theorem h119_0 (cal:Cal) (k:Nat) (v0 v1 v2:Value) (H:Hp) (n:Nat):aZ P cal A (k+1) 119 [v0,v1,v2] H n=PV cal k v0 v1 v2 H n:=by
  have h:aZ P cal A (k+1) 119 [v0,v1,v2] H n=B119_0 cal k (fun u0 u1 u2 u14 u15 H n=>labK (E119_1 cal k k) (Tr.set (Tr.set (Tr.set (Tr.set (Tr.set Tr.nil 15 (some u15)) 14 (some u14)) 2 (some u2)) 1 (some u1)) 0 (some u0)) H n []) v0 v1 v2 H n:=by
    rw[bJ (fn:=Go.Proofs.Try.f119) (c:=tK) (rs:=gW) (by kernel_rfl) (by kernel_rfl) (by kernel_rfl) (by kernel_rfl)]
    kernel_rfl
  rw[h,PV]
  have e1:(fun u0 u1 u2 u14 u15 H n=>labK (E119_1 cal k k) (Tr.set (Tr.set (Tr.set (Tr.set (Tr.set Tr.nil 15 (some u15)) 14 (some u14)) 2 (some u2)) 1 (some u1)) 0 (some u0)) H n [])=(Vx cal k k):=by funext u0 u1 u2 u14 u15 H n; exact q119_1 ..
  rw[e1]
noncomputable def YQ:Code:=cq 120
noncomputable def vw:List ResultVar:=dJ 120
noncomputable def K120_p (cal:Cal) (k:Nat):KR:=(cutK (A 120).c (ay P cal (aw P cal k) none 120 (cR YQ) (Lv.b (A 120)) (av P vw) X0 (av P vw)))
noncomputable def K120_pr (cal:Cal) (k:Nat):KR:=(cutK (Lv.b (A 120)).c (ay P cal (aw P cal k) none 120 (cR (cR YQ)) (Lv.b (Lv.b (A 120))) (av P vw) X0 (av P vw)))
noncomputable def K120_prr (cal:Cal) (k:Nat):KR:=(cutK (Lv.b (Lv.b (A 120))).c (ay P cal (aw P cal k) none 120 (cR (cR (cR YQ))) (Lv.b (Lv.b (Lv.b (A 120)))) (av P vw) X0 (av P vw)))
noncomputable def B120_0 (cal:Cal) (k:Nat) (v0 v1 v2:Value) (H:Hp) (n:Nat):Res:=
boxK 113 v0 H n fun v_1 H_2 n_3=>
boxK 179 v2 H_2 n_3 fun v_4 H_5 n_6=>
aq (aW v_1) fun a_8=>aq (az P H_5 113 a_8) fun v_9=>
aq (ax P 179 v_4 1) fun v_a=>
aq (aW v_a) fun a_b=>aq (az P H_5 129 a_b) fun v_c=>
aq (ax P 179 v_4 1) fun v_d=>
aq (aW v_d) fun a_e=>aq (az P H_5 129 a_e) fun v_f=>
aq (ax P 113 v_1 1) fun v_h=>
aq (aY P 111 v_h v1) fun v_i=>
aq (aW v_i) fun a_j=>aq (az P H_5 53 a_j) fun v_k=>
effK P [(.l 53 a_j),(.l 129 a_e)] H_5 n_6 (fun H_l n_m k_n=>
aV P cal 98 [v_9,v_c] H_l n_m fun v_r H_s n_t=>
k_n v_r H_s n_t) fun v_o H_p n_q=>
gk P cal v_f [v_k] H_p n_q fun v_u H_v n_w=>
binK P .sub 3 (.tmp 11) (.tmp 18) v_o v_u fun v_x=>
aq (ax P 179 v_4 2) fun v_z=>
aq (aW v_z) fun a_10=>aq (az P H_v 160 a_10) fun v_11=>
aq (ax P 179 v_4 0) fun v_12=>
aq (aW v_12) fun a_13=>aq (az P H_v 129 a_13) fun v_14=>
aq (ax P 113 v_1 1) fun v_16=>
aq (aY P 111 v_16 v1) fun v_17=>
aq (aW v_17) fun a_18=>aq (az P H_v 53 a_18) fun v_19=>
aq (ax P 113 v_1 0) fun v_1a=>
aq (aW v_1a) fun a_1b=>aq (az P H_v 3 a_1b) fun v_1c=>
binK P .sub 3 (.tmp 30) (.tmp 31) v_1c v_x fun v_1e=>
aq (EW P 44 1 [(0,v_1e)]) fun q_1h=>newK q_1h.1 q_1h.2 H_v n_w fun H_1f n_1g=>
effK P [(.a n_w q_1h.1 q_1h.2),(.l 3 a_1b),(.l 160 a_10)] H_1f n_1g (fun H_1i n_1j k_1k=>
gk P cal v_14 [v_19] H_1i n_1j fun v_1o H_1p n_1q=>
k_1k v_1o H_1p n_1q) fun v_1l H_1m n_1n=>
gk P cal v_11 [v_1l,(.slice (some ⟨n_w,0,none⟩) 1 1)] H_1m n_1n fun v_1r H_1s n_1t=>
some (v_1r,H_1s,n_1t)
noncomputable def Vy (cal:Cal) (k:Nat) (v0 v1 v2:Value) (H:Hp) (n:Nat):Res:=B120_0 cal k v0 v1 v2 H n
theorem h120_0 (cal:Cal) (k:Nat) (v0 v1 v2:Value) (H:Hp) (n:Nat):aZ P cal A (k+1) 120 [v0,v1,v2] H n=Vy cal k v0 v1 v2 H n:=by
  have h:aZ P cal A (k+1) 120 [v0,v1,v2] H n=B120_0 cal k v0 v1 v2 H n:=by
    rw[bJ (fn:=Go.Proofs.Try.f120) (c:=YQ) (rs:=vw) (by kernel_rfl) (by kernel_rfl) (by kernel_rfl) (by kernel_rfl)]
    kernel_rfl
  rw[h,Vy]
noncomputable def code121:Code:=cq 121
noncomputable def vx:List ResultVar:=dJ 121
noncomputable def K121_p (cal:Cal) (k:Nat):KR:=(cutK (A 121).c (ay P cal (aw P cal k) none 121 (cR code121) (Lv.b (A 121)) (av P vx) X0 (av P vx)))
noncomputable def K121_pr (cal:Cal) (k:Nat):KR:=(cutK (Lv.b (A 121)).c (ay P cal (aw P cal k) none 121 (cR (cR code121)) (Lv.b (Lv.b (A 121))) (av P vx) X0 (av P vx)))
noncomputable def B121_0 (cal:Cal) (k:Nat) (H:Hp) (n:Nat):Res:=
cX P 179 H n fun v_1 H_2 n_3=>
aq (fK P 179 [(0,(Value.func (.func 72) #[] #[])),(1,(Value.func (.func 73) #[] #[])),(2,(Value.func (.func 106) #[] #[]))]) fun v_4=>
aq (bx P 179 v_1 v_4 H_2) fun H_6=>
aq (resV P (Tr.set Tr.nil 0 (some v_1)) H_6 vx) fun v_7=>some (oneV v_7,H_6,n_3)
noncomputable def Vz (cal:Cal) (k:Nat) (H:Hp) (n:Nat):Res:=B121_0 cal k  H n
theorem h121_0 (cal:Cal) (k:Nat) (H:Hp) (n:Nat):aZ P cal A (k+1) 121 [] H n=Vz cal k  H n:=by
  have h:aZ P cal A (k+1) 121 [] H n=B121_0 cal k  H n:=by
    rw[bJ (fn:=Go.Proofs.Try.f121) (c:=code121) (rs:=vx) (by kernel_rfl) (by kernel_rfl) (by kernel_rfl) (by kernel_rfl)]
    kernel_rfl
  rw[h,Vz]
noncomputable def code122:Code:=cq 122
noncomputable def vy:List ResultVar:=dJ 122
noncomputable def K122_p (cal:Cal) (k:Nat):KR:=(cutK (A 122).c (ay P cal (aw P cal k) none 122 (cR code122) (Lv.b (A 122)) (av P vy) X0 (av P vy)))
noncomputable def K122_pr (cal:Cal) (k:Nat):KR:=(cutK (Lv.b (A 122)).c (ay P cal (aw P cal k) none 122 (cR (cR code122)) (Lv.b (Lv.b (A 122))) (av P vy) X0 (av P vy)))
noncomputable def B122_0 (cal:Cal) (k:Nat) (H:Hp) (n:Nat):Res:=
cX P 179 H n fun v_1 H_2 n_3=>
aq (fK P 179 [(0,(Value.func (.func 73) #[] #[])),(1,(Value.func (.func 72) #[] #[])),(2,(Value.func (.func 105) #[] #[]))]) fun v_4=>
aq (bx P 179 v_1 v_4 H_2) fun H_6=>
aq (resV P (Tr.set Tr.nil 0 (some v_1)) H_6 vy) fun v_7=>some (oneV v_7,H_6,n_3)
noncomputable def Vk (cal:Cal) (k:Nat) (H:Hp) (n:Nat):Res:=B122_0 cal k  H n
theorem h122_0 (cal:Cal) (k:Nat) (H:Hp) (n:Nat):aZ P cal A (k+1) 122 [] H n=Vk cal k  H n:=by
  have h:aZ P cal A (k+1) 122 [] H n=B122_0 cal k  H n:=by
    rw[bJ (fn:=Go.Proofs.Try.f122) (c:=code122) (rs:=vy) (by kernel_rfl) (by kernel_rfl) (by kernel_rfl) (by kernel_rfl)]
    kernel_rfl
  rw[h,Vk]
end Go.Proofs.Ytgojjellogiglaa.G
