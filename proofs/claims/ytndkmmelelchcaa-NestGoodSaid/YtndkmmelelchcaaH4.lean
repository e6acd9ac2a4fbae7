/- The texts of functions, each with the proof that the evaluator says the same. -/
import Derived.Test.YtndkmmelelchcaaH1
open Go Go.Ev
set_option maxRecDepth 1000000
set_option linter.unusedVariables false
noncomputable section
namespace Go.Proofs.Ytndkmmelelchcaa.G
noncomputable def code68:Code:=cW 68
noncomputable def Ij:List ResultVar:=eX 68
noncomputable def K68_p(cal:Cal)(k:Nat):KR:=(cutK (A 68).c (ay P cal (aw P cal k) none 68 (cR code68) (Lv.b (A 68)) (av P Ij) X0 (av P Ij)))
noncomputable def K68_pr(cal:Cal)(k:Nat):KR:=(cutK (Lv.b (A 68)).c (ay P cal (aw P cal k) none 68 (cR (cR code68)) (Lv.b (Lv.b (A 68))) (av P Ij) X0 (av P Ij)))
noncomputable def B68_0(cal:Cal)(k:Nat)(v0 v1 v2:Value)(H:Hp)(n:Nat):Res:=
boxK 109 v1 H n fun v_1 H_2 n_3=>
aq (aV P 109 v_1 v2) fun v_6=>
aq (ax P 53 v_6 0) fun v_7=>
aq (aW v_7) fun a_8=>aq (az P H_2 3 a_8) fun v_9=>
aq (nilV v0) fun v_b=>
aq (ax P 115 v_b 0) fun v_c=>
aq (ax P 35 v_c 0) fun v_d=>
aq (aW v_d) fun a_e=>aq (az P H_2 31 a_e) fun v_f=>
aq (aV P 31 v_f v2) fun v_h=>
aq (ax P 90 v_h 0) fun v_i=>
aq (aW v_i) fun a_j=>aq (az P H_2 3 a_j) fun v_k=>
binK P .lss 3 (.tmp 10) (.tmp 19) v_9 v_k fun v_l=>
some (v_l,H_2,n_3)
noncomputable def C68_0(cal:Cal)(k:Nat)(v0 v1 v2:Value)(H:Hp)(n:Nat):Res:=B68_0 cal k v0 v1 v2 H n
theorem h68_0(cal:Cal)(k:Nat)(v0 v1 v2:Value)(H:Hp)(n:Nat):aK P cal A (k+1) 68 [v0,v1,v2] H n=C68_0 cal k v0 v1 v2 H n:=by
 have h:aK P cal A (k+1) 68 [v0,v1,v2] H n=B68_0 cal k v0 v1 v2 H n:=by
  rw[bX (fn:=Go.Proofs.Try.f68) (c:=code68) (rs:=Ij) (by kernel_rfl) (by kernel_rfl) (by kernel_rfl) (by kernel_rfl)]
  kernel_rfl
 rw[h,C68_0]
noncomputable def code69:Code:=cW 69
noncomputable def Iq:List ResultVar:=eX 69
noncomputable def K69_p(cal:Cal)(k:Nat):KR:=(cutK (A 69).c (ay P cal (aw P cal k) none 69 (cR code69) (Lv.b (A 69)) (av P Iq) X0 (av P Iq)))
noncomputable def K69_pr(cal:Cal)(k:Nat):KR:=(cutK (Lv.b (A 69)).c (ay P cal (aw P cal k) none 69 (cR (cR code69)) (Lv.b (Lv.b (A 69))) (av P Iq) X0 (av P Iq)))
noncomputable def B69_0(cal:Cal)(k:Nat)(v0 v1 v2:Value)(H:Hp)(n:Nat):Res:=
boxK 109 v1 H n fun v_1 H_2 n_3=>
aq (aV P 109 v_1 v2) fun v_6=>
aq (ax P 53 v_6 1) fun v_7=>
aq (aW v_7) fun a_8=>aq (az P H_2 3 a_8) fun v_9=>
aq (nilV v0) fun v_b=>
aq (ax P 115 v_b 0) fun v_c=>
aq (ax P 35 v_c 0) fun v_d=>
aq (aW v_d) fun a_e=>aq (az P H_2 31 a_e) fun v_f=>
aq (aV P 31 v_f v2) fun v_h=>
aq (ax P 90 v_h 1) fun v_i=>
aq (aW v_i) fun a_j=>aq (az P H_2 3 a_j) fun v_k=>
binK P .gtr 3 (.tmp 10) (.tmp 19) v_9 v_k fun v_l=>
some (v_l,H_2,n_3)
noncomputable def C69_0(cal:Cal)(k:Nat)(v0 v1 v2:Value)(H:Hp)(n:Nat):Res:=B69_0 cal k v0 v1 v2 H n
theorem h69_0(cal:Cal)(k:Nat)(v0 v1 v2:Value)(H:Hp)(n:Nat):aK P cal A (k+1) 69 [v0,v1,v2] H n=C69_0 cal k v0 v1 v2 H n:=by
 have h:aK P cal A (k+1) 69 [v0,v1,v2] H n=B69_0 cal k v0 v1 v2 H n:=by
  rw[bX (fn:=Go.Proofs.Try.f69) (c:=code69) (rs:=Iq) (by kernel_rfl) (by kernel_rfl) (by kernel_rfl) (by kernel_rfl)]
  kernel_rfl
 rw[h,C69_0]
noncomputable def code71:Code:=cW 71
noncomputable def Iv:List ResultVar:=eX 71
noncomputable def K71_p(cal:Cal)(k:Nat):KR:=(cutK (A 71).c (ay P cal (aw P cal k) none 71 (cR code71) (Lv.b (A 71)) (av P Iv) X0 (av P Iv)))
noncomputable def K71_pr(cal:Cal)(k:Nat):KR:=(cutK (Lv.b (A 71)).c (ay P cal (aw P cal k) none 71 (cR (cR code71)) (Lv.b (Lv.b (A 71))) (av P Iv) X0 (av P Iv)))
noncomputable def B71_0(cal:Cal)(k:Nat)(v0 v1:Value)(H:Hp)(n:Nat):Res:=
boxK 35 v0 H n fun v_1 H_2 n_3=>
binK P .geq 3 (.tmp 5) (.const (.int .i64 0)) v1 (.int .i64 0) fun v_6=>
aX v_6 true (fun k_8=>
k_8 v1 H_2 n_3) H_2 n_3 fun v_9 H_a n_b=>
aX v_6 true (fun k_d=>
aq (ax P 35 v_1 0) fun v_h=>
k_d v_h H_a n_b) H_a n_b fun v_e H_f n_g=>
aX v_6 true (fun k_i=>
aq (aW v_e) fun a_n=>aq (az P H_f 31 a_n) fun v_m=>
k_i v_m H_f n_g) H_f n_g fun v_j H_k n_l=>
aX v_6 true (fun k_o=>
aq (lenV P 31 v_j) fun v_s=>
k_o v_s H_k n_l) H_k n_l fun v_p H_q n_r=>
aX v_6 true (fun k_t=>
binK P .lss 3 (.tmp 8) (.tmp 11) v_9 v_p fun v_x=>
k_t v_x H_q n_r) H_q n_r fun v_u H_v n_w=>
aq (fJ v_6 v_u (.bool false)) fun v_y=>
some (v_y,H_v,n_w)
noncomputable def C71_0(cal:Cal)(k:Nat)(v0 v1:Value)(H:Hp)(n:Nat):Res:=B71_0 cal k v0 v1 H n
theorem h71_0(cal:Cal)(k:Nat)(v0 v1:Value)(H:Hp)(n:Nat):aK P cal A (k+1) 71 [v0,v1] H n=C71_0 cal k v0 v1 H n:=by
 have h:aK P cal A (k+1) 71 [v0,v1] H n=B71_0 cal k v0 v1 H n:=by
  rw[bX (fn:=Go.Proofs.Try.f71) (c:=code71) (rs:=Iv) (by kernel_rfl) (by kernel_rfl) (by kernel_rfl) (by kernel_rfl)]
  kernel_rfl
 rw[h,C71_0]
noncomputable def code72:Code:=cW 72
noncomputable def Iw:List ResultVar:=eX 72
noncomputable def K72_p(cal:Cal)(k:Nat):KR:=(cutK (A 72).c (ay P cal (aw P cal k) none 72 (cR code72) (Lv.b (A 72)) (av P Iw) X0 (av P Iw)))
noncomputable def K72_pr(cal:Cal)(k:Nat):KR:=(cutK (Lv.b (A 72)).c (ay P cal (aw P cal k) none 72 (cR (cR code72)) (Lv.b (Lv.b (A 72))) (av P Iw) X0 (av P Iw)))
noncomputable def B72_0(cal:Cal)(k:Nat)(v0:Value)(H:Hp)(n:Nat):Res:=
boxK 53 v0 H n fun v_1 H_2 n_3=>
aq (ax P 53 v_1 0) fun v_5=>
aq (aW v_5) fun a_7=>aq (az P H_2 3 a_7) fun v_6=>
some (v_6,H_2,n_3)
noncomputable def C72_0(cal:Cal)(k:Nat)(v0:Value)(H:Hp)(n:Nat):Res:=B72_0 cal k v0 H n
theorem h72_0(cal:Cal)(k:Nat)(v0:Value)(H:Hp)(n:Nat):aK P cal A (k+1) 72 [v0] H n=C72_0 cal k v0 H n:=by
 have h:aK P cal A (k+1) 72 [v0] H n=B72_0 cal k v0 H n:=by
  rw[bX (fn:=Go.Proofs.Try.f72) (c:=code72) (rs:=Iw) (by kernel_rfl) (by kernel_rfl) (by kernel_rfl) (by kernel_rfl)]
  kernel_rfl
 rw[h,C72_0]
noncomputable def code73:Code:=cW 73
noncomputable def Ix:List ResultVar:=eX 73
noncomputable def K73_p(cal:Cal)(k:Nat):KR:=(cutK (A 73).c (ay P cal (aw P cal k) none 73 (cR code73) (Lv.b (A 73)) (av P Ix) X0 (av P Ix)))
noncomputable def K73_pr(cal:Cal)(k:Nat):KR:=(cutK (Lv.b (A 73)).c (ay P cal (aw P cal k) none 73 (cR (cR code73)) (Lv.b (Lv.b (A 73))) (av P Ix) X0 (av P Ix)))
noncomputable def B73_0(cal:Cal)(k:Nat)(v0:Value)(H:Hp)(n:Nat):Res:=
boxK 53 v0 H n fun v_1 H_2 n_3=>
aq (ax P 53 v_1 1) fun v_5=>
aq (aW v_5) fun a_7=>aq (az P H_2 3 a_7) fun v_6=>
some (v_6,H_2,n_3)
noncomputable def C73_0(cal:Cal)(k:Nat)(v0:Value)(H:Hp)(n:Nat):Res:=B73_0 cal k v0 H n
theorem h73_0(cal:Cal)(k:Nat)(v0:Value)(H:Hp)(n:Nat):aK P cal A (k+1) 73 [v0] H n=C73_0 cal k v0 H n:=by
 have h:aK P cal A (k+1) 73 [v0] H n=B73_0 cal k v0 H n:=by
  rw[bX (fn:=Go.Proofs.Try.f73) (c:=code73) (rs:=Ix) (by kernel_rfl) (by kernel_rfl) (by kernel_rfl) (by kernel_rfl)]
  kernel_rfl
 rw[h,C73_0]
noncomputable def code74:Code:=cW 74
noncomputable def Iy:List ResultVar:=eX 74
noncomputable def K74_p(cal:Cal)(k:Nat):KR:=(cutK (A 74).c (ay P cal (aw P cal k) none 74 (cR code74) (Lv.b (A 74)) (av P Iy) X0 (av P Iy)))
noncomputable def K74_pr(cal:Cal)(k:Nat):KR:=(cutK (Lv.b (A 74)).c (ay P cal (aw P cal k) none 74 (cR (cR code74)) (Lv.b (Lv.b (A 74))) (av P Iy) X0 (av P Iy)))
noncomputable def B74_0(cal:Cal)(k:Nat)(v0 v1:Value)(H:Hp)(n:Nat):Res:=
boxK 103 v0 H n fun v_1 H_2 n_3=>
boxK 119 v1 H_2 n_3 fun v_4 H_5 n_6=>
some ((Value.func (Fn.func 104) ⟨[]⟩ ⟨[v_4,v_1]⟩),H_5,n_6)
noncomputable def C74_0(cal:Cal)(k:Nat)(v0 v1:Value)(H:Hp)(n:Nat):Res:=B74_0 cal k v0 v1 H n
theorem h74_0(cal:Cal)(k:Nat)(v0 v1:Value)(H:Hp)(n:Nat):aK P cal A (k+1) 74 [v0,v1] H n=C74_0 cal k v0 v1 H n:=by
 have h:aK P cal A (k+1) 74 [v0,v1] H n=B74_0 cal k v0 v1 H n:=by
  rw[bX (fn:=Go.Proofs.Try.f74) (c:=code74) (rs:=Iy) (by kernel_rfl) (by kernel_rfl) (by kernel_rfl) (by kernel_rfl)]
  kernel_rfl
 rw[h,C74_0]
noncomputable def Nz:Code:=cW 77
noncomputable def kX:List ResultVar:=eX 77
noncomputable def K77_p(cal:Cal)(k:Nat):KR:=(cutK (A 77).c (ay P cal (aw P cal k) none 77 (cR Nz) (Lv.b (A 77)) (av P kX) X0 (av P kX)))
noncomputable def K77_pr(cal:Cal)(k:Nat):KR:=(cutK (Lv.b (A 77)).c (ay P cal (aw P cal k) none 77 (cR (cR Nz)) (Lv.b (Lv.b (A 77))) (av P kX) X0 (av P kX)))
noncomputable def UY(cal:Cal)(k:Nat):XR:=(upX 0 (K77_pr cal k) X0)
noncomputable def K77_prll(cal:Cal)(k:Nat):KR:=(cutK (Lv.a (Lv.a (Lv.b (A 77)))).c (ay P cal (aw P cal k) none 77 (cR (cL (cL (cR Nz)))) (Lv.b (Lv.a (Lv.a (Lv.b (A 77))))) (K77_pr cal k) (UY cal k) (av P kX)))
noncomputable def K77_prllrl(cal:Cal)(k:Nat):KR:=(cutK (Lv.a (Lv.b (Lv.a (Lv.a (Lv.b (A 77)))))).c (ay P cal (aw P cal k) none 77 (cR (cL (cR (cL (cL (cR Nz)))))) (Lv.b (Lv.a (Lv.b (Lv.a (Lv.a (Lv.b (A 77))))))) (K77_pr cal k) (UY cal k) (av P kX)))
noncomputable def K77_prllrr(cal:Cal)(k:Nat):KR:=(cutK (Lv.b (Lv.b (Lv.a (Lv.a (Lv.b (A 77)))))).c (ay P cal (aw P cal k) none 77 (cR (cR (cR (cL (cL (cR Nz)))))) (Lv.b (Lv.b (Lv.b (Lv.a (Lv.a (Lv.b (A 77))))))) (K77_pr cal k) (UY cal k) (av P kX)))
noncomputable def K77_prllrrrl(cal:Cal)(k:Nat):KR:=(cutK (Lv.a (Lv.b (Lv.b (Lv.b (Lv.a (Lv.a (Lv.b (A 77)))))))).c (ay P cal (aw P cal k) none 77 (cR (cL (cR (cR (cR (cL (cL (cR Nz)))))))) (Lv.b (Lv.a (Lv.b (Lv.b (Lv.b (Lv.a (Lv.a (Lv.b (A 77))))))))) (K77_pr cal k) (UY cal k) (av P kX)))
noncomputable def K77_prr(cal:Cal)(k:Nat):KR:=(cutK (Lv.b (Lv.b (A 77))).c (ay P cal (aw P cal k) none 77 (cR (cR (cR Nz))) (Lv.b (Lv.b (Lv.b (A 77)))) (av P kX) X0 (av P kX)))
noncomputable def B77_0(cal:Cal)(k:Nat)(v0 v1 v2 v3:Value)(H:Hp)(n:Nat):Res:=
boxK 26 v0 H n fun v_1 H_2 n_3=>
dj P 55 H_2 n_3 fun v_4 H_5 n_6=>
binK P .eql 3 (.tmp 10) (.tmp 11) v2 v3 fun v_9=>
ifK v_9 (
aq (ax P 26 v_1 2) fun v_b=>
aq (aW v_b) fun a_d=>aq (az P H_5 24 a_d) fun v_c=>
aq (aV P 24 v_c v1) fun v_f=>
aq (ax P 94 v_f 1) fun v_g=>
aq (aW v_g) fun a_i=>aq (az P H_5 55 a_i) fun v_h=>
aq (bV P 55 v_4 v_h H_5) fun H_k=>
aq (resV P (Tr.set Tr.nil 8 (some v_4)) H_k kX) fun v_l=>some (oneV v_l,H_k,n_6)) (
aq (aW v_1) fun a_n=>aq (az P H_5 26 a_n) fun v_m=>
aY P cal 89 [v_m,v2,v3] H_5 n_6 fun v_q H_r n_s=>
ifK v_q (
aq (ax P 26 v_1 2) fun v_u=>
aq (aW v_u) fun a_w=>aq (az P H_r 24 a_w) fun v_v=>
aq (aV P 24 v_v v1) fun v_y=>
aq (ax P 94 v_y 2) fun v_z=>
aq (aW v_z) fun a_11=>aq (az P H_r 55 a_11) fun v_10=>
aq (bV P 55 v_4 v_10 H_r) fun H_13=>
aq (resV P (Tr.set Tr.nil 8 (some v_4)) H_13 kX) fun v_14=>some (oneV v_14,H_13,n_s)) (
aq (fw P 55 []) fun v_15=>
aq (bV P 55 v_4 v_15 H_r) fun H_17=>
aq (resV P (Tr.set Tr.nil 8 (some v_4)) H_17 kX) fun v_18=>some (oneV v_18,H_17,n_s)))
noncomputable def C77_0(cal:Cal)(k:Nat)(v0 v1 v2 v3:Value)(H:Hp)(n:Nat):Res:=B77_0 cal k v0 v1 v2 v3 H n
theorem h77_0(cal:Cal)(k:Nat)(v0 v1 v2 v3:Value)(H:Hp)(n:Nat):aK P cal A (k+1) 77 [v0,v1,v2,v3] H n=C77_0 cal k v0 v1 v2 v3 H n:=by
 have h:aK P cal A (k+1) 77 [v0,v1,v2,v3] H n=B77_0 cal k v0 v1 v2 v3 H n:=by
  rw[bX (fn:=Go.Proofs.Try.f77) (c:=Nz) (rs:=kX) (by kernel_rfl) (by kernel_rfl) (by kernel_rfl) (by kernel_rfl)]
  kernel_rfl
 rw[h,C77_0]
noncomputable def fk:Code:=cW 78
noncomputable def bQ:List ResultVar:=eX 78
noncomputable def sv:Code:=asgR (cL (cR (cL (cR (cR (cR (cR fk)))))))
noncomputable def jq:Code:=bodR (cL (cR (cL (cR (cR (cR (cR fk)))))))
noncomputable def K78_p(cal:Cal)(k:Nat):KR:=(cutK (A 78).c (ay P cal (aw P cal k) none 78 (cR fk) (Lv.b (A 78)) (av P bQ) X0 (av P bQ)))
noncomputable def K78_pr(cal:Cal)(k:Nat):KR:=(cutK (Lv.b (A 78)).c (ay P cal (aw P cal k) none 78 (cR (cR fk)) (Lv.b (Lv.b (A 78))) (av P bQ) X0 (av P bQ)))
noncomputable def K78_prr(cal:Cal)(k:Nat):KR:=(cutK (Lv.b (Lv.b (A 78))).c (ay P cal (aw P cal k) none 78 (cR (cR (cR fk))) (Lv.b (Lv.b (Lv.b (A 78)))) (av P bQ) X0 (av P bQ)))
noncomputable def K78_prrr(cal:Cal)(k:Nat):KR:=(cutK (Lv.b (Lv.b (Lv.b (A 78)))).c (ay P cal (aw P cal k) none 78 (cR (cR (cR (cR fk)))) (Lv.b (Lv.b (Lv.b (Lv.b (A 78))))) (av P bQ) X0 (av P bQ)))
noncomputable def wX(cal:Cal)(k:Nat):KR:=(cutK (Lv.b (Lv.b (Lv.b (Lv.b (A 78))))).c (ay P cal (aw P cal k) none 78 (cR (cR (cR (cR (cR fk))))) (Lv.b (Lv.b (Lv.b (Lv.b (Lv.b (A 78)))))) (av P bQ) X0 (av P bQ)))
noncomputable def Kx(cal:Cal)(k:Nat):XR:=(upX 0 (wX cal k) X0)
noncomputable def K78_prrrrr(cal:Cal)(k:Nat):KR:=(cutK (Lv.b (Lv.b (Lv.b (Lv.b (Lv.b (A 78)))))).c (ay P cal (aw P cal k) none 78 (cR (cR (cR (cR (cR (cR fk)))))) (Lv.b (Lv.b (Lv.b (Lv.b (Lv.b (Lv.b (A 78))))))) (av P bQ) X0 (av P bQ)))
noncomputable def Fk(cal:Cal)(k:Nat):KR:=(cutK (Lv.b (Lv.b (Lv.b (Lv.b (Lv.b (Lv.b (A 78))))))).c (ay P cal (aw P cal k) none 78 (cR (cR (cR (cR (cR (cR (cR fk))))))) (Lv.b (Lv.b (Lv.b (Lv.b (Lv.b (Lv.b (Lv.b (A 78)))))))) (av P bQ) X0 (av P bQ)))
noncomputable def K78_prrrrrrl(cal:Cal)(k:Nat):KR:=(cutK (Lv.a (Lv.b (Lv.b (Lv.b (Lv.b (Lv.b (Lv.b (A 78)))))))).c (ay P cal (aw P cal k) none 78 (cR (cL (cR (cR (cR (cR (cR (cR fk)))))))) (Lv.b (Lv.a (Lv.b (Lv.b (Lv.b (Lv.b (Lv.b (Lv.b (A 78))))))))) (Fk cal k) X0 (av P bQ)))
noncomputable def nX(cal:Cal)(k:Nat):XR:=(upX 4 (Fk cal k) X0)
noncomputable def xY(cal:Cal)(k:Nat)(m1:Nat):KR:=(fun T H n D=>aw P cal m1 (Lv.a (Lv.b (Lv.a (Lv.b (Lv.b (Lv.b (Lv.b (Lv.b (Lv.b (A 78)))))))))) none 78 (cL (cR (cL (cR (cR (cR (cR (cR (cR fk))))))))) (Fk cal k) (nX cal k) (av P bQ) (cutT (Lv.a (Lv.b (Lv.a (Lv.b (Lv.b (Lv.b (Lv.b (Lv.b (Lv.b (A 78)))))))))).c T) H n D)
noncomputable def K78_prrrrrrlrll(cal:Cal)(k:Nat)(m1:Nat):KR:=(cutK (Lv.a (Lv.a (Lv.b (Lv.a (Lv.b (Lv.b (Lv.b (Lv.b (Lv.b (Lv.b (A 78))))))))))).c (ay P cal (aw P cal m1) none 78 (cR (cL (cL (cR (cL (cR (cR (cR (cR (cR (cR fk))))))))))) (Lv.b (Lv.a (Lv.a (Lv.b (Lv.a (Lv.b (Lv.b (Lv.b (Lv.b (Lv.b (Lv.b (A 78)))))))))))) (xY cal k m1) (nX cal k) (av P bQ)))
noncomputable def K78_prrrrrrlrllr(cal:Cal)(k:Nat)(m1:Nat):KR:=(cutK (Lv.b (Lv.a (Lv.a (Lv.b (Lv.a (Lv.b (Lv.b (Lv.b (Lv.b (Lv.b (Lv.b (A 78)))))))))))).c (ay P cal (aw P cal m1) none 78 (cR (cR (cL (cL (cR (cL (cR (cR (cR (cR (cR (cR fk)))))))))))) (Lv.b (Lv.b (Lv.a (Lv.a (Lv.b (Lv.a (Lv.b (Lv.b (Lv.b (Lv.b (Lv.b (Lv.b (A 78))))))))))))) (xY cal k m1) (nX cal k) (av P bQ)))
noncomputable def pV(cal:Cal)(k:Nat)(m1:Nat):KR:=(cutK (Lv.b (Lv.b (Lv.a (Lv.a (Lv.b (Lv.a (Lv.b (Lv.b (Lv.b (Lv.b (Lv.b (Lv.b (A 78))))))))))))).c (ay P cal (aw P cal m1) none 78 (cR (cR (cR (cL (cL (cR (cL (cR (cR (cR (cR (cR (cR fk))))))))))))) (Lv.b (Lv.b (Lv.b (Lv.a (Lv.a (Lv.b (Lv.a (Lv.b (Lv.b (Lv.b (Lv.b (Lv.b (Lv.b (A 78)))))))))))))) (xY cal k m1) (nX cal k) (av P bQ)))
noncomputable def kY(cal:Cal)(k:Nat)(m1:Nat):XR:=(upX 5 (pV cal k m1) (nX cal k))
noncomputable def K78_prrrrrrlrllrrll(cal:Cal)(k:Nat)(m1:Nat):KR:=(cutK (Lv.a (Lv.a (Lv.b (Lv.b (Lv.a (Lv.a (Lv.b (Lv.a (Lv.b (Lv.b (Lv.b (Lv.b (Lv.b (Lv.b (A 78))))))))))))))).c (ay P cal (aw P cal m1) none 78 (cR (cL (cL (cR (cR (cL (cL (cR (cL (cR (cR (cR (cR (cR (cR fk))))))))))))))) (Lv.b (Lv.a (Lv.a (Lv.b (Lv.b (Lv.a (Lv.a (Lv.b (Lv.a (Lv.b (Lv.b (Lv.b (Lv.b (Lv.b (Lv.b (A 78)))))))))))))))) (pV cal k m1) (kY cal k m1) (av P bQ)))
noncomputable def K78_prrrrrrlrllrrllr(cal:Cal)(k:Nat)(m1:Nat):KR:=(cutK (Lv.b (Lv.a (Lv.a (Lv.b (Lv.b (Lv.a (Lv.a (Lv.b (Lv.a (Lv.b (Lv.b (Lv.b (Lv.b (Lv.b (Lv.b (A 78)))))))))))))))).c (ay P cal (aw P cal m1) none 78 (cR (cR (cL (cL (cR (cR (cL (cL (cR (cL (cR (cR (cR (cR (cR (cR fk)))))))))))))))) (Lv.b (Lv.b (Lv.a (Lv.a (Lv.b (Lv.b (Lv.a (Lv.a (Lv.b (Lv.a (Lv.b (Lv.b (Lv.b (Lv.b (Lv.b (Lv.b (A 78))))))))))))))))) (pV cal k m1) (kY cal k m1) (av P bQ)))
noncomputable def K78_prrrrrrlrllrrllrl(cal:Cal)(k:Nat)(m1:Nat):KR:=(cutK (Lv.a (Lv.b (Lv.a (Lv.a (Lv.b (Lv.b (Lv.a (Lv.a (Lv.b (Lv.a (Lv.b (Lv.b (Lv.b (Lv.b (Lv.b (Lv.b (A 78))))))))))))))))).c (ay P cal (aw P cal m1) none 78 (cR (cL (cR (cL (cL (cR (cR (cL (cL (cR (cL (cR (cR (cR (cR (cR (cR fk))))))))))))))))) (Lv.b (Lv.a (Lv.b (Lv.a (Lv.a (Lv.b (Lv.b (Lv.a (Lv.a (Lv.b (Lv.a (Lv.b (Lv.b (Lv.b (Lv.b (Lv.b (Lv.b (A 78)))))))))))))))))) (K78_prrrrrrlrllrrllr cal k m1) (kY cal k m1) (av P bQ)))
noncomputable def K78_prrrrrrlrllrrllrlrl(cal:Cal)(k:Nat)(m1:Nat):KR:=(cutK (Lv.a (Lv.b (Lv.a (Lv.b (Lv.a (Lv.a (Lv.b (Lv.b (Lv.a (Lv.a (Lv.b (Lv.a (Lv.b (Lv.b (Lv.b (Lv.b (Lv.b (Lv.b (A 78))))))))))))))))))).c (ay P cal (aw P cal m1) none 78 (cR (cL (cR (cL (cR (cL (cL (cR (cR (cL (cL (cR (cL (cR (cR (cR (cR (cR (cR fk))))))))))))))))))) (Lv.b (Lv.a (Lv.b (Lv.a (Lv.b (Lv.a (Lv.a (Lv.b (Lv.b (Lv.a (Lv.a (Lv.b (Lv.a (Lv.b (Lv.b (Lv.b (Lv.b (Lv.b (Lv.b (A 78)))))))))))))))))))) (K78_prrrrrrlrllrrllr cal k m1) (kY cal k m1) (av P bQ)))
noncomputable def K78_prrrrrrlrllrrllrr(cal:Cal)(k:Nat)(m1:Nat):KR:=(cutK (Lv.b (Lv.b (Lv.a (Lv.a (Lv.b (Lv.b (Lv.a (Lv.a (Lv.b (Lv.a (Lv.b (Lv.b (Lv.b (Lv.b (Lv.b (Lv.b (A 78))))))))))))))))).c (ay P cal (aw P cal m1) none 78 (cR (cR (cR (cL (cL (cR (cR (cL (cL (cR (cL (cR (cR (cR (cR (cR (cR fk))))))))))))))))) (Lv.b (Lv.b (Lv.b (Lv.a (Lv.a (Lv.b (Lv.b (Lv.a (Lv.a (Lv.b (Lv.a (Lv.b (Lv.b (Lv.b (Lv.b (Lv.b (Lv.b (A 78)))))))))))))))))) (pV cal k m1) (kY cal k m1) (av P bQ)))
noncomputable def K78_prrrrrrlrllrrllrrr(cal:Cal)(k:Nat)(m1:Nat):KR:=(cutK (Lv.b (Lv.b (Lv.b (Lv.a (Lv.a (Lv.b (Lv.b (Lv.a (Lv.a (Lv.b (Lv.a (Lv.b (Lv.b (Lv.b (Lv.b (Lv.b (Lv.b (A 78)))))))))))))))))).c (ay P cal (aw P cal m1) none 78 (cR (cR (cR (cR (cL (cL (cR (cR (cL (cL (cR (cL (cR (cR (cR (cR (cR (cR fk)))))))))))))))))) (Lv.b (Lv.b (Lv.b (Lv.b (Lv.a (Lv.a (Lv.b (Lv.b (Lv.a (Lv.a (Lv.b (Lv.a (Lv.b (Lv.b (Lv.b (Lv.b (Lv.b (Lv.b (A 78))))))))))))))))))) (pV cal k m1) (kY cal k m1) (av P bQ)))
noncomputable def K78_prrrrrrr(cal:Cal)(k:Nat):KR:=(cutK (Lv.b (Lv.b (Lv.b (Lv.b (Lv.b (Lv.b (Lv.b (A 78)))))))).c (ay P cal (aw P cal k) none 78 (cR (cR (cR (cR (cR (cR (cR (cR fk)))))))) (Lv.b (Lv.b (Lv.b (Lv.b (Lv.b (Lv.b (Lv.b (Lv.b (A 78))))))))) (av P bQ) X0 (av P bQ)))
noncomputable def K78_prrrrrrrl(cal:Cal)(k:Nat):KR:=(cutK (Lv.a (Lv.b (Lv.b (Lv.b (Lv.b (Lv.b (Lv.b (Lv.b (A 78))))))))).c (ay P cal (aw P cal k) none 78 (cR (cL (cR (cR (cR (cR (cR (cR (cR fk))))))))) (Lv.b (Lv.a (Lv.b (Lv.b (Lv.b (Lv.b (Lv.b (Lv.b (Lv.b (A 78)))))))))) (K78_prrrrrrr cal k) X0 (av P bQ)))
noncomputable def K78_prrrrrrrlrl(cal:Cal)(k:Nat):KR:=(cutK (Lv.a (Lv.b (Lv.a (Lv.b (Lv.b (Lv.b (Lv.b (Lv.b (Lv.b (Lv.b (A 78))))))))))).c (ay P cal (aw P cal k) none 78 (cR (cL (cR (cL (cR (cR (cR (cR (cR (cR (cR fk))))))))))) (Lv.b (Lv.a (Lv.b (Lv.a (Lv.b (Lv.b (Lv.b (Lv.b (Lv.b (Lv.b (Lv.b (A 78)))))))))))) (K78_prrrrrrr cal k) X0 (av P bQ)))
noncomputable def Az(cal:Cal)(k:Nat):KR:=(cutK (Lv.b (Lv.b (Lv.b (Lv.b (Lv.b (Lv.b (Lv.b (Lv.b (A 78))))))))).c (ay P cal (aw P cal k) none 78 (cR (cR (cR (cR (cR (cR (cR (cR (cR fk))))))))) (Lv.b (Lv.b (Lv.b (Lv.b (Lv.b (Lv.b (Lv.b (Lv.b (Lv.b (A 78)))))))))) (av P bQ) X0 (av P bQ)))
noncomputable def K78_prrrrrrrrl(cal:Cal)(k:Nat):KR:=(cutK (Lv.a (Lv.b (Lv.b (Lv.b (Lv.b (Lv.b (Lv.b (Lv.b (Lv.b (A 78)))))))))).c (ay P cal (aw P cal k) none 78 (cR (cL (cR (cR (cR (cR (cR (cR (cR (cR fk)))))))))) (Lv.b (Lv.a (Lv.b (Lv.b (Lv.b (Lv.b (Lv.b (Lv.b (Lv.b (Lv.b (A 78))))))))))) (Az cal k) X0 (av P bQ)))
noncomputable def lj(cal:Cal)(k:Nat):XR:=(upX 6 (Az cal k) X0)
noncomputable def tX(cal:Cal)(k:Nat)(m1:Nat):KR:=(fun T H n D=>aw P cal m1 (Lv.a (Lv.b (Lv.a (Lv.b (Lv.b (Lv.b (Lv.b (Lv.b (Lv.b (Lv.b (Lv.b (A 78)))))))))))) none 78 (cL (cR (cL (cR (cR (cR (cR (cR (cR (cR (cR fk))))))))))) (Az cal k) (lj cal k) (av P bQ) (cutT (Lv.a (Lv.b (Lv.a (Lv.b (Lv.b (Lv.b (Lv.b (Lv.b (Lv.b (Lv.b (Lv.b (A 78)))))))))))).c T) H n D)
noncomputable def K78_prrrrrrrrlrll(cal:Cal)(k:Nat)(m1:Nat):KR:=(cutK (Lv.a (Lv.a (Lv.b (Lv.a (Lv.b (Lv.b (Lv.b (Lv.b (Lv.b (Lv.b (Lv.b (Lv.b (A 78))))))))))))).c (ay P cal (aw P cal m1) none 78 (cR (cL (cL (cR (cL (cR (cR (cR (cR (cR (cR (cR (cR fk))))))))))))) (Lv.b (Lv.a (Lv.a (Lv.b (Lv.a (Lv.b (Lv.b (Lv.b (Lv.b (Lv.b (Lv.b (Lv.b (Lv.b (A 78)))))))))))))) (tX cal k m1) (lj cal k) (av P bQ)))
noncomputable def K78_prrrrrrrrlrllr(cal:Cal)(k:Nat)(m1:Nat):KR:=(cutK (Lv.b (Lv.a (Lv.a (Lv.b (Lv.a (Lv.b (Lv.b (Lv.b (Lv.b (Lv.b (Lv.b (Lv.b (Lv.b (A 78)))))))))))))).c (ay P cal (aw P cal m1) none 78 (cR (cR (cL (cL (cR (cL (cR (cR (cR (cR (cR (cR (cR (cR fk)))))))))))))) (Lv.b (Lv.b (Lv.a (Lv.a (Lv.b (Lv.a (Lv.b (Lv.b (Lv.b (Lv.b (Lv.b (Lv.b (Lv.b (Lv.b (A 78))))))))))))))) (tX cal k m1) (lj cal k) (av P bQ)))
noncomputable def K78_prrrrrrrrlrllrr(cal:Cal)(k:Nat)(m1:Nat):KR:=(cutK (Lv.b (Lv.b (Lv.a (Lv.a (Lv.b (Lv.a (Lv.b (Lv.b (Lv.b (Lv.b (Lv.b (Lv.b (Lv.b (Lv.b (A 78))))))))))))))).c (ay P cal (aw P cal m1) none 78 (cR (cR (cR (cL (cL (cR (cL (cR (cR (cR (cR (cR (cR (cR (cR fk))))))))))))))) (Lv.b (Lv.b (Lv.b (Lv.a (Lv.a (Lv.b (Lv.a (Lv.b (Lv.b (Lv.b (Lv.b (Lv.b (Lv.b (Lv.b (Lv.b (A 78)))))))))))))))) (tX cal k m1) (lj cal k) (av P bQ)))
noncomputable def K78_pxrrrrrrrrlrllrrl(cal:Cal)(k:Nat)(m1:Nat):XR:=(upX 7 (K78_prrrrrrrrlrllrr cal k m1) (lj cal k))
noncomputable def K78_prrrrrrrrlrllrrll(cal:Cal)(k:Nat)(m1:Nat):KR:=(cutK (Lv.a (Lv.a (Lv.b (Lv.b (Lv.a (Lv.a (Lv.b (Lv.a (Lv.b (Lv.b (Lv.b (Lv.b (Lv.b (Lv.b (Lv.b (Lv.b (A 78))))))))))))))))).c (ay P cal (aw P cal m1) none 78 (cR (cL (cL (cR (cR (cL (cL (cR (cL (cR (cR (cR (cR (cR (cR (cR (cR fk))))))))))))))))) (Lv.b (Lv.a (Lv.a (Lv.b (Lv.b (Lv.a (Lv.a (Lv.b (Lv.a (Lv.b (Lv.b (Lv.b (Lv.b (Lv.b (Lv.b (Lv.b (Lv.b (A 78)))))))))))))))))) (K78_prrrrrrrrlrllrr cal k m1) (K78_pxrrrrrrrrlrllrrl cal k m1) (av P bQ)))
noncomputable def K78_prrrrrrrrr(cal:Cal)(k:Nat):KR:=(cutK (Lv.b (Lv.b (Lv.b (Lv.b (Lv.b (Lv.b (Lv.b (Lv.b (Lv.b (A 78)))))))))).c (ay P cal (aw P cal k) none 78 (cR (cR (cR (cR (cR (cR (cR (cR (cR (cR fk)))))))))) (Lv.b (Lv.b (Lv.b (Lv.b (Lv.b (Lv.b (Lv.b (Lv.b (Lv.b (Lv.b (A 78))))))))))) (av P bQ) X0 (av P bQ)))
noncomputable def K78_prrrrrrrrrl(cal:Cal)(k:Nat):KR:=(cutK (Lv.a (Lv.b (Lv.b (Lv.b (Lv.b (Lv.b (Lv.b (Lv.b (Lv.b (Lv.b (A 78))))))))))).c (ay P cal (aw P cal k) none 78 (cR (cL (cR (cR (cR (cR (cR (cR (cR (cR (cR fk))))))))))) (Lv.b (Lv.a (Lv.b (Lv.b (Lv.b (Lv.b (Lv.b (Lv.b (Lv.b (Lv.b (Lv.b (A 78)))))))))))) (K78_prrrrrrrrr cal k) X0 (av P bQ)))
noncomputable def K78_prrrrrrrrrlrl(cal:Cal)(k:Nat):KR:=(cutK (Lv.a (Lv.b (Lv.a (Lv.b (Lv.b (Lv.b (Lv.b (Lv.b (Lv.b (Lv.b (Lv.b (Lv.b (A 78))))))))))))).c (ay P cal (aw P cal k) none 78 (cR (cL (cR (cL (cR (cR (cR (cR (cR (cR (cR (cR (cR fk))))))))))))) (Lv.b (Lv.a (Lv.b (Lv.a (Lv.b (Lv.b (Lv.b (Lv.b (Lv.b (Lv.b (Lv.b (Lv.b (Lv.b (A 78)))))))))))))) (K78_prrrrrrrrr cal k) X0 (av P bQ)))
noncomputable def K78_prrrrrrrrrr(cal:Cal)(k:Nat):KR:=(cutK (Lv.b (Lv.b (Lv.b (Lv.b (Lv.b (Lv.b (Lv.b (Lv.b (Lv.b (Lv.b (A 78))))))))))).c (ay P cal (aw P cal k) none 78 (cR (cR (cR (cR (cR (cR (cR (cR (cR (cR (cR fk))))))))))) (Lv.b (Lv.b (Lv.b (Lv.b (Lv.b (Lv.b (Lv.b (Lv.b (Lv.b (Lv.b (Lv.b (A 78)))))))))))) (av P bQ) X0 (av P bQ)))
noncomputable def K78_prrrrl(cal:Cal)(k:Nat):KR:=(cutK (Lv.a (Lv.b (Lv.b (Lv.b (Lv.b (A 78)))))).c (ay P cal (aw P cal k) none 78 (cR (cL (cR (cR (cR (cR fk)))))) (Lv.b (Lv.a (Lv.b (Lv.b (Lv.b (Lv.b (A 78))))))) (wX cal k) X0 (av P bQ)))
noncomputable def E78_4(cal:Cal)(k:Nat)(m1:Nat):KR:=ay P cal (aw P cal m1) none 78 (cL (cL (cR (cL (cR (cR (cR (cR (cR (cR (cR (cR fk)))))))))))) (Lv.a (Lv.a (Lv.b (Lv.a (Lv.b (Lv.b (Lv.b (Lv.b (Lv.b (Lv.b (Lv.b (Lv.b (A 78))))))))))))) (tX cal k m1) (lj cal k) (av P bQ)
noncomputable def R78_4(cal:Cal)(k:Nat)(m1:Nat):W9 (Value × Hp × Nat):=fun u0 u3 u6 u7 u8 u14 u106 u107 u108 H n D=>aw P cal m1 (Lv.a (Lv.b (Lv.a (Lv.b (Lv.b (Lv.b (Lv.b (Lv.b (Lv.b (Lv.b (Lv.b (A 78)))))))))))) none 78 (cL (cR (cL (cR (cR (cR (cR (cR (cR (cR (cR fk))))))))))) (Az cal k) (lj cal k) (av P bQ) (Tr.set (Tr.set (Tr.set (Tr.set (Tr.set (Tr.set (Tr.set (Tr.set (Tr.set Tr.nil 108 (some u108)) 107 (some u107)) 106 (some u106)) 14 (some u14)) 8 (some u8)) 7 (some u7)) 6 (some u6)) 3 (some u3)) 0 (some u0)) H n D
noncomputable def E78_3(cal:Cal)(k:Nat)(m1:Nat):KR:=ay P cal (aw P cal m1) none 78 (cL (cL (cR (cL (cR (cR (cR (cR (cR (cR fk)))))))))) (Lv.a (Lv.a (Lv.b (Lv.a (Lv.b (Lv.b (Lv.b (Lv.b (Lv.b (Lv.b (A 78))))))))))) (xY cal k m1) (nX cal k) (av P bQ)
noncomputable def R78_3(cal:Cal)(k:Nat)(m1:Nat):W9 (Value × Hp × Nat):=fun u0 u3 u6 u7 u8 u14 u68 u69 u70 H n D=>aw P cal m1 (Lv.a (Lv.b (Lv.a (Lv.b (Lv.b (Lv.b (Lv.b (Lv.b (Lv.b (A 78)))))))))) none 78 (cL (cR (cL (cR (cR (cR (cR (cR (cR fk))))))))) (Fk cal k) (nX cal k) (av P bQ) (Tr.set (Tr.set (Tr.set (Tr.set (Tr.set (Tr.set (Tr.set (Tr.set (Tr.set Tr.nil 70 (some u70)) 69 (some u69)) 68 (some u68)) 14 (some u14)) 8 (some u8)) 7 (some u7)) 6 (some u6)) 3 (some u3)) 0 (some u0)) H n D
noncomputable def E78_2(cal:Cal)(k:Nat):KR:=(wX cal k)
noncomputable def E78_1(cal:Cal)(k:Nat):KR:=ay P cal (aw P cal k) none 78 (cR (cL (cR (cR (cR (cR fk)))))) (Lv.b (Lv.a (Lv.b (Lv.b (Lv.b (Lv.b (A 78))))))) (wX cal k) X0 (av P bQ)
noncomputable def B78_4(cal:Cal)(k:Nat)(m1:Nat)(b4:W9 (Value × Hp × Nat))(u0 u3 u6 u7 u8 u14 u106 u107 u108:Value)(H:Hp)(n:Nat)(D:List Nat):Option (Value × Hp × Nat):=
binK P .lss 3 (.tmp 108) (.tmp 107) u108 u107 fun v_2s=>
ifK v_2s (
aq (aV P 31 u106 u108) fun v_2u=>
aq (aW v_2u) fun a_2w=>aq (az P H 90 a_2w) fun v_2v=>
dj P 90 H n fun v_2x H_2y n_2z=>
aq (bV P 90 v_2x v_2v H_2y) fun H_32=>
aq (aW u6) fun a_33=>aq (az P H_32 160 a_33) fun v_34=>
binK P .add 3 (.const (.int .i64 8)) (.tmp 114) (.int .i64 8) u108 fun v_36=>
aq (fw P 162 [(0,v_36),(1,(.int .i64 17))]) fun v_37=>
aq (ax P 90 v_2x 1) fun v_38=>
aq (aW v_38) fun a_39=>aq (az P H_32 3 a_39) fun v_3a=>
aq (ax P 90 v_2x 0) fun v_3b=>
aq (aW v_3b) fun a_3c=>aq (az P H_32 3 a_3c) fun v_3d=>
aq (aV P 118 u7 u108) fun v_3f=>
aq (aW v_3f) fun a_3g=>aq (az P H_32 3 a_3g) fun v_3h=>
aq (yz P 44 1 [(0,v_3h)]) fun q_3k=>newK q_3k.1 q_3k.2 H_32 n_2z fun H_3i n_3j=>
effK P [(.l 3 a_39),(.l 160 a_33)] H_3i n_3j (fun H_3l n_3m k_3n=>
aY P cal 106 [v_3d,(.slice (some ⟨n_2z,0,none⟩) 1 1)] H_3l n_3m fun v_3r H_3s n_3t=>
k_3n v_3r H_3s n_3t) fun v_3o H_3p n_3q=>
binK P .sub 3 (.tmp 118) (.tmp 125) v_3a v_3o fun v_3u=>
aq (Aw P 160 v_34 v_37 v_3u H_3p) fun H_3w=>
binK P .add 3 (.tmp 108) (.const (.int .i64 1)) u108 (.int .i64 1) fun v_3x=>
b4 u0 u3 u6 u7 u8 u14 u106 u107 v_3x H_3w n_3q D) (
aq (aW u6) fun a_3z=>aq (az P H 160 a_3z) fun v_40=>
aq (aW u8) fun a_41=>aq (az P H 3 a_41) fun v_42=>
binK P .sub 3 (.tmp 130) (.tmp 131) v_42 u14 fun v_44=>
effK P [(.l 3 a_41)] H n (fun H_45 n_46 k_47=>
aY P cal 107 [v_40] H_45 n_46 fun v_4b H_4c n_4d=>
k_47 v_4b H_4c n_4d) fun v_48 H_49 n_4a=>
binK P .neq 3 (.tmp 129) (.tmp 132) v_48 v_44 fun v_4e=>
ifK v_4e (
getK (rV H_49 D) fun H_4h=>
some ((Value.tuple ⟨[(.slice none 0 0),(.bool false)]⟩),H_4h,n_4a)) (
aq (aW u3) fun a_4k=>aq (az P H_49 119 a_4k) fun v_4j=>
aq (aW u6) fun a_4m=>aq (az P H_49 160 a_4m) fun v_4l=>
aY P cal 108 [u0,v_4j,v_4l] H_49 n_4a fun v_4n H_4o n_4p=>
getK (rV H_4o D) fun H_4s=>
some ((Value.tuple ⟨[v_4n,(.bool true)]⟩),H_4s,n_4p)))
noncomputable def C78_4(cal:Cal)(k:Nat)(m1:Nat)(b4:W9 (Value × Hp × Nat))(u0 u3 u6 u7 u8 u14 u106 u107 u108:Value)(H:Hp)(n:Nat)(D:List Nat):Option (Value × Hp × Nat):=B78_4 cal k m1 b4 u0 u3 u6 u7 u8 u14 u106 u107 u108 H n D
noncomputable def S78_4(cal:Cal)(k:Nat):Nat→W9 (Value × Hp × Nat):=fun m=>Nat.rec (motive:=fun _=>W9 (Value × Hp × Nat)) (C78_4 cal k 0 (fun _ _ _ _ _ _ _ _ _ _ _ _=>none)) (fun m ih=>C78_4 cal k (m+1) ih) m
theorem h78_4(cal:Cal)(k:Nat)(m1:Nat)(u0 u3 u6 u7 u8 u14 u106 u107 u108:Value)(H:Hp)(n:Nat)(D:List Nat):labK (E78_4 cal k m1) (Tr.set (Tr.set (Tr.set (Tr.set (Tr.set (Tr.set (Tr.set (Tr.set (Tr.set Tr.nil 108 (some u108)) 107 (some u107)) 106 (some u106)) 14 (some u14)) 8 (some u8)) 7 (some u7)) 6 (some u6)) 3 (some u3)) 0 (some u0)) H n D=C78_4 cal k m1 (R78_4 cal k m1) u0 u3 u6 u7 u8 u14 u106 u107 u108 H n D:=by
 refine Eq.trans (b:=B78_4 cal k m1 (R78_4 cal k m1) u0 u3 u6 u7 u8 u14 u106 u107 u108 H n D) (by kernel_rfl) ?_
 rw[C78_4]
theorem q78_4(cal:Cal)(k:Nat):∀(m:Nat) (u0 u3 u6 u7 u8 u14 u106 u107 u108:Value) (H:Hp) (n:Nat) (D:List Nat),labK (E78_4 cal k m) (Tr.set (Tr.set (Tr.set (Tr.set (Tr.set (Tr.set (Tr.set (Tr.set (Tr.set Tr.nil 108 (some u108)) 107 (some u107)) 106 (some u106)) 14 (some u14)) 8 (some u8)) 7 (some u7)) 6 (some u6)) 3 (some u3)) 0 (some u0)) H n D=S78_4 cal k m u0 u3 u6 u7 u8 u14 u106 u107 u108 H n D
 | 0,u0,u3,u6,u7,u8,u14,u106,u107,u108,H,n,D=>by
  rw[h78_4]
  have e:R78_4 cal k 0=fun _ _ _ _ _ _ _ _ _ _ _ _=>none:=by funext u0 u3 u6 u7 u8 u14 u106 u107 u108 H n D; kernel_rfl
  rw[e]; rfl
 | m+1,u0,u3,u6,u7,u8,u14,u106,u107,u108,H,n,D=>by
  rw[h78_4]
  have e:R78_4 cal k (m+1)=S78_4 cal k m:=by
   funext u0 u3 u6 u7 u8 u14 u106 u107 u108 H n D
   have e:R78_4 cal k (m+1) u0 u3 u6 u7 u8 u14 u106 u107 u108 H n D=labK (E78_4 cal k m) (Tr.set (Tr.set (Tr.set (Tr.set (Tr.set (Tr.set (Tr.set (Tr.set (Tr.set Tr.nil 108 (some u108)) 107 (some u107)) 106 (some u106)) 14 (some u14)) 8 (some u8)) 7 (some u7)) 6 (some u6)) 3 (some u3)) 0 (some u0)) H n D:=by kernel_rfl
   rw[e]; exact q78_4 ..
  rw[e]; rfl
noncomputable def B78_3(cal:Cal)(k:Nat)(m1:Nat)(j4:W9 (Value × Hp × Nat))(b3:W9 (Value × Hp × Nat))(u0 u3 u6 u7 u8 u14 u68 u69 u70:Value)(H:Hp)(n:Nat)(D:List Nat):Option (Value × Hp × Nat):=
binK P .lss 3 (.tmp 70) (.tmp 69) u70 u69 fun v_v=>
ifK v_v (
aq (aV P 31 u68 u70) fun v_x=>
aq (aW v_x) fun a_z=>aq (az P H 90 a_z) fun v_y=>
dj P 90 H n fun v_10 H_11 n_12=>
aq (bV P 90 v_10 v_y H_11) fun H_15=>
aq (aV P 118 u7 u70) fun v_17=>
aq (aW v_17) fun a_18=>aq (az P H_15 3 a_18) fun v_19=>
aq (ax P 90 v_10 1) fun v_1a=>
aq (aW v_1a) fun a_1b=>aq (az P H_15 3 a_1b) fun v_1c=>
binK P .gtr 3 (.tmp 77) (.tmp 79) v_19 v_1c fun v_1d=>
ifK v_1d (
getK (rV H_15 D) fun H_1g=>
some ((Value.tuple ⟨[(.slice none 0 0),(.bool false)]⟩),H_1g,n_12)) (
aq (ax P 90 v_10 0) fun v_1h=>
aq (aW v_1h) fun a_1i=>aq (az P H_15 3 a_1i) fun v_1j=>
aq (aV P 118 u7 u70) fun v_1l=>
aq (aW v_1l) fun a_1m=>aq (az P H_15 3 a_1m) fun v_1n=>
binK P .sub 3 (.tmp 82) (.tmp 85) v_1j v_1n fun v_1o=>
aq (yz P 44 1 [(0,(.int .i64 0))]) fun q_1r=>newK q_1r.1 q_1r.2 H_15 n_12 fun H_1p n_1q=>
aY P cal 106 [v_1o,(.slice (some ⟨n_12,0,none⟩) 1 1)] H_1p n_1q fun v_1s H_1t n_1u=>
binK P .add 3 (.tmp 89) (.tmp 90) u14 v_1s fun v_1y=>
aq (aW u6) fun a_21=>aq (az P H_1t 160 a_21) fun v_20=>
binK P .add 3 (.const (.int .i64 8)) (.tmp 93) (.int .i64 8) u70 fun v_23=>
aq (fw P 162 [(0,v_23),(1,(.int .i64 17))]) fun v_24=>
aq (Aw P 160 v_20 v_24 v_1s H_1t) fun H_27=>
binK P .add 3 (.tmp 70) (.const (.int .i64 1)) u70 (.int .i64 1) fun v_28=>
b3 u0 u3 u6 u7 u8 v_1y u68 u69 v_28 H_27 n_1u D)) (
aq (aW u6) fun a_2b=>aq (az P H 160 a_2b) fun v_2a=>
aY P cal 107 [v_2a] H n fun v_2c H_2d n_2e=>
binK P .neq 3 (.tmp 99) (.tmp 100) v_2c u14 fun v_2g=>
ifK v_2g (
getK (rV H_2d D) fun H_2j=>
some ((Value.tuple ⟨[(.slice none 0 0),(.bool false)]⟩),H_2j,n_2e)) (
aq (nilV u0) fun v_2l=>
aq (ax P 115 v_2l 0) fun v_2m=>
aq (ax P 35 v_2m 0) fun v_2n=>
aq (aW v_2n) fun a_2p=>aq (az P H_2d 31 a_2p) fun v_2o=>
aq (lenV P 31 v_2o) fun v_2q=>
j4 u0 u3 u6 u7 u8 u14 v_2o v_2q (.int .i64 0) H_2d n_2e D))
noncomputable def C78_3(cal:Cal)(k:Nat)(m1:Nat)(b3:W9 (Value × Hp × Nat))(u0 u3 u6 u7 u8 u14 u68 u69 u70:Value)(H:Hp)(n:Nat)(D:List Nat):Option (Value × Hp × Nat):=B78_3 cal k m1 (S78_4 cal k k) b3 u0 u3 u6 u7 u8 u14 u68 u69 u70 H n D
noncomputable def S78_3(cal:Cal)(k:Nat):Nat→W9 (Value × Hp × Nat):=fun m=>Nat.rec (motive:=fun _=>W9 (Value × Hp × Nat)) (C78_3 cal k 0 (fun _ _ _ _ _ _ _ _ _ _ _ _=>none)) (fun m ih=>C78_3 cal k (m+1) ih) m
theorem h78_3(cal:Cal)(k:Nat)(m1:Nat)(u0 u3 u6 u7 u8 u14 u68 u69 u70:Value)(H:Hp)(n:Nat)(D:List Nat):labK (E78_3 cal k m1) (Tr.set (Tr.set (Tr.set (Tr.set (Tr.set (Tr.set (Tr.set (Tr.set (Tr.set Tr.nil 70 (some u70)) 69 (some u69)) 68 (some u68)) 14 (some u14)) 8 (some u8)) 7 (some u7)) 6 (some u6)) 3 (some u3)) 0 (some u0)) H n D=C78_3 cal k m1 (R78_3 cal k m1) u0 u3 u6 u7 u8 u14 u68 u69 u70 H n D:=by
 refine Eq.trans (b:=B78_3 cal k m1 (fun u0 u3 u6 u7 u8 u14 u106 u107 u108 H n D=>labK (E78_4 cal k k) (Tr.set (Tr.set (Tr.set (Tr.set (Tr.set (Tr.set (Tr.set (Tr.set (Tr.set Tr.nil 108 (some u108)) 107 (some u107)) 106 (some u106)) 14 (some u14)) 8 (some u8)) 7 (some u7)) 6 (some u6)) 3 (some u3)) 0 (some u0)) H n D) (R78_3 cal k m1) u0 u3 u6 u7 u8 u14 u68 u69 u70 H n D) (by kernel_rfl) ?_
 rw[C78_3]
 have e4:(fun u0 u3 u6 u7 u8 u14 u106 u107 u108 H n D=>labK (E78_4 cal k k) (Tr.set (Tr.set (Tr.set (Tr.set (Tr.set (Tr.set (Tr.set (Tr.set (Tr.set Tr.nil 108 (some u108)) 107 (some u107)) 106 (some u106)) 14 (some u14)) 8 (some u8)) 7 (some u7)) 6 (some u6)) 3 (some u3)) 0 (some u0)) H n D)=(S78_4 cal k k):=by funext u0 u3 u6 u7 u8 u14 u106 u107 u108 H n D; exact q78_4 ..
 rw[e4]
theorem q78_3(cal:Cal)(k:Nat):∀(m:Nat) (u0 u3 u6 u7 u8 u14 u68 u69 u70:Value) (H:Hp) (n:Nat) (D:List Nat),labK (E78_3 cal k m) (Tr.set (Tr.set (Tr.set (Tr.set (Tr.set (Tr.set (Tr.set (Tr.set (Tr.set Tr.nil 70 (some u70)) 69 (some u69)) 68 (some u68)) 14 (some u14)) 8 (some u8)) 7 (some u7)) 6 (some u6)) 3 (some u3)) 0 (some u0)) H n D=S78_3 cal k m u0 u3 u6 u7 u8 u14 u68 u69 u70 H n D
 | 0,u0,u3,u6,u7,u8,u14,u68,u69,u70,H,n,D=>by
  rw[h78_3]
  have e:R78_3 cal k 0=fun _ _ _ _ _ _ _ _ _ _ _ _=>none:=by funext u0 u3 u6 u7 u8 u14 u68 u69 u70 H n D; kernel_rfl
  rw[e]; rfl
 | m+1,u0,u3,u6,u7,u8,u14,u68,u69,u70,H,n,D=>by
  rw[h78_3]
  have e:R78_3 cal k (m+1)=S78_3 cal k m:=by
   funext u0 u3 u6 u7 u8 u14 u68 u69 u70 H n D
   have e:R78_3 cal k (m+1) u0 u3 u6 u7 u8 u14 u68 u69 u70 H n D=labK (E78_3 cal k m) (Tr.set (Tr.set (Tr.set (Tr.set (Tr.set (Tr.set (Tr.set (Tr.set (Tr.set Tr.nil 70 (some u70)) 69 (some u69)) 68 (some u68)) 14 (some u14)) 8 (some u8)) 7 (some u7)) 6 (some u6)) 3 (some u3)) 0 (some u0)) H n D:=by kernel_rfl
   rw[e]; exact q78_3 ..
  rw[e]; rfl
noncomputable def B78_2(cal:Cal)(k:Nat)(j3:W9 (Value × Hp × Nat))(u0 u3 u6 u7 u8 u23:Value)(H:Hp)(n:Nat)(D:List Nat):Option (Value × Hp × Nat):=
aq (nilV u0) fun v_o=>
aq (ax P 115 v_o 0) fun v_p=>
aq (ax P 35 v_p 0) fun v_q=>
aq (aW v_q) fun a_s=>aq (az P H 31 a_s) fun v_r=>
aq (lenV P 31 v_r) fun v_t=>
j3 u0 u3 u6 u7 u8 (.int .i64 0) v_r v_t (.int .i64 0) H n D
noncomputable def C78_2(cal:Cal)(k:Nat)(u0 u3 u6 u7 u8 u23:Value)(H:Hp)(n:Nat)(D:List Nat):Option (Value × Hp × Nat):=B78_2 cal k (S78_3 cal k k) u0 u3 u6 u7 u8 u23 H n D
theorem h78_2(cal:Cal)(k:Nat)(u0 u3 u6 u7 u8 u23:Value)(H:Hp)(n:Nat)(D:List Nat):labK (E78_2 cal k) (Tr.set (Tr.set (Tr.set (Tr.set (Tr.set (Tr.set Tr.nil 23 (some u23)) 8 (some u8)) 7 (some u7)) 6 (some u6)) 3 (some u3)) 0 (some u0)) H n D=C78_2 cal k u0 u3 u6 u7 u8 u23 H n D:=by
 refine Eq.trans (b:=B78_2 cal k (fun u0 u3 u6 u7 u8 u14 u68 u69 u70 H n D=>labK (E78_3 cal k k) (Tr.set (Tr.set (Tr.set (Tr.set (Tr.set (Tr.set (Tr.set (Tr.set (Tr.set Tr.nil 70 (some u70)) 69 (some u69)) 68 (some u68)) 14 (some u14)) 8 (some u8)) 7 (some u7)) 6 (some u6)) 3 (some u3)) 0 (some u0)) H n D) u0 u3 u6 u7 u8 u23 H n D) (by kernel_rfl) ?_
 rw[C78_2]
 have e3:(fun u0 u3 u6 u7 u8 u14 u68 u69 u70 H n D=>labK (E78_3 cal k k) (Tr.set (Tr.set (Tr.set (Tr.set (Tr.set (Tr.set (Tr.set (Tr.set (Tr.set Tr.nil 70 (some u70)) 69 (some u69)) 68 (some u68)) 14 (some u14)) 8 (some u8)) 7 (some u7)) 6 (some u6)) 3 (some u3)) 0 (some u0)) H n D)=(S78_3 cal k k):=by funext u0 u3 u6 u7 u8 u14 u68 u69 u70 H n D; exact q78_3 ..
 rw[e3]
noncomputable def B78_1(cal:Cal)(k:Nat)(u0 u3 u6 u7 u8 u23:Value)(H:Hp)(n:Nat)(D:List Nat):Option (Value × Hp × Nat):=
yY P cal none 78 u23 #[24,25] sv jq (wX cal k) (Kx cal k) (av P bQ) (Tr.set (Tr.set (Tr.set (Tr.set (Tr.set (Tr.set Tr.nil 23 (some u23)) 8 (some u8)) 7 (some u7)) 6 (some u6)) 3 (some u3)) 0 (some u0)) H n D
noncomputable def C78_1(cal:Cal)(k:Nat)(u0 u3 u6 u7 u8 u23:Value)(H:Hp)(n:Nat)(D:List Nat):Option (Value × Hp × Nat):=B78_1 cal k u0 u3 u6 u7 u8 u23 H n D
theorem h78_1(cal:Cal)(k:Nat)(u0 u3 u6 u7 u8 u23:Value)(H:Hp)(n:Nat)(D:List Nat):labK (E78_1 cal k) (Tr.set (Tr.set (Tr.set (Tr.set (Tr.set (Tr.set Tr.nil 23 (some u23)) 8 (some u8)) 7 (some u7)) 6 (some u6)) 3 (some u3)) 0 (some u0)) H n D=C78_1 cal k u0 u3 u6 u7 u8 u23 H n D:=by
 refine Eq.trans (b:=B78_1 cal k u0 u3 u6 u7 u8 u23 H n D) (by kernel_rfl) ?_
 rw[C78_1]
noncomputable def B78_0(cal:Cal)(k:Nat)(j1:W6 (Value × Hp × Nat))(v0 v1:Value)(H:Hp)(n:Nat)(D:List Nat):Option (Value × Hp × Nat):=
boxK 119 v1 H n fun v_1 H_2 n_3=>
newMapK H_2 n_3 fun v_6 H_7 n_8=>
dj P 160 H_7 n_8 fun v_9 H_a n_b=>
aq (bV P 160 v_9 v_6 H_a) fun H_d=>
dj P 118 H_d n_b fun v_e H_f n_g=>
dj P 3 H_f n_g fun v_h H_i n_j=>
aq (bV P 3 v_h (.int .i64 0) H_i) fun H_l=>
aq (aW v_1) fun a_4v=>aq (az P H_l 119 a_4v) fun v_4u=>
aY P cal 74 [v0,v_4u] H_l n_j fun v_4w H_4x n_4y=>
j1 v0 v_1 v_9 v_e v_h v_4w H_4x n_4y D
noncomputable def C78_0(cal:Cal)(k:Nat)(v0 v1:Value)(H:Hp)(n:Nat)(D:List Nat):Option (Value × Hp × Nat):=B78_0 cal k (C78_1 cal k) v0 v1 H n D
theorem h78_0(cal:Cal)(k:Nat)(v0 v1:Value)(H:Hp)(n:Nat)  : aK P cal A (k+1) 78 [v0,v1] H n=C78_0 cal k v0 v1 H n []:=by
 have h:aK P cal A (k+1) 78 [v0,v1] H n=B78_0 cal k (fun u0 u3 u6 u7 u8 u23 H n D=>labK (E78_1 cal k) (Tr.set (Tr.set (Tr.set (Tr.set (Tr.set (Tr.set Tr.nil 23 (some u23)) 8 (some u8)) 7 (some u7)) 6 (some u6)) 3 (some u3)) 0 (some u0)) H n D) v0 v1 H n []:=by
  rw[bX (fn:=Go.Proofs.Try.f78) (c:=fk) (rs:=bQ) (by kernel_rfl) (by kernel_rfl) (by kernel_rfl) (by kernel_rfl)]
  kernel_rfl
 rw[h,C78_0]
 have e1:(fun u0 u3 u6 u7 u8 u23 H n D=>labK (E78_1 cal k) (Tr.set (Tr.set (Tr.set (Tr.set (Tr.set (Tr.set Tr.nil 23 (some u23)) 8 (some u8)) 7 (some u7)) 6 (some u6)) 3 (some u3)) 0 (some u0)) H n D)=(C78_1 cal k):=by funext u0 u3 u6 u7 u8 u23 H n D; exact h78_1 ..
 rw[e1]
noncomputable def K78a0_p(cal:Cal)(k:Nat)(lp:Nat):KC (Ex × St):=(cutK (Lv.leaf).c (ay P cal (aw P cal k) (some lp) 78 (cR sv) (Lv.b (Lv.leaf)) KNb XNb KRb))
noncomputable def B78a0_0(cal:Cal)(k:Nat)(lp:Nat)(v0 v3 v6 v7 v8 v23 v24 v25:Value)(H:Hp)(n:Nat)(D:List Nat):Option (Ex × St):=
dj P 111 H n fun v_50 H_51 n_52=>
aq (bV P 111 v_50 v25 H_51) fun H_54=>
some (.norm,{ T:=(Tr.set (Tr.set (Tr.set (Tr.set (Tr.set (Tr.set (Tr.set (Tr.set (Tr.set (Tr.set Tr.nil 25 (some v25)) 24 (some v24)) 23 (some v23)) 10 (some v_50)) 9 (some v24)) 8 (some v8)) 7 (some v7)) 6 (some v6)) 3 (some v3)) 0 (some v0)),H:=H_54,n:=n_52,D:=D })
noncomputable def C78a0_0(cal:Cal)(k:Nat)(lp:Nat)(v0 v3 v6 v7 v8 v23 v24 v25:Value)(H:Hp)(n:Nat)(D:List Nat):Option (Ex × St):=B78a0_0 cal k lp v0 v3 v6 v7 v8 v23 v24 v25 H n D
theorem h78a0_0(cal:Cal)(k:Nat)(lp:Nat)(v0 v3 v6 v7 v8 v23 v24 v25:Value)(H:Hp)(n:Nat)(D:List Nat):aw P cal (k+1) (Lv.leaf) (some lp) 78 sv KNb XNb KRb (Tr.set (Tr.set (Tr.set (Tr.set (Tr.set (Tr.set (Tr.set (Tr.set Tr.nil 25 (some v25)) 24 (some v24)) 23 (some v23)) 8 (some v8)) 7 (some v7)) 6 (some v6)) 3 (some v3)) 0 (some v0)) H n D=C78a0_0 cal k lp v0 v3 v6 v7 v8 v23 v24 v25 H n D:=by
 have h:aw P cal (k+1) (Lv.leaf) (some lp) 78 sv KNb XNb KRb (Tr.set (Tr.set (Tr.set (Tr.set (Tr.set (Tr.set (Tr.set (Tr.set Tr.nil 25 (some v25)) 24 (some v24)) 23 (some v23)) 8 (some v8)) 7 (some v7)) 6 (some v6)) 3 (some v3)) 0 (some v0)) H n D=B78a0_0 cal k lp v0 v3 v6 v7 v8 v23 v24 v25 H n D:=by kernel_rfl
 rw[h,C78a0_0]
noncomputable def Nk(cal:Cal)(k:Nat)(lp:Nat):XC (Ex × St):=(upX 1 KNb XNb)
noncomputable def K78b0_pl(cal:Cal)(k:Nat)(lp:Nat):KC (Ex × St):=(cutK (Lv.a (A 131150)).c (ay P cal (aw P cal k) (some lp) 78 (cR (cL jq)) (Lv.b (Lv.a (A 131150))) KNb (Nk cal k lp) KRb))
noncomputable def K78b0_plr(cal:Cal)(k:Nat)(lp:Nat):KC (Ex × St):=(cutK (Lv.b (Lv.a (A 131150))).c (ay P cal (aw P cal k) (some lp) 78 (cR (cR (cL jq))) (Lv.b (Lv.b (Lv.a (A 131150)))) KNb (Nk cal k lp) KRb))
noncomputable def K78b0_plrr(cal:Cal)(k:Nat)(lp:Nat):KC (Ex × St):=(cutK (Lv.b (Lv.b (Lv.a (A 131150)))).c (ay P cal (aw P cal k) (some lp) 78 (cR (cR (cR (cL jq)))) (Lv.b (Lv.b (Lv.b (Lv.a (A 131150))))) KNb (Nk cal k lp) KRb))
noncomputable def K78b0_plrrr(cal:Cal)(k:Nat)(lp:Nat):KC (Ex × St):=(cutK (Lv.b (Lv.b (Lv.b (Lv.a (A 131150))))).c (ay P cal (aw P cal k) (some lp) 78 (cR (cR (cR (cR (cL jq))))) (Lv.b (Lv.b (Lv.b (Lv.b (Lv.a (A 131150)))))) KNb (Nk cal k lp) KRb))
noncomputable def qq(cal:Cal)(k:Nat)(lp:Nat):XC (Ex × St):=(upX 2 KNb (Nk cal k lp))
noncomputable def Ak(cal:Cal)(k:Nat)(lp:Nat)(m1:Nat):KC (Ex × St):=(fun T H n D=>aw P cal m1 (Lv.a (Lv.b (Lv.b (Lv.b (Lv.b (Lv.a (A 131150))))))) (some lp) 78 (cL (cR (cR (cR (cR (cL jq)))))) KNb (qq cal k lp) KRb (cutT (Lv.a (Lv.b (Lv.b (Lv.b (Lv.b (Lv.a (A 131150))))))).c T) H n D)
noncomputable def K78b0_plrrrrll(cal:Cal)(k:Nat)(lp:Nat)(m1:Nat):KC (Ex × St):=(cutK (Lv.a (Lv.a (Lv.b (Lv.b (Lv.b (Lv.b (Lv.a (A 131150)))))))).c (ay P cal (aw P cal m1) (some lp) 78 (cR (cL (cL (cR (cR (cR (cR (cL jq)))))))) (Lv.b (Lv.a (Lv.a (Lv.b (Lv.b (Lv.b (Lv.b (Lv.a (A 131150))))))))) (Ak cal k lp m1) (qq cal k lp) KRb))
noncomputable def K78b0_plrrrrllr(cal:Cal)(k:Nat)(lp:Nat)(m1:Nat):KC (Ex × St):=(cutK (Lv.b (Lv.a (Lv.a (Lv.b (Lv.b (Lv.b (Lv.b (Lv.a (A 131150))))))))).c (ay P cal (aw P cal m1) (some lp) 78 (cR (cR (cL (cL (cR (cR (cR (cR (cL jq))))))))) (Lv.b (Lv.b (Lv.a (Lv.a (Lv.b (Lv.b (Lv.b (Lv.b (Lv.a (A 131150)))))))))) (Ak cal k lp m1) (qq cal k lp) KRb))
noncomputable def zW(cal:Cal)(k:Nat)(lp:Nat)(m1:Nat):KC (Ex × St):=(cutK (Lv.b (Lv.b (Lv.a (Lv.a (Lv.b (Lv.b (Lv.b (Lv.b (Lv.a (A 131150)))))))))).c (ay P cal (aw P cal m1) (some lp) 78 (cR (cR (cR (cL (cL (cR (cR (cR (cR (cL jq)))))))))) (Lv.b (Lv.b (Lv.b (Lv.a (Lv.a (Lv.b (Lv.b (Lv.b (Lv.b (Lv.a (A 131150))))))))))) (Ak cal k lp m1) (qq cal k lp) KRb))
noncomputable def K78b0_pxlrrrrllrrl(cal:Cal)(k:Nat)(lp:Nat)(m1:Nat):XC (Ex × St):=(upX 3 (zW cal k lp m1) (qq cal k lp))
noncomputable def K78b0_plrrrrllrrll(cal:Cal)(k:Nat)(lp:Nat)(m1:Nat):KC (Ex × St):=(cutK (Lv.a (Lv.a (Lv.b (Lv.b (Lv.a (Lv.a (Lv.b (Lv.b (Lv.b (Lv.b (Lv.a (A 131150)))))))))))).c (ay P cal (aw P cal m1) (some lp) 78 (cR (cL (cL (cR (cR (cL (cL (cR (cR (cR (cR (cL jq)))))))))))) (Lv.b (Lv.a (Lv.a (Lv.b (Lv.b (Lv.a (Lv.a (Lv.b (Lv.b (Lv.b (Lv.b (Lv.a (A 131150))))))))))))) (zW cal k lp m1) (K78b0_pxlrrrrllrrl cal k lp m1) KRb))
noncomputable def K78b0_plrrrrllrrllr(cal:Cal)(k:Nat)(lp:Nat)(m1:Nat):KC (Ex × St):=(cutK (Lv.b (Lv.a (Lv.a (Lv.b (Lv.b (Lv.a (Lv.a (Lv.b (Lv.b (Lv.b (Lv.b (Lv.a (A 131150))))))))))))).c (ay P cal (aw P cal m1) (some lp) 78 (cR (cR (cL (cL (cR (cR (cL (cL (cR (cR (cR (cR (cL jq))))))))))))) (Lv.b (Lv.b (Lv.a (Lv.a (Lv.b (Lv.b (Lv.a (Lv.a (Lv.b (Lv.b (Lv.b (Lv.b (Lv.a (A 131150)))))))))))))) (zW cal k lp m1) (K78b0_pxlrrrrllrrl cal k lp m1) KRb))
noncomputable def PV(cal:Cal)(k:Nat)(lp:Nat)(m1:Nat):KC (Ex × St):=ay P cal (aw P cal m1) (some lp) 78 (cL (cL (cR (cR (cR (cR (cL jq))))))) (Lv.a (Lv.a (Lv.b (Lv.b (Lv.b (Lv.b (Lv.a (A 131150)))))))) (Ak cal k lp m1) (qq cal k lp) KRb
noncomputable def UZ(cal:Cal)(k:Nat)(lp:Nat)(m1:Nat):W5 (Ex × St):=fun u6 u7 u9 u40 u41 H n D=>aw P cal m1 (Lv.a (Lv.b (Lv.b (Lv.b (Lv.b (Lv.a (A 131150))))))) (some lp) 78 (cL (cR (cR (cR (cR (cL jq)))))) KNb (qq cal k lp) KRb (Tr.set (Tr.set (Tr.set (Tr.set (Tr.set Tr.nil 41 (some u41)) 40 (some u40)) 9 (some u9)) 7 (some u7)) 6 (some u6)) H n D
noncomputable def B78b0_1(cal:Cal)(k:Nat)(lp:Nat)(m1:Nat)(b1:W5 (Ex × St))(u6 u7 u9 u40 u41:Value)(H:Hp)(n:Nat)(D:List Nat):Option (Ex × St):=
binK P .lss 3 (.tmp 41) (.const (.int .i64 8)) u41 (.int .i64 8) fun v_63=>
ifK v_63 (
aq (BJ P 109 u40 u41) fun v_65=>
dj P 53 H n fun v_66 H_67 n_68=>
aq (bV P 53 v_66 v_65 H_67) fun H_6b=>
aq (aW u6) fun a_6d=>aq (az P H_6b 160 a_6d) fun v_6c=>
binK P .add 3 (.const (.int .i64 0)) (.tmp 46) (.int .i64 0) u9 fun v_6f=>
binK P .add 3 (.const (.int .i64 8)) (.tmp 48) (.int .i64 8) u41 fun v_6h=>
aq (fw P 162 [(0,v_6f),(1,v_6h)]) fun v_6i=>
aq (ax P 53 v_66 1) fun v_6j=>
aq (aW v_6j) fun a_6l=>aq (az P H_6b 3 a_6l) fun v_6k=>
aq (ax P 53 v_66 0) fun v_6m=>
aq (aW v_6m) fun a_6o=>aq (az P H_6b 3 a_6o) fun v_6n=>
binK P .sub 3 (.tmp 52) (.tmp 54) v_6k v_6n fun v_6p=>
aq (Aw P 160 v_6c v_6i v_6p H_6b) fun H_6r=>
aq (aV P 118 u7 u41) fun v_6t=>
aq (aW v_6t) fun a_6u=>aq (az P H_6r 3 a_6u) fun v_6v=>
aq (ax P 53 v_66 0) fun v_6w=>
aq (aW v_6w) fun a_6x=>aq (az P H_6r 3 a_6x) fun v_6y=>
binK P .add 3 (.tmp 58) (.tmp 60) v_6v v_6y fun v_6z=>
aq (aV P 118 u7 u41) fun v_70=>
aq (bV P 3 v_70 v_6z H_6r) fun H_72=>
binK P .add 3 (.tmp 41) (.const (.int .i64 1)) u41 (.int .i64 1) fun v_73=>
b1 u6 u7 u9 u40 v_73 H_72 n_68 D) (
some (.norm,{ T:=(Tr.set (Tr.set (Tr.set (Tr.set (Tr.set (Tr.set Tr.nil 42 (some v_63)) 41 (some u41)) 40 (some u40)) 9 (some u9)) 7 (some u7)) 6 (some u6)),H:=H,n:=n,D:=D }))
noncomputable def PW(cal:Cal)(k:Nat)(lp:Nat)(m1:Nat)(b1:W5 (Ex × St))(u6 u7 u9 u40 u41:Value)(H:Hp)(n:Nat)(D:List Nat):Option (Ex × St):=B78b0_1 cal k lp m1 b1 u6 u7 u9 u40 u41 H n D
noncomputable def PX(cal:Cal)(k:Nat)(lp:Nat):Nat→W5 (Ex × St):=fun m=>Nat.rec (motive:=fun _=>W5 (Ex × St)) (PW cal k lp 0 (fun _ _ _ _ _ _ _ _=>none)) (fun m ih=>PW cal k lp (m+1) ih) m
theorem h78b0_1(cal:Cal)(k:Nat)(lp:Nat)(m1:Nat)(u6 u7 u9 u40 u41:Value)(H:Hp)(n:Nat)(D:List Nat):labK (PV cal k lp m1) (Tr.set (Tr.set (Tr.set (Tr.set (Tr.set Tr.nil 41 (some u41)) 40 (some u40)) 9 (some u9)) 7 (some u7)) 6 (some u6)) H n D=PW cal k lp m1 (UZ cal k lp m1) u6 u7 u9 u40 u41 H n D:=by
 have h:labK (PV cal k lp m1) (Tr.set (Tr.set (Tr.set (Tr.set (Tr.set Tr.nil 41 (some u41)) 40 (some u40)) 9 (some u9)) 7 (some u7)) 6 (some u6)) H n D=B78b0_1 cal k lp m1 (UZ cal k lp m1) u6 u7 u9 u40 u41 H n D:=by kernel_rfl
 rw[h,PW]
theorem q78b0_1(cal:Cal)(k:Nat)(lp:Nat):∀(m:Nat) (u6 u7 u9 u40 u41:Value) (H:Hp) (n:Nat) (D:List Nat),labK (PV cal k lp m) (Tr.set (Tr.set (Tr.set (Tr.set (Tr.set Tr.nil 41 (some u41)) 40 (some u40)) 9 (some u9)) 7 (some u7)) 6 (some u6)) H n D=PX cal k lp m u6 u7 u9 u40 u41 H n D
 | 0,u6,u7,u9,u40,u41,H,n,D=>by
  rw[h78b0_1]
  have e:UZ cal k lp 0=fun _ _ _ _ _ _ _ _=>none:=by funext u6 u7 u9 u40 u41 H n D; kernel_rfl
  rw[e]; rfl
 | m+1,u6,u7,u9,u40,u41,H,n,D=>by
  rw[h78b0_1]
  have e:UZ cal k lp (m+1)=PX cal k lp m:=by
   funext u6 u7 u9 u40 u41 H n D
   have e:UZ cal k lp (m+1) u6 u7 u9 u40 u41 H n D=labK (PV cal k lp m) (Tr.set (Tr.set (Tr.set (Tr.set (Tr.set Tr.nil 41 (some u41)) 40 (some u40)) 9 (some u9)) 7 (some u7)) 6 (some u6)) H n D:=by kernel_rfl
   rw[e]; exact q78b0_1 ..
  rw[e]; rfl
noncomputable def B78b0_0(cal:Cal)(k:Nat)(lp:Nat)(j1:W5 (Ex × St))(v0 v3 v6 v7 v8 v9 v10 v23 v24 v25:Value)(H:Hp)(n:Nat)(D:List Nat):Option (Ex × St):=
aq (ax P 111 v10 0) fun v_55=>
aq (aW v_55) fun a_56=>aq (az P H 3 a_56) fun v_57=>
aq (aW v10) fun a_58=>aq (az P H 111 a_58) fun v_59=>
effK P [(.l 3 a_56)] H n (fun H_5a n_5b k_5c=>
aY P cal 98 [v_59,(Value.func (.func 72) #[] #[])] H_5a n_5b fun v_5g H_5h n_5i=>
k_5c v_5g H_5h n_5i) fun v_5d H_5e n_5f=>
binK P .sub 3 (.tmp 27) (.tmp 29) v_57 v_5d fun v_5j=>
aq (aW v8) fun a_5m=>aq (az P H_5e 3 a_5m) fun v_5l=>
binK P .add 3 (.tmp 31) (.tmp 32) v_5l v_5j fun v_5o=>
aq (bV P 3 v8 v_5o H_5e) fun H_5q=>
aq (aW v6) fun a_5s=>aq (az P H_5q 160 a_5s) fun v_5r=>
binK P .add 3 (.const (.int .i64 0)) (.tmp 35) (.int .i64 0) v9 fun v_5u=>
aq (fw P 162 [(0,(.int .i64 16)),(1,v_5u)]) fun v_5v=>
aq (Aw P 160 v_5r v_5v v_5j H_5q) fun H_5y=>
aq (ax P 111 v10 1) fun v_5z=>
aq (aW v_5z) fun a_61=>aq (az P H_5y 109 a_61) fun v_60=>
j1 v6 v7 v9 v_60 (.int .i64 0) H_5y n_5f D
noncomputable def C78b0_0(cal:Cal)(k:Nat)(lp:Nat)(v0 v3 v6 v7 v8 v9 v10 v23 v24 v25:Value)(H:Hp)(n:Nat)(D:List Nat):Option (Ex × St):=B78b0_0 cal k lp (PX cal k lp k) v0 v3 v6 v7 v8 v9 v10 v23 v24 v25 H n D
theorem h78b0_0(cal:Cal)(k:Nat)(lp:Nat)(v0 v3 v6 v7 v8 v9 v10 v23 v24 v25:Value)(H:Hp)(n:Nat)(D:List Nat):aw P cal (k+1) (A 131150) (some lp) 78 jq KNb XNb KRb (Tr.set (Tr.set (Tr.set (Tr.set (Tr.set (Tr.set (Tr.set (Tr.set (Tr.set (Tr.set Tr.nil 25 (some v25)) 24 (some v24)) 23 (some v23)) 10 (some v10)) 9 (some v9)) 8 (some v8)) 7 (some v7)) 6 (some v6)) 3 (some v3)) 0 (some v0)) H n D=C78b0_0 cal k lp v0 v3 v6 v7 v8 v9 v10 v23 v24 v25 H n D:=by
 have h:aw P cal (k+1) (A 131150) (some lp) 78 jq KNb XNb KRb (Tr.set (Tr.set (Tr.set (Tr.set (Tr.set (Tr.set (Tr.set (Tr.set (Tr.set (Tr.set Tr.nil 25 (some v25)) 24 (some v24)) 23 (some v23)) 10 (some v10)) 9 (some v9)) 8 (some v8)) 7 (some v7)) 6 (some v6)) 3 (some v3)) 0 (some v0)) H n D=B78b0_0 cal k lp (fun u6 u7 u9 u40 u41 H n D=>labK (PV cal k lp k) (Tr.set (Tr.set (Tr.set (Tr.set (Tr.set Tr.nil 41 (some u41)) 40 (some u40)) 9 (some u9)) 7 (some u7)) 6 (some u6)) H n D) v0 v3 v6 v7 v8 v9 v10 v23 v24 v25 H n D:=by kernel_rfl
 rw[h,C78b0_0]
 have e1:(fun u6 u7 u9 u40 u41 H n D=>labK (PV cal k lp k) (Tr.set (Tr.set (Tr.set (Tr.set (Tr.set Tr.nil 41 (some u41)) 40 (some u40)) 9 (some u9)) 7 (some u7)) 6 (some u6)) H n D)=(PX cal k lp k):=by funext u6 u7 u9 u40 u41 H n D; exact q78b0_1 ..
 rw[e1]
noncomputable def qy:Code:=cW 79
noncomputable def fq:List ResultVar:=eX 79
noncomputable def K79_p(cal:Cal)(k:Nat):KR:=(cutK (A 79).c (ay P cal (aw P cal k) none 79 (cR qy) (Lv.b (A 79)) (av P fq) X0 (av P fq)))
noncomputable def K79_pr(cal:Cal)(k:Nat):KR:=(cutK (Lv.b (A 79)).c (ay P cal (aw P cal k) none 79 (cR (cR qy)) (Lv.b (Lv.b (A 79))) (av P fq) X0 (av P fq)))
noncomputable def K79_prl(cal:Cal)(k:Nat):KR:=(cutK (Lv.a (Lv.b (A 79))).c (ay P cal (aw P cal k) none 79 (cR (cL (cR qy))) (Lv.b (Lv.a (Lv.b (A 79)))) (K79_pr cal k) X0 (av P fq)))
noncomputable def K79_prlrl(cal:Cal)(k:Nat):KR:=(cutK (Lv.a (Lv.b (Lv.a (Lv.b (A 79))))).c (ay P cal (aw P cal k) none 79 (cR (cL (cR (cL (cR qy))))) (Lv.b (Lv.a (Lv.b (Lv.a (Lv.b (A 79)))))) (K79_pr cal k) X0 (av P fq)))
noncomputable def qdv(cal:Cal)(k:Nat):KR:=(cutK (Lv.b (Lv.b (A 79))).c (ay P cal (aw P cal k) none 79 (cR (cR (cR qy))) (Lv.b (Lv.b (Lv.b (A 79)))) (av P fq) X0 (av P fq)))
noncomputable def K79_prrl(cal:Cal)(k:Nat):KR:=(cutK (Lv.a (Lv.b (Lv.b (A 79)))).c (ay P cal (aw P cal k) none 79 (cR (cL (cR (cR qy)))) (Lv.b (Lv.a (Lv.b (Lv.b (A 79))))) (qdv cal k) X0 (av P fq)))
noncomputable def vY(cal:Cal)(k:Nat):XR:=(upX 0 (qdv cal k) X0)
noncomputable def Ky(cal:Cal)(k:Nat)(m1:Nat):KR:=(fun T H n D=>aw P cal m1 (Lv.a (Lv.b (Lv.a (Lv.b (Lv.b (A 79)))))) none 79 (cL (cR (cL (cR (cR qy))))) (qdv cal k) (vY cal k) (av P fq) (cutT (Lv.a (Lv.b (Lv.a (Lv.b (Lv.b (A 79)))))).c T) H n D)
noncomputable def K79_prrlrll(cal:Cal)(k:Nat)(m1:Nat):KR:=(cutK (Lv.a (Lv.a (Lv.b (Lv.a (Lv.b (Lv.b (A 79))))))).c (ay P cal (aw P cal m1) none 79 (cR (cL (cL (cR (cL (cR (cR qy))))))) (Lv.b (Lv.a (Lv.a (Lv.b (Lv.a (Lv.b (Lv.b (A 79)))))))) (Ky cal k m1) (vY cal k) (av P fq)))
noncomputable def K79_prrlrllr(cal:Cal)(k:Nat)(m1:Nat):KR:=(cutK (Lv.b (Lv.a (Lv.a (Lv.b (Lv.a (Lv.b (Lv.b (A 79)))))))).c (ay P cal (aw P cal m1) none 79 (cR (cR (cL (cL (cR (cL (cR (cR qy)))))))) (Lv.b (Lv.b (Lv.a (Lv.a (Lv.b (Lv.a (Lv.b (Lv.b (A 79))))))))) (Ky cal k m1) (vY cal k) (av P fq)))
noncomputable def vj(cal:Cal)(k:Nat)(m1:Nat):KR:=(cutK (Lv.b (Lv.b (Lv.a (Lv.a (Lv.b (Lv.a (Lv.b (Lv.b (A 79))))))))).c (ay P cal (aw P cal m1) none 79 (cR (cR (cR (cL (cL (cR (cL (cR (cR qy))))))))) (Lv.b (Lv.b (Lv.b (Lv.a (Lv.a (Lv.b (Lv.a (Lv.b (Lv.b (A 79)))))))))) (Ky cal k m1) (vY cal k) (av P fq)))
noncomputable def oW(cal:Cal)(k:Nat)(m1:Nat):XR:=(upX 1 (vj cal k m1) (vY cal k))
noncomputable def K79_prrlrllrrll(cal:Cal)(k:Nat)(m1:Nat):KR:=(cutK (Lv.a (Lv.a (Lv.b (Lv.b (Lv.a (Lv.a (Lv.b (Lv.a (Lv.b (Lv.b (A 79))))))))))).c (ay P cal (aw P cal m1) none 79 (cR (cL (cL (cR (cR (cL (cL (cR (cL (cR (cR qy))))))))))) (Lv.b (Lv.a (Lv.a (Lv.b (Lv.b (Lv.a (Lv.a (Lv.b (Lv.a (Lv.b (Lv.b (A 79)))))))))))) (vj cal k m1) (oW cal k m1) (av P fq)))
noncomputable def K79_prrlrllrrllr(cal:Cal)(k:Nat)(m1:Nat):KR:=(cutK (Lv.b (Lv.a (Lv.a (Lv.b (Lv.b (Lv.a (Lv.a (Lv.b (Lv.a (Lv.b (Lv.b (A 79)))))))))))).c (ay P cal (aw P cal m1) none 79 (cR (cR (cL (cL (cR (cR (cL (cL (cR (cL (cR (cR qy)))))))))))) (Lv.b (Lv.b (Lv.a (Lv.a (Lv.b (Lv.b (Lv.a (Lv.a (Lv.b (Lv.a (Lv.b (Lv.b (A 79))))))))))))) (vj cal k m1) (oW cal k m1) (av P fq)))
noncomputable def K79_prrlrllrrllrl(cal:Cal)(k:Nat)(m1:Nat):KR:=(cutK (Lv.a (Lv.b (Lv.a (Lv.a (Lv.b (Lv.b (Lv.a (Lv.a (Lv.b (Lv.a (Lv.b (Lv.b (A 79))))))))))))).c (ay P cal (aw P cal m1) none 79 (cR (cL (cR (cL (cL (cR (cR (cL (cL (cR (cL (cR (cR qy))))))))))))) (Lv.b (Lv.a (Lv.b (Lv.a (Lv.a (Lv.b (Lv.b (Lv.a (Lv.a (Lv.b (Lv.a (Lv.b (Lv.b (A 79)))))))))))))) (K79_prrlrllrrllr cal k m1) (oW cal k m1) (av P fq)))
noncomputable def K79_prrlrllrrllrlrl(cal:Cal)(k:Nat)(m1:Nat):KR:=(cutK (Lv.a (Lv.b (Lv.a (Lv.b (Lv.a (Lv.a (Lv.b (Lv.b (Lv.a (Lv.a (Lv.b (Lv.a (Lv.b (Lv.b (A 79))))))))))))))).c (ay P cal (aw P cal m1) none 79 (cR (cL (cR (cL (cR (cL (cL (cR (cR (cL (cL (cR (cL (cR (cR qy))))))))))))))) (Lv.b (Lv.a (Lv.b (Lv.a (Lv.b (Lv.a (Lv.a (Lv.b (Lv.b (Lv.a (Lv.a (Lv.b (Lv.a (Lv.b (Lv.b (A 79)))))))))))))))) (K79_prrlrllrrllr cal k m1) (oW cal k m1) (av P fq)))
noncomputable def K79_prrlrllrrllrr(cal:Cal)(k:Nat)(m1:Nat):KR:=(cutK (Lv.b (Lv.b (Lv.a (Lv.a (Lv.b (Lv.b (Lv.a (Lv.a (Lv.b (Lv.a (Lv.b (Lv.b (A 79))))))))))))).c (ay P cal (aw P cal m1) none 79 (cR (cR (cR (cL (cL (cR (cR (cL (cL (cR (cL (cR (cR qy))))))))))))) (Lv.b (Lv.b (Lv.b (Lv.a (Lv.a (Lv.b (Lv.b (Lv.a (Lv.a (Lv.b (Lv.a (Lv.b (Lv.b (A 79)))))))))))))) (vj cal k m1) (oW cal k m1) (av P fq)))
noncomputable def K79_prrlrllrrllrrrl(cal:Cal)(k:Nat)(m1:Nat):KR:=(cutK (Lv.a (Lv.b (Lv.b (Lv.b (Lv.a (Lv.a (Lv.b (Lv.b (Lv.a (Lv.a (Lv.b (Lv.a (Lv.b (Lv.b (A 79))))))))))))))).c (ay P cal (aw P cal m1) none 79 (cR (cL (cR (cR (cR (cL (cL (cR (cR (cL (cL (cR (cL (cR (cR qy))))))))))))))) (Lv.b (Lv.a (Lv.b (Lv.b (Lv.b (Lv.a (Lv.a (Lv.b (Lv.b (Lv.a (Lv.a (Lv.b (Lv.a (Lv.b (Lv.b (A 79)))))))))))))))) (vj cal k m1) (oW cal k m1) (av P fq)))
noncomputable def K79_prrr(cal:Cal)(k:Nat):KR:=(cutK (Lv.b (Lv.b (Lv.b (A 79)))).c (ay P cal (aw P cal k) none 79 (cR (cR (cR (cR qy)))) (Lv.b (Lv.b (Lv.b (Lv.b (A 79))))) (av P fq) X0 (av P fq)))
noncomputable def E79_1(cal:Cal)(k m1:Nat):KR:=ay P cal (aw P cal m1) none 79 (cL (cL (cR (cL (cR (cR qy)))))) (Lv.a (Lv.a (Lv.b (Lv.a (Lv.b (Lv.b (A 79))))))) (Ky cal k m1) (vY cal k) (av P fq)
noncomputable def R79_1(cal:Cal)(k m1:Nat):V5:=fun u0 u2 u24 u25 u26 H n=>aw P cal m1 (Lv.a (Lv.b (Lv.a (Lv.b (Lv.b (A 79)))))) none 79 (cL (cR (cL (cR (cR qy))))) (qdv cal k) (vY cal k) (av P fq) (Tr.set (Tr.set (Tr.set (Tr.set (Tr.set Tr.nil 26 (some u26)) 25 (some u25)) 24 (some u24)) 2 (some u2)) 0 (some u0)) H n []
noncomputable def B79_1(cal:Cal)(k m1:Nat)(b1:V5)(u0 u2 u24 u25 u26:Value)(H:Hp)(n:Nat):Res:=
binK P .lss 3 (.tmp 26) (.tmp 25) u26 u25 fun v_q=>
ifK v_q (
aq (aV P 44 u24 u26) fun v_s=>
aq (aW v_s) fun a_u=>aq (az P H 3 a_u) fun v_t=>
binK P .eql 3 (.tmp 31) (.const (.int .i64 (-1))) v_t (.int .i64 (-1)) fun v_y=>
aX v_y true (fun k_10=>
k_10 u2 H n) H n fun v_11 H_12 n_13=>
aX v_y true (fun k_15=>
k_15 u26 H_12 n_13) H_12 n_13 fun v_16 H_17 n_18=>
aX v_y true (fun k_1a=>
aq (aV P 59 v_11 v_16) fun v_1e=>
k_1a v_1e H_17 n_18) H_17 n_18 fun v_1b H_1c n_1d=>
aX v_y true (fun k_1f=>
aq (aW v_1b) fun a_1k=>aq (az P H_1c 44 a_1k) fun v_1j=>
k_1f v_1j H_1c n_1d) H_1c n_1d fun v_1g H_1h n_1i=>
aX v_y true (fun k_1l=>
aq (lenV P 44 v_1g) fun v_1p=>
k_1l v_1p H_1h n_1i) H_1h n_1i fun v_1m H_1n n_1o=>
aX v_y true (fun k_1q=>
binK P .gtr 3 (.tmp 38) (.const (.int .i64 0)) v_1m (.int .i64 0) fun v_1u=>
k_1q v_1u H_1n n_1o) H_1n n_1o fun v_1r H_1s n_1t=>
aq (fJ v_y v_1r (.bool false)) fun v_1v=>
ifK v_1v (
some ((.bool false),H_1s,n_1t)) (
binK P .neq 3 (.tmp 41) (.const (.int .i64 (-1))) v_t (.int .i64 (-1)) fun v_1y=>
dw v_1y true (fun k_20=>
k_20 u0 .p H_1s n_1t) .p H_1s n_1t fun v_21 x_22 H_23 n_24=>
dw v_1y true (fun k_26=>
k_26 u26 .p H_23 n_24) .p H_23 n_24 fun v_27 x_28 H_29 n_2a=>
dw v_1y true (fun k_2c=>
k_2c v_t .p H_29 n_2a) .p H_29 n_2a fun v_2d x_2e H_2f n_2g=>
dw v_1y true (fun k_2i=>
aq (nilV v_21) fun v_2n=>
k_2i v_2n .p H_2f n_2g) .p H_2f n_2g fun v_2j x_2k H_2l n_2m=>
dw v_1y true (fun k_2o=>
aq (ax P 115 v_2j 2) fun v_2t=>
k_2o v_2t .p H_2l n_2m) .p H_2l n_2m fun v_2p x_2q H_2r n_2s=>
dw v_1y true (fun k_2u=>
aq (aV P 113 v_2p v_27) fun v_2z=>
k_2u v_2z .p H_2r n_2s) .p H_2r n_2s fun v_2v x_2w H_2x n_2y=>
dw v_1y true (fun k_30=>
aq (aV P 112 v_2v v_2d) fun v_35=>
k_30 v_35 .p H_2x n_2y) .p H_2x n_2y fun v_31 x_32 H_33 n_34=>
dw v_1y true (fun k_36=>
aq (aW v_31) fun a_3b=>aq (az P H_33 111 a_3b) fun v_3c=>
k_36 v_3c (.l 111 a_3b) H_33 n_34) .p H_33 n_34 fun v_37 x_38 H_39 n_3a=>
dw v_1y true (fun k_3d=>
k_3d u2 .p H_39 n_3a) .p H_39 n_3a fun v_3e x_3f H_3g n_3h=>
dw v_1y true (fun k_3j=>
k_3j u26 .p H_3g n_3h) .p H_3g n_3h fun v_3k x_3l H_3m n_3n=>
dw v_1y true (fun k_3p=>
aq (aV P 59 v_3e v_3k) fun v_3u=>
k_3p v_3u .p H_3m n_3n) .p H_3m n_3n fun v_3q x_3r H_3s n_3t=>
dw v_1y true (fun k_3v=>
aq (aW v_3q) fun a_40=>aq (az P H_3s 44 a_40) fun v_41=>
k_3v v_41 (.l 44 a_40) H_3s n_3t) .p H_3s n_3t fun v_3w x_3x H_3y n_3z=>
dw v_1y true (fun k_42=>
k_42 u0 .p H_3y n_3z) .p H_3y n_3z fun v_43 x_44 H_45 n_46=>
dw v_1y true (fun k_48=>
aq (nilV v_43) fun v_4d=>
k_48 v_4d .p H_45 n_46) .p H_45 n_46 fun v_49 x_4a H_4b n_4c=>
dw v_1y true (fun k_4e=>
aq (ax P 115 v_49 0) fun v_4j=>
k_4e v_4j .p H_4b n_4c) .p H_4b n_4c fun v_4f x_4g H_4h n_4i=>
dw v_1y true (fun k_4k=>
aq (ax P 35 v_4f 0) fun v_4p=>
k_4k v_4p .p H_4h n_4i) .p H_4h n_4i fun v_4l x_4m H_4n n_4o=>
dw v_1y true (fun k_4q=>
aq (aW v_4l) fun a_4v=>aq (az P H_4n 31 a_4v) fun v_4w=>
k_4q v_4w (.l 31 a_4v) H_4n n_4o) .p H_4n n_4o fun v_4r x_4s H_4t n_4u=>
dw v_1y true (fun k_4x=>
aq (lenV P 31 v_4r) fun v_52=>
k_4x v_52 .p H_4t n_4u) .p H_4t n_4u fun v_4y x_4z H_50 n_51=>
dw v_1y true (fun k_53=>
aY P cal 109 [v_37,v_3w,v_4y] H_50 n_51 fun v_58 H_59 n_5a=>
k_53 v_58 .e H_59 n_5a) .e H_50 n_51 fun v_54 x_55 H_56 n_57=>
dw v_1y true (fun k_5b=>
aq (fY P v_54 (Op.unary UnOp.not v_54)) fun v_5g=>
k_5b v_5g .p H_56 n_57) .p H_56 n_57 fun v_5c x_5d H_5e n_5f=>
aq (fJ v_1y v_5c (.bool false)) fun v_5h=>
ifK v_5h (
some ((.bool false),H_5e,n_5f)) (
binK P .add 3 (.tmp 26) (.const (.int .i64 1)) u26 (.int .i64 1) fun v_5j=>
b1 u0 u2 u24 u25 v_5j H_5e n_5f))) (
some ((.bool true),H,n))
noncomputable def C79_1(cal:Cal)(k m1:Nat)(b1:V5)(u0 u2 u24 u25 u26:Value)(H:Hp)(n:Nat):Res:=B79_1 cal k m1 b1 u0 u2 u24 u25 u26 H n
noncomputable def S79_1(cal:Cal)(k:Nat):Nat→V5:=fun m=>Nat.rec (motive:=fun _=>V5) (C79_1 cal k 0 (fun _ _ _ _ _ _ _=>none)) (fun m ih=>C79_1 cal k (m+1) ih) m
theorem h79_1(cal:Cal)(k m1:Nat)(u0 u2 u24 u25 u26:Value)(H:Hp)(n:Nat):labK (E79_1 cal k m1) (Tr.set (Tr.set (Tr.set (Tr.set (Tr.set Tr.nil 26 (some u26)) 25 (some u25)) 24 (some u24)) 2 (some u2)) 0 (some u0)) H n []=C79_1 cal k m1 (R79_1 cal k m1) u0 u2 u24 u25 u26 H n:=by
 refine Eq.trans (b:=B79_1 cal k m1 (R79_1 cal k m1) u0 u2 u24 u25 u26 H n) (by kernel_rfl) ?_
 rw[C79_1]
theorem q79_1(cal:Cal)(k:Nat):∀(m:Nat) (u0 u2 u24 u25 u26:Value) (H:Hp) (n:Nat),labK (E79_1 cal k m) (Tr.set (Tr.set (Tr.set (Tr.set (Tr.set Tr.nil 26 (some u26)) 25 (some u25)) 24 (some u24)) 2 (some u2)) 0 (some u0)) H n []=S79_1 cal k m u0 u2 u24 u25 u26 H n
 | 0,u0,u2,u24,u25,u26,H,n=>by
  rw[h79_1]
  have e:R79_1 cal k 0=fun _ _ _ _ _ _ _=>none:=by funext u0 u2 u24 u25 u26 H n; kernel_rfl
  rw[e]; rfl
 | m+1,u0,u2,u24,u25,u26,H,n=>by
  rw[h79_1]
  have e:R79_1 cal k (m+1)=S79_1 cal k m:=by
   funext u0 u2 u24 u25 u26 H n
   have e:R79_1 cal k (m+1) u0 u2 u24 u25 u26 H n=labK (E79_1 cal k m) (Tr.set (Tr.set (Tr.set (Tr.set (Tr.set Tr.nil 26 (some u26)) 25 (some u25)) 24 (some u24)) 2 (some u2)) 0 (some u0)) H n []:=by kernel_rfl
   rw[e]; exact q79_1 ..
  rw[e]; rfl
noncomputable def B79_0(cal:Cal)(k:Nat)(j1:V5)(v0 v1 v2:Value)(H:Hp)(n:Nat):Res:=
boxK 119 v1 H n fun v_1 H_2 n_3=>
aq (lenV P 59 v2) fun v_6=>
aq (nilV v0) fun v_8=>
aq (ax P 115 v_8 0) fun v_9=>
aq (ax P 35 v_9 0) fun v_a=>
aq (aW v_a) fun a_c=>aq (az P H_2 31 a_c) fun v_b=>
aq (lenV P 31 v_b) fun v_d=>
binK P .neq 3 (.tmp 10) (.tmp 16) v_6 v_d fun v_e=>
ifK v_e (
some ((.bool false),H_2,n_3)) (
aq (nilV v0) fun v_h=>
aq (ax P 115 v_h 0) fun v_i=>
aq (ax P 35 v_i 0) fun v_j=>
aq (aW v_j) fun a_l=>aq (az P H_2 31 a_l) fun v_k=>
aq (lenV P 31 v_k) fun v_m=>
aq (IZ P 119 v_1 none (some v_m)) fun v_n=>
aq (lenV P 44 v_n) fun v_o=>
j1 v0 v2 v_n v_o (.int .i64 0) H_2 n_3)
noncomputable def C79_0(cal:Cal)(k:Nat)(v0 v1 v2:Value)(H:Hp)(n:Nat):Res:=B79_0 cal k (S79_1 cal k k) v0 v1 v2 H n
theorem h79_0(cal:Cal)(k:Nat)(v0 v1 v2:Value)(H:Hp)(n:Nat):aK P cal A (k+1) 79 [v0,v1,v2] H n=C79_0 cal k v0 v1 v2 H n:=by
 have h:aK P cal A (k+1) 79 [v0,v1,v2] H n=B79_0 cal k (fun u0 u2 u24 u25 u26 H n=>labK (E79_1 cal k k) (Tr.set (Tr.set (Tr.set (Tr.set (Tr.set Tr.nil 26 (some u26)) 25 (some u25)) 24 (some u24)) 2 (some u2)) 0 (some u0)) H n []) v0 v1 v2 H n:=by
  rw[bX (fn:=Go.Proofs.Try.f79) (c:=qy) (rs:=fq) (by kernel_rfl) (by kernel_rfl) (by kernel_rfl) (by kernel_rfl)]
  kernel_rfl
 rw[h,C79_0]
 have e1:(fun u0 u2 u24 u25 u26 H n=>labK (E79_1 cal k k) (Tr.set (Tr.set (Tr.set (Tr.set (Tr.set Tr.nil 26 (some u26)) 25 (some u25)) 24 (some u24)) 2 (some u2)) 0 (some u0)) H n [])=(S79_1 cal k k):=by funext u0 u2 u24 u25 u26 H n; exact q79_1 ..
 rw[e1]
noncomputable def iK:Code:=cW 80
noncomputable def cJ:List ResultVar:=eX 80
noncomputable def K80_p(cal:Cal)(k:Nat):KR:=(cutK (A 80).c (ay P cal (aw P cal k) none 80 (cR iK) (Lv.b (A 80)) (av P cJ) X0 (av P cJ)))
noncomputable def K80_pr(cal:Cal)(k:Nat):KR:=(cutK (Lv.b (A 80)).c (ay P cal (aw P cal k) none 80 (cR (cR iK)) (Lv.b (Lv.b (A 80))) (av P cJ) X0 (av P cJ)))
noncomputable def qdw(cal:Cal)(k:Nat):KR:=(cutK (Lv.b (Lv.b (A 80))).c (ay P cal (aw P cal k) none 80 (cR (cR (cR iK))) (Lv.b (Lv.b (Lv.b (A 80)))) (av P cJ) X0 (av P cJ)))
noncomputable def K80_prrl(cal:Cal)(k:Nat):KR:=(cutK (Lv.a (Lv.b (Lv.b (A 80)))).c (ay P cal (aw P cal k) none 80 (cR (cL (cR (cR iK)))) (Lv.b (Lv.a (Lv.b (Lv.b (A 80))))) (qdw cal k) X0 (av P cJ)))
noncomputable def vZ(cal:Cal)(k:Nat):XR:=(upX 0 (qdw cal k) X0)
noncomputable def Kz(cal:Cal)(k:Nat)(m1:Nat):KR:=(fun T H n D=>aw P cal m1 (Lv.a (Lv.b (Lv.a (Lv.b (Lv.b (A 80)))))) none 80 (cL (cR (cL (cR (cR iK))))) (qdw cal k) (vZ cal k) (av P cJ) (cutT (Lv.a (Lv.b (Lv.a (Lv.b (Lv.b (A 80)))))).c T) H n D)
noncomputable def K80_prrlrll(cal:Cal)(k:Nat)(m1:Nat):KR:=(cutK (Lv.a (Lv.a (Lv.b (Lv.a (Lv.b (Lv.b (A 80))))))).c (ay P cal (aw P cal m1) none 80 (cR (cL (cL (cR (cL (cR (cR iK))))))) (Lv.b (Lv.a (Lv.a (Lv.b (Lv.a (Lv.b (Lv.b (A 80)))))))) (Kz cal k m1) (vZ cal k) (av P cJ)))
noncomputable def K80_prrlrllr(cal:Cal)(k:Nat)(m1:Nat):KR:=(cutK (Lv.b (Lv.a (Lv.a (Lv.b (Lv.a (Lv.b (Lv.b (A 80)))))))).c (ay P cal (aw P cal m1) none 80 (cR (cR (cL (cL (cR (cL (cR (cR iK)))))))) (Lv.b (Lv.b (Lv.a (Lv.a (Lv.b (Lv.a (Lv.b (Lv.b (A 80))))))))) (Kz cal k m1) (vZ cal k) (av P cJ)))
noncomputable def rx(cal:Cal)(k:Nat)(m1:Nat):KR:=(cutK (Lv.b (Lv.b (Lv.a (Lv.a (Lv.b (Lv.a (Lv.b (Lv.b (A 80))))))))).c (ay P cal (aw P cal m1) none 80 (cR (cR (cR (cL (cL (cR (cL (cR (cR iK))))))))) (Lv.b (Lv.b (Lv.b (Lv.a (Lv.a (Lv.b (Lv.a (Lv.b (Lv.b (A 80)))))))))) (Kz cal k m1) (vZ cal k) (av P cJ)))
noncomputable def BV(cal:Cal)(k:Nat)(m1:Nat):XR:=(upX 1 (rx cal k m1) (vZ cal k))
noncomputable def K80_prrlrllrrll(cal:Cal)(k:Nat)(m1:Nat):KR:=(cutK (Lv.a (Lv.a (Lv.b (Lv.b (Lv.a (Lv.a (Lv.b (Lv.a (Lv.b (Lv.b (A 80))))))))))).c (ay P cal (aw P cal m1) none 80 (cR (cL (cL (cR (cR (cL (cL (cR (cL (cR (cR iK))))))))))) (Lv.b (Lv.a (Lv.a (Lv.b (Lv.b (Lv.a (Lv.a (Lv.b (Lv.a (Lv.b (Lv.b (A 80)))))))))))) (rx cal k m1) (BV cal k m1) (av P cJ)))
noncomputable def K80_prrlrllrrllr(cal:Cal)(k:Nat)(m1:Nat):KR:=(cutK (Lv.b (Lv.a (Lv.a (Lv.b (Lv.b (Lv.a (Lv.a (Lv.b (Lv.a (Lv.b (Lv.b (A 80)))))))))))).c (ay P cal (aw P cal m1) none 80 (cR (cR (cL (cL (cR (cR (cL (cL (cR (cL (cR (cR iK)))))))))))) (Lv.b (Lv.b (Lv.a (Lv.a (Lv.b (Lv.b (Lv.a (Lv.a (Lv.b (Lv.a (Lv.b (Lv.b (A 80))))))))))))) (rx cal k m1) (BV cal k m1) (av P cJ)))
noncomputable def jz(cal:Cal)(k:Nat)(m1:Nat):XR:=(upX 2 (rx cal k m1) (BV cal k m1))
noncomputable def qX(cal:Cal)(k:Nat)(m1:Nat)(m2:Nat):KR:=(fun T H n D=>aw P cal m2 (Lv.a (Lv.b (Lv.b (Lv.a (Lv.a (Lv.b (Lv.b (Lv.a (Lv.a (Lv.b (Lv.a (Lv.b (Lv.b (A 80)))))))))))))) none 80 (cL (cR (cR (cL (cL (cR (cR (cL (cL (cR (cL (cR (cR iK))))))))))))) (rx cal k m1) (jz cal k m1) (av P cJ) (cutT (Lv.a (Lv.b (Lv.b (Lv.a (Lv.a (Lv.b (Lv.b (Lv.a (Lv.a (Lv.b (Lv.a (Lv.b (Lv.b (A 80)))))))))))))).c T) H n D)
noncomputable def K80_prrlrllrrllrrll(cal:Cal)(k:Nat)(m1:Nat)(m2:Nat):KR:=(cutK (Lv.a (Lv.a (Lv.b (Lv.b (Lv.a (Lv.a (Lv.b (Lv.b (Lv.a (Lv.a (Lv.b (Lv.a (Lv.b (Lv.b (A 80))))))))))))))).c (ay P cal (aw P cal m2) none 80 (cR (cL (cL (cR (cR (cL (cL (cR (cR (cL (cL (cR (cL (cR (cR iK))))))))))))))) (Lv.b (Lv.a (Lv.a (Lv.b (Lv.b (Lv.a (Lv.a (Lv.b (Lv.b (Lv.a (Lv.a (Lv.b (Lv.a (Lv.b (Lv.b (A 80)))))))))))))))) (qX cal k m1 m2) (jz cal k m1) (av P cJ)))
noncomputable def K80_prrlrllrrllrrllr(cal:Cal)(k:Nat)(m1:Nat)(m2:Nat):KR:=(cutK (Lv.b (Lv.a (Lv.a (Lv.b (Lv.b (Lv.a (Lv.a (Lv.b (Lv.b (Lv.a (Lv.a (Lv.b (Lv.a (Lv.b (Lv.b (A 80)))))))))))))))).c (ay P cal (aw P cal m2) none 80 (cR (cR (cL (cL (cR (cR (cL (cL (cR (cR (cL (cL (cR (cL (cR (cR iK)))))))))))))))) (Lv.b (Lv.b (Lv.a (Lv.a (Lv.b (Lv.b (Lv.a (Lv.a (Lv.b (Lv.b (Lv.a (Lv.a (Lv.b (Lv.a (Lv.b (Lv.b (A 80))))))))))))))))) (qX cal k m1 m2) (jz cal k m1) (av P cJ)))
noncomputable def K80_prrlrllrrllrrllrr(cal:Cal)(k:Nat)(m1:Nat)(m2:Nat):KR:=(cutK (Lv.b (Lv.b (Lv.a (Lv.a (Lv.b (Lv.b (Lv.a (Lv.a (Lv.b (Lv.b (Lv.a (Lv.a (Lv.b (Lv.a (Lv.b (Lv.b (A 80))))))))))))))))).c (ay P cal (aw P cal m2) none 80 (cR (cR (cR (cL (cL (cR (cR (cL (cL (cR (cR (cL (cL (cR (cL (cR (cR iK))))))))))))))))) (Lv.b (Lv.b (Lv.b (Lv.a (Lv.a (Lv.b (Lv.b (Lv.a (Lv.a (Lv.b (Lv.b (Lv.a (Lv.a (Lv.b (Lv.a (Lv.b (Lv.b (A 80)))))))))))))))))) (qX cal k m1 m2) (jz cal k m1) (av P cJ)))
noncomputable def K80_pxrrlrllrrllrrllrrl(cal:Cal)(k:Nat)(m1:Nat)(m2:Nat):XR:=(upX 3 (K80_prrlrllrrllrrllrr cal k m1 m2) (jz cal k m1))
noncomputable def K80_prrlrllrrllrrllrrll(cal:Cal)(k:Nat)(m1:Nat)(m2:Nat):KR:=(cutK (Lv.a (Lv.a (Lv.b (Lv.b (Lv.a (Lv.a (Lv.b (Lv.b (Lv.a (Lv.a (Lv.b (Lv.b (Lv.a (Lv.a (Lv.b (Lv.a (Lv.b (Lv.b (A 80))))))))))))))))))).c (ay P cal (aw P cal m2) none 80 (cR (cL (cL (cR (cR (cL (cL (cR (cR (cL (cL (cR (cR (cL (cL (cR (cL (cR (cR iK))))))))))))))))))) (Lv.b (Lv.a (Lv.a (Lv.b (Lv.b (Lv.a (Lv.a (Lv.b (Lv.b (Lv.a (Lv.a (Lv.b (Lv.b (Lv.a (Lv.a (Lv.b (Lv.a (Lv.b (Lv.b (A 80)))))))))))))))))))) (K80_prrlrllrrllrrllrr cal k m1 m2) (K80_pxrrlrllrrllrrllrrl cal k m1 m2) (av P cJ)))
noncomputable def UK(cal:Cal)(k:Nat):KR:=(cutK (Lv.b (Lv.b (Lv.b (A 80)))).c (ay P cal (aw P cal k) none 80 (cR (cR (cR (cR iK)))) (Lv.b (Lv.b (Lv.b (Lv.b (A 80))))) (av P cJ) X0 (av P cJ)))
noncomputable def K80_prrrl(cal:Cal)(k:Nat):KR:=(cutK (Lv.a (Lv.b (Lv.b (Lv.b (A 80))))).c (ay P cal (aw P cal k) none 80 (cR (cL (cR (cR (cR iK))))) (Lv.b (Lv.a (Lv.b (Lv.b (Lv.b (A 80)))))) (UK cal k) X0 (av P cJ)))
noncomputable def tx(cal:Cal)(k:Nat):XR:=(upX 4 (UK cal k) X0)
noncomputable def FJ(cal:Cal)(k:Nat)(m1:Nat):KR:=(fun T H n D=>aw P cal m1 (Lv.a (Lv.b (Lv.a (Lv.b (Lv.b (Lv.b (A 80))))))) none 80 (cL (cR (cL (cR (cR (cR iK)))))) (UK cal k) (tx cal k) (av P cJ) (cutT (Lv.a (Lv.b (Lv.a (Lv.b (Lv.b (Lv.b (A 80))))))).c T) H n D)
noncomputable def K80_prrrlrll(cal:Cal)(k:Nat)(m1:Nat):KR:=(cutK (Lv.a (Lv.a (Lv.b (Lv.a (Lv.b (Lv.b (Lv.b (A 80)))))))).c (ay P cal (aw P cal m1) none 80 (cR (cL (cL (cR (cL (cR (cR (cR iK)))))))) (Lv.b (Lv.a (Lv.a (Lv.b (Lv.a (Lv.b (Lv.b (Lv.b (A 80))))))))) (FJ cal k m1) (tx cal k) (av P cJ)))
noncomputable def K80_prrrlrllr(cal:Cal)(k:Nat)(m1:Nat):KR:=(cutK (Lv.b (Lv.a (Lv.a (Lv.b (Lv.a (Lv.b (Lv.b (Lv.b (A 80))))))))).c (ay P cal (aw P cal m1) none 80 (cR (cR (cL (cL (cR (cL (cR (cR (cR iK))))))))) (Lv.b (Lv.b (Lv.a (Lv.a (Lv.b (Lv.a (Lv.b (Lv.b (Lv.b (A 80)))))))))) (FJ cal k m1) (tx cal k) (av P cJ)))
noncomputable def xZ(cal:Cal)(k:Nat)(m1:Nat):KR:=(cutK (Lv.b (Lv.b (Lv.a (Lv.a (Lv.b (Lv.a (Lv.b (Lv.b (Lv.b (A 80)))))))))).c (ay P cal (aw P cal m1) none 80 (cR (cR (cR (cL (cL (cR (cL (cR (cR (cR iK)))))))))) (Lv.b (Lv.b (Lv.b (Lv.a (Lv.a (Lv.b (Lv.a (Lv.b (Lv.b (Lv.b (A 80))))))))))) (FJ cal k m1) (tx cal k) (av P cJ)))
noncomputable def zX(cal:Cal)(k:Nat)(m1:Nat):XR:=(upX 5 (xZ cal k m1) (tx cal k))
noncomputable def K80_prrrlrllrrll(cal:Cal)(k:Nat)(m1:Nat):KR:=(cutK (Lv.a (Lv.a (Lv.b (Lv.b (Lv.a (Lv.a (Lv.b (Lv.a (Lv.b (Lv.b (Lv.b (A 80)))))))))))).c (ay P cal (aw P cal m1) none 80 (cR (cL (cL (cR (cR (cL (cL (cR (cL (cR (cR (cR iK)))))))))))) (Lv.b (Lv.a (Lv.a (Lv.b (Lv.b (Lv.a (Lv.a (Lv.b (Lv.a (Lv.b (Lv.b (Lv.b (A 80))))))))))))) (xZ cal k m1) (zX cal k m1) (av P cJ)))
noncomputable def K80_prrrlrllrrllr(cal:Cal)(k:Nat)(m1:Nat):KR:=(cutK (Lv.b (Lv.a (Lv.a (Lv.b (Lv.b (Lv.a (Lv.a (Lv.b (Lv.a (Lv.b (Lv.b (Lv.b (A 80))))))))))))).c (ay P cal (aw P cal m1) none 80 (cR (cR (cL (cL (cR (cR (cL (cL (cR (cL (cR (cR (cR iK))))))))))))) (Lv.b (Lv.b (Lv.a (Lv.a (Lv.b (Lv.b (Lv.a (Lv.a (Lv.b (Lv.a (Lv.b (Lv.b (Lv.b (A 80)))))))))))))) (xZ cal k m1) (zX cal k m1) (av P cJ)))
noncomputable def K80_prrrlrllrrllrrl(cal:Cal)(k:Nat)(m1:Nat):KR:=(cutK (Lv.a (Lv.b (Lv.b (Lv.a (Lv.a (Lv.b (Lv.b (Lv.a (Lv.a (Lv.b (Lv.a (Lv.b (Lv.b (Lv.b (A 80))))))))))))))).c (ay P cal (aw P cal m1) none 80 (cR (cL (cR (cR (cL (cL (cR (cR (cL (cL (cR (cL (cR (cR (cR iK))))))))))))))) (Lv.b (Lv.a (Lv.b (Lv.b (Lv.a (Lv.a (Lv.b (Lv.b (Lv.a (Lv.a (Lv.b (Lv.a (Lv.b (Lv.b (Lv.b (A 80)))))))))))))))) (xZ cal k m1) (zX cal k m1) (av P cJ)))
noncomputable def K80_prrrr(cal:Cal)(k:Nat):KR:=(cutK (Lv.b (Lv.b (Lv.b (Lv.b (A 80))))).c (ay P cal (aw P cal k) none 80 (cR (cR (cR (cR (cR iK))))) (Lv.b (Lv.b (Lv.b (Lv.b (Lv.b (A 80)))))) (av P cJ) X0 (av P cJ)))
noncomputable def E80_2(cal:Cal)(k m1 m2:Nat):KR:=ay P cal (aw P cal m2) none 80 (cL (cL (cR (cR (cL (cL (cR (cR (cL (cL (cR (cL (cR (cR iK)))))))))))))) (Lv.a (Lv.a (Lv.b (Lv.b (Lv.a (Lv.a (Lv.b (Lv.b (Lv.a (Lv.a (Lv.b (Lv.a (Lv.b (Lv.b (A 80))))))))))))))) (qX cal k m1 m2) (jz cal k m1) (av P cJ)
noncomputable def R80_2(cal:Cal)(k m1 m2:Nat):V8:=fun u0 u5 u12 u13 u14 u18 u19 u20 H n=>aw P cal m2 (Lv.a (Lv.b (Lv.b (Lv.a (Lv.a (Lv.b (Lv.b (Lv.a (Lv.a (Lv.b (Lv.a (Lv.b (Lv.b (A 80)))))))))))))) none 80 (cL (cR (cR (cL (cL (cR (cR (cL (cL (cR (cL (cR (cR iK))))))))))))) (rx cal k m1) (jz cal k m1) (av P cJ) (Tr.set (Tr.set (Tr.set (Tr.set (Tr.set (Tr.set (Tr.set (Tr.set Tr.nil 20 (some u20)) 19 (some u19)) 18 (some u18)) 14 (some u14)) 13 (some u13)) 12 (some u12)) 5 (some u5)) 0 (some u0)) H n []
noncomputable def E80_3(cal:Cal)(k m1:Nat):KR:=ay P cal (aw P cal m1) none 80 (cL (cL (cR (cL (cR (cR (cR iK))))))) (Lv.a (Lv.a (Lv.b (Lv.a (Lv.b (Lv.b (Lv.b (A 80)))))))) (FJ cal k m1) (tx cal k) (av P cJ)
noncomputable def R80_3(cal:Cal)(k m1:Nat):V4:=fun u5 u37 u38 u39 H n=>aw P cal m1 (Lv.a (Lv.b (Lv.a (Lv.b (Lv.b (Lv.b (A 80))))))) none 80 (cL (cR (cL (cR (cR (cR iK)))))) (UK cal k) (tx cal k) (av P cJ) (Tr.set (Tr.set (Tr.set (Tr.set Tr.nil 39 (some u39)) 38 (some u38)) 37 (some u37)) 5 (some u5)) H n []
noncomputable def E80_1(cal:Cal)(k m1:Nat):KR:=ay P cal (aw P cal m1) none 80 (cL (cL (cR (cL (cR (cR iK)))))) (Lv.a (Lv.a (Lv.b (Lv.a (Lv.b (Lv.b (A 80))))))) (Kz cal k m1) (vZ cal k) (av P cJ)
noncomputable def Rz(cal:Cal)(k m1:Nat):V5:=fun u0 u5 u12 u13 u14 H n=>aw P cal m1 (Lv.a (Lv.b (Lv.a (Lv.b (Lv.b (A 80)))))) none 80 (cL (cR (cL (cR (cR iK))))) (qdw cal k) (vZ cal k) (av P cJ) (Tr.set (Tr.set (Tr.set (Tr.set (Tr.set Tr.nil 14 (some u14)) 13 (some u13)) 12 (some u12)) 5 (some u5)) 0 (some u0)) H n []
noncomputable def B80_2(cal:Cal)(k m1 m2:Nat)(b1:V5)(b2:V8)(u0 u5 u12 u13 u14 u18 u19 u20:Value)(H:Hp)(n:Nat):Res:=
binK P .lss 3 (.tmp 20) (.tmp 19) u20 u19 fun v_g=>
ifK v_g (
aq (aV P 44 u18 u20) fun v_i=>
aq (aW v_i) fun a_k=>aq (az P H 3 a_k) fun v_j=>
aq (aV P 118 u5 u20) fun v_o=>
aq (aW v_o) fun a_q=>aq (az P H 3 a_q) fun v_p=>
binK P .add 3 (.tmp 27) (.tmp 28) v_p v_j fun v_s=>
aq (aV P 118 u5 u20) fun v_t=>
aq (bV P 3 v_t v_s H) fun H_v=>
binK P .add 3 (.tmp 20) (.const (.int .i64 1)) u20 (.int .i64 1) fun v_w=>
b2 u0 u5 u12 u13 u14 u18 u19 v_w H_v n) (
binK P .add 3 (.tmp 14) (.const (.int .i64 1)) u14 (.int .i64 1) fun v_y=>
b1 u0 u5 u12 u13 v_y H n)
noncomputable def C80_2(cal:Cal)(k m1 m2:Nat)(b1:V5)(b2:V8)(u0 u5 u12 u13 u14 u18 u19 u20:Value)(H:Hp)(n:Nat):Res:=B80_2 cal k m1 m2 b1 b2 u0 u5 u12 u13 u14 u18 u19 u20 H n
noncomputable def S80_2(cal:Cal)(k m1:Nat)(b1:V5):Nat→V8:=fun m=>Nat.rec (motive:=fun _=>V8) (C80_2 cal k m1 0 b1 (fun _ _ _ _ _ _ _ _ _ _=>none)) (fun m ih=>C80_2 cal k m1 (m+1) b1 ih) m
theorem h80_2(cal:Cal)(k m1 m2:Nat)(u0 u5 u12 u13 u14 u18 u19 u20:Value)(H:Hp)(n:Nat):labK (E80_2 cal k m1 m2) (Tr.set (Tr.set (Tr.set (Tr.set (Tr.set (Tr.set (Tr.set (Tr.set Tr.nil 20 (some u20)) 19 (some u19)) 18 (some u18)) 14 (some u14)) 13 (some u13)) 12 (some u12)) 5 (some u5)) 0 (some u0)) H n []=C80_2 cal k m1 m2 (Rz cal k m1) (R80_2 cal k m1 m2) u0 u5 u12 u13 u14 u18 u19 u20 H n:=by
 refine Eq.trans (b:=B80_2 cal k m1 m2 (Rz cal k m1) (R80_2 cal k m1 m2) u0 u5 u12 u13 u14 u18 u19 u20 H n) (by kernel_rfl) ?_
 rw[C80_2]
theorem q80_2(cal:Cal)(k m1:Nat):∀(m:Nat) (u0 u5 u12 u13 u14 u18 u19 u20:Value) (H:Hp) (n:Nat),labK (E80_2 cal k m1 m) (Tr.set (Tr.set (Tr.set (Tr.set (Tr.set (Tr.set (Tr.set (Tr.set Tr.nil 20 (some u20)) 19 (some u19)) 18 (some u18)) 14 (some u14)) 13 (some u13)) 12 (some u12)) 5 (some u5)) 0 (some u0)) H n []=S80_2 cal k m1 (Rz cal k m1) m u0 u5 u12 u13 u14 u18 u19 u20 H n
 | 0,u0,u5,u12,u13,u14,u18,u19,u20,H,n=>by
  rw[h80_2]
  have e:R80_2 cal k m1 0=fun _ _ _ _ _ _ _ _ _ _=>none:=by funext u0 u5 u12 u13 u14 u18 u19 u20 H n; kernel_rfl
  rw[e]; rfl
 | m+1,u0,u5,u12,u13,u14,u18,u19,u20,H,n=>by
  rw[h80_2]
  have e:R80_2 cal k m1 (m+1)=S80_2 cal k m1 (Rz cal k m1) m:=by
   funext u0 u5 u12 u13 u14 u18 u19 u20 H n
   have e:R80_2 cal k m1 (m+1) u0 u5 u12 u13 u14 u18 u19 u20 H n=labK (E80_2 cal k m1 m) (Tr.set (Tr.set (Tr.set (Tr.set (Tr.set (Tr.set (Tr.set (Tr.set Tr.nil 20 (some u20)) 19 (some u19)) 18 (some u18)) 14 (some u14)) 13 (some u13)) 12 (some u12)) 5 (some u5)) 0 (some u0)) H n []:=by kernel_rfl
   rw[e]; exact q80_2 ..
  rw[e]; rfl
noncomputable def B80_3(cal:Cal)(k m1:Nat)(b3:V4)(u5 u37 u38 u39:Value)(H:Hp)(n:Nat):Res:=
binK P .lss 3 (.tmp 39) (.tmp 38) u39 u38 fun v_18=>
ifK v_18 (
aq (aV P 31 u37 u39) fun v_1a=>
aq (aW v_1a) fun a_1c=>aq (az P H 90 a_1c) fun v_1b=>
dj P 90 H n fun v_1d H_1e n_1f=>
aq (bV P 90 v_1d v_1b H_1e) fun H_1i=>
aq (aV P 118 u5 u39) fun v_1k=>
aq (aW v_1k) fun a_1l=>aq (az P H_1i 3 a_1l) fun v_1m=>
aq (ax P 90 v_1d 0) fun v_1n=>
aq (aW v_1n) fun a_1o=>aq (az P H_1i 3 a_1o) fun v_1p=>
binK P .lss 3 (.tmp 46) (.tmp 48) v_1m v_1p fun v_1q=>
dw v_1q false (fun k_1s=>
k_1s u39 .p H_1i n_1f) .p H_1i n_1f fun v_1t x_1u H_1v n_1w=>
dw v_1q false (fun k_1y=>
aq (aV P 118 u5 v_1t) fun v_23=>
k_1y v_23 .p H_1v n_1w) .p H_1v n_1w fun v_1z x_20 H_21 n_22=>
dw v_1q false (fun k_24=>
aq (aW v_1z) fun a_29=>aq (az P H_21 3 a_29) fun v_2a=>
k_24 v_2a (.l 3 a_29) H_21 n_22) .p H_21 n_22 fun v_25 x_26 H_27 n_28=>
dw v_1q false (fun k_2b=>
aq (ax P 90 v_1d 1) fun v_2g=>
k_2b v_2g .p H_27 n_28) .p H_27 n_28 fun v_2c x_2d H_2e n_2f=>
dw v_1q false (fun k_2h=>
aq (aW v_2c) fun a_2m=>aq (az P H_2e 3 a_2m) fun v_2n=>
k_2h v_2n (.l 3 a_2m) H_2e n_2f) .p H_2e n_2f fun v_2i x_2j H_2k n_2l=>
dw v_1q false (fun k_2o=>
binK P .gtr 3 (.tmp 53) (.tmp 55) v_25 v_2i fun v_2t=>
k_2o v_2t .p H_2k n_2l) .p H_2k n_2l fun v_2p x_2q H_2r n_2s=>
aq (fJ v_1q (.bool true) v_2p) fun v_2u=>
ifK v_2u (
some ((.bool false),H_2r,n_2s)) (
binK P .add 3 (.tmp 39) (.const (.int .i64 1)) u39 (.int .i64 1) fun v_2w=>
b3 u5 u37 u38 v_2w H_2r n_2s)) (
some ((.bool true),H,n))
noncomputable def C80_3(cal:Cal)(k m1:Nat)(b3:V4)(u5 u37 u38 u39:Value)(H:Hp)(n:Nat):Res:=B80_3 cal k m1 b3 u5 u37 u38 u39 H n
noncomputable def S80_3(cal:Cal)(k:Nat):Nat→V4:=fun m=>Nat.rec (motive:=fun _=>V4) (C80_3 cal k 0 (fun _ _ _ _ _ _=>none)) (fun m ih=>C80_3 cal k (m+1) ih) m
theorem h80_3(cal:Cal)(k m1:Nat)(u5 u37 u38 u39:Value)(H:Hp)(n:Nat):labK (E80_3 cal k m1) (Tr.set (Tr.set (Tr.set (Tr.set Tr.nil 39 (some u39)) 38 (some u38)) 37 (some u37)) 5 (some u5)) H n []=C80_3 cal k m1 (R80_3 cal k m1) u5 u37 u38 u39 H n:=by
 refine Eq.trans (b:=B80_3 cal k m1 (R80_3 cal k m1) u5 u37 u38 u39 H n) (by kernel_rfl) ?_
 rw[C80_3]
theorem q80_3(cal:Cal)(k:Nat):∀(m:Nat) (u5 u37 u38 u39:Value) (H:Hp) (n:Nat),labK (E80_3 cal k m) (Tr.set (Tr.set (Tr.set (Tr.set Tr.nil 39 (some u39)) 38 (some u38)) 37 (some u37)) 5 (some u5)) H n []=S80_3 cal k m u5 u37 u38 u39 H n
 | 0,u5,u37,u38,u39,H,n=>by
  rw[h80_3]
  have e:R80_3 cal k 0=fun _ _ _ _ _ _=>none:=by funext u5 u37 u38 u39 H n; kernel_rfl
  rw[e]; rfl
 | m+1,u5,u37,u38,u39,H,n=>by
  rw[h80_3]
  have e:R80_3 cal k (m+1)=S80_3 cal k m:=by
   funext u5 u37 u38 u39 H n
   have e:R80_3 cal k (m+1) u5 u37 u38 u39 H n=labK (E80_3 cal k m) (Tr.set (Tr.set (Tr.set (Tr.set Tr.nil 39 (some u39)) 38 (some u38)) 37 (some u37)) 5 (some u5)) H n []:=by kernel_rfl
   rw[e]; exact q80_3 ..
  rw[e]; rfl
noncomputable def B80_1(cal:Cal)(k m1:Nat)(j2:V8)(j3:V4)(b1:V5)(u0 u5 u12 u13 u14:Value)(H:Hp)(n:Nat):Res:=
binK P .lss 3 (.tmp 14) (.tmp 13) u14 u13 fun v_8=>
ifK v_8 (
aq (aV P 59 u12 u14) fun v_9=>
aq (aW v_9) fun a_b=>aq (az P H 44 a_b) fun v_a=>
aq (lenV P 44 v_a) fun v_e=>
j2 u0 u5 u12 u13 u14 v_a v_e (.int .i64 0) H n) (
aq (nilV u0) fun v_11=>
aq (ax P 115 v_11 0) fun v_12=>
aq (ax P 35 v_12 0) fun v_13=>
aq (aW v_13) fun a_15=>aq (az P H 31 a_15) fun v_14=>
aq (lenV P 31 v_14) fun v_16=>
j3 u5 v_14 v_16 (.int .i64 0) H n)
noncomputable def C80_1(cal:Cal)(k m1:Nat)(b1:V5)(u0 u5 u12 u13 u14:Value)(H:Hp)(n:Nat):Res:=B80_1 cal k m1 (S80_2 cal k m1 b1 m1) (S80_3 cal k k) b1 u0 u5 u12 u13 u14 H n
noncomputable def S80_1(cal:Cal)(k:Nat):Nat→V5:=fun m=>Nat.rec (motive:=fun _=>V5) (C80_1 cal k 0 (fun _ _ _ _ _ _ _=>none)) (fun m ih=>C80_1 cal k (m+1) ih) m
theorem h80_1(cal:Cal)(k m1:Nat)(u0 u5 u12 u13 u14:Value)(H:Hp)(n:Nat):labK (E80_1 cal k m1) (Tr.set (Tr.set (Tr.set (Tr.set (Tr.set Tr.nil 14 (some u14)) 13 (some u13)) 12 (some u12)) 5 (some u5)) 0 (some u0)) H n []=C80_1 cal k m1 (Rz cal k m1) u0 u5 u12 u13 u14 H n:=by
 refine Eq.trans (b:=B80_1 cal k m1 (fun u0 u5 u12 u13 u14 u18 u19 u20 H n=>labK (E80_2 cal k m1 m1) (Tr.set (Tr.set (Tr.set (Tr.set (Tr.set (Tr.set (Tr.set (Tr.set Tr.nil 20 (some u20)) 19 (some u19)) 18 (some u18)) 14 (some u14)) 13 (some u13)) 12 (some u12)) 5 (some u5)) 0 (some u0)) H n []) (fun u5 u37 u38 u39 H n=>labK (E80_3 cal k k) (Tr.set (Tr.set (Tr.set (Tr.set Tr.nil 39 (some u39)) 38 (some u38)) 37 (some u37)) 5 (some u5)) H n []) (Rz cal k m1) u0 u5 u12 u13 u14 H n) (by kernel_rfl) ?_
 rw[C80_1]
 have e2:(fun u0 u5 u12 u13 u14 u18 u19 u20 H n=>labK (E80_2 cal k m1 m1) (Tr.set (Tr.set (Tr.set (Tr.set (Tr.set (Tr.set (Tr.set (Tr.set Tr.nil 20 (some u20)) 19 (some u19)) 18 (some u18)) 14 (some u14)) 13 (some u13)) 12 (some u12)) 5 (some u5)) 0 (some u0)) H n [])=(S80_2 cal k m1 (Rz cal k m1) m1):=by funext u0 u5 u12 u13 u14 u18 u19 u20 H n; exact q80_2 ..
 rw[e2]
 have e3:(fun u5 u37 u38 u39 H n=>labK (E80_3 cal k k) (Tr.set (Tr.set (Tr.set (Tr.set Tr.nil 39 (some u39)) 38 (some u38)) 37 (some u37)) 5 (some u5)) H n [])=(S80_3 cal k k):=by funext u5 u37 u38 u39 H n; exact q80_3 ..
 rw[e3]
theorem q80_1(cal:Cal)(k:Nat):∀(m:Nat) (u0 u5 u12 u13 u14:Value) (H:Hp) (n:Nat),labK (E80_1 cal k m) (Tr.set (Tr.set (Tr.set (Tr.set (Tr.set Tr.nil 14 (some u14)) 13 (some u13)) 12 (some u12)) 5 (some u5)) 0 (some u0)) H n []=S80_1 cal k m u0 u5 u12 u13 u14 H n
 | 0,u0,u5,u12,u13,u14,H,n=>by
  rw[h80_1]
  have e:Rz cal k 0=fun _ _ _ _ _ _ _=>none:=by funext u0 u5 u12 u13 u14 H n; kernel_rfl
  rw[e]; rfl
 | m+1,u0,u5,u12,u13,u14,H,n=>by
  rw[h80_1]
  have e:Rz cal k (m+1)=S80_1 cal k m:=by
   funext u0 u5 u12 u13 u14 H n
   have e:Rz cal k (m+1) u0 u5 u12 u13 u14 H n=labK (E80_1 cal k m) (Tr.set (Tr.set (Tr.set (Tr.set (Tr.set Tr.nil 14 (some u14)) 13 (some u13)) 12 (some u12)) 5 (some u5)) 0 (some u0)) H n []:=by kernel_rfl
   rw[e]; exact q80_1 ..
  rw[e]; rfl
noncomputable def B80_0(cal:Cal)(k:Nat)(j1:V5)(v0 v1:Value)(H:Hp)(n:Nat):Res:=
dj P 118 H n fun v_2 H_3 n_4=>
aq (lenV P 59 v1) fun v_6=>
j1 v0 v_2 v1 v_6 (.int .i64 0) H_3 n_4
noncomputable def C80_0(cal:Cal)(k:Nat)(v0 v1:Value)(H:Hp)(n:Nat):Res:=B80_0 cal k (S80_1 cal k k) v0 v1 H n
theorem h80_0(cal:Cal)(k:Nat)(v0 v1:Value)(H:Hp)(n:Nat):aK P cal A (k+1) 80 [v0,v1] H n=C80_0 cal k v0 v1 H n:=by
 have h:aK P cal A (k+1) 80 [v0,v1] H n=B80_0 cal k (fun u0 u5 u12 u13 u14 H n=>labK (E80_1 cal k k) (Tr.set (Tr.set (Tr.set (Tr.set (Tr.set Tr.nil 14 (some u14)) 13 (some u13)) 12 (some u12)) 5 (some u5)) 0 (some u0)) H n []) v0 v1 H n:=by
  rw[bX (fn:=Go.Proofs.Try.f80) (c:=iK) (rs:=cJ) (by kernel_rfl) (by kernel_rfl) (by kernel_rfl) (by kernel_rfl)]
  kernel_rfl
 rw[h,C80_0]
 have e1:(fun u0 u5 u12 u13 u14 H n=>labK (E80_1 cal k k) (Tr.set (Tr.set (Tr.set (Tr.set (Tr.set Tr.nil 14 (some u14)) 13 (some u13)) 12 (some u12)) 5 (some u5)) 0 (some u0)) H n [])=(S80_1 cal k k):=by funext u0 u5 u12 u13 u14 H n; exact q80_1 ..
 rw[e1]
noncomputable def xK:Code:=cW 89
noncomputable def jY:List ResultVar:=eX 89
noncomputable def K89_p(cal:Cal)(k:Nat):KR:=(cutK (A 89).c (ay P cal (aw P cal k) none 89 (cR xK) (Lv.b (A 89)) (av P jY) X0 (av P jY)))
noncomputable def K89_pr(cal:Cal)(k:Nat):KR:=(cutK (Lv.b (A 89)).c (ay P cal (aw P cal k) none 89 (cR (cR xK)) (Lv.b (Lv.b (A 89))) (av P jY) X0 (av P jY)))
noncomputable def K89_prl(cal:Cal)(k:Nat):KR:=(cutK (Lv.a (Lv.b (A 89))).c (ay P cal (aw P cal k) none 89 (cR (cL (cR xK))) (Lv.b (Lv.a (Lv.b (A 89)))) (K89_pr cal k) X0 (av P jY)))
noncomputable def zY(cal:Cal)(k:Nat):XR:=(upX 0 (K89_pr cal k) X0)
noncomputable def XQ(cal:Cal)(k:Nat)(m1:Nat):KR:=(fun T H n D=>aw P cal m1 (Lv.a (Lv.b (Lv.a (Lv.b (A 89))))) none 89 (cL (cR (cL (cR xK)))) (K89_pr cal k) (zY cal k) (av P jY) (cutT (Lv.a (Lv.b (Lv.a (Lv.b (A 89))))).c T) H n D)
noncomputable def K89_prlrll(cal:Cal)(k:Nat)(m1:Nat):KR:=(cutK (Lv.a (Lv.a (Lv.b (Lv.a (Lv.b (A 89)))))).c (ay P cal (aw P cal m1) none 89 (cR (cL (cL (cR (cL (cR xK)))))) (Lv.b (Lv.a (Lv.a (Lv.b (Lv.a (Lv.b (A 89))))))) (XQ cal k m1) (zY cal k) (av P jY)))
noncomputable def K89_prlrlll(cal:Cal)(k:Nat)(m1:Nat):KR:=(cutK (Lv.a (Lv.a (Lv.a (Lv.b (Lv.a (Lv.b (A 89))))))).c (ay P cal (aw P cal m1) none 89 (cR (cL (cL (cL (cR (cL (cR xK))))))) (Lv.b (Lv.a (Lv.a (Lv.a (Lv.b (Lv.a (Lv.b (A 89)))))))) (K89_prlrll cal k m1) (zY cal k) (av P jY)))
noncomputable def FQ(cal:Cal)(k:Nat)(m1:Nat):KR:=(cutK (Lv.b (Lv.a (Lv.a (Lv.b (Lv.a (Lv.b (A 89))))))).c (ay P cal (aw P cal m1) none 89 (cR (cR (cL (cL (cR (cL (cR xK))))))) (Lv.b (Lv.b (Lv.a (Lv.a (Lv.b (Lv.a (Lv.b (A 89)))))))) (XQ cal k m1) (zY cal k) (av P jY)))
noncomputable def Gk(cal:Cal)(k:Nat)(m1:Nat):XR:=(upX 1 (FQ cal k m1) (zY cal k))
noncomputable def K89_prlrllrll(cal:Cal)(k:Nat)(m1:Nat):KR:=(cutK (Lv.a (Lv.a (Lv.b (Lv.a (Lv.a (Lv.b (Lv.a (Lv.b (A 89))))))))).c (ay P cal (aw P cal m1) none 89 (cR (cL (cL (cR (cL (cL (cR (cL (cR xK))))))))) (Lv.b (Lv.a (Lv.a (Lv.b (Lv.a (Lv.a (Lv.b (Lv.a (Lv.b (A 89)))))))))) (FQ cal k m1) (Gk cal k m1) (av P jY)))
noncomputable def K89_prlrllrllr(cal:Cal)(k:Nat)(m1:Nat):KR:=(cutK (Lv.b (Lv.a (Lv.a (Lv.b (Lv.a (Lv.a (Lv.b (Lv.a (Lv.b (A 89)))))))))).c (ay P cal (aw P cal m1) none 89 (cR (cR (cL (cL (cR (cL (cL (cR (cL (cR xK)))))))))) (Lv.b (Lv.b (Lv.a (Lv.a (Lv.b (Lv.a (Lv.a (Lv.b (Lv.a (Lv.b (A 89))))))))))) (FQ cal k m1) (Gk cal k m1) (av P jY)))
noncomputable def K89_prlrllrllrrl(cal:Cal)(k:Nat)(m1:Nat):KR:=(cutK (Lv.a (Lv.b (Lv.b (Lv.a (Lv.a (Lv.b (Lv.a (Lv.a (Lv.b (Lv.a (Lv.b (A 89)))))))))))).c (ay P cal (aw P cal m1) none 89 (cR (cL (cR (cR (cL (cL (cR (cL (cL (cR (cL (cR xK)))))))))))) (Lv.b (Lv.a (Lv.b (Lv.b (Lv.a (Lv.a (Lv.b (Lv.a (Lv.a (Lv.b (Lv.a (Lv.b (A 89))))))))))))) (FQ cal k m1) (Gk cal k m1) (av P jY)))
noncomputable def K89_prr(cal:Cal)(k:Nat):KR:=(cutK (Lv.b (Lv.b (A 89))).c (ay P cal (aw P cal k) none 89 (cR (cR (cR xK))) (Lv.b (Lv.b (Lv.b (A 89)))) (av P jY) X0 (av P jY)))
noncomputable def E89_1(cal:Cal)(k m1:Nat):KR:=ay P cal (aw P cal m1) none 89 (cL (cL (cR (cL (cR xK))))) (Lv.a (Lv.a (Lv.b (Lv.a (Lv.b (A 89)))))) (XQ cal k m1) (zY cal k) (av P jY)
noncomputable def R89_1(cal:Cal)(k m1:Nat):V4:=fun u1 u2 u3 u7 H n=>aw P cal m1 (Lv.a (Lv.b (Lv.a (Lv.b (A 89))))) none 89 (cL (cR (cL (cR xK)))) (K89_pr cal k) (zY cal k) (av P jY) (Tr.set (Tr.set (Tr.set (Tr.set Tr.nil 7 (some u7)) 3 (some u3)) 2 (some u2)) 1 (some u1)) H n []
noncomputable def B89_1(cal:Cal)(k m1:Nat)(b1:V4)(u1 u2 u3 u7:Value)(H:Hp)(n:Nat):Res:=
aq (ax P 26 u3 1) fun v_7=>
aq (aW v_7) fun a_9=>aq (az P H 23 a_9) fun v_8=>
aq (lenV P 23 v_8) fun v_a=>
binK P .lss 3 (.tmp 9) (.tmp 12) u7 v_a fun v_b=>
ifK v_b (
aq (ax P 26 u3 1) fun v_c=>
aq (aW v_c) fun a_e=>aq (az P H 23 a_e) fun v_d=>
aq (aV P 23 v_d u7) fun v_g=>
aq (aW v_g) fun a_i=>aq (az P H 102 a_i) fun v_h=>
dj P 102 H n fun v_j H_k n_l=>
aq (bV P 102 v_j v_h H_k) fun H_n=>
aq (ax P 102 v_j 0) fun v_o=>
aq (aW v_o) fun a_q=>aq (az P H_n 3 a_q) fun v_p=>
binK P .eql 3 (.tmp 22) (.tmp 23) v_p u1 fun v_s=>
aX v_s true (fun k_u=>
aq (ax P 102 v_j 1) fun v_y=>
k_u v_y H_n n_l) H_n n_l fun v_v H_w n_x=>
aX v_s true (fun k_z=>
aq (aW v_v) fun a_14=>aq (az P H_w 3 a_14) fun v_13=>
k_z v_13 H_w n_x) H_w n_x fun v_10 H_11 n_12=>
aX v_s true (fun k_15=>
k_15 u2 H_11 n_12) H_11 n_12 fun v_16 H_17 n_18=>
aX v_s true (fun k_1a=>
binK P .eql 3 (.tmp 27) (.tmp 28) v_10 v_16 fun v_1e=>
k_1a v_1e H_17 n_18) H_17 n_18 fun v_1b H_1c n_1d=>
aq (fJ v_s v_1b (.bool false)) fun v_1f=>
aX v_1f false (fun k_1h=>
aq (ax P 102 v_j 0) fun v_1l=>
k_1h v_1l H_1c n_1d) H_1c n_1d fun v_1i H_1j n_1k=>
aX v_1f false (fun k_1m=>
aq (aW v_1i) fun a_1r=>aq (az P H_1j 3 a_1r) fun v_1q=>
k_1m v_1q H_1j n_1k) H_1j n_1k fun v_1n H_1o n_1p=>
aX v_1f false (fun k_1s=>
k_1s u2 H_1o n_1p) H_1o n_1p fun v_1t H_1u n_1v=>
aX v_1f false (fun k_1x=>
binK P .eql 3 (.tmp 33) (.tmp 34) v_1n v_1t fun v_21=>
k_1x v_21 H_1u n_1v) H_1u n_1v fun v_1y H_1z n_20=>
aX v_1f false (fun k_22=>
k_22 v_1y H_1z n_20) H_1z n_20 fun v_23 H_24 n_25=>
aX v_23 true (fun k_27=>
aq (ax P 102 v_j 1) fun v_2b=>
k_27 v_2b H_24 n_25) H_24 n_25 fun v_28 H_29 n_2a=>
aX v_23 true (fun k_2c=>
aq (aW v_28) fun a_2h=>aq (az P H_29 3 a_2h) fun v_2g=>
k_2c v_2g H_29 n_2a) H_29 n_2a fun v_2d H_2e n_2f=>
aX v_23 true (fun k_2i=>
k_2i u1 H_2e n_2f) H_2e n_2f fun v_2j H_2k n_2l=>
aX v_23 true (fun k_2n=>
binK P .eql 3 (.tmp 38) (.tmp 39) v_2d v_2j fun v_2r=>
k_2n v_2r H_2k n_2l) H_2k n_2l fun v_2o H_2p n_2q=>
aX v_1f false (fun k_2s=>
aq (fJ v_23 v_2o (.bool false)) fun v_2w=>
k_2s v_2w H_2p n_2q) H_2p n_2q fun v_2t H_2u n_2v=>
aq (fJ v_1f (.bool true) v_2t) fun v_2x=>
ifK v_2x (
some ((.bool true),H_2u,n_2v)) (
binK P .add 3 (.tmp 14) (.const (.int .i64 1)) u7 (.int .i64 1) fun v_30=>
b1 u1 u2 u3 v_30 H_2u n_2v)) (
some ((.bool false),H,n))
noncomputable def C89_1(cal:Cal)(k m1:Nat)(b1:V4)(u1 u2 u3 u7:Value)(H:Hp)(n:Nat):Res:=B89_1 cal k m1 b1 u1 u2 u3 u7 H n
noncomputable def S89_1(cal:Cal)(k:Nat):Nat→V4:=fun m=>Nat.rec (motive:=fun _=>V4) (C89_1 cal k 0 (fun _ _ _ _ _ _=>none)) (fun m ih=>C89_1 cal k (m+1) ih) m
theorem h89_1(cal:Cal)(k m1:Nat)(u1 u2 u3 u7:Value)(H:Hp)(n:Nat):labK (E89_1 cal k m1) (Tr.set (Tr.set (Tr.set (Tr.set Tr.nil 7 (some u7)) 3 (some u3)) 2 (some u2)) 1 (some u1)) H n []=C89_1 cal k m1 (R89_1 cal k m1) u1 u2 u3 u7 H n:=by
 refine Eq.trans (b:=B89_1 cal k m1 (R89_1 cal k m1) u1 u2 u3 u7 H n) (by kernel_rfl) ?_
 rw[C89_1]
theorem q89_1(cal:Cal)(k:Nat):∀(m:Nat) (u1 u2 u3 u7:Value) (H:Hp) (n:Nat),labK (E89_1 cal k m) (Tr.set (Tr.set (Tr.set (Tr.set Tr.nil 7 (some u7)) 3 (some u3)) 2 (some u2)) 1 (some u1)) H n []=S89_1 cal k m u1 u2 u3 u7 H n
 | 0,u1,u2,u3,u7,H,n=>by
  rw[h89_1]
  have e:R89_1 cal k 0=fun _ _ _ _ _ _=>none:=by funext u1 u2 u3 u7 H n; kernel_rfl
  rw[e]; rfl
 | m+1,u1,u2,u3,u7,H,n=>by
  rw[h89_1]
  have e:R89_1 cal k (m+1)=S89_1 cal k m:=by
   funext u1 u2 u3 u7 H n
   have e:R89_1 cal k (m+1) u1 u2 u3 u7 H n=labK (E89_1 cal k m) (Tr.set (Tr.set (Tr.set (Tr.set Tr.nil 7 (some u7)) 3 (some u3)) 2 (some u2)) 1 (some u1)) H n []:=by kernel_rfl
   rw[e]; exact q89_1 ..
  rw[e]; rfl
noncomputable def B89_0(cal:Cal)(k:Nat)(j1:V4)(v0 v1 v2:Value)(H:Hp)(n:Nat):Res:=
boxK 26 v0 H n fun v_1 H_2 n_3=>
j1 v1 v2 v_1 (.int .i64 0) H_2 n_3
noncomputable def C89_0(cal:Cal)(k:Nat)(v0 v1 v2:Value)(H:Hp)(n:Nat):Res:=B89_0 cal k (S89_1 cal k k) v0 v1 v2 H n
theorem h89_0(cal:Cal)(k:Nat)(v0 v1 v2:Value)(H:Hp)(n:Nat):aK P cal A (k+1) 89 [v0,v1,v2] H n=C89_0 cal k v0 v1 v2 H n:=by
 have h:aK P cal A (k+1) 89 [v0,v1,v2] H n=B89_0 cal k (fun u1 u2 u3 u7 H n=>labK (E89_1 cal k k) (Tr.set (Tr.set (Tr.set (Tr.set Tr.nil 7 (some u7)) 3 (some u3)) 2 (some u2)) 1 (some u1)) H n []) v0 v1 v2 H n:=by
  rw[bX (fn:=Go.Proofs.Try.f89) (c:=xK) (rs:=jY) (by kernel_rfl) (by kernel_rfl) (by kernel_rfl) (by kernel_rfl)]
  kernel_rfl
 rw[h,C89_0]
 have e1:(fun u1 u2 u3 u7 H n=>labK (E89_1 cal k k) (Tr.set (Tr.set (Tr.set (Tr.set Tr.nil 7 (some u7)) 3 (some u3)) 2 (some u2)) 1 (some u1)) H n [])=(S89_1 cal k k):=by funext u1 u2 u3 u7 H n; exact q89_1 ..
 rw[e1]
end Go.Proofs.Ytndkmmelelchcaa.G
