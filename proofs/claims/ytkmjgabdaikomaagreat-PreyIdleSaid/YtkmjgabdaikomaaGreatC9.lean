/- Texts G8 to G9. -/
import Derived.Test.YtkmjgabdaikomaaGreatC8
set_option linter.unusedVariables false
section
open Go Go.Ev
set_option maxRecDepth 1000000
noncomputable section
namespace Go.Proofs.YtkmjgabdaikomaaGreat.G
variable (cal:Cal) (k:Nat)
noncomputable def code130:Code:=codeOf 130
noncomputable def results130:List ResultVar:=resOf 130
noncomputable def K130_prrr:KR:=(cutK (Lv.b (Lv.b (Lv.b (A 130)))).c (codeE P cal (codeF P cal k) none 130 (cR (cR (cR (cR code130)))) (Lv.b (Lv.b (Lv.b (Lv.b (A 130))))) (doneK P results130) X0 (doneK P results130)))
noncomputable def K130_pxrrrl:XR:=(upX 0 (K130_prrr cal k) X0)
noncomputable def K130_prrrll (m1:Nat):KR:=(fun T H n D=>codeF P cal m1 (Lv.a (Lv.a (Lv.b (Lv.b (Lv.b (A 130)))))) none 130 (cL (cL (cR (cR (cR code130))))) (K130_prrr cal k) (K130_pxrrrl cal k) (doneK P results130) (cutT (Lv.a (Lv.a (Lv.b (Lv.b (Lv.b (A 130)))))).c T) H n D)
noncomputable def K130_prrrr:KR:=(cutK (Lv.b (Lv.b (Lv.b (Lv.b (A 130))))).c (codeE P cal (codeF P cal k) none 130 (cR (cR (cR (cR (cR code130))))) (Lv.b (Lv.b (Lv.b (Lv.b (Lv.b (A 130)))))) (doneK P results130) X0 (doneK P results130)))
noncomputable def K130_pxrrrrl:XR:=(upX 2 (K130_prrrr cal k) X0)
noncomputable def K130_prrrrll (m1:Nat):KR:=(fun T H n D=>codeF P cal m1 (Lv.a (Lv.a (Lv.b (Lv.b (Lv.b (Lv.b (A 130))))))) none 130 (cL (cL (cR (cR (cR (cR code130)))))) (K130_prrrr cal k) (K130_pxrrrrl cal k) (doneK P results130) (cutT (Lv.a (Lv.a (Lv.b (Lv.b (Lv.b (Lv.b (A 130))))))).c T) H n D)
noncomputable def K130_prrrrrrrrr:KR:=(cutK (Lv.b (Lv.b (Lv.b (Lv.b (Lv.b (Lv.b (Lv.b (Lv.b (Lv.b (A 130)))))))))).c (codeE P cal (codeF P cal k) none 130 (cR (cR (cR (cR (cR (cR (cR (cR (cR (cR code130)))))))))) (Lv.b (Lv.b (Lv.b (Lv.b (Lv.b (Lv.b (Lv.b (Lv.b (Lv.b (Lv.b (A 130))))))))))) (doneK P results130) X0 (doneK P results130)))
noncomputable def K130_pxrrrrrrrrrl:XR:=(upX 4 (K130_prrrrrrrrr cal k) X0)
noncomputable def K130_prrrrrrrrrll (m1:Nat):KR:=(fun T H n D=>codeF P cal m1 (Lv.a (Lv.a (Lv.b (Lv.b (Lv.b (Lv.b (Lv.b (Lv.b (Lv.b (Lv.b (Lv.b (A 130)))))))))))) none 130 (cL (cL (cR (cR (cR (cR (cR (cR (cR (cR (cR code130))))))))))) (K130_prrrrrrrrr cal k) (K130_pxrrrrrrrrrl cal k) (doneK P results130) (cutT (Lv.a (Lv.a (Lv.b (Lv.b (Lv.b (Lv.b (Lv.b (Lv.b (Lv.b (Lv.b (Lv.b (A 130)))))))))))).c T) H n D)
noncomputable def K130_pxrrrrrrrrrlll (m1:Nat):XR:=(upX 5 (K130_prrrrrrrrrll cal k m1) (K130_pxrrrrrrrrrl cal k))
noncomputable def K130_prrrrrrrrrllll (m1:Nat):KR:=(cutK (Lv.a (Lv.a (Lv.a (Lv.a (Lv.b (Lv.b (Lv.b (Lv.b (Lv.b (Lv.b (Lv.b (Lv.b (Lv.b (A 130)))))))))))))).c (codeE P cal (codeF P cal m1) none 130 (cR (cL (cL (cL (cL (cR (cR (cR (cR (cR (cR (cR (cR (cR code130)))))))))))))) (Lv.b (Lv.a (Lv.a (Lv.a (Lv.a (Lv.b (Lv.b (Lv.b (Lv.b (Lv.b (Lv.b (Lv.b (Lv.b (Lv.b (A 130))))))))))))))) (K130_prrrrrrrrrll cal k m1) (K130_pxrrrrrrrrrlll cal k m1) (doneK P results130)))
noncomputable def K130_pxrrrrrrrrrlllll (m1:Nat):XR:=(upX 6 (K130_prrrrrrrrrllll cal k m1) (K130_pxrrrrrrrrrlll cal k m1))
noncomputable def K130_prrrrrrrrrllllll (m1:Nat) (m2:Nat):KR:=(fun T H n D=>codeF P cal m2 (Lv.a (Lv.a (Lv.a (Lv.a (Lv.a (Lv.a (Lv.b (Lv.b (Lv.b (Lv.b (Lv.b (Lv.b (Lv.b (Lv.b (Lv.b (A 130)))))))))))))))) none 130 (cL (cL (cL (cL (cL (cL (cR (cR (cR (cR (cR (cR (cR (cR (cR code130))))))))))))))) (K130_prrrrrrrrrllll cal k m1) (K130_pxrrrrrrrrrlllll cal k m1) (doneK P results130) (cutT (Lv.a (Lv.a (Lv.a (Lv.a (Lv.a (Lv.a (Lv.b (Lv.b (Lv.b (Lv.b (Lv.b (Lv.b (Lv.b (Lv.b (Lv.b (A 130)))))))))))))))).c T) H n D)
noncomputable def K130_prrrrrrrrrllllr (m1:Nat):KR:=(cutK (Lv.b (Lv.a (Lv.a (Lv.a (Lv.a (Lv.b (Lv.b (Lv.b (Lv.b (Lv.b (Lv.b (Lv.b (Lv.b (Lv.b (A 130))))))))))))))).c (codeE P cal (codeF P cal m1) none 130 (cR (cR (cL (cL (cL (cL (cR (cR (cR (cR (cR (cR (cR (cR (cR code130))))))))))))))) (Lv.b (Lv.b (Lv.a (Lv.a (Lv.a (Lv.a (Lv.b (Lv.b (Lv.b (Lv.b (Lv.b (Lv.b (Lv.b (Lv.b (Lv.b (A 130)))))))))))))))) (K130_prrrrrrrrrll cal k m1) (K130_pxrrrrrrrrrlll cal k m1) (doneK P results130)))
noncomputable def K130_pxrrrrrrrrrllllrl (m1:Nat):XR:=(upX 8 (K130_prrrrrrrrrllllr cal k m1) (K130_pxrrrrrrrrrlll cal k m1))
noncomputable def K130_prrrrrrrrrllllrll (m1:Nat) (m2:Nat):KR:=(fun T H n D=>codeF P cal m2 (Lv.a (Lv.a (Lv.b (Lv.a (Lv.a (Lv.a (Lv.a (Lv.b (Lv.b (Lv.b (Lv.b (Lv.b (Lv.b (Lv.b (Lv.b (Lv.b (A 130))))))))))))))))) none 130 (cL (cL (cR (cL (cL (cL (cL (cR (cR (cR (cR (cR (cR (cR (cR (cR code130)))))))))))))))) (K130_prrrrrrrrrllllr cal k m1) (K130_pxrrrrrrrrrllllrl cal k m1) (doneK P results130) (cutT (Lv.a (Lv.a (Lv.b (Lv.a (Lv.a (Lv.a (Lv.a (Lv.b (Lv.b (Lv.b (Lv.b (Lv.b (Lv.b (Lv.b (Lv.b (Lv.b (A 130))))))))))))))))).c T) H n D)
noncomputable def T130_5 (m1 m2:Nat):=fun(u0 u1 u4 u12 u13:Value) (H:Hp) (n:Nat)=>labK (codeE P cal (codeF P cal m2) none 130 (cL (cL (cL (cR (cL (cL (cL (cL (cR (cR (cR (cR (cR (cR (cR (cR (cR code130))))))))))))))))) (Lv.a (Lv.a (Lv.a (Lv.b (Lv.a (Lv.a (Lv.a (Lv.a (Lv.b (Lv.b (Lv.b (Lv.b (Lv.b (Lv.b (Lv.b (Lv.b (Lv.b (A 130)))))))))))))))))) (K130_prrrrrrrrrllllrll cal k m1 m2) (K130_pxrrrrrrrrrllllrl cal k m1) (doneK P results130)) (Tr.set (Tr.set (Tr.set (Tr.set (Tr.set Tr.nil 13 (some u13)) 12 (some u12)) 4 (some u4)) 1 (some u1)) 0 (some u0)) H n []
noncomputable def R130_5 (m1 m2:Nat):V5:=fun u0 u1 u4 u12 u13 H n=>codeF P cal m2 (Lv.a (Lv.a (Lv.b (Lv.a (Lv.a (Lv.a (Lv.a (Lv.b (Lv.b (Lv.b (Lv.b (Lv.b (Lv.b (Lv.b (Lv.b (Lv.b (A 130))))))))))))))))) none 130 (cL (cL (cR (cL (cL (cL (cL (cR (cR (cR (cR (cR (cR (cR (cR (cR code130)))))))))))))))) (K130_prrrrrrrrrllllr cal k m1) (K130_pxrrrrrrrrrllllrl cal k m1) (doneK P results130) (Tr.set (Tr.set (Tr.set (Tr.set (Tr.set Tr.nil 13 (some u13)) 12 (some u12)) 4 (some u4)) 1 (some u1)) 0 (some u0)) H n []
noncomputable def T130_4 (m1 m2:Nat):=fun(u0 u1 u4 u12 u13:Value) (H:Hp) (n:Nat)=>labK (codeE P cal (codeF P cal m2) none 130 (cL (cL (cL (cL (cL (cL (cL (cR (cR (cR (cR (cR (cR (cR (cR (cR code130)))))))))))))))) (Lv.a (Lv.a (Lv.a (Lv.a (Lv.a (Lv.a (Lv.a (Lv.b (Lv.b (Lv.b (Lv.b (Lv.b (Lv.b (Lv.b (Lv.b (Lv.b (A 130))))))))))))))))) (K130_prrrrrrrrrllllll cal k m1 m2) (K130_pxrrrrrrrrrlllll cal k m1) (doneK P results130)) (Tr.set (Tr.set (Tr.set (Tr.set (Tr.set Tr.nil 13 (some u13)) 12 (some u12)) 4 (some u4)) 1 (some u1)) 0 (some u0)) H n []
noncomputable def R130_4 (m1 m2:Nat):V5:=fun u0 u1 u4 u12 u13 H n=>codeF P cal m2 (Lv.a (Lv.a (Lv.a (Lv.a (Lv.a (Lv.a (Lv.b (Lv.b (Lv.b (Lv.b (Lv.b (Lv.b (Lv.b (Lv.b (Lv.b (A 130)))))))))))))))) none 130 (cL (cL (cL (cL (cL (cL (cR (cR (cR (cR (cR (cR (cR (cR (cR code130))))))))))))))) (K130_prrrrrrrrrllll cal k m1) (K130_pxrrrrrrrrrlllll cal k m1) (doneK P results130) (Tr.set (Tr.set (Tr.set (Tr.set (Tr.set Tr.nil 13 (some u13)) 12 (some u12)) 4 (some u4)) 1 (some u1)) 0 (some u0)) H n []
noncomputable def T130_3 (m1:Nat):=fun(u0 u1 u4 u12 u13:Value) (H:Hp) (n:Nat)=>labK (codeE P cal (codeF P cal m1) none 130 (cL (cL (cL (cR (cR (cR (cR (cR (cR (cR (cR (cR code130)))))))))))) (Lv.a (Lv.a (Lv.a (Lv.b (Lv.b (Lv.b (Lv.b (Lv.b (Lv.b (Lv.b (Lv.b (Lv.b (A 130))))))))))))) (K130_prrrrrrrrrll cal k m1) (K130_pxrrrrrrrrrl cal k) (doneK P results130)) (Tr.set (Tr.set (Tr.set (Tr.set (Tr.set Tr.nil 13 (some u13)) 12 (some u12)) 4 (some u4)) 1 (some u1)) 0 (some u0)) H n []
noncomputable def R130_3 (m1:Nat):V5:=fun u0 u1 u4 u12 u13 H n=>codeF P cal m1 (Lv.a (Lv.a (Lv.b (Lv.b (Lv.b (Lv.b (Lv.b (Lv.b (Lv.b (Lv.b (Lv.b (A 130)))))))))))) none 130 (cL (cL (cR (cR (cR (cR (cR (cR (cR (cR (cR code130))))))))))) (K130_prrrrrrrrr cal k) (K130_pxrrrrrrrrrl cal k) (doneK P results130) (Tr.set (Tr.set (Tr.set (Tr.set (Tr.set Tr.nil 13 (some u13)) 12 (some u12)) 4 (some u4)) 1 (some u1)) 0 (some u0)) H n []
noncomputable def T130_2 (m1:Nat):=fun(u0 u1 u4 u12 u13:Value) (H:Hp) (n:Nat)=>labK (codeE P cal (codeF P cal m1) none 130 (cL (cL (cL (cR (cR (cR (cR code130))))))) (Lv.a (Lv.a (Lv.a (Lv.b (Lv.b (Lv.b (Lv.b (A 130)))))))) (K130_prrrrll cal k m1) (K130_pxrrrrl cal k) (doneK P results130)) (Tr.set (Tr.set (Tr.set (Tr.set (Tr.set Tr.nil 13 (some u13)) 12 (some u12)) 4 (some u4)) 1 (some u1)) 0 (some u0)) H n []
noncomputable def R130_2 (m1:Nat):V5:=fun u0 u1 u4 u12 u13 H n=>codeF P cal m1 (Lv.a (Lv.a (Lv.b (Lv.b (Lv.b (Lv.b (A 130))))))) none 130 (cL (cL (cR (cR (cR (cR code130)))))) (K130_prrrr cal k) (K130_pxrrrrl cal k) (doneK P results130) (Tr.set (Tr.set (Tr.set (Tr.set (Tr.set Tr.nil 13 (some u13)) 12 (some u12)) 4 (some u4)) 1 (some u1)) 0 (some u0)) H n []
noncomputable def T130_1 (m1:Nat):=fun(u0 u1 u4 u12 u13:Value) (H:Hp) (n:Nat)=>labK (codeE P cal (codeF P cal m1) none 130 (cL (cL (cL (cR (cR (cR code130)))))) (Lv.a (Lv.a (Lv.a (Lv.b (Lv.b (Lv.b (A 130))))))) (K130_prrrll cal k m1) (K130_pxrrrl cal k) (doneK P results130)) (Tr.set (Tr.set (Tr.set (Tr.set (Tr.set Tr.nil 13 (some u13)) 12 (some u12)) 4 (some u4)) 1 (some u1)) 0 (some u0)) H n []
noncomputable def R130_1 (m1:Nat):V5:=fun u0 u1 u4 u12 u13 H n=>codeF P cal m1 (Lv.a (Lv.a (Lv.b (Lv.b (Lv.b (A 130)))))) none 130 (cL (cL (cR (cR (cR code130))))) (K130_prrr cal k) (K130_pxrrrl cal k) (doneK P results130) (Tr.set (Tr.set (Tr.set (Tr.set (Tr.set Tr.nil 13 (some u13)) 12 (some u12)) 4 (some u4)) 1 (some u1)) 0 (some u0)) H n []
noncomputable def B130_5 (cal:Cal) (k m1 m2:Nat) (b3:V5) (b5:V5) (u0 u1 u4 u12 u13:Value) (H:Hp) (n:Nat):Res:=
binK P BinOp.leq 3 (Operand.tmp 123) (Operand.tmp 124) u12 u13 fun v_8z=>
guardD v_8z true (fun k_91=>
k_91 u4 .p H n) .p H n fun v_92 x_93 H_94 n_95=>
guardD v_8z true (fun k_97=>
k_97 u0 .p H_94 n_95) .p H_94 n_95 fun v_98 x_99 H_9a n_9b=>
guardD v_8z true (fun k_9d=>
k_9d u13 .p H_9a n_9b) .p H_9a n_9b fun v_9e x_9f H_9g n_9h=>
guardD v_8z true (fun k_9j=>
bindO (indexAddrV P 93 v_98 v_9e) fun v_9o=>
k_9j v_9o .p H_9g n_9h) .p H_9g n_9h fun v_9k x_9l H_9m n_9n=>
guardD v_8z true (fun k_9p=>
bindO (addrV v_9k) fun a_9u=>bindO (loadV P H_9m 101 a_9u) fun v_9v=>
k_9p v_9v (.l 101 a_9u) H_9m n_9n) .p H_9m n_9n fun v_9q x_9r H_9s n_9t=>
guardD v_8z true (fun k_9w=>
k_9w u0 .p H_9s n_9t) .p H_9s n_9t fun v_9x x_9y H_9z n_a0=>
guardD v_8z true (fun k_a2=>
k_a2 u1 .p H_9z n_a0) .p H_9z n_a0 fun v_a3 x_a4 H_a5 n_a6=>
guardD v_8z true (fun k_a8=>
bindO (indexAddrV P 93 v_9x v_a3) fun v_ad=>
k_a8 v_ad .p H_a5 n_a6) .p H_a5 n_a6 fun v_a9 x_aa H_ab n_ac=>
guardD v_8z true (fun k_ae=>
bindO (addrV v_a9) fun a_aj=>bindO (loadV P H_ab 101 a_aj) fun v_ak=>
k_ae v_ak (.l 101 a_aj) H_ab n_ac) .p H_ab n_ac fun v_af x_ag H_ah n_ai=>
guardD v_8z true (fun k_al=>
callVK P cal v_92 [v_9q,v_af] H_ah n_ai fun v_aq H_ar n_as=>
k_al v_aq .e H_ar n_as) .e H_ah n_ai fun v_am x_an H_ao n_ap=>
guardD v_8z true (fun k_at=>
binK P BinOp.lss 3 (Operand.tmp 136) (Operand.const (Value.int IntKind.i64 0)) v_am (Value.int IntKind.i64 0) fun v_ay=>
k_at v_ay .p H_ao n_ap) .p H_ao n_ap fun v_au x_av H_aw n_ax=>
guardD v_8z true (fun k_az=>
bindO (pureSem P v_au (Op.unary UnOp.not v_au)) fun v_b4=>
k_az v_b4 .p H_aw n_ax) .p H_aw n_ax fun v_b0 x_b1 H_b2 n_b3=>
bindO (pickV v_8z v_b0 (Value.bool false)) fun v_b5=>
ifK v_b5 (
binK P BinOp.sub 3 (Operand.tmp 140) (Operand.const (Value.int IntKind.i64 1)) u13 (Value.int IntKind.i64 1) fun v_b7=>
b5 u0 u1 u4 u12 v_b7 H_b2 n_b3) (
binK P BinOp.gtr 3 (Operand.tmp 142) (Operand.tmp 143) u12 u13 fun v_bb=>
ifK v_bb (
bindO (indexAddrV P 93 u0 u1) fun v_bi=>
bindO (addrV v_bi) fun a_bj=>bindO (loadV P H_b2 101 a_bj) fun v_bk=>
bindO (indexAddrV P 93 u0 u13) fun v_bn=>
bindO (addrV v_bn) fun a_bo=>bindO (loadV P H_b2 101 a_bo) fun v_bp=>
bindO (indexAddrV P 93 u0 u13) fun v_bq=>
bindO (storeP P 101 v_bq v_bk H_b2) fun H_bs=>
bindO (indexAddrV P 93 u0 u1) fun v_bt=>
bindO (storeP P 101 v_bt v_bp H_bs) fun H_bv=>
some ((Value.tuple ⟨[u13,(Value.bool false)]⟩),H_bv,n_b3)) (
bindO (indexAddrV P 93 u0 u13) fun v_c5=>
bindO (addrV v_c5) fun a_c6=>bindO (loadV P H_b2 101 a_c6) fun v_c7=>
bindO (indexAddrV P 93 u0 u12) fun v_ca=>
bindO (addrV v_ca) fun a_cb=>bindO (loadV P H_b2 101 a_cb) fun v_cc=>
bindO (indexAddrV P 93 u0 u12) fun v_cd=>
bindO (storeP P 101 v_cd v_c7 H_b2) fun H_cf=>
bindO (indexAddrV P 93 u0 u13) fun v_cg=>
bindO (storeP P 101 v_cg v_cc H_cf) fun H_ci=>
binK P BinOp.add 3 (Operand.tmp 159) (Operand.const (Value.int IntKind.i64 1)) u12 (Value.int IntKind.i64 1) fun v_ck=>
binK P BinOp.sub 3 (Operand.tmp 161) (Operand.const (Value.int IntKind.i64 1)) u13 (Value.int IntKind.i64 1) fun v_cn=>
b3 u0 u1 u4 v_ck v_cn H_ci n_b3))
noncomputable def C130_5 (m1 m2:Nat):=B130_5 cal k m1 m2
noncomputable def S130_5 (m1:Nat) (b3:V5):Nat→V5:=fun m=>Nat.rec (motive:=fun _=>V5) (C130_5 cal k m1 0 b3 (fun _ _ _ _ _ _ _=>none)) (fun m ih=>C130_5 cal k m1 (m+1) b3 ih) m
theorem h130_5 (m1 m2:Nat):T130_5 cal k m1 m2=C130_5 cal k m1 m2 (R130_3 cal k m1) (R130_5 cal k m1 m2):=by kernel_rfl
theorem q130_5 (m1:Nat) (m:Nat):T130_5 cal k m1 m=S130_5 cal k m1 (R130_3 cal k m1) m:=recS (h130_5 cal k m1) (by kernel_rfl) (fun m=>by kernel_rfl) m
noncomputable def B130_4 (cal:Cal) (k m1 m2:Nat) (j5:V5) (b3:V5) (b4:V5) (u0 u1 u4 u12 u13:Value) (H:Hp) (n:Nat):Res:=
binK P BinOp.leq 3 (Operand.tmp 105) (Operand.tmp 106) u12 u13 fun v_6t=>
guardD v_6t true (fun k_6v=>
k_6v u4 .p H n) .p H n fun v_6w x_6x H_6y n_6z=>
guardD v_6t true (fun k_71=>
k_71 u0 .p H_6y n_6z) .p H_6y n_6z fun v_72 x_73 H_74 n_75=>
guardD v_6t true (fun k_77=>
k_77 u12 .p H_74 n_75) .p H_74 n_75 fun v_78 x_79 H_7a n_7b=>
guardD v_6t true (fun k_7d=>
bindO (indexAddrV P 93 v_72 v_78) fun v_7i=>
k_7d v_7i .p H_7a n_7b) .p H_7a n_7b fun v_7e x_7f H_7g n_7h=>
guardD v_6t true (fun k_7j=>
bindO (addrV v_7e) fun a_7o=>bindO (loadV P H_7g 101 a_7o) fun v_7p=>
k_7j v_7p (.l 101 a_7o) H_7g n_7h) .p H_7g n_7h fun v_7k x_7l H_7m n_7n=>
guardD v_6t true (fun k_7q=>
k_7q u0 .p H_7m n_7n) .p H_7m n_7n fun v_7r x_7s H_7t n_7u=>
guardD v_6t true (fun k_7w=>
k_7w u1 .p H_7t n_7u) .p H_7t n_7u fun v_7x x_7y H_7z n_80=>
guardD v_6t true (fun k_82=>
bindO (indexAddrV P 93 v_7r v_7x) fun v_87=>
k_82 v_87 .p H_7z n_80) .p H_7z n_80 fun v_83 x_84 H_85 n_86=>
guardD v_6t true (fun k_88=>
bindO (addrV v_83) fun a_8d=>bindO (loadV P H_85 101 a_8d) fun v_8e=>
k_88 v_8e (.l 101 a_8d) H_85 n_86) .p H_85 n_86 fun v_89 x_8a H_8b n_8c=>
guardD v_6t true (fun k_8f=>
callVK P cal v_6w [v_7k,v_89] H_8b n_8c fun v_8k H_8l n_8m=>
k_8f v_8k .e H_8l n_8m) .e H_8b n_8c fun v_8g x_8h H_8i n_8j=>
guardD v_6t true (fun k_8n=>
binK P BinOp.lss 3 (Operand.tmp 118) (Operand.const (Value.int IntKind.i64 0)) v_8g (Value.int IntKind.i64 0) fun v_8s=>
k_8n v_8s .p H_8i n_8j) .p H_8i n_8j fun v_8o x_8p H_8q n_8r=>
bindO (pickV v_6t v_8o (Value.bool false)) fun v_8t=>
ifK v_8t (
binK P BinOp.add 3 (Operand.tmp 121) (Operand.const (Value.int IntKind.i64 1)) u12 (Value.int IntKind.i64 1) fun v_8v=>
b4 u0 u1 u4 v_8v u13 H_8q n_8r) (
j5 u0 u1 u4 u12 u13 H_8q n_8r)
noncomputable def C130_4 (m1 m2:Nat) (b3:V5):=B130_4 cal k m1 m2 (S130_5 cal k m1 b3 m1) b3
noncomputable def S130_4 (m1:Nat) (b3:V5):Nat→V5:=fun m=>Nat.rec (motive:=fun _=>V5) (C130_4 cal k m1 0 b3 (fun _ _ _ _ _ _ _=>none)) (fun m ih=>C130_4 cal k m1 (m+1) b3 ih) m
theorem h130_4 (m1 m2:Nat):T130_4 cal k m1 m2=C130_4 cal k m1 m2 (R130_3 cal k m1) (R130_4 cal k m1 m2):=Eq.trans (b:=B130_4 cal k m1 m2 (T130_5 cal k m1 m1) (R130_3 cal k m1) (R130_4 cal k m1 m2)) (by kernel_rfl) (by rw[q130_5]; rfl)
theorem q130_4 (m1:Nat) (m:Nat):T130_4 cal k m1 m=S130_4 cal k m1 (R130_3 cal k m1) m:=recS (h130_4 cal k m1) (by kernel_rfl) (fun m=>by kernel_rfl) m
noncomputable def B130_3 (cal:Cal) (k m1:Nat) (j4:V5) (b3:V5) (u0 u1 u4 u12 u13:Value) (H:Hp) (n:Nat):Res:=
j4 u0 u1 u4 u12 u13 H n
noncomputable def C130_3 (m1:Nat) (b3:V5):=B130_3 cal k m1 (S130_4 cal k m1 b3 m1) b3
noncomputable def S130_3:Nat→V5:=recF (C130_3 cal k) (fun _ _ _ _ _ _ _=>none)
theorem h130_3 (m1:Nat):T130_3 cal k m1=C130_3 cal k m1 (R130_3 cal k m1):=Eq.trans (b:=B130_3 cal k m1 (T130_4 cal k m1 m1) (R130_3 cal k m1)) (by funext u0 u1 u4 u12 u13 H n; kernel_rfl) (by rw[q130_4]; rfl)
theorem q130_3 (m:Nat):T130_3 cal k m=S130_3 cal k m:=recS (h130_3 cal k) (by kernel_rfl) (fun m=>by kernel_rfl) m
noncomputable def B130_2 (cal:Cal) (k m1:Nat) (j3:V5) (b2:V5) (u0 u1 u4 u12 u13:Value) (H:Hp) (n:Nat):Res:=
binK P BinOp.leq 3 (Operand.tmp 50) (Operand.tmp 51) u12 u13 fun v_31=>
guardD v_31 true (fun k_33=>
k_33 u4 .p H n) .p H n fun v_34 x_35 H_36 n_37=>
guardD v_31 true (fun k_39=>
k_39 u0 .p H_36 n_37) .p H_36 n_37 fun v_3a x_3b H_3c n_3d=>
guardD v_31 true (fun k_3f=>
k_3f u13 .p H_3c n_3d) .p H_3c n_3d fun v_3g x_3h H_3i n_3j=>
guardD v_31 true (fun k_3l=>
bindO (indexAddrV P 93 v_3a v_3g) fun v_3q=>
k_3l v_3q .p H_3i n_3j) .p H_3i n_3j fun v_3m x_3n H_3o n_3p=>
guardD v_31 true (fun k_3r=>
bindO (addrV v_3m) fun a_3w=>bindO (loadV P H_3o 101 a_3w) fun v_3x=>
k_3r v_3x (.l 101 a_3w) H_3o n_3p) .p H_3o n_3p fun v_3s x_3t H_3u n_3v=>
guardD v_31 true (fun k_3y=>
k_3y u0 .p H_3u n_3v) .p H_3u n_3v fun v_3z x_40 H_41 n_42=>
guardD v_31 true (fun k_44=>
k_44 u1 .p H_41 n_42) .p H_41 n_42 fun v_45 x_46 H_47 n_48=>
guardD v_31 true (fun k_4a=>
bindO (indexAddrV P 93 v_3z v_45) fun v_4f=>
k_4a v_4f .p H_47 n_48) .p H_47 n_48 fun v_4b x_4c H_4d n_4e=>
guardD v_31 true (fun k_4g=>
bindO (addrV v_4b) fun a_4l=>bindO (loadV P H_4d 101 a_4l) fun v_4m=>
k_4g v_4m (.l 101 a_4l) H_4d n_4e) .p H_4d n_4e fun v_4h x_4i H_4j n_4k=>
guardD v_31 true (fun k_4n=>
callVK P cal v_34 [v_3s,v_4h] H_4j n_4k fun v_4s H_4t n_4u=>
k_4n v_4s .e H_4t n_4u) .e H_4j n_4k fun v_4o x_4p H_4q n_4r=>
guardD v_31 true (fun k_4v=>
binK P BinOp.lss 3 (Operand.tmp 63) (Operand.const (Value.int IntKind.i64 0)) v_4o (Value.int IntKind.i64 0) fun v_50=>
k_4v v_50 .p H_4q n_4r) .p H_4q n_4r fun v_4w x_4x H_4y n_4z=>
guardD v_31 true (fun k_51=>
bindO (pureSem P v_4w (Op.unary UnOp.not v_4w)) fun v_56=>
k_51 v_56 .p H_4y n_4z) .p H_4y n_4z fun v_52 x_53 H_54 n_55=>
bindO (pickV v_31 v_52 (Value.bool false)) fun v_57=>
ifK v_57 (
binK P BinOp.sub 3 (Operand.tmp 67) (Operand.const (Value.int IntKind.i64 1)) u13 (Value.int IntKind.i64 1) fun v_59=>
b2 u0 u1 u4 u12 v_59 H_54 n_55) (
binK P BinOp.gtr 3 (Operand.tmp 69) (Operand.tmp 70) u12 u13 fun v_5d=>
ifK v_5d (
bindO (indexAddrV P 93 u0 u1) fun v_5k=>
bindO (addrV v_5k) fun a_5l=>bindO (loadV P H_54 101 a_5l) fun v_5m=>
bindO (indexAddrV P 93 u0 u13) fun v_5p=>
bindO (addrV v_5p) fun a_5q=>bindO (loadV P H_54 101 a_5q) fun v_5r=>
bindO (indexAddrV P 93 u0 u13) fun v_5s=>
bindO (storeP P 101 v_5s v_5m H_54) fun H_5u=>
bindO (indexAddrV P 93 u0 u1) fun v_5v=>
bindO (storeP P 101 v_5v v_5r H_5u) fun H_5x=>
some ((Value.tuple ⟨[u13,(Value.bool true)]⟩),H_5x,n_55)) (
bindO (indexAddrV P 93 u0 u13) fun v_67=>
bindO (addrV v_67) fun a_68=>bindO (loadV P H_54 101 a_68) fun v_69=>
bindO (indexAddrV P 93 u0 u12) fun v_6c=>
bindO (addrV v_6c) fun a_6d=>bindO (loadV P H_54 101 a_6d) fun v_6e=>
bindO (indexAddrV P 93 u0 u12) fun v_6f=>
bindO (storeP P 101 v_6f v_69 H_54) fun H_6h=>
bindO (indexAddrV P 93 u0 u13) fun v_6i=>
bindO (storeP P 101 v_6i v_6e H_6h) fun H_6k=>
binK P BinOp.add 3 (Operand.tmp 101) (Operand.const (Value.int IntKind.i64 1)) u12 (Value.int IntKind.i64 1) fun v_6m=>
binK P BinOp.sub 3 (Operand.tmp 103) (Operand.const (Value.int IntKind.i64 1)) u13 (Value.int IntKind.i64 1) fun v_6p=>
j3 u0 u1 u4 v_6m v_6p H_6k n_55))
noncomputable def C130_2 (m1:Nat):=B130_2 cal k m1 (S130_3 cal k k)
noncomputable def S130_2:Nat→V5:=recF (C130_2 cal k) (fun _ _ _ _ _ _ _=>none)
theorem h130_2 (m1:Nat):T130_2 cal k m1=C130_2 cal k m1 (R130_2 cal k m1):=Eq.trans (b:=B130_2 cal k m1 (T130_3 cal k k) (R130_2 cal k m1)) (by kernel_rfl) (by rw[q130_3]; rfl)
theorem q130_2 (m:Nat):T130_2 cal k m=S130_2 cal k m:=recS (h130_2 cal k) (by kernel_rfl) (fun m=>by kernel_rfl) m
noncomputable def B130_1 (cal:Cal) (k m1:Nat) (j2:V5) (b1:V5) (u0 u1 u4 u12 u13:Value) (H:Hp) (n:Nat):Res:=
binK P BinOp.leq 3 (Operand.tmp 32) (Operand.tmp 33) u12 u13 fun v_v=>
guardD v_v true (fun k_x=>
k_x u4 .p H n) .p H n fun v_y x_z H_10 n_11=>
guardD v_v true (fun k_13=>
k_13 u0 .p H_10 n_11) .p H_10 n_11 fun v_14 x_15 H_16 n_17=>
guardD v_v true (fun k_19=>
k_19 u12 .p H_16 n_17) .p H_16 n_17 fun v_1a x_1b H_1c n_1d=>
guardD v_v true (fun k_1f=>
bindO (indexAddrV P 93 v_14 v_1a) fun v_1k=>
k_1f v_1k .p H_1c n_1d) .p H_1c n_1d fun v_1g x_1h H_1i n_1j=>
guardD v_v true (fun k_1l=>
bindO (addrV v_1g) fun a_1q=>bindO (loadV P H_1i 101 a_1q) fun v_1r=>
k_1l v_1r (.l 101 a_1q) H_1i n_1j) .p H_1i n_1j fun v_1m x_1n H_1o n_1p=>
guardD v_v true (fun k_1s=>
k_1s u0 .p H_1o n_1p) .p H_1o n_1p fun v_1t x_1u H_1v n_1w=>
guardD v_v true (fun k_1y=>
k_1y u1 .p H_1v n_1w) .p H_1v n_1w fun v_1z x_20 H_21 n_22=>
guardD v_v true (fun k_24=>
bindO (indexAddrV P 93 v_1t v_1z) fun v_29=>
k_24 v_29 .p H_21 n_22) .p H_21 n_22 fun v_25 x_26 H_27 n_28=>
guardD v_v true (fun k_2a=>
bindO (addrV v_25) fun a_2f=>bindO (loadV P H_27 101 a_2f) fun v_2g=>
k_2a v_2g (.l 101 a_2f) H_27 n_28) .p H_27 n_28 fun v_2b x_2c H_2d n_2e=>
guardD v_v true (fun k_2h=>
callVK P cal v_y [v_1m,v_2b] H_2d n_2e fun v_2m H_2n n_2o=>
k_2h v_2m .e H_2n n_2o) .e H_2d n_2e fun v_2i x_2j H_2k n_2l=>
guardD v_v true (fun k_2p=>
binK P BinOp.lss 3 (Operand.tmp 45) (Operand.const (Value.int IntKind.i64 0)) v_2i (Value.int IntKind.i64 0) fun v_2u=>
k_2p v_2u .p H_2k n_2l) .p H_2k n_2l fun v_2q x_2r H_2s n_2t=>
bindO (pickV v_v v_2q (Value.bool false)) fun v_2v=>
ifK v_2v (
binK P BinOp.add 3 (Operand.tmp 48) (Operand.const (Value.int IntKind.i64 1)) u12 (Value.int IntKind.i64 1) fun v_2x=>
b1 u0 u1 u4 v_2x u13 H_2s n_2t) (
j2 u0 u1 u4 u12 u13 H_2s n_2t)
noncomputable def C130_1 (m1:Nat):=B130_1 cal k m1 (S130_2 cal k k)
noncomputable def S130_1:Nat→V5:=recF (C130_1 cal k) (fun _ _ _ _ _ _ _=>none)
theorem h130_1 (m1:Nat):T130_1 cal k m1=C130_1 cal k m1 (R130_1 cal k m1):=Eq.trans (b:=B130_1 cal k m1 (T130_2 cal k k) (R130_1 cal k m1)) (by kernel_rfl) (by rw[q130_2]; rfl)
theorem q130_1 (m:Nat):T130_1 cal k m=S130_1 cal k m:=recS (h130_1 cal k) (by kernel_rfl) (fun m=>by kernel_rfl) m
noncomputable def B130_0 (cal:Cal) (k:Nat) (j1:V5) (v0 v1 v2 v3 v4:Value) (H:Hp) (n:Nat):Res:=
bindO (indexAddrV P 93 v0 v3) fun v_9=>
bindO (addrV v_9) fun a_a=>bindO (loadV P H 101 a_a) fun v_b=>
bindO (indexAddrV P 93 v0 v1) fun v_e=>
bindO (addrV v_e) fun a_f=>bindO (loadV P H 101 a_f) fun v_g=>
bindO (indexAddrV P 93 v0 v1) fun v_h=>
bindO (storeP P 101 v_h v_b H) fun H_j=>
bindO (indexAddrV P 93 v0 v3) fun v_k=>
bindO (storeP P 101 v_k v_g H_j) fun H_m=>
binK P BinOp.add 3 (Operand.tmp 28) (Operand.const (Value.int IntKind.i64 1)) v1 (Value.int IntKind.i64 1) fun v_o=>
binK P BinOp.sub 3 (Operand.tmp 30) (Operand.const (Value.int IntKind.i64 1)) v2 (Value.int IntKind.i64 1) fun v_q=>
j1 v0 v1 v4 v_o v_q H_m n
noncomputable def C130_0:=B130_0 cal k (S130_1 cal k k)
theorem h130_0 (v0 v1 v2 v3 v4:Value) (H:Hp) (n:Nat):bodyE P cal A (k+1) 130 [v0,v1,v2,v3,v4] H n=C130_0 cal k v0 v1 v2 v3 v4 H n:=(bq Go.Proofs.Tryz.f130 code130 results130 (by kernel_rfl)).trans (Eq.trans (b:=B130_0 cal k (T130_1 cal k k) v0 v1 v2 v3 v4 H n) (by kernel_rfl) (by rw[q130_1]; rfl))
noncomputable def code131:Code:=codeOf 131
noncomputable def results131:List ResultVar:=resOf 131
noncomputable def T131_2:=fun(u0 u2:Value) (H:Hp) (n:Nat)=>labK (codeE P cal (codeF P cal k) none 131 (cR (cR (cR code131))) (Lv.b (Lv.b (Lv.b (A 131)))) (doneK P results131) X0 (doneK P results131)) (Tr.set (Tr.set Tr.nil 2 (some u2)) 0 (some u0)) H n []
noncomputable def T131_1:=fun(u0 u2:Value) (H:Hp) (n:Nat)=>labK (codeE P cal (codeF P cal k) none 131 (cR (cR code131)) (Lv.b (Lv.b (A 131))) (doneK P results131) X0 (doneK P results131)) (Tr.set (Tr.set Tr.nil 2 (some u2)) 0 (some u0)) H n []
noncomputable def B131_2 (cal:Cal) (k:Nat) (u0 u2:Value) (H:Hp) (n:Nat):Res:=
bindO (pureSem P u0 (convert 178 5 u0)) fun v_4=>
bindO (indexV P 9 (Value.string (ByteArray.mk #[0,1,2,2,3,3,3,3,4,4,4,4,4,4,4,4,5,5,5,5,5,5,5,5,5,5,5,5,5,5,5,5,6,6,6,6,6,6,6,6,6,6,6,6,6,6,6,6,6,6,6,6,6,6,6,6,6,6,6,6,6,6,6,6,7,7,7,7,7,7,7,7,7,7,7,7,7,7,7,7,7,7,7,7,7,7,7,7,7,7,7,7,7,7,7,7,7,7,7,7,7,7,7,7,7,7,7,7,7,7,7,7,7,7,7,7,7,7,7,7,7,7,7,7,7,7,7,7,8,8,8,8,8,8,8,8,8,8,8,8,8,8,8,8,8,8,8,8,8,8,8,8,8,8,8,8,8,8,8,8,8,8,8,8,8,8,8,8,8,8,8,8,8,8,8,8,8,8,8,8,8,8,8,8,8,8,8,8,8,8,8,8,8,8,8,8,8,8,8,8,8,8,8,8,8,8,8,8,8,8,8,8,8,8,8,8,8,8,8,8,8,8,8,8,8,8,8,8,8,8,8,8,8,8,8,8,8,8,8,8,8,8,8,8,8,8,8,8,8,8,8,8,8,8,8,8])) v_4) fun v_5=>
bindO (pureSem P v_5 (convert 5 3 v_5)) fun v_6=>
binK P BinOp.add 3 (Operand.tmp 13) (Operand.tmp 17) u2 v_6 fun v_7=>
some (v_7,H,n)
noncomputable def C131_2:=B131_2 cal k
theorem h131_2:T131_2 cal k=C131_2 cal k:=by kernel_rfl
noncomputable def B131_1 (cal:Cal) (k:Nat) (j2:V2) (u0 u2:Value) (H:Hp) (n:Nat):Res:=
binK P BinOp.geq 178 (Operand.tmp 7) (Operand.const (Value.int IntKind.u32 256)) u0 (Value.int IntKind.u32 256) fun v_a=>
ifK v_a (
binK P BinOp.shr 178 (Operand.tmp 9) (Operand.const (Value.int IntKind.u64 8)) u0 (Value.int IntKind.u64 8) fun v_c=>
binK P BinOp.add 3 (Operand.tmp 11) (Operand.const (Value.int IntKind.i64 8)) u2 (Value.int IntKind.i64 8) fun v_f=>
j2 v_c v_f H n) (
j2 u0 u2 H n)
noncomputable def C131_1:=B131_1 cal k (C131_2 cal k)
theorem h131_1:T131_1 cal k=C131_1 cal k:=Eq.trans (b:=B131_1 cal k (T131_2 cal k)) (by kernel_rfl) (by rw[h131_2]; rfl)
noncomputable def B131_0 (cal:Cal) (k:Nat) (j1:V2) (v0:Value) (H:Hp) (n:Nat):Res:=
binK P BinOp.geq 178 (Operand.tmp 3) (Operand.const (Value.int IntKind.u32 65536)) v0 (Value.int IntKind.u32 65536) fun v_i=>
ifK v_i (
binK P BinOp.shr 178 (Operand.tmp 5) (Operand.const (Value.int IntKind.u64 16)) v0 (Value.int IntKind.u64 16) fun v_k=>
j1 v_k (Value.int IntKind.i64 16) H n) (
j1 v0 (Value.int IntKind.i64 0) H n)
noncomputable def C131_0:=B131_0 cal k (C131_1 cal k)
theorem h131_0 (v0:Value) (H:Hp) (n:Nat):bodyE P cal A (k+1) 131 [v0] H n=C131_0 cal k v0 H n:=(bq Go.Proofs.Tryz.f131 code131 results131 (by kernel_rfl)).trans (Eq.trans (b:=B131_0 cal k (T131_1 cal k) v0 H n) (by kernel_rfl) (by rw[h131_1]; rfl))
noncomputable def code132:Code:=codeOf 132
noncomputable def results132:List ResultVar:=resOf 132
noncomputable def T132_3:=fun(u0 u2:Value) (H:Hp) (n:Nat)=>labK (codeE P cal (codeF P cal k) none 132 (cR (cR (cR (cR code132)))) (Lv.b (Lv.b (Lv.b (Lv.b (A 132))))) (doneK P results132) X0 (doneK P results132)) (Tr.set (Tr.set Tr.nil 2 (some u2)) 0 (some u0)) H n []
noncomputable def T132_2:=fun(u0 u2:Value) (H:Hp) (n:Nat)=>labK (codeE P cal (codeF P cal k) none 132 (cR (cR (cR code132))) (Lv.b (Lv.b (Lv.b (A 132)))) (doneK P results132) X0 (doneK P results132)) (Tr.set (Tr.set Tr.nil 2 (some u2)) 0 (some u0)) H n []
noncomputable def T132_1:=fun(u0 u2:Value) (H:Hp) (n:Nat)=>labK (codeE P cal (codeF P cal k) none 132 (cR (cR code132)) (Lv.b (Lv.b (A 132))) (doneK P results132) X0 (doneK P results132)) (Tr.set (Tr.set Tr.nil 2 (some u2)) 0 (some u0)) H n []
noncomputable def B132_3 (cal:Cal) (k:Nat) (u0 u2:Value) (H:Hp) (n:Nat):Res:=
bindO (pureSem P u0 (convert 180 5 u0)) fun v_4=>
bindO (indexV P 9 (Value.string (ByteArray.mk #[0,1,2,2,3,3,3,3,4,4,4,4,4,4,4,4,5,5,5,5,5,5,5,5,5,5,5,5,5,5,5,5,6,6,6,6,6,6,6,6,6,6,6,6,6,6,6,6,6,6,6,6,6,6,6,6,6,6,6,6,6,6,6,6,7,7,7,7,7,7,7,7,7,7,7,7,7,7,7,7,7,7,7,7,7,7,7,7,7,7,7,7,7,7,7,7,7,7,7,7,7,7,7,7,7,7,7,7,7,7,7,7,7,7,7,7,7,7,7,7,7,7,7,7,7,7,7,7,8,8,8,8,8,8,8,8,8,8,8,8,8,8,8,8,8,8,8,8,8,8,8,8,8,8,8,8,8,8,8,8,8,8,8,8,8,8,8,8,8,8,8,8,8,8,8,8,8,8,8,8,8,8,8,8,8,8,8,8,8,8,8,8,8,8,8,8,8,8,8,8,8,8,8,8,8,8,8,8,8,8,8,8,8,8,8,8,8,8,8,8,8,8,8,8,8,8,8,8,8,8,8,8,8,8,8,8,8,8,8,8,8,8,8,8,8,8,8,8,8,8,8,8,8,8,8,8])) v_4) fun v_5=>
bindO (pureSem P v_5 (convert 5 3 v_5)) fun v_6=>
binK P BinOp.add 3 (Operand.tmp 19) (Operand.tmp 23) u2 v_6 fun v_7=>
some (v_7,H,n)
noncomputable def C132_3:=B132_3 cal k
theorem h132_3:T132_3 cal k=C132_3 cal k:=by kernel_rfl
noncomputable def B132_2 (cal:Cal) (k:Nat) (j3:V2) (u0 u2:Value) (H:Hp) (n:Nat):Res:=
binK P BinOp.geq 180 (Operand.tmp 13) (Operand.const (Value.int IntKind.u64 256)) u0 (Value.int IntKind.u64 256) fun v_a=>
ifK v_a (
binK P BinOp.shr 180 (Operand.tmp 15) (Operand.const (Value.int IntKind.u64 8)) u0 (Value.int IntKind.u64 8) fun v_c=>
binK P BinOp.add 3 (Operand.tmp 17) (Operand.const (Value.int IntKind.i64 8)) u2 (Value.int IntKind.i64 8) fun v_f=>
j3 v_c v_f H n) (
j3 u0 u2 H n)
noncomputable def C132_2:=B132_2 cal k (C132_3 cal k)
theorem h132_2:T132_2 cal k=C132_2 cal k:=Eq.trans (b:=B132_2 cal k (T132_3 cal k)) (by kernel_rfl) (by rw[h132_3]; rfl)
noncomputable def B132_1 (cal:Cal) (k:Nat) (j2:V2) (u0 u2:Value) (H:Hp) (n:Nat):Res:=
binK P BinOp.geq 180 (Operand.tmp 7) (Operand.const (Value.int IntKind.u64 65536)) u0 (Value.int IntKind.u64 65536) fun v_i=>
ifK v_i (
binK P BinOp.shr 180 (Operand.tmp 9) (Operand.const (Value.int IntKind.u64 16)) u0 (Value.int IntKind.u64 16) fun v_k=>
binK P BinOp.add 3 (Operand.tmp 11) (Operand.const (Value.int IntKind.i64 16)) u2 (Value.int IntKind.i64 16) fun v_n=>
j2 v_k v_n H n) (
j2 u0 u2 H n)
noncomputable def C132_1:=B132_1 cal k (C132_2 cal k)
theorem h132_1:T132_1 cal k=C132_1 cal k:=Eq.trans (b:=B132_1 cal k (T132_2 cal k)) (by kernel_rfl) (by rw[h132_2]; rfl)
noncomputable def B132_0 (cal:Cal) (k:Nat) (j1:V2) (v0:Value) (H:Hp) (n:Nat):Res:=
binK P BinOp.geq 180 (Operand.tmp 3) (Operand.const (Value.int IntKind.u64 4294967296)) v0 (Value.int IntKind.u64 4294967296) fun v_q=>
ifK v_q (
binK P BinOp.shr 180 (Operand.tmp 5) (Operand.const (Value.int IntKind.u64 32)) v0 (Value.int IntKind.u64 32) fun v_s=>
j1 v_s (Value.int IntKind.i64 32) H n) (
j1 v0 (Value.int IntKind.i64 0) H n)
noncomputable def C132_0:=B132_0 cal k (C132_1 cal k)
theorem h132_0 (v0:Value) (H:Hp) (n:Nat):bodyE P cal A (k+1) 132 [v0] H n=C132_0 cal k v0 H n:=(bq Go.Proofs.Tryz.f132 code132 results132 (by kernel_rfl)).trans (Eq.trans (b:=B132_0 cal k (T132_1 cal k) v0 H n) (by kernel_rfl) (by rw[h132_1]; rfl))
noncomputable def code133:Code:=codeOf 133
noncomputable def results133:List ResultVar:=resOf 133
noncomputable def B133_0 (cal:Cal) (k:Nat) (v0 v1:Value) (H:Hp) (n:Nat):Res:=
callFK P cal 139 [v0] H n fun v_3 H_4 n_5=>
callFK P cal 139 [v1] H_4 n_5 fun v_8 H_9 n_a=>
ifK v_3 (
ifK v_8 (
some ((Value.int IntKind.i64 0),H_9,n_a)) (
some ((Value.int IntKind.i64 (-1)),H_9,n_a))) (
ifK v_8 (
some ((Value.int IntKind.i64 1),H_9,n_a)) (
binK P BinOp.lss 101 (Operand.tmp 14) (Operand.tmp 15) v0 v1 fun v_k=>
ifK v_k (
some ((Value.int IntKind.i64 (-1)),H_9,n_a)) (
binK P BinOp.gtr 101 (Operand.tmp 17) (Operand.tmp 18) v0 v1 fun v_o=>
ifK v_o (
some ((Value.int IntKind.i64 1),H_9,n_a)) (
some ((Value.int IntKind.i64 0),H_9,n_a)))))
noncomputable def C133_0:=B133_0 cal k
theorem h133_0 (v0 v1:Value) (H:Hp) (n:Nat):bodyE P cal A (k+1) 133 [v0,v1] H n=C133_0 cal k v0 v1 H n:=(bq Go.Proofs.Tryz.f133 code133 results133 (by kernel_rfl)).trans (by kernel_rfl)
noncomputable def code134:Code:=codeOf 134
noncomputable def results134:List ResultVar:=resOf 134
noncomputable def K134_pxr (cal:Cal) (k:Nat):XR:=(upX 0 (doneK P results134) X0)
noncomputable def K134_prl (m1:Nat):KR:=(fun T H n D=>codeF P cal m1 (Lv.a (Lv.b (A 134))) none 134 (cL (cR code134)) (doneK P results134) (K134_pxr cal k) (doneK P results134) (cutT (Lv.a (Lv.b (A 134))).c T) H n D)
noncomputable def K134_pxrll (m1:Nat):XR:=(upX 1 (K134_prl cal k m1) (K134_pxr cal k))
noncomputable def T134_2 (m1:Nat):=fun(u0 u2 u3 u4 u10 u11:Value) (H:Hp) (n:Nat)=>labK (codeE P cal (codeF P cal m1) none 134 (cR (cR (cR (cL (cL (cL (cR code134))))))) (Lv.b (Lv.b (Lv.b (Lv.a (Lv.a (Lv.a (Lv.b (A 134)))))))) (K134_prl cal k m1) (K134_pxrll cal k m1) (doneK P results134)) (Tr.set (Tr.set (Tr.set (Tr.set (Tr.set (Tr.set Tr.nil 11 (some u11)) 10 (some u10)) 4 (some u4)) 3 (some u3)) 2 (some u2)) 0 (some u0)) H n []
noncomputable def T134_1 (m1:Nat):=fun(u0 u2 u3 u4 u10:Value) (H:Hp) (n:Nat)=>labK (codeE P cal (codeF P cal m1) none 134 (cL (cL (cR code134))) (Lv.a (Lv.a (Lv.b (A 134)))) (K134_prl cal k m1) (K134_pxr cal k) (doneK P results134)) (Tr.set (Tr.set (Tr.set (Tr.set (Tr.set Tr.nil 10 (some u10)) 4 (some u4)) 3 (some u3)) 2 (some u2)) 0 (some u0)) H n []
noncomputable def R134_1 (m1:Nat):V5:=fun u0 u2 u3 u4 u10 H n=>codeF P cal m1 (Lv.a (Lv.b (A 134))) none 134 (cL (cR code134)) (doneK P results134) (K134_pxr cal k) (doneK P results134) (Tr.set (Tr.set (Tr.set (Tr.set (Tr.set Tr.nil 10 (some u10)) 4 (some u4)) 3 (some u3)) 2 (some u2)) 0 (some u0)) H n []
noncomputable def B134_2 (cal:Cal) (k m1:Nat) (b1:V5) (u0 u2 u3 u4 u10 u11:Value) (H:Hp) (n:Nat):Res:=
binK P BinOp.add 3 (Operand.tmp 45) (Operand.tmp 46) u3 u10 fun v_e=>
bindO (indexAddrV P 93 u0 v_e) fun v_f=>
bindO (addrV v_f) fun a_g=>bindO (loadV P H 101 a_g) fun v_h=>
binK P BinOp.add 3 (Operand.tmp 51) (Operand.tmp 52) u3 u11 fun v_l=>
bindO (indexAddrV P 93 u0 v_l) fun v_m=>
bindO (addrV v_m) fun a_n=>bindO (loadV P H 101 a_n) fun v_o=>
callVK P cal u4 [v_h,v_o] H n fun v_p H_q n_r=>
binK P BinOp.lss 3 (Operand.tmp 56) (Operand.const (Value.int IntKind.i64 0)) v_p (Value.int IntKind.i64 0) fun v_s=>
bindO (pureSem P v_s (Op.unary UnOp.not v_s)) fun v_t=>
ifK v_t (
some ((Value.tuple ⟨[]⟩),H_q,n_r)) (
binK P BinOp.add 3 (Operand.tmp 60) (Operand.tmp 61) u3 u10 fun v_x=>
binK P BinOp.add 3 (Operand.tmp 64) (Operand.tmp 65) u3 u11 fun v_11=>
binK P BinOp.add 3 (Operand.tmp 68) (Operand.tmp 69) u3 u11 fun v_15=>
bindO (indexAddrV P 93 u0 v_15) fun v_16=>
bindO (addrV v_16) fun a_17=>bindO (loadV P H_q 101 a_17) fun v_18=>
binK P BinOp.add 3 (Operand.tmp 74) (Operand.tmp 75) u3 u10 fun v_1c=>
bindO (indexAddrV P 93 u0 v_1c) fun v_1d=>
bindO (addrV v_1d) fun a_1e=>bindO (loadV P H_q 101 a_1e) fun v_1f=>
bindO (indexAddrV P 93 u0 v_x) fun v_1g=>
bindO (storeP P 101 v_1g v_18 H_q) fun H_1i=>
bindO (indexAddrV P 93 u0 v_11) fun v_1j=>
bindO (storeP P 101 v_1j v_1f H_1i) fun H_1l=>
b1 u0 u2 u3 u4 u11 H_1l n_r)
noncomputable def C134_2 (m1:Nat):=B134_2 cal k m1
theorem h134_2 (m1:Nat):T134_2 cal k m1=C134_2 cal k m1 (R134_1 cal k m1):=by kernel_rfl
noncomputable def B134_1 (cal:Cal) (k m1:Nat) (j2:V6) (b1:V5) (u0 u2 u3 u4 u10:Value) (H:Hp) (n:Nat):Res:=
binK P BinOp.mul 3 (Operand.const (Value.int IntKind.i64 2)) (Operand.tmp 13) (Value.int IntKind.i64 2) u10 fun v_4=>
binK P BinOp.add 3 (Operand.tmp 14) (Operand.const (Value.int IntKind.i64 1)) v_4 (Value.int IntKind.i64 1) fun v_5=>
binK P BinOp.geq 3 (Operand.tmp 16) (Operand.tmp 17) v_5 u2 fun v_9=>
ifK v_9 (
some ((Value.tuple ⟨[]⟩),H,n)) (
binK P BinOp.add 3 (Operand.tmp 19) (Operand.const (Value.int IntKind.i64 1)) v_5 (Value.int IntKind.i64 1) fun v_1p=>
binK P BinOp.lss 3 (Operand.tmp 20) (Operand.tmp 21) v_1p u2 fun v_1r=>
guardD v_1r true (fun k_1t=>
k_1t u4 .p H n) .p H n fun v_1u x_1v H_1w n_1x=>
guardD v_1r true (fun k_1z=>
k_1z u0 .p H_1w n_1x) .p H_1w n_1x fun v_20 x_21 H_22 n_23=>
guardD v_1r true (fun k_25=>
k_25 u3 .p H_22 n_23) .p H_22 n_23 fun v_26 x_27 H_28 n_29=>
guardD v_1r true (fun k_2b=>
k_2b v_5 .p H_28 n_29) .p H_28 n_29 fun v_2c x_2d H_2e n_2f=>
guardD v_1r true (fun k_2h=>
binK P BinOp.add 3 (Operand.tmp 26) (Operand.tmp 27) v_26 v_2c fun v_2m=>
k_2h v_2m .p H_2e n_2f) .p H_2e n_2f fun v_2i x_2j H_2k n_2l=>
guardD v_1r true (fun k_2n=>
bindO (indexAddrV P 93 v_20 v_2i) fun v_2s=>
k_2n v_2s .p H_2k n_2l) .p H_2k n_2l fun v_2o x_2p H_2q n_2r=>
guardD v_1r true (fun k_2t=>
bindO (addrV v_2o) fun a_2y=>bindO (loadV P H_2q 101 a_2y) fun v_2z=>
k_2t v_2z (.l 101 a_2y) H_2q n_2r) .p H_2q n_2r fun v_2u x_2v H_2w n_2x=>
guardD v_1r true (fun k_30=>
k_30 u0 .p H_2w n_2x) .p H_2w n_2x fun v_31 x_32 H_33 n_34=>
guardD v_1r true (fun k_36=>
k_36 u3 .p H_33 n_34) .p H_33 n_34 fun v_37 x_38 H_39 n_3a=>
guardD v_1r true (fun k_3c=>
k_3c v_5 .p H_39 n_3a) .p H_39 n_3a fun v_3d x_3e H_3f n_3g=>
guardD v_1r true (fun k_3i=>
binK P BinOp.add 3 (Operand.tmp 32) (Operand.tmp 33) v_37 v_3d fun v_3n=>
k_3i v_3n .p H_3f n_3g) .p H_3f n_3g fun v_3j x_3k H_3l n_3m=>
guardD v_1r true (fun k_3o=>
binK P BinOp.add 3 (Operand.tmp 34) (Operand.const (Value.int IntKind.i64 1)) v_3j (Value.int IntKind.i64 1) fun v_3t=>
k_3o v_3t .p H_3l n_3m) .p H_3l n_3m fun v_3p x_3q H_3r n_3s=>
guardD v_1r true (fun k_3u=>
bindO (indexAddrV P 93 v_31 v_3p) fun v_3z=>
k_3u v_3z .p H_3r n_3s) .p H_3r n_3s fun v_3v x_3w H_3x n_3y=>
guardD v_1r true (fun k_40=>
bindO (addrV v_3v) fun a_45=>bindO (loadV P H_3x 101 a_45) fun v_46=>
k_40 v_46 (.l 101 a_45) H_3x n_3y) .p H_3x n_3y fun v_41 x_42 H_43 n_44=>
guardD v_1r true (fun k_47=>
callVK P cal v_1u [v_2u,v_41] H_43 n_44 fun v_4c H_4d n_4e=>
k_47 v_4c .e H_4d n_4e) .e H_43 n_44 fun v_48 x_49 H_4a n_4b=>
guardD v_1r true (fun k_4f=>
binK P BinOp.lss 3 (Operand.tmp 38) (Operand.const (Value.int IntKind.i64 0)) v_48 (Value.int IntKind.i64 0) fun v_4k=>
k_4f v_4k .p H_4a n_4b) .p H_4a n_4b fun v_4g x_4h H_4i n_4j=>
bindO (pickV v_1r v_4g (Value.bool false)) fun v_4l=>
ifK v_4l (
binK P BinOp.add 3 (Operand.tmp 41) (Operand.const (Value.int IntKind.i64 1)) v_5 (Value.int IntKind.i64 1) fun v_4n=>
j2 u0 u2 u3 u4 u10 v_4n H_4i n_4j) (
j2 u0 u2 u3 u4 u10 v_5 H_4i n_4j))
noncomputable def C134_1 (m1:Nat) (b1:V5):=B134_1 cal k m1 (C134_2 cal k m1 b1) b1
noncomputable def S134_1:Nat→V5:=recF (C134_1 cal k) (fun _ _ _ _ _ _ _=>none)
theorem h134_1 (m1:Nat):T134_1 cal k m1=C134_1 cal k m1 (R134_1 cal k m1):=Eq.trans (b:=B134_1 cal k m1 (T134_2 cal k m1) (R134_1 cal k m1)) (by kernel_rfl) (by rw[h134_2]; rfl)
theorem q134_1 (m:Nat):T134_1 cal k m=S134_1 cal k m:=recS (h134_1 cal k) (by kernel_rfl) (fun m=>by kernel_rfl) m
noncomputable def B134_0 (cal:Cal) (k:Nat) (j1:V5) (v0 v1 v2 v3 v4:Value) (H:Hp) (n:Nat):Res:=
j1 v0 v2 v3 v4 v1 H n
noncomputable def C134_0:=B134_0 cal k (S134_1 cal k k)
theorem h134_0 (v0 v1 v2 v3 v4:Value) (H:Hp) (n:Nat):bodyE P cal A (k+1) 134 [v0,v1,v2,v3,v4] H n=C134_0 cal k v0 v1 v2 v3 v4 H n:=(bq Go.Proofs.Tryz.f134 code134 results134 (by kernel_rfl)).trans (Eq.trans (b:=B134_0 cal k (T134_1 cal k k) v0 v1 v2 v3 v4 H n) (by kernel_rfl) (by rw[q134_1]; rfl))
noncomputable def code135:Code:=codeOf 135
noncomputable def results135:List ResultVar:=resOf 135
noncomputable def B135_0 (cal:Cal) (k:Nat) (v0:Value) (H:Hp) (n:Nat):Res:=
bindO (pureSem P v0 (convert 3 73 v0)) fun v_3=>
callFK P cal 117 [v_3] H n fun v_4 H_5 n_6=>
binK P BinOp.shl 73 (Operand.const (Value.int IntKind.u64 1)) (Operand.tmp 5) (Value.int IntKind.u64 1) v_4 fun v_7=>
some (v_7,H_5,n_6)
noncomputable def C135_0:=B135_0 cal k
theorem h135_0 (v0:Value) (H:Hp) (n:Nat):bodyE P cal A (k+1) 135 [v0] H n=C135_0 cal k v0 H n:=(bq Go.Proofs.Tryz.f135 code135 results135 (by kernel_rfl)).trans (by kernel_rfl)
noncomputable def code136:Code:=codeOf 136
noncomputable def results136:List ResultVar:=resOf 136
noncomputable def B136_0 (cal:Cal) (k:Nat) (v0:Value) (H:Hp) (n:Nat):Res:=
bindO (nilV v0) fun v_3=>
bindO (addrV v_3) fun a_4=>bindO (loadV P H 191 a_4) fun v_5=>
bindO (nilV v0) fun v_7=>
bindO (addrV v_7) fun a_8=>bindO (loadV P H 191 a_8) fun v_9=>
binK P BinOp.shl 191 (Operand.tmp 8) (Operand.const (Value.int IntKind.u64 13)) v_9 (Value.int IntKind.u64 13) fun v_a=>
binK P BinOp.xor 191 (Operand.tmp 5) (Operand.tmp 9) v_5 v_a fun v_b=>
bindO (nilV v0) fun v_c=>
bindO (storeP P 191 v_c v_b H) fun H_e=>
bindO (nilV v0) fun v_g=>
bindO (addrV v_g) fun a_h=>bindO (loadV P H_e 191 a_h) fun v_i=>
bindO (nilV v0) fun v_k=>
bindO (addrV v_k) fun a_l=>bindO (loadV P H_e 191 a_l) fun v_m=>
binK P BinOp.shr 191 (Operand.tmp 17) (Operand.const (Value.int IntKind.u64 7)) v_m (Value.int IntKind.u64 7) fun v_n=>
binK P BinOp.xor 191 (Operand.tmp 14) (Operand.tmp 18) v_i v_n fun v_o=>
bindO (nilV v0) fun v_p=>
bindO (storeP P 191 v_p v_o H_e) fun H_r=>
bindO (nilV v0) fun v_t=>
bindO (addrV v_t) fun a_u=>bindO (loadV P H_r 191 a_u) fun v_v=>
bindO (nilV v0) fun v_x=>
bindO (addrV v_x) fun a_y=>bindO (loadV P H_r 191 a_y) fun v_z=>
binK P BinOp.shl 191 (Operand.tmp 26) (Operand.const (Value.int IntKind.u64 17)) v_z (Value.int IntKind.u64 17) fun v_10=>
binK P BinOp.xor 191 (Operand.tmp 23) (Operand.tmp 27) v_v v_10 fun v_11=>
bindO (nilV v0) fun v_12=>
bindO (storeP P 191 v_12 v_11 H_r) fun H_14=>
bindO (nilV v0) fun v_16=>
bindO (addrV v_16) fun a_18=>bindO (loadV P H_14 191 a_18) fun v_17=>
some (v_17,H_14,n)
noncomputable def C136_0:=B136_0 cal k
theorem h136_0 (v0:Value) (H:Hp) (n:Nat):bodyE P cal A (k+1) 136 [v0] H n=C136_0 cal k v0 H n:=(bq Go.Proofs.Tryz.f136 code136 results136 (by kernel_rfl)).trans (by kernel_rfl)
noncomputable def code137:Code:=codeOf 137
noncomputable def results137:List ResultVar:=resOf 137
noncomputable def B137_0 (cal:Cal) (k:Nat) (v0 v1 v2 v3:Value) (H:Hp) (n:Nat):Res:=
binK P BinOp.sub 3 (Operand.tmp 10) (Operand.const (Value.int IntKind.i64 1)) v1 (Value.int IntKind.i64 1) fun v_4=>
binK P BinOp.add 3 (Operand.tmp 13) (Operand.const (Value.int IntKind.i64 1)) v1 (Value.int IntKind.i64 1) fun v_7=>
callFK P cal 138 [v0,v_4,v1,v_7,v2,v3] H n fun v_a H_b n_c=>
some (v_a,H_b,n_c)
noncomputable def C137_0:=B137_0 cal k
theorem h137_0 (v0 v1 v2 v3:Value) (H:Hp) (n:Nat):bodyE P cal A (k+1) 137 [v0,v1,v2,v3] H n=C137_0 cal k v0 v1 v2 v3 H n:=(bq Go.Proofs.Tryz.f137 code137 results137 (by kernel_rfl)).trans (by kernel_rfl)
noncomputable def code138:Code:=codeOf 138
noncomputable def results138:List ResultVar:=resOf 138
noncomputable def B138_0 (cal:Cal) (k:Nat) (v0 v1 v2 v3 v4 v5:Value) (H:Hp) (n:Nat):Res:=
callFK P cal 140 [v0,v1,v2,v4,v5] H n fun v_7 H_8 n_9=>
bindO (tupV v_7 0) fun v_b=>
bindO (tupV v_7 1) fun v_c=>
callFK P cal 140 [v0,v_c,v3,v4,v5] H_8 n_9 fun v_k H_l n_m=>
bindO (tupV v_k 0) fun v_o=>
bindO (tupV v_k 1) fun v_p=>
callFK P cal 140 [v0,v_b,v_o,v4,v5] H_l n_m fun v_x H_y n_z=>
bindO (tupV v_x 0) fun v_11=>
bindO (tupV v_x 1) fun v_12=>
some (v_12,H_y,n_z)
noncomputable def C138_0:=B138_0 cal k
theorem h138_0 (v0 v1 v2 v3 v4 v5:Value) (H:Hp) (n:Nat):bodyE P cal A (k+1) 138 [v0,v1,v2,v3,v4,v5] H n=C138_0 cal k v0 v1 v2 v3 v4 v5 H n:=(bq Go.Proofs.Tryz.f138 code138 results138 (by kernel_rfl)).trans (by kernel_rfl)
noncomputable def code139:Code:=codeOf 139
noncomputable def results139:List ResultVar:=resOf 139
noncomputable def B139_0 (cal:Cal) (k:Nat) (v0:Value) (H:Hp) (n:Nat):Res:=
binK P BinOp.neq 101 (Operand.tmp 3) (Operand.tmp 4) v0 v0 fun v_4=>
some (v_4,H,n)
noncomputable def C139_0:=B139_0 cal k
theorem h139_0 (v0:Value) (H:Hp) (n:Nat):bodyE P cal A (k+1) 139 [v0] H n=C139_0 cal k v0 H n:=(bq Go.Proofs.Tryz.f139 code139 results139 (by kernel_rfl)).trans (by kernel_rfl)
noncomputable def code140:Code:=codeOf 140
noncomputable def results140:List ResultVar:=resOf 140
noncomputable def B140_0 (cal:Cal) (k:Nat) (v0 v1 v2 v3 v4:Value) (H:Hp) (n:Nat):Res:=
bindO (indexAddrV P 93 v0 v2) fun v_6=>
bindO (addrV v_6) fun a_7=>bindO (loadV P H 101 a_7) fun v_8=>
bindO (indexAddrV P 93 v0 v1) fun v_b=>
bindO (addrV v_b) fun a_c=>bindO (loadV P H 101 a_c) fun v_d=>
callVK P cal v4 [v_8,v_d] H n fun v_e H_f n_g=>
binK P BinOp.lss 3 (Operand.tmp 21) (Operand.const (Value.int IntKind.i64 0)) v_e (Value.int IntKind.i64 0) fun v_h=>
ifK v_h (
bindO (nilV v3) fun v_j=>
bindO (addrV v_j) fun a_l=>bindO (loadV P H_f 3 a_l) fun v_k=>
binK P BinOp.add 3 (Operand.tmp 25) (Operand.const (Value.int IntKind.i64 1)) v_k (Value.int IntKind.i64 1) fun v_m=>
bindO (nilV v3) fun v_n=>
bindO (storeP P 3 v_n v_m H_f) fun H_p=>
some ((Value.tuple ⟨[v2,v1]⟩),H_p,n_g)) (
some ((Value.tuple ⟨[v1,v2]⟩),H_f,n_g))
noncomputable def C140_0:=B140_0 cal k
theorem h140_0 (v0 v1 v2 v3 v4:Value) (H:Hp) (n:Nat):bodyE P cal A (k+1) 140 [v0,v1,v2,v3,v4] H n=C140_0 cal k v0 v1 v2 v3 v4 H n:=(bq Go.Proofs.Tryz.f140 code140 results140 (by kernel_rfl)).trans (by kernel_rfl)
end Go.Proofs.YtkmjgabdaikomaaGreat.G
end
end
section
open Go Go.Ev
set_option maxRecDepth 1000000
noncomputable section
namespace Go.Proofs.YtkmjgabdaikomaaGreat.G
variable (cal:Cal) (k:Nat)
noncomputable def KK:Nat:=19999
theorem tbl_nil (F:Nat):TblOk P A F ((Tr.nil:Tr (Cal→List Value→Hp→Nat→Res)).get):=by
  intro f S h
  rw[Tr.get_nil] at h
  cases h
theorem tbl_set {F:Nat} {t:Tr (Cal→List Value→Hp→Nat→Res)} {f:Nat} {S:Cal→List Value→Hp→Nat→Res} (ht:TblOk P A F t.get)
    (h:∀ cal args H n r,S cal args H n=some r→bodyE P cal A F f args H n=some r):TblOk P A F (t.set f (some S)).get:=by
  intro g S' e
  rw[Tr.get_set] at e
  split at e
  · rename_i e1
    cases e
    rw[e1]
    exact h
  · exact ht g S' e
section
variable {ρ:Type}
end
noncomputable def ent14 (args:List Value) (H:Hp) (n:Nat):Res:=match args with
  | []=>C14_0 cal KK  H n
  | _=>none
theorem ok14 (args:List Value) (H:Hp) (n:Nat) (r:Value × Hp × Nat) (e:ent14 cal args H n=some r):bodyE P cal A (KK+1) 14 args H n=some r:=by
  unfold ent14 at e
  split at e
  · exact(h14_0 ..).trans e
  · cases e
noncomputable def ent17 (args:List Value) (H:Hp) (n:Nat):Res:=match args with
  | [v0,v1]=>C17_0 cal KK v0 v1 H n
  | _=>none
theorem ok17 (args:List Value) (H:Hp) (n:Nat) (r:Value × Hp × Nat) (e:ent17 cal args H n=some r):bodyE P cal A (KK+1) 17 args H n=some r:=by
  unfold ent17 at e
  split at e
  · exact(h17_0 ..).trans e
  · cases e
noncomputable def ent21 (args:List Value) (H:Hp) (n:Nat):Res:=match args with
  | [v0,v1]=>C21_0 cal KK v0 v1 H n
  | _=>none
theorem ok21 (args:List Value) (H:Hp) (n:Nat) (r:Value × Hp × Nat) (e:ent21 cal args H n=some r):bodyE P cal A (KK+1) 21 args H n=some r:=by
  unfold ent21 at e
  split at e
  · exact(h21_0 ..).trans e
  · cases e
noncomputable def ent23 (args:List Value) (H:Hp) (n:Nat):Res:=match args with
  | [v0,v1]=>C23_0 cal KK v0 v1 H n
  | _=>none
theorem ok23 (args:List Value) (H:Hp) (n:Nat) (r:Value × Hp × Nat) (e:ent23 cal args H n=some r):bodyE P cal A (KK+1) 23 args H n=some r:=by
  unfold ent23 at e
  split at e
  · exact(h23_0 ..).trans e
  · cases e
noncomputable def ent35 (args:List Value) (H:Hp) (n:Nat):Res:=match args with
  | [v0,v1]=>C35_0 cal KK v0 v1 H n
  | _=>none
theorem ok35 (args:List Value) (H:Hp) (n:Nat) (r:Value × Hp × Nat) (e:ent35 cal args H n=some r):bodyE P cal A (KK+1) 35 args H n=some r:=by
  unfold ent35 at e
  split at e
  · exact(h35_0 ..).trans e
  · cases e
noncomputable def ent37 (args:List Value) (H:Hp) (n:Nat):Res:=match args with
  | [v0]=>C37_0 cal KK v0 H n
  | _=>none
theorem ok37 (args:List Value) (H:Hp) (n:Nat) (r:Value × Hp × Nat) (e:ent37 cal args H n=some r):bodyE P cal A (KK+1) 37 args H n=some r:=by
  unfold ent37 at e
  split at e
  · exact(h37_0 ..).trans e
  · cases e
noncomputable def ent38 (args:List Value) (H:Hp) (n:Nat):Res:=match args with
  | [v0,v1,v2]=>C38_0 cal KK v0 v1 v2 H n
  | _=>none
theorem ok38 (args:List Value) (H:Hp) (n:Nat) (r:Value × Hp × Nat) (e:ent38 cal args H n=some r):bodyE P cal A (KK+1) 38 args H n=some r:=by
  unfold ent38 at e
  split at e
  · exact(h38_0 ..).trans e
  · cases e
noncomputable def ent42 (args:List Value) (H:Hp) (n:Nat):Res:=match args with
  | [v0,v1]=>C42_0 cal KK v0 v1 H n
  | _=>none
theorem ok42 (args:List Value) (H:Hp) (n:Nat) (r:Value × Hp × Nat) (e:ent42 cal args H n=some r):bodyE P cal A (KK+1) 42 args H n=some r:=by
  unfold ent42 at e
  split at e
  · exact(h42_0 ..).trans e
  · cases e
noncomputable def ent47 (args:List Value) (H:Hp) (n:Nat):Res:=match args with
  | []=>C47_0 cal KK  H n
  | _=>none
theorem ok47 (args:List Value) (H:Hp) (n:Nat) (r:Value × Hp × Nat) (e:ent47 cal args H n=some r):bodyE P cal A (KK+1) 47 args H n=some r:=by
  unfold ent47 at e
  split at e
  · exact(h47_0 ..).trans e
  · cases e
noncomputable def ent48 (args:List Value) (H:Hp) (n:Nat):Res:=match args with
  | []=>C48_0 cal KK  H n
  | _=>none
theorem ok48 (args:List Value) (H:Hp) (n:Nat) (r:Value × Hp × Nat) (e:ent48 cal args H n=some r):bodyE P cal A (KK+1) 48 args H n=some r:=by
  unfold ent48 at e
  split at e
  · exact(h48_0 ..).trans e
  · cases e
noncomputable def ent49 (args:List Value) (H:Hp) (n:Nat):Res:=match args with
  | [v0]=>C49_0 cal KK v0 H n
  | _=>none
theorem ok49 (args:List Value) (H:Hp) (n:Nat) (r:Value × Hp × Nat) (e:ent49 cal args H n=some r):bodyE P cal A (KK+1) 49 args H n=some r:=by
  unfold ent49 at e
  split at e
  · exact(h49_0 ..).trans e
  · cases e
noncomputable def ent51 (args:List Value) (H:Hp) (n:Nat):Res:=match args with
  | [v0,v1]=>C51_0 cal KK v0 v1 H n
  | _=>none
theorem ok51 (args:List Value) (H:Hp) (n:Nat) (r:Value × Hp × Nat) (e:ent51 cal args H n=some r):bodyE P cal A (KK+1) 51 args H n=some r:=by
  unfold ent51 at e
  split at e
  · exact(h51_0 ..).trans e
  · cases e
noncomputable def ent52 (args:List Value) (H:Hp) (n:Nat):Res:=match args with
  | [v0]=>C52_0 cal KK v0 H n
  | _=>none
theorem ok52 (args:List Value) (H:Hp) (n:Nat) (r:Value × Hp × Nat) (e:ent52 cal args H n=some r):bodyE P cal A (KK+1) 52 args H n=some r:=by
  unfold ent52 at e
  split at e
  · exact(h52_0 ..).trans e
  · cases e
noncomputable def ent53 (args:List Value) (H:Hp) (n:Nat):Res:=match args with
  | [v0,v1]=>C53_0 cal KK v0 v1 H n
  | _=>none
theorem ok53 (args:List Value) (H:Hp) (n:Nat) (r:Value × Hp × Nat) (e:ent53 cal args H n=some r):bodyE P cal A (KK+1) 53 args H n=some r:=by
  unfold ent53 at e
  split at e
  · exact(h53_0 ..).trans e
  · cases e
noncomputable def ent57 (args:List Value) (H:Hp) (n:Nat):Res:=match args with
  | [v0,v1]=>C57_0 cal KK v0 v1 H n
  | _=>none
theorem ok57 (args:List Value) (H:Hp) (n:Nat) (r:Value × Hp × Nat) (e:ent57 cal args H n=some r):bodyE P cal A (KK+1) 57 args H n=some r:=by
  unfold ent57 at e
  split at e
  · exact(h57_0 ..).trans e
  · cases e
noncomputable def ent58 (args:List Value) (H:Hp) (n:Nat):Res:=match args with
  | [v0,v1]=>C58_0 cal KK v0 v1 H n
  | _=>none
theorem ok58 (args:List Value) (H:Hp) (n:Nat) (r:Value × Hp × Nat) (e:ent58 cal args H n=some r):bodyE P cal A (KK+1) 58 args H n=some r:=by
  unfold ent58 at e
  split at e
  · exact(h58_0 ..).trans e
  · cases e
noncomputable def ent65 (args:List Value) (H:Hp) (n:Nat):Res:=match args with
  | [v0]=>C65_0 cal KK v0 H n
  | _=>none
theorem ok65 (args:List Value) (H:Hp) (n:Nat) (r:Value × Hp × Nat) (e:ent65 cal args H n=some r):bodyE P cal A (KK+1) 65 args H n=some r:=by
  unfold ent65 at e
  split at e
  · exact(h65_0 ..).trans e
  · cases e
noncomputable def ent66 (args:List Value) (H:Hp) (n:Nat):Res:=match args with
  | [v0,v1]=>C66_0 cal KK v0 v1 H n
  | _=>none
theorem ok66 (args:List Value) (H:Hp) (n:Nat) (r:Value × Hp × Nat) (e:ent66 cal args H n=some r):bodyE P cal A (KK+1) 66 args H n=some r:=by
  unfold ent66 at e
  split at e
  · exact(h66_0 ..).trans e
  · cases e
noncomputable def ent68 (args:List Value) (H:Hp) (n:Nat):Res:=match args with
  | [v0]=>C68_0 cal KK v0 H n
  | _=>none
theorem ok68 (args:List Value) (H:Hp) (n:Nat) (r:Value × Hp × Nat) (e:ent68 cal args H n=some r):bodyE P cal A (KK+1) 68 args H n=some r:=by
  unfold ent68 at e
  split at e
  · exact(h68_0 ..).trans e
  · cases e
noncomputable def ent69 (args:List Value) (H:Hp) (n:Nat):Res:=match args with
  | [v0,v1,v2]=>C69_0 cal KK v0 v1 v2 H n
  | _=>none
theorem ok69 (args:List Value) (H:Hp) (n:Nat) (r:Value × Hp × Nat) (e:ent69 cal args H n=some r):bodyE P cal A (KK+1) 69 args H n=some r:=by
  unfold ent69 at e
  split at e
  · exact(h69_0 ..).trans e
  · cases e
noncomputable def ent70 (args:List Value) (H:Hp) (n:Nat):Res:=match args with
  | [v0]=>C70_0 cal KK v0 H n
  | _=>none
theorem ok70 (args:List Value) (H:Hp) (n:Nat) (r:Value × Hp × Nat) (e:ent70 cal args H n=some r):bodyE P cal A (KK+1) 70 args H n=some r:=by
  unfold ent70 at e
  split at e
  · exact(h70_0 ..).trans e
  · cases e
noncomputable def ent71 (args:List Value) (H:Hp) (n:Nat):Res:=match args with
  | [v0,v1]=>C71_0 cal KK v0 v1 H n
  | _=>none
theorem ok71 (args:List Value) (H:Hp) (n:Nat) (r:Value × Hp × Nat) (e:ent71 cal args H n=some r):bodyE P cal A (KK+1) 71 args H n=some r:=by
  unfold ent71 at e
  split at e
  · exact(h71_0 ..).trans e
  · cases e
noncomputable def ent72 (args:List Value) (H:Hp) (n:Nat):Res:=match args with
  | [v0,v1]=>C72_0 cal KK v0 v1 H n
  | _=>none
theorem ok72 (args:List Value) (H:Hp) (n:Nat) (r:Value × Hp × Nat) (e:ent72 cal args H n=some r):bodyE P cal A (KK+1) 72 args H n=some r:=by
  unfold ent72 at e
  split at e
  · exact(h72_0 ..).trans e
  · cases e
noncomputable def ent73 (args:List Value) (H:Hp) (n:Nat):Res:=match args with
  | [v0]=>C73_0 cal KK v0 H n
  | _=>none
theorem ok73 (args:List Value) (H:Hp) (n:Nat) (r:Value × Hp × Nat) (e:ent73 cal args H n=some r):bodyE P cal A (KK+1) 73 args H n=some r:=by
  unfold ent73 at e
  split at e
  · exact(h73_0 ..).trans e
  · cases e
noncomputable def ent75 (args:List Value) (H:Hp) (n:Nat):Res:=match args with
  | [v0,v1]=>C75_0 cal KK v0 v1 H n
  | _=>none
theorem ok75 (args:List Value) (H:Hp) (n:Nat) (r:Value × Hp × Nat) (e:ent75 cal args H n=some r):bodyE P cal A (KK+1) 75 args H n=some r:=by
  unfold ent75 at e
  split at e
  · exact(h75_0 ..).trans e
  · cases e
noncomputable def ent76 (args:List Value) (H:Hp) (n:Nat):Res:=match args with
  | [v0]=>C76_0 cal KK v0 H n
  | _=>none
theorem ok76 (args:List Value) (H:Hp) (n:Nat) (r:Value × Hp × Nat) (e:ent76 cal args H n=some r):bodyE P cal A (KK+1) 76 args H n=some r:=by
  unfold ent76 at e
  split at e
  · exact(h76_0 ..).trans e
  · cases e
noncomputable def ent77 (args:List Value) (H:Hp) (n:Nat):Res:=match args with
  | [v0]=>C77_0 cal KK v0 H n
  | _=>none
theorem ok77 (args:List Value) (H:Hp) (n:Nat) (r:Value × Hp × Nat) (e:ent77 cal args H n=some r):bodyE P cal A (KK+1) 77 args H n=some r:=by
  unfold ent77 at e
  split at e
  · exact(h77_0 ..).trans e
  · cases e
noncomputable def ent79 (args:List Value) (H:Hp) (n:Nat):Res:=match args with
  | [v0,v1]=>C79_0 cal KK v0 v1 H n
  | _=>none
theorem ok79 (args:List Value) (H:Hp) (n:Nat) (r:Value × Hp × Nat) (e:ent79 cal args H n=some r):bodyE P cal A (KK+1) 79 args H n=some r:=by
  unfold ent79 at e
  split at e
  · exact(h79_0 ..).trans e
  · cases e
noncomputable def ent83 (args:List Value) (H:Hp) (n:Nat):Res:=match args with
  | [v0,v1]=>C83_0 cal KK v0 v1 H n
  | _=>none
theorem ok83 (args:List Value) (H:Hp) (n:Nat) (r:Value × Hp × Nat) (e:ent83 cal args H n=some r):bodyE P cal A (KK+1) 83 args H n=some r:=by
  unfold ent83 at e
  split at e
  · exact(h83_0 ..).trans e
  · cases e
noncomputable def ent84 (args:List Value) (H:Hp) (n:Nat):Res:=match args with
  | [v0,v1,v2,v3]=>C84_0 cal KK v0 v1 v2 v3 H n
  | _=>none
theorem ok84 (args:List Value) (H:Hp) (n:Nat) (r:Value × Hp × Nat) (e:ent84 cal args H n=some r):bodyE P cal A (KK+1) 84 args H n=some r:=by
  unfold ent84 at e
  split at e
  · exact(h84_0 ..).trans e
  · cases e
noncomputable def ent85 (args:List Value) (H:Hp) (n:Nat):Res:=match args with
  | [v0,v1]=>C85_0 cal KK v0 v1 H n
  | _=>none
theorem ok85 (args:List Value) (H:Hp) (n:Nat) (r:Value × Hp × Nat) (e:ent85 cal args H n=some r):bodyE P cal A (KK+1) 85 args H n=some r:=by
  unfold ent85 at e
  split at e
  · exact(h85_0 ..).trans e
  · cases e
noncomputable def ent86 (args:List Value) (H:Hp) (n:Nat):Res:=match args with
  | [v0,v1]=>C86_0 cal KK v0 v1 H n
  | _=>none
theorem ok86 (args:List Value) (H:Hp) (n:Nat) (r:Value × Hp × Nat) (e:ent86 cal args H n=some r):bodyE P cal A (KK+1) 86 args H n=some r:=by
  unfold ent86 at e
  split at e
  · exact(h86_0 ..).trans e
  · cases e
noncomputable def ent87 (args:List Value) (H:Hp) (n:Nat):Res:=match args with
  | [v0,v1]=>C87_0 cal KK v0 v1 H n
  | _=>none
theorem ok87 (args:List Value) (H:Hp) (n:Nat) (r:Value × Hp × Nat) (e:ent87 cal args H n=some r):bodyE P cal A (KK+1) 87 args H n=some r:=by
  unfold ent87 at e
  split at e
  · exact(h87_0 ..).trans e
  · cases e
noncomputable def ent88 (args:List Value) (H:Hp) (n:Nat):Res:=match args with
  | [v0,v1]=>C88_0 cal KK v0 v1 H n
  | _=>none
theorem ok88 (args:List Value) (H:Hp) (n:Nat) (r:Value × Hp × Nat) (e:ent88 cal args H n=some r):bodyE P cal A (KK+1) 88 args H n=some r:=by
  unfold ent88 at e
  split at e
  · exact(h88_0 ..).trans e
  · cases e
noncomputable def ent89 (args:List Value) (H:Hp) (n:Nat):Res:=match args with
  | [v0]=>C89_0 cal KK v0 H n
  | _=>none
theorem ok89 (args:List Value) (H:Hp) (n:Nat) (r:Value × Hp × Nat) (e:ent89 cal args H n=some r):bodyE P cal A (KK+1) 89 args H n=some r:=by
  unfold ent89 at e
  split at e
  · exact(h89_0 ..).trans e
  · cases e
noncomputable def ent90 (args:List Value) (H:Hp) (n:Nat):Res:=match args with
  | [v0,v1]=>C90_0 cal KK v0 v1 H n
  | _=>none
theorem ok90 (args:List Value) (H:Hp) (n:Nat) (r:Value × Hp × Nat) (e:ent90 cal args H n=some r):bodyE P cal A (KK+1) 90 args H n=some r:=by
  unfold ent90 at e
  split at e
  · exact(h90_0 ..).trans e
  · cases e
noncomputable def ent91 (args:List Value) (H:Hp) (n:Nat):Res:=match args with
  | [v0,v1]=>C91_0 cal KK v0 v1 H n
  | _=>none
theorem ok91 (args:List Value) (H:Hp) (n:Nat) (r:Value × Hp × Nat) (e:ent91 cal args H n=some r):bodyE P cal A (KK+1) 91 args H n=some r:=by
  unfold ent91 at e
  split at e
  · exact(h91_0 ..).trans e
  · cases e
noncomputable def ent92 (args:List Value) (H:Hp) (n:Nat):Res:=match args with
  | [v0]=>C92_0 cal KK v0 H n
  | _=>none
theorem ok92 (args:List Value) (H:Hp) (n:Nat) (r:Value × Hp × Nat) (e:ent92 cal args H n=some r):bodyE P cal A (KK+1) 92 args H n=some r:=by
  unfold ent92 at e
  split at e
  · exact(h92_0 ..).trans e
  · cases e
noncomputable def ent93 (args:List Value) (H:Hp) (n:Nat):Res:=match args with
  | [v0,v1,v2,v3,v4,v5,v6]=>C93_0 cal KK v0 v1 v2 v3 v4 v5 v6 H n
  | _=>none
theorem ok93 (args:List Value) (H:Hp) (n:Nat) (r:Value × Hp × Nat) (e:ent93 cal args H n=some r):bodyE P cal A (KK+1) 93 args H n=some r:=by
  unfold ent93 at e
  split at e
  · exact(h93_0 ..).trans e
  · cases e
noncomputable def ent94 (args:List Value) (H:Hp) (n:Nat):Res:=match args with
  | [v0]=>C94_0 cal KK v0 H n
  | _=>none
theorem ok94 (args:List Value) (H:Hp) (n:Nat) (r:Value × Hp × Nat) (e:ent94 cal args H n=some r):bodyE P cal A (KK+1) 94 args H n=some r:=by
  unfold ent94 at e
  split at e
  · exact(h94_0 ..).trans e
  · cases e
noncomputable def ent95 (args:List Value) (H:Hp) (n:Nat):Res:=match args with
  | [v0]=>C95_0 cal KK v0 H n
  | _=>none
theorem ok95 (args:List Value) (H:Hp) (n:Nat) (r:Value × Hp × Nat) (e:ent95 cal args H n=some r):bodyE P cal A (KK+1) 95 args H n=some r:=by
  unfold ent95 at e
  split at e
  · exact(h95_0 ..).trans e
  · cases e
noncomputable def ent96 (args:List Value) (H:Hp) (n:Nat):Res:=match args with
  | [v0]=>C96_0 cal KK v0 H n
  | _=>none
theorem ok96 (args:List Value) (H:Hp) (n:Nat) (r:Value × Hp × Nat) (e:ent96 cal args H n=some r):bodyE P cal A (KK+1) 96 args H n=some r:=by
  unfold ent96 at e
  split at e
  · exact(h96_0 ..).trans e
  · cases e
noncomputable def ent97 (args:List Value) (H:Hp) (n:Nat):Res:=match args with
  | [v0,v1]=>C97_0 cal KK v0 v1 H n
  | _=>none
theorem ok97 (args:List Value) (H:Hp) (n:Nat) (r:Value × Hp × Nat) (e:ent97 cal args H n=some r):bodyE P cal A (KK+1) 97 args H n=some r:=by
  unfold ent97 at e
  split at e
  · exact(h97_0 ..).trans e
  · cases e
noncomputable def ent99 (args:List Value) (H:Hp) (n:Nat):Res:=match args with
  | [v0]=>C99_0 cal KK v0 H n
  | _=>none
theorem ok99 (args:List Value) (H:Hp) (n:Nat) (r:Value × Hp × Nat) (e:ent99 cal args H n=some r):bodyE P cal A (KK+1) 99 args H n=some r:=by
  unfold ent99 at e
  split at e
  · exact(h99_0 ..).trans e
  · cases e
noncomputable def ent100 (args:List Value) (H:Hp) (n:Nat):Res:=match args with
  | [v0]=>C100_0 cal KK v0 H n
  | _=>none
theorem ok100 (args:List Value) (H:Hp) (n:Nat) (r:Value × Hp × Nat) (e:ent100 cal args H n=some r):bodyE P cal A (KK+1) 100 args H n=some r:=by
  unfold ent100 at e
  split at e
  · exact(h100_0 ..).trans e
  · cases e
noncomputable def ent101 (args:List Value) (H:Hp) (n:Nat):Res:=match args with
  | [v0]=>C101_0 cal KK v0 H n
  | _=>none
theorem ok101 (args:List Value) (H:Hp) (n:Nat) (r:Value × Hp × Nat) (e:ent101 cal args H n=some r):bodyE P cal A (KK+1) 101 args H n=some r:=by
  unfold ent101 at e
  split at e
  · exact(h101_0 ..).trans e
  · cases e
noncomputable def ent102 (args:List Value) (H:Hp) (n:Nat):Res:=match args with
  | [v0,v1]=>C102_0 cal KK v0 v1 H n
  | _=>none
theorem ok102 (args:List Value) (H:Hp) (n:Nat) (r:Value × Hp × Nat) (e:ent102 cal args H n=some r):bodyE P cal A (KK+1) 102 args H n=some r:=by
  unfold ent102 at e
  split at e
  · exact(h102_0 ..).trans e
  · cases e
noncomputable def ent103 (args:List Value) (H:Hp) (n:Nat):Res:=match args with
  | []=>C103_0 cal KK  H n
  | _=>none
theorem ok103 (args:List Value) (H:Hp) (n:Nat) (r:Value × Hp × Nat) (e:ent103 cal args H n=some r):bodyE P cal A (KK+1) 103 args H n=some r:=by
  unfold ent103 at e
  split at e
  · exact(h103_0 ..).trans e
  · cases e
noncomputable def ent104 (args:List Value) (H:Hp) (n:Nat):Res:=match args with
  | [v0,v1,v2]=>C104_0 cal KK v0 v1 v2 H n
  | _=>none
theorem ok104 (args:List Value) (H:Hp) (n:Nat) (r:Value × Hp × Nat) (e:ent104 cal args H n=some r):bodyE P cal A (KK+1) 104 args H n=some r:=by
  unfold ent104 at e
  split at e
  · exact(h104_0 ..).trans e
  · cases e
noncomputable def ent105 (args:List Value) (H:Hp) (n:Nat):Res:=match args with
  | [v0]=>C105_0 cal KK v0 H n
  | _=>none
theorem ok105 (args:List Value) (H:Hp) (n:Nat) (r:Value × Hp × Nat) (e:ent105 cal args H n=some r):bodyE P cal A (KK+1) 105 args H n=some r:=by
  unfold ent105 at e
  split at e
  · exact(h105_0 ..).trans e
  · cases e
noncomputable def ent106 (args:List Value) (H:Hp) (n:Nat):Res:=match args with
  | [v0,v1]=>C106_0 cal KK v0 v1 H n
  | _=>none
theorem ok106 (args:List Value) (H:Hp) (n:Nat) (r:Value × Hp × Nat) (e:ent106 cal args H n=some r):bodyE P cal A (KK+1) 106 args H n=some r:=by
  unfold ent106 at e
  split at e
  · exact(h106_0 ..).trans e
  · cases e
noncomputable def ent107 (args:List Value) (H:Hp) (n:Nat):Res:=match args with
  | [v0]=>C107_0 cal KK v0 H n
  | _=>none
theorem ok107 (args:List Value) (H:Hp) (n:Nat) (r:Value × Hp × Nat) (e:ent107 cal args H n=some r):bodyE P cal A (KK+1) 107 args H n=some r:=by
  unfold ent107 at e
  split at e
  · exact(h107_0 ..).trans e
  · cases e
noncomputable def ent108 (args:List Value) (H:Hp) (n:Nat):Res:=match args with
  | [v0,v1]=>C108_0 cal KK v0 v1 H n
  | _=>none
theorem ok108 (args:List Value) (H:Hp) (n:Nat) (r:Value × Hp × Nat) (e:ent108 cal args H n=some r):bodyE P cal A (KK+1) 108 args H n=some r:=by
  unfold ent108 at e
  split at e
  · exact(h108_0 ..).trans e
  · cases e
noncomputable def ent109 (args:List Value) (H:Hp) (n:Nat):Res:=match args with
  | [v0,v1]=>C109_0 cal KK v0 v1 H n
  | _=>none
theorem ok109 (args:List Value) (H:Hp) (n:Nat) (r:Value × Hp × Nat) (e:ent109 cal args H n=some r):bodyE P cal A (KK+1) 109 args H n=some r:=by
  unfold ent109 at e
  split at e
  · exact(h109_0 ..).trans e
  · cases e
noncomputable def ent110 (args:List Value) (H:Hp) (n:Nat):Res:=match args with
  | [v0,v1]=>C110_0 cal KK v0 v1 H n
  | _=>none
theorem ok110 (args:List Value) (H:Hp) (n:Nat) (r:Value × Hp × Nat) (e:ent110 cal args H n=some r):bodyE P cal A (KK+1) 110 args H n=some r:=by
  unfold ent110 at e
  split at e
  · exact(h110_0 ..).trans e
  · cases e
noncomputable def ent111 (args:List Value) (H:Hp) (n:Nat):Res:=match args with
  | [v0]=>C111_0 cal KK v0 H n
  | _=>none
theorem ok111 (args:List Value) (H:Hp) (n:Nat) (r:Value × Hp × Nat) (e:ent111 cal args H n=some r):bodyE P cal A (KK+1) 111 args H n=some r:=by
  unfold ent111 at e
  split at e
  · exact(h111_0 ..).trans e
  · cases e
noncomputable def ent112 (args:List Value) (H:Hp) (n:Nat):Res:=match args with
  | [v0,v1,v2]=>C112_0 cal KK v0 v1 v2 H n
  | _=>none
theorem ok112 (args:List Value) (H:Hp) (n:Nat) (r:Value × Hp × Nat) (e:ent112 cal args H n=some r):bodyE P cal A (KK+1) 112 args H n=some r:=by
  unfold ent112 at e
  split at e
  · exact(h112_0 ..).trans e
  · cases e
noncomputable def ent113 (args:List Value) (H:Hp) (n:Nat):Res:=match args with
  | [v0,v1]=>C113_0 cal KK v0 v1 H n
  | _=>none
theorem ok113 (args:List Value) (H:Hp) (n:Nat) (r:Value × Hp × Nat) (e:ent113 cal args H n=some r):bodyE P cal A (KK+1) 113 args H n=some r:=by
  unfold ent113 at e
  split at e
  · exact(h113_0 ..).trans e
  · cases e
noncomputable def ent114 (args:List Value) (H:Hp) (n:Nat):Res:=match args with
  | [v0]=>C114_0 cal KK v0 H n
  | _=>none
theorem ok114 (args:List Value) (H:Hp) (n:Nat) (r:Value × Hp × Nat) (e:ent114 cal args H n=some r):bodyE P cal A (KK+1) 114 args H n=some r:=by
  unfold ent114 at e
  split at e
  · exact(h114_0 ..).trans e
  · cases e
noncomputable def ent115 (args:List Value) (H:Hp) (n:Nat):Res:=match args with
  | [v0]=>C115_0 cal KK v0 H n
  | _=>none
theorem ok115 (args:List Value) (H:Hp) (n:Nat) (r:Value × Hp × Nat) (e:ent115 cal args H n=some r):bodyE P cal A (KK+1) 115 args H n=some r:=by
  unfold ent115 at e
  split at e
  · exact(h115_0 ..).trans e
  · cases e
noncomputable def ent116 (args:List Value) (H:Hp) (n:Nat):Res:=match args with
  | [v0,v1,v2,v3,v4]=>C116_0 cal KK v0 v1 v2 v3 v4 H n
  | _=>none
theorem ok116 (args:List Value) (H:Hp) (n:Nat) (r:Value × Hp × Nat) (e:ent116 cal args H n=some r):bodyE P cal A (KK+1) 116 args H n=some r:=by
  unfold ent116 at e
  split at e
  · exact(h116_0 ..).trans e
  · cases e
noncomputable def ent117 (args:List Value) (H:Hp) (n:Nat):Res:=match args with
  | [v0]=>C117_0 cal KK v0 H n
  | _=>none
theorem ok117 (args:List Value) (H:Hp) (n:Nat) (r:Value × Hp × Nat) (e:ent117 cal args H n=some r):bodyE P cal A (KK+1) 117 args H n=some r:=by
  unfold ent117 at e
  split at e
  · exact(h117_0 ..).trans e
  · cases e
noncomputable def ent118 (args:List Value) (H:Hp) (n:Nat):Res:=match args with
  | [v0,v1]=>C118_0 cal KK v0 v1 H n
  | _=>none
theorem ok118 (args:List Value) (H:Hp) (n:Nat) (r:Value × Hp × Nat) (e:ent118 cal args H n=some r):bodyE P cal A (KK+1) 118 args H n=some r:=by
  unfold ent118 at e
  split at e
  · exact(h118_0 ..).trans e
  · cases e
noncomputable def ent119 (args:List Value) (H:Hp) (n:Nat):Res:=match args with
  | [v0,v1]=>C119_0 cal KK v0 v1 H n
  | _=>none
theorem ok119 (args:List Value) (H:Hp) (n:Nat) (r:Value × Hp × Nat) (e:ent119 cal args H n=some r):bodyE P cal A (KK+1) 119 args H n=some r:=by
  unfold ent119 at e
  split at e
  · exact(h119_0 ..).trans e
  · cases e
noncomputable def ent120 (args:List Value) (H:Hp) (n:Nat):Res:=match args with
  | [v0]=>C120_0 cal KK v0 H n
  | _=>none
theorem ok120 (args:List Value) (H:Hp) (n:Nat) (r:Value × Hp × Nat) (e:ent120 cal args H n=some r):bodyE P cal A (KK+1) 120 args H n=some r:=by
  unfold ent120 at e
  split at e
  · exact(h120_0 ..).trans e
  · cases e
noncomputable def ent121 (args:List Value) (H:Hp) (n:Nat):Res:=match args with
  | [v0,v1]=>C121_0 cal KK v0 v1 H n
  | _=>none
theorem ok121 (args:List Value) (H:Hp) (n:Nat) (r:Value × Hp × Nat) (e:ent121 cal args H n=some r):bodyE P cal A (KK+1) 121 args H n=some r:=by
  unfold ent121 at e
  split at e
  · exact(h121_0 ..).trans e
  · cases e
noncomputable def ent122 (args:List Value) (H:Hp) (n:Nat):Res:=match args with
  | [v0]=>C122_0 cal KK v0 H n
  | _=>none
theorem ok122 (args:List Value) (H:Hp) (n:Nat) (r:Value × Hp × Nat) (e:ent122 cal args H n=some r):bodyE P cal A (KK+1) 122 args H n=some r:=by
  unfold ent122 at e
  split at e
  · exact(h122_0 ..).trans e
  · cases e
noncomputable def ent123 (args:List Value) (H:Hp) (n:Nat):Res:=match args with
  | [v0,v1,v2,v3]=>C123_0 cal KK v0 v1 v2 v3 H n
  | _=>none
theorem ok123 (args:List Value) (H:Hp) (n:Nat) (r:Value × Hp × Nat) (e:ent123 cal args H n=some r):bodyE P cal A (KK+1) 123 args H n=some r:=by
  unfold ent123 at e
  split at e
  · exact(h123_0 ..).trans e
  · cases e
noncomputable def ent124 (args:List Value) (H:Hp) (n:Nat):Res:=match args with
  | [v0,v1,v2,v3]=>C124_0 cal KK v0 v1 v2 v3 H n
  | _=>none
theorem ok124 (args:List Value) (H:Hp) (n:Nat) (r:Value × Hp × Nat) (e:ent124 cal args H n=some r):bodyE P cal A (KK+1) 124 args H n=some r:=by
  unfold ent124 at e
  split at e
  · exact(h124_0 ..).trans e
  · cases e
noncomputable def ent125 (args:List Value) (H:Hp) (n:Nat):Res:=match args with
  | [v0,v1,v2,v3]=>C125_0 cal KK v0 v1 v2 v3 H n
  | _=>none
theorem ok125 (args:List Value) (H:Hp) (n:Nat) (r:Value × Hp × Nat) (e:ent125 cal args H n=some r):bodyE P cal A (KK+1) 125 args H n=some r:=by
  unfold ent125 at e
  split at e
  · exact(h125_0 ..).trans e
  · cases e
noncomputable def ent126 (args:List Value) (H:Hp) (n:Nat):Res:=match args with
  | [v0,v1,v2,v3]=>C126_0 cal KK v0 v1 v2 v3 H n
  | _=>none
theorem ok126 (args:List Value) (H:Hp) (n:Nat) (r:Value × Hp × Nat) (e:ent126 cal args H n=some r):bodyE P cal A (KK+1) 126 args H n=some r:=by
  unfold ent126 at e
  split at e
  · exact(h126_0 ..).trans e
  · cases e
noncomputable def ent127 (args:List Value) (H:Hp) (n:Nat):Res:=match args with
  | [v0,v1,v2,v3]=>C127_0 cal KK v0 v1 v2 v3 H n
  | _=>none
theorem ok127 (args:List Value) (H:Hp) (n:Nat) (r:Value × Hp × Nat) (e:ent127 cal args H n=some r):bodyE P cal A (KK+1) 127 args H n=some r:=by
  unfold ent127 at e
  split at e
  · exact(h127_0 ..).trans e
  · cases e
noncomputable def ent128 (args:List Value) (H:Hp) (n:Nat):Res:=match args with
  | [v0,v1,v2,v3]=>C128_0 cal KK v0 v1 v2 v3 H n
  | _=>none
theorem ok128 (args:List Value) (H:Hp) (n:Nat) (r:Value × Hp × Nat) (e:ent128 cal args H n=some r):bodyE P cal A (KK+1) 128 args H n=some r:=by
  unfold ent128 at e
  split at e
  · exact(h128_0 ..).trans e
  · cases e
noncomputable def ent129 (args:List Value) (H:Hp) (n:Nat):Res:=match args with
  | [v0,v1,v2,v3,v4]=>C129_0 cal KK v0 v1 v2 v3 v4 H n
  | _=>none
theorem ok129 (args:List Value) (H:Hp) (n:Nat) (r:Value × Hp × Nat) (e:ent129 cal args H n=some r):bodyE P cal A (KK+1) 129 args H n=some r:=by
  unfold ent129 at e
  split at e
  · exact(h129_0 ..).trans e
  · cases e
noncomputable def ent130 (args:List Value) (H:Hp) (n:Nat):Res:=match args with
  | [v0,v1,v2,v3,v4]=>C130_0 cal KK v0 v1 v2 v3 v4 H n
  | _=>none
theorem ok130 (args:List Value) (H:Hp) (n:Nat) (r:Value × Hp × Nat) (e:ent130 cal args H n=some r):bodyE P cal A (KK+1) 130 args H n=some r:=by
  unfold ent130 at e
  split at e
  · exact(h130_0 ..).trans e
  · cases e
noncomputable def ent131 (args:List Value) (H:Hp) (n:Nat):Res:=match args with
  | [v0]=>C131_0 cal KK v0 H n
  | _=>none
theorem ok131 (args:List Value) (H:Hp) (n:Nat) (r:Value × Hp × Nat) (e:ent131 cal args H n=some r):bodyE P cal A (KK+1) 131 args H n=some r:=by
  unfold ent131 at e
  split at e
  · exact(h131_0 ..).trans e
  · cases e
noncomputable def ent132 (args:List Value) (H:Hp) (n:Nat):Res:=match args with
  | [v0]=>C132_0 cal KK v0 H n
  | _=>none
theorem ok132 (args:List Value) (H:Hp) (n:Nat) (r:Value × Hp × Nat) (e:ent132 cal args H n=some r):bodyE P cal A (KK+1) 132 args H n=some r:=by
  unfold ent132 at e
  split at e
  · exact(h132_0 ..).trans e
  · cases e
noncomputable def ent133 (args:List Value) (H:Hp) (n:Nat):Res:=match args with
  | [v0,v1]=>C133_0 cal KK v0 v1 H n
  | _=>none
theorem ok133 (args:List Value) (H:Hp) (n:Nat) (r:Value × Hp × Nat) (e:ent133 cal args H n=some r):bodyE P cal A (KK+1) 133 args H n=some r:=by
  unfold ent133 at e
  split at e
  · exact(h133_0 ..).trans e
  · cases e
noncomputable def ent134 (args:List Value) (H:Hp) (n:Nat):Res:=match args with
  | [v0,v1,v2,v3,v4]=>C134_0 cal KK v0 v1 v2 v3 v4 H n
  | _=>none
theorem ok134 (args:List Value) (H:Hp) (n:Nat) (r:Value × Hp × Nat) (e:ent134 cal args H n=some r):bodyE P cal A (KK+1) 134 args H n=some r:=by
  unfold ent134 at e
  split at e
  · exact(h134_0 ..).trans e
  · cases e
noncomputable def ent135 (args:List Value) (H:Hp) (n:Nat):Res:=match args with
  | [v0]=>C135_0 cal KK v0 H n
  | _=>none
theorem ok135 (args:List Value) (H:Hp) (n:Nat) (r:Value × Hp × Nat) (e:ent135 cal args H n=some r):bodyE P cal A (KK+1) 135 args H n=some r:=by
  unfold ent135 at e
  split at e
  · exact(h135_0 ..).trans e
  · cases e
noncomputable def ent136 (args:List Value) (H:Hp) (n:Nat):Res:=match args with
  | [v0]=>C136_0 cal KK v0 H n
  | _=>none
theorem ok136 (args:List Value) (H:Hp) (n:Nat) (r:Value × Hp × Nat) (e:ent136 cal args H n=some r):bodyE P cal A (KK+1) 136 args H n=some r:=by
  unfold ent136 at e
  split at e
  · exact(h136_0 ..).trans e
  · cases e
noncomputable def ent137 (args:List Value) (H:Hp) (n:Nat):Res:=match args with
  | [v0,v1,v2,v3]=>C137_0 cal KK v0 v1 v2 v3 H n
  | _=>none
theorem ok137 (args:List Value) (H:Hp) (n:Nat) (r:Value × Hp × Nat) (e:ent137 cal args H n=some r):bodyE P cal A (KK+1) 137 args H n=some r:=by
  unfold ent137 at e
  split at e
  · exact(h137_0 ..).trans e
  · cases e
noncomputable def ent138 (args:List Value) (H:Hp) (n:Nat):Res:=match args with
  | [v0,v1,v2,v3,v4,v5]=>C138_0 cal KK v0 v1 v2 v3 v4 v5 H n
  | _=>none
theorem ok138 (args:List Value) (H:Hp) (n:Nat) (r:Value × Hp × Nat) (e:ent138 cal args H n=some r):bodyE P cal A (KK+1) 138 args H n=some r:=by
  unfold ent138 at e
  split at e
  · exact(h138_0 ..).trans e
  · cases e
noncomputable def ent139 (args:List Value) (H:Hp) (n:Nat):Res:=match args with
  | [v0]=>C139_0 cal KK v0 H n
  | _=>none
theorem ok139 (args:List Value) (H:Hp) (n:Nat) (r:Value × Hp × Nat) (e:ent139 cal args H n=some r):bodyE P cal A (KK+1) 139 args H n=some r:=by
  unfold ent139 at e
  split at e
  · exact(h139_0 ..).trans e
  · cases e
noncomputable def ent140 (args:List Value) (H:Hp) (n:Nat):Res:=match args with
  | [v0,v1,v2,v3,v4]=>C140_0 cal KK v0 v1 v2 v3 v4 H n
  | _=>none
theorem ok140 (args:List Value) (H:Hp) (n:Nat) (r:Value × Hp × Nat) (e:ent140 cal args H n=some r):bodyE P cal A (KK+1) 140 args H n=some r:=by
  unfold ent140 at e
  split at e
  · exact(h140_0 ..).trans e
  · cases e
noncomputable def tab:Tr (Cal→List Value→Hp→Nat→Res):=Tr.set (Tr.set (Tr.set (Tr.set (Tr.set (Tr.set (Tr.set (Tr.set (Tr.set (Tr.set (Tr.set (Tr.set (Tr.set (Tr.set (Tr.set (Tr.set (Tr.set (Tr.set (Tr.set (Tr.set (Tr.set (Tr.set (Tr.set (Tr.set (Tr.set (Tr.set (Tr.set (Tr.set (Tr.set (Tr.set (Tr.set (Tr.set (Tr.set (Tr.set (Tr.set (Tr.set (Tr.set (Tr.set (Tr.set (Tr.set (Tr.set (Tr.set (Tr.set (Tr.set (Tr.set (Tr.set (Tr.set (Tr.set (Tr.set (Tr.set (Tr.set (Tr.set (Tr.set (Tr.set (Tr.set (Tr.set (Tr.set (Tr.set (Tr.set (Tr.set (Tr.set (Tr.set (Tr.set (Tr.set (Tr.set (Tr.set (Tr.set (Tr.set (Tr.set (Tr.set (Tr.set (Tr.set (Tr.set (Tr.set (Tr.set (Tr.set (Tr.set (Tr.set (Tr.set (Tr.set (Tr.set (Tr.set (Tr.set (Tr.set (Tr.set (.nil) 14 (some ent14)) 17 (some ent17)) 21 (some ent21)) 23 (some ent23)) 35 (some ent35)) 37 (some ent37)) 38 (some ent38)) 42 (some ent42)) 47 (some ent47)) 48 (some ent48)) 49 (some ent49)) 51 (some ent51)) 52 (some ent52)) 53 (some ent53)) 57 (some ent57)) 58 (some ent58)) 65 (some ent65)) 66 (some ent66)) 68 (some ent68)) 69 (some ent69)) 70 (some ent70)) 71 (some ent71)) 72 (some ent72)) 73 (some ent73)) 75 (some ent75)) 76 (some ent76)) 77 (some ent77)) 79 (some ent79)) 83 (some ent83)) 84 (some ent84)) 85 (some ent85)) 86 (some ent86)) 87 (some ent87)) 88 (some ent88)) 89 (some ent89)) 90 (some ent90)) 91 (some ent91)) 92 (some ent92)) 93 (some ent93)) 94 (some ent94)) 95 (some ent95)) 96 (some ent96)) 97 (some ent97)) 99 (some ent99)) 100 (some ent100)) 101 (some ent101)) 102 (some ent102)) 103 (some ent103)) 104 (some ent104)) 105 (some ent105)) 106 (some ent106)) 107 (some ent107)) 108 (some ent108)) 109 (some ent109)) 110 (some ent110)) 111 (some ent111)) 112 (some ent112)) 113 (some ent113)) 114 (some ent114)) 115 (some ent115)) 116 (some ent116)) 117 (some ent117)) 118 (some ent118)) 119 (some ent119)) 120 (some ent120)) 121 (some ent121)) 122 (some ent122)) 123 (some ent123)) 124 (some ent124)) 125 (some ent125)) 126 (some ent126)) 127 (some ent127)) 128 (some ent128)) 129 (some ent129)) 130 (some ent130)) 131 (some ent131)) 132 (some ent132)) 133 (some ent133)) 134 (some ent134)) 135 (some ent135)) 136 (some ent136)) 137 (some ent137)) 138 (some ent138)) 139 (some ent139)) 140 (some ent140)
theorem tab_ok:TblOk P A (KK+1) tab.get:=tbl_set (tbl_set (tbl_set (tbl_set (tbl_set (tbl_set (tbl_set (tbl_set (tbl_set (tbl_set (tbl_set (tbl_set (tbl_set (tbl_set (tbl_set (tbl_set (tbl_set (tbl_set (tbl_set (tbl_set (tbl_set (tbl_set (tbl_set (tbl_set (tbl_set (tbl_set (tbl_set (tbl_set (tbl_set (tbl_set (tbl_set (tbl_set (tbl_set (tbl_set (tbl_set (tbl_set (tbl_set (tbl_set (tbl_set (tbl_set (tbl_set (tbl_set (tbl_set (tbl_set (tbl_set (tbl_set (tbl_set (tbl_set (tbl_set (tbl_set (tbl_set (tbl_set (tbl_set (tbl_set (tbl_set (tbl_set (tbl_set (tbl_set (tbl_set (tbl_set (tbl_set (tbl_set (tbl_set (tbl_set (tbl_set (tbl_set (tbl_set (tbl_set (tbl_set (tbl_set (tbl_set (tbl_set (tbl_set (tbl_set (tbl_set (tbl_set (tbl_set (tbl_set (tbl_set (tbl_set (tbl_set (tbl_set (tbl_set (tbl_set (tbl_set (tbl_nil _) ok14) ok17) ok21) ok23) ok35) ok37) ok38) ok42) ok47) ok48) ok49) ok51) ok52) ok53) ok57) ok58) ok65) ok66) ok68) ok69) ok70) ok71) ok72) ok73) ok75) ok76) ok77) ok79) ok83) ok84) ok85) ok86) ok87) ok88) ok89) ok90) ok91) ok92) ok93) ok94) ok95) ok96) ok97) ok99) ok100) ok101) ok102) ok103) ok104) ok105) ok106) ok107) ok108) ok109) ok110) ok111) ok112) ok113) ok114) ok115) ok116) ok117) ok118) ok119) ok120) ok121) ok122) ok123) ok124) ok125) ok126) ok127) ok128) ok129) ok130) ok131) ok132) ok133) ok134) ok135) ok136) ok137) ok138) ok139) ok140
end Go.Proofs.YtkmjgabdaikomaaGreat.G
end
end
