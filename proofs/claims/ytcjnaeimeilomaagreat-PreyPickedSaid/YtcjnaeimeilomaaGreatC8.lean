import Derived.Test.YtcjnaeimeilomaaGreatRows
import Derived.Test.YtcjnaeimeilomaaGreatC7
set_option linter.unusedVariables false
section
open Go Go.Ev
set_option maxRecDepth 1000000
noncomputable section
namespace Go.Proofs.YtcjnaeimeilomaaGreat.G
abbrev KR:=KC (Value × Hp × Nat)
abbrev XR:=XC (Value × Hp × Nat)
noncomputable def P:Program:=Go.Proofs.Tryz.prog
abbrev V0:Type:=Hp→Nat→Res
abbrev V1:Type:=Value→V0
abbrev V2:Type:=Value→V1
abbrev V3:Type:=Value→V2
abbrev V4:Type:=Value→V3
abbrev V5:Type:=Value→V4
abbrev V6:Type:=Value→V5
abbrev V7:Type:=Value→V6
abbrev V8:Type:=Value→V7
abbrev V9:Type:=Value→V8
abbrev V10:Type:=Value→V9
noncomputable def ak(f:FuncId):Code:=match P.funcs[f]? with
 | some fn=>match fn.body with
  | some c=>c
  | none=>.skip
 | none=>.skip
noncomputable def bw(f:FuncId):List ResultVar:=match P.funcs[f]? with
 | some fn=>fn.results.toList
 | none=>[]
noncomputable def cL:Code→Code
 | .seq a _=>a
 | .cond _ a _=>a
 | .block _ c=>c
 | .scope c=>c
 | .loop c=>c
 | _=>.skip
noncomputable def cR:Code→Code
 | .seq _ b=>b
 | .cond _ _ b=>b
 | _=>.skip
noncomputable def X0:XR:=fun _ _ _ _ _=>none
theorem body_eq{cal:Cal}{A:FuncId→Lv}{k f:Nat}{fn:Func}{c:Code}{rs:List ResultVar}{args:List Value}{H:Hp}{n:Nat}(h1:P.funcs[f]?=some fn)(h2:fn.body=some c)
  (h3 : (fn.name == "runtime.NumGoroutine" || fn.ntmps < args.length) = false) (h4 : fn.results.toList = rs) :
  aW P cal A (k+1) f args H n=bW P cal (aY P cal k) none f c (A f) (ay P rs) X0 (ay P rs) (pj .nil 0 args) H n []:=by
 subst h4
 unfold aW
 simp only[h1,h2,h3]
 rfl
noncomputable def lvTab:Tr Lv:=Tr.set (Tr.set (Tr.set (Tr.set (Tr.set (Tr.set (Tr.set (Tr.set (Tr.set (Tr.set (Tr.set (Tr.set (Tr.set (Tr.set (Tr.set (Tr.set (Tr.set (Tr.set (Tr.set (Tr.set (Tr.set (Tr.set (Tr.set (Tr.set (Tr.set (Tr.set (Tr.set (Tr.set (Tr.set (Tr.set (Tr.set (Tr.set (Tr.set (Tr.set (Tr.set (.nil) 23 (some (.node none .leaf (.node none .leaf (.node none (.node none .leaf (.node none (.node (some [0,1,5]) .leaf .leaf) .leaf)) .leaf))))) 48 (some (.node none .leaf (.node none .leaf (.node none (.node none .leaf (.node none (.node (some [0,1,5]) .leaf .leaf) .leaf)) .leaf))))) 53 (some (.node none .leaf (.node none .leaf (.node none .leaf (.node none (.node none .leaf (.node none (.node (some [0,1,2,3]) (.node none .leaf (.node none (.node none (.node none .leaf (.node (some [0,1,2,3]) .leaf .leaf)) .leaf) .leaf)) .leaf) .leaf)) .leaf)))))) 57 (some (.node none .leaf (.node none .leaf (.node none .leaf (.node none .leaf (.node none .leaf (.node none .leaf (.node none (.node none .leaf (.node none (.node (some [7,9,34,35,36]) .leaf .leaf) .leaf)) .leaf))))))))) 58 (some (.node none .leaf (.node none .leaf (.node none (.node none .leaf (.node none (.node (some [3,6,7,8]) .leaf .leaf) .leaf)) .leaf))))) 59 (some (.node none .leaf (.node none .leaf (.node none (.node none .leaf (.node none (.node (some [0,5,15,16,17]) .leaf .leaf) .leaf)) .leaf))))) 63 (some (.node none .leaf (.node none .leaf (.node none .leaf (.node none .leaf (.node (some [6]) (.node none .leaf (.node none (.node (some [0,5,6,7,20,21,22]) .leaf .leaf) .leaf)) .leaf))))))) 64 (some (.node none .leaf (.node none .leaf (.node none (.node none .leaf (.node none (.node (some [0,5,8,9,10]) .leaf .leaf) .leaf)) .leaf))))) 66 (some (.node none .leaf (.node none .leaf (.node none .leaf (.node none (.node none .leaf (.node none (.node (some [5,22,23]) .leaf .leaf) .leaf)) (.node none (.node none .leaf (.node none (.node (some [5,40,41,42]) .leaf .leaf) .leaf)) .leaf))))))) 67 (some (.node none .leaf (.node none .leaf (.node none (.node none .leaf (.node none (.node (some [0,3,13,14]) .leaf .leaf) .leaf)) .leaf))))) 76 (some (.node none .leaf (.node none (.node none .leaf (.node none .leaf (.node none .leaf (.node none .leaf (.node none .leaf (.node none .leaf (.node none .leaf (.node none .leaf (.node (some [10]) (.node none .leaf (.node none (.node (some [0,7,8,9,10,11]) (.node none .leaf (.node none (.node none (.node none .leaf (.node none .leaf (.node none (.node (some [0,7,8,9,10,11,12,54,55,56]) (.node none .leaf (.node none .leaf (.node (some [0,7,8,9,10,11,12,54,55,56]) .leaf .leaf))) .leaf) .leaf))) .leaf) .leaf)) .leaf) .leaf)) .leaf))))))))) .leaf)))) 79 (some (.node none .leaf (.node none (.node none .leaf (.node none (.node (some [1,7,8,9]) .leaf .leaf) .leaf)) .leaf)))) 82 (some (.node none .leaf (.node none (.node none .leaf (.node none (.node (some [1,7,8,9]) .leaf .leaf) .leaf)) .leaf)))) 83 (some (.node none .leaf (.node none .leaf (.node none (.node none .leaf (.node none (.node (some [3,6,7,8]) .leaf .leaf) .leaf)) .leaf))))) 84 (some (.node none .leaf (.node none .leaf (.node none (.node none .leaf (.node none (.node (some [0,3,5]) (.node none .leaf (.node none .leaf (.node (some [0,3,5]) .leaf .leaf))) .leaf) .leaf)) .leaf))))) 90 (some (.node none .leaf (.node (some [0,1]) .leaf (.node none .leaf (.node none (.node none .leaf (.node none (.node (some [0,1,5,6]) (.node none .leaf (.node (some [0,1,5,6]) .leaf .leaf)) .leaf) .leaf)) .leaf)))))) 96 (some (.node none .leaf (.node none .leaf (.node none (.node none .leaf (.node none (.node (some [1,5,13,14]) (.node none .leaf (.node none .leaf (.node (some [1,5,13,14]) .leaf .leaf))) .leaf) .leaf)) .leaf))))) 97 (some (.node none (.node none .leaf (.node none (.node (some []) .leaf .leaf) .leaf)) (.node none .leaf (.node (some [0,6,9]) .leaf (.node none .leaf (.node none (.node (some [0,6,35,36,37]) .leaf .leaf) .leaf))))))) 100 (some (.node none .leaf (.node none (.node none .leaf (.node none (.node (some [0,7,8,9]) .leaf .leaf) .leaf)) .leaf)))) 101 (some (.node none .leaf (.node none .leaf (.node none (.node none (.node (some [0,3]) .leaf .leaf) .leaf) .leaf))))) 102 (some (.node none .leaf (.node none (.node none (.node (some [1,3]) .leaf (.node none .leaf (.node (some [1,16]) .leaf (.node none .leaf (.node (some [25]) .leaf .leaf))))) .leaf) .leaf)))) 103 (some (.node none .leaf (.node none (.node none .leaf (.node none (.node (some [0,3]) .leaf .leaf) .leaf)) .leaf)))) 112 (some (.node none .leaf (.node none (.node (some [0,2,3]) .leaf .leaf) .leaf)))) 113 (some (.node none .leaf (.node none (.node none .leaf (.node none (.node (some [1,7,8,9]) .leaf .leaf) .leaf)) .leaf)))) 115 (some (.node none .leaf (.node none (.node none .leaf (.node none (.node (some [1,7,8,9]) .leaf .leaf) .leaf)) .leaf)))) 116 (some (.node none .leaf (.node none .leaf (.node none (.node none .leaf (.node none (.node (some [2,3,5,9,10,11]) (.node none .leaf (.node none .leaf (.node (some [2,3,5,9,10,11]) .leaf .leaf))) .leaf) .leaf)) .leaf))))) 117 (some (.node none .leaf (.node none (.node none .leaf (.node none (.node (some [1,7,8,9]) .leaf .leaf) .leaf)) .leaf)))) 119 (some (.node none .leaf (.node none (.node (some [0,1,2,10,11]) .leaf .leaf) .leaf)))) 120 (some (.node none .leaf (.node none (.node (some [0,1,3]) .leaf .leaf) .leaf)))) 121 (some (.node none .leaf (.node none .leaf (.node none (.node (some [0,1,2,3,4,10,11]) (.node none (.node none .leaf (.node none .leaf (.node none .leaf (.node (some [0,1,2,3,4,10,11,12]) .leaf (.node none .leaf (.node (some [0,1,2,3,4,10,11,12,13,14]) .leaf (.node (some [0,1,2,3,4,10,11,12,13]) .leaf .leaf))))))) .leaf) .leaf) .leaf))))) 125 (some (.node none .leaf (.node none .leaf (.node none (.node none .leaf (.node none (.node (some [3,6,7,8]) .leaf .leaf) .leaf)) .leaf))))) 130 (some (.node none .leaf (.node none (.node (some [0,1,2,3,8]) (.node none .leaf (.node none (.node none (.node none .leaf (.node none (.node (some [0,1,2,3,8,9]) .leaf .leaf) .leaf)) .leaf) .leaf)) .leaf) .leaf)))) 134 (some (.node none .leaf (.node none .leaf (.node none (.node (some [0,8,9]) .leaf .leaf) .leaf))))) 138 (some (.node none .leaf (.node (some [0,2]) .leaf (.node (some [0,2]) .leaf .leaf))))) 139 (some (.node none .leaf (.node (some [0,2]) .leaf (.node (some [0,2]) .leaf (.node (some [0,2]) .leaf .leaf)))))
noncomputable def A(f:FuncId):Lv:=match lvTab.get f with
 | some l=>l
 | none=>.leaf
noncomputable def recF{α:Type}(C:Nat→α→α)(z:α)(m:Nat):α:=Nat.rec (motive:=fun _=>α) (C 0 z) (fun m ih=>C (m+1) ih) m
theorem recS{α:Type}{T R:Nat→α}{z:α}{C:Nat→α→α}(h:∀ m,T m=C m (R m))(h0:R 0=z)(hs:∀ m,R (m+1)=T m):∀ m,T m=recF C z m
 | 0=>by rw[h,h0]; rfl
 | m+1=>by rw[h,hs,recS h h0 hs m]; rfl
theorem bq{cal : Cal}{k f : Nat}{args : List Value}{H : Hp}{n : Nat}(fn : Func)(c : Code)(rs : List ResultVar)(h : (P.funcs[f]?, fn.body, (fn.name == "runtime.NumGoroutine" || fn.ntmps < args.length), fn.results.toList) = (some fn, some c, false, rs)) :
  aW P cal A (k+1) f args H n=bW P cal (aY P cal k) none f c (A f) (ay P rs) X0 (ay P rs) (pj .nil 0 args) H n []:=by
 simp only[Prod.mk.injEq] at h
 exact body_eq h.1 h.2.1 h.2.2.1 h.2.2.2
end Go.Proofs.YtcjnaeimeilomaaGreat.G
end
end
section
open Go Go.Ev
set_option maxRecDepth 1000000
noncomputable section
namespace Go.Proofs.YtcjnaeimeilomaaGreat.G
variable (cal:Cal) (k:Nat)
noncomputable def code16:Code:=ak 16
noncomputable def results16:List ResultVar:=bw 16
noncomputable def B16_0(cal:Cal)(k:Nat)(H:Hp)(n:Nat):Res:=
aZ P cal 53 [] H n fun v_2 H_3 n_4=>
aZ P cal 54 [] H_3 n_4 fun v_5 H_6 n_7=>
bindO (lw P 30 v_5 none (some (Value.int IntKind.i64 2))) fun v_8=>
aZ P cal 19 [v_2,v_8] H_6 n_7 fun v_9 H_a n_b=>
bindO (tupV v_9 0) fun v_d=>
bindO (tupV v_9 1) fun v_e=>
aZ P cal 53 [] H_a n_b fun v_h H_i n_j=>
aZ P cal 42 [v_h,(Value.int IntKind.i64 2)] H_i n_j fun v_k H_l n_m=>
bindO (tupV v_k 0) fun v_o=>
bindO (tupV v_k 1) fun v_p=>
aZ P cal 53 [] H_l n_m fun v_s H_t n_u=>
aZ P cal 32 [v_s] H_t n_u fun v_v H_w n_x=>
bindO (tupV v_v 0) fun v_z=>
bindO (tupV v_v 1) fun v_10=>
aZ P cal 53 [] H_w n_x fun v_13 H_14 n_15=>
aZ P cal 54 [] H_14 n_15 fun v_16 H_17 n_18=>
aZ P cal 25 [v_13,v_16] H_17 n_18 fun v_19 H_1a n_1b=>
bindO (tupV v_19 0) fun v_1d=>
bindO (tupV v_19 1) fun v_1e=>
bindO (tupV v_19 2) fun v_1f=>
aZ P cal 53 [] H_1a n_1b fun v_1j H_1k n_1l=>
aZ P cal 34 [v_1j,(Value.int IntKind.i64 1),(Value.int IntKind.i64 2)] H_1k n_1l fun v_1m H_1n n_1o=>
bindO (tupV v_1m 0) fun v_1q=>
bindO (tupV v_1m 1) fun v_1r=>
bindO (tupV v_1m 2) fun v_1s=>
binK P BinOp.eql 33 (Operand.tmp 43) (Operand.const (Value.int IntKind.i64 0)) v_e (Value.int IntKind.i64 0) fun v_1x=>
bj v_1x true (fun k_1z=>
k_1z v_d H_1n n_1o) H_1n n_1o fun v_20 H_21 n_22=>
bj v_1x true (fun k_24=>
rowK P 27 5 [(0,(Value.int IntKind.i64 0)),(1,(Value.int IntKind.i64 1)),(2,(Value.int IntKind.i64 2)),(3,(Value.int IntKind.i64 3)),(4,(Value.int IntKind.i64 4))] H_21 n_22 fun v_28 H_29 n_2a=>
k_24 v_28 H_29 n_2a) H_21 n_22 fun v_25 H_26 n_27=>
bj v_1x true (fun k_2b=>
rowK P 27 3 [(0,(Value.int IntKind.i64 2)),(1,(Value.int IntKind.i64 3)),(2,(Value.int IntKind.i64 4))] H_26 n_27 fun v_2f H_2g n_2h=>
k_2b v_2f H_2g n_2h) H_26 n_27 fun v_2c H_2d n_2e=>
bj v_1x true (fun k_2i=>
rowK P 27 2 [(0,(Value.int IntKind.i64 3)),(1,(Value.int IntKind.i64 4))] H_2d n_2e fun v_2m H_2n n_2o=>
k_2i v_2m H_2n n_2o) H_2d n_2e fun v_2j H_2k n_2l=>
bj v_1x true (fun k_2p=>
rowK P 30 3 [(0,v_25),(1,v_2c),(2,v_2j)] H_2k n_2l fun v_2t H_2u n_2v=>
k_2p v_2t H_2u n_2v) H_2k n_2l fun v_2q H_2r n_2s=>
bj v_1x true (fun k_2w=>
aZ P cal 23 [v_20,v_2q] H_2r n_2s fun v_30 H_31 n_32=>
k_2w v_30 H_31 n_32) H_2r n_2s fun v_2x H_2y n_2z=>
bindO (fV v_1x v_2x (Value.bool false)) fun v_33=>
bj v_33 true (fun k_35=>
k_35 v_p H_2y n_2z) H_2y n_2z fun v_36 H_37 n_38=>
bj v_33 true (fun k_3a=>
binK P BinOp.eql 33 (Operand.tmp 54) (Operand.const (Value.int IntKind.i64 0)) v_36 (Value.int IntKind.i64 0) fun v_3e=>
k_3a v_3e H_37 n_38) H_37 n_38 fun v_3b H_3c n_3d=>
bindO (fV v_33 v_3b (Value.bool false)) fun v_3f=>
bj v_3f true (fun k_3h=>
k_3h v_o H_3c n_3d) H_3c n_3d fun v_3i H_3j n_3k=>
bj v_3f true (fun k_3m=>
aZ P cal 54 [] H_3j n_3k fun v_3q H_3r n_3s=>
k_3m v_3q H_3r n_3s) H_3j n_3k fun v_3n H_3o n_3p=>
bj v_3f true (fun k_3t=>
aZ P cal 23 [v_3i,v_3n] H_3o n_3p fun v_3x H_3y n_3z=>
k_3t v_3x H_3y n_3z) H_3o n_3p fun v_3u H_3v n_3w=>
bindO (fV v_3f v_3u (Value.bool false)) fun v_40=>
bj v_40 true (fun k_42=>
k_42 v_10 H_3v n_3w) H_3v n_3w fun v_43 H_44 n_45=>
bj v_40 true (fun k_47=>
binK P BinOp.eql 33 (Operand.tmp 63) (Operand.const (Value.int IntKind.i64 0)) v_43 (Value.int IntKind.i64 0) fun v_4b=>
k_47 v_4b H_44 n_45) H_44 n_45 fun v_48 H_49 n_4a=>
bindO (fV v_40 v_48 (Value.bool false)) fun v_4c=>
bj v_4c true (fun k_4e=>
k_4e v_z H_49 n_4a) H_49 n_4a fun v_4f H_4g n_4h=>
bj v_4c true (fun k_4j=>
binK P BinOp.eql 3 (Operand.tmp 67) (Operand.const (Value.int IntKind.i64 2)) v_4f (Value.int IntKind.i64 2) fun v_4n=>
k_4j v_4n H_4g n_4h) H_4g n_4h fun v_4k H_4l n_4m=>
bindO (fV v_4c v_4k (Value.bool false)) fun v_4o=>
bj v_4o true (fun k_4q=>
k_4q v_1f H_4l n_4m) H_4l n_4m fun v_4r H_4s n_4t=>
bj v_4o true (fun k_4v=>
binK P BinOp.eql 33 (Operand.tmp 71) (Operand.const (Value.int IntKind.i64 0)) v_4r (Value.int IntKind.i64 0) fun v_4z=>
k_4v v_4z H_4s n_4t) H_4s n_4t fun v_4w H_4x n_4y=>
bindO (fV v_4o v_4w (Value.bool false)) fun v_50=>
bj v_50 true (fun k_52=>
k_52 v_1d H_4x n_4y) H_4x n_4y fun v_53 H_54 n_55=>
bj v_50 true (fun k_57=>
binK P BinOp.eql 3 (Operand.tmp 75) (Operand.const (Value.int IntKind.i64 20)) v_53 (Value.int IntKind.i64 20) fun v_5b=>
k_57 v_5b H_54 n_55) H_54 n_55 fun v_58 H_59 n_5a=>
bindO (fV v_50 v_58 (Value.bool false)) fun v_5c=>
bj v_5c true (fun k_5e=>
k_5e v_1e H_59 n_5a) H_59 n_5a fun v_5f H_5g n_5h=>
bj v_5c true (fun k_5j=>
rowK P 27 4 [(0,(Value.int IntKind.i64 4)),(1,(Value.int IntKind.i64 4)),(2,(Value.int IntKind.i64 4)),(3,(Value.int IntKind.i64 4))] H_5g n_5h fun v_5n H_5o n_5p=>
k_5j v_5n H_5o n_5p) H_5g n_5h fun v_5k H_5l n_5m=>
bj v_5c true (fun k_5q=>
aZ P cal 48 [v_5f,v_5k] H_5l n_5m fun v_5u H_5v n_5w=>
k_5q v_5u H_5v n_5w) H_5l n_5m fun v_5r H_5s n_5t=>
bindO (fV v_5c v_5r (Value.bool false)) fun v_5x=>
bj v_5x true (fun k_5z=>
k_5z v_1s H_5s n_5t) H_5s n_5t fun v_60 H_61 n_62=>
bj v_5x true (fun k_64=>
binK P BinOp.eql 33 (Operand.tmp 84) (Operand.const (Value.int IntKind.i64 0)) v_60 (Value.int IntKind.i64 0) fun v_68=>
k_64 v_68 H_61 n_62) H_61 n_62 fun v_65 H_66 n_67=>
bindO (fV v_5x v_65 (Value.bool false)) fun v_69=>
bj v_69 true (fun k_6b=>
k_6b v_1q H_66 n_67) H_66 n_67 fun v_6c H_6d n_6e=>
bj v_69 true (fun k_6g=>
rowK P 27 1 [(0,(Value.int IntKind.i64 4))] H_6d n_6e fun v_6k H_6l n_6m=>
k_6g v_6k H_6l n_6m) H_6d n_6e fun v_6h H_6i n_6j=>
bj v_69 true (fun k_6n=>
rowK P 30 2 [(0,v_6h),(1,(Value.slice none 0 0))] H_6i n_6j fun v_6r H_6s n_6t=>
k_6n v_6r H_6s n_6t) H_6i n_6j fun v_6o H_6p n_6q=>
bj v_69 true (fun k_6u=>
aZ P cal 23 [v_6c,v_6o] H_6p n_6q fun v_6y H_6z n_70=>
k_6u v_6y H_6z n_70) H_6p n_6q fun v_6v H_6w n_6x=>
bindO (fV v_69 v_6v (Value.bool false)) fun v_71=>
bj v_71 true (fun k_73=>
k_73 v_1r H_6w n_6x) H_6w n_6x fun v_74 H_75 n_76=>
bj v_71 true (fun k_78=>
binK P BinOp.eql 3 (Operand.tmp 94) (Operand.const (Value.int IntKind.i64 9)) v_74 (Value.int IntKind.i64 9) fun v_7c=>
k_78 v_7c H_75 n_76) H_75 n_76 fun v_79 H_7a n_7b=>
bindO (fV v_71 v_79 (Value.bool false)) fun v_7d=>
some (v_7d,H_7a,n_7b)
noncomputable def C16_0:=B16_0 cal k 
theorem h16_0(H:Hp)(n:Nat):aW P cal A (k+1) 16 [] H n=C16_0 cal k  H n:=(bq Go.Proofs.Tryz.f16 code16 results16 (by kernel_rfl)).trans (by kernel_rfl)
noncomputable def code19:Code:=ak 19
noncomputable def QQ:List ResultVar:=bw 19
noncomputable def B19_0(cal:Cal)(k:Nat)(v0 v1:Value)(H:Hp)(n:Nat):Res:=
boxK 41 v0 H n fun v_1 H_2 n_3=>
bindO (aX v_1) fun a_7=>bindO (az P H_2 41 a_7) fun v_6=>
aZ P cal 57 [v_6,v1] H_2 n_3 fun v_9 H_a n_b=>
bindO (tupV v_9 0) fun v_d=>
bindO (tupV v_9 1) fun v_e=>
bindO (tupV v_9 2) fun v_f=>
binK P BinOp.neq 33 (Operand.tmp 16) (Operand.const (Value.int IntKind.i64 0)) v_f (Value.int IntKind.i64 0) fun v_k=>
ifK v_k (
some ((Value.tuple ⟨[(Value.slice none 0 0),v_f]⟩),H_a,n_b)) (
aZ P cal 59 [v_d,v_e] H_a n_b fun v_q H_r n_s=>
aZ P cal 58 [v_q] H_r n_s fun v_t H_u n_v=>
some ((Value.tuple ⟨[v_t,(Value.int IntKind.i64 0)]⟩),H_u,n_v))
noncomputable def C19_0:=B19_0 cal k
theorem h19_0(v0 v1:Value)(H:Hp)(n:Nat):aW P cal A (k+1) 19 [v0,v1] H n=C19_0 cal k v0 v1 H n:=(bq Go.Proofs.Tryz.f19 code19 QQ (by kernel_rfl)).trans (by kernel_rfl)
noncomputable def code23:Code:=ak 23
noncomputable def wQ:List ResultVar:=bw 23
noncomputable def K23_prr:KR:=(cutK (Lv.b (Lv.b (A 23))).c (bW P cal (aY P cal k) none 23 (cR (cR (cR code23))) (Lv.b (Lv.b (Lv.b (A 23)))) (ay P wQ) X0 (ay P wQ)))
noncomputable def Nz:XR:=(upX 0 (K23_prr cal k) X0)
noncomputable def K23_prrlrl(m1:Nat):KR:=(fun T H n D=>aY P cal m1 (Lv.a (Lv.b (Lv.a (Lv.b (Lv.b (A 23)))))) none 23 (cL (cR (cL (cR (cR code23))))) (K23_prr cal k) (Nz cal k) (ay P wQ) (cutT (Lv.a (Lv.b (Lv.a (Lv.b (Lv.b (A 23)))))).c T) H n D)
noncomputable def T23_1(m1:Nat):=fun(u0 u1 u5:Value) (H:Hp) (n:Nat)=>labK (bW P cal (aY P cal m1) none 23 (cL (cL (cR (cL (cR (cR code23)))))) (Lv.a (Lv.a (Lv.b (Lv.a (Lv.b (Lv.b (A 23))))))) (K23_prrlrl cal k m1) (Nz cal k) (ay P wQ)) (Tr.set (Tr.set (Tr.set Tr.nil 5 (some u5)) 1 (some u1)) 0 (some u0)) H n []
noncomputable def R23_1(m1:Nat):V3:=fun u0 u1 u5 H n=>aY P cal m1 (Lv.a (Lv.b (Lv.a (Lv.b (Lv.b (A 23)))))) none 23 (cL (cR (cL (cR (cR code23))))) (K23_prr cal k) (Nz cal k) (ay P wQ) (Tr.set (Tr.set (Tr.set Tr.nil 5 (some u5)) 1 (some u1)) 0 (some u0)) H n []
noncomputable def B23_1(cal:Cal)(k m1:Nat)(b1:V3)(u0 u1 u5:Value)(H:Hp)(n:Nat):Res:=
bindO (lenV P 30 u0) fun v_b=>
binK P BinOp.lss 3 (Operand.tmp 11) (Operand.tmp 13) u5 v_b fun v_c=>
ifK v_c (
bindO (aJ P 30 u0 u5) fun v_f=>
bindO (aX v_f) fun a_g=>bindO (az P H 27 a_g) fun v_h=>
bindO (aJ P 30 u1 u5) fun v_k=>
bindO (aX v_k) fun a_l=>bindO (az P H 27 a_l) fun v_m=>
aZ P cal 48 [v_h,v_m] H n fun v_n H_o n_p=>
bindO (dk P v_n (Op.unary UnOp.not v_n)) fun v_q=>
ifK v_q (
some ((Value.bool false),H_o,n_p)) (
binK P BinOp.add 3 (Operand.tmp 15) (Operand.const (Value.int IntKind.i64 1)) u5 (Value.int IntKind.i64 1) fun v_t=>
b1 u0 u1 v_t H_o n_p)) (
some ((Value.bool true),H,n))
noncomputable def C23_1(m1:Nat):=B23_1 cal k m1
noncomputable def S23_1:Nat→V3:=recF (C23_1 cal k) (fun _ _ _ _ _=>none)
theorem h23_1(m1:Nat):T23_1 cal k m1=C23_1 cal k m1 (R23_1 cal k m1):=by kernel_rfl
theorem q23_1(m:Nat):T23_1 cal k m=S23_1 cal k m:=recS (h23_1 cal k) (by kernel_rfl) (fun m=>by kernel_rfl) m
noncomputable def B23_0(cal:Cal)(k:Nat)(j1:V3)(v0 v1:Value)(H:Hp)(n:Nat):Res:=
bindO (lenV P 30 v0) fun v_3=>
bindO (lenV P 30 v1) fun v_5=>
binK P BinOp.neq 3 (Operand.tmp 7) (Operand.tmp 9) v_3 v_5 fun v_6=>
ifK v_6 (
some ((Value.bool false),H,n)) (
j1 v0 v1 (Value.int IntKind.i64 0) H n)
noncomputable def C23_0:=B23_0 cal k (S23_1 cal k k)
theorem h23_0(v0 v1:Value)(H:Hp)(n:Nat):aW P cal A (k+1) 23 [v0,v1] H n=C23_0 cal k v0 v1 H n:=(bq Go.Proofs.Tryz.f23 code23 wQ (by kernel_rfl)).trans (Eq.trans (b:=B23_0 cal k (T23_1 cal k k) v0 v1 H n) (by kernel_rfl) (by rw[q23_1]; rfl))
noncomputable def code25:Code:=ak 25
noncomputable def QV:List ResultVar:=bw 25
noncomputable def B25_0(cal:Cal)(k:Nat)(v0 v1:Value)(H:Hp)(n:Nat):Res:=
boxK 41 v0 H n fun v_1 H_2 n_3=>
bindO (aX v_1) fun a_8=>bindO (az P H_2 41 a_8) fun v_7=>
aZ P cal 57 [v_7,v1] H_2 n_3 fun v_a H_b n_c=>
bindO (tupV v_a 0) fun v_e=>
bindO (tupV v_a 1) fun v_f=>
bindO (tupV v_a 2) fun v_g=>
binK P BinOp.neq 33 (Operand.tmp 16) (Operand.const (Value.int IntKind.i64 0)) v_g (Value.int IntKind.i64 0) fun v_l=>
ifK v_l (
some ((Value.tuple ⟨[(Value.int IntKind.i64 0),(Value.slice none 0 0),v_g]⟩),H_b,n_c)) (
bindO (nilV v_e) fun v_r=>
bindO (ax P 109 v_r 0) fun v_s=>
bindO (ax P 41 v_s 1) fun v_t=>
bindO (aX v_t) fun a_v=>bindO (az P H_b 27 a_v) fun v_u=>
bindO (lenV P 27 v_u) fun v_w=>
binK P BinOp.eql 3 (Operand.tmp 24) (Operand.const (Value.int IntKind.i64 0)) v_w (Value.int IntKind.i64 0) fun v_x=>
ifK v_x (
some ((Value.tuple ⟨[(Value.int IntKind.i64 0),(Value.slice none 0 0),(Value.int IntKind.i64 7)]⟩),H_b,n_c)) (
aZ P cal 63 [v_e,v_f] H_b n_c fun v_13 H_14 n_15=>
aZ P cal 64 [v_e,v_13] H_14 n_15 fun v_19 H_1a n_1b=>
some ((Value.tuple ⟨[v_19,v_13,(Value.int IntKind.i64 0)]⟩),H_1a,n_1b)))
noncomputable def C25_0:=B25_0 cal k
theorem h25_0(v0 v1:Value)(H:Hp)(n:Nat):aW P cal A (k+1) 25 [v0,v1] H n=C25_0 cal k v0 v1 H n:=(bq Go.Proofs.Tryz.f25 code25 QV (by kernel_rfl)).trans (by kernel_rfl)
noncomputable def code32:Code:=ak 32
noncomputable def results32:List ResultVar:=bw 32
noncomputable def B32_0(cal:Cal)(k:Nat)(v0:Value)(H:Hp)(n:Nat):Res:=
boxK 41 v0 H n fun v_1 H_2 n_3=>
bindO (aX v_1) fun a_7=>bindO (az P H_2 41 a_7) fun v_6=>
aZ P cal 66 [v_6] H_2 n_3 fun v_8 H_9 n_a=>
bindO (tupV v_8 0) fun v_c=>
bindO (tupV v_8 1) fun v_d=>
binK P BinOp.neq 33 (Operand.tmp 11) (Operand.const (Value.int IntKind.i64 0)) v_d (Value.int IntKind.i64 0) fun v_h=>
ifK v_h (
some ((Value.tuple ⟨[(Value.int IntKind.i64 0),v_d]⟩),H_9,n_a)) (
aZ P cal 67 [v_c] H_9 n_a fun v_m H_n n_o=>
some ((Value.tuple ⟨[v_m,(Value.int IntKind.i64 0)]⟩),H_n,n_o))
noncomputable def C32_0:=B32_0 cal k
theorem h32_0(v0:Value)(H:Hp)(n:Nat):aW P cal A (k+1) 32 [v0] H n=C32_0 cal k v0 H n:=(bq Go.Proofs.Tryz.f32 code32 results32 (by kernel_rfl)).trans (by kernel_rfl)
noncomputable def code34:Code:=ak 34
noncomputable def results34:List ResultVar:=bw 34
noncomputable def B34_0(cal:Cal)(k:Nat)(v0 v1 v2:Value)(H:Hp)(n:Nat):Res:=
boxK 41 v0 H n fun v_1 H_2 n_3=>
bindO (aX v_1) fun a_8=>bindO (az P H_2 41 a_8) fun v_7=>
aZ P cal 66 [v_7] H_2 n_3 fun v_9 H_a n_b=>
bindO (tupV v_9 0) fun v_d=>
bindO (tupV v_9 1) fun v_e=>
binK P BinOp.neq 33 (Operand.tmp 16) (Operand.const (Value.int IntKind.i64 0)) v_e (Value.int IntKind.i64 0) fun v_i=>
ifK v_i (
some ((Value.tuple ⟨[(Value.slice none 0 0),(Value.int IntKind.i64 0),v_e]⟩),H_a,n_b)) (
binK P BinOp.lss 3 (Operand.tmp 19) (Operand.const (Value.int IntKind.i64 0)) v1 (Value.int IntKind.i64 0) fun v_o=>
bj v_o false (fun k_q=>
k_q v1 H_a n_b) H_a n_b fun v_r H_s n_t=>
bj v_o false (fun k_v=>
binK P BinOp.gtr 3 (Operand.tmp 22) (Operand.const (Value.int IntKind.i64 2)) v_r (Value.int IntKind.i64 2) fun v_z=>
k_v v_z H_s n_t) H_s n_t fun v_w H_x n_y=>
bindO (fV v_o (Value.bool true) v_w) fun v_10=>
bj v_10 false (fun k_12=>
k_12 v2 H_x n_y) H_x n_y fun v_13 H_14 n_15=>
bj v_10 false (fun k_17=>
binK P BinOp.lss 3 (Operand.tmp 26) (Operand.const (Value.int IntKind.i64 0)) v_13 (Value.int IntKind.i64 0) fun v_1b=>
k_17 v_1b H_14 n_15) H_14 n_15 fun v_18 H_19 n_1a=>
bindO (fV v_10 (Value.bool true) v_18) fun v_1c=>
bj v_1c false (fun k_1e=>
k_1e v2 H_19 n_1a) H_19 n_1a fun v_1f H_1g n_1h=>
bj v_1c false (fun k_1j=>
binK P BinOp.gtr 3 (Operand.tmp 30) (Operand.const (Value.int IntKind.i64 3)) v_1f (Value.int IntKind.i64 3) fun v_1n=>
k_1j v_1n H_1g n_1h) H_1g n_1h fun v_1k H_1l n_1m=>
bindO (fV v_1c (Value.bool true) v_1k) fun v_1o=>
ifK v_1o (
some ((Value.tuple ⟨[(Value.slice none 0 0),(Value.int IntKind.i64 0),(Value.int IntKind.i64 2)]⟩),H_1l,n_1m)) (
bindO (nilV v_d) fun v_1t=>
bindO (ax P 109 v_1t 0) fun v_1u=>
bindO (ax P 41 v_1u 1) fun v_1v=>
bindO (aX v_1v) fun a_1x=>bindO (az P H_1l 27 a_1x) fun v_1w=>
bindO (lenV P 27 v_1w) fun v_1y=>
binK P BinOp.eql 3 (Operand.tmp 38) (Operand.const (Value.int IntKind.i64 0)) v_1y (Value.int IntKind.i64 0) fun v_1z=>
ifK v_1z (
some ((Value.tuple ⟨[(Value.slice none 0 0),(Value.int IntKind.i64 0),(Value.int IntKind.i64 7)]⟩),H_1l,n_1m)) (
aZ P cal 71 [v_d,v1,v2] H_1l n_1m fun v_26 H_27 n_28=>
bindO (tupV v_26 0) fun v_2a=>
bindO (tupV v_26 1) fun v_2b=>
aZ P cal 58 [v_2a] H_27 n_28 fun v_2f H_2g n_2h=>
some ((Value.tuple ⟨[v_2f,v_2b,(Value.int IntKind.i64 0)]⟩),H_2g,n_2h))))
noncomputable def C34_0:=B34_0 cal k
theorem h34_0(v0 v1 v2:Value)(H:Hp)(n:Nat):aW P cal A (k+1) 34 [v0,v1,v2] H n=C34_0 cal k v0 v1 v2 H n:=(bq Go.Proofs.Tryz.f34 code34 results34 (by kernel_rfl)).trans (by kernel_rfl)
noncomputable def code42:Code:=ak 42
noncomputable def results42:List ResultVar:=bw 42
noncomputable def B42_0(cal:Cal)(k:Nat)(v0 v1:Value)(H:Hp)(n:Nat):Res:=
boxK 41 v0 H n fun v_1 H_2 n_3=>
bindO (aX v_1) fun a_7=>bindO (az P H_2 41 a_7) fun v_6=>
aZ P cal 66 [v_6] H_2 n_3 fun v_8 H_9 n_a=>
bindO (tupV v_8 0) fun v_c=>
bindO (tupV v_8 1) fun v_d=>
binK P BinOp.neq 33 (Operand.tmp 15) (Operand.const (Value.int IntKind.i64 0)) v_d (Value.int IntKind.i64 0) fun v_h=>
ifK v_h (
some ((Value.tuple ⟨[(Value.slice none 0 0),v_d]⟩),H_9,n_a)) (
binK P BinOp.lss 3 (Operand.tmp 18) (Operand.const (Value.int IntKind.i64 0)) v1 (Value.int IntKind.i64 0) fun v_m=>
bj v_m false (fun k_o=>
k_o v1 H_9 n_a) H_9 n_a fun v_p H_q n_r=>
bj v_m false (fun k_t=>
binK P BinOp.gtr 3 (Operand.tmp 21) (Operand.const (Value.int IntKind.i64 8)) v_p (Value.int IntKind.i64 8) fun v_x=>
k_t v_x H_q n_r) H_q n_r fun v_u H_v n_w=>
bindO (fV v_m (Value.bool true) v_u) fun v_y=>
ifK v_y (
some ((Value.tuple ⟨[(Value.slice none 0 0),(Value.int IntKind.i64 2)]⟩),H_v,n_w)) (
aZ P cal 76 [v_c,v1] H_v n_w fun v_13 H_14 n_15=>
bindO (tupV v_13 0) fun v_17=>
bindO (tupV v_13 1) fun v_18=>
bindO (dk P v_18 (Op.unary UnOp.not v_18)) fun v_1c=>
ifK v_1c (
some ((Value.tuple ⟨[(Value.slice none 0 0),(Value.int IntKind.i64 10)]⟩),H_14,n_15)) (
aZ P cal 58 [v_17] H_14 n_15 fun v_1g H_1h n_1i=>
some ((Value.tuple ⟨[v_1g,(Value.int IntKind.i64 0)]⟩),H_1h,n_1i))))
noncomputable def C42_0:=B42_0 cal k
theorem h42_0(v0 v1:Value)(H:Hp)(n:Nat):aW P cal A (k+1) 42 [v0,v1] H n=C42_0 cal k v0 v1 H n:=(bq Go.Proofs.Tryz.f42 code42 results42 (by kernel_rfl)).trans (by kernel_rfl)
noncomputable def code48:Code:=ak 48
noncomputable def wV:List ResultVar:=bw 48
noncomputable def K48_prr:KR:=(cutK (Lv.b (Lv.b (A 48))).c (bW P cal (aY P cal k) none 48 (cR (cR (cR code48))) (Lv.b (Lv.b (Lv.b (A 48)))) (ay P wV) X0 (ay P wV)))
noncomputable def Nk:XR:=(upX 0 (K48_prr cal k) X0)
noncomputable def K48_prrlrl(m1:Nat):KR:=(fun T H n D=>aY P cal m1 (Lv.a (Lv.b (Lv.a (Lv.b (Lv.b (A 48)))))) none 48 (cL (cR (cL (cR (cR code48))))) (K48_prr cal k) (Nk cal k) (ay P wV) (cutT (Lv.a (Lv.b (Lv.a (Lv.b (Lv.b (A 48)))))).c T) H n D)
noncomputable def T48_1(m1:Nat):=fun(u0 u1 u5:Value) (H:Hp) (n:Nat)=>labK (bW P cal (aY P cal m1) none 48 (cL (cL (cR (cL (cR (cR code48)))))) (Lv.a (Lv.a (Lv.b (Lv.a (Lv.b (Lv.b (A 48))))))) (K48_prrlrl cal k m1) (Nk cal k) (ay P wV)) (Tr.set (Tr.set (Tr.set Tr.nil 5 (some u5)) 1 (some u1)) 0 (some u0)) H n []
noncomputable def R48_1(m1:Nat):V3:=fun u0 u1 u5 H n=>aY P cal m1 (Lv.a (Lv.b (Lv.a (Lv.b (Lv.b (A 48)))))) none 48 (cL (cR (cL (cR (cR code48))))) (K48_prr cal k) (Nk cal k) (ay P wV) (Tr.set (Tr.set (Tr.set Tr.nil 5 (some u5)) 1 (some u1)) 0 (some u0)) H n []
noncomputable def B48_1(cal:Cal)(k m1:Nat)(b1:V3)(u0 u1 u5:Value)(H:Hp)(n:Nat):Res:=
bindO (lenV P 27 u0) fun v_b=>
binK P BinOp.lss 3 (Operand.tmp 11) (Operand.tmp 13) u5 v_b fun v_c=>
ifK v_c (
bindO (aJ P 27 u0 u5) fun v_f=>
bindO (aX v_f) fun a_g=>bindO (az P H 3 a_g) fun v_h=>
bindO (aJ P 27 u1 u5) fun v_k=>
bindO (aX v_k) fun a_l=>bindO (az P H 3 a_l) fun v_m=>
binK P BinOp.neq 3 (Operand.tmp 20) (Operand.tmp 24) v_h v_m fun v_n=>
ifK v_n (
some ((Value.bool false),H,n)) (
binK P BinOp.add 3 (Operand.tmp 15) (Operand.const (Value.int IntKind.i64 1)) u5 (Value.int IntKind.i64 1) fun v_q=>
b1 u0 u1 v_q H n)) (
some ((Value.bool true),H,n))
noncomputable def C48_1(m1:Nat):=B48_1 cal k m1
noncomputable def S48_1:Nat→V3:=recF (C48_1 cal k) (fun _ _ _ _ _=>none)
theorem h48_1(m1:Nat):T48_1 cal k m1=C48_1 cal k m1 (R48_1 cal k m1):=by kernel_rfl
theorem q48_1(m:Nat):T48_1 cal k m=S48_1 cal k m:=recS (h48_1 cal k) (by kernel_rfl) (fun m=>by kernel_rfl) m
noncomputable def B48_0(cal:Cal)(k:Nat)(j1:V3)(v0 v1:Value)(H:Hp)(n:Nat):Res:=
bindO (lenV P 27 v0) fun v_3=>
bindO (lenV P 27 v1) fun v_5=>
binK P BinOp.neq 3 (Operand.tmp 7) (Operand.tmp 9) v_3 v_5 fun v_6=>
ifK v_6 (
some ((Value.bool false),H,n)) (
j1 v0 v1 (Value.int IntKind.i64 0) H n)
noncomputable def C48_0:=B48_0 cal k (S48_1 cal k k)
theorem h48_0(v0 v1:Value)(H:Hp)(n:Nat):aW P cal A (k+1) 48 [v0,v1] H n=C48_0 cal k v0 v1 H n:=(bq Go.Proofs.Tryz.f48 code48 wV (by kernel_rfl)).trans (Eq.trans (b:=B48_0 cal k (T48_1 cal k k) v0 v1 H n) (by kernel_rfl) (by rw[q48_1]; rfl))
noncomputable def NJ:Code:=ak 53
noncomputable def oJ:List ResultVar:=bw 53
noncomputable def qlk:KR:=(cutK (Lv.b (Lv.b (Lv.b (A 53)))).c (bW P cal (aY P cal k) none 53 (cR (cR (cR (cR NJ)))) (Lv.b (Lv.b (Lv.b (Lv.b (A 53))))) (ay P oJ) X0 (ay P oJ)))
noncomputable def uV:XR:=(upX 0 (qlk cal k) X0)
noncomputable def K53_prrrlrl(m1:Nat):KR:=(fun T H n D=>aY P cal m1 (Lv.a (Lv.b (Lv.a (Lv.b (Lv.b (Lv.b (A 53))))))) none 53 (cL (cR (cL (cR (cR (cR NJ)))))) (qlk cal k) (uV cal k) (ay P oJ) (cutT (Lv.a (Lv.b (Lv.a (Lv.b (Lv.b (Lv.b (A 53))))))).c T) H n D)
noncomputable def K53_prrrlrllr(m1:Nat):KR:=(cutK (Lv.b (Lv.a (Lv.a (Lv.b (Lv.a (Lv.b (Lv.b (Lv.b (A 53))))))))).c (bW P cal (aY P cal m1) none 53 (cR (cR (cL (cL (cR (cL (cR (cR (cR NJ))))))))) (Lv.b (Lv.b (Lv.a (Lv.a (Lv.b (Lv.a (Lv.b (Lv.b (Lv.b (A 53)))))))))) (K53_prrrlrl cal k m1) (uV cal k) (ay P oJ)))
noncomputable def K53_pxrrrlrllrl(m1:Nat):XR:=(upX 1 (K53_prrrlrllr cal k m1) (uV cal k))
noncomputable def T53_2(m1:Nat):=fun(u0 u1 u2 u3:Value) (H:Hp) (n:Nat)=>labK (bW P cal (aY P cal m1) none 53 (cR (cR (cL (cL (cR (cL (cL (cR (cL (cR (cR (cR NJ)))))))))))) (Lv.b (Lv.b (Lv.a (Lv.a (Lv.b (Lv.a (Lv.a (Lv.b (Lv.a (Lv.b (Lv.b (Lv.b (A 53))))))))))))) (K53_prrrlrllr cal k m1) (K53_pxrrrlrllrl cal k m1) (ay P oJ)) (Tr.set (Tr.set (Tr.set (Tr.set Tr.nil 3 (some u3)) 2 (some u2)) 1 (some u1)) 0 (some u0)) H n []
noncomputable def T53_1(m1:Nat):=fun(u0 u1 u2 u3:Value) (H:Hp) (n:Nat)=>labK (bW P cal (aY P cal m1) none 53 (cL (cL (cR (cL (cR (cR (cR NJ))))))) (Lv.a (Lv.a (Lv.b (Lv.a (Lv.b (Lv.b (Lv.b (A 53)))))))) (K53_prrrlrl cal k m1) (uV cal k) (ay P oJ)) (Tr.set (Tr.set (Tr.set (Tr.set Tr.nil 3 (some u3)) 2 (some u2)) 1 (some u1)) 0 (some u0)) H n []
noncomputable def R53_1(m1:Nat):V4:=fun u0 u1 u2 u3 H n=>aY P cal m1 (Lv.a (Lv.b (Lv.a (Lv.b (Lv.b (Lv.b (A 53))))))) none 53 (cL (cR (cL (cR (cR (cR NJ)))))) (qlk cal k) (uV cal k) (ay P oJ) (Tr.set (Tr.set (Tr.set (Tr.set Tr.nil 3 (some u3)) 2 (some u2)) 1 (some u1)) 0 (some u0)) H n []
noncomputable def B53_2(cal:Cal)(k m1:Nat)(b1:V4)(u0 u1 u2 u3:Value)(H:Hp)(n:Nat):Res:=
bindO (ax P 41 u2 1) fun v_10=>
bindO (aX v_10) fun a_11=>bindO (az P H 27 a_11) fun v_12=>
bindO (zw P 27 1 [(0,u3)]) fun q_16=>newK q_16.1 q_16.2 H n fun H_14 n_15=>
bindO (ax P 41 u2 2) fun v_17=>
bindO (aX v_17) fun a_18=>bindO (az P H_14 27 a_18) fun v_19=>
binK P BinOp.add 3 (Operand.tmp 36) (Operand.const (Value.int IntKind.i64 1)) u3 (Value.int IntKind.i64 1) fun v_1b=>
bindO (zw P 27 1 [(0,v_1b)]) fun q_1e=>newK q_1e.1 q_1e.2 H_14 n_15 fun H_1c n_1d=>
effK P [(.a n_15 (some q_1e.1) q_1e.2),(.l 27 a_18)] H_1c n_1d (fun H_1f n_1g k_1h=>
stK (cZ P (bare H_1f n_1g) 27 27 v_12 (.slice (some ⟨n,0,none⟩) 1 1)) fun v_1l H_1m n_1n=>
k_1h v_1l H_1m n_1n) fun v_1i H_1j n_1k=>
bindO (ax P 41 u2 1) fun v_1o=>
stK (cZ P (bare H_1j n_1k) 27 27 v_19 (.slice (some ⟨n_15,0,none⟩) 1 1)) fun v_1p H_1q n_1r=>
bindO (dz P 27 v_1o v_1i H_1q) fun H_1t=>
bindO (ax P 41 u2 2) fun v_1u=>
bindO (dz P 27 v_1u v_1p H_1t) fun H_1w=>
binK P BinOp.add 3 (Operand.tmp 10) (Operand.const (Value.int IntKind.i64 1)) u3 (Value.int IntKind.i64 1) fun v_1y=>
b1 u0 u1 u2 v_1y H_1w n_1r
noncomputable def C53_2(m1:Nat):=B53_2 cal k m1
theorem h53_2(m1:Nat):T53_2 cal k m1=C53_2 cal k m1 (R53_1 cal k m1):=by kernel_rfl
noncomputable def B53_1(cal:Cal)(k m1:Nat)(j2:V4)(b1:V4)(u0 u1 u2 u3:Value)(H:Hp)(n:Nat):Res:=
binK P BinOp.lss 3 (Operand.tmp 8) (Operand.const (Value.int IntKind.i64 5)) u3 (Value.int IntKind.i64 5) fun v_m=>
ifK v_m (
bindO (ax P 39 u1 0) fun v_n=>
bindO (aX v_n) fun a_p=>bindO (az P H 35 a_p) fun v_o=>
bindO (nx P 130 []) fun v_q=>
rowK P 35 1 [(0,v_q)] H n fun v_r H_s n_t=>
stK (cZ P (bare H_s n_t) 35 35 v_o v_r) fun v_u H_v n_w=>
bindO (ax P 39 u1 0) fun v_x=>
bindO (dz P 35 v_x v_u H_v) fun H_z=>
binK P BinOp.gtr 3 (Operand.tmp 18) (Operand.const (Value.int IntKind.i64 0)) u3 (Value.int IntKind.i64 0) fun v_21=>
ifK v_21 (
bindO (ax P 39 u1 1) fun v_22=>
bindO (aX v_22) fun a_24=>bindO (az P H_z 36 a_24) fun v_23=>
binK P BinOp.sub 3 (Operand.tmp 22) (Operand.const (Value.int IntKind.i64 1)) u3 (Value.int IntKind.i64 1) fun v_26=>
bindO (nx P 131 [(0,v_26),(1,u3)]) fun v_28=>
rowK P 36 1 [(0,v_28)] H_z n_w fun v_29 H_2a n_2b=>
stK (cZ P (bare H_2a n_2b) 36 36 v_23 v_29) fun v_2c H_2d n_2e=>
bindO (ax P 39 u1 1) fun v_2f=>
bindO (dz P 36 v_2f v_2c H_2d) fun H_2h=>
j2 u0 u1 u2 u3 H_2h n_2e) (
j2 u0 u1 u2 u3 H_z n_w)) (
bindO (aX u1) fun a_2j=>bindO (az P H 39 a_2j) fun v_2i=>
bindO (ax P 41 u2 0) fun v_2k=>
bindO (dz P 39 v_2k v_2i H) fun H_2m=>
bindO (aX u2) fun a_2o=>bindO (az P H_2m 41 a_2o) fun v_2n=>
bindO (dz P 41 u0 v_2n H_2m) fun H_2q=>
bindO (resV P (Tr.set Tr.nil 0 (some u0)) H_2q oJ) fun v_2r=>some (oneV v_2r,H_2q,n))
noncomputable def C53_1(m1:Nat)(b1:V4):=B53_1 cal k m1 (C53_2 cal k m1 b1) b1
noncomputable def S53_1:Nat→V4:=recF (C53_1 cal k) (fun _ _ _ _ _ _=>none)
theorem h53_1(m1:Nat):T53_1 cal k m1=C53_1 cal k m1 (R53_1 cal k m1):=Eq.trans (b:=B53_1 cal k m1 (T53_2 cal k m1) (R53_1 cal k m1)) (by kernel_rfl) (by rw[h53_2]; rfl)
theorem q53_1(m:Nat):T53_1 cal k m=S53_1 cal k m:=recS (h53_1 cal k) (by kernel_rfl) (fun m=>by kernel_rfl) m
noncomputable def B53_0(cal:Cal)(k:Nat)(j1:V4)(H:Hp)(n:Nat):Res:=
jY P 41 H n fun v_1 H_2 n_3=>
bindO (nx P 128 []) fun v_4=>
rowK P 37 1 [(0,v_4)] H_2 n_3 fun v_5 H_6 n_7=>
bindO (nx P 39 [(2,v_5)]) fun v_8=>
jY P 39 H_6 n_7 fun v_9 H_a n_b=>
bindO (dz P 39 v_9 v_8 H_a) fun H_d=>
bindO (nx P 41 []) fun v_e=>
jY P 41 H_d n_b fun v_f H_g n_h=>
bindO (dz P 41 v_f v_e H_g) fun H_j=>
j1 v_1 v_9 v_f (Value.int IntKind.i64 0) H_j n_h
noncomputable def C53_0:=B53_0 cal k (S53_1 cal k k) 
theorem h53_0(H:Hp)(n:Nat):aW P cal A (k+1) 53 [] H n=C53_0 cal k  H n:=(bq Go.Proofs.Tryz.f53 NJ oJ (by kernel_rfl)).trans (Eq.trans (b:=B53_0 cal k (T53_1 cal k k)  H n) (by kernel_rfl) (by rw[q53_1]; rfl))
noncomputable def code54:Code:=ak 54
noncomputable def results54:List ResultVar:=bw 54
noncomputable def B54_0(cal:Cal)(k:Nat)(H:Hp)(n:Nat):Res:=
rowK P 27 2 [(0,(Value.int IntKind.i64 0)),(1,(Value.int IntKind.i64 1))] H n fun v_2 H_3 n_4=>
rowK P 27 2 [(0,(Value.int IntKind.i64 1)),(1,(Value.int IntKind.i64 2))] H_3 n_4 fun v_5 H_6 n_7=>
rowK P 27 2 [(0,(Value.int IntKind.i64 2)),(1,(Value.int IntKind.i64 3))] H_6 n_7 fun v_8 H_9 n_a=>
rowK P 27 2 [(0,(Value.int IntKind.i64 3)),(1,(Value.int IntKind.i64 4))] H_9 n_a fun v_b H_c n_d=>
rowK P 30 4 [(0,v_2),(1,v_5),(2,v_8),(3,v_b)] H_c n_d fun v_e H_f n_g=>
some (v_e,H_f,n_g)
noncomputable def C54_0:=B54_0 cal k 
theorem h54_0(H:Hp)(n:Nat):aW P cal A (k+1) 54 [] H n=C54_0 cal k  H n:=(bq Go.Proofs.Tryz.f54 code54 results54 (by kernel_rfl)).trans (by kernel_rfl)
noncomputable def QZ:Code:=ak 55
noncomputable def rj:List ResultVar:=bw 55
noncomputable def K55_prr:KR:=(cutK (Lv.b (Lv.b (A 55))).c (bW P cal (aY P cal k) none 55 (cR (cR (cR QZ))) (Lv.b (Lv.b (Lv.b (A 55)))) (ay P rj) X0 (ay P rj)))
noncomputable def B55_0(cal:Cal)(k:Nat)(v0:Value)(H:Hp)(n:Nat):Res:=
boxK 41 v0 H n fun v_1 H_2 n_3=>
bindO (ax P 41 v_1 0) fun v_5=>
bindO (aX v_5) fun a_7=>bindO (az P H_2 39 a_7) fun v_6=>
aZ P cal 77 [v_6] H_2 n_3 fun v_8 H_9 n_a=>
binK P BinOp.neq 33 (Operand.tmp 7) (Operand.const (Value.int IntKind.i64 0)) v_8 (Value.int IntKind.i64 0) fun v_d=>
ifK v_d (
some (v_8,H_9,n_a)) (
bindO (aX v_1) fun a_h=>bindO (az P H_9 41 a_h) fun v_g=>
bindO (ax P 41 v_1 1) fun v_i=>
bindO (aX v_i) fun a_k=>bindO (az P H_9 27 a_k) fun v_j=>
aZ P cal 78 [v_g,v_j] H_9 n_a fun v_l H_m n_n=>
bindO (dk P v_l (Op.unary UnOp.not v_l)) fun v_o=>
bj v_o false (fun k_q=>
bindO (ax P 41 v_1 2) fun v_u=>
k_q v_u H_m n_n) H_m n_n fun v_r H_s n_t=>
bj v_o false (fun k_v=>
bindO (aX v_r) fun a_10=>bindO (az P H_s 27 a_10) fun v_z=>
k_v v_z H_s n_t) H_s n_t fun v_w H_x n_y=>
bj v_o false (fun k_11=>
bindO (lenV P 27 v_w) fun v_15=>
k_11 v_15 H_x n_y) H_x n_y fun v_12 H_13 n_14=>
bj v_o false (fun k_16=>
bindO (ax P 41 v_1 0) fun v_1a=>
k_16 v_1a H_13 n_14) H_13 n_14 fun v_17 H_18 n_19=>
bj v_o false (fun k_1b=>
bindO (ax P 39 v_17 0) fun v_1f=>
k_1b v_1f H_18 n_19) H_18 n_19 fun v_1c H_1d n_1e=>
bj v_o false (fun k_1g=>
bindO (aX v_1c) fun a_1l=>bindO (az P H_1d 35 a_1l) fun v_1k=>
k_1g v_1k H_1d n_1e) H_1d n_1e fun v_1h H_1i n_1j=>
bj v_o false (fun k_1m=>
bindO (lenV P 35 v_1h) fun v_1q=>
k_1m v_1q H_1i n_1j) H_1i n_1j fun v_1n H_1o n_1p=>
bj v_o false (fun k_1r=>
binK P BinOp.neq 3 (Operand.tmp 18) (Operand.tmp 22) v_12 v_1n fun v_1v=>
k_1r v_1v H_1o n_1p) H_1o n_1p fun v_1s H_1t n_1u=>
bindO (fV v_o (Value.bool true) v_1s) fun v_1w=>
bj v_1w false (fun k_1y=>
bindO (ax P 41 v_1 2) fun v_22=>
k_1y v_22 H_1t n_1u) H_1t n_1u fun v_1z H_20 n_21=>
bj v_1w false (fun k_23=>
bindO (aX v_1z) fun a_28=>bindO (az P H_20 27 a_28) fun v_27=>
k_23 v_27 H_20 n_21) H_20 n_21 fun v_24 H_25 n_26=>
bj v_1w false (fun k_29=>
aZ P cal 79 [v_24,(Value.func (.func 80) #[] #[])] H_25 n_26 fun v_2d H_2e n_2f=>
k_29 v_2d H_2e n_2f) H_25 n_26 fun v_2a H_2b n_2c=>
bj v_1w false (fun k_2g=>
bindO (dk P v_2a (Op.unary UnOp.not v_2a)) fun v_2k=>
k_2g v_2k H_2b n_2c) H_2b n_2c fun v_2h H_2i n_2j=>
bindO (fV v_1w (Value.bool true) v_2h) fun v_2l=>
ifK v_2l (
some ((Value.int IntKind.i64 1),H_2i,n_2j)) (
some ((Value.int IntKind.i64 0),H_2i,n_2j)))
noncomputable def C55_0:=B55_0 cal k
theorem h55_0(v0:Value)(H:Hp)(n:Nat):aW P cal A (k+1) 55 [v0] H n=C55_0 cal k v0 H n:=(bq Go.Proofs.Tryz.f55 QZ rj (by kernel_rfl)).trans (by kernel_rfl)
noncomputable def wK:Code:=ak 57
noncomputable def iX:List ResultVar:=bw 57
noncomputable def nQ:KR:=(cutK (Lv.b (Lv.b (Lv.b (Lv.b (Lv.b (Lv.b (A 57))))))).c (bW P cal (aY P cal k) none 57 (cR (cR (cR (cR (cR (cR (cR wK))))))) (Lv.b (Lv.b (Lv.b (Lv.b (Lv.b (Lv.b (Lv.b (A 57)))))))) (ay P iX) X0 (ay P iX)))
noncomputable def jz:XR:=(upX 0 (nQ cal k) X0)
noncomputable def xj(m1:Nat):KR:=(fun T H n D=>aY P cal m1 (Lv.a (Lv.b (Lv.a (Lv.b (Lv.b (Lv.b (Lv.b (Lv.b (Lv.b (A 57)))))))))) none 57 (cL (cR (cL (cR (cR (cR (cR (cR (cR wK))))))))) (nQ cal k) (jz cal k) (ay P iX) (cutT (Lv.a (Lv.b (Lv.a (Lv.b (Lv.b (Lv.b (Lv.b (Lv.b (Lv.b (A 57)))))))))).c T) H n D)
noncomputable def T57_1(m1:Nat):=fun(u7 u9 u34 u35 u36:Value) (H:Hp) (n:Nat)=>labK (bW P cal (aY P cal m1) none 57 (cL (cL (cR (cL (cR (cR (cR (cR (cR (cR wK)))))))))) (Lv.a (Lv.a (Lv.b (Lv.a (Lv.b (Lv.b (Lv.b (Lv.b (Lv.b (Lv.b (A 57))))))))))) (xj cal k m1) (jz cal k) (ay P iX)) (Tr.set (Tr.set (Tr.set (Tr.set (Tr.set Tr.nil 36 (some u36)) 35 (some u35)) 34 (some u34)) 9 (some u9)) 7 (some u7)) H n []
noncomputable def R57_1(m1:Nat):V5:=fun u7 u9 u34 u35 u36 H n=>aY P cal m1 (Lv.a (Lv.b (Lv.a (Lv.b (Lv.b (Lv.b (Lv.b (Lv.b (Lv.b (A 57)))))))))) none 57 (cL (cR (cL (cR (cR (cR (cR (cR (cR wK))))))))) (nQ cal k) (jz cal k) (ay P iX) (Tr.set (Tr.set (Tr.set (Tr.set (Tr.set Tr.nil 36 (some u36)) 35 (some u35)) 34 (some u34)) 9 (some u9)) 7 (some u7)) H n []
noncomputable def B57_1(cal:Cal)(k m1:Nat)(b1:V5)(u7 u9 u34 u35 u36:Value)(H:Hp)(n:Nat):Res:=
binK P BinOp.lss 3 (Operand.tmp 36) (Operand.tmp 35) u36 u35 fun v_1g=>
ifK v_1g (
bindO (aJ P 30 u34 u36) fun v_1i=>
bindO (aX v_1i) fun a_1k=>bindO (az P H 27 a_1k) fun v_1j=>
aZ P cal 83 [v_1j] H n fun v_1q H_1r n_1s=>
bindO (aJ P 98 u9 u36) fun v_1t=>
bindO (dz P 106 v_1t v_1q H_1r) fun H_1v=>
binK P BinOp.add 3 (Operand.tmp 36) (Operand.const (Value.int IntKind.i64 1)) u36 (Value.int IntKind.i64 1) fun v_1w=>
b1 u7 u9 u34 u35 v_1w H_1v n_1s) (
some ((Value.tuple ⟨[u7,u9,(Value.int IntKind.i64 0)]⟩),H,n))
noncomputable def VQ(m1:Nat):=B57_1 cal k m1
noncomputable def VV:Nat→V5:=recF (VQ cal k) (fun _ _ _ _ _ _ _=>none)
theorem h57_1(m1:Nat):T57_1 cal k m1=VQ cal k m1 (R57_1 cal k m1):=by kernel_rfl
theorem q57_1(m:Nat):T57_1 cal k m=VV cal k m:=recS (h57_1 cal k) (by kernel_rfl) (fun m=>by kernel_rfl) m
noncomputable def B57_0(cal:Cal)(k:Nat)(j1:V5)(v0 v1:Value)(H:Hp)(n:Nat):Res:=
boxK 41 v0 H n fun v_1 H_2 n_3=>
bindO (aX v_1) fun a_8=>bindO (az P H_2 41 a_8) fun v_7=>
aZ P cal 66 [v_7] H_2 n_3 fun v_9 H_a n_b=>
bindO (tupV v_9 0) fun v_d=>
bindO (tupV v_9 1) fun v_e=>
binK P BinOp.neq 33 (Operand.tmp 17) (Operand.const (Value.int IntKind.i64 0)) v_e (Value.int IntKind.i64 0) fun v_i=>
ifK v_i (
some ((Value.tuple ⟨[(Value.pointer none),(Value.slice none 0 0),v_e]⟩),H_a,n_b)) (
bindO (lenV P 30 v1) fun v_o=>
binK P BinOp.gtr 3 (Operand.tmp 21) (Operand.const (Value.int IntKind.i64 300)) v_o (Value.int IntKind.i64 300) fun v_p=>
ifK v_p (
some ((Value.tuple ⟨[(Value.pointer none),(Value.slice none 0 0),(Value.int IntKind.i64 3)]⟩),H_a,n_b)) (
bindO (nilV v_d) fun v_v=>
bindO (ax P 109 v_v 0) fun v_w=>
bindO (aX v_w) fun a_y=>bindO (az P H_a 41 a_y) fun v_x=>
aZ P cal 82 [v1,(Value.func (Fn.func 78) ⟨[v_x]⟩ ⟨[]⟩)] H_a n_b fun v_10 H_11 n_12=>
bindO (dk P v_10 (Op.unary UnOp.not v_10)) fun v_13=>
ifK v_13 (
some ((Value.tuple ⟨[(Value.pointer none),(Value.slice none 0 0),(Value.int IntKind.i64 2)]⟩),H_11,n_12)) (
bindO (lenV P 30 v1) fun v_18=>
stK (jk P 98 v_18 v_18 (bare H_11 n_12)) fun v_19 H_1a n_1b=>
bindO (lenV P 30 v1) fun v_1e=>
j1 v_d v_19 v1 v_1e (Value.int IntKind.i64 0) H_1a n_1b)))
noncomputable def C57_0:=B57_0 cal k (VV cal k k)
theorem h57_0(v0 v1:Value)(H:Hp)(n:Nat):aW P cal A (k+1) 57 [v0,v1] H n=C57_0 cal k v0 v1 H n:=(bq Go.Proofs.Tryz.f57 wK iX (by kernel_rfl)).trans (Eq.trans (b:=B57_0 cal k (T57_1 cal k k) v0 v1 H n) (by kernel_rfl) (by rw[q57_1]; rfl))
noncomputable def xq:Code:=ak 58
noncomputable def iY:List ResultVar:=bw 58
noncomputable def BV:KR:=(cutK (Lv.b (Lv.b (A 58))).c (bW P cal (aY P cal k) none 58 (cR (cR (cR xq))) (Lv.b (Lv.b (Lv.b (A 58)))) (ay P iY) X0 (ay P iY)))
noncomputable def pZ:XR:=(upX 0 (BV cal k) X0)
noncomputable def Ky(m1:Nat):KR:=(fun T H n D=>aY P cal m1 (Lv.a (Lv.b (Lv.a (Lv.b (Lv.b (A 58)))))) none 58 (cL (cR (cL (cR (cR xq))))) (BV cal k) (pZ cal k) (ay P iY) (cutT (Lv.a (Lv.b (Lv.a (Lv.b (Lv.b (A 58)))))).c T) H n D)
noncomputable def T58_1(m1:Nat):=fun(u3 u6 u7 u8:Value) (H:Hp) (n:Nat)=>labK (bW P cal (aY P cal m1) none 58 (cL (cL (cR (cL (cR (cR xq)))))) (Lv.a (Lv.a (Lv.b (Lv.a (Lv.b (Lv.b (A 58))))))) (Ky cal k m1) (pZ cal k) (ay P iY)) (Tr.set (Tr.set (Tr.set (Tr.set Tr.nil 8 (some u8)) 7 (some u7)) 6 (some u6)) 3 (some u3)) H n []
noncomputable def R58_1(m1:Nat):V4:=fun u3 u6 u7 u8 H n=>aY P cal m1 (Lv.a (Lv.b (Lv.a (Lv.b (Lv.b (A 58)))))) none 58 (cL (cR (cL (cR (cR xq))))) (BV cal k) (pZ cal k) (ay P iY) (Tr.set (Tr.set (Tr.set (Tr.set Tr.nil 8 (some u8)) 7 (some u7)) 6 (some u6)) 3 (some u3)) H n []
noncomputable def B58_1(cal:Cal)(k m1:Nat)(b1:V4)(u3 u6 u7 u8:Value)(H:Hp)(n:Nat):Res:=
binK P BinOp.lss 3 (Operand.tmp 8) (Operand.tmp 7) u8 u7 fun v_6=>
ifK v_6 (
bindO (aJ P 98 u6 u8) fun v_7=>
bindO (aX v_7) fun a_9=>bindO (az P H 106 a_9) fun v_8=>
aZ P cal 84 [v_8] H n fun v_d H_e n_f=>
rowK P 30 1 [(0,v_d)] H_e n_f fun v_g H_h n_i=>
stK (cZ P (bare H_h n_i) 30 30 u3 v_g) fun v_j H_k n_l=>
binK P BinOp.add 3 (Operand.tmp 8) (Operand.const (Value.int IntKind.i64 1)) u8 (Value.int IntKind.i64 1) fun v_n=>
b1 v_j u6 u7 v_n H_k n_l) (
some (u3,H,n))
noncomputable def VW(m1:Nat):=B58_1 cal k m1
noncomputable def VX:Nat→V4:=recF (VW cal k) (fun _ _ _ _ _ _=>none)
theorem h58_1(m1:Nat):T58_1 cal k m1=VW cal k m1 (R58_1 cal k m1):=by kernel_rfl
theorem q58_1(m:Nat):T58_1 cal k m=VX cal k m:=recS (h58_1 cal k) (by kernel_rfl) (fun m=>by kernel_rfl) m
noncomputable def B58_0(cal:Cal)(k:Nat)(j1:V4)(v0:Value)(H:Hp)(n:Nat):Res:=
bindO (lenV P 98 v0) fun v_4=>
j1 (Value.slice none 0 0) v0 v_4 (Value.int IntKind.i64 0) H n
noncomputable def C58_0:=B58_0 cal k (VX cal k k)
theorem h58_0(v0:Value)(H:Hp)(n:Nat):aW P cal A (k+1) 58 [v0] H n=C58_0 cal k v0 H n:=(bq Go.Proofs.Tryz.f58 xq iY (by kernel_rfl)).trans (Eq.trans (b:=B58_0 cal k (T58_1 cal k k) v0 H n) (by kernel_rfl) (by rw[q58_1]; rfl))
noncomputable def xw:Code:=ak 59
noncomputable def iZ:List ResultVar:=bw 59
noncomputable def BW:KR:=(cutK (Lv.b (Lv.b (A 59))).c (bW P cal (aY P cal k) none 59 (cR (cR (cR xw))) (Lv.b (Lv.b (Lv.b (A 59)))) (ay P iZ) X0 (ay P iZ)))
noncomputable def pK:XR:=(upX 0 (BW cal k) X0)
noncomputable def Kz(m1:Nat):KR:=(fun T H n D=>aY P cal m1 (Lv.a (Lv.b (Lv.a (Lv.b (Lv.b (A 59)))))) none 59 (cL (cR (cL (cR (cR xw))))) (BW cal k) (pK cal k) (ay P iZ) (cutT (Lv.a (Lv.b (Lv.a (Lv.b (Lv.b (A 59)))))).c T) H n D)
noncomputable def T59_1(m1:Nat):=fun(u0 u5 u15 u16 u17:Value) (H:Hp) (n:Nat)=>labK (bW P cal (aY P cal m1) none 59 (cL (cL (cR (cL (cR (cR xw)))))) (Lv.a (Lv.a (Lv.b (Lv.a (Lv.b (Lv.b (A 59))))))) (Kz cal k m1) (pK cal k) (ay P iZ)) (Tr.set (Tr.set (Tr.set (Tr.set (Tr.set Tr.nil 17 (some u17)) 16 (some u16)) 15 (some u15)) 5 (some u5)) 0 (some u0)) H n []
noncomputable def R59_1(m1:Nat):V5:=fun u0 u5 u15 u16 u17 H n=>aY P cal m1 (Lv.a (Lv.b (Lv.a (Lv.b (Lv.b (A 59)))))) none 59 (cL (cR (cL (cR (cR xw))))) (BW cal k) (pK cal k) (ay P iZ) (Tr.set (Tr.set (Tr.set (Tr.set (Tr.set Tr.nil 17 (some u17)) 16 (some u16)) 15 (some u15)) 5 (some u5)) 0 (some u0)) H n []
noncomputable def B59_1(cal:Cal)(k m1:Nat)(b1:V5)(u0 u5 u15 u16 u17:Value)(H:Hp)(n:Nat):Res:=
binK P BinOp.lss 3 (Operand.tmp 17) (Operand.tmp 16) u17 u16 fun v_i=>
ifK v_i (
bindO (aJ P 98 u15 u17) fun v_k=>
bindO (aX v_k) fun a_m=>bindO (az P H 106 a_m) fun v_l=>
bindO (aJ P 98 u5 u17) fun v_t=>
bindO (aX v_t) fun a_v=>bindO (az P H 106 a_v) fun v_u=>
aZ P cal 85 [u0,v_u] H n fun v_w H_x n_y=>
aZ P cal 86 [v_w,v_l] H_x n_y fun v_10 H_11 n_12=>
rowK P 98 1 [(0,v_10)] H_11 n_12 fun v_13 H_14 n_15=>
stK (cZ P (bare H_14 n_15) 98 98 u5 v_13) fun v_16 H_17 n_18=>
binK P BinOp.add 3 (Operand.tmp 17) (Operand.const (Value.int IntKind.i64 1)) u17 (Value.int IntKind.i64 1) fun v_1a=>
b1 u0 v_16 u15 u16 v_1a H_17 n_18) (
some (u5,H,n))
noncomputable def VY(m1:Nat):=B59_1 cal k m1
noncomputable def VZ:Nat→V5:=recF (VY cal k) (fun _ _ _ _ _ _ _=>none)
theorem h59_1(m1:Nat):T59_1 cal k m1=VY cal k m1 (R59_1 cal k m1):=by kernel_rfl
theorem q59_1(m:Nat):T59_1 cal k m=VZ cal k m:=recS (h59_1 cal k) (by kernel_rfl) (fun m=>by kernel_rfl) m
noncomputable def B59_0(cal:Cal)(k:Nat)(j1:V5)(v0 v1:Value)(H:Hp)(n:Nat):Res:=
bindO (nilV v0) fun v_3=>
bindO (ax P 109 v_3 0) fun v_4=>
bindO (ax P 41 v_4 1) fun v_5=>
bindO (aX v_5) fun a_7=>bindO (az P H 27 a_7) fun v_6=>
aZ P cal 83 [v_6] H n fun v_8 H_9 n_a=>
rowK P 98 1 [(0,v_8)] H_9 n_a fun v_b H_c n_d=>
bindO (lenV P 98 v1) fun v_g=>
j1 v0 v_b v1 v_g (Value.int IntKind.i64 0) H_c n_d
noncomputable def C59_0:=B59_0 cal k (VZ cal k k)
theorem h59_0(v0 v1:Value)(H:Hp)(n:Nat):aW P cal A (k+1) 59 [v0,v1] H n=C59_0 cal k v0 v1 H n:=(bq Go.Proofs.Tryz.f59 xw iZ (by kernel_rfl)).trans (Eq.trans (b:=B59_0 cal k (T59_1 cal k k) v0 v1 H n) (by kernel_rfl) (by rw[q59_1]; rfl))
noncomputable def tx:Code:=ak 63
noncomputable def fJ:List ResultVar:=bw 63
noncomputable def tz:KR:=(cutK (Lv.b (Lv.b (Lv.b (Lv.b (A 63))))).c (bW P cal (aY P cal k) none 63 (cR (cR (cR (cR (cR tx))))) (Lv.b (Lv.b (Lv.b (Lv.b (Lv.b (A 63)))))) (ay P fJ) X0 (ay P fJ)))
noncomputable def lZ:XR:=(upX 0 (tz cal k) X0)
noncomputable def BX(m1:Nat):KR:=(fun T H n D=>aY P cal m1 (Lv.a (Lv.b (Lv.a (Lv.b (Lv.b (Lv.b (Lv.b (A 63)))))))) none 63 (cL (cR (cL (cR (cR (cR (cR tx))))))) (tz cal k) (lZ cal k) (ay P fJ) (cutT (Lv.a (Lv.b (Lv.a (Lv.b (Lv.b (Lv.b (Lv.b (A 63)))))))).c T) H n D)
noncomputable def T63_1:=fun(u6:Value) (H:Hp) (n:Nat)=>labK (bW P cal (aY P cal k) none 63 (cR (cR (cR (cR (cR tx))))) (Lv.b (Lv.b (Lv.b (Lv.b (Lv.b (A 63)))))) (ay P fJ) X0 (ay P fJ)) (Tr.set Tr.nil 6 (some u6)) H n []
noncomputable def T63_2(m1:Nat):=fun(u0 u5 u6 u7 u20 u21 u22:Value) (H:Hp) (n:Nat)=>labK (bW P cal (aY P cal m1) none 63 (cL (cL (cR (cL (cR (cR (cR (cR tx)))))))) (Lv.a (Lv.a (Lv.b (Lv.a (Lv.b (Lv.b (Lv.b (Lv.b (A 63))))))))) (BX cal k m1) (lZ cal k) (ay P fJ)) (Tr.set (Tr.set (Tr.set (Tr.set (Tr.set (Tr.set (Tr.set Tr.nil 22 (some u22)) 21 (some u21)) 20 (some u20)) 7 (some u7)) 6 (some u6)) 5 (some u5)) 0 (some u0)) H n []
noncomputable def R63_2(m1:Nat):V7:=fun u0 u5 u6 u7 u20 u21 u22 H n=>aY P cal m1 (Lv.a (Lv.b (Lv.a (Lv.b (Lv.b (Lv.b (Lv.b (A 63)))))))) none 63 (cL (cR (cL (cR (cR (cR (cR tx))))))) (tz cal k) (lZ cal k) (ay P fJ) (Tr.set (Tr.set (Tr.set (Tr.set (Tr.set (Tr.set (Tr.set Tr.nil 22 (some u22)) 21 (some u21)) 20 (some u20)) 7 (some u7)) 6 (some u6)) 5 (some u5)) 0 (some u0)) H n []
noncomputable def B63_1(cal:Cal)(k:Nat)(u6:Value)(H:Hp)(n:Nat):Res:=
some (u6,H,n)
noncomputable def VK:=B63_1 cal k
theorem h63_1:T63_1 cal k=VK cal k:=by kernel_rfl
noncomputable def B63_2(cal:Cal)(k m1:Nat)(j1:V1)(b2:V7)(u0 u5 u6 u7 u20 u21 u22:Value)(H:Hp)(n:Nat):Res:=
binK P BinOp.lss 3 (Operand.tmp 22) (Operand.tmp 21) u22 u21 fun v_s=>
ifK v_s (
bindO (aJ P 98 u20 u22) fun v_u=>
bindO (aX v_u) fun a_w=>bindO (az P H 106 a_w) fun v_v=>
jY P 3 H n fun v_x H_y n_z=>
bindO (dz P 3 v_x u22 H_y) fun H_11=>
binK P BinOp.eql 106 (Operand.tmp 27) (Operand.const (Value.int IntKind.u64 0)) u7 (Value.int IntKind.u64 0) fun v_14=>
ifK v_14 (
j1 u6 H_11 n_z) (
aZ P cal 84 [u7] H_11 n_z fun v_16 H_17 n_18=>
aZ P cal 90 [v_16,(Value.func (Fn.func 91) ⟨[]⟩ ⟨[u5,v_x]⟩)] H_17 n_18 fun v_1a H_1b n_1c=>
rowK P 27 1 [(0,v_1a)] H_1b n_1c fun v_1g H_1h n_1i=>
stK (cZ P (bare H_1h n_1i) 27 27 u6 v_1g) fun v_1j H_1k n_1l=>
rowK P 27 1 [(0,v_1a)] H_1k n_1l fun v_1p H_1q n_1r=>
aZ P cal 83 [v_1p] H_1q n_1r fun v_1s H_1t n_1u=>
aZ P cal 85 [u0,v_1s] H_1t n_1u fun v_1v H_1w n_1x=>
aZ P cal 86 [v_1v,v_v] H_1w n_1x fun v_1z H_20 n_21=>
binK P BinOp.add 3 (Operand.tmp 22) (Operand.const (Value.int IntKind.i64 1)) u22 (Value.int IntKind.i64 1) fun v_23=>
b2 u0 u5 v_1j v_1z u20 u21 v_23 H_20 n_21)) (
j1 u6 H n)
noncomputable def C63_2(m1:Nat):=B63_2 cal k m1 (VK cal k)
noncomputable def S63_2:Nat→V7:=recF (C63_2 cal k) (fun _ _ _ _ _ _ _ _ _=>none)
theorem h63_2(m1:Nat):T63_2 cal k m1=C63_2 cal k m1 (R63_2 cal k m1):=Eq.trans (b:=B63_2 cal k m1 (T63_1 cal k) (R63_2 cal k m1)) (by kernel_rfl) (by rw[h63_1]; rfl)
theorem q63_2(m:Nat):T63_2 cal k m=S63_2 cal k m:=recS (h63_2 cal k) (by kernel_rfl) (fun m=>by kernel_rfl) m
noncomputable def B63_0(cal:Cal)(k:Nat)(j2:V7)(v0 v1:Value)(H:Hp)(n:Nat):Res:=
aZ P cal 89 [v0,v1] H n fun v_4 H_5 n_6=>
jY P 147 H_5 n_6 fun v_7 H_8 n_9=>
bindO (dz P 147 v_7 v_4 H_8) fun H_b=>
bindO (nilV v0) fun v_e=>
bindO (ax P 109 v_e 0) fun v_f=>
bindO (ax P 41 v_f 1) fun v_g=>
bindO (aX v_g) fun a_i=>bindO (az P H_b 27 a_i) fun v_h=>
aZ P cal 83 [v_h] H_b n_9 fun v_j H_k n_l=>
bindO (lenV P 98 v1) fun v_q=>
j2 v0 v_7 (Value.slice none 0 0) v_j v1 v_q (Value.int IntKind.i64 0) H_k n_l
noncomputable def C63_0:=B63_0 cal k (S63_2 cal k k)
theorem h63_0(v0 v1:Value)(H:Hp)(n:Nat):aW P cal A (k+1) 63 [v0,v1] H n=C63_0 cal k v0 v1 H n:=(bq Go.Proofs.Tryz.f63 tx fJ (by kernel_rfl)).trans (Eq.trans (b:=B63_0 cal k (T63_2 cal k k) v0 v1 H n) (by kernel_rfl) (by rw[q63_2]; rfl))
end Go.Proofs.YtcjnaeimeilomaaGreat.G
end
end
section
open Go Go.Ev
set_option maxRecDepth 1000000
noncomputable section
namespace Go.Proofs.YtcjnaeimeilomaaGreat.G
variable (cal:Cal) (k:Nat)
noncomputable def xy:Code:=ak 64
noncomputable def iK:List ResultVar:=bw 64
noncomputable def BY:KR:=(cutK (Lv.b (Lv.b (A 64))).c (bW P cal (aY P cal k) none 64 (cR (cR (cR xy))) (Lv.b (Lv.b (Lv.b (A 64)))) (ay P iK) X0 (ay P iK)))
noncomputable def qj:XR:=(upX 0 (BY cal k) X0)
noncomputable def KQ(m1:Nat):KR:=(fun T H n D=>aY P cal m1 (Lv.a (Lv.b (Lv.a (Lv.b (Lv.b (A 64)))))) none 64 (cL (cR (cL (cR (cR xy))))) (BY cal k) (qj cal k) (ay P iK) (cutT (Lv.a (Lv.b (Lv.a (Lv.b (Lv.b (A 64)))))).c T) H n D)
noncomputable def T64_1(m1:Nat):=fun(u0 u5 u8 u9 u10:Value) (H:Hp) (n:Nat)=>labK (bW P cal (aY P cal m1) none 64 (cL (cL (cR (cL (cR (cR xy)))))) (Lv.a (Lv.a (Lv.b (Lv.a (Lv.b (Lv.b (A 64))))))) (KQ cal k m1) (qj cal k) (ay P iK)) (Tr.set (Tr.set (Tr.set (Tr.set (Tr.set Tr.nil 10 (some u10)) 9 (some u9)) 8 (some u8)) 5 (some u5)) 0 (some u0)) H n []
noncomputable def R64_1(m1:Nat):V5:=fun u0 u5 u8 u9 u10 H n=>aY P cal m1 (Lv.a (Lv.b (Lv.a (Lv.b (Lv.b (A 64)))))) none 64 (cL (cR (cL (cR (cR xy))))) (BY cal k) (qj cal k) (ay P iK) (Tr.set (Tr.set (Tr.set (Tr.set (Tr.set Tr.nil 10 (some u10)) 9 (some u9)) 8 (some u8)) 5 (some u5)) 0 (some u0)) H n []
noncomputable def B64_1(cal:Cal)(k m1:Nat)(b1:V5)(u0 u5 u8 u9 u10:Value)(H:Hp)(n:Nat):Res:=
binK P BinOp.lss 3 (Operand.tmp 10) (Operand.tmp 9) u10 u9 fun v_6=>
ifK v_6 (
bindO (aJ P 27 u8 u10) fun v_7=>
bindO (aX v_7) fun a_9=>bindO (az P H 3 a_9) fun v_8=>
bindO (nilV u0) fun v_d=>
bindO (ax P 109 v_d 0) fun v_e=>
bindO (ax P 41 v_e 2) fun v_f=>
bindO (aX v_f) fun a_h=>bindO (az P H 27 a_h) fun v_g=>
bindO (aJ P 27 v_g v_8) fun v_j=>
bindO (aX v_j) fun a_l=>bindO (az P H 3 a_l) fun v_k=>
binK P BinOp.add 3 (Operand.tmp 14) (Operand.tmp 22) u5 v_k fun v_m=>
binK P BinOp.add 3 (Operand.tmp 10) (Operand.const (Value.int IntKind.i64 1)) u10 (Value.int IntKind.i64 1) fun v_o=>
b1 u0 v_m u8 u9 v_o H n) (
some (u5,H,n))
noncomputable def Wj(m1:Nat):=B64_1 cal k m1
noncomputable def Wq:Nat→V5:=recF (Wj cal k) (fun _ _ _ _ _ _ _=>none)
theorem h64_1(m1:Nat):T64_1 cal k m1=Wj cal k m1 (R64_1 cal k m1):=by kernel_rfl
theorem q64_1(m:Nat):T64_1 cal k m=Wq cal k m:=recS (h64_1 cal k) (by kernel_rfl) (fun m=>by kernel_rfl) m
noncomputable def B64_0(cal:Cal)(k:Nat)(j1:V5)(v0 v1:Value)(H:Hp)(n:Nat):Res:=
bindO (lenV P 27 v1) fun v_4=>
j1 v0 (Value.int IntKind.i64 0) v1 v_4 (Value.int IntKind.i64 0) H n
noncomputable def C64_0:=B64_0 cal k (Wq cal k k)
theorem h64_0(v0 v1:Value)(H:Hp)(n:Nat):aW P cal A (k+1) 64 [v0,v1] H n=C64_0 cal k v0 v1 H n:=(bq Go.Proofs.Tryz.f64 xy iK (by kernel_rfl)).trans (Eq.trans (b:=B64_0 cal k (T64_1 cal k k) v0 v1 H n) (by kernel_rfl) (by rw[q64_1]; rfl))
noncomputable def lK:Code:=ak 66
noncomputable def dZ:List ResultVar:=bw 66
noncomputable def xz:KR:=(cutK (Lv.b (Lv.b (Lv.b (A 66)))).c (bW P cal (aY P cal k) none 66 (cR (cR (cR (cR lK)))) (Lv.b (Lv.b (Lv.b (Lv.b (A 66))))) (ay P dZ) X0 (ay P dZ)))
noncomputable def nV:XR:=(upX 0 (xz cal k) X0)
noncomputable def EW(m1:Nat):KR:=(fun T H n D=>aY P cal m1 (Lv.a (Lv.b (Lv.a (Lv.b (Lv.b (Lv.b (A 66))))))) none 66 (cL (cR (cL (cR (cR (cR lK)))))) (xz cal k) (nV cal k) (ay P dZ) (cutT (Lv.a (Lv.b (Lv.a (Lv.b (Lv.b (Lv.b (A 66))))))).c T) H n D)
noncomputable def tk:KR:=(cutK (Lv.b (Lv.b (Lv.b (Lv.b (A 66))))).c (bW P cal (aY P cal k) none 66 (cR (cR (cR (cR (cR lK))))) (Lv.b (Lv.b (Lv.b (Lv.b (Lv.b (A 66)))))) (ay P dZ) X0 (ay P dZ)))
noncomputable def mj:XR:=(upX 2 (tk cal k) X0)
noncomputable def BZ(m1:Nat):KR:=(fun T H n D=>aY P cal m1 (Lv.a (Lv.b (Lv.a (Lv.b (Lv.b (Lv.b (Lv.b (A 66)))))))) none 66 (cL (cR (cL (cR (cR (cR (cR lK))))))) (tk cal k) (mj cal k) (ay P dZ) (cutT (Lv.a (Lv.b (Lv.a (Lv.b (Lv.b (Lv.b (Lv.b (A 66)))))))).c T) H n D)
noncomputable def T66_2(m1:Nat):=fun(u5 u40 u41 u42:Value) (H:Hp) (n:Nat)=>labK (bW P cal (aY P cal m1) none 66 (cL (cL (cR (cL (cR (cR (cR (cR lK)))))))) (Lv.a (Lv.a (Lv.b (Lv.a (Lv.b (Lv.b (Lv.b (Lv.b (A 66))))))))) (BZ cal k m1) (mj cal k) (ay P dZ)) (Tr.set (Tr.set (Tr.set (Tr.set Tr.nil 42 (some u42)) 41 (some u41)) 40 (some u40)) 5 (some u5)) H n []
noncomputable def R66_2(m1:Nat):V4:=fun u5 u40 u41 u42 H n=>aY P cal m1 (Lv.a (Lv.b (Lv.a (Lv.b (Lv.b (Lv.b (Lv.b (A 66)))))))) none 66 (cL (cR (cL (cR (cR (cR (cR lK))))))) (tk cal k) (mj cal k) (ay P dZ) (Tr.set (Tr.set (Tr.set (Tr.set Tr.nil 42 (some u42)) 41 (some u41)) 40 (some u40)) 5 (some u5)) H n []
noncomputable def T66_1(m1:Nat):=fun(u5 u22 u23:Value) (H:Hp) (n:Nat)=>labK (bW P cal (aY P cal m1) none 66 (cL (cL (cR (cL (cR (cR (cR lK))))))) (Lv.a (Lv.a (Lv.b (Lv.a (Lv.b (Lv.b (Lv.b (A 66)))))))) (EW cal k m1) (nV cal k) (ay P dZ)) (Tr.set (Tr.set (Tr.set Tr.nil 23 (some u23)) 22 (some u22)) 5 (some u5)) H n []
noncomputable def R66_1(m1:Nat):V3:=fun u5 u22 u23 H n=>aY P cal m1 (Lv.a (Lv.b (Lv.a (Lv.b (Lv.b (Lv.b (A 66))))))) none 66 (cL (cR (cL (cR (cR (cR lK)))))) (xz cal k) (nV cal k) (ay P dZ) (Tr.set (Tr.set (Tr.set Tr.nil 23 (some u23)) 22 (some u22)) 5 (some u5)) H n []
noncomputable def B66_2(cal:Cal)(k m1:Nat)(b2:V4)(u5 u40 u41 u42:Value)(H:Hp)(n:Nat):Res:=
binK P BinOp.lss 3 (Operand.tmp 42) (Operand.tmp 41) u42 u41 fun v_1o=>
ifK v_1o (
bindO (aJ P 36 u40 u42) fun v_1p=>
bindO (aX v_1p) fun a_1r=>bindO (az P H 131 a_1r) fun v_1q=>
jY P 131 H n fun v_1s H_1t n_1u=>
bindO (dz P 131 v_1s v_1q H_1t) fun H_1w=>
bindO (ax P 131 v_1s 0) fun v_1y=>
bindO (aX v_1y) fun a_1z=>bindO (az P H_1w 3 a_1z) fun v_20=>
bindO (nilV u5) fun v_21=>
bindO (ax P 109 v_21 1) fun v_22=>
bindO (aJ P 107 v_22 v_20) fun v_23=>
bindO (aX v_23) fun a_24=>bindO (az P H_1w 106 a_24) fun v_25=>
bindO (ax P 131 v_1s 1) fun v_26=>
bindO (aX v_26) fun a_27=>bindO (az P H_1w 3 a_27) fun v_28=>
bindO (zw P 27 1 [(0,v_28)]) fun q_2b=>newK q_2b.1 q_2b.2 H_1w n_1u fun H_29 n_2a=>
bindO (nilV u5) fun v_2c=>
bindO (ax P 109 v_2c 1) fun v_2d=>
effK P [(.l 106 a_24),(.l 3 a_1z)] H_29 n_2a (fun H_2e n_2f k_2g=>
aZ P cal 83 [(.slice (some ⟨n_1u,0,none⟩) 1 1)] H_2e n_2f fun v_2k H_2l n_2m=>
k_2g v_2k H_2l n_2m) fun v_2h H_2i n_2j=>
binK P BinOp.or 106 (Operand.tmp 52) (Operand.tmp 56) v_25 v_2h fun v_2n=>
bindO (aJ P 107 v_2d v_20) fun v_2o=>
bindO (dz P 106 v_2o v_2n H_2i) fun H_2q=>
bindO (ax P 131 v_1s 1) fun v_2s=>
bindO (aX v_2s) fun a_2t=>bindO (az P H_2q 3 a_2t) fun v_2u=>
bindO (nilV u5) fun v_2v=>
bindO (ax P 109 v_2v 1) fun v_2w=>
bindO (aJ P 107 v_2w v_2u) fun v_2x=>
bindO (aX v_2x) fun a_2y=>bindO (az P H_2q 106 a_2y) fun v_2z=>
bindO (ax P 131 v_1s 0) fun v_30=>
bindO (aX v_30) fun a_31=>bindO (az P H_2q 3 a_31) fun v_32=>
bindO (zw P 27 1 [(0,v_32)]) fun q_35=>newK q_35.1 q_35.2 H_2q n_2j fun H_33 n_34=>
bindO (nilV u5) fun v_36=>
bindO (ax P 109 v_36 1) fun v_37=>
effK P [(.l 106 a_2y),(.l 3 a_2t)] H_33 n_34 (fun H_38 n_39 k_3a=>
aZ P cal 83 [(.slice (some ⟨n_2j,0,none⟩) 1 1)] H_38 n_39 fun v_3e H_3f n_3g=>
k_3a v_3e H_3f n_3g) fun v_3b H_3c n_3d=>
binK P BinOp.or 106 (Operand.tmp 67) (Operand.tmp 71) v_2z v_3b fun v_3h=>
bindO (aJ P 107 v_37 v_2u) fun v_3i=>
bindO (dz P 106 v_3i v_3h H_3c) fun H_3k=>
binK P BinOp.add 3 (Operand.tmp 42) (Operand.const (Value.int IntKind.i64 1)) u42 (Value.int IntKind.i64 1) fun v_3l=>
b2 u5 u40 u41 v_3l H_3k n_3d) (
some ((Value.tuple ⟨[u5,(Value.int IntKind.i64 0)]⟩),H,n))
noncomputable def Wv(m1:Nat):=B66_2 cal k m1
noncomputable def Ww:Nat→V4:=recF (Wv cal k) (fun _ _ _ _ _ _=>none)
theorem h66_2(m1:Nat):T66_2 cal k m1=Wv cal k m1 (R66_2 cal k m1):=by kernel_rfl
theorem q66_2(m:Nat):T66_2 cal k m=Ww cal k m:=recS (h66_2 cal k) (by kernel_rfl) (fun m=>by kernel_rfl) m
noncomputable def B66_1(cal:Cal)(k m1:Nat)(j2:V4)(b1:V3)(u5 u22 u23:Value)(H:Hp)(n:Nat):Res:=
binK P BinOp.lss 3 (Operand.tmp 23) (Operand.tmp 22) u23 u22 fun v_w=>
ifK v_w (
bindO (zw P 27 1 [(0,u23)]) fun q_14=>newK q_14.1 q_14.2 H n fun H_12 n_13=>
bindO (nilV u5) fun v_15=>
bindO (ax P 109 v_15 1) fun v_16=>
aZ P cal 83 [(.slice (some ⟨n,0,none⟩) 1 1)] H_12 n_13 fun v_17 H_18 n_19=>
bindO (aJ P 107 v_16 u23) fun v_1a=>
bindO (dz P 106 v_1a v_17 H_18) fun H_1c=>
binK P BinOp.add 3 (Operand.tmp 23) (Operand.const (Value.int IntKind.i64 1)) u23 (Value.int IntKind.i64 1) fun v_1d=>
b1 u5 u22 v_1d H_1c n_19) (
bindO (nilV u5) fun v_1g=>
bindO (ax P 109 v_1g 0) fun v_1h=>
bindO (ax P 41 v_1h 0) fun v_1i=>
bindO (ax P 39 v_1i 1) fun v_1j=>
bindO (aX v_1j) fun a_1l=>bindO (az P H 36 a_1l) fun v_1k=>
bindO (lenV P 36 v_1k) fun v_1m=>
j2 u5 v_1k v_1m (Value.int IntKind.i64 0) H n)
noncomputable def Wx(m1:Nat):=B66_1 cal k m1 (Ww cal k k)
noncomputable def Wy:Nat→V3:=recF (Wx cal k) (fun _ _ _ _ _=>none)
theorem h66_1(m1:Nat):T66_1 cal k m1=Wx cal k m1 (R66_1 cal k m1):=Eq.trans (b:=B66_1 cal k m1 (T66_2 cal k k) (R66_1 cal k m1)) (by kernel_rfl) (by rw[q66_2]; rfl)
theorem q66_1(m:Nat):T66_1 cal k m=Wy cal k m:=recS (h66_1 cal k) (by kernel_rfl) (fun m=>by kernel_rfl) m
noncomputable def B66_0(cal:Cal)(k:Nat)(j1:V3)(v0:Value)(H:Hp)(n:Nat):Res:=
boxK 41 v0 H n fun v_1 H_2 n_3=>
bindO (aX v_1) fun a_7=>bindO (az P H_2 41 a_7) fun v_6=>
aZ P cal 55 [v_6] H_2 n_3 fun v_8 H_9 n_a=>
binK P BinOp.neq 33 (Operand.tmp 11) (Operand.const (Value.int IntKind.i64 0)) v_8 (Value.int IntKind.i64 0) fun v_d=>
ifK v_d (
some ((Value.tuple ⟨[(Value.pointer none),v_8]⟩),H_9,n_a)) (
bindO (aX v_1) fun a_i=>bindO (az P H_9 41 a_i) fun v_h=>
bindO (nx P 109 [(0,v_h)]) fun v_j=>
boxK 109 v_j H_9 n_a fun v_k H_l n_m=>
bindO (nilV v_k) fun v_p=>
bindO (ax P 109 v_p 0) fun v_q=>
bindO (ax P 41 v_q 2) fun v_r=>
bindO (aX v_r) fun a_t=>bindO (az P H_l 27 a_t) fun v_s=>
bindO (lenV P 27 v_s) fun v_u=>
j1 v_k v_u (Value.int IntKind.i64 0) H_l n_m)
noncomputable def C66_0:=B66_0 cal k (Wy cal k k)
theorem h66_0(v0:Value)(H:Hp)(n:Nat):aW P cal A (k+1) 66 [v0] H n=C66_0 cal k v0 H n:=(bq Go.Proofs.Tryz.f66 lK dZ (by kernel_rfl)).trans (Eq.trans (b:=B66_0 cal k (T66_1 cal k k) v0 H n) (by kernel_rfl) (by rw[q66_1]; rfl))
noncomputable def code67:Code:=ak 67
noncomputable def wW:List ResultVar:=bw 67
noncomputable def K67_prr:KR:=(cutK (Lv.b (Lv.b (A 67))).c (bW P cal (aY P cal k) none 67 (cR (cR (cR code67))) (Lv.b (Lv.b (Lv.b (A 67)))) (ay P wW) X0 (ay P wW)))
noncomputable def NQ:XR:=(upX 0 (K67_prr cal k) X0)
noncomputable def K67_prrlrl(m1:Nat):KR:=(fun T H n D=>aY P cal m1 (Lv.a (Lv.b (Lv.a (Lv.b (Lv.b (A 67)))))) none 67 (cL (cR (cL (cR (cR code67))))) (K67_prr cal k) (NQ cal k) (ay P wW) (cutT (Lv.a (Lv.b (Lv.a (Lv.b (Lv.b (A 67)))))).c T) H n D)
noncomputable def T67_1(m1:Nat):=fun(u0 u3 u13 u14:Value) (H:Hp) (n:Nat)=>labK (bW P cal (aY P cal m1) none 67 (cL (cL (cR (cL (cR (cR code67)))))) (Lv.a (Lv.a (Lv.b (Lv.a (Lv.b (Lv.b (A 67))))))) (K67_prrlrl cal k m1) (NQ cal k) (ay P wW)) (Tr.set (Tr.set (Tr.set (Tr.set Tr.nil 14 (some u14)) 13 (some u13)) 3 (some u3)) 0 (some u0)) H n []
noncomputable def R67_1(m1:Nat):V4:=fun u0 u3 u13 u14 H n=>aY P cal m1 (Lv.a (Lv.b (Lv.a (Lv.b (Lv.b (A 67)))))) none 67 (cL (cR (cL (cR (cR code67))))) (K67_prr cal k) (NQ cal k) (ay P wW) (Tr.set (Tr.set (Tr.set (Tr.set Tr.nil 14 (some u14)) 13 (some u13)) 3 (some u3)) 0 (some u0)) H n []
noncomputable def B67_1(cal:Cal)(k m1:Nat)(b1:V4)(u0 u3 u13 u14:Value)(H:Hp)(n:Nat):Res:=
binK P BinOp.lss 3 (Operand.tmp 14) (Operand.tmp 13) u14 u13 fun v_c=>
ifK v_c (
aZ P cal 76 [u0,u14] H n fun v_h H_i n_j=>
bindO (tupV v_h 0) fun v_l=>
bindO (tupV v_h 1) fun v_m=>
ifK v_m (
some (u14,H_i,n_j)) (
binK P BinOp.add 3 (Operand.tmp 14) (Operand.const (Value.int IntKind.i64 1)) u14 (Value.int IntKind.i64 1) fun v_s=>
b1 u0 u3 u13 v_s H_i n_j)) (
some (u3,H,n))
noncomputable def C67_1(m1:Nat):=B67_1 cal k m1
noncomputable def S67_1:Nat→V4:=recF (C67_1 cal k) (fun _ _ _ _ _ _=>none)
theorem h67_1(m1:Nat):T67_1 cal k m1=C67_1 cal k m1 (R67_1 cal k m1):=by kernel_rfl
theorem q67_1(m:Nat):T67_1 cal k m=S67_1 cal k m:=recS (h67_1 cal k) (by kernel_rfl) (fun m=>by kernel_rfl) m
noncomputable def B67_0(cal:Cal)(k:Nat)(j1:V4)(v0:Value)(H:Hp)(n:Nat):Res:=
bindO (nilV v0) fun v_3=>
bindO (ax P 109 v_3 0) fun v_4=>
bindO (ax P 41 v_4 2) fun v_5=>
bindO (aX v_5) fun a_7=>bindO (az P H 27 a_7) fun v_6=>
bindO (lenV P 27 v_6) fun v_8=>
j1 v0 v_8 v_8 (Value.int IntKind.i64 0) H n
noncomputable def C67_0:=B67_0 cal k (S67_1 cal k k)
theorem h67_0(v0:Value)(H:Hp)(n:Nat):aW P cal A (k+1) 67 [v0] H n=C67_0 cal k v0 H n:=(bq Go.Proofs.Tryz.f67 code67 wW (by kernel_rfl)).trans (Eq.trans (b:=B67_0 cal k (T67_1 cal k k) v0 H n) (by kernel_rfl) (by rw[q67_1]; rfl))
noncomputable def code71:Code:=ak 71
noncomputable def results71:List ResultVar:=bw 71
noncomputable def B71_0(cal:Cal)(k:Nat)(v0 v1 v2:Value)(H:Hp)(n:Nat):Res:=
boxK 97 v0 H n fun v_1 H_2 n_3=>
boxK 3 v2 H_2 n_3 fun v_4 H_5 n_6=>
jY P 98 H_5 n_6 fun v_9 H_a n_b=>
bindO (aX v_4) fun a_d=>bindO (az P H_a 3 a_d) fun v_c=>
binK P BinOp.mul 3 (Operand.tmp 12) (Operand.const (Value.int IntKind.i64 100)) v_c (Value.int IntKind.i64 100) fun v_e=>
binK P BinOp.add 3 (Operand.tmp 13) (Operand.const (Value.int IntKind.i64 1)) v_e (Value.int IntKind.i64 1) fun v_f=>
jY P 3 H_a n_b fun v_g H_h n_i=>
bindO (dz P 3 v_g v_f H_h) fun H_k=>
bindO (aX v_1) fun a_m=>bindO (az P H_k 97 a_m) fun v_l=>
aZ P cal 96 [v_l,v1] H_k n_i fun v_o H_p n_q=>
jY P 98 H_p n_q fun v_r H_s n_t=>
bindO (dz P 98 v_r v_o H_s) fun H_v=>
jY P 155 H_v n_t fun v_w H_x n_y=>
bindO (dz P 155 v_w (Value.func (Fn.func 97) ⟨[]⟩ ⟨[v_4,v_1,v_g,v_9,v_r,v_w]⟩) H_x) fun H_11=>
bindO (aX v_w) fun a_13=>bindO (az P H_11 155 a_13) fun v_12=>
iQ P cal v_12 [(Value.slice none 0 0)] H_11 n_y fun v_14 H_15 n_16=>
bindO (aX v_9) fun a_17=>bindO (az P H_15 98 a_17) fun v_18=>
bindO (aX v_g) fun a_19=>bindO (az P H_15 3 a_19) fun v_1a=>
some ((Value.tuple ⟨[v_18,v_1a]⟩),H_15,n_16)
noncomputable def C71_0:=B71_0 cal k
theorem h71_0(v0 v1 v2:Value)(H:Hp)(n:Nat):aW P cal A (k+1) 71 [v0,v1,v2] H n=C71_0 cal k v0 v1 v2 H n:=(bq Go.Proofs.Tryz.f71 code71 results71 (by kernel_rfl)).trans (by kernel_rfl)
noncomputable def yJ:Code:=ak 76
noncomputable def jw:List ResultVar:=bw 76
noncomputable def uK:KR:=(cutK (Lv.b (Lv.b (Lv.b (Lv.b (Lv.b (Lv.b (Lv.b (Lv.b (Lv.a (Lv.b (A 76))))))))))).c (bW P cal (aY P cal k) none 76 (cR (cR (cR (cR (cR (cR (cR (cR (cR (cL (cR yJ))))))))))) (Lv.b (Lv.b (Lv.b (Lv.b (Lv.b (Lv.b (Lv.b (Lv.b (Lv.b (Lv.a (Lv.b (A 76)))))))))))) (ay P jw) X0 (ay P jw)))
noncomputable def jW:XR:=(upX 0 (uK cal k) X0)
noncomputable def K76_prlrrrrrrrrlrl(m1:Nat):KR:=(fun T H n D=>aY P cal m1 (Lv.a (Lv.b (Lv.a (Lv.b (Lv.b (Lv.b (Lv.b (Lv.b (Lv.b (Lv.b (Lv.b (Lv.a (Lv.b (A 76)))))))))))))) none 76 (cL (cR (cL (cR (cR (cR (cR (cR (cR (cR (cR (cL (cR yJ))))))))))))) (uK cal k) (jW cal k) (ay P jw) (cutT (Lv.a (Lv.b (Lv.a (Lv.b (Lv.b (Lv.b (Lv.b (Lv.b (Lv.b (Lv.b (Lv.b (Lv.a (Lv.b (A 76)))))))))))))).c T) H n D)
noncomputable def kW(m1:Nat):KR:=(cutK (Lv.b (Lv.a (Lv.a (Lv.b (Lv.a (Lv.b (Lv.b (Lv.b (Lv.b (Lv.b (Lv.b (Lv.b (Lv.b (Lv.a (Lv.b (A 76)))))))))))))))).c (bW P cal (aY P cal m1) none 76 (cR (cR (cL (cL (cR (cL (cR (cR (cR (cR (cR (cR (cR (cR (cL (cR yJ)))))))))))))))) (Lv.b (Lv.b (Lv.a (Lv.a (Lv.b (Lv.a (Lv.b (Lv.b (Lv.b (Lv.b (Lv.b (Lv.b (Lv.b (Lv.b (Lv.a (Lv.b (A 76))))))))))))))))) (K76_prlrrrrrrrrlrl cal k m1) (jW cal k) (ay P jw)))
noncomputable def K76_pxrlrrrrrrrrlrllrl(m1:Nat):XR:=(upX 1 (kW cal k m1) (jW cal k))
noncomputable def gk(m1:Nat):XR:=(upX 2 (kW cal k m1) (K76_pxrlrrrrrrrrlrllrl cal k m1))
noncomputable def K76_prlrrrrrrrrlrllrllrrl(m1:Nat)(m2:Nat):KR:=(fun T H n D=>aY P cal m2 (Lv.a (Lv.b (Lv.b (Lv.a (Lv.a (Lv.b (Lv.a (Lv.a (Lv.b (Lv.a (Lv.b (Lv.b (Lv.b (Lv.b (Lv.b (Lv.b (Lv.b (Lv.b (Lv.a (Lv.b (A 76))))))))))))))))))))) none 76 (cL (cR (cR (cL (cL (cR (cL (cL (cR (cL (cR (cR (cR (cR (cR (cR (cR (cR (cL (cR yJ)))))))))))))))))))) (kW cal k m1) (gk cal k m1) (ay P jw) (cutT (Lv.a (Lv.b (Lv.b (Lv.a (Lv.a (Lv.b (Lv.a (Lv.a (Lv.b (Lv.a (Lv.b (Lv.b (Lv.b (Lv.b (Lv.b (Lv.b (Lv.b (Lv.b (Lv.a (Lv.b (A 76))))))))))))))))))))).c T) H n D)
noncomputable def T76_1:=fun(u10:Value) (H:Hp) (n:Nat)=>labK (bW P cal (aY P cal k) none 76 (cR (cR (cR (cR (cR (cR (cR (cR (cR (cL (cR yJ))))))))))) (Lv.b (Lv.b (Lv.b (Lv.b (Lv.b (Lv.b (Lv.b (Lv.b (Lv.b (Lv.a (Lv.b (A 76)))))))))))) (ay P jw) X0 (ay P jw)) (Tr.set Tr.nil 10 (some u10)) H n []
noncomputable def T76_4(m1 m2:Nat):=fun(u0 u7 u8 u9 u10 u11 u12 u54 u55 u56:Value) (H:Hp) (n:Nat)=>labK (bW P cal (aY P cal m2) none 76 (cR (cR (cR (cL (cL (cR (cR (cL (cL (cR (cL (cL (cR (cL (cR (cR (cR (cR (cR (cR (cR (cR (cL (cR yJ)))))))))))))))))))))))) (Lv.b (Lv.b (Lv.b (Lv.a (Lv.a (Lv.b (Lv.b (Lv.a (Lv.a (Lv.b (Lv.a (Lv.a (Lv.b (Lv.a (Lv.b (Lv.b (Lv.b (Lv.b (Lv.b (Lv.b (Lv.b (Lv.b (Lv.a (Lv.b (A 76))))))))))))))))))))))))) (K76_prlrrrrrrrrlrllrllrrl cal k m1 m2) (gk cal k m1) (ay P jw)) (Tr.set (Tr.set (Tr.set (Tr.set (Tr.set (Tr.set (Tr.set (Tr.set (Tr.set (Tr.set Tr.nil 56 (some u56)) 55 (some u55)) 54 (some u54)) 12 (some u12)) 11 (some u11)) 10 (some u10)) 9 (some u9)) 8 (some u8)) 7 (some u7)) 0 (some u0)) H n []
noncomputable def T76_3(m1 m2:Nat):=fun(u0 u7 u8 u9 u10 u11 u12 u54 u55 u56:Value) (H:Hp) (n:Nat)=>labK (bW P cal (aY P cal m2) none 76 (cL (cL (cR (cR (cL (cL (cR (cL (cL (cR (cL (cR (cR (cR (cR (cR (cR (cR (cR (cL (cR yJ))))))))))))))))))))) (Lv.a (Lv.a (Lv.b (Lv.b (Lv.a (Lv.a (Lv.b (Lv.a (Lv.a (Lv.b (Lv.a (Lv.b (Lv.b (Lv.b (Lv.b (Lv.b (Lv.b (Lv.b (Lv.b (Lv.a (Lv.b (A 76)))))))))))))))))))))) (K76_prlrrrrrrrrlrllrllrrl cal k m1 m2) (gk cal k m1) (ay P jw)) (Tr.set (Tr.set (Tr.set (Tr.set (Tr.set (Tr.set (Tr.set (Tr.set (Tr.set (Tr.set Tr.nil 56 (some u56)) 55 (some u55)) 54 (some u54)) 12 (some u12)) 11 (some u11)) 10 (some u10)) 9 (some u9)) 8 (some u8)) 7 (some u7)) 0 (some u0)) H n []
noncomputable def R76_3(m1 m2:Nat):V10:=fun u0 u7 u8 u9 u10 u11 u12 u54 u55 u56 H n=>aY P cal m2 (Lv.a (Lv.b (Lv.b (Lv.a (Lv.a (Lv.b (Lv.a (Lv.a (Lv.b (Lv.a (Lv.b (Lv.b (Lv.b (Lv.b (Lv.b (Lv.b (Lv.b (Lv.b (Lv.a (Lv.b (A 76))))))))))))))))))))) none 76 (cL (cR (cR (cL (cL (cR (cL (cL (cR (cL (cR (cR (cR (cR (cR (cR (cR (cR (cL (cR yJ)))))))))))))))))))) (kW cal k m1) (gk cal k m1) (ay P jw) (Tr.set (Tr.set (Tr.set (Tr.set (Tr.set (Tr.set (Tr.set (Tr.set (Tr.set (Tr.set Tr.nil 56 (some u56)) 55 (some u55)) 54 (some u54)) 12 (some u12)) 11 (some u11)) 10 (some u10)) 9 (some u9)) 8 (some u8)) 7 (some u7)) 0 (some u0)) H n []
noncomputable def T76_2(m1:Nat):=fun(u0 u7 u8 u9 u10 u11:Value) (H:Hp) (n:Nat)=>labK (bW P cal (aY P cal m1) none 76 (cL (cL (cR (cL (cR (cR (cR (cR (cR (cR (cR (cR (cL (cR yJ)))))))))))))) (Lv.a (Lv.a (Lv.b (Lv.a (Lv.b (Lv.b (Lv.b (Lv.b (Lv.b (Lv.b (Lv.b (Lv.b (Lv.a (Lv.b (A 76))))))))))))))) (K76_prlrrrrrrrrlrl cal k m1) (jW cal k) (ay P jw)) (Tr.set (Tr.set (Tr.set (Tr.set (Tr.set (Tr.set Tr.nil 11 (some u11)) 10 (some u10)) 9 (some u9)) 8 (some u8)) 7 (some u7)) 0 (some u0)) H n []
noncomputable def R76_2(m1:Nat):V6:=fun u0 u7 u8 u9 u10 u11 H n=>aY P cal m1 (Lv.a (Lv.b (Lv.a (Lv.b (Lv.b (Lv.b (Lv.b (Lv.b (Lv.b (Lv.b (Lv.b (Lv.a (Lv.b (A 76)))))))))))))) none 76 (cL (cR (cL (cR (cR (cR (cR (cR (cR (cR (cR (cL (cR yJ))))))))))))) (uK cal k) (jW cal k) (ay P jw) (Tr.set (Tr.set (Tr.set (Tr.set (Tr.set (Tr.set Tr.nil 11 (some u11)) 10 (some u10)) 9 (some u9)) 8 (some u8)) 7 (some u7)) 0 (some u0)) H n []
noncomputable def B76_1(cal:Cal)(k:Nat)(u10:Value)(H:Hp)(n:Nat):Res:=
binK P BinOp.eql 157 (Operand.tmp 88) (Operand.const (Value.pointer none)) u10 (Value.pointer none) fun v_1d=>
ifK v_1d (
some ((Value.tuple ⟨[(Value.slice none 0 0),(Value.bool false)]⟩),H,n)) (
aZ P cal 101 [u10] H n fun v_1h H_1i n_1j=>
some ((Value.tuple ⟨[v_1h,(Value.bool true)]⟩),H_1i,n_1j))
noncomputable def C76_1:=B76_1 cal k
theorem h76_1:T76_1 cal k=C76_1 cal k:=by kernel_rfl
noncomputable def B76_4(cal:Cal)(k m1 m2:Nat)(b2:V6)(b3:V10)(u0 u7 u8 u9 u10 u11 u12 u54 u55 u56:Value)(H:Hp)(n:Nat):Res:=
binK P BinOp.add 3 (Operand.tmp 56) (Operand.const (Value.int IntKind.i64 1)) u56 (Value.int IntKind.i64 1) fun v_29=>
b3 u0 u7 u8 u9 u10 u11 u12 u54 u55 v_29 H n
noncomputable def C76_4(m1 m2:Nat):=B76_4 cal k m1 m2
theorem h76_4(m1 m2:Nat):T76_4 cal k m1 m2=C76_4 cal k m1 m2 (R76_2 cal k m1) (R76_3 cal k m1 m2):=by kernel_rfl
noncomputable def B76_3(cal:Cal)(k m1 m2:Nat)(j4:V10)(j1:V1)(b2:V6)(b3:V10)(u0 u7 u8 u9 u10 u11 u12 u54 u55 u56:Value)(H:Hp)(n:Nat):Res:=
binK P BinOp.lss 3 (Operand.tmp 56) (Operand.tmp 55) u56 u55 fun v_28=>
ifK v_28 (
bindO (aJ P 98 u54 u56) fun v_2b=>
bindO (aX v_2b) fun a_2d=>bindO (az P H 106 a_2d) fun v_2c=>
aZ P cal 86 [u12,v_2c] H n fun v_2h H_2i n_2j=>
bindO (aJ P 161 u9 v_2h) fun v_2m=>
bindO (aX v_2m) fun a_2o=>bindO (az P H_2i 4 a_2o) fun v_2n=>
ifK v_2n (
j4 u0 u7 u8 u9 u10 u11 u12 u54 u55 u56 H_2i n_2j) (
bindO (aJ P 161 u9 v_2h) fun v_2q=>
bindO (dz P 4 v_2q (Value.bool true) H_2i) fun H_2s=>
bindO (aJ P 160 u8 u11) fun v_2w=>
bindO (aX v_2w) fun a_2y=>bindO (az P H_2s 157 a_2y) fun v_2x=>
bindO (nx P 159 [(0,v_2x),(1,v_2c),(2,v_2h)]) fun v_31=>
boxK 159 v_31 H_2s n_2j fun v_32 H_33 n_34=>
rowK P 160 1 [(0,v_32)] H_33 n_34 fun v_35 H_36 n_37=>
stK (cZ P (bare H_36 n_37) 160 160 u8 v_35) fun v_38 H_39 n_3a=>
binK P BinOp.eql 106 (Operand.tmp 79) (Operand.const (Value.int IntKind.u64 0)) v_2h (Value.int IntKind.u64 0) fun v_3d=>
ifK v_3d (
bindO (lenV P 160 v_38) fun v_3g=>
binK P BinOp.sub 3 (Operand.tmp 83) (Operand.const (Value.int IntKind.i64 1)) v_3g (Value.int IntKind.i64 1) fun v_3h=>
bindO (aJ P 160 v_38 v_3h) fun v_3i=>
bindO (aX v_3i) fun a_3k=>bindO (az P H_39 157 a_3k) fun v_3j=>
j1 v_3j H_39 n_3a) (
j4 u0 u7 v_38 u9 u10 u11 u12 u54 u55 u56 H_39 n_3a))) (
binK P BinOp.add 3 (Operand.tmp 43) (Operand.const (Value.int IntKind.i64 1)) u11 (Value.int IntKind.i64 1) fun v_3n=>
b2 u0 u7 u8 u9 u10 v_3n H n)
noncomputable def C76_3(m1 m2:Nat)(b2:V6)(b3:V10):=B76_3 cal k m1 m2 (C76_4 cal k m1 m2 b2 b3) (C76_1 cal k) b2 b3
noncomputable def S76_3(m1:Nat)(b2:V6):Nat→V10:=fun m=>Nat.rec (motive:=fun _=>V10) (C76_3 cal k m1 0 b2 (fun _ _ _ _ _ _ _ _ _ _ _ _=>none)) (fun m ih=>C76_3 cal k m1 (m+1) b2 ih) m
theorem h76_3(m1 m2:Nat):T76_3 cal k m1 m2=C76_3 cal k m1 m2 (R76_2 cal k m1) (R76_3 cal k m1 m2):=Eq.trans (b:=B76_3 cal k m1 m2 (T76_4 cal k m1 m2) (T76_1 cal k) (R76_2 cal k m1) (R76_3 cal k m1 m2)) (by kernel_rfl) (by rw[h76_4,h76_1]; rfl)
theorem q76_3(m1:Nat)(m:Nat):T76_3 cal k m1 m=S76_3 cal k m1 (R76_2 cal k m1) m:=recS (h76_3 cal k m1) (by kernel_rfl) (fun m=>by kernel_rfl) m
noncomputable def B76_2(cal:Cal)(k m1:Nat)(j3:V10)(j1:V1)(b2:V6)(u0 u7 u8 u9 u10 u11:Value)(H:Hp)(n:Nat):Res:=
bindO (lenV P 160 u8) fun v_1p=>
binK P BinOp.lss 3 (Operand.tmp 39) (Operand.tmp 41) u11 v_1p fun v_1q=>
ifK v_1q (
bindO (aJ P 160 u8 u11) fun v_1u=>
bindO (aX v_1u) fun a_1w=>bindO (az P H 157 a_1w) fun v_1v=>
bindO (nilV v_1v) fun v_1x=>
bindO (ax P 159 v_1x 2) fun v_1y=>
bindO (aX v_1y) fun a_20=>bindO (az P H 106 a_20) fun v_1z=>
aZ P cal 85 [u0,v_1z] H n fun v_21 H_22 n_23=>
bindO (lenV P 98 u7) fun v_26=>
j3 u0 u7 u8 u9 u10 u11 v_21 u7 v_26 (Value.int IntKind.i64 0) H_22 n_23) (
j1 u10 H n)
noncomputable def C76_2(m1:Nat)(b2:V6):=B76_2 cal k m1 (S76_3 cal k m1 b2 m1) (C76_1 cal k) b2
noncomputable def S76_2:Nat→V6:=recF (C76_2 cal k) (fun _ _ _ _ _ _ _ _=>none)
theorem h76_2(m1:Nat):T76_2 cal k m1=C76_2 cal k m1 (R76_2 cal k m1):=Eq.trans (b:=B76_2 cal k m1 (T76_3 cal k m1 m1) (T76_1 cal k) (R76_2 cal k m1)) (by kernel_rfl) (by rw[q76_3,h76_1]; rfl)
theorem q76_2(m:Nat):T76_2 cal k m=S76_2 cal k m:=recS (h76_2 cal k) (by kernel_rfl) (fun m=>by kernel_rfl) m
noncomputable def B76_0(cal:Cal)(k:Nat)(j2:V6)(v0 v1:Value)(H:Hp)(n:Nat):Res:=
bindO (nilV v0) fun v_4=>
bindO (ax P 109 v_4 0) fun v_5=>
bindO (ax P 41 v_5 1) fun v_6=>
bindO (aX v_6) fun a_8=>bindO (az P H 27 a_8) fun v_7=>
aZ P cal 83 [v_7] H n fun v_9 H_a n_b=>
bindO (nx P 159 [(2,v_9)]) fun v_c=>
boxK 159 v_c H_a n_b fun v_d H_e n_f=>
bindO (nilV v_d) fun v_i=>
bindO (ax P 159 v_i 2) fun v_j=>
bindO (aX v_j) fun a_l=>bindO (az P H_e 106 a_l) fun v_k=>
binK P BinOp.eql 106 (Operand.tmp 27) (Operand.const (Value.int IntKind.u64 0)) v_k (Value.int IntKind.u64 0) fun v_m=>
ifK v_m (
some ((Value.tuple ⟨[(Value.slice none 0 0),(Value.bool true)]⟩),H_e,n_f)) (
aZ P cal 96 [v0,v1] H_e n_f fun v_r H_s n_t=>
rowK P 160 1 [(0,v_d)] H_s n_t fun v_w H_x n_y=>
jY P 161 H_x n_y fun v_10 H_11 n_12=>
bindO (nilV v_d) fun v_14=>
bindO (ax P 159 v_14 2) fun v_15=>
bindO (aX v_15) fun a_17=>bindO (az P H_11 106 a_17) fun v_16=>
bindO (aJ P 161 v_10 v_16) fun v_18=>
bindO (dz P 4 v_18 (Value.bool true) H_11) fun H_1a=>
j2 v0 v_r v_w v_10 (Value.pointer none) (Value.int IntKind.i64 0) H_1a n_12)
noncomputable def C76_0:=B76_0 cal k (S76_2 cal k k)
theorem h76_0(v0 v1:Value)(H:Hp)(n:Nat):aW P cal A (k+1) 76 [v0,v1] H n=C76_0 cal k v0 v1 H n:=(bq Go.Proofs.Tryz.f76 yJ jw (by kernel_rfl)).trans (Eq.trans (b:=B76_0 cal k (T76_2 cal k k) v0 v1 H n) (by kernel_rfl) (by rw[q76_2]; rfl))
noncomputable def code77:Code:=ak 77
noncomputable def Rj:List ResultVar:=bw 77
noncomputable def B77_0(cal:Cal)(k:Nat)(v0:Value)(H:Hp)(n:Nat):Res:=
boxK 39 v0 H n fun v_1 H_2 n_3=>
bindO (aX v_1) fun a_6=>bindO (az P H_2 39 a_6) fun v_5=>
aZ P cal 102 [v_5] H_2 n_3 fun v_7 H_8 n_9=>
some (v_7,H_8,n_9)
noncomputable def C77_0:=B77_0 cal k
theorem h77_0(v0:Value)(H:Hp)(n:Nat):aW P cal A (k+1) 77 [v0] H n=C77_0 cal k v0 H n:=(bq Go.Proofs.Tryz.f77 code77 Rj (by kernel_rfl)).trans (by kernel_rfl)
noncomputable def code78:Code:=ak 78
noncomputable def Rq:List ResultVar:=bw 78
noncomputable def B78_0(cal:Cal)(k:Nat)(v0 v1:Value)(H:Hp)(n:Nat):Res:=
boxK 41 v0 H n fun v_1 H_2 n_3=>
bindO (aX v_1) fun a_7=>bindO (az P H_2 41 a_7) fun v_6=>
aZ P cal 79 [v1,(Value.func (Fn.func 93) ⟨[v_6]⟩ ⟨[]⟩)] H_2 n_3 fun v_9 H_a n_b=>
bj v_9 true (fun k_d=>
k_d v1 H_a n_b) H_a n_b fun v_e H_f n_g=>
bj v_9 true (fun k_i=>
aZ P cal 103 [v_e] H_f n_g fun v_m H_n n_o=>
k_i v_m H_n n_o) H_f n_g fun v_j H_k n_l=>
bindO (fV v_9 v_j (Value.bool false)) fun v_p=>
some (v_p,H_k,n_l)
noncomputable def C78_0:=B78_0 cal k
theorem h78_0(v0 v1:Value)(H:Hp)(n:Nat):aW P cal A (k+1) 78 [v0,v1] H n=C78_0 cal k v0 v1 H n:=(bq Go.Proofs.Tryz.f78 code78 Rq (by kernel_rfl)).trans (by kernel_rfl)
noncomputable def xJ:Code:=ak 79
noncomputable def jj:List ResultVar:=bw 79
noncomputable def KV:KR:=(cutK (Lv.b (A 79)).c (bW P cal (aY P cal k) none 79 (cR (cR xJ)) (Lv.b (Lv.b (A 79))) (ay P jj) X0 (ay P jj)))
noncomputable def tJ:XR:=(upX 0 (KV cal k) X0)
noncomputable def Rv(m1:Nat):KR:=(fun T H n D=>aY P cal m1 (Lv.a (Lv.b (Lv.a (Lv.b (A 79))))) none 79 (cL (cR (cL (cR xJ)))) (KV cal k) (tJ cal k) (ay P jj) (cutT (Lv.a (Lv.b (Lv.a (Lv.b (A 79))))).c T) H n D)
noncomputable def T79_1(m1:Nat):=fun(u1 u7 u8 u9:Value) (H:Hp) (n:Nat)=>labK (bW P cal (aY P cal m1) none 79 (cL (cL (cR (cL (cR xJ))))) (Lv.a (Lv.a (Lv.b (Lv.a (Lv.b (A 79)))))) (Rv cal k m1) (tJ cal k) (ay P jj)) (Tr.set (Tr.set (Tr.set (Tr.set Tr.nil 9 (some u9)) 8 (some u8)) 7 (some u7)) 1 (some u1)) H n []
noncomputable def R79_1(m1:Nat):V4:=fun u1 u7 u8 u9 H n=>aY P cal m1 (Lv.a (Lv.b (Lv.a (Lv.b (A 79))))) none 79 (cL (cR (cL (cR xJ)))) (KV cal k) (tJ cal k) (ay P jj) (Tr.set (Tr.set (Tr.set (Tr.set Tr.nil 9 (some u9)) 8 (some u8)) 7 (some u7)) 1 (some u1)) H n []
noncomputable def B79_1(cal:Cal)(k m1:Nat)(b1:V4)(u1 u7 u8 u9:Value)(H:Hp)(n:Nat):Res:=
binK P BinOp.lss 3 (Operand.tmp 9) (Operand.tmp 8) u9 u8 fun v_5=>
ifK v_5 (
bindO (aJ P 27 u7 u9) fun v_6=>
bindO (aX v_6) fun a_8=>bindO (az P H 3 a_8) fun v_7=>
iQ P cal u1 [v_7] H n fun v_c H_d n_e=>
bindO (dk P v_c (Op.unary UnOp.not v_c)) fun v_f=>
ifK v_f (
some ((Value.bool false),H_d,n_e)) (
binK P BinOp.add 3 (Operand.tmp 9) (Operand.const (Value.int IntKind.i64 1)) u9 (Value.int IntKind.i64 1) fun v_h=>
b1 u1 u7 u8 v_h H_d n_e)) (
some ((Value.bool true),H,n))
noncomputable def Wz(m1:Nat):=B79_1 cal k m1
noncomputable def Wk:Nat→V4:=recF (Wz cal k) (fun _ _ _ _ _ _=>none)
theorem h79_1(m1:Nat):T79_1 cal k m1=Wz cal k m1 (R79_1 cal k m1):=by kernel_rfl
theorem q79_1(m:Nat):T79_1 cal k m=Wk cal k m:=recS (h79_1 cal k) (by kernel_rfl) (fun m=>by kernel_rfl) m
noncomputable def B79_0(cal:Cal)(k:Nat)(j1:V4)(v0 v1:Value)(H:Hp)(n:Nat):Res:=
bindO (lenV P 27 v0) fun v_3=>
j1 v1 v0 v_3 (Value.int IntKind.i64 0) H n
noncomputable def C79_0:=B79_0 cal k (Wk cal k k)
theorem h79_0(v0 v1:Value)(H:Hp)(n:Nat):aW P cal A (k+1) 79 [v0,v1] H n=C79_0 cal k v0 v1 H n:=(bq Go.Proofs.Tryz.f79 xJ jj (by kernel_rfl)).trans (Eq.trans (b:=B79_0 cal k (T79_1 cal k k) v0 v1 H n) (by kernel_rfl) (by rw[q79_1]; rfl))
noncomputable def code80:Code:=ak 80
noncomputable def Rw:List ResultVar:=bw 80
noncomputable def B80_0(cal:Cal)(k:Nat)(v0:Value)(H:Hp)(n:Nat):Res:=
binK P BinOp.geq 3 (Operand.tmp 3) (Operand.const (Value.int IntKind.i64 0)) v0 (Value.int IntKind.i64 0) fun v_3=>
bj v_3 true (fun k_5=>
k_5 v0 H n) H n fun v_6 H_7 n_8=>
bj v_3 true (fun k_a=>
binK P BinOp.leq 3 (Operand.tmp 6) (Operand.const (Value.int IntKind.i64 100)) v_6 (Value.int IntKind.i64 100) fun v_e=>
k_a v_e H_7 n_8) H_7 n_8 fun v_b H_c n_d=>
bindO (fV v_3 v_b (Value.bool false)) fun v_f=>
some (v_f,H_c,n_d)
noncomputable def C80_0:=B80_0 cal k
theorem h80_0(v0:Value)(H:Hp)(n:Nat):aW P cal A (k+1) 80 [v0] H n=C80_0 cal k v0 H n:=(bq Go.Proofs.Tryz.f80 code80 Rw (by kernel_rfl)).trans (by kernel_rfl)
noncomputable def xQ:Code:=ak 82
noncomputable def jq:List ResultVar:=bw 82
noncomputable def KW:KR:=(cutK (Lv.b (A 82)).c (bW P cal (aY P cal k) none 82 (cR (cR xQ)) (Lv.b (Lv.b (A 82))) (ay P jq) X0 (ay P jq)))
noncomputable def tQ:XR:=(upX 0 (KW cal k) X0)
noncomputable def Rx(m1:Nat):KR:=(fun T H n D=>aY P cal m1 (Lv.a (Lv.b (Lv.a (Lv.b (A 82))))) none 82 (cL (cR (cL (cR xQ)))) (KW cal k) (tQ cal k) (ay P jq) (cutT (Lv.a (Lv.b (Lv.a (Lv.b (A 82))))).c T) H n D)
noncomputable def T82_1(m1:Nat):=fun(u1 u7 u8 u9:Value) (H:Hp) (n:Nat)=>labK (bW P cal (aY P cal m1) none 82 (cL (cL (cR (cL (cR xQ))))) (Lv.a (Lv.a (Lv.b (Lv.a (Lv.b (A 82)))))) (Rx cal k m1) (tQ cal k) (ay P jq)) (Tr.set (Tr.set (Tr.set (Tr.set Tr.nil 9 (some u9)) 8 (some u8)) 7 (some u7)) 1 (some u1)) H n []
noncomputable def R82_1(m1:Nat):V4:=fun u1 u7 u8 u9 H n=>aY P cal m1 (Lv.a (Lv.b (Lv.a (Lv.b (A 82))))) none 82 (cL (cR (cL (cR xQ)))) (KW cal k) (tQ cal k) (ay P jq) (Tr.set (Tr.set (Tr.set (Tr.set Tr.nil 9 (some u9)) 8 (some u8)) 7 (some u7)) 1 (some u1)) H n []
noncomputable def B82_1(cal:Cal)(k m1:Nat)(b1:V4)(u1 u7 u8 u9:Value)(H:Hp)(n:Nat):Res:=
binK P BinOp.lss 3 (Operand.tmp 9) (Operand.tmp 8) u9 u8 fun v_5=>
ifK v_5 (
bindO (aJ P 30 u7 u9) fun v_6=>
bindO (aX v_6) fun a_8=>bindO (az P H 27 a_8) fun v_7=>
iQ P cal u1 [v_7] H n fun v_c H_d n_e=>
bindO (dk P v_c (Op.unary UnOp.not v_c)) fun v_f=>
ifK v_f (
some ((Value.bool false),H_d,n_e)) (
binK P BinOp.add 3 (Operand.tmp 9) (Operand.const (Value.int IntKind.i64 1)) u9 (Value.int IntKind.i64 1) fun v_h=>
b1 u1 u7 u8 v_h H_d n_e)) (
some ((Value.bool true),H,n))
noncomputable def WJ(m1:Nat):=B82_1 cal k m1
noncomputable def WQ:Nat→V4:=recF (WJ cal k) (fun _ _ _ _ _ _=>none)
theorem h82_1(m1:Nat):T82_1 cal k m1=WJ cal k m1 (R82_1 cal k m1):=by kernel_rfl
theorem q82_1(m:Nat):T82_1 cal k m=WQ cal k m:=recS (h82_1 cal k) (by kernel_rfl) (fun m=>by kernel_rfl) m
noncomputable def B82_0(cal:Cal)(k:Nat)(j1:V4)(v0 v1:Value)(H:Hp)(n:Nat):Res:=
bindO (lenV P 30 v0) fun v_3=>
j1 v1 v0 v_3 (Value.int IntKind.i64 0) H n
noncomputable def C82_0:=B82_0 cal k (WQ cal k k)
theorem h82_0(v0 v1:Value)(H:Hp)(n:Nat):aW P cal A (k+1) 82 [v0,v1] H n=C82_0 cal k v0 v1 H n:=(bq Go.Proofs.Tryz.f82 xQ jq (by kernel_rfl)).trans (Eq.trans (b:=B82_0 cal k (T82_1 cal k k) v0 v1 H n) (by kernel_rfl) (by rw[q82_1]; rfl))
noncomputable def xV:Code:=ak 83
noncomputable def jv:List ResultVar:=bw 83
noncomputable def BK:KR:=(cutK (Lv.b (Lv.b (A 83))).c (bW P cal (aY P cal k) none 83 (cR (cR (cR xV))) (Lv.b (Lv.b (Lv.b (A 83)))) (ay P jv) X0 (ay P jv)))
noncomputable def qq:XR:=(upX 0 (BK cal k) X0)
noncomputable def KX(m1:Nat):KR:=(fun T H n D=>aY P cal m1 (Lv.a (Lv.b (Lv.a (Lv.b (Lv.b (A 83)))))) none 83 (cL (cR (cL (cR (cR xV))))) (BK cal k) (qq cal k) (ay P jv) (cutT (Lv.a (Lv.b (Lv.a (Lv.b (Lv.b (A 83)))))).c T) H n D)
noncomputable def T83_1(m1:Nat):=fun(u3 u6 u7 u8:Value) (H:Hp) (n:Nat)=>labK (bW P cal (aY P cal m1) none 83 (cL (cL (cR (cL (cR (cR xV)))))) (Lv.a (Lv.a (Lv.b (Lv.a (Lv.b (Lv.b (A 83))))))) (KX cal k m1) (qq cal k) (ay P jv)) (Tr.set (Tr.set (Tr.set (Tr.set Tr.nil 8 (some u8)) 7 (some u7)) 6 (some u6)) 3 (some u3)) H n []
noncomputable def R83_1(m1:Nat):V4:=fun u3 u6 u7 u8 H n=>aY P cal m1 (Lv.a (Lv.b (Lv.a (Lv.b (Lv.b (A 83)))))) none 83 (cL (cR (cL (cR (cR xV))))) (BK cal k) (qq cal k) (ay P jv) (Tr.set (Tr.set (Tr.set (Tr.set Tr.nil 8 (some u8)) 7 (some u7)) 6 (some u6)) 3 (some u3)) H n []
noncomputable def B83_1(cal:Cal)(k m1:Nat)(b1:V4)(u3 u6 u7 u8:Value)(H:Hp)(n:Nat):Res:=
binK P BinOp.lss 3 (Operand.tmp 8) (Operand.tmp 7) u8 u7 fun v_6=>
ifK v_6 (
bindO (aJ P 27 u6 u8) fun v_7=>
bindO (aX v_7) fun a_9=>bindO (az P H 3 a_9) fun v_8=>
binK P BinOp.shl 106 (Operand.const (Value.int IntKind.u64 1)) (Operand.tmp 13) (Value.int IntKind.u64 1) v_8 fun v_d=>
binK P BinOp.or 106 (Operand.tmp 12) (Operand.tmp 14) u3 v_d fun v_e=>
binK P BinOp.add 3 (Operand.tmp 8) (Operand.const (Value.int IntKind.i64 1)) u8 (Value.int IntKind.i64 1) fun v_g=>
b1 v_e u6 u7 v_g H n) (
some (u3,H,n))
noncomputable def WV(m1:Nat):=B83_1 cal k m1
noncomputable def WW:Nat→V4:=recF (WV cal k) (fun _ _ _ _ _ _=>none)
theorem h83_1(m1:Nat):T83_1 cal k m1=WV cal k m1 (R83_1 cal k m1):=by kernel_rfl
theorem q83_1(m:Nat):T83_1 cal k m=WW cal k m:=recS (h83_1 cal k) (by kernel_rfl) (fun m=>by kernel_rfl) m
noncomputable def B83_0(cal:Cal)(k:Nat)(j1:V4)(v0:Value)(H:Hp)(n:Nat):Res:=
bindO (lenV P 27 v0) fun v_4=>
j1 (Value.int IntKind.u64 0) v0 v_4 (Value.int IntKind.i64 0) H n
noncomputable def C83_0:=B83_0 cal k (WW cal k k)
theorem h83_0(v0:Value)(H:Hp)(n:Nat):aW P cal A (k+1) 83 [v0] H n=C83_0 cal k v0 H n:=(bq Go.Proofs.Tryz.f83 xV jv (by kernel_rfl)).trans (Eq.trans (b:=B83_0 cal k (T83_1 cal k k) v0 H n) (by kernel_rfl) (by rw[q83_1]; rfl))
end Go.Proofs.YtcjnaeimeilomaaGreat.G
end
end
section
open Go Go.Ev
set_option maxRecDepth 1000000
noncomputable section
namespace Go.Proofs.YtcjnaeimeilomaaGreat.G
variable (cal:Cal) (k:Nat)
noncomputable def tV:Code:=ak 84
noncomputable def gW:List ResultVar:=bw 84
noncomputable def Cj:KR:=(cutK (Lv.b (Lv.b (A 84))).c (bW P cal (aY P cal k) none 84 (cR (cR (cR tV))) (Lv.b (Lv.b (Lv.b (A 84)))) (ay P gW) X0 (ay P gW)))
noncomputable def mq:XR:=(upX 0 (Cj cal k) X0)
noncomputable def xW(m1:Nat):KR:=(fun T H n D=>aY P cal m1 (Lv.a (Lv.b (Lv.a (Lv.b (Lv.b (A 84)))))) none 84 (cL (cR (cL (cR (cR tV))))) (Cj cal k) (mq cal k) (ay P gW) (cutT (Lv.a (Lv.b (Lv.a (Lv.b (Lv.b (A 84)))))).c T) H n D)
noncomputable def T84_2(m1:Nat):=fun(u0 u3 u5:Value) (H:Hp) (n:Nat)=>labK (bW P cal (aY P cal m1) none 84 (cR (cR (cR (cL (cL (cR (cL (cR (cR tV))))))))) (Lv.b (Lv.b (Lv.b (Lv.a (Lv.a (Lv.b (Lv.a (Lv.b (Lv.b (A 84)))))))))) (xW cal k m1) (mq cal k) (ay P gW)) (Tr.set (Tr.set (Tr.set Tr.nil 5 (some u5)) 3 (some u3)) 0 (some u0)) H n []
noncomputable def T84_1(m1:Nat):=fun(u0 u3 u5:Value) (H:Hp) (n:Nat)=>labK (bW P cal (aY P cal m1) none 84 (cL (cL (cR (cL (cR (cR tV)))))) (Lv.a (Lv.a (Lv.b (Lv.a (Lv.b (Lv.b (A 84))))))) (xW cal k m1) (mq cal k) (ay P gW)) (Tr.set (Tr.set (Tr.set Tr.nil 5 (some u5)) 3 (some u3)) 0 (some u0)) H n []
noncomputable def R84_1(m1:Nat):V3:=fun u0 u3 u5 H n=>aY P cal m1 (Lv.a (Lv.b (Lv.a (Lv.b (Lv.b (A 84)))))) none 84 (cL (cR (cL (cR (cR tV))))) (Cj cal k) (mq cal k) (ay P gW) (Tr.set (Tr.set (Tr.set Tr.nil 5 (some u5)) 3 (some u3)) 0 (some u0)) H n []
noncomputable def B84_2(cal:Cal)(k m1:Nat)(b1:V3)(u0 u3 u5:Value)(H:Hp)(n:Nat):Res:=
binK P BinOp.add 3 (Operand.tmp 5) (Operand.const (Value.int IntKind.i64 1)) u5 (Value.int IntKind.i64 1) fun v_5=>
b1 u0 u3 v_5 H n
noncomputable def C84_2(m1:Nat):=B84_2 cal k m1
theorem h84_2(m1:Nat):T84_2 cal k m1=C84_2 cal k m1 (R84_1 cal k m1):=by kernel_rfl
noncomputable def B84_1(cal:Cal)(k m1:Nat)(j2:V3)(b1:V3)(u0 u3 u5:Value)(H:Hp)(n:Nat):Res:=
binK P BinOp.lss 3 (Operand.tmp 5) (Operand.const (Value.int IntKind.i64 8)) u5 (Value.int IntKind.i64 8) fun v_4=>
ifK v_4 (
aZ P cal 94 [u0,u5] H n fun v_b H_c n_d=>
ifK v_b (
rowK P 27 1 [(0,u5)] H_c n_d fun v_g H_h n_i=>
stK (cZ P (bare H_h n_i) 27 27 u3 v_g) fun v_j H_k n_l=>
j2 u0 v_j u5 H_k n_l) (
j2 u0 u3 u5 H_c n_d)) (
some (u3,H,n))
noncomputable def WX(m1:Nat)(b1:V3):=B84_1 cal k m1 (C84_2 cal k m1 b1) b1
noncomputable def WY:Nat→V3:=recF (WX cal k) (fun _ _ _ _ _=>none)
theorem h84_1(m1:Nat):T84_1 cal k m1=WX cal k m1 (R84_1 cal k m1):=Eq.trans (b:=B84_1 cal k m1 (T84_2 cal k m1) (R84_1 cal k m1)) (by kernel_rfl) (by rw[h84_2]; rfl)
theorem q84_1(m:Nat):T84_1 cal k m=WY cal k m:=recS (h84_1 cal k) (by kernel_rfl) (fun m=>by kernel_rfl) m
noncomputable def B84_0(cal:Cal)(k:Nat)(j1:V3)(v0:Value)(H:Hp)(n:Nat):Res:=
j1 v0 (Value.slice none 0 0) (Value.int IntKind.i64 0) H n
noncomputable def C84_0:=B84_0 cal k (WY cal k k)
theorem h84_0(v0:Value)(H:Hp)(n:Nat):aW P cal A (k+1) 84 [v0] H n=C84_0 cal k v0 H n:=(bq Go.Proofs.Tryz.f84 tV gW (by kernel_rfl)).trans (Eq.trans (b:=B84_0 cal k (T84_1 cal k k) v0 H n) (by kernel_rfl) (by rw[q84_1]; rfl))
noncomputable def code86:Code:=ak 86
noncomputable def Ry:List ResultVar:=bw 86
noncomputable def B86_0(cal:Cal)(k:Nat)(v0 v1:Value)(H:Hp)(n:Nat):Res:=
binK P BinOp.andNot 106 (Operand.tmp 5) (Operand.tmp 6) v0 v1 fun v_4=>
some (v_4,H,n)
noncomputable def C86_0:=B86_0 cal k
theorem h86_0(v0 v1:Value)(H:Hp)(n:Nat):aW P cal A (k+1) 86 [v0,v1] H n=C86_0 cal k v0 v1 H n:=(bq Go.Proofs.Tryz.f86 code86 Ry (by kernel_rfl)).trans (by kernel_rfl)
noncomputable def qv:Code:=ak 90
noncomputable def eY:List ResultVar:=bw 90
noncomputable def xX:KR:=(cutK (Lv.b (Lv.b (Lv.b (A 90)))).c (bW P cal (aY P cal k) none 90 (cR (cR (cR (cR qv)))) (Lv.b (Lv.b (Lv.b (Lv.b (A 90))))) (ay P eY) X0 (ay P eY)))
noncomputable def kJ:XR:=(upX 0 (xX cal k) X0)
noncomputable def uy(m1:Nat):KR:=(fun T H n D=>aY P cal m1 (Lv.a (Lv.b (Lv.a (Lv.b (Lv.b (Lv.b (A 90))))))) none 90 (cL (cR (cL (cR (cR (cR qv)))))) (xX cal k) (kJ cal k) (ay P eY) (cutT (Lv.a (Lv.b (Lv.a (Lv.b (Lv.b (Lv.b (A 90))))))).c T) H n D)
noncomputable def T90_3(m1:Nat):=fun(u0 u1 u5 u6:Value) (H:Hp) (n:Nat)=>labK (bW P cal (aY P cal m1) none 90 (cR (cR (cL (cL (cR (cL (cR (cR (cR qv))))))))) (Lv.b (Lv.b (Lv.a (Lv.a (Lv.b (Lv.a (Lv.b (Lv.b (Lv.b (A 90)))))))))) (uy cal k m1) (kJ cal k) (ay P eY)) (Tr.set (Tr.set (Tr.set (Tr.set Tr.nil 6 (some u6)) 5 (some u5)) 1 (some u1)) 0 (some u0)) H n []
noncomputable def T90_2(m1:Nat):=fun(u0 u1 u5 u6:Value) (H:Hp) (n:Nat)=>labK (bW P cal (aY P cal m1) none 90 (cL (cL (cR (cL (cR (cR (cR qv))))))) (Lv.a (Lv.a (Lv.b (Lv.a (Lv.b (Lv.b (Lv.b (A 90)))))))) (uy cal k m1) (kJ cal k) (ay P eY)) (Tr.set (Tr.set (Tr.set (Tr.set Tr.nil 6 (some u6)) 5 (some u5)) 1 (some u1)) 0 (some u0)) H n []
noncomputable def R90_2(m1:Nat):V4:=fun u0 u1 u5 u6 H n=>aY P cal m1 (Lv.a (Lv.b (Lv.a (Lv.b (Lv.b (Lv.b (A 90))))))) none 90 (cL (cR (cL (cR (cR (cR qv)))))) (xX cal k) (kJ cal k) (ay P eY) (Tr.set (Tr.set (Tr.set (Tr.set Tr.nil 6 (some u6)) 5 (some u5)) 1 (some u1)) 0 (some u0)) H n []
noncomputable def T90_1:=fun(u0 u1:Value) (H:Hp) (n:Nat)=>labK (bW P cal (aY P cal k) none 90 (cR (cR qv)) (Lv.b (Lv.b (A 90))) (ay P eY) X0 (ay P eY)) (Tr.set (Tr.set Tr.nil 1 (some u1)) 0 (some u0)) H n []
noncomputable def B90_3(cal:Cal)(k m1:Nat)(b2:V4)(u0 u1 u5 u6:Value)(H:Hp)(n:Nat):Res:=
binK P BinOp.add 3 (Operand.tmp 18) (Operand.const (Value.int IntKind.i64 1)) u6 (Value.int IntKind.i64 1) fun v_d=>
b2 u0 u1 u5 v_d H n
noncomputable def C90_3(m1:Nat):=B90_3 cal k m1
theorem h90_3(m1:Nat):T90_3 cal k m1=C90_3 cal k m1 (R90_2 cal k m1):=by kernel_rfl
noncomputable def B90_2(cal:Cal)(k m1:Nat)(j3:V4)(b2:V4)(u0 u1 u5 u6:Value)(H:Hp)(n:Nat):Res:=
bindO (lenV P 27 u0) fun v_a=>
binK P BinOp.lss 3 (Operand.tmp 14) (Operand.tmp 16) u6 v_a fun v_b=>
ifK v_b (
bindO (aJ P 27 u0 u6) fun v_i=>
bindO (aX v_i) fun a_k=>bindO (az P H 3 a_k) fun v_j=>
iQ P cal u1 [v_j,u5] H n fun v_m H_n n_o=>
binK P BinOp.gtr 3 (Operand.tmp 26) (Operand.const (Value.int IntKind.i64 0)) v_m (Value.int IntKind.i64 0) fun v_p=>
ifK v_p (
bindO (aJ P 27 u0 u6) fun v_s=>
bindO (aX v_s) fun a_u=>bindO (az P H_n 3 a_u) fun v_t=>
j3 u0 u1 v_t u6 H_n n_o) (
j3 u0 u1 u5 u6 H_n n_o)) (
some (u5,H,n))
noncomputable def Xy(m1:Nat)(b2:V4):=B90_2 cal k m1 (C90_3 cal k m1 b2) b2
noncomputable def Xz:Nat→V4:=recF (Xy cal k) (fun _ _ _ _ _ _=>none)
theorem h90_2(m1:Nat):T90_2 cal k m1=Xy cal k m1 (R90_2 cal k m1):=Eq.trans (b:=B90_2 cal k m1 (T90_3 cal k m1) (R90_2 cal k m1)) (by kernel_rfl) (by rw[h90_3]; rfl)
theorem q90_2(m:Nat):T90_2 cal k m=Xz cal k m:=recS (h90_2 cal k) (by kernel_rfl) (fun m=>by kernel_rfl) m
noncomputable def B90_1(cal:Cal)(k:Nat)(j2:V4)(u0 u1:Value)(H:Hp)(n:Nat):Res:=
bindO (aJ P 27 u0 (Value.int IntKind.i64 0)) fun v_3=>
bindO (aX v_3) fun a_5=>bindO (az P H 3 a_5) fun v_4=>
j2 u0 u1 v_4 (Value.int IntKind.i64 1) H n
noncomputable def C90_1:=B90_1 cal k (Xz cal k k)
theorem h90_1:T90_1 cal k=C90_1 cal k:=Eq.trans (b:=B90_1 cal k (T90_2 cal k k)) (by kernel_rfl) (by rw[q90_2]; rfl)
noncomputable def B90_0(cal:Cal)(k:Nat)(j1:V2)(v0 v1:Value)(H:Hp)(n:Nat):Res:=
bindO (lenV P 27 v0) fun v_z=>
binK P BinOp.lss 3 (Operand.tmp 8) (Operand.const (Value.int IntKind.i64 1)) v_z (Value.int IntKind.i64 1) fun v_10=>
ifK v_10 (
none) (
j1 v0 v1 H n)
noncomputable def C90_0:=B90_0 cal k (C90_1 cal k)
theorem h90_0(v0 v1:Value)(H:Hp)(n:Nat):aW P cal A (k+1) 90 [v0,v1] H n=C90_0 cal k v0 v1 H n:=(bq Go.Proofs.Tryz.f90 qv eY (by kernel_rfl)).trans (Eq.trans (b:=B90_0 cal k (T90_1 cal k) v0 v1 H n) (by kernel_rfl) (by rw[h90_1]; rfl))
noncomputable def code91:Code:=ak 91
noncomputable def RJ:List ResultVar:=bw 91
noncomputable def B91_0(cal:Cal)(k:Nat)(v0 v1 v2 v3:Value)(H:Hp)(n:Nat):Res:=
bindO (aX v2) fun a_2=>bindO (az P H 147 a_2) fun v_3=>
bindO (aX v3) fun a_4=>bindO (az P H 3 a_4) fun v_5=>
bindO (nx P 152 [(0,v_5),(1,v0)]) fun v_7=>
bindO (fZ P H 147 v_3 v_7 false) fun v_8=>
bindO (aX v2) fun a_9=>bindO (az P H 147 a_9) fun v_a=>
bindO (aX v3) fun a_b=>bindO (az P H 3 a_b) fun v_c=>
bindO (nx P 152 [(0,v_c),(1,v1)]) fun v_e=>
bindO (fZ P H 147 v_a v_e false) fun v_f=>
aZ P cal 92 [v_8,v_f] H n fun v_g H_h n_i=>
some (v_g,H_h,n_i)
noncomputable def C91_0:=B91_0 cal k
theorem h91_0(v0 v1 v2 v3:Value)(H:Hp)(n:Nat):aW P cal A (k+1) 91 [v0,v1,v2,v3] H n=C91_0 cal k v0 v1 v2 v3 H n:=(bq Go.Proofs.Tryz.f91 code91 RJ (by kernel_rfl)).trans (by kernel_rfl)
noncomputable def code92:Code:=ak 92
noncomputable def RQ:List ResultVar:=bw 92
noncomputable def B92_0(cal:Cal)(k:Nat)(v0 v1:Value)(H:Hp)(n:Nat):Res:=
aZ P cal 107 [v0] H n fun v_3 H_4 n_5=>
aZ P cal 107 [v1] H_4 n_5 fun v_8 H_9 n_a=>
ifK v_3 (
ifK v_8 (
some ((Value.int IntKind.i64 0),H_9,n_a)) (
some ((Value.int IntKind.i64 (-1)),H_9,n_a))) (
ifK v_8 (
some ((Value.int IntKind.i64 1),H_9,n_a)) (
binK P BinOp.lss 3 (Operand.tmp 14) (Operand.tmp 15) v0 v1 fun v_k=>
ifK v_k (
some ((Value.int IntKind.i64 (-1)),H_9,n_a)) (
binK P BinOp.gtr 3 (Operand.tmp 17) (Operand.tmp 18) v0 v1 fun v_o=>
ifK v_o (
some ((Value.int IntKind.i64 1),H_9,n_a)) (
some ((Value.int IntKind.i64 0),H_9,n_a)))))
noncomputable def C92_0:=B92_0 cal k
theorem h92_0(v0 v1:Value)(H:Hp)(n:Nat):aW P cal A (k+1) 92 [v0,v1] H n=C92_0 cal k v0 v1 H n:=(bq Go.Proofs.Tryz.f92 code92 RQ (by kernel_rfl)).trans (by kernel_rfl)
noncomputable def code93:Code:=ak 93
noncomputable def RV:List ResultVar:=bw 93
noncomputable def B93_0(cal:Cal)(k:Nat)(v0 v1:Value)(H:Hp)(n:Nat):Res:=
boxK 41 v0 H n fun v_1 H_2 n_3=>
binK P BinOp.geq 3 (Operand.tmp 5) (Operand.const (Value.int IntKind.i64 0)) v1 (Value.int IntKind.i64 0) fun v_6=>
bj v_6 true (fun k_8=>
k_8 v1 H_2 n_3) H_2 n_3 fun v_9 H_a n_b=>
bj v_6 true (fun k_d=>
bindO (ax P 41 v_1 0) fun v_h=>
k_d v_h H_a n_b) H_a n_b fun v_e H_f n_g=>
bj v_6 true (fun k_i=>
bindO (ax P 39 v_e 0) fun v_m=>
k_i v_m H_f n_g) H_f n_g fun v_j H_k n_l=>
bj v_6 true (fun k_n=>
bindO (aX v_j) fun a_s=>bindO (az P H_k 35 a_s) fun v_r=>
k_n v_r H_k n_l) H_k n_l fun v_o H_p n_q=>
bj v_6 true (fun k_t=>
bindO (lenV P 35 v_o) fun v_x=>
k_t v_x H_p n_q) H_p n_q fun v_u H_v n_w=>
bj v_6 true (fun k_y=>
binK P BinOp.lss 3 (Operand.tmp 8) (Operand.tmp 12) v_9 v_u fun v_12=>
k_y v_12 H_v n_w) H_v n_w fun v_z H_10 n_11=>
bindO (fV v_6 v_z (Value.bool false)) fun v_13=>
some (v_13,H_10,n_11)
noncomputable def C93_0:=B93_0 cal k
theorem h93_0(v0 v1:Value)(H:Hp)(n:Nat):aW P cal A (k+1) 93 [v0,v1] H n=C93_0 cal k v0 v1 H n:=(bq Go.Proofs.Tryz.f93 code93 RV (by kernel_rfl)).trans (by kernel_rfl)
noncomputable def code94:Code:=ak 94
noncomputable def RW:List ResultVar:=bw 94
noncomputable def B94_0(cal:Cal)(k:Nat)(v0 v1:Value)(H:Hp)(n:Nat):Res:=
rowK P 27 1 [(0,v1)] H n fun v_4 H_5 n_6=>
aZ P cal 83 [v_4] H_5 n_6 fun v_7 H_8 n_9=>
aZ P cal 95 [v0,v_7] H_8 n_9 fun v_a H_b n_c=>
some (v_a,H_b,n_c)
noncomputable def C94_0:=B94_0 cal k
theorem h94_0(v0 v1:Value)(H:Hp)(n:Nat):aW P cal A (k+1) 94 [v0,v1] H n=C94_0 cal k v0 v1 H n:=(bq Go.Proofs.Tryz.f94 code94 RW (by kernel_rfl)).trans (by kernel_rfl)
noncomputable def code95:Code:=ak 95
noncomputable def RX:List ResultVar:=bw 95
noncomputable def B95_0(cal:Cal)(k:Nat)(v0 v1:Value)(H:Hp)(n:Nat):Res:=
binK P BinOp.and 106 (Operand.tmp 5) (Operand.tmp 6) v0 v1 fun v_4=>
binK P BinOp.neq 106 (Operand.tmp 7) (Operand.const (Value.int IntKind.u64 0)) v_4 (Value.int IntKind.u64 0) fun v_5=>
some (v_5,H,n)
noncomputable def C95_0:=B95_0 cal k
theorem h95_0(v0 v1:Value)(H:Hp)(n:Nat):aW P cal A (k+1) 95 [v0,v1] H n=C95_0 cal k v0 v1 H n:=(bq Go.Proofs.Tryz.f95 code95 RX (by kernel_rfl)).trans (by kernel_rfl)
noncomputable def Vy:Code:=ak 96
noncomputable def tK:List ResultVar:=bw 96
noncomputable def K96_prr:KR:=(cutK (Lv.b (Lv.b (A 96))).c (bW P cal (aY P cal k) none 96 (cR (cR (cR Vy))) (Lv.b (Lv.b (Lv.b (A 96)))) (ay P tK) X0 (ay P tK)))
noncomputable def Dq:XR:=(upX 0 (K96_prr cal k) X0)
noncomputable def K96_prrlrl(m1:Nat):KR:=(fun T H n D=>aY P cal m1 (Lv.a (Lv.b (Lv.a (Lv.b (Lv.b (A 96)))))) none 96 (cL (cR (cL (cR (cR Vy))))) (K96_prr cal k) (Dq cal k) (ay P tK) (cutT (Lv.a (Lv.b (Lv.a (Lv.b (Lv.b (A 96)))))).c T) H n D)
noncomputable def T96_2(m1:Nat):=fun(u1 u5 u13 u14:Value) (H:Hp) (n:Nat)=>labK (bW P cal (aY P cal m1) none 96 (cR (cR (cR (cL (cL (cR (cL (cR (cR Vy))))))))) (Lv.b (Lv.b (Lv.b (Lv.a (Lv.a (Lv.b (Lv.a (Lv.b (Lv.b (A 96)))))))))) (K96_prrlrl cal k m1) (Dq cal k) (ay P tK)) (Tr.set (Tr.set (Tr.set (Tr.set Tr.nil 14 (some u14)) 13 (some u13)) 5 (some u5)) 1 (some u1)) H n []
noncomputable def T96_1(m1:Nat):=fun(u1 u5 u13 u14:Value) (H:Hp) (n:Nat)=>labK (bW P cal (aY P cal m1) none 96 (cL (cL (cR (cL (cR (cR Vy)))))) (Lv.a (Lv.a (Lv.b (Lv.a (Lv.b (Lv.b (A 96))))))) (K96_prrlrl cal k m1) (Dq cal k) (ay P tK)) (Tr.set (Tr.set (Tr.set (Tr.set Tr.nil 14 (some u14)) 13 (some u13)) 5 (some u5)) 1 (some u1)) H n []
noncomputable def R96_1(m1:Nat):V4:=fun u1 u5 u13 u14 H n=>aY P cal m1 (Lv.a (Lv.b (Lv.a (Lv.b (Lv.b (A 96)))))) none 96 (cL (cR (cL (cR (cR Vy))))) (K96_prr cal k) (Dq cal k) (ay P tK) (Tr.set (Tr.set (Tr.set (Tr.set Tr.nil 14 (some u14)) 13 (some u13)) 5 (some u5)) 1 (some u1)) H n []
noncomputable def B96_2(cal:Cal)(k m1:Nat)(b1:V4)(u1 u5 u13 u14:Value)(H:Hp)(n:Nat):Res:=
binK P BinOp.add 106 (Operand.tmp 14) (Operand.const (Value.int IntKind.u64 1)) u14 (Value.int IntKind.u64 1) fun v_d=>
b1 u1 u5 u13 v_d H n
noncomputable def C96_2(m1:Nat):=B96_2 cal k m1
theorem h96_2(m1:Nat):T96_2 cal k m1=C96_2 cal k m1 (R96_1 cal k m1):=by kernel_rfl
noncomputable def B96_1(cal:Cal)(k m1:Nat)(j2:V4)(b1:V4)(u1 u5 u13 u14:Value)(H:Hp)(n:Nat):Res:=
binK P BinOp.lss 106 (Operand.tmp 14) (Operand.tmp 13) u14 u13 fun v_c=>
ifK v_c (
aZ P cal 99 [u14] H n fun v_i H_j n_k=>
binK P BinOp.leq 3 (Operand.tmp 18) (Operand.tmp 19) v_i u1 fun v_m=>
ifK v_m (
rowK P 98 1 [(0,u14)] H_j n_k fun v_p H_q n_r=>
stK (cZ P (bare H_q n_r) 98 98 u5 v_p) fun v_s H_t n_u=>
j2 u1 v_s u13 u14 H_t n_u) (
j2 u1 u5 u13 u14 H_j n_k)) (
aZ P cal 109 [] H n fun v_x H_y n_z=>
aZ P cal 108 [u5,(Value.func (Fn.func 110) ⟨[v_x]⟩ ⟨[]⟩)] H_y n_z fun v_11 H_12 n_13=>
some (u5,H_12,n_13))
noncomputable def C96_1(m1:Nat)(b1:V4):=B96_1 cal k m1 (C96_2 cal k m1 b1) b1
noncomputable def S96_1:Nat→V4:=recF (C96_1 cal k) (fun _ _ _ _ _ _=>none)
theorem h96_1(m1:Nat):T96_1 cal k m1=C96_1 cal k m1 (R96_1 cal k m1):=Eq.trans (b:=B96_1 cal k m1 (T96_2 cal k m1) (R96_1 cal k m1)) (by kernel_rfl) (by rw[h96_2]; rfl)
theorem q96_1(m:Nat):T96_1 cal k m=S96_1 cal k m:=recS (h96_1 cal k) (by kernel_rfl) (fun m=>by kernel_rfl) m
noncomputable def B96_0(cal:Cal)(k:Nat)(j1:V4)(v0 v1:Value)(H:Hp)(n:Nat):Res:=
bindO (nilV v0) fun v_4=>
bindO (ax P 109 v_4 0) fun v_5=>
bindO (ax P 41 v_5 2) fun v_6=>
bindO (aX v_6) fun a_8=>bindO (az P H 27 a_8) fun v_7=>
bindO (lenV P 27 v_7) fun v_9=>
binK P BinOp.shl 106 (Operand.const (Value.int IntKind.u64 1)) (Operand.tmp 12) (Value.int IntKind.u64 1) v_9 fun v_a=>
j1 v1 (Value.slice none 0 0) v_a (Value.int IntKind.u64 0) H n
noncomputable def C96_0:=B96_0 cal k (S96_1 cal k k)
theorem h96_0(v0 v1:Value)(H:Hp)(n:Nat):aW P cal A (k+1) 96 [v0,v1] H n=C96_0 cal k v0 v1 H n:=(bq Go.Proofs.Tryz.f96 Vy tK (by kernel_rfl)).trans (Eq.trans (b:=B96_0 cal k (T96_1 cal k k) v0 v1 H n) (by kernel_rfl) (by rw[q96_1]; rfl))
noncomputable def NV:Code:=ak 97
noncomputable def kw:List ResultVar:=bw 97
noncomputable def K97_p:KR:=(cutK (A 97).c (bW P cal (aY P cal k) none 97 (cR NV) (Lv.b (A 97)) (ay P kw) X0 (ay P kw)))
noncomputable def NW(cal:Cal)(k:Nat):XR:=(upX 0 (ay P kw) X0)
noncomputable def K97_prrrrl(m1:Nat):KR:=(fun T H n D=>aY P cal m1 (Lv.a (Lv.b (Lv.b (Lv.b (Lv.b (A 97)))))) none 97 (cL (cR (cR (cR (cR NV))))) (ay P kw) (NW cal k) (ay P kw) (cutT (Lv.a (Lv.b (Lv.b (Lv.b (Lv.b (A 97)))))).c T) H n D)
noncomputable def T97_1:=fun(H:Hp) (n:Nat)=>labK (bW P cal (aY P cal k) none 97 (cR (cL (cR (cL NV)))) (Lv.b (Lv.a (Lv.b (Lv.a (A 97))))) (K97_p cal k) X0 (ay P kw)) Tr.nil H n []
noncomputable def T97_3(m1:Nat):=fun(u0 u6 u35 u36 u37:Value) (H:Hp) (n:Nat)=>labK (bW P cal (aY P cal m1) none 97 (cL (cL (cR (cR (cR (cR NV)))))) (Lv.a (Lv.a (Lv.b (Lv.b (Lv.b (Lv.b (A 97))))))) (K97_prrrrl cal k m1) (NW cal k) (ay P kw)) (Tr.set (Tr.set (Tr.set (Tr.set (Tr.set Tr.nil 37 (some u37)) 36 (some u36)) 35 (some u35)) 6 (some u6)) 0 (some u0)) H n []
noncomputable def R97_3(m1:Nat):V5:=fun u0 u6 u35 u36 u37 H n=>aY P cal m1 (Lv.a (Lv.b (Lv.b (Lv.b (Lv.b (A 97)))))) none 97 (cL (cR (cR (cR (cR NV))))) (ay P kw) (NW cal k) (ay P kw) (Tr.set (Tr.set (Tr.set (Tr.set (Tr.set Tr.nil 37 (some u37)) 36 (some u36)) 35 (some u35)) 6 (some u6)) 0 (some u0)) H n []
noncomputable def T97_2:=fun(u0 u6 u9:Value) (H:Hp) (n:Nat)=>labK (bW P cal (aY P cal k) none 97 (cR (cR (cR NV))) (Lv.b (Lv.b (Lv.b (A 97)))) (ay P kw) X0 (ay P kw)) (Tr.set (Tr.set (Tr.set Tr.nil 9 (some u9)) 6 (some u6)) 0 (some u0)) H n []
noncomputable def B97_1(cal:Cal)(k:Nat)(H:Hp)(n:Nat):Res:=
some ((Value.tuple ⟨[]⟩),H,n)
noncomputable def C97_1:=B97_1 cal k 
theorem h97_1:T97_1 cal k=C97_1 cal k  := by kernel_rfl
noncomputable def B97_3(cal:Cal)(k m1:Nat)(b3:V5)(u0 u6 u35 u36 u37:Value)(H:Hp)(n:Nat):Res:=
binK P BinOp.lss 3 (Operand.tmp 37) (Operand.tmp 36) u37 u36 fun v_17=>
ifK v_17 (
bindO (aJ P 98 u35 u37) fun v_18=>
bindO (aX v_18) fun a_1a=>bindO (az P H 106 a_1a) fun v_19=>
bindO (aX u6) fun a_1c=>bindO (az P H 155 a_1c) fun v_1d=>
bindO (zw P 98 1 [(0,v_19)]) fun q_1i=>newK q_1i.1 q_1i.2 H n fun H_1g n_1h=>
effK P [(.l 155 a_1c)] H_1g n_1h (fun H_1j n_1k k_1l=>
stK (cZ P (bare H_1j n_1k) 98 98 u0 (.slice (some ⟨n,0,none⟩) 1 1)) fun v_1p H_1q n_1r=>
k_1l v_1p H_1q n_1r) fun v_1m H_1n n_1o=>
iQ P cal v_1d [v_1m] H_1n n_1o fun v_1s H_1t n_1u=>
binK P BinOp.add 3 (Operand.tmp 37) (Operand.const (Value.int IntKind.i64 1)) u37 (Value.int IntKind.i64 1) fun v_1v=>
b3 u0 u6 u35 u36 v_1v H_1t n_1u) (
some ((Value.tuple ⟨[]⟩),H,n))
noncomputable def C97_3(m1:Nat):=B97_3 cal k m1
noncomputable def S97_3:Nat→V5:=recF (C97_3 cal k) (fun _ _ _ _ _ _ _=>none)
theorem h97_3(m1:Nat):T97_3 cal k m1=C97_3 cal k m1 (R97_3 cal k m1):=by kernel_rfl
theorem q97_3(m:Nat):T97_3 cal k m=S97_3 cal k m:=recS (h97_3 cal k) (by kernel_rfl) (fun m=>by kernel_rfl) m
noncomputable def B97_2(cal:Cal)(k:Nat)(j3:V5)(u0 u6 u9:Value)(H:Hp)(n:Nat):Res:=
bindO (lenV P 98 u9) fun v_15=>
j3 u0 u6 u9 v_15 (Value.int IntKind.i64 0) H n
noncomputable def C97_2:=B97_2 cal k (S97_3 cal k k)
theorem h97_2:T97_2 cal k=C97_2 cal k:=Eq.trans (b:=B97_2 cal k (T97_3 cal k k)) (by kernel_rfl) (by rw[q97_3]; rfl)
noncomputable def B97_0(cal:Cal)(k:Nat)(j1:V0)(j2:V3)(v0 v1 v2 v3 v4 v5 v6:Value)(H:Hp)(n:Nat):Res:=
bindO (lenV P 98 v0) fun v_2=>
bindO (aX v1) fun a_4=>bindO (az P H 3 a_4) fun v_3=>
binK P BinOp.eql 3 (Operand.tmp 13) (Operand.tmp 14) v_2 v_3 fun v_5=>
ifK v_5 (
bindO (aX v2) fun a_6=>bindO (az P H 97 a_6) fun v_7=>
bindO (aX v2) fun a_8=>bindO (az P H 97 a_8) fun v_9=>
effK P [(.l 97 a_6)] H n (fun H_b n_c k_d=>
aZ P cal 63 [v_9,v0] H_b n_c fun v_h H_i n_j=>
k_d v_h H_i n_j) fun v_e H_f n_g=>
aZ P cal 64 [v_7,v_e] H_f n_g fun v_k H_l n_m=>
bindO (aX v3) fun a_q=>bindO (az P H_l 3 a_q) fun v_p=>
binK P BinOp.lss 3 (Operand.tmp 21) (Operand.tmp 22) v_k v_p fun v_r=>
ifK v_r (
aZ P cal 98 [v0] H_l n_m fun v_t H_u n_v=>
bindO (dz P 98 v4 v_t H_u) fun H_y=>
bindO (dz P 3 v3 v_k H_y) fun H_10=>
j1  H_10 n_v) (
j1  H_l n_m)) (
bindO (aX v5) fun a_12=>bindO (az P H 98 a_12) fun v_11=>
bindO (lenV P 98 v0) fun v_1y=>
bindO (aX v1) fun a_20=>bindO (az P H 3 a_20) fun v_1z=>
binK P BinOp.sub 3 (Operand.tmp 30) (Operand.const (Value.int IntKind.i64 1)) v_1z (Value.int IntKind.i64 1) fun v_21=>
binK P BinOp.eql 3 (Operand.tmp 29) (Operand.tmp 31) v_1y v_21 fun v_22=>
ifK v_22 (
bindO (aX v5) fun a_24=>bindO (az P H 98 a_24) fun v_23=>
bindO (lw P 98 v_23 none (some (Value.int IntKind.i64 1))) fun v_25=>
j2 v0 v6 v_25 H n) (
j2 v0 v6 v_11 H n))
noncomputable def C97_0:=B97_0 cal k (C97_1 cal k) (C97_2 cal k)
theorem h97_0(v0 v1 v2 v3 v4 v5 v6:Value)(H:Hp)(n:Nat):aW P cal A (k+1) 97 [v0,v1,v2,v3,v4,v5,v6] H n=C97_0 cal k v0 v1 v2 v3 v4 v5 v6 H n:=(bq Go.Proofs.Tryz.f97 NV kw (by kernel_rfl)).trans (Eq.trans (b:=B97_0 cal k (fun  H n=>T97_1 cal k H n) (T97_2 cal k) v0 v1 v2 v3 v4 v5 v6 H n) (by kernel_rfl) (by rw[h97_1,h97_2]; rfl))
noncomputable def code98:Code:=ak 98
noncomputable def results98:List ResultVar:=bw 98
noncomputable def B98_0(cal:Cal)(k:Nat)(v0:Value)(H:Hp)(n:Nat):Res:=
binK P BinOp.eql 98 (Operand.tmp 3) (Operand.const (Value.slice none 0 0)) v0 (Value.slice none 0 0) fun v_3=>
ifK v_3 (
some ((Value.slice none 0 0),H,n)) (
rowK P 98 0 [] H n fun v_5 H_6 n_7=>
stK (cZ P (bare H_6 n_7) 98 98 v_5 v0) fun v_9 H_a n_b=>
some (v_9,H_a,n_b))
noncomputable def C98_0:=B98_0 cal k
theorem h98_0(v0:Value)(H:Hp)(n:Nat):aW P cal A (k+1) 98 [v0] H n=C98_0 cal k v0 H n:=(bq Go.Proofs.Tryz.f98 code98 results98 (by kernel_rfl)).trans (by kernel_rfl)
noncomputable def code99:Code:=ak 99
noncomputable def results99:List ResultVar:=bw 99
noncomputable def B99_0(cal:Cal)(k:Nat)(v0:Value)(H:Hp)(n:Nat):Res:=
aZ P cal 111 [v0] H n fun v_3 H_4 n_5=>
some (v_3,H_4,n_5)
noncomputable def C99_0:=B99_0 cal k
theorem h99_0(v0:Value)(H:Hp)(n:Nat):aW P cal A (k+1) 99 [v0] H n=C99_0 cal k v0 H n:=(bq Go.Proofs.Tryz.f99 code99 results99 (by kernel_rfl)).trans (by kernel_rfl)
noncomputable def rQ:Code:=ak 100
noncomputable def gY:List ResultVar:=bw 100
noncomputable def Cv:KR:=(cutK (Lv.b (A 100)).c (bW P cal (aY P cal k) none 100 (cR (cR rQ)) (Lv.b (Lv.b (A 100))) (ay P gY) X0 (ay P gY)))
noncomputable def qw:XR:=(upX 0 (Cv cal k) X0)
noncomputable def Lj(m1:Nat):KR:=(fun T H n D=>aY P cal m1 (Lv.a (Lv.b (Lv.a (Lv.b (A 100))))) none 100 (cL (cR (cL (cR rQ)))) (Cv cal k) (qw cal k) (ay P gY) (cutT (Lv.a (Lv.b (Lv.a (Lv.b (A 100))))).c T) H n D)
noncomputable def Lq(m1:Nat):=fun(u0 u7 u8 u9:Value) (H:Hp) (n:Nat)=>labK (bW P cal (aY P cal m1) none 100 (cL (cL (cR (cL (cR rQ))))) (Lv.a (Lv.a (Lv.b (Lv.a (Lv.b (A 100)))))) (Lj cal k m1) (qw cal k) (ay P gY)) (Tr.set (Tr.set (Tr.set (Tr.set Tr.nil 9 (some u9)) 8 (some u8)) 7 (some u7)) 0 (some u0)) H n []
noncomputable def R100_1(m1:Nat):V4:=fun u0 u7 u8 u9 H n=>aY P cal m1 (Lv.a (Lv.b (Lv.a (Lv.b (A 100))))) none 100 (cL (cR (cL (cR rQ)))) (Cv cal k) (qw cal k) (ay P gY) (Tr.set (Tr.set (Tr.set (Tr.set Tr.nil 9 (some u9)) 8 (some u8)) 7 (some u7)) 0 (some u0)) H n []
noncomputable def B100_1(cal:Cal)(k m1:Nat)(b1:V4)(u0 u7 u8 u9:Value)(H:Hp)(n:Nat):Res:=
binK P BinOp.lss 3 (Operand.tmp 9) (Operand.tmp 8) u9 u8 fun v_5=>
ifK v_5 (
bindO (aJ P 27 u7 u9) fun v_6=>
bindO (aX v_6) fun a_8=>bindO (az P H 3 a_8) fun v_7=>
fK P .max [3,3] (Call.mk (Callee.builtin Builtin.max) #[(Operand.tmp 13),(Operand.tmp 14)] #[3,3]) 3 [u0,v_7] H n fun v_c H_d n_e=>
binK P BinOp.add 3 (Operand.tmp 9) (Operand.const (Value.int IntKind.i64 1)) u9 (Value.int IntKind.i64 1) fun v_g=>
b1 v_c u7 u8 v_g H_d n_e) (
some (u0,H,n))
noncomputable def EZ(m1:Nat):=B100_1 cal k m1
noncomputable def EK:Nat→V4:=recF (EZ cal k) (fun _ _ _ _ _ _=>none)
theorem h100_1(m1:Nat):Lq cal k m1=EZ cal k m1 (R100_1 cal k m1):=by kernel_rfl
theorem q100_1(m:Nat):Lq cal k m=EK cal k m:=recS (h100_1 cal k) (by kernel_rfl) (fun m=>by kernel_rfl) m
noncomputable def RY(cal:Cal)(k:Nat)(j1:V4)(v0 v1:Value)(H:Hp)(n:Nat):Res:=
bindO (lenV P 27 v1) fun v_3=>
j1 v0 v1 v_3 (Value.int IntKind.i64 0) H n
noncomputable def RZ:=RY cal k (EK cal k k)
theorem h100_0(v0 v1:Value)(H:Hp)(n:Nat):aW P cal A (k+1) 100 [v0,v1] H n=RZ cal k v0 v1 H n:=(bq Go.Proofs.Tryz.f100 rQ gY (by kernel_rfl)).trans (Eq.trans (b:=RY cal k (Lq cal k k) v0 v1 H n) (by kernel_rfl) (by rw[q100_1]; rfl))
noncomputable def PY:Code:=ak 101
noncomputable def uj:List ResultVar:=bw 101
noncomputable def qlw:KR:=(cutK (Lv.b (Lv.b (A 101))).c (bW P cal (aY P cal k) none 101 (cR (cR (cR PY))) (Lv.b (Lv.b (Lv.b (A 101)))) (ay P uj) X0 (ay P uj)))
noncomputable def NX:XR:=(upX 0 (qlw cal k) X0)
noncomputable def K101_prrll(m1:Nat):KR:=(fun T H n D=>aY P cal m1 (Lv.a (Lv.a (Lv.b (Lv.b (A 101))))) none 101 (cL (cL (cR (cR PY)))) (qlw cal k) (NX cal k) (ay P uj) (cutT (Lv.a (Lv.a (Lv.b (Lv.b (A 101))))).c T) H n D)
noncomputable def T101_1(m1:Nat):=fun(u0 u3:Value) (H:Hp) (n:Nat)=>labK (bW P cal (aY P cal m1) none 101 (cL (cL (cL (cR (cR PY))))) (Lv.a (Lv.a (Lv.a (Lv.b (Lv.b (A 101)))))) (K101_prrll cal k m1) (NX cal k) (ay P uj)) (Tr.set (Tr.set Tr.nil 3 (some u3)) 0 (some u0)) H n []
noncomputable def R101_1(m1:Nat):V2:=fun u0 u3 H n=>aY P cal m1 (Lv.a (Lv.a (Lv.b (Lv.b (A 101))))) none 101 (cL (cL (cR (cR PY)))) (qlw cal k) (NX cal k) (ay P uj) (Tr.set (Tr.set Tr.nil 3 (some u3)) 0 (some u0)) H n []
noncomputable def B101_1(cal:Cal)(k m1:Nat)(b1:V2)(u0 u3:Value)(H:Hp)(n:Nat):Res:=
bindO (nilV u0) fun v_4=>
bindO (ax P 159 v_4 0) fun v_5=>
bindO (aX v_5) fun a_7=>bindO (az P H 157 a_7) fun v_6=>
binK P BinOp.neq 157 (Operand.tmp 7) (Operand.const (Value.pointer none)) v_6 (Value.pointer none) fun v_8=>
ifK v_8 (
bindO (nilV u0) fun v_b=>
bindO (ax P 159 v_b 1) fun v_c=>
bindO (aX v_c) fun a_e=>bindO (az P H 106 a_e) fun v_d=>
rowK P 98 1 [(0,v_d)] H n fun v_f H_g n_h=>
stK (cZ P (bare H_g n_h) 98 98 u3 v_f) fun v_i H_j n_k=>
bindO (nilV u0) fun v_n=>
bindO (ax P 159 v_n 0) fun v_o=>
bindO (aX v_o) fun a_q=>bindO (az P H_j 157 a_q) fun v_p=>
b1 v_p v_i H_j n_k) (
aZ P cal 112 [u3] H n fun v_t H_u n_v=>
some (u3,H_u,n_v))
noncomputable def C101_1(m1:Nat):=B101_1 cal k m1
noncomputable def S101_1:Nat→V2:=recF (C101_1 cal k) (fun _ _ _ _=>none)
theorem h101_1(m1:Nat):T101_1 cal k m1=C101_1 cal k m1 (R101_1 cal k m1):=by kernel_rfl
theorem q101_1(m:Nat):T101_1 cal k m=S101_1 cal k m:=recS (h101_1 cal k) (by kernel_rfl) (fun m=>by kernel_rfl) m
noncomputable def B101_0(cal:Cal)(k:Nat)(j1:V2)(v0:Value)(H:Hp)(n:Nat):Res:=
j1 v0 (Value.slice none 0 0) H n
noncomputable def C101_0:=B101_0 cal k (S101_1 cal k k)
theorem h101_0(v0:Value)(H:Hp)(n:Nat):aW P cal A (k+1) 101 [v0] H n=C101_0 cal k v0 H n:=(bq Go.Proofs.Tryz.f101 PY uj (by kernel_rfl)).trans (Eq.trans (b:=B101_0 cal k (T101_1 cal k k) v0 H n) (by kernel_rfl) (by rw[q101_1]; rfl))
noncomputable def rV:Code:=ak 102
noncomputable def gZ:List ResultVar:=bw 102
noncomputable def vQ:KR:=(cutK (Lv.b (A 102)).c (bW P cal (aY P cal k) none 102 (cR (cR rV)) (Lv.b (Lv.b (A 102))) (ay P gZ) X0 (ay P gZ)))
noncomputable def tX:XR:=(upX 0 (vQ cal k) X0)
noncomputable def T102_3:=fun(u25:Value) (H:Hp) (n:Nat)=>labK (bW P cal (aY P cal k) none 102 (cR (cR (cR (cR (cR (cL (cL (cR rV)))))))) (Lv.b (Lv.b (Lv.b (Lv.b (Lv.b (Lv.a (Lv.a (Lv.b (A 102))))))))) (vQ cal k) (tX cal k) (ay P gZ)) (Tr.set Tr.nil 25 (some u25)) H n []
noncomputable def T102_2:=fun(u1 u16:Value) (H:Hp) (n:Nat)=>labK (bW P cal (aY P cal k) none 102 (cR (cR (cR (cL (cL (cR rV)))))) (Lv.b (Lv.b (Lv.b (Lv.a (Lv.a (Lv.b (A 102))))))) (vQ cal k) (tX cal k) (ay P gZ)) (Tr.set (Tr.set Tr.nil 16 (some u16)) 1 (some u1)) H n []
noncomputable def T102_1:=fun(u1 u3:Value) (H:Hp) (n:Nat)=>labK (bW P cal (aY P cal k) none 102 (cR (cL (cL (cR rV)))) (Lv.b (Lv.a (Lv.a (Lv.b (A 102))))) (vQ cal k) (tX cal k) (ay P gZ)) (Tr.set (Tr.set Tr.nil 3 (some u3)) 1 (some u1)) H n []
noncomputable def B102_3(cal:Cal)(k:Nat)(u25:Value)(H:Hp)(n:Nat):Res:=
ifK u25 (
some ((Value.int IntKind.i64 1),H,n)) (
some ((Value.int IntKind.i64 0),H,n))
noncomputable def Sj:=B102_3 cal k
theorem h102_3:T102_3 cal k=Sj cal k:=by kernel_rfl
noncomputable def Sq(cal:Cal)(k:Nat)(j3:V1)(u1 u16:Value)(H:Hp)(n:Nat):Res:=
ifK u16 (
some ((Value.int IntKind.i64 1),H,n)) (
bindO (ax P 39 u1 0) fun v_9=>
bindO (aX v_9) fun a_b=>bindO (az P H 35 a_b) fun v_a=>
aZ P cal 113 [v_a,(Value.func (.func 114) #[] #[])] H n fun v_c H_d n_e=>
bindO (dk P v_c (Op.unary UnOp.not v_c)) fun v_f=>
ifK v_f (
j3 v_f H_d n_e) (
bindO (ax P 39 u1 1) fun v_h=>
bindO (aX v_h) fun a_j=>bindO (az P H_d 36 a_j) fun v_i=>
bindO (aX u1) fun a_l=>bindO (az P H_d 39 a_l) fun v_k=>
aZ P cal 115 [v_i,(Value.func (Fn.func 116) ⟨[v_k]⟩ ⟨[]⟩)] H_d n_e fun v_n H_o n_p=>
bindO (dk P v_n (Op.unary UnOp.not v_n)) fun v_q=>
ifK v_q (
j3 v_q H_o n_p) (
bindO (ax P 39 u1 2) fun v_s=>
bindO (aX v_s) fun a_u=>bindO (az P H_o 37 a_u) fun v_t=>
aZ P cal 117 [v_t,(Value.func (.func 118) #[] #[])] H_o n_p fun v_v H_w n_x=>
bindO (dk P v_v (Op.unary UnOp.not v_v)) fun v_y=>
j3 v_y H_w n_x)))
noncomputable def Sv:=Sq cal k (Sj cal k)
theorem h102_2:T102_2 cal k=Sv cal k:=Eq.trans (b:=Sq cal k (T102_3 cal k)) (by kernel_rfl) (by rw[h102_3]; rfl)
noncomputable def Sw(cal:Cal)(k:Nat)(j2:V2)(u1 u3:Value)(H:Hp)(n:Nat):Res:=
ifK u3 (
some ((Value.int IntKind.i64 3),H,n)) (
bindO (ax P 39 u1 0) fun v_10=>
bindO (aX v_10) fun a_12=>bindO (az P H 35 a_12) fun v_11=>
bindO (lenV P 35 v_11) fun v_13=>
binK P BinOp.eql 3 (Operand.tmp 19) (Operand.const (Value.int IntKind.i64 0)) v_13 (Value.int IntKind.i64 0) fun v_14=>
ifK v_14 (
j2 u1 v_14 H n) (
bindO (ax P 39 u1 2) fun v_16=>
bindO (aX v_16) fun a_18=>bindO (az P H 37 a_18) fun v_17=>
bindO (lenV P 37 v_17) fun v_19=>
binK P BinOp.eql 3 (Operand.tmp 23) (Operand.const (Value.int IntKind.i64 0)) v_19 (Value.int IntKind.i64 0) fun v_1a=>
j2 u1 v_1a H n))
noncomputable def Sx:=Sw cal k (Sv cal k)
theorem h102_1:T102_1 cal k=Sx cal k:=Eq.trans (b:=Sw cal k (T102_2 cal k)) (by kernel_rfl) (by rw[h102_2]; rfl)
noncomputable def Sy(cal:Cal)(k:Nat)(j1:V2)(v0:Value)(H:Hp)(n:Nat):Res:=
boxK 39 v0 H n fun v_1 H_2 n_3=>
bindO (ax P 39 v_1 0) fun v_1c=>
bindO (aX v_1c) fun a_1e=>bindO (az P H_2 35 a_1e) fun v_1d=>
bindO (lenV P 35 v_1d) fun v_1f=>
binK P BinOp.gtr 3 (Operand.tmp 6) (Operand.const (Value.int IntKind.i64 8)) v_1f (Value.int IntKind.i64 8) fun v_1g=>
ifK v_1g (
j1 v_1 v_1g H_2 n_3) (
bindO (ax P 39 v_1 1) fun v_1i=>
bindO (aX v_1i) fun a_1k=>bindO (az P H_2 36 a_1k) fun v_1j=>
bindO (lenV P 36 v_1j) fun v_1l=>
binK P BinOp.gtr 3 (Operand.tmp 10) (Operand.const (Value.int IntKind.i64 16)) v_1l (Value.int IntKind.i64 16) fun v_1m=>
ifK v_1m (
j1 v_1 v_1m H_2 n_3) (
bindO (ax P 39 v_1 2) fun v_1o=>
bindO (aX v_1o) fun a_1q=>bindO (az P H_2 37 a_1q) fun v_1p=>
bindO (lenV P 37 v_1p) fun v_1r=>
binK P BinOp.gtr 3 (Operand.tmp 14) (Operand.const (Value.int IntKind.i64 3)) v_1r (Value.int IntKind.i64 3) fun v_1s=>
j1 v_1 v_1s H_2 n_3))
noncomputable def Sz:=Sy cal k (Sx cal k)
theorem h102_0(v0:Value)(H:Hp)(n:Nat):aW P cal A (k+1) 102 [v0] H n=Sz cal k v0 H n:=(bq Go.Proofs.Tryz.f102 rV gZ (by kernel_rfl)).trans (Eq.trans (b:=Sy cal k (T102_1 cal k) v0 H n) (by kernel_rfl) (by rw[h102_1]; rfl))
noncomputable def rW:Code:=ak 103
noncomputable def gK:List ResultVar:=bw 103
noncomputable def Cw:KR:=(cutK (Lv.b (A 103)).c (bW P cal (aY P cal k) none 103 (cR (cR rW)) (Lv.b (Lv.b (A 103))) (ay P gK) X0 (ay P gK)))
noncomputable def qx:XR:=(upX 0 (Cw cal k) X0)
noncomputable def Lw(m1:Nat):KR:=(fun T H n D=>aY P cal m1 (Lv.a (Lv.b (Lv.a (Lv.b (A 103))))) none 103 (cL (cR (cL (cR rW)))) (Cw cal k) (qx cal k) (ay P gK) (cutT (Lv.a (Lv.b (Lv.a (Lv.b (A 103))))).c T) H n D)
noncomputable def Lx(m1:Nat):=fun(u0 u3:Value) (H:Hp) (n:Nat)=>labK (bW P cal (aY P cal m1) none 103 (cL (cL (cR (cL (cR rW))))) (Lv.a (Lv.a (Lv.b (Lv.a (Lv.b (A 103)))))) (Lw cal k m1) (qx cal k) (ay P gK)) (Tr.set (Tr.set Tr.nil 3 (some u3)) 0 (some u0)) H n []
noncomputable def R103_1(m1:Nat):V2:=fun u0 u3 H n=>aY P cal m1 (Lv.a (Lv.b (Lv.a (Lv.b (A 103))))) none 103 (cL (cR (cL (cR rW)))) (Cw cal k) (qx cal k) (ay P gK) (Tr.set (Tr.set Tr.nil 3 (some u3)) 0 (some u0)) H n []
noncomputable def B103_1(cal:Cal)(k m1:Nat)(b1:V2)(u0 u3:Value)(H:Hp)(n:Nat):Res:=
bindO (lenV P 27 u0) fun v_5=>
binK P BinOp.lss 3 (Operand.tmp 4) (Operand.tmp 6) u3 v_5 fun v_6=>
ifK v_6 (
bindO (aJ P 27 u0 u3) fun v_9=>
bindO (aX v_9) fun a_a=>bindO (az P H 3 a_a) fun v_b=>
binK P BinOp.sub 3 (Operand.tmp 15) (Operand.const (Value.int IntKind.i64 1)) u3 (Value.int IntKind.i64 1) fun v_e=>
bindO (aJ P 27 u0 v_e) fun v_f=>
bindO (aX v_f) fun a_g=>bindO (az P H 3 a_g) fun v_h=>
binK P BinOp.leq 3 (Operand.tmp 13) (Operand.tmp 18) v_b v_h fun v_i=>
ifK v_i (
some ((Value.bool false),H,n)) (
binK P BinOp.add 3 (Operand.tmp 8) (Operand.const (Value.int IntKind.i64 1)) u3 (Value.int IntKind.i64 1) fun v_l=>
b1 u0 v_l H n)) (
some ((Value.bool true),H,n))
noncomputable def Fj(m1:Nat):=B103_1 cal k m1
noncomputable def Fq:Nat→V2:=recF (Fj cal k) (fun _ _ _ _=>none)
theorem h103_1(m1:Nat):Lx cal k m1=Fj cal k m1 (R103_1 cal k m1):=by kernel_rfl
theorem q103_1(m:Nat):Lx cal k m=Fq cal k m:=recS (h103_1 cal k) (by kernel_rfl) (fun m=>by kernel_rfl) m
noncomputable def Sk(cal:Cal)(k:Nat)(j1:V2)(v0:Value)(H:Hp)(n:Nat):Res:=
j1 v0 (Value.int IntKind.i64 1) H n
noncomputable def SJ:=Sk cal k (Fq cal k k)
theorem h103_0(v0:Value)(H:Hp)(n:Nat):aW P cal A (k+1) 103 [v0] H n=SJ cal k v0 H n:=(bq Go.Proofs.Tryz.f103 rW gK (by kernel_rfl)).trans (Eq.trans (b:=Sk cal k (Lx cal k k) v0 H n) (by kernel_rfl) (by rw[q103_1]; rfl))
noncomputable def code104:Code:=ak 104
noncomputable def Ly:List ResultVar:=bw 104
noncomputable def B104_0(cal:Cal)(k:Nat)(v0 v1:Value)(H:Hp)(n:Nat):Res:=
boxK 97 v0 H n fun v_1 H_2 n_3=>
boxK 106 v1 H_2 n_3 fun v_4 H_5 n_6=>
some ((Value.func (Fn.func 119) ⟨[]⟩ ⟨[v_1,v_4]⟩),H_5,n_6)
noncomputable def SQ:=B104_0 cal k
theorem h104_0(v0 v1:Value)(H:Hp)(n:Nat):aW P cal A (k+1) 104 [v0,v1] H n=SQ cal k v0 v1 H n:=(bq Go.Proofs.Tryz.f104 code104 Ly (by kernel_rfl)).trans (by kernel_rfl)
noncomputable def code106:Code:=ak 106
noncomputable def Lz:List ResultVar:=bw 106
noncomputable def B106_0(cal:Cal)(k:Nat)(v0:Value)(H:Hp)(n:Nat):Res:=
boxK 98 v0 H n fun v_1 H_2 n_3=>
some ((Value.func (Fn.func 120) ⟨[]⟩ ⟨[v_1]⟩),H_2,n_3)
noncomputable def SV:=B106_0 cal k
theorem h106_0(v0:Value)(H:Hp)(n:Nat):aW P cal A (k+1) 106 [v0] H n=SV cal k v0 H n:=(bq Go.Proofs.Tryz.f106 code106 Lz (by kernel_rfl)).trans (by kernel_rfl)
noncomputable def code107:Code:=ak 107
noncomputable def Lk:List ResultVar:=bw 107
noncomputable def B107_0(cal:Cal)(k:Nat)(v0:Value)(H:Hp)(n:Nat):Res:=
binK P BinOp.neq 3 (Operand.tmp 3) (Operand.tmp 4) v0 v0 fun v_4=>
some (v_4,H,n)
noncomputable def SW:=B107_0 cal k
theorem h107_0(v0:Value)(H:Hp)(n:Nat):aW P cal A (k+1) 107 [v0] H n=SW cal k v0 H n:=(bq Go.Proofs.Tryz.f107 code107 Lk (by kernel_rfl)).trans (by kernel_rfl)
noncomputable def code108:Code:=ak 108
noncomputable def results108:List ResultVar:=bw 108
noncomputable def B108_0(cal:Cal)(k:Nat)(v0 v1:Value)(H:Hp)(n:Nat):Res:=
bindO (lenV P 98 v0) fun v_2=>
bindO (dk P v_2 (convert 3 80 v_2)) fun v_7=>
aZ P cal 122 [v_7] H n fun v_8 H_9 n_a=>
aZ P cal 121 [v0,(Value.int IntKind.i64 0),v_2,v_8,v1] H_9 n_a fun v_c H_d n_e=>
some ((Value.tuple ⟨[]⟩),H_d,n_e)
noncomputable def C108_0:=B108_0 cal k
theorem h108_0(v0 v1:Value)(H:Hp)(n:Nat):aW P cal A (k+1) 108 [v0,v1] H n=C108_0 cal k v0 v1 H n:=(bq Go.Proofs.Tryz.f108 code108 results108 (by kernel_rfl)).trans (by kernel_rfl)
noncomputable def code109:Code:=ak 109
noncomputable def results109:List ResultVar:=bw 109
noncomputable def B109_0(cal:Cal)(k:Nat)(H:Hp)(n:Nat):Res:=
jY P 173 H n fun v_1 H_2 n_3=>
bindO (nx P 173 [(0,(Value.func (.func 123) #[] #[])),(1,(Value.func (.func 124) #[] #[]))]) fun v_4=>
bindO (dz P 173 v_1 v_4 H_2) fun H_6=>
bindO (resV P (Tr.set Tr.nil 0 (some v_1)) H_6 results109) fun v_7=>some (oneV v_7,H_6,n_3)
noncomputable def C109_0:=B109_0 cal k 
theorem h109_0(H:Hp)(n:Nat):aW P cal A (k+1) 109 [] H n=C109_0 cal k  H n:=(bq Go.Proofs.Tryz.f109 code109 results109 (by kernel_rfl)).trans (by kernel_rfl)
noncomputable def code110:Code:=ak 110
noncomputable def results110:List ResultVar:=bw 110
noncomputable def B110_0(cal:Cal)(k:Nat)(v0 v1 v2:Value)(H:Hp)(n:Nat):Res:=
boxK 173 v0 H n fun v_1 H_2 n_3=>
bindO (ax P 173 v_1 0) fun v_5=>
bindO (aX v_5) fun a_6=>bindO (az P H_2 171 a_6) fun v_7=>
bindO (ax P 173 v_1 1) fun v_a=>
bindO (aX v_a) fun a_b=>bindO (az P H_2 171 a_b) fun v_c=>
effK P [(.l 171 a_b)] H_2 n_3 (fun H_f n_g k_h=>
iQ P cal v_7 [v1,v2] H_f n_g fun v_l H_m n_n=>
k_h v_l H_m n_n) fun v_i H_j n_k=>
iQ P cal v_c [v1,v2] H_j n_k fun v_o H_p n_q=>
bindO (zw P 27 2 [(0,v_i),(1,v_o)]) fun q_t=>newK q_t.1 q_t.2 H_p n_q fun H_r n_s=>
aZ P cal 125 [(.slice (some ⟨n_q,0,none⟩) 2 2)] H_r n_s fun v_u H_v n_w=>
some (v_u,H_v,n_w)
noncomputable def C110_0:=B110_0 cal k
theorem h110_0(v0 v1 v2:Value)(H:Hp)(n:Nat):aW P cal A (k+1) 110 [v0,v1,v2] H n=C110_0 cal k v0 v1 v2 H n:=(bq Go.Proofs.Tryz.f110 code110 results110 (by kernel_rfl)).trans (by kernel_rfl)
noncomputable def code111:Code:=ak 111
noncomputable def results111:List ResultVar:=bw 111
noncomputable def B111_0(cal:Cal)(k:Nat)(v0:Value)(H:Hp)(n:Nat):Res:=
ifK (Value.bool false) (
bindO (dk P v0 (convert 80 187 v0)) fun v_3=>
aZ P cal 126 [v_3] H n fun v_4 H_5 n_6=>
some (v_4,H_5,n_6)) (
aZ P cal 127 [v0] H n fun v_9 H_a n_b=>
some (v_9,H_a,n_b))
noncomputable def C111_0:=B111_0 cal k
theorem h111_0(v0:Value)(H:Hp)(n:Nat):aW P cal A (k+1) 111 [v0] H n=C111_0 cal k v0 H n:=(bq Go.Proofs.Tryz.f111 code111 results111 (by kernel_rfl)).trans (by kernel_rfl)
noncomputable def YY:Code:=ak 112
noncomputable def qW:List ResultVar:=bw 112
noncomputable def qmq(cal:Cal)(k:Nat):XR:=(upX 0 (ay P qW) X0)
noncomputable def K112_prl(m1:Nat):KR:=(fun T H n D=>aY P cal m1 (Lv.a (Lv.b (A 112))) none 112 (cL (cR YY)) (ay P qW) (qmq cal k) (ay P qW) (cutT (Lv.a (Lv.b (A 112))).c T) H n D)
noncomputable def T112_1(m1:Nat):=fun(u0 u2 u3:Value) (H:Hp) (n:Nat)=>labK (bW P cal (aY P cal m1) none 112 (cL (cL (cR YY))) (Lv.a (Lv.a (Lv.b (A 112)))) (K112_prl cal k m1) (qmq cal k) (ay P qW)) (Tr.set (Tr.set (Tr.set Tr.nil 3 (some u3)) 2 (some u2)) 0 (some u0)) H n []
noncomputable def R112_1(m1:Nat):V3:=fun u0 u2 u3 H n=>aY P cal m1 (Lv.a (Lv.b (A 112))) none 112 (cL (cR YY)) (ay P qW) (qmq cal k) (ay P qW) (Tr.set (Tr.set (Tr.set Tr.nil 3 (some u3)) 2 (some u2)) 0 (some u0)) H n []
noncomputable def B112_1(cal:Cal)(k m1:Nat)(b1:V3)(u0 u2 u3:Value)(H:Hp)(n:Nat):Res:=
binK P BinOp.lss 3 (Operand.tmp 7) (Operand.tmp 8) u2 u3 fun v_8=>
ifK v_8 (
bindO (aJ P 98 u0 u3) fun v_f=>
bindO (aX v_f) fun a_g=>bindO (az P H 106 a_g) fun v_h=>
bindO (aJ P 98 u0 u2) fun v_k=>
bindO (aX v_k) fun a_l=>bindO (az P H 106 a_l) fun v_m=>
bindO (aJ P 98 u0 u2) fun v_n=>
bindO (dz P 106 v_n v_h H) fun H_p=>
bindO (aJ P 98 u0 u3) fun v_q=>
bindO (dz P 106 v_q v_m H_p) fun H_s=>
binK P BinOp.add 3 (Operand.tmp 10) (Operand.const (Value.int IntKind.i64 1)) u2 (Value.int IntKind.i64 1) fun v_u=>
binK P BinOp.sub 3 (Operand.tmp 12) (Operand.const (Value.int IntKind.i64 1)) u3 (Value.int IntKind.i64 1) fun v_w=>
b1 u0 v_u v_w H_s n) (
some ((Value.tuple ⟨[]⟩),H,n))
noncomputable def C112_1(m1:Nat):=B112_1 cal k m1
noncomputable def S112_1:Nat→V3:=recF (C112_1 cal k) (fun _ _ _ _ _=>none)
theorem h112_1(m1:Nat):T112_1 cal k m1=C112_1 cal k m1 (R112_1 cal k m1):=by kernel_rfl
theorem q112_1(m:Nat):T112_1 cal k m=S112_1 cal k m:=recS (h112_1 cal k) (by kernel_rfl) (fun m=>by kernel_rfl) m
noncomputable def B112_0(cal:Cal)(k:Nat)(j1:V3)(v0:Value)(H:Hp)(n:Nat):Res:=
bindO (lenV P 98 v0) fun v_2=>
binK P BinOp.sub 3 (Operand.tmp 5) (Operand.const (Value.int IntKind.i64 1)) v_2 (Value.int IntKind.i64 1) fun v_3=>
j1 v0 (Value.int IntKind.i64 0) v_3 H n
noncomputable def C112_0:=B112_0 cal k (S112_1 cal k k)
theorem h112_0(v0:Value)(H:Hp)(n:Nat):aW P cal A (k+1) 112 [v0] H n=C112_0 cal k v0 H n:=(bq Go.Proofs.Tryz.f112 YY qW (by kernel_rfl)).trans (Eq.trans (b:=B112_0 cal k (T112_1 cal k k) v0 H n) (by kernel_rfl) (by rw[q112_1]; rfl))
end Go.Proofs.YtcjnaeimeilomaaGreat.G
end
end
