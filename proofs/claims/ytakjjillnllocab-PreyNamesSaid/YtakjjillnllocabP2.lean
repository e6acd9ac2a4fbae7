/- The texts of functions, each with the proof that the evaluator says the same. -/
import Derived.Test.YtakjjillnllocabP1
open Go Go.Ev
set_option maxRecDepth 1000000
set_option linter.unusedVariables false
noncomputable section
namespace Go.Proofs.Ytakjjillnllocab.P
noncomputable def code4 : Code := codeOf 4
noncomputable def results4 : List ResultVar := resOf 4
noncomputable def K4_p (cal : Cal) (k : Nat) : KC (Value × Hp × Nat) := (cutK (A 4).c (codeE P cal (codeF P cal k) none 4 (cR code4) (Lv.b (A 4)) (doneK P results4) X0 (doneK P results4)))
noncomputable def K4_pr (cal : Cal) (k : Nat) : KC (Value × Hp × Nat) := (cutK (Lv.b (A 4)).c (codeE P cal (codeF P cal k) none 4 (cR (cR code4)) (Lv.b (Lv.b (A 4))) (doneK P results4) X0 (doneK P results4)))
noncomputable def K4_prr (cal : Cal) (k : Nat) : KC (Value × Hp × Nat) := (cutK (Lv.b (Lv.b (A 4))).c (codeE P cal (codeF P cal k) none 4 (cR (cR (cR code4))) (Lv.b (Lv.b (Lv.b (A 4)))) (doneK P results4) X0 (doneK P results4)))
noncomputable def K4_prrl (cal : Cal) (k : Nat) : KC (Value × Hp × Nat) := (cutK (Lv.a (Lv.b (Lv.b (A 4)))).c (codeE P cal (codeF P cal k) none 4 (cR (cL (cR (cR code4)))) (Lv.b (Lv.a (Lv.b (Lv.b (A 4))))) (K4_prr cal k) X0 (doneK P results4)))
noncomputable def K4_prrlrl (cal : Cal) (k : Nat) : KC (Value × Hp × Nat) := (cutK (Lv.a (Lv.b (Lv.a (Lv.b (Lv.b (A 4)))))).c (codeE P cal (codeF P cal k) none 4 (cR (cL (cR (cL (cR (cR code4)))))) (Lv.b (Lv.a (Lv.b (Lv.a (Lv.b (Lv.b (A 4))))))) (K4_prr cal k) X0 (doneK P results4)))
noncomputable def K4_prrr (cal : Cal) (k : Nat) : KC (Value × Hp × Nat) := (cutK (Lv.b (Lv.b (Lv.b (A 4)))).c (codeE P cal (codeF P cal k) none 4 (cR (cR (cR (cR code4)))) (Lv.b (Lv.b (Lv.b (Lv.b (A 4))))) (doneK P results4) X0 (doneK P results4)))
noncomputable def K4_prrrl (cal : Cal) (k : Nat) : KC (Value × Hp × Nat) := (cutK (Lv.a (Lv.b (Lv.b (Lv.b (A 4))))).c (codeE P cal (codeF P cal k) none 4 (cR (cL (cR (cR (cR code4))))) (Lv.b (Lv.a (Lv.b (Lv.b (Lv.b (A 4)))))) (K4_prrr cal k) X0 (doneK P results4)))
noncomputable def K4_prrrlrl (cal : Cal) (k : Nat) : KC (Value × Hp × Nat) := (cutK (Lv.a (Lv.b (Lv.a (Lv.b (Lv.b (Lv.b (A 4))))))).c (codeE P cal (codeF P cal k) none 4 (cR (cL (cR (cL (cR (cR (cR code4))))))) (Lv.b (Lv.a (Lv.b (Lv.a (Lv.b (Lv.b (Lv.b (A 4)))))))) (K4_prrr cal k) X0 (doneK P results4)))
noncomputable def K4_prrrr (cal : Cal) (k : Nat) : KC (Value × Hp × Nat) := (cutK (Lv.b (Lv.b (Lv.b (Lv.b (A 4))))).c (codeE P cal (codeF P cal k) none 4 (cR (cR (cR (cR (cR code4))))) (Lv.b (Lv.b (Lv.b (Lv.b (Lv.b (A 4)))))) (doneK P results4) X0 (doneK P results4)))
noncomputable def K4_prrrrl (cal : Cal) (k : Nat) : KC (Value × Hp × Nat) := (cutK (Lv.a (Lv.b (Lv.b (Lv.b (Lv.b (A 4)))))).c (codeE P cal (codeF P cal k) none 4 (cR (cL (cR (cR (cR (cR code4)))))) (Lv.b (Lv.a (Lv.b (Lv.b (Lv.b (Lv.b (A 4))))))) (K4_prrrr cal k) X0 (doneK P results4)))
noncomputable def K4_prrrrlrl (cal : Cal) (k : Nat) : KC (Value × Hp × Nat) := (cutK (Lv.a (Lv.b (Lv.a (Lv.b (Lv.b (Lv.b (Lv.b (A 4)))))))).c (codeE P cal (codeF P cal k) none 4 (cR (cL (cR (cL (cR (cR (cR (cR code4)))))))) (Lv.b (Lv.a (Lv.b (Lv.a (Lv.b (Lv.b (Lv.b (Lv.b (A 4))))))))) (K4_prrrr cal k) X0 (doneK P results4)))
noncomputable def K4_prrrrr (cal : Cal) (k : Nat) : KC (Value × Hp × Nat) := (cutK (Lv.b (Lv.b (Lv.b (Lv.b (Lv.b (A 4)))))).c (codeE P cal (codeF P cal k) none 4 (cR (cR (cR (cR (cR (cR code4)))))) (Lv.b (Lv.b (Lv.b (Lv.b (Lv.b (Lv.b (A 4))))))) (doneK P results4) X0 (doneK P results4)))
noncomputable def K4_prrrrrr (cal : Cal) (k : Nat) : KC (Value × Hp × Nat) := (cutK (Lv.b (Lv.b (Lv.b (Lv.b (Lv.b (Lv.b (A 4))))))).c (codeE P cal (codeF P cal k) none 4 (cR (cR (cR (cR (cR (cR (cR code4))))))) (Lv.b (Lv.b (Lv.b (Lv.b (Lv.b (Lv.b (Lv.b (A 4)))))))) (doneK P results4) X0 (doneK P results4)))
noncomputable def B4_0 (cal : Cal) (k : Nat) (v0 v1 v2 : Value) (H : Hp) (n : Nat) : Res :=
boxK 33 v0 H n fun v3_1 H_2 n_3 =>
bindO (addrV v3_1) fun a_8 => bindO (loadV P H_2 33 a_8) fun v12_7 =>
callFK P cal 15 [v12_7] H_2 n_3 fun v13_9 H_10 n_11 =>
bindO (tupV v13_9 0) fun v14_13 =>
bindO (tupV v13_9 1) fun v15_14 =>
binK P Go.BinOp.neq 23 (Go.Operand.tmp 16) (Go.Operand.const (Go.Value.int Go.IntKind.i64 0)) v15_14 (Go.Value.int Go.IntKind.i64 0) fun v17_18 =>
ifK v17_18 (
some ((Value.tuple ⟨[(Go.Value.slice none 0 0), (Go.Value.int Go.IntKind.i64 0), v15_14]⟩), H_10, n_11)) (
binK P Go.BinOp.lss 3 (Go.Operand.tmp 19) (Go.Operand.const (Go.Value.int Go.IntKind.i64 0)) v1 (Go.Value.int Go.IntKind.i64 0) fun v20_24 =>
guardK v20_24 false (fun k_26 =>
k_26 v1 H_10 n_11) H_10 n_11 fun v_27 H_28 n_29 =>
guardK v20_24 false (fun k_31 =>
binK P Go.BinOp.gtr 3 (Go.Operand.tmp 22) (Go.Operand.const (Go.Value.int Go.IntKind.i64 2)) v_27 (Go.Value.int Go.IntKind.i64 2) fun v23_35 =>
k_31 v23_35 H_28 n_29) H_28 n_29 fun v_32 H_33 n_34 =>
bindO (pickV v20_24 (Go.Value.bool true) v_32) fun v24_36 =>
guardK v24_36 false (fun k_38 =>
k_38 v2 H_33 n_34) H_33 n_34 fun v_39 H_40 n_41 =>
guardK v24_36 false (fun k_43 =>
binK P Go.BinOp.lss 3 (Go.Operand.tmp 26) (Go.Operand.const (Go.Value.int Go.IntKind.i64 0)) v_39 (Go.Value.int Go.IntKind.i64 0) fun v27_47 =>
k_43 v27_47 H_40 n_41) H_40 n_41 fun v_44 H_45 n_46 =>
bindO (pickV v24_36 (Go.Value.bool true) v_44) fun v28_48 =>
guardK v28_48 false (fun k_50 =>
k_50 v2 H_45 n_46) H_45 n_46 fun v_51 H_52 n_53 =>
guardK v28_48 false (fun k_55 =>
binK P Go.BinOp.gtr 3 (Go.Operand.tmp 30) (Go.Operand.const (Go.Value.int Go.IntKind.i64 3)) v_51 (Go.Value.int Go.IntKind.i64 3) fun v31_59 =>
k_55 v31_59 H_52 n_53) H_52 n_53 fun v_56 H_57 n_58 =>
bindO (pickV v28_48 (Go.Value.bool true) v_56) fun v32_60 =>
ifK v32_60 (
some ((Value.tuple ⟨[(Go.Value.slice none 0 0), (Go.Value.int Go.IntKind.i64 0), (Go.Value.int Go.IntKind.i64 2)]⟩), H_57, n_58)) (
bindO (nilV v14_13) fun v34_65 =>
bindO (fieldAddrV P 53 v34_65 0) fun v35_66 =>
bindO (fieldAddrV P 33 v35_66 1) fun v36_67 =>
bindO (addrV v36_67) fun a_69 => bindO (loadV P H_57 31 a_69) fun v37_68 =>
bindO (lenV P 31 v37_68) fun v38_70 =>
binK P Go.BinOp.eql 3 (Go.Operand.tmp 38) (Go.Operand.const (Go.Value.int Go.IntKind.i64 0)) v38_70 (Go.Value.int Go.IntKind.i64 0) fun v39_71 =>
ifK v39_71 (
some ((Value.tuple ⟨[(Go.Value.slice none 0 0), (Go.Value.int Go.IntKind.i64 0), (Go.Value.int Go.IntKind.i64 7)]⟩), H_57, n_58)) (
callFK P cal 16 [v14_13, v1, v2] H_57 n_58 fun v44_78 H_79 n_80 =>
bindO (tupV v44_78 0) fun v45_82 =>
bindO (tupV v44_78 1) fun v46_83 =>
callFK P cal 17 [v45_82] H_79 n_80 fun v48_87 H_88 n_89 =>
some ((Value.tuple ⟨[v48_87, v46_83, (Go.Value.int Go.IntKind.i64 0)]⟩), H_88, n_89))))
noncomputable def C4_0 (cal : Cal) (k : Nat) (v0 v1 v2 : Value) (H : Hp) (n : Nat) : Res := B4_0 cal k v0 v1 v2 H n
theorem h4_0 (cal : Cal) (k : Nat) (v0 v1 v2 : Value) (H : Hp) (n : Nat) : bodyE P cal A (k + 1) 4 [v0, v1, v2] H n = C4_0 cal k v0 v1 v2 H n := by
  have h : bodyE P cal A (k + 1) 4 [v0, v1, v2] H n = B4_0 cal k v0 v1 v2 H n := by
    rw [body_eq (fn := Go.Proofs.Try.f4) (c := code4) (rs := results4) (by kernel_rfl) (by kernel_rfl) (by kernel_rfl) (by kernel_rfl)]
    kernel_rfl
  rw [h, C4_0]
noncomputable def code5 : Code := codeOf 5
noncomputable def results5 : List ResultVar := resOf 5
noncomputable def K5_p (cal : Cal) (k : Nat) : KC (Value × Hp × Nat) := (cutK (A 5).c (codeE P cal (codeF P cal k) none 5 (cR code5) (Lv.b (A 5)) (doneK P results5) X0 (doneK P results5)))
noncomputable def K5_pr (cal : Cal) (k : Nat) : KC (Value × Hp × Nat) := (cutK (Lv.b (A 5)).c (codeE P cal (codeF P cal k) none 5 (cR (cR code5)) (Lv.b (Lv.b (A 5))) (doneK P results5) X0 (doneK P results5)))
noncomputable def K5_prr (cal : Cal) (k : Nat) : KC (Value × Hp × Nat) := (cutK (Lv.b (Lv.b (A 5))).c (codeE P cal (codeF P cal k) none 5 (cR (cR (cR code5))) (Lv.b (Lv.b (Lv.b (A 5)))) (doneK P results5) X0 (doneK P results5)))
noncomputable def K5_prrr (cal : Cal) (k : Nat) : KC (Value × Hp × Nat) := (cutK (Lv.b (Lv.b (Lv.b (A 5)))).c (codeE P cal (codeF P cal k) none 5 (cR (cR (cR (cR code5)))) (Lv.b (Lv.b (Lv.b (Lv.b (A 5))))) (doneK P results5) X0 (doneK P results5)))
noncomputable def K5_prrrl (cal : Cal) (k : Nat) : KC (Value × Hp × Nat) := (cutK (Lv.a (Lv.b (Lv.b (Lv.b (A 5))))).c (codeE P cal (codeF P cal k) none 5 (cR (cL (cR (cR (cR code5))))) (Lv.b (Lv.a (Lv.b (Lv.b (Lv.b (A 5)))))) (K5_prrr cal k) X0 (doneK P results5)))
noncomputable def K5_pxrrrlr (cal : Cal) (k : Nat) : XC (Value × Hp × Nat) := (upX 0 (K5_prrr cal k) X0)
noncomputable def K5_prrrlrl (cal : Cal) (k : Nat) (m1 : Nat) : KC (Value × Hp × Nat) := (fun T H n D => codeF P cal m1 (Lv.a (Lv.b (Lv.a (Lv.b (Lv.b (Lv.b (A 5))))))) none 5 (cL (cR (cL (cR (cR (cR code5)))))) (K5_prrr cal k) (K5_pxrrrlr cal k) (doneK P results5) (cutT (Lv.a (Lv.b (Lv.a (Lv.b (Lv.b (Lv.b (A 5))))))).c T) H n D)
noncomputable def K5_prrrlrll (cal : Cal) (k : Nat) (m1 : Nat) : KC (Value × Hp × Nat) := (cutK (Lv.a (Lv.a (Lv.b (Lv.a (Lv.b (Lv.b (Lv.b (A 5)))))))).c (codeE P cal (codeF P cal m1) none 5 (cR (cL (cL (cR (cL (cR (cR (cR code5)))))))) (Lv.b (Lv.a (Lv.a (Lv.b (Lv.a (Lv.b (Lv.b (Lv.b (A 5))))))))) (K5_prrrlrl cal k m1) (K5_pxrrrlr cal k) (doneK P results5)))
noncomputable def K5_prrrlrlll (cal : Cal) (k : Nat) (m1 : Nat) : KC (Value × Hp × Nat) := (cutK (Lv.a (Lv.a (Lv.a (Lv.b (Lv.a (Lv.b (Lv.b (Lv.b (A 5))))))))).c (codeE P cal (codeF P cal m1) none 5 (cR (cL (cL (cL (cR (cL (cR (cR (cR code5))))))))) (Lv.b (Lv.a (Lv.a (Lv.a (Lv.b (Lv.a (Lv.b (Lv.b (Lv.b (A 5)))))))))) (K5_prrrlrll cal k m1) (K5_pxrrrlr cal k) (doneK P results5)))
noncomputable def K5_prrrlrllr (cal : Cal) (k : Nat) (m1 : Nat) : KC (Value × Hp × Nat) := (cutK (Lv.b (Lv.a (Lv.a (Lv.b (Lv.a (Lv.b (Lv.b (Lv.b (A 5))))))))).c (codeE P cal (codeF P cal m1) none 5 (cR (cR (cL (cL (cR (cL (cR (cR (cR code5))))))))) (Lv.b (Lv.b (Lv.a (Lv.a (Lv.b (Lv.a (Lv.b (Lv.b (Lv.b (A 5)))))))))) (K5_prrrlrl cal k m1) (K5_pxrrrlr cal k) (doneK P results5)))
noncomputable def K5_pxrrrlrllrl (cal : Cal) (k : Nat) (m1 : Nat) : XC (Value × Hp × Nat) := (upX 1 (K5_prrrlrllr cal k m1) (K5_pxrrrlr cal k))
noncomputable def K5_prrrlrllrll (cal : Cal) (k : Nat) (m1 : Nat) : KC (Value × Hp × Nat) := (cutK (Lv.a (Lv.a (Lv.b (Lv.a (Lv.a (Lv.b (Lv.a (Lv.b (Lv.b (Lv.b (A 5))))))))))).c (codeE P cal (codeF P cal m1) none 5 (cR (cL (cL (cR (cL (cL (cR (cL (cR (cR (cR code5))))))))))) (Lv.b (Lv.a (Lv.a (Lv.b (Lv.a (Lv.a (Lv.b (Lv.a (Lv.b (Lv.b (Lv.b (A 5)))))))))))) (K5_prrrlrllr cal k m1) (K5_pxrrrlrllrl cal k m1) (doneK P results5)))
noncomputable def K5_prrrlrllrllr (cal : Cal) (k : Nat) (m1 : Nat) : KC (Value × Hp × Nat) := (cutK (Lv.b (Lv.a (Lv.a (Lv.b (Lv.a (Lv.a (Lv.b (Lv.a (Lv.b (Lv.b (Lv.b (A 5)))))))))))).c (codeE P cal (codeF P cal m1) none 5 (cR (cR (cL (cL (cR (cL (cL (cR (cL (cR (cR (cR code5)))))))))))) (Lv.b (Lv.b (Lv.a (Lv.a (Lv.b (Lv.a (Lv.a (Lv.b (Lv.a (Lv.b (Lv.b (Lv.b (A 5))))))))))))) (K5_prrrlrllr cal k m1) (K5_pxrrrlrllrl cal k m1) (doneK P results5)))
noncomputable def K5_prrrlrllrllrl (cal : Cal) (k : Nat) (m1 : Nat) : KC (Value × Hp × Nat) := (cutK (Lv.a (Lv.b (Lv.a (Lv.a (Lv.b (Lv.a (Lv.a (Lv.b (Lv.a (Lv.b (Lv.b (Lv.b (A 5))))))))))))).c (codeE P cal (codeF P cal m1) none 5 (cR (cL (cR (cL (cL (cR (cL (cL (cR (cL (cR (cR (cR code5))))))))))))) (Lv.b (Lv.a (Lv.b (Lv.a (Lv.a (Lv.b (Lv.a (Lv.a (Lv.b (Lv.a (Lv.b (Lv.b (Lv.b (A 5)))))))))))))) (K5_prrrlrllrllr cal k m1) (K5_pxrrrlrllrl cal k m1) (doneK P results5)))
noncomputable def K5_prrrr (cal : Cal) (k : Nat) : KC (Value × Hp × Nat) := (cutK (Lv.b (Lv.b (Lv.b (Lv.b (A 5))))).c (codeE P cal (codeF P cal k) none 5 (cR (cR (cR (cR (cR code5))))) (Lv.b (Lv.b (Lv.b (Lv.b (Lv.b (A 5)))))) (doneK P results5) X0 (doneK P results5)))
noncomputable def K5_prrrrr (cal : Cal) (k : Nat) : KC (Value × Hp × Nat) := (cutK (Lv.b (Lv.b (Lv.b (Lv.b (Lv.b (A 5)))))).c (codeE P cal (codeF P cal k) none 5 (cR (cR (cR (cR (cR (cR code5)))))) (Lv.b (Lv.b (Lv.b (Lv.b (Lv.b (Lv.b (A 5))))))) (doneK P results5) X0 (doneK P results5)))
noncomputable def E5_2 (cal : Cal) (k m1 : Nat) : KC (Value × Hp × Nat) := codeE P cal (codeF P cal m1) none 5 (cR (cR (cL (cL (cR (cL (cL (cR (cL (cR (cR (cR code5)))))))))))) (Lv.b (Lv.b (Lv.a (Lv.a (Lv.b (Lv.a (Lv.a (Lv.b (Lv.a (Lv.b (Lv.b (Lv.b (A 5))))))))))))) (K5_prrrlrllr cal k m1) (K5_pxrrrlrllrl cal k m1) (doneK P results5)
noncomputable def E5_1 (cal : Cal) (k m1 : Nat) : KC (Value × Hp × Nat) := codeE P cal (codeF P cal m1) none 5 (cL (cL (cR (cL (cR (cR (cR code5))))))) (Lv.a (Lv.a (Lv.b (Lv.a (Lv.b (Lv.b (Lv.b (A 5)))))))) (K5_prrrlrl cal k m1) (K5_pxrrrlr cal k) (doneK P results5)
noncomputable def R5_1 (cal : Cal) (k m1 : Nat) : Value → Value → Value → Value → Hp → Nat → Res := fun u0 u1 u2 u3 H n => codeF P cal m1 (Lv.a (Lv.b (Lv.a (Lv.b (Lv.b (Lv.b (A 5))))))) none 5 (cL (cR (cL (cR (cR (cR code5)))))) (K5_prrr cal k) (K5_pxrrrlr cal k) (doneK P results5) (Tr.set (Tr.set (Tr.set (Tr.set Tr.nil 3 (some u3)) 2 (some u2)) 1 (some u1)) 0 (some u0)) H n []
noncomputable def B5_2 (cal : Cal) (k m1 : Nat) (b1 : Value → Value → Value → Value → Hp → Nat → Res) (u0 u1 u2 u3 : Value) (H : Hp) (n : Nat) : Res :=
bindO (fieldAddrV P 33 u2 1) fun v29_36 =>
bindO (addrV v29_36) fun a_37 => bindO (loadV P H 31 a_37) fun v_38 =>
bindO (rowOf P 31 1 [(0, u3)]) fun q_42 => newK q_42.1 q_42.2 H n fun H_40 n_41 =>
bindO (fieldAddrV P 33 u2 2) fun v34_43 =>
bindO (addrV v34_43) fun a_44 => bindO (loadV P H_40 31 a_44) fun v_45 =>
binK P Go.BinOp.add 3 (Go.Operand.tmp 36) (Go.Operand.const (Go.Value.int Go.IntKind.i64 1)) u3 (Go.Value.int Go.IntKind.i64 1) fun v37_47 =>
bindO (rowOf P 31 1 [(0, v37_47)]) fun q_50 => newK q_50.1 q_50.2 H_40 n_41 fun H_48 n_49 =>
effK P [(.a n_41 q_50.1 q_50.2), (.l 31 a_44)] H_48 n_49 (fun H_51 n_52 k_53 =>
stK (appendV P (bare H_51 n_52) 31 31 v_38 (.slice (some ⟨n, 0, none⟩) 1 1)) fun v33_57 H_58 n_59 =>
k_53 v33_57 H_58 n_59) fun v_54 H_55 n_56 =>
bindO (fieldAddrV P 33 u2 1) fun v40_60 =>
stK (appendV P (bare H_55 n_56) 31 31 v_45 (.slice (some ⟨n_41, 0, none⟩) 1 1)) fun v39_61 H_62 n_63 =>
bindO (storeP P 31 v40_60 v_54 H_62) fun H_65 =>
bindO (fieldAddrV P 33 u2 2) fun v41_66 =>
bindO (storeP P 31 v41_66 v39_61 H_65) fun H_68 =>
binK P Go.BinOp.add 3 (Go.Operand.tmp 10) (Go.Operand.const (Go.Value.int Go.IntKind.i64 1)) u3 (Go.Value.int Go.IntKind.i64 1) fun v11_70 =>
b1 u0 u1 u2 v11_70 H_68 n_63
noncomputable def C5_2 (cal : Cal) (k m1 : Nat) (b1 : Value → Value → Value → Value → Hp → Nat → Res) (u0 u1 u2 u3 : Value) (H : Hp) (n : Nat) : Res := B5_2 cal k m1 b1 u0 u1 u2 u3 H n
theorem h5_2 (cal : Cal) (k m1 : Nat) (u0 u1 u2 u3 : Value) (H : Hp) (n : Nat) : labK (E5_2 cal k m1) (Tr.set (Tr.set (Tr.set (Tr.set Tr.nil 3 (some u3)) 2 (some u2)) 1 (some u1)) 0 (some u0)) H n [] = C5_2 cal k m1 (R5_1 cal k m1) u0 u1 u2 u3 H n := by
  have h : labK (E5_2 cal k m1) (Tr.set (Tr.set (Tr.set (Tr.set Tr.nil 3 (some u3)) 2 (some u2)) 1 (some u1)) 0 (some u0)) H n [] = B5_2 cal k m1 (R5_1 cal k m1) u0 u1 u2 u3 H n := by kernel_rfl
  rw [h, C5_2]
theorem q5_2 (cal : Cal) (k m1 : Nat) (u0 u1 u2 u3 : Value) (H : Hp) (n : Nat) : labK (E5_2 cal k m1) (Tr.set (Tr.set (Tr.set (Tr.set Tr.nil 3 (some u3)) 2 (some u2)) 1 (some u1)) 0 (some u0)) H n [] = C5_2 cal k m1 (R5_1 cal k m1) u0 u1 u2 u3 H n := h5_2 ..
noncomputable def B5_1 (cal : Cal) (k m1 : Nat) (j2 : Value → Value → Value → Value → Hp → Nat → Res) (b1 : Value → Value → Value → Value → Hp → Nat → Res) (u0 u1 u2 u3 : Value) (H : Hp) (n : Nat) : Res :=
binK P Go.BinOp.lss 3 (Go.Operand.tmp 8) (Go.Operand.const (Go.Value.int Go.IntKind.i64 5)) u3 (Go.Value.int Go.IntKind.i64 5) fun v9_22 =>
ifK v9_22 (
bindO (fieldAddrV P 30 u1 0) fun v12_23 =>
bindO (addrV v12_23) fun a_25 => bindO (loadV P H 26 a_25) fun v13_24 =>
bindO (buildP P 63 []) fun v14_26 =>
rowK P 26 1 [(0, v14_26)] H n fun v15_27 H_28 n_29 =>
stK (appendV P (bare H_28 n_29) 26 26 v13_24 v15_27) fun v16_30 H_31 n_32 =>
bindO (fieldAddrV P 30 u1 0) fun v17_33 =>
bindO (storeP P 26 v17_33 v16_30 H_31) fun H_35 =>
binK P Go.BinOp.gtr 3 (Go.Operand.tmp 18) (Go.Operand.const (Go.Value.int Go.IntKind.i64 0)) u3 (Go.Value.int Go.IntKind.i64 0) fun v19_73 =>
ifK v19_73 (
bindO (fieldAddrV P 30 u1 1) fun v20_74 =>
bindO (addrV v20_74) fun a_76 => bindO (loadV P H_35 27 a_76) fun v21_75 =>
binK P Go.BinOp.sub 3 (Go.Operand.tmp 22) (Go.Operand.const (Go.Value.int Go.IntKind.i64 1)) u3 (Go.Value.int Go.IntKind.i64 1) fun v23_78 =>
bindO (buildP P 65 [(0, v23_78), (1, u3)]) fun v25_80 =>
rowK P 27 1 [(0, v25_80)] H_35 n_32 fun v26_81 H_82 n_83 =>
stK (appendV P (bare H_82 n_83) 27 27 v21_75 v26_81) fun v27_84 H_85 n_86 =>
bindO (fieldAddrV P 30 u1 1) fun v28_87 =>
bindO (storeP P 27 v28_87 v27_84 H_85) fun H_89 =>
j2 u0 u1 u2 u3 H_89 n_86) (
j2 u0 u1 u2 u3 H_35 n_32)) (
bindO (addrV u1) fun a_91 => bindO (loadV P H 30 a_91) fun v42_90 =>
bindO (fieldAddrV P 33 u2 0) fun v43_92 =>
bindO (storeP P 30 v43_92 v42_90 H) fun H_94 =>
bindO (addrV u2) fun a_96 => bindO (loadV P H_94 33 a_96) fun v44_95 =>
bindO (storeP P 33 u0 v44_95 H_94) fun H_98 =>
bindO (resV P (Tr.set Tr.nil 0 (some u0)) H_98 results5) fun vs_99 => some (oneV vs_99, H_98, n))
noncomputable def C5_1 (cal : Cal) (k m1 : Nat) (b1 : Value → Value → Value → Value → Hp → Nat → Res) (u0 u1 u2 u3 : Value) (H : Hp) (n : Nat) : Res := B5_1 cal k m1 (C5_2 cal k m1 b1) b1 u0 u1 u2 u3 H n
noncomputable def S5_1 (cal : Cal) (k : Nat) : Nat → Value → Value → Value → Value → Hp → Nat → Res := fun m => Nat.rec (motive := fun _ => Value → Value → Value → Value → Hp → Nat → Res) (C5_1 cal k 0 (fun _ _ _ _ _ _ => none)) (fun m ih => C5_1 cal k (m + 1) ih) m
theorem h5_1 (cal : Cal) (k m1 : Nat) (u0 u1 u2 u3 : Value) (H : Hp) (n : Nat) : labK (E5_1 cal k m1) (Tr.set (Tr.set (Tr.set (Tr.set Tr.nil 3 (some u3)) 2 (some u2)) 1 (some u1)) 0 (some u0)) H n [] = C5_1 cal k m1 (R5_1 cal k m1) u0 u1 u2 u3 H n := by
  have h : labK (E5_1 cal k m1) (Tr.set (Tr.set (Tr.set (Tr.set Tr.nil 3 (some u3)) 2 (some u2)) 1 (some u1)) 0 (some u0)) H n [] = B5_1 cal k m1 (fun u0 u1 u2 u3 H n => labK (E5_2 cal k m1) (Tr.set (Tr.set (Tr.set (Tr.set Tr.nil 3 (some u3)) 2 (some u2)) 1 (some u1)) 0 (some u0)) H n []) (R5_1 cal k m1) u0 u1 u2 u3 H n := by kernel_rfl
  rw [h, C5_1]
  have e2 : (fun u0 u1 u2 u3 H n => labK (E5_2 cal k m1) (Tr.set (Tr.set (Tr.set (Tr.set Tr.nil 3 (some u3)) 2 (some u2)) 1 (some u1)) 0 (some u0)) H n []) = (C5_2 cal k m1 (R5_1 cal k m1)) := by funext u0 u1 u2 u3 H n; exact q5_2 ..
  rw [e2]
theorem q5_1 (cal : Cal) (k : Nat) : ∀ (m : Nat) (u0 u1 u2 u3 : Value) (H : Hp) (n : Nat), labK (E5_1 cal k m) (Tr.set (Tr.set (Tr.set (Tr.set Tr.nil 3 (some u3)) 2 (some u2)) 1 (some u1)) 0 (some u0)) H n [] = S5_1 cal k m u0 u1 u2 u3 H n
  | 0, u0, u1, u2, u3, H, n => by
    rw [h5_1]
    have e : R5_1 cal k 0 = fun _ _ _ _ _ _ => none := by funext u0 u1 u2 u3 H n; kernel_rfl
    rw [e]; rfl
  | m + 1, u0, u1, u2, u3, H, n => by
    rw [h5_1]
    have e : R5_1 cal k (m + 1) = S5_1 cal k m := by
      funext u0 u1 u2 u3 H n
      have e : R5_1 cal k (m + 1) u0 u1 u2 u3 H n = labK (E5_1 cal k m) (Tr.set (Tr.set (Tr.set (Tr.set Tr.nil 3 (some u3)) 2 (some u2)) 1 (some u1)) 0 (some u0)) H n [] := by kernel_rfl
      rw [e]; exact q5_1 ..
    rw [e]; rfl
noncomputable def B5_0 (cal : Cal) (k : Nat) (j1 : Value → Value → Value → Value → Hp → Nat → Res) (H : Hp) (n : Nat) : Res :=
allocK P 33 H n fun v0_1 H_2 n_3 =>
bindO (buildP P 61 []) fun v4_4 =>
rowK P 28 1 [(0, v4_4)] H_2 n_3 fun v5_5 H_6 n_7 =>
bindO (buildP P 30 [(2, v5_5)]) fun v6_8 =>
allocK P 30 H_6 n_7 fun v1_9 H_10 n_11 =>
bindO (storeP P 30 v1_9 v6_8 H_10) fun H_13 =>
bindO (buildP P 33 []) fun v7_14 =>
allocK P 33 H_13 n_11 fun v2_15 H_16 n_17 =>
bindO (storeP P 33 v2_15 v7_14 H_16) fun H_19 =>
j1 v0_1 v1_9 v2_15 (Go.Value.int Go.IntKind.i64 0) H_19 n_17
noncomputable def C5_0 (cal : Cal) (k : Nat) (H : Hp) (n : Nat) : Res := B5_0 cal k (S5_1 cal k k)  H n
theorem h5_0 (cal : Cal) (k : Nat) (H : Hp) (n : Nat) : bodyE P cal A (k + 1) 5 [] H n = C5_0 cal k  H n := by
  have h : bodyE P cal A (k + 1) 5 [] H n = B5_0 cal k (fun u0 u1 u2 u3 H n => labK (E5_1 cal k k) (Tr.set (Tr.set (Tr.set (Tr.set Tr.nil 3 (some u3)) 2 (some u2)) 1 (some u1)) 0 (some u0)) H n [])  H n := by
    rw [body_eq (fn := Go.Proofs.Try.f5) (c := code5) (rs := results5) (by kernel_rfl) (by kernel_rfl) (by kernel_rfl) (by kernel_rfl)]
    kernel_rfl
  rw [h, C5_0]
  have e1 : (fun u0 u1 u2 u3 H n => labK (E5_1 cal k k) (Tr.set (Tr.set (Tr.set (Tr.set Tr.nil 3 (some u3)) 2 (some u2)) 1 (some u1)) 0 (some u0)) H n []) = (S5_1 cal k k) := by funext u0 u1 u2 u3 H n; exact q5_1 ..
  rw [e1]
noncomputable def code6 : Code := codeOf 6
noncomputable def results6 : List ResultVar := resOf 6
noncomputable def K6_p (cal : Cal) (k : Nat) : KC (Value × Hp × Nat) := (cutK (A 6).c (codeE P cal (codeF P cal k) none 6 (cR code6) (Lv.b (A 6)) (doneK P results6) X0 (doneK P results6)))
noncomputable def K6_pr (cal : Cal) (k : Nat) : KC (Value × Hp × Nat) := (cutK (Lv.b (A 6)).c (codeE P cal (codeF P cal k) none 6 (cR (cR code6)) (Lv.b (Lv.b (A 6))) (doneK P results6) X0 (doneK P results6)))
noncomputable def K6_prr (cal : Cal) (k : Nat) : KC (Value × Hp × Nat) := (cutK (Lv.b (Lv.b (A 6))).c (codeE P cal (codeF P cal k) none 6 (cR (cR (cR code6))) (Lv.b (Lv.b (Lv.b (A 6)))) (doneK P results6) X0 (doneK P results6)))
noncomputable def K6_prrl (cal : Cal) (k : Nat) : KC (Value × Hp × Nat) := (cutK (Lv.a (Lv.b (Lv.b (A 6)))).c (codeE P cal (codeF P cal k) none 6 (cR (cL (cR (cR code6)))) (Lv.b (Lv.a (Lv.b (Lv.b (A 6))))) (K6_prr cal k) X0 (doneK P results6)))
noncomputable def K6_prrlrl (cal : Cal) (k : Nat) : KC (Value × Hp × Nat) := (cutK (Lv.a (Lv.b (Lv.a (Lv.b (Lv.b (A 6)))))).c (codeE P cal (codeF P cal k) none 6 (cR (cL (cR (cL (cR (cR code6)))))) (Lv.b (Lv.a (Lv.b (Lv.a (Lv.b (Lv.b (A 6))))))) (K6_prr cal k) X0 (doneK P results6)))
noncomputable def K6_prrr (cal : Cal) (k : Nat) : KC (Value × Hp × Nat) := (cutK (Lv.b (Lv.b (Lv.b (A 6)))).c (codeE P cal (codeF P cal k) none 6 (cR (cR (cR (cR code6)))) (Lv.b (Lv.b (Lv.b (Lv.b (A 6))))) (doneK P results6) X0 (doneK P results6)))
noncomputable def K6_prrrl (cal : Cal) (k : Nat) : KC (Value × Hp × Nat) := (cutK (Lv.a (Lv.b (Lv.b (Lv.b (A 6))))).c (codeE P cal (codeF P cal k) none 6 (cR (cL (cR (cR (cR code6))))) (Lv.b (Lv.a (Lv.b (Lv.b (Lv.b (A 6)))))) (K6_prrr cal k) X0 (doneK P results6)))
noncomputable def K6_prrrlrl (cal : Cal) (k : Nat) : KC (Value × Hp × Nat) := (cutK (Lv.a (Lv.b (Lv.a (Lv.b (Lv.b (Lv.b (A 6))))))).c (codeE P cal (codeF P cal k) none 6 (cR (cL (cR (cL (cR (cR (cR code6))))))) (Lv.b (Lv.a (Lv.b (Lv.a (Lv.b (Lv.b (Lv.b (A 6)))))))) (K6_prrr cal k) X0 (doneK P results6)))
noncomputable def K6_prrrr (cal : Cal) (k : Nat) : KC (Value × Hp × Nat) := (cutK (Lv.b (Lv.b (Lv.b (Lv.b (A 6))))).c (codeE P cal (codeF P cal k) none 6 (cR (cR (cR (cR (cR code6))))) (Lv.b (Lv.b (Lv.b (Lv.b (Lv.b (A 6)))))) (doneK P results6) X0 (doneK P results6)))
noncomputable def K6_prrrrr (cal : Cal) (k : Nat) : KC (Value × Hp × Nat) := (cutK (Lv.b (Lv.b (Lv.b (Lv.b (Lv.b (A 6)))))).c (codeE P cal (codeF P cal k) none 6 (cR (cR (cR (cR (cR (cR code6)))))) (Lv.b (Lv.b (Lv.b (Lv.b (Lv.b (Lv.b (A 6))))))) (doneK P results6) X0 (doneK P results6)))
noncomputable def K6_prrrrrl (cal : Cal) (k : Nat) : KC (Value × Hp × Nat) := (cutK (Lv.a (Lv.b (Lv.b (Lv.b (Lv.b (Lv.b (A 6))))))).c (codeE P cal (codeF P cal k) none 6 (cR (cL (cR (cR (cR (cR (cR code6))))))) (Lv.b (Lv.a (Lv.b (Lv.b (Lv.b (Lv.b (Lv.b (A 6)))))))) (K6_prrrrr cal k) X0 (doneK P results6)))
noncomputable def K6_prrrrrlrl (cal : Cal) (k : Nat) : KC (Value × Hp × Nat) := (cutK (Lv.a (Lv.b (Lv.a (Lv.b (Lv.b (Lv.b (Lv.b (Lv.b (A 6))))))))).c (codeE P cal (codeF P cal k) none 6 (cR (cL (cR (cL (cR (cR (cR (cR (cR code6))))))))) (Lv.b (Lv.a (Lv.b (Lv.a (Lv.b (Lv.b (Lv.b (Lv.b (Lv.b (A 6)))))))))) (K6_prrrrr cal k) X0 (doneK P results6)))
noncomputable def K6_prrrrrr (cal : Cal) (k : Nat) : KC (Value × Hp × Nat) := (cutK (Lv.b (Lv.b (Lv.b (Lv.b (Lv.b (Lv.b (A 6))))))).c (codeE P cal (codeF P cal k) none 6 (cR (cR (cR (cR (cR (cR (cR code6))))))) (Lv.b (Lv.b (Lv.b (Lv.b (Lv.b (Lv.b (Lv.b (A 6)))))))) (doneK P results6) X0 (doneK P results6)))
noncomputable def B6_0 (cal : Cal) (k : Nat) (v0 v1 : Value) (H : Hp) (n : Nat) : Res :=
boxK 33 v0 H n fun v2_1 H_2 n_3 =>
bindO (addrV v2_1) fun a_7 => bindO (loadV P H_2 33 a_7) fun v11_6 =>
callFK P cal 15 [v11_6] H_2 n_3 fun v12_8 H_9 n_10 =>
bindO (tupV v12_8 0) fun v13_12 =>
bindO (tupV v12_8 1) fun v14_13 =>
binK P Go.BinOp.neq 23 (Go.Operand.tmp 15) (Go.Operand.const (Go.Value.int Go.IntKind.i64 0)) v14_13 (Go.Value.int Go.IntKind.i64 0) fun v16_17 =>
ifK v16_17 (
some ((Value.tuple ⟨[(Go.Value.slice none 0 0), v14_13]⟩), H_9, n_10)) (
binK P Go.BinOp.lss 3 (Go.Operand.tmp 18) (Go.Operand.const (Go.Value.int Go.IntKind.i64 0)) v1 (Go.Value.int Go.IntKind.i64 0) fun v19_22 =>
guardK v19_22 false (fun k_24 =>
k_24 v1 H_9 n_10) H_9 n_10 fun v_25 H_26 n_27 =>
guardK v19_22 false (fun k_29 =>
binK P Go.BinOp.gtr 3 (Go.Operand.tmp 21) (Go.Operand.const (Go.Value.int Go.IntKind.i64 8)) v_25 (Go.Value.int Go.IntKind.i64 8) fun v22_33 =>
k_29 v22_33 H_26 n_27) H_26 n_27 fun v_30 H_31 n_32 =>
bindO (pickV v19_22 (Go.Value.bool true) v_30) fun v23_34 =>
ifK v23_34 (
some ((Value.tuple ⟨[(Go.Value.slice none 0 0), (Go.Value.int Go.IntKind.i64 2)]⟩), H_31, n_32)) (
callFK P cal 18 [v13_12, v1] H_31 n_32 fun v27_39 H_40 n_41 =>
bindO (tupV v27_39 0) fun v28_43 =>
bindO (tupV v27_39 1) fun v29_44 =>
bindO (pureSem P v29_44 (Op.unary Go.UnOp.not v29_44)) fun v31_48 =>
ifK v31_48 (
some ((Value.tuple ⟨[(Go.Value.slice none 0 0), (Go.Value.int Go.IntKind.i64 10)]⟩), H_40, n_41)) (
callFK P cal 17 [v28_43] H_40 n_41 fun v33_52 H_53 n_54 =>
some ((Value.tuple ⟨[v33_52, (Go.Value.int Go.IntKind.i64 0)]⟩), H_53, n_54))))
noncomputable def C6_0 (cal : Cal) (k : Nat) (v0 v1 : Value) (H : Hp) (n : Nat) : Res := B6_0 cal k v0 v1 H n
theorem h6_0 (cal : Cal) (k : Nat) (v0 v1 : Value) (H : Hp) (n : Nat) : bodyE P cal A (k + 1) 6 [v0, v1] H n = C6_0 cal k v0 v1 H n := by
  have h : bodyE P cal A (k + 1) 6 [v0, v1] H n = B6_0 cal k v0 v1 H n := by
    rw [body_eq (fn := Go.Proofs.Try.f6) (c := code6) (rs := results6) (by kernel_rfl) (by kernel_rfl) (by kernel_rfl) (by kernel_rfl)]
    kernel_rfl
  rw [h, C6_0]
noncomputable def code7 : Code := codeOf 7
noncomputable def results7 : List ResultVar := resOf 7
noncomputable def K7_p (cal : Cal) (k : Nat) : KC (Value × Hp × Nat) := (cutK (A 7).c (codeE P cal (codeF P cal k) none 7 (cR code7) (Lv.b (A 7)) (doneK P results7) X0 (doneK P results7)))
noncomputable def K7_pr (cal : Cal) (k : Nat) : KC (Value × Hp × Nat) := (cutK (Lv.b (A 7)).c (codeE P cal (codeF P cal k) none 7 (cR (cR code7)) (Lv.b (Lv.b (A 7))) (doneK P results7) X0 (doneK P results7)))
noncomputable def K7_prl (cal : Cal) (k : Nat) : KC (Value × Hp × Nat) := (cutK (Lv.a (Lv.b (A 7))).c (codeE P cal (codeF P cal k) none 7 (cR (cL (cR code7))) (Lv.b (Lv.a (Lv.b (A 7)))) (K7_pr cal k) X0 (doneK P results7)))
noncomputable def K7_prlrl (cal : Cal) (k : Nat) : KC (Value × Hp × Nat) := (cutK (Lv.a (Lv.b (Lv.a (Lv.b (A 7))))).c (codeE P cal (codeF P cal k) none 7 (cR (cL (cR (cL (cR code7))))) (Lv.b (Lv.a (Lv.b (Lv.a (Lv.b (A 7)))))) (K7_pr cal k) X0 (doneK P results7)))
noncomputable def K7_prr (cal : Cal) (k : Nat) : KC (Value × Hp × Nat) := (cutK (Lv.b (Lv.b (A 7))).c (codeE P cal (codeF P cal k) none 7 (cR (cR (cR code7))) (Lv.b (Lv.b (Lv.b (A 7)))) (doneK P results7) X0 (doneK P results7)))
noncomputable def K7_prrl (cal : Cal) (k : Nat) : KC (Value × Hp × Nat) := (cutK (Lv.a (Lv.b (Lv.b (A 7)))).c (codeE P cal (codeF P cal k) none 7 (cR (cL (cR (cR code7)))) (Lv.b (Lv.a (Lv.b (Lv.b (A 7))))) (K7_prr cal k) X0 (doneK P results7)))
noncomputable def K7_pxrrlr (cal : Cal) (k : Nat) : XC (Value × Hp × Nat) := (upX 0 (K7_prr cal k) X0)
noncomputable def K7_prrlrl (cal : Cal) (k : Nat) (m1 : Nat) : KC (Value × Hp × Nat) := (fun T H n D => codeF P cal m1 (Lv.a (Lv.b (Lv.a (Lv.b (Lv.b (A 7)))))) none 7 (cL (cR (cL (cR (cR code7))))) (K7_prr cal k) (K7_pxrrlr cal k) (doneK P results7) (cutT (Lv.a (Lv.b (Lv.a (Lv.b (Lv.b (A 7)))))).c T) H n D)
noncomputable def K7_prrlrll (cal : Cal) (k : Nat) (m1 : Nat) : KC (Value × Hp × Nat) := (cutK (Lv.a (Lv.a (Lv.b (Lv.a (Lv.b (Lv.b (A 7))))))).c (codeE P cal (codeF P cal m1) none 7 (cR (cL (cL (cR (cL (cR (cR code7))))))) (Lv.b (Lv.a (Lv.a (Lv.b (Lv.a (Lv.b (Lv.b (A 7)))))))) (K7_prrlrl cal k m1) (K7_pxrrlr cal k) (doneK P results7)))
noncomputable def K7_prrlrlll (cal : Cal) (k : Nat) (m1 : Nat) : KC (Value × Hp × Nat) := (cutK (Lv.a (Lv.a (Lv.a (Lv.b (Lv.a (Lv.b (Lv.b (A 7)))))))).c (codeE P cal (codeF P cal m1) none 7 (cR (cL (cL (cL (cR (cL (cR (cR code7)))))))) (Lv.b (Lv.a (Lv.a (Lv.a (Lv.b (Lv.a (Lv.b (Lv.b (A 7))))))))) (K7_prrlrll cal k m1) (K7_pxrrlr cal k) (doneK P results7)))
noncomputable def K7_prrlrllr (cal : Cal) (k : Nat) (m1 : Nat) : KC (Value × Hp × Nat) := (cutK (Lv.b (Lv.a (Lv.a (Lv.b (Lv.a (Lv.b (Lv.b (A 7)))))))).c (codeE P cal (codeF P cal m1) none 7 (cR (cR (cL (cL (cR (cL (cR (cR code7)))))))) (Lv.b (Lv.b (Lv.a (Lv.a (Lv.b (Lv.a (Lv.b (Lv.b (A 7))))))))) (K7_prrlrl cal k m1) (K7_pxrrlr cal k) (doneK P results7)))
noncomputable def K7_pxrrlrllrl (cal : Cal) (k : Nat) (m1 : Nat) : XC (Value × Hp × Nat) := (upX 1 (K7_prrlrllr cal k m1) (K7_pxrrlr cal k))
noncomputable def K7_prrlrllrll (cal : Cal) (k : Nat) (m1 : Nat) : KC (Value × Hp × Nat) := (cutK (Lv.a (Lv.a (Lv.b (Lv.a (Lv.a (Lv.b (Lv.a (Lv.b (Lv.b (A 7)))))))))).c (codeE P cal (codeF P cal m1) none 7 (cR (cL (cL (cR (cL (cL (cR (cL (cR (cR code7)))))))))) (Lv.b (Lv.a (Lv.a (Lv.b (Lv.a (Lv.a (Lv.b (Lv.a (Lv.b (Lv.b (A 7))))))))))) (K7_prrlrllr cal k m1) (K7_pxrrlrllrl cal k m1) (doneK P results7)))
noncomputable def K7_prrlrllrllrl (cal : Cal) (k : Nat) (m1 : Nat) : KC (Value × Hp × Nat) := (cutK (Lv.a (Lv.b (Lv.a (Lv.a (Lv.b (Lv.a (Lv.a (Lv.b (Lv.a (Lv.b (Lv.b (A 7)))))))))))).c (codeE P cal (codeF P cal m1) none 7 (cR (cL (cR (cL (cL (cR (cL (cL (cR (cL (cR (cR code7)))))))))))) (Lv.b (Lv.a (Lv.b (Lv.a (Lv.a (Lv.b (Lv.a (Lv.a (Lv.b (Lv.a (Lv.b (Lv.b (A 7))))))))))))) (K7_prrlrllr cal k m1) (K7_pxrrlrllrl cal k m1) (doneK P results7)))
noncomputable def K7_prrr (cal : Cal) (k : Nat) : KC (Value × Hp × Nat) := (cutK (Lv.b (Lv.b (Lv.b (A 7)))).c (codeE P cal (codeF P cal k) none 7 (cR (cR (cR (cR code7)))) (Lv.b (Lv.b (Lv.b (Lv.b (A 7))))) (doneK P results7) X0 (doneK P results7)))
noncomputable def E7_1 (cal : Cal) (k m1 : Nat) : KC (Value × Hp × Nat) := codeE P cal (codeF P cal m1) none 7 (cL (cL (cR (cL (cR (cR code7)))))) (Lv.a (Lv.a (Lv.b (Lv.a (Lv.b (Lv.b (A 7))))))) (K7_prrlrl cal k m1) (K7_pxrrlr cal k) (doneK P results7)
noncomputable def R7_1 (cal : Cal) (k m1 : Nat) : Value → Value → Value → Hp → Nat → Res := fun u0 u1 u5 H n => codeF P cal m1 (Lv.a (Lv.b (Lv.a (Lv.b (Lv.b (A 7)))))) none 7 (cL (cR (cL (cR (cR code7))))) (K7_prr cal k) (K7_pxrrlr cal k) (doneK P results7) (Tr.set (Tr.set (Tr.set Tr.nil 5 (some u5)) 1 (some u1)) 0 (some u0)) H n []
noncomputable def B7_1 (cal : Cal) (k m1 : Nat) (b1 : Value → Value → Value → Hp → Nat → Res) (u0 u1 u5 : Value) (H : Hp) (n : Nat) : Res :=
bindO (lenV P 22 u0) fun v13_11 =>
binK P Go.BinOp.lss 3 (Go.Operand.tmp 11) (Go.Operand.tmp 13) u5 v13_11 fun v14_12 =>
ifK v14_12 (
bindO (indexAddrV P 22 u0 u5) fun v19_15 =>
bindO (addrV v19_15) fun a_16 => bindO (loadV P H 31 a_16) fun v_17 =>
bindO (indexAddrV P 22 u1 u5) fun v23_20 =>
bindO (addrV v23_20) fun a_21 => bindO (loadV P H 31 a_21) fun v_22 =>
callFK P cal 19 [v_17, v_22] H n fun v25_23 H_24 n_25 =>
bindO (pureSem P v25_23 (Op.unary Go.UnOp.not v25_23)) fun v26_26 =>
ifK v26_26 (
some ((Go.Value.bool false), H_24, n_25)) (
binK P Go.BinOp.add 3 (Go.Operand.tmp 15) (Go.Operand.const (Go.Value.int Go.IntKind.i64 1)) u5 (Go.Value.int Go.IntKind.i64 1) fun v16_29 =>
b1 u0 u1 v16_29 H_24 n_25)) (
some ((Go.Value.bool true), H, n))
noncomputable def C7_1 (cal : Cal) (k m1 : Nat) (b1 : Value → Value → Value → Hp → Nat → Res) (u0 u1 u5 : Value) (H : Hp) (n : Nat) : Res := B7_1 cal k m1 b1 u0 u1 u5 H n
noncomputable def S7_1 (cal : Cal) (k : Nat) : Nat → Value → Value → Value → Hp → Nat → Res := fun m => Nat.rec (motive := fun _ => Value → Value → Value → Hp → Nat → Res) (C7_1 cal k 0 (fun _ _ _ _ _ => none)) (fun m ih => C7_1 cal k (m + 1) ih) m
theorem h7_1 (cal : Cal) (k m1 : Nat) (u0 u1 u5 : Value) (H : Hp) (n : Nat) : labK (E7_1 cal k m1) (Tr.set (Tr.set (Tr.set Tr.nil 5 (some u5)) 1 (some u1)) 0 (some u0)) H n [] = C7_1 cal k m1 (R7_1 cal k m1) u0 u1 u5 H n := by
  have h : labK (E7_1 cal k m1) (Tr.set (Tr.set (Tr.set Tr.nil 5 (some u5)) 1 (some u1)) 0 (some u0)) H n [] = B7_1 cal k m1 (R7_1 cal k m1) u0 u1 u5 H n := by kernel_rfl
  rw [h, C7_1]
theorem q7_1 (cal : Cal) (k : Nat) : ∀ (m : Nat) (u0 u1 u5 : Value) (H : Hp) (n : Nat), labK (E7_1 cal k m) (Tr.set (Tr.set (Tr.set Tr.nil 5 (some u5)) 1 (some u1)) 0 (some u0)) H n [] = S7_1 cal k m u0 u1 u5 H n
  | 0, u0, u1, u5, H, n => by
    rw [h7_1]
    have e : R7_1 cal k 0 = fun _ _ _ _ _ => none := by funext u0 u1 u5 H n; kernel_rfl
    rw [e]; rfl
  | m + 1, u0, u1, u5, H, n => by
    rw [h7_1]
    have e : R7_1 cal k (m + 1) = S7_1 cal k m := by
      funext u0 u1 u5 H n
      have e : R7_1 cal k (m + 1) u0 u1 u5 H n = labK (E7_1 cal k m) (Tr.set (Tr.set (Tr.set Tr.nil 5 (some u5)) 1 (some u1)) 0 (some u0)) H n [] := by kernel_rfl
      rw [e]; exact q7_1 ..
    rw [e]; rfl
noncomputable def B7_0 (cal : Cal) (k : Nat) (j1 : Value → Value → Value → Hp → Nat → Res) (v0 v1 : Value) (H : Hp) (n : Nat) : Res :=
bindO (lenV P 22 v0) fun v7_3 =>
bindO (lenV P 22 v1) fun v9_5 =>
binK P Go.BinOp.neq 3 (Go.Operand.tmp 7) (Go.Operand.tmp 9) v7_3 v9_5 fun v10_6 =>
ifK v10_6 (
some ((Go.Value.bool false), H, n)) (
j1 v0 v1 (Go.Value.int Go.IntKind.i64 0) H n)
noncomputable def C7_0 (cal : Cal) (k : Nat) (v0 v1 : Value) (H : Hp) (n : Nat) : Res := B7_0 cal k (S7_1 cal k k) v0 v1 H n
theorem h7_0 (cal : Cal) (k : Nat) (v0 v1 : Value) (H : Hp) (n : Nat) : bodyE P cal A (k + 1) 7 [v0, v1] H n = C7_0 cal k v0 v1 H n := by
  have h : bodyE P cal A (k + 1) 7 [v0, v1] H n = B7_0 cal k (fun u0 u1 u5 H n => labK (E7_1 cal k k) (Tr.set (Tr.set (Tr.set Tr.nil 5 (some u5)) 1 (some u1)) 0 (some u0)) H n []) v0 v1 H n := by
    rw [body_eq (fn := Go.Proofs.Try.f7) (c := code7) (rs := results7) (by kernel_rfl) (by kernel_rfl) (by kernel_rfl) (by kernel_rfl)]
    kernel_rfl
  rw [h, C7_0]
  have e1 : (fun u0 u1 u5 H n => labK (E7_1 cal k k) (Tr.set (Tr.set (Tr.set Tr.nil 5 (some u5)) 1 (some u1)) 0 (some u0)) H n []) = (S7_1 cal k k) := by funext u0 u1 u5 H n; exact q7_1 ..
  rw [e1]
noncomputable def code8 : Code := codeOf 8
noncomputable def results8 : List ResultVar := resOf 8
noncomputable def K8_p (cal : Cal) (k : Nat) : KC (Value × Hp × Nat) := (cutK (A 8).c (codeE P cal (codeF P cal k) none 8 (cR code8) (Lv.b (A 8)) (doneK P results8) X0 (doneK P results8)))
noncomputable def K8_pr (cal : Cal) (k : Nat) : KC (Value × Hp × Nat) := (cutK (Lv.b (A 8)).c (codeE P cal (codeF P cal k) none 8 (cR (cR code8)) (Lv.b (Lv.b (A 8))) (doneK P results8) X0 (doneK P results8)))
noncomputable def K8_prr (cal : Cal) (k : Nat) : KC (Value × Hp × Nat) := (cutK (Lv.b (Lv.b (A 8))).c (codeE P cal (codeF P cal k) none 8 (cR (cR (cR code8))) (Lv.b (Lv.b (Lv.b (A 8)))) (doneK P results8) X0 (doneK P results8)))
noncomputable def B8_0 (cal : Cal) (k : Nat) (v0 v1 v2 : Value) (H : Hp) (n : Nat) : Res :=
boxK 33 v0 H n fun v3_1 H_2 n_3 =>
bindO (addrV v3_1) fun a_6 => bindO (loadV P H_2 33 a_6) fun v11_5 =>
callFK P cal 20 [v11_5, v1] H_2 n_3 fun v13_8 H_9 n_10 =>
bindO (tupV v13_8 0) fun v14_12 =>
bindO (tupV v13_8 1) fun v15_13 =>
bindO (tupV v13_8 2) fun v16_14 =>
binK P Go.BinOp.eql 23 (Go.Operand.tmp 17) (Go.Operand.const (Go.Value.int Go.IntKind.i64 0)) v16_14 (Go.Value.int Go.IntKind.i64 0) fun v18_19 =>
guardK v18_19 true (fun k_21 =>
k_21 v14_12 H_9 n_10) H_9 n_10 fun v_22 H_23 n_24 =>
guardK v18_19 true (fun k_26 =>
k_26 v15_13 H_23 n_24) H_23 n_24 fun v_27 H_28 n_29 =>
guardK v18_19 true (fun k_31 =>
callFK P cal 21 [v_22, v_27] H_28 n_29 fun v22_35 H_36 n_37 =>
k_31 v22_35 H_36 n_37) H_28 n_29 fun v_32 H_33 n_34 =>
bindO (pickV v18_19 v_32 (Go.Value.bool false)) fun v23_38 =>
guardK v23_38 true (fun k_40 =>
k_40 v15_13 H_33 n_34) H_33 n_34 fun v_41 H_42 n_43 =>
guardK v23_38 true (fun k_45 =>
callFK P cal 22 [v_41] H_42 n_43 fun v26_49 H_50 n_51 =>
k_45 v26_49 H_50 n_51) H_42 n_43 fun v_46 H_47 n_48 =>
guardK v23_38 true (fun k_52 =>
k_52 v2 H_47 n_48) H_47 n_48 fun v_53 H_54 n_55 =>
guardK v23_38 true (fun k_57 =>
binK P Go.BinOp.leq 3 (Go.Operand.tmp 26) (Go.Operand.tmp 27) v_46 v_53 fun v28_61 =>
k_57 v28_61 H_54 n_55) H_54 n_55 fun v_58 H_59 n_60 =>
bindO (pickV v23_38 v_58 (Go.Value.bool false)) fun v29_62 =>
some (v29_62, H_59, n_60)
noncomputable def C8_0 (cal : Cal) (k : Nat) (v0 v1 v2 : Value) (H : Hp) (n : Nat) : Res := B8_0 cal k v0 v1 v2 H n
theorem h8_0 (cal : Cal) (k : Nat) (v0 v1 v2 : Value) (H : Hp) (n : Nat) : bodyE P cal A (k + 1) 8 [v0, v1, v2] H n = C8_0 cal k v0 v1 v2 H n := by
  have h : bodyE P cal A (k + 1) 8 [v0, v1, v2] H n = B8_0 cal k v0 v1 v2 H n := by
    rw [body_eq (fn := Go.Proofs.Try.f8) (c := code8) (rs := results8) (by kernel_rfl) (by kernel_rfl) (by kernel_rfl) (by kernel_rfl)]
    kernel_rfl
  rw [h, C8_0]
noncomputable def code9 : Code := codeOf 9
noncomputable def results9 : List ResultVar := resOf 9
noncomputable def K9_p (cal : Cal) (k : Nat) : KC (Value × Hp × Nat) := (cutK (A 9).c (codeE P cal (codeF P cal k) none 9 (cR code9) (Lv.b (A 9)) (doneK P results9) X0 (doneK P results9)))
noncomputable def K9_pr (cal : Cal) (k : Nat) : KC (Value × Hp × Nat) := (cutK (Lv.b (A 9)).c (codeE P cal (codeF P cal k) none 9 (cR (cR code9)) (Lv.b (Lv.b (A 9))) (doneK P results9) X0 (doneK P results9)))
noncomputable def B9_0 (cal : Cal) (k : Nat) (H : Hp) (n : Nat) : Res :=
rowK P 31 2 [(0, (Go.Value.int Go.IntKind.i64 0)), (1, (Go.Value.int Go.IntKind.i64 1))] H n fun v1_2 H_3 n_4 =>
rowK P 31 2 [(0, (Go.Value.int Go.IntKind.i64 1)), (1, (Go.Value.int Go.IntKind.i64 2))] H_3 n_4 fun v2_5 H_6 n_7 =>
rowK P 31 2 [(0, (Go.Value.int Go.IntKind.i64 2)), (1, (Go.Value.int Go.IntKind.i64 3))] H_6 n_7 fun v3_8 H_9 n_10 =>
rowK P 31 2 [(0, (Go.Value.int Go.IntKind.i64 3)), (1, (Go.Value.int Go.IntKind.i64 4))] H_9 n_10 fun v4_11 H_12 n_13 =>
rowK P 22 4 [(0, v1_2), (1, v2_5), (2, v3_8), (3, v4_11)] H_12 n_13 fun v5_14 H_15 n_16 =>
some (v5_14, H_15, n_16)
noncomputable def C9_0 (cal : Cal) (k : Nat) (H : Hp) (n : Nat) : Res := B9_0 cal k  H n
theorem h9_0 (cal : Cal) (k : Nat) (H : Hp) (n : Nat) : bodyE P cal A (k + 1) 9 [] H n = C9_0 cal k  H n := by
  have h : bodyE P cal A (k + 1) 9 [] H n = B9_0 cal k  H n := by
    rw [body_eq (fn := Go.Proofs.Try.f9) (c := code9) (rs := results9) (by kernel_rfl) (by kernel_rfl) (by kernel_rfl) (by kernel_rfl)]
    kernel_rfl
  rw [h, C9_0]
noncomputable def code10 : Code := codeOf 10
noncomputable def results10 : List ResultVar := resOf 10
noncomputable def K10_p (cal : Cal) (k : Nat) : KC (Value × Hp × Nat) := (cutK (A 10).c (codeE P cal (codeF P cal k) none 10 (cR code10) (Lv.b (A 10)) (doneK P results10) X0 (doneK P results10)))
noncomputable def K10_pr (cal : Cal) (k : Nat) : KC (Value × Hp × Nat) := (cutK (Lv.b (A 10)).c (codeE P cal (codeF P cal k) none 10 (cR (cR code10)) (Lv.b (Lv.b (A 10))) (doneK P results10) X0 (doneK P results10)))
noncomputable def K10_prr (cal : Cal) (k : Nat) : KC (Value × Hp × Nat) := (cutK (Lv.b (Lv.b (A 10))).c (codeE P cal (codeF P cal k) none 10 (cR (cR (cR code10))) (Lv.b (Lv.b (Lv.b (A 10)))) (doneK P results10) X0 (doneK P results10)))
noncomputable def B10_0 (cal : Cal) (k : Nat) (v0 v1 v2 v3 : Value) (H : Hp) (n : Nat) : Res :=
boxK 33 v0 H n fun v4_1 H_2 n_3 =>
bindO (addrV v4_1) fun a_6 => bindO (loadV P H_2 33 a_6) fun v13_5 =>
callFK P cal 20 [v13_5, v1] H_2 n_3 fun v15_8 H_9 n_10 =>
bindO (tupV v15_8 0) fun v16_12 =>
bindO (tupV v15_8 1) fun v17_13 =>
bindO (tupV v15_8 2) fun v18_14 =>
binK P Go.BinOp.eql 23 (Go.Operand.tmp 19) (Go.Operand.const (Go.Value.int Go.IntKind.i64 0)) v18_14 (Go.Value.int Go.IntKind.i64 0) fun v20_19 =>
guardK v20_19 true (fun k_21 =>
k_21 v16_12 H_9 n_10) H_9 n_10 fun v_22 H_23 n_24 =>
guardK v20_19 true (fun k_26 =>
k_26 v17_13 H_23 n_24) H_23 n_24 fun v_27 H_28 n_29 =>
guardK v20_19 true (fun k_31 =>
k_31 v2 H_28 n_29) H_28 n_29 fun v_32 H_33 n_34 =>
guardK v20_19 true (fun k_36 =>
callFK P cal 23 [v_22, v_27, v_32] H_33 n_34 fun v25_40 H_41 n_42 =>
k_36 v25_40 H_41 n_42) H_33 n_34 fun v_37 H_38 n_39 =>
bindO (pickV v20_19 v_37 (Go.Value.bool false)) fun v26_43 =>
guardK v26_43 true (fun k_45 =>
k_45 v16_12 H_38 n_39) H_38 n_39 fun v_46 H_47 n_48 =>
guardK v26_43 true (fun k_50 =>
k_50 v2 H_47 n_48) H_47 n_48 fun v_51 H_52 n_53 =>
guardK v26_43 true (fun k_55 =>
callFK P cal 24 [v_46, v_51] H_52 n_53 fun v30_59 H_60 n_61 =>
k_55 v30_59 H_60 n_61) H_52 n_53 fun v_56 H_57 n_58 =>
guardK v26_43 true (fun k_62 =>
k_62 v3 H_57 n_58) H_57 n_58 fun v_63 H_64 n_65 =>
guardK v26_43 true (fun k_67 =>
binK P Go.BinOp.geq 3 (Go.Operand.tmp 30) (Go.Operand.tmp 31) v_56 v_63 fun v32_71 =>
k_67 v32_71 H_64 n_65) H_64 n_65 fun v_68 H_69 n_70 =>
bindO (pickV v26_43 v_68 (Go.Value.bool false)) fun v33_72 =>
some (v33_72, H_69, n_70)
noncomputable def C10_0 (cal : Cal) (k : Nat) (v0 v1 v2 v3 : Value) (H : Hp) (n : Nat) : Res := B10_0 cal k v0 v1 v2 v3 H n
theorem h10_0 (cal : Cal) (k : Nat) (v0 v1 v2 v3 : Value) (H : Hp) (n : Nat) : bodyE P cal A (k + 1) 10 [v0, v1, v2, v3] H n = C10_0 cal k v0 v1 v2 v3 H n := by
  have h : bodyE P cal A (k + 1) 10 [v0, v1, v2, v3] H n = B10_0 cal k v0 v1 v2 v3 H n := by
    rw [body_eq (fn := Go.Proofs.Try.f10) (c := code10) (rs := results10) (by kernel_rfl) (by kernel_rfl) (by kernel_rfl) (by kernel_rfl)]
    kernel_rfl
  rw [h, C10_0]
noncomputable def code11 : Code := codeOf 11
noncomputable def results11 : List ResultVar := resOf 11
noncomputable def K11_p (cal : Cal) (k : Nat) : KC (Value × Hp × Nat) := (cutK (A 11).c (codeE P cal (codeF P cal k) none 11 (cR code11) (Lv.b (A 11)) (doneK P results11) X0 (doneK P results11)))
noncomputable def K11_pr (cal : Cal) (k : Nat) : KC (Value × Hp × Nat) := (cutK (Lv.b (A 11)).c (codeE P cal (codeF P cal k) none 11 (cR (cR code11)) (Lv.b (Lv.b (A 11))) (doneK P results11) X0 (doneK P results11)))
noncomputable def K11_prr (cal : Cal) (k : Nat) : KC (Value × Hp × Nat) := (cutK (Lv.b (Lv.b (A 11))).c (codeE P cal (codeF P cal k) none 11 (cR (cR (cR code11))) (Lv.b (Lv.b (Lv.b (A 11)))) (doneK P results11) X0 (doneK P results11)))
noncomputable def K11_prrl (cal : Cal) (k : Nat) : KC (Value × Hp × Nat) := (cutK (Lv.a (Lv.b (Lv.b (A 11)))).c (codeE P cal (codeF P cal k) none 11 (cR (cL (cR (cR code11)))) (Lv.b (Lv.a (Lv.b (Lv.b (A 11))))) (K11_prr cal k) X0 (doneK P results11)))
noncomputable def K11_prrlrl (cal : Cal) (k : Nat) : KC (Value × Hp × Nat) := (cutK (Lv.a (Lv.b (Lv.a (Lv.b (Lv.b (A 11)))))).c (codeE P cal (codeF P cal k) none 11 (cR (cL (cR (cL (cR (cR code11)))))) (Lv.b (Lv.a (Lv.b (Lv.a (Lv.b (Lv.b (A 11))))))) (K11_prr cal k) X0 (doneK P results11)))
noncomputable def K11_prrr (cal : Cal) (k : Nat) : KC (Value × Hp × Nat) := (cutK (Lv.b (Lv.b (Lv.b (A 11)))).c (codeE P cal (codeF P cal k) none 11 (cR (cR (cR (cR code11)))) (Lv.b (Lv.b (Lv.b (Lv.b (A 11))))) (doneK P results11) X0 (doneK P results11)))
noncomputable def K11_prrrl (cal : Cal) (k : Nat) : KC (Value × Hp × Nat) := (cutK (Lv.a (Lv.b (Lv.b (Lv.b (A 11))))).c (codeE P cal (codeF P cal k) none 11 (cR (cL (cR (cR (cR code11))))) (Lv.b (Lv.a (Lv.b (Lv.b (Lv.b (A 11)))))) (K11_prrr cal k) X0 (doneK P results11)))
noncomputable def K11_prrrlrl (cal : Cal) (k : Nat) : KC (Value × Hp × Nat) := (cutK (Lv.a (Lv.b (Lv.a (Lv.b (Lv.b (Lv.b (A 11))))))).c (codeE P cal (codeF P cal k) none 11 (cR (cL (cR (cL (cR (cR (cR code11))))))) (Lv.b (Lv.a (Lv.b (Lv.a (Lv.b (Lv.b (Lv.b (A 11)))))))) (K11_prrr cal k) X0 (doneK P results11)))
noncomputable def K11_prrrr (cal : Cal) (k : Nat) : KC (Value × Hp × Nat) := (cutK (Lv.b (Lv.b (Lv.b (Lv.b (A 11))))).c (codeE P cal (codeF P cal k) none 11 (cR (cR (cR (cR (cR code11))))) (Lv.b (Lv.b (Lv.b (Lv.b (Lv.b (A 11)))))) (doneK P results11) X0 (doneK P results11)))
noncomputable def K11_prrrrr (cal : Cal) (k : Nat) : KC (Value × Hp × Nat) := (cutK (Lv.b (Lv.b (Lv.b (Lv.b (Lv.b (A 11)))))).c (codeE P cal (codeF P cal k) none 11 (cR (cR (cR (cR (cR (cR code11)))))) (Lv.b (Lv.b (Lv.b (Lv.b (Lv.b (Lv.b (A 11))))))) (doneK P results11) X0 (doneK P results11)))
noncomputable def B11_0 (cal : Cal) (k : Nat) (v0 v1 : Value) (H : Hp) (n : Nat) : Res :=
boxK 33 v0 H n fun v2_1 H_2 n_3 =>
bindO (addrV v2_1) fun a_8 => bindO (loadV P H_2 33 a_8) fun v10_7 =>
callFK P cal 20 [v10_7, v1] H_2 n_3 fun v12_10 H_11 n_12 =>
bindO (tupV v12_10 0) fun v13_14 =>
bindO (tupV v12_10 1) fun v14_15 =>
bindO (tupV v12_10 2) fun v15_16 =>
binK P Go.BinOp.neq 23 (Go.Operand.tmp 16) (Go.Operand.const (Go.Value.int Go.IntKind.i64 0)) v15_16 (Go.Value.int Go.IntKind.i64 0) fun v17_21 =>
ifK v17_21 (
some ((Value.tuple ⟨[(Go.Value.int Go.IntKind.i64 0), (Go.Value.slice none 0 0), v15_16]⟩), H_11, n_12)) (
bindO (nilV v13_14) fun v20_27 =>
bindO (fieldAddrV P 53 v20_27 0) fun v21_28 =>
bindO (fieldAddrV P 33 v21_28 1) fun v22_29 =>
bindO (addrV v22_29) fun a_31 => bindO (loadV P H_11 31 a_31) fun v23_30 =>
bindO (lenV P 31 v23_30) fun v24_32 =>
binK P Go.BinOp.eql 3 (Go.Operand.tmp 24) (Go.Operand.const (Go.Value.int Go.IntKind.i64 0)) v24_32 (Go.Value.int Go.IntKind.i64 0) fun v25_33 =>
ifK v25_33 (
some ((Value.tuple ⟨[(Go.Value.int Go.IntKind.i64 0), (Go.Value.slice none 0 0), (Go.Value.int Go.IntKind.i64 7)]⟩), H_11, n_12)) (
callFK P cal 25 [v13_14, v14_15] H_11 n_12 fun v28_39 H_40 n_41 =>
callFK P cal 24 [v13_14, v28_39] H_40 n_41 fun v31_45 H_46 n_47 =>
some ((Value.tuple ⟨[v31_45, v28_39, (Go.Value.int Go.IntKind.i64 0)]⟩), H_46, n_47)))
noncomputable def C11_0 (cal : Cal) (k : Nat) (v0 v1 : Value) (H : Hp) (n : Nat) : Res := B11_0 cal k v0 v1 H n
theorem h11_0 (cal : Cal) (k : Nat) (v0 v1 : Value) (H : Hp) (n : Nat) : bodyE P cal A (k + 1) 11 [v0, v1] H n = C11_0 cal k v0 v1 H n := by
  have h : bodyE P cal A (k + 1) 11 [v0, v1] H n = B11_0 cal k v0 v1 H n := by
    rw [body_eq (fn := Go.Proofs.Try.f11) (c := code11) (rs := results11) (by kernel_rfl) (by kernel_rfl) (by kernel_rfl) (by kernel_rfl)]
    kernel_rfl
  rw [h, C11_0]
noncomputable def code12 : Code := codeOf 12
noncomputable def results12 : List ResultVar := resOf 12
noncomputable def K12_p (cal : Cal) (k : Nat) : KC (Value × Hp × Nat) := (cutK (A 12).c (codeE P cal (codeF P cal k) none 12 (cR code12) (Lv.b (A 12)) (doneK P results12) X0 (doneK P results12)))
noncomputable def K12_pr (cal : Cal) (k : Nat) : KC (Value × Hp × Nat) := (cutK (Lv.b (A 12)).c (codeE P cal (codeF P cal k) none 12 (cR (cR code12)) (Lv.b (Lv.b (A 12))) (doneK P results12) X0 (doneK P results12)))
noncomputable def K12_prr (cal : Cal) (k : Nat) : KC (Value × Hp × Nat) := (cutK (Lv.b (Lv.b (A 12))).c (codeE P cal (codeF P cal k) none 12 (cR (cR (cR code12))) (Lv.b (Lv.b (Lv.b (A 12)))) (doneK P results12) X0 (doneK P results12)))
noncomputable def K12_prrl (cal : Cal) (k : Nat) : KC (Value × Hp × Nat) := (cutK (Lv.a (Lv.b (Lv.b (A 12)))).c (codeE P cal (codeF P cal k) none 12 (cR (cL (cR (cR code12)))) (Lv.b (Lv.a (Lv.b (Lv.b (A 12))))) (K12_prr cal k) X0 (doneK P results12)))
noncomputable def K12_prrlrl (cal : Cal) (k : Nat) : KC (Value × Hp × Nat) := (cutK (Lv.a (Lv.b (Lv.a (Lv.b (Lv.b (A 12)))))).c (codeE P cal (codeF P cal k) none 12 (cR (cL (cR (cL (cR (cR code12)))))) (Lv.b (Lv.a (Lv.b (Lv.a (Lv.b (Lv.b (A 12))))))) (K12_prr cal k) X0 (doneK P results12)))
noncomputable def K12_prrr (cal : Cal) (k : Nat) : KC (Value × Hp × Nat) := (cutK (Lv.b (Lv.b (Lv.b (A 12)))).c (codeE P cal (codeF P cal k) none 12 (cR (cR (cR (cR code12)))) (Lv.b (Lv.b (Lv.b (Lv.b (A 12))))) (doneK P results12) X0 (doneK P results12)))
noncomputable def B12_0 (cal : Cal) (k : Nat) (v0 v1 : Value) (H : Hp) (n : Nat) : Res :=
boxK 33 v0 H n fun v2_1 H_2 n_3 =>
bindO (addrV v2_1) fun a_7 => bindO (loadV P H_2 33 a_7) fun v10_6 =>
callFK P cal 20 [v10_6, v1] H_2 n_3 fun v12_9 H_10 n_11 =>
bindO (tupV v12_9 0) fun v13_13 =>
bindO (tupV v12_9 1) fun v14_14 =>
bindO (tupV v12_9 2) fun v15_15 =>
binK P Go.BinOp.neq 23 (Go.Operand.tmp 16) (Go.Operand.const (Go.Value.int Go.IntKind.i64 0)) v15_15 (Go.Value.int Go.IntKind.i64 0) fun v17_20 =>
ifK v17_20 (
some ((Value.tuple ⟨[(Go.Value.slice none 0 0), v15_15]⟩), H_10, n_11)) (
callFK P cal 26 [v13_13, v14_14] H_10 n_11 fun v21_26 H_27 n_28 =>
callFK P cal 17 [v21_26] H_27 n_28 fun v22_29 H_30 n_31 =>
some ((Value.tuple ⟨[v22_29, (Go.Value.int Go.IntKind.i64 0)]⟩), H_30, n_31))
noncomputable def C12_0 (cal : Cal) (k : Nat) (v0 v1 : Value) (H : Hp) (n : Nat) : Res := B12_0 cal k v0 v1 H n
theorem h12_0 (cal : Cal) (k : Nat) (v0 v1 : Value) (H : Hp) (n : Nat) : bodyE P cal A (k + 1) 12 [v0, v1] H n = C12_0 cal k v0 v1 H n := by
  have h : bodyE P cal A (k + 1) 12 [v0, v1] H n = B12_0 cal k v0 v1 H n := by
    rw [body_eq (fn := Go.Proofs.Try.f12) (c := code12) (rs := results12) (by kernel_rfl) (by kernel_rfl) (by kernel_rfl) (by kernel_rfl)]
    kernel_rfl
  rw [h, C12_0]
noncomputable def code13 : Code := codeOf 13
noncomputable def results13 : List ResultVar := resOf 13
noncomputable def K13_p (cal : Cal) (k : Nat) : KC (Value × Hp × Nat) := (cutK (A 13).c (codeE P cal (codeF P cal k) none 13 (cR code13) (Lv.b (A 13)) (doneK P results13) X0 (doneK P results13)))
noncomputable def K13_pr (cal : Cal) (k : Nat) : KC (Value × Hp × Nat) := (cutK (Lv.b (A 13)).c (codeE P cal (codeF P cal k) none 13 (cR (cR code13)) (Lv.b (Lv.b (A 13))) (doneK P results13) X0 (doneK P results13)))
noncomputable def B13_0 (cal : Cal) (k : Nat) (v0 : Value) (H : Hp) (n : Nat) : Res :=
boxK 33 v0 H n fun v1_1 H_2 n_3 =>
bindO (addrV v1_1) fun a_6 => bindO (loadV P H_2 33 a_6) fun v3_5 =>
callFK P cal 27 [v3_5] H_2 n_3 fun v4_7 H_8 n_9 =>
some (v4_7, H_8, n_9)
noncomputable def C13_0 (cal : Cal) (k : Nat) (v0 : Value) (H : Hp) (n : Nat) : Res := B13_0 cal k v0 H n
theorem h13_0 (cal : Cal) (k : Nat) (v0 : Value) (H : Hp) (n : Nat) : bodyE P cal A (k + 1) 13 [v0] H n = C13_0 cal k v0 H n := by
  have h : bodyE P cal A (k + 1) 13 [v0] H n = B13_0 cal k v0 H n := by
    rw [body_eq (fn := Go.Proofs.Try.f13) (c := code13) (rs := results13) (by kernel_rfl) (by kernel_rfl) (by kernel_rfl) (by kernel_rfl)]
    kernel_rfl
  rw [h, C13_0]
noncomputable def code14 : Code := codeOf 14
noncomputable def results14 : List ResultVar := resOf 14
noncomputable def K14_p (cal : Cal) (k : Nat) : KC (Value × Hp × Nat) := (cutK (A 14).c (codeE P cal (codeF P cal k) none 14 (cR code14) (Lv.b (A 14)) (doneK P results14) X0 (doneK P results14)))
noncomputable def K14_pr (cal : Cal) (k : Nat) : KC (Value × Hp × Nat) := (cutK (Lv.b (A 14)).c (codeE P cal (codeF P cal k) none 14 (cR (cR code14)) (Lv.b (Lv.b (A 14))) (doneK P results14) X0 (doneK P results14)))
noncomputable def K14_prr (cal : Cal) (k : Nat) : KC (Value × Hp × Nat) := (cutK (Lv.b (Lv.b (A 14))).c (codeE P cal (codeF P cal k) none 14 (cR (cR (cR code14))) (Lv.b (Lv.b (Lv.b (A 14)))) (doneK P results14) X0 (doneK P results14)))
noncomputable def K14_prrr (cal : Cal) (k : Nat) : KC (Value × Hp × Nat) := (cutK (Lv.b (Lv.b (Lv.b (A 14)))).c (codeE P cal (codeF P cal k) none 14 (cR (cR (cR (cR code14)))) (Lv.b (Lv.b (Lv.b (Lv.b (A 14))))) (doneK P results14) X0 (doneK P results14)))
noncomputable def K14_prrrr (cal : Cal) (k : Nat) : KC (Value × Hp × Nat) := (cutK (Lv.b (Lv.b (Lv.b (Lv.b (A 14))))).c (codeE P cal (codeF P cal k) none 14 (cR (cR (cR (cR (cR code14))))) (Lv.b (Lv.b (Lv.b (Lv.b (Lv.b (A 14)))))) (doneK P results14) X0 (doneK P results14)))
noncomputable def K14_prrrrr (cal : Cal) (k : Nat) : KC (Value × Hp × Nat) := (cutK (Lv.b (Lv.b (Lv.b (Lv.b (Lv.b (A 14)))))).c (codeE P cal (codeF P cal k) none 14 (cR (cR (cR (cR (cR (cR code14)))))) (Lv.b (Lv.b (Lv.b (Lv.b (Lv.b (Lv.b (A 14))))))) (doneK P results14) X0 (doneK P results14)))
noncomputable def K14_prrrrrr (cal : Cal) (k : Nat) : KC (Value × Hp × Nat) := (cutK (Lv.b (Lv.b (Lv.b (Lv.b (Lv.b (Lv.b (A 14))))))).c (codeE P cal (codeF P cal k) none 14 (cR (cR (cR (cR (cR (cR (cR code14))))))) (Lv.b (Lv.b (Lv.b (Lv.b (Lv.b (Lv.b (Lv.b (A 14)))))))) (doneK P results14) X0 (doneK P results14)))
noncomputable def B14_0 (cal : Cal) (k : Nat) (H : Hp) (n : Nat) : Res :=
callFK P cal 5 [] H n fun v14_2 H_3 n_4 =>
callFK P cal 9 [] H_3 n_4 fun v15_5 H_6 n_7 =>
bindO (sliceV P 22 v15_5 none (some (Go.Value.int Go.IntKind.i64 2))) fun v16_8 =>
callFK P cal 12 [v14_2, v16_8] H_6 n_7 fun v17_9 H_10 n_11 =>
bindO (tupV v17_9 0) fun v18_13 =>
bindO (tupV v17_9 1) fun v19_14 =>
callFK P cal 5 [] H_10 n_11 fun v21_17 H_18 n_19 =>
callFK P cal 6 [v21_17, (Go.Value.int Go.IntKind.i64 2)] H_18 n_19 fun v22_20 H_21 n_22 =>
bindO (tupV v22_20 0) fun v23_24 =>
bindO (tupV v22_20 1) fun v24_25 =>
callFK P cal 5 [] H_21 n_22 fun v26_28 H_29 n_30 =>
callFK P cal 28 [v26_28] H_29 n_30 fun v27_31 H_32 n_33 =>
bindO (tupV v27_31 0) fun v28_35 =>
bindO (tupV v27_31 1) fun v29_36 =>
callFK P cal 5 [] H_32 n_33 fun v31_39 H_40 n_41 =>
callFK P cal 9 [] H_40 n_41 fun v32_42 H_43 n_44 =>
callFK P cal 11 [v31_39, v32_42] H_43 n_44 fun v33_45 H_46 n_47 =>
bindO (tupV v33_45 0) fun v34_49 =>
bindO (tupV v33_45 1) fun v35_50 =>
bindO (tupV v33_45 2) fun v36_51 =>
callFK P cal 5 [] H_46 n_47 fun v38_55 H_56 n_57 =>
callFK P cal 4 [v38_55, (Go.Value.int Go.IntKind.i64 1), (Go.Value.int Go.IntKind.i64 2)] H_56 n_57 fun v39_58 H_59 n_60 =>
bindO (tupV v39_58 0) fun v40_62 =>
bindO (tupV v39_58 1) fun v41_63 =>
bindO (tupV v39_58 2) fun v42_64 =>
binK P Go.BinOp.eql 23 (Go.Operand.tmp 43) (Go.Operand.const (Go.Value.int Go.IntKind.i64 0)) v19_14 (Go.Value.int Go.IntKind.i64 0) fun v44_69 =>
guardK v44_69 true (fun k_71 =>
k_71 v18_13 H_59 n_60) H_59 n_60 fun v_72 H_73 n_74 =>
guardK v44_69 true (fun k_76 =>
rowK P 31 5 [(0, (Go.Value.int Go.IntKind.i64 0)), (1, (Go.Value.int Go.IntKind.i64 1)), (2, (Go.Value.int Go.IntKind.i64 2)), (3, (Go.Value.int Go.IntKind.i64 3)), (4, (Go.Value.int Go.IntKind.i64 4))] H_73 n_74 fun v47_80 H_81 n_82 =>
k_76 v47_80 H_81 n_82) H_73 n_74 fun v_77 H_78 n_79 =>
guardK v44_69 true (fun k_83 =>
rowK P 31 3 [(0, (Go.Value.int Go.IntKind.i64 2)), (1, (Go.Value.int Go.IntKind.i64 3)), (2, (Go.Value.int Go.IntKind.i64 4))] H_78 n_79 fun v48_87 H_88 n_89 =>
k_83 v48_87 H_88 n_89) H_78 n_79 fun v_84 H_85 n_86 =>
guardK v44_69 true (fun k_90 =>
rowK P 31 2 [(0, (Go.Value.int Go.IntKind.i64 3)), (1, (Go.Value.int Go.IntKind.i64 4))] H_85 n_86 fun v49_94 H_95 n_96 =>
k_90 v49_94 H_95 n_96) H_85 n_86 fun v_91 H_92 n_93 =>
guardK v44_69 true (fun k_97 =>
rowK P 22 3 [(0, v_77), (1, v_84), (2, v_91)] H_92 n_93 fun v50_101 H_102 n_103 =>
k_97 v50_101 H_102 n_103) H_92 n_93 fun v_98 H_99 n_100 =>
guardK v44_69 true (fun k_104 =>
callFK P cal 7 [v_72, v_98] H_99 n_100 fun v51_108 H_109 n_110 =>
k_104 v51_108 H_109 n_110) H_99 n_100 fun v_105 H_106 n_107 =>
bindO (pickV v44_69 v_105 (Go.Value.bool false)) fun v52_111 =>
guardK v52_111 true (fun k_113 =>
k_113 v24_25 H_106 n_107) H_106 n_107 fun v_114 H_115 n_116 =>
guardK v52_111 true (fun k_118 =>
binK P Go.BinOp.eql 23 (Go.Operand.tmp 54) (Go.Operand.const (Go.Value.int Go.IntKind.i64 0)) v_114 (Go.Value.int Go.IntKind.i64 0) fun v55_122 =>
k_118 v55_122 H_115 n_116) H_115 n_116 fun v_119 H_120 n_121 =>
bindO (pickV v52_111 v_119 (Go.Value.bool false)) fun v56_123 =>
guardK v56_123 true (fun k_125 =>
k_125 v23_24 H_120 n_121) H_120 n_121 fun v_126 H_127 n_128 =>
guardK v56_123 true (fun k_130 =>
callFK P cal 9 [] H_127 n_128 fun v59_134 H_135 n_136 =>
k_130 v59_134 H_135 n_136) H_127 n_128 fun v_131 H_132 n_133 =>
guardK v56_123 true (fun k_137 =>
callFK P cal 7 [v_126, v_131] H_132 n_133 fun v60_141 H_142 n_143 =>
k_137 v60_141 H_142 n_143) H_132 n_133 fun v_138 H_139 n_140 =>
bindO (pickV v56_123 v_138 (Go.Value.bool false)) fun v61_144 =>
guardK v61_144 true (fun k_146 =>
k_146 v29_36 H_139 n_140) H_139 n_140 fun v_147 H_148 n_149 =>
guardK v61_144 true (fun k_151 =>
binK P Go.BinOp.eql 23 (Go.Operand.tmp 63) (Go.Operand.const (Go.Value.int Go.IntKind.i64 0)) v_147 (Go.Value.int Go.IntKind.i64 0) fun v64_155 =>
k_151 v64_155 H_148 n_149) H_148 n_149 fun v_152 H_153 n_154 =>
bindO (pickV v61_144 v_152 (Go.Value.bool false)) fun v65_156 =>
guardK v65_156 true (fun k_158 =>
k_158 v28_35 H_153 n_154) H_153 n_154 fun v_159 H_160 n_161 =>
guardK v65_156 true (fun k_163 =>
binK P Go.BinOp.eql 3 (Go.Operand.tmp 67) (Go.Operand.const (Go.Value.int Go.IntKind.i64 2)) v_159 (Go.Value.int Go.IntKind.i64 2) fun v68_167 =>
k_163 v68_167 H_160 n_161) H_160 n_161 fun v_164 H_165 n_166 =>
bindO (pickV v65_156 v_164 (Go.Value.bool false)) fun v69_168 =>
guardK v69_168 true (fun k_170 =>
k_170 v36_51 H_165 n_166) H_165 n_166 fun v_171 H_172 n_173 =>
guardK v69_168 true (fun k_175 =>
binK P Go.BinOp.eql 23 (Go.Operand.tmp 71) (Go.Operand.const (Go.Value.int Go.IntKind.i64 0)) v_171 (Go.Value.int Go.IntKind.i64 0) fun v72_179 =>
k_175 v72_179 H_172 n_173) H_172 n_173 fun v_176 H_177 n_178 =>
bindO (pickV v69_168 v_176 (Go.Value.bool false)) fun v73_180 =>
guardK v73_180 true (fun k_182 =>
k_182 v34_49 H_177 n_178) H_177 n_178 fun v_183 H_184 n_185 =>
guardK v73_180 true (fun k_187 =>
binK P Go.BinOp.eql 3 (Go.Operand.tmp 75) (Go.Operand.const (Go.Value.int Go.IntKind.i64 20)) v_183 (Go.Value.int Go.IntKind.i64 20) fun v76_191 =>
k_187 v76_191 H_184 n_185) H_184 n_185 fun v_188 H_189 n_190 =>
bindO (pickV v73_180 v_188 (Go.Value.bool false)) fun v77_192 =>
guardK v77_192 true (fun k_194 =>
k_194 v35_50 H_189 n_190) H_189 n_190 fun v_195 H_196 n_197 =>
guardK v77_192 true (fun k_199 =>
rowK P 31 4 [(0, (Go.Value.int Go.IntKind.i64 4)), (1, (Go.Value.int Go.IntKind.i64 4)), (2, (Go.Value.int Go.IntKind.i64 4)), (3, (Go.Value.int Go.IntKind.i64 4))] H_196 n_197 fun v80_203 H_204 n_205 =>
k_199 v80_203 H_204 n_205) H_196 n_197 fun v_200 H_201 n_202 =>
guardK v77_192 true (fun k_206 =>
callFK P cal 19 [v_195, v_200] H_201 n_202 fun v81_210 H_211 n_212 =>
k_206 v81_210 H_211 n_212) H_201 n_202 fun v_207 H_208 n_209 =>
bindO (pickV v77_192 v_207 (Go.Value.bool false)) fun v82_213 =>
guardK v82_213 true (fun k_215 =>
k_215 v42_64 H_208 n_209) H_208 n_209 fun v_216 H_217 n_218 =>
guardK v82_213 true (fun k_220 =>
binK P Go.BinOp.eql 23 (Go.Operand.tmp 84) (Go.Operand.const (Go.Value.int Go.IntKind.i64 0)) v_216 (Go.Value.int Go.IntKind.i64 0) fun v85_224 =>
k_220 v85_224 H_217 n_218) H_217 n_218 fun v_221 H_222 n_223 =>
bindO (pickV v82_213 v_221 (Go.Value.bool false)) fun v86_225 =>
guardK v86_225 true (fun k_227 =>
k_227 v40_62 H_222 n_223) H_222 n_223 fun v_228 H_229 n_230 =>
guardK v86_225 true (fun k_232 =>
rowK P 31 1 [(0, (Go.Value.int Go.IntKind.i64 4))] H_229 n_230 fun v89_236 H_237 n_238 =>
k_232 v89_236 H_237 n_238) H_229 n_230 fun v_233 H_234 n_235 =>
guardK v86_225 true (fun k_239 =>
rowK P 22 2 [(0, v_233), (1, (Go.Value.slice none 0 0))] H_234 n_235 fun v90_243 H_244 n_245 =>
k_239 v90_243 H_244 n_245) H_234 n_235 fun v_240 H_241 n_242 =>
guardK v86_225 true (fun k_246 =>
callFK P cal 7 [v_228, v_240] H_241 n_242 fun v91_250 H_251 n_252 =>
k_246 v91_250 H_251 n_252) H_241 n_242 fun v_247 H_248 n_249 =>
bindO (pickV v86_225 v_247 (Go.Value.bool false)) fun v92_253 =>
guardK v92_253 true (fun k_255 =>
k_255 v41_63 H_248 n_249) H_248 n_249 fun v_256 H_257 n_258 =>
guardK v92_253 true (fun k_260 =>
binK P Go.BinOp.eql 3 (Go.Operand.tmp 94) (Go.Operand.const (Go.Value.int Go.IntKind.i64 9)) v_256 (Go.Value.int Go.IntKind.i64 9) fun v95_264 =>
k_260 v95_264 H_257 n_258) H_257 n_258 fun v_261 H_262 n_263 =>
bindO (pickV v92_253 v_261 (Go.Value.bool false)) fun v96_265 =>
some (v96_265, H_262, n_263)
noncomputable def C14_0 (cal : Cal) (k : Nat) (H : Hp) (n : Nat) : Res := B14_0 cal k  H n
theorem h14_0 (cal : Cal) (k : Nat) (H : Hp) (n : Nat) : bodyE P cal A (k + 1) 14 [] H n = C14_0 cal k  H n := by
  have h : bodyE P cal A (k + 1) 14 [] H n = B14_0 cal k  H n := by
    rw [body_eq (fn := Go.Proofs.Try.f14) (c := code14) (rs := results14) (by kernel_rfl) (by kernel_rfl) (by kernel_rfl) (by kernel_rfl)]
    kernel_rfl
  rw [h, C14_0]
noncomputable def code15 : Code := codeOf 15
noncomputable def results15 : List ResultVar := resOf 15
noncomputable def K15_p (cal : Cal) (k : Nat) : KC (Value × Hp × Nat) := (cutK (A 15).c (codeE P cal (codeF P cal k) none 15 (cR code15) (Lv.b (A 15)) (doneK P results15) X0 (doneK P results15)))
noncomputable def K15_pr (cal : Cal) (k : Nat) : KC (Value × Hp × Nat) := (cutK (Lv.b (A 15)).c (codeE P cal (codeF P cal k) none 15 (cR (cR code15)) (Lv.b (Lv.b (A 15))) (doneK P results15) X0 (doneK P results15)))
noncomputable def K15_prl (cal : Cal) (k : Nat) : KC (Value × Hp × Nat) := (cutK (Lv.a (Lv.b (A 15))).c (codeE P cal (codeF P cal k) none 15 (cR (cL (cR code15))) (Lv.b (Lv.a (Lv.b (A 15)))) (K15_pr cal k) X0 (doneK P results15)))
noncomputable def K15_prlr (cal : Cal) (k : Nat) : KC (Value × Hp × Nat) := (cutK (Lv.b (Lv.a (Lv.b (A 15)))).c (codeE P cal (codeF P cal k) none 15 (cR (cR (cL (cR code15)))) (Lv.b (Lv.b (Lv.a (Lv.b (A 15))))) (K15_pr cal k) X0 (doneK P results15)))
noncomputable def K15_prlrrl (cal : Cal) (k : Nat) : KC (Value × Hp × Nat) := (cutK (Lv.a (Lv.b (Lv.b (Lv.a (Lv.b (A 15)))))).c (codeE P cal (codeF P cal k) none 15 (cR (cL (cR (cR (cL (cR code15)))))) (Lv.b (Lv.a (Lv.b (Lv.b (Lv.a (Lv.b (A 15))))))) (K15_pr cal k) X0 (doneK P results15)))
noncomputable def K15_prr (cal : Cal) (k : Nat) : KC (Value × Hp × Nat) := (cutK (Lv.b (Lv.b (A 15))).c (codeE P cal (codeF P cal k) none 15 (cR (cR (cR code15))) (Lv.b (Lv.b (Lv.b (A 15)))) (doneK P results15) X0 (doneK P results15)))
noncomputable def K15_prrr (cal : Cal) (k : Nat) : KC (Value × Hp × Nat) := (cutK (Lv.b (Lv.b (Lv.b (A 15)))).c (codeE P cal (codeF P cal k) none 15 (cR (cR (cR (cR code15)))) (Lv.b (Lv.b (Lv.b (Lv.b (A 15))))) (doneK P results15) X0 (doneK P results15)))
noncomputable def K15_prrrl (cal : Cal) (k : Nat) : KC (Value × Hp × Nat) := (cutK (Lv.a (Lv.b (Lv.b (Lv.b (A 15))))).c (codeE P cal (codeF P cal k) none 15 (cR (cL (cR (cR (cR code15))))) (Lv.b (Lv.a (Lv.b (Lv.b (Lv.b (A 15)))))) (K15_prrr cal k) X0 (doneK P results15)))
noncomputable def K15_pxrrrlr (cal : Cal) (k : Nat) : XC (Value × Hp × Nat) := (upX 0 (K15_prrr cal k) X0)
noncomputable def K15_prrrlrl (cal : Cal) (k : Nat) (m1 : Nat) : KC (Value × Hp × Nat) := (fun T H n D => codeF P cal m1 (Lv.a (Lv.b (Lv.a (Lv.b (Lv.b (Lv.b (A 15))))))) none 15 (cL (cR (cL (cR (cR (cR code15)))))) (K15_prrr cal k) (K15_pxrrrlr cal k) (doneK P results15) (cutT (Lv.a (Lv.b (Lv.a (Lv.b (Lv.b (Lv.b (A 15))))))).c T) H n D)
noncomputable def K15_prrrlrll (cal : Cal) (k : Nat) (m1 : Nat) : KC (Value × Hp × Nat) := (cutK (Lv.a (Lv.a (Lv.b (Lv.a (Lv.b (Lv.b (Lv.b (A 15)))))))).c (codeE P cal (codeF P cal m1) none 15 (cR (cL (cL (cR (cL (cR (cR (cR code15)))))))) (Lv.b (Lv.a (Lv.a (Lv.b (Lv.a (Lv.b (Lv.b (Lv.b (A 15))))))))) (K15_prrrlrl cal k m1) (K15_pxrrrlr cal k) (doneK P results15)))
noncomputable def K15_prrrlrllr (cal : Cal) (k : Nat) (m1 : Nat) : KC (Value × Hp × Nat) := (cutK (Lv.b (Lv.a (Lv.a (Lv.b (Lv.a (Lv.b (Lv.b (Lv.b (A 15))))))))).c (codeE P cal (codeF P cal m1) none 15 (cR (cR (cL (cL (cR (cL (cR (cR (cR code15))))))))) (Lv.b (Lv.b (Lv.a (Lv.a (Lv.b (Lv.a (Lv.b (Lv.b (Lv.b (A 15)))))))))) (K15_prrrlrl cal k m1) (K15_pxrrrlr cal k) (doneK P results15)))
noncomputable def K15_prrrlrllrr (cal : Cal) (k : Nat) (m1 : Nat) : KC (Value × Hp × Nat) := (cutK (Lv.b (Lv.b (Lv.a (Lv.a (Lv.b (Lv.a (Lv.b (Lv.b (Lv.b (A 15)))))))))).c (codeE P cal (codeF P cal m1) none 15 (cR (cR (cR (cL (cL (cR (cL (cR (cR (cR code15)))))))))) (Lv.b (Lv.b (Lv.b (Lv.a (Lv.a (Lv.b (Lv.a (Lv.b (Lv.b (Lv.b (A 15))))))))))) (K15_prrrlrl cal k m1) (K15_pxrrrlr cal k) (doneK P results15)))
noncomputable def K15_pxrrrlrllrrl (cal : Cal) (k : Nat) (m1 : Nat) : XC (Value × Hp × Nat) := (upX 1 (K15_prrrlrllrr cal k m1) (K15_pxrrrlr cal k))
noncomputable def K15_prrrlrllrrll (cal : Cal) (k : Nat) (m1 : Nat) : KC (Value × Hp × Nat) := (cutK (Lv.a (Lv.a (Lv.b (Lv.b (Lv.a (Lv.a (Lv.b (Lv.a (Lv.b (Lv.b (Lv.b (A 15)))))))))))).c (codeE P cal (codeF P cal m1) none 15 (cR (cL (cL (cR (cR (cL (cL (cR (cL (cR (cR (cR code15)))))))))))) (Lv.b (Lv.a (Lv.a (Lv.b (Lv.b (Lv.a (Lv.a (Lv.b (Lv.a (Lv.b (Lv.b (Lv.b (A 15))))))))))))) (K15_prrrlrllrr cal k m1) (K15_pxrrrlrllrrl cal k m1) (doneK P results15)))
noncomputable def K15_prrrr (cal : Cal) (k : Nat) : KC (Value × Hp × Nat) := (cutK (Lv.b (Lv.b (Lv.b (Lv.b (A 15))))).c (codeE P cal (codeF P cal k) none 15 (cR (cR (cR (cR (cR code15))))) (Lv.b (Lv.b (Lv.b (Lv.b (Lv.b (A 15)))))) (doneK P results15) X0 (doneK P results15)))
noncomputable def K15_prrrrl (cal : Cal) (k : Nat) : KC (Value × Hp × Nat) := (cutK (Lv.a (Lv.b (Lv.b (Lv.b (Lv.b (A 15)))))).c (codeE P cal (codeF P cal k) none 15 (cR (cL (cR (cR (cR (cR code15)))))) (Lv.b (Lv.a (Lv.b (Lv.b (Lv.b (Lv.b (A 15))))))) (K15_prrrr cal k) X0 (doneK P results15)))
noncomputable def K15_pxrrrrlr (cal : Cal) (k : Nat) : XC (Value × Hp × Nat) := (upX 2 (K15_prrrr cal k) X0)
noncomputable def K15_prrrrlrl (cal : Cal) (k : Nat) (m1 : Nat) : KC (Value × Hp × Nat) := (fun T H n D => codeF P cal m1 (Lv.a (Lv.b (Lv.a (Lv.b (Lv.b (Lv.b (Lv.b (A 15)))))))) none 15 (cL (cR (cL (cR (cR (cR (cR code15))))))) (K15_prrrr cal k) (K15_pxrrrrlr cal k) (doneK P results15) (cutT (Lv.a (Lv.b (Lv.a (Lv.b (Lv.b (Lv.b (Lv.b (A 15)))))))).c T) H n D)
noncomputable def K15_prrrrlrll (cal : Cal) (k : Nat) (m1 : Nat) : KC (Value × Hp × Nat) := (cutK (Lv.a (Lv.a (Lv.b (Lv.a (Lv.b (Lv.b (Lv.b (Lv.b (A 15))))))))).c (codeE P cal (codeF P cal m1) none 15 (cR (cL (cL (cR (cL (cR (cR (cR (cR code15))))))))) (Lv.b (Lv.a (Lv.a (Lv.b (Lv.a (Lv.b (Lv.b (Lv.b (Lv.b (A 15)))))))))) (K15_prrrrlrl cal k m1) (K15_pxrrrrlr cal k) (doneK P results15)))
noncomputable def K15_prrrrlrllr (cal : Cal) (k : Nat) (m1 : Nat) : KC (Value × Hp × Nat) := (cutK (Lv.b (Lv.a (Lv.a (Lv.b (Lv.a (Lv.b (Lv.b (Lv.b (Lv.b (A 15)))))))))).c (codeE P cal (codeF P cal m1) none 15 (cR (cR (cL (cL (cR (cL (cR (cR (cR (cR code15)))))))))) (Lv.b (Lv.b (Lv.a (Lv.a (Lv.b (Lv.a (Lv.b (Lv.b (Lv.b (Lv.b (A 15))))))))))) (K15_prrrrlrl cal k m1) (K15_pxrrrrlr cal k) (doneK P results15)))
noncomputable def K15_prrrrlrllrr (cal : Cal) (k : Nat) (m1 : Nat) : KC (Value × Hp × Nat) := (cutK (Lv.b (Lv.b (Lv.a (Lv.a (Lv.b (Lv.a (Lv.b (Lv.b (Lv.b (Lv.b (A 15))))))))))).c (codeE P cal (codeF P cal m1) none 15 (cR (cR (cR (cL (cL (cR (cL (cR (cR (cR (cR code15))))))))))) (Lv.b (Lv.b (Lv.b (Lv.a (Lv.a (Lv.b (Lv.a (Lv.b (Lv.b (Lv.b (Lv.b (A 15)))))))))))) (K15_prrrrlrl cal k m1) (K15_pxrrrrlr cal k) (doneK P results15)))
noncomputable def K15_pxrrrrlrllrrl (cal : Cal) (k : Nat) (m1 : Nat) : XC (Value × Hp × Nat) := (upX 3 (K15_prrrrlrllrr cal k m1) (K15_pxrrrrlr cal k))
noncomputable def K15_prrrrlrllrrll (cal : Cal) (k : Nat) (m1 : Nat) : KC (Value × Hp × Nat) := (cutK (Lv.a (Lv.a (Lv.b (Lv.b (Lv.a (Lv.a (Lv.b (Lv.a (Lv.b (Lv.b (Lv.b (Lv.b (A 15))))))))))))).c (codeE P cal (codeF P cal m1) none 15 (cR (cL (cL (cR (cR (cL (cL (cR (cL (cR (cR (cR (cR code15))))))))))))) (Lv.b (Lv.a (Lv.a (Lv.b (Lv.b (Lv.a (Lv.a (Lv.b (Lv.a (Lv.b (Lv.b (Lv.b (Lv.b (A 15)))))))))))))) (K15_prrrrlrllrr cal k m1) (K15_pxrrrrlrllrrl cal k m1) (doneK P results15)))
noncomputable def K15_prrrrlrllrrllr (cal : Cal) (k : Nat) (m1 : Nat) : KC (Value × Hp × Nat) := (cutK (Lv.b (Lv.a (Lv.a (Lv.b (Lv.b (Lv.a (Lv.a (Lv.b (Lv.a (Lv.b (Lv.b (Lv.b (Lv.b (A 15)))))))))))))).c (codeE P cal (codeF P cal m1) none 15 (cR (cR (cL (cL (cR (cR (cL (cL (cR (cL (cR (cR (cR (cR code15)))))))))))))) (Lv.b (Lv.b (Lv.a (Lv.a (Lv.b (Lv.b (Lv.a (Lv.a (Lv.b (Lv.a (Lv.b (Lv.b (Lv.b (Lv.b (A 15))))))))))))))) (K15_prrrrlrllrr cal k m1) (K15_pxrrrrlrllrrl cal k m1) (doneK P results15)))
noncomputable def K15_prrrrr (cal : Cal) (k : Nat) : KC (Value × Hp × Nat) := (cutK (Lv.b (Lv.b (Lv.b (Lv.b (Lv.b (A 15)))))).c (codeE P cal (codeF P cal k) none 15 (cR (cR (cR (cR (cR (cR code15)))))) (Lv.b (Lv.b (Lv.b (Lv.b (Lv.b (Lv.b (A 15))))))) (doneK P results15) X0 (doneK P results15)))
noncomputable def E15_2 (cal : Cal) (k m1 : Nat) : KC (Value × Hp × Nat) := codeE P cal (codeF P cal m1) none 15 (cL (cL (cR (cL (cR (cR (cR (cR code15)))))))) (Lv.a (Lv.a (Lv.b (Lv.a (Lv.b (Lv.b (Lv.b (Lv.b (A 15))))))))) (K15_prrrrlrl cal k m1) (K15_pxrrrrlr cal k) (doneK P results15)
noncomputable def R15_2 (cal : Cal) (k m1 : Nat) : Value → Value → Value → Value → Hp → Nat → Res := fun u5 u40 u41 u42 H n => codeF P cal m1 (Lv.a (Lv.b (Lv.a (Lv.b (Lv.b (Lv.b (Lv.b (A 15)))))))) none 15 (cL (cR (cL (cR (cR (cR (cR code15))))))) (K15_prrrr cal k) (K15_pxrrrrlr cal k) (doneK P results15) (Tr.set (Tr.set (Tr.set (Tr.set Tr.nil 42 (some u42)) 41 (some u41)) 40 (some u40)) 5 (some u5)) H n []
noncomputable def E15_1 (cal : Cal) (k m1 : Nat) : KC (Value × Hp × Nat) := codeE P cal (codeF P cal m1) none 15 (cL (cL (cR (cL (cR (cR (cR code15))))))) (Lv.a (Lv.a (Lv.b (Lv.a (Lv.b (Lv.b (Lv.b (A 15)))))))) (K15_prrrlrl cal k m1) (K15_pxrrrlr cal k) (doneK P results15)
noncomputable def R15_1 (cal : Cal) (k m1 : Nat) : Value → Value → Value → Hp → Nat → Res := fun u5 u22 u23 H n => codeF P cal m1 (Lv.a (Lv.b (Lv.a (Lv.b (Lv.b (Lv.b (A 15))))))) none 15 (cL (cR (cL (cR (cR (cR code15)))))) (K15_prrr cal k) (K15_pxrrrlr cal k) (doneK P results15) (Tr.set (Tr.set (Tr.set Tr.nil 23 (some u23)) 22 (some u22)) 5 (some u5)) H n []
noncomputable def B15_2 (cal : Cal) (k m1 : Nat) (b2 : Value → Value → Value → Value → Hp → Nat → Res) (u5 u40 u41 u42 : Value) (H : Hp) (n : Nat) : Res :=
binK P Go.BinOp.lss 3 (Go.Operand.tmp 42) (Go.Operand.tmp 41) u42 u41 fun v43_60 =>
ifK v43_60 (
bindO (indexAddrV P 27 u40 u42) fun v44_61 =>
bindO (addrV v44_61) fun a_63 => bindO (loadV P H 65 a_63) fun v45_62 =>
allocK P 65 H n fun v8_64 H_65 n_66 =>
bindO (storeP P 65 v8_64 v45_62 H_65) fun H_68 =>
bindO (fieldAddrV P 65 v8_64 0) fun v47_70 =>
bindO (addrV v47_70) fun a_71 => bindO (loadV P H_68 3 a_71) fun v_72 =>
bindO (nilV u5) fun v49_73 =>
bindO (fieldAddrV P 53 v49_73 1) fun v50_74 =>
bindO (indexAddrV P 51 v50_74 v_72) fun v51_75 =>
bindO (addrV v51_75) fun a_76 => bindO (loadV P H_68 50 a_76) fun v_77 =>
bindO (fieldAddrV P 65 v8_64 1) fun v53_78 =>
bindO (addrV v53_78) fun a_79 => bindO (loadV P H_68 3 a_79) fun v_80 =>
bindO (rowOf P 31 1 [(0, v_80)]) fun q_83 => newK q_83.1 q_83.2 H_68 n_66 fun H_81 n_82 =>
bindO (nilV u5) fun v58_84 =>
bindO (fieldAddrV P 53 v58_84 1) fun v59_85 =>
effK P [(.l 50 a_76), (.l 3 a_71)] H_81 n_82 (fun H_86 n_87 k_88 =>
callFK P cal 29 [(.slice (some ⟨n_66, 0, none⟩) 1 1)] H_86 n_87 fun v56_92 H_93 n_94 =>
k_88 v56_92 H_93 n_94) fun v_89 H_90 n_91 =>
binK P Go.BinOp.or 50 (Go.Operand.tmp 52) (Go.Operand.tmp 56) v_77 v_89 fun v57_95 =>
bindO (indexAddrV P 51 v59_85 v_72) fun v60_96 =>
bindO (storeP P 50 v60_96 v57_95 H_90) fun H_98 =>
bindO (fieldAddrV P 65 v8_64 1) fun v62_100 =>
bindO (addrV v62_100) fun a_101 => bindO (loadV P H_98 3 a_101) fun v_102 =>
bindO (nilV u5) fun v64_103 =>
bindO (fieldAddrV P 53 v64_103 1) fun v65_104 =>
bindO (indexAddrV P 51 v65_104 v_102) fun v66_105 =>
bindO (addrV v66_105) fun a_106 => bindO (loadV P H_98 50 a_106) fun v_107 =>
bindO (fieldAddrV P 65 v8_64 0) fun v68_108 =>
bindO (addrV v68_108) fun a_109 => bindO (loadV P H_98 3 a_109) fun v_110 =>
bindO (rowOf P 31 1 [(0, v_110)]) fun q_113 => newK q_113.1 q_113.2 H_98 n_91 fun H_111 n_112 =>
bindO (nilV u5) fun v73_114 =>
bindO (fieldAddrV P 53 v73_114 1) fun v74_115 =>
effK P [(.l 50 a_106), (.l 3 a_101)] H_111 n_112 (fun H_116 n_117 k_118 =>
callFK P cal 29 [(.slice (some ⟨n_91, 0, none⟩) 1 1)] H_116 n_117 fun v71_122 H_123 n_124 =>
k_118 v71_122 H_123 n_124) fun v_119 H_120 n_121 =>
binK P Go.BinOp.or 50 (Go.Operand.tmp 67) (Go.Operand.tmp 71) v_107 v_119 fun v72_125 =>
bindO (indexAddrV P 51 v74_115 v_102) fun v75_126 =>
bindO (storeP P 50 v75_126 v72_125 H_120) fun H_128 =>
binK P Go.BinOp.add 3 (Go.Operand.tmp 42) (Go.Operand.const (Go.Value.int Go.IntKind.i64 1)) u42 (Go.Value.int Go.IntKind.i64 1) fun v76_129 =>
b2 u5 u40 u41 v76_129 H_128 n_121) (
some ((Value.tuple ⟨[u5, (Go.Value.int Go.IntKind.i64 0)]⟩), H, n))
noncomputable def C15_2 (cal : Cal) (k m1 : Nat) (b2 : Value → Value → Value → Value → Hp → Nat → Res) (u5 u40 u41 u42 : Value) (H : Hp) (n : Nat) : Res := B15_2 cal k m1 b2 u5 u40 u41 u42 H n
noncomputable def S15_2 (cal : Cal) (k : Nat) : Nat → Value → Value → Value → Value → Hp → Nat → Res := fun m => Nat.rec (motive := fun _ => Value → Value → Value → Value → Hp → Nat → Res) (C15_2 cal k 0 (fun _ _ _ _ _ _ => none)) (fun m ih => C15_2 cal k (m + 1) ih) m
theorem h15_2 (cal : Cal) (k m1 : Nat) (u5 u40 u41 u42 : Value) (H : Hp) (n : Nat) : labK (E15_2 cal k m1) (Tr.set (Tr.set (Tr.set (Tr.set Tr.nil 42 (some u42)) 41 (some u41)) 40 (some u40)) 5 (some u5)) H n [] = C15_2 cal k m1 (R15_2 cal k m1) u5 u40 u41 u42 H n := by
  have h : labK (E15_2 cal k m1) (Tr.set (Tr.set (Tr.set (Tr.set Tr.nil 42 (some u42)) 41 (some u41)) 40 (some u40)) 5 (some u5)) H n [] = B15_2 cal k m1 (R15_2 cal k m1) u5 u40 u41 u42 H n := by kernel_rfl
  rw [h, C15_2]
theorem q15_2 (cal : Cal) (k : Nat) : ∀ (m : Nat) (u5 u40 u41 u42 : Value) (H : Hp) (n : Nat), labK (E15_2 cal k m) (Tr.set (Tr.set (Tr.set (Tr.set Tr.nil 42 (some u42)) 41 (some u41)) 40 (some u40)) 5 (some u5)) H n [] = S15_2 cal k m u5 u40 u41 u42 H n
  | 0, u5, u40, u41, u42, H, n => by
    rw [h15_2]
    have e : R15_2 cal k 0 = fun _ _ _ _ _ _ => none := by funext u5 u40 u41 u42 H n; kernel_rfl
    rw [e]; rfl
  | m + 1, u5, u40, u41, u42, H, n => by
    rw [h15_2]
    have e : R15_2 cal k (m + 1) = S15_2 cal k m := by
      funext u5 u40 u41 u42 H n
      have e : R15_2 cal k (m + 1) u5 u40 u41 u42 H n = labK (E15_2 cal k m) (Tr.set (Tr.set (Tr.set (Tr.set Tr.nil 42 (some u42)) 41 (some u41)) 40 (some u40)) 5 (some u5)) H n [] := by kernel_rfl
      rw [e]; exact q15_2 ..
    rw [e]; rfl
noncomputable def B15_1 (cal : Cal) (k m1 : Nat) (j2 : Value → Value → Value → Value → Hp → Nat → Res) (b1 : Value → Value → Value → Hp → Nat → Res) (u5 u22 u23 : Value) (H : Hp) (n : Nat) : Res :=
binK P Go.BinOp.lss 3 (Go.Operand.tmp 23) (Go.Operand.tmp 22) u23 u22 fun v24_32 =>
ifK v24_32 (
bindO (rowOf P 31 1 [(0, u23)]) fun q_40 => newK q_40.1 q_40.2 H n fun H_38 n_39 =>
bindO (nilV u5) fun v31_41 =>
bindO (fieldAddrV P 53 v31_41 1) fun v32_42 =>
callFK P cal 29 [(.slice (some ⟨n, 0, none⟩) 1 1)] H_38 n_39 fun v30_43 H_44 n_45 =>
bindO (indexAddrV P 51 v32_42 u23) fun v33_46 =>
bindO (storeP P 50 v33_46 v30_43 H_44) fun H_48 =>
binK P Go.BinOp.add 3 (Go.Operand.tmp 23) (Go.Operand.const (Go.Value.int Go.IntKind.i64 1)) u23 (Go.Value.int Go.IntKind.i64 1) fun v34_49 =>
b1 u5 u22 v34_49 H_48 n_45) (
bindO (nilV u5) fun v36_52 =>
bindO (fieldAddrV P 53 v36_52 0) fun v37_53 =>
bindO (fieldAddrV P 33 v37_53 0) fun v38_54 =>
bindO (fieldAddrV P 30 v38_54 1) fun v39_55 =>
bindO (addrV v39_55) fun a_57 => bindO (loadV P H 27 a_57) fun v40_56 =>
bindO (lenV P 27 v40_56) fun v41_58 =>
j2 u5 v40_56 v41_58 (Go.Value.int Go.IntKind.i64 0) H n)
noncomputable def C15_1 (cal : Cal) (k m1 : Nat) (b1 : Value → Value → Value → Hp → Nat → Res) (u5 u22 u23 : Value) (H : Hp) (n : Nat) : Res := B15_1 cal k m1 (S15_2 cal k k) b1 u5 u22 u23 H n
noncomputable def S15_1 (cal : Cal) (k : Nat) : Nat → Value → Value → Value → Hp → Nat → Res := fun m => Nat.rec (motive := fun _ => Value → Value → Value → Hp → Nat → Res) (C15_1 cal k 0 (fun _ _ _ _ _ => none)) (fun m ih => C15_1 cal k (m + 1) ih) m
theorem h15_1 (cal : Cal) (k m1 : Nat) (u5 u22 u23 : Value) (H : Hp) (n : Nat) : labK (E15_1 cal k m1) (Tr.set (Tr.set (Tr.set Tr.nil 23 (some u23)) 22 (some u22)) 5 (some u5)) H n [] = C15_1 cal k m1 (R15_1 cal k m1) u5 u22 u23 H n := by
  have h : labK (E15_1 cal k m1) (Tr.set (Tr.set (Tr.set Tr.nil 23 (some u23)) 22 (some u22)) 5 (some u5)) H n [] = B15_1 cal k m1 (fun u5 u40 u41 u42 H n => labK (E15_2 cal k k) (Tr.set (Tr.set (Tr.set (Tr.set Tr.nil 42 (some u42)) 41 (some u41)) 40 (some u40)) 5 (some u5)) H n []) (R15_1 cal k m1) u5 u22 u23 H n := by kernel_rfl
  rw [h, C15_1]
  have e2 : (fun u5 u40 u41 u42 H n => labK (E15_2 cal k k) (Tr.set (Tr.set (Tr.set (Tr.set Tr.nil 42 (some u42)) 41 (some u41)) 40 (some u40)) 5 (some u5)) H n []) = (S15_2 cal k k) := by funext u5 u40 u41 u42 H n; exact q15_2 ..
  rw [e2]
theorem q15_1 (cal : Cal) (k : Nat) : ∀ (m : Nat) (u5 u22 u23 : Value) (H : Hp) (n : Nat), labK (E15_1 cal k m) (Tr.set (Tr.set (Tr.set Tr.nil 23 (some u23)) 22 (some u22)) 5 (some u5)) H n [] = S15_1 cal k m u5 u22 u23 H n
  | 0, u5, u22, u23, H, n => by
    rw [h15_1]
    have e : R15_1 cal k 0 = fun _ _ _ _ _ => none := by funext u5 u22 u23 H n; kernel_rfl
    rw [e]; rfl
  | m + 1, u5, u22, u23, H, n => by
    rw [h15_1]
    have e : R15_1 cal k (m + 1) = S15_1 cal k m := by
      funext u5 u22 u23 H n
      have e : R15_1 cal k (m + 1) u5 u22 u23 H n = labK (E15_1 cal k m) (Tr.set (Tr.set (Tr.set Tr.nil 23 (some u23)) 22 (some u22)) 5 (some u5)) H n [] := by kernel_rfl
      rw [e]; exact q15_1 ..
    rw [e]; rfl
noncomputable def B15_0 (cal : Cal) (k : Nat) (j1 : Value → Value → Value → Hp → Nat → Res) (v0 : Value) (H : Hp) (n : Nat) : Res :=
boxK 33 v0 H n fun v1_1 H_2 n_3 =>
bindO (addrV v1_1) fun a_7 => bindO (loadV P H_2 33 a_7) fun v9_6 =>
callFK P cal 27 [v9_6] H_2 n_3 fun v10_8 H_9 n_10 =>
binK P Go.BinOp.neq 23 (Go.Operand.tmp 11) (Go.Operand.const (Go.Value.int Go.IntKind.i64 0)) v10_8 (Go.Value.int Go.IntKind.i64 0) fun v12_13 =>
ifK v12_13 (
some ((Value.tuple ⟨[(Go.Value.pointer none), v10_8]⟩), H_9, n_10)) (
bindO (addrV v1_1) fun a_18 => bindO (loadV P H_9 33 a_18) fun v14_17 =>
bindO (buildP P 53 [(0, v14_17)]) fun v15_19 =>
boxK 53 v15_19 H_9 n_10 fun v16_20 H_21 n_22 =>
bindO (nilV v16_20) fun v18_25 =>
bindO (fieldAddrV P 53 v18_25 0) fun v19_26 =>
bindO (fieldAddrV P 33 v19_26 2) fun v20_27 =>
bindO (addrV v20_27) fun a_29 => bindO (loadV P H_21 31 a_29) fun v21_28 =>
bindO (lenV P 31 v21_28) fun v22_30 =>
j1 v16_20 v22_30 (Go.Value.int Go.IntKind.i64 0) H_21 n_22)
noncomputable def C15_0 (cal : Cal) (k : Nat) (v0 : Value) (H : Hp) (n : Nat) : Res := B15_0 cal k (S15_1 cal k k) v0 H n
theorem h15_0 (cal : Cal) (k : Nat) (v0 : Value) (H : Hp) (n : Nat) : bodyE P cal A (k + 1) 15 [v0] H n = C15_0 cal k v0 H n := by
  have h : bodyE P cal A (k + 1) 15 [v0] H n = B15_0 cal k (fun u5 u22 u23 H n => labK (E15_1 cal k k) (Tr.set (Tr.set (Tr.set Tr.nil 23 (some u23)) 22 (some u22)) 5 (some u5)) H n []) v0 H n := by
    rw [body_eq (fn := Go.Proofs.Try.f15) (c := code15) (rs := results15) (by kernel_rfl) (by kernel_rfl) (by kernel_rfl) (by kernel_rfl)]
    kernel_rfl
  rw [h, C15_0]
  have e1 : (fun u5 u22 u23 H n => labK (E15_1 cal k k) (Tr.set (Tr.set (Tr.set Tr.nil 23 (some u23)) 22 (some u22)) 5 (some u5)) H n []) = (S15_1 cal k k) := by funext u5 u22 u23 H n; exact q15_1 ..
  rw [e1]
noncomputable def code16 : Code := codeOf 16
noncomputable def results16 : List ResultVar := resOf 16
noncomputable def K16_p (cal : Cal) (k : Nat) : KC (Value × Hp × Nat) := (cutK (A 16).c (codeE P cal (codeF P cal k) none 16 (cR code16) (Lv.b (A 16)) (doneK P results16) X0 (doneK P results16)))
noncomputable def K16_pr (cal : Cal) (k : Nat) : KC (Value × Hp × Nat) := (cutK (Lv.b (A 16)).c (codeE P cal (codeF P cal k) none 16 (cR (cR code16)) (Lv.b (Lv.b (A 16))) (doneK P results16) X0 (doneK P results16)))
noncomputable def K16_prr (cal : Cal) (k : Nat) : KC (Value × Hp × Nat) := (cutK (Lv.b (Lv.b (A 16))).c (codeE P cal (codeF P cal k) none 16 (cR (cR (cR code16))) (Lv.b (Lv.b (Lv.b (A 16)))) (doneK P results16) X0 (doneK P results16)))
noncomputable def K16_prrr (cal : Cal) (k : Nat) : KC (Value × Hp × Nat) := (cutK (Lv.b (Lv.b (Lv.b (A 16)))).c (codeE P cal (codeF P cal k) none 16 (cR (cR (cR (cR code16)))) (Lv.b (Lv.b (Lv.b (Lv.b (A 16))))) (doneK P results16) X0 (doneK P results16)))
noncomputable def K16_prrrr (cal : Cal) (k : Nat) : KC (Value × Hp × Nat) := (cutK (Lv.b (Lv.b (Lv.b (Lv.b (A 16))))).c (codeE P cal (codeF P cal k) none 16 (cR (cR (cR (cR (cR code16))))) (Lv.b (Lv.b (Lv.b (Lv.b (Lv.b (A 16)))))) (doneK P results16) X0 (doneK P results16)))
noncomputable def K16_prrrrr (cal : Cal) (k : Nat) : KC (Value × Hp × Nat) := (cutK (Lv.b (Lv.b (Lv.b (Lv.b (Lv.b (A 16)))))).c (codeE P cal (codeF P cal k) none 16 (cR (cR (cR (cR (cR (cR code16)))))) (Lv.b (Lv.b (Lv.b (Lv.b (Lv.b (Lv.b (A 16))))))) (doneK P results16) X0 (doneK P results16)))
noncomputable def K16_prrrrrr (cal : Cal) (k : Nat) : KC (Value × Hp × Nat) := (cutK (Lv.b (Lv.b (Lv.b (Lv.b (Lv.b (Lv.b (A 16))))))).c (codeE P cal (codeF P cal k) none 16 (cR (cR (cR (cR (cR (cR (cR code16))))))) (Lv.b (Lv.b (Lv.b (Lv.b (Lv.b (Lv.b (Lv.b (A 16)))))))) (doneK P results16) X0 (doneK P results16)))
noncomputable def K16_prrrrrrr (cal : Cal) (k : Nat) : KC (Value × Hp × Nat) := (cutK (Lv.b (Lv.b (Lv.b (Lv.b (Lv.b (Lv.b (Lv.b (A 16)))))))).c (codeE P cal (codeF P cal k) none 16 (cR (cR (cR (cR (cR (cR (cR (cR code16)))))))) (Lv.b (Lv.b (Lv.b (Lv.b (Lv.b (Lv.b (Lv.b (Lv.b (A 16))))))))) (doneK P results16) X0 (doneK P results16)))
noncomputable def B16_0 (cal : Cal) (k : Nat) (v0 v1 v2 : Value) (H : Hp) (n : Nat) : Res :=
boxK 46 v0 H n fun v3_1 H_2 n_3 =>
boxK 3 v2 H_2 n_3 fun v5_4 H_5 n_6 =>
allocK P 54 H_5 n_6 fun v8_9 H_10 n_11 =>
bindO (addrV v5_4) fun a_13 => bindO (loadV P H_10 3 a_13) fun v12_12 =>
binK P Go.BinOp.mul 3 (Go.Operand.tmp 12) (Go.Operand.const (Go.Value.int Go.IntKind.i64 100)) v12_12 (Go.Value.int Go.IntKind.i64 100) fun v13_14 =>
binK P Go.BinOp.add 3 (Go.Operand.tmp 13) (Go.Operand.const (Go.Value.int Go.IntKind.i64 1)) v13_14 (Go.Value.int Go.IntKind.i64 1) fun v14_15 =>
allocK P 3 H_10 n_11 fun v9_16 H_17 n_18 =>
bindO (storeP P 3 v9_16 v14_15 H_17) fun H_20 =>
bindO (addrV v3_1) fun a_22 => bindO (loadV P H_20 46 a_22) fun v15_21 =>
callFK P cal 30 [v15_21, v1] H_20 n_18 fun v17_24 H_25 n_26 =>
allocK P 54 H_25 n_26 fun v10_27 H_28 n_29 =>
bindO (storeP P 54 v10_27 v17_24 H_28) fun H_31 =>
allocK P 82 H_31 n_29 fun v11_32 H_33 n_34 =>
bindO (storeP P 82 v11_32 (Value.func (Go.Fn.func 31) ⟨[]⟩ ⟨[v5_4, v3_1, v9_16, v8_9, v10_27, v11_32]⟩) H_33) fun H_37 =>
bindO (addrV v11_32) fun a_39 => bindO (loadV P H_37 82 a_39) fun v19_38 =>
callVK P cal v19_38 [(Go.Value.slice none 0 0)] H_37 n_34 fun v20_40 H_41 n_42 =>
bindO (addrV v8_9) fun a_43 => bindO (loadV P H_41 54 a_43) fun v_44 =>
bindO (addrV v9_16) fun a_45 => bindO (loadV P H_41 3 a_45) fun v_46 =>
some ((Value.tuple ⟨[v_44, v_46]⟩), H_41, n_42)
noncomputable def C16_0 (cal : Cal) (k : Nat) (v0 v1 v2 : Value) (H : Hp) (n : Nat) : Res := B16_0 cal k v0 v1 v2 H n
theorem h16_0 (cal : Cal) (k : Nat) (v0 v1 v2 : Value) (H : Hp) (n : Nat) : bodyE P cal A (k + 1) 16 [v0, v1, v2] H n = C16_0 cal k v0 v1 v2 H n := by
  have h : bodyE P cal A (k + 1) 16 [v0, v1, v2] H n = B16_0 cal k v0 v1 v2 H n := by
    rw [body_eq (fn := Go.Proofs.Try.f16) (c := code16) (rs := results16) (by kernel_rfl) (by kernel_rfl) (by kernel_rfl) (by kernel_rfl)]
    kernel_rfl
  rw [h, C16_0]
noncomputable def code17 : Code := codeOf 17
noncomputable def results17 : List ResultVar := resOf 17
noncomputable def K17_p (cal : Cal) (k : Nat) : KC (Value × Hp × Nat) := (cutK (A 17).c (codeE P cal (codeF P cal k) none 17 (cR code17) (Lv.b (A 17)) (doneK P results17) X0 (doneK P results17)))
noncomputable def K17_pr (cal : Cal) (k : Nat) : KC (Value × Hp × Nat) := (cutK (Lv.b (A 17)).c (codeE P cal (codeF P cal k) none 17 (cR (cR code17)) (Lv.b (Lv.b (A 17))) (doneK P results17) X0 (doneK P results17)))
noncomputable def K17_prr (cal : Cal) (k : Nat) : KC (Value × Hp × Nat) := (cutK (Lv.b (Lv.b (A 17))).c (codeE P cal (codeF P cal k) none 17 (cR (cR (cR code17))) (Lv.b (Lv.b (Lv.b (A 17)))) (doneK P results17) X0 (doneK P results17)))
noncomputable def K17_prrl (cal : Cal) (k : Nat) : KC (Value × Hp × Nat) := (cutK (Lv.a (Lv.b (Lv.b (A 17)))).c (codeE P cal (codeF P cal k) none 17 (cR (cL (cR (cR code17)))) (Lv.b (Lv.a (Lv.b (Lv.b (A 17))))) (K17_prr cal k) X0 (doneK P results17)))
noncomputable def K17_pxrrlr (cal : Cal) (k : Nat) : XC (Value × Hp × Nat) := (upX 0 (K17_prr cal k) X0)
noncomputable def K17_prrlrl (cal : Cal) (k : Nat) (m1 : Nat) : KC (Value × Hp × Nat) := (fun T H n D => codeF P cal m1 (Lv.a (Lv.b (Lv.a (Lv.b (Lv.b (A 17)))))) none 17 (cL (cR (cL (cR (cR code17))))) (K17_prr cal k) (K17_pxrrlr cal k) (doneK P results17) (cutT (Lv.a (Lv.b (Lv.a (Lv.b (Lv.b (A 17)))))).c T) H n D)
noncomputable def K17_prrlrll (cal : Cal) (k : Nat) (m1 : Nat) : KC (Value × Hp × Nat) := (cutK (Lv.a (Lv.a (Lv.b (Lv.a (Lv.b (Lv.b (A 17))))))).c (codeE P cal (codeF P cal m1) none 17 (cR (cL (cL (cR (cL (cR (cR code17))))))) (Lv.b (Lv.a (Lv.a (Lv.b (Lv.a (Lv.b (Lv.b (A 17)))))))) (K17_prrlrl cal k m1) (K17_pxrrlr cal k) (doneK P results17)))
noncomputable def K17_prrlrllr (cal : Cal) (k : Nat) (m1 : Nat) : KC (Value × Hp × Nat) := (cutK (Lv.b (Lv.a (Lv.a (Lv.b (Lv.a (Lv.b (Lv.b (A 17)))))))).c (codeE P cal (codeF P cal m1) none 17 (cR (cR (cL (cL (cR (cL (cR (cR code17)))))))) (Lv.b (Lv.b (Lv.a (Lv.a (Lv.b (Lv.a (Lv.b (Lv.b (A 17))))))))) (K17_prrlrl cal k m1) (K17_pxrrlr cal k) (doneK P results17)))
noncomputable def K17_prrlrllrr (cal : Cal) (k : Nat) (m1 : Nat) : KC (Value × Hp × Nat) := (cutK (Lv.b (Lv.b (Lv.a (Lv.a (Lv.b (Lv.a (Lv.b (Lv.b (A 17))))))))).c (codeE P cal (codeF P cal m1) none 17 (cR (cR (cR (cL (cL (cR (cL (cR (cR code17))))))))) (Lv.b (Lv.b (Lv.b (Lv.a (Lv.a (Lv.b (Lv.a (Lv.b (Lv.b (A 17)))))))))) (K17_prrlrl cal k m1) (K17_pxrrlr cal k) (doneK P results17)))
noncomputable def K17_pxrrlrllrrl (cal : Cal) (k : Nat) (m1 : Nat) : XC (Value × Hp × Nat) := (upX 1 (K17_prrlrllrr cal k m1) (K17_pxrrlr cal k))
noncomputable def K17_prrlrllrrll (cal : Cal) (k : Nat) (m1 : Nat) : KC (Value × Hp × Nat) := (cutK (Lv.a (Lv.a (Lv.b (Lv.b (Lv.a (Lv.a (Lv.b (Lv.a (Lv.b (Lv.b (A 17))))))))))).c (codeE P cal (codeF P cal m1) none 17 (cR (cL (cL (cR (cR (cL (cL (cR (cL (cR (cR code17))))))))))) (Lv.b (Lv.a (Lv.a (Lv.b (Lv.b (Lv.a (Lv.a (Lv.b (Lv.a (Lv.b (Lv.b (A 17)))))))))))) (K17_prrlrllrr cal k m1) (K17_pxrrlrllrrl cal k m1) (doneK P results17)))
noncomputable def K17_prrr (cal : Cal) (k : Nat) : KC (Value × Hp × Nat) := (cutK (Lv.b (Lv.b (Lv.b (A 17)))).c (codeE P cal (codeF P cal k) none 17 (cR (cR (cR (cR code17)))) (Lv.b (Lv.b (Lv.b (Lv.b (A 17))))) (doneK P results17) X0 (doneK P results17)))
noncomputable def E17_1 (cal : Cal) (k m1 : Nat) : KC (Value × Hp × Nat) := codeE P cal (codeF P cal m1) none 17 (cL (cL (cR (cL (cR (cR code17)))))) (Lv.a (Lv.a (Lv.b (Lv.a (Lv.b (Lv.b (A 17))))))) (K17_prrlrl cal k m1) (K17_pxrrlr cal k) (doneK P results17)
noncomputable def R17_1 (cal : Cal) (k m1 : Nat) : Value → Value → Value → Value → Hp → Nat → Res := fun u3 u6 u7 u8 H n => codeF P cal m1 (Lv.a (Lv.b (Lv.a (Lv.b (Lv.b (A 17)))))) none 17 (cL (cR (cL (cR (cR code17))))) (K17_prr cal k) (K17_pxrrlr cal k) (doneK P results17) (Tr.set (Tr.set (Tr.set (Tr.set Tr.nil 8 (some u8)) 7 (some u7)) 6 (some u6)) 3 (some u3)) H n []
noncomputable def B17_1 (cal : Cal) (k m1 : Nat) (b1 : Value → Value → Value → Value → Hp → Nat → Res) (u3 u6 u7 u8 : Value) (H : Hp) (n : Nat) : Res :=
binK P Go.BinOp.lss 3 (Go.Operand.tmp 8) (Go.Operand.tmp 7) u8 u7 fun v9_6 =>
ifK v9_6 (
bindO (indexAddrV P 54 u6 u8) fun v10_7 =>
bindO (addrV v10_7) fun a_9 => bindO (loadV P H 50 a_9) fun v11_8 =>
callFK P cal 33 [v11_8] H n fun v14_13 H_14 n_15 =>
rowK P 22 1 [(0, v14_13)] H_14 n_15 fun v15_16 H_17 n_18 =>
stK (appendV P (bare H_17 n_18) 22 22 u3 v15_16) fun v16_19 H_20 n_21 =>
binK P Go.BinOp.add 3 (Go.Operand.tmp 8) (Go.Operand.const (Go.Value.int Go.IntKind.i64 1)) u8 (Go.Value.int Go.IntKind.i64 1) fun v17_23 =>
b1 v16_19 u6 u7 v17_23 H_20 n_21) (
some (u3, H, n))
noncomputable def C17_1 (cal : Cal) (k m1 : Nat) (b1 : Value → Value → Value → Value → Hp → Nat → Res) (u3 u6 u7 u8 : Value) (H : Hp) (n : Nat) : Res := B17_1 cal k m1 b1 u3 u6 u7 u8 H n
noncomputable def S17_1 (cal : Cal) (k : Nat) : Nat → Value → Value → Value → Value → Hp → Nat → Res := fun m => Nat.rec (motive := fun _ => Value → Value → Value → Value → Hp → Nat → Res) (C17_1 cal k 0 (fun _ _ _ _ _ _ => none)) (fun m ih => C17_1 cal k (m + 1) ih) m
theorem h17_1 (cal : Cal) (k m1 : Nat) (u3 u6 u7 u8 : Value) (H : Hp) (n : Nat) : labK (E17_1 cal k m1) (Tr.set (Tr.set (Tr.set (Tr.set Tr.nil 8 (some u8)) 7 (some u7)) 6 (some u6)) 3 (some u3)) H n [] = C17_1 cal k m1 (R17_1 cal k m1) u3 u6 u7 u8 H n := by
  have h : labK (E17_1 cal k m1) (Tr.set (Tr.set (Tr.set (Tr.set Tr.nil 8 (some u8)) 7 (some u7)) 6 (some u6)) 3 (some u3)) H n [] = B17_1 cal k m1 (R17_1 cal k m1) u3 u6 u7 u8 H n := by kernel_rfl
  rw [h, C17_1]
theorem q17_1 (cal : Cal) (k : Nat) : ∀ (m : Nat) (u3 u6 u7 u8 : Value) (H : Hp) (n : Nat), labK (E17_1 cal k m) (Tr.set (Tr.set (Tr.set (Tr.set Tr.nil 8 (some u8)) 7 (some u7)) 6 (some u6)) 3 (some u3)) H n [] = S17_1 cal k m u3 u6 u7 u8 H n
  | 0, u3, u6, u7, u8, H, n => by
    rw [h17_1]
    have e : R17_1 cal k 0 = fun _ _ _ _ _ _ => none := by funext u3 u6 u7 u8 H n; kernel_rfl
    rw [e]; rfl
  | m + 1, u3, u6, u7, u8, H, n => by
    rw [h17_1]
    have e : R17_1 cal k (m + 1) = S17_1 cal k m := by
      funext u3 u6 u7 u8 H n
      have e : R17_1 cal k (m + 1) u3 u6 u7 u8 H n = labK (E17_1 cal k m) (Tr.set (Tr.set (Tr.set (Tr.set Tr.nil 8 (some u8)) 7 (some u7)) 6 (some u6)) 3 (some u3)) H n [] := by kernel_rfl
      rw [e]; exact q17_1 ..
    rw [e]; rfl
noncomputable def B17_0 (cal : Cal) (k : Nat) (j1 : Value → Value → Value → Value → Hp → Nat → Res) (v0 : Value) (H : Hp) (n : Nat) : Res :=
bindO (lenV P 54 v0) fun v7_4 =>
j1 (Go.Value.slice none 0 0) v0 v7_4 (Go.Value.int Go.IntKind.i64 0) H n
noncomputable def C17_0 (cal : Cal) (k : Nat) (v0 : Value) (H : Hp) (n : Nat) : Res := B17_0 cal k (S17_1 cal k k) v0 H n
theorem h17_0 (cal : Cal) (k : Nat) (v0 : Value) (H : Hp) (n : Nat) : bodyE P cal A (k + 1) 17 [v0] H n = C17_0 cal k v0 H n := by
  have h : bodyE P cal A (k + 1) 17 [v0] H n = B17_0 cal k (fun u3 u6 u7 u8 H n => labK (E17_1 cal k k) (Tr.set (Tr.set (Tr.set (Tr.set Tr.nil 8 (some u8)) 7 (some u7)) 6 (some u6)) 3 (some u3)) H n []) v0 H n := by
    rw [body_eq (fn := Go.Proofs.Try.f17) (c := code17) (rs := results17) (by kernel_rfl) (by kernel_rfl) (by kernel_rfl) (by kernel_rfl)]
    kernel_rfl
  rw [h, C17_0]
  have e1 : (fun u3 u6 u7 u8 H n => labK (E17_1 cal k k) (Tr.set (Tr.set (Tr.set (Tr.set Tr.nil 8 (some u8)) 7 (some u7)) 6 (some u6)) 3 (some u3)) H n []) = (S17_1 cal k k) := by funext u3 u6 u7 u8 H n; exact q17_1 ..
  rw [e1]
end Go.Proofs.Ytakjjillnllocab.P
