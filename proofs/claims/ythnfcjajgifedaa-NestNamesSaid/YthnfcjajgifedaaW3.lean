/- The texts of functions, each with the proof that the evaluator says the same. -/
import Derived.Test.YthnfcjajgifedaaW1
open Go Go.Ev
set_option maxRecDepth 1000000
set_option linter.unusedVariables false
noncomputable section
namespace Go.Proofs.Ythnfcjajgifedaa.W
noncomputable def code37 : Code := codeOf 37
noncomputable def results37 : List ResultVar := resOf 37
noncomputable def K37_p (cal : Cal) (k : Nat) : KC (Value × Hp × Nat) := (cutK (A 37).c (codeE P cal (codeF P cal k) none 37 (cR code37) (Lv.b (A 37)) (doneK P results37) X0 (doneK P results37)))
noncomputable def K37_pr (cal : Cal) (k : Nat) : KC (Value × Hp × Nat) := (cutK (Lv.b (A 37)).c (codeE P cal (codeF P cal k) none 37 (cR (cR code37)) (Lv.b (Lv.b (A 37))) (doneK P results37) X0 (doneK P results37)))
noncomputable def K37_prr (cal : Cal) (k : Nat) : KC (Value × Hp × Nat) := (cutK (Lv.b (Lv.b (A 37))).c (codeE P cal (codeF P cal k) none 37 (cR (cR (cR code37))) (Lv.b (Lv.b (Lv.b (A 37)))) (doneK P results37) X0 (doneK P results37)))
noncomputable def K37_prrl (cal : Cal) (k : Nat) : KC (Value × Hp × Nat) := (cutK (Lv.a (Lv.b (Lv.b (A 37)))).c (codeE P cal (codeF P cal k) none 37 (cR (cL (cR (cR code37)))) (Lv.b (Lv.a (Lv.b (Lv.b (A 37))))) (K37_prr cal k) X0 (doneK P results37)))
noncomputable def K37_prrlrl (cal : Cal) (k : Nat) : KC (Value × Hp × Nat) := (cutK (Lv.a (Lv.b (Lv.a (Lv.b (Lv.b (A 37)))))).c (codeE P cal (codeF P cal k) none 37 (cR (cL (cR (cL (cR (cR code37)))))) (Lv.b (Lv.a (Lv.b (Lv.a (Lv.b (Lv.b (A 37))))))) (K37_prr cal k) X0 (doneK P results37)))
noncomputable def K37_prrr (cal : Cal) (k : Nat) : KC (Value × Hp × Nat) := (cutK (Lv.b (Lv.b (Lv.b (A 37)))).c (codeE P cal (codeF P cal k) none 37 (cR (cR (cR (cR code37)))) (Lv.b (Lv.b (Lv.b (Lv.b (A 37))))) (doneK P results37) X0 (doneK P results37)))
noncomputable def K37_prrrr (cal : Cal) (k : Nat) : KC (Value × Hp × Nat) := (cutK (Lv.b (Lv.b (Lv.b (Lv.b (A 37))))).c (codeE P cal (codeF P cal k) none 37 (cR (cR (cR (cR (cR code37))))) (Lv.b (Lv.b (Lv.b (Lv.b (Lv.b (A 37)))))) (doneK P results37) X0 (doneK P results37)))
noncomputable def K37_prrrrl (cal : Cal) (k : Nat) : KC (Value × Hp × Nat) := (cutK (Lv.a (Lv.b (Lv.b (Lv.b (Lv.b (A 37)))))).c (codeE P cal (codeF P cal k) none 37 (cR (cL (cR (cR (cR (cR code37)))))) (Lv.b (Lv.a (Lv.b (Lv.b (Lv.b (Lv.b (A 37))))))) (K37_prrrr cal k) X0 (doneK P results37)))
noncomputable def K37_prrrrlrl (cal : Cal) (k : Nat) : KC (Value × Hp × Nat) := (cutK (Lv.a (Lv.b (Lv.a (Lv.b (Lv.b (Lv.b (Lv.b (A 37)))))))).c (codeE P cal (codeF P cal k) none 37 (cR (cL (cR (cL (cR (cR (cR (cR code37)))))))) (Lv.b (Lv.a (Lv.b (Lv.a (Lv.b (Lv.b (Lv.b (Lv.b (A 37))))))))) (K37_prrrr cal k) X0 (doneK P results37)))
noncomputable def K37_prrrrr (cal : Cal) (k : Nat) : KC (Value × Hp × Nat) := (cutK (Lv.b (Lv.b (Lv.b (Lv.b (Lv.b (A 37)))))).c (codeE P cal (codeF P cal k) none 37 (cR (cR (cR (cR (cR (cR code37)))))) (Lv.b (Lv.b (Lv.b (Lv.b (Lv.b (Lv.b (A 37))))))) (doneK P results37) X0 (doneK P results37)))
noncomputable def B37_0 (cal : Cal) (k : Nat) (v0 v1 : Value) (H : Hp) (n : Nat) : Res :=
boxK 35 v0 H n fun v2_1 H_2 n_3 =>
bindO (addrV v2_1) fun a_7 => bindO (loadV P H_2 35 a_7) fun v12_6 =>
callFK P cal 65 [v12_6, v1] H_2 n_3 fun v14_9 H_10 n_11 =>
bindO (tupV v14_9 0) fun v15_13 =>
bindO (tupV v14_9 1) fun v16_14 =>
bindO (tupV v14_9 2) fun v17_15 =>
allocK P 121 H_10 n_11 fun v7_16 H_17 n_18 =>
bindO (storeP P 121 v7_16 v16_14 H_17) fun H_21 =>
binK P Go.BinOp.neq 29 (Go.Operand.tmp 18) (Go.Operand.const (Go.Value.int Go.IntKind.i64 0)) v17_15 (Go.Value.int Go.IntKind.i64 0) fun v19_24 =>
ifK v19_24 (
some ((Value.tuple ⟨[(Go.Value.slice none 0 0), v17_15]⟩), H_21, n_18)) (
bindO (addrV v7_16) fun a_30 => bindO (loadV P H_21 121 a_30) fun v23_29 =>
callFK P cal 78 [v15_13, v23_29] H_21 n_18 fun v24_31 H_32 n_33 =>
bindO (tupV v24_31 0) fun v25_35 =>
bindO (tupV v24_31 1) fun v26_36 =>
bindO (pureSem P v26_36 (Op.unary Go.UnOp.not v26_36)) fun v28_40 =>
ifK v28_40 (
some ((Value.tuple ⟨[(Go.Value.slice none 0 0), (Go.Value.int Go.IntKind.i64 9)]⟩), H_32, n_33)) (
some ((Value.tuple ⟨[v25_35, (Go.Value.int Go.IntKind.i64 0)]⟩), H_32, n_33)))
noncomputable def C37_0 (cal : Cal) (k : Nat) (v0 v1 : Value) (H : Hp) (n : Nat) : Res := B37_0 cal k v0 v1 H n
theorem h37_0 (cal : Cal) (k : Nat) (v0 v1 : Value) (H : Hp) (n : Nat) : bodyE P cal A (k + 1) 37 [v0, v1] H n = C37_0 cal k v0 v1 H n := by
  have h : bodyE P cal A (k + 1) 37 [v0, v1] H n = B37_0 cal k v0 v1 H n := by
    rw [body_eq (fn := Go.Proofs.Try.f37) (c := code37) (rs := results37) (by kernel_rfl) (by kernel_rfl) (by kernel_rfl) (by kernel_rfl)]
    kernel_rfl
  rw [h, C37_0]
noncomputable def code38 : Code := codeOf 38
noncomputable def results38 : List ResultVar := resOf 38
noncomputable def K38_p (cal : Cal) (k : Nat) : KC (Value × Hp × Nat) := (cutK (A 38).c (codeE P cal (codeF P cal k) none 38 (cR code38) (Lv.b (A 38)) (doneK P results38) X0 (doneK P results38)))
noncomputable def K38_pr (cal : Cal) (k : Nat) : KC (Value × Hp × Nat) := (cutK (Lv.b (A 38)).c (codeE P cal (codeF P cal k) none 38 (cR (cR code38)) (Lv.b (Lv.b (A 38))) (doneK P results38) X0 (doneK P results38)))
noncomputable def K38_prr (cal : Cal) (k : Nat) : KC (Value × Hp × Nat) := (cutK (Lv.b (Lv.b (A 38))).c (codeE P cal (codeF P cal k) none 38 (cR (cR (cR code38))) (Lv.b (Lv.b (Lv.b (A 38)))) (doneK P results38) X0 (doneK P results38)))
noncomputable def B38_0 (cal : Cal) (k : Nat) (v0 v1 v2 : Value) (H : Hp) (n : Nat) : Res :=
boxK 35 v0 H n fun v3_1 H_2 n_3 =>
bindO (addrV v3_1) fun a_6 => bindO (loadV P H_2 35 a_6) fun v11_5 =>
callFK P cal 65 [v11_5, v1] H_2 n_3 fun v13_8 H_9 n_10 =>
bindO (tupV v13_8 0) fun v14_12 =>
bindO (tupV v13_8 1) fun v15_13 =>
bindO (tupV v13_8 2) fun v16_14 =>
allocK P 121 H_9 n_10 fun v8_15 H_16 n_17 =>
bindO (storeP P 121 v8_15 v15_13 H_16) fun H_20 =>
binK P Go.BinOp.eql 29 (Go.Operand.tmp 17) (Go.Operand.const (Go.Value.int Go.IntKind.i64 0)) v16_14 (Go.Value.int Go.IntKind.i64 0) fun v18_23 =>
guardK v18_23 true (fun k_25 =>
k_25 v14_12 H_20 n_17) H_20 n_17 fun v_26 H_27 n_28 =>
guardK v18_23 true (fun k_30 =>
bindO (addrV v8_15) fun a_35 => bindO (loadV P H_27 121 a_35) fun v21_34 =>
k_30 v21_34 H_27 n_28) H_27 n_28 fun v_31 H_32 n_33 =>
guardK v18_23 true (fun k_36 =>
k_36 v2 H_32 n_33) H_32 n_33 fun v_37 H_38 n_39 =>
guardK v18_23 true (fun k_41 =>
callFK P cal 79 [v_26, v_31, v_37] H_38 n_39 fun v23_45 H_46 n_47 =>
k_41 v23_45 H_46 n_47) H_38 n_39 fun v_42 H_43 n_44 =>
bindO (pickV v18_23 v_42 (Go.Value.bool false)) fun v24_48 =>
guardK v24_48 true (fun k_50 =>
k_50 v14_12 H_43 n_44) H_43 n_44 fun v_51 H_52 n_53 =>
guardK v24_48 true (fun k_55 =>
k_55 v2 H_52 n_53) H_52 n_53 fun v_56 H_57 n_58 =>
guardK v24_48 true (fun k_60 =>
callFK P cal 80 [v_51, v_56] H_57 n_58 fun v28_64 H_65 n_66 =>
k_60 v28_64 H_65 n_66) H_57 n_58 fun v_61 H_62 n_63 =>
bindO (pickV v24_48 v_61 (Go.Value.bool false)) fun v29_67 =>
some (v29_67, H_62, n_63)
noncomputable def C38_0 (cal : Cal) (k : Nat) (v0 v1 v2 : Value) (H : Hp) (n : Nat) : Res := B38_0 cal k v0 v1 v2 H n
theorem h38_0 (cal : Cal) (k : Nat) (v0 v1 v2 : Value) (H : Hp) (n : Nat) : bodyE P cal A (k + 1) 38 [v0, v1, v2] H n = C38_0 cal k v0 v1 v2 H n := by
  have h : bodyE P cal A (k + 1) 38 [v0, v1, v2] H n = B38_0 cal k v0 v1 v2 H n := by
    rw [body_eq (fn := Go.Proofs.Try.f38) (c := code38) (rs := results38) (by kernel_rfl) (by kernel_rfl) (by kernel_rfl) (by kernel_rfl)]
    kernel_rfl
  rw [h, C38_0]
noncomputable def code42 : Code := codeOf 42
noncomputable def results42 : List ResultVar := resOf 42
noncomputable def K42_p (cal : Cal) (k : Nat) : KC (Value × Hp × Nat) := (cutK (A 42).c (codeE P cal (codeF P cal k) none 42 (cR code42) (Lv.b (A 42)) (doneK P results42) X0 (doneK P results42)))
noncomputable def K42_pr (cal : Cal) (k : Nat) : KC (Value × Hp × Nat) := (cutK (Lv.b (A 42)).c (codeE P cal (codeF P cal k) none 42 (cR (cR code42)) (Lv.b (Lv.b (A 42))) (doneK P results42) X0 (doneK P results42)))
noncomputable def K42_prr (cal : Cal) (k : Nat) : KC (Value × Hp × Nat) := (cutK (Lv.b (Lv.b (A 42))).c (codeE P cal (codeF P cal k) none 42 (cR (cR (cR code42))) (Lv.b (Lv.b (Lv.b (A 42)))) (doneK P results42) X0 (doneK P results42)))
noncomputable def K42_prrl (cal : Cal) (k : Nat) : KC (Value × Hp × Nat) := (cutK (Lv.a (Lv.b (Lv.b (A 42)))).c (codeE P cal (codeF P cal k) none 42 (cR (cL (cR (cR code42)))) (Lv.b (Lv.a (Lv.b (Lv.b (A 42))))) (K42_prr cal k) X0 (doneK P results42)))
noncomputable def K42_prrlrl (cal : Cal) (k : Nat) : KC (Value × Hp × Nat) := (cutK (Lv.a (Lv.b (Lv.a (Lv.b (Lv.b (A 42)))))).c (codeE P cal (codeF P cal k) none 42 (cR (cL (cR (cL (cR (cR code42)))))) (Lv.b (Lv.a (Lv.b (Lv.a (Lv.b (Lv.b (A 42))))))) (K42_prr cal k) X0 (doneK P results42)))
noncomputable def K42_prrr (cal : Cal) (k : Nat) : KC (Value × Hp × Nat) := (cutK (Lv.b (Lv.b (Lv.b (A 42)))).c (codeE P cal (codeF P cal k) none 42 (cR (cR (cR (cR code42)))) (Lv.b (Lv.b (Lv.b (Lv.b (A 42))))) (doneK P results42) X0 (doneK P results42)))
noncomputable def K42_prrrr (cal : Cal) (k : Nat) : KC (Value × Hp × Nat) := (cutK (Lv.b (Lv.b (Lv.b (Lv.b (A 42))))).c (codeE P cal (codeF P cal k) none 42 (cR (cR (cR (cR (cR code42))))) (Lv.b (Lv.b (Lv.b (Lv.b (Lv.b (A 42)))))) (doneK P results42) X0 (doneK P results42)))
noncomputable def K42_prrrrl (cal : Cal) (k : Nat) : KC (Value × Hp × Nat) := (cutK (Lv.a (Lv.b (Lv.b (Lv.b (Lv.b (A 42)))))).c (codeE P cal (codeF P cal k) none 42 (cR (cL (cR (cR (cR (cR code42)))))) (Lv.b (Lv.a (Lv.b (Lv.b (Lv.b (Lv.b (A 42))))))) (K42_prrrr cal k) X0 (doneK P results42)))
noncomputable def K42_prrrrlrl (cal : Cal) (k : Nat) : KC (Value × Hp × Nat) := (cutK (Lv.a (Lv.b (Lv.a (Lv.b (Lv.b (Lv.b (Lv.b (A 42)))))))).c (codeE P cal (codeF P cal k) none 42 (cR (cL (cR (cL (cR (cR (cR (cR code42)))))))) (Lv.b (Lv.a (Lv.b (Lv.a (Lv.b (Lv.b (Lv.b (Lv.b (A 42))))))))) (K42_prrrr cal k) X0 (doneK P results42)))
noncomputable def K42_prrrrr (cal : Cal) (k : Nat) : KC (Value × Hp × Nat) := (cutK (Lv.b (Lv.b (Lv.b (Lv.b (Lv.b (A 42)))))).c (codeE P cal (codeF P cal k) none 42 (cR (cR (cR (cR (cR (cR code42)))))) (Lv.b (Lv.b (Lv.b (Lv.b (Lv.b (Lv.b (A 42))))))) (doneK P results42) X0 (doneK P results42)))
noncomputable def B42_0 (cal : Cal) (k : Nat) (v0 : Value) (H : Hp) (n : Nat) : Res :=
boxK 35 v0 H n fun v1_1 H_2 n_3 =>
bindO (addrV v1_1) fun a_8 => bindO (loadV P H_2 35 a_8) fun v9_7 =>
callFK P cal 61 [v9_7] H_2 n_3 fun v10_9 H_10 n_11 =>
bindO (tupV v10_9 0) fun v11_13 =>
bindO (tupV v10_9 1) fun v12_14 =>
binK P Go.BinOp.neq 29 (Go.Operand.tmp 13) (Go.Operand.const (Go.Value.int Go.IntKind.i64 0)) v12_14 (Go.Value.int Go.IntKind.i64 0) fun v14_18 =>
ifK v14_18 (
some ((Value.tuple ⟨[(Go.Value.slice none 0 0), (Go.Value.int Go.IntKind.i64 0), v12_14]⟩), H_10, n_11)) (
callFK P cal 81 [v11_13] H_10 n_11 fun v18_24 H_25 n_26 =>
bindO (tupV v18_24 0) fun v19_28 =>
bindO (tupV v18_24 1) fun v20_29 =>
allocK P 121 H_25 n_26 fun v6_30 H_31 n_32 =>
bindO (storeP P 121 v6_30 v19_28 H_31) fun H_34 =>
bindO (pureSem P v20_29 (Op.unary Go.UnOp.not v20_29)) fun v22_37 =>
ifK v22_37 (
some ((Value.tuple ⟨[(Go.Value.slice none 0 0), (Go.Value.int Go.IntKind.i64 0), (Go.Value.int Go.IntKind.i64 10)]⟩), H_34, n_32)) (
bindO (nilV v11_13) fun v24_42 =>
bindO (fieldAddrV P 117 v24_42 0) fun v25_43 =>
bindO (fieldAddrV P 35 v25_43 0) fun v26_44 =>
bindO (addrV v26_44) fun a_45 => bindO (loadV P H_34 31 a_45) fun v_46 =>
bindO (lenV P 31 v_46) fun v28_47 =>
bindO (sliceV P 121 v6_30 none (some v28_47)) fun v29_48 =>
bindO (addrV v6_30) fun a_50 => bindO (loadV P H_34 121 a_50) fun v_51 =>
effK P [(.l 121 a_50)] H_34 n_32 (fun H_52 n_53 k_54 =>
callFK P cal 76 [v29_48] H_52 n_53 fun v30_58 H_59 n_60 =>
k_54 v30_58 H_59 n_60) fun v_55 H_56 n_57 =>
callFK P cal 82 [v11_13, v_51] H_56 n_57 fun v33_61 H_62 n_63 =>
some ((Value.tuple ⟨[v_55, v33_61, (Go.Value.int Go.IntKind.i64 0)]⟩), H_62, n_63)))
noncomputable def C42_0 (cal : Cal) (k : Nat) (v0 : Value) (H : Hp) (n : Nat) : Res := B42_0 cal k v0 H n
theorem h42_0 (cal : Cal) (k : Nat) (v0 : Value) (H : Hp) (n : Nat) : bodyE P cal A (k + 1) 42 [v0] H n = C42_0 cal k v0 H n := by
  have h : bodyE P cal A (k + 1) 42 [v0] H n = B42_0 cal k v0 H n := by
    rw [body_eq (fn := Go.Proofs.Try.f42) (c := code42) (rs := results42) (by kernel_rfl) (by kernel_rfl) (by kernel_rfl) (by kernel_rfl)]
    kernel_rfl
  rw [h, C42_0]
noncomputable def code43 : Code := codeOf 43
noncomputable def results43 : List ResultVar := resOf 43
noncomputable def K43_p (cal : Cal) (k : Nat) : KC (Value × Hp × Nat) := (cutK (A 43).c (codeE P cal (codeF P cal k) none 43 (cR code43) (Lv.b (A 43)) (doneK P results43) X0 (doneK P results43)))
noncomputable def K43_pr (cal : Cal) (k : Nat) : KC (Value × Hp × Nat) := (cutK (Lv.b (A 43)).c (codeE P cal (codeF P cal k) none 43 (cR (cR code43)) (Lv.b (Lv.b (A 43))) (doneK P results43) X0 (doneK P results43)))
noncomputable def K43_prr (cal : Cal) (k : Nat) : KC (Value × Hp × Nat) := (cutK (Lv.b (Lv.b (A 43))).c (codeE P cal (codeF P cal k) none 43 (cR (cR (cR code43))) (Lv.b (Lv.b (Lv.b (A 43)))) (doneK P results43) X0 (doneK P results43)))
noncomputable def B43_0 (cal : Cal) (k : Nat) (v0 v1 v2 : Value) (H : Hp) (n : Nat) : Res :=
boxK 35 v0 H n fun v3_1 H_2 n_3 =>
bindO (addrV v3_1) fun a_6 => bindO (loadV P H_2 35 a_6) fun v11_5 =>
callFK P cal 65 [v11_5, v1] H_2 n_3 fun v13_8 H_9 n_10 =>
bindO (tupV v13_8 0) fun v14_12 =>
bindO (tupV v13_8 1) fun v15_13 =>
bindO (tupV v13_8 2) fun v16_14 =>
allocK P 121 H_9 n_10 fun v8_15 H_16 n_17 =>
bindO (storeP P 121 v8_15 v15_13 H_16) fun H_20 =>
binK P Go.BinOp.eql 29 (Go.Operand.tmp 17) (Go.Operand.const (Go.Value.int Go.IntKind.i64 0)) v16_14 (Go.Value.int Go.IntKind.i64 0) fun v18_23 =>
guardK v18_23 true (fun k_25 =>
k_25 v14_12 H_20 n_17) H_20 n_17 fun v_26 H_27 n_28 =>
guardK v18_23 true (fun k_30 =>
k_30 v14_12 H_27 n_28) H_27 n_28 fun v_31 H_32 n_33 =>
guardK v18_23 true (fun k_35 =>
bindO (addrV v8_15) fun a_40 => bindO (loadV P H_32 121 a_40) fun v22_39 =>
k_35 v22_39 H_32 n_33) H_32 n_33 fun v_36 H_37 n_38 =>
guardK v18_23 true (fun k_41 =>
callFK P cal 66 [v_31, v_36] H_37 n_38 fun v23_45 H_46 n_47 =>
k_41 v23_45 H_46 n_47) H_37 n_38 fun v_42 H_43 n_44 =>
guardK v18_23 true (fun k_48 =>
callFK P cal 83 [v_26, v_42] H_43 n_44 fun v24_52 H_53 n_54 =>
k_48 v24_52 H_53 n_54) H_43 n_44 fun v_49 H_50 n_51 =>
bindO (pickV v18_23 v_49 (Go.Value.bool false)) fun v25_55 =>
guardK v25_55 true (fun k_57 =>
k_57 v14_12 H_50 n_51) H_50 n_51 fun v_58 H_59 n_60 =>
guardK v25_55 true (fun k_62 =>
bindO (addrV v8_15) fun a_67 => bindO (loadV P H_59 121 a_67) fun v28_66 =>
k_62 v28_66 H_59 n_60) H_59 n_60 fun v_63 H_64 n_65 =>
guardK v25_55 true (fun k_68 =>
callFK P cal 82 [v_58, v_63] H_64 n_65 fun v29_72 H_73 n_74 =>
k_68 v29_72 H_73 n_74) H_64 n_65 fun v_69 H_70 n_71 =>
guardK v25_55 true (fun k_75 =>
k_75 v2 H_70 n_71) H_70 n_71 fun v_76 H_77 n_78 =>
guardK v25_55 true (fun k_80 =>
binK P Go.BinOp.leq 3 (Go.Operand.tmp 29) (Go.Operand.tmp 30) v_69 v_76 fun v31_84 =>
k_80 v31_84 H_77 n_78) H_77 n_78 fun v_81 H_82 n_83 =>
bindO (pickV v25_55 v_81 (Go.Value.bool false)) fun v32_85 =>
some (v32_85, H_82, n_83)
noncomputable def C43_0 (cal : Cal) (k : Nat) (v0 v1 v2 : Value) (H : Hp) (n : Nat) : Res := B43_0 cal k v0 v1 v2 H n
theorem h43_0 (cal : Cal) (k : Nat) (v0 v1 v2 : Value) (H : Hp) (n : Nat) : bodyE P cal A (k + 1) 43 [v0, v1, v2] H n = C43_0 cal k v0 v1 v2 H n := by
  have h : bodyE P cal A (k + 1) 43 [v0, v1, v2] H n = B43_0 cal k v0 v1 v2 H n := by
    rw [body_eq (fn := Go.Proofs.Try.f43) (c := code43) (rs := results43) (by kernel_rfl) (by kernel_rfl) (by kernel_rfl) (by kernel_rfl)]
    kernel_rfl
  rw [h, C43_0]
noncomputable def code48 : Code := codeOf 48
noncomputable def results48 : List ResultVar := resOf 48
noncomputable def K48_p (cal : Cal) (k : Nat) : KC (Value × Hp × Nat) := (cutK (A 48).c (codeE P cal (codeF P cal k) none 48 (cR code48) (Lv.b (A 48)) (doneK P results48) X0 (doneK P results48)))
noncomputable def K48_pr (cal : Cal) (k : Nat) : KC (Value × Hp × Nat) := (cutK (Lv.b (A 48)).c (codeE P cal (codeF P cal k) none 48 (cR (cR code48)) (Lv.b (Lv.b (A 48))) (doneK P results48) X0 (doneK P results48)))
noncomputable def K48_prr (cal : Cal) (k : Nat) : KC (Value × Hp × Nat) := (cutK (Lv.b (Lv.b (A 48))).c (codeE P cal (codeF P cal k) none 48 (cR (cR (cR code48))) (Lv.b (Lv.b (Lv.b (A 48)))) (doneK P results48) X0 (doneK P results48)))
noncomputable def K48_prrl (cal : Cal) (k : Nat) : KC (Value × Hp × Nat) := (cutK (Lv.a (Lv.b (Lv.b (A 48)))).c (codeE P cal (codeF P cal k) none 48 (cR (cL (cR (cR code48)))) (Lv.b (Lv.a (Lv.b (Lv.b (A 48))))) (K48_prr cal k) X0 (doneK P results48)))
noncomputable def K48_prrlrl (cal : Cal) (k : Nat) : KC (Value × Hp × Nat) := (cutK (Lv.a (Lv.b (Lv.a (Lv.b (Lv.b (A 48)))))).c (codeE P cal (codeF P cal k) none 48 (cR (cL (cR (cL (cR (cR code48)))))) (Lv.b (Lv.a (Lv.b (Lv.a (Lv.b (Lv.b (A 48))))))) (K48_prr cal k) X0 (doneK P results48)))
noncomputable def K48_prrr (cal : Cal) (k : Nat) : KC (Value × Hp × Nat) := (cutK (Lv.b (Lv.b (Lv.b (A 48)))).c (codeE P cal (codeF P cal k) none 48 (cR (cR (cR (cR code48)))) (Lv.b (Lv.b (Lv.b (Lv.b (A 48))))) (doneK P results48) X0 (doneK P results48)))
noncomputable def B48_0 (cal : Cal) (k : Nat) (v0 : Value) (H : Hp) (n : Nat) : Res :=
boxK 35 v0 H n fun v1_1 H_2 n_3 =>
bindO (addrV v1_1) fun a_7 => bindO (loadV P H_2 35 a_7) fun v7_6 =>
callFK P cal 61 [v7_6] H_2 n_3 fun v8_8 H_9 n_10 =>
bindO (tupV v8_8 0) fun v9_12 =>
bindO (tupV v8_8 1) fun v10_13 =>
binK P Go.BinOp.neq 29 (Go.Operand.tmp 11) (Go.Operand.const (Go.Value.int Go.IntKind.i64 0)) v10_13 (Go.Value.int Go.IntKind.i64 0) fun v12_17 =>
ifK v12_17 (
some ((Value.tuple ⟨[(Go.Value.slice none 0 0), v10_13]⟩), H_9, n_10)) (
callFK P cal 85 [v9_12] H_9 n_10 fun v15_22 H_23 n_24 =>
some ((Value.tuple ⟨[v15_22, (Go.Value.int Go.IntKind.i64 0)]⟩), H_23, n_24))
noncomputable def C48_0 (cal : Cal) (k : Nat) (v0 : Value) (H : Hp) (n : Nat) : Res := B48_0 cal k v0 H n
theorem h48_0 (cal : Cal) (k : Nat) (v0 : Value) (H : Hp) (n : Nat) : bodyE P cal A (k + 1) 48 [v0] H n = C48_0 cal k v0 H n := by
  have h : bodyE P cal A (k + 1) 48 [v0] H n = B48_0 cal k v0 H n := by
    rw [body_eq (fn := Go.Proofs.Try.f48) (c := code48) (rs := results48) (by kernel_rfl) (by kernel_rfl) (by kernel_rfl) (by kernel_rfl)]
    kernel_rfl
  rw [h, C48_0]
noncomputable def code49 : Code := codeOf 49
noncomputable def results49 : List ResultVar := resOf 49
noncomputable def K49_p (cal : Cal) (k : Nat) : KC (Value × Hp × Nat) := (cutK (A 49).c (codeE P cal (codeF P cal k) none 49 (cR code49) (Lv.b (A 49)) (doneK P results49) X0 (doneK P results49)))
noncomputable def K49_pr (cal : Cal) (k : Nat) : KC (Value × Hp × Nat) := (cutK (Lv.b (A 49)).c (codeE P cal (codeF P cal k) none 49 (cR (cR code49)) (Lv.b (Lv.b (A 49))) (doneK P results49) X0 (doneK P results49)))
noncomputable def K49_prr (cal : Cal) (k : Nat) : KC (Value × Hp × Nat) := (cutK (Lv.b (Lv.b (A 49))).c (codeE P cal (codeF P cal k) none 49 (cR (cR (cR code49))) (Lv.b (Lv.b (Lv.b (A 49)))) (doneK P results49) X0 (doneK P results49)))
noncomputable def B49_0 (cal : Cal) (k : Nat) (v0 v1 : Value) (H : Hp) (n : Nat) : Res :=
boxK 35 v0 H n fun v2_1 H_2 n_3 =>
bindO (addrV v2_1) fun a_6 => bindO (loadV P H_2 35 a_6) fun v8_5 =>
callFK P cal 61 [v8_5] H_2 n_3 fun v9_7 H_8 n_9 =>
bindO (tupV v9_7 0) fun v10_11 =>
bindO (tupV v9_7 1) fun v11_12 =>
binK P Go.BinOp.eql 29 (Go.Operand.tmp 12) (Go.Operand.const (Go.Value.int Go.IntKind.i64 0)) v11_12 (Go.Value.int Go.IntKind.i64 0) fun v13_16 =>
guardK v13_16 true (fun k_18 =>
k_18 v1 H_8 n_9) H_8 n_9 fun v_19 H_20 n_21 =>
guardK v13_16 true (fun k_23 =>
k_23 v10_11 H_20 n_21) H_20 n_21 fun v_24 H_25 n_26 =>
guardK v13_16 true (fun k_28 =>
bindO (nilV v_24) fun v17_32 =>
k_28 v17_32 H_25 n_26) H_25 n_26 fun v_29 H_30 n_31 =>
guardK v13_16 true (fun k_33 =>
bindO (fieldAddrV P 117 v_29 0) fun v18_37 =>
k_33 v18_37 H_30 n_31) H_30 n_31 fun v_34 H_35 n_36 =>
guardK v13_16 true (fun k_38 =>
bindO (addrV v_34) fun a_43 => bindO (loadV P H_35 35 a_43) fun v19_42 =>
k_38 v19_42 H_35 n_36) H_35 n_36 fun v_39 H_40 n_41 =>
guardK v13_16 true (fun k_44 =>
k_44 (Value.func (Go.Fn.func 71) ⟨[v_39]⟩ ⟨[]⟩) H_40 n_41) H_40 n_41 fun v_45 H_46 n_47 =>
guardK v13_16 true (fun k_49 =>
callFK P cal 86 [v_19, v_45] H_46 n_47 fun v21_53 H_54 n_55 =>
k_49 v21_53 H_54 n_55) H_46 n_47 fun v_50 H_51 n_52 =>
bindO (pickV v13_16 v_50 (Go.Value.bool false)) fun v22_56 =>
guardK v22_56 true (fun k_58 =>
k_58 v1 H_51 n_52) H_51 n_52 fun v_59 H_60 n_61 =>
guardK v22_56 true (fun k_63 =>
callFK P cal 87 [v_59] H_60 n_61 fun v25_67 H_68 n_69 =>
k_63 v25_67 H_68 n_69) H_60 n_61 fun v_64 H_65 n_66 =>
bindO (pickV v22_56 v_64 (Go.Value.bool false)) fun v26_70 =>
guardK v26_70 true (fun k_72 =>
k_72 v10_11 H_65 n_66) H_65 n_66 fun v_73 H_74 n_75 =>
guardK v26_70 true (fun k_77 =>
k_77 v1 H_74 n_75) H_74 n_75 fun v_78 H_79 n_80 =>
guardK v26_70 true (fun k_82 =>
callFK P cal 88 [v_73, v_78] H_79 n_80 fun v30_86 H_87 n_88 =>
k_82 v30_86 H_87 n_88) H_79 n_80 fun v_83 H_84 n_85 =>
bindO (pickV v26_70 v_83 (Go.Value.bool false)) fun v31_89 =>
some (v31_89, H_84, n_85)
noncomputable def C49_0 (cal : Cal) (k : Nat) (v0 v1 : Value) (H : Hp) (n : Nat) : Res := B49_0 cal k v0 v1 H n
theorem h49_0 (cal : Cal) (k : Nat) (v0 v1 : Value) (H : Hp) (n : Nat) : bodyE P cal A (k + 1) 49 [v0, v1] H n = C49_0 cal k v0 v1 H n := by
  have h : bodyE P cal A (k + 1) 49 [v0, v1] H n = B49_0 cal k v0 v1 H n := by
    rw [body_eq (fn := Go.Proofs.Try.f49) (c := code49) (rs := results49) (by kernel_rfl) (by kernel_rfl) (by kernel_rfl) (by kernel_rfl)]
    kernel_rfl
  rw [h, C49_0]
noncomputable def code52 : Code := codeOf 52
noncomputable def results52 : List ResultVar := resOf 52
noncomputable def K52_p (cal : Cal) (k : Nat) : KC (Value × Hp × Nat) := (cutK (A 52).c (codeE P cal (codeF P cal k) none 52 (cR code52) (Lv.b (A 52)) (doneK P results52) X0 (doneK P results52)))
noncomputable def K52_pr (cal : Cal) (k : Nat) : KC (Value × Hp × Nat) := (cutK (Lv.b (A 52)).c (codeE P cal (codeF P cal k) none 52 (cR (cR code52)) (Lv.b (Lv.b (A 52))) (doneK P results52) X0 (doneK P results52)))
noncomputable def K52_prr (cal : Cal) (k : Nat) : KC (Value × Hp × Nat) := (cutK (Lv.b (Lv.b (A 52))).c (codeE P cal (codeF P cal k) none 52 (cR (cR (cR code52))) (Lv.b (Lv.b (Lv.b (A 52)))) (doneK P results52) X0 (doneK P results52)))
noncomputable def K52_prrl (cal : Cal) (k : Nat) : KC (Value × Hp × Nat) := (cutK (Lv.a (Lv.b (Lv.b (A 52)))).c (codeE P cal (codeF P cal k) none 52 (cR (cL (cR (cR code52)))) (Lv.b (Lv.a (Lv.b (Lv.b (A 52))))) (K52_prr cal k) X0 (doneK P results52)))
noncomputable def K52_pxrrlr (cal : Cal) (k : Nat) : XC (Value × Hp × Nat) := (upX 0 (K52_prr cal k) X0)
noncomputable def K52_prrlrl (cal : Cal) (k : Nat) (m1 : Nat) : KC (Value × Hp × Nat) := (fun T H n D => codeF P cal m1 (Lv.a (Lv.b (Lv.a (Lv.b (Lv.b (A 52)))))) none 52 (cL (cR (cL (cR (cR code52))))) (K52_prr cal k) (K52_pxrrlr cal k) (doneK P results52) (cutT (Lv.a (Lv.b (Lv.a (Lv.b (Lv.b (A 52)))))).c T) H n D)
noncomputable def K52_prrlrll (cal : Cal) (k : Nat) (m1 : Nat) : KC (Value × Hp × Nat) := (cutK (Lv.a (Lv.a (Lv.b (Lv.a (Lv.b (Lv.b (A 52))))))).c (codeE P cal (codeF P cal m1) none 52 (cR (cL (cL (cR (cL (cR (cR code52))))))) (Lv.b (Lv.a (Lv.a (Lv.b (Lv.a (Lv.b (Lv.b (A 52)))))))) (K52_prrlrl cal k m1) (K52_pxrrlr cal k) (doneK P results52)))
noncomputable def K52_prrlrlll (cal : Cal) (k : Nat) (m1 : Nat) : KC (Value × Hp × Nat) := (cutK (Lv.a (Lv.a (Lv.a (Lv.b (Lv.a (Lv.b (Lv.b (A 52)))))))).c (codeE P cal (codeF P cal m1) none 52 (cR (cL (cL (cL (cR (cL (cR (cR code52)))))))) (Lv.b (Lv.a (Lv.a (Lv.a (Lv.b (Lv.a (Lv.b (Lv.b (A 52))))))))) (K52_prrlrll cal k m1) (K52_pxrrlr cal k) (doneK P results52)))
noncomputable def K52_prrlrllr (cal : Cal) (k : Nat) (m1 : Nat) : KC (Value × Hp × Nat) := (cutK (Lv.b (Lv.a (Lv.a (Lv.b (Lv.a (Lv.b (Lv.b (A 52)))))))).c (codeE P cal (codeF P cal m1) none 52 (cR (cR (cL (cL (cR (cL (cR (cR code52)))))))) (Lv.b (Lv.b (Lv.a (Lv.a (Lv.b (Lv.a (Lv.b (Lv.b (A 52))))))))) (K52_prrlrl cal k m1) (K52_pxrrlr cal k) (doneK P results52)))
noncomputable def K52_pxrrlrllrl (cal : Cal) (k : Nat) (m1 : Nat) : XC (Value × Hp × Nat) := (upX 1 (K52_prrlrllr cal k m1) (K52_pxrrlr cal k))
noncomputable def K52_prrlrllrll (cal : Cal) (k : Nat) (m1 : Nat) : KC (Value × Hp × Nat) := (cutK (Lv.a (Lv.a (Lv.b (Lv.a (Lv.a (Lv.b (Lv.a (Lv.b (Lv.b (A 52)))))))))).c (codeE P cal (codeF P cal m1) none 52 (cR (cL (cL (cR (cL (cL (cR (cL (cR (cR code52)))))))))) (Lv.b (Lv.a (Lv.a (Lv.b (Lv.a (Lv.a (Lv.b (Lv.a (Lv.b (Lv.b (A 52))))))))))) (K52_prrlrllr cal k m1) (K52_pxrrlrllrl cal k m1) (doneK P results52)))
noncomputable def K52_prrlrllrllr (cal : Cal) (k : Nat) (m1 : Nat) : KC (Value × Hp × Nat) := (cutK (Lv.b (Lv.a (Lv.a (Lv.b (Lv.a (Lv.a (Lv.b (Lv.a (Lv.b (Lv.b (A 52))))))))))).c (codeE P cal (codeF P cal m1) none 52 (cR (cR (cL (cL (cR (cL (cL (cR (cL (cR (cR code52))))))))))) (Lv.b (Lv.b (Lv.a (Lv.a (Lv.b (Lv.a (Lv.a (Lv.b (Lv.a (Lv.b (Lv.b (A 52)))))))))))) (K52_prrlrllr cal k m1) (K52_pxrrlrllrl cal k m1) (doneK P results52)))
noncomputable def K52_prrr (cal : Cal) (k : Nat) : KC (Value × Hp × Nat) := (cutK (Lv.b (Lv.b (Lv.b (A 52)))).c (codeE P cal (codeF P cal k) none 52 (cR (cR (cR (cR code52)))) (Lv.b (Lv.b (Lv.b (Lv.b (A 52))))) (doneK P results52) X0 (doneK P results52)))
noncomputable def E52_2 (cal : Cal) (k m1 : Nat) : KC (Value × Hp × Nat) := codeE P cal (codeF P cal m1) none 52 (cR (cR (cL (cL (cR (cL (cR (cR code52)))))))) (Lv.b (Lv.b (Lv.a (Lv.a (Lv.b (Lv.a (Lv.b (Lv.b (A 52))))))))) (K52_prrlrl cal k m1) (K52_pxrrlr cal k) (doneK P results52)
noncomputable def E52_1 (cal : Cal) (k m1 : Nat) : KC (Value × Hp × Nat) := codeE P cal (codeF P cal m1) none 52 (cL (cL (cR (cL (cR (cR code52)))))) (Lv.a (Lv.a (Lv.b (Lv.a (Lv.b (Lv.b (A 52))))))) (K52_prrlrl cal k m1) (K52_pxrrlr cal k) (doneK P results52)
noncomputable def R52_1 (cal : Cal) (k m1 : Nat) : Value → Value → Value → Hp → Nat → Res := fun u0 u1 u2 H n => codeF P cal m1 (Lv.a (Lv.b (Lv.a (Lv.b (Lv.b (A 52)))))) none 52 (cL (cR (cL (cR (cR code52))))) (K52_prr cal k) (K52_pxrrlr cal k) (doneK P results52) (Tr.set (Tr.set (Tr.set Tr.nil 2 (some u2)) 1 (some u1)) 0 (some u0)) H n []
noncomputable def B52_2 (cal : Cal) (k m1 : Nat) (b1 : Value → Value → Value → Hp → Nat → Res) (u0 u1 u2 : Value) (H : Hp) (n : Nat) : Res :=
binK P Go.BinOp.add 3 (Go.Operand.tmp 10) (Go.Operand.const (Go.Value.int Go.IntKind.i64 1)) u2 (Go.Value.int Go.IntKind.i64 1) fun v11_24 =>
b1 u0 u1 v11_24 H n
noncomputable def C52_2 (cal : Cal) (k m1 : Nat) (b1 : Value → Value → Value → Hp → Nat → Res) (u0 u1 u2 : Value) (H : Hp) (n : Nat) : Res := B52_2 cal k m1 b1 u0 u1 u2 H n
theorem h52_2 (cal : Cal) (k m1 : Nat) (u0 u1 u2 : Value) (H : Hp) (n : Nat) : labK (E52_2 cal k m1) (Tr.set (Tr.set (Tr.set Tr.nil 2 (some u2)) 1 (some u1)) 0 (some u0)) H n [] = C52_2 cal k m1 (R52_1 cal k m1) u0 u1 u2 H n := by
  have h : labK (E52_2 cal k m1) (Tr.set (Tr.set (Tr.set Tr.nil 2 (some u2)) 1 (some u1)) 0 (some u0)) H n [] = B52_2 cal k m1 (R52_1 cal k m1) u0 u1 u2 H n := by kernel_rfl
  rw [h, C52_2]
theorem q52_2 (cal : Cal) (k m1 : Nat) (u0 u1 u2 : Value) (H : Hp) (n : Nat) : labK (E52_2 cal k m1) (Tr.set (Tr.set (Tr.set Tr.nil 2 (some u2)) 1 (some u1)) 0 (some u0)) H n [] = C52_2 cal k m1 (R52_1 cal k m1) u0 u1 u2 H n := h52_2 ..
noncomputable def B52_1 (cal : Cal) (k m1 : Nat) (j2 : Value → Value → Value → Hp → Nat → Res) (b1 : Value → Value → Value → Hp → Nat → Res) (u0 u1 u2 : Value) (H : Hp) (n : Nat) : Res :=
binK P Go.BinOp.lss 3 (Go.Operand.tmp 8) (Go.Operand.const (Go.Value.int Go.IntKind.i64 5)) u2 (Go.Value.int Go.IntKind.i64 5) fun v9_22 =>
ifK v9_22 (
bindO (fieldAddrV P 35 u1 0) fun v12_26 =>
bindO (addrV v12_26) fun a_28 => bindO (loadV P H 31 a_28) fun v13_27 =>
bindO (buildP P 90 [(0, (Go.Value.int Go.IntKind.i64 10)), (1, (Go.Value.int Go.IntKind.i64 40))]) fun v14_29 =>
rowK P 31 1 [(0, v14_29)] H n fun v15_30 H_31 n_32 =>
stK (appendV P (bare H_31 n_32) 31 31 v13_27 v15_30) fun v16_33 H_34 n_35 =>
bindO (fieldAddrV P 35 u1 0) fun v17_36 =>
bindO (storeP P 31 v17_36 v16_33 H_34) fun H_38 =>
binK P Go.BinOp.gtr 3 (Go.Operand.tmp 18) (Go.Operand.const (Go.Value.int Go.IntKind.i64 0)) u2 (Go.Value.int Go.IntKind.i64 0) fun v19_40 =>
ifK v19_40 (
bindO (fieldAddrV P 35 u1 1) fun v20_41 =>
bindO (addrV v20_41) fun a_43 => bindO (loadV P H_38 32 a_43) fun v21_42 =>
binK P Go.BinOp.sub 3 (Go.Operand.tmp 22) (Go.Operand.const (Go.Value.int Go.IntKind.i64 1)) u2 (Go.Value.int Go.IntKind.i64 1) fun v23_45 =>
bindO (buildP P 88 [(0, v23_45), (1, u2)]) fun v25_47 =>
rowK P 32 1 [(0, v25_47)] H_38 n_35 fun v26_48 H_49 n_50 =>
stK (appendV P (bare H_49 n_50) 32 32 v21_42 v26_48) fun v27_51 H_52 n_53 =>
bindO (fieldAddrV P 35 u1 1) fun v28_54 =>
bindO (storeP P 32 v28_54 v27_51 H_52) fun H_56 =>
j2 u0 u1 u2 H_56 n_53) (
j2 u0 u1 u2 H_38 n_35)) (
bindO (addrV u1) fun a_58 => bindO (loadV P H 35 a_58) fun v29_57 =>
bindO (storeP P 35 u0 v29_57 H) fun H_60 =>
bindO (resV P (Tr.set Tr.nil 0 (some u0)) H_60 results52) fun vs_61 => some (oneV vs_61, H_60, n))
noncomputable def C52_1 (cal : Cal) (k m1 : Nat) (b1 : Value → Value → Value → Hp → Nat → Res) (u0 u1 u2 : Value) (H : Hp) (n : Nat) : Res := B52_1 cal k m1 (C52_2 cal k m1 b1) b1 u0 u1 u2 H n
noncomputable def S52_1 (cal : Cal) (k : Nat) : Nat → Value → Value → Value → Hp → Nat → Res := fun m => Nat.rec (motive := fun _ => Value → Value → Value → Hp → Nat → Res) (C52_1 cal k 0 (fun _ _ _ _ _ => none)) (fun m ih => C52_1 cal k (m + 1) ih) m
theorem h52_1 (cal : Cal) (k m1 : Nat) (u0 u1 u2 : Value) (H : Hp) (n : Nat) : labK (E52_1 cal k m1) (Tr.set (Tr.set (Tr.set Tr.nil 2 (some u2)) 1 (some u1)) 0 (some u0)) H n [] = C52_1 cal k m1 (R52_1 cal k m1) u0 u1 u2 H n := by
  have h : labK (E52_1 cal k m1) (Tr.set (Tr.set (Tr.set Tr.nil 2 (some u2)) 1 (some u1)) 0 (some u0)) H n [] = B52_1 cal k m1 (fun u0 u1 u2 H n => labK (E52_2 cal k m1) (Tr.set (Tr.set (Tr.set Tr.nil 2 (some u2)) 1 (some u1)) 0 (some u0)) H n []) (R52_1 cal k m1) u0 u1 u2 H n := by kernel_rfl
  rw [h, C52_1]
  have e2 : (fun u0 u1 u2 H n => labK (E52_2 cal k m1) (Tr.set (Tr.set (Tr.set Tr.nil 2 (some u2)) 1 (some u1)) 0 (some u0)) H n []) = (C52_2 cal k m1 (R52_1 cal k m1)) := by funext u0 u1 u2 H n; exact q52_2 ..
  rw [e2]
theorem q52_1 (cal : Cal) (k : Nat) : ∀ (m : Nat) (u0 u1 u2 : Value) (H : Hp) (n : Nat), labK (E52_1 cal k m) (Tr.set (Tr.set (Tr.set Tr.nil 2 (some u2)) 1 (some u1)) 0 (some u0)) H n [] = S52_1 cal k m u0 u1 u2 H n
  | 0, u0, u1, u2, H, n => by
    rw [h52_1]
    have e : R52_1 cal k 0 = fun _ _ _ _ _ => none := by funext u0 u1 u2 H n; kernel_rfl
    rw [e]; rfl
  | m + 1, u0, u1, u2, H, n => by
    rw [h52_1]
    have e : R52_1 cal k (m + 1) = S52_1 cal k m := by
      funext u0 u1 u2 H n
      have e : R52_1 cal k (m + 1) u0 u1 u2 H n = labK (E52_1 cal k m) (Tr.set (Tr.set (Tr.set Tr.nil 2 (some u2)) 1 (some u1)) 0 (some u0)) H n [] := by kernel_rfl
      rw [e]; exact q52_1 ..
    rw [e]; rfl
noncomputable def B52_0 (cal : Cal) (k : Nat) (j1 : Value → Value → Value → Hp → Nat → Res) (H : Hp) (n : Nat) : Res :=
allocK P 35 H n fun v0_1 H_2 n_3 =>
callFK P cal 54 [(Go.Value.int Go.IntKind.i64 20), (Go.Value.int Go.IntKind.i64 30)] H_2 n_3 fun v3_4 H_5 n_6 =>
callFK P cal 54 [(Go.Value.int Go.IntKind.i64 10), (Go.Value.int Go.IntKind.i64 20)] H_5 n_6 fun v4_7 H_8 n_9 =>
bindO (buildP P 86 [(0, (Go.Value.int Go.IntKind.i64 50)), (1, v3_4), (2, v4_7)]) fun v5_10 =>
rowK P 33 1 [(0, v5_10)] H_8 n_9 fun v6_11 H_12 n_13 =>
bindO (buildP P 35 [(2, v6_11)]) fun v7_14 =>
allocK P 35 H_12 n_13 fun v1_15 H_16 n_17 =>
bindO (storeP P 35 v1_15 v7_14 H_16) fun H_19 =>
j1 v0_1 v1_15 (Go.Value.int Go.IntKind.i64 0) H_19 n_17
noncomputable def C52_0 (cal : Cal) (k : Nat) (H : Hp) (n : Nat) : Res := B52_0 cal k (S52_1 cal k k)  H n
theorem h52_0 (cal : Cal) (k : Nat) (H : Hp) (n : Nat) : bodyE P cal A (k + 1) 52 [] H n = C52_0 cal k  H n := by
  have h : bodyE P cal A (k + 1) 52 [] H n = B52_0 cal k (fun u0 u1 u2 H n => labK (E52_1 cal k k) (Tr.set (Tr.set (Tr.set Tr.nil 2 (some u2)) 1 (some u1)) 0 (some u0)) H n [])  H n := by
    rw [body_eq (fn := Go.Proofs.Try.f52) (c := code52) (rs := results52) (by kernel_rfl) (by kernel_rfl) (by kernel_rfl) (by kernel_rfl)]
    kernel_rfl
  rw [h, C52_0]
  have e1 : (fun u0 u1 u2 H n => labK (E52_1 cal k k) (Tr.set (Tr.set (Tr.set Tr.nil 2 (some u2)) 1 (some u1)) 0 (some u0)) H n []) = (S52_1 cal k k) := by funext u0 u1 u2 H n; exact q52_1 ..
  rw [e1]
noncomputable def code53 : Code := codeOf 53
noncomputable def results53 : List ResultVar := resOf 53
noncomputable def K53_p (cal : Cal) (k : Nat) : KC (Value × Hp × Nat) := (cutK (A 53).c (codeE P cal (codeF P cal k) none 53 (cR code53) (Lv.b (A 53)) (doneK P results53) X0 (doneK P results53)))
noncomputable def K53_pr (cal : Cal) (k : Nat) : KC (Value × Hp × Nat) := (cutK (Lv.b (A 53)).c (codeE P cal (codeF P cal k) none 53 (cR (cR code53)) (Lv.b (Lv.b (A 53))) (doneK P results53) X0 (doneK P results53)))
noncomputable def K53_prr (cal : Cal) (k : Nat) : KC (Value × Hp × Nat) := (cutK (Lv.b (Lv.b (A 53))).c (codeE P cal (codeF P cal k) none 53 (cR (cR (cR code53))) (Lv.b (Lv.b (Lv.b (A 53)))) (doneK P results53) X0 (doneK P results53)))
noncomputable def K53_prrl (cal : Cal) (k : Nat) : KC (Value × Hp × Nat) := (cutK (Lv.a (Lv.b (Lv.b (A 53)))).c (codeE P cal (codeF P cal k) none 53 (cR (cL (cR (cR code53)))) (Lv.b (Lv.a (Lv.b (Lv.b (A 53))))) (K53_prr cal k) X0 (doneK P results53)))
noncomputable def K53_pxrrlr (cal : Cal) (k : Nat) : XC (Value × Hp × Nat) := (upX 0 (K53_prr cal k) X0)
noncomputable def K53_prrlrl (cal : Cal) (k : Nat) (m1 : Nat) : KC (Value × Hp × Nat) := (fun T H n D => codeF P cal m1 (Lv.a (Lv.b (Lv.a (Lv.b (Lv.b (A 53)))))) none 53 (cL (cR (cL (cR (cR code53))))) (K53_prr cal k) (K53_pxrrlr cal k) (doneK P results53) (cutT (Lv.a (Lv.b (Lv.a (Lv.b (Lv.b (A 53)))))).c T) H n D)
noncomputable def K53_prrlrll (cal : Cal) (k : Nat) (m1 : Nat) : KC (Value × Hp × Nat) := (cutK (Lv.a (Lv.a (Lv.b (Lv.a (Lv.b (Lv.b (A 53))))))).c (codeE P cal (codeF P cal m1) none 53 (cR (cL (cL (cR (cL (cR (cR code53))))))) (Lv.b (Lv.a (Lv.a (Lv.b (Lv.a (Lv.b (Lv.b (A 53)))))))) (K53_prrlrl cal k m1) (K53_pxrrlr cal k) (doneK P results53)))
noncomputable def K53_prrlrlll (cal : Cal) (k : Nat) (m1 : Nat) : KC (Value × Hp × Nat) := (cutK (Lv.a (Lv.a (Lv.a (Lv.b (Lv.a (Lv.b (Lv.b (A 53)))))))).c (codeE P cal (codeF P cal m1) none 53 (cR (cL (cL (cL (cR (cL (cR (cR code53)))))))) (Lv.b (Lv.a (Lv.a (Lv.a (Lv.b (Lv.a (Lv.b (Lv.b (A 53))))))))) (K53_prrlrll cal k m1) (K53_pxrrlr cal k) (doneK P results53)))
noncomputable def K53_prrlrllr (cal : Cal) (k : Nat) (m1 : Nat) : KC (Value × Hp × Nat) := (cutK (Lv.b (Lv.a (Lv.a (Lv.b (Lv.a (Lv.b (Lv.b (A 53)))))))).c (codeE P cal (codeF P cal m1) none 53 (cR (cR (cL (cL (cR (cL (cR (cR code53)))))))) (Lv.b (Lv.b (Lv.a (Lv.a (Lv.b (Lv.a (Lv.b (Lv.b (A 53))))))))) (K53_prrlrl cal k m1) (K53_pxrrlr cal k) (doneK P results53)))
noncomputable def K53_pxrrlrllrl (cal : Cal) (k : Nat) (m1 : Nat) : XC (Value × Hp × Nat) := (upX 1 (K53_prrlrllr cal k m1) (K53_pxrrlr cal k))
noncomputable def K53_prrr (cal : Cal) (k : Nat) : KC (Value × Hp × Nat) := (cutK (Lv.b (Lv.b (Lv.b (A 53)))).c (codeE P cal (codeF P cal k) none 53 (cR (cR (cR (cR code53)))) (Lv.b (Lv.b (Lv.b (Lv.b (A 53))))) (doneK P results53) X0 (doneK P results53)))
noncomputable def E53_1 (cal : Cal) (k m1 : Nat) : KC (Value × Hp × Nat) := codeE P cal (codeF P cal m1) none 53 (cL (cL (cR (cL (cR (cR code53)))))) (Lv.a (Lv.a (Lv.b (Lv.a (Lv.b (Lv.b (A 53))))))) (K53_prrlrl cal k m1) (K53_pxrrlr cal k) (doneK P results53)
noncomputable def R53_1 (cal : Cal) (k m1 : Nat) : Value → Value → Value → Hp → Nat → Res := fun u0 u3 u4 H n => codeF P cal m1 (Lv.a (Lv.b (Lv.a (Lv.b (Lv.b (A 53)))))) none 53 (cL (cR (cL (cR (cR code53))))) (K53_prr cal k) (K53_pxrrlr cal k) (doneK P results53) (Tr.set (Tr.set (Tr.set Tr.nil 4 (some u4)) 3 (some u3)) 0 (some u0)) H n []
noncomputable def B53_1 (cal : Cal) (k m1 : Nat) (b1 : Value → Value → Value → Hp → Nat → Res) (u0 u3 u4 : Value) (H : Hp) (n : Nat) : Res :=
bindO (lenV P 44 u0) fun v8_9 =>
binK P Go.BinOp.lss 3 (Go.Operand.tmp 6) (Go.Operand.tmp 8) u4 v8_9 fun v9_10 =>
ifK v9_10 (
bindO (indexAddrV P 44 u0 u4) fun v15_14 =>
bindO (addrV v15_14) fun a_16 => bindO (loadV P H 3 a_16) fun v16_15 =>
bindO (indexAddrV P 44 u3 v16_15) fun v17_17 =>
bindO (storeP P 3 v17_17 (Go.Value.int Go.IntKind.i64 0) H) fun H_19 =>
binK P Go.BinOp.add 3 (Go.Operand.tmp 10) (Go.Operand.const (Go.Value.int Go.IntKind.i64 1)) u4 (Go.Value.int Go.IntKind.i64 1) fun v11_21 =>
b1 u0 u3 v11_21 H_19 n) (
some (u3, H, n))
noncomputable def C53_1 (cal : Cal) (k m1 : Nat) (b1 : Value → Value → Value → Hp → Nat → Res) (u0 u3 u4 : Value) (H : Hp) (n : Nat) : Res := B53_1 cal k m1 b1 u0 u3 u4 H n
noncomputable def S53_1 (cal : Cal) (k : Nat) : Nat → Value → Value → Value → Hp → Nat → Res := fun m => Nat.rec (motive := fun _ => Value → Value → Value → Hp → Nat → Res) (C53_1 cal k 0 (fun _ _ _ _ _ => none)) (fun m ih => C53_1 cal k (m + 1) ih) m
theorem h53_1 (cal : Cal) (k m1 : Nat) (u0 u3 u4 : Value) (H : Hp) (n : Nat) : labK (E53_1 cal k m1) (Tr.set (Tr.set (Tr.set Tr.nil 4 (some u4)) 3 (some u3)) 0 (some u0)) H n [] = C53_1 cal k m1 (R53_1 cal k m1) u0 u3 u4 H n := by
  have h : labK (E53_1 cal k m1) (Tr.set (Tr.set (Tr.set Tr.nil 4 (some u4)) 3 (some u3)) 0 (some u0)) H n [] = B53_1 cal k m1 (R53_1 cal k m1) u0 u3 u4 H n := by kernel_rfl
  rw [h, C53_1]
theorem q53_1 (cal : Cal) (k : Nat) : ∀ (m : Nat) (u0 u3 u4 : Value) (H : Hp) (n : Nat), labK (E53_1 cal k m) (Tr.set (Tr.set (Tr.set Tr.nil 4 (some u4)) 3 (some u3)) 0 (some u0)) H n [] = S53_1 cal k m u0 u3 u4 H n
  | 0, u0, u3, u4, H, n => by
    rw [h53_1]
    have e : R53_1 cal k 0 = fun _ _ _ _ _ => none := by funext u0 u3 u4 H n; kernel_rfl
    rw [e]; rfl
  | m + 1, u0, u3, u4, H, n => by
    rw [h53_1]
    have e : R53_1 cal k (m + 1) = S53_1 cal k m := by
      funext u0 u3 u4 H n
      have e : R53_1 cal k (m + 1) u0 u3 u4 H n = labK (E53_1 cal k m) (Tr.set (Tr.set (Tr.set Tr.nil 4 (some u4)) 3 (some u3)) 0 (some u0)) H n [] := by kernel_rfl
      rw [e]; exact q53_1 ..
    rw [e]; rfl
noncomputable def B53_0 (cal : Cal) (k : Nat) (j1 : Value → Value → Value → Hp → Nat → Res) (v0 : Value) (H : Hp) (n : Nat) : Res :=
rowK P 44 5 [(0, (Go.Value.int Go.IntKind.i64 (-1))), (1, (Go.Value.int Go.IntKind.i64 (-1))), (2, (Go.Value.int Go.IntKind.i64 (-1))), (3, (Go.Value.int Go.IntKind.i64 (-1))), (4, (Go.Value.int Go.IntKind.i64 (-1)))] H n fun v5_2 H_3 n_4 =>
j1 v0 v5_2 (Go.Value.int Go.IntKind.i64 0) H_3 n_4
noncomputable def C53_0 (cal : Cal) (k : Nat) (v0 : Value) (H : Hp) (n : Nat) : Res := B53_0 cal k (S53_1 cal k k) v0 H n
theorem h53_0 (cal : Cal) (k : Nat) (v0 : Value) (H : Hp) (n : Nat) : bodyE P cal A (k + 1) 53 [v0] H n = C53_0 cal k v0 H n := by
  have h : bodyE P cal A (k + 1) 53 [v0] H n = B53_0 cal k (fun u0 u3 u4 H n => labK (E53_1 cal k k) (Tr.set (Tr.set (Tr.set Tr.nil 4 (some u4)) 3 (some u3)) 0 (some u0)) H n []) v0 H n := by
    rw [body_eq (fn := Go.Proofs.Try.f53) (c := code53) (rs := results53) (by kernel_rfl) (by kernel_rfl) (by kernel_rfl) (by kernel_rfl)]
    kernel_rfl
  rw [h, C53_0]
  have e1 : (fun u0 u3 u4 H n => labK (E53_1 cal k k) (Tr.set (Tr.set (Tr.set Tr.nil 4 (some u4)) 3 (some u3)) 0 (some u0)) H n []) = (S53_1 cal k k) := by funext u0 u3 u4 H n; exact q53_1 ..
  rw [e1]
noncomputable def code54 : Code := codeOf 54
noncomputable def results54 : List ResultVar := resOf 54
noncomputable def K54_p (cal : Cal) (k : Nat) : KC (Value × Hp × Nat) := (cutK (A 54).c (codeE P cal (codeF P cal k) none 54 (cR code54) (Lv.b (A 54)) (doneK P results54) X0 (doneK P results54)))
noncomputable def K54_pr (cal : Cal) (k : Nat) : KC (Value × Hp × Nat) := (cutK (Lv.b (A 54)).c (codeE P cal (codeF P cal k) none 54 (cR (cR code54)) (Lv.b (Lv.b (A 54))) (doneK P results54) X0 (doneK P results54)))
noncomputable def B54_0 (cal : Cal) (k : Nat) (v0 v1 : Value) (H : Hp) (n : Nat) : Res :=
allocK P 53 H n fun v4_1 H_2 n_3 =>
bindO (buildP P 53 [(0, v0), (1, v1)]) fun v7_6 =>
bindO (storeP P 53 v4_1 v7_6 H_2) fun H_8 =>
bindO (resV P (Tr.set Tr.nil 4 (some v4_1)) H_8 results54) fun vs_9 => some (oneV vs_9, H_8, n_3)
noncomputable def C54_0 (cal : Cal) (k : Nat) (v0 v1 : Value) (H : Hp) (n : Nat) : Res := B54_0 cal k v0 v1 H n
theorem h54_0 (cal : Cal) (k : Nat) (v0 v1 : Value) (H : Hp) (n : Nat) : bodyE P cal A (k + 1) 54 [v0, v1] H n = C54_0 cal k v0 v1 H n := by
  have h : bodyE P cal A (k + 1) 54 [v0, v1] H n = B54_0 cal k v0 v1 H n := by
    rw [body_eq (fn := Go.Proofs.Try.f54) (c := code54) (rs := results54) (by kernel_rfl) (by kernel_rfl) (by kernel_rfl) (by kernel_rfl)]
    kernel_rfl
  rw [h, C54_0]
noncomputable def code60 : Code := codeOf 60
noncomputable def results60 : List ResultVar := resOf 60
noncomputable def K60_p (cal : Cal) (k : Nat) : KC (Value × Hp × Nat) := (cutK (A 60).c (codeE P cal (codeF P cal k) none 60 (cR code60) (Lv.b (A 60)) (doneK P results60) X0 (doneK P results60)))
noncomputable def K60_pr (cal : Cal) (k : Nat) : KC (Value × Hp × Nat) := (cutK (Lv.b (A 60)).c (codeE P cal (codeF P cal k) none 60 (cR (cR code60)) (Lv.b (Lv.b (A 60))) (doneK P results60) X0 (doneK P results60)))
noncomputable def K60_pxrl (cal : Cal) (k : Nat) : XC (Value × Hp × Nat) := (upX 0 (K60_pr cal k) X0)
noncomputable def K60_prllrl (cal : Cal) (k : Nat) : KC (Value × Hp × Nat) := (cutK (Lv.a (Lv.b (Lv.a (Lv.a (Lv.b (A 60)))))).c (codeE P cal (codeF P cal k) none 60 (cR (cL (cR (cL (cL (cR code60)))))) (Lv.b (Lv.a (Lv.b (Lv.a (Lv.a (Lv.b (A 60))))))) (K60_pr cal k) (K60_pxrl cal k) (doneK P results60)))
noncomputable def K60_prllrrrl (cal : Cal) (k : Nat) : KC (Value × Hp × Nat) := (cutK (Lv.a (Lv.b (Lv.b (Lv.b (Lv.a (Lv.a (Lv.b (A 60)))))))).c (codeE P cal (codeF P cal k) none 60 (cR (cL (cR (cR (cR (cL (cL (cR code60)))))))) (Lv.b (Lv.a (Lv.b (Lv.b (Lv.b (Lv.a (Lv.a (Lv.b (A 60))))))))) (K60_pr cal k) (K60_pxrl cal k) (doneK P results60)))
noncomputable def K60_prllrrrrrl (cal : Cal) (k : Nat) : KC (Value × Hp × Nat) := (cutK (Lv.a (Lv.b (Lv.b (Lv.b (Lv.b (Lv.b (Lv.a (Lv.a (Lv.b (A 60)))))))))).c (codeE P cal (codeF P cal k) none 60 (cR (cL (cR (cR (cR (cR (cR (cL (cL (cR code60)))))))))) (Lv.b (Lv.a (Lv.b (Lv.b (Lv.b (Lv.b (Lv.b (Lv.a (Lv.a (Lv.b (A 60))))))))))) (K60_pr cal k) (K60_pxrl cal k) (doneK P results60)))
noncomputable def K60_prr (cal : Cal) (k : Nat) : KC (Value × Hp × Nat) := (cutK (Lv.b (Lv.b (A 60))).c (codeE P cal (codeF P cal k) none 60 (cR (cR (cR code60))) (Lv.b (Lv.b (Lv.b (A 60)))) (doneK P results60) X0 (doneK P results60)))
noncomputable def K60_prllrrrr (cal : Cal) (k : Nat) : KC (Value × Hp × Nat) := (cutK (Lv.b (Lv.b (Lv.b (Lv.b (Lv.a (Lv.a (Lv.b (A 60)))))))).c (codeE P cal (codeF P cal k) none 60 (cR (cR (cR (cR (cR (cL (cL (cR code60)))))))) (Lv.b (Lv.b (Lv.b (Lv.b (Lv.b (Lv.a (Lv.a (Lv.b (A 60))))))))) (K60_pr cal k) (K60_pxrl cal k) (doneK P results60)))
noncomputable def K60_prllrrrrl (cal : Cal) (k : Nat) : KC (Value × Hp × Nat) := (cutK (Lv.a (Lv.b (Lv.b (Lv.b (Lv.b (Lv.a (Lv.a (Lv.b (A 60))))))))).c (codeE P cal (codeF P cal k) none 60 (cR (cL (cR (cR (cR (cR (cL (cL (cR code60))))))))) (Lv.b (Lv.a (Lv.b (Lv.b (Lv.b (Lv.b (Lv.a (Lv.a (Lv.b (A 60)))))))))) (K60_prllrrrr cal k) (K60_pxrl cal k) (doneK P results60)))
noncomputable def K60_prllrrrrlrr (cal : Cal) (k : Nat) : KC (Value × Hp × Nat) := (cutK (Lv.b (Lv.b (Lv.a (Lv.b (Lv.b (Lv.b (Lv.b (Lv.a (Lv.a (Lv.b (A 60))))))))))).c (codeE P cal (codeF P cal k) none 60 (cR (cR (cR (cL (cR (cR (cR (cR (cL (cL (cR code60))))))))))) (Lv.b (Lv.b (Lv.b (Lv.a (Lv.b (Lv.b (Lv.b (Lv.b (Lv.a (Lv.a (Lv.b (A 60)))))))))))) (K60_prllrrrr cal k) (K60_pxrl cal k) (doneK P results60)))
noncomputable def K60_prllrr (cal : Cal) (k : Nat) : KC (Value × Hp × Nat) := (cutK (Lv.b (Lv.b (Lv.a (Lv.a (Lv.b (A 60)))))).c (codeE P cal (codeF P cal k) none 60 (cR (cR (cR (cL (cL (cR code60)))))) (Lv.b (Lv.b (Lv.b (Lv.a (Lv.a (Lv.b (A 60))))))) (K60_pr cal k) (K60_pxrl cal k) (doneK P results60)))
noncomputable def K60_prllrrl (cal : Cal) (k : Nat) : KC (Value × Hp × Nat) := (cutK (Lv.a (Lv.b (Lv.b (Lv.a (Lv.a (Lv.b (A 60))))))).c (codeE P cal (codeF P cal k) none 60 (cR (cL (cR (cR (cL (cL (cR code60))))))) (Lv.b (Lv.a (Lv.b (Lv.b (Lv.a (Lv.a (Lv.b (A 60)))))))) (K60_prllrr cal k) (K60_pxrl cal k) (doneK P results60)))
noncomputable def K60_prll (cal : Cal) (k : Nat) : KC (Value × Hp × Nat) := (cutK (Lv.a (Lv.a (Lv.b (A 60)))).c (codeE P cal (codeF P cal k) none 60 (cR (cL (cL (cR code60)))) (Lv.b (Lv.a (Lv.a (Lv.b (A 60))))) (K60_pr cal k) (K60_pxrl cal k) (doneK P results60)))
noncomputable def K60_prlll (cal : Cal) (k : Nat) : KC (Value × Hp × Nat) := (cutK (Lv.a (Lv.a (Lv.a (Lv.b (A 60))))).c (codeE P cal (codeF P cal k) none 60 (cR (cL (cL (cL (cR code60))))) (Lv.b (Lv.a (Lv.a (Lv.a (Lv.b (A 60)))))) (K60_prll cal k) (K60_pxrl cal k) (doneK P results60)))
noncomputable def K60_prlllrr (cal : Cal) (k : Nat) : KC (Value × Hp × Nat) := (cutK (Lv.b (Lv.b (Lv.a (Lv.a (Lv.a (Lv.b (A 60))))))).c (codeE P cal (codeF P cal k) none 60 (cR (cR (cR (cL (cL (cL (cR code60))))))) (Lv.b (Lv.b (Lv.b (Lv.a (Lv.a (Lv.a (Lv.b (A 60)))))))) (K60_prll cal k) (K60_pxrl cal k) (doneK P results60)))
noncomputable def E60_3 (cal : Cal) (k : Nat) : KC (Value × Hp × Nat) := codeE P cal (codeF P cal k) none 60 (cR (cR (cR (cR (cR (cL (cL (cR code60)))))))) (Lv.b (Lv.b (Lv.b (Lv.b (Lv.b (Lv.a (Lv.a (Lv.b (A 60))))))))) (K60_pr cal k) (K60_pxrl cal k) (doneK P results60)
noncomputable def E60_2 (cal : Cal) (k : Nat) : KC (Value × Hp × Nat) := codeE P cal (codeF P cal k) none 60 (cR (cR (cR (cL (cL (cR code60)))))) (Lv.b (Lv.b (Lv.b (Lv.a (Lv.a (Lv.b (A 60))))))) (K60_pr cal k) (K60_pxrl cal k) (doneK P results60)
noncomputable def E60_1 (cal : Cal) (k : Nat) : KC (Value × Hp × Nat) := codeE P cal (codeF P cal k) none 60 (cR (cL (cL (cR code60)))) (Lv.b (Lv.a (Lv.a (Lv.b (A 60))))) (K60_pr cal k) (K60_pxrl cal k) (doneK P results60)
noncomputable def B60_3 (cal : Cal) (k : Nat) (u25 : Value) (H : Hp) (n : Nat) : Res :=
ifK u25 (
some ((Go.Value.int Go.IntKind.i64 1), H, n)) (
some ((Go.Value.int Go.IntKind.i64 0), H, n))
noncomputable def C60_3 (cal : Cal) (k : Nat) (u25 : Value) (H : Hp) (n : Nat) : Res := B60_3 cal k u25 H n
theorem h60_3 (cal : Cal) (k : Nat) (u25 : Value) (H : Hp) (n : Nat) : labK (E60_3 cal k) (Tr.set Tr.nil 25 (some u25)) H n [] = C60_3 cal k u25 H n := by
  have h : labK (E60_3 cal k) (Tr.set Tr.nil 25 (some u25)) H n [] = B60_3 cal k u25 H n := by kernel_rfl
  rw [h, C60_3]
theorem q60_3 (cal : Cal) (k : Nat) (u25 : Value) (H : Hp) (n : Nat) : labK (E60_3 cal k) (Tr.set Tr.nil 25 (some u25)) H n [] = C60_3 cal k u25 H n := h60_3 ..
noncomputable def B60_2 (cal : Cal) (k : Nat) (j3 : Value → Hp → Nat → Res) (u1 u16 : Value) (H : Hp) (n : Nat) : Res :=
ifK u16 (
some ((Go.Value.int Go.IntKind.i64 1), H, n)) (
bindO (fieldAddrV P 35 u1 0) fun v26_9 =>
bindO (addrV v26_9) fun a_11 => bindO (loadV P H 31 a_11) fun v27_10 =>
callFK P cal 91 [v27_10, (Value.func (.func 92) #[] #[])] H n fun v28_12 H_13 n_14 =>
bindO (pureSem P v28_12 (Op.unary Go.UnOp.not v28_12)) fun v29_15 =>
ifK v29_15 (
j3 v29_15 H_13 n_14) (
bindO (fieldAddrV P 35 u1 1) fun v30_17 =>
bindO (addrV v30_17) fun a_19 => bindO (loadV P H_13 32 a_19) fun v31_18 =>
bindO (addrV u1) fun a_21 => bindO (loadV P H_13 35 a_21) fun v32_20 =>
callFK P cal 93 [v31_18, (Value.func (Go.Fn.func 94) ⟨[v32_20]⟩ ⟨[]⟩)] H_13 n_14 fun v34_23 H_24 n_25 =>
bindO (pureSem P v34_23 (Op.unary Go.UnOp.not v34_23)) fun v35_26 =>
ifK v35_26 (
j3 v35_26 H_24 n_25) (
bindO (fieldAddrV P 35 u1 2) fun v36_28 =>
bindO (addrV v36_28) fun a_30 => bindO (loadV P H_24 33 a_30) fun v37_29 =>
callFK P cal 95 [v37_29, (Value.func (.func 96) #[] #[])] H_24 n_25 fun v38_31 H_32 n_33 =>
bindO (pureSem P v38_31 (Op.unary Go.UnOp.not v38_31)) fun v39_34 =>
j3 v39_34 H_32 n_33)))
noncomputable def C60_2 (cal : Cal) (k : Nat) (u1 u16 : Value) (H : Hp) (n : Nat) : Res := B60_2 cal k (C60_3 cal k) u1 u16 H n
theorem h60_2 (cal : Cal) (k : Nat) (u1 u16 : Value) (H : Hp) (n : Nat) : labK (E60_2 cal k) (Tr.set (Tr.set Tr.nil 16 (some u16)) 1 (some u1)) H n [] = C60_2 cal k u1 u16 H n := by
  have h : labK (E60_2 cal k) (Tr.set (Tr.set Tr.nil 16 (some u16)) 1 (some u1)) H n [] = B60_2 cal k (fun u25 H n => labK (E60_3 cal k) (Tr.set Tr.nil 25 (some u25)) H n []) u1 u16 H n := by kernel_rfl
  rw [h, C60_2]
  have e3 : (fun u25 H n => labK (E60_3 cal k) (Tr.set Tr.nil 25 (some u25)) H n []) = (C60_3 cal k) := by funext u25 H n; exact q60_3 ..
  rw [e3]
theorem q60_2 (cal : Cal) (k : Nat) (u1 u16 : Value) (H : Hp) (n : Nat) : labK (E60_2 cal k) (Tr.set (Tr.set Tr.nil 16 (some u16)) 1 (some u1)) H n [] = C60_2 cal k u1 u16 H n := h60_2 ..
noncomputable def B60_1 (cal : Cal) (k : Nat) (j2 : Value → Value → Hp → Nat → Res) (u1 u3 : Value) (H : Hp) (n : Nat) : Res :=
ifK u3 (
some ((Go.Value.int Go.IntKind.i64 3), H, n)) (
bindO (fieldAddrV P 35 u1 0) fun v17_36 =>
bindO (addrV v17_36) fun a_38 => bindO (loadV P H 31 a_38) fun v18_37 =>
bindO (lenV P 31 v18_37) fun v19_39 =>
binK P Go.BinOp.eql 3 (Go.Operand.tmp 19) (Go.Operand.const (Go.Value.int Go.IntKind.i64 0)) v19_39 (Go.Value.int Go.IntKind.i64 0) fun v20_40 =>
ifK v20_40 (
j2 u1 v20_40 H n) (
bindO (fieldAddrV P 35 u1 2) fun v21_42 =>
bindO (addrV v21_42) fun a_44 => bindO (loadV P H 33 a_44) fun v22_43 =>
bindO (lenV P 33 v22_43) fun v23_45 =>
binK P Go.BinOp.eql 3 (Go.Operand.tmp 23) (Go.Operand.const (Go.Value.int Go.IntKind.i64 0)) v23_45 (Go.Value.int Go.IntKind.i64 0) fun v24_46 =>
j2 u1 v24_46 H n))
noncomputable def C60_1 (cal : Cal) (k : Nat) (u1 u3 : Value) (H : Hp) (n : Nat) : Res := B60_1 cal k (C60_2 cal k) u1 u3 H n
theorem h60_1 (cal : Cal) (k : Nat) (u1 u3 : Value) (H : Hp) (n : Nat) : labK (E60_1 cal k) (Tr.set (Tr.set Tr.nil 3 (some u3)) 1 (some u1)) H n [] = C60_1 cal k u1 u3 H n := by
  have h : labK (E60_1 cal k) (Tr.set (Tr.set Tr.nil 3 (some u3)) 1 (some u1)) H n [] = B60_1 cal k (fun u1 u16 H n => labK (E60_2 cal k) (Tr.set (Tr.set Tr.nil 16 (some u16)) 1 (some u1)) H n []) u1 u3 H n := by kernel_rfl
  rw [h, C60_1]
  have e2 : (fun u1 u16 H n => labK (E60_2 cal k) (Tr.set (Tr.set Tr.nil 16 (some u16)) 1 (some u1)) H n []) = (C60_2 cal k) := by funext u1 u16 H n; exact q60_2 ..
  rw [e2]
theorem q60_1 (cal : Cal) (k : Nat) (u1 u3 : Value) (H : Hp) (n : Nat) : labK (E60_1 cal k) (Tr.set (Tr.set Tr.nil 3 (some u3)) 1 (some u1)) H n [] = C60_1 cal k u1 u3 H n := h60_1 ..
noncomputable def B60_0 (cal : Cal) (k : Nat) (j1 : Value → Value → Hp → Nat → Res) (v0 : Value) (H : Hp) (n : Nat) : Res :=
boxK 35 v0 H n fun v1_1 H_2 n_3 =>
bindO (fieldAddrV P 35 v1_1 0) fun v4_48 =>
bindO (addrV v4_48) fun a_50 => bindO (loadV P H_2 31 a_50) fun v5_49 =>
bindO (lenV P 31 v5_49) fun v6_51 =>
binK P Go.BinOp.gtr 3 (Go.Operand.tmp 6) (Go.Operand.const (Go.Value.int Go.IntKind.i64 8)) v6_51 (Go.Value.int Go.IntKind.i64 8) fun v7_52 =>
ifK v7_52 (
j1 v1_1 v7_52 H_2 n_3) (
bindO (fieldAddrV P 35 v1_1 1) fun v8_54 =>
bindO (addrV v8_54) fun a_56 => bindO (loadV P H_2 32 a_56) fun v9_55 =>
bindO (lenV P 32 v9_55) fun v10_57 =>
binK P Go.BinOp.gtr 3 (Go.Operand.tmp 10) (Go.Operand.const (Go.Value.int Go.IntKind.i64 16)) v10_57 (Go.Value.int Go.IntKind.i64 16) fun v11_58 =>
ifK v11_58 (
j1 v1_1 v11_58 H_2 n_3) (
bindO (fieldAddrV P 35 v1_1 2) fun v12_60 =>
bindO (addrV v12_60) fun a_62 => bindO (loadV P H_2 33 a_62) fun v13_61 =>
bindO (lenV P 33 v13_61) fun v14_63 =>
binK P Go.BinOp.gtr 3 (Go.Operand.tmp 14) (Go.Operand.const (Go.Value.int Go.IntKind.i64 3)) v14_63 (Go.Value.int Go.IntKind.i64 3) fun v15_64 =>
j1 v1_1 v15_64 H_2 n_3))
noncomputable def C60_0 (cal : Cal) (k : Nat) (v0 : Value) (H : Hp) (n : Nat) : Res := B60_0 cal k (C60_1 cal k) v0 H n
theorem h60_0 (cal : Cal) (k : Nat) (v0 : Value) (H : Hp) (n : Nat) : bodyE P cal A (k + 1) 60 [v0] H n = C60_0 cal k v0 H n := by
  have h : bodyE P cal A (k + 1) 60 [v0] H n = B60_0 cal k (fun u1 u3 H n => labK (E60_1 cal k) (Tr.set (Tr.set Tr.nil 3 (some u3)) 1 (some u1)) H n []) v0 H n := by
    rw [body_eq (fn := Go.Proofs.Try.f60) (c := code60) (rs := results60) (by kernel_rfl) (by kernel_rfl) (by kernel_rfl) (by kernel_rfl)]
    kernel_rfl
  rw [h, C60_0]
  have e1 : (fun u1 u3 H n => labK (E60_1 cal k) (Tr.set (Tr.set Tr.nil 3 (some u3)) 1 (some u1)) H n []) = (C60_1 cal k) := by funext u1 u3 H n; exact q60_1 ..
  rw [e1]
noncomputable def code61 : Code := codeOf 61
noncomputable def results61 : List ResultVar := resOf 61
noncomputable def K61_p (cal : Cal) (k : Nat) : KC (Value × Hp × Nat) := (cutK (A 61).c (codeE P cal (codeF P cal k) none 61 (cR code61) (Lv.b (A 61)) (doneK P results61) X0 (doneK P results61)))
noncomputable def K61_pr (cal : Cal) (k : Nat) : KC (Value × Hp × Nat) := (cutK (Lv.b (A 61)).c (codeE P cal (codeF P cal k) none 61 (cR (cR code61)) (Lv.b (Lv.b (A 61))) (doneK P results61) X0 (doneK P results61)))
noncomputable def K61_prl (cal : Cal) (k : Nat) : KC (Value × Hp × Nat) := (cutK (Lv.a (Lv.b (A 61))).c (codeE P cal (codeF P cal k) none 61 (cR (cL (cR code61))) (Lv.b (Lv.a (Lv.b (A 61)))) (K61_pr cal k) X0 (doneK P results61)))
noncomputable def K61_prlr (cal : Cal) (k : Nat) : KC (Value × Hp × Nat) := (cutK (Lv.b (Lv.a (Lv.b (A 61)))).c (codeE P cal (codeF P cal k) none 61 (cR (cR (cL (cR code61)))) (Lv.b (Lv.b (Lv.a (Lv.b (A 61))))) (K61_pr cal k) X0 (doneK P results61)))
noncomputable def K61_prlrrl (cal : Cal) (k : Nat) : KC (Value × Hp × Nat) := (cutK (Lv.a (Lv.b (Lv.b (Lv.a (Lv.b (A 61)))))).c (codeE P cal (codeF P cal k) none 61 (cR (cL (cR (cR (cL (cR code61)))))) (Lv.b (Lv.a (Lv.b (Lv.b (Lv.a (Lv.b (A 61))))))) (K61_pr cal k) X0 (doneK P results61)))
noncomputable def K61_prr (cal : Cal) (k : Nat) : KC (Value × Hp × Nat) := (cutK (Lv.b (Lv.b (A 61))).c (codeE P cal (codeF P cal k) none 61 (cR (cR (cR code61))) (Lv.b (Lv.b (Lv.b (A 61)))) (doneK P results61) X0 (doneK P results61)))
noncomputable def K61_prrr (cal : Cal) (k : Nat) : KC (Value × Hp × Nat) := (cutK (Lv.b (Lv.b (Lv.b (A 61)))).c (codeE P cal (codeF P cal k) none 61 (cR (cR (cR (cR code61)))) (Lv.b (Lv.b (Lv.b (Lv.b (A 61))))) (doneK P results61) X0 (doneK P results61)))
noncomputable def K61_prrrl (cal : Cal) (k : Nat) : KC (Value × Hp × Nat) := (cutK (Lv.a (Lv.b (Lv.b (Lv.b (A 61))))).c (codeE P cal (codeF P cal k) none 61 (cR (cL (cR (cR (cR code61))))) (Lv.b (Lv.a (Lv.b (Lv.b (Lv.b (A 61)))))) (K61_prrr cal k) X0 (doneK P results61)))
noncomputable def K61_pxrrrlr (cal : Cal) (k : Nat) : XC (Value × Hp × Nat) := (upX 0 (K61_prrr cal k) X0)
noncomputable def K61_prrrlrl (cal : Cal) (k : Nat) (m1 : Nat) : KC (Value × Hp × Nat) := (fun T H n D => codeF P cal m1 (Lv.a (Lv.b (Lv.a (Lv.b (Lv.b (Lv.b (A 61))))))) none 61 (cL (cR (cL (cR (cR (cR code61)))))) (K61_prrr cal k) (K61_pxrrrlr cal k) (doneK P results61) (cutT (Lv.a (Lv.b (Lv.a (Lv.b (Lv.b (Lv.b (A 61))))))).c T) H n D)
noncomputable def K61_prrrlrll (cal : Cal) (k : Nat) (m1 : Nat) : KC (Value × Hp × Nat) := (cutK (Lv.a (Lv.a (Lv.b (Lv.a (Lv.b (Lv.b (Lv.b (A 61)))))))).c (codeE P cal (codeF P cal m1) none 61 (cR (cL (cL (cR (cL (cR (cR (cR code61)))))))) (Lv.b (Lv.a (Lv.a (Lv.b (Lv.a (Lv.b (Lv.b (Lv.b (A 61))))))))) (K61_prrrlrl cal k m1) (K61_pxrrrlr cal k) (doneK P results61)))
noncomputable def K61_prrrlrllr (cal : Cal) (k : Nat) (m1 : Nat) : KC (Value × Hp × Nat) := (cutK (Lv.b (Lv.a (Lv.a (Lv.b (Lv.a (Lv.b (Lv.b (Lv.b (A 61))))))))).c (codeE P cal (codeF P cal m1) none 61 (cR (cR (cL (cL (cR (cL (cR (cR (cR code61))))))))) (Lv.b (Lv.b (Lv.a (Lv.a (Lv.b (Lv.a (Lv.b (Lv.b (Lv.b (A 61)))))))))) (K61_prrrlrl cal k m1) (K61_pxrrrlr cal k) (doneK P results61)))
noncomputable def K61_prrrlrllrr (cal : Cal) (k : Nat) (m1 : Nat) : KC (Value × Hp × Nat) := (cutK (Lv.b (Lv.b (Lv.a (Lv.a (Lv.b (Lv.a (Lv.b (Lv.b (Lv.b (A 61)))))))))).c (codeE P cal (codeF P cal m1) none 61 (cR (cR (cR (cL (cL (cR (cL (cR (cR (cR code61)))))))))) (Lv.b (Lv.b (Lv.b (Lv.a (Lv.a (Lv.b (Lv.a (Lv.b (Lv.b (Lv.b (A 61))))))))))) (K61_prrrlrl cal k m1) (K61_pxrrrlr cal k) (doneK P results61)))
noncomputable def K61_pxrrrlrllrrl (cal : Cal) (k : Nat) (m1 : Nat) : XC (Value × Hp × Nat) := (upX 1 (K61_prrrlrllrr cal k m1) (K61_pxrrrlr cal k))
noncomputable def K61_prrrlrllrrll (cal : Cal) (k : Nat) (m1 : Nat) : KC (Value × Hp × Nat) := (cutK (Lv.a (Lv.a (Lv.b (Lv.b (Lv.a (Lv.a (Lv.b (Lv.a (Lv.b (Lv.b (Lv.b (A 61)))))))))))).c (codeE P cal (codeF P cal m1) none 61 (cR (cL (cL (cR (cR (cL (cL (cR (cL (cR (cR (cR code61)))))))))))) (Lv.b (Lv.a (Lv.a (Lv.b (Lv.b (Lv.a (Lv.a (Lv.b (Lv.a (Lv.b (Lv.b (Lv.b (A 61))))))))))))) (K61_prrrlrllrr cal k m1) (K61_pxrrrlrllrrl cal k m1) (doneK P results61)))
noncomputable def K61_prrrr (cal : Cal) (k : Nat) : KC (Value × Hp × Nat) := (cutK (Lv.b (Lv.b (Lv.b (Lv.b (A 61))))).c (codeE P cal (codeF P cal k) none 61 (cR (cR (cR (cR (cR code61))))) (Lv.b (Lv.b (Lv.b (Lv.b (Lv.b (A 61)))))) (doneK P results61) X0 (doneK P results61)))
noncomputable def K61_prrrrl (cal : Cal) (k : Nat) : KC (Value × Hp × Nat) := (cutK (Lv.a (Lv.b (Lv.b (Lv.b (Lv.b (A 61)))))).c (codeE P cal (codeF P cal k) none 61 (cR (cL (cR (cR (cR (cR code61)))))) (Lv.b (Lv.a (Lv.b (Lv.b (Lv.b (Lv.b (A 61))))))) (K61_prrrr cal k) X0 (doneK P results61)))
noncomputable def K61_pxrrrrlr (cal : Cal) (k : Nat) : XC (Value × Hp × Nat) := (upX 2 (K61_prrrr cal k) X0)
noncomputable def K61_prrrrlrl (cal : Cal) (k : Nat) (m1 : Nat) : KC (Value × Hp × Nat) := (fun T H n D => codeF P cal m1 (Lv.a (Lv.b (Lv.a (Lv.b (Lv.b (Lv.b (Lv.b (A 61)))))))) none 61 (cL (cR (cL (cR (cR (cR (cR code61))))))) (K61_prrrr cal k) (K61_pxrrrrlr cal k) (doneK P results61) (cutT (Lv.a (Lv.b (Lv.a (Lv.b (Lv.b (Lv.b (Lv.b (A 61)))))))).c T) H n D)
noncomputable def K61_prrrrlrll (cal : Cal) (k : Nat) (m1 : Nat) : KC (Value × Hp × Nat) := (cutK (Lv.a (Lv.a (Lv.b (Lv.a (Lv.b (Lv.b (Lv.b (Lv.b (A 61))))))))).c (codeE P cal (codeF P cal m1) none 61 (cR (cL (cL (cR (cL (cR (cR (cR (cR code61))))))))) (Lv.b (Lv.a (Lv.a (Lv.b (Lv.a (Lv.b (Lv.b (Lv.b (Lv.b (A 61)))))))))) (K61_prrrrlrl cal k m1) (K61_pxrrrrlr cal k) (doneK P results61)))
noncomputable def K61_prrrrlrllr (cal : Cal) (k : Nat) (m1 : Nat) : KC (Value × Hp × Nat) := (cutK (Lv.b (Lv.a (Lv.a (Lv.b (Lv.a (Lv.b (Lv.b (Lv.b (Lv.b (A 61)))))))))).c (codeE P cal (codeF P cal m1) none 61 (cR (cR (cL (cL (cR (cL (cR (cR (cR (cR code61)))))))))) (Lv.b (Lv.b (Lv.a (Lv.a (Lv.b (Lv.a (Lv.b (Lv.b (Lv.b (Lv.b (A 61))))))))))) (K61_prrrrlrl cal k m1) (K61_pxrrrrlr cal k) (doneK P results61)))
noncomputable def K61_prrrrlrllrr (cal : Cal) (k : Nat) (m1 : Nat) : KC (Value × Hp × Nat) := (cutK (Lv.b (Lv.b (Lv.a (Lv.a (Lv.b (Lv.a (Lv.b (Lv.b (Lv.b (Lv.b (A 61))))))))))).c (codeE P cal (codeF P cal m1) none 61 (cR (cR (cR (cL (cL (cR (cL (cR (cR (cR (cR code61))))))))))) (Lv.b (Lv.b (Lv.b (Lv.a (Lv.a (Lv.b (Lv.a (Lv.b (Lv.b (Lv.b (Lv.b (A 61)))))))))))) (K61_prrrrlrl cal k m1) (K61_pxrrrrlr cal k) (doneK P results61)))
noncomputable def K61_pxrrrrlrllrrl (cal : Cal) (k : Nat) (m1 : Nat) : XC (Value × Hp × Nat) := (upX 3 (K61_prrrrlrllrr cal k m1) (K61_pxrrrrlr cal k))
noncomputable def K61_prrrrlrllrrll (cal : Cal) (k : Nat) (m1 : Nat) : KC (Value × Hp × Nat) := (cutK (Lv.a (Lv.a (Lv.b (Lv.b (Lv.a (Lv.a (Lv.b (Lv.a (Lv.b (Lv.b (Lv.b (Lv.b (A 61))))))))))))).c (codeE P cal (codeF P cal m1) none 61 (cR (cL (cL (cR (cR (cL (cL (cR (cL (cR (cR (cR (cR code61))))))))))))) (Lv.b (Lv.a (Lv.a (Lv.b (Lv.b (Lv.a (Lv.a (Lv.b (Lv.a (Lv.b (Lv.b (Lv.b (Lv.b (A 61)))))))))))))) (K61_prrrrlrllrr cal k m1) (K61_pxrrrrlrllrrl cal k m1) (doneK P results61)))
noncomputable def K61_prrrrlrllrrllr (cal : Cal) (k : Nat) (m1 : Nat) : KC (Value × Hp × Nat) := (cutK (Lv.b (Lv.a (Lv.a (Lv.b (Lv.b (Lv.a (Lv.a (Lv.b (Lv.a (Lv.b (Lv.b (Lv.b (Lv.b (A 61)))))))))))))).c (codeE P cal (codeF P cal m1) none 61 (cR (cR (cL (cL (cR (cR (cL (cL (cR (cL (cR (cR (cR (cR code61)))))))))))))) (Lv.b (Lv.b (Lv.a (Lv.a (Lv.b (Lv.b (Lv.a (Lv.a (Lv.b (Lv.a (Lv.b (Lv.b (Lv.b (Lv.b (A 61))))))))))))))) (K61_prrrrlrllrr cal k m1) (K61_pxrrrrlrllrrl cal k m1) (doneK P results61)))
noncomputable def K61_pxrrrrlrllrrllrr (cal : Cal) (k : Nat) (m1 : Nat) : XC (Value × Hp × Nat) := (upX 4 (K61_prrrrlrllrr cal k m1) (K61_pxrrrrlrllrrl cal k m1))
noncomputable def K61_prrrrlrllrrllrrl (cal : Cal) (k : Nat) (m1 : Nat) (m2 : Nat) : KC (Value × Hp × Nat) := (fun T H n D => codeF P cal m2 (Lv.a (Lv.b (Lv.b (Lv.a (Lv.a (Lv.b (Lv.b (Lv.a (Lv.a (Lv.b (Lv.a (Lv.b (Lv.b (Lv.b (Lv.b (A 61)))))))))))))))) none 61 (cL (cR (cR (cL (cL (cR (cR (cL (cL (cR (cL (cR (cR (cR (cR code61))))))))))))))) (K61_prrrrlrllrr cal k m1) (K61_pxrrrrlrllrrllrr cal k m1) (doneK P results61) (cutT (Lv.a (Lv.b (Lv.b (Lv.a (Lv.a (Lv.b (Lv.b (Lv.a (Lv.a (Lv.b (Lv.a (Lv.b (Lv.b (Lv.b (Lv.b (A 61)))))))))))))))).c T) H n D)
noncomputable def K61_prrrrlrllrrllrrll (cal : Cal) (k : Nat) (m1 : Nat) (m2 : Nat) : KC (Value × Hp × Nat) := (cutK (Lv.a (Lv.a (Lv.b (Lv.b (Lv.a (Lv.a (Lv.b (Lv.b (Lv.a (Lv.a (Lv.b (Lv.a (Lv.b (Lv.b (Lv.b (Lv.b (A 61))))))))))))))))).c (codeE P cal (codeF P cal m2) none 61 (cR (cL (cL (cR (cR (cL (cL (cR (cR (cL (cL (cR (cL (cR (cR (cR (cR code61))))))))))))))))) (Lv.b (Lv.a (Lv.a (Lv.b (Lv.b (Lv.a (Lv.a (Lv.b (Lv.b (Lv.a (Lv.a (Lv.b (Lv.a (Lv.b (Lv.b (Lv.b (Lv.b (A 61)))))))))))))))))) (K61_prrrrlrllrrllrrl cal k m1 m2) (K61_pxrrrrlrllrrllrr cal k m1) (doneK P results61)))
noncomputable def K61_prrrrlrllrrllrrllr (cal : Cal) (k : Nat) (m1 : Nat) (m2 : Nat) : KC (Value × Hp × Nat) := (cutK (Lv.b (Lv.a (Lv.a (Lv.b (Lv.b (Lv.a (Lv.a (Lv.b (Lv.b (Lv.a (Lv.a (Lv.b (Lv.a (Lv.b (Lv.b (Lv.b (Lv.b (A 61)))))))))))))))))).c (codeE P cal (codeF P cal m2) none 61 (cR (cR (cL (cL (cR (cR (cL (cL (cR (cR (cL (cL (cR (cL (cR (cR (cR (cR code61)))))))))))))))))) (Lv.b (Lv.b (Lv.a (Lv.a (Lv.b (Lv.b (Lv.a (Lv.a (Lv.b (Lv.b (Lv.a (Lv.a (Lv.b (Lv.a (Lv.b (Lv.b (Lv.b (Lv.b (A 61))))))))))))))))))) (K61_prrrrlrllrrllrrl cal k m1 m2) (K61_pxrrrrlrllrrllrr cal k m1) (doneK P results61)))
noncomputable def K61_prrrrlrllrrllrrllrr (cal : Cal) (k : Nat) (m1 : Nat) (m2 : Nat) : KC (Value × Hp × Nat) := (cutK (Lv.b (Lv.b (Lv.a (Lv.a (Lv.b (Lv.b (Lv.a (Lv.a (Lv.b (Lv.b (Lv.a (Lv.a (Lv.b (Lv.a (Lv.b (Lv.b (Lv.b (Lv.b (A 61))))))))))))))))))).c (codeE P cal (codeF P cal m2) none 61 (cR (cR (cR (cL (cL (cR (cR (cL (cL (cR (cR (cL (cL (cR (cL (cR (cR (cR (cR code61))))))))))))))))))) (Lv.b (Lv.b (Lv.b (Lv.a (Lv.a (Lv.b (Lv.b (Lv.a (Lv.a (Lv.b (Lv.b (Lv.a (Lv.a (Lv.b (Lv.a (Lv.b (Lv.b (Lv.b (Lv.b (A 61)))))))))))))))))))) (K61_prrrrlrllrrllrrl cal k m1 m2) (K61_pxrrrrlrllrrllrr cal k m1) (doneK P results61)))
noncomputable def K61_pxrrrrlrllrrllrrllrrl (cal : Cal) (k : Nat) (m1 : Nat) (m2 : Nat) : XC (Value × Hp × Nat) := (upX 5 (K61_prrrrlrllrrllrrllrr cal k m1 m2) (K61_pxrrrrlrllrrllrr cal k m1))
noncomputable def K61_prrrrlrllrrllrrllrrll (cal : Cal) (k : Nat) (m1 : Nat) (m2 : Nat) : KC (Value × Hp × Nat) := (cutK (Lv.a (Lv.a (Lv.b (Lv.b (Lv.a (Lv.a (Lv.b (Lv.b (Lv.a (Lv.a (Lv.b (Lv.b (Lv.a (Lv.a (Lv.b (Lv.a (Lv.b (Lv.b (Lv.b (Lv.b (A 61))))))))))))))))))))).c (codeE P cal (codeF P cal m2) none 61 (cR (cL (cL (cR (cR (cL (cL (cR (cR (cL (cL (cR (cR (cL (cL (cR (cL (cR (cR (cR (cR code61))))))))))))))))))))) (Lv.b (Lv.a (Lv.a (Lv.b (Lv.b (Lv.a (Lv.a (Lv.b (Lv.b (Lv.a (Lv.a (Lv.b (Lv.b (Lv.a (Lv.a (Lv.b (Lv.a (Lv.b (Lv.b (Lv.b (Lv.b (A 61)))))))))))))))))))))) (K61_prrrrlrllrrllrrllrr cal k m1 m2) (K61_pxrrrrlrllrrllrrllrrl cal k m1 m2) (doneK P results61)))
noncomputable def K61_prrrrr (cal : Cal) (k : Nat) : KC (Value × Hp × Nat) := (cutK (Lv.b (Lv.b (Lv.b (Lv.b (Lv.b (A 61)))))).c (codeE P cal (codeF P cal k) none 61 (cR (cR (cR (cR (cR (cR code61)))))) (Lv.b (Lv.b (Lv.b (Lv.b (Lv.b (Lv.b (A 61))))))) (doneK P results61) X0 (doneK P results61)))
noncomputable def E61_3 (cal : Cal) (k m1 m2 : Nat) : KC (Value × Hp × Nat) := codeE P cal (codeF P cal m2) none 61 (cL (cL (cR (cR (cL (cL (cR (cR (cL (cL (cR (cL (cR (cR (cR (cR code61)))))))))))))))) (Lv.a (Lv.a (Lv.b (Lv.b (Lv.a (Lv.a (Lv.b (Lv.b (Lv.a (Lv.a (Lv.b (Lv.a (Lv.b (Lv.b (Lv.b (Lv.b (A 61))))))))))))))))) (K61_prrrrlrllrrllrrl cal k m1 m2) (K61_pxrrrrlrllrrllrr cal k m1) (doneK P results61)
noncomputable def R61_3 (cal : Cal) (k m1 m2 : Nat) : Value → Value → Value → Value → Value → Value → Value → Hp → Nat → Res := fun u5 u8 u53 u54 u61 u62 u63 H n => codeF P cal m2 (Lv.a (Lv.b (Lv.b (Lv.a (Lv.a (Lv.b (Lv.b (Lv.a (Lv.a (Lv.b (Lv.a (Lv.b (Lv.b (Lv.b (Lv.b (A 61)))))))))))))))) none 61 (cL (cR (cR (cL (cL (cR (cR (cL (cL (cR (cL (cR (cR (cR (cR code61))))))))))))))) (K61_prrrrlrllrr cal k m1) (K61_pxrrrrlrllrrllrr cal k m1) (doneK P results61) (Tr.set (Tr.set (Tr.set (Tr.set (Tr.set (Tr.set (Tr.set Tr.nil 63 (some u63)) 62 (some u62)) 61 (some u61)) 54 (some u54)) 53 (some u53)) 8 (some u8)) 5 (some u5)) H n []
noncomputable def E61_2 (cal : Cal) (k m1 : Nat) : KC (Value × Hp × Nat) := codeE P cal (codeF P cal m1) none 61 (cL (cL (cR (cL (cR (cR (cR (cR code61)))))))) (Lv.a (Lv.a (Lv.b (Lv.a (Lv.b (Lv.b (Lv.b (Lv.b (A 61))))))))) (K61_prrrrlrl cal k m1) (K61_pxrrrrlr cal k) (doneK P results61)
noncomputable def R61_2 (cal : Cal) (k m1 : Nat) : Value → Value → Value → Hp → Nat → Res := fun u5 u53 u54 H n => codeF P cal m1 (Lv.a (Lv.b (Lv.a (Lv.b (Lv.b (Lv.b (Lv.b (A 61)))))))) none 61 (cL (cR (cL (cR (cR (cR (cR code61))))))) (K61_prrrr cal k) (K61_pxrrrrlr cal k) (doneK P results61) (Tr.set (Tr.set (Tr.set Tr.nil 54 (some u54)) 53 (some u53)) 5 (some u5)) H n []
noncomputable def E61_1 (cal : Cal) (k m1 : Nat) : KC (Value × Hp × Nat) := codeE P cal (codeF P cal m1) none 61 (cL (cL (cR (cL (cR (cR (cR code61))))))) (Lv.a (Lv.a (Lv.b (Lv.a (Lv.b (Lv.b (Lv.b (A 61)))))))) (K61_prrrlrl cal k m1) (K61_pxrrrlr cal k) (doneK P results61)
noncomputable def R61_1 (cal : Cal) (k m1 : Nat) : Value → Value → Value → Value → Hp → Nat → Res := fun u5 u23 u24 u25 H n => codeF P cal m1 (Lv.a (Lv.b (Lv.a (Lv.b (Lv.b (Lv.b (A 61))))))) none 61 (cL (cR (cL (cR (cR (cR code61)))))) (K61_prrr cal k) (K61_pxrrrlr cal k) (doneK P results61) (Tr.set (Tr.set (Tr.set (Tr.set Tr.nil 25 (some u25)) 24 (some u24)) 23 (some u23)) 5 (some u5)) H n []
noncomputable def B61_3 (cal : Cal) (k m1 m2 : Nat) (b2 : Value → Value → Value → Hp → Nat → Res) (b3 : Value → Value → Value → Value → Value → Value → Value → Hp → Nat → Res) (u5 u8 u53 u54 u61 u62 u63 : Value) (H : Hp) (n : Nat) : Res :=
binK P Go.BinOp.lss 3 (Go.Operand.tmp 63) (Go.Operand.tmp 62) u63 u62 fun v64_94 =>
ifK v64_94 (
bindO (indexAddrV P 33 u61 u63) fun v66_96 =>
bindO (addrV v66_96) fun a_98 => bindO (loadV P H 86 a_98) fun v67_97 =>
allocK P 86 H n fun v10_99 H_100 n_101 =>
bindO (storeP P 86 v10_99 v67_97 H_100) fun H_104 =>
bindO (addrV v10_99) fun a_110 => bindO (loadV P H_104 86 a_110) fun v_111 =>
bindO (nilV u5) fun v75_112 =>
bindO (fieldAddrV P 117 v75_112 2) fun v76_113 =>
bindO (indexAddrV P 115 v76_113 u8) fun v77_114 =>
callFK P cal 97 [u5, u8, v_111] H_104 n_101 fun v74_115 H_116 n_117 =>
bindO (indexAddrV P 114 v77_114 u63) fun v78_118 =>
bindO (storeP P 113 v78_118 v74_115 H_116) fun H_120 =>
binK P Go.BinOp.add 3 (Go.Operand.tmp 63) (Go.Operand.const (Go.Value.int Go.IntKind.i64 1)) u63 (Go.Value.int Go.IntKind.i64 1) fun v79_121 =>
b3 u5 u8 u53 u54 u61 u62 v79_121 H_120 n_117) (
binK P Go.BinOp.add 3 (Go.Operand.tmp 54) (Go.Operand.const (Go.Value.int Go.IntKind.i64 1)) u54 (Go.Value.int Go.IntKind.i64 1) fun v80_123 =>
b2 u5 u53 v80_123 H n)
noncomputable def C61_3 (cal : Cal) (k m1 m2 : Nat) (b2 : Value → Value → Value → Hp → Nat → Res) (b3 : Value → Value → Value → Value → Value → Value → Value → Hp → Nat → Res) (u5 u8 u53 u54 u61 u62 u63 : Value) (H : Hp) (n : Nat) : Res := B61_3 cal k m1 m2 b2 b3 u5 u8 u53 u54 u61 u62 u63 H n
noncomputable def S61_3 (cal : Cal) (k m1 : Nat) (b2 : Value → Value → Value → Hp → Nat → Res) : Nat → Value → Value → Value → Value → Value → Value → Value → Hp → Nat → Res := fun m => Nat.rec (motive := fun _ => Value → Value → Value → Value → Value → Value → Value → Hp → Nat → Res) (C61_3 cal k m1 0 b2 (fun _ _ _ _ _ _ _ _ _ => none)) (fun m ih => C61_3 cal k m1 (m + 1) b2 ih) m
theorem h61_3 (cal : Cal) (k m1 m2 : Nat) (u5 u8 u53 u54 u61 u62 u63 : Value) (H : Hp) (n : Nat) : labK (E61_3 cal k m1 m2) (Tr.set (Tr.set (Tr.set (Tr.set (Tr.set (Tr.set (Tr.set Tr.nil 63 (some u63)) 62 (some u62)) 61 (some u61)) 54 (some u54)) 53 (some u53)) 8 (some u8)) 5 (some u5)) H n [] = C61_3 cal k m1 m2 (R61_2 cal k m1) (R61_3 cal k m1 m2) u5 u8 u53 u54 u61 u62 u63 H n := by
  have h : labK (E61_3 cal k m1 m2) (Tr.set (Tr.set (Tr.set (Tr.set (Tr.set (Tr.set (Tr.set Tr.nil 63 (some u63)) 62 (some u62)) 61 (some u61)) 54 (some u54)) 53 (some u53)) 8 (some u8)) 5 (some u5)) H n [] = B61_3 cal k m1 m2 (R61_2 cal k m1) (R61_3 cal k m1 m2) u5 u8 u53 u54 u61 u62 u63 H n := by kernel_rfl
  rw [h, C61_3]
theorem q61_3 (cal : Cal) (k m1 : Nat) : ∀ (m : Nat) (u5 u8 u53 u54 u61 u62 u63 : Value) (H : Hp) (n : Nat), labK (E61_3 cal k m1 m) (Tr.set (Tr.set (Tr.set (Tr.set (Tr.set (Tr.set (Tr.set Tr.nil 63 (some u63)) 62 (some u62)) 61 (some u61)) 54 (some u54)) 53 (some u53)) 8 (some u8)) 5 (some u5)) H n [] = S61_3 cal k m1 (R61_2 cal k m1) m u5 u8 u53 u54 u61 u62 u63 H n
  | 0, u5, u8, u53, u54, u61, u62, u63, H, n => by
    rw [h61_3]
    have e : R61_3 cal k m1 0 = fun _ _ _ _ _ _ _ _ _ => none := by funext u5 u8 u53 u54 u61 u62 u63 H n; kernel_rfl
    rw [e]; rfl
  | m + 1, u5, u8, u53, u54, u61, u62, u63, H, n => by
    rw [h61_3]
    have e : R61_3 cal k m1 (m + 1) = S61_3 cal k m1 (R61_2 cal k m1) m := by
      funext u5 u8 u53 u54 u61 u62 u63 H n
      have e : R61_3 cal k m1 (m + 1) u5 u8 u53 u54 u61 u62 u63 H n = labK (E61_3 cal k m1 m) (Tr.set (Tr.set (Tr.set (Tr.set (Tr.set (Tr.set (Tr.set Tr.nil 63 (some u63)) 62 (some u62)) 61 (some u61)) 54 (some u54)) 53 (some u53)) 8 (some u8)) 5 (some u5)) H n [] := by kernel_rfl
      rw [e]; exact q61_3 ..
    rw [e]; rfl
noncomputable def B61_2 (cal : Cal) (k m1 : Nat) (j3 : Value → Value → Value → Value → Value → Value → Value → Hp → Nat → Res) (b2 : Value → Value → Value → Hp → Nat → Res) (u5 u53 u54 : Value) (H : Hp) (n : Nat) : Res :=
binK P Go.BinOp.lss 3 (Go.Operand.tmp 54) (Go.Operand.tmp 53) u54 u53 fun v55_83 =>
ifK v55_83 (
bindO (nilV u5) fun v58_87 =>
bindO (fieldAddrV P 117 v58_87 0) fun v59_88 =>
bindO (fieldAddrV P 35 v59_88 2) fun v60_89 =>
bindO (addrV v60_89) fun a_91 => bindO (loadV P H 33 a_91) fun v61_90 =>
bindO (lenV P 33 v61_90) fun v62_92 =>
j3 u5 u54 u53 u54 v61_90 v62_92 (Go.Value.int Go.IntKind.i64 0) H n) (
some ((Value.tuple ⟨[u5, (Go.Value.int Go.IntKind.i64 0)]⟩), H, n))
noncomputable def C61_2 (cal : Cal) (k m1 : Nat) (b2 : Value → Value → Value → Hp → Nat → Res) (u5 u53 u54 : Value) (H : Hp) (n : Nat) : Res := B61_2 cal k m1 (S61_3 cal k m1 b2 m1) b2 u5 u53 u54 H n
noncomputable def S61_2 (cal : Cal) (k : Nat) : Nat → Value → Value → Value → Hp → Nat → Res := fun m => Nat.rec (motive := fun _ => Value → Value → Value → Hp → Nat → Res) (C61_2 cal k 0 (fun _ _ _ _ _ => none)) (fun m ih => C61_2 cal k (m + 1) ih) m
theorem h61_2 (cal : Cal) (k m1 : Nat) (u5 u53 u54 : Value) (H : Hp) (n : Nat) : labK (E61_2 cal k m1) (Tr.set (Tr.set (Tr.set Tr.nil 54 (some u54)) 53 (some u53)) 5 (some u5)) H n [] = C61_2 cal k m1 (R61_2 cal k m1) u5 u53 u54 H n := by
  have h : labK (E61_2 cal k m1) (Tr.set (Tr.set (Tr.set Tr.nil 54 (some u54)) 53 (some u53)) 5 (some u5)) H n [] = B61_2 cal k m1 (fun u5 u8 u53 u54 u61 u62 u63 H n => labK (E61_3 cal k m1 m1) (Tr.set (Tr.set (Tr.set (Tr.set (Tr.set (Tr.set (Tr.set Tr.nil 63 (some u63)) 62 (some u62)) 61 (some u61)) 54 (some u54)) 53 (some u53)) 8 (some u8)) 5 (some u5)) H n []) (R61_2 cal k m1) u5 u53 u54 H n := by kernel_rfl
  rw [h, C61_2]
  have e3 : (fun u5 u8 u53 u54 u61 u62 u63 H n => labK (E61_3 cal k m1 m1) (Tr.set (Tr.set (Tr.set (Tr.set (Tr.set (Tr.set (Tr.set Tr.nil 63 (some u63)) 62 (some u62)) 61 (some u61)) 54 (some u54)) 53 (some u53)) 8 (some u8)) 5 (some u5)) H n []) = (S61_3 cal k m1 (R61_2 cal k m1) m1) := by funext u5 u8 u53 u54 u61 u62 u63 H n; exact q61_3 ..
  rw [e3]
theorem q61_2 (cal : Cal) (k : Nat) : ∀ (m : Nat) (u5 u53 u54 : Value) (H : Hp) (n : Nat), labK (E61_2 cal k m) (Tr.set (Tr.set (Tr.set Tr.nil 54 (some u54)) 53 (some u53)) 5 (some u5)) H n [] = S61_2 cal k m u5 u53 u54 H n
  | 0, u5, u53, u54, H, n => by
    rw [h61_2]
    have e : R61_2 cal k 0 = fun _ _ _ _ _ => none := by funext u5 u53 u54 H n; kernel_rfl
    rw [e]; rfl
  | m + 1, u5, u53, u54, H, n => by
    rw [h61_2]
    have e : R61_2 cal k (m + 1) = S61_2 cal k m := by
      funext u5 u53 u54 H n
      have e : R61_2 cal k (m + 1) u5 u53 u54 H n = labK (E61_2 cal k m) (Tr.set (Tr.set (Tr.set Tr.nil 54 (some u54)) 53 (some u53)) 5 (some u5)) H n [] := by kernel_rfl
      rw [e]; exact q61_2 ..
    rw [e]; rfl
noncomputable def B61_1 (cal : Cal) (k m1 : Nat) (j2 : Value → Value → Value → Hp → Nat → Res) (b1 : Value → Value → Value → Value → Hp → Nat → Res) (u5 u23 u24 u25 : Value) (H : Hp) (n : Nat) : Res :=
binK P Go.BinOp.lss 3 (Go.Operand.tmp 25) (Go.Operand.tmp 24) u25 u24 fun v26_32 =>
ifK v26_32 (
bindO (indexAddrV P 32 u23 u25) fun v27_33 =>
bindO (addrV v27_33) fun a_35 => bindO (loadV P H 88 a_35) fun v28_34 =>
allocK P 88 H n fun v7_36 H_37 n_38 =>
bindO (storeP P 88 v7_36 v28_34 H_37) fun H_40 =>
bindO (fieldAddrV P 88 v7_36 0) fun v30_42 =>
bindO (addrV v30_42) fun a_43 => bindO (loadV P H_40 3 a_43) fun v_44 =>
bindO (fieldAddrV P 88 v7_36 1) fun v32_45 =>
bindO (addrV v32_45) fun a_46 => bindO (loadV P H_40 3 a_46) fun v_47 =>
bindO (fieldAddrV P 88 v7_36 1) fun v35_49 =>
bindO (addrV v35_49) fun a_50 => bindO (loadV P H_40 3 a_50) fun v_51 =>
bindO (fieldAddrV P 88 v7_36 0) fun v37_52 =>
bindO (addrV v37_52) fun a_53 => bindO (loadV P H_40 3 a_53) fun v_54 =>
bindO (nilV u5) fun v39_55 =>
bindO (fieldAddrV P 117 v39_55 1) fun v40_56 =>
bindO (indexAddrV P 109 v40_56 v_44) fun v41_57 =>
bindO (indexAddrV P 108 v41_57 v_47) fun v42_58 =>
bindO (nilV u5) fun v43_59 =>
bindO (fieldAddrV P 117 v43_59 1) fun v44_60 =>
bindO (indexAddrV P 109 v44_60 v_51) fun v45_61 =>
effK P [(.l 3 a_53), (.l 3 a_50)] H_40 n_38 (fun H_62 n_63 k_64 =>
bindO (storeP P 4 v42_58 (Go.Value.bool true) H_62) fun H_69 =>
k_64 undef H_69 n_63) fun v_65 H_66 n_67 =>
bindO (indexAddrV P 108 v45_61 v_54) fun v46_70 =>
bindO (storeP P 4 v46_70 (Go.Value.bool true) H_66) fun H_72 =>
binK P Go.BinOp.add 3 (Go.Operand.tmp 25) (Go.Operand.const (Go.Value.int Go.IntKind.i64 1)) u25 (Go.Value.int Go.IntKind.i64 1) fun v47_73 =>
b1 u5 u23 u24 v47_73 H_72 n_67) (
bindO (nilV u5) fun v49_76 =>
bindO (fieldAddrV P 117 v49_76 0) fun v50_77 =>
bindO (fieldAddrV P 35 v50_77 0) fun v51_78 =>
bindO (addrV v51_78) fun a_80 => bindO (loadV P H 31 a_80) fun v52_79 =>
bindO (lenV P 31 v52_79) fun v53_81 =>
j2 u5 v53_81 (Go.Value.int Go.IntKind.i64 0) H n)
noncomputable def C61_1 (cal : Cal) (k m1 : Nat) (b1 : Value → Value → Value → Value → Hp → Nat → Res) (u5 u23 u24 u25 : Value) (H : Hp) (n : Nat) : Res := B61_1 cal k m1 (S61_2 cal k k) b1 u5 u23 u24 u25 H n
noncomputable def S61_1 (cal : Cal) (k : Nat) : Nat → Value → Value → Value → Value → Hp → Nat → Res := fun m => Nat.rec (motive := fun _ => Value → Value → Value → Value → Hp → Nat → Res) (C61_1 cal k 0 (fun _ _ _ _ _ _ => none)) (fun m ih => C61_1 cal k (m + 1) ih) m
theorem h61_1 (cal : Cal) (k m1 : Nat) (u5 u23 u24 u25 : Value) (H : Hp) (n : Nat) : labK (E61_1 cal k m1) (Tr.set (Tr.set (Tr.set (Tr.set Tr.nil 25 (some u25)) 24 (some u24)) 23 (some u23)) 5 (some u5)) H n [] = C61_1 cal k m1 (R61_1 cal k m1) u5 u23 u24 u25 H n := by
  have h : labK (E61_1 cal k m1) (Tr.set (Tr.set (Tr.set (Tr.set Tr.nil 25 (some u25)) 24 (some u24)) 23 (some u23)) 5 (some u5)) H n [] = B61_1 cal k m1 (fun u5 u53 u54 H n => labK (E61_2 cal k k) (Tr.set (Tr.set (Tr.set Tr.nil 54 (some u54)) 53 (some u53)) 5 (some u5)) H n []) (R61_1 cal k m1) u5 u23 u24 u25 H n := by kernel_rfl
  rw [h, C61_1]
  have e2 : (fun u5 u53 u54 H n => labK (E61_2 cal k k) (Tr.set (Tr.set (Tr.set Tr.nil 54 (some u54)) 53 (some u53)) 5 (some u5)) H n []) = (S61_2 cal k k) := by funext u5 u53 u54 H n; exact q61_2 ..
  rw [e2]
theorem q61_1 (cal : Cal) (k : Nat) : ∀ (m : Nat) (u5 u23 u24 u25 : Value) (H : Hp) (n : Nat), labK (E61_1 cal k m) (Tr.set (Tr.set (Tr.set (Tr.set Tr.nil 25 (some u25)) 24 (some u24)) 23 (some u23)) 5 (some u5)) H n [] = S61_1 cal k m u5 u23 u24 u25 H n
  | 0, u5, u23, u24, u25, H, n => by
    rw [h61_1]
    have e : R61_1 cal k 0 = fun _ _ _ _ _ _ => none := by funext u5 u23 u24 u25 H n; kernel_rfl
    rw [e]; rfl
  | m + 1, u5, u23, u24, u25, H, n => by
    rw [h61_1]
    have e : R61_1 cal k (m + 1) = S61_1 cal k m := by
      funext u5 u23 u24 u25 H n
      have e : R61_1 cal k (m + 1) u5 u23 u24 u25 H n = labK (E61_1 cal k m) (Tr.set (Tr.set (Tr.set (Tr.set Tr.nil 25 (some u25)) 24 (some u24)) 23 (some u23)) 5 (some u5)) H n [] := by kernel_rfl
      rw [e]; exact q61_1 ..
    rw [e]; rfl
noncomputable def B61_0 (cal : Cal) (k : Nat) (j1 : Value → Value → Value → Value → Hp → Nat → Res) (v0 : Value) (H : Hp) (n : Nat) : Res :=
boxK 35 v0 H n fun v1_1 H_2 n_3 =>
bindO (addrV v1_1) fun a_7 => bindO (loadV P H_2 35 a_7) fun v11_6 =>
callFK P cal 60 [v11_6] H_2 n_3 fun v12_8 H_9 n_10 =>
binK P Go.BinOp.neq 29 (Go.Operand.tmp 13) (Go.Operand.const (Go.Value.int Go.IntKind.i64 0)) v12_8 (Go.Value.int Go.IntKind.i64 0) fun v14_13 =>
ifK v14_13 (
some ((Value.tuple ⟨[(Go.Value.pointer none), v12_8]⟩), H_9, n_10)) (
bindO (addrV v1_1) fun a_18 => bindO (loadV P H_9 35 a_18) fun v16_17 =>
bindO (buildP P 117 [(0, v16_17)]) fun v17_19 =>
boxK 117 v17_19 H_9 n_10 fun v18_20 H_21 n_22 =>
bindO (nilV v18_20) fun v20_25 =>
bindO (fieldAddrV P 117 v20_25 0) fun v21_26 =>
bindO (fieldAddrV P 35 v21_26 1) fun v22_27 =>
bindO (addrV v22_27) fun a_29 => bindO (loadV P H_21 32 a_29) fun v23_28 =>
bindO (lenV P 32 v23_28) fun v24_30 =>
j1 v18_20 v23_28 v24_30 (Go.Value.int Go.IntKind.i64 0) H_21 n_22)
noncomputable def C61_0 (cal : Cal) (k : Nat) (v0 : Value) (H : Hp) (n : Nat) : Res := B61_0 cal k (S61_1 cal k k) v0 H n
theorem h61_0 (cal : Cal) (k : Nat) (v0 : Value) (H : Hp) (n : Nat) : bodyE P cal A (k + 1) 61 [v0] H n = C61_0 cal k v0 H n := by
  have h : bodyE P cal A (k + 1) 61 [v0] H n = B61_0 cal k (fun u5 u23 u24 u25 H n => labK (E61_1 cal k k) (Tr.set (Tr.set (Tr.set (Tr.set Tr.nil 25 (some u25)) 24 (some u24)) 23 (some u23)) 5 (some u5)) H n []) v0 H n := by
    rw [body_eq (fn := Go.Proofs.Try.f61) (c := code61) (rs := results61) (by kernel_rfl) (by kernel_rfl) (by kernel_rfl) (by kernel_rfl)]
    kernel_rfl
  rw [h, C61_0]
  have e1 : (fun u5 u23 u24 u25 H n => labK (E61_1 cal k k) (Tr.set (Tr.set (Tr.set (Tr.set Tr.nil 25 (some u25)) 24 (some u24)) 23 (some u23)) 5 (some u5)) H n []) = (S61_1 cal k k) := by funext u5 u23 u24 u25 H n; exact q61_1 ..
  rw [e1]
noncomputable def code62 : Code := codeOf 62
noncomputable def results62 : List ResultVar := resOf 62
noncomputable def K62_p (cal : Cal) (k : Nat) : KC (Value × Hp × Nat) := (cutK (A 62).c (codeE P cal (codeF P cal k) none 62 (cR code62) (Lv.b (A 62)) (doneK P results62) X0 (doneK P results62)))
noncomputable def K62_pr (cal : Cal) (k : Nat) : KC (Value × Hp × Nat) := (cutK (Lv.b (A 62)).c (codeE P cal (codeF P cal k) none 62 (cR (cR code62)) (Lv.b (Lv.b (A 62))) (doneK P results62) X0 (doneK P results62)))
noncomputable def B62_0 (cal : Cal) (k : Nat) (v0 : Value) (H : Hp) (n : Nat) : Res :=
boxK 113 v0 H n fun v1_1 H_2 n_3 =>
bindO (addrV v1_1) fun a_5 => bindO (loadV P H_2 113 a_5) fun v_6 =>
bindO (addrV v1_1) fun a_7 => bindO (loadV P H_2 113 a_7) fun v_8 =>
bindO (fieldAddrV P 113 v1_1 0) fun v8_9 =>
bindO (addrV v8_9) fun a_10 => bindO (loadV P H_2 3 a_10) fun v_11 =>
effK P [(.l 3 a_10), (.l 113 a_7)] H_2 n_3 (fun H_12 n_13 k_14 =>
callFK P cal 98 [v_6, (Value.func (.func 72) #[] #[])] H_12 n_13 fun v4_18 H_19 n_20 =>
k_14 v4_18 H_19 n_20) fun v_15 H_16 n_17 =>
effK P [(.l 3 a_10)] H_16 n_17 (fun H_21 n_22 k_23 =>
callFK P cal 98 [v_8, (Value.func (.func 73) #[] #[])] H_21 n_22 fun v6_27 H_28 n_29 =>
k_23 v6_27 H_28 n_29) fun v_24 H_25 n_26 =>
bindO (buildP P 53 [(0, v_15), (1, v_24)]) fun v7_30 =>
callFK P cal 99 [v7_30, v_11] H_25 n_26 fun v10_31 H_32 n_33 =>
some (v10_31, H_32, n_33)
noncomputable def C62_0 (cal : Cal) (k : Nat) (v0 : Value) (H : Hp) (n : Nat) : Res := B62_0 cal k v0 H n
theorem h62_0 (cal : Cal) (k : Nat) (v0 : Value) (H : Hp) (n : Nat) : bodyE P cal A (k + 1) 62 [v0] H n = C62_0 cal k v0 H n := by
  have h : bodyE P cal A (k + 1) 62 [v0] H n = B62_0 cal k v0 H n := by
    rw [body_eq (fn := Go.Proofs.Try.f62) (c := code62) (rs := results62) (by kernel_rfl) (by kernel_rfl) (by kernel_rfl) (by kernel_rfl)]
    kernel_rfl
  rw [h, C62_0]
noncomputable def code65 : Code := codeOf 65
noncomputable def results65 : List ResultVar := resOf 65
noncomputable def K65_p (cal : Cal) (k : Nat) : KC (Value × Hp × Nat) := (cutK (A 65).c (codeE P cal (codeF P cal k) none 65 (cR code65) (Lv.b (A 65)) (doneK P results65) X0 (doneK P results65)))
noncomputable def K65_pr (cal : Cal) (k : Nat) : KC (Value × Hp × Nat) := (cutK (Lv.b (A 65)).c (codeE P cal (codeF P cal k) none 65 (cR (cR code65)) (Lv.b (Lv.b (A 65))) (doneK P results65) X0 (doneK P results65)))
noncomputable def K65_prr (cal : Cal) (k : Nat) : KC (Value × Hp × Nat) := (cutK (Lv.b (Lv.b (A 65))).c (codeE P cal (codeF P cal k) none 65 (cR (cR (cR code65))) (Lv.b (Lv.b (Lv.b (A 65)))) (doneK P results65) X0 (doneK P results65)))
noncomputable def K65_prrl (cal : Cal) (k : Nat) : KC (Value × Hp × Nat) := (cutK (Lv.a (Lv.b (Lv.b (A 65)))).c (codeE P cal (codeF P cal k) none 65 (cR (cL (cR (cR code65)))) (Lv.b (Lv.a (Lv.b (Lv.b (A 65))))) (K65_prr cal k) X0 (doneK P results65)))
noncomputable def K65_prrlrl (cal : Cal) (k : Nat) : KC (Value × Hp × Nat) := (cutK (Lv.a (Lv.b (Lv.a (Lv.b (Lv.b (A 65)))))).c (codeE P cal (codeF P cal k) none 65 (cR (cL (cR (cL (cR (cR code65)))))) (Lv.b (Lv.a (Lv.b (Lv.a (Lv.b (Lv.b (A 65))))))) (K65_prr cal k) X0 (doneK P results65)))
noncomputable def K65_prrr (cal : Cal) (k : Nat) : KC (Value × Hp × Nat) := (cutK (Lv.b (Lv.b (Lv.b (A 65)))).c (codeE P cal (codeF P cal k) none 65 (cR (cR (cR (cR code65)))) (Lv.b (Lv.b (Lv.b (Lv.b (A 65))))) (doneK P results65) X0 (doneK P results65)))
noncomputable def K65_prrrl (cal : Cal) (k : Nat) : KC (Value × Hp × Nat) := (cutK (Lv.a (Lv.b (Lv.b (Lv.b (A 65))))).c (codeE P cal (codeF P cal k) none 65 (cR (cL (cR (cR (cR code65))))) (Lv.b (Lv.a (Lv.b (Lv.b (Lv.b (A 65)))))) (K65_prrr cal k) X0 (doneK P results65)))
noncomputable def K65_prrrlrl (cal : Cal) (k : Nat) : KC (Value × Hp × Nat) := (cutK (Lv.a (Lv.b (Lv.a (Lv.b (Lv.b (Lv.b (A 65))))))).c (codeE P cal (codeF P cal k) none 65 (cR (cL (cR (cL (cR (cR (cR code65))))))) (Lv.b (Lv.a (Lv.b (Lv.a (Lv.b (Lv.b (Lv.b (A 65)))))))) (K65_prrr cal k) X0 (doneK P results65)))
noncomputable def K65_prrrr (cal : Cal) (k : Nat) : KC (Value × Hp × Nat) := (cutK (Lv.b (Lv.b (Lv.b (Lv.b (A 65))))).c (codeE P cal (codeF P cal k) none 65 (cR (cR (cR (cR (cR code65))))) (Lv.b (Lv.b (Lv.b (Lv.b (Lv.b (A 65)))))) (doneK P results65) X0 (doneK P results65)))
noncomputable def K65_prrrrr (cal : Cal) (k : Nat) : KC (Value × Hp × Nat) := (cutK (Lv.b (Lv.b (Lv.b (Lv.b (Lv.b (A 65)))))).c (codeE P cal (codeF P cal k) none 65 (cR (cR (cR (cR (cR (cR code65)))))) (Lv.b (Lv.b (Lv.b (Lv.b (Lv.b (Lv.b (A 65))))))) (doneK P results65) X0 (doneK P results65)))
noncomputable def K65_prrrrrr (cal : Cal) (k : Nat) : KC (Value × Hp × Nat) := (cutK (Lv.b (Lv.b (Lv.b (Lv.b (Lv.b (Lv.b (A 65))))))).c (codeE P cal (codeF P cal k) none 65 (cR (cR (cR (cR (cR (cR (cR code65))))))) (Lv.b (Lv.b (Lv.b (Lv.b (Lv.b (Lv.b (Lv.b (A 65)))))))) (doneK P results65) X0 (doneK P results65)))
noncomputable def K65_prrrrrrl (cal : Cal) (k : Nat) : KC (Value × Hp × Nat) := (cutK (Lv.a (Lv.b (Lv.b (Lv.b (Lv.b (Lv.b (Lv.b (A 65)))))))).c (codeE P cal (codeF P cal k) none 65 (cR (cL (cR (cR (cR (cR (cR (cR code65)))))))) (Lv.b (Lv.a (Lv.b (Lv.b (Lv.b (Lv.b (Lv.b (Lv.b (A 65))))))))) (K65_prrrrrr cal k) X0 (doneK P results65)))
noncomputable def K65_pxrrrrrrlr (cal : Cal) (k : Nat) : XC (Value × Hp × Nat) := (upX 0 (K65_prrrrrr cal k) X0)
noncomputable def K65_prrrrrrlrl (cal : Cal) (k : Nat) (m1 : Nat) : KC (Value × Hp × Nat) := (fun T H n D => codeF P cal m1 (Lv.a (Lv.b (Lv.a (Lv.b (Lv.b (Lv.b (Lv.b (Lv.b (Lv.b (A 65)))))))))) none 65 (cL (cR (cL (cR (cR (cR (cR (cR (cR code65))))))))) (K65_prrrrrr cal k) (K65_pxrrrrrrlr cal k) (doneK P results65) (cutT (Lv.a (Lv.b (Lv.a (Lv.b (Lv.b (Lv.b (Lv.b (Lv.b (Lv.b (A 65)))))))))).c T) H n D)
noncomputable def K65_prrrrrrlrll (cal : Cal) (k : Nat) (m1 : Nat) : KC (Value × Hp × Nat) := (cutK (Lv.a (Lv.a (Lv.b (Lv.a (Lv.b (Lv.b (Lv.b (Lv.b (Lv.b (Lv.b (A 65))))))))))).c (codeE P cal (codeF P cal m1) none 65 (cR (cL (cL (cR (cL (cR (cR (cR (cR (cR (cR code65))))))))))) (Lv.b (Lv.a (Lv.a (Lv.b (Lv.a (Lv.b (Lv.b (Lv.b (Lv.b (Lv.b (Lv.b (A 65)))))))))))) (K65_prrrrrrlrl cal k m1) (K65_pxrrrrrrlr cal k) (doneK P results65)))
noncomputable def K65_prrrrrrlrllr (cal : Cal) (k : Nat) (m1 : Nat) : KC (Value × Hp × Nat) := (cutK (Lv.b (Lv.a (Lv.a (Lv.b (Lv.a (Lv.b (Lv.b (Lv.b (Lv.b (Lv.b (Lv.b (A 65)))))))))))).c (codeE P cal (codeF P cal m1) none 65 (cR (cR (cL (cL (cR (cL (cR (cR (cR (cR (cR (cR code65)))))))))))) (Lv.b (Lv.b (Lv.a (Lv.a (Lv.b (Lv.a (Lv.b (Lv.b (Lv.b (Lv.b (Lv.b (Lv.b (A 65))))))))))))) (K65_prrrrrrlrl cal k m1) (K65_pxrrrrrrlr cal k) (doneK P results65)))
noncomputable def K65_prrrrrrlrllrr (cal : Cal) (k : Nat) (m1 : Nat) : KC (Value × Hp × Nat) := (cutK (Lv.b (Lv.b (Lv.a (Lv.a (Lv.b (Lv.a (Lv.b (Lv.b (Lv.b (Lv.b (Lv.b (Lv.b (A 65))))))))))))).c (codeE P cal (codeF P cal m1) none 65 (cR (cR (cR (cL (cL (cR (cL (cR (cR (cR (cR (cR (cR code65))))))))))))) (Lv.b (Lv.b (Lv.b (Lv.a (Lv.a (Lv.b (Lv.a (Lv.b (Lv.b (Lv.b (Lv.b (Lv.b (Lv.b (A 65)))))))))))))) (K65_prrrrrrlrl cal k m1) (K65_pxrrrrrrlr cal k) (doneK P results65)))
noncomputable def K65_pxrrrrrrlrllrrl (cal : Cal) (k : Nat) (m1 : Nat) : XC (Value × Hp × Nat) := (upX 1 (K65_prrrrrrlrllrr cal k m1) (K65_pxrrrrrrlr cal k))
noncomputable def K65_prrrrrrlrllrrll (cal : Cal) (k : Nat) (m1 : Nat) : KC (Value × Hp × Nat) := (cutK (Lv.a (Lv.a (Lv.b (Lv.b (Lv.a (Lv.a (Lv.b (Lv.a (Lv.b (Lv.b (Lv.b (Lv.b (Lv.b (Lv.b (A 65))))))))))))))).c (codeE P cal (codeF P cal m1) none 65 (cR (cL (cL (cR (cR (cL (cL (cR (cL (cR (cR (cR (cR (cR (cR code65))))))))))))))) (Lv.b (Lv.a (Lv.a (Lv.b (Lv.b (Lv.a (Lv.a (Lv.b (Lv.a (Lv.b (Lv.b (Lv.b (Lv.b (Lv.b (Lv.b (A 65)))))))))))))))) (K65_prrrrrrlrllrr cal k m1) (K65_pxrrrrrrlrllrrl cal k m1) (doneK P results65)))
noncomputable def K65_prrrrrrlrllrrllr (cal : Cal) (k : Nat) (m1 : Nat) : KC (Value × Hp × Nat) := (cutK (Lv.b (Lv.a (Lv.a (Lv.b (Lv.b (Lv.a (Lv.a (Lv.b (Lv.a (Lv.b (Lv.b (Lv.b (Lv.b (Lv.b (Lv.b (A 65)))))))))))))))).c (codeE P cal (codeF P cal m1) none 65 (cR (cR (cL (cL (cR (cR (cL (cL (cR (cL (cR (cR (cR (cR (cR (cR code65)))))))))))))))) (Lv.b (Lv.b (Lv.a (Lv.a (Lv.b (Lv.b (Lv.a (Lv.a (Lv.b (Lv.a (Lv.b (Lv.b (Lv.b (Lv.b (Lv.b (Lv.b (A 65))))))))))))))))) (K65_prrrrrrlrllrr cal k m1) (K65_pxrrrrrrlrllrrl cal k m1) (doneK P results65)))
noncomputable def K65_prrrrrrlrllrrllrrl (cal : Cal) (k : Nat) (m1 : Nat) : KC (Value × Hp × Nat) := (cutK (Lv.a (Lv.b (Lv.b (Lv.a (Lv.a (Lv.b (Lv.b (Lv.a (Lv.a (Lv.b (Lv.a (Lv.b (Lv.b (Lv.b (Lv.b (Lv.b (Lv.b (A 65)))))))))))))))))).c (codeE P cal (codeF P cal m1) none 65 (cR (cL (cR (cR (cL (cL (cR (cR (cL (cL (cR (cL (cR (cR (cR (cR (cR (cR code65)))))))))))))))))) (Lv.b (Lv.a (Lv.b (Lv.b (Lv.a (Lv.a (Lv.b (Lv.b (Lv.a (Lv.a (Lv.b (Lv.a (Lv.b (Lv.b (Lv.b (Lv.b (Lv.b (Lv.b (A 65))))))))))))))))))) (K65_prrrrrrlrllrr cal k m1) (K65_pxrrrrrrlrllrrl cal k m1) (doneK P results65)))
noncomputable def K65_prrrrrrr (cal : Cal) (k : Nat) : KC (Value × Hp × Nat) := (cutK (Lv.b (Lv.b (Lv.b (Lv.b (Lv.b (Lv.b (Lv.b (A 65)))))))).c (codeE P cal (codeF P cal k) none 65 (cR (cR (cR (cR (cR (cR (cR (cR code65)))))))) (Lv.b (Lv.b (Lv.b (Lv.b (Lv.b (Lv.b (Lv.b (Lv.b (A 65))))))))) (doneK P results65) X0 (doneK P results65)))
noncomputable def E65_1 (cal : Cal) (k m1 : Nat) : KC (Value × Hp × Nat) := codeE P cal (codeF P cal m1) none 65 (cL (cL (cR (cL (cR (cR (cR (cR (cR (cR code65)))))))))) (Lv.a (Lv.a (Lv.b (Lv.a (Lv.b (Lv.b (Lv.b (Lv.b (Lv.b (Lv.b (A 65))))))))))) (K65_prrrrrrlrl cal k m1) (K65_pxrrrrrrlr cal k) (doneK P results65)
noncomputable def R65_1 (cal : Cal) (k m1 : Nat) : Value → Value → Value → Value → Value → Hp → Nat → Res := fun u5 u7 u9 u35 u36 H n => codeF P cal m1 (Lv.a (Lv.b (Lv.a (Lv.b (Lv.b (Lv.b (Lv.b (Lv.b (Lv.b (A 65)))))))))) none 65 (cL (cR (cL (cR (cR (cR (cR (cR (cR code65))))))))) (K65_prrrrrr cal k) (K65_pxrrrrrrlr cal k) (doneK P results65) (Tr.set (Tr.set (Tr.set (Tr.set (Tr.set Tr.nil 36 (some u36)) 35 (some u35)) 9 (some u9)) 7 (some u7)) 5 (some u5)) H n []
noncomputable def B65_1 (cal : Cal) (k m1 : Nat) (b1 : Value → Value → Value → Value → Value → Hp → Nat → Res) (u5 u7 u9 u35 u36 : Value) (H : Hp) (n : Nat) : Res :=
binK P Go.BinOp.lss 3 (Go.Operand.tmp 36) (Go.Operand.const (Go.Value.int Go.IntKind.i64 8)) u36 (Go.Value.int Go.IntKind.i64 8) fun v37_60 =>
ifK v37_60 (
bindO (indexV P 121 u35 u36) fun v39_62 =>
binK P Go.BinOp.neq 3 (Go.Operand.tmp 40) (Go.Operand.const (Go.Value.int Go.IntKind.i64 (-1))) v39_62 (Go.Value.int Go.IntKind.i64 (-1)) fun v41_66 =>
guardK v41_66 true (fun k_68 =>
k_68 u7 H n) H n fun v_69 H_70 n_71 =>
guardK v41_66 true (fun k_73 =>
k_73 u36 H_70 n_71) H_70 n_71 fun v_74 H_75 n_76 =>
guardK v41_66 true (fun k_78 =>
k_78 v39_62 H_75 n_76) H_75 n_76 fun v_79 H_80 n_81 =>
guardK v41_66 true (fun k_83 =>
callFK P cal 102 [v_69, v_74, v_79] H_80 n_81 fun v46_87 H_88 n_89 =>
k_83 v46_87 H_88 n_89) H_80 n_81 fun v_84 H_85 n_86 =>
guardK v41_66 true (fun k_90 =>
bindO (pureSem P v_84 (Op.unary Go.UnOp.not v_84)) fun v47_94 =>
k_90 v47_94 H_85 n_86) H_85 n_86 fun v_91 H_92 n_93 =>
bindO (pickV v41_66 v_91 (Go.Value.bool false)) fun v48_95 =>
ifK v48_95 (
bindO (buildP P 121 []) fun v49_96 =>
bindO (storeP P 121 u5 v49_96 H_92) fun H_99 =>
bindO (resV P (Tr.set (Tr.set (Tr.set Tr.nil 6 (some (Go.Value.int Go.IntKind.i64 2))) 5 (some u5)) 4 (some (Go.Value.pointer none))) H_99 results65) fun vs_101 => some (oneV vs_101, H_99, n_93)) (
binK P Go.BinOp.add 3 (Go.Operand.tmp 36) (Go.Operand.const (Go.Value.int Go.IntKind.i64 1)) u36 (Go.Value.int Go.IntKind.i64 1) fun v50_102 =>
b1 u5 u7 u9 u35 v50_102 H_92 n_93)) (
bindO (addrV u9) fun a_105 => bindO (loadV P H 121 a_105) fun v_106 =>
bindO (storeP P 121 u5 v_106 H) fun H_109 =>
bindO (resV P (Tr.set (Tr.set (Tr.set Tr.nil 6 (some (Go.Value.int Go.IntKind.i64 0))) 5 (some u5)) 4 (some u7)) H_109 results65) fun vs_111 => some (oneV vs_111, H_109, n))
noncomputable def C65_1 (cal : Cal) (k m1 : Nat) (b1 : Value → Value → Value → Value → Value → Hp → Nat → Res) (u5 u7 u9 u35 u36 : Value) (H : Hp) (n : Nat) : Res := B65_1 cal k m1 b1 u5 u7 u9 u35 u36 H n
noncomputable def S65_1 (cal : Cal) (k : Nat) : Nat → Value → Value → Value → Value → Value → Hp → Nat → Res := fun m => Nat.rec (motive := fun _ => Value → Value → Value → Value → Value → Hp → Nat → Res) (C65_1 cal k 0 (fun _ _ _ _ _ _ _ => none)) (fun m ih => C65_1 cal k (m + 1) ih) m
theorem h65_1 (cal : Cal) (k m1 : Nat) (u5 u7 u9 u35 u36 : Value) (H : Hp) (n : Nat) : labK (E65_1 cal k m1) (Tr.set (Tr.set (Tr.set (Tr.set (Tr.set Tr.nil 36 (some u36)) 35 (some u35)) 9 (some u9)) 7 (some u7)) 5 (some u5)) H n [] = C65_1 cal k m1 (R65_1 cal k m1) u5 u7 u9 u35 u36 H n := by
  have h : labK (E65_1 cal k m1) (Tr.set (Tr.set (Tr.set (Tr.set (Tr.set Tr.nil 36 (some u36)) 35 (some u35)) 9 (some u9)) 7 (some u7)) 5 (some u5)) H n [] = B65_1 cal k m1 (R65_1 cal k m1) u5 u7 u9 u35 u36 H n := by kernel_rfl
  rw [h, C65_1]
theorem q65_1 (cal : Cal) (k : Nat) : ∀ (m : Nat) (u5 u7 u9 u35 u36 : Value) (H : Hp) (n : Nat), labK (E65_1 cal k m) (Tr.set (Tr.set (Tr.set (Tr.set (Tr.set Tr.nil 36 (some u36)) 35 (some u35)) 9 (some u9)) 7 (some u7)) 5 (some u5)) H n [] = S65_1 cal k m u5 u7 u9 u35 u36 H n
  | 0, u5, u7, u9, u35, u36, H, n => by
    rw [h65_1]
    have e : R65_1 cal k 0 = fun _ _ _ _ _ _ _ => none := by funext u5 u7 u9 u35 u36 H n; kernel_rfl
    rw [e]; rfl
  | m + 1, u5, u7, u9, u35, u36, H, n => by
    rw [h65_1]
    have e : R65_1 cal k (m + 1) = S65_1 cal k m := by
      funext u5 u7 u9 u35 u36 H n
      have e : R65_1 cal k (m + 1) u5 u7 u9 u35 u36 H n = labK (E65_1 cal k m) (Tr.set (Tr.set (Tr.set (Tr.set (Tr.set Tr.nil 36 (some u36)) 35 (some u35)) 9 (some u9)) 7 (some u7)) 5 (some u5)) H n [] := by kernel_rfl
      rw [e]; exact q65_1 ..
    rw [e]; rfl
noncomputable def B65_0 (cal : Cal) (k : Nat) (j1 : Value → Value → Value → Value → Value → Hp → Nat → Res) (v0 v1 : Value) (H : Hp) (n : Nat) : Res :=
boxK 35 v0 H n fun v2_1 H_2 n_3 =>
allocK P 121 H_2 n_3 fun v5_5 H_6 n_7 =>
bindO (addrV v2_1) fun a_10 => bindO (loadV P H_6 35 a_10) fun v13_9 =>
callFK P cal 61 [v13_9] H_6 n_7 fun v14_11 H_12 n_13 =>
bindO (tupV v14_11 0) fun v15_15 =>
bindO (tupV v14_11 1) fun v16_16 =>
binK P Go.BinOp.neq 29 (Go.Operand.tmp 17) (Go.Operand.const (Go.Value.int Go.IntKind.i64 0)) v16_16 (Go.Value.int Go.IntKind.i64 0) fun v18_20 =>
ifK v18_20 (
bindO (buildP P 121 []) fun v19_21 =>
bindO (storeP P 121 v5_5 v19_21 H_12) fun H_25 =>
bindO (resV P (Tr.set (Tr.set (Tr.set Tr.nil 6 (some v16_16)) 5 (some v5_5)) 4 (some (Go.Value.pointer none))) H_25 results65) fun vs_27 => some (oneV vs_27, H_25, n_13)) (
bindO (lenV P 44 v1) fun v22_29 =>
bindO (nilV v15_15) fun v24_31 =>
bindO (fieldAddrV P 117 v24_31 0) fun v25_32 =>
bindO (fieldAddrV P 35 v25_32 0) fun v26_33 =>
bindO (addrV v26_33) fun a_35 => bindO (loadV P H_12 31 a_35) fun v27_34 =>
bindO (lenV P 31 v27_34) fun v28_36 =>
binK P Go.BinOp.neq 3 (Go.Operand.tmp 22) (Go.Operand.tmp 28) v22_29 v28_36 fun v29_37 =>
ifK v29_37 (
bindO (buildP P 121 []) fun v30_38 =>
bindO (storeP P 121 v5_5 v30_38 H_12) fun H_41 =>
bindO (resV P (Tr.set (Tr.set (Tr.set Tr.nil 6 (some (Go.Value.int Go.IntKind.i64 2))) 5 (some v5_5)) 4 (some (Go.Value.pointer none))) H_41 results65) fun vs_43 => some (oneV vs_43, H_41, n_13)) (
callFK P cal 101 [] H_12 n_13 fun v31_44 H_45 n_46 =>
allocK P 121 H_45 n_46 fun v9_47 H_48 n_49 =>
bindO (storeP P 121 v9_47 v31_44 H_48) fun H_51 =>
bindO (sliceV P 121 v9_47 none none) fun v32_52 =>
stK (copyV P (bare H_51 n_49) 44 v32_52 v1) fun v34_54 H_55 n_56 =>
bindO (addrV v9_47) fun a_58 => bindO (loadV P H_55 121 a_58) fun v35_57 =>
j1 v5_5 v15_15 v9_47 v35_57 (Go.Value.int Go.IntKind.i64 0) H_55 n_56))
noncomputable def C65_0 (cal : Cal) (k : Nat) (v0 v1 : Value) (H : Hp) (n : Nat) : Res := B65_0 cal k (S65_1 cal k k) v0 v1 H n
theorem h65_0 (cal : Cal) (k : Nat) (v0 v1 : Value) (H : Hp) (n : Nat) : bodyE P cal A (k + 1) 65 [v0, v1] H n = C65_0 cal k v0 v1 H n := by
  have h : bodyE P cal A (k + 1) 65 [v0, v1] H n = B65_0 cal k (fun u5 u7 u9 u35 u36 H n => labK (E65_1 cal k k) (Tr.set (Tr.set (Tr.set (Tr.set (Tr.set Tr.nil 36 (some u36)) 35 (some u35)) 9 (some u9)) 7 (some u7)) 5 (some u5)) H n []) v0 v1 H n := by
    rw [body_eq (fn := Go.Proofs.Try.f65) (c := code65) (rs := results65) (by kernel_rfl) (by kernel_rfl) (by kernel_rfl) (by kernel_rfl)]
    kernel_rfl
  rw [h, C65_0]
  have e1 : (fun u5 u7 u9 u35 u36 H n => labK (E65_1 cal k k) (Tr.set (Tr.set (Tr.set (Tr.set (Tr.set Tr.nil 36 (some u36)) 35 (some u35)) 9 (some u9)) 7 (some u7)) 5 (some u5)) H n []) = (S65_1 cal k k) := by funext u5 u7 u9 u35 u36 H n; exact q65_1 ..
  rw [e1]
noncomputable def code67 : Code := codeOf 67
noncomputable def results67 : List ResultVar := resOf 67
noncomputable def K67_p (cal : Cal) (k : Nat) : KC (Value × Hp × Nat) := (cutK (A 67).c (codeE P cal (codeF P cal k) none 67 (cR code67) (Lv.b (A 67)) (doneK P results67) X0 (doneK P results67)))
noncomputable def K67_pr (cal : Cal) (k : Nat) : KC (Value × Hp × Nat) := (cutK (Lv.b (A 67)).c (codeE P cal (codeF P cal k) none 67 (cR (cR code67)) (Lv.b (Lv.b (A 67))) (doneK P results67) X0 (doneK P results67)))
noncomputable def K67_prl (cal : Cal) (k : Nat) : KC (Value × Hp × Nat) := (cutK (Lv.a (Lv.b (A 67))).c (codeE P cal (codeF P cal k) none 67 (cR (cL (cR code67))) (Lv.b (Lv.a (Lv.b (A 67)))) (K67_pr cal k) X0 (doneK P results67)))
noncomputable def K67_prlrl (cal : Cal) (k : Nat) : KC (Value × Hp × Nat) := (cutK (Lv.a (Lv.b (Lv.a (Lv.b (A 67))))).c (codeE P cal (codeF P cal k) none 67 (cR (cL (cR (cL (cR code67))))) (Lv.b (Lv.a (Lv.b (Lv.a (Lv.b (A 67)))))) (K67_pr cal k) X0 (doneK P results67)))
noncomputable def K67_prr (cal : Cal) (k : Nat) : KC (Value × Hp × Nat) := (cutK (Lv.b (Lv.b (A 67))).c (codeE P cal (codeF P cal k) none 67 (cR (cR (cR code67))) (Lv.b (Lv.b (Lv.b (A 67)))) (doneK P results67) X0 (doneK P results67)))
noncomputable def B67_0 (cal : Cal) (k : Nat) (v0 : Value) (H : Hp) (n : Nat) : Res :=
binK P Go.BinOp.eql 45 (Go.Operand.tmp 3) (Go.Operand.const (Go.Value.slice none 0 0)) v0 (Go.Value.slice none 0 0) fun v4_3 =>
ifK v4_3 (
some ((Go.Value.slice none 0 0), H, n)) (
rowK P 45 0 [] H n fun v5_5 H_6 n_7 =>
stK (appendV P (bare H_6 n_7) 45 45 v5_5 v0) fun v7_9 H_10 n_11 =>
some (v7_9, H_10, n_11))
noncomputable def C67_0 (cal : Cal) (k : Nat) (v0 : Value) (H : Hp) (n : Nat) : Res := B67_0 cal k v0 H n
theorem h67_0 (cal : Cal) (k : Nat) (v0 : Value) (H : Hp) (n : Nat) : bodyE P cal A (k + 1) 67 [v0] H n = C67_0 cal k v0 H n := by
  have h : bodyE P cal A (k + 1) 67 [v0] H n = B67_0 cal k v0 H n := by
    rw [body_eq (fn := Go.Proofs.Try.f67) (c := code67) (rs := results67) (by kernel_rfl) (by kernel_rfl) (by kernel_rfl) (by kernel_rfl)]
    kernel_rfl
  rw [h, C67_0]
noncomputable def code68 : Code := codeOf 68
noncomputable def results68 : List ResultVar := resOf 68
noncomputable def K68_p (cal : Cal) (k : Nat) : KC (Value × Hp × Nat) := (cutK (A 68).c (codeE P cal (codeF P cal k) none 68 (cR code68) (Lv.b (A 68)) (doneK P results68) X0 (doneK P results68)))
noncomputable def K68_pr (cal : Cal) (k : Nat) : KC (Value × Hp × Nat) := (cutK (Lv.b (A 68)).c (codeE P cal (codeF P cal k) none 68 (cR (cR code68)) (Lv.b (Lv.b (A 68))) (doneK P results68) X0 (doneK P results68)))
noncomputable def B68_0 (cal : Cal) (k : Nat) (v0 v1 v2 : Value) (H : Hp) (n : Nat) : Res :=
boxK 111 v1 H n fun v4_1 H_2 n_3 =>
bindO (indexAddrV P 111 v4_1 v2) fun v8_6 =>
bindO (fieldAddrV P 53 v8_6 0) fun v9_7 =>
bindO (addrV v9_7) fun a_8 => bindO (loadV P H_2 3 a_8) fun v_9 =>
bindO (nilV v0) fun v12_11 =>
bindO (fieldAddrV P 117 v12_11 0) fun v13_12 =>
bindO (fieldAddrV P 35 v13_12 0) fun v14_13 =>
bindO (addrV v14_13) fun a_14 => bindO (loadV P H_2 31 a_14) fun v_15 =>
bindO (indexAddrV P 31 v_15 v2) fun v17_17 =>
bindO (fieldAddrV P 90 v17_17 0) fun v18_18 =>
bindO (addrV v18_18) fun a_19 => bindO (loadV P H_2 3 a_19) fun v_20 =>
binK P Go.BinOp.lss 3 (Go.Operand.tmp 10) (Go.Operand.tmp 19) v_9 v_20 fun v20_21 =>
some (v20_21, H_2, n_3)
noncomputable def C68_0 (cal : Cal) (k : Nat) (v0 v1 v2 : Value) (H : Hp) (n : Nat) : Res := B68_0 cal k v0 v1 v2 H n
theorem h68_0 (cal : Cal) (k : Nat) (v0 v1 v2 : Value) (H : Hp) (n : Nat) : bodyE P cal A (k + 1) 68 [v0, v1, v2] H n = C68_0 cal k v0 v1 v2 H n := by
  have h : bodyE P cal A (k + 1) 68 [v0, v1, v2] H n = B68_0 cal k v0 v1 v2 H n := by
    rw [body_eq (fn := Go.Proofs.Try.f68) (c := code68) (rs := results68) (by kernel_rfl) (by kernel_rfl) (by kernel_rfl) (by kernel_rfl)]
    kernel_rfl
  rw [h, C68_0]
noncomputable def code69 : Code := codeOf 69
noncomputable def results69 : List ResultVar := resOf 69
noncomputable def K69_p (cal : Cal) (k : Nat) : KC (Value × Hp × Nat) := (cutK (A 69).c (codeE P cal (codeF P cal k) none 69 (cR code69) (Lv.b (A 69)) (doneK P results69) X0 (doneK P results69)))
noncomputable def K69_pr (cal : Cal) (k : Nat) : KC (Value × Hp × Nat) := (cutK (Lv.b (A 69)).c (codeE P cal (codeF P cal k) none 69 (cR (cR code69)) (Lv.b (Lv.b (A 69))) (doneK P results69) X0 (doneK P results69)))
noncomputable def B69_0 (cal : Cal) (k : Nat) (v0 v1 v2 : Value) (H : Hp) (n : Nat) : Res :=
boxK 111 v1 H n fun v4_1 H_2 n_3 =>
bindO (indexAddrV P 111 v4_1 v2) fun v8_6 =>
bindO (fieldAddrV P 53 v8_6 1) fun v9_7 =>
bindO (addrV v9_7) fun a_8 => bindO (loadV P H_2 3 a_8) fun v_9 =>
bindO (nilV v0) fun v12_11 =>
bindO (fieldAddrV P 117 v12_11 0) fun v13_12 =>
bindO (fieldAddrV P 35 v13_12 0) fun v14_13 =>
bindO (addrV v14_13) fun a_14 => bindO (loadV P H_2 31 a_14) fun v_15 =>
bindO (indexAddrV P 31 v_15 v2) fun v17_17 =>
bindO (fieldAddrV P 90 v17_17 1) fun v18_18 =>
bindO (addrV v18_18) fun a_19 => bindO (loadV P H_2 3 a_19) fun v_20 =>
binK P Go.BinOp.gtr 3 (Go.Operand.tmp 10) (Go.Operand.tmp 19) v_9 v_20 fun v20_21 =>
some (v20_21, H_2, n_3)
noncomputable def C69_0 (cal : Cal) (k : Nat) (v0 v1 v2 : Value) (H : Hp) (n : Nat) : Res := B69_0 cal k v0 v1 v2 H n
theorem h69_0 (cal : Cal) (k : Nat) (v0 v1 v2 : Value) (H : Hp) (n : Nat) : bodyE P cal A (k + 1) 69 [v0, v1, v2] H n = C69_0 cal k v0 v1 v2 H n := by
  have h : bodyE P cal A (k + 1) 69 [v0, v1, v2] H n = B69_0 cal k v0 v1 v2 H n := by
    rw [body_eq (fn := Go.Proofs.Try.f69) (c := code69) (rs := results69) (by kernel_rfl) (by kernel_rfl) (by kernel_rfl) (by kernel_rfl)]
    kernel_rfl
  rw [h, C69_0]
noncomputable def code71 : Code := codeOf 71
noncomputable def results71 : List ResultVar := resOf 71
noncomputable def K71_p (cal : Cal) (k : Nat) : KC (Value × Hp × Nat) := (cutK (A 71).c (codeE P cal (codeF P cal k) none 71 (cR code71) (Lv.b (A 71)) (doneK P results71) X0 (doneK P results71)))
noncomputable def K71_pr (cal : Cal) (k : Nat) : KC (Value × Hp × Nat) := (cutK (Lv.b (A 71)).c (codeE P cal (codeF P cal k) none 71 (cR (cR code71)) (Lv.b (Lv.b (A 71))) (doneK P results71) X0 (doneK P results71)))
noncomputable def B71_0 (cal : Cal) (k : Nat) (v0 v1 : Value) (H : Hp) (n : Nat) : Res :=
boxK 35 v0 H n fun v2_1 H_2 n_3 =>
binK P Go.BinOp.geq 3 (Go.Operand.tmp 5) (Go.Operand.const (Go.Value.int Go.IntKind.i64 0)) v1 (Go.Value.int Go.IntKind.i64 0) fun v6_6 =>
guardK v6_6 true (fun k_8 =>
k_8 v1 H_2 n_3) H_2 n_3 fun v_9 H_10 n_11 =>
guardK v6_6 true (fun k_13 =>
bindO (fieldAddrV P 35 v2_1 0) fun v9_17 =>
k_13 v9_17 H_10 n_11) H_10 n_11 fun v_14 H_15 n_16 =>
guardK v6_6 true (fun k_18 =>
bindO (addrV v_14) fun a_23 => bindO (loadV P H_15 31 a_23) fun v10_22 =>
k_18 v10_22 H_15 n_16) H_15 n_16 fun v_19 H_20 n_21 =>
guardK v6_6 true (fun k_24 =>
bindO (lenV P 31 v_19) fun v11_28 =>
k_24 v11_28 H_20 n_21) H_20 n_21 fun v_25 H_26 n_27 =>
guardK v6_6 true (fun k_29 =>
binK P Go.BinOp.lss 3 (Go.Operand.tmp 8) (Go.Operand.tmp 11) v_9 v_25 fun v12_33 =>
k_29 v12_33 H_26 n_27) H_26 n_27 fun v_30 H_31 n_32 =>
bindO (pickV v6_6 v_30 (Go.Value.bool false)) fun v13_34 =>
some (v13_34, H_31, n_32)
noncomputable def C71_0 (cal : Cal) (k : Nat) (v0 v1 : Value) (H : Hp) (n : Nat) : Res := B71_0 cal k v0 v1 H n
theorem h71_0 (cal : Cal) (k : Nat) (v0 v1 : Value) (H : Hp) (n : Nat) : bodyE P cal A (k + 1) 71 [v0, v1] H n = C71_0 cal k v0 v1 H n := by
  have h : bodyE P cal A (k + 1) 71 [v0, v1] H n = B71_0 cal k v0 v1 H n := by
    rw [body_eq (fn := Go.Proofs.Try.f71) (c := code71) (rs := results71) (by kernel_rfl) (by kernel_rfl) (by kernel_rfl) (by kernel_rfl)]
    kernel_rfl
  rw [h, C71_0]
noncomputable def code72 : Code := codeOf 72
noncomputable def results72 : List ResultVar := resOf 72
noncomputable def K72_p (cal : Cal) (k : Nat) : KC (Value × Hp × Nat) := (cutK (A 72).c (codeE P cal (codeF P cal k) none 72 (cR code72) (Lv.b (A 72)) (doneK P results72) X0 (doneK P results72)))
noncomputable def K72_pr (cal : Cal) (k : Nat) : KC (Value × Hp × Nat) := (cutK (Lv.b (A 72)).c (codeE P cal (codeF P cal k) none 72 (cR (cR code72)) (Lv.b (Lv.b (A 72))) (doneK P results72) X0 (doneK P results72)))
noncomputable def B72_0 (cal : Cal) (k : Nat) (v0 : Value) (H : Hp) (n : Nat) : Res :=
boxK 53 v0 H n fun v1_1 H_2 n_3 =>
bindO (fieldAddrV P 53 v1_1 0) fun v3_5 =>
bindO (addrV v3_5) fun a_7 => bindO (loadV P H_2 3 a_7) fun v4_6 =>
some (v4_6, H_2, n_3)
noncomputable def C72_0 (cal : Cal) (k : Nat) (v0 : Value) (H : Hp) (n : Nat) : Res := B72_0 cal k v0 H n
theorem h72_0 (cal : Cal) (k : Nat) (v0 : Value) (H : Hp) (n : Nat) : bodyE P cal A (k + 1) 72 [v0] H n = C72_0 cal k v0 H n := by
  have h : bodyE P cal A (k + 1) 72 [v0] H n = B72_0 cal k v0 H n := by
    rw [body_eq (fn := Go.Proofs.Try.f72) (c := code72) (rs := results72) (by kernel_rfl) (by kernel_rfl) (by kernel_rfl) (by kernel_rfl)]
    kernel_rfl
  rw [h, C72_0]
noncomputable def code73 : Code := codeOf 73
noncomputable def results73 : List ResultVar := resOf 73
noncomputable def K73_p (cal : Cal) (k : Nat) : KC (Value × Hp × Nat) := (cutK (A 73).c (codeE P cal (codeF P cal k) none 73 (cR code73) (Lv.b (A 73)) (doneK P results73) X0 (doneK P results73)))
noncomputable def K73_pr (cal : Cal) (k : Nat) : KC (Value × Hp × Nat) := (cutK (Lv.b (A 73)).c (codeE P cal (codeF P cal k) none 73 (cR (cR code73)) (Lv.b (Lv.b (A 73))) (doneK P results73) X0 (doneK P results73)))
noncomputable def B73_0 (cal : Cal) (k : Nat) (v0 : Value) (H : Hp) (n : Nat) : Res :=
boxK 53 v0 H n fun v1_1 H_2 n_3 =>
bindO (fieldAddrV P 53 v1_1 1) fun v3_5 =>
bindO (addrV v3_5) fun a_7 => bindO (loadV P H_2 3 a_7) fun v4_6 =>
some (v4_6, H_2, n_3)
noncomputable def C73_0 (cal : Cal) (k : Nat) (v0 : Value) (H : Hp) (n : Nat) : Res := B73_0 cal k v0 H n
theorem h73_0 (cal : Cal) (k : Nat) (v0 : Value) (H : Hp) (n : Nat) : bodyE P cal A (k + 1) 73 [v0] H n = C73_0 cal k v0 H n := by
  have h : bodyE P cal A (k + 1) 73 [v0] H n = B73_0 cal k v0 H n := by
    rw [body_eq (fn := Go.Proofs.Try.f73) (c := code73) (rs := results73) (by kernel_rfl) (by kernel_rfl) (by kernel_rfl) (by kernel_rfl)]
    kernel_rfl
  rw [h, C73_0]
noncomputable def code74 : Code := codeOf 74
noncomputable def results74 : List ResultVar := resOf 74
noncomputable def K74_p (cal : Cal) (k : Nat) : KC (Value × Hp × Nat) := (cutK (A 74).c (codeE P cal (codeF P cal k) none 74 (cR code74) (Lv.b (A 74)) (doneK P results74) X0 (doneK P results74)))
noncomputable def K74_pr (cal : Cal) (k : Nat) : KC (Value × Hp × Nat) := (cutK (Lv.b (A 74)).c (codeE P cal (codeF P cal k) none 74 (cR (cR code74)) (Lv.b (Lv.b (A 74))) (doneK P results74) X0 (doneK P results74)))
noncomputable def B74_0 (cal : Cal) (k : Nat) (v0 v1 : Value) (H : Hp) (n : Nat) : Res :=
boxK 105 v0 H n fun v2_1 H_2 n_3 =>
boxK 121 v1 H_2 n_3 fun v3_4 H_5 n_6 =>
some ((Value.func (Go.Fn.func 104) ⟨[]⟩ ⟨[v3_4, v2_1]⟩), H_5, n_6)
noncomputable def C74_0 (cal : Cal) (k : Nat) (v0 v1 : Value) (H : Hp) (n : Nat) : Res := B74_0 cal k v0 v1 H n
theorem h74_0 (cal : Cal) (k : Nat) (v0 v1 : Value) (H : Hp) (n : Nat) : bodyE P cal A (k + 1) 74 [v0, v1] H n = C74_0 cal k v0 v1 H n := by
  have h : bodyE P cal A (k + 1) 74 [v0, v1] H n = B74_0 cal k v0 v1 H n := by
    rw [body_eq (fn := Go.Proofs.Try.f74) (c := code74) (rs := results74) (by kernel_rfl) (by kernel_rfl) (by kernel_rfl) (by kernel_rfl)]
    kernel_rfl
  rw [h, C74_0]
end Go.Proofs.Ythnfcjajgifedaa.W
