/- The texts of functions, each with the proof that the evaluator says the same. -/
import Derived.Test.YthnfcjajgifedaaW1
open Go Go.Ev
set_option maxRecDepth 1000000
set_option linter.unusedVariables false
noncomputable section
namespace Go.Proofs.Ythnfcjajgifedaa.W
noncomputable def code75 : Code := codeOf 75
noncomputable def results75 : List ResultVar := resOf 75
noncomputable def K75_p (cal : Cal) (k : Nat) : KC (Value × Hp × Nat) := (cutK (A 75).c (codeE P cal (codeF P cal k) none 75 (cR code75) (Lv.b (A 75)) (doneK P results75) X0 (doneK P results75)))
noncomputable def K75_pr (cal : Cal) (k : Nat) : KC (Value × Hp × Nat) := (cutK (Lv.b (A 75)).c (codeE P cal (codeF P cal k) none 75 (cR (cR code75)) (Lv.b (Lv.b (A 75))) (doneK P results75) X0 (doneK P results75)))
noncomputable def K75_prr (cal : Cal) (k : Nat) : KC (Value × Hp × Nat) := (cutK (Lv.b (Lv.b (A 75))).c (codeE P cal (codeF P cal k) none 75 (cR (cR (cR code75))) (Lv.b (Lv.b (Lv.b (A 75)))) (doneK P results75) X0 (doneK P results75)))
noncomputable def K75_prrr (cal : Cal) (k : Nat) : KC (Value × Hp × Nat) := (cutK (Lv.b (Lv.b (Lv.b (A 75)))).c (codeE P cal (codeF P cal k) none 75 (cR (cR (cR (cR code75)))) (Lv.b (Lv.b (Lv.b (Lv.b (A 75))))) (doneK P results75) X0 (doneK P results75)))
noncomputable def K75_prrrr (cal : Cal) (k : Nat) : KC (Value × Hp × Nat) := (cutK (Lv.b (Lv.b (Lv.b (Lv.b (A 75))))).c (codeE P cal (codeF P cal k) none 75 (cR (cR (cR (cR (cR code75))))) (Lv.b (Lv.b (Lv.b (Lv.b (Lv.b (A 75)))))) (doneK P results75) X0 (doneK P results75)))
noncomputable def K75_prrrrl (cal : Cal) (k : Nat) : KC (Value × Hp × Nat) := (cutK (Lv.a (Lv.b (Lv.b (Lv.b (Lv.b (A 75)))))).c (codeE P cal (codeF P cal k) none 75 (cR (cL (cR (cR (cR (cR code75)))))) (Lv.b (Lv.a (Lv.b (Lv.b (Lv.b (Lv.b (A 75))))))) (K75_prrrr cal k) X0 (doneK P results75)))
noncomputable def K75_pxrrrrlr (cal : Cal) (k : Nat) : XC (Value × Hp × Nat) := (upX 0 (K75_prrrr cal k) X0)
noncomputable def K75_prrrrlrl (cal : Cal) (k : Nat) (m1 : Nat) : KC (Value × Hp × Nat) := (fun T H n D => codeF P cal m1 (Lv.a (Lv.b (Lv.a (Lv.b (Lv.b (Lv.b (Lv.b (A 75)))))))) none 75 (cL (cR (cL (cR (cR (cR (cR code75))))))) (K75_prrrr cal k) (K75_pxrrrrlr cal k) (doneK P results75) (cutT (Lv.a (Lv.b (Lv.a (Lv.b (Lv.b (Lv.b (Lv.b (A 75)))))))).c T) H n D)
noncomputable def K75_prrrrlrll (cal : Cal) (k : Nat) (m1 : Nat) : KC (Value × Hp × Nat) := (cutK (Lv.a (Lv.a (Lv.b (Lv.a (Lv.b (Lv.b (Lv.b (Lv.b (A 75))))))))).c (codeE P cal (codeF P cal m1) none 75 (cR (cL (cL (cR (cL (cR (cR (cR (cR code75))))))))) (Lv.b (Lv.a (Lv.a (Lv.b (Lv.a (Lv.b (Lv.b (Lv.b (Lv.b (A 75)))))))))) (K75_prrrrlrl cal k m1) (K75_pxrrrrlr cal k) (doneK P results75)))
noncomputable def K75_prrrrlrllr (cal : Cal) (k : Nat) (m1 : Nat) : KC (Value × Hp × Nat) := (cutK (Lv.b (Lv.a (Lv.a (Lv.b (Lv.a (Lv.b (Lv.b (Lv.b (Lv.b (A 75)))))))))).c (codeE P cal (codeF P cal m1) none 75 (cR (cR (cL (cL (cR (cL (cR (cR (cR (cR code75)))))))))) (Lv.b (Lv.b (Lv.a (Lv.a (Lv.b (Lv.a (Lv.b (Lv.b (Lv.b (Lv.b (A 75))))))))))) (K75_prrrrlrl cal k m1) (K75_pxrrrrlr cal k) (doneK P results75)))
noncomputable def K75_prrrrlrllrr (cal : Cal) (k : Nat) (m1 : Nat) : KC (Value × Hp × Nat) := (cutK (Lv.b (Lv.b (Lv.a (Lv.a (Lv.b (Lv.a (Lv.b (Lv.b (Lv.b (Lv.b (A 75))))))))))).c (codeE P cal (codeF P cal m1) none 75 (cR (cR (cR (cL (cL (cR (cL (cR (cR (cR (cR code75))))))))))) (Lv.b (Lv.b (Lv.b (Lv.a (Lv.a (Lv.b (Lv.a (Lv.b (Lv.b (Lv.b (Lv.b (A 75)))))))))))) (K75_prrrrlrl cal k m1) (K75_pxrrrrlr cal k) (doneK P results75)))
noncomputable def K75_pxrrrrlrllrrl (cal : Cal) (k : Nat) (m1 : Nat) : XC (Value × Hp × Nat) := (upX 1 (K75_prrrrlrllrr cal k m1) (K75_pxrrrrlr cal k))
noncomputable def K75_prrrrlrllrrll (cal : Cal) (k : Nat) (m1 : Nat) : KC (Value × Hp × Nat) := (cutK (Lv.a (Lv.a (Lv.b (Lv.b (Lv.a (Lv.a (Lv.b (Lv.a (Lv.b (Lv.b (Lv.b (Lv.b (A 75))))))))))))).c (codeE P cal (codeF P cal m1) none 75 (cR (cL (cL (cR (cR (cL (cL (cR (cL (cR (cR (cR (cR code75))))))))))))) (Lv.b (Lv.a (Lv.a (Lv.b (Lv.b (Lv.a (Lv.a (Lv.b (Lv.a (Lv.b (Lv.b (Lv.b (Lv.b (A 75)))))))))))))) (K75_prrrrlrllrr cal k m1) (K75_pxrrrrlrllrrl cal k m1) (doneK P results75)))
noncomputable def K75_prrrrlrllrrllr (cal : Cal) (k : Nat) (m1 : Nat) : KC (Value × Hp × Nat) := (cutK (Lv.b (Lv.a (Lv.a (Lv.b (Lv.b (Lv.a (Lv.a (Lv.b (Lv.a (Lv.b (Lv.b (Lv.b (Lv.b (A 75)))))))))))))).c (codeE P cal (codeF P cal m1) none 75 (cR (cR (cL (cL (cR (cR (cL (cL (cR (cL (cR (cR (cR (cR code75)))))))))))))) (Lv.b (Lv.b (Lv.a (Lv.a (Lv.b (Lv.b (Lv.a (Lv.a (Lv.b (Lv.a (Lv.b (Lv.b (Lv.b (Lv.b (A 75))))))))))))))) (K75_prrrrlrllrr cal k m1) (K75_pxrrrrlrllrrl cal k m1) (doneK P results75)))
noncomputable def K75_prrrrlrllrrllrr (cal : Cal) (k : Nat) (m1 : Nat) : KC (Value × Hp × Nat) := (cutK (Lv.b (Lv.b (Lv.a (Lv.a (Lv.b (Lv.b (Lv.a (Lv.a (Lv.b (Lv.a (Lv.b (Lv.b (Lv.b (Lv.b (A 75))))))))))))))).c (codeE P cal (codeF P cal m1) none 75 (cR (cR (cR (cL (cL (cR (cR (cL (cL (cR (cL (cR (cR (cR (cR code75))))))))))))))) (Lv.b (Lv.b (Lv.b (Lv.a (Lv.a (Lv.b (Lv.b (Lv.a (Lv.a (Lv.b (Lv.a (Lv.b (Lv.b (Lv.b (Lv.b (A 75)))))))))))))))) (K75_prrrrlrllrr cal k m1) (K75_pxrrrrlrllrrl cal k m1) (doneK P results75)))
noncomputable def K75_prrrrr (cal : Cal) (k : Nat) : KC (Value × Hp × Nat) := (cutK (Lv.b (Lv.b (Lv.b (Lv.b (Lv.b (A 75)))))).c (codeE P cal (codeF P cal k) none 75 (cR (cR (cR (cR (cR (cR code75)))))) (Lv.b (Lv.b (Lv.b (Lv.b (Lv.b (Lv.b (A 75))))))) (doneK P results75) X0 (doneK P results75)))
noncomputable def E75_1 (cal : Cal) (k m1 : Nat) : KC (Value × Hp × Nat) := codeE P cal (codeF P cal m1) none 75 (cL (cL (cR (cL (cR (cR (cR (cR code75)))))))) (Lv.a (Lv.a (Lv.b (Lv.a (Lv.b (Lv.b (Lv.b (Lv.b (A 75))))))))) (K75_prrrrlrl cal k m1) (K75_pxrrrrlr cal k) (doneK P results75)
noncomputable def R75_1 (cal : Cal) (k m1 : Nat) : Value → Value → Value → Value → Value → Hp → Nat → Res := fun u6 u7 u8 u24 u25 H n => codeF P cal m1 (Lv.a (Lv.b (Lv.a (Lv.b (Lv.b (Lv.b (Lv.b (A 75)))))))) none 75 (cL (cR (cL (cR (cR (cR (cR code75))))))) (K75_prrrr cal k) (K75_pxrrrrlr cal k) (doneK P results75) (Tr.set (Tr.set (Tr.set (Tr.set (Tr.set Tr.nil 25 (some u25)) 24 (some u24)) 8 (some u8)) 7 (some u7)) 6 (some u6)) H n []
noncomputable def B75_1 (cal : Cal) (k m1 : Nat) (b1 : Value → Value → Value → Value → Value → Hp → Nat → Res) (u6 u7 u8 u24 u25 : Value) (H : Hp) (n : Nat) : Res :=
binK P Go.BinOp.lss 3 (Go.Operand.tmp 25) (Go.Operand.const (Go.Value.int Go.IntKind.i64 8)) u25 (Go.Value.int Go.IntKind.i64 8) fun v26_38 =>
ifK v26_38 (
bindO (indexV P 111 u24 u25) fun v28_40 =>
allocK P 53 H n fun v10_41 H_42 n_43 =>
bindO (storeP P 53 v10_41 v28_40 H_42) fun H_46 =>
bindO (fieldAddrV P 53 v10_41 1) fun v30_48 =>
bindO (addrV v30_48) fun a_50 => bindO (loadV P H_46 3 a_50) fun v31_49 =>
bindO (fieldAddrV P 53 v10_41 0) fun v32_51 =>
bindO (addrV v32_51) fun a_53 => bindO (loadV P H_46 3 a_53) fun v33_52 =>
binK P Go.BinOp.sub 3 (Go.Operand.tmp 31) (Go.Operand.tmp 33) v31_49 v33_52 fun v34_54 =>
rowK P 44 1 [(0, v34_54)] H_46 n_43 fun v35_55 H_56 n_57 =>
callFK P cal 105 [u8, v35_55] H_56 n_57 fun v36_58 H_59 n_60 =>
bindO (fieldAddrV P 53 v10_41 0) fun v38_63 =>
bindO (addrV v38_63) fun a_65 => bindO (loadV P H_59 3 a_65) fun v39_64 =>
binK P Go.BinOp.add 3 (Go.Operand.tmp 39) (Go.Operand.tmp 40) v39_64 v36_58 fun v41_67 =>
bindO (indexAddrV P 120 u7 u25) fun v42_68 =>
bindO (storeP P 3 v42_68 v41_67 H_59) fun H_70 =>
binK P Go.BinOp.sub 3 (Go.Operand.tmp 43) (Go.Operand.tmp 44) u8 v36_58 fun v45_73 =>
binK P Go.BinOp.add 3 (Go.Operand.tmp 25) (Go.Operand.const (Go.Value.int Go.IntKind.i64 1)) u25 (Go.Value.int Go.IntKind.i64 1) fun v46_75 =>
b1 u6 u7 v45_73 u24 v46_75 H_70 n_60) (
bindO (addrV u7) fun a_78 => bindO (loadV P H 120 a_78) fun v47_77 =>
bindO (storeP P 120 u6 v47_77 H) fun H_80 =>
bindO (resV P (Tr.set Tr.nil 6 (some u6)) H_80 results75) fun vs_81 => some (oneV vs_81, H_80, n))
noncomputable def C75_1 (cal : Cal) (k m1 : Nat) (b1 : Value → Value → Value → Value → Value → Hp → Nat → Res) (u6 u7 u8 u24 u25 : Value) (H : Hp) (n : Nat) : Res := B75_1 cal k m1 b1 u6 u7 u8 u24 u25 H n
noncomputable def S75_1 (cal : Cal) (k : Nat) : Nat → Value → Value → Value → Value → Value → Hp → Nat → Res := fun m => Nat.rec (motive := fun _ => Value → Value → Value → Value → Value → Hp → Nat → Res) (C75_1 cal k 0 (fun _ _ _ _ _ _ _ => none)) (fun m ih => C75_1 cal k (m + 1) ih) m
theorem h75_1 (cal : Cal) (k m1 : Nat) (u6 u7 u8 u24 u25 : Value) (H : Hp) (n : Nat) : labK (E75_1 cal k m1) (Tr.set (Tr.set (Tr.set (Tr.set (Tr.set Tr.nil 25 (some u25)) 24 (some u24)) 8 (some u8)) 7 (some u7)) 6 (some u6)) H n [] = C75_1 cal k m1 (R75_1 cal k m1) u6 u7 u8 u24 u25 H n := by
  have h : labK (E75_1 cal k m1) (Tr.set (Tr.set (Tr.set (Tr.set (Tr.set Tr.nil 25 (some u25)) 24 (some u24)) 8 (some u8)) 7 (some u7)) 6 (some u6)) H n [] = B75_1 cal k m1 (R75_1 cal k m1) u6 u7 u8 u24 u25 H n := by kernel_rfl
  rw [h, C75_1]
theorem q75_1 (cal : Cal) (k : Nat) : ∀ (m : Nat) (u6 u7 u8 u24 u25 : Value) (H : Hp) (n : Nat), labK (E75_1 cal k m) (Tr.set (Tr.set (Tr.set (Tr.set (Tr.set Tr.nil 25 (some u25)) 24 (some u24)) 8 (some u8)) 7 (some u7)) 6 (some u6)) H n [] = S75_1 cal k m u6 u7 u8 u24 u25 H n
  | 0, u6, u7, u8, u24, u25, H, n => by
    rw [h75_1]
    have e : R75_1 cal k 0 = fun _ _ _ _ _ _ _ => none := by funext u6 u7 u8 u24 u25 H n; kernel_rfl
    rw [e]; rfl
  | m + 1, u6, u7, u8, u24, u25, H, n => by
    rw [h75_1]
    have e : R75_1 cal k (m + 1) = S75_1 cal k m := by
      funext u6 u7 u8 u24 u25 H n
      have e : R75_1 cal k (m + 1) u6 u7 u8 u24 u25 H n = labK (E75_1 cal k m) (Tr.set (Tr.set (Tr.set (Tr.set (Tr.set Tr.nil 25 (some u25)) 24 (some u24)) 8 (some u8)) 7 (some u7)) 6 (some u6)) H n [] := by kernel_rfl
      rw [e]; exact q75_1 ..
    rw [e]; rfl
noncomputable def B75_0 (cal : Cal) (k : Nat) (j1 : Value → Value → Value → Value → Value → Hp → Nat → Res) (v0 v1 v2 : Value) (H : Hp) (n : Nat) : Res :=
boxK 113 v0 H n fun v3_1 H_2 n_3 =>
allocK P 120 H_2 n_3 fun v6_4 H_5 n_6 =>
bindO (buildP P 53 [(0, v2), (1, v2)]) fun v15_10 =>
bindO (fieldAddrV P 113 v3_1 1) fun v16_11 =>
bindO (indexAddrV P 111 v16_11 v1) fun v17_12 =>
bindO (storeP P 53 v17_12 v15_10 H_5) fun H_14 =>
allocK P 120 H_14 n_6 fun v7_15 H_16 n_17 =>
bindO (fieldAddrV P 113 v3_1 0) fun v18_18 =>
bindO (addrV v18_18) fun a_19 => bindO (loadV P H_16 3 a_19) fun v_20 =>
bindO (addrV v3_1) fun a_21 => bindO (loadV P H_16 113 a_21) fun v_22 =>
effK P [(.l 3 a_19)] H_16 n_17 (fun H_23 n_24 k_25 =>
callFK P cal 98 [v_22, (Value.func (.func 72) #[] #[])] H_23 n_24 fun v21_29 H_30 n_31 =>
k_25 v21_29 H_30 n_31) fun v_26 H_27 n_28 =>
binK P Go.BinOp.sub 3 (Go.Operand.tmp 19) (Go.Operand.tmp 21) v_20 v_26 fun v22_32 =>
bindO (fieldAddrV P 113 v3_1 1) fun v23_34 =>
bindO (addrV v23_34) fun a_36 => bindO (loadV P H_27 111 a_36) fun v24_35 =>
j1 v6_4 v7_15 v22_32 v24_35 (Go.Value.int Go.IntKind.i64 0) H_27 n_28
noncomputable def C75_0 (cal : Cal) (k : Nat) (v0 v1 v2 : Value) (H : Hp) (n : Nat) : Res := B75_0 cal k (S75_1 cal k k) v0 v1 v2 H n
theorem h75_0 (cal : Cal) (k : Nat) (v0 v1 v2 : Value) (H : Hp) (n : Nat) : bodyE P cal A (k + 1) 75 [v0, v1, v2] H n = C75_0 cal k v0 v1 v2 H n := by
  have h : bodyE P cal A (k + 1) 75 [v0, v1, v2] H n = B75_0 cal k (fun u6 u7 u8 u24 u25 H n => labK (E75_1 cal k k) (Tr.set (Tr.set (Tr.set (Tr.set (Tr.set Tr.nil 25 (some u25)) 24 (some u24)) 8 (some u8)) 7 (some u7)) 6 (some u6)) H n []) v0 v1 v2 H n := by
    rw [body_eq (fn := Go.Proofs.Try.f75) (c := code75) (rs := results75) (by kernel_rfl) (by kernel_rfl) (by kernel_rfl) (by kernel_rfl)]
    kernel_rfl
  rw [h, C75_0]
  have e1 : (fun u6 u7 u8 u24 u25 H n => labK (E75_1 cal k k) (Tr.set (Tr.set (Tr.set (Tr.set (Tr.set Tr.nil 25 (some u25)) 24 (some u24)) 8 (some u8)) 7 (some u7)) 6 (some u6)) H n []) = (S75_1 cal k k) := by funext u6 u7 u8 u24 u25 H n; exact q75_1 ..
  rw [e1]
noncomputable def code76 : Code := codeOf 76
noncomputable def results76 : List ResultVar := resOf 76
noncomputable def K76_p (cal : Cal) (k : Nat) : KC (Value × Hp × Nat) := (cutK (A 76).c (codeE P cal (codeF P cal k) none 76 (cR code76) (Lv.b (A 76)) (doneK P results76) X0 (doneK P results76)))
noncomputable def K76_pr (cal : Cal) (k : Nat) : KC (Value × Hp × Nat) := (cutK (Lv.b (A 76)).c (codeE P cal (codeF P cal k) none 76 (cR (cR code76)) (Lv.b (Lv.b (A 76))) (doneK P results76) X0 (doneK P results76)))
noncomputable def K76_prl (cal : Cal) (k : Nat) : KC (Value × Hp × Nat) := (cutK (Lv.a (Lv.b (A 76))).c (codeE P cal (codeF P cal k) none 76 (cR (cL (cR code76))) (Lv.b (Lv.a (Lv.b (A 76)))) (K76_pr cal k) X0 (doneK P results76)))
noncomputable def K76_prlrl (cal : Cal) (k : Nat) : KC (Value × Hp × Nat) := (cutK (Lv.a (Lv.b (Lv.a (Lv.b (A 76))))).c (codeE P cal (codeF P cal k) none 76 (cR (cL (cR (cL (cR code76))))) (Lv.b (Lv.a (Lv.b (Lv.a (Lv.b (A 76)))))) (K76_pr cal k) X0 (doneK P results76)))
noncomputable def K76_prr (cal : Cal) (k : Nat) : KC (Value × Hp × Nat) := (cutK (Lv.b (Lv.b (A 76))).c (codeE P cal (codeF P cal k) none 76 (cR (cR (cR code76))) (Lv.b (Lv.b (Lv.b (A 76)))) (doneK P results76) X0 (doneK P results76)))
noncomputable def B76_0 (cal : Cal) (k : Nat) (v0 : Value) (H : Hp) (n : Nat) : Res :=
binK P Go.BinOp.eql 44 (Go.Operand.tmp 3) (Go.Operand.const (Go.Value.slice none 0 0)) v0 (Go.Value.slice none 0 0) fun v4_3 =>
ifK v4_3 (
some ((Go.Value.slice none 0 0), H, n)) (
rowK P 44 0 [] H n fun v5_5 H_6 n_7 =>
stK (appendV P (bare H_6 n_7) 44 44 v5_5 v0) fun v7_9 H_10 n_11 =>
some (v7_9, H_10, n_11))
noncomputable def C76_0 (cal : Cal) (k : Nat) (v0 : Value) (H : Hp) (n : Nat) : Res := B76_0 cal k v0 H n
theorem h76_0 (cal : Cal) (k : Nat) (v0 : Value) (H : Hp) (n : Nat) : bodyE P cal A (k + 1) 76 [v0] H n = C76_0 cal k v0 H n := by
  have h : bodyE P cal A (k + 1) 76 [v0] H n = B76_0 cal k v0 H n := by
    rw [body_eq (fn := Go.Proofs.Try.f76) (c := code76) (rs := results76) (by kernel_rfl) (by kernel_rfl) (by kernel_rfl) (by kernel_rfl)]
    kernel_rfl
  rw [h, C76_0]
noncomputable def code79 : Code := codeOf 79
noncomputable def results79 : List ResultVar := resOf 79
noncomputable def K79_p (cal : Cal) (k : Nat) : KC (Value × Hp × Nat) := (cutK (A 79).c (codeE P cal (codeF P cal k) none 79 (cR code79) (Lv.b (A 79)) (doneK P results79) X0 (doneK P results79)))
noncomputable def K79_pr (cal : Cal) (k : Nat) : KC (Value × Hp × Nat) := (cutK (Lv.b (A 79)).c (codeE P cal (codeF P cal k) none 79 (cR (cR code79)) (Lv.b (Lv.b (A 79))) (doneK P results79) X0 (doneK P results79)))
noncomputable def K79_prl (cal : Cal) (k : Nat) : KC (Value × Hp × Nat) := (cutK (Lv.a (Lv.b (A 79))).c (codeE P cal (codeF P cal k) none 79 (cR (cL (cR code79))) (Lv.b (Lv.a (Lv.b (A 79)))) (K79_pr cal k) X0 (doneK P results79)))
noncomputable def K79_prlrl (cal : Cal) (k : Nat) : KC (Value × Hp × Nat) := (cutK (Lv.a (Lv.b (Lv.a (Lv.b (A 79))))).c (codeE P cal (codeF P cal k) none 79 (cR (cL (cR (cL (cR code79))))) (Lv.b (Lv.a (Lv.b (Lv.a (Lv.b (A 79)))))) (K79_pr cal k) X0 (doneK P results79)))
noncomputable def K79_prr (cal : Cal) (k : Nat) : KC (Value × Hp × Nat) := (cutK (Lv.b (Lv.b (A 79))).c (codeE P cal (codeF P cal k) none 79 (cR (cR (cR code79))) (Lv.b (Lv.b (Lv.b (A 79)))) (doneK P results79) X0 (doneK P results79)))
noncomputable def K79_prrl (cal : Cal) (k : Nat) : KC (Value × Hp × Nat) := (cutK (Lv.a (Lv.b (Lv.b (A 79)))).c (codeE P cal (codeF P cal k) none 79 (cR (cL (cR (cR code79)))) (Lv.b (Lv.a (Lv.b (Lv.b (A 79))))) (K79_prr cal k) X0 (doneK P results79)))
noncomputable def K79_pxrrlr (cal : Cal) (k : Nat) : XC (Value × Hp × Nat) := (upX 0 (K79_prr cal k) X0)
noncomputable def K79_prrlrl (cal : Cal) (k : Nat) (m1 : Nat) : KC (Value × Hp × Nat) := (fun T H n D => codeF P cal m1 (Lv.a (Lv.b (Lv.a (Lv.b (Lv.b (A 79)))))) none 79 (cL (cR (cL (cR (cR code79))))) (K79_prr cal k) (K79_pxrrlr cal k) (doneK P results79) (cutT (Lv.a (Lv.b (Lv.a (Lv.b (Lv.b (A 79)))))).c T) H n D)
noncomputable def K79_prrlrll (cal : Cal) (k : Nat) (m1 : Nat) : KC (Value × Hp × Nat) := (cutK (Lv.a (Lv.a (Lv.b (Lv.a (Lv.b (Lv.b (A 79))))))).c (codeE P cal (codeF P cal m1) none 79 (cR (cL (cL (cR (cL (cR (cR code79))))))) (Lv.b (Lv.a (Lv.a (Lv.b (Lv.a (Lv.b (Lv.b (A 79)))))))) (K79_prrlrl cal k m1) (K79_pxrrlr cal k) (doneK P results79)))
noncomputable def K79_prrlrllr (cal : Cal) (k : Nat) (m1 : Nat) : KC (Value × Hp × Nat) := (cutK (Lv.b (Lv.a (Lv.a (Lv.b (Lv.a (Lv.b (Lv.b (A 79)))))))).c (codeE P cal (codeF P cal m1) none 79 (cR (cR (cL (cL (cR (cL (cR (cR code79)))))))) (Lv.b (Lv.b (Lv.a (Lv.a (Lv.b (Lv.a (Lv.b (Lv.b (A 79))))))))) (K79_prrlrl cal k m1) (K79_pxrrlr cal k) (doneK P results79)))
noncomputable def K79_prrlrllrr (cal : Cal) (k : Nat) (m1 : Nat) : KC (Value × Hp × Nat) := (cutK (Lv.b (Lv.b (Lv.a (Lv.a (Lv.b (Lv.a (Lv.b (Lv.b (A 79))))))))).c (codeE P cal (codeF P cal m1) none 79 (cR (cR (cR (cL (cL (cR (cL (cR (cR code79))))))))) (Lv.b (Lv.b (Lv.b (Lv.a (Lv.a (Lv.b (Lv.a (Lv.b (Lv.b (A 79)))))))))) (K79_prrlrl cal k m1) (K79_pxrrlr cal k) (doneK P results79)))
noncomputable def K79_pxrrlrllrrl (cal : Cal) (k : Nat) (m1 : Nat) : XC (Value × Hp × Nat) := (upX 1 (K79_prrlrllrr cal k m1) (K79_pxrrlr cal k))
noncomputable def K79_prrlrllrrll (cal : Cal) (k : Nat) (m1 : Nat) : KC (Value × Hp × Nat) := (cutK (Lv.a (Lv.a (Lv.b (Lv.b (Lv.a (Lv.a (Lv.b (Lv.a (Lv.b (Lv.b (A 79))))))))))).c (codeE P cal (codeF P cal m1) none 79 (cR (cL (cL (cR (cR (cL (cL (cR (cL (cR (cR code79))))))))))) (Lv.b (Lv.a (Lv.a (Lv.b (Lv.b (Lv.a (Lv.a (Lv.b (Lv.a (Lv.b (Lv.b (A 79)))))))))))) (K79_prrlrllrr cal k m1) (K79_pxrrlrllrrl cal k m1) (doneK P results79)))
noncomputable def K79_prrlrllrrllr (cal : Cal) (k : Nat) (m1 : Nat) : KC (Value × Hp × Nat) := (cutK (Lv.b (Lv.a (Lv.a (Lv.b (Lv.b (Lv.a (Lv.a (Lv.b (Lv.a (Lv.b (Lv.b (A 79)))))))))))).c (codeE P cal (codeF P cal m1) none 79 (cR (cR (cL (cL (cR (cR (cL (cL (cR (cL (cR (cR code79)))))))))))) (Lv.b (Lv.b (Lv.a (Lv.a (Lv.b (Lv.b (Lv.a (Lv.a (Lv.b (Lv.a (Lv.b (Lv.b (A 79))))))))))))) (K79_prrlrllrr cal k m1) (K79_pxrrlrllrrl cal k m1) (doneK P results79)))
noncomputable def K79_prrlrllrrllrl (cal : Cal) (k : Nat) (m1 : Nat) : KC (Value × Hp × Nat) := (cutK (Lv.a (Lv.b (Lv.a (Lv.a (Lv.b (Lv.b (Lv.a (Lv.a (Lv.b (Lv.a (Lv.b (Lv.b (A 79))))))))))))).c (codeE P cal (codeF P cal m1) none 79 (cR (cL (cR (cL (cL (cR (cR (cL (cL (cR (cL (cR (cR code79))))))))))))) (Lv.b (Lv.a (Lv.b (Lv.a (Lv.a (Lv.b (Lv.b (Lv.a (Lv.a (Lv.b (Lv.a (Lv.b (Lv.b (A 79)))))))))))))) (K79_prrlrllrrllr cal k m1) (K79_pxrrlrllrrl cal k m1) (doneK P results79)))
noncomputable def K79_prrlrllrrllrlrl (cal : Cal) (k : Nat) (m1 : Nat) : KC (Value × Hp × Nat) := (cutK (Lv.a (Lv.b (Lv.a (Lv.b (Lv.a (Lv.a (Lv.b (Lv.b (Lv.a (Lv.a (Lv.b (Lv.a (Lv.b (Lv.b (A 79))))))))))))))).c (codeE P cal (codeF P cal m1) none 79 (cR (cL (cR (cL (cR (cL (cL (cR (cR (cL (cL (cR (cL (cR (cR code79))))))))))))))) (Lv.b (Lv.a (Lv.b (Lv.a (Lv.b (Lv.a (Lv.a (Lv.b (Lv.b (Lv.a (Lv.a (Lv.b (Lv.a (Lv.b (Lv.b (A 79)))))))))))))))) (K79_prrlrllrrllr cal k m1) (K79_pxrrlrllrrl cal k m1) (doneK P results79)))
noncomputable def K79_prrlrllrrllrr (cal : Cal) (k : Nat) (m1 : Nat) : KC (Value × Hp × Nat) := (cutK (Lv.b (Lv.b (Lv.a (Lv.a (Lv.b (Lv.b (Lv.a (Lv.a (Lv.b (Lv.a (Lv.b (Lv.b (A 79))))))))))))).c (codeE P cal (codeF P cal m1) none 79 (cR (cR (cR (cL (cL (cR (cR (cL (cL (cR (cL (cR (cR code79))))))))))))) (Lv.b (Lv.b (Lv.b (Lv.a (Lv.a (Lv.b (Lv.b (Lv.a (Lv.a (Lv.b (Lv.a (Lv.b (Lv.b (A 79)))))))))))))) (K79_prrlrllrr cal k m1) (K79_pxrrlrllrrl cal k m1) (doneK P results79)))
noncomputable def K79_prrlrllrrllrrrl (cal : Cal) (k : Nat) (m1 : Nat) : KC (Value × Hp × Nat) := (cutK (Lv.a (Lv.b (Lv.b (Lv.b (Lv.a (Lv.a (Lv.b (Lv.b (Lv.a (Lv.a (Lv.b (Lv.a (Lv.b (Lv.b (A 79))))))))))))))).c (codeE P cal (codeF P cal m1) none 79 (cR (cL (cR (cR (cR (cL (cL (cR (cR (cL (cL (cR (cL (cR (cR code79))))))))))))))) (Lv.b (Lv.a (Lv.b (Lv.b (Lv.b (Lv.a (Lv.a (Lv.b (Lv.b (Lv.a (Lv.a (Lv.b (Lv.a (Lv.b (Lv.b (A 79)))))))))))))))) (K79_prrlrllrr cal k m1) (K79_pxrrlrllrrl cal k m1) (doneK P results79)))
noncomputable def K79_prrr (cal : Cal) (k : Nat) : KC (Value × Hp × Nat) := (cutK (Lv.b (Lv.b (Lv.b (A 79)))).c (codeE P cal (codeF P cal k) none 79 (cR (cR (cR (cR code79)))) (Lv.b (Lv.b (Lv.b (Lv.b (A 79))))) (doneK P results79) X0 (doneK P results79)))
noncomputable def E79_1 (cal : Cal) (k m1 : Nat) : KC (Value × Hp × Nat) := codeE P cal (codeF P cal m1) none 79 (cL (cL (cR (cL (cR (cR code79)))))) (Lv.a (Lv.a (Lv.b (Lv.a (Lv.b (Lv.b (A 79))))))) (K79_prrlrl cal k m1) (K79_pxrrlr cal k) (doneK P results79)
noncomputable def R79_1 (cal : Cal) (k m1 : Nat) : Value → Value → Value → Value → Value → Hp → Nat → Res := fun u0 u2 u24 u25 u26 H n => codeF P cal m1 (Lv.a (Lv.b (Lv.a (Lv.b (Lv.b (A 79)))))) none 79 (cL (cR (cL (cR (cR code79))))) (K79_prr cal k) (K79_pxrrlr cal k) (doneK P results79) (Tr.set (Tr.set (Tr.set (Tr.set (Tr.set Tr.nil 26 (some u26)) 25 (some u25)) 24 (some u24)) 2 (some u2)) 0 (some u0)) H n []
noncomputable def B79_1 (cal : Cal) (k m1 : Nat) (b1 : Value → Value → Value → Value → Value → Hp → Nat → Res) (u0 u2 u24 u25 u26 : Value) (H : Hp) (n : Nat) : Res :=
binK P Go.BinOp.lss 3 (Go.Operand.tmp 26) (Go.Operand.tmp 25) u26 u25 fun v27_26 =>
ifK v27_26 (
bindO (indexAddrV P 44 u24 u26) fun v29_28 =>
bindO (addrV v29_28) fun a_30 => bindO (loadV P H 3 a_30) fun v30_29 =>
binK P Go.BinOp.eql 3 (Go.Operand.tmp 31) (Go.Operand.const (Go.Value.int Go.IntKind.i64 (-1))) v30_29 (Go.Value.int Go.IntKind.i64 (-1)) fun v32_34 =>
guardK v32_34 true (fun k_36 =>
k_36 u2 H n) H n fun v_37 H_38 n_39 =>
guardK v32_34 true (fun k_41 =>
k_41 u26 H_38 n_39) H_38 n_39 fun v_42 H_43 n_44 =>
guardK v32_34 true (fun k_46 =>
bindO (indexAddrV P 59 v_37 v_42) fun v36_50 =>
k_46 v36_50 H_43 n_44) H_43 n_44 fun v_47 H_48 n_49 =>
guardK v32_34 true (fun k_51 =>
bindO (addrV v_47) fun a_56 => bindO (loadV P H_48 44 a_56) fun v37_55 =>
k_51 v37_55 H_48 n_49) H_48 n_49 fun v_52 H_53 n_54 =>
guardK v32_34 true (fun k_57 =>
bindO (lenV P 44 v_52) fun v38_61 =>
k_57 v38_61 H_53 n_54) H_53 n_54 fun v_58 H_59 n_60 =>
guardK v32_34 true (fun k_62 =>
binK P Go.BinOp.gtr 3 (Go.Operand.tmp 38) (Go.Operand.const (Go.Value.int Go.IntKind.i64 0)) v_58 (Go.Value.int Go.IntKind.i64 0) fun v39_66 =>
k_62 v39_66 H_59 n_60) H_59 n_60 fun v_63 H_64 n_65 =>
bindO (pickV v32_34 v_63 (Go.Value.bool false)) fun v40_67 =>
ifK v40_67 (
some ((Go.Value.bool false), H_64, n_65)) (
binK P Go.BinOp.neq 3 (Go.Operand.tmp 41) (Go.Operand.const (Go.Value.int Go.IntKind.i64 (-1))) v30_29 (Go.Value.int Go.IntKind.i64 (-1)) fun v42_70 =>
guardD v42_70 true (fun k_72 =>
k_72 u0 .p H_64 n_65) .p H_64 n_65 fun v_73 x_74 H_75 n_76 =>
guardD v42_70 true (fun k_78 =>
k_78 u26 .p H_75 n_76) .p H_75 n_76 fun v_79 x_80 H_81 n_82 =>
guardD v42_70 true (fun k_84 =>
k_84 v30_29 .p H_81 n_82) .p H_81 n_82 fun v_85 x_86 H_87 n_88 =>
guardD v42_70 true (fun k_90 =>
bindO (nilV v_73) fun v47_95 =>
k_90 v47_95 .p H_87 n_88) .p H_87 n_88 fun v_91 x_92 H_93 n_94 =>
guardD v42_70 true (fun k_96 =>
bindO (fieldAddrV P 117 v_91 2) fun v48_101 =>
k_96 v48_101 .p H_93 n_94) .p H_93 n_94 fun v_97 x_98 H_99 n_100 =>
guardD v42_70 true (fun k_102 =>
bindO (indexAddrV P 115 v_97 v_79) fun v49_107 =>
k_102 v49_107 .p H_99 n_100) .p H_99 n_100 fun v_103 x_104 H_105 n_106 =>
guardD v42_70 true (fun k_108 =>
bindO (indexAddrV P 114 v_103 v_85) fun v50_113 =>
k_108 v50_113 .p H_105 n_106) .p H_105 n_106 fun v_109 x_110 H_111 n_112 =>
guardD v42_70 true (fun k_114 =>
bindO (addrV v_109) fun a_119 => bindO (loadV P H_111 113 a_119) fun v_120 =>
k_114 v_120 (.l 113 a_119) H_111 n_112) .p H_111 n_112 fun v_115 x_116 H_117 n_118 =>
guardD v42_70 true (fun k_121 =>
k_121 u2 .p H_117 n_118) .p H_117 n_118 fun v_122 x_123 H_124 n_125 =>
guardD v42_70 true (fun k_127 =>
k_127 u26 .p H_124 n_125) .p H_124 n_125 fun v_128 x_129 H_130 n_131 =>
guardD v42_70 true (fun k_133 =>
bindO (indexAddrV P 59 v_122 v_128) fun v54_138 =>
k_133 v54_138 .p H_130 n_131) .p H_130 n_131 fun v_134 x_135 H_136 n_137 =>
guardD v42_70 true (fun k_139 =>
bindO (addrV v_134) fun a_144 => bindO (loadV P H_136 44 a_144) fun v_145 =>
k_139 v_145 (.l 44 a_144) H_136 n_137) .p H_136 n_137 fun v_140 x_141 H_142 n_143 =>
guardD v42_70 true (fun k_146 =>
k_146 u0 .p H_142 n_143) .p H_142 n_143 fun v_147 x_148 H_149 n_150 =>
guardD v42_70 true (fun k_152 =>
bindO (nilV v_147) fun v57_157 =>
k_152 v57_157 .p H_149 n_150) .p H_149 n_150 fun v_153 x_154 H_155 n_156 =>
guardD v42_70 true (fun k_158 =>
bindO (fieldAddrV P 117 v_153 0) fun v58_163 =>
k_158 v58_163 .p H_155 n_156) .p H_155 n_156 fun v_159 x_160 H_161 n_162 =>
guardD v42_70 true (fun k_164 =>
bindO (fieldAddrV P 35 v_159 0) fun v59_169 =>
k_164 v59_169 .p H_161 n_162) .p H_161 n_162 fun v_165 x_166 H_167 n_168 =>
guardD v42_70 true (fun k_170 =>
bindO (addrV v_165) fun a_175 => bindO (loadV P H_167 31 a_175) fun v_176 =>
k_170 v_176 (.l 31 a_175) H_167 n_168) .p H_167 n_168 fun v_171 x_172 H_173 n_174 =>
guardD v42_70 true (fun k_177 =>
bindO (lenV P 31 v_171) fun v61_182 =>
k_177 v61_182 .p H_173 n_174) .p H_173 n_174 fun v_178 x_179 H_180 n_181 =>
guardD v42_70 true (fun k_183 =>
callFK P cal 109 [v_115, v_140, v_178] H_180 n_181 fun v62_188 H_189 n_190 =>
k_183 v62_188 .e H_189 n_190) .e H_180 n_181 fun v_184 x_185 H_186 n_187 =>
guardD v42_70 true (fun k_191 =>
bindO (pureSem P v_184 (Op.unary Go.UnOp.not v_184)) fun v63_196 =>
k_191 v63_196 .p H_186 n_187) .p H_186 n_187 fun v_192 x_193 H_194 n_195 =>
bindO (pickV v42_70 v_192 (Go.Value.bool false)) fun v64_197 =>
ifK v64_197 (
some ((Go.Value.bool false), H_194, n_195)) (
binK P Go.BinOp.add 3 (Go.Operand.tmp 26) (Go.Operand.const (Go.Value.int Go.IntKind.i64 1)) u26 (Go.Value.int Go.IntKind.i64 1) fun v65_199 =>
b1 u0 u2 u24 u25 v65_199 H_194 n_195))) (
some ((Go.Value.bool true), H, n))
noncomputable def C79_1 (cal : Cal) (k m1 : Nat) (b1 : Value → Value → Value → Value → Value → Hp → Nat → Res) (u0 u2 u24 u25 u26 : Value) (H : Hp) (n : Nat) : Res := B79_1 cal k m1 b1 u0 u2 u24 u25 u26 H n
noncomputable def S79_1 (cal : Cal) (k : Nat) : Nat → Value → Value → Value → Value → Value → Hp → Nat → Res := fun m => Nat.rec (motive := fun _ => Value → Value → Value → Value → Value → Hp → Nat → Res) (C79_1 cal k 0 (fun _ _ _ _ _ _ _ => none)) (fun m ih => C79_1 cal k (m + 1) ih) m
theorem h79_1 (cal : Cal) (k m1 : Nat) (u0 u2 u24 u25 u26 : Value) (H : Hp) (n : Nat) : labK (E79_1 cal k m1) (Tr.set (Tr.set (Tr.set (Tr.set (Tr.set Tr.nil 26 (some u26)) 25 (some u25)) 24 (some u24)) 2 (some u2)) 0 (some u0)) H n [] = C79_1 cal k m1 (R79_1 cal k m1) u0 u2 u24 u25 u26 H n := by
  have h : labK (E79_1 cal k m1) (Tr.set (Tr.set (Tr.set (Tr.set (Tr.set Tr.nil 26 (some u26)) 25 (some u25)) 24 (some u24)) 2 (some u2)) 0 (some u0)) H n [] = B79_1 cal k m1 (R79_1 cal k m1) u0 u2 u24 u25 u26 H n := by kernel_rfl
  rw [h, C79_1]
theorem q79_1 (cal : Cal) (k : Nat) : ∀ (m : Nat) (u0 u2 u24 u25 u26 : Value) (H : Hp) (n : Nat), labK (E79_1 cal k m) (Tr.set (Tr.set (Tr.set (Tr.set (Tr.set Tr.nil 26 (some u26)) 25 (some u25)) 24 (some u24)) 2 (some u2)) 0 (some u0)) H n [] = S79_1 cal k m u0 u2 u24 u25 u26 H n
  | 0, u0, u2, u24, u25, u26, H, n => by
    rw [h79_1]
    have e : R79_1 cal k 0 = fun _ _ _ _ _ _ _ => none := by funext u0 u2 u24 u25 u26 H n; kernel_rfl
    rw [e]; rfl
  | m + 1, u0, u2, u24, u25, u26, H, n => by
    rw [h79_1]
    have e : R79_1 cal k (m + 1) = S79_1 cal k m := by
      funext u0 u2 u24 u25 u26 H n
      have e : R79_1 cal k (m + 1) u0 u2 u24 u25 u26 H n = labK (E79_1 cal k m) (Tr.set (Tr.set (Tr.set (Tr.set (Tr.set Tr.nil 26 (some u26)) 25 (some u25)) 24 (some u24)) 2 (some u2)) 0 (some u0)) H n [] := by kernel_rfl
      rw [e]; exact q79_1 ..
    rw [e]; rfl
noncomputable def B79_0 (cal : Cal) (k : Nat) (j1 : Value → Value → Value → Value → Value → Hp → Nat → Res) (v0 v1 v2 : Value) (H : Hp) (n : Nat) : Res :=
boxK 121 v1 H n fun v4_1 H_2 n_3 =>
bindO (lenV P 59 v2) fun v10_6 =>
bindO (nilV v0) fun v12_8 =>
bindO (fieldAddrV P 117 v12_8 0) fun v13_9 =>
bindO (fieldAddrV P 35 v13_9 0) fun v14_10 =>
bindO (addrV v14_10) fun a_12 => bindO (loadV P H_2 31 a_12) fun v15_11 =>
bindO (lenV P 31 v15_11) fun v16_13 =>
binK P Go.BinOp.neq 3 (Go.Operand.tmp 10) (Go.Operand.tmp 16) v10_6 v16_13 fun v17_14 =>
ifK v17_14 (
some ((Go.Value.bool false), H_2, n_3)) (
bindO (nilV v0) fun v19_17 =>
bindO (fieldAddrV P 117 v19_17 0) fun v20_18 =>
bindO (fieldAddrV P 35 v20_18 0) fun v21_19 =>
bindO (addrV v21_19) fun a_21 => bindO (loadV P H_2 31 a_21) fun v22_20 =>
bindO (lenV P 31 v22_20) fun v23_22 =>
bindO (sliceV P 121 v4_1 none (some v23_22)) fun v24_23 =>
bindO (lenV P 44 v24_23) fun v25_24 =>
j1 v0 v2 v24_23 v25_24 (Go.Value.int Go.IntKind.i64 0) H_2 n_3)
noncomputable def C79_0 (cal : Cal) (k : Nat) (v0 v1 v2 : Value) (H : Hp) (n : Nat) : Res := B79_0 cal k (S79_1 cal k k) v0 v1 v2 H n
theorem h79_0 (cal : Cal) (k : Nat) (v0 v1 v2 : Value) (H : Hp) (n : Nat) : bodyE P cal A (k + 1) 79 [v0, v1, v2] H n = C79_0 cal k v0 v1 v2 H n := by
  have h : bodyE P cal A (k + 1) 79 [v0, v1, v2] H n = B79_0 cal k (fun u0 u2 u24 u25 u26 H n => labK (E79_1 cal k k) (Tr.set (Tr.set (Tr.set (Tr.set (Tr.set Tr.nil 26 (some u26)) 25 (some u25)) 24 (some u24)) 2 (some u2)) 0 (some u0)) H n []) v0 v1 v2 H n := by
    rw [body_eq (fn := Go.Proofs.Try.f79) (c := code79) (rs := results79) (by kernel_rfl) (by kernel_rfl) (by kernel_rfl) (by kernel_rfl)]
    kernel_rfl
  rw [h, C79_0]
  have e1 : (fun u0 u2 u24 u25 u26 H n => labK (E79_1 cal k k) (Tr.set (Tr.set (Tr.set (Tr.set (Tr.set Tr.nil 26 (some u26)) 25 (some u25)) 24 (some u24)) 2 (some u2)) 0 (some u0)) H n []) = (S79_1 cal k k) := by funext u0 u2 u24 u25 u26 H n; exact q79_1 ..
  rw [e1]
noncomputable def code80 : Code := codeOf 80
noncomputable def results80 : List ResultVar := resOf 80
noncomputable def K80_p (cal : Cal) (k : Nat) : KC (Value × Hp × Nat) := (cutK (A 80).c (codeE P cal (codeF P cal k) none 80 (cR code80) (Lv.b (A 80)) (doneK P results80) X0 (doneK P results80)))
noncomputable def K80_pr (cal : Cal) (k : Nat) : KC (Value × Hp × Nat) := (cutK (Lv.b (A 80)).c (codeE P cal (codeF P cal k) none 80 (cR (cR code80)) (Lv.b (Lv.b (A 80))) (doneK P results80) X0 (doneK P results80)))
noncomputable def K80_prr (cal : Cal) (k : Nat) : KC (Value × Hp × Nat) := (cutK (Lv.b (Lv.b (A 80))).c (codeE P cal (codeF P cal k) none 80 (cR (cR (cR code80))) (Lv.b (Lv.b (Lv.b (A 80)))) (doneK P results80) X0 (doneK P results80)))
noncomputable def K80_prrl (cal : Cal) (k : Nat) : KC (Value × Hp × Nat) := (cutK (Lv.a (Lv.b (Lv.b (A 80)))).c (codeE P cal (codeF P cal k) none 80 (cR (cL (cR (cR code80)))) (Lv.b (Lv.a (Lv.b (Lv.b (A 80))))) (K80_prr cal k) X0 (doneK P results80)))
noncomputable def K80_pxrrlr (cal : Cal) (k : Nat) : XC (Value × Hp × Nat) := (upX 0 (K80_prr cal k) X0)
noncomputable def K80_prrlrl (cal : Cal) (k : Nat) (m1 : Nat) : KC (Value × Hp × Nat) := (fun T H n D => codeF P cal m1 (Lv.a (Lv.b (Lv.a (Lv.b (Lv.b (A 80)))))) none 80 (cL (cR (cL (cR (cR code80))))) (K80_prr cal k) (K80_pxrrlr cal k) (doneK P results80) (cutT (Lv.a (Lv.b (Lv.a (Lv.b (Lv.b (A 80)))))).c T) H n D)
noncomputable def K80_prrlrll (cal : Cal) (k : Nat) (m1 : Nat) : KC (Value × Hp × Nat) := (cutK (Lv.a (Lv.a (Lv.b (Lv.a (Lv.b (Lv.b (A 80))))))).c (codeE P cal (codeF P cal m1) none 80 (cR (cL (cL (cR (cL (cR (cR code80))))))) (Lv.b (Lv.a (Lv.a (Lv.b (Lv.a (Lv.b (Lv.b (A 80)))))))) (K80_prrlrl cal k m1) (K80_pxrrlr cal k) (doneK P results80)))
noncomputable def K80_prrlrllr (cal : Cal) (k : Nat) (m1 : Nat) : KC (Value × Hp × Nat) := (cutK (Lv.b (Lv.a (Lv.a (Lv.b (Lv.a (Lv.b (Lv.b (A 80)))))))).c (codeE P cal (codeF P cal m1) none 80 (cR (cR (cL (cL (cR (cL (cR (cR code80)))))))) (Lv.b (Lv.b (Lv.a (Lv.a (Lv.b (Lv.a (Lv.b (Lv.b (A 80))))))))) (K80_prrlrl cal k m1) (K80_pxrrlr cal k) (doneK P results80)))
noncomputable def K80_prrlrllrr (cal : Cal) (k : Nat) (m1 : Nat) : KC (Value × Hp × Nat) := (cutK (Lv.b (Lv.b (Lv.a (Lv.a (Lv.b (Lv.a (Lv.b (Lv.b (A 80))))))))).c (codeE P cal (codeF P cal m1) none 80 (cR (cR (cR (cL (cL (cR (cL (cR (cR code80))))))))) (Lv.b (Lv.b (Lv.b (Lv.a (Lv.a (Lv.b (Lv.a (Lv.b (Lv.b (A 80)))))))))) (K80_prrlrl cal k m1) (K80_pxrrlr cal k) (doneK P results80)))
noncomputable def K80_pxrrlrllrrl (cal : Cal) (k : Nat) (m1 : Nat) : XC (Value × Hp × Nat) := (upX 1 (K80_prrlrllrr cal k m1) (K80_pxrrlr cal k))
noncomputable def K80_prrlrllrrll (cal : Cal) (k : Nat) (m1 : Nat) : KC (Value × Hp × Nat) := (cutK (Lv.a (Lv.a (Lv.b (Lv.b (Lv.a (Lv.a (Lv.b (Lv.a (Lv.b (Lv.b (A 80))))))))))).c (codeE P cal (codeF P cal m1) none 80 (cR (cL (cL (cR (cR (cL (cL (cR (cL (cR (cR code80))))))))))) (Lv.b (Lv.a (Lv.a (Lv.b (Lv.b (Lv.a (Lv.a (Lv.b (Lv.a (Lv.b (Lv.b (A 80)))))))))))) (K80_prrlrllrr cal k m1) (K80_pxrrlrllrrl cal k m1) (doneK P results80)))
noncomputable def K80_prrlrllrrllr (cal : Cal) (k : Nat) (m1 : Nat) : KC (Value × Hp × Nat) := (cutK (Lv.b (Lv.a (Lv.a (Lv.b (Lv.b (Lv.a (Lv.a (Lv.b (Lv.a (Lv.b (Lv.b (A 80)))))))))))).c (codeE P cal (codeF P cal m1) none 80 (cR (cR (cL (cL (cR (cR (cL (cL (cR (cL (cR (cR code80)))))))))))) (Lv.b (Lv.b (Lv.a (Lv.a (Lv.b (Lv.b (Lv.a (Lv.a (Lv.b (Lv.a (Lv.b (Lv.b (A 80))))))))))))) (K80_prrlrllrr cal k m1) (K80_pxrrlrllrrl cal k m1) (doneK P results80)))
noncomputable def K80_pxrrlrllrrllrr (cal : Cal) (k : Nat) (m1 : Nat) : XC (Value × Hp × Nat) := (upX 2 (K80_prrlrllrr cal k m1) (K80_pxrrlrllrrl cal k m1))
noncomputable def K80_prrlrllrrllrrl (cal : Cal) (k : Nat) (m1 : Nat) (m2 : Nat) : KC (Value × Hp × Nat) := (fun T H n D => codeF P cal m2 (Lv.a (Lv.b (Lv.b (Lv.a (Lv.a (Lv.b (Lv.b (Lv.a (Lv.a (Lv.b (Lv.a (Lv.b (Lv.b (A 80)))))))))))))) none 80 (cL (cR (cR (cL (cL (cR (cR (cL (cL (cR (cL (cR (cR code80))))))))))))) (K80_prrlrllrr cal k m1) (K80_pxrrlrllrrllrr cal k m1) (doneK P results80) (cutT (Lv.a (Lv.b (Lv.b (Lv.a (Lv.a (Lv.b (Lv.b (Lv.a (Lv.a (Lv.b (Lv.a (Lv.b (Lv.b (A 80)))))))))))))).c T) H n D)
noncomputable def K80_prrlrllrrllrrll (cal : Cal) (k : Nat) (m1 : Nat) (m2 : Nat) : KC (Value × Hp × Nat) := (cutK (Lv.a (Lv.a (Lv.b (Lv.b (Lv.a (Lv.a (Lv.b (Lv.b (Lv.a (Lv.a (Lv.b (Lv.a (Lv.b (Lv.b (A 80))))))))))))))).c (codeE P cal (codeF P cal m2) none 80 (cR (cL (cL (cR (cR (cL (cL (cR (cR (cL (cL (cR (cL (cR (cR code80))))))))))))))) (Lv.b (Lv.a (Lv.a (Lv.b (Lv.b (Lv.a (Lv.a (Lv.b (Lv.b (Lv.a (Lv.a (Lv.b (Lv.a (Lv.b (Lv.b (A 80)))))))))))))))) (K80_prrlrllrrllrrl cal k m1 m2) (K80_pxrrlrllrrllrr cal k m1) (doneK P results80)))
noncomputable def K80_prrlrllrrllrrllr (cal : Cal) (k : Nat) (m1 : Nat) (m2 : Nat) : KC (Value × Hp × Nat) := (cutK (Lv.b (Lv.a (Lv.a (Lv.b (Lv.b (Lv.a (Lv.a (Lv.b (Lv.b (Lv.a (Lv.a (Lv.b (Lv.a (Lv.b (Lv.b (A 80)))))))))))))))).c (codeE P cal (codeF P cal m2) none 80 (cR (cR (cL (cL (cR (cR (cL (cL (cR (cR (cL (cL (cR (cL (cR (cR code80)))))))))))))))) (Lv.b (Lv.b (Lv.a (Lv.a (Lv.b (Lv.b (Lv.a (Lv.a (Lv.b (Lv.b (Lv.a (Lv.a (Lv.b (Lv.a (Lv.b (Lv.b (A 80))))))))))))))))) (K80_prrlrllrrllrrl cal k m1 m2) (K80_pxrrlrllrrllrr cal k m1) (doneK P results80)))
noncomputable def K80_prrlrllrrllrrllrr (cal : Cal) (k : Nat) (m1 : Nat) (m2 : Nat) : KC (Value × Hp × Nat) := (cutK (Lv.b (Lv.b (Lv.a (Lv.a (Lv.b (Lv.b (Lv.a (Lv.a (Lv.b (Lv.b (Lv.a (Lv.a (Lv.b (Lv.a (Lv.b (Lv.b (A 80))))))))))))))))).c (codeE P cal (codeF P cal m2) none 80 (cR (cR (cR (cL (cL (cR (cR (cL (cL (cR (cR (cL (cL (cR (cL (cR (cR code80))))))))))))))))) (Lv.b (Lv.b (Lv.b (Lv.a (Lv.a (Lv.b (Lv.b (Lv.a (Lv.a (Lv.b (Lv.b (Lv.a (Lv.a (Lv.b (Lv.a (Lv.b (Lv.b (A 80)))))))))))))))))) (K80_prrlrllrrllrrl cal k m1 m2) (K80_pxrrlrllrrllrr cal k m1) (doneK P results80)))
noncomputable def K80_pxrrlrllrrllrrllrrl (cal : Cal) (k : Nat) (m1 : Nat) (m2 : Nat) : XC (Value × Hp × Nat) := (upX 3 (K80_prrlrllrrllrrllrr cal k m1 m2) (K80_pxrrlrllrrllrr cal k m1))
noncomputable def K80_prrlrllrrllrrllrrll (cal : Cal) (k : Nat) (m1 : Nat) (m2 : Nat) : KC (Value × Hp × Nat) := (cutK (Lv.a (Lv.a (Lv.b (Lv.b (Lv.a (Lv.a (Lv.b (Lv.b (Lv.a (Lv.a (Lv.b (Lv.b (Lv.a (Lv.a (Lv.b (Lv.a (Lv.b (Lv.b (A 80))))))))))))))))))).c (codeE P cal (codeF P cal m2) none 80 (cR (cL (cL (cR (cR (cL (cL (cR (cR (cL (cL (cR (cR (cL (cL (cR (cL (cR (cR code80))))))))))))))))))) (Lv.b (Lv.a (Lv.a (Lv.b (Lv.b (Lv.a (Lv.a (Lv.b (Lv.b (Lv.a (Lv.a (Lv.b (Lv.b (Lv.a (Lv.a (Lv.b (Lv.a (Lv.b (Lv.b (A 80)))))))))))))))))))) (K80_prrlrllrrllrrllrr cal k m1 m2) (K80_pxrrlrllrrllrrllrrl cal k m1 m2) (doneK P results80)))
noncomputable def K80_prrr (cal : Cal) (k : Nat) : KC (Value × Hp × Nat) := (cutK (Lv.b (Lv.b (Lv.b (A 80)))).c (codeE P cal (codeF P cal k) none 80 (cR (cR (cR (cR code80)))) (Lv.b (Lv.b (Lv.b (Lv.b (A 80))))) (doneK P results80) X0 (doneK P results80)))
noncomputable def K80_prrrl (cal : Cal) (k : Nat) : KC (Value × Hp × Nat) := (cutK (Lv.a (Lv.b (Lv.b (Lv.b (A 80))))).c (codeE P cal (codeF P cal k) none 80 (cR (cL (cR (cR (cR code80))))) (Lv.b (Lv.a (Lv.b (Lv.b (Lv.b (A 80)))))) (K80_prrr cal k) X0 (doneK P results80)))
noncomputable def K80_pxrrrlr (cal : Cal) (k : Nat) : XC (Value × Hp × Nat) := (upX 4 (K80_prrr cal k) X0)
noncomputable def K80_prrrlrl (cal : Cal) (k : Nat) (m1 : Nat) : KC (Value × Hp × Nat) := (fun T H n D => codeF P cal m1 (Lv.a (Lv.b (Lv.a (Lv.b (Lv.b (Lv.b (A 80))))))) none 80 (cL (cR (cL (cR (cR (cR code80)))))) (K80_prrr cal k) (K80_pxrrrlr cal k) (doneK P results80) (cutT (Lv.a (Lv.b (Lv.a (Lv.b (Lv.b (Lv.b (A 80))))))).c T) H n D)
noncomputable def K80_prrrlrll (cal : Cal) (k : Nat) (m1 : Nat) : KC (Value × Hp × Nat) := (cutK (Lv.a (Lv.a (Lv.b (Lv.a (Lv.b (Lv.b (Lv.b (A 80)))))))).c (codeE P cal (codeF P cal m1) none 80 (cR (cL (cL (cR (cL (cR (cR (cR code80)))))))) (Lv.b (Lv.a (Lv.a (Lv.b (Lv.a (Lv.b (Lv.b (Lv.b (A 80))))))))) (K80_prrrlrl cal k m1) (K80_pxrrrlr cal k) (doneK P results80)))
noncomputable def K80_prrrlrllr (cal : Cal) (k : Nat) (m1 : Nat) : KC (Value × Hp × Nat) := (cutK (Lv.b (Lv.a (Lv.a (Lv.b (Lv.a (Lv.b (Lv.b (Lv.b (A 80))))))))).c (codeE P cal (codeF P cal m1) none 80 (cR (cR (cL (cL (cR (cL (cR (cR (cR code80))))))))) (Lv.b (Lv.b (Lv.a (Lv.a (Lv.b (Lv.a (Lv.b (Lv.b (Lv.b (A 80)))))))))) (K80_prrrlrl cal k m1) (K80_pxrrrlr cal k) (doneK P results80)))
noncomputable def K80_prrrlrllrr (cal : Cal) (k : Nat) (m1 : Nat) : KC (Value × Hp × Nat) := (cutK (Lv.b (Lv.b (Lv.a (Lv.a (Lv.b (Lv.a (Lv.b (Lv.b (Lv.b (A 80)))))))))).c (codeE P cal (codeF P cal m1) none 80 (cR (cR (cR (cL (cL (cR (cL (cR (cR (cR code80)))))))))) (Lv.b (Lv.b (Lv.b (Lv.a (Lv.a (Lv.b (Lv.a (Lv.b (Lv.b (Lv.b (A 80))))))))))) (K80_prrrlrl cal k m1) (K80_pxrrrlr cal k) (doneK P results80)))
noncomputable def K80_pxrrrlrllrrl (cal : Cal) (k : Nat) (m1 : Nat) : XC (Value × Hp × Nat) := (upX 5 (K80_prrrlrllrr cal k m1) (K80_pxrrrlr cal k))
noncomputable def K80_prrrlrllrrll (cal : Cal) (k : Nat) (m1 : Nat) : KC (Value × Hp × Nat) := (cutK (Lv.a (Lv.a (Lv.b (Lv.b (Lv.a (Lv.a (Lv.b (Lv.a (Lv.b (Lv.b (Lv.b (A 80)))))))))))).c (codeE P cal (codeF P cal m1) none 80 (cR (cL (cL (cR (cR (cL (cL (cR (cL (cR (cR (cR code80)))))))))))) (Lv.b (Lv.a (Lv.a (Lv.b (Lv.b (Lv.a (Lv.a (Lv.b (Lv.a (Lv.b (Lv.b (Lv.b (A 80))))))))))))) (K80_prrrlrllrr cal k m1) (K80_pxrrrlrllrrl cal k m1) (doneK P results80)))
noncomputable def K80_prrrlrllrrllr (cal : Cal) (k : Nat) (m1 : Nat) : KC (Value × Hp × Nat) := (cutK (Lv.b (Lv.a (Lv.a (Lv.b (Lv.b (Lv.a (Lv.a (Lv.b (Lv.a (Lv.b (Lv.b (Lv.b (A 80))))))))))))).c (codeE P cal (codeF P cal m1) none 80 (cR (cR (cL (cL (cR (cR (cL (cL (cR (cL (cR (cR (cR code80))))))))))))) (Lv.b (Lv.b (Lv.a (Lv.a (Lv.b (Lv.b (Lv.a (Lv.a (Lv.b (Lv.a (Lv.b (Lv.b (Lv.b (A 80)))))))))))))) (K80_prrrlrllrr cal k m1) (K80_pxrrrlrllrrl cal k m1) (doneK P results80)))
noncomputable def K80_prrrlrllrrllrrl (cal : Cal) (k : Nat) (m1 : Nat) : KC (Value × Hp × Nat) := (cutK (Lv.a (Lv.b (Lv.b (Lv.a (Lv.a (Lv.b (Lv.b (Lv.a (Lv.a (Lv.b (Lv.a (Lv.b (Lv.b (Lv.b (A 80))))))))))))))).c (codeE P cal (codeF P cal m1) none 80 (cR (cL (cR (cR (cL (cL (cR (cR (cL (cL (cR (cL (cR (cR (cR code80))))))))))))))) (Lv.b (Lv.a (Lv.b (Lv.b (Lv.a (Lv.a (Lv.b (Lv.b (Lv.a (Lv.a (Lv.b (Lv.a (Lv.b (Lv.b (Lv.b (A 80)))))))))))))))) (K80_prrrlrllrr cal k m1) (K80_pxrrrlrllrrl cal k m1) (doneK P results80)))
noncomputable def K80_prrrr (cal : Cal) (k : Nat) : KC (Value × Hp × Nat) := (cutK (Lv.b (Lv.b (Lv.b (Lv.b (A 80))))).c (codeE P cal (codeF P cal k) none 80 (cR (cR (cR (cR (cR code80))))) (Lv.b (Lv.b (Lv.b (Lv.b (Lv.b (A 80)))))) (doneK P results80) X0 (doneK P results80)))
noncomputable def E80_2 (cal : Cal) (k m1 m2 : Nat) : KC (Value × Hp × Nat) := codeE P cal (codeF P cal m2) none 80 (cL (cL (cR (cR (cL (cL (cR (cR (cL (cL (cR (cL (cR (cR code80)))))))))))))) (Lv.a (Lv.a (Lv.b (Lv.b (Lv.a (Lv.a (Lv.b (Lv.b (Lv.a (Lv.a (Lv.b (Lv.a (Lv.b (Lv.b (A 80))))))))))))))) (K80_prrlrllrrllrrl cal k m1 m2) (K80_pxrrlrllrrllrr cal k m1) (doneK P results80)
noncomputable def R80_2 (cal : Cal) (k m1 m2 : Nat) : Value → Value → Value → Value → Value → Value → Value → Value → Hp → Nat → Res := fun u0 u5 u12 u13 u14 u18 u19 u20 H n => codeF P cal m2 (Lv.a (Lv.b (Lv.b (Lv.a (Lv.a (Lv.b (Lv.b (Lv.a (Lv.a (Lv.b (Lv.a (Lv.b (Lv.b (A 80)))))))))))))) none 80 (cL (cR (cR (cL (cL (cR (cR (cL (cL (cR (cL (cR (cR code80))))))))))))) (K80_prrlrllrr cal k m1) (K80_pxrrlrllrrllrr cal k m1) (doneK P results80) (Tr.set (Tr.set (Tr.set (Tr.set (Tr.set (Tr.set (Tr.set (Tr.set Tr.nil 20 (some u20)) 19 (some u19)) 18 (some u18)) 14 (some u14)) 13 (some u13)) 12 (some u12)) 5 (some u5)) 0 (some u0)) H n []
noncomputable def E80_3 (cal : Cal) (k m1 : Nat) : KC (Value × Hp × Nat) := codeE P cal (codeF P cal m1) none 80 (cL (cL (cR (cL (cR (cR (cR code80))))))) (Lv.a (Lv.a (Lv.b (Lv.a (Lv.b (Lv.b (Lv.b (A 80)))))))) (K80_prrrlrl cal k m1) (K80_pxrrrlr cal k) (doneK P results80)
noncomputable def R80_3 (cal : Cal) (k m1 : Nat) : Value → Value → Value → Value → Hp → Nat → Res := fun u5 u37 u38 u39 H n => codeF P cal m1 (Lv.a (Lv.b (Lv.a (Lv.b (Lv.b (Lv.b (A 80))))))) none 80 (cL (cR (cL (cR (cR (cR code80)))))) (K80_prrr cal k) (K80_pxrrrlr cal k) (doneK P results80) (Tr.set (Tr.set (Tr.set (Tr.set Tr.nil 39 (some u39)) 38 (some u38)) 37 (some u37)) 5 (some u5)) H n []
noncomputable def E80_1 (cal : Cal) (k m1 : Nat) : KC (Value × Hp × Nat) := codeE P cal (codeF P cal m1) none 80 (cL (cL (cR (cL (cR (cR code80)))))) (Lv.a (Lv.a (Lv.b (Lv.a (Lv.b (Lv.b (A 80))))))) (K80_prrlrl cal k m1) (K80_pxrrlr cal k) (doneK P results80)
noncomputable def R80_1 (cal : Cal) (k m1 : Nat) : Value → Value → Value → Value → Value → Hp → Nat → Res := fun u0 u5 u12 u13 u14 H n => codeF P cal m1 (Lv.a (Lv.b (Lv.a (Lv.b (Lv.b (A 80)))))) none 80 (cL (cR (cL (cR (cR code80))))) (K80_prr cal k) (K80_pxrrlr cal k) (doneK P results80) (Tr.set (Tr.set (Tr.set (Tr.set (Tr.set Tr.nil 14 (some u14)) 13 (some u13)) 12 (some u12)) 5 (some u5)) 0 (some u0)) H n []
noncomputable def B80_2 (cal : Cal) (k m1 m2 : Nat) (b1 : Value → Value → Value → Value → Value → Hp → Nat → Res) (b2 : Value → Value → Value → Value → Value → Value → Value → Value → Hp → Nat → Res) (u0 u5 u12 u13 u14 u18 u19 u20 : Value) (H : Hp) (n : Nat) : Res :=
binK P Go.BinOp.lss 3 (Go.Operand.tmp 20) (Go.Operand.tmp 19) u20 u19 fun v21_16 =>
ifK v21_16 (
bindO (indexAddrV P 44 u18 u20) fun v23_18 =>
bindO (addrV v23_18) fun a_20 => bindO (loadV P H 3 a_20) fun v24_19 =>
bindO (indexAddrV P 120 u5 u20) fun v26_24 =>
bindO (addrV v26_24) fun a_26 => bindO (loadV P H 3 a_26) fun v27_25 =>
binK P Go.BinOp.add 3 (Go.Operand.tmp 27) (Go.Operand.tmp 28) v27_25 v24_19 fun v29_28 =>
bindO (indexAddrV P 120 u5 u20) fun v30_29 =>
bindO (storeP P 3 v30_29 v29_28 H) fun H_31 =>
binK P Go.BinOp.add 3 (Go.Operand.tmp 20) (Go.Operand.const (Go.Value.int Go.IntKind.i64 1)) u20 (Go.Value.int Go.IntKind.i64 1) fun v31_32 =>
b2 u0 u5 u12 u13 u14 u18 u19 v31_32 H_31 n) (
binK P Go.BinOp.add 3 (Go.Operand.tmp 14) (Go.Operand.const (Go.Value.int Go.IntKind.i64 1)) u14 (Go.Value.int Go.IntKind.i64 1) fun v32_34 =>
b1 u0 u5 u12 u13 v32_34 H n)
noncomputable def C80_2 (cal : Cal) (k m1 m2 : Nat) (b1 : Value → Value → Value → Value → Value → Hp → Nat → Res) (b2 : Value → Value → Value → Value → Value → Value → Value → Value → Hp → Nat → Res) (u0 u5 u12 u13 u14 u18 u19 u20 : Value) (H : Hp) (n : Nat) : Res := B80_2 cal k m1 m2 b1 b2 u0 u5 u12 u13 u14 u18 u19 u20 H n
noncomputable def S80_2 (cal : Cal) (k m1 : Nat) (b1 : Value → Value → Value → Value → Value → Hp → Nat → Res) : Nat → Value → Value → Value → Value → Value → Value → Value → Value → Hp → Nat → Res := fun m => Nat.rec (motive := fun _ => Value → Value → Value → Value → Value → Value → Value → Value → Hp → Nat → Res) (C80_2 cal k m1 0 b1 (fun _ _ _ _ _ _ _ _ _ _ => none)) (fun m ih => C80_2 cal k m1 (m + 1) b1 ih) m
theorem h80_2 (cal : Cal) (k m1 m2 : Nat) (u0 u5 u12 u13 u14 u18 u19 u20 : Value) (H : Hp) (n : Nat) : labK (E80_2 cal k m1 m2) (Tr.set (Tr.set (Tr.set (Tr.set (Tr.set (Tr.set (Tr.set (Tr.set Tr.nil 20 (some u20)) 19 (some u19)) 18 (some u18)) 14 (some u14)) 13 (some u13)) 12 (some u12)) 5 (some u5)) 0 (some u0)) H n [] = C80_2 cal k m1 m2 (R80_1 cal k m1) (R80_2 cal k m1 m2) u0 u5 u12 u13 u14 u18 u19 u20 H n := by
  have h : labK (E80_2 cal k m1 m2) (Tr.set (Tr.set (Tr.set (Tr.set (Tr.set (Tr.set (Tr.set (Tr.set Tr.nil 20 (some u20)) 19 (some u19)) 18 (some u18)) 14 (some u14)) 13 (some u13)) 12 (some u12)) 5 (some u5)) 0 (some u0)) H n [] = B80_2 cal k m1 m2 (R80_1 cal k m1) (R80_2 cal k m1 m2) u0 u5 u12 u13 u14 u18 u19 u20 H n := by kernel_rfl
  rw [h, C80_2]
theorem q80_2 (cal : Cal) (k m1 : Nat) : ∀ (m : Nat) (u0 u5 u12 u13 u14 u18 u19 u20 : Value) (H : Hp) (n : Nat), labK (E80_2 cal k m1 m) (Tr.set (Tr.set (Tr.set (Tr.set (Tr.set (Tr.set (Tr.set (Tr.set Tr.nil 20 (some u20)) 19 (some u19)) 18 (some u18)) 14 (some u14)) 13 (some u13)) 12 (some u12)) 5 (some u5)) 0 (some u0)) H n [] = S80_2 cal k m1 (R80_1 cal k m1) m u0 u5 u12 u13 u14 u18 u19 u20 H n
  | 0, u0, u5, u12, u13, u14, u18, u19, u20, H, n => by
    rw [h80_2]
    have e : R80_2 cal k m1 0 = fun _ _ _ _ _ _ _ _ _ _ => none := by funext u0 u5 u12 u13 u14 u18 u19 u20 H n; kernel_rfl
    rw [e]; rfl
  | m + 1, u0, u5, u12, u13, u14, u18, u19, u20, H, n => by
    rw [h80_2]
    have e : R80_2 cal k m1 (m + 1) = S80_2 cal k m1 (R80_1 cal k m1) m := by
      funext u0 u5 u12 u13 u14 u18 u19 u20 H n
      have e : R80_2 cal k m1 (m + 1) u0 u5 u12 u13 u14 u18 u19 u20 H n = labK (E80_2 cal k m1 m) (Tr.set (Tr.set (Tr.set (Tr.set (Tr.set (Tr.set (Tr.set (Tr.set Tr.nil 20 (some u20)) 19 (some u19)) 18 (some u18)) 14 (some u14)) 13 (some u13)) 12 (some u12)) 5 (some u5)) 0 (some u0)) H n [] := by kernel_rfl
      rw [e]; exact q80_2 ..
    rw [e]; rfl
noncomputable def B80_3 (cal : Cal) (k m1 : Nat) (b3 : Value → Value → Value → Value → Hp → Nat → Res) (u5 u37 u38 u39 : Value) (H : Hp) (n : Nat) : Res :=
binK P Go.BinOp.lss 3 (Go.Operand.tmp 39) (Go.Operand.tmp 38) u39 u38 fun v40_44 =>
ifK v40_44 (
bindO (indexAddrV P 31 u37 u39) fun v42_46 =>
bindO (addrV v42_46) fun a_48 => bindO (loadV P H 90 a_48) fun v43_47 =>
allocK P 90 H n fun v11_49 H_50 n_51 =>
bindO (storeP P 90 v11_49 v43_47 H_50) fun H_54 =>
bindO (indexAddrV P 120 u5 u39) fun v45_56 =>
bindO (addrV v45_56) fun a_57 => bindO (loadV P H_54 3 a_57) fun v_58 =>
bindO (fieldAddrV P 90 v11_49 0) fun v47_59 =>
bindO (addrV v47_59) fun a_60 => bindO (loadV P H_54 3 a_60) fun v_61 =>
binK P Go.BinOp.lss 3 (Go.Operand.tmp 46) (Go.Operand.tmp 48) v_58 v_61 fun v49_62 =>
guardD v49_62 false (fun k_64 =>
k_64 u39 .p H_54 n_51) .p H_54 n_51 fun v_65 x_66 H_67 n_68 =>
guardD v49_62 false (fun k_70 =>
bindO (indexAddrV P 120 u5 v_65) fun v52_75 =>
k_70 v52_75 .p H_67 n_68) .p H_67 n_68 fun v_71 x_72 H_73 n_74 =>
guardD v49_62 false (fun k_76 =>
bindO (addrV v_71) fun a_81 => bindO (loadV P H_73 3 a_81) fun v_82 =>
k_76 v_82 (.l 3 a_81) H_73 n_74) .p H_73 n_74 fun v_77 x_78 H_79 n_80 =>
guardD v49_62 false (fun k_83 =>
bindO (fieldAddrV P 90 v11_49 1) fun v54_88 =>
k_83 v54_88 .p H_79 n_80) .p H_79 n_80 fun v_84 x_85 H_86 n_87 =>
guardD v49_62 false (fun k_89 =>
bindO (addrV v_84) fun a_94 => bindO (loadV P H_86 3 a_94) fun v_95 =>
k_89 v_95 (.l 3 a_94) H_86 n_87) .p H_86 n_87 fun v_90 x_91 H_92 n_93 =>
guardD v49_62 false (fun k_96 =>
binK P Go.BinOp.gtr 3 (Go.Operand.tmp 53) (Go.Operand.tmp 55) v_77 v_90 fun v56_101 =>
k_96 v56_101 .p H_92 n_93) .p H_92 n_93 fun v_97 x_98 H_99 n_100 =>
bindO (pickV v49_62 (Go.Value.bool true) v_97) fun v57_102 =>
ifK v57_102 (
some ((Go.Value.bool false), H_99, n_100)) (
binK P Go.BinOp.add 3 (Go.Operand.tmp 39) (Go.Operand.const (Go.Value.int Go.IntKind.i64 1)) u39 (Go.Value.int Go.IntKind.i64 1) fun v58_104 =>
b3 u5 u37 u38 v58_104 H_99 n_100)) (
some ((Go.Value.bool true), H, n))
noncomputable def C80_3 (cal : Cal) (k m1 : Nat) (b3 : Value → Value → Value → Value → Hp → Nat → Res) (u5 u37 u38 u39 : Value) (H : Hp) (n : Nat) : Res := B80_3 cal k m1 b3 u5 u37 u38 u39 H n
noncomputable def S80_3 (cal : Cal) (k : Nat) : Nat → Value → Value → Value → Value → Hp → Nat → Res := fun m => Nat.rec (motive := fun _ => Value → Value → Value → Value → Hp → Nat → Res) (C80_3 cal k 0 (fun _ _ _ _ _ _ => none)) (fun m ih => C80_3 cal k (m + 1) ih) m
theorem h80_3 (cal : Cal) (k m1 : Nat) (u5 u37 u38 u39 : Value) (H : Hp) (n : Nat) : labK (E80_3 cal k m1) (Tr.set (Tr.set (Tr.set (Tr.set Tr.nil 39 (some u39)) 38 (some u38)) 37 (some u37)) 5 (some u5)) H n [] = C80_3 cal k m1 (R80_3 cal k m1) u5 u37 u38 u39 H n := by
  have h : labK (E80_3 cal k m1) (Tr.set (Tr.set (Tr.set (Tr.set Tr.nil 39 (some u39)) 38 (some u38)) 37 (some u37)) 5 (some u5)) H n [] = B80_3 cal k m1 (R80_3 cal k m1) u5 u37 u38 u39 H n := by kernel_rfl
  rw [h, C80_3]
theorem q80_3 (cal : Cal) (k : Nat) : ∀ (m : Nat) (u5 u37 u38 u39 : Value) (H : Hp) (n : Nat), labK (E80_3 cal k m) (Tr.set (Tr.set (Tr.set (Tr.set Tr.nil 39 (some u39)) 38 (some u38)) 37 (some u37)) 5 (some u5)) H n [] = S80_3 cal k m u5 u37 u38 u39 H n
  | 0, u5, u37, u38, u39, H, n => by
    rw [h80_3]
    have e : R80_3 cal k 0 = fun _ _ _ _ _ _ => none := by funext u5 u37 u38 u39 H n; kernel_rfl
    rw [e]; rfl
  | m + 1, u5, u37, u38, u39, H, n => by
    rw [h80_3]
    have e : R80_3 cal k (m + 1) = S80_3 cal k m := by
      funext u5 u37 u38 u39 H n
      have e : R80_3 cal k (m + 1) u5 u37 u38 u39 H n = labK (E80_3 cal k m) (Tr.set (Tr.set (Tr.set (Tr.set Tr.nil 39 (some u39)) 38 (some u38)) 37 (some u37)) 5 (some u5)) H n [] := by kernel_rfl
      rw [e]; exact q80_3 ..
    rw [e]; rfl
noncomputable def B80_1 (cal : Cal) (k m1 : Nat) (j2 : Value → Value → Value → Value → Value → Value → Value → Value → Hp → Nat → Res) (j3 : Value → Value → Value → Value → Hp → Nat → Res) (b1 : Value → Value → Value → Value → Value → Hp → Nat → Res) (u0 u5 u12 u13 u14 : Value) (H : Hp) (n : Nat) : Res :=
binK P Go.BinOp.lss 3 (Go.Operand.tmp 14) (Go.Operand.tmp 13) u14 u13 fun v15_8 =>
ifK v15_8 (
bindO (indexAddrV P 59 u12 u14) fun v16_9 =>
bindO (addrV v16_9) fun a_11 => bindO (loadV P H 44 a_11) fun v17_10 =>
bindO (lenV P 44 v17_10) fun v19_14 =>
j2 u0 u5 u12 u13 u14 v17_10 v19_14 (Go.Value.int Go.IntKind.i64 0) H n) (
bindO (nilV u0) fun v34_37 =>
bindO (fieldAddrV P 117 v34_37 0) fun v35_38 =>
bindO (fieldAddrV P 35 v35_38 0) fun v36_39 =>
bindO (addrV v36_39) fun a_41 => bindO (loadV P H 31 a_41) fun v37_40 =>
bindO (lenV P 31 v37_40) fun v38_42 =>
j3 u5 v37_40 v38_42 (Go.Value.int Go.IntKind.i64 0) H n)
noncomputable def C80_1 (cal : Cal) (k m1 : Nat) (b1 : Value → Value → Value → Value → Value → Hp → Nat → Res) (u0 u5 u12 u13 u14 : Value) (H : Hp) (n : Nat) : Res := B80_1 cal k m1 (S80_2 cal k m1 b1 m1) (S80_3 cal k k) b1 u0 u5 u12 u13 u14 H n
noncomputable def S80_1 (cal : Cal) (k : Nat) : Nat → Value → Value → Value → Value → Value → Hp → Nat → Res := fun m => Nat.rec (motive := fun _ => Value → Value → Value → Value → Value → Hp → Nat → Res) (C80_1 cal k 0 (fun _ _ _ _ _ _ _ => none)) (fun m ih => C80_1 cal k (m + 1) ih) m
theorem h80_1 (cal : Cal) (k m1 : Nat) (u0 u5 u12 u13 u14 : Value) (H : Hp) (n : Nat) : labK (E80_1 cal k m1) (Tr.set (Tr.set (Tr.set (Tr.set (Tr.set Tr.nil 14 (some u14)) 13 (some u13)) 12 (some u12)) 5 (some u5)) 0 (some u0)) H n [] = C80_1 cal k m1 (R80_1 cal k m1) u0 u5 u12 u13 u14 H n := by
  have h : labK (E80_1 cal k m1) (Tr.set (Tr.set (Tr.set (Tr.set (Tr.set Tr.nil 14 (some u14)) 13 (some u13)) 12 (some u12)) 5 (some u5)) 0 (some u0)) H n [] = B80_1 cal k m1 (fun u0 u5 u12 u13 u14 u18 u19 u20 H n => labK (E80_2 cal k m1 m1) (Tr.set (Tr.set (Tr.set (Tr.set (Tr.set (Tr.set (Tr.set (Tr.set Tr.nil 20 (some u20)) 19 (some u19)) 18 (some u18)) 14 (some u14)) 13 (some u13)) 12 (some u12)) 5 (some u5)) 0 (some u0)) H n []) (fun u5 u37 u38 u39 H n => labK (E80_3 cal k k) (Tr.set (Tr.set (Tr.set (Tr.set Tr.nil 39 (some u39)) 38 (some u38)) 37 (some u37)) 5 (some u5)) H n []) (R80_1 cal k m1) u0 u5 u12 u13 u14 H n := by kernel_rfl
  rw [h, C80_1]
  have e2 : (fun u0 u5 u12 u13 u14 u18 u19 u20 H n => labK (E80_2 cal k m1 m1) (Tr.set (Tr.set (Tr.set (Tr.set (Tr.set (Tr.set (Tr.set (Tr.set Tr.nil 20 (some u20)) 19 (some u19)) 18 (some u18)) 14 (some u14)) 13 (some u13)) 12 (some u12)) 5 (some u5)) 0 (some u0)) H n []) = (S80_2 cal k m1 (R80_1 cal k m1) m1) := by funext u0 u5 u12 u13 u14 u18 u19 u20 H n; exact q80_2 ..
  rw [e2]
  have e3 : (fun u5 u37 u38 u39 H n => labK (E80_3 cal k k) (Tr.set (Tr.set (Tr.set (Tr.set Tr.nil 39 (some u39)) 38 (some u38)) 37 (some u37)) 5 (some u5)) H n []) = (S80_3 cal k k) := by funext u5 u37 u38 u39 H n; exact q80_3 ..
  rw [e3]
theorem q80_1 (cal : Cal) (k : Nat) : ∀ (m : Nat) (u0 u5 u12 u13 u14 : Value) (H : Hp) (n : Nat), labK (E80_1 cal k m) (Tr.set (Tr.set (Tr.set (Tr.set (Tr.set Tr.nil 14 (some u14)) 13 (some u13)) 12 (some u12)) 5 (some u5)) 0 (some u0)) H n [] = S80_1 cal k m u0 u5 u12 u13 u14 H n
  | 0, u0, u5, u12, u13, u14, H, n => by
    rw [h80_1]
    have e : R80_1 cal k 0 = fun _ _ _ _ _ _ _ => none := by funext u0 u5 u12 u13 u14 H n; kernel_rfl
    rw [e]; rfl
  | m + 1, u0, u5, u12, u13, u14, H, n => by
    rw [h80_1]
    have e : R80_1 cal k (m + 1) = S80_1 cal k m := by
      funext u0 u5 u12 u13 u14 H n
      have e : R80_1 cal k (m + 1) u0 u5 u12 u13 u14 H n = labK (E80_1 cal k m) (Tr.set (Tr.set (Tr.set (Tr.set (Tr.set Tr.nil 14 (some u14)) 13 (some u13)) 12 (some u12)) 5 (some u5)) 0 (some u0)) H n [] := by kernel_rfl
      rw [e]; exact q80_1 ..
    rw [e]; rfl
noncomputable def B80_0 (cal : Cal) (k : Nat) (j1 : Value → Value → Value → Value → Value → Hp → Nat → Res) (v0 v1 : Value) (H : Hp) (n : Nat) : Res :=
allocK P 120 H n fun v5_2 H_3 n_4 =>
bindO (lenV P 59 v1) fun v13_6 =>
j1 v0 v5_2 v1 v13_6 (Go.Value.int Go.IntKind.i64 0) H_3 n_4
noncomputable def C80_0 (cal : Cal) (k : Nat) (v0 v1 : Value) (H : Hp) (n : Nat) : Res := B80_0 cal k (S80_1 cal k k) v0 v1 H n
theorem h80_0 (cal : Cal) (k : Nat) (v0 v1 : Value) (H : Hp) (n : Nat) : bodyE P cal A (k + 1) 80 [v0, v1] H n = C80_0 cal k v0 v1 H n := by
  have h : bodyE P cal A (k + 1) 80 [v0, v1] H n = B80_0 cal k (fun u0 u5 u12 u13 u14 H n => labK (E80_1 cal k k) (Tr.set (Tr.set (Tr.set (Tr.set (Tr.set Tr.nil 14 (some u14)) 13 (some u13)) 12 (some u12)) 5 (some u5)) 0 (some u0)) H n []) v0 v1 H n := by
    rw [body_eq (fn := Go.Proofs.Try.f80) (c := code80) (rs := results80) (by kernel_rfl) (by kernel_rfl) (by kernel_rfl) (by kernel_rfl)]
    kernel_rfl
  rw [h, C80_0]
  have e1 : (fun u0 u5 u12 u13 u14 H n => labK (E80_1 cal k k) (Tr.set (Tr.set (Tr.set (Tr.set (Tr.set Tr.nil 14 (some u14)) 13 (some u13)) 12 (some u12)) 5 (some u5)) 0 (some u0)) H n []) = (S80_1 cal k k) := by funext u0 u5 u12 u13 u14 H n; exact q80_1 ..
  rw [e1]
noncomputable def code83 : Code := codeOf 83
noncomputable def results83 : List ResultVar := resOf 83
noncomputable def K83_p (cal : Cal) (k : Nat) : KC (Value × Hp × Nat) := (cutK (A 83).c (codeE P cal (codeF P cal k) none 83 (cR code83) (Lv.b (A 83)) (doneK P results83) X0 (doneK P results83)))
noncomputable def K83_pr (cal : Cal) (k : Nat) : KC (Value × Hp × Nat) := (cutK (Lv.b (A 83)).c (codeE P cal (codeF P cal k) none 83 (cR (cR code83)) (Lv.b (Lv.b (A 83))) (doneK P results83) X0 (doneK P results83)))
noncomputable def K83_prl (cal : Cal) (k : Nat) : KC (Value × Hp × Nat) := (cutK (Lv.a (Lv.b (A 83))).c (codeE P cal (codeF P cal k) none 83 (cR (cL (cR code83))) (Lv.b (Lv.a (Lv.b (A 83)))) (K83_pr cal k) X0 (doneK P results83)))
noncomputable def K83_pxrlr (cal : Cal) (k : Nat) : XC (Value × Hp × Nat) := (upX 0 (K83_pr cal k) X0)
noncomputable def K83_prlrl (cal : Cal) (k : Nat) (m1 : Nat) : KC (Value × Hp × Nat) := (fun T H n D => codeF P cal m1 (Lv.a (Lv.b (Lv.a (Lv.b (A 83))))) none 83 (cL (cR (cL (cR code83)))) (K83_pr cal k) (K83_pxrlr cal k) (doneK P results83) (cutT (Lv.a (Lv.b (Lv.a (Lv.b (A 83))))).c T) H n D)
noncomputable def K83_prlrll (cal : Cal) (k : Nat) (m1 : Nat) : KC (Value × Hp × Nat) := (cutK (Lv.a (Lv.a (Lv.b (Lv.a (Lv.b (A 83)))))).c (codeE P cal (codeF P cal m1) none 83 (cR (cL (cL (cR (cL (cR code83)))))) (Lv.b (Lv.a (Lv.a (Lv.b (Lv.a (Lv.b (A 83))))))) (K83_prlrl cal k m1) (K83_pxrlr cal k) (doneK P results83)))
noncomputable def K83_prlrllr (cal : Cal) (k : Nat) (m1 : Nat) : KC (Value × Hp × Nat) := (cutK (Lv.b (Lv.a (Lv.a (Lv.b (Lv.a (Lv.b (A 83))))))).c (codeE P cal (codeF P cal m1) none 83 (cR (cR (cL (cL (cR (cL (cR code83))))))) (Lv.b (Lv.b (Lv.a (Lv.a (Lv.b (Lv.a (Lv.b (A 83)))))))) (K83_prlrl cal k m1) (K83_pxrlr cal k) (doneK P results83)))
noncomputable def K83_prlrllrr (cal : Cal) (k : Nat) (m1 : Nat) : KC (Value × Hp × Nat) := (cutK (Lv.b (Lv.b (Lv.a (Lv.a (Lv.b (Lv.a (Lv.b (A 83)))))))).c (codeE P cal (codeF P cal m1) none 83 (cR (cR (cR (cL (cL (cR (cL (cR code83)))))))) (Lv.b (Lv.b (Lv.b (Lv.a (Lv.a (Lv.b (Lv.a (Lv.b (A 83))))))))) (K83_prlrl cal k m1) (K83_pxrlr cal k) (doneK P results83)))
noncomputable def K83_pxrlrllrrl (cal : Cal) (k : Nat) (m1 : Nat) : XC (Value × Hp × Nat) := (upX 1 (K83_prlrllrr cal k m1) (K83_pxrlr cal k))
noncomputable def K83_prlrllrrll (cal : Cal) (k : Nat) (m1 : Nat) : KC (Value × Hp × Nat) := (cutK (Lv.a (Lv.a (Lv.b (Lv.b (Lv.a (Lv.a (Lv.b (Lv.a (Lv.b (A 83)))))))))).c (codeE P cal (codeF P cal m1) none 83 (cR (cL (cL (cR (cR (cL (cL (cR (cL (cR code83)))))))))) (Lv.b (Lv.a (Lv.a (Lv.b (Lv.b (Lv.a (Lv.a (Lv.b (Lv.a (Lv.b (A 83))))))))))) (K83_prlrllrr cal k m1) (K83_pxrlrllrrl cal k m1) (doneK P results83)))
noncomputable def K83_prlrllrrllr (cal : Cal) (k : Nat) (m1 : Nat) : KC (Value × Hp × Nat) := (cutK (Lv.b (Lv.a (Lv.a (Lv.b (Lv.b (Lv.a (Lv.a (Lv.b (Lv.a (Lv.b (A 83))))))))))).c (codeE P cal (codeF P cal m1) none 83 (cR (cR (cL (cL (cR (cR (cL (cL (cR (cL (cR code83))))))))))) (Lv.b (Lv.b (Lv.a (Lv.a (Lv.b (Lv.b (Lv.a (Lv.a (Lv.b (Lv.a (Lv.b (A 83)))))))))))) (K83_prlrllrr cal k m1) (K83_pxrlrllrrl cal k m1) (doneK P results83)))
noncomputable def K83_prlrllrrllrrl (cal : Cal) (k : Nat) (m1 : Nat) : KC (Value × Hp × Nat) := (cutK (Lv.a (Lv.b (Lv.b (Lv.a (Lv.a (Lv.b (Lv.b (Lv.a (Lv.a (Lv.b (Lv.a (Lv.b (A 83))))))))))))).c (codeE P cal (codeF P cal m1) none 83 (cR (cL (cR (cR (cL (cL (cR (cR (cL (cL (cR (cL (cR code83))))))))))))) (Lv.b (Lv.a (Lv.b (Lv.b (Lv.a (Lv.a (Lv.b (Lv.b (Lv.a (Lv.a (Lv.b (Lv.a (Lv.b (A 83)))))))))))))) (K83_prlrllrr cal k m1) (K83_pxrlrllrrl cal k m1) (doneK P results83)))
noncomputable def K83_prr (cal : Cal) (k : Nat) : KC (Value × Hp × Nat) := (cutK (Lv.b (Lv.b (A 83))).c (codeE P cal (codeF P cal k) none 83 (cR (cR (cR code83))) (Lv.b (Lv.b (Lv.b (A 83)))) (doneK P results83) X0 (doneK P results83)))
noncomputable def E83_1 (cal : Cal) (k m1 : Nat) : KC (Value × Hp × Nat) := codeE P cal (codeF P cal m1) none 83 (cL (cL (cR (cL (cR code83))))) (Lv.a (Lv.a (Lv.b (Lv.a (Lv.b (A 83)))))) (K83_prlrl cal k m1) (K83_pxrlr cal k) (doneK P results83)
noncomputable def R83_1 (cal : Cal) (k m1 : Nat) : Value → Value → Value → Value → Hp → Nat → Res := fun u0 u3 u11 u12 H n => codeF P cal m1 (Lv.a (Lv.b (Lv.a (Lv.b (A 83))))) none 83 (cL (cR (cL (cR code83)))) (K83_pr cal k) (K83_pxrlr cal k) (doneK P results83) (Tr.set (Tr.set (Tr.set (Tr.set Tr.nil 12 (some u12)) 11 (some u11)) 3 (some u3)) 0 (some u0)) H n []
noncomputable def B83_1 (cal : Cal) (k m1 : Nat) (b1 : Value → Value → Value → Value → Hp → Nat → Res) (u0 u3 u11 u12 : Value) (H : Hp) (n : Nat) : Res :=
binK P Go.BinOp.lss 3 (Go.Operand.tmp 12) (Go.Operand.tmp 11) u12 u11 fun v13_13 =>
ifK v13_13 (
bindO (addrV u3) fun a_18 => bindO (loadV P H 111 a_18) fun v16_17 =>
callFK P cal 68 [u0, v16_17, u12] H n fun v18_20 H_21 n_22 =>
ifK v18_20 (
some ((Go.Value.bool false), H_21, n_22)) (
binK P Go.BinOp.add 3 (Go.Operand.tmp 12) (Go.Operand.const (Go.Value.int Go.IntKind.i64 1)) u12 (Go.Value.int Go.IntKind.i64 1) fun v19_24 =>
b1 u0 u3 u11 v19_24 H_21 n_22)) (
bindO (addrV u3) fun a_28 => bindO (loadV P H 111 a_28) fun v21_27 =>
callFK P cal 111 [u0, v21_27] H n fun v22_29 H_30 n_31 =>
some (v22_29, H_30, n_31))
noncomputable def C83_1 (cal : Cal) (k m1 : Nat) (b1 : Value → Value → Value → Value → Hp → Nat → Res) (u0 u3 u11 u12 : Value) (H : Hp) (n : Nat) : Res := B83_1 cal k m1 b1 u0 u3 u11 u12 H n
noncomputable def S83_1 (cal : Cal) (k : Nat) : Nat → Value → Value → Value → Value → Hp → Nat → Res := fun m => Nat.rec (motive := fun _ => Value → Value → Value → Value → Hp → Nat → Res) (C83_1 cal k 0 (fun _ _ _ _ _ _ => none)) (fun m ih => C83_1 cal k (m + 1) ih) m
theorem h83_1 (cal : Cal) (k m1 : Nat) (u0 u3 u11 u12 : Value) (H : Hp) (n : Nat) : labK (E83_1 cal k m1) (Tr.set (Tr.set (Tr.set (Tr.set Tr.nil 12 (some u12)) 11 (some u11)) 3 (some u3)) 0 (some u0)) H n [] = C83_1 cal k m1 (R83_1 cal k m1) u0 u3 u11 u12 H n := by
  have h : labK (E83_1 cal k m1) (Tr.set (Tr.set (Tr.set (Tr.set Tr.nil 12 (some u12)) 11 (some u11)) 3 (some u3)) 0 (some u0)) H n [] = B83_1 cal k m1 (R83_1 cal k m1) u0 u3 u11 u12 H n := by kernel_rfl
  rw [h, C83_1]
theorem q83_1 (cal : Cal) (k : Nat) : ∀ (m : Nat) (u0 u3 u11 u12 : Value) (H : Hp) (n : Nat), labK (E83_1 cal k m) (Tr.set (Tr.set (Tr.set (Tr.set Tr.nil 12 (some u12)) 11 (some u11)) 3 (some u3)) 0 (some u0)) H n [] = S83_1 cal k m u0 u3 u11 u12 H n
  | 0, u0, u3, u11, u12, H, n => by
    rw [h83_1]
    have e : R83_1 cal k 0 = fun _ _ _ _ _ _ => none := by funext u0 u3 u11 u12 H n; kernel_rfl
    rw [e]; rfl
  | m + 1, u0, u3, u11, u12, H, n => by
    rw [h83_1]
    have e : R83_1 cal k (m + 1) = S83_1 cal k m := by
      funext u0 u3 u11 u12 H n
      have e : R83_1 cal k (m + 1) u0 u3 u11 u12 H n = labK (E83_1 cal k m) (Tr.set (Tr.set (Tr.set (Tr.set Tr.nil 12 (some u12)) 11 (some u11)) 3 (some u3)) 0 (some u0)) H n [] := by kernel_rfl
      rw [e]; exact q83_1 ..
    rw [e]; rfl
noncomputable def B83_0 (cal : Cal) (k : Nat) (j1 : Value → Value → Value → Value → Hp → Nat → Res) (v0 v1 : Value) (H : Hp) (n : Nat) : Res :=
boxK 111 v1 H n fun v3_1 H_2 n_3 =>
bindO (nilV v0) fun v7_6 =>
bindO (fieldAddrV P 117 v7_6 0) fun v8_7 =>
bindO (fieldAddrV P 35 v8_7 0) fun v9_8 =>
bindO (addrV v9_8) fun a_10 => bindO (loadV P H_2 31 a_10) fun v10_9 =>
bindO (lenV P 31 v10_9) fun v11_11 =>
j1 v0 v3_1 v11_11 (Go.Value.int Go.IntKind.i64 0) H_2 n_3
noncomputable def C83_0 (cal : Cal) (k : Nat) (v0 v1 : Value) (H : Hp) (n : Nat) : Res := B83_0 cal k (S83_1 cal k k) v0 v1 H n
theorem h83_0 (cal : Cal) (k : Nat) (v0 v1 : Value) (H : Hp) (n : Nat) : bodyE P cal A (k + 1) 83 [v0, v1] H n = C83_0 cal k v0 v1 H n := by
  have h : bodyE P cal A (k + 1) 83 [v0, v1] H n = B83_0 cal k (fun u0 u3 u11 u12 H n => labK (E83_1 cal k k) (Tr.set (Tr.set (Tr.set (Tr.set Tr.nil 12 (some u12)) 11 (some u11)) 3 (some u3)) 0 (some u0)) H n []) v0 v1 H n := by
    rw [body_eq (fn := Go.Proofs.Try.f83) (c := code83) (rs := results83) (by kernel_rfl) (by kernel_rfl) (by kernel_rfl) (by kernel_rfl)]
    kernel_rfl
  rw [h, C83_0]
  have e1 : (fun u0 u3 u11 u12 H n => labK (E83_1 cal k k) (Tr.set (Tr.set (Tr.set (Tr.set Tr.nil 12 (some u12)) 11 (some u11)) 3 (some u3)) 0 (some u0)) H n []) = (S83_1 cal k k) := by funext u0 u3 u11 u12 H n; exact q83_1 ..
  rw [e1]
noncomputable def code85 : Code := codeOf 85
noncomputable def results85 : List ResultVar := resOf 85
noncomputable def K85_p (cal : Cal) (k : Nat) : KC (Value × Hp × Nat) := (cutK (A 85).c (codeE P cal (codeF P cal k) none 85 (cR code85) (Lv.b (A 85)) (doneK P results85) X0 (doneK P results85)))
noncomputable def K85_pr (cal : Cal) (k : Nat) : KC (Value × Hp × Nat) := (cutK (Lv.b (A 85)).c (codeE P cal (codeF P cal k) none 85 (cR (cR code85)) (Lv.b (Lv.b (A 85))) (doneK P results85) X0 (doneK P results85)))
noncomputable def K85_prr (cal : Cal) (k : Nat) : KC (Value × Hp × Nat) := (cutK (Lv.b (Lv.b (A 85))).c (codeE P cal (codeF P cal k) none 85 (cR (cR (cR code85))) (Lv.b (Lv.b (Lv.b (A 85)))) (doneK P results85) X0 (doneK P results85)))
noncomputable def K85_prrr (cal : Cal) (k : Nat) : KC (Value × Hp × Nat) := (cutK (Lv.b (Lv.b (Lv.b (A 85)))).c (codeE P cal (codeF P cal k) none 85 (cR (cR (cR (cR code85)))) (Lv.b (Lv.b (Lv.b (Lv.b (A 85))))) (doneK P results85) X0 (doneK P results85)))
noncomputable def K85_prrrr (cal : Cal) (k : Nat) : KC (Value × Hp × Nat) := (cutK (Lv.b (Lv.b (Lv.b (Lv.b (A 85))))).c (codeE P cal (codeF P cal k) none 85 (cR (cR (cR (cR (cR code85))))) (Lv.b (Lv.b (Lv.b (Lv.b (Lv.b (A 85)))))) (doneK P results85) X0 (doneK P results85)))
noncomputable def K85_prrrrr (cal : Cal) (k : Nat) : KC (Value × Hp × Nat) := (cutK (Lv.b (Lv.b (Lv.b (Lv.b (Lv.b (A 85)))))).c (codeE P cal (codeF P cal k) none 85 (cR (cR (cR (cR (cR (cR code85)))))) (Lv.b (Lv.b (Lv.b (Lv.b (Lv.b (Lv.b (A 85))))))) (doneK P results85) X0 (doneK P results85)))
noncomputable def B85_0 (cal : Cal) (k : Nat) (v0 : Value) (H : Hp) (n : Nat) : Res :=
boxK 105 v0 H n fun v1_1 H_2 n_3 =>
allocK P 44 H_2 n_3 fun v3_5 H_6 n_7 =>
allocK P 170 H_6 n_7 fun v4_8 H_9 n_10 =>
bindO (storeP P 170 v4_8 (Value.func (Go.Fn.func 112) ⟨[]⟩ ⟨[v3_5, v1_1, v4_8]⟩) H_9) fun H_13 =>
bindO (addrV v4_8) fun a_15 => bindO (loadV P H_13 170 a_15) fun v6_14 =>
callVK P cal v6_14 [(Go.Value.slice none 0 0), (Go.Value.int Go.IntKind.i64 0)] H_13 n_10 fun v7_16 H_17 n_18 =>
bindO (addrV v3_5) fun a_20 => bindO (loadV P H_17 44 a_20) fun v8_19 =>
some (v8_19, H_17, n_18)
noncomputable def C85_0 (cal : Cal) (k : Nat) (v0 : Value) (H : Hp) (n : Nat) : Res := B85_0 cal k v0 H n
theorem h85_0 (cal : Cal) (k : Nat) (v0 : Value) (H : Hp) (n : Nat) : bodyE P cal A (k + 1) 85 [v0] H n = C85_0 cal k v0 H n := by
  have h : bodyE P cal A (k + 1) 85 [v0] H n = B85_0 cal k v0 H n := by
    rw [body_eq (fn := Go.Proofs.Try.f85) (c := code85) (rs := results85) (by kernel_rfl) (by kernel_rfl) (by kernel_rfl) (by kernel_rfl)]
    kernel_rfl
  rw [h, C85_0]
noncomputable def code86 : Code := codeOf 86
noncomputable def results86 : List ResultVar := resOf 86
noncomputable def K86_p (cal : Cal) (k : Nat) : KC (Value × Hp × Nat) := (cutK (A 86).c (codeE P cal (codeF P cal k) none 86 (cR code86) (Lv.b (A 86)) (doneK P results86) X0 (doneK P results86)))
noncomputable def K86_pr (cal : Cal) (k : Nat) : KC (Value × Hp × Nat) := (cutK (Lv.b (A 86)).c (codeE P cal (codeF P cal k) none 86 (cR (cR code86)) (Lv.b (Lv.b (A 86))) (doneK P results86) X0 (doneK P results86)))
noncomputable def K86_prl (cal : Cal) (k : Nat) : KC (Value × Hp × Nat) := (cutK (Lv.a (Lv.b (A 86))).c (codeE P cal (codeF P cal k) none 86 (cR (cL (cR code86))) (Lv.b (Lv.a (Lv.b (A 86)))) (K86_pr cal k) X0 (doneK P results86)))
noncomputable def K86_pxrlr (cal : Cal) (k : Nat) : XC (Value × Hp × Nat) := (upX 0 (K86_pr cal k) X0)
noncomputable def K86_prlrl (cal : Cal) (k : Nat) (m1 : Nat) : KC (Value × Hp × Nat) := (fun T H n D => codeF P cal m1 (Lv.a (Lv.b (Lv.a (Lv.b (A 86))))) none 86 (cL (cR (cL (cR code86)))) (K86_pr cal k) (K86_pxrlr cal k) (doneK P results86) (cutT (Lv.a (Lv.b (Lv.a (Lv.b (A 86))))).c T) H n D)
noncomputable def K86_prlrll (cal : Cal) (k : Nat) (m1 : Nat) : KC (Value × Hp × Nat) := (cutK (Lv.a (Lv.a (Lv.b (Lv.a (Lv.b (A 86)))))).c (codeE P cal (codeF P cal m1) none 86 (cR (cL (cL (cR (cL (cR code86)))))) (Lv.b (Lv.a (Lv.a (Lv.b (Lv.a (Lv.b (A 86))))))) (K86_prlrl cal k m1) (K86_pxrlr cal k) (doneK P results86)))
noncomputable def K86_prlrllr (cal : Cal) (k : Nat) (m1 : Nat) : KC (Value × Hp × Nat) := (cutK (Lv.b (Lv.a (Lv.a (Lv.b (Lv.a (Lv.b (A 86))))))).c (codeE P cal (codeF P cal m1) none 86 (cR (cR (cL (cL (cR (cL (cR code86))))))) (Lv.b (Lv.b (Lv.a (Lv.a (Lv.b (Lv.a (Lv.b (A 86)))))))) (K86_prlrl cal k m1) (K86_pxrlr cal k) (doneK P results86)))
noncomputable def K86_prlrllrr (cal : Cal) (k : Nat) (m1 : Nat) : KC (Value × Hp × Nat) := (cutK (Lv.b (Lv.b (Lv.a (Lv.a (Lv.b (Lv.a (Lv.b (A 86)))))))).c (codeE P cal (codeF P cal m1) none 86 (cR (cR (cR (cL (cL (cR (cL (cR code86)))))))) (Lv.b (Lv.b (Lv.b (Lv.a (Lv.a (Lv.b (Lv.a (Lv.b (A 86))))))))) (K86_prlrl cal k m1) (K86_pxrlr cal k) (doneK P results86)))
noncomputable def K86_pxrlrllrrl (cal : Cal) (k : Nat) (m1 : Nat) : XC (Value × Hp × Nat) := (upX 1 (K86_prlrllrr cal k m1) (K86_pxrlr cal k))
noncomputable def K86_prlrllrrll (cal : Cal) (k : Nat) (m1 : Nat) : KC (Value × Hp × Nat) := (cutK (Lv.a (Lv.a (Lv.b (Lv.b (Lv.a (Lv.a (Lv.b (Lv.a (Lv.b (A 86)))))))))).c (codeE P cal (codeF P cal m1) none 86 (cR (cL (cL (cR (cR (cL (cL (cR (cL (cR code86)))))))))) (Lv.b (Lv.a (Lv.a (Lv.b (Lv.b (Lv.a (Lv.a (Lv.b (Lv.a (Lv.b (A 86))))))))))) (K86_prlrllrr cal k m1) (K86_pxrlrllrrl cal k m1) (doneK P results86)))
noncomputable def K86_prlrllrrllr (cal : Cal) (k : Nat) (m1 : Nat) : KC (Value × Hp × Nat) := (cutK (Lv.b (Lv.a (Lv.a (Lv.b (Lv.b (Lv.a (Lv.a (Lv.b (Lv.a (Lv.b (A 86))))))))))).c (codeE P cal (codeF P cal m1) none 86 (cR (cR (cL (cL (cR (cR (cL (cL (cR (cL (cR code86))))))))))) (Lv.b (Lv.b (Lv.a (Lv.a (Lv.b (Lv.b (Lv.a (Lv.a (Lv.b (Lv.a (Lv.b (A 86)))))))))))) (K86_prlrllrr cal k m1) (K86_pxrlrllrrl cal k m1) (doneK P results86)))
noncomputable def K86_prlrllrrllrrl (cal : Cal) (k : Nat) (m1 : Nat) : KC (Value × Hp × Nat) := (cutK (Lv.a (Lv.b (Lv.b (Lv.a (Lv.a (Lv.b (Lv.b (Lv.a (Lv.a (Lv.b (Lv.a (Lv.b (A 86))))))))))))).c (codeE P cal (codeF P cal m1) none 86 (cR (cL (cR (cR (cL (cL (cR (cR (cL (cL (cR (cL (cR code86))))))))))))) (Lv.b (Lv.a (Lv.b (Lv.b (Lv.a (Lv.a (Lv.b (Lv.b (Lv.a (Lv.a (Lv.b (Lv.a (Lv.b (A 86)))))))))))))) (K86_prlrllrr cal k m1) (K86_pxrlrllrrl cal k m1) (doneK P results86)))
noncomputable def K86_prr (cal : Cal) (k : Nat) : KC (Value × Hp × Nat) := (cutK (Lv.b (Lv.b (A 86))).c (codeE P cal (codeF P cal k) none 86 (cR (cR (cR code86))) (Lv.b (Lv.b (Lv.b (A 86)))) (doneK P results86) X0 (doneK P results86)))
noncomputable def E86_1 (cal : Cal) (k m1 : Nat) : KC (Value × Hp × Nat) := codeE P cal (codeF P cal m1) none 86 (cL (cL (cR (cL (cR code86))))) (Lv.a (Lv.a (Lv.b (Lv.a (Lv.b (A 86)))))) (K86_prlrl cal k m1) (K86_pxrlr cal k) (doneK P results86)
noncomputable def R86_1 (cal : Cal) (k m1 : Nat) : Value → Value → Value → Value → Hp → Nat → Res := fun u1 u7 u8 u9 H n => codeF P cal m1 (Lv.a (Lv.b (Lv.a (Lv.b (A 86))))) none 86 (cL (cR (cL (cR code86)))) (K86_pr cal k) (K86_pxrlr cal k) (doneK P results86) (Tr.set (Tr.set (Tr.set (Tr.set Tr.nil 9 (some u9)) 8 (some u8)) 7 (some u7)) 1 (some u1)) H n []
noncomputable def B86_1 (cal : Cal) (k m1 : Nat) (b1 : Value → Value → Value → Value → Hp → Nat → Res) (u1 u7 u8 u9 : Value) (H : Hp) (n : Nat) : Res :=
binK P Go.BinOp.lss 3 (Go.Operand.tmp 9) (Go.Operand.tmp 8) u9 u8 fun v10_5 =>
ifK v10_5 (
bindO (indexAddrV P 44 u7 u9) fun v11_6 =>
bindO (addrV v11_6) fun a_8 => bindO (loadV P H 3 a_8) fun v12_7 =>
callVK P cal u1 [v12_7] H n fun v15_12 H_13 n_14 =>
bindO (pureSem P v15_12 (Op.unary Go.UnOp.not v15_12)) fun v16_15 =>
ifK v16_15 (
some ((Go.Value.bool false), H_13, n_14)) (
binK P Go.BinOp.add 3 (Go.Operand.tmp 9) (Go.Operand.const (Go.Value.int Go.IntKind.i64 1)) u9 (Go.Value.int Go.IntKind.i64 1) fun v17_17 =>
b1 u1 u7 u8 v17_17 H_13 n_14)) (
some ((Go.Value.bool true), H, n))
noncomputable def C86_1 (cal : Cal) (k m1 : Nat) (b1 : Value → Value → Value → Value → Hp → Nat → Res) (u1 u7 u8 u9 : Value) (H : Hp) (n : Nat) : Res := B86_1 cal k m1 b1 u1 u7 u8 u9 H n
noncomputable def S86_1 (cal : Cal) (k : Nat) : Nat → Value → Value → Value → Value → Hp → Nat → Res := fun m => Nat.rec (motive := fun _ => Value → Value → Value → Value → Hp → Nat → Res) (C86_1 cal k 0 (fun _ _ _ _ _ _ => none)) (fun m ih => C86_1 cal k (m + 1) ih) m
theorem h86_1 (cal : Cal) (k m1 : Nat) (u1 u7 u8 u9 : Value) (H : Hp) (n : Nat) : labK (E86_1 cal k m1) (Tr.set (Tr.set (Tr.set (Tr.set Tr.nil 9 (some u9)) 8 (some u8)) 7 (some u7)) 1 (some u1)) H n [] = C86_1 cal k m1 (R86_1 cal k m1) u1 u7 u8 u9 H n := by
  have h : labK (E86_1 cal k m1) (Tr.set (Tr.set (Tr.set (Tr.set Tr.nil 9 (some u9)) 8 (some u8)) 7 (some u7)) 1 (some u1)) H n [] = B86_1 cal k m1 (R86_1 cal k m1) u1 u7 u8 u9 H n := by kernel_rfl
  rw [h, C86_1]
theorem q86_1 (cal : Cal) (k : Nat) : ∀ (m : Nat) (u1 u7 u8 u9 : Value) (H : Hp) (n : Nat), labK (E86_1 cal k m) (Tr.set (Tr.set (Tr.set (Tr.set Tr.nil 9 (some u9)) 8 (some u8)) 7 (some u7)) 1 (some u1)) H n [] = S86_1 cal k m u1 u7 u8 u9 H n
  | 0, u1, u7, u8, u9, H, n => by
    rw [h86_1]
    have e : R86_1 cal k 0 = fun _ _ _ _ _ _ => none := by funext u1 u7 u8 u9 H n; kernel_rfl
    rw [e]; rfl
  | m + 1, u1, u7, u8, u9, H, n => by
    rw [h86_1]
    have e : R86_1 cal k (m + 1) = S86_1 cal k m := by
      funext u1 u7 u8 u9 H n
      have e : R86_1 cal k (m + 1) u1 u7 u8 u9 H n = labK (E86_1 cal k m) (Tr.set (Tr.set (Tr.set (Tr.set Tr.nil 9 (some u9)) 8 (some u8)) 7 (some u7)) 1 (some u1)) H n [] := by kernel_rfl
      rw [e]; exact q86_1 ..
    rw [e]; rfl
noncomputable def B86_0 (cal : Cal) (k : Nat) (j1 : Value → Value → Value → Value → Hp → Nat → Res) (v0 v1 : Value) (H : Hp) (n : Nat) : Res :=
bindO (lenV P 44 v0) fun v8_3 =>
j1 v1 v0 v8_3 (Go.Value.int Go.IntKind.i64 0) H n
noncomputable def C86_0 (cal : Cal) (k : Nat) (v0 v1 : Value) (H : Hp) (n : Nat) : Res := B86_0 cal k (S86_1 cal k k) v0 v1 H n
theorem h86_0 (cal : Cal) (k : Nat) (v0 v1 : Value) (H : Hp) (n : Nat) : bodyE P cal A (k + 1) 86 [v0, v1] H n = C86_0 cal k v0 v1 H n := by
  have h : bodyE P cal A (k + 1) 86 [v0, v1] H n = B86_0 cal k (fun u1 u7 u8 u9 H n => labK (E86_1 cal k k) (Tr.set (Tr.set (Tr.set (Tr.set Tr.nil 9 (some u9)) 8 (some u8)) 7 (some u7)) 1 (some u1)) H n []) v0 v1 H n := by
    rw [body_eq (fn := Go.Proofs.Try.f86) (c := code86) (rs := results86) (by kernel_rfl) (by kernel_rfl) (by kernel_rfl) (by kernel_rfl)]
    kernel_rfl
  rw [h, C86_0]
  have e1 : (fun u1 u7 u8 u9 H n => labK (E86_1 cal k k) (Tr.set (Tr.set (Tr.set (Tr.set Tr.nil 9 (some u9)) 8 (some u8)) 7 (some u7)) 1 (some u1)) H n []) = (S86_1 cal k k) := by funext u1 u7 u8 u9 H n; exact q86_1 ..
  rw [e1]
noncomputable def code87 : Code := codeOf 87
noncomputable def results87 : List ResultVar := resOf 87
noncomputable def K87_p (cal : Cal) (k : Nat) : KC (Value × Hp × Nat) := (cutK (A 87).c (codeE P cal (codeF P cal k) none 87 (cR code87) (Lv.b (A 87)) (doneK P results87) X0 (doneK P results87)))
noncomputable def K87_pr (cal : Cal) (k : Nat) : KC (Value × Hp × Nat) := (cutK (Lv.b (A 87)).c (codeE P cal (codeF P cal k) none 87 (cR (cR code87)) (Lv.b (Lv.b (A 87))) (doneK P results87) X0 (doneK P results87)))
noncomputable def K87_prl (cal : Cal) (k : Nat) : KC (Value × Hp × Nat) := (cutK (Lv.a (Lv.b (A 87))).c (codeE P cal (codeF P cal k) none 87 (cR (cL (cR code87))) (Lv.b (Lv.a (Lv.b (A 87)))) (K87_pr cal k) X0 (doneK P results87)))
noncomputable def K87_pxrlr (cal : Cal) (k : Nat) : XC (Value × Hp × Nat) := (upX 0 (K87_pr cal k) X0)
noncomputable def K87_prlrl (cal : Cal) (k : Nat) (m1 : Nat) : KC (Value × Hp × Nat) := (fun T H n D => codeF P cal m1 (Lv.a (Lv.b (Lv.a (Lv.b (A 87))))) none 87 (cL (cR (cL (cR code87)))) (K87_pr cal k) (K87_pxrlr cal k) (doneK P results87) (cutT (Lv.a (Lv.b (Lv.a (Lv.b (A 87))))).c T) H n D)
noncomputable def K87_prlrll (cal : Cal) (k : Nat) (m1 : Nat) : KC (Value × Hp × Nat) := (cutK (Lv.a (Lv.a (Lv.b (Lv.a (Lv.b (A 87)))))).c (codeE P cal (codeF P cal m1) none 87 (cR (cL (cL (cR (cL (cR code87)))))) (Lv.b (Lv.a (Lv.a (Lv.b (Lv.a (Lv.b (A 87))))))) (K87_prlrl cal k m1) (K87_pxrlr cal k) (doneK P results87)))
noncomputable def K87_prlrlll (cal : Cal) (k : Nat) (m1 : Nat) : KC (Value × Hp × Nat) := (cutK (Lv.a (Lv.a (Lv.a (Lv.b (Lv.a (Lv.b (A 87))))))).c (codeE P cal (codeF P cal m1) none 87 (cR (cL (cL (cL (cR (cL (cR code87))))))) (Lv.b (Lv.a (Lv.a (Lv.a (Lv.b (Lv.a (Lv.b (A 87)))))))) (K87_prlrll cal k m1) (K87_pxrlr cal k) (doneK P results87)))
noncomputable def K87_prlrllr (cal : Cal) (k : Nat) (m1 : Nat) : KC (Value × Hp × Nat) := (cutK (Lv.b (Lv.a (Lv.a (Lv.b (Lv.a (Lv.b (A 87))))))).c (codeE P cal (codeF P cal m1) none 87 (cR (cR (cL (cL (cR (cL (cR code87))))))) (Lv.b (Lv.b (Lv.a (Lv.a (Lv.b (Lv.a (Lv.b (A 87)))))))) (K87_prlrl cal k m1) (K87_pxrlr cal k) (doneK P results87)))
noncomputable def K87_pxrlrllrl (cal : Cal) (k : Nat) (m1 : Nat) : XC (Value × Hp × Nat) := (upX 1 (K87_prlrllr cal k m1) (K87_pxrlr cal k))
noncomputable def K87_prlrllrll (cal : Cal) (k : Nat) (m1 : Nat) : KC (Value × Hp × Nat) := (cutK (Lv.a (Lv.a (Lv.b (Lv.a (Lv.a (Lv.b (Lv.a (Lv.b (A 87))))))))).c (codeE P cal (codeF P cal m1) none 87 (cR (cL (cL (cR (cL (cL (cR (cL (cR code87))))))))) (Lv.b (Lv.a (Lv.a (Lv.b (Lv.a (Lv.a (Lv.b (Lv.a (Lv.b (A 87)))))))))) (K87_prlrllr cal k m1) (K87_pxrlrllrl cal k m1) (doneK P results87)))
noncomputable def K87_prlrllrllrl (cal : Cal) (k : Nat) (m1 : Nat) : KC (Value × Hp × Nat) := (cutK (Lv.a (Lv.b (Lv.a (Lv.a (Lv.b (Lv.a (Lv.a (Lv.b (Lv.a (Lv.b (A 87))))))))))).c (codeE P cal (codeF P cal m1) none 87 (cR (cL (cR (cL (cL (cR (cL (cL (cR (cL (cR code87))))))))))) (Lv.b (Lv.a (Lv.b (Lv.a (Lv.a (Lv.b (Lv.a (Lv.a (Lv.b (Lv.a (Lv.b (A 87)))))))))))) (K87_prlrllr cal k m1) (K87_pxrlrllrl cal k m1) (doneK P results87)))
noncomputable def K87_prr (cal : Cal) (k : Nat) : KC (Value × Hp × Nat) := (cutK (Lv.b (Lv.b (A 87))).c (codeE P cal (codeF P cal k) none 87 (cR (cR (cR code87))) (Lv.b (Lv.b (Lv.b (A 87)))) (doneK P results87) X0 (doneK P results87)))
noncomputable def E87_1 (cal : Cal) (k m1 : Nat) : KC (Value × Hp × Nat) := codeE P cal (codeF P cal m1) none 87 (cL (cL (cR (cL (cR code87))))) (Lv.a (Lv.a (Lv.b (Lv.a (Lv.b (A 87)))))) (K87_prlrl cal k m1) (K87_pxrlr cal k) (doneK P results87)
noncomputable def R87_1 (cal : Cal) (k m1 : Nat) : Value → Value → Hp → Nat → Res := fun u0 u3 H n => codeF P cal m1 (Lv.a (Lv.b (Lv.a (Lv.b (A 87))))) none 87 (cL (cR (cL (cR code87)))) (K87_pr cal k) (K87_pxrlr cal k) (doneK P results87) (Tr.set (Tr.set Tr.nil 3 (some u3)) 0 (some u0)) H n []
noncomputable def B87_1 (cal : Cal) (k m1 : Nat) (b1 : Value → Value → Hp → Nat → Res) (u0 u3 : Value) (H : Hp) (n : Nat) : Res :=
bindO (lenV P 44 u0) fun v6_5 =>
binK P Go.BinOp.lss 3 (Go.Operand.tmp 4) (Go.Operand.tmp 6) u3 v6_5 fun v7_6 =>
ifK v7_6 (
bindO (indexAddrV P 44 u0 u3) fun v12_9 =>
bindO (addrV v12_9) fun a_10 => bindO (loadV P H 3 a_10) fun v_11 =>
binK P Go.BinOp.sub 3 (Go.Operand.tmp 15) (Go.Operand.const (Go.Value.int Go.IntKind.i64 1)) u3 (Go.Value.int Go.IntKind.i64 1) fun v16_14 =>
bindO (indexAddrV P 44 u0 v16_14) fun v17_15 =>
bindO (addrV v17_15) fun a_16 => bindO (loadV P H 3 a_16) fun v_17 =>
binK P Go.BinOp.leq 3 (Go.Operand.tmp 13) (Go.Operand.tmp 18) v_11 v_17 fun v19_18 =>
ifK v19_18 (
some ((Go.Value.bool false), H, n)) (
binK P Go.BinOp.add 3 (Go.Operand.tmp 8) (Go.Operand.const (Go.Value.int Go.IntKind.i64 1)) u3 (Go.Value.int Go.IntKind.i64 1) fun v9_21 =>
b1 u0 v9_21 H n)) (
some ((Go.Value.bool true), H, n))
noncomputable def C87_1 (cal : Cal) (k m1 : Nat) (b1 : Value → Value → Hp → Nat → Res) (u0 u3 : Value) (H : Hp) (n : Nat) : Res := B87_1 cal k m1 b1 u0 u3 H n
noncomputable def S87_1 (cal : Cal) (k : Nat) : Nat → Value → Value → Hp → Nat → Res := fun m => Nat.rec (motive := fun _ => Value → Value → Hp → Nat → Res) (C87_1 cal k 0 (fun _ _ _ _ => none)) (fun m ih => C87_1 cal k (m + 1) ih) m
theorem h87_1 (cal : Cal) (k m1 : Nat) (u0 u3 : Value) (H : Hp) (n : Nat) : labK (E87_1 cal k m1) (Tr.set (Tr.set Tr.nil 3 (some u3)) 0 (some u0)) H n [] = C87_1 cal k m1 (R87_1 cal k m1) u0 u3 H n := by
  have h : labK (E87_1 cal k m1) (Tr.set (Tr.set Tr.nil 3 (some u3)) 0 (some u0)) H n [] = B87_1 cal k m1 (R87_1 cal k m1) u0 u3 H n := by kernel_rfl
  rw [h, C87_1]
theorem q87_1 (cal : Cal) (k : Nat) : ∀ (m : Nat) (u0 u3 : Value) (H : Hp) (n : Nat), labK (E87_1 cal k m) (Tr.set (Tr.set Tr.nil 3 (some u3)) 0 (some u0)) H n [] = S87_1 cal k m u0 u3 H n
  | 0, u0, u3, H, n => by
    rw [h87_1]
    have e : R87_1 cal k 0 = fun _ _ _ _ => none := by funext u0 u3 H n; kernel_rfl
    rw [e]; rfl
  | m + 1, u0, u3, H, n => by
    rw [h87_1]
    have e : R87_1 cal k (m + 1) = S87_1 cal k m := by
      funext u0 u3 H n
      have e : R87_1 cal k (m + 1) u0 u3 H n = labK (E87_1 cal k m) (Tr.set (Tr.set Tr.nil 3 (some u3)) 0 (some u0)) H n [] := by kernel_rfl
      rw [e]; exact q87_1 ..
    rw [e]; rfl
noncomputable def B87_0 (cal : Cal) (k : Nat) (j1 : Value → Value → Hp → Nat → Res) (v0 : Value) (H : Hp) (n : Nat) : Res :=
j1 v0 (Go.Value.int Go.IntKind.i64 1) H n
noncomputable def C87_0 (cal : Cal) (k : Nat) (v0 : Value) (H : Hp) (n : Nat) : Res := B87_0 cal k (S87_1 cal k k) v0 H n
theorem h87_0 (cal : Cal) (k : Nat) (v0 : Value) (H : Hp) (n : Nat) : bodyE P cal A (k + 1) 87 [v0] H n = C87_0 cal k v0 H n := by
  have h : bodyE P cal A (k + 1) 87 [v0] H n = B87_0 cal k (fun u0 u3 H n => labK (E87_1 cal k k) (Tr.set (Tr.set Tr.nil 3 (some u3)) 0 (some u0)) H n []) v0 H n := by
    rw [body_eq (fn := Go.Proofs.Try.f87) (c := code87) (rs := results87) (by kernel_rfl) (by kernel_rfl) (by kernel_rfl) (by kernel_rfl)]
    kernel_rfl
  rw [h, C87_0]
  have e1 : (fun u0 u3 H n => labK (E87_1 cal k k) (Tr.set (Tr.set Tr.nil 3 (some u3)) 0 (some u0)) H n []) = (S87_1 cal k k) := by funext u0 u3 H n; exact q87_1 ..
  rw [e1]
noncomputable def code91 : Code := codeOf 91
noncomputable def results91 : List ResultVar := resOf 91
noncomputable def K91_p (cal : Cal) (k : Nat) : KC (Value × Hp × Nat) := (cutK (A 91).c (codeE P cal (codeF P cal k) none 91 (cR code91) (Lv.b (A 91)) (doneK P results91) X0 (doneK P results91)))
noncomputable def K91_pr (cal : Cal) (k : Nat) : KC (Value × Hp × Nat) := (cutK (Lv.b (A 91)).c (codeE P cal (codeF P cal k) none 91 (cR (cR code91)) (Lv.b (Lv.b (A 91))) (doneK P results91) X0 (doneK P results91)))
noncomputable def K91_prl (cal : Cal) (k : Nat) : KC (Value × Hp × Nat) := (cutK (Lv.a (Lv.b (A 91))).c (codeE P cal (codeF P cal k) none 91 (cR (cL (cR code91))) (Lv.b (Lv.a (Lv.b (A 91)))) (K91_pr cal k) X0 (doneK P results91)))
noncomputable def K91_pxrlr (cal : Cal) (k : Nat) : XC (Value × Hp × Nat) := (upX 0 (K91_pr cal k) X0)
noncomputable def K91_prlrl (cal : Cal) (k : Nat) (m1 : Nat) : KC (Value × Hp × Nat) := (fun T H n D => codeF P cal m1 (Lv.a (Lv.b (Lv.a (Lv.b (A 91))))) none 91 (cL (cR (cL (cR code91)))) (K91_pr cal k) (K91_pxrlr cal k) (doneK P results91) (cutT (Lv.a (Lv.b (Lv.a (Lv.b (A 91))))).c T) H n D)
noncomputable def K91_prlrll (cal : Cal) (k : Nat) (m1 : Nat) : KC (Value × Hp × Nat) := (cutK (Lv.a (Lv.a (Lv.b (Lv.a (Lv.b (A 91)))))).c (codeE P cal (codeF P cal m1) none 91 (cR (cL (cL (cR (cL (cR code91)))))) (Lv.b (Lv.a (Lv.a (Lv.b (Lv.a (Lv.b (A 91))))))) (K91_prlrl cal k m1) (K91_pxrlr cal k) (doneK P results91)))
noncomputable def K91_prlrllr (cal : Cal) (k : Nat) (m1 : Nat) : KC (Value × Hp × Nat) := (cutK (Lv.b (Lv.a (Lv.a (Lv.b (Lv.a (Lv.b (A 91))))))).c (codeE P cal (codeF P cal m1) none 91 (cR (cR (cL (cL (cR (cL (cR code91))))))) (Lv.b (Lv.b (Lv.a (Lv.a (Lv.b (Lv.a (Lv.b (A 91)))))))) (K91_prlrl cal k m1) (K91_pxrlr cal k) (doneK P results91)))
noncomputable def K91_prlrllrr (cal : Cal) (k : Nat) (m1 : Nat) : KC (Value × Hp × Nat) := (cutK (Lv.b (Lv.b (Lv.a (Lv.a (Lv.b (Lv.a (Lv.b (A 91)))))))).c (codeE P cal (codeF P cal m1) none 91 (cR (cR (cR (cL (cL (cR (cL (cR code91)))))))) (Lv.b (Lv.b (Lv.b (Lv.a (Lv.a (Lv.b (Lv.a (Lv.b (A 91))))))))) (K91_prlrl cal k m1) (K91_pxrlr cal k) (doneK P results91)))
noncomputable def K91_pxrlrllrrl (cal : Cal) (k : Nat) (m1 : Nat) : XC (Value × Hp × Nat) := (upX 1 (K91_prlrllrr cal k m1) (K91_pxrlr cal k))
noncomputable def K91_prlrllrrll (cal : Cal) (k : Nat) (m1 : Nat) : KC (Value × Hp × Nat) := (cutK (Lv.a (Lv.a (Lv.b (Lv.b (Lv.a (Lv.a (Lv.b (Lv.a (Lv.b (A 91)))))))))).c (codeE P cal (codeF P cal m1) none 91 (cR (cL (cL (cR (cR (cL (cL (cR (cL (cR code91)))))))))) (Lv.b (Lv.a (Lv.a (Lv.b (Lv.b (Lv.a (Lv.a (Lv.b (Lv.a (Lv.b (A 91))))))))))) (K91_prlrllrr cal k m1) (K91_pxrlrllrrl cal k m1) (doneK P results91)))
noncomputable def K91_prlrllrrllr (cal : Cal) (k : Nat) (m1 : Nat) : KC (Value × Hp × Nat) := (cutK (Lv.b (Lv.a (Lv.a (Lv.b (Lv.b (Lv.a (Lv.a (Lv.b (Lv.a (Lv.b (A 91))))))))))).c (codeE P cal (codeF P cal m1) none 91 (cR (cR (cL (cL (cR (cR (cL (cL (cR (cL (cR code91))))))))))) (Lv.b (Lv.b (Lv.a (Lv.a (Lv.b (Lv.b (Lv.a (Lv.a (Lv.b (Lv.a (Lv.b (A 91)))))))))))) (K91_prlrllrr cal k m1) (K91_pxrlrllrrl cal k m1) (doneK P results91)))
noncomputable def K91_prlrllrrllrrl (cal : Cal) (k : Nat) (m1 : Nat) : KC (Value × Hp × Nat) := (cutK (Lv.a (Lv.b (Lv.b (Lv.a (Lv.a (Lv.b (Lv.b (Lv.a (Lv.a (Lv.b (Lv.a (Lv.b (A 91))))))))))))).c (codeE P cal (codeF P cal m1) none 91 (cR (cL (cR (cR (cL (cL (cR (cR (cL (cL (cR (cL (cR code91))))))))))))) (Lv.b (Lv.a (Lv.b (Lv.b (Lv.a (Lv.a (Lv.b (Lv.b (Lv.a (Lv.a (Lv.b (Lv.a (Lv.b (A 91)))))))))))))) (K91_prlrllrr cal k m1) (K91_pxrlrllrrl cal k m1) (doneK P results91)))
noncomputable def K91_prr (cal : Cal) (k : Nat) : KC (Value × Hp × Nat) := (cutK (Lv.b (Lv.b (A 91))).c (codeE P cal (codeF P cal k) none 91 (cR (cR (cR code91))) (Lv.b (Lv.b (Lv.b (A 91)))) (doneK P results91) X0 (doneK P results91)))
noncomputable def E91_1 (cal : Cal) (k m1 : Nat) : KC (Value × Hp × Nat) := codeE P cal (codeF P cal m1) none 91 (cL (cL (cR (cL (cR code91))))) (Lv.a (Lv.a (Lv.b (Lv.a (Lv.b (A 91)))))) (K91_prlrl cal k m1) (K91_pxrlr cal k) (doneK P results91)
noncomputable def R91_1 (cal : Cal) (k m1 : Nat) : Value → Value → Value → Value → Hp → Nat → Res := fun u1 u7 u8 u9 H n => codeF P cal m1 (Lv.a (Lv.b (Lv.a (Lv.b (A 91))))) none 91 (cL (cR (cL (cR code91)))) (K91_pr cal k) (K91_pxrlr cal k) (doneK P results91) (Tr.set (Tr.set (Tr.set (Tr.set Tr.nil 9 (some u9)) 8 (some u8)) 7 (some u7)) 1 (some u1)) H n []
noncomputable def B91_1 (cal : Cal) (k m1 : Nat) (b1 : Value → Value → Value → Value → Hp → Nat → Res) (u1 u7 u8 u9 : Value) (H : Hp) (n : Nat) : Res :=
binK P Go.BinOp.lss 3 (Go.Operand.tmp 9) (Go.Operand.tmp 8) u9 u8 fun v10_5 =>
ifK v10_5 (
bindO (indexAddrV P 31 u7 u9) fun v11_6 =>
bindO (addrV v11_6) fun a_8 => bindO (loadV P H 90 a_8) fun v12_7 =>
allocK P 90 H n fun v6_9 H_10 n_11 =>
bindO (storeP P 90 v6_9 v12_7 H_10) fun H_13 =>
bindO (addrV v6_9) fun a_16 => bindO (loadV P H_13 90 a_16) fun v14_15 =>
callVK P cal u1 [v14_15] H_13 n_11 fun v15_17 H_18 n_19 =>
bindO (pureSem P v15_17 (Op.unary Go.UnOp.not v15_17)) fun v16_20 =>
ifK v16_20 (
some ((Go.Value.bool false), H_18, n_19)) (
binK P Go.BinOp.add 3 (Go.Operand.tmp 9) (Go.Operand.const (Go.Value.int Go.IntKind.i64 1)) u9 (Go.Value.int Go.IntKind.i64 1) fun v17_22 =>
b1 u1 u7 u8 v17_22 H_18 n_19)) (
some ((Go.Value.bool true), H, n))
noncomputable def C91_1 (cal : Cal) (k m1 : Nat) (b1 : Value → Value → Value → Value → Hp → Nat → Res) (u1 u7 u8 u9 : Value) (H : Hp) (n : Nat) : Res := B91_1 cal k m1 b1 u1 u7 u8 u9 H n
noncomputable def S91_1 (cal : Cal) (k : Nat) : Nat → Value → Value → Value → Value → Hp → Nat → Res := fun m => Nat.rec (motive := fun _ => Value → Value → Value → Value → Hp → Nat → Res) (C91_1 cal k 0 (fun _ _ _ _ _ _ => none)) (fun m ih => C91_1 cal k (m + 1) ih) m
theorem h91_1 (cal : Cal) (k m1 : Nat) (u1 u7 u8 u9 : Value) (H : Hp) (n : Nat) : labK (E91_1 cal k m1) (Tr.set (Tr.set (Tr.set (Tr.set Tr.nil 9 (some u9)) 8 (some u8)) 7 (some u7)) 1 (some u1)) H n [] = C91_1 cal k m1 (R91_1 cal k m1) u1 u7 u8 u9 H n := by
  have h : labK (E91_1 cal k m1) (Tr.set (Tr.set (Tr.set (Tr.set Tr.nil 9 (some u9)) 8 (some u8)) 7 (some u7)) 1 (some u1)) H n [] = B91_1 cal k m1 (R91_1 cal k m1) u1 u7 u8 u9 H n := by kernel_rfl
  rw [h, C91_1]
theorem q91_1 (cal : Cal) (k : Nat) : ∀ (m : Nat) (u1 u7 u8 u9 : Value) (H : Hp) (n : Nat), labK (E91_1 cal k m) (Tr.set (Tr.set (Tr.set (Tr.set Tr.nil 9 (some u9)) 8 (some u8)) 7 (some u7)) 1 (some u1)) H n [] = S91_1 cal k m u1 u7 u8 u9 H n
  | 0, u1, u7, u8, u9, H, n => by
    rw [h91_1]
    have e : R91_1 cal k 0 = fun _ _ _ _ _ _ => none := by funext u1 u7 u8 u9 H n; kernel_rfl
    rw [e]; rfl
  | m + 1, u1, u7, u8, u9, H, n => by
    rw [h91_1]
    have e : R91_1 cal k (m + 1) = S91_1 cal k m := by
      funext u1 u7 u8 u9 H n
      have e : R91_1 cal k (m + 1) u1 u7 u8 u9 H n = labK (E91_1 cal k m) (Tr.set (Tr.set (Tr.set (Tr.set Tr.nil 9 (some u9)) 8 (some u8)) 7 (some u7)) 1 (some u1)) H n [] := by kernel_rfl
      rw [e]; exact q91_1 ..
    rw [e]; rfl
noncomputable def B91_0 (cal : Cal) (k : Nat) (j1 : Value → Value → Value → Value → Hp → Nat → Res) (v0 v1 : Value) (H : Hp) (n : Nat) : Res :=
bindO (lenV P 31 v0) fun v8_3 =>
j1 v1 v0 v8_3 (Go.Value.int Go.IntKind.i64 0) H n
noncomputable def C91_0 (cal : Cal) (k : Nat) (v0 v1 : Value) (H : Hp) (n : Nat) : Res := B91_0 cal k (S91_1 cal k k) v0 v1 H n
theorem h91_0 (cal : Cal) (k : Nat) (v0 v1 : Value) (H : Hp) (n : Nat) : bodyE P cal A (k + 1) 91 [v0, v1] H n = C91_0 cal k v0 v1 H n := by
  have h : bodyE P cal A (k + 1) 91 [v0, v1] H n = B91_0 cal k (fun u1 u7 u8 u9 H n => labK (E91_1 cal k k) (Tr.set (Tr.set (Tr.set (Tr.set Tr.nil 9 (some u9)) 8 (some u8)) 7 (some u7)) 1 (some u1)) H n []) v0 v1 H n := by
    rw [body_eq (fn := Go.Proofs.Try.f91) (c := code91) (rs := results91) (by kernel_rfl) (by kernel_rfl) (by kernel_rfl) (by kernel_rfl)]
    kernel_rfl
  rw [h, C91_0]
  have e1 : (fun u1 u7 u8 u9 H n => labK (E91_1 cal k k) (Tr.set (Tr.set (Tr.set (Tr.set Tr.nil 9 (some u9)) 8 (some u8)) 7 (some u7)) 1 (some u1)) H n []) = (S91_1 cal k k) := by funext u1 u7 u8 u9 H n; exact q91_1 ..
  rw [e1]
noncomputable def code92 : Code := codeOf 92
noncomputable def results92 : List ResultVar := resOf 92
noncomputable def K92_p (cal : Cal) (k : Nat) : KC (Value × Hp × Nat) := (cutK (A 92).c (codeE P cal (codeF P cal k) none 92 (cR code92) (Lv.b (A 92)) (doneK P results92) X0 (doneK P results92)))
noncomputable def K92_pr (cal : Cal) (k : Nat) : KC (Value × Hp × Nat) := (cutK (Lv.b (A 92)).c (codeE P cal (codeF P cal k) none 92 (cR (cR code92)) (Lv.b (Lv.b (A 92))) (doneK P results92) X0 (doneK P results92)))
noncomputable def B92_0 (cal : Cal) (k : Nat) (v0 : Value) (H : Hp) (n : Nat) : Res :=
boxK 90 v0 H n fun v1_1 H_2 n_3 =>
bindO (fieldAddrV P 90 v1_1 0) fun v3_5 =>
bindO (addrV v3_5) fun a_7 => bindO (loadV P H_2 3 a_7) fun v4_6 =>
binK P Go.BinOp.geq 3 (Go.Operand.tmp 4) (Go.Operand.const (Go.Value.int Go.IntKind.i64 0)) v4_6 (Go.Value.int Go.IntKind.i64 0) fun v5_8 =>
guardK v5_8 true (fun k_10 =>
bindO (fieldAddrV P 90 v1_1 0) fun v7_14 =>
k_10 v7_14 H_2 n_3) H_2 n_3 fun v_11 H_12 n_13 =>
guardK v5_8 true (fun k_15 =>
bindO (addrV v_11) fun a_20 => bindO (loadV P H_12 3 a_20) fun v8_19 =>
k_15 v8_19 H_12 n_13) H_12 n_13 fun v_16 H_17 n_18 =>
guardK v5_8 true (fun k_21 =>
bindO (fieldAddrV P 90 v1_1 1) fun v9_25 =>
k_21 v9_25 H_17 n_18) H_17 n_18 fun v_22 H_23 n_24 =>
guardK v5_8 true (fun k_26 =>
bindO (addrV v_22) fun a_31 => bindO (loadV P H_23 3 a_31) fun v10_30 =>
k_26 v10_30 H_23 n_24) H_23 n_24 fun v_27 H_28 n_29 =>
guardK v5_8 true (fun k_32 =>
binK P Go.BinOp.leq 3 (Go.Operand.tmp 8) (Go.Operand.tmp 10) v_16 v_27 fun v11_36 =>
k_32 v11_36 H_28 n_29) H_28 n_29 fun v_33 H_34 n_35 =>
bindO (pickV v5_8 v_33 (Go.Value.bool false)) fun v12_37 =>
guardK v12_37 true (fun k_39 =>
bindO (fieldAddrV P 90 v1_1 1) fun v14_43 =>
k_39 v14_43 H_34 n_35) H_34 n_35 fun v_40 H_41 n_42 =>
guardK v12_37 true (fun k_44 =>
bindO (addrV v_40) fun a_49 => bindO (loadV P H_41 3 a_49) fun v15_48 =>
k_44 v15_48 H_41 n_42) H_41 n_42 fun v_45 H_46 n_47 =>
guardK v12_37 true (fun k_50 =>
binK P Go.BinOp.leq 3 (Go.Operand.tmp 15) (Go.Operand.const (Go.Value.int Go.IntKind.i64 1000)) v_45 (Go.Value.int Go.IntKind.i64 1000) fun v16_54 =>
k_50 v16_54 H_46 n_47) H_46 n_47 fun v_51 H_52 n_53 =>
bindO (pickV v12_37 v_51 (Go.Value.bool false)) fun v17_55 =>
some (v17_55, H_52, n_53)
noncomputable def C92_0 (cal : Cal) (k : Nat) (v0 : Value) (H : Hp) (n : Nat) : Res := B92_0 cal k v0 H n
theorem h92_0 (cal : Cal) (k : Nat) (v0 : Value) (H : Hp) (n : Nat) : bodyE P cal A (k + 1) 92 [v0] H n = C92_0 cal k v0 H n := by
  have h : bodyE P cal A (k + 1) 92 [v0] H n = B92_0 cal k v0 H n := by
    rw [body_eq (fn := Go.Proofs.Try.f92) (c := code92) (rs := results92) (by kernel_rfl) (by kernel_rfl) (by kernel_rfl) (by kernel_rfl)]
    kernel_rfl
  rw [h, C92_0]
noncomputable def code93 : Code := codeOf 93
noncomputable def results93 : List ResultVar := resOf 93
noncomputable def K93_p (cal : Cal) (k : Nat) : KC (Value × Hp × Nat) := (cutK (A 93).c (codeE P cal (codeF P cal k) none 93 (cR code93) (Lv.b (A 93)) (doneK P results93) X0 (doneK P results93)))
noncomputable def K93_pr (cal : Cal) (k : Nat) : KC (Value × Hp × Nat) := (cutK (Lv.b (A 93)).c (codeE P cal (codeF P cal k) none 93 (cR (cR code93)) (Lv.b (Lv.b (A 93))) (doneK P results93) X0 (doneK P results93)))
noncomputable def K93_prl (cal : Cal) (k : Nat) : KC (Value × Hp × Nat) := (cutK (Lv.a (Lv.b (A 93))).c (codeE P cal (codeF P cal k) none 93 (cR (cL (cR code93))) (Lv.b (Lv.a (Lv.b (A 93)))) (K93_pr cal k) X0 (doneK P results93)))
noncomputable def K93_pxrlr (cal : Cal) (k : Nat) : XC (Value × Hp × Nat) := (upX 0 (K93_pr cal k) X0)
noncomputable def K93_prlrl (cal : Cal) (k : Nat) (m1 : Nat) : KC (Value × Hp × Nat) := (fun T H n D => codeF P cal m1 (Lv.a (Lv.b (Lv.a (Lv.b (A 93))))) none 93 (cL (cR (cL (cR code93)))) (K93_pr cal k) (K93_pxrlr cal k) (doneK P results93) (cutT (Lv.a (Lv.b (Lv.a (Lv.b (A 93))))).c T) H n D)
noncomputable def K93_prlrll (cal : Cal) (k : Nat) (m1 : Nat) : KC (Value × Hp × Nat) := (cutK (Lv.a (Lv.a (Lv.b (Lv.a (Lv.b (A 93)))))).c (codeE P cal (codeF P cal m1) none 93 (cR (cL (cL (cR (cL (cR code93)))))) (Lv.b (Lv.a (Lv.a (Lv.b (Lv.a (Lv.b (A 93))))))) (K93_prlrl cal k m1) (K93_pxrlr cal k) (doneK P results93)))
noncomputable def K93_prlrllr (cal : Cal) (k : Nat) (m1 : Nat) : KC (Value × Hp × Nat) := (cutK (Lv.b (Lv.a (Lv.a (Lv.b (Lv.a (Lv.b (A 93))))))).c (codeE P cal (codeF P cal m1) none 93 (cR (cR (cL (cL (cR (cL (cR code93))))))) (Lv.b (Lv.b (Lv.a (Lv.a (Lv.b (Lv.a (Lv.b (A 93)))))))) (K93_prlrl cal k m1) (K93_pxrlr cal k) (doneK P results93)))
noncomputable def K93_prlrllrr (cal : Cal) (k : Nat) (m1 : Nat) : KC (Value × Hp × Nat) := (cutK (Lv.b (Lv.b (Lv.a (Lv.a (Lv.b (Lv.a (Lv.b (A 93)))))))).c (codeE P cal (codeF P cal m1) none 93 (cR (cR (cR (cL (cL (cR (cL (cR code93)))))))) (Lv.b (Lv.b (Lv.b (Lv.a (Lv.a (Lv.b (Lv.a (Lv.b (A 93))))))))) (K93_prlrl cal k m1) (K93_pxrlr cal k) (doneK P results93)))
noncomputable def K93_pxrlrllrrl (cal : Cal) (k : Nat) (m1 : Nat) : XC (Value × Hp × Nat) := (upX 1 (K93_prlrllrr cal k m1) (K93_pxrlr cal k))
noncomputable def K93_prlrllrrll (cal : Cal) (k : Nat) (m1 : Nat) : KC (Value × Hp × Nat) := (cutK (Lv.a (Lv.a (Lv.b (Lv.b (Lv.a (Lv.a (Lv.b (Lv.a (Lv.b (A 93)))))))))).c (codeE P cal (codeF P cal m1) none 93 (cR (cL (cL (cR (cR (cL (cL (cR (cL (cR code93)))))))))) (Lv.b (Lv.a (Lv.a (Lv.b (Lv.b (Lv.a (Lv.a (Lv.b (Lv.a (Lv.b (A 93))))))))))) (K93_prlrllrr cal k m1) (K93_pxrlrllrrl cal k m1) (doneK P results93)))
noncomputable def K93_prlrllrrllr (cal : Cal) (k : Nat) (m1 : Nat) : KC (Value × Hp × Nat) := (cutK (Lv.b (Lv.a (Lv.a (Lv.b (Lv.b (Lv.a (Lv.a (Lv.b (Lv.a (Lv.b (A 93))))))))))).c (codeE P cal (codeF P cal m1) none 93 (cR (cR (cL (cL (cR (cR (cL (cL (cR (cL (cR code93))))))))))) (Lv.b (Lv.b (Lv.a (Lv.a (Lv.b (Lv.b (Lv.a (Lv.a (Lv.b (Lv.a (Lv.b (A 93)))))))))))) (K93_prlrllrr cal k m1) (K93_pxrlrllrrl cal k m1) (doneK P results93)))
noncomputable def K93_prlrllrrllrrl (cal : Cal) (k : Nat) (m1 : Nat) : KC (Value × Hp × Nat) := (cutK (Lv.a (Lv.b (Lv.b (Lv.a (Lv.a (Lv.b (Lv.b (Lv.a (Lv.a (Lv.b (Lv.a (Lv.b (A 93))))))))))))).c (codeE P cal (codeF P cal m1) none 93 (cR (cL (cR (cR (cL (cL (cR (cR (cL (cL (cR (cL (cR code93))))))))))))) (Lv.b (Lv.a (Lv.b (Lv.b (Lv.a (Lv.a (Lv.b (Lv.b (Lv.a (Lv.a (Lv.b (Lv.a (Lv.b (A 93)))))))))))))) (K93_prlrllrr cal k m1) (K93_pxrlrllrrl cal k m1) (doneK P results93)))
noncomputable def K93_prr (cal : Cal) (k : Nat) : KC (Value × Hp × Nat) := (cutK (Lv.b (Lv.b (A 93))).c (codeE P cal (codeF P cal k) none 93 (cR (cR (cR code93))) (Lv.b (Lv.b (Lv.b (A 93)))) (doneK P results93) X0 (doneK P results93)))
noncomputable def E93_1 (cal : Cal) (k m1 : Nat) : KC (Value × Hp × Nat) := codeE P cal (codeF P cal m1) none 93 (cL (cL (cR (cL (cR code93))))) (Lv.a (Lv.a (Lv.b (Lv.a (Lv.b (A 93)))))) (K93_prlrl cal k m1) (K93_pxrlr cal k) (doneK P results93)
noncomputable def R93_1 (cal : Cal) (k m1 : Nat) : Value → Value → Value → Value → Hp → Nat → Res := fun u1 u7 u8 u9 H n => codeF P cal m1 (Lv.a (Lv.b (Lv.a (Lv.b (A 93))))) none 93 (cL (cR (cL (cR code93)))) (K93_pr cal k) (K93_pxrlr cal k) (doneK P results93) (Tr.set (Tr.set (Tr.set (Tr.set Tr.nil 9 (some u9)) 8 (some u8)) 7 (some u7)) 1 (some u1)) H n []
noncomputable def B93_1 (cal : Cal) (k m1 : Nat) (b1 : Value → Value → Value → Value → Hp → Nat → Res) (u1 u7 u8 u9 : Value) (H : Hp) (n : Nat) : Res :=
binK P Go.BinOp.lss 3 (Go.Operand.tmp 9) (Go.Operand.tmp 8) u9 u8 fun v10_5 =>
ifK v10_5 (
bindO (indexAddrV P 32 u7 u9) fun v11_6 =>
bindO (addrV v11_6) fun a_8 => bindO (loadV P H 88 a_8) fun v12_7 =>
allocK P 88 H n fun v6_9 H_10 n_11 =>
bindO (storeP P 88 v6_9 v12_7 H_10) fun H_13 =>
bindO (addrV v6_9) fun a_16 => bindO (loadV P H_13 88 a_16) fun v14_15 =>
callVK P cal u1 [v14_15] H_13 n_11 fun v15_17 H_18 n_19 =>
bindO (pureSem P v15_17 (Op.unary Go.UnOp.not v15_17)) fun v16_20 =>
ifK v16_20 (
some ((Go.Value.bool false), H_18, n_19)) (
binK P Go.BinOp.add 3 (Go.Operand.tmp 9) (Go.Operand.const (Go.Value.int Go.IntKind.i64 1)) u9 (Go.Value.int Go.IntKind.i64 1) fun v17_22 =>
b1 u1 u7 u8 v17_22 H_18 n_19)) (
some ((Go.Value.bool true), H, n))
noncomputable def C93_1 (cal : Cal) (k m1 : Nat) (b1 : Value → Value → Value → Value → Hp → Nat → Res) (u1 u7 u8 u9 : Value) (H : Hp) (n : Nat) : Res := B93_1 cal k m1 b1 u1 u7 u8 u9 H n
noncomputable def S93_1 (cal : Cal) (k : Nat) : Nat → Value → Value → Value → Value → Hp → Nat → Res := fun m => Nat.rec (motive := fun _ => Value → Value → Value → Value → Hp → Nat → Res) (C93_1 cal k 0 (fun _ _ _ _ _ _ => none)) (fun m ih => C93_1 cal k (m + 1) ih) m
theorem h93_1 (cal : Cal) (k m1 : Nat) (u1 u7 u8 u9 : Value) (H : Hp) (n : Nat) : labK (E93_1 cal k m1) (Tr.set (Tr.set (Tr.set (Tr.set Tr.nil 9 (some u9)) 8 (some u8)) 7 (some u7)) 1 (some u1)) H n [] = C93_1 cal k m1 (R93_1 cal k m1) u1 u7 u8 u9 H n := by
  have h : labK (E93_1 cal k m1) (Tr.set (Tr.set (Tr.set (Tr.set Tr.nil 9 (some u9)) 8 (some u8)) 7 (some u7)) 1 (some u1)) H n [] = B93_1 cal k m1 (R93_1 cal k m1) u1 u7 u8 u9 H n := by kernel_rfl
  rw [h, C93_1]
theorem q93_1 (cal : Cal) (k : Nat) : ∀ (m : Nat) (u1 u7 u8 u9 : Value) (H : Hp) (n : Nat), labK (E93_1 cal k m) (Tr.set (Tr.set (Tr.set (Tr.set Tr.nil 9 (some u9)) 8 (some u8)) 7 (some u7)) 1 (some u1)) H n [] = S93_1 cal k m u1 u7 u8 u9 H n
  | 0, u1, u7, u8, u9, H, n => by
    rw [h93_1]
    have e : R93_1 cal k 0 = fun _ _ _ _ _ _ => none := by funext u1 u7 u8 u9 H n; kernel_rfl
    rw [e]; rfl
  | m + 1, u1, u7, u8, u9, H, n => by
    rw [h93_1]
    have e : R93_1 cal k (m + 1) = S93_1 cal k m := by
      funext u1 u7 u8 u9 H n
      have e : R93_1 cal k (m + 1) u1 u7 u8 u9 H n = labK (E93_1 cal k m) (Tr.set (Tr.set (Tr.set (Tr.set Tr.nil 9 (some u9)) 8 (some u8)) 7 (some u7)) 1 (some u1)) H n [] := by kernel_rfl
      rw [e]; exact q93_1 ..
    rw [e]; rfl
noncomputable def B93_0 (cal : Cal) (k : Nat) (j1 : Value → Value → Value → Value → Hp → Nat → Res) (v0 v1 : Value) (H : Hp) (n : Nat) : Res :=
bindO (lenV P 32 v0) fun v8_3 =>
j1 v1 v0 v8_3 (Go.Value.int Go.IntKind.i64 0) H n
noncomputable def C93_0 (cal : Cal) (k : Nat) (v0 v1 : Value) (H : Hp) (n : Nat) : Res := B93_0 cal k (S93_1 cal k k) v0 v1 H n
theorem h93_0 (cal : Cal) (k : Nat) (v0 v1 : Value) (H : Hp) (n : Nat) : bodyE P cal A (k + 1) 93 [v0, v1] H n = C93_0 cal k v0 v1 H n := by
  have h : bodyE P cal A (k + 1) 93 [v0, v1] H n = B93_0 cal k (fun u1 u7 u8 u9 H n => labK (E93_1 cal k k) (Tr.set (Tr.set (Tr.set (Tr.set Tr.nil 9 (some u9)) 8 (some u8)) 7 (some u7)) 1 (some u1)) H n []) v0 v1 H n := by
    rw [body_eq (fn := Go.Proofs.Try.f93) (c := code93) (rs := results93) (by kernel_rfl) (by kernel_rfl) (by kernel_rfl) (by kernel_rfl)]
    kernel_rfl
  rw [h, C93_0]
  have e1 : (fun u1 u7 u8 u9 H n => labK (E93_1 cal k k) (Tr.set (Tr.set (Tr.set (Tr.set Tr.nil 9 (some u9)) 8 (some u8)) 7 (some u7)) 1 (some u1)) H n []) = (S93_1 cal k k) := by funext u1 u7 u8 u9 H n; exact q93_1 ..
  rw [e1]
end Go.Proofs.Ythnfcjajgifedaa.W
