/- The texts of functions, each with the proof that the evaluator says the same. -/
import Derived.Test.YtakjjillnllocabP1
open Go Go.Ev
set_option maxRecDepth 1000000
set_option linter.unusedVariables false
noncomputable section
namespace Go.Proofs.Ytakjjillnllocab.P
noncomputable def code79 : Code := codeOf 79
noncomputable def results79 : List ResultVar := resOf 79
noncomputable def K79_p (cal : Cal) (k : Nat) : KC (Value × Hp × Nat) := (cutK (A 79).c (codeE P cal (codeF P cal k) none 79 (cR code79) (Lv.b (A 79)) (doneK P results79) X0 (doneK P results79)))
noncomputable def K79_pr (cal : Cal) (k : Nat) : KC (Value × Hp × Nat) := (cutK (Lv.b (A 79)).c (codeE P cal (codeF P cal k) none 79 (cR (cR code79)) (Lv.b (Lv.b (A 79))) (doneK P results79) X0 (doneK P results79)))
noncomputable def K79_prrl (cal : Cal) (k : Nat) : KC (Value × Hp × Nat) := (cutK (Lv.a (Lv.b (Lv.b (A 79)))).c (codeE P cal (codeF P cal k) none 79 (cR (cL (cR (cR code79)))) (Lv.b (Lv.a (Lv.b (Lv.b (A 79))))) (doneK P results79) X0 (doneK P results79)))
noncomputable def K79_prrlr (cal : Cal) (k : Nat) : KC (Value × Hp × Nat) := (cutK (Lv.b (Lv.a (Lv.b (Lv.b (A 79))))).c (codeE P cal (codeF P cal k) none 79 (cR (cR (cL (cR (cR code79))))) (Lv.b (Lv.b (Lv.a (Lv.b (Lv.b (A 79)))))) (doneK P results79) X0 (doneK P results79)))
noncomputable def K79_prrlrr (cal : Cal) (k : Nat) : KC (Value × Hp × Nat) := (cutK (Lv.b (Lv.b (Lv.a (Lv.b (Lv.b (A 79)))))).c (codeE P cal (codeF P cal k) none 79 (cR (cR (cR (cL (cR (cR code79)))))) (Lv.b (Lv.b (Lv.b (Lv.a (Lv.b (Lv.b (A 79))))))) (doneK P results79) X0 (doneK P results79)))
noncomputable def K79_pxrrlrrr (cal : Cal) (k : Nat) : XC (Value × Hp × Nat) := (upX 0 (doneK P results79) X0)
noncomputable def K79_prrlrrrl (cal : Cal) (k : Nat) (m1 : Nat) : KC (Value × Hp × Nat) := (fun T H n D => codeF P cal m1 (Lv.a (Lv.b (Lv.b (Lv.b (Lv.a (Lv.b (Lv.b (A 79)))))))) none 79 (cL (cR (cR (cR (cL (cR (cR code79))))))) (doneK P results79) (K79_pxrrlrrr cal k) (doneK P results79) (cutT (Lv.a (Lv.b (Lv.b (Lv.b (Lv.a (Lv.b (Lv.b (A 79)))))))).c T) H n D)
noncomputable def K79_prrlrrrll (cal : Cal) (k : Nat) (m1 : Nat) : KC (Value × Hp × Nat) := (cutK (Lv.a (Lv.a (Lv.b (Lv.b (Lv.b (Lv.a (Lv.b (Lv.b (A 79))))))))).c (codeE P cal (codeF P cal m1) none 79 (cR (cL (cL (cR (cR (cR (cL (cR (cR code79))))))))) (Lv.b (Lv.a (Lv.a (Lv.b (Lv.b (Lv.b (Lv.a (Lv.b (Lv.b (A 79)))))))))) (K79_prrlrrrl cal k m1) (K79_pxrrlrrr cal k) (doneK P results79)))
noncomputable def K79_prrlrrrlll (cal : Cal) (k : Nat) (m1 : Nat) : KC (Value × Hp × Nat) := (cutK (Lv.a (Lv.a (Lv.a (Lv.b (Lv.b (Lv.b (Lv.a (Lv.b (Lv.b (A 79)))))))))).c (codeE P cal (codeF P cal m1) none 79 (cR (cL (cL (cL (cR (cR (cR (cL (cR (cR code79)))))))))) (Lv.b (Lv.a (Lv.a (Lv.a (Lv.b (Lv.b (Lv.b (Lv.a (Lv.b (Lv.b (A 79))))))))))) (K79_prrlrrrll cal k m1) (K79_pxrrlrrr cal k) (doneK P results79)))
noncomputable def K79_prrlrrrllr (cal : Cal) (k : Nat) (m1 : Nat) : KC (Value × Hp × Nat) := (cutK (Lv.b (Lv.a (Lv.a (Lv.b (Lv.b (Lv.b (Lv.a (Lv.b (Lv.b (A 79)))))))))).c (codeE P cal (codeF P cal m1) none 79 (cR (cR (cL (cL (cR (cR (cR (cL (cR (cR code79)))))))))) (Lv.b (Lv.b (Lv.a (Lv.a (Lv.b (Lv.b (Lv.b (Lv.a (Lv.b (Lv.b (A 79))))))))))) (K79_prrlrrrl cal k m1) (K79_pxrrlrrr cal k) (doneK P results79)))
noncomputable def K79_pxrrlrrrllrl (cal : Cal) (k : Nat) (m1 : Nat) : XC (Value × Hp × Nat) := (upX 1 (K79_prrlrrrllr cal k m1) (K79_pxrrlrrr cal k))
noncomputable def K79_prrlrrrllrll (cal : Cal) (k : Nat) (m1 : Nat) : KC (Value × Hp × Nat) := (cutK (Lv.a (Lv.a (Lv.b (Lv.a (Lv.a (Lv.b (Lv.b (Lv.b (Lv.a (Lv.b (Lv.b (A 79)))))))))))).c (codeE P cal (codeF P cal m1) none 79 (cR (cL (cL (cR (cL (cL (cR (cR (cR (cL (cR (cR code79)))))))))))) (Lv.b (Lv.a (Lv.a (Lv.b (Lv.a (Lv.a (Lv.b (Lv.b (Lv.b (Lv.a (Lv.b (Lv.b (A 79))))))))))))) (K79_prrlrrrllr cal k m1) (K79_pxrrlrrrllrl cal k m1) (doneK P results79)))
noncomputable def K79_prrlrrrllrllr (cal : Cal) (k : Nat) (m1 : Nat) : KC (Value × Hp × Nat) := (cutK (Lv.b (Lv.a (Lv.a (Lv.b (Lv.a (Lv.a (Lv.b (Lv.b (Lv.b (Lv.a (Lv.b (Lv.b (A 79))))))))))))).c (codeE P cal (codeF P cal m1) none 79 (cR (cR (cL (cL (cR (cL (cL (cR (cR (cR (cL (cR (cR code79))))))))))))) (Lv.b (Lv.b (Lv.a (Lv.a (Lv.b (Lv.a (Lv.a (Lv.b (Lv.b (Lv.b (Lv.a (Lv.b (Lv.b (A 79)))))))))))))) (K79_prrlrrrllr cal k m1) (K79_pxrrlrrrllrl cal k m1) (doneK P results79)))
noncomputable def K79_prrlrrrllrllrl (cal : Cal) (k : Nat) (m1 : Nat) : KC (Value × Hp × Nat) := (cutK (Lv.a (Lv.b (Lv.a (Lv.a (Lv.b (Lv.a (Lv.a (Lv.b (Lv.b (Lv.b (Lv.a (Lv.b (Lv.b (A 79)))))))))))))).c (codeE P cal (codeF P cal m1) none 79 (cR (cL (cR (cL (cL (cR (cL (cL (cR (cR (cR (cL (cR (cR code79)))))))))))))) (Lv.b (Lv.a (Lv.b (Lv.a (Lv.a (Lv.b (Lv.a (Lv.a (Lv.b (Lv.b (Lv.b (Lv.a (Lv.b (Lv.b (A 79))))))))))))))) (K79_prrlrrrllrllr cal k m1) (K79_pxrrlrrrllrl cal k m1) (doneK P results79)))
noncomputable def E79_2 (cal : Cal) (k m1 : Nat) : KC (Value × Hp × Nat) := codeE P cal (codeF P cal m1) none 79 (cR (cR (cL (cL (cR (cL (cL (cR (cR (cR (cL (cR (cR code79))))))))))))) (Lv.b (Lv.b (Lv.a (Lv.a (Lv.b (Lv.a (Lv.a (Lv.b (Lv.b (Lv.b (Lv.a (Lv.b (Lv.b (A 79)))))))))))))) (K79_prrlrrrllr cal k m1) (K79_pxrrlrrrllrl cal k m1) (doneK P results79)
noncomputable def E79_1 (cal : Cal) (k m1 : Nat) : KC (Value × Hp × Nat) := codeE P cal (codeF P cal m1) none 79 (cL (cL (cR (cR (cR (cL (cR (cR code79)))))))) (Lv.a (Lv.a (Lv.b (Lv.b (Lv.b (Lv.a (Lv.b (Lv.b (A 79))))))))) (K79_prrlrrrl cal k m1) (K79_pxrrlrrr cal k) (doneK P results79)
noncomputable def R79_1 (cal : Cal) (k m1 : Nat) : Value → Value → Value → Value → Value → Value → Hp → Nat → Res := fun u0 u1 u8 u9 u10 u11 H n => codeF P cal m1 (Lv.a (Lv.b (Lv.b (Lv.b (Lv.a (Lv.b (Lv.b (A 79)))))))) none 79 (cL (cR (cR (cR (cL (cR (cR code79))))))) (doneK P results79) (K79_pxrrlrrr cal k) (doneK P results79) (Tr.set (Tr.set (Tr.set (Tr.set (Tr.set (Tr.set Tr.nil 11 (some u11)) 10 (some u10)) 9 (some u9)) 8 (some u8)) 1 (some u1)) 0 (some u0)) H n []
noncomputable def B79_2 (cal : Cal) (k m1 : Nat) (b1 : Value → Value → Value → Value → Value → Value → Hp → Nat → Res) (u0 u1 u8 u9 u10 u11 u12 : Value) (H : Hp) (n : Nat) : Res :=
binK P Go.BinOp.add 3 (Go.Operand.tmp 52) (Go.Operand.tmp 53) u1 u12 fun v54_47 =>
binK P Go.BinOp.add 3 (Go.Operand.tmp 56) (Go.Operand.tmp 57) u1 u12 fun v58_51 =>
bindO (indexAddrV P 54 u0 v58_51) fun v59_52 =>
bindO (addrV v59_52) fun a_53 => bindO (loadV P H 50 a_53) fun v_54 =>
bindO (indexAddrV P 54 u0 u11) fun v63_57 =>
bindO (addrV v63_57) fun a_58 => bindO (loadV P H 50 a_58) fun v_59 =>
bindO (indexAddrV P 54 u0 u11) fun v65_60 =>
bindO (storeP P 50 v65_60 v_54 H) fun H_62 =>
bindO (indexAddrV P 54 u0 v54_47) fun v66_63 =>
bindO (storeP P 50 v66_63 v_59 H_62) fun H_65 =>
binK P Go.BinOp.add 3 (Go.Operand.tmp 36) (Go.Operand.const (Go.Value.int Go.IntKind.i64 1)) u11 (Go.Value.int Go.IntKind.i64 1) fun v37_67 =>
b1 u0 u1 u8 u9 u10 v37_67 H_65 n
noncomputable def C79_2 (cal : Cal) (k m1 : Nat) (b1 : Value → Value → Value → Value → Value → Value → Hp → Nat → Res) (u0 u1 u8 u9 u10 u11 u12 : Value) (H : Hp) (n : Nat) : Res := B79_2 cal k m1 b1 u0 u1 u8 u9 u10 u11 u12 H n
theorem h79_2 (cal : Cal) (k m1 : Nat) (u0 u1 u8 u9 u10 u11 u12 : Value) (H : Hp) (n : Nat) : labK (E79_2 cal k m1) (Tr.set (Tr.set (Tr.set (Tr.set (Tr.set (Tr.set (Tr.set Tr.nil 12 (some u12)) 11 (some u11)) 10 (some u10)) 9 (some u9)) 8 (some u8)) 1 (some u1)) 0 (some u0)) H n [] = C79_2 cal k m1 (R79_1 cal k m1) u0 u1 u8 u9 u10 u11 u12 H n := by
  have h : labK (E79_2 cal k m1) (Tr.set (Tr.set (Tr.set (Tr.set (Tr.set (Tr.set (Tr.set Tr.nil 12 (some u12)) 11 (some u11)) 10 (some u10)) 9 (some u9)) 8 (some u8)) 1 (some u1)) 0 (some u0)) H n [] = B79_2 cal k m1 (R79_1 cal k m1) u0 u1 u8 u9 u10 u11 u12 H n := by kernel_rfl
  rw [h, C79_2]
theorem q79_2 (cal : Cal) (k m1 : Nat) (u0 u1 u8 u9 u10 u11 u12 : Value) (H : Hp) (n : Nat) : labK (E79_2 cal k m1) (Tr.set (Tr.set (Tr.set (Tr.set (Tr.set (Tr.set (Tr.set Tr.nil 12 (some u12)) 11 (some u11)) 10 (some u10)) 9 (some u9)) 8 (some u8)) 1 (some u1)) 0 (some u0)) H n [] = C79_2 cal k m1 (R79_1 cal k m1) u0 u1 u8 u9 u10 u11 u12 H n := h79_2 ..
noncomputable def B79_1 (cal : Cal) (k m1 : Nat) (j2 : Value → Value → Value → Value → Value → Value → Value → Hp → Nat → Res) (b1 : Value → Value → Value → Value → Value → Value → Hp → Nat → Res) (u0 u1 u8 u9 u10 u11 : Value) (H : Hp) (n : Nat) : Res :=
binK P Go.BinOp.quo 3 (Go.Operand.tmp 30) (Go.Operand.const (Go.Value.int Go.IntKind.i64 4)) u8 (Go.Value.int Go.IntKind.i64 4) fun v31_29 =>
binK P Go.BinOp.mul 3 (Go.Operand.tmp 31) (Go.Operand.const (Go.Value.int Go.IntKind.i64 2)) v31_29 (Go.Value.int Go.IntKind.i64 2) fun v32_30 =>
binK P Go.BinOp.add 3 (Go.Operand.tmp 29) (Go.Operand.tmp 32) u1 v32_30 fun v33_31 =>
binK P Go.BinOp.add 3 (Go.Operand.tmp 33) (Go.Operand.const (Go.Value.int Go.IntKind.i64 1)) v33_31 (Go.Value.int Go.IntKind.i64 1) fun v34_32 =>
binK P Go.BinOp.leq 3 (Go.Operand.tmp 28) (Go.Operand.tmp 34) u11 v34_32 fun v35_33 =>
ifK v35_33 (
callFK P cal 92 [u9] H n fun v38_34 H_35 n_36 =>
binK P Go.BinOp.sub 49 (Go.Operand.tmp 39) (Go.Operand.const (Go.Value.int Go.IntKind.u64 1)) u10 (Go.Value.int Go.IntKind.u64 1) fun v40_38 =>
binK P Go.BinOp.and 49 (Go.Operand.tmp 38) (Go.Operand.tmp 40) v38_34 v40_38 fun v41_39 =>
bindO (pureSem P v41_39 (convert 49 3 v41_39)) fun v42_40 =>
binK P Go.BinOp.geq 3 (Go.Operand.tmp 43) (Go.Operand.tmp 44) v42_40 u8 fun v45_71 =>
ifK v45_71 (
binK P Go.BinOp.sub 3 (Go.Operand.tmp 46) (Go.Operand.tmp 47) v42_40 u8 fun v48_74 =>
j2 u0 u1 u8 u9 u10 u11 v48_74 H_35 n_36) (
j2 u0 u1 u8 u9 u10 u11 v42_40 H_35 n_36)) (
some ((Value.tuple ⟨[]⟩), H, n))
noncomputable def C79_1 (cal : Cal) (k m1 : Nat) (b1 : Value → Value → Value → Value → Value → Value → Hp → Nat → Res) (u0 u1 u8 u9 u10 u11 : Value) (H : Hp) (n : Nat) : Res := B79_1 cal k m1 (C79_2 cal k m1 b1) b1 u0 u1 u8 u9 u10 u11 H n
noncomputable def S79_1 (cal : Cal) (k : Nat) : Nat → Value → Value → Value → Value → Value → Value → Hp → Nat → Res := fun m => Nat.rec (motive := fun _ => Value → Value → Value → Value → Value → Value → Hp → Nat → Res) (C79_1 cal k 0 (fun _ _ _ _ _ _ _ _ => none)) (fun m ih => C79_1 cal k (m + 1) ih) m
theorem h79_1 (cal : Cal) (k m1 : Nat) (u0 u1 u8 u9 u10 u11 : Value) (H : Hp) (n : Nat) : labK (E79_1 cal k m1) (Tr.set (Tr.set (Tr.set (Tr.set (Tr.set (Tr.set Tr.nil 11 (some u11)) 10 (some u10)) 9 (some u9)) 8 (some u8)) 1 (some u1)) 0 (some u0)) H n [] = C79_1 cal k m1 (R79_1 cal k m1) u0 u1 u8 u9 u10 u11 H n := by
  have h : labK (E79_1 cal k m1) (Tr.set (Tr.set (Tr.set (Tr.set (Tr.set (Tr.set Tr.nil 11 (some u11)) 10 (some u10)) 9 (some u9)) 8 (some u8)) 1 (some u1)) 0 (some u0)) H n [] = B79_1 cal k m1 (fun u0 u1 u8 u9 u10 u11 u12 H n => labK (E79_2 cal k m1) (Tr.set (Tr.set (Tr.set (Tr.set (Tr.set (Tr.set (Tr.set Tr.nil 12 (some u12)) 11 (some u11)) 10 (some u10)) 9 (some u9)) 8 (some u8)) 1 (some u1)) 0 (some u0)) H n []) (R79_1 cal k m1) u0 u1 u8 u9 u10 u11 H n := by kernel_rfl
  rw [h, C79_1]
  have e2 : (fun u0 u1 u8 u9 u10 u11 u12 H n => labK (E79_2 cal k m1) (Tr.set (Tr.set (Tr.set (Tr.set (Tr.set (Tr.set (Tr.set Tr.nil 12 (some u12)) 11 (some u11)) 10 (some u10)) 9 (some u9)) 8 (some u8)) 1 (some u1)) 0 (some u0)) H n []) = (C79_2 cal k m1 (R79_1 cal k m1)) := by funext u0 u1 u8 u9 u10 u11 u12 H n; exact q79_2 ..
  rw [e2]
theorem q79_1 (cal : Cal) (k : Nat) : ∀ (m : Nat) (u0 u1 u8 u9 u10 u11 : Value) (H : Hp) (n : Nat), labK (E79_1 cal k m) (Tr.set (Tr.set (Tr.set (Tr.set (Tr.set (Tr.set Tr.nil 11 (some u11)) 10 (some u10)) 9 (some u9)) 8 (some u8)) 1 (some u1)) 0 (some u0)) H n [] = S79_1 cal k m u0 u1 u8 u9 u10 u11 H n
  | 0, u0, u1, u8, u9, u10, u11, H, n => by
    rw [h79_1]
    have e : R79_1 cal k 0 = fun _ _ _ _ _ _ _ _ => none := by funext u0 u1 u8 u9 u10 u11 H n; kernel_rfl
    rw [e]; rfl
  | m + 1, u0, u1, u8, u9, u10, u11, H, n => by
    rw [h79_1]
    have e : R79_1 cal k (m + 1) = S79_1 cal k m := by
      funext u0 u1 u8 u9 u10 u11 H n
      have e : R79_1 cal k (m + 1) u0 u1 u8 u9 u10 u11 H n = labK (E79_1 cal k m) (Tr.set (Tr.set (Tr.set (Tr.set (Tr.set (Tr.set Tr.nil 11 (some u11)) 10 (some u10)) 9 (some u9)) 8 (some u8)) 1 (some u1)) 0 (some u0)) H n [] := by kernel_rfl
      rw [e]; exact q79_1 ..
    rw [e]; rfl
noncomputable def B79_0 (cal : Cal) (k : Nat) (j1 : Value → Value → Value → Value → Value → Value → Hp → Nat → Res) (v0 v1 v2 v3 : Value) (H : Hp) (n : Nat) : Res :=
binK P Go.BinOp.sub 3 (Go.Operand.tmp 13) (Go.Operand.tmp 14) v2 v1 fun v15_3 =>
binK P Go.BinOp.geq 3 (Go.Operand.tmp 16) (Go.Operand.const (Go.Value.int Go.IntKind.i64 8)) v15_3 (Go.Value.int Go.IntKind.i64 8) fun v17_6 =>
ifK v17_6 (
bindO (pureSem P v15_3 (convert 3 140 v15_3)) fun v19_8 =>
allocK P 140 H n fun v9_9 H_10 n_11 =>
bindO (storeP P 140 v9_9 v19_8 H_10) fun H_13 =>
callFK P cal 91 [v15_3] H_13 n_11 fun v21_15 H_16 n_17 =>
binK P Go.BinOp.quo 3 (Go.Operand.tmp 23) (Go.Operand.const (Go.Value.int Go.IntKind.i64 4)) v15_3 (Go.Value.int Go.IntKind.i64 4) fun v24_21 =>
binK P Go.BinOp.mul 3 (Go.Operand.tmp 24) (Go.Operand.const (Go.Value.int Go.IntKind.i64 2)) v24_21 (Go.Value.int Go.IntKind.i64 2) fun v25_22 =>
binK P Go.BinOp.add 3 (Go.Operand.tmp 22) (Go.Operand.tmp 25) v1 v25_22 fun v26_23 =>
binK P Go.BinOp.sub 3 (Go.Operand.tmp 26) (Go.Operand.const (Go.Value.int Go.IntKind.i64 1)) v26_23 (Go.Value.int Go.IntKind.i64 1) fun v27_24 =>
j1 v0 v1 v15_3 v9_9 v21_15 v27_24 H_16 n_17) (
some ((Value.tuple ⟨[]⟩), H, n))
noncomputable def C79_0 (cal : Cal) (k : Nat) (v0 v1 v2 v3 : Value) (H : Hp) (n : Nat) : Res := B79_0 cal k (S79_1 cal k k) v0 v1 v2 v3 H n
theorem h79_0 (cal : Cal) (k : Nat) (v0 v1 v2 v3 : Value) (H : Hp) (n : Nat) : bodyE P cal A (k + 1) 79 [v0, v1, v2, v3] H n = C79_0 cal k v0 v1 v2 v3 H n := by
  have h : bodyE P cal A (k + 1) 79 [v0, v1, v2, v3] H n = B79_0 cal k (fun u0 u1 u8 u9 u10 u11 H n => labK (E79_1 cal k k) (Tr.set (Tr.set (Tr.set (Tr.set (Tr.set (Tr.set Tr.nil 11 (some u11)) 10 (some u10)) 9 (some u9)) 8 (some u8)) 1 (some u1)) 0 (some u0)) H n []) v0 v1 v2 v3 H n := by
    rw [body_eq (fn := Go.Proofs.Try.f79) (c := code79) (rs := results79) (by kernel_rfl) (by kernel_rfl) (by kernel_rfl) (by kernel_rfl)]
    kernel_rfl
  rw [h, C79_0]
  have e1 : (fun u0 u1 u8 u9 u10 u11 H n => labK (E79_1 cal k k) (Tr.set (Tr.set (Tr.set (Tr.set (Tr.set (Tr.set Tr.nil 11 (some u11)) 10 (some u10)) 9 (some u9)) 8 (some u8)) 1 (some u1)) 0 (some u0)) H n []) = (S79_1 cal k k) := by funext u0 u1 u8 u9 u10 u11 H n; exact q79_1 ..
  rw [e1]
noncomputable def code80 : Code := codeOf 80
noncomputable def results80 : List ResultVar := resOf 80
noncomputable def K80_p (cal : Cal) (k : Nat) : KC (Value × Hp × Nat) := (cutK (A 80).c (codeE P cal (codeF P cal k) none 80 (cR code80) (Lv.b (A 80)) (doneK P results80) X0 (doneK P results80)))
noncomputable def K80_pr (cal : Cal) (k : Nat) : KC (Value × Hp × Nat) := (cutK (Lv.b (A 80)).c (codeE P cal (codeF P cal k) none 80 (cR (cR code80)) (Lv.b (Lv.b (A 80))) (doneK P results80) X0 (doneK P results80)))
noncomputable def K80_prr (cal : Cal) (k : Nat) : KC (Value × Hp × Nat) := (cutK (Lv.b (Lv.b (A 80))).c (codeE P cal (codeF P cal k) none 80 (cR (cR (cR code80))) (Lv.b (Lv.b (Lv.b (A 80)))) (doneK P results80) X0 (doneK P results80)))
noncomputable def K80_prrr (cal : Cal) (k : Nat) : KC (Value × Hp × Nat) := (cutK (Lv.b (Lv.b (Lv.b (A 80)))).c (codeE P cal (codeF P cal k) none 80 (cR (cR (cR (cR code80)))) (Lv.b (Lv.b (Lv.b (Lv.b (A 80))))) (doneK P results80) X0 (doneK P results80)))
noncomputable def K80_prrrr (cal : Cal) (k : Nat) : KC (Value × Hp × Nat) := (cutK (Lv.b (Lv.b (Lv.b (Lv.b (A 80))))).c (codeE P cal (codeF P cal k) none 80 (cR (cR (cR (cR (cR code80))))) (Lv.b (Lv.b (Lv.b (Lv.b (Lv.b (A 80)))))) (doneK P results80) X0 (doneK P results80)))
noncomputable def K80_prrrrr (cal : Cal) (k : Nat) : KC (Value × Hp × Nat) := (cutK (Lv.b (Lv.b (Lv.b (Lv.b (Lv.b (A 80)))))).c (codeE P cal (codeF P cal k) none 80 (cR (cR (cR (cR (cR (cR code80)))))) (Lv.b (Lv.b (Lv.b (Lv.b (Lv.b (Lv.b (A 80))))))) (doneK P results80) X0 (doneK P results80)))
noncomputable def K80_prrrrrrr (cal : Cal) (k : Nat) : KC (Value × Hp × Nat) := (cutK (Lv.b (Lv.b (Lv.b (Lv.b (Lv.b (Lv.b (Lv.b (A 80)))))))).c (codeE P cal (codeF P cal k) none 80 (cR (cR (cR (cR (cR (cR (cR (cR code80)))))))) (Lv.b (Lv.b (Lv.b (Lv.b (Lv.b (Lv.b (Lv.b (Lv.b (A 80))))))))) (doneK P results80) X0 (doneK P results80)))
noncomputable def K80_pxrrrrrrrr (cal : Cal) (k : Nat) : XC (Value × Hp × Nat) := (upX 0 (doneK P results80) X0)
noncomputable def K80_prrrrrrrrl (cal : Cal) (k : Nat) : KC (Value × Hp × Nat) := (cutK (Lv.a (Lv.b (Lv.b (Lv.b (Lv.b (Lv.b (Lv.b (Lv.b (Lv.b (A 80)))))))))).c (codeE P cal (codeF P cal k) none 80 (cR (cL (cR (cR (cR (cR (cR (cR (cR (cR code80)))))))))) (Lv.b (Lv.a (Lv.b (Lv.b (Lv.b (Lv.b (Lv.b (Lv.b (Lv.b (Lv.b (A 80))))))))))) (doneK P results80) (K80_pxrrrrrrrr cal k) (doneK P results80)))
noncomputable def K80_prrrrrrrrlrl (cal : Cal) (k : Nat) : KC (Value × Hp × Nat) := (cutK (Lv.a (Lv.b (Lv.a (Lv.b (Lv.b (Lv.b (Lv.b (Lv.b (Lv.b (Lv.b (Lv.b (A 80)))))))))))).c (codeE P cal (codeF P cal k) none 80 (cR (cL (cR (cL (cR (cR (cR (cR (cR (cR (cR (cR code80)))))))))))) (Lv.b (Lv.a (Lv.b (Lv.a (Lv.b (Lv.b (Lv.b (Lv.b (Lv.b (Lv.b (Lv.b (Lv.b (A 80))))))))))))) (doneK P results80) (K80_pxrrrrrrrr cal k) (doneK P results80)))
noncomputable def K80_prrrrrrrrlrr (cal : Cal) (k : Nat) : KC (Value × Hp × Nat) := (cutK (Lv.b (Lv.b (Lv.a (Lv.b (Lv.b (Lv.b (Lv.b (Lv.b (Lv.b (Lv.b (Lv.b (A 80)))))))))))).c (codeE P cal (codeF P cal k) none 80 (cR (cR (cR (cL (cR (cR (cR (cR (cR (cR (cR (cR code80)))))))))))) (Lv.b (Lv.b (Lv.b (Lv.a (Lv.b (Lv.b (Lv.b (Lv.b (Lv.b (Lv.b (Lv.b (Lv.b (A 80))))))))))))) (doneK P results80) (K80_pxrrrrrrrr cal k) (doneK P results80)))
noncomputable def K80_prrrrrrrrlrrrl (cal : Cal) (k : Nat) : KC (Value × Hp × Nat) := (cutK (Lv.a (Lv.b (Lv.b (Lv.b (Lv.a (Lv.b (Lv.b (Lv.b (Lv.b (Lv.b (Lv.b (Lv.b (Lv.b (A 80)))))))))))))).c (codeE P cal (codeF P cal k) none 80 (cR (cL (cR (cR (cR (cL (cR (cR (cR (cR (cR (cR (cR (cR code80)))))))))))))) (Lv.b (Lv.a (Lv.b (Lv.b (Lv.b (Lv.a (Lv.b (Lv.b (Lv.b (Lv.b (Lv.b (Lv.b (Lv.b (Lv.b (A 80))))))))))))))) (doneK P results80) (K80_pxrrrrrrrr cal k) (doneK P results80)))
noncomputable def K80_prrrrrrrrlrrrr (cal : Cal) (k : Nat) : KC (Value × Hp × Nat) := (cutK (Lv.b (Lv.b (Lv.b (Lv.b (Lv.a (Lv.b (Lv.b (Lv.b (Lv.b (Lv.b (Lv.b (Lv.b (Lv.b (A 80)))))))))))))).c (codeE P cal (codeF P cal k) none 80 (cR (cR (cR (cR (cR (cL (cR (cR (cR (cR (cR (cR (cR (cR code80)))))))))))))) (Lv.b (Lv.b (Lv.b (Lv.b (Lv.b (Lv.a (Lv.b (Lv.b (Lv.b (Lv.b (Lv.b (Lv.b (Lv.b (Lv.b (A 80))))))))))))))) (doneK P results80) (K80_pxrrrrrrrr cal k) (doneK P results80)))
noncomputable def K80_prrrrrr (cal : Cal) (k : Nat) : KC (Value × Hp × Nat) := (cutK (Lv.b (Lv.b (Lv.b (Lv.b (Lv.b (Lv.b (A 80))))))).c (codeE P cal (codeF P cal k) none 80 (cR (cR (cR (cR (cR (cR (cR code80))))))) (Lv.b (Lv.b (Lv.b (Lv.b (Lv.b (Lv.b (Lv.b (A 80)))))))) (doneK P results80) X0 (doneK P results80)))
noncomputable def K80_prrrrrrl (cal : Cal) (k : Nat) : KC (Value × Hp × Nat) := (cutK (Lv.a (Lv.b (Lv.b (Lv.b (Lv.b (Lv.b (Lv.b (A 80)))))))).c (codeE P cal (codeF P cal k) none 80 (cR (cL (cR (cR (cR (cR (cR (cR code80)))))))) (Lv.b (Lv.a (Lv.b (Lv.b (Lv.b (Lv.b (Lv.b (Lv.b (A 80))))))))) (K80_prrrrrr cal k) X0 (doneK P results80)))
noncomputable def K80_prrrrrrlrl (cal : Cal) (k : Nat) : KC (Value × Hp × Nat) := (cutK (Lv.a (Lv.b (Lv.a (Lv.b (Lv.b (Lv.b (Lv.b (Lv.b (Lv.b (A 80)))))))))).c (codeE P cal (codeF P cal k) none 80 (cR (cL (cR (cL (cR (cR (cR (cR (cR (cR code80)))))))))) (Lv.b (Lv.a (Lv.b (Lv.a (Lv.b (Lv.b (Lv.b (Lv.b (Lv.b (Lv.b (A 80))))))))))) (K80_prrrrrr cal k) X0 (doneK P results80)))
noncomputable def K80_prrrrrrlrll (cal : Cal) (k : Nat) : KC (Value × Hp × Nat) := (cutK (Lv.a (Lv.a (Lv.b (Lv.a (Lv.b (Lv.b (Lv.b (Lv.b (Lv.b (Lv.b (A 80))))))))))).c (codeE P cal (codeF P cal k) none 80 (cR (cL (cL (cR (cL (cR (cR (cR (cR (cR (cR code80))))))))))) (Lv.b (Lv.a (Lv.a (Lv.b (Lv.a (Lv.b (Lv.b (Lv.b (Lv.b (Lv.b (Lv.b (A 80)))))))))))) (K80_prrrrrrlrl cal k) X0 (doneK P results80)))
noncomputable def K80_prrrrrrlrllrl (cal : Cal) (k : Nat) : KC (Value × Hp × Nat) := (cutK (Lv.a (Lv.b (Lv.a (Lv.a (Lv.b (Lv.a (Lv.b (Lv.b (Lv.b (Lv.b (Lv.b (Lv.b (A 80))))))))))))).c (codeE P cal (codeF P cal k) none 80 (cR (cL (cR (cL (cL (cR (cL (cR (cR (cR (cR (cR (cR code80))))))))))))) (Lv.b (Lv.a (Lv.b (Lv.a (Lv.a (Lv.b (Lv.a (Lv.b (Lv.b (Lv.b (Lv.b (Lv.b (Lv.b (A 80)))))))))))))) (K80_prrrrrrlrl cal k) X0 (doneK P results80)))
noncomputable def K80_prrrrrrlrllrlr (cal : Cal) (k : Nat) : KC (Value × Hp × Nat) := (cutK (Lv.b (Lv.a (Lv.b (Lv.a (Lv.a (Lv.b (Lv.a (Lv.b (Lv.b (Lv.b (Lv.b (Lv.b (Lv.b (A 80)))))))))))))).c (codeE P cal (codeF P cal k) none 80 (cR (cR (cL (cR (cL (cL (cR (cL (cR (cR (cR (cR (cR (cR code80)))))))))))))) (Lv.b (Lv.b (Lv.a (Lv.b (Lv.a (Lv.a (Lv.b (Lv.a (Lv.b (Lv.b (Lv.b (Lv.b (Lv.b (Lv.b (A 80))))))))))))))) (K80_prrrrrrlrl cal k) X0 (doneK P results80)))
noncomputable def E80_1 (cal : Cal) (k : Nat) : KC (Value × Hp × Nat) := codeE P cal (codeF P cal k) none 80 (cR (cR (cR (cR (cR (cR (cR code80))))))) (Lv.b (Lv.b (Lv.b (Lv.b (Lv.b (Lv.b (Lv.b (A 80)))))))) (doneK P results80) X0 (doneK P results80)
noncomputable def E80_2 (cal : Cal) (k : Nat) : KC (Value × Hp × Nat) := codeE P cal (codeF P cal k) none 80 (cR (cL (cR (cL (cR (cR (cR (cR (cR (cR code80)))))))))) (Lv.b (Lv.a (Lv.b (Lv.a (Lv.b (Lv.b (Lv.b (Lv.b (Lv.b (Lv.b (A 80))))))))))) (K80_prrrrrr cal k) X0 (doneK P results80)
noncomputable def B80_1 (cal : Cal) (k : Nat) (u11 u13 : Value) (H : Hp) (n : Nat) : Res :=
bindO (addrV u11) fun a_29 => bindO (loadV P H 3 a_29) fun v55_28 =>
binK P Go.BinOp.eql 3 (Go.Operand.tmp 55) (Go.Operand.const (Go.Value.int Go.IntKind.i64 0)) v55_28 (Go.Value.int Go.IntKind.i64 0) fun v58_30 =>
ifK v58_30 (
some ((Value.tuple ⟨[u13, (Go.Value.int Go.IntKind.i64 1)]⟩), H, n)) (
binK P Go.BinOp.eql 3 (Go.Operand.tmp 55) (Go.Operand.const (Go.Value.int Go.IntKind.i64 12)) v55_28 (Go.Value.int Go.IntKind.i64 12) fun v61_35 =>
ifK v61_35 (
some ((Value.tuple ⟨[u13, (Go.Value.int Go.IntKind.i64 2)]⟩), H, n)) (
some ((Value.tuple ⟨[u13, (Go.Value.int Go.IntKind.i64 0)]⟩), H, n)))
noncomputable def C80_1 (cal : Cal) (k : Nat) (u11 u13 : Value) (H : Hp) (n : Nat) : Res := B80_1 cal k u11 u13 H n
theorem h80_1 (cal : Cal) (k : Nat) (u11 u13 : Value) (H : Hp) (n : Nat) : labK (E80_1 cal k) (Tr.set (Tr.set Tr.nil 13 (some u13)) 11 (some u11)) H n [] = C80_1 cal k u11 u13 H n := by
  have h : labK (E80_1 cal k) (Tr.set (Tr.set Tr.nil 13 (some u13)) 11 (some u11)) H n [] = B80_1 cal k u11 u13 H n := by kernel_rfl
  rw [h, C80_1]
theorem q80_1 (cal : Cal) (k : Nat) (u11 u13 : Value) (H : Hp) (n : Nat) : labK (E80_1 cal k) (Tr.set (Tr.set Tr.nil 13 (some u13)) 11 (some u11)) H n [] = C80_1 cal k u11 u13 H n := h80_1 ..
noncomputable def B80_2 (cal : Cal) (k : Nat) (j1 : Value → Value → Hp → Nat → Res) (u0 u3 u11 u12 u13 u14 : Value) (H : Hp) (n : Nat) : Res :=
callFK P cal 94 [u0, u12, u13, u14, u11, u3] H n fun v54_50 H_51 n_52 =>
j1 u11 v54_50 H_51 n_52
noncomputable def C80_2 (cal : Cal) (k : Nat) (u0 u3 u11 u12 u13 u14 : Value) (H : Hp) (n : Nat) : Res := B80_2 cal k (C80_1 cal k) u0 u3 u11 u12 u13 u14 H n
theorem h80_2 (cal : Cal) (k : Nat) (u0 u3 u11 u12 u13 u14 : Value) (H : Hp) (n : Nat) : labK (E80_2 cal k) (Tr.set (Tr.set (Tr.set (Tr.set (Tr.set (Tr.set Tr.nil 14 (some u14)) 13 (some u13)) 12 (some u12)) 11 (some u11)) 3 (some u3)) 0 (some u0)) H n [] = C80_2 cal k u0 u3 u11 u12 u13 u14 H n := by
  have h : labK (E80_2 cal k) (Tr.set (Tr.set (Tr.set (Tr.set (Tr.set (Tr.set Tr.nil 14 (some u14)) 13 (some u13)) 12 (some u12)) 11 (some u11)) 3 (some u3)) 0 (some u0)) H n [] = B80_2 cal k (fun u11 u13 H n => labK (E80_1 cal k) (Tr.set (Tr.set Tr.nil 13 (some u13)) 11 (some u11)) H n []) u0 u3 u11 u12 u13 u14 H n := by kernel_rfl
  rw [h, C80_2]
  have e1 : (fun u11 u13 H n => labK (E80_1 cal k) (Tr.set (Tr.set Tr.nil 13 (some u13)) 11 (some u11)) H n []) = (C80_1 cal k) := by funext u11 u13 H n; exact q80_1 ..
  rw [e1]
theorem q80_2 (cal : Cal) (k : Nat) (u0 u3 u11 u12 u13 u14 : Value) (H : Hp) (n : Nat) : labK (E80_2 cal k) (Tr.set (Tr.set (Tr.set (Tr.set (Tr.set (Tr.set Tr.nil 14 (some u14)) 13 (some u13)) 12 (some u12)) 11 (some u11)) 3 (some u3)) 0 (some u0)) H n [] = C80_2 cal k u0 u3 u11 u12 u13 u14 H n := h80_2 ..
noncomputable def B80_0 (cal : Cal) (k : Nat) (j2 : Value → Value → Value → Value → Value → Value → Hp → Nat → Res) (j1 : Value → Value → Hp → Nat → Res) (v0 v1 v2 v3 : Value) (H : Hp) (n : Nat) : Res :=
binK P Go.BinOp.sub 3 (Go.Operand.tmp 15) (Go.Operand.tmp 16) v2 v1 fun v17_5 =>
allocK P 3 H n fun v11_7 H_8 n_9 =>
binK P Go.BinOp.quo 3 (Go.Operand.tmp 19) (Go.Operand.const (Go.Value.int Go.IntKind.i64 4)) v17_5 (Go.Value.int Go.IntKind.i64 4) fun v20_12 =>
binK P Go.BinOp.mul 3 (Go.Operand.tmp 20) (Go.Operand.const (Go.Value.int Go.IntKind.i64 1)) v20_12 (Go.Value.int Go.IntKind.i64 1) fun v21_13 =>
binK P Go.BinOp.add 3 (Go.Operand.tmp 18) (Go.Operand.tmp 21) v1 v21_13 fun v22_14 =>
binK P Go.BinOp.quo 3 (Go.Operand.tmp 24) (Go.Operand.const (Go.Value.int Go.IntKind.i64 4)) v17_5 (Go.Value.int Go.IntKind.i64 4) fun v25_18 =>
binK P Go.BinOp.mul 3 (Go.Operand.tmp 25) (Go.Operand.const (Go.Value.int Go.IntKind.i64 2)) v25_18 (Go.Value.int Go.IntKind.i64 2) fun v26_19 =>
binK P Go.BinOp.add 3 (Go.Operand.tmp 23) (Go.Operand.tmp 26) v1 v26_19 fun v27_20 =>
binK P Go.BinOp.quo 3 (Go.Operand.tmp 29) (Go.Operand.const (Go.Value.int Go.IntKind.i64 4)) v17_5 (Go.Value.int Go.IntKind.i64 4) fun v30_24 =>
binK P Go.BinOp.mul 3 (Go.Operand.tmp 30) (Go.Operand.const (Go.Value.int Go.IntKind.i64 3)) v30_24 (Go.Value.int Go.IntKind.i64 3) fun v31_25 =>
binK P Go.BinOp.add 3 (Go.Operand.tmp 28) (Go.Operand.tmp 31) v1 v31_25 fun v32_26 =>
binK P Go.BinOp.geq 3 (Go.Operand.tmp 33) (Go.Operand.const (Go.Value.int Go.IntKind.i64 8)) v17_5 (Go.Value.int Go.IntKind.i64 8) fun v34_44 =>
ifK v34_44 (
binK P Go.BinOp.geq 3 (Go.Operand.tmp 35) (Go.Operand.const (Go.Value.int Go.IntKind.i64 50)) v17_5 (Go.Value.int Go.IntKind.i64 50) fun v36_55 =>
ifK v36_55 (
callFK P cal 93 [v0, v22_14, v11_7, v3] H_8 n_9 fun v40_59 H_60 n_61 =>
callFK P cal 93 [v0, v27_20, v11_7, v3] H_60 n_61 fun v44_66 H_67 n_68 =>
callFK P cal 93 [v0, v32_26, v11_7, v3] H_67 n_68 fun v48_73 H_74 n_75 =>
j2 v0 v3 v11_7 v40_59 v44_66 v48_73 H_74 n_75) (
j2 v0 v3 v11_7 v22_14 v27_20 v32_26 H_8 n_9)) (
j1 v11_7 v27_20 H_8 n_9)
noncomputable def C80_0 (cal : Cal) (k : Nat) (v0 v1 v2 v3 : Value) (H : Hp) (n : Nat) : Res := B80_0 cal k (C80_2 cal k) (C80_1 cal k) v0 v1 v2 v3 H n
theorem h80_0 (cal : Cal) (k : Nat) (v0 v1 v2 v3 : Value) (H : Hp) (n : Nat) : bodyE P cal A (k + 1) 80 [v0, v1, v2, v3] H n = C80_0 cal k v0 v1 v2 v3 H n := by
  have h : bodyE P cal A (k + 1) 80 [v0, v1, v2, v3] H n = B80_0 cal k (fun u0 u3 u11 u12 u13 u14 H n => labK (E80_2 cal k) (Tr.set (Tr.set (Tr.set (Tr.set (Tr.set (Tr.set Tr.nil 14 (some u14)) 13 (some u13)) 12 (some u12)) 11 (some u11)) 3 (some u3)) 0 (some u0)) H n []) (fun u11 u13 H n => labK (E80_1 cal k) (Tr.set (Tr.set Tr.nil 13 (some u13)) 11 (some u11)) H n []) v0 v1 v2 v3 H n := by
    rw [body_eq (fn := Go.Proofs.Try.f80) (c := code80) (rs := results80) (by kernel_rfl) (by kernel_rfl) (by kernel_rfl) (by kernel_rfl)]
    kernel_rfl
  rw [h, C80_0]
  have e2 : (fun u0 u3 u11 u12 u13 u14 H n => labK (E80_2 cal k) (Tr.set (Tr.set (Tr.set (Tr.set (Tr.set (Tr.set Tr.nil 14 (some u14)) 13 (some u13)) 12 (some u12)) 11 (some u11)) 3 (some u3)) 0 (some u0)) H n []) = (C80_2 cal k) := by funext u0 u3 u11 u12 u13 u14 H n; exact q80_2 ..
  rw [e2]
  have e1 : (fun u11 u13 H n => labK (E80_1 cal k) (Tr.set (Tr.set Tr.nil 13 (some u13)) 11 (some u11)) H n []) = (C80_1 cal k) := by funext u11 u13 H n; exact q80_1 ..
  rw [e1]
noncomputable def code81 : Code := codeOf 81
noncomputable def results81 : List ResultVar := resOf 81
noncomputable def K81_p (cal : Cal) (k : Nat) : KC (Value × Hp × Nat) := (cutK (A 81).c (codeE P cal (codeF P cal k) none 81 (cR code81) (Lv.b (A 81)) (doneK P results81) X0 (doneK P results81)))
noncomputable def K81_pr (cal : Cal) (k : Nat) : KC (Value × Hp × Nat) := (cutK (Lv.b (A 81)).c (codeE P cal (codeF P cal k) none 81 (cR (cR code81)) (Lv.b (Lv.b (A 81))) (doneK P results81) X0 (doneK P results81)))
noncomputable def K81_pxrr (cal : Cal) (k : Nat) : XC (Value × Hp × Nat) := (upX 0 (doneK P results81) X0)
noncomputable def K81_prrl (cal : Cal) (k : Nat) (m1 : Nat) : KC (Value × Hp × Nat) := (fun T H n D => codeF P cal m1 (Lv.a (Lv.b (Lv.b (A 81)))) none 81 (cL (cR (cR code81))) (doneK P results81) (K81_pxrr cal k) (doneK P results81) (cutT (Lv.a (Lv.b (Lv.b (A 81)))).c T) H n D)
noncomputable def K81_prrll (cal : Cal) (k : Nat) (m1 : Nat) : KC (Value × Hp × Nat) := (cutK (Lv.a (Lv.a (Lv.b (Lv.b (A 81))))).c (codeE P cal (codeF P cal m1) none 81 (cR (cL (cL (cR (cR code81))))) (Lv.b (Lv.a (Lv.a (Lv.b (Lv.b (A 81)))))) (K81_prrl cal k m1) (K81_pxrr cal k) (doneK P results81)))
noncomputable def K81_prrlll (cal : Cal) (k : Nat) (m1 : Nat) : KC (Value × Hp × Nat) := (cutK (Lv.a (Lv.a (Lv.a (Lv.b (Lv.b (A 81)))))).c (codeE P cal (codeF P cal m1) none 81 (cR (cL (cL (cL (cR (cR code81)))))) (Lv.b (Lv.a (Lv.a (Lv.a (Lv.b (Lv.b (A 81))))))) (K81_prrll cal k m1) (K81_pxrr cal k) (doneK P results81)))
noncomputable def K81_pxrrllr (cal : Cal) (k : Nat) (m1 : Nat) : XC (Value × Hp × Nat) := (upX 1 (K81_prrl cal k m1) (K81_pxrr cal k))
noncomputable def K81_prrllrl (cal : Cal) (k : Nat) (m1 : Nat) : KC (Value × Hp × Nat) := (cutK (Lv.a (Lv.b (Lv.a (Lv.a (Lv.b (Lv.b (A 81))))))).c (codeE P cal (codeF P cal m1) none 81 (cR (cL (cR (cL (cL (cR (cR code81))))))) (Lv.b (Lv.a (Lv.b (Lv.a (Lv.a (Lv.b (Lv.b (A 81)))))))) (K81_prrl cal k m1) (K81_pxrrllr cal k m1) (doneK P results81)))
noncomputable def K81_prrllrlr (cal : Cal) (k : Nat) (m1 : Nat) : KC (Value × Hp × Nat) := (cutK (Lv.b (Lv.a (Lv.b (Lv.a (Lv.a (Lv.b (Lv.b (A 81)))))))).c (codeE P cal (codeF P cal m1) none 81 (cR (cR (cL (cR (cL (cL (cR (cR code81)))))))) (Lv.b (Lv.b (Lv.a (Lv.b (Lv.a (Lv.a (Lv.b (Lv.b (A 81))))))))) (K81_prrl cal k m1) (K81_pxrrllr cal k m1) (doneK P results81)))
noncomputable def E81_1 (cal : Cal) (k m1 : Nat) : KC (Value × Hp × Nat) := codeE P cal (codeF P cal m1) none 81 (cL (cL (cR (cR code81)))) (Lv.a (Lv.a (Lv.b (Lv.b (A 81))))) (K81_prrl cal k m1) (K81_pxrr cal k) (doneK P results81)
noncomputable def R81_1 (cal : Cal) (k m1 : Nat) : Value → Value → Value → Hp → Nat → Res := fun u0 u8 u9 H n => codeF P cal m1 (Lv.a (Lv.b (Lv.b (A 81)))) none 81 (cL (cR (cR code81))) (doneK P results81) (K81_pxrr cal k) (doneK P results81) (Tr.set (Tr.set (Tr.set Tr.nil 9 (some u9)) 8 (some u8)) 0 (some u0)) H n []
noncomputable def B81_1 (cal : Cal) (k m1 : Nat) (b1 : Value → Value → Value → Hp → Nat → Res) (u0 u8 u9 : Value) (H : Hp) (n : Nat) : Res :=
binK P Go.BinOp.lss 3 (Go.Operand.tmp 13) (Go.Operand.tmp 14) u8 u9 fun v15_8 =>
ifK v15_8 (
bindO (indexAddrV P 54 u0 u9) fun v22_15 =>
bindO (addrV v22_15) fun a_16 => bindO (loadV P H 50 a_16) fun v_17 =>
bindO (indexAddrV P 54 u0 u8) fun v26_20 =>
bindO (addrV v26_20) fun a_21 => bindO (loadV P H 50 a_21) fun v_22 =>
bindO (indexAddrV P 54 u0 u8) fun v28_23 =>
bindO (storeP P 50 v28_23 v_17 H) fun H_25 =>
bindO (indexAddrV P 54 u0 u9) fun v29_26 =>
bindO (storeP P 50 v29_26 v_22 H_25) fun H_28 =>
binK P Go.BinOp.add 3 (Go.Operand.tmp 30) (Go.Operand.const (Go.Value.int Go.IntKind.i64 1)) u8 (Go.Value.int Go.IntKind.i64 1) fun v31_30 =>
binK P Go.BinOp.sub 3 (Go.Operand.tmp 32) (Go.Operand.const (Go.Value.int Go.IntKind.i64 1)) u9 (Go.Value.int Go.IntKind.i64 1) fun v33_33 =>
b1 u0 v31_30 v33_33 H_28 n) (
some ((Value.tuple ⟨[]⟩), H, n))
noncomputable def C81_1 (cal : Cal) (k m1 : Nat) (b1 : Value → Value → Value → Hp → Nat → Res) (u0 u8 u9 : Value) (H : Hp) (n : Nat) : Res := B81_1 cal k m1 b1 u0 u8 u9 H n
noncomputable def S81_1 (cal : Cal) (k : Nat) : Nat → Value → Value → Value → Hp → Nat → Res := fun m => Nat.rec (motive := fun _ => Value → Value → Value → Hp → Nat → Res) (C81_1 cal k 0 (fun _ _ _ _ _ => none)) (fun m ih => C81_1 cal k (m + 1) ih) m
theorem h81_1 (cal : Cal) (k m1 : Nat) (u0 u8 u9 : Value) (H : Hp) (n : Nat) : labK (E81_1 cal k m1) (Tr.set (Tr.set (Tr.set Tr.nil 9 (some u9)) 8 (some u8)) 0 (some u0)) H n [] = C81_1 cal k m1 (R81_1 cal k m1) u0 u8 u9 H n := by
  have h : labK (E81_1 cal k m1) (Tr.set (Tr.set (Tr.set Tr.nil 9 (some u9)) 8 (some u8)) 0 (some u0)) H n [] = B81_1 cal k m1 (R81_1 cal k m1) u0 u8 u9 H n := by kernel_rfl
  rw [h, C81_1]
theorem q81_1 (cal : Cal) (k : Nat) : ∀ (m : Nat) (u0 u8 u9 : Value) (H : Hp) (n : Nat), labK (E81_1 cal k m) (Tr.set (Tr.set (Tr.set Tr.nil 9 (some u9)) 8 (some u8)) 0 (some u0)) H n [] = S81_1 cal k m u0 u8 u9 H n
  | 0, u0, u8, u9, H, n => by
    rw [h81_1]
    have e : R81_1 cal k 0 = fun _ _ _ _ _ => none := by funext u0 u8 u9 H n; kernel_rfl
    rw [e]; rfl
  | m + 1, u0, u8, u9, H, n => by
    rw [h81_1]
    have e : R81_1 cal k (m + 1) = S81_1 cal k m := by
      funext u0 u8 u9 H n
      have e : R81_1 cal k (m + 1) u0 u8 u9 H n = labK (E81_1 cal k m) (Tr.set (Tr.set (Tr.set Tr.nil 9 (some u9)) 8 (some u8)) 0 (some u0)) H n [] := by kernel_rfl
      rw [e]; exact q81_1 ..
    rw [e]; rfl
noncomputable def B81_0 (cal : Cal) (k : Nat) (j1 : Value → Value → Value → Hp → Nat → Res) (v0 v1 v2 v3 : Value) (H : Hp) (n : Nat) : Res :=
binK P Go.BinOp.sub 3 (Go.Operand.tmp 11) (Go.Operand.const (Go.Value.int Go.IntKind.i64 1)) v2 (Go.Value.int Go.IntKind.i64 1) fun v12_4 =>
j1 v0 v1 v12_4 H n
noncomputable def C81_0 (cal : Cal) (k : Nat) (v0 v1 v2 v3 : Value) (H : Hp) (n : Nat) : Res := B81_0 cal k (S81_1 cal k k) v0 v1 v2 v3 H n
theorem h81_0 (cal : Cal) (k : Nat) (v0 v1 v2 v3 : Value) (H : Hp) (n : Nat) : bodyE P cal A (k + 1) 81 [v0, v1, v2, v3] H n = C81_0 cal k v0 v1 v2 v3 H n := by
  have h : bodyE P cal A (k + 1) 81 [v0, v1, v2, v3] H n = B81_0 cal k (fun u0 u8 u9 H n => labK (E81_1 cal k k) (Tr.set (Tr.set (Tr.set Tr.nil 9 (some u9)) 8 (some u8)) 0 (some u0)) H n []) v0 v1 v2 v3 H n := by
    rw [body_eq (fn := Go.Proofs.Try.f81) (c := code81) (rs := results81) (by kernel_rfl) (by kernel_rfl) (by kernel_rfl) (by kernel_rfl)]
    kernel_rfl
  rw [h, C81_0]
  have e1 : (fun u0 u8 u9 H n => labK (E81_1 cal k k) (Tr.set (Tr.set (Tr.set Tr.nil 9 (some u9)) 8 (some u8)) 0 (some u0)) H n []) = (S81_1 cal k k) := by funext u0 u8 u9 H n; exact q81_1 ..
  rw [e1]
noncomputable def code82 : Code := codeOf 82
noncomputable def results82 : List ResultVar := resOf 82
noncomputable def K82_p (cal : Cal) (k : Nat) : KC (Value × Hp × Nat) := (cutK (A 82).c (codeE P cal (codeF P cal k) none 82 (cR code82) (Lv.b (A 82)) (doneK P results82) X0 (doneK P results82)))
noncomputable def K82_pr (cal : Cal) (k : Nat) : KC (Value × Hp × Nat) := (cutK (Lv.b (A 82)).c (codeE P cal (codeF P cal k) none 82 (cR (cR code82)) (Lv.b (Lv.b (A 82))) (doneK P results82) X0 (doneK P results82)))
noncomputable def K82_prr (cal : Cal) (k : Nat) : KC (Value × Hp × Nat) := (cutK (Lv.b (Lv.b (A 82))).c (codeE P cal (codeF P cal k) none 82 (cR (cR (cR code82))) (Lv.b (Lv.b (Lv.b (A 82)))) (doneK P results82) X0 (doneK P results82)))
noncomputable def K82_prrl (cal : Cal) (k : Nat) : KC (Value × Hp × Nat) := (cutK (Lv.a (Lv.b (Lv.b (A 82)))).c (codeE P cal (codeF P cal k) none 82 (cR (cL (cR (cR code82)))) (Lv.b (Lv.a (Lv.b (Lv.b (A 82))))) (K82_prr cal k) X0 (doneK P results82)))
noncomputable def K82_pxrrlr (cal : Cal) (k : Nat) : XC (Value × Hp × Nat) := (upX 0 (K82_prr cal k) X0)
noncomputable def K82_prrlrl (cal : Cal) (k : Nat) (m1 : Nat) : KC (Value × Hp × Nat) := (fun T H n D => codeF P cal m1 (Lv.a (Lv.b (Lv.a (Lv.b (Lv.b (A 82)))))) none 82 (cL (cR (cL (cR (cR code82))))) (K82_prr cal k) (K82_pxrrlr cal k) (doneK P results82) (cutT (Lv.a (Lv.b (Lv.a (Lv.b (Lv.b (A 82)))))).c T) H n D)
noncomputable def K82_prrlrll (cal : Cal) (k : Nat) (m1 : Nat) : KC (Value × Hp × Nat) := (cutK (Lv.a (Lv.a (Lv.b (Lv.a (Lv.b (Lv.b (A 82))))))).c (codeE P cal (codeF P cal m1) none 82 (cR (cL (cL (cR (cL (cR (cR code82))))))) (Lv.b (Lv.a (Lv.a (Lv.b (Lv.a (Lv.b (Lv.b (A 82)))))))) (K82_prrlrl cal k m1) (K82_pxrrlr cal k) (doneK P results82)))
noncomputable def K82_prrlrlll (cal : Cal) (k : Nat) (m1 : Nat) : KC (Value × Hp × Nat) := (cutK (Lv.a (Lv.a (Lv.a (Lv.b (Lv.a (Lv.b (Lv.b (A 82)))))))).c (codeE P cal (codeF P cal m1) none 82 (cR (cL (cL (cL (cR (cL (cR (cR code82)))))))) (Lv.b (Lv.a (Lv.a (Lv.a (Lv.b (Lv.a (Lv.b (Lv.b (A 82))))))))) (K82_prrlrll cal k m1) (K82_pxrrlr cal k) (doneK P results82)))
noncomputable def K82_prrlrllr (cal : Cal) (k : Nat) (m1 : Nat) : KC (Value × Hp × Nat) := (cutK (Lv.b (Lv.a (Lv.a (Lv.b (Lv.a (Lv.b (Lv.b (A 82)))))))).c (codeE P cal (codeF P cal m1) none 82 (cR (cR (cL (cL (cR (cL (cR (cR code82)))))))) (Lv.b (Lv.b (Lv.a (Lv.a (Lv.b (Lv.a (Lv.b (Lv.b (A 82))))))))) (K82_prrlrl cal k m1) (K82_pxrrlr cal k) (doneK P results82)))
noncomputable def K82_pxrrlrllrl (cal : Cal) (k : Nat) (m1 : Nat) : XC (Value × Hp × Nat) := (upX 1 (K82_prrlrllr cal k m1) (K82_pxrrlr cal k))
noncomputable def K82_prrlrllrll (cal : Cal) (k : Nat) (m1 : Nat) : KC (Value × Hp × Nat) := (cutK (Lv.a (Lv.a (Lv.b (Lv.a (Lv.a (Lv.b (Lv.a (Lv.b (Lv.b (A 82)))))))))).c (codeE P cal (codeF P cal m1) none 82 (cR (cL (cL (cR (cL (cL (cR (cL (cR (cR code82)))))))))) (Lv.b (Lv.a (Lv.a (Lv.b (Lv.a (Lv.a (Lv.b (Lv.a (Lv.b (Lv.b (A 82))))))))))) (K82_prrlrllr cal k m1) (K82_pxrrlrllrl cal k m1) (doneK P results82)))
noncomputable def K82_pxrrlrllrlll (cal : Cal) (k : Nat) (m1 : Nat) : XC (Value × Hp × Nat) := (upX 2 (K82_prrlrllrll cal k m1) (K82_pxrrlrllrl cal k m1))
noncomputable def K82_prrlrllrllll (cal : Cal) (k : Nat) (m1 : Nat) (m2 : Nat) : KC (Value × Hp × Nat) := (fun T H n D => codeF P cal m2 (Lv.a (Lv.a (Lv.a (Lv.a (Lv.b (Lv.a (Lv.a (Lv.b (Lv.a (Lv.b (Lv.b (A 82)))))))))))) none 82 (cL (cL (cL (cL (cR (cL (cL (cR (cL (cR (cR code82))))))))))) (K82_prrlrllrll cal k m1) (K82_pxrrlrllrlll cal k m1) (doneK P results82) (cutT (Lv.a (Lv.a (Lv.a (Lv.a (Lv.b (Lv.a (Lv.a (Lv.b (Lv.a (Lv.b (Lv.b (A 82)))))))))))).c T) H n D)
noncomputable def K82_prrlrllrlllll (cal : Cal) (k : Nat) (m1 : Nat) (m2 : Nat) : KC (Value × Hp × Nat) := (cutK (Lv.a (Lv.a (Lv.a (Lv.a (Lv.a (Lv.b (Lv.a (Lv.a (Lv.b (Lv.a (Lv.b (Lv.b (A 82))))))))))))).c (codeE P cal (codeF P cal m2) none 82 (cR (cL (cL (cL (cL (cL (cR (cL (cL (cR (cL (cR (cR code82))))))))))))) (Lv.b (Lv.a (Lv.a (Lv.a (Lv.a (Lv.a (Lv.b (Lv.a (Lv.a (Lv.b (Lv.a (Lv.b (Lv.b (A 82)))))))))))))) (K82_prrlrllrllll cal k m1 m2) (K82_pxrrlrllrlll cal k m1) (doneK P results82)))
noncomputable def K82_prrlrllrllllll (cal : Cal) (k : Nat) (m1 : Nat) (m2 : Nat) : KC (Value × Hp × Nat) := (cutK (Lv.a (Lv.a (Lv.a (Lv.a (Lv.a (Lv.a (Lv.b (Lv.a (Lv.a (Lv.b (Lv.a (Lv.b (Lv.b (A 82)))))))))))))).c (codeE P cal (codeF P cal m2) none 82 (cR (cL (cL (cL (cL (cL (cL (cR (cL (cL (cR (cL (cR (cR code82)))))))))))))) (Lv.b (Lv.a (Lv.a (Lv.a (Lv.a (Lv.a (Lv.a (Lv.b (Lv.a (Lv.a (Lv.b (Lv.a (Lv.b (Lv.b (A 82))))))))))))))) (K82_prrlrllrlllll cal k m1 m2) (K82_pxrrlrllrlll cal k m1) (doneK P results82)))
noncomputable def K82_pxrrlrllrlllllr (cal : Cal) (k : Nat) (m1 : Nat) (m2 : Nat) : XC (Value × Hp × Nat) := (upX 3 (K82_prrlrllrllll cal k m1 m2) (K82_pxrrlrllrlll cal k m1))
noncomputable def K82_prrlrllrllr (cal : Cal) (k : Nat) (m1 : Nat) : KC (Value × Hp × Nat) := (cutK (Lv.b (Lv.a (Lv.a (Lv.b (Lv.a (Lv.a (Lv.b (Lv.a (Lv.b (Lv.b (A 82))))))))))).c (codeE P cal (codeF P cal m1) none 82 (cR (cR (cL (cL (cR (cL (cL (cR (cL (cR (cR code82))))))))))) (Lv.b (Lv.b (Lv.a (Lv.a (Lv.b (Lv.a (Lv.a (Lv.b (Lv.a (Lv.b (Lv.b (A 82)))))))))))) (K82_prrlrllr cal k m1) (K82_pxrrlrllrl cal k m1) (doneK P results82)))
noncomputable def K82_prrlrllrllrl (cal : Cal) (k : Nat) (m1 : Nat) : KC (Value × Hp × Nat) := (cutK (Lv.a (Lv.b (Lv.a (Lv.a (Lv.b (Lv.a (Lv.a (Lv.b (Lv.a (Lv.b (Lv.b (A 82)))))))))))).c (codeE P cal (codeF P cal m1) none 82 (cR (cL (cR (cL (cL (cR (cL (cL (cR (cL (cR (cR code82)))))))))))) (Lv.b (Lv.a (Lv.b (Lv.a (Lv.a (Lv.b (Lv.a (Lv.a (Lv.b (Lv.a (Lv.b (Lv.b (A 82))))))))))))) (K82_prrlrllrllr cal k m1) (K82_pxrrlrllrl cal k m1) (doneK P results82)))
noncomputable def K82_prrlrllrllrlrl (cal : Cal) (k : Nat) (m1 : Nat) : KC (Value × Hp × Nat) := (cutK (Lv.a (Lv.b (Lv.a (Lv.b (Lv.a (Lv.a (Lv.b (Lv.a (Lv.a (Lv.b (Lv.a (Lv.b (Lv.b (A 82)))))))))))))).c (codeE P cal (codeF P cal m1) none 82 (cR (cL (cR (cL (cR (cL (cL (cR (cL (cL (cR (cL (cR (cR code82)))))))))))))) (Lv.b (Lv.a (Lv.b (Lv.a (Lv.b (Lv.a (Lv.a (Lv.b (Lv.a (Lv.a (Lv.b (Lv.a (Lv.b (Lv.b (A 82))))))))))))))) (K82_prrlrllrllr cal k m1) (K82_pxrrlrllrl cal k m1) (doneK P results82)))
noncomputable def K82_prrlrllrllrr (cal : Cal) (k : Nat) (m1 : Nat) : KC (Value × Hp × Nat) := (cutK (Lv.b (Lv.b (Lv.a (Lv.a (Lv.b (Lv.a (Lv.a (Lv.b (Lv.a (Lv.b (Lv.b (A 82)))))))))))).c (codeE P cal (codeF P cal m1) none 82 (cR (cR (cR (cL (cL (cR (cL (cL (cR (cL (cR (cR code82)))))))))))) (Lv.b (Lv.b (Lv.b (Lv.a (Lv.a (Lv.b (Lv.a (Lv.a (Lv.b (Lv.a (Lv.b (Lv.b (A 82))))))))))))) (K82_prrlrllr cal k m1) (K82_pxrrlrllrl cal k m1) (doneK P results82)))
noncomputable def K82_prrlrllrllrrl (cal : Cal) (k : Nat) (m1 : Nat) : KC (Value × Hp × Nat) := (cutK (Lv.a (Lv.b (Lv.b (Lv.a (Lv.a (Lv.b (Lv.a (Lv.a (Lv.b (Lv.a (Lv.b (Lv.b (A 82))))))))))))).c (codeE P cal (codeF P cal m1) none 82 (cR (cL (cR (cR (cL (cL (cR (cL (cL (cR (cL (cR (cR code82))))))))))))) (Lv.b (Lv.a (Lv.b (Lv.b (Lv.a (Lv.a (Lv.b (Lv.a (Lv.a (Lv.b (Lv.a (Lv.b (Lv.b (A 82)))))))))))))) (K82_prrlrllrllrr cal k m1) (K82_pxrrlrllrl cal k m1) (doneK P results82)))
noncomputable def K82_prrlrllrllrrlrl (cal : Cal) (k : Nat) (m1 : Nat) : KC (Value × Hp × Nat) := (cutK (Lv.a (Lv.b (Lv.a (Lv.b (Lv.b (Lv.a (Lv.a (Lv.b (Lv.a (Lv.a (Lv.b (Lv.a (Lv.b (Lv.b (A 82))))))))))))))).c (codeE P cal (codeF P cal m1) none 82 (cR (cL (cR (cL (cR (cR (cL (cL (cR (cL (cL (cR (cL (cR (cR code82))))))))))))))) (Lv.b (Lv.a (Lv.b (Lv.a (Lv.b (Lv.b (Lv.a (Lv.a (Lv.b (Lv.a (Lv.a (Lv.b (Lv.a (Lv.b (Lv.b (A 82)))))))))))))))) (K82_prrlrllrllrr cal k m1) (K82_pxrrlrllrl cal k m1) (doneK P results82)))
noncomputable def K82_prrlrllrllrrr (cal : Cal) (k : Nat) (m1 : Nat) : KC (Value × Hp × Nat) := (cutK (Lv.b (Lv.b (Lv.b (Lv.a (Lv.a (Lv.b (Lv.a (Lv.a (Lv.b (Lv.a (Lv.b (Lv.b (A 82))))))))))))).c (codeE P cal (codeF P cal m1) none 82 (cR (cR (cR (cR (cL (cL (cR (cL (cL (cR (cL (cR (cR code82))))))))))))) (Lv.b (Lv.b (Lv.b (Lv.b (Lv.a (Lv.a (Lv.b (Lv.a (Lv.a (Lv.b (Lv.a (Lv.b (Lv.b (A 82)))))))))))))) (K82_prrlrllr cal k m1) (K82_pxrrlrllrl cal k m1) (doneK P results82)))
noncomputable def K82_prrlrllrllrrrrr (cal : Cal) (k : Nat) (m1 : Nat) : KC (Value × Hp × Nat) := (cutK (Lv.b (Lv.b (Lv.b (Lv.b (Lv.b (Lv.a (Lv.a (Lv.b (Lv.a (Lv.a (Lv.b (Lv.a (Lv.b (Lv.b (A 82))))))))))))))).c (codeE P cal (codeF P cal m1) none 82 (cR (cR (cR (cR (cR (cR (cL (cL (cR (cL (cL (cR (cL (cR (cR code82))))))))))))))) (Lv.b (Lv.b (Lv.b (Lv.b (Lv.b (Lv.b (Lv.a (Lv.a (Lv.b (Lv.a (Lv.a (Lv.b (Lv.a (Lv.b (Lv.b (A 82)))))))))))))))) (K82_prrlrllr cal k m1) (K82_pxrrlrllrl cal k m1) (doneK P results82)))
noncomputable def K82_prrlrllrllrrrrrrl (cal : Cal) (k : Nat) (m1 : Nat) : KC (Value × Hp × Nat) := (cutK (Lv.a (Lv.b (Lv.b (Lv.b (Lv.b (Lv.b (Lv.b (Lv.a (Lv.a (Lv.b (Lv.a (Lv.a (Lv.b (Lv.a (Lv.b (Lv.b (A 82))))))))))))))))).c (codeE P cal (codeF P cal m1) none 82 (cR (cL (cR (cR (cR (cR (cR (cR (cL (cL (cR (cL (cL (cR (cL (cR (cR code82))))))))))))))))) (Lv.b (Lv.a (Lv.b (Lv.b (Lv.b (Lv.b (Lv.b (Lv.b (Lv.a (Lv.a (Lv.b (Lv.a (Lv.a (Lv.b (Lv.a (Lv.b (Lv.b (A 82)))))))))))))))))) (K82_prrlrllr cal k m1) (K82_pxrrlrllrl cal k m1) (doneK P results82)))
noncomputable def K82_pxrrlrllrllrrrrrrlr (cal : Cal) (k : Nat) (m1 : Nat) : XC (Value × Hp × Nat) := (upX 6 (K82_prrlrllr cal k m1) (K82_pxrrlrllrl cal k m1))
noncomputable def K82_prrlrllrllrrrrrrlrl (cal : Cal) (k : Nat) (m1 : Nat) (m2 : Nat) : KC (Value × Hp × Nat) := (fun T H n D => codeF P cal m2 (Lv.a (Lv.b (Lv.a (Lv.b (Lv.b (Lv.b (Lv.b (Lv.b (Lv.b (Lv.a (Lv.a (Lv.b (Lv.a (Lv.a (Lv.b (Lv.a (Lv.b (Lv.b (A 82))))))))))))))))))) none 82 (cL (cR (cL (cR (cR (cR (cR (cR (cR (cL (cL (cR (cL (cL (cR (cL (cR (cR code82)))))))))))))))))) (K82_prrlrllr cal k m1) (K82_pxrrlrllrllrrrrrrlr cal k m1) (doneK P results82) (cutT (Lv.a (Lv.b (Lv.a (Lv.b (Lv.b (Lv.b (Lv.b (Lv.b (Lv.b (Lv.a (Lv.a (Lv.b (Lv.a (Lv.a (Lv.b (Lv.a (Lv.b (Lv.b (A 82))))))))))))))))))).c T) H n D)
noncomputable def K82_prrlrllrllrrrrrrlrll (cal : Cal) (k : Nat) (m1 : Nat) (m2 : Nat) : KC (Value × Hp × Nat) := (cutK (Lv.a (Lv.a (Lv.b (Lv.a (Lv.b (Lv.b (Lv.b (Lv.b (Lv.b (Lv.b (Lv.a (Lv.a (Lv.b (Lv.a (Lv.a (Lv.b (Lv.a (Lv.b (Lv.b (A 82)))))))))))))))))))).c (codeE P cal (codeF P cal m2) none 82 (cR (cL (cL (cR (cL (cR (cR (cR (cR (cR (cR (cL (cL (cR (cL (cL (cR (cL (cR (cR code82)))))))))))))))))))) (Lv.b (Lv.a (Lv.a (Lv.b (Lv.a (Lv.b (Lv.b (Lv.b (Lv.b (Lv.b (Lv.b (Lv.a (Lv.a (Lv.b (Lv.a (Lv.a (Lv.b (Lv.a (Lv.b (Lv.b (A 82))))))))))))))))))))) (K82_prrlrllrllrrrrrrlrl cal k m1 m2) (K82_pxrrlrllrllrrrrrrlr cal k m1) (doneK P results82)))
noncomputable def K82_prrlrllrllrrrrrrlrlll (cal : Cal) (k : Nat) (m1 : Nat) (m2 : Nat) : KC (Value × Hp × Nat) := (cutK (Lv.a (Lv.a (Lv.a (Lv.b (Lv.a (Lv.b (Lv.b (Lv.b (Lv.b (Lv.b (Lv.b (Lv.a (Lv.a (Lv.b (Lv.a (Lv.a (Lv.b (Lv.a (Lv.b (Lv.b (A 82))))))))))))))))))))).c (codeE P cal (codeF P cal m2) none 82 (cR (cL (cL (cL (cR (cL (cR (cR (cR (cR (cR (cR (cL (cL (cR (cL (cL (cR (cL (cR (cR code82))))))))))))))))))))) (Lv.b (Lv.a (Lv.a (Lv.a (Lv.b (Lv.a (Lv.b (Lv.b (Lv.b (Lv.b (Lv.b (Lv.b (Lv.a (Lv.a (Lv.b (Lv.a (Lv.a (Lv.b (Lv.a (Lv.b (Lv.b (A 82)))))))))))))))))))))) (K82_prrlrllrllrrrrrrlrll cal k m1 m2) (K82_pxrrlrllrllrrrrrrlr cal k m1) (doneK P results82)))
noncomputable def K82_prrlrllrllrrrrrrlrllr (cal : Cal) (k : Nat) (m1 : Nat) (m2 : Nat) : KC (Value × Hp × Nat) := (cutK (Lv.b (Lv.a (Lv.a (Lv.b (Lv.a (Lv.b (Lv.b (Lv.b (Lv.b (Lv.b (Lv.b (Lv.a (Lv.a (Lv.b (Lv.a (Lv.a (Lv.b (Lv.a (Lv.b (Lv.b (A 82))))))))))))))))))))).c (codeE P cal (codeF P cal m2) none 82 (cR (cR (cL (cL (cR (cL (cR (cR (cR (cR (cR (cR (cL (cL (cR (cL (cL (cR (cL (cR (cR code82))))))))))))))))))))) (Lv.b (Lv.b (Lv.a (Lv.a (Lv.b (Lv.a (Lv.b (Lv.b (Lv.b (Lv.b (Lv.b (Lv.b (Lv.a (Lv.a (Lv.b (Lv.a (Lv.a (Lv.b (Lv.a (Lv.b (Lv.b (A 82)))))))))))))))))))))) (K82_prrlrllrllrrrrrrlrl cal k m1 m2) (K82_pxrrlrllrllrrrrrrlr cal k m1) (doneK P results82)))
noncomputable def K82_pxrrlrllrllrrrrrrlrllrl (cal : Cal) (k : Nat) (m1 : Nat) (m2 : Nat) : XC (Value × Hp × Nat) := (upX 7 (K82_prrlrllrllrrrrrrlrllr cal k m1 m2) (K82_pxrrlrllrllrrrrrrlr cal k m1))
noncomputable def K82_prrlrllrllrrrrrrlrllrll (cal : Cal) (k : Nat) (m1 : Nat) (m2 : Nat) : KC (Value × Hp × Nat) := (cutK (Lv.a (Lv.a (Lv.b (Lv.a (Lv.a (Lv.b (Lv.a (Lv.b (Lv.b (Lv.b (Lv.b (Lv.b (Lv.b (Lv.a (Lv.a (Lv.b (Lv.a (Lv.a (Lv.b (Lv.a (Lv.b (Lv.b (A 82))))))))))))))))))))))).c (codeE P cal (codeF P cal m2) none 82 (cR (cL (cL (cR (cL (cL (cR (cL (cR (cR (cR (cR (cR (cR (cL (cL (cR (cL (cL (cR (cL (cR (cR code82))))))))))))))))))))))) (Lv.b (Lv.a (Lv.a (Lv.b (Lv.a (Lv.a (Lv.b (Lv.a (Lv.b (Lv.b (Lv.b (Lv.b (Lv.b (Lv.b (Lv.a (Lv.a (Lv.b (Lv.a (Lv.a (Lv.b (Lv.a (Lv.b (Lv.b (A 82)))))))))))))))))))))))) (K82_prrlrllrllrrrrrrlrllr cal k m1 m2) (K82_pxrrlrllrllrrrrrrlrllrl cal k m1 m2) (doneK P results82)))
noncomputable def K82_prrlrllrllrrrrrrlrllrlll (cal : Cal) (k : Nat) (m1 : Nat) (m2 : Nat) : KC (Value × Hp × Nat) := (cutK (Lv.a (Lv.a (Lv.a (Lv.b (Lv.a (Lv.a (Lv.b (Lv.a (Lv.b (Lv.b (Lv.b (Lv.b (Lv.b (Lv.b (Lv.a (Lv.a (Lv.b (Lv.a (Lv.a (Lv.b (Lv.a (Lv.b (Lv.b (A 82)))))))))))))))))))))))).c (codeE P cal (codeF P cal m2) none 82 (cR (cL (cL (cL (cR (cL (cL (cR (cL (cR (cR (cR (cR (cR (cR (cL (cL (cR (cL (cL (cR (cL (cR (cR code82)))))))))))))))))))))))) (Lv.b (Lv.a (Lv.a (Lv.a (Lv.b (Lv.a (Lv.a (Lv.b (Lv.a (Lv.b (Lv.b (Lv.b (Lv.b (Lv.b (Lv.b (Lv.a (Lv.a (Lv.b (Lv.a (Lv.a (Lv.b (Lv.a (Lv.b (Lv.b (A 82))))))))))))))))))))))))) (K82_prrlrllrllrrrrrrlrllrll cal k m1 m2) (K82_pxrrlrllrllrrrrrrlrllrl cal k m1 m2) (doneK P results82)))
noncomputable def K82_prrlrllrllrrrr (cal : Cal) (k : Nat) (m1 : Nat) : KC (Value × Hp × Nat) := (cutK (Lv.b (Lv.b (Lv.b (Lv.b (Lv.a (Lv.a (Lv.b (Lv.a (Lv.a (Lv.b (Lv.a (Lv.b (Lv.b (A 82)))))))))))))).c (codeE P cal (codeF P cal m1) none 82 (cR (cR (cR (cR (cR (cL (cL (cR (cL (cL (cR (cL (cR (cR code82)))))))))))))) (Lv.b (Lv.b (Lv.b (Lv.b (Lv.b (Lv.a (Lv.a (Lv.b (Lv.a (Lv.a (Lv.b (Lv.a (Lv.b (Lv.b (A 82))))))))))))))) (K82_prrlrllr cal k m1) (K82_pxrrlrllrl cal k m1) (doneK P results82)))
noncomputable def K82_prrlrllrllrrrrl (cal : Cal) (k : Nat) (m1 : Nat) : KC (Value × Hp × Nat) := (cutK (Lv.a (Lv.b (Lv.b (Lv.b (Lv.b (Lv.a (Lv.a (Lv.b (Lv.a (Lv.a (Lv.b (Lv.a (Lv.b (Lv.b (A 82))))))))))))))).c (codeE P cal (codeF P cal m1) none 82 (cR (cL (cR (cR (cR (cR (cL (cL (cR (cL (cL (cR (cL (cR (cR code82))))))))))))))) (Lv.b (Lv.a (Lv.b (Lv.b (Lv.b (Lv.b (Lv.a (Lv.a (Lv.b (Lv.a (Lv.a (Lv.b (Lv.a (Lv.b (Lv.b (A 82)))))))))))))))) (K82_prrlrllrllrrrr cal k m1) (K82_pxrrlrllrl cal k m1) (doneK P results82)))
noncomputable def K82_prrlrllrllrrrrlrl (cal : Cal) (k : Nat) (m1 : Nat) : KC (Value × Hp × Nat) := (cutK (Lv.a (Lv.b (Lv.a (Lv.b (Lv.b (Lv.b (Lv.b (Lv.a (Lv.a (Lv.b (Lv.a (Lv.a (Lv.b (Lv.a (Lv.b (Lv.b (A 82))))))))))))))))).c (codeE P cal (codeF P cal m1) none 82 (cR (cL (cR (cL (cR (cR (cR (cR (cL (cL (cR (cL (cL (cR (cL (cR (cR code82))))))))))))))))) (Lv.b (Lv.a (Lv.b (Lv.a (Lv.b (Lv.b (Lv.b (Lv.b (Lv.a (Lv.a (Lv.b (Lv.a (Lv.a (Lv.b (Lv.a (Lv.b (Lv.b (A 82)))))))))))))))))) (K82_prrlrllrllrrrr cal k m1) (K82_pxrrlrllrl cal k m1) (doneK P results82)))
noncomputable def K82_pxrrlrllrllrrrrlrlr (cal : Cal) (k : Nat) (m1 : Nat) : XC (Value × Hp × Nat) := (upX 4 (K82_prrlrllrllrrrr cal k m1) (K82_pxrrlrllrl cal k m1))
noncomputable def K82_prrlrllrllrrrrlrlrl (cal : Cal) (k : Nat) (m1 : Nat) (m2 : Nat) : KC (Value × Hp × Nat) := (fun T H n D => codeF P cal m2 (Lv.a (Lv.b (Lv.a (Lv.b (Lv.a (Lv.b (Lv.b (Lv.b (Lv.b (Lv.a (Lv.a (Lv.b (Lv.a (Lv.a (Lv.b (Lv.a (Lv.b (Lv.b (A 82))))))))))))))))))) none 82 (cL (cR (cL (cR (cL (cR (cR (cR (cR (cL (cL (cR (cL (cL (cR (cL (cR (cR code82)))))))))))))))))) (K82_prrlrllrllrrrr cal k m1) (K82_pxrrlrllrllrrrrlrlr cal k m1) (doneK P results82) (cutT (Lv.a (Lv.b (Lv.a (Lv.b (Lv.a (Lv.b (Lv.b (Lv.b (Lv.b (Lv.a (Lv.a (Lv.b (Lv.a (Lv.a (Lv.b (Lv.a (Lv.b (Lv.b (A 82))))))))))))))))))).c T) H n D)
noncomputable def K82_prrlrllrllrrrrlrlrll (cal : Cal) (k : Nat) (m1 : Nat) (m2 : Nat) : KC (Value × Hp × Nat) := (cutK (Lv.a (Lv.a (Lv.b (Lv.a (Lv.b (Lv.a (Lv.b (Lv.b (Lv.b (Lv.b (Lv.a (Lv.a (Lv.b (Lv.a (Lv.a (Lv.b (Lv.a (Lv.b (Lv.b (A 82)))))))))))))))))))).c (codeE P cal (codeF P cal m2) none 82 (cR (cL (cL (cR (cL (cR (cL (cR (cR (cR (cR (cL (cL (cR (cL (cL (cR (cL (cR (cR code82)))))))))))))))))))) (Lv.b (Lv.a (Lv.a (Lv.b (Lv.a (Lv.b (Lv.a (Lv.b (Lv.b (Lv.b (Lv.b (Lv.a (Lv.a (Lv.b (Lv.a (Lv.a (Lv.b (Lv.a (Lv.b (Lv.b (A 82))))))))))))))))))))) (K82_prrlrllrllrrrrlrlrl cal k m1 m2) (K82_pxrrlrllrllrrrrlrlr cal k m1) (doneK P results82)))
noncomputable def K82_prrlrllrllrrrrlrlrlll (cal : Cal) (k : Nat) (m1 : Nat) (m2 : Nat) : KC (Value × Hp × Nat) := (cutK (Lv.a (Lv.a (Lv.a (Lv.b (Lv.a (Lv.b (Lv.a (Lv.b (Lv.b (Lv.b (Lv.b (Lv.a (Lv.a (Lv.b (Lv.a (Lv.a (Lv.b (Lv.a (Lv.b (Lv.b (A 82))))))))))))))))))))).c (codeE P cal (codeF P cal m2) none 82 (cR (cL (cL (cL (cR (cL (cR (cL (cR (cR (cR (cR (cL (cL (cR (cL (cL (cR (cL (cR (cR code82))))))))))))))))))))) (Lv.b (Lv.a (Lv.a (Lv.a (Lv.b (Lv.a (Lv.b (Lv.a (Lv.b (Lv.b (Lv.b (Lv.b (Lv.a (Lv.a (Lv.b (Lv.a (Lv.a (Lv.b (Lv.a (Lv.b (Lv.b (A 82)))))))))))))))))))))) (K82_prrlrllrllrrrrlrlrll cal k m1 m2) (K82_pxrrlrllrllrrrrlrlr cal k m1) (doneK P results82)))
noncomputable def K82_prrlrllrllrrrrlrlrllr (cal : Cal) (k : Nat) (m1 : Nat) (m2 : Nat) : KC (Value × Hp × Nat) := (cutK (Lv.b (Lv.a (Lv.a (Lv.b (Lv.a (Lv.b (Lv.a (Lv.b (Lv.b (Lv.b (Lv.b (Lv.a (Lv.a (Lv.b (Lv.a (Lv.a (Lv.b (Lv.a (Lv.b (Lv.b (A 82))))))))))))))))))))).c (codeE P cal (codeF P cal m2) none 82 (cR (cR (cL (cL (cR (cL (cR (cL (cR (cR (cR (cR (cL (cL (cR (cL (cL (cR (cL (cR (cR code82))))))))))))))))))))) (Lv.b (Lv.b (Lv.a (Lv.a (Lv.b (Lv.a (Lv.b (Lv.a (Lv.b (Lv.b (Lv.b (Lv.b (Lv.a (Lv.a (Lv.b (Lv.a (Lv.a (Lv.b (Lv.a (Lv.b (Lv.b (A 82)))))))))))))))))))))) (K82_prrlrllrllrrrrlrlrl cal k m1 m2) (K82_pxrrlrllrllrrrrlrlr cal k m1) (doneK P results82)))
noncomputable def K82_pxrrlrllrllrrrrlrlrllrl (cal : Cal) (k : Nat) (m1 : Nat) (m2 : Nat) : XC (Value × Hp × Nat) := (upX 5 (K82_prrlrllrllrrrrlrlrllr cal k m1 m2) (K82_pxrrlrllrllrrrrlrlr cal k m1))
noncomputable def K82_prrlrllrllrrrrlrlrllrll (cal : Cal) (k : Nat) (m1 : Nat) (m2 : Nat) : KC (Value × Hp × Nat) := (cutK (Lv.a (Lv.a (Lv.b (Lv.a (Lv.a (Lv.b (Lv.a (Lv.b (Lv.a (Lv.b (Lv.b (Lv.b (Lv.b (Lv.a (Lv.a (Lv.b (Lv.a (Lv.a (Lv.b (Lv.a (Lv.b (Lv.b (A 82))))))))))))))))))))))).c (codeE P cal (codeF P cal m2) none 82 (cR (cL (cL (cR (cL (cL (cR (cL (cR (cL (cR (cR (cR (cR (cL (cL (cR (cL (cL (cR (cL (cR (cR code82))))))))))))))))))))))) (Lv.b (Lv.a (Lv.a (Lv.b (Lv.a (Lv.a (Lv.b (Lv.a (Lv.b (Lv.a (Lv.b (Lv.b (Lv.b (Lv.b (Lv.a (Lv.a (Lv.b (Lv.a (Lv.a (Lv.b (Lv.a (Lv.b (Lv.b (A 82)))))))))))))))))))))))) (K82_prrlrllrllrrrrlrlrllr cal k m1 m2) (K82_pxrrlrllrllrrrrlrlrllrl cal k m1 m2) (doneK P results82)))
noncomputable def K82_prrlrllrllrrrrlrlrllrlll (cal : Cal) (k : Nat) (m1 : Nat) (m2 : Nat) : KC (Value × Hp × Nat) := (cutK (Lv.a (Lv.a (Lv.a (Lv.b (Lv.a (Lv.a (Lv.b (Lv.a (Lv.b (Lv.a (Lv.b (Lv.b (Lv.b (Lv.b (Lv.a (Lv.a (Lv.b (Lv.a (Lv.a (Lv.b (Lv.a (Lv.b (Lv.b (A 82)))))))))))))))))))))))).c (codeE P cal (codeF P cal m2) none 82 (cR (cL (cL (cL (cR (cL (cL (cR (cL (cR (cL (cR (cR (cR (cR (cL (cL (cR (cL (cL (cR (cL (cR (cR code82)))))))))))))))))))))))) (Lv.b (Lv.a (Lv.a (Lv.a (Lv.b (Lv.a (Lv.a (Lv.b (Lv.a (Lv.b (Lv.a (Lv.b (Lv.b (Lv.b (Lv.b (Lv.a (Lv.a (Lv.b (Lv.a (Lv.a (Lv.b (Lv.a (Lv.b (Lv.b (A 82))))))))))))))))))))))))) (K82_prrlrllrllrrrrlrlrllrll cal k m1 m2) (K82_pxrrlrllrllrrrrlrlrllrl cal k m1 m2) (doneK P results82)))
noncomputable def K82_prrr (cal : Cal) (k : Nat) : KC (Value × Hp × Nat) := (cutK (Lv.b (Lv.b (Lv.b (A 82)))).c (codeE P cal (codeF P cal k) none 82 (cR (cR (cR (cR code82)))) (Lv.b (Lv.b (Lv.b (Lv.b (A 82))))) (doneK P results82) X0 (doneK P results82)))
noncomputable def E82_2 (cal : Cal) (k m1 : Nat) : KC (Value × Hp × Nat) := codeE P cal (codeF P cal m1) none 82 (cR (cR (cL (cL (cR (cL (cR (cR code82)))))))) (Lv.b (Lv.b (Lv.a (Lv.a (Lv.b (Lv.a (Lv.b (Lv.b (A 82))))))))) (K82_prrlrl cal k m1) (K82_pxrrlr cal k) (doneK P results82)
noncomputable def E82_5 (cal : Cal) (k m1 m2 : Nat) : KC (Value × Hp × Nat) := codeE P cal (codeF P cal m2) none 82 (cL (cL (cR (cL (cR (cR (cR (cR (cR (cR (cL (cL (cR (cL (cL (cR (cL (cR (cR code82))))))))))))))))))) (Lv.a (Lv.a (Lv.b (Lv.a (Lv.b (Lv.b (Lv.b (Lv.b (Lv.b (Lv.b (Lv.a (Lv.a (Lv.b (Lv.a (Lv.a (Lv.b (Lv.a (Lv.b (Lv.b (A 82)))))))))))))))))))) (K82_prrlrllrllrrrrrrlrl cal k m1 m2) (K82_pxrrlrllrllrrrrrrlr cal k m1) (doneK P results82)
noncomputable def R82_5 (cal : Cal) (k m1 m2 : Nat) : Value → Value → Value → Value → Value → Value → Value → Hp → Nat → Res := fun u0 u1 u2 u3 u9 u10 u12 H n => codeF P cal m2 (Lv.a (Lv.b (Lv.a (Lv.b (Lv.b (Lv.b (Lv.b (Lv.b (Lv.b (Lv.a (Lv.a (Lv.b (Lv.a (Lv.a (Lv.b (Lv.a (Lv.b (Lv.b (A 82))))))))))))))))))) none 82 (cL (cR (cL (cR (cR (cR (cR (cR (cR (cL (cL (cR (cL (cL (cR (cL (cR (cR code82)))))))))))))))))) (K82_prrlrllr cal k m1) (K82_pxrrlrllrllrrrrrrlr cal k m1) (doneK P results82) (Tr.set (Tr.set (Tr.set (Tr.set (Tr.set (Tr.set (Tr.set Tr.nil 12 (some u12)) 10 (some u10)) 9 (some u9)) 3 (some u3)) 2 (some u2)) 1 (some u1)) 0 (some u0)) H n []
noncomputable def E82_4 (cal : Cal) (k m1 : Nat) : KC (Value × Hp × Nat) := codeE P cal (codeF P cal m1) none 82 (cR (cR (cR (cR (cR (cL (cL (cR (cL (cL (cR (cL (cR (cR code82)))))))))))))) (Lv.b (Lv.b (Lv.b (Lv.b (Lv.b (Lv.a (Lv.a (Lv.b (Lv.a (Lv.a (Lv.b (Lv.a (Lv.b (Lv.b (A 82))))))))))))))) (K82_prrlrllr cal k m1) (K82_pxrrlrllrl cal k m1) (doneK P results82)
noncomputable def E82_6 (cal : Cal) (k m1 m2 : Nat) : KC (Value × Hp × Nat) := codeE P cal (codeF P cal m2) none 82 (cL (cL (cR (cL (cR (cL (cR (cR (cR (cR (cL (cL (cR (cL (cL (cR (cL (cR (cR code82))))))))))))))))))) (Lv.a (Lv.a (Lv.b (Lv.a (Lv.b (Lv.a (Lv.b (Lv.b (Lv.b (Lv.b (Lv.a (Lv.a (Lv.b (Lv.a (Lv.a (Lv.b (Lv.a (Lv.b (Lv.b (A 82)))))))))))))))))))) (K82_prrlrllrllrrrrlrlrl cal k m1 m2) (K82_pxrrlrllrllrrrrlrlr cal k m1) (doneK P results82)
noncomputable def R82_6 (cal : Cal) (k m1 m2 : Nat) : Value → Value → Value → Value → Value → Value → Value → Hp → Nat → Res := fun u0 u1 u2 u3 u9 u10 u11 H n => codeF P cal m2 (Lv.a (Lv.b (Lv.a (Lv.b (Lv.a (Lv.b (Lv.b (Lv.b (Lv.b (Lv.a (Lv.a (Lv.b (Lv.a (Lv.a (Lv.b (Lv.a (Lv.b (Lv.b (A 82))))))))))))))))))) none 82 (cL (cR (cL (cR (cL (cR (cR (cR (cR (cL (cL (cR (cL (cL (cR (cL (cR (cR code82)))))))))))))))))) (K82_prrlrllrllrrrr cal k m1) (K82_pxrrlrllrllrrrrlrlr cal k m1) (doneK P results82) (Tr.set (Tr.set (Tr.set (Tr.set (Tr.set (Tr.set (Tr.set Tr.nil 11 (some u11)) 10 (some u10)) 9 (some u9)) 3 (some u3)) 2 (some u2)) 1 (some u1)) 0 (some u0)) H n []
noncomputable def E82_3 (cal : Cal) (k m1 m2 : Nat) : KC (Value × Hp × Nat) := codeE P cal (codeF P cal m2) none 82 (cL (cL (cL (cL (cL (cR (cL (cL (cR (cL (cR (cR code82)))))))))))) (Lv.a (Lv.a (Lv.a (Lv.a (Lv.a (Lv.b (Lv.a (Lv.a (Lv.b (Lv.a (Lv.b (Lv.b (A 82))))))))))))) (K82_prrlrllrllll cal k m1 m2) (K82_pxrrlrllrlll cal k m1) (doneK P results82)
noncomputable def R82_3 (cal : Cal) (k m1 m2 : Nat) : Value → Value → Value → Value → Value → Value → Hp → Nat → Res := fun u0 u1 u2 u3 u9 u10 H n => codeF P cal m2 (Lv.a (Lv.a (Lv.a (Lv.a (Lv.b (Lv.a (Lv.a (Lv.b (Lv.a (Lv.b (Lv.b (A 82)))))))))))) none 82 (cL (cL (cL (cL (cR (cL (cL (cR (cL (cR (cR code82))))))))))) (K82_prrlrllrll cal k m1) (K82_pxrrlrllrlll cal k m1) (doneK P results82) (Tr.set (Tr.set (Tr.set (Tr.set (Tr.set (Tr.set Tr.nil 10 (some u10)) 9 (some u9)) 3 (some u3)) 2 (some u2)) 1 (some u1)) 0 (some u0)) H n []
noncomputable def E82_1 (cal : Cal) (k m1 : Nat) : KC (Value × Hp × Nat) := codeE P cal (codeF P cal m1) none 82 (cL (cL (cR (cL (cR (cR code82)))))) (Lv.a (Lv.a (Lv.b (Lv.a (Lv.b (Lv.b (A 82))))))) (K82_prrlrl cal k m1) (K82_pxrrlr cal k) (doneK P results82)
noncomputable def R82_1 (cal : Cal) (k m1 : Nat) : Value → Value → Value → Value → Value → Value → Hp → Nat → Res := fun u0 u1 u2 u3 u9 u10 H n => codeF P cal m1 (Lv.a (Lv.b (Lv.a (Lv.b (Lv.b (A 82)))))) none 82 (cL (cR (cL (cR (cR code82))))) (K82_prr cal k) (K82_pxrrlr cal k) (doneK P results82) (Tr.set (Tr.set (Tr.set (Tr.set (Tr.set (Tr.set Tr.nil 10 (some u10)) 9 (some u9)) 3 (some u3)) 2 (some u2)) 1 (some u1)) 0 (some u0)) H n []
noncomputable def B82_2 (cal : Cal) (k m1 : Nat) (b1 : Value → Value → Value → Value → Value → Value → Hp → Nat → Res) (u0 u1 u2 u3 u9 u10 : Value) (H : Hp) (n : Nat) : Res :=
binK P Go.BinOp.add 3 (Go.Operand.tmp 17) (Go.Operand.const (Go.Value.int Go.IntKind.i64 1)) u10 (Go.Value.int Go.IntKind.i64 1) fun v18_9 =>
b1 u0 u1 u2 u3 u9 v18_9 H n
noncomputable def C82_2 (cal : Cal) (k m1 : Nat) (b1 : Value → Value → Value → Value → Value → Value → Hp → Nat → Res) (u0 u1 u2 u3 u9 u10 : Value) (H : Hp) (n : Nat) : Res := B82_2 cal k m1 b1 u0 u1 u2 u3 u9 u10 H n
theorem h82_2 (cal : Cal) (k m1 : Nat) (u0 u1 u2 u3 u9 u10 : Value) (H : Hp) (n : Nat) : labK (E82_2 cal k m1) (Tr.set (Tr.set (Tr.set (Tr.set (Tr.set (Tr.set Tr.nil 10 (some u10)) 9 (some u9)) 3 (some u3)) 2 (some u2)) 1 (some u1)) 0 (some u0)) H n [] = C82_2 cal k m1 (R82_1 cal k m1) u0 u1 u2 u3 u9 u10 H n := by
  have h : labK (E82_2 cal k m1) (Tr.set (Tr.set (Tr.set (Tr.set (Tr.set (Tr.set Tr.nil 10 (some u10)) 9 (some u9)) 3 (some u3)) 2 (some u2)) 1 (some u1)) 0 (some u0)) H n [] = B82_2 cal k m1 (R82_1 cal k m1) u0 u1 u2 u3 u9 u10 H n := by kernel_rfl
  rw [h, C82_2]
theorem q82_2 (cal : Cal) (k m1 : Nat) (u0 u1 u2 u3 u9 u10 : Value) (H : Hp) (n : Nat) : labK (E82_2 cal k m1) (Tr.set (Tr.set (Tr.set (Tr.set (Tr.set (Tr.set Tr.nil 10 (some u10)) 9 (some u9)) 3 (some u3)) 2 (some u2)) 1 (some u1)) 0 (some u0)) H n [] = C82_2 cal k m1 (R82_1 cal k m1) u0 u1 u2 u3 u9 u10 H n := h82_2 ..
noncomputable def B82_5 (cal : Cal) (k m1 m2 : Nat) (j2 : Value → Value → Value → Value → Value → Value → Hp → Nat → Res) (b1 : Value → Value → Value → Value → Value → Value → Hp → Nat → Res) (b5 : Value → Value → Value → Value → Value → Value → Value → Hp → Nat → Res) (u0 u1 u2 u3 u9 u10 u12 : Value) (H : Hp) (n : Nat) : Res :=
binK P Go.BinOp.lss 3 (Go.Operand.tmp 107) (Go.Operand.tmp 108) u12 u2 fun v109_141 =>
ifK v109_141 (
bindO (indexAddrV P 54 u0 u12) fun v115_145 =>
bindO (addrV v115_145) fun a_146 => bindO (loadV P H 50 a_146) fun v_147 =>
binK P Go.BinOp.sub 3 (Go.Operand.tmp 118) (Go.Operand.const (Go.Value.int Go.IntKind.i64 1)) u12 (Go.Value.int Go.IntKind.i64 1) fun v119_150 =>
bindO (indexAddrV P 54 u0 v119_150) fun v120_151 =>
bindO (addrV v120_151) fun a_152 => bindO (loadV P H 50 a_152) fun v_153 =>
callVK P cal u3 [v_147, v_153] H n fun v122_154 H_155 n_156 =>
binK P Go.BinOp.lss 3 (Go.Operand.tmp 122) (Go.Operand.const (Go.Value.int Go.IntKind.i64 0)) v122_154 (Go.Value.int Go.IntKind.i64 0) fun v123_157 =>
bindO (pureSem P v123_157 (Op.unary Go.UnOp.not v123_157)) fun v124_158 =>
ifK v124_158 (
j2 u0 u1 u2 u3 u9 u10 H_155 n_156) (
binK P Go.BinOp.sub 3 (Go.Operand.tmp 128) (Go.Operand.const (Go.Value.int Go.IntKind.i64 1)) u12 (Go.Value.int Go.IntKind.i64 1) fun v129_163 =>
binK P Go.BinOp.sub 3 (Go.Operand.tmp 131) (Go.Operand.const (Go.Value.int Go.IntKind.i64 1)) u12 (Go.Value.int Go.IntKind.i64 1) fun v132_166 =>
bindO (indexAddrV P 54 u0 v132_166) fun v133_167 =>
bindO (addrV v133_167) fun a_168 => bindO (loadV P H_155 50 a_168) fun v_169 =>
bindO (indexAddrV P 54 u0 u12) fun v137_172 =>
bindO (addrV v137_172) fun a_173 => bindO (loadV P H_155 50 a_173) fun v_174 =>
bindO (indexAddrV P 54 u0 u12) fun v139_175 =>
bindO (storeP P 50 v139_175 v_169 H_155) fun H_177 =>
bindO (indexAddrV P 54 u0 v129_163) fun v140_178 =>
bindO (storeP P 50 v140_178 v_174 H_177) fun H_180 =>
binK P Go.BinOp.add 3 (Go.Operand.tmp 110) (Go.Operand.const (Go.Value.int Go.IntKind.i64 1)) u12 (Go.Value.int Go.IntKind.i64 1) fun v111_182 =>
b5 u0 u1 u2 u3 u9 u10 v111_182 H_180 n_156)) (
j2 u0 u1 u2 u3 u9 u10 H n)
noncomputable def C82_5 (cal : Cal) (k m1 m2 : Nat) (b1 : Value → Value → Value → Value → Value → Value → Hp → Nat → Res) (b5 : Value → Value → Value → Value → Value → Value → Value → Hp → Nat → Res) (u0 u1 u2 u3 u9 u10 u12 : Value) (H : Hp) (n : Nat) : Res := B82_5 cal k m1 m2 (C82_2 cal k m1 b1) b1 b5 u0 u1 u2 u3 u9 u10 u12 H n
noncomputable def S82_5 (cal : Cal) (k m1 : Nat) (b1 : Value → Value → Value → Value → Value → Value → Hp → Nat → Res) : Nat → Value → Value → Value → Value → Value → Value → Value → Hp → Nat → Res := fun m => Nat.rec (motive := fun _ => Value → Value → Value → Value → Value → Value → Value → Hp → Nat → Res) (C82_5 cal k m1 0 b1 (fun _ _ _ _ _ _ _ _ _ => none)) (fun m ih => C82_5 cal k m1 (m + 1) b1 ih) m
theorem h82_5 (cal : Cal) (k m1 m2 : Nat) (u0 u1 u2 u3 u9 u10 u12 : Value) (H : Hp) (n : Nat) : labK (E82_5 cal k m1 m2) (Tr.set (Tr.set (Tr.set (Tr.set (Tr.set (Tr.set (Tr.set Tr.nil 12 (some u12)) 10 (some u10)) 9 (some u9)) 3 (some u3)) 2 (some u2)) 1 (some u1)) 0 (some u0)) H n [] = C82_5 cal k m1 m2 (R82_1 cal k m1) (R82_5 cal k m1 m2) u0 u1 u2 u3 u9 u10 u12 H n := by
  have h : labK (E82_5 cal k m1 m2) (Tr.set (Tr.set (Tr.set (Tr.set (Tr.set (Tr.set (Tr.set Tr.nil 12 (some u12)) 10 (some u10)) 9 (some u9)) 3 (some u3)) 2 (some u2)) 1 (some u1)) 0 (some u0)) H n [] = B82_5 cal k m1 m2 (fun u0 u1 u2 u3 u9 u10 H n => labK (E82_2 cal k m1) (Tr.set (Tr.set (Tr.set (Tr.set (Tr.set (Tr.set Tr.nil 10 (some u10)) 9 (some u9)) 3 (some u3)) 2 (some u2)) 1 (some u1)) 0 (some u0)) H n []) (R82_1 cal k m1) (R82_5 cal k m1 m2) u0 u1 u2 u3 u9 u10 u12 H n := by kernel_rfl
  rw [h, C82_5]
  have e2 : (fun u0 u1 u2 u3 u9 u10 H n => labK (E82_2 cal k m1) (Tr.set (Tr.set (Tr.set (Tr.set (Tr.set (Tr.set Tr.nil 10 (some u10)) 9 (some u9)) 3 (some u3)) 2 (some u2)) 1 (some u1)) 0 (some u0)) H n []) = (C82_2 cal k m1 (R82_1 cal k m1)) := by funext u0 u1 u2 u3 u9 u10 H n; exact q82_2 ..
  rw [e2]
theorem q82_5 (cal : Cal) (k m1 : Nat) : ∀ (m : Nat) (u0 u1 u2 u3 u9 u10 u12 : Value) (H : Hp) (n : Nat), labK (E82_5 cal k m1 m) (Tr.set (Tr.set (Tr.set (Tr.set (Tr.set (Tr.set (Tr.set Tr.nil 12 (some u12)) 10 (some u10)) 9 (some u9)) 3 (some u3)) 2 (some u2)) 1 (some u1)) 0 (some u0)) H n [] = S82_5 cal k m1 (R82_1 cal k m1) m u0 u1 u2 u3 u9 u10 u12 H n
  | 0, u0, u1, u2, u3, u9, u10, u12, H, n => by
    rw [h82_5]
    have e : R82_5 cal k m1 0 = fun _ _ _ _ _ _ _ _ _ => none := by funext u0 u1 u2 u3 u9 u10 u12 H n; kernel_rfl
    rw [e]; rfl
  | m + 1, u0, u1, u2, u3, u9, u10, u12, H, n => by
    rw [h82_5]
    have e : R82_5 cal k m1 (m + 1) = S82_5 cal k m1 (R82_1 cal k m1) m := by
      funext u0 u1 u2 u3 u9 u10 u12 H n
      have e : R82_5 cal k m1 (m + 1) u0 u1 u2 u3 u9 u10 u12 H n = labK (E82_5 cal k m1 m) (Tr.set (Tr.set (Tr.set (Tr.set (Tr.set (Tr.set (Tr.set Tr.nil 12 (some u12)) 10 (some u10)) 9 (some u9)) 3 (some u3)) 2 (some u2)) 1 (some u1)) 0 (some u0)) H n [] := by kernel_rfl
      rw [e]; exact q82_5 ..
    rw [e]; rfl
noncomputable def B82_4 (cal : Cal) (k m1 : Nat) (j5 : Value → Value → Value → Value → Value → Value → Value → Hp → Nat → Res) (j2 : Value → Value → Value → Value → Value → Value → Hp → Nat → Res) (b1 : Value → Value → Value → Value → Value → Value → Hp → Nat → Res) (u0 u1 u2 u3 u9 u10 : Value) (H : Hp) (n : Nat) : Res :=
binK P Go.BinOp.sub 3 (Go.Operand.tmp 101) (Go.Operand.tmp 102) u2 u9 fun v103_134 =>
binK P Go.BinOp.geq 3 (Go.Operand.tmp 103) (Go.Operand.const (Go.Value.int Go.IntKind.i64 2)) v103_134 (Go.Value.int Go.IntKind.i64 2) fun v104_135 =>
ifK v104_135 (
binK P Go.BinOp.add 3 (Go.Operand.tmp 105) (Go.Operand.const (Go.Value.int Go.IntKind.i64 1)) u9 (Go.Value.int Go.IntKind.i64 1) fun v106_137 =>
j5 u0 u1 u2 u3 u9 u10 v106_137 H n) (
j2 u0 u1 u2 u3 u9 u10 H n)
noncomputable def C82_4 (cal : Cal) (k m1 : Nat) (b1 : Value → Value → Value → Value → Value → Value → Hp → Nat → Res) (u0 u1 u2 u3 u9 u10 : Value) (H : Hp) (n : Nat) : Res := B82_4 cal k m1 (S82_5 cal k m1 b1 m1) (C82_2 cal k m1 b1) b1 u0 u1 u2 u3 u9 u10 H n
theorem h82_4 (cal : Cal) (k m1 : Nat) (u0 u1 u2 u3 u9 u10 : Value) (H : Hp) (n : Nat) : labK (E82_4 cal k m1) (Tr.set (Tr.set (Tr.set (Tr.set (Tr.set (Tr.set Tr.nil 10 (some u10)) 9 (some u9)) 3 (some u3)) 2 (some u2)) 1 (some u1)) 0 (some u0)) H n [] = C82_4 cal k m1 (R82_1 cal k m1) u0 u1 u2 u3 u9 u10 H n := by
  have h : labK (E82_4 cal k m1) (Tr.set (Tr.set (Tr.set (Tr.set (Tr.set (Tr.set Tr.nil 10 (some u10)) 9 (some u9)) 3 (some u3)) 2 (some u2)) 1 (some u1)) 0 (some u0)) H n [] = B82_4 cal k m1 (fun u0 u1 u2 u3 u9 u10 u12 H n => labK (E82_5 cal k m1 m1) (Tr.set (Tr.set (Tr.set (Tr.set (Tr.set (Tr.set (Tr.set Tr.nil 12 (some u12)) 10 (some u10)) 9 (some u9)) 3 (some u3)) 2 (some u2)) 1 (some u1)) 0 (some u0)) H n []) (fun u0 u1 u2 u3 u9 u10 H n => labK (E82_2 cal k m1) (Tr.set (Tr.set (Tr.set (Tr.set (Tr.set (Tr.set Tr.nil 10 (some u10)) 9 (some u9)) 3 (some u3)) 2 (some u2)) 1 (some u1)) 0 (some u0)) H n []) (R82_1 cal k m1) u0 u1 u2 u3 u9 u10 H n := by kernel_rfl
  rw [h, C82_4]
  have e5 : (fun u0 u1 u2 u3 u9 u10 u12 H n => labK (E82_5 cal k m1 m1) (Tr.set (Tr.set (Tr.set (Tr.set (Tr.set (Tr.set (Tr.set Tr.nil 12 (some u12)) 10 (some u10)) 9 (some u9)) 3 (some u3)) 2 (some u2)) 1 (some u1)) 0 (some u0)) H n []) = (S82_5 cal k m1 (R82_1 cal k m1) m1) := by funext u0 u1 u2 u3 u9 u10 u12 H n; exact q82_5 ..
  rw [e5]
  have e2 : (fun u0 u1 u2 u3 u9 u10 H n => labK (E82_2 cal k m1) (Tr.set (Tr.set (Tr.set (Tr.set (Tr.set (Tr.set Tr.nil 10 (some u10)) 9 (some u9)) 3 (some u3)) 2 (some u2)) 1 (some u1)) 0 (some u0)) H n []) = (C82_2 cal k m1 (R82_1 cal k m1)) := by funext u0 u1 u2 u3 u9 u10 H n; exact q82_2 ..
  rw [e2]
theorem q82_4 (cal : Cal) (k m1 : Nat) (u0 u1 u2 u3 u9 u10 : Value) (H : Hp) (n : Nat) : labK (E82_4 cal k m1) (Tr.set (Tr.set (Tr.set (Tr.set (Tr.set (Tr.set Tr.nil 10 (some u10)) 9 (some u9)) 3 (some u3)) 2 (some u2)) 1 (some u1)) 0 (some u0)) H n [] = C82_4 cal k m1 (R82_1 cal k m1) u0 u1 u2 u3 u9 u10 H n := h82_4 ..
noncomputable def B82_6 (cal : Cal) (k m1 m2 : Nat) (j4 : Value → Value → Value → Value → Value → Value → Hp → Nat → Res) (b1 : Value → Value → Value → Value → Value → Value → Hp → Nat → Res) (b6 : Value → Value → Value → Value → Value → Value → Value → Hp → Nat → Res) (u0 u1 u2 u3 u9 u10 u11 : Value) (H : Hp) (n : Nat) : Res :=
binK P Go.BinOp.geq 3 (Go.Operand.tmp 68) (Go.Operand.const (Go.Value.int Go.IntKind.i64 1)) u11 (Go.Value.int Go.IntKind.i64 1) fun v69_192 =>
ifK v69_192 (
bindO (indexAddrV P 54 u0 u11) fun v75_196 =>
bindO (addrV v75_196) fun a_197 => bindO (loadV P H 50 a_197) fun v_198 =>
binK P Go.BinOp.sub 3 (Go.Operand.tmp 78) (Go.Operand.const (Go.Value.int Go.IntKind.i64 1)) u11 (Go.Value.int Go.IntKind.i64 1) fun v79_201 =>
bindO (indexAddrV P 54 u0 v79_201) fun v80_202 =>
bindO (addrV v80_202) fun a_203 => bindO (loadV P H 50 a_203) fun v_204 =>
callVK P cal u3 [v_198, v_204] H n fun v82_205 H_206 n_207 =>
binK P Go.BinOp.lss 3 (Go.Operand.tmp 82) (Go.Operand.const (Go.Value.int Go.IntKind.i64 0)) v82_205 (Go.Value.int Go.IntKind.i64 0) fun v83_208 =>
bindO (pureSem P v83_208 (Op.unary Go.UnOp.not v83_208)) fun v84_209 =>
ifK v84_209 (
j4 u0 u1 u2 u3 u9 u10 H_206 n_207) (
binK P Go.BinOp.sub 3 (Go.Operand.tmp 88) (Go.Operand.const (Go.Value.int Go.IntKind.i64 1)) u11 (Go.Value.int Go.IntKind.i64 1) fun v89_214 =>
binK P Go.BinOp.sub 3 (Go.Operand.tmp 91) (Go.Operand.const (Go.Value.int Go.IntKind.i64 1)) u11 (Go.Value.int Go.IntKind.i64 1) fun v92_217 =>
bindO (indexAddrV P 54 u0 v92_217) fun v93_218 =>
bindO (addrV v93_218) fun a_219 => bindO (loadV P H_206 50 a_219) fun v_220 =>
bindO (indexAddrV P 54 u0 u11) fun v97_223 =>
bindO (addrV v97_223) fun a_224 => bindO (loadV P H_206 50 a_224) fun v_225 =>
bindO (indexAddrV P 54 u0 u11) fun v99_226 =>
bindO (storeP P 50 v99_226 v_220 H_206) fun H_228 =>
bindO (indexAddrV P 54 u0 v89_214) fun v100_229 =>
bindO (storeP P 50 v100_229 v_225 H_228) fun H_231 =>
binK P Go.BinOp.sub 3 (Go.Operand.tmp 70) (Go.Operand.const (Go.Value.int Go.IntKind.i64 1)) u11 (Go.Value.int Go.IntKind.i64 1) fun v71_233 =>
b6 u0 u1 u2 u3 u9 u10 v71_233 H_231 n_207)) (
j4 u0 u1 u2 u3 u9 u10 H n)
noncomputable def C82_6 (cal : Cal) (k m1 m2 : Nat) (b1 : Value → Value → Value → Value → Value → Value → Hp → Nat → Res) (b6 : Value → Value → Value → Value → Value → Value → Value → Hp → Nat → Res) (u0 u1 u2 u3 u9 u10 u11 : Value) (H : Hp) (n : Nat) : Res := B82_6 cal k m1 m2 (C82_4 cal k m1 b1) b1 b6 u0 u1 u2 u3 u9 u10 u11 H n
noncomputable def S82_6 (cal : Cal) (k m1 : Nat) (b1 : Value → Value → Value → Value → Value → Value → Hp → Nat → Res) : Nat → Value → Value → Value → Value → Value → Value → Value → Hp → Nat → Res := fun m => Nat.rec (motive := fun _ => Value → Value → Value → Value → Value → Value → Value → Hp → Nat → Res) (C82_6 cal k m1 0 b1 (fun _ _ _ _ _ _ _ _ _ => none)) (fun m ih => C82_6 cal k m1 (m + 1) b1 ih) m
theorem h82_6 (cal : Cal) (k m1 m2 : Nat) (u0 u1 u2 u3 u9 u10 u11 : Value) (H : Hp) (n : Nat) : labK (E82_6 cal k m1 m2) (Tr.set (Tr.set (Tr.set (Tr.set (Tr.set (Tr.set (Tr.set Tr.nil 11 (some u11)) 10 (some u10)) 9 (some u9)) 3 (some u3)) 2 (some u2)) 1 (some u1)) 0 (some u0)) H n [] = C82_6 cal k m1 m2 (R82_1 cal k m1) (R82_6 cal k m1 m2) u0 u1 u2 u3 u9 u10 u11 H n := by
  have h : labK (E82_6 cal k m1 m2) (Tr.set (Tr.set (Tr.set (Tr.set (Tr.set (Tr.set (Tr.set Tr.nil 11 (some u11)) 10 (some u10)) 9 (some u9)) 3 (some u3)) 2 (some u2)) 1 (some u1)) 0 (some u0)) H n [] = B82_6 cal k m1 m2 (fun u0 u1 u2 u3 u9 u10 H n => labK (E82_4 cal k m1) (Tr.set (Tr.set (Tr.set (Tr.set (Tr.set (Tr.set Tr.nil 10 (some u10)) 9 (some u9)) 3 (some u3)) 2 (some u2)) 1 (some u1)) 0 (some u0)) H n []) (R82_1 cal k m1) (R82_6 cal k m1 m2) u0 u1 u2 u3 u9 u10 u11 H n := by kernel_rfl
  rw [h, C82_6]
  have e4 : (fun u0 u1 u2 u3 u9 u10 H n => labK (E82_4 cal k m1) (Tr.set (Tr.set (Tr.set (Tr.set (Tr.set (Tr.set Tr.nil 10 (some u10)) 9 (some u9)) 3 (some u3)) 2 (some u2)) 1 (some u1)) 0 (some u0)) H n []) = (C82_4 cal k m1 (R82_1 cal k m1)) := by funext u0 u1 u2 u3 u9 u10 H n; exact q82_4 ..
  rw [e4]
theorem q82_6 (cal : Cal) (k m1 : Nat) : ∀ (m : Nat) (u0 u1 u2 u3 u9 u10 u11 : Value) (H : Hp) (n : Nat), labK (E82_6 cal k m1 m) (Tr.set (Tr.set (Tr.set (Tr.set (Tr.set (Tr.set (Tr.set Tr.nil 11 (some u11)) 10 (some u10)) 9 (some u9)) 3 (some u3)) 2 (some u2)) 1 (some u1)) 0 (some u0)) H n [] = S82_6 cal k m1 (R82_1 cal k m1) m u0 u1 u2 u3 u9 u10 u11 H n
  | 0, u0, u1, u2, u3, u9, u10, u11, H, n => by
    rw [h82_6]
    have e : R82_6 cal k m1 0 = fun _ _ _ _ _ _ _ _ _ => none := by funext u0 u1 u2 u3 u9 u10 u11 H n; kernel_rfl
    rw [e]; rfl
  | m + 1, u0, u1, u2, u3, u9, u10, u11, H, n => by
    rw [h82_6]
    have e : R82_6 cal k m1 (m + 1) = S82_6 cal k m1 (R82_1 cal k m1) m := by
      funext u0 u1 u2 u3 u9 u10 u11 H n
      have e : R82_6 cal k m1 (m + 1) u0 u1 u2 u3 u9 u10 u11 H n = labK (E82_6 cal k m1 m) (Tr.set (Tr.set (Tr.set (Tr.set (Tr.set (Tr.set (Tr.set Tr.nil 11 (some u11)) 10 (some u10)) 9 (some u9)) 3 (some u3)) 2 (some u2)) 1 (some u1)) 0 (some u0)) H n [] := by kernel_rfl
      rw [e]; exact q82_6 ..
    rw [e]; rfl
noncomputable def B82_3 (cal : Cal) (k m1 m2 : Nat) (j6 : Value → Value → Value → Value → Value → Value → Value → Hp → Nat → Res) (j4 : Value → Value → Value → Value → Value → Value → Hp → Nat → Res) (b1 : Value → Value → Value → Value → Value → Value → Hp → Nat → Res) (b3 : Value → Value → Value → Value → Value → Value → Hp → Nat → Res) (u0 u1 u2 u3 u9 u10 : Value) (H : Hp) (n : Nat) : Res :=
binK P Go.BinOp.lss 3 (Go.Operand.tmp 19) (Go.Operand.tmp 20) u9 u2 fun v21_13 =>
guardD v21_13 true (fun k_15 =>
k_15 u3 .p H n) .p H n fun v_16 x_17 H_18 n_19 =>
guardD v21_13 true (fun k_21 =>
k_21 u0 .p H_18 n_19) .p H_18 n_19 fun v_22 x_23 H_24 n_25 =>
guardD v21_13 true (fun k_27 =>
k_27 u9 .p H_24 n_25) .p H_24 n_25 fun v_28 x_29 H_30 n_31 =>
guardD v21_13 true (fun k_33 =>
bindO (indexAddrV P 54 v_22 v_28) fun v26_38 =>
k_33 v26_38 .p H_30 n_31) .p H_30 n_31 fun v_34 x_35 H_36 n_37 =>
guardD v21_13 true (fun k_39 =>
bindO (addrV v_34) fun a_44 => bindO (loadV P H_36 50 a_44) fun v_45 =>
k_39 v_45 (.l 50 a_44) H_36 n_37) .p H_36 n_37 fun v_40 x_41 H_42 n_43 =>
guardD v21_13 true (fun k_46 =>
k_46 u0 .p H_42 n_43) .p H_42 n_43 fun v_47 x_48 H_49 n_50 =>
guardD v21_13 true (fun k_52 =>
k_52 u9 .p H_49 n_50) .p H_49 n_50 fun v_53 x_54 H_55 n_56 =>
guardD v21_13 true (fun k_58 =>
binK P Go.BinOp.sub 3 (Go.Operand.tmp 29) (Go.Operand.const (Go.Value.int Go.IntKind.i64 1)) v_53 (Go.Value.int Go.IntKind.i64 1) fun v30_63 =>
k_58 v30_63 .p H_55 n_56) .p H_55 n_56 fun v_59 x_60 H_61 n_62 =>
guardD v21_13 true (fun k_64 =>
bindO (indexAddrV P 54 v_47 v_59) fun v31_69 =>
k_64 v31_69 .p H_61 n_62) .p H_61 n_62 fun v_65 x_66 H_67 n_68 =>
guardD v21_13 true (fun k_70 =>
bindO (addrV v_65) fun a_75 => bindO (loadV P H_67 50 a_75) fun v_76 =>
k_70 v_76 (.l 50 a_75) H_67 n_68) .p H_67 n_68 fun v_71 x_72 H_73 n_74 =>
guardD v21_13 true (fun k_77 =>
callVK P cal v_16 [v_40, v_71] H_73 n_74 fun v33_82 H_83 n_84 =>
k_77 v33_82 .e H_83 n_84) .e H_73 n_74 fun v_78 x_79 H_80 n_81 =>
guardD v21_13 true (fun k_85 =>
binK P Go.BinOp.lss 3 (Go.Operand.tmp 33) (Go.Operand.const (Go.Value.int Go.IntKind.i64 0)) v_78 (Go.Value.int Go.IntKind.i64 0) fun v34_90 =>
k_85 v34_90 .p H_80 n_81) .p H_80 n_81 fun v_86 x_87 H_88 n_89 =>
guardD v21_13 true (fun k_91 =>
bindO (pureSem P v_86 (Op.unary Go.UnOp.not v_86)) fun v35_96 =>
k_91 v35_96 .p H_88 n_89) .p H_88 n_89 fun v_92 x_93 H_94 n_95 =>
bindO (pickV v21_13 v_92 (Go.Value.bool false)) fun v36_97 =>
ifK v36_97 (
binK P Go.BinOp.add 3 (Go.Operand.tmp 37) (Go.Operand.const (Go.Value.int Go.IntKind.i64 1)) u9 (Go.Value.int Go.IntKind.i64 1) fun v38_99 =>
b3 u0 u1 u2 u3 v38_99 u10 H_94 n_95) (
binK P Go.BinOp.eql 3 (Go.Operand.tmp 39) (Go.Operand.tmp 40) u9 u2 fun v41_103 =>
ifK v41_103 (
some ((Go.Value.bool true), H_94, n_95)) (
binK P Go.BinOp.sub 3 (Go.Operand.tmp 42) (Go.Operand.tmp 43) u2 u1 fun v44_107 =>
binK P Go.BinOp.lss 3 (Go.Operand.tmp 44) (Go.Operand.const (Go.Value.int Go.IntKind.i64 50)) v44_107 (Go.Value.int Go.IntKind.i64 50) fun v45_108 =>
ifK v45_108 (
some ((Go.Value.bool false), H_94, n_95)) (
binK P Go.BinOp.sub 3 (Go.Operand.tmp 49) (Go.Operand.const (Go.Value.int Go.IntKind.i64 1)) u9 (Go.Value.int Go.IntKind.i64 1) fun v50_114 =>
binK P Go.BinOp.sub 3 (Go.Operand.tmp 52) (Go.Operand.const (Go.Value.int Go.IntKind.i64 1)) u9 (Go.Value.int Go.IntKind.i64 1) fun v53_117 =>
bindO (indexAddrV P 54 u0 v53_117) fun v54_118 =>
bindO (addrV v54_118) fun a_119 => bindO (loadV P H_94 50 a_119) fun v_120 =>
bindO (indexAddrV P 54 u0 u9) fun v58_123 =>
bindO (addrV v58_123) fun a_124 => bindO (loadV P H_94 50 a_124) fun v_125 =>
bindO (indexAddrV P 54 u0 u9) fun v60_126 =>
bindO (storeP P 50 v60_126 v_120 H_94) fun H_128 =>
bindO (indexAddrV P 54 u0 v50_114) fun v61_129 =>
bindO (storeP P 50 v61_129 v_125 H_128) fun H_131 =>
binK P Go.BinOp.sub 3 (Go.Operand.tmp 62) (Go.Operand.tmp 63) u9 u1 fun v64_186 =>
binK P Go.BinOp.geq 3 (Go.Operand.tmp 64) (Go.Operand.const (Go.Value.int Go.IntKind.i64 2)) v64_186 (Go.Value.int Go.IntKind.i64 2) fun v65_187 =>
ifK v65_187 (
binK P Go.BinOp.sub 3 (Go.Operand.tmp 66) (Go.Operand.const (Go.Value.int Go.IntKind.i64 1)) u9 (Go.Value.int Go.IntKind.i64 1) fun v67_189 =>
j6 u0 u1 u2 u3 u9 u10 v67_189 H_131 n_95) (
j4 u0 u1 u2 u3 u9 u10 H_131 n_95))))
noncomputable def C82_3 (cal : Cal) (k m1 m2 : Nat) (b1 : Value → Value → Value → Value → Value → Value → Hp → Nat → Res) (b3 : Value → Value → Value → Value → Value → Value → Hp → Nat → Res) (u0 u1 u2 u3 u9 u10 : Value) (H : Hp) (n : Nat) : Res := B82_3 cal k m1 m2 (S82_6 cal k m1 b1 m1) (C82_4 cal k m1 b1) b1 b3 u0 u1 u2 u3 u9 u10 H n
noncomputable def S82_3 (cal : Cal) (k m1 : Nat) (b1 : Value → Value → Value → Value → Value → Value → Hp → Nat → Res) : Nat → Value → Value → Value → Value → Value → Value → Hp → Nat → Res := fun m => Nat.rec (motive := fun _ => Value → Value → Value → Value → Value → Value → Hp → Nat → Res) (C82_3 cal k m1 0 b1 (fun _ _ _ _ _ _ _ _ => none)) (fun m ih => C82_3 cal k m1 (m + 1) b1 ih) m
theorem h82_3 (cal : Cal) (k m1 m2 : Nat) (u0 u1 u2 u3 u9 u10 : Value) (H : Hp) (n : Nat) : labK (E82_3 cal k m1 m2) (Tr.set (Tr.set (Tr.set (Tr.set (Tr.set (Tr.set Tr.nil 10 (some u10)) 9 (some u9)) 3 (some u3)) 2 (some u2)) 1 (some u1)) 0 (some u0)) H n [] = C82_3 cal k m1 m2 (R82_1 cal k m1) (R82_3 cal k m1 m2) u0 u1 u2 u3 u9 u10 H n := by
  have h : labK (E82_3 cal k m1 m2) (Tr.set (Tr.set (Tr.set (Tr.set (Tr.set (Tr.set Tr.nil 10 (some u10)) 9 (some u9)) 3 (some u3)) 2 (some u2)) 1 (some u1)) 0 (some u0)) H n [] = B82_3 cal k m1 m2 (fun u0 u1 u2 u3 u9 u10 u11 H n => labK (E82_6 cal k m1 m1) (Tr.set (Tr.set (Tr.set (Tr.set (Tr.set (Tr.set (Tr.set Tr.nil 11 (some u11)) 10 (some u10)) 9 (some u9)) 3 (some u3)) 2 (some u2)) 1 (some u1)) 0 (some u0)) H n []) (fun u0 u1 u2 u3 u9 u10 H n => labK (E82_4 cal k m1) (Tr.set (Tr.set (Tr.set (Tr.set (Tr.set (Tr.set Tr.nil 10 (some u10)) 9 (some u9)) 3 (some u3)) 2 (some u2)) 1 (some u1)) 0 (some u0)) H n []) (R82_1 cal k m1) (R82_3 cal k m1 m2) u0 u1 u2 u3 u9 u10 H n := by kernel_rfl
  rw [h, C82_3]
  have e6 : (fun u0 u1 u2 u3 u9 u10 u11 H n => labK (E82_6 cal k m1 m1) (Tr.set (Tr.set (Tr.set (Tr.set (Tr.set (Tr.set (Tr.set Tr.nil 11 (some u11)) 10 (some u10)) 9 (some u9)) 3 (some u3)) 2 (some u2)) 1 (some u1)) 0 (some u0)) H n []) = (S82_6 cal k m1 (R82_1 cal k m1) m1) := by funext u0 u1 u2 u3 u9 u10 u11 H n; exact q82_6 ..
  rw [e6]
  have e4 : (fun u0 u1 u2 u3 u9 u10 H n => labK (E82_4 cal k m1) (Tr.set (Tr.set (Tr.set (Tr.set (Tr.set (Tr.set Tr.nil 10 (some u10)) 9 (some u9)) 3 (some u3)) 2 (some u2)) 1 (some u1)) 0 (some u0)) H n []) = (C82_4 cal k m1 (R82_1 cal k m1)) := by funext u0 u1 u2 u3 u9 u10 H n; exact q82_4 ..
  rw [e4]
theorem q82_3 (cal : Cal) (k m1 : Nat) : ∀ (m : Nat) (u0 u1 u2 u3 u9 u10 : Value) (H : Hp) (n : Nat), labK (E82_3 cal k m1 m) (Tr.set (Tr.set (Tr.set (Tr.set (Tr.set (Tr.set Tr.nil 10 (some u10)) 9 (some u9)) 3 (some u3)) 2 (some u2)) 1 (some u1)) 0 (some u0)) H n [] = S82_3 cal k m1 (R82_1 cal k m1) m u0 u1 u2 u3 u9 u10 H n
  | 0, u0, u1, u2, u3, u9, u10, H, n => by
    rw [h82_3]
    have e : R82_3 cal k m1 0 = fun _ _ _ _ _ _ _ _ => none := by funext u0 u1 u2 u3 u9 u10 H n; kernel_rfl
    rw [e]; rfl
  | m + 1, u0, u1, u2, u3, u9, u10, H, n => by
    rw [h82_3]
    have e : R82_3 cal k m1 (m + 1) = S82_3 cal k m1 (R82_1 cal k m1) m := by
      funext u0 u1 u2 u3 u9 u10 H n
      have e : R82_3 cal k m1 (m + 1) u0 u1 u2 u3 u9 u10 H n = labK (E82_3 cal k m1 m) (Tr.set (Tr.set (Tr.set (Tr.set (Tr.set (Tr.set Tr.nil 10 (some u10)) 9 (some u9)) 3 (some u3)) 2 (some u2)) 1 (some u1)) 0 (some u0)) H n [] := by kernel_rfl
      rw [e]; exact q82_3 ..
    rw [e]; rfl
noncomputable def B82_1 (cal : Cal) (k m1 : Nat) (j3 : Value → Value → Value → Value → Value → Value → Hp → Nat → Res) (b1 : Value → Value → Value → Value → Value → Value → Hp → Nat → Res) (u0 u1 u2 u3 u9 u10 : Value) (H : Hp) (n : Nat) : Res :=
binK P Go.BinOp.lss 3 (Go.Operand.tmp 15) (Go.Operand.const (Go.Value.int Go.IntKind.i64 5)) u10 (Go.Value.int Go.IntKind.i64 5) fun v16_7 =>
ifK v16_7 (
j3 u0 u1 u2 u3 u9 u10 H n) (
some ((Go.Value.bool false), H, n))
noncomputable def C82_1 (cal : Cal) (k m1 : Nat) (b1 : Value → Value → Value → Value → Value → Value → Hp → Nat → Res) (u0 u1 u2 u3 u9 u10 : Value) (H : Hp) (n : Nat) : Res := B82_1 cal k m1 (S82_3 cal k m1 b1 m1) b1 u0 u1 u2 u3 u9 u10 H n
noncomputable def S82_1 (cal : Cal) (k : Nat) : Nat → Value → Value → Value → Value → Value → Value → Hp → Nat → Res := fun m => Nat.rec (motive := fun _ => Value → Value → Value → Value → Value → Value → Hp → Nat → Res) (C82_1 cal k 0 (fun _ _ _ _ _ _ _ _ => none)) (fun m ih => C82_1 cal k (m + 1) ih) m
theorem h82_1 (cal : Cal) (k m1 : Nat) (u0 u1 u2 u3 u9 u10 : Value) (H : Hp) (n : Nat) : labK (E82_1 cal k m1) (Tr.set (Tr.set (Tr.set (Tr.set (Tr.set (Tr.set Tr.nil 10 (some u10)) 9 (some u9)) 3 (some u3)) 2 (some u2)) 1 (some u1)) 0 (some u0)) H n [] = C82_1 cal k m1 (R82_1 cal k m1) u0 u1 u2 u3 u9 u10 H n := by
  have h : labK (E82_1 cal k m1) (Tr.set (Tr.set (Tr.set (Tr.set (Tr.set (Tr.set Tr.nil 10 (some u10)) 9 (some u9)) 3 (some u3)) 2 (some u2)) 1 (some u1)) 0 (some u0)) H n [] = B82_1 cal k m1 (fun u0 u1 u2 u3 u9 u10 H n => labK (E82_3 cal k m1 m1) (Tr.set (Tr.set (Tr.set (Tr.set (Tr.set (Tr.set Tr.nil 10 (some u10)) 9 (some u9)) 3 (some u3)) 2 (some u2)) 1 (some u1)) 0 (some u0)) H n []) (R82_1 cal k m1) u0 u1 u2 u3 u9 u10 H n := by kernel_rfl
  rw [h, C82_1]
  have e3 : (fun u0 u1 u2 u3 u9 u10 H n => labK (E82_3 cal k m1 m1) (Tr.set (Tr.set (Tr.set (Tr.set (Tr.set (Tr.set Tr.nil 10 (some u10)) 9 (some u9)) 3 (some u3)) 2 (some u2)) 1 (some u1)) 0 (some u0)) H n []) = (S82_3 cal k m1 (R82_1 cal k m1) m1) := by funext u0 u1 u2 u3 u9 u10 H n; exact q82_3 ..
  rw [e3]
theorem q82_1 (cal : Cal) (k : Nat) : ∀ (m : Nat) (u0 u1 u2 u3 u9 u10 : Value) (H : Hp) (n : Nat), labK (E82_1 cal k m) (Tr.set (Tr.set (Tr.set (Tr.set (Tr.set (Tr.set Tr.nil 10 (some u10)) 9 (some u9)) 3 (some u3)) 2 (some u2)) 1 (some u1)) 0 (some u0)) H n [] = S82_1 cal k m u0 u1 u2 u3 u9 u10 H n
  | 0, u0, u1, u2, u3, u9, u10, H, n => by
    rw [h82_1]
    have e : R82_1 cal k 0 = fun _ _ _ _ _ _ _ _ => none := by funext u0 u1 u2 u3 u9 u10 H n; kernel_rfl
    rw [e]; rfl
  | m + 1, u0, u1, u2, u3, u9, u10, H, n => by
    rw [h82_1]
    have e : R82_1 cal k (m + 1) = S82_1 cal k m := by
      funext u0 u1 u2 u3 u9 u10 H n
      have e : R82_1 cal k (m + 1) u0 u1 u2 u3 u9 u10 H n = labK (E82_1 cal k m) (Tr.set (Tr.set (Tr.set (Tr.set (Tr.set (Tr.set Tr.nil 10 (some u10)) 9 (some u9)) 3 (some u3)) 2 (some u2)) 1 (some u1)) 0 (some u0)) H n [] := by kernel_rfl
      rw [e]; exact q82_1 ..
    rw [e]; rfl
noncomputable def B82_0 (cal : Cal) (k : Nat) (j1 : Value → Value → Value → Value → Value → Value → Hp → Nat → Res) (v0 v1 v2 v3 : Value) (H : Hp) (n : Nat) : Res :=
binK P Go.BinOp.add 3 (Go.Operand.tmp 13) (Go.Operand.const (Go.Value.int Go.IntKind.i64 1)) v1 (Go.Value.int Go.IntKind.i64 1) fun v14_3 =>
j1 v0 v1 v2 v3 v14_3 (Go.Value.int Go.IntKind.i64 0) H n
noncomputable def C82_0 (cal : Cal) (k : Nat) (v0 v1 v2 v3 : Value) (H : Hp) (n : Nat) : Res := B82_0 cal k (S82_1 cal k k) v0 v1 v2 v3 H n
theorem h82_0 (cal : Cal) (k : Nat) (v0 v1 v2 v3 : Value) (H : Hp) (n : Nat) : bodyE P cal A (k + 1) 82 [v0, v1, v2, v3] H n = C82_0 cal k v0 v1 v2 v3 H n := by
  have h : bodyE P cal A (k + 1) 82 [v0, v1, v2, v3] H n = B82_0 cal k (fun u0 u1 u2 u3 u9 u10 H n => labK (E82_1 cal k k) (Tr.set (Tr.set (Tr.set (Tr.set (Tr.set (Tr.set Tr.nil 10 (some u10)) 9 (some u9)) 3 (some u3)) 2 (some u2)) 1 (some u1)) 0 (some u0)) H n []) v0 v1 v2 v3 H n := by
    rw [body_eq (fn := Go.Proofs.Try.f82) (c := code82) (rs := results82) (by kernel_rfl) (by kernel_rfl) (by kernel_rfl) (by kernel_rfl)]
    kernel_rfl
  rw [h, C82_0]
  have e1 : (fun u0 u1 u2 u3 u9 u10 H n => labK (E82_1 cal k k) (Tr.set (Tr.set (Tr.set (Tr.set (Tr.set (Tr.set Tr.nil 10 (some u10)) 9 (some u9)) 3 (some u3)) 2 (some u2)) 1 (some u1)) 0 (some u0)) H n []) = (S82_1 cal k k) := by funext u0 u1 u2 u3 u9 u10 H n; exact q82_1 ..
  rw [e1]
end Go.Proofs.Ytakjjillnllocab.P
