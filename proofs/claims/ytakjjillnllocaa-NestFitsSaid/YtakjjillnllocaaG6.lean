/- The texts of functions, each with the proof that the evaluator says the same. -/
import Derived.Test.YtakjjillnllocaaG1
open Go Go.Ev
set_option maxRecDepth 1000000
set_option linter.unusedVariables false
noncomputable section
namespace Go.Proofs.Ytakjjillnllocaa.G
noncomputable def code106 : Code := codeOf 106
noncomputable def results106 : List ResultVar := resOf 106
noncomputable def K106_p (cal : Cal) (k : Nat) : KC (Value × Hp × Nat) := (cutK (A 106).c (codeE P cal (codeF P cal k) none 106 (cR code106) (Lv.b (A 106)) (doneK P results106) X0 (doneK P results106)))
noncomputable def K106_pr (cal : Cal) (k : Nat) : KC (Value × Hp × Nat) := (cutK (Lv.b (A 106)).c (codeE P cal (codeF P cal k) none 106 (cR (cR code106)) (Lv.b (Lv.b (A 106))) (doneK P results106) X0 (doneK P results106)))
noncomputable def K106_prl (cal : Cal) (k : Nat) : KC (Value × Hp × Nat) := (cutK (Lv.a (Lv.b (A 106))).c (codeE P cal (codeF P cal k) none 106 (cR (cL (cR code106))) (Lv.b (Lv.a (Lv.b (A 106)))) (K106_pr cal k) X0 (doneK P results106)))
noncomputable def K106_pxrlr (cal : Cal) (k : Nat) : XC (Value × Hp × Nat) := (upX 0 (K106_pr cal k) X0)
noncomputable def K106_prlrl (cal : Cal) (k : Nat) (m1 : Nat) : KC (Value × Hp × Nat) := (fun T H n D => codeF P cal m1 (Lv.a (Lv.b (Lv.a (Lv.b (A 106))))) none 106 (cL (cR (cL (cR code106)))) (K106_pr cal k) (K106_pxrlr cal k) (doneK P results106) (cutT (Lv.a (Lv.b (Lv.a (Lv.b (A 106))))).c T) H n D)
noncomputable def K106_prlrll (cal : Cal) (k : Nat) (m1 : Nat) : KC (Value × Hp × Nat) := (cutK (Lv.a (Lv.a (Lv.b (Lv.a (Lv.b (A 106)))))).c (codeE P cal (codeF P cal m1) none 106 (cR (cL (cL (cR (cL (cR code106)))))) (Lv.b (Lv.a (Lv.a (Lv.b (Lv.a (Lv.b (A 106))))))) (K106_prlrl cal k m1) (K106_pxrlr cal k) (doneK P results106)))
noncomputable def K106_prlrllr (cal : Cal) (k : Nat) (m1 : Nat) : KC (Value × Hp × Nat) := (cutK (Lv.b (Lv.a (Lv.a (Lv.b (Lv.a (Lv.b (A 106))))))).c (codeE P cal (codeF P cal m1) none 106 (cR (cR (cL (cL (cR (cL (cR code106))))))) (Lv.b (Lv.b (Lv.a (Lv.a (Lv.b (Lv.a (Lv.b (A 106)))))))) (K106_prlrl cal k m1) (K106_pxrlr cal k) (doneK P results106)))
noncomputable def K106_prlrllrr (cal : Cal) (k : Nat) (m1 : Nat) : KC (Value × Hp × Nat) := (cutK (Lv.b (Lv.b (Lv.a (Lv.a (Lv.b (Lv.a (Lv.b (A 106)))))))).c (codeE P cal (codeF P cal m1) none 106 (cR (cR (cR (cL (cL (cR (cL (cR code106)))))))) (Lv.b (Lv.b (Lv.b (Lv.a (Lv.a (Lv.b (Lv.a (Lv.b (A 106))))))))) (K106_prlrl cal k m1) (K106_pxrlr cal k) (doneK P results106)))
noncomputable def K106_pxrlrllrrl (cal : Cal) (k : Nat) (m1 : Nat) : XC (Value × Hp × Nat) := (upX 1 (K106_prlrllrr cal k m1) (K106_pxrlr cal k))
noncomputable def K106_prlrllrrll (cal : Cal) (k : Nat) (m1 : Nat) : KC (Value × Hp × Nat) := (cutK (Lv.a (Lv.a (Lv.b (Lv.b (Lv.a (Lv.a (Lv.b (Lv.a (Lv.b (A 106)))))))))).c (codeE P cal (codeF P cal m1) none 106 (cR (cL (cL (cR (cR (cL (cL (cR (cL (cR code106)))))))))) (Lv.b (Lv.a (Lv.a (Lv.b (Lv.b (Lv.a (Lv.a (Lv.b (Lv.a (Lv.b (A 106))))))))))) (K106_prlrllrr cal k m1) (K106_pxrlrllrrl cal k m1) (doneK P results106)))
noncomputable def K106_prr (cal : Cal) (k : Nat) : KC (Value × Hp × Nat) := (cutK (Lv.b (Lv.b (A 106))).c (codeE P cal (codeF P cal k) none 106 (cR (cR (cR code106))) (Lv.b (Lv.b (Lv.b (A 106)))) (doneK P results106) X0 (doneK P results106)))
noncomputable def E106_1 (cal : Cal) (k m1 : Nat) : KC (Value × Hp × Nat) := codeE P cal (codeF P cal m1) none 106 (cL (cL (cR (cL (cR code106))))) (Lv.a (Lv.a (Lv.b (Lv.a (Lv.b (A 106)))))) (K106_prlrl cal k m1) (K106_pxrlr cal k) (doneK P results106)
noncomputable def R106_1 (cal : Cal) (k m1 : Nat) : Value → Value → Value → Value → Hp → Nat → Res := fun u0 u7 u8 u9 H n => codeF P cal m1 (Lv.a (Lv.b (Lv.a (Lv.b (A 106))))) none 106 (cL (cR (cL (cR code106)))) (K106_pr cal k) (K106_pxrlr cal k) (doneK P results106) (Tr.set (Tr.set (Tr.set (Tr.set Tr.nil 9 (some u9)) 8 (some u8)) 7 (some u7)) 0 (some u0)) H n []
noncomputable def B106_1 (cal : Cal) (k m1 : Nat) (b1 : Value → Value → Value → Value → Hp → Nat → Res) (u0 u7 u8 u9 : Value) (H : Hp) (n : Nat) : Res :=
binK P Go.BinOp.lss 3 (Go.Operand.tmp 9) (Go.Operand.tmp 8) u9 u8 fun v10_5 =>
ifK v10_5 (
bindO (indexAddrV P 44 u7 u9) fun v11_6 =>
bindO (addrV v11_6) fun a_8 => bindO (loadV P H 3 a_8) fun v12_7 =>
builtinK P .max [3, 3] (Go.Call.mk (Go.Callee.builtin Go.Builtin.max) #[(Go.Operand.tmp 13), (Go.Operand.tmp 14)] #[3, 3]) 3 [u0, v12_7] H n fun v15_12 H_13 n_14 =>
binK P Go.BinOp.add 3 (Go.Operand.tmp 9) (Go.Operand.const (Go.Value.int Go.IntKind.i64 1)) u9 (Go.Value.int Go.IntKind.i64 1) fun v16_16 =>
b1 v15_12 u7 u8 v16_16 H_13 n_14) (
some (u0, H, n))
noncomputable def C106_1 (cal : Cal) (k m1 : Nat) (b1 : Value → Value → Value → Value → Hp → Nat → Res) (u0 u7 u8 u9 : Value) (H : Hp) (n : Nat) : Res := B106_1 cal k m1 b1 u0 u7 u8 u9 H n
noncomputable def S106_1 (cal : Cal) (k : Nat) : Nat → Value → Value → Value → Value → Hp → Nat → Res := fun m => Nat.rec (motive := fun _ => Value → Value → Value → Value → Hp → Nat → Res) (C106_1 cal k 0 (fun _ _ _ _ _ _ => none)) (fun m ih => C106_1 cal k (m + 1) ih) m
theorem h106_1 (cal : Cal) (k m1 : Nat) (u0 u7 u8 u9 : Value) (H : Hp) (n : Nat) : labK (E106_1 cal k m1) (Tr.set (Tr.set (Tr.set (Tr.set Tr.nil 9 (some u9)) 8 (some u8)) 7 (some u7)) 0 (some u0)) H n [] = C106_1 cal k m1 (R106_1 cal k m1) u0 u7 u8 u9 H n := by
  have h : labK (E106_1 cal k m1) (Tr.set (Tr.set (Tr.set (Tr.set Tr.nil 9 (some u9)) 8 (some u8)) 7 (some u7)) 0 (some u0)) H n [] = B106_1 cal k m1 (R106_1 cal k m1) u0 u7 u8 u9 H n := by kernel_rfl
  rw [h, C106_1]
theorem q106_1 (cal : Cal) (k : Nat) : ∀ (m : Nat) (u0 u7 u8 u9 : Value) (H : Hp) (n : Nat), labK (E106_1 cal k m) (Tr.set (Tr.set (Tr.set (Tr.set Tr.nil 9 (some u9)) 8 (some u8)) 7 (some u7)) 0 (some u0)) H n [] = S106_1 cal k m u0 u7 u8 u9 H n
  | 0, u0, u7, u8, u9, H, n => by
    rw [h106_1]
    have e : R106_1 cal k 0 = fun _ _ _ _ _ _ => none := by funext u0 u7 u8 u9 H n; kernel_rfl
    rw [e]; rfl
  | m + 1, u0, u7, u8, u9, H, n => by
    rw [h106_1]
    have e : R106_1 cal k (m + 1) = S106_1 cal k m := by
      funext u0 u7 u8 u9 H n
      have e : R106_1 cal k (m + 1) u0 u7 u8 u9 H n = labK (E106_1 cal k m) (Tr.set (Tr.set (Tr.set (Tr.set Tr.nil 9 (some u9)) 8 (some u8)) 7 (some u7)) 0 (some u0)) H n [] := by kernel_rfl
      rw [e]; exact q106_1 ..
    rw [e]; rfl
noncomputable def B106_0 (cal : Cal) (k : Nat) (j1 : Value → Value → Value → Value → Hp → Nat → Res) (v0 v1 : Value) (H : Hp) (n : Nat) : Res :=
bindO (lenV P 44 v1) fun v8_3 =>
j1 v0 v1 v8_3 (Go.Value.int Go.IntKind.i64 0) H n
noncomputable def C106_0 (cal : Cal) (k : Nat) (v0 v1 : Value) (H : Hp) (n : Nat) : Res := B106_0 cal k (S106_1 cal k k) v0 v1 H n
theorem h106_0 (cal : Cal) (k : Nat) (v0 v1 : Value) (H : Hp) (n : Nat) : bodyE P cal A (k + 1) 106 [v0, v1] H n = C106_0 cal k v0 v1 H n := by
  have h : bodyE P cal A (k + 1) 106 [v0, v1] H n = B106_0 cal k (fun u0 u7 u8 u9 H n => labK (E106_1 cal k k) (Tr.set (Tr.set (Tr.set (Tr.set Tr.nil 9 (some u9)) 8 (some u8)) 7 (some u7)) 0 (some u0)) H n []) v0 v1 H n := by
    rw [body_eq (fn := Go.Proofs.Try.f106) (c := code106) (rs := results106) (by kernel_rfl) (by kernel_rfl) (by kernel_rfl) (by kernel_rfl)]
    kernel_rfl
  rw [h, C106_0]
  have e1 : (fun u0 u7 u8 u9 H n => labK (E106_1 cal k k) (Tr.set (Tr.set (Tr.set (Tr.set Tr.nil 9 (some u9)) 8 (some u8)) 7 (some u7)) 0 (some u0)) H n []) = (S106_1 cal k k) := by funext u0 u7 u8 u9 H n; exact q106_1 ..
  rw [e1]
noncomputable def code110 : Code := codeOf 110
noncomputable def results110 : List ResultVar := resOf 110
noncomputable def K110_p (cal : Cal) (k : Nat) : KC (Value × Hp × Nat) := (cutK (A 110).c (codeE P cal (codeF P cal k) none 110 (cR code110) (Lv.b (A 110)) (doneK P results110) X0 (doneK P results110)))
noncomputable def K110_pr (cal : Cal) (k : Nat) : KC (Value × Hp × Nat) := (cutK (Lv.b (A 110)).c (codeE P cal (codeF P cal k) none 110 (cR (cR code110)) (Lv.b (Lv.b (A 110))) (doneK P results110) X0 (doneK P results110)))
noncomputable def B110_0 (cal : Cal) (k : Nat) (v0 v1 : Value) (H : Hp) (n : Nat) : Res :=
boxK 105 v0 H n fun v2_1 H_2 n_3 =>
boxK 3 v1 H_2 n_3 fun v3_4 H_5 n_6 =>
some ((Value.func (Go.Fn.func 117) ⟨[]⟩ ⟨[v2_1, v3_4]⟩), H_5, n_6)
noncomputable def C110_0 (cal : Cal) (k : Nat) (v0 v1 : Value) (H : Hp) (n : Nat) : Res := B110_0 cal k v0 v1 H n
theorem h110_0 (cal : Cal) (k : Nat) (v0 v1 : Value) (H : Hp) (n : Nat) : bodyE P cal A (k + 1) 110 [v0, v1] H n = C110_0 cal k v0 v1 H n := by
  have h : bodyE P cal A (k + 1) 110 [v0, v1] H n = B110_0 cal k v0 v1 H n := by
    rw [body_eq (fn := Go.Proofs.Try.f110) (c := code110) (rs := results110) (by kernel_rfl) (by kernel_rfl) (by kernel_rfl) (by kernel_rfl)]
    kernel_rfl
  rw [h, C110_0]
noncomputable def code111 : Code := codeOf 111
noncomputable def results111 : List ResultVar := resOf 111
noncomputable def K111_p (cal : Cal) (k : Nat) : KC (Value × Hp × Nat) := (cutK (A 111).c (codeE P cal (codeF P cal k) none 111 (cR code111) (Lv.b (A 111)) (doneK P results111) X0 (doneK P results111)))
noncomputable def K111_pr (cal : Cal) (k : Nat) : KC (Value × Hp × Nat) := (cutK (Lv.b (A 111)).c (codeE P cal (codeF P cal k) none 111 (cR (cR code111)) (Lv.b (Lv.b (A 111))) (doneK P results111) X0 (doneK P results111)))
noncomputable def K111_prl (cal : Cal) (k : Nat) : KC (Value × Hp × Nat) := (cutK (Lv.a (Lv.b (A 111))).c (codeE P cal (codeF P cal k) none 111 (cR (cL (cR code111))) (Lv.b (Lv.a (Lv.b (A 111)))) (K111_pr cal k) X0 (doneK P results111)))
noncomputable def K111_pxrlr (cal : Cal) (k : Nat) : XC (Value × Hp × Nat) := (upX 0 (K111_pr cal k) X0)
noncomputable def K111_prlrl (cal : Cal) (k : Nat) (m1 : Nat) : KC (Value × Hp × Nat) := (fun T H n D => codeF P cal m1 (Lv.a (Lv.b (Lv.a (Lv.b (A 111))))) none 111 (cL (cR (cL (cR code111)))) (K111_pr cal k) (K111_pxrlr cal k) (doneK P results111) (cutT (Lv.a (Lv.b (Lv.a (Lv.b (A 111))))).c T) H n D)
noncomputable def K111_prlrll (cal : Cal) (k : Nat) (m1 : Nat) : KC (Value × Hp × Nat) := (cutK (Lv.a (Lv.a (Lv.b (Lv.a (Lv.b (A 111)))))).c (codeE P cal (codeF P cal m1) none 111 (cR (cL (cL (cR (cL (cR code111)))))) (Lv.b (Lv.a (Lv.a (Lv.b (Lv.a (Lv.b (A 111))))))) (K111_prlrl cal k m1) (K111_pxrlr cal k) (doneK P results111)))
noncomputable def K111_prlrllr (cal : Cal) (k : Nat) (m1 : Nat) : KC (Value × Hp × Nat) := (cutK (Lv.b (Lv.a (Lv.a (Lv.b (Lv.a (Lv.b (A 111))))))).c (codeE P cal (codeF P cal m1) none 111 (cR (cR (cL (cL (cR (cL (cR code111))))))) (Lv.b (Lv.b (Lv.a (Lv.a (Lv.b (Lv.a (Lv.b (A 111)))))))) (K111_prlrl cal k m1) (K111_pxrlr cal k) (doneK P results111)))
noncomputable def K111_prlrllrr (cal : Cal) (k : Nat) (m1 : Nat) : KC (Value × Hp × Nat) := (cutK (Lv.b (Lv.b (Lv.a (Lv.a (Lv.b (Lv.a (Lv.b (A 111)))))))).c (codeE P cal (codeF P cal m1) none 111 (cR (cR (cR (cL (cL (cR (cL (cR code111)))))))) (Lv.b (Lv.b (Lv.b (Lv.a (Lv.a (Lv.b (Lv.a (Lv.b (A 111))))))))) (K111_prlrl cal k m1) (K111_pxrlr cal k) (doneK P results111)))
noncomputable def K111_pxrlrllrrl (cal : Cal) (k : Nat) (m1 : Nat) : XC (Value × Hp × Nat) := (upX 1 (K111_prlrllrr cal k m1) (K111_pxrlr cal k))
noncomputable def K111_prlrllrrll (cal : Cal) (k : Nat) (m1 : Nat) : KC (Value × Hp × Nat) := (cutK (Lv.a (Lv.a (Lv.b (Lv.b (Lv.a (Lv.a (Lv.b (Lv.a (Lv.b (A 111)))))))))).c (codeE P cal (codeF P cal m1) none 111 (cR (cL (cL (cR (cR (cL (cL (cR (cL (cR code111)))))))))) (Lv.b (Lv.a (Lv.a (Lv.b (Lv.b (Lv.a (Lv.a (Lv.b (Lv.a (Lv.b (A 111))))))))))) (K111_prlrllrr cal k m1) (K111_pxrlrllrrl cal k m1) (doneK P results111)))
noncomputable def K111_prlrllrrllr (cal : Cal) (k : Nat) (m1 : Nat) : KC (Value × Hp × Nat) := (cutK (Lv.b (Lv.a (Lv.a (Lv.b (Lv.b (Lv.a (Lv.a (Lv.b (Lv.a (Lv.b (A 111))))))))))).c (codeE P cal (codeF P cal m1) none 111 (cR (cR (cL (cL (cR (cR (cL (cL (cR (cL (cR code111))))))))))) (Lv.b (Lv.b (Lv.a (Lv.a (Lv.b (Lv.b (Lv.a (Lv.a (Lv.b (Lv.a (Lv.b (A 111)))))))))))) (K111_prlrllrr cal k m1) (K111_pxrlrllrrl cal k m1) (doneK P results111)))
noncomputable def K111_prlrllrrllrrl (cal : Cal) (k : Nat) (m1 : Nat) : KC (Value × Hp × Nat) := (cutK (Lv.a (Lv.b (Lv.b (Lv.a (Lv.a (Lv.b (Lv.b (Lv.a (Lv.a (Lv.b (Lv.a (Lv.b (A 111))))))))))))).c (codeE P cal (codeF P cal m1) none 111 (cR (cL (cR (cR (cL (cL (cR (cR (cL (cL (cR (cL (cR code111))))))))))))) (Lv.b (Lv.a (Lv.b (Lv.b (Lv.a (Lv.a (Lv.b (Lv.b (Lv.a (Lv.a (Lv.b (Lv.a (Lv.b (A 111)))))))))))))) (K111_prlrllrr cal k m1) (K111_pxrlrllrrl cal k m1) (doneK P results111)))
noncomputable def K111_prr (cal : Cal) (k : Nat) : KC (Value × Hp × Nat) := (cutK (Lv.b (Lv.b (A 111))).c (codeE P cal (codeF P cal k) none 111 (cR (cR (cR code111))) (Lv.b (Lv.b (Lv.b (A 111)))) (doneK P results111) X0 (doneK P results111)))
noncomputable def E111_1 (cal : Cal) (k m1 : Nat) : KC (Value × Hp × Nat) := codeE P cal (codeF P cal m1) none 111 (cL (cL (cR (cL (cR code111))))) (Lv.a (Lv.a (Lv.b (Lv.a (Lv.b (A 111)))))) (K111_prlrl cal k m1) (K111_pxrlr cal k) (doneK P results111)
noncomputable def R111_1 (cal : Cal) (k m1 : Nat) : Value → Value → Value → Value → Hp → Nat → Res := fun u0 u3 u11 u12 H n => codeF P cal m1 (Lv.a (Lv.b (Lv.a (Lv.b (A 111))))) none 111 (cL (cR (cL (cR code111)))) (K111_pr cal k) (K111_pxrlr cal k) (doneK P results111) (Tr.set (Tr.set (Tr.set (Tr.set Tr.nil 12 (some u12)) 11 (some u11)) 3 (some u3)) 0 (some u0)) H n []
noncomputable def B111_1 (cal : Cal) (k m1 : Nat) (b1 : Value → Value → Value → Value → Hp → Nat → Res) (u0 u3 u11 u12 : Value) (H : Hp) (n : Nat) : Res :=
binK P Go.BinOp.lss 3 (Go.Operand.tmp 12) (Go.Operand.tmp 11) u12 u11 fun v13_13 =>
ifK v13_13 (
bindO (addrV u3) fun a_18 => bindO (loadV P H 111 a_18) fun v16_17 =>
callFK P cal 69 [u0, v16_17, u12] H n fun v18_20 H_21 n_22 =>
ifK v18_20 (
some ((Go.Value.bool false), H_21, n_22)) (
binK P Go.BinOp.add 3 (Go.Operand.tmp 12) (Go.Operand.const (Go.Value.int Go.IntKind.i64 1)) u12 (Go.Value.int Go.IntKind.i64 1) fun v19_24 =>
b1 u0 u3 u11 v19_24 H_21 n_22)) (
some ((Go.Value.bool true), H, n))
noncomputable def C111_1 (cal : Cal) (k m1 : Nat) (b1 : Value → Value → Value → Value → Hp → Nat → Res) (u0 u3 u11 u12 : Value) (H : Hp) (n : Nat) : Res := B111_1 cal k m1 b1 u0 u3 u11 u12 H n
noncomputable def S111_1 (cal : Cal) (k : Nat) : Nat → Value → Value → Value → Value → Hp → Nat → Res := fun m => Nat.rec (motive := fun _ => Value → Value → Value → Value → Hp → Nat → Res) (C111_1 cal k 0 (fun _ _ _ _ _ _ => none)) (fun m ih => C111_1 cal k (m + 1) ih) m
theorem h111_1 (cal : Cal) (k m1 : Nat) (u0 u3 u11 u12 : Value) (H : Hp) (n : Nat) : labK (E111_1 cal k m1) (Tr.set (Tr.set (Tr.set (Tr.set Tr.nil 12 (some u12)) 11 (some u11)) 3 (some u3)) 0 (some u0)) H n [] = C111_1 cal k m1 (R111_1 cal k m1) u0 u3 u11 u12 H n := by
  have h : labK (E111_1 cal k m1) (Tr.set (Tr.set (Tr.set (Tr.set Tr.nil 12 (some u12)) 11 (some u11)) 3 (some u3)) 0 (some u0)) H n [] = B111_1 cal k m1 (R111_1 cal k m1) u0 u3 u11 u12 H n := by kernel_rfl
  rw [h, C111_1]
theorem q111_1 (cal : Cal) (k : Nat) : ∀ (m : Nat) (u0 u3 u11 u12 : Value) (H : Hp) (n : Nat), labK (E111_1 cal k m) (Tr.set (Tr.set (Tr.set (Tr.set Tr.nil 12 (some u12)) 11 (some u11)) 3 (some u3)) 0 (some u0)) H n [] = S111_1 cal k m u0 u3 u11 u12 H n
  | 0, u0, u3, u11, u12, H, n => by
    rw [h111_1]
    have e : R111_1 cal k 0 = fun _ _ _ _ _ _ => none := by funext u0 u3 u11 u12 H n; kernel_rfl
    rw [e]; rfl
  | m + 1, u0, u3, u11, u12, H, n => by
    rw [h111_1]
    have e : R111_1 cal k (m + 1) = S111_1 cal k m := by
      funext u0 u3 u11 u12 H n
      have e : R111_1 cal k (m + 1) u0 u3 u11 u12 H n = labK (E111_1 cal k m) (Tr.set (Tr.set (Tr.set (Tr.set Tr.nil 12 (some u12)) 11 (some u11)) 3 (some u3)) 0 (some u0)) H n [] := by kernel_rfl
      rw [e]; exact q111_1 ..
    rw [e]; rfl
noncomputable def B111_0 (cal : Cal) (k : Nat) (j1 : Value → Value → Value → Value → Hp → Nat → Res) (v0 v1 : Value) (H : Hp) (n : Nat) : Res :=
boxK 111 v1 H n fun v3_1 H_2 n_3 =>
bindO (nilV v0) fun v7_6 =>
bindO (fieldAddrV P 117 v7_6 0) fun v8_7 =>
bindO (fieldAddrV P 35 v8_7 0) fun v9_8 =>
bindO (addrV v9_8) fun a_10 => bindO (loadV P H_2 31 a_10) fun v10_9 =>
bindO (lenV P 31 v10_9) fun v11_11 =>
j1 v0 v3_1 v11_11 (Go.Value.int Go.IntKind.i64 0) H_2 n_3
noncomputable def C111_0 (cal : Cal) (k : Nat) (v0 v1 : Value) (H : Hp) (n : Nat) : Res := B111_0 cal k (S111_1 cal k k) v0 v1 H n
theorem h111_0 (cal : Cal) (k : Nat) (v0 v1 : Value) (H : Hp) (n : Nat) : bodyE P cal A (k + 1) 111 [v0, v1] H n = C111_0 cal k v0 v1 H n := by
  have h : bodyE P cal A (k + 1) 111 [v0, v1] H n = B111_0 cal k (fun u0 u3 u11 u12 H n => labK (E111_1 cal k k) (Tr.set (Tr.set (Tr.set (Tr.set Tr.nil 12 (some u12)) 11 (some u11)) 3 (some u3)) 0 (some u0)) H n []) v0 v1 H n := by
    rw [body_eq (fn := Go.Proofs.Try.f111) (c := code111) (rs := results111) (by kernel_rfl) (by kernel_rfl) (by kernel_rfl) (by kernel_rfl)]
    kernel_rfl
  rw [h, C111_0]
  have e1 : (fun u0 u3 u11 u12 H n => labK (E111_1 cal k k) (Tr.set (Tr.set (Tr.set (Tr.set Tr.nil 12 (some u12)) 11 (some u11)) 3 (some u3)) 0 (some u0)) H n []) = (S111_1 cal k k) := by funext u0 u3 u11 u12 H n; exact q111_1 ..
  rw [e1]
noncomputable def code112 : Code := codeOf 112
noncomputable def results112 : List ResultVar := resOf 112
noncomputable def K112_pr (cal : Cal) (k : Nat) : KC (Value × Hp × Nat) := (cutK (Lv.b (A 112)).c (codeE P cal (codeF P cal k) none 112 (cR (cR code112)) (Lv.b (Lv.b (A 112))) (doneK P results112) X0 (doneK P results112)))
noncomputable def K112_pxrr (cal : Cal) (k : Nat) : XC (Value × Hp × Nat) := (upX 0 (doneK P results112) X0)
noncomputable def K112_prrl (cal : Cal) (k : Nat) (m1 : Nat) : KC (Value × Hp × Nat) := (fun T H n D => codeF P cal m1 (Lv.a (Lv.b (Lv.b (A 112)))) none 112 (cL (cR (cR code112))) (doneK P results112) (K112_pxrr cal k) (doneK P results112) (cutT (Lv.a (Lv.b (Lv.b (A 112)))).c T) H n D)
noncomputable def K112_prrll (cal : Cal) (k : Nat) (m1 : Nat) : KC (Value × Hp × Nat) := (cutK (Lv.a (Lv.a (Lv.b (Lv.b (A 112))))).c (codeE P cal (codeF P cal m1) none 112 (cR (cL (cL (cR (cR code112))))) (Lv.b (Lv.a (Lv.a (Lv.b (Lv.b (A 112)))))) (K112_prrl cal k m1) (K112_pxrr cal k) (doneK P results112)))
noncomputable def K112_prrlll (cal : Cal) (k : Nat) (m1 : Nat) : KC (Value × Hp × Nat) := (cutK (Lv.a (Lv.a (Lv.a (Lv.b (Lv.b (A 112)))))).c (codeE P cal (codeF P cal m1) none 112 (cR (cL (cL (cL (cR (cR code112)))))) (Lv.b (Lv.a (Lv.a (Lv.a (Lv.b (Lv.b (A 112))))))) (K112_prrll cal k m1) (K112_pxrr cal k) (doneK P results112)))
noncomputable def K112_prrllr (cal : Cal) (k : Nat) (m1 : Nat) : KC (Value × Hp × Nat) := (cutK (Lv.b (Lv.a (Lv.a (Lv.b (Lv.b (A 112)))))).c (codeE P cal (codeF P cal m1) none 112 (cR (cR (cL (cL (cR (cR code112)))))) (Lv.b (Lv.b (Lv.a (Lv.a (Lv.b (Lv.b (A 112))))))) (K112_prrl cal k m1) (K112_pxrr cal k) (doneK P results112)))
noncomputable def K112_pxrrllrl (cal : Cal) (k : Nat) (m1 : Nat) : XC (Value × Hp × Nat) := (upX 1 (K112_prrllr cal k m1) (K112_pxrr cal k))
noncomputable def K112_prrllrll (cal : Cal) (k : Nat) (m1 : Nat) : KC (Value × Hp × Nat) := (cutK (Lv.a (Lv.a (Lv.b (Lv.a (Lv.a (Lv.b (Lv.b (A 112)))))))).c (codeE P cal (codeF P cal m1) none 112 (cR (cL (cL (cR (cL (cL (cR (cR code112)))))))) (Lv.b (Lv.a (Lv.a (Lv.b (Lv.a (Lv.a (Lv.b (Lv.b (A 112))))))))) (K112_prrllr cal k m1) (K112_pxrrllrl cal k m1) (doneK P results112)))
noncomputable def K112_prrllrllr (cal : Cal) (k : Nat) (m1 : Nat) : KC (Value × Hp × Nat) := (cutK (Lv.b (Lv.a (Lv.a (Lv.b (Lv.a (Lv.a (Lv.b (Lv.b (A 112))))))))).c (codeE P cal (codeF P cal m1) none 112 (cR (cR (cL (cL (cR (cL (cL (cR (cR code112))))))))) (Lv.b (Lv.b (Lv.a (Lv.a (Lv.b (Lv.a (Lv.a (Lv.b (Lv.b (A 112)))))))))) (K112_prrllr cal k m1) (K112_pxrrllrl cal k m1) (doneK P results112)))
noncomputable def K112_p (cal : Cal) (k : Nat) : KC (Value × Hp × Nat) := (cutK (A 112).c (codeE P cal (codeF P cal k) none 112 (cR code112) (Lv.b (A 112)) (doneK P results112) X0 (doneK P results112)))
noncomputable def K112_pl (cal : Cal) (k : Nat) : KC (Value × Hp × Nat) := (cutK (Lv.a (A 112)).c (codeE P cal (codeF P cal k) none 112 (cR (cL code112)) (Lv.b (Lv.a (A 112))) (K112_p cal k) X0 (doneK P results112)))
noncomputable def E112_3 (cal : Cal) (k m1 : Nat) : KC (Value × Hp × Nat) := codeE P cal (codeF P cal m1) none 112 (cR (cR (cL (cL (cR (cR code112)))))) (Lv.b (Lv.b (Lv.a (Lv.a (Lv.b (Lv.b (A 112))))))) (K112_prrl cal k m1) (K112_pxrr cal k) (doneK P results112)
noncomputable def E112_2 (cal : Cal) (k m1 : Nat) : KC (Value × Hp × Nat) := codeE P cal (codeF P cal m1) none 112 (cL (cL (cR (cR code112)))) (Lv.a (Lv.a (Lv.b (Lv.b (A 112))))) (K112_prrl cal k m1) (K112_pxrr cal k) (doneK P results112)
noncomputable def R112_2 (cal : Cal) (k m1 : Nat) : Value → Value → Value → Value → Hp → Nat → Res := fun u0 u3 u4 u7 H n => codeF P cal m1 (Lv.a (Lv.b (Lv.b (A 112)))) none 112 (cL (cR (cR code112))) (doneK P results112) (K112_pxrr cal k) (doneK P results112) (Tr.set (Tr.set (Tr.set (Tr.set Tr.nil 7 (some u7)) 4 (some u4)) 3 (some u3)) 0 (some u0)) H n []
noncomputable def E112_1 (cal : Cal) (k : Nat) : KC (Value × Hp × Nat) := codeE P cal (codeF P cal k) none 112 (cR code112) (Lv.b (A 112)) (doneK P results112) X0 (doneK P results112)
noncomputable def B112_3 (cal : Cal) (k m1 : Nat) (b2 : Value → Value → Value → Value → Hp → Nat → Res) (u0 u3 u4 u7 : Value) (H : Hp) (n : Nat) : Res :=
binK P Go.BinOp.add 3 (Go.Operand.tmp 24) (Go.Operand.const (Go.Value.int Go.IntKind.i64 1)) u7 (Go.Value.int Go.IntKind.i64 1) fun v25_14 =>
b2 u0 u3 u4 v25_14 H n
noncomputable def C112_3 (cal : Cal) (k m1 : Nat) (b2 : Value → Value → Value → Value → Hp → Nat → Res) (u0 u3 u4 u7 : Value) (H : Hp) (n : Nat) : Res := B112_3 cal k m1 b2 u0 u3 u4 u7 H n
theorem h112_3 (cal : Cal) (k m1 : Nat) (u0 u3 u4 u7 : Value) (H : Hp) (n : Nat) : labK (E112_3 cal k m1) (Tr.set (Tr.set (Tr.set (Tr.set Tr.nil 7 (some u7)) 4 (some u4)) 3 (some u3)) 0 (some u0)) H n [] = C112_3 cal k m1 (R112_2 cal k m1) u0 u3 u4 u7 H n := by
  have h : labK (E112_3 cal k m1) (Tr.set (Tr.set (Tr.set (Tr.set Tr.nil 7 (some u7)) 4 (some u4)) 3 (some u3)) 0 (some u0)) H n [] = B112_3 cal k m1 (R112_2 cal k m1) u0 u3 u4 u7 H n := by kernel_rfl
  rw [h, C112_3]
theorem q112_3 (cal : Cal) (k m1 : Nat) (u0 u3 u4 u7 : Value) (H : Hp) (n : Nat) : labK (E112_3 cal k m1) (Tr.set (Tr.set (Tr.set (Tr.set Tr.nil 7 (some u7)) 4 (some u4)) 3 (some u3)) 0 (some u0)) H n [] = C112_3 cal k m1 (R112_2 cal k m1) u0 u3 u4 u7 H n := h112_3 ..
noncomputable def B112_2 (cal : Cal) (k m1 : Nat) (j3 : Value → Value → Value → Value → Hp → Nat → Res) (b2 : Value → Value → Value → Value → Hp → Nat → Res) (u0 u3 u4 u7 : Value) (H : Hp) (n : Nat) : Res :=
bindO (addrV u3) fun a_5 => bindO (loadV P H 105 a_5) fun v17_4 =>
bindO (nilV v17_4) fun v18_6 =>
bindO (fieldAddrV P 117 v18_6 0) fun v19_7 =>
bindO (fieldAddrV P 35 v19_7 0) fun v20_8 =>
bindO (addrV v20_8) fun a_10 => bindO (loadV P H 31 a_10) fun v21_9 =>
bindO (lenV P 31 v21_9) fun v22_11 =>
binK P Go.BinOp.lss 3 (Go.Operand.tmp 16) (Go.Operand.tmp 22) u7 v22_11 fun v23_12 =>
ifK v23_12 (
callFK P cal 76 [u0] H n fun v27_17 H_18 n_19 =>
rowK P 44 1 [(0, u7)] H_18 n_19 fun v29_21 H_22 n_23 =>
stK (appendV P (bare H_22 n_23) 44 44 v27_17 v29_21) fun v30_24 H_25 n_26 =>
bindO (addrV u3) fun a_29 => bindO (loadV P H_25 105 a_29) fun v31_28 =>
callFK P cal 88 [v31_28, v30_24] H_25 n_26 fun v33_31 H_32 n_33 =>
ifK v33_31 (
bindO (addrV u4) fun a_35 => bindO (loadV P H_32 170 a_35) fun v34_34 =>
binK P Go.BinOp.add 3 (Go.Operand.tmp 36) (Go.Operand.const (Go.Value.int Go.IntKind.i64 1)) u7 (Go.Value.int Go.IntKind.i64 1) fun v37_38 =>
callVK P cal v34_34 [v30_24, v37_38] H_32 n_33 fun v38_39 H_40 n_41 =>
j3 u0 u3 u4 u7 H_40 n_41) (
j3 u0 u3 u4 u7 H_32 n_33)) (
some ((Value.tuple ⟨[]⟩), H, n))
noncomputable def C112_2 (cal : Cal) (k m1 : Nat) (b2 : Value → Value → Value → Value → Hp → Nat → Res) (u0 u3 u4 u7 : Value) (H : Hp) (n : Nat) : Res := B112_2 cal k m1 (C112_3 cal k m1 b2) b2 u0 u3 u4 u7 H n
noncomputable def S112_2 (cal : Cal) (k : Nat) : Nat → Value → Value → Value → Value → Hp → Nat → Res := fun m => Nat.rec (motive := fun _ => Value → Value → Value → Value → Hp → Nat → Res) (C112_2 cal k 0 (fun _ _ _ _ _ _ => none)) (fun m ih => C112_2 cal k (m + 1) ih) m
theorem h112_2 (cal : Cal) (k m1 : Nat) (u0 u3 u4 u7 : Value) (H : Hp) (n : Nat) : labK (E112_2 cal k m1) (Tr.set (Tr.set (Tr.set (Tr.set Tr.nil 7 (some u7)) 4 (some u4)) 3 (some u3)) 0 (some u0)) H n [] = C112_2 cal k m1 (R112_2 cal k m1) u0 u3 u4 u7 H n := by
  have h : labK (E112_2 cal k m1) (Tr.set (Tr.set (Tr.set (Tr.set Tr.nil 7 (some u7)) 4 (some u4)) 3 (some u3)) 0 (some u0)) H n [] = B112_2 cal k m1 (fun u0 u3 u4 u7 H n => labK (E112_3 cal k m1) (Tr.set (Tr.set (Tr.set (Tr.set Tr.nil 7 (some u7)) 4 (some u4)) 3 (some u3)) 0 (some u0)) H n []) (R112_2 cal k m1) u0 u3 u4 u7 H n := by kernel_rfl
  rw [h, C112_2]
  have e3 : (fun u0 u3 u4 u7 H n => labK (E112_3 cal k m1) (Tr.set (Tr.set (Tr.set (Tr.set Tr.nil 7 (some u7)) 4 (some u4)) 3 (some u3)) 0 (some u0)) H n []) = (C112_3 cal k m1 (R112_2 cal k m1)) := by funext u0 u3 u4 u7 H n; exact q112_3 ..
  rw [e3]
theorem q112_2 (cal : Cal) (k : Nat) : ∀ (m : Nat) (u0 u3 u4 u7 : Value) (H : Hp) (n : Nat), labK (E112_2 cal k m) (Tr.set (Tr.set (Tr.set (Tr.set Tr.nil 7 (some u7)) 4 (some u4)) 3 (some u3)) 0 (some u0)) H n [] = S112_2 cal k m u0 u3 u4 u7 H n
  | 0, u0, u3, u4, u7, H, n => by
    rw [h112_2]
    have e : R112_2 cal k 0 = fun _ _ _ _ _ _ => none := by funext u0 u3 u4 u7 H n; kernel_rfl
    rw [e]; rfl
  | m + 1, u0, u3, u4, u7, H, n => by
    rw [h112_2]
    have e : R112_2 cal k (m + 1) = S112_2 cal k m := by
      funext u0 u3 u4 u7 H n
      have e : R112_2 cal k (m + 1) u0 u3 u4 u7 H n = labK (E112_2 cal k m) (Tr.set (Tr.set (Tr.set (Tr.set Tr.nil 7 (some u7)) 4 (some u4)) 3 (some u3)) 0 (some u0)) H n [] := by kernel_rfl
      rw [e]; exact q112_2 ..
    rw [e]; rfl
noncomputable def B112_1 (cal : Cal) (k : Nat) (j2 : Value → Value → Value → Value → Hp → Nat → Res) (u0 u1 u3 u4 : Value) (H : Hp) (n : Nat) : Res :=
j2 u0 u3 u4 u1 H n
noncomputable def C112_1 (cal : Cal) (k : Nat) (u0 u1 u3 u4 : Value) (H : Hp) (n : Nat) : Res := B112_1 cal k (S112_2 cal k k) u0 u1 u3 u4 H n
theorem h112_1 (cal : Cal) (k : Nat) (u0 u1 u3 u4 : Value) (H : Hp) (n : Nat) : labK (E112_1 cal k) (Tr.set (Tr.set (Tr.set (Tr.set Tr.nil 4 (some u4)) 3 (some u3)) 1 (some u1)) 0 (some u0)) H n [] = C112_1 cal k u0 u1 u3 u4 H n := by
  have h : labK (E112_1 cal k) (Tr.set (Tr.set (Tr.set (Tr.set Tr.nil 4 (some u4)) 3 (some u3)) 1 (some u1)) 0 (some u0)) H n [] = B112_1 cal k (fun u0 u3 u4 u7 H n => labK (E112_2 cal k k) (Tr.set (Tr.set (Tr.set (Tr.set Tr.nil 7 (some u7)) 4 (some u4)) 3 (some u3)) 0 (some u0)) H n []) u0 u1 u3 u4 H n := by kernel_rfl
  rw [h, C112_1]
  have e2 : (fun u0 u3 u4 u7 H n => labK (E112_2 cal k k) (Tr.set (Tr.set (Tr.set (Tr.set Tr.nil 7 (some u7)) 4 (some u4)) 3 (some u3)) 0 (some u0)) H n []) = (S112_2 cal k k) := by funext u0 u3 u4 u7 H n; exact q112_2 ..
  rw [e2]
theorem q112_1 (cal : Cal) (k : Nat) (u0 u1 u3 u4 : Value) (H : Hp) (n : Nat) : labK (E112_1 cal k) (Tr.set (Tr.set (Tr.set (Tr.set Tr.nil 4 (some u4)) 3 (some u3)) 1 (some u1)) 0 (some u0)) H n [] = C112_1 cal k u0 u1 u3 u4 H n := h112_1 ..
noncomputable def B112_0 (cal : Cal) (k : Nat) (j1 : Value → Value → Value → Value → Hp → Nat → Res) (v0 v1 v2 v3 v4 : Value) (H : Hp) (n : Nat) : Res :=
bindO (lenV P 44 v0) fun v10_43 =>
bindO (addrV v2) fun a_45 => bindO (loadV P H 44 a_45) fun v11_44 =>
bindO (lenV P 44 v11_44) fun v12_46 =>
binK P Go.BinOp.gtr 3 (Go.Operand.tmp 10) (Go.Operand.tmp 12) v10_43 v12_46 fun v13_47 =>
ifK v13_47 (
bindO (storeP P 44 v2 v0 H) fun H_50 =>
j1 v0 v1 v3 v4 H_50 n) (
j1 v0 v1 v3 v4 H n)
noncomputable def C112_0 (cal : Cal) (k : Nat) (v0 v1 v2 v3 v4 : Value) (H : Hp) (n : Nat) : Res := B112_0 cal k (C112_1 cal k) v0 v1 v2 v3 v4 H n
theorem h112_0 (cal : Cal) (k : Nat) (v0 v1 v2 v3 v4 : Value) (H : Hp) (n : Nat) : bodyE P cal A (k + 1) 112 [v0, v1, v2, v3, v4] H n = C112_0 cal k v0 v1 v2 v3 v4 H n := by
  have h : bodyE P cal A (k + 1) 112 [v0, v1, v2, v3, v4] H n = B112_0 cal k (fun u0 u1 u3 u4 H n => labK (E112_1 cal k) (Tr.set (Tr.set (Tr.set (Tr.set Tr.nil 4 (some u4)) 3 (some u3)) 1 (some u1)) 0 (some u0)) H n []) v0 v1 v2 v3 v4 H n := by
    rw [body_eq (fn := Go.Proofs.Try.f112) (c := code112) (rs := results112) (by kernel_rfl) (by kernel_rfl) (by kernel_rfl) (by kernel_rfl)]
    kernel_rfl
  rw [h, C112_0]
  have e1 : (fun u0 u1 u3 u4 H n => labK (E112_1 cal k) (Tr.set (Tr.set (Tr.set (Tr.set Tr.nil 4 (some u4)) 3 (some u3)) 1 (some u1)) 0 (some u0)) H n []) = (C112_1 cal k) := by funext u0 u1 u3 u4 H n; exact q112_1 ..
  rw [e1]
noncomputable def code113 : Code := codeOf 113
noncomputable def results113 : List ResultVar := resOf 113
noncomputable def K113_p (cal : Cal) (k : Nat) : KC (Value × Hp × Nat) := (cutK (A 113).c (codeE P cal (codeF P cal k) none 113 (cR code113) (Lv.b (A 113)) (doneK P results113) X0 (doneK P results113)))
noncomputable def K113_pr (cal : Cal) (k : Nat) : KC (Value × Hp × Nat) := (cutK (Lv.b (A 113)).c (codeE P cal (codeF P cal k) none 113 (cR (cR code113)) (Lv.b (Lv.b (A 113))) (doneK P results113) X0 (doneK P results113)))
noncomputable def B113_0 (cal : Cal) (k : Nat) (v0 v1 : Value) (H : Hp) (n : Nat) : Res :=
boxK 105 v0 H n fun v2_1 H_2 n_3 =>
boxK 3 v1 H_2 n_3 fun v3_4 H_5 n_6 =>
some ((Value.func (Go.Fn.func 119) ⟨[]⟩ ⟨[v3_4, v2_1]⟩), H_5, n_6)
noncomputable def C113_0 (cal : Cal) (k : Nat) (v0 v1 : Value) (H : Hp) (n : Nat) : Res := B113_0 cal k v0 v1 H n
theorem h113_0 (cal : Cal) (k : Nat) (v0 v1 : Value) (H : Hp) (n : Nat) : bodyE P cal A (k + 1) 113 [v0, v1] H n = C113_0 cal k v0 v1 H n := by
  have h : bodyE P cal A (k + 1) 113 [v0, v1] H n = B113_0 cal k v0 v1 H n := by
    rw [body_eq (fn := Go.Proofs.Try.f113) (c := code113) (rs := results113) (by kernel_rfl) (by kernel_rfl) (by kernel_rfl) (by kernel_rfl)]
    kernel_rfl
  rw [h, C113_0]
noncomputable def code114 : Code := codeOf 114
noncomputable def results114 : List ResultVar := resOf 114
noncomputable def K114_p (cal : Cal) (k : Nat) : KC (Value × Hp × Nat) := (cutK (A 114).c (codeE P cal (codeF P cal k) none 114 (cR code114) (Lv.b (A 114)) (doneK P results114) X0 (doneK P results114)))
noncomputable def K114_pr (cal : Cal) (k : Nat) : KC (Value × Hp × Nat) := (cutK (Lv.b (A 114)).c (codeE P cal (codeF P cal k) none 114 (cR (cR code114)) (Lv.b (Lv.b (A 114))) (doneK P results114) X0 (doneK P results114)))
noncomputable def B114_0 (cal : Cal) (k : Nat) (v0 : Value) (H : Hp) (n : Nat) : Res :=
boxK 53 v0 H n fun v1_1 H_2 n_3 =>
bindO (fieldAddrV P 53 v1_1 0) fun v3_5 =>
bindO (addrV v3_5) fun a_7 => bindO (loadV P H_2 3 a_7) fun v4_6 =>
binK P Go.BinOp.geq 3 (Go.Operand.tmp 4) (Go.Operand.const (Go.Value.int Go.IntKind.i64 0)) v4_6 (Go.Value.int Go.IntKind.i64 0) fun v5_8 =>
guardK v5_8 true (fun k_10 =>
bindO (fieldAddrV P 53 v1_1 0) fun v7_14 =>
k_10 v7_14 H_2 n_3) H_2 n_3 fun v_11 H_12 n_13 =>
guardK v5_8 true (fun k_15 =>
bindO (addrV v_11) fun a_20 => bindO (loadV P H_12 3 a_20) fun v8_19 =>
k_15 v8_19 H_12 n_13) H_12 n_13 fun v_16 H_17 n_18 =>
guardK v5_8 true (fun k_21 =>
bindO (fieldAddrV P 53 v1_1 1) fun v9_25 =>
k_21 v9_25 H_17 n_18) H_17 n_18 fun v_22 H_23 n_24 =>
guardK v5_8 true (fun k_26 =>
bindO (addrV v_22) fun a_31 => bindO (loadV P H_23 3 a_31) fun v10_30 =>
k_26 v10_30 H_23 n_24) H_23 n_24 fun v_27 H_28 n_29 =>
guardK v5_8 true (fun k_32 =>
binK P Go.BinOp.leq 3 (Go.Operand.tmp 8) (Go.Operand.tmp 10) v_16 v_27 fun v11_36 =>
k_32 v11_36 H_28 n_29) H_28 n_29 fun v_33 H_34 n_35 =>
bindO (pickV v5_8 v_33 (Go.Value.bool false)) fun v12_37 =>
guardK v12_37 true (fun k_39 =>
bindO (fieldAddrV P 53 v1_1 1) fun v14_43 =>
k_39 v14_43 H_34 n_35) H_34 n_35 fun v_40 H_41 n_42 =>
guardK v12_37 true (fun k_44 =>
bindO (addrV v_40) fun a_49 => bindO (loadV P H_41 3 a_49) fun v15_48 =>
k_44 v15_48 H_41 n_42) H_41 n_42 fun v_45 H_46 n_47 =>
guardK v12_37 true (fun k_50 =>
binK P Go.BinOp.leq 3 (Go.Operand.tmp 15) (Go.Operand.const (Go.Value.int Go.IntKind.i64 1000)) v_45 (Go.Value.int Go.IntKind.i64 1000) fun v16_54 =>
k_50 v16_54 H_46 n_47) H_46 n_47 fun v_51 H_52 n_53 =>
bindO (pickV v12_37 v_51 (Go.Value.bool false)) fun v17_55 =>
some (v17_55, H_52, n_53)
noncomputable def C114_0 (cal : Cal) (k : Nat) (v0 : Value) (H : Hp) (n : Nat) : Res := B114_0 cal k v0 H n
theorem h114_0 (cal : Cal) (k : Nat) (v0 : Value) (H : Hp) (n : Nat) : bodyE P cal A (k + 1) 114 [v0] H n = C114_0 cal k v0 H n := by
  have h : bodyE P cal A (k + 1) 114 [v0] H n = B114_0 cal k v0 H n := by
    rw [body_eq (fn := Go.Proofs.Try.f114) (c := code114) (rs := results114) (by kernel_rfl) (by kernel_rfl) (by kernel_rfl) (by kernel_rfl)]
    kernel_rfl
  rw [h, C114_0]
noncomputable def code115 : Code := codeOf 115
noncomputable def results115 : List ResultVar := resOf 115
noncomputable def K115_p (cal : Cal) (k : Nat) : KC (Value × Hp × Nat) := (cutK (A 115).c (codeE P cal (codeF P cal k) none 115 (cR code115) (Lv.b (A 115)) (doneK P results115) X0 (doneK P results115)))
noncomputable def K115_pr (cal : Cal) (k : Nat) : KC (Value × Hp × Nat) := (cutK (Lv.b (A 115)).c (codeE P cal (codeF P cal k) none 115 (cR (cR code115)) (Lv.b (Lv.b (A 115))) (doneK P results115) X0 (doneK P results115)))
noncomputable def K115_prr (cal : Cal) (k : Nat) : KC (Value × Hp × Nat) := (cutK (Lv.b (Lv.b (A 115))).c (codeE P cal (codeF P cal k) none 115 (cR (cR (cR code115))) (Lv.b (Lv.b (Lv.b (A 115)))) (doneK P results115) X0 (doneK P results115)))
noncomputable def K115_prrl (cal : Cal) (k : Nat) : KC (Value × Hp × Nat) := (cutK (Lv.a (Lv.b (Lv.b (A 115)))).c (codeE P cal (codeF P cal k) none 115 (cR (cL (cR (cR code115)))) (Lv.b (Lv.a (Lv.b (Lv.b (A 115))))) (K115_prr cal k) X0 (doneK P results115)))
noncomputable def K115_pxrrlr (cal : Cal) (k : Nat) : XC (Value × Hp × Nat) := (upX 0 (K115_prr cal k) X0)
noncomputable def K115_prrlrl (cal : Cal) (k : Nat) (m1 : Nat) : KC (Value × Hp × Nat) := (fun T H n D => codeF P cal m1 (Lv.a (Lv.b (Lv.a (Lv.b (Lv.b (A 115)))))) none 115 (cL (cR (cL (cR (cR code115))))) (K115_prr cal k) (K115_pxrrlr cal k) (doneK P results115) (cutT (Lv.a (Lv.b (Lv.a (Lv.b (Lv.b (A 115)))))).c T) H n D)
noncomputable def K115_prrlrll (cal : Cal) (k : Nat) (m1 : Nat) : KC (Value × Hp × Nat) := (cutK (Lv.a (Lv.a (Lv.b (Lv.a (Lv.b (Lv.b (A 115))))))).c (codeE P cal (codeF P cal m1) none 115 (cR (cL (cL (cR (cL (cR (cR code115))))))) (Lv.b (Lv.a (Lv.a (Lv.b (Lv.a (Lv.b (Lv.b (A 115)))))))) (K115_prrlrl cal k m1) (K115_pxrrlr cal k) (doneK P results115)))
noncomputable def K115_prrlrllr (cal : Cal) (k : Nat) (m1 : Nat) : KC (Value × Hp × Nat) := (cutK (Lv.b (Lv.a (Lv.a (Lv.b (Lv.a (Lv.b (Lv.b (A 115)))))))).c (codeE P cal (codeF P cal m1) none 115 (cR (cR (cL (cL (cR (cL (cR (cR code115)))))))) (Lv.b (Lv.b (Lv.a (Lv.a (Lv.b (Lv.a (Lv.b (Lv.b (A 115))))))))) (K115_prrlrl cal k m1) (K115_pxrrlr cal k) (doneK P results115)))
noncomputable def K115_prrlrllrr (cal : Cal) (k : Nat) (m1 : Nat) : KC (Value × Hp × Nat) := (cutK (Lv.b (Lv.b (Lv.a (Lv.a (Lv.b (Lv.a (Lv.b (Lv.b (A 115))))))))).c (codeE P cal (codeF P cal m1) none 115 (cR (cR (cR (cL (cL (cR (cL (cR (cR code115))))))))) (Lv.b (Lv.b (Lv.b (Lv.a (Lv.a (Lv.b (Lv.a (Lv.b (Lv.b (A 115)))))))))) (K115_prrlrl cal k m1) (K115_pxrrlr cal k) (doneK P results115)))
noncomputable def K115_pxrrlrllrrl (cal : Cal) (k : Nat) (m1 : Nat) : XC (Value × Hp × Nat) := (upX 1 (K115_prrlrllrr cal k m1) (K115_pxrrlr cal k))
noncomputable def K115_prrlrllrrll (cal : Cal) (k : Nat) (m1 : Nat) : KC (Value × Hp × Nat) := (cutK (Lv.a (Lv.a (Lv.b (Lv.b (Lv.a (Lv.a (Lv.b (Lv.a (Lv.b (Lv.b (A 115))))))))))).c (codeE P cal (codeF P cal m1) none 115 (cR (cL (cL (cR (cR (cL (cL (cR (cL (cR (cR code115))))))))))) (Lv.b (Lv.a (Lv.a (Lv.b (Lv.b (Lv.a (Lv.a (Lv.b (Lv.a (Lv.b (Lv.b (A 115)))))))))))) (K115_prrlrllrr cal k m1) (K115_pxrrlrllrrl cal k m1) (doneK P results115)))
noncomputable def K115_prrr (cal : Cal) (k : Nat) : KC (Value × Hp × Nat) := (cutK (Lv.b (Lv.b (Lv.b (A 115)))).c (codeE P cal (codeF P cal k) none 115 (cR (cR (cR (cR code115)))) (Lv.b (Lv.b (Lv.b (Lv.b (A 115))))) (doneK P results115) X0 (doneK P results115)))
noncomputable def E115_1 (cal : Cal) (k m1 : Nat) : KC (Value × Hp × Nat) := codeE P cal (codeF P cal m1) none 115 (cL (cL (cR (cL (cR (cR code115)))))) (Lv.a (Lv.a (Lv.b (Lv.a (Lv.b (Lv.b (A 115))))))) (K115_prrlrl cal k m1) (K115_pxrrlr cal k) (doneK P results115)
noncomputable def R115_1 (cal : Cal) (k m1 : Nat) : Value → Value → Value → Hp → Nat → Res := fun u4 u5 u10 H n => codeF P cal m1 (Lv.a (Lv.b (Lv.a (Lv.b (Lv.b (A 115)))))) none 115 (cL (cR (cL (cR (cR code115))))) (K115_prr cal k) (K115_pxrrlr cal k) (doneK P results115) (Tr.set (Tr.set (Tr.set Tr.nil 10 (some u10)) 5 (some u5)) 4 (some u4)) H n []
noncomputable def B115_1 (cal : Cal) (k m1 : Nat) (b1 : Value → Value → Value → Hp → Nat → Res) (u4 u5 u10 : Value) (H : Hp) (n : Nat) : Res :=
binK P Go.BinOp.lss 3 (Go.Operand.tmp 10) (Go.Operand.const (Go.Value.int Go.IntKind.i64 8)) u10 (Go.Value.int Go.IntKind.i64 8) fun v11_17 =>
ifK v11_17 (
bindO (addrV u5) fun a_21 => bindO (loadV P H 113 a_21) fun v_22 =>
bindO (addrV u5) fun a_24 => bindO (loadV P H 113 a_24) fun v_25 =>
bindO (fieldAddrV P 113 u5 2) fun v23_27 =>
effK P [(.l 113 a_24), (.l 113 a_21)] H n (fun H_28 n_29 k_30 =>
callFK P cal 121 [] H_28 n_29 fun v16_34 H_35 n_36 =>
k_30 v16_34 H_35 n_36) fun v_31 H_32 n_33 =>
effK P [(.l 113 a_24)] H_32 n_33 (fun H_37 n_38 k_39 =>
callFK P cal 120 [v_22, u10, v_31] H_37 n_38 fun v17_43 H_44 n_45 =>
k_39 v17_43 H_44 n_45) fun v_40 H_41 n_42 =>
effK P [(.l 113 a_24)] H_41 n_42 (fun H_46 n_47 k_48 =>
callFK P cal 122 [] H_46 n_47 fun v20_52 H_53 n_54 =>
k_48 v20_52 H_53 n_54) fun v_49 H_50 n_51 =>
callFK P cal 120 [v_25, u10, v_49] H_50 n_51 fun v21_55 H_56 n_57 =>
bindO (buildP P 53 [(0, v_40), (1, v21_55)]) fun v22_58 =>
bindO (indexAddrV P 111 v23_27 u10) fun v24_59 =>
bindO (storeP P 53 v24_59 v22_58 H_56) fun H_61 =>
binK P Go.BinOp.add 3 (Go.Operand.tmp 10) (Go.Operand.const (Go.Value.int Go.IntKind.i64 1)) u10 (Go.Value.int Go.IntKind.i64 1) fun v25_62 =>
b1 u4 u5 v25_62 H_61 n_57) (
bindO (addrV u5) fun a_65 => bindO (loadV P H 113 a_65) fun v26_64 =>
bindO (storeP P 113 u4 v26_64 H) fun H_67 =>
bindO (resV P (Tr.set Tr.nil 4 (some u4)) H_67 results115) fun vs_68 => some (oneV vs_68, H_67, n))
noncomputable def C115_1 (cal : Cal) (k m1 : Nat) (b1 : Value → Value → Value → Hp → Nat → Res) (u4 u5 u10 : Value) (H : Hp) (n : Nat) : Res := B115_1 cal k m1 b1 u4 u5 u10 H n
noncomputable def S115_1 (cal : Cal) (k : Nat) : Nat → Value → Value → Value → Hp → Nat → Res := fun m => Nat.rec (motive := fun _ => Value → Value → Value → Hp → Nat → Res) (C115_1 cal k 0 (fun _ _ _ _ _ => none)) (fun m ih => C115_1 cal k (m + 1) ih) m
theorem h115_1 (cal : Cal) (k m1 : Nat) (u4 u5 u10 : Value) (H : Hp) (n : Nat) : labK (E115_1 cal k m1) (Tr.set (Tr.set (Tr.set Tr.nil 10 (some u10)) 5 (some u5)) 4 (some u4)) H n [] = C115_1 cal k m1 (R115_1 cal k m1) u4 u5 u10 H n := by
  have h : labK (E115_1 cal k m1) (Tr.set (Tr.set (Tr.set Tr.nil 10 (some u10)) 5 (some u5)) 4 (some u4)) H n [] = B115_1 cal k m1 (R115_1 cal k m1) u4 u5 u10 H n := by kernel_rfl
  rw [h, C115_1]
theorem q115_1 (cal : Cal) (k : Nat) : ∀ (m : Nat) (u4 u5 u10 : Value) (H : Hp) (n : Nat), labK (E115_1 cal k m) (Tr.set (Tr.set (Tr.set Tr.nil 10 (some u10)) 5 (some u5)) 4 (some u4)) H n [] = S115_1 cal k m u4 u5 u10 H n
  | 0, u4, u5, u10, H, n => by
    rw [h115_1]
    have e : R115_1 cal k 0 = fun _ _ _ _ _ => none := by funext u4 u5 u10 H n; kernel_rfl
    rw [e]; rfl
  | m + 1, u4, u5, u10, H, n => by
    rw [h115_1]
    have e : R115_1 cal k (m + 1) = S115_1 cal k m := by
      funext u4 u5 u10 H n
      have e : R115_1 cal k (m + 1) u4 u5 u10 H n = labK (E115_1 cal k m) (Tr.set (Tr.set (Tr.set Tr.nil 10 (some u10)) 5 (some u5)) 4 (some u4)) H n [] := by kernel_rfl
      rw [e]; exact q115_1 ..
    rw [e]; rfl
noncomputable def B115_0 (cal : Cal) (k : Nat) (j1 : Value → Value → Value → Hp → Nat → Res) (v0 v1 : Value) (H : Hp) (n : Nat) : Res :=
boxK 111 v1 H n fun v3_1 H_2 n_3 =>
allocK P 113 H_2 n_3 fun v4_4 H_5 n_6 =>
bindO (addrV v3_1) fun a_9 => bindO (loadV P H_5 111 a_9) fun v8_8 =>
bindO (buildP P 113 [(0, v0), (1, v8_8)]) fun v9_10 =>
allocK P 113 H_5 n_6 fun v5_11 H_12 n_13 =>
bindO (storeP P 113 v5_11 v9_10 H_12) fun H_15 =>
j1 v4_4 v5_11 (Go.Value.int Go.IntKind.i64 0) H_15 n_13
noncomputable def C115_0 (cal : Cal) (k : Nat) (v0 v1 : Value) (H : Hp) (n : Nat) : Res := B115_0 cal k (S115_1 cal k k) v0 v1 H n
theorem h115_0 (cal : Cal) (k : Nat) (v0 v1 : Value) (H : Hp) (n : Nat) : bodyE P cal A (k + 1) 115 [v0, v1] H n = C115_0 cal k v0 v1 H n := by
  have h : bodyE P cal A (k + 1) 115 [v0, v1] H n = B115_0 cal k (fun u4 u5 u10 H n => labK (E115_1 cal k k) (Tr.set (Tr.set (Tr.set Tr.nil 10 (some u10)) 5 (some u5)) 4 (some u4)) H n []) v0 v1 H n := by
    rw [body_eq (fn := Go.Proofs.Try.f115) (c := code115) (rs := results115) (by kernel_rfl) (by kernel_rfl) (by kernel_rfl) (by kernel_rfl)]
    kernel_rfl
  rw [h, C115_0]
  have e1 : (fun u4 u5 u10 H n => labK (E115_1 cal k k) (Tr.set (Tr.set (Tr.set Tr.nil 10 (some u10)) 5 (some u5)) 4 (some u4)) H n []) = (S115_1 cal k k) := by funext u4 u5 u10 H n; exact q115_1 ..
  rw [e1]
noncomputable def code117 : Code := codeOf 117
noncomputable def results117 : List ResultVar := resOf 117
noncomputable def K117_p (cal : Cal) (k : Nat) : KC (Value × Hp × Nat) := (cutK (A 117).c (codeE P cal (codeF P cal k) none 117 (cR code117) (Lv.b (A 117)) (doneK P results117) X0 (doneK P results117)))
noncomputable def K117_pr (cal : Cal) (k : Nat) : KC (Value × Hp × Nat) := (cutK (Lv.b (A 117)).c (codeE P cal (codeF P cal k) none 117 (cR (cR code117)) (Lv.b (Lv.b (A 117))) (doneK P results117) X0 (doneK P results117)))
noncomputable def K117_prr (cal : Cal) (k : Nat) : KC (Value × Hp × Nat) := (cutK (Lv.b (Lv.b (A 117))).c (codeE P cal (codeF P cal k) none 117 (cR (cR (cR code117))) (Lv.b (Lv.b (Lv.b (A 117)))) (doneK P results117) X0 (doneK P results117)))
noncomputable def B117_0 (cal : Cal) (k : Nat) (v0 v1 v2 : Value) (H : Hp) (n : Nat) : Res :=
boxK 175 v0 H n fun v3_1 H_2 n_3 =>
allocK P 176 H_2 n_3 fun v4_4 H_5 n_6 =>
bindO (storeP P 176 v4_4 (Value.func (Go.Fn.func 118) ⟨[]⟩ ⟨[v1, v3_1, v4_4]⟩) H_5) fun H_9 =>
bindO (addrV v4_4) fun a_10 => bindO (loadV P H_9 176 a_10) fun v_11 =>
bindO (buildP P 111 []) fun v8_12 =>
bindO (addrV v2) fun a_13 => bindO (loadV P H_9 3 a_13) fun v_14 =>
effK P [(.l 3 a_13), (.l 176 a_10)] H_9 n_6 (fun H_15 n_16 k_17 =>
callFK P cal 101 [] H_15 n_16 fun v7_21 H_22 n_23 =>
k_17 v7_21 H_22 n_23) fun v_18 H_19 n_20 =>
callVK P cal v_11 [v_18, v8_12, (Go.Value.int Go.IntKind.i64 0), v_14] H_19 n_20 fun v10_24 H_25 n_26 =>
some ((Value.tuple ⟨[]⟩), H_25, n_26)
noncomputable def C117_0 (cal : Cal) (k : Nat) (v0 v1 v2 : Value) (H : Hp) (n : Nat) : Res := B117_0 cal k v0 v1 v2 H n
theorem h117_0 (cal : Cal) (k : Nat) (v0 v1 v2 : Value) (H : Hp) (n : Nat) : bodyE P cal A (k + 1) 117 [v0, v1, v2] H n = C117_0 cal k v0 v1 v2 H n := by
  have h : bodyE P cal A (k + 1) 117 [v0, v1, v2] H n = B117_0 cal k v0 v1 v2 H n := by
    rw [body_eq (fn := Go.Proofs.Try.f117) (c := code117) (rs := results117) (by kernel_rfl) (by kernel_rfl) (by kernel_rfl) (by kernel_rfl)]
    kernel_rfl
  rw [h, C117_0]
noncomputable def code118 : Code := codeOf 118
noncomputable def results118 : List ResultVar := resOf 118
noncomputable def K118_p (cal : Cal) (k : Nat) : KC (Value × Hp × Nat) := (cutK (A 118).c (codeE P cal (codeF P cal k) none 118 (cR code118) (Lv.b (A 118)) (doneK P results118) X0 (doneK P results118)))
noncomputable def K118_pr (cal : Cal) (k : Nat) : KC (Value × Hp × Nat) := (cutK (Lv.b (A 118)).c (codeE P cal (codeF P cal k) none 118 (cR (cR code118)) (Lv.b (Lv.b (A 118))) (doneK P results118) X0 (doneK P results118)))
noncomputable def K118_prl (cal : Cal) (k : Nat) : KC (Value × Hp × Nat) := (cutK (Lv.a (Lv.b (A 118))).c (codeE P cal (codeF P cal k) none 118 (cR (cL (cR code118))) (Lv.b (Lv.a (Lv.b (A 118)))) (K118_pr cal k) X0 (doneK P results118)))
noncomputable def K118_prlrl (cal : Cal) (k : Nat) : KC (Value × Hp × Nat) := (cutK (Lv.a (Lv.b (Lv.a (Lv.b (A 118))))).c (codeE P cal (codeF P cal k) none 118 (cR (cL (cR (cL (cR code118))))) (Lv.b (Lv.a (Lv.b (Lv.a (Lv.b (A 118)))))) (K118_pr cal k) X0 (doneK P results118)))
noncomputable def K118_prr (cal : Cal) (k : Nat) : KC (Value × Hp × Nat) := (cutK (Lv.b (Lv.b (A 118))).c (codeE P cal (codeF P cal k) none 118 (cR (cR (cR code118))) (Lv.b (Lv.b (Lv.b (A 118)))) (doneK P results118) X0 (doneK P results118)))
noncomputable def K118_prrl (cal : Cal) (k : Nat) : KC (Value × Hp × Nat) := (cutK (Lv.a (Lv.b (Lv.b (A 118)))).c (codeE P cal (codeF P cal k) none 118 (cR (cL (cR (cR code118)))) (Lv.b (Lv.a (Lv.b (Lv.b (A 118))))) (K118_prr cal k) X0 (doneK P results118)))
noncomputable def K118_prrlrl (cal : Cal) (k : Nat) : KC (Value × Hp × Nat) := (cutK (Lv.a (Lv.b (Lv.a (Lv.b (Lv.b (A 118)))))).c (codeE P cal (codeF P cal k) none 118 (cR (cL (cR (cL (cR (cR code118)))))) (Lv.b (Lv.a (Lv.b (Lv.a (Lv.b (Lv.b (A 118))))))) (K118_prr cal k) X0 (doneK P results118)))
noncomputable def K118_prrr (cal : Cal) (k : Nat) : KC (Value × Hp × Nat) := (cutK (Lv.b (Lv.b (Lv.b (A 118)))).c (codeE P cal (codeF P cal k) none 118 (cR (cR (cR (cR code118)))) (Lv.b (Lv.b (Lv.b (Lv.b (A 118))))) (doneK P results118) X0 (doneK P results118)))
noncomputable def K118_prrrl (cal : Cal) (k : Nat) : KC (Value × Hp × Nat) := (cutK (Lv.a (Lv.b (Lv.b (Lv.b (A 118))))).c (codeE P cal (codeF P cal k) none 118 (cR (cL (cR (cR (cR code118))))) (Lv.b (Lv.a (Lv.b (Lv.b (Lv.b (A 118)))))) (K118_prrr cal k) X0 (doneK P results118)))
noncomputable def K118_prrrlrl (cal : Cal) (k : Nat) : KC (Value × Hp × Nat) := (cutK (Lv.a (Lv.b (Lv.a (Lv.b (Lv.b (Lv.b (A 118))))))).c (codeE P cal (codeF P cal k) none 118 (cR (cL (cR (cL (cR (cR (cR code118))))))) (Lv.b (Lv.a (Lv.b (Lv.a (Lv.b (Lv.b (Lv.b (A 118)))))))) (K118_prrr cal k) X0 (doneK P results118)))
noncomputable def K118_prrrr (cal : Cal) (k : Nat) : KC (Value × Hp × Nat) := (cutK (Lv.b (Lv.b (Lv.b (Lv.b (A 118))))).c (codeE P cal (codeF P cal k) none 118 (cR (cR (cR (cR (cR code118))))) (Lv.b (Lv.b (Lv.b (Lv.b (Lv.b (A 118)))))) (doneK P results118) X0 (doneK P results118)))
noncomputable def K118_prrrrl (cal : Cal) (k : Nat) : KC (Value × Hp × Nat) := (cutK (Lv.a (Lv.b (Lv.b (Lv.b (Lv.b (A 118)))))).c (codeE P cal (codeF P cal k) none 118 (cR (cL (cR (cR (cR (cR code118)))))) (Lv.b (Lv.a (Lv.b (Lv.b (Lv.b (Lv.b (A 118))))))) (K118_prrrr cal k) X0 (doneK P results118)))
noncomputable def K118_pxrrrrlr (cal : Cal) (k : Nat) : XC (Value × Hp × Nat) := (upX 0 (K118_prrrr cal k) X0)
noncomputable def K118_prrrrlrl (cal : Cal) (k : Nat) (m1 : Nat) : KC (Value × Hp × Nat) := (fun T H n D => codeF P cal m1 (Lv.a (Lv.b (Lv.a (Lv.b (Lv.b (Lv.b (Lv.b (A 118)))))))) none 118 (cL (cR (cL (cR (cR (cR (cR code118))))))) (K118_prrrr cal k) (K118_pxrrrrlr cal k) (doneK P results118) (cutT (Lv.a (Lv.b (Lv.a (Lv.b (Lv.b (Lv.b (Lv.b (A 118)))))))).c T) H n D)
noncomputable def K118_prrrrlrll (cal : Cal) (k : Nat) (m1 : Nat) : KC (Value × Hp × Nat) := (cutK (Lv.a (Lv.a (Lv.b (Lv.a (Lv.b (Lv.b (Lv.b (Lv.b (A 118))))))))).c (codeE P cal (codeF P cal m1) none 118 (cR (cL (cL (cR (cL (cR (cR (cR (cR code118))))))))) (Lv.b (Lv.a (Lv.a (Lv.b (Lv.a (Lv.b (Lv.b (Lv.b (Lv.b (A 118)))))))))) (K118_prrrrlrl cal k m1) (K118_pxrrrrlr cal k) (doneK P results118)))
noncomputable def K118_prrrrlrllr (cal : Cal) (k : Nat) (m1 : Nat) : KC (Value × Hp × Nat) := (cutK (Lv.b (Lv.a (Lv.a (Lv.b (Lv.a (Lv.b (Lv.b (Lv.b (Lv.b (A 118)))))))))).c (codeE P cal (codeF P cal m1) none 118 (cR (cR (cL (cL (cR (cL (cR (cR (cR (cR code118)))))))))) (Lv.b (Lv.b (Lv.a (Lv.a (Lv.b (Lv.a (Lv.b (Lv.b (Lv.b (Lv.b (A 118))))))))))) (K118_prrrrlrl cal k m1) (K118_pxrrrrlr cal k) (doneK P results118)))
noncomputable def K118_prrrrlrllrr (cal : Cal) (k : Nat) (m1 : Nat) : KC (Value × Hp × Nat) := (cutK (Lv.b (Lv.b (Lv.a (Lv.a (Lv.b (Lv.a (Lv.b (Lv.b (Lv.b (Lv.b (A 118))))))))))).c (codeE P cal (codeF P cal m1) none 118 (cR (cR (cR (cL (cL (cR (cL (cR (cR (cR (cR code118))))))))))) (Lv.b (Lv.b (Lv.b (Lv.a (Lv.a (Lv.b (Lv.a (Lv.b (Lv.b (Lv.b (Lv.b (A 118)))))))))))) (K118_prrrrlrl cal k m1) (K118_pxrrrrlr cal k) (doneK P results118)))
noncomputable def K118_pxrrrrlrllrrl (cal : Cal) (k : Nat) (m1 : Nat) : XC (Value × Hp × Nat) := (upX 1 (K118_prrrrlrllrr cal k m1) (K118_pxrrrrlr cal k))
noncomputable def K118_prrrrlrllrrll (cal : Cal) (k : Nat) (m1 : Nat) : KC (Value × Hp × Nat) := (cutK (Lv.a (Lv.a (Lv.b (Lv.b (Lv.a (Lv.a (Lv.b (Lv.a (Lv.b (Lv.b (Lv.b (Lv.b (A 118))))))))))))).c (codeE P cal (codeF P cal m1) none 118 (cR (cL (cL (cR (cR (cL (cL (cR (cL (cR (cR (cR (cR code118))))))))))))) (Lv.b (Lv.a (Lv.a (Lv.b (Lv.b (Lv.a (Lv.a (Lv.b (Lv.a (Lv.b (Lv.b (Lv.b (Lv.b (A 118)))))))))))))) (K118_prrrrlrllrr cal k m1) (K118_pxrrrrlrllrrl cal k m1) (doneK P results118)))
noncomputable def K118_prrrrlrllrrllr (cal : Cal) (k : Nat) (m1 : Nat) : KC (Value × Hp × Nat) := (cutK (Lv.b (Lv.a (Lv.a (Lv.b (Lv.b (Lv.a (Lv.a (Lv.b (Lv.a (Lv.b (Lv.b (Lv.b (Lv.b (A 118)))))))))))))).c (codeE P cal (codeF P cal m1) none 118 (cR (cR (cL (cL (cR (cR (cL (cL (cR (cL (cR (cR (cR (cR code118)))))))))))))) (Lv.b (Lv.b (Lv.a (Lv.a (Lv.b (Lv.b (Lv.a (Lv.a (Lv.b (Lv.a (Lv.b (Lv.b (Lv.b (Lv.b (A 118))))))))))))))) (K118_prrrrlrllrr cal k m1) (K118_pxrrrrlrllrrl cal k m1) (doneK P results118)))
noncomputable def K118_prrrrlrllrrllrl (cal : Cal) (k : Nat) (m1 : Nat) : KC (Value × Hp × Nat) := (cutK (Lv.a (Lv.b (Lv.a (Lv.a (Lv.b (Lv.b (Lv.a (Lv.a (Lv.b (Lv.a (Lv.b (Lv.b (Lv.b (Lv.b (A 118))))))))))))))).c (codeE P cal (codeF P cal m1) none 118 (cR (cL (cR (cL (cL (cR (cR (cL (cL (cR (cL (cR (cR (cR (cR code118))))))))))))))) (Lv.b (Lv.a (Lv.b (Lv.a (Lv.a (Lv.b (Lv.b (Lv.a (Lv.a (Lv.b (Lv.a (Lv.b (Lv.b (Lv.b (Lv.b (A 118)))))))))))))))) (K118_prrrrlrllrrllr cal k m1) (K118_pxrrrrlrllrrl cal k m1) (doneK P results118)))
noncomputable def K118_prrrrlrllrrllrr (cal : Cal) (k : Nat) (m1 : Nat) : KC (Value × Hp × Nat) := (cutK (Lv.b (Lv.b (Lv.a (Lv.a (Lv.b (Lv.b (Lv.a (Lv.a (Lv.b (Lv.a (Lv.b (Lv.b (Lv.b (Lv.b (A 118))))))))))))))).c (codeE P cal (codeF P cal m1) none 118 (cR (cR (cR (cL (cL (cR (cR (cL (cL (cR (cL (cR (cR (cR (cR code118))))))))))))))) (Lv.b (Lv.b (Lv.b (Lv.a (Lv.a (Lv.b (Lv.b (Lv.a (Lv.a (Lv.b (Lv.a (Lv.b (Lv.b (Lv.b (Lv.b (A 118)))))))))))))))) (K118_prrrrlrllrr cal k m1) (K118_pxrrrrlrllrrl cal k m1) (doneK P results118)))
noncomputable def K118_prrrrlrllrrllrrr (cal : Cal) (k : Nat) (m1 : Nat) : KC (Value × Hp × Nat) := (cutK (Lv.b (Lv.b (Lv.b (Lv.a (Lv.a (Lv.b (Lv.b (Lv.a (Lv.a (Lv.b (Lv.a (Lv.b (Lv.b (Lv.b (Lv.b (A 118)))))))))))))))).c (codeE P cal (codeF P cal m1) none 118 (cR (cR (cR (cR (cL (cL (cR (cR (cL (cL (cR (cL (cR (cR (cR (cR code118)))))))))))))))) (Lv.b (Lv.b (Lv.b (Lv.b (Lv.a (Lv.a (Lv.b (Lv.b (Lv.a (Lv.a (Lv.b (Lv.a (Lv.b (Lv.b (Lv.b (Lv.b (A 118))))))))))))))))) (K118_prrrrlrllrr cal k m1) (K118_pxrrrrlrllrrl cal k m1) (doneK P results118)))
noncomputable def K118_prrrrlrllrrllrrrrl (cal : Cal) (k : Nat) (m1 : Nat) : KC (Value × Hp × Nat) := (cutK (Lv.a (Lv.b (Lv.b (Lv.b (Lv.b (Lv.a (Lv.a (Lv.b (Lv.b (Lv.a (Lv.a (Lv.b (Lv.a (Lv.b (Lv.b (Lv.b (Lv.b (A 118)))))))))))))))))).c (codeE P cal (codeF P cal m1) none 118 (cR (cL (cR (cR (cR (cR (cL (cL (cR (cR (cL (cL (cR (cL (cR (cR (cR (cR code118)))))))))))))))))) (Lv.b (Lv.a (Lv.b (Lv.b (Lv.b (Lv.b (Lv.a (Lv.a (Lv.b (Lv.b (Lv.a (Lv.a (Lv.b (Lv.a (Lv.b (Lv.b (Lv.b (Lv.b (A 118))))))))))))))))))) (K118_prrrrlrllrr cal k m1) (K118_pxrrrrlrllrrl cal k m1) (doneK P results118)))
noncomputable def K118_prrrrr (cal : Cal) (k : Nat) : KC (Value × Hp × Nat) := (cutK (Lv.b (Lv.b (Lv.b (Lv.b (Lv.b (A 118)))))).c (codeE P cal (codeF P cal k) none 118 (cR (cR (cR (cR (cR (cR code118)))))) (Lv.b (Lv.b (Lv.b (Lv.b (Lv.b (Lv.b (A 118))))))) (doneK P results118) X0 (doneK P results118)))
noncomputable def E118_2 (cal : Cal) (k m1 : Nat) : KC (Value × Hp × Nat) := codeE P cal (codeF P cal m1) none 118 (cR (cR (cR (cL (cL (cR (cL (cR (cR (cR (cR code118))))))))))) (Lv.b (Lv.b (Lv.b (Lv.a (Lv.a (Lv.b (Lv.a (Lv.b (Lv.b (Lv.b (Lv.b (A 118)))))))))))) (K118_prrrrlrl cal k m1) (K118_pxrrrrlr cal k) (doneK P results118)
noncomputable def E118_1 (cal : Cal) (k m1 : Nat) : KC (Value × Hp × Nat) := codeE P cal (codeF P cal m1) none 118 (cL (cL (cR (cL (cR (cR (cR (cR code118)))))))) (Lv.a (Lv.a (Lv.b (Lv.a (Lv.b (Lv.b (Lv.b (Lv.b (A 118))))))))) (K118_prrrrlrl cal k m1) (K118_pxrrrrlr cal k) (doneK P results118)
noncomputable def R118_1 (cal : Cal) (k m1 : Nat) : Value → Value → Value → Value → Value → Value → Value → Value → Hp → Nat → Res := fun u2 u3 u4 u6 u7 u8 u48 u49 H n => codeF P cal m1 (Lv.a (Lv.b (Lv.a (Lv.b (Lv.b (Lv.b (Lv.b (A 118)))))))) none 118 (cL (cR (cL (cR (cR (cR (cR code118))))))) (K118_prrrr cal k) (K118_pxrrrrlr cal k) (doneK P results118) (Tr.set (Tr.set (Tr.set (Tr.set (Tr.set (Tr.set (Tr.set (Tr.set Tr.nil 49 (some u49)) 48 (some u48)) 8 (some u8)) 7 (some u7)) 6 (some u6)) 4 (some u4)) 3 (some u3)) 2 (some u2)) H n []
noncomputable def B118_2 (cal : Cal) (k m1 : Nat) (b1 : Value → Value → Value → Value → Value → Value → Value → Value → Hp → Nat → Res) (u2 u3 u4 u6 u7 u8 u48 u49 : Value) (H : Hp) (n : Nat) : Res :=
binK P Go.BinOp.add 3 (Go.Operand.tmp 49) (Go.Operand.const (Go.Value.int Go.IntKind.i64 1)) u49 (Go.Value.int Go.IntKind.i64 1) fun v79_107 =>
b1 u2 u3 u4 u6 u7 u8 u48 v79_107 H n
noncomputable def C118_2 (cal : Cal) (k m1 : Nat) (b1 : Value → Value → Value → Value → Value → Value → Value → Value → Hp → Nat → Res) (u2 u3 u4 u6 u7 u8 u48 u49 : Value) (H : Hp) (n : Nat) : Res := B118_2 cal k m1 b1 u2 u3 u4 u6 u7 u8 u48 u49 H n
theorem h118_2 (cal : Cal) (k m1 : Nat) (u2 u3 u4 u6 u7 u8 u48 u49 : Value) (H : Hp) (n : Nat) : labK (E118_2 cal k m1) (Tr.set (Tr.set (Tr.set (Tr.set (Tr.set (Tr.set (Tr.set (Tr.set Tr.nil 49 (some u49)) 48 (some u48)) 8 (some u8)) 7 (some u7)) 6 (some u6)) 4 (some u4)) 3 (some u3)) 2 (some u2)) H n [] = C118_2 cal k m1 (R118_1 cal k m1) u2 u3 u4 u6 u7 u8 u48 u49 H n := by
  have h : labK (E118_2 cal k m1) (Tr.set (Tr.set (Tr.set (Tr.set (Tr.set (Tr.set (Tr.set (Tr.set Tr.nil 49 (some u49)) 48 (some u48)) 8 (some u8)) 7 (some u7)) 6 (some u6)) 4 (some u4)) 3 (some u3)) 2 (some u2)) H n [] = B118_2 cal k m1 (R118_1 cal k m1) u2 u3 u4 u6 u7 u8 u48 u49 H n := by kernel_rfl
  rw [h, C118_2]
theorem q118_2 (cal : Cal) (k m1 : Nat) (u2 u3 u4 u6 u7 u8 u48 u49 : Value) (H : Hp) (n : Nat) : labK (E118_2 cal k m1) (Tr.set (Tr.set (Tr.set (Tr.set (Tr.set (Tr.set (Tr.set (Tr.set Tr.nil 49 (some u49)) 48 (some u48)) 8 (some u8)) 7 (some u7)) 6 (some u6)) 4 (some u4)) 3 (some u3)) 2 (some u2)) H n [] = C118_2 cal k m1 (R118_1 cal k m1) u2 u3 u4 u6 u7 u8 u48 u49 H n := h118_2 ..
noncomputable def B118_1 (cal : Cal) (k m1 : Nat) (j2 : Value → Value → Value → Value → Value → Value → Value → Value → Hp → Nat → Res) (b1 : Value → Value → Value → Value → Value → Value → Value → Value → Hp → Nat → Res) (u2 u3 u4 u6 u7 u8 u48 u49 : Value) (H : Hp) (n : Nat) : Res :=
binK P Go.BinOp.lss 3 (Go.Operand.tmp 49) (Go.Operand.tmp 48) u49 u48 fun v50_106 =>
ifK v50_106 (
bindO (addrV u4) fun a_112 => bindO (loadV P H 105 a_112) fun v52_111 =>
callFK P cal 102 [v52_111, u2, u49] H n fun v55_115 H_116 n_117 =>
bindO (pureSem P v55_115 (Op.unary Go.UnOp.not v55_115)) fun v56_118 =>
ifK v56_118 (
j2 u2 u3 u4 u6 u7 u8 u48 u49 H_116 n_117) (
bindO (indexAddrV P 121 u7 u2) fun v59_121 =>
bindO (storeP P 3 v59_121 u49 H_116) fun H_123 =>
bindO (addrV u6) fun a_124 => bindO (loadV P H_123 176 a_124) fun v_125 =>
bindO (addrV u7) fun a_126 => bindO (loadV P H_123 121 a_126) fun v_127 =>
bindO (addrV u8) fun a_128 => bindO (loadV P H_123 111 a_128) fun v_129 =>
bindO (addrV u4) fun a_130 => bindO (loadV P H_123 105 a_130) fun v_131 =>
bindO (nilV v_131) fun v66_134 =>
bindO (fieldAddrV P 117 v66_134 2) fun v67_135 =>
bindO (indexAddrV P 115 v67_135 u2) fun v68_136 =>
bindO (indexAddrV P 114 v68_136 u49) fun v69_137 =>
bindO (fieldAddrV P 113 v69_137 2) fun v70_138 =>
bindO (addrV v70_138) fun a_139 => bindO (loadV P H_123 111 a_139) fun v_140 =>
binK P Go.BinOp.add 3 (Go.Operand.tmp 73) (Go.Operand.const (Go.Value.int Go.IntKind.i64 1)) u2 (Go.Value.int Go.IntKind.i64 1) fun v74_142 =>
binK P Go.BinOp.sub 3 (Go.Operand.tmp 75) (Go.Operand.const (Go.Value.int Go.IntKind.i64 1)) u3 (Go.Value.int Go.IntKind.i64 1) fun v76_144 =>
effK P [(.l 121 a_126), (.l 176 a_124)] H_123 n_117 (fun H_145 n_146 k_147 =>
callFK P cal 103 [v_129, v_140] H_145 n_146 fun v72_151 H_152 n_153 =>
k_147 v72_151 H_152 n_153) fun v_148 H_149 n_150 =>
callVK P cal v_125 [v_127, v_148, v74_142, v76_144] H_149 n_150 fun v77_154 H_155 n_156 =>
bindO (pureSem P v77_154 (Op.unary Go.UnOp.not v77_154)) fun v78_157 =>
ifK v78_157 (
some ((Go.Value.bool false), H_155, n_156)) (
j2 u2 u3 u4 u6 u7 u8 u48 u49 H_155 n_156))) (
some ((Go.Value.bool true), H, n))
noncomputable def C118_1 (cal : Cal) (k m1 : Nat) (b1 : Value → Value → Value → Value → Value → Value → Value → Value → Hp → Nat → Res) (u2 u3 u4 u6 u7 u8 u48 u49 : Value) (H : Hp) (n : Nat) : Res := B118_1 cal k m1 (C118_2 cal k m1 b1) b1 u2 u3 u4 u6 u7 u8 u48 u49 H n
noncomputable def S118_1 (cal : Cal) (k : Nat) : Nat → Value → Value → Value → Value → Value → Value → Value → Value → Hp → Nat → Res := fun m => Nat.rec (motive := fun _ => Value → Value → Value → Value → Value → Value → Value → Value → Hp → Nat → Res) (C118_1 cal k 0 (fun _ _ _ _ _ _ _ _ _ _ => none)) (fun m ih => C118_1 cal k (m + 1) ih) m
theorem h118_1 (cal : Cal) (k m1 : Nat) (u2 u3 u4 u6 u7 u8 u48 u49 : Value) (H : Hp) (n : Nat) : labK (E118_1 cal k m1) (Tr.set (Tr.set (Tr.set (Tr.set (Tr.set (Tr.set (Tr.set (Tr.set Tr.nil 49 (some u49)) 48 (some u48)) 8 (some u8)) 7 (some u7)) 6 (some u6)) 4 (some u4)) 3 (some u3)) 2 (some u2)) H n [] = C118_1 cal k m1 (R118_1 cal k m1) u2 u3 u4 u6 u7 u8 u48 u49 H n := by
  have h : labK (E118_1 cal k m1) (Tr.set (Tr.set (Tr.set (Tr.set (Tr.set (Tr.set (Tr.set (Tr.set Tr.nil 49 (some u49)) 48 (some u48)) 8 (some u8)) 7 (some u7)) 6 (some u6)) 4 (some u4)) 3 (some u3)) 2 (some u2)) H n [] = B118_1 cal k m1 (fun u2 u3 u4 u6 u7 u8 u48 u49 H n => labK (E118_2 cal k m1) (Tr.set (Tr.set (Tr.set (Tr.set (Tr.set (Tr.set (Tr.set (Tr.set Tr.nil 49 (some u49)) 48 (some u48)) 8 (some u8)) 7 (some u7)) 6 (some u6)) 4 (some u4)) 3 (some u3)) 2 (some u2)) H n []) (R118_1 cal k m1) u2 u3 u4 u6 u7 u8 u48 u49 H n := by kernel_rfl
  rw [h, C118_1]
  have e2 : (fun u2 u3 u4 u6 u7 u8 u48 u49 H n => labK (E118_2 cal k m1) (Tr.set (Tr.set (Tr.set (Tr.set (Tr.set (Tr.set (Tr.set (Tr.set Tr.nil 49 (some u49)) 48 (some u48)) 8 (some u8)) 7 (some u7)) 6 (some u6)) 4 (some u4)) 3 (some u3)) 2 (some u2)) H n []) = (C118_2 cal k m1 (R118_1 cal k m1)) := by funext u2 u3 u4 u6 u7 u8 u48 u49 H n; exact q118_2 ..
  rw [e2]
theorem q118_1 (cal : Cal) (k : Nat) : ∀ (m : Nat) (u2 u3 u4 u6 u7 u8 u48 u49 : Value) (H : Hp) (n : Nat), labK (E118_1 cal k m) (Tr.set (Tr.set (Tr.set (Tr.set (Tr.set (Tr.set (Tr.set (Tr.set Tr.nil 49 (some u49)) 48 (some u48)) 8 (some u8)) 7 (some u7)) 6 (some u6)) 4 (some u4)) 3 (some u3)) 2 (some u2)) H n [] = S118_1 cal k m u2 u3 u4 u6 u7 u8 u48 u49 H n
  | 0, u2, u3, u4, u6, u7, u8, u48, u49, H, n => by
    rw [h118_1]
    have e : R118_1 cal k 0 = fun _ _ _ _ _ _ _ _ _ _ => none := by funext u2 u3 u4 u6 u7 u8 u48 u49 H n; kernel_rfl
    rw [e]; rfl
  | m + 1, u2, u3, u4, u6, u7, u8, u48, u49, H, n => by
    rw [h118_1]
    have e : R118_1 cal k (m + 1) = S118_1 cal k m := by
      funext u2 u3 u4 u6 u7 u8 u48 u49 H n
      have e : R118_1 cal k (m + 1) u2 u3 u4 u6 u7 u8 u48 u49 H n = labK (E118_1 cal k m) (Tr.set (Tr.set (Tr.set (Tr.set (Tr.set (Tr.set (Tr.set (Tr.set Tr.nil 49 (some u49)) 48 (some u48)) 8 (some u8)) 7 (some u7)) 6 (some u6)) 4 (some u4)) 3 (some u3)) 2 (some u2)) H n [] := by kernel_rfl
      rw [e]; exact q118_1 ..
    rw [e]; rfl
noncomputable def B118_0 (cal : Cal) (k : Nat) (j1 : Value → Value → Value → Value → Value → Value → Value → Value → Hp → Nat → Res) (v0 v1 v2 v3 v4 v5 v6 : Value) (H : Hp) (n : Nat) : Res :=
boxK 121 v0 H n fun v7_1 H_2 n_3 =>
boxK 111 v1 H_2 n_3 fun v8_4 H_5 n_6 =>
bindO (addrV v4) fun a_9 => bindO (loadV P H_5 105 a_9) fun v13_8 =>
bindO (addrV v8_4) fun a_11 => bindO (loadV P H_5 111 a_11) fun v14_10 =>
callFK P cal 111 [v13_8, v14_10] H_5 n_6 fun v15_12 H_13 n_14 =>
bindO (pureSem P v15_12 (Op.unary Go.UnOp.not v15_12)) fun v16_15 =>
guardK v16_15 false (fun k_17 =>
k_17 v3 H_13 n_14) H_13 n_14 fun v_18 H_19 n_20 =>
guardK v16_15 false (fun k_22 =>
bindO (addrV v4) fun a_27 => bindO (loadV P H_19 105 a_27) fun v19_26 =>
k_22 v19_26 H_19 n_20) H_19 n_20 fun v_23 H_24 n_25 =>
guardK v16_15 false (fun k_28 =>
bindO (nilV v_23) fun v20_32 =>
k_28 v20_32 H_24 n_25) H_24 n_25 fun v_29 H_30 n_31 =>
guardK v16_15 false (fun k_33 =>
bindO (fieldAddrV P 117 v_29 0) fun v21_37 =>
k_33 v21_37 H_30 n_31) H_30 n_31 fun v_34 H_35 n_36 =>
guardK v16_15 false (fun k_38 =>
bindO (fieldAddrV P 35 v_34 0) fun v22_42 =>
k_38 v22_42 H_35 n_36) H_35 n_36 fun v_39 H_40 n_41 =>
guardK v16_15 false (fun k_43 =>
bindO (addrV v_39) fun a_48 => bindO (loadV P H_40 31 a_48) fun v23_47 =>
k_43 v23_47 H_40 n_41) H_40 n_41 fun v_44 H_45 n_46 =>
guardK v16_15 false (fun k_49 =>
bindO (lenV P 31 v_44) fun v24_53 =>
k_49 v24_53 H_45 n_46) H_45 n_46 fun v_50 H_51 n_52 =>
guardK v16_15 false (fun k_54 =>
k_54 v2 H_51 n_52) H_51 n_52 fun v_55 H_56 n_57 =>
guardK v16_15 false (fun k_59 =>
binK P Go.BinOp.sub 3 (Go.Operand.tmp 24) (Go.Operand.tmp 25) v_50 v_55 fun v26_63 =>
k_59 v26_63 H_56 n_57) H_56 n_57 fun v_60 H_61 n_62 =>
guardK v16_15 false (fun k_64 =>
binK P Go.BinOp.gtr 3 (Go.Operand.tmp 18) (Go.Operand.tmp 26) v_18 v_60 fun v27_68 =>
k_64 v27_68 H_61 n_62) H_61 n_62 fun v_65 H_66 n_67 =>
bindO (pickV v16_15 (Go.Value.bool true) v_65) fun v28_69 =>
ifK v28_69 (
some ((Go.Value.bool true), H_66, n_67)) (
binK P Go.BinOp.eql 3 (Go.Operand.tmp 29) (Go.Operand.const (Go.Value.int Go.IntKind.i64 0)) v3 (Go.Value.int Go.IntKind.i64 0) fun v30_72 =>
ifK v30_72 (
bindO (addrV v5) fun a_74 => bindO (loadV P H_66 175 a_74) fun v31_73 =>
bindO (addrV v7_1) fun a_76 => bindO (loadV P H_66 121 a_76) fun v32_75 =>
bindO (addrV v8_4) fun a_78 => bindO (loadV P H_66 111 a_78) fun v33_77 =>
callVK P cal v31_73 [v32_75, v33_77] H_66 n_67 fun v34_79 H_80 n_81 =>
some (v34_79, H_80, n_81)) (
bindO (addrV v6) fun a_84 => bindO (loadV P H_66 176 a_84) fun v35_83 =>
bindO (addrV v7_1) fun a_86 => bindO (loadV P H_66 121 a_86) fun v36_85 =>
bindO (addrV v8_4) fun a_88 => bindO (loadV P H_66 111 a_88) fun v37_87 =>
binK P Go.BinOp.add 3 (Go.Operand.tmp 38) (Go.Operand.const (Go.Value.int Go.IntKind.i64 1)) v2 (Go.Value.int Go.IntKind.i64 1) fun v39_90 =>
callVK P cal v35_83 [v36_85, v37_87, v39_90, v3] H_66 n_67 fun v41_92 H_93 n_94 =>
bindO (pureSem P v41_92 (Op.unary Go.UnOp.not v41_92)) fun v42_95 =>
ifK v42_95 (
some ((Go.Value.bool false), H_93, n_94)) (
bindO (addrV v4) fun a_98 => bindO (loadV P H_93 105 a_98) fun v43_97 =>
bindO (nilV v43_97) fun v44_99 =>
bindO (fieldAddrV P 117 v44_99 0) fun v45_100 =>
bindO (fieldAddrV P 35 v45_100 2) fun v46_101 =>
bindO (addrV v46_101) fun a_103 => bindO (loadV P H_93 33 a_103) fun v47_102 =>
bindO (lenV P 33 v47_102) fun v48_104 =>
j1 v2 v3 v4 v6 v7_1 v8_4 v48_104 (Go.Value.int Go.IntKind.i64 0) H_93 n_94)))
noncomputable def C118_0 (cal : Cal) (k : Nat) (v0 v1 v2 v3 v4 v5 v6 : Value) (H : Hp) (n : Nat) : Res := B118_0 cal k (S118_1 cal k k) v0 v1 v2 v3 v4 v5 v6 H n
theorem h118_0 (cal : Cal) (k : Nat) (v0 v1 v2 v3 v4 v5 v6 : Value) (H : Hp) (n : Nat) : bodyE P cal A (k + 1) 118 [v0, v1, v2, v3, v4, v5, v6] H n = C118_0 cal k v0 v1 v2 v3 v4 v5 v6 H n := by
  have h : bodyE P cal A (k + 1) 118 [v0, v1, v2, v3, v4, v5, v6] H n = B118_0 cal k (fun u2 u3 u4 u6 u7 u8 u48 u49 H n => labK (E118_1 cal k k) (Tr.set (Tr.set (Tr.set (Tr.set (Tr.set (Tr.set (Tr.set (Tr.set Tr.nil 49 (some u49)) 48 (some u48)) 8 (some u8)) 7 (some u7)) 6 (some u6)) 4 (some u4)) 3 (some u3)) 2 (some u2)) H n []) v0 v1 v2 v3 v4 v5 v6 H n := by
    rw [body_eq (fn := Go.Proofs.Try.f118) (c := code118) (rs := results118) (by kernel_rfl) (by kernel_rfl) (by kernel_rfl) (by kernel_rfl)]
    kernel_rfl
  rw [h, C118_0]
  have e1 : (fun u2 u3 u4 u6 u7 u8 u48 u49 H n => labK (E118_1 cal k k) (Tr.set (Tr.set (Tr.set (Tr.set (Tr.set (Tr.set (Tr.set (Tr.set Tr.nil 49 (some u49)) 48 (some u48)) 8 (some u8)) 7 (some u7)) 6 (some u6)) 4 (some u4)) 3 (some u3)) 2 (some u2)) H n []) = (S118_1 cal k k) := by funext u2 u3 u4 u6 u7 u8 u48 u49 H n; exact q118_1 ..
  rw [e1]
noncomputable def code119 : Code := codeOf 119
noncomputable def results119 : List ResultVar := resOf 119
noncomputable def K119_p (cal : Cal) (k : Nat) : KC (Value × Hp × Nat) := (cutK (A 119).c (codeE P cal (codeF P cal k) none 119 (cR code119) (Lv.b (A 119)) (doneK P results119) X0 (doneK P results119)))
noncomputable def K119_pl (cal : Cal) (k : Nat) : KC (Value × Hp × Nat) := (cutK (Lv.a (A 119)).c (codeE P cal (codeF P cal k) none 119 (cR (cL code119)) (Lv.b (Lv.a (A 119))) (K119_p cal k) X0 (doneK P results119)))
noncomputable def K119_pr (cal : Cal) (k : Nat) : KC (Value × Hp × Nat) := (cutK (Lv.b (A 119)).c (codeE P cal (codeF P cal k) none 119 (cR (cR code119)) (Lv.b (Lv.b (A 119))) (doneK P results119) X0 (doneK P results119)))
noncomputable def K119_pxrr (cal : Cal) (k : Nat) : XC (Value × Hp × Nat) := (upX 0 (doneK P results119) X0)
noncomputable def K119_prrl (cal : Cal) (k : Nat) (m1 : Nat) : KC (Value × Hp × Nat) := (fun T H n D => codeF P cal m1 (Lv.a (Lv.b (Lv.b (A 119)))) none 119 (cL (cR (cR code119))) (doneK P results119) (K119_pxrr cal k) (doneK P results119) (cutT (Lv.a (Lv.b (Lv.b (A 119)))).c T) H n D)
noncomputable def K119_prrll (cal : Cal) (k : Nat) (m1 : Nat) : KC (Value × Hp × Nat) := (cutK (Lv.a (Lv.a (Lv.b (Lv.b (A 119))))).c (codeE P cal (codeF P cal m1) none 119 (cR (cL (cL (cR (cR code119))))) (Lv.b (Lv.a (Lv.a (Lv.b (Lv.b (A 119)))))) (K119_prrl cal k m1) (K119_pxrr cal k) (doneK P results119)))
noncomputable def K119_prrllr (cal : Cal) (k : Nat) (m1 : Nat) : KC (Value × Hp × Nat) := (cutK (Lv.b (Lv.a (Lv.a (Lv.b (Lv.b (A 119)))))).c (codeE P cal (codeF P cal m1) none 119 (cR (cR (cL (cL (cR (cR code119)))))) (Lv.b (Lv.b (Lv.a (Lv.a (Lv.b (Lv.b (A 119))))))) (K119_prrl cal k m1) (K119_pxrr cal k) (doneK P results119)))
noncomputable def K119_prrllrr (cal : Cal) (k : Nat) (m1 : Nat) : KC (Value × Hp × Nat) := (cutK (Lv.b (Lv.b (Lv.a (Lv.a (Lv.b (Lv.b (A 119))))))).c (codeE P cal (codeF P cal m1) none 119 (cR (cR (cR (cL (cL (cR (cR code119))))))) (Lv.b (Lv.b (Lv.b (Lv.a (Lv.a (Lv.b (Lv.b (A 119)))))))) (K119_prrl cal k m1) (K119_pxrr cal k) (doneK P results119)))
noncomputable def K119_pxrrllrrl (cal : Cal) (k : Nat) (m1 : Nat) : XC (Value × Hp × Nat) := (upX 1 (K119_prrllrr cal k m1) (K119_pxrr cal k))
noncomputable def K119_prrllrrll (cal : Cal) (k : Nat) (m1 : Nat) : KC (Value × Hp × Nat) := (cutK (Lv.a (Lv.a (Lv.b (Lv.b (Lv.a (Lv.a (Lv.b (Lv.b (A 119))))))))).c (codeE P cal (codeF P cal m1) none 119 (cR (cL (cL (cR (cR (cL (cL (cR (cR code119))))))))) (Lv.b (Lv.a (Lv.a (Lv.b (Lv.b (Lv.a (Lv.a (Lv.b (Lv.b (A 119)))))))))) (K119_prrllrr cal k m1) (K119_pxrrllrrl cal k m1) (doneK P results119)))
noncomputable def K119_prrllrrllr (cal : Cal) (k : Nat) (m1 : Nat) : KC (Value × Hp × Nat) := (cutK (Lv.b (Lv.a (Lv.a (Lv.b (Lv.b (Lv.a (Lv.a (Lv.b (Lv.b (A 119)))))))))).c (codeE P cal (codeF P cal m1) none 119 (cR (cR (cL (cL (cR (cR (cL (cL (cR (cR code119)))))))))) (Lv.b (Lv.b (Lv.a (Lv.a (Lv.b (Lv.b (Lv.a (Lv.a (Lv.b (Lv.b (A 119))))))))))) (K119_prrllrr cal k m1) (K119_pxrrllrrl cal k m1) (doneK P results119)))
noncomputable def E119_1 (cal : Cal) (k m1 : Nat) : KC (Value × Hp × Nat) := codeE P cal (codeF P cal m1) none 119 (cL (cL (cR (cR code119)))) (Lv.a (Lv.a (Lv.b (Lv.b (A 119))))) (K119_prrl cal k m1) (K119_pxrr cal k) (doneK P results119)
noncomputable def R119_1 (cal : Cal) (k m1 : Nat) : Value → Value → Value → Value → Value → Hp → Nat → Res := fun u0 u1 u2 u14 u15 H n => codeF P cal m1 (Lv.a (Lv.b (Lv.b (A 119)))) none 119 (cL (cR (cR code119))) (doneK P results119) (K119_pxrr cal k) (doneK P results119) (Tr.set (Tr.set (Tr.set (Tr.set (Tr.set Tr.nil 15 (some u15)) 14 (some u14)) 2 (some u2)) 1 (some u1)) 0 (some u0)) H n []
noncomputable def B119_1 (cal : Cal) (k m1 : Nat) (b1 : Value → Value → Value → Value → Value → Hp → Nat → Res) (u0 u1 u2 u14 u15 : Value) (H : Hp) (n : Nat) : Res :=
binK P Go.BinOp.lss 3 (Go.Operand.tmp 15) (Go.Operand.tmp 14) u15 u14 fun v16_17 =>
ifK v16_17 (
bindO (addrV u2) fun a_20 => bindO (loadV P H 105 a_20) fun v_21 =>
bindO (addrV u1) fun a_22 => bindO (loadV P H 3 a_22) fun v_23 =>
bindO (nilV v_21) fun v21_25 =>
bindO (fieldAddrV P 117 v21_25 1) fun v22_26 =>
bindO (indexAddrV P 109 v22_26 v_23) fun v23_27 =>
bindO (indexAddrV P 108 v23_27 u15) fun v24_28 =>
bindO (addrV v24_28) fun a_29 => bindO (loadV P H 4 a_29) fun v_30 =>
guardD v_30 true (fun k_32 =>
k_32 u0 .p H n) .p H n fun v_33 x_34 H_35 n_36 =>
guardD v_30 true (fun k_38 =>
k_38 u15 .p H_35 n_36) .p H_35 n_36 fun v_39 x_40 H_41 n_42 =>
guardD v_30 true (fun k_44 =>
callVK P cal v_33 [v_39] H_41 n_42 fun v29_49 H_50 n_51 =>
k_44 v29_49 .e H_50 n_51) .e H_41 n_42 fun v_45 x_46 H_47 n_48 =>
guardD v_30 true (fun k_52 =>
bindO (pureSem P v_45 (Op.unary Go.UnOp.not v_45)) fun v30_57 =>
k_52 v30_57 .p H_47 n_48) .p H_47 n_48 fun v_53 x_54 H_55 n_56 =>
bindO (pickV v_30 v_53 (Go.Value.bool false)) fun v31_58 =>
ifK v31_58 (
some ((Value.tuple ⟨[]⟩), H_55, n_56)) (
binK P Go.BinOp.add 3 (Go.Operand.tmp 15) (Go.Operand.const (Go.Value.int Go.IntKind.i64 1)) u15 (Go.Value.int Go.IntKind.i64 1) fun v32_59 =>
b1 u0 u1 u2 u14 v32_59 H_55 n_56)) (
some ((Value.tuple ⟨[]⟩), H, n))
noncomputable def C119_1 (cal : Cal) (k m1 : Nat) (b1 : Value → Value → Value → Value → Value → Hp → Nat → Res) (u0 u1 u2 u14 u15 : Value) (H : Hp) (n : Nat) : Res := B119_1 cal k m1 b1 u0 u1 u2 u14 u15 H n
noncomputable def S119_1 (cal : Cal) (k : Nat) : Nat → Value → Value → Value → Value → Value → Hp → Nat → Res := fun m => Nat.rec (motive := fun _ => Value → Value → Value → Value → Value → Hp → Nat → Res) (C119_1 cal k 0 (fun _ _ _ _ _ _ _ => none)) (fun m ih => C119_1 cal k (m + 1) ih) m
theorem h119_1 (cal : Cal) (k m1 : Nat) (u0 u1 u2 u14 u15 : Value) (H : Hp) (n : Nat) : labK (E119_1 cal k m1) (Tr.set (Tr.set (Tr.set (Tr.set (Tr.set Tr.nil 15 (some u15)) 14 (some u14)) 2 (some u2)) 1 (some u1)) 0 (some u0)) H n [] = C119_1 cal k m1 (R119_1 cal k m1) u0 u1 u2 u14 u15 H n := by
  have h : labK (E119_1 cal k m1) (Tr.set (Tr.set (Tr.set (Tr.set (Tr.set Tr.nil 15 (some u15)) 14 (some u14)) 2 (some u2)) 1 (some u1)) 0 (some u0)) H n [] = B119_1 cal k m1 (R119_1 cal k m1) u0 u1 u2 u14 u15 H n := by kernel_rfl
  rw [h, C119_1]
theorem q119_1 (cal : Cal) (k : Nat) : ∀ (m : Nat) (u0 u1 u2 u14 u15 : Value) (H : Hp) (n : Nat), labK (E119_1 cal k m) (Tr.set (Tr.set (Tr.set (Tr.set (Tr.set Tr.nil 15 (some u15)) 14 (some u14)) 2 (some u2)) 1 (some u1)) 0 (some u0)) H n [] = S119_1 cal k m u0 u1 u2 u14 u15 H n
  | 0, u0, u1, u2, u14, u15, H, n => by
    rw [h119_1]
    have e : R119_1 cal k 0 = fun _ _ _ _ _ _ _ => none := by funext u0 u1 u2 u14 u15 H n; kernel_rfl
    rw [e]; rfl
  | m + 1, u0, u1, u2, u14, u15, H, n => by
    rw [h119_1]
    have e : R119_1 cal k (m + 1) = S119_1 cal k m := by
      funext u0 u1 u2 u14 u15 H n
      have e : R119_1 cal k (m + 1) u0 u1 u2 u14 u15 H n = labK (E119_1 cal k m) (Tr.set (Tr.set (Tr.set (Tr.set (Tr.set Tr.nil 15 (some u15)) 14 (some u14)) 2 (some u2)) 1 (some u1)) 0 (some u0)) H n [] := by kernel_rfl
      rw [e]; exact q119_1 ..
    rw [e]; rfl
noncomputable def B119_0 (cal : Cal) (k : Nat) (j1 : Value → Value → Value → Value → Value → Hp → Nat → Res) (v0 v1 v2 : Value) (H : Hp) (n : Nat) : Res :=
bindO (addrV v1) fun a_3 => bindO (loadV P H 3 a_3) fun v6_2 =>
callVK P cal v0 [v6_2] H n fun v7_4 H_5 n_6 =>
bindO (pureSem P v7_4 (Op.unary Go.UnOp.not v7_4)) fun v8_7 =>
ifK v8_7 (
some ((Value.tuple ⟨[]⟩), H_5, n_6)) (
bindO (addrV v2) fun a_9 => bindO (loadV P H_5 105 a_9) fun v9_8 =>
bindO (nilV v9_8) fun v10_10 =>
bindO (fieldAddrV P 117 v10_10 0) fun v11_11 =>
bindO (fieldAddrV P 35 v11_11 0) fun v12_12 =>
bindO (addrV v12_12) fun a_14 => bindO (loadV P H_5 31 a_14) fun v13_13 =>
bindO (lenV P 31 v13_13) fun v14_15 =>
j1 v0 v1 v2 v14_15 (Go.Value.int Go.IntKind.i64 0) H_5 n_6)
noncomputable def C119_0 (cal : Cal) (k : Nat) (v0 v1 v2 : Value) (H : Hp) (n : Nat) : Res := B119_0 cal k (S119_1 cal k k) v0 v1 v2 H n
theorem h119_0 (cal : Cal) (k : Nat) (v0 v1 v2 : Value) (H : Hp) (n : Nat) : bodyE P cal A (k + 1) 119 [v0, v1, v2] H n = C119_0 cal k v0 v1 v2 H n := by
  have h : bodyE P cal A (k + 1) 119 [v0, v1, v2] H n = B119_0 cal k (fun u0 u1 u2 u14 u15 H n => labK (E119_1 cal k k) (Tr.set (Tr.set (Tr.set (Tr.set (Tr.set Tr.nil 15 (some u15)) 14 (some u14)) 2 (some u2)) 1 (some u1)) 0 (some u0)) H n []) v0 v1 v2 H n := by
    rw [body_eq (fn := Go.Proofs.Try.f119) (c := code119) (rs := results119) (by kernel_rfl) (by kernel_rfl) (by kernel_rfl) (by kernel_rfl)]
    kernel_rfl
  rw [h, C119_0]
  have e1 : (fun u0 u1 u2 u14 u15 H n => labK (E119_1 cal k k) (Tr.set (Tr.set (Tr.set (Tr.set (Tr.set Tr.nil 15 (some u15)) 14 (some u14)) 2 (some u2)) 1 (some u1)) 0 (some u0)) H n []) = (S119_1 cal k k) := by funext u0 u1 u2 u14 u15 H n; exact q119_1 ..
  rw [e1]
noncomputable def code120 : Code := codeOf 120
noncomputable def results120 : List ResultVar := resOf 120
noncomputable def K120_p (cal : Cal) (k : Nat) : KC (Value × Hp × Nat) := (cutK (A 120).c (codeE P cal (codeF P cal k) none 120 (cR code120) (Lv.b (A 120)) (doneK P results120) X0 (doneK P results120)))
noncomputable def K120_pr (cal : Cal) (k : Nat) : KC (Value × Hp × Nat) := (cutK (Lv.b (A 120)).c (codeE P cal (codeF P cal k) none 120 (cR (cR code120)) (Lv.b (Lv.b (A 120))) (doneK P results120) X0 (doneK P results120)))
noncomputable def K120_prr (cal : Cal) (k : Nat) : KC (Value × Hp × Nat) := (cutK (Lv.b (Lv.b (A 120))).c (codeE P cal (codeF P cal k) none 120 (cR (cR (cR code120))) (Lv.b (Lv.b (Lv.b (A 120)))) (doneK P results120) X0 (doneK P results120)))
noncomputable def B120_0 (cal : Cal) (k : Nat) (v0 v1 v2 : Value) (H : Hp) (n : Nat) : Res :=
boxK 113 v0 H n fun v3_1 H_2 n_3 =>
boxK 179 v2 H_2 n_3 fun v5_4 H_5 n_6 =>
bindO (addrV v3_1) fun a_8 => bindO (loadV P H_5 113 a_8) fun v_9 =>
bindO (fieldAddrV P 179 v5_4 1) fun v9_10 =>
bindO (addrV v9_10) fun a_11 => bindO (loadV P H_5 129 a_11) fun v_12 =>
bindO (fieldAddrV P 179 v5_4 1) fun v12_13 =>
bindO (addrV v12_13) fun a_14 => bindO (loadV P H_5 129 a_14) fun v_15 =>
bindO (fieldAddrV P 113 v3_1 1) fun v15_17 =>
bindO (indexAddrV P 111 v15_17 v1) fun v16_18 =>
bindO (addrV v16_18) fun a_19 => bindO (loadV P H_5 53 a_19) fun v_20 =>
effK P [(.l 53 a_19), (.l 129 a_14)] H_5 n_6 (fun H_21 n_22 k_23 =>
callFK P cal 98 [v_9, v_12] H_21 n_22 fun v11_27 H_28 n_29 =>
k_23 v11_27 H_28 n_29) fun v_24 H_25 n_26 =>
callVK P cal v_15 [v_20] H_25 n_26 fun v18_30 H_31 n_32 =>
binK P Go.BinOp.sub 3 (Go.Operand.tmp 11) (Go.Operand.tmp 18) v_24 v18_30 fun v19_33 =>
bindO (fieldAddrV P 179 v5_4 2) fun v20_35 =>
bindO (addrV v20_35) fun a_36 => bindO (loadV P H_31 160 a_36) fun v_37 =>
bindO (fieldAddrV P 179 v5_4 0) fun v22_38 =>
bindO (addrV v22_38) fun a_39 => bindO (loadV P H_31 129 a_39) fun v_40 =>
bindO (fieldAddrV P 113 v3_1 1) fun v25_42 =>
bindO (indexAddrV P 111 v25_42 v1) fun v26_43 =>
bindO (addrV v26_43) fun a_44 => bindO (loadV P H_31 53 a_44) fun v_45 =>
bindO (fieldAddrV P 113 v3_1 0) fun v29_46 =>
bindO (addrV v29_46) fun a_47 => bindO (loadV P H_31 3 a_47) fun v_48 =>
binK P Go.BinOp.sub 3 (Go.Operand.tmp 30) (Go.Operand.tmp 31) v_48 v19_33 fun v32_50 =>
bindO (rowOf P 44 1 [(0, v32_50)]) fun q_53 => newK q_53.1 q_53.2 H_31 n_32 fun H_51 n_52 =>
effK P [(.a n_32 q_53.1 q_53.2), (.l 3 a_47), (.l 160 a_36)] H_51 n_52 (fun H_54 n_55 k_56 =>
callVK P cal v_40 [v_45] H_54 n_55 fun v28_60 H_61 n_62 =>
k_56 v28_60 H_61 n_62) fun v_57 H_58 n_59 =>
callVK P cal v_37 [v_57, (.slice (some ⟨n_32, 0, none⟩) 1 1)] H_58 n_59 fun v34_63 H_64 n_65 =>
some (v34_63, H_64, n_65)
noncomputable def C120_0 (cal : Cal) (k : Nat) (v0 v1 v2 : Value) (H : Hp) (n : Nat) : Res := B120_0 cal k v0 v1 v2 H n
theorem h120_0 (cal : Cal) (k : Nat) (v0 v1 v2 : Value) (H : Hp) (n : Nat) : bodyE P cal A (k + 1) 120 [v0, v1, v2] H n = C120_0 cal k v0 v1 v2 H n := by
  have h : bodyE P cal A (k + 1) 120 [v0, v1, v2] H n = B120_0 cal k v0 v1 v2 H n := by
    rw [body_eq (fn := Go.Proofs.Try.f120) (c := code120) (rs := results120) (by kernel_rfl) (by kernel_rfl) (by kernel_rfl) (by kernel_rfl)]
    kernel_rfl
  rw [h, C120_0]
noncomputable def code121 : Code := codeOf 121
noncomputable def results121 : List ResultVar := resOf 121
noncomputable def K121_p (cal : Cal) (k : Nat) : KC (Value × Hp × Nat) := (cutK (A 121).c (codeE P cal (codeF P cal k) none 121 (cR code121) (Lv.b (A 121)) (doneK P results121) X0 (doneK P results121)))
noncomputable def K121_pr (cal : Cal) (k : Nat) : KC (Value × Hp × Nat) := (cutK (Lv.b (A 121)).c (codeE P cal (codeF P cal k) none 121 (cR (cR code121)) (Lv.b (Lv.b (A 121))) (doneK P results121) X0 (doneK P results121)))
noncomputable def B121_0 (cal : Cal) (k : Nat) (H : Hp) (n : Nat) : Res :=
allocK P 179 H n fun v0_1 H_2 n_3 =>
bindO (buildP P 179 [(0, (Value.func (.func 72) #[] #[])), (1, (Value.func (.func 73) #[] #[])), (2, (Value.func (.func 106) #[] #[]))]) fun v1_4 =>
bindO (storeP P 179 v0_1 v1_4 H_2) fun H_6 =>
bindO (resV P (Tr.set Tr.nil 0 (some v0_1)) H_6 results121) fun vs_7 => some (oneV vs_7, H_6, n_3)
noncomputable def C121_0 (cal : Cal) (k : Nat) (H : Hp) (n : Nat) : Res := B121_0 cal k  H n
theorem h121_0 (cal : Cal) (k : Nat) (H : Hp) (n : Nat) : bodyE P cal A (k + 1) 121 [] H n = C121_0 cal k  H n := by
  have h : bodyE P cal A (k + 1) 121 [] H n = B121_0 cal k  H n := by
    rw [body_eq (fn := Go.Proofs.Try.f121) (c := code121) (rs := results121) (by kernel_rfl) (by kernel_rfl) (by kernel_rfl) (by kernel_rfl)]
    kernel_rfl
  rw [h, C121_0]
noncomputable def code122 : Code := codeOf 122
noncomputable def results122 : List ResultVar := resOf 122
noncomputable def K122_p (cal : Cal) (k : Nat) : KC (Value × Hp × Nat) := (cutK (A 122).c (codeE P cal (codeF P cal k) none 122 (cR code122) (Lv.b (A 122)) (doneK P results122) X0 (doneK P results122)))
noncomputable def K122_pr (cal : Cal) (k : Nat) : KC (Value × Hp × Nat) := (cutK (Lv.b (A 122)).c (codeE P cal (codeF P cal k) none 122 (cR (cR code122)) (Lv.b (Lv.b (A 122))) (doneK P results122) X0 (doneK P results122)))
noncomputable def B122_0 (cal : Cal) (k : Nat) (H : Hp) (n : Nat) : Res :=
allocK P 179 H n fun v0_1 H_2 n_3 =>
bindO (buildP P 179 [(0, (Value.func (.func 73) #[] #[])), (1, (Value.func (.func 72) #[] #[])), (2, (Value.func (.func 105) #[] #[]))]) fun v1_4 =>
bindO (storeP P 179 v0_1 v1_4 H_2) fun H_6 =>
bindO (resV P (Tr.set Tr.nil 0 (some v0_1)) H_6 results122) fun vs_7 => some (oneV vs_7, H_6, n_3)
noncomputable def C122_0 (cal : Cal) (k : Nat) (H : Hp) (n : Nat) : Res := B122_0 cal k  H n
theorem h122_0 (cal : Cal) (k : Nat) (H : Hp) (n : Nat) : bodyE P cal A (k + 1) 122 [] H n = C122_0 cal k  H n := by
  have h : bodyE P cal A (k + 1) 122 [] H n = B122_0 cal k  H n := by
    rw [body_eq (fn := Go.Proofs.Try.f122) (c := code122) (rs := results122) (by kernel_rfl) (by kernel_rfl) (by kernel_rfl) (by kernel_rfl)]
    kernel_rfl
  rw [h, C122_0]
end Go.Proofs.Ytakjjillnllocaa.G
