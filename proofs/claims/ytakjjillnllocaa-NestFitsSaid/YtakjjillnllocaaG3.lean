/- The texts of functions, each with the proof that the evaluator says the same. -/
import Derived.Test.YtakjjillnllocaaG1
open Go Go.Ev
set_option maxRecDepth 1000000
set_option linter.unusedVariables false
noncomputable section
namespace Go.Proofs.Ytakjjillnllocaa.G
noncomputable def code24 : Code := codeOf 24
noncomputable def results24 : List ResultVar := resOf 24
noncomputable def K24_p (cal : Cal) (k : Nat) : KC (Value × Hp × Nat) := (cutK (A 24).c (codeE P cal (codeF P cal k) none 24 (cR code24) (Lv.b (A 24)) (doneK P results24) X0 (doneK P results24)))
noncomputable def K24_pr (cal : Cal) (k : Nat) : KC (Value × Hp × Nat) := (cutK (Lv.b (A 24)).c (codeE P cal (codeF P cal k) none 24 (cR (cR code24)) (Lv.b (Lv.b (A 24))) (doneK P results24) X0 (doneK P results24)))
noncomputable def K24_prr (cal : Cal) (k : Nat) : KC (Value × Hp × Nat) := (cutK (Lv.b (Lv.b (A 24))).c (codeE P cal (codeF P cal k) none 24 (cR (cR (cR code24))) (Lv.b (Lv.b (Lv.b (A 24)))) (doneK P results24) X0 (doneK P results24)))
noncomputable def K24_prrl (cal : Cal) (k : Nat) : KC (Value × Hp × Nat) := (cutK (Lv.a (Lv.b (Lv.b (A 24)))).c (codeE P cal (codeF P cal k) none 24 (cR (cL (cR (cR code24)))) (Lv.b (Lv.a (Lv.b (Lv.b (A 24))))) (K24_prr cal k) X0 (doneK P results24)))
noncomputable def K24_prrlrl (cal : Cal) (k : Nat) : KC (Value × Hp × Nat) := (cutK (Lv.a (Lv.b (Lv.a (Lv.b (Lv.b (A 24)))))).c (codeE P cal (codeF P cal k) none 24 (cR (cL (cR (cL (cR (cR code24)))))) (Lv.b (Lv.a (Lv.b (Lv.a (Lv.b (Lv.b (A 24))))))) (K24_prr cal k) X0 (doneK P results24)))
noncomputable def K24_prrr (cal : Cal) (k : Nat) : KC (Value × Hp × Nat) := (cutK (Lv.b (Lv.b (Lv.b (A 24)))).c (codeE P cal (codeF P cal k) none 24 (cR (cR (cR (cR code24)))) (Lv.b (Lv.b (Lv.b (Lv.b (A 24))))) (doneK P results24) X0 (doneK P results24)))
noncomputable def K24_prrrr (cal : Cal) (k : Nat) : KC (Value × Hp × Nat) := (cutK (Lv.b (Lv.b (Lv.b (Lv.b (A 24))))).c (codeE P cal (codeF P cal k) none 24 (cR (cR (cR (cR (cR code24))))) (Lv.b (Lv.b (Lv.b (Lv.b (Lv.b (A 24)))))) (doneK P results24) X0 (doneK P results24)))
noncomputable def K24_prrrrl (cal : Cal) (k : Nat) : KC (Value × Hp × Nat) := (cutK (Lv.a (Lv.b (Lv.b (Lv.b (Lv.b (A 24)))))).c (codeE P cal (codeF P cal k) none 24 (cR (cL (cR (cR (cR (cR code24)))))) (Lv.b (Lv.a (Lv.b (Lv.b (Lv.b (Lv.b (A 24))))))) (K24_prrrr cal k) X0 (doneK P results24)))
noncomputable def K24_pxrrrrlr (cal : Cal) (k : Nat) : XC (Value × Hp × Nat) := (upX 0 (K24_prrrr cal k) X0)
noncomputable def K24_prrrrlrl (cal : Cal) (k : Nat) (m1 : Nat) : KC (Value × Hp × Nat) := (fun T H n D => codeF P cal m1 (Lv.a (Lv.b (Lv.a (Lv.b (Lv.b (Lv.b (Lv.b (A 24)))))))) none 24 (cL (cR (cL (cR (cR (cR (cR code24))))))) (K24_prrrr cal k) (K24_pxrrrrlr cal k) (doneK P results24) (cutT (Lv.a (Lv.b (Lv.a (Lv.b (Lv.b (Lv.b (Lv.b (A 24)))))))).c T) H n D)
noncomputable def K24_prrrrlrll (cal : Cal) (k : Nat) (m1 : Nat) : KC (Value × Hp × Nat) := (cutK (Lv.a (Lv.a (Lv.b (Lv.a (Lv.b (Lv.b (Lv.b (Lv.b (A 24))))))))).c (codeE P cal (codeF P cal m1) none 24 (cR (cL (cL (cR (cL (cR (cR (cR (cR code24))))))))) (Lv.b (Lv.a (Lv.a (Lv.b (Lv.a (Lv.b (Lv.b (Lv.b (Lv.b (A 24)))))))))) (K24_prrrrlrl cal k m1) (K24_pxrrrrlr cal k) (doneK P results24)))
noncomputable def K24_prrrrlrllr (cal : Cal) (k : Nat) (m1 : Nat) : KC (Value × Hp × Nat) := (cutK (Lv.b (Lv.a (Lv.a (Lv.b (Lv.a (Lv.b (Lv.b (Lv.b (Lv.b (A 24)))))))))).c (codeE P cal (codeF P cal m1) none 24 (cR (cR (cL (cL (cR (cL (cR (cR (cR (cR code24)))))))))) (Lv.b (Lv.b (Lv.a (Lv.a (Lv.b (Lv.a (Lv.b (Lv.b (Lv.b (Lv.b (A 24))))))))))) (K24_prrrrlrl cal k m1) (K24_pxrrrrlr cal k) (doneK P results24)))
noncomputable def K24_prrrrlrllrr (cal : Cal) (k : Nat) (m1 : Nat) : KC (Value × Hp × Nat) := (cutK (Lv.b (Lv.b (Lv.a (Lv.a (Lv.b (Lv.a (Lv.b (Lv.b (Lv.b (Lv.b (A 24))))))))))).c (codeE P cal (codeF P cal m1) none 24 (cR (cR (cR (cL (cL (cR (cL (cR (cR (cR (cR code24))))))))))) (Lv.b (Lv.b (Lv.b (Lv.a (Lv.a (Lv.b (Lv.a (Lv.b (Lv.b (Lv.b (Lv.b (A 24)))))))))))) (K24_prrrrlrl cal k m1) (K24_pxrrrrlr cal k) (doneK P results24)))
noncomputable def K24_pxrrrrlrllrrl (cal : Cal) (k : Nat) (m1 : Nat) : XC (Value × Hp × Nat) := (upX 1 (K24_prrrrlrllrr cal k m1) (K24_pxrrrrlr cal k))
noncomputable def K24_prrrrlrllrrll (cal : Cal) (k : Nat) (m1 : Nat) : KC (Value × Hp × Nat) := (cutK (Lv.a (Lv.a (Lv.b (Lv.b (Lv.a (Lv.a (Lv.b (Lv.a (Lv.b (Lv.b (Lv.b (Lv.b (A 24))))))))))))).c (codeE P cal (codeF P cal m1) none 24 (cR (cL (cL (cR (cR (cL (cL (cR (cL (cR (cR (cR (cR code24))))))))))))) (Lv.b (Lv.a (Lv.a (Lv.b (Lv.b (Lv.a (Lv.a (Lv.b (Lv.a (Lv.b (Lv.b (Lv.b (Lv.b (A 24)))))))))))))) (K24_prrrrlrllrr cal k m1) (K24_pxrrrrlrllrrl cal k m1) (doneK P results24)))
noncomputable def K24_prrrrlrllrrllrr (cal : Cal) (k : Nat) (m1 : Nat) : KC (Value × Hp × Nat) := (cutK (Lv.b (Lv.b (Lv.a (Lv.a (Lv.b (Lv.b (Lv.a (Lv.a (Lv.b (Lv.a (Lv.b (Lv.b (Lv.b (Lv.b (A 24))))))))))))))).c (codeE P cal (codeF P cal m1) none 24 (cR (cR (cR (cL (cL (cR (cR (cL (cL (cR (cL (cR (cR (cR (cR code24))))))))))))))) (Lv.b (Lv.b (Lv.b (Lv.a (Lv.a (Lv.b (Lv.b (Lv.a (Lv.a (Lv.b (Lv.a (Lv.b (Lv.b (Lv.b (Lv.b (A 24)))))))))))))))) (K24_prrrrlrllrr cal k m1) (K24_pxrrrrlrllrrl cal k m1) (doneK P results24)))
noncomputable def K24_prrrrlrllrrllr (cal : Cal) (k : Nat) (m1 : Nat) : KC (Value × Hp × Nat) := (cutK (Lv.b (Lv.a (Lv.a (Lv.b (Lv.b (Lv.a (Lv.a (Lv.b (Lv.a (Lv.b (Lv.b (Lv.b (Lv.b (A 24)))))))))))))).c (codeE P cal (codeF P cal m1) none 24 (cR (cR (cL (cL (cR (cR (cL (cL (cR (cL (cR (cR (cR (cR code24)))))))))))))) (Lv.b (Lv.b (Lv.a (Lv.a (Lv.b (Lv.b (Lv.a (Lv.a (Lv.b (Lv.a (Lv.b (Lv.b (Lv.b (Lv.b (A 24))))))))))))))) (K24_prrrrlrllrr cal k m1) (K24_pxrrrrlrllrrl cal k m1) (doneK P results24)))
noncomputable def K24_prrrrlrllrrllrl (cal : Cal) (k : Nat) (m1 : Nat) : KC (Value × Hp × Nat) := (cutK (Lv.a (Lv.b (Lv.a (Lv.a (Lv.b (Lv.b (Lv.a (Lv.a (Lv.b (Lv.a (Lv.b (Lv.b (Lv.b (Lv.b (A 24))))))))))))))).c (codeE P cal (codeF P cal m1) none 24 (cR (cL (cR (cL (cL (cR (cR (cL (cL (cR (cL (cR (cR (cR (cR code24))))))))))))))) (Lv.b (Lv.a (Lv.b (Lv.a (Lv.a (Lv.b (Lv.b (Lv.a (Lv.a (Lv.b (Lv.a (Lv.b (Lv.b (Lv.b (Lv.b (A 24)))))))))))))))) (K24_prrrrlrllrrllr cal k m1) (K24_pxrrrrlrllrrl cal k m1) (doneK P results24)))
noncomputable def K24_prrrrr (cal : Cal) (k : Nat) : KC (Value × Hp × Nat) := (cutK (Lv.b (Lv.b (Lv.b (Lv.b (Lv.b (A 24)))))).c (codeE P cal (codeF P cal k) none 24 (cR (cR (cR (cR (cR (cR code24)))))) (Lv.b (Lv.b (Lv.b (Lv.b (Lv.b (Lv.b (A 24))))))) (doneK P results24) X0 (doneK P results24)))
noncomputable def E24_2 (cal : Cal) (k m1 : Nat) : KC (Value × Hp × Nat) := codeE P cal (codeF P cal m1) none 24 (cR (cR (cR (cL (cL (cR (cL (cR (cR (cR (cR code24))))))))))) (Lv.b (Lv.b (Lv.b (Lv.a (Lv.a (Lv.b (Lv.a (Lv.b (Lv.b (Lv.b (Lv.b (A 24)))))))))))) (K24_prrrrlrl cal k m1) (K24_pxrrrrlr cal k) (doneK P results24)
noncomputable def E24_3 (cal : Cal) (k m1 : Nat) : KC (Value × Hp × Nat) := codeE P cal (codeF P cal m1) none 24 (cR (cR (cL (cL (cR (cR (cL (cL (cR (cL (cR (cR (cR (cR code24)))))))))))))) (Lv.b (Lv.b (Lv.a (Lv.a (Lv.b (Lv.b (Lv.a (Lv.a (Lv.b (Lv.a (Lv.b (Lv.b (Lv.b (Lv.b (A 24))))))))))))))) (K24_prrrrlrllrr cal k m1) (K24_pxrrrrlrllrrl cal k m1) (doneK P results24)
noncomputable def E24_1 (cal : Cal) (k m1 : Nat) : KC (Value × Hp × Nat) := codeE P cal (codeF P cal m1) none 24 (cL (cL (cR (cL (cR (cR (cR (cR code24)))))))) (Lv.a (Lv.a (Lv.b (Lv.a (Lv.b (Lv.b (Lv.b (Lv.b (A 24))))))))) (K24_prrrrlrl cal k m1) (K24_pxrrrrlr cal k) (doneK P results24)
noncomputable def R24_1 (cal : Cal) (k m1 : Nat) : Value → Value → Value → Value → Value → Value → Hp → Nat → Res := fun u4 u5 u7 u9 u29 u30 H n => codeF P cal m1 (Lv.a (Lv.b (Lv.a (Lv.b (Lv.b (Lv.b (Lv.b (A 24)))))))) none 24 (cL (cR (cL (cR (cR (cR (cR code24))))))) (K24_prrrr cal k) (K24_pxrrrrlr cal k) (doneK P results24) (Tr.set (Tr.set (Tr.set (Tr.set (Tr.set (Tr.set Tr.nil 30 (some u30)) 29 (some u29)) 9 (some u9)) 7 (some u7)) 5 (some u5)) 4 (some u4)) H n []
noncomputable def B24_2 (cal : Cal) (k m1 : Nat) (b1 : Value → Value → Value → Value → Value → Value → Hp → Nat → Res) (u4 u5 u7 u9 u29 u30 : Value) (H : Hp) (n : Nat) : Res :=
binK P Go.BinOp.add 3 (Go.Operand.tmp 30) (Go.Operand.const (Go.Value.int Go.IntKind.i64 1)) u30 (Go.Value.int Go.IntKind.i64 1) fun v49_50 =>
b1 u4 u5 u7 u9 u29 v49_50 H n
noncomputable def C24_2 (cal : Cal) (k m1 : Nat) (b1 : Value → Value → Value → Value → Value → Value → Hp → Nat → Res) (u4 u5 u7 u9 u29 u30 : Value) (H : Hp) (n : Nat) : Res := B24_2 cal k m1 b1 u4 u5 u7 u9 u29 u30 H n
theorem h24_2 (cal : Cal) (k m1 : Nat) (u4 u5 u7 u9 u29 u30 : Value) (H : Hp) (n : Nat) : labK (E24_2 cal k m1) (Tr.set (Tr.set (Tr.set (Tr.set (Tr.set (Tr.set Tr.nil 30 (some u30)) 29 (some u29)) 9 (some u9)) 7 (some u7)) 5 (some u5)) 4 (some u4)) H n [] = C24_2 cal k m1 (R24_1 cal k m1) u4 u5 u7 u9 u29 u30 H n := by
  have h : labK (E24_2 cal k m1) (Tr.set (Tr.set (Tr.set (Tr.set (Tr.set (Tr.set Tr.nil 30 (some u30)) 29 (some u29)) 9 (some u9)) 7 (some u7)) 5 (some u5)) 4 (some u4)) H n [] = B24_2 cal k m1 (R24_1 cal k m1) u4 u5 u7 u9 u29 u30 H n := by kernel_rfl
  rw [h, C24_2]
theorem q24_2 (cal : Cal) (k m1 : Nat) (u4 u5 u7 u9 u29 u30 : Value) (H : Hp) (n : Nat) : labK (E24_2 cal k m1) (Tr.set (Tr.set (Tr.set (Tr.set (Tr.set (Tr.set Tr.nil 30 (some u30)) 29 (some u29)) 9 (some u9)) 7 (some u7)) 5 (some u5)) 4 (some u4)) H n [] = C24_2 cal k m1 (R24_1 cal k m1) u4 u5 u7 u9 u29 u30 H n := h24_2 ..
noncomputable def B24_3 (cal : Cal) (k m1 : Nat) (j2 : Value → Value → Value → Value → Value → Value → Hp → Nat → Res) (b1 : Value → Value → Value → Value → Value → Value → Hp → Nat → Res) (u4 u5 u7 u9 u10 u29 u30 : Value) (H : Hp) (n : Nat) : Res :=
bindO (addrV u9) fun a_56 => bindO (loadV P H 111 a_56) fun v42_55 =>
callFK P cal 69 [u7, v42_55, u10] H n fun v44_58 H_59 n_60 =>
ifK v44_58 (
rowK P 44 1 [(0, u10)] H_59 n_60 fun v47_63 H_64 n_65 =>
stK (appendV P (bare H_64 n_65) 44 44 u5 v47_63) fun v48_66 H_67 n_68 =>
j2 u4 v48_66 u7 u9 u29 u30 H_67 n_68) (
j2 u4 u5 u7 u9 u29 u30 H_59 n_60)
noncomputable def C24_3 (cal : Cal) (k m1 : Nat) (b1 : Value → Value → Value → Value → Value → Value → Hp → Nat → Res) (u4 u5 u7 u9 u10 u29 u30 : Value) (H : Hp) (n : Nat) : Res := B24_3 cal k m1 (C24_2 cal k m1 b1) b1 u4 u5 u7 u9 u10 u29 u30 H n
theorem h24_3 (cal : Cal) (k m1 : Nat) (u4 u5 u7 u9 u10 u29 u30 : Value) (H : Hp) (n : Nat) : labK (E24_3 cal k m1) (Tr.set (Tr.set (Tr.set (Tr.set (Tr.set (Tr.set (Tr.set Tr.nil 30 (some u30)) 29 (some u29)) 10 (some u10)) 9 (some u9)) 7 (some u7)) 5 (some u5)) 4 (some u4)) H n [] = C24_3 cal k m1 (R24_1 cal k m1) u4 u5 u7 u9 u10 u29 u30 H n := by
  have h : labK (E24_3 cal k m1) (Tr.set (Tr.set (Tr.set (Tr.set (Tr.set (Tr.set (Tr.set Tr.nil 30 (some u30)) 29 (some u29)) 10 (some u10)) 9 (some u9)) 7 (some u7)) 5 (some u5)) 4 (some u4)) H n [] = B24_3 cal k m1 (fun u4 u5 u7 u9 u29 u30 H n => labK (E24_2 cal k m1) (Tr.set (Tr.set (Tr.set (Tr.set (Tr.set (Tr.set Tr.nil 30 (some u30)) 29 (some u29)) 9 (some u9)) 7 (some u7)) 5 (some u5)) 4 (some u4)) H n []) (R24_1 cal k m1) u4 u5 u7 u9 u10 u29 u30 H n := by kernel_rfl
  rw [h, C24_3]
  have e2 : (fun u4 u5 u7 u9 u29 u30 H n => labK (E24_2 cal k m1) (Tr.set (Tr.set (Tr.set (Tr.set (Tr.set (Tr.set Tr.nil 30 (some u30)) 29 (some u29)) 9 (some u9)) 7 (some u7)) 5 (some u5)) 4 (some u4)) H n []) = (C24_2 cal k m1 (R24_1 cal k m1)) := by funext u4 u5 u7 u9 u29 u30 H n; exact q24_2 ..
  rw [e2]
theorem q24_3 (cal : Cal) (k m1 : Nat) (u4 u5 u7 u9 u10 u29 u30 : Value) (H : Hp) (n : Nat) : labK (E24_3 cal k m1) (Tr.set (Tr.set (Tr.set (Tr.set (Tr.set (Tr.set (Tr.set Tr.nil 30 (some u30)) 29 (some u29)) 10 (some u10)) 9 (some u9)) 7 (some u7)) 5 (some u5)) 4 (some u4)) H n [] = C24_3 cal k m1 (R24_1 cal k m1) u4 u5 u7 u9 u10 u29 u30 H n := h24_3 ..
noncomputable def B24_1 (cal : Cal) (k m1 : Nat) (j3 : Value → Value → Value → Value → Value → Value → Value → Hp → Nat → Res) (b1 : Value → Value → Value → Value → Value → Value → Hp → Nat → Res) (u4 u5 u7 u9 u29 u30 : Value) (H : Hp) (n : Nat) : Res :=
binK P Go.BinOp.lss 3 (Go.Operand.tmp 30) (Go.Operand.tmp 29) u30 u29 fun v31_49 =>
ifK v31_49 (
bindO (addrV u9) fun a_72 => bindO (loadV P H 111 a_72) fun v34_71 =>
callFK P cal 68 [u7, v34_71, u30] H n fun v36_74 H_75 n_76 =>
ifK v36_74 (
rowK P 44 1 [(0, u30)] H_75 n_76 fun v39_79 H_80 n_81 =>
stK (appendV P (bare H_80 n_81) 44 44 u4 v39_79) fun v40_82 H_83 n_84 =>
j3 v40_82 u5 u7 u9 u30 u29 u30 H_83 n_84) (
j3 u4 u5 u7 u9 u30 u29 u30 H_75 n_76)) (
some ((Value.tuple ⟨[u4, u5, (Go.Value.int Go.IntKind.i64 0)]⟩), H, n))
noncomputable def C24_1 (cal : Cal) (k m1 : Nat) (b1 : Value → Value → Value → Value → Value → Value → Hp → Nat → Res) (u4 u5 u7 u9 u29 u30 : Value) (H : Hp) (n : Nat) : Res := B24_1 cal k m1 (C24_3 cal k m1 b1) b1 u4 u5 u7 u9 u29 u30 H n
noncomputable def S24_1 (cal : Cal) (k : Nat) : Nat → Value → Value → Value → Value → Value → Value → Hp → Nat → Res := fun m => Nat.rec (motive := fun _ => Value → Value → Value → Value → Value → Value → Hp → Nat → Res) (C24_1 cal k 0 (fun _ _ _ _ _ _ _ _ => none)) (fun m ih => C24_1 cal k (m + 1) ih) m
theorem h24_1 (cal : Cal) (k m1 : Nat) (u4 u5 u7 u9 u29 u30 : Value) (H : Hp) (n : Nat) : labK (E24_1 cal k m1) (Tr.set (Tr.set (Tr.set (Tr.set (Tr.set (Tr.set Tr.nil 30 (some u30)) 29 (some u29)) 9 (some u9)) 7 (some u7)) 5 (some u5)) 4 (some u4)) H n [] = C24_1 cal k m1 (R24_1 cal k m1) u4 u5 u7 u9 u29 u30 H n := by
  have h : labK (E24_1 cal k m1) (Tr.set (Tr.set (Tr.set (Tr.set (Tr.set (Tr.set Tr.nil 30 (some u30)) 29 (some u29)) 9 (some u9)) 7 (some u7)) 5 (some u5)) 4 (some u4)) H n [] = B24_1 cal k m1 (fun u4 u5 u7 u9 u10 u29 u30 H n => labK (E24_3 cal k m1) (Tr.set (Tr.set (Tr.set (Tr.set (Tr.set (Tr.set (Tr.set Tr.nil 30 (some u30)) 29 (some u29)) 10 (some u10)) 9 (some u9)) 7 (some u7)) 5 (some u5)) 4 (some u4)) H n []) (R24_1 cal k m1) u4 u5 u7 u9 u29 u30 H n := by kernel_rfl
  rw [h, C24_1]
  have e3 : (fun u4 u5 u7 u9 u10 u29 u30 H n => labK (E24_3 cal k m1) (Tr.set (Tr.set (Tr.set (Tr.set (Tr.set (Tr.set (Tr.set Tr.nil 30 (some u30)) 29 (some u29)) 10 (some u10)) 9 (some u9)) 7 (some u7)) 5 (some u5)) 4 (some u4)) H n []) = (C24_3 cal k m1 (R24_1 cal k m1)) := by funext u4 u5 u7 u9 u10 u29 u30 H n; exact q24_3 ..
  rw [e3]
theorem q24_1 (cal : Cal) (k : Nat) : ∀ (m : Nat) (u4 u5 u7 u9 u29 u30 : Value) (H : Hp) (n : Nat), labK (E24_1 cal k m) (Tr.set (Tr.set (Tr.set (Tr.set (Tr.set (Tr.set Tr.nil 30 (some u30)) 29 (some u29)) 9 (some u9)) 7 (some u7)) 5 (some u5)) 4 (some u4)) H n [] = S24_1 cal k m u4 u5 u7 u9 u29 u30 H n
  | 0, u4, u5, u7, u9, u29, u30, H, n => by
    rw [h24_1]
    have e : R24_1 cal k 0 = fun _ _ _ _ _ _ _ _ => none := by funext u4 u5 u7 u9 u29 u30 H n; kernel_rfl
    rw [e]; rfl
  | m + 1, u4, u5, u7, u9, u29, u30, H, n => by
    rw [h24_1]
    have e : R24_1 cal k (m + 1) = S24_1 cal k m := by
      funext u4 u5 u7 u9 u29 u30 H n
      have e : R24_1 cal k (m + 1) u4 u5 u7 u9 u29 u30 H n = labK (E24_1 cal k m) (Tr.set (Tr.set (Tr.set (Tr.set (Tr.set (Tr.set Tr.nil 30 (some u30)) 29 (some u29)) 9 (some u9)) 7 (some u7)) 5 (some u5)) 4 (some u4)) H n [] := by kernel_rfl
      rw [e]; exact q24_1 ..
    rw [e]; rfl
noncomputable def B24_0 (cal : Cal) (k : Nat) (j1 : Value → Value → Value → Value → Value → Value → Hp → Nat → Res) (v0 v1 : Value) (H : Hp) (n : Nat) : Res :=
boxK 35 v0 H n fun v2_1 H_2 n_3 =>
bindO (addrV v2_1) fun a_8 => bindO (loadV P H_2 35 a_8) fun v12_7 =>
callFK P cal 65 [v12_7, v1] H_2 n_3 fun v14_10 H_11 n_12 =>
bindO (tupV v14_10 0) fun v15_14 =>
bindO (tupV v14_10 1) fun v16_15 =>
bindO (tupV v14_10 2) fun v17_16 =>
allocK P 121 H_11 n_12 fun v8_17 H_18 n_19 =>
bindO (storeP P 121 v8_17 v16_15 H_18) fun H_22 =>
binK P Go.BinOp.neq 29 (Go.Operand.tmp 18) (Go.Operand.const (Go.Value.int Go.IntKind.i64 0)) v17_16 (Go.Value.int Go.IntKind.i64 0) fun v19_25 =>
ifK v19_25 (
some ((Value.tuple ⟨[(Go.Value.slice none 0 0), (Go.Value.slice none 0 0), v17_16]⟩), H_22, n_19)) (
bindO (addrV v8_17) fun a_32 => bindO (loadV P H_22 121 a_32) fun v22_31 =>
callFK P cal 66 [v15_14, v22_31] H_22 n_19 fun v23_33 H_34 n_35 =>
allocK P 111 H_34 n_35 fun v9_36 H_37 n_38 =>
bindO (storeP P 111 v9_36 v23_33 H_37) fun H_40 =>
bindO (nilV v15_14) fun v25_42 =>
bindO (fieldAddrV P 117 v25_42 0) fun v26_43 =>
bindO (fieldAddrV P 35 v26_43 0) fun v27_44 =>
bindO (addrV v27_44) fun a_46 => bindO (loadV P H_40 31 a_46) fun v28_45 =>
bindO (lenV P 31 v28_45) fun v29_47 =>
j1 (Go.Value.slice none 0 0) (Go.Value.slice none 0 0) v15_14 v9_36 v29_47 (Go.Value.int Go.IntKind.i64 0) H_40 n_38)
noncomputable def C24_0 (cal : Cal) (k : Nat) (v0 v1 : Value) (H : Hp) (n : Nat) : Res := B24_0 cal k (S24_1 cal k k) v0 v1 H n
theorem h24_0 (cal : Cal) (k : Nat) (v0 v1 : Value) (H : Hp) (n : Nat) : bodyE P cal A (k + 1) 24 [v0, v1] H n = C24_0 cal k v0 v1 H n := by
  have h : bodyE P cal A (k + 1) 24 [v0, v1] H n = B24_0 cal k (fun u4 u5 u7 u9 u29 u30 H n => labK (E24_1 cal k k) (Tr.set (Tr.set (Tr.set (Tr.set (Tr.set (Tr.set Tr.nil 30 (some u30)) 29 (some u29)) 9 (some u9)) 7 (some u7)) 5 (some u5)) 4 (some u4)) H n []) v0 v1 H n := by
    rw [body_eq (fn := Go.Proofs.Try.f24) (c := code24) (rs := results24) (by kernel_rfl) (by kernel_rfl) (by kernel_rfl) (by kernel_rfl)]
    kernel_rfl
  rw [h, C24_0]
  have e1 : (fun u4 u5 u7 u9 u29 u30 H n => labK (E24_1 cal k k) (Tr.set (Tr.set (Tr.set (Tr.set (Tr.set (Tr.set Tr.nil 30 (some u30)) 29 (some u29)) 9 (some u9)) 7 (some u7)) 5 (some u5)) 4 (some u4)) H n []) = (S24_1 cal k k) := by funext u4 u5 u7 u9 u29 u30 H n; exact q24_1 ..
  rw [e1]
noncomputable def code26 : Code := codeOf 26
noncomputable def results26 : List ResultVar := resOf 26
noncomputable def K26_p (cal : Cal) (k : Nat) : KC (Value × Hp × Nat) := (cutK (A 26).c (codeE P cal (codeF P cal k) none 26 (cR code26) (Lv.b (A 26)) (doneK P results26) X0 (doneK P results26)))
noncomputable def K26_pr (cal : Cal) (k : Nat) : KC (Value × Hp × Nat) := (cutK (Lv.b (A 26)).c (codeE P cal (codeF P cal k) none 26 (cR (cR code26)) (Lv.b (Lv.b (A 26))) (doneK P results26) X0 (doneK P results26)))
noncomputable def B26_0 (cal : Cal) (k : Nat) (v0 : Value) (H : Hp) (n : Nat) : Res :=
boxK 55 v0 H n fun v1_1 H_2 n_3 =>
allocK P 53 H_2 n_3 fun v2_4 H_5 n_6 =>
bindO (fieldAddrV P 55 v1_1 0) fun v3_7 =>
bindO (addrV v3_7) fun a_9 => bindO (loadV P H_5 3 a_9) fun v4_8 =>
bindO (fieldAddrV P 55 v1_1 1) fun v5_10 =>
bindO (addrV v5_10) fun a_12 => bindO (loadV P H_5 3 a_12) fun v6_11 =>
bindO (buildP P 53 [(0, v4_8), (1, v6_11)]) fun v7_13 =>
bindO (storeP P 53 v2_4 v7_13 H_5) fun H_15 =>
bindO (resV P (Tr.set Tr.nil 2 (some v2_4)) H_15 results26) fun vs_16 => some (oneV vs_16, H_15, n_6)
noncomputable def C26_0 (cal : Cal) (k : Nat) (v0 : Value) (H : Hp) (n : Nat) : Res := B26_0 cal k v0 H n
theorem h26_0 (cal : Cal) (k : Nat) (v0 : Value) (H : Hp) (n : Nat) : bodyE P cal A (k + 1) 26 [v0] H n = C26_0 cal k v0 H n := by
  have h : bodyE P cal A (k + 1) 26 [v0] H n = B26_0 cal k v0 H n := by
    rw [body_eq (fn := Go.Proofs.Try.f26) (c := code26) (rs := results26) (by kernel_rfl) (by kernel_rfl) (by kernel_rfl) (by kernel_rfl)]
    kernel_rfl
  rw [h, C26_0]
noncomputable def code30 : Code := codeOf 30
noncomputable def results30 : List ResultVar := resOf 30
noncomputable def K30_p (cal : Cal) (k : Nat) : KC (Value × Hp × Nat) := (cutK (A 30).c (codeE P cal (codeF P cal k) none 30 (cR code30) (Lv.b (A 30)) (doneK P results30) X0 (doneK P results30)))
noncomputable def K30_pr (cal : Cal) (k : Nat) : KC (Value × Hp × Nat) := (cutK (Lv.b (A 30)).c (codeE P cal (codeF P cal k) none 30 (cR (cR code30)) (Lv.b (Lv.b (A 30))) (doneK P results30) X0 (doneK P results30)))
noncomputable def K30_prl (cal : Cal) (k : Nat) : KC (Value × Hp × Nat) := (cutK (Lv.a (Lv.b (A 30))).c (codeE P cal (codeF P cal k) none 30 (cR (cL (cR code30))) (Lv.b (Lv.a (Lv.b (A 30)))) (K30_pr cal k) X0 (doneK P results30)))
noncomputable def K30_prlrl (cal : Cal) (k : Nat) : KC (Value × Hp × Nat) := (cutK (Lv.a (Lv.b (Lv.a (Lv.b (A 30))))).c (codeE P cal (codeF P cal k) none 30 (cR (cL (cR (cL (cR code30))))) (Lv.b (Lv.a (Lv.b (Lv.a (Lv.b (A 30)))))) (K30_pr cal k) X0 (doneK P results30)))
noncomputable def K30_prr (cal : Cal) (k : Nat) : KC (Value × Hp × Nat) := (cutK (Lv.b (Lv.b (A 30))).c (codeE P cal (codeF P cal k) none 30 (cR (cR (cR code30))) (Lv.b (Lv.b (Lv.b (A 30)))) (doneK P results30) X0 (doneK P results30)))
noncomputable def K30_prrl (cal : Cal) (k : Nat) : KC (Value × Hp × Nat) := (cutK (Lv.a (Lv.b (Lv.b (A 30)))).c (codeE P cal (codeF P cal k) none 30 (cR (cL (cR (cR code30)))) (Lv.b (Lv.a (Lv.b (Lv.b (A 30))))) (K30_prr cal k) X0 (doneK P results30)))
noncomputable def K30_pxrrlr (cal : Cal) (k : Nat) : XC (Value × Hp × Nat) := (upX 0 (K30_prr cal k) X0)
noncomputable def K30_prrlrl (cal : Cal) (k : Nat) (m1 : Nat) : KC (Value × Hp × Nat) := (fun T H n D => codeF P cal m1 (Lv.a (Lv.b (Lv.a (Lv.b (Lv.b (A 30)))))) none 30 (cL (cR (cL (cR (cR code30))))) (K30_prr cal k) (K30_pxrrlr cal k) (doneK P results30) (cutT (Lv.a (Lv.b (Lv.a (Lv.b (Lv.b (A 30)))))).c T) H n D)
noncomputable def K30_prrlrll (cal : Cal) (k : Nat) (m1 : Nat) : KC (Value × Hp × Nat) := (cutK (Lv.a (Lv.a (Lv.b (Lv.a (Lv.b (Lv.b (A 30))))))).c (codeE P cal (codeF P cal m1) none 30 (cR (cL (cL (cR (cL (cR (cR code30))))))) (Lv.b (Lv.a (Lv.a (Lv.b (Lv.a (Lv.b (Lv.b (A 30)))))))) (K30_prrlrl cal k m1) (K30_pxrrlr cal k) (doneK P results30)))
noncomputable def K30_prrlrlll (cal : Cal) (k : Nat) (m1 : Nat) : KC (Value × Hp × Nat) := (cutK (Lv.a (Lv.a (Lv.a (Lv.b (Lv.a (Lv.b (Lv.b (A 30)))))))).c (codeE P cal (codeF P cal m1) none 30 (cR (cL (cL (cL (cR (cL (cR (cR code30)))))))) (Lv.b (Lv.a (Lv.a (Lv.a (Lv.b (Lv.a (Lv.b (Lv.b (A 30))))))))) (K30_prrlrll cal k m1) (K30_pxrrlr cal k) (doneK P results30)))
noncomputable def K30_prrlrllr (cal : Cal) (k : Nat) (m1 : Nat) : KC (Value × Hp × Nat) := (cutK (Lv.b (Lv.a (Lv.a (Lv.b (Lv.a (Lv.b (Lv.b (A 30)))))))).c (codeE P cal (codeF P cal m1) none 30 (cR (cR (cL (cL (cR (cL (cR (cR code30)))))))) (Lv.b (Lv.b (Lv.a (Lv.a (Lv.b (Lv.a (Lv.b (Lv.b (A 30))))))))) (K30_prrlrl cal k m1) (K30_pxrrlr cal k) (doneK P results30)))
noncomputable def K30_pxrrlrllrl (cal : Cal) (k : Nat) (m1 : Nat) : XC (Value × Hp × Nat) := (upX 1 (K30_prrlrllr cal k m1) (K30_pxrrlr cal k))
noncomputable def K30_prrlrllrll (cal : Cal) (k : Nat) (m1 : Nat) : KC (Value × Hp × Nat) := (cutK (Lv.a (Lv.a (Lv.b (Lv.a (Lv.a (Lv.b (Lv.a (Lv.b (Lv.b (A 30)))))))))).c (codeE P cal (codeF P cal m1) none 30 (cR (cL (cL (cR (cL (cL (cR (cL (cR (cR code30)))))))))) (Lv.b (Lv.a (Lv.a (Lv.b (Lv.a (Lv.a (Lv.b (Lv.a (Lv.b (Lv.b (A 30))))))))))) (K30_prrlrllr cal k m1) (K30_pxrrlrllrl cal k m1) (doneK P results30)))
noncomputable def K30_prrlrllrllrl (cal : Cal) (k : Nat) (m1 : Nat) : KC (Value × Hp × Nat) := (cutK (Lv.a (Lv.b (Lv.a (Lv.a (Lv.b (Lv.a (Lv.a (Lv.b (Lv.a (Lv.b (Lv.b (A 30)))))))))))).c (codeE P cal (codeF P cal m1) none 30 (cR (cL (cR (cL (cL (cR (cL (cL (cR (cL (cR (cR code30)))))))))))) (Lv.b (Lv.a (Lv.b (Lv.a (Lv.a (Lv.b (Lv.a (Lv.a (Lv.b (Lv.a (Lv.b (Lv.b (A 30))))))))))))) (K30_prrlrllr cal k m1) (K30_pxrrlrllrl cal k m1) (doneK P results30)))
noncomputable def K30_prrr (cal : Cal) (k : Nat) : KC (Value × Hp × Nat) := (cutK (Lv.b (Lv.b (Lv.b (A 30)))).c (codeE P cal (codeF P cal k) none 30 (cR (cR (cR (cR code30)))) (Lv.b (Lv.b (Lv.b (Lv.b (A 30))))) (doneK P results30) X0 (doneK P results30)))
noncomputable def E30_1 (cal : Cal) (k m1 : Nat) : KC (Value × Hp × Nat) := codeE P cal (codeF P cal m1) none 30 (cL (cL (cR (cL (cR (cR code30)))))) (Lv.a (Lv.a (Lv.b (Lv.a (Lv.b (Lv.b (A 30))))))) (K30_prrlrl cal k m1) (K30_pxrrlr cal k) (doneK P results30)
noncomputable def R30_1 (cal : Cal) (k m1 : Nat) : Value → Value → Value → Hp → Nat → Res := fun u0 u1 u5 H n => codeF P cal m1 (Lv.a (Lv.b (Lv.a (Lv.b (Lv.b (A 30)))))) none 30 (cL (cR (cL (cR (cR code30))))) (K30_prr cal k) (K30_pxrrlr cal k) (doneK P results30) (Tr.set (Tr.set (Tr.set Tr.nil 5 (some u5)) 1 (some u1)) 0 (some u0)) H n []
noncomputable def B30_1 (cal : Cal) (k m1 : Nat) (b1 : Value → Value → Value → Hp → Nat → Res) (u0 u1 u5 : Value) (H : Hp) (n : Nat) : Res :=
bindO (lenV P 44 u0) fun v13_11 =>
binK P Go.BinOp.lss 3 (Go.Operand.tmp 11) (Go.Operand.tmp 13) u5 v13_11 fun v14_12 =>
ifK v14_12 (
bindO (indexAddrV P 44 u0 u5) fun v19_15 =>
bindO (addrV v19_15) fun a_16 => bindO (loadV P H 3 a_16) fun v_17 =>
bindO (indexAddrV P 44 u1 u5) fun v23_20 =>
bindO (addrV v23_20) fun a_21 => bindO (loadV P H 3 a_21) fun v_22 =>
binK P Go.BinOp.neq 3 (Go.Operand.tmp 20) (Go.Operand.tmp 24) v_17 v_22 fun v25_23 =>
ifK v25_23 (
some ((Go.Value.bool false), H, n)) (
binK P Go.BinOp.add 3 (Go.Operand.tmp 15) (Go.Operand.const (Go.Value.int Go.IntKind.i64 1)) u5 (Go.Value.int Go.IntKind.i64 1) fun v16_26 =>
b1 u0 u1 v16_26 H n)) (
some ((Go.Value.bool true), H, n))
noncomputable def C30_1 (cal : Cal) (k m1 : Nat) (b1 : Value → Value → Value → Hp → Nat → Res) (u0 u1 u5 : Value) (H : Hp) (n : Nat) : Res := B30_1 cal k m1 b1 u0 u1 u5 H n
noncomputable def S30_1 (cal : Cal) (k : Nat) : Nat → Value → Value → Value → Hp → Nat → Res := fun m => Nat.rec (motive := fun _ => Value → Value → Value → Hp → Nat → Res) (C30_1 cal k 0 (fun _ _ _ _ _ => none)) (fun m ih => C30_1 cal k (m + 1) ih) m
theorem h30_1 (cal : Cal) (k m1 : Nat) (u0 u1 u5 : Value) (H : Hp) (n : Nat) : labK (E30_1 cal k m1) (Tr.set (Tr.set (Tr.set Tr.nil 5 (some u5)) 1 (some u1)) 0 (some u0)) H n [] = C30_1 cal k m1 (R30_1 cal k m1) u0 u1 u5 H n := by
  have h : labK (E30_1 cal k m1) (Tr.set (Tr.set (Tr.set Tr.nil 5 (some u5)) 1 (some u1)) 0 (some u0)) H n [] = B30_1 cal k m1 (R30_1 cal k m1) u0 u1 u5 H n := by kernel_rfl
  rw [h, C30_1]
theorem q30_1 (cal : Cal) (k : Nat) : ∀ (m : Nat) (u0 u1 u5 : Value) (H : Hp) (n : Nat), labK (E30_1 cal k m) (Tr.set (Tr.set (Tr.set Tr.nil 5 (some u5)) 1 (some u1)) 0 (some u0)) H n [] = S30_1 cal k m u0 u1 u5 H n
  | 0, u0, u1, u5, H, n => by
    rw [h30_1]
    have e : R30_1 cal k 0 = fun _ _ _ _ _ => none := by funext u0 u1 u5 H n; kernel_rfl
    rw [e]; rfl
  | m + 1, u0, u1, u5, H, n => by
    rw [h30_1]
    have e : R30_1 cal k (m + 1) = S30_1 cal k m := by
      funext u0 u1 u5 H n
      have e : R30_1 cal k (m + 1) u0 u1 u5 H n = labK (E30_1 cal k m) (Tr.set (Tr.set (Tr.set Tr.nil 5 (some u5)) 1 (some u1)) 0 (some u0)) H n [] := by kernel_rfl
      rw [e]; exact q30_1 ..
    rw [e]; rfl
noncomputable def B30_0 (cal : Cal) (k : Nat) (j1 : Value → Value → Value → Hp → Nat → Res) (v0 v1 : Value) (H : Hp) (n : Nat) : Res :=
bindO (lenV P 44 v0) fun v7_3 =>
bindO (lenV P 44 v1) fun v9_5 =>
binK P Go.BinOp.neq 3 (Go.Operand.tmp 7) (Go.Operand.tmp 9) v7_3 v9_5 fun v10_6 =>
ifK v10_6 (
some ((Go.Value.bool false), H, n)) (
j1 v0 v1 (Go.Value.int Go.IntKind.i64 0) H n)
noncomputable def C30_0 (cal : Cal) (k : Nat) (v0 v1 : Value) (H : Hp) (n : Nat) : Res := B30_0 cal k (S30_1 cal k k) v0 v1 H n
theorem h30_0 (cal : Cal) (k : Nat) (v0 v1 : Value) (H : Hp) (n : Nat) : bodyE P cal A (k + 1) 30 [v0, v1] H n = C30_0 cal k v0 v1 H n := by
  have h : bodyE P cal A (k + 1) 30 [v0, v1] H n = B30_0 cal k (fun u0 u1 u5 H n => labK (E30_1 cal k k) (Tr.set (Tr.set (Tr.set Tr.nil 5 (some u5)) 1 (some u1)) 0 (some u0)) H n []) v0 v1 H n := by
    rw [body_eq (fn := Go.Proofs.Try.f30) (c := code30) (rs := results30) (by kernel_rfl) (by kernel_rfl) (by kernel_rfl) (by kernel_rfl)]
    kernel_rfl
  rw [h, C30_0]
  have e1 : (fun u0 u1 u5 H n => labK (E30_1 cal k k) (Tr.set (Tr.set (Tr.set Tr.nil 5 (some u5)) 1 (some u1)) 0 (some u0)) H n []) = (S30_1 cal k k) := by funext u0 u1 u5 H n; exact q30_1 ..
  rw [e1]
noncomputable def code32 : Code := codeOf 32
noncomputable def results32 : List ResultVar := resOf 32
noncomputable def K32_p (cal : Cal) (k : Nat) : KC (Value × Hp × Nat) := (cutK (A 32).c (codeE P cal (codeF P cal k) none 32 (cR code32) (Lv.b (A 32)) (doneK P results32) X0 (doneK P results32)))
noncomputable def K32_pr (cal : Cal) (k : Nat) : KC (Value × Hp × Nat) := (cutK (Lv.b (A 32)).c (codeE P cal (codeF P cal k) none 32 (cR (cR code32)) (Lv.b (Lv.b (A 32))) (doneK P results32) X0 (doneK P results32)))
noncomputable def B32_0 (cal : Cal) (k : Nat) (v0 v1 v2 : Value) (H : Hp) (n : Nat) : Res :=
binK P Go.BinOp.geq 3 (Go.Operand.tmp 7) (Go.Operand.tmp 8) v0 v1 fun v9_4 =>
guardK v9_4 true (fun k_6 =>
k_6 v0 H n) H n fun v_7 H_8 n_9 =>
guardK v9_4 true (fun k_11 =>
k_11 v2 H_8 n_9) H_8 n_9 fun v_12 H_13 n_14 =>
guardK v9_4 true (fun k_16 =>
binK P Go.BinOp.leq 3 (Go.Operand.tmp 11) (Go.Operand.tmp 12) v_7 v_12 fun v13_20 =>
k_16 v13_20 H_13 n_14) H_13 n_14 fun v_17 H_18 n_19 =>
bindO (pickV v9_4 v_17 (Go.Value.bool false)) fun v14_21 =>
some (v14_21, H_18, n_19)
noncomputable def C32_0 (cal : Cal) (k : Nat) (v0 v1 v2 : Value) (H : Hp) (n : Nat) : Res := B32_0 cal k v0 v1 v2 H n
theorem h32_0 (cal : Cal) (k : Nat) (v0 v1 v2 : Value) (H : Hp) (n : Nat) : bodyE P cal A (k + 1) 32 [v0, v1, v2] H n = C32_0 cal k v0 v1 v2 H n := by
  have h : bodyE P cal A (k + 1) 32 [v0, v1, v2] H n = B32_0 cal k v0 v1 v2 H n := by
    rw [body_eq (fn := Go.Proofs.Try.f32) (c := code32) (rs := results32) (by kernel_rfl) (by kernel_rfl) (by kernel_rfl) (by kernel_rfl)]
    kernel_rfl
  rw [h, C32_0]
noncomputable def code42 : Code := codeOf 42
noncomputable def results42 : List ResultVar := resOf 42
noncomputable def K42_p (cal : Cal) (k : Nat) : KC (Value × Hp × Nat) := (cutK (A 42).c (codeE P cal (codeF P cal k) none 42 (cR code42) (Lv.b (A 42)) (doneK P results42) X0 (doneK P results42)))
noncomputable def K42_pr (cal : Cal) (k : Nat) : KC (Value × Hp × Nat) := (cutK (Lv.b (A 42)).c (codeE P cal (codeF P cal k) none 42 (cR (cR code42)) (Lv.b (Lv.b (A 42))) (doneK P results42) X0 (doneK P results42)))
noncomputable def K42_prr (cal : Cal) (k : Nat) : KC (Value × Hp × Nat) := (cutK (Lv.b (Lv.b (A 42))).c (codeE P cal (codeF P cal k) none 42 (cR (cR (cR code42))) (Lv.b (Lv.b (Lv.b (A 42)))) (doneK P results42) X0 (doneK P results42)))
noncomputable def K42_prrl (cal : Cal) (k : Nat) : KC (Value × Hp × Nat) := (cutK (Lv.a (Lv.b (Lv.b (A 42)))).c (codeE P cal (codeF P cal k) none 42 (cR (cL (cR (cR code42)))) (Lv.b (Lv.a (Lv.b (Lv.b (A 42))))) (K42_prr cal k) X0 (doneK P results42)))
noncomputable def K42_prrlrl (cal : Cal) (k : Nat) : KC (Value × Hp × Nat) := (cutK (Lv.a (Lv.b (Lv.a (Lv.b (Lv.b (A 42)))))).c (codeE P cal (codeF P cal k) none 42 (cR (cL (cR (cL (cR (cR code42)))))) (Lv.b (Lv.a (Lv.b (Lv.a (Lv.b (Lv.b (A 42))))))) (K42_prr cal k) X0 (doneK P results42)))
noncomputable def K42_prrr (cal : Cal) (k : Nat) : KC (Value × Hp × Nat) := (cutK (Lv.b (Lv.b (Lv.b (A 42)))).c (codeE P cal (codeF P cal k) none 42 (cR (cR (cR (cR code42)))) (Lv.b (Lv.b (Lv.b (Lv.b (A 42))))) (doneK P results42) X0 (doneK P results42)))
noncomputable def K42_prrrr (cal : Cal) (k : Nat) : KC (Value × Hp × Nat) := (cutK (Lv.b (Lv.b (Lv.b (Lv.b (A 42))))).c (codeE P cal (codeF P cal k) none 42 (cR (cR (cR (cR (cR code42))))) (Lv.b (Lv.b (Lv.b (Lv.b (Lv.b (A 42)))))) (doneK P results42) X0 (doneK P results42)))
noncomputable def K42_prrrrl (cal : Cal) (k : Nat) : KC (Value × Hp × Nat) := (cutK (Lv.a (Lv.b (Lv.b (Lv.b (Lv.b (A 42)))))).c (codeE P cal (codeF P cal k) none 42 (cR (cL (cR (cR (cR (cR code42)))))) (Lv.b (Lv.a (Lv.b (Lv.b (Lv.b (Lv.b (A 42))))))) (K42_prrrr cal k) X0 (doneK P results42)))
noncomputable def K42_prrrrlrl (cal : Cal) (k : Nat) : KC (Value × Hp × Nat) := (cutK (Lv.a (Lv.b (Lv.a (Lv.b (Lv.b (Lv.b (Lv.b (A 42)))))))).c (codeE P cal (codeF P cal k) none 42 (cR (cL (cR (cL (cR (cR (cR (cR code42)))))))) (Lv.b (Lv.a (Lv.b (Lv.a (Lv.b (Lv.b (Lv.b (Lv.b (A 42))))))))) (K42_prrrr cal k) X0 (doneK P results42)))
noncomputable def K42_prrrrr (cal : Cal) (k : Nat) : KC (Value × Hp × Nat) := (cutK (Lv.b (Lv.b (Lv.b (Lv.b (Lv.b (A 42)))))).c (codeE P cal (codeF P cal k) none 42 (cR (cR (cR (cR (cR (cR code42)))))) (Lv.b (Lv.b (Lv.b (Lv.b (Lv.b (Lv.b (A 42))))))) (doneK P results42) X0 (doneK P results42)))
noncomputable def B42_0 (cal : Cal) (k : Nat) (v0 : Value) (H : Hp) (n : Nat) : Res :=
boxK 35 v0 H n fun v1_1 H_2 n_3 =>
bindO (addrV v1_1) fun a_8 => bindO (loadV P H_2 35 a_8) fun v9_7 =>
callFK P cal 61 [v9_7] H_2 n_3 fun v10_9 H_10 n_11 =>
bindO (tupV v10_9 0) fun v11_13 =>
bindO (tupV v10_9 1) fun v12_14 =>
binK P Go.BinOp.neq 29 (Go.Operand.tmp 13) (Go.Operand.const (Go.Value.int Go.IntKind.i64 0)) v12_14 (Go.Value.int Go.IntKind.i64 0) fun v14_18 =>
ifK v14_18 (
some ((Value.tuple ⟨[(Go.Value.slice none 0 0), (Go.Value.int Go.IntKind.i64 0), v12_14]⟩), H_10, n_11)) (
callFK P cal 81 [v11_13] H_10 n_11 fun v18_24 H_25 n_26 =>
bindO (tupV v18_24 0) fun v19_28 =>
bindO (tupV v18_24 1) fun v20_29 =>
allocK P 121 H_25 n_26 fun v6_30 H_31 n_32 =>
bindO (storeP P 121 v6_30 v19_28 H_31) fun H_34 =>
bindO (pureSem P v20_29 (Op.unary Go.UnOp.not v20_29)) fun v22_37 =>
ifK v22_37 (
some ((Value.tuple ⟨[(Go.Value.slice none 0 0), (Go.Value.int Go.IntKind.i64 0), (Go.Value.int Go.IntKind.i64 10)]⟩), H_34, n_32)) (
bindO (nilV v11_13) fun v24_42 =>
bindO (fieldAddrV P 117 v24_42 0) fun v25_43 =>
bindO (fieldAddrV P 35 v25_43 0) fun v26_44 =>
bindO (addrV v26_44) fun a_45 => bindO (loadV P H_34 31 a_45) fun v_46 =>
bindO (lenV P 31 v_46) fun v28_47 =>
bindO (sliceV P 121 v6_30 none (some v28_47)) fun v29_48 =>
bindO (addrV v6_30) fun a_50 => bindO (loadV P H_34 121 a_50) fun v_51 =>
effK P [(.l 121 a_50)] H_34 n_32 (fun H_52 n_53 k_54 =>
callFK P cal 76 [v29_48] H_52 n_53 fun v30_58 H_59 n_60 =>
k_54 v30_58 H_59 n_60) fun v_55 H_56 n_57 =>
callFK P cal 82 [v11_13, v_51] H_56 n_57 fun v33_61 H_62 n_63 =>
some ((Value.tuple ⟨[v_55, v33_61, (Go.Value.int Go.IntKind.i64 0)]⟩), H_62, n_63)))
noncomputable def C42_0 (cal : Cal) (k : Nat) (v0 : Value) (H : Hp) (n : Nat) : Res := B42_0 cal k v0 H n
theorem h42_0 (cal : Cal) (k : Nat) (v0 : Value) (H : Hp) (n : Nat) : bodyE P cal A (k + 1) 42 [v0] H n = C42_0 cal k v0 H n := by
  have h : bodyE P cal A (k + 1) 42 [v0] H n = B42_0 cal k v0 H n := by
    rw [body_eq (fn := Go.Proofs.Try.f42) (c := code42) (rs := results42) (by kernel_rfl) (by kernel_rfl) (by kernel_rfl) (by kernel_rfl)]
    kernel_rfl
  rw [h, C42_0]
noncomputable def code48 : Code := codeOf 48
noncomputable def results48 : List ResultVar := resOf 48
noncomputable def K48_p (cal : Cal) (k : Nat) : KC (Value × Hp × Nat) := (cutK (A 48).c (codeE P cal (codeF P cal k) none 48 (cR code48) (Lv.b (A 48)) (doneK P results48) X0 (doneK P results48)))
noncomputable def K48_pr (cal : Cal) (k : Nat) : KC (Value × Hp × Nat) := (cutK (Lv.b (A 48)).c (codeE P cal (codeF P cal k) none 48 (cR (cR code48)) (Lv.b (Lv.b (A 48))) (doneK P results48) X0 (doneK P results48)))
noncomputable def K48_prr (cal : Cal) (k : Nat) : KC (Value × Hp × Nat) := (cutK (Lv.b (Lv.b (A 48))).c (codeE P cal (codeF P cal k) none 48 (cR (cR (cR code48))) (Lv.b (Lv.b (Lv.b (A 48)))) (doneK P results48) X0 (doneK P results48)))
noncomputable def K48_prrl (cal : Cal) (k : Nat) : KC (Value × Hp × Nat) := (cutK (Lv.a (Lv.b (Lv.b (A 48)))).c (codeE P cal (codeF P cal k) none 48 (cR (cL (cR (cR code48)))) (Lv.b (Lv.a (Lv.b (Lv.b (A 48))))) (K48_prr cal k) X0 (doneK P results48)))
noncomputable def K48_prrlrl (cal : Cal) (k : Nat) : KC (Value × Hp × Nat) := (cutK (Lv.a (Lv.b (Lv.a (Lv.b (Lv.b (A 48)))))).c (codeE P cal (codeF P cal k) none 48 (cR (cL (cR (cL (cR (cR code48)))))) (Lv.b (Lv.a (Lv.b (Lv.a (Lv.b (Lv.b (A 48))))))) (K48_prr cal k) X0 (doneK P results48)))
noncomputable def K48_prrr (cal : Cal) (k : Nat) : KC (Value × Hp × Nat) := (cutK (Lv.b (Lv.b (Lv.b (A 48)))).c (codeE P cal (codeF P cal k) none 48 (cR (cR (cR (cR code48)))) (Lv.b (Lv.b (Lv.b (Lv.b (A 48))))) (doneK P results48) X0 (doneK P results48)))
noncomputable def B48_0 (cal : Cal) (k : Nat) (v0 : Value) (H : Hp) (n : Nat) : Res :=
boxK 35 v0 H n fun v1_1 H_2 n_3 =>
bindO (addrV v1_1) fun a_7 => bindO (loadV P H_2 35 a_7) fun v7_6 =>
callFK P cal 61 [v7_6] H_2 n_3 fun v8_8 H_9 n_10 =>
bindO (tupV v8_8 0) fun v9_12 =>
bindO (tupV v8_8 1) fun v10_13 =>
binK P Go.BinOp.neq 29 (Go.Operand.tmp 11) (Go.Operand.const (Go.Value.int Go.IntKind.i64 0)) v10_13 (Go.Value.int Go.IntKind.i64 0) fun v12_17 =>
ifK v12_17 (
some ((Value.tuple ⟨[(Go.Value.slice none 0 0), v10_13]⟩), H_9, n_10)) (
callFK P cal 85 [v9_12] H_9 n_10 fun v15_22 H_23 n_24 =>
some ((Value.tuple ⟨[v15_22, (Go.Value.int Go.IntKind.i64 0)]⟩), H_23, n_24))
noncomputable def C48_0 (cal : Cal) (k : Nat) (v0 : Value) (H : Hp) (n : Nat) : Res := B48_0 cal k v0 H n
theorem h48_0 (cal : Cal) (k : Nat) (v0 : Value) (H : Hp) (n : Nat) : bodyE P cal A (k + 1) 48 [v0] H n = C48_0 cal k v0 H n := by
  have h : bodyE P cal A (k + 1) 48 [v0] H n = B48_0 cal k v0 H n := by
    rw [body_eq (fn := Go.Proofs.Try.f48) (c := code48) (rs := results48) (by kernel_rfl) (by kernel_rfl) (by kernel_rfl) (by kernel_rfl)]
    kernel_rfl
  rw [h, C48_0]
noncomputable def code52 : Code := codeOf 52
noncomputable def results52 : List ResultVar := resOf 52
noncomputable def K52_p (cal : Cal) (k : Nat) : KC (Value × Hp × Nat) := (cutK (A 52).c (codeE P cal (codeF P cal k) none 52 (cR code52) (Lv.b (A 52)) (doneK P results52) X0 (doneK P results52)))
noncomputable def K52_pr (cal : Cal) (k : Nat) : KC (Value × Hp × Nat) := (cutK (Lv.b (A 52)).c (codeE P cal (codeF P cal k) none 52 (cR (cR code52)) (Lv.b (Lv.b (A 52))) (doneK P results52) X0 (doneK P results52)))
noncomputable def K52_prr (cal : Cal) (k : Nat) : KC (Value × Hp × Nat) := (cutK (Lv.b (Lv.b (A 52))).c (codeE P cal (codeF P cal k) none 52 (cR (cR (cR code52))) (Lv.b (Lv.b (Lv.b (A 52)))) (doneK P results52) X0 (doneK P results52)))
noncomputable def K52_prrl (cal : Cal) (k : Nat) : KC (Value × Hp × Nat) := (cutK (Lv.a (Lv.b (Lv.b (A 52)))).c (codeE P cal (codeF P cal k) none 52 (cR (cL (cR (cR code52)))) (Lv.b (Lv.a (Lv.b (Lv.b (A 52))))) (K52_prr cal k) X0 (doneK P results52)))
noncomputable def K52_pxrrlr (cal : Cal) (k : Nat) : XC (Value × Hp × Nat) := (upX 0 (K52_prr cal k) X0)
noncomputable def K52_prrlrl (cal : Cal) (k : Nat) (m1 : Nat) : KC (Value × Hp × Nat) := (fun T H n D => codeF P cal m1 (Lv.a (Lv.b (Lv.a (Lv.b (Lv.b (A 52)))))) none 52 (cL (cR (cL (cR (cR code52))))) (K52_prr cal k) (K52_pxrrlr cal k) (doneK P results52) (cutT (Lv.a (Lv.b (Lv.a (Lv.b (Lv.b (A 52)))))).c T) H n D)
noncomputable def K52_prrlrll (cal : Cal) (k : Nat) (m1 : Nat) : KC (Value × Hp × Nat) := (cutK (Lv.a (Lv.a (Lv.b (Lv.a (Lv.b (Lv.b (A 52))))))).c (codeE P cal (codeF P cal m1) none 52 (cR (cL (cL (cR (cL (cR (cR code52))))))) (Lv.b (Lv.a (Lv.a (Lv.b (Lv.a (Lv.b (Lv.b (A 52)))))))) (K52_prrlrl cal k m1) (K52_pxrrlr cal k) (doneK P results52)))
noncomputable def K52_prrlrlll (cal : Cal) (k : Nat) (m1 : Nat) : KC (Value × Hp × Nat) := (cutK (Lv.a (Lv.a (Lv.a (Lv.b (Lv.a (Lv.b (Lv.b (A 52)))))))).c (codeE P cal (codeF P cal m1) none 52 (cR (cL (cL (cL (cR (cL (cR (cR code52)))))))) (Lv.b (Lv.a (Lv.a (Lv.a (Lv.b (Lv.a (Lv.b (Lv.b (A 52))))))))) (K52_prrlrll cal k m1) (K52_pxrrlr cal k) (doneK P results52)))
noncomputable def K52_prrlrllr (cal : Cal) (k : Nat) (m1 : Nat) : KC (Value × Hp × Nat) := (cutK (Lv.b (Lv.a (Lv.a (Lv.b (Lv.a (Lv.b (Lv.b (A 52)))))))).c (codeE P cal (codeF P cal m1) none 52 (cR (cR (cL (cL (cR (cL (cR (cR code52)))))))) (Lv.b (Lv.b (Lv.a (Lv.a (Lv.b (Lv.a (Lv.b (Lv.b (A 52))))))))) (K52_prrlrl cal k m1) (K52_pxrrlr cal k) (doneK P results52)))
noncomputable def K52_pxrrlrllrl (cal : Cal) (k : Nat) (m1 : Nat) : XC (Value × Hp × Nat) := (upX 1 (K52_prrlrllr cal k m1) (K52_pxrrlr cal k))
noncomputable def K52_prrlrllrll (cal : Cal) (k : Nat) (m1 : Nat) : KC (Value × Hp × Nat) := (cutK (Lv.a (Lv.a (Lv.b (Lv.a (Lv.a (Lv.b (Lv.a (Lv.b (Lv.b (A 52)))))))))).c (codeE P cal (codeF P cal m1) none 52 (cR (cL (cL (cR (cL (cL (cR (cL (cR (cR code52)))))))))) (Lv.b (Lv.a (Lv.a (Lv.b (Lv.a (Lv.a (Lv.b (Lv.a (Lv.b (Lv.b (A 52))))))))))) (K52_prrlrllr cal k m1) (K52_pxrrlrllrl cal k m1) (doneK P results52)))
noncomputable def K52_prrlrllrllr (cal : Cal) (k : Nat) (m1 : Nat) : KC (Value × Hp × Nat) := (cutK (Lv.b (Lv.a (Lv.a (Lv.b (Lv.a (Lv.a (Lv.b (Lv.a (Lv.b (Lv.b (A 52))))))))))).c (codeE P cal (codeF P cal m1) none 52 (cR (cR (cL (cL (cR (cL (cL (cR (cL (cR (cR code52))))))))))) (Lv.b (Lv.b (Lv.a (Lv.a (Lv.b (Lv.a (Lv.a (Lv.b (Lv.a (Lv.b (Lv.b (A 52)))))))))))) (K52_prrlrllr cal k m1) (K52_pxrrlrllrl cal k m1) (doneK P results52)))
noncomputable def K52_prrr (cal : Cal) (k : Nat) : KC (Value × Hp × Nat) := (cutK (Lv.b (Lv.b (Lv.b (A 52)))).c (codeE P cal (codeF P cal k) none 52 (cR (cR (cR (cR code52)))) (Lv.b (Lv.b (Lv.b (Lv.b (A 52))))) (doneK P results52) X0 (doneK P results52)))
noncomputable def E52_2 (cal : Cal) (k m1 : Nat) : KC (Value × Hp × Nat) := codeE P cal (codeF P cal m1) none 52 (cR (cR (cL (cL (cR (cL (cR (cR code52)))))))) (Lv.b (Lv.b (Lv.a (Lv.a (Lv.b (Lv.a (Lv.b (Lv.b (A 52))))))))) (K52_prrlrl cal k m1) (K52_pxrrlr cal k) (doneK P results52)
noncomputable def E52_1 (cal : Cal) (k m1 : Nat) : KC (Value × Hp × Nat) := codeE P cal (codeF P cal m1) none 52 (cL (cL (cR (cL (cR (cR code52)))))) (Lv.a (Lv.a (Lv.b (Lv.a (Lv.b (Lv.b (A 52))))))) (K52_prrlrl cal k m1) (K52_pxrrlr cal k) (doneK P results52)
noncomputable def R52_1 (cal : Cal) (k m1 : Nat) : Value → Value → Value → Hp → Nat → Res := fun u0 u1 u2 H n => codeF P cal m1 (Lv.a (Lv.b (Lv.a (Lv.b (Lv.b (A 52)))))) none 52 (cL (cR (cL (cR (cR code52))))) (K52_prr cal k) (K52_pxrrlr cal k) (doneK P results52) (Tr.set (Tr.set (Tr.set Tr.nil 2 (some u2)) 1 (some u1)) 0 (some u0)) H n []
noncomputable def B52_2 (cal : Cal) (k m1 : Nat) (b1 : Value → Value → Value → Hp → Nat → Res) (u0 u1 u2 : Value) (H : Hp) (n : Nat) : Res :=
binK P Go.BinOp.add 3 (Go.Operand.tmp 10) (Go.Operand.const (Go.Value.int Go.IntKind.i64 1)) u2 (Go.Value.int Go.IntKind.i64 1) fun v11_24 =>
b1 u0 u1 v11_24 H n
noncomputable def C52_2 (cal : Cal) (k m1 : Nat) (b1 : Value → Value → Value → Hp → Nat → Res) (u0 u1 u2 : Value) (H : Hp) (n : Nat) : Res := B52_2 cal k m1 b1 u0 u1 u2 H n
theorem h52_2 (cal : Cal) (k m1 : Nat) (u0 u1 u2 : Value) (H : Hp) (n : Nat) : labK (E52_2 cal k m1) (Tr.set (Tr.set (Tr.set Tr.nil 2 (some u2)) 1 (some u1)) 0 (some u0)) H n [] = C52_2 cal k m1 (R52_1 cal k m1) u0 u1 u2 H n := by
  have h : labK (E52_2 cal k m1) (Tr.set (Tr.set (Tr.set Tr.nil 2 (some u2)) 1 (some u1)) 0 (some u0)) H n [] = B52_2 cal k m1 (R52_1 cal k m1) u0 u1 u2 H n := by kernel_rfl
  rw [h, C52_2]
theorem q52_2 (cal : Cal) (k m1 : Nat) (u0 u1 u2 : Value) (H : Hp) (n : Nat) : labK (E52_2 cal k m1) (Tr.set (Tr.set (Tr.set Tr.nil 2 (some u2)) 1 (some u1)) 0 (some u0)) H n [] = C52_2 cal k m1 (R52_1 cal k m1) u0 u1 u2 H n := h52_2 ..
noncomputable def B52_1 (cal : Cal) (k m1 : Nat) (j2 : Value → Value → Value → Hp → Nat → Res) (b1 : Value → Value → Value → Hp → Nat → Res) (u0 u1 u2 : Value) (H : Hp) (n : Nat) : Res :=
binK P Go.BinOp.lss 3 (Go.Operand.tmp 8) (Go.Operand.const (Go.Value.int Go.IntKind.i64 5)) u2 (Go.Value.int Go.IntKind.i64 5) fun v9_22 =>
ifK v9_22 (
bindO (fieldAddrV P 35 u1 0) fun v12_26 =>
bindO (addrV v12_26) fun a_28 => bindO (loadV P H 31 a_28) fun v13_27 =>
bindO (buildP P 90 [(0, (Go.Value.int Go.IntKind.i64 10)), (1, (Go.Value.int Go.IntKind.i64 40))]) fun v14_29 =>
rowK P 31 1 [(0, v14_29)] H n fun v15_30 H_31 n_32 =>
stK (appendV P (bare H_31 n_32) 31 31 v13_27 v15_30) fun v16_33 H_34 n_35 =>
bindO (fieldAddrV P 35 u1 0) fun v17_36 =>
bindO (storeP P 31 v17_36 v16_33 H_34) fun H_38 =>
binK P Go.BinOp.gtr 3 (Go.Operand.tmp 18) (Go.Operand.const (Go.Value.int Go.IntKind.i64 0)) u2 (Go.Value.int Go.IntKind.i64 0) fun v19_40 =>
ifK v19_40 (
bindO (fieldAddrV P 35 u1 1) fun v20_41 =>
bindO (addrV v20_41) fun a_43 => bindO (loadV P H_38 32 a_43) fun v21_42 =>
binK P Go.BinOp.sub 3 (Go.Operand.tmp 22) (Go.Operand.const (Go.Value.int Go.IntKind.i64 1)) u2 (Go.Value.int Go.IntKind.i64 1) fun v23_45 =>
bindO (buildP P 88 [(0, v23_45), (1, u2)]) fun v25_47 =>
rowK P 32 1 [(0, v25_47)] H_38 n_35 fun v26_48 H_49 n_50 =>
stK (appendV P (bare H_49 n_50) 32 32 v21_42 v26_48) fun v27_51 H_52 n_53 =>
bindO (fieldAddrV P 35 u1 1) fun v28_54 =>
bindO (storeP P 32 v28_54 v27_51 H_52) fun H_56 =>
j2 u0 u1 u2 H_56 n_53) (
j2 u0 u1 u2 H_38 n_35)) (
bindO (addrV u1) fun a_58 => bindO (loadV P H 35 a_58) fun v29_57 =>
bindO (storeP P 35 u0 v29_57 H) fun H_60 =>
bindO (resV P (Tr.set Tr.nil 0 (some u0)) H_60 results52) fun vs_61 => some (oneV vs_61, H_60, n))
noncomputable def C52_1 (cal : Cal) (k m1 : Nat) (b1 : Value → Value → Value → Hp → Nat → Res) (u0 u1 u2 : Value) (H : Hp) (n : Nat) : Res := B52_1 cal k m1 (C52_2 cal k m1 b1) b1 u0 u1 u2 H n
noncomputable def S52_1 (cal : Cal) (k : Nat) : Nat → Value → Value → Value → Hp → Nat → Res := fun m => Nat.rec (motive := fun _ => Value → Value → Value → Hp → Nat → Res) (C52_1 cal k 0 (fun _ _ _ _ _ => none)) (fun m ih => C52_1 cal k (m + 1) ih) m
theorem h52_1 (cal : Cal) (k m1 : Nat) (u0 u1 u2 : Value) (H : Hp) (n : Nat) : labK (E52_1 cal k m1) (Tr.set (Tr.set (Tr.set Tr.nil 2 (some u2)) 1 (some u1)) 0 (some u0)) H n [] = C52_1 cal k m1 (R52_1 cal k m1) u0 u1 u2 H n := by
  have h : labK (E52_1 cal k m1) (Tr.set (Tr.set (Tr.set Tr.nil 2 (some u2)) 1 (some u1)) 0 (some u0)) H n [] = B52_1 cal k m1 (fun u0 u1 u2 H n => labK (E52_2 cal k m1) (Tr.set (Tr.set (Tr.set Tr.nil 2 (some u2)) 1 (some u1)) 0 (some u0)) H n []) (R52_1 cal k m1) u0 u1 u2 H n := by kernel_rfl
  rw [h, C52_1]
  have e2 : (fun u0 u1 u2 H n => labK (E52_2 cal k m1) (Tr.set (Tr.set (Tr.set Tr.nil 2 (some u2)) 1 (some u1)) 0 (some u0)) H n []) = (C52_2 cal k m1 (R52_1 cal k m1)) := by funext u0 u1 u2 H n; exact q52_2 ..
  rw [e2]
theorem q52_1 (cal : Cal) (k : Nat) : ∀ (m : Nat) (u0 u1 u2 : Value) (H : Hp) (n : Nat), labK (E52_1 cal k m) (Tr.set (Tr.set (Tr.set Tr.nil 2 (some u2)) 1 (some u1)) 0 (some u0)) H n [] = S52_1 cal k m u0 u1 u2 H n
  | 0, u0, u1, u2, H, n => by
    rw [h52_1]
    have e : R52_1 cal k 0 = fun _ _ _ _ _ => none := by funext u0 u1 u2 H n; kernel_rfl
    rw [e]; rfl
  | m + 1, u0, u1, u2, H, n => by
    rw [h52_1]
    have e : R52_1 cal k (m + 1) = S52_1 cal k m := by
      funext u0 u1 u2 H n
      have e : R52_1 cal k (m + 1) u0 u1 u2 H n = labK (E52_1 cal k m) (Tr.set (Tr.set (Tr.set Tr.nil 2 (some u2)) 1 (some u1)) 0 (some u0)) H n [] := by kernel_rfl
      rw [e]; exact q52_1 ..
    rw [e]; rfl
noncomputable def B52_0 (cal : Cal) (k : Nat) (j1 : Value → Value → Value → Hp → Nat → Res) (H : Hp) (n : Nat) : Res :=
allocK P 35 H n fun v0_1 H_2 n_3 =>
callFK P cal 54 [(Go.Value.int Go.IntKind.i64 20), (Go.Value.int Go.IntKind.i64 30)] H_2 n_3 fun v3_4 H_5 n_6 =>
callFK P cal 54 [(Go.Value.int Go.IntKind.i64 10), (Go.Value.int Go.IntKind.i64 20)] H_5 n_6 fun v4_7 H_8 n_9 =>
bindO (buildP P 86 [(0, (Go.Value.int Go.IntKind.i64 50)), (1, v3_4), (2, v4_7)]) fun v5_10 =>
rowK P 33 1 [(0, v5_10)] H_8 n_9 fun v6_11 H_12 n_13 =>
bindO (buildP P 35 [(2, v6_11)]) fun v7_14 =>
allocK P 35 H_12 n_13 fun v1_15 H_16 n_17 =>
bindO (storeP P 35 v1_15 v7_14 H_16) fun H_19 =>
j1 v0_1 v1_15 (Go.Value.int Go.IntKind.i64 0) H_19 n_17
noncomputable def C52_0 (cal : Cal) (k : Nat) (H : Hp) (n : Nat) : Res := B52_0 cal k (S52_1 cal k k)  H n
theorem h52_0 (cal : Cal) (k : Nat) (H : Hp) (n : Nat) : bodyE P cal A (k + 1) 52 [] H n = C52_0 cal k  H n := by
  have h : bodyE P cal A (k + 1) 52 [] H n = B52_0 cal k (fun u0 u1 u2 H n => labK (E52_1 cal k k) (Tr.set (Tr.set (Tr.set Tr.nil 2 (some u2)) 1 (some u1)) 0 (some u0)) H n [])  H n := by
    rw [body_eq (fn := Go.Proofs.Try.f52) (c := code52) (rs := results52) (by kernel_rfl) (by kernel_rfl) (by kernel_rfl) (by kernel_rfl)]
    kernel_rfl
  rw [h, C52_0]
  have e1 : (fun u0 u1 u2 H n => labK (E52_1 cal k k) (Tr.set (Tr.set (Tr.set Tr.nil 2 (some u2)) 1 (some u1)) 0 (some u0)) H n []) = (S52_1 cal k k) := by funext u0 u1 u2 H n; exact q52_1 ..
  rw [e1]
noncomputable def code53 : Code := codeOf 53
noncomputable def results53 : List ResultVar := resOf 53
noncomputable def K53_p (cal : Cal) (k : Nat) : KC (Value × Hp × Nat) := (cutK (A 53).c (codeE P cal (codeF P cal k) none 53 (cR code53) (Lv.b (A 53)) (doneK P results53) X0 (doneK P results53)))
noncomputable def K53_pr (cal : Cal) (k : Nat) : KC (Value × Hp × Nat) := (cutK (Lv.b (A 53)).c (codeE P cal (codeF P cal k) none 53 (cR (cR code53)) (Lv.b (Lv.b (A 53))) (doneK P results53) X0 (doneK P results53)))
noncomputable def K53_prr (cal : Cal) (k : Nat) : KC (Value × Hp × Nat) := (cutK (Lv.b (Lv.b (A 53))).c (codeE P cal (codeF P cal k) none 53 (cR (cR (cR code53))) (Lv.b (Lv.b (Lv.b (A 53)))) (doneK P results53) X0 (doneK P results53)))
noncomputable def K53_prrl (cal : Cal) (k : Nat) : KC (Value × Hp × Nat) := (cutK (Lv.a (Lv.b (Lv.b (A 53)))).c (codeE P cal (codeF P cal k) none 53 (cR (cL (cR (cR code53)))) (Lv.b (Lv.a (Lv.b (Lv.b (A 53))))) (K53_prr cal k) X0 (doneK P results53)))
noncomputable def K53_pxrrlr (cal : Cal) (k : Nat) : XC (Value × Hp × Nat) := (upX 0 (K53_prr cal k) X0)
noncomputable def K53_prrlrl (cal : Cal) (k : Nat) (m1 : Nat) : KC (Value × Hp × Nat) := (fun T H n D => codeF P cal m1 (Lv.a (Lv.b (Lv.a (Lv.b (Lv.b (A 53)))))) none 53 (cL (cR (cL (cR (cR code53))))) (K53_prr cal k) (K53_pxrrlr cal k) (doneK P results53) (cutT (Lv.a (Lv.b (Lv.a (Lv.b (Lv.b (A 53)))))).c T) H n D)
noncomputable def K53_prrlrll (cal : Cal) (k : Nat) (m1 : Nat) : KC (Value × Hp × Nat) := (cutK (Lv.a (Lv.a (Lv.b (Lv.a (Lv.b (Lv.b (A 53))))))).c (codeE P cal (codeF P cal m1) none 53 (cR (cL (cL (cR (cL (cR (cR code53))))))) (Lv.b (Lv.a (Lv.a (Lv.b (Lv.a (Lv.b (Lv.b (A 53)))))))) (K53_prrlrl cal k m1) (K53_pxrrlr cal k) (doneK P results53)))
noncomputable def K53_prrlrlll (cal : Cal) (k : Nat) (m1 : Nat) : KC (Value × Hp × Nat) := (cutK (Lv.a (Lv.a (Lv.a (Lv.b (Lv.a (Lv.b (Lv.b (A 53)))))))).c (codeE P cal (codeF P cal m1) none 53 (cR (cL (cL (cL (cR (cL (cR (cR code53)))))))) (Lv.b (Lv.a (Lv.a (Lv.a (Lv.b (Lv.a (Lv.b (Lv.b (A 53))))))))) (K53_prrlrll cal k m1) (K53_pxrrlr cal k) (doneK P results53)))
noncomputable def K53_prrlrllr (cal : Cal) (k : Nat) (m1 : Nat) : KC (Value × Hp × Nat) := (cutK (Lv.b (Lv.a (Lv.a (Lv.b (Lv.a (Lv.b (Lv.b (A 53)))))))).c (codeE P cal (codeF P cal m1) none 53 (cR (cR (cL (cL (cR (cL (cR (cR code53)))))))) (Lv.b (Lv.b (Lv.a (Lv.a (Lv.b (Lv.a (Lv.b (Lv.b (A 53))))))))) (K53_prrlrl cal k m1) (K53_pxrrlr cal k) (doneK P results53)))
noncomputable def K53_pxrrlrllrl (cal : Cal) (k : Nat) (m1 : Nat) : XC (Value × Hp × Nat) := (upX 1 (K53_prrlrllr cal k m1) (K53_pxrrlr cal k))
noncomputable def K53_prrr (cal : Cal) (k : Nat) : KC (Value × Hp × Nat) := (cutK (Lv.b (Lv.b (Lv.b (A 53)))).c (codeE P cal (codeF P cal k) none 53 (cR (cR (cR (cR code53)))) (Lv.b (Lv.b (Lv.b (Lv.b (A 53))))) (doneK P results53) X0 (doneK P results53)))
noncomputable def E53_1 (cal : Cal) (k m1 : Nat) : KC (Value × Hp × Nat) := codeE P cal (codeF P cal m1) none 53 (cL (cL (cR (cL (cR (cR code53)))))) (Lv.a (Lv.a (Lv.b (Lv.a (Lv.b (Lv.b (A 53))))))) (K53_prrlrl cal k m1) (K53_pxrrlr cal k) (doneK P results53)
noncomputable def R53_1 (cal : Cal) (k m1 : Nat) : Value → Value → Value → Hp → Nat → Res := fun u0 u3 u4 H n => codeF P cal m1 (Lv.a (Lv.b (Lv.a (Lv.b (Lv.b (A 53)))))) none 53 (cL (cR (cL (cR (cR code53))))) (K53_prr cal k) (K53_pxrrlr cal k) (doneK P results53) (Tr.set (Tr.set (Tr.set Tr.nil 4 (some u4)) 3 (some u3)) 0 (some u0)) H n []
noncomputable def B53_1 (cal : Cal) (k m1 : Nat) (b1 : Value → Value → Value → Hp → Nat → Res) (u0 u3 u4 : Value) (H : Hp) (n : Nat) : Res :=
bindO (lenV P 44 u0) fun v8_9 =>
binK P Go.BinOp.lss 3 (Go.Operand.tmp 6) (Go.Operand.tmp 8) u4 v8_9 fun v9_10 =>
ifK v9_10 (
bindO (indexAddrV P 44 u0 u4) fun v15_14 =>
bindO (addrV v15_14) fun a_16 => bindO (loadV P H 3 a_16) fun v16_15 =>
bindO (indexAddrV P 44 u3 v16_15) fun v17_17 =>
bindO (storeP P 3 v17_17 (Go.Value.int Go.IntKind.i64 0) H) fun H_19 =>
binK P Go.BinOp.add 3 (Go.Operand.tmp 10) (Go.Operand.const (Go.Value.int Go.IntKind.i64 1)) u4 (Go.Value.int Go.IntKind.i64 1) fun v11_21 =>
b1 u0 u3 v11_21 H_19 n) (
some (u3, H, n))
noncomputable def C53_1 (cal : Cal) (k m1 : Nat) (b1 : Value → Value → Value → Hp → Nat → Res) (u0 u3 u4 : Value) (H : Hp) (n : Nat) : Res := B53_1 cal k m1 b1 u0 u3 u4 H n
noncomputable def S53_1 (cal : Cal) (k : Nat) : Nat → Value → Value → Value → Hp → Nat → Res := fun m => Nat.rec (motive := fun _ => Value → Value → Value → Hp → Nat → Res) (C53_1 cal k 0 (fun _ _ _ _ _ => none)) (fun m ih => C53_1 cal k (m + 1) ih) m
theorem h53_1 (cal : Cal) (k m1 : Nat) (u0 u3 u4 : Value) (H : Hp) (n : Nat) : labK (E53_1 cal k m1) (Tr.set (Tr.set (Tr.set Tr.nil 4 (some u4)) 3 (some u3)) 0 (some u0)) H n [] = C53_1 cal k m1 (R53_1 cal k m1) u0 u3 u4 H n := by
  have h : labK (E53_1 cal k m1) (Tr.set (Tr.set (Tr.set Tr.nil 4 (some u4)) 3 (some u3)) 0 (some u0)) H n [] = B53_1 cal k m1 (R53_1 cal k m1) u0 u3 u4 H n := by kernel_rfl
  rw [h, C53_1]
theorem q53_1 (cal : Cal) (k : Nat) : ∀ (m : Nat) (u0 u3 u4 : Value) (H : Hp) (n : Nat), labK (E53_1 cal k m) (Tr.set (Tr.set (Tr.set Tr.nil 4 (some u4)) 3 (some u3)) 0 (some u0)) H n [] = S53_1 cal k m u0 u3 u4 H n
  | 0, u0, u3, u4, H, n => by
    rw [h53_1]
    have e : R53_1 cal k 0 = fun _ _ _ _ _ => none := by funext u0 u3 u4 H n; kernel_rfl
    rw [e]; rfl
  | m + 1, u0, u3, u4, H, n => by
    rw [h53_1]
    have e : R53_1 cal k (m + 1) = S53_1 cal k m := by
      funext u0 u3 u4 H n
      have e : R53_1 cal k (m + 1) u0 u3 u4 H n = labK (E53_1 cal k m) (Tr.set (Tr.set (Tr.set Tr.nil 4 (some u4)) 3 (some u3)) 0 (some u0)) H n [] := by kernel_rfl
      rw [e]; exact q53_1 ..
    rw [e]; rfl
noncomputable def B53_0 (cal : Cal) (k : Nat) (j1 : Value → Value → Value → Hp → Nat → Res) (v0 : Value) (H : Hp) (n : Nat) : Res :=
rowK P 44 5 [(0, (Go.Value.int Go.IntKind.i64 (-1))), (1, (Go.Value.int Go.IntKind.i64 (-1))), (2, (Go.Value.int Go.IntKind.i64 (-1))), (3, (Go.Value.int Go.IntKind.i64 (-1))), (4, (Go.Value.int Go.IntKind.i64 (-1)))] H n fun v5_2 H_3 n_4 =>
j1 v0 v5_2 (Go.Value.int Go.IntKind.i64 0) H_3 n_4
noncomputable def C53_0 (cal : Cal) (k : Nat) (v0 : Value) (H : Hp) (n : Nat) : Res := B53_0 cal k (S53_1 cal k k) v0 H n
theorem h53_0 (cal : Cal) (k : Nat) (v0 : Value) (H : Hp) (n : Nat) : bodyE P cal A (k + 1) 53 [v0] H n = C53_0 cal k v0 H n := by
  have h : bodyE P cal A (k + 1) 53 [v0] H n = B53_0 cal k (fun u0 u3 u4 H n => labK (E53_1 cal k k) (Tr.set (Tr.set (Tr.set Tr.nil 4 (some u4)) 3 (some u3)) 0 (some u0)) H n []) v0 H n := by
    rw [body_eq (fn := Go.Proofs.Try.f53) (c := code53) (rs := results53) (by kernel_rfl) (by kernel_rfl) (by kernel_rfl) (by kernel_rfl)]
    kernel_rfl
  rw [h, C53_0]
  have e1 : (fun u0 u3 u4 H n => labK (E53_1 cal k k) (Tr.set (Tr.set (Tr.set Tr.nil 4 (some u4)) 3 (some u3)) 0 (some u0)) H n []) = (S53_1 cal k k) := by funext u0 u3 u4 H n; exact q53_1 ..
  rw [e1]
noncomputable def code54 : Code := codeOf 54
noncomputable def results54 : List ResultVar := resOf 54
noncomputable def K54_p (cal : Cal) (k : Nat) : KC (Value × Hp × Nat) := (cutK (A 54).c (codeE P cal (codeF P cal k) none 54 (cR code54) (Lv.b (A 54)) (doneK P results54) X0 (doneK P results54)))
noncomputable def K54_pr (cal : Cal) (k : Nat) : KC (Value × Hp × Nat) := (cutK (Lv.b (A 54)).c (codeE P cal (codeF P cal k) none 54 (cR (cR code54)) (Lv.b (Lv.b (A 54))) (doneK P results54) X0 (doneK P results54)))
noncomputable def B54_0 (cal : Cal) (k : Nat) (v0 v1 : Value) (H : Hp) (n : Nat) : Res :=
allocK P 53 H n fun v4_1 H_2 n_3 =>
bindO (buildP P 53 [(0, v0), (1, v1)]) fun v7_6 =>
bindO (storeP P 53 v4_1 v7_6 H_2) fun H_8 =>
bindO (resV P (Tr.set Tr.nil 4 (some v4_1)) H_8 results54) fun vs_9 => some (oneV vs_9, H_8, n_3)
noncomputable def C54_0 (cal : Cal) (k : Nat) (v0 v1 : Value) (H : Hp) (n : Nat) : Res := B54_0 cal k v0 v1 H n
theorem h54_0 (cal : Cal) (k : Nat) (v0 v1 : Value) (H : Hp) (n : Nat) : bodyE P cal A (k + 1) 54 [v0, v1] H n = C54_0 cal k v0 v1 H n := by
  have h : bodyE P cal A (k + 1) 54 [v0, v1] H n = B54_0 cal k v0 v1 H n := by
    rw [body_eq (fn := Go.Proofs.Try.f54) (c := code54) (rs := results54) (by kernel_rfl) (by kernel_rfl) (by kernel_rfl) (by kernel_rfl)]
    kernel_rfl
  rw [h, C54_0]
noncomputable def code60 : Code := codeOf 60
noncomputable def results60 : List ResultVar := resOf 60
noncomputable def K60_p (cal : Cal) (k : Nat) : KC (Value × Hp × Nat) := (cutK (A 60).c (codeE P cal (codeF P cal k) none 60 (cR code60) (Lv.b (A 60)) (doneK P results60) X0 (doneK P results60)))
noncomputable def K60_pr (cal : Cal) (k : Nat) : KC (Value × Hp × Nat) := (cutK (Lv.b (A 60)).c (codeE P cal (codeF P cal k) none 60 (cR (cR code60)) (Lv.b (Lv.b (A 60))) (doneK P results60) X0 (doneK P results60)))
noncomputable def K60_pxrl (cal : Cal) (k : Nat) : XC (Value × Hp × Nat) := (upX 0 (K60_pr cal k) X0)
noncomputable def K60_prllrl (cal : Cal) (k : Nat) : KC (Value × Hp × Nat) := (cutK (Lv.a (Lv.b (Lv.a (Lv.a (Lv.b (A 60)))))).c (codeE P cal (codeF P cal k) none 60 (cR (cL (cR (cL (cL (cR code60)))))) (Lv.b (Lv.a (Lv.b (Lv.a (Lv.a (Lv.b (A 60))))))) (K60_pr cal k) (K60_pxrl cal k) (doneK P results60)))
noncomputable def K60_prllrrrl (cal : Cal) (k : Nat) : KC (Value × Hp × Nat) := (cutK (Lv.a (Lv.b (Lv.b (Lv.b (Lv.a (Lv.a (Lv.b (A 60)))))))).c (codeE P cal (codeF P cal k) none 60 (cR (cL (cR (cR (cR (cL (cL (cR code60)))))))) (Lv.b (Lv.a (Lv.b (Lv.b (Lv.b (Lv.a (Lv.a (Lv.b (A 60))))))))) (K60_pr cal k) (K60_pxrl cal k) (doneK P results60)))
noncomputable def K60_prllrrrrrl (cal : Cal) (k : Nat) : KC (Value × Hp × Nat) := (cutK (Lv.a (Lv.b (Lv.b (Lv.b (Lv.b (Lv.b (Lv.a (Lv.a (Lv.b (A 60)))))))))).c (codeE P cal (codeF P cal k) none 60 (cR (cL (cR (cR (cR (cR (cR (cL (cL (cR code60)))))))))) (Lv.b (Lv.a (Lv.b (Lv.b (Lv.b (Lv.b (Lv.b (Lv.a (Lv.a (Lv.b (A 60))))))))))) (K60_pr cal k) (K60_pxrl cal k) (doneK P results60)))
noncomputable def K60_prr (cal : Cal) (k : Nat) : KC (Value × Hp × Nat) := (cutK (Lv.b (Lv.b (A 60))).c (codeE P cal (codeF P cal k) none 60 (cR (cR (cR code60))) (Lv.b (Lv.b (Lv.b (A 60)))) (doneK P results60) X0 (doneK P results60)))
noncomputable def K60_prllrrrr (cal : Cal) (k : Nat) : KC (Value × Hp × Nat) := (cutK (Lv.b (Lv.b (Lv.b (Lv.b (Lv.a (Lv.a (Lv.b (A 60)))))))).c (codeE P cal (codeF P cal k) none 60 (cR (cR (cR (cR (cR (cL (cL (cR code60)))))))) (Lv.b (Lv.b (Lv.b (Lv.b (Lv.b (Lv.a (Lv.a (Lv.b (A 60))))))))) (K60_pr cal k) (K60_pxrl cal k) (doneK P results60)))
noncomputable def K60_prllrrrrl (cal : Cal) (k : Nat) : KC (Value × Hp × Nat) := (cutK (Lv.a (Lv.b (Lv.b (Lv.b (Lv.b (Lv.a (Lv.a (Lv.b (A 60))))))))).c (codeE P cal (codeF P cal k) none 60 (cR (cL (cR (cR (cR (cR (cL (cL (cR code60))))))))) (Lv.b (Lv.a (Lv.b (Lv.b (Lv.b (Lv.b (Lv.a (Lv.a (Lv.b (A 60)))))))))) (K60_prllrrrr cal k) (K60_pxrl cal k) (doneK P results60)))
noncomputable def K60_prllrrrrlrr (cal : Cal) (k : Nat) : KC (Value × Hp × Nat) := (cutK (Lv.b (Lv.b (Lv.a (Lv.b (Lv.b (Lv.b (Lv.b (Lv.a (Lv.a (Lv.b (A 60))))))))))).c (codeE P cal (codeF P cal k) none 60 (cR (cR (cR (cL (cR (cR (cR (cR (cL (cL (cR code60))))))))))) (Lv.b (Lv.b (Lv.b (Lv.a (Lv.b (Lv.b (Lv.b (Lv.b (Lv.a (Lv.a (Lv.b (A 60)))))))))))) (K60_prllrrrr cal k) (K60_pxrl cal k) (doneK P results60)))
noncomputable def K60_prllrr (cal : Cal) (k : Nat) : KC (Value × Hp × Nat) := (cutK (Lv.b (Lv.b (Lv.a (Lv.a (Lv.b (A 60)))))).c (codeE P cal (codeF P cal k) none 60 (cR (cR (cR (cL (cL (cR code60)))))) (Lv.b (Lv.b (Lv.b (Lv.a (Lv.a (Lv.b (A 60))))))) (K60_pr cal k) (K60_pxrl cal k) (doneK P results60)))
noncomputable def K60_prllrrl (cal : Cal) (k : Nat) : KC (Value × Hp × Nat) := (cutK (Lv.a (Lv.b (Lv.b (Lv.a (Lv.a (Lv.b (A 60))))))).c (codeE P cal (codeF P cal k) none 60 (cR (cL (cR (cR (cL (cL (cR code60))))))) (Lv.b (Lv.a (Lv.b (Lv.b (Lv.a (Lv.a (Lv.b (A 60)))))))) (K60_prllrr cal k) (K60_pxrl cal k) (doneK P results60)))
noncomputable def K60_prll (cal : Cal) (k : Nat) : KC (Value × Hp × Nat) := (cutK (Lv.a (Lv.a (Lv.b (A 60)))).c (codeE P cal (codeF P cal k) none 60 (cR (cL (cL (cR code60)))) (Lv.b (Lv.a (Lv.a (Lv.b (A 60))))) (K60_pr cal k) (K60_pxrl cal k) (doneK P results60)))
noncomputable def K60_prlll (cal : Cal) (k : Nat) : KC (Value × Hp × Nat) := (cutK (Lv.a (Lv.a (Lv.a (Lv.b (A 60))))).c (codeE P cal (codeF P cal k) none 60 (cR (cL (cL (cL (cR code60))))) (Lv.b (Lv.a (Lv.a (Lv.a (Lv.b (A 60)))))) (K60_prll cal k) (K60_pxrl cal k) (doneK P results60)))
noncomputable def K60_prlllrr (cal : Cal) (k : Nat) : KC (Value × Hp × Nat) := (cutK (Lv.b (Lv.b (Lv.a (Lv.a (Lv.a (Lv.b (A 60))))))).c (codeE P cal (codeF P cal k) none 60 (cR (cR (cR (cL (cL (cL (cR code60))))))) (Lv.b (Lv.b (Lv.b (Lv.a (Lv.a (Lv.a (Lv.b (A 60)))))))) (K60_prll cal k) (K60_pxrl cal k) (doneK P results60)))
noncomputable def E60_3 (cal : Cal) (k : Nat) : KC (Value × Hp × Nat) := codeE P cal (codeF P cal k) none 60 (cR (cR (cR (cR (cR (cL (cL (cR code60)))))))) (Lv.b (Lv.b (Lv.b (Lv.b (Lv.b (Lv.a (Lv.a (Lv.b (A 60))))))))) (K60_pr cal k) (K60_pxrl cal k) (doneK P results60)
noncomputable def E60_2 (cal : Cal) (k : Nat) : KC (Value × Hp × Nat) := codeE P cal (codeF P cal k) none 60 (cR (cR (cR (cL (cL (cR code60)))))) (Lv.b (Lv.b (Lv.b (Lv.a (Lv.a (Lv.b (A 60))))))) (K60_pr cal k) (K60_pxrl cal k) (doneK P results60)
noncomputable def E60_1 (cal : Cal) (k : Nat) : KC (Value × Hp × Nat) := codeE P cal (codeF P cal k) none 60 (cR (cL (cL (cR code60)))) (Lv.b (Lv.a (Lv.a (Lv.b (A 60))))) (K60_pr cal k) (K60_pxrl cal k) (doneK P results60)
noncomputable def B60_3 (cal : Cal) (k : Nat) (u25 : Value) (H : Hp) (n : Nat) : Res :=
ifK u25 (
some ((Go.Value.int Go.IntKind.i64 1), H, n)) (
some ((Go.Value.int Go.IntKind.i64 0), H, n))
noncomputable def C60_3 (cal : Cal) (k : Nat) (u25 : Value) (H : Hp) (n : Nat) : Res := B60_3 cal k u25 H n
theorem h60_3 (cal : Cal) (k : Nat) (u25 : Value) (H : Hp) (n : Nat) : labK (E60_3 cal k) (Tr.set Tr.nil 25 (some u25)) H n [] = C60_3 cal k u25 H n := by
  have h : labK (E60_3 cal k) (Tr.set Tr.nil 25 (some u25)) H n [] = B60_3 cal k u25 H n := by kernel_rfl
  rw [h, C60_3]
theorem q60_3 (cal : Cal) (k : Nat) (u25 : Value) (H : Hp) (n : Nat) : labK (E60_3 cal k) (Tr.set Tr.nil 25 (some u25)) H n [] = C60_3 cal k u25 H n := h60_3 ..
noncomputable def B60_2 (cal : Cal) (k : Nat) (j3 : Value → Hp → Nat → Res) (u1 u16 : Value) (H : Hp) (n : Nat) : Res :=
ifK u16 (
some ((Go.Value.int Go.IntKind.i64 1), H, n)) (
bindO (fieldAddrV P 35 u1 0) fun v26_9 =>
bindO (addrV v26_9) fun a_11 => bindO (loadV P H 31 a_11) fun v27_10 =>
callFK P cal 91 [v27_10, (Value.func (.func 92) #[] #[])] H n fun v28_12 H_13 n_14 =>
bindO (pureSem P v28_12 (Op.unary Go.UnOp.not v28_12)) fun v29_15 =>
ifK v29_15 (
j3 v29_15 H_13 n_14) (
bindO (fieldAddrV P 35 u1 1) fun v30_17 =>
bindO (addrV v30_17) fun a_19 => bindO (loadV P H_13 32 a_19) fun v31_18 =>
bindO (addrV u1) fun a_21 => bindO (loadV P H_13 35 a_21) fun v32_20 =>
callFK P cal 93 [v31_18, (Value.func (Go.Fn.func 94) ⟨[v32_20]⟩ ⟨[]⟩)] H_13 n_14 fun v34_23 H_24 n_25 =>
bindO (pureSem P v34_23 (Op.unary Go.UnOp.not v34_23)) fun v35_26 =>
ifK v35_26 (
j3 v35_26 H_24 n_25) (
bindO (fieldAddrV P 35 u1 2) fun v36_28 =>
bindO (addrV v36_28) fun a_30 => bindO (loadV P H_24 33 a_30) fun v37_29 =>
callFK P cal 95 [v37_29, (Value.func (.func 96) #[] #[])] H_24 n_25 fun v38_31 H_32 n_33 =>
bindO (pureSem P v38_31 (Op.unary Go.UnOp.not v38_31)) fun v39_34 =>
j3 v39_34 H_32 n_33)))
noncomputable def C60_2 (cal : Cal) (k : Nat) (u1 u16 : Value) (H : Hp) (n : Nat) : Res := B60_2 cal k (C60_3 cal k) u1 u16 H n
theorem h60_2 (cal : Cal) (k : Nat) (u1 u16 : Value) (H : Hp) (n : Nat) : labK (E60_2 cal k) (Tr.set (Tr.set Tr.nil 16 (some u16)) 1 (some u1)) H n [] = C60_2 cal k u1 u16 H n := by
  have h : labK (E60_2 cal k) (Tr.set (Tr.set Tr.nil 16 (some u16)) 1 (some u1)) H n [] = B60_2 cal k (fun u25 H n => labK (E60_3 cal k) (Tr.set Tr.nil 25 (some u25)) H n []) u1 u16 H n := by kernel_rfl
  rw [h, C60_2]
  have e3 : (fun u25 H n => labK (E60_3 cal k) (Tr.set Tr.nil 25 (some u25)) H n []) = (C60_3 cal k) := by funext u25 H n; exact q60_3 ..
  rw [e3]
theorem q60_2 (cal : Cal) (k : Nat) (u1 u16 : Value) (H : Hp) (n : Nat) : labK (E60_2 cal k) (Tr.set (Tr.set Tr.nil 16 (some u16)) 1 (some u1)) H n [] = C60_2 cal k u1 u16 H n := h60_2 ..
noncomputable def B60_1 (cal : Cal) (k : Nat) (j2 : Value → Value → Hp → Nat → Res) (u1 u3 : Value) (H : Hp) (n : Nat) : Res :=
ifK u3 (
some ((Go.Value.int Go.IntKind.i64 3), H, n)) (
bindO (fieldAddrV P 35 u1 0) fun v17_36 =>
bindO (addrV v17_36) fun a_38 => bindO (loadV P H 31 a_38) fun v18_37 =>
bindO (lenV P 31 v18_37) fun v19_39 =>
binK P Go.BinOp.eql 3 (Go.Operand.tmp 19) (Go.Operand.const (Go.Value.int Go.IntKind.i64 0)) v19_39 (Go.Value.int Go.IntKind.i64 0) fun v20_40 =>
ifK v20_40 (
j2 u1 v20_40 H n) (
bindO (fieldAddrV P 35 u1 2) fun v21_42 =>
bindO (addrV v21_42) fun a_44 => bindO (loadV P H 33 a_44) fun v22_43 =>
bindO (lenV P 33 v22_43) fun v23_45 =>
binK P Go.BinOp.eql 3 (Go.Operand.tmp 23) (Go.Operand.const (Go.Value.int Go.IntKind.i64 0)) v23_45 (Go.Value.int Go.IntKind.i64 0) fun v24_46 =>
j2 u1 v24_46 H n))
noncomputable def C60_1 (cal : Cal) (k : Nat) (u1 u3 : Value) (H : Hp) (n : Nat) : Res := B60_1 cal k (C60_2 cal k) u1 u3 H n
theorem h60_1 (cal : Cal) (k : Nat) (u1 u3 : Value) (H : Hp) (n : Nat) : labK (E60_1 cal k) (Tr.set (Tr.set Tr.nil 3 (some u3)) 1 (some u1)) H n [] = C60_1 cal k u1 u3 H n := by
  have h : labK (E60_1 cal k) (Tr.set (Tr.set Tr.nil 3 (some u3)) 1 (some u1)) H n [] = B60_1 cal k (fun u1 u16 H n => labK (E60_2 cal k) (Tr.set (Tr.set Tr.nil 16 (some u16)) 1 (some u1)) H n []) u1 u3 H n := by kernel_rfl
  rw [h, C60_1]
  have e2 : (fun u1 u16 H n => labK (E60_2 cal k) (Tr.set (Tr.set Tr.nil 16 (some u16)) 1 (some u1)) H n []) = (C60_2 cal k) := by funext u1 u16 H n; exact q60_2 ..
  rw [e2]
theorem q60_1 (cal : Cal) (k : Nat) (u1 u3 : Value) (H : Hp) (n : Nat) : labK (E60_1 cal k) (Tr.set (Tr.set Tr.nil 3 (some u3)) 1 (some u1)) H n [] = C60_1 cal k u1 u3 H n := h60_1 ..
noncomputable def B60_0 (cal : Cal) (k : Nat) (j1 : Value → Value → Hp → Nat → Res) (v0 : Value) (H : Hp) (n : Nat) : Res :=
boxK 35 v0 H n fun v1_1 H_2 n_3 =>
bindO (fieldAddrV P 35 v1_1 0) fun v4_48 =>
bindO (addrV v4_48) fun a_50 => bindO (loadV P H_2 31 a_50) fun v5_49 =>
bindO (lenV P 31 v5_49) fun v6_51 =>
binK P Go.BinOp.gtr 3 (Go.Operand.tmp 6) (Go.Operand.const (Go.Value.int Go.IntKind.i64 8)) v6_51 (Go.Value.int Go.IntKind.i64 8) fun v7_52 =>
ifK v7_52 (
j1 v1_1 v7_52 H_2 n_3) (
bindO (fieldAddrV P 35 v1_1 1) fun v8_54 =>
bindO (addrV v8_54) fun a_56 => bindO (loadV P H_2 32 a_56) fun v9_55 =>
bindO (lenV P 32 v9_55) fun v10_57 =>
binK P Go.BinOp.gtr 3 (Go.Operand.tmp 10) (Go.Operand.const (Go.Value.int Go.IntKind.i64 16)) v10_57 (Go.Value.int Go.IntKind.i64 16) fun v11_58 =>
ifK v11_58 (
j1 v1_1 v11_58 H_2 n_3) (
bindO (fieldAddrV P 35 v1_1 2) fun v12_60 =>
bindO (addrV v12_60) fun a_62 => bindO (loadV P H_2 33 a_62) fun v13_61 =>
bindO (lenV P 33 v13_61) fun v14_63 =>
binK P Go.BinOp.gtr 3 (Go.Operand.tmp 14) (Go.Operand.const (Go.Value.int Go.IntKind.i64 3)) v14_63 (Go.Value.int Go.IntKind.i64 3) fun v15_64 =>
j1 v1_1 v15_64 H_2 n_3))
noncomputable def C60_0 (cal : Cal) (k : Nat) (v0 : Value) (H : Hp) (n : Nat) : Res := B60_0 cal k (C60_1 cal k) v0 H n
theorem h60_0 (cal : Cal) (k : Nat) (v0 : Value) (H : Hp) (n : Nat) : bodyE P cal A (k + 1) 60 [v0] H n = C60_0 cal k v0 H n := by
  have h : bodyE P cal A (k + 1) 60 [v0] H n = B60_0 cal k (fun u1 u3 H n => labK (E60_1 cal k) (Tr.set (Tr.set Tr.nil 3 (some u3)) 1 (some u1)) H n []) v0 H n := by
    rw [body_eq (fn := Go.Proofs.Try.f60) (c := code60) (rs := results60) (by kernel_rfl) (by kernel_rfl) (by kernel_rfl) (by kernel_rfl)]
    kernel_rfl
  rw [h, C60_0]
  have e1 : (fun u1 u3 H n => labK (E60_1 cal k) (Tr.set (Tr.set Tr.nil 3 (some u3)) 1 (some u1)) H n []) = (C60_1 cal k) := by funext u1 u3 H n; exact q60_1 ..
  rw [e1]
noncomputable def code61 : Code := codeOf 61
noncomputable def results61 : List ResultVar := resOf 61
noncomputable def K61_p (cal : Cal) (k : Nat) : KC (Value × Hp × Nat) := (cutK (A 61).c (codeE P cal (codeF P cal k) none 61 (cR code61) (Lv.b (A 61)) (doneK P results61) X0 (doneK P results61)))
noncomputable def K61_pr (cal : Cal) (k : Nat) : KC (Value × Hp × Nat) := (cutK (Lv.b (A 61)).c (codeE P cal (codeF P cal k) none 61 (cR (cR code61)) (Lv.b (Lv.b (A 61))) (doneK P results61) X0 (doneK P results61)))
noncomputable def K61_prl (cal : Cal) (k : Nat) : KC (Value × Hp × Nat) := (cutK (Lv.a (Lv.b (A 61))).c (codeE P cal (codeF P cal k) none 61 (cR (cL (cR code61))) (Lv.b (Lv.a (Lv.b (A 61)))) (K61_pr cal k) X0 (doneK P results61)))
noncomputable def K61_prlr (cal : Cal) (k : Nat) : KC (Value × Hp × Nat) := (cutK (Lv.b (Lv.a (Lv.b (A 61)))).c (codeE P cal (codeF P cal k) none 61 (cR (cR (cL (cR code61)))) (Lv.b (Lv.b (Lv.a (Lv.b (A 61))))) (K61_pr cal k) X0 (doneK P results61)))
noncomputable def K61_prlrrl (cal : Cal) (k : Nat) : KC (Value × Hp × Nat) := (cutK (Lv.a (Lv.b (Lv.b (Lv.a (Lv.b (A 61)))))).c (codeE P cal (codeF P cal k) none 61 (cR (cL (cR (cR (cL (cR code61)))))) (Lv.b (Lv.a (Lv.b (Lv.b (Lv.a (Lv.b (A 61))))))) (K61_pr cal k) X0 (doneK P results61)))
noncomputable def K61_prr (cal : Cal) (k : Nat) : KC (Value × Hp × Nat) := (cutK (Lv.b (Lv.b (A 61))).c (codeE P cal (codeF P cal k) none 61 (cR (cR (cR code61))) (Lv.b (Lv.b (Lv.b (A 61)))) (doneK P results61) X0 (doneK P results61)))
noncomputable def K61_prrr (cal : Cal) (k : Nat) : KC (Value × Hp × Nat) := (cutK (Lv.b (Lv.b (Lv.b (A 61)))).c (codeE P cal (codeF P cal k) none 61 (cR (cR (cR (cR code61)))) (Lv.b (Lv.b (Lv.b (Lv.b (A 61))))) (doneK P results61) X0 (doneK P results61)))
noncomputable def K61_prrrl (cal : Cal) (k : Nat) : KC (Value × Hp × Nat) := (cutK (Lv.a (Lv.b (Lv.b (Lv.b (A 61))))).c (codeE P cal (codeF P cal k) none 61 (cR (cL (cR (cR (cR code61))))) (Lv.b (Lv.a (Lv.b (Lv.b (Lv.b (A 61)))))) (K61_prrr cal k) X0 (doneK P results61)))
noncomputable def K61_pxrrrlr (cal : Cal) (k : Nat) : XC (Value × Hp × Nat) := (upX 0 (K61_prrr cal k) X0)
noncomputable def K61_prrrlrl (cal : Cal) (k : Nat) (m1 : Nat) : KC (Value × Hp × Nat) := (fun T H n D => codeF P cal m1 (Lv.a (Lv.b (Lv.a (Lv.b (Lv.b (Lv.b (A 61))))))) none 61 (cL (cR (cL (cR (cR (cR code61)))))) (K61_prrr cal k) (K61_pxrrrlr cal k) (doneK P results61) (cutT (Lv.a (Lv.b (Lv.a (Lv.b (Lv.b (Lv.b (A 61))))))).c T) H n D)
noncomputable def K61_prrrlrll (cal : Cal) (k : Nat) (m1 : Nat) : KC (Value × Hp × Nat) := (cutK (Lv.a (Lv.a (Lv.b (Lv.a (Lv.b (Lv.b (Lv.b (A 61)))))))).c (codeE P cal (codeF P cal m1) none 61 (cR (cL (cL (cR (cL (cR (cR (cR code61)))))))) (Lv.b (Lv.a (Lv.a (Lv.b (Lv.a (Lv.b (Lv.b (Lv.b (A 61))))))))) (K61_prrrlrl cal k m1) (K61_pxrrrlr cal k) (doneK P results61)))
noncomputable def K61_prrrlrllr (cal : Cal) (k : Nat) (m1 : Nat) : KC (Value × Hp × Nat) := (cutK (Lv.b (Lv.a (Lv.a (Lv.b (Lv.a (Lv.b (Lv.b (Lv.b (A 61))))))))).c (codeE P cal (codeF P cal m1) none 61 (cR (cR (cL (cL (cR (cL (cR (cR (cR code61))))))))) (Lv.b (Lv.b (Lv.a (Lv.a (Lv.b (Lv.a (Lv.b (Lv.b (Lv.b (A 61)))))))))) (K61_prrrlrl cal k m1) (K61_pxrrrlr cal k) (doneK P results61)))
noncomputable def K61_prrrlrllrr (cal : Cal) (k : Nat) (m1 : Nat) : KC (Value × Hp × Nat) := (cutK (Lv.b (Lv.b (Lv.a (Lv.a (Lv.b (Lv.a (Lv.b (Lv.b (Lv.b (A 61)))))))))).c (codeE P cal (codeF P cal m1) none 61 (cR (cR (cR (cL (cL (cR (cL (cR (cR (cR code61)))))))))) (Lv.b (Lv.b (Lv.b (Lv.a (Lv.a (Lv.b (Lv.a (Lv.b (Lv.b (Lv.b (A 61))))))))))) (K61_prrrlrl cal k m1) (K61_pxrrrlr cal k) (doneK P results61)))
noncomputable def K61_pxrrrlrllrrl (cal : Cal) (k : Nat) (m1 : Nat) : XC (Value × Hp × Nat) := (upX 1 (K61_prrrlrllrr cal k m1) (K61_pxrrrlr cal k))
noncomputable def K61_prrrlrllrrll (cal : Cal) (k : Nat) (m1 : Nat) : KC (Value × Hp × Nat) := (cutK (Lv.a (Lv.a (Lv.b (Lv.b (Lv.a (Lv.a (Lv.b (Lv.a (Lv.b (Lv.b (Lv.b (A 61)))))))))))).c (codeE P cal (codeF P cal m1) none 61 (cR (cL (cL (cR (cR (cL (cL (cR (cL (cR (cR (cR code61)))))))))))) (Lv.b (Lv.a (Lv.a (Lv.b (Lv.b (Lv.a (Lv.a (Lv.b (Lv.a (Lv.b (Lv.b (Lv.b (A 61))))))))))))) (K61_prrrlrllrr cal k m1) (K61_pxrrrlrllrrl cal k m1) (doneK P results61)))
noncomputable def K61_prrrr (cal : Cal) (k : Nat) : KC (Value × Hp × Nat) := (cutK (Lv.b (Lv.b (Lv.b (Lv.b (A 61))))).c (codeE P cal (codeF P cal k) none 61 (cR (cR (cR (cR (cR code61))))) (Lv.b (Lv.b (Lv.b (Lv.b (Lv.b (A 61)))))) (doneK P results61) X0 (doneK P results61)))
noncomputable def K61_prrrrl (cal : Cal) (k : Nat) : KC (Value × Hp × Nat) := (cutK (Lv.a (Lv.b (Lv.b (Lv.b (Lv.b (A 61)))))).c (codeE P cal (codeF P cal k) none 61 (cR (cL (cR (cR (cR (cR code61)))))) (Lv.b (Lv.a (Lv.b (Lv.b (Lv.b (Lv.b (A 61))))))) (K61_prrrr cal k) X0 (doneK P results61)))
noncomputable def K61_pxrrrrlr (cal : Cal) (k : Nat) : XC (Value × Hp × Nat) := (upX 2 (K61_prrrr cal k) X0)
noncomputable def K61_prrrrlrl (cal : Cal) (k : Nat) (m1 : Nat) : KC (Value × Hp × Nat) := (fun T H n D => codeF P cal m1 (Lv.a (Lv.b (Lv.a (Lv.b (Lv.b (Lv.b (Lv.b (A 61)))))))) none 61 (cL (cR (cL (cR (cR (cR (cR code61))))))) (K61_prrrr cal k) (K61_pxrrrrlr cal k) (doneK P results61) (cutT (Lv.a (Lv.b (Lv.a (Lv.b (Lv.b (Lv.b (Lv.b (A 61)))))))).c T) H n D)
noncomputable def K61_prrrrlrll (cal : Cal) (k : Nat) (m1 : Nat) : KC (Value × Hp × Nat) := (cutK (Lv.a (Lv.a (Lv.b (Lv.a (Lv.b (Lv.b (Lv.b (Lv.b (A 61))))))))).c (codeE P cal (codeF P cal m1) none 61 (cR (cL (cL (cR (cL (cR (cR (cR (cR code61))))))))) (Lv.b (Lv.a (Lv.a (Lv.b (Lv.a (Lv.b (Lv.b (Lv.b (Lv.b (A 61)))))))))) (K61_prrrrlrl cal k m1) (K61_pxrrrrlr cal k) (doneK P results61)))
noncomputable def K61_prrrrlrllr (cal : Cal) (k : Nat) (m1 : Nat) : KC (Value × Hp × Nat) := (cutK (Lv.b (Lv.a (Lv.a (Lv.b (Lv.a (Lv.b (Lv.b (Lv.b (Lv.b (A 61)))))))))).c (codeE P cal (codeF P cal m1) none 61 (cR (cR (cL (cL (cR (cL (cR (cR (cR (cR code61)))))))))) (Lv.b (Lv.b (Lv.a (Lv.a (Lv.b (Lv.a (Lv.b (Lv.b (Lv.b (Lv.b (A 61))))))))))) (K61_prrrrlrl cal k m1) (K61_pxrrrrlr cal k) (doneK P results61)))
noncomputable def K61_prrrrlrllrr (cal : Cal) (k : Nat) (m1 : Nat) : KC (Value × Hp × Nat) := (cutK (Lv.b (Lv.b (Lv.a (Lv.a (Lv.b (Lv.a (Lv.b (Lv.b (Lv.b (Lv.b (A 61))))))))))).c (codeE P cal (codeF P cal m1) none 61 (cR (cR (cR (cL (cL (cR (cL (cR (cR (cR (cR code61))))))))))) (Lv.b (Lv.b (Lv.b (Lv.a (Lv.a (Lv.b (Lv.a (Lv.b (Lv.b (Lv.b (Lv.b (A 61)))))))))))) (K61_prrrrlrl cal k m1) (K61_pxrrrrlr cal k) (doneK P results61)))
noncomputable def K61_pxrrrrlrllrrl (cal : Cal) (k : Nat) (m1 : Nat) : XC (Value × Hp × Nat) := (upX 3 (K61_prrrrlrllrr cal k m1) (K61_pxrrrrlr cal k))
noncomputable def K61_prrrrlrllrrll (cal : Cal) (k : Nat) (m1 : Nat) : KC (Value × Hp × Nat) := (cutK (Lv.a (Lv.a (Lv.b (Lv.b (Lv.a (Lv.a (Lv.b (Lv.a (Lv.b (Lv.b (Lv.b (Lv.b (A 61))))))))))))).c (codeE P cal (codeF P cal m1) none 61 (cR (cL (cL (cR (cR (cL (cL (cR (cL (cR (cR (cR (cR code61))))))))))))) (Lv.b (Lv.a (Lv.a (Lv.b (Lv.b (Lv.a (Lv.a (Lv.b (Lv.a (Lv.b (Lv.b (Lv.b (Lv.b (A 61)))))))))))))) (K61_prrrrlrllrr cal k m1) (K61_pxrrrrlrllrrl cal k m1) (doneK P results61)))
noncomputable def K61_prrrrlrllrrllr (cal : Cal) (k : Nat) (m1 : Nat) : KC (Value × Hp × Nat) := (cutK (Lv.b (Lv.a (Lv.a (Lv.b (Lv.b (Lv.a (Lv.a (Lv.b (Lv.a (Lv.b (Lv.b (Lv.b (Lv.b (A 61)))))))))))))).c (codeE P cal (codeF P cal m1) none 61 (cR (cR (cL (cL (cR (cR (cL (cL (cR (cL (cR (cR (cR (cR code61)))))))))))))) (Lv.b (Lv.b (Lv.a (Lv.a (Lv.b (Lv.b (Lv.a (Lv.a (Lv.b (Lv.a (Lv.b (Lv.b (Lv.b (Lv.b (A 61))))))))))))))) (K61_prrrrlrllrr cal k m1) (K61_pxrrrrlrllrrl cal k m1) (doneK P results61)))
noncomputable def K61_pxrrrrlrllrrllrr (cal : Cal) (k : Nat) (m1 : Nat) : XC (Value × Hp × Nat) := (upX 4 (K61_prrrrlrllrr cal k m1) (K61_pxrrrrlrllrrl cal k m1))
noncomputable def K61_prrrrlrllrrllrrl (cal : Cal) (k : Nat) (m1 : Nat) (m2 : Nat) : KC (Value × Hp × Nat) := (fun T H n D => codeF P cal m2 (Lv.a (Lv.b (Lv.b (Lv.a (Lv.a (Lv.b (Lv.b (Lv.a (Lv.a (Lv.b (Lv.a (Lv.b (Lv.b (Lv.b (Lv.b (A 61)))))))))))))))) none 61 (cL (cR (cR (cL (cL (cR (cR (cL (cL (cR (cL (cR (cR (cR (cR code61))))))))))))))) (K61_prrrrlrllrr cal k m1) (K61_pxrrrrlrllrrllrr cal k m1) (doneK P results61) (cutT (Lv.a (Lv.b (Lv.b (Lv.a (Lv.a (Lv.b (Lv.b (Lv.a (Lv.a (Lv.b (Lv.a (Lv.b (Lv.b (Lv.b (Lv.b (A 61)))))))))))))))).c T) H n D)
noncomputable def K61_prrrrlrllrrllrrll (cal : Cal) (k : Nat) (m1 : Nat) (m2 : Nat) : KC (Value × Hp × Nat) := (cutK (Lv.a (Lv.a (Lv.b (Lv.b (Lv.a (Lv.a (Lv.b (Lv.b (Lv.a (Lv.a (Lv.b (Lv.a (Lv.b (Lv.b (Lv.b (Lv.b (A 61))))))))))))))))).c (codeE P cal (codeF P cal m2) none 61 (cR (cL (cL (cR (cR (cL (cL (cR (cR (cL (cL (cR (cL (cR (cR (cR (cR code61))))))))))))))))) (Lv.b (Lv.a (Lv.a (Lv.b (Lv.b (Lv.a (Lv.a (Lv.b (Lv.b (Lv.a (Lv.a (Lv.b (Lv.a (Lv.b (Lv.b (Lv.b (Lv.b (A 61)))))))))))))))))) (K61_prrrrlrllrrllrrl cal k m1 m2) (K61_pxrrrrlrllrrllrr cal k m1) (doneK P results61)))
noncomputable def K61_prrrrlrllrrllrrllr (cal : Cal) (k : Nat) (m1 : Nat) (m2 : Nat) : KC (Value × Hp × Nat) := (cutK (Lv.b (Lv.a (Lv.a (Lv.b (Lv.b (Lv.a (Lv.a (Lv.b (Lv.b (Lv.a (Lv.a (Lv.b (Lv.a (Lv.b (Lv.b (Lv.b (Lv.b (A 61)))))))))))))))))).c (codeE P cal (codeF P cal m2) none 61 (cR (cR (cL (cL (cR (cR (cL (cL (cR (cR (cL (cL (cR (cL (cR (cR (cR (cR code61)))))))))))))))))) (Lv.b (Lv.b (Lv.a (Lv.a (Lv.b (Lv.b (Lv.a (Lv.a (Lv.b (Lv.b (Lv.a (Lv.a (Lv.b (Lv.a (Lv.b (Lv.b (Lv.b (Lv.b (A 61))))))))))))))))))) (K61_prrrrlrllrrllrrl cal k m1 m2) (K61_pxrrrrlrllrrllrr cal k m1) (doneK P results61)))
noncomputable def K61_prrrrlrllrrllrrllrr (cal : Cal) (k : Nat) (m1 : Nat) (m2 : Nat) : KC (Value × Hp × Nat) := (cutK (Lv.b (Lv.b (Lv.a (Lv.a (Lv.b (Lv.b (Lv.a (Lv.a (Lv.b (Lv.b (Lv.a (Lv.a (Lv.b (Lv.a (Lv.b (Lv.b (Lv.b (Lv.b (A 61))))))))))))))))))).c (codeE P cal (codeF P cal m2) none 61 (cR (cR (cR (cL (cL (cR (cR (cL (cL (cR (cR (cL (cL (cR (cL (cR (cR (cR (cR code61))))))))))))))))))) (Lv.b (Lv.b (Lv.b (Lv.a (Lv.a (Lv.b (Lv.b (Lv.a (Lv.a (Lv.b (Lv.b (Lv.a (Lv.a (Lv.b (Lv.a (Lv.b (Lv.b (Lv.b (Lv.b (A 61)))))))))))))))))))) (K61_prrrrlrllrrllrrl cal k m1 m2) (K61_pxrrrrlrllrrllrr cal k m1) (doneK P results61)))
noncomputable def K61_pxrrrrlrllrrllrrllrrl (cal : Cal) (k : Nat) (m1 : Nat) (m2 : Nat) : XC (Value × Hp × Nat) := (upX 5 (K61_prrrrlrllrrllrrllrr cal k m1 m2) (K61_pxrrrrlrllrrllrr cal k m1))
noncomputable def K61_prrrrlrllrrllrrllrrll (cal : Cal) (k : Nat) (m1 : Nat) (m2 : Nat) : KC (Value × Hp × Nat) := (cutK (Lv.a (Lv.a (Lv.b (Lv.b (Lv.a (Lv.a (Lv.b (Lv.b (Lv.a (Lv.a (Lv.b (Lv.b (Lv.a (Lv.a (Lv.b (Lv.a (Lv.b (Lv.b (Lv.b (Lv.b (A 61))))))))))))))))))))).c (codeE P cal (codeF P cal m2) none 61 (cR (cL (cL (cR (cR (cL (cL (cR (cR (cL (cL (cR (cR (cL (cL (cR (cL (cR (cR (cR (cR code61))))))))))))))))))))) (Lv.b (Lv.a (Lv.a (Lv.b (Lv.b (Lv.a (Lv.a (Lv.b (Lv.b (Lv.a (Lv.a (Lv.b (Lv.b (Lv.a (Lv.a (Lv.b (Lv.a (Lv.b (Lv.b (Lv.b (Lv.b (A 61)))))))))))))))))))))) (K61_prrrrlrllrrllrrllrr cal k m1 m2) (K61_pxrrrrlrllrrllrrllrrl cal k m1 m2) (doneK P results61)))
noncomputable def K61_prrrrr (cal : Cal) (k : Nat) : KC (Value × Hp × Nat) := (cutK (Lv.b (Lv.b (Lv.b (Lv.b (Lv.b (A 61)))))).c (codeE P cal (codeF P cal k) none 61 (cR (cR (cR (cR (cR (cR code61)))))) (Lv.b (Lv.b (Lv.b (Lv.b (Lv.b (Lv.b (A 61))))))) (doneK P results61) X0 (doneK P results61)))
noncomputable def E61_3 (cal : Cal) (k m1 m2 : Nat) : KC (Value × Hp × Nat) := codeE P cal (codeF P cal m2) none 61 (cL (cL (cR (cR (cL (cL (cR (cR (cL (cL (cR (cL (cR (cR (cR (cR code61)))))))))))))))) (Lv.a (Lv.a (Lv.b (Lv.b (Lv.a (Lv.a (Lv.b (Lv.b (Lv.a (Lv.a (Lv.b (Lv.a (Lv.b (Lv.b (Lv.b (Lv.b (A 61))))))))))))))))) (K61_prrrrlrllrrllrrl cal k m1 m2) (K61_pxrrrrlrllrrllrr cal k m1) (doneK P results61)
noncomputable def R61_3 (cal : Cal) (k m1 m2 : Nat) : Value → Value → Value → Value → Value → Value → Value → Hp → Nat → Res := fun u5 u8 u53 u54 u61 u62 u63 H n => codeF P cal m2 (Lv.a (Lv.b (Lv.b (Lv.a (Lv.a (Lv.b (Lv.b (Lv.a (Lv.a (Lv.b (Lv.a (Lv.b (Lv.b (Lv.b (Lv.b (A 61)))))))))))))))) none 61 (cL (cR (cR (cL (cL (cR (cR (cL (cL (cR (cL (cR (cR (cR (cR code61))))))))))))))) (K61_prrrrlrllrr cal k m1) (K61_pxrrrrlrllrrllrr cal k m1) (doneK P results61) (Tr.set (Tr.set (Tr.set (Tr.set (Tr.set (Tr.set (Tr.set Tr.nil 63 (some u63)) 62 (some u62)) 61 (some u61)) 54 (some u54)) 53 (some u53)) 8 (some u8)) 5 (some u5)) H n []
noncomputable def E61_2 (cal : Cal) (k m1 : Nat) : KC (Value × Hp × Nat) := codeE P cal (codeF P cal m1) none 61 (cL (cL (cR (cL (cR (cR (cR (cR code61)))))))) (Lv.a (Lv.a (Lv.b (Lv.a (Lv.b (Lv.b (Lv.b (Lv.b (A 61))))))))) (K61_prrrrlrl cal k m1) (K61_pxrrrrlr cal k) (doneK P results61)
noncomputable def R61_2 (cal : Cal) (k m1 : Nat) : Value → Value → Value → Hp → Nat → Res := fun u5 u53 u54 H n => codeF P cal m1 (Lv.a (Lv.b (Lv.a (Lv.b (Lv.b (Lv.b (Lv.b (A 61)))))))) none 61 (cL (cR (cL (cR (cR (cR (cR code61))))))) (K61_prrrr cal k) (K61_pxrrrrlr cal k) (doneK P results61) (Tr.set (Tr.set (Tr.set Tr.nil 54 (some u54)) 53 (some u53)) 5 (some u5)) H n []
noncomputable def E61_1 (cal : Cal) (k m1 : Nat) : KC (Value × Hp × Nat) := codeE P cal (codeF P cal m1) none 61 (cL (cL (cR (cL (cR (cR (cR code61))))))) (Lv.a (Lv.a (Lv.b (Lv.a (Lv.b (Lv.b (Lv.b (A 61)))))))) (K61_prrrlrl cal k m1) (K61_pxrrrlr cal k) (doneK P results61)
noncomputable def R61_1 (cal : Cal) (k m1 : Nat) : Value → Value → Value → Value → Hp → Nat → Res := fun u5 u23 u24 u25 H n => codeF P cal m1 (Lv.a (Lv.b (Lv.a (Lv.b (Lv.b (Lv.b (A 61))))))) none 61 (cL (cR (cL (cR (cR (cR code61)))))) (K61_prrr cal k) (K61_pxrrrlr cal k) (doneK P results61) (Tr.set (Tr.set (Tr.set (Tr.set Tr.nil 25 (some u25)) 24 (some u24)) 23 (some u23)) 5 (some u5)) H n []
noncomputable def B61_3 (cal : Cal) (k m1 m2 : Nat) (b2 : Value → Value → Value → Hp → Nat → Res) (b3 : Value → Value → Value → Value → Value → Value → Value → Hp → Nat → Res) (u5 u8 u53 u54 u61 u62 u63 : Value) (H : Hp) (n : Nat) : Res :=
binK P Go.BinOp.lss 3 (Go.Operand.tmp 63) (Go.Operand.tmp 62) u63 u62 fun v64_94 =>
ifK v64_94 (
bindO (indexAddrV P 33 u61 u63) fun v66_96 =>
bindO (addrV v66_96) fun a_98 => bindO (loadV P H 86 a_98) fun v67_97 =>
allocK P 86 H n fun v10_99 H_100 n_101 =>
bindO (storeP P 86 v10_99 v67_97 H_100) fun H_104 =>
bindO (addrV v10_99) fun a_110 => bindO (loadV P H_104 86 a_110) fun v_111 =>
bindO (nilV u5) fun v75_112 =>
bindO (fieldAddrV P 117 v75_112 2) fun v76_113 =>
bindO (indexAddrV P 115 v76_113 u8) fun v77_114 =>
callFK P cal 97 [u5, u8, v_111] H_104 n_101 fun v74_115 H_116 n_117 =>
bindO (indexAddrV P 114 v77_114 u63) fun v78_118 =>
bindO (storeP P 113 v78_118 v74_115 H_116) fun H_120 =>
binK P Go.BinOp.add 3 (Go.Operand.tmp 63) (Go.Operand.const (Go.Value.int Go.IntKind.i64 1)) u63 (Go.Value.int Go.IntKind.i64 1) fun v79_121 =>
b3 u5 u8 u53 u54 u61 u62 v79_121 H_120 n_117) (
binK P Go.BinOp.add 3 (Go.Operand.tmp 54) (Go.Operand.const (Go.Value.int Go.IntKind.i64 1)) u54 (Go.Value.int Go.IntKind.i64 1) fun v80_123 =>
b2 u5 u53 v80_123 H n)
noncomputable def C61_3 (cal : Cal) (k m1 m2 : Nat) (b2 : Value → Value → Value → Hp → Nat → Res) (b3 : Value → Value → Value → Value → Value → Value → Value → Hp → Nat → Res) (u5 u8 u53 u54 u61 u62 u63 : Value) (H : Hp) (n : Nat) : Res := B61_3 cal k m1 m2 b2 b3 u5 u8 u53 u54 u61 u62 u63 H n
noncomputable def S61_3 (cal : Cal) (k m1 : Nat) (b2 : Value → Value → Value → Hp → Nat → Res) : Nat → Value → Value → Value → Value → Value → Value → Value → Hp → Nat → Res := fun m => Nat.rec (motive := fun _ => Value → Value → Value → Value → Value → Value → Value → Hp → Nat → Res) (C61_3 cal k m1 0 b2 (fun _ _ _ _ _ _ _ _ _ => none)) (fun m ih => C61_3 cal k m1 (m + 1) b2 ih) m
theorem h61_3 (cal : Cal) (k m1 m2 : Nat) (u5 u8 u53 u54 u61 u62 u63 : Value) (H : Hp) (n : Nat) : labK (E61_3 cal k m1 m2) (Tr.set (Tr.set (Tr.set (Tr.set (Tr.set (Tr.set (Tr.set Tr.nil 63 (some u63)) 62 (some u62)) 61 (some u61)) 54 (some u54)) 53 (some u53)) 8 (some u8)) 5 (some u5)) H n [] = C61_3 cal k m1 m2 (R61_2 cal k m1) (R61_3 cal k m1 m2) u5 u8 u53 u54 u61 u62 u63 H n := by
  have h : labK (E61_3 cal k m1 m2) (Tr.set (Tr.set (Tr.set (Tr.set (Tr.set (Tr.set (Tr.set Tr.nil 63 (some u63)) 62 (some u62)) 61 (some u61)) 54 (some u54)) 53 (some u53)) 8 (some u8)) 5 (some u5)) H n [] = B61_3 cal k m1 m2 (R61_2 cal k m1) (R61_3 cal k m1 m2) u5 u8 u53 u54 u61 u62 u63 H n := by kernel_rfl
  rw [h, C61_3]
theorem q61_3 (cal : Cal) (k m1 : Nat) : ∀ (m : Nat) (u5 u8 u53 u54 u61 u62 u63 : Value) (H : Hp) (n : Nat), labK (E61_3 cal k m1 m) (Tr.set (Tr.set (Tr.set (Tr.set (Tr.set (Tr.set (Tr.set Tr.nil 63 (some u63)) 62 (some u62)) 61 (some u61)) 54 (some u54)) 53 (some u53)) 8 (some u8)) 5 (some u5)) H n [] = S61_3 cal k m1 (R61_2 cal k m1) m u5 u8 u53 u54 u61 u62 u63 H n
  | 0, u5, u8, u53, u54, u61, u62, u63, H, n => by
    rw [h61_3]
    have e : R61_3 cal k m1 0 = fun _ _ _ _ _ _ _ _ _ => none := by funext u5 u8 u53 u54 u61 u62 u63 H n; kernel_rfl
    rw [e]; rfl
  | m + 1, u5, u8, u53, u54, u61, u62, u63, H, n => by
    rw [h61_3]
    have e : R61_3 cal k m1 (m + 1) = S61_3 cal k m1 (R61_2 cal k m1) m := by
      funext u5 u8 u53 u54 u61 u62 u63 H n
      have e : R61_3 cal k m1 (m + 1) u5 u8 u53 u54 u61 u62 u63 H n = labK (E61_3 cal k m1 m) (Tr.set (Tr.set (Tr.set (Tr.set (Tr.set (Tr.set (Tr.set Tr.nil 63 (some u63)) 62 (some u62)) 61 (some u61)) 54 (some u54)) 53 (some u53)) 8 (some u8)) 5 (some u5)) H n [] := by kernel_rfl
      rw [e]; exact q61_3 ..
    rw [e]; rfl
noncomputable def B61_2 (cal : Cal) (k m1 : Nat) (j3 : Value → Value → Value → Value → Value → Value → Value → Hp → Nat → Res) (b2 : Value → Value → Value → Hp → Nat → Res) (u5 u53 u54 : Value) (H : Hp) (n : Nat) : Res :=
binK P Go.BinOp.lss 3 (Go.Operand.tmp 54) (Go.Operand.tmp 53) u54 u53 fun v55_83 =>
ifK v55_83 (
bindO (nilV u5) fun v58_87 =>
bindO (fieldAddrV P 117 v58_87 0) fun v59_88 =>
bindO (fieldAddrV P 35 v59_88 2) fun v60_89 =>
bindO (addrV v60_89) fun a_91 => bindO (loadV P H 33 a_91) fun v61_90 =>
bindO (lenV P 33 v61_90) fun v62_92 =>
j3 u5 u54 u53 u54 v61_90 v62_92 (Go.Value.int Go.IntKind.i64 0) H n) (
some ((Value.tuple ⟨[u5, (Go.Value.int Go.IntKind.i64 0)]⟩), H, n))
noncomputable def C61_2 (cal : Cal) (k m1 : Nat) (b2 : Value → Value → Value → Hp → Nat → Res) (u5 u53 u54 : Value) (H : Hp) (n : Nat) : Res := B61_2 cal k m1 (S61_3 cal k m1 b2 m1) b2 u5 u53 u54 H n
noncomputable def S61_2 (cal : Cal) (k : Nat) : Nat → Value → Value → Value → Hp → Nat → Res := fun m => Nat.rec (motive := fun _ => Value → Value → Value → Hp → Nat → Res) (C61_2 cal k 0 (fun _ _ _ _ _ => none)) (fun m ih => C61_2 cal k (m + 1) ih) m
theorem h61_2 (cal : Cal) (k m1 : Nat) (u5 u53 u54 : Value) (H : Hp) (n : Nat) : labK (E61_2 cal k m1) (Tr.set (Tr.set (Tr.set Tr.nil 54 (some u54)) 53 (some u53)) 5 (some u5)) H n [] = C61_2 cal k m1 (R61_2 cal k m1) u5 u53 u54 H n := by
  have h : labK (E61_2 cal k m1) (Tr.set (Tr.set (Tr.set Tr.nil 54 (some u54)) 53 (some u53)) 5 (some u5)) H n [] = B61_2 cal k m1 (fun u5 u8 u53 u54 u61 u62 u63 H n => labK (E61_3 cal k m1 m1) (Tr.set (Tr.set (Tr.set (Tr.set (Tr.set (Tr.set (Tr.set Tr.nil 63 (some u63)) 62 (some u62)) 61 (some u61)) 54 (some u54)) 53 (some u53)) 8 (some u8)) 5 (some u5)) H n []) (R61_2 cal k m1) u5 u53 u54 H n := by kernel_rfl
  rw [h, C61_2]
  have e3 : (fun u5 u8 u53 u54 u61 u62 u63 H n => labK (E61_3 cal k m1 m1) (Tr.set (Tr.set (Tr.set (Tr.set (Tr.set (Tr.set (Tr.set Tr.nil 63 (some u63)) 62 (some u62)) 61 (some u61)) 54 (some u54)) 53 (some u53)) 8 (some u8)) 5 (some u5)) H n []) = (S61_3 cal k m1 (R61_2 cal k m1) m1) := by funext u5 u8 u53 u54 u61 u62 u63 H n; exact q61_3 ..
  rw [e3]
theorem q61_2 (cal : Cal) (k : Nat) : ∀ (m : Nat) (u5 u53 u54 : Value) (H : Hp) (n : Nat), labK (E61_2 cal k m) (Tr.set (Tr.set (Tr.set Tr.nil 54 (some u54)) 53 (some u53)) 5 (some u5)) H n [] = S61_2 cal k m u5 u53 u54 H n
  | 0, u5, u53, u54, H, n => by
    rw [h61_2]
    have e : R61_2 cal k 0 = fun _ _ _ _ _ => none := by funext u5 u53 u54 H n; kernel_rfl
    rw [e]; rfl
  | m + 1, u5, u53, u54, H, n => by
    rw [h61_2]
    have e : R61_2 cal k (m + 1) = S61_2 cal k m := by
      funext u5 u53 u54 H n
      have e : R61_2 cal k (m + 1) u5 u53 u54 H n = labK (E61_2 cal k m) (Tr.set (Tr.set (Tr.set Tr.nil 54 (some u54)) 53 (some u53)) 5 (some u5)) H n [] := by kernel_rfl
      rw [e]; exact q61_2 ..
    rw [e]; rfl
noncomputable def B61_1 (cal : Cal) (k m1 : Nat) (j2 : Value → Value → Value → Hp → Nat → Res) (b1 : Value → Value → Value → Value → Hp → Nat → Res) (u5 u23 u24 u25 : Value) (H : Hp) (n : Nat) : Res :=
binK P Go.BinOp.lss 3 (Go.Operand.tmp 25) (Go.Operand.tmp 24) u25 u24 fun v26_32 =>
ifK v26_32 (
bindO (indexAddrV P 32 u23 u25) fun v27_33 =>
bindO (addrV v27_33) fun a_35 => bindO (loadV P H 88 a_35) fun v28_34 =>
allocK P 88 H n fun v7_36 H_37 n_38 =>
bindO (storeP P 88 v7_36 v28_34 H_37) fun H_40 =>
bindO (fieldAddrV P 88 v7_36 0) fun v30_42 =>
bindO (addrV v30_42) fun a_43 => bindO (loadV P H_40 3 a_43) fun v_44 =>
bindO (fieldAddrV P 88 v7_36 1) fun v32_45 =>
bindO (addrV v32_45) fun a_46 => bindO (loadV P H_40 3 a_46) fun v_47 =>
bindO (fieldAddrV P 88 v7_36 1) fun v35_49 =>
bindO (addrV v35_49) fun a_50 => bindO (loadV P H_40 3 a_50) fun v_51 =>
bindO (fieldAddrV P 88 v7_36 0) fun v37_52 =>
bindO (addrV v37_52) fun a_53 => bindO (loadV P H_40 3 a_53) fun v_54 =>
bindO (nilV u5) fun v39_55 =>
bindO (fieldAddrV P 117 v39_55 1) fun v40_56 =>
bindO (indexAddrV P 109 v40_56 v_44) fun v41_57 =>
bindO (indexAddrV P 108 v41_57 v_47) fun v42_58 =>
bindO (nilV u5) fun v43_59 =>
bindO (fieldAddrV P 117 v43_59 1) fun v44_60 =>
bindO (indexAddrV P 109 v44_60 v_51) fun v45_61 =>
effK P [(.l 3 a_53), (.l 3 a_50)] H_40 n_38 (fun H_62 n_63 k_64 =>
bindO (storeP P 4 v42_58 (Go.Value.bool true) H_62) fun H_69 =>
k_64 undef H_69 n_63) fun v_65 H_66 n_67 =>
bindO (indexAddrV P 108 v45_61 v_54) fun v46_70 =>
bindO (storeP P 4 v46_70 (Go.Value.bool true) H_66) fun H_72 =>
binK P Go.BinOp.add 3 (Go.Operand.tmp 25) (Go.Operand.const (Go.Value.int Go.IntKind.i64 1)) u25 (Go.Value.int Go.IntKind.i64 1) fun v47_73 =>
b1 u5 u23 u24 v47_73 H_72 n_67) (
bindO (nilV u5) fun v49_76 =>
bindO (fieldAddrV P 117 v49_76 0) fun v50_77 =>
bindO (fieldAddrV P 35 v50_77 0) fun v51_78 =>
bindO (addrV v51_78) fun a_80 => bindO (loadV P H 31 a_80) fun v52_79 =>
bindO (lenV P 31 v52_79) fun v53_81 =>
j2 u5 v53_81 (Go.Value.int Go.IntKind.i64 0) H n)
noncomputable def C61_1 (cal : Cal) (k m1 : Nat) (b1 : Value → Value → Value → Value → Hp → Nat → Res) (u5 u23 u24 u25 : Value) (H : Hp) (n : Nat) : Res := B61_1 cal k m1 (S61_2 cal k k) b1 u5 u23 u24 u25 H n
noncomputable def S61_1 (cal : Cal) (k : Nat) : Nat → Value → Value → Value → Value → Hp → Nat → Res := fun m => Nat.rec (motive := fun _ => Value → Value → Value → Value → Hp → Nat → Res) (C61_1 cal k 0 (fun _ _ _ _ _ _ => none)) (fun m ih => C61_1 cal k (m + 1) ih) m
theorem h61_1 (cal : Cal) (k m1 : Nat) (u5 u23 u24 u25 : Value) (H : Hp) (n : Nat) : labK (E61_1 cal k m1) (Tr.set (Tr.set (Tr.set (Tr.set Tr.nil 25 (some u25)) 24 (some u24)) 23 (some u23)) 5 (some u5)) H n [] = C61_1 cal k m1 (R61_1 cal k m1) u5 u23 u24 u25 H n := by
  have h : labK (E61_1 cal k m1) (Tr.set (Tr.set (Tr.set (Tr.set Tr.nil 25 (some u25)) 24 (some u24)) 23 (some u23)) 5 (some u5)) H n [] = B61_1 cal k m1 (fun u5 u53 u54 H n => labK (E61_2 cal k k) (Tr.set (Tr.set (Tr.set Tr.nil 54 (some u54)) 53 (some u53)) 5 (some u5)) H n []) (R61_1 cal k m1) u5 u23 u24 u25 H n := by kernel_rfl
  rw [h, C61_1]
  have e2 : (fun u5 u53 u54 H n => labK (E61_2 cal k k) (Tr.set (Tr.set (Tr.set Tr.nil 54 (some u54)) 53 (some u53)) 5 (some u5)) H n []) = (S61_2 cal k k) := by funext u5 u53 u54 H n; exact q61_2 ..
  rw [e2]
theorem q61_1 (cal : Cal) (k : Nat) : ∀ (m : Nat) (u5 u23 u24 u25 : Value) (H : Hp) (n : Nat), labK (E61_1 cal k m) (Tr.set (Tr.set (Tr.set (Tr.set Tr.nil 25 (some u25)) 24 (some u24)) 23 (some u23)) 5 (some u5)) H n [] = S61_1 cal k m u5 u23 u24 u25 H n
  | 0, u5, u23, u24, u25, H, n => by
    rw [h61_1]
    have e : R61_1 cal k 0 = fun _ _ _ _ _ _ => none := by funext u5 u23 u24 u25 H n; kernel_rfl
    rw [e]; rfl
  | m + 1, u5, u23, u24, u25, H, n => by
    rw [h61_1]
    have e : R61_1 cal k (m + 1) = S61_1 cal k m := by
      funext u5 u23 u24 u25 H n
      have e : R61_1 cal k (m + 1) u5 u23 u24 u25 H n = labK (E61_1 cal k m) (Tr.set (Tr.set (Tr.set (Tr.set Tr.nil 25 (some u25)) 24 (some u24)) 23 (some u23)) 5 (some u5)) H n [] := by kernel_rfl
      rw [e]; exact q61_1 ..
    rw [e]; rfl
noncomputable def B61_0 (cal : Cal) (k : Nat) (j1 : Value → Value → Value → Value → Hp → Nat → Res) (v0 : Value) (H : Hp) (n : Nat) : Res :=
boxK 35 v0 H n fun v1_1 H_2 n_3 =>
bindO (addrV v1_1) fun a_7 => bindO (loadV P H_2 35 a_7) fun v11_6 =>
callFK P cal 60 [v11_6] H_2 n_3 fun v12_8 H_9 n_10 =>
binK P Go.BinOp.neq 29 (Go.Operand.tmp 13) (Go.Operand.const (Go.Value.int Go.IntKind.i64 0)) v12_8 (Go.Value.int Go.IntKind.i64 0) fun v14_13 =>
ifK v14_13 (
some ((Value.tuple ⟨[(Go.Value.pointer none), v12_8]⟩), H_9, n_10)) (
bindO (addrV v1_1) fun a_18 => bindO (loadV P H_9 35 a_18) fun v16_17 =>
bindO (buildP P 117 [(0, v16_17)]) fun v17_19 =>
boxK 117 v17_19 H_9 n_10 fun v18_20 H_21 n_22 =>
bindO (nilV v18_20) fun v20_25 =>
bindO (fieldAddrV P 117 v20_25 0) fun v21_26 =>
bindO (fieldAddrV P 35 v21_26 1) fun v22_27 =>
bindO (addrV v22_27) fun a_29 => bindO (loadV P H_21 32 a_29) fun v23_28 =>
bindO (lenV P 32 v23_28) fun v24_30 =>
j1 v18_20 v23_28 v24_30 (Go.Value.int Go.IntKind.i64 0) H_21 n_22)
noncomputable def C61_0 (cal : Cal) (k : Nat) (v0 : Value) (H : Hp) (n : Nat) : Res := B61_0 cal k (S61_1 cal k k) v0 H n
theorem h61_0 (cal : Cal) (k : Nat) (v0 : Value) (H : Hp) (n : Nat) : bodyE P cal A (k + 1) 61 [v0] H n = C61_0 cal k v0 H n := by
  have h : bodyE P cal A (k + 1) 61 [v0] H n = B61_0 cal k (fun u5 u23 u24 u25 H n => labK (E61_1 cal k k) (Tr.set (Tr.set (Tr.set (Tr.set Tr.nil 25 (some u25)) 24 (some u24)) 23 (some u23)) 5 (some u5)) H n []) v0 H n := by
    rw [body_eq (fn := Go.Proofs.Try.f61) (c := code61) (rs := results61) (by kernel_rfl) (by kernel_rfl) (by kernel_rfl) (by kernel_rfl)]
    kernel_rfl
  rw [h, C61_0]
  have e1 : (fun u5 u23 u24 u25 H n => labK (E61_1 cal k k) (Tr.set (Tr.set (Tr.set (Tr.set Tr.nil 25 (some u25)) 24 (some u24)) 23 (some u23)) 5 (some u5)) H n []) = (S61_1 cal k k) := by funext u5 u23 u24 u25 H n; exact q61_1 ..
  rw [e1]
noncomputable def code62 : Code := codeOf 62
noncomputable def results62 : List ResultVar := resOf 62
noncomputable def K62_p (cal : Cal) (k : Nat) : KC (Value × Hp × Nat) := (cutK (A 62).c (codeE P cal (codeF P cal k) none 62 (cR code62) (Lv.b (A 62)) (doneK P results62) X0 (doneK P results62)))
noncomputable def K62_pr (cal : Cal) (k : Nat) : KC (Value × Hp × Nat) := (cutK (Lv.b (A 62)).c (codeE P cal (codeF P cal k) none 62 (cR (cR code62)) (Lv.b (Lv.b (A 62))) (doneK P results62) X0 (doneK P results62)))
noncomputable def B62_0 (cal : Cal) (k : Nat) (v0 : Value) (H : Hp) (n : Nat) : Res :=
boxK 113 v0 H n fun v1_1 H_2 n_3 =>
bindO (addrV v1_1) fun a_5 => bindO (loadV P H_2 113 a_5) fun v_6 =>
bindO (addrV v1_1) fun a_7 => bindO (loadV P H_2 113 a_7) fun v_8 =>
bindO (fieldAddrV P 113 v1_1 0) fun v8_9 =>
bindO (addrV v8_9) fun a_10 => bindO (loadV P H_2 3 a_10) fun v_11 =>
effK P [(.l 3 a_10), (.l 113 a_7)] H_2 n_3 (fun H_12 n_13 k_14 =>
callFK P cal 98 [v_6, (Value.func (.func 72) #[] #[])] H_12 n_13 fun v4_18 H_19 n_20 =>
k_14 v4_18 H_19 n_20) fun v_15 H_16 n_17 =>
effK P [(.l 3 a_10)] H_16 n_17 (fun H_21 n_22 k_23 =>
callFK P cal 98 [v_8, (Value.func (.func 73) #[] #[])] H_21 n_22 fun v6_27 H_28 n_29 =>
k_23 v6_27 H_28 n_29) fun v_24 H_25 n_26 =>
bindO (buildP P 53 [(0, v_15), (1, v_24)]) fun v7_30 =>
callFK P cal 99 [v7_30, v_11] H_25 n_26 fun v10_31 H_32 n_33 =>
some (v10_31, H_32, n_33)
noncomputable def C62_0 (cal : Cal) (k : Nat) (v0 : Value) (H : Hp) (n : Nat) : Res := B62_0 cal k v0 H n
theorem h62_0 (cal : Cal) (k : Nat) (v0 : Value) (H : Hp) (n : Nat) : bodyE P cal A (k + 1) 62 [v0] H n = C62_0 cal k v0 H n := by
  have h : bodyE P cal A (k + 1) 62 [v0] H n = B62_0 cal k v0 H n := by
    rw [body_eq (fn := Go.Proofs.Try.f62) (c := code62) (rs := results62) (by kernel_rfl) (by kernel_rfl) (by kernel_rfl) (by kernel_rfl)]
    kernel_rfl
  rw [h, C62_0]
end Go.Proofs.Ytakjjillnllocaa.G
