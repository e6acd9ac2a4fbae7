/- The table of all texts. -/
import Derived.Test.YtakjjillnllocabP2
import Derived.Test.YtakjjillnllocabP3
import Derived.Test.YtakjjillnllocabP4
import Derived.Test.YtakjjillnllocabP5
import Derived.Test.YtakjjillnllocabP6
import Derived.Test.YtakjjillnllocabP7
import Derived.Test.YtakjjillnllocabP8
import Derived.Test.YtakjjillnllocabP9
open Go Go.Ev
set_option maxRecDepth 1000000
set_option linter.unusedVariables false
noncomputable section
namespace Go.Proofs.Ytakjjillnllocab.P
noncomputable def KK : Nat := 4000
theorem tbl_nil (F : Nat) : TblOk P A F ((Tr.nil : Tr (Cal → List Value → Hp → Nat → Res)).get) := by
  intro f S h
  rw [Tr.get_nil] at h
  cases h
theorem tbl_set {F : Nat} {t : Tr (Cal → List Value → Hp → Nat → Res)} {f : Nat} {S : Cal → List Value → Hp → Nat → Res} (ht : TblOk P A F t.get)
    (h : ∀ cal args H n r, S cal args H n = some r → bodyE P cal A F f args H n = some r) : TblOk P A F (t.set f (some S)).get := by
  intro g S' e
  rw [Tr.get_set] at e
  split at e
  · rename_i e1
    cases e
    rw [e1]
    exact h
  · exact ht g S' e
/-! Arguments that are plain data are reckoned ahead, so that the kernel finds a call again that it knows. -/
section
variable {ρ : Type}
noncomputable def forceN (n : Nat) (k : Nat → ρ) : ρ := Nat.rec (motive := fun _ => ρ) (k 0) (fun m _ => k (Nat.succ m)) n
theorem forceN_eq (n : Nat) (k : Nat → ρ) : forceN n k = k n := by cases n <;> rfl
noncomputable def forceI (i : Int) (k : Int → ρ) : ρ := Int.rec (motive := fun _ => ρ) (fun n => forceN n fun n => k (.ofNat n)) (fun n => forceN n fun n => k (.negSucc n)) i
theorem forceI_eq (i : Int) (k : Int → ρ) : forceI i k = k i := by cases i <;> simp [forceI, forceN_eq]
noncomputable def forceV1 (v : Value) (k : Value → ρ) : ρ := match v with
  | .int kd i => forceI i fun i => k (.int kd i)
  | .bool true => k (.bool true)
  | .bool false => k (.bool false)
  | v => k v
theorem forceV1_eq (v : Value) (k : Value → ρ) : forceV1 v k = k v := by
  unfold forceV1
  split
  · rw [forceI_eq]
  · rfl
  · rfl
  · rfl
noncomputable def forceL : List Value → (List Value → ρ) → ρ
  | [], k => k []
  | v :: l, k => forceV1 v fun v => forceL l fun l => k (v :: l)
theorem forceL_eq : ∀ (l : List Value) (k : List Value → ρ), forceL l k = k l
  | [], k => rfl
  | v :: l, k => by simp only [forceL, forceV1_eq, forceL_eq l]
noncomputable def forceV (v : Value) (k : Value → ρ) : ρ := match v with
  | .agg ⟨l⟩ => forceL l fun l => k (.agg ⟨l⟩)
  | v => forceV1 v k
theorem forceV_eq (v : Value) (k : Value → ρ) : forceV v k = k v := by
  unfold forceV
  split
  · rw [forceL_eq]
  · rw [forceV1_eq]
noncomputable def forceA : List Value → (List Value → ρ) → ρ
  | [], k => k []
  | v :: l, k => forceV v fun v => forceA l fun l => k (v :: l)
theorem forceA_eq : ∀ (l : List Value) (k : List Value → ρ), forceA l k = k l
  | [], k => rfl
  | v :: l, k => by simp only [forceA, forceV_eq, forceA_eq l]
noncomputable def memoR (r : Option ρ) : Option ρ := Option.rec (motive := fun _ => Option ρ) none (fun x => some x) r
theorem memoR_eq (r : Option ρ) : memoR r = r := by cases r <;> rfl
end
noncomputable def quick (S : Cal → List Value → Hp → Nat → Res) (cal : Cal) (args : List Value) (H : Hp) (n : Nat) : Res := forceA args fun a => memoR (S cal a H n)
theorem quick_eq (S : Cal → List Value → Hp → Nat → Res) (cal : Cal) (args : List Value) (H : Hp) (n : Nat) : quick S cal args H n = S cal args H n := by
  unfold quick
  rw [forceA_eq, memoR_eq]
theorem quick_ok {F f : Nat} {S : Cal → List Value → Hp → Nat → Res} (h : ∀ cal args H n r, S cal args H n = some r → bodyE P cal A F f args H n = some r) :
    ∀ cal args H n r, quick S cal args H n = some r → bodyE P cal A F f args H n = some r := by
  intro cal args H n r e
  rw [quick_eq] at e
  exact h cal args H n r e
noncomputable def ent4 (cal : Cal) (args : List Value) (H : Hp) (n : Nat) : Res := match args with
  | [v0, v1, v2] => C4_0 cal KK v0 v1 v2 H n
  | _ => none
theorem ok4 (cal : Cal) (args : List Value) (H : Hp) (n : Nat) (r : Value × Hp × Nat) (e : ent4 cal args H n = some r) : bodyE P cal A (KK + 1) 4 args H n = some r := by
  unfold ent4 at e
  split at e
  · exact (h4_0 ..).trans e
  · cases e
noncomputable def ent5 (cal : Cal) (args : List Value) (H : Hp) (n : Nat) : Res := match args with
  | [] => C5_0 cal KK  H n
  | _ => none
theorem ok5 (cal : Cal) (args : List Value) (H : Hp) (n : Nat) (r : Value × Hp × Nat) (e : ent5 cal args H n = some r) : bodyE P cal A (KK + 1) 5 args H n = some r := by
  unfold ent5 at e
  split at e
  · exact (h5_0 ..).trans e
  · cases e
noncomputable def ent6 (cal : Cal) (args : List Value) (H : Hp) (n : Nat) : Res := match args with
  | [v0, v1] => C6_0 cal KK v0 v1 H n
  | _ => none
theorem ok6 (cal : Cal) (args : List Value) (H : Hp) (n : Nat) (r : Value × Hp × Nat) (e : ent6 cal args H n = some r) : bodyE P cal A (KK + 1) 6 args H n = some r := by
  unfold ent6 at e
  split at e
  · exact (h6_0 ..).trans e
  · cases e
noncomputable def ent7 (cal : Cal) (args : List Value) (H : Hp) (n : Nat) : Res := match args with
  | [v0, v1] => C7_0 cal KK v0 v1 H n
  | _ => none
theorem ok7 (cal : Cal) (args : List Value) (H : Hp) (n : Nat) (r : Value × Hp × Nat) (e : ent7 cal args H n = some r) : bodyE P cal A (KK + 1) 7 args H n = some r := by
  unfold ent7 at e
  split at e
  · exact (h7_0 ..).trans e
  · cases e
noncomputable def ent8 (cal : Cal) (args : List Value) (H : Hp) (n : Nat) : Res := match args with
  | [v0, v1, v2] => C8_0 cal KK v0 v1 v2 H n
  | _ => none
theorem ok8 (cal : Cal) (args : List Value) (H : Hp) (n : Nat) (r : Value × Hp × Nat) (e : ent8 cal args H n = some r) : bodyE P cal A (KK + 1) 8 args H n = some r := by
  unfold ent8 at e
  split at e
  · exact (h8_0 ..).trans e
  · cases e
noncomputable def ent9 (cal : Cal) (args : List Value) (H : Hp) (n : Nat) : Res := match args with
  | [] => C9_0 cal KK  H n
  | _ => none
theorem ok9 (cal : Cal) (args : List Value) (H : Hp) (n : Nat) (r : Value × Hp × Nat) (e : ent9 cal args H n = some r) : bodyE P cal A (KK + 1) 9 args H n = some r := by
  unfold ent9 at e
  split at e
  · exact (h9_0 ..).trans e
  · cases e
noncomputable def ent10 (cal : Cal) (args : List Value) (H : Hp) (n : Nat) : Res := match args with
  | [v0, v1, v2, v3] => C10_0 cal KK v0 v1 v2 v3 H n
  | _ => none
theorem ok10 (cal : Cal) (args : List Value) (H : Hp) (n : Nat) (r : Value × Hp × Nat) (e : ent10 cal args H n = some r) : bodyE P cal A (KK + 1) 10 args H n = some r := by
  unfold ent10 at e
  split at e
  · exact (h10_0 ..).trans e
  · cases e
noncomputable def ent11 (cal : Cal) (args : List Value) (H : Hp) (n : Nat) : Res := match args with
  | [v0, v1] => C11_0 cal KK v0 v1 H n
  | _ => none
theorem ok11 (cal : Cal) (args : List Value) (H : Hp) (n : Nat) (r : Value × Hp × Nat) (e : ent11 cal args H n = some r) : bodyE P cal A (KK + 1) 11 args H n = some r := by
  unfold ent11 at e
  split at e
  · exact (h11_0 ..).trans e
  · cases e
noncomputable def ent12 (cal : Cal) (args : List Value) (H : Hp) (n : Nat) : Res := match args with
  | [v0, v1] => C12_0 cal KK v0 v1 H n
  | _ => none
theorem ok12 (cal : Cal) (args : List Value) (H : Hp) (n : Nat) (r : Value × Hp × Nat) (e : ent12 cal args H n = some r) : bodyE P cal A (KK + 1) 12 args H n = some r := by
  unfold ent12 at e
  split at e
  · exact (h12_0 ..).trans e
  · cases e
noncomputable def ent13 (cal : Cal) (args : List Value) (H : Hp) (n : Nat) : Res := match args with
  | [v0] => C13_0 cal KK v0 H n
  | _ => none
theorem ok13 (cal : Cal) (args : List Value) (H : Hp) (n : Nat) (r : Value × Hp × Nat) (e : ent13 cal args H n = some r) : bodyE P cal A (KK + 1) 13 args H n = some r := by
  unfold ent13 at e
  split at e
  · exact (h13_0 ..).trans e
  · cases e
noncomputable def ent14 (cal : Cal) (args : List Value) (H : Hp) (n : Nat) : Res := match args with
  | [] => C14_0 cal KK  H n
  | _ => none
theorem ok14 (cal : Cal) (args : List Value) (H : Hp) (n : Nat) (r : Value × Hp × Nat) (e : ent14 cal args H n = some r) : bodyE P cal A (KK + 1) 14 args H n = some r := by
  unfold ent14 at e
  split at e
  · exact (h14_0 ..).trans e
  · cases e
noncomputable def ent15 (cal : Cal) (args : List Value) (H : Hp) (n : Nat) : Res := match args with
  | [v0] => C15_0 cal KK v0 H n
  | _ => none
theorem ok15 (cal : Cal) (args : List Value) (H : Hp) (n : Nat) (r : Value × Hp × Nat) (e : ent15 cal args H n = some r) : bodyE P cal A (KK + 1) 15 args H n = some r := by
  unfold ent15 at e
  split at e
  · exact (h15_0 ..).trans e
  · cases e
noncomputable def ent16 (cal : Cal) (args : List Value) (H : Hp) (n : Nat) : Res := match args with
  | [v0, v1, v2] => C16_0 cal KK v0 v1 v2 H n
  | _ => none
theorem ok16 (cal : Cal) (args : List Value) (H : Hp) (n : Nat) (r : Value × Hp × Nat) (e : ent16 cal args H n = some r) : bodyE P cal A (KK + 1) 16 args H n = some r := by
  unfold ent16 at e
  split at e
  · exact (h16_0 ..).trans e
  · cases e
noncomputable def ent17 (cal : Cal) (args : List Value) (H : Hp) (n : Nat) : Res := match args with
  | [v0] => C17_0 cal KK v0 H n
  | _ => none
theorem ok17 (cal : Cal) (args : List Value) (H : Hp) (n : Nat) (r : Value × Hp × Nat) (e : ent17 cal args H n = some r) : bodyE P cal A (KK + 1) 17 args H n = some r := by
  unfold ent17 at e
  split at e
  · exact (h17_0 ..).trans e
  · cases e
noncomputable def ent18 (cal : Cal) (args : List Value) (H : Hp) (n : Nat) : Res := match args with
  | [v0, v1] => C18_0 cal KK v0 v1 H n
  | _ => none
theorem ok18 (cal : Cal) (args : List Value) (H : Hp) (n : Nat) (r : Value × Hp × Nat) (e : ent18 cal args H n = some r) : bodyE P cal A (KK + 1) 18 args H n = some r := by
  unfold ent18 at e
  split at e
  · exact (h18_0 ..).trans e
  · cases e
noncomputable def ent19 (cal : Cal) (args : List Value) (H : Hp) (n : Nat) : Res := match args with
  | [v0, v1] => C19_0 cal KK v0 v1 H n
  | _ => none
theorem ok19 (cal : Cal) (args : List Value) (H : Hp) (n : Nat) (r : Value × Hp × Nat) (e : ent19 cal args H n = some r) : bodyE P cal A (KK + 1) 19 args H n = some r := by
  unfold ent19 at e
  split at e
  · exact (h19_0 ..).trans e
  · cases e
noncomputable def ent20 (cal : Cal) (args : List Value) (H : Hp) (n : Nat) : Res := match args with
  | [v0, v1] => C20_0 cal KK v0 v1 H n
  | _ => none
theorem ok20 (cal : Cal) (args : List Value) (H : Hp) (n : Nat) (r : Value × Hp × Nat) (e : ent20 cal args H n = some r) : bodyE P cal A (KK + 1) 20 args H n = some r := by
  unfold ent20 at e
  split at e
  · exact (h20_0 ..).trans e
  · cases e
noncomputable def ent21 (cal : Cal) (args : List Value) (H : Hp) (n : Nat) : Res := match args with
  | [v0, v1] => C21_0 cal KK v0 v1 H n
  | _ => none
theorem ok21 (cal : Cal) (args : List Value) (H : Hp) (n : Nat) (r : Value × Hp × Nat) (e : ent21 cal args H n = some r) : bodyE P cal A (KK + 1) 21 args H n = some r := by
  unfold ent21 at e
  split at e
  · exact (h21_0 ..).trans e
  · cases e
noncomputable def ent22 (cal : Cal) (args : List Value) (H : Hp) (n : Nat) : Res := match args with
  | [v0] => C22_0 cal KK v0 H n
  | _ => none
theorem ok22 (cal : Cal) (args : List Value) (H : Hp) (n : Nat) (r : Value × Hp × Nat) (e : ent22 cal args H n = some r) : bodyE P cal A (KK + 1) 22 args H n = some r := by
  unfold ent22 at e
  split at e
  · exact (h22_0 ..).trans e
  · cases e
noncomputable def ent23 (cal : Cal) (args : List Value) (H : Hp) (n : Nat) : Res := match args with
  | [v0, v1, v2] => C23_0 cal KK v0 v1 v2 H n
  | _ => none
theorem ok23 (cal : Cal) (args : List Value) (H : Hp) (n : Nat) (r : Value × Hp × Nat) (e : ent23 cal args H n = some r) : bodyE P cal A (KK + 1) 23 args H n = some r := by
  unfold ent23 at e
  split at e
  · exact (h23_0 ..).trans e
  · cases e
noncomputable def ent24 (cal : Cal) (args : List Value) (H : Hp) (n : Nat) : Res := match args with
  | [v0, v1] => C24_0 cal KK v0 v1 H n
  | _ => none
theorem ok24 (cal : Cal) (args : List Value) (H : Hp) (n : Nat) (r : Value × Hp × Nat) (e : ent24 cal args H n = some r) : bodyE P cal A (KK + 1) 24 args H n = some r := by
  unfold ent24 at e
  split at e
  · exact (h24_0 ..).trans e
  · cases e
noncomputable def ent25 (cal : Cal) (args : List Value) (H : Hp) (n : Nat) : Res := match args with
  | [v0, v1] => C25_0 cal KK v0 v1 H n
  | _ => none
theorem ok25 (cal : Cal) (args : List Value) (H : Hp) (n : Nat) (r : Value × Hp × Nat) (e : ent25 cal args H n = some r) : bodyE P cal A (KK + 1) 25 args H n = some r := by
  unfold ent25 at e
  split at e
  · exact (h25_0 ..).trans e
  · cases e
noncomputable def ent26 (cal : Cal) (args : List Value) (H : Hp) (n : Nat) : Res := match args with
  | [v0, v1] => C26_0 cal KK v0 v1 H n
  | _ => none
theorem ok26 (cal : Cal) (args : List Value) (H : Hp) (n : Nat) (r : Value × Hp × Nat) (e : ent26 cal args H n = some r) : bodyE P cal A (KK + 1) 26 args H n = some r := by
  unfold ent26 at e
  split at e
  · exact (h26_0 ..).trans e
  · cases e
noncomputable def ent27 (cal : Cal) (args : List Value) (H : Hp) (n : Nat) : Res := match args with
  | [v0] => C27_0 cal KK v0 H n
  | _ => none
theorem ok27 (cal : Cal) (args : List Value) (H : Hp) (n : Nat) (r : Value × Hp × Nat) (e : ent27 cal args H n = some r) : bodyE P cal A (KK + 1) 27 args H n = some r := by
  unfold ent27 at e
  split at e
  · exact (h27_0 ..).trans e
  · cases e
noncomputable def ent28 (cal : Cal) (args : List Value) (H : Hp) (n : Nat) : Res := match args with
  | [v0] => C28_0 cal KK v0 H n
  | _ => none
theorem ok28 (cal : Cal) (args : List Value) (H : Hp) (n : Nat) (r : Value × Hp × Nat) (e : ent28 cal args H n = some r) : bodyE P cal A (KK + 1) 28 args H n = some r := by
  unfold ent28 at e
  split at e
  · exact (h28_0 ..).trans e
  · cases e
noncomputable def ent29 (cal : Cal) (args : List Value) (H : Hp) (n : Nat) : Res := match args with
  | [v0] => C29_0 cal KK v0 H n
  | _ => none
theorem ok29 (cal : Cal) (args : List Value) (H : Hp) (n : Nat) (r : Value × Hp × Nat) (e : ent29 cal args H n = some r) : bodyE P cal A (KK + 1) 29 args H n = some r := by
  unfold ent29 at e
  split at e
  · exact (h29_0 ..).trans e
  · cases e
noncomputable def ent30 (cal : Cal) (args : List Value) (H : Hp) (n : Nat) : Res := match args with
  | [v0, v1] => C30_0 cal KK v0 v1 H n
  | _ => none
theorem ok30 (cal : Cal) (args : List Value) (H : Hp) (n : Nat) (r : Value × Hp × Nat) (e : ent30 cal args H n = some r) : bodyE P cal A (KK + 1) 30 args H n = some r := by
  unfold ent30 at e
  split at e
  · exact (h30_0 ..).trans e
  · cases e
noncomputable def ent31 (cal : Cal) (args : List Value) (H : Hp) (n : Nat) : Res := match args with
  | [v0, v1, v2, v3, v4, v5, v6] => C31_0 cal KK v0 v1 v2 v3 v4 v5 v6 H n
  | _ => none
theorem ok31 (cal : Cal) (args : List Value) (H : Hp) (n : Nat) (r : Value × Hp × Nat) (e : ent31 cal args H n = some r) : bodyE P cal A (KK + 1) 31 args H n = some r := by
  unfold ent31 at e
  split at e
  · exact (h31_0 ..).trans e
  · cases e
noncomputable def ent32 (cal : Cal) (args : List Value) (H : Hp) (n : Nat) : Res := match args with
  | [v0] => C32_0 cal KK v0 H n
  | _ => none
theorem ok32 (cal : Cal) (args : List Value) (H : Hp) (n : Nat) (r : Value × Hp × Nat) (e : ent32 cal args H n = some r) : bodyE P cal A (KK + 1) 32 args H n = some r := by
  unfold ent32 at e
  split at e
  · exact (h32_0 ..).trans e
  · cases e
noncomputable def ent33 (cal : Cal) (args : List Value) (H : Hp) (n : Nat) : Res := match args with
  | [v0] => C33_0 cal KK v0 H n
  | _ => none
theorem ok33 (cal : Cal) (args : List Value) (H : Hp) (n : Nat) (r : Value × Hp × Nat) (e : ent33 cal args H n = some r) : bodyE P cal A (KK + 1) 33 args H n = some r := by
  unfold ent33 at e
  split at e
  · exact (h33_0 ..).trans e
  · cases e
noncomputable def ent35 (cal : Cal) (args : List Value) (H : Hp) (n : Nat) : Res := match args with
  | [v0, v1] => C35_0 cal KK v0 v1 H n
  | _ => none
theorem ok35 (cal : Cal) (args : List Value) (H : Hp) (n : Nat) (r : Value × Hp × Nat) (e : ent35 cal args H n = some r) : bodyE P cal A (KK + 1) 35 args H n = some r := by
  unfold ent35 at e
  split at e
  · exact (h35_0 ..).trans e
  · cases e
noncomputable def ent36 (cal : Cal) (args : List Value) (H : Hp) (n : Nat) : Res := match args with
  | [v0] => C36_0 cal KK v0 H n
  | _ => none
theorem ok36 (cal : Cal) (args : List Value) (H : Hp) (n : Nat) (r : Value × Hp × Nat) (e : ent36 cal args H n = some r) : bodyE P cal A (KK + 1) 36 args H n = some r := by
  unfold ent36 at e
  split at e
  · exact (h36_0 ..).trans e
  · cases e
noncomputable def ent37 (cal : Cal) (args : List Value) (H : Hp) (n : Nat) : Res := match args with
  | [v0, v1] => C37_0 cal KK v0 v1 H n
  | _ => none
theorem ok37 (cal : Cal) (args : List Value) (H : Hp) (n : Nat) (r : Value × Hp × Nat) (e : ent37 cal args H n = some r) : bodyE P cal A (KK + 1) 37 args H n = some r := by
  unfold ent37 at e
  split at e
  · exact (h37_0 ..).trans e
  · cases e
noncomputable def ent38 (cal : Cal) (args : List Value) (H : Hp) (n : Nat) : Res := match args with
  | [v0, v1] => C38_0 cal KK v0 v1 H n
  | _ => none
theorem ok38 (cal : Cal) (args : List Value) (H : Hp) (n : Nat) (r : Value × Hp × Nat) (e : ent38 cal args H n = some r) : bodyE P cal A (KK + 1) 38 args H n = some r := by
  unfold ent38 at e
  split at e
  · exact (h38_0 ..).trans e
  · cases e
noncomputable def ent39 (cal : Cal) (args : List Value) (H : Hp) (n : Nat) : Res := match args with
  | [v0] => C39_0 cal KK v0 H n
  | _ => none
theorem ok39 (cal : Cal) (args : List Value) (H : Hp) (n : Nat) (r : Value × Hp × Nat) (e : ent39 cal args H n = some r) : bodyE P cal A (KK + 1) 39 args H n = some r := by
  unfold ent39 at e
  split at e
  · exact (h39_0 ..).trans e
  · cases e
noncomputable def ent40 (cal : Cal) (args : List Value) (H : Hp) (n : Nat) : Res := match args with
  | [v0, v1] => C40_0 cal KK v0 v1 H n
  | _ => none
theorem ok40 (cal : Cal) (args : List Value) (H : Hp) (n : Nat) (r : Value × Hp × Nat) (e : ent40 cal args H n = some r) : bodyE P cal A (KK + 1) 40 args H n = some r := by
  unfold ent40 at e
  split at e
  · exact (h40_0 ..).trans e
  · cases e
noncomputable def ent41 (cal : Cal) (args : List Value) (H : Hp) (n : Nat) : Res := match args with
  | [v0, v1] => C41_0 cal KK v0 v1 H n
  | _ => none
theorem ok41 (cal : Cal) (args : List Value) (H : Hp) (n : Nat) (r : Value × Hp × Nat) (e : ent41 cal args H n = some r) : bodyE P cal A (KK + 1) 41 args H n = some r := by
  unfold ent41 at e
  split at e
  · exact (h41_0 ..).trans e
  · cases e
noncomputable def ent42 (cal : Cal) (args : List Value) (H : Hp) (n : Nat) : Res := match args with
  | [v0, v1] => C42_0 cal KK v0 v1 H n
  | _ => none
theorem ok42 (cal : Cal) (args : List Value) (H : Hp) (n : Nat) (r : Value × Hp × Nat) (e : ent42 cal args H n = some r) : bodyE P cal A (KK + 1) 42 args H n = some r := by
  unfold ent42 at e
  split at e
  · exact (h42_0 ..).trans e
  · cases e
noncomputable def ent43 (cal : Cal) (args : List Value) (H : Hp) (n : Nat) : Res := match args with
  | [v0, v1] => C43_0 cal KK v0 v1 H n
  | _ => none
theorem ok43 (cal : Cal) (args : List Value) (H : Hp) (n : Nat) (r : Value × Hp × Nat) (e : ent43 cal args H n = some r) : bodyE P cal A (KK + 1) 43 args H n = some r := by
  unfold ent43 at e
  split at e
  · exact (h43_0 ..).trans e
  · cases e
noncomputable def ent45 (cal : Cal) (args : List Value) (H : Hp) (n : Nat) : Res := match args with
  | [v0, v1] => C45_0 cal KK v0 v1 H n
  | _ => none
theorem ok45 (cal : Cal) (args : List Value) (H : Hp) (n : Nat) (r : Value × Hp × Nat) (e : ent45 cal args H n = some r) : bodyE P cal A (KK + 1) 45 args H n = some r := by
  unfold ent45 at e
  split at e
  · exact (h45_0 ..).trans e
  · cases e
noncomputable def ent46 (cal : Cal) (args : List Value) (H : Hp) (n : Nat) : Res := match args with
  | [v0, v1, v2, v3] => C46_0 cal KK v0 v1 v2 v3 H n
  | _ => none
theorem ok46 (cal : Cal) (args : List Value) (H : Hp) (n : Nat) (r : Value × Hp × Nat) (e : ent46 cal args H n = some r) : bodyE P cal A (KK + 1) 46 args H n = some r := by
  unfold ent46 at e
  split at e
  · exact (h46_0 ..).trans e
  · cases e
noncomputable def ent47 (cal : Cal) (args : List Value) (H : Hp) (n : Nat) : Res := match args with
  | [v0, v1] => C47_0 cal KK v0 v1 H n
  | _ => none
theorem ok47 (cal : Cal) (args : List Value) (H : Hp) (n : Nat) (r : Value × Hp × Nat) (e : ent47 cal args H n = some r) : bodyE P cal A (KK + 1) 47 args H n = some r := by
  unfold ent47 at e
  split at e
  · exact (h47_0 ..).trans e
  · cases e
noncomputable def ent48 (cal : Cal) (args : List Value) (H : Hp) (n : Nat) : Res := match args with
  | [v0] => C48_0 cal KK v0 H n
  | _ => none
theorem ok48 (cal : Cal) (args : List Value) (H : Hp) (n : Nat) (r : Value × Hp × Nat) (e : ent48 cal args H n = some r) : bodyE P cal A (KK + 1) 48 args H n = some r := by
  unfold ent48 at e
  split at e
  · exact (h48_0 ..).trans e
  · cases e
noncomputable def ent49 (cal : Cal) (args : List Value) (H : Hp) (n : Nat) : Res := match args with
  | [v0, v1] => C49_0 cal KK v0 v1 H n
  | _ => none
theorem ok49 (cal : Cal) (args : List Value) (H : Hp) (n : Nat) (r : Value × Hp × Nat) (e : ent49 cal args H n = some r) : bodyE P cal A (KK + 1) 49 args H n = some r := by
  unfold ent49 at e
  split at e
  · exact (h49_0 ..).trans e
  · cases e
noncomputable def ent50 (cal : Cal) (args : List Value) (H : Hp) (n : Nat) : Res := match args with
  | [v0] => C50_0 cal KK v0 H n
  | _ => none
theorem ok50 (cal : Cal) (args : List Value) (H : Hp) (n : Nat) (r : Value × Hp × Nat) (e : ent50 cal args H n = some r) : bodyE P cal A (KK + 1) 50 args H n = some r := by
  unfold ent50 at e
  split at e
  · exact (h50_0 ..).trans e
  · cases e
noncomputable def ent51 (cal : Cal) (args : List Value) (H : Hp) (n : Nat) : Res := match args with
  | [v0] => C51_0 cal KK v0 H n
  | _ => none
theorem ok51 (cal : Cal) (args : List Value) (H : Hp) (n : Nat) (r : Value × Hp × Nat) (e : ent51 cal args H n = some r) : bodyE P cal A (KK + 1) 51 args H n = some r := by
  unfold ent51 at e
  split at e
  · exact (h51_0 ..).trans e
  · cases e
noncomputable def ent52 (cal : Cal) (args : List Value) (H : Hp) (n : Nat) : Res := match args with
  | [v0, v1] => C52_0 cal KK v0 v1 H n
  | _ => none
theorem ok52 (cal : Cal) (args : List Value) (H : Hp) (n : Nat) (r : Value × Hp × Nat) (e : ent52 cal args H n = some r) : bodyE P cal A (KK + 1) 52 args H n = some r := by
  unfold ent52 at e
  split at e
  · exact (h52_0 ..).trans e
  · cases e
noncomputable def ent53 (cal : Cal) (args : List Value) (H : Hp) (n : Nat) : Res := match args with
  | [] => C53_0 cal KK  H n
  | _ => none
theorem ok53 (cal : Cal) (args : List Value) (H : Hp) (n : Nat) (r : Value × Hp × Nat) (e : ent53 cal args H n = some r) : bodyE P cal A (KK + 1) 53 args H n = some r := by
  unfold ent53 at e
  split at e
  · exact (h53_0 ..).trans e
  · cases e
noncomputable def ent54 (cal : Cal) (args : List Value) (H : Hp) (n : Nat) : Res := match args with
  | [v0, v1, v2] => C54_0 cal KK v0 v1 v2 H n
  | _ => none
theorem ok54 (cal : Cal) (args : List Value) (H : Hp) (n : Nat) (r : Value × Hp × Nat) (e : ent54 cal args H n = some r) : bodyE P cal A (KK + 1) 54 args H n = some r := by
  unfold ent54 at e
  split at e
  · exact (h54_0 ..).trans e
  · cases e
noncomputable def ent55 (cal : Cal) (args : List Value) (H : Hp) (n : Nat) : Res := match args with
  | [v0, v1] => C55_0 cal KK v0 v1 H n
  | _ => none
theorem ok55 (cal : Cal) (args : List Value) (H : Hp) (n : Nat) (r : Value × Hp × Nat) (e : ent55 cal args H n = some r) : bodyE P cal A (KK + 1) 55 args H n = some r := by
  unfold ent55 at e
  split at e
  · exact (h55_0 ..).trans e
  · cases e
noncomputable def ent56 (cal : Cal) (args : List Value) (H : Hp) (n : Nat) : Res := match args with
  | [v0] => C56_0 cal KK v0 H n
  | _ => none
theorem ok56 (cal : Cal) (args : List Value) (H : Hp) (n : Nat) (r : Value × Hp × Nat) (e : ent56 cal args H n = some r) : bodyE P cal A (KK + 1) 56 args H n = some r := by
  unfold ent56 at e
  split at e
  · exact (h56_0 ..).trans e
  · cases e
noncomputable def ent57 (cal : Cal) (args : List Value) (H : Hp) (n : Nat) : Res := match args with
  | [v0] => C57_0 cal KK v0 H n
  | _ => none
theorem ok57 (cal : Cal) (args : List Value) (H : Hp) (n : Nat) (r : Value × Hp × Nat) (e : ent57 cal args H n = some r) : bodyE P cal A (KK + 1) 57 args H n = some r := by
  unfold ent57 at e
  split at e
  · exact (h57_0 ..).trans e
  · cases e
noncomputable def ent58 (cal : Cal) (args : List Value) (H : Hp) (n : Nat) : Res := match args with
  | [v0] => C58_0 cal KK v0 H n
  | _ => none
theorem ok58 (cal : Cal) (args : List Value) (H : Hp) (n : Nat) (r : Value × Hp × Nat) (e : ent58 cal args H n = some r) : bodyE P cal A (KK + 1) 58 args H n = some r := by
  unfold ent58 at e
  split at e
  · exact (h58_0 ..).trans e
  · cases e
noncomputable def ent59 (cal : Cal) (args : List Value) (H : Hp) (n : Nat) : Res := match args with
  | [v0] => C59_0 cal KK v0 H n
  | _ => none
theorem ok59 (cal : Cal) (args : List Value) (H : Hp) (n : Nat) (r : Value × Hp × Nat) (e : ent59 cal args H n = some r) : bodyE P cal A (KK + 1) 59 args H n = some r := by
  unfold ent59 at e
  split at e
  · exact (h59_0 ..).trans e
  · cases e
noncomputable def ent60 (cal : Cal) (args : List Value) (H : Hp) (n : Nat) : Res := match args with
  | [v0] => C60_0 cal KK v0 H n
  | _ => none
theorem ok60 (cal : Cal) (args : List Value) (H : Hp) (n : Nat) (r : Value × Hp × Nat) (e : ent60 cal args H n = some r) : bodyE P cal A (KK + 1) 60 args H n = some r := by
  unfold ent60 at e
  split at e
  · exact (h60_0 ..).trans e
  · cases e
noncomputable def ent61 (cal : Cal) (args : List Value) (H : Hp) (n : Nat) : Res := match args with
  | [v0] => C61_0 cal KK v0 H n
  | _ => none
theorem ok61 (cal : Cal) (args : List Value) (H : Hp) (n : Nat) (r : Value × Hp × Nat) (e : ent61 cal args H n = some r) : bodyE P cal A (KK + 1) 61 args H n = some r := by
  unfold ent61 at e
  split at e
  · exact (h61_0 ..).trans e
  · cases e
noncomputable def ent62 (cal : Cal) (args : List Value) (H : Hp) (n : Nat) : Res := match args with
  | [v0, v1, v2, v3, v4] => C62_0 cal KK v0 v1 v2 v3 v4 H n
  | _ => none
theorem ok62 (cal : Cal) (args : List Value) (H : Hp) (n : Nat) (r : Value × Hp × Nat) (e : ent62 cal args H n = some r) : bodyE P cal A (KK + 1) 62 args H n = some r := by
  unfold ent62 at e
  split at e
  · exact (h62_0 ..).trans e
  · cases e
noncomputable def ent63 (cal : Cal) (args : List Value) (H : Hp) (n : Nat) : Res := match args with
  | [v0] => C63_0 cal KK v0 H n
  | _ => none
theorem ok63 (cal : Cal) (args : List Value) (H : Hp) (n : Nat) (r : Value × Hp × Nat) (e : ent63 cal args H n = some r) : bodyE P cal A (KK + 1) 63 args H n = some r := by
  unfold ent63 at e
  split at e
  · exact (h63_0 ..).trans e
  · cases e
noncomputable def ent64 (cal : Cal) (args : List Value) (H : Hp) (n : Nat) : Res := match args with
  | [v0, v1] => C64_0 cal KK v0 v1 H n
  | _ => none
theorem ok64 (cal : Cal) (args : List Value) (H : Hp) (n : Nat) (r : Value × Hp × Nat) (e : ent64 cal args H n = some r) : bodyE P cal A (KK + 1) 64 args H n = some r := by
  unfold ent64 at e
  split at e
  · exact (h64_0 ..).trans e
  · cases e
noncomputable def ent65 (cal : Cal) (args : List Value) (H : Hp) (n : Nat) : Res := match args with
  | [v0, v1] => C65_0 cal KK v0 v1 H n
  | _ => none
theorem ok65 (cal : Cal) (args : List Value) (H : Hp) (n : Nat) (r : Value × Hp × Nat) (e : ent65 cal args H n = some r) : bodyE P cal A (KK + 1) 65 args H n = some r := by
  unfold ent65 at e
  split at e
  · exact (h65_0 ..).trans e
  · cases e
noncomputable def ent66 (cal : Cal) (args : List Value) (H : Hp) (n : Nat) : Res := match args with
  | [v0] => C66_0 cal KK v0 H n
  | _ => none
theorem ok66 (cal : Cal) (args : List Value) (H : Hp) (n : Nat) (r : Value × Hp × Nat) (e : ent66 cal args H n = some r) : bodyE P cal A (KK + 1) 66 args H n = some r := by
  unfold ent66 at e
  split at e
  · exact (h66_0 ..).trans e
  · cases e
noncomputable def ent67 (cal : Cal) (args : List Value) (H : Hp) (n : Nat) : Res := match args with
  | [v0, v1, v2] => C67_0 cal KK v0 v1 v2 H n
  | _ => none
theorem ok67 (cal : Cal) (args : List Value) (H : Hp) (n : Nat) (r : Value × Hp × Nat) (e : ent67 cal args H n = some r) : bodyE P cal A (KK + 1) 67 args H n = some r := by
  unfold ent67 at e
  split at e
  · exact (h67_0 ..).trans e
  · cases e
noncomputable def ent68 (cal : Cal) (args : List Value) (H : Hp) (n : Nat) : Res := match args with
  | [v0] => C68_0 cal KK v0 H n
  | _ => none
theorem ok68 (cal : Cal) (args : List Value) (H : Hp) (n : Nat) (r : Value × Hp × Nat) (e : ent68 cal args H n = some r) : bodyE P cal A (KK + 1) 68 args H n = some r := by
  unfold ent68 at e
  split at e
  · exact (h68_0 ..).trans e
  · cases e
noncomputable def ent69 (cal : Cal) (args : List Value) (H : Hp) (n : Nat) : Res := match args with
  | [v0] => C69_0 cal KK v0 H n
  | _ => none
theorem ok69 (cal : Cal) (args : List Value) (H : Hp) (n : Nat) (r : Value × Hp × Nat) (e : ent69 cal args H n = some r) : bodyE P cal A (KK + 1) 69 args H n = some r := by
  unfold ent69 at e
  split at e
  · exact (h69_0 ..).trans e
  · cases e
noncomputable def ent70 (cal : Cal) (args : List Value) (H : Hp) (n : Nat) : Res := match args with
  | [v0, v1] => C70_0 cal KK v0 v1 H n
  | _ => none
theorem ok70 (cal : Cal) (args : List Value) (H : Hp) (n : Nat) (r : Value × Hp × Nat) (e : ent70 cal args H n = some r) : bodyE P cal A (KK + 1) 70 args H n = some r := by
  unfold ent70 at e
  split at e
  · exact (h70_0 ..).trans e
  · cases e
noncomputable def ent71 (cal : Cal) (args : List Value) (H : Hp) (n : Nat) : Res := match args with
  | [v0, v1] => C71_0 cal KK v0 v1 H n
  | _ => none
theorem ok71 (cal : Cal) (args : List Value) (H : Hp) (n : Nat) (r : Value × Hp × Nat) (e : ent71 cal args H n = some r) : bodyE P cal A (KK + 1) 71 args H n = some r := by
  unfold ent71 at e
  split at e
  · exact (h71_0 ..).trans e
  · cases e
noncomputable def ent72 (cal : Cal) (args : List Value) (H : Hp) (n : Nat) : Res := match args with
  | [v0] => C72_0 cal KK v0 H n
  | _ => none
theorem ok72 (cal : Cal) (args : List Value) (H : Hp) (n : Nat) (r : Value × Hp × Nat) (e : ent72 cal args H n = some r) : bodyE P cal A (KK + 1) 72 args H n = some r := by
  unfold ent72 at e
  split at e
  · exact (h72_0 ..).trans e
  · cases e
noncomputable def ent73 (cal : Cal) (args : List Value) (H : Hp) (n : Nat) : Res := match args with
  | [v0, v1] => C73_0 cal KK v0 v1 H n
  | _ => none
theorem ok73 (cal : Cal) (args : List Value) (H : Hp) (n : Nat) (r : Value × Hp × Nat) (e : ent73 cal args H n = some r) : bodyE P cal A (KK + 1) 73 args H n = some r := by
  unfold ent73 at e
  split at e
  · exact (h73_0 ..).trans e
  · cases e
noncomputable def ent74 (cal : Cal) (args : List Value) (H : Hp) (n : Nat) : Res := match args with
  | [v0, v1] => C74_0 cal KK v0 v1 H n
  | _ => none
theorem ok74 (cal : Cal) (args : List Value) (H : Hp) (n : Nat) (r : Value × Hp × Nat) (e : ent74 cal args H n = some r) : bodyE P cal A (KK + 1) 74 args H n = some r := by
  unfold ent74 at e
  split at e
  · exact (h74_0 ..).trans e
  · cases e
noncomputable def ent75 (cal : Cal) (args : List Value) (H : Hp) (n : Nat) : Res := match args with
  | [v0, v1] => C75_0 cal KK v0 v1 H n
  | _ => none
theorem ok75 (cal : Cal) (args : List Value) (H : Hp) (n : Nat) (r : Value × Hp × Nat) (e : ent75 cal args H n = some r) : bodyE P cal A (KK + 1) 75 args H n = some r := by
  unfold ent75 at e
  split at e
  · exact (h75_0 ..).trans e
  · cases e
noncomputable def ent76 (cal : Cal) (args : List Value) (H : Hp) (n : Nat) : Res := match args with
  | [v0] => C76_0 cal KK v0 H n
  | _ => none
theorem ok76 (cal : Cal) (args : List Value) (H : Hp) (n : Nat) (r : Value × Hp × Nat) (e : ent76 cal args H n = some r) : bodyE P cal A (KK + 1) 76 args H n = some r := by
  unfold ent76 at e
  split at e
  · exact (h76_0 ..).trans e
  · cases e
noncomputable def ent77 (cal : Cal) (args : List Value) (H : Hp) (n : Nat) : Res := match args with
  | [v0, v1, v2, v3] => C77_0 cal KK v0 v1 v2 v3 H n
  | _ => none
theorem ok77 (cal : Cal) (args : List Value) (H : Hp) (n : Nat) (r : Value × Hp × Nat) (e : ent77 cal args H n = some r) : bodyE P cal A (KK + 1) 77 args H n = some r := by
  unfold ent77 at e
  split at e
  · exact (h77_0 ..).trans e
  · cases e
noncomputable def ent78 (cal : Cal) (args : List Value) (H : Hp) (n : Nat) : Res := match args with
  | [v0, v1, v2, v3] => C78_0 cal KK v0 v1 v2 v3 H n
  | _ => none
theorem ok78 (cal : Cal) (args : List Value) (H : Hp) (n : Nat) (r : Value × Hp × Nat) (e : ent78 cal args H n = some r) : bodyE P cal A (KK + 1) 78 args H n = some r := by
  unfold ent78 at e
  split at e
  · exact (h78_0 ..).trans e
  · cases e
noncomputable def ent79 (cal : Cal) (args : List Value) (H : Hp) (n : Nat) : Res := match args with
  | [v0, v1, v2, v3] => C79_0 cal KK v0 v1 v2 v3 H n
  | _ => none
theorem ok79 (cal : Cal) (args : List Value) (H : Hp) (n : Nat) (r : Value × Hp × Nat) (e : ent79 cal args H n = some r) : bodyE P cal A (KK + 1) 79 args H n = some r := by
  unfold ent79 at e
  split at e
  · exact (h79_0 ..).trans e
  · cases e
noncomputable def ent80 (cal : Cal) (args : List Value) (H : Hp) (n : Nat) : Res := match args with
  | [v0, v1, v2, v3] => C80_0 cal KK v0 v1 v2 v3 H n
  | _ => none
theorem ok80 (cal : Cal) (args : List Value) (H : Hp) (n : Nat) (r : Value × Hp × Nat) (e : ent80 cal args H n = some r) : bodyE P cal A (KK + 1) 80 args H n = some r := by
  unfold ent80 at e
  split at e
  · exact (h80_0 ..).trans e
  · cases e
noncomputable def ent81 (cal : Cal) (args : List Value) (H : Hp) (n : Nat) : Res := match args with
  | [v0, v1, v2, v3] => C81_0 cal KK v0 v1 v2 v3 H n
  | _ => none
theorem ok81 (cal : Cal) (args : List Value) (H : Hp) (n : Nat) (r : Value × Hp × Nat) (e : ent81 cal args H n = some r) : bodyE P cal A (KK + 1) 81 args H n = some r := by
  unfold ent81 at e
  split at e
  · exact (h81_0 ..).trans e
  · cases e
noncomputable def ent82 (cal : Cal) (args : List Value) (H : Hp) (n : Nat) : Res := match args with
  | [v0, v1, v2, v3] => C82_0 cal KK v0 v1 v2 v3 H n
  | _ => none
theorem ok82 (cal : Cal) (args : List Value) (H : Hp) (n : Nat) (r : Value × Hp × Nat) (e : ent82 cal args H n = some r) : bodyE P cal A (KK + 1) 82 args H n = some r := by
  unfold ent82 at e
  split at e
  · exact (h82_0 ..).trans e
  · cases e
noncomputable def ent83 (cal : Cal) (args : List Value) (H : Hp) (n : Nat) : Res := match args with
  | [v0, v1, v2, v3, v4] => C83_0 cal KK v0 v1 v2 v3 v4 H n
  | _ => none
theorem ok83 (cal : Cal) (args : List Value) (H : Hp) (n : Nat) (r : Value × Hp × Nat) (e : ent83 cal args H n = some r) : bodyE P cal A (KK + 1) 83 args H n = some r := by
  unfold ent83 at e
  split at e
  · exact (h83_0 ..).trans e
  · cases e
noncomputable def ent84 (cal : Cal) (args : List Value) (H : Hp) (n : Nat) : Res := match args with
  | [v0, v1, v2, v3, v4] => C84_0 cal KK v0 v1 v2 v3 v4 H n
  | _ => none
theorem ok84 (cal : Cal) (args : List Value) (H : Hp) (n : Nat) (r : Value × Hp × Nat) (e : ent84 cal args H n = some r) : bodyE P cal A (KK + 1) 84 args H n = some r := by
  unfold ent84 at e
  split at e
  · exact (h84_0 ..).trans e
  · cases e
noncomputable def ent85 (cal : Cal) (args : List Value) (H : Hp) (n : Nat) : Res := match args with
  | [v0] => C85_0 cal KK v0 H n
  | _ => none
theorem ok85 (cal : Cal) (args : List Value) (H : Hp) (n : Nat) (r : Value × Hp × Nat) (e : ent85 cal args H n = some r) : bodyE P cal A (KK + 1) 85 args H n = some r := by
  unfold ent85 at e
  split at e
  · exact (h85_0 ..).trans e
  · cases e
noncomputable def ent86 (cal : Cal) (args : List Value) (H : Hp) (n : Nat) : Res := match args with
  | [v0] => C86_0 cal KK v0 H n
  | _ => none
theorem ok86 (cal : Cal) (args : List Value) (H : Hp) (n : Nat) (r : Value × Hp × Nat) (e : ent86 cal args H n = some r) : bodyE P cal A (KK + 1) 86 args H n = some r := by
  unfold ent86 at e
  split at e
  · exact (h86_0 ..).trans e
  · cases e
noncomputable def ent87 (cal : Cal) (args : List Value) (H : Hp) (n : Nat) : Res := match args with
  | [v0, v1] => C87_0 cal KK v0 v1 H n
  | _ => none
theorem ok87 (cal : Cal) (args : List Value) (H : Hp) (n : Nat) (r : Value × Hp × Nat) (e : ent87 cal args H n = some r) : bodyE P cal A (KK + 1) 87 args H n = some r := by
  unfold ent87 at e
  split at e
  · exact (h87_0 ..).trans e
  · cases e
noncomputable def ent88 (cal : Cal) (args : List Value) (H : Hp) (n : Nat) : Res := match args with
  | [v0, v1] => C88_0 cal KK v0 v1 H n
  | _ => none
theorem ok88 (cal : Cal) (args : List Value) (H : Hp) (n : Nat) (r : Value × Hp × Nat) (e : ent88 cal args H n = some r) : bodyE P cal A (KK + 1) 88 args H n = some r := by
  unfold ent88 at e
  split at e
  · exact (h88_0 ..).trans e
  · cases e
noncomputable def ent89 (cal : Cal) (args : List Value) (H : Hp) (n : Nat) : Res := match args with
  | [v0] => C89_0 cal KK v0 H n
  | _ => none
theorem ok89 (cal : Cal) (args : List Value) (H : Hp) (n : Nat) (r : Value × Hp × Nat) (e : ent89 cal args H n = some r) : bodyE P cal A (KK + 1) 89 args H n = some r := by
  unfold ent89 at e
  split at e
  · exact (h89_0 ..).trans e
  · cases e
noncomputable def ent90 (cal : Cal) (args : List Value) (H : Hp) (n : Nat) : Res := match args with
  | [v0, v1, v2, v3, v4] => C90_0 cal KK v0 v1 v2 v3 v4 H n
  | _ => none
theorem ok90 (cal : Cal) (args : List Value) (H : Hp) (n : Nat) (r : Value × Hp × Nat) (e : ent90 cal args H n = some r) : bodyE P cal A (KK + 1) 90 args H n = some r := by
  unfold ent90 at e
  split at e
  · exact (h90_0 ..).trans e
  · cases e
noncomputable def ent91 (cal : Cal) (args : List Value) (H : Hp) (n : Nat) : Res := match args with
  | [v0] => C91_0 cal KK v0 H n
  | _ => none
theorem ok91 (cal : Cal) (args : List Value) (H : Hp) (n : Nat) (r : Value × Hp × Nat) (e : ent91 cal args H n = some r) : bodyE P cal A (KK + 1) 91 args H n = some r := by
  unfold ent91 at e
  split at e
  · exact (h91_0 ..).trans e
  · cases e
noncomputable def ent92 (cal : Cal) (args : List Value) (H : Hp) (n : Nat) : Res := match args with
  | [v0] => C92_0 cal KK v0 H n
  | _ => none
theorem ok92 (cal : Cal) (args : List Value) (H : Hp) (n : Nat) (r : Value × Hp × Nat) (e : ent92 cal args H n = some r) : bodyE P cal A (KK + 1) 92 args H n = some r := by
  unfold ent92 at e
  split at e
  · exact (h92_0 ..).trans e
  · cases e
noncomputable def ent93 (cal : Cal) (args : List Value) (H : Hp) (n : Nat) : Res := match args with
  | [v0, v1, v2, v3] => C93_0 cal KK v0 v1 v2 v3 H n
  | _ => none
theorem ok93 (cal : Cal) (args : List Value) (H : Hp) (n : Nat) (r : Value × Hp × Nat) (e : ent93 cal args H n = some r) : bodyE P cal A (KK + 1) 93 args H n = some r := by
  unfold ent93 at e
  split at e
  · exact (h93_0 ..).trans e
  · cases e
noncomputable def ent94 (cal : Cal) (args : List Value) (H : Hp) (n : Nat) : Res := match args with
  | [v0, v1, v2, v3, v4, v5] => C94_0 cal KK v0 v1 v2 v3 v4 v5 H n
  | _ => none
theorem ok94 (cal : Cal) (args : List Value) (H : Hp) (n : Nat) (r : Value × Hp × Nat) (e : ent94 cal args H n = some r) : bodyE P cal A (KK + 1) 94 args H n = some r := by
  unfold ent94 at e
  split at e
  · exact (h94_0 ..).trans e
  · cases e
noncomputable def ent95 (cal : Cal) (args : List Value) (H : Hp) (n : Nat) : Res := match args with
  | [v0] => C95_0 cal KK v0 H n
  | _ => none
theorem ok95 (cal : Cal) (args : List Value) (H : Hp) (n : Nat) (r : Value × Hp × Nat) (e : ent95 cal args H n = some r) : bodyE P cal A (KK + 1) 95 args H n = some r := by
  unfold ent95 at e
  split at e
  · exact (h95_0 ..).trans e
  · cases e
noncomputable def ent96 (cal : Cal) (args : List Value) (H : Hp) (n : Nat) : Res := match args with
  | [v0, v1, v2, v3, v4] => C96_0 cal KK v0 v1 v2 v3 v4 H n
  | _ => none
theorem ok96 (cal : Cal) (args : List Value) (H : Hp) (n : Nat) (r : Value × Hp × Nat) (e : ent96 cal args H n = some r) : bodyE P cal A (KK + 1) 96 args H n = some r := by
  unfold ent96 at e
  split at e
  · exact (h96_0 ..).trans e
  · cases e
noncomputable def tab : Tr (Cal → List Value → Hp → Nat → Res) := Tr.set (Tr.set (Tr.set (Tr.set (Tr.set (Tr.set (Tr.set (Tr.set (Tr.set (Tr.set (Tr.set (Tr.set (Tr.set (Tr.set (Tr.set (Tr.set (Tr.set (Tr.set (Tr.set (Tr.set (Tr.set (Tr.set (Tr.set (Tr.set (Tr.set (Tr.set (Tr.set (Tr.set (Tr.set (Tr.set (Tr.set (Tr.set (Tr.set (Tr.set (Tr.set (Tr.set (Tr.set (Tr.set (Tr.set (Tr.set (Tr.set (Tr.set (Tr.set (Tr.set (Tr.set (Tr.set (Tr.set (Tr.set (Tr.set (Tr.set (Tr.set (Tr.set (Tr.set (Tr.set (Tr.set (Tr.set (Tr.set (Tr.set (Tr.set (Tr.set (Tr.set (Tr.set (Tr.set (Tr.set (Tr.set (Tr.set (Tr.set (Tr.set (Tr.set (Tr.set (Tr.set (Tr.set (Tr.set (Tr.set (Tr.set (Tr.set (Tr.set (Tr.set (Tr.set (Tr.set (Tr.set (Tr.set (Tr.set (Tr.set (Tr.set (Tr.set (Tr.set (Tr.set (Tr.set (Tr.set (Tr.set (.nil) 4 (some ent4)) 5 (some ent5)) 6 (some ent6)) 7 (some ent7)) 8 (some ent8)) 9 (some ent9)) 10 (some ent10)) 11 (some ent11)) 12 (some ent12)) 13 (some ent13)) 14 (some ent14)) 15 (some ent15)) 16 (some ent16)) 17 (some ent17)) 18 (some ent18)) 19 (some ent19)) 20 (some ent20)) 21 (some ent21)) 22 (some ent22)) 23 (some ent23)) 24 (some ent24)) 25 (some ent25)) 26 (some ent26)) 27 (some ent27)) 28 (some ent28)) 29 (some ent29)) 30 (some ent30)) 31 (some ent31)) 32 (some ent32)) 33 (some ent33)) 35 (some ent35)) 36 (some ent36)) 37 (some ent37)) 38 (some ent38)) 39 (some ent39)) 40 (some ent40)) 41 (some ent41)) 42 (some ent42)) 43 (some ent43)) 45 (some ent45)) 46 (some ent46)) 47 (some ent47)) 48 (some ent48)) 49 (some ent49)) 50 (some ent50)) 51 (some ent51)) 52 (some ent52)) 53 (some ent53)) 54 (some ent54)) 55 (some ent55)) 56 (some ent56)) 57 (some ent57)) 58 (some ent58)) 59 (some ent59)) 60 (some ent60)) 61 (some ent61)) 62 (some ent62)) 63 (some ent63)) 64 (some ent64)) 65 (some ent65)) 66 (some ent66)) 67 (some ent67)) 68 (some ent68)) 69 (some ent69)) 70 (some ent70)) 71 (some ent71)) 72 (some ent72)) 73 (some ent73)) 74 (some ent74)) 75 (some ent75)) 76 (some ent76)) 77 (some ent77)) 78 (some ent78)) 79 (some ent79)) 80 (some ent80)) 81 (some ent81)) 82 (some ent82)) 83 (some ent83)) 84 (some ent84)) 85 (some ent85)) 86 (some ent86)) 87 (some ent87)) 88 (some ent88)) 89 (some ent89)) 90 (some ent90)) 91 (some ent91)) 92 (some ent92)) 93 (some ent93)) 94 (some ent94)) 95 (some ent95)) 96 (some ent96)
theorem tab_ok : TblOk P A (KK + 1) tab.get := tbl_set (tbl_set (tbl_set (tbl_set (tbl_set (tbl_set (tbl_set (tbl_set (tbl_set (tbl_set (tbl_set (tbl_set (tbl_set (tbl_set (tbl_set (tbl_set (tbl_set (tbl_set (tbl_set (tbl_set (tbl_set (tbl_set (tbl_set (tbl_set (tbl_set (tbl_set (tbl_set (tbl_set (tbl_set (tbl_set (tbl_set (tbl_set (tbl_set (tbl_set (tbl_set (tbl_set (tbl_set (tbl_set (tbl_set (tbl_set (tbl_set (tbl_set (tbl_set (tbl_set (tbl_set (tbl_set (tbl_set (tbl_set (tbl_set (tbl_set (tbl_set (tbl_set (tbl_set (tbl_set (tbl_set (tbl_set (tbl_set (tbl_set (tbl_set (tbl_set (tbl_set (tbl_set (tbl_set (tbl_set (tbl_set (tbl_set (tbl_set (tbl_set (tbl_set (tbl_set (tbl_set (tbl_set (tbl_set (tbl_set (tbl_set (tbl_set (tbl_set (tbl_set (tbl_set (tbl_set (tbl_set (tbl_set (tbl_set (tbl_set (tbl_set (tbl_set (tbl_set (tbl_set (tbl_set (tbl_set (tbl_set (tbl_nil _) ok4) ok5) ok6) ok7) ok8) ok9) ok10) ok11) ok12) ok13) ok14) ok15) ok16) ok17) ok18) ok19) ok20) ok21) ok22) ok23) ok24) ok25) ok26) ok27) ok28) ok29) ok30) ok31) ok32) ok33) ok35) ok36) ok37) ok38) ok39) ok40) ok41) ok42) ok43) ok45) ok46) ok47) ok48) ok49) ok50) ok51) ok52) ok53) ok54) ok55) ok56) ok57) ok58) ok59) ok60) ok61) ok62) ok63) ok64) ok65) ok66) ok67) ok68) ok69) ok70) ok71) ok72) ok73) ok74) ok75) ok76) ok77) ok78) ok79) ok80) ok81) ok82) ok83) ok84) ok85) ok86) ok87) ok88) ok89) ok90) ok91) ok92) ok93) ok94) ok95) ok96
end Go.Proofs.Ytakjjillnllocab.P
