/- The table of all texts. -/
import Derived.Test.YtmpnblcfpdnlmaaH2
import Derived.Test.YtmpnblcfpdnlmaaH3
import Derived.Test.YtmpnblcfpdnlmaaH4
import Derived.Test.YtmpnblcfpdnlmaaH5
open Go Go.Ev
set_option maxRecDepth 1000000
set_option linter.unusedVariables false
noncomputable section
namespace Go.Proofs.Ytmpnblcfpdnlmaa.G
noncomputable def KK:Nat:=4000
theorem tbl_nil (F:Nat):TblOk P A F ((Tr.nil:Tr (Cal→List Value→Hp→Nat→Res)).get):=by
  intro f S h
  rw[Tr.get_nil] at h
  cases h
theorem tbl_set {F:Nat} {t:Tr (Cal→List Value→Hp→Nat→Res)} {f:Nat} {S:Cal→List Value→Hp→Nat→Res} (ht:TblOk P A F t.get)
    (h:∀ cal args H n r,S cal args H n=some r→bodyE P cal A F f args H n=some r):TblOk P A F (t.set f (some S)).get:=by
  intro g S' e
  rw[Tr.get_set] at e
  split at e
  · rename_i e1
    cases e
    rw[e1]
    exact h
  · exact ht g S' e
section
variable {ρ:Type}
noncomputable def forceN (n:Nat) (k:Nat→ρ):ρ:=Nat.rec (motive:=fun _=>ρ) (k 0) (fun m _=>k (Nat.succ m)) n
theorem forceN_eq (n:Nat) (k:Nat→ρ):forceN n k=k n:=by cases n <;> rfl
noncomputable def forceI (i:Int) (k:Int→ρ):ρ:=Int.rec (motive:=fun _=>ρ) (fun n=>forceN n fun n=>k (.ofNat n)) (fun n=>forceN n fun n=>k (.negSucc n)) i
theorem forceI_eq (i:Int) (k:Int→ρ):forceI i k=k i:=by cases i <;> simp [forceI,forceN_eq]
noncomputable def forceV1 (v:Value) (k:Value→ρ):ρ:=match v with
  | .int kd i=>forceI i fun i=>k (.int kd i)
  | .bool true=>k (.bool true)
  | .bool false=>k (.bool false)
  | v=>k v
theorem forceV1_eq (v:Value) (k:Value→ρ):forceV1 v k=k v:=by
  unfold forceV1
  split
  · rw[forceI_eq]
  · rfl
  · rfl
  · rfl
noncomputable def forceL:List Value→(List Value→ρ)→ρ
  | [],k=>k []
  | v::l,k=>forceV1 v fun v=>forceL l fun l=>k (v::l)
theorem forceL_eq:∀(l:List Value) (k:List Value→ρ),forceL l k=k l
  | [],k=>rfl
  | v::l,k=>by simp only[forceL,forceV1_eq,forceL_eq l]
noncomputable def forceV (v:Value) (k:Value→ρ):ρ:=match v with
  | .agg ⟨l⟩=>forceL l fun l=>k (.agg ⟨l⟩)
  | v=>forceV1 v k
theorem forceV_eq (v:Value) (k:Value→ρ):forceV v k=k v:=by
  unfold forceV
  split
  · rw[forceL_eq]
  · rw[forceV1_eq]
noncomputable def forceA:List Value→(List Value→ρ)→ρ
  | [],k=>k []
  | v::l,k=>forceV v fun v=>forceA l fun l=>k (v::l)
theorem forceA_eq:∀(l:List Value) (k:List Value→ρ),forceA l k=k l
  | [],k=>rfl
  | v::l,k=>by simp only[forceA,forceV_eq,forceA_eq l]
noncomputable def memoR (r:Option ρ):Option ρ:=Option.rec (motive:=fun _=>Option ρ) none (fun x=>some x) r
theorem memoR_eq (r:Option ρ):memoR r=r:=by cases r <;> rfl
end
noncomputable def quick (S:Cal→List Value→Hp→Nat→Res) (cal:Cal) (args:List Value) (H:Hp) (n:Nat):Res:=forceA args fun a=>memoR (S cal a H n)
theorem quick_eq (S:Cal→List Value→Hp→Nat→Res) (cal:Cal) (args:List Value) (H:Hp) (n:Nat):quick S cal args H n=S cal args H n:=by
  unfold quick
  rw[forceA_eq,memoR_eq]
theorem quick_ok {F f:Nat} {S:Cal→List Value→Hp→Nat→Res} (h:∀ cal args H n r,S cal args H n=some r→bodyE P cal A F f args H n=some r) :
    ∀ cal args H n r,quick S cal args H n=some r→bodyE P cal A F f args H n=some r:=by
  intro cal args H n r e
  rw[quick_eq] at e
  exact h cal args H n r e
noncomputable def ent14 (cal:Cal) (args:List Value) (H:Hp) (n:Nat):Res:=match args with
  | [v0,v1,v2]=>C14_0 cal KK v0 v1 v2 H n
  | _=>none
theorem ok14 (cal:Cal) (args:List Value) (H:Hp) (n:Nat) (r:Value × Hp × Nat) (e:ent14 cal args H n=some r):bodyE P cal A (KK+1) 14 args H n=some r:=by
  unfold ent14 at e
  split at e
  · exact(h14_0 ..).trans e
  · cases e
noncomputable def ent15 (cal:Cal) (args:List Value) (H:Hp) (n:Nat):Res:=match args with
  | [v0,v1]=>C15_0 cal KK v0 v1 H n
  | _=>none
theorem ok15 (cal:Cal) (args:List Value) (H:Hp) (n:Nat) (r:Value × Hp × Nat) (e:ent15 cal args H n=some r):bodyE P cal A (KK+1) 15 args H n=some r:=by
  unfold ent15 at e
  split at e
  · exact(h15_0 ..).trans e
  · cases e
noncomputable def ent18 (cal:Cal) (args:List Value) (H:Hp) (n:Nat):Res:=match args with
  | [v0]=>C18_0 cal KK v0 H n
  | _=>none
theorem ok18 (cal:Cal) (args:List Value) (H:Hp) (n:Nat) (r:Value × Hp × Nat) (e:ent18 cal args H n=some r):bodyE P cal A (KK+1) 18 args H n=some r:=by
  unfold ent18 at e
  split at e
  · exact(h18_0 ..).trans e
  · cases e
noncomputable def ent20 (cal:Cal) (args:List Value) (H:Hp) (n:Nat):Res:=match args with
  | [v0]=>C20_0 cal KK v0 H n
  | _=>none
theorem ok20 (cal:Cal) (args:List Value) (H:Hp) (n:Nat) (r:Value × Hp × Nat) (e:ent20 cal args H n=some r):bodyE P cal A (KK+1) 20 args H n=some r:=by
  unfold ent20 at e
  split at e
  · exact(h20_0 ..).trans e
  · cases e
noncomputable def ent21 (cal:Cal) (args:List Value) (H:Hp) (n:Nat):Res:=match args with
  | [v0,v1,v2]=>C21_0 cal KK v0 v1 v2 H n
  | _=>none
theorem ok21 (cal:Cal) (args:List Value) (H:Hp) (n:Nat) (r:Value × Hp × Nat) (e:ent21 cal args H n=some r):bodyE P cal A (KK+1) 21 args H n=some r:=by
  unfold ent21 at e
  split at e
  · exact(h21_0 ..).trans e
  · cases e
noncomputable def ent22 (cal:Cal) (args:List Value) (H:Hp) (n:Nat):Res:=match args with
  | [v0,v1]=>C22_0 cal KK v0 v1 H n
  | _=>none
theorem ok22 (cal:Cal) (args:List Value) (H:Hp) (n:Nat) (r:Value × Hp × Nat) (e:ent22 cal args H n=some r):bodyE P cal A (KK+1) 22 args H n=some r:=by
  unfold ent22 at e
  split at e
  · exact(h22_0 ..).trans e
  · cases e
noncomputable def ent23 (cal:Cal) (args:List Value) (H:Hp) (n:Nat):Res:=match args with
  | [v0]=>C23_0 cal KK v0 H n
  | _=>none
theorem ok23 (cal:Cal) (args:List Value) (H:Hp) (n:Nat) (r:Value × Hp × Nat) (e:ent23 cal args H n=some r):bodyE P cal A (KK+1) 23 args H n=some r:=by
  unfold ent23 at e
  split at e
  · exact(h23_0 ..).trans e
  · cases e
noncomputable def ent25 (cal:Cal) (args:List Value) (H:Hp) (n:Nat):Res:=match args with
  | [v0,v1]=>C25_0 cal KK v0 v1 H n
  | _=>none
theorem ok25 (cal:Cal) (args:List Value) (H:Hp) (n:Nat) (r:Value × Hp × Nat) (e:ent25 cal args H n=some r):bodyE P cal A (KK+1) 25 args H n=some r:=by
  unfold ent25 at e
  split at e
  · exact(h25_0 ..).trans e
  · cases e
noncomputable def ent26 (cal:Cal) (args:List Value) (H:Hp) (n:Nat):Res:=match args with
  | [v0]=>C26_0 cal KK v0 H n
  | _=>none
theorem ok26 (cal:Cal) (args:List Value) (H:Hp) (n:Nat) (r:Value × Hp × Nat) (e:ent26 cal args H n=some r):bodyE P cal A (KK+1) 26 args H n=some r:=by
  unfold ent26 at e
  split at e
  · exact(h26_0 ..).trans e
  · cases e
noncomputable def ent30 (cal:Cal) (args:List Value) (H:Hp) (n:Nat):Res:=match args with
  | [v0,v1]=>C30_0 cal KK v0 v1 H n
  | _=>none
theorem ok30 (cal:Cal) (args:List Value) (H:Hp) (n:Nat) (r:Value × Hp × Nat) (e:ent30 cal args H n=some r):bodyE P cal A (KK+1) 30 args H n=some r:=by
  unfold ent30 at e
  split at e
  · exact(h30_0 ..).trans e
  · cases e
noncomputable def ent32 (cal:Cal) (args:List Value) (H:Hp) (n:Nat):Res:=match args with
  | [v0,v1,v2]=>C32_0 cal KK v0 v1 v2 H n
  | _=>none
theorem ok32 (cal:Cal) (args:List Value) (H:Hp) (n:Nat) (r:Value × Hp × Nat) (e:ent32 cal args H n=some r):bodyE P cal A (KK+1) 32 args H n=some r:=by
  unfold ent32 at e
  split at e
  · exact(h32_0 ..).trans e
  · cases e
noncomputable def ent42 (cal:Cal) (args:List Value) (H:Hp) (n:Nat):Res:=match args with
  | [v0]=>C42_0 cal KK v0 H n
  | _=>none
theorem ok42 (cal:Cal) (args:List Value) (H:Hp) (n:Nat) (r:Value × Hp × Nat) (e:ent42 cal args H n=some r):bodyE P cal A (KK+1) 42 args H n=some r:=by
  unfold ent42 at e
  split at e
  · exact(h42_0 ..).trans e
  · cases e
noncomputable def ent54 (cal:Cal) (args:List Value) (H:Hp) (n:Nat):Res:=match args with
  | [v0,v1]=>C54_0 cal KK v0 v1 H n
  | _=>none
theorem ok54 (cal:Cal) (args:List Value) (H:Hp) (n:Nat) (r:Value × Hp × Nat) (e:ent54 cal args H n=some r):bodyE P cal A (KK+1) 54 args H n=some r:=by
  unfold ent54 at e
  split at e
  · exact(h54_0 ..).trans e
  · cases e
noncomputable def ent55 (cal:Cal) (args:List Value) (H:Hp) (n:Nat):Res:=match args with
  | [v0,v1]=>C55_0 cal KK v0 v1 H n
  | _=>none
theorem ok55 (cal:Cal) (args:List Value) (H:Hp) (n:Nat) (r:Value × Hp × Nat) (e:ent55 cal args H n=some r):bodyE P cal A (KK+1) 55 args H n=some r:=by
  unfold ent55 at e
  split at e
  · exact(h55_0 ..).trans e
  · cases e
noncomputable def ent58 (cal:Cal) (args:List Value) (H:Hp) (n:Nat):Res:=match args with
  | [v0,v1]=>C58_0 cal KK v0 v1 H n
  | _=>none
theorem ok58 (cal:Cal) (args:List Value) (H:Hp) (n:Nat) (r:Value × Hp × Nat) (e:ent58 cal args H n=some r):bodyE P cal A (KK+1) 58 args H n=some r:=by
  unfold ent58 at e
  split at e
  · exact(h58_0 ..).trans e
  · cases e
noncomputable def ent60 (cal:Cal) (args:List Value) (H:Hp) (n:Nat):Res:=match args with
  | [v0]=>C60_0 cal KK v0 H n
  | _=>none
theorem ok60 (cal:Cal) (args:List Value) (H:Hp) (n:Nat) (r:Value × Hp × Nat) (e:ent60 cal args H n=some r):bodyE P cal A (KK+1) 60 args H n=some r:=by
  unfold ent60 at e
  split at e
  · exact(h60_0 ..).trans e
  · cases e
noncomputable def ent61 (cal:Cal) (args:List Value) (H:Hp) (n:Nat):Res:=match args with
  | [v0]=>C61_0 cal KK v0 H n
  | _=>none
theorem ok61 (cal:Cal) (args:List Value) (H:Hp) (n:Nat) (r:Value × Hp × Nat) (e:ent61 cal args H n=some r):bodyE P cal A (KK+1) 61 args H n=some r:=by
  unfold ent61 at e
  split at e
  · exact(h61_0 ..).trans e
  · cases e
noncomputable def ent62 (cal:Cal) (args:List Value) (H:Hp) (n:Nat):Res:=match args with
  | [v0]=>C62_0 cal KK v0 H n
  | _=>none
theorem ok62 (cal:Cal) (args:List Value) (H:Hp) (n:Nat) (r:Value × Hp × Nat) (e:ent62 cal args H n=some r):bodyE P cal A (KK+1) 62 args H n=some r:=by
  unfold ent62 at e
  split at e
  · exact(h62_0 ..).trans e
  · cases e
noncomputable def ent63 (cal:Cal) (args:List Value) (H:Hp) (n:Nat):Res:=match args with
  | [v0]=>C63_0 cal KK v0 H n
  | _=>none
theorem ok63 (cal:Cal) (args:List Value) (H:Hp) (n:Nat) (r:Value × Hp × Nat) (e:ent63 cal args H n=some r):bodyE P cal A (KK+1) 63 args H n=some r:=by
  unfold ent63 at e
  split at e
  · exact(h63_0 ..).trans e
  · cases e
noncomputable def ent64 (cal:Cal) (args:List Value) (H:Hp) (n:Nat):Res:=match args with
  | [v0,v1,v2,v3,v4]=>C64_0 cal KK v0 v1 v2 v3 v4 H n
  | _=>none
theorem ok64 (cal:Cal) (args:List Value) (H:Hp) (n:Nat) (r:Value × Hp × Nat) (e:ent64 cal args H n=some r):bodyE P cal A (KK+1) 64 args H n=some r:=by
  unfold ent64 at e
  split at e
  · exact(h64_0 ..).trans e
  · cases e
noncomputable def ent65 (cal:Cal) (args:List Value) (H:Hp) (n:Nat):Res:=match args with
  | [v0,v1]=>C65_0 cal KK v0 v1 H n
  | _=>none
theorem ok65 (cal:Cal) (args:List Value) (H:Hp) (n:Nat) (r:Value × Hp × Nat) (e:ent65 cal args H n=some r):bodyE P cal A (KK+1) 65 args H n=some r:=by
  unfold ent65 at e
  split at e
  · exact(h65_0 ..).trans e
  · cases e
noncomputable def ent67 (cal:Cal) (args:List Value) (H:Hp) (n:Nat):Res:=match args with
  | [v0]=>C67_0 cal KK v0 H n
  | _=>none
theorem ok67 (cal:Cal) (args:List Value) (H:Hp) (n:Nat) (r:Value × Hp × Nat) (e:ent67 cal args H n=some r):bodyE P cal A (KK+1) 67 args H n=some r:=by
  unfold ent67 at e
  split at e
  · exact(h67_0 ..).trans e
  · cases e
noncomputable def ent68 (cal:Cal) (args:List Value) (H:Hp) (n:Nat):Res:=match args with
  | [v0,v1,v2]=>C68_0 cal KK v0 v1 v2 H n
  | _=>none
theorem ok68 (cal:Cal) (args:List Value) (H:Hp) (n:Nat) (r:Value × Hp × Nat) (e:ent68 cal args H n=some r):bodyE P cal A (KK+1) 68 args H n=some r:=by
  unfold ent68 at e
  split at e
  · exact(h68_0 ..).trans e
  · cases e
noncomputable def ent69 (cal:Cal) (args:List Value) (H:Hp) (n:Nat):Res:=match args with
  | [v0,v1,v2]=>C69_0 cal KK v0 v1 v2 H n
  | _=>none
theorem ok69 (cal:Cal) (args:List Value) (H:Hp) (n:Nat) (r:Value × Hp × Nat) (e:ent69 cal args H n=some r):bodyE P cal A (KK+1) 69 args H n=some r:=by
  unfold ent69 at e
  split at e
  · exact(h69_0 ..).trans e
  · cases e
noncomputable def ent71 (cal:Cal) (args:List Value) (H:Hp) (n:Nat):Res:=match args with
  | [v0,v1]=>C71_0 cal KK v0 v1 H n
  | _=>none
theorem ok71 (cal:Cal) (args:List Value) (H:Hp) (n:Nat) (r:Value × Hp × Nat) (e:ent71 cal args H n=some r):bodyE P cal A (KK+1) 71 args H n=some r:=by
  unfold ent71 at e
  split at e
  · exact(h71_0 ..).trans e
  · cases e
noncomputable def ent72 (cal:Cal) (args:List Value) (H:Hp) (n:Nat):Res:=match args with
  | [v0]=>C72_0 cal KK v0 H n
  | _=>none
theorem ok72 (cal:Cal) (args:List Value) (H:Hp) (n:Nat) (r:Value × Hp × Nat) (e:ent72 cal args H n=some r):bodyE P cal A (KK+1) 72 args H n=some r:=by
  unfold ent72 at e
  split at e
  · exact(h72_0 ..).trans e
  · cases e
noncomputable def ent73 (cal:Cal) (args:List Value) (H:Hp) (n:Nat):Res:=match args with
  | [v0]=>C73_0 cal KK v0 H n
  | _=>none
theorem ok73 (cal:Cal) (args:List Value) (H:Hp) (n:Nat) (r:Value × Hp × Nat) (e:ent73 cal args H n=some r):bodyE P cal A (KK+1) 73 args H n=some r:=by
  unfold ent73 at e
  split at e
  · exact(h73_0 ..).trans e
  · cases e
noncomputable def ent74 (cal:Cal) (args:List Value) (H:Hp) (n:Nat):Res:=match args with
  | [v0,v1]=>C74_0 cal KK v0 v1 H n
  | _=>none
theorem ok74 (cal:Cal) (args:List Value) (H:Hp) (n:Nat) (r:Value × Hp × Nat) (e:ent74 cal args H n=some r):bodyE P cal A (KK+1) 74 args H n=some r:=by
  unfold ent74 at e
  split at e
  · exact(h74_0 ..).trans e
  · cases e
noncomputable def ent76 (cal:Cal) (args:List Value) (H:Hp) (n:Nat):Res:=match args with
  | [v0]=>C76_0 cal KK v0 H n
  | _=>none
theorem ok76 (cal:Cal) (args:List Value) (H:Hp) (n:Nat) (r:Value × Hp × Nat) (e:ent76 cal args H n=some r):bodyE P cal A (KK+1) 76 args H n=some r:=by
  unfold ent76 at e
  split at e
  · exact(h76_0 ..).trans e
  · cases e
noncomputable def ent77 (cal:Cal) (args:List Value) (H:Hp) (n:Nat):Res:=match args with
  | [v0,v1,v2,v3]=>C77_0 cal KK v0 v1 v2 v3 H n
  | _=>none
theorem ok77 (cal:Cal) (args:List Value) (H:Hp) (n:Nat) (r:Value × Hp × Nat) (e:ent77 cal args H n=some r):bodyE P cal A (KK+1) 77 args H n=some r:=by
  unfold ent77 at e
  split at e
  · exact(h77_0 ..).trans e
  · cases e
noncomputable def ent83 (cal:Cal) (args:List Value) (H:Hp) (n:Nat):Res:=match args with
  | [v0,v1]=>C83_0 cal KK v0 v1 H n
  | _=>none
theorem ok83 (cal:Cal) (args:List Value) (H:Hp) (n:Nat) (r:Value × Hp × Nat) (e:ent83 cal args H n=some r):bodyE P cal A (KK+1) 83 args H n=some r:=by
  unfold ent83 at e
  split at e
  · exact(h83_0 ..).trans e
  · cases e
noncomputable def ent89 (cal:Cal) (args:List Value) (H:Hp) (n:Nat):Res:=match args with
  | [v0,v1,v2]=>C89_0 cal KK v0 v1 v2 H n
  | _=>none
theorem ok89 (cal:Cal) (args:List Value) (H:Hp) (n:Nat) (r:Value × Hp × Nat) (e:ent89 cal args H n=some r):bodyE P cal A (KK+1) 89 args H n=some r:=by
  unfold ent89 at e
  split at e
  · exact(h89_0 ..).trans e
  · cases e
noncomputable def ent91 (cal:Cal) (args:List Value) (H:Hp) (n:Nat):Res:=match args with
  | [v0,v1]=>C91_0 cal KK v0 v1 H n
  | _=>none
theorem ok91 (cal:Cal) (args:List Value) (H:Hp) (n:Nat) (r:Value × Hp × Nat) (e:ent91 cal args H n=some r):bodyE P cal A (KK+1) 91 args H n=some r:=by
  unfold ent91 at e
  split at e
  · exact(h91_0 ..).trans e
  · cases e
noncomputable def ent92 (cal:Cal) (args:List Value) (H:Hp) (n:Nat):Res:=match args with
  | [v0]=>C92_0 cal KK v0 H n
  | _=>none
theorem ok92 (cal:Cal) (args:List Value) (H:Hp) (n:Nat) (r:Value × Hp × Nat) (e:ent92 cal args H n=some r):bodyE P cal A (KK+1) 92 args H n=some r:=by
  unfold ent92 at e
  split at e
  · exact(h92_0 ..).trans e
  · cases e
noncomputable def ent93 (cal:Cal) (args:List Value) (H:Hp) (n:Nat):Res:=match args with
  | [v0,v1]=>C93_0 cal KK v0 v1 H n
  | _=>none
theorem ok93 (cal:Cal) (args:List Value) (H:Hp) (n:Nat) (r:Value × Hp × Nat) (e:ent93 cal args H n=some r):bodyE P cal A (KK+1) 93 args H n=some r:=by
  unfold ent93 at e
  split at e
  · exact(h93_0 ..).trans e
  · cases e
noncomputable def ent94 (cal:Cal) (args:List Value) (H:Hp) (n:Nat):Res:=match args with
  | [v0,v1]=>C94_0 cal KK v0 v1 H n
  | _=>none
theorem ok94 (cal:Cal) (args:List Value) (H:Hp) (n:Nat) (r:Value × Hp × Nat) (e:ent94 cal args H n=some r):bodyE P cal A (KK+1) 94 args H n=some r:=by
  unfold ent94 at e
  split at e
  · exact(h94_0 ..).trans e
  · cases e
noncomputable def ent95 (cal:Cal) (args:List Value) (H:Hp) (n:Nat):Res:=match args with
  | [v0,v1]=>C95_0 cal KK v0 v1 H n
  | _=>none
theorem ok95 (cal:Cal) (args:List Value) (H:Hp) (n:Nat) (r:Value × Hp × Nat) (e:ent95 cal args H n=some r):bodyE P cal A (KK+1) 95 args H n=some r:=by
  unfold ent95 at e
  split at e
  · exact(h95_0 ..).trans e
  · cases e
noncomputable def ent96 (cal:Cal) (args:List Value) (H:Hp) (n:Nat):Res:=match args with
  | [v0]=>C96_0 cal KK v0 H n
  | _=>none
theorem ok96 (cal:Cal) (args:List Value) (H:Hp) (n:Nat) (r:Value × Hp × Nat) (e:ent96 cal args H n=some r):bodyE P cal A (KK+1) 96 args H n=some r:=by
  unfold ent96 at e
  split at e
  · exact(h96_0 ..).trans e
  · cases e
noncomputable def ent98 (cal:Cal) (args:List Value) (H:Hp) (n:Nat):Res:=match args with
  | [v0,v1]=>C98_0 cal KK v0 v1 H n
  | _=>none
theorem ok98 (cal:Cal) (args:List Value) (H:Hp) (n:Nat) (r:Value × Hp × Nat) (e:ent98 cal args H n=some r):bodyE P cal A (KK+1) 98 args H n=some r:=by
  unfold ent98 at e
  split at e
  · exact(h98_0 ..).trans e
  · cases e
noncomputable def ent99 (cal:Cal) (args:List Value) (H:Hp) (n:Nat):Res:=match args with
  | [v0,v1]=>C99_0 cal KK v0 v1 H n
  | _=>none
theorem ok99 (cal:Cal) (args:List Value) (H:Hp) (n:Nat) (r:Value × Hp × Nat) (e:ent99 cal args H n=some r):bodyE P cal A (KK+1) 99 args H n=some r:=by
  unfold ent99 at e
  split at e
  · exact(h99_0 ..).trans e
  · cases e
noncomputable def ent100 (cal:Cal) (args:List Value) (H:Hp) (n:Nat):Res:=match args with
  | [v0,v1]=>C100_0 cal KK v0 v1 H n
  | _=>none
theorem ok100 (cal:Cal) (args:List Value) (H:Hp) (n:Nat) (r:Value × Hp × Nat) (e:ent100 cal args H n=some r):bodyE P cal A (KK+1) 100 args H n=some r:=by
  unfold ent100 at e
  split at e
  · exact(h100_0 ..).trans e
  · cases e
noncomputable def ent101 (cal:Cal) (args:List Value) (H:Hp) (n:Nat):Res:=match args with
  | []=>C101_0 cal KK  H n
  | _=>none
theorem ok101 (cal:Cal) (args:List Value) (H:Hp) (n:Nat) (r:Value × Hp × Nat) (e:ent101 cal args H n=some r):bodyE P cal A (KK+1) 101 args H n=some r:=by
  unfold ent101 at e
  split at e
  · exact(h101_0 ..).trans e
  · cases e
noncomputable def ent102 (cal:Cal) (args:List Value) (H:Hp) (n:Nat):Res:=match args with
  | [v0,v1,v2]=>C102_0 cal KK v0 v1 v2 H n
  | _=>none
theorem ok102 (cal:Cal) (args:List Value) (H:Hp) (n:Nat) (r:Value × Hp × Nat) (e:ent102 cal args H n=some r):bodyE P cal A (KK+1) 102 args H n=some r:=by
  unfold ent102 at e
  split at e
  · exact(h102_0 ..).trans e
  · cases e
noncomputable def ent103 (cal:Cal) (args:List Value) (H:Hp) (n:Nat):Res:=match args with
  | [v0,v1]=>C103_0 cal KK v0 v1 H n
  | _=>none
theorem ok103 (cal:Cal) (args:List Value) (H:Hp) (n:Nat) (r:Value × Hp × Nat) (e:ent103 cal args H n=some r):bodyE P cal A (KK+1) 103 args H n=some r:=by
  unfold ent103 at e
  split at e
  · exact(h103_0 ..).trans e
  · cases e
noncomputable def ent104 (cal:Cal) (args:List Value) (H:Hp) (n:Nat):Res:=match args with
  | [v0,v1,v2]=>C104_0 cal KK v0 v1 v2 H n
  | _=>none
theorem ok104 (cal:Cal) (args:List Value) (H:Hp) (n:Nat) (r:Value × Hp × Nat) (e:ent104 cal args H n=some r):bodyE P cal A (KK+1) 104 args H n=some r:=by
  unfold ent104 at e
  split at e
  · exact(h104_0 ..).trans e
  · cases e
noncomputable def ent105 (cal:Cal) (args:List Value) (H:Hp) (n:Nat):Res:=match args with
  | [v0,v1]=>C105_0 cal KK v0 v1 H n
  | _=>none
theorem ok105 (cal:Cal) (args:List Value) (H:Hp) (n:Nat) (r:Value × Hp × Nat) (e:ent105 cal args H n=some r):bodyE P cal A (KK+1) 105 args H n=some r:=by
  unfold ent105 at e
  split at e
  · exact(h105_0 ..).trans e
  · cases e
noncomputable def ent106 (cal:Cal) (args:List Value) (H:Hp) (n:Nat):Res:=match args with
  | [v0,v1]=>C106_0 cal KK v0 v1 H n
  | _=>none
theorem ok106 (cal:Cal) (args:List Value) (H:Hp) (n:Nat) (r:Value × Hp × Nat) (e:ent106 cal args H n=some r):bodyE P cal A (KK+1) 106 args H n=some r:=by
  unfold ent106 at e
  split at e
  · exact(h106_0 ..).trans e
  · cases e
noncomputable def ent110 (cal:Cal) (args:List Value) (H:Hp) (n:Nat):Res:=match args with
  | [v0,v1]=>C110_0 cal KK v0 v1 H n
  | _=>none
theorem ok110 (cal:Cal) (args:List Value) (H:Hp) (n:Nat) (r:Value × Hp × Nat) (e:ent110 cal args H n=some r):bodyE P cal A (KK+1) 110 args H n=some r:=by
  unfold ent110 at e
  split at e
  · exact(h110_0 ..).trans e
  · cases e
noncomputable def ent111 (cal:Cal) (args:List Value) (H:Hp) (n:Nat):Res:=match args with
  | [v0,v1]=>C111_0 cal KK v0 v1 H n
  | _=>none
theorem ok111 (cal:Cal) (args:List Value) (H:Hp) (n:Nat) (r:Value × Hp × Nat) (e:ent111 cal args H n=some r):bodyE P cal A (KK+1) 111 args H n=some r:=by
  unfold ent111 at e
  split at e
  · exact(h111_0 ..).trans e
  · cases e
noncomputable def ent113 (cal:Cal) (args:List Value) (H:Hp) (n:Nat):Res:=match args with
  | [v0,v1]=>C113_0 cal KK v0 v1 H n
  | _=>none
theorem ok113 (cal:Cal) (args:List Value) (H:Hp) (n:Nat) (r:Value × Hp × Nat) (e:ent113 cal args H n=some r):bodyE P cal A (KK+1) 113 args H n=some r:=by
  unfold ent113 at e
  split at e
  · exact(h113_0 ..).trans e
  · cases e
noncomputable def ent114 (cal:Cal) (args:List Value) (H:Hp) (n:Nat):Res:=match args with
  | [v0]=>C114_0 cal KK v0 H n
  | _=>none
theorem ok114 (cal:Cal) (args:List Value) (H:Hp) (n:Nat) (r:Value × Hp × Nat) (e:ent114 cal args H n=some r):bodyE P cal A (KK+1) 114 args H n=some r:=by
  unfold ent114 at e
  split at e
  · exact(h114_0 ..).trans e
  · cases e
noncomputable def ent115 (cal:Cal) (args:List Value) (H:Hp) (n:Nat):Res:=match args with
  | [v0,v1]=>C115_0 cal KK v0 v1 H n
  | _=>none
theorem ok115 (cal:Cal) (args:List Value) (H:Hp) (n:Nat) (r:Value × Hp × Nat) (e:ent115 cal args H n=some r):bodyE P cal A (KK+1) 115 args H n=some r:=by
  unfold ent115 at e
  split at e
  · exact(h115_0 ..).trans e
  · cases e
noncomputable def ent117 (cal:Cal) (args:List Value) (H:Hp) (n:Nat):Res:=match args with
  | [v0,v1,v2]=>C117_0 cal KK v0 v1 v2 H n
  | _=>none
theorem ok117 (cal:Cal) (args:List Value) (H:Hp) (n:Nat) (r:Value × Hp × Nat) (e:ent117 cal args H n=some r):bodyE P cal A (KK+1) 117 args H n=some r:=by
  unfold ent117 at e
  split at e
  · exact(h117_0 ..).trans e
  · cases e
noncomputable def ent118 (cal:Cal) (args:List Value) (H:Hp) (n:Nat):Res:=match args with
  | [v0,v1,v2,v3,v4,v5,v6]=>C118_0 cal KK v0 v1 v2 v3 v4 v5 v6 H n
  | _=>none
theorem ok118 (cal:Cal) (args:List Value) (H:Hp) (n:Nat) (r:Value × Hp × Nat) (e:ent118 cal args H n=some r):bodyE P cal A (KK+1) 118 args H n=some r:=by
  unfold ent118 at e
  split at e
  · exact(h118_0 ..).trans e
  · cases e
noncomputable def ent119 (cal:Cal) (args:List Value) (H:Hp) (n:Nat):Res:=match args with
  | [v0,v1,v2]=>C119_0 cal KK v0 v1 v2 H n
  | _=>none
theorem ok119 (cal:Cal) (args:List Value) (H:Hp) (n:Nat) (r:Value × Hp × Nat) (e:ent119 cal args H n=some r):bodyE P cal A (KK+1) 119 args H n=some r:=by
  unfold ent119 at e
  split at e
  · exact(h119_0 ..).trans e
  · cases e
noncomputable def ent120 (cal:Cal) (args:List Value) (H:Hp) (n:Nat):Res:=match args with
  | [v0,v1,v2]=>C120_0 cal KK v0 v1 v2 H n
  | _=>none
theorem ok120 (cal:Cal) (args:List Value) (H:Hp) (n:Nat) (r:Value × Hp × Nat) (e:ent120 cal args H n=some r):bodyE P cal A (KK+1) 120 args H n=some r:=by
  unfold ent120 at e
  split at e
  · exact(h120_0 ..).trans e
  · cases e
noncomputable def ent121 (cal:Cal) (args:List Value) (H:Hp) (n:Nat):Res:=match args with
  | []=>C121_0 cal KK  H n
  | _=>none
theorem ok121 (cal:Cal) (args:List Value) (H:Hp) (n:Nat) (r:Value × Hp × Nat) (e:ent121 cal args H n=some r):bodyE P cal A (KK+1) 121 args H n=some r:=by
  unfold ent121 at e
  split at e
  · exact(h121_0 ..).trans e
  · cases e
noncomputable def ent122 (cal:Cal) (args:List Value) (H:Hp) (n:Nat):Res:=match args with
  | []=>C122_0 cal KK  H n
  | _=>none
theorem ok122 (cal:Cal) (args:List Value) (H:Hp) (n:Nat) (r:Value × Hp × Nat) (e:ent122 cal args H n=some r):bodyE P cal A (KK+1) 122 args H n=some r:=by
  unfold ent122 at e
  split at e
  · exact(h122_0 ..).trans e
  · cases e
noncomputable def tab:Tr (Cal→List Value→Hp→Nat→Res):=Tr.set (Tr.set (Tr.set (Tr.set (Tr.set (Tr.set (Tr.set (Tr.set (Tr.set (Tr.set (Tr.set (Tr.set (Tr.set (Tr.set (Tr.set (Tr.set (Tr.set (Tr.set (Tr.set (Tr.set (Tr.set (Tr.set (Tr.set (Tr.set (Tr.set (Tr.set (Tr.set (Tr.set (Tr.set (Tr.set (Tr.set (Tr.set (Tr.set (Tr.set (Tr.set (Tr.set (Tr.set (Tr.set (Tr.set (Tr.set (Tr.set (Tr.set (Tr.set (Tr.set (Tr.set (Tr.set (Tr.set (Tr.set (Tr.set (Tr.set (Tr.set (Tr.set (Tr.set (Tr.set (Tr.set (Tr.set (Tr.set (Tr.set (.nil) 14 (some ent14)) 15 (some ent15)) 18 (some ent18)) 20 (some ent20)) 21 (some ent21)) 22 (some ent22)) 23 (some ent23)) 25 (some ent25)) 26 (some ent26)) 30 (some ent30)) 32 (some ent32)) 42 (some ent42)) 54 (some ent54)) 55 (some ent55)) 58 (some ent58)) 60 (some ent60)) 61 (some ent61)) 62 (some (quick ent62))) 63 (some ent63)) 64 (some ent64)) 65 (some ent65)) 67 (some ent67)) 68 (some ent68)) 69 (some ent69)) 71 (some ent71)) 72 (some ent72)) 73 (some ent73)) 74 (some ent74)) 76 (some ent76)) 77 (some ent77)) 83 (some ent83)) 89 (some ent89)) 91 (some ent91)) 92 (some ent92)) 93 (some ent93)) 94 (some ent94)) 95 (some ent95)) 96 (some ent96)) 98 (some (quick ent98))) 99 (some ent99)) 100 (some ent100)) 101 (some ent101)) 102 (some ent102)) 103 (some (quick ent103))) 104 (some ent104)) 105 (some ent105)) 106 (some ent106)) 110 (some ent110)) 111 (some ent111)) 113 (some ent113)) 114 (some ent114)) 115 (some (quick ent115))) 117 (some ent117)) 118 (some ent118)) 119 (some ent119)) 120 (some (quick ent120))) 121 (some ent121)) 122 (some ent122)
theorem tab_ok:TblOk P A (KK+1) tab.get:=tbl_set (tbl_set (tbl_set (tbl_set (tbl_set (tbl_set (tbl_set (tbl_set (tbl_set (tbl_set (tbl_set (tbl_set (tbl_set (tbl_set (tbl_set (tbl_set (tbl_set (tbl_set (tbl_set (tbl_set (tbl_set (tbl_set (tbl_set (tbl_set (tbl_set (tbl_set (tbl_set (tbl_set (tbl_set (tbl_set (tbl_set (tbl_set (tbl_set (tbl_set (tbl_set (tbl_set (tbl_set (tbl_set (tbl_set (tbl_set (tbl_set (tbl_set (tbl_set (tbl_set (tbl_set (tbl_set (tbl_set (tbl_set (tbl_set (tbl_set (tbl_set (tbl_set (tbl_set (tbl_set (tbl_set (tbl_set (tbl_set (tbl_set (tbl_nil _) ok14) ok15) ok18) ok20) ok21) ok22) ok23) ok25) ok26) ok30) ok32) ok42) ok54) ok55) ok58) ok60) ok61) (quick_ok ok62)) ok63) ok64) ok65) ok67) ok68) ok69) ok71) ok72) ok73) ok74) ok76) ok77) ok83) ok89) ok91) ok92) ok93) ok94) ok95) ok96) (quick_ok ok98)) ok99) ok100) ok101) ok102) (quick_ok ok103)) ok104) ok105) ok106) ok110) ok111) ok113) ok114) (quick_ok ok115)) ok117) ok118) ok119) (quick_ok ok120)) ok121) ok122
end Go.Proofs.Ytmpnblcfpdnlmaa.G
