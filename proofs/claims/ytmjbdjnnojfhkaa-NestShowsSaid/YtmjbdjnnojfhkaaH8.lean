/- The table of all texts. -/
import Derived.Test.YtmjbdjnnojfhkaaH2
import Derived.Test.YtmjbdjnnojfhkaaH3
import Derived.Test.YtmjbdjnnojfhkaaH4
import Derived.Test.YtmjbdjnnojfhkaaH5
import Derived.Test.YtmjbdjnnojfhkaaH6
import Derived.Test.YtmjbdjnnojfhkaaH7
open Go Go.Ev
set_option maxRecDepth 1000000
set_option linter.unusedVariables false
noncomputable section
namespace Go.Proofs.Ytmjbdjnnojfhkaa.G
variable (cal:Cal) (k:Nat)
noncomputable def KK:Nat:=20000
theorem tbl_nil(F:Nat):TblOk P A F ((Tr.nil:Tr (Cal→List Value→Hp→Nat→Res)).get):=by
 intro f S h
 rw[Tr.get_nil] at h
 cases h
theorem bZ{F:Nat}{t:Tr (Cal→List Value→Hp→Nat→Res)}{f:Nat}{S:Cal→List Value→Hp→Nat→Res}(ht:TblOk P A F t.get)
  (h:∀ cal args H n r,S cal args H n=some r→aY P cal A F f args H n=some r):TblOk P A F (t.set f (some S)).get:=by
 intro g S' e
 rw[Tr.get_set] at e
 split at e
 ·rename_i e1
  cases e
  rw[e1]
  exact h
 ·exact ht g S' e
section
variable {ρ:Type}
noncomputable def forceN(n:Nat)(k:Nat→ρ):ρ:=Nat.rec (motive:=fun _=>ρ) (k 0) (fun m _=>k (Nat.succ m)) n
theorem forceN_eq(n:Nat)(k:Nat→ρ):forceN n k=k n:=by cases n <;> rfl
noncomputable def forceI(i:Int)(k:Int→ρ):ρ:=Int.rec (motive:=fun _=>ρ) (fun n=>forceN n fun n=>k (.ofNat n)) (fun n=>forceN n fun n=>k (.negSucc n)) i
theorem forceI_eq(i:Int)(k:Int→ρ):forceI i k=k i:=by cases i <;> simp [forceI,forceN_eq]
noncomputable def qgk(v:Value)(k:Value→ρ):ρ:=match v with
 | .int kd i=>forceI i fun i=>k (.int kd i)
 | .bool true=>k (.bool true)
 | .bool false=>k (.bool false)
 | v=>k v
theorem forceV1_eq(v:Value)(k:Value→ρ):qgk v k=k v:=by
 unfold qgk
 split
 ·rw[forceI_eq]
 ·rfl
 ·rfl
 ·rfl
noncomputable def forceL:List Value→(List Value→ρ)→ρ
 | [],k=>k []
 | v::l,k=>qgk v fun v=>forceL l fun l=>k (v::l)
theorem forceL_eq:∀(l:List Value) (k:List Value→ρ),forceL l k=k l
 | [],k=>rfl
 | v::l,k=>by simp only[forceL,forceV1_eq,forceL_eq l]
noncomputable def forceV(v:Value)(k:Value→ρ):ρ:=match v with
 | .agg ⟨l⟩=>forceL l fun l=>k (.agg ⟨l⟩)
 | v=>qgk v k
theorem forceV_eq(v:Value)(k:Value→ρ):forceV v k=k v:=by
 unfold forceV
 split
 ·rw[forceL_eq]
 ·rw[forceV1_eq]
noncomputable def forceA:List Value→(List Value→ρ)→ρ
 | [],k=>k []
 | v::l,k=>forceV v fun v=>forceA l fun l=>k (v::l)
theorem forceA_eq:∀(l:List Value) (k:List Value→ρ),forceA l k=k l
 | [],k=>rfl
 | v::l,k=>by simp only[forceA,forceV_eq,forceA_eq l]
noncomputable def memoR(r:Option ρ):Option ρ:=Option.rec (motive:=fun _=>Option ρ) none (fun x=>some x) r
theorem memoR_eq(r:Option ρ):memoR r=r:=by cases r <;> rfl
end
noncomputable def Pq(S:Cal→List Value→Hp→Nat→Res)(cal:Cal)(args:List Value)(H:Hp)(n:Nat):Res:=forceA args fun a=>memoR (S cal a H n)
theorem Pv(S:Cal→List Value→Hp→Nat→Res)(cal:Cal)(args:List Value)(H:Hp)(n:Nat):Pq S cal args H n=S cal args H n:=by
 unfold Pq
 rw[forceA_eq,memoR_eq]
theorem Ik{F f:Nat}{S:Cal→List Value→Hp→Nat→Res}(h:∀ cal args H n r,S cal args H n=some r→aY P cal A F f args H n=some r) :
  ∀ cal args H n r,Pq S cal args H n=some r→aY P cal A F f args H n=some r:=by
 intro cal args H n r e
 rw[Pv] at e
 exact h cal args H n r e
noncomputable def ent6(cal:Cal)(args:List Value)(H:Hp)(n:Nat):Res:=match args with
 | [v0,v1,v2]=>C6_0 cal KK v0 v1 v2 H n
 | _=>none
theorem ok6(args:List Value)(H:Hp)(n:Nat)(r:Value × Hp × Nat)(e:ent6 cal args H n=some r):aY P cal A (KK+1) 6 args H n=some r:=by
 unfold ent6 at e
 split at e
 ·exact(h6_0 ..).trans e
 ·cases e
noncomputable def ent15(cal:Cal)(args:List Value)(H:Hp)(n:Nat):Res:=match args with
 | [v0,v1]=>C15_0 cal KK v0 v1 H n
 | _=>none
theorem ok15(args:List Value)(H:Hp)(n:Nat)(r:Value × Hp × Nat)(e:ent15 cal args H n=some r):aY P cal A (KK+1) 15 args H n=some r:=by
 unfold ent15 at e
 split at e
 ·exact(h15_0 ..).trans e
 ·cases e
noncomputable def ent18(cal:Cal)(args:List Value)(H:Hp)(n:Nat):Res:=match args with
 | [v0]=>C18_0 cal KK v0 H n
 | _=>none
theorem ok18(args:List Value)(H:Hp)(n:Nat)(r:Value × Hp × Nat)(e:ent18 cal args H n=some r):aY P cal A (KK+1) 18 args H n=some r:=by
 unfold ent18 at e
 split at e
 ·exact(h18_0 ..).trans e
 ·cases e
noncomputable def ent20(cal:Cal)(args:List Value)(H:Hp)(n:Nat):Res:=match args with
 | [v0]=>C20_0 cal KK v0 H n
 | _=>none
theorem ok20(args:List Value)(H:Hp)(n:Nat)(r:Value × Hp × Nat)(e:ent20 cal args H n=some r):aY P cal A (KK+1) 20 args H n=some r:=by
 unfold ent20 at e
 split at e
 ·exact(h20_0 ..).trans e
 ·cases e
noncomputable def ent21(cal:Cal)(args:List Value)(H:Hp)(n:Nat):Res:=match args with
 | [v0,v1,v2]=>C21_0 cal KK v0 v1 v2 H n
 | _=>none
theorem ok21(args:List Value)(H:Hp)(n:Nat)(r:Value × Hp × Nat)(e:ent21 cal args H n=some r):aY P cal A (KK+1) 21 args H n=some r:=by
 unfold ent21 at e
 split at e
 ·exact(h21_0 ..).trans e
 ·cases e
noncomputable def ent23(cal:Cal)(args:List Value)(H:Hp)(n:Nat):Res:=match args with
 | [v0]=>Oy cal KK v0 H n
 | _=>none
theorem ok23(args:List Value)(H:Hp)(n:Nat)(r:Value × Hp × Nat)(e:ent23 cal args H n=some r):aY P cal A (KK+1) 23 args H n=some r:=by
 unfold ent23 at e
 split at e
 ·exact(h23_0 ..).trans e
 ·cases e
noncomputable def ent25(cal:Cal)(args:List Value)(H:Hp)(n:Nat):Res:=match args with
 | [v0,v1]=>C25_0 cal KK v0 v1 H n
 | _=>none
theorem ok25(args:List Value)(H:Hp)(n:Nat)(r:Value × Hp × Nat)(e:ent25 cal args H n=some r):aY P cal A (KK+1) 25 args H n=some r:=by
 unfold ent25 at e
 split at e
 ·exact(h25_0 ..).trans e
 ·cases e
noncomputable def ent26(cal:Cal)(args:List Value)(H:Hp)(n:Nat):Res:=match args with
 | [v0]=>C26_0 cal KK v0 H n
 | _=>none
theorem ok26(args:List Value)(H:Hp)(n:Nat)(r:Value × Hp × Nat)(e:ent26 cal args H n=some r):aY P cal A (KK+1) 26 args H n=some r:=by
 unfold ent26 at e
 split at e
 ·exact(h26_0 ..).trans e
 ·cases e
noncomputable def ent32(cal:Cal)(args:List Value)(H:Hp)(n:Nat):Res:=match args with
 | [v0,v1,v2]=>C32_0 cal KK v0 v1 v2 H n
 | _=>none
theorem ok32(args:List Value)(H:Hp)(n:Nat)(r:Value × Hp × Nat)(e:ent32 cal args H n=some r):aY P cal A (KK+1) 32 args H n=some r:=by
 unfold ent32 at e
 split at e
 ·exact(h32_0 ..).trans e
 ·cases e
noncomputable def ent33(cal:Cal)(args:List Value)(H:Hp)(n:Nat):Res:=match args with
 | [v0,v1,v2]=>C33_0 cal KK v0 v1 v2 H n
 | _=>none
theorem ok33(args:List Value)(H:Hp)(n:Nat)(r:Value × Hp × Nat)(e:ent33 cal args H n=some r):aY P cal A (KK+1) 33 args H n=some r:=by
 unfold ent33 at e
 split at e
 ·exact(h33_0 ..).trans e
 ·cases e
noncomputable def ent34(cal:Cal)(args:List Value)(H:Hp)(n:Nat):Res:=match args with
 | [v0,v1]=>C34_0 cal KK v0 v1 H n
 | _=>none
theorem ok34(args:List Value)(H:Hp)(n:Nat)(r:Value × Hp × Nat)(e:ent34 cal args H n=some r):aY P cal A (KK+1) 34 args H n=some r:=by
 unfold ent34 at e
 split at e
 ·exact(h34_0 ..).trans e
 ·cases e
noncomputable def ent35(cal:Cal)(args:List Value)(H:Hp)(n:Nat):Res:=match args with
 | [v0,v1]=>C35_0 cal KK v0 v1 H n
 | _=>none
theorem ok35(args:List Value)(H:Hp)(n:Nat)(r:Value × Hp × Nat)(e:ent35 cal args H n=some r):aY P cal A (KK+1) 35 args H n=some r:=by
 unfold ent35 at e
 split at e
 ·exact(h35_0 ..).trans e
 ·cases e
noncomputable def ent36(cal:Cal)(args:List Value)(H:Hp)(n:Nat):Res:=match args with
 | [v0]=>C36_0 cal KK v0 H n
 | _=>none
theorem ok36(args:List Value)(H:Hp)(n:Nat)(r:Value × Hp × Nat)(e:ent36 cal args H n=some r):aY P cal A (KK+1) 36 args H n=some r:=by
 unfold ent36 at e
 split at e
 ·exact(h36_0 ..).trans e
 ·cases e
noncomputable def ent37(cal:Cal)(args:List Value)(H:Hp)(n:Nat):Res:=match args with
 | [v0,v1]=>C37_0 cal KK v0 v1 H n
 | _=>none
theorem ok37(args:List Value)(H:Hp)(n:Nat)(r:Value × Hp × Nat)(e:ent37 cal args H n=some r):aY P cal A (KK+1) 37 args H n=some r:=by
 unfold ent37 at e
 split at e
 ·exact(h37_0 ..).trans e
 ·cases e
noncomputable def ent38(cal:Cal)(args:List Value)(H:Hp)(n:Nat):Res:=match args with
 | [v0,v1,v2]=>C38_0 cal KK v0 v1 v2 H n
 | _=>none
theorem ok38(args:List Value)(H:Hp)(n:Nat)(r:Value × Hp × Nat)(e:ent38 cal args H n=some r):aY P cal A (KK+1) 38 args H n=some r:=by
 unfold ent38 at e
 split at e
 ·exact(h38_0 ..).trans e
 ·cases e
noncomputable def ent39(cal:Cal)(args:List Value)(H:Hp)(n:Nat):Res:=match args with
 | [v0]=>C39_0 cal KK v0 H n
 | _=>none
theorem ok39(args:List Value)(H:Hp)(n:Nat)(r:Value × Hp × Nat)(e:ent39 cal args H n=some r):aY P cal A (KK+1) 39 args H n=some r:=by
 unfold ent39 at e
 split at e
 ·exact(h39_0 ..).trans e
 ·cases e
noncomputable def ent40(cal:Cal)(args:List Value)(H:Hp)(n:Nat):Res:=match args with
 | [v0,v1]=>C40_0 cal KK v0 v1 H n
 | _=>none
theorem ok40(args:List Value)(H:Hp)(n:Nat)(r:Value × Hp × Nat)(e:ent40 cal args H n=some r):aY P cal A (KK+1) 40 args H n=some r:=by
 unfold ent40 at e
 split at e
 ·exact(h40_0 ..).trans e
 ·cases e
noncomputable def ent41(cal:Cal)(args:List Value)(H:Hp)(n:Nat):Res:=match args with
 | [v0,v1]=>C41_0 cal KK v0 v1 H n
 | _=>none
theorem ok41(args:List Value)(H:Hp)(n:Nat)(r:Value × Hp × Nat)(e:ent41 cal args H n=some r):aY P cal A (KK+1) 41 args H n=some r:=by
 unfold ent41 at e
 split at e
 ·exact(h41_0 ..).trans e
 ·cases e
noncomputable def ent58(cal:Cal)(args:List Value)(H:Hp)(n:Nat):Res:=match args with
 | [v0,v1]=>C58_0 cal KK v0 v1 H n
 | _=>none
theorem ok58(args:List Value)(H:Hp)(n:Nat)(r:Value × Hp × Nat)(e:ent58 cal args H n=some r):aY P cal A (KK+1) 58 args H n=some r:=by
 unfold ent58 at e
 split at e
 ·exact(h58_0 ..).trans e
 ·cases e
noncomputable def ent60(cal:Cal)(args:List Value)(H:Hp)(n:Nat):Res:=match args with
 | [v0]=>C60_0 cal KK v0 H n
 | _=>none
theorem ok60(args:List Value)(H:Hp)(n:Nat)(r:Value × Hp × Nat)(e:ent60 cal args H n=some r):aY P cal A (KK+1) 60 args H n=some r:=by
 unfold ent60 at e
 split at e
 ·exact(h60_0 ..).trans e
 ·cases e
noncomputable def ent61(cal:Cal)(args:List Value)(H:Hp)(n:Nat):Res:=match args with
 | [v0]=>C61_0 cal KK v0 H n
 | _=>none
theorem ok61(args:List Value)(H:Hp)(n:Nat)(r:Value × Hp × Nat)(e:ent61 cal args H n=some r):aY P cal A (KK+1) 61 args H n=some r:=by
 unfold ent61 at e
 split at e
 ·exact(h61_0 ..).trans e
 ·cases e
noncomputable def ent62(cal:Cal)(args:List Value)(H:Hp)(n:Nat):Res:=match args with
 | [v0]=>C62_0 cal KK v0 H n
 | _=>none
theorem ok62(args:List Value)(H:Hp)(n:Nat)(r:Value × Hp × Nat)(e:ent62 cal args H n=some r):aY P cal A (KK+1) 62 args H n=some r:=by
 unfold ent62 at e
 split at e
 ·exact(h62_0 ..).trans e
 ·cases e
noncomputable def ent63(cal:Cal)(args:List Value)(H:Hp)(n:Nat):Res:=match args with
 | [v0]=>C63_0 cal KK v0 H n
 | _=>none
theorem ok63(args:List Value)(H:Hp)(n:Nat)(r:Value × Hp × Nat)(e:ent63 cal args H n=some r):aY P cal A (KK+1) 63 args H n=some r:=by
 unfold ent63 at e
 split at e
 ·exact(h63_0 ..).trans e
 ·cases e
noncomputable def ent64(cal:Cal)(args:List Value)(H:Hp)(n:Nat):Res:=match args with
 | [v0,v1,v2,v3,v4]=>C64_0 cal KK v0 v1 v2 v3 v4 H n
 | _=>none
theorem ok64(args:List Value)(H:Hp)(n:Nat)(r:Value × Hp × Nat)(e:ent64 cal args H n=some r):aY P cal A (KK+1) 64 args H n=some r:=by
 unfold ent64 at e
 split at e
 ·exact(h64_0 ..).trans e
 ·cases e
noncomputable def ent65(cal:Cal)(args:List Value)(H:Hp)(n:Nat):Res:=match args with
 | [v0,v1]=>C65_0 cal KK v0 v1 H n
 | _=>none
theorem ok65(args:List Value)(H:Hp)(n:Nat)(r:Value × Hp × Nat)(e:ent65 cal args H n=some r):aY P cal A (KK+1) 65 args H n=some r:=by
 unfold ent65 at e
 split at e
 ·exact(h65_0 ..).trans e
 ·cases e
noncomputable def ent71(cal:Cal)(args:List Value)(H:Hp)(n:Nat):Res:=match args with
 | [v0,v1]=>C71_0 cal KK v0 v1 H n
 | _=>none
theorem ok71(args:List Value)(H:Hp)(n:Nat)(r:Value × Hp × Nat)(e:ent71 cal args H n=some r):aY P cal A (KK+1) 71 args H n=some r:=by
 unfold ent71 at e
 split at e
 ·exact(h71_0 ..).trans e
 ·cases e
noncomputable def ent72(cal:Cal)(args:List Value)(H:Hp)(n:Nat):Res:=match args with
 | [v0]=>C72_0 cal KK v0 H n
 | _=>none
theorem ok72(args:List Value)(H:Hp)(n:Nat)(r:Value × Hp × Nat)(e:ent72 cal args H n=some r):aY P cal A (KK+1) 72 args H n=some r:=by
 unfold ent72 at e
 split at e
 ·exact(h72_0 ..).trans e
 ·cases e
noncomputable def ent73(cal:Cal)(args:List Value)(H:Hp)(n:Nat):Res:=match args with
 | [v0]=>C73_0 cal KK v0 H n
 | _=>none
theorem ok73(args:List Value)(H:Hp)(n:Nat)(r:Value × Hp × Nat)(e:ent73 cal args H n=some r):aY P cal A (KK+1) 73 args H n=some r:=by
 unfold ent73 at e
 split at e
 ·exact(h73_0 ..).trans e
 ·cases e
noncomputable def ent74(cal:Cal)(args:List Value)(H:Hp)(n:Nat):Res:=match args with
 | [v0,v1]=>C74_0 cal KK v0 v1 H n
 | _=>none
theorem ok74(args:List Value)(H:Hp)(n:Nat)(r:Value × Hp × Nat)(e:ent74 cal args H n=some r):aY P cal A (KK+1) 74 args H n=some r:=by
 unfold ent74 at e
 split at e
 ·exact(h74_0 ..).trans e
 ·cases e
noncomputable def ent77(cal:Cal)(args:List Value)(H:Hp)(n:Nat):Res:=match args with
 | [v0,v1,v2,v3]=>C77_0 cal KK v0 v1 v2 v3 H n
 | _=>none
theorem ok77(args:List Value)(H:Hp)(n:Nat)(r:Value × Hp × Nat)(e:ent77 cal args H n=some r):aY P cal A (KK+1) 77 args H n=some r:=by
 unfold ent77 at e
 split at e
 ·exact(h77_0 ..).trans e
 ·cases e
noncomputable def ent78(cal:Cal)(args:List Value)(H:Hp)(n:Nat):Res:=match args with
 | [v0,v1]=>C78_0 cal KK v0 v1 H n []
 | _=>none
theorem ok78(args:List Value)(H:Hp)(n:Nat)(r:Value × Hp × Nat)(e:ent78 cal args H n=some r):aY P cal A (KK+1) 78 args H n=some r:=by
 unfold ent78 at e
 split at e
 ·exact(h78_0 ..).trans e
 ·cases e
noncomputable def ent79(cal:Cal)(args:List Value)(H:Hp)(n:Nat):Res:=match args with
 | [v0,v1,v2]=>C79_0 cal KK v0 v1 v2 H n
 | _=>none
theorem ok79(args:List Value)(H:Hp)(n:Nat)(r:Value × Hp × Nat)(e:ent79 cal args H n=some r):aY P cal A (KK+1) 79 args H n=some r:=by
 unfold ent79 at e
 split at e
 ·exact(h79_0 ..).trans e
 ·cases e
noncomputable def ent80(cal:Cal)(args:List Value)(H:Hp)(n:Nat):Res:=match args with
 | [v0,v1]=>C80_0 cal KK v0 v1 H n
 | _=>none
theorem ok80(args:List Value)(H:Hp)(n:Nat)(r:Value × Hp × Nat)(e:ent80 cal args H n=some r):aY P cal A (KK+1) 80 args H n=some r:=by
 unfold ent80 at e
 split at e
 ·exact(h80_0 ..).trans e
 ·cases e
noncomputable def ent89(cal:Cal)(args:List Value)(H:Hp)(n:Nat):Res:=match args with
 | [v0,v1,v2]=>C89_0 cal KK v0 v1 v2 H n
 | _=>none
theorem ok89(args:List Value)(H:Hp)(n:Nat)(r:Value × Hp × Nat)(e:ent89 cal args H n=some r):aY P cal A (KK+1) 89 args H n=some r:=by
 unfold ent89 at e
 split at e
 ·exact(h89_0 ..).trans e
 ·cases e
noncomputable def ent91(cal:Cal)(args:List Value)(H:Hp)(n:Nat):Res:=match args with
 | [v0,v1]=>C91_0 cal KK v0 v1 H n
 | _=>none
theorem ok91(args:List Value)(H:Hp)(n:Nat)(r:Value × Hp × Nat)(e:ent91 cal args H n=some r):aY P cal A (KK+1) 91 args H n=some r:=by
 unfold ent91 at e
 split at e
 ·exact(h91_0 ..).trans e
 ·cases e
noncomputable def ent92(cal:Cal)(args:List Value)(H:Hp)(n:Nat):Res:=match args with
 | [v0]=>C92_0 cal KK v0 H n
 | _=>none
theorem ok92(args:List Value)(H:Hp)(n:Nat)(r:Value × Hp × Nat)(e:ent92 cal args H n=some r):aY P cal A (KK+1) 92 args H n=some r:=by
 unfold ent92 at e
 split at e
 ·exact(h92_0 ..).trans e
 ·cases e
noncomputable def ent93(cal:Cal)(args:List Value)(H:Hp)(n:Nat):Res:=match args with
 | [v0,v1]=>C93_0 cal KK v0 v1 H n
 | _=>none
theorem ok93(args:List Value)(H:Hp)(n:Nat)(r:Value × Hp × Nat)(e:ent93 cal args H n=some r):aY P cal A (KK+1) 93 args H n=some r:=by
 unfold ent93 at e
 split at e
 ·exact(h93_0 ..).trans e
 ·cases e
noncomputable def ent94(cal:Cal)(args:List Value)(H:Hp)(n:Nat):Res:=match args with
 | [v0,v1]=>C94_0 cal KK v0 v1 H n
 | _=>none
theorem ok94(args:List Value)(H:Hp)(n:Nat)(r:Value × Hp × Nat)(e:ent94 cal args H n=some r):aY P cal A (KK+1) 94 args H n=some r:=by
 unfold ent94 at e
 split at e
 ·exact(h94_0 ..).trans e
 ·cases e
noncomputable def ent95(cal:Cal)(args:List Value)(H:Hp)(n:Nat):Res:=match args with
 | [v0,v1]=>C95_0 cal KK v0 v1 H n
 | _=>none
theorem ok95(args:List Value)(H:Hp)(n:Nat)(r:Value × Hp × Nat)(e:ent95 cal args H n=some r):aY P cal A (KK+1) 95 args H n=some r:=by
 unfold ent95 at e
 split at e
 ·exact(h95_0 ..).trans e
 ·cases e
noncomputable def ent96(cal:Cal)(args:List Value)(H:Hp)(n:Nat):Res:=match args with
 | [v0]=>C96_0 cal KK v0 H n
 | _=>none
theorem ok96(args:List Value)(H:Hp)(n:Nat)(r:Value × Hp × Nat)(e:ent96 cal args H n=some r):aY P cal A (KK+1) 96 args H n=some r:=by
 unfold ent96 at e
 split at e
 ·exact(h96_0 ..).trans e
 ·cases e
noncomputable def ent98(cal:Cal)(args:List Value)(H:Hp)(n:Nat):Res:=match args with
 | [v0,v1]=>C98_0 cal KK v0 v1 H n
 | _=>none
theorem ok98(args:List Value)(H:Hp)(n:Nat)(r:Value × Hp × Nat)(e:ent98 cal args H n=some r):aY P cal A (KK+1) 98 args H n=some r:=by
 unfold ent98 at e
 split at e
 ·exact(h98_0 ..).trans e
 ·cases e
noncomputable def ent99(cal:Cal)(args:List Value)(H:Hp)(n:Nat):Res:=match args with
 | [v0,v1]=>C99_0 cal KK v0 v1 H n
 | _=>none
theorem ok99(args:List Value)(H:Hp)(n:Nat)(r:Value × Hp × Nat)(e:ent99 cal args H n=some r):aY P cal A (KK+1) 99 args H n=some r:=by
 unfold ent99 at e
 split at e
 ·exact(h99_0 ..).trans e
 ·cases e
noncomputable def ent100(cal:Cal)(args:List Value)(H:Hp)(n:Nat):Res:=match args with
 | [v0,v1]=>YJ cal KK v0 v1 H n
 | _=>none
theorem ok100(args:List Value)(H:Hp)(n:Nat)(r:Value × Hp × Nat)(e:ent100 cal args H n=some r):aY P cal A (KK+1) 100 args H n=some r:=by
 unfold ent100 at e
 split at e
 ·exact(h100_0 ..).trans e
 ·cases e
noncomputable def ent101(cal:Cal)(args:List Value)(H:Hp)(n:Nat):Res:=match args with
 | []=>C101_0 cal KK  H n
 | _=>none
theorem ok101(args:List Value)(H:Hp)(n:Nat)(r:Value × Hp × Nat)(e:ent101 cal args H n=some r):aY P cal A (KK+1) 101 args H n=some r:=by
 unfold ent101 at e
 split at e
 ·exact(h101_0 ..).trans e
 ·cases e
noncomputable def ent102(cal:Cal)(args:List Value)(H:Hp)(n:Nat):Res:=match args with
 | [v0,v1,v2]=>YQ cal KK v0 v1 v2 H n
 | _=>none
theorem ok102(args:List Value)(H:Hp)(n:Nat)(r:Value × Hp × Nat)(e:ent102 cal args H n=some r):aY P cal A (KK+1) 102 args H n=some r:=by
 unfold ent102 at e
 split at e
 ·exact(h102_0 ..).trans e
 ·cases e
noncomputable def ent104(cal:Cal)(args:List Value)(H:Hp)(n:Nat):Res:=match args with
 | [v0,v1,v2]=>YW cal KK v0 v1 v2 H n
 | _=>none
theorem ok104(args:List Value)(H:Hp)(n:Nat)(r:Value × Hp × Nat)(e:ent104 cal args H n=some r):aY P cal A (KK+1) 104 args H n=some r:=by
 unfold ent104 at e
 split at e
 ·exact(h104_0 ..).trans e
 ·cases e
noncomputable def ent105(cal:Cal)(args:List Value)(H:Hp)(n:Nat):Res:=match args with
 | [v0,v1]=>YX cal KK v0 v1 H n
 | _=>none
theorem ok105(args:List Value)(H:Hp)(n:Nat)(r:Value × Hp × Nat)(e:ent105 cal args H n=some r):aY P cal A (KK+1) 105 args H n=some r:=by
 unfold ent105 at e
 split at e
 ·exact(h105_0 ..).trans e
 ·cases e
noncomputable def ent106(cal:Cal)(args:List Value)(H:Hp)(n:Nat):Res:=match args with
 | [v0,v1]=>YY cal KK v0 v1 H n
 | _=>none
theorem ok106(args:List Value)(H:Hp)(n:Nat)(r:Value × Hp × Nat)(e:ent106 cal args H n=some r):aY P cal A (KK+1) 106 args H n=some r:=by
 unfold ent106 at e
 split at e
 ·exact(h106_0 ..).trans e
 ·cases e
noncomputable def ent107(cal:Cal)(args:List Value)(H:Hp)(n:Nat):Res:=match args with
 | [v0]=>YK cal KK v0 H n
 | _=>none
theorem ok107(args:List Value)(H:Hp)(n:Nat)(r:Value × Hp × Nat)(e:ent107 cal args H n=some r):aY P cal A (KK+1) 107 args H n=some r:=by
 unfold ent107 at e
 split at e
 ·exact(h107_0 ..).trans e
 ·cases e
noncomputable def ent108(cal:Cal)(args:List Value)(H:Hp)(n:Nat):Res:=match args with
 | [v0,v1,v2]=>Zj cal KK v0 v1 v2 H n []
 | _=>none
theorem ok108(args:List Value)(H:Hp)(n:Nat)(r:Value × Hp × Nat)(e:ent108 cal args H n=some r):aY P cal A (KK+1) 108 args H n=some r:=by
 unfold ent108 at e
 split at e
 ·exact(h108_0 ..).trans e
 ·cases e
noncomputable def ent109(cal:Cal)(args:List Value)(H:Hp)(n:Nat):Res:=match args with
 | [v0,v1,v2]=>Zv cal KK v0 v1 v2 H n
 | _=>none
theorem ok109(args:List Value)(H:Hp)(n:Nat)(r:Value × Hp × Nat)(e:ent109 cal args H n=some r):aY P cal A (KK+1) 109 args H n=some r:=by
 unfold ent109 at e
 split at e
 ·exact(h109_0 ..).trans e
 ·cases e
noncomputable def ent113(cal:Cal)(args:List Value)(H:Hp)(n:Nat):Res:=match args with
 | [v0,v1]=>C113_0 cal KK v0 v1 H n
 | _=>none
theorem ok113(args:List Value)(H:Hp)(n:Nat)(r:Value × Hp × Nat)(e:ent113 cal args H n=some r):aY P cal A (KK+1) 113 args H n=some r:=by
 unfold ent113 at e
 split at e
 ·exact(h113_0 ..).trans e
 ·cases e
noncomputable def ent114(cal:Cal)(args:List Value)(H:Hp)(n:Nat):Res:=match args with
 | [v0]=>Zw cal KK v0 H n
 | _=>none
theorem ok114(args:List Value)(H:Hp)(n:Nat)(r:Value × Hp × Nat)(e:ent114 cal args H n=some r):aY P cal A (KK+1) 114 args H n=some r:=by
 unfold ent114 at e
 split at e
 ·exact(h114_0 ..).trans e
 ·cases e
noncomputable def ent115(cal:Cal)(args:List Value)(H:Hp)(n:Nat):Res:=match args with
 | [v0,v1]=>Zy cal KK v0 v1 H n
 | _=>none
theorem ok115(args:List Value)(H:Hp)(n:Nat)(r:Value × Hp × Nat)(e:ent115 cal args H n=some r):aY P cal A (KK+1) 115 args H n=some r:=by
 unfold ent115 at e
 split at e
 ·exact(h115_0 ..).trans e
 ·cases e
noncomputable def ent116(cal:Cal)(args:List Value)(H:Hp)(n:Nat):Res:=match args with
 | [v0]=>Zz cal KK v0 H n
 | _=>none
theorem ok116(args:List Value)(H:Hp)(n:Nat)(r:Value × Hp × Nat)(e:ent116 cal args H n=some r):aY P cal A (KK+1) 116 args H n=some r:=by
 unfold ent116 at e
 split at e
 ·exact(h116_0 ..).trans e
 ·cases e
noncomputable def ent119(cal:Cal)(args:List Value)(H:Hp)(n:Nat):Res:=match args with
 | [v0,v1,v2]=>TV cal KK v0 v1 v2 H n
 | _=>none
theorem ok119(args:List Value)(H:Hp)(n:Nat)(r:Value × Hp × Nat)(e:ent119 cal args H n=some r):aY P cal A (KK+1) 119 args H n=some r:=by
 unfold ent119 at e
 split at e
 ·exact(h119_0 ..).trans e
 ·cases e
noncomputable def ent120(cal:Cal)(args:List Value)(H:Hp)(n:Nat):Res:=match args with
 | [v0,v1,v2]=>ZQ cal KK v0 v1 v2 H n
 | _=>none
theorem ok120(args:List Value)(H:Hp)(n:Nat)(r:Value × Hp × Nat)(e:ent120 cal args H n=some r):aY P cal A (KK+1) 120 args H n=some r:=by
 unfold ent120 at e
 split at e
 ·exact(h120_0 ..).trans e
 ·cases e
noncomputable def ent121(cal:Cal)(args:List Value)(H:Hp)(n:Nat):Res:=match args with
 | []=>ZV cal KK  H n
 | _=>none
theorem ok121(args:List Value)(H:Hp)(n:Nat)(r:Value × Hp × Nat)(e:ent121 cal args H n=some r):aY P cal A (KK+1) 121 args H n=some r:=by
 unfold ent121 at e
 split at e
 ·exact(h121_0 ..).trans e
 ·cases e
noncomputable def ent122(cal:Cal)(args:List Value)(H:Hp)(n:Nat):Res:=match args with
 | []=>ZW cal KK  H n
 | _=>none
theorem ok122(args:List Value)(H:Hp)(n:Nat)(r:Value × Hp × Nat)(e:ent122 cal args H n=some r):aY P cal A (KK+1) 122 args H n=some r:=by
 unfold ent122 at e
 split at e
 ·exact(h122_0 ..).trans e
 ·cases e
noncomputable def ent123(cal:Cal)(args:List Value)(H:Hp)(n:Nat):Res:=match args with
 | [v0,v1,v2,v3,v4]=>Pj cal KK v0 v1 v2 v3 v4 H n
 | _=>none
theorem ok123(args:List Value)(H:Hp)(n:Nat)(r:Value × Hp × Nat)(e:ent123 cal args H n=some r):aY P cal A (KK+1) 123 args H n=some r:=by
 unfold ent123 at e
 split at e
 ·exact(h123_0 ..).trans e
 ·cases e
noncomputable def tab:Tr (Cal→List Value→Hp→Nat→Res):=Tr.set (Tr.set (Tr.set (Tr.set (Tr.set (Tr.set (Tr.set (Tr.set (Tr.set (Tr.set (Tr.set (Tr.set (Tr.set (Tr.set (Tr.set (Tr.set (Tr.set (Tr.set (Tr.set (Tr.set (Tr.set (Tr.set (Tr.set (Tr.set (Tr.set (Tr.set (Tr.set (Tr.set (Tr.set (Tr.set (Tr.set (Tr.set (Tr.set (Tr.set (Tr.set (Tr.set (Tr.set (Tr.set (Tr.set (Tr.set (Tr.set (Tr.set (Tr.set (Tr.set (Tr.set (Tr.set (Tr.set (Tr.set (Tr.set (Tr.set (Tr.set (Tr.set (Tr.set (Tr.set (Tr.set (Tr.set (Tr.set (Tr.set (Tr.set (Tr.set (.nil) 6 (some ent6)) 15 (some ent15)) 18 (some ent18)) 20 (some ent20)) 21 (some ent21)) 23 (some ent23)) 25 (some ent25)) 26 (some ent26)) 32 (some ent32)) 33 (some ent33)) 34 (some ent34)) 35 (some ent35)) 36 (some ent36)) 37 (some ent37)) 38 (some ent38)) 39 (some ent39)) 40 (some ent40)) 41 (some ent41)) 58 (some ent58)) 60 (some ent60)) 61 (some ent61)) 62 (some (Pq ent62))) 63 (some ent63)) 64 (some ent64)) 65 (some ent65)) 71 (some ent71)) 72 (some ent72)) 73 (some ent73)) 74 (some ent74)) 77 (some ent77)) 78 (some ent78)) 79 (some ent79)) 80 (some ent80)) 89 (some ent89)) 91 (some ent91)) 92 (some ent92)) 93 (some ent93)) 94 (some ent94)) 95 (some ent95)) 96 (some ent96)) 98 (some (Pq ent98))) 99 (some ent99)) 100 (some ent100)) 101 (some ent101)) 102 (some ent102)) 104 (some ent104)) 105 (some ent105)) 106 (some ent106)) 107 (some ent107)) 108 (some ent108)) 109 (some ent109)) 113 (some ent113)) 114 (some ent114)) 115 (some (Pq ent115))) 116 (some ent116)) 119 (some ent119)) 120 (some (Pq ent120))) 121 (some ent121)) 122 (some ent122)) 123 (some ent123)
theorem tab_ok:TblOk P A (KK+1) tab.get:=bZ (bZ (bZ (bZ (bZ (bZ (bZ (bZ (bZ (bZ (bZ (bZ (bZ (bZ (bZ (bZ (bZ (bZ (bZ (bZ (bZ (bZ (bZ (bZ (bZ (bZ (bZ (bZ (bZ (bZ (bZ (bZ (bZ (bZ (bZ (bZ (bZ (bZ (bZ (bZ (bZ (bZ (bZ (bZ (bZ (bZ (bZ (bZ (bZ (bZ (bZ (bZ (bZ (bZ (bZ (bZ (bZ (bZ (bZ (bZ (tbl_nil _) ok6) ok15) ok18) ok20) ok21) ok23) ok25) ok26) ok32) ok33) ok34) ok35) ok36) ok37) ok38) ok39) ok40) ok41) ok58) ok60) ok61) (Ik ok62)) ok63) ok64) ok65) ok71) ok72) ok73) ok74) ok77) ok78) ok79) ok80) ok89) ok91) ok92) ok93) ok94) ok95) ok96) (Ik ok98)) ok99) ok100) ok101) ok102) ok104) ok105) ok106) ok107) ok108) ok109) ok113) ok114) (Ik ok115)) ok116) ok119) (Ik ok120)) ok121) ok122) ok123
end Go.Proofs.Ytmjbdjnnojfhkaa.G
