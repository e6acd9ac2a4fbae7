/- In each valid field, and for each valid plan cut at any week, the pads on which a moth may be after the first part, and after the second part from there, are those of the whole plan: PreyPartsSaid, for all arguments, without conditions. -/
import Derived.Test.YtnnkcjolgbpklaaGreatRows
import Derived.WalkKit
import Derived.ProofKit
import Derived.OpenShut
import Derived.Test.YtnnkcjolgbpklaaGreatC10
set_option linter.unusedVariables false
section
open Go Go.Ev
noncomputable section
namespace Go.Proofs.YtnnkcjolgbpklaaGreat.L
noncomputable def man:Man:=fun l f=>match Nat.beq f 16 with
  | true=>match Nat.beq l 39 with
    | true=>some fun ds=>match ds with
      | []=>some (.v (.bool true))
      | _=>none
    | false=>some fun _=>none
  | false=>none
abbrev K (l:Nat):PC:=pcR P LA 20000 man l
abbrev Rg (l:Nat):PC:=rgR P LA 20000 man l
theorem c14 {l:Nat} {v0 v1 v2:D}:K (l+1) 14 [v0,v1,v2]=C14_0 (K l) 19999 v0 v1 v2:=(pcR_succ rfl).trans (h14_0 ..)
theorem c15 {l:Nat} {v0 v1:D}:K (l+1) 15 [v0,v1]=C15_0 (K l) 19999 v0 v1:=(pcR_succ rfl).trans (h15_0 ..)
theorem c18 {l:Nat} {v0:D}:K (l+1) 18 [v0]=C18_0 (K l) 19999 v0:=(pcR_succ rfl).trans (h18_0 ..)
theorem c19 {l:Nat} {v0 v1:D}:K (l+1) 19 [v0,v1]=C19_0 (K l) 19999 v0 v1:=(pcR_succ rfl).trans (h19_0 ..)
theorem c20 {l:Nat} {v0:D}:K (l+1) 20 [v0]=C20_0 (K l) 19999 v0:=(pcR_succ rfl).trans (h20_0 ..)
theorem c21 {l:Nat} {v0:D}:K (l+1) 21 [v0]=C21_0 (K l) 19999 v0:=(pcR_succ rfl).trans (h21_0 ..)
theorem c22 {l:Nat} {v0 v1:D}:K (l+1) 22 [v0,v1]=C22_0 (K l) 19999 v0 v1:=(pcR_succ rfl).trans (h22_0 ..)
theorem c23 {l:Nat} {v0 v1:D}:K (l+1) 23 [v0,v1]=C23_0 (K l) 19999 v0 v1:=(pcR_succ rfl).trans (h23_0 ..)
theorem c27 {l:Nat} {v0:D}:K (l+1) 27 [v0]=C27_0 (K l) 19999 v0:=(pcR_succ rfl).trans (h27_0 ..)
theorem c35 {l:Nat} {v0 v1 v2:D}:K (l+1) 35 [v0,v1,v2]=C35_0 (K l) 19999 v0 v1 v2:=(pcR_succ rfl).trans (h35_0 ..)
theorem c37 {l:Nat} {v0 v1:D}:K (l+1) 37 [v0,v1]=C37_0 (K l) 19999 v0 v1:=(pcR_succ rfl).trans (h37_0 ..)
theorem c48 {l:Nat} {v0 v1:D}:K (l+1) 48 [v0,v1]=C48_0 (K l) 19999 v0 v1:=(pcR_succ rfl).trans (h48_0 ..)
theorem c51 {l:Nat} {v0 v1:D}:K (l+1) 51 [v0,v1]=C51_0 (K l) 19999 v0 v1:=(pcR_succ rfl).trans (h51_0 ..)
theorem c52 {l:Nat} {v0:D}:K (l+1) 52 [v0]=C52_0 (K l) 19999 v0:=(pcR_succ rfl).trans (h52_0 ..)
theorem c55 {l:Nat} {v0:D}:K (l+1) 55 [v0]=C55_0 (K l) 19999 v0:=(pcR_succ rfl).trans (h55_0 ..)
theorem c56 {l:Nat} {v0:D}:K (l+1) 56 [v0]=C56_0 (K l) 19999 v0:=(pcR_succ rfl).trans (h56_0 ..)
theorem c57 {l:Nat} {v0 v1:D}:K (l+1) 57 [v0,v1]=C57_0 (K l) 19999 v0 v1:=(pcR_succ rfl).trans (h57_0 ..)
theorem c58 {l:Nat} {v0:D}:K (l+1) 58 [v0]=C58_0 (K l) 19999 v0:=(pcR_succ rfl).trans (h58_0 ..)
theorem c59 {l:Nat} {v0 v1:D}:K (l+1) 59 [v0,v1]=C59_0 (K l) 19999 v0 v1:=(pcR_succ rfl).trans (h59_0 ..)
theorem c60 {l:Nat} {v0:D}:K (l+1) 60 [v0]=C60_0 (K l) 19999 v0:=(pcR_succ rfl).trans (h60_0 ..)
theorem c61 {l:Nat} {v0 v1:D}:K (l+1) 61 [v0,v1]=C61_0 (K l) 19999 v0 v1:=(pcR_succ rfl).trans (h61_0 ..)
theorem c66 {l:Nat} {v0:D}:K (l+1) 66 [v0]=C66_0 (K l) 19999 v0:=(pcR_succ rfl).trans (h66_0 ..)
theorem c77 {l:Nat} {v0:D}:K (l+1) 77 [v0]=C77_0 (K l) 19999 v0:=(pcR_succ rfl).trans (h77_0 ..)
theorem c78 {l:Nat} {v0 v1:D}:K (l+1) 78 [v0,v1]=C78_0 (K l) 19999 v0 v1:=(pcR_succ rfl).trans (h78_0 ..)
theorem c79 {l:Nat} {v0 v1:D}:K (l+1) 79 [v0,v1]=C79_0 (K l) 19999 v0 v1:=(pcR_succ rfl).trans (h79_0 ..)
theorem c80 {l:Nat} {v0:D}:K (l+1) 80 [v0]=C80_0 (K l) 19999 v0:=(pcR_succ rfl).trans (h80_0 ..)
theorem c81 {l:Nat} {v0:D}:K (l+1) 81 [v0]=C81_0 (K l) 19999 v0:=(pcR_succ rfl).trans (h81_0 ..)
theorem c82 {l:Nat} {v0 v1:D}:K (l+1) 82 [v0,v1]=C82_0 (K l) 19999 v0 v1:=(pcR_succ rfl).trans (h82_0 ..)
theorem c83 {l:Nat} {v0:D}:K (l+1) 83 [v0]=C83_0 (K l) 19999 v0:=(pcR_succ rfl).trans (h83_0 ..)
theorem c84 {l:Nat} {v0:D}:K (l+1) 84 [v0]=C84_0 (K l) 19999 v0:=(pcR_succ rfl).trans (h84_0 ..)
theorem c85 {l:Nat} {v0 v1:D}:K (l+3) 85 [v0,v1]=C85_0 (K (l+2)) (Rg (l+1)) (K l) 19999 v0 v1:=(pcR_succ rfl).trans (h85_0 ..)
theorem c86 {l:Nat} {v0 v1:D}:K (l+1) 86 [v0,v1]=C86_0 (K l) 19999 v0 v1:=(pcR_succ rfl).trans (h86_0 ..)
theorem c87 {l:Nat} {v0:D}:K (l+1) 87 [v0]=C87_0 (K l) 19999 v0:=(pcR_succ rfl).trans (h87_0 ..)
theorem c88 {l:Nat} {v0 v1:D}:K (l+1) 88 [v0,v1]=C88_0 (K l) 19999 v0 v1:=(pcR_succ rfl).trans (h88_0 ..)
theorem c93 {l:Nat} {v0 v1:D}:K (l+1) 93 [v0,v1]=C93_0 (K l) 19999 v0 v1:=(pcR_succ rfl).trans (h93_0 ..)
theorem c94 {l:Nat} {v0 v1:D}:K (l+1) 94 [v0,v1]=C94_0 (K l) 19999 v0 v1:=(pcR_succ rfl).trans (h94_0 ..)
theorem c95 {l:Nat} {v0 v1:D}:K (l+1) 95 [v0,v1]=C95_0 (K l) 19999 v0 v1:=(pcR_succ rfl).trans (h95_0 ..)
theorem c102 {l:Nat} {v0:D}:K (l+1) 102 [v0]=C102_0 (K l) 19999 v0:=(pcR_succ rfl).trans (h102_0 ..)
theorem c103 {l:Nat} {v0:D}:K (l+1) 103 [v0]=C103_0 (K l) 19999 v0:=(pcR_succ rfl).trans (h103_0 ..)
theorem c104 {l:Nat} {v0 v1:D}:K (l+1) 104 [v0,v1]=C104_0 (K l) 19999 v0 v1:=(pcR_succ rfl).trans (h104_0 ..)
theorem c105 {l:Nat} {v0 v1:D}:K (l+1) 105 [v0,v1]=C105_0 (K l) 19999 v0 v1:=(pcR_succ rfl).trans (h105_0 ..)
theorem c113 {l:Nat} {v0 v1:D}:K (l+1) 113 [v0,v1]=C113_0 (K l) 19999 v0 v1:=(pcR_succ rfl).trans (h113_0 ..)
theorem c114 {l:Nat} {v0:D}:K (l+1) 114 [v0]=C114_0 (K l) 19999 v0:=(pcR_succ rfl).trans (h114_0 ..)
theorem c115 {l:Nat} {v0 v1:D}:K (l+1) 115 [v0,v1]=C115_0 (K l) 19999 v0 v1:=(pcR_succ rfl).trans (h115_0 ..)
theorem c116 {l:Nat} {v0 v1:D}:K (l+1) 116 [v0,v1]=C116_0 (K l) 19999 v0 v1:=(pcR_succ rfl).trans (h116_0 ..)
theorem c117 {l:Nat} {v0 v1:D}:K (l+1) 117 [v0,v1]=C117_0 (K l) 19999 v0 v1:=(pcR_succ rfl).trans (h117_0 ..)
theorem c118 {l:Nat} {v0:D}:K (l+1) 118 [v0]=C118_0 (K l) 19999 v0:=(pcR_succ rfl).trans (h118_0 ..)
theorem c119 {l:Nat} {v0:Nat} {v1:D} {v2:D}:Rg l 119 [.yld v0,v1,v2]=C119_0 (K l) 19999 v0 v1 v2:=h119_0 ..
theorem c128 {l:Nat} {v0 v1:D}:K (l+1) 128 [v0,v1]=C128_0 (K l) 19999 v0 v1:=(pcR_succ rfl).trans (h128_0 ..)
theorem c129 {l:Nat} {v0:D}:K (l+1) 129 [v0]=C129_0 (K l) 19999 v0:=(pcR_succ rfl).trans (h129_0 ..)
theorem r20_1 (pc:FuncId→List D→Option D) (k:Nat) {m:Nat}:S20_1 pc k (m+1)=C20_1 pc k (m+1) (S20_1 pc k m):=rfl
theorem r23_1 (pc:FuncId→List D→Option D) (k:Nat) {m:Nat}:S23_1 pc k (m+1)=C23_1 pc k (m+1) (S23_1 pc k m):=rfl
theorem r48_1 (pc:FuncId→List D→Option D) (k:Nat) {m:Nat}:S48_1 pc k (m+1)=C48_1 pc k (m+1) (S48_1 pc k m):=rfl
theorem r52_1 (pc:FuncId→List D→Option D) (k:Nat) {m:Nat}:S52_1 pc k (m+1)=C52_1 pc k (m+1) (S52_1 pc k m):=rfl
theorem r56_3 (pc:FuncId→List D→Option D) (k:Nat) {m:Nat}:S56_3 pc k (m+1)=C56_3 pc k (m+1) (S56_3 pc k m):=rfl
theorem r56_2 (pc:FuncId→List D→Option D) (k:Nat) {m:Nat}:S56_2 pc k (m+1)=C56_2 pc k (m+1) (S56_2 pc k m):=rfl
theorem r56_1 (pc:FuncId→List D→Option D) (k:Nat) {m:Nat}:S56_1 pc k (m+1)=C56_1 pc k (m+1) (S56_1 pc k m):=rfl
theorem r57_1 (pc:FuncId→List D→Option D) (k:Nat) {m:Nat}:S57_1 pc k (m+1)=C57_1 pc k (m+1) (S57_1 pc k m):=rfl
theorem r58_1 (pc:FuncId→List D→Option D) (k:Nat) {m:Nat}:S58_1 pc k (m+1)=C58_1 pc k (m+1) (S58_1 pc k m):=rfl
theorem r59_1 (pc:FuncId→List D→Option D) (k:Nat) {m:Nat}:S59_1 pc k (m+1)=C59_1 pc k (m+1) (S59_1 pc k m):=rfl
theorem r60_2 (pc:FuncId→List D→Option D) (k:Nat) {m:Nat}:S60_2 pc k (m+1)=C60_2 pc k (m+1) (S60_2 pc k m):=rfl
theorem r61_1 (pc:FuncId→List D→Option D) (k:Nat) {m:Nat}:S61_1 pc k (m+1)=C61_1 pc k (m+1) (S61_1 pc k m):=rfl
theorem r66_2 (pc:FuncId→List D→Option D) (k:Nat) {m:Nat}:S66_2 pc k (m+1)=C66_2 pc k (m+1) (S66_2 pc k m):=rfl
theorem r66_1 (pc:FuncId→List D→Option D) (k:Nat) {m:Nat}:S66_1 pc k (m+1)=C66_1 pc k (m+1) (S66_1 pc k m):=rfl
theorem r79_1 (pc:FuncId→List D→Option D) (k:Nat) {m:Nat}:S79_1 pc k (m+1)=C79_1 pc k (m+1) (S79_1 pc k m):=rfl
theorem r82_1 (pc:FuncId→List D→Option D) (k:Nat) {m:Nat}:S82_1 pc k (m+1)=C82_1 pc k (m+1) (S82_1 pc k m):=rfl
theorem r83_1 (pc:FuncId→List D→Option D) (k:Nat) {m:Nat}:S83_1 pc k (m+1)=C83_1 pc k (m+1) (S83_1 pc k m):=rfl
theorem r84_1 (pc:FuncId→List D→Option D) (k:Nat) {m:Nat}:S84_1 pc k (m+1)=C84_1 pc k (m+1) (S84_1 pc k m):=rfl
theorem r87_8 (pc:FuncId→List D→Option D) (k:Nat) (m1:Nat) (b6:(D→List D→Option D)) {m:Nat}:S87_8 pc k m1 b6 (m+1)=C87_8 pc k m1 (m+1) b6 (S87_8 pc k m1 b6 m):=rfl
theorem r87_6 (pc:FuncId→List D→Option D) (k:Nat) {m:Nat}:S87_6 pc k (m+1)=C87_6 pc k (m+1) (S87_6 pc k m):=rfl
theorem r87_4 (pc:FuncId→List D→Option D) (k:Nat) {m:Nat}:S87_4 pc k (m+1)=C87_4 pc k (m+1) (S87_4 pc k m):=rfl
theorem r87_3 (pc:FuncId→List D→Option D) (k:Nat) {m:Nat}:S87_3 pc k (m+1)=C87_3 pc k (m+1) (S87_3 pc k m):=rfl
theorem r88_1 (pc:FuncId→List D→Option D) (k:Nat) {m:Nat}:S88_1 pc k (m+1)=C88_1 pc k (m+1) (S88_1 pc k m):=rfl
theorem r103_1 (pc:FuncId→List D→Option D) (k:Nat) {m:Nat}:S103_1 pc k (m+1)=C103_1 pc k (m+1) (S103_1 pc k m):=rfl
theorem r113_1 (pc:FuncId→List D→Option D) (k:Nat) {m:Nat}:S113_1 pc k (m+1)=C113_1 pc k (m+1) (S113_1 pc k m):=rfl
theorem r115_1 (pc:FuncId→List D→Option D) (k:Nat) {m:Nat}:S115_1 pc k (m+1)=C115_1 pc k (m+1) (S115_1 pc k m):=rfl
theorem r116_1 (pc:FuncId→List D→Option D) (k:Nat) {m:Nat}:S116_1 pc k (m+1)=C116_1 pc k (m+1) (S116_1 pc k m):=rfl
theorem r117_1 (pc:FuncId→List D→Option D) (k:Nat) {m:Nat}:S117_1 pc k (m+1)=C117_1 pc k (m+1) (S117_1 pc k m):=rfl
theorem r119_1 (pc:FuncId→List D→Option D) (k:Nat) {m:Nat}:S119_1 pc k (m+1)=C119_1 pc k (m+1) (S119_1 pc k m):=rfl
theorem n85_2 (pc rg pc1:FuncId→List D→Option D) (k:Nat):S85_2 pc rg pc1 k []=CN85_2 pc rg pc1 k:=rfl
theorem r85_2 (pc rg pc1:FuncId→List D→Option D) (k:Nat) {y:List D} {ys:List (List D)}:S85_2 pc rg pc1 k (y::ys)=C85_2 pc rg pc1 k ys (S85_2 pc rg pc1 k ys) y:=rfl
end Go.Proofs.YtnnkcjolgbpklaaGreat.L
end
end
section
namespace Go.Proofs.YtnnkcjolgbpklaaGreat.preyParts
open Go.ChangeShapes Go.WideShapes Go.ChangeAt Go.RowKit Go.Ev
theorem own:ownKnob Tryz.prog.godebug=none:=by kernel_rfl
theorem kids:Kids Tryz.prog (·<Tryz.prog.types.size):=kids_rows (by kernel_rfl) (by kernel_rfl)
theorem full:∀ t e,t<Tryz.prog.types.size→Tryz.prog.underlying t=some (.slice e)→0<Tryz.prog.cellsOf e:=slices_full_of Tryz.prog (by kernel_rfl)
abbrev Ts:List Ty:=[(.cons (.cons (.sl (.cons (.int .i64) (.cons (.int .i64) .nil))) (.cons (.sl (.cons (.int .i64) (.cons (.int .i64) .nil))) (.cons (.sl (.cons (.int .i64) (.cons (.cons (.int .i64) (.cons (.int .i64) .nil)) (.cons (.cons (.int .i64) (.cons (.int .i64) .nil)) .nil)))) .nil))) (.cons (.sl (.int .i64)) (.cons (.sl (.int .i64)) .nil))),(.sl (.sl (.int .i64))),(.int .u8)]
theorem types:tysOf Tryz.prog 8 [29,30,5]=some Ts:=by kernel_rfl
abbrev Law:Prop:=Says L.P L.LA 20000 L.man 14 Ts
set_option maxRecDepth 100000 in
theorem lifted {q:Alt} (ht:TblOk L.P q.A 20000 q.tab) (hm:ManOk L.P q 20000 L.man) (hs:Law) (os:Os) (started:os.Started) (H:Type) (enc:TypeId × Value→H) :
    ReturnsInHanded {} Tryz.checked os 14 .any (Rows.preyPartsSpec.pre6 enc Tryz.prog Tryz.f14 Rows.preyPartsRow.domain false) (Rows.preyPartsSpec.post enc Tryz.prog Tryz.f14 false true false false):=by
  refine returnsInHanded_of_change_sized (C:=Tryz.checked) own started (by kernel_rfl) Tryz.func14
    (ChangeSpec.witness6 (enc:=enc) (C:=Tryz.checked) false ⟨#[],#[.agg #[.slice none 0 0,.slice none 0 0,.slice none 0 0,.slice none 0 0,.slice none 0 0],.slice none 0 0,.int .u8 0],[]⟩ 12 (by kernel_rfl) (by kernel_rfl) (by kernel_rfl) (by kernel_rfl)) ?_
  intro W base args ds gs before hval0 hW hcnd hsz _
  have hval:∀(j:Nat) t v,Tryz.f14.params[j]?=some t→args[j]?=some v→Value.okWide Tryz.prog W .any base t v:=hval0
  have hW':=hW
  obtain⟨p,q,hA0,hV,rfl,hfz,hnd⟩:=hW
  have hA:DataW.TrodAll enc Tryz.prog W 0 (fun _=>true) true Tryz.f14.params.toList args.toList ds p:=hA0
  have hAk:=hA
  rw[Tryz.params14] at hA hval
  obtain⟨rfl,rfl⟩:=trodVars_none hV
  obtain⟨d0,d1,d2,rfl⟩:=list3 (trodAll_len hA)
  simp only[List.append_nil] at hW' hAk
  have hall:∀ n ∈ DataW.weightsEach Tryz.prog [29,30,5] [d0,d1,d2],n≤reachBytes:=by
    intro n hn
    have hm:n ∈ DataW.weightsEach Tryz.checked.prog (Tryz.f14.params.toList++DataSpec.varTypes Tryz.checked.prog Rows.preyPartsSpec.plain) ([d0,d1,d2]++[]):=by
      rw[Tryz.params14]
      exact weights_app (Nat.le_of_eq (trodAll_len hA)) hn
    have:=List.all_eq_true.1 hsz n hm
    simpa using this
  refine(says_calls ht hm hs types (fun j t v h g=>hval j t v (by simpa using h) (by simpa using g)) hA hall).mono fun e W' ⟨he,hg,hk⟩=>?_
  subst he
  exact⟨_,rfl,post_of_same (pv:=[]) hW' (fun _ _ _=>(trodAll_cons_mk (shut_bool Tryz.underlying4 _) trodAll_mk0))
    (fun sp hsp=>DataW.TrodAll.respare kids full (by rw[Tryz.params14]; decide +kernel) (carryAll hk hAk) hsp) (fun _ _=>rfl) (by simp)
    (hg.frame _) hg.2.1 (ok_one (by kernel_rfl) rfl (okWide_bool_mk Tryz.underlying4 _))⟩
theorem over {q:Alt} (ht:TblOk L.P q.A 20000 q.tab) (hm:ManOk L.P q 20000 L.man) (hs:Law):Rows.preyPartsRow.holds Tryz.pinned (OpenSpec.ofChange Rows.preyPartsSpec):=
  OpenClaim.holds_of_wide 14 Tryz.f14 rfl rfl rfl rfl rfl rfl rfl ⟨rfl,rfl,rfl,rfl,rfl⟩ rfl rfl rfl rfl rfl (by kernel_rfl) Tryz.func14 (by kernel_rfl)
    (of_decide_eq_true (by kernel_rfl)) (by unfold Func.isWrapper; first | (rw[if_pos (by decide +kernel)]; kernel_rfl) | (rw[if_neg (by decide +kernel)]; exact⟨rfl,rfl⟩))
    (fun os started H enc _=>lifted ht hm hs os started H enc)
theorem said {q:Alt} (ht:TblOk L.P q.A 20000 q.tab) (hm:ManOk L.P q 20000 L.man) (hs:Law):Rows.PreyPartsSaid:=over ht hm hs
end Go.Proofs.YtnnkcjolgbpklaaGreat.preyParts
end
section
open Go Go.Ev
set_option maxRecDepth 100000
namespace Go.Proofs.YtnnkcjolgbpklaaGreat.L
structure Pad where
  need:Int
  room:Int
structure Join where
  a:Int
  b:Int
structure Kd where
  young:Int
  olo:Int
  ohi:Int
  nlo:Int
  nhi:Int
structure Grove where
  pads:List Pad
  joins:List Join
  kinds:List Kd
structure Fld where
  g:Grove
  start:List Int
  eats:List Int
noncomputable abbrev dPad (p:Pad):D:=.agg [dI p.need,dI p.room]
noncomputable abbrev dJoin (p:Join):D:=.agg [dI p.a,dI p.b]
noncomputable abbrev dKd (p:Kd):D:=.agg [dI p.young,dI p.olo,dI p.ohi,dI p.nlo,dI p.nhi]
noncomputable abbrev gC (g:Grove):List D:=[.sl (g.pads.map dPad),.sl (g.joins.map dJoin),.sl (g.kinds.map dKd)]
noncomputable abbrev fC (f:Fld):List D:=[.sl (f.g.pads.map dPad),.sl (f.g.joins.map dJoin),.sl (f.g.kinds.map dKd),dL f.start,dL f.eats]
noncomputable abbrev dG (g:Grove):D:=.agg (gC g)
noncomputable abbrev dF (f:Fld):D:=.agg (fC f)
abbrev big:Nat:=1000000
theorem sbig {n:Nat} (h:n<big):n<4611686018427387904:=by unfold big at h; omega
theorem getD0 {a:D} {l:List D}:(a::l)[0]?=some a:=rfl
theorem getD1 {a b:D} {l:List D}:(a::b::l)[1]?=some b:=rfl
theorem getD2 {a b c:D} {l:List D}:(a::b::c::l)[2]?=some c:=rfl
theorem getD3 {a b c d:D} {l:List D}:(a::b::c::d::l)[3]?=some d:=rfl
theorem getD4 {a b c d e:D} {l:List D}:(a::b::c::d::e::l)[4]?=some e:=rfl
theorem cut2 {a b:D}:cutD [a,b] 0 2=some [a,b]:=rfl
theorem cut3 {a b c:D}:cutD [a,b,c] 0 3=some [a,b,c]:=rfl
theorem cut5 {a b c d e:D}:cutD [a,b,c,d,e] 0 5=some [a,b,c,d,e]:=rfl
theorem cut53 {a b c d e:D}:cutD [a,b,c,d,e] 0 3=some [a,b,c]:=rfl
theorem cut512 {a b c d e:D}:cutD [a,b,c,d,e] 1 2=some [b,c]:=rfl
theorem cut532 {a b c d e:D}:cutD [a,b,c,d,e] 3 2=some [d,e]:=rfl
theorem spl2 {x y a b:D}:splD [x,y] 0 [a,b] 2=some [a,b]:=rfl
theorem spl5 {x y z u v a b c d e:D}:splD [x,y,z,u,v] 0 [a,b,c,d,e] 5=some [a,b,c,d,e]:=rfl
theorem fill5 {x y z u v a b c d e:D} (ha:leafD a=true):fillD [x,y,z,u,v] [(0,1,a),(1,2,.agg [b,c]),(3,2,.agg [d,e])]=some [a,b,c,d,e]:=by
  cases a <;> first | rfl | cases ha
theorem fillF {x y z u v a b c:D} {d e:List D}:fillD [x,y,z,u,v] [(0,3,.agg [a,b,c]),(3,1,.sl d),(4,1,.sl e)]=some [a,b,c,.sl d,.sl e]:=rfl
theorem len2 {a b:D}:[a,b].length=2:=rfl
theorem len5 {a b c d e:D}:[a,b,c,d,e].length=5:=rfl
theorem drop1_0 {a b:D}:(List.drop 1 [a,b])[0]?=some b:=rfl
theorem lev {n l:Nat} (h:n≤l):∃ j,l=j+n:=⟨l-n,by omega⟩
theorem s81 {l:Nat} (hl:1≤l) {a b:Int}:pcD P (K l) 81 [.agg [dI a,dI b]]=some (.agg [dI a,dI b]):=by
  obtain⟨l,rfl⟩:=lev hl
  refine pcD_f ?_ rfl
  rw[c81]
  unfold C81_0 B81_0
  simp only[bindO_some,aggD_agg,chkK_t,leafD_v,getD0,getD1]
theorem s27 {l:Nat} (hl:1≤l) {xs:List Int} (h:xs.length<big):pcD P (K l) 27 [dL xs]=some (dL xs):=by
  obtain⟨l,rfl⟩:=lev hl
  refine pcD_n ?_ (by kernel_rfl)
  rw[c27]
  unfold C27_0 B27_0
  simp only[bindO_some,elsD_sl,chkK_t,allI]
  rw[appD_lt (by simp; unfold big at h; omega)]
  rfl
theorem l18 {l:Nat} (hl:1≤l) {k:Nat}:∀(suf pre:List (List Int)) (m:Nat),suf.length<m→pre.length+suf.length<big→(∀ x ∈ suf,x.length<big) →
    S20_1 (K l) k m (dLL (pre++suf)) (dI pre.length) (pre.map dL)=some (dLL (pre++suf))
  | [],pre,0,hm,_,_=>by simp at hm
  | [],pre,m+1,_,_,_=>by
    rw[r20_1]
    unfold C20_1 B20_1
    simp only[bindO_some,elsD_sl,ifU_f,lenD_eq,List.append_nil,lss_end2]
  | x::suf,pre,0,hm,_,_=>by simp at hm
  | x::suf,pre,m+1,hm,hb,hx=>by
    rw[r20_1]
    unfold C20_1 B20_1
    simp only[List.length_cons] at hm hb
    simp only[bindO_some,elsD_sl,chkK_t,leafD_sl,ifU_t,lenD_eq,at_map,lss_mid2,s27 hl (hx x (by simp))]
    rw[appD_lt (by simp; unfold big at hb; omega),bindO_some,succ_pre (a:=x) (sbig (by omega)),bindO_some]
    simpa using l18 hl (k:=k) suf (pre++[x]) m (by omega) (by simp; omega) (fun y hy=>hx y (by simp [hy]))
theorem s20 {l:Nat} (hl:2≤l) {xs:List (List Int)} (h:xs.length<19000) (hx:∀ x ∈ xs,x.length<big):pcD P (K l) 20 [dLL xs]=some (dLL xs):=by
  obtain⟨l,rfl⟩:=lev hl
  refine pcD_n ?_ (by kernel_rfl)
  rw[c20]
  unfold C20_0 B20_0
  simpa using l18 (l:=l+1) (by omega) (k:=19999) xs [] 19999 (by omega) (by show 0+_<big; unfold big; omega) hx
theorem l50_3 {l k:Nat} (hl:1≤l) {ps:List Pad} {js:List Join}:∀(suf pre:List Kd) (m:Nat),suf.length<m→pre.length+suf.length<big →
    S56_3 (K l) k m (dI pre.length) (gC ⟨ps,js,pre++suf⟩) (ps.map dPad) (js.map dJoin) (pre.map dKd)=some (dG ⟨ps,js,pre++suf⟩)
  | [],pre,0,hm,_=>by simp at hm
  | [],pre,m+1,_,_=>by
    rw[r56_3]
    unfold C56_3 B56_3
    simp only[bindO_some,elsD_sl,ifU_f,lenD_eq,List.append_nil,getD2,lss_end2,getD2]
  | x::suf,pre,0,hm,_=>by simp at hm
  | x::suf,pre,m+1,hm,hb=>by
    rw[r56_3]
    unfold C56_3 B56_3
    simp only[List.length_cons] at hm hb
    simp only[bindO_some,elsD_sl,aggD_agg,chkK_t,ifU_t,beq_refl,lenD_eq,getD0,getD2,cut5,cut512,cut532,spl5,len5,at_map,lss_mid2,getD2,getD0,len5,cut5,spl5,cut512,cut532,s81 hl,fill5 leafD_v]
    rw[appD_lt (by simp; unfold big at hb; omega),bindO_some,succ_pre (a:=x) (sbig (by omega)),bindO_some]
    simpa using l50_3 hl (k:=k) suf (pre++[x]) m (by omega) (by simp; omega)
theorem l50_2 {l k:Nat} (hl:1≤l) {ps:List Pad} {ks:List Kd} (hk:ks.length<k) (hb:ks.length<big):∀(suf pre:List Join) (m:Nat),suf.length<m→pre.length+suf.length<big →
    S56_2 (K l) k m (dI pre.length) (gC ⟨ps,pre++suf,ks⟩) (ps.map dPad) (pre.map dJoin)=some (dG ⟨ps,pre++suf,ks⟩)
  | [],pre,0,hm,_=>by simp at hm
  | [],pre,m+1,_,_=>by
    rw[r56_2]
    unfold C56_2 B56_2
    simp only[bindO_some,elsD_sl,ifU_f,lenD_eq,List.append_nil,getD1,lss_end2,getD1]
    simpa using l50_3 hl (k:=k) (ps:=ps) (js:=pre) ks [] k hk (by simpa using hb)
  | x::suf,pre,0,hm,_=>by simp at hm
  | x::suf,pre,m+1,hm,hp=>by
    rw[r56_2]
    unfold C56_2 B56_2
    simp only[List.length_cons] at hm hp
    simp only[bindO_some,elsD_sl,aggD_agg,chkK_t,leafD_v,ifU_t,beq_refl,lenD_eq,getD0,getD1,len2,drop1_0,at_map,lss_mid2,getD1,getD0,len2]
    rw[appD_lt (by simp; unfold big at hp; omega),bindO_some,succ_pre (a:=x) (sbig (by omega)),bindO_some]
    simpa using l50_2 hl hk hb suf (pre++[x]) m (by omega) (by simp; omega)
theorem l50_1 {l k:Nat} (hl:1≤l) {js:List Join} {ks:List Kd} (hk:ks.length<k) (hj:js.length<k) (hb:ks.length<big) (hjb:js.length<big):∀(suf pre:List Pad) (m:Nat),suf.length<m→pre.length+suf.length<big →
    S56_1 (K l) k m (dI pre.length) (gC ⟨pre++suf,js,ks⟩) (pre.map dPad)=some (dG ⟨pre++suf,js,ks⟩)
  | [],pre,0,hm,_=>by simp at hm
  | [],pre,m+1,_,_=>by
    rw[r56_1]
    unfold C56_1 B56_1
    simp only[bindO_some,elsD_sl,ifU_f,lenD_eq,List.append_nil,getD0,lss_end2,getD0]
    simpa using l50_2 hl (k:=k) (ps:=pre) hk hb js [] k hj (by simpa using hjb)
  | x::suf,pre,0,hm,_=>by simp at hm
  | x::suf,pre,m+1,hm,hp=>by
    rw[r56_1]
    unfold C56_1 B56_1
    simp only[List.length_cons] at hm hp
    simp only[bindO_some,elsD_sl,aggD_agg,chkK_t,leafD_v,ifU_t,beq_refl,lenD_eq,getD0,len2,drop1_0,at_map,lss_mid2,getD0,len2]
    rw[appD_lt (by simp; unfold big at hp; omega),bindO_some,succ_pre (a:=x) (sbig (by omega)),bindO_some]
    simpa using l50_1 hl hk hj hb hjb suf (pre++[x]) m (by omega) (by simp; omega)
def gSmall (g:Grove):Prop:=g.pads.length<100∧g.joins.length<100∧g.kinds.length<100
def fSmall (f:Fld):Prop:=gSmall f.g∧f.start.length<100∧f.eats.length<100
theorem s56 {l:Nat} (hl:2≤l) {g:Grove} (h:gSmall g):pcD P (K l) 56 [dG g]=some (dG g):=by
  obtain⟨l,rfl⟩:=lev hl
  refine pcD_n ?_ (by kernel_rfl)
  rw[c56]
  unfold C56_0 B56_0
  obtain⟨h1,h2,h3⟩:=h
  simp only[bindO_some,aggD_agg]
  simpa using l50_1 (l:=l+1) (by omega) (k:=19999) (js:=g.joins) (ks:=g.kinds) (by omega) (by omega) (by unfold big; omega) (by unfold big; omega) g.pads [] 19999 (by omega) (by show 0+_<big; unfold big; omega)
theorem s18 {l:Nat} (hl:3≤l) {f:Fld} (h:fSmall f):pcD P (K l) 18 [dF f]=some (dF f):=by
  obtain⟨l,rfl⟩:=lev hl
  refine pcD_n ?_ (by kernel_rfl)
  rw[c18]
  unfold C18_0 B18_0
  obtain⟨h1,h2,h3⟩:=h
  rw[aggD_agg,bindO_some,cut53,bindO_some,getD3,bindO_some,getD4,bindO_some,s56 (l:=l+2) (by omega) h1,bindO_some,s27 (l:=l+2) (by omega) (xs:=f.start) (by unfold big; omega),bindO_some,s27 (l:=l+2) (by omega) (xs:=f.eats) (by unfold big; omega),bindO_some,fillF,bindO_some,spl5,bindO_some,cut5,bindO_some]
end Go.Proofs.YtnnkcjolgbpklaaGreat.L
end
section
open Go Go.Ev
set_option maxRecDepth 100000
namespace Go.Proofs.YtnnkcjolgbpklaaGreat.L
def inR (n lo hi:Int):Bool:=decide (lo≤n) && decide (n≤hi)
theorem ifU_c {b:Bool} {p q:Option D}:ifU (.v (.bool b)) p q=if b then p else q:=ifU_b
theorem someIf2 {b c:Bool}:(if b=true then some (dB c) else some (.v (.bool false)))=some (dB (b && c)):=by cases b <;> rfl
theorem someIf3 {p:Prop} [Decidable p] {c:Bool}:(if p then some (dB c) else some (.v (.bool false)))=some (dB (decide p && c)):=by by_cases h:p <;> simp [h]
theorem s35 {l:Nat} (hl:1≤l) {n lo hi:Int}:pcD P (K l) 35 [dI n,dI lo,dI hi]=some (dB (inR n lo hi)):=by
  obtain⟨l,rfl⟩:=lev hl
  refine pcD_b ?_
  rw[c35]
  unfold C35_0 B35_0
  simp only[bindO_some,ifU_dec,binD_leq,binD_geq,someIf3]
  rfl
theorem s105 {l:Nat} (hl:2≤l) {lo hi:Int}:pcD P (K l) 105 [dI lo,dI hi]=some (dB (inR lo 0 hi && decide (hi≤1000))):=by
  obtain⟨l,rfl⟩:=lev hl
  refine pcD_b ?_
  rw[c105]
  unfold C105_0 B105_0
  simp only[bindO_some,binD_leq,s35 (l:=l+1) (by omega),ifU_c,someIf2]
theorem s51 {l:Nat} (hl:1≤l) {g:Grove} {xs:List Int}:pcD P (K l) 51 [dG g,dL xs]=some (dB (decide (g.pads.length≤11∧g.joins.length≤19∧g.kinds.length≤6∧xs.length≤11))):=by
  obtain⟨l,rfl⟩:=lev hl
  refine pcD_b ?_
  rw[c51]
  unfold C51_0 B51_0
  simp only[bindO_some,elsD_sl,aggD_agg,ifU_dec,binD_leq,lenD_eq,getD0,getD1,getD2,List.length_map,someIf3]
  simp []
  norm_cast
theorem l46 {l k:Nat}:∀(suf pre:List (List Int)) (m:Nat),min suf.length (400-pre.length)<m→pre.length≤311 →
    ∃ b,S52_1 (K l) k m (dLL (pre++suf)) (dI pre.length)=some (dB b)∧(b=true→(pre++suf).length≤310∧∀ x ∈ suf,x.length≤11)
  | [],pre,0,hm,_=>by simp at hm
  | [],pre,m+1,_,_=>by
    rw[r52_1]
    unfold C52_1 B52_1 C52_2 B52_2
    simp only[bindO_some,elsD_sl,ifU_dec,ifU_f,binD_leq,binD_gtr,lenD_eq,List.append_nil,lss_end2]
    refine⟨_,rfl,fun h=>?_⟩
    simp at h ⊢
    try omega
  | x::suf,pre,0,hm,hp=>by first | (simp at hm; done) | (simp at hm; omega)
  | x::suf,pre,m+1,hm,hp=>by
    rw[r52_1]
    unfold C52_1 B52_1 C52_2 B52_2
    simp only[List.length_cons] at hm
    simp only[bindO_some,elsD_sl,chkK_t,leafD_sl,ifU_dec,ifU_t,ifU_f,binD_leq,binD_gtr,lenD_eq,at_map,lss_mid2]
    rw[binD_lss,bindO_some]
    by_cases h1:pre.length<311
    · have h1' : decide ((pre.length : Int) < 311) = true := by simp; omega
      simp only[h1',ifU_t]
      by_cases h2:x.length≤11
      · rw [if_neg (by simp; omega), succ_pre (a := x) (by omega), bindO_some]
        obtain⟨b,e,hb⟩:=l46 (l:=l) (k:=k) suf (pre++[x]) m (by simp; omega) (by simp; omega)
        refine⟨b,by simpa using e,fun q=>?_⟩
        obtain⟨q1,q2⟩:=hb q
        refine⟨by simpa using q1,fun y hy=>?_⟩
        rcases List.mem_cons.1 hy with rfl | hy
        · exact h2
        · exact q2 y hy
      · rw [if_pos (by simp; omega)]
        exact⟨false,rfl,fun q=>by cases q⟩
    · have h1' : decide ((pre.length : Int) < 311) = false := by simp; omega
      simp only[h1',ifU_f]
      refine⟨_,rfl,fun q=>?_⟩
      simp at q; omega
theorem s52 {l:Nat} (hl:1≤l) {xs:List (List Int)}:∃ b,pcD P (K l) 52 [dLL xs]=some (dB b)∧(b=true→xs.length≤310∧∀ x ∈ xs,x.length≤11):=by
  obtain⟨l,rfl⟩:=lev hl
  obtain⟨b,e,h⟩:=l46 (l:=l) (k:=19999) xs [] 19999 (by simp; omega) (by simp)
  refine⟨b,pcD_b ?_,by simpa using h⟩
  rw[c52]
  unfold C52_0 B52_0
  simpa using e
theorem s15 {l:Nat} (hl:2≤l) {f:Fld} {xs:List (List Int)}:∃ b,pcD P (K l) 15 [dF f,dLL xs]=some (dB b) ∧
    (b=true→(f.g.pads.length≤11∧f.g.joins.length≤19∧f.g.kinds.length≤6∧f.start.length≤11)∧f.eats.length≤11∧xs.length≤310∧∀ x ∈ xs,x.length≤11):=by
  obtain⟨l,rfl⟩:=lev hl
  obtain⟨b,e,h⟩:=s52 (l:=l+1) (by omega) (xs:=xs)
  refine⟨decide (f.g.pads.length≤11∧f.g.joins.length≤19∧f.g.kinds.length≤6∧f.start.length≤11) && (decide (f.eats.length≤11) && b),pcD_b ?_,fun q=>?_⟩
  · rw [c15]
    unfold C15_0 B15_0
    rw[aggD_agg,bindO_some,cut53,bindO_some,getD3,bindO_some,s51 (l:=l+1) (by omega),bindO_some,getD4,bindO_some,elsD_sl,bindO_some,lenD_eq,binD_leq,bindO_some,e,bindO_some,ifU_c,ifU_c]
    have:decide (((f.eats.map dI).length:Int)≤11)=decide (f.eats.length≤11):=by simp; norm_cast
    rw[this]
    cases decide (f.eats.length≤11) <;> cases decide (f.g.pads.length≤11∧f.g.joins.length≤19∧f.g.kinds.length≤6∧f.start.length≤11) <;> rfl
  · simp only [Bool.and_eq_true, decide_eq_true_eq] at q
    exact⟨q.1,q.2.1,h q.2.2⟩
end Go.Proofs.YtnnkcjolgbpklaaGreat.L
end
section
open Go Go.Ev
set_option maxRecDepth 100000
namespace Go.Proofs.YtnnkcjolgbpklaaGreat.L
theorem eq_two {t:TypeId} {p q:Operand} {x y a b:Int} (hK:flatK P t=some 2) (hG:P.eqGuardType P.depth t=false):binD P .eql t p q (.agg [dI x,dI y]) (.agg [dI a,dI b])=some (dB (decide (x=a) && decide (y=b))):=by
  have h2:eqCells [.int .i64 x,.int .i64 y] [.int .i64 a,.int .i64 b]=some (decide (x=a) && decide (y=b)):=by
    simp only[eqCells,decide_true]
    cases decide (x=a) <;> cases decide (y=b) <;> rfl
  have hb:binV P .eql t p q (.agg ⟨[.int .i64 x,.int .i64 y]⟩) (.agg ⟨[.int .i64 a,.int .i64 b]⟩)=some (.bool (decide (x=a) && decide (y=b))):=by
    have h0:quickBin .eql (.agg ⟨[.int .i64 x,.int .i64 y]⟩) (.agg ⟨[.int .i64 a,.int .i64 b]⟩)=none:=rfl
    have h1:(pureV (.agg ⟨[.int .i64 x,.int .i64 y]⟩) && pureV (.agg ⟨[.int .i64 a,.int .i64 b]⟩))=true:=rfl
    unfold binV
    rw[h0]
    unfold slowBin
    simp only[h1,aggBin,aggEq,hK,hG,List.length_cons,List.length_nil,h2]
    rfl
  unfold binD
  simp only[valD,valsD,hb,scalO]
  rfl
def padOk (p:Pad):Bool:=inR p.need 0 p.room && decide (p.room≤1000)
def kdOk (p:Kd):Bool:=inR p.young 0 1000 && ((inR p.olo 0 p.ohi && decide (p.ohi≤1000)) && (inR p.nlo 0 p.nhi && decide (p.nhi≤1000)))
def alike (j o:Join):Bool:=(decide (o.a=j.a) && decide (o.b=j.b)) || (decide (o.a=j.b) && decide (o.b=j.a))
def hasP (n:Nat) (a:Int):Bool:=inR a 0 (n-1)
def joinOk (n:Nat) (js:List Join) (j:Join):Bool:=hasP n j.a && (hasP n j.b && (!decide (j.a=j.b) && decide ((js.filter (alike j)).length=1)))
theorem s114 {l:Nat} (hl:1≤l) {p:Pad}:pcD P (K l) 114 [dPad p]=some (dB (padOk p)):=by
  obtain⟨l,rfl⟩:=lev hl
  refine pcD_b ?_
  rw[c114]
  unfold C114_0 B114_0
  simp only[bindO_some,aggD_agg,ifU_dec,binD_leq,binD_geq,getD0,getD1,someIf3]
  unfold padOk inR
  simp [Bool.and_assoc]
theorem s129 {l:Nat} (hl:1≤l) {a b:Int}:pcD P (K l) 129 [.agg [dI a,dI b]]=some (dB (inR a 0 b && decide (b≤1000))):=by
  obtain⟨l,rfl⟩:=lev hl
  refine pcD_b ?_
  rw[c129]
  unfold C129_0 B129_0
  simp only[bindO_some,aggD_agg,ifU_dec,binD_leq,binD_geq,getD0,getD1,someIf3]
  unfold inR
  simp [Bool.and_assoc]
theorem s118 {l:Nat} (hl:2≤l) {p:Kd}:pcD P (K l) 118 [dKd p]=some (dB (kdOk p)):=by
  obtain⟨l,rfl⟩:=lev hl
  refine pcD_b ?_
  rw[c118]
  unfold C118_0 B118_0
  simp only[bindO_some,aggD_agg,binD_leq,binD_geq,getD0,cut512,cut532,s129 (l:=l+1) (by omega),ifU_c,someIf3]
  unfold kdOk inR
  simp [Bool.and_assoc]
theorem s128 {l:Nat} (hl:1≤l) {g:Grove} {a:Int}:pcD P (K l) 128 [dG g,dI a]=some (dB (hasP g.pads.length a)):=by
  obtain⟨l,rfl⟩:=lev hl
  refine pcD_b ?_
  rw[c128]
  unfold C128_0 B128_0
  simp only[bindO_some,elsD_sl,aggD_agg,ifU_dec,binD_geq,lenD_eq,getD0,binD_lss,List.length_map,someIf3]
  unfold hasP inR
  congr 5
  simp; omega
theorem l106 {l k:Nat} {g:FuncId} {a b:List D} {p:Pad→Bool}:∀(suf pre:List Pad) (m:Nat),suf.length<m→pre.length+suf.length<big→(∀ x ∈ suf,pcD P (K l) g (a++[dPad x]++b)=some (dB (p x))) →
    S113_1 (K l) k m (.fn g a b) (.sl ((pre++suf).map dPad)) (dI ((pre++suf).map dPad).length) (dI pre.length)=some (dB (suf.all p))
  | [],pre,0,hm,_,_=>by simp at hm
  | [],pre,m+1,_,_,_=>by
    rw[r113_1]
    unfold C113_1 B113_1
    simp only[bindO_some,elsD_sl,fnK_fn,ifU_f,List.append_nil,lss_end2]
    rfl
  | x::suf,pre,0,hm,_,_=>by simp at hm
  | x::suf,pre,m+1,hm,hb,h=>by
    rw[r113_1]
    unfold C113_1 B113_1
    simp only[List.length_cons] at hm hb
    simp only[bindO_some,elsD_sl,aggD_agg,fnK_fn,chkK_t,ifU_t,beq_refl,cut2,spl2,len2,at_map,lss_mid2,succ_pre (a:=x) (sbig (show pre.length<big by omega))]
    have hx:=h x (by simp)
    simp only[List.append_assoc,List.cons_append,List.nil_append] at hx ⊢
    rw[hx,bindO_some,semD_not,bindO_some,ifU_c]
    have ih:=l106 (k:=k) suf (pre++[x]) m (by omega) (by simp; omega) (fun y hy=>h y (by simp [hy]))
    simp only[List.append_assoc,List.cons_append,List.nil_append] at ih
    rw[ih]
    cases hp:p x <;> simp [List.all_cons,hp]
theorem s113 {l:Nat} (hl:1≤l) {g:FuncId} {a b:List D} {p:Pad→Bool} {xs:List Pad} (hx:xs.length<1000) (h:∀ x ∈ xs,pcD P (K (l-1)) g (a++[dPad x]++b)=some (dB (p x))):pcD P (K l) 113 [.sl (xs.map dPad),.fn g a b]=some (dB (xs.all p)):=by
  obtain⟨l,rfl⟩:=lev hl
  refine pcD_b ?_
  rw[c113]
  unfold C113_0 B113_0
  simp only[elsD_sl,bindO_some,lenD_eq]
  simpa using l106 (l:=l) (k:=19999) xs [] 19999 (by omega) (by show 0+_<big; unfold big; omega) h
theorem l108 {l k:Nat} {g:FuncId} {a b:List D} {p:Join→Bool}:∀(suf pre:List Join) (m:Nat),suf.length<m→pre.length+suf.length<big→(∀ x ∈ suf,pcD P (K l) g (a++[dJoin x]++b)=some (dB (p x))) →
    S115_1 (K l) k m (.fn g a b) (.sl ((pre++suf).map dJoin)) (dI ((pre++suf).map dJoin).length) (dI pre.length)=some (dB (suf.all p))
  | [],pre,0,hm,_,_=>by simp at hm
  | [],pre,m+1,_,_,_=>by
    rw[r115_1]
    unfold C115_1 B115_1
    simp only[bindO_some,elsD_sl,fnK_fn,ifU_f,List.append_nil,lss_end2]
    rfl
  | x::suf,pre,0,hm,_,_=>by simp at hm
  | x::suf,pre,m+1,hm,hb,h=>by
    rw[r115_1]
    unfold C115_1 B115_1
    simp only[List.length_cons] at hm hb
    simp only[bindO_some,elsD_sl,aggD_agg,fnK_fn,chkK_t,ifU_t,beq_refl,cut2,spl2,len2,at_map,lss_mid2,succ_pre (a:=x) (sbig (show pre.length<big by omega))]
    have hx:=h x (by simp)
    simp only[List.append_assoc,List.cons_append,List.nil_append] at hx ⊢
    rw[hx,bindO_some,semD_not,bindO_some,ifU_c]
    have ih:=l108 (k:=k) suf (pre++[x]) m (by omega) (by simp; omega) (fun y hy=>h y (by simp [hy]))
    simp only[List.append_assoc,List.cons_append,List.nil_append] at ih
    rw[ih]
    cases hp:p x <;> simp [List.all_cons,hp]
theorem s115 {l:Nat} (hl:1≤l) {g:FuncId} {a b:List D} {p:Join→Bool} {xs:List Join} (hx:xs.length<1000) (h:∀ x ∈ xs,pcD P (K (l-1)) g (a++[dJoin x]++b)=some (dB (p x))):pcD P (K l) 115 [.sl (xs.map dJoin),.fn g a b]=some (dB (xs.all p)):=by
  obtain⟨l,rfl⟩:=lev hl
  refine pcD_b ?_
  rw[c115]
  unfold C115_0 B115_0
  simp only[elsD_sl,bindO_some,lenD_eq]
  simpa using l108 (l:=l) (k:=19999) xs [] 19999 (by omega) (by show 0+_<big; unfold big; omega) h
theorem l110 {l k:Nat} {g:FuncId} {a b:List D} {p:Kd→Bool}:∀(suf pre:List Kd) (m:Nat),suf.length<m→pre.length+suf.length<big→(∀ x ∈ suf,pcD P (K l) g (a++[dKd x]++b)=some (dB (p x))) →
    S117_1 (K l) k m (.fn g a b) (.sl ((pre++suf).map dKd)) (dI ((pre++suf).map dKd).length) (dI pre.length)=some (dB (suf.all p))
  | [],pre,0,hm,_,_=>by simp at hm
  | [],pre,m+1,_,_,_=>by
    rw[r117_1]
    unfold C117_1 B117_1
    simp only[bindO_some,elsD_sl,fnK_fn,ifU_f,List.append_nil,lss_end2]
    rfl
  | x::suf,pre,0,hm,_,_=>by simp at hm
  | x::suf,pre,m+1,hm,hb,h=>by
    rw[r117_1]
    unfold C117_1 B117_1
    simp only[List.length_cons] at hm hb
    simp only[bindO_some,elsD_sl,aggD_agg,fnK_fn,chkK_t,ifU_t,beq_refl,cut5,spl5,len5,at_map,lss_mid2,succ_pre (a:=x) (sbig (show pre.length<big by omega))]
    have hx:=h x (by simp)
    simp only[List.append_assoc,List.cons_append,List.nil_append] at hx ⊢
    rw[hx,bindO_some,semD_not,bindO_some,ifU_c]
    have ih:=l110 (k:=k) suf (pre++[x]) m (by omega) (by simp; omega) (fun y hy=>h y (by simp [hy]))
    simp only[List.append_assoc,List.cons_append,List.nil_append] at ih
    rw[ih]
    cases hp:p x <;> simp [List.all_cons,hp]
theorem s117 {l:Nat} (hl:1≤l) {g:FuncId} {a b:List D} {p:Kd→Bool} {xs:List Kd} (hx:xs.length<1000) (h:∀ x ∈ xs,pcD P (K (l-1)) g (a++[dKd x]++b)=some (dB (p x))):pcD P (K l) 117 [.sl (xs.map dKd),.fn g a b]=some (dB (xs.all p)):=by
  obtain⟨l,rfl⟩:=lev hl
  refine pcD_b ?_
  rw[c117]
  unfold C117_0 B117_0
  simp only[elsD_sl,bindO_some,lenD_eq]
  simpa using l110 (l:=l) (k:=19999) xs [] 19999 (by omega) (by show 0+_<big; unfold big; omega) h
theorem l72 {l k:Nat} {g:FuncId} {a b:List D} {p:Int→Bool}:∀(suf pre:List Int) (m:Nat),suf.length<m→pre.length+suf.length<big→(∀ x ∈ suf,pcD P (K l) g (a++[dI x]++b)=some (dB (p x))) →
    S79_1 (K l) k m (.fn g a b) (.sl ((pre++suf).map dI)) (dI ((pre++suf).map dI).length) (dI pre.length)=some (dB (suf.all p))
  | [],pre,0,hm,_,_=>by simp at hm
  | [],pre,m+1,_,_,_=>by
    rw[r79_1]
    unfold C79_1 B79_1
    simp only[bindO_some,elsD_sl,fnK_fn,ifU_f,List.append_nil,lss_end2]
    rfl
  | x::suf,pre,0,hm,_,_=>by simp at hm
  | x::suf,pre,m+1,hm,hb,h=>by
    rw[r79_1]
    unfold C79_1 B79_1
    simp only[List.length_cons] at hm hb
    simp only[bindO_some,elsD_sl,fnK_fn,chkK_t,leafD_v,ifU_t,at_map,lss_mid2,succ_pre (a:=x) (sbig (show pre.length<big by omega))]
    have hx:=h x (by simp)
    simp only[List.append_assoc,List.cons_append,List.nil_append] at hx ⊢
    rw[hx,bindO_some,semD_not,bindO_some,ifU_c]
    have ih:=l72 (k:=k) suf (pre++[x]) m (by omega) (by simp; omega) (fun y hy=>h y (by simp [hy]))
    simp only[List.append_assoc,List.cons_append,List.nil_append] at ih
    rw[ih]
    cases hp:p x <;> simp [List.all_cons,hp]
theorem s79 {l:Nat} (hl:1≤l) {g:FuncId} {a b:List D} {p:Int→Bool} {xs:List Int} (hx:xs.length<1000) (h:∀ x ∈ xs,pcD P (K (l-1)) g (a++[dI x]++b)=some (dB (p x))):pcD P (K l) 79 [.sl (xs.map dI),.fn g a b]=some (dB (xs.all p)):=by
  obtain⟨l,rfl⟩:=lev hl
  refine pcD_b ?_
  rw[c79]
  unfold C79_0 B79_0
  simp only[elsD_sl,bindO_some,lenD_eq]
  simpa using l72 (l:=l) (k:=19999) xs [] 19999 (by omega) (by show 0+_<big; unfold big; omega) h
theorem l75 {l k:Nat} {g:FuncId} {a b:List D} {p:(List Int)→Bool}:∀(suf pre:List (List Int)) (m:Nat),suf.length<m→pre.length+suf.length<big→(∀ x ∈ suf,pcD P (K l) g (a++[dL x]++b)=some (dB (p x))) →
    S82_1 (K l) k m (.fn g a b) (.sl ((pre++suf).map dL)) (dI ((pre++suf).map dL).length) (dI pre.length)=some (dB (suf.all p))
  | [],pre,0,hm,_,_=>by simp at hm
  | [],pre,m+1,_,_,_=>by
    rw[r82_1]
    unfold C82_1 B82_1
    simp only[bindO_some,elsD_sl,fnK_fn,ifU_f,List.append_nil,lss_end2]
    rfl
  | x::suf,pre,0,hm,_,_=>by simp at hm
  | x::suf,pre,m+1,hm,hb,h=>by
    rw[r82_1]
    unfold C82_1 B82_1
    simp only[List.length_cons] at hm hb
    simp only[bindO_some,elsD_sl,fnK_fn,chkK_t,leafD_sl,ifU_t,at_map,lss_mid2,succ_pre (a:=x) (sbig (show pre.length<big by omega))]
    have hx:=h x (by simp)
    simp only[List.append_assoc,List.cons_append,List.nil_append] at hx ⊢
    rw[hx,bindO_some,semD_not,bindO_some,ifU_c]
    have ih:=l75 (k:=k) suf (pre++[x]) m (by omega) (by simp; omega) (fun y hy=>h y (by simp [hy]))
    simp only[List.append_assoc,List.cons_append,List.nil_append] at ih
    rw[ih]
    cases hp:p x <;> simp [List.all_cons,hp]
theorem s82 {l:Nat} (hl:1≤l) {g:FuncId} {a b:List D} {p:(List Int)→Bool} {xs:List (List Int)} (hx:xs.length<1000) (h:∀ x ∈ xs,pcD P (K (l-1)) g (a++[dL x]++b)=some (dB (p x))):pcD P (K l) 82 [.sl (xs.map dL),.fn g a b]=some (dB (xs.all p)):=by
  obtain⟨l,rfl⟩:=lev hl
  refine pcD_b ?_
  rw[c82]
  unfold C82_0 B82_0
  simp only[elsD_sl,bindO_some,lenD_eq]
  simpa using l75 (l:=l) (k:=19999) xs [] 19999 (by omega) (by show 0+_<big; unfold big; omega) h
end Go.Proofs.YtnnkcjolgbpklaaGreat.L
end
section
open Go Go.Ev
set_option maxRecDepth 100000
namespace Go.Proofs.YtnnkcjolgbpklaaGreat.L
theorem l109 {l k:Nat} (hl:1≤l) {g:Grove} {j:Join}:∀(suf pre:List Join) (m c:Nat),suf.length<m→pre.length+suf.length<big→c+suf.length<big →
    S116_1 (K l) k m (dI (c:Nat)) (.sl ((pre++suf).map dJoin)) (dI ((pre++suf).map dJoin).length) (dI pre.length) (gC g) [dI j.a,dI j.b] =
      some (dB (hasP g.pads.length j.a && (hasP g.pads.length j.b && (!decide (j.a=j.b) && decide (c+(suf.filter (alike j)).length=1)))))
  | [],pre,0,c,hm,_,_=>by simp at hm
  | [],pre,m+1,c,_,_,_=>by
    rw[r116_1]
    unfold C116_1 B116_1
    simp only[bindO_some,elsD_sl,chkK_t,leafD_v,binD_eql,binD_neq,List.append_nil,getD0,getD1,cut2,cut3,lss_end2,s128 hl,ifU_c]
    have e:decide ((c:Int)=1)=decide (c+([]:List Join).length=1):=by simp; omega
    simp only[List.filter_nil,e]
    cases hasP g.pads.length j.a <;> cases hasP g.pads.length j.b <;> cases decide (j.a=j.b) <;> rfl
  | x::suf,pre,0,c,hm,_,_=>by simp at hm
  | x::suf,pre,m+1,c,hm,hb,hc=>by
    rw[r116_1]
    unfold C116_1 B116_1 C116_2 B116_2 C116_3 B116_3
    simp only[List.length_cons] at hm hb hc
    simp only[bindO_some,elsD_sl,aggD_agg,chkK_t,leafD_v,if_true,binD_eql,binD_neq,beq_refl,getD0,getD1,cut2,cut3,spl2,len2,at_map,lss_mid2,eq_two (t:=131) (by kernel_rfl) (by kernel_rfl),succ_pre (a:=x) (sbig (show pre.length<big by omega)),binD_succ (k:=c) (sbig (by omega)),ifU_c]
    have ih0:=l109 (k:=k) hl (g:=g) (j:=j) suf (pre++[x]) m c (by omega) (by simp; omega) (by omega)
    have ih1:=l109 (k:=k) hl (g:=g) (j:=j) suf (pre++[x]) m (c+1) (by omega) (by simp; omega) (by omega)
    simp only[List.append_assoc,List.cons_append,List.nil_append] at ih0 ih1
    rw[ih0,ih1]
    have hf:((x::suf).filter (alike j)).length=(if alike j x then 1 else 0)+(suf.filter (alike j)).length:=by
      rw[List.filter_cons]
      split <;> simp; omega
    rw[hf]
    unfold alike
    by_cases h1:(decide (x.a=j.a) && decide (x.b=j.b))=true
    · simp only [h1, if_true, Bool.true_or]
      congr 5
      simp; omega
    · by_cases h2 : (decide (x.a = j.b) && decide (x.b = j.a)) = true
      · simp only [Bool.not_eq_true] at h1
        simp only[h1,h2,Bool.false_or,if_true,Bool.false_eq_true,if_false]
        congr 5
        simp; omega
      · simp only [Bool.not_eq_true] at h1 h2
        simp only[h1,h2,Bool.false_or,Bool.false_eq_true,if_false,Nat.zero_add]
theorem s116 {l:Nat} (hl:2≤l) {g:Grove} (hg:g.joins.length<1000) {j:Join}:pcD P (K l) 116 [dG g,dJoin j]=some (dB (joinOk g.pads.length g.joins j)):=by
  obtain⟨l,rfl⟩:=lev hl
  refine pcD_b ?_
  rw[c116]
  unfold C116_0 B116_0
  simp only[bindO_some,elsD_sl,aggD_agg,lenD_eq,getD1,List.length_map]
  have:=l109 (l:=l+1) (k:=19999) (by omega) (g:=g) (j:=j) g.joins [] 19999 0 (by omega) (by show 0+_<big; unfold big; omega) (by unfold big; omega)
  unfold joinOk
  simpa using this
def gLim (g:Grove):Bool:=decide (8<g.pads.length) || (decide (16<g.joins.length) || decide (3<g.kinds.length))
def gGood (g:Grove):Bool:=!decide (g.pads.length=0) && (!decide (g.kinds.length=0) && (g.pads.all padOk && (g.joins.all (joinOk g.pads.length g.joins) && g.kinds.all kdOk)))
def gErr (g:Grove):Int:=if gLim g then 3 else if gGood g then 0 else 1
theorem s102 {l:Nat} (hl:4≤l) {g:Grove} (hs:gSmall g):pcD P (K l) 102 [dG g]=some (dI (gErr g)):=by
  obtain⟨l,rfl⟩:=lev hl
  refine pcD_b ?_
  obtain⟨h1,h2,h3⟩:=hs
  rw[c102]
  unfold C102_0 B102_0 C102_1 B102_1 C102_2 B102_2 C102_3 B102_3
  have e1:=s113 (l:=l+3) (by omega) (g:=114) (a:=[]) (b:=[]) (p:=padOk) (xs:=g.pads) (by omega) (fun x _=>s114 (by omega))
  have e2:=s115 (l:=l+3) (by omega) (g:=116) (a:=[dG g]) (b:=[]) (p:=joinOk g.pads.length g.joins) (xs:=g.joins) (by omega) (fun x _=>s116 (by omega) (by omega))
  have e3:=s117 (l:=l+3) (by omega) (g:=118) (a:=[]) (b:=[]) (p:=kdOk) (xs:=g.kinds) (by omega) (fun x _=>s118 (by omega))
  simp only[aggD_agg,bindO_some,getD0,getD1,getD2,elsD_sl,lenD_eq,binD_gtr,binD_eql,cut3,e1,e2,e3,semD_not,ifU_c]
  have q1:decide ((8:Int)<((g.pads.map dPad).length:Nat))=decide (8<g.pads.length):=by simp; norm_cast
  have q2:decide ((16:Int)<((g.joins.map dJoin).length:Nat))=decide (16<g.joins.length):=by simp; norm_cast
  have q3:decide ((3:Int)<((g.kinds.map dKd).length:Nat))=decide (3<g.kinds.length):=by simp; norm_cast
  have q4:decide ((((g.pads.map dPad).length:Nat):Int)=0)=decide (g.pads.length=0):=by simp
  have q5:decide ((((g.kinds.map dKd).length:Nat):Int)=0)=decide (g.kinds.length=0):=by simp
  rw[q1,q2,q3,q4,q5]
  unfold gErr gLim gGood
  cases decide (8<g.pads.length) <;> cases decide (16<g.joins.length) <;> cases decide (3<g.kinds.length) <;> cases decide (g.pads.length=0) <;> cases decide (g.kinds.length=0) <;> cases g.pads.all padOk <;>
    cases g.joins.all (joinOk g.pads.length g.joins) <;> cases g.kinds.all kdOk <;> rfl
theorem s77 {l:Nat} (hl:5≤l) {g:Grove} (hs:gSmall g):pcD P (K l) 77 [dG g]=some (dI (gErr g)):=by
  obtain⟨l,rfl⟩:=lev hl
  refine pcD_b ?_
  rw[c77]
  unfold C77_0 B77_0
  simp only[aggD_agg,bindO_some,cut3,s102 (l:=l+4) (by omega) hs]
end Go.Proofs.YtnnkcjolgbpklaaGreat.L
end
section
open Go Go.Ev
set_option maxRecDepth 100000
namespace Go.Proofs.YtnnkcjolgbpklaaGreat.L
def jR (n:Nat):List Join→List Join→Bool
  | _,[]=>true
  | pre,j::suf=>hasP n j.a && (hasP n j.b && (!decide (j.a=j.b) && (!pre.any (alike j) && jR n (pre++[j]) suf)))
theorem l80_8 {l k m1:Nat} {b6:D→List D→Option D} {ps:List Pad} {js:List Join} {ks:List Kd} {i:Nat} {j:Join} {tail:List Join} (hi:i<big):∀(rest don:List Join) (m:Nat),rest.length<m→js=don++(rest++tail)→i=don.length+rest.length →
    S87_8 (K l) k m1 b6 m (dI (i:Nat)) (dI don.length) (gC ⟨ps,js,ks⟩) [dI j.a,dI j.b]=if rest.any (alike j) then some (dI 1) else b6 (dI ((i+1:Nat):Int)) (gC ⟨ps,js,ks⟩)
  | [],don,0,hm,_,_=>by simp at hm
  | [],don,m+1,_,_,he=>by
    rw[r87_8]
    unfold C87_8 B87_8
    rw[binD_lss,bindO_some,ifU_dec,if_neg (by simp at he; omega),binD_succ (k:=i) (sbig hi)]
    rfl
  | x::rest,don,0,hm,_,_=>by simp at hm
  | x::rest,don,m+1,hm,hj,he=>by
    rw[r87_8]
    unfold C87_8 B87_8 C87_9 B87_9
    simp only[List.length_cons] at hm he
    rw[binD_lss,bindO_some,ifU_dec,if_pos (by omega)]
    have hj':js=don++x::(rest++tail):=by rw[hj]; simp
    have ih:=l80_8 (l:=l) (k:=k) (m1:=m1) (b6:=b6) (ps:=ps) (ks:=ks) (j:=j) (tail:=tail) (js:=js) hi rest (don++[x]) m (by omega) (by rw[hj]; simp) (by simp; omega)
    subst hj'
    simp only[bindO_some,elsD_sl,aggD_agg,chkK_t,if_true,binD_eql,beq_refl,getD0,getD1,cut2,spl2,len2,at_map,eq_two (t:=89) (by kernel_rfl) (by kernel_rfl),ifU_c,succ_pre (a:=x) (sbig (show don.length<big by omega))]
    rw[ih]
    unfold alike
    simp only[List.any_cons]
    rcases Bool.eq_false_or_eq_true (decide (x.a=j.a)) with h10 | h10 <;> rcases Bool.eq_false_or_eq_true (decide (x.b=j.b)) with h11 | h11 <;> rcases Bool.eq_false_or_eq_true (decide (x.a=j.b)) with h12 | h12 <;> rcases Bool.eq_false_or_eq_true (decide (x.b=j.a)) with h13 | h13 <;> simp only[h10,h11,h12,h13] <;> simp
theorem l80_6 {l k:Nat} (hl:1≤l) {ps:List Pad} {ks:List Kd} (hps:ps.length<big):∀(suf pre:List Join) (m:Nat),pre.length+2 * suf.length<m→pre.length+suf.length<big →
    S87_6 (K l) k m (dI pre.length) (gC ⟨ps,pre++suf,ks⟩)=some (dI (if jR ps.length pre suf then 0 else 1))
  | [],pre,0,hm,_=>by simp at hm
  | [],pre,m+1,_,_=>by
    rw[r87_6]
    unfold C87_6 B87_6
    simp only[bindO_some,elsD_sl,ifU_f,lenD_eq,List.append_nil,getD0,getD1,lss_end2]
    rfl
  | x::suf,pre,0,hm,_=>by simp at hm
  | x::suf,pre,m+1,hm,hb=>by
    rw[r87_6]
    unfold C87_6 B87_6 C87_7 B87_7
    simp only[List.length_cons] at hm hb
    have hsub:I64 ((((ps.map dPad).length:Nat):Int)-1):=by unfold I64; simp; unfold big at hps; omega
    have h8:=l80_8 (l:=l) (k:=k) (m1:=m+1) (b6:=S87_6 (K l) k m) (ps:=ps) (ks:=ks) (j:=x) (tail:=x::suf) (js:=pre++x::suf) (i:=pre.length) (show pre.length<big by omega) pre [] (m+1) (by omega) rfl (by simp)
    have ih:=l80_6 (k:=k) hl (ks:=ks) hps suf (pre++[x]) m (by simp; omega) (by simp; omega)
    simp only[List.append_assoc,List.cons_append,List.nil_append] at ih
    simp only[bindO_some,elsD_sl,aggD_agg,chkK_t,if_true,binD_eql,semD_not,beq_refl,lenD_eq,getD0,getD1,cut2,spl2,len2,at_map,lss_mid2,binD_sub hsub,s35 hl,ifU_c]
    simp only[List.length_nil] at h8
    have h8':=h8
    simp only[Int.cast_ofNat_Int] at h8'
    have e0:(dI ((0:Nat):Int))=(.v (.int .i64 0):D):=rfl
    rw[e0] at h8
    simp only[List.length_append,List.length_cons,List.length_nil,Nat.zero_add] at ih
    rw[h8,ih]
    have en:(((ps.map dPad).length:Nat):Int)-1=(ps.length:Int)-1:=by simp
    simp only[jR,hasP,en]
    rcases Bool.eq_false_or_eq_true (inR x.a 0 (↑ps.length-1)) with h10 | h10 <;> rcases Bool.eq_false_or_eq_true (inR x.b 0 (↑ps.length-1)) with h11 | h11 <;> rcases Bool.eq_false_or_eq_true (decide (x.a=x.b)) with h12 | h12 <;> rcases Bool.eq_false_or_eq_true (pre.any (alike x)) with h13 | h13 <;> simp only[h10,h11,h12,h13] <;> simp
theorem l80_4 {l k:Nat} (hl:2≤l) {ps:List Pad} {js:List Join} (hps:ps.length<big) (hjs:js.length<1000) (hk:5000<k):∀(suf pre:List Kd) (m:Nat),suf.length<m→pre.length+suf.length<big →
    S87_4 (K l) k m (dI pre.length) (gC ⟨ps,js,pre++suf⟩)=some (dI (if suf.all kdOk && jR ps.length [] js then 0 else 1))
  | [],pre,0,hm,_=>by simp at hm
  | [],pre,m+1,_,_=>by
    rw[r87_4]
    unfold C87_4 B87_4
    simp only[bindO_some,elsD_sl,ifU_f,lenD_eq,List.append_nil,getD2,lss_end2]
    have:=l80_6 (l:=l) (k:=k) (by omega) (ks:=pre) hps js [] k (by simp; omega) (by show 0+_<big; unfold big; omega)
    simpa using this
  | x::suf,pre,0,hm,_=>by simp at hm
  | x::suf,pre,m+1,hm,hb=>by
    rw[r87_4]
    unfold C87_4 B87_4 C87_5 B87_5
    simp only[List.length_cons] at hm hb
    have ih:=l80_4 (k:=k) hl hps hjs hk suf (pre++[x]) m (by omega) (by simp; omega)
    simp only[List.append_assoc,List.cons_append,List.nil_append] at ih
    simp only[bindO_some,elsD_sl,aggD_agg,chkK_t,if_true,semD_not,beq_refl,lenD_eq,getD0,getD1,getD2,getD3,getD4,cut5,spl5,len5,at_map,lss_mid2,s35 (l:=l) (by omega),s105 hl,ifU_c,succ_pre (a:=x) (sbig (show pre.length<big by omega))]
    rw[ih]
    simp only[List.all_cons,kdOk]
    rcases Bool.eq_false_or_eq_true (inR x.young 0 1000) with h10 | h10 <;> rcases Bool.eq_false_or_eq_true (inR x.olo 0 x.ohi && decide (x.ohi≤1000)) with h11 | h11 <;> rcases Bool.eq_false_or_eq_true (inR x.nlo 0 x.nhi && decide (x.nhi≤1000)) with h12 | h12 <;> simp only[h10,h11,h12] <;> simp
theorem l80_3 {l k:Nat} (hl:2≤l) {js:List Join} {ks:List Kd} (hjs:js.length<1000) (hks:ks.length<1000) (hk:5000<k):∀(suf pre:List Pad) (m:Nat),suf.length<m→pre.length+suf.length<big →
    S87_3 (K l) k m (dI pre.length) (gC ⟨pre++suf,js,ks⟩)=some (dI (if suf.all padOk && (ks.all kdOk && jR (pre++suf).length [] js) then 0 else 1))
  | [],pre,0,hm,_=>by simp at hm
  | [],pre,m+1,_,hb=>by
    rw[r87_3]
    unfold C87_3 B87_3
    simp only[bindO_some,elsD_sl,ifU_f,lenD_eq,List.append_nil,getD0,lss_end2]
    have:=l80_4 (l:=l) (k:=k) hl (ps:=pre) (js:=js) (by simpa using hb) hjs hk ks [] k (by omega) (by show 0+_<big; unfold big; omega)
    simpa using this
  | x::suf,pre,0,hm,_=>by simp at hm
  | x::suf,pre,m+1,hm,hb=>by
    rw[r87_3]
    unfold C87_3 B87_3
    simp only[List.length_cons] at hm hb
    have ih:=l80_3 (k:=k) hl (js:=js) (ks:=ks) hjs hks hk suf (pre++[x]) m (by omega) (by simp; omega)
    simp only[List.append_assoc,List.cons_append,List.nil_append] at ih
    simp only[bindO_some,elsD_sl,aggD_agg,chkK_t,if_true,semD_not,beq_refl,lenD_eq,getD0,len2,drop1_0,at_map,lss_mid2,s105 hl,ifU_c,succ_pre (a:=x) (sbig (show pre.length<big by omega))]
    rw[ih]
    simp only[List.all_cons,padOk]
    rcases Bool.eq_false_or_eq_true (inR x.need 0 x.room && decide (x.room≤1000)) with h10 | h10 <;> simp only[h10] <;> simp
def rGood (g:Grove):Bool:=!decide (g.pads.length=0) && (!decide (g.kinds.length=0) && (g.pads.all padOk && (g.kinds.all kdOk && jR g.pads.length [] g.joins)))
theorem s87 {l:Nat} (hl:3≤l) {g:Grove} (hs:gSmall g):pcD P (K l) 87 [dG g]=some (dI (if gLim g then 3 else if rGood g then 0 else 1)):=by
  obtain⟨l,rfl⟩:=lev hl
  refine pcD_b ?_
  obtain⟨h1,h2,h3⟩:=hs
  rw[c87]
  unfold C87_0 B87_0 C87_1 B87_1 C87_2 B87_2
  have e3:=l80_3 (l:=l+2) (k:=19999) (by omega) (js:=g.joins) (ks:=g.kinds) (by omega) (by omega) (by omega) g.pads [] 19999 (by omega) (by show 0+_<big; unfold big; omega)
  have e0:(dI (([]:List Pad).length:Nat))=(.v (.int .i64 0):D):=rfl
  rw[e0] at e3
  simp only[List.nil_append] at e3
  simp only[aggD_agg,bindO_some,getD0,getD1,getD2,elsD_sl,lenD_eq,binD_gtr,binD_eql,ifU_c,e3]
  have q1:decide ((8:Int)<((g.pads.map dPad).length:Nat))=decide (8<g.pads.length):=by simp; norm_cast
  have q2:decide ((16:Int)<((g.joins.map dJoin).length:Nat))=decide (16<g.joins.length):=by simp; norm_cast
  have q3:decide ((3:Int)<((g.kinds.map dKd).length:Nat))=decide (3<g.kinds.length):=by simp; norm_cast
  have q4:decide ((((g.pads.map dPad).length:Nat):Int)=0)=decide (g.pads.length=0):=by simp
  have q5:decide ((((g.kinds.map dKd).length:Nat):Int)=0)=decide (g.kinds.length=0):=by simp
  rw[q1,q2,q3,q4,q5]
  unfold gLim rGood
  cases decide (8<g.pads.length) <;> cases decide (16<g.joins.length) <;> cases decide (3<g.kinds.length) <;> cases decide (g.pads.length=0) <;> cases decide (g.kinds.length=0) <;> rfl
end Go.Proofs.YtnnkcjolgbpklaaGreat.L
end
section
open Go Go.Ev
set_option maxRecDepth 100000
namespace Go.Proofs.YtnnkcjolgbpklaaGreat.L
def jB (n:Nat) (j:Join):Bool:=hasP n j.a && (hasP n j.b && !decide (j.a=j.b))
theorem alike_self (j:Join):alike j j=true:=by simp [alike]
theorem alike_sym (j o:Join):alike j o=alike o j:=by
  unfold alike
  rw[Bool.eq_iff_iff]
  simp only[Bool.or_eq_true,Bool.and_eq_true,decide_eq_true_eq]
  constructor
  · rintro (⟨a, b⟩ | ⟨a, b⟩)
    · exact .inl ⟨a.symm,b.symm⟩
    · exact .inr ⟨b.symm,a.symm⟩
  · rintro (⟨a, b⟩ | ⟨a, b⟩)
    · exact .inl ⟨a.symm,b.symm⟩
    · exact .inr ⟨b.symm,a.symm⟩
theorem jR_iff {n:Nat}:∀(suf pre:List Join),jR n pre suf=true↔(∀ j ∈ suf,jB n j=true)∧(∀ j ∈ suf,∀ o ∈ pre,alike j o=false)∧suf.Pairwise (fun o j=>alike j o=false)
  | [],pre=>by simp [jR]
  | x::suf,pre=>by
    simp only[jR,Bool.and_eq_true,Bool.not_eq_true',jR_iff suf (pre++[x]),List.pairwise_cons,List.mem_cons,List.mem_append,List.any_eq_false,decide_eq_false_iff_not]
    simp only[jB,Bool.and_eq_true,Bool.not_eq_true',decide_eq_false_iff_not]
    constructor
    · rintro ⟨a, b, c, d, e, f, g⟩
      refine⟨?_,?_,?_,g⟩
      · rintro j (rfl | hj)
        · exact⟨a,b,c⟩
        · exact e j hj
      · rintro j (rfl | hj) o ho
        · simpa using d o ho
        · exact f j hj o (.inl ho)
      · intro j hj
        exact f j hj x (.inr (.inl rfl))
    · rintro ⟨e, f, g, h⟩
      refine⟨(e x (.inl rfl)).1,(e x (.inl rfl)).2.1,(e x (.inl rfl)).2.2,fun o ho=>by simpa using f x (.inl rfl) o ho,fun j hj=>e j (.inr hj),?_,h⟩
      rintro j hj o (ho | ho | ho)
      · exact f j (.inr hj) o ho
      · subst ho; exact g j hj
      · cases ho
theorem pw_iff:∀ js:List Join,(∀ j ∈ js,(js.filter (alike j)).length=1)↔js.Pairwise (fun o j=>alike j o=false)
  | []=>by simp
  | x::js=>by
    rw[List.pairwise_cons,← pw_iff js]
    constructor
    · intro h
      have hx:=h x (by simp)
      rw[List.filter_cons,if_pos (alike_self x)] at hx
      have h0:js.filter (alike x)=[]:=by
        simp only[List.length_cons] at hx
        exact List.length_eq_zero_iff.1 (by omega)
      have hn:∀ j ∈ js,alike j x=false:=fun j hj=>by
        rw[alike_sym]
        have:=List.filter_eq_nil_iff.1 h0 j hj
        simpa using this
      refine⟨hn,fun j hj=>?_⟩
      have:=h j (by simp [hj])
      rwa [List.filter_cons,if_neg (by simp [hn j hj])] at this
    · rintro ⟨hn, h⟩ j hj
      rcases List.mem_cons.1 hj with rfl | hj
      · rw [List.filter_cons, if_pos (alike_self j)]
        have h0:js.filter (alike j)=[]:=by
          rw[List.filter_eq_nil_iff]
          intro o ho
          have:=hn o ho
          rw[alike_sym] at this
          simp [this]
        rw[h0]; rfl
      · rw [List.filter_cons, if_neg (by simp [hn j hj])]
        exact h j hj
theorem joins_eq {n:Nat} {js:List Join}:js.all (joinOk n js)=jR n [] js:=by
  rw[Bool.eq_iff_iff,jR_iff]
  simp only[List.all_eq_true,joinOk,Bool.and_eq_true,Bool.not_eq_true',decide_eq_true_eq,decide_eq_false_iff_not,jB]
  rw[← pw_iff]
  constructor
  · intro h
    exact⟨fun j hj=>⟨(h j hj).1,(h j hj).2.1,(h j hj).2.2.1⟩,fun j hj o ho=>by simp at ho,fun j hj=>(h j hj).2.2.2⟩
  · rintro ⟨a, _, c⟩ j hj
    exact⟨(a j hj).1,(a j hj).2.1,(a j hj).2.2,c j hj⟩
theorem good_eq (g:Grove):rGood g=gGood g:=by
  unfold rGood gGood
  rw[joins_eq]
  cases g.kinds.all kdOk <;> cases jR g.pads.length [] g.joins <;> rfl
theorem sFault {l:Nat} (hl:3≤l) {g:Grove} (hs:gSmall g):pcD P (K l) 87 [dG g]=some (dI (gErr g)):=by
  rw[s87 hl hs,good_eq]
  rfl
end Go.Proofs.YtnnkcjolgbpklaaGreat.L
end
section
open Go Go.Ev
set_option maxRecDepth 100000
namespace Go.Proofs.YtnnkcjolgbpklaaGreat.L
theorem at_get {α:Type} {f:α→D} {xs:List α} {k:Nat} {x:α} {kk:D→Option D} (h:xs[k]?=some x):(bindO (idxD (.v (.int .i64 (k:Nat))) (xs.map f).length) fun i=>bindO ((xs.map f)[i]?) kk)=kk (f x):=by
  have hk:k<xs.length:=(List.getElem?_eq_some_iff.1 h).1
  rw[idxD_lt (by simpa using hk),bindO_some]
  simp [h,bindO_some]
theorem sub_one {k:Nat} {t:TypeId} {x y:Operand} (h:k<big):binD P .sub t x y (.v (.int .i64 ((k+1:Nat):Int))) (.v (.int .i64 1))=some (.v (.int .i64 (k:Int))):=by
  rw[binD_sub (by unfold I64; unfold big at h; omega)]
  congr 3
  omega
def rises:List Int→Bool
  | []=>true
  | [_]=>true
  | a::b::l=>decide (a<b) && rises (b::l)
def rP (n:Nat):Option Int→List Int→Bool
  | _,[]=>true
  | none,x::l=>hasP n x && rP n (some x) l
  | some q,x::l=>hasP n x && (decide (q<x) && rP n (some x) l)
def padsOk (n:Nat) (l:List Int):Bool:=l.all (hasP n) && rises l
theorem rP_some {n:Nat}:∀(l:List Int) (q:Int),rP n (some q) l=(l.all (hasP n) && rises (q::l))
  | [],q=>rfl
  | x::l,q=>by
    simp only[rP,rises,List.all_cons,rP_some l x]
    cases hasP n x <;> cases decide (q<x) <;> cases l.all (hasP n) <;> cases rises (x::l) <;> rfl
theorem rP_none {n:Nat}:∀(l:List Int),rP n none l=padsOk n l
  | []=>rfl
  | x::l=>by
    simp only[rP,padsOk,List.all_cons,rP_some l x]
    cases hasP n x <;> cases l.all (hasP n) <;> rfl
theorem l96 {l k:Nat}:∀(suf pre:List Int) (a:Int) (m:Nat),suf.length<m→pre.length+suf.length<500000 →
    S103_1 (K l) k m (dL (pre++a::suf)) (dI ((pre.length+1:Nat):Int))=some (dB (rises (a::suf)))
  | [],pre,a,0,hm,_=>by simp at hm
  | [],pre,a,m+1,_,_=>by
    rw[r103_1]
    unfold C103_1 B103_1
    have e:((pre.length+1:Nat):Int)=((pre++[a]).length:Nat):=by simp
    rw[e]
    simp only[bindO_some,elsD_sl,ifU_f,lenD_eq,lss_end2]
    rfl
  | x::suf,pre,a,0,hm,_=>by simp at hm
  | x::suf,pre,a,m+1,hm,hb=>by
    rw[r103_1]
    unfold C103_1 B103_1
    simp only[List.length_cons] at hm hb
    have ih:=l96 (l:=l) (k:=k) suf (pre++[a]) x m (by omega) (by simp; omega)
    have g1:(pre++a::x::suf)[pre.length+1]?=some x:=by simp
    have g0:(pre++a::x::suf)[pre.length]?=some a:=by simp
    simp only[elsD_sl,bindO_some,lenD_eq,binD_lss,ifU_dec]
    rw[if_pos (by simp; omega),at_get g1,leafD_v,chkK_t,sub_one (by unfold big; omega),bindO_some,at_get g0,leafD_v,chkK_t,binD_leq,bindO_some,ifU_dec,binD_succ (by omega),bindO_some]
    simp only[List.length_append,List.length_cons,List.length_nil,Nat.zero_add,List.append_assoc,List.cons_append,List.nil_append] at ih
    rw[ih]
    simp only[rises]
    by_cases h:x≤a
    · rw [if_pos h]
      have:decide (a<x)=false:=by simp; omega
      rw[this]; rfl
    · rw [if_neg h]
      have:decide (a<x)=true:=by simp; omega
      rw[this]; rfl
theorem s103 {l:Nat} (hl:1≤l) {xs:List Int} (hx:xs.length<1000):pcD P (K l) 103 [dL xs]=some (dB (rises xs)):=by
  obtain⟨l,rfl⟩:=lev hl
  refine pcD_b ?_
  rw[c103]
  unfold C103_0 B103_0
  cases xs with
  | nil=>rfl
  | cons a xs=>exact l96 (l:=l) (k:=19999) xs [] a 19999 (by simp at hx; omega) (by simp at hx ⊢; omega)
theorem s93 {l:Nat} (hl:1≤l) {f:Fld} {a:Int}:pcD P (K l) 93 [dF f,dI a]=some (dB (hasP f.g.pads.length a)):=by
  obtain⟨l,rfl⟩:=lev hl
  refine pcD_b ?_
  rw[c93]
  unfold C93_0 B93_0
  simp only[bindO_some,elsD_sl,aggD_agg,ifU_dec,binD_geq,lenD_eq,getD0,binD_lss,List.length_map,someIf3]
  unfold hasP inR
  congr 5
  simp; omega
theorem s78 {l:Nat} (hl:3≤l) {f:Fld} {xs:List Int} (hx:xs.length<1000):pcD P (K l) 78 [dF f,dL xs]=some (dB (padsOk f.g.pads.length xs)):=by
  obtain⟨l,rfl⟩:=lev hl
  refine pcD_b ?_
  rw[c78]
  unfold C78_0 B78_0
  have e1:=s79 (l:=l+2) (by omega) (g:=93) (a:=[dF f]) (b:=[]) (p:=hasP f.g.pads.length) (xs:=xs) hx (fun x _=>s93 (by omega))
  simp only[aggD_agg,bindO_some,cut5,e1,s103 (l:=l+2) (by omega) hx,ifU_c]
  unfold padsOk
  cases xs.all (hasP f.g.pads.length) <;> rfl
def eatOk (x:Int):Bool:=inR x 0 100
theorem s80 {l:Nat} (hl:1≤l) {x:Int}:pcD P (K l) 80 [dI x]=some (dB (eatOk x)):=by
  obtain⟨l,rfl⟩:=lev hl
  refine pcD_b ?_
  rw[c80]
  unfold C80_0 B80_0
  simp only[bindO_some,ifU_dec,binD_leq,binD_geq,someIf3]
  rfl
def fErr (f:Fld):Int:=if gErr f.g=0 then(if padsOk f.g.pads.length f.start && (decide (f.eats.length=f.g.pads.length) && f.eats.all eatOk) then 0 else 1) else gErr f.g
theorem s55 {l:Nat} (hl:6≤l) {f:Fld} (hs:fSmall f):pcD P (K l) 55 [dF f]=some (dI (fErr f)):=by
  obtain⟨l,rfl⟩:=lev hl
  refine pcD_b ?_
  rw[c55]
  unfold C55_0 B55_0 C55_1 B55_1
  obtain⟨h1,h2,h3⟩:=hs
  have e1:=s79 (l:=l+5) (by omega) (g:=80) (a:=[]) (b:=[]) (p:=eatOk) (xs:=f.eats) (by omega) (fun x _=>s80 (by omega))
  simp only[aggD_agg,bindO_some,cut53,cut5,getD0,getD3,getD4,elsD_sl,lenD_eq,s77 (l:=l+5) (by omega) h1,s78 (l:=l+5) (by omega) (xs:=f.start) (by omega),e1,binD_neq,semD_not,ifU_c]
  have q:decide (((f.eats.map dI).length:Int)=((f.g.pads.map dPad).length:Nat))=decide (f.eats.length=f.g.pads.length):=by simp; norm_cast
  rw[q]
  unfold fErr
  by_cases h0:gErr f.g=0
  · simp only [h0, decide_true, Bool.not_true, Bool.false_eq_true, if_false, if_true]
    cases padsOk f.g.pads.length f.start <;> cases decide (f.eats.length=f.g.pads.length) <;> cases f.eats.all eatOk <;> rfl
  · simp only[h0,decide_false,Bool.not_false,if_true,if_false]
theorem l81 {l k:Nat} (hl:1≤l) {f:Fld} (hn:f.g.pads.length<big):∀(suf pre:List Int) (q:Int) (m:Nat),suf.length<m→pre.length+suf.length<500000 →
    S88_1 (K l) k m (dL (pre++q::suf)) (dI ((pre.length+1:Nat):Int)) (fC f)=some (dB (rP f.g.pads.length (some q) suf))
  | [],pre,q,0,hm,_=>by simp at hm
  | [],pre,q,m+1,_,_=>by
    rw[r88_1]
    unfold C88_1 B88_1
    have e:((pre.length+1:Nat):Int)=((pre++[q]).length:Nat):=by simp
    rw[e]
    simp only[bindO_some,elsD_sl,ifU_dec,ifU_f,binD_gtr,lenD_eq,getD0,lss_end2]
    rfl
  | x::suf,pre,q,0,hm,_=>by simp at hm
  | x::suf,pre,q,m+1,hm,hb=>by
    rw[r88_1]
    unfold C88_1 B88_1 C88_2 B88_2
    simp only[List.length_cons] at hm hb
    have ih:=l81 (k:=k) hl hn suf (pre++[q]) x m (by omega) (by simp; omega)
    have g1:(pre++q::x::suf)[pre.length+1]?=some x:=by simp
    have g0:(pre++q::x::suf)[pre.length]?=some q:=by simp
    have hsub:I64 ((((f.g.pads.map dPad).length:Nat):Int)-1):=by unfold I64; simp; unfold big at hn; omega
    have hgt:(0:Int)<((pre.length+1:Nat):Int):=by omega
    simp only[elsD_sl,bindO_some,lenD_eq,binD_lss,ifU_dec]
    rw[if_pos (by simp; omega),at_get g1,leafD_v,chkK_t,getD0,bindO_some,elsD_sl,bindO_some,binD_sub hsub,bindO_some,s35 hl,bindO_some,semD_not,bindO_some,ifU_c,binD_gtr,bindO_some,ifU_dec,if_pos hgt,at_get g1,leafD_v,chkK_t,sub_one (by unfold big; omega),bindO_some,at_get g0,leafD_v,chkK_t,binD_leq,bindO_some,ifU_dec,ifU_t,binD_succ (by omega),bindO_some]
    simp only[List.length_append,List.length_cons,List.length_nil,Nat.zero_add,List.append_assoc,List.cons_append,List.nil_append] at ih
    rw[ih]
    have en:(((f.g.pads.map dPad).length:Nat):Int)-1=(f.g.pads.length:Int)-1:=by simp
    simp only[rP,hasP,en]
    by_cases h:x≤q
    · rw [if_pos h]
      have:decide (q<x)=false:=by simp; omega
      rw[this]
      rcases Bool.eq_false_or_eq_true (inR x 0 (↑f.g.pads.length-1)) with h1 | h1 <;> simp [h1]
    · rw [if_neg h]
      have:decide (q<x)=true:=by simp; omega
      rw[this]
      rcases Bool.eq_false_or_eq_true (inR x 0 (↑f.g.pads.length-1)) with h1 | h1 <;> simp [h1]
theorem s88 {l:Nat} (hl:2≤l) {f:Fld} (hn:f.g.pads.length<big) {xs:List Int} (hx:xs.length<1000):pcD P (K l) 88 [dF f,dL xs]=some (dB (padsOk f.g.pads.length xs)):=by
  obtain⟨l,rfl⟩:=lev hl
  refine pcD_b ?_
  rw[c88,← rP_none]
  unfold C88_0 B88_0
  rw[aggD_agg,bindO_some]
  have e1:S88_1 (K (l+1)) 19999 19999=C88_1 (K (l+1)) 19999 19999 (S88_1 (K (l+1)) 19999 19998):=r88_1 _ _ (m:=19998)
  rw[e1]
  unfold C88_1 B88_1 C88_2 B88_2
  cases xs with
  | nil=>rfl
  | cons x xs=>
    have ih:=l81 (l:=l+1) (k:=19999) (by omega) hn xs [] x 19998 (by simp at hx; omega) (by simp at hx ⊢; omega)
    have g0:(x::xs)[0]?=some x:=rfl
    have hsub:I64 ((((f.g.pads.map dPad).length:Nat):Int)-1):=by unfold I64; simp; unfold big at hn; omega
    have hi:((dI 0:D))=.v (.int .i64 ((0:Nat):Int)):=rfl
    have e0:(.v (.int .i64 0):D)=.v (.int .i64 ((0:Nat):Int)):=rfl
    simp only[elsD_sl,bindO_some,lenD_eq,binD_lss,ifU_dec]
    rw[if_pos (by simp),e0,at_get g0,leafD_v,chkK_t,getD0,bindO_some,elsD_sl,bindO_some,binD_sub hsub,bindO_some,← e0,s35 (by omega),bindO_some,semD_not,bindO_some,ifU_c,binD_gtr,bindO_some,ifU_dec,if_neg (show ¬ ((0:Int)<0) by decide),ifU_t,ifU_f,e0,binD_succ (by omega),bindO_some]
    simp only[List.nil_append,List.length_nil] at ih
    rw[ih]
    have en:(((f.g.pads.map dPad).length:Nat):Int)-1=(f.g.pads.length:Int)-1:=by simp
    simp only[rP,hasP,en]
    rcases Bool.eq_false_or_eq_true (inR x 0 (↑f.g.pads.length-1)) with h1 | h1 <;> simp [h1]
end Go.Proofs.YtnnkcjolgbpklaaGreat.L
end
section
open Go Go.Ev
set_option maxRecDepth 100000
namespace Go.Proofs.YtnnkcjolgbpklaaGreat.L
def pErr (f:Fld) (plan:List (List Int)):Int:=if 300<plan.length then 3 else if plan.all (padsOk f.g.pads.length) then 0 else 2
theorem l55 {l k:Nat} (hl:2≤l) {f:Fld} (hn:f.g.pads.length<big):∀(suf pre:List (List Int)) (m:Nat),suf.length<m→pre.length+suf.length<big→(∀ x ∈ suf,x.length<1000) →
    S61_1 (K l) k m (dLL (pre++suf)) (dI pre.length) (fC f)=some (dI (if suf.all (padsOk f.g.pads.length) then 0 else 2))
  | [],pre,0,hm,_,_=>by simp at hm
  | [],pre,m+1,_,_,_=>by
    rw[r61_1]
    unfold C61_1 B61_1
    simp only[bindO_some,elsD_sl,ifU_f,lenD_eq,List.append_nil,cut5,lss_end2]
    rfl
  | x::suf,pre,0,hm,_,_=>by simp at hm
  | x::suf,pre,m+1,hm,hb,hx=>by
    rw[r61_1]
    unfold C61_1 B61_1
    simp only[List.length_cons] at hm hb
    have ih:=l55 (k:=k) hl hn suf (pre++[x]) m (by omega) (by simp; omega) (fun y hy=>hx y (by simp [hy]))
    simp only[List.append_assoc,List.cons_append,List.nil_append] at ih
    simp only[bindO_some,elsD_sl,chkK_t,leafD_sl,if_true,semD_not,lenD_eq,cut5,at_map,lss_mid2,s88 hl hn (hx x (by simp)),ifU_c,succ_pre (a:=x) (sbig (show pre.length<big by omega))]
    rw[ih]
    simp only[List.all_cons]
    rcases Bool.eq_false_or_eq_true (padsOk f.g.pads.length x) with h1 | h1 <;> simp [h1]
theorem s61 {l:Nat} (hl:3≤l) {f:Fld} (hn:f.g.pads.length<big) {plan:List (List Int)} (hp:plan.length<1000) (hx:∀ x ∈ plan,x.length<1000):pcD P (K l) 61 [dF f,dLL plan]=some (dI (pErr f plan)):=by
  obtain⟨l,rfl⟩:=lev hl
  refine pcD_b ?_
  rw[c61]
  unfold C61_0 B61_0
  have e:=l55 (l:=l+2) (k:=19999) (by omega) hn plan [] 19999 (by omega) (by show 0+_<big; unfold big; omega) hx
  simp only[List.nil_append,List.length_nil] at e
  have e0:(dI ((0:Nat):Int))=(.v (.int .i64 0):D):=rfl
  rw[e0] at e
  simp only[aggD_agg,bindO_some,elsD_sl,lenD_eq,binD_gtr,ifU_dec,e]
  unfold pErr
  by_cases h:300<plan.length
  · rw[if_pos (by simp; omega),if_pos h]
  · rw[if_neg (by simp; omega),if_neg h]
theorem l54 {l k:Nat} (hl:1≤l) {g:Grove} {st:List Int}:∀(suf pre:List Int) (m:Nat),suf.length<m→pre.length+suf.length<big →
    S60_2 (K l) k m (dI pre.length) (fC ⟨g,st,pre++suf⟩)=some (dI (if suf.all eatOk then 0 else 1))
  | [],pre,0,hm,_=>by simp at hm
  | [],pre,m+1,_,_=>by
    rw[r60_2]
    unfold C60_2 B60_2
    simp only[bindO_some,elsD_sl,ifU_f,lenD_eq,List.append_nil,getD4,lss_end2]
    rfl
  | x::suf,pre,0,hm,_=>by simp at hm
  | x::suf,pre,m+1,hm,hb=>by
    rw[r60_2]
    unfold C60_2 B60_2
    simp only[List.length_cons] at hm hb
    have ih:=l54 (k:=k) hl (g:=g) (st:=st) suf (pre++[x]) m (by omega) (by simp; omega)
    simp only[List.append_assoc,List.cons_append,List.nil_append] at ih
    simp only[bindO_some,elsD_sl,chkK_t,leafD_v,if_true,semD_not,lenD_eq,getD4,at_map,lss_mid2,s35 hl,ifU_c,succ_pre (a:=x) (sbig (show pre.length<big by omega))]
    rw[ih]
    simp only[List.all_cons,eatOk]
    rcases Bool.eq_false_or_eq_true (inR x 0 100) with h1 | h1 <;> simp [h1]
theorem s60 {l:Nat} (hl:4≤l) {f:Fld} (hs:fSmall f):pcD P (K l) 60 [dF f]=some (dI (fErr f)):=by
  obtain⟨l,rfl⟩:=lev hl
  refine pcD_b ?_
  rw[c60]
  unfold C60_0 B60_0 C60_1 B60_1
  have hs':=hs
  obtain⟨h1,h2,h3⟩:=hs
  have e:=l54 (l:=l+3) (k:=19999) (by omega) (g:=f.g) (st:=f.start) f.eats [] 19999 (by omega) (by show 0+_<big; unfold big; omega)
  simp only[List.nil_append,List.length_nil] at e
  have e0:(dI ((0:Nat):Int))=(.v (.int .i64 0):D):=rfl
  rw[e0] at e
  have hf:(fC ⟨f.g,f.start,f.eats⟩)=fC f:=rfl
  rw[hf] at e
  simp only[aggD_agg,bindO_some,cut53,cut5,getD0,getD3,getD4,elsD_sl,lenD_eq,sFault (l:=l+3) (by omega) h1,s88 (l:=l+3) (by omega) (f:=f) (show f.g.pads.length<big by have:=h1.1; unfold big; omega) (xs:=f.start) (by omega),binD_neq,semD_not,ifU_c,e]
  have q:decide (((f.eats.map dI).length:Int)=((f.g.pads.map dPad).length:Nat))=decide (f.eats.length=f.g.pads.length):=by simp; norm_cast
  rw[q]
  unfold fErr
  by_cases h0:gErr f.g=0
  · simp only [h0, decide_true, Bool.not_true, Bool.false_eq_true, if_false, if_true]
    rcases Bool.eq_false_or_eq_true (padsOk f.g.pads.length f.start) with h4 | h4 <;> rcases Bool.eq_false_or_eq_true (decide (f.eats.length=f.g.pads.length)) with h5 | h5 <;> rcases Bool.eq_false_or_eq_true (f.eats.all eatOk) with h6 | h6 <;> simp only[h4,h5,h6] <;> rfl
  · simp only[h0,decide_false,Bool.not_false,if_true,if_false]
theorem s21 {l:Nat} (hl:5≤l) {f:Fld} (hs:fSmall f):pcD P (K l) 21 [dF f]=some (dI (fErr f)):=by
  obtain⟨l,rfl⟩:=lev hl
  refine pcD_b ?_
  rw[c21]
  unfold C21_0 B21_0
  simp only[aggD_agg,bindO_some,cut5,s60 (l:=l+4) (by omega) hs]
def aErr (f:Fld) (plan:List (List Int)):Int:=if fErr f=0 then pErr f plan else fErr f
theorem s22 {l:Nat} (hl:6≤l) {f:Fld} (hs:fSmall f) {plan:List (List Int)} (hp:plan.length<1000) (hx:∀ x ∈ plan,x.length<1000):pcD P (K l) 22 [dF f,dLL plan]=some (dI (aErr f plan)):=by
  obtain⟨l,rfl⟩:=lev hl
  refine pcD_b ?_
  rw[c22]
  unfold C22_0 B22_0
  simp only[aggD_agg,bindO_some,cut5,s21 (l:=l+5) (by omega) hs,s61 (l:=l+5) (by omega) (f:=f) (show f.g.pads.length<big by have:=hs.1.1; unfold big; omega) hp hx,binD_neq,ifU_c]
  unfold aErr
  by_cases h0:fErr f=0
  · simp [h0]
  · simp [h0]
def setB (l:List Int):BitVec 64:=l.foldl (fun s p=>s ||| BitVec.twoPow 64 p.toNat) 0#64
theorem l76 {l k:Nat}:∀(suf pre:List Int) (s:BitVec 64) (m:Nat),suf.length<m→pre.length+suf.length<big→(∀ x ∈ suf,0≤x∧x<64) →
    S83_1 (K l) k m (uB s) (dL (pre++suf)) (dI ((pre++suf).map dI).length) (dI pre.length)=some (uB (suf.foldl (fun s p=>s ||| BitVec.twoPow 64 p.toNat) s))
  | [],pre,s,0,hm,_,_=>by simp at hm
  | [],pre,s,m+1,_,_,_=>by
    rw[r83_1]
    unfold C83_1 B83_1
    simp only[bindO_some,elsD_sl,ifU_f,List.append_nil,lss_end2]
    rfl
  | x::suf,pre,s,0,hm,_,_=>by simp at hm
  | x::suf,pre,s,m+1,hm,hb,hx=>by
    rw[r83_1]
    unfold C83_1 B83_1
    simp only[List.length_cons] at hm hb
    have ih:=l76 (l:=l) (k:=k) suf (pre++[x]) (s ||| BitVec.twoPow 64 x.toNat) m (by omega) (by simp; omega) (fun y hy=>hx y (by simp [hy]))
    simp only[List.append_assoc,List.cons_append,List.nil_append] at ih
    obtain⟨h0,h1⟩:=hx x (by simp)
    have hs:binD P .shl 106 (Operand.const (Value.int IntKind.u64 1)) (Operand.tmp 13) (.v (.int .u64 1)) (dI x)=some (uB (BitVec.twoPow 64 x.toNat)):=by
      have:=binD_shl (P:=P) (t:=106) (x:=Operand.const (Value.int IntKind.u64 1)) (y:=Operand.tmp 13) (p:=x.toNat) (by omega)
      have e:((x.toNat:Nat):Int)=x:=by omega
      rw[e] at this
      exact this
    simp only[bindO_some,elsD_sl,chkK_t,leafD_v,ifU_t,at_map,lss_mid2,hs,binD_or,succ_pre (a:=x) (sbig (show pre.length<big by omega))]
    rw[ih]
    rfl
theorem s83 {l:Nat} (hl:1≤l) {xs:List Int} (hb:xs.length<1000) (hx:∀ x ∈ xs,0≤x∧x<64):pcD P (K l) 83 [dL xs]=some (uB (setB xs)):=by
  obtain⟨l,rfl⟩:=lev hl
  refine pcD_b ?_
  rw[c83]
  unfold C83_0 B83_0
  simp only[elsD_sl,bindO_some,lenD_eq]
  exact l76 (l:=l) (k:=19999) xs [] 0#64 19999 (by omega) (by show 0+_<big; unfold big; omega) hx
theorem setB_one (x:Int):setB [x]=BitVec.twoPow 64 x.toNat:=by simp [setB]
def meets (a b:BitVec 64):Bool:=!decide (a &&& b=0#64)
theorem s95 {l:Nat} (hl:1≤l) {a b:BitVec 64}:pcD P (K l) 95 [uB a,uB b]=some (dB (meets a b)):=by
  obtain⟨l,rfl⟩:=lev hl
  refine pcD_b ?_
  rw[c95]
  unfold C95_0 B95_0
  simp only[binD_and,bindO_some,binD_neq_u]
  rfl
theorem s86 {l:Nat} (hl:1≤l) {a b:BitVec 64}:pcD P (K l) 86 [uB a,uB b]=some (uB (a &&& ~~~b)):=by
  obtain⟨l,rfl⟩:=lev hl
  refine pcD_b ?_
  rw[c86]
  unfold C86_0 B86_0
  simp only[binD_andNot,bindO_some]
theorem meets_two {a:BitVec 64} {p:Nat} (hp:p<64):meets a (BitVec.twoPow 64 p)=a.getLsbD p:=by
  unfold meets
  rw[BitVec.and_twoPow]
  cases h:a.getLsbD p
  · simp
  · have : BitVec.twoPow 64 p ≠ 0#64 := by
      intro e
      have:=congrArg (fun b=>BitVec.getLsbD b p) e
      simp [hp] at this
    simp [this]
theorem s94 {l:Nat} (hl:2≤l) {a:BitVec 64} {p:Nat} (hp:p<64):pcD P (K l) 94 [uB a,dI (p:Nat)]=some (dB (a.getLsbD p)):=by
  obtain⟨l,rfl⟩:=lev hl
  refine pcD_b ?_
  rw[c94]
  unfold C94_0 B94_0
  have e:=s83 (l:=l+1) (by omega) (xs:=[(p:Int)]) (by simp) (fun x hx=>by simp at hx; omega)
  have e':pcD P (K (l+1)) 83 [.sl [dI (p:Nat)]]=some (uB (setB [(p:Int)])):=e
  simp only[leafD_v,chkK_t,e',bindO_some,s95 (l:=l+1) (by omega),setB_one]
  have:((p:Int)).toNat=p:=by omega
  rw[this,meets_two hp]
def padsB (s:BitVec 64):List Int:=((List.range' 0 8).filter (fun p=>s.getLsbD p)).map (fun p:Nat=>(p:Int))
theorem l77 {l k:Nat} (hl:2≤l) {s:BitVec 64}:∀(r i m:Nat) (acc:List Int),i+r=8→r<m→acc.length≤i →
    S84_1 (K l) k m (uB s) (dI (i:Nat)) (acc.map dI)=some (dL (acc++((List.range' i r).filter (fun p=>s.getLsbD p)).map (fun p:Nat=>(p:Int))))
  | 0,i,0,acc,_,hm,_=>by simp at hm
  | 0,i,m+1,acc,hi,_,_=>by
    rw[r84_1]
    unfold C84_1 B84_1
    rw[binD_lss,bindO_some,ifU_dec,if_neg (by omega)]
    simp
  | r+1,i,0,acc,_,hm,_=>by simp at hm
  | r+1,i,m+1,acc,hi,hm,ha=>by
    rw[r84_1]
    unfold C84_1 B84_1 C84_2 B84_2
    rw[binD_lss,bindO_some,ifU_dec,if_pos (by omega),s94 hl (by omega),bindO_some,ifU_c,leafD_v,chkK_t,appD_lt (by simp; omega),bindO_some,binD_succ (by omega),bindO_some,bindO_some]
    have i1:=l77 (k:=k) hl (s:=s) r (i+1) m (acc++[(i:Int)]) (by omega) (by omega) (by simp; omega)
    have i2:=l77 (k:=k) hl (s:=s) r (i+1) m acc (by omega) (by omega) (by omega)
    simp only[List.map_append,List.map_cons,List.map_nil] at i1
    rw[i1,i2,List.range'_succ,List.filter_cons]
    cases h:s.getLsbD i <;> simp
theorem s84 {l:Nat} (hl:3≤l) {s:BitVec 64}:pcD P (K l) 84 [uB s]=some (dL (padsB s)):=by
  obtain⟨l,rfl⟩:=lev hl
  refine pcD_n ?_ (by kernel_rfl)
  rw[c84]
  unfold C84_0 B84_0
  exact l77 (l:=l+2) (k:=19999) (by omega) (s:=s) 8 0 19999 [] (by omega) (by omega) (by simp)
theorem l52 {l k:Nat} (hl:3≤l):∀(suf pre:List (BitVec 64)) (m:Nat),suf.length<m→pre.length+suf.length<big →
    S58_1 (K l) k m (.sl ((pre++suf).map uB)) (dI ((pre++suf).map uB).length) (dI pre.length) ((pre.map padsB).map dL)=some (dLL ((pre++suf).map padsB))
  | [],pre,0,hm,_=>by simp at hm
  | [],pre,m+1,_,_=>by
    rw[r58_1]
    unfold C58_1 B58_1
    simp only[bindO_some,elsD_sl,ifU_f,List.append_nil,lss_end2]
  | x::suf,pre,0,hm,_=>by simp at hm
  | x::suf,pre,m+1,hm,hb=>by
    rw[r58_1]
    unfold C58_1 B58_1
    simp only[List.length_cons] at hm hb
    have ih:=l52 (k:=k) hl suf (pre++[x]) m (by omega) (by simp; omega)
    simp only[List.map_append,List.map_cons,List.map_nil,List.append_assoc,List.cons_append,List.nil_append] at ih
    simp only[bindO_some,elsD_sl,chkK_t,leafD_v,leafD_sl,ifU_t,at_map,lss_mid2,s84 hl,succ_pre (a:=x) (sbig (show pre.length<big by omega))]
    rw[appD_lt (by simp; unfold big at hb; omega),bindO_some]
    simpa using ih
theorem s58 {l:Nat} (hl:4≤l) {xs:List (BitVec 64)} (hx:xs.length<1000):pcD P (K l) 58 [.sl (xs.map uB)]=some (dLL (xs.map padsB)):=by
  obtain⟨l,rfl⟩:=lev hl
  refine pcD_n ?_ (by kernel_rfl)
  rw[c58]
  unfold C58_0 B58_0
  simp only[elsD_sl,bindO_some,lenD_eq]
  exact l52 (l:=l+3) (k:=19999) (by omega) xs [] 19999 (by omega) (by show 0+_<big; unfold big; omega)
end Go.Proofs.YtnnkcjolgbpklaaGreat.L
end
section
open Go Go.Ev
set_option maxRecDepth 100000
namespace Go.Proofs.YtnnkcjolgbpklaaGreat.L
noncomputable abbrev hC (f:Fld) (near:List (BitVec 64)):List D:=.sl (f.g.pads.map dPad)::.sl (f.g.joins.map dJoin)::.sl (f.g.kinds.map dKd)::dL f.start::dL f.eats::near.map uB
noncomputable abbrev dH (f:Fld) (near:List (BitVec 64)):D:=.ref (hC f near)
theorem near_at {f:Fld} {near:List (BitVec 64)} {i:Nat} {x:BitVec 64} (h:near[i]?=some x):(List.drop (i * 1) (List.drop 5 (hC f near)))[0]?=some (uB x):=by
  have e:List.drop 5 (hC f near)=near.map uB:=rfl
  rw[e,List.getElem?_drop]
  simp [h]
def nextB (near:List (BitVec 64)) (s:BitVec 64) (p:Nat):Bool:=meets (near.getD p 0#64) s
theorem l112 {l k y:Nat} (hl:1≤l) {f:Fld} {near:List (BitVec 64)} {s:BitVec 64} {n:Nat} (hn:n≤near.length) (h8:near.length=8):∀(r i m:Nat),i+r=n→r<m →
    S119_1 (K l) k m y (.ref [dH f near]) (.ref [uB s]) (dI (n:Nat)) (dI (i:Nat))=some (listT y (((List.range' i r).filter (nextB near s)).map (fun p:Nat=>[dI (p:Int)])))
  | 0,i,0,_,hm=>by simp at hm
  | 0,i,m+1,hi,_=>by
    rw[r119_1]
    unfold C119_1 B119_1
    rw[binD_lss,bindO_some,ifU_dec,if_neg (by omega)]
    rfl
  | r+1,i,0,_,hm=>by simp at hm
  | r+1,i,m+1,hi,hm=>by
    rw[r119_1]
    unfold C119_1 B119_1 C119_2 B119_2
    have hlt:i<near.length:=by omega
    have hx:near[i]?=some (near.getD i 0#64):=by
      rw[List.getD_eq_getElem?_getD,List.getElem?_eq_getElem hlt]; rfl
    have ih:=l112 (k:=k) (y:=y) hl (f:=f) (s:=s) hn h8 r (i+1) m (by omega) (by omega)
    rw[binD_lss,bindO_some,ifU_dec,if_pos (by omega),derefD_ref,bindO_some,getD0,bindO_some,nilA_ref,derefD_ref,bindO_some,idxD_lt (by omega),bindO_some,near_at hx,bindO_some,derefD_ref,bindO_some,getD0,bindO_some,s95 hl,bindO_some,ifU_c,semD_not,bindO_some,semD_not,bindO_some,binD_succ (by omega),bindO_some]
    simp only[Bool.not_true,Bool.not_false,ifU_t,ifU_f]
    rw[ih,List.range'_succ,List.filter_cons]
    unfold nextB
    cases meets (near.getD i 0#64) s <;> rfl
theorem sNextY {l:Nat} (hl:1≤l) {f:Fld} {near:List (BitVec 64)} {s:BitVec 64} (hn:f.eats.length≤near.length) (h8:near.length=8) (y:Nat) :
    Rg l 119 [.yld y,.ref [dH f near],.ref [uB s]]=some (listT y (((List.range' 0 f.eats.length).filter (nextB near s)).map (fun p:Nat=>[dI (p:Int)]))):=by
  rw[c119]
  unfold C119_0 B119_0
  have e4:(List.drop 4 (hC f near))[0]?=some (dL f.eats):=rfl
  rw[derefD_ref,bindO_some,getD0,bindO_some,nilA_ref,derefD_ref,bindO_some,e4,bindO_some,elsD_sl,bindO_some,lenD_eq,List.length_map]
  exact l112 (l:=l) (k:=19999) (y:=y) hl (f:=f) (s:=s) hn h8 f.eats.length 0 19999 (by omega) (by omega)
theorem s104 {l:Nat} (hl:1≤l) {f:Fld} {near:List (BitVec 64)} {s:BitVec 64}:pcD P (K l) 104 [dH f near,uB s]=some (.fn 119 [] [.ref [dH f near],.ref [uB s]]):=by
  obtain⟨l,rfl⟩:=lev hl
  refine pcD_n ?_ (by kernel_rfl)
  rw[c104]
  unfold C104_0 B104_0
  simp only[leafD_ref,leafD_v,chkK_t]
theorem noResN:noRes P 119=true:=by kernel_rfl
theorem memN_nil {z:Nat}:memN [] z=false:=rfl
def orB (s:BitVec 64) (ps:List Nat):BitVec 64:=ps.foldl (fun s p=>s ||| BitVec.twoPow 64 p) s
theorem l78 {pc rg:PC} {l k:Nat} (hl:1≤l) {u:D}:∀(ps:List Nat) (s:BitVec 64),(∀ p ∈ ps,p<64) →
    S85_2 pc rg (K l) k (ps.map (fun p:Nat=>[dI (p:Int)])) (uB s) u=some (uB (orB s ps))
  | [],s,_=>by
    rw[List.map_nil,n85_2]
    rfl
  | p::ps,s,hp=>by
    rw[List.map_cons,r85_2]
    unfold C85_2 B85_2
    have e:=s83 hl (xs:=[(p:Int)]) (by simp) (fun x hx=>by have:=hp p (by simp); simp at hx; omega)
    have e':pcD P (K l) 83 [.sl [dI (p:Nat)]]=some (uB (setB [(p:Int)])):=e
    show chkK (leafD (dI (p:Int))) _=_
    have ep:((p:Int)).toNat=p:=by omega
    simp only[leafD_v,chkK_t,e',bindO_some,binD_or,setB_one,ep]
    exact l78 hl ps _ (fun q hq=>hp q (by simp [hq]))
def reachB (near:List (BitVec 64)) (n:Nat) (s:BitVec 64):BitVec 64:=orB 0#64 ((List.range' 0 n).filter (nextB near s))
theorem s85 {l:Nat} (hl:4≤l) {f:Fld} {near:List (BitVec 64)} {s:BitVec 64} (hn:f.eats.length≤near.length) (h8:near.length=8):pcD P (K l) 85 [dH f near,uB s]=some (uB (reachB near f.eats.length s)):=by
  obtain⟨l,rfl⟩:=lev hl
  refine pcD_b ?_
  have e:l+4=(l+1)+3:=by omega
  rw[e,c85]
  unfold C85_0 B85_0 C85_1 B85_1
  rw[s104 (by omega),bindO_some,fnK_fn,noResN,memN_nil]
  show chkK true _=_
  rw[chkK_t]
  refine(iterK_eq (ys:=((List.range' 0 f.eats.length).filter (nextB near s)).map (fun p:Nat=>[dI (p:Int)])) (fun y=>sNextY (l:=l+1+1) (by omega) hn h8 y)).trans ?_
  have:=l78 (pc:=K (l+1+2)) (rg:=Rg (l+1+1)) (l:=l+1) (k:=19999) (by omega) (u:=.fn 119 [] [.ref [dH f near],.ref [uB s]]) ((List.range' 0 f.eats.length).filter (nextB near s)) 0#64 (fun p hp=>by simp at hp; omega)
  exact this
end Go.Proofs.YtnnkcjolgbpklaaGreat.L
end
section
open Go Go.Ev
set_option maxRecDepth 100000
namespace Go.Proofs.YtnnkcjolgbpklaaGreat.L
theorem set_near {f:Fld} {near:List (BitVec 64)} {i:Nat} {v:BitVec 64}:List.set (hC f near) (5+i * 1) (uB v)=hC f (near.set i v):=by
  rw[show 5+i * 1=i+1+1+1+1+1 by omega]
  simp only[List.set_cons_succ]
  rw[← List.map_set]
theorem get_near {f:Fld} {near:List (BitVec 64)} {i:Nat} {v:BitVec 64} (h:near[i]?=some v):(hC f near)[5+i * 1]?=some (uB v):=by
  rw[show 5+i * 1=i+1+1+1+1+1 by omega]
  simp [h]
theorem len_near {f:Fld} {near:List (BitVec 64)} {i:Nat} (h:i<near.length):Nat.blt (5+i * 1) (hC f near).length=true:=by
  simp; omega
theorem getE {near:List (BitVec 64)} {i:Nat} (h:i<near.length):near[i]?=some (near.getD i 0#64):=by
  rw[List.getD_eq_getElem?_getD,List.getElem?_eq_getElem h]; rfl
def iStep (near:List (BitVec 64)) (i:Nat):List (BitVec 64):=near.set i (BitVec.twoPow 64 i)
def jStep (near:List (BitVec 64)) (j:Join):List (BitVec 64):=
  let n1:=near.set j.a.toNat (near.getD j.a.toNat 0#64 ||| BitVec.twoPow 64 j.b.toNat)
  n1.set j.b.toNat (n1.getD j.b.toNat 0#64 ||| BitVec.twoPow 64 j.a.toNat)
theorem sOne {l:Nat} (hl:1≤l) {x:Int} (h:0≤x∧x<64):pcD P (K l) 83 [.sl [dI x]]=some (uB (BitVec.twoPow 64 x.toNat)):=by
  have e:=s83 hl (xs:=[x]) (by simp) (fun y hy=>by simp at hy; subst hy; exact h)
  rw[setB_one] at e
  exact e
theorem l65_2 {l k:Nat} (hl:1≤l) {f:Fld}:∀(suf pre:List Join) (near:List (BitVec 64)) (m:Nat),suf.length<m→pre.length+suf.length<big→near.length=8→(∀ j ∈ suf,(0≤j.a∧j.a<8)∧0≤j.b∧j.b<8) →
    S66_2 (K l) k m (.sl ((pre++suf).map dJoin)) (dI ((pre++suf).map dJoin).length) (dI pre.length) (hC f near)=some (.tup [dH f (suf.foldl jStep near),dI 0])
  | [],pre,near,0,hm,_,_,_=>by simp at hm
  | [],pre,near,m+1,_,_,_,_=>by
    rw[r66_2]
    unfold C66_2 B66_2
    simp only[bindO_some,elsD_sl,ifU_f,List.append_nil,lss_end2]
    rfl
  | x::suf,pre,near,0,hm,_,_,_=>by simp at hm
  | x::suf,pre,near,m+1,hm,hb,h8,hj=>by
    rw[r66_2]
    unfold C66_2 B66_2
    simp only[List.length_cons] at hm hb
    obtain⟨ha,hbb⟩:=hj x (by simp)
    have ih:=l65_2 (k:=k) hl (f:=f) suf (pre++[x]) (jStep near x) m (by omega) (by simp; omega) (by simp [jStep,h8]) (fun j hj'=>hj j (by simp [hj']))
    simp only[List.append_assoc,List.cons_append,List.nil_append] at ih
    have ea:dI x.a=.v (.int .i64 ((x.a.toNat:Nat):Int)):=by congr 2; omega
    have eb:dI x.b=.v (.int .i64 ((x.b.toNat:Nat):Int)):=by congr 2; omega
    have i8a:idxD (dI x.a) 8=some x.a.toNat:=by rw[ea]; exact idxD_lt (by omega)
    have i8b:idxD (dI x.b) 8=some x.b.toNat:=by rw[eb]; exact idxD_lt (by omega)
    have la:x.a.toNat<near.length:=by omega
    have lb:x.b.toNat<(near.set x.a.toNat (near.getD x.a.toNat 0#64 ||| BitVec.twoPow 64 x.b.toNat)).length:=by simp; omega
    simp only[bindO_some,elsD_sl,aggD_agg,chkK_t,leafD_v,ifU_t,beq_refl,getD0,getD1,cut2,spl2,len2,at_map,lss_mid2,i8a,i8b,get_near (getE la),sOne hl (x:=x.b) (by omega),sOne hl (x:=x.a) (by omega),binD_or,set_near,len_near la,get_near (getE lb),len_near lb,succ_pre (a:=x) (sbig (show pre.length<big by omega))]
    exact ih
theorem l65_1 {l k:Nat} (hl:1≤l) {f:Fld} (hk:2000<k) (hjl:f.g.joins.length<1000) (hj:∀ j ∈ f.g.joins,(0≤j.a∧j.a<8)∧0≤j.b∧j.b<8) {n:Nat} (hn:n≤8):∀(r i m:Nat) (near:List (BitVec 64)),i+r=n→r<m→near.length=8 →
    S66_1 (K l) k m (dI (n:Nat)) (dI (i:Nat)) (hC f near)=some (.tup [dH f (f.g.joins.foldl jStep ((List.range' i r).foldl iStep near)),dI 0])
  | 0,i,0,near,_,hm,_=>by simp at hm
  | 0,i,m+1,near,hi,_,h8=>by
    rw[r66_1]
    unfold C66_1 B66_1
    rw[binD_lss,bindO_some,ifU_dec,if_neg (by omega)]
    have:=l65_2 (k:=k) hl (f:=f) f.g.joins [] near k (by omega) (by show 0+_<big; unfold big; omega) h8 hj
    simp only[List.nil_append,List.length_nil] at this
    rw[getD1,bindO_some,elsD_sl,bindO_some,lenD_eq]
    exact this
  | r+1,i,0,near,_,hm,_=>by simp at hm
  | r+1,i,m+1,near,hi,hm,h8=>by
    rw[r66_1]
    unfold C66_1 B66_1
    have ih:=l65_1 (k:=k) hl (f:=f) hk hjl hj hn r (i+1) m (iStep near i) (by omega) (by omega) (by simp [iStep,h8])
    have so:=sOne hl (x:=(i:Int)) (by omega)
    have ei:((i:Int)).toNat=i:=by omega
    rw[ei] at so
    rw[binD_lss,bindO_some,ifU_dec,if_pos (by omega),leafD_v,chkK_t,so,bindO_some,idxD_lt (by omega),bindO_some,leafD_v,chkK_t,len_near (by omega),chkK_t,binD_succ (by omega),bindO_some,set_near]
    rw[List.range'_succ,List.foldl_cons]
    exact ih
def nearOf (f:Fld):List (BitVec 64):=f.g.joins.foldl jStep ((List.range' 0 f.eats.length).foldl iStep (List.replicate 8 0#64))
theorem hasP_iff {n:Nat} {a:Int}:hasP n a=true↔0≤a∧a<n:=by
  unfold hasP inR
  simp; omega
theorem ok_of {f:Fld} (h:fErr f=0):f.g.pads.length≤8∧f.g.pads.length≠0∧f.eats.length=f.g.pads.length∧padsOk f.g.pads.length f.start=true∧∀ j ∈ f.g.joins,hasP f.g.pads.length j.a=true∧hasP f.g.pads.length j.b=true:=by
  unfold fErr at h
  split at h
  · rename_i h0
    split at h
    · rename_i h1
      simp only[Bool.and_eq_true,decide_eq_true_eq] at h1
      unfold gErr at h0
      split at h0
      · cases h0
      · rename_i hl
        split at h0
        · rename_i hg
          unfold gLim at hl
          unfold gGood at hg
          simp only[Bool.or_eq_true,decide_eq_true_eq] at hl
          simp only[Bool.and_eq_true,Bool.not_eq_true',decide_eq_false_iff_not,List.all_eq_true] at hg
          refine⟨by omega,hg.1,h1.2.1,h1.1,fun j hj=>?_⟩
          have:=hg.2.2.2.1 j hj
          unfold joinOk at this
          simp only[Bool.and_eq_true] at this
          exact⟨this.1,this.2.1⟩
        · cases h0
    · cases h
  · rename_i h0; exact absurd h h0
theorem fillH {a b c d e:D}:fillD [(.v (.slice none 0 0)),(.v (.slice none 0 0)),(.v (.slice none 0 0)),(.v (.slice none 0 0)),(.v (.slice none 0 0)),(.v (.int .u64 0)),(.v (.int .u64 0)),(.v (.int .u64 0)),(.v (.int .u64 0)),(.v (.int .u64 0)),(.v (.int .u64 0)),(.v (.int .u64 0)),(.v (.int .u64 0))] [(0,5,.agg [a,b,c,d,e])]=some [a,b,c,d,e,(.v (.int .u64 0)),(.v (.int .u64 0)),(.v (.int .u64 0)),(.v (.int .u64 0)),(.v (.int .u64 0)),(.v (.int .u64 0)),(.v (.int .u64 0)),(.v (.int .u64 0))]:=rfl
theorem s66 {l:Nat} (hl:7≤l) {f:Fld} (hs:fSmall f):pcD P (K l) 66 [dF f]=some (if fErr f=0 then .tup [dH f (nearOf f),dI 0] else .tup [.v (.pointer none),dI (fErr f)]):=by
  obtain⟨l,rfl⟩:=lev hl
  refine pcD_n ?_ (by kernel_rfl)
  rw[c66]
  unfold C66_0 B66_0
  rw[aggD_agg,bindO_some,cut5,bindO_some,s55 (l:=l+6) (by omega) hs,bindO_some,binD_neq,bindO_some,ifU_c]
  by_cases h0:fErr f=0
  · obtain ⟨h8, hne, he, _, hj⟩ := ok_of h0
    have e:=l65_1 (l:=l+6) (k:=19999) (by omega) (f:=f) (by omega) (by have:=hs.1.2.1; omega) (fun j hj'=>by
      have:=hj j hj'
      rw[hasP_iff,hasP_iff] at this
      omega) (n:=f.eats.length) (by omega) f.eats.length 0 19999 (List.replicate 8 0#64) (by omega) (by omega) (by simp)
    simp only[h0,decide_true,Bool.not_true,Bool.false_eq_true,if_false,if_true]
    rw[bindO_some,fillH,bindO_some,getD4,bindO_some,elsD_sl,bindO_some,lenD_eq,List.length_map]
    exact e
  · simp only[h0,decide_false,Bool.not_false,if_true,if_false]
theorem cutH {f:Fld} {near:List (BitVec 64)}:cutD (hC f near) 0 5=some (fC f):=by
  unfold cutD
  rw[if_pos (by simp)]
  rfl
theorem natD_nat {n:Nat}:natD (.v (.int .i64 (n:Int)))=some n:=rfl
theorem l51 {l k:Nat} (hl:1≤l) {u:D}:∀(suf pre:List (List Int)) (m:Nat),suf.length<m→pre.length+suf.length<big→(∀ x ∈ suf,x.length<1000∧∀ p ∈ x,0≤p∧p<64) →
    S57_1 (K l) k m u (dLL (pre++suf)) (dI ((pre++suf).map dL).length) (dI pre.length) ((pre.map setB).map uB++List.replicate suf.length (uB 0#64))=some (.tup [u,.sl (((pre++suf).map setB).map uB),dI 0])
  | [],pre,0,hm,_,_=>by simp at hm
  | [],pre,m+1,_,_,_=>by
    rw[r57_1]
    unfold C57_1 B57_1
    simp only[bindO_some,elsD_sl,ifU_f,List.append_nil,lss_end2,List.length_nil,List.replicate_zero]
  | x::suf,pre,0,hm,_,_=>by simp at hm
  | x::suf,pre,m+1,hm,hb,hx=>by
    rw[r57_1]
    unfold C57_1 B57_1
    simp only[List.length_cons] at hm hb
    have ih:=l51 (k:=k) hl (u:=u) suf (pre++[x]) m (by omega) (by simp; omega) (fun y hy=>hx y (by simp [hy]))
    simp only[List.map_append,List.map_cons,List.map_nil,List.append_assoc,List.cons_append,List.nil_append] at ih
    have hg:((pre.map setB).map uB++List.replicate (suf.length+1) (uB 0#64))[pre.length]?=some (uB 0#64):=by
      rw[List.getElem?_append_right (by simp)]
      simp [List.replicate_succ]
    have hset:List.set ((pre.map setB).map uB++List.replicate (suf.length+1) (uB 0#64)) pre.length (uB (setB x))=(pre.map setB).map uB++uB (setB x)::List.replicate suf.length (uB 0#64):=by
      rw[List.set_append_right _ _ (by simp)]
      simp [List.replicate_succ]
    simp only[bindO_some,elsD_sl,chkK_t,leafD_v,leafD_sl,ifU_t,at_map,lss_mid2,s83 hl (hx x (by simp)).1 (hx x (by simp)).2,List.length_cons]
    rw[idxD_lt (by simp),bindO_some,hg,bindO_some,leafD_v,chkK_t,succ_pre (a:=x) (sbig (show pre.length<big by omega)),bindO_some,hset]
    simp only[List.map_append,List.map_cons]
    simpa using ih
theorem padsOk_lt {n:Nat} {x:List Int} (hn:n≤8) (h:padsOk n x=true):∀ p ∈ x,0≤p∧p<8:=by
  unfold padsOk at h
  simp only[Bool.and_eq_true,List.all_eq_true] at h
  intro p hp
  have:=hasP_iff.1 (h.1 p hp)
  omega
theorem s57 {l:Nat} (hl:8≤l) {f:Fld} (hs:fSmall f) {plan:List (List Int)} (hp:plan.length<1000) (hx:∀ x ∈ plan,x.length<1000):pcD P (K l) 57 [dF f,dLL plan] =
    some (if aErr f plan=0 then .tup [dH f (nearOf f),.sl ((plan.map setB).map uB),dI 0] else .tup [.v (.pointer none),.v (.slice none 0 0),dI (aErr f plan)]):=by
  obtain⟨l,rfl⟩:=lev hl
  refine pcD_n ?_ (by kernel_rfl)
  rw[c57]
  unfold C57_0 B57_0
  rw[aggD_agg,bindO_some,cut5,bindO_some,s66 (l:=l+7) (by omega) hs,bindO_some]
  unfold aErr
  by_cases h0:fErr f=0
  · obtain ⟨h8, hne, he, _, hj⟩ := ok_of h0
    rw[if_pos h0,if_pos h0]
    have t0:tupD (.tup [dH f (nearOf f),dI 0]) 0=some (dH f (nearOf f)):=rfl
    have t1:tupD (.tup [dH f (nearOf f),dI 0]) 1=some (dI 0):=rfl
    rw[t0,bindO_some,t1,bindO_some,binD_neq,bindO_some]
    have hz:(!decide ((0:Int)=0))=false:=rfl
    rw[hz,ifU_f,elsD_sl,bindO_some,lenD_eq,binD_gtr,bindO_some,ifU_dec]
    unfold pErr
    by_cases h1:300<plan.length
    · rw [if_pos (by simp; omega), if_pos h1]
      rfl
    · rw [if_neg (by simp; omega), if_neg h1]
      have hev:=s82 (l:=l+7) (by omega) (g:=78) (a:=[dF f]) (b:=[]) (p:=padsOk f.g.pads.length) (xs:=plan) hp (fun x hx'=>s78 (by omega) (hx x hx'))
      rw[nilA_ref,derefD_ref,bindO_some,cutH,bindO_some,hev,bindO_some,semD_not,bindO_some,ifU_c]
      cases hall:plan.all (padsOk f.g.pads.length)
      · simp
      · rw [List.all_eq_true] at hall
        have e:=l51 (l:=l+7) (k:=19999) (by omega) (u:=dH f (nearOf f)) plan [] 19999 (by omega) (by show 0+_<big; unfold big; omega) (fun x hx'=>⟨hx x hx',fun p hp'=>by have:=padsOk_lt h8 (hall x hx') p hp'; omega⟩)
        simp only[List.nil_append,List.length_nil,List.map_nil] at e
        simp only[Bool.not_true,Bool.false_eq_true,if_false,if_true,bindO_some,lenD_eq,natD_nat,List.length_map]
        have hc:(Nat.ble plan.length plan.length && Nat.blt plan.length 1048576)=true:=by simp; omega
        rw[hc,chkK_t]
        rw[List.length_map] at e
        exact e
  · rw [if_neg h0, if_neg h0]
    have t0:tupD (.tup [.v (.pointer none),dI (fErr f)]) 0=some (.v (.pointer none)):=rfl
    have t1:tupD (.tup [.v (.pointer none),dI (fErr f)]) 1=some (dI (fErr f)):=rfl
    rw[t0,bindO_some,t1,bindO_some,binD_neq,bindO_some]
    simp [h0,ifU_t]
end Go.Proofs.YtnnkcjolgbpklaaGreat.L
end
section
open Go Go.Ev
set_option maxRecDepth 100000
namespace Go.Proofs.YtnnkcjolgbpklaaGreat.L
def stepB (near:List (BitVec 64)) (n:Nat) (s w:BitVec 64):BitVec 64:=reachB near n s &&& ~~~w
def mayB (near:List (BitVec 64)) (n:Nat):BitVec 64→List (BitVec 64)→List (BitVec 64)
  | s,[]=>[s]
  | s,w::ws=>s::mayB near n (stepB near n s w) ws
theorem l53 {l k:Nat} (hl:4≤l) {f:Fld} {near:List (BitVec 64)} (hn:f.eats.length≤near.length) (h8:near.length=8):∀(suf pre don:List (BitVec 64)) (s:BitVec 64) (m:Nat),suf.length<m→pre.length+suf.length<500000→don.length=pre.length →
    S59_1 (K l) k m (dH f near) (.sl ((pre++suf).map uB)) (dI ((pre++suf).map uB).length) (dI pre.length) ((don++[s]).map uB)=some (.sl ((don++mayB near f.eats.length s suf).map uB))
  | [],pre,don,s,0,hm,_,_=>by simp at hm
  | [],pre,don,s,m+1,_,_,_=>by
    rw[r59_1]
    unfold C59_1 B59_1
    simp only[bindO_some,elsD_sl,ifU_f,List.append_nil,lss_end2]
    rfl
  | x::suf,pre,don,s,0,hm,_,_=>by simp at hm
  | x::suf,pre,don,s,m+1,hm,hb,hd=>by
    rw[r59_1]
    unfold C59_1 B59_1
    simp only[List.length_cons] at hm hb
    have ih:=l53 (k:=k) hl (f:=f) hn h8 suf (pre++[x]) (don++[s]) (stepB near f.eats.length s x) m (by omega) (by simp; omega) (by simp [hd])
    simp only[List.append_assoc,List.cons_append,List.nil_append] at ih
    have g:(don++[s])[pre.length]?=some s:=by rw[← hd]; simp
    simp only[bindO_some,elsD_sl,chkK_t,leafD_v,ifU_t,at_map,lss_mid2]
    rw[at_get g,leafD_v,chkK_t,s85 hl hn h8,bindO_some,s86 (by omega),bindO_some,leafD_v,chkK_t,appD_lt (by simp; omega),bindO_some,succ_pre (a:=x) (sbig (by unfold big; omega)),bindO_some]
    have e:(don++[s]).map uB++[uB (reachB near f.eats.length s &&& ~~~x)]=(don++[s,stepB near f.eats.length s x]).map uB:=by simp [stepB]
    rw[e,ih]
    rfl
theorem s59 {l:Nat} (hl:5≤l) {f:Fld} {near:List (BitVec 64)} (hn:f.eats.length≤near.length) (h8:near.length=8) (hst:f.start.length<1000∧∀ p ∈ f.start,0≤p∧p<64) {ws:List (BitVec 64)} (hw:ws.length<1000) :
    pcD P (K l) 59 [dH f near,.sl (ws.map uB)]=some (.sl ((mayB near f.eats.length (setB f.start) ws).map uB)):=by
  obtain⟨l,rfl⟩:=lev hl
  refine pcD_n ?_ (by kernel_rfl)
  rw[c59]
  unfold C59_0 B59_0
  have e3:(List.drop 3 (hC f near))[0]?=some (dL f.start):=rfl
  rw[nilA_ref,derefD_ref,bindO_some,e3,bindO_some,s83 (by omega) hst.1 hst.2,bindO_some,leafD_v,chkK_t,elsD_sl,bindO_some,lenD_eq]
  exact l53 (l:=l+4) (k:=19999) (by omega) (f:=f) hn h8 ws [] [] (setB f.start) 19999 (by omega) (by show 0+_<500000; omega) rfl
theorem mayB_len {near:List (BitVec 64)} {n:Nat}:∀(ws:List (BitVec 64)) (s:BitVec 64),(mayB near n s ws).length=ws.length+1
  | [],s=>rfl
  | w::ws,s=>by simp [mayB,mayB_len ws]
theorem near_len (f:Fld):(nearOf f).length=8:=by
  unfold nearOf
  have h1:∀(l:List Nat) (near:List (BitVec 64)),(l.foldl iStep near).length=near.length:=by
    intro l
    induction l with
    | nil=>intro near; rfl
    | cons a l ih=>intro near; rw[List.foldl_cons,ih]; simp [iStep]
  have h2:∀(l:List Join) (near:List (BitVec 64)),(l.foldl jStep near).length=near.length:=by
    intro l
    induction l with
    | nil=>intro near; rfl
    | cons a l ih=>intro near; rw[List.foldl_cons,ih]; simp [jStep]
  rw[h2,h1]; simp
theorem s19 {l:Nat} (hl:9≤l) {f:Fld} (hs:fSmall f) {plan:List (List Int)} (hp:plan.length<900) (hx:∀ x ∈ plan,x.length<1000):pcD P (K l) 19 [dF f,dLL plan] =
    some (if aErr f plan=0 then .tup [dLL ((mayB (nearOf f) f.eats.length (setB f.start) (plan.map setB)).map padsB),dI 0] else .tup [.v (.slice none 0 0),dI (aErr f plan)]):=by
  obtain⟨l,rfl⟩:=lev hl
  refine pcD_n ?_ (by kernel_rfl)
  rw[c19]
  unfold C19_0 B19_0
  rw[aggD_agg,bindO_some,cut5,bindO_some,s57 (l:=l+8) (by omega) hs (by omega) hx,bindO_some]
  by_cases h0:aErr f plan=0
  · rw [if_pos h0, if_pos h0]
    have hf:fErr f=0:=by
      unfold aErr at h0
      split at h0
      · assumption
      · exact h0
    obtain⟨h8,hne,he,hst,hj⟩:=ok_of hf
    have t0:tupD (.tup [dH f (nearOf f),.sl ((plan.map setB).map uB),dI 0]) 0=some (dH f (nearOf f)):=rfl
    have t1:tupD (.tup [dH f (nearOf f),.sl ((plan.map setB).map uB),dI 0]) 1=some (.sl ((plan.map setB).map uB)):=rfl
    have t2:tupD (.tup [dH f (nearOf f),.sl ((plan.map setB).map uB),dI 0]) 2=some (dI 0):=rfl
    have hz:(!decide ((0:Int)=0))=false:=rfl
    rw[t0,bindO_some,t1,bindO_some,t2,bindO_some,binD_neq,bindO_some,hz,ifU_f]
    rw[s59 (l:=l+8) (by omega) (by rw[near_len]; omega) (near_len f) ⟨by have:=hs.2.1; omega,fun p hp'=>by have:=padsOk_lt h8 hst p hp'; omega⟩ (by simp; omega),bindO_some,s58 (l:=l+8) (by omega) (by rw[mayB_len]; simp; omega),bindO_some]
  · rw [if_neg h0, if_neg h0]
    have t0:tupD (.tup [.v (.pointer none),.v (.slice none 0 0),dI (aErr f plan)]) 0=some (.v (.pointer none)):=rfl
    have t1:tupD (.tup [.v (.pointer none),.v (.slice none 0 0),dI (aErr f plan)]) 1=some (.v (.slice none 0 0)):=rfl
    have t2:tupD (.tup [.v (.pointer none),.v (.slice none 0 0),dI (aErr f plan)]) 2=some (dI (aErr f plan)):=rfl
    rw[t0,bindO_some,t1,bindO_some,t2,bindO_some,binD_neq,bindO_some]
    simp [h0,ifU_t]
theorem l42 {l k:Nat}:∀(sa sb pa pb:List Int) (m:Nat),pa.length=pb.length→sa.length=sb.length→sa.length<m→pa.length+sa.length<big →
    S48_1 (K l) k m (dL (pa++sa)) (dL (pb++sb)) (dI pa.length)=some (dB (decide (sa=sb)))
  | [],[],pa,pb,0,_,_,hm,_=>by simp at hm
  | [],[],pa,pb,m+1,hp,_,_,_=>by
    rw[r48_1]
    unfold C48_1 B48_1
    simp only[bindO_some,elsD_sl,ifU_f,lenD_eq,List.append_nil,lss_end2]
    rfl
  | [],_::_,_,_,_,_,h,_,_=>by simp at h
  | _::_,[],_,_,_,_,h,_,_=>by simp at h
  | x::sa,y::sb,pa,pb,0,_,_,hm,_=>by simp at hm
  | x::sa,y::sb,pa,pb,m+1,hp,hs,hm,hb=>by
    rw[r48_1]
    unfold C48_1 B48_1
    simp only[List.length_cons] at hm hb hs
    have ih:=l42 (l:=l) (k:=k) sa sb (pa++[x]) (pb++[y]) m (by simp [hp]) (by omega) (by omega) (by simp; omega)
    simp only[List.append_assoc,List.cons_append,List.nil_append] at ih
    have g:(pb++y::sb)[pa.length]?=some y:=by rw[hp]; simp
    simp only[bindO_some,elsD_sl,chkK_t,leafD_v,if_true,binD_neq,lenD_eq,at_map,lss_mid2,at_get g,ifU_c,succ_pre (a:=x) (sbig (show pa.length<big by omega))]
    rw[ih]
    by_cases h:x=y <;> simp [h]
theorem s48 {l:Nat} (hl:1≤l) {a b:List Int} (ha:a.length<1000):pcD P (K l) 48 [dL a,dL b]=some (dB (decide (a=b))):=by
  obtain⟨l,rfl⟩:=lev hl
  refine pcD_b ?_
  rw[c48]
  unfold C48_0 B48_0
  rw[elsD_sl,bindO_some,elsD_sl,bindO_some,lenD_eq,lenD_eq,binD_neq,bindO_some,ifU_c]
  by_cases h:a.length=b.length
  · have e := l42 (l := l) (k := 19999) a b [] [] 19999 rfl h (by omega) (by show 0 + _ < big; unfold big; omega)
    simp only[List.nil_append,List.length_nil] at e
    simp [h]
    exact e
  · have : a ≠ b := fun e => h (by rw [e])
    simp [this]
    omega
theorem l21 {l k:Nat} (hl:1≤l):∀(sa sb pa pb:List (List Int)) (m:Nat),pa.length=pb.length→sa.length=sb.length→sa.length<m→pa.length+sa.length<big→(∀ x ∈ sa,x.length<1000) →
    S23_1 (K l) k m (dLL (pa++sa)) (dLL (pb++sb)) (dI pa.length)=some (dB (decide (sa=sb)))
  | [],[],pa,pb,0,_,_,hm,_,_=>by simp at hm
  | [],[],pa,pb,m+1,hp,_,_,_,_=>by
    rw[r23_1]
    unfold C23_1 B23_1
    simp only[bindO_some,elsD_sl,ifU_f,lenD_eq,List.append_nil,lss_end2]
    rfl
  | [],_::_,_,_,_,_,h,_,_,_=>by simp at h
  | _::_,[],_,_,_,_,h,_,_,_=>by simp at h
  | x::sa,y::sb,pa,pb,0,_,_,hm,_,_=>by simp at hm
  | x::sa,y::sb,pa,pb,m+1,hp,hs,hm,hb,hx=>by
    rw[r23_1]
    unfold C23_1 B23_1
    simp only[List.length_cons] at hm hb hs
    have ih:=l21 (k:=k) hl sa sb (pa++[x]) (pb++[y]) m (by simp [hp]) (by omega) (by omega) (by simp; omega) (fun z hz=>hx z (by simp [hz]))
    simp only[List.append_assoc,List.cons_append,List.nil_append] at ih
    have g:(pb++y::sb)[pa.length]?=some y:=by rw[hp]; simp
    simp only[bindO_some,elsD_sl,chkK_t,leafD_sl,if_true,semD_not,lenD_eq,at_map,lss_mid2,at_get g,s48 hl (hx x (by simp)),ifU_c,succ_pre (a:=x) (sbig (show pa.length<big by omega))]
    rw[ih]
    by_cases h:x=y <;> simp [h]
theorem s23 {l:Nat} (hl:2≤l) {a b:List (List Int)} (ha:a.length<1000) (hx:∀ x ∈ a,x.length<1000):pcD P (K l) 23 [dLL a,dLL b]=some (dB (decide (a=b))):=by
  obtain⟨l,rfl⟩:=lev hl
  refine pcD_b ?_
  rw[c23]
  unfold C23_0 B23_0
  rw[elsD_sl,bindO_some,elsD_sl,bindO_some,lenD_eq,lenD_eq,binD_neq,bindO_some,ifU_c]
  by_cases h:a.length=b.length
  · have e := l21 (l := l + 1) (k := 19999) (by omega) a b [] [] 19999 rfl h (by omega) (by show 0 + _ < big; unfold big; omega) hx
    simp only[List.nil_append,List.length_nil] at e
    simp [h]
    exact e
  · have : a ≠ b := fun e => h (by rw [e])
    simp [this]
    omega
end Go.Proofs.YtnnkcjolgbpklaaGreat.L
end
section
open Go Go.Ev
set_option maxRecDepth 100000
namespace Go.Proofs.YtnnkcjolgbpklaaGreat.L
def hasL (l:List Int) (n:Int):Bool:=l.any fun x=>decide (x=n)
def joinB (a b:Int) (j:Join):Bool:=(decide (j.a=a) && decide (j.b=b)) || (decide (j.a=b) && decide (j.b=a))
def goesB (f:Fld) (p q:Int):Bool:=decide (p=q) || f.g.joins.any (joinB p q)
def afterL (f:Fld) (bef week:List Int) (i r:Nat):List Int:=((List.range' i r).filter (fun p:Nat=>(bef.any fun q=>goesB f q p) && !hasL week p)).map (fun p:Nat=>(p:Int))
def mayL (f:Fld):List Int→List (List Int)→List (List Int)
  | b,[]=>[b]
  | b,w::ws=>b::mayL f (afterL f b w 0 f.g.pads.length) ws
end Go.Proofs.YtnnkcjolgbpklaaGreat.L
end
section
open Go Go.Ev
set_option maxRecDepth 100000
namespace Go.Proofs.YtnnkcjolgbpklaaGreat.L
theorem two_bit {p i:Nat} (hi:i<64):(BitVec.twoPow 64 p).getLsbD i=decide (p=i):=by
  rw[BitVec.getLsbD_twoPow]
  simp []
  omega
theorem orB_bit {i:Nat} (hi:i<64):∀(ps:List Nat) (s:BitVec 64),(orB s ps).getLsbD i=(s.getLsbD i || ps.any fun p=>decide (p=i))
  | [],s=>by simp [orB]
  | p::ps,s=>by
    have ih:=orB_bit hi ps (s ||| BitVec.twoPow 64 p)
    unfold orB at ih ⊢
    rw[List.foldl_cons,ih,BitVec.getLsbD_or,two_bit hi,List.any_cons,Bool.or_assoc]
theorem setB_bit {i:Nat} (hi:i<64) (l:List Int):(setB l).getLsbD i=l.any fun x=>decide (x.toNat=i):=by
  have key:∀(l:List Int) (s:BitVec 64),(l.foldl (fun s p=>s ||| BitVec.twoPow 64 p.toNat) s).getLsbD i=(s.getLsbD i || l.any fun x=>decide (x.toNat=i)):=by
    intro l
    induction l with
    | nil=>intro s; simp
    | cons x l ih=>intro s; rw[List.foldl_cons,ih,BitVec.getLsbD_or,two_bit hi,List.any_cons,Bool.or_assoc]
  unfold setB
  rw[key]; simp
theorem meets_iff {a b:BitVec 64}:meets a b=true↔∃ i,i<64∧a.getLsbD i=true∧b.getLsbD i=true:=by
  unfold meets
  simp only[Bool.not_eq_true',decide_eq_false_iff_not]
  constructor
  · intro h
    refine Classical.byContradiction fun hn=>h ?_
    apply BitVec.eq_of_getLsbD_eq
    intro i hi
    rw[BitVec.getLsbD_and]
    cases h1:a.getLsbD i <;> cases h2:b.getLsbD i <;> simp
    exact hn ⟨i,hi,h1,h2⟩
  · rintro ⟨i, hi, h1, h2⟩ h
    have:=congrArg (fun c=>BitVec.getLsbD c i) h
    simp [h1,h2] at this
theorem setB_has {l:List Int} (hl:∀ x ∈ l,0≤x∧x<64) {i:Nat} (hi:i<64):(setB l).getLsbD i=hasL l i:=by
  rw[setB_bit hi]
  unfold hasL
  rw[Bool.eq_iff_iff,List.any_eq_true,List.any_eq_true]
  constructor
  · rintro ⟨x, hx, h⟩
    exact⟨x,hx,by have:=hl x hx; simp at h ⊢; omega⟩
  · rintro ⟨x, hx, h⟩
    exact⟨x,hx,by simp at h ⊢; omega⟩
theorem padsB_mem {s:BitVec 64} {q:Int}:q ∈ padsB s↔0≤q∧q<8∧s.getLsbD q.toNat=true:=by
  unfold padsB
  simp only[List.mem_map,List.mem_filter,List.mem_range'_1]
  constructor
  · rintro ⟨p, ⟨h1, h2⟩, rfl⟩
    refine⟨by omega,by omega,by simpa using h2⟩
  · rintro ⟨h1, h2, h3⟩
    exact⟨q.toNat,⟨by omega,h3⟩,by omega⟩
theorem iStep_bit:∀(r i:Nat) (near:List (BitVec 64)),near.length=8→i+r≤8→∀ p,p<8→((List.range' i r).foldl iStep near).getD p 0#64=if i≤p∧p<i+r then BitVec.twoPow 64 p else near.getD p 0#64
  | 0,i,near,h8,hr,p,hp=>by simp; omega
  | r+1,i,near,h8,hr,p,hp=>by
    rw[List.range'_succ,List.foldl_cons,iStep_bit r (i+1) (iStep near i) (by simp [iStep,h8]) (by omega) p hp]
    by_cases h1:i+1≤p∧p<i+1+r
    · rw[if_pos h1,if_pos (by omega)]
    · rw [if_neg h1]
      unfold iStep
      rw[List.getD_eq_getElem?_getD,List.getElem?_set]
      by_cases h2:i=p
      · subst h2
        rw[if_pos rfl,if_pos (by omega),if_pos (by omega)]
        rfl
      · rw[if_neg h2,if_neg (by omega),← List.getD_eq_getElem?_getD]
theorem jStep_bit {near:List (BitVec 64)} (h8:near.length=8) {j:Join} (ha:0≤j.a∧j.a<8) (hb:0≤j.b∧j.b<8) {p q:Nat} (hp:p<8) (hq:q<64) :
    ((jStep near j).getD p 0#64).getLsbD q=((near.getD p 0#64).getLsbD q || joinB p q j):=by
  unfold jStep
  simp only
  have hs:∀(l:List (BitVec 64)) (i:Nat) (v:BitVec 64),l.length=8→i<8→(l.set i v).getD p 0#64=if i=p then v else l.getD p 0#64:=by
    intro l i v hl hi
    rw[List.getD_eq_getElem?_getD,List.getElem?_set]
    by_cases h:i=p
    · subst h; rw[if_pos rfl,if_pos (by omega),if_pos rfl]; rfl
    · rw[if_neg h,if_neg h,← List.getD_eq_getElem?_getD]
  have hs2:∀(l:List (BitVec 64)) (i k:Nat) (v:BitVec 64),l.length=8→i<8→(l.set i v).getD k 0#64=if i=k then v else l.getD k 0#64:=by
    intro l i k v hl hi
    rw[List.getD_eq_getElem?_getD,List.getElem?_set]
    by_cases h:i=k
    · subst h; rw[if_pos rfl,if_pos (by omega),if_pos rfl]; rfl
    · rw[if_neg h,if_neg h,← List.getD_eq_getElem?_getD]
  rw[hs _ _ _ (by simp [h8]) (by omega),hs2 _ _ j.b.toNat _ h8 (by omega),hs _ _ _ h8 (by omega)]
  have e1:decide (j.a=(p:Int))=decide (j.a.toNat=p):=by
    rw[decide_eq_decide]; omega
  have e2:decide (j.b=(q:Int))=decide (j.b.toNat=q):=by
    rw[decide_eq_decide]; omega
  have e3:decide (j.a=(q:Int))=decide (j.a.toNat=q):=by
    rw[decide_eq_decide]; omega
  have e4:decide (j.b=(p:Int))=decide (j.b.toNat=p):=by
    rw[decide_eq_decide]; omega
  unfold joinB
  rw[e1,e2,e3,e4]
  by_cases ha':j.a.toNat=p <;> by_cases hb':j.b.toNat=p
  · have : j.a.toNat = j.b.toNat := by omega
    simp [ha',hb',two_bit hq]
  · simp [ha',hb',two_bit hq]
  · have : ¬ j.a.toNat = j.b.toNat := by omega
    simp [ha',hb',two_bit hq]
  · simp [ha',hb']
theorem near_bit {f:Fld} (hj:∀ j ∈ f.g.joins,(0≤j.a∧j.a<8)∧0≤j.b∧j.b<8) (hn:f.eats.length≤8) {p q:Nat} (hp:p<f.eats.length) (hq:q<64):((nearOf f).getD p 0#64).getLsbD q=goesB f p q:=by
  have key:∀(js:List Join) (near:List (BitVec 64)),near.length=8→(∀ j ∈ js,(0≤j.a∧j.a<8)∧0≤j.b∧j.b<8)→((js.foldl jStep near).getD p 0#64).getLsbD q=((near.getD p 0#64).getLsbD q || js.any (joinB p q)):=by
    intro js
    induction js with
    | nil=>intro near _ _; simp
    | cons j js ih=>
      intro near h8 h
      rw[List.foldl_cons,ih (jStep near j) (by simp [jStep,h8]) (fun x hx=>h x (by simp [hx])),jStep_bit h8 (h j (by simp)).1 (h j (by simp)).2 (by omega) hq,List.any_cons,Bool.or_assoc]
  have hil:((List.range' 0 f.eats.length).foldl iStep (List.replicate 8 0#64)).length=8:=by
    have h1:∀(l:List Nat) (near:List (BitVec 64)),(l.foldl iStep near).length=near.length:=by
      intro l
      induction l with
      | nil=>intro near; rfl
      | cons a l ih=>intro near; rw[List.foldl_cons,ih]; simp [iStep]
    rw[h1]; simp
  unfold nearOf
  rw[key _ _ hil hj,iStep_bit _ _ _ (by simp) (by omega) p (by omega),if_pos (by omega),two_bit hq]
  unfold goesB
  congr 1
  rw[decide_eq_decide]; omega
theorem goes_sym {f:Fld} (p q:Int):goesB f p q=goesB f q p:=by
  unfold goesB
  congr 1
  · rw[decide_eq_decide]; constructor <;> exact fun h=>h.symm
  · congr 1
    funext j
    unfold joinB
    rw[Bool.or_comm]
theorem step_eq {f:Fld} (h0:fErr f=0) {s:BitVec 64} (hs:∀ i,i<64→s.getLsbD i=true→i<f.g.pads.length) {w:List Int} (hw:padsOk f.g.pads.length w=true) :
    padsB (stepB (nearOf f) f.eats.length s (setB w))=afterL f (padsB s) w 0 f.g.pads.length∧∀ i,i<64→(stepB (nearOf f) f.eats.length s (setB w)).getLsbD i=true→i<f.g.pads.length:=by
  obtain⟨h8,hne,he,hst,hj⟩:=ok_of h0
  have hj':∀ j ∈ f.g.joins,(0≤j.a∧j.a<8)∧0≤j.b∧j.b<8:=fun j hjm=>by
    have:=hj j hjm
    rw[hasP_iff,hasP_iff] at this
    omega
  have hwl:=padsOk_lt h8 hw
  have bit:∀ i,i<64→(stepB (nearOf f) f.eats.length s (setB w)).getLsbD i=(decide (i<f.g.pads.length) && (((padsB s).any fun q=>goesB f q i) && !hasL w i)):=by
    intro i hi
    unfold stepB
    rw[BitVec.getLsbD_and,BitVec.getLsbD_not,setB_has (fun x hx=>by have:=hwl x hx; omega) hi]
    have hr:(reachB (nearOf f) f.eats.length s).getLsbD i=(decide (i<f.g.pads.length) && ((padsB s).any fun q=>goesB f q i)):=by
      unfold reachB
      rw[orB_bit hi]
      rw[Bool.eq_iff_iff]
      simp only[BitVec.getLsbD_zero,Bool.false_or,List.any_eq_true,List.mem_filter,List.mem_range'_1,Bool.and_eq_true,decide_eq_true_eq]
      constructor
      · rintro ⟨p, ⟨hp, hpn⟩, rfl⟩
        refine⟨by omega,?_⟩
        unfold nextB at hpn
        obtain⟨q,hq,b1,b2⟩:=meets_iff.1 hpn
        rw[near_bit hj' (by omega) (by omega) hq] at b1
        have:=hs q hq b2
        exact⟨(q:Int),padsB_mem.2 ⟨by omega,by omega,by simpa using b2⟩,by rw[goes_sym]; exact b1⟩
      · rintro ⟨hin, q, hq, hg⟩
        obtain⟨q1,q2,q3⟩:=padsB_mem.1 hq
        refine⟨i,⟨by omega,?_⟩,rfl⟩
        unfold nextB
        refine meets_iff.2 ⟨q.toNat,by omega,?_,q3⟩
        rw[near_bit hj' (by omega) (by omega) (by omega),goes_sym]
        have:((q.toNat:Nat):Int)=q:=by omega
        rw[this]; exact hg
    rw[hr]
    cases decide (i<f.g.pads.length) <;> cases ((padsB s).any fun q=>goesB f q i) <;> cases hasL w i <;> simp [hi]
  refine⟨?_,fun i hi h=>?_⟩
  · conv => lhs; unfold padsB
    have hsplit:List.range' 0 8=List.range' 0 f.g.pads.length++List.range' f.g.pads.length (8-f.g.pads.length):=by
      have:=List.range'_append (s:=0) (m:=f.g.pads.length) (n:=8-f.g.pads.length) (step:=1)
      simp only[Nat.one_mul,Nat.zero_add] at this
      rw[this]
      congr 1
      omega
    rw[hsplit,List.filter_append]
    have hnil:(List.range' f.g.pads.length (8-f.g.pads.length)).filter (fun p=>(stepB (nearOf f) f.eats.length s (setB w)).getLsbD p)=[]:=by
      rw[List.filter_eq_nil_iff]
      intro p hp
      rw[List.mem_range'_1] at hp
      rw[bit p (by omega)]
      have:decide (p<f.g.pads.length)=false:=by simp; omega
      simp [this]
    rw[hnil,List.append_nil]
    unfold afterL
    congr 1
    apply List.filter_congr
    intro p hp
    rw[List.mem_range'_1] at hp
    rw[bit p (by omega)]
    have:decide (p<f.g.pads.length)=true:=by simp; omega
    rw[this,Bool.true_and]
  · rw [bit i hi] at h
    simp only[Bool.and_eq_true,decide_eq_true_eq] at h
    exact h.1
theorem padsB_setB {n:Nat} (hn:n≤8) {l:List Int} (h:padsOk n l=true):padsB (setB l)=l:=by
  have hlt:=padsOk_lt hn h
  have hp:padsB (setB l)=((List.range' 0 8).filter (fun p:Nat=>hasL l p)).map (fun p:Nat=>(p:Int)):=by
    unfold padsB
    congr 1
    apply List.filter_congr
    intro p hp
    rw[List.mem_range'_1] at hp
    exact setB_has (fun x hx=>by have:=hlt x hx; omega) (by omega)
  rw[hp]
  have hr:rises l=true:=by
    unfold padsOk at h
    simp only[Bool.and_eq_true] at h
    exact h.2
  have key:∀(l:List Int) (i r:Nat),rises l=true→(∀ x ∈ l,(i:Int)≤x∧x<i+r)→((List.range' i r).filter (fun p:Nat=>hasL l p)).map (fun p:Nat=>(p:Int))=l:=by
    intro l i r
    induction r generalizing l i with
    | zero=>
      intro _ hx
      cases l with
      | nil=>rfl
      | cons x l=>have:=hx x (by simp); omega
    | succ r ih=>
      intro hr hx
      rw[List.range'_succ,List.filter_cons]
      cases l with
      | nil=>
        have e:hasL [] (i:Int)=false:=rfl
        rw[e]
        exact ih [] (i+1) rfl (by simp)
      | cons x l=>
        have hmono:∀(l:List Int) (x:Int),rises (x::l)=true→∀ y ∈ l,x<y:=by
          intro l
          induction l with
          | nil=>intro x _ y hy; cases hy
          | cons a l ih2=>
            intro x h y hy
            simp only[rises,Bool.and_eq_true,decide_eq_true_eq] at h
            rcases List.mem_cons.1 hy with rfl | hy
            · exact h.1
            · have:=ih2 a h.2 y hy; omega
        have hm:=hmono l x hr
        have hrl:rises l=true:=by
          cases l with
          | nil=>rfl
          | cons a l=>simp only[rises,Bool.and_eq_true] at hr; exact hr.2
        by_cases hxi:x=i
        · subst hxi
          have e:hasL ((i:Int)::l) (i:Int)=true:=by unfold hasL; simp
          rw[if_pos e,List.map_cons]
          congr 1
          have ih':=ih l (i+1) hrl (fun y hy=>by have h1:=hm y hy; have h2:=hx y (by simp [hy]); omega)
          rw[← ih']
          rw[ih']
          refine Eq.trans ?_ ih'
          congr 1
          apply List.filter_congr
          intro p hp
          rw[List.mem_range'_1] at hp
          unfold hasL
          rw[List.any_cons]
          have:decide ((i:Int)=(p:Int))=false:=by simp; omega
          rw[this,Bool.false_or]
        · have e : hasL (x :: l) (i : Int) = false := by
            unfold hasL
            rw[List.any_eq_false]
            intro y hy
            rcases List.mem_cons.1 hy with rfl | hy
            · simpa using hxi
            · have h1:=hm y hy; have h2:=hx x (by simp); simp; omega
          rw[if_neg (by simp [e])]
          exact ih (x::l) (i+1) hr (fun y hy=>by
            have h2:=hx y hy
            have h3:=hx x (by simp)
            rcases List.mem_cons.1 hy with rfl | hy'
            · omega
            · have:=hm y hy'; omega)
  exact key l 0 8 hr (fun x hx=>by have:=hlt x hx; omega)
theorem may_eq {f:Fld} (h0:fErr f=0):∀(plan:List (List Int)) (s:BitVec 64),(∀ i,i<64→s.getLsbD i=true→i<f.g.pads.length)→plan.all (padsOk f.g.pads.length)=true →
    (mayB (nearOf f) f.eats.length s (plan.map setB)).map padsB=mayL f (padsB s) plan
  | [],s,_,_=>rfl
  | w::plan,s,hs,hp=>by
    simp only[List.all_cons,Bool.and_eq_true] at hp
    obtain⟨e1,e2⟩:=step_eq h0 hs hp.1
    rw[List.map_cons]
    unfold mayB mayL
    rw[List.map_cons,may_eq h0 plan _ e2 hp.2,e1]
theorem may_same {f:Fld} {plan:List (List Int)} (h:aErr f plan=0):(mayB (nearOf f) f.eats.length (setB f.start) (plan.map setB)).map padsB=mayL f f.start plan:=by
  unfold aErr at h
  split at h
  · rename_i h0
    obtain⟨h8,hne,he,hst,hj⟩:=ok_of h0
    unfold pErr at h
    split at h
    · cases h
    · split at h
      · rename_i hall
        have hlt:=padsOk_lt h8 hst
        rw[may_eq h0 plan (setB f.start) (fun i hi hb=>by
          rw[setB_has (fun x hx=>by have:=hlt x hx; omega) hi] at hb
          unfold hasL at hb
          rw[List.any_eq_true] at hb
          obtain⟨x,hx,e⟩:=hb
          have hx2:padsOk f.g.pads.length f.start=true:=hst
          unfold padsOk at hx2
          simp only[Bool.and_eq_true,List.all_eq_true] at hx2
          have:=hasP_iff.1 (hx2.1 x hx)
          simp at e; omega) hall,padsB_setB h8 hst]
      · cases h
  · rename_i h0; exact absurd h h0
end Go.Proofs.YtnnkcjolgbpklaaGreat.L
end
section
open Go Go.Ev
set_option maxRecDepth 100000
namespace Go.Proofs.YtnnkcjolgbpklaaGreat.L
noncomputable def aL (f:Fld) (b:List Int) (ws:List (List Int)):List Int:=ws.foldl (fun b w=>afterL f b w 0 f.g.pads.length) b
theorem mayL_len {f:Fld}:∀(ws:List (List Int)) (b:List Int),(mayL f b ws).length=ws.length+1
  | [],b=>rfl
  | w::ws,b=>by unfold mayL; rw[List.length_cons,mayL_len ws,List.length_cons]
theorem mayL_get {f:Fld}:∀(ws:List (List Int)) (b:List Int) (k:Nat),k≤ws.length→(mayL f b ws)[k]?=some (aL f b (ws.take k))
  | [],b,0,_=>rfl
  | [],b,k+1,h=>by simp at h
  | w::ws,b,0,_=>rfl
  | w::ws,b,k+1,h=>by
    unfold mayL
    rw[List.getElem?_cons_succ,mayL_get ws _ k (by simpa using h),List.take_succ_cons]
    rfl
theorem mayL_take {f:Fld}:∀(ws:List (List Int)) (b:List Int) (k:Nat),k≤ws.length→(mayL f b ws).take (k+1)=mayL f b (ws.take k)
  | [],b,0,_=>rfl
  | [],b,k+1,h=>by simp at h
  | w::ws,b,0,_=>by unfold mayL; simp []
  | w::ws,b,k+1,h=>by
    rw[List.take_succ_cons]
    unfold mayL
    rw[List.take_succ_cons,mayL_take ws _ k (by simpa using h)]
theorem aL_append {f:Fld} {b:List Int} {us ws:List (List Int)}:aL f b (us++ws)=aL f (aL f b us) ws:=by
  unfold aL; rw[List.foldl_append]
theorem rises_pw:∀ {l:List Int},l.Pairwise (· < ·)→rises l=true
  | [],_=>rfl
  | [_],_=>rfl
  | a::b::l,h=>by
    rw[List.pairwise_cons] at h
    unfold rises
    rw[rises_pw h.2,decide_eq_true (h.1 b (by simp))]; rfl
theorem after_ok {f:Fld} {b w:List Int} {n:Nat}:padsOk n (afterL f b w 0 n)=true:=by
  unfold padsOk afterL
  rw[Bool.and_eq_true]
  constructor
  · rw [List.all_eq_true]
    intro x hx
    simp only[List.mem_map,List.mem_filter,List.mem_range'_1] at hx
    obtain⟨p,⟨hp,_⟩,rfl⟩:=hx
    rw[hasP_iff]
    omega
  · apply rises_pw
    rw[List.pairwise_map]
    apply List.Pairwise.filter
    exact List.Pairwise.imp (fun h=>Int.ofNat_lt.2 h) List.pairwise_lt_range'
theorem aL_ok {f:Fld}:∀(ws:List (List Int)) (b:List Int),padsOk f.g.pads.length b=true→padsOk f.g.pads.length (aL f b ws)=true
  | [],b,h=>h
  | w::ws,b,h=>aL_ok ws _ after_ok
def withS (f:Fld) (s:List Int):Fld:=⟨f.g,s,f.eats⟩
theorem mayL_with {f:Fld} {s:List Int}:∀(ws:List (List Int)) (b:List Int),mayL (withS f s) b ws=mayL f b ws
  | [],b=>rfl
  | w::ws,b=>by
    unfold mayL
    rw[mayL_with ws]
    rfl
theorem err_start {f:Fld} {s:List Int} (h:fErr f=0) (hs:padsOk f.g.pads.length s=true):fErr (withS f s)=0:=by
  unfold fErr withS at *
  simp only
  split at h
  · rename_i h0
    rw[if_pos h0]
    split at h
    · rename_i h1
      simp only[Bool.and_eq_true] at h1
      rw[hs,h1.2.1,h1.2.2]; rfl
    · cases h
  · rename_i h0
    exact absurd h h0
theorem aErr_parts {f:Fld} {plan:List (List Int)} (h:aErr f plan=0):fErr f=0∧plan.length≤300∧plan.all (padsOk f.g.pads.length)=true:=by
  unfold aErr at h
  split at h
  · rename_i h0
    unfold pErr at h
    split at h
    · cases h
    · split at h
      · rename_i h1 h2
        exact⟨h0,by omega,h2⟩
      · cases h
  · rename_i h0; exact absurd h h0
theorem aErr_of {f:Fld} {plan:List (List Int)} (h0:fErr f=0) (h1:plan.length≤300) (h2:plan.all (padsOk f.g.pads.length)=true):aErr f plan=0:=by
  unfold aErr pErr
  rw[if_pos h0,if_neg (by omega),if_pos h2]
theorem all_takeB {p:List Int→Bool} {l:List (List Int)} (k:Nat) (h:l.all p=true):(l.take k).all p=true:=by
  rw[List.all_eq_true] at h ⊢
  exact fun x hx=>h x (List.mem_of_mem_take hx)
theorem all_dropB {p:List Int→Bool} {l:List (List Int)} (k:Nat) (h:l.all p=true):(l.drop k).all p=true:=by
  rw[List.all_eq_true] at h ⊢
  exact fun x hx=>h x (List.mem_of_mem_drop hx)
theorem pads_short {n:Nat} (hn:n≤8) {l:List Int} (h:padsOk n l=true):l.length≤8:=by
  rw[← padsB_setB hn h]
  unfold padsB
  rw[List.length_map]
  exact Nat.le_trans (List.length_filter_le _ _) (by simp)
theorem mayL_short {f:Fld} (hn:f.g.pads.length≤8):∀(ws:List (List Int)) (b:List Int),padsOk f.g.pads.length b=true→∀ x ∈ mayL f b ws,x.length≤8
  | [],b,h,x,hx=>by
    unfold mayL at hx
    rw[List.mem_singleton] at hx
    subst hx; exact pads_short hn h
  | w::ws,b,h,x,hx=>by
    unfold mayL at hx
    rcases List.mem_cons.1 hx with q | q
    · subst q; exact pads_short hn h
    · exact mayL_short hn ws _ after_ok x q
theorem sMayL {l:Nat} (hl:9≤l) {f:Fld} (hs:fSmall f) {plan:List (List Int)} (hp:plan.length<900) (hx:∀ x ∈ plan,x.length<1000) (h:aErr f plan=0) :
    pcD P (K l) 19 [dF f,dLL plan]=some (.tup [dLL (mayL f f.start plan),dI 0]):=by
  rw[s19 hl hs hp hx,if_pos h,may_same h]
theorem sReady {l:Nat} (hl:8≤l) {f:Fld} {plan:List (List Int)}:∃ b,pcD P (K l) 37 [dF f,dLL plan]=some (dB b) ∧
    (b=true→fSmall f∧plan.length≤310∧(∀ x ∈ plan,x.length≤11)∧aErr f plan=0):=by
  obtain⟨l,rfl⟩:=lev (show 1≤l by omega)
  obtain⟨b,eb,hb⟩:=s15 (l:=l) (by omega) (f:=f) (xs:=plan)
  cases b with
  | false=>
    refine⟨false,pcD_b ?_,fun z=>by cases z⟩
    rw[c37]
    unfold C37_0 B37_0
    rw[aggD_agg,bindO_some,cut5,bindO_some,eb,bindO_some,ifU_f]
  | true=>
    obtain⟨⟨t1,t2,t3,t4⟩,t5,t6,t7⟩:=hb rfl
    have hs:fSmall f:=⟨⟨by omega,by omega,by omega⟩,by omega,by omega⟩
    have hx:∀ x ∈ plan,x.length<1000:=fun x h=>by have:=t7 x h; omega
    refine⟨decide (aErr f plan=0),pcD_b ?_,fun z=>⟨hs,t6,t7,of_decide_eq_true z⟩⟩
    rw[c37]
    unfold C37_0 B37_0
    rw[aggD_agg,bindO_some,cut5,bindO_some,eb,bindO_some,ifU_t,bindO_some,s22 (by omega) hs (by omega) hx,bindO_some,binD_eql,bindO_some]
theorem sz_dL {l:List (List Int)}:(l.map dL).all (szOk 1)=true:=by
  rw[List.all_map,List.all_eq_true]
  intro x _
  rfl
theorem dLL_take {l:List (List Int)} {k:Nat}:D.sl (List.take (k-0) (List.drop 0 (l.map dL)))=dLL (l.take k):=by
  rw[List.drop_zero,Nat.sub_zero,← List.map_take]
theorem dLL_drop {l:List (List Int)} {k:Nat}:D.sl (List.take ((l.map dL).length-k) (List.drop k (l.map dL)))=dLL (l.drop k):=by
  rw[← List.map_drop,List.take_of_length_le (by simp)]
theorem binV_rem {t:TypeId} {x y:Operand} {a b:Int} (hb:b≠0):binV P .rem t x y (.int .i64 a) (.int .i64 b)=some (.int .i64 (a.tmod b)):=by
  refine bin_int (by simp [binOp,Op.intDiv,hb]) rfl ?_
  rintro m n rfl rfl
  exact .inr rfl
theorem binD_remN {t:TypeId} {x y:Operand} {a n:Nat} (h:n≠0):binD P .rem t x y (dI (a:Int)) (dI (n:Int))=some (dI ((a % n:Nat):Int)):=by
  have:=binD_int (P:=P) (t:=t) (x:=x) (y:=y) (op:=.rem) (binV_rem (t:=t) (x:=x) (y:=y) (a:=(a:Int)) (b:=(n:Int)) (by omega)) rfl
  have e:((a:Int).tmod (n:Int))=((a % n:Nat):Int):=by
    rw[Int.tmod_eq_emod_of_nonneg (by omega)]
    rfl
  rw[e] at this
  exact this
end Go.Proofs.YtnnkcjolgbpklaaGreat.L
end
section
open Go Go.Ev
set_option maxRecDepth 100000
namespace Go.Proofs.YtnnkcjolgbpklaaGreat.L
theorem sAwake:pcD P (K 39) 16 []=some (dB true):=pcD_b (pcR_man (l:=38) (f:=16) (p:=fun ds=>match ds with | []=>some (.v (.bool true)) | _=>none) (by rfl))
noncomputable def isI (z:Int):Option D→Bool
  | some (.v (.int .i64 y))=>decide (y=z)
  | _=>false
theorem isI_eq {z:Int} {o:Option D} (h:isI z o=true):o=some (dI z):=by
  unfold isI at h
  split at h
  · rw[of_decide_eq_true h]
  · cases h
theorem conv_all:(List.range 256).all (fun n:Nat=>isI n (semD P (.v (.int .u8 (n:Int))) (convert 5 3)))=true:=by kernel_rfl
theorem conv_u8 {n:Nat} (h:n<256):semD P (.v (.int .u8 (n:Int))) (convert 5 3)=some (dI (n:Int)):=isI_eq (List.all_eq_true.1 conv_all n (by simpa using h))
theorem natI_nat {k:Nat}:natI (dI (k:Int))=some k:=rfl
theorem parts_end {f:Fld} {plan:List (List Int)} (hs:fSmall f) (h0:aErr f plan=0) {k:Nat} (hk:k≤plan.length) :
    C14_1 (K 39) 19999 (dLL plan) (dI (k:Int)) (dLL (mayL f f.start plan)) (dLL (mayL f f.start (plan.take k))) (dB false) (fC f)=some (dB true):=by
  obtain⟨hf,h3,hall⟩:=aErr_parts h0
  obtain⟨h8,hne,he,hst,hj⟩:=ok_of hf
  have hx:∀ x ∈ plan,x.length<1000:=fun x h=>by
    rw[List.all_eq_true] at hall
    have:=pads_short h8 (hall x h); omega
  have tl:(plan.take k).length=k:=by rw[List.length_take]; omega
  have g1:(mayL f f.start (plan.take k))[k]?=some (aL f f.start (plan.take k)):=by
    rw[mayL_get _ _ _ (by omega),List.take_take,Nat.min_self]
  have hok:padsOk f.g.pads.length (aL f f.start (plan.take k))=true:=aL_ok _ _ hst
  have hs2:fSmall (withS f (aL f f.start (plan.take k))):=⟨hs.1,by have:=pads_short h8 hok; show(aL f f.start (plan.take k)).length<100; omega,hs.2.2⟩
  have h02:aErr (withS f (aL f f.start (plan.take k))) (plan.drop k)=0:=aErr_of (err_start hf hok) (by rw[List.length_drop]; omega) (all_dropB k hall)
  have dl:(plan.drop k).length=plan.length-k:=List.length_drop
  have hset:List.set [D.sl (f.g.pads.map dPad),.sl (f.g.joins.map dJoin),.sl (f.g.kinds.map dKd),dL f.start,dL f.eats] 3 (dL (aL f f.start (plan.take k)))=fC (withS f (aL f f.start (plan.take k))):=rfl
  have hc:(Nat.ble k (plan.map dL).length && Nat.ble (plan.map dL).length (plan.map dL).length && (plan.map dL).all (szOk 1))=true:=by rw[sz_dL]; simp; omega
  have hrx:∀ x ∈ plan.drop k,x.length<big:=fun x h=>by have:=hx x (List.mem_of_mem_drop h); unfold big; omega
  have t0:∀ d:D,tupD (.tup [d,dI 0]) 0=some d:=fun _=>rfl
  have t1:∀ d:D,tupD (.tup [d,dI 0]) 1=some (dI 0):=fun _=>rfl
  have hz':decide ((0:Int)=0)=true:=rfl
  unfold C14_1 B14_1
  have hlt:k<((mayL f f.start (plan.take k)).map dL).length:=by rw[List.length_map,mayL_len]; omega
  have gg:((mayL f f.start (plan.take k)).map dL)[k]?=some (dL (aL f f.start (plan.take k))):=by rw[List.getElem?_map,g1]; rfl
  have hb3:∀ a b c d e:D,Nat.blt 3 [a,b,c,d,e].length=true:=fun _ _ _ _ _=>rfl
  rw[ifU_f,cut5,bindO_some,spl5,bindO_some,elsD_sl,bindO_some,idxD_lt hlt,bindO_some,gg,bindO_some,leafD_sl,chkK_t,chkK_t,hb3,chkK_t,hset,cut5,bindO_some,elsD_sl,bindO_some,natI_nat,bindO_some,hc,chkK_t]
  rw[s18 (l:=39) (by omega) hs2,bindO_some,dLL_drop,s20 (l:=39) (by omega) (by omega) hrx,bindO_some,sMayL (l:=39) (by omega) hs2 (by omega) (fun x h=>hx x (List.mem_of_mem_drop h)) h02,bindO_some,t0,bindO_some,t1,bindO_some,binD_eql,bindO_some,hz',ifU_t]
  rw[mayL_with]
  have e1:((plan.length:Nat):Int)-(k:Int)=((plan.length-k:Nat):Int):=by omega
  have e2:decide (((mayL f (withS f (aL f f.start (plan.take k))).start (plan.drop k)).length:Int)=((plan.length-k+1:Nat):Int))=true:=by
    rw[mayL_len,dl]; simp
  rw[elsD_sl,bindO_some,elsD_sl,bindO_some,lenD_eq,List.length_map,binD_sub (by unfold I64; omega),bindO_some,e1,binD_succ (by omega),bindO_some,lenD_eq,List.length_map,binD_eql,bindO_some,e2,ifU_t]
  have g2:(mayL f (withS f (aL f f.start (plan.take k))).start (plan.drop k))[plan.length-k]?=some (aL f f.start plan):=by
    have h1:=mayL_get (f:=f) (plan.drop k) (aL f f.start (plan.take k)) (plan.length-k) (by omega)
    have h2:(plan.drop k).take (plan.length-k)=plan.drop k:=List.take_of_length_le (by omega)
    rw[h2,← aL_append,List.take_append_drop] at h1
    exact h1
  have g3:(mayL f f.start plan)[plan.length]?=some (aL f f.start plan):=by
    have h1:=mayL_get (f:=f) plan f.start plan.length (Nat.le_refl _)
    rw[List.take_length] at h1
    exact h1
  have hl2:plan.length-k<((mayL f (withS f (aL f f.start (plan.take k))).start (plan.drop k)).map dL).length:=by rw[List.length_map,mayL_len]; omega
  have hl3:plan.length<((mayL f f.start plan).map dL).length:=by rw[List.length_map,mayL_len]; omega
  have gg2:((mayL f (withS f (aL f f.start (plan.take k))).start (plan.drop k)).map dL)[plan.length-k]?=some (dL (aL f f.start plan)):=by rw[List.getElem?_map,g2]; rfl
  have gg3:((mayL f f.start plan).map dL)[plan.length]?=some (dL (aL f f.start plan)):=by rw[List.getElem?_map,g3]; rfl
  have hlen:(aL f f.start plan).length<1000:=by have:=pads_short h8 (aL_ok plan _ hst); omega
  rw[bindO_some,lenD_eq,List.length_map,binD_sub (by unfold I64; omega),bindO_some,e1,bindO_some,idxD_lt hl2,bindO_some,gg2,bindO_some,leafD_sl,chkK_t,bindO_some,bindO_some,lenD_eq,List.length_map,idxD_lt hl3,bindO_some,gg3,bindO_some,leafD_sl,chkK_t,s48 (l:=39) (by omega) hlen,bindO_some,decide_eq_true rfl,ifU_t]
  have hc2:(Nat.ble 0 (k+1) && Nat.ble (k+1) ((mayL f f.start plan).map dL).length && ((mayL f f.start plan).map dL).all (szOk 1))=true:=by
    rw[sz_dL,List.length_map,mayL_len]; simp; omega
  have hsm:∀ x ∈ mayL f f.start (plan.take k),x.length<1000:=fun x h=>by have:=mayL_short h8 _ _ hst x h; omega
  rw[binD_succ (by omega),bindO_some,bindO_some,natI_nat,bindO_some,hc2,chkK_t,dLL_take,mayL_take _ _ _ hk,s23 (l:=39) (by omega) (by rw[mayL_len]; omega) hsm,bindO_some,decide_eq_true rfl,ifU_t,sAwake]
  rfl
theorem parts_law {f:Fld} {plan:List (List Int)} {n:Nat} (hn:n<256):K 40 14 [dF f,dLL plan,.v (.int .u8 (n:Int))]=some (dB true):=by
  rw[show(40:Nat)=39+1 from rfl,c14]
  unfold C14_0 B14_0
  obtain⟨b,eb,hb⟩:=sReady (l:=39) (by omega) (f:=f) (plan:=plan)
  rw[aggD_agg,bindO_some,cut5,bindO_some,eb,bindO_some,semD_not,bindO_some,ifU_c]
  cases b with
  | false=>
    simp only[Bool.not_false,if_true]
    rw[sAwake]
    rfl
  | true=>
    obtain⟨hs,t6,t7,h0⟩:=hb rfl
    have hx:∀ x ∈ plan,x.length<1000:=fun x h=>by have:=t7 x h; omega
    have hrx:∀ x ∈ plan,x.length<big:=fun x h=>by have:=t7 x h; unfold big; omega
    have hk:n % (plan.length+1)≤plan.length:=by have:=Nat.mod_lt n (show 0<plan.length+1 by omega); omega
    simp only[Bool.not_true,Bool.false_eq_true,if_false]
    generalize hkk:n % (plan.length+1)=k at hk
    obtain⟨hf,h3,hall⟩:=aErr_parts h0
    have h0k:aErr f (plan.take k)=0:=aErr_of hf (by rw[List.length_take]; omega) (all_takeB k hall)
    have tl:(plan.take k).length=k:=by rw[List.length_take]; omega
    have t0:∀ d:D,tupD (.tup [d,dI 0]) 0=some d:=fun _=>rfl
    have t1:∀ d:D,tupD (.tup [d,dI 0]) 1=some (dI 0):=fun _=>rfl
    have hz:(!decide ((0:Int)=0))=false:=rfl
    have hc:(Nat.ble 0 k && Nat.ble k (plan.map dL).length && (plan.map dL).all (szOk 1))=true:=by rw[sz_dL]; simp; omega
    rw[conv_u8 hn,bindO_some,elsD_sl,bindO_some,lenD_eq,List.length_map,binD_succ (by omega),bindO_some,binD_remN (by omega),bindO_some,hkk,bindO_some,s18 (l:=39) (by omega) hs,bindO_some,s20 (l:=39) (by omega) (by omega) hrx,bindO_some,sMayL (l:=39) (by omega) hs (by omega) hx h0,bindO_some,t0,bindO_some,t1,bindO_some]
    rw[bindO_some,bindO_some,natI_nat,bindO_some,hc,chkK_t,s18 (l:=39) (by omega) hs,bindO_some,dLL_take,s20 (l:=39) (by omega) (by omega) (fun x h=>hrx x (List.mem_of_mem_take h)),bindO_some,sMayL (l:=39) (by omega) hs (by omega) (fun x h=>hx x (List.mem_of_mem_take h)) h0k,bindO_some,t0,bindO_some,t1,bindO_some,binD_neq,bindO_some,hz,ifU_f,binD_neq,bindO_some,hz,ifU_f]
    have q1:(!decide (((mayL f f.start plan).length:Int)=((plan.length+1:Nat):Int)))=false:=by rw[mayL_len]; simp
    have q2:(!decide (((mayL f f.start (plan.take k)).length:Int)=((k+1:Nat):Int)))=false:=by rw[mayL_len,tl]; simp
    rw[elsD_sl,bindO_some,elsD_sl,bindO_some,lenD_eq,List.length_map,binD_succ (by omega),bindO_some,lenD_eq,List.length_map,binD_neq,bindO_some,q1,ifU_f,bindO_some,binD_succ (by omega),bindO_some,lenD_eq,List.length_map,binD_neq,bindO_some,q2]
    exact parts_end hs h0 hk
def toPad (x:Int × (Int × Unit)):Pad:=⟨x.1,x.2.1⟩
def toJoin (x:Int × (Int × Unit)):Join:=⟨x.1,x.2.1⟩
def toKd (x:Int × ((Int × (Int × Unit)) × ((Int × (Int × Unit)) × Unit))):Kd:=⟨x.1,x.2.1.1,x.2.1.2.1,x.2.2.1.1,x.2.2.1.2.1⟩
theorem parts_els (pads:List (Int × (Int × Unit))) (joins:List (Int × (Int × Unit))) (kinds:List (Int × ((Int × (Int × Unit)) × ((Int × (Int × Unit)) × Unit)))) (start eats:List Int) (plan:List (List Int)) (n:Int) :
    elsL preyParts.Ts (((pads,joins,kinds,()),start,eats,()),plan,n,())=[dF ⟨⟨List.map toPad pads,List.map toJoin joins,List.map toKd kinds⟩,start,eats⟩,dLL plan,.v (.int .u8 n)]:=by
  have h1:List.map dPad (List.map toPad pads)=List.map (fun y=>D.agg [dI y.1,dI y.2.1]) pads:=by rw[List.map_map]; rfl
  have h2:List.map dJoin (List.map toJoin joins)=List.map (fun y=>D.agg [dI y.1,dI y.2.1]) joins:=by rw[List.map_map]; rfl
  have h3:List.map dKd (List.map toKd kinds)=List.map (fun y=>D.agg [dI y.1,dI y.2.1.1,dI y.2.1.2.1,dI y.2.2.1.1,dI y.2.2.1.2.1]) kinds:=by rw[List.map_map]; rfl
  unfold dF fC
  simp only
  rw[h1,h2,h3]
  rfl
theorem man14:man (39+1) 14=none:=rfl
theorem u8_of {x:Int} (h:(Lit.int .u8 x).wf=true):0≤x∧x≤255:=by
  simp only[Lit.wf,Bool.and_eq_true,IntKind.min,IntKind.max,IntKind.signed,IntKind.bits] at h
  simp at h
  omega
theorem parts_says:preyParts.Law:=by
  unfold preyParts.Law Says
  intro xs hx
  refine⟨39,man14,?_⟩
  have:=parts_els xs.1.1.1 xs.1.1.2.1 xs.1.1.2.2.1 xs.1.2.1 xs.1.2.2.1 xs.2.1 xs.2.2.1
  refine(congrArg (fun z=>pcR P LA 20000 man (39+1) 14 z) this).trans ?_
  have hn:=u8_of hx.2.2.1
  have en:xs.2.2.1=((Int.toNat xs.2.2.1:Nat):Int):=(Int.toNat_of_nonneg hn.1).symm
  have hlt:Int.toNat xs.2.2.1<256:=by
    have:=hn.2
    omega
  rw[en]
  exact parts_law hlt
end Go.Proofs.YtnnkcjolgbpklaaGreat.L
end
section
open Go Go.Ev
set_option maxRecDepth 1000000
namespace Go.Proofs.YtnnkcjolgbpklaaGreat.L
noncomputable def alt:Alt:=⟨G.A,G.tab.get,fun f=>Nat.beq f 16⟩
theorem awake_run:Go.Ev.runT ((calE G.P G.A (G.KK+1) G.tab.get (38+1)).call 16 [] .nil 0)=true:=by kernel_rfl
theorem tab_ok:TblOk P alt.A 20000 alt.tab:=G.tab_ok
theorem awake_res:noRes P 16=false:=by kernel_rfl
theorem awake_flat:flatF P 16=true:=by kernel_rfl
theorem none_spec {b:Bool} {call:List Value→Hp→Nat→Res}:PSpec b call (fun _=>none):=by
  intro ds d F H n vs e hx hF hv
  cases e
theorem manOk:ManOk P alt 20000 man where
  no l f h:=by
    have h:Nat.beq f 16=true:=h
    unfold man
    rw[h]
    cases Nat.beq l 39 <;> simp
  res f h:=by
    have:f=16:=Nat.eq_of_beq_eq_true h
    subst this
    exact awake_res
  yes l f p h:=by
    unfold man at h
    cases hf:Nat.beq f 16 with
    | false=>rw[hf] at h; cases h
    | true=>
      have:f=16:=Nat.eq_of_beq_eq_true hf
      subst this
      rw[hf] at h
      cases hl:Nat.beq l 39 with
      | false=>
        rw[hl] at h
        cases h
        exact none_spec
      | true=>
        have:l=39:=Nat.eq_of_beq_eq_true hl
        subst this
        rw[hl] at h
        cases h
        exact man_run awake_flat ((congrArg Go.Ev.runT (calR_alt (q:=alt) (f:=16) rfl)).trans awake_run)
theorem partsProved:Rows.PreyPartsSaid:=preyParts.said tab_ok manOk parts_says
end Go.Proofs.YtnnkcjolgbpklaaGreat.L
end
