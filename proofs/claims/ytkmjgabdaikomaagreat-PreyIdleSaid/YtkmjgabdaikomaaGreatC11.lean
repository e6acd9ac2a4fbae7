/- Texts E to F2. -/
import Derived.Test.YtkmjgabdaikomaaGreatRows
import Derived.WalkKit
import Derived.ProofKit
import Derived.OpenShut
import Derived.Test.YtkmjgabdaikomaaGreatC10
set_option linter.unusedVariables false
section
open Go Go.Ev
noncomputable section
namespace Go.Proofs.YtkmjgabdaikomaaGreat.L
noncomputable def man:Man:=fun l f=>match Nat.beq f 14 with
  | true=>match Nat.beq l 39 with
    | true=>some fun ds=>match ds with
      | []=>some (.v (.bool true))
      | _=>none
    | false=>some fun _=>none
  | false=>none
abbrev K (l:Nat):PC:=pcR P LA 20000 man l
abbrev Rg (l:Nat):PC:=rgR P LA 20000 man l
theorem c12 {l:Nat} {v0 v1:D}:K (l+1) 12 [v0,v1]=C12_0 (K l) 19999 v0 v1:=(pcR_succ rfl).trans (h12_0 ..)
theorem c13 {l:Nat} {v0 v1:D}:K (l+1) 13 [v0,v1]=C13_0 (K l) 19999 v0 v1:=(pcR_succ rfl).trans (h13_0 ..)
theorem c16 {l:Nat} {v0:D}:K (l+1) 16 [v0]=C16_0 (K l) 19999 v0:=(pcR_succ rfl).trans (h16_0 ..)
theorem c17 {l:Nat} {v0 v1:D}:K (l+1) 17 [v0,v1]=C17_0 (K l) 19999 v0 v1:=(pcR_succ rfl).trans (h17_0 ..)
theorem c19 {l:Nat} {v0:D}:K (l+1) 19 [v0]=C19_0 (K l) 19999 v0:=(pcR_succ rfl).trans (h19_0 ..)
theorem c25 {l:Nat} {v0:D}:K (l+1) 25 [v0]=C25_0 (K l) 19999 v0:=(pcR_succ rfl).trans (h25_0 ..)
theorem c32 {l:Nat} {v0 v1:D}:K (l+1) 32 [v0,v1]=C32_0 (K l) 19999 v0 v1:=(pcR_succ rfl).trans (h32_0 ..)
theorem c45 {l:Nat} {v0 v1:D}:K (l+1) 45 [v0,v1]=C45_0 (K l) 19999 v0 v1:=(pcR_succ rfl).trans (h45_0 ..)
theorem c46 {l:Nat} {v0:D}:K (l+1) 46 [v0]=C46_0 (K l) 19999 v0:=(pcR_succ rfl).trans (h46_0 ..)
theorem c49 {l:Nat} {v0:D}:K (l+1) 49 [v0]=C49_0 (K l) 19999 v0:=(pcR_succ rfl).trans (h49_0 ..)
theorem c50 {l:Nat} {v0:D}:K (l+1) 50 [v0]=C50_0 (K l) 19999 v0:=(pcR_succ rfl).trans (h50_0 ..)
theorem c51 {l:Nat} {v0 v1:D}:K (l+1) 51 [v0,v1]=C51_0 (K l) 19999 v0 v1:=(pcR_succ rfl).trans (h51_0 ..)
theorem c52 {l:Nat} {v0:D}:K (l+1) 52 [v0]=C52_0 (K l) 19999 v0:=(pcR_succ rfl).trans (h52_0 ..)
theorem c53 {l:Nat} {v0 v1:D}:K (l+1) 53 [v0,v1]=C53_0 (K l) 19999 v0 v1:=(pcR_succ rfl).trans (h53_0 ..)
theorem c54 {l:Nat} {v0:D}:K (l+1) 54 [v0]=C54_0 (K l) 19999 v0:=(pcR_succ rfl).trans (h54_0 ..)
theorem c60 {l:Nat} {v0 v1 v2:D}:K (l+1) 60 [v0,v1,v2]=C60_0 (K l) 19999 v0 v1 v2:=(pcR_succ rfl).trans (h60_0 ..)
theorem c65 {l:Nat} {v0:D}:K (l+1) 65 [v0]=C65_0 (K l) 19999 v0:=(pcR_succ rfl).trans (h65_0 ..)
theorem c70 {l:Nat} {v0:D}:K (l+1) 70 [v0]=C70_0 (K l) 19999 v0:=(pcR_succ rfl).trans (h70_0 ..)
theorem c71 {l:Nat} {v0 v1:D}:K (l+1) 71 [v0,v1]=C71_0 (K l) 19999 v0 v1:=(pcR_succ rfl).trans (h71_0 ..)
theorem c72 {l:Nat} {v0 v1:D}:K (l+1) 72 [v0,v1]=C72_0 (K l) 19999 v0 v1:=(pcR_succ rfl).trans (h72_0 ..)
theorem c73 {l:Nat} {v0:D}:K (l+1) 73 [v0]=C73_0 (K l) 19999 v0:=(pcR_succ rfl).trans (h73_0 ..)
theorem c74 {l:Nat} {v0:D}:K (l+1) 74 [v0]=C74_0 (K l) 19999 v0:=(pcR_succ rfl).trans (h74_0 ..)
theorem c75 {l:Nat} {v0 v1:D}:K (l+1) 75 [v0,v1]=C75_0 (K l) 19999 v0 v1:=(pcR_succ rfl).trans (h75_0 ..)
theorem c76 {l:Nat} {v0:D}:K (l+1) 76 [v0]=C76_0 (K l) 19999 v0:=(pcR_succ rfl).trans (h76_0 ..)
theorem c77 {l:Nat} {v0:D}:K (l+1) 77 [v0]=C77_0 (K l) 19999 v0:=(pcR_succ rfl).trans (h77_0 ..)
theorem c78 {l:Nat} {v0 v1:D}:K (l+3) 78 [v0,v1]=C78_0 (K (l+2)) (Rg (l+1)) (K l) 19999 v0 v1:=(pcR_succ rfl).trans (h78_0 ..)
theorem c79 {l:Nat} {v0 v1:D}:K (l+1) 79 [v0,v1]=C79_0 (K l) 19999 v0 v1:=(pcR_succ rfl).trans (h79_0 ..)
theorem c80 {l:Nat} {v0:D}:K (l+1) 80 [v0]=C80_0 (K l) 19999 v0:=(pcR_succ rfl).trans (h80_0 ..)
theorem c81 {l:Nat} {v0 v1:D}:K (l+1) 81 [v0,v1]=C81_0 (K l) 19999 v0 v1:=(pcR_succ rfl).trans (h81_0 ..)
theorem c86 {l:Nat} {v0 v1:D}:K (l+1) 86 [v0,v1]=C86_0 (K l) 19999 v0 v1:=(pcR_succ rfl).trans (h86_0 ..)
theorem c87 {l:Nat} {v0 v1:D}:K (l+1) 87 [v0,v1]=C87_0 (K l) 19999 v0 v1:=(pcR_succ rfl).trans (h87_0 ..)
theorem c88 {l:Nat} {v0 v1:D}:K (l+1) 88 [v0,v1]=C88_0 (K l) 19999 v0 v1:=(pcR_succ rfl).trans (h88_0 ..)
theorem c95 {l:Nat} {v0:D}:K (l+1) 95 [v0]=C95_0 (K l) 19999 v0:=(pcR_succ rfl).trans (h95_0 ..)
theorem c96 {l:Nat} {v0:D}:K (l+1) 96 [v0]=C96_0 (K l) 19999 v0:=(pcR_succ rfl).trans (h96_0 ..)
theorem c97 {l:Nat} {v0 v1:D}:K (l+1) 97 [v0,v1]=C97_0 (K l) 19999 v0 v1:=(pcR_succ rfl).trans (h97_0 ..)
theorem c98 {l:Nat} {v0 v1:D}:K (l+1) 98 [v0,v1]=C98_0 (K l) 19999 v0 v1:=(pcR_succ rfl).trans (h98_0 ..)
theorem c106 {l:Nat} {v0 v1:D}:K (l+1) 106 [v0,v1]=C106_0 (K l) 19999 v0 v1:=(pcR_succ rfl).trans (h106_0 ..)
theorem c107 {l:Nat} {v0:D}:K (l+1) 107 [v0]=C107_0 (K l) 19999 v0:=(pcR_succ rfl).trans (h107_0 ..)
theorem c108 {l:Nat} {v0 v1:D}:K (l+1) 108 [v0,v1]=C108_0 (K l) 19999 v0 v1:=(pcR_succ rfl).trans (h108_0 ..)
theorem c109 {l:Nat} {v0 v1:D}:K (l+1) 109 [v0,v1]=C109_0 (K l) 19999 v0 v1:=(pcR_succ rfl).trans (h109_0 ..)
theorem c110 {l:Nat} {v0 v1:D}:K (l+1) 110 [v0,v1]=C110_0 (K l) 19999 v0 v1:=(pcR_succ rfl).trans (h110_0 ..)
theorem c111 {l:Nat} {v0:D}:K (l+1) 111 [v0]=C111_0 (K l) 19999 v0:=(pcR_succ rfl).trans (h111_0 ..)
theorem c112 {l:Nat} {v0:Nat} {v1:D} {v2:D}:Rg l 112 [.yld v0,v1,v2]=C112_0 (K l) 19999 v0 v1 v2:=h112_0 ..
theorem c121 {l:Nat} {v0 v1:D}:K (l+1) 121 [v0,v1]=C121_0 (K l) 19999 v0 v1:=(pcR_succ rfl).trans (h121_0 ..)
theorem c122 {l:Nat} {v0:D}:K (l+1) 122 [v0]=C122_0 (K l) 19999 v0:=(pcR_succ rfl).trans (h122_0 ..)
theorem r12_6 (pc:FuncId→List D→Option D) (k:Nat) (m1:Nat) (b5:(D→D→D→List D→List D→Option D)) {m:Nat}:S12_6 pc k m1 b5 (m+1)=C12_6 pc k m1 (m+1) b5 (S12_6 pc k m1 b5 m):=rfl
theorem r12_7 (pc:FuncId→List D→Option D) (k:Nat) {m:Nat}:S12_7 pc k (m+1)=C12_7 pc k (m+1) (S12_7 pc k m):=rfl
theorem r12_5 (pc:FuncId→List D→Option D) (k:Nat) {m:Nat}:S12_5 pc k (m+1)=C12_5 pc k (m+1) (S12_5 pc k m):=rfl
theorem r12_3 (pc:FuncId→List D→Option D) (k:Nat) {m:Nat}:S12_3 pc k (m+1)=C12_3 pc k (m+1) (S12_3 pc k m):=rfl
theorem r32_1 (pc:FuncId→List D→Option D) (k:Nat) {m:Nat}:S32_1 pc k (m+1)=C32_1 pc k (m+1) (S32_1 pc k m):=rfl
theorem r46_1 (pc:FuncId→List D→Option D) (k:Nat) {m:Nat}:S46_1 pc k (m+1)=C46_1 pc k (m+1) (S46_1 pc k m):=rfl
theorem r50_3 (pc:FuncId→List D→Option D) (k:Nat) {m:Nat}:S50_3 pc k (m+1)=C50_3 pc k (m+1) (S50_3 pc k m):=rfl
theorem r50_2 (pc:FuncId→List D→Option D) (k:Nat) {m:Nat}:S50_2 pc k (m+1)=C50_2 pc k (m+1) (S50_2 pc k m):=rfl
theorem r50_1 (pc:FuncId→List D→Option D) (k:Nat) {m:Nat}:S50_1 pc k (m+1)=C50_1 pc k (m+1) (S50_1 pc k m):=rfl
theorem r51_1 (pc:FuncId→List D→Option D) (k:Nat) {m:Nat}:S51_1 pc k (m+1)=C51_1 pc k (m+1) (S51_1 pc k m):=rfl
theorem r52_1 (pc:FuncId→List D→Option D) (k:Nat) {m:Nat}:S52_1 pc k (m+1)=C52_1 pc k (m+1) (S52_1 pc k m):=rfl
theorem r53_1 (pc:FuncId→List D→Option D) (k:Nat) {m:Nat}:S53_1 pc k (m+1)=C53_1 pc k (m+1) (S53_1 pc k m):=rfl
theorem r54_2 (pc:FuncId→List D→Option D) (k:Nat) {m:Nat}:S54_2 pc k (m+1)=C54_2 pc k (m+1) (S54_2 pc k m):=rfl
theorem r65_2 (pc:FuncId→List D→Option D) (k:Nat) {m:Nat}:S65_2 pc k (m+1)=C65_2 pc k (m+1) (S65_2 pc k m):=rfl
theorem r65_1 (pc:FuncId→List D→Option D) (k:Nat) {m:Nat}:S65_1 pc k (m+1)=C65_1 pc k (m+1) (S65_1 pc k m):=rfl
theorem r72_1 (pc:FuncId→List D→Option D) (k:Nat) {m:Nat}:S72_1 pc k (m+1)=C72_1 pc k (m+1) (S72_1 pc k m):=rfl
theorem r75_1 (pc:FuncId→List D→Option D) (k:Nat) {m:Nat}:S75_1 pc k (m+1)=C75_1 pc k (m+1) (S75_1 pc k m):=rfl
theorem r76_1 (pc:FuncId→List D→Option D) (k:Nat) {m:Nat}:S76_1 pc k (m+1)=C76_1 pc k (m+1) (S76_1 pc k m):=rfl
theorem r77_1 (pc:FuncId→List D→Option D) (k:Nat) {m:Nat}:S77_1 pc k (m+1)=C77_1 pc k (m+1) (S77_1 pc k m):=rfl
theorem r80_8 (pc:FuncId→List D→Option D) (k:Nat) (m1:Nat) (b6:(D→List D→Option D)) {m:Nat}:S80_8 pc k m1 b6 (m+1)=C80_8 pc k m1 (m+1) b6 (S80_8 pc k m1 b6 m):=rfl
theorem r80_6 (pc:FuncId→List D→Option D) (k:Nat) {m:Nat}:S80_6 pc k (m+1)=C80_6 pc k (m+1) (S80_6 pc k m):=rfl
theorem r80_4 (pc:FuncId→List D→Option D) (k:Nat) {m:Nat}:S80_4 pc k (m+1)=C80_4 pc k (m+1) (S80_4 pc k m):=rfl
theorem r80_3 (pc:FuncId→List D→Option D) (k:Nat) {m:Nat}:S80_3 pc k (m+1)=C80_3 pc k (m+1) (S80_3 pc k m):=rfl
theorem r81_1 (pc:FuncId→List D→Option D) (k:Nat) {m:Nat}:S81_1 pc k (m+1)=C81_1 pc k (m+1) (S81_1 pc k m):=rfl
theorem r96_1 (pc:FuncId→List D→Option D) (k:Nat) {m:Nat}:S96_1 pc k (m+1)=C96_1 pc k (m+1) (S96_1 pc k m):=rfl
theorem r106_1 (pc:FuncId→List D→Option D) (k:Nat) {m:Nat}:S106_1 pc k (m+1)=C106_1 pc k (m+1) (S106_1 pc k m):=rfl
theorem r108_1 (pc:FuncId→List D→Option D) (k:Nat) {m:Nat}:S108_1 pc k (m+1)=C108_1 pc k (m+1) (S108_1 pc k m):=rfl
theorem r109_1 (pc:FuncId→List D→Option D) (k:Nat) {m:Nat}:S109_1 pc k (m+1)=C109_1 pc k (m+1) (S109_1 pc k m):=rfl
theorem r110_1 (pc:FuncId→List D→Option D) (k:Nat) {m:Nat}:S110_1 pc k (m+1)=C110_1 pc k (m+1) (S110_1 pc k m):=rfl
theorem r112_1 (pc:FuncId→List D→Option D) (k:Nat) {m:Nat}:S112_1 pc k (m+1)=C112_1 pc k (m+1) (S112_1 pc k m):=rfl
theorem n78_2 (pc rg pc1:FuncId→List D→Option D) (k:Nat):S78_2 pc rg pc1 k []=CN78_2 pc rg pc1 k:=rfl
theorem r78_2 (pc rg pc1:FuncId→List D→Option D) (k:Nat) {y:List D} {ys:List (List D)}:S78_2 pc rg pc1 k (y::ys)=C78_2 pc rg pc1 k ys (S78_2 pc rg pc1 k ys) y:=rfl
end Go.Proofs.YtkmjgabdaikomaaGreat.L
end
end
section
namespace Go.Proofs.YtkmjgabdaikomaaGreat.preyMays
open Go.ChangeShapes Go.WideShapes Go.ChangeAt Go.RowKit Go.Ev
theorem own:ownKnob Tryz.prog.godebug=none:=by kernel_rfl
abbrev Ts:List Ty:=[(.cons (.cons (.sl (.cons (.int .i64) (.cons (.int .i64) .nil))) (.cons (.sl (.cons (.int .i64) (.cons (.int .i64) .nil))) (.cons (.sl (.cons (.int .i64) (.cons (.cons (.int .i64) (.cons (.int .i64) .nil)) (.cons (.cons (.int .i64) (.cons (.int .i64) .nil)) .nil)))) .nil))) (.cons (.sl (.int .i64)) (.cons (.sl (.int .i64)) .nil))),(.sl (.sl (.int .i64)))]
theorem types:tysOf Tryz.prog 8 [29,30]=some Ts:=by kernel_rfl
abbrev Law:Prop:=Says L.P L.LA 20000 L.man 3 Ts
end Go.Proofs.YtkmjgabdaikomaaGreat.preyMays
end
section
open Go Go.Ev
set_option maxRecDepth 100000
namespace Go.Proofs.YtkmjgabdaikomaaGreat.L
structure Pad where
  need:Int
  room:Int
structure Join where
  a:Int
  b:Int
structure Kd where
  young:Int
  olo:Int
  ohi:Int
  nlo:Int
  nhi:Int
structure Grove where
  pads:List Pad
  joins:List Join
  kinds:List Kd
structure Fld where
  g:Grove
  start:List Int
  eats:List Int
noncomputable abbrev dPad (p:Pad):D:=.agg [dI p.need,dI p.room]
noncomputable abbrev dJoin (p:Join):D:=.agg [dI p.a,dI p.b]
noncomputable abbrev dKd (p:Kd):D:=.agg [dI p.young,dI p.olo,dI p.ohi,dI p.nlo,dI p.nhi]
noncomputable abbrev gC (g:Grove):List D:=[.sl (g.pads.map dPad),.sl (g.joins.map dJoin),.sl (g.kinds.map dKd)]
noncomputable abbrev fC (f:Fld):List D:=[.sl (f.g.pads.map dPad),.sl (f.g.joins.map dJoin),.sl (f.g.kinds.map dKd),dL f.start,dL f.eats]
noncomputable abbrev dG (g:Grove):D:=.agg (gC g)
noncomputable abbrev dF (f:Fld):D:=.agg (fC f)
abbrev big:Nat:=1000000
theorem sbig {n:Nat} (h:n<big):n<4611686018427387904:=by unfold big at h; omega
theorem getD0 {a:D} {l:List D}:(a::l)[0]?=some a:=rfl
theorem getD1 {a b:D} {l:List D}:(a::b::l)[1]?=some b:=rfl
theorem getD2 {a b c:D} {l:List D}:(a::b::c::l)[2]?=some c:=rfl
theorem getD3 {a b c d:D} {l:List D}:(a::b::c::d::l)[3]?=some d:=rfl
theorem getD4 {a b c d e:D} {l:List D}:(a::b::c::d::e::l)[4]?=some e:=rfl
theorem cut2 {a b:D}:cutD [a,b] 0 2=some [a,b]:=rfl
theorem cut3 {a b c:D}:cutD [a,b,c] 0 3=some [a,b,c]:=rfl
theorem cut5 {a b c d e:D}:cutD [a,b,c,d,e] 0 5=some [a,b,c,d,e]:=rfl
theorem cut53 {a b c d e:D}:cutD [a,b,c,d,e] 0 3=some [a,b,c]:=rfl
theorem cut512 {a b c d e:D}:cutD [a,b,c,d,e] 1 2=some [b,c]:=rfl
theorem cut532 {a b c d e:D}:cutD [a,b,c,d,e] 3 2=some [d,e]:=rfl
theorem spl2 {x y a b:D}:splD [x,y] 0 [a,b] 2=some [a,b]:=rfl
theorem spl5 {x y z u v a b c d e:D}:splD [x,y,z,u,v] 0 [a,b,c,d,e] 5=some [a,b,c,d,e]:=rfl
theorem fill5 {x y z u v a b c d e:D} (ha:leafD a=true):fillD [x,y,z,u,v] [(0,1,a),(1,2,.agg [b,c]),(3,2,.agg [d,e])]=some [a,b,c,d,e]:=by
  cases a <;> first | rfl | cases ha
theorem fillF {x y z u v a b c:D} {d e:List D}:fillD [x,y,z,u,v] [(0,3,.agg [a,b,c]),(3,1,.sl d),(4,1,.sl e)]=some [a,b,c,.sl d,.sl e]:=rfl
theorem len2 {a b:D}:[a,b].length=2:=rfl
theorem len5 {a b c d e:D}:[a,b,c,d,e].length=5:=rfl
theorem drop1_0 {a b:D}:(List.drop 1 [a,b])[0]?=some b:=rfl
theorem lev {n l:Nat} (h:n≤l):∃ j,l=j+n:=⟨l-n,by omega⟩
theorem s74 {l:Nat} (hl:1≤l) {a b:Int}:pcD P (K l) 74 [.agg [dI a,dI b]]=some (.agg [dI a,dI b]):=by
  obtain⟨l,rfl⟩:=lev hl
  refine pcD_f ?_ rfl
  rw[c74]
  unfold C74_0 B74_0
  simp only[bindO_some,aggD_agg,chkK_t,leafD_v,getD0,getD1]
theorem s25 {l:Nat} (hl:1≤l) {xs:List Int} (h:xs.length<big):pcD P (K l) 25 [dL xs]=some (dL xs):=by
  obtain⟨l,rfl⟩:=lev hl
  refine pcD_n ?_ (by kernel_rfl)
  rw[c25]
  unfold C25_0 B25_0
  simp only[bindO_some,elsD_sl,chkK_t,allI]
  rw[appD_lt (by simp; unfold big at h; omega)]
  rfl
theorem l50_3 {l k:Nat} (hl:1≤l) {ps:List Pad} {js:List Join}:∀(suf pre:List Kd) (m:Nat),suf.length<m→pre.length+suf.length<big →
    S50_3 (K l) k m (dI pre.length) (gC ⟨ps,js,pre++suf⟩) (ps.map dPad) (js.map dJoin) (pre.map dKd)=some (dG ⟨ps,js,pre++suf⟩)
  | [],pre,0,hm,_=>by simp at hm
  | [],pre,m+1,_,_=>by
    rw[r50_3]
    unfold C50_3 B50_3
    simp only[bindO_some,elsD_sl,ifU_f,lenD_eq,List.append_nil,getD2,lss_end2,getD2]
  | x::suf,pre,0,hm,_=>by simp at hm
  | x::suf,pre,m+1,hm,hb=>by
    rw[r50_3]
    unfold C50_3 B50_3
    simp only[List.length_cons] at hm hb
    simp only[bindO_some,elsD_sl,aggD_agg,chkK_t,ifU_t,beq_refl,lenD_eq,getD0,getD2,cut5,cut512,cut532,spl5,len5,at_map,lss_mid2,getD2,getD0,len5,cut5,spl5,cut512,cut532,s74 hl,fill5 leafD_v]
    rw[appD_lt (by simp; unfold big at hb; omega),bindO_some,succ_pre (a:=x) (sbig (by omega)),bindO_some]
    simpa using l50_3 hl (k:=k) suf (pre++[x]) m (by omega) (by simp; omega)
theorem l50_2 {l k:Nat} (hl:1≤l) {ps:List Pad} {ks:List Kd} (hk:ks.length<k) (hb:ks.length<big):∀(suf pre:List Join) (m:Nat),suf.length<m→pre.length+suf.length<big →
    S50_2 (K l) k m (dI pre.length) (gC ⟨ps,pre++suf,ks⟩) (ps.map dPad) (pre.map dJoin)=some (dG ⟨ps,pre++suf,ks⟩)
  | [],pre,0,hm,_=>by simp at hm
  | [],pre,m+1,_,_=>by
    rw[r50_2]
    unfold C50_2 B50_2
    simp only[bindO_some,elsD_sl,ifU_f,lenD_eq,List.append_nil,getD1,lss_end2,getD1]
    simpa using l50_3 hl (k:=k) (ps:=ps) (js:=pre) ks [] k hk (by simpa using hb)
  | x::suf,pre,0,hm,_=>by simp at hm
  | x::suf,pre,m+1,hm,hp=>by
    rw[r50_2]
    unfold C50_2 B50_2
    simp only[List.length_cons] at hm hp
    simp only[bindO_some,elsD_sl,aggD_agg,chkK_t,leafD_v,ifU_t,beq_refl,lenD_eq,getD0,getD1,len2,drop1_0,at_map,lss_mid2,getD1,getD0,len2]
    rw[appD_lt (by simp; unfold big at hp; omega),bindO_some,succ_pre (a:=x) (sbig (by omega)),bindO_some]
    simpa using l50_2 hl hk hb suf (pre++[x]) m (by omega) (by simp; omega)
theorem l50_1 {l k:Nat} (hl:1≤l) {js:List Join} {ks:List Kd} (hk:ks.length<k) (hj:js.length<k) (hb:ks.length<big) (hjb:js.length<big):∀(suf pre:List Pad) (m:Nat),suf.length<m→pre.length+suf.length<big →
    S50_1 (K l) k m (dI pre.length) (gC ⟨pre++suf,js,ks⟩) (pre.map dPad)=some (dG ⟨pre++suf,js,ks⟩)
  | [],pre,0,hm,_=>by simp at hm
  | [],pre,m+1,_,_=>by
    rw[r50_1]
    unfold C50_1 B50_1
    simp only[bindO_some,elsD_sl,ifU_f,lenD_eq,List.append_nil,getD0,lss_end2,getD0]
    simpa using l50_2 hl (k:=k) (ps:=pre) hk hb js [] k hj (by simpa using hjb)
  | x::suf,pre,0,hm,_=>by simp at hm
  | x::suf,pre,m+1,hm,hp=>by
    rw[r50_1]
    unfold C50_1 B50_1
    simp only[List.length_cons] at hm hp
    simp only[bindO_some,elsD_sl,aggD_agg,chkK_t,leafD_v,ifU_t,beq_refl,lenD_eq,getD0,len2,drop1_0,at_map,lss_mid2,getD0,len2]
    rw[appD_lt (by simp; unfold big at hp; omega),bindO_some,succ_pre (a:=x) (sbig (by omega)),bindO_some]
    simpa using l50_1 hl hk hj hb hjb suf (pre++[x]) m (by omega) (by simp; omega)
def gSmall (g:Grove):Prop:=g.pads.length<100∧g.joins.length<100∧g.kinds.length<100
def fSmall (f:Fld):Prop:=gSmall f.g∧f.start.length<100∧f.eats.length<100
theorem s50 {l:Nat} (hl:2≤l) {g:Grove} (h:gSmall g):pcD P (K l) 50 [dG g]=some (dG g):=by
  obtain⟨l,rfl⟩:=lev hl
  refine pcD_n ?_ (by kernel_rfl)
  rw[c50]
  unfold C50_0 B50_0
  obtain⟨h1,h2,h3⟩:=h
  simp only[bindO_some,aggD_agg]
  simpa using l50_1 (l:=l+1) (by omega) (k:=19999) (js:=g.joins) (ks:=g.kinds) (by omega) (by omega) (by unfold big; omega) (by unfold big; omega) g.pads [] 19999 (by omega) (by show 0+_<big; unfold big; omega)
theorem s16 {l:Nat} (hl:3≤l) {f:Fld} (h:fSmall f):pcD P (K l) 16 [dF f]=some (dF f):=by
  obtain⟨l,rfl⟩:=lev hl
  refine pcD_n ?_ (by kernel_rfl)
  rw[c16]
  unfold C16_0 B16_0
  obtain⟨h1,h2,h3⟩:=h
  rw[aggD_agg,bindO_some,cut53,bindO_some,getD3,bindO_some,getD4,bindO_some,s50 (l:=l+2) (by omega) h1,bindO_some,s25 (l:=l+2) (by omega) (xs:=f.start) (by unfold big; omega),bindO_some,s25 (l:=l+2) (by omega) (xs:=f.eats) (by unfold big; omega),bindO_some,fillF,bindO_some,spl5,bindO_some,cut5,bindO_some]
end Go.Proofs.YtkmjgabdaikomaaGreat.L
end
section
open Go Go.Ev
set_option maxRecDepth 100000
namespace Go.Proofs.YtkmjgabdaikomaaGreat.L
def inR (n lo hi:Int):Bool:=decide (lo≤n) && decide (n≤hi)
theorem ifU_c {b:Bool} {p q:Option D}:ifU (.v (.bool b)) p q=if b then p else q:=ifU_b
theorem someIf2 {b c:Bool}:(if b=true then some (dB c) else some (.v (.bool false)))=some (dB (b && c)):=by cases b <;> rfl
theorem someIf3 {p:Prop} [Decidable p] {c:Bool}:(if p then some (dB c) else some (.v (.bool false)))=some (dB (decide p && c)):=by by_cases h:p <;> simp [h]
theorem s60 {l:Nat} (hl:1≤l) {n lo hi:Int}:pcD P (K l) 60 [dI n,dI lo,dI hi]=some (dB (inR n lo hi)):=by
  obtain⟨l,rfl⟩:=lev hl
  refine pcD_b ?_
  rw[c60]
  unfold C60_0 B60_0
  simp only[bindO_some,ifU_dec,binD_leq,binD_geq,someIf3]
  rfl
theorem s98 {l:Nat} (hl:2≤l) {lo hi:Int}:pcD P (K l) 98 [dI lo,dI hi]=some (dB (inR lo 0 hi && decide (hi≤1000))):=by
  obtain⟨l,rfl⟩:=lev hl
  refine pcD_b ?_
  rw[c98]
  unfold C98_0 B98_0
  simp only[bindO_some,binD_leq,s60 (l:=l+1) (by omega),ifU_c,someIf2]
theorem s45 {l:Nat} (hl:1≤l) {g:Grove} {xs:List Int}:pcD P (K l) 45 [dG g,dL xs]=some (dB (decide (g.pads.length≤11∧g.joins.length≤19∧g.kinds.length≤6∧xs.length≤11))):=by
  obtain⟨l,rfl⟩:=lev hl
  refine pcD_b ?_
  rw[c45]
  unfold C45_0 B45_0
  simp only[bindO_some,elsD_sl,aggD_agg,ifU_dec,binD_leq,lenD_eq,getD0,getD1,getD2,List.length_map,someIf3]
  simp []
  norm_cast
end Go.Proofs.YtkmjgabdaikomaaGreat.L
end
section
open Go Go.Ev
set_option maxRecDepth 100000
namespace Go.Proofs.YtkmjgabdaikomaaGreat.L
theorem eq_two {t:TypeId} {p q:Operand} {x y a b:Int} (hK:flatK P t=some 2) (hG:P.eqGuardType P.depth t=false):binD P .eql t p q (.agg [dI x,dI y]) (.agg [dI a,dI b])=some (dB (decide (x=a) && decide (y=b))):=by
  have h2:eqCells [.int .i64 x,.int .i64 y] [.int .i64 a,.int .i64 b]=some (decide (x=a) && decide (y=b)):=by
    simp only[eqCells,decide_true]
    cases decide (x=a) <;> cases decide (y=b) <;> rfl
  have hb:binV P .eql t p q (.agg ⟨[.int .i64 x,.int .i64 y]⟩) (.agg ⟨[.int .i64 a,.int .i64 b]⟩)=some (.bool (decide (x=a) && decide (y=b))):=by
    have h0:quickBin .eql (.agg ⟨[.int .i64 x,.int .i64 y]⟩) (.agg ⟨[.int .i64 a,.int .i64 b]⟩)=none:=rfl
    have h1:(pureV (.agg ⟨[.int .i64 x,.int .i64 y]⟩) && pureV (.agg ⟨[.int .i64 a,.int .i64 b]⟩))=true:=rfl
    unfold binV
    rw[h0]
    unfold slowBin
    simp only[h1,aggBin,aggEq,hK,hG,List.length_cons,List.length_nil,h2]
    rfl
  unfold binD
  simp only[valD,valsD,hb,scalO]
  rfl
def padOk (p:Pad):Bool:=inR p.need 0 p.room && decide (p.room≤1000)
def kdOk (p:Kd):Bool:=inR p.young 0 1000 && ((inR p.olo 0 p.ohi && decide (p.ohi≤1000)) && (inR p.nlo 0 p.nhi && decide (p.nhi≤1000)))
def alike (j o:Join):Bool:=(decide (o.a=j.a) && decide (o.b=j.b)) || (decide (o.a=j.b) && decide (o.b=j.a))
def hasP (n:Nat) (a:Int):Bool:=inR a 0 (n-1)
def joinOk (n:Nat) (js:List Join) (j:Join):Bool:=hasP n j.a && (hasP n j.b && (!decide (j.a=j.b) && decide ((js.filter (alike j)).length=1)))
theorem s107 {l:Nat} (hl:1≤l) {p:Pad}:pcD P (K l) 107 [dPad p]=some (dB (padOk p)):=by
  obtain⟨l,rfl⟩:=lev hl
  refine pcD_b ?_
  rw[c107]
  unfold C107_0 B107_0
  simp only[bindO_some,aggD_agg,ifU_dec,binD_leq,binD_geq,getD0,getD1,someIf3]
  unfold padOk inR
  simp [Bool.and_assoc]
theorem s122 {l:Nat} (hl:1≤l) {a b:Int}:pcD P (K l) 122 [.agg [dI a,dI b]]=some (dB (inR a 0 b && decide (b≤1000))):=by
  obtain⟨l,rfl⟩:=lev hl
  refine pcD_b ?_
  rw[c122]
  unfold C122_0 B122_0
  simp only[bindO_some,aggD_agg,ifU_dec,binD_leq,binD_geq,getD0,getD1,someIf3]
  unfold inR
  simp [Bool.and_assoc]
theorem s111 {l:Nat} (hl:2≤l) {p:Kd}:pcD P (K l) 111 [dKd p]=some (dB (kdOk p)):=by
  obtain⟨l,rfl⟩:=lev hl
  refine pcD_b ?_
  rw[c111]
  unfold C111_0 B111_0
  simp only[bindO_some,aggD_agg,binD_leq,binD_geq,getD0,cut512,cut532,s122 (l:=l+1) (by omega),ifU_c,someIf3]
  unfold kdOk inR
  simp [Bool.and_assoc]
theorem s121 {l:Nat} (hl:1≤l) {g:Grove} {a:Int}:pcD P (K l) 121 [dG g,dI a]=some (dB (hasP g.pads.length a)):=by
  obtain⟨l,rfl⟩:=lev hl
  refine pcD_b ?_
  rw[c121]
  unfold C121_0 B121_0
  simp only[bindO_some,elsD_sl,aggD_agg,ifU_dec,binD_geq,lenD_eq,getD0,binD_lss,List.length_map,someIf3]
  unfold hasP inR
  congr 5
  simp; omega
theorem l106 {l k:Nat} {g:FuncId} {a b:List D} {p:Pad→Bool}:∀(suf pre:List Pad) (m:Nat),suf.length<m→pre.length+suf.length<big→(∀ x ∈ suf,pcD P (K l) g (a++[dPad x]++b)=some (dB (p x))) →
    S106_1 (K l) k m (.fn g a b) (.sl ((pre++suf).map dPad)) (dI ((pre++suf).map dPad).length) (dI pre.length)=some (dB (suf.all p))
  | [],pre,0,hm,_,_=>by simp at hm
  | [],pre,m+1,_,_,_=>by
    rw[r106_1]
    unfold C106_1 B106_1
    simp only[bindO_some,elsD_sl,fnK_fn,ifU_f,List.append_nil,lss_end2]
    rfl
  | x::suf,pre,0,hm,_,_=>by simp at hm
  | x::suf,pre,m+1,hm,hb,h=>by
    rw[r106_1]
    unfold C106_1 B106_1
    simp only[List.length_cons] at hm hb
    simp only[bindO_some,elsD_sl,aggD_agg,fnK_fn,chkK_t,ifU_t,beq_refl,cut2,spl2,len2,at_map,lss_mid2,succ_pre (a:=x) (sbig (show pre.length<big by omega))]
    have hx:=h x (by simp)
    simp only[List.append_assoc,List.cons_append,List.nil_append] at hx ⊢
    rw[hx,bindO_some,semD_not,bindO_some,ifU_c]
    have ih:=l106 (k:=k) suf (pre++[x]) m (by omega) (by simp; omega) (fun y hy=>h y (by simp [hy]))
    simp only[List.append_assoc,List.cons_append,List.nil_append] at ih
    rw[ih]
    cases hp:p x <;> simp [List.all_cons,hp]
theorem s106 {l:Nat} (hl:1≤l) {g:FuncId} {a b:List D} {p:Pad→Bool} {xs:List Pad} (hx:xs.length<1000) (h:∀ x ∈ xs,pcD P (K (l-1)) g (a++[dPad x]++b)=some (dB (p x))):pcD P (K l) 106 [.sl (xs.map dPad),.fn g a b]=some (dB (xs.all p)):=by
  obtain⟨l,rfl⟩:=lev hl
  refine pcD_b ?_
  rw[c106]
  unfold C106_0 B106_0
  simp only[elsD_sl,bindO_some,lenD_eq]
  simpa using l106 (l:=l) (k:=19999) xs [] 19999 (by omega) (by show 0+_<big; unfold big; omega) h
theorem l108 {l k:Nat} {g:FuncId} {a b:List D} {p:Join→Bool}:∀(suf pre:List Join) (m:Nat),suf.length<m→pre.length+suf.length<big→(∀ x ∈ suf,pcD P (K l) g (a++[dJoin x]++b)=some (dB (p x))) →
    S108_1 (K l) k m (.fn g a b) (.sl ((pre++suf).map dJoin)) (dI ((pre++suf).map dJoin).length) (dI pre.length)=some (dB (suf.all p))
  | [],pre,0,hm,_,_=>by simp at hm
  | [],pre,m+1,_,_,_=>by
    rw[r108_1]
    unfold C108_1 B108_1
    simp only[bindO_some,elsD_sl,fnK_fn,ifU_f,List.append_nil,lss_end2]
    rfl
  | x::suf,pre,0,hm,_,_=>by simp at hm
  | x::suf,pre,m+1,hm,hb,h=>by
    rw[r108_1]
    unfold C108_1 B108_1
    simp only[List.length_cons] at hm hb
    simp only[bindO_some,elsD_sl,aggD_agg,fnK_fn,chkK_t,ifU_t,beq_refl,cut2,spl2,len2,at_map,lss_mid2,succ_pre (a:=x) (sbig (show pre.length<big by omega))]
    have hx:=h x (by simp)
    simp only[List.append_assoc,List.cons_append,List.nil_append] at hx ⊢
    rw[hx,bindO_some,semD_not,bindO_some,ifU_c]
    have ih:=l108 (k:=k) suf (pre++[x]) m (by omega) (by simp; omega) (fun y hy=>h y (by simp [hy]))
    simp only[List.append_assoc,List.cons_append,List.nil_append] at ih
    rw[ih]
    cases hp:p x <;> simp [List.all_cons,hp]
theorem s108 {l:Nat} (hl:1≤l) {g:FuncId} {a b:List D} {p:Join→Bool} {xs:List Join} (hx:xs.length<1000) (h:∀ x ∈ xs,pcD P (K (l-1)) g (a++[dJoin x]++b)=some (dB (p x))):pcD P (K l) 108 [.sl (xs.map dJoin),.fn g a b]=some (dB (xs.all p)):=by
  obtain⟨l,rfl⟩:=lev hl
  refine pcD_b ?_
  rw[c108]
  unfold C108_0 B108_0
  simp only[elsD_sl,bindO_some,lenD_eq]
  simpa using l108 (l:=l) (k:=19999) xs [] 19999 (by omega) (by show 0+_<big; unfold big; omega) h
theorem l110 {l k:Nat} {g:FuncId} {a b:List D} {p:Kd→Bool}:∀(suf pre:List Kd) (m:Nat),suf.length<m→pre.length+suf.length<big→(∀ x ∈ suf,pcD P (K l) g (a++[dKd x]++b)=some (dB (p x))) →
    S110_1 (K l) k m (.fn g a b) (.sl ((pre++suf).map dKd)) (dI ((pre++suf).map dKd).length) (dI pre.length)=some (dB (suf.all p))
  | [],pre,0,hm,_,_=>by simp at hm
  | [],pre,m+1,_,_,_=>by
    rw[r110_1]
    unfold C110_1 B110_1
    simp only[bindO_some,elsD_sl,fnK_fn,ifU_f,List.append_nil,lss_end2]
    rfl
  | x::suf,pre,0,hm,_,_=>by simp at hm
  | x::suf,pre,m+1,hm,hb,h=>by
    rw[r110_1]
    unfold C110_1 B110_1
    simp only[List.length_cons] at hm hb
    simp only[bindO_some,elsD_sl,aggD_agg,fnK_fn,chkK_t,ifU_t,beq_refl,cut5,spl5,len5,at_map,lss_mid2,succ_pre (a:=x) (sbig (show pre.length<big by omega))]
    have hx:=h x (by simp)
    simp only[List.append_assoc,List.cons_append,List.nil_append] at hx ⊢
    rw[hx,bindO_some,semD_not,bindO_some,ifU_c]
    have ih:=l110 (k:=k) suf (pre++[x]) m (by omega) (by simp; omega) (fun y hy=>h y (by simp [hy]))
    simp only[List.append_assoc,List.cons_append,List.nil_append] at ih
    rw[ih]
    cases hp:p x <;> simp [List.all_cons,hp]
theorem s110 {l:Nat} (hl:1≤l) {g:FuncId} {a b:List D} {p:Kd→Bool} {xs:List Kd} (hx:xs.length<1000) (h:∀ x ∈ xs,pcD P (K (l-1)) g (a++[dKd x]++b)=some (dB (p x))):pcD P (K l) 110 [.sl (xs.map dKd),.fn g a b]=some (dB (xs.all p)):=by
  obtain⟨l,rfl⟩:=lev hl
  refine pcD_b ?_
  rw[c110]
  unfold C110_0 B110_0
  simp only[elsD_sl,bindO_some,lenD_eq]
  simpa using l110 (l:=l) (k:=19999) xs [] 19999 (by omega) (by show 0+_<big; unfold big; omega) h
theorem l72 {l k:Nat} {g:FuncId} {a b:List D} {p:Int→Bool}:∀(suf pre:List Int) (m:Nat),suf.length<m→pre.length+suf.length<big→(∀ x ∈ suf,pcD P (K l) g (a++[dI x]++b)=some (dB (p x))) →
    S72_1 (K l) k m (.fn g a b) (.sl ((pre++suf).map dI)) (dI ((pre++suf).map dI).length) (dI pre.length)=some (dB (suf.all p))
  | [],pre,0,hm,_,_=>by simp at hm
  | [],pre,m+1,_,_,_=>by
    rw[r72_1]
    unfold C72_1 B72_1
    simp only[bindO_some,elsD_sl,fnK_fn,ifU_f,List.append_nil,lss_end2]
    rfl
  | x::suf,pre,0,hm,_,_=>by simp at hm
  | x::suf,pre,m+1,hm,hb,h=>by
    rw[r72_1]
    unfold C72_1 B72_1
    simp only[List.length_cons] at hm hb
    simp only[bindO_some,elsD_sl,fnK_fn,chkK_t,leafD_v,ifU_t,at_map,lss_mid2,succ_pre (a:=x) (sbig (show pre.length<big by omega))]
    have hx:=h x (by simp)
    simp only[List.append_assoc,List.cons_append,List.nil_append] at hx ⊢
    rw[hx,bindO_some,semD_not,bindO_some,ifU_c]
    have ih:=l72 (k:=k) suf (pre++[x]) m (by omega) (by simp; omega) (fun y hy=>h y (by simp [hy]))
    simp only[List.append_assoc,List.cons_append,List.nil_append] at ih
    rw[ih]
    cases hp:p x <;> simp [List.all_cons,hp]
theorem s72 {l:Nat} (hl:1≤l) {g:FuncId} {a b:List D} {p:Int→Bool} {xs:List Int} (hx:xs.length<1000) (h:∀ x ∈ xs,pcD P (K (l-1)) g (a++[dI x]++b)=some (dB (p x))):pcD P (K l) 72 [.sl (xs.map dI),.fn g a b]=some (dB (xs.all p)):=by
  obtain⟨l,rfl⟩:=lev hl
  refine pcD_b ?_
  rw[c72]
  unfold C72_0 B72_0
  simp only[elsD_sl,bindO_some,lenD_eq]
  simpa using l72 (l:=l) (k:=19999) xs [] 19999 (by omega) (by show 0+_<big; unfold big; omega) h
end Go.Proofs.YtkmjgabdaikomaaGreat.L
end
section
open Go Go.Ev
set_option maxRecDepth 100000
namespace Go.Proofs.YtkmjgabdaikomaaGreat.L
theorem l109 {l k:Nat} (hl:1≤l) {g:Grove} {j:Join}:∀(suf pre:List Join) (m c:Nat),suf.length<m→pre.length+suf.length<big→c+suf.length<big →
    S109_1 (K l) k m (dI (c:Nat)) (.sl ((pre++suf).map dJoin)) (dI ((pre++suf).map dJoin).length) (dI pre.length) (gC g) [dI j.a,dI j.b] =
      some (dB (hasP g.pads.length j.a && (hasP g.pads.length j.b && (!decide (j.a=j.b) && decide (c+(suf.filter (alike j)).length=1)))))
  | [],pre,0,c,hm,_,_=>by simp at hm
  | [],pre,m+1,c,_,_,_=>by
    rw[r109_1]
    unfold C109_1 B109_1
    simp only[bindO_some,elsD_sl,chkK_t,leafD_v,binD_eql,binD_neq,List.append_nil,getD0,getD1,cut2,cut3,lss_end2,s121 hl,ifU_c]
    have e:decide ((c:Int)=1)=decide (c+([]:List Join).length=1):=by simp; omega
    simp only[List.filter_nil,e]
    cases hasP g.pads.length j.a <;> cases hasP g.pads.length j.b <;> cases decide (j.a=j.b) <;> rfl
  | x::suf,pre,0,c,hm,_,_=>by simp at hm
  | x::suf,pre,m+1,c,hm,hb,hc=>by
    rw[r109_1]
    unfold C109_1 B109_1 C109_2 B109_2 C109_3 B109_3
    simp only[List.length_cons] at hm hb hc
    simp only[bindO_some,elsD_sl,aggD_agg,chkK_t,leafD_v,if_true,binD_eql,binD_neq,beq_refl,getD0,getD1,cut2,cut3,spl2,len2,at_map,lss_mid2,eq_two (t:=125) (by kernel_rfl) (by kernel_rfl),succ_pre (a:=x) (sbig (show pre.length<big by omega)),binD_succ (k:=c) (sbig (by omega)),ifU_c]
    have ih0:=l109 (k:=k) hl (g:=g) (j:=j) suf (pre++[x]) m c (by omega) (by simp; omega) (by omega)
    have ih1:=l109 (k:=k) hl (g:=g) (j:=j) suf (pre++[x]) m (c+1) (by omega) (by simp; omega) (by omega)
    simp only[List.append_assoc,List.cons_append,List.nil_append] at ih0 ih1
    rw[ih0,ih1]
    have hf:((x::suf).filter (alike j)).length=(if alike j x then 1 else 0)+(suf.filter (alike j)).length:=by
      rw[List.filter_cons]
      split <;> simp; omega
    rw[hf]
    unfold alike
    by_cases h1:(decide (x.a=j.a) && decide (x.b=j.b))=true
    · simp only [h1, if_true, Bool.true_or]
      congr 5
      simp; omega
    · by_cases h2 : (decide (x.a = j.b) && decide (x.b = j.a)) = true
      · simp only [Bool.not_eq_true] at h1
        simp only[h1,h2,Bool.false_or,if_true,Bool.false_eq_true,if_false]
        congr 5
        simp; omega
      · simp only [Bool.not_eq_true] at h1 h2
        simp only[h1,h2,Bool.false_or,Bool.false_eq_true,if_false,Nat.zero_add]
theorem s109 {l:Nat} (hl:2≤l) {g:Grove} (hg:g.joins.length<1000) {j:Join}:pcD P (K l) 109 [dG g,dJoin j]=some (dB (joinOk g.pads.length g.joins j)):=by
  obtain⟨l,rfl⟩:=lev hl
  refine pcD_b ?_
  rw[c109]
  unfold C109_0 B109_0
  simp only[bindO_some,elsD_sl,aggD_agg,lenD_eq,getD1,List.length_map]
  have:=l109 (l:=l+1) (k:=19999) (by omega) (g:=g) (j:=j) g.joins [] 19999 0 (by omega) (by show 0+_<big; unfold big; omega) (by unfold big; omega)
  unfold joinOk
  simpa using this
def gLim (g:Grove):Bool:=decide (8<g.pads.length) || (decide (16<g.joins.length) || decide (3<g.kinds.length))
def gGood (g:Grove):Bool:=!decide (g.pads.length=0) && (!decide (g.kinds.length=0) && (g.pads.all padOk && (g.joins.all (joinOk g.pads.length g.joins) && g.kinds.all kdOk)))
def gErr (g:Grove):Int:=if gLim g then 3 else if gGood g then 0 else 1
theorem s95 {l:Nat} (hl:4≤l) {g:Grove} (hs:gSmall g):pcD P (K l) 95 [dG g]=some (dI (gErr g)):=by
  obtain⟨l,rfl⟩:=lev hl
  refine pcD_b ?_
  obtain⟨h1,h2,h3⟩:=hs
  rw[c95]
  unfold C95_0 B95_0 C95_1 B95_1 C95_2 B95_2 C95_3 B95_3
  have e1:=s106 (l:=l+3) (by omega) (g:=107) (a:=[]) (b:=[]) (p:=padOk) (xs:=g.pads) (by omega) (fun x _=>s107 (by omega))
  have e2:=s108 (l:=l+3) (by omega) (g:=109) (a:=[dG g]) (b:=[]) (p:=joinOk g.pads.length g.joins) (xs:=g.joins) (by omega) (fun x _=>s109 (by omega) (by omega))
  have e3:=s110 (l:=l+3) (by omega) (g:=111) (a:=[]) (b:=[]) (p:=kdOk) (xs:=g.kinds) (by omega) (fun x _=>s111 (by omega))
  simp only[aggD_agg,bindO_some,getD0,getD1,getD2,elsD_sl,lenD_eq,binD_gtr,binD_eql,cut3,e1,e2,e3,semD_not,ifU_c]
  have q1:decide ((8:Int)<((g.pads.map dPad).length:Nat))=decide (8<g.pads.length):=by simp; norm_cast
  have q2:decide ((16:Int)<((g.joins.map dJoin).length:Nat))=decide (16<g.joins.length):=by simp; norm_cast
  have q3:decide ((3:Int)<((g.kinds.map dKd).length:Nat))=decide (3<g.kinds.length):=by simp; norm_cast
  have q4:decide ((((g.pads.map dPad).length:Nat):Int)=0)=decide (g.pads.length=0):=by simp
  have q5:decide ((((g.kinds.map dKd).length:Nat):Int)=0)=decide (g.kinds.length=0):=by simp
  rw[q1,q2,q3,q4,q5]
  unfold gErr gLim gGood
  cases decide (8<g.pads.length) <;> cases decide (16<g.joins.length) <;> cases decide (3<g.kinds.length) <;> cases decide (g.pads.length=0) <;> cases decide (g.kinds.length=0) <;> cases g.pads.all padOk <;>
    cases g.joins.all (joinOk g.pads.length g.joins) <;> cases g.kinds.all kdOk <;> rfl
theorem s70 {l:Nat} (hl:5≤l) {g:Grove} (hs:gSmall g):pcD P (K l) 70 [dG g]=some (dI (gErr g)):=by
  obtain⟨l,rfl⟩:=lev hl
  refine pcD_b ?_
  rw[c70]
  unfold C70_0 B70_0
  simp only[aggD_agg,bindO_some,cut3,s95 (l:=l+4) (by omega) hs]
end Go.Proofs.YtkmjgabdaikomaaGreat.L
end
section
open Go Go.Ev
set_option maxRecDepth 100000
namespace Go.Proofs.YtkmjgabdaikomaaGreat.L
def jR (n:Nat):List Join→List Join→Bool
  | _,[]=>true
  | pre,j::suf=>hasP n j.a && (hasP n j.b && (!decide (j.a=j.b) && (!pre.any (alike j) && jR n (pre++[j]) suf)))
theorem l80_8 {l k m1:Nat} {b6:D→List D→Option D} {ps:List Pad} {js:List Join} {ks:List Kd} {i:Nat} {j:Join} {tail:List Join} (hi:i<big):∀(rest don:List Join) (m:Nat),rest.length<m→js=don++(rest++tail)→i=don.length+rest.length →
    S80_8 (K l) k m1 b6 m (dI (i:Nat)) (dI don.length) (gC ⟨ps,js,ks⟩) [dI j.a,dI j.b]=if rest.any (alike j) then some (dI 1) else b6 (dI ((i+1:Nat):Int)) (gC ⟨ps,js,ks⟩)
  | [],don,0,hm,_,_=>by simp at hm
  | [],don,m+1,_,_,he=>by
    rw[r80_8]
    unfold C80_8 B80_8
    rw[binD_lss,bindO_some,ifU_dec,if_neg (by simp at he; omega),binD_succ (k:=i) (sbig hi)]
    rfl
  | x::rest,don,0,hm,_,_=>by simp at hm
  | x::rest,don,m+1,hm,hj,he=>by
    rw[r80_8]
    unfold C80_8 B80_8 C80_9 B80_9
    simp only[List.length_cons] at hm he
    rw[binD_lss,bindO_some,ifU_dec,if_pos (by omega)]
    have hj':js=don++x::(rest++tail):=by rw[hj]; simp
    have ih:=l80_8 (l:=l) (k:=k) (m1:=m1) (b6:=b6) (ps:=ps) (ks:=ks) (j:=j) (tail:=tail) (js:=js) hi rest (don++[x]) m (by omega) (by rw[hj]; simp) (by simp; omega)
    subst hj'
    simp only[bindO_some,elsD_sl,aggD_agg,chkK_t,if_true,binD_eql,beq_refl,getD0,getD1,cut2,spl2,len2,at_map,eq_two (t:=82) (by kernel_rfl) (by kernel_rfl),ifU_c,succ_pre (a:=x) (sbig (show don.length<big by omega))]
    rw[ih]
    unfold alike
    simp only[List.any_cons]
    rcases Bool.eq_false_or_eq_true (decide (x.a=j.a)) with h10 | h10 <;> rcases Bool.eq_false_or_eq_true (decide (x.b=j.b)) with h11 | h11 <;> rcases Bool.eq_false_or_eq_true (decide (x.a=j.b)) with h12 | h12 <;> rcases Bool.eq_false_or_eq_true (decide (x.b=j.a)) with h13 | h13 <;> simp only[h10,h11,h12,h13] <;> simp
theorem l80_6 {l k:Nat} (hl:1≤l) {ps:List Pad} {ks:List Kd} (hps:ps.length<big):∀(suf pre:List Join) (m:Nat),pre.length+2 * suf.length<m→pre.length+suf.length<big →
    S80_6 (K l) k m (dI pre.length) (gC ⟨ps,pre++suf,ks⟩)=some (dI (if jR ps.length pre suf then 0 else 1))
  | [],pre,0,hm,_=>by simp at hm
  | [],pre,m+1,_,_=>by
    rw[r80_6]
    unfold C80_6 B80_6
    simp only[bindO_some,elsD_sl,ifU_f,lenD_eq,List.append_nil,getD0,getD1,lss_end2]
    rfl
  | x::suf,pre,0,hm,_=>by simp at hm
  | x::suf,pre,m+1,hm,hb=>by
    rw[r80_6]
    unfold C80_6 B80_6 C80_7 B80_7
    simp only[List.length_cons] at hm hb
    have hsub:I64 ((((ps.map dPad).length:Nat):Int)-1):=by unfold I64; simp; unfold big at hps; omega
    have h8:=l80_8 (l:=l) (k:=k) (m1:=m+1) (b6:=S80_6 (K l) k m) (ps:=ps) (ks:=ks) (j:=x) (tail:=x::suf) (js:=pre++x::suf) (i:=pre.length) (show pre.length<big by omega) pre [] (m+1) (by omega) rfl (by simp)
    have ih:=l80_6 (k:=k) hl (ks:=ks) hps suf (pre++[x]) m (by simp; omega) (by simp; omega)
    simp only[List.append_assoc,List.cons_append,List.nil_append] at ih
    simp only[bindO_some,elsD_sl,aggD_agg,chkK_t,if_true,binD_eql,semD_not,beq_refl,lenD_eq,getD0,getD1,cut2,spl2,len2,at_map,lss_mid2,binD_sub hsub,s60 hl,ifU_c]
    simp only[List.length_nil] at h8
    have h8':=h8
    simp only[Int.cast_ofNat_Int] at h8'
    have e0:(dI ((0:Nat):Int))=(.v (.int .i64 0):D):=rfl
    rw[e0] at h8
    simp only[List.length_append,List.length_cons,List.length_nil,Nat.zero_add] at ih
    rw[h8,ih]
    have en:(((ps.map dPad).length:Nat):Int)-1=(ps.length:Int)-1:=by simp
    simp only[jR,hasP,en]
    rcases Bool.eq_false_or_eq_true (inR x.a 0 (↑ps.length-1)) with h10 | h10 <;> rcases Bool.eq_false_or_eq_true (inR x.b 0 (↑ps.length-1)) with h11 | h11 <;> rcases Bool.eq_false_or_eq_true (decide (x.a=x.b)) with h12 | h12 <;> rcases Bool.eq_false_or_eq_true (pre.any (alike x)) with h13 | h13 <;> simp only[h10,h11,h12,h13] <;> simp
theorem l80_4 {l k:Nat} (hl:2≤l) {ps:List Pad} {js:List Join} (hps:ps.length<big) (hjs:js.length<1000) (hk:5000<k):∀(suf pre:List Kd) (m:Nat),suf.length<m→pre.length+suf.length<big →
    S80_4 (K l) k m (dI pre.length) (gC ⟨ps,js,pre++suf⟩)=some (dI (if suf.all kdOk && jR ps.length [] js then 0 else 1))
  | [],pre,0,hm,_=>by simp at hm
  | [],pre,m+1,_,_=>by
    rw[r80_4]
    unfold C80_4 B80_4
    simp only[bindO_some,elsD_sl,ifU_f,lenD_eq,List.append_nil,getD2,lss_end2]
    have:=l80_6 (l:=l) (k:=k) (by omega) (ks:=pre) hps js [] k (by simp; omega) (by show 0+_<big; unfold big; omega)
    simpa using this
  | x::suf,pre,0,hm,_=>by simp at hm
  | x::suf,pre,m+1,hm,hb=>by
    rw[r80_4]
    unfold C80_4 B80_4 C80_5 B80_5
    simp only[List.length_cons] at hm hb
    have ih:=l80_4 (k:=k) hl hps hjs hk suf (pre++[x]) m (by omega) (by simp; omega)
    simp only[List.append_assoc,List.cons_append,List.nil_append] at ih
    simp only[bindO_some,elsD_sl,aggD_agg,chkK_t,if_true,semD_not,beq_refl,lenD_eq,getD0,getD1,getD2,getD3,getD4,cut5,spl5,len5,at_map,lss_mid2,s60 (l:=l) (by omega),s98 hl,ifU_c,succ_pre (a:=x) (sbig (show pre.length<big by omega))]
    rw[ih]
    simp only[List.all_cons,kdOk]
    rcases Bool.eq_false_or_eq_true (inR x.young 0 1000) with h10 | h10 <;> rcases Bool.eq_false_or_eq_true (inR x.olo 0 x.ohi && decide (x.ohi≤1000)) with h11 | h11 <;> rcases Bool.eq_false_or_eq_true (inR x.nlo 0 x.nhi && decide (x.nhi≤1000)) with h12 | h12 <;> simp only[h10,h11,h12] <;> simp
theorem l80_3 {l k:Nat} (hl:2≤l) {js:List Join} {ks:List Kd} (hjs:js.length<1000) (hks:ks.length<1000) (hk:5000<k):∀(suf pre:List Pad) (m:Nat),suf.length<m→pre.length+suf.length<big →
    S80_3 (K l) k m (dI pre.length) (gC ⟨pre++suf,js,ks⟩)=some (dI (if suf.all padOk && (ks.all kdOk && jR (pre++suf).length [] js) then 0 else 1))
  | [],pre,0,hm,_=>by simp at hm
  | [],pre,m+1,_,hb=>by
    rw[r80_3]
    unfold C80_3 B80_3
    simp only[bindO_some,elsD_sl,ifU_f,lenD_eq,List.append_nil,getD0,lss_end2]
    have:=l80_4 (l:=l) (k:=k) hl (ps:=pre) (js:=js) (by simpa using hb) hjs hk ks [] k (by omega) (by show 0+_<big; unfold big; omega)
    simpa using this
  | x::suf,pre,0,hm,_=>by simp at hm
  | x::suf,pre,m+1,hm,hb=>by
    rw[r80_3]
    unfold C80_3 B80_3
    simp only[List.length_cons] at hm hb
    have ih:=l80_3 (k:=k) hl (js:=js) (ks:=ks) hjs hks hk suf (pre++[x]) m (by omega) (by simp; omega)
    simp only[List.append_assoc,List.cons_append,List.nil_append] at ih
    simp only[bindO_some,elsD_sl,aggD_agg,chkK_t,if_true,semD_not,beq_refl,lenD_eq,getD0,len2,drop1_0,at_map,lss_mid2,s98 hl,ifU_c,succ_pre (a:=x) (sbig (show pre.length<big by omega))]
    rw[ih]
    simp only[List.all_cons,padOk]
    rcases Bool.eq_false_or_eq_true (inR x.need 0 x.room && decide (x.room≤1000)) with h10 | h10 <;> simp only[h10] <;> simp
def rGood (g:Grove):Bool:=!decide (g.pads.length=0) && (!decide (g.kinds.length=0) && (g.pads.all padOk && (g.kinds.all kdOk && jR g.pads.length [] g.joins)))
theorem s80 {l:Nat} (hl:3≤l) {g:Grove} (hs:gSmall g):pcD P (K l) 80 [dG g]=some (dI (if gLim g then 3 else if rGood g then 0 else 1)):=by
  obtain⟨l,rfl⟩:=lev hl
  refine pcD_b ?_
  obtain⟨h1,h2,h3⟩:=hs
  rw[c80]
  unfold C80_0 B80_0 C80_1 B80_1 C80_2 B80_2
  have e3:=l80_3 (l:=l+2) (k:=19999) (by omega) (js:=g.joins) (ks:=g.kinds) (by omega) (by omega) (by omega) g.pads [] 19999 (by omega) (by show 0+_<big; unfold big; omega)
  have e0:(dI (([]:List Pad).length:Nat))=(.v (.int .i64 0):D):=rfl
  rw[e0] at e3
  simp only[List.nil_append] at e3
  simp only[aggD_agg,bindO_some,getD0,getD1,getD2,elsD_sl,lenD_eq,binD_gtr,binD_eql,ifU_c,e3]
  have q1:decide ((8:Int)<((g.pads.map dPad).length:Nat))=decide (8<g.pads.length):=by simp; norm_cast
  have q2:decide ((16:Int)<((g.joins.map dJoin).length:Nat))=decide (16<g.joins.length):=by simp; norm_cast
  have q3:decide ((3:Int)<((g.kinds.map dKd).length:Nat))=decide (3<g.kinds.length):=by simp; norm_cast
  have q4:decide ((((g.pads.map dPad).length:Nat):Int)=0)=decide (g.pads.length=0):=by simp
  have q5:decide ((((g.kinds.map dKd).length:Nat):Int)=0)=decide (g.kinds.length=0):=by simp
  rw[q1,q2,q3,q4,q5]
  unfold gLim rGood
  cases decide (8<g.pads.length) <;> cases decide (16<g.joins.length) <;> cases decide (3<g.kinds.length) <;> cases decide (g.pads.length=0) <;> cases decide (g.kinds.length=0) <;> rfl
end Go.Proofs.YtkmjgabdaikomaaGreat.L
end
section
open Go Go.Ev
set_option maxRecDepth 100000
namespace Go.Proofs.YtkmjgabdaikomaaGreat.L
def jB (n:Nat) (j:Join):Bool:=hasP n j.a && (hasP n j.b && !decide (j.a=j.b))
theorem alike_self (j:Join):alike j j=true:=by simp [alike]
theorem alike_sym (j o:Join):alike j o=alike o j:=by
  unfold alike
  rw[Bool.eq_iff_iff]
  simp only[Bool.or_eq_true,Bool.and_eq_true,decide_eq_true_eq]
  constructor
  · rintro (⟨a, b⟩ | ⟨a, b⟩)
    · exact .inl ⟨a.symm,b.symm⟩
    · exact .inr ⟨b.symm,a.symm⟩
  · rintro (⟨a, b⟩ | ⟨a, b⟩)
    · exact .inl ⟨a.symm,b.symm⟩
    · exact .inr ⟨b.symm,a.symm⟩
theorem jR_iff {n:Nat}:∀(suf pre:List Join),jR n pre suf=true↔(∀ j ∈ suf,jB n j=true)∧(∀ j ∈ suf,∀ o ∈ pre,alike j o=false)∧suf.Pairwise (fun o j=>alike j o=false)
  | [],pre=>by simp [jR]
  | x::suf,pre=>by
    simp only[jR,Bool.and_eq_true,Bool.not_eq_true',jR_iff suf (pre++[x]),List.pairwise_cons,List.mem_cons,List.mem_append,List.any_eq_false,decide_eq_false_iff_not]
    simp only[jB,Bool.and_eq_true,Bool.not_eq_true',decide_eq_false_iff_not]
    constructor
    · rintro ⟨a, b, c, d, e, f, g⟩
      refine⟨?_,?_,?_,g⟩
      · rintro j (rfl | hj)
        · exact⟨a,b,c⟩
        · exact e j hj
      · rintro j (rfl | hj) o ho
        · simpa using d o ho
        · exact f j hj o (.inl ho)
      · intro j hj
        exact f j hj x (.inr (.inl rfl))
    · rintro ⟨e, f, g, h⟩
      refine⟨(e x (.inl rfl)).1,(e x (.inl rfl)).2.1,(e x (.inl rfl)).2.2,fun o ho=>by simpa using f x (.inl rfl) o ho,fun j hj=>e j (.inr hj),?_,h⟩
      rintro j hj o (ho | ho | ho)
      · exact f j (.inr hj) o ho
      · subst ho; exact g j hj
      · cases ho
theorem pw_iff:∀ js:List Join,(∀ j ∈ js,(js.filter (alike j)).length=1)↔js.Pairwise (fun o j=>alike j o=false)
  | []=>by simp
  | x::js=>by
    rw[List.pairwise_cons,← pw_iff js]
    constructor
    · intro h
      have hx:=h x (by simp)
      rw[List.filter_cons,if_pos (alike_self x)] at hx
      have h0:js.filter (alike x)=[]:=by
        simp only[List.length_cons] at hx
        exact List.length_eq_zero_iff.1 (by omega)
      have hn:∀ j ∈ js,alike j x=false:=fun j hj=>by
        rw[alike_sym]
        have:=List.filter_eq_nil_iff.1 h0 j hj
        simpa using this
      refine⟨hn,fun j hj=>?_⟩
      have:=h j (by simp [hj])
      rwa [List.filter_cons,if_neg (by simp [hn j hj])] at this
    · rintro ⟨hn, h⟩ j hj
      rcases List.mem_cons.1 hj with rfl | hj
      · rw [List.filter_cons, if_pos (alike_self j)]
        have h0:js.filter (alike j)=[]:=by
          rw[List.filter_eq_nil_iff]
          intro o ho
          have:=hn o ho
          rw[alike_sym] at this
          simp [this]
        rw[h0]; rfl
      · rw [List.filter_cons, if_neg (by simp [hn j hj])]
        exact h j hj
theorem joins_eq {n:Nat} {js:List Join}:js.all (joinOk n js)=jR n [] js:=by
  rw[Bool.eq_iff_iff,jR_iff]
  simp only[List.all_eq_true,joinOk,Bool.and_eq_true,Bool.not_eq_true',decide_eq_true_eq,decide_eq_false_iff_not,jB]
  rw[← pw_iff]
  constructor
  · intro h
    exact⟨fun j hj=>⟨(h j hj).1,(h j hj).2.1,(h j hj).2.2.1⟩,fun j hj o ho=>by simp at ho,fun j hj=>(h j hj).2.2.2⟩
  · rintro ⟨a, _, c⟩ j hj
    exact⟨(a j hj).1,(a j hj).2.1,(a j hj).2.2,c j hj⟩
theorem good_eq (g:Grove):rGood g=gGood g:=by
  unfold rGood gGood
  rw[joins_eq]
  cases g.kinds.all kdOk <;> cases jR g.pads.length [] g.joins <;> rfl
theorem sFault {l:Nat} (hl:3≤l) {g:Grove} (hs:gSmall g):pcD P (K l) 80 [dG g]=some (dI (gErr g)):=by
  rw[s80 hl hs,good_eq]
  rfl
end Go.Proofs.YtkmjgabdaikomaaGreat.L
end
section
open Go Go.Ev
set_option maxRecDepth 100000
namespace Go.Proofs.YtkmjgabdaikomaaGreat.L
theorem at_get {α:Type} {f:α→D} {xs:List α} {k:Nat} {x:α} {kk:D→Option D} (h:xs[k]?=some x):(bindO (idxD (.v (.int .i64 (k:Nat))) (xs.map f).length) fun i=>bindO ((xs.map f)[i]?) kk)=kk (f x):=by
  have hk:k<xs.length:=(List.getElem?_eq_some_iff.1 h).1
  rw[idxD_lt (by simpa using hk),bindO_some]
  simp [h,bindO_some]
theorem sub_one {k:Nat} {t:TypeId} {x y:Operand} (h:k<big):binD P .sub t x y (.v (.int .i64 ((k+1:Nat):Int))) (.v (.int .i64 1))=some (.v (.int .i64 (k:Int))):=by
  rw[binD_sub (by unfold I64; unfold big at h; omega)]
  congr 3
  omega
def rises:List Int→Bool
  | []=>true
  | [_]=>true
  | a::b::l=>decide (a<b) && rises (b::l)
def rP (n:Nat):Option Int→List Int→Bool
  | _,[]=>true
  | none,x::l=>hasP n x && rP n (some x) l
  | some q,x::l=>hasP n x && (decide (q<x) && rP n (some x) l)
def padsOk (n:Nat) (l:List Int):Bool:=l.all (hasP n) && rises l
theorem rP_some {n:Nat}:∀(l:List Int) (q:Int),rP n (some q) l=(l.all (hasP n) && rises (q::l))
  | [],q=>rfl
  | x::l,q=>by
    simp only[rP,rises,List.all_cons,rP_some l x]
    cases hasP n x <;> cases decide (q<x) <;> cases l.all (hasP n) <;> cases rises (x::l) <;> rfl
theorem rP_none {n:Nat}:∀(l:List Int),rP n none l=padsOk n l
  | []=>rfl
  | x::l=>by
    simp only[rP,padsOk,List.all_cons,rP_some l x]
    cases hasP n x <;> cases l.all (hasP n) <;> rfl
theorem l96 {l k:Nat}:∀(suf pre:List Int) (a:Int) (m:Nat),suf.length<m→pre.length+suf.length<500000 →
    S96_1 (K l) k m (dL (pre++a::suf)) (dI ((pre.length+1:Nat):Int))=some (dB (rises (a::suf)))
  | [],pre,a,0,hm,_=>by simp at hm
  | [],pre,a,m+1,_,_=>by
    rw[r96_1]
    unfold C96_1 B96_1
    have e:((pre.length+1:Nat):Int)=((pre++[a]).length:Nat):=by simp
    rw[e]
    simp only[bindO_some,elsD_sl,ifU_f,lenD_eq,lss_end2]
    rfl
  | x::suf,pre,a,0,hm,_=>by simp at hm
  | x::suf,pre,a,m+1,hm,hb=>by
    rw[r96_1]
    unfold C96_1 B96_1
    simp only[List.length_cons] at hm hb
    have ih:=l96 (l:=l) (k:=k) suf (pre++[a]) x m (by omega) (by simp; omega)
    have g1:(pre++a::x::suf)[pre.length+1]?=some x:=by simp
    have g0:(pre++a::x::suf)[pre.length]?=some a:=by simp
    simp only[elsD_sl,bindO_some,lenD_eq,binD_lss,ifU_dec]
    rw[if_pos (by simp; omega),at_get g1,leafD_v,chkK_t,sub_one (by unfold big; omega),bindO_some,at_get g0,leafD_v,chkK_t,binD_leq,bindO_some,ifU_dec,binD_succ (by omega),bindO_some]
    simp only[List.length_append,List.length_cons,List.length_nil,Nat.zero_add,List.append_assoc,List.cons_append,List.nil_append] at ih
    rw[ih]
    simp only[rises]
    by_cases h:x≤a
    · rw [if_pos h]
      have:decide (a<x)=false:=by simp; omega
      rw[this]; rfl
    · rw [if_neg h]
      have:decide (a<x)=true:=by simp; omega
      rw[this]; rfl
theorem s96 {l:Nat} (hl:1≤l) {xs:List Int} (hx:xs.length<1000):pcD P (K l) 96 [dL xs]=some (dB (rises xs)):=by
  obtain⟨l,rfl⟩:=lev hl
  refine pcD_b ?_
  rw[c96]
  unfold C96_0 B96_0
  cases xs with
  | nil=>rfl
  | cons a xs=>exact l96 (l:=l) (k:=19999) xs [] a 19999 (by simp at hx; omega) (by simp at hx ⊢; omega)
theorem s86 {l:Nat} (hl:1≤l) {f:Fld} {a:Int}:pcD P (K l) 86 [dF f,dI a]=some (dB (hasP f.g.pads.length a)):=by
  obtain⟨l,rfl⟩:=lev hl
  refine pcD_b ?_
  rw[c86]
  unfold C86_0 B86_0
  simp only[bindO_some,elsD_sl,aggD_agg,ifU_dec,binD_geq,lenD_eq,getD0,binD_lss,List.length_map,someIf3]
  unfold hasP inR
  congr 5
  simp; omega
theorem s71 {l:Nat} (hl:3≤l) {f:Fld} {xs:List Int} (hx:xs.length<1000):pcD P (K l) 71 [dF f,dL xs]=some (dB (padsOk f.g.pads.length xs)):=by
  obtain⟨l,rfl⟩:=lev hl
  refine pcD_b ?_
  rw[c71]
  unfold C71_0 B71_0
  have e1:=s72 (l:=l+2) (by omega) (g:=86) (a:=[dF f]) (b:=[]) (p:=hasP f.g.pads.length) (xs:=xs) hx (fun x _=>s86 (by omega))
  simp only[aggD_agg,bindO_some,cut5,e1,s96 (l:=l+2) (by omega) hx,ifU_c]
  unfold padsOk
  cases xs.all (hasP f.g.pads.length) <;> rfl
def eatOk (x:Int):Bool:=inR x 0 100
theorem s73 {l:Nat} (hl:1≤l) {x:Int}:pcD P (K l) 73 [dI x]=some (dB (eatOk x)):=by
  obtain⟨l,rfl⟩:=lev hl
  refine pcD_b ?_
  rw[c73]
  unfold C73_0 B73_0
  simp only[bindO_some,ifU_dec,binD_leq,binD_geq,someIf3]
  rfl
def fErr (f:Fld):Int:=if gErr f.g=0 then(if padsOk f.g.pads.length f.start && (decide (f.eats.length=f.g.pads.length) && f.eats.all eatOk) then 0 else 1) else gErr f.g
theorem s49 {l:Nat} (hl:6≤l) {f:Fld} (hs:fSmall f):pcD P (K l) 49 [dF f]=some (dI (fErr f)):=by
  obtain⟨l,rfl⟩:=lev hl
  refine pcD_b ?_
  rw[c49]
  unfold C49_0 B49_0 C49_1 B49_1
  obtain⟨h1,h2,h3⟩:=hs
  have e1:=s72 (l:=l+5) (by omega) (g:=73) (a:=[]) (b:=[]) (p:=eatOk) (xs:=f.eats) (by omega) (fun x _=>s73 (by omega))
  simp only[aggD_agg,bindO_some,cut53,cut5,getD0,getD3,getD4,elsD_sl,lenD_eq,s70 (l:=l+5) (by omega) h1,s71 (l:=l+5) (by omega) (xs:=f.start) (by omega),e1,binD_neq,semD_not,ifU_c]
  have q:decide (((f.eats.map dI).length:Int)=((f.g.pads.map dPad).length:Nat))=decide (f.eats.length=f.g.pads.length):=by simp; norm_cast
  rw[q]
  unfold fErr
  by_cases h0:gErr f.g=0
  · simp only [h0, decide_true, Bool.not_true, Bool.false_eq_true, if_false, if_true]
    cases padsOk f.g.pads.length f.start <;> cases decide (f.eats.length=f.g.pads.length) <;> cases f.eats.all eatOk <;> rfl
  · simp only[h0,decide_false,Bool.not_false,if_true,if_false]
theorem l81 {l k:Nat} (hl:1≤l) {f:Fld} (hn:f.g.pads.length<big):∀(suf pre:List Int) (q:Int) (m:Nat),suf.length<m→pre.length+suf.length<500000 →
    S81_1 (K l) k m (dL (pre++q::suf)) (dI ((pre.length+1:Nat):Int)) (fC f)=some (dB (rP f.g.pads.length (some q) suf))
  | [],pre,q,0,hm,_=>by simp at hm
  | [],pre,q,m+1,_,_=>by
    rw[r81_1]
    unfold C81_1 B81_1
    have e:((pre.length+1:Nat):Int)=((pre++[q]).length:Nat):=by simp
    rw[e]
    simp only[bindO_some,elsD_sl,ifU_dec,ifU_f,binD_gtr,lenD_eq,getD0,lss_end2]
    rfl
  | x::suf,pre,q,0,hm,_=>by simp at hm
  | x::suf,pre,q,m+1,hm,hb=>by
    rw[r81_1]
    unfold C81_1 B81_1 C81_2 B81_2
    simp only[List.length_cons] at hm hb
    have ih:=l81 (k:=k) hl hn suf (pre++[q]) x m (by omega) (by simp; omega)
    have g1:(pre++q::x::suf)[pre.length+1]?=some x:=by simp
    have g0:(pre++q::x::suf)[pre.length]?=some q:=by simp
    have hsub:I64 ((((f.g.pads.map dPad).length:Nat):Int)-1):=by unfold I64; simp; unfold big at hn; omega
    have hgt:(0:Int)<((pre.length+1:Nat):Int):=by omega
    simp only[elsD_sl,bindO_some,lenD_eq,binD_lss,ifU_dec]
    rw[if_pos (by simp; omega),at_get g1,leafD_v,chkK_t,getD0,bindO_some,elsD_sl,bindO_some,binD_sub hsub,bindO_some,s60 hl,bindO_some,semD_not,bindO_some,ifU_c,binD_gtr,bindO_some,ifU_dec,if_pos hgt,at_get g1,leafD_v,chkK_t,sub_one (by unfold big; omega),bindO_some,at_get g0,leafD_v,chkK_t,binD_leq,bindO_some,ifU_dec,ifU_t,binD_succ (by omega),bindO_some]
    simp only[List.length_append,List.length_cons,List.length_nil,Nat.zero_add,List.append_assoc,List.cons_append,List.nil_append] at ih
    rw[ih]
    have en:(((f.g.pads.map dPad).length:Nat):Int)-1=(f.g.pads.length:Int)-1:=by simp
    simp only[rP,hasP,en]
    by_cases h:x≤q
    · rw [if_pos h]
      have:decide (q<x)=false:=by simp; omega
      rw[this]
      rcases Bool.eq_false_or_eq_true (inR x 0 (↑f.g.pads.length-1)) with h1 | h1 <;> simp [h1]
    · rw [if_neg h]
      have:decide (q<x)=true:=by simp; omega
      rw[this]
      rcases Bool.eq_false_or_eq_true (inR x 0 (↑f.g.pads.length-1)) with h1 | h1 <;> simp [h1]
theorem s81 {l:Nat} (hl:2≤l) {f:Fld} (hn:f.g.pads.length<big) {xs:List Int} (hx:xs.length<1000):pcD P (K l) 81 [dF f,dL xs]=some (dB (padsOk f.g.pads.length xs)):=by
  obtain⟨l,rfl⟩:=lev hl
  refine pcD_b ?_
  rw[c81,← rP_none]
  unfold C81_0 B81_0
  rw[aggD_agg,bindO_some]
  have e1:S81_1 (K (l+1)) 19999 19999=C81_1 (K (l+1)) 19999 19999 (S81_1 (K (l+1)) 19999 19998):=r81_1 _ _ (m:=19998)
  rw[e1]
  unfold C81_1 B81_1 C81_2 B81_2
  cases xs with
  | nil=>rfl
  | cons x xs=>
    have ih:=l81 (l:=l+1) (k:=19999) (by omega) hn xs [] x 19998 (by simp at hx; omega) (by simp at hx ⊢; omega)
    have g0:(x::xs)[0]?=some x:=rfl
    have hsub:I64 ((((f.g.pads.map dPad).length:Nat):Int)-1):=by unfold I64; simp; unfold big at hn; omega
    have hi:((dI 0:D))=.v (.int .i64 ((0:Nat):Int)):=rfl
    have e0:(.v (.int .i64 0):D)=.v (.int .i64 ((0:Nat):Int)):=rfl
    simp only[elsD_sl,bindO_some,lenD_eq,binD_lss,ifU_dec]
    rw[if_pos (by simp),e0,at_get g0,leafD_v,chkK_t,getD0,bindO_some,elsD_sl,bindO_some,binD_sub hsub,bindO_some,← e0,s60 (by omega),bindO_some,semD_not,bindO_some,ifU_c,binD_gtr,bindO_some,ifU_dec,if_neg (show ¬ ((0:Int)<0) by decide),ifU_t,ifU_f,e0,binD_succ (by omega),bindO_some]
    simp only[List.nil_append,List.length_nil] at ih
    rw[ih]
    have en:(((f.g.pads.map dPad).length:Nat):Int)-1=(f.g.pads.length:Int)-1:=by simp
    simp only[rP,hasP,en]
    rcases Bool.eq_false_or_eq_true (inR x 0 (↑f.g.pads.length-1)) with h1 | h1 <;> simp [h1]
end Go.Proofs.YtkmjgabdaikomaaGreat.L
end
section
open Go Go.Ev
set_option maxRecDepth 100000
namespace Go.Proofs.YtkmjgabdaikomaaGreat.L
def pErr (f:Fld) (plan:List (List Int)):Int:=if 300<plan.length then 3 else if plan.all (padsOk f.g.pads.length) then 0 else 2
theorem l54 {l k:Nat} (hl:1≤l) {g:Grove} {st:List Int}:∀(suf pre:List Int) (m:Nat),suf.length<m→pre.length+suf.length<big →
    S54_2 (K l) k m (dI pre.length) (fC ⟨g,st,pre++suf⟩)=some (dI (if suf.all eatOk then 0 else 1))
  | [],pre,0,hm,_=>by simp at hm
  | [],pre,m+1,_,_=>by
    rw[r54_2]
    unfold C54_2 B54_2
    simp only[bindO_some,elsD_sl,ifU_f,lenD_eq,List.append_nil,getD4,lss_end2]
    rfl
  | x::suf,pre,0,hm,_=>by simp at hm
  | x::suf,pre,m+1,hm,hb=>by
    rw[r54_2]
    unfold C54_2 B54_2
    simp only[List.length_cons] at hm hb
    have ih:=l54 (k:=k) hl (g:=g) (st:=st) suf (pre++[x]) m (by omega) (by simp; omega)
    simp only[List.append_assoc,List.cons_append,List.nil_append] at ih
    simp only[bindO_some,elsD_sl,chkK_t,leafD_v,if_true,semD_not,lenD_eq,getD4,at_map,lss_mid2,s60 hl,ifU_c,succ_pre (a:=x) (sbig (show pre.length<big by omega))]
    rw[ih]
    simp only[List.all_cons,eatOk]
    rcases Bool.eq_false_or_eq_true (inR x 0 100) with h1 | h1 <;> simp [h1]
theorem s54 {l:Nat} (hl:4≤l) {f:Fld} (hs:fSmall f):pcD P (K l) 54 [dF f]=some (dI (fErr f)):=by
  obtain⟨l,rfl⟩:=lev hl
  refine pcD_b ?_
  rw[c54]
  unfold C54_0 B54_0 C54_1 B54_1
  have hs':=hs
  obtain⟨h1,h2,h3⟩:=hs
  have e:=l54 (l:=l+3) (k:=19999) (by omega) (g:=f.g) (st:=f.start) f.eats [] 19999 (by omega) (by show 0+_<big; unfold big; omega)
  simp only[List.nil_append,List.length_nil] at e
  have e0:(dI ((0:Nat):Int))=(.v (.int .i64 0):D):=rfl
  rw[e0] at e
  have hf:(fC ⟨f.g,f.start,f.eats⟩)=fC f:=rfl
  rw[hf] at e
  simp only[aggD_agg,bindO_some,cut53,cut5,getD0,getD3,getD4,elsD_sl,lenD_eq,sFault (l:=l+3) (by omega) h1,s81 (l:=l+3) (by omega) (f:=f) (show f.g.pads.length<big by have:=h1.1; unfold big; omega) (xs:=f.start) (by omega),binD_neq,semD_not,ifU_c,e]
  have q:decide (((f.eats.map dI).length:Int)=((f.g.pads.map dPad).length:Nat))=decide (f.eats.length=f.g.pads.length):=by simp; norm_cast
  rw[q]
  unfold fErr
  by_cases h0:gErr f.g=0
  · simp only [h0, decide_true, Bool.not_true, Bool.false_eq_true, if_false, if_true]
    rcases Bool.eq_false_or_eq_true (padsOk f.g.pads.length f.start) with h4 | h4 <;> rcases Bool.eq_false_or_eq_true (decide (f.eats.length=f.g.pads.length)) with h5 | h5 <;> rcases Bool.eq_false_or_eq_true (f.eats.all eatOk) with h6 | h6 <;> simp only[h4,h5,h6] <;> rfl
  · simp only[h0,decide_false,Bool.not_false,if_true,if_false]
theorem s19 {l:Nat} (hl:5≤l) {f:Fld} (hs:fSmall f):pcD P (K l) 19 [dF f]=some (dI (fErr f)):=by
  obtain⟨l,rfl⟩:=lev hl
  refine pcD_b ?_
  rw[c19]
  unfold C19_0 B19_0
  simp only[aggD_agg,bindO_some,cut5,s54 (l:=l+4) (by omega) hs]
def aErr (f:Fld) (plan:List (List Int)):Int:=if fErr f=0 then pErr f plan else fErr f
def setB (l:List Int):BitVec 64:=l.foldl (fun s p=>s ||| BitVec.twoPow 64 p.toNat) 0#64
theorem l76 {l k:Nat}:∀(suf pre:List Int) (s:BitVec 64) (m:Nat),suf.length<m→pre.length+suf.length<big→(∀ x ∈ suf,0≤x∧x<64) →
    S76_1 (K l) k m (uB s) (dL (pre++suf)) (dI ((pre++suf).map dI).length) (dI pre.length)=some (uB (suf.foldl (fun s p=>s ||| BitVec.twoPow 64 p.toNat) s))
  | [],pre,s,0,hm,_,_=>by simp at hm
  | [],pre,s,m+1,_,_,_=>by
    rw[r76_1]
    unfold C76_1 B76_1
    simp only[bindO_some,elsD_sl,ifU_f,List.append_nil,lss_end2]
    rfl
  | x::suf,pre,s,0,hm,_,_=>by simp at hm
  | x::suf,pre,s,m+1,hm,hb,hx=>by
    rw[r76_1]
    unfold C76_1 B76_1
    simp only[List.length_cons] at hm hb
    have ih:=l76 (l:=l) (k:=k) suf (pre++[x]) (s ||| BitVec.twoPow 64 x.toNat) m (by omega) (by simp; omega) (fun y hy=>hx y (by simp [hy]))
    simp only[List.append_assoc,List.cons_append,List.nil_append] at ih
    obtain⟨h0,h1⟩:=hx x (by simp)
    have hs:binD P .shl 101 (Operand.const (Value.int IntKind.u64 1)) (Operand.tmp 13) (.v (.int .u64 1)) (dI x)=some (uB (BitVec.twoPow 64 x.toNat)):=by
      have:=binD_shl (P:=P) (t:=101) (x:=Operand.const (Value.int IntKind.u64 1)) (y:=Operand.tmp 13) (p:=x.toNat) (by omega)
      have e:((x.toNat:Nat):Int)=x:=by omega
      rw[e] at this
      exact this
    simp only[bindO_some,elsD_sl,chkK_t,leafD_v,ifU_t,at_map,lss_mid2,hs,binD_or,succ_pre (a:=x) (sbig (show pre.length<big by omega))]
    rw[ih]
    rfl
theorem s76 {l:Nat} (hl:1≤l) {xs:List Int} (hb:xs.length<1000) (hx:∀ x ∈ xs,0≤x∧x<64):pcD P (K l) 76 [dL xs]=some (uB (setB xs)):=by
  obtain⟨l,rfl⟩:=lev hl
  refine pcD_b ?_
  rw[c76]
  unfold C76_0 B76_0
  simp only[elsD_sl,bindO_some,lenD_eq]
  exact l76 (l:=l) (k:=19999) xs [] 0#64 19999 (by omega) (by show 0+_<big; unfold big; omega) hx
theorem setB_one (x:Int):setB [x]=BitVec.twoPow 64 x.toNat:=by simp [setB]
def meets (a b:BitVec 64):Bool:=!decide (a &&& b=0#64)
theorem s88 {l:Nat} (hl:1≤l) {a b:BitVec 64}:pcD P (K l) 88 [uB a,uB b]=some (dB (meets a b)):=by
  obtain⟨l,rfl⟩:=lev hl
  refine pcD_b ?_
  rw[c88]
  unfold C88_0 B88_0
  simp only[binD_and,bindO_some,binD_neq_u]
  rfl
theorem s79 {l:Nat} (hl:1≤l) {a b:BitVec 64}:pcD P (K l) 79 [uB a,uB b]=some (uB (a &&& ~~~b)):=by
  obtain⟨l,rfl⟩:=lev hl
  refine pcD_b ?_
  rw[c79]
  unfold C79_0 B79_0
  simp only[binD_andNot,bindO_some]
theorem meets_two {a:BitVec 64} {p:Nat} (hp:p<64):meets a (BitVec.twoPow 64 p)=a.getLsbD p:=by
  unfold meets
  rw[BitVec.and_twoPow]
  cases h:a.getLsbD p
  · simp
  · have : BitVec.twoPow 64 p ≠ 0#64 := by
      intro e
      have:=congrArg (fun b=>BitVec.getLsbD b p) e
      simp [hp] at this
    simp [this]
theorem s87 {l:Nat} (hl:2≤l) {a:BitVec 64} {p:Nat} (hp:p<64):pcD P (K l) 87 [uB a,dI (p:Nat)]=some (dB (a.getLsbD p)):=by
  obtain⟨l,rfl⟩:=lev hl
  refine pcD_b ?_
  rw[c87]
  unfold C87_0 B87_0
  have e:=s76 (l:=l+1) (by omega) (xs:=[(p:Int)]) (by simp) (fun x hx=>by simp at hx; omega)
  have e':pcD P (K (l+1)) 76 [.sl [dI (p:Nat)]]=some (uB (setB [(p:Int)])):=e
  simp only[leafD_v,chkK_t,e',bindO_some,s88 (l:=l+1) (by omega),setB_one]
  have:((p:Int)).toNat=p:=by omega
  rw[this,meets_two hp]
def padsB (s:BitVec 64):List Int:=((List.range' 0 8).filter (fun p=>s.getLsbD p)).map (fun p:Nat=>(p:Int))
theorem l77 {l k:Nat} (hl:2≤l) {s:BitVec 64}:∀(r i m:Nat) (acc:List Int),i+r=8→r<m→acc.length≤i →
    S77_1 (K l) k m (uB s) (dI (i:Nat)) (acc.map dI)=some (dL (acc++((List.range' i r).filter (fun p=>s.getLsbD p)).map (fun p:Nat=>(p:Int))))
  | 0,i,0,acc,_,hm,_=>by simp at hm
  | 0,i,m+1,acc,hi,_,_=>by
    rw[r77_1]
    unfold C77_1 B77_1
    rw[binD_lss,bindO_some,ifU_dec,if_neg (by omega)]
    simp
  | r+1,i,0,acc,_,hm,_=>by simp at hm
  | r+1,i,m+1,acc,hi,hm,ha=>by
    rw[r77_1]
    unfold C77_1 B77_1 C77_2 B77_2
    rw[binD_lss,bindO_some,ifU_dec,if_pos (by omega),s87 hl (by omega),bindO_some,ifU_c,leafD_v,chkK_t,appD_lt (by simp; omega),bindO_some,binD_succ (by omega),bindO_some,bindO_some]
    have i1:=l77 (k:=k) hl (s:=s) r (i+1) m (acc++[(i:Int)]) (by omega) (by omega) (by simp; omega)
    have i2:=l77 (k:=k) hl (s:=s) r (i+1) m acc (by omega) (by omega) (by omega)
    simp only[List.map_append,List.map_cons,List.map_nil] at i1
    rw[i1,i2,List.range'_succ,List.filter_cons]
    cases h:s.getLsbD i <;> simp
theorem s77 {l:Nat} (hl:3≤l) {s:BitVec 64}:pcD P (K l) 77 [uB s]=some (dL (padsB s)):=by
  obtain⟨l,rfl⟩:=lev hl
  refine pcD_n ?_ (by kernel_rfl)
  rw[c77]
  unfold C77_0 B77_0
  exact l77 (l:=l+2) (k:=19999) (by omega) (s:=s) 8 0 19999 [] (by omega) (by omega) (by simp)
theorem l52 {l k:Nat} (hl:3≤l):∀(suf pre:List (BitVec 64)) (m:Nat),suf.length<m→pre.length+suf.length<big →
    S52_1 (K l) k m (.sl ((pre++suf).map uB)) (dI ((pre++suf).map uB).length) (dI pre.length) ((pre.map padsB).map dL)=some (dLL ((pre++suf).map padsB))
  | [],pre,0,hm,_=>by simp at hm
  | [],pre,m+1,_,_=>by
    rw[r52_1]
    unfold C52_1 B52_1
    simp only[bindO_some,elsD_sl,ifU_f,List.append_nil,lss_end2]
  | x::suf,pre,0,hm,_=>by simp at hm
  | x::suf,pre,m+1,hm,hb=>by
    rw[r52_1]
    unfold C52_1 B52_1
    simp only[List.length_cons] at hm hb
    have ih:=l52 (k:=k) hl suf (pre++[x]) m (by omega) (by simp; omega)
    simp only[List.map_append,List.map_cons,List.map_nil,List.append_assoc,List.cons_append,List.nil_append] at ih
    simp only[bindO_some,elsD_sl,chkK_t,leafD_v,leafD_sl,ifU_t,at_map,lss_mid2,s77 hl,succ_pre (a:=x) (sbig (show pre.length<big by omega))]
    rw[appD_lt (by simp; unfold big at hb; omega),bindO_some]
    simpa using ih
theorem s52 {l:Nat} (hl:4≤l) {xs:List (BitVec 64)} (hx:xs.length<1000):pcD P (K l) 52 [.sl (xs.map uB)]=some (dLL (xs.map padsB)):=by
  obtain⟨l,rfl⟩:=lev hl
  refine pcD_n ?_ (by kernel_rfl)
  rw[c52]
  unfold C52_0 B52_0
  simp only[elsD_sl,bindO_some,lenD_eq]
  exact l52 (l:=l+3) (k:=19999) (by omega) xs [] 19999 (by omega) (by show 0+_<big; unfold big; omega)
end Go.Proofs.YtkmjgabdaikomaaGreat.L
end
section
open Go Go.Ev
set_option maxRecDepth 100000
namespace Go.Proofs.YtkmjgabdaikomaaGreat.L
noncomputable abbrev hC (f:Fld) (near:List (BitVec 64)):List D:=.sl (f.g.pads.map dPad)::.sl (f.g.joins.map dJoin)::.sl (f.g.kinds.map dKd)::dL f.start::dL f.eats::near.map uB
noncomputable abbrev dH (f:Fld) (near:List (BitVec 64)):D:=.ref (hC f near)
theorem near_at {f:Fld} {near:List (BitVec 64)} {i:Nat} {x:BitVec 64} (h:near[i]?=some x):(List.drop (i * 1) (List.drop 5 (hC f near)))[0]?=some (uB x):=by
  have e:List.drop 5 (hC f near)=near.map uB:=rfl
  rw[e,List.getElem?_drop]
  simp [h]
def nextB (near:List (BitVec 64)) (s:BitVec 64) (p:Nat):Bool:=meets (near.getD p 0#64) s
theorem l112 {l k y:Nat} (hl:1≤l) {f:Fld} {near:List (BitVec 64)} {s:BitVec 64} {n:Nat} (hn:n≤near.length) (h8:near.length=8):∀(r i m:Nat),i+r=n→r<m →
    S112_1 (K l) k m y (.ref [dH f near]) (.ref [uB s]) (dI (n:Nat)) (dI (i:Nat))=some (listT y (((List.range' i r).filter (nextB near s)).map (fun p:Nat=>[dI (p:Int)])))
  | 0,i,0,_,hm=>by simp at hm
  | 0,i,m+1,hi,_=>by
    rw[r112_1]
    unfold C112_1 B112_1
    rw[binD_lss,bindO_some,ifU_dec,if_neg (by omega)]
    rfl
  | r+1,i,0,_,hm=>by simp at hm
  | r+1,i,m+1,hi,hm=>by
    rw[r112_1]
    unfold C112_1 B112_1 C112_2 B112_2
    have hlt:i<near.length:=by omega
    have hx:near[i]?=some (near.getD i 0#64):=by
      rw[List.getD_eq_getElem?_getD,List.getElem?_eq_getElem hlt]; rfl
    have ih:=l112 (k:=k) (y:=y) hl (f:=f) (s:=s) hn h8 r (i+1) m (by omega) (by omega)
    rw[binD_lss,bindO_some,ifU_dec,if_pos (by omega),derefD_ref,bindO_some,getD0,bindO_some,nilA_ref,derefD_ref,bindO_some,idxD_lt (by omega),bindO_some,near_at hx,bindO_some,derefD_ref,bindO_some,getD0,bindO_some,s88 hl,bindO_some,ifU_c,semD_not,bindO_some,semD_not,bindO_some,binD_succ (by omega),bindO_some]
    simp only[Bool.not_true,Bool.not_false,ifU_t,ifU_f]
    rw[ih,List.range'_succ,List.filter_cons]
    unfold nextB
    cases meets (near.getD i 0#64) s <;> rfl
theorem sNextY {l:Nat} (hl:1≤l) {f:Fld} {near:List (BitVec 64)} {s:BitVec 64} (hn:f.eats.length≤near.length) (h8:near.length=8) (y:Nat) :
    Rg l 112 [.yld y,.ref [dH f near],.ref [uB s]]=some (listT y (((List.range' 0 f.eats.length).filter (nextB near s)).map (fun p:Nat=>[dI (p:Int)]))):=by
  rw[c112]
  unfold C112_0 B112_0
  have e4:(List.drop 4 (hC f near))[0]?=some (dL f.eats):=rfl
  rw[derefD_ref,bindO_some,getD0,bindO_some,nilA_ref,derefD_ref,bindO_some,e4,bindO_some,elsD_sl,bindO_some,lenD_eq,List.length_map]
  exact l112 (l:=l) (k:=19999) (y:=y) hl (f:=f) (s:=s) hn h8 f.eats.length 0 19999 (by omega) (by omega)
theorem s97 {l:Nat} (hl:1≤l) {f:Fld} {near:List (BitVec 64)} {s:BitVec 64}:pcD P (K l) 97 [dH f near,uB s]=some (.fn 112 [] [.ref [dH f near],.ref [uB s]]):=by
  obtain⟨l,rfl⟩:=lev hl
  refine pcD_n ?_ (by kernel_rfl)
  rw[c97]
  unfold C97_0 B97_0
  simp only[leafD_ref,leafD_v,chkK_t]
theorem noResN:noRes P 112=true:=by kernel_rfl
theorem memN_nil {z:Nat}:memN [] z=false:=rfl
def orB (s:BitVec 64) (ps:List Nat):BitVec 64:=ps.foldl (fun s p=>s ||| BitVec.twoPow 64 p) s
theorem l78 {pc rg:PC} {l k:Nat} (hl:1≤l) {u:D}:∀(ps:List Nat) (s:BitVec 64),(∀ p ∈ ps,p<64) →
    S78_2 pc rg (K l) k (ps.map (fun p:Nat=>[dI (p:Int)])) (uB s) u=some (uB (orB s ps))
  | [],s,_=>by
    rw[List.map_nil,n78_2]
    rfl
  | p::ps,s,hp=>by
    rw[List.map_cons,r78_2]
    unfold C78_2 B78_2
    have e:=s76 hl (xs:=[(p:Int)]) (by simp) (fun x hx=>by have:=hp p (by simp); simp at hx; omega)
    have e':pcD P (K l) 76 [.sl [dI (p:Nat)]]=some (uB (setB [(p:Int)])):=e
    show chkK (leafD (dI (p:Int))) _=_
    have ep:((p:Int)).toNat=p:=by omega
    simp only[leafD_v,chkK_t,e',bindO_some,binD_or,setB_one,ep]
    exact l78 hl ps _ (fun q hq=>hp q (by simp [hq]))
def reachB (near:List (BitVec 64)) (n:Nat) (s:BitVec 64):BitVec 64:=orB 0#64 ((List.range' 0 n).filter (nextB near s))
theorem s78 {l:Nat} (hl:4≤l) {f:Fld} {near:List (BitVec 64)} {s:BitVec 64} (hn:f.eats.length≤near.length) (h8:near.length=8):pcD P (K l) 78 [dH f near,uB s]=some (uB (reachB near f.eats.length s)):=by
  obtain⟨l,rfl⟩:=lev hl
  refine pcD_b ?_
  have e:l+4=(l+1)+3:=by omega
  rw[e,c78]
  unfold C78_0 B78_0 C78_1 B78_1
  rw[s97 (by omega),bindO_some,fnK_fn,noResN,memN_nil]
  show chkK true _=_
  rw[chkK_t]
  refine(iterK_eq (ys:=((List.range' 0 f.eats.length).filter (nextB near s)).map (fun p:Nat=>[dI (p:Int)])) (fun y=>sNextY (l:=l+1+1) (by omega) hn h8 y)).trans ?_
  have:=l78 (pc:=K (l+1+2)) (rg:=Rg (l+1+1)) (l:=l+1) (k:=19999) (by omega) (u:=.fn 112 [] [.ref [dH f near],.ref [uB s]]) ((List.range' 0 f.eats.length).filter (nextB near s)) 0#64 (fun p hp=>by simp at hp; omega)
  exact this
end Go.Proofs.YtkmjgabdaikomaaGreat.L
end
section
open Go Go.Ev
set_option maxRecDepth 100000
namespace Go.Proofs.YtkmjgabdaikomaaGreat.L
theorem set_near {f:Fld} {near:List (BitVec 64)} {i:Nat} {v:BitVec 64}:List.set (hC f near) (5+i * 1) (uB v)=hC f (near.set i v):=by
  rw[show 5+i * 1=i+1+1+1+1+1 by omega]
  simp only[List.set_cons_succ]
  rw[← List.map_set]
theorem get_near {f:Fld} {near:List (BitVec 64)} {i:Nat} {v:BitVec 64} (h:near[i]?=some v):(hC f near)[5+i * 1]?=some (uB v):=by
  rw[show 5+i * 1=i+1+1+1+1+1 by omega]
  simp [h]
theorem len_near {f:Fld} {near:List (BitVec 64)} {i:Nat} (h:i<near.length):Nat.blt (5+i * 1) (hC f near).length=true:=by
  simp; omega
theorem getE {near:List (BitVec 64)} {i:Nat} (h:i<near.length):near[i]?=some (near.getD i 0#64):=by
  rw[List.getD_eq_getElem?_getD,List.getElem?_eq_getElem h]; rfl
def iStep (near:List (BitVec 64)) (i:Nat):List (BitVec 64):=near.set i (BitVec.twoPow 64 i)
def jStep (near:List (BitVec 64)) (j:Join):List (BitVec 64):=
  let n1:=near.set j.a.toNat (near.getD j.a.toNat 0#64 ||| BitVec.twoPow 64 j.b.toNat)
  n1.set j.b.toNat (n1.getD j.b.toNat 0#64 ||| BitVec.twoPow 64 j.a.toNat)
theorem sOne {l:Nat} (hl:1≤l) {x:Int} (h:0≤x∧x<64):pcD P (K l) 76 [.sl [dI x]]=some (uB (BitVec.twoPow 64 x.toNat)):=by
  have e:=s76 hl (xs:=[x]) (by simp) (fun y hy=>by simp at hy; subst hy; exact h)
  rw[setB_one] at e
  exact e
theorem l65_2 {l k:Nat} (hl:1≤l) {f:Fld}:∀(suf pre:List Join) (near:List (BitVec 64)) (m:Nat),suf.length<m→pre.length+suf.length<big→near.length=8→(∀ j ∈ suf,(0≤j.a∧j.a<8)∧0≤j.b∧j.b<8) →
    S65_2 (K l) k m (.sl ((pre++suf).map dJoin)) (dI ((pre++suf).map dJoin).length) (dI pre.length) (hC f near)=some (.tup [dH f (suf.foldl jStep near),dI 0])
  | [],pre,near,0,hm,_,_,_=>by simp at hm
  | [],pre,near,m+1,_,_,_,_=>by
    rw[r65_2]
    unfold C65_2 B65_2
    simp only[bindO_some,elsD_sl,ifU_f,List.append_nil,lss_end2]
    rfl
  | x::suf,pre,near,0,hm,_,_,_=>by simp at hm
  | x::suf,pre,near,m+1,hm,hb,h8,hj=>by
    rw[r65_2]
    unfold C65_2 B65_2
    simp only[List.length_cons] at hm hb
    obtain⟨ha,hbb⟩:=hj x (by simp)
    have ih:=l65_2 (k:=k) hl (f:=f) suf (pre++[x]) (jStep near x) m (by omega) (by simp; omega) (by simp [jStep,h8]) (fun j hj'=>hj j (by simp [hj']))
    simp only[List.append_assoc,List.cons_append,List.nil_append] at ih
    have ea:dI x.a=.v (.int .i64 ((x.a.toNat:Nat):Int)):=by congr 2; omega
    have eb:dI x.b=.v (.int .i64 ((x.b.toNat:Nat):Int)):=by congr 2; omega
    have i8a:idxD (dI x.a) 8=some x.a.toNat:=by rw[ea]; exact idxD_lt (by omega)
    have i8b:idxD (dI x.b) 8=some x.b.toNat:=by rw[eb]; exact idxD_lt (by omega)
    have la:x.a.toNat<near.length:=by omega
    have lb:x.b.toNat<(near.set x.a.toNat (near.getD x.a.toNat 0#64 ||| BitVec.twoPow 64 x.b.toNat)).length:=by simp; omega
    simp only[bindO_some,elsD_sl,aggD_agg,chkK_t,leafD_v,ifU_t,beq_refl,getD0,getD1,cut2,spl2,len2,at_map,lss_mid2,i8a,i8b,get_near (getE la),sOne hl (x:=x.b) (by omega),sOne hl (x:=x.a) (by omega),binD_or,set_near,len_near la,get_near (getE lb),len_near lb,succ_pre (a:=x) (sbig (show pre.length<big by omega))]
    exact ih
theorem l65_1 {l k:Nat} (hl:1≤l) {f:Fld} (hk:2000<k) (hjl:f.g.joins.length<1000) (hj:∀ j ∈ f.g.joins,(0≤j.a∧j.a<8)∧0≤j.b∧j.b<8) {n:Nat} (hn:n≤8):∀(r i m:Nat) (near:List (BitVec 64)),i+r=n→r<m→near.length=8 →
    S65_1 (K l) k m (dI (n:Nat)) (dI (i:Nat)) (hC f near)=some (.tup [dH f (f.g.joins.foldl jStep ((List.range' i r).foldl iStep near)),dI 0])
  | 0,i,0,near,_,hm,_=>by simp at hm
  | 0,i,m+1,near,hi,_,h8=>by
    rw[r65_1]
    unfold C65_1 B65_1
    rw[binD_lss,bindO_some,ifU_dec,if_neg (by omega)]
    have:=l65_2 (k:=k) hl (f:=f) f.g.joins [] near k (by omega) (by show 0+_<big; unfold big; omega) h8 hj
    simp only[List.nil_append,List.length_nil] at this
    rw[getD1,bindO_some,elsD_sl,bindO_some,lenD_eq]
    exact this
  | r+1,i,0,near,_,hm,_=>by simp at hm
  | r+1,i,m+1,near,hi,hm,h8=>by
    rw[r65_1]
    unfold C65_1 B65_1
    have ih:=l65_1 (k:=k) hl (f:=f) hk hjl hj hn r (i+1) m (iStep near i) (by omega) (by omega) (by simp [iStep,h8])
    have so:=sOne hl (x:=(i:Int)) (by omega)
    have ei:((i:Int)).toNat=i:=by omega
    rw[ei] at so
    rw[binD_lss,bindO_some,ifU_dec,if_pos (by omega),leafD_v,chkK_t,so,bindO_some,idxD_lt (by omega),bindO_some,leafD_v,chkK_t,len_near (by omega),chkK_t,binD_succ (by omega),bindO_some,set_near]
    rw[List.range'_succ,List.foldl_cons]
    exact ih
def nearOf (f:Fld):List (BitVec 64):=f.g.joins.foldl jStep ((List.range' 0 f.eats.length).foldl iStep (List.replicate 8 0#64))
theorem hasP_iff {n:Nat} {a:Int}:hasP n a=true↔0≤a∧a<n:=by
  unfold hasP inR
  simp; omega
theorem ok_of {f:Fld} (h:fErr f=0):f.g.pads.length≤8∧f.g.pads.length≠0∧f.eats.length=f.g.pads.length∧padsOk f.g.pads.length f.start=true∧∀ j ∈ f.g.joins,hasP f.g.pads.length j.a=true∧hasP f.g.pads.length j.b=true:=by
  unfold fErr at h
  split at h
  · rename_i h0
    split at h
    · rename_i h1
      simp only[Bool.and_eq_true,decide_eq_true_eq] at h1
      unfold gErr at h0
      split at h0
      · cases h0
      · rename_i hl
        split at h0
        · rename_i hg
          unfold gLim at hl
          unfold gGood at hg
          simp only[Bool.or_eq_true,decide_eq_true_eq] at hl
          simp only[Bool.and_eq_true,Bool.not_eq_true',decide_eq_false_iff_not,List.all_eq_true] at hg
          refine⟨by omega,hg.1,h1.2.1,h1.1,fun j hj=>?_⟩
          have:=hg.2.2.2.1 j hj
          unfold joinOk at this
          simp only[Bool.and_eq_true] at this
          exact⟨this.1,this.2.1⟩
        · cases h0
    · cases h
  · rename_i h0; exact absurd h h0
theorem fillH {a b c d e:D}:fillD [(.v (.slice none 0 0)),(.v (.slice none 0 0)),(.v (.slice none 0 0)),(.v (.slice none 0 0)),(.v (.slice none 0 0)),(.v (.int .u64 0)),(.v (.int .u64 0)),(.v (.int .u64 0)),(.v (.int .u64 0)),(.v (.int .u64 0)),(.v (.int .u64 0)),(.v (.int .u64 0)),(.v (.int .u64 0))] [(0,5,.agg [a,b,c,d,e])]=some [a,b,c,d,e,(.v (.int .u64 0)),(.v (.int .u64 0)),(.v (.int .u64 0)),(.v (.int .u64 0)),(.v (.int .u64 0)),(.v (.int .u64 0)),(.v (.int .u64 0)),(.v (.int .u64 0))]:=rfl
theorem s65 {l:Nat} (hl:7≤l) {f:Fld} (hs:fSmall f):pcD P (K l) 65 [dF f]=some (if fErr f=0 then .tup [dH f (nearOf f),dI 0] else .tup [.v (.pointer none),dI (fErr f)]):=by
  obtain⟨l,rfl⟩:=lev hl
  refine pcD_n ?_ (by kernel_rfl)
  rw[c65]
  unfold C65_0 B65_0
  rw[aggD_agg,bindO_some,cut5,bindO_some,s49 (l:=l+6) (by omega) hs,bindO_some,binD_neq,bindO_some,ifU_c]
  by_cases h0:fErr f=0
  · obtain ⟨h8, hne, he, _, hj⟩ := ok_of h0
    have e:=l65_1 (l:=l+6) (k:=19999) (by omega) (f:=f) (by omega) (by have:=hs.1.2.1; omega) (fun j hj'=>by
      have:=hj j hj'
      rw[hasP_iff,hasP_iff] at this
      omega) (n:=f.eats.length) (by omega) f.eats.length 0 19999 (List.replicate 8 0#64) (by omega) (by omega) (by simp)
    simp only[h0,decide_true,Bool.not_true,Bool.false_eq_true,if_false,if_true]
    rw[bindO_some,fillH,bindO_some,getD4,bindO_some,elsD_sl,bindO_some,lenD_eq,List.length_map]
    exact e
  · simp only[h0,decide_false,Bool.not_false,if_true,if_false]
theorem cutH {f:Fld} {near:List (BitVec 64)}:cutD (hC f near) 0 5=some (fC f):=by
  unfold cutD
  rw[if_pos (by simp)]
  rfl
theorem natD_nat {n:Nat}:natD (.v (.int .i64 (n:Int)))=some n:=rfl
theorem padsOk_lt {n:Nat} {x:List Int} (hn:n≤8) (h:padsOk n x=true):∀ p ∈ x,0≤p∧p<8:=by
  unfold padsOk at h
  simp only[Bool.and_eq_true,List.all_eq_true] at h
  intro p hp
  have:=hasP_iff.1 (h.1 p hp)
  omega
end Go.Proofs.YtkmjgabdaikomaaGreat.L
end
section
open Go Go.Ev
set_option maxRecDepth 100000
namespace Go.Proofs.YtkmjgabdaikomaaGreat.L
def stepB (near:List (BitVec 64)) (n:Nat) (s w:BitVec 64):BitVec 64:=reachB near n s &&& ~~~w
def mayB (near:List (BitVec 64)) (n:Nat):BitVec 64→List (BitVec 64)→List (BitVec 64)
  | s,[]=>[s]
  | s,w::ws=>s::mayB near n (stepB near n s w) ws
theorem l53 {l k:Nat} (hl:4≤l) {f:Fld} {near:List (BitVec 64)} (hn:f.eats.length≤near.length) (h8:near.length=8):∀(suf pre don:List (BitVec 64)) (s:BitVec 64) (m:Nat),suf.length<m→pre.length+suf.length<500000→don.length=pre.length →
    S53_1 (K l) k m (dH f near) (.sl ((pre++suf).map uB)) (dI ((pre++suf).map uB).length) (dI pre.length) ((don++[s]).map uB)=some (.sl ((don++mayB near f.eats.length s suf).map uB))
  | [],pre,don,s,0,hm,_,_=>by simp at hm
  | [],pre,don,s,m+1,_,_,_=>by
    rw[r53_1]
    unfold C53_1 B53_1
    simp only[bindO_some,elsD_sl,ifU_f,List.append_nil,lss_end2]
    rfl
  | x::suf,pre,don,s,0,hm,_,_=>by simp at hm
  | x::suf,pre,don,s,m+1,hm,hb,hd=>by
    rw[r53_1]
    unfold C53_1 B53_1
    simp only[List.length_cons] at hm hb
    have ih:=l53 (k:=k) hl (f:=f) hn h8 suf (pre++[x]) (don++[s]) (stepB near f.eats.length s x) m (by omega) (by simp; omega) (by simp [hd])
    simp only[List.append_assoc,List.cons_append,List.nil_append] at ih
    have g:(don++[s])[pre.length]?=some s:=by rw[← hd]; simp
    simp only[bindO_some,elsD_sl,chkK_t,leafD_v,ifU_t,at_map,lss_mid2]
    rw[at_get g,leafD_v,chkK_t,s78 hl hn h8,bindO_some,s79 (by omega),bindO_some,leafD_v,chkK_t,appD_lt (by simp; omega),bindO_some,succ_pre (a:=x) (sbig (by unfold big; omega)),bindO_some]
    have e:(don++[s]).map uB++[uB (reachB near f.eats.length s &&& ~~~x)]=(don++[s,stepB near f.eats.length s x]).map uB:=by simp [stepB]
    rw[e,ih]
    rfl
theorem s53 {l:Nat} (hl:5≤l) {f:Fld} {near:List (BitVec 64)} (hn:f.eats.length≤near.length) (h8:near.length=8) (hst:f.start.length<1000∧∀ p ∈ f.start,0≤p∧p<64) {ws:List (BitVec 64)} (hw:ws.length<1000) :
    pcD P (K l) 53 [dH f near,.sl (ws.map uB)]=some (.sl ((mayB near f.eats.length (setB f.start) ws).map uB)):=by
  obtain⟨l,rfl⟩:=lev hl
  refine pcD_n ?_ (by kernel_rfl)
  rw[c53]
  unfold C53_0 B53_0
  have e3:(List.drop 3 (hC f near))[0]?=some (dL f.start):=rfl
  rw[nilA_ref,derefD_ref,bindO_some,e3,bindO_some,s76 (by omega) hst.1 hst.2,bindO_some,leafD_v,chkK_t,elsD_sl,bindO_some,lenD_eq]
  exact l53 (l:=l+4) (k:=19999) (by omega) (f:=f) hn h8 ws [] [] (setB f.start) 19999 (by omega) (by show 0+_<500000; omega) rfl
theorem mayB_len {near:List (BitVec 64)} {n:Nat}:∀(ws:List (BitVec 64)) (s:BitVec 64),(mayB near n s ws).length=ws.length+1
  | [],s=>rfl
  | w::ws,s=>by simp [mayB,mayB_len ws]
theorem near_len (f:Fld):(nearOf f).length=8:=by
  unfold nearOf
  have h1:∀(l:List Nat) (near:List (BitVec 64)),(l.foldl iStep near).length=near.length:=by
    intro l
    induction l with
    | nil=>intro near; rfl
    | cons a l ih=>intro near; rw[List.foldl_cons,ih]; simp [iStep]
  have h2:∀(l:List Join) (near:List (BitVec 64)),(l.foldl jStep near).length=near.length:=by
    intro l
    induction l with
    | nil=>intro near; rfl
    | cons a l ih=>intro near; rw[List.foldl_cons,ih]; simp [jStep]
  rw[h2,h1]; simp
end Go.Proofs.YtkmjgabdaikomaaGreat.L
end
section
open Go Go.Ev
set_option maxRecDepth 100000
namespace Go.Proofs.YtkmjgabdaikomaaGreat.L
theorem l32 {l k:Nat} {n:Int}:∀(suf pre:List Int) (m:Nat),suf.length<m→pre.length+suf.length<big →
    S32_1 (K l) k m (dL (pre++suf)) (dI n) (dI pre.length)=some (dB (suf.any fun x=>decide (x=n)))
  | [],pre,0,hm,_=>by simp at hm
  | [],pre,m+1,_,_=>by
    rw[r32_1]
    unfold C32_1 B32_1
    simp only[bindO_some,elsD_sl,ifU_f,lenD_eq,List.append_nil,lss_end2]
    rfl
  | x::suf,pre,0,hm,_=>by simp at hm
  | x::suf,pre,m+1,hm,hb=>by
    rw[r32_1]
    unfold C32_1 B32_1
    simp only[List.length_cons] at hm hb
    have ih:=l32 (l:=l) (k:=k) (n:=n) suf (pre++[x]) m (by omega) (by simp; omega)
    simp only[List.append_assoc,List.cons_append,List.nil_append] at ih
    simp only[bindO_some,elsD_sl,chkK_t,leafD_v,if_true,binD_eql,lenD_eq,at_map,lss_mid2,ifU_c,succ_pre (a:=x) (sbig (show pre.length<big by omega))]
    rw[ih]
    by_cases h:x=n <;> simp [h]
def hasL (l:List Int) (n:Int):Bool:=l.any fun x=>decide (x=n)
theorem s32 {l:Nat} (hl:1≤l) {xs:List Int} {n:Int} (hx:xs.length<1000):pcD P (K l) 32 [dL xs,dI n]=some (dB (hasL xs n)):=by
  obtain⟨l,rfl⟩:=lev hl
  refine pcD_b ?_
  rw[c32]
  unfold C32_0 B32_0
  exact l32 (l:=l) (k:=19999) (n:=n) xs [] 19999 (by omega) (by show 0+_<big; unfold big; omega)
def joinB (a b:Int) (j:Join):Bool:=(decide (j.a=a) && decide (j.b=b)) || (decide (j.a=b) && decide (j.b=a))
def goesB (f:Fld) (p q:Int):Bool:=decide (p=q) || f.g.joins.any (joinB p q)
def afterL (f:Fld) (bef week:List Int) (i r:Nat):List Int:=((List.range' i r).filter (fun p:Nat=>(bef.any fun q=>goesB f q p) && !hasL week p)).map (fun p:Nat=>(p:Int))
def mayL (f:Fld):List Int→List (List Int)→List (List Int)
  | b,[]=>[b]
  | b,w::ws=>b::mayL f (afterL f b w 0 f.g.pads.length) ws
theorem after_len {f:Fld} {b w:List Int} (i r:Nat):(afterL f b w i r).length≤r:=by
  unfold afterL
  rw[List.length_map]
  exact Nat.le_trans (List.length_filter_le _ _) (by simp)
end Go.Proofs.YtkmjgabdaikomaaGreat.L
end
section
open Go Go.Ev
set_option maxRecDepth 100000
namespace Go.Proofs.YtkmjgabdaikomaaGreat.L
theorem two_bit {p i:Nat} (hi:i<64):(BitVec.twoPow 64 p).getLsbD i=decide (p=i):=by
  rw[BitVec.getLsbD_twoPow]
  simp []
  omega
theorem orB_bit {i:Nat} (hi:i<64):∀(ps:List Nat) (s:BitVec 64),(orB s ps).getLsbD i=(s.getLsbD i || ps.any fun p=>decide (p=i))
  | [],s=>by simp [orB]
  | p::ps,s=>by
    have ih:=orB_bit hi ps (s ||| BitVec.twoPow 64 p)
    unfold orB at ih ⊢
    rw[List.foldl_cons,ih,BitVec.getLsbD_or,two_bit hi,List.any_cons,Bool.or_assoc]
theorem setB_bit {i:Nat} (hi:i<64) (l:List Int):(setB l).getLsbD i=l.any fun x=>decide (x.toNat=i):=by
  have key:∀(l:List Int) (s:BitVec 64),(l.foldl (fun s p=>s ||| BitVec.twoPow 64 p.toNat) s).getLsbD i=(s.getLsbD i || l.any fun x=>decide (x.toNat=i)):=by
    intro l
    induction l with
    | nil=>intro s; simp
    | cons x l ih=>intro s; rw[List.foldl_cons,ih,BitVec.getLsbD_or,two_bit hi,List.any_cons,Bool.or_assoc]
  unfold setB
  rw[key]; simp
theorem meets_iff {a b:BitVec 64}:meets a b=true↔∃ i,i<64∧a.getLsbD i=true∧b.getLsbD i=true:=by
  unfold meets
  simp only[Bool.not_eq_true',decide_eq_false_iff_not]
  constructor
  · intro h
    refine Classical.byContradiction fun hn=>h ?_
    apply BitVec.eq_of_getLsbD_eq
    intro i hi
    rw[BitVec.getLsbD_and]
    cases h1:a.getLsbD i <;> cases h2:b.getLsbD i <;> simp
    exact hn ⟨i,hi,h1,h2⟩
  · rintro ⟨i, hi, h1, h2⟩ h
    have:=congrArg (fun c=>BitVec.getLsbD c i) h
    simp [h1,h2] at this
theorem setB_has {l:List Int} (hl:∀ x ∈ l,0≤x∧x<64) {i:Nat} (hi:i<64):(setB l).getLsbD i=hasL l i:=by
  rw[setB_bit hi]
  unfold hasL
  rw[Bool.eq_iff_iff,List.any_eq_true,List.any_eq_true]
  constructor
  · rintro ⟨x, hx, h⟩
    exact⟨x,hx,by have:=hl x hx; simp at h ⊢; omega⟩
  · rintro ⟨x, hx, h⟩
    exact⟨x,hx,by simp at h ⊢; omega⟩
theorem padsB_mem {s:BitVec 64} {q:Int}:q ∈ padsB s↔0≤q∧q<8∧s.getLsbD q.toNat=true:=by
  unfold padsB
  simp only[List.mem_map,List.mem_filter,List.mem_range'_1]
  constructor
  · rintro ⟨p, ⟨h1, h2⟩, rfl⟩
    refine⟨by omega,by omega,by simpa using h2⟩
  · rintro ⟨h1, h2, h3⟩
    exact⟨q.toNat,⟨by omega,h3⟩,by omega⟩
theorem iStep_bit:∀(r i:Nat) (near:List (BitVec 64)),near.length=8→i+r≤8→∀ p,p<8→((List.range' i r).foldl iStep near).getD p 0#64=if i≤p∧p<i+r then BitVec.twoPow 64 p else near.getD p 0#64
  | 0,i,near,h8,hr,p,hp=>by simp; omega
  | r+1,i,near,h8,hr,p,hp=>by
    rw[List.range'_succ,List.foldl_cons,iStep_bit r (i+1) (iStep near i) (by simp [iStep,h8]) (by omega) p hp]
    by_cases h1:i+1≤p∧p<i+1+r
    · rw[if_pos h1,if_pos (by omega)]
    · rw [if_neg h1]
      unfold iStep
      rw[List.getD_eq_getElem?_getD,List.getElem?_set]
      by_cases h2:i=p
      · subst h2
        rw[if_pos rfl,if_pos (by omega),if_pos (by omega)]
        rfl
      · rw[if_neg h2,if_neg (by omega),← List.getD_eq_getElem?_getD]
theorem jStep_bit {near:List (BitVec 64)} (h8:near.length=8) {j:Join} (ha:0≤j.a∧j.a<8) (hb:0≤j.b∧j.b<8) {p q:Nat} (hp:p<8) (hq:q<64) :
    ((jStep near j).getD p 0#64).getLsbD q=((near.getD p 0#64).getLsbD q || joinB p q j):=by
  unfold jStep
  simp only
  have hs:∀(l:List (BitVec 64)) (i:Nat) (v:BitVec 64),l.length=8→i<8→(l.set i v).getD p 0#64=if i=p then v else l.getD p 0#64:=by
    intro l i v hl hi
    rw[List.getD_eq_getElem?_getD,List.getElem?_set]
    by_cases h:i=p
    · subst h; rw[if_pos rfl,if_pos (by omega),if_pos rfl]; rfl
    · rw[if_neg h,if_neg h,← List.getD_eq_getElem?_getD]
  have hs2:∀(l:List (BitVec 64)) (i k:Nat) (v:BitVec 64),l.length=8→i<8→(l.set i v).getD k 0#64=if i=k then v else l.getD k 0#64:=by
    intro l i k v hl hi
    rw[List.getD_eq_getElem?_getD,List.getElem?_set]
    by_cases h:i=k
    · subst h; rw[if_pos rfl,if_pos (by omega),if_pos rfl]; rfl
    · rw[if_neg h,if_neg h,← List.getD_eq_getElem?_getD]
  rw[hs _ _ _ (by simp [h8]) (by omega),hs2 _ _ j.b.toNat _ h8 (by omega),hs _ _ _ h8 (by omega)]
  have e1:decide (j.a=(p:Int))=decide (j.a.toNat=p):=by
    rw[decide_eq_decide]; omega
  have e2:decide (j.b=(q:Int))=decide (j.b.toNat=q):=by
    rw[decide_eq_decide]; omega
  have e3:decide (j.a=(q:Int))=decide (j.a.toNat=q):=by
    rw[decide_eq_decide]; omega
  have e4:decide (j.b=(p:Int))=decide (j.b.toNat=p):=by
    rw[decide_eq_decide]; omega
  unfold joinB
  rw[e1,e2,e3,e4]
  by_cases ha':j.a.toNat=p <;> by_cases hb':j.b.toNat=p
  · have : j.a.toNat = j.b.toNat := by omega
    simp [ha',hb',two_bit hq]
  · simp [ha',hb',two_bit hq]
  · have : ¬ j.a.toNat = j.b.toNat := by omega
    simp [ha',hb',two_bit hq]
  · simp [ha',hb']
theorem near_bit {f:Fld} (hj:∀ j ∈ f.g.joins,(0≤j.a∧j.a<8)∧0≤j.b∧j.b<8) (hn:f.eats.length≤8) {p q:Nat} (hp:p<f.eats.length) (hq:q<64):((nearOf f).getD p 0#64).getLsbD q=goesB f p q:=by
  have key:∀(js:List Join) (near:List (BitVec 64)),near.length=8→(∀ j ∈ js,(0≤j.a∧j.a<8)∧0≤j.b∧j.b<8)→((js.foldl jStep near).getD p 0#64).getLsbD q=((near.getD p 0#64).getLsbD q || js.any (joinB p q)):=by
    intro js
    induction js with
    | nil=>intro near _ _; simp
    | cons j js ih=>
      intro near h8 h
      rw[List.foldl_cons,ih (jStep near j) (by simp [jStep,h8]) (fun x hx=>h x (by simp [hx])),jStep_bit h8 (h j (by simp)).1 (h j (by simp)).2 (by omega) hq,List.any_cons,Bool.or_assoc]
  have hil:((List.range' 0 f.eats.length).foldl iStep (List.replicate 8 0#64)).length=8:=by
    have h1:∀(l:List Nat) (near:List (BitVec 64)),(l.foldl iStep near).length=near.length:=by
      intro l
      induction l with
      | nil=>intro near; rfl
      | cons a l ih=>intro near; rw[List.foldl_cons,ih]; simp [iStep]
    rw[h1]; simp
  unfold nearOf
  rw[key _ _ hil hj,iStep_bit _ _ _ (by simp) (by omega) p (by omega),if_pos (by omega),two_bit hq]
  unfold goesB
  congr 1
  rw[decide_eq_decide]; omega
theorem goes_sym {f:Fld} (p q:Int):goesB f p q=goesB f q p:=by
  unfold goesB
  congr 1
  · rw[decide_eq_decide]; constructor <;> exact fun h=>h.symm
  · congr 1
    funext j
    unfold joinB
    rw[Bool.or_comm]
theorem step_eq {f:Fld} (h0:fErr f=0) {s:BitVec 64} (hs:∀ i,i<64→s.getLsbD i=true→i<f.g.pads.length) {w:List Int} (hw:padsOk f.g.pads.length w=true) :
    padsB (stepB (nearOf f) f.eats.length s (setB w))=afterL f (padsB s) w 0 f.g.pads.length∧∀ i,i<64→(stepB (nearOf f) f.eats.length s (setB w)).getLsbD i=true→i<f.g.pads.length:=by
  obtain⟨h8,hne,he,hst,hj⟩:=ok_of h0
  have hj':∀ j ∈ f.g.joins,(0≤j.a∧j.a<8)∧0≤j.b∧j.b<8:=fun j hjm=>by
    have:=hj j hjm
    rw[hasP_iff,hasP_iff] at this
    omega
  have hwl:=padsOk_lt h8 hw
  have bit:∀ i,i<64→(stepB (nearOf f) f.eats.length s (setB w)).getLsbD i=(decide (i<f.g.pads.length) && (((padsB s).any fun q=>goesB f q i) && !hasL w i)):=by
    intro i hi
    unfold stepB
    rw[BitVec.getLsbD_and,BitVec.getLsbD_not,setB_has (fun x hx=>by have:=hwl x hx; omega) hi]
    have hr:(reachB (nearOf f) f.eats.length s).getLsbD i=(decide (i<f.g.pads.length) && ((padsB s).any fun q=>goesB f q i)):=by
      unfold reachB
      rw[orB_bit hi]
      rw[Bool.eq_iff_iff]
      simp only[BitVec.getLsbD_zero,Bool.false_or,List.any_eq_true,List.mem_filter,List.mem_range'_1,Bool.and_eq_true,decide_eq_true_eq]
      constructor
      · rintro ⟨p, ⟨hp, hpn⟩, rfl⟩
        refine⟨by omega,?_⟩
        unfold nextB at hpn
        obtain⟨q,hq,b1,b2⟩:=meets_iff.1 hpn
        rw[near_bit hj' (by omega) (by omega) hq] at b1
        have:=hs q hq b2
        exact⟨(q:Int),padsB_mem.2 ⟨by omega,by omega,by simpa using b2⟩,by rw[goes_sym]; exact b1⟩
      · rintro ⟨hin, q, hq, hg⟩
        obtain⟨q1,q2,q3⟩:=padsB_mem.1 hq
        refine⟨i,⟨by omega,?_⟩,rfl⟩
        unfold nextB
        refine meets_iff.2 ⟨q.toNat,by omega,?_,q3⟩
        rw[near_bit hj' (by omega) (by omega) (by omega),goes_sym]
        have:((q.toNat:Nat):Int)=q:=by omega
        rw[this]; exact hg
    rw[hr]
    cases decide (i<f.g.pads.length) <;> cases ((padsB s).any fun q=>goesB f q i) <;> cases hasL w i <;> simp [hi]
  refine⟨?_,fun i hi h=>?_⟩
  · conv => lhs; unfold padsB
    have hsplit:List.range' 0 8=List.range' 0 f.g.pads.length++List.range' f.g.pads.length (8-f.g.pads.length):=by
      have:=List.range'_append (s:=0) (m:=f.g.pads.length) (n:=8-f.g.pads.length) (step:=1)
      simp only[Nat.one_mul,Nat.zero_add] at this
      rw[this]
      congr 1
      omega
    rw[hsplit,List.filter_append]
    have hnil:(List.range' f.g.pads.length (8-f.g.pads.length)).filter (fun p=>(stepB (nearOf f) f.eats.length s (setB w)).getLsbD p)=[]:=by
      rw[List.filter_eq_nil_iff]
      intro p hp
      rw[List.mem_range'_1] at hp
      rw[bit p (by omega)]
      have:decide (p<f.g.pads.length)=false:=by simp; omega
      simp [this]
    rw[hnil,List.append_nil]
    unfold afterL
    congr 1
    apply List.filter_congr
    intro p hp
    rw[List.mem_range'_1] at hp
    rw[bit p (by omega)]
    have:decide (p<f.g.pads.length)=true:=by simp; omega
    rw[this,Bool.true_and]
  · rw [bit i hi] at h
    simp only[Bool.and_eq_true,decide_eq_true_eq] at h
    exact h.1
theorem padsB_setB {n:Nat} (hn:n≤8) {l:List Int} (h:padsOk n l=true):padsB (setB l)=l:=by
  have hlt:=padsOk_lt hn h
  have hp:padsB (setB l)=((List.range' 0 8).filter (fun p:Nat=>hasL l p)).map (fun p:Nat=>(p:Int)):=by
    unfold padsB
    congr 1
    apply List.filter_congr
    intro p hp
    rw[List.mem_range'_1] at hp
    exact setB_has (fun x hx=>by have:=hlt x hx; omega) (by omega)
  rw[hp]
  have hr:rises l=true:=by
    unfold padsOk at h
    simp only[Bool.and_eq_true] at h
    exact h.2
  have key:∀(l:List Int) (i r:Nat),rises l=true→(∀ x ∈ l,(i:Int)≤x∧x<i+r)→((List.range' i r).filter (fun p:Nat=>hasL l p)).map (fun p:Nat=>(p:Int))=l:=by
    intro l i r
    induction r generalizing l i with
    | zero=>
      intro _ hx
      cases l with
      | nil=>rfl
      | cons x l=>have:=hx x (by simp); omega
    | succ r ih=>
      intro hr hx
      rw[List.range'_succ,List.filter_cons]
      cases l with
      | nil=>
        have e:hasL [] (i:Int)=false:=rfl
        rw[e]
        exact ih [] (i+1) rfl (by simp)
      | cons x l=>
        have hmono:∀(l:List Int) (x:Int),rises (x::l)=true→∀ y ∈ l,x<y:=by
          intro l
          induction l with
          | nil=>intro x _ y hy; cases hy
          | cons a l ih2=>
            intro x h y hy
            simp only[rises,Bool.and_eq_true,decide_eq_true_eq] at h
            rcases List.mem_cons.1 hy with rfl | hy
            · exact h.1
            · have:=ih2 a h.2 y hy; omega
        have hm:=hmono l x hr
        have hrl:rises l=true:=by
          cases l with
          | nil=>rfl
          | cons a l=>simp only[rises,Bool.and_eq_true] at hr; exact hr.2
        by_cases hxi:x=i
        · subst hxi
          have e:hasL ((i:Int)::l) (i:Int)=true:=by unfold hasL; simp
          rw[if_pos e,List.map_cons]
          congr 1
          have ih':=ih l (i+1) hrl (fun y hy=>by have h1:=hm y hy; have h2:=hx y (by simp [hy]); omega)
          rw[← ih']
          rw[ih']
          refine Eq.trans ?_ ih'
          congr 1
          apply List.filter_congr
          intro p hp
          rw[List.mem_range'_1] at hp
          unfold hasL
          rw[List.any_cons]
          have:decide ((i:Int)=(p:Int))=false:=by simp; omega
          rw[this,Bool.false_or]
        · have e : hasL (x :: l) (i : Int) = false := by
            unfold hasL
            rw[List.any_eq_false]
            intro y hy
            rcases List.mem_cons.1 hy with rfl | hy
            · simpa using hxi
            · have h1:=hm y hy; have h2:=hx x (by simp); simp; omega
          rw[if_neg (by simp [e])]
          exact ih (x::l) (i+1) hr (fun y hy=>by
            have h2:=hx y hy
            have h3:=hx x (by simp)
            rcases List.mem_cons.1 hy with rfl | hy'
            · omega
            · have:=hm y hy'; omega)
  exact key l 0 8 hr (fun x hx=>by have:=hlt x hx; omega)
theorem may_eq {f:Fld} (h0:fErr f=0):∀(plan:List (List Int)) (s:BitVec 64),(∀ i,i<64→s.getLsbD i=true→i<f.g.pads.length)→plan.all (padsOk f.g.pads.length)=true →
    (mayB (nearOf f) f.eats.length s (plan.map setB)).map padsB=mayL f (padsB s) plan
  | [],s,_,_=>rfl
  | w::plan,s,hs,hp=>by
    simp only[List.all_cons,Bool.and_eq_true] at hp
    obtain⟨e1,e2⟩:=step_eq h0 hs hp.1
    rw[List.map_cons]
    unfold mayB mayL
    rw[List.map_cons,may_eq h0 plan _ e2 hp.2,e1]
theorem may_same {f:Fld} {plan:List (List Int)} (h:aErr f plan=0):(mayB (nearOf f) f.eats.length (setB f.start) (plan.map setB)).map padsB=mayL f f.start plan:=by
  unfold aErr at h
  split at h
  · rename_i h0
    obtain⟨h8,hne,he,hst,hj⟩:=ok_of h0
    unfold pErr at h
    split at h
    · cases h
    · split at h
      · rename_i hall
        have hlt:=padsOk_lt h8 hst
        rw[may_eq h0 plan (setB f.start) (fun i hi hb=>by
          rw[setB_has (fun x hx=>by have:=hlt x hx; omega) hi] at hb
          unfold hasL at hb
          rw[List.any_eq_true] at hb
          obtain⟨x,hx,e⟩:=hb
          have hx2:padsOk f.g.pads.length f.start=true:=hst
          unfold padsOk at hx2
          simp only[Bool.and_eq_true,List.all_eq_true] at hx2
          have:=hasP_iff.1 (hx2.1 x hx)
          simp at e; omega) hall,padsB_setB h8 hst]
      · cases h
  · rename_i h0; exact absurd h h0
end Go.Proofs.YtkmjgabdaikomaaGreat.L
end
section
open Go Go.Ev
set_option maxRecDepth 100000
namespace Go.Proofs.YtkmjgabdaikomaaGreat.L
theorem sAwake:pcD P (K 39) 14 []=some (dB true):=pcD_b (pcR_man (l:=38) (f:=14) (p:=fun ds=>match ds with | []=>some (.v (.bool true)) | _=>none) (by rfl))
def toPad (x:Int × (Int × Unit)):Pad:=⟨x.1,x.2.1⟩
def toJoin (x:Int × (Int × Unit)):Join:=⟨x.1,x.2.1⟩
def toKd (x:Int × ((Int × (Int × Unit)) × ((Int × (Int × Unit)) × Unit))):Kd:=⟨x.1,x.2.1.1,x.2.1.2.1,x.2.2.1.1,x.2.2.1.2.1⟩
end Go.Proofs.YtkmjgabdaikomaaGreat.L
end
section
open Go Go.Ev
set_option maxRecDepth 1000000
namespace Go.Proofs.YtkmjgabdaikomaaGreat.L
noncomputable def alt:Alt:=⟨G.A,G.tab.get,fun f=>Nat.beq f 14⟩
theorem awake_run:Go.Ev.runT ((calE G.P G.A (G.KK+1) G.tab.get (38+1)).call 14 [] .nil 0)=true:=by kernel_rfl
theorem tab_ok:TblOk P alt.A 20000 alt.tab:=G.tab_ok
theorem awake_res:noRes P 14=false:=by kernel_rfl
theorem awake_flat:flatF P 14=true:=by kernel_rfl
theorem none_spec {b:Bool} {call:List Value→Hp→Nat→Res}:PSpec b call (fun _=>none):=by
  intro ds d F H n vs e hx hF hv
  cases e
theorem manOk:ManOk P alt 20000 man where
  no l f h:=by
    have h:Nat.beq f 14=true:=h
    unfold man
    rw[h]
    cases Nat.beq l 39 <;> simp
  res f h:=by
    have:f=14:=Nat.eq_of_beq_eq_true h
    subst this
    exact awake_res
  yes l f p h:=by
    unfold man at h
    cases hf:Nat.beq f 14 with
    | false=>rw[hf] at h; cases h
    | true=>
      have:f=14:=Nat.eq_of_beq_eq_true hf
      subst this
      rw[hf] at h
      cases hl:Nat.beq l 39 with
      | false=>
        rw[hl] at h
        cases h
        exact none_spec
      | true=>
        have:l=39:=Nat.eq_of_beq_eq_true hl
        subst this
        rw[hl] at h
        cases h
        exact man_run awake_flat ((congrArg Go.Ev.runT (calR_alt (q:=alt) (f:=14) rfl)).trans awake_run)
end Go.Proofs.YtkmjgabdaikomaaGreat.L
end
section
open Go Go.Ev
set_option maxRecDepth 100000
namespace Go.Proofs.YtkmjgabdaikomaaGreat.L
noncomputable abbrev dU (_:Unit):D:=.v (.slice none 0 0)
noncomputable abbrev dUU (us:List Unit):D:=.sl (us.map dU)
def zU (_:Unit):BitVec 64:=0#64
theorem elsU {x:Unit}:elsD (dU x)=some []:=rfl
theorem l76u {l k m:Nat} {s:BitVec 64} {x:Unit}:S76_1 (K l) k (m+1) (uB s) (dU x) (dI (0:Nat)) (dI (0:Nat))=some (uB s):=by
  rw[r76_1]
  unfold C76_1 B76_1
  simp only[bindO_some,elsD_nil]
  rfl
theorem u76 {l:Nat} (hl:1≤l) {x:Unit}:pcD P (K l) 76 [dU x]=some (uB (zU x)):=by
  obtain⟨l,rfl⟩:=lev hl
  refine pcD_b ?_
  rw[c76]
  unfold C76_0 B76_0
  rw[elsU,bindO_some,lenD_eq]
  exact l76u (l:=l) (k:=19999) (m:=19998) (s:=0#64)
theorem u72 {l:Nat} (hl:1≤l) {g:FuncId} {a b:List D} {x:Unit}:pcD P (K l) 72 [dU x,.fn g a b]=some (dB true):=by
  obtain⟨l,rfl⟩:=lev hl
  refine pcD_b ?_
  rw[c72]
  unfold C72_0 B72_0
  rw[elsU,bindO_some,lenD_eq]
  rw[show(19999:Nat)=19998+1 from rfl]
  have:∀ k m,S72_1 (K l) k (m+1) (.fn g a b) (dU x) (dI ([]:List D).length) (dI 0)=some (dB true):=by
    intro k m
    rw[r72_1]
    unfold C72_1 B72_1
    rfl
  exact this _ _
theorem u96 {l:Nat} (hl:1≤l) {x:Unit}:pcD P (K l) 96 [dU x]=some (dB true):=by
  obtain⟨l,rfl⟩:=lev hl
  refine pcD_b ?_
  rw[c96]
  unfold C96_0 B96_0
  rfl
theorem u71 {l:Nat} (hl:3≤l) {f:Fld} {x:Unit}:pcD P (K l) 71 [dF f,dU x]=some (dB true):=by
  obtain⟨l,rfl⟩:=lev hl
  refine pcD_b ?_
  rw[c71]
  unfold C71_0 B71_0
  have e1:=u72 (l:=l+2) (by omega) (g:=86) (a:=[dF f]) (b:=[]) (x:=x)
  rw[aggD_agg,bindO_some,cut5,bindO_some,e1,bindO_some,ifU_t,u96 (l:=l+2) (by omega),bindO_some]
theorem l75u {l k:Nat} {g:FuncId} {a b:List D} {p:Unit→Bool}:∀(suf pre:List Unit) (m:Nat),suf.length<m→pre.length+suf.length<big→(∀ x ∈ suf,pcD P (K l) g (a++[dU x]++b)=some (dB (p x))) →
    S75_1 (K l) k m (.fn g a b) (.sl ((pre++suf).map dU)) (dI ((pre++suf).map dU).length) (dI pre.length)=some (dB (suf.all p))
  | [],pre,0,hm,_,_=>by simp at hm
  | [],pre,m+1,_,_,_=>by
    rw[r75_1]
    unfold C75_1 B75_1
    simp only[bindO_some,elsD_sl,fnK_fn,ifU_f,List.append_nil,lss_end2]
    rfl
  | x::suf,pre,0,hm,_,_=>by simp at hm
  | x::suf,pre,m+1,hm,hb,h=>by
    rw[r75_1]
    unfold C75_1 B75_1
    simp only[List.length_cons] at hm hb
    simp only[bindO_some,elsD_sl,fnK_fn,chkK_t,leafD_v,ifU_t,at_map,lss_mid2,succ_pre (a:=x) (sbig (show pre.length<big by omega))]
    have hx:=h x (by simp)
    simp only[List.append_assoc,List.cons_append,List.nil_append] at hx ⊢
    rw[hx,bindO_some,semD_not,bindO_some,ifU_c]
    have ih:=l75u (k:=k) suf (pre++[x]) m (by omega) (by simp; omega) (fun y hy=>h y (by simp [hy]))
    simp only[List.append_assoc,List.cons_append,List.nil_append] at ih
    rw[ih]
    cases hp:p x <;> simp [List.all_cons,hp]
theorem u75 {l:Nat} (hl:1≤l) {g:FuncId} {a b:List D} {p:Unit→Bool} {xs:List Unit} (hx:xs.length<1000) (h:∀ x ∈ xs,pcD P (K (l-1)) g (a++[dU x]++b)=some (dB (p x))):pcD P (K l) 75 [.sl (xs.map dU),.fn g a b]=some (dB (xs.all p)):=by
  obtain⟨l,rfl⟩:=lev hl
  refine pcD_b ?_
  rw[c75]
  unfold C75_0 B75_0
  simp only[elsD_sl,bindO_some,lenD_eq]
  simpa using l75u (l:=l) (k:=19999) xs [] 19999 (by omega) (by show 0+_<big; unfold big; omega) h
theorem l51u {l k:Nat} (hl:1≤l) {u:D}:∀(suf pre:List Unit) (m:Nat),suf.length<m→pre.length+suf.length<big →
    S51_1 (K l) k m u (dUU (pre++suf)) (dI ((pre++suf).map dU).length) (dI pre.length) ((pre.map zU).map uB++List.replicate suf.length (uB 0#64))=some (.tup [u,.sl (((pre++suf).map zU).map uB),dI 0])
  | [],pre,0,hm,_=>by simp at hm
  | [],pre,m+1,_,_=>by
    rw[r51_1]
    unfold C51_1 B51_1
    simp only[bindO_some,elsD_sl,ifU_f,List.append_nil,lss_end2,List.length_nil,List.replicate_zero]
  | x::suf,pre,0,hm,_=>by simp at hm
  | x::suf,pre,m+1,hm,hb=>by
    rw[r51_1]
    unfold C51_1 B51_1
    simp only[List.length_cons] at hm hb
    have ih:=l51u (k:=k) hl (u:=u) suf (pre++[x]) m (by omega) (by simp; omega)
    simp only[List.map_append,List.map_cons,List.map_nil,List.append_assoc,List.cons_append,List.nil_append] at ih
    have hg:((pre.map zU).map uB++List.replicate (suf.length+1) (uB 0#64))[pre.length]?=some (uB 0#64):=by
      rw[List.getElem?_append_right (by simp)]
      simp [List.replicate_succ]
    have hset:List.set ((pre.map zU).map uB++List.replicate (suf.length+1) (uB 0#64)) pre.length (uB (zU x))=(pre.map zU).map uB++uB (zU x)::List.replicate suf.length (uB 0#64):=by
      rw[List.set_append_right _ _ (by simp)]
      simp [List.replicate_succ]
    simp only[bindO_some,elsD_sl,chkK_t,leafD_v,ifU_t,at_map,lss_mid2,u76 (x:=x) hl,List.length_cons]
    rw[idxD_lt (by simp),bindO_some,hg,bindO_some,leafD_v,chkK_t,succ_pre (a:=x) (sbig (show pre.length<big by omega)),bindO_some,hset]
    simp only[List.map_append,List.map_cons]
    simpa using ih
theorem u51 {l:Nat} (hl:8≤l) {f:Fld} (hs:fSmall f) (h0:fErr f=0) {us:List Unit} (hp:us.length≤300):pcD P (K l) 51 [dF f,dUU us] =
    some (.tup [dH f (nearOf f),.sl ((us.map zU).map uB),dI 0]):=by
  obtain⟨l,rfl⟩:=lev hl
  refine pcD_n ?_ (by kernel_rfl)
  rw[c51]
  unfold C51_0 B51_0
  rw[aggD_agg,bindO_some,cut5,bindO_some,s65 (l:=l+7) (by omega) hs,bindO_some]
  obtain⟨h8,hne,he,_,hj⟩:=ok_of h0
  rw[if_pos h0]
  have t0:tupD (.tup [dH f (nearOf f),dI 0]) 0=some (dH f (nearOf f)):=rfl
  have t1:tupD (.tup [dH f (nearOf f),dI 0]) 1=some (dI 0):=rfl
  rw[t0,bindO_some,t1,bindO_some,binD_neq,bindO_some]
  have hz:(!decide ((0:Int)=0))=false:=rfl
  rw[hz,ifU_f,elsD_sl,bindO_some,lenD_eq,binD_gtr,bindO_some,ifU_dec]
  rw[if_neg (by simp; omega)]
  have hev:=u75 (l:=l+7) (by omega) (g:=71) (a:=[dF f]) (b:=[]) (p:=fun _=>true) (xs:=us) (by omega) (fun x hx'=>u71 (by omega))
  rw[nilA_ref,derefD_ref,bindO_some,cutH,bindO_some,hev,bindO_some,semD_not,bindO_some,ifU_c]
  have hall:us.all (fun _=>true)=true:=by simp
  rw[hall]
  have e:=l51u (l:=l+7) (k:=19999) (by omega) (u:=dH f (nearOf f)) us [] 19999 (by omega) (by show 0+_<big; unfold big; omega)
  simp only[List.nil_append,List.length_nil,List.map_nil] at e
  simp only[Bool.not_true,Bool.false_eq_true,if_false,bindO_some,lenD_eq,natD_nat,List.length_map]
  have hc:(Nat.ble us.length us.length && Nat.blt us.length 1048576)=true:=by simp; omega
  rw[hc,chkK_t]
  rw[List.length_map] at e
  exact e
theorem u17 {l:Nat} (hl:9≤l) {f:Fld} (hs:fSmall f) (h0:fErr f=0) {us:List Unit} (hp:us.length≤300):pcD P (K l) 17 [dF f,dUU us] =
    some (.tup [dLL (mayL f f.start (us.map fun _=>[])),dI 0]):=by
  obtain⟨l,rfl⟩:=lev hl
  refine pcD_n ?_ (by kernel_rfl)
  rw[c17]
  unfold C17_0 B17_0
  rw[aggD_agg,bindO_some,cut5,bindO_some,u51 (l:=l+8) (by omega) hs h0 hp,bindO_some]
  obtain⟨h8,hne,he,hst,hj⟩:=ok_of h0
  have t0:tupD (.tup [dH f (nearOf f),.sl ((us.map zU).map uB),dI 0]) 0=some (dH f (nearOf f)):=rfl
  have t1:tupD (.tup [dH f (nearOf f),.sl ((us.map zU).map uB),dI 0]) 1=some (.sl ((us.map zU).map uB)):=rfl
  have t2:tupD (.tup [dH f (nearOf f),.sl ((us.map zU).map uB),dI 0]) 2=some (dI 0):=rfl
  have hz:(!decide ((0:Int)=0))=false:=rfl
  rw[t0,bindO_some,t1,bindO_some,t2,bindO_some,binD_neq,bindO_some,hz,ifU_f]
  rw[s53 (l:=l+8) (by omega) (by rw[near_len]; omega) (near_len f) ⟨by have:=hs.2.1; omega,fun p hp'=>by have:=padsOk_lt h8 hst p hp'; omega⟩ (by simp; omega),bindO_some,s52 (l:=l+8) (by omega) (by rw[mayB_len]; simp; omega),bindO_some]
  have hz:us.map zU=(us.map fun _=>([]:List Int)).map setB:=by rw[List.map_map]; rfl
  have ha:aErr f (us.map fun _=>([]:List Int))=0:=by
    unfold aErr pErr
    rw[if_pos h0,if_neg (by simp; omega),if_pos]
    rw[List.all_eq_true]
    intro x hx
    simp only[List.mem_map] at hx
    obtain⟨_,_,rfl⟩:=hx
    rfl
  rw[hz,may_same ha]
end Go.Proofs.YtkmjgabdaikomaaGreat.L
end
section
open Go Go.Ev
set_option maxRecDepth 100000
namespace Go.Proofs.YtkmjgabdaikomaaGreat.L
theorem mm_min {ts:List TypeId} {c:Call} {t:TypeId} {x y:Int}:mmD P .min ts c t [dI x,dI y]=some (dI (if y<x then y else x)):=by
  unfold mmD
  rfl
theorem get_far {far:List Int} {a:Nat} (h:a<far.length):(far.map dI)[0+a * 1]?=some (dI (far.getD a 0)):=by
  rw[show 0+a * 1=a by omega,List.getElem?_map,List.getD_eq_getElem?_getD,List.getElem?_eq_getElem h]
  rfl
theorem set_far {far:List Int} {a:Nat} {x:Int}:List.set (far.map dI) (0+a * 1) (dI x)=(far.set a x).map dI:=by
  rw[show 0+a * 1=a by omega,← List.map_set]
theorem len_far {far:List Int} {a:Nat} (h:a<far.length):Nat.blt (0+a * 1) (far.map dI).length=true:=by
  simp; omega
def rx (far:List Int) (j:Join):List Int:=
  let x:=far.getD j.a.toNat 0
  let y:=far.getD j.b.toNat 0
  (far.set j.a.toNat (if y+1<x then y+1 else x)).set j.b.toNat (if x+1<y then x+1 else y)
def farOk (far:List Int):Prop:=far.length=8∧∀ i,0≤far.getD i 0∧far.getD i 0≤99
theorem getD_set {l:List Int} {i k:Nat} {x:Int} (h:i<l.length):(l.set i x).getD k 0=if i=k then x else l.getD k 0:=by
  rw[List.getD_eq_getElem?_getD,List.getElem?_set]
  by_cases e:i=k
  · subst e; simp [h]
  · simp [e,List.getD_eq_getElem?_getD]
theorem rx_ok {far:List Int} {j:Join} (h:farOk far) (ha:0≤j.a∧j.a<8) (hb:0≤j.b∧j.b<8):farOk (rx far j):=by
  refine⟨by simp [rx,h.1],fun i=>?_⟩
  have h8:=h.1
  unfold rx
  have h1:=h.2 i
  have h2:=h.2 j.a.toNat
  have h3:=h.2 j.b.toNat
  rw[getD_set (by simp; omega),getD_set (by omega)]
  split
  · split <;> omega
  · split
    · split <;> omega
    · omega
theorem l12_6 {l k m1:Nat} {b5:D→D→D→List D→List D→Option D} {u5 u6:D} {u:Nat} (hu:u<big) {c0:D} {c3:List D}:∀(suf pre:List Join) (far:List Int) (m:Nat),suf.length<m→pre.length+suf.length<big→farOk far→(∀ j ∈ suf,(0≤j.a∧j.a<8)∧0≤j.b∧j.b<8) →
    S12_6 (K l) k m1 b5 m u5 u6 (dI (u:Nat)) (dI pre.length) (c0::.sl ((pre++suf).map dJoin)::c3) (far.map dI)=b5 u5 u6 (dI ((u+1:Nat):Int)) (c0::.sl ((pre++suf).map dJoin)::c3) ((suf.foldl rx far).map dI)
  | [],pre,far,0,hm,_,_,_=>by simp at hm
  | [],pre,far,m+1,_,_,_,_=>by
    rw[r12_6]
    unfold C12_6 B12_6
    simp only[bindO_some,elsD_sl,ifU_f,lenD_eq,List.append_nil,getD1,lss_end2,binD_succ (sbig hu)]
    rfl
  | x::suf,pre,far,0,hm,_,_,_=>by simp at hm
  | x::suf,pre,far,m+1,hm,hb,h8,hj=>by
    rw[r12_6]
    unfold C12_6 B12_6
    simp only[List.length_cons] at hm hb
    obtain⟨ha,hbb⟩:=hj x (by simp)
    have ih:=l12_6 (l:=l) (k:=k) (m1:=m1) (b5:=b5) (u5:=u5) (u6:=u6) hu (c0:=c0) (c3:=c3) suf (pre++[x]) (rx far x) m (by omega) (by simp; omega) (rx_ok h8 ha hbb) (fun j hj'=>hj j (by simp [hj']))
    simp only[List.append_assoc,List.cons_append,List.nil_append] at ih
    have ea:dI x.a=.v (.int .i64 ((x.a.toNat:Nat):Int)):=by congr 2; omega
    have eb:dI x.b=.v (.int .i64 ((x.b.toNat:Nat):Int)):=by congr 2; omega
    have i8a:idxD (dI x.a) 8=some x.a.toNat:=by rw[ea]; exact idxD_lt (by omega)
    have i8b:idxD (dI x.b) 8=some x.b.toNat:=by rw[eb]; exact idxD_lt (by omega)
    have la:x.a.toNat<far.length:=by have:=h8.1; omega
    have lb:x.b.toNat<far.length:=by have:=h8.1; omega
    have fa:=h8.2 x.a.toNat
    have fb:=h8.2 x.b.toNat
    have p1:∀ {t:TypeId} {y z:Operand},binD P .add t y z (dI (far.getD x.b.toNat 0)) (dI 1)=some (dI (far.getD x.b.toNat 0+1)):=binD_add (by unfold I64; omega)
    have p2:∀ {t:TypeId} {y z:Operand},binD P .add t y z (dI (far.getD x.a.toNat 0)) (dI 1)=some (dI (far.getD x.a.toNat 0+1)):=binD_add (by unfold I64; omega)
    have lb':x.b.toNat<(far.set x.a.toNat (if far.getD x.b.toNat 0+1<far.getD x.a.toNat 0 then far.getD x.b.toNat 0+1 else far.getD x.a.toNat 0)).length:=by rw[List.length_set]; exact lb
    simp only[bindO_some,elsD_sl,aggD_agg,chkK_t,leafD_v,ifU_t,beq_refl,lenD_eq,getD0,getD1,cut2,spl2,len2,at_map,lss_mid2,i8a,i8b,get_far la,get_far lb,p1,p2,mm_min,set_far,len_far la,len_far lb',succ_pre (a:=x) (sbig (show pre.length<big by omega))]
    exact ih
end Go.Proofs.YtkmjgabdaikomaaGreat.L
end
section
open Go Go.Ev
set_option maxRecDepth 100000
namespace Go.Proofs.YtkmjgabdaikomaaGreat.L
def rnds (js:List Join):Nat→List Int→List Int
  | 0,far=>far
  | r+1,far=>rnds js r (js.foldl rx far)
def initF (f:Fld):Nat→Nat→List Int→List Int
  | _,0,far=>far
  | i,r+1,far=>initF f (i+1) r (far.set i (if hasL f.start i then 0 else 99))
theorem fold_ok {js:List Join}:∀ {far:List Int},farOk far→(∀ j ∈ js,(0≤j.a∧j.a<8)∧0≤j.b∧j.b<8)→farOk (js.foldl rx far):=by
  induction js with
  | nil=>intro far h _; exact h
  | cons j js ih=>intro far h hj; exact ih (rx_ok h (hj j (by simp)).1 (hj j (by simp)).2) (fun x hx=>hj x (by simp [hx]))
theorem l12_5 {l k:Nat} (hk:2000<k) {u5 u6:D} {c0:D} {c3:List D} {js:List Join} (hjl:js.length<1000) (hj:∀ j ∈ js,(0≤j.a∧j.a<8)∧0≤j.b∧j.b<8):∀(r i m:Nat) (far:List Int),i+r=8→r+1000<m→farOk far →
    S12_5 (K l) k m u5 u6 (dI (i:Nat)) (c0::.sl (js.map dJoin)::c3) (far.map dI)=S12_7 (K l) k k u5 u6 (dI 0) (c0::.sl (js.map dJoin)::c3) ((rnds js r far).map dI)
  | 0,i,0,far,_,hm,_=>by simp at hm
  | 0,i,m+1,far,hi,_,_=>by
    rw[r12_5]
    unfold C12_5 B12_5
    rw[binD_lss,bindO_some,ifU_dec,if_neg (by omega)]
    rfl
  | r+1,i,0,far,_,hm,_=>by simp at hm
  | r+1,i,m+1,far,hi,hm,h8=>by
    rw[r12_5]
    unfold C12_5 B12_5
    rw[binD_lss,bindO_some,ifU_dec,if_pos (by omega)]
    have e:=l12_6 (l:=l) (k:=k) (m1:=m+1) (b5:=S12_5 (K l) k m) (u5:=u5) (u6:=u6) (u:=i) (by unfold big; omega) (c0:=c0) (c3:=c3) js [] far (m+1) (by omega) (by show 0+_<big; unfold big; omega) h8 hj
    simp only[List.nil_append,List.length_nil] at e
    refine e.trans ?_
    exact l12_5 hk hjl hj r (i+1) m _ (by omega) (by omega) (fold_ok h8 hj)
theorem l12_3 {l k:Nat} (hl:1≤l) {u5 u6:D} {f:Fld} (hs:f.start.length<1000):∀(r i m:Nat) (far:List Int),i+r=8→r<m→far.length=8 →
    S12_3 (K l) k m u5 u6 (dI (i:Nat)) (fC f) (far.map dI)=S12_5 (K l) k k u5 u6 (dI 0) (fC f) ((initF f i r far).map dI)
  | 0,i,0,far,_,hm,_=>by simp at hm
  | 0,i,m+1,far,hi,_,_=>by
    rw[r12_3]
    unfold C12_3 B12_3
    rw[binD_lss,bindO_some,ifU_dec,if_neg (by omega)]
    rfl
  | r+1,i,0,far,_,hm,_=>by simp at hm
  | r+1,i,m+1,far,hi,hm,h8=>by
    rw[r12_3]
    unfold C12_3 B12_3
    have ih:=l12_3 (k:=k) hl (u5:=u5) (u6:=u6) hs r (i+1) m (far.set i (if hasL f.start i then 0 else 99)) (by omega) (by omega) (by simp [h8])
    rw[binD_lss,bindO_some,ifU_dec,if_pos (by omega),idxD_lt (by omega),bindO_some,len_far (by omega),chkK_t,getD3,bindO_some,s32 hl hs,bindO_some,ifU_c]
    have s1:List.set (far.map dI) (0+i * 1) (D.v (Value.int IntKind.i64 99))=(far.set i 99).map dI:=set_far
    have s2:List.set ((far.set i 99).map dI) (0+i * 1) (D.v (Value.int IntKind.i64 0))=((far.set i 99).set i 0).map dI:=set_far
    rw[s1,bindO_some,s2,len_far (by simp; omega),chkK_t,List.set_set]
    unfold C12_4 B12_4
    rw[binD_succ (by omega),bindO_some,bindO_some]
    cases h:hasL f.start i
    · simpa [initF,h] using ih
    · simpa [initF,h] using ih
theorem neq_bb {b:Bool} {x y:Operand}:binD P .neq 4 x y (dB b) (dB b)=some (dB false):=by cases b <;> kernel_rfl
theorem l12_7 {k:Nat} {f:Fld} (hn:f.g.pads.length≤8) {w:Nat} {Ls:List (List Int)} {lw:List Int} (hw:Ls[w]?=some lw) (hlw:lw.length<1000) {far:List Int} (h8:far.length=8):∀(r i m:Nat),i+r=f.g.pads.length→r<m →
    (∀ p,i≤p→p<i+r→hasL lw (p:Nat)=decide (far.getD p 0≤(w:Int))) →
    S12_7 (K 39) k m (dI (w:Nat)) (dLL Ls) (dI (i:Nat)) (fC f) (far.map dI)=some (dB true)
  | 0,i,0,_,hm,_=>by simp at hm
  | 0,i,m+1,hi,_,_=>by
    rw[r12_7]
    unfold C12_7 B12_7
    rw[getD0,bindO_some,elsD_sl,bindO_some,lenD_eq,binD_lss,bindO_some,ifU_dec,if_neg (by simp; omega),sAwake]
    rfl
  | r+1,i,0,_,hm,_=>by simp at hm
  | r+1,i,m+1,hi,hm,hp=>by
    rw[r12_7]
    unfold C12_7 B12_7
    have hwl:w<Ls.length:=by
      rcases Nat.lt_or_ge w Ls.length with h | h
      · exact h
      · rw[List.getElem?_eq_none h] at hw; cases hw
    have hg:(Ls.map dL)[w]?=some (dL lw):=by rw[List.getElem?_map,hw]; rfl
    have ih:=l12_7 (k:=k) hn hw hlw h8 r (i+1) m (by omega) (by omega) (fun p h1 h2=>hp p (by omega) (by omega))
    rw[getD0,bindO_some,elsD_sl,bindO_some,lenD_eq,binD_lss,bindO_some,ifU_dec,if_pos (by simp; omega),elsD_sl,bindO_some,idxD_lt (by simp; exact hwl),bindO_some,hg,bindO_some,leafD_sl,chkK_t,idxD_lt (by omega),bindO_some,get_far (by omega),bindO_some,binD_leq,bindO_some,s32 (by omega) hlw,bindO_some,hp i (by omega) (by omega),neq_bb,bindO_some,ifU_f,binD_succ (by omega),bindO_some]
    exact ih
end Go.Proofs.YtkmjgabdaikomaaGreat.L
end
section
open Go Go.Ev
set_option maxRecDepth 100000
namespace Go.Proofs.YtkmjgabdaikomaaGreat.L
def nxt (f:Fld) (b:List Int):List Int:=afterL f b [] 0 f.g.pads.length
def itF (f:Fld):Nat→List Int→List Int
  | 0,b=>b
  | n+1,b=>itF f n (nxt f b)
theorem itF_succ {f:Fld}:∀(n:Nat) (b:List Int),itF f (n+1) b=nxt f (itF f n b)
  | 0,b=>rfl
  | n+1,b=>by rw[itF,itF_succ n,← itF]
theorem may_get {f:Fld}:∀(us:List Unit) (b:List Int),(mayL f b (us.map fun _=>[]))[us.length]?=some (itF f us.length b)
  | [],b=>rfl
  | u::us,b=>by
    simp only[List.map_cons,mayL,List.length_cons,List.getElem?_cons_succ]
    exact may_get us _
theorem may_len {f:Fld}:∀(us:List Unit) (b:List Int),(mayL f b (us.map fun _=>[])).length=us.length+1
  | [],b=>rfl
  | u::us,b=>by simp only[List.map_cons,mayL,List.length_cons,may_len us]
abbrev R (f:Fld) (n:Nat):List Int:=itF f n f.start
theorem has_mem {l:List Int} {n:Int}:hasL l n=true↔n ∈ l:=by
  unfold hasL
  simp
theorem goes_iff {f:Fld} {p q:Int}:goesB f p q=true↔p=q∨∃ j ∈ f.g.joins,(j.a=p∧j.b=q)∨(j.a=q∧j.b=p):=by
  unfold goesB joinB
  simp
theorem mem_nxt {f:Fld} {b:List Int} {q:Int}:q ∈ nxt f b↔∃ p:Nat,p<f.g.pads.length∧(∃ x ∈ b,goesB f x p=true)∧(p:Int)=q:=by
  unfold nxt afterL
  have h0:∀ n:Int,hasL [] n=false:=fun _=>rfl
  simp only[List.mem_map,List.mem_filter,List.mem_range'_1,h0,Bool.not_false,Bool.and_true,List.any_eq_true]
  constructor
  · rintro ⟨p, ⟨⟨_, h1⟩, h2⟩, h3⟩
    exact⟨p,by omega,h2,h3⟩
  · rintro ⟨p, h1, h2, h3⟩
    exact⟨p,⟨⟨by omega,by omega⟩,h2⟩,h3⟩
theorem R_succ {f:Fld} {n:Nat} {q:Int}:q ∈ R f (n+1)↔∃ p:Nat,p<f.g.pads.length∧(∃ x ∈ R f n,goesB f x p=true)∧(p:Int)=q:=by
  unfold R
  rw[itF_succ]
  exact mem_nxt
theorem R_pads {f:Fld} (h0:fErr f=0):∀ n,∀ q ∈ R f n,0≤q∧q<f.g.pads.length
  | 0,q,h=>by
    obtain⟨h8,_,_,hst,_⟩:=ok_of h0
    unfold padsOk at hst
    simp only[Bool.and_eq_true,List.all_eq_true] at hst
    exact hasP_iff.1 (hst.1 q h)
  | n+1,q,h=>by
    obtain⟨p,h1,_,rfl⟩:=R_succ.1 h
    omega
theorem R_mono {f:Fld} (h0:fErr f=0) {n:Nat} {q:Int} (h:q ∈ R f n):q ∈ R f (n+1):=by
  have:=R_pads h0 n q h
  exact R_succ.2 ⟨q.toNat,by omega,⟨q,h,goes_iff.2 (.inl (by omega))⟩,by omega⟩
theorem R_le {f:Fld} (h0:fErr f=0) {q:Int}:∀ {n m:Nat},n≤m→q ∈ R f n→q ∈ R f m:=by
  intro n m h
  induction h with
  | refl=>exact id
  | step _ ih=>exact fun x=>R_mono h0 (ih x)
theorem R_join {f:Fld} (h0:fErr f=0) {n:Nat} {p q:Int} (h:p ∈ R f n) {j:Join} (hj:j ∈ f.g.joins) (e:(j.a=p∧j.b=q)∨(j.a=q∧j.b=p)):q ∈ R f (n+1):=by
  obtain⟨h8,_,_,_,hjs⟩:=ok_of h0
  obtain⟨x1,x2⟩:=hjs j hj
  have y1:=hasP_iff.1 x1
  have y2:=hasP_iff.1 x2
  have hq:0≤q∧q<f.g.pads.length:=by
    rcases e with⟨_,rfl⟩ | ⟨rfl,_⟩
    · exact y2
    · exact y1
  have eq':((q.toNat:Nat):Int)=q:=by omega
  refine R_succ.2 ⟨q.toNat,by omega,⟨p,h,goes_iff.2 (.inr ⟨j,hj,?_⟩)⟩,eq'⟩
  rw[eq']
  exact e
theorem rx_get {far:List Int} {j:Join} (h8:far.length=8) (ha:0≤j.a∧j.a<8) (hb:0≤j.b∧j.b<8) {p:Nat}:(rx far j).getD p 0 =
    if j.b.toNat=p then(if far.getD j.a.toNat 0+1<far.getD j.b.toNat 0 then far.getD j.a.toNat 0+1 else far.getD j.b.toNat 0)
    else if j.a.toNat=p then(if far.getD j.b.toNat 0+1<far.getD j.a.toNat 0 then far.getD j.b.toNat 0+1 else far.getD j.a.toNat 0) else far.getD p 0:=by
  unfold rx
  rw[getD_set (by simp; omega),getD_set (by omega)]
theorem rx_le {far:List Int} {j:Join} (h8:far.length=8) (ha:0≤j.a∧j.a<8) (hb:0≤j.b∧j.b<8) (p:Nat):(rx far j).getD p 0≤far.getD p 0:=by
  rw[rx_get h8 ha hb]
  split
  · rename_i e; subst e; split <;> omega
  · split
    · rename_i e; subst e; split <;> omega
    · omega
def jOk (js:List Join):Prop:=∀ j ∈ js,(0≤j.a∧j.a<8)∧0≤j.b∧j.b<8
theorem rx_len {far:List Int} {j:Join}:(rx far j).length=far.length:=by simp [rx]
theorem fold_le:∀(js:List Join) (far:List Int),jOk js→far.length=8→∀ p,(js.foldl rx far).getD p 0≤far.getD p 0
  | [],far,_,_,p=>Int.le_refl _
  | j::js,far,hj,h8,p=>by
    have h:=hj j (by simp)
    have:=fold_le js (rx far j) (fun x hx=>hj x (by simp [hx])) (by rw[rx_len]; exact h8) p
    have:=rx_le h8 h.1 h.2 p
    simp only[List.foldl_cons]
    omega
theorem fold_join:∀(js:List Join) (far:List Int),jOk js→far.length=8→∀ j ∈ js,(js.foldl rx far).getD j.b.toNat 0≤far.getD j.a.toNat 0+1∧(js.foldl rx far).getD j.a.toNat 0≤far.getD j.b.toNat 0+1
  | [],far,_,_,j,h=>by simp at h
  | i::js,far,hj,h8,j,h=>by
    have hi:=hj i (by simp)
    have hjs:jOk js:=fun x hx=>hj x (by simp [hx])
    have hl:(rx far i).length=8:=by rw[rx_len]; exact h8
    simp only[List.foldl_cons]
    rcases List.mem_cons.1 h with rfl | h
    · have l1 := fold_le js (rx far j) hjs hl j.b.toNat
      have l2:=fold_le js (rx far j) hjs hl j.a.toNat
      have g1:=rx_get h8 hi.1 hi.2 (p:=j.b.toNat)
      have g2:=rx_get h8 hi.1 hi.2 (p:=j.a.toNat)
      rw[if_pos rfl] at g1
      constructor
      · split at g1 <;> omega
      · split at g2
        · rename_i e
          rw[e] at g2 ⊢
          split at g2 <;> omega
        · rw [if_pos rfl] at g2
          split at g2 <;> omega
    · obtain ⟨k1, k2⟩ := fold_join js (rx far i) hjs hl j h
      have r1:=rx_le h8 hi.1 hi.2 j.a.toNat
      have r2:=rx_le h8 hi.1 hi.2 j.b.toNat
      omega
end Go.Proofs.YtkmjgabdaikomaaGreat.L
end
section
open Go Go.Ev
set_option maxRecDepth 100000
namespace Go.Proofs.YtkmjgabdaikomaaGreat.L
def Snd (f:Fld) (far:List Int):Prop:=∀ p w:Nat,p<8→w≤98→far.getD p 0≤(w:Int)→(p:Int) ∈ R f w
def Cmp (f:Fld) (t:Nat) (far:List Int):Prop:=∀ p n:Nat,p<8→n≤t→(p:Int) ∈ R f n→far.getD p 0≤(n:Int)
theorem jOk_of {f:Fld} (h0:fErr f=0):jOk f.g.joins:=by
  obtain⟨h8,_,_,_,hj⟩:=ok_of h0
  intro j h
  have h1:=hasP_iff.1 (hj j h).1
  have h2:=hasP_iff.1 (hj j h).2
  omega
theorem rx_snd {f:Fld} (h0:fErr f=0) {far:List Int} (hf:farOk far) {j:Join} (hj:j ∈ f.g.joins) (h:Snd f far):Snd f (rx far j):=by
  intro p w hp hw e
  obtain⟨ha,hb⟩:=jOk_of h0 j hj
  have fa:=hf.2 j.a.toNat
  have fb:=hf.2 j.b.toNat
  have ea:((j.a.toNat:Nat):Int)=j.a:=by omega
  have eb:((j.b.toNat:Nat):Int)=j.b:=by omega
  rw[rx_get hf.1 ha hb] at e
  split at e
  · rename_i q
    subst q
    split at e
    · obtain ⟨v, rfl⟩ : ∃ v, w = v + 1 := ⟨w - 1, by omega⟩
      have:=h j.a.toNat v (by omega) (by omega) (by omega)
      rw[ea] at this
      rw[eb]
      exact R_join h0 this hj (.inl ⟨rfl,rfl⟩)
    · exact h _ w hp hw e
  · split at e
    · rename_i q
      subst q
      split at e
      · obtain ⟨v, rfl⟩ : ∃ v, w = v + 1 := ⟨w - 1, by omega⟩
        have:=h j.b.toNat v (by omega) (by omega) (by omega)
        rw[eb] at this
        rw[ea]
        exact R_join h0 this hj (.inr ⟨rfl,rfl⟩)
      · exact h _ w hp hw e
    · exact h _ w hp hw e
theorem fold_snd {f:Fld} (h0:fErr f=0):∀(js:List Join) (far:List Int),(∀ j ∈ js,j ∈ f.g.joins)→farOk far→Snd f far→Snd f (js.foldl rx far)∧farOk (js.foldl rx far)
  | [],far,_,h1,h2=>⟨h2,h1⟩
  | j::js,far,hj,h1,h2=>by
    have hm:=hj j (by simp)
    have ok:=jOk_of h0 j hm
    exact fold_snd h0 js (rx far j) (fun x hx=>hj x (by simp [hx])) (rx_ok h1 ok.1 ok.2) (rx_snd h0 h1 hm h2)
theorem rnds_snd {f:Fld} (h0:fErr f=0):∀(r:Nat) (far:List Int),farOk far→Snd f far→Snd f (rnds f.g.joins r far)∧farOk (rnds f.g.joins r far)
  | 0,far,h1,h2=>⟨h2,h1⟩
  | r+1,far,h1,h2=>by
    obtain⟨a,b⟩:=fold_snd h0 f.g.joins far (fun _ h=>h) h1 h2
    exact rnds_snd h0 r _ b a
theorem fold_cmp {f:Fld} (h0:fErr f=0) {far:List Int} (hf:farOk far) {t:Nat} (h:Cmp f t far):Cmp f (t+1) (f.g.joins.foldl rx far):=by
  intro p n hp hn hm
  have le:=fold_le f.g.joins far (jOk_of h0) hf.1 p
  by_cases hnt:n≤t
  · have := h p n hp hnt hm
    omega
  · have e : n = t + 1 := by omega
    subst e
    obtain⟨q,hq,⟨x,hx,hg⟩,e⟩:=R_succ.1 hm
    have hxp:=R_pads h0 t x hx
    obtain⟨h8,_⟩:=ok_of h0
    have ex:((x.toNat:Nat):Int)=x:=by omega
    have hxr:((x.toNat:Nat):Int) ∈ R f t:=by rw[ex]; exact hx
    have hxf:=h x.toNat t (by omega) (by omega) hxr
    rcases goes_iff.1 hg with e1 | ⟨j,hj,e1⟩
    · have : x.toNat = p := by omega
      rw[this] at hxf
      omega
    · obtain ⟨k1, k2⟩ := fold_join f.g.joins far (jOk_of h0) hf.1 j hj
      rcases e1 with⟨e1,e2⟩ | ⟨e1,e2⟩
      · have a1 : j.a.toNat = x.toNat := by rw [e1]
        have a2:j.b.toNat=p:=by omega
        rw[a1,a2] at k1
        omega
      · have a1 : j.b.toNat = x.toNat := by rw [e2]
        have a2:j.a.toNat=p:=by omega
        rw[a1,a2] at k2
        omega
theorem rnds_cmp {f:Fld} (h0:fErr f=0):∀(r t:Nat) (far:List Int),farOk far→Snd f far→Cmp f t far→Cmp f (t+r) (rnds f.g.joins r far)
  | 0,t,far,_,_,h=>h
  | r+1,t,far,hf,hs,h=>by
    obtain⟨a,b⟩:=fold_snd h0 f.g.joins far (fun _ h=>h) hf hs
    have:=rnds_cmp h0 r (t+1) _ b a (fold_cmp h0 hf h)
    rw[show t+(r+1)=t+1+r by omega]
    exact this
def St (f:Fld) (n:Nat):Prop:=∀ p:Nat,p<8→(p:Int) ∈ R f (n+1)→(p:Int) ∈ R f n
theorem St_succ {f:Fld} (h0:fErr f=0) {n:Nat} (h:St f n):St f (n+1):=by
  intro p hp hm
  obtain⟨q,hq,⟨x,hx,hg⟩,e⟩:=R_succ.1 hm
  have hxp:=R_pads h0 _ x hx
  obtain⟨h8,_⟩:=ok_of h0
  have ex:((x.toNat:Nat):Int)=x:=by omega
  have:=h x.toNat (by omega) (by rw[ex]; exact hx)
  rw[ex] at this
  exact R_succ.2 ⟨q,hq,⟨x,this,hg⟩,e⟩
theorem St_le {f:Fld} (h0:fErr f=0) {n m:Nat} (hnm:n≤m) (h:St f n):St f m:=by
  induction hnm with
  | refl=>exact h
  | step _ ih=>exact St_succ h0 ih
theorem cnt_le {α:Type} {a b:α→Bool}:∀(l:List α),(∀ x ∈ l,a x=true→b x=true)→(l.filter a).length≤(l.filter b).length
  | [],_=>Nat.le_refl _
  | x::l,h=>by
    have ih:=cnt_le l (fun y hy=>h y (by simp [hy]))
    have hx:=h x (by simp)
    rw[List.filter_cons,List.filter_cons]
    cases ha:a x
    · cases hb:b x <;> simp <;> omega
    · rw[hx ha]; simp; exact ih
theorem cnt_lt {α:Type} {a b:α→Bool}:∀(l:List α),(∀ x ∈ l,a x=true→b x=true)→(∃ x ∈ l,a x=false∧b x=true)→(l.filter a).length+1≤(l.filter b).length
  | [],_,⟨x,h,_⟩=>by simp at h
  | x::l,h,⟨y,hy,h1,h2⟩=>by
    have le:=cnt_le l (fun y hy=>h y (by simp [hy]))
    rw[List.filter_cons,List.filter_cons]
    rcases List.mem_cons.1 hy with rfl | hy
    · rw[h1,h2]; simp; exact le
    · have ih := cnt_lt l (fun y hy => h y (by simp [hy])) ⟨y, hy, h1, h2⟩
      have hx:=h x (by simp)
      cases ha:a x
      · cases hb:b x <;> simp <;> omega
      · rw[hx ha]; simp; omega
def cnt (f:Fld) (n:Nat):Nat:=((List.range 8).filter (fun p:Nat=>hasL (R f n) (p:Int))).length
theorem chain {f:Fld} (h0:fErr f=0):∀ n,(∃ m,m<n∧St f m)∨n≤cnt f n
  | 0=>.inr (Nat.zero_le _)
  | n+1=>by
    rcases chain h0 n with⟨m,h1,h2⟩ | h
    · exact .inl ⟨m,by omega,h2⟩
    · by_cases hs : St f n
      · exact .inl ⟨n,by omega,hs⟩
      · refine .inr ?_
        have:∃ p:Nat,p<8∧(p:Int) ∈ R f (n+1)∧¬ (p:Int) ∈ R f n:=by
          apply Classical.byContradiction
          intro hc
          refine hs fun p hp hm=>?_
          apply Classical.byContradiction
          intro hn
          exact hc ⟨p,hp,hm,hn⟩
        obtain⟨p,hp,x1,x2⟩:=this
        have:=cnt_lt (a:=fun p:Nat=>hasL (R f n) (p:Int)) (b:=fun p:Nat=>hasL (R f (n+1)) (p:Int)) (List.range 8)
          (fun x _ hx=>has_mem.2 (R_mono h0 (has_mem.1 hx)))
          ⟨p,by simpa using hp,by rw[Bool.eq_false_iff]; intro hh; exact x2 (has_mem.1 hh),has_mem.2 x1⟩
        unfold cnt at h ⊢
        omega
theorem stable {f:Fld} (h0:fErr f=0) {p n:Nat} (hp:p<8) (hn:8≤n) (h:(p:Int) ∈ R f n):(p:Int) ∈ R f 8:=by
  have hs:St f 8:=by
    rcases chain h0 9 with⟨m,h1,h2⟩ | h
    · exact St_le h0 (by omega) h2
    · have : cnt f 9 ≤ 8 := by
        unfold cnt
        exact Nat.le_trans (List.length_filter_le _ _) (by simp)
      omega
  obtain⟨d,rfl⟩:∃ d,n=8+d:=⟨n-8,by omega⟩
  induction d with
  | zero=>exact h
  | succ d ih=>exact ih (by omega) (St_le h0 (by omega) hs p hp h)
theorem initF_get {f:Fld}:∀(r i:Nat) (far:List Int) (p:Nat),i+r=8→far.length=8→(initF f i r far).getD p 0=if i≤p∧p<i+r then(if hasL f.start p then 0 else 99) else far.getD p 0
  | 0,i,far,p,_,_=>by
    rw[if_neg (by omega)]; rfl
  | r+1,i,far,p,hi,h8=>by
    unfold initF
    rw[initF_get r (i+1) _ p (by omega) (by simp [h8]),getD_set (by omega)]
    by_cases e:i=p
    · subst e
      rw[if_neg (by omega),if_pos rfl,if_pos (show i≤i∧i<i+(r+1) by omega)]
    · rw [if_neg e]
      by_cases e2:i+1≤p∧p<i+1+r
      · rw[if_pos e2,if_pos (show i≤p∧p<i+(r+1) by omega)]
      · rw[if_neg e2,if_neg (show ¬ (i≤p∧p<i+(r+1)) by omega)]
theorem initF_len {f:Fld}:∀(r i:Nat) (far:List Int),(initF f i r far).length=far.length
  | 0,_,_=>rfl
  | r+1,i,far=>by unfold initF; rw[initF_len r]; simp
theorem far_ok {f:Fld} (h0:fErr f=0) {far:List Int} (h8:far.length=8) {w p:Nat} (hw:w≤10) (hp:p<8) :
    hasL (R f w) p=decide ((rnds f.g.joins 8 (initF f 0 8 far)).getD p 0≤(w:Int)):=by
  have hl:(initF f 0 8 far).length=8:=by rw[initF_len]; exact h8
  have hok:farOk (initF f 0 8 far):=by
    refine⟨hl,fun i=>?_⟩
    by_cases h:i<8
    · rw [initF_get 8 0 far i (by omega) h8, if_pos (by omega)]
      split <;> omega
    · rw [List.getD_eq_getElem?_getD, List.getElem?_eq_none (by omega)]
      simp
  have hs:Snd f (initF f 0 8 far):=by
    intro q v hq hv h
    rw[initF_get 8 0 far q (by omega) h8,if_pos (by omega)] at h
    split at h
    · rename_i e
      exact R_le h0 (Nat.zero_le v) (has_mem.1 e)
    · omega
  have hc:Cmp f 0 (initF f 0 8 far):=by
    intro q n hq hn hm
    have:n=0:=by omega
    subst this
    rw[initF_get 8 0 far q (by omega) h8,if_pos (by omega),if_pos (show hasL f.start q=true from has_mem.2 hm)]
    omega
  have c8:=rnds_cmp h0 8 0 _ hok hs hc
  obtain⟨s8,_⟩:=rnds_snd h0 8 _ hok hs
  rw[Bool.eq_iff_iff,decide_eq_true_iff,has_mem]
  constructor
  · intro h
    by_cases h9:w≤8
    · exact c8 p w hp (by omega) h
    · have := c8 p 8 hp (by omega) (stable h0 hp (by omega) h)
      omega
  · exact s8 p w hp (by omega)
end Go.Proofs.YtkmjgabdaikomaaGreat.L
end
section
namespace Go.Proofs.YtkmjgabdaikomaaGreat.preyIdle
open Go.ChangeShapes Go.WideShapes Go.ChangeAt Go.RowKit Go.Ev
theorem own:ownKnob Tryz.prog.godebug=none:=by kernel_rfl
theorem kids:Kids Tryz.prog (·<Tryz.prog.types.size):=kids_rows (by kernel_rfl) (by kernel_rfl)
theorem full:∀ t e,t<Tryz.prog.types.size→Tryz.prog.underlying t=some (.slice e)→0<Tryz.prog.cellsOf e:=slices_full_of Tryz.prog (by kernel_rfl)
abbrev Ts:List Ty:=[(.cons (.cons (.sl (.cons (.int .i64) (.cons (.int .i64) .nil))) (.cons (.sl (.cons (.int .i64) (.cons (.int .i64) .nil))) (.cons (.sl (.cons (.int .i64) (.cons (.cons (.int .i64) (.cons (.int .i64) .nil)) (.cons (.cons (.int .i64) (.cons (.int .i64) .nil)) .nil)))) .nil))) (.cons (.sl (.int .i64)) (.cons (.sl (.int .i64)) .nil))),(.int .u8)]
theorem types:tysOf Tryz.prog 8 [29,5]=some Ts:=by kernel_rfl
abbrev Law:Prop:=Says L.P L.LA 20000 L.man 12 Ts
set_option maxRecDepth 100000 in
theorem lifted {q:Alt} (ht:TblOk L.P q.A 20000 q.tab) (hm:ManOk L.P q 20000 L.man) (hs:Law) (os:Os) (started:os.Started) (H:Type) (enc:TypeId × Value→H) :
    ReturnsInHanded {} Tryz.checked os 12 .any (Rows.preyIdleSpec.pre6 enc Tryz.prog Tryz.f12 Rows.preyIdleRow.domain false) (Rows.preyIdleSpec.post enc Tryz.prog Tryz.f12 false true false false):=by
  refine returnsInHanded_of_change_sized (C:=Tryz.checked) own started (by kernel_rfl) Tryz.func12
    (ChangeSpec.witness6 (enc:=enc) (C:=Tryz.checked) false ⟨#[],#[.agg #[.slice none 0 0,.slice none 0 0,.slice none 0 0,.slice none 0 0,.slice none 0 0],.int .u8 0],[]⟩ 12 (by kernel_rfl) (by kernel_rfl) (by kernel_rfl) (by kernel_rfl)) ?_
  intro W base args ds gs before hval0 hW hcnd hsz _
  have hval:∀(j:Nat) t v,Tryz.f12.params[j]?=some t→args[j]?=some v→Value.okWide Tryz.prog W .any base t v:=hval0
  have hW':=hW
  obtain⟨p,q,hA0,hV,rfl,hfz,hnd⟩:=hW
  have hA:DataW.TrodAll enc Tryz.prog W 0 (fun _=>true) true Tryz.f12.params.toList args.toList ds p:=hA0
  have hAk:=hA
  rw[Tryz.params12] at hA hval
  obtain⟨rfl,rfl⟩:=trodVars_none hV
  obtain⟨d0,d1,rfl⟩:=list2 (trodAll_len hA)
  simp only[List.append_nil] at hW' hAk
  have hall:∀ n ∈ DataW.weightsEach Tryz.prog [29,5] [d0,d1],n≤reachBytes:=by
    intro n hn
    have hm:n ∈ DataW.weightsEach Tryz.checked.prog (Tryz.f12.params.toList++DataSpec.varTypes Tryz.checked.prog Rows.preyIdleSpec.plain) ([d0,d1]++[]):=by
      rw[Tryz.params12]
      exact weights_app (Nat.le_of_eq (trodAll_len hA)) hn
    have:=List.all_eq_true.1 hsz n hm
    simpa using this
  refine(says_calls ht hm hs types (fun j t v h g=>hval j t v (by simpa using h) (by simpa using g)) hA hall).mono fun e W' ⟨he,hg,hk⟩=>?_
  subst he
  exact⟨_,rfl,post_of_same (pv:=[]) hW' (fun _ _ _=>(trodAll_cons_mk (shut_bool Tryz.underlying4 _) trodAll_mk0))
    (fun sp hsp=>DataW.TrodAll.respare kids full (by rw[Tryz.params12]; decide +kernel) (carryAll hk hAk) hsp) (fun _ _=>rfl) (by simp)
    (hg.frame _) hg.2.1 (ok_one (by kernel_rfl) rfl (okWide_bool_mk Tryz.underlying4 _))⟩
theorem over {q:Alt} (ht:TblOk L.P q.A 20000 q.tab) (hm:ManOk L.P q 20000 L.man) (hs:Law):Rows.preyIdleRow.holds Tryz.pinned (OpenSpec.ofChange Rows.preyIdleSpec):=
  OpenClaim.holds_of_wide 12 Tryz.f12 rfl rfl rfl rfl rfl rfl rfl ⟨rfl,rfl,rfl,rfl,rfl⟩ rfl rfl rfl rfl rfl (by kernel_rfl) Tryz.func12 (by kernel_rfl)
    (of_decide_eq_true (by kernel_rfl)) (by unfold Func.isWrapper; first | (rw[if_pos (by decide +kernel)]; kernel_rfl) | (rw[if_neg (by decide +kernel)]; exact⟨rfl,rfl⟩))
    (fun os started H enc _=>lifted ht hm hs os started H enc)
theorem said {q:Alt} (ht:TblOk L.P q.A 20000 q.tab) (hm:ManOk L.P q 20000 L.man) (hs:Law):Rows.PreyIdleSaid:=over ht hm hs
end Go.Proofs.YtkmjgabdaikomaaGreat.preyIdle
end
