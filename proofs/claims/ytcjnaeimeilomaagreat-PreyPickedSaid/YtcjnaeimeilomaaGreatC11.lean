import Derived.Test.YtcjnaeimeilomaaGreatRows
import Derived.WalkKit
import Derived.ProofKit
import Derived.OpenShut
import Derived.Test.YtcjnaeimeilomaaGreatC10
set_option linter.unusedVariables false
section
open Go Go.Ev
noncomputable section
namespace Go.Proofs.YtcjnaeimeilomaaGreat.L
noncomputable def man:Man:=fun l f=>match Nat.beq f 16 with
 | true=>match Nat.beq l 39 with
  | true=>some fun ds=>match ds with
   | []=>some (.v (.bool true))
   | _=>none
  | false=>some fun _=>none
 | false=>none
abbrev K(l:Nat):PC:=pcR P LA 20000 man l
abbrev Rg(l:Nat):PC:=rgR P LA 20000 man l
theorem c12{l:Nat}{v0 v1 v2 v3:D}:K (l+1) 12 [v0,v1,v2,v3]=C12_0 (K l) 19999 v0 v1 v2 v3:=(bV rfl).trans (h12_0 ..)
theorem c15{l:Nat}{v0 v1:D}:K (l+1) 15 [v0,v1]=C15_0 (K l) 19999 v0 v1:=(bV rfl).trans (h15_0 ..)
theorem c18{l:Nat}{v0:D}:K (l+1) 18 [v0]=C18_0 (K l) 19999 v0:=(bV rfl).trans (h18_0 ..)
theorem c19{l:Nat}{v0 v1:D}:K (l+1) 19 [v0,v1]=C19_0 (K l) 19999 v0 v1:=(bV rfl).trans (h19_0 ..)
theorem c20{l:Nat}{v0:D}:K (l+1) 20 [v0]=C20_0 (K l) 19999 v0:=(pcR_own rfl).trans (h20_0 ..)
theorem c21{l:Nat}{v0:D}:K (l+1) 21 [v0]=C21_0 (K l) 19999 v0:=(bV rfl).trans (h21_0 ..)
theorem c22{l:Nat}{v0 v1:D}:K (l+1) 22 [v0,v1]=C22_0 (K l) 19999 v0 v1:=(bV rfl).trans (h22_0 ..)
theorem c25{l:Nat}{v0 v1:D}:K (l+1) 25 [v0,v1]=C25_0 (K l) 19999 v0 v1:=(bV rfl).trans (h25_0 ..)
theorem c27{l:Nat}{v0:D}:K (l+1) 27 [v0]=C27_0 (K l) 19999 v0:=(bV rfl).trans (h27_0 ..)
theorem c35{l:Nat}{v0 v1 v2:D}:K (l+1) 35 [v0,v1,v2]=C35_0 (K l) 19999 v0 v1 v2:=(bV rfl).trans (h35_0 ..)
theorem c37{l:Nat}{v0 v1:D}:K (l+1) 37 [v0,v1]=C37_0 (K l) 19999 v0 v1:=(bV rfl).trans (h37_0 ..)
theorem c39{l:Nat}{v0 v1:D}:K (l+1) 39 [v0,v1]=C39_0 (K l) 19999 v0 v1:=(bV rfl).trans (h39_0 ..)
theorem c45{l:Nat}{v0:D}:K (l+1) 45 [v0]=C45_0 (K l) 19999 v0:=(bV rfl).trans (h45_0 ..)
theorem c46{l:Nat}{v0:D}:K (l+1) 46 [v0]=C46_0 (K l) 19999 v0:=(bV rfl).trans (h46_0 ..)
theorem c47{l:Nat}{v0 v1:D}:K (l+1) 47 [v0,v1]=C47_0 (K l) 19999 v0 v1:=(bV rfl).trans (h47_0 ..)
theorem c50{l:Nat}{v0 v1:D}:K (l+1) 50 [v0,v1]=C50_0 (K l) 19999 v0 v1:=(bV rfl).trans (h50_0 ..)
theorem c51{l:Nat}{v0 v1:D}:K (l+1) 51 [v0,v1]=C51_0 (K l) 19999 v0 v1:=(bV rfl).trans (h51_0 ..)
theorem c52{l:Nat}{v0:D}:K (l+1) 52 [v0]=C52_0 (K l) 19999 v0:=(bV rfl).trans (h52_0 ..)
theorem c55{l:Nat}{v0:D}:K (l+1) 55 [v0]=C55_0 (K l) 19999 v0:=(bV rfl).trans (h55_0 ..)
theorem c56{l:Nat}{v0:D}:K (l+1) 56 [v0]=C56_0 (K l) 19999 v0:=(bV rfl).trans (h56_0 ..)
theorem c57{l:Nat}{v0 v1:D}:K (l+1) 57 [v0,v1]=C57_0 (K l) 19999 v0 v1:=(bV rfl).trans (h57_0 ..)
theorem c58{l:Nat}{v0:D}:K (l+1) 58 [v0]=C58_0 (K l) 19999 v0:=(bV rfl).trans (h58_0 ..)
theorem c59{l:Nat}{v0 v1:D}:K (l+1) 59 [v0,v1]=C59_0 (K l) 19999 v0 v1:=(bV rfl).trans (h59_0 ..)
theorem c60{l:Nat}{v0:D}:K (l+1) 60 [v0]=C60_0 (K l) 19999 v0:=(bV rfl).trans (h60_0 ..)
theorem c61{l:Nat}{v0 v1:D}:K (l+1) 61 [v0,v1]=C61_0 (K l) 19999 v0 v1:=(bV rfl).trans (h61_0 ..)
theorem c63{l:Nat}{v0 v1:D}:K (l+1) 63 [v0,v1]=C63_0 (K l) 19999 v0 v1:=(bV rfl).trans (h63_0 ..)
theorem c64{l:Nat}{v0 v1:D}:K (l+1) 64 [v0,v1]=C64_0 (K l) 19999 v0 v1:=(bV rfl).trans (h64_0 ..)
theorem c66{l:Nat}{v0:D}:K (l+1) 66 [v0]=C66_0 (K l) 19999 v0:=(bV rfl).trans (h66_0 ..)
theorem c77{l:Nat}{v0:D}:K (l+1) 77 [v0]=C77_0 (K l) 19999 v0:=(bV rfl).trans (h77_0 ..)
theorem c78{l:Nat}{v0 v1:D}:K (l+1) 78 [v0,v1]=C78_0 (K l) 19999 v0 v1:=(bV rfl).trans (h78_0 ..)
theorem c79{l:Nat}{v0 v1:D}:K (l+1) 79 [v0,v1]=C79_0 (K l) 19999 v0 v1:=(bV rfl).trans (h79_0 ..)
theorem c80{l:Nat}{v0:D}:K (l+1) 80 [v0]=C80_0 (K l) 19999 v0:=(bV rfl).trans (h80_0 ..)
theorem c81{l:Nat}{v0:D}:K (l+1) 81 [v0]=C81_0 (K l) 19999 v0:=(bV rfl).trans (h81_0 ..)
theorem c82{l:Nat}{v0 v1:D}:K (l+1) 82 [v0,v1]=C82_0 (K l) 19999 v0 v1:=(bV rfl).trans (h82_0 ..)
theorem c83{l:Nat}{v0:D}:K (l+1) 83 [v0]=C83_0 (K l) 19999 v0:=(bV rfl).trans (h83_0 ..)
theorem c84{l:Nat}{v0:D}:K (l+1) 84 [v0]=C84_0 (K l) 19999 v0:=(bV rfl).trans (h84_0 ..)
theorem c85{l:Nat}{v0 v1:D}:K (l+3) 85 [v0,v1]=C85_0 (K (l+2)) (Rg (l+1)) (K l) 19999 v0 v1:=(bV rfl).trans (h85_0 ..)
theorem c86{l:Nat}{v0 v1:D}:K (l+1) 86 [v0,v1]=C86_0 (K l) 19999 v0 v1:=(bV rfl).trans (h86_0 ..)
theorem c87{l:Nat}{v0:D}:K (l+1) 87 [v0]=C87_0 (K l) 19999 v0:=(bV rfl).trans (h87_0 ..)
theorem c88{l:Nat}{v0 v1:D}:K (l+1) 88 [v0,v1]=C88_0 (K l) 19999 v0 v1:=(bV rfl).trans (h88_0 ..)
theorem c89{l:Nat}{v0 v1:D}:K (l+5) 89 [v0,v1]=C89_0 (K (l+4)) (Rg (l+3)) (K (l+2)) (Rg (l+1)) (K l) 19999 v0 v1:=(bV rfl).trans (h89_0 ..)
theorem c90{l:Nat}{v0 v1:D}:K (l+1) 90 [v0,v1]=C90_0 (K l) 19999 v0 v1:=(bV rfl).trans (h90_0 ..)
theorem c91{l:Nat}{v0 v1 v2 v3:D}:K (l+1) 91 [v0,v1,v2,v3]=C91_0 (K l) 19999 v0 v1 v2 v3:=(bV rfl).trans (h91_0 ..)
theorem c92{l:Nat}{v0 v1:D}:K (l+1) 92 [v0,v1]=C92_0 (K l) 19999 v0 v1:=(bV rfl).trans (h92_0 ..)
theorem c93{l:Nat}{v0 v1:D}:K (l+1) 93 [v0,v1]=C93_0 (K l) 19999 v0 v1:=(bV rfl).trans (h93_0 ..)
theorem c94{l:Nat}{v0 v1:D}:K (l+1) 94 [v0,v1]=C94_0 (K l) 19999 v0 v1:=(bV rfl).trans (h94_0 ..)
theorem c95{l:Nat}{v0 v1:D}:K (l+1) 95 [v0,v1]=C95_0 (K l) 19999 v0 v1:=(bV rfl).trans (h95_0 ..)
theorem c100{l:Nat}{v0 v1:D}:K (l+1) 100 [v0,v1]=RZ (K l) 19999 v0 v1:=(bV rfl).trans (h100_0 ..)
theorem c102{l:Nat}{v0:D}:K (l+1) 102 [v0]=Sz (K l) 19999 v0:=(bV rfl).trans (h102_0 ..)
theorem c103{l:Nat}{v0:D}:K (l+1) 103 [v0]=SJ (K l) 19999 v0:=(bV rfl).trans (h103_0 ..)
theorem c104{l:Nat}{v0 v1:D}:K (l+1) 104 [v0,v1]=SQ (K l) 19999 v0 v1:=(bV rfl).trans (h104_0 ..)
theorem c105{l:Nat}{v0 v1:D}:K (l+1) 105 [v0,v1]=C105_0 (K l) 19999 v0 v1:=(bV rfl).trans (h105_0 ..)
theorem c106{l:Nat}{v0:D}:K (l+1) 106 [v0]=SV (K l) 19999 v0:=(bV rfl).trans (h106_0 ..)
theorem c107{l:Nat}{v0:D}:K (l+1) 107 [v0]=SW (K l) 19999 v0:=(bV rfl).trans (h107_0 ..)
theorem c113{l:Nat}{v0 v1:D}:K (l+1) 113 [v0,v1]=SY (K l) 19999 v0 v1:=(bV rfl).trans (h113_0 ..)
theorem c114{l:Nat}{v0:D}:K (l+1) 114 [v0]=SZ (K l) 19999 v0:=(bV rfl).trans (h114_0 ..)
theorem c115{l:Nat}{v0 v1:D}:K (l+1) 115 [v0,v1]=Tj (K l) 19999 v0 v1:=(bV rfl).trans (h115_0 ..)
theorem c116{l:Nat}{v0 v1:D}:K (l+1) 116 [v0,v1]=Tw (K l) 19999 v0 v1:=(bV rfl).trans (h116_0 ..)
theorem c117{l:Nat}{v0 v1:D}:K (l+1) 117 [v0,v1]=Tz (K l) 19999 v0 v1:=(bV rfl).trans (h117_0 ..)
theorem c118{l:Nat}{v0:D}:K (l+1) 118 [v0]=Tk (K l) 19999 v0:=(bV rfl).trans (h118_0 ..)
theorem c119{l:Nat}{v0:Nat}{v1:D}{v2:D}:Rg l 119 [.yld v0,v1,v2]=TV (K l) 19999 v0 v1 v2:=h119_0 ..
theorem c120{l:Nat}{v0:Nat}{v1:D}:Rg l 120 [.yld v0,v1]=TX (K l) 19999 v0 v1:=h120_0 ..
theorem c128{l:Nat}{v0 v1:D}:K (l+1) 128 [v0,v1]=TY (K l) 19999 v0 v1:=(bV rfl).trans (h128_0 ..)
theorem c129{l:Nat}{v0:D}:K (l+1) 129 [v0]=TZ (K l) 19999 v0:=(bV rfl).trans (h129_0 ..)
theorem r12_3(pc:FuncId→List D→Option D)(k:Nat){m:Nat}:S12_3 pc k (m+1)=C12_3 pc k (m+1) (S12_3 pc k m):=rfl
theorem r20_1(pc:FuncId→List D→Option D)(k:Nat){m:Nat}:S20_1 pc k (m+1)=C20_1 pc k (m+1) (S20_1 pc k m):=rfl
theorem r39_1(pc:FuncId→List D→Option D)(k:Nat){m:Nat}:S39_1 pc k (m+1)=C39_1 pc k (m+1) (S39_1 pc k m):=rfl
theorem r50_1(pc:FuncId→List D→Option D)(k:Nat){m:Nat}:S50_1 pc k (m+1)=C50_1 pc k (m+1) (S50_1 pc k m):=rfl
theorem r52_1(pc:FuncId→List D→Option D)(k:Nat){m:Nat}:S52_1 pc k (m+1)=C52_1 pc k (m+1) (S52_1 pc k m):=rfl
theorem r56_3(pc:FuncId→List D→Option D)(k:Nat){m:Nat}:S56_3 pc k (m+1)=C56_3 pc k (m+1) (S56_3 pc k m):=rfl
theorem r56_2(pc:FuncId→List D→Option D)(k:Nat){m:Nat}:S56_2 pc k (m+1)=C56_2 pc k (m+1) (S56_2 pc k m):=rfl
theorem r56_1(pc:FuncId→List D→Option D)(k:Nat){m:Nat}:S56_1 pc k (m+1)=C56_1 pc k (m+1) (S56_1 pc k m):=rfl
theorem r57_1(pc:FuncId→List D→Option D)(k:Nat){m:Nat}:VV pc k (m+1)=VQ pc k (m+1) (VV pc k m):=rfl
theorem r58_1(pc:FuncId→List D→Option D)(k:Nat){m:Nat}:VX pc k (m+1)=VW pc k (m+1) (VX pc k m):=rfl
theorem r59_1(pc:FuncId→List D→Option D)(k:Nat){m:Nat}:VZ pc k (m+1)=VY pc k (m+1) (VZ pc k m):=rfl
theorem r60_2(pc:FuncId→List D→Option D)(k:Nat){m:Nat}:S60_2 pc k (m+1)=C60_2 pc k (m+1) (S60_2 pc k m):=rfl
theorem r61_1(pc:FuncId→List D→Option D)(k:Nat){m:Nat}:S61_1 pc k (m+1)=C61_1 pc k (m+1) (S61_1 pc k m):=rfl
theorem r63_1(pc:FuncId→List D→Option D)(k:Nat){m:Nat}:S63_1 pc k (m+1)=VK pc k (m+1) (S63_1 pc k m):=rfl
theorem r64_1(pc:FuncId→List D→Option D)(k:Nat){m:Nat}:Wq pc k (m+1)=Wj pc k (m+1) (Wq pc k m):=rfl
theorem r66_2(pc:FuncId→List D→Option D)(k:Nat){m:Nat}:Ww pc k (m+1)=Wv pc k (m+1) (Ww pc k m):=rfl
theorem r66_1(pc:FuncId→List D→Option D)(k:Nat){m:Nat}:Wy pc k (m+1)=Wx pc k (m+1) (Wy pc k m):=rfl
theorem r79_1(pc:FuncId→List D→Option D)(k:Nat){m:Nat}:Wk pc k (m+1)=Wz pc k (m+1) (Wk pc k m):=rfl
theorem r82_1(pc:FuncId→List D→Option D)(k:Nat){m:Nat}:WQ pc k (m+1)=WJ pc k (m+1) (WQ pc k m):=rfl
theorem r83_1(pc:FuncId→List D→Option D)(k:Nat){m:Nat}:WW pc k (m+1)=WV pc k (m+1) (WW pc k m):=rfl
theorem r84_1(pc:FuncId→List D→Option D)(k:Nat){m:Nat}:WY pc k (m+1)=WX pc k (m+1) (WY pc k m):=rfl
theorem r87_8(pc:FuncId→List D→Option D)(k:Nat)(m1:Nat)(b6:(D→List D→Option D)){m:Nat}:S87_8 pc k m1 b6 (m+1)=C87_8 pc k m1 (m+1) b6 (S87_8 pc k m1 b6 m):=rfl
theorem r87_6(pc:FuncId→List D→Option D)(k:Nat){m:Nat}:S87_6 pc k (m+1)=C87_6 pc k (m+1) (S87_6 pc k m):=rfl
theorem r87_4(pc:FuncId→List D→Option D)(k:Nat){m:Nat}:S87_4 pc k (m+1)=C87_4 pc k (m+1) (S87_4 pc k m):=rfl
theorem r87_3(pc:FuncId→List D→Option D)(k:Nat){m:Nat}:S87_3 pc k (m+1)=C87_3 pc k (m+1) (S87_3 pc k m):=rfl
theorem r88_1(pc:FuncId→List D→Option D)(k:Nat){m:Nat}:S88_1 pc k (m+1)=C88_1 pc k (m+1) (S88_1 pc k m):=rfl
theorem r89_3(pc rg pc1 rg1 pc2:FuncId→List D→Option D)(k:Nat)(m1:List (List D))(b2:(D→List MapEntry→Nat→D→Option D)){m:Nat}:S89_3 pc rg pc1 rg1 pc2 k m1 b2 (m+1)=C89_3 pc rg pc1 rg1 pc2 k m1 (m+1) b2 (S89_3 pc rg pc1 rg1 pc2 k m1 b2 m):=rfl
theorem r90_2(pc:FuncId→List D→Option D)(k:Nat){m:Nat}:Xz pc k (m+1)=Xy pc k (m+1) (Xz pc k m):=rfl
theorem r100_1(pc:FuncId→List D→Option D)(k:Nat){m:Nat}:EK pc k (m+1)=EZ pc k (m+1) (EK pc k m):=rfl
theorem r103_1(pc:FuncId→List D→Option D)(k:Nat){m:Nat}:Fq pc k (m+1)=Fj pc k (m+1) (Fq pc k m):=rfl
theorem r113_1(pc:FuncId→List D→Option D)(k:Nat){m:Nat}:Fw pc k (m+1)=Fv pc k (m+1) (Fw pc k m):=rfl
theorem r115_1(pc:FuncId→List D→Option D)(k:Nat){m:Nat}:Fy pc k (m+1)=Fx pc k (m+1) (Fy pc k m):=rfl
theorem r116_1(pc:FuncId→List D→Option D)(k:Nat){m:Nat}:FJ pc k (m+1)=Fk pc k (m+1) (FJ pc k m):=rfl
theorem r117_1(pc:FuncId→List D→Option D)(k:Nat){m:Nat}:FV pc k (m+1)=FQ pc k (m+1) (FV pc k m):=rfl
theorem r119_1(pc:FuncId→List D→Option D)(k:Nat){m:Nat}:FY pc k (m+1)=FX pc k (m+1) (FY pc k m):=rfl
theorem r120_1(pc:FuncId→List D→Option D)(k:Nat){m:Nat}:FK pc k (m+1)=FZ pc k (m+1) (FK pc k m):=rfl
theorem n85_2(pc rg pc1:FuncId→List D→Option D)(k:Nat):WK pc rg pc1 k []=CN85_2 pc rg pc1 k:=rfl
theorem r85_2(pc rg pc1:FuncId→List D→Option D)(k:Nat){y:List D}{ys:List (List D)}:WK pc rg pc1 k (y::ys)=C85_2 pc rg pc1 k ys (WK pc rg pc1 k ys) y:=rfl
theorem n89_5(pc rg pc1 rg1 pc2:FuncId→List D→Option D)(k:Nat)(m1:List (List D))(m2:Nat)(b2:(D→List MapEntry→Nat→D→Option D))(b3:(D→D→D→D→D→D→List MapEntry→Nat→D→Option D)):Xw pc rg pc1 rg1 pc2 k m1 m2 b2 b3 []=Rk pc rg pc1 rg1 pc2 k m1 m2 b2 b3:=rfl
theorem r89_5(pc rg pc1 rg1 pc2:FuncId→List D→Option D)(k:Nat)(m1:List (List D))(m2:Nat)(b2:(D→List MapEntry→Nat→D→Option D))(b3:(D→D→D→D→D→D→List MapEntry→Nat→D→Option D)){y:List D}{ys:List (List D)}:Xw pc rg pc1 rg1 pc2 k m1 m2 b2 b3 (y::ys)=C89_5 pc rg pc1 rg1 pc2 k m1 m2 ys b2 b3 (Xw pc rg pc1 rg1 pc2 k m1 m2 b2 b3 ys) y:=rfl
theorem n89_2(pc rg pc1 rg1 pc2:FuncId→List D→Option D)(k:Nat):Xx pc rg pc1 rg1 pc2 k []=CN89_2 pc rg pc1 rg1 pc2 k:=rfl
theorem r89_2(pc rg pc1 rg1 pc2:FuncId→List D→Option D)(k:Nat){y:List D}{ys:List (List D)}:Xx pc rg pc1 rg1 pc2 k (y::ys)=C89_2 pc rg pc1 rg1 pc2 k ys (Xx pc rg pc1 rg1 pc2 k ys) y:=rfl
end Go.Proofs.YtcjnaeimeilomaaGreat.L
end
end
section
namespace Go.Proofs.YtcjnaeimeilomaaGreat.preyPicked
open Go.ChangeShapes Go.WideShapes Go.ChangeAt Go.RowKit Go.Ev
theorem own:ownKnob Tryz.prog.godebug=none:=by kernel_rfl
theorem kids:Kids Tryz.prog (·<Tryz.prog.types.size):=kids_rows (by kernel_rfl) (by kernel_rfl)
theorem full:∀ t e,t<Tryz.prog.types.size→Tryz.prog.underlying t=some (.slice e)→0<Tryz.prog.cellsOf e:=slices_full_of Tryz.prog (by kernel_rfl)
abbrev Ts:List Ty:=[(.cons (.cons (.sl (.cons (.int .i64) (.cons (.int .i64) .nil))) (.cons (.sl (.cons (.int .i64) (.cons (.int .i64) .nil))) (.cons (.sl (.cons (.int .i64) (.cons (.cons (.int .i64) (.cons (.int .i64) .nil)) (.cons (.cons (.int .i64) (.cons (.int .i64) .nil)) .nil)))) .nil))) (.cons (.sl (.int .i64)) (.cons (.sl (.int .i64)) .nil))),(.sl (.sl (.int .i64))),(.int .u8),(.int .u16)]
theorem types:tysOf Tryz.prog 8 [29,30,5,79]=some Ts:=by kernel_rfl
abbrev Law:Prop:=Says L.P L.LA 20000 L.man 12 Ts
set_option maxRecDepth 100000 in
theorem lifted{q:Alt}(ht:DJ L.P q.A 20000 q.tab)(hm:ManOk L.P q 20000 L.man)(hs:Law)(os:Os)(started:os.Started)(H:Type)(enc:TypeId × Value→H) :
  ReturnsInHanded {} Tryz.checked os 12 .any (Rows.preyPickedSpec.pre6 enc Tryz.prog Tryz.f12 Rows.preyPickedRow.domain false) (Rows.preyPickedSpec.post enc Tryz.prog Tryz.f12 false true false false):=by
 refine returnsInHanded_of_change_sized (C:=Tryz.checked) own started (by kernel_rfl) Tryz.func12
  (ChangeSpec.witness6 (enc:=enc) (C:=Tryz.checked) false ⟨#[],#[.agg #[.slice none 0 0,.slice none 0 0,.slice none 0 0,.slice none 0 0,.slice none 0 0],.slice none 0 0,.int .u8 0,.int .u16 0],[]⟩ 12 (by kernel_rfl) (by kernel_rfl) (by kernel_rfl) (by kernel_rfl)) ?_
 intro W base args ds gs before hval0 hW hcnd hsz _
 have hval:∀(j:Nat) t v,Tryz.f12.params[j]?=some t→args[j]?=some v→Value.okWide Tryz.prog W .any base t v:=hval0
 have hW':=hW
 obtain⟨p,q,hA0,hV,rfl,hfz,hnd⟩:=hW
 have hA:DataW.TrodAll enc Tryz.prog W 0 (fun _=>true) true Tryz.f12.params.toList args.toList ds p:=hA0
 have hAk:=hA
 rw[Tryz.params12] at hA hval
 obtain⟨rfl,rfl⟩:=trodVars_none hV
 obtain⟨d0,d1,d2,d3,rfl⟩:=list4 (Hy hA)
 simp only[List.append_nil] at hW' hAk
 have hall:∀ n ∈ DataW.weightsEach Tryz.prog [29,30,5,79] [d0,d1,d2,d3],n≤reachBytes:=by
  intro n hn
  have hm:n ∈ DataW.weightsEach Tryz.checked.prog (Tryz.f12.params.toList++DataSpec.varTypes Tryz.checked.prog Rows.preyPickedSpec.plain) ([d0,d1,d2,d3]++[]):=by
   rw[Tryz.params12]
   exact weights_app (Nat.le_of_eq (Hy hA)) hn
  have:=List.all_eq_true.1 hsz n hm
  simpa using this
 refine(says_calls ht hm hs types (fun j t v h g=>hval j t v (by simpa using h) (by simpa using g)) hA hall).mono fun e W' ⟨he,hg,hk⟩=>?_
 subst he
 exact⟨_,rfl,post_of_same (pv:=[]) hW' (fun _ _ _=>(trodAll_cons_mk (shut_bool Tryz.underlying4 _) trodAll_mk0))
  (fun sp hsp=>DataW.TrodAll.respare kids full (by rw[Tryz.params12]; decide +kernel) (carryAll hk hAk) hsp) (fun _ _=>rfl) (by simp)
  (hg.frame _) hg.2.1 (ok_one (by kernel_rfl) rfl (okWide_bool_mk Tryz.underlying4 _))⟩
theorem over{q:Alt}(ht:DJ L.P q.A 20000 q.tab)(hm:ManOk L.P q 20000 L.man)(hs:Law):Rows.preyPickedRow.holds Tryz.pinned (OpenSpec.ofChange Rows.preyPickedSpec):=
 OpenClaim.holds_of_wide 12 Tryz.f12 rfl rfl rfl rfl rfl rfl rfl ⟨rfl,rfl,rfl,rfl,rfl⟩ rfl rfl rfl rfl rfl (by kernel_rfl) Tryz.func12 (by kernel_rfl)
  (of_decide_eq_true (by kernel_rfl)) (by unfold Func.isWrapper; first | (rw[if_pos (by decide +kernel)]; kernel_rfl) | (rw[if_neg (by decide +kernel)]; exact⟨rfl,rfl⟩))
  (fun os started H enc _=>lifted ht hm hs os started H enc)
theorem said{q:Alt}(ht:DJ L.P q.A 20000 q.tab)(hm:ManOk L.P q 20000 L.man)(hs:Law):Rows.PreyPickedSaid:=over ht hm hs
end Go.Proofs.YtcjnaeimeilomaaGreat.preyPicked
end
section
open Go Go.Ev
set_option maxRecDepth 100000
namespace Go.Proofs.YtcjnaeimeilomaaGreat.L
structure Pad where
 need:Int
 room:Int
structure Join where
 a:Int
 b:Int
structure Kd where
 young:Int
 olo:Int
 ohi:Int
 nlo:Int
 nhi:Int
structure Grove where
 pads:List Pad
 joins:List Join
 kinds:List Kd
structure Fld where
 g:Grove
 start:List Int
 eats:List Int
noncomputable abbrev dPad(p:Pad):D:=.agg [dI p.need,dI p.room]
noncomputable abbrev sY(p:Join):D:=.agg [dI p.a,dI p.b]
noncomputable abbrev dKd(p:Kd):D:=.agg [dI p.young,dI p.olo,dI p.ohi,dI p.nlo,dI p.nhi]
noncomputable abbrev gC(g:Grove):List D:=[.sl (g.pads.map dPad),.sl (g.joins.map sY),.sl (g.kinds.map dKd)]
noncomputable abbrev fC(f:Fld):List D:=[.sl (f.g.pads.map dPad),.sl (f.g.joins.map sY),.sl (f.g.kinds.map dKd),dL f.start,dL f.eats]
noncomputable abbrev dG(g:Grove):D:=.agg (gC g)
noncomputable abbrev dF(f:Fld):D:=.agg (fC f)
abbrev big:Nat:=1000000
theorem sbig{n:Nat}(h:n<big):n<4611686018427387904:=by unfold big at h; omega
theorem gV{a:D}{l:List D}:(a::l)[0]?=some a:=rfl
theorem sv{a b:D}{l:List D}:(a::b::l)[1]?=some b:=rfl
theorem OQ{a b c:D}{l:List D}:(a::b::c::l)[2]?=some c:=rfl
theorem getD3{a b c d:D}{l:List D}:(a::b::c::d::l)[3]?=some d:=rfl
theorem Xk{a b c d e:D}{l:List D}:(a::b::c::d::e::l)[4]?=some e:=rfl
theorem cut2{a b:D}:cutD [a,b] 0 2=some [a,b]:=rfl
theorem cut3{a b c:D}:cutD [a,b,c] 0 3=some [a,b,c]:=rfl
theorem cut5{a b c d e:D}:cutD [a,b,c,d,e] 0 5=some [a,b,c,d,e]:=rfl
theorem cut53{a b c d e:D}:cutD [a,b,c,d,e] 0 3=some [a,b,c]:=rfl
theorem cut512{a b c d e:D}:cutD [a,b,c,d,e] 1 2=some [b,c]:=rfl
theorem cut532{a b c d e:D}:cutD [a,b,c,d,e] 3 2=some [d,e]:=rfl
theorem spl2{x y a b:D}:splD [x,y] 0 [a,b] 2=some [a,b]:=rfl
theorem spl5{x y z u v a b c d e:D}:splD [x,y,z,u,v] 0 [a,b,c,d,e] 5=some [a,b,c,d,e]:=rfl
theorem fill5{x y z u v a b c d e:D}(ha:bk a=true):JQ [x,y,z,u,v] [(0,1,a),(1,2,.agg [b,c]),(3,2,.agg [d,e])]=some [a,b,c,d,e]:=by
 cases a <;> first | rfl | cases ha
theorem fillF{x y z u v a b c:D}{d e:List D}:JQ [x,y,z,u,v] [(0,3,.agg [a,b,c]),(3,1,.sl d),(4,1,.sl e)]=some [a,b,c,.sl d,.sl e]:=rfl
theorem len2{a b:D}:[a,b].length=2:=rfl
theorem len5{a b c d e:D}:[a,b,c,d,e].length=5:=rfl
theorem drop1_0{a b:D}:(List.drop 1 [a,b])[0]?=some b:=rfl
theorem lev{n l:Nat}(h:n≤l):∃ j,l=j+n:=⟨l-n,by omega⟩
theorem s81{l:Nat}(hl:1≤l){a b:Int}:pcD P (K l) 81 [.agg [dI a,dI b]]=some (.agg [dI a,dI b]):=by
 obtain⟨l,rfl⟩:=lev hl
 refine pcD_f ?_ rfl
 rw[c81]
 unfold C81_0 B81_0
 simp only[aj,cw,bZ,cq,gV,sv]
theorem s27{l:Nat}(hl:1≤l){xs:List Int}(h:xs.length<big):pcD P (K l) 27 [dL xs]=some (dL xs):=by
 obtain⟨l,rfl⟩:=lev hl
 refine vw ?_ (by kernel_rfl)
 rw[c27]
 unfold C27_0 B27_0
 simp only[aj,aV,bZ,allI]
 rw[vX (by simp; unfold big at h; omega)]
 rfl
theorem l18{l:Nat}(hl:1≤l){k:Nat}:∀(suf pre:List (List Int)) (m:Nat),suf.length<m→pre.length+suf.length<big→(∀ x ∈ suf,x.length<big) →
  S20_1 (K l) k m (dLL (pre++suf)) (dI pre.length) (pre.map dL)=some (dLL (pre++suf))
 | [],pre,0,hm,_,_=>by simp at hm
 | [],pre,m+1,_,_,_=>by
  rw[r20_1]
  unfold C20_1 B20_1
  simp only[aj,aV,ev,bY,List.append_nil,dX]
 | x::suf,pre,0,hm,_,_=>by simp at hm
 | x::suf,pre,m+1,hm,hb,hx=>by
  rw[r20_1]
  unfold C20_1 B20_1
  simp only[List.length_cons] at hm hb
  simp only[aj,aV,bZ,mZ,iJ,bY,gj,dK,s27 hl (hx x (by simp))]
  rw[vX (by simp; unfold big at hb; omega),aj,dV (a:=x) (sbig (by omega)),aj]
  simpa using l18 hl (k:=k) suf (pre++[x]) m (by omega) (by simp; omega) (fun y hy=>hx y (by simp [hy]))
theorem s20{l:Nat}(hl:2≤l){xs:List (List Int)}(h:xs.length<19000)(hx:∀ x ∈ xs,x.length<big):pcD P (K l) 20 [dLL xs]=some (dLL xs):=by
 obtain⟨l,rfl⟩:=lev hl
 refine vw ?_ (by kernel_rfl)
 rw[c20]
 unfold C20_0 B20_0
 simpa using l18 (l:=l+1) (by omega) (k:=19999) xs [] 19999 (by omega) (by show 0+_<big; unfold big; omega) hx
theorem l50_3{l k:Nat}(hl:1≤l){ps:List Pad}{js:List Join}:∀(suf pre:List Kd) (m:Nat),suf.length<m→pre.length+suf.length<big →
  S56_3 (K l) k m (dI pre.length) (gC ⟨ps,js,pre++suf⟩) (ps.map dPad) (js.map sY) (pre.map dKd)=some (dG ⟨ps,js,pre++suf⟩)
 | [],pre,0,hm,_=>by simp at hm
 | [],pre,m+1,_,_=>by
  rw[r56_3]
  unfold C56_3 B56_3
  simp only[aj,aV,ev,bY,List.append_nil,OQ,dX,OQ]
 | x::suf,pre,0,hm,_=>by simp at hm
 | x::suf,pre,m+1,hm,hb=>by
  rw[r56_3]
  unfold C56_3 B56_3
  simp only[List.length_cons] at hm hb
  simp only[aj,aV,cw,bZ,iJ,beq_refl,bY,gV,OQ,cut5,cut512,cut532,spl5,len5,gj,dK,OQ,gV,len5,cut5,spl5,cut512,cut532,s81 hl,fill5 cq]
  rw[vX (by simp; unfold big at hb; omega),aj,dV (a:=x) (sbig (by omega)),aj]
  simpa using l50_3 hl (k:=k) suf (pre++[x]) m (by omega) (by simp; omega)
theorem l50_2{l k:Nat}(hl:1≤l){ps:List Pad}{ks:List Kd}(hk:ks.length<k)(hb:ks.length<big):∀(suf pre:List Join) (m:Nat),suf.length<m→pre.length+suf.length<big →
  S56_2 (K l) k m (dI pre.length) (gC ⟨ps,pre++suf,ks⟩) (ps.map dPad) (pre.map sY)=some (dG ⟨ps,pre++suf,ks⟩)
 | [],pre,0,hm,_=>by simp at hm
 | [],pre,m+1,_,_=>by
  rw[r56_2]
  unfold C56_2 B56_2
  simp only[aj,aV,ev,bY,List.append_nil,sv,dX,sv]
  simpa using l50_3 hl (k:=k) (ps:=ps) (js:=pre) ks [] k hk (by simpa using hb)
 | x::suf,pre,0,hm,_=>by simp at hm
 | x::suf,pre,m+1,hm,hp=>by
  rw[r56_2]
  unfold C56_2 B56_2
  simp only[List.length_cons] at hm hp
  simp only[aj,aV,cw,bZ,cq,iJ,beq_refl,bY,gV,sv,len2,drop1_0,gj,dK,sv,gV,len2]
  rw[vX (by simp; unfold big at hp; omega),aj,dV (a:=x) (sbig (by omega)),aj]
  simpa using l50_2 hl hk hb suf (pre++[x]) m (by omega) (by simp; omega)
theorem l50_1{l k:Nat}(hl:1≤l){js:List Join}{ks:List Kd}(hk:ks.length<k)(hj:js.length<k)(hb:ks.length<big)(hjb:js.length<big):∀(suf pre:List Pad) (m:Nat),suf.length<m→pre.length+suf.length<big →
  S56_1 (K l) k m (dI pre.length) (gC ⟨pre++suf,js,ks⟩) (pre.map dPad)=some (dG ⟨pre++suf,js,ks⟩)
 | [],pre,0,hm,_=>by simp at hm
 | [],pre,m+1,_,_=>by
  rw[r56_1]
  unfold C56_1 B56_1
  simp only[aj,aV,ev,bY,List.append_nil,gV,dX,gV]
  simpa using l50_2 hl (k:=k) (ps:=pre) hk hb js [] k hj (by simpa using hjb)
 | x::suf,pre,0,hm,_=>by simp at hm
 | x::suf,pre,m+1,hm,hp=>by
  rw[r56_1]
  unfold C56_1 B56_1
  simp only[List.length_cons] at hm hp
  simp only[aj,aV,cw,bZ,cq,iJ,beq_refl,bY,gV,len2,drop1_0,gj,dK,gV,len2]
  rw[vX (by simp; unfold big at hp; omega),aj,dV (a:=x) (sbig (by omega)),aj]
  simpa using l50_1 hl hk hj hb hjb suf (pre++[x]) m (by omega) (by simp; omega)
def Uj(g:Grove):Prop:=g.pads.length<100∧g.joins.length<100∧g.kinds.length<100
def sx(f:Fld):Prop:=Uj f.g∧f.start.length<100∧f.eats.length<100
theorem s56{l:Nat}(hl:2≤l){g:Grove}(h:Uj g):pcD P (K l) 56 [dG g]=some (dG g):=by
 obtain⟨l,rfl⟩:=lev hl
 refine vw ?_ (by kernel_rfl)
 rw[c56]
 unfold C56_0 B56_0
 obtain⟨h1,h2,h3⟩:=h
 simp only[aj,cw]
 simpa using l50_1 (l:=l+1) (by omega) (k:=19999) (js:=g.joins) (ks:=g.kinds) (by omega) (by omega) (by unfold big; omega) (by unfold big; omega) g.pads [] 19999 (by omega) (by show 0+_<big; unfold big; omega)
theorem s18{l:Nat}(hl:3≤l){f:Fld}(h:sx f):pcD P (K l) 18 [dF f]=some (dF f):=by
 obtain⟨l,rfl⟩:=lev hl
 refine vw ?_ (by kernel_rfl)
 rw[c18]
 unfold C18_0 B18_0
 obtain⟨h1,h2,h3⟩:=h
 rw[cw,aj,cut53,aj,getD3,aj,Xk,aj,s56 (l:=l+2) (by omega) h1,aj,s27 (l:=l+2) (by omega) (xs:=f.start) (by unfold big; omega),aj,s27 (l:=l+2) (by omega) (xs:=f.eats) (by unfold big; omega),aj,fillF,aj,spl5,aj,cut5,aj]
end Go.Proofs.YtcjnaeimeilomaaGreat.L
end
section
open Go Go.Ev
set_option maxRecDepth 100000
namespace Go.Proofs.YtcjnaeimeilomaaGreat.L
def inR(n lo hi:Int):Bool:=decide (lo≤n) && decide (n≤hi)
theorem iV{b:Bool}{p q:Option D}:ifU (.v (.bool b)) p q=if b then p else q:=ifU_b
theorem someIf2{b c:Bool}:(if b=true then some (dB c) else some (.v (.bool false)))=some (dB (b && c)):=by cases b <;> rfl
theorem zq{p:Prop}[Decidable p]{c:Bool}:(if p then some (dB c) else some (.v (.bool false)))=some (dB (decide p && c)):=by by_cases h:p <;> simp [h]
theorem s35{l:Nat}(hl:1≤l){n lo hi:Int}:pcD P (K l) 35 [dI n,dI lo,dI hi]=some (dB (inR n lo hi)):=by
 obtain⟨l,rfl⟩:=lev hl
 refine eK ?_
 rw[c35]
 unfold C35_0 B35_0
 simp only[aj,dQ,mX,sW,zq]
 rfl
theorem s105{l:Nat}(hl:2≤l){lo hi:Int}:pcD P (K l) 105 [dI lo,dI hi]=some (dB (inR lo 0 hi && decide (hi≤1000))):=by
 obtain⟨l,rfl⟩:=lev hl
 refine eK ?_
 rw[c105]
 unfold C105_0 B105_0
 simp only[aj,mX,s35 (l:=l+1) (by omega),iV,someIf2]
theorem s51{l:Nat}(hl:1≤l){g:Grove}{xs:List Int}:pcD P (K l) 51 [dG g,dL xs]=some (dB (decide (g.pads.length≤11∧g.joins.length≤19∧g.kinds.length≤6∧xs.length≤11))):=by
 obtain⟨l,rfl⟩:=lev hl
 refine eK ?_
 rw[c51]
 unfold C51_0 B51_0
 simp only[aj,aV,cw,dQ,mX,bY,gV,sv,OQ,List.length_map,zq]
 simp []
 norm_cast
theorem l46{l k:Nat}:∀(suf pre:List (List Int)) (m:Nat),min suf.length (400-pre.length)<m→pre.length≤311 →
  ∃ b,S52_1 (K l) k m (dLL (pre++suf)) (dI pre.length)=some (dB b)∧(b=true→(pre++suf).length≤310∧∀ x ∈ suf,x.length≤11)
 | [],pre,0,hm,_=>by simp at hm
 | [],pre,m+1,_,_=>by
  rw[r52_1]
  unfold C52_1 B52_1 C52_2 B52_2
  simp only[aj,aV,dQ,ev,mX,mY,bY,List.append_nil,dX]
  refine⟨_,rfl,fun h=>?_⟩
  simp at h ⊢
  try omega
 | x::suf,pre,0,hm,hp=>by first | (simp at hm; done) | (simp at hm; omega)
 | x::suf,pre,m+1,hm,hp=>by
  rw[r52_1]
  unfold C52_1 B52_1 C52_2 B52_2
  simp only[List.length_cons] at hm
  simp only[aj,aV,bZ,mZ,dQ,iJ,ev,mX,mY,bY,gj,dK]
  rw[fW,aj]
  by_cases h1:pre.length<311
  ·have h1' : decide ((pre.length : Int) < 311) = true := by simp; omega
   simp only[h1',iJ]
   by_cases h2:x.length≤11
   ·rw [if_neg (by simp; omega), dV (a := x) (by omega), aj]
    obtain⟨b,e,hb⟩:=l46 (l:=l) (k:=k) suf (pre++[x]) m (by simp; omega) (by simp; omega)
    refine⟨b,by simpa using e,fun q=>?_⟩
    obtain⟨q1,q2⟩:=hb q
    refine⟨by simpa using q1,fun y hy=>?_⟩
    rcases List.mem_cons.1 hy with rfl | hy
    ·exact h2
    ·exact q2 y hy
   ·rw [if_pos (by simp; omega)]
    exact⟨false,rfl,fun q=>by cases q⟩
  ·have h1' : decide ((pre.length : Int) < 311) = false := by simp; omega
   simp only[h1',ev]
   refine⟨_,rfl,fun q=>?_⟩
   simp at q; omega
theorem s52{l:Nat}(hl:1≤l){xs:List (List Int)}:∃ b,pcD P (K l) 52 [dLL xs]=some (dB b)∧(b=true→xs.length≤310∧∀ x ∈ xs,x.length≤11):=by
 obtain⟨l,rfl⟩:=lev hl
 obtain⟨b,e,h⟩:=l46 (l:=l) (k:=19999) xs [] 19999 (by simp; omega) (by simp)
 refine⟨b,eK ?_,by simpa using h⟩
 rw[c52]
 unfold C52_0 B52_0
 simpa using e
theorem s15{l:Nat}(hl:2≤l){f:Fld}{xs:List (List Int)}:∃ b,pcD P (K l) 15 [dF f,dLL xs]=some (dB b) ∧
  (b=true→(f.g.pads.length≤11∧f.g.joins.length≤19∧f.g.kinds.length≤6∧f.start.length≤11)∧f.eats.length≤11∧xs.length≤310∧∀ x ∈ xs,x.length≤11):=by
 obtain⟨l,rfl⟩:=lev hl
 obtain⟨b,e,h⟩:=s52 (l:=l+1) (by omega) (xs:=xs)
 refine⟨decide (f.g.pads.length≤11∧f.g.joins.length≤19∧f.g.kinds.length≤6∧f.start.length≤11) && (decide (f.eats.length≤11) && b),eK ?_,fun q=>?_⟩
 ·rw [c15]
  unfold C15_0 B15_0
  rw[cw,aj,cut53,aj,getD3,aj,s51 (l:=l+1) (by omega),aj,Xk,aj,aV,aj,bY,mX,aj,e,aj,iV,iV]
  have:decide (((f.eats.map dI).length:Int)≤11)=decide (f.eats.length≤11):=by simp; norm_cast
  rw[this]
  cases decide (f.eats.length≤11) <;> cases decide (f.g.pads.length≤11∧f.g.joins.length≤19∧f.g.kinds.length≤6∧f.start.length≤11) <;> rfl
 ·simp only [Bool.and_eq_true, decide_eq_true_eq] at q
  exact⟨q.1,q.2.1,h q.2.2⟩
end Go.Proofs.YtcjnaeimeilomaaGreat.L
end
section
open Go Go.Ev
set_option maxRecDepth 100000
namespace Go.Proofs.YtcjnaeimeilomaaGreat.L
theorem eq_two{t:TypeId}{p q:Operand}{x y a b:Int}(hK:zW P t=some 2)(hG:P.eqGuardType P.depth t=false):binD P .eql t p q (.agg [dI x,dI y]) (.agg [dI a,dI b])=some (dB (decide (x=a) && decide (y=b))):=by
 have h2:kz [.int .i64 x,.int .i64 y] [.int .i64 a,.int .i64 b]=some (decide (x=a) && decide (y=b)):=by
  simp only[kz,decide_true]
  cases decide (x=a) <;> cases decide (y=b) <;> rfl
 have hb:binV P .eql t p q (.agg ⟨[.int .i64 x,.int .i64 y]⟩) (.agg ⟨[.int .i64 a,.int .i64 b]⟩)=some (.bool (decide (x=a) && decide (y=b))):=by
  have h0:uw .eql (.agg ⟨[.int .i64 x,.int .i64 y]⟩) (.agg ⟨[.int .i64 a,.int .i64 b]⟩)=none:=rfl
  have h1:(bz (.agg ⟨[.int .i64 x,.int .i64 y]⟩) && bz (.agg ⟨[.int .i64 a,.int .i64 b]⟩))=true:=rfl
  unfold binV
  rw[h0]
  unfold HW
  simp only[h1,DK,aggEq,hK,hG,List.length_cons,List.length_nil,h2]
  rfl
 unfold binD
 simp only[valD,Px,hb,Pw]
 rfl
def XJ(p:Pad):Bool:=inR p.need 0 p.room && decide (p.room≤1000)
def kdOk(p:Kd):Bool:=inR p.young 0 1000 && ((inR p.olo 0 p.ohi && decide (p.ohi≤1000)) && (inR p.nlo 0 p.nhi && decide (p.nhi≤1000)))
def oV(j o:Join):Bool:=(decide (o.a=j.a) && decide (o.b=j.b)) || (decide (o.a=j.b) && decide (o.b=j.a))
def hasP(n:Nat)(a:Int):Bool:=inR a 0 (n-1)
def Gj(n:Nat)(js:List Join)(j:Join):Bool:=hasP n j.a && (hasP n j.b && (!decide (j.a=j.b) && decide ((js.filter (oV j)).length=1)))
theorem s114{l:Nat}(hl:1≤l){p:Pad}:pcD P (K l) 114 [dPad p]=some (dB (XJ p)):=by
 obtain⟨l,rfl⟩:=lev hl
 refine eK ?_
 rw[c114]
 unfold SZ B114_0
 simp only[aj,cw,dQ,mX,sW,gV,sv,zq]
 unfold XJ inR
 simp [Bool.and_assoc]
theorem s129{l:Nat}(hl:1≤l){a b:Int}:pcD P (K l) 129 [.agg [dI a,dI b]]=some (dB (inR a 0 b && decide (b≤1000))):=by
 obtain⟨l,rfl⟩:=lev hl
 refine eK ?_
 rw[c129]
 unfold TZ B129_0
 simp only[aj,cw,dQ,mX,sW,gV,sv,zq]
 unfold inR
 simp [Bool.and_assoc]
theorem s118{l:Nat}(hl:2≤l){p:Kd}:pcD P (K l) 118 [dKd p]=some (dB (kdOk p)):=by
 obtain⟨l,rfl⟩:=lev hl
 refine eK ?_
 rw[c118]
 unfold Tk B118_0
 simp only[aj,cw,mX,sW,gV,cut512,cut532,s129 (l:=l+1) (by omega),iV,zq]
 unfold kdOk inR
 simp [Bool.and_assoc]
theorem s128{l:Nat}(hl:1≤l){g:Grove}{a:Int}:pcD P (K l) 128 [dG g,dI a]=some (dB (hasP g.pads.length a)):=by
 obtain⟨l,rfl⟩:=lev hl
 refine eK ?_
 rw[c128]
 unfold TY B128_0
 simp only[aj,aV,cw,dQ,sW,bY,gV,fW,List.length_map,zq]
 unfold hasP inR
 congr 5
 simp; omega
theorem l106{l k:Nat}{g:FuncId}{a b:List D}{p:Pad→Bool}:∀(suf pre:List Pad) (m:Nat),suf.length<m→pre.length+suf.length<big→(∀ x ∈ suf,pcD P (K l) g (a++[dPad x]++b)=some (dB (p x))) →
  Fw (K l) k m (.fn g a b) (.sl ((pre++suf).map dPad)) (dI ((pre++suf).map dPad).length) (dI pre.length)=some (dB (suf.all p))
 | [],pre,0,hm,_,_=>by simp at hm
 | [],pre,m+1,_,_,_=>by
  rw[r113_1]
  unfold Fv B113_1
  simp only[aj,aV,qV,ev,List.append_nil,dX]
  rfl
 | x::suf,pre,0,hm,_,_=>by simp at hm
 | x::suf,pre,m+1,hm,hb,h=>by
  rw[r113_1]
  unfold Fv B113_1
  simp only[List.length_cons] at hm hb
  simp only[aj,aV,cw,qV,bZ,iJ,beq_refl,cut2,spl2,len2,gj,dK,dV (a:=x) (sbig (show pre.length<big by omega))]
  have hx:=h x (by simp)
  simp only[List.append_assoc,List.cons_append,List.nil_append] at hx ⊢
  rw[hx,aj,ew,aj,iV]
  have ih:=l106 (k:=k) suf (pre++[x]) m (by omega) (by simp; omega) (fun y hy=>h y (by simp [hy]))
  simp only[List.append_assoc,List.cons_append,List.nil_append] at ih
  rw[ih]
  cases hp:p x <;> simp [List.all_cons,hp]
theorem s113{l:Nat}(hl:1≤l){g:FuncId}{a b:List D}{p:Pad→Bool}{xs:List Pad}(hx:xs.length<1000)(h:∀ x ∈ xs,pcD P (K (l-1)) g (a++[dPad x]++b)=some (dB (p x))):pcD P (K l) 113 [.sl (xs.map dPad),.fn g a b]=some (dB (xs.all p)):=by
 obtain⟨l,rfl⟩:=lev hl
 refine eK ?_
 rw[c113]
 unfold SY SX
 simp only[aV,aj,bY]
 simpa using l106 (l:=l) (k:=19999) xs [] 19999 (by omega) (by show 0+_<big; unfold big; omega) h
theorem l108{l k:Nat}{g:FuncId}{a b:List D}{p:Join→Bool}:∀(suf pre:List Join) (m:Nat),suf.length<m→pre.length+suf.length<big→(∀ x ∈ suf,pcD P (K l) g (a++[sY x]++b)=some (dB (p x))) →
  Fy (K l) k m (.fn g a b) (.sl ((pre++suf).map sY)) (dI ((pre++suf).map sY).length) (dI pre.length)=some (dB (suf.all p))
 | [],pre,0,hm,_,_=>by simp at hm
 | [],pre,m+1,_,_,_=>by
  rw[r115_1]
  unfold Fx B115_1
  simp only[aj,aV,qV,ev,List.append_nil,dX]
  rfl
 | x::suf,pre,0,hm,_,_=>by simp at hm
 | x::suf,pre,m+1,hm,hb,h=>by
  rw[r115_1]
  unfold Fx B115_1
  simp only[List.length_cons] at hm hb
  simp only[aj,aV,cw,qV,bZ,iJ,beq_refl,cut2,spl2,len2,gj,dK,dV (a:=x) (sbig (show pre.length<big by omega))]
  have hx:=h x (by simp)
  simp only[List.append_assoc,List.cons_append,List.nil_append] at hx ⊢
  rw[hx,aj,ew,aj,iV]
  have ih:=l108 (k:=k) suf (pre++[x]) m (by omega) (by simp; omega) (fun y hy=>h y (by simp [hy]))
  simp only[List.append_assoc,List.cons_append,List.nil_append] at ih
  rw[ih]
  cases hp:p x <;> simp [List.all_cons,hp]
theorem s115{l:Nat}(hl:1≤l){g:FuncId}{a b:List D}{p:Join→Bool}{xs:List Join}(hx:xs.length<1000)(h:∀ x ∈ xs,pcD P (K (l-1)) g (a++[sY x]++b)=some (dB (p x))):pcD P (K l) 115 [.sl (xs.map sY),.fn g a b]=some (dB (xs.all p)):=by
 obtain⟨l,rfl⟩:=lev hl
 refine eK ?_
 rw[c115]
 unfold Tj SK
 simp only[aV,aj,bY]
 simpa using l108 (l:=l) (k:=19999) xs [] 19999 (by omega) (by show 0+_<big; unfold big; omega) h
theorem l110{l k:Nat}{g:FuncId}{a b:List D}{p:Kd→Bool}:∀(suf pre:List Kd) (m:Nat),suf.length<m→pre.length+suf.length<big→(∀ x ∈ suf,pcD P (K l) g (a++[dKd x]++b)=some (dB (p x))) →
  FV (K l) k m (.fn g a b) (.sl ((pre++suf).map dKd)) (dI ((pre++suf).map dKd).length) (dI pre.length)=some (dB (suf.all p))
 | [],pre,0,hm,_,_=>by simp at hm
 | [],pre,m+1,_,_,_=>by
  rw[r117_1]
  unfold FQ B117_1
  simp only[aj,aV,qV,ev,List.append_nil,dX]
  rfl
 | x::suf,pre,0,hm,_,_=>by simp at hm
 | x::suf,pre,m+1,hm,hb,h=>by
  rw[r117_1]
  unfold FQ B117_1
  simp only[List.length_cons] at hm hb
  simp only[aj,aV,cw,qV,bZ,iJ,beq_refl,cut5,spl5,len5,gj,dK,dV (a:=x) (sbig (show pre.length<big by omega))]
  have hx:=h x (by simp)
  simp only[List.append_assoc,List.cons_append,List.nil_append] at hx ⊢
  rw[hx,aj,ew,aj,iV]
  have ih:=l110 (k:=k) suf (pre++[x]) m (by omega) (by simp; omega) (fun y hy=>h y (by simp [hy]))
  simp only[List.append_assoc,List.cons_append,List.nil_append] at ih
  rw[ih]
  cases hp:p x <;> simp [List.all_cons,hp]
theorem s117{l:Nat}(hl:1≤l){g:FuncId}{a b:List D}{p:Kd→Bool}{xs:List Kd}(hx:xs.length<1000)(h:∀ x ∈ xs,pcD P (K (l-1)) g (a++[dKd x]++b)=some (dB (p x))):pcD P (K l) 117 [.sl (xs.map dKd),.fn g a b]=some (dB (xs.all p)):=by
 obtain⟨l,rfl⟩:=lev hl
 refine eK ?_
 rw[c117]
 unfold Tz Tx
 simp only[aV,aj,bY]
 simpa using l110 (l:=l) (k:=19999) xs [] 19999 (by omega) (by show 0+_<big; unfold big; omega) h
theorem l72{l k:Nat}{g:FuncId}{a b:List D}{p:Int→Bool}:∀(suf pre:List Int) (m:Nat),suf.length<m→pre.length+suf.length<big→(∀ x ∈ suf,pcD P (K l) g (a++[dI x]++b)=some (dB (p x))) →
  Wk (K l) k m (.fn g a b) (.sl ((pre++suf).map dI)) (dI ((pre++suf).map dI).length) (dI pre.length)=some (dB (suf.all p))
 | [],pre,0,hm,_,_=>by simp at hm
 | [],pre,m+1,_,_,_=>by
  rw[r79_1]
  unfold Wz B79_1
  simp only[aj,aV,qV,ev,List.append_nil,dX]
  rfl
 | x::suf,pre,0,hm,_,_=>by simp at hm
 | x::suf,pre,m+1,hm,hb,h=>by
  rw[r79_1]
  unfold Wz B79_1
  simp only[List.length_cons] at hm hb
  simp only[aj,aV,qV,bZ,cq,iJ,gj,dK,dV (a:=x) (sbig (show pre.length<big by omega))]
  have hx:=h x (by simp)
  simp only[List.append_assoc,List.cons_append,List.nil_append] at hx ⊢
  rw[hx,aj,ew,aj,iV]
  have ih:=l72 (k:=k) suf (pre++[x]) m (by omega) (by simp; omega) (fun y hy=>h y (by simp [hy]))
  simp only[List.append_assoc,List.cons_append,List.nil_append] at ih
  rw[ih]
  cases hp:p x <;> simp [List.all_cons,hp]
theorem s79{l:Nat}(hl:1≤l){g:FuncId}{a b:List D}{p:Int→Bool}{xs:List Int}(hx:xs.length<1000)(h:∀ x ∈ xs,pcD P (K (l-1)) g (a++[dI x]++b)=some (dB (p x))):pcD P (K l) 79 [.sl (xs.map dI),.fn g a b]=some (dB (xs.all p)):=by
 obtain⟨l,rfl⟩:=lev hl
 refine eK ?_
 rw[c79]
 unfold C79_0 B79_0
 simp only[aV,aj,bY]
 simpa using l72 (l:=l) (k:=19999) xs [] 19999 (by omega) (by show 0+_<big; unfold big; omega) h
theorem l75{l k:Nat}{g:FuncId}{a b:List D}{p:(List Int)→Bool}:∀(suf pre:List (List Int)) (m:Nat),suf.length<m→pre.length+suf.length<big→(∀ x ∈ suf,pcD P (K l) g (a++[dL x]++b)=some (dB (p x))) →
  WQ (K l) k m (.fn g a b) (.sl ((pre++suf).map dL)) (dI ((pre++suf).map dL).length) (dI pre.length)=some (dB (suf.all p))
 | [],pre,0,hm,_,_=>by simp at hm
 | [],pre,m+1,_,_,_=>by
  rw[r82_1]
  unfold WJ B82_1
  simp only[aj,aV,qV,ev,List.append_nil,dX]
  rfl
 | x::suf,pre,0,hm,_,_=>by simp at hm
 | x::suf,pre,m+1,hm,hb,h=>by
  rw[r82_1]
  unfold WJ B82_1
  simp only[List.length_cons] at hm hb
  simp only[aj,aV,qV,bZ,mZ,iJ,gj,dK,dV (a:=x) (sbig (show pre.length<big by omega))]
  have hx:=h x (by simp)
  simp only[List.append_assoc,List.cons_append,List.nil_append] at hx ⊢
  rw[hx,aj,ew,aj,iV]
  have ih:=l75 (k:=k) suf (pre++[x]) m (by omega) (by simp; omega) (fun y hy=>h y (by simp [hy]))
  simp only[List.append_assoc,List.cons_append,List.nil_append] at ih
  rw[ih]
  cases hp:p x <;> simp [List.all_cons,hp]
theorem s82{l:Nat}(hl:1≤l){g:FuncId}{a b:List D}{p:(List Int)→Bool}{xs:List (List Int)}(hx:xs.length<1000)(h:∀ x ∈ xs,pcD P (K (l-1)) g (a++[dL x]++b)=some (dB (p x))):pcD P (K l) 82 [.sl (xs.map dL),.fn g a b]=some (dB (xs.all p)):=by
 obtain⟨l,rfl⟩:=lev hl
 refine eK ?_
 rw[c82]
 unfold C82_0 B82_0
 simp only[aV,aj,bY]
 simpa using l75 (l:=l) (k:=19999) xs [] 19999 (by omega) (by show 0+_<big; unfold big; omega) h
end Go.Proofs.YtcjnaeimeilomaaGreat.L
end
section
open Go Go.Ev
set_option maxRecDepth 100000
namespace Go.Proofs.YtcjnaeimeilomaaGreat.L
theorem l109{l k:Nat}(hl:1≤l){g:Grove}{j:Join}:∀(suf pre:List Join) (m c:Nat),suf.length<m→pre.length+suf.length<big→c+suf.length<big →
  FJ (K l) k m (dI (c:Nat)) (.sl ((pre++suf).map sY)) (dI ((pre++suf).map sY).length) (dI pre.length) (gC g) [dI j.a,dI j.b] =
   some (dB (hasP g.pads.length j.a && (hasP g.pads.length j.b && (!decide (j.a=j.b) && decide (c+(suf.filter (oV j)).length=1)))))
 | [],pre,0,c,hm,_,_=>by simp at hm
 | [],pre,m+1,c,_,_,_=>by
  rw[r116_1]
  unfold Fk LZ
  simp only[aj,aV,bZ,cq,kV,jV,List.append_nil,gV,sv,cut2,cut3,dX,s128 hl,iV]
  have e:decide ((c:Int)=1)=decide (c+([]:List Join).length=1):=by simp; omega
  simp only[List.filter_nil,e]
  cases hasP g.pads.length j.a <;> cases hasP g.pads.length j.b <;> cases decide (j.a=j.b) <;> rfl
 | x::suf,pre,0,c,hm,_,_=>by simp at hm
 | x::suf,pre,m+1,c,hm,hb,hc=>by
  rw[r116_1]
  unfold Fk LZ Tq B116_2 C116_3 B116_3
  simp only[List.length_cons] at hm hb hc
  simp only[aj,aV,cw,bZ,cq,if_true,kV,jV,beq_refl,gV,sv,cut2,cut3,spl2,len2,gj,dK,eq_two (t:=131) (by kernel_rfl) (by kernel_rfl),dV (a:=x) (sbig (show pre.length<big by omega)),lJ (k:=c) (sbig (by omega)),iV]
  have ih0:=l109 (k:=k) hl (g:=g) (j:=j) suf (pre++[x]) m c (by omega) (by simp; omega) (by omega)
  have ih1:=l109 (k:=k) hl (g:=g) (j:=j) suf (pre++[x]) m (c+1) (by omega) (by simp; omega) (by omega)
  simp only[List.append_assoc,List.cons_append,List.nil_append] at ih0 ih1
  rw[ih0,ih1]
  have hf:((x::suf).filter (oV j)).length=(if oV j x then 1 else 0)+(suf.filter (oV j)).length:=by
   rw[List.filter_cons]
   split <;> simp; omega
  rw[hf]
  unfold oV
  by_cases h1:(decide (x.a=j.a) && decide (x.b=j.b))=true
  ·simp only [h1, if_true, Bool.true_or]
   congr 5
   simp; omega
  ·by_cases h2 : (decide (x.a = j.b) && decide (x.b = j.a)) = true
   ·simp only [Bool.not_eq_true] at h1
    simp only[h1,h2,Bool.false_or,if_true,Bool.false_eq_true,if_false]
    congr 5
    simp; omega
   ·simp only [Bool.not_eq_true] at h1 h2
    simp only[h1,h2,Bool.false_or,Bool.false_eq_true,if_false,Nat.zero_add]
theorem s116{l:Nat}(hl:2≤l){g:Grove}(hg:g.joins.length<1000){j:Join}:pcD P (K l) 116 [dG g,sY j]=some (dB (Gj g.pads.length g.joins j)):=by
 obtain⟨l,rfl⟩:=lev hl
 refine eK ?_
 rw[c116]
 unfold Tw Tv
 simp only[aj,aV,cw,bY,sv,List.length_map]
 have:=l109 (l:=l+1) (k:=19999) (by omega) (g:=g) (j:=j) g.joins [] 19999 0 (by omega) (by show 0+_<big; unfold big; omega) (by unfold big; omega)
 unfold Gj
 simpa using this
def gLim(g:Grove):Bool:=decide (8<g.pads.length) || (decide (16<g.joins.length) || decide (3<g.kinds.length))
def gGood(g:Grove):Bool:=!decide (g.pads.length=0) && (!decide (g.kinds.length=0) && (g.pads.all XJ && (g.joins.all (Gj g.pads.length g.joins) && g.kinds.all kdOk)))
def gErr(g:Grove):Int:=if gLim g then 3 else if gGood g then 0 else 1
theorem s102{l:Nat}(hl:4≤l){g:Grove}(hs:Uj g):pcD P (K l) 102 [dG g]=some (dI (gErr g)):=by
 obtain⟨l,rfl⟩:=lev hl
 refine eK ?_
 obtain⟨h1,h2,h3⟩:=hs
 rw[c102]
 unfold Sz Sy Sx Sw Sv Sq Sj B102_3
 have e1:=s113 (l:=l+3) (by omega) (g:=114) (a:=[]) (b:=[]) (p:=XJ) (xs:=g.pads) (by omega) (fun x _=>s114 (by omega))
 have e2:=s115 (l:=l+3) (by omega) (g:=116) (a:=[dG g]) (b:=[]) (p:=Gj g.pads.length g.joins) (xs:=g.joins) (by omega) (fun x _=>s116 (by omega) (by omega))
 have e3:=s117 (l:=l+3) (by omega) (g:=118) (a:=[]) (b:=[]) (p:=kdOk) (xs:=g.kinds) (by omega) (fun x _=>s118 (by omega))
 simp only[cw,aj,gV,sv,OQ,aV,bY,mY,kV,cut3,e1,e2,e3,ew,iV]
 have q1:decide ((8:Int)<((g.pads.map dPad).length:Nat))=decide (8<g.pads.length):=by simp; norm_cast
 have q2:decide ((16:Int)<((g.joins.map sY).length:Nat))=decide (16<g.joins.length):=by simp; norm_cast
 have q3:decide ((3:Int)<((g.kinds.map dKd).length:Nat))=decide (3<g.kinds.length):=by simp; norm_cast
 have q4:decide ((((g.pads.map dPad).length:Nat):Int)=0)=decide (g.pads.length=0):=by simp
 have q5:decide ((((g.kinds.map dKd).length:Nat):Int)=0)=decide (g.kinds.length=0):=by simp
 rw[q1,q2,q3,q4,q5]
 unfold gErr gLim gGood
 cases decide (8<g.pads.length) <;> cases decide (16<g.joins.length) <;> cases decide (3<g.kinds.length) <;> cases decide (g.pads.length=0) <;> cases decide (g.kinds.length=0) <;> cases g.pads.all XJ <;>
  cases g.joins.all (Gj g.pads.length g.joins) <;> cases g.kinds.all kdOk <;> rfl
theorem s77{l:Nat}(hl:5≤l){g:Grove}(hs:Uj g):pcD P (K l) 77 [dG g]=some (dI (gErr g)):=by
 obtain⟨l,rfl⟩:=lev hl
 refine eK ?_
 rw[c77]
 unfold C77_0 B77_0
 simp only[cw,aj,cut3,s102 (l:=l+4) (by omega) hs]
end Go.Proofs.YtcjnaeimeilomaaGreat.L
end
section
open Go Go.Ev
set_option maxRecDepth 100000
namespace Go.Proofs.YtcjnaeimeilomaaGreat.L
def jR(n:Nat):List Join→List Join→Bool
 | _,[]=>true
 | pre,j::suf=>hasP n j.a && (hasP n j.b && (!decide (j.a=j.b) && (!pre.any (oV j) && jR n (pre++[j]) suf)))
theorem l80_8{l k m1:Nat}{b6:D→List D→Option D}{ps:List Pad}{js:List Join}{ks:List Kd}{i:Nat}{j:Join}{tail:List Join}(hi:i<big):∀(rest don:List Join) (m:Nat),rest.length<m→js=don++(rest++tail)→i=don.length+rest.length →
  S87_8 (K l) k m1 b6 m (dI (i:Nat)) (dI don.length) (gC ⟨ps,js,ks⟩) [dI j.a,dI j.b]=if rest.any (oV j) then some (dI 1) else b6 (dI ((i+1:Nat):Int)) (gC ⟨ps,js,ks⟩)
 | [],don,0,hm,_,_=>by simp at hm
 | [],don,m+1,_,_,he=>by
  rw[r87_8]
  unfold C87_8 B87_8
  rw[fW,aj,dQ,if_neg (by simp at he; omega),lJ (k:=i) (sbig hi)]
  rfl
 | x::rest,don,0,hm,_,_=>by simp at hm
 | x::rest,don,m+1,hm,hj,he=>by
  rw[r87_8]
  unfold C87_8 B87_8 C87_9 B87_9
  simp only[List.length_cons] at hm he
  rw[fW,aj,dQ,if_pos (by omega)]
  have hj':js=don++x::(rest++tail):=by rw[hj]; simp
  have ih:=l80_8 (l:=l) (k:=k) (m1:=m1) (b6:=b6) (ps:=ps) (ks:=ks) (j:=j) (tail:=tail) (js:=js) hi rest (don++[x]) m (by omega) (by rw[hj]; simp) (by simp; omega)
  subst hj'
  simp only[aj,aV,cw,bZ,if_true,kV,beq_refl,gV,sv,cut2,spl2,len2,gj,eq_two (t:=89) (by kernel_rfl) (by kernel_rfl),iV,dV (a:=x) (sbig (show don.length<big by omega))]
  rw[ih]
  unfold oV
  simp only[List.any_cons]
  rcases Bool.eq_false_or_eq_true (decide (x.a=j.a)) with h10 | h10 <;> rcases Bool.eq_false_or_eq_true (decide (x.b=j.b)) with h11 | h11 <;> rcases Bool.eq_false_or_eq_true (decide (x.a=j.b)) with h12 | h12 <;> rcases Bool.eq_false_or_eq_true (decide (x.b=j.a)) with h13 | h13 <;> simp only[h10,h11,h12,h13] <;> simp
theorem l80_6{l k:Nat}(hl:1≤l){ps:List Pad}{ks:List Kd}(hps:ps.length<big):∀(suf pre:List Join) (m:Nat),pre.length+2 * suf.length<m→pre.length+suf.length<big →
  S87_6 (K l) k m (dI pre.length) (gC ⟨ps,pre++suf,ks⟩)=some (dI (if jR ps.length pre suf then 0 else 1))
 | [],pre,0,hm,_=>by simp at hm
 | [],pre,m+1,_,_=>by
  rw[r87_6]
  unfold C87_6 B87_6
  simp only[aj,aV,ev,bY,List.append_nil,gV,sv,dX]
  rfl
 | x::suf,pre,0,hm,_=>by simp at hm
 | x::suf,pre,m+1,hm,hb=>by
  rw[r87_6]
  unfold C87_6 B87_6 C87_7 B87_7
  simp only[List.length_cons] at hm hb
  have hsub:I64 ((((ps.map dPad).length:Nat):Int)-1):=by unfold I64; simp; unfold big at hps; omega
  have h8:=l80_8 (l:=l) (k:=k) (m1:=m+1) (b6:=S87_6 (K l) k m) (ps:=ps) (ks:=ks) (j:=x) (tail:=x::suf) (js:=pre++x::suf) (i:=pre.length) (show pre.length<big by omega) pre [] (m+1) (by omega) rfl (by simp)
  have ih:=l80_6 (k:=k) hl (ks:=ks) hps suf (pre++[x]) m (by simp; omega) (by simp; omega)
  simp only[List.append_assoc,List.cons_append,List.nil_append] at ih
  simp only[aj,aV,cw,bZ,if_true,kV,ew,beq_refl,bY,gV,sv,cut2,spl2,len2,gj,dK,AZ hsub,s35 hl,iV]
  simp only[List.length_nil] at h8
  have h8':=h8
  simp only[Int.cast_ofNat_Int] at h8'
  have e0:(dI ((0:Nat):Int))=(.v (.int .i64 0):D):=rfl
  rw[e0] at h8
  simp only[List.length_append,List.length_cons,List.length_nil,Nat.zero_add] at ih
  rw[h8,ih]
  have en:(((ps.map dPad).length:Nat):Int)-1=(ps.length:Int)-1:=by simp
  simp only[jR,hasP,en]
  rcases Bool.eq_false_or_eq_true (inR x.a 0 (↑ps.length-1)) with h10 | h10 <;> rcases Bool.eq_false_or_eq_true (inR x.b 0 (↑ps.length-1)) with h11 | h11 <;> rcases Bool.eq_false_or_eq_true (decide (x.a=x.b)) with h12 | h12 <;> rcases Bool.eq_false_or_eq_true (pre.any (oV x)) with h13 | h13 <;> simp only[h10,h11,h12,h13] <;> simp
theorem l80_4{l k:Nat}(hl:2≤l){ps:List Pad}{js:List Join}(hps:ps.length<big)(hjs:js.length<1000)(hk:5000<k):∀(suf pre:List Kd) (m:Nat),suf.length<m→pre.length+suf.length<big →
  S87_4 (K l) k m (dI pre.length) (gC ⟨ps,js,pre++suf⟩)=some (dI (if suf.all kdOk && jR ps.length [] js then 0 else 1))
 | [],pre,0,hm,_=>by simp at hm
 | [],pre,m+1,_,_=>by
  rw[r87_4]
  unfold C87_4 B87_4
  simp only[aj,aV,ev,bY,List.append_nil,OQ,dX]
  have:=l80_6 (l:=l) (k:=k) (by omega) (ks:=pre) hps js [] k (by simp; omega) (by show 0+_<big; unfold big; omega)
  simpa using this
 | x::suf,pre,0,hm,_=>by simp at hm
 | x::suf,pre,m+1,hm,hb=>by
  rw[r87_4]
  unfold C87_4 B87_4 C87_5 B87_5
  simp only[List.length_cons] at hm hb
  have ih:=l80_4 (k:=k) hl hps hjs hk suf (pre++[x]) m (by omega) (by simp; omega)
  simp only[List.append_assoc,List.cons_append,List.nil_append] at ih
  simp only[aj,aV,cw,bZ,if_true,ew,beq_refl,bY,gV,sv,OQ,getD3,Xk,cut5,spl5,len5,gj,dK,s35 (l:=l) (by omega),s105 hl,iV,dV (a:=x) (sbig (show pre.length<big by omega))]
  rw[ih]
  simp only[List.all_cons,kdOk]
  rcases Bool.eq_false_or_eq_true (inR x.young 0 1000) with h10 | h10 <;> rcases Bool.eq_false_or_eq_true (inR x.olo 0 x.ohi && decide (x.ohi≤1000)) with h11 | h11 <;> rcases Bool.eq_false_or_eq_true (inR x.nlo 0 x.nhi && decide (x.nhi≤1000)) with h12 | h12 <;> simp only[h10,h11,h12] <;> simp
theorem l80_3{l k:Nat}(hl:2≤l){js:List Join}{ks:List Kd}(hjs:js.length<1000)(hks:ks.length<1000)(hk:5000<k):∀(suf pre:List Pad) (m:Nat),suf.length<m→pre.length+suf.length<big →
  S87_3 (K l) k m (dI pre.length) (gC ⟨pre++suf,js,ks⟩)=some (dI (if suf.all XJ && (ks.all kdOk && jR (pre++suf).length [] js) then 0 else 1))
 | [],pre,0,hm,_=>by simp at hm
 | [],pre,m+1,_,hb=>by
  rw[r87_3]
  unfold C87_3 B87_3
  simp only[aj,aV,ev,bY,List.append_nil,gV,dX]
  have:=l80_4 (l:=l) (k:=k) hl (ps:=pre) (js:=js) (by simpa using hb) hjs hk ks [] k (by omega) (by show 0+_<big; unfold big; omega)
  simpa using this
 | x::suf,pre,0,hm,_=>by simp at hm
 | x::suf,pre,m+1,hm,hb=>by
  rw[r87_3]
  unfold C87_3 B87_3
  simp only[List.length_cons] at hm hb
  have ih:=l80_3 (k:=k) hl (js:=js) (ks:=ks) hjs hks hk suf (pre++[x]) m (by omega) (by simp; omega)
  simp only[List.append_assoc,List.cons_append,List.nil_append] at ih
  simp only[aj,aV,cw,bZ,if_true,ew,beq_refl,bY,gV,len2,drop1_0,gj,dK,s105 hl,iV,dV (a:=x) (sbig (show pre.length<big by omega))]
  rw[ih]
  simp only[List.all_cons,XJ]
  rcases Bool.eq_false_or_eq_true (inR x.need 0 x.room && decide (x.room≤1000)) with h10 | h10 <;> simp only[h10] <;> simp
def rGood(g:Grove):Bool:=!decide (g.pads.length=0) && (!decide (g.kinds.length=0) && (g.pads.all XJ && (g.kinds.all kdOk && jR g.pads.length [] g.joins)))
theorem s87{l:Nat}(hl:3≤l){g:Grove}(hs:Uj g):pcD P (K l) 87 [dG g]=some (dI (if gLim g then 3 else if rGood g then 0 else 1)):=by
 obtain⟨l,rfl⟩:=lev hl
 refine eK ?_
 obtain⟨h1,h2,h3⟩:=hs
 rw[c87]
 unfold C87_0 B87_0 C87_1 B87_1 C87_2 B87_2
 have e3:=l80_3 (l:=l+2) (k:=19999) (by omega) (js:=g.joins) (ks:=g.kinds) (by omega) (by omega) (by omega) g.pads [] 19999 (by omega) (by show 0+_<big; unfold big; omega)
 have e0:(dI (([]:List Pad).length:Nat))=(.v (.int .i64 0):D):=rfl
 rw[e0] at e3
 simp only[List.nil_append] at e3
 simp only[cw,aj,gV,sv,OQ,aV,bY,mY,kV,iV,e3]
 have q1:decide ((8:Int)<((g.pads.map dPad).length:Nat))=decide (8<g.pads.length):=by simp; norm_cast
 have q2:decide ((16:Int)<((g.joins.map sY).length:Nat))=decide (16<g.joins.length):=by simp; norm_cast
 have q3:decide ((3:Int)<((g.kinds.map dKd).length:Nat))=decide (3<g.kinds.length):=by simp; norm_cast
 have q4:decide ((((g.pads.map dPad).length:Nat):Int)=0)=decide (g.pads.length=0):=by simp
 have q5:decide ((((g.kinds.map dKd).length:Nat):Int)=0)=decide (g.kinds.length=0):=by simp
 rw[q1,q2,q3,q4,q5]
 unfold gLim rGood
 cases decide (8<g.pads.length) <;> cases decide (16<g.joins.length) <;> cases decide (3<g.kinds.length) <;> cases decide (g.pads.length=0) <;> cases decide (g.kinds.length=0) <;> rfl
end Go.Proofs.YtcjnaeimeilomaaGreat.L
end
section
open Go Go.Ev
set_option maxRecDepth 100000
namespace Go.Proofs.YtcjnaeimeilomaaGreat.L
def jB(n:Nat)(j:Join):Bool:=hasP n j.a && (hasP n j.b && !decide (j.a=j.b))
theorem alike_self(j:Join):oV j j=true:=by simp [oV]
theorem alike_sym(j o:Join):oV j o=oV o j:=by
 unfold oV
 rw[Bool.eq_iff_iff]
 simp only[Bool.or_eq_true,Bool.and_eq_true,decide_eq_true_eq]
 constructor
 ·rintro (⟨a, b⟩ | ⟨a, b⟩)
  ·exact .inl ⟨a.symm,b.symm⟩
  ·exact .inr ⟨b.symm,a.symm⟩
 ·rintro (⟨a, b⟩ | ⟨a, b⟩)
  ·exact .inl ⟨a.symm,b.symm⟩
  ·exact .inr ⟨b.symm,a.symm⟩
theorem jR_iff{n:Nat}:∀(suf pre:List Join),jR n pre suf=true↔(∀ j ∈ suf,jB n j=true)∧(∀ j ∈ suf,∀ o ∈ pre,oV j o=false)∧suf.Pairwise (fun o j=>oV j o=false)
 | [],pre=>by simp [jR]
 | x::suf,pre=>by
  simp only[jR,Bool.and_eq_true,Bool.not_eq_true',jR_iff suf (pre++[x]),List.pairwise_cons,List.mem_cons,List.mem_append,List.any_eq_false,decide_eq_false_iff_not]
  simp only[jB,Bool.and_eq_true,Bool.not_eq_true',decide_eq_false_iff_not]
  constructor
  ·rintro ⟨a, b, c, d, e, f, g⟩
   refine⟨?_,?_,?_,g⟩
   ·rintro j (rfl | hj)
    ·exact⟨a,b,c⟩
    ·exact e j hj
   ·rintro j (rfl | hj) o ho
    ·simpa using d o ho
    ·exact f j hj o (.inl ho)
   ·intro j hj
    exact f j hj x (.inr (.inl rfl))
  ·rintro ⟨e, f, g, h⟩
   refine⟨(e x (.inl rfl)).1,(e x (.inl rfl)).2.1,(e x (.inl rfl)).2.2,fun o ho=>by simpa using f x (.inl rfl) o ho,fun j hj=>e j (.inr hj),?_,h⟩
   rintro j hj o (ho | ho | ho)
   ·exact f j (.inr hj) o ho
   ·subst ho; exact g j hj
   ·cases ho
theorem pw_iff:∀ js:List Join,(∀ j ∈ js,(js.filter (oV j)).length=1)↔js.Pairwise (fun o j=>oV j o=false)
 | []=>by simp
 | x::js=>by
  rw[List.pairwise_cons,← pw_iff js]
  constructor
  ·intro h
   have hx:=h x (by simp)
   rw[List.filter_cons,if_pos (alike_self x)] at hx
   have h0:js.filter (oV x)=[]:=by
    simp only[List.length_cons] at hx
    exact List.length_eq_zero_iff.1 (by omega)
   have hn:∀ j ∈ js,oV j x=false:=fun j hj=>by
    rw[alike_sym]
    have:=List.filter_eq_nil_iff.1 h0 j hj
    simpa using this
   refine⟨hn,fun j hj=>?_⟩
   have:=h j (by simp [hj])
   rwa [List.filter_cons,if_neg (by simp [hn j hj])] at this
  ·rintro ⟨hn, h⟩ j hj
   rcases List.mem_cons.1 hj with rfl | hj
   ·rw [List.filter_cons, if_pos (alike_self j)]
    have h0:js.filter (oV j)=[]:=by
     rw[List.filter_eq_nil_iff]
     intro o ho
     have:=hn o ho
     rw[alike_sym] at this
     simp [this]
    rw[h0]; rfl
   ·rw [List.filter_cons, if_neg (by simp [hn j hj])]
    exact h j hj
theorem joins_eq{n:Nat}{js:List Join}:js.all (Gj n js)=jR n [] js:=by
 rw[Bool.eq_iff_iff,jR_iff]
 simp only[List.all_eq_true,Gj,Bool.and_eq_true,Bool.not_eq_true',decide_eq_true_eq,decide_eq_false_iff_not,jB]
 rw[← pw_iff]
 constructor
 ·intro h
  exact⟨fun j hj=>⟨(h j hj).1,(h j hj).2.1,(h j hj).2.2.1⟩,fun j hj o ho=>by simp at ho,fun j hj=>(h j hj).2.2.2⟩
 ·rintro ⟨a, _, c⟩ j hj
  exact⟨(a j hj).1,(a j hj).2.1,(a j hj).2.2,c j hj⟩
theorem good_eq(g:Grove):rGood g=gGood g:=by
 unfold rGood gGood
 rw[joins_eq]
 cases g.kinds.all kdOk <;> cases jR g.pads.length [] g.joins <;> rfl
theorem sFault{l:Nat}(hl:3≤l){g:Grove}(hs:Uj g):pcD P (K l) 87 [dG g]=some (dI (gErr g)):=by
 rw[s87 hl hs,good_eq]
 rfl
end Go.Proofs.YtcjnaeimeilomaaGreat.L
end
section
open Go Go.Ev
set_option maxRecDepth 100000
namespace Go.Proofs.YtcjnaeimeilomaaGreat.L
theorem CJ{α:Type}{f:α→D}{xs:List α}{k:Nat}{x:α}{kk:D→Option D}(h:xs[k]?=some x):(bindO (idxD (.v (.int .i64 (k:Nat))) (xs.map f).length) fun i=>bindO ((xs.map f)[i]?) kk)=kk (f x):=by
 have hk:k<xs.length:=(List.getElem?_eq_some_iff.1 h).1
 rw[pW (by simpa using hk),aj]
 simp [h,aj]
theorem sub_one{k:Nat}{t:TypeId}{x y:Operand}(h:k<big):binD P .sub t x y (.v (.int .i64 ((k+1:Nat):Int))) (.v (.int .i64 1))=some (.v (.int .i64 (k:Int))):=by
 rw[AZ (by unfold I64; unfold big at h; omega)]
 congr 3
 omega
def vq:List Int→Bool
 | []=>true
 | [_]=>true
 | a::b::l=>decide (a<b) && vq (b::l)
def rP(n:Nat):Option Int→List Int→Bool
 | _,[]=>true
 | none,x::l=>hasP n x && rP n (some x) l
 | some q,x::l=>hasP n x && (decide (q<x) && rP n (some x) l)
def cY(n:Nat)(l:List Int):Bool:=l.all (hasP n) && vq l
theorem rP_some{n:Nat}:∀(l:List Int) (q:Int),rP n (some q) l=(l.all (hasP n) && vq (q::l))
 | [],q=>rfl
 | x::l,q=>by
  simp only[rP,vq,List.all_cons,rP_some l x]
  cases hasP n x <;> cases decide (q<x) <;> cases l.all (hasP n) <;> cases vq (x::l) <;> rfl
theorem rP_none{n:Nat}:∀(l:List Int),rP n none l=cY n l
 | []=>rfl
 | x::l=>by
  simp only[rP,cY,List.all_cons,rP_some l x]
  cases hasP n x <;> cases l.all (hasP n) <;> rfl
theorem l96{l k:Nat}:∀(suf pre:List Int) (a:Int) (m:Nat),suf.length<m→pre.length+suf.length<500000 →
  Fq (K l) k m (dL (pre++a::suf)) (dI ((pre.length+1:Nat):Int))=some (dB (vq (a::suf)))
 | [],pre,a,0,hm,_=>by simp at hm
 | [],pre,a,m+1,_,_=>by
  rw[r103_1]
  unfold Fj B103_1
  have e:((pre.length+1:Nat):Int)=((pre++[a]).length:Nat):=by simp
  rw[e]
  simp only[aj,aV,ev,bY,dX]
  rfl
 | x::suf,pre,a,0,hm,_=>by simp at hm
 | x::suf,pre,a,m+1,hm,hb=>by
  rw[r103_1]
  unfold Fj B103_1
  simp only[List.length_cons] at hm hb
  have ih:=l96 (l:=l) (k:=k) suf (pre++[a]) x m (by omega) (by simp; omega)
  have g1:(pre++a::x::suf)[pre.length+1]?=some x:=by simp
  have g0:(pre++a::x::suf)[pre.length]?=some a:=by simp
  simp only[aV,aj,bY,fW,dQ]
  rw[if_pos (by simp; omega),CJ g1,cq,bZ,sub_one (by unfold big; omega),aj,CJ g0,cq,bZ,mX,aj,dQ,lJ (by omega),aj]
  simp only[List.length_append,List.length_cons,List.length_nil,Nat.zero_add,List.append_assoc,List.cons_append,List.nil_append] at ih
  rw[ih]
  simp only[vq]
  by_cases h:x≤a
  ·rw [if_pos h]
   have:decide (a<x)=false:=by simp; omega
   rw[this]; rfl
  ·rw [if_neg h]
   have:decide (a<x)=true:=by simp; omega
   rw[this]; rfl
theorem s103{l:Nat}(hl:1≤l){xs:List Int}(hx:xs.length<1000):pcD P (K l) 103 [dL xs]=some (dB (vq xs)):=by
 obtain⟨l,rfl⟩:=lev hl
 refine eK ?_
 rw[c103]
 unfold SJ Sk
 cases xs with
 | nil=>rfl
 | cons a xs=>exact l96 (l:=l) (k:=19999) xs [] a 19999 (by simp at hx; omega) (by simp at hx ⊢; omega)
theorem s93{l:Nat}(hl:1≤l){f:Fld}{a:Int}:pcD P (K l) 93 [dF f,dI a]=some (dB (hasP f.g.pads.length a)):=by
 obtain⟨l,rfl⟩:=lev hl
 refine eK ?_
 rw[c93]
 unfold C93_0 B93_0
 simp only[aj,aV,cw,dQ,sW,bY,gV,fW,List.length_map,zq]
 unfold hasP inR
 congr 5
 simp; omega
theorem s78{l:Nat}(hl:3≤l){f:Fld}{xs:List Int}(hx:xs.length<1000):pcD P (K l) 78 [dF f,dL xs]=some (dB (cY f.g.pads.length xs)):=by
 obtain⟨l,rfl⟩:=lev hl
 refine eK ?_
 rw[c78]
 unfold C78_0 B78_0
 have e1:=s79 (l:=l+2) (by omega) (g:=93) (a:=[dF f]) (b:=[]) (p:=hasP f.g.pads.length) (xs:=xs) hx (fun x _=>s93 (by omega))
 simp only[cw,aj,cut5,e1,s103 (l:=l+2) (by omega) hx,iV]
 unfold cY
 cases xs.all (hasP f.g.pads.length) <;> rfl
def XQ(x:Int):Bool:=inR x 0 100
theorem s80{l:Nat}(hl:1≤l){x:Int}:pcD P (K l) 80 [dI x]=some (dB (XQ x)):=by
 obtain⟨l,rfl⟩:=lev hl
 refine eK ?_
 rw[c80]
 unfold C80_0 B80_0
 simp only[aj,dQ,mX,sW,zq]
 rfl
def fErr(f:Fld):Int:=if gErr f.g=0 then(if cY f.g.pads.length f.start && (decide (f.eats.length=f.g.pads.length) && f.eats.all XQ) then 0 else 1) else gErr f.g
theorem s55{l:Nat}(hl:6≤l){f:Fld}(hs:sx f):pcD P (K l) 55 [dF f]=some (dI (fErr f)):=by
 obtain⟨l,rfl⟩:=lev hl
 refine eK ?_
 rw[c55]
 unfold C55_0 B55_0 C55_1 B55_1
 obtain⟨h1,h2,h3⟩:=hs
 have e1:=s79 (l:=l+5) (by omega) (g:=80) (a:=[]) (b:=[]) (p:=XQ) (xs:=f.eats) (by omega) (fun x _=>s80 (by omega))
 simp only[cw,aj,cut53,cut5,gV,getD3,Xk,aV,bY,s77 (l:=l+5) (by omega) h1,s78 (l:=l+5) (by omega) (xs:=f.start) (by omega),e1,jV,ew,iV]
 have q:decide (((f.eats.map dI).length:Int)=((f.g.pads.map dPad).length:Nat))=decide (f.eats.length=f.g.pads.length):=by simp; norm_cast
 rw[q]
 unfold fErr
 by_cases h0:gErr f.g=0
 ·simp only [h0, decide_true, Bool.not_true, Bool.false_eq_true, if_false, if_true]
  cases cY f.g.pads.length f.start <;> cases decide (f.eats.length=f.g.pads.length) <;> cases f.eats.all XQ <;> rfl
 ·simp only[h0,decide_false,Bool.not_false,if_true,if_false]
theorem l81{l k:Nat}(hl:1≤l){f:Fld}(hn:f.g.pads.length<big):∀(suf pre:List Int) (q:Int) (m:Nat),suf.length<m→pre.length+suf.length<500000 →
  S88_1 (K l) k m (dL (pre++q::suf)) (dI ((pre.length+1:Nat):Int)) (fC f)=some (dB (rP f.g.pads.length (some q) suf))
 | [],pre,q,0,hm,_=>by simp at hm
 | [],pre,q,m+1,_,_=>by
  rw[r88_1]
  unfold C88_1 B88_1
  have e:((pre.length+1:Nat):Int)=((pre++[q]).length:Nat):=by simp
  rw[e]
  simp only[aj,aV,dQ,ev,mY,bY,gV,dX]
  rfl
 | x::suf,pre,q,0,hm,_=>by simp at hm
 | x::suf,pre,q,m+1,hm,hb=>by
  rw[r88_1]
  unfold C88_1 B88_1 C88_2 B88_2
  simp only[List.length_cons] at hm hb
  have ih:=l81 (k:=k) hl hn suf (pre++[q]) x m (by omega) (by simp; omega)
  have g1:(pre++q::x::suf)[pre.length+1]?=some x:=by simp
  have g0:(pre++q::x::suf)[pre.length]?=some q:=by simp
  have hsub:I64 ((((f.g.pads.map dPad).length:Nat):Int)-1):=by unfold I64; simp; unfold big at hn; omega
  have hgt:(0:Int)<((pre.length+1:Nat):Int):=by omega
  simp only[aV,aj,bY,fW,dQ]
  rw[if_pos (by simp; omega),CJ g1,cq,bZ,gV,aj,aV,aj,AZ hsub,aj,s35 hl,aj,ew,aj,iV,mY,aj,dQ,if_pos hgt,CJ g1,cq,bZ,sub_one (by unfold big; omega),aj,CJ g0,cq,bZ,mX,aj,dQ,iJ,lJ (by omega),aj]
  simp only[List.length_append,List.length_cons,List.length_nil,Nat.zero_add,List.append_assoc,List.cons_append,List.nil_append] at ih
  rw[ih]
  have en:(((f.g.pads.map dPad).length:Nat):Int)-1=(f.g.pads.length:Int)-1:=by simp
  simp only[rP,hasP,en]
  by_cases h:x≤q
  ·rw [if_pos h]
   have:decide (q<x)=false:=by simp; omega
   rw[this]
   rcases Bool.eq_false_or_eq_true (inR x 0 (↑f.g.pads.length-1)) with h1 | h1 <;> simp [h1]
  ·rw [if_neg h]
   have:decide (q<x)=true:=by simp; omega
   rw[this]
   rcases Bool.eq_false_or_eq_true (inR x 0 (↑f.g.pads.length-1)) with h1 | h1 <;> simp [h1]
theorem s88{l:Nat}(hl:2≤l){f:Fld}(hn:f.g.pads.length<big){xs:List Int}(hx:xs.length<1000):pcD P (K l) 88 [dF f,dL xs]=some (dB (cY f.g.pads.length xs)):=by
 obtain⟨l,rfl⟩:=lev hl
 refine eK ?_
 rw[c88,← rP_none]
 unfold C88_0 B88_0
 rw[cw,aj]
 have e1:S88_1 (K (l+1)) 19999 19999=C88_1 (K (l+1)) 19999 19999 (S88_1 (K (l+1)) 19999 19998):=r88_1 _ _ (m:=19998)
 rw[e1]
 unfold C88_1 B88_1 C88_2 B88_2
 cases xs with
 | nil=>rfl
 | cons x xs=>
  have ih:=l81 (l:=l+1) (k:=19999) (by omega) hn xs [] x 19998 (by simp at hx; omega) (by simp at hx ⊢; omega)
  have g0:(x::xs)[0]?=some x:=rfl
  have hsub:I64 ((((f.g.pads.map dPad).length:Nat):Int)-1):=by unfold I64; simp; unfold big at hn; omega
  have hi:((dI 0:D))=.v (.int .i64 ((0:Nat):Int)):=rfl
  have e0:(.v (.int .i64 0):D)=.v (.int .i64 ((0:Nat):Int)):=rfl
  simp only[aV,aj,bY,fW,dQ]
  rw[if_pos (by simp),e0,CJ g0,cq,bZ,gV,aj,aV,aj,AZ hsub,aj,← e0,s35 (by omega),aj,ew,aj,iV,mY,aj,dQ,if_neg (show ¬ ((0:Int)<0) by decide),iJ,ev,e0,lJ (by omega),aj]
  simp only[List.nil_append,List.length_nil] at ih
  rw[ih]
  have en:(((f.g.pads.map dPad).length:Nat):Int)-1=(f.g.pads.length:Int)-1:=by simp
  simp only[rP,hasP,en]
  rcases Bool.eq_false_or_eq_true (inR x 0 (↑f.g.pads.length-1)) with h1 | h1 <;> simp [h1]
end Go.Proofs.YtcjnaeimeilomaaGreat.L
end
section
open Go Go.Ev
set_option maxRecDepth 100000
namespace Go.Proofs.YtcjnaeimeilomaaGreat.L
def pErr(f:Fld)(plan:List (List Int)):Int:=if 300<plan.length then 3 else if plan.all (cY f.g.pads.length) then 0 else 2
theorem l55{l k:Nat}(hl:2≤l){f:Fld}(hn:f.g.pads.length<big):∀(suf pre:List (List Int)) (m:Nat),suf.length<m→pre.length+suf.length<big→(∀ x ∈ suf,x.length<1000) →
  S61_1 (K l) k m (dLL (pre++suf)) (dI pre.length) (fC f)=some (dI (if suf.all (cY f.g.pads.length) then 0 else 2))
 | [],pre,0,hm,_,_=>by simp at hm
 | [],pre,m+1,_,_,_=>by
  rw[r61_1]
  unfold C61_1 B61_1
  simp only[aj,aV,ev,bY,List.append_nil,cut5,dX]
  rfl
 | x::suf,pre,0,hm,_,_=>by simp at hm
 | x::suf,pre,m+1,hm,hb,hx=>by
  rw[r61_1]
  unfold C61_1 B61_1
  simp only[List.length_cons] at hm hb
  have ih:=l55 (k:=k) hl hn suf (pre++[x]) m (by omega) (by simp; omega) (fun y hy=>hx y (by simp [hy]))
  simp only[List.append_assoc,List.cons_append,List.nil_append] at ih
  simp only[aj,aV,bZ,mZ,if_true,ew,bY,cut5,gj,dK,s88 hl hn (hx x (by simp)),iV,dV (a:=x) (sbig (show pre.length<big by omega))]
  rw[ih]
  simp only[List.all_cons]
  rcases Bool.eq_false_or_eq_true (cY f.g.pads.length x) with h1 | h1 <;> simp [h1]
theorem s61{l:Nat}(hl:3≤l){f:Fld}(hn:f.g.pads.length<big){plan:List (List Int)}(hp:plan.length<1000)(hx:∀ x ∈ plan,x.length<1000):pcD P (K l) 61 [dF f,dLL plan]=some (dI (pErr f plan)):=by
 obtain⟨l,rfl⟩:=lev hl
 refine eK ?_
 rw[c61]
 unfold C61_0 B61_0
 have e:=l55 (l:=l+2) (k:=19999) (by omega) hn plan [] 19999 (by omega) (by show 0+_<big; unfold big; omega) hx
 simp only[List.nil_append,List.length_nil] at e
 have e0:(dI ((0:Nat):Int))=(.v (.int .i64 0):D):=rfl
 rw[e0] at e
 simp only[cw,aj,aV,bY,mY,dQ,e]
 unfold pErr
 by_cases h:300<plan.length
 ·rw[if_pos (by simp; omega),if_pos h]
 ·rw[if_neg (by simp; omega),if_neg h]
theorem l54{l k:Nat}(hl:1≤l){g:Grove}{st:List Int}:∀(suf pre:List Int) (m:Nat),suf.length<m→pre.length+suf.length<big →
  S60_2 (K l) k m (dI pre.length) (fC ⟨g,st,pre++suf⟩)=some (dI (if suf.all XQ then 0 else 1))
 | [],pre,0,hm,_=>by simp at hm
 | [],pre,m+1,_,_=>by
  rw[r60_2]
  unfold C60_2 B60_2
  simp only[aj,aV,ev,bY,List.append_nil,Xk,dX]
  rfl
 | x::suf,pre,0,hm,_=>by simp at hm
 | x::suf,pre,m+1,hm,hb=>by
  rw[r60_2]
  unfold C60_2 B60_2
  simp only[List.length_cons] at hm hb
  have ih:=l54 (k:=k) hl (g:=g) (st:=st) suf (pre++[x]) m (by omega) (by simp; omega)
  simp only[List.append_assoc,List.cons_append,List.nil_append] at ih
  simp only[aj,aV,bZ,cq,if_true,ew,bY,Xk,gj,dK,s35 hl,iV,dV (a:=x) (sbig (show pre.length<big by omega))]
  rw[ih]
  simp only[List.all_cons,XQ]
  rcases Bool.eq_false_or_eq_true (inR x 0 100) with h1 | h1 <;> simp [h1]
theorem s60{l:Nat}(hl:4≤l){f:Fld}(hs:sx f):pcD P (K l) 60 [dF f]=some (dI (fErr f)):=by
 obtain⟨l,rfl⟩:=lev hl
 refine eK ?_
 rw[c60]
 unfold C60_0 B60_0 C60_1 B60_1
 have hs':=hs
 obtain⟨h1,h2,h3⟩:=hs
 have e:=l54 (l:=l+3) (k:=19999) (by omega) (g:=f.g) (st:=f.start) f.eats [] 19999 (by omega) (by show 0+_<big; unfold big; omega)
 simp only[List.nil_append,List.length_nil] at e
 have e0:(dI ((0:Nat):Int))=(.v (.int .i64 0):D):=rfl
 rw[e0] at e
 have hf:(fC ⟨f.g,f.start,f.eats⟩)=fC f:=rfl
 rw[hf] at e
 simp only[cw,aj,cut53,cut5,gV,getD3,Xk,aV,bY,sFault (l:=l+3) (by omega) h1,s88 (l:=l+3) (by omega) (f:=f) (show f.g.pads.length<big by have:=h1.1; unfold big; omega) (xs:=f.start) (by omega),jV,ew,iV,e]
 have q:decide (((f.eats.map dI).length:Int)=((f.g.pads.map dPad).length:Nat))=decide (f.eats.length=f.g.pads.length):=by simp; norm_cast
 rw[q]
 unfold fErr
 by_cases h0:gErr f.g=0
 ·simp only [h0, decide_true, Bool.not_true, Bool.false_eq_true, if_false, if_true]
  rcases Bool.eq_false_or_eq_true (cY f.g.pads.length f.start) with h4 | h4 <;> rcases Bool.eq_false_or_eq_true (decide (f.eats.length=f.g.pads.length)) with h5 | h5 <;> rcases Bool.eq_false_or_eq_true (f.eats.all XQ) with h6 | h6 <;> simp only[h4,h5,h6] <;> rfl
 ·simp only[h0,decide_false,Bool.not_false,if_true,if_false]
theorem s21{l:Nat}(hl:5≤l){f:Fld}(hs:sx f):pcD P (K l) 21 [dF f]=some (dI (fErr f)):=by
 obtain⟨l,rfl⟩:=lev hl
 refine eK ?_
 rw[c21]
 unfold C21_0 B21_0
 simp only[cw,aj,cut5,s60 (l:=l+4) (by omega) hs]
def aErr(f:Fld)(plan:List (List Int)):Int:=if fErr f=0 then pErr f plan else fErr f
theorem s22{l:Nat}(hl:6≤l){f:Fld}(hs:sx f){plan:List (List Int)}(hp:plan.length<1000)(hx:∀ x ∈ plan,x.length<1000):pcD P (K l) 22 [dF f,dLL plan]=some (dI (aErr f plan)):=by
 obtain⟨l,rfl⟩:=lev hl
 refine eK ?_
 rw[c22]
 unfold C22_0 B22_0
 simp only[cw,aj,cut5,s21 (l:=l+5) (by omega) hs,s61 (l:=l+5) (by omega) (f:=f) (show f.g.pads.length<big by have:=hs.1.1; unfold big; omega) hp hx,jV,iV]
 unfold aErr
 by_cases h0:fErr f=0
 ·simp [h0]
 ·simp [h0]
def setB(l:List Int):BitVec 64:=l.foldl (fun s p=>s ||| BitVec.twoPow 64 p.toNat) 0#64
theorem l76{l k:Nat}:∀(suf pre:List Int) (s:BitVec 64) (m:Nat),suf.length<m→pre.length+suf.length<big→(∀ x ∈ suf,0≤x∧x<64) →
  WW (K l) k m (uB s) (dL (pre++suf)) (dI ((pre++suf).map dI).length) (dI pre.length)=some (uB (suf.foldl (fun s p=>s ||| BitVec.twoPow 64 p.toNat) s))
 | [],pre,s,0,hm,_,_=>by simp at hm
 | [],pre,s,m+1,_,_,_=>by
  rw[r83_1]
  unfold WV B83_1
  simp only[aj,aV,ev,List.append_nil,dX]
  rfl
 | x::suf,pre,s,0,hm,_,_=>by simp at hm
 | x::suf,pre,s,m+1,hm,hb,hx=>by
  rw[r83_1]
  unfold WV B83_1
  simp only[List.length_cons] at hm hb
  have ih:=l76 (l:=l) (k:=k) suf (pre++[x]) (s ||| BitVec.twoPow 64 x.toNat) m (by omega) (by simp; omega) (fun y hy=>hx y (by simp [hy]))
  simp only[List.append_assoc,List.cons_append,List.nil_append] at ih
  obtain⟨h0,h1⟩:=hx x (by simp)
  have hs:binD P .shl 106 (Operand.const (Value.int IntKind.u64 1)) (Operand.tmp 13) (.v (.int .u64 1)) (dI x)=some (uB (BitVec.twoPow 64 x.toNat)):=by
   have:=binD_shl (P:=P) (t:=106) (x:=Operand.const (Value.int IntKind.u64 1)) (y:=Operand.tmp 13) (p:=x.toNat) (by omega)
   have e:((x.toNat:Nat):Int)=x:=by omega
   rw[e] at this
   exact this
  simp only[aj,aV,bZ,cq,iJ,gj,dK,hs,binD_or,dV (a:=x) (sbig (show pre.length<big by omega))]
  rw[ih]
  rfl
theorem s83{l:Nat}(hl:1≤l){xs:List Int}(hb:xs.length<1000)(hx:∀ x ∈ xs,0≤x∧x<64):pcD P (K l) 83 [dL xs]=some (uB (setB xs)):=by
 obtain⟨l,rfl⟩:=lev hl
 refine eK ?_
 rw[c83]
 unfold C83_0 B83_0
 simp only[aV,aj,bY]
 exact l76 (l:=l) (k:=19999) xs [] 0#64 19999 (by omega) (by show 0+_<big; unfold big; omega) hx
theorem Gq(x:Int):setB [x]=BitVec.twoPow 64 x.toNat:=by simp [setB]
def meets(a b:BitVec 64):Bool:=!decide (a &&& b=0#64)
theorem s95{l:Nat}(hl:1≤l){a b:BitVec 64}:pcD P (K l) 95 [uB a,uB b]=some (dB (meets a b)):=by
 obtain⟨l,rfl⟩:=lev hl
 refine eK ?_
 rw[c95]
 unfold C95_0 B95_0
 simp only[binD_and,aj,binD_neq_u]
 rfl
theorem s86{l:Nat}(hl:1≤l){a b:BitVec 64}:pcD P (K l) 86 [uB a,uB b]=some (uB (a &&& ~~~b)):=by
 obtain⟨l,rfl⟩:=lev hl
 refine eK ?_
 rw[c86]
 unfold C86_0 B86_0
 simp only[binD_andNot,aj]
theorem meets_two{a:BitVec 64}{p:Nat}(hp:p<64):meets a (BitVec.twoPow 64 p)=a.getLsbD p:=by
 unfold meets
 rw[BitVec.and_twoPow]
 cases h:a.getLsbD p
 ·simp
 ·have : BitVec.twoPow 64 p ≠ 0#64 := by
   intro e
   have:=congrArg (fun b=>BitVec.getLsbD b p) e
   simp [hp] at this
  simp [this]
theorem s94{l:Nat}(hl:2≤l){a:BitVec 64}{p:Nat}(hp:p<64):pcD P (K l) 94 [uB a,dI (p:Nat)]=some (dB (a.getLsbD p)):=by
 obtain⟨l,rfl⟩:=lev hl
 refine eK ?_
 rw[c94]
 unfold C94_0 B94_0
 have e:=s83 (l:=l+1) (by omega) (xs:=[(p:Int)]) (by simp) (fun x hx=>by simp at hx; omega)
 have e':pcD P (K (l+1)) 83 [.sl [dI (p:Nat)]]=some (uB (setB [(p:Int)])):=e
 simp only[cq,bZ,e',aj,s95 (l:=l+1) (by omega),Gq]
 have:((p:Int)).toNat=p:=by omega
 rw[this,meets_two hp]
def eX(s:BitVec 64):List Int:=((List.range' 0 8).filter (fun p=>s.getLsbD p)).map (fun p:Nat=>(p:Int))
theorem l77{l k:Nat}(hl:2≤l){s:BitVec 64}:∀(r i m:Nat) (acc:List Int),i+r=8→r<m→acc.length≤i →
  WY (K l) k m (uB s) (dI (i:Nat)) (acc.map dI)=some (dL (acc++((List.range' i r).filter (fun p=>s.getLsbD p)).map (fun p:Nat=>(p:Int))))
 | 0,i,0,acc,_,hm,_=>by simp at hm
 | 0,i,m+1,acc,hi,_,_=>by
  rw[r84_1]
  unfold WX B84_1
  rw[fW,aj,dQ,if_neg (by omega)]
  simp
 | r+1,i,0,acc,_,hm,_=>by simp at hm
 | r+1,i,m+1,acc,hi,hm,ha=>by
  rw[r84_1]
  unfold WX B84_1 C84_2 B84_2
  rw[fW,aj,dQ,if_pos (by omega),s94 hl (by omega),aj,iV,cq,bZ,vX (by simp; omega),aj,lJ (by omega),aj,aj]
  have i1:=l77 (k:=k) hl (s:=s) r (i+1) m (acc++[(i:Int)]) (by omega) (by omega) (by simp; omega)
  have i2:=l77 (k:=k) hl (s:=s) r (i+1) m acc (by omega) (by omega) (by omega)
  simp only[List.map_append,List.map_cons,List.map_nil] at i1
  rw[i1,i2,List.range'_succ,List.filter_cons]
  cases h:s.getLsbD i <;> simp
theorem s84{l:Nat}(hl:3≤l){s:BitVec 64}:pcD P (K l) 84 [uB s]=some (dL (eX s)):=by
 obtain⟨l,rfl⟩:=lev hl
 refine vw ?_ (by kernel_rfl)
 rw[c84]
 unfold C84_0 B84_0
 exact l77 (l:=l+2) (k:=19999) (by omega) (s:=s) 8 0 19999 [] (by omega) (by omega) (by simp)
theorem l52{l k:Nat}(hl:3≤l):∀(suf pre:List (BitVec 64)) (m:Nat),suf.length<m→pre.length+suf.length<big →
  VX (K l) k m (.sl ((pre++suf).map uB)) (dI ((pre++suf).map uB).length) (dI pre.length) ((pre.map eX).map dL)=some (dLL ((pre++suf).map eX))
 | [],pre,0,hm,_=>by simp at hm
 | [],pre,m+1,_,_=>by
  rw[r58_1]
  unfold VW B58_1
  simp only[aj,aV,ev,List.append_nil,dX]
 | x::suf,pre,0,hm,_=>by simp at hm
 | x::suf,pre,m+1,hm,hb=>by
  rw[r58_1]
  unfold VW B58_1
  simp only[List.length_cons] at hm hb
  have ih:=l52 (k:=k) hl suf (pre++[x]) m (by omega) (by simp; omega)
  simp only[List.map_append,List.map_cons,List.map_nil,List.append_assoc,List.cons_append,List.nil_append] at ih
  simp only[aj,aV,bZ,cq,mZ,iJ,gj,dK,s84 hl,dV (a:=x) (sbig (show pre.length<big by omega))]
  rw[vX (by simp; unfold big at hb; omega),aj]
  simpa using ih
theorem s58{l:Nat}(hl:4≤l){xs:List (BitVec 64)}(hx:xs.length<1000):pcD P (K l) 58 [.sl (xs.map uB)]=some (dLL (xs.map eX)):=by
 obtain⟨l,rfl⟩:=lev hl
 refine vw ?_ (by kernel_rfl)
 rw[c58]
 unfold C58_0 B58_0
 simp only[aV,aj,bY]
 exact l52 (l:=l+3) (k:=19999) (by omega) xs [] 19999 (by omega) (by show 0+_<big; unfold big; omega)
end Go.Proofs.YtcjnaeimeilomaaGreat.L
end
section
open Go Go.Ev
set_option maxRecDepth 100000
namespace Go.Proofs.YtcjnaeimeilomaaGreat.L
noncomputable abbrev hC(f:Fld)(near:List (BitVec 64)):List D:=.sl (f.g.pads.map dPad)::.sl (f.g.joins.map sY)::.sl (f.g.kinds.map dKd)::dL f.start::dL f.eats::near.map uB
noncomputable abbrev dH(f:Fld)(near:List (BitVec 64)):D:=.ref (hC f near)
theorem near_at{f:Fld}{near:List (BitVec 64)}{i:Nat}{x:BitVec 64}(h:near[i]?=some x):(List.drop (i * 1) (List.drop 5 (hC f near)))[0]?=some (uB x):=by
 have e:List.drop 5 (hC f near)=near.map uB:=rfl
 rw[e,List.getElem?_drop]
 simp [h]
def Jx(near:List (BitVec 64))(s:BitVec 64)(p:Nat):Bool:=meets (near.getD p 0#64) s
theorem l112{l k y:Nat}(hl:1≤l){f:Fld}{near:List (BitVec 64)}{s:BitVec 64}{n:Nat}(hn:n≤near.length)(h8:near.length=8):∀(r i m:Nat),i+r=n→r<m →
  FY (K l) k m y (.ref [dH f near]) (.ref [uB s]) (dI (n:Nat)) (dI (i:Nat))=some (pJ y (((List.range' i r).filter (Jx near s)).map (fun p:Nat=>[dI (p:Int)])))
 | 0,i,0,_,hm=>by simp at hm
 | 0,i,m+1,hi,_=>by
  rw[r119_1]
  unfold FX TJ
  rw[fW,aj,dQ,if_neg (by omega)]
  rfl
 | r+1,i,0,_,hm=>by simp at hm
 | r+1,i,m+1,hi,hm=>by
  rw[r119_1]
  unfold FX TJ C119_2 B119_2
  have hlt:i<near.length:=by omega
  have hx:near[i]?=some (near.getD i 0#64):=by
   rw[List.getD_eq_getElem?_getD,List.getElem?_eq_getElem hlt]; rfl
  have ih:=l112 (k:=k) (y:=y) hl (f:=f) (s:=s) hn h8 r (i+1) m (by omega) (by omega)
  rw[fW,aj,dQ,if_pos (by omega),fk,aj,gV,aj,sX,fk,aj,pW (by omega),aj,near_at hx,aj,fk,aj,gV,aj,s95 hl,aj,iV,ew,aj,ew,aj,lJ (by omega),aj]
  simp only[Bool.not_true,Bool.not_false,iJ,ev]
  rw[ih,List.range'_succ,List.filter_cons]
  unfold Jx
  cases meets (near.getD i 0#64) s <;> rfl
theorem sNextY{l:Nat}(hl:1≤l){f:Fld}{near:List (BitVec 64)}{s:BitVec 64}(hn:f.eats.length≤near.length)(h8:near.length=8)(y:Nat) :
  Rg l 119 [.yld y,.ref [dH f near],.ref [uB s]]=some (pJ y (((List.range' 0 f.eats.length).filter (Jx near s)).map (fun p:Nat=>[dI (p:Int)]))):=by
 rw[c119]
 unfold TV TQ
 have e4:(List.drop 4 (hC f near))[0]?=some (dL f.eats):=rfl
 rw[fk,aj,gV,aj,sX,fk,aj,e4,aj,aV,aj,bY,List.length_map]
 exact l112 (l:=l) (k:=19999) (y:=y) hl (f:=f) (s:=s) hn h8 f.eats.length 0 19999 (by omega) (by omega)
theorem s104{l:Nat}(hl:1≤l){f:Fld}{near:List (BitVec 64)}{s:BitVec 64}:pcD P (K l) 104 [dH f near,uB s]=some (.fn 119 [] [.ref [dH f near],.ref [uB s]]):=by
 obtain⟨l,rfl⟩:=lev hl
 refine vw ?_ (by kernel_rfl)
 rw[c104]
 unfold SQ B104_0
 simp only[leafD_ref,cq,bZ]
theorem noResN:AK P 119=true:=by kernel_rfl
theorem memN_nil{z:Nat}:memN [] z=false:=rfl
def orB(s:BitVec 64)(ps:List Nat):BitVec 64:=ps.foldl (fun s p=>s ||| BitVec.twoPow 64 p) s
theorem l78{pc rg:PC}{l k:Nat}(hl:1≤l){u:D}:∀(ps:List Nat) (s:BitVec 64),(∀ p ∈ ps,p<64) →
  WK pc rg (K l) k (ps.map (fun p:Nat=>[dI (p:Int)])) (uB s) u=some (uB (orB s ps))
 | [],s,_=>by
  rw[List.map_nil,n85_2]
  rfl
 | p::ps,s,hp=>by
  rw[List.map_cons,r85_2]
  unfold C85_2 B85_2
  have e:=s83 hl (xs:=[(p:Int)]) (by simp) (fun x hx=>by have:=hp p (by simp); simp at hx; omega)
  have e':pcD P (K l) 83 [.sl [dI (p:Nat)]]=some (uB (setB [(p:Int)])):=e
  show chkK (bk (dI (p:Int))) _=_
  have ep:((p:Int)).toNat=p:=by omega
  simp only[cq,bZ,e',aj,binD_or,Gq,ep]
  exact l78 hl ps _ (fun q hq=>hp q (by simp [hq]))
def nw(near:List (BitVec 64))(n:Nat)(s:BitVec 64):BitVec 64:=orB 0#64 ((List.range' 0 n).filter (Jx near s))
theorem s85{l:Nat}(hl:4≤l){f:Fld}{near:List (BitVec 64)}{s:BitVec 64}(hn:f.eats.length≤near.length)(h8:near.length=8):pcD P (K l) 85 [dH f near,uB s]=some (uB (nw near f.eats.length s)):=by
 obtain⟨l,rfl⟩:=lev hl
 refine eK ?_
 have e:l+4=(l+1)+3:=by omega
 rw[e,c85]
 unfold C85_0 B85_0 C85_1 B85_1
 rw[s104 (by omega),aj,qV,noResN,memN_nil]
 show chkK true _=_
 rw[bZ]
 refine(qkw (ys:=((List.range' 0 f.eats.length).filter (Jx near s)).map (fun p:Nat=>[dI (p:Int)])) (fun y=>sNextY (l:=l+1+1) (by omega) hn h8 y)).trans ?_
 have:=l78 (pc:=K (l+1+2)) (rg:=Rg (l+1+1)) (l:=l+1) (k:=19999) (by omega) (u:=.fn 119 [] [.ref [dH f near],.ref [uB s]]) ((List.range' 0 f.eats.length).filter (Jx near s)) 0#64 (fun p hp=>by simp at hp; omega)
 exact this
end Go.Proofs.YtcjnaeimeilomaaGreat.L
end
section
open Go Go.Ev
set_option maxRecDepth 100000
namespace Go.Proofs.YtcjnaeimeilomaaGreat.L
theorem set_near{f:Fld}{near:List (BitVec 64)}{i:Nat}{v:BitVec 64}:List.set (hC f near) (5+i * 1) (uB v)=hC f (near.set i v):=by
 rw[show 5+i * 1=i+1+1+1+1+1 by omega]
 simp only[List.set_cons_succ]
 rw[← List.map_set]
theorem get_near{f:Fld}{near:List (BitVec 64)}{i:Nat}{v:BitVec 64}(h:near[i]?=some v):(hC f near)[5+i * 1]?=some (uB v):=by
 rw[show 5+i * 1=i+1+1+1+1+1 by omega]
 simp [h]
theorem qfj{f:Fld}{near:List (BitVec 64)}{i:Nat}(h:i<near.length):Nat.blt (5+i * 1) (hC f near).length=true:=by
 simp; omega
theorem getE{near:List (BitVec 64)}{i:Nat}(h:i<near.length):near[i]?=some (near.getD i 0#64):=by
 rw[List.getD_eq_getElem?_getD,List.getElem?_eq_getElem h]; rfl
def Ay(near:List (BitVec 64))(i:Nat):List (BitVec 64):=near.set i (BitVec.twoPow 64 i)
def Dk(near:List (BitVec 64))(j:Join):List (BitVec 64):=
 let n1:=near.set j.a.toNat (near.getD j.a.toNat 0#64 ||| BitVec.twoPow 64 j.b.toNat)
 n1.set j.b.toNat (n1.getD j.b.toNat 0#64 ||| BitVec.twoPow 64 j.a.toNat)
theorem sOne{l:Nat}(hl:1≤l){x:Int}(h:0≤x∧x<64):pcD P (K l) 83 [.sl [dI x]]=some (uB (BitVec.twoPow 64 x.toNat)):=by
 have e:=s83 hl (xs:=[x]) (by simp) (fun y hy=>by simp at hy; subst hy; exact h)
 rw[Gq] at e
 exact e
theorem l65_2{l k:Nat}(hl:1≤l){f:Fld}:∀(suf pre:List Join) (near:List (BitVec 64)) (m:Nat),suf.length<m→pre.length+suf.length<big→near.length=8→(∀ j ∈ suf,(0≤j.a∧j.a<8)∧0≤j.b∧j.b<8) →
  Ww (K l) k m (.sl ((pre++suf).map sY)) (dI ((pre++suf).map sY).length) (dI pre.length) (hC f near)=some (.tup [dH f (suf.foldl Dk near),dI 0])
 | [],pre,near,0,hm,_,_,_=>by simp at hm
 | [],pre,near,m+1,_,_,_,_=>by
  rw[r66_2]
  unfold Wv B66_2
  simp only[aj,aV,ev,List.append_nil,dX]
  rfl
 | x::suf,pre,near,0,hm,_,_,_=>by simp at hm
 | x::suf,pre,near,m+1,hm,hb,h8,hj=>by
  rw[r66_2]
  unfold Wv B66_2
  simp only[List.length_cons] at hm hb
  obtain⟨ha,hbb⟩:=hj x (by simp)
  have ih:=l65_2 (k:=k) hl (f:=f) suf (pre++[x]) (Dk near x) m (by omega) (by simp; omega) (by simp [Dk,h8]) (fun j hj'=>hj j (by simp [hj']))
  simp only[List.append_assoc,List.cons_append,List.nil_append] at ih
  have ea:dI x.a=.v (.int .i64 ((x.a.toNat:Nat):Int)):=by congr 2; omega
  have eb:dI x.b=.v (.int .i64 ((x.b.toNat:Nat):Int)):=by congr 2; omega
  have i8a:idxD (dI x.a) 8=some x.a.toNat:=by rw[ea]; exact pW (by omega)
  have i8b:idxD (dI x.b) 8=some x.b.toNat:=by rw[eb]; exact pW (by omega)
  have la:x.a.toNat<near.length:=by omega
  have lb:x.b.toNat<(near.set x.a.toNat (near.getD x.a.toNat 0#64 ||| BitVec.twoPow 64 x.b.toNat)).length:=by simp; omega
  simp only[aj,aV,cw,bZ,cq,iJ,beq_refl,gV,sv,cut2,spl2,len2,gj,dK,i8a,i8b,get_near (getE la),sOne hl (x:=x.b) (by omega),sOne hl (x:=x.a) (by omega),binD_or,set_near,qfj la,get_near (getE lb),qfj lb,dV (a:=x) (sbig (show pre.length<big by omega))]
  exact ih
theorem l65_1{l k:Nat}(hl:1≤l){f:Fld}(hk:2000<k)(hjl:f.g.joins.length<1000)(hj:∀ j ∈ f.g.joins,(0≤j.a∧j.a<8)∧0≤j.b∧j.b<8){n:Nat}(hn:n≤8):∀(r i m:Nat) (near:List (BitVec 64)),i+r=n→r<m→near.length=8 →
  Wy (K l) k m (dI (n:Nat)) (dI (i:Nat)) (hC f near)=some (.tup [dH f (f.g.joins.foldl Dk ((List.range' i r).foldl Ay near)),dI 0])
 | 0,i,0,near,_,hm,_=>by simp at hm
 | 0,i,m+1,near,hi,_,h8=>by
  rw[r66_1]
  unfold Wx B66_1
  rw[fW,aj,dQ,if_neg (by omega)]
  have:=l65_2 (k:=k) hl (f:=f) f.g.joins [] near k (by omega) (by show 0+_<big; unfold big; omega) h8 hj
  simp only[List.nil_append,List.length_nil] at this
  rw[sv,aj,aV,aj,bY]
  exact this
 | r+1,i,0,near,_,hm,_=>by simp at hm
 | r+1,i,m+1,near,hi,hm,h8=>by
  rw[r66_1]
  unfold Wx B66_1
  have ih:=l65_1 (k:=k) hl (f:=f) hk hjl hj hn r (i+1) m (Ay near i) (by omega) (by omega) (by simp [Ay,h8])
  have so:=sOne hl (x:=(i:Int)) (by omega)
  have ei:((i:Int)).toNat=i:=by omega
  rw[ei] at so
  rw[fW,aj,dQ,if_pos (by omega),cq,bZ,so,aj,pW (by omega),aj,cq,bZ,qfj (by omega),bZ,lJ (by omega),aj,set_near]
  rw[List.range'_succ,List.foldl_cons]
  exact ih
def dq(f:Fld):List (BitVec 64):=f.g.joins.foldl Dk ((List.range' 0 f.eats.length).foldl Ay (List.replicate 8 0#64))
theorem mQ{n:Nat}{a:Int}:hasP n a=true↔0≤a∧a<n:=by
 unfold hasP inR
 simp; omega
theorem Gv{f:Fld}(h:fErr f=0):f.g.pads.length≤8∧f.g.pads.length≠0∧f.eats.length=f.g.pads.length∧cY f.g.pads.length f.start=true∧∀ j ∈ f.g.joins,hasP f.g.pads.length j.a=true∧hasP f.g.pads.length j.b=true:=by
 unfold fErr at h
 split at h
 ·rename_i h0
  split at h
  ·rename_i h1
   simp only[Bool.and_eq_true,decide_eq_true_eq] at h1
   unfold gErr at h0
   split at h0
   ·cases h0
   ·rename_i hl
    split at h0
    ·rename_i hg
     unfold gLim at hl
     unfold gGood at hg
     simp only[Bool.or_eq_true,decide_eq_true_eq] at hl
     simp only[Bool.and_eq_true,Bool.not_eq_true',decide_eq_false_iff_not,List.all_eq_true] at hg
     refine⟨by omega,hg.1,h1.2.1,h1.1,fun j hj=>?_⟩
     have:=hg.2.2.2.1 j hj
     unfold Gj at this
     simp only[Bool.and_eq_true] at this
     exact⟨this.1,this.2.1⟩
    ·cases h0
  ·cases h
 ·rename_i h0; exact absurd h h0
theorem fillH{a b c d e:D}:JQ [(.v (.slice none 0 0)),(.v (.slice none 0 0)),(.v (.slice none 0 0)),(.v (.slice none 0 0)),(.v (.slice none 0 0)),(.v (.int .u64 0)),(.v (.int .u64 0)),(.v (.int .u64 0)),(.v (.int .u64 0)),(.v (.int .u64 0)),(.v (.int .u64 0)),(.v (.int .u64 0)),(.v (.int .u64 0))] [(0,5,.agg [a,b,c,d,e])]=some [a,b,c,d,e,(.v (.int .u64 0)),(.v (.int .u64 0)),(.v (.int .u64 0)),(.v (.int .u64 0)),(.v (.int .u64 0)),(.v (.int .u64 0)),(.v (.int .u64 0)),(.v (.int .u64 0))]:=rfl
theorem s66{l:Nat}(hl:7≤l){f:Fld}(hs:sx f):pcD P (K l) 66 [dF f]=some (if fErr f=0 then .tup [dH f (dq f),dI 0] else .tup [.v (.pointer none),dI (fErr f)]):=by
 obtain⟨l,rfl⟩:=lev hl
 refine vw ?_ (by kernel_rfl)
 rw[c66]
 unfold C66_0 B66_0
 rw[cw,aj,cut5,aj,s55 (l:=l+6) (by omega) hs,aj,jV,aj,iV]
 by_cases h0:fErr f=0
 ·obtain ⟨h8, hne, he, _, hj⟩ := Gv h0
  have e:=l65_1 (l:=l+6) (k:=19999) (by omega) (f:=f) (by omega) (by have:=hs.1.2.1; omega) (fun j hj'=>by
   have:=hj j hj'
   rw[mQ,mQ] at this
   omega) (n:=f.eats.length) (by omega) f.eats.length 0 19999 (List.replicate 8 0#64) (by omega) (by omega) (by simp)
  simp only[h0,decide_true,Bool.not_true,Bool.false_eq_true,if_false,if_true]
  rw[aj,fillH,aj,Xk,aj,aV,aj,bY,List.length_map]
  exact e
 ·simp only[h0,decide_false,Bool.not_false,if_true,if_false]
theorem cutH{f:Fld}{near:List (BitVec 64)}:cutD (hC f near) 0 5=some (fC f):=by
 unfold cutD
 rw[if_pos (by simp)]
 rfl
theorem natD_nat{n:Nat}:natD (.v (.int .i64 (n:Int)))=some n:=rfl
theorem l51{l k:Nat}(hl:1≤l){u:D}:∀(suf pre:List (List Int)) (m:Nat),suf.length<m→pre.length+suf.length<big→(∀ x ∈ suf,x.length<1000∧∀ p ∈ x,0≤p∧p<64) →
  VV (K l) k m u (dLL (pre++suf)) (dI ((pre++suf).map dL).length) (dI pre.length) ((pre.map setB).map uB++List.replicate suf.length (uB 0#64))=some (.tup [u,.sl (((pre++suf).map setB).map uB),dI 0])
 | [],pre,0,hm,_,_=>by simp at hm
 | [],pre,m+1,_,_,_=>by
  rw[r57_1]
  unfold VQ B57_1
  simp only[aj,aV,ev,List.append_nil,dX,List.length_nil,List.replicate_zero]
 | x::suf,pre,0,hm,_,_=>by simp at hm
 | x::suf,pre,m+1,hm,hb,hx=>by
  rw[r57_1]
  unfold VQ B57_1
  simp only[List.length_cons] at hm hb
  have ih:=l51 (k:=k) hl (u:=u) suf (pre++[x]) m (by omega) (by simp; omega) (fun y hy=>hx y (by simp [hy]))
  simp only[List.map_append,List.map_cons,List.map_nil,List.append_assoc,List.cons_append,List.nil_append] at ih
  have hg:((pre.map setB).map uB++List.replicate (suf.length+1) (uB 0#64))[pre.length]?=some (uB 0#64):=by
   rw[List.getElem?_append_right (by simp)]
   simp [List.replicate_succ]
  have hset:List.set ((pre.map setB).map uB++List.replicate (suf.length+1) (uB 0#64)) pre.length (uB (setB x))=(pre.map setB).map uB++uB (setB x)::List.replicate suf.length (uB 0#64):=by
   rw[List.set_append_right _ _ (by simp)]
   simp [List.replicate_succ]
  simp only[aj,aV,bZ,cq,mZ,iJ,gj,dK,s83 hl (hx x (by simp)).1 (hx x (by simp)).2,List.length_cons]
  rw[pW (by simp),aj,hg,aj,cq,bZ,dV (a:=x) (sbig (show pre.length<big by omega)),aj,hset]
  simp only[List.map_append,List.map_cons]
  simpa using ih
theorem oy{n:Nat}{x:List Int}(hn:n≤8)(h:cY n x=true):∀ p ∈ x,0≤p∧p<8:=by
 unfold cY at h
 simp only[Bool.and_eq_true,List.all_eq_true] at h
 intro p hp
 have:=mQ.1 (h.1 p hp)
 omega
theorem s57{l:Nat}(hl:8≤l){f:Fld}(hs:sx f){plan:List (List Int)}(hp:plan.length<1000)(hx:∀ x ∈ plan,x.length<1000):pcD P (K l) 57 [dF f,dLL plan] =
  some (if aErr f plan=0 then .tup [dH f (dq f),.sl ((plan.map setB).map uB),dI 0] else .tup [.v (.pointer none),.v (.slice none 0 0),dI (aErr f plan)]):=by
 obtain⟨l,rfl⟩:=lev hl
 refine vw ?_ (by kernel_rfl)
 rw[c57]
 unfold C57_0 B57_0
 rw[cw,aj,cut5,aj,s66 (l:=l+7) (by omega) hs,aj]
 unfold aErr
 by_cases h0:fErr f=0
 ·obtain ⟨h8, hne, he, _, hj⟩ := Gv h0
  rw[if_pos h0,if_pos h0]
  have t0:tupD (.tup [dH f (dq f),dI 0]) 0=some (dH f (dq f)):=rfl
  have t1:tupD (.tup [dH f (dq f),dI 0]) 1=some (dI 0):=rfl
  rw[t0,aj,t1,aj,jV,aj]
  have hz:(!decide ((0:Int)=0))=false:=rfl
  rw[hz,ev,aV,aj,bY,mY,aj,dQ]
  unfold pErr
  by_cases h1:300<plan.length
  ·rw [if_pos (by simp; omega), if_pos h1]
   rfl
  ·rw [if_neg (by simp; omega), if_neg h1]
   have hev:=s82 (l:=l+7) (by omega) (g:=78) (a:=[dF f]) (b:=[]) (p:=cY f.g.pads.length) (xs:=plan) hp (fun x hx'=>s78 (by omega) (hx x hx'))
   rw[sX,fk,aj,cutH,aj,hev,aj,ew,aj,iV]
   cases hall:plan.all (cY f.g.pads.length)
   ·simp
   ·rw [List.all_eq_true] at hall
    have e:=l51 (l:=l+7) (k:=19999) (by omega) (u:=dH f (dq f)) plan [] 19999 (by omega) (by show 0+_<big; unfold big; omega) (fun x hx'=>⟨hx x hx',fun p hp'=>by have:=oy h8 (hall x hx') p hp'; omega⟩)
    simp only[List.nil_append,List.length_nil,List.map_nil] at e
    simp only[Bool.not_true,Bool.false_eq_true,if_false,if_true,aj,bY,natD_nat,List.length_map]
    have hc:(Nat.ble plan.length plan.length && Nat.blt plan.length 1048576)=true:=by simp; omega
    rw[hc,bZ]
    rw[List.length_map] at e
    exact e
 ·rw [if_neg h0, if_neg h0]
  have t0:tupD (.tup [.v (.pointer none),dI (fErr f)]) 0=some (.v (.pointer none)):=rfl
  have t1:tupD (.tup [.v (.pointer none),dI (fErr f)]) 1=some (dI (fErr f)):=rfl
  rw[t0,aj,t1,aj,jV,aj]
  simp [h0,iJ]
end Go.Proofs.YtcjnaeimeilomaaGreat.L
end
section
open Go Go.Ev
set_option maxRecDepth 100000
namespace Go.Proofs.YtcjnaeimeilomaaGreat.L
def OV(near:List (BitVec 64))(n:Nat)(s w:BitVec 64):BitVec 64:=nw near n s &&& ~~~w
def mayB(near:List (BitVec 64))(n:Nat):BitVec 64→List (BitVec 64)→List (BitVec 64)
 | s,[]=>[s]
 | s,w::ws=>s::mayB near n (OV near n s w) ws
theorem l53{l k:Nat}(hl:4≤l){f:Fld}{near:List (BitVec 64)}(hn:f.eats.length≤near.length)(h8:near.length=8):∀(suf pre don:List (BitVec 64)) (s:BitVec 64) (m:Nat),suf.length<m→pre.length+suf.length<500000→don.length=pre.length →
  VZ (K l) k m (dH f near) (.sl ((pre++suf).map uB)) (dI ((pre++suf).map uB).length) (dI pre.length) ((don++[s]).map uB)=some (.sl ((don++mayB near f.eats.length s suf).map uB))
 | [],pre,don,s,0,hm,_,_=>by simp at hm
 | [],pre,don,s,m+1,_,_,_=>by
  rw[r59_1]
  unfold VY B59_1
  simp only[aj,aV,ev,List.append_nil,dX]
  rfl
 | x::suf,pre,don,s,0,hm,_,_=>by simp at hm
 | x::suf,pre,don,s,m+1,hm,hb,hd=>by
  rw[r59_1]
  unfold VY B59_1
  simp only[List.length_cons] at hm hb
  have ih:=l53 (k:=k) hl (f:=f) hn h8 suf (pre++[x]) (don++[s]) (OV near f.eats.length s x) m (by omega) (by simp; omega) (by simp [hd])
  simp only[List.append_assoc,List.cons_append,List.nil_append] at ih
  have g:(don++[s])[pre.length]?=some s:=by rw[← hd]; simp
  simp only[aj,aV,bZ,cq,iJ,gj,dK]
  rw[CJ g,cq,bZ,s85 hl hn h8,aj,s86 (by omega),aj,cq,bZ,vX (by simp; omega),aj,dV (a:=x) (sbig (by unfold big; omega)),aj]
  have e:(don++[s]).map uB++[uB (nw near f.eats.length s &&& ~~~x)]=(don++[s,OV near f.eats.length s x]).map uB:=by simp [OV]
  rw[e,ih]
  rfl
theorem s59{l:Nat}(hl:5≤l){f:Fld}{near:List (BitVec 64)}(hn:f.eats.length≤near.length)(h8:near.length=8)(hst:f.start.length<1000∧∀ p ∈ f.start,0≤p∧p<64){ws:List (BitVec 64)}(hw:ws.length<1000) :
  pcD P (K l) 59 [dH f near,.sl (ws.map uB)]=some (.sl ((mayB near f.eats.length (setB f.start) ws).map uB)):=by
 obtain⟨l,rfl⟩:=lev hl
 refine vw ?_ (by kernel_rfl)
 rw[c59]
 unfold C59_0 B59_0
 have e3:(List.drop 3 (hC f near))[0]?=some (dL f.start):=rfl
 rw[sX,fk,aj,e3,aj,s83 (by omega) hst.1 hst.2,aj,cq,bZ,aV,aj,bY]
 exact l53 (l:=l+4) (k:=19999) (by omega) (f:=f) hn h8 ws [] [] (setB f.start) 19999 (by omega) (by show 0+_<500000; omega) rfl
theorem mayB_len{near:List (BitVec 64)}{n:Nat}:∀(ws:List (BitVec 64)) (s:BitVec 64),(mayB near n s ws).length=ws.length+1
 | [],s=>rfl
 | w::ws,s=>by simp [mayB,mayB_len ws]
theorem qfk(f:Fld):(dq f).length=8:=by
 unfold dq
 have h1:∀(l:List Nat) (near:List (BitVec 64)),(l.foldl Ay near).length=near.length:=by
  intro l
  induction l with
  | nil=>intro near; rfl
  | cons a l ih=>intro near; rw[List.foldl_cons,ih]; simp [Ay]
 have h2:∀(l:List Join) (near:List (BitVec 64)),(l.foldl Dk near).length=near.length:=by
  intro l
  induction l with
  | nil=>intro near; rfl
  | cons a l ih=>intro near; rw[List.foldl_cons,ih]; simp [Dk]
 rw[h2,h1]; simp
theorem s19{l:Nat}(hl:9≤l){f:Fld}(hs:sx f){plan:List (List Int)}(hp:plan.length<900)(hx:∀ x ∈ plan,x.length<1000):pcD P (K l) 19 [dF f,dLL plan] =
  some (if aErr f plan=0 then .tup [dLL ((mayB (dq f) f.eats.length (setB f.start) (plan.map setB)).map eX),dI 0] else .tup [.v (.slice none 0 0),dI (aErr f plan)]):=by
 obtain⟨l,rfl⟩:=lev hl
 refine vw ?_ (by kernel_rfl)
 rw[c19]
 unfold C19_0 B19_0
 rw[cw,aj,cut5,aj,s57 (l:=l+8) (by omega) hs (by omega) hx,aj]
 by_cases h0:aErr f plan=0
 ·rw [if_pos h0, if_pos h0]
  have hf:fErr f=0:=by
   unfold aErr at h0
   split at h0
   ·assumption
   ·exact h0
  obtain⟨h8,hne,he,hst,hj⟩:=Gv hf
  have t0:tupD (.tup [dH f (dq f),.sl ((plan.map setB).map uB),dI 0]) 0=some (dH f (dq f)):=rfl
  have t1:tupD (.tup [dH f (dq f),.sl ((plan.map setB).map uB),dI 0]) 1=some (.sl ((plan.map setB).map uB)):=rfl
  have t2:tupD (.tup [dH f (dq f),.sl ((plan.map setB).map uB),dI 0]) 2=some (dI 0):=rfl
  have hz:(!decide ((0:Int)=0))=false:=rfl
  rw[t0,aj,t1,aj,t2,aj,jV,aj,hz,ev]
  rw[s59 (l:=l+8) (by omega) (by rw[qfk]; omega) (qfk f) ⟨by have:=hs.2.1; omega,fun p hp'=>by have:=oy h8 hst p hp'; omega⟩ (by simp; omega),aj,s58 (l:=l+8) (by omega) (by rw[mayB_len]; simp; omega),aj]
 ·rw [if_neg h0, if_neg h0]
  have t0:tupD (.tup [.v (.pointer none),.v (.slice none 0 0),dI (aErr f plan)]) 0=some (.v (.pointer none)):=rfl
  have t1:tupD (.tup [.v (.pointer none),.v (.slice none 0 0),dI (aErr f plan)]) 1=some (.v (.slice none 0 0)):=rfl
  have t2:tupD (.tup [.v (.pointer none),.v (.slice none 0 0),dI (aErr f plan)]) 2=some (dI (aErr f plan)):=rfl
  rw[t0,aj,t1,aj,t2,aj,jV,aj]
  simp [h0,iJ]
end Go.Proofs.YtcjnaeimeilomaaGreat.L
end
section
open Go Go.Ev
set_option maxRecDepth 100000
namespace Go.Proofs.YtcjnaeimeilomaaGreat.L
theorem l32{l k:Nat}{n:Int}:∀(suf pre:List Int) (m:Nat),suf.length<m→pre.length+suf.length<big →
  S39_1 (K l) k m (dL (pre++suf)) (dI n) (dI pre.length)=some (dB (suf.any fun x=>decide (x=n)))
 | [],pre,0,hm,_=>by simp at hm
 | [],pre,m+1,_,_=>by
  rw[r39_1]
  unfold C39_1 B39_1
  simp only[aj,aV,ev,bY,List.append_nil,dX]
  rfl
 | x::suf,pre,0,hm,_=>by simp at hm
 | x::suf,pre,m+1,hm,hb=>by
  rw[r39_1]
  unfold C39_1 B39_1
  simp only[List.length_cons] at hm hb
  have ih:=l32 (l:=l) (k:=k) (n:=n) suf (pre++[x]) m (by omega) (by simp; omega)
  simp only[List.append_assoc,List.cons_append,List.nil_append] at ih
  simp only[aj,aV,bZ,cq,if_true,kV,bY,gj,dK,iV,dV (a:=x) (sbig (show pre.length<big by omega))]
  rw[ih]
  by_cases h:x=n <;> simp [h]
def hasL(l:List Int)(n:Int):Bool:=l.any fun x=>decide (x=n)
theorem s39{l:Nat}(hl:1≤l){xs:List Int}{n:Int}(hx:xs.length<1000):pcD P (K l) 39 [dL xs,dI n]=some (dB (hasL xs n)):=by
 obtain⟨l,rfl⟩:=lev hl
 refine eK ?_
 rw[c39]
 unfold C39_0 B39_0
 exact l32 (l:=l) (k:=19999) (n:=n) xs [] 19999 (by omega) (by show 0+_<big; unfold big; omega)
def joinB(a b:Int)(j:Join):Bool:=(decide (j.a=a) && decide (j.b=b)) || (decide (j.a=b) && decide (j.b=a))
def Jy(f:Fld)(p q:Int):Bool:=decide (p=q) || f.g.joins.any (joinB p q)
def Gw(f:Fld)(bef week:List Int)(i r:Nat):List Int:=((List.range' i r).filter (fun p:Nat=>(bef.any fun q=>Jy f q p) && !hasL week p)).map (fun p:Nat=>(p:Int))
def mayL(f:Fld):List Int→List (List Int)→List (List Int)
 | b,[]=>[b]
 | b,w::ws=>b::mayL f (Gw f b w 0 f.g.pads.length) ws
end Go.Proofs.YtcjnaeimeilomaaGreat.L
end
section
open Go Go.Ev
set_option maxRecDepth 100000
namespace Go.Proofs.YtcjnaeimeilomaaGreat.L
theorem Iv{p i:Nat}(hi:i<64):(BitVec.twoPow 64 p).getLsbD i=decide (p=i):=by
 rw[BitVec.getLsbD_twoPow]
 simp []
 omega
theorem Yk{i:Nat}(hi:i<64):∀(ps:List Nat) (s:BitVec 64),(orB s ps).getLsbD i=(s.getLsbD i || ps.any fun p=>decide (p=i))
 | [],s=>by simp [orB]
 | p::ps,s=>by
  have ih:=Yk hi ps (s ||| BitVec.twoPow 64 p)
  unfold orB at ih ⊢
  rw[List.foldl_cons,ih,BitVec.getLsbD_or,Iv hi,List.any_cons,Bool.or_assoc]
theorem setB_bit{i:Nat}(hi:i<64)(l:List Int):(setB l).getLsbD i=l.any fun x=>decide (x.toNat=i):=by
 have key:∀(l:List Int) (s:BitVec 64),(l.foldl (fun s p=>s ||| BitVec.twoPow 64 p.toNat) s).getLsbD i=(s.getLsbD i || l.any fun x=>decide (x.toNat=i)):=by
  intro l
  induction l with
  | nil=>intro s; simp
  | cons x l ih=>intro s; rw[List.foldl_cons,ih,BitVec.getLsbD_or,Iv hi,List.any_cons,Bool.or_assoc]
 unfold setB
 rw[key]; simp
theorem meets_iff{a b:BitVec 64}:meets a b=true↔∃ i,i<64∧a.getLsbD i=true∧b.getLsbD i=true:=by
 unfold meets
 simp only[Bool.not_eq_true',decide_eq_false_iff_not]
 constructor
 ·intro h
  refine Classical.byContradiction fun hn=>h ?_
  apply BitVec.eq_of_getLsbD_eq
  intro i hi
  rw[BitVec.getLsbD_and]
  cases h1:a.getLsbD i <;> cases h2:b.getLsbD i <;> simp
  exact hn ⟨i,hi,h1,h2⟩
 ·rintro ⟨i, hi, h1, h2⟩ h
  have:=congrArg (fun c=>BitVec.getLsbD c i) h
  simp [h1,h2] at this
theorem xK{l:List Int}(hl:∀ x ∈ l,0≤x∧x<64){i:Nat}(hi:i<64):(setB l).getLsbD i=hasL l i:=by
 rw[setB_bit hi]
 unfold hasL
 rw[Bool.eq_iff_iff,List.any_eq_true,List.any_eq_true]
 constructor
 ·rintro ⟨x, hx, h⟩
  exact⟨x,hx,by have:=hl x hx; simp at h ⊢; omega⟩
 ·rintro ⟨x, hx, h⟩
  exact⟨x,hx,by simp at h ⊢; omega⟩
theorem mK{s:BitVec 64}{q:Int}:q ∈ eX s↔0≤q∧q<8∧s.getLsbD q.toNat=true:=by
 unfold eX
 simp only[List.mem_map,List.mem_filter,List.mem_range'_1]
 constructor
 ·rintro ⟨p, ⟨h1, h2⟩, rfl⟩
  refine⟨by omega,by omega,by simpa using h2⟩
 ·rintro ⟨h1, h2, h3⟩
  exact⟨q.toNat,⟨by omega,h3⟩,by omega⟩
theorem iStep_bit:∀(r i:Nat) (near:List (BitVec 64)),near.length=8→i+r≤8→∀ p,p<8→((List.range' i r).foldl Ay near).getD p 0#64=if i≤p∧p<i+r then BitVec.twoPow 64 p else near.getD p 0#64
 | 0,i,near,h8,hr,p,hp=>by simp; omega
 | r+1,i,near,h8,hr,p,hp=>by
  rw[List.range'_succ,List.foldl_cons,iStep_bit r (i+1) (Ay near i) (by simp [Ay,h8]) (by omega) p hp]
  by_cases h1:i+1≤p∧p<i+1+r
  ·rw[if_pos h1,if_pos (by omega)]
  ·rw [if_neg h1]
   unfold Ay
   rw[List.getD_eq_getElem?_getD,List.getElem?_set]
   by_cases h2:i=p
   ·subst h2
    rw[if_pos rfl,if_pos (by omega),if_pos (by omega)]
    rfl
   ·rw[if_neg h2,if_neg (by omega),← List.getD_eq_getElem?_getD]
theorem jStep_bit{near:List (BitVec 64)}(h8:near.length=8){j:Join}(ha:0≤j.a∧j.a<8)(hb:0≤j.b∧j.b<8){p q:Nat}(hp:p<8)(hq:q<64) :
  ((Dk near j).getD p 0#64).getLsbD q=((near.getD p 0#64).getLsbD q || joinB p q j):=by
 unfold Dk
 simp only
 have hs:∀(l:List (BitVec 64)) (i:Nat) (v:BitVec 64),l.length=8→i<8→(l.set i v).getD p 0#64=if i=p then v else l.getD p 0#64:=by
  intro l i v hl hi
  rw[List.getD_eq_getElem?_getD,List.getElem?_set]
  by_cases h:i=p
  ·subst h; rw[if_pos rfl,if_pos (by omega),if_pos rfl]; rfl
  ·rw[if_neg h,if_neg h,← List.getD_eq_getElem?_getD]
 have hs2:∀(l:List (BitVec 64)) (i k:Nat) (v:BitVec 64),l.length=8→i<8→(l.set i v).getD k 0#64=if i=k then v else l.getD k 0#64:=by
  intro l i k v hl hi
  rw[List.getD_eq_getElem?_getD,List.getElem?_set]
  by_cases h:i=k
  ·subst h; rw[if_pos rfl,if_pos (by omega),if_pos rfl]; rfl
  ·rw[if_neg h,if_neg h,← List.getD_eq_getElem?_getD]
 rw[hs _ _ _ (by simp [h8]) (by omega),hs2 _ _ j.b.toNat _ h8 (by omega),hs _ _ _ h8 (by omega)]
 have e1:decide (j.a=(p:Int))=decide (j.a.toNat=p):=by
  rw[decide_eq_decide]; omega
 have e2:decide (j.b=(q:Int))=decide (j.b.toNat=q):=by
  rw[decide_eq_decide]; omega
 have e3:decide (j.a=(q:Int))=decide (j.a.toNat=q):=by
  rw[decide_eq_decide]; omega
 have e4:decide (j.b=(p:Int))=decide (j.b.toNat=p):=by
  rw[decide_eq_decide]; omega
 unfold joinB
 rw[e1,e2,e3,e4]
 by_cases ha':j.a.toNat=p <;> by_cases hb':j.b.toNat=p
 ·have : j.a.toNat = j.b.toNat := by omega
  simp [ha',hb',Iv hq]
 ·simp [ha',hb',Iv hq]
 ·have : ¬ j.a.toNat = j.b.toNat := by omega
  simp [ha',hb',Iv hq]
 ·simp [ha',hb']
theorem near_bit{f:Fld}(hj:∀ j ∈ f.g.joins,(0≤j.a∧j.a<8)∧0≤j.b∧j.b<8)(hn:f.eats.length≤8){p q:Nat}(hp:p<f.eats.length)(hq:q<64):((dq f).getD p 0#64).getLsbD q=Jy f p q:=by
 have key:∀(js:List Join) (near:List (BitVec 64)),near.length=8→(∀ j ∈ js,(0≤j.a∧j.a<8)∧0≤j.b∧j.b<8)→((js.foldl Dk near).getD p 0#64).getLsbD q=((near.getD p 0#64).getLsbD q || js.any (joinB p q)):=by
  intro js
  induction js with
  | nil=>intro near _ _; simp
  | cons j js ih=>
   intro near h8 h
   rw[List.foldl_cons,ih (Dk near j) (by simp [Dk,h8]) (fun x hx=>h x (by simp [hx])),jStep_bit h8 (h j (by simp)).1 (h j (by simp)).2 (by omega) hq,List.any_cons,Bool.or_assoc]
 have hil:((List.range' 0 f.eats.length).foldl Ay (List.replicate 8 0#64)).length=8:=by
  have h1:∀(l:List Nat) (near:List (BitVec 64)),(l.foldl Ay near).length=near.length:=by
   intro l
   induction l with
   | nil=>intro near; rfl
   | cons a l ih=>intro near; rw[List.foldl_cons,ih]; simp [Ay]
  rw[h1]; simp
 unfold dq
 rw[key _ _ hil hj,iStep_bit _ _ _ (by simp) (by omega) p (by omega),if_pos (by omega),Iv hq]
 unfold Jy
 congr 1
 rw[decide_eq_decide]; omega
theorem goes_sym{f:Fld}(p q:Int):Jy f p q=Jy f q p:=by
 unfold Jy
 congr 1
 ·rw[decide_eq_decide]; constructor <;> exact fun h=>h.symm
 ·congr 1
  funext j
  unfold joinB
  rw[Bool.or_comm]
theorem step_eq{f:Fld}(h0:fErr f=0){s:BitVec 64}(hs:∀ i,i<64→s.getLsbD i=true→i<f.g.pads.length){w:List Int}(hw:cY f.g.pads.length w=true) :
  eX (OV (dq f) f.eats.length s (setB w))=Gw f (eX s) w 0 f.g.pads.length∧∀ i,i<64→(OV (dq f) f.eats.length s (setB w)).getLsbD i=true→i<f.g.pads.length:=by
 obtain⟨h8,hne,he,hst,hj⟩:=Gv h0
 have hj':∀ j ∈ f.g.joins,(0≤j.a∧j.a<8)∧0≤j.b∧j.b<8:=fun j hjm=>by
  have:=hj j hjm
  rw[mQ,mQ] at this
  omega
 have hwl:=oy h8 hw
 have bit:∀ i,i<64→(OV (dq f) f.eats.length s (setB w)).getLsbD i=(decide (i<f.g.pads.length) && (((eX s).any fun q=>Jy f q i) && !hasL w i)):=by
  intro i hi
  unfold OV
  rw[BitVec.getLsbD_and,BitVec.getLsbD_not,xK (fun x hx=>by have:=hwl x hx; omega) hi]
  have hr:(nw (dq f) f.eats.length s).getLsbD i=(decide (i<f.g.pads.length) && ((eX s).any fun q=>Jy f q i)):=by
   unfold nw
   rw[Yk hi]
   rw[Bool.eq_iff_iff]
   simp only[BitVec.getLsbD_zero,Bool.false_or,List.any_eq_true,List.mem_filter,List.mem_range'_1,Bool.and_eq_true,decide_eq_true_eq]
   constructor
   ·rintro ⟨p, ⟨hp, hpn⟩, rfl⟩
    refine⟨by omega,?_⟩
    unfold Jx at hpn
    obtain⟨q,hq,b1,b2⟩:=meets_iff.1 hpn
    rw[near_bit hj' (by omega) (by omega) hq] at b1
    have:=hs q hq b2
    exact⟨(q:Int),mK.2 ⟨by omega,by omega,by simpa using b2⟩,by rw[goes_sym]; exact b1⟩
   ·rintro ⟨hin, q, hq, hg⟩
    obtain⟨q1,q2,q3⟩:=mK.1 hq
    refine⟨i,⟨by omega,?_⟩,rfl⟩
    unfold Jx
    refine meets_iff.2 ⟨q.toNat,by omega,?_,q3⟩
    rw[near_bit hj' (by omega) (by omega) (by omega),goes_sym]
    have:((q.toNat:Nat):Int)=q:=by omega
    rw[this]; exact hg
  rw[hr]
  cases decide (i<f.g.pads.length) <;> cases ((eX s).any fun q=>Jy f q i) <;> cases hasL w i <;> simp [hi]
 refine⟨?_,fun i hi h=>?_⟩
 ·conv => lhs; unfold eX
  have hsplit:List.range' 0 8=List.range' 0 f.g.pads.length++List.range' f.g.pads.length (8-f.g.pads.length):=by
   have:=List.range'_append (s:=0) (m:=f.g.pads.length) (n:=8-f.g.pads.length) (step:=1)
   simp only[Nat.one_mul,Nat.zero_add] at this
   rw[this]
   congr 1
   omega
  rw[hsplit,List.filter_append]
  have hnil:(List.range' f.g.pads.length (8-f.g.pads.length)).filter (fun p=>(OV (dq f) f.eats.length s (setB w)).getLsbD p)=[]:=by
   rw[List.filter_eq_nil_iff]
   intro p hp
   rw[List.mem_range'_1] at hp
   rw[bit p (by omega)]
   have:decide (p<f.g.pads.length)=false:=by simp; omega
   simp [this]
  rw[hnil,List.append_nil]
  unfold Gw
  congr 1
  apply List.filter_congr
  intro p hp
  rw[List.mem_range'_1] at hp
  rw[bit p (by omega)]
  have:decide (p<f.g.pads.length)=true:=by simp; omega
  rw[this,Bool.true_and]
 ·rw [bit i hi] at h
  simp only[Bool.and_eq_true,decide_eq_true_eq] at h
  exact h.1
theorem CQ{n:Nat}(hn:n≤8){l:List Int}(h:cY n l=true):eX (setB l)=l:=by
 have hlt:=oy hn h
 have hp:eX (setB l)=((List.range' 0 8).filter (fun p:Nat=>hasL l p)).map (fun p:Nat=>(p:Int)):=by
  unfold eX
  congr 1
  apply List.filter_congr
  intro p hp
  rw[List.mem_range'_1] at hp
  exact xK (fun x hx=>by have:=hlt x hx; omega) (by omega)
 rw[hp]
 have hr:vq l=true:=by
  unfold cY at h
  simp only[Bool.and_eq_true] at h
  exact h.2
 have key:∀(l:List Int) (i r:Nat),vq l=true→(∀ x ∈ l,(i:Int)≤x∧x<i+r)→((List.range' i r).filter (fun p:Nat=>hasL l p)).map (fun p:Nat=>(p:Int))=l:=by
  intro l i r
  induction r generalizing l i with
  | zero=>
   intro _ hx
   cases l with
   | nil=>rfl
   | cons x l=>have:=hx x (by simp); omega
  | succ r ih=>
   intro hr hx
   rw[List.range'_succ,List.filter_cons]
   cases l with
   | nil=>
    have e:hasL [] (i:Int)=false:=rfl
    rw[e]
    exact ih [] (i+1) rfl (by simp)
   | cons x l=>
    have hmono:∀(l:List Int) (x:Int),vq (x::l)=true→∀ y ∈ l,x<y:=by
     intro l
     induction l with
     | nil=>intro x _ y hy; cases hy
     | cons a l ih2=>
      intro x h y hy
      simp only[vq,Bool.and_eq_true,decide_eq_true_eq] at h
      rcases List.mem_cons.1 hy with rfl | hy
      ·exact h.1
      ·have:=ih2 a h.2 y hy; omega
    have hm:=hmono l x hr
    have hrl:vq l=true:=by
     cases l with
     | nil=>rfl
     | cons a l=>simp only[vq,Bool.and_eq_true] at hr; exact hr.2
    by_cases hxi:x=i
    ·subst hxi
     have e:hasL ((i:Int)::l) (i:Int)=true:=by unfold hasL; simp
     rw[if_pos e,List.map_cons]
     congr 1
     have ih':=ih l (i+1) hrl (fun y hy=>by have h1:=hm y hy; have h2:=hx y (by simp [hy]); omega)
     rw[← ih']
     rw[ih']
     refine Eq.trans ?_ ih'
     congr 1
     apply List.filter_congr
     intro p hp
     rw[List.mem_range'_1] at hp
     unfold hasL
     rw[List.any_cons]
     have:decide ((i:Int)=(p:Int))=false:=by simp; omega
     rw[this,Bool.false_or]
    ·have e : hasL (x :: l) (i : Int) = false := by
      unfold hasL
      rw[List.any_eq_false]
      intro y hy
      rcases List.mem_cons.1 hy with rfl | hy
      ·simpa using hxi
      ·have h1:=hm y hy; have h2:=hx x (by simp); simp; omega
     rw[if_neg (by simp [e])]
     exact ih (x::l) (i+1) hr (fun y hy=>by
      have h2:=hx y hy
      have h3:=hx x (by simp)
      rcases List.mem_cons.1 hy with rfl | hy'
      ·omega
      ·have:=hm y hy'; omega)
 exact key l 0 8 hr (fun x hx=>by have:=hlt x hx; omega)
theorem may_eq{f:Fld}(h0:fErr f=0):∀(plan:List (List Int)) (s:BitVec 64),(∀ i,i<64→s.getLsbD i=true→i<f.g.pads.length)→plan.all (cY f.g.pads.length)=true →
  (mayB (dq f) f.eats.length s (plan.map setB)).map eX=mayL f (eX s) plan
 | [],s,_,_=>rfl
 | w::plan,s,hs,hp=>by
  simp only[List.all_cons,Bool.and_eq_true] at hp
  obtain⟨e1,e2⟩:=step_eq h0 hs hp.1
  rw[List.map_cons]
  unfold mayB mayL
  rw[List.map_cons,may_eq h0 plan _ e2 hp.2,e1]
theorem may_same{f:Fld}{plan:List (List Int)}(h:aErr f plan=0):(mayB (dq f) f.eats.length (setB f.start) (plan.map setB)).map eX=mayL f f.start plan:=by
 unfold aErr at h
 split at h
 ·rename_i h0
  obtain⟨h8,hne,he,hst,hj⟩:=Gv h0
  unfold pErr at h
  split at h
  ·cases h
  ·split at h
   ·rename_i hall
    have hlt:=oy h8 hst
    rw[may_eq h0 plan (setB f.start) (fun i hi hb=>by
     rw[xK (fun x hx=>by have:=hlt x hx; omega) hi] at hb
     unfold hasL at hb
     rw[List.any_eq_true] at hb
     obtain⟨x,hx,e⟩:=hb
     have hx2:cY f.g.pads.length f.start=true:=hst
     unfold cY at hx2
     simp only[Bool.and_eq_true,List.all_eq_true] at hx2
     have:=mQ.1 (hx2.1 x hx)
     simp at e; omega) hall,CQ h8 hst]
   ·cases h
 ·rename_i h0; exact absurd h h0
end Go.Proofs.YtcjnaeimeilomaaGreat.L
end
section
open Go Go.Ev
set_option maxRecDepth 100000
namespace Go.Proofs.YtcjnaeimeilomaaGreat.L
theorem mayL_len{f:Fld}:∀(ws:List (List Int)) (b:List Int),(mayL f b ws).length=ws.length+1
 | [],b=>rfl
 | w::ws,b=>by unfold mayL; rw[List.length_cons,mayL_len ws,List.length_cons]
theorem qfv:∀ {l:List Int},l.Pairwise (· < ·)→vq l=true
 | [],_=>rfl
 | [_],_=>rfl
 | a::b::l,h=>by
  rw[List.pairwise_cons] at h
  unfold vq
  rw[qfv h.2,decide_eq_true (h.1 b (by simp))]; rfl
theorem after_ok{f:Fld}{b w:List Int}{n:Nat}:cY n (Gw f b w 0 n)=true:=by
 unfold cY Gw
 rw[Bool.and_eq_true]
 constructor
 ·rw [List.all_eq_true]
  intro x hx
  simp only[List.mem_map,List.mem_filter,List.mem_range'_1] at hx
  obtain⟨p,⟨hp,_⟩,rfl⟩:=hx
  rw[mQ]
  omega
 ·apply qfv
  rw[List.pairwise_map]
  apply List.Pairwise.filter
  exact List.Pairwise.imp (fun h=>Int.ofNat_lt.2 h) List.pairwise_lt_range'
theorem CV{f:Fld}{plan:List (List Int)}(h:aErr f plan=0):fErr f=0∧plan.length≤300∧plan.all (cY f.g.pads.length)=true:=by
 unfold aErr at h
 split at h
 ·rename_i h0
  unfold pErr at h
  split at h
  ·cases h
  ·split at h
   ·rename_i h1 h2
    exact⟨h0,by omega,h2⟩
   ·cases h
 ·rename_i h0; exact absurd h h0
theorem Mk{n:Nat}(hn:n≤8){l:List Int}(h:cY n l=true):l.length≤8:=by
 rw[← CQ hn h]
 unfold eX
 rw[List.length_map]
 exact Nat.le_trans (List.length_filter_le _ _) (by simp)
theorem MJ{f:Fld}(hn:f.g.pads.length≤8):∀(ws:List (List Int)) (b:List Int),cY f.g.pads.length b=true→∀ x ∈ mayL f b ws,x.length≤8
 | [],b,h,x,hx=>by
  unfold mayL at hx
  rw[List.mem_singleton] at hx
  subst hx; exact Mk hn h
 | w::ws,b,h,x,hx=>by
  unfold mayL at hx
  rcases List.mem_cons.1 hx with q | q
  ·subst q; exact Mk hn h
  ·exact MJ hn ws _ after_ok x q
theorem sMayL{l:Nat}(hl:9≤l){f:Fld}(hs:sx f){plan:List (List Int)}(hp:plan.length<900)(hx:∀ x ∈ plan,x.length<1000)(h:aErr f plan=0) :
  pcD P (K l) 19 [dF f,dLL plan]=some (.tup [dLL (mayL f f.start plan),dI 0]):=by
 rw[s19 hl hs hp hx,if_pos h,may_same h]
theorem sReady{l:Nat}(hl:8≤l){f:Fld}{plan:List (List Int)}:∃ b,pcD P (K l) 37 [dF f,dLL plan]=some (dB b) ∧
  (b=true→sx f∧plan.length≤310∧(∀ x ∈ plan,x.length≤11)∧aErr f plan=0):=by
 obtain⟨l,rfl⟩:=lev (show 1≤l by omega)
 obtain⟨b,eb,hb⟩:=s15 (l:=l) (by omega) (f:=f) (xs:=plan)
 cases b with
 | false=>
  refine⟨false,eK ?_,fun z=>by cases z⟩
  rw[c37]
  unfold C37_0 B37_0
  rw[cw,aj,cut5,aj,eb,aj,ev]
 | true=>
  obtain⟨⟨t1,t2,t3,t4⟩,t5,t6,t7⟩:=hb rfl
  have hs:sx f:=⟨⟨by omega,by omega,by omega⟩,by omega,by omega⟩
  have hx:∀ x ∈ plan,x.length<1000:=fun x h=>by have:=t7 x h; omega
  refine⟨decide (aErr f plan=0),eK ?_,fun z=>⟨hs,t6,t7,of_decide_eq_true z⟩⟩
  rw[c37]
  unfold C37_0 B37_0
  rw[cw,aj,cut5,aj,eb,aj,iJ,aj,s22 (by omega) hs (by omega) hx,aj,kV,aj]
theorem binV_rem{t:TypeId}{x y:Operand}{a b:Int}(hb:b≠0):binV P .rem t x y (.int .i64 a) (.int .i64 b)=some (.int .i64 (a.tmod b)):=by
 refine vW (by simp [binOp,Op.intDiv,hb]) rfl ?_
 rintro m n rfl rfl
 exact .inr rfl
theorem binD_remN{t:TypeId}{x y:Operand}{a n:Nat}(h:n≠0):binD P .rem t x y (dI (a:Int)) (dI (n:Int))=some (dI ((a % n:Nat):Int)):=by
 have:=sV (P:=P) (t:=t) (x:=x) (y:=y) (op:=.rem) (binV_rem (t:=t) (x:=x) (y:=y) (a:=(a:Int)) (b:=(n:Int)) (by omega)) rfl
 have e:((a:Int).tmod (n:Int))=((a % n:Nat):Int):=by
  rw[Int.tmod_eq_emod_of_nonneg (by omega)]
  rfl
 rw[e] at this
 exact this
end Go.Proofs.YtcjnaeimeilomaaGreat.L
end
section
open Go Go.Ev
set_option maxRecDepth 100000
namespace Go.Proofs.YtcjnaeimeilomaaGreat.L
theorem vals_dI:∀(k:List Int),Px (k.map dI)=some (k.map (.int .i64))
 | []=>rfl
 | x::k=>by
  show(match Px (k.map dI) with | some vs=>some (Value.int .i64 x::vs) | none=>none)=_
  rw[vals_dI k]; rfl
theorem mapAt0{n:Nat}{l:MapL}(hl:∀ x ∈ l,x.1.length=n):MapAt (Tr.set .nil 0 (some (.map (fX l 0) l.length))) 0 n l:=⟨by rw[Tr.get_set,if_pos rfl],hl⟩
theorem lookD_ents{t key elem:TypeId}{n:Nat}{l:MapL}{k:List Int}(ht:Dy P t=some (key,elem))(hf:zW P key=some n)(hz:jx P elem=some (.int .i64 0))(hl:∀ x ∈ l,x.1.length=n)(hk:k.length=n) :
  PJ P t (fX l 0) (.agg (k.map dI)) false=some (dI (getF l k)):=by
 have h:=map_get ht hf hz (mapAt0 hl) hk
 unfold fZ at h
 simp only[ht,zZ,(mapAt0 hl).block,Hk] at h
 unfold PJ
 simp only[ht,valD,vals_dI]
 have hp:bz (.agg ⟨k.map (.int .i64)⟩)=true:=Hk k
 rw[hp]
 have h':HY P key elem (fX l 0) (.agg ⟨k.map (.int .i64)⟩) false=some (.int .i64 (getF l k)):=h
 simp only[h']
 rfl
theorem updD_ents{t key elem:TypeId}{n:Nat}{l:MapL}{k:List Int}{v:Int}(ht:Dy P t=some (key,elem))(hf:zW P key=some n)(hl:∀ x ∈ l,x.1.length=n)(hk:k.length=n) :
  updD P t (fX l 0) l.length (.agg (k.map dI)) (dI v)=some (fX (putL k v l) 0,(putL k v l).length):=by
 obtain⟨H',h1,h2,_⟩:=map_put (v:=v) ht hf (mapAt0 hl) hk
 unfold vz at h1
 have hp:(bz (keyV k) && bz (.int .i64 v))=true:=by rw[Hk]; rfl
 simp only[ht,(mapAt0 hl).block,hp] at h1
 unfold updD
 simp only[ht,valD,vals_dI]
 have hp':(bz (.agg ⟨k.map (.int .i64)⟩) && bz (.int .i64 v))=true:=hp
 rw[hp']
 show cz P (updS key (fX l 0) l.length (keyV k) (.int .i64 v))=_
 cases hs:cz P (updS key (fX l 0) l.length (keyV k) (.int .i64 v)) with
 | none=>rw[hs] at h1; cases h1
 | some r=>
  rw[hs] at h1
  simp only[Option.some.injEq] at h1
  subst h1
  have:=h2.block
  rw[Tr.get_set,if_pos rfl] at this
  simp only[Option.some.injEq,Blk.map.injEq] at this
  obtain⟨r1,r2⟩:=r
  obtain⟨rfl,rfl⟩:=this
  rfl
theorem mm_max(a b:Int):mmD P .max [3,3] (Call.mk (Callee.builtin Builtin.max) #[(Operand.tmp 13),(Operand.tmp 14)] #[3,3]) 3 [dI a,dI b]=some (dI (max a b)):=by
 have h:max a b=if b > a then b else a:=by omega
 rw[h]
 rfl
theorem l100{l k:Nat}:∀(suf pre:List Int) (a:Int) (m:Nat),suf.length<m→pre.length+suf.length<big →
  EK (K l) k m (dI a) (dL (pre++suf)) (dI ((pre++suf).map dI).length) (dI pre.length)=some (dI (suf.foldl max a))
 | [],pre,a,0,hm,_=>by simp at hm
 | [],pre,a,m+1,_,_=>by
  rw[r100_1]
  unfold EZ B100_1
  simp only[aj,aV,ev,List.append_nil,dX]
  rfl
 | x::suf,pre,a,0,hm,_=>by simp at hm
 | x::suf,pre,a,m+1,hm,hb=>by
  rw[r100_1]
  unfold EZ B100_1
  simp only[List.length_cons] at hm hb
  have ih:=l100 (l:=l) (k:=k) suf (pre++[x]) (max a x) m (by omega) (by simp; omega)
  simp only[List.append_assoc,List.cons_append,List.nil_append] at ih
  simp only[aj,aV,bZ,cq,iJ,gj,dK,mm_max,dV (a:=x) (sbig (show pre.length<big by omega))]
  rw[ih]
  rfl
theorem s100{l:Nat}(hl:1≤l){a:Int}{xs:List Int}(hb:xs.length<1000):pcD P (K l) 100 [dI a,dL xs]=some (dI (xs.foldl max a)):=by
 obtain⟨l,rfl⟩:=lev hl
 refine eK ?_
 rw[c100]
 unfold RZ RY
 simp only[aV,aj,bY]
 exact l100 (l:=l) (k:=19999) xs [] a 19999 (by omega) (by show 0+_<big; unfold big; omega)
theorem s107{l:Nat}(hl:1≤l){a:Int}:pcD P (K l) 107 [dI a]=some (dB false):=by
 obtain⟨l,rfl⟩:=lev hl
 refine eK ?_
 rw[c107]
 unfold SW B107_0
 rw[jV,aj]
 simp
def cmpI(a b:Int):Int:=if a<b then -1 else if b<a then 1 else 0
theorem s92{l:Nat}(hl:2≤l){a b:Int}:pcD P (K l) 92 [dI a,dI b]=some (dI (cmpI a b)):=by
 obtain⟨l,rfl⟩:=lev hl
 refine eK ?_
 rw[c92]
 unfold C92_0 B92_0
 rw[s107 (by omega),aj,s107 (by omega),aj,ev,ev,fW,aj,mY,aj]
 unfold cmpI
 by_cases h1:a<b
 ·simp only[h1,decide_true,iJ,if_true]
 ·by_cases h2 : b < a
  ·simp only[h1,h2,decide_true,decide_false,iJ,ev,if_true,if_false]
  ·simp only[h1,h2,decide_false,ev,if_false]
noncomputable def XW(ws:List (BitVec 64))(n:Nat):List (List D):=((List.range n).reverse).map fun i:Nat=>[dI (i:Int),uB (ws.getD i 0#64)]
theorem backY_succ{ws:List (BitVec 64)}{n:Nat}:XW ws (n+1)=[dI (n:Int),uB (ws.getD n 0#64)]::XW ws n:=by
 unfold XW
 rw[List.range_succ,List.reverse_append]
 rfl
theorem l120{l k y:Nat}{ws:List (BitVec 64)}(hw:ws.length<1000):∀(n m:Nat),n≤ws.length→n<m →
  FK (K l) k m y (.ref [.sl (ws.map uB)]) (dI ((n:Int)-1))=some (pJ y (XW ws n))
 | 0,0,_,hm=>by simp at hm
 | 0,m+1,_,_=>by
  rw[r120_1]
  unfold FZ B120_1
  rw[sW,aj,dQ,if_neg (by omega)]
  rfl
 | n+1,0,_,hm=>by simp at hm
 | n+1,m+1,hn,hm=>by
  rw[r120_1]
  unfold FZ B120_1
  have e:(((n+1:Nat):Int)-1)=(n:Int):=by omega
  have hx:(ws.map uB)[n]?=some (uB (ws.getD n 0#64)):=by
   rw[List.getElem?_map,List.getD_eq_getElem?_getD,List.getElem?_eq_getElem (by omega)]; rfl
  have ih:=l120 (l:=l) (k:=k) (y:=y) hw n m (by omega) (by omega)
  rw[e,sW,aj,dQ,if_pos (by omega),fk,aj,gV,aj,aV,aj,pW (by simp; omega),aj,hx,aj,cq,bZ,ew,aj,ew,aj,AZ (by unfold I64; omega),aj]
  simp only[Bool.not_true,Bool.not_false,iJ,ev]
  rw[ih,backY_succ]
  rfl
theorem sBackY{l:Nat}(hl:1≤l){ws:List (BitVec 64)}(hw:ws.length<1000)(y:Nat) :
  Rg l 120 [.yld y,.ref [.sl (ws.map uB)]]=some (pJ y (XW ws ws.length)):=by
 rw[c120]
 unfold TX TW
 rw[fk,aj,gV,aj,aV,aj,bY,List.length_map,AZ (by unfold I64; omega),aj]
 exact l120 (l:=l) (k:=19999) (y:=y) hw ws.length 19999 (Nat.le_refl _) (by omega)
theorem s106{l:Nat}(hl:1≤l){ws:List (BitVec 64)}:pcD P (K l) 106 [.sl (ws.map uB)]=some (.fn 120 [] [.ref [.sl (ws.map uB)]]):=by
 obtain⟨l,rfl⟩:=lev hl
 refine vw ?_ (by kernel_rfl)
 rw[c106]
 unfold SV B106_0
 simp only[mZ,bZ]
end Go.Proofs.YtcjnaeimeilomaaGreat.L
end
section
open Go Go.Ev
set_option maxRecDepth 100000
namespace Go.Proofs.YtcjnaeimeilomaaGreat.L
def qJ(near:List (BitVec 64))(n p:Nat):List Nat:=(List.range' 0 n).filter (Jx near (BitVec.twoPow 64 p))
def mw(v:Nat→Int)(wk:BitVec 64)(a:Int)(qs:List Nat):Int:=qs.foldl (fun a q=>if wk.getLsbD q then a else max a (v q)) a
def lx(f:Fld)(near:List (BitVec 64)):List (BitVec 64)→Nat→Int
 | [],_=>0
 | wk::ws,p=>f.eats.getD p 0+mw (lx f near ws) wk 0 (qJ near f.eats.length p)
theorem chk_of{b:Bool}{p r:Option D}(hb:b=true)(h:p=r):chkK b p=r:=by rw[hb,bZ,h]
theorem ty_losses:Dy P 147=some (152,3):=by kernel_rfl
theorem flat_spot:zW P 152=some 2:=by kernel_rfl
theorem zero_int:jx P 3=some (.int .i64 0):=by kernel_rfl
theorem look_loss{J:MapL}{w p:Int}(hL:∀ x ∈ J,x.1.length=2):PJ P 147 (fX J 0) (.agg [dI w,dI p]) false=some (dI (getF J [w,p])):=lookD_ents (k:=[w,p]) ty_losses flat_spot zero_int hL rfl
theorem upd_loss{J:MapL}{w p v:Int}(hL:∀ x ∈ J,x.1.length=2):updD P 147 (fX J 0) J.length (.agg [dI w,dI p]) (dI v)=some (fX (putL [w,p] v J) 0,(putL [w,p] v J).length):=updD_ents (k:=[w,p]) ty_losses flat_spot hL rfl
theorem l89_5{pc rg pc1 rg1:PC}{l k m2:Nat}(hl:2≤l){m1:List (List D)}{b2:D→List MapEntry→Nat→D→Option D}{b3:D→D→D→D→D→D→List MapEntry→Nat→D→Option D}{g2 e1 u8 u9 u21 u22 u23 u32:D}{w:Nat}{wk:BitVec 64}{J:MapL}(hw:w<1000)(hL:∀ x ∈ J,x.1.length=2) :
  ∀(qs:List Nat) (a:Int),(∀ q ∈ qs,q<64) →
  Xw pc rg pc1 rg1 (K l) k m1 m2 b2 b3 (qs.map (fun q:Nat=>[dI (q:Int)])) g2 (dI (w:Int)) (uB wk) (dI a) (fX J 0) J.length e1 u8 u9 u21 u22 u23 u32 =
   Rk pc rg pc1 rg1 (K l) k m1 m2 b2 b3 g2 (dI (w:Int)) (uB wk) (dI (mw (fun q=>getF J [((w+1:Nat):Int),(q:Int)]) wk a qs)) (fX J 0) J.length e1 u8 u9 u21 u22 u23 u32
 | [],a,_=>by
  rw[List.map_nil,n89_5]
  rfl
 | q::qs,a,hq=>by
  rw[List.map_cons,r89_5]
  unfold C89_5 B89_5
  have hq0:=hq q (by simp)
  have ih:=l89_5 (pc:=pc) (rg:=rg) (pc1:=pc1) (rg1:=rg1) (k:=k) (m2:=m2) hl (m1:=m1) (b2:=b2) (b3:=b3) (g2:=g2) (e1:=e1) (u8:=u8) (u9:=u9) (u21:=u21) (u22:=u22) (u23:=u23) (u32:=u32) (wk:=wk) hw hL qs
  show(bindO (pcD P (K l) 94 [uB wk,dI (q:Int)]) _)=_
  rw[s94 hl hq0,aj,ew,aj,iV]
  cases hb:wk.getLsbD q with
  | true=>
   simp only[Bool.not_true,Bool.false_eq_true,if_false]
   rw[ih a (fun x hx=>hq x (by simp [hx]))]
   unfold mw
   rw[List.foldl_cons,hb,if_pos rfl]
  | false=>
   simp only[Bool.not_false,if_true]
   rw[lJ (by omega),aj,cq,bZ,cq,bZ,look_loss hL,aj,cq,bZ]
   have hm:=s100 (l:=l) (by omega) (a:=a) (xs:=[getF J [((w+1:Nat):Int),(q:Int)]]) (by simp)
   have hm':pcD P (K l) 100 [dI a,.sl [dI (getF J [((w+1:Nat):Int),(q:Int)])]]=some (dI (max a (getF J [((w+1:Nat):Int),(q:Int)]))):=hm
   rw[hm',aj,cq,bZ,ih _ (fun x hx=>hq x (by simp [hx]))]
   unfold mw
   rw[List.foldl_cons,hb]
   simp only[Bool.false_eq_true,if_false]
def XX(f:Fld)(near:List (BitVec 64))(wk:BitVec 64)(w:Nat):Nat→Nat→MapL→MapL
 | _,0,J=>J
 | i,r+1,J=>XX f near wk w (i+1) r (putL [(w:Int),(i:Int)] (f.eats.getD i 0+mw (fun q=>getF J [((w+1:Nat):Int),(q:Int)]) wk 0 (qJ near f.eats.length i)) J)
theorem Iw{v:Nat→Int}{wk:BitVec 64}{M:Int}:∀(qs:List Nat) (a:Int),0≤a→a≤M→(∀ q ∈ qs,v q≤M)→0≤mw v wk a qs∧mw v wk a qs≤M
 | [],a,h0,h1,_=>⟨h0,h1⟩
 | q::qs,a,h0,h1,hv=>by
  unfold mw
  rw[List.foldl_cons]
  have hq:=hv q (by simp)
  split
  ·exact Iw qs a h0 h1 (fun x hx=>hv x (by simp [hx]))
  ·exact Iw qs (max a (v q)) (by omega) (by omega) (fun x hx=>hv x (by simp [hx]))
theorem put_len{J:MapL}{w p v:Int}(hL:∀ x ∈ J,x.1.length=2):∀ x ∈ putL [w,p] v J,x.1.length=2:=qlz rfl hL
theorem l89_3{pc rg:PC}{l k:Nat}(hl:3≤l){f:Fld}{near:List (BitVec 64)}(h8:near.length=8)(hn:f.eats.length≤8)(he:∀ x ∈ f.eats,0≤x∧x≤100){m1:List (List D)}{b2:D→List MapEntry→Nat→D→Option D}{e1:D}{w:Nat}{wk:BitVec 64}(hw:w<1000) :
  ∀(r i m:Nat) (J:MapL),i+r=f.eats.length→r<m→(∀ x ∈ J,x.1.length=2)→(∀ q:Nat,q<f.eats.length→0≤getF J [((w+1:Nat):Int),(q:Int)]∧getF J [((w+1:Nat):Int),(q:Int)]≤30000) →
  S89_3 pc rg (K (l+2)) (Rg (l+1)) (K l) k m1 b2 m (dL f.eats) (dI (f.eats.length:Int)) (dI (i:Int)) (dH f near) (dI (w:Int)) (uB wk) (fX J 0) J.length e1 =
   b2 (dH f near) (fX (XX f near wk w i r J) 0) (XX f near wk w i r J).length e1
 | 0,i,0,J,_,hm,_,_=>by simp at hm
 | 0,i,m+1,J,hi,_,_,_=>by
  rw[r89_3]
  unfold C89_3 B89_3
  rw[fW,aj,dQ,if_neg (by omega)]
  rfl
 | r+1,i,0,J,_,hm,_,_=>by simp at hm
 | r+1,i,m+1,J,hi,hm,hL,hB=>by
  rw[r89_3]
  unfold C89_3 B89_3
  have hlt:i<f.eats.length:=by omega
  have hx:(f.eats.map dI)[i]?=some (dI (f.eats.getD i 0)):=by
   rw[List.getElem?_map,List.getD_eq_getElem?_getD,List.getElem?_eq_getElem hlt]; rfl
  have hei:0≤f.eats.getD i 0∧f.eats.getD i 0≤100:=by
   rw[List.getD_eq_getElem?_getD,List.getElem?_eq_getElem hlt]
   exact he _ (List.getElem_mem hlt)
  have hs:=s83 (l:=l+2) (by omega) (xs:=[(i:Int)]) (by simp) (fun x hx=>by simp at hx; omega)
  have hs':pcD P (K (l+2)) 83 [.sl [dI (i:Int)]]=some (uB (BitVec.twoPow 64 i)):=by
   refine hs.trans ?_
   rw[Gq]
   have:((i:Int)).toNat=i:=by omega
   rw[this]
  rw[fW,aj,dQ,if_pos (by omega),aV,aj,pW (by simpa using hlt),aj,hx,aj,cq,bZ,cq,bZ,hs',aj,s104 (by omega),aj]
  unfold C89_4 B89_4
  rw[qV]
  refine chk_of (by kernel_rfl) ?_
  refine(qkw (ys:=(qJ near f.eats.length i).map (fun p:Nat=>[dI (p:Int)])) (fun y=>sNextY (l:=l+1) (by omega) (by omega) h8 y)).trans ?_
  have hq:∀ q ∈ qJ near f.eats.length i,q<f.eats.length:=by
   intro q hq
   unfold qJ at hq
   simp only[List.mem_filter,List.mem_range'_1] at hq
   omega
  rw[l89_5 (l:=l) (by omega) hw hL _ 0 (fun q h=>by have:=hq q h; omega)]
  unfold Rk BN89_5
  have hb:=Iw (v:=fun q=>getF J [((w+1:Nat):Int),(q:Int)]) (wk:=wk) (M:=30000) (qJ near f.eats.length i) 0 (Int.le_refl 0) (by omega) (fun q h=>(hB q (hq q h)).2)
  have ih:=l89_3 (pc:=pc) (rg:=rg) (k:=k) hl h8 hn he (m1:=m1) (b2:=b2) (e1:=e1) (wk:=wk) hw r (i+1) m (putL [(w:Int),(i:Int)] (f.eats.getD i 0+mw (fun q=>getF J [((w+1:Nat):Int),(q:Int)]) wk 0 (qJ near f.eats.length i)) J) (by omega) (by omega) (put_len hL) (fun q h=>by
   rw[PX,if_neg (by intro z; simp at z; omega)]
   exact hB q h)
  rw[cq,bZ,cq,bZ,qkk (by unfold I64; omega),aj,upd_loss hL,aj,lJ (by omega),aj]
  rw[ih]
  rfl
end Go.Proofs.YtcjnaeimeilomaaGreat.L
end
