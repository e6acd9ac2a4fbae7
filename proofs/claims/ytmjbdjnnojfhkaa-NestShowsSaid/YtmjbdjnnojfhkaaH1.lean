/- The heads of the texts of functions: which slots live at loops and joins. -/
import Derived.Test.YtmjbdjnnojfhkaaA2
import Derived.Test.YtmjbdjnnojfhkaaRows
open Go Go.Ev
set_option maxRecDepth 1000000
set_option linter.unusedVariables false
noncomputable section
namespace Go.Proofs.Ytmjbdjnnojfhkaa.G
noncomputable def P:Program:=Go.Proofs.Try.prog
abbrev V0:Type:=Hp→Nat→Res
abbrev V1:Type:=Value→V0
abbrev V2:Type:=Value→V1
abbrev V3:Type:=Value→V2
abbrev V4:Type:=Value→V3
abbrev V5:Type:=Value→V4
abbrev V6:Type:=Value→V5
abbrev V7:Type:=Value→V6
abbrev V8:Type:=Value→V7
abbrev V9:Type:=Value→V8
abbrev V10:Type:=Value→V9
abbrev V11:Type:=Value→V10
abbrev V12:Type:=Value→V11
abbrev V13:Type:=Value→V12
abbrev V14:Type:=Value→V13
abbrev V15:Type:=Value→V14
abbrev V16:Type:=Value→V15
abbrev V17:Type:=Value→V16
abbrev V18:Type:=Value→V17
abbrev V19:Type:=Value→V18
abbrev V20:Type:=Value→V19
abbrev V21:Type:=Value→V20
abbrev V22:Type:=Value→V21
abbrev V23:Type:=Value→V22
abbrev V24:Type:=Value→V23
abbrev V25:Type:=Value→V24
abbrev V26:Type:=Value→V25
abbrev V27:Type:=Value→V26
abbrev V28:Type:=Value→V27
abbrev V29:Type:=Value→V28
abbrev V30:Type:=Value→V29
abbrev W0(ρ:Type):Type:=Hp→Nat→List Nat→Option ρ
abbrev W1(ρ:Type):Type:=Value→W0 ρ
abbrev W2(ρ:Type):Type:=Value→W1 ρ
abbrev W3(ρ:Type):Type:=Value→W2 ρ
abbrev W4(ρ:Type):Type:=Value→W3 ρ
abbrev W5(ρ:Type):Type:=Value→W4 ρ
abbrev W6(ρ:Type):Type:=Value→W5 ρ
abbrev W7(ρ:Type):Type:=Value→W6 ρ
abbrev W8(ρ:Type):Type:=Value→W7 ρ
abbrev W9(ρ:Type):Type:=Value→W8 ρ
abbrev W10(ρ:Type):Type:=Value→W9 ρ
abbrev W11(ρ:Type):Type:=Value→W10 ρ
abbrev W12(ρ:Type):Type:=Value→W11 ρ
abbrev W13(ρ:Type):Type:=Value→W12 ρ
abbrev W14(ρ:Type):Type:=Value→W13 ρ
abbrev W15(ρ:Type):Type:=Value→W14 ρ
abbrev W16(ρ:Type):Type:=Value→W15 ρ
abbrev W17(ρ:Type):Type:=Value→W16 ρ
abbrev W18(ρ:Type):Type:=Value→W17 ρ
abbrev W19(ρ:Type):Type:=Value→W18 ρ
abbrev W20(ρ:Type):Type:=Value→W19 ρ
abbrev W21(ρ:Type):Type:=Value→W20 ρ
abbrev W22(ρ:Type):Type:=Value→W21 ρ
abbrev W23(ρ:Type):Type:=Value→W22 ρ
abbrev W24(ρ:Type):Type:=Value→W23 ρ
abbrev W25(ρ:Type):Type:=Value→W24 ρ
abbrev W26(ρ:Type):Type:=Value→W25 ρ
noncomputable def dj(f:FuncId):Code:=match P.funcs[f]? with
 | some fn=>match fn.body with
  | some c=>c
  | none=>.skip
 | none=>.skip
noncomputable def fk(f:FuncId):List ResultVar:=match P.funcs[f]? with
 | some fn=>fn.results.toList
 | none=>[]
noncomputable def cL:Code→Code
 | .seq a _=>a
 | .cond _ a _=>a
 | .block _ c=>c
 | .scope c=>c
 | .loop c=>c
 | _=>.skip
noncomputable def cR:Code→Code
 | .seq _ b=>b
 | .cond _ _ b=>b
 | _=>.skip
noncomputable def asgR:Code→Code
 | .rangeFunc _ _ a _=>a
 | _=>.skip
noncomputable def bodR:Code→Code
 | .rangeFunc _ _ _ b=>b
 | _=>.skip
noncomputable def KNb:KC (Ex × St):=fun T H n D=>some (.norm,{ T,H,n,D })
noncomputable def XNb:XC (Ex × St):=fun id T H n D=>some (.exit id,{ T,H,n,D })
noncomputable def KRb:KC (Ex × St):=fun T H n D=>some (.ret,{ T,H,n,D })
noncomputable def X0:XC (Value × Hp × Nat):=fun _ _ _ _ _=>none
theorem bY{cal:Cal}{A:FuncId→Lv}{k f:Nat}{fn:Func}{c:Code}{rs:List ResultVar}{args:List Value}{H:Hp}{n:Nat}(h1:P.funcs[f]?=some fn)(h2:fn.body=some c)
  (h3 : (fn.name == "runtime.NumGoroutine" || fn.ntmps < args.length) = false) (h4 : fn.results.toList = rs) :
  aY P cal A (k+1) f args H n=cj P cal (aK P cal k) none f c (A f) (av P rs) X0 (av P rs) (Iy .nil 0 args) H n []:=by
 subst h4
 unfold aY
 simp only[h1,h2,h3]
 rfl
abbrev KR:=KC (Value × Hp × Nat)
abbrev La:=Lv.a
abbrev Lb:=Lv.b
abbrev ts(t:Tm)(n:Nat)(u:Value):Tm:=Tr.set t n (some u)
noncomputable def kD(cal:Cal)(k f:Nat)(c:Code)(l:Lv)(r:KR)(x:XC (Value × Hp × Nat))(y:KR):KR:=cutK l.c (cj P cal (aK P cal k) none f (cR c) (Lv.b l) r x y)
abbrev XR:=XC (Value × Hp × Nat)
noncomputable def lvTab:Tr Lv:=Tr.set (Tr.set (Tr.set (Tr.set (Tr.set (Tr.set (Tr.set (Tr.set (Tr.set (Tr.set (Tr.set (Tr.set (Tr.set (Tr.set (Tr.set (Tr.set (Tr.set (Tr.set (Tr.set (Tr.set (Tr.set (Tr.set (Tr.set (Tr.set (Tr.set (Tr.set (Tr.set (Tr.set (Tr.set (Tr.set (Tr.set (Tr.set (Tr.set (Tr.set (Tr.set (Tr.set (.nil) 6 (some (.node none .leaf (.node none .leaf (.node none .leaf (.node none .leaf (.node none .leaf (.node none .leaf (.node (some [1,3,7,8,10]) .leaf .leaf))))))))) 18 (some (.node none .leaf (.node none .leaf (.node none (.node none .leaf (.node none (.node (some [1,2,3,4]) .leaf .leaf) .leaf)) (.node none (.node none .leaf (.node none (.node (some [1,2,3,5]) .leaf .leaf) .leaf)) (.node none (.node none .leaf (.node none (.node (some [1,2,3,6]) .leaf .leaf) .leaf)) .leaf))))))) 21 (some (.node none .leaf (.node none (.node none .leaf (.node none (.node (some [1,2,3,7]) .leaf .leaf) .leaf)) .leaf)))) 33 (some (.node none .leaf (.node none .leaf (.node none (.node none .leaf (.node none (.node (some [1,2,3,7]) (.node none .leaf (.node (some [1,2,3,7]) (.node none (.node none .leaf (.node none .leaf (.node none .leaf (.node none (.node none .leaf (.node none (.node (some [1,2,3,7,8,9]) .leaf .leaf) .leaf)) .leaf)))) .leaf) .leaf)) .leaf) .leaf)) .leaf))))) 34 (some (.node none .leaf (.node none .leaf (.node none (.node none .leaf (.node none (.node (some [0,1,5,6]) (.node none .leaf (.node (some [0,1,5,6]) .leaf .leaf)) .leaf) .leaf)) .leaf))))) 36 (some (.node none .leaf (.node none (.node none .leaf (.node none (.node (some [0,3]) .leaf .leaf) .leaf)) .leaf)))) 39 (some (.node none .leaf (.node none .leaf (.node none (.node none .leaf (.node none (.node (some [0,3,4]) .leaf .leaf) .leaf)) .leaf))))) 40 (some (.node none .leaf (.node none (.node none .leaf (.node none (.node (some [1,2,5]) .leaf .leaf) .leaf)) .leaf)))) 41 (some (.node none .leaf (.node none .leaf (.node none (.node none .leaf (.node none (.node (some [1,2,5,6]) (.node none .leaf (.node (some [1,2,5,6]) (.node none (.node none .leaf (.node none .leaf (.node none .leaf (.node none (.node none .leaf (.node none (.node (some [1,2,5,6,7,8,9,10,11]) (.node none .leaf (.node (some [1,2,5,6,7,8,9,10,11]) (.node none (.node none .leaf (.node none .leaf (.node none .leaf (.node none .leaf (.node none .leaf (.node none (.node (some [1,2,5,6,7,8,9,10,11,12,14]) .leaf .leaf) .leaf)))))) .leaf) .leaf)) .leaf) .leaf)) (.node none (.node none .leaf (.node none (.node (some [1,2,5,6,8,9,10,17]) .leaf .leaf) .leaf)) .leaf))))) .leaf) .leaf)) .leaf) .leaf)) .leaf))))) 58 (some (.node none .leaf (.node none .leaf (.node none (.node none .leaf (.node none (.node (some [1,2,5]) .leaf .leaf) .leaf)) .leaf))))) 60 (some (.node none .leaf (.node none (.node none (.node (some [1,3]) .leaf (.node none .leaf (.node (some [1,16]) .leaf (.node none .leaf (.node (some [25]) .leaf .leaf))))) .leaf) .leaf)))) 61 (some (.node none .leaf (.node none .leaf (.node none .leaf (.node none (.node none .leaf (.node none (.node (some [5,23,24,25]) .leaf .leaf) .leaf)) (.node none (.node none .leaf (.node none (.node (some [5,53,54]) (.node none .leaf (.node none .leaf (.node none (.node none (.node none .leaf (.node none .leaf (.node none (.node (some [5,8,53,54,61,62,63]) .leaf .leaf) .leaf))) .leaf) .leaf))) .leaf) .leaf)) .leaf))))))) 63 (some (.node none .leaf (.node none .leaf (.node none .leaf (.node none (.node none .leaf (.node none (.node (some [1,3]) .leaf .leaf) .leaf)) (.node none (.node none .leaf (.node none (.node (some [1,4]) .leaf .leaf) .leaf)) (.node none (.node none .leaf (.node none (.node (some [1,6]) (.node none .leaf (.node none (.node none (.node none .leaf (.node none .leaf (.node none .leaf (.node none (.node (some [1,6,7,8]) .leaf .leaf) .leaf)))) .leaf) .leaf)) .leaf) .leaf)) .leaf)))))))) 64 (some (.node none .leaf (.node none .leaf (.node none (.node none .leaf (.node none (.node (some [1,2,3,4,5,11,12,13]) (.node none .leaf (.node (some [1,2,3,4,5,11,12,13]) .leaf .leaf)) .leaf) .leaf)) .leaf))))) 65 (some (.node none .leaf (.node none .leaf (.node none .leaf (.node none .leaf (.node none .leaf (.node none .leaf (.node none (.node none .leaf (.node none (.node (some [5,7,9,35,36]) .leaf .leaf) .leaf)) .leaf))))))))) 78 (some (.node none .leaf (.node none .leaf (.node none .leaf (.node none .leaf (.node none (.node (some [0,3,6,7,8,23]) .leaf .leaf) (.node none .leaf (.node none (.node none .leaf (.node none (.node (some [0,3,6,7,8,14,68,69,70]) .leaf .leaf) .leaf)) (.node none .leaf (.node none (.node none .leaf (.node none (.node (some [0,3,6,7,8,14,106,107,108]) .leaf .leaf) .leaf)) .leaf))))))))))) 131150 (some (.node none (.node none .leaf (.node none .leaf (.node none .leaf (.node none .leaf (.node none (.node (some [6,7,9,40,41]) .leaf .leaf) .leaf))))) .leaf))) 79 (some (.node none .leaf (.node none .leaf (.node none (.node none .leaf (.node none (.node (some [0,2,24,25,26]) .leaf .leaf) .leaf)) .leaf))))) 80 (some (.node none .leaf (.node none .leaf (.node none (.node none .leaf (.node none (.node (some [0,5,12,13,14]) (.node none .leaf (.node none .leaf (.node none (.node none (.node none .leaf (.node none .leaf (.node none (.node (some [0,5,12,13,14,18,19,20]) .leaf .leaf) .leaf))) .leaf) .leaf))) .leaf) .leaf)) (.node none (.node none .leaf (.node none (.node (some [5,37,38,39]) .leaf .leaf) .leaf)) .leaf)))))) 89 (some (.node none .leaf (.node none (.node none .leaf (.node none (.node (some [1,2,3,7]) .leaf .leaf) .leaf)) .leaf)))) 91 (some (.node none .leaf (.node none (.node none .leaf (.node none (.node (some [1,7,8,9]) .leaf .leaf) .leaf)) .leaf)))) 93 (some (.node none .leaf (.node none (.node none .leaf (.node none (.node (some [1,7,8,9]) .leaf .leaf) .leaf)) .leaf)))) 94 (some (.node none .leaf (.node none .leaf (.node none (.node none .leaf (.node none (.node (some [2,3,5,9,10,11]) (.node none .leaf (.node none .leaf (.node (some [2,3,5,9,10,11]) .leaf .leaf))) .leaf) .leaf)) .leaf))))) 95 (some (.node none .leaf (.node none (.node none .leaf (.node none (.node (some [1,7,8,9]) .leaf .leaf) .leaf)) .leaf)))) 98 (some (.node none .leaf (.node none .leaf (.node none (.node none .leaf (.node none (.node (some [1,5,9,10]) .leaf .leaf) .leaf)) .leaf))))) 101 (some (.node none .leaf (.node none .leaf (.node none (.node none .leaf (.node none (.node (some [0,1,3]) .leaf .leaf) .leaf)) .leaf))))) 104 (some (.node none .leaf (.node none (.node (some [0,2,6,7]) .leaf .leaf) .leaf)))) 105 (some (.node none .leaf (.node none (.node none .leaf (.node none (.node (some [0,7,8,9]) .leaf .leaf) .leaf)) .leaf)))) 106 (some (.node none .leaf (.node none (.node none .leaf (.node none (.node (some [0,7,8,9]) .leaf .leaf) .leaf)) .leaf)))) 107 (some (.node none .leaf (.node none .leaf (.node none (.node (some [0,3]) .leaf .leaf) .leaf))))) 108 (some (.node none .leaf (.node none .leaf (.node none (.node (some [3,5,7,21]) .leaf .leaf) .leaf))))) 131180 (some (.node none (.node none .leaf (.node none (.node (some [5,7,8,9,29,30]) .leaf .leaf) .leaf)) .leaf))) 109 (some (.node none .leaf (.node none .leaf (.node none .leaf (.node none (.node none .leaf (.node none (.node (some [3,7,16,17,18]) .leaf .leaf) .leaf)) .leaf)))))) 115 (some (.node none .leaf (.node none .leaf (.node none (.node none .leaf (.node none (.node (some [4,5,10]) .leaf .leaf) .leaf)) .leaf))))) 119 (some (.node none .leaf (.node none .leaf (.node none (.node (some [0,1,2,14,15]) .leaf .leaf) .leaf))))) 123 (some (.node none .leaf (.node none .leaf (.node none .leaf (.node none (.node none .leaf (.node none (.node (some [0,1,2,3,4,16]) (.node none .leaf (.node none .leaf (.node (some [0,1,2,3,4,16]) .leaf .leaf))) .leaf) .leaf)) .leaf)))))
noncomputable def A(f:FuncId):Lv:=match lvTab.get f with
 | some l=>l
 | none=>.leaf
end Go.Proofs.Ytmjbdjnnojfhkaa.G
