import Derived.Test.YtnnkcjolgbpklaaGreatRows
import Derived.Test.YtnnkcjolgbpklaaGreatC9
set_option linter.unusedVariables false
section
open Go Go.Ev
set_option maxRecDepth 1000000
noncomputable section
namespace Go.Proofs.YtnnkcjolgbpklaaGreat.L
noncomputable def P:Program:=Go.Proofs.Tryz.prog
noncomputable def opsOf:Code→List Oper
 | .region _ ops _=>ops.toList
 | _=>[]
noncomputable def ak(f:FuncId):Code:=match P.funcs[f]? with
 | some fn=>match fn.body with
  | some c=>c
  | none=>.skip
 | none=>.skip
noncomputable def bw(f:FuncId):List ResultVar:=match P.funcs[f]? with
 | some fn=>fn.results.toList
 | none=>[]
noncomputable def cL:Code→Code
 | .seq a _=>a
 | .cond _ a _=>a
 | .block _ c=>c
 | .scope c=>c
 | .loop c=>c
 | .rangeFunc _ _ a _=>a
 | _=>.skip
noncomputable def cR:Code→Code
 | .seq _ b=>b
 | .cond _ _ b=>b
 | .rangeFunc _ _ _ b=>b
 | _=>.skip
noncomputable def X0A:Nat→KA:=fun _ _ _=>none
noncomputable def rX:Code→Operand
 | .rangeFunc x _ _ _=>x
 | _=>.tmp 0
noncomputable def rPs:Code→List Tmp
 | .rangeFunc _ ps _ _=>ps.toList
 | _=>[]
theorem body_eqA{pc:PC}{rk:RK}{L:FuncId→LvA}{k f:Nat}{fn:Func}{c:Code}{rs:List ResultVar}{ds:List D}(h1:P.funcs[f]?=some fn)(h2:fn.body=some c)
  (h3 : (fn.name == "runtime.NumGoroutine" || fn.ntmps < ds.length) = false) (h4 : fn.results.toList = rs) :
  cJ P pc noY rk L (k+1) f ds=aW P pc noY rk (aq P pc noY rk f k) f c (L f) (aw P rs) X0A (aw P rs) (Zj .nil 0 ds) .nil:=by
 subst h4
 unfold cJ
 simp only[h1,h2,h3]
 rfl
theorem body_eqY{pc:PC}{L:FuncId→LvA}{k f:Nat}{fn:Func}{c:Code}{rs:List ResultVar}{ds:List D}(h1:P.funcs[f]?=some fn)(h2:fn.body=some c)
  (h3 : (fn.name == "runtime.NumGoroutine" || fn.ntmps < ds.length) = false) (h4 : fn.results.toList = rs) :
  cJ P pc my noR L (k+1) f ds=aW P pc my noR (aq P pc my noR f k) f c (L f) (aw P rs) X0A (aw P rs) (Zj .nil 0 ds) .nil:=by
 subst h4
 unfold cJ
 simp only[h1,h2,h3]
 rfl
noncomputable def lvTabA:Tr LvA:=Tr.set (Tr.set (Tr.set (Tr.set (Tr.set (Tr.set (Tr.set (Tr.set (Tr.set (Tr.set (Tr.set (Tr.set (Tr.set (Tr.set (Tr.set (Tr.set (Tr.set (Tr.set (Tr.set (Tr.set (Tr.set (Tr.set (Tr.set (Tr.set (Tr.set (Tr.set (Tr.set (Tr.set (Tr.set (Tr.set (Tr.set (Tr.set (Tr.set (Tr.set (Tr.set (Tr.set (Tr.set (Tr.set (Tr.set (Tr.set (Tr.set (Tr.set (Tr.set (Tr.set (Tr.set (Tr.set (.nil) 4 (some (.node none .leaf (.node none .leaf (.node (some { frz:=[1,2,3,9],own:=[],cel:=[],fzs:=[],tmps:=[1,2,3,4,9],sites:=[4] }) .leaf (.node none (.node (some { frz:=[1,2,3,9,37],own:=[],cel:=[],fzs:=[],tmps:=[1,2,3,4,9,37],sites:=[4] }) .leaf .leaf) (.node none .leaf (.node none .leaf (.node none (.node (some { frz:=[1,9,10,11,12,77],own:=[],cel:=[],fzs:=[],tmps:=[1,4,9,10,11,12,77],sites:=[4] }) .leaf .leaf) (.node (some { frz:=[1,9,10,11,12],own:=[],cel:=[],fzs:=[],tmps:=[1,4,9,10,11,12],sites:=[4] }) (.node (some { frz:=[1,9,10,11,12,85],own:=[],cel:=[],fzs:=[],tmps:=[1,4,9,10,11,12,85],sites:=[4] }) .leaf .leaf) .leaf)))))))))) 7 (some (.node (some { frz:=[1,2],own:=[],cel:=[],fzs:=[],tmps:=[1,2,3],sites:=[3] }) .leaf (.node (some { frz:=[1,2],own:=[],cel:=[],fzs:=[],tmps:=[1,2,3],sites:=[3] }) (.node (some { frz:=[1,2,26],own:=[],cel:=[],fzs:=[],tmps:=[1,2,3,26],sites:=[3] }) .leaf .leaf) (.node (some { frz:=[1,7],own:=[],cel:=[],fzs:=[],tmps:=[1,3,7],sites:=[3] }) .leaf (.node (some { frz:=[1,7,8,9],own:=[],cel:=[],fzs:=[],tmps:=[1,3,7,8,9],sites:=[3] }) .leaf (.node (some { frz:=[1,7,8,9,10,11,12],own:=[],cel:=[],fzs:=[],tmps:=[1,3,7,8,9,10,11,12],sites:=[3] }) .leaf (.node (some { frz:=[1,7,8],own:=[],cel:=[],fzs:=[],tmps:=[1,3,7,8],sites:=[3] }) (.node (some { frz:=[1,7,8,104],own:=[],cel:=[],fzs:=[],tmps:=[1,3,7,8,104],sites:=[3] }) .leaf .leaf) (.node (some { frz:=[1,7,8],own:=[],cel:=[],fzs:=[],tmps:=[1,3,7,8],sites:=[3] }) (.node (some { frz:=[1,7,8,13],own:=[],cel:=[],fzs:=[],tmps:=[1,3,7,8,13],sites:=[3] }) .leaf (.node none (.node (some { frz:=[1,7,8,13],own:=[],cel:=[],fzs:=[],tmps:=[1,3,7,8,13],sites:=[3] }) (.node (some { frz:=[1,7,8,13],own:=[],cel:=[],fzs:=[],tmps:=[1,3,7,8,13],sites:=[3] }) (.node (some { frz:=[1,7,8,13,108],own:=[],cel:=[],fzs:=[],tmps:=[1,3,7,8,13,108],sites:=[3] }) .leaf .leaf) (.node (some { frz:=[1,7,8,13],own:=[],cel:=[],fzs:=[],tmps:=[1,3,7,8,13],sites:=[3] }) (.node none (.node (some { frz:=[1,7,8,13,120],own:=[],cel:=[],fzs:=[],tmps:=[1,3,7,8,13,120],sites:=[3] }) .leaf .leaf) .leaf) .leaf)) .leaf) .leaf)) (.node (some { frz:=[1,7,8,14],own:=[],cel:=[],fzs:=[],tmps:=[1,3,7,8,14],sites:=[3] }) .leaf (.node (some { frz:=[1,8,14],own:=[],cel:=[],fzs:=[],tmps:=[1,8,14],sites:=[] }) (.node (some { frz:=[1,7,8,14,138],own:=[],cel:=[],fzs:=[],tmps:=[1,3,7,8,14,138],sites:=[3] }) .leaf (.node none (.node (some { frz:=[1,8,14,15],own:=[],cel:=[],fzs:=[],tmps:=[1,3,8,14,15],sites:=[3] }) .leaf (.node (some { frz:=[1,8,14,15,16],own:=[],cel:=[],fzs:=[],tmps:=[1,3,8,14,15,16],sites:=[3] }) .leaf (.node none (.node (some { frz:=[1,8,14,15,16],own:=[],cel:=[],fzs:=[],tmps:=[1,3,8,14,15,16],sites:=[3] }) (.node (some { frz:=[1,8,14,15,16],own:=[],cel:=[],fzs:=[],tmps:=[1,3,8,14,15,16],sites:=[3] }) (.node (some { frz:=[1,8,14,15,16,150],own:=[],cel:=[],fzs:=[],tmps:=[1,3,8,14,15,16,150],sites:=[3] }) .leaf .leaf) (.node (some { frz:=[1,8,14,15,16],own:=[],cel:=[],fzs:=[],tmps:=[1,3,8,14,15,16],sites:=[3] }) (.node none (.node (some { frz:=[1,8,14,15,16,167],own:=[],cel:=[],fzs:=[],tmps:=[1,3,8,14,15,16,167],sites:=[3] }) .leaf .leaf) .leaf) .leaf)) .leaf) .leaf))) .leaf)) .leaf))))))))))) 14 (some (.node none .leaf (.node none .leaf (.node none .leaf (.node none .leaf (.node none .leaf (.node none (.node (some { frz:=[1,7,8,10,64],own:=[],cel:=[],fzs:=[],tmps:=[1,3,7,8,10,64],sites:=[3] }) .leaf .leaf) .leaf)))))))) 20 (some (.node none .leaf (.node none .leaf (.node none (.node none .leaf (.node none (.node (some { frz:=[0,4],own:=[(3,18,27,1)],cel:=[],fzs:=[],tmps:=[0,3,4],sites:=[18] }) .leaf .leaf) .leaf)) .leaf))))) 23 (some (.node none .leaf (.node none .leaf (.node none (.node none .leaf (.node none (.node (some { frz:=[0,1,5],own:=[],cel:=[],fzs:=[],tmps:=[0,1,5],sites:=[] }) .leaf .leaf) .leaf)) .leaf))))) 24 (some (.node none .leaf (.node none .leaf (.node none (.node none .leaf (.node none (.node (some { frz:=[1,6],own:=[(5,11,27,1)],cel:=[],fzs:=[],tmps:=[1,2,5,6],sites:=[2,11] }) .leaf .leaf) .leaf)) .leaf))))) 28 (some (.node none .leaf (.node none (.node none .leaf (.node none (.node (some { frz:=[1,5],own:=[],cel:=[],fzs:=[],tmps:=[1,2,5],sites:=[2] }) .leaf .leaf) .leaf)) .leaf)))) 29 (some (.node none .leaf (.node none .leaf (.node none .leaf (.node none (.node none .leaf (.node none (.node (some { frz:=[1,2,7],own:=[],cel:=[],fzs:=[],tmps:=[1,2,3,7],sites:=[3] }) (.node none .leaf (.node none (.node none (.node (some { frz:=[1,2,7,80],own:=[],cel:=[],fzs:=[],tmps:=[1,2,3,7,80],sites:=[3] }) .leaf .leaf) .leaf) .leaf)) .leaf) .leaf)) (.node none .leaf (.node none .leaf (.node none (.node none .leaf (.node none (.node (some { frz:=[1,2,8,9],own:=[],cel:=[],fzs:=[],tmps:=[1,2,3,8,9],sites:=[3] }) .leaf .leaf) .leaf)) .leaf))))))))) 30 (some (.node none .leaf (.node none .leaf (.node none (.node none .leaf (.node none (.node (some { frz:=[1,5,6],own:=[],cel:=[],fzs:=[],tmps:=[1,2,5,6],sites:=[2] }) .leaf .leaf) .leaf)) .leaf))))) 38 (some (.node none .leaf (.node none .leaf (.node none .leaf (.node (some { frz:=[],own:=[(7,31,3,1)],cel:=[],fzs:=[],tmps:=[7],sites:=[31] }) (.node none .leaf (.node none (.node (some { frz:=[1,2,8,9],own:=[(7,31,3,1)],cel:=[],fzs:=[],tmps:=[1,2,3,7,8,9],sites:=[3,31] }) (.node none .leaf (.node none (.node none (.node none .leaf (.node none .leaf (.node none (.node none .leaf (.node none (.node (some { frz:=[1,2,8,9,11],own:=[(7,31,3,1),(10,47,3,1)],cel:=[],fzs:=[],tmps:=[1,2,3,7,8,9,10,11],sites:=[3,31,47] }) (.node none .leaf (.node (some { frz:=[1,2,8,9,11],own:=[(7,31,3,1),(10,47,3,1)],cel:=[],fzs:=[],tmps:=[1,2,3,7,8,9,10,11],sites:=[3,31,47] }) .leaf .leaf)) .leaf) .leaf)) .leaf))) .leaf) .leaf)) .leaf) .leaf)) .leaf)))))) 39 (some (.node none .leaf (.node none (.node none .leaf (.node none (.node (some { frz:=[0,1,5],own:=[],cel:=[],fzs:=[],tmps:=[0,1,5],sites:=[] }) .leaf .leaf) .leaf)) .leaf)))) 48 (some (.node none .leaf (.node none .leaf (.node none (.node none .leaf (.node none (.node (some { frz:=[0,1,5],own:=[],cel:=[],fzs:=[],tmps:=[0,1,5],sites:=[] }) .leaf .leaf) .leaf)) .leaf))))) 50 (some (.node none .leaf (.node none (.node none .leaf (.node none (.node (some { frz:=[0,1,5],own:=[],cel:=[],fzs:=[],tmps:=[0,1,5],sites:=[] }) .leaf .leaf) .leaf)) .leaf)))) 52 (some (.node none .leaf (.node none (.node none .leaf (.node none (.node (some { frz:=[0,3],own:=[],cel:=[],fzs:=[],tmps:=[0,3],sites:=[] }) (.node none (.node (some { frz:=[0,3,11],own:=[],cel:=[],fzs:=[],tmps:=[0,3,11],sites:=[] }) .leaf .leaf) .leaf) .leaf) .leaf)) .leaf)))) 55 (some (.node none .leaf (.node none .leaf (.node none (.node (some { frz:=[30],own:=[],cel:=[],fzs:=[],tmps:=[30],sites:=[] }) .leaf .leaf) .leaf))))) 56 (some (.node none .leaf (.node none .leaf (.node none (.node none .leaf (.node none (.node (some { frz:=[4],own:=[],cel:=[(3,0,31,130,2)],fzs:=[],tmps:=[1,2,3,4],sites:=[1,2,3,31] }) .leaf .leaf) .leaf)) (.node none (.node none .leaf (.node none (.node (some { frz:=[5],own:=[],cel:=[(3,0,31,130,2),(3,1,56,131,2)],fzs:=[],tmps:=[1,2,3,5],sites:=[1,2,3,31,56] }) .leaf .leaf) .leaf)) (.node none (.node none .leaf (.node none (.node (some { frz:=[6],own:=[],cel:=[(3,0,31,130,2),(3,1,56,131,2),(3,2,82,128,5)],fzs:=[],tmps:=[1,2,3,6],sites:=[1,2,3,31,56,82] }) .leaf .leaf) .leaf)) .leaf))))))) 57 (some (.node none .leaf (.node none .leaf (.node none .leaf (.node none .leaf (.node none .leaf (.node none .leaf (.node none (.node none .leaf (.node none (.node (some { frz:=[7,34,35,36],own:=[(9,33,106,1)],cel:=[],fzs:=[],tmps:=[7,9,34,35,36],sites:=[33] }) .leaf .leaf) .leaf)) .leaf))))))))) 58 (some (.node none .leaf (.node none .leaf (.node none (.node none .leaf (.node none (.node (some { frz:=[6,7,8],own:=[(3,16,27,1)],cel:=[],fzs:=[],tmps:=[3,6,7,8],sites:=[16] }) .leaf .leaf) .leaf)) .leaf))))) 59 (some (.node none .leaf (.node none .leaf (.node none (.node none .leaf (.node none (.node (some { frz:=[0,15,16,17],own:=[(5,14,106,1)],cel:=[],fzs:=[],tmps:=[0,5,15,16,17],sites:=[14] }) .leaf .leaf) .leaf)) .leaf))))) 60 (some (.node none .leaf (.node none .leaf (.node none (.node (some { frz:=[25],own:=[],cel:=[],fzs:=[],tmps:=[1,25],sites:=[1] }) .leaf .leaf) (.node none (.node none .leaf (.node none (.node (some { frz:=[4],own:=[],cel:=[],fzs:=[],tmps:=[1,4],sites:=[1] }) .leaf .leaf) .leaf)) .leaf)))))) 61 (some (.node none .leaf (.node none .leaf (.node none (.node none .leaf (.node none (.node (some { frz:=[1,5],own:=[],cel:=[],fzs:=[],tmps:=[1,2,5],sites:=[2] }) .leaf .leaf) .leaf)) .leaf))))) 62 (some (.node none .leaf (.node none .leaf (.node none (.node none .leaf (.node none (.node (some { frz:=[1,2,8],own:=[(7,45,3,1)],cel:=[],fzs:=[],tmps:=[1,2,3,7,8],sites:=[3,45] }) (.node none .leaf (.node (some { frz:=[1,2,8],own:=[(7,45,3,1)],cel:=[],fzs:=[],tmps:=[1,2,3,7,8],sites:=[3,45] }) (.node none (.node none .leaf (.node none (.node none .leaf (.node none (.node (some { frz:=[1,2,8,9,10],own:=[(7,45,3,1)],cel:=[],fzs:=[],tmps:=[1,2,3,7,8,9,10],sites:=[3,45] }) (.node none .leaf (.node (some { frz:=[1,2,8,9,10],own:=[(7,45,3,1)],cel:=[],fzs:=[],tmps:=[1,2,3,7,8,9,10],sites:=[3,45] }) .leaf .leaf)) .leaf) .leaf)) (.node (some { frz:=[1,2,8,41],own:=[(7,45,3,1)],cel:=[],fzs:=[],tmps:=[1,2,3,7,8,41],sites:=[3,45] }) .leaf .leaf))) .leaf) .leaf)) .leaf) .leaf)) .leaf))))) 63 (some (.node none .leaf (.node none .leaf (.node none .leaf (.node none .leaf (.node (some { frz:=[],own:=[(6,36,3,1)],cel:=[],fzs:=[],tmps:=[6],sites:=[36] }) (.node none .leaf (.node none (.node (some { frz:=[0,7,20,21,22],own:=[(6,36,3,1)],cel:=[],fzs:=[],tmps:=[0,5,6,7,20,21,22],sites:=[5,36] }) .leaf .leaf) .leaf)) .leaf))))))) 64 (some (.node none .leaf (.node none .leaf (.node none (.node none .leaf (.node none (.node (some { frz:=[0,5,8,9,10],own:=[],cel:=[],fzs:=[],tmps:=[0,5,8,9,10],sites:=[] }) .leaf .leaf) .leaf)) .leaf))))) 65 (some (.node none .leaf (.node none .leaf (.node none .leaf (.node none (.node none .leaf (.node none (.node (some { frz:=[0,1,2,7,8,23,24,25],own:=[],cel:=[],fzs:=[],tmps:=[0,1,2,7,8,23,24,25],sites:=[] }) (.node none .leaf (.node none .leaf (.node none (.node none (.node none .leaf (.node none (.node (some { frz:=[0,1,2,9,10,23,24,25,42],own:=[],cel:=[],fzs:=[],tmps:=[0,1,2,9,10,23,24,25,42],sites:=[] }) .leaf .leaf) .leaf)) .leaf) .leaf))) .leaf) .leaf)) .leaf)))))) 66 (some (.node none .leaf (.node none .leaf (.node none .leaf (.node none (.node none .leaf (.node none (.node (some { frz:=[22,23],own:=[],cel:=[],fzs:=[],tmps:=[5,22,23],sites:=[16] }) .leaf .leaf) .leaf)) (.node none (.node none .leaf (.node none (.node (some { frz:=[40,41,42],own:=[],cel:=[],fzs:=[],tmps:=[5,40,41,42],sites:=[16] }) .leaf .leaf) .leaf)) .leaf))))))) 74 (some (.node none .leaf (.node none .leaf (.node none (.node none .leaf (.node none (.node (some { frz:=[6,7,8],own:=[(3,16,3,1)],cel:=[],fzs:=[],tmps:=[3,6,7,8],sites:=[16] }) .leaf .leaf) .leaf)) .leaf))))) 75 (some (.node none .leaf (.node none (.node none .leaf (.node none (.node (some { frz:=[1,2,7],own:=[],cel:=[],fzs:=[],tmps:=[1,2,3,7],sites:=[3] }) (.node none .leaf (.node none (.node none (.node none .leaf (.node (some { frz:=[1,2,7,42],own:=[],cel:=[],fzs:=[],tmps:=[1,2,3,7,42],sites:=[3] }) .leaf .leaf)) .leaf) .leaf)) .leaf) .leaf)) .leaf)))) 79 (some (.node none .leaf (.node none (.node none .leaf (.node none (.node (some { frz:=[1,7,8,9],own:=[],cel:=[],fzs:=[],tmps:=[1,7,8,9],sites:=[] }) .leaf .leaf) .leaf)) .leaf)))) 82 (some (.node none .leaf (.node none (.node none .leaf (.node none (.node (some { frz:=[1,7,8,9],own:=[],cel:=[],fzs:=[],tmps:=[1,7,8,9],sites:=[] }) .leaf .leaf) .leaf)) .leaf)))) 83 (some (.node none .leaf (.node none .leaf (.node none (.node none .leaf (.node none (.node (some { frz:=[3,6,7,8],own:=[],cel:=[],fzs:=[],tmps:=[3,6,7,8],sites:=[] }) .leaf .leaf) .leaf)) .leaf))))) 84 (some (.node none .leaf (.node none .leaf (.node none (.node none .leaf (.node none (.node (some { frz:=[0,5],own:=[(3,14,3,1)],cel:=[],fzs:=[],tmps:=[0,3,5],sites:=[14] }) (.node none .leaf (.node none .leaf (.node (some { frz:=[0,5],own:=[(3,14,3,1)],cel:=[],fzs:=[],tmps:=[0,3,5],sites:=[14] }) .leaf .leaf))) .leaf) .leaf)) .leaf))))) 85 (some (.node none .leaf (.node none .leaf (.node none (.node none .leaf (.node none (.node (some { frz:=[9],own:=[],cel:=[],fzs:=[],tmps:=[5,9],sites:=[5] }) (.node (some { frz:=[],own:=[],cel:=[],fzs:=[],tmps:=[],sites:=[5,1000001] }) .leaf .leaf) .leaf) .leaf)) .leaf))))) 87 (some (.node none .leaf (.node none (.node (some { frz:=[25],own:=[],cel:=[],fzs:=[],tmps:=[1,25],sites:=[1] }) .leaf .leaf) (.node none (.node (some { frz:=[35],own:=[],cel:=[],fzs:=[],tmps:=[1,35],sites:=[1] }) .leaf .leaf) (.node none (.node none .leaf (.node none (.node (some { frz:=[3],own:=[],cel:=[],fzs:=[],tmps:=[1,3],sites:=[1] }) .leaf .leaf) .leaf)) (.node none (.node none .leaf (.node none (.node (some { frz:=[4],own:=[],cel:=[],fzs:=[],tmps:=[1,4],sites:=[1] }) (.node none .leaf (.node none (.node none (.node none .leaf (.node (some { frz:=[4,92],own:=[],cel:=[],fzs:=[],tmps:=[1,4,92],sites:=[1] }) .leaf .leaf)) .leaf) .leaf)) .leaf) .leaf)) (.node none (.node none .leaf (.node none (.node (some { frz:=[6],own:=[],cel:=[],fzs:=[],tmps:=[1,6],sites:=[1] }) (.node none .leaf (.node none (.node none (.node none .leaf (.node none (.node (some { frz:=[6,129],own:=[],cel:=[],fzs:=[],tmps:=[1,6,7,129],sites:=[1,7] }) .leaf .leaf) (.node none .leaf (.node none (.node (some { frz:=[6,8],own:=[],cel:=[],fzs:=[],tmps:=[1,6,7,8],sites:=[1,7] }) (.node none .leaf (.node none (.node none (.node none .leaf (.node (some { frz:=[6,8,156],own:=[],cel:=[],fzs:=[],tmps:=[1,6,7,8,156],sites:=[1,7] }) .leaf .leaf)) .leaf) .leaf)) .leaf) .leaf)))) .leaf) .leaf)) .leaf) .leaf)) .leaf)))))))) 88 (some (.node none .leaf (.node none (.node none .leaf (.node none (.node (some { frz:=[1,5],own:=[],cel:=[],fzs:=[],tmps:=[1,2,5],sites:=[2] }) (.node none .leaf (.node none (.node none (.node (some { frz:=[1,5,38],own:=[],cel:=[],fzs:=[],tmps:=[1,2,5,38],sites:=[2] }) .leaf .leaf) .leaf) .leaf)) .leaf) .leaf)) .leaf)))) 89 (some (.node none .leaf (.node none .leaf (.node none (.node none .leaf (.node none (.node (some { frz:=[14],own:=[],cel:=[],fzs:=[],tmps:=[2,5,14],sites:=[2,5,12] }) (.node (some { frz:=[],own:=[],cel:=[],fzs:=[],tmps:=[],sites:=[2,5,12,1000001] }) .leaf .leaf) (.node none (.node none .leaf (.node none (.node (some { frz:=[21,22,23],own:=[],cel:=[],fzs:=[],tmps:=[2,5,6,7,21,22,23],sites:=[2,5,6,7,12,1000001] }) (.node none .leaf (.node none .leaf (.node none (.node none (.node none .leaf (.node none .leaf (.node none (.node none .leaf (.node none (.node (some { frz:=[8,9,21,22,23,32],own:=[],cel:=[],fzs:=[],tmps:=[2,5,6,7,8,9,10,21,22,23,32],sites:=[2,5,6,7,10,12,1000001] }) (.node (some { frz:=[],own:=[],cel:=[],fzs:=[],tmps:=[],sites:=[2,5,6,7,10,12,1000001,1000005] }) .leaf .leaf) .leaf) .leaf)) .leaf))) .leaf) .leaf))) .leaf) .leaf)) .leaf)) .leaf)) .leaf))))) 90 (some (.node none .leaf (.node (some { frz:=[0,1],own:=[],cel:=[],fzs:=[],tmps:=[0,1],sites:=[] }) .leaf (.node none .leaf (.node none (.node none .leaf (.node none (.node (some { frz:=[0,1,5,6],own:=[],cel:=[],fzs:=[],tmps:=[0,1,5,6],sites:=[] }) (.node none .leaf (.node (some { frz:=[0,1,5,6],own:=[],cel:=[],fzs:=[],tmps:=[0,1,5,6],sites:=[] }) .leaf .leaf)) .leaf) .leaf)) .leaf)))))) 100 (some (.node none .leaf (.node none (.node none .leaf (.node none (.node (some { frz:=[0,7,8,9],own:=[],cel:=[],fzs:=[],tmps:=[0,7,8,9],sites:=[] }) .leaf .leaf) .leaf)) .leaf)))) 102 (some (.node none .leaf (.node none (.node none (.node (some { frz:=[3],own:=[],cel:=[],fzs:=[],tmps:=[1,3],sites:=[1] }) .leaf (.node none .leaf (.node (some { frz:=[16],own:=[],cel:=[],fzs:=[],tmps:=[1,16],sites:=[1] }) .leaf (.node none .leaf (.node (some { frz:=[25],own:=[],cel:=[],fzs:=[],tmps:=[25],sites:=[] }) .leaf .leaf))))) .leaf) .leaf)))) 103 (some (.node none .leaf (.node none (.node none .leaf (.node none (.node (some { frz:=[0,3],own:=[],cel:=[],fzs:=[],tmps:=[0,3],sites:=[] }) .leaf .leaf) .leaf)) .leaf)))) 113 (some (.node none .leaf (.node none (.node none .leaf (.node none (.node (some { frz:=[1,7,8,9],own:=[],cel:=[],fzs:=[],tmps:=[1,7,8,9],sites:=[] }) .leaf .leaf) .leaf)) .leaf)))) 115 (some (.node none .leaf (.node none (.node none .leaf (.node none (.node (some { frz:=[1,7,8,9],own:=[],cel:=[],fzs:=[],tmps:=[1,7,8,9],sites:=[] }) .leaf .leaf) .leaf)) .leaf)))) 116 (some (.node none .leaf (.node none .leaf (.node none (.node none .leaf (.node none (.node (some { frz:=[5,9,10,11],own:=[],cel:=[],fzs:=[],tmps:=[2,3,5,9,10,11],sites:=[2,3] }) (.node none .leaf (.node none .leaf (.node (some { frz:=[5,9,10,11],own:=[],cel:=[],fzs:=[],tmps:=[2,3,5,9,10,11],sites:=[2,3] }) (.node none (.node none .leaf (.node (some { frz:=[5,9,10,11,26],own:=[],cel:=[],fzs:=[],tmps:=[2,3,5,9,10,11,26],sites:=[2,3] }) .leaf .leaf)) .leaf) .leaf))) .leaf) .leaf)) .leaf))))) 117 (some (.node none .leaf (.node none (.node none .leaf (.node none (.node (some { frz:=[1,7,8,9],own:=[],cel:=[],fzs:=[],tmps:=[1,7,8,9],sites:=[] }) .leaf .leaf) .leaf)) .leaf)))) 119 (some (.node none .leaf (.node none (.node (some { frz:=[1,2,10,11],own:=[],cel:=[],fzs:=[],tmps:=[0,1,2,10,11],sites:=[] }) (.node none .leaf (.node none .leaf (.node none (.node none (.node none .leaf (.node (some { frz:=[1,2,10,11,27],own:=[],cel:=[],fzs:=[],tmps:=[0,1,2,10,11,27],sites:=[] }) .leaf .leaf)) .leaf) .leaf))) .leaf) .leaf)))) 120 (some (.node none .leaf (.node none (.node (some { frz:=[1,3],own:=[],cel:=[],fzs:=[],tmps:=[0,1,3],sites:=[] }) .leaf .leaf) .leaf)))
noncomputable def LA(f:FuncId):LvA:=match lvTabA.get f with
 | some l=>l
 | none=>.leaf
noncomputable def recF{α:Type}(C:Nat→α→α)(z:α)(m:Nat):α:=Nat.rec (motive:=fun _=>α) (C 0 z) (fun m ih=>C (m+1) ih) m
theorem recS{α:Type}{T R:Nat→α}{z:α}{C:Nat→α→α}(h:∀ m,T m=C m (R m))(h0:R 0=z)(hs:∀ m,R (m+1)=T m):∀ m,T m=recF C z m
 | 0=>by rw[h,h0]; rfl
 | m+1=>by rw[h,hs,recS h h0 hs m]; rfl
theorem bqA{pc : PC}{rk : RK}{k f : Nat}{ds : List D}(fn : Func)(c : Code)(rs : List ResultVar)(h : (P.funcs[f]?, fn.body, (fn.name == "runtime.NumGoroutine" || fn.ntmps < ds.length), fn.results.toList) = (some fn, some c, false, rs)) :
  cJ P pc noY rk LA (k+1) f ds=aW P pc noY rk (aq P pc noY rk f k) f c (LA f) (aw P rs) X0A (aw P rs) (Zj .nil 0 ds) .nil:=by
 simp only[Prod.mk.injEq] at h
 exact body_eqA h.1 h.2.1 h.2.2.1 h.2.2.2
theorem bqY{pc : PC}{k f : Nat}{ds : List D}(fn : Func)(c : Code)(rs : List ResultVar)(h : (P.funcs[f]?, fn.body, (fn.name == "runtime.NumGoroutine" || fn.ntmps < ds.length), fn.results.toList) = (some fn, some c, false, rs)) :
  cJ P pc my noR LA (k+1) f ds=aW P pc my noR (aq P pc my noR f k) f c (LA f) (aw P rs) X0A (aw P rs) (Zj .nil 0 ds) .nil:=by
 simp only[Prod.mk.injEq] at h
 exact body_eqY h.1 h.2.1 h.2.2.1 h.2.2.2
variable (pc:PC) (rk:RK) (k:Nat)
noncomputable def fy:Code:=ak 7
noncomputable def cq:List ResultVar:=bw 7
noncomputable def K7_pr:KA:=(bX (LvA.b (LA 7)).c (aW P pc noY rk (aq P pc noY rk 7 k) 7 (cR (cR fy)) (LvA.b (LvA.b (LA 7))) (aw P cq) X0A (aw P cq)))
noncomputable def K7_prrrrr:KA:=(bX (LvA.b (LvA.b (LvA.b (LvA.b (LvA.b (LA 7)))))).c (aW P pc noY rk (aq P pc noY rk 7 k) 7 (cR (cR (cR (cR (cR (cR fy)))))) (LvA.b (LvA.b (LvA.b (LvA.b (LvA.b (LvA.b (LA 7))))))) (aw P cq) X0A (aw P cq)))
noncomputable def CQ:KA:=(bX (LvA.b (LvA.b (LvA.b (LvA.b (LvA.b (LvA.b (LA 7))))))).c (aW P pc noY rk (aq P pc noY rk 7 k) 7 (cR (cR (cR (cR (cR (cR (cR fy))))))) (LvA.b (LvA.b (LvA.b (LvA.b (LvA.b (LvA.b (LvA.b (LA 7)))))))) (aw P cq) X0A (aw P cq)))
noncomputable def iy:(Nat→KA):=(upA 0 (CQ pc rk k) X0A)
noncomputable def pY(m1:Nat):KA:=(bX (LvA.a (LvA.b (LvA.a (LvA.b (LvA.b (LvA.b (LvA.b (LvA.b (LvA.b (LA 7)))))))))).c (aq P pc noY rk 7 m1 (LvA.a (LvA.b (LvA.a (LvA.b (LvA.b (LvA.b (LvA.b (LvA.b (LvA.b (LA 7)))))))))) (cL (cR (cL (cR (cR (cR (cR (cR (cR fy))))))))) (CQ pc rk k) (iy pc rk k) (aw P cq)))
noncomputable def K7_prrrrrrlrll(m1:Nat):KA:=(bX (LvA.a (LvA.a (LvA.b (LvA.a (LvA.b (LvA.b (LvA.b (LvA.b (LvA.b (LvA.b (LA 7))))))))))).c (aW P pc noY rk (aq P pc noY rk 7 m1) 7 (cR (cL (cL (cR (cL (cR (cR (cR (cR (cR (cR fy))))))))))) (LvA.b (LvA.a (LvA.a (LvA.b (LvA.a (LvA.b (LvA.b (LvA.b (LvA.b (LvA.b (LvA.b (LA 7)))))))))))) (pY pc rk k m1) (iy pc rk k) (aw P cq)))
noncomputable def K7_prrrrrrlrllr(m1:Nat):KA:=(bX (LvA.b (LvA.a (LvA.a (LvA.b (LvA.a (LvA.b (LvA.b (LvA.b (LvA.b (LvA.b (LvA.b (LA 7)))))))))))).c (aW P pc noY rk (aq P pc noY rk 7 m1) 7 (cR (cR (cL (cL (cR (cL (cR (cR (cR (cR (cR (cR fy)))))))))))) (LvA.b (LvA.b (LvA.a (LvA.a (LvA.b (LvA.a (LvA.b (LvA.b (LvA.b (LvA.b (LvA.b (LvA.b (LA 7))))))))))))) (pY pc rk k m1) (iy pc rk k) (aw P cq)))
noncomputable def K7_pxrrrrrrlrllrl(m1:Nat):(Nat→KA):=(upA 1 (K7_prrrrrrlrllr pc rk k m1) (iy pc rk k))
noncomputable def mQ:KA:=(bX (LvA.b (LvA.b (LvA.b (LvA.b (LvA.b (LvA.b (LvA.b (LvA.b (LA 7))))))))).c (aW P pc noY rk (aq P pc noY rk 7 k) 7 (cR (cR (cR (cR (cR (cR (cR (cR (cR fy))))))))) (LvA.b (LvA.b (LvA.b (LvA.b (LvA.b (LvA.b (LvA.b (LvA.b (LvA.b (LA 7)))))))))) (aw P cq) X0A (aw P cq)))
noncomputable def ez:(Nat→KA):=(upA 2 (mQ pc rk k) X0A)
noncomputable def jz(m1:Nat):KA:=(bX (LvA.a (LvA.b (LvA.b (LvA.a (LvA.b (LvA.a (LvA.b (LvA.b (LvA.b (LvA.b (LvA.b (LvA.b (LvA.b (LvA.b (LA 7))))))))))))))).c (aq P pc noY rk 7 m1 (LvA.a (LvA.b (LvA.b (LvA.a (LvA.b (LvA.a (LvA.b (LvA.b (LvA.b (LvA.b (LvA.b (LvA.b (LvA.b (LvA.b (LA 7))))))))))))))) (cL (cR (cR (cL (cR (cL (cR (cR (cR (cR (cR (cR (cR (cR fy)))))))))))))) (mQ pc rk k) (ez pc rk k) (aw P cq)))
noncomputable def K7_prrrrrrrrlrlrrll(m1:Nat):KA:=(bX (LvA.a (LvA.a (LvA.b (LvA.b (LvA.a (LvA.b (LvA.a (LvA.b (LvA.b (LvA.b (LvA.b (LvA.b (LvA.b (LvA.b (LvA.b (LA 7)))))))))))))))).c (aW P pc noY rk (aq P pc noY rk 7 m1) 7 (cR (cL (cL (cR (cR (cL (cR (cL (cR (cR (cR (cR (cR (cR (cR (cR fy)))))))))))))))) (LvA.b (LvA.a (LvA.a (LvA.b (LvA.b (LvA.a (LvA.b (LvA.a (LvA.b (LvA.b (LvA.b (LvA.b (LvA.b (LvA.b (LvA.b (LvA.b (LA 7))))))))))))))))) (jz pc rk k m1) (ez pc rk k) (aw P cq)))
noncomputable def K7_prrrrrrrrlrlrrllr(m1:Nat):KA:=(bX (LvA.b (LvA.a (LvA.a (LvA.b (LvA.b (LvA.a (LvA.b (LvA.a (LvA.b (LvA.b (LvA.b (LvA.b (LvA.b (LvA.b (LvA.b (LvA.b (LA 7))))))))))))))))).c (aW P pc noY rk (aq P pc noY rk 7 m1) 7 (cR (cR (cL (cL (cR (cR (cL (cR (cL (cR (cR (cR (cR (cR (cR (cR (cR fy))))))))))))))))) (LvA.b (LvA.b (LvA.a (LvA.a (LvA.b (LvA.b (LvA.a (LvA.b (LvA.a (LvA.b (LvA.b (LvA.b (LvA.b (LvA.b (LvA.b (LvA.b (LvA.b (LA 7)))))))))))))))))) (jz pc rk k m1) (ez pc rk k) (aw P cq)))
noncomputable def K7_pxrrrrrrrrlrlrrllrl(m1:Nat):(Nat→KA):=(upA 3 (K7_prrrrrrrrlrlrrllr pc rk k m1) (ez pc rk k))
noncomputable def T7_14(m1:Nat):=fun(u1:D) (u7:D) (u8:D) (u13:D) (c3:List D)=>labA (aW P pc noY rk (aq P pc noY rk 7 m1) 7 (cR (cR (cL (cL (cR (cL (cR (cR (cR (cR (cR (cR fy)))))))))))) (LvA.b (LvA.b (LvA.a (LvA.a (LvA.b (LvA.a (LvA.b (LvA.b (LvA.b (LvA.b (LvA.b (LvA.b (LA 7))))))))))))) (pY pc rk k m1) (iy pc rk k) (aw P cq)) (Tr.set (Tr.set (Tr.set (Tr.set (Tr.set Tr.nil 13 (some (AV.d u13))) 8 (some (AV.d u8))) 7 (some (AV.d u7))) 3 (some (AV.loc 3 0))) 1 (some (AV.d u1))) (Tr.set Tr.nil 3 (some (Bx.dat c3 false)))
noncomputable def T7_13(m1:Nat):=fun(u1:D) (u7:D) (u8:D) (u13:D) (u120:D) (c3:List D)=>labA (aW P pc noY rk (aq P pc noY rk 7 m1) 7 (cR (cL (cL (cR (cL (cL (cR (cL (cR (cR (cR (cR (cR (cR fy)))))))))))))) (LvA.b (LvA.a (LvA.a (LvA.b (LvA.a (LvA.a (LvA.b (LvA.a (LvA.b (LvA.b (LvA.b (LvA.b (LvA.b (LvA.b (LA 7))))))))))))))) (K7_prrrrrrlrllr pc rk k m1) (K7_pxrrrrrrlrllrl pc rk k m1) (aw P cq)) (Tr.set (Tr.set (Tr.set (Tr.set (Tr.set (Tr.set Tr.nil 120 (some (AV.d u120))) 13 (some (AV.d u13))) 8 (some (AV.d u8))) 7 (some (AV.d u7))) 3 (some (AV.loc 3 0))) 1 (some (AV.d u1))) (Tr.set Tr.nil 3 (some (Bx.dat c3 false)))
noncomputable def T7_12(m1:Nat):=fun(u1:D) (u7:D) (u8:D) (u13:D) (c3:List D)=>labA (aW P pc noY rk (aq P pc noY rk 7 m1) 7 (cR (cL (cL (cR (cL (cR (cR (cR (cR (cR (cR fy))))))))))) (LvA.b (LvA.a (LvA.a (LvA.b (LvA.a (LvA.b (LvA.b (LvA.b (LvA.b (LvA.b (LvA.b (LA 7)))))))))))) (pY pc rk k m1) (iy pc rk k) (aw P cq)) (Tr.set (Tr.set (Tr.set (Tr.set (Tr.set Tr.nil 13 (some (AV.d u13))) 8 (some (AV.d u8))) 7 (some (AV.d u7))) 3 (some (AV.loc 3 0))) 1 (some (AV.d u1))) (Tr.set Tr.nil 3 (some (Bx.dat c3 false)))
noncomputable def T7_24(m1:Nat):=fun(u1:D) (u8:D) (u14:D) (u15:D) (u16:D) (c3:List D)=>labA (aW P pc noY rk (aq P pc noY rk 7 m1) 7 (cR (cR (cL (cL (cR (cR (cL (cR (cL (cR (cR (cR (cR (cR (cR (cR (cR fy))))))))))))))))) (LvA.b (LvA.b (LvA.a (LvA.a (LvA.b (LvA.b (LvA.a (LvA.b (LvA.a (LvA.b (LvA.b (LvA.b (LvA.b (LvA.b (LvA.b (LvA.b (LvA.b (LA 7)))))))))))))))))) (jz pc rk k m1) (ez pc rk k) (aw P cq)) (Tr.set (Tr.set (Tr.set (Tr.set (Tr.set (Tr.set Tr.nil 16 (some (AV.d u16))) 15 (some (AV.d u15))) 14 (some (AV.d u14))) 8 (some (AV.d u8))) 3 (some (AV.loc 3 0))) 1 (some (AV.d u1))) (Tr.set Tr.nil 3 (some (Bx.dat c3 false)))
noncomputable def T7_23(m1:Nat):=fun(u1:D) (u8:D) (u14:D) (u15:D) (u16:D) (u167:D) (c3:List D)=>labA (aW P pc noY rk (aq P pc noY rk 7 m1) 7 (cR (cL (cL (cR (cL (cL (cR (cR (cL (cR (cL (cR (cR (cR (cR (cR (cR (cR (cR fy))))))))))))))))))) (LvA.b (LvA.a (LvA.a (LvA.b (LvA.a (LvA.a (LvA.b (LvA.b (LvA.a (LvA.b (LvA.a (LvA.b (LvA.b (LvA.b (LvA.b (LvA.b (LvA.b (LvA.b (LvA.b (LA 7)))))))))))))))))))) (K7_prrrrrrrrlrlrrllr pc rk k m1) (K7_pxrrrrrrrrlrlrrllrl pc rk k m1) (aw P cq)) (Tr.set (Tr.set (Tr.set (Tr.set (Tr.set (Tr.set (Tr.set Tr.nil 167 (some (AV.d u167))) 16 (some (AV.d u16))) 15 (some (AV.d u15))) 14 (some (AV.d u14))) 8 (some (AV.d u8))) 3 (some (AV.loc 3 0))) 1 (some (AV.d u1))) (Tr.set Tr.nil 3 (some (Bx.dat c3 false)))
noncomputable def T7_22(m1:Nat):=fun(u1:D) (u8:D) (u14:D) (u15:D) (u16:D) (c3:List D)=>labA (aW P pc noY rk (aq P pc noY rk 7 m1) 7 (cR (cL (cL (cR (cR (cL (cR (cL (cR (cR (cR (cR (cR (cR (cR (cR fy)))))))))))))))) (LvA.b (LvA.a (LvA.a (LvA.b (LvA.b (LvA.a (LvA.b (LvA.a (LvA.b (LvA.b (LvA.b (LvA.b (LvA.b (LvA.b (LvA.b (LvA.b (LA 7))))))))))))))))) (jz pc rk k m1) (ez pc rk k) (aw P cq)) (Tr.set (Tr.set (Tr.set (Tr.set (Tr.set (Tr.set Tr.nil 16 (some (AV.d u16))) 15 (some (AV.d u15))) 14 (some (AV.d u14))) 8 (some (AV.d u8))) 3 (some (AV.loc 3 0))) 1 (some (AV.d u1))) (Tr.set Tr.nil 3 (some (Bx.dat c3 false)))
noncomputable def T7_25:=fun(u1:D) (u8:D) (u14:D)=>labA (aW P pc noY rk (aq P pc noY rk 7 k) 7 (cR (cR (cR (cR (cR (cR (cR (cR (cR fy))))))))) (LvA.b (LvA.b (LvA.b (LvA.b (LvA.b (LvA.b (LvA.b (LvA.b (LvA.b (LA 7)))))))))) (aw P cq) X0A (aw P cq)) (Tr.set (Tr.set (Tr.set Tr.nil 14 (some (AV.d u14))) 8 (some (AV.d u8))) 1 (some (AV.d u1))) Tr.nil
noncomputable def T7_21(m1:Nat):=fun(u1:D) (u8:D) (u14:D) (u15:D) (u16:D) (u150:D) (c3:List D)=>labA (aW P pc noY rk (aq P pc noY rk 7 m1) 7 (cR (cL (cL (cL (cR (cR (cL (cR (cL (cR (cR (cR (cR (cR (cR (cR (cR fy))))))))))))))))) (LvA.b (LvA.a (LvA.a (LvA.a (LvA.b (LvA.b (LvA.a (LvA.b (LvA.a (LvA.b (LvA.b (LvA.b (LvA.b (LvA.b (LvA.b (LvA.b (LvA.b (LA 7)))))))))))))))))) (K7_prrrrrrrrlrlrrll pc rk k m1) (ez pc rk k) (aw P cq)) (Tr.set (Tr.set (Tr.set (Tr.set (Tr.set (Tr.set (Tr.set Tr.nil 150 (some (AV.d u150))) 16 (some (AV.d u16))) 15 (some (AV.d u15))) 14 (some (AV.d u14))) 8 (some (AV.d u8))) 3 (some (AV.loc 3 0))) 1 (some (AV.d u1))) (Tr.set Tr.nil 3 (some (Bx.dat c3 false)))
noncomputable def T7_20(m1:Nat):=fun(u1:D) (u8:D) (u14:D) (u15:D) (u16:D) (c3:List D)=>labA (aW P pc noY rk (aq P pc noY rk 7 m1) 7 (cL (cL (cR (cR (cL (cR (cL (cR (cR (cR (cR (cR (cR (cR (cR fy))))))))))))))) (LvA.a (LvA.a (LvA.b (LvA.b (LvA.a (LvA.b (LvA.a (LvA.b (LvA.b (LvA.b (LvA.b (LvA.b (LvA.b (LvA.b (LvA.b (LA 7)))))))))))))))) (jz pc rk k m1) (ez pc rk k) (aw P cq)) (Tr.set (Tr.set (Tr.set (Tr.set (Tr.set (Tr.set Tr.nil 16 (some (AV.d u16))) 15 (some (AV.d u15))) 14 (some (AV.d u14))) 8 (some (AV.d u8))) 3 (some (AV.loc 3 0))) 1 (some (AV.d u1))) (Tr.set Tr.nil 3 (some (Bx.dat c3 false)))
noncomputable def Pw(m1:Nat):(D→D→D→D→D→List D→Option D):=fun u1 u8 u14 u15 u16 c3=>labA (aq P pc noY rk 7 m1 (LvA.a (LvA.b (LvA.b (LvA.a (LvA.b (LvA.a (LvA.b (LvA.b (LvA.b (LvA.b (LvA.b (LvA.b (LvA.b (LvA.b (LA 7))))))))))))))) (cL (cR (cR (cL (cR (cL (cR (cR (cR (cR (cR (cR (cR (cR fy)))))))))))))) (mQ pc rk k) (ez pc rk k) (aw P cq)) (Tr.set (Tr.set (Tr.set (Tr.set (Tr.set (Tr.set Tr.nil 16 (some (AV.d u16))) 15 (some (AV.d u15))) 14 (some (AV.d u14))) 8 (some (AV.d u8))) 3 (some (AV.loc 3 0))) 1 (some (AV.d u1))) (Tr.set Tr.nil 3 (some (Bx.dat c3 false)))
noncomputable def T7_19:=fun(u1:D) (u8:D) (u14:D) (u15:D) (u16:D) (c3:List D)=>labA (aW P pc noY rk (aq P pc noY rk 7 k) 7 (cR (cR (cL (cR (cL (cR (cR (cR (cR (cR (cR (cR (cR fy))))))))))))) (LvA.b (LvA.b (LvA.a (LvA.b (LvA.a (LvA.b (LvA.b (LvA.b (LvA.b (LvA.b (LvA.b (LvA.b (LvA.b (LA 7)))))))))))))) (mQ pc rk k) X0A (aw P cq)) (Tr.set (Tr.set (Tr.set (Tr.set (Tr.set (Tr.set Tr.nil 16 (some (AV.d u16))) 15 (some (AV.d u15))) 14 (some (AV.d u14))) 8 (some (AV.d u8))) 3 (some (AV.loc 3 0))) 1 (some (AV.d u1))) (Tr.set Tr.nil 3 (some (Bx.dat c3 false)))
noncomputable def T7_18:=fun(u1:D) (u8:D) (u14:D) (u15:D) (c3:List D)=>labA (aW P pc noY rk (aq P pc noY rk 7 k) 7 (cR (cL (cR (cL (cR (cR (cR (cR (cR (cR (cR (cR fy)))))))))))) (LvA.b (LvA.a (LvA.b (LvA.a (LvA.b (LvA.b (LvA.b (LvA.b (LvA.b (LvA.b (LvA.b (LvA.b (LA 7))))))))))))) (mQ pc rk k) X0A (aw P cq)) (Tr.set (Tr.set (Tr.set (Tr.set (Tr.set Tr.nil 15 (some (AV.d u15))) 14 (some (AV.d u14))) 8 (some (AV.d u8))) 3 (some (AV.loc 3 0))) 1 (some (AV.d u1))) (Tr.set Tr.nil 3 (some (Bx.dat c3 false)))
noncomputable def T7_17:=fun(u1:D) (u7:D) (u8:D) (u14:D) (u138:D) (c3:List D)=>labA (aW P pc noY rk (aq P pc noY rk 7 k) 7 (cR (cL (cR (cR (cR (cR (cR (cR (cR (cR fy)))))))))) (LvA.b (LvA.a (LvA.b (LvA.b (LvA.b (LvA.b (LvA.b (LvA.b (LvA.b (LvA.b (LA 7))))))))))) (mQ pc rk k) X0A (aw P cq)) (Tr.set (Tr.set (Tr.set (Tr.set (Tr.set (Tr.set Tr.nil 138 (some (AV.d u138))) 14 (some (AV.d u14))) 8 (some (AV.d u8))) 7 (some (AV.d u7))) 3 (some (AV.loc 3 0))) 1 (some (AV.d u1))) (Tr.set Tr.nil 3 (some (Bx.dat c3 false)))
noncomputable def T7_16:=fun(u1:D) (u7:D) (u8:D) (u14:D) (c3:List D)=>labA (aW P pc noY rk (aq P pc noY rk 7 k) 7 (cR (cR (cR (cR (cR (cR (cR (cR fy)))))))) (LvA.b (LvA.b (LvA.b (LvA.b (LvA.b (LvA.b (LvA.b (LvA.b (LA 7))))))))) (aw P cq) X0A (aw P cq)) (Tr.set (Tr.set (Tr.set (Tr.set (Tr.set Tr.nil 14 (some (AV.d u14))) 8 (some (AV.d u8))) 7 (some (AV.d u7))) 3 (some (AV.loc 3 0))) 1 (some (AV.d u1))) (Tr.set Tr.nil 3 (some (Bx.dat c3 false)))
noncomputable def T7_15:=fun(u1:D) (u7:D) (u8:D) (c3:List D)=>labA (aW P pc noY rk (aq P pc noY rk 7 k) 7 (cR (cR (cR (cR (cR (cR (cR fy))))))) (LvA.b (LvA.b (LvA.b (LvA.b (LvA.b (LvA.b (LvA.b (LA 7)))))))) (aw P cq) X0A (aw P cq)) (Tr.set (Tr.set (Tr.set (Tr.set Tr.nil 8 (some (AV.d u8))) 7 (some (AV.d u7))) 3 (some (AV.loc 3 0))) 1 (some (AV.d u1))) (Tr.set Tr.nil 3 (some (Bx.dat c3 false)))
noncomputable def T7_11(m1:Nat):=fun(u1:D) (u7:D) (u8:D) (u13:D) (u108:D) (c3:List D)=>labA (aW P pc noY rk (aq P pc noY rk 7 m1) 7 (cR (cL (cL (cL (cR (cL (cR (cR (cR (cR (cR (cR fy)))))))))))) (LvA.b (LvA.a (LvA.a (LvA.a (LvA.b (LvA.a (LvA.b (LvA.b (LvA.b (LvA.b (LvA.b (LvA.b (LA 7))))))))))))) (K7_prrrrrrlrll pc rk k m1) (iy pc rk k) (aw P cq)) (Tr.set (Tr.set (Tr.set (Tr.set (Tr.set (Tr.set Tr.nil 108 (some (AV.d u108))) 13 (some (AV.d u13))) 8 (some (AV.d u8))) 7 (some (AV.d u7))) 3 (some (AV.loc 3 0))) 1 (some (AV.d u1))) (Tr.set Tr.nil 3 (some (Bx.dat c3 false)))
noncomputable def T7_10(m1:Nat):=fun(u1:D) (u7:D) (u8:D) (u13:D) (c3:List D)=>labA (aW P pc noY rk (aq P pc noY rk 7 m1) 7 (cL (cL (cR (cL (cR (cR (cR (cR (cR (cR fy)))))))))) (LvA.a (LvA.a (LvA.b (LvA.a (LvA.b (LvA.b (LvA.b (LvA.b (LvA.b (LvA.b (LA 7))))))))))) (pY pc rk k m1) (iy pc rk k) (aw P cq)) (Tr.set (Tr.set (Tr.set (Tr.set (Tr.set Tr.nil 13 (some (AV.d u13))) 8 (some (AV.d u8))) 7 (some (AV.d u7))) 3 (some (AV.loc 3 0))) 1 (some (AV.d u1))) (Tr.set Tr.nil 3 (some (Bx.dat c3 false)))
noncomputable def Px(m1:Nat):(D→D→D→D→List D→Option D):=fun u1 u7 u8 u13 c3=>labA (aq P pc noY rk 7 m1 (LvA.a (LvA.b (LvA.a (LvA.b (LvA.b (LvA.b (LvA.b (LvA.b (LvA.b (LA 7)))))))))) (cL (cR (cL (cR (cR (cR (cR (cR (cR fy))))))))) (CQ pc rk k) (iy pc rk k) (aw P cq)) (Tr.set (Tr.set (Tr.set (Tr.set (Tr.set Tr.nil 13 (some (AV.d u13))) 8 (some (AV.d u8))) 7 (some (AV.d u7))) 3 (some (AV.loc 3 0))) 1 (some (AV.d u1))) (Tr.set Tr.nil 3 (some (Bx.dat c3 false)))
noncomputable def T7_9:=fun(u1:D) (u7:D) (u8:D) (u13:D) (c3:List D)=>labA (aW P pc noY rk (aq P pc noY rk 7 k) 7 (cR (cL (cR (cR (cR (cR (cR (cR fy)))))))) (LvA.b (LvA.a (LvA.b (LvA.b (LvA.b (LvA.b (LvA.b (LvA.b (LA 7))))))))) (CQ pc rk k) X0A (aw P cq)) (Tr.set (Tr.set (Tr.set (Tr.set (Tr.set Tr.nil 13 (some (AV.d u13))) 8 (some (AV.d u8))) 7 (some (AV.d u7))) 3 (some (AV.loc 3 0))) 1 (some (AV.d u1))) (Tr.set Tr.nil 3 (some (Bx.dat c3 false)))
noncomputable def T7_8:=fun(u1:D) (u7:D) (u8:D) (c3:List D)=>labA (aW P pc noY rk (aq P pc noY rk 7 k) 7 (cR (cR (cR (cR (cR (cR fy)))))) (LvA.b (LvA.b (LvA.b (LvA.b (LvA.b (LvA.b (LA 7))))))) (aw P cq) X0A (aw P cq)) (Tr.set (Tr.set (Tr.set (Tr.set Tr.nil 8 (some (AV.d u8))) 7 (some (AV.d u7))) 3 (some (AV.loc 3 0))) 1 (some (AV.d u1))) (Tr.set Tr.nil 3 (some (Bx.dat c3 false)))
noncomputable def T7_7:=fun(u1:D) (u7:D) (u8:D) (u104:D) (c3:List D)=>labA (aW P pc noY rk (aq P pc noY rk 7 k) 7 (cR (cL (cR (cR (cR (cR (cR fy))))))) (LvA.b (LvA.a (LvA.b (LvA.b (LvA.b (LvA.b (LvA.b (LA 7)))))))) (K7_prrrrr pc rk k) X0A (aw P cq)) (Tr.set (Tr.set (Tr.set (Tr.set (Tr.set Tr.nil 104 (some (AV.d u104))) 8 (some (AV.d u8))) 7 (some (AV.d u7))) 3 (some (AV.loc 3 0))) 1 (some (AV.d u1))) (Tr.set Tr.nil 3 (some (Bx.dat c3 false)))
noncomputable def T7_6:=fun(u1:D) (u7:D) (u8:D) (u9:D) (u10:D) (u11:D) (u12:D) (c3:List D)=>labA (aW P pc noY rk (aq P pc noY rk 7 k) 7 (cR (cR (cR (cR (cR fy))))) (LvA.b (LvA.b (LvA.b (LvA.b (LvA.b (LA 7)))))) (aw P cq) X0A (aw P cq)) (Tr.set (Tr.set (Tr.set (Tr.set (Tr.set (Tr.set (Tr.set (Tr.set Tr.nil 12 (some (AV.d u12))) 11 (some (AV.d u11))) 10 (some (AV.d u10))) 9 (some (AV.d u9))) 8 (some (AV.d u8))) 7 (some (AV.d u7))) 3 (some (AV.loc 3 0))) 1 (some (AV.d u1))) (Tr.set Tr.nil 3 (some (Bx.dat c3 false)))
noncomputable def T7_5:=fun(u1:D) (u7:D) (u8:D) (u9:D) (c3:List D)=>labA (aW P pc noY rk (aq P pc noY rk 7 k) 7 (cR (cR (cR (cR fy)))) (LvA.b (LvA.b (LvA.b (LvA.b (LA 7))))) (aw P cq) X0A (aw P cq)) (Tr.set (Tr.set (Tr.set (Tr.set (Tr.set Tr.nil 9 (some (AV.d u9))) 8 (some (AV.d u8))) 7 (some (AV.d u7))) 3 (some (AV.loc 3 0))) 1 (some (AV.d u1))) (Tr.set Tr.nil 3 (some (Bx.dat c3 false)))
noncomputable def T7_4:=fun(u1:D) (u7:D) (c3:List D)=>labA (aW P pc noY rk (aq P pc noY rk 7 k) 7 (cR (cR (cR fy))) (LvA.b (LvA.b (LvA.b (LA 7)))) (aw P cq) X0A (aw P cq)) (Tr.set (Tr.set (Tr.set Tr.nil 7 (some (AV.d u7))) 3 (some (AV.loc 3 0))) 1 (some (AV.d u1))) (Tr.set Tr.nil 3 (some (Bx.dat c3 false)))
noncomputable def T7_3:=fun(u1:D) (u2:D) (c3:List D)=>labA (aW P pc noY rk (aq P pc noY rk 7 k) 7 (cR (cR fy)) (LvA.b (LvA.b (LA 7))) (aw P cq) X0A (aw P cq)) (Tr.set (Tr.set (Tr.set Tr.nil 3 (some (AV.loc 3 0))) 2 (some (AV.d u2))) 1 (some (AV.d u1))) (Tr.set Tr.nil 3 (some (Bx.dat c3 false)))
noncomputable def T7_2:=fun(u1:D) (u2:D) (u26:D) (c3:List D)=>labA (aW P pc noY rk (aq P pc noY rk 7 k) 7 (cR (cL (cR fy))) (LvA.b (LvA.a (LvA.b (LA 7)))) (K7_pr pc rk k) X0A (aw P cq)) (Tr.set (Tr.set (Tr.set (Tr.set Tr.nil 26 (some (AV.d u26))) 3 (some (AV.loc 3 0))) 2 (some (AV.d u2))) 1 (some (AV.d u1))) (Tr.set Tr.nil 3 (some (Bx.dat c3 false)))
noncomputable def T7_1:=fun(u1:D) (u2:D) (c3:List D)=>labA (aW P pc noY rk (aq P pc noY rk 7 k) 7 (cR fy) (LvA.b (LA 7)) (aw P cq) X0A (aw P cq)) (Tr.set (Tr.set (Tr.set Tr.nil 3 (some (AV.loc 3 0))) 2 (some (AV.d u2))) 1 (some (AV.d u1))) (Tr.set Tr.nil 3 (some (Bx.dat c3 false)))
noncomputable def B7_14(pc:PC)(k:Nat)(m1:Nat)(b10:(D→D→D→D→List D→Option D))(u1:D)(u7:D)(u8:D)(u13:D)(c3:List D):Option D:=
bindO (binD P BinOp.add 3 (Operand.tmp 109) (Operand.const (Value.int IntKind.i64 1)) u13 (D.v (Value.int IntKind.i64 1))) fun d_w=>
b10 u1 u7 u8 d_w c3
noncomputable def C7_14(m1:Nat):=B7_14 pc k m1
theorem h7_14(m1:Nat):T7_14 pc rk k m1=C7_14 pc k m1 (Px pc rk k m1):=by kernel_rfl
noncomputable def B7_13(pc:PC)(k:Nat)(m1:Nat)(j14:(D→D→D→D→List D→Option D))(b10:(D→D→D→D→List D→Option D))(u1:D)(u7:D)(u8:D)(u13:D)(u120:D)(c3:List D):Option D:=
ifU u120 (
some (D.v (Value.bool false))) (
j14 u1 u7 u8 u13 c3)
noncomputable def C7_13(m1:Nat)(b10:(D→D→D→D→List D→Option D)):=B7_13 pc k m1 (C7_14 pc k m1 b10) b10
theorem h7_13(m1:Nat):T7_13 pc rk k m1=C7_13 pc k m1 (Px pc rk k m1):=Eq.trans (b:=B7_13 pc k m1 (T7_14 pc rk k m1) (Px pc rk k m1)) (by kernel_rfl) (by rw[h7_14]; rfl)
noncomputable def B7_12(pc:PC)(k:Nat)(m1:Nat)(j13:(D→D→D→D→D→List D→Option D))(b10:(D→D→D→D→List D→Option D))(u1:D)(u7:D)(u8:D)(u13:D)(c3:List D):Option D:=
bindO (elsD u8) fun l_o=>
bindO (idxD u13 l_o.length) fun i_p=>
bindO (l_o[i_p]?) fun d_q=>
chkK (bz d_q) (
bindO (elsD u7) fun l_r=>
bindO (idxD u13 l_r.length) fun i_s=>
bindO (l_r[i_s]?) fun d_t=>
chkK (bz d_t) (
bindO (pcD P pc 39 [d_q,d_t]) fun d_u=>
bindO (semD P d_u (Op.unary UnOp.not)) fun d_v=>
j13 u1 u7 u8 u13 d_v c3))
noncomputable def C7_12(m1:Nat)(b10:(D→D→D→D→List D→Option D)):=B7_12 pc k m1 (C7_13 pc k m1 b10) b10
theorem h7_12(m1:Nat):T7_12 pc rk k m1=C7_12 pc k m1 (Px pc rk k m1):=Eq.trans (b:=B7_12 pc k m1 (T7_13 pc rk k m1) (Px pc rk k m1)) (by kernel_rfl) (by rw[h7_13]; rfl)
noncomputable def B7_24(pc:PC)(k:Nat)(m1:Nat)(b20:(D→D→D→D→D→List D→Option D))(u1:D)(u8:D)(u14:D)(u15:D)(u16:D)(c3:List D):Option D:=
bindO (binD P BinOp.add 3 (Operand.tmp 151) (Operand.const (Value.int IntKind.i64 1)) u16 (D.v (Value.int IntKind.i64 1))) fun d_1n=>
b20 u1 u8 u14 u15 d_1n c3
noncomputable def C7_24(m1:Nat):=B7_24 pc k m1
theorem h7_24(m1:Nat):T7_24 pc rk k m1=C7_24 pc k m1 (Pw pc rk k m1):=by kernel_rfl
noncomputable def B7_23(pc:PC)(k:Nat)(m1:Nat)(j24:(D→D→D→D→D→List D→Option D))(b20:(D→D→D→D→D→List D→Option D))(u1:D)(u8:D)(u14:D)(u15:D)(u16:D)(u167:D)(c3:List D):Option D:=
ifU u167 (
some (D.v (Value.bool false))) (
j24 u1 u8 u14 u15 u16 c3)
noncomputable def C7_23(m1:Nat)(b20:(D→D→D→D→D→List D→Option D)):=B7_23 pc k m1 (C7_24 pc k m1 b20) b20
theorem h7_23(m1:Nat):T7_23 pc rk k m1=C7_23 pc k m1 (Pw pc rk k m1):=Eq.trans (b:=B7_23 pc k m1 (T7_24 pc rk k m1) (Pw pc rk k m1)) (by kernel_rfl) (by rw[h7_24]; rfl)
noncomputable def B7_22(pc:PC)(k:Nat)(m1:Nat)(j23:(D→D→D→D→D→D→List D→Option D))(b20:(D→D→D→D→D→List D→Option D))(u1:D)(u8:D)(u14:D)(u15:D)(u16:D)(c3:List D):Option D:=
bindO (cutD c3 0 5) fun c_1e=>
bindO (pcD P pc 41 [(D.agg c_1e),u15,u16]) fun d_1f=>
ifU d_1f (
bindO (elsD u1) fun l_1g=>
bindO (binD P BinOp.sub 3 (Operand.tmp 160) (Operand.const (Value.int IntKind.i64 1)) (lenD l_1g) (D.v (Value.int IntKind.i64 1))) fun d_1h=>
bindO (elsD u1) fun l_1i=>
bindO (idxD d_1h l_1i.length) fun i_1j=>
bindO (l_1i[i_1j]?) fun d_1k=>
chkK (bz d_1k) (
bindO (pcD P pc 39 [d_1k,u16]) fun d_1l=>
bindO (semD P d_1l (Op.unary UnOp.not)) fun d_1m=>
j23 u1 u8 u14 u15 u16 d_1m c3)) (
j23 u1 u8 u14 u15 u16 (D.v (Value.bool false)) c3)
noncomputable def C7_22(m1:Nat)(b20:(D→D→D→D→D→List D→Option D)):=B7_22 pc k m1 (C7_23 pc k m1 b20) b20
theorem h7_22(m1:Nat):T7_22 pc rk k m1=C7_22 pc k m1 (Pw pc rk k m1):=Eq.trans (b:=B7_22 pc k m1 (T7_23 pc rk k m1) (Pw pc rk k m1)) (by kernel_rfl) (by rw[h7_23]; rfl)
noncomputable def B7_25(pc:PC)(k:Nat)(u1:D)(u8:D)(u14:D):Option D:=
bindO (elsD u1) fun l_1o=>
bindO (elsD u8) fun l_1p=>
bindO (idxD (lenD l_1o) l_1p.length) fun i_1q=>
bindO (l_1p[i_1q]?) fun d_1r=>
chkK (bz d_1r) (
bindO (elsD d_1r) fun l_1s=>
bindO (binD P BinOp.eql 3 (Operand.tmp 174) (Operand.const (Value.int IntKind.i64 0)) (lenD l_1s) (D.v (Value.int IntKind.i64 0))) fun d_1t=>
bindO (binD P BinOp.eql 4 (Operand.tmp 168) (Operand.tmp 175) u14 d_1t) fun d_1u=>
ifU d_1u (
bindO (pcD P pc 16 []) fun d_1v=>
some d_1v) (
some (D.v (Value.bool false))))
noncomputable def C7_25:=B7_25 pc k
theorem h7_25:T7_25 pc rk k=C7_25 pc k:=by kernel_rfl
noncomputable def B7_21(pc:PC)(k:Nat)(m1:Nat)(j22:(D→D→D→D→D→List D→Option D))(j25:(D→D→D→Option D))(b20:(D→D→D→D→D→List D→Option D))(u1:D)(u8:D)(u14:D)(u15:D)(u16:D)(u150:D)(c3:List D):Option D:=
ifU u150 (
j22 u1 u8 u14 u15 u16 c3) (
j25 u1 u8 u14)
noncomputable def C7_21(m1:Nat)(b20:(D→D→D→D→D→List D→Option D)):=B7_21 pc k m1 (C7_22 pc k m1 b20) (C7_25 pc k) b20
theorem h7_21(m1:Nat):T7_21 pc rk k m1=C7_21 pc k m1 (Pw pc rk k m1):=Eq.trans (b:=B7_21 pc k m1 (T7_22 pc rk k m1) (T7_25 pc rk k) (Pw pc rk k m1)) (by kernel_rfl) (by rw[h7_22,h7_25]; rfl)
noncomputable def B7_20(pc:PC)(k:Nat)(m1:Nat)(j21:(D→D→D→D→D→D→List D→Option D))(b20:(D→D→D→D→D→List D→Option D))(u1:D)(u8:D)(u14:D)(u15:D)(u16:D)(c3:List D):Option D:=
bindO (c3[0]?) fun d_1b=>
bindO (elsD d_1b) fun l_1c=>
bindO (binD P BinOp.lss 3 (Operand.tmp 145) (Operand.tmp 149) u16 (lenD l_1c)) fun d_1d=>
j21 u1 u8 u14 u15 u16 d_1d c3
noncomputable def C7_20(m1:Nat)(b20:(D→D→D→D→D→List D→Option D)):=B7_20 pc k m1 (C7_21 pc k m1 b20) b20
noncomputable def S7_20:Nat→(D→D→D→D→D→List D→Option D):=recF (C7_20 pc k) (fun _ _ _ _ _ _=>none)
theorem h7_20(m1:Nat):T7_20 pc rk k m1=C7_20 pc k m1 (Pw pc rk k m1):=Eq.trans (b:=B7_20 pc k m1 (T7_21 pc rk k m1) (Pw pc rk k m1)) (by kernel_rfl) (by rw[h7_21]; rfl)
theorem q7_20(m:Nat):T7_20 pc rk k m=S7_20 pc k m:=recS (h7_20 pc rk k) (by kernel_rfl) (fun m=>by kernel_rfl) m
noncomputable def B7_19(pc:PC)(k:Nat)(j20:(D→D→D→D→D→List D→Option D))(u1:D)(u8:D)(u14:D)(u15:D)(u16:D)(c3:List D):Option D:=
j20 u1 u8 u14 u15 u16 c3
noncomputable def C7_19:=B7_19 pc k (S7_20 pc k k)
theorem h7_19:T7_19 pc rk k=C7_19 pc k:=Eq.trans (b:=B7_19 pc k (T7_20 pc rk k k)) (by funext u1 u8 u14 u15 u16 c3; kernel_rfl) (by rw[q7_20]; rfl)
noncomputable def B7_18(pc:PC)(k:Nat)(j19:(D→D→D→D→D→List D→Option D))(u1:D)(u8:D)(u14:D)(u15:D)(c3:List D):Option D:=
j19 u1 u8 u14 u15 (D.v (Value.int IntKind.i64 0)) c3
noncomputable def C7_18:=B7_18 pc k (C7_19 pc k)
theorem h7_18:T7_18 pc rk k=C7_18 pc k:=Eq.trans (b:=B7_18 pc k (T7_19 pc rk k)) (by funext u1 u8 u14 u15 c3; kernel_rfl) (by rw[h7_19]; rfl)
noncomputable def B7_17(pc:PC)(k:Nat)(j18:(D→D→D→D→List D→Option D))(j25:(D→D→D→Option D))(u1:D)(u7:D)(u8:D)(u14:D)(u138:D)(c3:List D):Option D:=
ifU u138 (
bindO (elsD u7) fun l_16=>
bindO (binD P BinOp.sub 3 (Operand.tmp 141) (Operand.const (Value.int IntKind.i64 1)) (lenD l_16) (D.v (Value.int IntKind.i64 1))) fun d_17=>
bindO (elsD u7) fun l_18=>
bindO (idxD d_17 l_18.length) fun i_19=>
bindO (l_18[i_19]?) fun d_1a=>
chkK (bz d_1a) (
j18 u1 u8 u14 d_1a c3)) (
j25 u1 u8 u14)
noncomputable def C7_17:=B7_17 pc k (C7_18 pc k) (C7_25 pc k)
theorem h7_17:T7_17 pc rk k=C7_17 pc k:=Eq.trans (b:=B7_17 pc k (T7_18 pc rk k) (T7_25 pc rk k)) (by kernel_rfl) (by rw[h7_18,h7_25]; rfl)
noncomputable def B7_16(pc:PC)(k:Nat)(j17:(D→D→D→D→D→List D→Option D))(u1:D)(u7:D)(u8:D)(u14:D)(c3:List D):Option D:=
bindO (elsD u7) fun l_11=>
bindO (elsD u1) fun l_12=>
bindO (binD P BinOp.eql 3 (Operand.tmp 127) (Operand.tmp 129) (lenD l_11) (lenD l_12)) fun d_13=>
ifU d_13 (
bindO (elsD u1) fun l_14=>
bindO (binD P BinOp.gtr 3 (Operand.tmp 133) (Operand.const (Value.int IntKind.i64 0)) (lenD l_14) (D.v (Value.int IntKind.i64 0))) fun d_15=>
ifU d_15 (
j17 u1 u7 u8 u14 u14 c3) (
j17 u1 u7 u8 u14 (D.v (Value.bool false)) c3)) (
j17 u1 u7 u8 u14 (D.v (Value.bool false)) c3)
noncomputable def C7_16:=B7_16 pc k (C7_17 pc k)
theorem h7_16(u1:D)(u7:D)(u8:D)(u14:D)(c3:List D):T7_16 pc rk k u1 u7 u8 u14 c3=C7_16 pc k u1 u7 u8 u14 c3:=by
 have h:T7_16 pc rk k u1 u7 u8 u14 c3=B7_16 pc k (T7_17 pc rk k) u1 u7 u8 u14 c3:=by
  have s1:T7_16 pc rk k u1 u7 u8 u14 c3=opsA P pc noY (ntm P 7) (opsOf (cL (cL (cR (cR (cR (cR (cR (cR (cR (cR fy))))))))))) (opsOf (cL (cL (cR (cR (cR (cR (cR (cR (cR (cR fy))))))))))) (Tr.set (Tr.set (Tr.set (Tr.set (Tr.set Tr.nil 14 (some (AV.d u14))) 8 (some (AV.d u8))) 7 (some (AV.d u7))) 3 (some (AV.loc 3 0))) 1 (some (AV.d u1))) (Tr.set Tr.nil 3 (some (Bx.dat c3 false))) (bX (LvA.a (LvA.b (LvA.b (LvA.b (LvA.b (LvA.b (LvA.b (LvA.b (LvA.b (LA 7)))))))))).c (aW P pc noY rk (aq P pc noY rk 7 k) 7 (cR (cL (cR (cR (cR (cR (cR (cR (cR (cR fy)))))))))) (LvA.b (LvA.a (LvA.b (LvA.b (LvA.b (LvA.b (LvA.b (LvA.b (LvA.b (LvA.b (LA 7))))))))))) (mQ pc rk k) X0A (aw P cq))):=by kernel_rfl
  have s2:∀ kk:KA,opsA P pc noY (ntm P 7) (opsOf (cL (cL (cR (cR (cR (cR (cR (cR (cR (cR fy))))))))))) (opsOf (cL (cL (cR (cR (cR (cR (cR (cR (cR (cR fy))))))))))) (Tr.set (Tr.set (Tr.set (Tr.set (Tr.set Tr.nil 14 (some (AV.d u14))) 8 (some (AV.d u8))) 7 (some (AV.d u7))) 3 (some (AV.loc 3 0))) 1 (some (AV.d u1))) (Tr.set Tr.nil 3 (some (Bx.dat c3 false))) (bX (LvA.a (LvA.b (LvA.b (LvA.b (LvA.b (LvA.b (LvA.b (LvA.b (LvA.b (LA 7)))))))))).c kk)=B7_16 pc k (fun u1 u7 u8 u14 u138 c3=>labA kk (Tr.set (Tr.set (Tr.set (Tr.set (Tr.set (Tr.set Tr.nil 138 (some (AV.d u138))) 14 (some (AV.d u14))) 8 (some (AV.d u8))) 7 (some (AV.d u7))) 3 (some (AV.loc 3 0))) 1 (some (AV.d u1))) (Tr.set Tr.nil 3 (some (Bx.dat c3 false)))) u1 u7 u8 u14 c3:=by
   intro kk
   kernel_rfl
  exact s1.trans (s2 _)
 rw[h,C7_16]
 have e17:(T7_17 pc rk k)=(C7_17 pc k):=by rw [h7_17]
 rw[e17]
theorem f7_16:T7_16 pc rk k=C7_16 pc k:=by funext u1 u7 u8 u14 c3; exact h7_16 ..
noncomputable def B7_15(pc:PC)(k:Nat)(j16:(D→D→D→D→List D→Option D))(u1:D)(u7:D)(u8:D)(c3:List D):Option D:=
bindO (cutD c3 0 5) fun c_x=>
bindO (pcD P pc 18 [(D.agg c_x)]) fun d_y=>
bindO (pcD P pc 20 [u1]) fun d_z=>
bindO (pcD P pc 40 [d_y,d_z,(D.v (Value.int IntKind.i64 8))]) fun d_10=>
j16 u1 u7 u8 d_10 c3
noncomputable def C7_15:=B7_15 pc k (C7_16 pc k)
theorem h7_15:T7_15 pc rk k=C7_15 pc k:=Eq.trans (b:=B7_15 pc k (T7_16 pc rk k)) (by kernel_rfl) (by rw[f7_16]; rfl)
noncomputable def B7_11(pc:PC)(k:Nat)(m1:Nat)(j12:(D→D→D→D→List D→Option D))(j15:(D→D→D→List D→Option D))(b10:(D→D→D→D→List D→Option D))(u1:D)(u7:D)(u8:D)(u13:D)(u108:D)(c3:List D):Option D:=
ifU u108 (
j12 u1 u7 u8 u13 c3) (
j15 u1 u7 u8 c3)
noncomputable def C7_11(m1:Nat)(b10:(D→D→D→D→List D→Option D)):=B7_11 pc k m1 (C7_12 pc k m1 b10) (C7_15 pc k) b10
theorem h7_11(m1:Nat):T7_11 pc rk k m1=C7_11 pc k m1 (Px pc rk k m1):=Eq.trans (b:=B7_11 pc k m1 (T7_12 pc rk k m1) (T7_15 pc rk k) (Px pc rk k m1)) (by kernel_rfl) (by rw[h7_12,h7_15]; rfl)
noncomputable def B7_10(pc:PC)(k:Nat)(m1:Nat)(j11:(D→D→D→D→D→List D→Option D))(b10:(D→D→D→D→List D→Option D))(u1:D)(u7:D)(u8:D)(u13:D)(c3:List D):Option D:=
bindO (elsD u7) fun l_m=>
bindO (binD P BinOp.lss 3 (Operand.tmp 105) (Operand.tmp 107) u13 (lenD l_m)) fun d_n=>
j11 u1 u7 u8 u13 d_n c3
noncomputable def C7_10(m1:Nat)(b10:(D→D→D→D→List D→Option D)):=B7_10 pc k m1 (C7_11 pc k m1 b10) b10
noncomputable def S7_10:Nat→(D→D→D→D→List D→Option D):=recF (C7_10 pc k) (fun _ _ _ _ _=>none)
theorem h7_10(m1:Nat):T7_10 pc rk k m1=C7_10 pc k m1 (Px pc rk k m1):=Eq.trans (b:=B7_10 pc k m1 (T7_11 pc rk k m1) (Px pc rk k m1)) (by kernel_rfl) (by rw[h7_11]; rfl)
theorem q7_10(m:Nat):T7_10 pc rk k m=S7_10 pc k m:=recS (h7_10 pc rk k) (by kernel_rfl) (fun m=>by kernel_rfl) m
noncomputable def B7_9(pc:PC)(k:Nat)(j10:(D→D→D→D→List D→Option D))(u1:D)(u7:D)(u8:D)(u13:D)(c3:List D):Option D:=
j10 u1 u7 u8 u13 c3
noncomputable def C7_9:=B7_9 pc k (S7_10 pc k k)
theorem h7_9:T7_9 pc rk k=C7_9 pc k:=Eq.trans (b:=B7_9 pc k (T7_10 pc rk k k)) (by funext u1 u7 u8 u13 c3; kernel_rfl) (by rw[q7_10]; rfl)
noncomputable def B7_8(pc:PC)(k:Nat)(j9:(D→D→D→D→List D→Option D))(u1:D)(u7:D)(u8:D)(c3:List D):Option D:=
j9 u1 u7 u8 (D.v (Value.int IntKind.i64 0)) c3
noncomputable def C7_8:=B7_8 pc k (C7_9 pc k)
theorem h7_8:T7_8 pc rk k=C7_8 pc k:=Eq.trans (b:=B7_8 pc k (T7_9 pc rk k)) (by funext u1 u7 u8 c3; kernel_rfl) (by rw[h7_9]; rfl)
noncomputable def B7_7(pc:PC)(k:Nat)(j8:(D→D→D→List D→Option D))(u1:D)(u7:D)(u8:D)(u104:D)(c3:List D):Option D:=
ifU u104 (
some (D.v (Value.bool false))) (
j8 u1 u7 u8 c3)
noncomputable def C7_7:=B7_7 pc k (C7_8 pc k)
theorem h7_7:T7_7 pc rk k=C7_7 pc k:=Eq.trans (b:=B7_7 pc k (T7_8 pc rk k)) (by kernel_rfl) (by rw[h7_8]; rfl)
noncomputable def B7_6(pc:PC)(k:Nat)(j7:(D→D→D→D→List D→Option D))(u1:D)(u7:D)(u8:D)(u9:D)(u10:D)(u11:D)(u12:D)(c3:List D):Option D:=
bindO (binD P BinOp.neq 33 (Operand.tmp 49) (Operand.const (Value.int IntKind.i64 0)) u9 (D.v (Value.int IntKind.i64 0))) fun d_l=>
ifU d_l (
j7 u1 u7 u8 (D.v (Value.bool true)) c3) (
bindO (elsD u8) fun l_1w=>
bindO (elsD u1) fun l_1x=>
bindO (binD P BinOp.add 3 (Operand.tmp 55) (Operand.const (Value.int IntKind.i64 1)) (lenD l_1x) (D.v (Value.int IntKind.i64 1))) fun d_1y=>
bindO (binD P BinOp.neq 3 (Operand.tmp 53) (Operand.tmp 56) (lenD l_1w) d_1y) fun d_1z=>
ifU d_1z (
j7 u1 u7 u8 (D.v (Value.bool true)) c3) (
bindO (binD P BinOp.neq 33 (Operand.tmp 60) (Operand.const (Value.int IntKind.i64 0)) u12 (D.v (Value.int IntKind.i64 0))) fun d_20=>
ifU d_20 (
j7 u1 u7 u8 (D.v (Value.bool true)) c3) (
bindO (cutD c3 0 5) fun c_21=>
bindO (pcD P pc 30 [(D.agg c_21),u7]) fun d_22=>
bindO (binD P BinOp.gtr 3 (Operand.tmp 66) (Operand.tmp 67) d_22 u10) fun d_23=>
ifU d_23 (
j7 u1 u7 u8 (D.v (Value.bool true)) c3) (
bindO (cutD c3 0 5) fun c_24=>
bindO (cutD c3 0 5) fun c_25=>
bindO (pcD P pc 18 [(D.agg c_24)]) fun d_26=>
bindO (pcD P pc 20 [u1]) fun d_27=>
bindO (pcD P pc 27 [u7]) fun d_28=>
bindO (pcD P pc 30 [(D.agg c_25),u7]) fun d_29=>
bindO (pcD P pc 26 [d_26,d_27,d_28,d_29]) fun d_2a=>
bindO (semD P d_2a (Op.unary UnOp.not)) fun d_2b=>
ifU d_2b (
j7 u1 u7 u8 (D.v (Value.bool true)) c3) (
bindO (cutD c3 0 5) fun c_2c=>
bindO (pcD P pc 18 [(D.agg c_2c)]) fun d_2d=>
bindO (pcD P pc 20 [u1]) fun d_2e=>
bindO (pcD P pc 27 [u11]) fun d_2f=>
bindO (pcD P pc 26 [d_2d,d_2e,d_2f,u10]) fun d_2g=>
bindO (semD P d_2g (Op.unary UnOp.not)) fun d_2h=>
ifU d_2h (
j7 u1 u7 u8 (D.v (Value.bool true)) c3) (
bindO (cutD c3 0 5) fun c_2i=>
bindO (binD P BinOp.add 3 (Operand.tmp 101) (Operand.const (Value.int IntKind.i64 1)) u10 (D.v (Value.int IntKind.i64 1))) fun d_2j=>
bindO (pcD P pc 18 [(D.agg c_2i)]) fun d_2k=>
bindO (pcD P pc 20 [u1]) fun d_2l=>
bindO (pcD P pc 27 [u7]) fun d_2m=>
bindO (pcD P pc 26 [d_2k,d_2l,d_2m,d_2j]) fun d_2n=>
j7 u1 u7 u8 d_2n c3))))))
noncomputable def C7_6:=B7_6 pc k (C7_7 pc k)
theorem h7_6:T7_6 pc rk k=C7_6 pc k:=Eq.trans (b:=B7_6 pc k (T7_7 pc rk k)) (by kernel_rfl) (by rw[h7_7]; rfl)
noncomputable def B7_5(pc:PC)(k:Nat)(j6:(D→D→D→D→D→D→D→List D→Option D))(u1:D)(u7:D)(u8:D)(u9:D)(c3:List D):Option D:=
bindO (cutD c3 0 5) fun c_e=>
bindO (pcD P pc 18 [(D.agg c_e)]) fun d_f=>
bindO (pcD P pc 20 [u1]) fun d_g=>
bindO (pcD P pc 25 [d_f,d_g]) fun d_h=>
bindO (tupD d_h 0) fun d_i=>
bindO (tupD d_h 1) fun d_j=>
bindO (tupD d_h 2) fun d_k=>
j6 u1 u7 u8 u9 d_i d_j d_k c3
noncomputable def C7_5:=B7_5 pc k (C7_6 pc k)
theorem h7_5:T7_5 pc rk k=C7_5 pc k:=Eq.trans (b:=B7_5 pc k (T7_6 pc rk k)) (by kernel_rfl) (by rw[h7_6]; rfl)
noncomputable def B7_4(pc:PC)(k:Nat)(j5:(D→D→D→D→List D→Option D))(u1:D)(u7:D)(c3:List D):Option D:=
bindO (cutD c3 0 5) fun c_8=>
bindO (pcD P pc 18 [(D.agg c_8)]) fun d_9=>
bindO (pcD P pc 20 [u1]) fun d_a=>
bindO (pcD P pc 19 [d_9,d_a]) fun d_b=>
bindO (tupD d_b 0) fun d_c=>
bindO (tupD d_b 1) fun d_d=>
j5 u1 u7 d_c d_d c3
noncomputable def C7_4:=B7_4 pc k (C7_5 pc k)
theorem h7_4:T7_4 pc rk k=C7_4 pc k:=Eq.trans (b:=B7_4 pc k (T7_5 pc rk k)) (by kernel_rfl) (by rw[h7_5]; rfl)
noncomputable def B7_3(pc:PC)(k:Nat)(j4:(D→D→List D→Option D))(u1:D)(u2:D)(c3:List D):Option D:=
bindO (cutD c3 0 5) fun c_6=>
bindO (pcD P pc 38 [(D.agg c_6),u1,u2]) fun d_7=>
j4 u1 d_7 c3
noncomputable def C7_3:=B7_3 pc k (C7_4 pc k)
theorem h7_3:T7_3 pc rk k=C7_3 pc k:=Eq.trans (b:=B7_3 pc k (T7_4 pc rk k)) (by kernel_rfl) (by rw[h7_4]; rfl)
noncomputable def B7_2(pc:PC)(k:Nat)(j3:(D→D→List D→Option D))(u1:D)(u2:D)(u26:D)(c3:List D):Option D:=
ifU u26 (
bindO (pcD P pc 16 []) fun d_5=>
some d_5) (
j3 u1 u2 c3)
noncomputable def C7_2:=B7_2 pc k (C7_3 pc k)
theorem h7_2:T7_2 pc rk k=C7_2 pc k:=Eq.trans (b:=B7_2 pc k (T7_3 pc rk k)) (by kernel_rfl) (by rw[h7_3]; rfl)
noncomputable def B7_1(pc:PC)(k:Nat)(j2:(D→D→D→List D→Option D))(u1:D)(u2:D)(c3:List D):Option D:=
bindO (cutD c3 0 5) fun c_2=>
bindO (pcD P pc 37 [(D.agg c_2),u1]) fun d_3=>
bindO (semD P d_3 (Op.unary UnOp.not)) fun d_4=>
ifU d_4 (
j2 u1 u2 (D.v (Value.bool true)) c3) (
bindO (c3[3]?) fun d_2o=>
bindO (elsD d_2o) fun l_2p=>
bindO (binD P BinOp.eql 3 (Operand.tmp 24) (Operand.const (Value.int IntKind.i64 0)) (lenD l_2p) (D.v (Value.int IntKind.i64 0))) fun d_2q=>
j2 u1 u2 d_2q c3)
noncomputable def C7_1:=B7_1 pc k (C7_2 pc k)
theorem h7_1:T7_1 pc rk k=C7_1 pc k:=Eq.trans (b:=B7_1 pc k (T7_2 pc rk k)) (by kernel_rfl) (by rw[h7_2]; rfl)
noncomputable def B7_0(pc:PC)(k:Nat)(j1:(D→D→List D→Option D))(v0:D)(v1:D)(v2:D):Option D:=
bindO (aggD v0) fun c_1=>
j1 v1 v2 c_1
noncomputable def C7_0:=B7_0 pc k (C7_1 pc k)
theorem h7_0(v0:D)(v1:D)(v2:D):cJ P pc noY rk LA (k+1) 7 [v0,v1,v2]=C7_0 pc k v0 v1 v2:=(bqA Go.Proofs.Tryz.f7 fy cq (by kernel_rfl)).trans (Eq.trans (b:=B7_0 pc k (T7_1 pc rk k) v0 v1 v2) (by kernel_rfl) (by rw[h7_1]; rfl))
noncomputable def code15:Code:=ak 15
noncomputable def results15:List ResultVar:=bw 15
noncomputable def B15_0(pc:PC)(k:Nat)(v0:D)(v1:D):Option D:=
bindO (aggD v0) fun c_1=>
bindO (cutD c_1 0 3) fun c_2=>
bindO (c_1[3]?) fun d_3=>
bindO (pcD P pc 51 [(D.agg c_2),d_3]) fun d_4=>
ifU d_4 (
bindO (c_1[4]?) fun d_5=>
bindO (elsD d_5) fun l_6=>
bindO (binD P BinOp.leq 3 (Operand.tmp 13) (Operand.const (Value.int IntKind.i64 11)) (lenD l_6) (D.v (Value.int IntKind.i64 11))) fun d_7=>
ifU d_7 (
bindO (pcD P pc 52 [v1]) fun d_8=>
some d_8) (
some (D.v (Value.bool false)))) (
some (D.v (Value.bool false)))
noncomputable def C15_0:=B15_0 pc k
theorem h15_0(v0:D)(v1:D):cJ P pc noY rk LA (k+1) 15 [v0,v1]=C15_0 pc k v0 v1:=(bqA Go.Proofs.Tryz.f15 code15 results15 (by kernel_rfl)).trans (by kernel_rfl)
noncomputable def code18:Code:=ak 18
noncomputable def results18:List ResultVar:=bw 18
noncomputable def B18_0(pc:PC)(k:Nat)(v0:D):Option D:=
bindO (aggD v0) fun c_1=>
bindO (cutD c_1 0 3) fun c_2=>
bindO (c_1[3]?) fun d_3=>
bindO (c_1[4]?) fun d_4=>
bindO (pcD P pc 56 [(D.agg c_2)]) fun d_5=>
bindO (pcD P pc 27 [d_3]) fun d_6=>
bindO (pcD P pc 27 [d_4]) fun d_7=>
bindO (Kw [(D.v (Value.slice none 0 0)),(D.v (Value.slice none 0 0)),(D.v (Value.slice none 0 0)),(D.v (Value.slice none 0 0)),(D.v (Value.slice none 0 0))] [(0,3,d_5),(3,1,d_6),(4,1,d_7)]) fun c_8=>
bindO (splD [(D.v (Value.slice none 0 0)),(D.v (Value.slice none 0 0)),(D.v (Value.slice none 0 0)),(D.v (Value.slice none 0 0)),(D.v (Value.slice none 0 0))] 0 c_8 5) fun c_9=>
bindO (cutD c_9 0 5) fun c_a=>
some (D.agg c_a)
noncomputable def C18_0:=B18_0 pc k
theorem h18_0(v0:D):cJ P pc noY rk LA (k+1) 18 [v0]=C18_0 pc k v0:=(bqA Go.Proofs.Tryz.f18 code18 results18 (by kernel_rfl)).trans (by kernel_rfl)
noncomputable def code19:Code:=ak 19
noncomputable def Rw:List ResultVar:=bw 19
noncomputable def B19_0(pc:PC)(k:Nat)(v0:D)(v1:D):Option D:=
bindO (aggD v0) fun c_1=>
bindO (cutD c_1 0 5) fun c_2=>
bindO (pcD P pc 57 [(D.agg c_2),v1]) fun d_3=>
bindO (tupD d_3 0) fun d_4=>
bindO (tupD d_3 1) fun d_5=>
bindO (tupD d_3 2) fun d_6=>
bindO (binD P BinOp.neq 33 (Operand.tmp 16) (Operand.const (Value.int IntKind.i64 0)) d_6 (D.v (Value.int IntKind.i64 0))) fun d_7=>
ifU d_7 (
some (D.tup [(D.v (Value.slice none 0 0)),d_6])) (
bindO (pcD P pc 59 [d_4,d_5]) fun d_8=>
bindO (pcD P pc 58 [d_8]) fun d_9=>
some (D.tup [d_9,(D.v (Value.int IntKind.i64 0))]))
noncomputable def C19_0:=B19_0 pc k
theorem h19_0(v0:D)(v1:D):cJ P pc noY rk LA (k+1) 19 [v0,v1]=C19_0 pc k v0 v1:=(bqA Go.Proofs.Tryz.f19 code19 Rw (by kernel_rfl)).trans (by kernel_rfl)
noncomputable def code20:Code:=ak 20
noncomputable def wZ:List ResultVar:=bw 20
noncomputable def K20_prr:KA:=(bX (LvA.b (LvA.b (LA 20))).c (aW P pc noY rk (aq P pc noY rk 20 k) 20 (cR (cR (cR code20))) (LvA.b (LvA.b (LvA.b (LA 20)))) (aw P wZ) X0A (aw P wZ)))
noncomputable def KV:(Nat→KA):=(upA 0 (K20_prr pc rk k) X0A)
noncomputable def K20_prrlrl(m1:Nat):KA:=(bX (LvA.a (LvA.b (LvA.a (LvA.b (LvA.b (LA 20)))))).c (aq P pc noY rk 20 m1 (LvA.a (LvA.b (LvA.a (LvA.b (LvA.b (LA 20)))))) (cL (cR (cL (cR (cR code20))))) (K20_prr pc rk k) (KV pc rk k) (aw P wZ)))
noncomputable def T20_1(m1:Nat):=fun(u0:D) (u4:D) (l18:List D)=>labA (aW P pc noY rk (aq P pc noY rk 20 m1) 20 (cL (cL (cR (cL (cR (cR code20)))))) (LvA.a (LvA.a (LvA.b (LvA.a (LvA.b (LvA.b (LA 20))))))) (K20_prrlrl pc rk k m1) (KV pc rk k) (aw P wZ)) (Tr.set (Tr.set (Tr.set Tr.nil 4 (some (AV.d u4))) 3 (some (AV.osl 18))) 0 (some (AV.d u0))) (Tr.set Tr.nil 18 (some (Bx.vec l18 27 1 false)))
noncomputable def R20_1(m1:Nat):(D→D→List D→Option D):=fun u0 u4 l18=>labA (aq P pc noY rk 20 m1 (LvA.a (LvA.b (LvA.a (LvA.b (LvA.b (LA 20)))))) (cL (cR (cL (cR (cR code20))))) (K20_prr pc rk k) (KV pc rk k) (aw P wZ)) (Tr.set (Tr.set (Tr.set Tr.nil 4 (some (AV.d u4))) 3 (some (AV.osl 18))) 0 (some (AV.d u0))) (Tr.set Tr.nil 18 (some (Bx.vec l18 27 1 false)))
noncomputable def B20_1(pc:PC)(k:Nat)(m1:Nat)(b1:(D→D→List D→Option D))(u0:D)(u4:D)(l18:List D):Option D:=
bindO (elsD u0) fun l_1=>
bindO (binD P BinOp.lss 3 (Operand.tmp 5) (Operand.tmp 7) u4 (lenD l_1)) fun d_2=>
ifU d_2 (
bindO (elsD u0) fun l_3=>
bindO (idxD u4 l_3.length) fun i_4=>
bindO (l_3[i_4]?) fun d_5=>
chkK (bz d_5) (
bindO (pcD P pc 27 [d_5]) fun d_6=>
chkK (bz d_6) (
bindO (appD l18 [d_6]) fun l_7=>
bindO (binD P BinOp.add 3 (Operand.tmp 9) (Operand.const (Value.int IntKind.i64 1)) u4 (D.v (Value.int IntKind.i64 1))) fun d_8=>
b1 u0 d_8 l_7))) (
some (D.sl l18))
noncomputable def C20_1(m1:Nat):=B20_1 pc k m1
noncomputable def S20_1:Nat→(D→D→List D→Option D):=recF (C20_1 pc k) (fun _ _ _=>none)
theorem h20_1(m1:Nat):T20_1 pc rk k m1=C20_1 pc k m1 (R20_1 pc rk k m1):=by kernel_rfl
theorem q20_1(m:Nat):T20_1 pc rk k m=S20_1 pc k m:=recS (h20_1 pc rk k) (by kernel_rfl) (fun m=>by kernel_rfl) m
noncomputable def B20_0(pc:PC)(k:Nat)(j1:(D→D→List D→Option D))(v0:D):Option D:=
j1 v0 (D.v (Value.int IntKind.i64 0)) []
noncomputable def C20_0:=B20_0 pc k (S20_1 pc k k)
theorem h20_0(v0:D):cJ P pc noY rk LA (k+1) 20 [v0]=C20_0 pc k v0:=(bqA Go.Proofs.Tryz.f20 code20 wZ (by kernel_rfl)).trans (Eq.trans (b:=B20_0 pc k (T20_1 pc rk k k) v0) (by kernel_rfl) (by rw[q20_1]; rfl))
noncomputable def code21:Code:=ak 21
noncomputable def results21:List ResultVar:=bw 21
noncomputable def B21_0(pc:PC)(k:Nat)(v0:D):Option D:=
bindO (aggD v0) fun c_1=>
bindO (cutD c_1 0 5) fun c_2=>
bindO (pcD P pc 60 [(D.agg c_2)]) fun d_3=>
some d_3
noncomputable def C21_0:=B21_0 pc k
theorem h21_0(v0:D):cJ P pc noY rk LA (k+1) 21 [v0]=C21_0 pc k v0:=(bqA Go.Proofs.Tryz.f21 code21 results21 (by kernel_rfl)).trans (by kernel_rfl)
noncomputable def code22:Code:=ak 22
noncomputable def results22:List ResultVar:=bw 22
noncomputable def B22_0(pc:PC)(k:Nat)(v0:D)(v1:D):Option D:=
bindO (aggD v0) fun c_1=>
bindO (cutD c_1 0 5) fun c_2=>
bindO (pcD P pc 21 [(D.agg c_2)]) fun d_3=>
bindO (binD P BinOp.neq 33 (Operand.tmp 8) (Operand.const (Value.int IntKind.i64 0)) d_3 (D.v (Value.int IntKind.i64 0))) fun d_4=>
ifU d_4 (
some d_3) (
bindO (cutD c_1 0 5) fun c_5=>
bindO (pcD P pc 61 [(D.agg c_5),v1]) fun d_6=>
some d_6)
noncomputable def C22_0:=B22_0 pc k
theorem h22_0(v0:D)(v1:D):cJ P pc noY rk LA (k+1) 22 [v0,v1]=C22_0 pc k v0 v1:=(bqA Go.Proofs.Tryz.f22 code22 results22 (by kernel_rfl)).trans (by kernel_rfl)
noncomputable def Ax:Code:=ak 23
noncomputable def kw:List ResultVar:=bw 23
noncomputable def CV:KA:=(bX (LvA.b (LvA.b (LA 23))).c (aW P pc noY rk (aq P pc noY rk 23 k) 23 (cR (cR (cR Ax))) (LvA.b (LvA.b (LvA.b (LA 23)))) (aw P kw) X0A (aw P kw)))
noncomputable def qk:(Nat→KA):=(upA 0 (CV pc rk k) X0A)
noncomputable def KW(m1:Nat):KA:=(bX (LvA.a (LvA.b (LvA.a (LvA.b (LvA.b (LA 23)))))).c (aq P pc noY rk 23 m1 (LvA.a (LvA.b (LvA.a (LvA.b (LvA.b (LA 23)))))) (cL (cR (cL (cR (cR Ax))))) (CV pc rk k) (qk pc rk k) (aw P kw)))
noncomputable def T23_1(m1:Nat):=fun(u0:D) (u1:D) (u5:D)=>labA (aW P pc noY rk (aq P pc noY rk 23 m1) 23 (cL (cL (cR (cL (cR (cR Ax)))))) (LvA.a (LvA.a (LvA.b (LvA.a (LvA.b (LvA.b (LA 23))))))) (KW pc rk k m1) (qk pc rk k) (aw P kw)) (Tr.set (Tr.set (Tr.set Tr.nil 5 (some (AV.d u5))) 1 (some (AV.d u1))) 0 (some (AV.d u0))) Tr.nil
noncomputable def R23_1(m1:Nat):(D→D→D→Option D):=fun u0 u1 u5=>labA (aq P pc noY rk 23 m1 (LvA.a (LvA.b (LvA.a (LvA.b (LvA.b (LA 23)))))) (cL (cR (cL (cR (cR Ax))))) (CV pc rk k) (qk pc rk k) (aw P kw)) (Tr.set (Tr.set (Tr.set Tr.nil 5 (some (AV.d u5))) 1 (some (AV.d u1))) 0 (some (AV.d u0))) Tr.nil
noncomputable def B23_1(pc:PC)(k:Nat)(m1:Nat)(b1:(D→D→D→Option D))(u0:D)(u1:D)(u5:D):Option D:=
bindO (elsD u0) fun l_4=>
bindO (binD P BinOp.lss 3 (Operand.tmp 11) (Operand.tmp 13) u5 (lenD l_4)) fun d_5=>
ifU d_5 (
bindO (elsD u0) fun l_6=>
bindO (idxD u5 l_6.length) fun i_7=>
bindO (l_6[i_7]?) fun d_8=>
chkK (bz d_8) (
bindO (elsD u1) fun l_9=>
bindO (idxD u5 l_9.length) fun i_a=>
bindO (l_9[i_a]?) fun d_b=>
chkK (bz d_b) (
bindO (pcD P pc 48 [d_8,d_b]) fun d_c=>
bindO (semD P d_c (Op.unary UnOp.not)) fun d_d=>
ifU d_d (
some (D.v (Value.bool false))) (
bindO (binD P BinOp.add 3 (Operand.tmp 15) (Operand.const (Value.int IntKind.i64 1)) u5 (D.v (Value.int IntKind.i64 1))) fun d_e=>
b1 u0 u1 d_e)))) (
some (D.v (Value.bool true)))
noncomputable def C23_1(m1:Nat):=B23_1 pc k m1
noncomputable def S23_1:Nat→(D→D→D→Option D):=recF (C23_1 pc k) (fun _ _ _=>none)
noncomputable def B23_0(pc:PC)(k:Nat)(j1:(D→D→D→Option D))(v0:D)(v1:D):Option D:=
bindO (elsD v0) fun l_1=>
bindO (elsD v1) fun l_2=>
bindO (binD P BinOp.neq 3 (Operand.tmp 7) (Operand.tmp 9) (lenD l_1) (lenD l_2)) fun d_3=>
ifU d_3 (
some (D.v (Value.bool false))) (
j1 v0 v1 (D.v (Value.int IntKind.i64 0)))
noncomputable def C23_0:=B23_0 pc k (S23_1 pc k k)
noncomputable def code25:Code:=ak 25
noncomputable def Rx:List ResultVar:=bw 25
noncomputable def B25_0(pc:PC)(k:Nat)(v0:D)(v1:D):Option D:=
bindO (aggD v0) fun c_1=>
bindO (cutD c_1 0 5) fun c_2=>
bindO (pcD P pc 57 [(D.agg c_2),v1]) fun d_3=>
bindO (tupD d_3 0) fun d_4=>
bindO (tupD d_3 1) fun d_5=>
bindO (tupD d_3 2) fun d_6=>
bindO (binD P BinOp.neq 33 (Operand.tmp 16) (Operand.const (Value.int IntKind.i64 0)) d_6 (D.v (Value.int IntKind.i64 0))) fun d_7=>
ifU d_7 (
some (D.tup [(D.v (Value.int IntKind.i64 0)),(D.v (Value.slice none 0 0)),d_6])) (
nilA (AV.d d_4) (
bindO (jV d_4) fun c_8=>
bindO ((List.drop 3 c_8)[0]?) fun d_9=>
bindO (elsD d_9) fun l_a=>
bindO (binD P BinOp.eql 3 (Operand.tmp 24) (Operand.const (Value.int IntKind.i64 0)) (lenD l_a) (D.v (Value.int IntKind.i64 0))) fun d_b=>
ifU d_b (
some (D.tup [(D.v (Value.int IntKind.i64 0)),(D.v (Value.slice none 0 0)),(D.v (Value.int IntKind.i64 7))])) (
bindO (pcD P pc 63 [d_4,d_5]) fun d_c=>
bindO (pcD P pc 64 [d_4,d_c]) fun d_d=>
some (D.tup [d_d,d_c,(D.v (Value.int IntKind.i64 0))]))))
noncomputable def C25_0:=B25_0 pc k
theorem h25_0(v0:D)(v1:D):cJ P pc noY rk LA (k+1) 25 [v0,v1]=C25_0 pc k v0 v1:=(bqA Go.Proofs.Tryz.f25 code25 Rx (by kernel_rfl)).trans (by kernel_rfl)
noncomputable def code26:Code:=ak 26
noncomputable def results26:List ResultVar:=bw 26
noncomputable def B26_0(pc:PC)(k:Nat)(v0:D)(v1:D)(v2:D)(v3:D):Option D:=
bindO (aggD v0) fun c_1=>
bindO (cutD c_1 0 5) fun c_2=>
bindO (pcD P pc 57 [(D.agg c_2),v1]) fun d_3=>
bindO (tupD d_3 0) fun d_4=>
bindO (tupD d_3 1) fun d_5=>
bindO (tupD d_3 2) fun d_6=>
bindO (binD P BinOp.eql 33 (Operand.tmp 19) (Operand.const (Value.int IntKind.i64 0)) d_6 (D.v (Value.int IntKind.i64 0))) fun d_7=>
ifU d_7 (
bindO (pcD P pc 65 [d_4,d_5,v2]) fun d_8=>
ifU d_8 (
bindO (pcD P pc 64 [d_4,v2]) fun d_9=>
bindO (binD P BinOp.geq 3 (Operand.tmp 30) (Operand.tmp 31) d_9 v3) fun d_a=>
some d_a) (
some (D.v (Value.bool false)))) (
some (D.v (Value.bool false)))
noncomputable def C26_0:=B26_0 pc k
theorem h26_0(v0:D)(v1:D)(v2:D)(v3:D):cJ P pc noY rk LA (k+1) 26 [v0,v1,v2,v3]=C26_0 pc k v0 v1 v2 v3:=(bqA Go.Proofs.Tryz.f26 code26 results26 (by kernel_rfl)).trans (by kernel_rfl)
noncomputable def code27:Code:=ak 27
noncomputable def results27:List ResultVar:=bw 27
noncomputable def B27_0(pc:PC)(k:Nat)(v0:D):Option D:=
bindO (elsD v0) fun l_1=>
chkK (l_1.all (szOk 1)) (
bindO (appD [] l_1) fun l_2=>
some (D.sl l_2))
noncomputable def C27_0:=B27_0 pc k
theorem h27_0(v0:D):cJ P pc noY rk LA (k+1) 27 [v0]=C27_0 pc k v0:=(bqA Go.Proofs.Tryz.f27 code27 results27 (by kernel_rfl)).trans (by kernel_rfl)
noncomputable def code30:Code:=ak 30
noncomputable def wK:List ResultVar:=bw 30
noncomputable def K30_prr:KA:=(bX (LvA.b (LvA.b (LA 30))).c (aW P pc noY rk (aq P pc noY rk 30 k) 30 (cR (cR (cR code30))) (LvA.b (LvA.b (LvA.b (LA 30)))) (aw P wK) X0A (aw P wK)))
noncomputable def KX:(Nat→KA):=(upA 0 (K30_prr pc rk k) X0A)
noncomputable def K30_prrlrl(m1:Nat):KA:=(bX (LvA.a (LvA.b (LvA.a (LvA.b (LvA.b (LA 30)))))).c (aq P pc noY rk 30 m1 (LvA.a (LvA.b (LvA.a (LvA.b (LvA.b (LA 30)))))) (cL (cR (cL (cR (cR code30))))) (K30_prr pc rk k) (KX pc rk k) (aw P wK)))
noncomputable def T30_1(m1:Nat):=fun(u1:D) (u5:D) (u6:D) (c2:List D)=>labA (aW P pc noY rk (aq P pc noY rk 30 m1) 30 (cL (cL (cR (cL (cR (cR code30)))))) (LvA.a (LvA.a (LvA.b (LvA.a (LvA.b (LvA.b (LA 30))))))) (K30_prrlrl pc rk k m1) (KX pc rk k) (aw P wK)) (Tr.set (Tr.set (Tr.set (Tr.set Tr.nil 6 (some (AV.d u6))) 5 (some (AV.d u5))) 2 (some (AV.loc 2 0))) 1 (some (AV.d u1))) (Tr.set Tr.nil 2 (some (Bx.dat c2 false)))
noncomputable def R30_1(m1:Nat):(D→D→D→List D→Option D):=fun u1 u5 u6 c2=>labA (aq P pc noY rk 30 m1 (LvA.a (LvA.b (LvA.a (LvA.b (LvA.b (LA 30)))))) (cL (cR (cL (cR (cR code30))))) (K30_prr pc rk k) (KX pc rk k) (aw P wK)) (Tr.set (Tr.set (Tr.set (Tr.set Tr.nil 6 (some (AV.d u6))) 5 (some (AV.d u5))) 2 (some (AV.loc 2 0))) 1 (some (AV.d u1))) (Tr.set Tr.nil 2 (some (Bx.dat c2 false)))
noncomputable def B30_1(pc:PC)(k:Nat)(m1:Nat)(b1:(D→D→D→List D→Option D))(u1:D)(u5:D)(u6:D)(c2:List D):Option D:=
bindO (elsD u1) fun l_2=>
bindO (binD P BinOp.lss 3 (Operand.tmp 7) (Operand.tmp 9) u6 (lenD l_2)) fun d_3=>
ifU d_3 (
bindO (c2[4]?) fun d_4=>
bindO (elsD u1) fun l_5=>
bindO (idxD u6 l_5.length) fun i_6=>
bindO (l_5[i_6]?) fun d_7=>
chkK (bz d_7) (
bindO (elsD d_4) fun l_8=>
bindO (idxD d_7 l_8.length) fun i_9=>
bindO (l_8[i_9]?) fun d_a=>
chkK (bz d_a) (
bindO (binD P BinOp.add 3 (Operand.tmp 13) (Operand.tmp 21) u5 d_a) fun d_b=>
bindO (binD P BinOp.add 3 (Operand.tmp 11) (Operand.const (Value.int IntKind.i64 1)) u6 (D.v (Value.int IntKind.i64 1))) fun d_c=>
b1 u1 d_b d_c c2))) (
some u5)
noncomputable def C30_1(m1:Nat):=B30_1 pc k m1
noncomputable def S30_1:Nat→(D→D→D→List D→Option D):=recF (C30_1 pc k) (fun _ _ _ _=>none)
theorem h30_1(m1:Nat):T30_1 pc rk k m1=C30_1 pc k m1 (R30_1 pc rk k m1):=by kernel_rfl
theorem q30_1(m:Nat):T30_1 pc rk k m=S30_1 pc k m:=recS (h30_1 pc rk k) (by kernel_rfl) (fun m=>by kernel_rfl) m
noncomputable def B30_0(pc:PC)(k:Nat)(j1:(D→D→D→List D→Option D))(v0:D)(v1:D):Option D:=
bindO (aggD v0) fun c_1=>
j1 v1 (D.v (Value.int IntKind.i64 0)) (D.v (Value.int IntKind.i64 0)) c_1
noncomputable def C30_0:=B30_0 pc k (S30_1 pc k k)
theorem h30_0(v0:D)(v1:D):cJ P pc noY rk LA (k+1) 30 [v0,v1]=C30_0 pc k v0 v1:=(bqA Go.Proofs.Tryz.f30 code30 wK (by kernel_rfl)).trans (Eq.trans (b:=B30_0 pc k (T30_1 pc rk k k) v0 v1) (by kernel_rfl) (by rw[q30_1]; rfl))
noncomputable def code35:Code:=ak 35
noncomputable def results35:List ResultVar:=bw 35
noncomputable def B35_0(pc:PC)(k:Nat)(v0:D)(v1:D)(v2:D):Option D:=
bindO (binD P BinOp.geq 3 (Operand.tmp 7) (Operand.tmp 8) v0 v1) fun d_1=>
ifU d_1 (
bindO (binD P BinOp.leq 3 (Operand.tmp 11) (Operand.tmp 12) v0 v2) fun d_2=>
some d_2) (
some (D.v (Value.bool false)))
noncomputable def C35_0:=B35_0 pc k
theorem h35_0(v0:D)(v1:D)(v2:D):cJ P pc noY rk LA (k+1) 35 [v0,v1,v2]=C35_0 pc k v0 v1 v2:=(bqA Go.Proofs.Tryz.f35 code35 results35 (by kernel_rfl)).trans (by kernel_rfl)
noncomputable def code37:Code:=ak 37
noncomputable def results37:List ResultVar:=bw 37
noncomputable def B37_0(pc:PC)(k:Nat)(v0:D)(v1:D):Option D:=
bindO (aggD v0) fun c_1=>
bindO (cutD c_1 0 5) fun c_2=>
bindO (pcD P pc 15 [(D.agg c_2),v1]) fun d_3=>
ifU d_3 (
bindO (cutD c_1 0 5) fun c_4=>
bindO (pcD P pc 22 [(D.agg c_4),v1]) fun d_5=>
bindO (binD P BinOp.eql 33 (Operand.tmp 11) (Operand.const (Value.int IntKind.i64 0)) d_5 (D.v (Value.int IntKind.i64 0))) fun d_6=>
some d_6) (
some (D.v (Value.bool false)))
noncomputable def C37_0:=B37_0 pc k
theorem h37_0(v0:D)(v1:D):cJ P pc noY rk LA (k+1) 37 [v0,v1]=C37_0 pc k v0 v1:=(bqA Go.Proofs.Tryz.f37 code37 results37 (by kernel_rfl)).trans (by kernel_rfl)
noncomputable def vJ:Code:=ak 38
noncomputable def iV:List ResultVar:=bw 38
noncomputable def qcq:KA:=(bX (LvA.b (LvA.b (LvA.b (LA 38)))).c (aW P pc noY rk (aq P pc noY rk 38 k) 38 (cR (cR (cR (cR vJ)))) (LvA.b (LvA.b (LvA.b (LvA.b (LA 38))))) (aw P iV) X0A (aw P iV)))
noncomputable def uX:(Nat→KA):=(upA 0 (qcq pc rk k) X0A)
noncomputable def K38_prrrlrl(m1:Nat):KA:=(bX (LvA.a (LvA.b (LvA.a (LvA.b (LvA.b (LvA.b (LA 38))))))).c (aq P pc noY rk 38 m1 (LvA.a (LvA.b (LvA.a (LvA.b (LvA.b (LvA.b (LA 38))))))) (cL (cR (cL (cR (cR (cR vJ)))))) (qcq pc rk k) (uX pc rk k) (aw P iV)))
noncomputable def K38_prrrlrllr(m1:Nat):KA:=(bX (LvA.b (LvA.a (LvA.a (LvA.b (LvA.a (LvA.b (LvA.b (LvA.b (LA 38))))))))).c (aW P pc noY rk (aq P pc noY rk 38 m1) 38 (cR (cR (cL (cL (cR (cL (cR (cR (cR vJ))))))))) (LvA.b (LvA.b (LvA.a (LvA.a (LvA.b (LvA.a (LvA.b (LvA.b (LvA.b (LA 38)))))))))) (K38_prrrlrl pc rk k m1) (uX pc rk k) (aw P iV)))
noncomputable def K38_pxrrrlrllrl(m1:Nat):(Nat→KA):=(upA 1 (K38_prrrlrllr pc rk k m1) (uX pc rk k))
noncomputable def sJ(m1:Nat):KA:=(bX (LvA.b (LvA.b (LvA.a (LvA.a (LvA.b (LvA.a (LvA.a (LvA.b (LvA.a (LvA.b (LvA.b (LvA.b (LA 38))))))))))))).c (aW P pc noY rk (aq P pc noY rk 38 m1) 38 (cR (cR (cR (cL (cL (cR (cL (cL (cR (cL (cR (cR (cR vJ))))))))))))) (LvA.b (LvA.b (LvA.b (LvA.a (LvA.a (LvA.b (LvA.a (LvA.a (LvA.b (LvA.a (LvA.b (LvA.b (LvA.b (LA 38)))))))))))))) (K38_prrrlrllr pc rk k m1) (K38_pxrrrlrllrl pc rk k m1) (aw P iV)))
noncomputable def kX(m1:Nat):(Nat→KA):=(upA 2 (sJ pc rk k m1) (K38_pxrrrlrllrl pc rk k m1))
noncomputable def K38_prrrlrllrllrrlrl(m1:Nat)(m2:Nat):KA:=(bX (LvA.a (LvA.b (LvA.a (LvA.b (LvA.b (LvA.a (LvA.a (LvA.b (LvA.a (LvA.a (LvA.b (LvA.a (LvA.b (LvA.b (LvA.b (LA 38)))))))))))))))).c (aq P pc noY rk 38 m2 (LvA.a (LvA.b (LvA.a (LvA.b (LvA.b (LvA.a (LvA.a (LvA.b (LvA.a (LvA.a (LvA.b (LvA.a (LvA.b (LvA.b (LvA.b (LA 38)))))))))))))))) (cL (cR (cL (cR (cR (cL (cL (cR (cL (cL (cR (cL (cR (cR (cR vJ))))))))))))))) (sJ pc rk k m1) (kX pc rk k m1) (aw P iV)))
noncomputable def T38_3(m1:Nat)(m2:Nat):=fun(u1:D) (u2:D) (u8:D) (u9:D) (u11:D) (c3:List D) (l31:List D) (l47:List D)=>labA (aW P pc noY rk (aq P pc noY rk 38 m2) 38 (cR (cR (cL (cL (cR (cL (cR (cR (cL (cL (cR (cL (cL (cR (cL (cR (cR (cR vJ)))))))))))))))))) (LvA.b (LvA.b (LvA.a (LvA.a (LvA.b (LvA.a (LvA.b (LvA.b (LvA.a (LvA.a (LvA.b (LvA.a (LvA.a (LvA.b (LvA.a (LvA.b (LvA.b (LvA.b (LA 38))))))))))))))))))) (K38_prrrlrllrllrrlrl pc rk k m1 m2) (kX pc rk k m1) (aw P iV)) (Tr.set (Tr.set (Tr.set (Tr.set (Tr.set (Tr.set (Tr.set (Tr.set Tr.nil 11 (some (AV.d u11))) 10 (some (AV.osl 47))) 9 (some (AV.d u9))) 8 (some (AV.d u8))) 7 (some (AV.osl 31))) 3 (some (AV.loc 3 0))) 2 (some (AV.d u2))) 1 (some (AV.d u1))) (Tr.set (Tr.set (Tr.set Tr.nil 47 (some (Bx.vec l47 3 1 false))) 31 (some (Bx.vec l31 3 1 false))) 3 (some (Bx.dat c3 false)))
noncomputable def T38_4:=fun(l31:List D)=>labA (aW P pc noY rk (aq P pc noY rk 38 k) 38 (cR (cR (cR (cR vJ)))) (LvA.b (LvA.b (LvA.b (LvA.b (LA 38))))) (aw P iV) X0A (aw P iV)) (Tr.set Tr.nil 7 (some (AV.osl 31))) (Tr.set Tr.nil 31 (some (Bx.vec l31 3 1 false)))
noncomputable def T38_2(m1:Nat)(m2:Nat):=fun(u1:D) (u2:D) (u8:D) (u9:D) (u11:D) (c3:List D) (l31:List D) (l47:List D)=>labA (aW P pc noY rk (aq P pc noY rk 38 m2) 38 (cL (cL (cR (cL (cR (cR (cL (cL (cR (cL (cL (cR (cL (cR (cR (cR vJ)))))))))))))))) (LvA.a (LvA.a (LvA.b (LvA.a (LvA.b (LvA.b (LvA.a (LvA.a (LvA.b (LvA.a (LvA.a (LvA.b (LvA.a (LvA.b (LvA.b (LvA.b (LA 38))))))))))))))))) (K38_prrrlrllrllrrlrl pc rk k m1 m2) (kX pc rk k m1) (aw P iV)) (Tr.set (Tr.set (Tr.set (Tr.set (Tr.set (Tr.set (Tr.set (Tr.set Tr.nil 11 (some (AV.d u11))) 10 (some (AV.osl 47))) 9 (some (AV.d u9))) 8 (some (AV.d u8))) 7 (some (AV.osl 31))) 3 (some (AV.loc 3 0))) 2 (some (AV.d u2))) 1 (some (AV.d u1))) (Tr.set (Tr.set (Tr.set Tr.nil 47 (some (Bx.vec l47 3 1 false))) 31 (some (Bx.vec l31 3 1 false))) 3 (some (Bx.dat c3 false)))
noncomputable def R38_2(m1:Nat)(m2:Nat):(D→D→D→D→D→List D→List D→List D→Option D):=fun u1 u2 u8 u9 u11 c3 l31 l47=>labA (aq P pc noY rk 38 m2 (LvA.a (LvA.b (LvA.a (LvA.b (LvA.b (LvA.a (LvA.a (LvA.b (LvA.a (LvA.a (LvA.b (LvA.a (LvA.b (LvA.b (LvA.b (LA 38)))))))))))))))) (cL (cR (cL (cR (cR (cL (cL (cR (cL (cL (cR (cL (cR (cR (cR vJ))))))))))))))) (sJ pc rk k m1) (kX pc rk k m1) (aw P iV)) (Tr.set (Tr.set (Tr.set (Tr.set (Tr.set (Tr.set (Tr.set (Tr.set Tr.nil 11 (some (AV.d u11))) 10 (some (AV.osl 47))) 9 (some (AV.d u9))) 8 (some (AV.d u8))) 7 (some (AV.osl 31))) 3 (some (AV.loc 3 0))) 2 (some (AV.d u2))) 1 (some (AV.d u1))) (Tr.set (Tr.set (Tr.set Tr.nil 47 (some (Bx.vec l47 3 1 false))) 31 (some (Bx.vec l31 3 1 false))) 3 (some (Bx.dat c3 false)))
noncomputable def T38_1(m1:Nat):=fun(u1:D) (u2:D) (u8:D) (u9:D) (c3:List D) (l31:List D)=>labA (aW P pc noY rk (aq P pc noY rk 38 m1) 38 (cL (cL (cR (cL (cR (cR (cR vJ))))))) (LvA.a (LvA.a (LvA.b (LvA.a (LvA.b (LvA.b (LvA.b (LA 38)))))))) (K38_prrrlrl pc rk k m1) (uX pc rk k) (aw P iV)) (Tr.set (Tr.set (Tr.set (Tr.set (Tr.set (Tr.set Tr.nil 9 (some (AV.d u9))) 8 (some (AV.d u8))) 7 (some (AV.osl 31))) 3 (some (AV.loc 3 0))) 2 (some (AV.d u2))) 1 (some (AV.d u1))) (Tr.set (Tr.set Tr.nil 31 (some (Bx.vec l31 3 1 false))) 3 (some (Bx.dat c3 false)))
noncomputable def R38_1(m1:Nat):(D→D→D→D→List D→List D→Option D):=fun u1 u2 u8 u9 c3 l31=>labA (aq P pc noY rk 38 m1 (LvA.a (LvA.b (LvA.a (LvA.b (LvA.b (LvA.b (LA 38))))))) (cL (cR (cL (cR (cR (cR vJ)))))) (qcq pc rk k) (uX pc rk k) (aw P iV)) (Tr.set (Tr.set (Tr.set (Tr.set (Tr.set (Tr.set Tr.nil 9 (some (AV.d u9))) 8 (some (AV.d u8))) 7 (some (AV.osl 31))) 3 (some (AV.loc 3 0))) 2 (some (AV.d u2))) 1 (some (AV.d u1))) (Tr.set (Tr.set Tr.nil 31 (some (Bx.vec l31 3 1 false))) 3 (some (Bx.dat c3 false)))
noncomputable def B38_3(pc:PC)(k:Nat)(m1:Nat)(m2:Nat)(b1:(D→D→D→D→List D→List D→Option D))(b2:(D→D→D→D→D→List D→List D→List D→Option D))(u1:D)(u2:D)(u8:D)(u9:D)(u11:D)(c3:List D)(l31:List D)(l47:List D):Option D:=
bindO (binD P BinOp.add 3 (Operand.tmp 38) (Operand.const (Value.int IntKind.i64 1)) u11 (D.v (Value.int IntKind.i64 1))) fun d_j=>
b2 u1 u2 u8 u9 d_j c3 l31 l47
noncomputable def C38_3(m1:Nat):=B38_3 pc k m1
theorem h38_3(m1:Nat)(m2:Nat):T38_3 pc rk k m1 m2=C38_3 pc k m1 m2 (R38_1 pc rk k m1) (R38_2 pc rk k m1 m2):=by kernel_rfl
noncomputable def B38_4(pc:PC)(k:Nat)(l31:List D):Option D:=
some (D.sl l31)
noncomputable def C38_4:=B38_4 pc k
theorem h38_4:T38_4 pc rk k=C38_4 pc k:=by kernel_rfl
noncomputable def B38_2(pc:PC)(k:Nat)(m1:Nat)(m2:Nat)(j3:(D→D→D→D→D→List D→List D→List D→Option D))(j4:(List D→Option D))(b1:(D→D→D→D→List D→List D→Option D))(b2:(D→D→D→D→D→List D→List D→List D→Option D))(u1:D)(u2:D)(u8:D)(u9:D)(u11:D)(c3:List D)(l31:List D)(l47:List D):Option D:=
bindO (c3[0]?) fun d_d=>
bindO (elsD d_d) fun l_e=>
bindO (binD P BinOp.lss 3 (Operand.tmp 32) (Operand.tmp 36) u11 (lenD l_e)) fun d_f=>
ifU d_f (
bindO (cutD c3 0 5) fun c_g=>
bindO (pcD P pc 41 [(D.agg c_g),u8,u11]) fun d_h=>
ifU d_h (
chkK (bz u11) (
bindO (appD l47 [u11]) fun l_i=>
j3 u1 u2 u8 u9 u11 c3 l31 l_i)) (
j3 u1 u2 u8 u9 u11 c3 l31 l47)) (
bindO (binD P BinOp.add 3 (Operand.tmp 50) (Operand.const (Value.int IntKind.i64 1)) u9 (D.v (Value.int IntKind.i64 1))) fun d_k=>
bindO (pcD P pc 72 [u2,d_k]) fun d_l=>
bindO (binD P BinOp.rem 3 (Operand.tmp 52) (Operand.tmp 54) d_l (lenD l47)) fun d_m=>
bindO (idxD d_m l47.length) fun i_n=>
bindO (l47[i_n]?) fun d_o=>
chkK (bz d_o) (
bindO (elsD u1) fun l_p=>
bindO (idxD u9 l_p.length) fun i_q=>
bindO (l_p[i_q]?) fun d_r=>
chkK (bz d_r) (
bindO (pcD P pc 39 [d_r,d_o]) fun d_s=>
ifU d_s (
j4 l31) (
bindO (binD P BinOp.add 3 (Operand.tmp 26) (Operand.const (Value.int IntKind.i64 1)) u9 (D.v (Value.int IntKind.i64 1))) fun d_t=>
b1 u1 u2 d_o d_t c3 l31))))
noncomputable def C38_2(m1:Nat)(m2:Nat)(b1:(D→D→D→D→List D→List D→Option D))(b2:(D→D→D→D→D→List D→List D→List D→Option D)):=B38_2 pc k m1 m2 (C38_3 pc k m1 m2 b1 b2) (C38_4 pc k) b1 b2
noncomputable def S38_2(m1:Nat)(b1:(D→D→D→D→List D→List D→Option D)):Nat→(D→D→D→D→D→List D→List D→List D→Option D):=fun m=>Nat.rec (motive:=fun _=>(D→D→D→D→D→List D→List D→List D→Option D)) (C38_2 pc k m1 0 b1 (fun _ _ _ _ _ _ _ _=>none)) (fun m ih=>C38_2 pc k m1 (m+1) b1 ih) m
theorem h38_2(m1:Nat)(m2:Nat):T38_2 pc rk k m1 m2=C38_2 pc k m1 m2 (R38_1 pc rk k m1) (R38_2 pc rk k m1 m2):=Eq.trans (b:=B38_2 pc k m1 m2 (T38_3 pc rk k m1 m2) (T38_4 pc rk k) (R38_1 pc rk k m1) (R38_2 pc rk k m1 m2)) (by kernel_rfl) (by rw[h38_3,h38_4]; rfl)
theorem q38_2(m1:Nat)(m:Nat):T38_2 pc rk k m1 m=S38_2 pc k m1 (R38_1 pc rk k m1) m:=recS (h38_2 pc rk k m1) (by kernel_rfl) (fun m=>by kernel_rfl) m
noncomputable def B38_1(pc:PC)(k:Nat)(m1:Nat)(j2:(D→D→D→D→D→List D→List D→List D→Option D))(j4:(List D→Option D))(b1:(D→D→D→D→List D→List D→Option D))(u1:D)(u2:D)(u8:D)(u9:D)(c3:List D)(l31:List D):Option D:=
bindO (elsD u1) fun l_a=>
bindO (binD P BinOp.lss 3 (Operand.tmp 22) (Operand.tmp 24) u9 (lenD l_a)) fun d_b=>
ifU d_b (
chkK (bz u8) (
bindO (appD l31 [u8]) fun l_c=>
j2 u1 u2 u8 u9 (D.v (Value.int IntKind.i64 0)) c3 l_c [])) (
j4 l31)
noncomputable def C38_1(m1:Nat)(b1:(D→D→D→D→List D→List D→Option D)):=B38_1 pc k m1 (S38_2 pc k m1 b1 m1) (C38_4 pc k) b1
noncomputable def Wz:Nat→(D→D→D→D→List D→List D→Option D):=recF (C38_1 pc k) (fun _ _ _ _ _ _=>none)
theorem h38_1(m1:Nat):T38_1 pc rk k m1=C38_1 pc k m1 (R38_1 pc rk k m1):=Eq.trans (b:=B38_1 pc k m1 (T38_2 pc rk k m1 m1) (T38_4 pc rk k) (R38_1 pc rk k m1)) (by kernel_rfl) (by rw[q38_2,h38_4]; rfl)
theorem q38_1(m:Nat):T38_1 pc rk k m=Wz pc k m:=recS (h38_1 pc rk k) (by kernel_rfl) (fun m=>by kernel_rfl) m
noncomputable def B38_0(pc:PC)(k:Nat)(j1:(D→D→D→D→List D→List D→Option D))(v0:D)(v1:D)(v2:D):Option D:=
bindO (aggD v0) fun c_1=>
bindO (c_1[3]?) fun d_2=>
bindO (c_1[3]?) fun d_3=>
bindO (elsD d_3) fun l_4=>
bindO (pcD P pc 72 [v2,(D.v (Value.int IntKind.i64 0))]) fun d_5=>
bindO (binD P BinOp.rem 3 (Operand.tmp 15) (Operand.tmp 18) d_5 (lenD l_4)) fun d_6=>
bindO (elsD d_2) fun l_7=>
bindO (idxD d_6 l_7.length) fun i_8=>
bindO (l_7[i_8]?) fun d_9=>
chkK (bz d_9) (
j1 v1 v2 d_9 (D.v (Value.int IntKind.i64 0)) c_1 [])
noncomputable def C38_0:=B38_0 pc k (Wz pc k k)
theorem h38_0(v0:D)(v1:D)(v2:D):cJ P pc noY rk LA (k+1) 38 [v0,v1,v2]=C38_0 pc k v0 v1 v2:=(bqA Go.Proofs.Tryz.f38 vJ iV (by kernel_rfl)).trans (Eq.trans (b:=B38_0 pc k (T38_1 pc rk k k) v0 v1 v2) (by kernel_rfl) (by rw[q38_1]; rfl))
noncomputable def code39:Code:=ak 39
noncomputable def xj:List ResultVar:=bw 39
noncomputable def K39_pr:KA:=(bX (LvA.b (LA 39)).c (aW P pc noY rk (aq P pc noY rk 39 k) 39 (cR (cR code39)) (LvA.b (LvA.b (LA 39))) (aw P xj) X0A (aw P xj)))
noncomputable def Ry:(Nat→KA):=(upA 0 (K39_pr pc rk k) X0A)
noncomputable def K39_prlrl(m1:Nat):KA:=(bX (LvA.a (LvA.b (LvA.a (LvA.b (LA 39))))).c (aq P pc noY rk 39 m1 (LvA.a (LvA.b (LvA.a (LvA.b (LA 39))))) (cL (cR (cL (cR code39)))) (K39_pr pc rk k) (Ry pc rk k) (aw P xj)))
noncomputable def T39_1(m1:Nat):=fun(u0:D) (u1:D) (u5:D)=>labA (aW P pc noY rk (aq P pc noY rk 39 m1) 39 (cL (cL (cR (cL (cR code39))))) (LvA.a (LvA.a (LvA.b (LvA.a (LvA.b (LA 39)))))) (K39_prlrl pc rk k m1) (Ry pc rk k) (aw P xj)) (Tr.set (Tr.set (Tr.set Tr.nil 5 (some (AV.d u5))) 1 (some (AV.d u1))) 0 (some (AV.d u0))) Tr.nil
noncomputable def R39_1(m1:Nat):(D→D→D→Option D):=fun u0 u1 u5=>labA (aq P pc noY rk 39 m1 (LvA.a (LvA.b (LvA.a (LvA.b (LA 39))))) (cL (cR (cL (cR code39)))) (K39_pr pc rk k) (Ry pc rk k) (aw P xj)) (Tr.set (Tr.set (Tr.set Tr.nil 5 (some (AV.d u5))) 1 (some (AV.d u1))) 0 (some (AV.d u0))) Tr.nil
noncomputable def B39_1(pc:PC)(k:Nat)(m1:Nat)(b1:(D→D→D→Option D))(u0:D)(u1:D)(u5:D):Option D:=
bindO (elsD u0) fun l_1=>
bindO (binD P BinOp.lss 3 (Operand.tmp 6) (Operand.tmp 8) u5 (lenD l_1)) fun d_2=>
ifU d_2 (
bindO (elsD u0) fun l_3=>
bindO (idxD u5 l_3.length) fun i_4=>
bindO (l_3[i_4]?) fun d_5=>
chkK (bz d_5) (
bindO (binD P BinOp.eql 3 (Operand.tmp 15) (Operand.tmp 16) d_5 u1) fun d_6=>
ifU d_6 (
some (D.v (Value.bool true))) (
bindO (binD P BinOp.add 3 (Operand.tmp 10) (Operand.const (Value.int IntKind.i64 1)) u5 (D.v (Value.int IntKind.i64 1))) fun d_7=>
b1 u0 u1 d_7))) (
some (D.v (Value.bool false)))
noncomputable def C39_1(m1:Nat):=B39_1 pc k m1
noncomputable def S39_1:Nat→(D→D→D→Option D):=recF (C39_1 pc k) (fun _ _ _=>none)
theorem h39_1(m1:Nat):T39_1 pc rk k m1=C39_1 pc k m1 (R39_1 pc rk k m1):=by kernel_rfl
theorem q39_1(m:Nat):T39_1 pc rk k m=S39_1 pc k m:=recS (h39_1 pc rk k) (by kernel_rfl) (fun m=>by kernel_rfl) m
noncomputable def B39_0(pc:PC)(k:Nat)(j1:(D→D→D→Option D))(v0:D)(v1:D):Option D:=
j1 v0 v1 (D.v (Value.int IntKind.i64 0))
noncomputable def C39_0:=B39_0 pc k (S39_1 pc k k)
theorem h39_0(v0:D)(v1:D):cJ P pc noY rk LA (k+1) 39 [v0,v1]=C39_0 pc k v0 v1:=(bqA Go.Proofs.Tryz.f39 code39 xj (by kernel_rfl)).trans (Eq.trans (b:=B39_0 pc k (T39_1 pc rk k k) v0 v1) (by kernel_rfl) (by rw[q39_1]; rfl))
noncomputable def code40:Code:=ak 40
noncomputable def results40:List ResultVar:=bw 40
noncomputable def B40_0(pc:PC)(k:Nat)(v0:D)(v1:D)(v2:D):Option D:=
bindO (aggD v0) fun c_1=>
bindO (cutD c_1 0 5) fun c_2=>
bindO (pcD P pc 57 [(D.agg c_2),v1]) fun d_3=>
bindO (tupD d_3 0) fun d_4=>
bindO (tupD d_3 1) fun d_5=>
bindO (tupD d_3 2) fun d_6=>
bindO (binD P BinOp.eql 33 (Operand.tmp 17) (Operand.const (Value.int IntKind.i64 0)) d_6 (D.v (Value.int IntKind.i64 0))) fun d_7=>
ifU d_7 (
bindO (pcD P pc 73 [d_4,d_5]) fun d_8=>
ifU d_8 (
bindO (pcD P pc 74 [d_5]) fun d_9=>
bindO (binD P BinOp.leq 3 (Operand.tmp 26) (Operand.tmp 27) d_9 v2) fun d_a=>
some d_a) (
some (D.v (Value.bool false)))) (
some (D.v (Value.bool false)))
noncomputable def C40_0:=B40_0 pc k
theorem h40_0(v0:D)(v1:D)(v2:D):cJ P pc noY rk LA (k+1) 40 [v0,v1,v2]=C40_0 pc k v0 v1 v2:=(bqA Go.Proofs.Tryz.f40 code40 results40 (by kernel_rfl)).trans (by kernel_rfl)
noncomputable def code41:Code:=ak 41
noncomputable def results41:List ResultVar:=bw 41
noncomputable def B41_0(pc:PC)(k:Nat)(v0:D)(v1:D)(v2:D):Option D:=
bindO (aggD v0) fun c_1=>
bindO (binD P BinOp.eql 3 (Operand.tmp 7) (Operand.tmp 8) v1 v2) fun d_2=>
ifU d_2 (
some (D.v (Value.bool true))) (
bindO (cutD c_1 0 3) fun c_3=>
bindO (pcD P pc 75 [(D.agg c_3),v1,v2]) fun d_4=>
some d_4)
noncomputable def C41_0:=B41_0 pc k
theorem h41_0(v0:D)(v1:D)(v2:D):cJ P pc noY rk LA (k+1) 41 [v0,v1,v2]=C41_0 pc k v0 v1 v2:=(bqA Go.Proofs.Tryz.f41 code41 results41 (by kernel_rfl)).trans (by kernel_rfl)
noncomputable def Ay:Code:=ak 48
noncomputable def kz:List ResultVar:=bw 48
noncomputable def CW:KA:=(bX (LvA.b (LvA.b (LA 48))).c (aW P pc noY rk (aq P pc noY rk 48 k) 48 (cR (cR (cR Ay))) (LvA.b (LvA.b (LvA.b (LA 48)))) (aw P kz) X0A (aw P kz)))
noncomputable def qJ:(Nat→KA):=(upA 0 (CW pc rk k) X0A)
noncomputable def KY(m1:Nat):KA:=(bX (LvA.a (LvA.b (LvA.a (LvA.b (LvA.b (LA 48)))))).c (aq P pc noY rk 48 m1 (LvA.a (LvA.b (LvA.a (LvA.b (LvA.b (LA 48)))))) (cL (cR (cL (cR (cR Ay))))) (CW pc rk k) (qJ pc rk k) (aw P kz)))
noncomputable def T48_1(m1:Nat):=fun(u0:D) (u1:D) (u5:D)=>labA (aW P pc noY rk (aq P pc noY rk 48 m1) 48 (cL (cL (cR (cL (cR (cR Ay)))))) (LvA.a (LvA.a (LvA.b (LvA.a (LvA.b (LvA.b (LA 48))))))) (KY pc rk k m1) (qJ pc rk k) (aw P kz)) (Tr.set (Tr.set (Tr.set Tr.nil 5 (some (AV.d u5))) 1 (some (AV.d u1))) 0 (some (AV.d u0))) Tr.nil
noncomputable def R48_1(m1:Nat):(D→D→D→Option D):=fun u0 u1 u5=>labA (aq P pc noY rk 48 m1 (LvA.a (LvA.b (LvA.a (LvA.b (LvA.b (LA 48)))))) (cL (cR (cL (cR (cR Ay))))) (CW pc rk k) (qJ pc rk k) (aw P kz)) (Tr.set (Tr.set (Tr.set Tr.nil 5 (some (AV.d u5))) 1 (some (AV.d u1))) 0 (some (AV.d u0))) Tr.nil
noncomputable def B48_1(pc:PC)(k:Nat)(m1:Nat)(b1:(D→D→D→Option D))(u0:D)(u1:D)(u5:D):Option D:=
bindO (elsD u0) fun l_4=>
bindO (binD P BinOp.lss 3 (Operand.tmp 11) (Operand.tmp 13) u5 (lenD l_4)) fun d_5=>
ifU d_5 (
bindO (elsD u0) fun l_6=>
bindO (idxD u5 l_6.length) fun i_7=>
bindO (l_6[i_7]?) fun d_8=>
chkK (bz d_8) (
bindO (elsD u1) fun l_9=>
bindO (idxD u5 l_9.length) fun i_a=>
bindO (l_9[i_a]?) fun d_b=>
chkK (bz d_b) (
bindO (binD P BinOp.neq 3 (Operand.tmp 20) (Operand.tmp 24) d_8 d_b) fun d_c=>
ifU d_c (
some (D.v (Value.bool false))) (
bindO (binD P BinOp.add 3 (Operand.tmp 15) (Operand.const (Value.int IntKind.i64 1)) u5 (D.v (Value.int IntKind.i64 1))) fun d_d=>
b1 u0 u1 d_d)))) (
some (D.v (Value.bool true)))
noncomputable def C48_1(m1:Nat):=B48_1 pc k m1
noncomputable def S48_1:Nat→(D→D→D→Option D):=recF (C48_1 pc k) (fun _ _ _=>none)
noncomputable def B48_0(pc:PC)(k:Nat)(j1:(D→D→D→Option D))(v0:D)(v1:D):Option D:=
bindO (elsD v0) fun l_1=>
bindO (elsD v1) fun l_2=>
bindO (binD P BinOp.neq 3 (Operand.tmp 7) (Operand.tmp 9) (lenD l_1) (lenD l_2)) fun d_3=>
ifU d_3 (
some (D.v (Value.bool false))) (
j1 v0 v1 (D.v (Value.int IntKind.i64 0)))
noncomputable def C48_0:=B48_0 pc k (S48_1 pc k k)
noncomputable def code51:Code:=ak 51
noncomputable def results51:List ResultVar:=bw 51
noncomputable def B51_0(pc:PC)(k:Nat)(v0:D)(v1:D):Option D:=
bindO (aggD v0) fun c_1=>
bindO (c_1[0]?) fun d_2=>
bindO (elsD d_2) fun l_3=>
bindO (binD P BinOp.leq 3 (Operand.tmp 7) (Operand.const (Value.int IntKind.i64 11)) (lenD l_3) (D.v (Value.int IntKind.i64 11))) fun d_4=>
ifU d_4 (
bindO (c_1[1]?) fun d_5=>
bindO (elsD d_5) fun l_6=>
bindO (binD P BinOp.leq 3 (Operand.tmp 12) (Operand.const (Value.int IntKind.i64 19)) (lenD l_6) (D.v (Value.int IntKind.i64 19))) fun d_7=>
ifU d_7 (
bindO (c_1[2]?) fun d_8=>
bindO (elsD d_8) fun l_9=>
bindO (binD P BinOp.leq 3 (Operand.tmp 18) (Operand.const (Value.int IntKind.i64 6)) (lenD l_9) (D.v (Value.int IntKind.i64 6))) fun d_a=>
ifU d_a (
bindO (elsD v1) fun l_b=>
bindO (binD P BinOp.leq 3 (Operand.tmp 23) (Operand.const (Value.int IntKind.i64 11)) (lenD l_b) (D.v (Value.int IntKind.i64 11))) fun d_c=>
some d_c) (
some (D.v (Value.bool false)))) (
some (D.v (Value.bool false)))) (
some (D.v (Value.bool false)))
noncomputable def C51_0:=B51_0 pc k
theorem h51_0(v0:D)(v1:D):cJ P pc noY rk LA (k+1) 51 [v0,v1]=C51_0 pc k v0 v1:=(bqA Go.Proofs.Tryz.f51 code51 results51 (by kernel_rfl)).trans (by kernel_rfl)
noncomputable def KZ:Code:=ak 52
noncomputable def rK:List ResultVar:=bw 52
noncomputable def K52_pr:KA:=(bX (LvA.b (LA 52)).c (aW P pc noY rk (aq P pc noY rk 52 k) 52 (cR (cR KZ)) (LvA.b (LvA.b (LA 52))) (aw P rK) X0A (aw P rK)))
noncomputable def Bw:(Nat→KA):=(upA 0 (K52_pr pc rk k) X0A)
noncomputable def K52_prlrl(m1:Nat):KA:=(bX (LvA.a (LvA.b (LvA.a (LvA.b (LA 52))))).c (aq P pc noY rk 52 m1 (LvA.a (LvA.b (LvA.a (LvA.b (LA 52))))) (cL (cR (cL (cR KZ)))) (K52_pr pc rk k) (Bw pc rk k) (aw P rK)))
noncomputable def K52_prlrll(m1:Nat):KA:=(bX (LvA.a (LvA.a (LvA.b (LvA.a (LvA.b (LA 52)))))).c (aW P pc noY rk (aq P pc noY rk 52 m1) 52 (cR (cL (cL (cR (cL (cR KZ)))))) (LvA.b (LvA.a (LvA.a (LvA.b (LvA.a (LvA.b (LA 52))))))) (K52_prlrl pc rk k m1) (Bw pc rk k) (aw P rK)))
noncomputable def T52_2(m1:Nat):=fun(u0:D) (u3:D) (u11:D)=>labA (aW P pc noY rk (aq P pc noY rk 52 m1) 52 (cR (cL (cL (cL (cR (cL (cR KZ))))))) (LvA.b (LvA.a (LvA.a (LvA.a (LvA.b (LvA.a (LvA.b (LA 52)))))))) (K52_prlrll pc rk k m1) (Bw pc rk k) (aw P rK)) (Tr.set (Tr.set (Tr.set Tr.nil 11 (some (AV.d u11))) 3 (some (AV.d u3))) 0 (some (AV.d u0))) Tr.nil
noncomputable def T52_1(m1:Nat):=fun(u0:D) (u3:D)=>labA (aW P pc noY rk (aq P pc noY rk 52 m1) 52 (cL (cL (cR (cL (cR KZ))))) (LvA.a (LvA.a (LvA.b (LvA.a (LvA.b (LA 52)))))) (K52_prlrl pc rk k m1) (Bw pc rk k) (aw P rK)) (Tr.set (Tr.set Tr.nil 3 (some (AV.d u3))) 0 (some (AV.d u0))) Tr.nil
noncomputable def R52_1(m1:Nat):(D→D→Option D):=fun u0 u3=>labA (aq P pc noY rk 52 m1 (LvA.a (LvA.b (LvA.a (LvA.b (LA 52))))) (cL (cR (cL (cR KZ)))) (K52_pr pc rk k) (Bw pc rk k) (aw P rK)) (Tr.set (Tr.set Tr.nil 3 (some (AV.d u3))) 0 (some (AV.d u0))) Tr.nil
noncomputable def B52_2(pc:PC)(k:Nat)(m1:Nat)(b1:(D→D→Option D))(u0:D)(u3:D)(u11:D):Option D:=
ifU u11 (
bindO (elsD u0) fun l_4=>
bindO (idxD u3 l_4.length) fun i_5=>
bindO (l_4[i_5]?) fun d_6=>
chkK (bz d_6) (
bindO (elsD d_6) fun l_7=>
bindO (binD P BinOp.gtr 3 (Operand.tmp 18) (Operand.const (Value.int IntKind.i64 11)) (lenD l_7) (D.v (Value.int IntKind.i64 11))) fun d_8=>
ifU d_8 (
some (D.v (Value.bool false))) (
bindO (binD P BinOp.add 3 (Operand.tmp 12) (Operand.const (Value.int IntKind.i64 1)) u3 (D.v (Value.int IntKind.i64 1))) fun d_9=>
b1 u0 d_9))) (
bindO (elsD u0) fun l_a=>
bindO (binD P BinOp.leq 3 (Operand.tmp 21) (Operand.const (Value.int IntKind.i64 310)) (lenD l_a) (D.v (Value.int IntKind.i64 310))) fun d_b=>
some d_b)
noncomputable def C52_2(m1:Nat):=B52_2 pc k m1
theorem h52_2(m1:Nat):T52_2 pc rk k m1=C52_2 pc k m1 (R52_1 pc rk k m1):=by kernel_rfl
noncomputable def B52_1(pc:PC)(k:Nat)(m1:Nat)(j2:(D→D→D→Option D))(b1:(D→D→Option D))(u0:D)(u3:D):Option D:=
bindO (elsD u0) fun l_1=>
bindO (binD P BinOp.lss 3 (Operand.tmp 4) (Operand.tmp 6) u3 (lenD l_1)) fun d_2=>
ifU d_2 (
bindO (binD P BinOp.lss 3 (Operand.tmp 9) (Operand.const (Value.int IntKind.i64 311)) u3 (D.v (Value.int IntKind.i64 311))) fun d_3=>
j2 u0 u3 d_3) (
j2 u0 u3 (D.v (Value.bool false)))
noncomputable def C52_1(m1:Nat)(b1:(D→D→Option D)):=B52_1 pc k m1 (C52_2 pc k m1 b1) b1
noncomputable def S52_1:Nat→(D→D→Option D):=recF (C52_1 pc k) (fun _ _=>none)
theorem h52_1(m1:Nat):T52_1 pc rk k m1=C52_1 pc k m1 (R52_1 pc rk k m1):=Eq.trans (b:=B52_1 pc k m1 (T52_2 pc rk k m1) (R52_1 pc rk k m1)) (by kernel_rfl) (by rw[h52_2]; rfl)
theorem q52_1(m:Nat):T52_1 pc rk k m=S52_1 pc k m:=recS (h52_1 pc rk k) (by kernel_rfl) (fun m=>by kernel_rfl) m
noncomputable def B52_0(pc:PC)(k:Nat)(j1:(D→D→Option D))(v0:D):Option D:=
j1 v0 (D.v (Value.int IntKind.i64 0))
noncomputable def C52_0:=B52_0 pc k (S52_1 pc k k)
theorem h52_0(v0:D):cJ P pc noY rk LA (k+1) 52 [v0]=C52_0 pc k v0:=(bqA Go.Proofs.Tryz.f52 KZ rK (by kernel_rfl)).trans (Eq.trans (b:=B52_0 pc k (T52_1 pc rk k k) v0) (by kernel_rfl) (by rw[q52_1]; rfl))
noncomputable def Rz:Code:=ak 55
noncomputable def sj:List ResultVar:=bw 55
noncomputable def K55_prr:KA:=(bX (LvA.b (LvA.b (LA 55))).c (aW P pc noY rk (aq P pc noY rk 55 k) 55 (cR (cR (cR Rz))) (LvA.b (LvA.b (LvA.b (LA 55)))) (aw P sj) X0A (aw P sj)))
noncomputable def T55_1:=fun(u30:D)=>labA (aW P pc noY rk (aq P pc noY rk 55 k) 55 (cR (cL (cR (cR Rz)))) (LvA.b (LvA.a (LvA.b (LvA.b (LA 55))))) (K55_prr pc rk k) X0A (aw P sj)) (Tr.set Tr.nil 30 (some (AV.d u30))) Tr.nil
noncomputable def B55_1(pc:PC)(k:Nat)(u30:D):Option D:=
ifU u30 (
some (D.v (Value.int IntKind.i64 1))) (
some (D.v (Value.int IntKind.i64 0)))
noncomputable def C55_1:=B55_1 pc k
theorem h55_1:T55_1 pc rk k=C55_1 pc k:=by kernel_rfl
noncomputable def B55_0(pc:PC)(k:Nat)(j1:(D→Option D))(v0:D):Option D:=
bindO (aggD v0) fun c_1=>
bindO (cutD c_1 0 3) fun c_2=>
bindO (pcD P pc 77 [(D.agg c_2)]) fun d_3=>
bindO (binD P BinOp.neq 33 (Operand.tmp 7) (Operand.const (Value.int IntKind.i64 0)) d_3 (D.v (Value.int IntKind.i64 0))) fun d_4=>
ifU d_4 (
some d_3) (
bindO (cutD c_1 0 5) fun c_5=>
bindO (c_1[3]?) fun d_6=>
bindO (pcD P pc 78 [(D.agg c_5),d_6]) fun d_7=>
bindO (semD P d_7 (Op.unary UnOp.not)) fun d_8=>
ifU d_8 (
j1 (D.v (Value.bool true))) (
bindO (c_1[4]?) fun d_9=>
bindO (elsD d_9) fun l_a=>
bindO (c_1[0]?) fun d_b=>
bindO (elsD d_b) fun l_c=>
bindO (binD P BinOp.neq 3 (Operand.tmp 18) (Operand.tmp 22) (lenD l_a) (lenD l_c)) fun d_d=>
ifU d_d (
j1 (D.v (Value.bool true))) (
bindO (c_1[4]?) fun d_e=>
bindO (pcD P pc 79 [d_e,(D.fn 80 [] [])]) fun d_f=>
bindO (semD P d_f (Op.unary UnOp.not)) fun d_g=>
j1 d_g)))
noncomputable def C55_0:=B55_0 pc k (C55_1 pc k)
theorem h55_0(v0:D):cJ P pc noY rk LA (k+1) 55 [v0]=C55_0 pc k v0:=(bqA Go.Proofs.Tryz.f55 Rz sj (by kernel_rfl)).trans (Eq.trans (b:=B55_0 pc k (T55_1 pc rk k) v0) (by kernel_rfl) (by rw[h55_1]; rfl))
noncomputable def tY:Code:=ak 56
noncomputable def gq:List ResultVar:=bw 56
noncomputable def K56_prr:KA:=(bX (LvA.b (LvA.b (LA 56))).c (aW P pc noY rk (aq P pc noY rk 56 k) 56 (cR (cR (cR tY))) (LvA.b (LvA.b (LvA.b (LA 56)))) (aw P gq) X0A (aw P gq)))
noncomputable def Lj:(Nat→KA):=(upA 0 (K56_prr pc rk k) X0A)
noncomputable def K56_prrlrl(m1:Nat):KA:=(bX (LvA.a (LvA.b (LvA.a (LvA.b (LvA.b (LA 56)))))).c (aq P pc noY rk 56 m1 (LvA.a (LvA.b (LvA.a (LvA.b (LvA.b (LA 56)))))) (cL (cR (cL (cR (cR tY))))) (K56_prr pc rk k) (Lj pc rk k) (aw P gq)))
noncomputable def qcj:KA:=(bX (LvA.b (LvA.b (LvA.b (LA 56)))).c (aW P pc noY rk (aq P pc noY rk 56 k) 56 (cR (cR (cR (cR tY)))) (LvA.b (LvA.b (LvA.b (LvA.b (LA 56))))) (aw P gq) X0A (aw P gq)))
noncomputable def FV:(Nat→KA):=(upA 2 (qcj pc rk k) X0A)
noncomputable def K56_prrrlrl(m1:Nat):KA:=(bX (LvA.a (LvA.b (LvA.a (LvA.b (LvA.b (LvA.b (LA 56))))))).c (aq P pc noY rk 56 m1 (LvA.a (LvA.b (LvA.a (LvA.b (LvA.b (LvA.b (LA 56))))))) (cL (cR (cL (cR (cR (cR tY)))))) (qcj pc rk k) (FV pc rk k) (aw P gq)))
noncomputable def Rk:KA:=(bX (LvA.b (LvA.b (LvA.b (LvA.b (LA 56))))).c (aW P pc noY rk (aq P pc noY rk 56 k) 56 (cR (cR (cR (cR (cR tY))))) (LvA.b (LvA.b (LvA.b (LvA.b (LvA.b (LA 56)))))) (aw P gq) X0A (aw P gq)))
noncomputable def CX:(Nat→KA):=(upA 4 (Rk pc rk k) X0A)
noncomputable def K56_prrrrlrl(m1:Nat):KA:=(bX (LvA.a (LvA.b (LvA.a (LvA.b (LvA.b (LvA.b (LvA.b (LA 56)))))))).c (aq P pc noY rk 56 m1 (LvA.a (LvA.b (LvA.a (LvA.b (LvA.b (LvA.b (LvA.b (LA 56)))))))) (cL (cR (cL (cR (cR (cR (cR tY))))))) (Rk pc rk k) (CX pc rk k) (aw P gq)))
noncomputable def T56_3(m1:Nat):=fun(u6:D) (c1:List D) (l31:List D) (l56:List D) (l82:List D)=>labA (aW P pc noY rk (aq P pc noY rk 56 m1) 56 (cL (cL (cR (cL (cR (cR (cR (cR tY)))))))) (LvA.a (LvA.a (LvA.b (LvA.a (LvA.b (LvA.b (LvA.b (LvA.b (LA 56))))))))) (K56_prrrrlrl pc rk k m1) (CX pc rk k) (aw P gq)) (Tr.set (Tr.set (Tr.set (Tr.set Tr.nil 6 (some (AV.d u6))) 3 (some (AV.loc 3 0))) 2 (some (AV.loc 2 0))) 1 (some (AV.loc 1 0))) (Tr.set (Tr.set (Tr.set (Tr.set (Tr.set (Tr.set Tr.nil 82 (some (Bx.vec l82 128 5 false))) 56 (some (Bx.vec l56 131 2 false))) 31 (some (Bx.vec l31 130 2 false))) 3 (some (Bx.box [(AV.osl 31),(AV.osl 56),(AV.osl 82)]))) 2 (some (Bx.dat [(D.v (Value.slice none 0 0)),(D.v (Value.slice none 0 0)),(D.v (Value.slice none 0 0))] false))) 1 (some (Bx.dat c1 false)))
noncomputable def R56_3(m1:Nat):(D→List D→List D→List D→List D→Option D):=fun u6 c1 l31 l56 l82=>labA (aq P pc noY rk 56 m1 (LvA.a (LvA.b (LvA.a (LvA.b (LvA.b (LvA.b (LvA.b (LA 56)))))))) (cL (cR (cL (cR (cR (cR (cR tY))))))) (Rk pc rk k) (CX pc rk k) (aw P gq)) (Tr.set (Tr.set (Tr.set (Tr.set Tr.nil 6 (some (AV.d u6))) 3 (some (AV.loc 3 0))) 2 (some (AV.loc 2 0))) 1 (some (AV.loc 1 0))) (Tr.set (Tr.set (Tr.set (Tr.set (Tr.set (Tr.set Tr.nil 82 (some (Bx.vec l82 128 5 false))) 56 (some (Bx.vec l56 131 2 false))) 31 (some (Bx.vec l31 130 2 false))) 3 (some (Bx.box [(AV.osl 31),(AV.osl 56),(AV.osl 82)]))) 2 (some (Bx.dat [(D.v (Value.slice none 0 0)),(D.v (Value.slice none 0 0)),(D.v (Value.slice none 0 0))] false))) 1 (some (Bx.dat c1 false)))
noncomputable def T56_2(m1:Nat):=fun(u5:D) (c1:List D) (l31:List D) (l56:List D)=>labA (aW P pc noY rk (aq P pc noY rk 56 m1) 56 (cL (cL (cR (cL (cR (cR (cR tY))))))) (LvA.a (LvA.a (LvA.b (LvA.a (LvA.b (LvA.b (LvA.b (LA 56)))))))) (K56_prrrlrl pc rk k m1) (FV pc rk k) (aw P gq)) (Tr.set (Tr.set (Tr.set (Tr.set Tr.nil 5 (some (AV.d u5))) 3 (some (AV.loc 3 0))) 2 (some (AV.loc 2 0))) 1 (some (AV.loc 1 0))) (Tr.set (Tr.set (Tr.set (Tr.set (Tr.set Tr.nil 56 (some (Bx.vec l56 131 2 false))) 31 (some (Bx.vec l31 130 2 false))) 3 (some (Bx.box [(AV.osl 31),(AV.osl 56),(AV.d (D.v (Value.slice none 0 0)))]))) 2 (some (Bx.dat [(D.v (Value.slice none 0 0)),(D.v (Value.slice none 0 0)),(D.v (Value.slice none 0 0))] false))) 1 (some (Bx.dat c1 false)))
noncomputable def R56_2(m1:Nat):(D→List D→List D→List D→Option D):=fun u5 c1 l31 l56=>labA (aq P pc noY rk 56 m1 (LvA.a (LvA.b (LvA.a (LvA.b (LvA.b (LvA.b (LA 56))))))) (cL (cR (cL (cR (cR (cR tY)))))) (qcj pc rk k) (FV pc rk k) (aw P gq)) (Tr.set (Tr.set (Tr.set (Tr.set Tr.nil 5 (some (AV.d u5))) 3 (some (AV.loc 3 0))) 2 (some (AV.loc 2 0))) 1 (some (AV.loc 1 0))) (Tr.set (Tr.set (Tr.set (Tr.set (Tr.set Tr.nil 56 (some (Bx.vec l56 131 2 false))) 31 (some (Bx.vec l31 130 2 false))) 3 (some (Bx.box [(AV.osl 31),(AV.osl 56),(AV.d (D.v (Value.slice none 0 0)))]))) 2 (some (Bx.dat [(D.v (Value.slice none 0 0)),(D.v (Value.slice none 0 0)),(D.v (Value.slice none 0 0))] false))) 1 (some (Bx.dat c1 false)))
noncomputable def T56_1(m1:Nat):=fun(u4:D) (c1:List D) (l31:List D)=>labA (aW P pc noY rk (aq P pc noY rk 56 m1) 56 (cL (cL (cR (cL (cR (cR tY)))))) (LvA.a (LvA.a (LvA.b (LvA.a (LvA.b (LvA.b (LA 56))))))) (K56_prrlrl pc rk k m1) (Lj pc rk k) (aw P gq)) (Tr.set (Tr.set (Tr.set (Tr.set Tr.nil 4 (some (AV.d u4))) 3 (some (AV.loc 3 0))) 2 (some (AV.loc 2 0))) 1 (some (AV.loc 1 0))) (Tr.set (Tr.set (Tr.set (Tr.set Tr.nil 31 (some (Bx.vec l31 130 2 false))) 3 (some (Bx.box [(AV.osl 31),(AV.d (D.v (Value.slice none 0 0))),(AV.d (D.v (Value.slice none 0 0)))]))) 2 (some (Bx.dat [(D.v (Value.slice none 0 0)),(D.v (Value.slice none 0 0)),(D.v (Value.slice none 0 0))] false))) 1 (some (Bx.dat c1 false)))
noncomputable def R56_1(m1:Nat):(D→List D→List D→Option D):=fun u4 c1 l31=>labA (aq P pc noY rk 56 m1 (LvA.a (LvA.b (LvA.a (LvA.b (LvA.b (LA 56)))))) (cL (cR (cL (cR (cR tY))))) (K56_prr pc rk k) (Lj pc rk k) (aw P gq)) (Tr.set (Tr.set (Tr.set (Tr.set Tr.nil 4 (some (AV.d u4))) 3 (some (AV.loc 3 0))) 2 (some (AV.loc 2 0))) 1 (some (AV.loc 1 0))) (Tr.set (Tr.set (Tr.set (Tr.set Tr.nil 31 (some (Bx.vec l31 130 2 false))) 3 (some (Bx.box [(AV.osl 31),(AV.d (D.v (Value.slice none 0 0))),(AV.d (D.v (Value.slice none 0 0)))]))) 2 (some (Bx.dat [(D.v (Value.slice none 0 0)),(D.v (Value.slice none 0 0)),(D.v (Value.slice none 0 0))] false))) 1 (some (Bx.dat c1 false)))
noncomputable def B56_3(pc:PC)(k:Nat)(m1:Nat)(b3:(D→List D→List D→List D→List D→Option D))(u6:D)(c1:List D)(l31:List D)(l56:List D)(l82:List D):Option D:=
bindO (c1[2]?) fun d_10=>
bindO (elsD d_10) fun l_11=>
bindO (binD P BinOp.lss 3 (Operand.tmp 58) (Operand.tmp 61) u6 (lenD l_11)) fun d_12=>
ifU d_12 (
bindO (c1[2]?) fun d_13=>
bindO (elsD d_13) fun l_14=>
bindO (idxD u6 l_14.length) fun i_15=>
bindO (l_14[i_15]?) fun d_16=>
bindO (aggD d_16) fun c_17=>
chkK (Nat.beq c_17.length 5) (
bindO (cutD c_17 0 5) fun c_18=>
bindO (splD [(D.v (Value.int IntKind.i64 0)),(D.v (Value.int IntKind.i64 0)),(D.v (Value.int IntKind.i64 0)),(D.v (Value.int IntKind.i64 0)),(D.v (Value.int IntKind.i64 0))] 0 c_18 5) fun c_19=>
bindO (c_19[0]?) fun d_1a=>
bindO (cutD c_19 1 2) fun c_1b=>
bindO (cutD c_19 3 2) fun c_1c=>
bindO (pcD P pc 81 [(D.agg c_1b)]) fun d_1d=>
bindO (pcD P pc 81 [(D.agg c_1c)]) fun d_1e=>
bindO (Kw [(D.v (Value.int IntKind.i64 0)),(D.v (Value.int IntKind.i64 0)),(D.v (Value.int IntKind.i64 0)),(D.v (Value.int IntKind.i64 0)),(D.v (Value.int IntKind.i64 0))] [(0,1,d_1a),(1,2,d_1d),(3,2,d_1e)]) fun c_1f=>
chkK (Nat.beq c_1f.length 5) (
bindO (appD l82 [(D.agg c_1f)]) fun l_1g=>
bindO (binD P BinOp.add 3 (Operand.tmp 63) (Operand.const (Value.int IntKind.i64 1)) u6 (D.v (Value.int IntKind.i64 1))) fun d_1h=>
b3 d_1h c1 l31 l56 l_1g))) (
some (D.agg [(D.sl l31),(D.sl l56),(D.sl l82)]))
noncomputable def C56_3(m1:Nat):=B56_3 pc k m1
noncomputable def S56_3:Nat→(D→List D→List D→List D→List D→Option D):=recF (C56_3 pc k) (fun _ _ _ _ _=>none)
theorem h56_3(m1:Nat):T56_3 pc rk k m1=C56_3 pc k m1 (R56_3 pc rk k m1):=by kernel_rfl
theorem q56_3(m:Nat):T56_3 pc rk k m=S56_3 pc k m:=recS (h56_3 pc rk k) (by kernel_rfl) (fun m=>by kernel_rfl) m
noncomputable def B56_2(pc:PC)(k:Nat)(m1:Nat)(j3:(D→List D→List D→List D→List D→Option D))(b2:(D→List D→List D→List D→Option D))(u5:D)(c1:List D)(l31:List D)(l56:List D):Option D:=
bindO (c1[1]?) fun d_j=>
bindO (elsD d_j) fun l_k=>
bindO (binD P BinOp.lss 3 (Operand.tmp 33) (Operand.tmp 36) u5 (lenD l_k)) fun d_l=>
ifU d_l (
bindO (c1[1]?) fun d_m=>
bindO (elsD d_m) fun l_n=>
bindO (idxD u5 l_n.length) fun i_o=>
bindO (l_n[i_o]?) fun d_p=>
bindO (aggD d_p) fun c_q=>
chkK (Nat.beq c_q.length 2) (
bindO (c_q[0]?) fun d_r=>
bindO (c1[1]?) fun d_s=>
bindO (elsD d_s) fun l_t=>
bindO (idxD u5 l_t.length) fun i_u=>
bindO (l_t[i_u]?) fun d_v=>
bindO (aggD d_v) fun c_w=>
chkK (Nat.beq c_w.length 2) (
bindO ((List.drop 1 c_w)[0]?) fun d_x=>
chkK (bz d_r) (
chkK (bz d_x) (
bindO (appD l56 [(D.agg [d_r,d_x])]) fun l_y=>
bindO (binD P BinOp.add 3 (Operand.tmp 38) (Operand.const (Value.int IntKind.i64 1)) u5 (D.v (Value.int IntKind.i64 1))) fun d_z=>
b2 d_z c1 l31 l_y))))) (
j3 (D.v (Value.int IntKind.i64 0)) c1 l31 l56 [])
noncomputable def C56_2(m1:Nat):=B56_2 pc k m1 (S56_3 pc k k)
noncomputable def S56_2:Nat→(D→List D→List D→List D→Option D):=recF (C56_2 pc k) (fun _ _ _ _=>none)
theorem h56_2(m1:Nat):T56_2 pc rk k m1=C56_2 pc k m1 (R56_2 pc rk k m1):=Eq.trans (b:=B56_2 pc k m1 (T56_3 pc rk k k) (R56_2 pc rk k m1)) (by kernel_rfl) (by rw[q56_3]; rfl)
theorem q56_2(m:Nat):T56_2 pc rk k m=S56_2 pc k m:=recS (h56_2 pc rk k) (by kernel_rfl) (fun m=>by kernel_rfl) m
noncomputable def B56_1(pc:PC)(k:Nat)(m1:Nat)(j2:(D→List D→List D→List D→Option D))(b1:(D→List D→List D→Option D))(u4:D)(c1:List D)(l31:List D):Option D:=
bindO (c1[0]?) fun d_2=>
bindO (elsD d_2) fun l_3=>
bindO (binD P BinOp.lss 3 (Operand.tmp 8) (Operand.tmp 11) u4 (lenD l_3)) fun d_4=>
ifU d_4 (
bindO (c1[0]?) fun d_5=>
bindO (elsD d_5) fun l_6=>
bindO (idxD u4 l_6.length) fun i_7=>
bindO (l_6[i_7]?) fun d_8=>
bindO (aggD d_8) fun c_9=>
chkK (Nat.beq c_9.length 2) (
bindO (c_9[0]?) fun d_a=>
bindO (c1[0]?) fun d_b=>
bindO (elsD d_b) fun l_c=>
bindO (idxD u4 l_c.length) fun i_d=>
bindO (l_c[i_d]?) fun d_e=>
bindO (aggD d_e) fun c_f=>
chkK (Nat.beq c_f.length 2) (
bindO ((List.drop 1 c_f)[0]?) fun d_g=>
chkK (bz d_a) (
chkK (bz d_g) (
bindO (appD l31 [(D.agg [d_a,d_g])]) fun l_h=>
bindO (binD P BinOp.add 3 (Operand.tmp 13) (Operand.const (Value.int IntKind.i64 1)) u4 (D.v (Value.int IntKind.i64 1))) fun d_i=>
b1 d_i c1 l_h))))) (
j2 (D.v (Value.int IntKind.i64 0)) c1 l31 [])
noncomputable def C56_1(m1:Nat):=B56_1 pc k m1 (S56_2 pc k k)
noncomputable def S56_1:Nat→(D→List D→List D→Option D):=recF (C56_1 pc k) (fun _ _ _=>none)
theorem h56_1(m1:Nat):T56_1 pc rk k m1=C56_1 pc k m1 (R56_1 pc rk k m1):=Eq.trans (b:=B56_1 pc k m1 (T56_2 pc rk k k) (R56_1 pc rk k m1)) (by kernel_rfl) (by rw[q56_2]; rfl)
theorem q56_1(m:Nat):T56_1 pc rk k m=S56_1 pc k m:=recS (h56_1 pc rk k) (by kernel_rfl) (fun m=>by kernel_rfl) m
noncomputable def B56_0(pc:PC)(k:Nat)(j1:(D→List D→List D→Option D))(v0:D):Option D:=
bindO (aggD v0) fun c_1=>
j1 (D.v (Value.int IntKind.i64 0)) c_1 []
noncomputable def C56_0:=B56_0 pc k (S56_1 pc k k)
theorem h56_0(v0:D):cJ P pc noY rk LA (k+1) 56 [v0]=C56_0 pc k v0:=(bqA Go.Proofs.Tryz.f56 tY gq (by kernel_rfl)).trans (Eq.trans (b:=B56_0 pc k (T56_1 pc rk k k) v0) (by kernel_rfl) (by rw[q56_1]; rfl))
noncomputable def xK:Code:=ak 57
noncomputable def iZ:List ResultVar:=bw 57
noncomputable def nK:KA:=(bX (LvA.b (LvA.b (LvA.b (LvA.b (LvA.b (LvA.b (LA 57))))))).c (aW P pc noY rk (aq P pc noY rk 57 k) 57 (cR (cR (cR (cR (cR (cR (cR xK))))))) (LvA.b (LvA.b (LvA.b (LvA.b (LvA.b (LvA.b (LvA.b (LA 57)))))))) (aw P iZ) X0A (aw P iZ)))
noncomputable def jk:(Nat→KA):=(upA 0 (nK pc rk k) X0A)
noncomputable def yj(m1:Nat):KA:=(bX (LvA.a (LvA.b (LvA.a (LvA.b (LvA.b (LvA.b (LvA.b (LvA.b (LvA.b (LA 57)))))))))).c (aq P pc noY rk 57 m1 (LvA.a (LvA.b (LvA.a (LvA.b (LvA.b (LvA.b (LvA.b (LvA.b (LvA.b (LA 57)))))))))) (cL (cR (cL (cR (cR (cR (cR (cR (cR xK))))))))) (nK pc rk k) (jk pc rk k) (aw P iZ)))
noncomputable def T57_1(m1:Nat):=fun(u7:D) (u34:D) (u35:D) (u36:D) (l33:List D)=>labA (aW P pc noY rk (aq P pc noY rk 57 m1) 57 (cL (cL (cR (cL (cR (cR (cR (cR (cR (cR xK)))))))))) (LvA.a (LvA.a (LvA.b (LvA.a (LvA.b (LvA.b (LvA.b (LvA.b (LvA.b (LvA.b (LA 57))))))))))) (yj pc rk k m1) (jk pc rk k) (aw P iZ)) (Tr.set (Tr.set (Tr.set (Tr.set (Tr.set Tr.nil 36 (some (AV.d u36))) 35 (some (AV.d u35))) 34 (some (AV.d u34))) 9 (some (AV.osl 33))) 7 (some (AV.d u7))) (Tr.set Tr.nil 33 (some (Bx.vec l33 106 1 false)))
noncomputable def R57_1(m1:Nat):(D→D→D→D→List D→Option D):=fun u7 u34 u35 u36 l33=>labA (aq P pc noY rk 57 m1 (LvA.a (LvA.b (LvA.a (LvA.b (LvA.b (LvA.b (LvA.b (LvA.b (LvA.b (LA 57)))))))))) (cL (cR (cL (cR (cR (cR (cR (cR (cR xK))))))))) (nK pc rk k) (jk pc rk k) (aw P iZ)) (Tr.set (Tr.set (Tr.set (Tr.set (Tr.set Tr.nil 36 (some (AV.d u36))) 35 (some (AV.d u35))) 34 (some (AV.d u34))) 9 (some (AV.osl 33))) 7 (some (AV.d u7))) (Tr.set Tr.nil 33 (some (Bx.vec l33 106 1 false)))
noncomputable def B57_1(pc:PC)(k:Nat)(m1:Nat)(b1:(D→D→D→D→List D→Option D))(u7:D)(u34:D)(u35:D)(u36:D)(l33:List D):Option D:=
bindO (binD P BinOp.lss 3 (Operand.tmp 36) (Operand.tmp 35) u36 u35) fun d_h=>
ifU d_h (
bindO (elsD u34) fun l_i=>
bindO (idxD u36 l_i.length) fun i_j=>
bindO (l_i[i_j]?) fun d_k=>
chkK (bz d_k) (
bindO (pcD P pc 83 [d_k]) fun d_l=>
bindO (idxD u36 l33.length) fun i_m=>
bindO (l33[i_m]?) fun d_n=>
chkK (bz d_n) (
chkK (bz d_l) (
bindO (binD P BinOp.add 3 (Operand.tmp 36) (Operand.const (Value.int IntKind.i64 1)) u36 (D.v (Value.int IntKind.i64 1))) fun d_o=>
b1 u7 u34 u35 d_o (List.set l33 i_m d_l))))) (
some (D.tup [u7,(D.sl l33),(D.v (Value.int IntKind.i64 0))]))
noncomputable def Wk(m1:Nat):=B57_1 pc k m1
noncomputable def WJ:Nat→(D→D→D→D→List D→Option D):=recF (Wk pc k) (fun _ _ _ _ _=>none)
theorem h57_1(m1:Nat):T57_1 pc rk k m1=Wk pc k m1 (R57_1 pc rk k m1):=by kernel_rfl
theorem q57_1(m:Nat):T57_1 pc rk k m=WJ pc k m:=recS (h57_1 pc rk k) (by kernel_rfl) (fun m=>by kernel_rfl) m
noncomputable def B57_0(pc:PC)(k:Nat)(j1:(D→D→D→D→List D→Option D))(v0:D)(v1:D):Option D:=
bindO (aggD v0) fun c_1=>
bindO (cutD c_1 0 5) fun c_2=>
bindO (pcD P pc 66 [(D.agg c_2)]) fun d_3=>
bindO (tupD d_3 0) fun d_4=>
bindO (tupD d_3 1) fun d_5=>
bindO (binD P BinOp.neq 33 (Operand.tmp 17) (Operand.const (Value.int IntKind.i64 0)) d_5 (D.v (Value.int IntKind.i64 0))) fun d_6=>
ifU d_6 (
some (D.tup [(D.v (Value.pointer none)),(D.v (Value.slice none 0 0)),d_5])) (
bindO (elsD v1) fun l_7=>
bindO (binD P BinOp.gtr 3 (Operand.tmp 21) (Operand.const (Value.int IntKind.i64 300)) (lenD l_7) (D.v (Value.int IntKind.i64 300))) fun d_8=>
ifU d_8 (
some (D.tup [(D.v (Value.pointer none)),(D.v (Value.slice none 0 0)),(D.v (Value.int IntKind.i64 3))])) (
nilA (AV.d d_4) (
bindO (jV d_4) fun c_9=>
bindO (cutD c_9 0 5) fun c_a=>
bindO (pcD P pc 82 [v1,(D.fn 78 [(D.agg c_a)] [])]) fun d_b=>
bindO (semD P d_b (Op.unary UnOp.not)) fun d_c=>
ifU d_c (
some (D.tup [(D.v (Value.pointer none)),(D.v (Value.slice none 0 0)),(D.v (Value.int IntKind.i64 2))])) (
bindO (elsD v1) fun l_d=>
bindO (natD (lenD l_d)) fun i_e=>
bindO (natD (lenD l_d)) fun i_f=>
chkK (Nat.ble i_e i_f && Nat.blt i_f 1048576) (
bindO (elsD v1) fun l_g=>
j1 d_4 v1 (lenD l_g) (D.v (Value.int IntKind.i64 0)) (List.replicate i_e (D.v (Value.int IntKind.u64 0))))))))
noncomputable def C57_0:=B57_0 pc k (WJ pc k k)
theorem h57_0(v0:D)(v1:D):cJ P pc noY rk LA (k+1) 57 [v0,v1]=C57_0 pc k v0 v1:=(bqA Go.Proofs.Tryz.f57 xK iZ (by kernel_rfl)).trans (Eq.trans (b:=B57_0 pc k (T57_1 pc rk k k) v0 v1) (by kernel_rfl) (by rw[q57_1]; rfl))
noncomputable def yq:Code:=ak 58
noncomputable def iK:List ResultVar:=bw 58
noncomputable def CY:KA:=(bX (LvA.b (LvA.b (LA 58))).c (aW P pc noY rk (aq P pc noY rk 58 k) 58 (cR (cR (cR yq))) (LvA.b (LvA.b (LvA.b (LA 58)))) (aw P iK) X0A (aw P iK)))
noncomputable def qQ:(Nat→KA):=(upA 0 (CY pc rk k) X0A)
noncomputable def Lq(m1:Nat):KA:=(bX (LvA.a (LvA.b (LvA.a (LvA.b (LvA.b (LA 58)))))).c (aq P pc noY rk 58 m1 (LvA.a (LvA.b (LvA.a (LvA.b (LvA.b (LA 58)))))) (cL (cR (cL (cR (cR yq))))) (CY pc rk k) (qQ pc rk k) (aw P iK)))
noncomputable def T58_1(m1:Nat):=fun(u6:D) (u7:D) (u8:D) (l16:List D)=>labA (aW P pc noY rk (aq P pc noY rk 58 m1) 58 (cL (cL (cR (cL (cR (cR yq)))))) (LvA.a (LvA.a (LvA.b (LvA.a (LvA.b (LvA.b (LA 58))))))) (Lq pc rk k m1) (qQ pc rk k) (aw P iK)) (Tr.set (Tr.set (Tr.set (Tr.set Tr.nil 8 (some (AV.d u8))) 7 (some (AV.d u7))) 6 (some (AV.d u6))) 3 (some (AV.osl 16))) (Tr.set Tr.nil 16 (some (Bx.vec l16 27 1 false)))
noncomputable def R58_1(m1:Nat):(D→D→D→List D→Option D):=fun u6 u7 u8 l16=>labA (aq P pc noY rk 58 m1 (LvA.a (LvA.b (LvA.a (LvA.b (LvA.b (LA 58)))))) (cL (cR (cL (cR (cR yq))))) (CY pc rk k) (qQ pc rk k) (aw P iK)) (Tr.set (Tr.set (Tr.set (Tr.set Tr.nil 8 (some (AV.d u8))) 7 (some (AV.d u7))) 6 (some (AV.d u6))) 3 (some (AV.osl 16))) (Tr.set Tr.nil 16 (some (Bx.vec l16 27 1 false)))
noncomputable def B58_1(pc:PC)(k:Nat)(m1:Nat)(b1:(D→D→D→List D→Option D))(u6:D)(u7:D)(u8:D)(l16:List D):Option D:=
bindO (binD P BinOp.lss 3 (Operand.tmp 8) (Operand.tmp 7) u8 u7) fun d_2=>
ifU d_2 (
bindO (elsD u6) fun l_3=>
bindO (idxD u8 l_3.length) fun i_4=>
bindO (l_3[i_4]?) fun d_5=>
chkK (bz d_5) (
bindO (pcD P pc 84 [d_5]) fun d_6=>
chkK (bz d_6) (
bindO (appD l16 [d_6]) fun l_7=>
bindO (binD P BinOp.add 3 (Operand.tmp 8) (Operand.const (Value.int IntKind.i64 1)) u8 (D.v (Value.int IntKind.i64 1))) fun d_8=>
b1 u6 u7 d_8 l_7))) (
some (D.sl l16))
noncomputable def WQ(m1:Nat):=B58_1 pc k m1
noncomputable def WV:Nat→(D→D→D→List D→Option D):=recF (WQ pc k) (fun _ _ _ _=>none)
theorem h58_1(m1:Nat):T58_1 pc rk k m1=WQ pc k m1 (R58_1 pc rk k m1):=by kernel_rfl
theorem q58_1(m:Nat):T58_1 pc rk k m=WV pc k m:=recS (h58_1 pc rk k) (by kernel_rfl) (fun m=>by kernel_rfl) m
noncomputable def B58_0(pc:PC)(k:Nat)(j1:(D→D→D→List D→Option D))(v0:D):Option D:=
bindO (elsD v0) fun l_1=>
j1 v0 (lenD l_1) (D.v (Value.int IntKind.i64 0)) []
noncomputable def C58_0:=B58_0 pc k (WV pc k k)
theorem h58_0(v0:D):cJ P pc noY rk LA (k+1) 58 [v0]=C58_0 pc k v0:=(bqA Go.Proofs.Tryz.f58 yq iK (by kernel_rfl)).trans (Eq.trans (b:=B58_0 pc k (T58_1 pc rk k k) v0) (by kernel_rfl) (by rw[q58_1]; rfl))
noncomputable def yw:Code:=ak 59
noncomputable def jj:List ResultVar:=bw 59
noncomputable def CZ:KA:=(bX (LvA.b (LvA.b (LA 59))).c (aW P pc noY rk (aq P pc noY rk 59 k) 59 (cR (cR (cR yw))) (LvA.b (LvA.b (LvA.b (LA 59)))) (aw P jj) X0A (aw P jj)))
noncomputable def qV:(Nat→KA):=(upA 0 (CZ pc rk k) X0A)
noncomputable def Lw(m1:Nat):KA:=(bX (LvA.a (LvA.b (LvA.a (LvA.b (LvA.b (LA 59)))))).c (aq P pc noY rk 59 m1 (LvA.a (LvA.b (LvA.a (LvA.b (LvA.b (LA 59)))))) (cL (cR (cL (cR (cR yw))))) (CZ pc rk k) (qV pc rk k) (aw P jj)))
noncomputable def T59_1(m1:Nat):=fun(u0:D) (u15:D) (u16:D) (u17:D) (l14:List D)=>labA (aW P pc noY rk (aq P pc noY rk 59 m1) 59 (cL (cL (cR (cL (cR (cR yw)))))) (LvA.a (LvA.a (LvA.b (LvA.a (LvA.b (LvA.b (LA 59))))))) (Lw pc rk k m1) (qV pc rk k) (aw P jj)) (Tr.set (Tr.set (Tr.set (Tr.set (Tr.set Tr.nil 17 (some (AV.d u17))) 16 (some (AV.d u16))) 15 (some (AV.d u15))) 5 (some (AV.osl 14))) 0 (some (AV.d u0))) (Tr.set Tr.nil 14 (some (Bx.vec l14 106 1 false)))
noncomputable def R59_1(m1:Nat):(D→D→D→D→List D→Option D):=fun u0 u15 u16 u17 l14=>labA (aq P pc noY rk 59 m1 (LvA.a (LvA.b (LvA.a (LvA.b (LvA.b (LA 59)))))) (cL (cR (cL (cR (cR yw))))) (CZ pc rk k) (qV pc rk k) (aw P jj)) (Tr.set (Tr.set (Tr.set (Tr.set (Tr.set Tr.nil 17 (some (AV.d u17))) 16 (some (AV.d u16))) 15 (some (AV.d u15))) 5 (some (AV.osl 14))) 0 (some (AV.d u0))) (Tr.set Tr.nil 14 (some (Bx.vec l14 106 1 false)))
noncomputable def B59_1(pc:PC)(k:Nat)(m1:Nat)(b1:(D→D→D→D→List D→Option D))(u0:D)(u15:D)(u16:D)(u17:D)(l14:List D):Option D:=
bindO (binD P BinOp.lss 3 (Operand.tmp 17) (Operand.tmp 16) u17 u16) fun d_5=>
ifU d_5 (
bindO (elsD u15) fun l_6=>
bindO (idxD u17 l_6.length) fun i_7=>
bindO (l_6[i_7]?) fun d_8=>
chkK (bz d_8) (
bindO (idxD u17 l14.length) fun i_9=>
bindO (l14[i_9]?) fun d_a=>
chkK (bz d_a) (
bindO (pcD P pc 85 [u0,d_a]) fun d_b=>
bindO (pcD P pc 86 [d_b,d_8]) fun d_c=>
chkK (bz d_c) (
bindO (appD l14 [d_c]) fun l_d=>
bindO (binD P BinOp.add 3 (Operand.tmp 17) (Operand.const (Value.int IntKind.i64 1)) u17 (D.v (Value.int IntKind.i64 1))) fun d_e=>
b1 u0 u15 u16 d_e l_d)))) (
some (D.sl l14))
noncomputable def WW(m1:Nat):=B59_1 pc k m1
noncomputable def WX:Nat→(D→D→D→D→List D→Option D):=recF (WW pc k) (fun _ _ _ _ _=>none)
theorem h59_1(m1:Nat):T59_1 pc rk k m1=WW pc k m1 (R59_1 pc rk k m1):=by kernel_rfl
theorem q59_1(m:Nat):T59_1 pc rk k m=WX pc k m:=recS (h59_1 pc rk k) (by kernel_rfl) (fun m=>by kernel_rfl) m
noncomputable def B59_0(pc:PC)(k:Nat)(j1:(D→D→D→D→List D→Option D))(v0:D)(v1:D):Option D:=
nilA (AV.d v0) (
bindO (jV v0) fun c_1=>
bindO ((List.drop 3 c_1)[0]?) fun d_2=>
bindO (pcD P pc 83 [d_2]) fun d_3=>
chkK (bz d_3) (
bindO (elsD v1) fun l_4=>
j1 v0 v1 (lenD l_4) (D.v (Value.int IntKind.i64 0)) [d_3]))
noncomputable def C59_0:=B59_0 pc k (WX pc k k)
theorem h59_0(v0:D)(v1:D):cJ P pc noY rk LA (k+1) 59 [v0,v1]=C59_0 pc k v0 v1:=(bqA Go.Proofs.Tryz.f59 yw jj (by kernel_rfl)).trans (Eq.trans (b:=B59_0 pc k (T59_1 pc rk k k) v0 v1) (by kernel_rfl) (by rw[q59_1]; rfl))
noncomputable def Lx:Code:=ak 60
noncomputable def oY:List ResultVar:=bw 60
noncomputable def K60_prr:KA:=(bX (LvA.b (LvA.b (LA 60))).c (aW P pc noY rk (aq P pc noY rk 60 k) 60 (cR (cR (cR Lx))) (LvA.b (LvA.b (LvA.b (LA 60)))) (aw P oY) X0A (aw P oY)))
noncomputable def qdq:KA:=(bX (LvA.b (LvA.b (LvA.b (LA 60)))).c (aW P pc noY rk (aq P pc noY rk 60 k) 60 (cR (cR (cR (cR Lx)))) (LvA.b (LvA.b (LvA.b (LvA.b (LA 60))))) (aw P oY) X0A (aw P oY)))
noncomputable def FW:(Nat→KA):=(upA 0 (qdq pc rk k) X0A)
noncomputable def K60_prrrlrl(m1:Nat):KA:=(bX (LvA.a (LvA.b (LvA.a (LvA.b (LvA.b (LvA.b (LA 60))))))).c (aq P pc noY rk 60 m1 (LvA.a (LvA.b (LvA.a (LvA.b (LvA.b (LvA.b (LA 60))))))) (cL (cR (cL (cR (cR (cR Lx)))))) (qdq pc rk k) (FW pc rk k) (aw P oY)))
noncomputable def T60_2(m1:Nat):=fun(u4:D) (c1:List D)=>labA (aW P pc noY rk (aq P pc noY rk 60 m1) 60 (cL (cL (cR (cL (cR (cR (cR Lx))))))) (LvA.a (LvA.a (LvA.b (LvA.a (LvA.b (LvA.b (LvA.b (LA 60)))))))) (K60_prrrlrl pc rk k m1) (FW pc rk k) (aw P oY)) (Tr.set (Tr.set Tr.nil 4 (some (AV.d u4))) 1 (some (AV.loc 1 0))) (Tr.set Tr.nil 1 (some (Bx.dat c1 false)))
noncomputable def R60_2(m1:Nat):(D→List D→Option D):=fun u4 c1=>labA (aq P pc noY rk 60 m1 (LvA.a (LvA.b (LvA.a (LvA.b (LvA.b (LvA.b (LA 60))))))) (cL (cR (cL (cR (cR (cR Lx)))))) (qdq pc rk k) (FW pc rk k) (aw P oY)) (Tr.set (Tr.set Tr.nil 4 (some (AV.d u4))) 1 (some (AV.loc 1 0))) (Tr.set Tr.nil 1 (some (Bx.dat c1 false)))
noncomputable def T60_1:=fun(u25:D) (c1:List D)=>labA (aW P pc noY rk (aq P pc noY rk 60 k) 60 (cR (cL (cR (cR Lx)))) (LvA.b (LvA.a (LvA.b (LvA.b (LA 60))))) (K60_prr pc rk k) X0A (aw P oY)) (Tr.set (Tr.set Tr.nil 25 (some (AV.d u25))) 1 (some (AV.loc 1 0))) (Tr.set Tr.nil 1 (some (Bx.dat c1 false)))
noncomputable def B60_2(pc:PC)(k:Nat)(m1:Nat)(b2:(D→List D→Option D))(u4:D)(c1:List D):Option D:=
bindO (c1[4]?) fun d_9=>
bindO (elsD d_9) fun l_a=>
bindO (binD P BinOp.lss 3 (Operand.tmp 26) (Operand.tmp 29) u4 (lenD l_a)) fun d_b=>
ifU d_b (
bindO (c1[4]?) fun d_c=>
bindO (elsD d_c) fun l_d=>
bindO (idxD u4 l_d.length) fun i_e=>
bindO (l_d[i_e]?) fun d_f=>
chkK (bz d_f) (
bindO (pcD P pc 35 [d_f,(D.v (Value.int IntKind.i64 0)),(D.v (Value.int IntKind.i64 100))]) fun d_g=>
bindO (semD P d_g (Op.unary UnOp.not)) fun d_h=>
ifU d_h (
some (D.v (Value.int IntKind.i64 1))) (
bindO (binD P BinOp.add 3 (Operand.tmp 31) (Operand.const (Value.int IntKind.i64 1)) u4 (D.v (Value.int IntKind.i64 1))) fun d_i=>
b2 d_i c1))) (
some (D.v (Value.int IntKind.i64 0)))
noncomputable def C60_2(m1:Nat):=B60_2 pc k m1
noncomputable def S60_2:Nat→(D→List D→Option D):=recF (C60_2 pc k) (fun _ _=>none)
theorem h60_2(m1:Nat):T60_2 pc rk k m1=C60_2 pc k m1 (R60_2 pc rk k m1):=by kernel_rfl
theorem q60_2(m:Nat):T60_2 pc rk k m=S60_2 pc k m:=recS (h60_2 pc rk k) (by kernel_rfl) (fun m=>by kernel_rfl) m
noncomputable def B60_1(pc:PC)(k:Nat)(j2:(D→List D→Option D))(u25:D)(c1:List D):Option D:=
ifU u25 (
some (D.v (Value.int IntKind.i64 1))) (
j2 (D.v (Value.int IntKind.i64 0)) c1)
noncomputable def C60_1:=B60_1 pc k (S60_2 pc k k)
theorem h60_1:T60_1 pc rk k=C60_1 pc k:=Eq.trans (b:=B60_1 pc k (T60_2 pc rk k k)) (by kernel_rfl) (by rw[q60_2]; rfl)
noncomputable def B60_0(pc:PC)(k:Nat)(j1:(D→List D→Option D))(v0:D):Option D:=
bindO (aggD v0) fun c_1=>
bindO (cutD c_1 0 3) fun c_2=>
bindO (pcD P pc 87 [(D.agg c_2)]) fun d_3=>
bindO (binD P BinOp.neq 3 (Operand.tmp 8) (Operand.const (Value.int IntKind.i64 0)) d_3 (D.v (Value.int IntKind.i64 0))) fun d_4=>
ifU d_4 (
some d_3) (
bindO (cutD c_1 0 5) fun c_5=>
bindO (c_1[3]?) fun d_6=>
bindO (pcD P pc 88 [(D.agg c_5),d_6]) fun d_7=>
bindO (semD P d_7 (Op.unary UnOp.not)) fun d_8=>
ifU d_8 (
j1 (D.v (Value.bool true)) c_1) (
bindO (c_1[4]?) fun d_j=>
bindO (elsD d_j) fun l_k=>
bindO (c_1[0]?) fun d_l=>
bindO (elsD d_l) fun l_m=>
bindO (binD P BinOp.neq 3 (Operand.tmp 19) (Operand.tmp 23) (lenD l_k) (lenD l_m)) fun d_n=>
j1 d_n c_1))
noncomputable def C60_0:=B60_0 pc k (C60_1 pc k)
theorem h60_0(v0:D):cJ P pc noY rk LA (k+1) 60 [v0]=C60_0 pc k v0:=(bqA Go.Proofs.Tryz.f60 Lx oY (by kernel_rfl)).trans (Eq.trans (b:=B60_0 pc k (T60_1 pc rk k) v0) (by kernel_rfl) (by rw[h60_1]; rfl))
noncomputable def code61:Code:=ak 61
noncomputable def xq:List ResultVar:=bw 61
noncomputable def K61_prr:KA:=(bX (LvA.b (LvA.b (LA 61))).c (aW P pc noY rk (aq P pc noY rk 61 k) 61 (cR (cR (cR code61))) (LvA.b (LvA.b (LvA.b (LA 61)))) (aw P xq) X0A (aw P xq)))
noncomputable def Ly:(Nat→KA):=(upA 0 (K61_prr pc rk k) X0A)
noncomputable def K61_prrlrl(m1:Nat):KA:=(bX (LvA.a (LvA.b (LvA.a (LvA.b (LvA.b (LA 61)))))).c (aq P pc noY rk 61 m1 (LvA.a (LvA.b (LvA.a (LvA.b (LvA.b (LA 61)))))) (cL (cR (cL (cR (cR code61))))) (K61_prr pc rk k) (Ly pc rk k) (aw P xq)))
noncomputable def T61_1(m1:Nat):=fun(u1:D) (u5:D) (c2:List D)=>labA (aW P pc noY rk (aq P pc noY rk 61 m1) 61 (cL (cL (cR (cL (cR (cR code61)))))) (LvA.a (LvA.a (LvA.b (LvA.a (LvA.b (LvA.b (LA 61))))))) (K61_prrlrl pc rk k m1) (Ly pc rk k) (aw P xq)) (Tr.set (Tr.set (Tr.set Tr.nil 5 (some (AV.d u5))) 2 (some (AV.loc 2 0))) 1 (some (AV.d u1))) (Tr.set Tr.nil 2 (some (Bx.dat c2 false)))
noncomputable def R61_1(m1:Nat):(D→D→List D→Option D):=fun u1 u5 c2=>labA (aq P pc noY rk 61 m1 (LvA.a (LvA.b (LvA.a (LvA.b (LvA.b (LA 61)))))) (cL (cR (cL (cR (cR code61))))) (K61_prr pc rk k) (Ly pc rk k) (aw P xq)) (Tr.set (Tr.set (Tr.set Tr.nil 5 (some (AV.d u5))) 2 (some (AV.loc 2 0))) 1 (some (AV.d u1))) (Tr.set Tr.nil 2 (some (Bx.dat c2 false)))
noncomputable def B61_1(pc:PC)(k:Nat)(m1:Nat)(b1:(D→D→List D→Option D))(u1:D)(u5:D)(c2:List D):Option D:=
bindO (elsD u1) fun l_4=>
bindO (binD P BinOp.lss 3 (Operand.tmp 9) (Operand.tmp 11) u5 (lenD l_4)) fun d_5=>
ifU d_5 (
bindO (cutD c2 0 5) fun c_6=>
bindO (elsD u1) fun l_7=>
bindO (idxD u5 l_7.length) fun i_8=>
bindO (l_7[i_8]?) fun d_9=>
chkK (bz d_9) (
bindO (pcD P pc 88 [(D.agg c_6),d_9]) fun d_a=>
bindO (semD P d_a (Op.unary UnOp.not)) fun d_b=>
ifU d_b (
some (D.v (Value.int IntKind.i64 2))) (
bindO (binD P BinOp.add 3 (Operand.tmp 13) (Operand.const (Value.int IntKind.i64 1)) u5 (D.v (Value.int IntKind.i64 1))) fun d_c=>
b1 u1 d_c c2))) (
some (D.v (Value.int IntKind.i64 0)))
noncomputable def C61_1(m1:Nat):=B61_1 pc k m1
noncomputable def S61_1:Nat→(D→D→List D→Option D):=recF (C61_1 pc k) (fun _ _ _=>none)
theorem h61_1(m1:Nat):T61_1 pc rk k m1=C61_1 pc k m1 (R61_1 pc rk k m1):=by kernel_rfl
theorem q61_1(m:Nat):T61_1 pc rk k m=S61_1 pc k m:=recS (h61_1 pc rk k) (by kernel_rfl) (fun m=>by kernel_rfl) m
noncomputable def B61_0(pc:PC)(k:Nat)(j1:(D→D→List D→Option D))(v0:D)(v1:D):Option D:=
bindO (aggD v0) fun c_1=>
bindO (elsD v1) fun l_2=>
bindO (binD P BinOp.gtr 3 (Operand.tmp 7) (Operand.const (Value.int IntKind.i64 300)) (lenD l_2) (D.v (Value.int IntKind.i64 300))) fun d_3=>
ifU d_3 (
some (D.v (Value.int IntKind.i64 3))) (
j1 v1 (D.v (Value.int IntKind.i64 0)) c_1)
noncomputable def C61_0:=B61_0 pc k (S61_1 pc k k)
theorem h61_0(v0:D)(v1:D):cJ P pc noY rk LA (k+1) 61 [v0,v1]=C61_0 pc k v0 v1:=(bqA Go.Proofs.Tryz.f61 code61 xq (by kernel_rfl)).trans (Eq.trans (b:=B61_0 pc k (T61_1 pc rk k k) v0 v1) (by kernel_rfl) (by rw[q61_1]; rfl))
noncomputable def tZ:Code:=ak 63
noncomputable def fV:List ResultVar:=bw 63
noncomputable def tK:KA:=(bX (LvA.b (LvA.b (LvA.b (LvA.b (LA 63))))).c (aW P pc noY rk (aq P pc noY rk 63 k) 63 (cR (cR (cR (cR (cR tZ))))) (LvA.b (LvA.b (LvA.b (LvA.b (LvA.b (LA 63)))))) (aw P fV) X0A (aw P fV)))
noncomputable def mV:(Nat→KA):=(upA 0 (tK pc rk k) X0A)
noncomputable def CK(m1:Nat):KA:=(bX (LvA.a (LvA.b (LvA.a (LvA.b (LvA.b (LvA.b (LvA.b (LA 63)))))))).c (aq P pc noY rk 63 m1 (LvA.a (LvA.b (LvA.a (LvA.b (LvA.b (LvA.b (LvA.b (LA 63)))))))) (cL (cR (cL (cR (cR (cR (cR tZ))))))) (tK pc rk k) (mV pc rk k) (aw P fV)))
noncomputable def T63_2:=fun(l36:List D)=>labA (aW P pc noY rk (aq P pc noY rk 63 k) 63 (cR (cR (cR (cR (cR tZ))))) (LvA.b (LvA.b (LvA.b (LvA.b (LvA.b (LA 63)))))) (aw P fV) X0A (aw P fV)) (Tr.set Tr.nil 6 (some (AV.osl 36))) (Tr.set Tr.nil 36 (some (Bx.vec l36 3 1 false)))
noncomputable def T63_1(m1:Nat):=fun(u0:D) (u7:D) (u20:D) (u21:D) (u22:D) (g5_0:D) (l36:List D)=>labA (aW P pc noY rk (aq P pc noY rk 63 m1) 63 (cL (cL (cR (cL (cR (cR (cR (cR tZ)))))))) (LvA.a (LvA.a (LvA.b (LvA.a (LvA.b (LvA.b (LvA.b (LvA.b (LA 63))))))))) (CK pc rk k m1) (mV pc rk k) (aw P fV)) (Tr.set (Tr.set (Tr.set (Tr.set (Tr.set (Tr.set (Tr.set Tr.nil 22 (some (AV.d u22))) 21 (some (AV.d u21))) 20 (some (AV.d u20))) 7 (some (AV.d u7))) 6 (some (AV.osl 36))) 5 (some (AV.loc 5 0))) 0 (some (AV.d u0))) (Tr.set (Tr.set Tr.nil 36 (some (Bx.vec l36 3 1 false))) 5 (some (Bx.dat [g5_0] false)))
noncomputable def R63_1(m1:Nat):(D→D→D→D→D→D→List D→Option D):=fun u0 u7 u20 u21 u22 g5_0 l36=>labA (aq P pc noY rk 63 m1 (LvA.a (LvA.b (LvA.a (LvA.b (LvA.b (LvA.b (LvA.b (LA 63)))))))) (cL (cR (cL (cR (cR (cR (cR tZ))))))) (tK pc rk k) (mV pc rk k) (aw P fV)) (Tr.set (Tr.set (Tr.set (Tr.set (Tr.set (Tr.set (Tr.set Tr.nil 22 (some (AV.d u22))) 21 (some (AV.d u21))) 20 (some (AV.d u20))) 7 (some (AV.d u7))) 6 (some (AV.osl 36))) 5 (some (AV.loc 5 0))) 0 (some (AV.d u0))) (Tr.set (Tr.set Tr.nil 36 (some (Bx.vec l36 3 1 false))) 5 (some (Bx.dat [g5_0] false)))
noncomputable def B63_2(pc:PC)(k:Nat)(l36:List D):Option D:=
some (D.sl l36)
noncomputable def C63_2:=B63_2 pc k
theorem h63_2:T63_2 pc rk k=C63_2 pc k:=by kernel_rfl
noncomputable def B63_1(pc:PC)(k:Nat)(m1:Nat)(j2:(List D→Option D))(b1:(D→D→D→D→D→D→List D→Option D))(u0:D)(u7:D)(u20:D)(u21:D)(u22:D)(g5_0:D)(l36:List D):Option D:=
bindO (binD P BinOp.lss 3 (Operand.tmp 22) (Operand.tmp 21) u22 u21) fun d_6=>
ifU d_6 (
bindO (elsD u20) fun l_7=>
bindO (idxD u22 l_7.length) fun i_8=>
bindO (l_7[i_8]?) fun d_9=>
chkK (bz d_9) (
chkK (bz u22) (
bindO (binD P BinOp.eql 106 (Operand.tmp 27) (Operand.const (Value.int IntKind.u64 0)) u7 (D.v (Value.int IntKind.u64 0))) fun d_a=>
ifU d_a (
j2 l36) (
bindO (pcD P pc 84 [u7]) fun d_b=>
bindO (pcD P pc 90 [d_b,(D.fn 91 [] [(D.ref [g5_0]),(D.ref [u22])])]) fun d_c=>
chkK (bz d_c) (
bindO (appD l36 [d_c]) fun l_d=>
chkK (bz d_c) (
bindO (pcD P pc 83 [(D.sl [d_c])]) fun d_e=>
bindO (pcD P pc 85 [u0,d_e]) fun d_f=>
bindO (pcD P pc 86 [d_f,d_9]) fun d_g=>
bindO (binD P BinOp.add 3 (Operand.tmp 22) (Operand.const (Value.int IntKind.i64 1)) u22 (D.v (Value.int IntKind.i64 1))) fun d_h=>
b1 u0 d_g u20 u21 d_h g5_0 l_d)))))) (
j2 l36)
noncomputable def WY(m1:Nat):=B63_1 pc k m1 (C63_2 pc k)
noncomputable def S63_1:Nat→(D→D→D→D→D→D→List D→Option D):=recF (WY pc k) (fun _ _ _ _ _ _ _=>none)
theorem h63_1(m1:Nat):T63_1 pc rk k m1=WY pc k m1 (R63_1 pc rk k m1):=Eq.trans (b:=B63_1 pc k m1 (T63_2 pc rk k) (R63_1 pc rk k m1)) (by kernel_rfl) (by rw[h63_2]; rfl)
theorem q63_1(m:Nat):T63_1 pc rk k m=S63_1 pc k m:=recS (h63_1 pc rk k) (by kernel_rfl) (fun m=>by kernel_rfl) m
noncomputable def B63_0(pc:PC)(k:Nat)(j1:(D→D→D→D→D→D→List D→Option D))(v0:D)(v1:D):Option D:=
bindO (pcD P pc 89 [v0,v1]) fun d_1=>
chkK (bz d_1) (
nilA (AV.d v0) (
bindO (jV v0) fun c_2=>
bindO ((List.drop 3 c_2)[0]?) fun d_3=>
bindO (pcD P pc 83 [d_3]) fun d_4=>
bindO (elsD v1) fun l_5=>
j1 v0 d_4 v1 (lenD l_5) (D.v (Value.int IntKind.i64 0)) d_1 []))
noncomputable def C63_0:=B63_0 pc k (S63_1 pc k k)
theorem h63_0(v0:D)(v1:D):cJ P pc noY rk LA (k+1) 63 [v0,v1]=C63_0 pc k v0 v1:=(bqA Go.Proofs.Tryz.f63 tZ fV (by kernel_rfl)).trans (Eq.trans (b:=B63_0 pc k (T63_1 pc rk k k) v0 v1) (by kernel_rfl) (by rw[q63_1]; rfl))
noncomputable def yx:Code:=ak 64
noncomputable def jq:List ResultVar:=bw 64
noncomputable def Dj:KA:=(bX (LvA.b (LvA.b (LA 64))).c (aW P pc noY rk (aq P pc noY rk 64 k) 64 (cR (cR (cR yx))) (LvA.b (LvA.b (LvA.b (LA 64)))) (aw P jq) X0A (aw P jq)))
noncomputable def qW:(Nat→KA):=(upA 0 (Dj pc rk k) X0A)
noncomputable def Lz(m1:Nat):KA:=(bX (LvA.a (LvA.b (LvA.a (LvA.b (LvA.b (LA 64)))))).c (aq P pc noY rk 64 m1 (LvA.a (LvA.b (LvA.a (LvA.b (LvA.b (LA 64)))))) (cL (cR (cL (cR (cR yx))))) (Dj pc rk k) (qW pc rk k) (aw P jq)))
noncomputable def T64_1(m1:Nat):=fun(u0:D) (u5:D) (u8:D) (u9:D) (u10:D)=>labA (aW P pc noY rk (aq P pc noY rk 64 m1) 64 (cL (cL (cR (cL (cR (cR yx)))))) (LvA.a (LvA.a (LvA.b (LvA.a (LvA.b (LvA.b (LA 64))))))) (Lz pc rk k m1) (qW pc rk k) (aw P jq)) (Tr.set (Tr.set (Tr.set (Tr.set (Tr.set Tr.nil 10 (some (AV.d u10))) 9 (some (AV.d u9))) 8 (some (AV.d u8))) 5 (some (AV.d u5))) 0 (some (AV.d u0))) Tr.nil
noncomputable def R64_1(m1:Nat):(D→D→D→D→D→Option D):=fun u0 u5 u8 u9 u10=>labA (aq P pc noY rk 64 m1 (LvA.a (LvA.b (LvA.a (LvA.b (LvA.b (LA 64)))))) (cL (cR (cL (cR (cR yx))))) (Dj pc rk k) (qW pc rk k) (aw P jq)) (Tr.set (Tr.set (Tr.set (Tr.set (Tr.set Tr.nil 10 (some (AV.d u10))) 9 (some (AV.d u9))) 8 (some (AV.d u8))) 5 (some (AV.d u5))) 0 (some (AV.d u0))) Tr.nil
noncomputable def B64_1(pc:PC)(k:Nat)(m1:Nat)(b1:(D→D→D→D→D→Option D))(u0:D)(u5:D)(u8:D)(u9:D)(u10:D):Option D:=
bindO (binD P BinOp.lss 3 (Operand.tmp 10) (Operand.tmp 9) u10 u9) fun d_2=>
ifU d_2 (
bindO (elsD u8) fun l_3=>
bindO (idxD u10 l_3.length) fun i_4=>
bindO (l_3[i_4]?) fun d_5=>
chkK (bz d_5) (
nilA (AV.d u0) (
bindO (jV u0) fun c_6=>
bindO ((List.drop 4 c_6)[0]?) fun d_7=>
bindO (elsD d_7) fun l_8=>
bindO (idxD d_5 l_8.length) fun i_9=>
bindO (l_8[i_9]?) fun d_a=>
chkK (bz d_a) (
bindO (binD P BinOp.add 3 (Operand.tmp 14) (Operand.tmp 22) u5 d_a) fun d_b=>
bindO (binD P BinOp.add 3 (Operand.tmp 10) (Operand.const (Value.int IntKind.i64 1)) u10 (D.v (Value.int IntKind.i64 1))) fun d_c=>
b1 u0 d_b u8 u9 d_c)))) (
some u5)
noncomputable def WZ(m1:Nat):=B64_1 pc k m1
noncomputable def WK:Nat→(D→D→D→D→D→Option D):=recF (WZ pc k) (fun _ _ _ _ _=>none)
theorem h64_1(m1:Nat):T64_1 pc rk k m1=WZ pc k m1 (R64_1 pc rk k m1):=by kernel_rfl
theorem q64_1(m:Nat):T64_1 pc rk k m=WK pc k m:=recS (h64_1 pc rk k) (by kernel_rfl) (fun m=>by kernel_rfl) m
noncomputable def B64_0(pc:PC)(k:Nat)(j1:(D→D→D→D→D→Option D))(v0:D)(v1:D):Option D:=
bindO (elsD v1) fun l_1=>
j1 v0 (D.v (Value.int IntKind.i64 0)) v1 (lenD l_1) (D.v (Value.int IntKind.i64 0))
noncomputable def C64_0:=B64_0 pc k (WK pc k k)
theorem h64_0(v0:D)(v1:D):cJ P pc noY rk LA (k+1) 64 [v0,v1]=C64_0 pc k v0 v1:=(bqA Go.Proofs.Tryz.f64 yx jq (by kernel_rfl)).trans (Eq.trans (b:=B64_0 pc k (T64_1 pc rk k k) v0 v1) (by kernel_rfl) (by rw[q64_1]; rfl))
noncomputable def FX:Code:=ak 65
noncomputable def oZ:List ResultVar:=bw 65
noncomputable def qdk:KA:=(bX (LvA.b (LvA.b (LvA.b (LA 65)))).c (aW P pc noY rk (aq P pc noY rk 65 k) 65 (cR (cR (cR (cR FX)))) (LvA.b (LvA.b (LvA.b (LvA.b (LA 65))))) (aw P oZ) X0A (aw P oZ)))
noncomputable def uY:(Nat→KA):=(upA 0 (qdk pc rk k) X0A)
noncomputable def K65_prrrlrl(m1:Nat):KA:=(bX (LvA.a (LvA.b (LvA.a (LvA.b (LvA.b (LvA.b (LA 65))))))).c (aq P pc noY rk 65 m1 (LvA.a (LvA.b (LvA.a (LvA.b (LvA.b (LvA.b (LA 65))))))) (cL (cR (cL (cR (cR (cR FX)))))) (qdk pc rk k) (uY pc rk k) (aw P oZ)))
noncomputable def K65_prrrlrllrr(m1:Nat):KA:=(bX (LvA.b (LvA.b (LvA.a (LvA.a (LvA.b (LvA.a (LvA.b (LvA.b (LvA.b (LA 65)))))))))).c (aW P pc noY rk (aq P pc noY rk 65 m1) 65 (cR (cR (cR (cL (cL (cR (cL (cR (cR (cR FX)))))))))) (LvA.b (LvA.b (LvA.b (LvA.a (LvA.a (LvA.b (LvA.a (LvA.b (LvA.b (LvA.b (LA 65))))))))))) (K65_prrrlrl pc rk k m1) (uY pc rk k) (aw P oZ)))
noncomputable def K65_pxrrrlrllrrl(m1:Nat):(Nat→KA):=(upA 1 (K65_prrrlrllrr pc rk k m1) (uY pc rk k))
noncomputable def K65_prrrlrllrrllr(m1:Nat):KA:=(bX (LvA.b (LvA.a (LvA.a (LvA.b (LvA.b (LvA.a (LvA.a (LvA.b (LvA.a (LvA.b (LvA.b (LvA.b (LA 65))))))))))))).c (aW P pc noY rk (aq P pc noY rk 65 m1) 65 (cR (cR (cL (cL (cR (cR (cL (cL (cR (cL (cR (cR (cR FX))))))))))))) (LvA.b (LvA.b (LvA.a (LvA.a (LvA.b (LvA.b (LvA.a (LvA.a (LvA.b (LvA.a (LvA.b (LvA.b (LvA.b (LA 65)))))))))))))) (K65_prrrlrllrr pc rk k m1) (K65_pxrrrlrllrrl pc rk k m1) (aw P oZ)))
noncomputable def T65_2(m1:Nat):=fun(u0:D) (u1:D) (u2:D) (u9:D) (u10:D) (u23:D) (u24:D) (u25:D) (u42:D)=>labA (aW P pc noY rk (aq P pc noY rk 65 m1) 65 (cR (cL (cR (cL (cL (cR (cR (cL (cL (cR (cL (cR (cR (cR FX)))))))))))))) (LvA.b (LvA.a (LvA.b (LvA.a (LvA.a (LvA.b (LvA.b (LvA.a (LvA.a (LvA.b (LvA.a (LvA.b (LvA.b (LvA.b (LA 65))))))))))))))) (K65_prrrlrllrrllr pc rk k m1) (K65_pxrrrlrllrrl pc rk k m1) (aw P oZ)) (Tr.set (Tr.set (Tr.set (Tr.set (Tr.set (Tr.set (Tr.set (Tr.set (Tr.set Tr.nil 42 (some (AV.d u42))) 25 (some (AV.d u25))) 24 (some (AV.d u24))) 23 (some (AV.d u23))) 10 (some (AV.d u10))) 9 (some (AV.d u9))) 2 (some (AV.d u2))) 1 (some (AV.d u1))) 0 (some (AV.d u0))) Tr.nil
noncomputable def T65_1(m1:Nat):=fun(u0:D) (u1:D) (u2:D) (u7:D) (u8:D) (u23:D) (u24:D) (u25:D)=>labA (aW P pc noY rk (aq P pc noY rk 65 m1) 65 (cL (cL (cR (cL (cR (cR (cR FX))))))) (LvA.a (LvA.a (LvA.b (LvA.a (LvA.b (LvA.b (LvA.b (LA 65)))))))) (K65_prrrlrl pc rk k m1) (uY pc rk k) (aw P oZ)) (Tr.set (Tr.set (Tr.set (Tr.set (Tr.set (Tr.set (Tr.set (Tr.set Tr.nil 25 (some (AV.d u25))) 24 (some (AV.d u24))) 23 (some (AV.d u23))) 8 (some (AV.d u8))) 7 (some (AV.d u7))) 2 (some (AV.d u2))) 1 (some (AV.d u1))) 0 (some (AV.d u0))) Tr.nil
noncomputable def R65_1(m1:Nat):(D→D→D→D→D→D→D→D→Option D):=fun u0 u1 u2 u7 u8 u23 u24 u25=>labA (aq P pc noY rk 65 m1 (LvA.a (LvA.b (LvA.a (LvA.b (LvA.b (LvA.b (LA 65))))))) (cL (cR (cL (cR (cR (cR FX)))))) (qdk pc rk k) (uY pc rk k) (aw P oZ)) (Tr.set (Tr.set (Tr.set (Tr.set (Tr.set (Tr.set (Tr.set (Tr.set Tr.nil 25 (some (AV.d u25))) 24 (some (AV.d u24))) 23 (some (AV.d u23))) 8 (some (AV.d u8))) 7 (some (AV.d u7))) 2 (some (AV.d u2))) 1 (some (AV.d u1))) 0 (some (AV.d u0))) Tr.nil
noncomputable def B65_2(pc:PC)(k:Nat)(m1:Nat)(b1:(D→D→D→D→D→D→D→D→Option D))(u0:D)(u1:D)(u2:D)(u9:D)(u10:D)(u23:D)(u24:D)(u25:D)(u42:D):Option D:=
ifU u42 (
some (D.v (Value.bool false))) (
chkK (bz u10) (
bindO (pcD P pc 83 [(D.sl [u10])]) fun d_g=>
bindO (pcD P pc 85 [u0,d_g]) fun d_h=>
bindO (elsD u1) fun l_i=>
bindO (idxD u9 l_i.length) fun i_j=>
bindO (l_i[i_j]?) fun d_k=>
chkK (bz d_k) (
bindO (elsD u1) fun l_l=>
bindO (idxD u9 l_l.length) fun i_m=>
bindO (l_l[i_m]?) fun d_n=>
chkK (bz d_n) (
bindO (pcD P pc 86 [d_h,d_k]) fun d_o=>
bindO (pcD P pc 95 [d_h,d_n]) fun d_p=>
bindO (binD P BinOp.add 3 (Operand.tmp 25) (Operand.const (Value.int IntKind.i64 1)) u25 (D.v (Value.int IntKind.i64 1))) fun d_q=>
b1 u0 u1 u2 d_o d_p u23 u24 d_q))))
noncomputable def C65_2(m1:Nat):=B65_2 pc k m1
theorem h65_2(m1:Nat):T65_2 pc rk k m1=C65_2 pc k m1 (R65_1 pc rk k m1):=by kernel_rfl
noncomputable def B65_1(pc:PC)(k:Nat)(m1:Nat)(j2:(D→D→D→D→D→D→D→D→D→Option D))(b1:(D→D→D→D→D→D→D→D→Option D))(u0:D)(u1:D)(u2:D)(u7:D)(u8:D)(u23:D)(u24:D)(u25:D):Option D:=
bindO (binD P BinOp.lss 3 (Operand.tmp 25) (Operand.tmp 24) u25 u24) fun d_8=>
ifU d_8 (
bindO (elsD u23) fun l_9=>
bindO (idxD u25 l_9.length) fun i_a=>
bindO (l_9[i_a]?) fun d_b=>
chkK (bz d_b) (
nilA (AV.d u0) (
bindO (jV u0) fun c_c=>
bindO (cutD c_c 0 5) fun c_d=>
bindO (pcD P pc 93 [(D.agg c_d),d_b]) fun d_e=>
bindO (semD P d_e (Op.unary UnOp.not)) fun d_f=>
ifU d_f (
j2 u0 u1 u2 u25 d_b u23 u24 u25 (D.v (Value.bool true))) (
bindO (pcD P pc 94 [u7,d_b]) fun d_r=>
bindO (semD P d_r (Op.unary UnOp.not)) fun d_s=>
j2 u0 u1 u2 u25 d_b u23 u24 u25 d_s)))) (
bindO (elsD u2) fun l_t=>
bindO (elsD u1) fun l_u=>
bindO (binD P BinOp.eql 3 (Operand.tmp 62) (Operand.tmp 64) (lenD l_t) (lenD l_u)) fun d_v=>
ifU d_v (
some (D.v (Value.bool true))) (
some u8))
noncomputable def C65_1(m1:Nat)(b1:(D→D→D→D→D→D→D→D→Option D)):=B65_1 pc k m1 (C65_2 pc k m1 b1) b1
noncomputable def S65_1:Nat→(D→D→D→D→D→D→D→D→Option D):=recF (C65_1 pc k) (fun _ _ _ _ _ _ _ _=>none)
theorem h65_1(m1:Nat):T65_1 pc rk k m1=C65_1 pc k m1 (R65_1 pc rk k m1):=Eq.trans (b:=B65_1 pc k m1 (T65_2 pc rk k m1) (R65_1 pc rk k m1)) (by kernel_rfl) (by rw[h65_2]; rfl)
theorem q65_1(m:Nat):T65_1 pc rk k m=S65_1 pc k m:=recS (h65_1 pc rk k) (by kernel_rfl) (fun m=>by kernel_rfl) m
noncomputable def B65_0(pc:PC)(k:Nat)(j1:(D→D→D→D→D→D→D→D→Option D))(v0:D)(v1:D)(v2:D):Option D:=
bindO (elsD v2) fun l_1=>
bindO (elsD v1) fun l_2=>
bindO (binD P BinOp.gtr 3 (Operand.tmp 13) (Operand.tmp 15) (lenD l_1) (lenD l_2)) fun d_3=>
ifU d_3 (
some (D.v (Value.bool false))) (
nilA (AV.d v0) (
bindO (jV v0) fun c_4=>
bindO ((List.drop 3 c_4)[0]?) fun d_5=>
bindO (pcD P pc 83 [d_5]) fun d_6=>
bindO (elsD v2) fun l_7=>
j1 v0 v1 v2 d_6 (D.v (Value.bool false)) v2 (lenD l_7) (D.v (Value.int IntKind.i64 0))))
noncomputable def C65_0:=B65_0 pc k (S65_1 pc k k)
theorem h65_0(v0:D)(v1:D)(v2:D):cJ P pc noY rk LA (k+1) 65 [v0,v1,v2]=C65_0 pc k v0 v1 v2:=(bqA Go.Proofs.Tryz.f65 FX oZ (by kernel_rfl)).trans (Eq.trans (b:=B65_0 pc k (T65_1 pc rk k k) v0 v1 v2) (by kernel_rfl) (by rw[q65_1]; rfl))
noncomputable def mW:Code:=ak 66
noncomputable def ev:List ResultVar:=bw 66
noncomputable def yy:KA:=(bX (LvA.b (LvA.b (LvA.b (LA 66)))).c (aW P pc noY rk (aq P pc noY rk 66 k) 66 (cR (cR (cR (cR mW)))) (LvA.b (LvA.b (LvA.b (LvA.b (LA 66))))) (aw P ev) X0A (aw P ev)))
noncomputable def oq:(Nat→KA):=(upA 0 (yy pc rk k) X0A)
noncomputable def FY(m1:Nat):KA:=(bX (LvA.a (LvA.b (LvA.a (LvA.b (LvA.b (LvA.b (LA 66))))))).c (aq P pc noY rk 66 m1 (LvA.a (LvA.b (LvA.a (LvA.b (LvA.b (LvA.b (LA 66))))))) (cL (cR (cL (cR (cR (cR mW)))))) (yy pc rk k) (oq pc rk k) (aw P ev)))
noncomputable def uj:KA:=(bX (LvA.b (LvA.b (LvA.b (LvA.b (LA 66))))).c (aW P pc noY rk (aq P pc noY rk 66 k) 66 (cR (cR (cR (cR (cR mW))))) (LvA.b (LvA.b (LvA.b (LvA.b (LvA.b (LA 66)))))) (aw P ev) X0A (aw P ev)))
noncomputable def mX:(Nat→KA):=(upA 2 (uj pc rk k) X0A)
noncomputable def Dq(m1:Nat):KA:=(bX (LvA.a (LvA.b (LvA.a (LvA.b (LvA.b (LvA.b (LvA.b (LA 66)))))))).c (aq P pc noY rk 66 m1 (LvA.a (LvA.b (LvA.a (LvA.b (LvA.b (LvA.b (LvA.b (LA 66)))))))) (cL (cR (cL (cR (cR (cR (cR mW))))))) (uj pc rk k) (mX pc rk k) (aw P ev)))
noncomputable def T66_2(m1:Nat):=fun(u40:D) (u41:D) (u42:D) (c16:List D)=>labA (aW P pc noY rk (aq P pc noY rk 66 m1) 66 (cL (cL (cR (cL (cR (cR (cR (cR mW)))))))) (LvA.a (LvA.a (LvA.b (LvA.a (LvA.b (LvA.b (LvA.b (LvA.b (LA 66))))))))) (Dq pc rk k m1) (mX pc rk k) (aw P ev)) (Tr.set (Tr.set (Tr.set (Tr.set Tr.nil 42 (some (AV.d u42))) 41 (some (AV.d u41))) 40 (some (AV.d u40))) 5 (some (AV.loc 16 0))) (Tr.set Tr.nil 16 (some (Bx.dat c16 false)))
noncomputable def R66_2(m1:Nat):(D→D→D→List D→Option D):=fun u40 u41 u42 c16=>labA (aq P pc noY rk 66 m1 (LvA.a (LvA.b (LvA.a (LvA.b (LvA.b (LvA.b (LvA.b (LA 66)))))))) (cL (cR (cL (cR (cR (cR (cR mW))))))) (uj pc rk k) (mX pc rk k) (aw P ev)) (Tr.set (Tr.set (Tr.set (Tr.set Tr.nil 42 (some (AV.d u42))) 41 (some (AV.d u41))) 40 (some (AV.d u40))) 5 (some (AV.loc 16 0))) (Tr.set Tr.nil 16 (some (Bx.dat c16 false)))
noncomputable def T66_1(m1:Nat):=fun(u22:D) (u23:D) (c16:List D)=>labA (aW P pc noY rk (aq P pc noY rk 66 m1) 66 (cL (cL (cR (cL (cR (cR (cR mW))))))) (LvA.a (LvA.a (LvA.b (LvA.a (LvA.b (LvA.b (LvA.b (LA 66)))))))) (FY pc rk k m1) (oq pc rk k) (aw P ev)) (Tr.set (Tr.set (Tr.set Tr.nil 23 (some (AV.d u23))) 22 (some (AV.d u22))) 5 (some (AV.loc 16 0))) (Tr.set Tr.nil 16 (some (Bx.dat c16 false)))
noncomputable def R66_1(m1:Nat):(D→D→List D→Option D):=fun u22 u23 c16=>labA (aq P pc noY rk 66 m1 (LvA.a (LvA.b (LvA.a (LvA.b (LvA.b (LvA.b (LA 66))))))) (cL (cR (cL (cR (cR (cR mW)))))) (yy pc rk k) (oq pc rk k) (aw P ev)) (Tr.set (Tr.set (Tr.set Tr.nil 23 (some (AV.d u23))) 22 (some (AV.d u22))) 5 (some (AV.loc 16 0))) (Tr.set Tr.nil 16 (some (Bx.dat c16 false)))
noncomputable def B66_2(pc:PC)(k:Nat)(m1:Nat)(b2:(D→D→D→List D→Option D))(u40:D)(u41:D)(u42:D)(c16:List D):Option D:=
bindO (binD P BinOp.lss 3 (Operand.tmp 42) (Operand.tmp 41) u42 u41) fun d_f=>
ifU d_f (
bindO (elsD u40) fun l_g=>
bindO (idxD u42 l_g.length) fun i_h=>
bindO (l_g[i_h]?) fun d_i=>
bindO (aggD d_i) fun c_j=>
chkK (Nat.beq c_j.length 2) (
bindO (cutD c_j 0 2) fun c_k=>
bindO (splD [(D.v (Value.int IntKind.i64 0)),(D.v (Value.int IntKind.i64 0))] 0 c_k 2) fun c_l=>
bindO (c_l[0]?) fun d_m=>
bindO (idxD d_m 8) fun i_n=>
bindO (c16[(5+i_n * 1)]?) fun d_o=>
bindO (c_l[1]?) fun d_p=>
chkK (bz d_p) (
bindO (pcD P pc 83 [(D.sl [d_p])]) fun d_q=>
bindO (binD P BinOp.or 106 (Operand.tmp 52) (Operand.tmp 56) d_o d_q) fun d_r=>
bindO (idxD d_m 8) fun i_s=>
chkK (bz d_r) (
chkK (Nat.blt (5+i_s * 1) c16.length) (
bindO (c_l[1]?) fun d_t=>
bindO (idxD d_t 8) fun i_u=>
bindO ((List.set c16 (5+i_s * 1) d_r)[(5+i_u * 1)]?) fun d_v=>
bindO (c_l[0]?) fun d_w=>
chkK (bz d_w) (
bindO (pcD P pc 83 [(D.sl [d_w])]) fun d_x=>
bindO (binD P BinOp.or 106 (Operand.tmp 67) (Operand.tmp 71) d_v d_x) fun d_y=>
bindO (idxD d_t 8) fun i_z=>
chkK (bz d_y) (
chkK (Nat.blt (5+i_z * 1) (List.set c16 (5+i_s * 1) d_r).length) (
bindO (binD P BinOp.add 3 (Operand.tmp 42) (Operand.const (Value.int IntKind.i64 1)) u42 (D.v (Value.int IntKind.i64 1))) fun d_10=>
b2 u40 u41 d_10 (List.set (List.set c16 (5+i_s * 1) d_r) (5+i_z * 1) d_y))))))))) (
some (D.tup [(D.ref c16),(D.v (Value.int IntKind.i64 0))]))
noncomputable def Xj(m1:Nat):=B66_2 pc k m1
noncomputable def Xq:Nat→(D→D→D→List D→Option D):=recF (Xj pc k) (fun _ _ _ _=>none)
theorem h66_2(m1:Nat):T66_2 pc rk k m1=Xj pc k m1 (R66_2 pc rk k m1):=by kernel_rfl
theorem q66_2(m:Nat):T66_2 pc rk k m=Xq pc k m:=recS (h66_2 pc rk k) (by kernel_rfl) (fun m=>by kernel_rfl) m
noncomputable def B66_1(pc:PC)(k:Nat)(m1:Nat)(j2:(D→D→D→List D→Option D))(b1:(D→D→List D→Option D))(u22:D)(u23:D)(c16:List D):Option D:=
bindO (binD P BinOp.lss 3 (Operand.tmp 23) (Operand.tmp 22) u23 u22) fun d_9=>
ifU d_9 (
chkK (bz u23) (
bindO (pcD P pc 83 [(D.sl [u23])]) fun d_a=>
bindO (idxD u23 8) fun i_b=>
chkK (bz d_a) (
chkK (Nat.blt (5+i_b * 1) c16.length) (
bindO (binD P BinOp.add 3 (Operand.tmp 23) (Operand.const (Value.int IntKind.i64 1)) u23 (D.v (Value.int IntKind.i64 1))) fun d_c=>
b1 u22 d_c (List.set c16 (5+i_b * 1) d_a))))) (
bindO (c16[1]?) fun d_d=>
bindO (elsD d_d) fun l_e=>
j2 d_d (lenD l_e) (D.v (Value.int IntKind.i64 0)) c16)
noncomputable def Xv(m1:Nat):=B66_1 pc k m1 (Xq pc k k)
noncomputable def Xw:Nat→(D→D→List D→Option D):=recF (Xv pc k) (fun _ _ _=>none)
theorem h66_1(m1:Nat):T66_1 pc rk k m1=Xv pc k m1 (R66_1 pc rk k m1):=Eq.trans (b:=B66_1 pc k m1 (T66_2 pc rk k k) (R66_1 pc rk k m1)) (by kernel_rfl) (by rw[q66_2]; rfl)
theorem q66_1(m:Nat):T66_1 pc rk k m=Xw pc k m:=recS (h66_1 pc rk k) (by kernel_rfl) (fun m=>by kernel_rfl) m
noncomputable def B66_0(pc:PC)(k:Nat)(j1:(D→D→List D→Option D))(v0:D):Option D:=
bindO (aggD v0) fun c_1=>
bindO (cutD c_1 0 5) fun c_2=>
bindO (pcD P pc 55 [(D.agg c_2)]) fun d_3=>
bindO (binD P BinOp.neq 33 (Operand.tmp 11) (Operand.const (Value.int IntKind.i64 0)) d_3 (D.v (Value.int IntKind.i64 0))) fun d_4=>
ifU d_4 (
some (D.tup [(D.v (Value.pointer none)),d_3])) (
bindO (cutD c_1 0 5) fun c_5=>
bindO (Kw [(D.v (Value.slice none 0 0)),(D.v (Value.slice none 0 0)),(D.v (Value.slice none 0 0)),(D.v (Value.slice none 0 0)),(D.v (Value.slice none 0 0)),(D.v (Value.int IntKind.u64 0)),(D.v (Value.int IntKind.u64 0)),(D.v (Value.int IntKind.u64 0)),(D.v (Value.int IntKind.u64 0)),(D.v (Value.int IntKind.u64 0)),(D.v (Value.int IntKind.u64 0)),(D.v (Value.int IntKind.u64 0)),(D.v (Value.int IntKind.u64 0))] [(0,5,(D.agg c_5))]) fun c_6=>
bindO (c_6[4]?) fun d_7=>
bindO (elsD d_7) fun l_8=>
j1 (lenD l_8) (D.v (Value.int IntKind.i64 0)) c_6)
noncomputable def C66_0:=B66_0 pc k (Xw pc k k)
theorem h66_0(v0:D):cJ P pc noY rk LA (k+1) 66 [v0]=C66_0 pc k v0:=(bqA Go.Proofs.Tryz.f66 mW ev (by kernel_rfl)).trans (Eq.trans (b:=B66_0 pc k (T66_1 pc rk k k) v0) (by kernel_rfl) (by rw[q66_1]; rfl))
noncomputable def code72:Code:=ak 72
noncomputable def results72:List ResultVar:=bw 72
noncomputable def B72_0(pc:PC)(k:Nat)(v0:D)(v1:D):Option D:=
bindO (elsD v0) fun l_1=>
bindO (binD P BinOp.eql 3 (Operand.tmp 6) (Operand.const (Value.int IntKind.i64 0)) (lenD l_1) (D.v (Value.int IntKind.i64 0))) fun d_2=>
ifU d_2 (
some (D.v (Value.int IntKind.i64 0))) (
bindO (elsD v0) fun l_3=>
bindO (binD P BinOp.rem 3 (Operand.tmp 9) (Operand.tmp 11) v1 (lenD l_3)) fun d_4=>
bindO (elsD v0) fun l_5=>
bindO (idxD d_4 l_5.length) fun i_6=>
bindO (l_5[i_6]?) fun d_7=>
chkK (bz d_7) (
bindO (semD P d_7 (convert 79 3)) fun d_8=>
some d_8))
noncomputable def C72_0:=B72_0 pc k
theorem h72_0(v0:D)(v1:D):cJ P pc noY rk LA (k+1) 72 [v0,v1]=C72_0 pc k v0 v1:=(bqA Go.Proofs.Tryz.f72 code72 results72 (by kernel_rfl)).trans (by kernel_rfl)
noncomputable def code73:Code:=ak 73
noncomputable def results73:List ResultVar:=bw 73
noncomputable def B73_0(pc:PC)(k:Nat)(v0:D)(v1:D):Option D:=
bindO (pcD P pc 59 [v0,v1]) fun d_1=>
bindO (elsD v1) fun l_2=>
bindO (elsD d_1) fun l_3=>
bindO (idxD (lenD l_2) l_3.length) fun i_4=>
bindO (l_3[i_4]?) fun d_5=>
chkK (bz d_5) (
bindO (binD P BinOp.eql 106 (Operand.tmp 11) (Operand.const (Value.int IntKind.u64 0)) d_5 (D.v (Value.int IntKind.u64 0))) fun d_6=>
some d_6)
noncomputable def C73_0:=B73_0 pc k
theorem h73_0(v0:D)(v1:D):cJ P pc noY rk LA (k+1) 73 [v0,v1]=C73_0 pc k v0 v1:=(bqA Go.Proofs.Tryz.f73 code73 results73 (by kernel_rfl)).trans (by kernel_rfl)
noncomputable def code74:Code:=ak 74
noncomputable def xw:List ResultVar:=bw 74
noncomputable def K74_prr:KA:=(bX (LvA.b (LvA.b (LA 74))).c (aW P pc noY rk (aq P pc noY rk 74 k) 74 (cR (cR (cR code74))) (LvA.b (LvA.b (LvA.b (LA 74)))) (aw P xw) X0A (aw P xw)))
noncomputable def Lk:(Nat→KA):=(upA 0 (K74_prr pc rk k) X0A)
noncomputable def K74_prrlrl(m1:Nat):KA:=(bX (LvA.a (LvA.b (LvA.a (LvA.b (LvA.b (LA 74)))))).c (aq P pc noY rk 74 m1 (LvA.a (LvA.b (LvA.a (LvA.b (LvA.b (LA 74)))))) (cL (cR (cL (cR (cR code74))))) (K74_prr pc rk k) (Lk pc rk k) (aw P xw)))
noncomputable def T74_1(m1:Nat):=fun(u6:D) (u7:D) (u8:D) (l16:List D)=>labA (aW P pc noY rk (aq P pc noY rk 74 m1) 74 (cL (cL (cR (cL (cR (cR code74)))))) (LvA.a (LvA.a (LvA.b (LvA.a (LvA.b (LvA.b (LA 74))))))) (K74_prrlrl pc rk k m1) (Lk pc rk k) (aw P xw)) (Tr.set (Tr.set (Tr.set (Tr.set Tr.nil 8 (some (AV.d u8))) 7 (some (AV.d u7))) 6 (some (AV.d u6))) 3 (some (AV.osl 16))) (Tr.set Tr.nil 16 (some (Bx.vec l16 3 1 false)))
noncomputable def R74_1(m1:Nat):(D→D→D→List D→Option D):=fun u6 u7 u8 l16=>labA (aq P pc noY rk 74 m1 (LvA.a (LvA.b (LvA.a (LvA.b (LvA.b (LA 74)))))) (cL (cR (cL (cR (cR code74))))) (K74_prr pc rk k) (Lk pc rk k) (aw P xw)) (Tr.set (Tr.set (Tr.set (Tr.set Tr.nil 8 (some (AV.d u8))) 7 (some (AV.d u7))) 6 (some (AV.d u6))) 3 (some (AV.osl 16))) (Tr.set Tr.nil 16 (some (Bx.vec l16 3 1 false)))
noncomputable def B74_1(pc:PC)(k:Nat)(m1:Nat)(b1:(D→D→D→List D→Option D))(u6:D)(u7:D)(u8:D)(l16:List D):Option D:=
bindO (binD P BinOp.lss 3 (Operand.tmp 8) (Operand.tmp 7) u8 u7) fun d_2=>
ifU d_2 (
bindO (elsD u6) fun l_3=>
bindO (idxD u8 l_3.length) fun i_4=>
bindO (l_3[i_4]?) fun d_5=>
chkK (bz d_5) (
bindO (pcD P pc 99 [d_5]) fun d_6=>
chkK (bz d_6) (
bindO (appD l16 [d_6]) fun l_7=>
bindO (binD P BinOp.add 3 (Operand.tmp 8) (Operand.const (Value.int IntKind.i64 1)) u8 (D.v (Value.int IntKind.i64 1))) fun d_8=>
b1 u6 u7 d_8 l_7))) (
bindO (pcD P pc 100 [(D.v (Value.int IntKind.i64 0)),(D.sl l16)]) fun d_9=>
some d_9)
noncomputable def C74_1(m1:Nat):=B74_1 pc k m1
noncomputable def S74_1:Nat→(D→D→D→List D→Option D):=recF (C74_1 pc k) (fun _ _ _ _=>none)
theorem h74_1(m1:Nat):T74_1 pc rk k m1=C74_1 pc k m1 (R74_1 pc rk k m1):=by kernel_rfl
theorem q74_1(m:Nat):T74_1 pc rk k m=S74_1 pc k m:=recS (h74_1 pc rk k) (by kernel_rfl) (fun m=>by kernel_rfl) m
noncomputable def B74_0(pc:PC)(k:Nat)(j1:(D→D→D→List D→Option D))(v0:D):Option D:=
bindO (elsD v0) fun l_1=>
j1 v0 (lenD l_1) (D.v (Value.int IntKind.i64 0)) []
noncomputable def C74_0:=B74_0 pc k (S74_1 pc k k)
theorem h74_0(v0:D):cJ P pc noY rk LA (k+1) 74 [v0]=C74_0 pc k v0:=(bqA Go.Proofs.Tryz.f74 code74 xw (by kernel_rfl)).trans (Eq.trans (b:=B74_0 pc k (T74_1 pc rk k k) v0) (by kernel_rfl) (by rw[q74_1]; rfl))
noncomputable def LJ:Code:=ak 75
noncomputable def sq:List ResultVar:=bw 75
noncomputable def K75_pr:KA:=(bX (LvA.b (LA 75)).c (aW P pc noY rk (aq P pc noY rk 75 k) 75 (cR (cR LJ)) (LvA.b (LvA.b (LA 75))) (aw P sq) X0A (aw P sq)))
noncomputable def By:(Nat→KA):=(upA 0 (K75_pr pc rk k) X0A)
noncomputable def K75_prlrl(m1:Nat):KA:=(bX (LvA.a (LvA.b (LvA.a (LvA.b (LA 75))))).c (aq P pc noY rk 75 m1 (LvA.a (LvA.b (LvA.a (LvA.b (LA 75))))) (cL (cR (cL (cR LJ)))) (K75_pr pc rk k) (By pc rk k) (aw P sq)))
noncomputable def K75_prlrllr(m1:Nat):KA:=(bX (LvA.b (LvA.a (LvA.a (LvA.b (LvA.a (LvA.b (LA 75))))))).c (aW P pc noY rk (aq P pc noY rk 75 m1) 75 (cR (cR (cL (cL (cR (cL (cR LJ))))))) (LvA.b (LvA.b (LvA.a (LvA.a (LvA.b (LvA.a (LvA.b (LA 75)))))))) (K75_prlrl pc rk k m1) (By pc rk k) (aw P sq)))
noncomputable def K75_pxrlrllrl(m1:Nat):(Nat→KA):=(upA 1 (K75_prlrllr pc rk k m1) (By pc rk k))
noncomputable def T75_2(m1:Nat):=fun(u1:D) (u2:D) (u7:D) (u42:D) (c3:List D)=>labA (aW P pc noY rk (aq P pc noY rk 75 m1) 75 (cR (cR (cL (cL (cR (cL (cL (cR (cL (cR LJ)))))))))) (LvA.b (LvA.b (LvA.a (LvA.a (LvA.b (LvA.a (LvA.a (LvA.b (LvA.a (LvA.b (LA 75))))))))))) (K75_prlrllr pc rk k m1) (K75_pxrlrllrl pc rk k m1) (aw P sq)) (Tr.set (Tr.set (Tr.set (Tr.set (Tr.set Tr.nil 42 (some (AV.d u42))) 7 (some (AV.d u7))) 3 (some (AV.loc 3 0))) 2 (some (AV.d u2))) 1 (some (AV.d u1))) (Tr.set Tr.nil 3 (some (Bx.dat c3 false)))
noncomputable def T75_1(m1:Nat):=fun(u1:D) (u2:D) (u7:D) (c3:List D)=>labA (aW P pc noY rk (aq P pc noY rk 75 m1) 75 (cL (cL (cR (cL (cR LJ))))) (LvA.a (LvA.a (LvA.b (LvA.a (LvA.b (LA 75)))))) (K75_prlrl pc rk k m1) (By pc rk k) (aw P sq)) (Tr.set (Tr.set (Tr.set (Tr.set Tr.nil 7 (some (AV.d u7))) 3 (some (AV.loc 3 0))) 2 (some (AV.d u2))) 1 (some (AV.d u1))) (Tr.set Tr.nil 3 (some (Bx.dat c3 false)))
noncomputable def R75_1(m1:Nat):(D→D→D→List D→Option D):=fun u1 u2 u7 c3=>labA (aq P pc noY rk 75 m1 (LvA.a (LvA.b (LvA.a (LvA.b (LA 75))))) (cL (cR (cL (cR LJ)))) (K75_pr pc rk k) (By pc rk k) (aw P sq)) (Tr.set (Tr.set (Tr.set (Tr.set Tr.nil 7 (some (AV.d u7))) 3 (some (AV.loc 3 0))) 2 (some (AV.d u2))) 1 (some (AV.d u1))) (Tr.set Tr.nil 3 (some (Bx.dat c3 false)))
noncomputable def B75_2(pc:PC)(k:Nat)(m1:Nat)(b1:(D→D→D→List D→Option D))(u1:D)(u2:D)(u7:D)(u42:D)(c3:List D):Option D:=
ifU u42 (
some (D.v (Value.bool true))) (
bindO (binD P BinOp.add 3 (Operand.tmp 14) (Operand.const (Value.int IntKind.i64 1)) u7 (D.v (Value.int IntKind.i64 1))) fun d_g=>
b1 u1 u2 d_g c3)
noncomputable def C75_2(m1:Nat):=B75_2 pc k m1
theorem h75_2(m1:Nat):T75_2 pc rk k m1=C75_2 pc k m1 (R75_1 pc rk k m1):=by kernel_rfl
noncomputable def B75_1(pc:PC)(k:Nat)(m1:Nat)(j2:(D→D→D→D→List D→Option D))(b1:(D→D→D→List D→Option D))(u1:D)(u2:D)(u7:D)(c3:List D):Option D:=
bindO (c3[1]?) fun d_2=>
bindO (elsD d_2) fun l_3=>
bindO (binD P BinOp.lss 3 (Operand.tmp 9) (Operand.tmp 12) u7 (lenD l_3)) fun d_4=>
ifU d_4 (
bindO (c3[1]?) fun d_5=>
bindO (elsD d_5) fun l_6=>
bindO (idxD u7 l_6.length) fun i_7=>
bindO (l_6[i_7]?) fun d_8=>
bindO (aggD d_8) fun c_9=>
chkK (Nat.beq c_9.length 2) (
bindO (cutD c_9 0 2) fun c_a=>
bindO (splD [(D.v (Value.int IntKind.i64 0)),(D.v (Value.int IntKind.i64 0))] 0 c_a 2) fun c_b=>
bindO (c_b[0]?) fun d_c=>
bindO (binD P BinOp.eql 3 (Operand.tmp 22) (Operand.tmp 23) d_c u1) fun d_d=>
ifU d_d (
bindO (c_b[1]?) fun d_e=>
bindO (binD P BinOp.eql 3 (Operand.tmp 27) (Operand.tmp 28) d_e u2) fun d_f=>
ifU d_f (
j2 u1 u2 u7 (D.v (Value.bool true)) c3) (
bindO (c_b[0]?) fun d_h=>
bindO (binD P BinOp.eql 3 (Operand.tmp 33) (Operand.tmp 34) d_h u2) fun d_i=>
ifU d_i (
bindO (c_b[1]?) fun d_j=>
bindO (binD P BinOp.eql 3 (Operand.tmp 38) (Operand.tmp 39) d_j u1) fun d_k=>
j2 u1 u2 u7 d_k c3) (
j2 u1 u2 u7 (D.v (Value.bool false)) c3))) (
bindO (c_b[0]?) fun d_l=>
bindO (binD P BinOp.eql 3 (Operand.tmp 33) (Operand.tmp 34) d_l u2) fun d_m=>
ifU d_m (
bindO (c_b[1]?) fun d_n=>
bindO (binD P BinOp.eql 3 (Operand.tmp 38) (Operand.tmp 39) d_n u1) fun d_o=>
j2 u1 u2 u7 d_o c3) (
j2 u1 u2 u7 (D.v (Value.bool false)) c3)))) (
some (D.v (Value.bool false)))
noncomputable def C75_1(m1:Nat)(b1:(D→D→D→List D→Option D)):=B75_1 pc k m1 (C75_2 pc k m1 b1) b1
noncomputable def S75_1:Nat→(D→D→D→List D→Option D):=recF (C75_1 pc k) (fun _ _ _ _=>none)
theorem h75_1(m1:Nat):T75_1 pc rk k m1=C75_1 pc k m1 (R75_1 pc rk k m1):=Eq.trans (b:=B75_1 pc k m1 (T75_2 pc rk k m1) (R75_1 pc rk k m1)) (by kernel_rfl) (by rw[h75_2]; rfl)
theorem q75_1(m:Nat):T75_1 pc rk k m=S75_1 pc k m:=recS (h75_1 pc rk k) (by kernel_rfl) (fun m=>by kernel_rfl) m
noncomputable def B75_0(pc:PC)(k:Nat)(j1:(D→D→D→List D→Option D))(v0:D)(v1:D)(v2:D):Option D:=
bindO (aggD v0) fun c_1=>
j1 v1 v2 (D.v (Value.int IntKind.i64 0)) c_1
noncomputable def C75_0:=B75_0 pc k (S75_1 pc k k)
theorem h75_0(v0:D)(v1:D)(v2:D):cJ P pc noY rk LA (k+1) 75 [v0,v1,v2]=C75_0 pc k v0 v1 v2:=(bqA Go.Proofs.Tryz.f75 LJ sq (by kernel_rfl)).trans (Eq.trans (b:=B75_0 pc k (T75_1 pc rk k k) v0 v1 v2) (by kernel_rfl) (by rw[q75_1]; rfl))
noncomputable def code77:Code:=ak 77
noncomputable def RJ:List ResultVar:=bw 77
noncomputable def B77_0(pc:PC)(k:Nat)(v0:D):Option D:=
bindO (aggD v0) fun c_1=>
bindO (cutD c_1 0 3) fun c_2=>
bindO (pcD P pc 102 [(D.agg c_2)]) fun d_3=>
some d_3
noncomputable def C77_0:=B77_0 pc k
theorem h77_0(v0:D):cJ P pc noY rk LA (k+1) 77 [v0]=C77_0 pc k v0:=(bqA Go.Proofs.Tryz.f77 code77 RJ (by kernel_rfl)).trans (by kernel_rfl)
noncomputable def code78:Code:=ak 78
noncomputable def RQ:List ResultVar:=bw 78
noncomputable def B78_0(pc:PC)(k:Nat)(v0:D)(v1:D):Option D:=
bindO (aggD v0) fun c_1=>
bindO (cutD c_1 0 5) fun c_2=>
bindO (pcD P pc 79 [v1,(D.fn 93 [(D.agg c_2)] [])]) fun d_3=>
ifU d_3 (
bindO (pcD P pc 103 [v1]) fun d_4=>
some d_4) (
some (D.v (Value.bool false)))
noncomputable def C78_0:=B78_0 pc k
theorem h78_0(v0:D)(v1:D):cJ P pc noY rk LA (k+1) 78 [v0,v1]=C78_0 pc k v0 v1:=(bqA Go.Proofs.Tryz.f78 code78 RQ (by kernel_rfl)).trans (by kernel_rfl)
noncomputable def yz:Code:=ak 79
noncomputable def jv:List ResultVar:=bw 79
noncomputable def LQ:KA:=(bX (LvA.b (LA 79)).c (aW P pc noY rk (aq P pc noY rk 79 k) 79 (cR (cR yz)) (LvA.b (LvA.b (LA 79))) (aw P jv) X0A (aw P jv)))
noncomputable def uq:(Nat→KA):=(upA 0 (LQ pc rk k) X0A)
noncomputable def RV(m1:Nat):KA:=(bX (LvA.a (LvA.b (LvA.a (LvA.b (LA 79))))).c (aq P pc noY rk 79 m1 (LvA.a (LvA.b (LvA.a (LvA.b (LA 79))))) (cL (cR (cL (cR yz)))) (LQ pc rk k) (uq pc rk k) (aw P jv)))
noncomputable def T79_1(m1:Nat):=fun(u1:D) (u7:D) (u8:D) (u9:D)=>labA (aW P pc noY rk (aq P pc noY rk 79 m1) 79 (cL (cL (cR (cL (cR yz))))) (LvA.a (LvA.a (LvA.b (LvA.a (LvA.b (LA 79)))))) (RV pc rk k m1) (uq pc rk k) (aw P jv)) (Tr.set (Tr.set (Tr.set (Tr.set Tr.nil 9 (some (AV.d u9))) 8 (some (AV.d u8))) 7 (some (AV.d u7))) 1 (some (AV.d u1))) Tr.nil
noncomputable def R79_1(m1:Nat):(D→D→D→D→Option D):=fun u1 u7 u8 u9=>labA (aq P pc noY rk 79 m1 (LvA.a (LvA.b (LvA.a (LvA.b (LA 79))))) (cL (cR (cL (cR yz)))) (LQ pc rk k) (uq pc rk k) (aw P jv)) (Tr.set (Tr.set (Tr.set (Tr.set Tr.nil 9 (some (AV.d u9))) 8 (some (AV.d u8))) 7 (some (AV.d u7))) 1 (some (AV.d u1))) Tr.nil
noncomputable def B79_1(pc:PC)(k:Nat)(m1:Nat)(b1:(D→D→D→D→Option D))(u1:D)(u7:D)(u8:D)(u9:D):Option D:=
bindO (binD P BinOp.lss 3 (Operand.tmp 9) (Operand.tmp 8) u9 u8) fun d_2=>
ifU d_2 (
bindO (elsD u7) fun l_3=>
bindO (idxD u9 l_3.length) fun i_4=>
bindO (l_3[i_4]?) fun d_5=>
chkK (bz d_5) (
fnK u1 fun g a b=>
bindO (pcD P pc g (a++[d_5]++b)) fun d_6=>
bindO (semD P d_6 (Op.unary UnOp.not)) fun d_7=>
ifU d_7 (
some (D.v (Value.bool false))) (
bindO (binD P BinOp.add 3 (Operand.tmp 9) (Operand.const (Value.int IntKind.i64 1)) u9 (D.v (Value.int IntKind.i64 1))) fun d_8=>
b1 u1 u7 u8 d_8))) (
some (D.v (Value.bool true)))
noncomputable def Xx(m1:Nat):=B79_1 pc k m1
noncomputable def Xy:Nat→(D→D→D→D→Option D):=recF (Xx pc k) (fun _ _ _ _=>none)
theorem h79_1(m1:Nat):T79_1 pc rk k m1=Xx pc k m1 (R79_1 pc rk k m1):=by kernel_rfl
theorem q79_1(m:Nat):T79_1 pc rk k m=Xy pc k m:=recS (h79_1 pc rk k) (by kernel_rfl) (fun m=>by kernel_rfl) m
noncomputable def B79_0(pc:PC)(k:Nat)(j1:(D→D→D→D→Option D))(v0:D)(v1:D):Option D:=
bindO (elsD v0) fun l_1=>
j1 v1 v0 (lenD l_1) (D.v (Value.int IntKind.i64 0))
noncomputable def C79_0:=B79_0 pc k (Xy pc k k)
theorem h79_0(v0:D)(v1:D):cJ P pc noY rk LA (k+1) 79 [v0,v1]=C79_0 pc k v0 v1:=(bqA Go.Proofs.Tryz.f79 yz jv (by kernel_rfl)).trans (Eq.trans (b:=B79_0 pc k (T79_1 pc rk k k) v0 v1) (by kernel_rfl) (by rw[q79_1]; rfl))
noncomputable def code80:Code:=ak 80
noncomputable def RW:List ResultVar:=bw 80
noncomputable def B80_0(pc:PC)(k:Nat)(v0:D):Option D:=
bindO (binD P BinOp.geq 3 (Operand.tmp 3) (Operand.const (Value.int IntKind.i64 0)) v0 (D.v (Value.int IntKind.i64 0))) fun d_1=>
ifU d_1 (
bindO (binD P BinOp.leq 3 (Operand.tmp 6) (Operand.const (Value.int IntKind.i64 100)) v0 (D.v (Value.int IntKind.i64 100))) fun d_2=>
some d_2) (
some (D.v (Value.bool false)))
noncomputable def C80_0:=B80_0 pc k
theorem h80_0(v0:D):cJ P pc noY rk LA (k+1) 80 [v0]=C80_0 pc k v0:=(bqA Go.Proofs.Tryz.f80 code80 RW (by kernel_rfl)).trans (by kernel_rfl)
noncomputable def code81:Code:=ak 81
noncomputable def results81:List ResultVar:=bw 81
noncomputable def B81_0(pc:PC)(k:Nat)(v0:D):Option D:=
bindO (aggD v0) fun c_1=>
bindO (c_1[0]?) fun d_2=>
bindO (c_1[1]?) fun d_3=>
chkK (bz d_2) (
chkK (bz d_3) (
some (D.agg [d_2,d_3])))
noncomputable def C81_0:=B81_0 pc k
theorem h81_0(v0:D):cJ P pc noY rk LA (k+1) 81 [v0]=C81_0 pc k v0:=(bqA Go.Proofs.Tryz.f81 code81 results81 (by kernel_rfl)).trans (by kernel_rfl)
noncomputable def yJ:Code:=ak 82
noncomputable def jw:List ResultVar:=bw 82
noncomputable def LV:KA:=(bX (LvA.b (LA 82)).c (aW P pc noY rk (aq P pc noY rk 82 k) 82 (cR (cR yJ)) (LvA.b (LvA.b (LA 82))) (aw P jw) X0A (aw P jw)))
noncomputable def uv:(Nat→KA):=(upA 0 (LV pc rk k) X0A)
noncomputable def RX(m1:Nat):KA:=(bX (LvA.a (LvA.b (LvA.a (LvA.b (LA 82))))).c (aq P pc noY rk 82 m1 (LvA.a (LvA.b (LvA.a (LvA.b (LA 82))))) (cL (cR (cL (cR yJ)))) (LV pc rk k) (uv pc rk k) (aw P jw)))
noncomputable def T82_1(m1:Nat):=fun(u1:D) (u7:D) (u8:D) (u9:D)=>labA (aW P pc noY rk (aq P pc noY rk 82 m1) 82 (cL (cL (cR (cL (cR yJ))))) (LvA.a (LvA.a (LvA.b (LvA.a (LvA.b (LA 82)))))) (RX pc rk k m1) (uv pc rk k) (aw P jw)) (Tr.set (Tr.set (Tr.set (Tr.set Tr.nil 9 (some (AV.d u9))) 8 (some (AV.d u8))) 7 (some (AV.d u7))) 1 (some (AV.d u1))) Tr.nil
noncomputable def R82_1(m1:Nat):(D→D→D→D→Option D):=fun u1 u7 u8 u9=>labA (aq P pc noY rk 82 m1 (LvA.a (LvA.b (LvA.a (LvA.b (LA 82))))) (cL (cR (cL (cR yJ)))) (LV pc rk k) (uv pc rk k) (aw P jw)) (Tr.set (Tr.set (Tr.set (Tr.set Tr.nil 9 (some (AV.d u9))) 8 (some (AV.d u8))) 7 (some (AV.d u7))) 1 (some (AV.d u1))) Tr.nil
noncomputable def B82_1(pc:PC)(k:Nat)(m1:Nat)(b1:(D→D→D→D→Option D))(u1:D)(u7:D)(u8:D)(u9:D):Option D:=
bindO (binD P BinOp.lss 3 (Operand.tmp 9) (Operand.tmp 8) u9 u8) fun d_2=>
ifU d_2 (
bindO (elsD u7) fun l_3=>
bindO (idxD u9 l_3.length) fun i_4=>
bindO (l_3[i_4]?) fun d_5=>
chkK (bz d_5) (
fnK u1 fun g a b=>
bindO (pcD P pc g (a++[d_5]++b)) fun d_6=>
bindO (semD P d_6 (Op.unary UnOp.not)) fun d_7=>
ifU d_7 (
some (D.v (Value.bool false))) (
bindO (binD P BinOp.add 3 (Operand.tmp 9) (Operand.const (Value.int IntKind.i64 1)) u9 (D.v (Value.int IntKind.i64 1))) fun d_8=>
b1 u1 u7 u8 d_8))) (
some (D.v (Value.bool true)))
noncomputable def Xz(m1:Nat):=B82_1 pc k m1
noncomputable def Xk:Nat→(D→D→D→D→Option D):=recF (Xz pc k) (fun _ _ _ _=>none)
theorem h82_1(m1:Nat):T82_1 pc rk k m1=Xz pc k m1 (R82_1 pc rk k m1):=by kernel_rfl
theorem q82_1(m:Nat):T82_1 pc rk k m=Xk pc k m:=recS (h82_1 pc rk k) (by kernel_rfl) (fun m=>by kernel_rfl) m
noncomputable def B82_0(pc:PC)(k:Nat)(j1:(D→D→D→D→Option D))(v0:D)(v1:D):Option D:=
bindO (elsD v0) fun l_1=>
j1 v1 v0 (lenD l_1) (D.v (Value.int IntKind.i64 0))
noncomputable def C82_0:=B82_0 pc k (Xk pc k k)
theorem h82_0(v0:D)(v1:D):cJ P pc noY rk LA (k+1) 82 [v0,v1]=C82_0 pc k v0 v1:=(bqA Go.Proofs.Tryz.f82 yJ jw (by kernel_rfl)).trans (Eq.trans (b:=B82_0 pc k (T82_1 pc rk k k) v0 v1) (by kernel_rfl) (by rw[q82_1]; rfl))
noncomputable def yQ:Code:=ak 83
noncomputable def jx:List ResultVar:=bw 83
noncomputable def Dv:KA:=(bX (LvA.b (LvA.b (LA 83))).c (aW P pc noY rk (aq P pc noY rk 83 k) 83 (cR (cR (cR yQ))) (LvA.b (LvA.b (LvA.b (LA 83)))) (aw P jx) X0A (aw P jx)))
noncomputable def qX:(Nat→KA):=(upA 0 (Dv pc rk k) X0A)
noncomputable def LW(m1:Nat):KA:=(bX (LvA.a (LvA.b (LvA.a (LvA.b (LvA.b (LA 83)))))).c (aq P pc noY rk 83 m1 (LvA.a (LvA.b (LvA.a (LvA.b (LvA.b (LA 83)))))) (cL (cR (cL (cR (cR yQ))))) (Dv pc rk k) (qX pc rk k) (aw P jx)))
noncomputable def T83_1(m1:Nat):=fun(u3:D) (u6:D) (u7:D) (u8:D)=>labA (aW P pc noY rk (aq P pc noY rk 83 m1) 83 (cL (cL (cR (cL (cR (cR yQ)))))) (LvA.a (LvA.a (LvA.b (LvA.a (LvA.b (LvA.b (LA 83))))))) (LW pc rk k m1) (qX pc rk k) (aw P jx)) (Tr.set (Tr.set (Tr.set (Tr.set Tr.nil 8 (some (AV.d u8))) 7 (some (AV.d u7))) 6 (some (AV.d u6))) 3 (some (AV.d u3))) Tr.nil
noncomputable def R83_1(m1:Nat):(D→D→D→D→Option D):=fun u3 u6 u7 u8=>labA (aq P pc noY rk 83 m1 (LvA.a (LvA.b (LvA.a (LvA.b (LvA.b (LA 83)))))) (cL (cR (cL (cR (cR yQ))))) (Dv pc rk k) (qX pc rk k) (aw P jx)) (Tr.set (Tr.set (Tr.set (Tr.set Tr.nil 8 (some (AV.d u8))) 7 (some (AV.d u7))) 6 (some (AV.d u6))) 3 (some (AV.d u3))) Tr.nil
noncomputable def B83_1(pc:PC)(k:Nat)(m1:Nat)(b1:(D→D→D→D→Option D))(u3:D)(u6:D)(u7:D)(u8:D):Option D:=
bindO (binD P BinOp.lss 3 (Operand.tmp 8) (Operand.tmp 7) u8 u7) fun d_2=>
ifU d_2 (
bindO (elsD u6) fun l_3=>
bindO (idxD u8 l_3.length) fun i_4=>
bindO (l_3[i_4]?) fun d_5=>
chkK (bz d_5) (
bindO (binD P BinOp.shl 106 (Operand.const (Value.int IntKind.u64 1)) (Operand.tmp 13) (D.v (Value.int IntKind.u64 1)) d_5) fun d_6=>
bindO (binD P BinOp.or 106 (Operand.tmp 12) (Operand.tmp 14) u3 d_6) fun d_7=>
bindO (binD P BinOp.add 3 (Operand.tmp 8) (Operand.const (Value.int IntKind.i64 1)) u8 (D.v (Value.int IntKind.i64 1))) fun d_8=>
b1 d_7 u6 u7 d_8)) (
some u3)
noncomputable def XJ(m1:Nat):=B83_1 pc k m1
noncomputable def XQ:Nat→(D→D→D→D→Option D):=recF (XJ pc k) (fun _ _ _ _=>none)
theorem h83_1(m1:Nat):T83_1 pc rk k m1=XJ pc k m1 (R83_1 pc rk k m1):=by kernel_rfl
theorem q83_1(m:Nat):T83_1 pc rk k m=XQ pc k m:=recS (h83_1 pc rk k) (by kernel_rfl) (fun m=>by kernel_rfl) m
noncomputable def B83_0(pc:PC)(k:Nat)(j1:(D→D→D→D→Option D))(v0:D):Option D:=
bindO (elsD v0) fun l_1=>
j1 (D.v (Value.int IntKind.u64 0)) v0 (lenD l_1) (D.v (Value.int IntKind.i64 0))
noncomputable def C83_0:=B83_0 pc k (XQ pc k k)
theorem h83_0(v0:D):cJ P pc noY rk LA (k+1) 83 [v0]=C83_0 pc k v0:=(bqA Go.Proofs.Tryz.f83 yQ jx (by kernel_rfl)).trans (Eq.trans (b:=B83_0 pc k (T83_1 pc rk k k) v0) (by kernel_rfl) (by rw[q83_1]; rfl))
noncomputable def uw:Code:=ak 84
noncomputable def gZ:List ResultVar:=bw 84
noncomputable def Dw:KA:=(bX (LvA.b (LvA.b (LA 84))).c (aW P pc noY rk (aq P pc noY rk 84 k) 84 (cR (cR (cR uw))) (LvA.b (LvA.b (LvA.b (LA 84)))) (aw P gZ) X0A (aw P gZ)))
noncomputable def mY:(Nat→KA):=(upA 0 (Dw pc rk k) X0A)
noncomputable def yV(m1:Nat):KA:=(bX (LvA.a (LvA.b (LvA.a (LvA.b (LvA.b (LA 84)))))).c (aq P pc noY rk 84 m1 (LvA.a (LvA.b (LvA.a (LvA.b (LvA.b (LA 84)))))) (cL (cR (cL (cR (cR uw))))) (Dw pc rk k) (mY pc rk k) (aw P gZ)))
noncomputable def T84_2(m1:Nat):=fun(u0:D) (u5:D) (l14:List D)=>labA (aW P pc noY rk (aq P pc noY rk 84 m1) 84 (cR (cR (cR (cL (cL (cR (cL (cR (cR uw))))))))) (LvA.b (LvA.b (LvA.b (LvA.a (LvA.a (LvA.b (LvA.a (LvA.b (LvA.b (LA 84)))))))))) (yV pc rk k m1) (mY pc rk k) (aw P gZ)) (Tr.set (Tr.set (Tr.set Tr.nil 5 (some (AV.d u5))) 3 (some (AV.osl 14))) 0 (some (AV.d u0))) (Tr.set Tr.nil 14 (some (Bx.vec l14 3 1 false)))
noncomputable def T84_1(m1:Nat):=fun(u0:D) (u5:D) (l14:List D)=>labA (aW P pc noY rk (aq P pc noY rk 84 m1) 84 (cL (cL (cR (cL (cR (cR uw)))))) (LvA.a (LvA.a (LvA.b (LvA.a (LvA.b (LvA.b (LA 84))))))) (yV pc rk k m1) (mY pc rk k) (aw P gZ)) (Tr.set (Tr.set (Tr.set Tr.nil 5 (some (AV.d u5))) 3 (some (AV.osl 14))) 0 (some (AV.d u0))) (Tr.set Tr.nil 14 (some (Bx.vec l14 3 1 false)))
noncomputable def R84_1(m1:Nat):(D→D→List D→Option D):=fun u0 u5 l14=>labA (aq P pc noY rk 84 m1 (LvA.a (LvA.b (LvA.a (LvA.b (LvA.b (LA 84)))))) (cL (cR (cL (cR (cR uw))))) (Dw pc rk k) (mY pc rk k) (aw P gZ)) (Tr.set (Tr.set (Tr.set Tr.nil 5 (some (AV.d u5))) 3 (some (AV.osl 14))) 0 (some (AV.d u0))) (Tr.set Tr.nil 14 (some (Bx.vec l14 3 1 false)))
noncomputable def B84_2(pc:PC)(k:Nat)(m1:Nat)(b1:(D→D→List D→Option D))(u0:D)(u5:D)(l14:List D):Option D:=
bindO (binD P BinOp.add 3 (Operand.tmp 5) (Operand.const (Value.int IntKind.i64 1)) u5 (D.v (Value.int IntKind.i64 1))) fun d_4=>
b1 u0 d_4 l14
noncomputable def C84_2(m1:Nat):=B84_2 pc k m1
theorem h84_2(m1:Nat):T84_2 pc rk k m1=C84_2 pc k m1 (R84_1 pc rk k m1):=by kernel_rfl
noncomputable def B84_1(pc:PC)(k:Nat)(m1:Nat)(j2:(D→D→List D→Option D))(b1:(D→D→List D→Option D))(u0:D)(u5:D)(l14:List D):Option D:=
bindO (binD P BinOp.lss 3 (Operand.tmp 5) (Operand.const (Value.int IntKind.i64 8)) u5 (D.v (Value.int IntKind.i64 8))) fun d_1=>
ifU d_1 (
bindO (pcD P pc 94 [u0,u5]) fun d_2=>
ifU d_2 (
chkK (bz u5) (
bindO (appD l14 [u5]) fun l_3=>
j2 u0 u5 l_3)) (
j2 u0 u5 l14)) (
some (D.sl l14))
noncomputable def XV(m1:Nat)(b1:(D→D→List D→Option D)):=B84_1 pc k m1 (C84_2 pc k m1 b1) b1
noncomputable def XW:Nat→(D→D→List D→Option D):=recF (XV pc k) (fun _ _ _=>none)
theorem h84_1(m1:Nat):T84_1 pc rk k m1=XV pc k m1 (R84_1 pc rk k m1):=Eq.trans (b:=B84_1 pc k m1 (T84_2 pc rk k m1) (R84_1 pc rk k m1)) (by kernel_rfl) (by rw[h84_2]; rfl)
theorem q84_1(m:Nat):T84_1 pc rk k m=XW pc k m:=recS (h84_1 pc rk k) (by kernel_rfl) (fun m=>by kernel_rfl) m
noncomputable def B84_0(pc:PC)(k:Nat)(j1:(D→D→List D→Option D))(v0:D):Option D:=
j1 v0 (D.v (Value.int IntKind.i64 0)) []
noncomputable def C84_0:=B84_0 pc k (XW pc k k)
theorem h84_0(v0:D):cJ P pc noY rk LA (k+1) 84 [v0]=C84_0 pc k v0:=(bqA Go.Proofs.Tryz.f84 uw gZ (by kernel_rfl)).trans (Eq.trans (b:=B84_0 pc k (T84_1 pc rk k k) v0) (by kernel_rfl) (by rw[q84_1]; rfl))
noncomputable def vQ:Code:=ak 85
noncomputable def Bz:List ResultVar:=bw 85
noncomputable def K85_prr(pc rg pc1:PC)(rk1:List Nat→RK)(k:Nat):KA:=(bX (LvA.b (LvA.b (LA 85))).c (aW P pc noY (gz P rg pc1 rk1 (k+1) []) (aq P pc noY (gz P rg pc1 rk1 (k+1) []) 85 k) 85 (cR (cR (cR vQ))) (LvA.b (LvA.b (LvA.b (LA 85)))) (aw P Bz) X0A (aw P Bz)))
noncomputable def K85_pxrrlr(pc rg pc1:PC)(rk1:List Nat→RK)(k:Nat):(Nat→KA):=(upA 0 (K85_prr pc rg pc1 rk1 k) X0A)
noncomputable def XX(pc rg pc1:PC)(rk1:List Nat→RK)(k:Nat)(m1:List (List D)):KA:=fun _ G=>QQ (cfB P pc1 (rk1 ((cK (cR (cL (cR (cL (cR (cR vQ)))))))::[])) (k+1) 85) (LvA.a (LvA.b (LvA.a (LvA.b (LvA.b (LA 85)))))) (ntm P 85) (rPs (cL (cR (cL (cR (cR vQ)))))) (cL (cL (cR (cL (cR (cR vQ)))))) (cR (cL (cR (cL (cR (cR vQ)))))) (cK (cR (cL (cR (cL (cR (cR vQ))))))) (K85_prr pc rg pc1 rk1 k) (K85_pxrrlr pc rg pc1 rk1 k) (aw P Bz) m1 G
noncomputable def R85_2(pc rg pc1:PC)(rk1:List Nat→RK)(k:Nat)(m1:List (List D)):(D→D→Option D):=fun g5_0 e1_9=>labA (XX pc rg pc1 rk1 k m1) Tr.nil (Tr.set (Tr.set Tr.nil 1000001 (some (Bx.env [(5,(AV.loc 5 0)),(9,(AV.d e1_9))]))) 5 (some (Bx.dat [g5_0] false)))
noncomputable def T85_1(pc rg pc1:PC)(rk1:List Nat→RK)(k:Nat):=fun(u9:D) (g5_0:D)=>labA (fun A G=>getK (opdA (rX (cL (cR (cL (cR (cR vQ)))))) A) fun a=>(gz P rg pc1 rk1 (k+1) []) (LvA.a (LvA.b (LvA.a (LvA.b (LvA.b (LA 85)))))) 85 a (rPs (cL (cR (cL (cR (cR vQ)))))) (cL (cL (cR (cL (cR (cR vQ)))))) (cR (cL (cR (cL (cR (cR vQ)))))) (K85_prr pc rg pc1 rk1 k) (K85_pxrrlr pc rg pc1 rk1 k) (aw P Bz) A G) (Tr.set (Tr.set Tr.nil 9 (some (AV.d u9))) 5 (some (AV.loc 5 0))) (Tr.set Tr.nil 5 (some (Bx.dat [g5_0] false)))
noncomputable def BN85_2(pc rg pc1:PC)(k:Nat)(g5_0:D)(e1_9:D):Option D:=
some g5_0
noncomputable def CN85_2(pc rg pc1:PC)(k:Nat)(g5_0:D)(e1_9:D):Option D:=BN85_2 pc rg pc1 k g5_0 e1_9
noncomputable def B85_2(pc rg pc1:PC)(k:Nat)(m1:List (List D))(b2:(D→D→Option D))(y:List D)(g5_0:D)(e1_9:D):Option D:=
par1 y (fun z1_0=>
chkK (bz z1_0) (
bindO (pcD P pc1 83 [(D.sl [z1_0])]) fun d_2=>
bindO (binD P BinOp.or 106 (Operand.tmp 11) (Operand.tmp 14) g5_0 d_2) fun d_3=>
chkK (bz d_3) (
b2 d_3 e1_9)))
noncomputable def C85_2(pc rg pc1:PC)(k:Nat)(m1:List (List D)):=B85_2 pc rg pc1 k m1
noncomputable def XY(pc rg pc1:PC)(k:Nat):List (List D)→(D→D→Option D):=fun ys=>List.rec (motive:=fun _=>(D→D→Option D)) (CN85_2 pc rg pc1 k) (fun y ys ih=>C85_2 pc rg pc1 k ys ih y) ys
theorem hN85_2(pc rg pc1:PC)(rk1:List Nat→RK)(k:Nat)(g5_0:D)(e1_9:D):labA (XX pc rg pc1 rk1 k []) Tr.nil (Tr.set (Tr.set Tr.nil 1000001 (some (Bx.env [(5,(AV.loc 5 0)),(9,(AV.d e1_9))]))) 5 (some (Bx.dat [g5_0] false)))=CN85_2 pc rg pc1 k g5_0 e1_9:=by
 have h:labA (XX pc rg pc1 rk1 k []) Tr.nil (Tr.set (Tr.set Tr.nil 1000001 (some (Bx.env [(5,(AV.loc 5 0)),(9,(AV.d e1_9))]))) 5 (some (Bx.dat [g5_0] false)))=BN85_2 pc rg pc1 k g5_0 e1_9:=by kernel_rfl
 rw[h,CN85_2]
theorem h85_2(pc rg pc1:PC)(rk1:List Nat→RK)(k:Nat)(m1:List (List D))(y:List D)(g5_0:D)(e1_9:D):labA (XX pc rg pc1 rk1 k (y::m1)) Tr.nil (Tr.set (Tr.set Tr.nil 1000001 (some (Bx.env [(5,(AV.loc 5 0)),(9,(AV.d e1_9))]))) 5 (some (Bx.dat [g5_0] false)))=C85_2 pc rg pc1 k m1 (R85_2 pc rg pc1 rk1 k m1) y g5_0 e1_9:=by kernel_rfl
theorem q85_2(pc rg pc1:PC)(rk1:List Nat→RK)(k:Nat):∀(ys:List (List D)) (g5_0:D) (e1_9:D),labA (XX pc rg pc1 rk1 k ys) Tr.nil (Tr.set (Tr.set Tr.nil 1000001 (some (Bx.env [(5,(AV.loc 5 0)),(9,(AV.d e1_9))]))) 5 (some (Bx.dat [g5_0] false)))=XY pc rg pc1 k ys g5_0 e1_9
 | [],g5_0,e1_9=>by
  rw[hN85_2]; rfl
 | y::ys,g5_0,e1_9=>by
  rw[h85_2]
  have e:R85_2 pc rg pc1 rk1 k ys=XY pc rg pc1 k ys:=by
   funext g5_0 e1_9
   have e:R85_2 pc rg pc1 rk1 k ys g5_0 e1_9=labA (XX pc rg pc1 rk1 k ys) Tr.nil (Tr.set (Tr.set Tr.nil 1000001 (some (Bx.env [(5,(AV.loc 5 0)),(9,(AV.d e1_9))]))) 5 (some (Bx.dat [g5_0] false))):=rfl
   rw[e]; exact q85_2 ..
  rw[e]; rfl
noncomputable def B85_1(pc rg pc1:PC)(k:Nat)(j2:(List (List D)→(D→D→Option D)))(u9:D)(g5_0:D):Option D:=
fnK u9 fun g a b=>
chkK (Cv P g && !memN [] (cK (cR (cL (cR (cL (cR (cR vQ)))))))) (
Zq (fun l=>rg g (a++D.yld l::b)) fun ys=>
j2 ys g5_0 u9)
noncomputable def C85_1(pc rg pc1:PC)(k:Nat):=B85_1 pc rg pc1 k (XY pc rg pc1 k)
theorem h85_1(pc rg pc1:PC)(rk1:List Nat→RK)(k:Nat)(u9:D)(g5_0:D):T85_1 pc rg pc1 rk1 k u9 g5_0=C85_1 pc rg pc1 k u9 g5_0:=by
 have h:T85_1 pc rg pc1 rk1 k u9 g5_0=B85_1 pc rg pc1 k (fun ys_ g5_0 e1_9=>labA (XX pc rg pc1 rk1 k ys_) Tr.nil (Tr.set (Tr.set Tr.nil 1000001 (some (Bx.env [(5,(AV.loc 5 0)),(9,(AV.d e1_9))]))) 5 (some (Bx.dat [g5_0] false)))) u9 g5_0:=by kernel_rfl
 rw[h,C85_1]
 have e2:(fun ys_ g5_0 e1_9=>labA (XX pc rg pc1 rk1 k ys_) Tr.nil (Tr.set (Tr.set Tr.nil 1000001 (some (Bx.env [(5,(AV.loc 5 0)),(9,(AV.d e1_9))]))) 5 (some (Bx.dat [g5_0] false))))=(XY pc rg pc1 k):=by funext ys_ g5_0 e1_9; exact q85_2 ..
 rw[e2]
theorem f85_1(pc rg pc1:PC)(rk1:List Nat→RK)(k:Nat):T85_1 pc rg pc1 rk1 k=C85_1 pc rg pc1 k:=by funext u9 g5_0; exact h85_1 ..
noncomputable def B85_0(pc rg pc1:PC)(k:Nat)(j1:(D→D→Option D))(v0:D)(v1:D):Option D:=
bindO (pcD P pc 104 [v0,v1]) fun d_1=>
j1 d_1 (D.v (Value.int IntKind.u64 0))
noncomputable def C85_0(pc rg pc1:PC)(k:Nat):=B85_0 pc rg pc1 k (C85_1 pc rg pc1 k)
theorem h85_0(pc rg pc1:PC)(rk1:List Nat→RK)(k:Nat)(v0:D)(v1:D):cJ P pc noY (gz P rg pc1 rk1 (k+1) []) LA (k+1) 85 [v0,v1]=C85_0 pc rg pc1 k v0 v1:=(bqA Go.Proofs.Tryz.f85 vQ Bz (by kernel_rfl)).trans (Eq.trans (b:=B85_0 pc rg pc1 k (T85_1 pc rg pc1 rk1 k) v0 v1) (by kernel_rfl) (by rw[f85_1]; rfl))
noncomputable def code86:Code:=ak 86
noncomputable def RY:List ResultVar:=bw 86
noncomputable def B86_0(pc:PC)(k:Nat)(v0:D)(v1:D):Option D:=
bindO (binD P BinOp.andNot 106 (Operand.tmp 5) (Operand.tmp 6) v0 v1) fun d_1=>
some d_1
noncomputable def C86_0:=B86_0 pc k
theorem h86_0(v0:D)(v1:D):cJ P pc noY rk LA (k+1) 86 [v0,v1]=C86_0 pc k v0 v1:=(bqA Go.Proofs.Tryz.f86 code86 RY (by kernel_rfl)).trans (by kernel_rfl)
noncomputable def gK:Code:=ak 87
noncomputable def cX:List ResultVar:=bw 87
noncomputable def K87_pr:KA:=(bX (LvA.b (LA 87)).c (aW P pc noY rk (aq P pc noY rk 87 k) 87 (cR (cR gK)) (LvA.b (LvA.b (LA 87))) (aw P cX) X0A (aw P cX)))
noncomputable def K87_prr:KA:=(bX (LvA.b (LvA.b (LA 87))).c (aW P pc noY rk (aq P pc noY rk 87 k) 87 (cR (cR (cR gK))) (LvA.b (LvA.b (LvA.b (LA 87)))) (aw P cX) X0A (aw P cX)))
noncomputable def qfz:KA:=(bX (LvA.b (LvA.b (LvA.b (LA 87)))).c (aW P pc noY rk (aq P pc noY rk 87 k) 87 (cR (cR (cR (cR gK)))) (LvA.b (LvA.b (LvA.b (LvA.b (LA 87))))) (aw P cX) X0A (aw P cX)))
noncomputable def FZ:(Nat→KA):=(upA 0 (qfz pc rk k) X0A)
noncomputable def K87_prrrlrl(m1:Nat):KA:=(bX (LvA.a (LvA.b (LvA.a (LvA.b (LvA.b (LvA.b (LA 87))))))).c (aq P pc noY rk 87 m1 (LvA.a (LvA.b (LvA.a (LvA.b (LvA.b (LvA.b (LA 87))))))) (cL (cR (cL (cR (cR (cR gK)))))) (qfz pc rk k) (FZ pc rk k) (aw P cX)))
noncomputable def RZ:KA:=(bX (LvA.b (LvA.b (LvA.b (LvA.b (LA 87))))).c (aW P pc noY rk (aq P pc noY rk 87 k) 87 (cR (cR (cR (cR (cR gK))))) (LvA.b (LvA.b (LvA.b (LvA.b (LvA.b (LA 87)))))) (aw P cX) X0A (aw P cX)))
noncomputable def sQ:(Nat→KA):=(upA 2 (RZ pc rk k) X0A)
noncomputable def K87_prrrrlrl(m1:Nat):KA:=(bX (LvA.a (LvA.b (LvA.a (LvA.b (LvA.b (LvA.b (LvA.b (LA 87)))))))).c (aq P pc noY rk 87 m1 (LvA.a (LvA.b (LvA.a (LvA.b (LvA.b (LvA.b (LvA.b (LA 87)))))))) (cL (cR (cL (cR (cR (cR (cR gK))))))) (RZ pc rk k) (sQ pc rk k) (aw P cX)))
noncomputable def K87_prrrrlrllr(m1:Nat):KA:=(bX (LvA.b (LvA.a (LvA.a (LvA.b (LvA.a (LvA.b (LvA.b (LvA.b (LvA.b (LA 87)))))))))).c (aW P pc noY rk (aq P pc noY rk 87 m1) 87 (cR (cR (cL (cL (cR (cL (cR (cR (cR (cR gK)))))))))) (LvA.b (LvA.b (LvA.a (LvA.a (LvA.b (LvA.a (LvA.b (LvA.b (LvA.b (LvA.b (LA 87))))))))))) (K87_prrrrlrl pc rk k m1) (sQ pc rk k) (aw P cX)))
noncomputable def K87_pxrrrrlrllrl(m1:Nat):(Nat→KA):=(upA 3 (K87_prrrrlrllr pc rk k m1) (sQ pc rk k))
noncomputable def LX:KA:=(bX (LvA.b (LvA.b (LvA.b (LvA.b (LvA.b (LA 87)))))).c (aW P pc noY rk (aq P pc noY rk 87 k) 87 (cR (cR (cR (cR (cR (cR gK)))))) (LvA.b (LvA.b (LvA.b (LvA.b (LvA.b (LvA.b (LA 87))))))) (aw P cX) X0A (aw P cX)))
noncomputable def pZ:(Nat→KA):=(upA 4 (LX pc rk k) X0A)
noncomputable def K87_prrrrrlrl(m1:Nat):KA:=(bX (LvA.a (LvA.b (LvA.a (LvA.b (LvA.b (LvA.b (LvA.b (LvA.b (LA 87))))))))).c (aq P pc noY rk 87 m1 (LvA.a (LvA.b (LvA.a (LvA.b (LvA.b (LvA.b (LvA.b (LvA.b (LA 87))))))))) (cL (cR (cL (cR (cR (cR (cR (cR gK)))))))) (LX pc rk k) (pZ pc rk k) (aw P cX)))
noncomputable def nv(m1:Nat):KA:=(bX (LvA.b (LvA.a (LvA.a (LvA.b (LvA.a (LvA.b (LvA.b (LvA.b (LvA.b (LvA.b (LA 87))))))))))).c (aW P pc noY rk (aq P pc noY rk 87 m1) 87 (cR (cR (cL (cL (cR (cL (cR (cR (cR (cR (cR gK))))))))))) (LvA.b (LvA.b (LvA.a (LvA.a (LvA.b (LvA.a (LvA.b (LvA.b (LvA.b (LvA.b (LvA.b (LA 87)))))))))))) (K87_prrrrrlrl pc rk k m1) (pZ pc rk k) (aw P cX)))
noncomputable def sV(m1:Nat):(Nat→KA):=(upA 5 (nv pc rk k m1) (pZ pc rk k))
noncomputable def K87_prrrrrlrllrllr(m1:Nat):KA:=(bX (LvA.b (LvA.a (LvA.a (LvA.b (LvA.a (LvA.a (LvA.b (LvA.a (LvA.b (LvA.b (LvA.b (LvA.b (LvA.b (LA 87)))))))))))))).c (aW P pc noY rk (aq P pc noY rk 87 m1) 87 (cR (cR (cL (cL (cR (cL (cL (cR (cL (cR (cR (cR (cR (cR gK)))))))))))))) (LvA.b (LvA.b (LvA.a (LvA.a (LvA.b (LvA.a (LvA.a (LvA.b (LvA.a (LvA.b (LvA.b (LvA.b (LvA.b (LvA.b (LA 87))))))))))))))) (nv pc rk k m1) (sV pc rk k m1) (aw P cX)))
noncomputable def gW(m1:Nat):(Nat→KA):=(upA 6 (nv pc rk k m1) (sV pc rk k m1))
noncomputable def K87_prrrrrlrllrllrrrl(m1:Nat)(m2:Nat):KA:=(bX (LvA.a (LvA.b (LvA.b (LvA.b (LvA.a (LvA.a (LvA.b (LvA.a (LvA.a (LvA.b (LvA.a (LvA.b (LvA.b (LvA.b (LvA.b (LvA.b (LA 87))))))))))))))))).c (aq P pc noY rk 87 m2 (LvA.a (LvA.b (LvA.b (LvA.b (LvA.a (LvA.a (LvA.b (LvA.a (LvA.a (LvA.b (LvA.a (LvA.b (LvA.b (LvA.b (LvA.b (LvA.b (LA 87))))))))))))))))) (cL (cR (cR (cR (cL (cL (cR (cL (cL (cR (cL (cR (cR (cR (cR (cR gK)))))))))))))))) (nv pc rk k m1) (gW pc rk k m1) (aw P cX)))
noncomputable def K87_prrrrrlrllrllrrrllr(m1:Nat)(m2:Nat):KA:=(bX (LvA.b (LvA.a (LvA.a (LvA.b (LvA.b (LvA.b (LvA.a (LvA.a (LvA.b (LvA.a (LvA.a (LvA.b (LvA.a (LvA.b (LvA.b (LvA.b (LvA.b (LvA.b (LA 87))))))))))))))))))).c (aW P pc noY rk (aq P pc noY rk 87 m2) 87 (cR (cR (cL (cL (cR (cR (cR (cL (cL (cR (cL (cL (cR (cL (cR (cR (cR (cR (cR gK))))))))))))))))))) (LvA.b (LvA.b (LvA.a (LvA.a (LvA.b (LvA.b (LvA.b (LvA.a (LvA.a (LvA.b (LvA.a (LvA.a (LvA.b (LvA.a (LvA.b (LvA.b (LvA.b (LvA.b (LvA.b (LA 87)))))))))))))))))))) (K87_prrrrrlrllrllrrrl pc rk k m1 m2) (gW pc rk k m1) (aw P cX)))
noncomputable def K87_pxrrrrrlrllrllrrrllrl(m1:Nat)(m2:Nat):(Nat→KA):=(upA 7 (K87_prrrrrlrllrllrrrllr pc rk k m1 m2) (gW pc rk k m1))
noncomputable def T87_5(m1:Nat):=fun(u4:D) (u92:D) (c1:List D)=>labA (aW P pc noY rk (aq P pc noY rk 87 m1) 87 (cR (cR (cL (cL (cR (cL (cL (cR (cL (cR (cR (cR (cR gK))))))))))))) (LvA.b (LvA.b (LvA.a (LvA.a (LvA.b (LvA.a (LvA.a (LvA.b (LvA.a (LvA.b (LvA.b (LvA.b (LvA.b (LA 87)))))))))))))) (K87_prrrrlrllr pc rk k m1) (K87_pxrrrrlrllrl pc rk k m1) (aw P cX)) (Tr.set (Tr.set (Tr.set Tr.nil 92 (some (AV.d u92))) 4 (some (AV.d u4))) 1 (some (AV.loc 1 0))) (Tr.set Tr.nil 1 (some (Bx.dat c1 false)))
noncomputable def T87_9(m1:Nat)(m2:Nat):=fun(u6:D) (u8:D) (u156:D) (c1:List D) (c7:List D)=>labA (aW P pc noY rk (aq P pc noY rk 87 m2) 87 (cR (cR (cL (cL (cR (cL (cL (cR (cR (cR (cL (cL (cR (cL (cL (cR (cL (cR (cR (cR (cR (cR gK)))))))))))))))))))))) (LvA.b (LvA.b (LvA.a (LvA.a (LvA.b (LvA.a (LvA.a (LvA.b (LvA.b (LvA.b (LvA.a (LvA.a (LvA.b (LvA.a (LvA.a (LvA.b (LvA.a (LvA.b (LvA.b (LvA.b (LvA.b (LvA.b (LA 87))))))))))))))))))))))) (K87_prrrrrlrllrllrrrllr pc rk k m1 m2) (K87_pxrrrrrlrllrllrrrllrl pc rk k m1 m2) (aw P cX)) (Tr.set (Tr.set (Tr.set (Tr.set (Tr.set Tr.nil 156 (some (AV.d u156))) 8 (some (AV.d u8))) 7 (some (AV.loc 7 0))) 6 (some (AV.d u6))) 1 (some (AV.loc 1 0))) (Tr.set (Tr.set Tr.nil 7 (some (Bx.dat c7 false))) 1 (some (Bx.dat c1 false)))
noncomputable def T87_8(m1:Nat)(m2:Nat):=fun(u6:D) (u8:D) (c1:List D) (c7:List D)=>labA (aW P pc noY rk (aq P pc noY rk 87 m2) 87 (cL (cL (cR (cR (cR (cL (cL (cR (cL (cL (cR (cL (cR (cR (cR (cR (cR gK))))))))))))))))) (LvA.a (LvA.a (LvA.b (LvA.b (LvA.b (LvA.a (LvA.a (LvA.b (LvA.a (LvA.a (LvA.b (LvA.a (LvA.b (LvA.b (LvA.b (LvA.b (LvA.b (LA 87)))))))))))))))))) (K87_prrrrrlrllrllrrrl pc rk k m1 m2) (gW pc rk k m1) (aw P cX)) (Tr.set (Tr.set (Tr.set (Tr.set Tr.nil 8 (some (AV.d u8))) 7 (some (AV.loc 7 0))) 6 (some (AV.d u6))) 1 (some (AV.loc 1 0))) (Tr.set (Tr.set Tr.nil 7 (some (Bx.dat c7 false))) 1 (some (Bx.dat c1 false)))
noncomputable def R87_8(m1:Nat)(m2:Nat):(D→D→List D→List D→Option D):=fun u6 u8 c1 c7=>labA (aq P pc noY rk 87 m2 (LvA.a (LvA.b (LvA.b (LvA.b (LvA.a (LvA.a (LvA.b (LvA.a (LvA.a (LvA.b (LvA.a (LvA.b (LvA.b (LvA.b (LvA.b (LvA.b (LA 87))))))))))))))))) (cL (cR (cR (cR (cL (cL (cR (cL (cL (cR (cL (cR (cR (cR (cR (cR gK)))))))))))))))) (nv pc rk k m1) (gW pc rk k m1) (aw P cX)) (Tr.set (Tr.set (Tr.set (Tr.set Tr.nil 8 (some (AV.d u8))) 7 (some (AV.loc 7 0))) 6 (some (AV.d u6))) 1 (some (AV.loc 1 0))) (Tr.set (Tr.set Tr.nil 7 (some (Bx.dat c7 false))) 1 (some (Bx.dat c1 false)))
noncomputable def T87_7(m1:Nat):=fun(u6:D) (u129:D) (c1:List D) (c7:List D)=>labA (aW P pc noY rk (aq P pc noY rk 87 m1) 87 (cR (cL (cR (cL (cL (cR (cL (cL (cR (cL (cR (cR (cR (cR (cR gK))))))))))))))) (LvA.b (LvA.a (LvA.b (LvA.a (LvA.a (LvA.b (LvA.a (LvA.a (LvA.b (LvA.a (LvA.b (LvA.b (LvA.b (LvA.b (LvA.b (LA 87)))))))))))))))) (K87_prrrrrlrllrllr pc rk k m1) (sV pc rk k m1) (aw P cX)) (Tr.set (Tr.set (Tr.set (Tr.set Tr.nil 129 (some (AV.d u129))) 7 (some (AV.loc 7 0))) 6 (some (AV.d u6))) 1 (some (AV.loc 1 0))) (Tr.set (Tr.set Tr.nil 7 (some (Bx.dat c7 false))) 1 (some (Bx.dat c1 false)))
noncomputable def T87_6(m1:Nat):=fun(u6:D) (c1:List D)=>labA (aW P pc noY rk (aq P pc noY rk 87 m1) 87 (cL (cL (cR (cL (cR (cR (cR (cR (cR gK))))))))) (LvA.a (LvA.a (LvA.b (LvA.a (LvA.b (LvA.b (LvA.b (LvA.b (LvA.b (LA 87)))))))))) (K87_prrrrrlrl pc rk k m1) (pZ pc rk k) (aw P cX)) (Tr.set (Tr.set Tr.nil 6 (some (AV.d u6))) 1 (some (AV.loc 1 0))) (Tr.set Tr.nil 1 (some (Bx.dat c1 false)))
noncomputable def XZ(m1:Nat):(D→List D→Option D):=fun u6 c1=>labA (aq P pc noY rk 87 m1 (LvA.a (LvA.b (LvA.a (LvA.b (LvA.b (LvA.b (LvA.b (LvA.b (LA 87))))))))) (cL (cR (cL (cR (cR (cR (cR (cR gK)))))))) (LX pc rk k) (pZ pc rk k) (aw P cX)) (Tr.set (Tr.set Tr.nil 6 (some (AV.d u6))) 1 (some (AV.loc 1 0))) (Tr.set Tr.nil 1 (some (Bx.dat c1 false)))
noncomputable def T87_4(m1:Nat):=fun(u4:D) (c1:List D)=>labA (aW P pc noY rk (aq P pc noY rk 87 m1) 87 (cL (cL (cR (cL (cR (cR (cR (cR gK)))))))) (LvA.a (LvA.a (LvA.b (LvA.a (LvA.b (LvA.b (LvA.b (LvA.b (LA 87))))))))) (K87_prrrrlrl pc rk k m1) (sQ pc rk k) (aw P cX)) (Tr.set (Tr.set Tr.nil 4 (some (AV.d u4))) 1 (some (AV.loc 1 0))) (Tr.set Tr.nil 1 (some (Bx.dat c1 false)))
noncomputable def R87_4(m1:Nat):(D→List D→Option D):=fun u4 c1=>labA (aq P pc noY rk 87 m1 (LvA.a (LvA.b (LvA.a (LvA.b (LvA.b (LvA.b (LvA.b (LA 87)))))))) (cL (cR (cL (cR (cR (cR (cR gK))))))) (RZ pc rk k) (sQ pc rk k) (aw P cX)) (Tr.set (Tr.set Tr.nil 4 (some (AV.d u4))) 1 (some (AV.loc 1 0))) (Tr.set Tr.nil 1 (some (Bx.dat c1 false)))
noncomputable def T87_3(m1:Nat):=fun(u3:D) (c1:List D)=>labA (aW P pc noY rk (aq P pc noY rk 87 m1) 87 (cL (cL (cR (cL (cR (cR (cR gK))))))) (LvA.a (LvA.a (LvA.b (LvA.a (LvA.b (LvA.b (LvA.b (LA 87)))))))) (K87_prrrlrl pc rk k m1) (FZ pc rk k) (aw P cX)) (Tr.set (Tr.set Tr.nil 3 (some (AV.d u3))) 1 (some (AV.loc 1 0))) (Tr.set Tr.nil 1 (some (Bx.dat c1 false)))
noncomputable def R87_3(m1:Nat):(D→List D→Option D):=fun u3 c1=>labA (aq P pc noY rk 87 m1 (LvA.a (LvA.b (LvA.a (LvA.b (LvA.b (LvA.b (LA 87))))))) (cL (cR (cL (cR (cR (cR gK)))))) (qfz pc rk k) (FZ pc rk k) (aw P cX)) (Tr.set (Tr.set Tr.nil 3 (some (AV.d u3))) 1 (some (AV.loc 1 0))) (Tr.set Tr.nil 1 (some (Bx.dat c1 false)))
noncomputable def T87_2:=fun(u35:D) (c1:List D)=>labA (aW P pc noY rk (aq P pc noY rk 87 k) 87 (cR (cL (cR (cR gK)))) (LvA.b (LvA.a (LvA.b (LvA.b (LA 87))))) (K87_prr pc rk k) X0A (aw P cX)) (Tr.set (Tr.set Tr.nil 35 (some (AV.d u35))) 1 (some (AV.loc 1 0))) (Tr.set Tr.nil 1 (some (Bx.dat c1 false)))
noncomputable def T87_1:=fun(u25:D) (c1:List D)=>labA (aW P pc noY rk (aq P pc noY rk 87 k) 87 (cR (cL (cR gK))) (LvA.b (LvA.a (LvA.b (LA 87)))) (K87_pr pc rk k) X0A (aw P cX)) (Tr.set (Tr.set Tr.nil 25 (some (AV.d u25))) 1 (some (AV.loc 1 0))) (Tr.set Tr.nil 1 (some (Bx.dat c1 false)))
noncomputable def B87_5(pc:PC)(k:Nat)(m1:Nat)(b4:(D→List D→Option D))(u4:D)(u92:D)(c1:List D):Option D:=
ifU u92 (
some (D.v (Value.int IntKind.i64 1))) (
bindO (binD P BinOp.add 3 (Operand.tmp 62) (Operand.const (Value.int IntKind.i64 1)) u4 (D.v (Value.int IntKind.i64 1))) fun d_13=>
b4 d_13 c1)
noncomputable def C87_5(m1:Nat):=B87_5 pc k m1
theorem h87_5(m1:Nat):T87_5 pc rk k m1=C87_5 pc k m1 (R87_4 pc rk k m1):=by kernel_rfl
noncomputable def B87_9(pc:PC)(k:Nat)(m1:Nat)(m2:Nat)(b6:(D→List D→Option D))(b8:(D→D→List D→List D→Option D))(u6:D)(u8:D)(u156:D)(c1:List D)(c7:List D):Option D:=
ifU u156 (
some (D.v (Value.int IntKind.i64 1))) (
bindO (binD P BinOp.add 3 (Operand.tmp 133) (Operand.const (Value.int IntKind.i64 1)) u8 (D.v (Value.int IntKind.i64 1))) fun d_23=>
b8 u6 d_23 c1 c7)
noncomputable def C87_9(m1:Nat):=B87_9 pc k m1
theorem h87_9(m1:Nat)(m2:Nat):T87_9 pc rk k m1 m2=C87_9 pc k m1 m2 (XZ pc rk k m1) (R87_8 pc rk k m1 m2):=by kernel_rfl
noncomputable def B87_8(pc:PC)(k:Nat)(m1:Nat)(m2:Nat)(j9:(D→D→D→List D→List D→Option D))(b6:(D→List D→Option D))(b8:(D→D→List D→List D→Option D))(u6:D)(u8:D)(c1:List D)(c7:List D):Option D:=
bindO (binD P BinOp.lss 3 (Operand.tmp 130) (Operand.tmp 131) u8 u6) fun d_1s=>
ifU d_1s (
bindO (c1[1]?) fun d_1t=>
bindO (elsD d_1t) fun l_1u=>
bindO (idxD u8 l_1u.length) fun i_1v=>
bindO (l_1u[i_1v]?) fun d_1w=>
bindO (aggD d_1w) fun c_1x=>
chkK (Nat.beq c_1x.length 2) (
bindO (cutD c_1x 0 2) fun c_1y=>
bindO (splD [(D.v (Value.int IntKind.i64 0)),(D.v (Value.int IntKind.i64 0))] 0 c_1y 2) fun c_1z=>
bindO (cutD c_1z 0 2) fun c_20=>
bindO (cutD c7 0 2) fun c_21=>
bindO (binD P BinOp.eql 89 (Operand.tmp 140) (Operand.tmp 141) (D.agg c_20) (D.agg c_21)) fun d_22=>
ifU d_22 (
j9 u6 u8 (D.v (Value.bool true)) c1 c7) (
bindO (c_1z[0]?) fun d_24=>
bindO (c7[1]?) fun d_25=>
bindO (binD P BinOp.eql 3 (Operand.tmp 145) (Operand.tmp 147) d_24 d_25) fun d_26=>
ifU d_26 (
bindO (c_1z[1]?) fun d_27=>
bindO (c7[0]?) fun d_28=>
bindO (binD P BinOp.eql 3 (Operand.tmp 151) (Operand.tmp 153) d_27 d_28) fun d_29=>
j9 u6 u8 d_29 c1 c7) (
j9 u6 u8 (D.v (Value.bool false)) c1 c7)))) (
bindO (binD P BinOp.add 3 (Operand.tmp 98) (Operand.const (Value.int IntKind.i64 1)) u6 (D.v (Value.int IntKind.i64 1))) fun d_2a=>
b6 d_2a c1)
noncomputable def C87_8(m1:Nat)(m2:Nat)(b6:(D→List D→Option D))(b8:(D→D→List D→List D→Option D)):=B87_8 pc k m1 m2 (C87_9 pc k m1 m2 b6 b8) b6 b8
noncomputable def S87_8(m1:Nat)(b6:(D→List D→Option D)):Nat→(D→D→List D→List D→Option D):=fun m=>Nat.rec (motive:=fun _=>(D→D→List D→List D→Option D)) (C87_8 pc k m1 0 b6 (fun _ _ _ _=>none)) (fun m ih=>C87_8 pc k m1 (m+1) b6 ih) m
theorem h87_8(m1:Nat)(m2:Nat):T87_8 pc rk k m1 m2=C87_8 pc k m1 m2 (XZ pc rk k m1) (R87_8 pc rk k m1 m2):=Eq.trans (b:=B87_8 pc k m1 m2 (T87_9 pc rk k m1 m2) (XZ pc rk k m1) (R87_8 pc rk k m1 m2)) (by kernel_rfl) (by rw[h87_9]; rfl)
theorem q87_8(m1:Nat)(m:Nat):T87_8 pc rk k m1 m=S87_8 pc k m1 (XZ pc rk k m1) m:=recS (h87_8 pc rk k m1) (by kernel_rfl) (fun m=>by kernel_rfl) m
noncomputable def B87_7(pc:PC)(k:Nat)(m1:Nat)(j8:(D→D→List D→List D→Option D))(b6:(D→List D→Option D))(u6:D)(u129:D)(c1:List D)(c7:List D):Option D:=
ifU u129 (
some (D.v (Value.int IntKind.i64 1))) (
j8 u6 (D.v (Value.int IntKind.i64 0)) c1 c7)
noncomputable def C87_7(m1:Nat)(b6:(D→List D→Option D)):=B87_7 pc k m1 (S87_8 pc k m1 b6 m1) b6
theorem h87_7(m1:Nat):T87_7 pc rk k m1=C87_7 pc k m1 (XZ pc rk k m1):=Eq.trans (b:=B87_7 pc k m1 (T87_8 pc rk k m1 m1) (XZ pc rk k m1)) (by kernel_rfl) (by rw[q87_8]; rfl)
noncomputable def B87_6(pc:PC)(k:Nat)(m1:Nat)(j7:(D→D→List D→List D→Option D))(b6:(D→List D→Option D))(u6:D)(c1:List D):Option D:=
bindO (c1[1]?) fun d_1c=>
bindO (elsD d_1c) fun l_1d=>
bindO (binD P BinOp.lss 3 (Operand.tmp 93) (Operand.tmp 96) u6 (lenD l_1d)) fun d_1e=>
ifU d_1e (
bindO (c1[1]?) fun d_1f=>
bindO (elsD d_1f) fun l_1g=>
bindO (idxD u6 l_1g.length) fun i_1h=>
bindO (l_1g[i_1h]?) fun d_1i=>
bindO (aggD d_1i) fun c_1j=>
chkK (Nat.beq c_1j.length 2) (
bindO (cutD c_1j 0 2) fun c_1k=>
bindO (splD [(D.v (Value.int IntKind.i64 0)),(D.v (Value.int IntKind.i64 0))] 0 c_1k 2) fun c_1l=>
bindO (c_1l[0]?) fun d_1m=>
bindO (c1[0]?) fun d_1n=>
bindO (elsD d_1n) fun l_1o=>
bindO (binD P BinOp.sub 3 (Operand.tmp 109) (Operand.const (Value.int IntKind.i64 1)) (lenD l_1o) (D.v (Value.int IntKind.i64 1))) fun d_1p=>
bindO (pcD P pc 35 [d_1m,(D.v (Value.int IntKind.i64 0)),d_1p]) fun d_1q=>
bindO (semD P d_1q (Op.unary UnOp.not)) fun d_1r=>
ifU d_1r (
j7 u6 (D.v (Value.bool true)) c1 c_1l) (
bindO (c_1l[1]?) fun d_2b=>
bindO (c1[0]?) fun d_2c=>
bindO (elsD d_2c) fun l_2d=>
bindO (binD P BinOp.sub 3 (Operand.tmp 118) (Operand.const (Value.int IntKind.i64 1)) (lenD l_2d) (D.v (Value.int IntKind.i64 1))) fun d_2e=>
bindO (pcD P pc 35 [d_2b,(D.v (Value.int IntKind.i64 0)),d_2e]) fun d_2f=>
bindO (semD P d_2f (Op.unary UnOp.not)) fun d_2g=>
ifU d_2g (
j7 u6 (D.v (Value.bool true)) c1 c_1l) (
bindO (c_1l[0]?) fun d_2h=>
bindO (c_1l[1]?) fun d_2i=>
bindO (binD P BinOp.eql 3 (Operand.tmp 125) (Operand.tmp 127) d_2h d_2i) fun d_2j=>
j7 u6 d_2j c1 c_1l)))) (
some (D.v (Value.int IntKind.i64 0)))
noncomputable def C87_6(m1:Nat)(b6:(D→List D→Option D)):=B87_6 pc k m1 (C87_7 pc k m1 b6) b6
noncomputable def S87_6:Nat→(D→List D→Option D):=recF (C87_6 pc k) (fun _ _=>none)
theorem h87_6(m1:Nat):T87_6 pc rk k m1=C87_6 pc k m1 (XZ pc rk k m1):=Eq.trans (b:=B87_6 pc k m1 (T87_7 pc rk k m1) (XZ pc rk k m1)) (by kernel_rfl) (by rw[h87_7]; rfl)
theorem q87_6(m:Nat):T87_6 pc rk k m=S87_6 pc k m:=recS (h87_6 pc rk k) (by kernel_rfl) (fun m=>by kernel_rfl) m
noncomputable def B87_4(pc:PC)(k:Nat)(m1:Nat)(j5:(D→D→List D→Option D))(j6:(D→List D→Option D))(b4:(D→List D→Option D))(u4:D)(c1:List D):Option D:=
bindO (c1[2]?) fun d_q=>
bindO (elsD d_q) fun l_r=>
bindO (binD P BinOp.lss 3 (Operand.tmp 57) (Operand.tmp 60) u4 (lenD l_r)) fun d_s=>
ifU d_s (
bindO (c1[2]?) fun d_t=>
bindO (elsD d_t) fun l_u=>
bindO (idxD u4 l_u.length) fun i_v=>
bindO (l_u[i_v]?) fun d_w=>
bindO (aggD d_w) fun c_x=>
chkK (Nat.beq c_x.length 5) (
bindO (cutD c_x 0 5) fun c_y=>
bindO (splD [(D.v (Value.int IntKind.i64 0)),(D.v (Value.int IntKind.i64 0)),(D.v (Value.int IntKind.i64 0)),(D.v (Value.int IntKind.i64 0)),(D.v (Value.int IntKind.i64 0))] 0 c_y 5) fun c_z=>
bindO (c_z[0]?) fun d_10=>
bindO (pcD P pc 35 [d_10,(D.v (Value.int IntKind.i64 0)),(D.v (Value.int IntKind.i64 1000))]) fun d_11=>
bindO (semD P d_11 (Op.unary UnOp.not)) fun d_12=>
ifU d_12 (
j5 u4 (D.v (Value.bool true)) c1) (
bindO (c_z[1]?) fun d_14=>
bindO (c_z[2]?) fun d_15=>
bindO (pcD P pc 105 [d_14,d_15]) fun d_16=>
bindO (semD P d_16 (Op.unary UnOp.not)) fun d_17=>
ifU d_17 (
j5 u4 (D.v (Value.bool true)) c1) (
bindO (c_z[3]?) fun d_18=>
bindO (c_z[4]?) fun d_19=>
bindO (pcD P pc 105 [d_18,d_19]) fun d_1a=>
bindO (semD P d_1a (Op.unary UnOp.not)) fun d_1b=>
j5 u4 d_1b c1)))) (
j6 (D.v (Value.int IntKind.i64 0)) c1)
noncomputable def C87_4(m1:Nat)(b4:(D→List D→Option D)):=B87_4 pc k m1 (C87_5 pc k m1 b4) (S87_6 pc k k) b4
noncomputable def S87_4:Nat→(D→List D→Option D):=recF (C87_4 pc k) (fun _ _=>none)
theorem h87_4(m1:Nat):T87_4 pc rk k m1=C87_4 pc k m1 (R87_4 pc rk k m1):=Eq.trans (b:=B87_4 pc k m1 (T87_5 pc rk k m1) (T87_6 pc rk k k) (R87_4 pc rk k m1)) (by kernel_rfl) (by rw[h87_5,q87_6]; rfl)
theorem q87_4(m:Nat):T87_4 pc rk k m=S87_4 pc k m:=recS (h87_4 pc rk k) (by kernel_rfl) (fun m=>by kernel_rfl) m
noncomputable def B87_3(pc:PC)(k:Nat)(m1:Nat)(j4:(D→List D→Option D))(b3:(D→List D→Option D))(u3:D)(c1:List D):Option D:=
bindO (c1[0]?) fun d_8=>
bindO (elsD d_8) fun l_9=>
bindO (binD P BinOp.lss 3 (Operand.tmp 36) (Operand.tmp 39) u3 (lenD l_9)) fun d_a=>
ifU d_a (
bindO (c1[0]?) fun d_b=>
bindO (elsD d_b) fun l_c=>
bindO (idxD u3 l_c.length) fun i_d=>
bindO (l_c[i_d]?) fun d_e=>
bindO (aggD d_e) fun c_f=>
chkK (Nat.beq c_f.length 2) (
bindO (c_f[0]?) fun d_g=>
bindO (c1[0]?) fun d_h=>
bindO (elsD d_h) fun l_i=>
bindO (idxD u3 l_i.length) fun i_j=>
bindO (l_i[i_j]?) fun d_k=>
bindO (aggD d_k) fun c_l=>
chkK (Nat.beq c_l.length 2) (
bindO ((List.drop 1 c_l)[0]?) fun d_m=>
bindO (pcD P pc 105 [d_g,d_m]) fun d_n=>
bindO (semD P d_n (Op.unary UnOp.not)) fun d_o=>
ifU d_o (
some (D.v (Value.int IntKind.i64 1))) (
bindO (binD P BinOp.add 3 (Operand.tmp 41) (Operand.const (Value.int IntKind.i64 1)) u3 (D.v (Value.int IntKind.i64 1))) fun d_p=>
b3 d_p c1)))) (
j4 (D.v (Value.int IntKind.i64 0)) c1)
noncomputable def C87_3(m1:Nat):=B87_3 pc k m1 (S87_4 pc k k)
noncomputable def S87_3:Nat→(D→List D→Option D):=recF (C87_3 pc k) (fun _ _=>none)
theorem h87_3(m1:Nat):T87_3 pc rk k m1=C87_3 pc k m1 (R87_3 pc rk k m1):=Eq.trans (b:=B87_3 pc k m1 (T87_4 pc rk k k) (R87_3 pc rk k m1)) (by kernel_rfl) (by rw[q87_4]; rfl)
theorem q87_3(m:Nat):T87_3 pc rk k m=S87_3 pc k m:=recS (h87_3 pc rk k) (by kernel_rfl) (fun m=>by kernel_rfl) m
noncomputable def B87_2(pc:PC)(k:Nat)(j3:(D→List D→Option D))(u35:D)(c1:List D):Option D:=
ifU u35 (
some (D.v (Value.int IntKind.i64 1))) (
j3 (D.v (Value.int IntKind.i64 0)) c1)
noncomputable def C87_2:=B87_2 pc k (S87_3 pc k k)
theorem h87_2:T87_2 pc rk k=C87_2 pc k:=Eq.trans (b:=B87_2 pc k (T87_3 pc rk k k)) (by kernel_rfl) (by rw[q87_3]; rfl)
noncomputable def B87_1(pc:PC)(k:Nat)(j2:(D→List D→Option D))(u25:D)(c1:List D):Option D:=
ifU u25 (
some (D.v (Value.int IntKind.i64 3))) (
bindO (c1[0]?) fun d_5=>
bindO (elsD d_5) fun l_6=>
bindO (binD P BinOp.eql 3 (Operand.tmp 28) (Operand.const (Value.int IntKind.i64 0)) (lenD l_6) (D.v (Value.int IntKind.i64 0))) fun d_7=>
ifU d_7 (
j2 (D.v (Value.bool true)) c1) (
bindO (c1[2]?) fun d_2k=>
bindO (elsD d_2k) fun l_2l=>
bindO (binD P BinOp.eql 3 (Operand.tmp 33) (Operand.const (Value.int IntKind.i64 0)) (lenD l_2l) (D.v (Value.int IntKind.i64 0))) fun d_2m=>
j2 d_2m c1))
noncomputable def C87_1:=B87_1 pc k (C87_2 pc k)
theorem h87_1:T87_1 pc rk k=C87_1 pc k:=Eq.trans (b:=B87_1 pc k (T87_2 pc rk k)) (by kernel_rfl) (by rw[h87_2]; rfl)
noncomputable def B87_0(pc:PC)(k:Nat)(j1:(D→List D→Option D))(v0:D):Option D:=
bindO (aggD v0) fun c_1=>
bindO (c_1[0]?) fun d_2=>
bindO (elsD d_2) fun l_3=>
bindO (binD P BinOp.gtr 3 (Operand.tmp 12) (Operand.const (Value.int IntKind.i64 8)) (lenD l_3) (D.v (Value.int IntKind.i64 8))) fun d_4=>
ifU d_4 (
j1 (D.v (Value.bool true)) c_1) (
bindO (c_1[1]?) fun d_2n=>
bindO (elsD d_2n) fun l_2o=>
bindO (binD P BinOp.gtr 3 (Operand.tmp 17) (Operand.const (Value.int IntKind.i64 16)) (lenD l_2o) (D.v (Value.int IntKind.i64 16))) fun d_2p=>
ifU d_2p (
j1 (D.v (Value.bool true)) c_1) (
bindO (c_1[2]?) fun d_2q=>
bindO (elsD d_2q) fun l_2r=>
bindO (binD P BinOp.gtr 3 (Operand.tmp 23) (Operand.const (Value.int IntKind.i64 3)) (lenD l_2r) (D.v (Value.int IntKind.i64 3))) fun d_2s=>
j1 d_2s c_1))
noncomputable def C87_0:=B87_0 pc k (C87_1 pc k)
theorem h87_0(v0:D):cJ P pc noY rk LA (k+1) 87 [v0]=C87_0 pc k v0:=(bqA Go.Proofs.Tryz.f87 gK cX (by kernel_rfl)).trans (Eq.trans (b:=B87_0 pc k (T87_1 pc rk k) v0) (by kernel_rfl) (by rw[h87_1]; rfl))
noncomputable def LY:Code:=ak 88
noncomputable def sv:List ResultVar:=bw 88
noncomputable def K88_pr:KA:=(bX (LvA.b (LA 88)).c (aW P pc noY rk (aq P pc noY rk 88 k) 88 (cR (cR LY)) (LvA.b (LvA.b (LA 88))) (aw P sv) X0A (aw P sv)))
noncomputable def Bk:(Nat→KA):=(upA 0 (K88_pr pc rk k) X0A)
noncomputable def K88_prlrl(m1:Nat):KA:=(bX (LvA.a (LvA.b (LvA.a (LvA.b (LA 88))))).c (aq P pc noY rk 88 m1 (LvA.a (LvA.b (LvA.a (LvA.b (LA 88))))) (cL (cR (cL (cR LY)))) (K88_pr pc rk k) (Bk pc rk k) (aw P sv)))
noncomputable def K88_prlrllr(m1:Nat):KA:=(bX (LvA.b (LvA.a (LvA.a (LvA.b (LvA.a (LvA.b (LA 88))))))).c (aW P pc noY rk (aq P pc noY rk 88 m1) 88 (cR (cR (cL (cL (cR (cL (cR LY))))))) (LvA.b (LvA.b (LvA.a (LvA.a (LvA.b (LvA.a (LvA.b (LA 88)))))))) (K88_prlrl pc rk k m1) (Bk pc rk k) (aw P sv)))
noncomputable def K88_pxrlrllrl(m1:Nat):(Nat→KA):=(upA 1 (K88_prlrllr pc rk k m1) (Bk pc rk k))
noncomputable def T88_2(m1:Nat):=fun(u1:D) (u5:D) (u38:D) (c2:List D)=>labA (aW P pc noY rk (aq P pc noY rk 88 m1) 88 (cR (cL (cL (cR (cL (cL (cR (cL (cR LY))))))))) (LvA.b (LvA.a (LvA.a (LvA.b (LvA.a (LvA.a (LvA.b (LvA.a (LvA.b (LA 88)))))))))) (K88_prlrllr pc rk k m1) (K88_pxrlrllrl pc rk k m1) (aw P sv)) (Tr.set (Tr.set (Tr.set (Tr.set Tr.nil 38 (some (AV.d u38))) 5 (some (AV.d u5))) 2 (some (AV.loc 2 0))) 1 (some (AV.d u1))) (Tr.set Tr.nil 2 (some (Bx.dat c2 false)))
noncomputable def T88_1(m1:Nat):=fun(u1:D) (u5:D) (c2:List D)=>labA (aW P pc noY rk (aq P pc noY rk 88 m1) 88 (cL (cL (cR (cL (cR LY))))) (LvA.a (LvA.a (LvA.b (LvA.a (LvA.b (LA 88)))))) (K88_prlrl pc rk k m1) (Bk pc rk k) (aw P sv)) (Tr.set (Tr.set (Tr.set Tr.nil 5 (some (AV.d u5))) 2 (some (AV.loc 2 0))) 1 (some (AV.d u1))) (Tr.set Tr.nil 2 (some (Bx.dat c2 false)))
noncomputable def R88_1(m1:Nat):(D→D→List D→Option D):=fun u1 u5 c2=>labA (aq P pc noY rk 88 m1 (LvA.a (LvA.b (LvA.a (LvA.b (LA 88))))) (cL (cR (cL (cR LY)))) (K88_pr pc rk k) (Bk pc rk k) (aw P sv)) (Tr.set (Tr.set (Tr.set Tr.nil 5 (some (AV.d u5))) 2 (some (AV.loc 2 0))) 1 (some (AV.d u1))) (Tr.set Tr.nil 2 (some (Bx.dat c2 false)))
noncomputable def B88_2(pc:PC)(k:Nat)(m1:Nat)(b1:(D→D→List D→Option D))(u1:D)(u5:D)(u38:D)(c2:List D):Option D:=
ifU u38 (
some (D.v (Value.bool false))) (
bindO (binD P BinOp.add 3 (Operand.tmp 10) (Operand.const (Value.int IntKind.i64 1)) u5 (D.v (Value.int IntKind.i64 1))) fun d_c=>
b1 u1 d_c c2)
noncomputable def C88_2(m1:Nat):=B88_2 pc k m1
theorem h88_2(m1:Nat):T88_2 pc rk k m1=C88_2 pc k m1 (R88_1 pc rk k m1):=by kernel_rfl
noncomputable def B88_1(pc:PC)(k:Nat)(m1:Nat)(j2:(D→D→D→List D→Option D))(b1:(D→D→List D→Option D))(u1:D)(u5:D)(c2:List D):Option D:=
bindO (elsD u1) fun l_2=>
bindO (binD P BinOp.lss 3 (Operand.tmp 6) (Operand.tmp 8) u5 (lenD l_2)) fun d_3=>
ifU d_3 (
bindO (elsD u1) fun l_4=>
bindO (idxD u5 l_4.length) fun i_5=>
bindO (l_4[i_5]?) fun d_6=>
chkK (bz d_6) (
bindO (c2[0]?) fun d_7=>
bindO (elsD d_7) fun l_8=>
bindO (binD P BinOp.sub 3 (Operand.tmp 19) (Operand.const (Value.int IntKind.i64 1)) (lenD l_8) (D.v (Value.int IntKind.i64 1))) fun d_9=>
bindO (pcD P pc 35 [d_6,(D.v (Value.int IntKind.i64 0)),d_9]) fun d_a=>
bindO (semD P d_a (Op.unary UnOp.not)) fun d_b=>
ifU d_b (
j2 u1 u5 (D.v (Value.bool true)) c2) (
bindO (binD P BinOp.gtr 3 (Operand.tmp 24) (Operand.const (Value.int IntKind.i64 0)) u5 (D.v (Value.int IntKind.i64 0))) fun d_d=>
ifU d_d (
bindO (elsD u1) fun l_e=>
bindO (idxD u5 l_e.length) fun i_f=>
bindO (l_e[i_f]?) fun d_g=>
chkK (bz d_g) (
bindO (binD P BinOp.sub 3 (Operand.tmp 32) (Operand.const (Value.int IntKind.i64 1)) u5 (D.v (Value.int IntKind.i64 1))) fun d_h=>
bindO (elsD u1) fun l_i=>
bindO (idxD d_h l_i.length) fun i_j=>
bindO (l_i[i_j]?) fun d_k=>
chkK (bz d_k) (
bindO (binD P BinOp.leq 3 (Operand.tmp 30) (Operand.tmp 35) d_g d_k) fun d_l=>
j2 u1 u5 d_l c2))) (
j2 u1 u5 (D.v (Value.bool false)) c2)))) (
some (D.v (Value.bool true)))
noncomputable def C88_1(m1:Nat)(b1:(D→D→List D→Option D)):=B88_1 pc k m1 (C88_2 pc k m1 b1) b1
noncomputable def S88_1:Nat→(D→D→List D→Option D):=recF (C88_1 pc k) (fun _ _ _=>none)
theorem h88_1(m1:Nat):T88_1 pc rk k m1=C88_1 pc k m1 (R88_1 pc rk k m1):=Eq.trans (b:=B88_1 pc k m1 (T88_2 pc rk k m1) (R88_1 pc rk k m1)) (by kernel_rfl) (by rw[h88_2]; rfl)
theorem q88_1(m:Nat):T88_1 pc rk k m=S88_1 pc k m:=recS (h88_1 pc rk k) (by kernel_rfl) (fun m=>by kernel_rfl) m
noncomputable def B88_0(pc:PC)(k:Nat)(j1:(D→D→List D→Option D))(v0:D)(v1:D):Option D:=
bindO (aggD v0) fun c_1=>
j1 v1 (D.v (Value.int IntKind.i64 0)) c_1
noncomputable def C88_0:=B88_0 pc k (S88_1 pc k k)
theorem h88_0(v0:D)(v1:D):cJ P pc noY rk LA (k+1) 88 [v0,v1]=C88_0 pc k v0 v1:=(bqA Go.Proofs.Tryz.f88 LY sv (by kernel_rfl)).trans (Eq.trans (b:=B88_0 pc k (T88_1 pc rk k k) v0 v1) (by kernel_rfl) (by rw[q88_1]; rfl))
noncomputable def dz:Code:=ak 89
noncomputable def ux:List ResultVar:=bw 89
noncomputable def Zk(pc rg pc1 rg1 pc2:PC)(rk2:List Nat→RK)(k:Nat):KA:=(bX (LvA.b (LvA.b (LA 89))).c (aW P pc noY (gz P rg pc1 (gz P rg1 pc2 rk2 (k+1)) (k+1) []) (aq P pc noY (gz P rg pc1 (gz P rg1 pc2 rk2 (k+1)) (k+1) []) 89 k) 89 (cR (cR (cR dz))) (LvA.b (LvA.b (LvA.b (LA 89)))) (aw P ux) X0A (aw P ux)))
noncomputable def Dx(pc rg pc1 rg1 pc2:PC)(rk2:List Nat→RK)(k:Nat):(Nat→KA):=(upA 0 (Zk pc rg pc1 rg1 pc2 rk2 k) X0A)
noncomputable def zW(pc rg pc1 rg1 pc2:PC)(rk2:List Nat→RK)(k:Nat)(m1:List (List D)):KA:=(bX ((LvA.a (LvA.a (LvA.b (LvA.a (LvA.b (LvA.b (LA 89)))))))).c (fun _ G=>QQ (cfB P pc1 (gz P rg1 pc2 rk2 (k+1) ((cK (cR (cL (cR (cL (cR (cR dz)))))))::[])) (k+1) 89) (LvA.a (LvA.b (LvA.a (LvA.b (LvA.b (LA 89)))))) (ntm P 89) (rPs (cL (cR (cL (cR (cR dz)))))) (cL (cL (cR (cL (cR (cR dz)))))) (cR (cL (cR (cL (cR (cR dz)))))) (cK (cR (cL (cR (cL (cR (cR dz))))))) (Zk pc rg pc1 rg1 pc2 rk2 k) (Dx pc rg pc1 rg1 pc2 rk2 k) (aw P ux) m1 G))
noncomputable def K89_pxrrlrlb(pc rg pc1 rg1 pc2:PC)(rk2:List Nat→RK)(k:Nat)(m1:List (List D)):(Nat→KA):=(fun i _ G=>envK (cK (cR (cL (cR (cL (cR (cR dz))))))) G fun A=>(Dx pc rg pc1 rg1 pc2 rk2 k) i A G)
noncomputable def ov(pc rg pc1 rg1 pc2:PC)(rk2:List Nat→RK)(k:Nat)(m1:List (List D)):KA:=(fun _ G=>envK (cK (cR (cL (cR (cL (cR (cR dz))))))) G fun A=>(aw P ux) A G)
noncomputable def K89_pxrrlrlr(pc rg pc1 rg1 pc2:PC)(rk2:List Nat→RK)(k:Nat)(m1:List (List D)):(Nat→KA):=(upA 1 (zW pc rg pc1 rg1 pc2 rk2 k m1) (K89_pxrrlrlb pc rg pc1 rg1 pc2 rk2 k m1))
noncomputable def ow(pc rg pc1 rg1 pc2:PC)(rk2:List Nat→RK)(k:Nat)(m1:List (List D)):(Nat→KA):=(upA 2 (zW pc rg pc1 rg1 pc2 rk2 k m1) (K89_pxrrlrlr pc rg pc1 rg1 pc2 rk2 k m1))
noncomputable def K89_prrlrlrlrl(pc rg pc1 rg1 pc2:PC)(rk2:List Nat→RK)(k:Nat)(m1:List (List D))(m2:Nat):KA:=(bX (LvA.a (LvA.b (LvA.a (LvA.b (LvA.a (LvA.b (LvA.a (LvA.b (LvA.b (LA 89)))))))))).c (aq P pc1 noY (gz P rg1 pc2 rk2 (k+1) ((cK (cR (cL (cR (cL (cR (cR dz)))))))::[])) 89 m2 (LvA.a (LvA.b (LvA.a (LvA.b (LvA.a (LvA.b (LvA.a (LvA.b (LvA.b (LA 89)))))))))) (cL (cR (cL (cR (cL (cR (cL (cR (cR dz))))))))) (zW pc rg pc1 rg1 pc2 rk2 k m1) (ow pc rg pc1 rg1 pc2 rk2 k m1) (ov pc rg pc1 rg1 pc2 rk2 k m1)))
noncomputable def K89_prrlrlrlrllrr(pc rg pc1 rg1 pc2:PC)(rk2:List Nat→RK)(k:Nat)(m1:List (List D))(m2:Nat):KA:=(bX (LvA.b (LvA.b (LvA.a (LvA.a (LvA.b (LvA.a (LvA.b (LvA.a (LvA.b (LvA.a (LvA.b (LvA.b (LA 89))))))))))))).c (aW P pc1 noY (gz P rg1 pc2 rk2 (k+1) ((cK (cR (cL (cR (cL (cR (cR dz)))))))::[])) (aq P pc1 noY (gz P rg1 pc2 rk2 (k+1) ((cK (cR (cL (cR (cL (cR (cR dz)))))))::[])) 89 m2) 89 (cR (cR (cR (cL (cL (cR (cL (cR (cL (cR (cL (cR (cR dz))))))))))))) (LvA.b (LvA.b (LvA.b (LvA.a (LvA.a (LvA.b (LvA.a (LvA.b (LvA.a (LvA.b (LvA.a (LvA.b (LvA.b (LA 89)))))))))))))) (K89_prrlrlrlrl pc rg pc1 rg1 pc2 rk2 k m1 m2) (ow pc rg pc1 rg1 pc2 rk2 k m1) (ov pc rg pc1 rg1 pc2 rk2 k m1)))
noncomputable def K89_pxrrlrlrlrllrrl(pc rg pc1 rg1 pc2:PC)(rk2:List Nat→RK)(k:Nat)(m1:List (List D))(m2:Nat):(Nat→KA):=(upA 3 (K89_prrlrlrlrllrr pc rg pc1 rg1 pc2 rk2 k m1 m2) (ow pc rg pc1 rg1 pc2 rk2 k m1))
noncomputable def nQ(pc rg pc1 rg1 pc2:PC)(rk2:List Nat→RK)(k:Nat)(m1:List (List D))(m2:Nat):KA:=(bX (LvA.b (LvA.b (LvA.a (LvA.a (LvA.b (LvA.b (LvA.a (LvA.a (LvA.b (LvA.a (LvA.b (LvA.a (LvA.b (LvA.a (LvA.b (LvA.b (LA 89))))))))))))))))).c (aW P pc1 noY (gz P rg1 pc2 rk2 (k+1) ((cK (cR (cL (cR (cL (cR (cR dz)))))))::[])) (aq P pc1 noY (gz P rg1 pc2 rk2 (k+1) ((cK (cR (cL (cR (cL (cR (cR dz)))))))::[])) 89 m2) 89 (cR (cR (cR (cL (cL (cR (cR (cL (cL (cR (cL (cR (cL (cR (cL (cR (cR dz))))))))))))))))) (LvA.b (LvA.b (LvA.b (LvA.a (LvA.a (LvA.b (LvA.b (LvA.a (LvA.a (LvA.b (LvA.a (LvA.b (LvA.a (LvA.b (LvA.a (LvA.b (LvA.b (LA 89)))))))))))))))))) (K89_prrlrlrlrllrr pc rg pc1 rg1 pc2 rk2 k m1 m2) (K89_pxrrlrlrlrllrrl pc rg pc1 rg1 pc2 rk2 k m1 m2) (ov pc rg pc1 rg1 pc2 rk2 k m1)))
noncomputable def K89_pxrrlrlrlrllrrllrrlr(pc rg pc1 rg1 pc2:PC)(rk2:List Nat→RK)(k:Nat)(m1:List (List D))(m2:Nat):(Nat→KA):=(upA 4 (nQ pc rg pc1 rg1 pc2 rk2 k m1 m2) (K89_pxrrlrlrlrllrrl pc rg pc1 rg1 pc2 rk2 k m1 m2))
noncomputable def XK(pc rg pc1 rg1 pc2:PC)(rk2:List Nat→RK)(k:Nat)(m1:List (List D))(m2:Nat)(m3:List (List D)):KA:=fun _ G=>QQ (cfB P pc2 (rk2 ((cK (cR (cL (cR (cL (cR (cR (cL (cL (cR (cR (cL (cL (cR (cL (cR (cL (cR (cL (cR (cR dz)))))))))))))))))))))::((cK (cR (cL (cR (cL (cR (cR dz)))))))::[]))) (k+1) 89) (LvA.a (LvA.b (LvA.a (LvA.b (LvA.b (LvA.a (LvA.a (LvA.b (LvA.b (LvA.a (LvA.a (LvA.b (LvA.a (LvA.b (LvA.a (LvA.b (LvA.a (LvA.b (LvA.b (LA 89)))))))))))))))))))) (ntm P 89) (rPs (cL (cR (cL (cR (cR (cL (cL (cR (cR (cL (cL (cR (cL (cR (cL (cR (cL (cR (cR dz)))))))))))))))))))) (cL (cL (cR (cL (cR (cR (cL (cL (cR (cR (cL (cL (cR (cL (cR (cL (cR (cL (cR (cR dz)))))))))))))))))))) (cR (cL (cR (cL (cR (cR (cL (cL (cR (cR (cL (cL (cR (cL (cR (cL (cR (cL (cR (cR dz)))))))))))))))))))) (cK (cR (cL (cR (cL (cR (cR (cL (cL (cR (cR (cL (cL (cR (cL (cR (cL (cR (cL (cR (cR dz))))))))))))))))))))) (nQ pc rg pc1 rg1 pc2 rk2 k m1 m2) (K89_pxrrlrlrlrllrrllrrlr pc rg pc1 rg1 pc2 rk2 k m1 m2) (ov pc rg pc1 rg1 pc2 rk2 k m1) m3 G
noncomputable def R89_5(pc rg pc1 rg1 pc2:PC)(rk2:List Nat→RK)(k:Nat)(m1:List (List D))(m2:Nat)(m3:List (List D)):(D→D→D→D→List MapEntry→Nat→D→D→D→D→D→D→D→Option D):=fun g2_0 g6_0 g7_0 g10_0 es12 mc12 e1_14 e5_8 e5_9 e5_21 e5_22 e5_23 e5_32=>labA (XK pc rg pc1 rg1 pc2 rk2 k m1 m2 m3) Tr.nil (Tr.set (Tr.set (Tr.set (Tr.set (Tr.set (Tr.set (Tr.set (Tr.set Tr.nil 1000005 (some (Bx.env [(2,(AV.loc 2 0)),(5,(AV.loc 5 0)),(6,(AV.loc 6 0)),(7,(AV.loc 7 0)),(8,(AV.d e5_8)),(9,(AV.d e5_9)),(10,(AV.loc 10 0)),(21,(AV.d e5_21)),(22,(AV.d e5_22)),(23,(AV.d e5_23)),(32,(AV.d e5_32))]))) 1000001 (some (Bx.env [(2,(AV.loc 2 0)),(5,(AV.loc 5 0)),(14,(AV.d e1_14))]))) 12 (some (Bx.map es12 mc12 false))) 10 (some (Bx.dat [g10_0] false))) 7 (some (Bx.dat [g7_0] false))) 6 (some (Bx.dat [g6_0] false))) 5 (some (Bx.box [(AV.mp 12)]))) 2 (some (Bx.dat [g2_0] false)))
noncomputable def T89_4(pc rg pc1 rg1 pc2:PC)(rk2:List Nat→RK)(k:Nat)(m1:List (List D))(m2:Nat):=fun(u8:D) (u9:D) (u21:D) (u22:D) (u23:D) (u32:D) (g2_0:D) (g6_0:D) (g7_0:D) (g10_0:D) (es12:List MapEntry) (mc12:Nat) (e1_14:D)=>labA (fun A G=>getK (opdA (rX (cL (cR (cL (cR (cR (cL (cL (cR (cR (cL (cL (cR (cL (cR (cL (cR (cL (cR (cR dz)))))))))))))))))))) A) fun a=>(gz P rg1 pc2 rk2 (k+1) ((cK (cR (cL (cR (cL (cR (cR dz)))))))::[])) (LvA.a (LvA.b (LvA.a (LvA.b (LvA.b (LvA.a (LvA.a (LvA.b (LvA.b (LvA.a (LvA.a (LvA.b (LvA.a (LvA.b (LvA.a (LvA.b (LvA.a (LvA.b (LvA.b (LA 89)))))))))))))))))))) 89 a (rPs (cL (cR (cL (cR (cR (cL (cL (cR (cR (cL (cL (cR (cL (cR (cL (cR (cL (cR (cR dz)))))))))))))))))))) (cL (cL (cR (cL (cR (cR (cL (cL (cR (cR (cL (cL (cR (cL (cR (cL (cR (cL (cR (cR dz)))))))))))))))))))) (cR (cL (cR (cL (cR (cR (cL (cL (cR (cR (cL (cL (cR (cL (cR (cL (cR (cL (cR (cR dz)))))))))))))))))))) (nQ pc rg pc1 rg1 pc2 rk2 k m1 m2) (K89_pxrrlrlrlrllrrllrrlr pc rg pc1 rg1 pc2 rk2 k m1 m2) (ov pc rg pc1 rg1 pc2 rk2 k m1) A G) (Tr.set (Tr.set (Tr.set (Tr.set (Tr.set (Tr.set (Tr.set (Tr.set (Tr.set (Tr.set (Tr.set Tr.nil 32 (some (AV.d u32))) 23 (some (AV.d u23))) 22 (some (AV.d u22))) 21 (some (AV.d u21))) 10 (some (AV.loc 10 0))) 9 (some (AV.d u9))) 8 (some (AV.d u8))) 7 (some (AV.loc 7 0))) 6 (some (AV.loc 6 0))) 5 (some (AV.loc 5 0))) 2 (some (AV.loc 2 0))) (Tr.set (Tr.set (Tr.set (Tr.set (Tr.set (Tr.set (Tr.set Tr.nil 1000001 (some (Bx.env [(2,(AV.loc 2 0)),(5,(AV.loc 5 0)),(14,(AV.d e1_14))]))) 12 (some (Bx.map es12 mc12 false))) 10 (some (Bx.dat [g10_0] false))) 7 (some (Bx.dat [g7_0] false))) 6 (some (Bx.dat [g6_0] false))) 5 (some (Bx.box [(AV.mp 12)]))) 2 (some (Bx.dat [g2_0] false)))
noncomputable def T89_3(pc rg pc1 rg1 pc2:PC)(rk2:List Nat→RK)(k:Nat)(m1:List (List D))(m2:Nat):=fun(u21:D) (u22:D) (u23:D) (g2_0:D) (g6_0:D) (g7_0:D) (es12:List MapEntry) (mc12:Nat) (e1_14:D)=>labA (aW P pc1 noY (gz P rg1 pc2 rk2 (k+1) ((cK (cR (cL (cR (cL (cR (cR dz)))))))::[])) (aq P pc1 noY (gz P rg1 pc2 rk2 (k+1) ((cK (cR (cL (cR (cL (cR (cR dz)))))))::[])) 89 m2) 89 (cL (cL (cR (cL (cR (cL (cR (cL (cR (cR dz)))))))))) (LvA.a (LvA.a (LvA.b (LvA.a (LvA.b (LvA.a (LvA.b (LvA.a (LvA.b (LvA.b (LA 89))))))))))) (K89_prrlrlrlrl pc rg pc1 rg1 pc2 rk2 k m1 m2) (ow pc rg pc1 rg1 pc2 rk2 k m1) (ov pc rg pc1 rg1 pc2 rk2 k m1)) (Tr.set (Tr.set (Tr.set (Tr.set (Tr.set (Tr.set (Tr.set Tr.nil 23 (some (AV.d u23))) 22 (some (AV.d u22))) 21 (some (AV.d u21))) 7 (some (AV.loc 7 0))) 6 (some (AV.loc 6 0))) 5 (some (AV.loc 5 0))) 2 (some (AV.loc 2 0))) (Tr.set (Tr.set (Tr.set (Tr.set (Tr.set (Tr.set Tr.nil 1000001 (some (Bx.env [(2,(AV.loc 2 0)),(5,(AV.loc 5 0)),(14,(AV.d e1_14))]))) 12 (some (Bx.map es12 mc12 false))) 7 (some (Bx.dat [g7_0] false))) 6 (some (Bx.dat [g6_0] false))) 5 (some (Bx.box [(AV.mp 12)]))) 2 (some (Bx.dat [g2_0] false)))
noncomputable def FK(pc rg pc1 rg1 pc2:PC)(rk2:List Nat→RK)(k:Nat)(m1:List (List D))(m2:Nat):(D→D→D→D→D→D→List MapEntry→Nat→D→Option D):=fun u21 u22 u23 g2_0 g6_0 g7_0 es12 mc12 e1_14=>labA (aq P pc1 noY (gz P rg1 pc2 rk2 (k+1) ((cK (cR (cL (cR (cL (cR (cR dz)))))))::[])) 89 m2 (LvA.a (LvA.b (LvA.a (LvA.b (LvA.a (LvA.b (LvA.a (LvA.b (LvA.b (LA 89)))))))))) (cL (cR (cL (cR (cL (cR (cL (cR (cR dz))))))))) (zW pc rg pc1 rg1 pc2 rk2 k m1) (ow pc rg pc1 rg1 pc2 rk2 k m1) (ov pc rg pc1 rg1 pc2 rk2 k m1)) (Tr.set (Tr.set (Tr.set (Tr.set (Tr.set (Tr.set (Tr.set Tr.nil 23 (some (AV.d u23))) 22 (some (AV.d u22))) 21 (some (AV.d u21))) 7 (some (AV.loc 7 0))) 6 (some (AV.loc 6 0))) 5 (some (AV.loc 5 0))) 2 (some (AV.loc 2 0))) (Tr.set (Tr.set (Tr.set (Tr.set (Tr.set (Tr.set Tr.nil 1000001 (some (Bx.env [(2,(AV.loc 2 0)),(5,(AV.loc 5 0)),(14,(AV.d e1_14))]))) 12 (some (Bx.map es12 mc12 false))) 7 (some (Bx.dat [g7_0] false))) 6 (some (Bx.dat [g6_0] false))) 5 (some (Bx.box [(AV.mp 12)]))) 2 (some (Bx.dat [g2_0] false)))
noncomputable def Yj(pc rg pc1 rg1 pc2:PC)(rk2:List Nat→RK)(k:Nat)(m1:List (List D)):KA:=fun _ G=>QQ (cfB P pc1 (gz P rg1 pc2 rk2 (k+1) ((cK (cR (cL (cR (cL (cR (cR dz)))))))::[])) (k+1) 89) (LvA.a (LvA.b (LvA.a (LvA.b (LvA.b (LA 89)))))) (ntm P 89) (rPs (cL (cR (cL (cR (cR dz)))))) (cL (cL (cR (cL (cR (cR dz)))))) (cR (cL (cR (cL (cR (cR dz)))))) (cK (cR (cL (cR (cL (cR (cR dz))))))) (Zk pc rg pc1 rg1 pc2 rk2 k) (Dx pc rg pc1 rg1 pc2 rk2 k) (aw P ux) m1 G
noncomputable def vX(pc rg pc1 rg1 pc2:PC)(rk2:List Nat→RK)(k:Nat)(m1:List (List D)):(D→List MapEntry→Nat→D→Option D):=fun g2_0 es12 mc12 e1_14=>labA (Yj pc rg pc1 rg1 pc2 rk2 k m1) Tr.nil (Tr.set (Tr.set (Tr.set (Tr.set Tr.nil 1000001 (some (Bx.env [(2,(AV.loc 2 0)),(5,(AV.loc 5 0)),(14,(AV.d e1_14))]))) 12 (some (Bx.map es12 mc12 false))) 5 (some (Bx.box [(AV.mp 12)]))) 2 (some (Bx.dat [g2_0] false)))
noncomputable def T89_1(pc rg pc1 rg1 pc2:PC)(rk2:List Nat→RK)(k:Nat):=fun(u14:D) (g2_0:D) (es12:List MapEntry) (mc12:Nat)=>labA (fun A G=>getK (opdA (rX (cL (cR (cL (cR (cR dz)))))) A) fun a=>(gz P rg pc1 (gz P rg1 pc2 rk2 (k+1)) (k+1) []) (LvA.a (LvA.b (LvA.a (LvA.b (LvA.b (LA 89)))))) 89 a (rPs (cL (cR (cL (cR (cR dz)))))) (cL (cL (cR (cL (cR (cR dz)))))) (cR (cL (cR (cL (cR (cR dz)))))) (Zk pc rg pc1 rg1 pc2 rk2 k) (Dx pc rg pc1 rg1 pc2 rk2 k) (aw P ux) A G) (Tr.set (Tr.set (Tr.set Tr.nil 14 (some (AV.d u14))) 5 (some (AV.loc 5 0))) 2 (some (AV.loc 2 0))) (Tr.set (Tr.set (Tr.set Tr.nil 12 (some (Bx.map es12 mc12 false))) 5 (some (Bx.box [(AV.mp 12)]))) 2 (some (Bx.dat [g2_0] false)))
noncomputable def BN89_5(pc rg pc1 rg1 pc2:PC)(k:Nat)(m1:List (List D))(m2:Nat)(b2:(D→List MapEntry→Nat→D→Option D))(b3:(D→D→D→D→D→D→List MapEntry→Nat→D→Option D))(g2_0:D)(g6_0:D)(g7_0:D)(g10_0:D)(es12:List MapEntry)(mc12:Nat)(e1_14:D)(e5_8:D)(e5_9:D)(e5_21:D)(e5_22:D)(e5_23:D)(e5_32:D):Option D:=
chkK (bz g6_0) (
chkK (bz e5_8) (
bindO (binD P BinOp.add 3 (Operand.tmp 51) (Operand.tmp 52) e5_9 g10_0) fun d_b=>
bindO (updD P 147 es12 mc12 (D.agg [g6_0,e5_8]) d_b) fun r_c=>
bindO (binD P BinOp.add 3 (Operand.tmp 23) (Operand.const (Value.int IntKind.i64 1)) e5_23 (D.v (Value.int IntKind.i64 1))) fun d_d=>
b3 e5_21 e5_22 d_d g2_0 g6_0 g7_0 r_c.1 r_c.2 e1_14))
noncomputable def Sj(pc rg pc1 rg1 pc2:PC)(k:Nat)(m1:List (List D))(m2:Nat)(b2:(D→List MapEntry→Nat→D→Option D))(b3:(D→D→D→D→D→D→List MapEntry→Nat→D→Option D))(g2_0:D)(g6_0:D)(g7_0:D)(g10_0:D)(es12:List MapEntry)(mc12:Nat)(e1_14:D)(e5_8:D)(e5_9:D)(e5_21:D)(e5_22:D)(e5_23:D)(e5_32:D):Option D:=BN89_5 pc rg pc1 rg1 pc2 k m1 m2 b2 b3 g2_0 g6_0 g7_0 g10_0 es12 mc12 e1_14 e5_8 e5_9 e5_21 e5_22 e5_23 e5_32
noncomputable def B89_5(pc rg pc1 rg1 pc2:PC)(k:Nat)(m1:List (List D))(m2:Nat)(m3:List (List D))(b2:(D→List MapEntry→Nat→D→Option D))(b3:(D→D→D→D→D→D→List MapEntry→Nat→D→Option D))(b5:(D→D→D→D→List MapEntry→Nat→D→D→D→D→D→D→D→Option D))(y:List D)(g2_0:D)(g6_0:D)(g7_0:D)(g10_0:D)(es12:List MapEntry)(mc12:Nat)(e1_14:D)(e5_8:D)(e5_9:D)(e5_21:D)(e5_22:D)(e5_23:D)(e5_32:D):Option D:=
par1 y (fun z5_0=>
bindO (pcD P pc2 94 [g7_0,z5_0]) fun d_e=>
bindO (semD P d_e (Op.unary UnOp.not)) fun d_f=>
ifU d_f (
bindO (binD P BinOp.add 3 (Operand.tmp 40) (Operand.const (Value.int IntKind.i64 1)) g6_0 (D.v (Value.int IntKind.i64 1))) fun d_g=>
chkK (bz d_g) (
chkK (bz z5_0) (
bindO (Qk P 147 es12 (D.agg [d_g,z5_0]) false) fun d_h=>
chkK (bz d_h) (
bindO (pcD P pc2 100 [g10_0,(D.sl [d_h])]) fun d_i=>
chkK (bz d_i) (
b5 g2_0 g6_0 g7_0 d_i es12 mc12 e1_14 e5_8 e5_9 e5_21 e5_22 e5_23 e5_32))))) (
b5 g2_0 g6_0 g7_0 g10_0 es12 mc12 e1_14 e5_8 e5_9 e5_21 e5_22 e5_23 e5_32))
noncomputable def C89_5(pc rg pc1 rg1 pc2:PC)(k:Nat)(m1:List (List D)):=B89_5 pc rg pc1 rg1 pc2 k m1
noncomputable def Yq(pc rg pc1 rg1 pc2:PC)(k:Nat)(m1:List (List D))(m2:Nat)(b2:(D→List MapEntry→Nat→D→Option D))(b3:(D→D→D→D→D→D→List MapEntry→Nat→D→Option D)):List (List D)→(D→D→D→D→List MapEntry→Nat→D→D→D→D→D→D→D→Option D):=fun ys=>List.rec (motive:=fun _=>(D→D→D→D→List MapEntry→Nat→D→D→D→D→D→D→D→Option D)) (Sj pc rg pc1 rg1 pc2 k m1 m2 b2 b3) (fun y ys ih=>C89_5 pc rg pc1 rg1 pc2 k m1 m2 ys b2 b3 ih y) ys
theorem hN89_5(pc rg pc1 rg1 pc2:PC)(rk2:List Nat→RK)(k:Nat)(m1:List (List D))(m2:Nat)(g2_0:D)(g6_0:D)(g7_0:D)(g10_0:D)(es12:List MapEntry)(mc12:Nat)(e1_14:D)(e5_8:D)(e5_9:D)(e5_21:D)(e5_22:D)(e5_23:D)(e5_32:D):labA (XK pc rg pc1 rg1 pc2 rk2 k m1 m2 []) Tr.nil (Tr.set (Tr.set (Tr.set (Tr.set (Tr.set (Tr.set (Tr.set (Tr.set Tr.nil 1000005 (some (Bx.env [(2,(AV.loc 2 0)),(5,(AV.loc 5 0)),(6,(AV.loc 6 0)),(7,(AV.loc 7 0)),(8,(AV.d e5_8)),(9,(AV.d e5_9)),(10,(AV.loc 10 0)),(21,(AV.d e5_21)),(22,(AV.d e5_22)),(23,(AV.d e5_23)),(32,(AV.d e5_32))]))) 1000001 (some (Bx.env [(2,(AV.loc 2 0)),(5,(AV.loc 5 0)),(14,(AV.d e1_14))]))) 12 (some (Bx.map es12 mc12 false))) 10 (some (Bx.dat [g10_0] false))) 7 (some (Bx.dat [g7_0] false))) 6 (some (Bx.dat [g6_0] false))) 5 (some (Bx.box [(AV.mp 12)]))) 2 (some (Bx.dat [g2_0] false)))=Sj pc rg pc1 rg1 pc2 k m1 m2 (vX pc rg pc1 rg1 pc2 rk2 k m1) (FK pc rg pc1 rg1 pc2 rk2 k m1 m2) g2_0 g6_0 g7_0 g10_0 es12 mc12 e1_14 e5_8 e5_9 e5_21 e5_22 e5_23 e5_32:=by
 have h:labA (XK pc rg pc1 rg1 pc2 rk2 k m1 m2 []) Tr.nil (Tr.set (Tr.set (Tr.set (Tr.set (Tr.set (Tr.set (Tr.set (Tr.set Tr.nil 1000005 (some (Bx.env [(2,(AV.loc 2 0)),(5,(AV.loc 5 0)),(6,(AV.loc 6 0)),(7,(AV.loc 7 0)),(8,(AV.d e5_8)),(9,(AV.d e5_9)),(10,(AV.loc 10 0)),(21,(AV.d e5_21)),(22,(AV.d e5_22)),(23,(AV.d e5_23)),(32,(AV.d e5_32))]))) 1000001 (some (Bx.env [(2,(AV.loc 2 0)),(5,(AV.loc 5 0)),(14,(AV.d e1_14))]))) 12 (some (Bx.map es12 mc12 false))) 10 (some (Bx.dat [g10_0] false))) 7 (some (Bx.dat [g7_0] false))) 6 (some (Bx.dat [g6_0] false))) 5 (some (Bx.box [(AV.mp 12)]))) 2 (some (Bx.dat [g2_0] false)))=BN89_5 pc rg pc1 rg1 pc2 k m1 m2 (vX pc rg pc1 rg1 pc2 rk2 k m1) (FK pc rg pc1 rg1 pc2 rk2 k m1 m2) g2_0 g6_0 g7_0 g10_0 es12 mc12 e1_14 e5_8 e5_9 e5_21 e5_22 e5_23 e5_32:=by kernel_rfl
 rw[h,Sj]
theorem h89_5(pc rg pc1 rg1 pc2:PC)(rk2:List Nat→RK)(k:Nat)(m1:List (List D))(m2:Nat)(m3:List (List D))(y:List D)(g2_0:D)(g6_0:D)(g7_0:D)(g10_0:D)(es12:List MapEntry)(mc12:Nat)(e1_14:D)(e5_8:D)(e5_9:D)(e5_21:D)(e5_22:D)(e5_23:D)(e5_32:D):labA (XK pc rg pc1 rg1 pc2 rk2 k m1 m2 (y::m3)) Tr.nil (Tr.set (Tr.set (Tr.set (Tr.set (Tr.set (Tr.set (Tr.set (Tr.set Tr.nil 1000005 (some (Bx.env [(2,(AV.loc 2 0)),(5,(AV.loc 5 0)),(6,(AV.loc 6 0)),(7,(AV.loc 7 0)),(8,(AV.d e5_8)),(9,(AV.d e5_9)),(10,(AV.loc 10 0)),(21,(AV.d e5_21)),(22,(AV.d e5_22)),(23,(AV.d e5_23)),(32,(AV.d e5_32))]))) 1000001 (some (Bx.env [(2,(AV.loc 2 0)),(5,(AV.loc 5 0)),(14,(AV.d e1_14))]))) 12 (some (Bx.map es12 mc12 false))) 10 (some (Bx.dat [g10_0] false))) 7 (some (Bx.dat [g7_0] false))) 6 (some (Bx.dat [g6_0] false))) 5 (some (Bx.box [(AV.mp 12)]))) 2 (some (Bx.dat [g2_0] false)))=C89_5 pc rg pc1 rg1 pc2 k m1 m2 m3 (vX pc rg pc1 rg1 pc2 rk2 k m1) (FK pc rg pc1 rg1 pc2 rk2 k m1 m2) (R89_5 pc rg pc1 rg1 pc2 rk2 k m1 m2 m3) y g2_0 g6_0 g7_0 g10_0 es12 mc12 e1_14 e5_8 e5_9 e5_21 e5_22 e5_23 e5_32:=by kernel_rfl
theorem q89_5(pc rg pc1 rg1 pc2:PC)(rk2:List Nat→RK)(k:Nat)(m1:List (List D))(m2:Nat):∀(ys:List (List D)) (g2_0:D) (g6_0:D) (g7_0:D) (g10_0:D) (es12:List MapEntry) (mc12:Nat) (e1_14:D) (e5_8:D) (e5_9:D) (e5_21:D) (e5_22:D) (e5_23:D) (e5_32:D),labA (XK pc rg pc1 rg1 pc2 rk2 k m1 m2 ys) Tr.nil (Tr.set (Tr.set (Tr.set (Tr.set (Tr.set (Tr.set (Tr.set (Tr.set Tr.nil 1000005 (some (Bx.env [(2,(AV.loc 2 0)),(5,(AV.loc 5 0)),(6,(AV.loc 6 0)),(7,(AV.loc 7 0)),(8,(AV.d e5_8)),(9,(AV.d e5_9)),(10,(AV.loc 10 0)),(21,(AV.d e5_21)),(22,(AV.d e5_22)),(23,(AV.d e5_23)),(32,(AV.d e5_32))]))) 1000001 (some (Bx.env [(2,(AV.loc 2 0)),(5,(AV.loc 5 0)),(14,(AV.d e1_14))]))) 12 (some (Bx.map es12 mc12 false))) 10 (some (Bx.dat [g10_0] false))) 7 (some (Bx.dat [g7_0] false))) 6 (some (Bx.dat [g6_0] false))) 5 (some (Bx.box [(AV.mp 12)]))) 2 (some (Bx.dat [g2_0] false)))=Yq pc rg pc1 rg1 pc2 k m1 m2 (vX pc rg pc1 rg1 pc2 rk2 k m1) (FK pc rg pc1 rg1 pc2 rk2 k m1 m2) ys g2_0 g6_0 g7_0 g10_0 es12 mc12 e1_14 e5_8 e5_9 e5_21 e5_22 e5_23 e5_32
 | [],g2_0,g6_0,g7_0,g10_0,es12,mc12,e1_14,e5_8,e5_9,e5_21,e5_22,e5_23,e5_32=>by
  rw[hN89_5]; rfl
 | y::ys,g2_0,g6_0,g7_0,g10_0,es12,mc12,e1_14,e5_8,e5_9,e5_21,e5_22,e5_23,e5_32=>by
  rw[h89_5]
  have e:R89_5 pc rg pc1 rg1 pc2 rk2 k m1 m2 ys=Yq pc rg pc1 rg1 pc2 k m1 m2 (vX pc rg pc1 rg1 pc2 rk2 k m1) (FK pc rg pc1 rg1 pc2 rk2 k m1 m2) ys:=by
   funext g2_0 g6_0 g7_0 g10_0 es12 mc12 e1_14 e5_8 e5_9 e5_21 e5_22 e5_23 e5_32
   have e:R89_5 pc rg pc1 rg1 pc2 rk2 k m1 m2 ys g2_0 g6_0 g7_0 g10_0 es12 mc12 e1_14 e5_8 e5_9 e5_21 e5_22 e5_23 e5_32=labA (XK pc rg pc1 rg1 pc2 rk2 k m1 m2 ys) Tr.nil (Tr.set (Tr.set (Tr.set (Tr.set (Tr.set (Tr.set (Tr.set (Tr.set Tr.nil 1000005 (some (Bx.env [(2,(AV.loc 2 0)),(5,(AV.loc 5 0)),(6,(AV.loc 6 0)),(7,(AV.loc 7 0)),(8,(AV.d e5_8)),(9,(AV.d e5_9)),(10,(AV.loc 10 0)),(21,(AV.d e5_21)),(22,(AV.d e5_22)),(23,(AV.d e5_23)),(32,(AV.d e5_32))]))) 1000001 (some (Bx.env [(2,(AV.loc 2 0)),(5,(AV.loc 5 0)),(14,(AV.d e1_14))]))) 12 (some (Bx.map es12 mc12 false))) 10 (some (Bx.dat [g10_0] false))) 7 (some (Bx.dat [g7_0] false))) 6 (some (Bx.dat [g6_0] false))) 5 (some (Bx.box [(AV.mp 12)]))) 2 (some (Bx.dat [g2_0] false))):=rfl
   rw[e]; exact q89_5 ..
  rw[e]; rfl
noncomputable def B89_4(pc rg pc1 rg1 pc2:PC)(k:Nat)(m1:List (List D))(m2:Nat)(j5:(List (List D)→(D→D→D→D→List MapEntry→Nat→D→D→D→D→D→D→D→Option D)))(b2:(D→List MapEntry→Nat→D→Option D))(b3:(D→D→D→D→D→D→List MapEntry→Nat→D→Option D))(u8:D)(u9:D)(u21:D)(u22:D)(u23:D)(u32:D)(g2_0:D)(g6_0:D)(g7_0:D)(g10_0:D)(es12:List MapEntry)(mc12:Nat)(e1_14:D):Option D:=
fnK u32 fun g a b=>
chkK (Cv P g && !memN ((cK (cR (cL (cR (cL (cR (cR dz)))))))::[]) (cK (cR (cL (cR (cL (cR (cR (cL (cL (cR (cR (cL (cL (cR (cL (cR (cL (cR (cL (cR (cR dz)))))))))))))))))))))) (
Zq (fun l=>rg1 g (a++D.yld l::b)) fun ys=>
j5 ys g2_0 g6_0 g7_0 g10_0 es12 mc12 e1_14 u8 u9 u21 u22 u23 u32)
noncomputable def C89_4(pc rg pc1 rg1 pc2:PC)(k:Nat)(m1:List (List D))(m2:Nat)(b2:(D→List MapEntry→Nat→D→Option D))(b3:(D→D→D→D→D→D→List MapEntry→Nat→D→Option D)):=B89_4 pc rg pc1 rg1 pc2 k m1 m2 (Yq pc rg pc1 rg1 pc2 k m1 m2 b2 b3) b2 b3
theorem h89_4(pc rg pc1 rg1 pc2:PC)(rk2:List Nat→RK)(k:Nat)(m1:List (List D))(m2:Nat)(u8:D)(u9:D)(u21:D)(u22:D)(u23:D)(u32:D)(g2_0:D)(g6_0:D)(g7_0:D)(g10_0:D)(es12:List MapEntry)(mc12:Nat)(e1_14:D):T89_4 pc rg pc1 rg1 pc2 rk2 k m1 m2 u8 u9 u21 u22 u23 u32 g2_0 g6_0 g7_0 g10_0 es12 mc12 e1_14=C89_4 pc rg pc1 rg1 pc2 k m1 m2 (vX pc rg pc1 rg1 pc2 rk2 k m1) (FK pc rg pc1 rg1 pc2 rk2 k m1 m2) u8 u9 u21 u22 u23 u32 g2_0 g6_0 g7_0 g10_0 es12 mc12 e1_14:=by
 have h:T89_4 pc rg pc1 rg1 pc2 rk2 k m1 m2 u8 u9 u21 u22 u23 u32 g2_0 g6_0 g7_0 g10_0 es12 mc12 e1_14=B89_4 pc rg pc1 rg1 pc2 k m1 m2 (fun ys_ g2_0 g6_0 g7_0 g10_0 es12 mc12 e1_14 e5_8 e5_9 e5_21 e5_22 e5_23 e5_32=>labA (XK pc rg pc1 rg1 pc2 rk2 k m1 m2 ys_) Tr.nil (Tr.set (Tr.set (Tr.set (Tr.set (Tr.set (Tr.set (Tr.set (Tr.set Tr.nil 1000005 (some (Bx.env [(2,(AV.loc 2 0)),(5,(AV.loc 5 0)),(6,(AV.loc 6 0)),(7,(AV.loc 7 0)),(8,(AV.d e5_8)),(9,(AV.d e5_9)),(10,(AV.loc 10 0)),(21,(AV.d e5_21)),(22,(AV.d e5_22)),(23,(AV.d e5_23)),(32,(AV.d e5_32))]))) 1000001 (some (Bx.env [(2,(AV.loc 2 0)),(5,(AV.loc 5 0)),(14,(AV.d e1_14))]))) 12 (some (Bx.map es12 mc12 false))) 10 (some (Bx.dat [g10_0] false))) 7 (some (Bx.dat [g7_0] false))) 6 (some (Bx.dat [g6_0] false))) 5 (some (Bx.box [(AV.mp 12)]))) 2 (some (Bx.dat [g2_0] false)))) (vX pc rg pc1 rg1 pc2 rk2 k m1) (FK pc rg pc1 rg1 pc2 rk2 k m1 m2) u8 u9 u21 u22 u23 u32 g2_0 g6_0 g7_0 g10_0 es12 mc12 e1_14:=by kernel_rfl
 rw[h,C89_4]
 have e5:(fun ys_ g2_0 g6_0 g7_0 g10_0 es12 mc12 e1_14 e5_8 e5_9 e5_21 e5_22 e5_23 e5_32=>labA (XK pc rg pc1 rg1 pc2 rk2 k m1 m2 ys_) Tr.nil (Tr.set (Tr.set (Tr.set (Tr.set (Tr.set (Tr.set (Tr.set (Tr.set Tr.nil 1000005 (some (Bx.env [(2,(AV.loc 2 0)),(5,(AV.loc 5 0)),(6,(AV.loc 6 0)),(7,(AV.loc 7 0)),(8,(AV.d e5_8)),(9,(AV.d e5_9)),(10,(AV.loc 10 0)),(21,(AV.d e5_21)),(22,(AV.d e5_22)),(23,(AV.d e5_23)),(32,(AV.d e5_32))]))) 1000001 (some (Bx.env [(2,(AV.loc 2 0)),(5,(AV.loc 5 0)),(14,(AV.d e1_14))]))) 12 (some (Bx.map es12 mc12 false))) 10 (some (Bx.dat [g10_0] false))) 7 (some (Bx.dat [g7_0] false))) 6 (some (Bx.dat [g6_0] false))) 5 (some (Bx.box [(AV.mp 12)]))) 2 (some (Bx.dat [g2_0] false))))=(Yq pc rg pc1 rg1 pc2 k m1 m2 (vX pc rg pc1 rg1 pc2 rk2 k m1) (FK pc rg pc1 rg1 pc2 rk2 k m1 m2)):=by funext ys_ g2_0 g6_0 g7_0 g10_0 es12 mc12 e1_14 e5_8 e5_9 e5_21 e5_22 e5_23 e5_32; exact q89_5 ..
 rw[e5]
theorem f89_4(pc rg pc1 rg1 pc2:PC)(rk2:List Nat→RK)(k:Nat)(m1:List (List D))(m2:Nat):T89_4 pc rg pc1 rg1 pc2 rk2 k m1 m2=C89_4 pc rg pc1 rg1 pc2 k m1 m2 (vX pc rg pc1 rg1 pc2 rk2 k m1) (FK pc rg pc1 rg1 pc2 rk2 k m1 m2):=by funext u8 u9 u21 u22 u23 u32 g2_0 g6_0 g7_0 g10_0 es12 mc12 e1_14; exact h89_4 ..
noncomputable def B89_3(pc rg pc1 rg1 pc2:PC)(k:Nat)(m1:List (List D))(m2:Nat)(j4:(D→D→D→D→D→D→D→D→D→D→List MapEntry→Nat→D→Option D))(b2:(D→List MapEntry→Nat→D→Option D))(b3:(D→D→D→D→D→D→List MapEntry→Nat→D→Option D))(u21:D)(u22:D)(u23:D)(g2_0:D)(g6_0:D)(g7_0:D)(es12:List MapEntry)(mc12:Nat)(e1_14:D):Option D:=
bindO (binD P BinOp.lss 3 (Operand.tmp 23) (Operand.tmp 22) u23 u22) fun d_5=>
ifU d_5 (
bindO (elsD u21) fun l_6=>
bindO (idxD u23 l_6.length) fun i_7=>
bindO (l_6[i_7]?) fun d_8=>
chkK (bz d_8) (
chkK (bz u23) (
bindO (pcD P pc1 83 [(D.sl [u23])]) fun d_9=>
bindO (pcD P pc1 104 [g2_0,d_9]) fun d_a=>
j4 u23 d_8 u21 u22 u23 d_a g2_0 g6_0 g7_0 (D.v (Value.int IntKind.i64 0)) es12 mc12 e1_14))) (
b2 g2_0 es12 mc12 e1_14)
noncomputable def C89_3(pc rg pc1 rg1 pc2:PC)(k:Nat)(m1:List (List D))(m2:Nat)(b2:(D→List MapEntry→Nat→D→Option D))(b3:(D→D→D→D→D→D→List MapEntry→Nat→D→Option D)):=B89_3 pc rg pc1 rg1 pc2 k m1 m2 (C89_4 pc rg pc1 rg1 pc2 k m1 m2 b2 b3) b2 b3
noncomputable def S89_3(pc rg pc1 rg1 pc2:PC)(k:Nat)(m1:List (List D))(b2:(D→List MapEntry→Nat→D→Option D)):Nat→(D→D→D→D→D→D→List MapEntry→Nat→D→Option D):=fun m=>Nat.rec (motive:=fun _=>(D→D→D→D→D→D→List MapEntry→Nat→D→Option D)) (C89_3 pc rg pc1 rg1 pc2 k m1 0 b2 (fun _ _ _ _ _ _ _ _ _=>none)) (fun m ih=>C89_3 pc rg pc1 rg1 pc2 k m1 (m+1) b2 ih) m
theorem h89_3(pc rg pc1 rg1 pc2:PC)(rk2:List Nat→RK)(k:Nat)(m1:List (List D))(m2:Nat):T89_3 pc rg pc1 rg1 pc2 rk2 k m1 m2=C89_3 pc rg pc1 rg1 pc2 k m1 m2 (vX pc rg pc1 rg1 pc2 rk2 k m1) (FK pc rg pc1 rg1 pc2 rk2 k m1 m2):=Eq.trans (b:=B89_3 pc rg pc1 rg1 pc2 k m1 m2 (T89_4 pc rg pc1 rg1 pc2 rk2 k m1 m2) (vX pc rg pc1 rg1 pc2 rk2 k m1) (FK pc rg pc1 rg1 pc2 rk2 k m1 m2)) (by kernel_rfl) (by rw[f89_4]; rfl)
theorem q89_3(pc rg pc1 rg1 pc2:PC)(rk2:List Nat→RK)(k:Nat)(m1:List (List D))(m:Nat):T89_3 pc rg pc1 rg1 pc2 rk2 k m1 m=S89_3 pc rg pc1 rg1 pc2 k m1 (vX pc rg pc1 rg1 pc2 rk2 k m1) m:=recS (h89_3 pc rg pc1 rg1 pc2 rk2 k m1) (by kernel_rfl) (fun m=>by kernel_rfl) m
noncomputable def BN89_2(pc rg pc1 rg1 pc2:PC)(k:Nat)(g2_0:D)(es12:List MapEntry)(mc12:Nat)(e1_14:D):Option D:=
some (D.map es12 mc12)
noncomputable def CN89_2(pc rg pc1 rg1 pc2:PC)(k:Nat)(g2_0:D)(es12:List MapEntry)(mc12:Nat)(e1_14:D):Option D:=BN89_2 pc rg pc1 rg1 pc2 k g2_0 es12 mc12 e1_14
noncomputable def B89_2(pc rg pc1 rg1 pc2:PC)(k:Nat)(m1:List (List D))(j3:(D→D→D→D→D→D→List MapEntry→Nat→D→Option D))(b2:(D→List MapEntry→Nat→D→Option D))(y:List D)(g2_0:D)(es12:List MapEntry)(mc12:Nat)(e1_14:D):Option D:=
par2 y (fun z1_0 z1_1=>
chkK (bz z1_0) (
chkK (bz z1_1) (
nilA (AV.d g2_0) (
bindO (jV g2_0) fun c_2=>
bindO ((List.drop 4 c_2)[0]?) fun d_3=>
bindO (elsD d_3) fun l_4=>
j3 d_3 (lenD l_4) (D.v (Value.int IntKind.i64 0)) g2_0 z1_0 z1_1 es12 mc12 e1_14))))
noncomputable def C89_2(pc rg pc1 rg1 pc2:PC)(k:Nat)(m1:List (List D))(b2:(D→List MapEntry→Nat→D→Option D)):=B89_2 pc rg pc1 rg1 pc2 k m1 (S89_3 pc rg pc1 rg1 pc2 k m1 b2 k) b2
noncomputable def Yv(pc rg pc1 rg1 pc2:PC)(k:Nat):List (List D)→(D→List MapEntry→Nat→D→Option D):=fun ys=>List.rec (motive:=fun _=>(D→List MapEntry→Nat→D→Option D)) (CN89_2 pc rg pc1 rg1 pc2 k) (fun y ys ih=>C89_2 pc rg pc1 rg1 pc2 k ys ih y) ys
theorem hN89_2(pc rg pc1 rg1 pc2:PC)(rk2:List Nat→RK)(k:Nat)(g2_0:D)(es12:List MapEntry)(mc12:Nat)(e1_14:D):labA (Yj pc rg pc1 rg1 pc2 rk2 k []) Tr.nil (Tr.set (Tr.set (Tr.set (Tr.set Tr.nil 1000001 (some (Bx.env [(2,(AV.loc 2 0)),(5,(AV.loc 5 0)),(14,(AV.d e1_14))]))) 12 (some (Bx.map es12 mc12 false))) 5 (some (Bx.box [(AV.mp 12)]))) 2 (some (Bx.dat [g2_0] false)))=CN89_2 pc rg pc1 rg1 pc2 k g2_0 es12 mc12 e1_14:=by
 have h:labA (Yj pc rg pc1 rg1 pc2 rk2 k []) Tr.nil (Tr.set (Tr.set (Tr.set (Tr.set Tr.nil 1000001 (some (Bx.env [(2,(AV.loc 2 0)),(5,(AV.loc 5 0)),(14,(AV.d e1_14))]))) 12 (some (Bx.map es12 mc12 false))) 5 (some (Bx.box [(AV.mp 12)]))) 2 (some (Bx.dat [g2_0] false)))=BN89_2 pc rg pc1 rg1 pc2 k g2_0 es12 mc12 e1_14:=by kernel_rfl
 rw[h,CN89_2]
theorem h89_2(pc rg pc1 rg1 pc2:PC)(rk2:List Nat→RK)(k:Nat)(m1:List (List D))(y:List D)(g2_0:D)(es12:List MapEntry)(mc12:Nat)(e1_14:D):labA (Yj pc rg pc1 rg1 pc2 rk2 k (y::m1)) Tr.nil (Tr.set (Tr.set (Tr.set (Tr.set Tr.nil 1000001 (some (Bx.env [(2,(AV.loc 2 0)),(5,(AV.loc 5 0)),(14,(AV.d e1_14))]))) 12 (some (Bx.map es12 mc12 false))) 5 (some (Bx.box [(AV.mp 12)]))) 2 (some (Bx.dat [g2_0] false)))=C89_2 pc rg pc1 rg1 pc2 k m1 (vX pc rg pc1 rg1 pc2 rk2 k m1) y g2_0 es12 mc12 e1_14:=Eq.trans (b:=B89_2 pc rg pc1 rg1 pc2 k m1 (T89_3 pc rg pc1 rg1 pc2 rk2 k m1 k) (vX pc rg pc1 rg1 pc2 rk2 k m1) y g2_0 es12 mc12 e1_14) (by kernel_rfl) (by rw[q89_3]; rfl)
theorem q89_2(pc rg pc1 rg1 pc2:PC)(rk2:List Nat→RK)(k:Nat):∀(ys:List (List D)) (g2_0:D) (es12:List MapEntry) (mc12:Nat) (e1_14:D),labA (Yj pc rg pc1 rg1 pc2 rk2 k ys) Tr.nil (Tr.set (Tr.set (Tr.set (Tr.set Tr.nil 1000001 (some (Bx.env [(2,(AV.loc 2 0)),(5,(AV.loc 5 0)),(14,(AV.d e1_14))]))) 12 (some (Bx.map es12 mc12 false))) 5 (some (Bx.box [(AV.mp 12)]))) 2 (some (Bx.dat [g2_0] false)))=Yv pc rg pc1 rg1 pc2 k ys g2_0 es12 mc12 e1_14
 | [],g2_0,es12,mc12,e1_14=>by
  rw[hN89_2]; rfl
 | y::ys,g2_0,es12,mc12,e1_14=>by
  rw[h89_2]
  have e:vX pc rg pc1 rg1 pc2 rk2 k ys=Yv pc rg pc1 rg1 pc2 k ys:=by
   funext g2_0 es12 mc12 e1_14
   have e:vX pc rg pc1 rg1 pc2 rk2 k ys g2_0 es12 mc12 e1_14=labA (Yj pc rg pc1 rg1 pc2 rk2 k ys) Tr.nil (Tr.set (Tr.set (Tr.set (Tr.set Tr.nil 1000001 (some (Bx.env [(2,(AV.loc 2 0)),(5,(AV.loc 5 0)),(14,(AV.d e1_14))]))) 12 (some (Bx.map es12 mc12 false))) 5 (some (Bx.box [(AV.mp 12)]))) 2 (some (Bx.dat [g2_0] false))):=rfl
   rw[e]; exact q89_2 ..
  rw[e]; rfl
noncomputable def B89_1(pc rg pc1 rg1 pc2:PC)(k:Nat)(j2:(List (List D)→(D→List MapEntry→Nat→D→Option D)))(u14:D)(g2_0:D)(es12:List MapEntry)(mc12:Nat):Option D:=
fnK u14 fun g a b=>
chkK (Cv P g && !memN [] (cK (cR (cL (cR (cL (cR (cR dz)))))))) (
Zq (fun l=>rg g (a++D.yld l::b)) fun ys=>
j2 ys g2_0 es12 mc12 u14)
noncomputable def C89_1(pc rg pc1 rg1 pc2:PC)(k:Nat):=B89_1 pc rg pc1 rg1 pc2 k (Yv pc rg pc1 rg1 pc2 k)
theorem h89_1(pc rg pc1 rg1 pc2:PC)(rk2:List Nat→RK)(k:Nat)(u14:D)(g2_0:D)(es12:List MapEntry)(mc12:Nat):T89_1 pc rg pc1 rg1 pc2 rk2 k u14 g2_0 es12 mc12=C89_1 pc rg pc1 rg1 pc2 k u14 g2_0 es12 mc12:=by
 have h:T89_1 pc rg pc1 rg1 pc2 rk2 k u14 g2_0 es12 mc12=B89_1 pc rg pc1 rg1 pc2 k (fun ys_ g2_0 es12 mc12 e1_14=>labA (Yj pc rg pc1 rg1 pc2 rk2 k ys_) Tr.nil (Tr.set (Tr.set (Tr.set (Tr.set Tr.nil 1000001 (some (Bx.env [(2,(AV.loc 2 0)),(5,(AV.loc 5 0)),(14,(AV.d e1_14))]))) 12 (some (Bx.map es12 mc12 false))) 5 (some (Bx.box [(AV.mp 12)]))) 2 (some (Bx.dat [g2_0] false)))) u14 g2_0 es12 mc12:=by kernel_rfl
 rw[h,C89_1]
 have e2:(fun ys_ g2_0 es12 mc12 e1_14=>labA (Yj pc rg pc1 rg1 pc2 rk2 k ys_) Tr.nil (Tr.set (Tr.set (Tr.set (Tr.set Tr.nil 1000001 (some (Bx.env [(2,(AV.loc 2 0)),(5,(AV.loc 5 0)),(14,(AV.d e1_14))]))) 12 (some (Bx.map es12 mc12 false))) 5 (some (Bx.box [(AV.mp 12)]))) 2 (some (Bx.dat [g2_0] false))))=(Yv pc rg pc1 rg1 pc2 k):=by funext ys_ g2_0 es12 mc12 e1_14; exact q89_2 ..
 rw[e2]
theorem f89_1(pc rg pc1 rg1 pc2:PC)(rk2:List Nat→RK)(k:Nat):T89_1 pc rg pc1 rg1 pc2 rk2 k=C89_1 pc rg pc1 rg1 pc2 k:=by funext u14 g2_0 es12 mc12; exact h89_1 ..
noncomputable def B89_0(pc rg pc1 rg1 pc2:PC)(k:Nat)(j1:(D→D→List MapEntry→Nat→Option D))(v0:D)(v1:D):Option D:=
chkK (bz v0) (
bindO (pcD P pc 106 [v1]) fun d_1=>
j1 d_1 v0 [] 0)
noncomputable def C89_0(pc rg pc1 rg1 pc2:PC)(k:Nat):=B89_0 pc rg pc1 rg1 pc2 k (C89_1 pc rg pc1 rg1 pc2 k)
theorem h89_0(pc rg pc1 rg1 pc2:PC)(rk2:List Nat→RK)(k:Nat)(v0:D)(v1:D):cJ P pc noY (gz P rg pc1 (gz P rg1 pc2 rk2 (k+1)) (k+1) []) LA (k+1) 89 [v0,v1]=C89_0 pc rg pc1 rg1 pc2 k v0 v1:=(bqA Go.Proofs.Tryz.f89 dz ux (by kernel_rfl)).trans (Eq.trans (b:=B89_0 pc rg pc1 rg1 pc2 k (T89_1 pc rg pc1 rg1 pc2 rk2 k) v0 v1) (by kernel_rfl) (by rw[f89_1]; rfl))
noncomputable def qY:Code:=ak 90
noncomputable def eK:List ResultVar:=bw 90
noncomputable def yW:KA:=(bX (LvA.b (LvA.b (LvA.b (LA 90)))).c (aW P pc noY rk (aq P pc noY rk 90 k) 90 (cR (cR (cR (cR qY)))) (LvA.b (LvA.b (LvA.b (LvA.b (LA 90))))) (aw P eK) X0A (aw P eK)))
noncomputable def kY:(Nat→KA):=(upA 0 (yW pc rk k) X0A)
noncomputable def uZ(m1:Nat):KA:=(bX (LvA.a (LvA.b (LvA.a (LvA.b (LvA.b (LvA.b (LA 90))))))).c (aq P pc noY rk 90 m1 (LvA.a (LvA.b (LvA.a (LvA.b (LvA.b (LvA.b (LA 90))))))) (cL (cR (cL (cR (cR (cR qY)))))) (yW pc rk k) (kY pc rk k) (aw P eK)))
noncomputable def T90_3(m1:Nat):=fun(u0:D) (u1:D) (u5:D) (u6:D)=>labA (aW P pc noY rk (aq P pc noY rk 90 m1) 90 (cR (cR (cL (cL (cR (cL (cR (cR (cR qY))))))))) (LvA.b (LvA.b (LvA.a (LvA.a (LvA.b (LvA.a (LvA.b (LvA.b (LvA.b (LA 90)))))))))) (uZ pc rk k m1) (kY pc rk k) (aw P eK)) (Tr.set (Tr.set (Tr.set (Tr.set Tr.nil 6 (some (AV.d u6))) 5 (some (AV.d u5))) 1 (some (AV.d u1))) 0 (some (AV.d u0))) Tr.nil
noncomputable def T90_2(m1:Nat):=fun(u0:D) (u1:D) (u5:D) (u6:D)=>labA (aW P pc noY rk (aq P pc noY rk 90 m1) 90 (cL (cL (cR (cL (cR (cR (cR qY))))))) (LvA.a (LvA.a (LvA.b (LvA.a (LvA.b (LvA.b (LvA.b (LA 90)))))))) (uZ pc rk k m1) (kY pc rk k) (aw P eK)) (Tr.set (Tr.set (Tr.set (Tr.set Tr.nil 6 (some (AV.d u6))) 5 (some (AV.d u5))) 1 (some (AV.d u1))) 0 (some (AV.d u0))) Tr.nil
noncomputable def R90_2(m1:Nat):(D→D→D→D→Option D):=fun u0 u1 u5 u6=>labA (aq P pc noY rk 90 m1 (LvA.a (LvA.b (LvA.a (LvA.b (LvA.b (LvA.b (LA 90))))))) (cL (cR (cL (cR (cR (cR qY)))))) (yW pc rk k) (kY pc rk k) (aw P eK)) (Tr.set (Tr.set (Tr.set (Tr.set Tr.nil 6 (some (AV.d u6))) 5 (some (AV.d u5))) 1 (some (AV.d u1))) 0 (some (AV.d u0))) Tr.nil
noncomputable def T90_1:=fun(u0:D) (u1:D)=>labA (aW P pc noY rk (aq P pc noY rk 90 k) 90 (cR (cR qY)) (LvA.b (LvA.b (LA 90))) (aw P eK) X0A (aw P eK)) (Tr.set (Tr.set Tr.nil 1 (some (AV.d u1))) 0 (some (AV.d u0))) Tr.nil
noncomputable def B90_3(pc:PC)(k:Nat)(m1:Nat)(b2:(D→D→D→D→Option D))(u0:D)(u1:D)(u5:D)(u6:D):Option D:=
bindO (binD P BinOp.add 3 (Operand.tmp 18) (Operand.const (Value.int IntKind.i64 1)) u6 (D.v (Value.int IntKind.i64 1))) fun d_g=>
b2 u0 u1 u5 d_g
noncomputable def C90_3(m1:Nat):=B90_3 pc k m1
theorem h90_3(m1:Nat):T90_3 pc rk k m1=C90_3 pc k m1 (R90_2 pc rk k m1):=by kernel_rfl
noncomputable def B90_2(pc:PC)(k:Nat)(m1:Nat)(j3:(D→D→D→D→Option D))(b2:(D→D→D→D→Option D))(u0:D)(u1:D)(u5:D)(u6:D):Option D:=
bindO (elsD u0) fun l_6=>
bindO (binD P BinOp.lss 3 (Operand.tmp 14) (Operand.tmp 16) u6 (lenD l_6)) fun d_7=>
ifU d_7 (
bindO (elsD u0) fun l_8=>
bindO (idxD u6 l_8.length) fun i_9=>
bindO (l_8[i_9]?) fun d_a=>
chkK (bz d_a) (
fnK u1 fun g a b=>
bindO (pcD P pc g (a++[d_a,u5]++b)) fun d_b=>
bindO (binD P BinOp.gtr 3 (Operand.tmp 26) (Operand.const (Value.int IntKind.i64 0)) d_b (D.v (Value.int IntKind.i64 0))) fun d_c=>
ifU d_c (
bindO (elsD u0) fun l_d=>
bindO (idxD u6 l_d.length) fun i_e=>
bindO (l_d[i_e]?) fun d_f=>
chkK (bz d_f) (
j3 u0 u1 d_f u6)) (
j3 u0 u1 u5 u6))) (
some u5)
noncomputable def Yw(m1:Nat)(b2:(D→D→D→D→Option D)):=B90_2 pc k m1 (C90_3 pc k m1 b2) b2
noncomputable def Yx:Nat→(D→D→D→D→Option D):=recF (Yw pc k) (fun _ _ _ _=>none)
theorem h90_2(m1:Nat):T90_2 pc rk k m1=Yw pc k m1 (R90_2 pc rk k m1):=Eq.trans (b:=B90_2 pc k m1 (T90_3 pc rk k m1) (R90_2 pc rk k m1)) (by kernel_rfl) (by rw[h90_3]; rfl)
theorem q90_2(m:Nat):T90_2 pc rk k m=Yx pc k m:=recS (h90_2 pc rk k) (by kernel_rfl) (fun m=>by kernel_rfl) m
noncomputable def B90_1(pc:PC)(k:Nat)(j2:(D→D→D→D→Option D))(u0:D)(u1:D):Option D:=
bindO (elsD u0) fun l_3=>
bindO (idxD (D.v (Value.int IntKind.i64 0)) l_3.length) fun i_4=>
bindO (l_3[i_4]?) fun d_5=>
chkK (bz d_5) (
j2 u0 u1 d_5 (D.v (Value.int IntKind.i64 1)))
noncomputable def C90_1:=B90_1 pc k (Yx pc k k)
theorem h90_1:T90_1 pc rk k=C90_1 pc k:=Eq.trans (b:=B90_1 pc k (T90_2 pc rk k k)) (by kernel_rfl) (by rw[q90_2]; rfl)
noncomputable def B90_0(pc:PC)(k:Nat)(j1:(D→D→Option D))(v0:D)(v1:D):Option D:=
bindO (elsD v0) fun l_1=>
bindO (binD P BinOp.lss 3 (Operand.tmp 8) (Operand.const (Value.int IntKind.i64 1)) (lenD l_1) (D.v (Value.int IntKind.i64 1))) fun d_2=>
ifU d_2 (
none) (
j1 v0 v1)
noncomputable def C90_0:=B90_0 pc k (C90_1 pc k)
theorem h90_0(v0:D)(v1:D):cJ P pc noY rk LA (k+1) 90 [v0,v1]=C90_0 pc k v0 v1:=(bqA Go.Proofs.Tryz.f90 qY eK (by kernel_rfl)).trans (Eq.trans (b:=B90_0 pc k (T90_1 pc rk k) v0 v1) (by kernel_rfl) (by rw[h90_1]; rfl))
noncomputable def code91:Code:=ak 91
noncomputable def Sq:List ResultVar:=bw 91
noncomputable def B91_0(pc:PC)(k:Nat)(v0:D)(v1:D)(v2:D)(v3:D):Option D:=
bindO (jV v2) fun c_1=>
bindO (c_1[0]?) fun d_2=>
bindO (jV v3) fun c_3=>
bindO (c_3[0]?) fun d_4=>
chkK (bz d_4) (
chkK (bz v0) (
bindO (mapD d_2) fun es_5=>
bindO (Qk P 147 es_5 (D.agg [d_4,v0]) false) fun d_6=>
bindO (jV v2) fun c_7=>
bindO (c_7[0]?) fun d_8=>
bindO (jV v3) fun c_9=>
bindO (c_9[0]?) fun d_a=>
chkK (bz d_a) (
chkK (bz v1) (
bindO (mapD d_8) fun es_b=>
bindO (Qk P 147 es_b (D.agg [d_a,v1]) false) fun d_c=>
bindO (pcD P pc 92 [d_6,d_c]) fun d_d=>
some d_d))))
noncomputable def C91_0:=B91_0 pc k
theorem h91_0(v0:D)(v1:D)(v2:D)(v3:D):cJ P pc noY rk LA (k+1) 91 [v0,v1,v2,v3]=C91_0 pc k v0 v1 v2 v3:=(bqA Go.Proofs.Tryz.f91 code91 Sq (by kernel_rfl)).trans (by kernel_rfl)
noncomputable def code92:Code:=ak 92
noncomputable def Sv:List ResultVar:=bw 92
noncomputable def B92_0(pc:PC)(k:Nat)(v0:D)(v1:D):Option D:=
bindO (pcD P pc 107 [v0]) fun d_1=>
bindO (pcD P pc 107 [v1]) fun d_2=>
ifU d_1 (
ifU d_2 (
some (D.v (Value.int IntKind.i64 0))) (
some (D.v (Value.int IntKind.i64 (-1))))) (
ifU d_2 (
some (D.v (Value.int IntKind.i64 1))) (
bindO (binD P BinOp.lss 3 (Operand.tmp 14) (Operand.tmp 15) v0 v1) fun d_3=>
ifU d_3 (
some (D.v (Value.int IntKind.i64 (-1)))) (
bindO (binD P BinOp.gtr 3 (Operand.tmp 17) (Operand.tmp 18) v0 v1) fun d_4=>
ifU d_4 (
some (D.v (Value.int IntKind.i64 1))) (
some (D.v (Value.int IntKind.i64 0))))))
noncomputable def C92_0:=B92_0 pc k
theorem h92_0(v0:D)(v1:D):cJ P pc noY rk LA (k+1) 92 [v0,v1]=C92_0 pc k v0 v1:=(bqA Go.Proofs.Tryz.f92 code92 Sv (by kernel_rfl)).trans (by kernel_rfl)
noncomputable def code93:Code:=ak 93
noncomputable def Sw:List ResultVar:=bw 93
noncomputable def B93_0(pc:PC)(k:Nat)(v0:D)(v1:D):Option D:=
bindO (aggD v0) fun c_1=>
bindO (binD P BinOp.geq 3 (Operand.tmp 5) (Operand.const (Value.int IntKind.i64 0)) v1 (D.v (Value.int IntKind.i64 0))) fun d_2=>
ifU d_2 (
bindO (c_1[0]?) fun d_3=>
bindO (elsD d_3) fun l_4=>
bindO (binD P BinOp.lss 3 (Operand.tmp 8) (Operand.tmp 12) v1 (lenD l_4)) fun d_5=>
some d_5) (
some (D.v (Value.bool false)))
noncomputable def C93_0:=B93_0 pc k
theorem h93_0(v0:D)(v1:D):cJ P pc noY rk LA (k+1) 93 [v0,v1]=C93_0 pc k v0 v1:=(bqA Go.Proofs.Tryz.f93 code93 Sw (by kernel_rfl)).trans (by kernel_rfl)
noncomputable def code94:Code:=ak 94
noncomputable def Sx:List ResultVar:=bw 94
noncomputable def B94_0(pc:PC)(k:Nat)(v0:D)(v1:D):Option D:=
chkK (bz v1) (
bindO (pcD P pc 83 [(D.sl [v1])]) fun d_1=>
bindO (pcD P pc 95 [v0,d_1]) fun d_2=>
some d_2)
noncomputable def C94_0:=B94_0 pc k
theorem h94_0(v0:D)(v1:D):cJ P pc noY rk LA (k+1) 94 [v0,v1]=C94_0 pc k v0 v1:=(bqA Go.Proofs.Tryz.f94 code94 Sx (by kernel_rfl)).trans (by kernel_rfl)
noncomputable def code95:Code:=ak 95
noncomputable def Sy:List ResultVar:=bw 95
noncomputable def B95_0(pc:PC)(k:Nat)(v0:D)(v1:D):Option D:=
bindO (binD P BinOp.and 106 (Operand.tmp 5) (Operand.tmp 6) v0 v1) fun d_1=>
bindO (binD P BinOp.neq 106 (Operand.tmp 7) (Operand.const (Value.int IntKind.u64 0)) d_1 (D.v (Value.int IntKind.u64 0))) fun d_2=>
some d_2
noncomputable def C95_0:=B95_0 pc k
theorem h95_0(v0:D)(v1:D):cJ P pc noY rk LA (k+1) 95 [v0,v1]=C95_0 pc k v0 v1:=(bqA Go.Proofs.Tryz.f95 code95 Sy (by kernel_rfl)).trans (by kernel_rfl)
noncomputable def code99:Code:=ak 99
noncomputable def Sz:List ResultVar:=bw 99
noncomputable def B99_0(pc:PC)(k:Nat)(v0:D):Option D:=
bindO (pcD P pc 111 [v0]) fun d_1=>
some d_1
noncomputable def C99_0:=B99_0 pc k
theorem h99_0(v0:D):cJ P pc noY rk LA (k+1) 99 [v0]=C99_0 pc k v0:=(bqA Go.Proofs.Tryz.f99 code99 Sz (by kernel_rfl)).trans (by kernel_rfl)
noncomputable def sW:Code:=ak 100
noncomputable def hQ:List ResultVar:=bw 100
noncomputable def Dy:KA:=(bX (LvA.b (LA 100)).c (aW P pc noY rk (aq P pc noY rk 100 k) 100 (cR (cR sW)) (LvA.b (LvA.b (LA 100))) (aw P hQ) X0A (aw P hQ)))
noncomputable def qZ:(Nat→KA):=(upA 0 (Dy pc rk k) X0A)
noncomputable def LZ(m1:Nat):KA:=(bX (LvA.a (LvA.b (LvA.a (LvA.b (LA 100))))).c (aq P pc noY rk 100 m1 (LvA.a (LvA.b (LvA.a (LvA.b (LA 100))))) (cL (cR (cL (cR sW)))) (Dy pc rk k) (qZ pc rk k) (aw P hQ)))
noncomputable def Mj(m1:Nat):=fun(u0:D) (u7:D) (u8:D) (u9:D)=>labA (aW P pc noY rk (aq P pc noY rk 100 m1) 100 (cL (cL (cR (cL (cR sW))))) (LvA.a (LvA.a (LvA.b (LvA.a (LvA.b (LA 100)))))) (LZ pc rk k m1) (qZ pc rk k) (aw P hQ)) (Tr.set (Tr.set (Tr.set (Tr.set Tr.nil 9 (some (AV.d u9))) 8 (some (AV.d u8))) 7 (some (AV.d u7))) 0 (some (AV.d u0))) Tr.nil
noncomputable def R100_1(m1:Nat):(D→D→D→D→Option D):=fun u0 u7 u8 u9=>labA (aq P pc noY rk 100 m1 (LvA.a (LvA.b (LvA.a (LvA.b (LA 100))))) (cL (cR (cL (cR sW)))) (Dy pc rk k) (qZ pc rk k) (aw P hQ)) (Tr.set (Tr.set (Tr.set (Tr.set Tr.nil 9 (some (AV.d u9))) 8 (some (AV.d u8))) 7 (some (AV.d u7))) 0 (some (AV.d u0))) Tr.nil
noncomputable def B100_1(pc:PC)(k:Nat)(m1:Nat)(b1:(D→D→D→D→Option D))(u0:D)(u7:D)(u8:D)(u9:D):Option D:=
bindO (binD P BinOp.lss 3 (Operand.tmp 9) (Operand.tmp 8) u9 u8) fun d_2=>
ifU d_2 (
bindO (elsD u7) fun l_3=>
bindO (idxD u9 l_3.length) fun i_4=>
bindO (l_3[i_4]?) fun d_5=>
chkK (bz d_5) (
bindO (mmD P .max [3,3] (Call.mk (Callee.builtin Builtin.max) #[(Operand.tmp 13),(Operand.tmp 14)] #[3,3]) 3 [u0,d_5]) fun d_6=>
bindO (binD P BinOp.add 3 (Operand.tmp 9) (Operand.const (Value.int IntKind.i64 1)) u9 (D.v (Value.int IntKind.i64 1))) fun d_7=>
b1 d_6 u7 u8 d_7)) (
some u0)
noncomputable def Gj(m1:Nat):=B100_1 pc k m1
noncomputable def Gq:Nat→(D→D→D→D→Option D):=recF (Gj pc k) (fun _ _ _ _=>none)
theorem h100_1(m1:Nat):Mj pc rk k m1=Gj pc k m1 (R100_1 pc rk k m1):=by kernel_rfl
theorem q100_1(m:Nat):Mj pc rk k m=Gq pc k m:=recS (h100_1 pc rk k) (by kernel_rfl) (fun m=>by kernel_rfl) m
noncomputable def Sk(pc:PC)(k:Nat)(j1:(D→D→D→D→Option D))(v0:D)(v1:D):Option D:=
bindO (elsD v1) fun l_1=>
j1 v0 v1 (lenD l_1) (D.v (Value.int IntKind.i64 0))
noncomputable def SJ:=Sk pc k (Gq pc k k)
theorem h100_0(v0:D)(v1:D):cJ P pc noY rk LA (k+1) 100 [v0,v1]=SJ pc k v0 v1:=(bqA Go.Proofs.Tryz.f100 sW hQ (by kernel_rfl)).trans (Eq.trans (b:=Sk pc k (Mj pc rk k k) v0 v1) (by kernel_rfl) (by rw[q100_1]; rfl))
noncomputable def sX:Code:=ak 102
noncomputable def hY:List ResultVar:=bw 102
noncomputable def wJ:KA:=(bX (LvA.b (LA 102)).c (aW P pc noY rk (aq P pc noY rk 102 k) 102 (cR (cR sX)) (LvA.b (LvA.b (LA 102))) (aw P hY) X0A (aw P hY)))
noncomputable def uy:(Nat→KA):=(upA 0 (wJ pc rk k) X0A)
noncomputable def T102_3:=fun(u25:D)=>labA (aW P pc noY rk (aq P pc noY rk 102 k) 102 (cR (cR (cR (cR (cR (cL (cL (cR sX)))))))) (LvA.b (LvA.b (LvA.b (LvA.b (LvA.b (LvA.a (LvA.a (LvA.b (LA 102))))))))) (wJ pc rk k) (uy pc rk k) (aw P hY)) (Tr.set Tr.nil 25 (some (AV.d u25))) Tr.nil
noncomputable def T102_2:=fun(u16:D) (c1:List D)=>labA (aW P pc noY rk (aq P pc noY rk 102 k) 102 (cR (cR (cR (cL (cL (cR sX)))))) (LvA.b (LvA.b (LvA.b (LvA.a (LvA.a (LvA.b (LA 102))))))) (wJ pc rk k) (uy pc rk k) (aw P hY)) (Tr.set (Tr.set Tr.nil 16 (some (AV.d u16))) 1 (some (AV.loc 1 0))) (Tr.set Tr.nil 1 (some (Bx.dat c1 false)))
noncomputable def T102_1:=fun(u3:D) (c1:List D)=>labA (aW P pc noY rk (aq P pc noY rk 102 k) 102 (cR (cL (cL (cR sX)))) (LvA.b (LvA.a (LvA.a (LvA.b (LA 102))))) (wJ pc rk k) (uy pc rk k) (aw P hY)) (Tr.set (Tr.set Tr.nil 3 (some (AV.d u3))) 1 (some (AV.loc 1 0))) (Tr.set Tr.nil 1 (some (Bx.dat c1 false)))
noncomputable def B102_3(pc:PC)(k:Nat)(u25:D):Option D:=
ifU u25 (
some (D.v (Value.int IntKind.i64 1))) (
some (D.v (Value.int IntKind.i64 0)))
noncomputable def SQ:=B102_3 pc k
theorem h102_3:T102_3 pc rk k=SQ pc k:=by kernel_rfl
noncomputable def SV(pc:PC)(k:Nat)(j3:(D→Option D))(u16:D)(c1:List D):Option D:=
ifU u16 (
some (D.v (Value.int IntKind.i64 1))) (
bindO (c1[0]?) fun d_8=>
bindO (pcD P pc 113 [d_8,(D.fn 114 [] [])]) fun d_9=>
bindO (semD P d_9 (Op.unary UnOp.not)) fun d_a=>
ifU d_a (
j3 d_a) (
bindO (c1[1]?) fun d_b=>
bindO (cutD c1 0 3) fun c_c=>
bindO (pcD P pc 115 [d_b,(D.fn 116 [(D.agg c_c)] [])]) fun d_d=>
bindO (semD P d_d (Op.unary UnOp.not)) fun d_e=>
ifU d_e (
j3 d_e) (
bindO (c1[2]?) fun d_f=>
bindO (pcD P pc 117 [d_f,(D.fn 118 [] [])]) fun d_g=>
bindO (semD P d_g (Op.unary UnOp.not)) fun d_h=>
j3 d_h)))
noncomputable def SW:=SV pc k (SQ pc k)
theorem h102_2:T102_2 pc rk k=SW pc k:=Eq.trans (b:=SV pc k (T102_3 pc rk k)) (by kernel_rfl) (by rw[h102_3]; rfl)
noncomputable def SX(pc:PC)(k:Nat)(j2:(D→List D→Option D))(u3:D)(c1:List D):Option D:=
ifU u3 (
some (D.v (Value.int IntKind.i64 3))) (
bindO (c1[0]?) fun d_5=>
bindO (elsD d_5) fun l_6=>
bindO (binD P BinOp.eql 3 (Operand.tmp 19) (Operand.const (Value.int IntKind.i64 0)) (lenD l_6) (D.v (Value.int IntKind.i64 0))) fun d_7=>
ifU d_7 (
j2 d_7 c1) (
bindO (c1[2]?) fun d_i=>
bindO (elsD d_i) fun l_j=>
bindO (binD P BinOp.eql 3 (Operand.tmp 23) (Operand.const (Value.int IntKind.i64 0)) (lenD l_j) (D.v (Value.int IntKind.i64 0))) fun d_k=>
j2 d_k c1))
noncomputable def SY:=SX pc k (SW pc k)
theorem h102_1:T102_1 pc rk k=SY pc k:=Eq.trans (b:=SX pc k (T102_2 pc rk k)) (by kernel_rfl) (by rw[h102_2]; rfl)
noncomputable def SZ(pc:PC)(k:Nat)(j1:(D→List D→Option D))(v0:D):Option D:=
bindO (aggD v0) fun c_1=>
bindO (c_1[0]?) fun d_2=>
bindO (elsD d_2) fun l_3=>
bindO (binD P BinOp.gtr 3 (Operand.tmp 6) (Operand.const (Value.int IntKind.i64 8)) (lenD l_3) (D.v (Value.int IntKind.i64 8))) fun d_4=>
ifU d_4 (
j1 d_4 c_1) (
bindO (c_1[1]?) fun d_l=>
bindO (elsD d_l) fun l_m=>
bindO (binD P BinOp.gtr 3 (Operand.tmp 10) (Operand.const (Value.int IntKind.i64 16)) (lenD l_m) (D.v (Value.int IntKind.i64 16))) fun d_n=>
ifU d_n (
j1 d_n c_1) (
bindO (c_1[2]?) fun d_o=>
bindO (elsD d_o) fun l_p=>
bindO (binD P BinOp.gtr 3 (Operand.tmp 14) (Operand.const (Value.int IntKind.i64 3)) (lenD l_p) (D.v (Value.int IntKind.i64 3))) fun d_q=>
j1 d_q c_1))
noncomputable def SK:=SZ pc k (SY pc k)
theorem h102_0(v0:D):cJ P pc noY rk LA (k+1) 102 [v0]=SK pc k v0:=(bqA Go.Proofs.Tryz.f102 sX hY (by kernel_rfl)).trans (Eq.trans (b:=SZ pc k (T102_1 pc rk k) v0) (by kernel_rfl) (by rw[h102_1]; rfl))
noncomputable def sY:Code:=ak 103
noncomputable def ij:List ResultVar:=bw 103
noncomputable def Dz:KA:=(bX (LvA.b (LA 103)).c (aW P pc noY rk (aq P pc noY rk 103 k) 103 (cR (cR sY)) (LvA.b (LvA.b (LA 103))) (aw P ij) X0A (aw P ij)))
noncomputable def qK:(Nat→KA):=(upA 0 (Dz pc rk k) X0A)
noncomputable def Mq(m1:Nat):KA:=(bX (LvA.a (LvA.b (LvA.a (LvA.b (LA 103))))).c (aq P pc noY rk 103 m1 (LvA.a (LvA.b (LvA.a (LvA.b (LA 103))))) (cL (cR (cL (cR sY)))) (Dz pc rk k) (qK pc rk k) (aw P ij)))
noncomputable def Mv(m1:Nat):=fun(u0:D) (u3:D)=>labA (aW P pc noY rk (aq P pc noY rk 103 m1) 103 (cL (cL (cR (cL (cR sY))))) (LvA.a (LvA.a (LvA.b (LvA.a (LvA.b (LA 103)))))) (Mq pc rk k m1) (qK pc rk k) (aw P ij)) (Tr.set (Tr.set Tr.nil 3 (some (AV.d u3))) 0 (some (AV.d u0))) Tr.nil
noncomputable def R103_1(m1:Nat):(D→D→Option D):=fun u0 u3=>labA (aq P pc noY rk 103 m1 (LvA.a (LvA.b (LvA.a (LvA.b (LA 103))))) (cL (cR (cL (cR sY)))) (Dz pc rk k) (qK pc rk k) (aw P ij)) (Tr.set (Tr.set Tr.nil 3 (some (AV.d u3))) 0 (some (AV.d u0))) Tr.nil
noncomputable def B103_1(pc:PC)(k:Nat)(m1:Nat)(b1:(D→D→Option D))(u0:D)(u3:D):Option D:=
bindO (elsD u0) fun l_1=>
bindO (binD P BinOp.lss 3 (Operand.tmp 4) (Operand.tmp 6) u3 (lenD l_1)) fun d_2=>
ifU d_2 (
bindO (elsD u0) fun l_3=>
bindO (idxD u3 l_3.length) fun i_4=>
bindO (l_3[i_4]?) fun d_5=>
chkK (bz d_5) (
bindO (binD P BinOp.sub 3 (Operand.tmp 15) (Operand.const (Value.int IntKind.i64 1)) u3 (D.v (Value.int IntKind.i64 1))) fun d_6=>
bindO (elsD u0) fun l_7=>
bindO (idxD d_6 l_7.length) fun i_8=>
bindO (l_7[i_8]?) fun d_9=>
chkK (bz d_9) (
bindO (binD P BinOp.leq 3 (Operand.tmp 13) (Operand.tmp 18) d_5 d_9) fun d_a=>
ifU d_a (
some (D.v (Value.bool false))) (
bindO (binD P BinOp.add 3 (Operand.tmp 8) (Operand.const (Value.int IntKind.i64 1)) u3 (D.v (Value.int IntKind.i64 1))) fun d_b=>
b1 u0 d_b)))) (
some (D.v (Value.bool true)))
noncomputable def Gv(m1:Nat):=B103_1 pc k m1
noncomputable def Gw:Nat→(D→D→Option D):=recF (Gv pc k) (fun _ _=>none)
theorem h103_1(m1:Nat):Mv pc rk k m1=Gv pc k m1 (R103_1 pc rk k m1):=by kernel_rfl
theorem q103_1(m:Nat):Mv pc rk k m=Gw pc k m:=recS (h103_1 pc rk k) (by kernel_rfl) (fun m=>by kernel_rfl) m
noncomputable def Tj(pc:PC)(k:Nat)(j1:(D→D→Option D))(v0:D):Option D:=
j1 v0 (D.v (Value.int IntKind.i64 1))
noncomputable def Tq:=Tj pc k (Gw pc k k)
theorem h103_0(v0:D):cJ P pc noY rk LA (k+1) 103 [v0]=Tq pc k v0:=(bqA Go.Proofs.Tryz.f103 sY ij (by kernel_rfl)).trans (Eq.trans (b:=Tj pc k (Mv pc rk k k) v0) (by kernel_rfl) (by rw[q103_1]; rfl))
noncomputable def code104:Code:=ak 104
noncomputable def Mw:List ResultVar:=bw 104
noncomputable def B104_0(pc:PC)(k:Nat)(v0:D)(v1:D):Option D:=
chkK (bz v0) (
chkK (bz v1) (
some (D.fn 119 [] [(D.ref [v0]),(D.ref [v1])])))
noncomputable def Tv:=B104_0 pc k
theorem h104_0(v0:D)(v1:D):cJ P pc noY rk LA (k+1) 104 [v0,v1]=Tv pc k v0 v1:=(bqA Go.Proofs.Tryz.f104 code104 Mw (by kernel_rfl)).trans (by kernel_rfl)
noncomputable def code105:Code:=ak 105
noncomputable def results105:List ResultVar:=bw 105
noncomputable def B105_0(pc:PC)(k:Nat)(v0:D)(v1:D):Option D:=
bindO (pcD P pc 35 [v0,(D.v (Value.int IntKind.i64 0)),v1]) fun d_1=>
ifU d_1 (
bindO (binD P BinOp.leq 3 (Operand.tmp 9) (Operand.const (Value.int IntKind.i64 1000)) v1 (D.v (Value.int IntKind.i64 1000))) fun d_2=>
some d_2) (
some (D.v (Value.bool false)))
noncomputable def C105_0:=B105_0 pc k
theorem h105_0(v0:D)(v1:D):cJ P pc noY rk LA (k+1) 105 [v0,v1]=C105_0 pc k v0 v1:=(bqA Go.Proofs.Tryz.f105 code105 results105 (by kernel_rfl)).trans (by kernel_rfl)
noncomputable def code106:Code:=ak 106
noncomputable def Mx:List ResultVar:=bw 106
noncomputable def B106_0(pc:PC)(k:Nat)(v0:D):Option D:=
chkK (bz v0) (
some (D.fn 120 [] [(D.ref [v0])]))
noncomputable def Tw:=B106_0 pc k
theorem h106_0(v0:D):cJ P pc noY rk LA (k+1) 106 [v0]=Tw pc k v0:=(bqA Go.Proofs.Tryz.f106 code106 Mx (by kernel_rfl)).trans (by kernel_rfl)
noncomputable def code107:Code:=ak 107
noncomputable def My:List ResultVar:=bw 107
noncomputable def B107_0(pc:PC)(k:Nat)(v0:D):Option D:=
bindO (binD P BinOp.neq 3 (Operand.tmp 3) (Operand.tmp 4) v0 v0) fun d_1=>
some d_1
noncomputable def Tx:=B107_0 pc k
theorem h107_0(v0:D):cJ P pc noY rk LA (k+1) 107 [v0]=Tx pc k v0:=(bqA Go.Proofs.Tryz.f107 code107 My (by kernel_rfl)).trans (by kernel_rfl)
noncomputable def code111:Code:=ak 111
noncomputable def Mz:List ResultVar:=bw 111
noncomputable def B111_0(pc:PC)(k:Nat)(v0:D):Option D:=
bindO (pcD P pc 127 [v0]) fun d_1=>
some d_1
noncomputable def Tz:=B111_0 pc k
theorem h111_0(v0:D):cJ P pc noY rk LA (k+1) 111 [v0]=Tz pc k v0:=(bqA Go.Proofs.Tryz.f111 code111 Mz (by kernel_rfl)).trans (by kernel_rfl)
noncomputable def sZ:Code:=ak 113
noncomputable def iq:List ResultVar:=bw 113
noncomputable def Dk:KA:=(bX (LvA.b (LA 113)).c (aW P pc noY rk (aq P pc noY rk 113 k) 113 (cR (cR sZ)) (LvA.b (LvA.b (LA 113))) (aw P iq) X0A (aw P iq)))
noncomputable def rj:(Nat→KA):=(upA 0 (Dk pc rk k) X0A)
noncomputable def Mk(m1:Nat):KA:=(bX (LvA.a (LvA.b (LvA.a (LvA.b (LA 113))))).c (aq P pc noY rk 113 m1 (LvA.a (LvA.b (LvA.a (LvA.b (LA 113))))) (cL (cR (cL (cR sZ)))) (Dk pc rk k) (rj pc rk k) (aw P iq)))
noncomputable def MJ(m1:Nat):=fun(u1:D) (u7:D) (u8:D) (u9:D)=>labA (aW P pc noY rk (aq P pc noY rk 113 m1) 113 (cL (cL (cR (cL (cR sZ))))) (LvA.a (LvA.a (LvA.b (LvA.a (LvA.b (LA 113)))))) (Mk pc rk k m1) (rj pc rk k) (aw P iq)) (Tr.set (Tr.set (Tr.set (Tr.set Tr.nil 9 (some (AV.d u9))) 8 (some (AV.d u8))) 7 (some (AV.d u7))) 1 (some (AV.d u1))) Tr.nil
noncomputable def R113_1(m1:Nat):(D→D→D→D→Option D):=fun u1 u7 u8 u9=>labA (aq P pc noY rk 113 m1 (LvA.a (LvA.b (LvA.a (LvA.b (LA 113))))) (cL (cR (cL (cR sZ)))) (Dk pc rk k) (rj pc rk k) (aw P iq)) (Tr.set (Tr.set (Tr.set (Tr.set Tr.nil 9 (some (AV.d u9))) 8 (some (AV.d u8))) 7 (some (AV.d u7))) 1 (some (AV.d u1))) Tr.nil
noncomputable def B113_1(pc:PC)(k:Nat)(m1:Nat)(b1:(D→D→D→D→Option D))(u1:D)(u7:D)(u8:D)(u9:D):Option D:=
bindO (binD P BinOp.lss 3 (Operand.tmp 9) (Operand.tmp 8) u9 u8) fun d_2=>
ifU d_2 (
bindO (elsD u7) fun l_3=>
bindO (idxD u9 l_3.length) fun i_4=>
bindO (l_3[i_4]?) fun d_5=>
bindO (aggD d_5) fun c_6=>
chkK (Nat.beq c_6.length 2) (
bindO (cutD c_6 0 2) fun c_7=>
bindO (splD [(D.v (Value.int IntKind.i64 0)),(D.v (Value.int IntKind.i64 0))] 0 c_7 2) fun c_8=>
bindO (cutD c_8 0 2) fun c_9=>
fnK u1 fun g a b=>
bindO (pcD P pc g (a++[(D.agg c_9)]++b)) fun d_a=>
bindO (semD P d_a (Op.unary UnOp.not)) fun d_b=>
ifU d_b (
some (D.v (Value.bool false))) (
bindO (binD P BinOp.add 3 (Operand.tmp 9) (Operand.const (Value.int IntKind.i64 1)) u9 (D.v (Value.int IntKind.i64 1))) fun d_c=>
b1 u1 u7 u8 d_c))) (
some (D.v (Value.bool true)))
noncomputable def Gx(m1:Nat):=B113_1 pc k m1
noncomputable def Gy:Nat→(D→D→D→D→Option D):=recF (Gx pc k) (fun _ _ _ _=>none)
theorem h113_1(m1:Nat):MJ pc rk k m1=Gx pc k m1 (R113_1 pc rk k m1):=by kernel_rfl
theorem q113_1(m:Nat):MJ pc rk k m=Gy pc k m:=recS (h113_1 pc rk k) (by kernel_rfl) (fun m=>by kernel_rfl) m
noncomputable def Tk(pc:PC)(k:Nat)(j1:(D→D→D→D→Option D))(v0:D)(v1:D):Option D:=
bindO (elsD v0) fun l_1=>
j1 v1 v0 (lenD l_1) (D.v (Value.int IntKind.i64 0))
noncomputable def TJ:=Tk pc k (Gy pc k k)
theorem h113_0(v0:D)(v1:D):cJ P pc noY rk LA (k+1) 113 [v0,v1]=TJ pc k v0 v1:=(bqA Go.Proofs.Tryz.f113 sZ iq (by kernel_rfl)).trans (Eq.trans (b:=Tk pc k (MJ pc rk k k) v0 v1) (by kernel_rfl) (by rw[q113_1]; rfl))
noncomputable def code114:Code:=ak 114
noncomputable def MQ:List ResultVar:=bw 114
noncomputable def B114_0(pc:PC)(k:Nat)(v0:D):Option D:=
bindO (aggD v0) fun c_1=>
bindO (c_1[0]?) fun d_2=>
bindO (binD P BinOp.geq 3 (Operand.tmp 4) (Operand.const (Value.int IntKind.i64 0)) d_2 (D.v (Value.int IntKind.i64 0))) fun d_3=>
ifU d_3 (
bindO (c_1[0]?) fun d_4=>
bindO (c_1[1]?) fun d_5=>
bindO (binD P BinOp.leq 3 (Operand.tmp 8) (Operand.tmp 10) d_4 d_5) fun d_6=>
ifU d_6 (
bindO (c_1[1]?) fun d_7=>
bindO (binD P BinOp.leq 3 (Operand.tmp 15) (Operand.const (Value.int IntKind.i64 1000)) d_7 (D.v (Value.int IntKind.i64 1000))) fun d_8=>
some d_8) (
some (D.v (Value.bool false)))) (
some (D.v (Value.bool false)))
noncomputable def TQ:=B114_0 pc k
theorem h114_0(v0:D):cJ P pc noY rk LA (k+1) 114 [v0]=TQ pc k v0:=(bqA Go.Proofs.Tryz.f114 code114 MQ (by kernel_rfl)).trans (by kernel_rfl)
noncomputable def sK:Code:=ak 115
noncomputable def iw:List ResultVar:=bw 115
noncomputable def DJ:KA:=(bX (LvA.b (LA 115)).c (aW P pc noY rk (aq P pc noY rk 115 k) 115 (cR (cR sK)) (LvA.b (LvA.b (LA 115))) (aw P iw) X0A (aw P iw)))
noncomputable def rq:(Nat→KA):=(upA 0 (DJ pc rk k) X0A)
noncomputable def MV(m1:Nat):KA:=(bX (LvA.a (LvA.b (LvA.a (LvA.b (LA 115))))).c (aq P pc noY rk 115 m1 (LvA.a (LvA.b (LvA.a (LvA.b (LA 115))))) (cL (cR (cL (cR sK)))) (DJ pc rk k) (rq pc rk k) (aw P iw)))
noncomputable def MW(m1:Nat):=fun(u1:D) (u7:D) (u8:D) (u9:D)=>labA (aW P pc noY rk (aq P pc noY rk 115 m1) 115 (cL (cL (cR (cL (cR sK))))) (LvA.a (LvA.a (LvA.b (LvA.a (LvA.b (LA 115)))))) (MV pc rk k m1) (rq pc rk k) (aw P iw)) (Tr.set (Tr.set (Tr.set (Tr.set Tr.nil 9 (some (AV.d u9))) 8 (some (AV.d u8))) 7 (some (AV.d u7))) 1 (some (AV.d u1))) Tr.nil
noncomputable def R115_1(m1:Nat):(D→D→D→D→Option D):=fun u1 u7 u8 u9=>labA (aq P pc noY rk 115 m1 (LvA.a (LvA.b (LvA.a (LvA.b (LA 115))))) (cL (cR (cL (cR sK)))) (DJ pc rk k) (rq pc rk k) (aw P iw)) (Tr.set (Tr.set (Tr.set (Tr.set Tr.nil 9 (some (AV.d u9))) 8 (some (AV.d u8))) 7 (some (AV.d u7))) 1 (some (AV.d u1))) Tr.nil
noncomputable def B115_1(pc:PC)(k:Nat)(m1:Nat)(b1:(D→D→D→D→Option D))(u1:D)(u7:D)(u8:D)(u9:D):Option D:=
bindO (binD P BinOp.lss 3 (Operand.tmp 9) (Operand.tmp 8) u9 u8) fun d_2=>
ifU d_2 (
bindO (elsD u7) fun l_3=>
bindO (idxD u9 l_3.length) fun i_4=>
bindO (l_3[i_4]?) fun d_5=>
bindO (aggD d_5) fun c_6=>
chkK (Nat.beq c_6.length 2) (
bindO (cutD c_6 0 2) fun c_7=>
bindO (splD [(D.v (Value.int IntKind.i64 0)),(D.v (Value.int IntKind.i64 0))] 0 c_7 2) fun c_8=>
bindO (cutD c_8 0 2) fun c_9=>
fnK u1 fun g a b=>
bindO (pcD P pc g (a++[(D.agg c_9)]++b)) fun d_a=>
bindO (semD P d_a (Op.unary UnOp.not)) fun d_b=>
ifU d_b (
some (D.v (Value.bool false))) (
bindO (binD P BinOp.add 3 (Operand.tmp 9) (Operand.const (Value.int IntKind.i64 1)) u9 (D.v (Value.int IntKind.i64 1))) fun d_c=>
b1 u1 u7 u8 d_c))) (
some (D.v (Value.bool true)))
noncomputable def Gz(m1:Nat):=B115_1 pc k m1
noncomputable def Gk:Nat→(D→D→D→D→Option D):=recF (Gz pc k) (fun _ _ _ _=>none)
theorem h115_1(m1:Nat):MW pc rk k m1=Gz pc k m1 (R115_1 pc rk k m1):=by kernel_rfl
theorem q115_1(m:Nat):MW pc rk k m=Gk pc k m:=recS (h115_1 pc rk k) (by kernel_rfl) (fun m=>by kernel_rfl) m
noncomputable def TV(pc:PC)(k:Nat)(j1:(D→D→D→D→Option D))(v0:D)(v1:D):Option D:=
bindO (elsD v0) fun l_1=>
j1 v1 v0 (lenD l_1) (D.v (Value.int IntKind.i64 0))
noncomputable def TW:=TV pc k (Gk pc k k)
theorem h115_0(v0:D)(v1:D):cJ P pc noY rk LA (k+1) 115 [v0,v1]=TW pc k v0 v1:=(bqA Go.Proofs.Tryz.f115 sK iw (by kernel_rfl)).trans (Eq.trans (b:=TV pc k (MW pc rk k k) v0 v1) (by kernel_rfl) (by rw[q115_1]; rfl))
noncomputable def lJ:Code:=ak 116
noncomputable def eV:List ResultVar:=bw 116
noncomputable def yX:KA:=(bX (LvA.b (LvA.b (LA 116))).c (aW P pc noY rk (aq P pc noY rk 116 k) 116 (cR (cR (cR lJ))) (LvA.b (LvA.b (LvA.b (LA 116)))) (aw P eV) X0A (aw P eV)))
noncomputable def fW:(Nat→KA):=(upA 0 (yX pc rk k) X0A)
noncomputable def ox(m1:Nat):KA:=(bX (LvA.a (LvA.b (LvA.a (LvA.b (LvA.b (LA 116)))))).c (aq P pc noY rk 116 m1 (LvA.a (LvA.b (LvA.a (LvA.b (LvA.b (LA 116)))))) (cL (cR (cL (cR (cR lJ))))) (yX pc rk k) (fW pc rk k) (aw P eV)))
noncomputable def tj(m1:Nat):KA:=(bX (LvA.b (LvA.b (LvA.a (LvA.a (LvA.b (LvA.a (LvA.b (LvA.b (LA 116))))))))).c (aW P pc noY rk (aq P pc noY rk 116 m1) 116 (cR (cR (cR (cL (cL (cR (cL (cR (cR lJ))))))))) (LvA.b (LvA.b (LvA.b (LvA.a (LvA.a (LvA.b (LvA.a (LvA.b (LvA.b (LA 116)))))))))) (ox pc rk k m1) (fW pc rk k) (aw P eV)))
noncomputable def K116_pxrrlrllrrl(m1:Nat):(Nat→KA):=(upA 1 (tj pc rk k m1) (fW pc rk k))
noncomputable def T116_3(m1:Nat):=fun(u5:D) (u9:D) (u10:D) (u11:D) (c2:List D) (c3:List D)=>labA (aW P pc noY rk (aq P pc noY rk 116 m1) 116 (cR (cR (cR (cL (cL (cR (cL (cR (cR lJ))))))))) (LvA.b (LvA.b (LvA.b (LvA.a (LvA.a (LvA.b (LvA.a (LvA.b (LvA.b (LA 116)))))))))) (ox pc rk k m1) (fW pc rk k) (aw P eV)) (Tr.set (Tr.set (Tr.set (Tr.set (Tr.set (Tr.set Tr.nil 11 (some (AV.d u11))) 10 (some (AV.d u10))) 9 (some (AV.d u9))) 5 (some (AV.d u5))) 3 (some (AV.loc 3 0))) 2 (some (AV.loc 2 0))) (Tr.set (Tr.set Tr.nil 3 (some (Bx.dat c3 false))) 2 (some (Bx.dat c2 false)))
noncomputable def T116_2(m1:Nat):=fun(u5:D) (u9:D) (u10:D) (u11:D) (u26:D) (c2:List D) (c3:List D)=>labA (aW P pc noY rk (aq P pc noY rk 116 m1) 116 (cR (cR (cL (cL (cR (cR (cL (cL (cR (cL (cR (cR lJ)))))))))))) (LvA.b (LvA.b (LvA.a (LvA.a (LvA.b (LvA.b (LvA.a (LvA.a (LvA.b (LvA.a (LvA.b (LvA.b (LA 116))))))))))))) (tj pc rk k m1) (K116_pxrrlrllrrl pc rk k m1) (aw P eV)) (Tr.set (Tr.set (Tr.set (Tr.set (Tr.set (Tr.set (Tr.set Tr.nil 26 (some (AV.d u26))) 11 (some (AV.d u11))) 10 (some (AV.d u10))) 9 (some (AV.d u9))) 5 (some (AV.d u5))) 3 (some (AV.loc 3 0))) 2 (some (AV.loc 2 0))) (Tr.set (Tr.set Tr.nil 3 (some (Bx.dat c3 false))) 2 (some (Bx.dat c2 false)))
noncomputable def MX(m1:Nat):=fun(u5:D) (u9:D) (u10:D) (u11:D) (c2:List D) (c3:List D)=>labA (aW P pc noY rk (aq P pc noY rk 116 m1) 116 (cL (cL (cR (cL (cR (cR lJ)))))) (LvA.a (LvA.a (LvA.b (LvA.a (LvA.b (LvA.b (LA 116))))))) (ox pc rk k m1) (fW pc rk k) (aw P eV)) (Tr.set (Tr.set (Tr.set (Tr.set (Tr.set (Tr.set Tr.nil 11 (some (AV.d u11))) 10 (some (AV.d u10))) 9 (some (AV.d u9))) 5 (some (AV.d u5))) 3 (some (AV.loc 3 0))) 2 (some (AV.loc 2 0))) (Tr.set (Tr.set Tr.nil 3 (some (Bx.dat c3 false))) 2 (some (Bx.dat c2 false)))
noncomputable def DQ(m1:Nat):(D→D→D→D→List D→List D→Option D):=fun u5 u9 u10 u11 c2 c3=>labA (aq P pc noY rk 116 m1 (LvA.a (LvA.b (LvA.a (LvA.b (LvA.b (LA 116)))))) (cL (cR (cL (cR (cR lJ))))) (yX pc rk k) (fW pc rk k) (aw P eV)) (Tr.set (Tr.set (Tr.set (Tr.set (Tr.set (Tr.set Tr.nil 11 (some (AV.d u11))) 10 (some (AV.d u10))) 9 (some (AV.d u9))) 5 (some (AV.d u5))) 3 (some (AV.loc 3 0))) 2 (some (AV.loc 2 0))) (Tr.set (Tr.set Tr.nil 3 (some (Bx.dat c3 false))) 2 (some (Bx.dat c2 false)))
noncomputable def B116_3(pc:PC)(k:Nat)(m1:Nat)(b1:(D→D→D→D→List D→List D→Option D))(u5:D)(u9:D)(u10:D)(u11:D)(c2:List D)(c3:List D):Option D:=
bindO (binD P BinOp.add 3 (Operand.tmp 11) (Operand.const (Value.int IntKind.i64 1)) u11 (D.v (Value.int IntKind.i64 1))) fun d_g=>
b1 u5 u9 u10 d_g c2 c3
noncomputable def C116_3(m1:Nat):=B116_3 pc k m1
theorem h116_3(m1:Nat):T116_3 pc rk k m1=C116_3 pc k m1 (DQ pc rk k m1):=by kernel_rfl
noncomputable def B116_2(pc:PC)(k:Nat)(m1:Nat)(j3:(D→D→D→D→List D→List D→Option D))(b1:(D→D→D→D→List D→List D→Option D))(u5:D)(u9:D)(u10:D)(u11:D)(u26:D)(c2:List D)(c3:List D):Option D:=
ifU u26 (
bindO (binD P BinOp.add 3 (Operand.tmp 27) (Operand.const (Value.int IntKind.i64 1)) u5 (D.v (Value.int IntKind.i64 1))) fun d_f=>
j3 d_f u9 u10 u11 c2 c3) (
j3 u5 u9 u10 u11 c2 c3)
noncomputable def TX(m1:Nat)(b1:(D→D→D→D→List D→List D→Option D)):=B116_2 pc k m1 (C116_3 pc k m1 b1) b1
theorem h116_2(m1:Nat):T116_2 pc rk k m1=TX pc k m1 (DQ pc rk k m1):=Eq.trans (b:=B116_2 pc k m1 (T116_3 pc rk k m1) (DQ pc rk k m1)) (by kernel_rfl) (by rw[h116_3]; rfl)
noncomputable def MY(pc:PC)(k:Nat)(m1:Nat)(j2:(D→D→D→D→D→List D→List D→Option D))(b1:(D→D→D→D→List D→List D→Option D))(u5:D)(u9:D)(u10:D)(u11:D)(c2:List D)(c3:List D):Option D:=
bindO (binD P BinOp.lss 3 (Operand.tmp 11) (Operand.tmp 10) u11 u10) fun d_5=>
ifU d_5 (
bindO (elsD u9) fun l_6=>
bindO (idxD u11 l_6.length) fun i_7=>
bindO (l_6[i_7]?) fun d_8=>
bindO (aggD d_8) fun c_9=>
chkK (Nat.beq c_9.length 2) (
bindO (cutD c_9 0 2) fun c_a=>
bindO (splD [(D.v (Value.int IntKind.i64 0)),(D.v (Value.int IntKind.i64 0))] 0 c_a 2) fun c_b=>
bindO (cutD c_b 0 2) fun c_c=>
bindO (cutD c3 0 2) fun c_d=>
bindO (binD P BinOp.eql 131 (Operand.tmp 15) (Operand.tmp 16) (D.agg c_c) (D.agg c_d)) fun d_e=>
ifU d_e (
j2 u5 u9 u10 u11 (D.v (Value.bool true)) c2 c3) (
bindO (cutD c_b 0 2) fun c_h=>
bindO (c3[1]?) fun d_i=>
bindO (c3[0]?) fun d_j=>
chkK (bz d_i) (
chkK (bz d_j) (
bindO (binD P BinOp.eql 131 (Operand.tmp 19) (Operand.tmp 24) (D.agg c_h) (D.agg [d_i,d_j])) fun d_k=>
j2 u5 u9 u10 u11 d_k c2 c3))))) (
bindO (cutD c2 0 3) fun c_l=>
bindO (c3[0]?) fun d_m=>
bindO (pcD P pc 128 [(D.agg c_l),d_m]) fun d_n=>
ifU d_n (
bindO (cutD c2 0 3) fun c_o=>
bindO (c3[1]?) fun d_p=>
bindO (pcD P pc 128 [(D.agg c_o),d_p]) fun d_q=>
ifU d_q (
bindO (c3[0]?) fun d_r=>
bindO (c3[1]?) fun d_s=>
bindO (binD P BinOp.neq 3 (Operand.tmp 42) (Operand.tmp 44) d_r d_s) fun d_t=>
ifU d_t (
bindO (binD P BinOp.eql 3 (Operand.tmp 48) (Operand.const (Value.int IntKind.i64 1)) u5 (D.v (Value.int IntKind.i64 1))) fun d_u=>
some d_u) (
some (D.v (Value.bool false)))) (
some (D.v (Value.bool false)))) (
some (D.v (Value.bool false))))
noncomputable def GJ(m1:Nat)(b1:(D→D→D→D→List D→List D→Option D)):=MY pc k m1 (TX pc k m1 b1) b1
noncomputable def GQ:Nat→(D→D→D→D→List D→List D→Option D):=recF (GJ pc k) (fun _ _ _ _ _ _=>none)
theorem h116_1(m1:Nat):MX pc rk k m1=GJ pc k m1 (DQ pc rk k m1):=Eq.trans (b:=MY pc k m1 (T116_2 pc rk k m1) (DQ pc rk k m1)) (by kernel_rfl) (by rw[h116_2]; rfl)
theorem q116_1(m:Nat):MX pc rk k m=GQ pc k m:=recS (h116_1 pc rk k) (by kernel_rfl) (fun m=>by kernel_rfl) m
noncomputable def TY(pc:PC)(k:Nat)(j1:(D→D→D→D→List D→List D→Option D))(v0:D)(v1:D):Option D:=
bindO (aggD v0) fun c_1=>
bindO (aggD v1) fun c_2=>
bindO (c_1[1]?) fun d_3=>
bindO (elsD d_3) fun l_4=>
j1 (D.v (Value.int IntKind.i64 0)) d_3 (lenD l_4) (D.v (Value.int IntKind.i64 0)) c_1 c_2
noncomputable def TZ:=TY pc k (GQ pc k k)
theorem h116_0(v0:D)(v1:D):cJ P pc noY rk LA (k+1) 116 [v0,v1]=TZ pc k v0 v1:=(bqA Go.Proofs.Tryz.f116 lJ eV (by kernel_rfl)).trans (Eq.trans (b:=TY pc k (MX pc rk k k) v0 v1) (by kernel_rfl) (by rw[q116_1]; rfl))
noncomputable def tq:Code:=ak 117
noncomputable def ix:List ResultVar:=bw 117
noncomputable def DV:KA:=(bX (LvA.b (LA 117)).c (aW P pc noY rk (aq P pc noY rk 117 k) 117 (cR (cR tq)) (LvA.b (LvA.b (LA 117))) (aw P ix) X0A (aw P ix)))
noncomputable def rv:(Nat→KA):=(upA 0 (DV pc rk k) X0A)
noncomputable def MZ(m1:Nat):KA:=(bX (LvA.a (LvA.b (LvA.a (LvA.b (LA 117))))).c (aq P pc noY rk 117 m1 (LvA.a (LvA.b (LvA.a (LvA.b (LA 117))))) (cL (cR (cL (cR tq)))) (DV pc rk k) (rv pc rk k) (aw P ix)))
noncomputable def MK(m1:Nat):=fun(u1:D) (u7:D) (u8:D) (u9:D)=>labA (aW P pc noY rk (aq P pc noY rk 117 m1) 117 (cL (cL (cR (cL (cR tq))))) (LvA.a (LvA.a (LvA.b (LvA.a (LvA.b (LA 117)))))) (MZ pc rk k m1) (rv pc rk k) (aw P ix)) (Tr.set (Tr.set (Tr.set (Tr.set Tr.nil 9 (some (AV.d u9))) 8 (some (AV.d u8))) 7 (some (AV.d u7))) 1 (some (AV.d u1))) Tr.nil
noncomputable def R117_1(m1:Nat):(D→D→D→D→Option D):=fun u1 u7 u8 u9=>labA (aq P pc noY rk 117 m1 (LvA.a (LvA.b (LvA.a (LvA.b (LA 117))))) (cL (cR (cL (cR tq)))) (DV pc rk k) (rv pc rk k) (aw P ix)) (Tr.set (Tr.set (Tr.set (Tr.set Tr.nil 9 (some (AV.d u9))) 8 (some (AV.d u8))) 7 (some (AV.d u7))) 1 (some (AV.d u1))) Tr.nil
noncomputable def B117_1(pc:PC)(k:Nat)(m1:Nat)(b1:(D→D→D→D→Option D))(u1:D)(u7:D)(u8:D)(u9:D):Option D:=
bindO (binD P BinOp.lss 3 (Operand.tmp 9) (Operand.tmp 8) u9 u8) fun d_2=>
ifU d_2 (
bindO (elsD u7) fun l_3=>
bindO (idxD u9 l_3.length) fun i_4=>
bindO (l_3[i_4]?) fun d_5=>
bindO (aggD d_5) fun c_6=>
chkK (Nat.beq c_6.length 5) (
bindO (cutD c_6 0 5) fun c_7=>
bindO (splD [(D.v (Value.int IntKind.i64 0)),(D.v (Value.int IntKind.i64 0)),(D.v (Value.int IntKind.i64 0)),(D.v (Value.int IntKind.i64 0)),(D.v (Value.int IntKind.i64 0))] 0 c_7 5) fun c_8=>
bindO (cutD c_8 0 5) fun c_9=>
fnK u1 fun g a b=>
bindO (pcD P pc g (a++[(D.agg c_9)]++b)) fun d_a=>
bindO (semD P d_a (Op.unary UnOp.not)) fun d_b=>
ifU d_b (
some (D.v (Value.bool false))) (
bindO (binD P BinOp.add 3 (Operand.tmp 9) (Operand.const (Value.int IntKind.i64 1)) u9 (D.v (Value.int IntKind.i64 1))) fun d_c=>
b1 u1 u7 u8 d_c))) (
some (D.v (Value.bool true)))
noncomputable def GV(m1:Nat):=B117_1 pc k m1
noncomputable def GW:Nat→(D→D→D→D→Option D):=recF (GV pc k) (fun _ _ _ _=>none)
theorem h117_1(m1:Nat):MK pc rk k m1=GV pc k m1 (R117_1 pc rk k m1):=by kernel_rfl
theorem q117_1(m:Nat):MK pc rk k m=GW pc k m:=recS (h117_1 pc rk k) (by kernel_rfl) (fun m=>by kernel_rfl) m
noncomputable def Uj(pc:PC)(k:Nat)(j1:(D→D→D→D→Option D))(v0:D)(v1:D):Option D:=
bindO (elsD v0) fun l_1=>
j1 v1 v0 (lenD l_1) (D.v (Value.int IntKind.i64 0))
noncomputable def Uq:=Uj pc k (GW pc k k)
theorem h117_0(v0:D)(v1:D):cJ P pc noY rk LA (k+1) 117 [v0,v1]=Uq pc k v0 v1:=(bqA Go.Proofs.Tryz.f117 tq ix (by kernel_rfl)).trans (Eq.trans (b:=Uj pc k (MK pc rk k k) v0 v1) (by kernel_rfl) (by rw[q117_1]; rfl))
noncomputable def code118:Code:=ak 118
noncomputable def Nj:List ResultVar:=bw 118
noncomputable def B118_0(pc:PC)(k:Nat)(v0:D):Option D:=
bindO (aggD v0) fun c_1=>
bindO (c_1[0]?) fun d_2=>
bindO (binD P BinOp.geq 3 (Operand.tmp 4) (Operand.const (Value.int IntKind.i64 0)) d_2 (D.v (Value.int IntKind.i64 0))) fun d_3=>
ifU d_3 (
bindO (c_1[0]?) fun d_4=>
bindO (binD P BinOp.leq 3 (Operand.tmp 8) (Operand.const (Value.int IntKind.i64 1000)) d_4 (D.v (Value.int IntKind.i64 1000))) fun d_5=>
ifU d_5 (
bindO (cutD c_1 1 2) fun c_6=>
bindO (pcD P pc 129 [(D.agg c_6)]) fun d_7=>
ifU d_7 (
bindO (cutD c_1 3 2) fun c_8=>
bindO (pcD P pc 129 [(D.agg c_8)]) fun d_9=>
some d_9) (
some (D.v (Value.bool false)))) (
some (D.v (Value.bool false)))) (
some (D.v (Value.bool false)))
noncomputable def Uv:=B118_0 pc k
theorem h118_0(v0:D):cJ P pc noY rk LA (k+1) 118 [v0]=Uv pc k v0:=(bqA Go.Proofs.Tryz.f118 code118 Nj (by kernel_rfl)).trans (by kernel_rfl)
noncomputable def qy:Code:=ak 119
noncomputable def eX:List ResultVar:=bw 119
noncomputable def oy(pc:PC)(k:Nat):(Nat→KA):=(upA 0 (aw P eX) X0A)
noncomputable def GX(m1:Nat):KA:=(bX (LvA.a (LvA.b (LA 119))).c (aq P pc my noR 119 m1 (LvA.a (LvA.b (LA 119))) (cL (cR qy)) (aw P eX) (oy pc k) (aw P eX)))
noncomputable def zX(m1:Nat):KA:=(bX (LvA.b (LvA.b (LvA.a (LvA.a (LvA.b (LA 119)))))).c (aW P pc my noR (aq P pc my noR 119 m1) 119 (cR (cR (cR (cL (cL (cR qy)))))) (LvA.b (LvA.b (LvA.b (LvA.a (LvA.a (LvA.b (LA 119))))))) (GX pc k m1) (oy pc k) (aw P eX)))
noncomputable def K119_pxrllrrl(m1:Nat):(Nat→KA):=(upA 1 (zX pc k m1) (oy pc k))
noncomputable def T119_2(m1:Nat):=fun(u0:Nat) (u1:D) (u2:D) (u10:D) (u11:D) (u27:D)=>labA (aW P pc my noR (aq P pc my noR 119 m1) 119 (cR (cR (cL (cL (cR (cR (cL (cL (cR qy))))))))) (LvA.b (LvA.b (LvA.a (LvA.a (LvA.b (LvA.b (LvA.a (LvA.a (LvA.b (LA 119)))))))))) (zX pc k m1) (K119_pxrllrrl pc k m1) (aw P eX)) (Tr.set (Tr.set (Tr.set (Tr.set (Tr.set (Tr.set Tr.nil 27 (some (AV.d u27))) 11 (some (AV.d u11))) 10 (some (AV.d u10))) 2 (some (AV.d u2))) 1 (some (AV.d u1))) 0 (some (AV.d (D.yld u0)))) Tr.nil
noncomputable def Nq(m1:Nat):=fun(u0:Nat) (u1:D) (u2:D) (u10:D) (u11:D)=>labA (aW P pc my noR (aq P pc my noR 119 m1) 119 (cL (cL (cR qy))) (LvA.a (LvA.a (LvA.b (LA 119)))) (GX pc k m1) (oy pc k) (aw P eX)) (Tr.set (Tr.set (Tr.set (Tr.set (Tr.set Tr.nil 11 (some (AV.d u11))) 10 (some (AV.d u10))) 2 (some (AV.d u2))) 1 (some (AV.d u1))) 0 (some (AV.d (D.yld u0)))) Tr.nil
noncomputable def R119_1(m1:Nat):(Nat→D→D→D→D→Option D):=fun u0 u1 u2 u10 u11=>labA (aq P pc my noR 119 m1 (LvA.a (LvA.b (LA 119))) (cL (cR qy)) (aw P eX) (oy pc k) (aw P eX)) (Tr.set (Tr.set (Tr.set (Tr.set (Tr.set Tr.nil 11 (some (AV.d u11))) 10 (some (AV.d u10))) 2 (some (AV.d u2))) 1 (some (AV.d u1))) 0 (some (AV.d (D.yld u0)))) Tr.nil
noncomputable def B119_2(pc:PC)(k:Nat)(m1:Nat)(b1:(Nat→D→D→D→D→Option D))(u0:Nat)(u1:D)(u2:D)(u10:D)(u11:D)(u27:D):Option D:=
ifU u27 (
some (D.tup [])) (
bindO (binD P BinOp.add 3 (Operand.tmp 11) (Operand.const (Value.int IntKind.i64 1)) u11 (D.v (Value.int IntKind.i64 1))) fun d_h=>
b1 u0 u1 u2 u10 d_h)
noncomputable def C119_2(m1:Nat):=B119_2 pc k m1
theorem h119_2(m1:Nat):T119_2 pc k m1=C119_2 pc k m1 (R119_1 pc k m1):=by kernel_rfl
noncomputable def Uw(pc:PC)(k:Nat)(m1:Nat)(j2:(Nat→D→D→D→D→D→Option D))(b1:(Nat→D→D→D→D→Option D))(u0:Nat)(u1:D)(u2:D)(u10:D)(u11:D):Option D:=
bindO (binD P BinOp.lss 3 (Operand.tmp 11) (Operand.tmp 10) u11 u10) fun d_6=>
ifU d_6 (
bindO (jV u1) fun c_7=>
bindO (c_7[0]?) fun d_8=>
nilA (AV.d d_8) (
bindO (jV d_8) fun c_9=>
bindO (idxD u11 8) fun i_a=>
bindO ((List.drop (i_a * 1) (List.drop 5 c_9))[0]?) fun d_b=>
bindO (jV u2) fun c_c=>
bindO (c_c[0]?) fun d_d=>
bindO (pcD P pc 95 [d_b,d_d]) fun d_e=>
ifU d_e (
nodeYf u0 [u11] (
bindO (semD P (D.v (Value.bool true)) (Op.unary UnOp.not)) fun d_g=>
j2 u0 u1 u2 u10 u11 d_g) (
bindO (semD P (D.v (Value.bool false)) (Op.unary UnOp.not)) fun d_i=>
j2 u0 u1 u2 u10 u11 d_i)) (
j2 u0 u1 u2 u10 u11 (D.v (Value.bool false))))) (
some (D.tup []))
noncomputable def GY(m1:Nat)(b1:(Nat→D→D→D→D→Option D)):=Uw pc k m1 (C119_2 pc k m1 b1) b1
noncomputable def GZ:Nat→(Nat→D→D→D→D→Option D):=recF (GY pc k) (fun _ _ _ _ _=>none)
theorem h119_1(m1:Nat):Nq pc k m1=GY pc k m1 (R119_1 pc k m1):=Eq.trans (b:=Uw pc k m1 (T119_2 pc k m1) (R119_1 pc k m1)) (by kernel_rfl) (by rw[h119_2]; rfl)
theorem q119_1(m:Nat):Nq pc k m=GZ pc k m:=recS (h119_1 pc k) (by kernel_rfl) (fun m=>by kernel_rfl) m
noncomputable def Ux(pc:PC)(k:Nat)(j1:(Nat→D→D→D→D→Option D))(v0:Nat)(v1:D)(v2:D):Option D:=
bindO (jV v1) fun c_1=>
bindO (c_1[0]?) fun d_2=>
nilA (AV.d d_2) (
bindO (jV d_2) fun c_3=>
bindO ((List.drop 4 c_3)[0]?) fun d_4=>
bindO (elsD d_4) fun l_5=>
j1 v0 v1 v2 (lenD l_5) (D.v (Value.int IntKind.i64 0)))
noncomputable def Uy:=Ux pc k (GZ pc k k)
theorem h119_0(v0:Nat)(v1:D)(v2:D):cJ P pc my noR LA (k+1) 119 [D.yld v0,v1,v2]=Uy pc k v0 v1 v2:=(bqY Go.Proofs.Tryz.f119 qy eX (by kernel_rfl)).trans (Eq.trans (b:=Ux pc k (Nq pc k k) v0 v1 v2) (by kernel_rfl) (by rw[q119_1]; rfl))
noncomputable def wQ:Code:=ak 120
noncomputable def fQ:List ResultVar:=bw 120
noncomputable def yY(pc:PC)(k:Nat):(Nat→KA):=(upA 0 (aw P fQ) X0A)
noncomputable def qhk(m1:Nat):KA:=(bX (LvA.a (LvA.b (LA 120))).c (aq P pc my noR 120 m1 (LvA.a (LvA.b (LA 120))) (cL (cR wQ)) (aw P fQ) (yY pc k) (aw P fQ)))
noncomputable def Nv(m1:Nat):=fun(u0:Nat) (u1:D) (u3:D)=>labA (aW P pc my noR (aq P pc my noR 120 m1) 120 (cL (cL (cR wQ))) (LvA.a (LvA.a (LvA.b (LA 120)))) (qhk pc k m1) (yY pc k) (aw P fQ)) (Tr.set (Tr.set (Tr.set Tr.nil 3 (some (AV.d u3))) 1 (some (AV.d u1))) 0 (some (AV.d (D.yld u0)))) Tr.nil
noncomputable def R120_1(m1:Nat):(Nat→D→D→Option D):=fun u0 u1 u3=>labA (aq P pc my noR 120 m1 (LvA.a (LvA.b (LA 120))) (cL (cR wQ)) (aw P fQ) (yY pc k) (aw P fQ)) (Tr.set (Tr.set (Tr.set Tr.nil 3 (some (AV.d u3))) 1 (some (AV.d u1))) 0 (some (AV.d (D.yld u0)))) Tr.nil
noncomputable def B120_1(pc:PC)(k:Nat)(m1:Nat)(b1:(Nat→D→D→Option D))(u0:Nat)(u1:D)(u3:D):Option D:=
bindO (binD P BinOp.geq 3 (Operand.tmp 7) (Operand.const (Value.int IntKind.i64 0)) u3 (D.v (Value.int IntKind.i64 0))) fun d_5=>
ifU d_5 (
bindO (jV u1) fun c_6=>
bindO (c_6[0]?) fun d_7=>
bindO (elsD d_7) fun l_8=>
bindO (idxD u3 l_8.length) fun i_9=>
bindO (l_8[i_9]?) fun d_a=>
chkK (bz d_a) (
nodeYf u0 [u3,d_a] (
bindO (semD P (D.v (Value.bool true)) (Op.unary UnOp.not)) fun d_c=>
ifU d_c (
some (D.tup [])) (
bindO (binD P BinOp.sub 3 (Operand.tmp 9) (Operand.const (Value.int IntKind.i64 1)) u3 (D.v (Value.int IntKind.i64 1))) fun d_d=>
b1 u0 u1 d_d)) (
bindO (semD P (D.v (Value.bool false)) (Op.unary UnOp.not)) fun d_e=>
ifU d_e (
some (D.tup [])) (
bindO (binD P BinOp.sub 3 (Operand.tmp 9) (Operand.const (Value.int IntKind.i64 1)) u3 (D.v (Value.int IntKind.i64 1))) fun d_f=>
b1 u0 u1 d_f)))) (
some (D.tup []))
noncomputable def GK(m1:Nat):=B120_1 pc k m1
noncomputable def Hj:Nat→(Nat→D→D→Option D):=recF (GK pc k) (fun _ _ _=>none)
theorem h120_1(m1:Nat):Nv pc k m1=GK pc k m1 (R120_1 pc k m1):=by kernel_rfl
theorem q120_1(m:Nat):Nv pc k m=Hj pc k m:=recS (h120_1 pc k) (by kernel_rfl) (fun m=>by kernel_rfl) m
noncomputable def Uz(pc:PC)(k:Nat)(j1:(Nat→D→D→Option D))(v0:Nat)(v1:D):Option D:=
bindO (jV v1) fun c_1=>
bindO (c_1[0]?) fun d_2=>
bindO (elsD d_2) fun l_3=>
bindO (binD P BinOp.sub 3 (Operand.tmp 5) (Operand.const (Value.int IntKind.i64 1)) (lenD l_3) (D.v (Value.int IntKind.i64 1))) fun d_4=>
j1 v0 v1 d_4
noncomputable def Uk:=Uz pc k (Hj pc k k)
theorem h120_0(v0:Nat)(v1:D):cJ P pc my noR LA (k+1) 120 [D.yld v0,v1]=Uk pc k v0 v1:=(bqY Go.Proofs.Tryz.f120 wQ fQ (by kernel_rfl)).trans (Eq.trans (b:=Uz pc k (Nv pc k k) v0 v1) (by kernel_rfl) (by rw[q120_1]; rfl))
noncomputable def code127:Code:=ak 127
noncomputable def Nw:List ResultVar:=bw 127
noncomputable def B127_0(pc:PC)(k:Nat)(v0:D):Option D:=
bindO (binD P BinOp.shr 189 (Operand.tmp 3) (Operand.const (Value.int IntKind.u64 1)) v0 (D.v (Value.int IntKind.u64 1))) fun d_1=>
bindO (binD P BinOp.and 189 (Operand.tmp 4) (Operand.const (Value.int IntKind.u64 6148914691236517205)) d_1 (D.v (Value.int IntKind.u64 6148914691236517205))) fun d_2=>
bindO (binD P BinOp.and 189 (Operand.tmp 6) (Operand.const (Value.int IntKind.u64 6148914691236517205)) v0 (D.v (Value.int IntKind.u64 6148914691236517205))) fun d_3=>
bindO (binD P BinOp.add 189 (Operand.tmp 5) (Operand.tmp 7) d_2 d_3) fun d_4=>
bindO (binD P BinOp.shr 189 (Operand.tmp 9) (Operand.const (Value.int IntKind.u64 2)) d_4 (D.v (Value.int IntKind.u64 2))) fun d_5=>
bindO (binD P BinOp.and 189 (Operand.tmp 10) (Operand.const (Value.int IntKind.u64 3689348814741910323)) d_5 (D.v (Value.int IntKind.u64 3689348814741910323))) fun d_6=>
bindO (binD P BinOp.and 189 (Operand.tmp 12) (Operand.const (Value.int IntKind.u64 3689348814741910323)) d_4 (D.v (Value.int IntKind.u64 3689348814741910323))) fun d_7=>
bindO (binD P BinOp.add 189 (Operand.tmp 11) (Operand.tmp 13) d_6 d_7) fun d_8=>
bindO (binD P BinOp.shr 189 (Operand.tmp 15) (Operand.const (Value.int IntKind.u64 4)) d_8 (D.v (Value.int IntKind.u64 4))) fun d_9=>
bindO (binD P BinOp.add 189 (Operand.tmp 16) (Operand.tmp 17) d_9 d_8) fun d_a=>
bindO (binD P BinOp.and 189 (Operand.tmp 18) (Operand.const (Value.int IntKind.u64 1085102592571150095)) d_a (D.v (Value.int IntKind.u64 1085102592571150095))) fun d_b=>
bindO (binD P BinOp.shr 189 (Operand.tmp 21) (Operand.const (Value.int IntKind.u64 8)) d_b (D.v (Value.int IntKind.u64 8))) fun d_c=>
bindO (binD P BinOp.add 189 (Operand.tmp 20) (Operand.tmp 22) d_b d_c) fun d_d=>
bindO (binD P BinOp.shr 189 (Operand.tmp 25) (Operand.const (Value.int IntKind.u64 16)) d_d (D.v (Value.int IntKind.u64 16))) fun d_e=>
bindO (binD P BinOp.add 189 (Operand.tmp 24) (Operand.tmp 26) d_d d_e) fun d_f=>
bindO (binD P BinOp.shr 189 (Operand.tmp 29) (Operand.const (Value.int IntKind.u64 32)) d_f (D.v (Value.int IntKind.u64 32))) fun d_g=>
bindO (binD P BinOp.add 189 (Operand.tmp 28) (Operand.tmp 30) d_f d_g) fun d_h=>
bindO (semD P d_h (convert 189 3)) fun d_i=>
bindO (binD P BinOp.and 3 (Operand.tmp 33) (Operand.const (Value.int IntKind.i64 127)) d_i (D.v (Value.int IntKind.i64 127))) fun d_j=>
some d_j
noncomputable def DW:=B127_0 pc k
theorem h127_0(v0:D):cJ P pc noY rk LA (k+1) 127 [v0]=DW pc k v0:=(bqA Go.Proofs.Tryz.f127 code127 Nw (by kernel_rfl)).trans (by kernel_rfl)
noncomputable def code128:Code:=ak 128
noncomputable def Ny:List ResultVar:=bw 128
noncomputable def B128_0(pc:PC)(k:Nat)(v0:D)(v1:D):Option D:=
bindO (aggD v0) fun c_1=>
bindO (binD P BinOp.geq 3 (Operand.tmp 5) (Operand.const (Value.int IntKind.i64 0)) v1 (D.v (Value.int IntKind.i64 0))) fun d_2=>
ifU d_2 (
bindO (c_1[0]?) fun d_3=>
bindO (elsD d_3) fun l_4=>
bindO (binD P BinOp.lss 3 (Operand.tmp 8) (Operand.tmp 11) v1 (lenD l_4)) fun d_5=>
some d_5) (
some (D.v (Value.bool false)))
noncomputable def UJ:=B128_0 pc k
theorem h128_0(v0:D)(v1:D):cJ P pc noY rk LA (k+1) 128 [v0,v1]=UJ pc k v0 v1:=(bqA Go.Proofs.Tryz.f128 code128 Ny (by kernel_rfl)).trans (by kernel_rfl)
noncomputable def code129:Code:=ak 129
noncomputable def Nz:List ResultVar:=bw 129
noncomputable def B129_0(pc:PC)(k:Nat)(v0:D):Option D:=
bindO (aggD v0) fun c_1=>
bindO (c_1[0]?) fun d_2=>
bindO (binD P BinOp.geq 3 (Operand.tmp 4) (Operand.const (Value.int IntKind.i64 0)) d_2 (D.v (Value.int IntKind.i64 0))) fun d_3=>
ifU d_3 (
bindO (c_1[0]?) fun d_4=>
bindO (c_1[1]?) fun d_5=>
bindO (binD P BinOp.leq 3 (Operand.tmp 8) (Operand.tmp 10) d_4 d_5) fun d_6=>
ifU d_6 (
bindO (c_1[1]?) fun d_7=>
bindO (binD P BinOp.leq 3 (Operand.tmp 15) (Operand.const (Value.int IntKind.i64 1000)) d_7 (D.v (Value.int IntKind.i64 1000))) fun d_8=>
some d_8) (
some (D.v (Value.bool false)))) (
some (D.v (Value.bool false)))
noncomputable def UQ:=B129_0 pc k
theorem h129_0(v0:D):cJ P pc noY rk LA (k+1) 129 [v0]=UQ pc k v0:=(bqA Go.Proofs.Tryz.f129 code129 Nz (by kernel_rfl)).trans (by kernel_rfl)
end Go.Proofs.YtnnkcjolgbpklaaGreat.L
end
end
