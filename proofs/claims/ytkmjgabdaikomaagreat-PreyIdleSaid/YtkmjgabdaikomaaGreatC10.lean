/- Texts L1 to L1. -/
import Derived.Test.YtkmjgabdaikomaaGreatRows
import Derived.Test.YtkmjgabdaikomaaGreatC9
set_option linter.unusedVariables false
section
open Go Go.Ev
set_option maxRecDepth 1000000
noncomputable section
namespace Go.Proofs.YtkmjgabdaikomaaGreat.L
noncomputable def P:Program:=Go.Proofs.Tryz.prog
noncomputable def codeOf (f:FuncId):Code:=match P.funcs[f]? with
  | some fn=>match fn.body with
    | some c=>c
    | none=>.skip
  | none=>.skip
noncomputable def resOf (f:FuncId):List ResultVar:=match P.funcs[f]? with
  | some fn=>fn.results.toList
  | none=>[]
noncomputable def cL:Code→Code
  | .seq a _=>a
  | .cond _ a _=>a
  | .block _ c=>c
  | .scope c=>c
  | .loop c=>c
  | .rangeFunc _ _ a _=>a
  | _=>.skip
noncomputable def cR:Code→Code
  | .seq _ b=>b
  | .cond _ _ b=>b
  | .rangeFunc _ _ _ b=>b
  | _=>.skip
noncomputable def X0A:Nat→KA:=fun _ _ _=>none
noncomputable def rX:Code→Operand
  | .rangeFunc x _ _ _=>x
  | _=>.tmp 0
noncomputable def rPs:Code→List Tmp
  | .rangeFunc _ ps _ _=>ps.toList
  | _=>[]
theorem body_eqA {pc:PC} {rk:RK} {L:FuncId→LvA} {k f:Nat} {fn:Func} {c:Code} {rs:List ResultVar} {ds:List D} (h1:P.funcs[f]?=some fn) (h2:fn.body=some c)
    (h3 : (fn.name == "runtime.NumGoroutine" || fn.ntmps < ds.length) = false) (h4 : fn.results.toList = rs) :
    bodyY P pc noY rk L (k+1) f ds=codeA P pc noY rk (codeFA P pc noY rk f k) f c (L f) (doneA P rs) X0A (doneA P rs) (argsA .nil 0 ds) .nil:=by
  subst h4
  unfold bodyY
  simp only[h1,h2,h3]
  rfl
theorem body_eqY {pc:PC} {L:FuncId→LvA} {k f:Nat} {fn:Func} {c:Code} {rs:List ResultVar} {ds:List D} (h1:P.funcs[f]?=some fn) (h2:fn.body=some c)
    (h3 : (fn.name == "runtime.NumGoroutine" || fn.ntmps < ds.length) = false) (h4 : fn.results.toList = rs) :
    bodyY P pc nodeY noR L (k+1) f ds=codeA P pc nodeY noR (codeFA P pc nodeY noR f k) f c (L f) (doneA P rs) X0A (doneA P rs) (argsA .nil 0 ds) .nil:=by
  subst h4
  unfold bodyY
  simp only[h1,h2,h3]
  rfl
noncomputable def lvTabA:Tr LvA:=Tr.set (Tr.set (Tr.set (Tr.set (Tr.set (Tr.set (Tr.set (Tr.set (Tr.set (Tr.set (Tr.set (Tr.set (Tr.set (Tr.set (Tr.set (Tr.set (Tr.set (Tr.set (Tr.set (Tr.set (Tr.set (Tr.set (Tr.set (Tr.set (Tr.set (Tr.set (Tr.set (Tr.set (Tr.set (Tr.set (Tr.set (Tr.set (Tr.set (Tr.set (Tr.set (Tr.set (Tr.set (Tr.set (Tr.set (Tr.set (Tr.set (Tr.set (.nil) 8 (some (.node none .leaf (.node none .leaf (.node none .leaf (.node none .leaf (.node none .leaf (.node none .leaf (.node none .leaf (.node none .leaf (.node none .leaf (.node none .leaf (.node none .leaf (.node none .leaf (.node none .leaf (.node none (.node (some { frz:=[10,12,14,158],own:=[],cel:=[],fzs:=[],tmps:=[10,12,14,158],sites:=[] }) .leaf .leaf) (.node none (.node none .leaf (.node none (.node (some { frz:=[10,12,14,24],own:=[],cel:=[],fzs:=[],tmps:=[10,12,14,24],sites:=[] }) .leaf .leaf) .leaf)) .leaf))))))))))))))))) 11 (some (.node none .leaf (.node none .leaf (.node none .leaf (.node none .leaf (.node none .leaf (.node none (.node (some { frz:=[1,7,8,10,64],own:=[],cel:=[],fzs:=[],tmps:=[1,3,7,8,10,64],sites:=[3] }) .leaf .leaf) .leaf)))))))) 12 (some (.node none .leaf (.node none (.node (some { frz:=[1,21],own:=[],cel:=[],fzs:=[],tmps:=[1,2,21],sites:=[2] }) .leaf .leaf) (.node none .leaf (.node none .leaf (.node none (.node (some { frz:=[5,6,42],own:=[],cel:=[],fzs:=[],tmps:=[2,5,6,42],sites:=[2] }) .leaf .leaf) (.node none .leaf (.node none (.node none .leaf (.node none (.node (some { frz:=[5,6,9],own:=[],cel:=[],fzs:=[],tmps:=[2,5,6,8,9],sites:=[2,8] }) (.node none .leaf (.node (some { frz:=[5,6,9],own:=[],cel:=[],fzs:=[],tmps:=[2,5,6,8,9],sites:=[2,8] }) .leaf .leaf)) .leaf) .leaf)) (.node none (.node none .leaf (.node none (.node (some { frz:=[5,6,10],own:=[],cel:=[],fzs:=[],tmps:=[2,5,6,8,10],sites:=[2,8] }) (.node none .leaf (.node none (.node none (.node none .leaf (.node none (.node (some { frz:=[5,6,10,11],own:=[],cel:=[],fzs:=[],tmps:=[2,5,6,8,10,11],sites:=[2,8] }) .leaf .leaf) .leaf)) .leaf) .leaf)) .leaf) .leaf)) (.node none (.node none .leaf (.node none (.node (some { frz:=[5,6,13],own:=[],cel:=[],fzs:=[],tmps:=[2,5,6,8,13],sites:=[2,8] }) .leaf .leaf) .leaf)) .leaf))))))))))) 18 (some (.node none .leaf (.node none .leaf (.node none (.node none .leaf (.node none (.node (some { frz:=[0,4],own:=[(3,18,27,1)],cel:=[],fzs:=[],tmps:=[0,3,4],sites:=[18] }) .leaf .leaf) .leaf)) .leaf))))) 21 (some (.node none .leaf (.node none .leaf (.node none (.node none .leaf (.node none (.node (some { frz:=[0,1,5],own:=[],cel:=[],fzs:=[],tmps:=[0,1,5],sites:=[] }) .leaf .leaf) .leaf)) .leaf))))) 22 (some (.node none .leaf (.node none .leaf (.node none (.node none .leaf (.node none (.node (some { frz:=[1,6],own:=[(5,11,27,1)],cel:=[],fzs:=[],tmps:=[1,2,5,6],sites:=[2,11] }) .leaf .leaf) .leaf)) .leaf))))) 26 (some (.node none .leaf (.node none (.node none .leaf (.node none (.node (some { frz:=[1,5],own:=[],cel:=[],fzs:=[],tmps:=[1,2,5],sites:=[2] }) .leaf .leaf) .leaf)) .leaf)))) 27 (some (.node none .leaf (.node none .leaf (.node none .leaf (.node none (.node none .leaf (.node none (.node (some { frz:=[1,2,7],own:=[],cel:=[],fzs:=[],tmps:=[1,2,3,7],sites:=[3] }) (.node none .leaf (.node none (.node none (.node (some { frz:=[1,2,7,80],own:=[],cel:=[],fzs:=[],tmps:=[1,2,3,7,80],sites:=[3] }) .leaf .leaf) .leaf) .leaf)) .leaf) .leaf)) (.node none .leaf (.node none .leaf (.node none (.node none .leaf (.node none (.node (some { frz:=[1,2,8,9],own:=[],cel:=[],fzs:=[],tmps:=[1,2,3,8,9],sites:=[3] }) .leaf .leaf) .leaf)) .leaf))))))))) 28 (some (.node none .leaf (.node none .leaf (.node none (.node none .leaf (.node none (.node (some { frz:=[1,5,6],own:=[],cel:=[],fzs:=[],tmps:=[1,2,5,6],sites:=[2] }) .leaf .leaf) .leaf)) .leaf))))) 32 (some (.node none .leaf (.node none (.node none .leaf (.node none (.node (some { frz:=[0,1,5],own:=[],cel:=[],fzs:=[],tmps:=[0,1,5],sites:=[] }) .leaf .leaf) .leaf)) .leaf)))) 42 (some (.node none .leaf (.node none .leaf (.node none (.node none .leaf (.node none (.node (some { frz:=[0,1,5],own:=[],cel:=[],fzs:=[],tmps:=[0,1,5],sites:=[] }) .leaf .leaf) .leaf)) .leaf))))) 43 (some (.node none .leaf (.node none .leaf (.node none (.node none .leaf (.node none (.node (some { frz:=[0,4],own:=[(3,22,3,1)],cel:=[],fzs:=[],tmps:=[0,3,4],sites:=[22] }) (.node none .leaf (.node (some { frz:=[0,4],own:=[(3,22,3,1)],cel:=[],fzs:=[],tmps:=[0,3,4],sites:=[22] }) .leaf .leaf)) .leaf) .leaf)) .leaf))))) 44 (some (.node none .leaf (.node none (.node none .leaf (.node none (.node (some { frz:=[0,1,5],own:=[],cel:=[],fzs:=[],tmps:=[0,1,5],sites:=[] }) .leaf .leaf) .leaf)) .leaf)))) 46 (some (.node none .leaf (.node none (.node none .leaf (.node none (.node (some { frz:=[0,3],own:=[],cel:=[],fzs:=[],tmps:=[0,3],sites:=[] }) (.node none (.node (some { frz:=[0,3,11],own:=[],cel:=[],fzs:=[],tmps:=[0,3,11],sites:=[] }) .leaf .leaf) .leaf) .leaf) .leaf)) .leaf)))) 49 (some (.node none .leaf (.node none .leaf (.node none (.node (some { frz:=[30],own:=[],cel:=[],fzs:=[],tmps:=[30],sites:=[] }) .leaf .leaf) .leaf))))) 50 (some (.node none .leaf (.node none .leaf (.node none (.node none .leaf (.node none (.node (some { frz:=[4],own:=[],cel:=[(3,0,31,124,2)],fzs:=[],tmps:=[1,2,3,4],sites:=[1,2,3,31] }) .leaf .leaf) .leaf)) (.node none (.node none .leaf (.node none (.node (some { frz:=[5],own:=[],cel:=[(3,0,31,124,2),(3,1,56,125,2)],fzs:=[],tmps:=[1,2,3,5],sites:=[1,2,3,31,56] }) .leaf .leaf) .leaf)) (.node none (.node none .leaf (.node none (.node (some { frz:=[6],own:=[],cel:=[(3,0,31,124,2),(3,1,56,125,2),(3,2,82,122,5)],fzs:=[],tmps:=[1,2,3,6],sites:=[1,2,3,31,56,82] }) .leaf .leaf) .leaf)) .leaf))))))) 51 (some (.node none .leaf (.node none .leaf (.node none .leaf (.node none .leaf (.node none .leaf (.node none .leaf (.node none (.node none .leaf (.node none (.node (some { frz:=[7,34,35,36],own:=[(9,33,101,1)],cel:=[],fzs:=[],tmps:=[7,9,34,35,36],sites:=[33] }) .leaf .leaf) .leaf)) .leaf))))))))) 52 (some (.node none .leaf (.node none .leaf (.node none (.node none .leaf (.node none (.node (some { frz:=[6,7,8],own:=[(3,16,27,1)],cel:=[],fzs:=[],tmps:=[3,6,7,8],sites:=[16] }) .leaf .leaf) .leaf)) .leaf))))) 53 (some (.node none .leaf (.node none .leaf (.node none (.node none .leaf (.node none (.node (some { frz:=[0,15,16,17],own:=[(5,14,101,1)],cel:=[],fzs:=[],tmps:=[0,5,15,16,17],sites:=[14] }) .leaf .leaf) .leaf)) .leaf))))) 54 (some (.node none .leaf (.node none .leaf (.node none (.node (some { frz:=[25],own:=[],cel:=[],fzs:=[],tmps:=[1,25],sites:=[1] }) .leaf .leaf) (.node none (.node none .leaf (.node none (.node (some { frz:=[4],own:=[],cel:=[],fzs:=[],tmps:=[1,4],sites:=[1] }) .leaf .leaf) .leaf)) .leaf)))))) 55 (some (.node none .leaf (.node none .leaf (.node none (.node none .leaf (.node none (.node (some { frz:=[1,5],own:=[],cel:=[],fzs:=[],tmps:=[1,2,5],sites:=[2] }) .leaf .leaf) .leaf)) .leaf))))) 56 (some (.node none .leaf (.node none .leaf (.node none (.node none .leaf (.node none (.node (some { frz:=[1,2,8],own:=[(7,45,3,1)],cel:=[],fzs:=[],tmps:=[1,2,3,7,8],sites:=[3,45] }) (.node none .leaf (.node (some { frz:=[1,2,8],own:=[(7,45,3,1)],cel:=[],fzs:=[],tmps:=[1,2,3,7,8],sites:=[3,45] }) (.node none (.node none .leaf (.node none (.node none .leaf (.node none (.node (some { frz:=[1,2,8,9,10],own:=[(7,45,3,1)],cel:=[],fzs:=[],tmps:=[1,2,3,7,8,9,10],sites:=[3,45] }) (.node none .leaf (.node (some { frz:=[1,2,8,9,10],own:=[(7,45,3,1)],cel:=[],fzs:=[],tmps:=[1,2,3,7,8,9,10],sites:=[3,45] }) .leaf .leaf)) .leaf) .leaf)) (.node (some { frz:=[1,2,8,41],own:=[(7,45,3,1)],cel:=[],fzs:=[],tmps:=[1,2,3,7,8,41],sites:=[3,45] }) .leaf .leaf))) .leaf) .leaf)) .leaf) .leaf)) .leaf))))) 58 (some (.node none .leaf (.node none .leaf (.node none (.node none .leaf (.node none (.node (some { frz:=[0,5,8,9,10],own:=[],cel:=[],fzs:=[],tmps:=[0,5,8,9,10],sites:=[] }) .leaf .leaf) .leaf)) .leaf))))) 59 (some (.node none .leaf (.node none .leaf (.node none .leaf (.node none (.node none .leaf (.node none (.node (some { frz:=[0,1,2,7,8,23,24,25],own:=[],cel:=[],fzs:=[],tmps:=[0,1,2,7,8,23,24,25],sites:=[] }) (.node none .leaf (.node none .leaf (.node none (.node none (.node none .leaf (.node none (.node (some { frz:=[0,1,2,9,10,23,24,25,42],own:=[],cel:=[],fzs:=[],tmps:=[0,1,2,9,10,23,24,25,42],sites:=[] }) .leaf .leaf) .leaf)) .leaf) .leaf))) .leaf) .leaf)) .leaf)))))) 63 (some (.node none .leaf (.node none .leaf (.node none (.node none .leaf (.node none (.node (some { frz:=[6,7,8],own:=[(3,16,3,1)],cel:=[],fzs:=[],tmps:=[3,6,7,8],sites:=[16] }) .leaf .leaf) .leaf)) .leaf))))) 64 (some (.node none .leaf (.node none (.node none .leaf (.node none (.node (some { frz:=[1,2,7],own:=[],cel:=[],fzs:=[],tmps:=[1,2,3,7],sites:=[3] }) (.node none .leaf (.node none (.node none (.node none .leaf (.node (some { frz:=[1,2,7,42],own:=[],cel:=[],fzs:=[],tmps:=[1,2,3,7,42],sites:=[3] }) .leaf .leaf)) .leaf) .leaf)) .leaf) .leaf)) .leaf)))) 65 (some (.node none .leaf (.node none .leaf (.node none .leaf (.node none (.node none .leaf (.node none (.node (some { frz:=[22,23],own:=[],cel:=[],fzs:=[],tmps:=[5,22,23],sites:=[16] }) .leaf .leaf) .leaf)) (.node none (.node none .leaf (.node none (.node (some { frz:=[40,41,42],own:=[],cel:=[],fzs:=[],tmps:=[5,40,41,42],sites:=[16] }) .leaf .leaf) .leaf)) .leaf))))))) 72 (some (.node none .leaf (.node none (.node none .leaf (.node none (.node (some { frz:=[1,7,8,9],own:=[],cel:=[],fzs:=[],tmps:=[1,7,8,9],sites:=[] }) .leaf .leaf) .leaf)) .leaf)))) 75 (some (.node none .leaf (.node none (.node none .leaf (.node none (.node (some { frz:=[1,7,8,9],own:=[],cel:=[],fzs:=[],tmps:=[1,7,8,9],sites:=[] }) .leaf .leaf) .leaf)) .leaf)))) 76 (some (.node none .leaf (.node none .leaf (.node none (.node none .leaf (.node none (.node (some { frz:=[3,6,7,8],own:=[],cel:=[],fzs:=[],tmps:=[3,6,7,8],sites:=[] }) .leaf .leaf) .leaf)) .leaf))))) 77 (some (.node none .leaf (.node none .leaf (.node none (.node none .leaf (.node none (.node (some { frz:=[0,5],own:=[(3,14,3,1)],cel:=[],fzs:=[],tmps:=[0,3,5],sites:=[14] }) (.node none .leaf (.node none .leaf (.node (some { frz:=[0,5],own:=[(3,14,3,1)],cel:=[],fzs:=[],tmps:=[0,3,5],sites:=[14] }) .leaf .leaf))) .leaf) .leaf)) .leaf))))) 78 (some (.node none .leaf (.node none .leaf (.node none (.node none .leaf (.node none (.node (some { frz:=[9],own:=[],cel:=[],fzs:=[],tmps:=[5,9],sites:=[5] }) (.node (some { frz:=[],own:=[],cel:=[],fzs:=[],tmps:=[],sites:=[5,1000001] }) .leaf .leaf) .leaf) .leaf)) .leaf))))) 80 (some (.node none .leaf (.node none (.node (some { frz:=[25],own:=[],cel:=[],fzs:=[],tmps:=[1,25],sites:=[1] }) .leaf .leaf) (.node none (.node (some { frz:=[35],own:=[],cel:=[],fzs:=[],tmps:=[1,35],sites:=[1] }) .leaf .leaf) (.node none (.node none .leaf (.node none (.node (some { frz:=[3],own:=[],cel:=[],fzs:=[],tmps:=[1,3],sites:=[1] }) .leaf .leaf) .leaf)) (.node none (.node none .leaf (.node none (.node (some { frz:=[4],own:=[],cel:=[],fzs:=[],tmps:=[1,4],sites:=[1] }) (.node none .leaf (.node none (.node none (.node none .leaf (.node (some { frz:=[4,92],own:=[],cel:=[],fzs:=[],tmps:=[1,4,92],sites:=[1] }) .leaf .leaf)) .leaf) .leaf)) .leaf) .leaf)) (.node none (.node none .leaf (.node none (.node (some { frz:=[6],own:=[],cel:=[],fzs:=[],tmps:=[1,6],sites:=[1] }) (.node none .leaf (.node none (.node none (.node none .leaf (.node none (.node (some { frz:=[6,129],own:=[],cel:=[],fzs:=[],tmps:=[1,6,7,129],sites:=[1,7] }) .leaf .leaf) (.node none .leaf (.node none (.node (some { frz:=[6,8],own:=[],cel:=[],fzs:=[],tmps:=[1,6,7,8],sites:=[1,7] }) (.node none .leaf (.node none (.node none (.node none .leaf (.node (some { frz:=[6,8,156],own:=[],cel:=[],fzs:=[],tmps:=[1,6,7,8,156],sites:=[1,7] }) .leaf .leaf)) .leaf) .leaf)) .leaf) .leaf)))) .leaf) .leaf)) .leaf) .leaf)) .leaf)))))))) 81 (some (.node none .leaf (.node none (.node none .leaf (.node none (.node (some { frz:=[1,5],own:=[],cel:=[],fzs:=[],tmps:=[1,2,5],sites:=[2] }) (.node none .leaf (.node none (.node none (.node (some { frz:=[1,5,38],own:=[],cel:=[],fzs:=[],tmps:=[1,2,5,38],sites:=[2] }) .leaf .leaf) .leaf) .leaf)) .leaf) .leaf)) .leaf)))) 90 (some (.node none .leaf (.node none (.node none .leaf (.node none (.node (some { frz:=[0,7,8,9],own:=[],cel:=[],fzs:=[],tmps:=[0,7,8,9],sites:=[] }) .leaf .leaf) .leaf)) .leaf)))) 95 (some (.node none .leaf (.node none (.node none (.node (some { frz:=[3],own:=[],cel:=[],fzs:=[],tmps:=[1,3],sites:=[1] }) .leaf (.node none .leaf (.node (some { frz:=[16],own:=[],cel:=[],fzs:=[],tmps:=[1,16],sites:=[1] }) .leaf (.node none .leaf (.node (some { frz:=[25],own:=[],cel:=[],fzs:=[],tmps:=[25],sites:=[] }) .leaf .leaf))))) .leaf) .leaf)))) 96 (some (.node none .leaf (.node none (.node none .leaf (.node none (.node (some { frz:=[0,3],own:=[],cel:=[],fzs:=[],tmps:=[0,3],sites:=[] }) .leaf .leaf) .leaf)) .leaf)))) 106 (some (.node none .leaf (.node none (.node none .leaf (.node none (.node (some { frz:=[1,7,8,9],own:=[],cel:=[],fzs:=[],tmps:=[1,7,8,9],sites:=[] }) .leaf .leaf) .leaf)) .leaf)))) 108 (some (.node none .leaf (.node none (.node none .leaf (.node none (.node (some { frz:=[1,7,8,9],own:=[],cel:=[],fzs:=[],tmps:=[1,7,8,9],sites:=[] }) .leaf .leaf) .leaf)) .leaf)))) 109 (some (.node none .leaf (.node none .leaf (.node none (.node none .leaf (.node none (.node (some { frz:=[5,9,10,11],own:=[],cel:=[],fzs:=[],tmps:=[2,3,5,9,10,11],sites:=[2,3] }) (.node none .leaf (.node none .leaf (.node (some { frz:=[5,9,10,11],own:=[],cel:=[],fzs:=[],tmps:=[2,3,5,9,10,11],sites:=[2,3] }) (.node none (.node none .leaf (.node (some { frz:=[5,9,10,11,26],own:=[],cel:=[],fzs:=[],tmps:=[2,3,5,9,10,11,26],sites:=[2,3] }) .leaf .leaf)) .leaf) .leaf))) .leaf) .leaf)) .leaf))))) 110 (some (.node none .leaf (.node none (.node none .leaf (.node none (.node (some { frz:=[1,7,8,9],own:=[],cel:=[],fzs:=[],tmps:=[1,7,8,9],sites:=[] }) .leaf .leaf) .leaf)) .leaf)))) 112 (some (.node none .leaf (.node none (.node (some { frz:=[1,2,10,11],own:=[],cel:=[],fzs:=[],tmps:=[0,1,2,10,11],sites:=[] }) (.node none .leaf (.node none .leaf (.node none (.node none (.node none .leaf (.node (some { frz:=[1,2,10,11,27],own:=[],cel:=[],fzs:=[],tmps:=[0,1,2,10,11,27],sites:=[] }) .leaf .leaf)) .leaf) .leaf))) .leaf) .leaf)))
noncomputable def LA (f:FuncId):LvA:=match lvTabA.get f with
  | some l=>l
  | none=>.leaf
noncomputable def recF {α:Type} (C:Nat→α→α) (z:α) (m:Nat):α:=Nat.rec (motive:=fun _=>α) (C 0 z) (fun m ih=>C (m+1) ih) m
theorem recS {α:Type} {T R:Nat→α} {z:α} {C:Nat→α→α} (h:∀ m,T m=C m (R m)) (h0:R 0=z) (hs:∀ m,R (m+1)=T m):∀ m,T m=recF C z m
  | 0=>by rw[h,h0]; rfl
  | m+1=>by rw[h,hs,recS h h0 hs m]; rfl
theorem bqA {pc : PC} {rk : RK} {k f : Nat} {ds : List D} (fn : Func) (c : Code) (rs : List ResultVar) (h : (P.funcs[f]?, fn.body, (fn.name == "runtime.NumGoroutine" || fn.ntmps < ds.length), fn.results.toList) = (some fn, some c, false, rs)) :
    bodyY P pc noY rk LA (k+1) f ds=codeA P pc noY rk (codeFA P pc noY rk f k) f c (LA f) (doneA P rs) X0A (doneA P rs) (argsA .nil 0 ds) .nil:=by
  simp only[Prod.mk.injEq] at h
  exact body_eqA h.1 h.2.1 h.2.2.1 h.2.2.2
theorem bqY {pc : PC} {k f : Nat} {ds : List D} (fn : Func) (c : Code) (rs : List ResultVar) (h : (P.funcs[f]?, fn.body, (fn.name == "runtime.NumGoroutine" || fn.ntmps < ds.length), fn.results.toList) = (some fn, some c, false, rs)) :
    bodyY P pc nodeY noR LA (k+1) f ds=codeA P pc nodeY noR (codeFA P pc nodeY noR f k) f c (LA f) (doneA P rs) X0A (doneA P rs) (argsA .nil 0 ds) .nil:=by
  simp only[Prod.mk.injEq] at h
  exact body_eqY h.1 h.2.1 h.2.2.1 h.2.2.2
variable (pc:PC) (rk:RK) (k:Nat)
noncomputable def code12:Code:=codeOf 12
noncomputable def results12:List ResultVar:=resOf 12
noncomputable def K12_pr:KA:=(cutKA (LvA.b (LA 12)).c (codeA P pc noY rk (codeFA P pc noY rk 12 k) 12 (cR (cR code12)) (LvA.b (LvA.b (LA 12))) (doneA P results12) X0A (doneA P results12)))
noncomputable def K12_prrrr:KA:=(cutKA (LvA.b (LvA.b (LvA.b (LvA.b (LA 12))))).c (codeA P pc noY rk (codeFA P pc noY rk 12 k) 12 (cR (cR (cR (cR (cR code12))))) (LvA.b (LvA.b (LvA.b (LvA.b (LvA.b (LA 12)))))) (doneA P results12) X0A (doneA P results12)))
noncomputable def K12_prrrrrr:KA:=(cutKA (LvA.b (LvA.b (LvA.b (LvA.b (LvA.b (LvA.b (LA 12))))))).c (codeA P pc noY rk (codeFA P pc noY rk 12 k) 12 (cR (cR (cR (cR (cR (cR (cR code12))))))) (LvA.b (LvA.b (LvA.b (LvA.b (LvA.b (LvA.b (LvA.b (LA 12)))))))) (doneA P results12) X0A (doneA P results12)))
noncomputable def K12_pxrrrrrrlr:(Nat→KA):=(upA 0 (K12_prrrrrr pc rk k) X0A)
noncomputable def K12_prrrrrrlrl (m1:Nat):KA:=(cutKA (LvA.a (LvA.b (LvA.a (LvA.b (LvA.b (LvA.b (LvA.b (LvA.b (LvA.b (LA 12)))))))))).c (codeFA P pc noY rk 12 m1 (LvA.a (LvA.b (LvA.a (LvA.b (LvA.b (LvA.b (LvA.b (LvA.b (LvA.b (LA 12)))))))))) (cL (cR (cL (cR (cR (cR (cR (cR (cR code12))))))))) (K12_prrrrrr pc rk k) (K12_pxrrrrrrlr pc rk k) (doneA P results12)))
noncomputable def K12_prrrrrrr:KA:=(cutKA (LvA.b (LvA.b (LvA.b (LvA.b (LvA.b (LvA.b (LvA.b (LA 12)))))))).c (codeA P pc noY rk (codeFA P pc noY rk 12 k) 12 (cR (cR (cR (cR (cR (cR (cR (cR code12)))))))) (LvA.b (LvA.b (LvA.b (LvA.b (LvA.b (LvA.b (LvA.b (LvA.b (LA 12))))))))) (doneA P results12) X0A (doneA P results12)))
noncomputable def K12_pxrrrrrrrlr:(Nat→KA):=(upA 2 (K12_prrrrrrr pc rk k) X0A)
noncomputable def K12_prrrrrrrlrl (m1:Nat):KA:=(cutKA (LvA.a (LvA.b (LvA.a (LvA.b (LvA.b (LvA.b (LvA.b (LvA.b (LvA.b (LvA.b (LA 12))))))))))).c (codeFA P pc noY rk 12 m1 (LvA.a (LvA.b (LvA.a (LvA.b (LvA.b (LvA.b (LvA.b (LvA.b (LvA.b (LvA.b (LA 12))))))))))) (cL (cR (cL (cR (cR (cR (cR (cR (cR (cR code12)))))))))) (K12_prrrrrrr pc rk k) (K12_pxrrrrrrrlr pc rk k) (doneA P results12)))
noncomputable def K12_prrrrrrrlrllr (m1:Nat):KA:=(cutKA (LvA.b (LvA.a (LvA.a (LvA.b (LvA.a (LvA.b (LvA.b (LvA.b (LvA.b (LvA.b (LvA.b (LvA.b (LA 12))))))))))))).c (codeA P pc noY rk (codeFA P pc noY rk 12 m1) 12 (cR (cR (cL (cL (cR (cL (cR (cR (cR (cR (cR (cR (cR code12))))))))))))) (LvA.b (LvA.b (LvA.a (LvA.a (LvA.b (LvA.a (LvA.b (LvA.b (LvA.b (LvA.b (LvA.b (LvA.b (LvA.b (LA 12)))))))))))))) (K12_prrrrrrrlrl pc rk k m1) (K12_pxrrrrrrrlr pc rk k) (doneA P results12)))
noncomputable def K12_pxrrrrrrrlrllrl (m1:Nat):(Nat→KA):=(upA 3 (K12_prrrrrrrlrllr pc rk k m1) (K12_pxrrrrrrrlr pc rk k))
noncomputable def K12_pxrrrrrrrlrllrllr (m1:Nat):(Nat→KA):=(upA 4 (K12_prrrrrrrlrllr pc rk k m1) (K12_pxrrrrrrrlrllrl pc rk k m1))
noncomputable def K12_prrrrrrrlrllrllrl (m1:Nat) (m2:Nat):KA:=(cutKA (LvA.a (LvA.b (LvA.a (LvA.a (LvA.b (LvA.a (LvA.a (LvA.b (LvA.a (LvA.b (LvA.b (LvA.b (LvA.b (LvA.b (LvA.b (LvA.b (LA 12))))))))))))))))).c (codeFA P pc noY rk 12 m2 (LvA.a (LvA.b (LvA.a (LvA.a (LvA.b (LvA.a (LvA.a (LvA.b (LvA.a (LvA.b (LvA.b (LvA.b (LvA.b (LvA.b (LvA.b (LvA.b (LA 12))))))))))))))))) (cL (cR (cL (cL (cR (cL (cL (cR (cL (cR (cR (cR (cR (cR (cR (cR code12)))))))))))))))) (K12_prrrrrrrlrllr pc rk k m1) (K12_pxrrrrrrrlrllrllr pc rk k m1) (doneA P results12)))
noncomputable def K12_prrrrrrrr:KA:=(cutKA (LvA.b (LvA.b (LvA.b (LvA.b (LvA.b (LvA.b (LvA.b (LvA.b (LA 12))))))))).c (codeA P pc noY rk (codeFA P pc noY rk 12 k) 12 (cR (cR (cR (cR (cR (cR (cR (cR (cR code12))))))))) (LvA.b (LvA.b (LvA.b (LvA.b (LvA.b (LvA.b (LvA.b (LvA.b (LvA.b (LA 12)))))))))) (doneA P results12) X0A (doneA P results12)))
noncomputable def K12_pxrrrrrrrrlr:(Nat→KA):=(upA 6 (K12_prrrrrrrr pc rk k) X0A)
noncomputable def K12_prrrrrrrrlrl (m1:Nat):KA:=(cutKA (LvA.a (LvA.b (LvA.a (LvA.b (LvA.b (LvA.b (LvA.b (LvA.b (LvA.b (LvA.b (LvA.b (LA 12)))))))))))).c (codeFA P pc noY rk 12 m1 (LvA.a (LvA.b (LvA.a (LvA.b (LvA.b (LvA.b (LvA.b (LvA.b (LvA.b (LvA.b (LvA.b (LA 12)))))))))))) (cL (cR (cL (cR (cR (cR (cR (cR (cR (cR (cR code12))))))))))) (K12_prrrrrrrr pc rk k) (K12_pxrrrrrrrrlr pc rk k) (doneA P results12)))
noncomputable def T12_4 (m1:Nat):=fun(u5:D) (u6:D) (u9:D) (c2:List D) (c8:List D)=>labA (codeA P pc noY rk (codeFA P pc noY rk 12 m1) 12 (cR (cR (cL (cL (cR (cL (cR (cR (cR (cR (cR (cR code12)))))))))))) (LvA.b (LvA.b (LvA.a (LvA.a (LvA.b (LvA.a (LvA.b (LvA.b (LvA.b (LvA.b (LvA.b (LvA.b (LA 12))))))))))))) (K12_prrrrrrlrl pc rk k m1) (K12_pxrrrrrrlr pc rk k) (doneA P results12)) (Tr.set (Tr.set (Tr.set (Tr.set (Tr.set Tr.nil 9 (some (AV.d u9))) 8 (some (AV.loc 8 0))) 6 (some (AV.d u6))) 5 (some (AV.d u5))) 2 (some (AV.loc 2 0))) (Tr.set (Tr.set Tr.nil 8 (some (Bx.dat c8 false))) 2 (some (Bx.dat c2 false)))
noncomputable def T12_6 (m1:Nat) (m2:Nat):=fun(u5:D) (u6:D) (u10:D) (u11:D) (c2:List D) (c8:List D)=>labA (codeA P pc noY rk (codeFA P pc noY rk 12 m2) 12 (cL (cL (cR (cL (cL (cR (cL (cL (cR (cL (cR (cR (cR (cR (cR (cR (cR code12))))))))))))))))) (LvA.a (LvA.a (LvA.b (LvA.a (LvA.a (LvA.b (LvA.a (LvA.a (LvA.b (LvA.a (LvA.b (LvA.b (LvA.b (LvA.b (LvA.b (LvA.b (LvA.b (LA 12)))))))))))))))))) (K12_prrrrrrrlrllrllrl pc rk k m1 m2) (K12_pxrrrrrrrlrllrllr pc rk k m1) (doneA P results12)) (Tr.set (Tr.set (Tr.set (Tr.set (Tr.set (Tr.set Tr.nil 11 (some (AV.d u11))) 10 (some (AV.d u10))) 8 (some (AV.loc 8 0))) 6 (some (AV.d u6))) 5 (some (AV.d u5))) 2 (some (AV.loc 2 0))) (Tr.set (Tr.set Tr.nil 8 (some (Bx.dat c8 false))) 2 (some (Bx.dat c2 false)))
noncomputable def R12_6 (m1:Nat) (m2:Nat):(D→D→D→D→List D→List D→Option D):=fun u5 u6 u10 u11 c2 c8=>labA (codeFA P pc noY rk 12 m2 (LvA.a (LvA.b (LvA.a (LvA.a (LvA.b (LvA.a (LvA.a (LvA.b (LvA.a (LvA.b (LvA.b (LvA.b (LvA.b (LvA.b (LvA.b (LvA.b (LA 12))))))))))))))))) (cL (cR (cL (cL (cR (cL (cL (cR (cL (cR (cR (cR (cR (cR (cR (cR code12)))))))))))))))) (K12_prrrrrrrlrllr pc rk k m1) (K12_pxrrrrrrrlrllrllr pc rk k m1) (doneA P results12)) (Tr.set (Tr.set (Tr.set (Tr.set (Tr.set (Tr.set Tr.nil 11 (some (AV.d u11))) 10 (some (AV.d u10))) 8 (some (AV.loc 8 0))) 6 (some (AV.d u6))) 5 (some (AV.d u5))) 2 (some (AV.loc 2 0))) (Tr.set (Tr.set Tr.nil 8 (some (Bx.dat c8 false))) 2 (some (Bx.dat c2 false)))
noncomputable def T12_7 (m1:Nat):=fun(u5:D) (u6:D) (u13:D) (c2:List D) (c8:List D)=>labA (codeA P pc noY rk (codeFA P pc noY rk 12 m1) 12 (cL (cL (cR (cL (cR (cR (cR (cR (cR (cR (cR (cR code12)))))))))))) (LvA.a (LvA.a (LvA.b (LvA.a (LvA.b (LvA.b (LvA.b (LvA.b (LvA.b (LvA.b (LvA.b (LvA.b (LA 12))))))))))))) (K12_prrrrrrrrlrl pc rk k m1) (K12_pxrrrrrrrrlr pc rk k) (doneA P results12)) (Tr.set (Tr.set (Tr.set (Tr.set (Tr.set Tr.nil 13 (some (AV.d u13))) 8 (some (AV.loc 8 0))) 6 (some (AV.d u6))) 5 (some (AV.d u5))) 2 (some (AV.loc 2 0))) (Tr.set (Tr.set Tr.nil 8 (some (Bx.dat c8 false))) 2 (some (Bx.dat c2 false)))
noncomputable def R12_7 (m1:Nat):(D→D→D→List D→List D→Option D):=fun u5 u6 u13 c2 c8=>labA (codeFA P pc noY rk 12 m1 (LvA.a (LvA.b (LvA.a (LvA.b (LvA.b (LvA.b (LvA.b (LvA.b (LvA.b (LvA.b (LvA.b (LA 12)))))))))))) (cL (cR (cL (cR (cR (cR (cR (cR (cR (cR (cR code12))))))))))) (K12_prrrrrrrr pc rk k) (K12_pxrrrrrrrrlr pc rk k) (doneA P results12)) (Tr.set (Tr.set (Tr.set (Tr.set (Tr.set Tr.nil 13 (some (AV.d u13))) 8 (some (AV.loc 8 0))) 6 (some (AV.d u6))) 5 (some (AV.d u5))) 2 (some (AV.loc 2 0))) (Tr.set (Tr.set Tr.nil 8 (some (Bx.dat c8 false))) 2 (some (Bx.dat c2 false)))
noncomputable def T12_5 (m1:Nat):=fun(u5:D) (u6:D) (u10:D) (c2:List D) (c8:List D)=>labA (codeA P pc noY rk (codeFA P pc noY rk 12 m1) 12 (cL (cL (cR (cL (cR (cR (cR (cR (cR (cR (cR code12))))))))))) (LvA.a (LvA.a (LvA.b (LvA.a (LvA.b (LvA.b (LvA.b (LvA.b (LvA.b (LvA.b (LvA.b (LA 12)))))))))))) (K12_prrrrrrrlrl pc rk k m1) (K12_pxrrrrrrrlr pc rk k) (doneA P results12)) (Tr.set (Tr.set (Tr.set (Tr.set (Tr.set Tr.nil 10 (some (AV.d u10))) 8 (some (AV.loc 8 0))) 6 (some (AV.d u6))) 5 (some (AV.d u5))) 2 (some (AV.loc 2 0))) (Tr.set (Tr.set Tr.nil 8 (some (Bx.dat c8 false))) 2 (some (Bx.dat c2 false)))
noncomputable def R12_5 (m1:Nat):(D→D→D→List D→List D→Option D):=fun u5 u6 u10 c2 c8=>labA (codeFA P pc noY rk 12 m1 (LvA.a (LvA.b (LvA.a (LvA.b (LvA.b (LvA.b (LvA.b (LvA.b (LvA.b (LvA.b (LA 12))))))))))) (cL (cR (cL (cR (cR (cR (cR (cR (cR (cR code12)))))))))) (K12_prrrrrrr pc rk k) (K12_pxrrrrrrrlr pc rk k) (doneA P results12)) (Tr.set (Tr.set (Tr.set (Tr.set (Tr.set Tr.nil 10 (some (AV.d u10))) 8 (some (AV.loc 8 0))) 6 (some (AV.d u6))) 5 (some (AV.d u5))) 2 (some (AV.loc 2 0))) (Tr.set (Tr.set Tr.nil 8 (some (Bx.dat c8 false))) 2 (some (Bx.dat c2 false)))
noncomputable def T12_3 (m1:Nat):=fun(u5:D) (u6:D) (u9:D) (c2:List D) (c8:List D)=>labA (codeA P pc noY rk (codeFA P pc noY rk 12 m1) 12 (cL (cL (cR (cL (cR (cR (cR (cR (cR (cR code12)))))))))) (LvA.a (LvA.a (LvA.b (LvA.a (LvA.b (LvA.b (LvA.b (LvA.b (LvA.b (LvA.b (LA 12))))))))))) (K12_prrrrrrlrl pc rk k m1) (K12_pxrrrrrrlr pc rk k) (doneA P results12)) (Tr.set (Tr.set (Tr.set (Tr.set (Tr.set Tr.nil 9 (some (AV.d u9))) 8 (some (AV.loc 8 0))) 6 (some (AV.d u6))) 5 (some (AV.d u5))) 2 (some (AV.loc 2 0))) (Tr.set (Tr.set Tr.nil 8 (some (Bx.dat c8 false))) 2 (some (Bx.dat c2 false)))
noncomputable def R12_3 (m1:Nat):(D→D→D→List D→List D→Option D):=fun u5 u6 u9 c2 c8=>labA (codeFA P pc noY rk 12 m1 (LvA.a (LvA.b (LvA.a (LvA.b (LvA.b (LvA.b (LvA.b (LvA.b (LvA.b (LA 12)))))))))) (cL (cR (cL (cR (cR (cR (cR (cR (cR code12))))))))) (K12_prrrrrr pc rk k) (K12_pxrrrrrrlr pc rk k) (doneA P results12)) (Tr.set (Tr.set (Tr.set (Tr.set (Tr.set Tr.nil 9 (some (AV.d u9))) 8 (some (AV.loc 8 0))) 6 (some (AV.d u6))) 5 (some (AV.d u5))) 2 (some (AV.loc 2 0))) (Tr.set (Tr.set Tr.nil 8 (some (Bx.dat c8 false))) 2 (some (Bx.dat c2 false)))
noncomputable def T12_2:=fun(u5:D) (u6:D) (u42:D) (c2:List D)=>labA (codeA P pc noY rk (codeFA P pc noY rk 12 k) 12 (cR (cL (cR (cR (cR (cR code12)))))) (LvA.b (LvA.a (LvA.b (LvA.b (LvA.b (LvA.b (LA 12))))))) (K12_prrrr pc rk k) X0A (doneA P results12)) (Tr.set (Tr.set (Tr.set (Tr.set Tr.nil 42 (some (AV.d u42))) 6 (some (AV.d u6))) 5 (some (AV.d u5))) 2 (some (AV.loc 2 0))) (Tr.set Tr.nil 2 (some (Bx.dat c2 false)))
noncomputable def T12_1:=fun(u1:D) (u21:D) (c2:List D)=>labA (codeA P pc noY rk (codeFA P pc noY rk 12 k) 12 (cR (cL (cR code12))) (LvA.b (LvA.a (LvA.b (LA 12)))) (K12_pr pc rk k) X0A (doneA P results12)) (Tr.set (Tr.set (Tr.set Tr.nil 21 (some (AV.d u21))) 2 (some (AV.loc 2 0))) 1 (some (AV.d u1))) (Tr.set Tr.nil 2 (some (Bx.dat c2 false)))
noncomputable def B12_4 (pc:PC) (k:Nat) (m1:Nat) (b3:(D→D→D→List D→List D→Option D)) (u5:D) (u6:D) (u9:D) (c2:List D) (c8:List D):Option D:=
bindO (binD P BinOp.add 3 (Operand.tmp 45) (Operand.const (Value.int IntKind.i64 1)) u9 (D.v (Value.int IntKind.i64 1))) fun d_l=>
b3 u5 u6 d_l c2 c8
noncomputable def C12_4 (m1:Nat):=B12_4 pc k m1
theorem h12_4 (m1:Nat):T12_4 pc rk k m1=C12_4 pc k m1 (R12_3 pc rk k m1):=by kernel_rfl
noncomputable def B12_6 (pc:PC) (k:Nat) (m1:Nat) (m2:Nat) (b5:(D→D→D→List D→List D→Option D)) (b6:(D→D→D→D→List D→List D→Option D)) (u5:D) (u6:D) (u10:D) (u11:D) (c2:List D) (c8:List D):Option D:=
bindO (c2[1]?) fun d_n=>
bindO (elsD d_n) fun l_o=>
bindO (binD P BinOp.lss 3 (Operand.tmp 59) (Operand.tmp 63) u11 (lenD l_o)) fun d_p=>
ifU d_p (
bindO (c2[1]?) fun d_q=>
bindO (elsD d_q) fun l_r=>
bindO (idxD u11 l_r.length) fun i_s=>
bindO (l_r[i_s]?) fun d_t=>
bindO (aggD d_t) fun c_u=>
chkK (Nat.beq c_u.length 2) (
bindO (cutD c_u 0 2) fun c_v=>
bindO (splD [(D.v (Value.int IntKind.i64 0)),(D.v (Value.int IntKind.i64 0))] 0 c_v 2) fun c_w=>
bindO (c_w[0]?) fun d_x=>
bindO (c_w[1]?) fun d_y=>
bindO (c_w[0]?) fun d_z=>
bindO (idxD d_z 8) fun i_10=>
bindO (c8[(0+i_10 * 1)]?) fun d_11=>
bindO (c_w[1]?) fun d_12=>
bindO (idxD d_12 8) fun i_13=>
bindO (c8[(0+i_13 * 1)]?) fun d_14=>
bindO (binD P BinOp.add 3 (Operand.tmp 84) (Operand.const (Value.int IntKind.i64 1)) d_14 (D.v (Value.int IntKind.i64 1))) fun d_15=>
bindO (mmD P .min [3,3] (Call.mk (Callee.builtin Builtin.min) #[(Operand.tmp 80),(Operand.tmp 85)] #[3,3]) 3 [d_11,d_15]) fun d_16=>
bindO (c_w[1]?) fun d_17=>
bindO (idxD d_17 8) fun i_18=>
bindO (c8[(0+i_18 * 1)]?) fun d_19=>
bindO (c_w[0]?) fun d_1a=>
bindO (idxD d_1a 8) fun i_1b=>
bindO (c8[(0+i_1b * 1)]?) fun d_1c=>
bindO (binD P BinOp.add 3 (Operand.tmp 94) (Operand.const (Value.int IntKind.i64 1)) d_1c (D.v (Value.int IntKind.i64 1))) fun d_1d=>
bindO (mmD P .min [3,3] (Call.mk (Callee.builtin Builtin.min) #[(Operand.tmp 90),(Operand.tmp 95)] #[3,3]) 3 [d_19,d_1d]) fun d_1e=>
bindO (idxD d_x 8) fun i_1f=>
chkK (leafD d_16) (
chkK (Nat.blt (0+i_1f * 1) c8.length) (
bindO (idxD d_y 8) fun i_1g=>
chkK (leafD d_1e) (
chkK (Nat.blt (0+i_1g * 1) (List.set c8 (0+i_1f * 1) d_16).length) (
bindO (binD P BinOp.add 3 (Operand.tmp 65) (Operand.const (Value.int IntKind.i64 1)) u11 (D.v (Value.int IntKind.i64 1))) fun d_1h=>
b6 u5 u6 u10 d_1h c2 (List.set (List.set c8 (0+i_1f * 1) d_16) (0+i_1g * 1) d_1e))))))) (
bindO (binD P BinOp.add 3 (Operand.tmp 57) (Operand.const (Value.int IntKind.i64 1)) u10 (D.v (Value.int IntKind.i64 1))) fun d_1i=>
b5 u5 u6 d_1i c2 c8)
noncomputable def C12_6 (m1:Nat):=B12_6 pc k m1
noncomputable def S12_6 (m1:Nat) (b5:(D→D→D→List D→List D→Option D)):Nat→(D→D→D→D→List D→List D→Option D):=fun m=>Nat.rec (motive:=fun _=>(D→D→D→D→List D→List D→Option D)) (C12_6 pc k m1 0 b5 (fun _ _ _ _ _ _=>none)) (fun m ih=>C12_6 pc k m1 (m+1) b5 ih) m
theorem h12_6 (m1:Nat) (m2:Nat):T12_6 pc rk k m1 m2=C12_6 pc k m1 m2 (R12_5 pc rk k m1) (R12_6 pc rk k m1 m2):=by kernel_rfl
theorem q12_6 (m1:Nat) (m:Nat):T12_6 pc rk k m1 m=S12_6 pc k m1 (R12_5 pc rk k m1) m:=recS (h12_6 pc rk k m1) (by kernel_rfl) (fun m=>by kernel_rfl) m
noncomputable def B12_7 (pc:PC) (k:Nat) (m1:Nat) (b7:(D→D→D→List D→List D→Option D)) (u5:D) (u6:D) (u13:D) (c2:List D) (c8:List D):Option D:=
bindO (c2[0]?) fun d_1j=>
bindO (elsD d_1j) fun l_1k=>
bindO (binD P BinOp.lss 3 (Operand.tmp 99) (Operand.tmp 103) u13 (lenD l_1k)) fun d_1l=>
ifU d_1l (
bindO (elsD u6) fun l_1m=>
bindO (idxD u5 l_1m.length) fun i_1n=>
bindO (l_1m[i_1n]?) fun d_1o=>
chkK (leafD d_1o) (
bindO (idxD u13 8) fun i_1p=>
bindO (c8[(0+i_1p * 1)]?) fun d_1q=>
bindO (binD P BinOp.leq 3 (Operand.tmp 115) (Operand.tmp 116) d_1q u5) fun d_1r=>
bindO (pcD P pc 32 [d_1o,u13]) fun d_1s=>
bindO (binD P BinOp.neq 4 (Operand.tmp 112) (Operand.tmp 117) d_1s d_1r) fun d_1t=>
ifU d_1t (
some (D.v (Value.bool false))) (
bindO (binD P BinOp.add 3 (Operand.tmp 105) (Operand.const (Value.int IntKind.i64 1)) u13 (D.v (Value.int IntKind.i64 1))) fun d_1u=>
b7 u5 u6 d_1u c2 c8))) (
bindO (pcD P pc 14 []) fun d_1v=>
some d_1v)
noncomputable def C12_7 (m1:Nat):=B12_7 pc k m1
noncomputable def S12_7:Nat→(D→D→D→List D→List D→Option D):=recF (C12_7 pc k) (fun _ _ _ _ _=>none)
theorem h12_7 (m1:Nat):T12_7 pc rk k m1=C12_7 pc k m1 (R12_7 pc rk k m1):=by kernel_rfl
theorem q12_7 (m:Nat):T12_7 pc rk k m=S12_7 pc k m:=recS (h12_7 pc rk k) (by kernel_rfl) (fun m=>by kernel_rfl) m
noncomputable def B12_5 (pc:PC) (k:Nat) (m1:Nat) (j6:(D→D→D→D→List D→List D→Option D)) (j7:(D→D→D→List D→List D→Option D)) (b5:(D→D→D→List D→List D→Option D)) (u5:D) (u6:D) (u10:D) (c2:List D) (c8:List D):Option D:=
bindO (binD P BinOp.lss 3 (Operand.tmp 55) (Operand.const (Value.int IntKind.i64 8)) u10 (D.v (Value.int IntKind.i64 8))) fun d_m=>
ifU d_m (
j6 u5 u6 u10 (D.v (Value.int IntKind.i64 0)) c2 c8) (
j7 u5 u6 (D.v (Value.int IntKind.i64 0)) c2 c8)
noncomputable def C12_5 (m1:Nat) (b5:(D→D→D→List D→List D→Option D)):=B12_5 pc k m1 (S12_6 pc k m1 b5 m1) (S12_7 pc k k) b5
noncomputable def S12_5:Nat→(D→D→D→List D→List D→Option D):=recF (C12_5 pc k) (fun _ _ _ _ _=>none)
theorem h12_5 (m1:Nat):T12_5 pc rk k m1=C12_5 pc k m1 (R12_5 pc rk k m1):=Eq.trans (b:=B12_5 pc k m1 (T12_6 pc rk k m1 m1) (T12_7 pc rk k k) (R12_5 pc rk k m1)) (by kernel_rfl) (by rw[q12_6,q12_7]; rfl)
theorem q12_5 (m:Nat):T12_5 pc rk k m=S12_5 pc k m:=recS (h12_5 pc rk k) (by kernel_rfl) (fun m=>by kernel_rfl) m
noncomputable def B12_3 (pc:PC) (k:Nat) (m1:Nat) (j4:(D→D→D→List D→List D→Option D)) (j5:(D→D→D→List D→List D→Option D)) (b3:(D→D→D→List D→List D→Option D)) (u5:D) (u6:D) (u9:D) (c2:List D) (c8:List D):Option D:=
bindO (binD P BinOp.lss 3 (Operand.tmp 43) (Operand.const (Value.int IntKind.i64 8)) u9 (D.v (Value.int IntKind.i64 8))) fun d_g=>
ifU d_g (
bindO (idxD u9 8) fun i_h=>
chkK (Nat.blt (0+i_h * 1) c8.length) (
bindO (c2[3]?) fun d_i=>
bindO (pcD P pc 32 [d_i,u9]) fun d_j=>
ifU d_j (
bindO (idxD u9 8) fun i_k=>
chkK (Nat.blt (0+i_k * 1) (List.set c8 (0+i_h * 1) (D.v (Value.int IntKind.i64 99))).length) (
j4 u5 u6 u9 c2 (List.set (List.set c8 (0+i_h * 1) (D.v (Value.int IntKind.i64 99))) (0+i_k * 1) (D.v (Value.int IntKind.i64 0))))) (
j4 u5 u6 u9 c2 (List.set c8 (0+i_h * 1) (D.v (Value.int IntKind.i64 99)))))) (
j5 u5 u6 (D.v (Value.int IntKind.i64 0)) c2 c8)
noncomputable def C12_3 (m1:Nat) (b3:(D→D→D→List D→List D→Option D)):=B12_3 pc k m1 (C12_4 pc k m1 b3) (S12_5 pc k k) b3
noncomputable def S12_3:Nat→(D→D→D→List D→List D→Option D):=recF (C12_3 pc k) (fun _ _ _ _ _=>none)
theorem h12_3 (m1:Nat):T12_3 pc rk k m1=C12_3 pc k m1 (R12_3 pc rk k m1):=Eq.trans (b:=B12_3 pc k m1 (T12_4 pc rk k m1) (T12_5 pc rk k k) (R12_3 pc rk k m1)) (by kernel_rfl) (by rw[h12_4,q12_5]; rfl)
theorem q12_3 (m:Nat):T12_3 pc rk k m=S12_3 pc k m:=recS (h12_3 pc rk k) (by kernel_rfl) (fun m=>by kernel_rfl) m
noncomputable def B12_2 (pc:PC) (k:Nat) (j3:(D→D→D→List D→List D→Option D)) (u5:D) (u6:D) (u42:D) (c2:List D):Option D:=
ifU u42 (
some (D.v (Value.bool false))) (
j3 u5 u6 (D.v (Value.int IntKind.i64 0)) c2 [(D.v (Value.int IntKind.i64 0)),(D.v (Value.int IntKind.i64 0)),(D.v (Value.int IntKind.i64 0)),(D.v (Value.int IntKind.i64 0)),(D.v (Value.int IntKind.i64 0)),(D.v (Value.int IntKind.i64 0)),(D.v (Value.int IntKind.i64 0)),(D.v (Value.int IntKind.i64 0))])
noncomputable def C12_2:=B12_2 pc k (S12_3 pc k k)
theorem h12_2:T12_2 pc rk k=C12_2 pc k:=Eq.trans (b:=B12_2 pc k (T12_3 pc rk k k)) (by kernel_rfl) (by rw[q12_3]; rfl)
noncomputable def B12_1 (pc:PC) (k:Nat) (j2:(D→D→D→List D→Option D)) (u1:D) (u21:D) (c2:List D):Option D:=
ifU u21 (
bindO (pcD P pc 14 []) fun d_5=>
some d_5) (
bindO (semD P u1 (convert 5 3)) fun d_6=>
bindO (binD P BinOp.rem 3 (Operand.tmp 24) (Operand.const (Value.int IntKind.i64 11)) d_6 (D.v (Value.int IntKind.i64 11))) fun d_7=>
bindO (cutD c2 0 5) fun c_8=>
bindO (natD d_7) fun i_9=>
bindO (natD d_7) fun i_a=>
chkK (Nat.ble i_9 i_a && Nat.blt i_a 1048576) (
bindO (pcD P pc 16 [(D.agg c_8)]) fun d_b=>
bindO (pcD P pc 17 [d_b,(D.sl (List.replicate i_9 (D.v (Value.slice none 0 0))))]) fun d_c=>
bindO (tupD d_c 0) fun d_d=>
bindO (tupD d_c 1) fun d_e=>
bindO (binD P BinOp.neq 33 (Operand.tmp 34) (Operand.const (Value.int IntKind.i64 0)) d_e (D.v (Value.int IntKind.i64 0))) fun d_f=>
ifU d_f (
j2 d_7 d_d (D.v (Value.bool true)) c2) (
bindO (elsD d_d) fun l_1w=>
bindO (binD P BinOp.add 3 (Operand.tmp 39) (Operand.const (Value.int IntKind.i64 1)) d_7 (D.v (Value.int IntKind.i64 1))) fun d_1x=>
bindO (binD P BinOp.neq 3 (Operand.tmp 38) (Operand.tmp 40) (lenD l_1w) d_1x) fun d_1y=>
j2 d_7 d_d d_1y c2)))
noncomputable def C12_1:=B12_1 pc k (C12_2 pc k)
theorem h12_1:T12_1 pc rk k=C12_1 pc k:=Eq.trans (b:=B12_1 pc k (T12_2 pc rk k)) (by kernel_rfl) (by rw[h12_2]; rfl)
noncomputable def B12_0 (pc:PC) (k:Nat) (j1:(D→D→List D→Option D)) (v0:D) (v1:D):Option D:=
bindO (aggD v0) fun c_1=>
bindO (cutD c_1 0 5) fun c_2=>
bindO (pcD P pc 13 [(D.agg c_2),(D.v (Value.slice none 0 0))]) fun d_3=>
bindO (semD P d_3 (Op.unary UnOp.not)) fun d_4=>
ifU d_4 (
j1 v1 (D.v (Value.bool true)) c_1) (
bindO (cutD c_1 0 5) fun c_1z=>
bindO (pcD P pc 19 [(D.agg c_1z)]) fun d_20=>
bindO (binD P BinOp.neq 33 (Operand.tmp 19) (Operand.const (Value.int IntKind.i64 0)) d_20 (D.v (Value.int IntKind.i64 0))) fun d_21=>
j1 v1 d_21 c_1)
noncomputable def C12_0:=B12_0 pc k (C12_1 pc k)
theorem h12_0 (v0:D) (v1:D):bodyY P pc noY rk LA (k+1) 12 [v0,v1]=C12_0 pc k v0 v1:=(bqA Go.Proofs.Tryz.f12 code12 results12 (by kernel_rfl)).trans (Eq.trans (b:=B12_0 pc k (T12_1 pc rk k) v0 v1) (by kernel_rfl) (by rw[h12_1]; rfl))
noncomputable def code13:Code:=codeOf 13
noncomputable def results13:List ResultVar:=resOf 13
noncomputable def B13_0 (pc:PC) (k:Nat) (v0:D) (v1:D):Option D:=
bindO (aggD v0) fun c_1=>
bindO (cutD c_1 0 3) fun c_2=>
bindO (c_1[3]?) fun d_3=>
bindO (pcD P pc 45 [(D.agg c_2),d_3]) fun d_4=>
ifU d_4 (
bindO (c_1[4]?) fun d_5=>
bindO (elsD d_5) fun l_6=>
bindO (binD P BinOp.leq 3 (Operand.tmp 13) (Operand.const (Value.int IntKind.i64 11)) (lenD l_6) (D.v (Value.int IntKind.i64 11))) fun d_7=>
ifU d_7 (
bindO (pcD P pc 46 [v1]) fun d_8=>
some d_8) (
some (D.v (Value.bool false)))) (
some (D.v (Value.bool false)))
noncomputable def C13_0:=B13_0 pc k
theorem h13_0 (v0:D) (v1:D):bodyY P pc noY rk LA (k+1) 13 [v0,v1]=C13_0 pc k v0 v1:=(bqA Go.Proofs.Tryz.f13 code13 results13 (by kernel_rfl)).trans (by kernel_rfl)
noncomputable def code16:Code:=codeOf 16
noncomputable def results16:List ResultVar:=resOf 16
noncomputable def B16_0 (pc:PC) (k:Nat) (v0:D):Option D:=
bindO (aggD v0) fun c_1=>
bindO (cutD c_1 0 3) fun c_2=>
bindO (c_1[3]?) fun d_3=>
bindO (c_1[4]?) fun d_4=>
bindO (pcD P pc 50 [(D.agg c_2)]) fun d_5=>
bindO (pcD P pc 25 [d_3]) fun d_6=>
bindO (pcD P pc 25 [d_4]) fun d_7=>
bindO (fillD [(D.v (Value.slice none 0 0)),(D.v (Value.slice none 0 0)),(D.v (Value.slice none 0 0)),(D.v (Value.slice none 0 0)),(D.v (Value.slice none 0 0))] [(0,3,d_5),(3,1,d_6),(4,1,d_7)]) fun c_8=>
bindO (splD [(D.v (Value.slice none 0 0)),(D.v (Value.slice none 0 0)),(D.v (Value.slice none 0 0)),(D.v (Value.slice none 0 0)),(D.v (Value.slice none 0 0))] 0 c_8 5) fun c_9=>
bindO (cutD c_9 0 5) fun c_a=>
some (D.agg c_a)
noncomputable def C16_0:=B16_0 pc k
theorem h16_0 (v0:D):bodyY P pc noY rk LA (k+1) 16 [v0]=C16_0 pc k v0:=(bqA Go.Proofs.Tryz.f16 code16 results16 (by kernel_rfl)).trans (by kernel_rfl)
noncomputable def code17:Code:=codeOf 17
noncomputable def results17:List ResultVar:=resOf 17
noncomputable def B17_0 (pc:PC) (k:Nat) (v0:D) (v1:D):Option D:=
bindO (aggD v0) fun c_1=>
bindO (cutD c_1 0 5) fun c_2=>
bindO (pcD P pc 51 [(D.agg c_2),v1]) fun d_3=>
bindO (tupD d_3 0) fun d_4=>
bindO (tupD d_3 1) fun d_5=>
bindO (tupD d_3 2) fun d_6=>
bindO (binD P BinOp.neq 33 (Operand.tmp 16) (Operand.const (Value.int IntKind.i64 0)) d_6 (D.v (Value.int IntKind.i64 0))) fun d_7=>
ifU d_7 (
some (D.tup [(D.v (Value.slice none 0 0)),d_6])) (
bindO (pcD P pc 53 [d_4,d_5]) fun d_8=>
bindO (pcD P pc 52 [d_8]) fun d_9=>
some (D.tup [d_9,(D.v (Value.int IntKind.i64 0))]))
noncomputable def C17_0:=B17_0 pc k
theorem h17_0 (v0:D) (v1:D):bodyY P pc noY rk LA (k+1) 17 [v0,v1]=C17_0 pc k v0 v1:=(bqA Go.Proofs.Tryz.f17 code17 results17 (by kernel_rfl)).trans (by kernel_rfl)
noncomputable def code19:Code:=codeOf 19
noncomputable def results19:List ResultVar:=resOf 19
noncomputable def B19_0 (pc:PC) (k:Nat) (v0:D):Option D:=
bindO (aggD v0) fun c_1=>
bindO (cutD c_1 0 5) fun c_2=>
bindO (pcD P pc 54 [(D.agg c_2)]) fun d_3=>
some d_3
noncomputable def C19_0:=B19_0 pc k
theorem h19_0 (v0:D):bodyY P pc noY rk LA (k+1) 19 [v0]=C19_0 pc k v0:=(bqA Go.Proofs.Tryz.f19 code19 results19 (by kernel_rfl)).trans (by kernel_rfl)
noncomputable def code21:Code:=codeOf 21
noncomputable def results21:List ResultVar:=resOf 21
noncomputable def K21_prr:KA:=(cutKA (LvA.b (LvA.b (LA 21))).c (codeA P pc noY rk (codeFA P pc noY rk 21 k) 21 (cR (cR (cR code21))) (LvA.b (LvA.b (LvA.b (LA 21)))) (doneA P results21) X0A (doneA P results21)))
noncomputable def K21_pxrrlr:(Nat→KA):=(upA 0 (K21_prr pc rk k) X0A)
noncomputable def K21_prrlrl (m1:Nat):KA:=(cutKA (LvA.a (LvA.b (LvA.a (LvA.b (LvA.b (LA 21)))))).c (codeFA P pc noY rk 21 m1 (LvA.a (LvA.b (LvA.a (LvA.b (LvA.b (LA 21)))))) (cL (cR (cL (cR (cR code21))))) (K21_prr pc rk k) (K21_pxrrlr pc rk k) (doneA P results21)))
noncomputable def T21_1 (m1:Nat):=fun(u0:D) (u1:D) (u5:D)=>labA (codeA P pc noY rk (codeFA P pc noY rk 21 m1) 21 (cL (cL (cR (cL (cR (cR code21)))))) (LvA.a (LvA.a (LvA.b (LvA.a (LvA.b (LvA.b (LA 21))))))) (K21_prrlrl pc rk k m1) (K21_pxrrlr pc rk k) (doneA P results21)) (Tr.set (Tr.set (Tr.set Tr.nil 5 (some (AV.d u5))) 1 (some (AV.d u1))) 0 (some (AV.d u0))) Tr.nil
noncomputable def R21_1 (m1:Nat):(D→D→D→Option D):=fun u0 u1 u5=>labA (codeFA P pc noY rk 21 m1 (LvA.a (LvA.b (LvA.a (LvA.b (LvA.b (LA 21)))))) (cL (cR (cL (cR (cR code21))))) (K21_prr pc rk k) (K21_pxrrlr pc rk k) (doneA P results21)) (Tr.set (Tr.set (Tr.set Tr.nil 5 (some (AV.d u5))) 1 (some (AV.d u1))) 0 (some (AV.d u0))) Tr.nil
noncomputable def B21_1 (pc:PC) (k:Nat) (m1:Nat) (b1:(D→D→D→Option D)) (u0:D) (u1:D) (u5:D):Option D:=
bindO (elsD u0) fun l_4=>
bindO (binD P BinOp.lss 3 (Operand.tmp 11) (Operand.tmp 13) u5 (lenD l_4)) fun d_5=>
ifU d_5 (
bindO (elsD u0) fun l_6=>
bindO (idxD u5 l_6.length) fun i_7=>
bindO (l_6[i_7]?) fun d_8=>
chkK (leafD d_8) (
bindO (elsD u1) fun l_9=>
bindO (idxD u5 l_9.length) fun i_a=>
bindO (l_9[i_a]?) fun d_b=>
chkK (leafD d_b) (
bindO (pcD P pc 42 [d_8,d_b]) fun d_c=>
bindO (semD P d_c (Op.unary UnOp.not)) fun d_d=>
ifU d_d (
some (D.v (Value.bool false))) (
bindO (binD P BinOp.add 3 (Operand.tmp 15) (Operand.const (Value.int IntKind.i64 1)) u5 (D.v (Value.int IntKind.i64 1))) fun d_e=>
b1 u0 u1 d_e)))) (
some (D.v (Value.bool true)))
noncomputable def C21_1 (m1:Nat):=B21_1 pc k m1
noncomputable def S21_1:Nat→(D→D→D→Option D):=recF (C21_1 pc k) (fun _ _ _=>none)
noncomputable def B21_0 (pc:PC) (k:Nat) (j1:(D→D→D→Option D)) (v0:D) (v1:D):Option D:=
bindO (elsD v0) fun l_1=>
bindO (elsD v1) fun l_2=>
bindO (binD P BinOp.neq 3 (Operand.tmp 7) (Operand.tmp 9) (lenD l_1) (lenD l_2)) fun d_3=>
ifU d_3 (
some (D.v (Value.bool false))) (
j1 v0 v1 (D.v (Value.int IntKind.i64 0)))
noncomputable def C21_0:=B21_0 pc k (S21_1 pc k k)
noncomputable def code25:Code:=codeOf 25
noncomputable def results25:List ResultVar:=resOf 25
noncomputable def B25_0 (pc:PC) (k:Nat) (v0:D):Option D:=
bindO (elsD v0) fun l_1=>
chkK (l_1.all (szOk 1)) (
bindO (appD [] l_1) fun l_2=>
some (D.sl l_2))
noncomputable def C25_0:=B25_0 pc k
theorem h25_0 (v0:D):bodyY P pc noY rk LA (k+1) 25 [v0]=C25_0 pc k v0:=(bqA Go.Proofs.Tryz.f25 code25 results25 (by kernel_rfl)).trans (by kernel_rfl)
noncomputable def code32:Code:=codeOf 32
noncomputable def results32:List ResultVar:=resOf 32
noncomputable def K32_pr:KA:=(cutKA (LvA.b (LA 32)).c (codeA P pc noY rk (codeFA P pc noY rk 32 k) 32 (cR (cR code32)) (LvA.b (LvA.b (LA 32))) (doneA P results32) X0A (doneA P results32)))
noncomputable def K32_pxrlr:(Nat→KA):=(upA 0 (K32_pr pc rk k) X0A)
noncomputable def K32_prlrl (m1:Nat):KA:=(cutKA (LvA.a (LvA.b (LvA.a (LvA.b (LA 32))))).c (codeFA P pc noY rk 32 m1 (LvA.a (LvA.b (LvA.a (LvA.b (LA 32))))) (cL (cR (cL (cR code32)))) (K32_pr pc rk k) (K32_pxrlr pc rk k) (doneA P results32)))
noncomputable def T32_1 (m1:Nat):=fun(u0:D) (u1:D) (u5:D)=>labA (codeA P pc noY rk (codeFA P pc noY rk 32 m1) 32 (cL (cL (cR (cL (cR code32))))) (LvA.a (LvA.a (LvA.b (LvA.a (LvA.b (LA 32)))))) (K32_prlrl pc rk k m1) (K32_pxrlr pc rk k) (doneA P results32)) (Tr.set (Tr.set (Tr.set Tr.nil 5 (some (AV.d u5))) 1 (some (AV.d u1))) 0 (some (AV.d u0))) Tr.nil
noncomputable def R32_1 (m1:Nat):(D→D→D→Option D):=fun u0 u1 u5=>labA (codeFA P pc noY rk 32 m1 (LvA.a (LvA.b (LvA.a (LvA.b (LA 32))))) (cL (cR (cL (cR code32)))) (K32_pr pc rk k) (K32_pxrlr pc rk k) (doneA P results32)) (Tr.set (Tr.set (Tr.set Tr.nil 5 (some (AV.d u5))) 1 (some (AV.d u1))) 0 (some (AV.d u0))) Tr.nil
noncomputable def B32_1 (pc:PC) (k:Nat) (m1:Nat) (b1:(D→D→D→Option D)) (u0:D) (u1:D) (u5:D):Option D:=
bindO (elsD u0) fun l_1=>
bindO (binD P BinOp.lss 3 (Operand.tmp 6) (Operand.tmp 8) u5 (lenD l_1)) fun d_2=>
ifU d_2 (
bindO (elsD u0) fun l_3=>
bindO (idxD u5 l_3.length) fun i_4=>
bindO (l_3[i_4]?) fun d_5=>
chkK (leafD d_5) (
bindO (binD P BinOp.eql 3 (Operand.tmp 15) (Operand.tmp 16) d_5 u1) fun d_6=>
ifU d_6 (
some (D.v (Value.bool true))) (
bindO (binD P BinOp.add 3 (Operand.tmp 10) (Operand.const (Value.int IntKind.i64 1)) u5 (D.v (Value.int IntKind.i64 1))) fun d_7=>
b1 u0 u1 d_7))) (
some (D.v (Value.bool false)))
noncomputable def C32_1 (m1:Nat):=B32_1 pc k m1
noncomputable def S32_1:Nat→(D→D→D→Option D):=recF (C32_1 pc k) (fun _ _ _=>none)
theorem h32_1 (m1:Nat):T32_1 pc rk k m1=C32_1 pc k m1 (R32_1 pc rk k m1):=by kernel_rfl
theorem q32_1 (m:Nat):T32_1 pc rk k m=S32_1 pc k m:=recS (h32_1 pc rk k) (by kernel_rfl) (fun m=>by kernel_rfl) m
noncomputable def B32_0 (pc:PC) (k:Nat) (j1:(D→D→D→Option D)) (v0:D) (v1:D):Option D:=
j1 v0 v1 (D.v (Value.int IntKind.i64 0))
noncomputable def C32_0:=B32_0 pc k (S32_1 pc k k)
theorem h32_0 (v0:D) (v1:D):bodyY P pc noY rk LA (k+1) 32 [v0,v1]=C32_0 pc k v0 v1:=(bqA Go.Proofs.Tryz.f32 code32 results32 (by kernel_rfl)).trans (Eq.trans (b:=B32_0 pc k (T32_1 pc rk k k) v0 v1) (by kernel_rfl) (by rw[q32_1]; rfl))
noncomputable def code42:Code:=codeOf 42
noncomputable def results42:List ResultVar:=resOf 42
noncomputable def K42_prr:KA:=(cutKA (LvA.b (LvA.b (LA 42))).c (codeA P pc noY rk (codeFA P pc noY rk 42 k) 42 (cR (cR (cR code42))) (LvA.b (LvA.b (LvA.b (LA 42)))) (doneA P results42) X0A (doneA P results42)))
noncomputable def K42_pxrrlr:(Nat→KA):=(upA 0 (K42_prr pc rk k) X0A)
noncomputable def K42_prrlrl (m1:Nat):KA:=(cutKA (LvA.a (LvA.b (LvA.a (LvA.b (LvA.b (LA 42)))))).c (codeFA P pc noY rk 42 m1 (LvA.a (LvA.b (LvA.a (LvA.b (LvA.b (LA 42)))))) (cL (cR (cL (cR (cR code42))))) (K42_prr pc rk k) (K42_pxrrlr pc rk k) (doneA P results42)))
noncomputable def T42_1 (m1:Nat):=fun(u0:D) (u1:D) (u5:D)=>labA (codeA P pc noY rk (codeFA P pc noY rk 42 m1) 42 (cL (cL (cR (cL (cR (cR code42)))))) (LvA.a (LvA.a (LvA.b (LvA.a (LvA.b (LvA.b (LA 42))))))) (K42_prrlrl pc rk k m1) (K42_pxrrlr pc rk k) (doneA P results42)) (Tr.set (Tr.set (Tr.set Tr.nil 5 (some (AV.d u5))) 1 (some (AV.d u1))) 0 (some (AV.d u0))) Tr.nil
noncomputable def R42_1 (m1:Nat):(D→D→D→Option D):=fun u0 u1 u5=>labA (codeFA P pc noY rk 42 m1 (LvA.a (LvA.b (LvA.a (LvA.b (LvA.b (LA 42)))))) (cL (cR (cL (cR (cR code42))))) (K42_prr pc rk k) (K42_pxrrlr pc rk k) (doneA P results42)) (Tr.set (Tr.set (Tr.set Tr.nil 5 (some (AV.d u5))) 1 (some (AV.d u1))) 0 (some (AV.d u0))) Tr.nil
noncomputable def B42_1 (pc:PC) (k:Nat) (m1:Nat) (b1:(D→D→D→Option D)) (u0:D) (u1:D) (u5:D):Option D:=
bindO (elsD u0) fun l_4=>
bindO (binD P BinOp.lss 3 (Operand.tmp 11) (Operand.tmp 13) u5 (lenD l_4)) fun d_5=>
ifU d_5 (
bindO (elsD u0) fun l_6=>
bindO (idxD u5 l_6.length) fun i_7=>
bindO (l_6[i_7]?) fun d_8=>
chkK (leafD d_8) (
bindO (elsD u1) fun l_9=>
bindO (idxD u5 l_9.length) fun i_a=>
bindO (l_9[i_a]?) fun d_b=>
chkK (leafD d_b) (
bindO (binD P BinOp.neq 3 (Operand.tmp 20) (Operand.tmp 24) d_8 d_b) fun d_c=>
ifU d_c (
some (D.v (Value.bool false))) (
bindO (binD P BinOp.add 3 (Operand.tmp 15) (Operand.const (Value.int IntKind.i64 1)) u5 (D.v (Value.int IntKind.i64 1))) fun d_d=>
b1 u0 u1 d_d)))) (
some (D.v (Value.bool true)))
noncomputable def C42_1 (m1:Nat):=B42_1 pc k m1
noncomputable def S42_1:Nat→(D→D→D→Option D):=recF (C42_1 pc k) (fun _ _ _=>none)
noncomputable def B42_0 (pc:PC) (k:Nat) (j1:(D→D→D→Option D)) (v0:D) (v1:D):Option D:=
bindO (elsD v0) fun l_1=>
bindO (elsD v1) fun l_2=>
bindO (binD P BinOp.neq 3 (Operand.tmp 7) (Operand.tmp 9) (lenD l_1) (lenD l_2)) fun d_3=>
ifU d_3 (
some (D.v (Value.bool false))) (
j1 v0 v1 (D.v (Value.int IntKind.i64 0)))
noncomputable def C42_0:=B42_0 pc k (S42_1 pc k k)
noncomputable def code45:Code:=codeOf 45
noncomputable def results45:List ResultVar:=resOf 45
noncomputable def B45_0 (pc:PC) (k:Nat) (v0:D) (v1:D):Option D:=
bindO (aggD v0) fun c_1=>
bindO (c_1[0]?) fun d_2=>
bindO (elsD d_2) fun l_3=>
bindO (binD P BinOp.leq 3 (Operand.tmp 7) (Operand.const (Value.int IntKind.i64 11)) (lenD l_3) (D.v (Value.int IntKind.i64 11))) fun d_4=>
ifU d_4 (
bindO (c_1[1]?) fun d_5=>
bindO (elsD d_5) fun l_6=>
bindO (binD P BinOp.leq 3 (Operand.tmp 12) (Operand.const (Value.int IntKind.i64 19)) (lenD l_6) (D.v (Value.int IntKind.i64 19))) fun d_7=>
ifU d_7 (
bindO (c_1[2]?) fun d_8=>
bindO (elsD d_8) fun l_9=>
bindO (binD P BinOp.leq 3 (Operand.tmp 18) (Operand.const (Value.int IntKind.i64 6)) (lenD l_9) (D.v (Value.int IntKind.i64 6))) fun d_a=>
ifU d_a (
bindO (elsD v1) fun l_b=>
bindO (binD P BinOp.leq 3 (Operand.tmp 23) (Operand.const (Value.int IntKind.i64 11)) (lenD l_b) (D.v (Value.int IntKind.i64 11))) fun d_c=>
some d_c) (
some (D.v (Value.bool false)))) (
some (D.v (Value.bool false)))) (
some (D.v (Value.bool false)))
noncomputable def C45_0:=B45_0 pc k
theorem h45_0 (v0:D) (v1:D):bodyY P pc noY rk LA (k+1) 45 [v0,v1]=C45_0 pc k v0 v1:=(bqA Go.Proofs.Tryz.f45 code45 results45 (by kernel_rfl)).trans (by kernel_rfl)
noncomputable def code46:Code:=codeOf 46
noncomputable def results46:List ResultVar:=resOf 46
noncomputable def K46_pr:KA:=(cutKA (LvA.b (LA 46)).c (codeA P pc noY rk (codeFA P pc noY rk 46 k) 46 (cR (cR code46)) (LvA.b (LvA.b (LA 46))) (doneA P results46) X0A (doneA P results46)))
noncomputable def K46_pxrlr:(Nat→KA):=(upA 0 (K46_pr pc rk k) X0A)
noncomputable def K46_prlrl (m1:Nat):KA:=(cutKA (LvA.a (LvA.b (LvA.a (LvA.b (LA 46))))).c (codeFA P pc noY rk 46 m1 (LvA.a (LvA.b (LvA.a (LvA.b (LA 46))))) (cL (cR (cL (cR code46)))) (K46_pr pc rk k) (K46_pxrlr pc rk k) (doneA P results46)))
noncomputable def K46_prlrll (m1:Nat):KA:=(cutKA (LvA.a (LvA.a (LvA.b (LvA.a (LvA.b (LA 46)))))).c (codeA P pc noY rk (codeFA P pc noY rk 46 m1) 46 (cR (cL (cL (cR (cL (cR code46)))))) (LvA.b (LvA.a (LvA.a (LvA.b (LvA.a (LvA.b (LA 46))))))) (K46_prlrl pc rk k m1) (K46_pxrlr pc rk k) (doneA P results46)))
noncomputable def T46_2 (m1:Nat):=fun(u0:D) (u3:D) (u11:D)=>labA (codeA P pc noY rk (codeFA P pc noY rk 46 m1) 46 (cR (cL (cL (cL (cR (cL (cR code46))))))) (LvA.b (LvA.a (LvA.a (LvA.a (LvA.b (LvA.a (LvA.b (LA 46)))))))) (K46_prlrll pc rk k m1) (K46_pxrlr pc rk k) (doneA P results46)) (Tr.set (Tr.set (Tr.set Tr.nil 11 (some (AV.d u11))) 3 (some (AV.d u3))) 0 (some (AV.d u0))) Tr.nil
noncomputable def T46_1 (m1:Nat):=fun(u0:D) (u3:D)=>labA (codeA P pc noY rk (codeFA P pc noY rk 46 m1) 46 (cL (cL (cR (cL (cR code46))))) (LvA.a (LvA.a (LvA.b (LvA.a (LvA.b (LA 46)))))) (K46_prlrl pc rk k m1) (K46_pxrlr pc rk k) (doneA P results46)) (Tr.set (Tr.set Tr.nil 3 (some (AV.d u3))) 0 (some (AV.d u0))) Tr.nil
noncomputable def R46_1 (m1:Nat):(D→D→Option D):=fun u0 u3=>labA (codeFA P pc noY rk 46 m1 (LvA.a (LvA.b (LvA.a (LvA.b (LA 46))))) (cL (cR (cL (cR code46)))) (K46_pr pc rk k) (K46_pxrlr pc rk k) (doneA P results46)) (Tr.set (Tr.set Tr.nil 3 (some (AV.d u3))) 0 (some (AV.d u0))) Tr.nil
noncomputable def B46_2 (pc:PC) (k:Nat) (m1:Nat) (b1:(D→D→Option D)) (u0:D) (u3:D) (u11:D):Option D:=
ifU u11 (
bindO (elsD u0) fun l_4=>
bindO (idxD u3 l_4.length) fun i_5=>
bindO (l_4[i_5]?) fun d_6=>
chkK (leafD d_6) (
bindO (elsD d_6) fun l_7=>
bindO (binD P BinOp.gtr 3 (Operand.tmp 18) (Operand.const (Value.int IntKind.i64 11)) (lenD l_7) (D.v (Value.int IntKind.i64 11))) fun d_8=>
ifU d_8 (
some (D.v (Value.bool false))) (
bindO (binD P BinOp.add 3 (Operand.tmp 12) (Operand.const (Value.int IntKind.i64 1)) u3 (D.v (Value.int IntKind.i64 1))) fun d_9=>
b1 u0 d_9))) (
bindO (elsD u0) fun l_a=>
bindO (binD P BinOp.leq 3 (Operand.tmp 21) (Operand.const (Value.int IntKind.i64 310)) (lenD l_a) (D.v (Value.int IntKind.i64 310))) fun d_b=>
some d_b)
noncomputable def C46_2 (m1:Nat):=B46_2 pc k m1
theorem h46_2 (m1:Nat):T46_2 pc rk k m1=C46_2 pc k m1 (R46_1 pc rk k m1):=by kernel_rfl
noncomputable def B46_1 (pc:PC) (k:Nat) (m1:Nat) (j2:(D→D→D→Option D)) (b1:(D→D→Option D)) (u0:D) (u3:D):Option D:=
bindO (elsD u0) fun l_1=>
bindO (binD P BinOp.lss 3 (Operand.tmp 4) (Operand.tmp 6) u3 (lenD l_1)) fun d_2=>
ifU d_2 (
bindO (binD P BinOp.lss 3 (Operand.tmp 9) (Operand.const (Value.int IntKind.i64 311)) u3 (D.v (Value.int IntKind.i64 311))) fun d_3=>
j2 u0 u3 d_3) (
j2 u0 u3 (D.v (Value.bool false)))
noncomputable def C46_1 (m1:Nat) (b1:(D→D→Option D)):=B46_1 pc k m1 (C46_2 pc k m1 b1) b1
noncomputable def S46_1:Nat→(D→D→Option D):=recF (C46_1 pc k) (fun _ _=>none)
theorem h46_1 (m1:Nat):T46_1 pc rk k m1=C46_1 pc k m1 (R46_1 pc rk k m1):=Eq.trans (b:=B46_1 pc k m1 (T46_2 pc rk k m1) (R46_1 pc rk k m1)) (by kernel_rfl) (by rw[h46_2]; rfl)
theorem q46_1 (m:Nat):T46_1 pc rk k m=S46_1 pc k m:=recS (h46_1 pc rk k) (by kernel_rfl) (fun m=>by kernel_rfl) m
noncomputable def B46_0 (pc:PC) (k:Nat) (j1:(D→D→Option D)) (v0:D):Option D:=
j1 v0 (D.v (Value.int IntKind.i64 0))
noncomputable def C46_0:=B46_0 pc k (S46_1 pc k k)
theorem h46_0 (v0:D):bodyY P pc noY rk LA (k+1) 46 [v0]=C46_0 pc k v0:=(bqA Go.Proofs.Tryz.f46 code46 results46 (by kernel_rfl)).trans (Eq.trans (b:=B46_0 pc k (T46_1 pc rk k k) v0) (by kernel_rfl) (by rw[q46_1]; rfl))
noncomputable def code49:Code:=codeOf 49
noncomputable def results49:List ResultVar:=resOf 49
noncomputable def K49_prr:KA:=(cutKA (LvA.b (LvA.b (LA 49))).c (codeA P pc noY rk (codeFA P pc noY rk 49 k) 49 (cR (cR (cR code49))) (LvA.b (LvA.b (LvA.b (LA 49)))) (doneA P results49) X0A (doneA P results49)))
noncomputable def T49_1:=fun(u30:D)=>labA (codeA P pc noY rk (codeFA P pc noY rk 49 k) 49 (cR (cL (cR (cR code49)))) (LvA.b (LvA.a (LvA.b (LvA.b (LA 49))))) (K49_prr pc rk k) X0A (doneA P results49)) (Tr.set Tr.nil 30 (some (AV.d u30))) Tr.nil
noncomputable def B49_1 (pc:PC) (k:Nat) (u30:D):Option D:=
ifU u30 (
some (D.v (Value.int IntKind.i64 1))) (
some (D.v (Value.int IntKind.i64 0)))
noncomputable def C49_1:=B49_1 pc k
theorem h49_1:T49_1 pc rk k=C49_1 pc k:=by kernel_rfl
noncomputable def B49_0 (pc:PC) (k:Nat) (j1:(D→Option D)) (v0:D):Option D:=
bindO (aggD v0) fun c_1=>
bindO (cutD c_1 0 3) fun c_2=>
bindO (pcD P pc 70 [(D.agg c_2)]) fun d_3=>
bindO (binD P BinOp.neq 33 (Operand.tmp 7) (Operand.const (Value.int IntKind.i64 0)) d_3 (D.v (Value.int IntKind.i64 0))) fun d_4=>
ifU d_4 (
some d_3) (
bindO (cutD c_1 0 5) fun c_5=>
bindO (c_1[3]?) fun d_6=>
bindO (pcD P pc 71 [(D.agg c_5),d_6]) fun d_7=>
bindO (semD P d_7 (Op.unary UnOp.not)) fun d_8=>
ifU d_8 (
j1 (D.v (Value.bool true))) (
bindO (c_1[4]?) fun d_9=>
bindO (elsD d_9) fun l_a=>
bindO (c_1[0]?) fun d_b=>
bindO (elsD d_b) fun l_c=>
bindO (binD P BinOp.neq 3 (Operand.tmp 18) (Operand.tmp 22) (lenD l_a) (lenD l_c)) fun d_d=>
ifU d_d (
j1 (D.v (Value.bool true))) (
bindO (c_1[4]?) fun d_e=>
bindO (pcD P pc 72 [d_e,(D.fn 73 [] [])]) fun d_f=>
bindO (semD P d_f (Op.unary UnOp.not)) fun d_g=>
j1 d_g)))
noncomputable def C49_0:=B49_0 pc k (C49_1 pc k)
theorem h49_0 (v0:D):bodyY P pc noY rk LA (k+1) 49 [v0]=C49_0 pc k v0:=(bqA Go.Proofs.Tryz.f49 code49 results49 (by kernel_rfl)).trans (Eq.trans (b:=B49_0 pc k (T49_1 pc rk k) v0) (by kernel_rfl) (by rw[h49_1]; rfl))
noncomputable def code50:Code:=codeOf 50
noncomputable def results50:List ResultVar:=resOf 50
noncomputable def K50_prr:KA:=(cutKA (LvA.b (LvA.b (LA 50))).c (codeA P pc noY rk (codeFA P pc noY rk 50 k) 50 (cR (cR (cR code50))) (LvA.b (LvA.b (LvA.b (LA 50)))) (doneA P results50) X0A (doneA P results50)))
noncomputable def K50_pxrrlr:(Nat→KA):=(upA 0 (K50_prr pc rk k) X0A)
noncomputable def K50_prrlrl (m1:Nat):KA:=(cutKA (LvA.a (LvA.b (LvA.a (LvA.b (LvA.b (LA 50)))))).c (codeFA P pc noY rk 50 m1 (LvA.a (LvA.b (LvA.a (LvA.b (LvA.b (LA 50)))))) (cL (cR (cL (cR (cR code50))))) (K50_prr pc rk k) (K50_pxrrlr pc rk k) (doneA P results50)))
noncomputable def K50_prrr:KA:=(cutKA (LvA.b (LvA.b (LvA.b (LA 50)))).c (codeA P pc noY rk (codeFA P pc noY rk 50 k) 50 (cR (cR (cR (cR code50)))) (LvA.b (LvA.b (LvA.b (LvA.b (LA 50))))) (doneA P results50) X0A (doneA P results50)))
noncomputable def K50_pxrrrlr:(Nat→KA):=(upA 2 (K50_prrr pc rk k) X0A)
noncomputable def K50_prrrlrl (m1:Nat):KA:=(cutKA (LvA.a (LvA.b (LvA.a (LvA.b (LvA.b (LvA.b (LA 50))))))).c (codeFA P pc noY rk 50 m1 (LvA.a (LvA.b (LvA.a (LvA.b (LvA.b (LvA.b (LA 50))))))) (cL (cR (cL (cR (cR (cR code50)))))) (K50_prrr pc rk k) (K50_pxrrrlr pc rk k) (doneA P results50)))
noncomputable def K50_prrrr:KA:=(cutKA (LvA.b (LvA.b (LvA.b (LvA.b (LA 50))))).c (codeA P pc noY rk (codeFA P pc noY rk 50 k) 50 (cR (cR (cR (cR (cR code50))))) (LvA.b (LvA.b (LvA.b (LvA.b (LvA.b (LA 50)))))) (doneA P results50) X0A (doneA P results50)))
noncomputable def K50_pxrrrrlr:(Nat→KA):=(upA 4 (K50_prrrr pc rk k) X0A)
noncomputable def K50_prrrrlrl (m1:Nat):KA:=(cutKA (LvA.a (LvA.b (LvA.a (LvA.b (LvA.b (LvA.b (LvA.b (LA 50)))))))).c (codeFA P pc noY rk 50 m1 (LvA.a (LvA.b (LvA.a (LvA.b (LvA.b (LvA.b (LvA.b (LA 50)))))))) (cL (cR (cL (cR (cR (cR (cR code50))))))) (K50_prrrr pc rk k) (K50_pxrrrrlr pc rk k) (doneA P results50)))
noncomputable def T50_3 (m1:Nat):=fun(u6:D) (c1:List D) (l31:List D) (l56:List D) (l82:List D)=>labA (codeA P pc noY rk (codeFA P pc noY rk 50 m1) 50 (cL (cL (cR (cL (cR (cR (cR (cR code50)))))))) (LvA.a (LvA.a (LvA.b (LvA.a (LvA.b (LvA.b (LvA.b (LvA.b (LA 50))))))))) (K50_prrrrlrl pc rk k m1) (K50_pxrrrrlr pc rk k) (doneA P results50)) (Tr.set (Tr.set (Tr.set (Tr.set Tr.nil 6 (some (AV.d u6))) 3 (some (AV.loc 3 0))) 2 (some (AV.loc 2 0))) 1 (some (AV.loc 1 0))) (Tr.set (Tr.set (Tr.set (Tr.set (Tr.set (Tr.set Tr.nil 82 (some (Bx.vec l82 122 5 false))) 56 (some (Bx.vec l56 125 2 false))) 31 (some (Bx.vec l31 124 2 false))) 3 (some (Bx.box [(AV.osl 31),(AV.osl 56),(AV.osl 82)]))) 2 (some (Bx.dat [(D.v (Value.slice none 0 0)),(D.v (Value.slice none 0 0)),(D.v (Value.slice none 0 0))] false))) 1 (some (Bx.dat c1 false)))
noncomputable def R50_3 (m1:Nat):(D→List D→List D→List D→List D→Option D):=fun u6 c1 l31 l56 l82=>labA (codeFA P pc noY rk 50 m1 (LvA.a (LvA.b (LvA.a (LvA.b (LvA.b (LvA.b (LvA.b (LA 50)))))))) (cL (cR (cL (cR (cR (cR (cR code50))))))) (K50_prrrr pc rk k) (K50_pxrrrrlr pc rk k) (doneA P results50)) (Tr.set (Tr.set (Tr.set (Tr.set Tr.nil 6 (some (AV.d u6))) 3 (some (AV.loc 3 0))) 2 (some (AV.loc 2 0))) 1 (some (AV.loc 1 0))) (Tr.set (Tr.set (Tr.set (Tr.set (Tr.set (Tr.set Tr.nil 82 (some (Bx.vec l82 122 5 false))) 56 (some (Bx.vec l56 125 2 false))) 31 (some (Bx.vec l31 124 2 false))) 3 (some (Bx.box [(AV.osl 31),(AV.osl 56),(AV.osl 82)]))) 2 (some (Bx.dat [(D.v (Value.slice none 0 0)),(D.v (Value.slice none 0 0)),(D.v (Value.slice none 0 0))] false))) 1 (some (Bx.dat c1 false)))
noncomputable def T50_2 (m1:Nat):=fun(u5:D) (c1:List D) (l31:List D) (l56:List D)=>labA (codeA P pc noY rk (codeFA P pc noY rk 50 m1) 50 (cL (cL (cR (cL (cR (cR (cR code50))))))) (LvA.a (LvA.a (LvA.b (LvA.a (LvA.b (LvA.b (LvA.b (LA 50)))))))) (K50_prrrlrl pc rk k m1) (K50_pxrrrlr pc rk k) (doneA P results50)) (Tr.set (Tr.set (Tr.set (Tr.set Tr.nil 5 (some (AV.d u5))) 3 (some (AV.loc 3 0))) 2 (some (AV.loc 2 0))) 1 (some (AV.loc 1 0))) (Tr.set (Tr.set (Tr.set (Tr.set (Tr.set Tr.nil 56 (some (Bx.vec l56 125 2 false))) 31 (some (Bx.vec l31 124 2 false))) 3 (some (Bx.box [(AV.osl 31),(AV.osl 56),(AV.d (D.v (Value.slice none 0 0)))]))) 2 (some (Bx.dat [(D.v (Value.slice none 0 0)),(D.v (Value.slice none 0 0)),(D.v (Value.slice none 0 0))] false))) 1 (some (Bx.dat c1 false)))
noncomputable def R50_2 (m1:Nat):(D→List D→List D→List D→Option D):=fun u5 c1 l31 l56=>labA (codeFA P pc noY rk 50 m1 (LvA.a (LvA.b (LvA.a (LvA.b (LvA.b (LvA.b (LA 50))))))) (cL (cR (cL (cR (cR (cR code50)))))) (K50_prrr pc rk k) (K50_pxrrrlr pc rk k) (doneA P results50)) (Tr.set (Tr.set (Tr.set (Tr.set Tr.nil 5 (some (AV.d u5))) 3 (some (AV.loc 3 0))) 2 (some (AV.loc 2 0))) 1 (some (AV.loc 1 0))) (Tr.set (Tr.set (Tr.set (Tr.set (Tr.set Tr.nil 56 (some (Bx.vec l56 125 2 false))) 31 (some (Bx.vec l31 124 2 false))) 3 (some (Bx.box [(AV.osl 31),(AV.osl 56),(AV.d (D.v (Value.slice none 0 0)))]))) 2 (some (Bx.dat [(D.v (Value.slice none 0 0)),(D.v (Value.slice none 0 0)),(D.v (Value.slice none 0 0))] false))) 1 (some (Bx.dat c1 false)))
noncomputable def T50_1 (m1:Nat):=fun(u4:D) (c1:List D) (l31:List D)=>labA (codeA P pc noY rk (codeFA P pc noY rk 50 m1) 50 (cL (cL (cR (cL (cR (cR code50)))))) (LvA.a (LvA.a (LvA.b (LvA.a (LvA.b (LvA.b (LA 50))))))) (K50_prrlrl pc rk k m1) (K50_pxrrlr pc rk k) (doneA P results50)) (Tr.set (Tr.set (Tr.set (Tr.set Tr.nil 4 (some (AV.d u4))) 3 (some (AV.loc 3 0))) 2 (some (AV.loc 2 0))) 1 (some (AV.loc 1 0))) (Tr.set (Tr.set (Tr.set (Tr.set Tr.nil 31 (some (Bx.vec l31 124 2 false))) 3 (some (Bx.box [(AV.osl 31),(AV.d (D.v (Value.slice none 0 0))),(AV.d (D.v (Value.slice none 0 0)))]))) 2 (some (Bx.dat [(D.v (Value.slice none 0 0)),(D.v (Value.slice none 0 0)),(D.v (Value.slice none 0 0))] false))) 1 (some (Bx.dat c1 false)))
noncomputable def R50_1 (m1:Nat):(D→List D→List D→Option D):=fun u4 c1 l31=>labA (codeFA P pc noY rk 50 m1 (LvA.a (LvA.b (LvA.a (LvA.b (LvA.b (LA 50)))))) (cL (cR (cL (cR (cR code50))))) (K50_prr pc rk k) (K50_pxrrlr pc rk k) (doneA P results50)) (Tr.set (Tr.set (Tr.set (Tr.set Tr.nil 4 (some (AV.d u4))) 3 (some (AV.loc 3 0))) 2 (some (AV.loc 2 0))) 1 (some (AV.loc 1 0))) (Tr.set (Tr.set (Tr.set (Tr.set Tr.nil 31 (some (Bx.vec l31 124 2 false))) 3 (some (Bx.box [(AV.osl 31),(AV.d (D.v (Value.slice none 0 0))),(AV.d (D.v (Value.slice none 0 0)))]))) 2 (some (Bx.dat [(D.v (Value.slice none 0 0)),(D.v (Value.slice none 0 0)),(D.v (Value.slice none 0 0))] false))) 1 (some (Bx.dat c1 false)))
noncomputable def B50_3 (pc:PC) (k:Nat) (m1:Nat) (b3:(D→List D→List D→List D→List D→Option D)) (u6:D) (c1:List D) (l31:List D) (l56:List D) (l82:List D):Option D:=
bindO (c1[2]?) fun d_10=>
bindO (elsD d_10) fun l_11=>
bindO (binD P BinOp.lss 3 (Operand.tmp 58) (Operand.tmp 61) u6 (lenD l_11)) fun d_12=>
ifU d_12 (
bindO (c1[2]?) fun d_13=>
bindO (elsD d_13) fun l_14=>
bindO (idxD u6 l_14.length) fun i_15=>
bindO (l_14[i_15]?) fun d_16=>
bindO (aggD d_16) fun c_17=>
chkK (Nat.beq c_17.length 5) (
bindO (cutD c_17 0 5) fun c_18=>
bindO (splD [(D.v (Value.int IntKind.i64 0)),(D.v (Value.int IntKind.i64 0)),(D.v (Value.int IntKind.i64 0)),(D.v (Value.int IntKind.i64 0)),(D.v (Value.int IntKind.i64 0))] 0 c_18 5) fun c_19=>
bindO (c_19[0]?) fun d_1a=>
bindO (cutD c_19 1 2) fun c_1b=>
bindO (cutD c_19 3 2) fun c_1c=>
bindO (pcD P pc 74 [(D.agg c_1b)]) fun d_1d=>
bindO (pcD P pc 74 [(D.agg c_1c)]) fun d_1e=>
bindO (fillD [(D.v (Value.int IntKind.i64 0)),(D.v (Value.int IntKind.i64 0)),(D.v (Value.int IntKind.i64 0)),(D.v (Value.int IntKind.i64 0)),(D.v (Value.int IntKind.i64 0))] [(0,1,d_1a),(1,2,d_1d),(3,2,d_1e)]) fun c_1f=>
chkK (Nat.beq c_1f.length 5) (
bindO (appD l82 [(D.agg c_1f)]) fun l_1g=>
bindO (binD P BinOp.add 3 (Operand.tmp 63) (Operand.const (Value.int IntKind.i64 1)) u6 (D.v (Value.int IntKind.i64 1))) fun d_1h=>
b3 d_1h c1 l31 l56 l_1g))) (
some (D.agg [(D.sl l31),(D.sl l56),(D.sl l82)]))
noncomputable def C50_3 (m1:Nat):=B50_3 pc k m1
noncomputable def S50_3:Nat→(D→List D→List D→List D→List D→Option D):=recF (C50_3 pc k) (fun _ _ _ _ _=>none)
theorem h50_3 (m1:Nat):T50_3 pc rk k m1=C50_3 pc k m1 (R50_3 pc rk k m1):=by kernel_rfl
theorem q50_3 (m:Nat):T50_3 pc rk k m=S50_3 pc k m:=recS (h50_3 pc rk k) (by kernel_rfl) (fun m=>by kernel_rfl) m
noncomputable def B50_2 (pc:PC) (k:Nat) (m1:Nat) (j3:(D→List D→List D→List D→List D→Option D)) (b2:(D→List D→List D→List D→Option D)) (u5:D) (c1:List D) (l31:List D) (l56:List D):Option D:=
bindO (c1[1]?) fun d_j=>
bindO (elsD d_j) fun l_k=>
bindO (binD P BinOp.lss 3 (Operand.tmp 33) (Operand.tmp 36) u5 (lenD l_k)) fun d_l=>
ifU d_l (
bindO (c1[1]?) fun d_m=>
bindO (elsD d_m) fun l_n=>
bindO (idxD u5 l_n.length) fun i_o=>
bindO (l_n[i_o]?) fun d_p=>
bindO (aggD d_p) fun c_q=>
chkK (Nat.beq c_q.length 2) (
bindO (c_q[0]?) fun d_r=>
bindO (c1[1]?) fun d_s=>
bindO (elsD d_s) fun l_t=>
bindO (idxD u5 l_t.length) fun i_u=>
bindO (l_t[i_u]?) fun d_v=>
bindO (aggD d_v) fun c_w=>
chkK (Nat.beq c_w.length 2) (
bindO ((List.drop 1 c_w)[0]?) fun d_x=>
chkK (leafD d_r) (
chkK (leafD d_x) (
bindO (appD l56 [(D.agg [d_r,d_x])]) fun l_y=>
bindO (binD P BinOp.add 3 (Operand.tmp 38) (Operand.const (Value.int IntKind.i64 1)) u5 (D.v (Value.int IntKind.i64 1))) fun d_z=>
b2 d_z c1 l31 l_y))))) (
j3 (D.v (Value.int IntKind.i64 0)) c1 l31 l56 [])
noncomputable def C50_2 (m1:Nat):=B50_2 pc k m1 (S50_3 pc k k)
noncomputable def S50_2:Nat→(D→List D→List D→List D→Option D):=recF (C50_2 pc k) (fun _ _ _ _=>none)
theorem h50_2 (m1:Nat):T50_2 pc rk k m1=C50_2 pc k m1 (R50_2 pc rk k m1):=Eq.trans (b:=B50_2 pc k m1 (T50_3 pc rk k k) (R50_2 pc rk k m1)) (by kernel_rfl) (by rw[q50_3]; rfl)
theorem q50_2 (m:Nat):T50_2 pc rk k m=S50_2 pc k m:=recS (h50_2 pc rk k) (by kernel_rfl) (fun m=>by kernel_rfl) m
noncomputable def B50_1 (pc:PC) (k:Nat) (m1:Nat) (j2:(D→List D→List D→List D→Option D)) (b1:(D→List D→List D→Option D)) (u4:D) (c1:List D) (l31:List D):Option D:=
bindO (c1[0]?) fun d_2=>
bindO (elsD d_2) fun l_3=>
bindO (binD P BinOp.lss 3 (Operand.tmp 8) (Operand.tmp 11) u4 (lenD l_3)) fun d_4=>
ifU d_4 (
bindO (c1[0]?) fun d_5=>
bindO (elsD d_5) fun l_6=>
bindO (idxD u4 l_6.length) fun i_7=>
bindO (l_6[i_7]?) fun d_8=>
bindO (aggD d_8) fun c_9=>
chkK (Nat.beq c_9.length 2) (
bindO (c_9[0]?) fun d_a=>
bindO (c1[0]?) fun d_b=>
bindO (elsD d_b) fun l_c=>
bindO (idxD u4 l_c.length) fun i_d=>
bindO (l_c[i_d]?) fun d_e=>
bindO (aggD d_e) fun c_f=>
chkK (Nat.beq c_f.length 2) (
bindO ((List.drop 1 c_f)[0]?) fun d_g=>
chkK (leafD d_a) (
chkK (leafD d_g) (
bindO (appD l31 [(D.agg [d_a,d_g])]) fun l_h=>
bindO (binD P BinOp.add 3 (Operand.tmp 13) (Operand.const (Value.int IntKind.i64 1)) u4 (D.v (Value.int IntKind.i64 1))) fun d_i=>
b1 d_i c1 l_h))))) (
j2 (D.v (Value.int IntKind.i64 0)) c1 l31 [])
noncomputable def C50_1 (m1:Nat):=B50_1 pc k m1 (S50_2 pc k k)
noncomputable def S50_1:Nat→(D→List D→List D→Option D):=recF (C50_1 pc k) (fun _ _ _=>none)
theorem h50_1 (m1:Nat):T50_1 pc rk k m1=C50_1 pc k m1 (R50_1 pc rk k m1):=Eq.trans (b:=B50_1 pc k m1 (T50_2 pc rk k k) (R50_1 pc rk k m1)) (by kernel_rfl) (by rw[q50_2]; rfl)
theorem q50_1 (m:Nat):T50_1 pc rk k m=S50_1 pc k m:=recS (h50_1 pc rk k) (by kernel_rfl) (fun m=>by kernel_rfl) m
noncomputable def B50_0 (pc:PC) (k:Nat) (j1:(D→List D→List D→Option D)) (v0:D):Option D:=
bindO (aggD v0) fun c_1=>
j1 (D.v (Value.int IntKind.i64 0)) c_1 []
noncomputable def C50_0:=B50_0 pc k (S50_1 pc k k)
theorem h50_0 (v0:D):bodyY P pc noY rk LA (k+1) 50 [v0]=C50_0 pc k v0:=(bqA Go.Proofs.Tryz.f50 code50 results50 (by kernel_rfl)).trans (Eq.trans (b:=B50_0 pc k (T50_1 pc rk k k) v0) (by kernel_rfl) (by rw[q50_1]; rfl))
noncomputable def code51:Code:=codeOf 51
noncomputable def results51:List ResultVar:=resOf 51
noncomputable def K51_prrrrrr:KA:=(cutKA (LvA.b (LvA.b (LvA.b (LvA.b (LvA.b (LvA.b (LA 51))))))).c (codeA P pc noY rk (codeFA P pc noY rk 51 k) 51 (cR (cR (cR (cR (cR (cR (cR code51))))))) (LvA.b (LvA.b (LvA.b (LvA.b (LvA.b (LvA.b (LvA.b (LA 51)))))))) (doneA P results51) X0A (doneA P results51)))
noncomputable def K51_pxrrrrrrlr:(Nat→KA):=(upA 0 (K51_prrrrrr pc rk k) X0A)
noncomputable def K51_prrrrrrlrl (m1:Nat):KA:=(cutKA (LvA.a (LvA.b (LvA.a (LvA.b (LvA.b (LvA.b (LvA.b (LvA.b (LvA.b (LA 51)))))))))).c (codeFA P pc noY rk 51 m1 (LvA.a (LvA.b (LvA.a (LvA.b (LvA.b (LvA.b (LvA.b (LvA.b (LvA.b (LA 51)))))))))) (cL (cR (cL (cR (cR (cR (cR (cR (cR code51))))))))) (K51_prrrrrr pc rk k) (K51_pxrrrrrrlr pc rk k) (doneA P results51)))
noncomputable def T51_1 (m1:Nat):=fun(u7:D) (u34:D) (u35:D) (u36:D) (l33:List D)=>labA (codeA P pc noY rk (codeFA P pc noY rk 51 m1) 51 (cL (cL (cR (cL (cR (cR (cR (cR (cR (cR code51)))))))))) (LvA.a (LvA.a (LvA.b (LvA.a (LvA.b (LvA.b (LvA.b (LvA.b (LvA.b (LvA.b (LA 51))))))))))) (K51_prrrrrrlrl pc rk k m1) (K51_pxrrrrrrlr pc rk k) (doneA P results51)) (Tr.set (Tr.set (Tr.set (Tr.set (Tr.set Tr.nil 36 (some (AV.d u36))) 35 (some (AV.d u35))) 34 (some (AV.d u34))) 9 (some (AV.osl 33))) 7 (some (AV.d u7))) (Tr.set Tr.nil 33 (some (Bx.vec l33 101 1 false)))
noncomputable def R51_1 (m1:Nat):(D→D→D→D→List D→Option D):=fun u7 u34 u35 u36 l33=>labA (codeFA P pc noY rk 51 m1 (LvA.a (LvA.b (LvA.a (LvA.b (LvA.b (LvA.b (LvA.b (LvA.b (LvA.b (LA 51)))))))))) (cL (cR (cL (cR (cR (cR (cR (cR (cR code51))))))))) (K51_prrrrrr pc rk k) (K51_pxrrrrrrlr pc rk k) (doneA P results51)) (Tr.set (Tr.set (Tr.set (Tr.set (Tr.set Tr.nil 36 (some (AV.d u36))) 35 (some (AV.d u35))) 34 (some (AV.d u34))) 9 (some (AV.osl 33))) 7 (some (AV.d u7))) (Tr.set Tr.nil 33 (some (Bx.vec l33 101 1 false)))
noncomputable def B51_1 (pc:PC) (k:Nat) (m1:Nat) (b1:(D→D→D→D→List D→Option D)) (u7:D) (u34:D) (u35:D) (u36:D) (l33:List D):Option D:=
bindO (binD P BinOp.lss 3 (Operand.tmp 36) (Operand.tmp 35) u36 u35) fun d_h=>
ifU d_h (
bindO (elsD u34) fun l_i=>
bindO (idxD u36 l_i.length) fun i_j=>
bindO (l_i[i_j]?) fun d_k=>
chkK (leafD d_k) (
bindO (pcD P pc 76 [d_k]) fun d_l=>
bindO (idxD u36 l33.length) fun i_m=>
bindO (l33[i_m]?) fun d_n=>
chkK (leafD d_n) (
chkK (leafD d_l) (
bindO (binD P BinOp.add 3 (Operand.tmp 36) (Operand.const (Value.int IntKind.i64 1)) u36 (D.v (Value.int IntKind.i64 1))) fun d_o=>
b1 u7 u34 u35 d_o (List.set l33 i_m d_l))))) (
some (D.tup [u7,(D.sl l33),(D.v (Value.int IntKind.i64 0))]))
noncomputable def C51_1 (m1:Nat):=B51_1 pc k m1
noncomputable def S51_1:Nat→(D→D→D→D→List D→Option D):=recF (C51_1 pc k) (fun _ _ _ _ _=>none)
theorem h51_1 (m1:Nat):T51_1 pc rk k m1=C51_1 pc k m1 (R51_1 pc rk k m1):=by kernel_rfl
theorem q51_1 (m:Nat):T51_1 pc rk k m=S51_1 pc k m:=recS (h51_1 pc rk k) (by kernel_rfl) (fun m=>by kernel_rfl) m
noncomputable def B51_0 (pc:PC) (k:Nat) (j1:(D→D→D→D→List D→Option D)) (v0:D) (v1:D):Option D:=
bindO (aggD v0) fun c_1=>
bindO (cutD c_1 0 5) fun c_2=>
bindO (pcD P pc 65 [(D.agg c_2)]) fun d_3=>
bindO (tupD d_3 0) fun d_4=>
bindO (tupD d_3 1) fun d_5=>
bindO (binD P BinOp.neq 33 (Operand.tmp 17) (Operand.const (Value.int IntKind.i64 0)) d_5 (D.v (Value.int IntKind.i64 0))) fun d_6=>
ifU d_6 (
some (D.tup [(D.v (Value.pointer none)),(D.v (Value.slice none 0 0)),d_5])) (
bindO (elsD v1) fun l_7=>
bindO (binD P BinOp.gtr 3 (Operand.tmp 21) (Operand.const (Value.int IntKind.i64 300)) (lenD l_7) (D.v (Value.int IntKind.i64 300))) fun d_8=>
ifU d_8 (
some (D.tup [(D.v (Value.pointer none)),(D.v (Value.slice none 0 0)),(D.v (Value.int IntKind.i64 3))])) (
nilA (AV.d d_4) (
bindO (derefD d_4) fun c_9=>
bindO (cutD c_9 0 5) fun c_a=>
bindO (pcD P pc 75 [v1,(D.fn 71 [(D.agg c_a)] [])]) fun d_b=>
bindO (semD P d_b (Op.unary UnOp.not)) fun d_c=>
ifU d_c (
some (D.tup [(D.v (Value.pointer none)),(D.v (Value.slice none 0 0)),(D.v (Value.int IntKind.i64 2))])) (
bindO (elsD v1) fun l_d=>
bindO (natD (lenD l_d)) fun i_e=>
bindO (natD (lenD l_d)) fun i_f=>
chkK (Nat.ble i_e i_f && Nat.blt i_f 1048576) (
bindO (elsD v1) fun l_g=>
j1 d_4 v1 (lenD l_g) (D.v (Value.int IntKind.i64 0)) (List.replicate i_e (D.v (Value.int IntKind.u64 0))))))))
noncomputable def C51_0:=B51_0 pc k (S51_1 pc k k)
theorem h51_0 (v0:D) (v1:D):bodyY P pc noY rk LA (k+1) 51 [v0,v1]=C51_0 pc k v0 v1:=(bqA Go.Proofs.Tryz.f51 code51 results51 (by kernel_rfl)).trans (Eq.trans (b:=B51_0 pc k (T51_1 pc rk k k) v0 v1) (by kernel_rfl) (by rw[q51_1]; rfl))
noncomputable def code52:Code:=codeOf 52
noncomputable def results52:List ResultVar:=resOf 52
noncomputable def K52_prr:KA:=(cutKA (LvA.b (LvA.b (LA 52))).c (codeA P pc noY rk (codeFA P pc noY rk 52 k) 52 (cR (cR (cR code52))) (LvA.b (LvA.b (LvA.b (LA 52)))) (doneA P results52) X0A (doneA P results52)))
noncomputable def K52_pxrrlr:(Nat→KA):=(upA 0 (K52_prr pc rk k) X0A)
noncomputable def K52_prrlrl (m1:Nat):KA:=(cutKA (LvA.a (LvA.b (LvA.a (LvA.b (LvA.b (LA 52)))))).c (codeFA P pc noY rk 52 m1 (LvA.a (LvA.b (LvA.a (LvA.b (LvA.b (LA 52)))))) (cL (cR (cL (cR (cR code52))))) (K52_prr pc rk k) (K52_pxrrlr pc rk k) (doneA P results52)))
noncomputable def T52_1 (m1:Nat):=fun(u6:D) (u7:D) (u8:D) (l16:List D)=>labA (codeA P pc noY rk (codeFA P pc noY rk 52 m1) 52 (cL (cL (cR (cL (cR (cR code52)))))) (LvA.a (LvA.a (LvA.b (LvA.a (LvA.b (LvA.b (LA 52))))))) (K52_prrlrl pc rk k m1) (K52_pxrrlr pc rk k) (doneA P results52)) (Tr.set (Tr.set (Tr.set (Tr.set Tr.nil 8 (some (AV.d u8))) 7 (some (AV.d u7))) 6 (some (AV.d u6))) 3 (some (AV.osl 16))) (Tr.set Tr.nil 16 (some (Bx.vec l16 27 1 false)))
noncomputable def R52_1 (m1:Nat):(D→D→D→List D→Option D):=fun u6 u7 u8 l16=>labA (codeFA P pc noY rk 52 m1 (LvA.a (LvA.b (LvA.a (LvA.b (LvA.b (LA 52)))))) (cL (cR (cL (cR (cR code52))))) (K52_prr pc rk k) (K52_pxrrlr pc rk k) (doneA P results52)) (Tr.set (Tr.set (Tr.set (Tr.set Tr.nil 8 (some (AV.d u8))) 7 (some (AV.d u7))) 6 (some (AV.d u6))) 3 (some (AV.osl 16))) (Tr.set Tr.nil 16 (some (Bx.vec l16 27 1 false)))
noncomputable def B52_1 (pc:PC) (k:Nat) (m1:Nat) (b1:(D→D→D→List D→Option D)) (u6:D) (u7:D) (u8:D) (l16:List D):Option D:=
bindO (binD P BinOp.lss 3 (Operand.tmp 8) (Operand.tmp 7) u8 u7) fun d_2=>
ifU d_2 (
bindO (elsD u6) fun l_3=>
bindO (idxD u8 l_3.length) fun i_4=>
bindO (l_3[i_4]?) fun d_5=>
chkK (leafD d_5) (
bindO (pcD P pc 77 [d_5]) fun d_6=>
chkK (leafD d_6) (
bindO (appD l16 [d_6]) fun l_7=>
bindO (binD P BinOp.add 3 (Operand.tmp 8) (Operand.const (Value.int IntKind.i64 1)) u8 (D.v (Value.int IntKind.i64 1))) fun d_8=>
b1 u6 u7 d_8 l_7))) (
some (D.sl l16))
noncomputable def C52_1 (m1:Nat):=B52_1 pc k m1
noncomputable def S52_1:Nat→(D→D→D→List D→Option D):=recF (C52_1 pc k) (fun _ _ _ _=>none)
theorem h52_1 (m1:Nat):T52_1 pc rk k m1=C52_1 pc k m1 (R52_1 pc rk k m1):=by kernel_rfl
theorem q52_1 (m:Nat):T52_1 pc rk k m=S52_1 pc k m:=recS (h52_1 pc rk k) (by kernel_rfl) (fun m=>by kernel_rfl) m
noncomputable def B52_0 (pc:PC) (k:Nat) (j1:(D→D→D→List D→Option D)) (v0:D):Option D:=
bindO (elsD v0) fun l_1=>
j1 v0 (lenD l_1) (D.v (Value.int IntKind.i64 0)) []
noncomputable def C52_0:=B52_0 pc k (S52_1 pc k k)
theorem h52_0 (v0:D):bodyY P pc noY rk LA (k+1) 52 [v0]=C52_0 pc k v0:=(bqA Go.Proofs.Tryz.f52 code52 results52 (by kernel_rfl)).trans (Eq.trans (b:=B52_0 pc k (T52_1 pc rk k k) v0) (by kernel_rfl) (by rw[q52_1]; rfl))
noncomputable def code53:Code:=codeOf 53
noncomputable def results53:List ResultVar:=resOf 53
noncomputable def K53_prr:KA:=(cutKA (LvA.b (LvA.b (LA 53))).c (codeA P pc noY rk (codeFA P pc noY rk 53 k) 53 (cR (cR (cR code53))) (LvA.b (LvA.b (LvA.b (LA 53)))) (doneA P results53) X0A (doneA P results53)))
noncomputable def K53_pxrrlr:(Nat→KA):=(upA 0 (K53_prr pc rk k) X0A)
noncomputable def K53_prrlrl (m1:Nat):KA:=(cutKA (LvA.a (LvA.b (LvA.a (LvA.b (LvA.b (LA 53)))))).c (codeFA P pc noY rk 53 m1 (LvA.a (LvA.b (LvA.a (LvA.b (LvA.b (LA 53)))))) (cL (cR (cL (cR (cR code53))))) (K53_prr pc rk k) (K53_pxrrlr pc rk k) (doneA P results53)))
noncomputable def T53_1 (m1:Nat):=fun(u0:D) (u15:D) (u16:D) (u17:D) (l14:List D)=>labA (codeA P pc noY rk (codeFA P pc noY rk 53 m1) 53 (cL (cL (cR (cL (cR (cR code53)))))) (LvA.a (LvA.a (LvA.b (LvA.a (LvA.b (LvA.b (LA 53))))))) (K53_prrlrl pc rk k m1) (K53_pxrrlr pc rk k) (doneA P results53)) (Tr.set (Tr.set (Tr.set (Tr.set (Tr.set Tr.nil 17 (some (AV.d u17))) 16 (some (AV.d u16))) 15 (some (AV.d u15))) 5 (some (AV.osl 14))) 0 (some (AV.d u0))) (Tr.set Tr.nil 14 (some (Bx.vec l14 101 1 false)))
noncomputable def R53_1 (m1:Nat):(D→D→D→D→List D→Option D):=fun u0 u15 u16 u17 l14=>labA (codeFA P pc noY rk 53 m1 (LvA.a (LvA.b (LvA.a (LvA.b (LvA.b (LA 53)))))) (cL (cR (cL (cR (cR code53))))) (K53_prr pc rk k) (K53_pxrrlr pc rk k) (doneA P results53)) (Tr.set (Tr.set (Tr.set (Tr.set (Tr.set Tr.nil 17 (some (AV.d u17))) 16 (some (AV.d u16))) 15 (some (AV.d u15))) 5 (some (AV.osl 14))) 0 (some (AV.d u0))) (Tr.set Tr.nil 14 (some (Bx.vec l14 101 1 false)))
noncomputable def B53_1 (pc:PC) (k:Nat) (m1:Nat) (b1:(D→D→D→D→List D→Option D)) (u0:D) (u15:D) (u16:D) (u17:D) (l14:List D):Option D:=
bindO (binD P BinOp.lss 3 (Operand.tmp 17) (Operand.tmp 16) u17 u16) fun d_5=>
ifU d_5 (
bindO (elsD u15) fun l_6=>
bindO (idxD u17 l_6.length) fun i_7=>
bindO (l_6[i_7]?) fun d_8=>
chkK (leafD d_8) (
bindO (idxD u17 l14.length) fun i_9=>
bindO (l14[i_9]?) fun d_a=>
chkK (leafD d_a) (
bindO (pcD P pc 78 [u0,d_a]) fun d_b=>
bindO (pcD P pc 79 [d_b,d_8]) fun d_c=>
chkK (leafD d_c) (
bindO (appD l14 [d_c]) fun l_d=>
bindO (binD P BinOp.add 3 (Operand.tmp 17) (Operand.const (Value.int IntKind.i64 1)) u17 (D.v (Value.int IntKind.i64 1))) fun d_e=>
b1 u0 u15 u16 d_e l_d)))) (
some (D.sl l14))
noncomputable def C53_1 (m1:Nat):=B53_1 pc k m1
noncomputable def S53_1:Nat→(D→D→D→D→List D→Option D):=recF (C53_1 pc k) (fun _ _ _ _ _=>none)
theorem h53_1 (m1:Nat):T53_1 pc rk k m1=C53_1 pc k m1 (R53_1 pc rk k m1):=by kernel_rfl
theorem q53_1 (m:Nat):T53_1 pc rk k m=S53_1 pc k m:=recS (h53_1 pc rk k) (by kernel_rfl) (fun m=>by kernel_rfl) m
noncomputable def B53_0 (pc:PC) (k:Nat) (j1:(D→D→D→D→List D→Option D)) (v0:D) (v1:D):Option D:=
nilA (AV.d v0) (
bindO (derefD v0) fun c_1=>
bindO ((List.drop 3 c_1)[0]?) fun d_2=>
bindO (pcD P pc 76 [d_2]) fun d_3=>
chkK (leafD d_3) (
bindO (elsD v1) fun l_4=>
j1 v0 v1 (lenD l_4) (D.v (Value.int IntKind.i64 0)) [d_3]))
noncomputable def C53_0:=B53_0 pc k (S53_1 pc k k)
theorem h53_0 (v0:D) (v1:D):bodyY P pc noY rk LA (k+1) 53 [v0,v1]=C53_0 pc k v0 v1:=(bqA Go.Proofs.Tryz.f53 code53 results53 (by kernel_rfl)).trans (Eq.trans (b:=B53_0 pc k (T53_1 pc rk k k) v0 v1) (by kernel_rfl) (by rw[q53_1]; rfl))
noncomputable def code54:Code:=codeOf 54
noncomputable def results54:List ResultVar:=resOf 54
noncomputable def K54_prr:KA:=(cutKA (LvA.b (LvA.b (LA 54))).c (codeA P pc noY rk (codeFA P pc noY rk 54 k) 54 (cR (cR (cR code54))) (LvA.b (LvA.b (LvA.b (LA 54)))) (doneA P results54) X0A (doneA P results54)))
noncomputable def K54_prrr:KA:=(cutKA (LvA.b (LvA.b (LvA.b (LA 54)))).c (codeA P pc noY rk (codeFA P pc noY rk 54 k) 54 (cR (cR (cR (cR code54)))) (LvA.b (LvA.b (LvA.b (LvA.b (LA 54))))) (doneA P results54) X0A (doneA P results54)))
noncomputable def K54_pxrrrlr:(Nat→KA):=(upA 0 (K54_prrr pc rk k) X0A)
noncomputable def K54_prrrlrl (m1:Nat):KA:=(cutKA (LvA.a (LvA.b (LvA.a (LvA.b (LvA.b (LvA.b (LA 54))))))).c (codeFA P pc noY rk 54 m1 (LvA.a (LvA.b (LvA.a (LvA.b (LvA.b (LvA.b (LA 54))))))) (cL (cR (cL (cR (cR (cR code54)))))) (K54_prrr pc rk k) (K54_pxrrrlr pc rk k) (doneA P results54)))
noncomputable def T54_2 (m1:Nat):=fun(u4:D) (c1:List D)=>labA (codeA P pc noY rk (codeFA P pc noY rk 54 m1) 54 (cL (cL (cR (cL (cR (cR (cR code54))))))) (LvA.a (LvA.a (LvA.b (LvA.a (LvA.b (LvA.b (LvA.b (LA 54)))))))) (K54_prrrlrl pc rk k m1) (K54_pxrrrlr pc rk k) (doneA P results54)) (Tr.set (Tr.set Tr.nil 4 (some (AV.d u4))) 1 (some (AV.loc 1 0))) (Tr.set Tr.nil 1 (some (Bx.dat c1 false)))
noncomputable def R54_2 (m1:Nat):(D→List D→Option D):=fun u4 c1=>labA (codeFA P pc noY rk 54 m1 (LvA.a (LvA.b (LvA.a (LvA.b (LvA.b (LvA.b (LA 54))))))) (cL (cR (cL (cR (cR (cR code54)))))) (K54_prrr pc rk k) (K54_pxrrrlr pc rk k) (doneA P results54)) (Tr.set (Tr.set Tr.nil 4 (some (AV.d u4))) 1 (some (AV.loc 1 0))) (Tr.set Tr.nil 1 (some (Bx.dat c1 false)))
noncomputable def T54_1:=fun(u25:D) (c1:List D)=>labA (codeA P pc noY rk (codeFA P pc noY rk 54 k) 54 (cR (cL (cR (cR code54)))) (LvA.b (LvA.a (LvA.b (LvA.b (LA 54))))) (K54_prr pc rk k) X0A (doneA P results54)) (Tr.set (Tr.set Tr.nil 25 (some (AV.d u25))) 1 (some (AV.loc 1 0))) (Tr.set Tr.nil 1 (some (Bx.dat c1 false)))
noncomputable def B54_2 (pc:PC) (k:Nat) (m1:Nat) (b2:(D→List D→Option D)) (u4:D) (c1:List D):Option D:=
bindO (c1[4]?) fun d_9=>
bindO (elsD d_9) fun l_a=>
bindO (binD P BinOp.lss 3 (Operand.tmp 26) (Operand.tmp 29) u4 (lenD l_a)) fun d_b=>
ifU d_b (
bindO (c1[4]?) fun d_c=>
bindO (elsD d_c) fun l_d=>
bindO (idxD u4 l_d.length) fun i_e=>
bindO (l_d[i_e]?) fun d_f=>
chkK (leafD d_f) (
bindO (pcD P pc 60 [d_f,(D.v (Value.int IntKind.i64 0)),(D.v (Value.int IntKind.i64 100))]) fun d_g=>
bindO (semD P d_g (Op.unary UnOp.not)) fun d_h=>
ifU d_h (
some (D.v (Value.int IntKind.i64 1))) (
bindO (binD P BinOp.add 3 (Operand.tmp 31) (Operand.const (Value.int IntKind.i64 1)) u4 (D.v (Value.int IntKind.i64 1))) fun d_i=>
b2 d_i c1))) (
some (D.v (Value.int IntKind.i64 0)))
noncomputable def C54_2 (m1:Nat):=B54_2 pc k m1
noncomputable def S54_2:Nat→(D→List D→Option D):=recF (C54_2 pc k) (fun _ _=>none)
theorem h54_2 (m1:Nat):T54_2 pc rk k m1=C54_2 pc k m1 (R54_2 pc rk k m1):=by kernel_rfl
theorem q54_2 (m:Nat):T54_2 pc rk k m=S54_2 pc k m:=recS (h54_2 pc rk k) (by kernel_rfl) (fun m=>by kernel_rfl) m
noncomputable def B54_1 (pc:PC) (k:Nat) (j2:(D→List D→Option D)) (u25:D) (c1:List D):Option D:=
ifU u25 (
some (D.v (Value.int IntKind.i64 1))) (
j2 (D.v (Value.int IntKind.i64 0)) c1)
noncomputable def C54_1:=B54_1 pc k (S54_2 pc k k)
theorem h54_1:T54_1 pc rk k=C54_1 pc k:=Eq.trans (b:=B54_1 pc k (T54_2 pc rk k k)) (by kernel_rfl) (by rw[q54_2]; rfl)
noncomputable def B54_0 (pc:PC) (k:Nat) (j1:(D→List D→Option D)) (v0:D):Option D:=
bindO (aggD v0) fun c_1=>
bindO (cutD c_1 0 3) fun c_2=>
bindO (pcD P pc 80 [(D.agg c_2)]) fun d_3=>
bindO (binD P BinOp.neq 3 (Operand.tmp 8) (Operand.const (Value.int IntKind.i64 0)) d_3 (D.v (Value.int IntKind.i64 0))) fun d_4=>
ifU d_4 (
some d_3) (
bindO (cutD c_1 0 5) fun c_5=>
bindO (c_1[3]?) fun d_6=>
bindO (pcD P pc 81 [(D.agg c_5),d_6]) fun d_7=>
bindO (semD P d_7 (Op.unary UnOp.not)) fun d_8=>
ifU d_8 (
j1 (D.v (Value.bool true)) c_1) (
bindO (c_1[4]?) fun d_j=>
bindO (elsD d_j) fun l_k=>
bindO (c_1[0]?) fun d_l=>
bindO (elsD d_l) fun l_m=>
bindO (binD P BinOp.neq 3 (Operand.tmp 19) (Operand.tmp 23) (lenD l_k) (lenD l_m)) fun d_n=>
j1 d_n c_1))
noncomputable def C54_0:=B54_0 pc k (C54_1 pc k)
theorem h54_0 (v0:D):bodyY P pc noY rk LA (k+1) 54 [v0]=C54_0 pc k v0:=(bqA Go.Proofs.Tryz.f54 code54 results54 (by kernel_rfl)).trans (Eq.trans (b:=B54_0 pc k (T54_1 pc rk k) v0) (by kernel_rfl) (by rw[h54_1]; rfl))
noncomputable def code58:Code:=codeOf 58
noncomputable def results58:List ResultVar:=resOf 58
noncomputable def K58_prr:KA:=(cutKA (LvA.b (LvA.b (LA 58))).c (codeA P pc noY rk (codeFA P pc noY rk 58 k) 58 (cR (cR (cR code58))) (LvA.b (LvA.b (LvA.b (LA 58)))) (doneA P results58) X0A (doneA P results58)))
noncomputable def K58_pxrrlr:(Nat→KA):=(upA 0 (K58_prr pc rk k) X0A)
noncomputable def K58_prrlrl (m1:Nat):KA:=(cutKA (LvA.a (LvA.b (LvA.a (LvA.b (LvA.b (LA 58)))))).c (codeFA P pc noY rk 58 m1 (LvA.a (LvA.b (LvA.a (LvA.b (LvA.b (LA 58)))))) (cL (cR (cL (cR (cR code58))))) (K58_prr pc rk k) (K58_pxrrlr pc rk k) (doneA P results58)))
noncomputable def T58_1 (m1:Nat):=fun(u0:D) (u5:D) (u8:D) (u9:D) (u10:D)=>labA (codeA P pc noY rk (codeFA P pc noY rk 58 m1) 58 (cL (cL (cR (cL (cR (cR code58)))))) (LvA.a (LvA.a (LvA.b (LvA.a (LvA.b (LvA.b (LA 58))))))) (K58_prrlrl pc rk k m1) (K58_pxrrlr pc rk k) (doneA P results58)) (Tr.set (Tr.set (Tr.set (Tr.set (Tr.set Tr.nil 10 (some (AV.d u10))) 9 (some (AV.d u9))) 8 (some (AV.d u8))) 5 (some (AV.d u5))) 0 (some (AV.d u0))) Tr.nil
noncomputable def R58_1 (m1:Nat):(D→D→D→D→D→Option D):=fun u0 u5 u8 u9 u10=>labA (codeFA P pc noY rk 58 m1 (LvA.a (LvA.b (LvA.a (LvA.b (LvA.b (LA 58)))))) (cL (cR (cL (cR (cR code58))))) (K58_prr pc rk k) (K58_pxrrlr pc rk k) (doneA P results58)) (Tr.set (Tr.set (Tr.set (Tr.set (Tr.set Tr.nil 10 (some (AV.d u10))) 9 (some (AV.d u9))) 8 (some (AV.d u8))) 5 (some (AV.d u5))) 0 (some (AV.d u0))) Tr.nil
noncomputable def B58_1 (pc:PC) (k:Nat) (m1:Nat) (b1:(D→D→D→D→D→Option D)) (u0:D) (u5:D) (u8:D) (u9:D) (u10:D):Option D:=
bindO (binD P BinOp.lss 3 (Operand.tmp 10) (Operand.tmp 9) u10 u9) fun d_2=>
ifU d_2 (
bindO (elsD u8) fun l_3=>
bindO (idxD u10 l_3.length) fun i_4=>
bindO (l_3[i_4]?) fun d_5=>
chkK (leafD d_5) (
nilA (AV.d u0) (
bindO (derefD u0) fun c_6=>
bindO ((List.drop 4 c_6)[0]?) fun d_7=>
bindO (elsD d_7) fun l_8=>
bindO (idxD d_5 l_8.length) fun i_9=>
bindO (l_8[i_9]?) fun d_a=>
chkK (leafD d_a) (
bindO (binD P BinOp.add 3 (Operand.tmp 14) (Operand.tmp 22) u5 d_a) fun d_b=>
bindO (binD P BinOp.add 3 (Operand.tmp 10) (Operand.const (Value.int IntKind.i64 1)) u10 (D.v (Value.int IntKind.i64 1))) fun d_c=>
b1 u0 d_b u8 u9 d_c)))) (
some u5)
noncomputable def C58_1 (m1:Nat):=B58_1 pc k m1
noncomputable def S58_1:Nat→(D→D→D→D→D→Option D):=recF (C58_1 pc k) (fun _ _ _ _ _=>none)
noncomputable def B58_0 (pc:PC) (k:Nat) (j1:(D→D→D→D→D→Option D)) (v0:D) (v1:D):Option D:=
bindO (elsD v1) fun l_1=>
j1 v0 (D.v (Value.int IntKind.i64 0)) v1 (lenD l_1) (D.v (Value.int IntKind.i64 0))
noncomputable def C58_0:=B58_0 pc k (S58_1 pc k k)
noncomputable def code60:Code:=codeOf 60
noncomputable def results60:List ResultVar:=resOf 60
noncomputable def B60_0 (pc:PC) (k:Nat) (v0:D) (v1:D) (v2:D):Option D:=
bindO (binD P BinOp.geq 3 (Operand.tmp 7) (Operand.tmp 8) v0 v1) fun d_1=>
ifU d_1 (
bindO (binD P BinOp.leq 3 (Operand.tmp 11) (Operand.tmp 12) v0 v2) fun d_2=>
some d_2) (
some (D.v (Value.bool false)))
noncomputable def C60_0:=B60_0 pc k
theorem h60_0 (v0:D) (v1:D) (v2:D):bodyY P pc noY rk LA (k+1) 60 [v0,v1,v2]=C60_0 pc k v0 v1 v2:=(bqA Go.Proofs.Tryz.f60 code60 results60 (by kernel_rfl)).trans (by kernel_rfl)
noncomputable def code65:Code:=codeOf 65
noncomputable def results65:List ResultVar:=resOf 65
noncomputable def K65_prrr:KA:=(cutKA (LvA.b (LvA.b (LvA.b (LA 65)))).c (codeA P pc noY rk (codeFA P pc noY rk 65 k) 65 (cR (cR (cR (cR code65)))) (LvA.b (LvA.b (LvA.b (LvA.b (LA 65))))) (doneA P results65) X0A (doneA P results65)))
noncomputable def K65_pxrrrlr:(Nat→KA):=(upA 0 (K65_prrr pc rk k) X0A)
noncomputable def K65_prrrlrl (m1:Nat):KA:=(cutKA (LvA.a (LvA.b (LvA.a (LvA.b (LvA.b (LvA.b (LA 65))))))).c (codeFA P pc noY rk 65 m1 (LvA.a (LvA.b (LvA.a (LvA.b (LvA.b (LvA.b (LA 65))))))) (cL (cR (cL (cR (cR (cR code65)))))) (K65_prrr pc rk k) (K65_pxrrrlr pc rk k) (doneA P results65)))
noncomputable def K65_prrrr:KA:=(cutKA (LvA.b (LvA.b (LvA.b (LvA.b (LA 65))))).c (codeA P pc noY rk (codeFA P pc noY rk 65 k) 65 (cR (cR (cR (cR (cR code65))))) (LvA.b (LvA.b (LvA.b (LvA.b (LvA.b (LA 65)))))) (doneA P results65) X0A (doneA P results65)))
noncomputable def K65_pxrrrrlr:(Nat→KA):=(upA 2 (K65_prrrr pc rk k) X0A)
noncomputable def K65_prrrrlrl (m1:Nat):KA:=(cutKA (LvA.a (LvA.b (LvA.a (LvA.b (LvA.b (LvA.b (LvA.b (LA 65)))))))).c (codeFA P pc noY rk 65 m1 (LvA.a (LvA.b (LvA.a (LvA.b (LvA.b (LvA.b (LvA.b (LA 65)))))))) (cL (cR (cL (cR (cR (cR (cR code65))))))) (K65_prrrr pc rk k) (K65_pxrrrrlr pc rk k) (doneA P results65)))
noncomputable def T65_2 (m1:Nat):=fun(u40:D) (u41:D) (u42:D) (c16:List D)=>labA (codeA P pc noY rk (codeFA P pc noY rk 65 m1) 65 (cL (cL (cR (cL (cR (cR (cR (cR code65)))))))) (LvA.a (LvA.a (LvA.b (LvA.a (LvA.b (LvA.b (LvA.b (LvA.b (LA 65))))))))) (K65_prrrrlrl pc rk k m1) (K65_pxrrrrlr pc rk k) (doneA P results65)) (Tr.set (Tr.set (Tr.set (Tr.set Tr.nil 42 (some (AV.d u42))) 41 (some (AV.d u41))) 40 (some (AV.d u40))) 5 (some (AV.loc 16 0))) (Tr.set Tr.nil 16 (some (Bx.dat c16 false)))
noncomputable def R65_2 (m1:Nat):(D→D→D→List D→Option D):=fun u40 u41 u42 c16=>labA (codeFA P pc noY rk 65 m1 (LvA.a (LvA.b (LvA.a (LvA.b (LvA.b (LvA.b (LvA.b (LA 65)))))))) (cL (cR (cL (cR (cR (cR (cR code65))))))) (K65_prrrr pc rk k) (K65_pxrrrrlr pc rk k) (doneA P results65)) (Tr.set (Tr.set (Tr.set (Tr.set Tr.nil 42 (some (AV.d u42))) 41 (some (AV.d u41))) 40 (some (AV.d u40))) 5 (some (AV.loc 16 0))) (Tr.set Tr.nil 16 (some (Bx.dat c16 false)))
noncomputable def T65_1 (m1:Nat):=fun(u22:D) (u23:D) (c16:List D)=>labA (codeA P pc noY rk (codeFA P pc noY rk 65 m1) 65 (cL (cL (cR (cL (cR (cR (cR code65))))))) (LvA.a (LvA.a (LvA.b (LvA.a (LvA.b (LvA.b (LvA.b (LA 65)))))))) (K65_prrrlrl pc rk k m1) (K65_pxrrrlr pc rk k) (doneA P results65)) (Tr.set (Tr.set (Tr.set Tr.nil 23 (some (AV.d u23))) 22 (some (AV.d u22))) 5 (some (AV.loc 16 0))) (Tr.set Tr.nil 16 (some (Bx.dat c16 false)))
noncomputable def R65_1 (m1:Nat):(D→D→List D→Option D):=fun u22 u23 c16=>labA (codeFA P pc noY rk 65 m1 (LvA.a (LvA.b (LvA.a (LvA.b (LvA.b (LvA.b (LA 65))))))) (cL (cR (cL (cR (cR (cR code65)))))) (K65_prrr pc rk k) (K65_pxrrrlr pc rk k) (doneA P results65)) (Tr.set (Tr.set (Tr.set Tr.nil 23 (some (AV.d u23))) 22 (some (AV.d u22))) 5 (some (AV.loc 16 0))) (Tr.set Tr.nil 16 (some (Bx.dat c16 false)))
noncomputable def B65_2 (pc:PC) (k:Nat) (m1:Nat) (b2:(D→D→D→List D→Option D)) (u40:D) (u41:D) (u42:D) (c16:List D):Option D:=
bindO (binD P BinOp.lss 3 (Operand.tmp 42) (Operand.tmp 41) u42 u41) fun d_f=>
ifU d_f (
bindO (elsD u40) fun l_g=>
bindO (idxD u42 l_g.length) fun i_h=>
bindO (l_g[i_h]?) fun d_i=>
bindO (aggD d_i) fun c_j=>
chkK (Nat.beq c_j.length 2) (
bindO (cutD c_j 0 2) fun c_k=>
bindO (splD [(D.v (Value.int IntKind.i64 0)),(D.v (Value.int IntKind.i64 0))] 0 c_k 2) fun c_l=>
bindO (c_l[0]?) fun d_m=>
bindO (idxD d_m 8) fun i_n=>
bindO (c16[(5+i_n * 1)]?) fun d_o=>
bindO (c_l[1]?) fun d_p=>
chkK (leafD d_p) (
bindO (pcD P pc 76 [(D.sl [d_p])]) fun d_q=>
bindO (binD P BinOp.or 101 (Operand.tmp 52) (Operand.tmp 56) d_o d_q) fun d_r=>
bindO (idxD d_m 8) fun i_s=>
chkK (leafD d_r) (
chkK (Nat.blt (5+i_s * 1) c16.length) (
bindO (c_l[1]?) fun d_t=>
bindO (idxD d_t 8) fun i_u=>
bindO ((List.set c16 (5+i_s * 1) d_r)[(5+i_u * 1)]?) fun d_v=>
bindO (c_l[0]?) fun d_w=>
chkK (leafD d_w) (
bindO (pcD P pc 76 [(D.sl [d_w])]) fun d_x=>
bindO (binD P BinOp.or 101 (Operand.tmp 67) (Operand.tmp 71) d_v d_x) fun d_y=>
bindO (idxD d_t 8) fun i_z=>
chkK (leafD d_y) (
chkK (Nat.blt (5+i_z * 1) (List.set c16 (5+i_s * 1) d_r).length) (
bindO (binD P BinOp.add 3 (Operand.tmp 42) (Operand.const (Value.int IntKind.i64 1)) u42 (D.v (Value.int IntKind.i64 1))) fun d_10=>
b2 u40 u41 d_10 (List.set (List.set c16 (5+i_s * 1) d_r) (5+i_z * 1) d_y))))))))) (
some (D.tup [(D.ref c16),(D.v (Value.int IntKind.i64 0))]))
noncomputable def C65_2 (m1:Nat):=B65_2 pc k m1
noncomputable def S65_2:Nat→(D→D→D→List D→Option D):=recF (C65_2 pc k) (fun _ _ _ _=>none)
theorem h65_2 (m1:Nat):T65_2 pc rk k m1=C65_2 pc k m1 (R65_2 pc rk k m1):=by kernel_rfl
theorem q65_2 (m:Nat):T65_2 pc rk k m=S65_2 pc k m:=recS (h65_2 pc rk k) (by kernel_rfl) (fun m=>by kernel_rfl) m
noncomputable def B65_1 (pc:PC) (k:Nat) (m1:Nat) (j2:(D→D→D→List D→Option D)) (b1:(D→D→List D→Option D)) (u22:D) (u23:D) (c16:List D):Option D:=
bindO (binD P BinOp.lss 3 (Operand.tmp 23) (Operand.tmp 22) u23 u22) fun d_9=>
ifU d_9 (
chkK (leafD u23) (
bindO (pcD P pc 76 [(D.sl [u23])]) fun d_a=>
bindO (idxD u23 8) fun i_b=>
chkK (leafD d_a) (
chkK (Nat.blt (5+i_b * 1) c16.length) (
bindO (binD P BinOp.add 3 (Operand.tmp 23) (Operand.const (Value.int IntKind.i64 1)) u23 (D.v (Value.int IntKind.i64 1))) fun d_c=>
b1 u22 d_c (List.set c16 (5+i_b * 1) d_a))))) (
bindO (c16[1]?) fun d_d=>
bindO (elsD d_d) fun l_e=>
j2 d_d (lenD l_e) (D.v (Value.int IntKind.i64 0)) c16)
noncomputable def C65_1 (m1:Nat):=B65_1 pc k m1 (S65_2 pc k k)
noncomputable def S65_1:Nat→(D→D→List D→Option D):=recF (C65_1 pc k) (fun _ _ _=>none)
theorem h65_1 (m1:Nat):T65_1 pc rk k m1=C65_1 pc k m1 (R65_1 pc rk k m1):=Eq.trans (b:=B65_1 pc k m1 (T65_2 pc rk k k) (R65_1 pc rk k m1)) (by kernel_rfl) (by rw[q65_2]; rfl)
theorem q65_1 (m:Nat):T65_1 pc rk k m=S65_1 pc k m:=recS (h65_1 pc rk k) (by kernel_rfl) (fun m=>by kernel_rfl) m
noncomputable def B65_0 (pc:PC) (k:Nat) (j1:(D→D→List D→Option D)) (v0:D):Option D:=
bindO (aggD v0) fun c_1=>
bindO (cutD c_1 0 5) fun c_2=>
bindO (pcD P pc 49 [(D.agg c_2)]) fun d_3=>
bindO (binD P BinOp.neq 33 (Operand.tmp 11) (Operand.const (Value.int IntKind.i64 0)) d_3 (D.v (Value.int IntKind.i64 0))) fun d_4=>
ifU d_4 (
some (D.tup [(D.v (Value.pointer none)),d_3])) (
bindO (cutD c_1 0 5) fun c_5=>
bindO (fillD [(D.v (Value.slice none 0 0)),(D.v (Value.slice none 0 0)),(D.v (Value.slice none 0 0)),(D.v (Value.slice none 0 0)),(D.v (Value.slice none 0 0)),(D.v (Value.int IntKind.u64 0)),(D.v (Value.int IntKind.u64 0)),(D.v (Value.int IntKind.u64 0)),(D.v (Value.int IntKind.u64 0)),(D.v (Value.int IntKind.u64 0)),(D.v (Value.int IntKind.u64 0)),(D.v (Value.int IntKind.u64 0)),(D.v (Value.int IntKind.u64 0))] [(0,5,(D.agg c_5))]) fun c_6=>
bindO (c_6[4]?) fun d_7=>
bindO (elsD d_7) fun l_8=>
j1 (lenD l_8) (D.v (Value.int IntKind.i64 0)) c_6)
noncomputable def C65_0:=B65_0 pc k (S65_1 pc k k)
theorem h65_0 (v0:D):bodyY P pc noY rk LA (k+1) 65 [v0]=C65_0 pc k v0:=(bqA Go.Proofs.Tryz.f65 code65 results65 (by kernel_rfl)).trans (Eq.trans (b:=B65_0 pc k (T65_1 pc rk k k) v0) (by kernel_rfl) (by rw[q65_1]; rfl))
noncomputable def code70:Code:=codeOf 70
noncomputable def results70:List ResultVar:=resOf 70
noncomputable def B70_0 (pc:PC) (k:Nat) (v0:D):Option D:=
bindO (aggD v0) fun c_1=>
bindO (cutD c_1 0 3) fun c_2=>
bindO (pcD P pc 95 [(D.agg c_2)]) fun d_3=>
some d_3
noncomputable def C70_0:=B70_0 pc k
theorem h70_0 (v0:D):bodyY P pc noY rk LA (k+1) 70 [v0]=C70_0 pc k v0:=(bqA Go.Proofs.Tryz.f70 code70 results70 (by kernel_rfl)).trans (by kernel_rfl)
noncomputable def code71:Code:=codeOf 71
noncomputable def results71:List ResultVar:=resOf 71
noncomputable def B71_0 (pc:PC) (k:Nat) (v0:D) (v1:D):Option D:=
bindO (aggD v0) fun c_1=>
bindO (cutD c_1 0 5) fun c_2=>
bindO (pcD P pc 72 [v1,(D.fn 86 [(D.agg c_2)] [])]) fun d_3=>
ifU d_3 (
bindO (pcD P pc 96 [v1]) fun d_4=>
some d_4) (
some (D.v (Value.bool false)))
noncomputable def C71_0:=B71_0 pc k
theorem h71_0 (v0:D) (v1:D):bodyY P pc noY rk LA (k+1) 71 [v0,v1]=C71_0 pc k v0 v1:=(bqA Go.Proofs.Tryz.f71 code71 results71 (by kernel_rfl)).trans (by kernel_rfl)
noncomputable def code72:Code:=codeOf 72
noncomputable def results72:List ResultVar:=resOf 72
noncomputable def K72_pr:KA:=(cutKA (LvA.b (LA 72)).c (codeA P pc noY rk (codeFA P pc noY rk 72 k) 72 (cR (cR code72)) (LvA.b (LvA.b (LA 72))) (doneA P results72) X0A (doneA P results72)))
noncomputable def K72_pxrlr:(Nat→KA):=(upA 0 (K72_pr pc rk k) X0A)
noncomputable def K72_prlrl (m1:Nat):KA:=(cutKA (LvA.a (LvA.b (LvA.a (LvA.b (LA 72))))).c (codeFA P pc noY rk 72 m1 (LvA.a (LvA.b (LvA.a (LvA.b (LA 72))))) (cL (cR (cL (cR code72)))) (K72_pr pc rk k) (K72_pxrlr pc rk k) (doneA P results72)))
noncomputable def T72_1 (m1:Nat):=fun(u1:D) (u7:D) (u8:D) (u9:D)=>labA (codeA P pc noY rk (codeFA P pc noY rk 72 m1) 72 (cL (cL (cR (cL (cR code72))))) (LvA.a (LvA.a (LvA.b (LvA.a (LvA.b (LA 72)))))) (K72_prlrl pc rk k m1) (K72_pxrlr pc rk k) (doneA P results72)) (Tr.set (Tr.set (Tr.set (Tr.set Tr.nil 9 (some (AV.d u9))) 8 (some (AV.d u8))) 7 (some (AV.d u7))) 1 (some (AV.d u1))) Tr.nil
noncomputable def R72_1 (m1:Nat):(D→D→D→D→Option D):=fun u1 u7 u8 u9=>labA (codeFA P pc noY rk 72 m1 (LvA.a (LvA.b (LvA.a (LvA.b (LA 72))))) (cL (cR (cL (cR code72)))) (K72_pr pc rk k) (K72_pxrlr pc rk k) (doneA P results72)) (Tr.set (Tr.set (Tr.set (Tr.set Tr.nil 9 (some (AV.d u9))) 8 (some (AV.d u8))) 7 (some (AV.d u7))) 1 (some (AV.d u1))) Tr.nil
noncomputable def B72_1 (pc:PC) (k:Nat) (m1:Nat) (b1:(D→D→D→D→Option D)) (u1:D) (u7:D) (u8:D) (u9:D):Option D:=
bindO (binD P BinOp.lss 3 (Operand.tmp 9) (Operand.tmp 8) u9 u8) fun d_2=>
ifU d_2 (
bindO (elsD u7) fun l_3=>
bindO (idxD u9 l_3.length) fun i_4=>
bindO (l_3[i_4]?) fun d_5=>
chkK (leafD d_5) (
fnK u1 fun g a b=>
bindO (pcD P pc g (a++[d_5]++b)) fun d_6=>
bindO (semD P d_6 (Op.unary UnOp.not)) fun d_7=>
ifU d_7 (
some (D.v (Value.bool false))) (
bindO (binD P BinOp.add 3 (Operand.tmp 9) (Operand.const (Value.int IntKind.i64 1)) u9 (D.v (Value.int IntKind.i64 1))) fun d_8=>
b1 u1 u7 u8 d_8))) (
some (D.v (Value.bool true)))
noncomputable def C72_1 (m1:Nat):=B72_1 pc k m1
noncomputable def S72_1:Nat→(D→D→D→D→Option D):=recF (C72_1 pc k) (fun _ _ _ _=>none)
theorem h72_1 (m1:Nat):T72_1 pc rk k m1=C72_1 pc k m1 (R72_1 pc rk k m1):=by kernel_rfl
theorem q72_1 (m:Nat):T72_1 pc rk k m=S72_1 pc k m:=recS (h72_1 pc rk k) (by kernel_rfl) (fun m=>by kernel_rfl) m
noncomputable def B72_0 (pc:PC) (k:Nat) (j1:(D→D→D→D→Option D)) (v0:D) (v1:D):Option D:=
bindO (elsD v0) fun l_1=>
j1 v1 v0 (lenD l_1) (D.v (Value.int IntKind.i64 0))
noncomputable def C72_0:=B72_0 pc k (S72_1 pc k k)
theorem h72_0 (v0:D) (v1:D):bodyY P pc noY rk LA (k+1) 72 [v0,v1]=C72_0 pc k v0 v1:=(bqA Go.Proofs.Tryz.f72 code72 results72 (by kernel_rfl)).trans (Eq.trans (b:=B72_0 pc k (T72_1 pc rk k k) v0 v1) (by kernel_rfl) (by rw[q72_1]; rfl))
noncomputable def code73:Code:=codeOf 73
noncomputable def results73:List ResultVar:=resOf 73
noncomputable def B73_0 (pc:PC) (k:Nat) (v0:D):Option D:=
bindO (binD P BinOp.geq 3 (Operand.tmp 3) (Operand.const (Value.int IntKind.i64 0)) v0 (D.v (Value.int IntKind.i64 0))) fun d_1=>
ifU d_1 (
bindO (binD P BinOp.leq 3 (Operand.tmp 6) (Operand.const (Value.int IntKind.i64 100)) v0 (D.v (Value.int IntKind.i64 100))) fun d_2=>
some d_2) (
some (D.v (Value.bool false)))
noncomputable def C73_0:=B73_0 pc k
theorem h73_0 (v0:D):bodyY P pc noY rk LA (k+1) 73 [v0]=C73_0 pc k v0:=(bqA Go.Proofs.Tryz.f73 code73 results73 (by kernel_rfl)).trans (by kernel_rfl)
noncomputable def code74:Code:=codeOf 74
noncomputable def results74:List ResultVar:=resOf 74
noncomputable def B74_0 (pc:PC) (k:Nat) (v0:D):Option D:=
bindO (aggD v0) fun c_1=>
bindO (c_1[0]?) fun d_2=>
bindO (c_1[1]?) fun d_3=>
chkK (leafD d_2) (
chkK (leafD d_3) (
some (D.agg [d_2,d_3])))
noncomputable def C74_0:=B74_0 pc k
theorem h74_0 (v0:D):bodyY P pc noY rk LA (k+1) 74 [v0]=C74_0 pc k v0:=(bqA Go.Proofs.Tryz.f74 code74 results74 (by kernel_rfl)).trans (by kernel_rfl)
noncomputable def code75:Code:=codeOf 75
noncomputable def results75:List ResultVar:=resOf 75
noncomputable def K75_pr:KA:=(cutKA (LvA.b (LA 75)).c (codeA P pc noY rk (codeFA P pc noY rk 75 k) 75 (cR (cR code75)) (LvA.b (LvA.b (LA 75))) (doneA P results75) X0A (doneA P results75)))
noncomputable def K75_pxrlr:(Nat→KA):=(upA 0 (K75_pr pc rk k) X0A)
noncomputable def K75_prlrl (m1:Nat):KA:=(cutKA (LvA.a (LvA.b (LvA.a (LvA.b (LA 75))))).c (codeFA P pc noY rk 75 m1 (LvA.a (LvA.b (LvA.a (LvA.b (LA 75))))) (cL (cR (cL (cR code75)))) (K75_pr pc rk k) (K75_pxrlr pc rk k) (doneA P results75)))
noncomputable def T75_1 (m1:Nat):=fun(u1:D) (u7:D) (u8:D) (u9:D)=>labA (codeA P pc noY rk (codeFA P pc noY rk 75 m1) 75 (cL (cL (cR (cL (cR code75))))) (LvA.a (LvA.a (LvA.b (LvA.a (LvA.b (LA 75)))))) (K75_prlrl pc rk k m1) (K75_pxrlr pc rk k) (doneA P results75)) (Tr.set (Tr.set (Tr.set (Tr.set Tr.nil 9 (some (AV.d u9))) 8 (some (AV.d u8))) 7 (some (AV.d u7))) 1 (some (AV.d u1))) Tr.nil
noncomputable def R75_1 (m1:Nat):(D→D→D→D→Option D):=fun u1 u7 u8 u9=>labA (codeFA P pc noY rk 75 m1 (LvA.a (LvA.b (LvA.a (LvA.b (LA 75))))) (cL (cR (cL (cR code75)))) (K75_pr pc rk k) (K75_pxrlr pc rk k) (doneA P results75)) (Tr.set (Tr.set (Tr.set (Tr.set Tr.nil 9 (some (AV.d u9))) 8 (some (AV.d u8))) 7 (some (AV.d u7))) 1 (some (AV.d u1))) Tr.nil
noncomputable def B75_1 (pc:PC) (k:Nat) (m1:Nat) (b1:(D→D→D→D→Option D)) (u1:D) (u7:D) (u8:D) (u9:D):Option D:=
bindO (binD P BinOp.lss 3 (Operand.tmp 9) (Operand.tmp 8) u9 u8) fun d_2=>
ifU d_2 (
bindO (elsD u7) fun l_3=>
bindO (idxD u9 l_3.length) fun i_4=>
bindO (l_3[i_4]?) fun d_5=>
chkK (leafD d_5) (
fnK u1 fun g a b=>
bindO (pcD P pc g (a++[d_5]++b)) fun d_6=>
bindO (semD P d_6 (Op.unary UnOp.not)) fun d_7=>
ifU d_7 (
some (D.v (Value.bool false))) (
bindO (binD P BinOp.add 3 (Operand.tmp 9) (Operand.const (Value.int IntKind.i64 1)) u9 (D.v (Value.int IntKind.i64 1))) fun d_8=>
b1 u1 u7 u8 d_8))) (
some (D.v (Value.bool true)))
noncomputable def C75_1 (m1:Nat):=B75_1 pc k m1
noncomputable def S75_1:Nat→(D→D→D→D→Option D):=recF (C75_1 pc k) (fun _ _ _ _=>none)
theorem h75_1 (m1:Nat):T75_1 pc rk k m1=C75_1 pc k m1 (R75_1 pc rk k m1):=by kernel_rfl
theorem q75_1 (m:Nat):T75_1 pc rk k m=S75_1 pc k m:=recS (h75_1 pc rk k) (by kernel_rfl) (fun m=>by kernel_rfl) m
noncomputable def B75_0 (pc:PC) (k:Nat) (j1:(D→D→D→D→Option D)) (v0:D) (v1:D):Option D:=
bindO (elsD v0) fun l_1=>
j1 v1 v0 (lenD l_1) (D.v (Value.int IntKind.i64 0))
noncomputable def C75_0:=B75_0 pc k (S75_1 pc k k)
theorem h75_0 (v0:D) (v1:D):bodyY P pc noY rk LA (k+1) 75 [v0,v1]=C75_0 pc k v0 v1:=(bqA Go.Proofs.Tryz.f75 code75 results75 (by kernel_rfl)).trans (Eq.trans (b:=B75_0 pc k (T75_1 pc rk k k) v0 v1) (by kernel_rfl) (by rw[q75_1]; rfl))
noncomputable def code76:Code:=codeOf 76
noncomputable def results76:List ResultVar:=resOf 76
noncomputable def K76_prr:KA:=(cutKA (LvA.b (LvA.b (LA 76))).c (codeA P pc noY rk (codeFA P pc noY rk 76 k) 76 (cR (cR (cR code76))) (LvA.b (LvA.b (LvA.b (LA 76)))) (doneA P results76) X0A (doneA P results76)))
noncomputable def K76_pxrrlr:(Nat→KA):=(upA 0 (K76_prr pc rk k) X0A)
noncomputable def K76_prrlrl (m1:Nat):KA:=(cutKA (LvA.a (LvA.b (LvA.a (LvA.b (LvA.b (LA 76)))))).c (codeFA P pc noY rk 76 m1 (LvA.a (LvA.b (LvA.a (LvA.b (LvA.b (LA 76)))))) (cL (cR (cL (cR (cR code76))))) (K76_prr pc rk k) (K76_pxrrlr pc rk k) (doneA P results76)))
noncomputable def T76_1 (m1:Nat):=fun(u3:D) (u6:D) (u7:D) (u8:D)=>labA (codeA P pc noY rk (codeFA P pc noY rk 76 m1) 76 (cL (cL (cR (cL (cR (cR code76)))))) (LvA.a (LvA.a (LvA.b (LvA.a (LvA.b (LvA.b (LA 76))))))) (K76_prrlrl pc rk k m1) (K76_pxrrlr pc rk k) (doneA P results76)) (Tr.set (Tr.set (Tr.set (Tr.set Tr.nil 8 (some (AV.d u8))) 7 (some (AV.d u7))) 6 (some (AV.d u6))) 3 (some (AV.d u3))) Tr.nil
noncomputable def R76_1 (m1:Nat):(D→D→D→D→Option D):=fun u3 u6 u7 u8=>labA (codeFA P pc noY rk 76 m1 (LvA.a (LvA.b (LvA.a (LvA.b (LvA.b (LA 76)))))) (cL (cR (cL (cR (cR code76))))) (K76_prr pc rk k) (K76_pxrrlr pc rk k) (doneA P results76)) (Tr.set (Tr.set (Tr.set (Tr.set Tr.nil 8 (some (AV.d u8))) 7 (some (AV.d u7))) 6 (some (AV.d u6))) 3 (some (AV.d u3))) Tr.nil
noncomputable def B76_1 (pc:PC) (k:Nat) (m1:Nat) (b1:(D→D→D→D→Option D)) (u3:D) (u6:D) (u7:D) (u8:D):Option D:=
bindO (binD P BinOp.lss 3 (Operand.tmp 8) (Operand.tmp 7) u8 u7) fun d_2=>
ifU d_2 (
bindO (elsD u6) fun l_3=>
bindO (idxD u8 l_3.length) fun i_4=>
bindO (l_3[i_4]?) fun d_5=>
chkK (leafD d_5) (
bindO (binD P BinOp.shl 101 (Operand.const (Value.int IntKind.u64 1)) (Operand.tmp 13) (D.v (Value.int IntKind.u64 1)) d_5) fun d_6=>
bindO (binD P BinOp.or 101 (Operand.tmp 12) (Operand.tmp 14) u3 d_6) fun d_7=>
bindO (binD P BinOp.add 3 (Operand.tmp 8) (Operand.const (Value.int IntKind.i64 1)) u8 (D.v (Value.int IntKind.i64 1))) fun d_8=>
b1 d_7 u6 u7 d_8)) (
some u3)
noncomputable def C76_1 (m1:Nat):=B76_1 pc k m1
noncomputable def S76_1:Nat→(D→D→D→D→Option D):=recF (C76_1 pc k) (fun _ _ _ _=>none)
theorem h76_1 (m1:Nat):T76_1 pc rk k m1=C76_1 pc k m1 (R76_1 pc rk k m1):=by kernel_rfl
theorem q76_1 (m:Nat):T76_1 pc rk k m=S76_1 pc k m:=recS (h76_1 pc rk k) (by kernel_rfl) (fun m=>by kernel_rfl) m
noncomputable def B76_0 (pc:PC) (k:Nat) (j1:(D→D→D→D→Option D)) (v0:D):Option D:=
bindO (elsD v0) fun l_1=>
j1 (D.v (Value.int IntKind.u64 0)) v0 (lenD l_1) (D.v (Value.int IntKind.i64 0))
noncomputable def C76_0:=B76_0 pc k (S76_1 pc k k)
theorem h76_0 (v0:D):bodyY P pc noY rk LA (k+1) 76 [v0]=C76_0 pc k v0:=(bqA Go.Proofs.Tryz.f76 code76 results76 (by kernel_rfl)).trans (Eq.trans (b:=B76_0 pc k (T76_1 pc rk k k) v0) (by kernel_rfl) (by rw[q76_1]; rfl))
noncomputable def code77:Code:=codeOf 77
noncomputable def results77:List ResultVar:=resOf 77
noncomputable def K77_prr:KA:=(cutKA (LvA.b (LvA.b (LA 77))).c (codeA P pc noY rk (codeFA P pc noY rk 77 k) 77 (cR (cR (cR code77))) (LvA.b (LvA.b (LvA.b (LA 77)))) (doneA P results77) X0A (doneA P results77)))
noncomputable def K77_pxrrlr:(Nat→KA):=(upA 0 (K77_prr pc rk k) X0A)
noncomputable def K77_prrlrl (m1:Nat):KA:=(cutKA (LvA.a (LvA.b (LvA.a (LvA.b (LvA.b (LA 77)))))).c (codeFA P pc noY rk 77 m1 (LvA.a (LvA.b (LvA.a (LvA.b (LvA.b (LA 77)))))) (cL (cR (cL (cR (cR code77))))) (K77_prr pc rk k) (K77_pxrrlr pc rk k) (doneA P results77)))
noncomputable def T77_2 (m1:Nat):=fun(u0:D) (u5:D) (l14:List D)=>labA (codeA P pc noY rk (codeFA P pc noY rk 77 m1) 77 (cR (cR (cR (cL (cL (cR (cL (cR (cR code77))))))))) (LvA.b (LvA.b (LvA.b (LvA.a (LvA.a (LvA.b (LvA.a (LvA.b (LvA.b (LA 77)))))))))) (K77_prrlrl pc rk k m1) (K77_pxrrlr pc rk k) (doneA P results77)) (Tr.set (Tr.set (Tr.set Tr.nil 5 (some (AV.d u5))) 3 (some (AV.osl 14))) 0 (some (AV.d u0))) (Tr.set Tr.nil 14 (some (Bx.vec l14 3 1 false)))
noncomputable def T77_1 (m1:Nat):=fun(u0:D) (u5:D) (l14:List D)=>labA (codeA P pc noY rk (codeFA P pc noY rk 77 m1) 77 (cL (cL (cR (cL (cR (cR code77)))))) (LvA.a (LvA.a (LvA.b (LvA.a (LvA.b (LvA.b (LA 77))))))) (K77_prrlrl pc rk k m1) (K77_pxrrlr pc rk k) (doneA P results77)) (Tr.set (Tr.set (Tr.set Tr.nil 5 (some (AV.d u5))) 3 (some (AV.osl 14))) 0 (some (AV.d u0))) (Tr.set Tr.nil 14 (some (Bx.vec l14 3 1 false)))
noncomputable def R77_1 (m1:Nat):(D→D→List D→Option D):=fun u0 u5 l14=>labA (codeFA P pc noY rk 77 m1 (LvA.a (LvA.b (LvA.a (LvA.b (LvA.b (LA 77)))))) (cL (cR (cL (cR (cR code77))))) (K77_prr pc rk k) (K77_pxrrlr pc rk k) (doneA P results77)) (Tr.set (Tr.set (Tr.set Tr.nil 5 (some (AV.d u5))) 3 (some (AV.osl 14))) 0 (some (AV.d u0))) (Tr.set Tr.nil 14 (some (Bx.vec l14 3 1 false)))
noncomputable def B77_2 (pc:PC) (k:Nat) (m1:Nat) (b1:(D→D→List D→Option D)) (u0:D) (u5:D) (l14:List D):Option D:=
bindO (binD P BinOp.add 3 (Operand.tmp 5) (Operand.const (Value.int IntKind.i64 1)) u5 (D.v (Value.int IntKind.i64 1))) fun d_4=>
b1 u0 d_4 l14
noncomputable def C77_2 (m1:Nat):=B77_2 pc k m1
theorem h77_2 (m1:Nat):T77_2 pc rk k m1=C77_2 pc k m1 (R77_1 pc rk k m1):=by kernel_rfl
noncomputable def B77_1 (pc:PC) (k:Nat) (m1:Nat) (j2:(D→D→List D→Option D)) (b1:(D→D→List D→Option D)) (u0:D) (u5:D) (l14:List D):Option D:=
bindO (binD P BinOp.lss 3 (Operand.tmp 5) (Operand.const (Value.int IntKind.i64 8)) u5 (D.v (Value.int IntKind.i64 8))) fun d_1=>
ifU d_1 (
bindO (pcD P pc 87 [u0,u5]) fun d_2=>
ifU d_2 (
chkK (leafD u5) (
bindO (appD l14 [u5]) fun l_3=>
j2 u0 u5 l_3)) (
j2 u0 u5 l14)) (
some (D.sl l14))
noncomputable def C77_1 (m1:Nat) (b1:(D→D→List D→Option D)):=B77_1 pc k m1 (C77_2 pc k m1 b1) b1
noncomputable def S77_1:Nat→(D→D→List D→Option D):=recF (C77_1 pc k) (fun _ _ _=>none)
theorem h77_1 (m1:Nat):T77_1 pc rk k m1=C77_1 pc k m1 (R77_1 pc rk k m1):=Eq.trans (b:=B77_1 pc k m1 (T77_2 pc rk k m1) (R77_1 pc rk k m1)) (by kernel_rfl) (by rw[h77_2]; rfl)
theorem q77_1 (m:Nat):T77_1 pc rk k m=S77_1 pc k m:=recS (h77_1 pc rk k) (by kernel_rfl) (fun m=>by kernel_rfl) m
noncomputable def B77_0 (pc:PC) (k:Nat) (j1:(D→D→List D→Option D)) (v0:D):Option D:=
j1 v0 (D.v (Value.int IntKind.i64 0)) []
noncomputable def C77_0:=B77_0 pc k (S77_1 pc k k)
theorem h77_0 (v0:D):bodyY P pc noY rk LA (k+1) 77 [v0]=C77_0 pc k v0:=(bqA Go.Proofs.Tryz.f77 code77 results77 (by kernel_rfl)).trans (Eq.trans (b:=B77_0 pc k (T77_1 pc rk k k) v0) (by kernel_rfl) (by rw[q77_1]; rfl))
noncomputable def code78:Code:=codeOf 78
noncomputable def results78:List ResultVar:=resOf 78
noncomputable def K78_prr (pc rg pc1:PC) (rk1:List Nat→RK) (k:Nat):KA:=(cutKA (LvA.b (LvA.b (LA 78))).c (codeA P pc noY (rangeA P rg pc1 rk1 (k+1) []) (codeFA P pc noY (rangeA P rg pc1 rk1 (k+1) []) 78 k) 78 (cR (cR (cR code78))) (LvA.b (LvA.b (LvA.b (LA 78)))) (doneA P results78) X0A (doneA P results78)))
noncomputable def K78_pxrrlr (pc rg pc1:PC) (rk1:List Nat→RK) (k:Nat):(Nat→KA):=(upA 0 (K78_prr pc rg pc1 rk1 k) X0A)
noncomputable def E78_2 (pc rg pc1:PC) (rk1:List Nat→RK) (k:Nat) (m1:List (List D)):KA:=fun _ G=>foldA (cfB P pc1 (rk1 ((siteZ (cR (cL (cR (cL (cR (cR code78)))))))::[])) (k+1) 78) (LvA.a (LvA.b (LvA.a (LvA.b (LvA.b (LA 78)))))) (ntm P 78) (rPs (cL (cR (cL (cR (cR code78)))))) (cL (cL (cR (cL (cR (cR code78)))))) (cR (cL (cR (cL (cR (cR code78)))))) (siteZ (cR (cL (cR (cL (cR (cR code78))))))) (K78_prr pc rg pc1 rk1 k) (K78_pxrrlr pc rg pc1 rk1 k) (doneA P results78) m1 G
noncomputable def R78_2 (pc rg pc1:PC) (rk1:List Nat→RK) (k:Nat) (m1:List (List D)):(D→D→Option D):=fun g5_0 e1_9=>labA (E78_2 pc rg pc1 rk1 k m1) Tr.nil (Tr.set (Tr.set Tr.nil 1000001 (some (Bx.env [(5,(AV.loc 5 0)),(9,(AV.d e1_9))]))) 5 (some (Bx.dat [g5_0] false)))
noncomputable def T78_1 (pc rg pc1:PC) (rk1:List Nat→RK) (k:Nat):=fun(u9:D) (g5_0:D)=>labA (fun A G=>getK (opdA (rX (cL (cR (cL (cR (cR code78)))))) A) fun a=>(rangeA P rg pc1 rk1 (k+1) []) (LvA.a (LvA.b (LvA.a (LvA.b (LvA.b (LA 78)))))) 78 a (rPs (cL (cR (cL (cR (cR code78)))))) (cL (cL (cR (cL (cR (cR code78)))))) (cR (cL (cR (cL (cR (cR code78)))))) (K78_prr pc rg pc1 rk1 k) (K78_pxrrlr pc rg pc1 rk1 k) (doneA P results78) A G) (Tr.set (Tr.set Tr.nil 9 (some (AV.d u9))) 5 (some (AV.loc 5 0))) (Tr.set Tr.nil 5 (some (Bx.dat [g5_0] false)))
noncomputable def BN78_2 (pc rg pc1:PC) (k:Nat) (g5_0:D) (e1_9:D):Option D:=
some g5_0
noncomputable def CN78_2 (pc rg pc1:PC) (k:Nat) (g5_0:D) (e1_9:D):Option D:=BN78_2 pc rg pc1 k g5_0 e1_9
noncomputable def B78_2 (pc rg pc1:PC) (k:Nat) (m1:List (List D)) (b2:(D→D→Option D)) (y:List D) (g5_0:D) (e1_9:D):Option D:=
par1 y (fun z1_0=>
chkK (leafD z1_0) (
bindO (pcD P pc1 76 [(D.sl [z1_0])]) fun d_2=>
bindO (binD P BinOp.or 101 (Operand.tmp 11) (Operand.tmp 14) g5_0 d_2) fun d_3=>
chkK (leafD d_3) (
b2 d_3 e1_9)))
noncomputable def C78_2 (pc rg pc1:PC) (k:Nat) (m1:List (List D)):=B78_2 pc rg pc1 k m1
noncomputable def S78_2 (pc rg pc1:PC) (k:Nat):List (List D)→(D→D→Option D):=fun ys=>List.rec (motive:=fun _=>(D→D→Option D)) (CN78_2 pc rg pc1 k) (fun y ys ih=>C78_2 pc rg pc1 k ys ih y) ys
theorem hN78_2 (pc rg pc1:PC) (rk1:List Nat→RK) (k:Nat) (g5_0:D) (e1_9:D):labA (E78_2 pc rg pc1 rk1 k []) Tr.nil (Tr.set (Tr.set Tr.nil 1000001 (some (Bx.env [(5,(AV.loc 5 0)),(9,(AV.d e1_9))]))) 5 (some (Bx.dat [g5_0] false)))=CN78_2 pc rg pc1 k g5_0 e1_9:=by
  have h:labA (E78_2 pc rg pc1 rk1 k []) Tr.nil (Tr.set (Tr.set Tr.nil 1000001 (some (Bx.env [(5,(AV.loc 5 0)),(9,(AV.d e1_9))]))) 5 (some (Bx.dat [g5_0] false)))=BN78_2 pc rg pc1 k g5_0 e1_9:=by kernel_rfl
  rw[h,CN78_2]
theorem h78_2 (pc rg pc1:PC) (rk1:List Nat→RK) (k:Nat) (m1:List (List D)) (y:List D) (g5_0:D) (e1_9:D):labA (E78_2 pc rg pc1 rk1 k (y::m1)) Tr.nil (Tr.set (Tr.set Tr.nil 1000001 (some (Bx.env [(5,(AV.loc 5 0)),(9,(AV.d e1_9))]))) 5 (some (Bx.dat [g5_0] false)))=C78_2 pc rg pc1 k m1 (R78_2 pc rg pc1 rk1 k m1) y g5_0 e1_9:=by kernel_rfl
theorem q78_2 (pc rg pc1:PC) (rk1:List Nat→RK) (k:Nat):∀(ys:List (List D)) (g5_0:D) (e1_9:D),labA (E78_2 pc rg pc1 rk1 k ys) Tr.nil (Tr.set (Tr.set Tr.nil 1000001 (some (Bx.env [(5,(AV.loc 5 0)),(9,(AV.d e1_9))]))) 5 (some (Bx.dat [g5_0] false)))=S78_2 pc rg pc1 k ys g5_0 e1_9
  | [],g5_0,e1_9=>by
    rw[hN78_2]; rfl
  | y::ys,g5_0,e1_9=>by
    rw[h78_2]
    have e:R78_2 pc rg pc1 rk1 k ys=S78_2 pc rg pc1 k ys:=by
      funext g5_0 e1_9
      have e:R78_2 pc rg pc1 rk1 k ys g5_0 e1_9=labA (E78_2 pc rg pc1 rk1 k ys) Tr.nil (Tr.set (Tr.set Tr.nil 1000001 (some (Bx.env [(5,(AV.loc 5 0)),(9,(AV.d e1_9))]))) 5 (some (Bx.dat [g5_0] false))):=rfl
      rw[e]; exact q78_2 ..
    rw[e]; rfl
noncomputable def B78_1 (pc rg pc1:PC) (k:Nat) (j2:(List (List D)→(D→D→Option D))) (u9:D) (g5_0:D):Option D:=
fnK u9 fun g a b=>
chkK (noRes P g && !memN [] (siteZ (cR (cL (cR (cL (cR (cR code78)))))))) (
iterK (fun l=>rg g (a++D.yld l::b)) fun ys=>
j2 ys g5_0 u9)
noncomputable def C78_1 (pc rg pc1:PC) (k:Nat):=B78_1 pc rg pc1 k (S78_2 pc rg pc1 k)
theorem h78_1 (pc rg pc1:PC) (rk1:List Nat→RK) (k:Nat) (u9:D) (g5_0:D):T78_1 pc rg pc1 rk1 k u9 g5_0=C78_1 pc rg pc1 k u9 g5_0:=by
  have h:T78_1 pc rg pc1 rk1 k u9 g5_0=B78_1 pc rg pc1 k (fun ys_ g5_0 e1_9=>labA (E78_2 pc rg pc1 rk1 k ys_) Tr.nil (Tr.set (Tr.set Tr.nil 1000001 (some (Bx.env [(5,(AV.loc 5 0)),(9,(AV.d e1_9))]))) 5 (some (Bx.dat [g5_0] false)))) u9 g5_0:=by kernel_rfl
  rw[h,C78_1]
  have e2:(fun ys_ g5_0 e1_9=>labA (E78_2 pc rg pc1 rk1 k ys_) Tr.nil (Tr.set (Tr.set Tr.nil 1000001 (some (Bx.env [(5,(AV.loc 5 0)),(9,(AV.d e1_9))]))) 5 (some (Bx.dat [g5_0] false))))=(S78_2 pc rg pc1 k):=by funext ys_ g5_0 e1_9; exact q78_2 ..
  rw[e2]
theorem f78_1 (pc rg pc1:PC) (rk1:List Nat→RK) (k:Nat):T78_1 pc rg pc1 rk1 k=C78_1 pc rg pc1 k:=by funext u9 g5_0; exact h78_1 ..
noncomputable def B78_0 (pc rg pc1:PC) (k:Nat) (j1:(D→D→Option D)) (v0:D) (v1:D):Option D:=
bindO (pcD P pc 97 [v0,v1]) fun d_1=>
j1 d_1 (D.v (Value.int IntKind.u64 0))
noncomputable def C78_0 (pc rg pc1:PC) (k:Nat):=B78_0 pc rg pc1 k (C78_1 pc rg pc1 k)
theorem h78_0 (pc rg pc1:PC) (rk1:List Nat→RK) (k:Nat) (v0:D) (v1:D):bodyY P pc noY (rangeA P rg pc1 rk1 (k+1) []) LA (k+1) 78 [v0,v1]=C78_0 pc rg pc1 k v0 v1:=(bqA Go.Proofs.Tryz.f78 code78 results78 (by kernel_rfl)).trans (Eq.trans (b:=B78_0 pc rg pc1 k (T78_1 pc rg pc1 rk1 k) v0 v1) (by kernel_rfl) (by rw[f78_1]; rfl))
noncomputable def code79:Code:=codeOf 79
noncomputable def results79:List ResultVar:=resOf 79
noncomputable def B79_0 (pc:PC) (k:Nat) (v0:D) (v1:D):Option D:=
bindO (binD P BinOp.andNot 101 (Operand.tmp 5) (Operand.tmp 6) v0 v1) fun d_1=>
some d_1
noncomputable def C79_0:=B79_0 pc k
theorem h79_0 (v0:D) (v1:D):bodyY P pc noY rk LA (k+1) 79 [v0,v1]=C79_0 pc k v0 v1:=(bqA Go.Proofs.Tryz.f79 code79 results79 (by kernel_rfl)).trans (by kernel_rfl)
noncomputable def code80:Code:=codeOf 80
noncomputable def results80:List ResultVar:=resOf 80
noncomputable def K80_pr:KA:=(cutKA (LvA.b (LA 80)).c (codeA P pc noY rk (codeFA P pc noY rk 80 k) 80 (cR (cR code80)) (LvA.b (LvA.b (LA 80))) (doneA P results80) X0A (doneA P results80)))
noncomputable def K80_prr:KA:=(cutKA (LvA.b (LvA.b (LA 80))).c (codeA P pc noY rk (codeFA P pc noY rk 80 k) 80 (cR (cR (cR code80))) (LvA.b (LvA.b (LvA.b (LA 80)))) (doneA P results80) X0A (doneA P results80)))
noncomputable def K80_prrr:KA:=(cutKA (LvA.b (LvA.b (LvA.b (LA 80)))).c (codeA P pc noY rk (codeFA P pc noY rk 80 k) 80 (cR (cR (cR (cR code80)))) (LvA.b (LvA.b (LvA.b (LvA.b (LA 80))))) (doneA P results80) X0A (doneA P results80)))
noncomputable def K80_pxrrrlr:(Nat→KA):=(upA 0 (K80_prrr pc rk k) X0A)
noncomputable def K80_prrrlrl (m1:Nat):KA:=(cutKA (LvA.a (LvA.b (LvA.a (LvA.b (LvA.b (LvA.b (LA 80))))))).c (codeFA P pc noY rk 80 m1 (LvA.a (LvA.b (LvA.a (LvA.b (LvA.b (LvA.b (LA 80))))))) (cL (cR (cL (cR (cR (cR code80)))))) (K80_prrr pc rk k) (K80_pxrrrlr pc rk k) (doneA P results80)))
noncomputable def K80_prrrr:KA:=(cutKA (LvA.b (LvA.b (LvA.b (LvA.b (LA 80))))).c (codeA P pc noY rk (codeFA P pc noY rk 80 k) 80 (cR (cR (cR (cR (cR code80))))) (LvA.b (LvA.b (LvA.b (LvA.b (LvA.b (LA 80)))))) (doneA P results80) X0A (doneA P results80)))
noncomputable def K80_pxrrrrlr:(Nat→KA):=(upA 2 (K80_prrrr pc rk k) X0A)
noncomputable def K80_prrrrlrl (m1:Nat):KA:=(cutKA (LvA.a (LvA.b (LvA.a (LvA.b (LvA.b (LvA.b (LvA.b (LA 80)))))))).c (codeFA P pc noY rk 80 m1 (LvA.a (LvA.b (LvA.a (LvA.b (LvA.b (LvA.b (LvA.b (LA 80)))))))) (cL (cR (cL (cR (cR (cR (cR code80))))))) (K80_prrrr pc rk k) (K80_pxrrrrlr pc rk k) (doneA P results80)))
noncomputable def K80_prrrrlrllr (m1:Nat):KA:=(cutKA (LvA.b (LvA.a (LvA.a (LvA.b (LvA.a (LvA.b (LvA.b (LvA.b (LvA.b (LA 80)))))))))).c (codeA P pc noY rk (codeFA P pc noY rk 80 m1) 80 (cR (cR (cL (cL (cR (cL (cR (cR (cR (cR code80)))))))))) (LvA.b (LvA.b (LvA.a (LvA.a (LvA.b (LvA.a (LvA.b (LvA.b (LvA.b (LvA.b (LA 80))))))))))) (K80_prrrrlrl pc rk k m1) (K80_pxrrrrlr pc rk k) (doneA P results80)))
noncomputable def K80_pxrrrrlrllrl (m1:Nat):(Nat→KA):=(upA 3 (K80_prrrrlrllr pc rk k m1) (K80_pxrrrrlr pc rk k))
noncomputable def K80_prrrrr:KA:=(cutKA (LvA.b (LvA.b (LvA.b (LvA.b (LvA.b (LA 80)))))).c (codeA P pc noY rk (codeFA P pc noY rk 80 k) 80 (cR (cR (cR (cR (cR (cR code80)))))) (LvA.b (LvA.b (LvA.b (LvA.b (LvA.b (LvA.b (LA 80))))))) (doneA P results80) X0A (doneA P results80)))
noncomputable def K80_pxrrrrrlr:(Nat→KA):=(upA 4 (K80_prrrrr pc rk k) X0A)
noncomputable def K80_prrrrrlrl (m1:Nat):KA:=(cutKA (LvA.a (LvA.b (LvA.a (LvA.b (LvA.b (LvA.b (LvA.b (LvA.b (LA 80))))))))).c (codeFA P pc noY rk 80 m1 (LvA.a (LvA.b (LvA.a (LvA.b (LvA.b (LvA.b (LvA.b (LvA.b (LA 80))))))))) (cL (cR (cL (cR (cR (cR (cR (cR code80)))))))) (K80_prrrrr pc rk k) (K80_pxrrrrrlr pc rk k) (doneA P results80)))
noncomputable def K80_prrrrrlrllr (m1:Nat):KA:=(cutKA (LvA.b (LvA.a (LvA.a (LvA.b (LvA.a (LvA.b (LvA.b (LvA.b (LvA.b (LvA.b (LA 80))))))))))).c (codeA P pc noY rk (codeFA P pc noY rk 80 m1) 80 (cR (cR (cL (cL (cR (cL (cR (cR (cR (cR (cR code80))))))))))) (LvA.b (LvA.b (LvA.a (LvA.a (LvA.b (LvA.a (LvA.b (LvA.b (LvA.b (LvA.b (LvA.b (LA 80)))))))))))) (K80_prrrrrlrl pc rk k m1) (K80_pxrrrrrlr pc rk k) (doneA P results80)))
noncomputable def K80_pxrrrrrlrllrl (m1:Nat):(Nat→KA):=(upA 5 (K80_prrrrrlrllr pc rk k m1) (K80_pxrrrrrlr pc rk k))
noncomputable def K80_prrrrrlrllrllr (m1:Nat):KA:=(cutKA (LvA.b (LvA.a (LvA.a (LvA.b (LvA.a (LvA.a (LvA.b (LvA.a (LvA.b (LvA.b (LvA.b (LvA.b (LvA.b (LA 80)))))))))))))).c (codeA P pc noY rk (codeFA P pc noY rk 80 m1) 80 (cR (cR (cL (cL (cR (cL (cL (cR (cL (cR (cR (cR (cR (cR code80)))))))))))))) (LvA.b (LvA.b (LvA.a (LvA.a (LvA.b (LvA.a (LvA.a (LvA.b (LvA.a (LvA.b (LvA.b (LvA.b (LvA.b (LvA.b (LA 80))))))))))))))) (K80_prrrrrlrllr pc rk k m1) (K80_pxrrrrrlrllrl pc rk k m1) (doneA P results80)))
noncomputable def K80_pxrrrrrlrllrllrrr (m1:Nat):(Nat→KA):=(upA 6 (K80_prrrrrlrllr pc rk k m1) (K80_pxrrrrrlrllrl pc rk k m1))
noncomputable def K80_prrrrrlrllrllrrrl (m1:Nat) (m2:Nat):KA:=(cutKA (LvA.a (LvA.b (LvA.b (LvA.b (LvA.a (LvA.a (LvA.b (LvA.a (LvA.a (LvA.b (LvA.a (LvA.b (LvA.b (LvA.b (LvA.b (LvA.b (LA 80))))))))))))))))).c (codeFA P pc noY rk 80 m2 (LvA.a (LvA.b (LvA.b (LvA.b (LvA.a (LvA.a (LvA.b (LvA.a (LvA.a (LvA.b (LvA.a (LvA.b (LvA.b (LvA.b (LvA.b (LvA.b (LA 80))))))))))))))))) (cL (cR (cR (cR (cL (cL (cR (cL (cL (cR (cL (cR (cR (cR (cR (cR code80)))))))))))))))) (K80_prrrrrlrllr pc rk k m1) (K80_pxrrrrrlrllrllrrr pc rk k m1) (doneA P results80)))
noncomputable def K80_prrrrrlrllrllrrrllr (m1:Nat) (m2:Nat):KA:=(cutKA (LvA.b (LvA.a (LvA.a (LvA.b (LvA.b (LvA.b (LvA.a (LvA.a (LvA.b (LvA.a (LvA.a (LvA.b (LvA.a (LvA.b (LvA.b (LvA.b (LvA.b (LvA.b (LA 80))))))))))))))))))).c (codeA P pc noY rk (codeFA P pc noY rk 80 m2) 80 (cR (cR (cL (cL (cR (cR (cR (cL (cL (cR (cL (cL (cR (cL (cR (cR (cR (cR (cR code80))))))))))))))))))) (LvA.b (LvA.b (LvA.a (LvA.a (LvA.b (LvA.b (LvA.b (LvA.a (LvA.a (LvA.b (LvA.a (LvA.a (LvA.b (LvA.a (LvA.b (LvA.b (LvA.b (LvA.b (LvA.b (LA 80)))))))))))))))))))) (K80_prrrrrlrllrllrrrl pc rk k m1 m2) (K80_pxrrrrrlrllrllrrr pc rk k m1) (doneA P results80)))
noncomputable def K80_pxrrrrrlrllrllrrrllrl (m1:Nat) (m2:Nat):(Nat→KA):=(upA 7 (K80_prrrrrlrllrllrrrllr pc rk k m1 m2) (K80_pxrrrrrlrllrllrrr pc rk k m1))
noncomputable def T80_5 (m1:Nat):=fun(u4:D) (u92:D) (c1:List D)=>labA (codeA P pc noY rk (codeFA P pc noY rk 80 m1) 80 (cR (cR (cL (cL (cR (cL (cL (cR (cL (cR (cR (cR (cR code80))))))))))))) (LvA.b (LvA.b (LvA.a (LvA.a (LvA.b (LvA.a (LvA.a (LvA.b (LvA.a (LvA.b (LvA.b (LvA.b (LvA.b (LA 80)))))))))))))) (K80_prrrrlrllr pc rk k m1) (K80_pxrrrrlrllrl pc rk k m1) (doneA P results80)) (Tr.set (Tr.set (Tr.set Tr.nil 92 (some (AV.d u92))) 4 (some (AV.d u4))) 1 (some (AV.loc 1 0))) (Tr.set Tr.nil 1 (some (Bx.dat c1 false)))
noncomputable def T80_9 (m1:Nat) (m2:Nat):=fun(u6:D) (u8:D) (u156:D) (c1:List D) (c7:List D)=>labA (codeA P pc noY rk (codeFA P pc noY rk 80 m2) 80 (cR (cR (cL (cL (cR (cL (cL (cR (cR (cR (cL (cL (cR (cL (cL (cR (cL (cR (cR (cR (cR (cR code80)))))))))))))))))))))) (LvA.b (LvA.b (LvA.a (LvA.a (LvA.b (LvA.a (LvA.a (LvA.b (LvA.b (LvA.b (LvA.a (LvA.a (LvA.b (LvA.a (LvA.a (LvA.b (LvA.a (LvA.b (LvA.b (LvA.b (LvA.b (LvA.b (LA 80))))))))))))))))))))))) (K80_prrrrrlrllrllrrrllr pc rk k m1 m2) (K80_pxrrrrrlrllrllrrrllrl pc rk k m1 m2) (doneA P results80)) (Tr.set (Tr.set (Tr.set (Tr.set (Tr.set Tr.nil 156 (some (AV.d u156))) 8 (some (AV.d u8))) 7 (some (AV.loc 7 0))) 6 (some (AV.d u6))) 1 (some (AV.loc 1 0))) (Tr.set (Tr.set Tr.nil 7 (some (Bx.dat c7 false))) 1 (some (Bx.dat c1 false)))
noncomputable def T80_8 (m1:Nat) (m2:Nat):=fun(u6:D) (u8:D) (c1:List D) (c7:List D)=>labA (codeA P pc noY rk (codeFA P pc noY rk 80 m2) 80 (cL (cL (cR (cR (cR (cL (cL (cR (cL (cL (cR (cL (cR (cR (cR (cR (cR code80))))))))))))))))) (LvA.a (LvA.a (LvA.b (LvA.b (LvA.b (LvA.a (LvA.a (LvA.b (LvA.a (LvA.a (LvA.b (LvA.a (LvA.b (LvA.b (LvA.b (LvA.b (LvA.b (LA 80)))))))))))))))))) (K80_prrrrrlrllrllrrrl pc rk k m1 m2) (K80_pxrrrrrlrllrllrrr pc rk k m1) (doneA P results80)) (Tr.set (Tr.set (Tr.set (Tr.set Tr.nil 8 (some (AV.d u8))) 7 (some (AV.loc 7 0))) 6 (some (AV.d u6))) 1 (some (AV.loc 1 0))) (Tr.set (Tr.set Tr.nil 7 (some (Bx.dat c7 false))) 1 (some (Bx.dat c1 false)))
noncomputable def R80_8 (m1:Nat) (m2:Nat):(D→D→List D→List D→Option D):=fun u6 u8 c1 c7=>labA (codeFA P pc noY rk 80 m2 (LvA.a (LvA.b (LvA.b (LvA.b (LvA.a (LvA.a (LvA.b (LvA.a (LvA.a (LvA.b (LvA.a (LvA.b (LvA.b (LvA.b (LvA.b (LvA.b (LA 80))))))))))))))))) (cL (cR (cR (cR (cL (cL (cR (cL (cL (cR (cL (cR (cR (cR (cR (cR code80)))))))))))))))) (K80_prrrrrlrllr pc rk k m1) (K80_pxrrrrrlrllrllrrr pc rk k m1) (doneA P results80)) (Tr.set (Tr.set (Tr.set (Tr.set Tr.nil 8 (some (AV.d u8))) 7 (some (AV.loc 7 0))) 6 (some (AV.d u6))) 1 (some (AV.loc 1 0))) (Tr.set (Tr.set Tr.nil 7 (some (Bx.dat c7 false))) 1 (some (Bx.dat c1 false)))
noncomputable def T80_7 (m1:Nat):=fun(u6:D) (u129:D) (c1:List D) (c7:List D)=>labA (codeA P pc noY rk (codeFA P pc noY rk 80 m1) 80 (cR (cL (cR (cL (cL (cR (cL (cL (cR (cL (cR (cR (cR (cR (cR code80))))))))))))))) (LvA.b (LvA.a (LvA.b (LvA.a (LvA.a (LvA.b (LvA.a (LvA.a (LvA.b (LvA.a (LvA.b (LvA.b (LvA.b (LvA.b (LvA.b (LA 80)))))))))))))))) (K80_prrrrrlrllrllr pc rk k m1) (K80_pxrrrrrlrllrl pc rk k m1) (doneA P results80)) (Tr.set (Tr.set (Tr.set (Tr.set Tr.nil 129 (some (AV.d u129))) 7 (some (AV.loc 7 0))) 6 (some (AV.d u6))) 1 (some (AV.loc 1 0))) (Tr.set (Tr.set Tr.nil 7 (some (Bx.dat c7 false))) 1 (some (Bx.dat c1 false)))
noncomputable def T80_6 (m1:Nat):=fun(u6:D) (c1:List D)=>labA (codeA P pc noY rk (codeFA P pc noY rk 80 m1) 80 (cL (cL (cR (cL (cR (cR (cR (cR (cR code80))))))))) (LvA.a (LvA.a (LvA.b (LvA.a (LvA.b (LvA.b (LvA.b (LvA.b (LvA.b (LA 80)))))))))) (K80_prrrrrlrl pc rk k m1) (K80_pxrrrrrlr pc rk k) (doneA P results80)) (Tr.set (Tr.set Tr.nil 6 (some (AV.d u6))) 1 (some (AV.loc 1 0))) (Tr.set Tr.nil 1 (some (Bx.dat c1 false)))
noncomputable def R80_6 (m1:Nat):(D→List D→Option D):=fun u6 c1=>labA (codeFA P pc noY rk 80 m1 (LvA.a (LvA.b (LvA.a (LvA.b (LvA.b (LvA.b (LvA.b (LvA.b (LA 80))))))))) (cL (cR (cL (cR (cR (cR (cR (cR code80)))))))) (K80_prrrrr pc rk k) (K80_pxrrrrrlr pc rk k) (doneA P results80)) (Tr.set (Tr.set Tr.nil 6 (some (AV.d u6))) 1 (some (AV.loc 1 0))) (Tr.set Tr.nil 1 (some (Bx.dat c1 false)))
noncomputable def T80_4 (m1:Nat):=fun(u4:D) (c1:List D)=>labA (codeA P pc noY rk (codeFA P pc noY rk 80 m1) 80 (cL (cL (cR (cL (cR (cR (cR (cR code80)))))))) (LvA.a (LvA.a (LvA.b (LvA.a (LvA.b (LvA.b (LvA.b (LvA.b (LA 80))))))))) (K80_prrrrlrl pc rk k m1) (K80_pxrrrrlr pc rk k) (doneA P results80)) (Tr.set (Tr.set Tr.nil 4 (some (AV.d u4))) 1 (some (AV.loc 1 0))) (Tr.set Tr.nil 1 (some (Bx.dat c1 false)))
noncomputable def R80_4 (m1:Nat):(D→List D→Option D):=fun u4 c1=>labA (codeFA P pc noY rk 80 m1 (LvA.a (LvA.b (LvA.a (LvA.b (LvA.b (LvA.b (LvA.b (LA 80)))))))) (cL (cR (cL (cR (cR (cR (cR code80))))))) (K80_prrrr pc rk k) (K80_pxrrrrlr pc rk k) (doneA P results80)) (Tr.set (Tr.set Tr.nil 4 (some (AV.d u4))) 1 (some (AV.loc 1 0))) (Tr.set Tr.nil 1 (some (Bx.dat c1 false)))
noncomputable def T80_3 (m1:Nat):=fun(u3:D) (c1:List D)=>labA (codeA P pc noY rk (codeFA P pc noY rk 80 m1) 80 (cL (cL (cR (cL (cR (cR (cR code80))))))) (LvA.a (LvA.a (LvA.b (LvA.a (LvA.b (LvA.b (LvA.b (LA 80)))))))) (K80_prrrlrl pc rk k m1) (K80_pxrrrlr pc rk k) (doneA P results80)) (Tr.set (Tr.set Tr.nil 3 (some (AV.d u3))) 1 (some (AV.loc 1 0))) (Tr.set Tr.nil 1 (some (Bx.dat c1 false)))
noncomputable def R80_3 (m1:Nat):(D→List D→Option D):=fun u3 c1=>labA (codeFA P pc noY rk 80 m1 (LvA.a (LvA.b (LvA.a (LvA.b (LvA.b (LvA.b (LA 80))))))) (cL (cR (cL (cR (cR (cR code80)))))) (K80_prrr pc rk k) (K80_pxrrrlr pc rk k) (doneA P results80)) (Tr.set (Tr.set Tr.nil 3 (some (AV.d u3))) 1 (some (AV.loc 1 0))) (Tr.set Tr.nil 1 (some (Bx.dat c1 false)))
noncomputable def T80_2:=fun(u35:D) (c1:List D)=>labA (codeA P pc noY rk (codeFA P pc noY rk 80 k) 80 (cR (cL (cR (cR code80)))) (LvA.b (LvA.a (LvA.b (LvA.b (LA 80))))) (K80_prr pc rk k) X0A (doneA P results80)) (Tr.set (Tr.set Tr.nil 35 (some (AV.d u35))) 1 (some (AV.loc 1 0))) (Tr.set Tr.nil 1 (some (Bx.dat c1 false)))
noncomputable def T80_1:=fun(u25:D) (c1:List D)=>labA (codeA P pc noY rk (codeFA P pc noY rk 80 k) 80 (cR (cL (cR code80))) (LvA.b (LvA.a (LvA.b (LA 80)))) (K80_pr pc rk k) X0A (doneA P results80)) (Tr.set (Tr.set Tr.nil 25 (some (AV.d u25))) 1 (some (AV.loc 1 0))) (Tr.set Tr.nil 1 (some (Bx.dat c1 false)))
noncomputable def B80_5 (pc:PC) (k:Nat) (m1:Nat) (b4:(D→List D→Option D)) (u4:D) (u92:D) (c1:List D):Option D:=
ifU u92 (
some (D.v (Value.int IntKind.i64 1))) (
bindO (binD P BinOp.add 3 (Operand.tmp 62) (Operand.const (Value.int IntKind.i64 1)) u4 (D.v (Value.int IntKind.i64 1))) fun d_13=>
b4 d_13 c1)
noncomputable def C80_5 (m1:Nat):=B80_5 pc k m1
theorem h80_5 (m1:Nat):T80_5 pc rk k m1=C80_5 pc k m1 (R80_4 pc rk k m1):=by kernel_rfl
noncomputable def B80_9 (pc:PC) (k:Nat) (m1:Nat) (m2:Nat) (b6:(D→List D→Option D)) (b8:(D→D→List D→List D→Option D)) (u6:D) (u8:D) (u156:D) (c1:List D) (c7:List D):Option D:=
ifU u156 (
some (D.v (Value.int IntKind.i64 1))) (
bindO (binD P BinOp.add 3 (Operand.tmp 133) (Operand.const (Value.int IntKind.i64 1)) u8 (D.v (Value.int IntKind.i64 1))) fun d_23=>
b8 u6 d_23 c1 c7)
noncomputable def C80_9 (m1:Nat):=B80_9 pc k m1
theorem h80_9 (m1:Nat) (m2:Nat):T80_9 pc rk k m1 m2=C80_9 pc k m1 m2 (R80_6 pc rk k m1) (R80_8 pc rk k m1 m2):=by kernel_rfl
noncomputable def B80_8 (pc:PC) (k:Nat) (m1:Nat) (m2:Nat) (j9:(D→D→D→List D→List D→Option D)) (b6:(D→List D→Option D)) (b8:(D→D→List D→List D→Option D)) (u6:D) (u8:D) (c1:List D) (c7:List D):Option D:=
bindO (binD P BinOp.lss 3 (Operand.tmp 130) (Operand.tmp 131) u8 u6) fun d_1s=>
ifU d_1s (
bindO (c1[1]?) fun d_1t=>
bindO (elsD d_1t) fun l_1u=>
bindO (idxD u8 l_1u.length) fun i_1v=>
bindO (l_1u[i_1v]?) fun d_1w=>
bindO (aggD d_1w) fun c_1x=>
chkK (Nat.beq c_1x.length 2) (
bindO (cutD c_1x 0 2) fun c_1y=>
bindO (splD [(D.v (Value.int IntKind.i64 0)),(D.v (Value.int IntKind.i64 0))] 0 c_1y 2) fun c_1z=>
bindO (cutD c_1z 0 2) fun c_20=>
bindO (cutD c7 0 2) fun c_21=>
bindO (binD P BinOp.eql 82 (Operand.tmp 140) (Operand.tmp 141) (D.agg c_20) (D.agg c_21)) fun d_22=>
ifU d_22 (
j9 u6 u8 (D.v (Value.bool true)) c1 c7) (
bindO (c_1z[0]?) fun d_24=>
bindO (c7[1]?) fun d_25=>
bindO (binD P BinOp.eql 3 (Operand.tmp 145) (Operand.tmp 147) d_24 d_25) fun d_26=>
ifU d_26 (
bindO (c_1z[1]?) fun d_27=>
bindO (c7[0]?) fun d_28=>
bindO (binD P BinOp.eql 3 (Operand.tmp 151) (Operand.tmp 153) d_27 d_28) fun d_29=>
j9 u6 u8 d_29 c1 c7) (
j9 u6 u8 (D.v (Value.bool false)) c1 c7)))) (
bindO (binD P BinOp.add 3 (Operand.tmp 98) (Operand.const (Value.int IntKind.i64 1)) u6 (D.v (Value.int IntKind.i64 1))) fun d_2a=>
b6 d_2a c1)
noncomputable def C80_8 (m1:Nat) (m2:Nat) (b6:(D→List D→Option D)) (b8:(D→D→List D→List D→Option D)):=B80_8 pc k m1 m2 (C80_9 pc k m1 m2 b6 b8) b6 b8
noncomputable def S80_8 (m1:Nat) (b6:(D→List D→Option D)):Nat→(D→D→List D→List D→Option D):=fun m=>Nat.rec (motive:=fun _=>(D→D→List D→List D→Option D)) (C80_8 pc k m1 0 b6 (fun _ _ _ _=>none)) (fun m ih=>C80_8 pc k m1 (m+1) b6 ih) m
theorem h80_8 (m1:Nat) (m2:Nat):T80_8 pc rk k m1 m2=C80_8 pc k m1 m2 (R80_6 pc rk k m1) (R80_8 pc rk k m1 m2):=Eq.trans (b:=B80_8 pc k m1 m2 (T80_9 pc rk k m1 m2) (R80_6 pc rk k m1) (R80_8 pc rk k m1 m2)) (by kernel_rfl) (by rw[h80_9]; rfl)
theorem q80_8 (m1:Nat) (m:Nat):T80_8 pc rk k m1 m=S80_8 pc k m1 (R80_6 pc rk k m1) m:=recS (h80_8 pc rk k m1) (by kernel_rfl) (fun m=>by kernel_rfl) m
noncomputable def B80_7 (pc:PC) (k:Nat) (m1:Nat) (j8:(D→D→List D→List D→Option D)) (b6:(D→List D→Option D)) (u6:D) (u129:D) (c1:List D) (c7:List D):Option D:=
ifU u129 (
some (D.v (Value.int IntKind.i64 1))) (
j8 u6 (D.v (Value.int IntKind.i64 0)) c1 c7)
noncomputable def C80_7 (m1:Nat) (b6:(D→List D→Option D)):=B80_7 pc k m1 (S80_8 pc k m1 b6 m1) b6
theorem h80_7 (m1:Nat):T80_7 pc rk k m1=C80_7 pc k m1 (R80_6 pc rk k m1):=Eq.trans (b:=B80_7 pc k m1 (T80_8 pc rk k m1 m1) (R80_6 pc rk k m1)) (by kernel_rfl) (by rw[q80_8]; rfl)
noncomputable def B80_6 (pc:PC) (k:Nat) (m1:Nat) (j7:(D→D→List D→List D→Option D)) (b6:(D→List D→Option D)) (u6:D) (c1:List D):Option D:=
bindO (c1[1]?) fun d_1c=>
bindO (elsD d_1c) fun l_1d=>
bindO (binD P BinOp.lss 3 (Operand.tmp 93) (Operand.tmp 96) u6 (lenD l_1d)) fun d_1e=>
ifU d_1e (
bindO (c1[1]?) fun d_1f=>
bindO (elsD d_1f) fun l_1g=>
bindO (idxD u6 l_1g.length) fun i_1h=>
bindO (l_1g[i_1h]?) fun d_1i=>
bindO (aggD d_1i) fun c_1j=>
chkK (Nat.beq c_1j.length 2) (
bindO (cutD c_1j 0 2) fun c_1k=>
bindO (splD [(D.v (Value.int IntKind.i64 0)),(D.v (Value.int IntKind.i64 0))] 0 c_1k 2) fun c_1l=>
bindO (c_1l[0]?) fun d_1m=>
bindO (c1[0]?) fun d_1n=>
bindO (elsD d_1n) fun l_1o=>
bindO (binD P BinOp.sub 3 (Operand.tmp 109) (Operand.const (Value.int IntKind.i64 1)) (lenD l_1o) (D.v (Value.int IntKind.i64 1))) fun d_1p=>
bindO (pcD P pc 60 [d_1m,(D.v (Value.int IntKind.i64 0)),d_1p]) fun d_1q=>
bindO (semD P d_1q (Op.unary UnOp.not)) fun d_1r=>
ifU d_1r (
j7 u6 (D.v (Value.bool true)) c1 c_1l) (
bindO (c_1l[1]?) fun d_2b=>
bindO (c1[0]?) fun d_2c=>
bindO (elsD d_2c) fun l_2d=>
bindO (binD P BinOp.sub 3 (Operand.tmp 118) (Operand.const (Value.int IntKind.i64 1)) (lenD l_2d) (D.v (Value.int IntKind.i64 1))) fun d_2e=>
bindO (pcD P pc 60 [d_2b,(D.v (Value.int IntKind.i64 0)),d_2e]) fun d_2f=>
bindO (semD P d_2f (Op.unary UnOp.not)) fun d_2g=>
ifU d_2g (
j7 u6 (D.v (Value.bool true)) c1 c_1l) (
bindO (c_1l[0]?) fun d_2h=>
bindO (c_1l[1]?) fun d_2i=>
bindO (binD P BinOp.eql 3 (Operand.tmp 125) (Operand.tmp 127) d_2h d_2i) fun d_2j=>
j7 u6 d_2j c1 c_1l)))) (
some (D.v (Value.int IntKind.i64 0)))
noncomputable def C80_6 (m1:Nat) (b6:(D→List D→Option D)):=B80_6 pc k m1 (C80_7 pc k m1 b6) b6
noncomputable def S80_6:Nat→(D→List D→Option D):=recF (C80_6 pc k) (fun _ _=>none)
theorem h80_6 (m1:Nat):T80_6 pc rk k m1=C80_6 pc k m1 (R80_6 pc rk k m1):=Eq.trans (b:=B80_6 pc k m1 (T80_7 pc rk k m1) (R80_6 pc rk k m1)) (by kernel_rfl) (by rw[h80_7]; rfl)
theorem q80_6 (m:Nat):T80_6 pc rk k m=S80_6 pc k m:=recS (h80_6 pc rk k) (by kernel_rfl) (fun m=>by kernel_rfl) m
noncomputable def B80_4 (pc:PC) (k:Nat) (m1:Nat) (j5:(D→D→List D→Option D)) (j6:(D→List D→Option D)) (b4:(D→List D→Option D)) (u4:D) (c1:List D):Option D:=
bindO (c1[2]?) fun d_q=>
bindO (elsD d_q) fun l_r=>
bindO (binD P BinOp.lss 3 (Operand.tmp 57) (Operand.tmp 60) u4 (lenD l_r)) fun d_s=>
ifU d_s (
bindO (c1[2]?) fun d_t=>
bindO (elsD d_t) fun l_u=>
bindO (idxD u4 l_u.length) fun i_v=>
bindO (l_u[i_v]?) fun d_w=>
bindO (aggD d_w) fun c_x=>
chkK (Nat.beq c_x.length 5) (
bindO (cutD c_x 0 5) fun c_y=>
bindO (splD [(D.v (Value.int IntKind.i64 0)),(D.v (Value.int IntKind.i64 0)),(D.v (Value.int IntKind.i64 0)),(D.v (Value.int IntKind.i64 0)),(D.v (Value.int IntKind.i64 0))] 0 c_y 5) fun c_z=>
bindO (c_z[0]?) fun d_10=>
bindO (pcD P pc 60 [d_10,(D.v (Value.int IntKind.i64 0)),(D.v (Value.int IntKind.i64 1000))]) fun d_11=>
bindO (semD P d_11 (Op.unary UnOp.not)) fun d_12=>
ifU d_12 (
j5 u4 (D.v (Value.bool true)) c1) (
bindO (c_z[1]?) fun d_14=>
bindO (c_z[2]?) fun d_15=>
bindO (pcD P pc 98 [d_14,d_15]) fun d_16=>
bindO (semD P d_16 (Op.unary UnOp.not)) fun d_17=>
ifU d_17 (
j5 u4 (D.v (Value.bool true)) c1) (
bindO (c_z[3]?) fun d_18=>
bindO (c_z[4]?) fun d_19=>
bindO (pcD P pc 98 [d_18,d_19]) fun d_1a=>
bindO (semD P d_1a (Op.unary UnOp.not)) fun d_1b=>
j5 u4 d_1b c1)))) (
j6 (D.v (Value.int IntKind.i64 0)) c1)
noncomputable def C80_4 (m1:Nat) (b4:(D→List D→Option D)):=B80_4 pc k m1 (C80_5 pc k m1 b4) (S80_6 pc k k) b4
noncomputable def S80_4:Nat→(D→List D→Option D):=recF (C80_4 pc k) (fun _ _=>none)
theorem h80_4 (m1:Nat):T80_4 pc rk k m1=C80_4 pc k m1 (R80_4 pc rk k m1):=Eq.trans (b:=B80_4 pc k m1 (T80_5 pc rk k m1) (T80_6 pc rk k k) (R80_4 pc rk k m1)) (by kernel_rfl) (by rw[h80_5,q80_6]; rfl)
theorem q80_4 (m:Nat):T80_4 pc rk k m=S80_4 pc k m:=recS (h80_4 pc rk k) (by kernel_rfl) (fun m=>by kernel_rfl) m
noncomputable def B80_3 (pc:PC) (k:Nat) (m1:Nat) (j4:(D→List D→Option D)) (b3:(D→List D→Option D)) (u3:D) (c1:List D):Option D:=
bindO (c1[0]?) fun d_8=>
bindO (elsD d_8) fun l_9=>
bindO (binD P BinOp.lss 3 (Operand.tmp 36) (Operand.tmp 39) u3 (lenD l_9)) fun d_a=>
ifU d_a (
bindO (c1[0]?) fun d_b=>
bindO (elsD d_b) fun l_c=>
bindO (idxD u3 l_c.length) fun i_d=>
bindO (l_c[i_d]?) fun d_e=>
bindO (aggD d_e) fun c_f=>
chkK (Nat.beq c_f.length 2) (
bindO (c_f[0]?) fun d_g=>
bindO (c1[0]?) fun d_h=>
bindO (elsD d_h) fun l_i=>
bindO (idxD u3 l_i.length) fun i_j=>
bindO (l_i[i_j]?) fun d_k=>
bindO (aggD d_k) fun c_l=>
chkK (Nat.beq c_l.length 2) (
bindO ((List.drop 1 c_l)[0]?) fun d_m=>
bindO (pcD P pc 98 [d_g,d_m]) fun d_n=>
bindO (semD P d_n (Op.unary UnOp.not)) fun d_o=>
ifU d_o (
some (D.v (Value.int IntKind.i64 1))) (
bindO (binD P BinOp.add 3 (Operand.tmp 41) (Operand.const (Value.int IntKind.i64 1)) u3 (D.v (Value.int IntKind.i64 1))) fun d_p=>
b3 d_p c1)))) (
j4 (D.v (Value.int IntKind.i64 0)) c1)
noncomputable def C80_3 (m1:Nat):=B80_3 pc k m1 (S80_4 pc k k)
noncomputable def S80_3:Nat→(D→List D→Option D):=recF (C80_3 pc k) (fun _ _=>none)
theorem h80_3 (m1:Nat):T80_3 pc rk k m1=C80_3 pc k m1 (R80_3 pc rk k m1):=Eq.trans (b:=B80_3 pc k m1 (T80_4 pc rk k k) (R80_3 pc rk k m1)) (by kernel_rfl) (by rw[q80_4]; rfl)
theorem q80_3 (m:Nat):T80_3 pc rk k m=S80_3 pc k m:=recS (h80_3 pc rk k) (by kernel_rfl) (fun m=>by kernel_rfl) m
noncomputable def B80_2 (pc:PC) (k:Nat) (j3:(D→List D→Option D)) (u35:D) (c1:List D):Option D:=
ifU u35 (
some (D.v (Value.int IntKind.i64 1))) (
j3 (D.v (Value.int IntKind.i64 0)) c1)
noncomputable def C80_2:=B80_2 pc k (S80_3 pc k k)
theorem h80_2:T80_2 pc rk k=C80_2 pc k:=Eq.trans (b:=B80_2 pc k (T80_3 pc rk k k)) (by kernel_rfl) (by rw[q80_3]; rfl)
noncomputable def B80_1 (pc:PC) (k:Nat) (j2:(D→List D→Option D)) (u25:D) (c1:List D):Option D:=
ifU u25 (
some (D.v (Value.int IntKind.i64 3))) (
bindO (c1[0]?) fun d_5=>
bindO (elsD d_5) fun l_6=>
bindO (binD P BinOp.eql 3 (Operand.tmp 28) (Operand.const (Value.int IntKind.i64 0)) (lenD l_6) (D.v (Value.int IntKind.i64 0))) fun d_7=>
ifU d_7 (
j2 (D.v (Value.bool true)) c1) (
bindO (c1[2]?) fun d_2k=>
bindO (elsD d_2k) fun l_2l=>
bindO (binD P BinOp.eql 3 (Operand.tmp 33) (Operand.const (Value.int IntKind.i64 0)) (lenD l_2l) (D.v (Value.int IntKind.i64 0))) fun d_2m=>
j2 d_2m c1))
noncomputable def C80_1:=B80_1 pc k (C80_2 pc k)
theorem h80_1:T80_1 pc rk k=C80_1 pc k:=Eq.trans (b:=B80_1 pc k (T80_2 pc rk k)) (by kernel_rfl) (by rw[h80_2]; rfl)
noncomputable def B80_0 (pc:PC) (k:Nat) (j1:(D→List D→Option D)) (v0:D):Option D:=
bindO (aggD v0) fun c_1=>
bindO (c_1[0]?) fun d_2=>
bindO (elsD d_2) fun l_3=>
bindO (binD P BinOp.gtr 3 (Operand.tmp 12) (Operand.const (Value.int IntKind.i64 8)) (lenD l_3) (D.v (Value.int IntKind.i64 8))) fun d_4=>
ifU d_4 (
j1 (D.v (Value.bool true)) c_1) (
bindO (c_1[1]?) fun d_2n=>
bindO (elsD d_2n) fun l_2o=>
bindO (binD P BinOp.gtr 3 (Operand.tmp 17) (Operand.const (Value.int IntKind.i64 16)) (lenD l_2o) (D.v (Value.int IntKind.i64 16))) fun d_2p=>
ifU d_2p (
j1 (D.v (Value.bool true)) c_1) (
bindO (c_1[2]?) fun d_2q=>
bindO (elsD d_2q) fun l_2r=>
bindO (binD P BinOp.gtr 3 (Operand.tmp 23) (Operand.const (Value.int IntKind.i64 3)) (lenD l_2r) (D.v (Value.int IntKind.i64 3))) fun d_2s=>
j1 d_2s c_1))
noncomputable def C80_0:=B80_0 pc k (C80_1 pc k)
theorem h80_0 (v0:D):bodyY P pc noY rk LA (k+1) 80 [v0]=C80_0 pc k v0:=(bqA Go.Proofs.Tryz.f80 code80 results80 (by kernel_rfl)).trans (Eq.trans (b:=B80_0 pc k (T80_1 pc rk k) v0) (by kernel_rfl) (by rw[h80_1]; rfl))
noncomputable def code81:Code:=codeOf 81
noncomputable def results81:List ResultVar:=resOf 81
noncomputable def K81_pr:KA:=(cutKA (LvA.b (LA 81)).c (codeA P pc noY rk (codeFA P pc noY rk 81 k) 81 (cR (cR code81)) (LvA.b (LvA.b (LA 81))) (doneA P results81) X0A (doneA P results81)))
noncomputable def K81_pxrlr:(Nat→KA):=(upA 0 (K81_pr pc rk k) X0A)
noncomputable def K81_prlrl (m1:Nat):KA:=(cutKA (LvA.a (LvA.b (LvA.a (LvA.b (LA 81))))).c (codeFA P pc noY rk 81 m1 (LvA.a (LvA.b (LvA.a (LvA.b (LA 81))))) (cL (cR (cL (cR code81)))) (K81_pr pc rk k) (K81_pxrlr pc rk k) (doneA P results81)))
noncomputable def K81_prlrllr (m1:Nat):KA:=(cutKA (LvA.b (LvA.a (LvA.a (LvA.b (LvA.a (LvA.b (LA 81))))))).c (codeA P pc noY rk (codeFA P pc noY rk 81 m1) 81 (cR (cR (cL (cL (cR (cL (cR code81))))))) (LvA.b (LvA.b (LvA.a (LvA.a (LvA.b (LvA.a (LvA.b (LA 81)))))))) (K81_prlrl pc rk k m1) (K81_pxrlr pc rk k) (doneA P results81)))
noncomputable def K81_pxrlrllrl (m1:Nat):(Nat→KA):=(upA 1 (K81_prlrllr pc rk k m1) (K81_pxrlr pc rk k))
noncomputable def T81_2 (m1:Nat):=fun(u1:D) (u5:D) (u38:D) (c2:List D)=>labA (codeA P pc noY rk (codeFA P pc noY rk 81 m1) 81 (cR (cL (cL (cR (cL (cL (cR (cL (cR code81))))))))) (LvA.b (LvA.a (LvA.a (LvA.b (LvA.a (LvA.a (LvA.b (LvA.a (LvA.b (LA 81)))))))))) (K81_prlrllr pc rk k m1) (K81_pxrlrllrl pc rk k m1) (doneA P results81)) (Tr.set (Tr.set (Tr.set (Tr.set Tr.nil 38 (some (AV.d u38))) 5 (some (AV.d u5))) 2 (some (AV.loc 2 0))) 1 (some (AV.d u1))) (Tr.set Tr.nil 2 (some (Bx.dat c2 false)))
noncomputable def T81_1 (m1:Nat):=fun(u1:D) (u5:D) (c2:List D)=>labA (codeA P pc noY rk (codeFA P pc noY rk 81 m1) 81 (cL (cL (cR (cL (cR code81))))) (LvA.a (LvA.a (LvA.b (LvA.a (LvA.b (LA 81)))))) (K81_prlrl pc rk k m1) (K81_pxrlr pc rk k) (doneA P results81)) (Tr.set (Tr.set (Tr.set Tr.nil 5 (some (AV.d u5))) 2 (some (AV.loc 2 0))) 1 (some (AV.d u1))) (Tr.set Tr.nil 2 (some (Bx.dat c2 false)))
noncomputable def R81_1 (m1:Nat):(D→D→List D→Option D):=fun u1 u5 c2=>labA (codeFA P pc noY rk 81 m1 (LvA.a (LvA.b (LvA.a (LvA.b (LA 81))))) (cL (cR (cL (cR code81)))) (K81_pr pc rk k) (K81_pxrlr pc rk k) (doneA P results81)) (Tr.set (Tr.set (Tr.set Tr.nil 5 (some (AV.d u5))) 2 (some (AV.loc 2 0))) 1 (some (AV.d u1))) (Tr.set Tr.nil 2 (some (Bx.dat c2 false)))
noncomputable def B81_2 (pc:PC) (k:Nat) (m1:Nat) (b1:(D→D→List D→Option D)) (u1:D) (u5:D) (u38:D) (c2:List D):Option D:=
ifU u38 (
some (D.v (Value.bool false))) (
bindO (binD P BinOp.add 3 (Operand.tmp 10) (Operand.const (Value.int IntKind.i64 1)) u5 (D.v (Value.int IntKind.i64 1))) fun d_c=>
b1 u1 d_c c2)
noncomputable def C81_2 (m1:Nat):=B81_2 pc k m1
theorem h81_2 (m1:Nat):T81_2 pc rk k m1=C81_2 pc k m1 (R81_1 pc rk k m1):=by kernel_rfl
noncomputable def B81_1 (pc:PC) (k:Nat) (m1:Nat) (j2:(D→D→D→List D→Option D)) (b1:(D→D→List D→Option D)) (u1:D) (u5:D) (c2:List D):Option D:=
bindO (elsD u1) fun l_2=>
bindO (binD P BinOp.lss 3 (Operand.tmp 6) (Operand.tmp 8) u5 (lenD l_2)) fun d_3=>
ifU d_3 (
bindO (elsD u1) fun l_4=>
bindO (idxD u5 l_4.length) fun i_5=>
bindO (l_4[i_5]?) fun d_6=>
chkK (leafD d_6) (
bindO (c2[0]?) fun d_7=>
bindO (elsD d_7) fun l_8=>
bindO (binD P BinOp.sub 3 (Operand.tmp 19) (Operand.const (Value.int IntKind.i64 1)) (lenD l_8) (D.v (Value.int IntKind.i64 1))) fun d_9=>
bindO (pcD P pc 60 [d_6,(D.v (Value.int IntKind.i64 0)),d_9]) fun d_a=>
bindO (semD P d_a (Op.unary UnOp.not)) fun d_b=>
ifU d_b (
j2 u1 u5 (D.v (Value.bool true)) c2) (
bindO (binD P BinOp.gtr 3 (Operand.tmp 24) (Operand.const (Value.int IntKind.i64 0)) u5 (D.v (Value.int IntKind.i64 0))) fun d_d=>
ifU d_d (
bindO (elsD u1) fun l_e=>
bindO (idxD u5 l_e.length) fun i_f=>
bindO (l_e[i_f]?) fun d_g=>
chkK (leafD d_g) (
bindO (binD P BinOp.sub 3 (Operand.tmp 32) (Operand.const (Value.int IntKind.i64 1)) u5 (D.v (Value.int IntKind.i64 1))) fun d_h=>
bindO (elsD u1) fun l_i=>
bindO (idxD d_h l_i.length) fun i_j=>
bindO (l_i[i_j]?) fun d_k=>
chkK (leafD d_k) (
bindO (binD P BinOp.leq 3 (Operand.tmp 30) (Operand.tmp 35) d_g d_k) fun d_l=>
j2 u1 u5 d_l c2))) (
j2 u1 u5 (D.v (Value.bool false)) c2)))) (
some (D.v (Value.bool true)))
noncomputable def C81_1 (m1:Nat) (b1:(D→D→List D→Option D)):=B81_1 pc k m1 (C81_2 pc k m1 b1) b1
noncomputable def S81_1:Nat→(D→D→List D→Option D):=recF (C81_1 pc k) (fun _ _ _=>none)
theorem h81_1 (m1:Nat):T81_1 pc rk k m1=C81_1 pc k m1 (R81_1 pc rk k m1):=Eq.trans (b:=B81_1 pc k m1 (T81_2 pc rk k m1) (R81_1 pc rk k m1)) (by kernel_rfl) (by rw[h81_2]; rfl)
theorem q81_1 (m:Nat):T81_1 pc rk k m=S81_1 pc k m:=recS (h81_1 pc rk k) (by kernel_rfl) (fun m=>by kernel_rfl) m
noncomputable def B81_0 (pc:PC) (k:Nat) (j1:(D→D→List D→Option D)) (v0:D) (v1:D):Option D:=
bindO (aggD v0) fun c_1=>
j1 v1 (D.v (Value.int IntKind.i64 0)) c_1
noncomputable def C81_0:=B81_0 pc k (S81_1 pc k k)
theorem h81_0 (v0:D) (v1:D):bodyY P pc noY rk LA (k+1) 81 [v0,v1]=C81_0 pc k v0 v1:=(bqA Go.Proofs.Tryz.f81 code81 results81 (by kernel_rfl)).trans (Eq.trans (b:=B81_0 pc k (T81_1 pc rk k k) v0 v1) (by kernel_rfl) (by rw[q81_1]; rfl))
noncomputable def code86:Code:=codeOf 86
noncomputable def results86:List ResultVar:=resOf 86
noncomputable def B86_0 (pc:PC) (k:Nat) (v0:D) (v1:D):Option D:=
bindO (aggD v0) fun c_1=>
bindO (binD P BinOp.geq 3 (Operand.tmp 5) (Operand.const (Value.int IntKind.i64 0)) v1 (D.v (Value.int IntKind.i64 0))) fun d_2=>
ifU d_2 (
bindO (c_1[0]?) fun d_3=>
bindO (elsD d_3) fun l_4=>
bindO (binD P BinOp.lss 3 (Operand.tmp 8) (Operand.tmp 12) v1 (lenD l_4)) fun d_5=>
some d_5) (
some (D.v (Value.bool false)))
noncomputable def C86_0:=B86_0 pc k
theorem h86_0 (v0:D) (v1:D):bodyY P pc noY rk LA (k+1) 86 [v0,v1]=C86_0 pc k v0 v1:=(bqA Go.Proofs.Tryz.f86 code86 results86 (by kernel_rfl)).trans (by kernel_rfl)
noncomputable def code87:Code:=codeOf 87
noncomputable def results87:List ResultVar:=resOf 87
noncomputable def B87_0 (pc:PC) (k:Nat) (v0:D) (v1:D):Option D:=
chkK (leafD v1) (
bindO (pcD P pc 76 [(D.sl [v1])]) fun d_1=>
bindO (pcD P pc 88 [v0,d_1]) fun d_2=>
some d_2)
noncomputable def C87_0:=B87_0 pc k
theorem h87_0 (v0:D) (v1:D):bodyY P pc noY rk LA (k+1) 87 [v0,v1]=C87_0 pc k v0 v1:=(bqA Go.Proofs.Tryz.f87 code87 results87 (by kernel_rfl)).trans (by kernel_rfl)
noncomputable def code88:Code:=codeOf 88
noncomputable def results88:List ResultVar:=resOf 88
noncomputable def B88_0 (pc:PC) (k:Nat) (v0:D) (v1:D):Option D:=
bindO (binD P BinOp.and 101 (Operand.tmp 5) (Operand.tmp 6) v0 v1) fun d_1=>
bindO (binD P BinOp.neq 101 (Operand.tmp 7) (Operand.const (Value.int IntKind.u64 0)) d_1 (D.v (Value.int IntKind.u64 0))) fun d_2=>
some d_2
noncomputable def C88_0:=B88_0 pc k
theorem h88_0 (v0:D) (v1:D):bodyY P pc noY rk LA (k+1) 88 [v0,v1]=C88_0 pc k v0 v1:=(bqA Go.Proofs.Tryz.f88 code88 results88 (by kernel_rfl)).trans (by kernel_rfl)
noncomputable def code89:Code:=codeOf 89
noncomputable def results89:List ResultVar:=resOf 89
noncomputable def B89_0 (pc:PC) (k:Nat) (v0:D):Option D:=
bindO (pcD P pc 101 [v0]) fun d_1=>
some d_1
noncomputable def C89_0:=B89_0 pc k
noncomputable def code90:Code:=codeOf 90
noncomputable def results90:List ResultVar:=resOf 90
noncomputable def K90_pr:KA:=(cutKA (LvA.b (LA 90)).c (codeA P pc noY rk (codeFA P pc noY rk 90 k) 90 (cR (cR code90)) (LvA.b (LvA.b (LA 90))) (doneA P results90) X0A (doneA P results90)))
noncomputable def K90_pxrlr:(Nat→KA):=(upA 0 (K90_pr pc rk k) X0A)
noncomputable def K90_prlrl (m1:Nat):KA:=(cutKA (LvA.a (LvA.b (LvA.a (LvA.b (LA 90))))).c (codeFA P pc noY rk 90 m1 (LvA.a (LvA.b (LvA.a (LvA.b (LA 90))))) (cL (cR (cL (cR code90)))) (K90_pr pc rk k) (K90_pxrlr pc rk k) (doneA P results90)))
noncomputable def T90_1 (m1:Nat):=fun(u0:D) (u7:D) (u8:D) (u9:D)=>labA (codeA P pc noY rk (codeFA P pc noY rk 90 m1) 90 (cL (cL (cR (cL (cR code90))))) (LvA.a (LvA.a (LvA.b (LvA.a (LvA.b (LA 90)))))) (K90_prlrl pc rk k m1) (K90_pxrlr pc rk k) (doneA P results90)) (Tr.set (Tr.set (Tr.set (Tr.set Tr.nil 9 (some (AV.d u9))) 8 (some (AV.d u8))) 7 (some (AV.d u7))) 0 (some (AV.d u0))) Tr.nil
noncomputable def R90_1 (m1:Nat):(D→D→D→D→Option D):=fun u0 u7 u8 u9=>labA (codeFA P pc noY rk 90 m1 (LvA.a (LvA.b (LvA.a (LvA.b (LA 90))))) (cL (cR (cL (cR code90)))) (K90_pr pc rk k) (K90_pxrlr pc rk k) (doneA P results90)) (Tr.set (Tr.set (Tr.set (Tr.set Tr.nil 9 (some (AV.d u9))) 8 (some (AV.d u8))) 7 (some (AV.d u7))) 0 (some (AV.d u0))) Tr.nil
noncomputable def B90_1 (pc:PC) (k:Nat) (m1:Nat) (b1:(D→D→D→D→Option D)) (u0:D) (u7:D) (u8:D) (u9:D):Option D:=
bindO (binD P BinOp.lss 3 (Operand.tmp 9) (Operand.tmp 8) u9 u8) fun d_2=>
ifU d_2 (
bindO (elsD u7) fun l_3=>
bindO (idxD u9 l_3.length) fun i_4=>
bindO (l_3[i_4]?) fun d_5=>
chkK (leafD d_5) (
bindO (mmD P .max [3,3] (Call.mk (Callee.builtin Builtin.max) #[(Operand.tmp 13),(Operand.tmp 14)] #[3,3]) 3 [u0,d_5]) fun d_6=>
bindO (binD P BinOp.add 3 (Operand.tmp 9) (Operand.const (Value.int IntKind.i64 1)) u9 (D.v (Value.int IntKind.i64 1))) fun d_7=>
b1 d_6 u7 u8 d_7)) (
some u0)
noncomputable def C90_1 (m1:Nat):=B90_1 pc k m1
noncomputable def S90_1:Nat→(D→D→D→D→Option D):=recF (C90_1 pc k) (fun _ _ _ _=>none)
noncomputable def B90_0 (pc:PC) (k:Nat) (j1:(D→D→D→D→Option D)) (v0:D) (v1:D):Option D:=
bindO (elsD v1) fun l_1=>
j1 v0 v1 (lenD l_1) (D.v (Value.int IntKind.i64 0))
noncomputable def C90_0:=B90_0 pc k (S90_1 pc k k)
noncomputable def code95:Code:=codeOf 95
noncomputable def results95:List ResultVar:=resOf 95
noncomputable def K95_pr:KA:=(cutKA (LvA.b (LA 95)).c (codeA P pc noY rk (codeFA P pc noY rk 95 k) 95 (cR (cR code95)) (LvA.b (LvA.b (LA 95))) (doneA P results95) X0A (doneA P results95)))
noncomputable def K95_pxrl:(Nat→KA):=(upA 0 (K95_pr pc rk k) X0A)
noncomputable def T95_3:=fun(u25:D)=>labA (codeA P pc noY rk (codeFA P pc noY rk 95 k) 95 (cR (cR (cR (cR (cR (cL (cL (cR code95)))))))) (LvA.b (LvA.b (LvA.b (LvA.b (LvA.b (LvA.a (LvA.a (LvA.b (LA 95))))))))) (K95_pr pc rk k) (K95_pxrl pc rk k) (doneA P results95)) (Tr.set Tr.nil 25 (some (AV.d u25))) Tr.nil
noncomputable def T95_2:=fun(u16:D) (c1:List D)=>labA (codeA P pc noY rk (codeFA P pc noY rk 95 k) 95 (cR (cR (cR (cL (cL (cR code95)))))) (LvA.b (LvA.b (LvA.b (LvA.a (LvA.a (LvA.b (LA 95))))))) (K95_pr pc rk k) (K95_pxrl pc rk k) (doneA P results95)) (Tr.set (Tr.set Tr.nil 16 (some (AV.d u16))) 1 (some (AV.loc 1 0))) (Tr.set Tr.nil 1 (some (Bx.dat c1 false)))
noncomputable def T95_1:=fun(u3:D) (c1:List D)=>labA (codeA P pc noY rk (codeFA P pc noY rk 95 k) 95 (cR (cL (cL (cR code95)))) (LvA.b (LvA.a (LvA.a (LvA.b (LA 95))))) (K95_pr pc rk k) (K95_pxrl pc rk k) (doneA P results95)) (Tr.set (Tr.set Tr.nil 3 (some (AV.d u3))) 1 (some (AV.loc 1 0))) (Tr.set Tr.nil 1 (some (Bx.dat c1 false)))
noncomputable def B95_3 (pc:PC) (k:Nat) (u25:D):Option D:=
ifU u25 (
some (D.v (Value.int IntKind.i64 1))) (
some (D.v (Value.int IntKind.i64 0)))
noncomputable def C95_3:=B95_3 pc k
theorem h95_3:T95_3 pc rk k=C95_3 pc k:=by kernel_rfl
noncomputable def B95_2 (pc:PC) (k:Nat) (j3:(D→Option D)) (u16:D) (c1:List D):Option D:=
ifU u16 (
some (D.v (Value.int IntKind.i64 1))) (
bindO (c1[0]?) fun d_8=>
bindO (pcD P pc 106 [d_8,(D.fn 107 [] [])]) fun d_9=>
bindO (semD P d_9 (Op.unary UnOp.not)) fun d_a=>
ifU d_a (
j3 d_a) (
bindO (c1[1]?) fun d_b=>
bindO (cutD c1 0 3) fun c_c=>
bindO (pcD P pc 108 [d_b,(D.fn 109 [(D.agg c_c)] [])]) fun d_d=>
bindO (semD P d_d (Op.unary UnOp.not)) fun d_e=>
ifU d_e (
j3 d_e) (
bindO (c1[2]?) fun d_f=>
bindO (pcD P pc 110 [d_f,(D.fn 111 [] [])]) fun d_g=>
bindO (semD P d_g (Op.unary UnOp.not)) fun d_h=>
j3 d_h)))
noncomputable def C95_2:=B95_2 pc k (C95_3 pc k)
theorem h95_2:T95_2 pc rk k=C95_2 pc k:=Eq.trans (b:=B95_2 pc k (T95_3 pc rk k)) (by kernel_rfl) (by rw[h95_3]; rfl)
noncomputable def B95_1 (pc:PC) (k:Nat) (j2:(D→List D→Option D)) (u3:D) (c1:List D):Option D:=
ifU u3 (
some (D.v (Value.int IntKind.i64 3))) (
bindO (c1[0]?) fun d_5=>
bindO (elsD d_5) fun l_6=>
bindO (binD P BinOp.eql 3 (Operand.tmp 19) (Operand.const (Value.int IntKind.i64 0)) (lenD l_6) (D.v (Value.int IntKind.i64 0))) fun d_7=>
ifU d_7 (
j2 d_7 c1) (
bindO (c1[2]?) fun d_i=>
bindO (elsD d_i) fun l_j=>
bindO (binD P BinOp.eql 3 (Operand.tmp 23) (Operand.const (Value.int IntKind.i64 0)) (lenD l_j) (D.v (Value.int IntKind.i64 0))) fun d_k=>
j2 d_k c1))
noncomputable def C95_1:=B95_1 pc k (C95_2 pc k)
theorem h95_1:T95_1 pc rk k=C95_1 pc k:=Eq.trans (b:=B95_1 pc k (T95_2 pc rk k)) (by kernel_rfl) (by rw[h95_2]; rfl)
noncomputable def B95_0 (pc:PC) (k:Nat) (j1:(D→List D→Option D)) (v0:D):Option D:=
bindO (aggD v0) fun c_1=>
bindO (c_1[0]?) fun d_2=>
bindO (elsD d_2) fun l_3=>
bindO (binD P BinOp.gtr 3 (Operand.tmp 6) (Operand.const (Value.int IntKind.i64 8)) (lenD l_3) (D.v (Value.int IntKind.i64 8))) fun d_4=>
ifU d_4 (
j1 d_4 c_1) (
bindO (c_1[1]?) fun d_l=>
bindO (elsD d_l) fun l_m=>
bindO (binD P BinOp.gtr 3 (Operand.tmp 10) (Operand.const (Value.int IntKind.i64 16)) (lenD l_m) (D.v (Value.int IntKind.i64 16))) fun d_n=>
ifU d_n (
j1 d_n c_1) (
bindO (c_1[2]?) fun d_o=>
bindO (elsD d_o) fun l_p=>
bindO (binD P BinOp.gtr 3 (Operand.tmp 14) (Operand.const (Value.int IntKind.i64 3)) (lenD l_p) (D.v (Value.int IntKind.i64 3))) fun d_q=>
j1 d_q c_1))
noncomputable def C95_0:=B95_0 pc k (C95_1 pc k)
theorem h95_0 (v0:D):bodyY P pc noY rk LA (k+1) 95 [v0]=C95_0 pc k v0:=(bqA Go.Proofs.Tryz.f95 code95 results95 (by kernel_rfl)).trans (Eq.trans (b:=B95_0 pc k (T95_1 pc rk k) v0) (by kernel_rfl) (by rw[h95_1]; rfl))
noncomputable def code96:Code:=codeOf 96
noncomputable def results96:List ResultVar:=resOf 96
noncomputable def K96_pr:KA:=(cutKA (LvA.b (LA 96)).c (codeA P pc noY rk (codeFA P pc noY rk 96 k) 96 (cR (cR code96)) (LvA.b (LvA.b (LA 96))) (doneA P results96) X0A (doneA P results96)))
noncomputable def K96_pxrlr:(Nat→KA):=(upA 0 (K96_pr pc rk k) X0A)
noncomputable def K96_prlrl (m1:Nat):KA:=(cutKA (LvA.a (LvA.b (LvA.a (LvA.b (LA 96))))).c (codeFA P pc noY rk 96 m1 (LvA.a (LvA.b (LvA.a (LvA.b (LA 96))))) (cL (cR (cL (cR code96)))) (K96_pr pc rk k) (K96_pxrlr pc rk k) (doneA P results96)))
noncomputable def T96_1 (m1:Nat):=fun(u0:D) (u3:D)=>labA (codeA P pc noY rk (codeFA P pc noY rk 96 m1) 96 (cL (cL (cR (cL (cR code96))))) (LvA.a (LvA.a (LvA.b (LvA.a (LvA.b (LA 96)))))) (K96_prlrl pc rk k m1) (K96_pxrlr pc rk k) (doneA P results96)) (Tr.set (Tr.set Tr.nil 3 (some (AV.d u3))) 0 (some (AV.d u0))) Tr.nil
noncomputable def R96_1 (m1:Nat):(D→D→Option D):=fun u0 u3=>labA (codeFA P pc noY rk 96 m1 (LvA.a (LvA.b (LvA.a (LvA.b (LA 96))))) (cL (cR (cL (cR code96)))) (K96_pr pc rk k) (K96_pxrlr pc rk k) (doneA P results96)) (Tr.set (Tr.set Tr.nil 3 (some (AV.d u3))) 0 (some (AV.d u0))) Tr.nil
noncomputable def B96_1 (pc:PC) (k:Nat) (m1:Nat) (b1:(D→D→Option D)) (u0:D) (u3:D):Option D:=
bindO (elsD u0) fun l_1=>
bindO (binD P BinOp.lss 3 (Operand.tmp 4) (Operand.tmp 6) u3 (lenD l_1)) fun d_2=>
ifU d_2 (
bindO (elsD u0) fun l_3=>
bindO (idxD u3 l_3.length) fun i_4=>
bindO (l_3[i_4]?) fun d_5=>
chkK (leafD d_5) (
bindO (binD P BinOp.sub 3 (Operand.tmp 15) (Operand.const (Value.int IntKind.i64 1)) u3 (D.v (Value.int IntKind.i64 1))) fun d_6=>
bindO (elsD u0) fun l_7=>
bindO (idxD d_6 l_7.length) fun i_8=>
bindO (l_7[i_8]?) fun d_9=>
chkK (leafD d_9) (
bindO (binD P BinOp.leq 3 (Operand.tmp 13) (Operand.tmp 18) d_5 d_9) fun d_a=>
ifU d_a (
some (D.v (Value.bool false))) (
bindO (binD P BinOp.add 3 (Operand.tmp 8) (Operand.const (Value.int IntKind.i64 1)) u3 (D.v (Value.int IntKind.i64 1))) fun d_b=>
b1 u0 d_b)))) (
some (D.v (Value.bool true)))
noncomputable def C96_1 (m1:Nat):=B96_1 pc k m1
noncomputable def S96_1:Nat→(D→D→Option D):=recF (C96_1 pc k) (fun _ _=>none)
theorem h96_1 (m1:Nat):T96_1 pc rk k m1=C96_1 pc k m1 (R96_1 pc rk k m1):=by kernel_rfl
theorem q96_1 (m:Nat):T96_1 pc rk k m=S96_1 pc k m:=recS (h96_1 pc rk k) (by kernel_rfl) (fun m=>by kernel_rfl) m
noncomputable def B96_0 (pc:PC) (k:Nat) (j1:(D→D→Option D)) (v0:D):Option D:=
j1 v0 (D.v (Value.int IntKind.i64 1))
noncomputable def C96_0:=B96_0 pc k (S96_1 pc k k)
theorem h96_0 (v0:D):bodyY P pc noY rk LA (k+1) 96 [v0]=C96_0 pc k v0:=(bqA Go.Proofs.Tryz.f96 code96 results96 (by kernel_rfl)).trans (Eq.trans (b:=B96_0 pc k (T96_1 pc rk k k) v0) (by kernel_rfl) (by rw[q96_1]; rfl))
noncomputable def code97:Code:=codeOf 97
noncomputable def results97:List ResultVar:=resOf 97
noncomputable def B97_0 (pc:PC) (k:Nat) (v0:D) (v1:D):Option D:=
chkK (leafD v0) (
chkK (leafD v1) (
some (D.fn 112 [] [(D.ref [v0]),(D.ref [v1])])))
noncomputable def C97_0:=B97_0 pc k
theorem h97_0 (v0:D) (v1:D):bodyY P pc noY rk LA (k+1) 97 [v0,v1]=C97_0 pc k v0 v1:=(bqA Go.Proofs.Tryz.f97 code97 results97 (by kernel_rfl)).trans (by kernel_rfl)
noncomputable def code98:Code:=codeOf 98
noncomputable def results98:List ResultVar:=resOf 98
noncomputable def B98_0 (pc:PC) (k:Nat) (v0:D) (v1:D):Option D:=
bindO (pcD P pc 60 [v0,(D.v (Value.int IntKind.i64 0)),v1]) fun d_1=>
ifU d_1 (
bindO (binD P BinOp.leq 3 (Operand.tmp 9) (Operand.const (Value.int IntKind.i64 1000)) v1 (D.v (Value.int IntKind.i64 1000))) fun d_2=>
some d_2) (
some (D.v (Value.bool false)))
noncomputable def C98_0:=B98_0 pc k
theorem h98_0 (v0:D) (v1:D):bodyY P pc noY rk LA (k+1) 98 [v0,v1]=C98_0 pc k v0 v1:=(bqA Go.Proofs.Tryz.f98 code98 results98 (by kernel_rfl)).trans (by kernel_rfl)
noncomputable def code101:Code:=codeOf 101
noncomputable def results101:List ResultVar:=resOf 101
noncomputable def B101_0 (pc:PC) (k:Nat) (v0:D):Option D:=
bindO (pcD P pc 115 [v0]) fun d_1=>
some d_1
noncomputable def C101_0:=B101_0 pc k
noncomputable def code106:Code:=codeOf 106
noncomputable def results106:List ResultVar:=resOf 106
noncomputable def K106_pr:KA:=(cutKA (LvA.b (LA 106)).c (codeA P pc noY rk (codeFA P pc noY rk 106 k) 106 (cR (cR code106)) (LvA.b (LvA.b (LA 106))) (doneA P results106) X0A (doneA P results106)))
noncomputable def K106_pxrlr:(Nat→KA):=(upA 0 (K106_pr pc rk k) X0A)
noncomputable def K106_prlrl (m1:Nat):KA:=(cutKA (LvA.a (LvA.b (LvA.a (LvA.b (LA 106))))).c (codeFA P pc noY rk 106 m1 (LvA.a (LvA.b (LvA.a (LvA.b (LA 106))))) (cL (cR (cL (cR code106)))) (K106_pr pc rk k) (K106_pxrlr pc rk k) (doneA P results106)))
noncomputable def T106_1 (m1:Nat):=fun(u1:D) (u7:D) (u8:D) (u9:D)=>labA (codeA P pc noY rk (codeFA P pc noY rk 106 m1) 106 (cL (cL (cR (cL (cR code106))))) (LvA.a (LvA.a (LvA.b (LvA.a (LvA.b (LA 106)))))) (K106_prlrl pc rk k m1) (K106_pxrlr pc rk k) (doneA P results106)) (Tr.set (Tr.set (Tr.set (Tr.set Tr.nil 9 (some (AV.d u9))) 8 (some (AV.d u8))) 7 (some (AV.d u7))) 1 (some (AV.d u1))) Tr.nil
noncomputable def R106_1 (m1:Nat):(D→D→D→D→Option D):=fun u1 u7 u8 u9=>labA (codeFA P pc noY rk 106 m1 (LvA.a (LvA.b (LvA.a (LvA.b (LA 106))))) (cL (cR (cL (cR code106)))) (K106_pr pc rk k) (K106_pxrlr pc rk k) (doneA P results106)) (Tr.set (Tr.set (Tr.set (Tr.set Tr.nil 9 (some (AV.d u9))) 8 (some (AV.d u8))) 7 (some (AV.d u7))) 1 (some (AV.d u1))) Tr.nil
noncomputable def B106_1 (pc:PC) (k:Nat) (m1:Nat) (b1:(D→D→D→D→Option D)) (u1:D) (u7:D) (u8:D) (u9:D):Option D:=
bindO (binD P BinOp.lss 3 (Operand.tmp 9) (Operand.tmp 8) u9 u8) fun d_2=>
ifU d_2 (
bindO (elsD u7) fun l_3=>
bindO (idxD u9 l_3.length) fun i_4=>
bindO (l_3[i_4]?) fun d_5=>
bindO (aggD d_5) fun c_6=>
chkK (Nat.beq c_6.length 2) (
bindO (cutD c_6 0 2) fun c_7=>
bindO (splD [(D.v (Value.int IntKind.i64 0)),(D.v (Value.int IntKind.i64 0))] 0 c_7 2) fun c_8=>
bindO (cutD c_8 0 2) fun c_9=>
fnK u1 fun g a b=>
bindO (pcD P pc g (a++[(D.agg c_9)]++b)) fun d_a=>
bindO (semD P d_a (Op.unary UnOp.not)) fun d_b=>
ifU d_b (
some (D.v (Value.bool false))) (
bindO (binD P BinOp.add 3 (Operand.tmp 9) (Operand.const (Value.int IntKind.i64 1)) u9 (D.v (Value.int IntKind.i64 1))) fun d_c=>
b1 u1 u7 u8 d_c))) (
some (D.v (Value.bool true)))
noncomputable def C106_1 (m1:Nat):=B106_1 pc k m1
noncomputable def S106_1:Nat→(D→D→D→D→Option D):=recF (C106_1 pc k) (fun _ _ _ _=>none)
theorem h106_1 (m1:Nat):T106_1 pc rk k m1=C106_1 pc k m1 (R106_1 pc rk k m1):=by kernel_rfl
theorem q106_1 (m:Nat):T106_1 pc rk k m=S106_1 pc k m:=recS (h106_1 pc rk k) (by kernel_rfl) (fun m=>by kernel_rfl) m
noncomputable def B106_0 (pc:PC) (k:Nat) (j1:(D→D→D→D→Option D)) (v0:D) (v1:D):Option D:=
bindO (elsD v0) fun l_1=>
j1 v1 v0 (lenD l_1) (D.v (Value.int IntKind.i64 0))
noncomputable def C106_0:=B106_0 pc k (S106_1 pc k k)
theorem h106_0 (v0:D) (v1:D):bodyY P pc noY rk LA (k+1) 106 [v0,v1]=C106_0 pc k v0 v1:=(bqA Go.Proofs.Tryz.f106 code106 results106 (by kernel_rfl)).trans (Eq.trans (b:=B106_0 pc k (T106_1 pc rk k k) v0 v1) (by kernel_rfl) (by rw[q106_1]; rfl))
noncomputable def code107:Code:=codeOf 107
noncomputable def results107:List ResultVar:=resOf 107
noncomputable def B107_0 (pc:PC) (k:Nat) (v0:D):Option D:=
bindO (aggD v0) fun c_1=>
bindO (c_1[0]?) fun d_2=>
bindO (binD P BinOp.geq 3 (Operand.tmp 4) (Operand.const (Value.int IntKind.i64 0)) d_2 (D.v (Value.int IntKind.i64 0))) fun d_3=>
ifU d_3 (
bindO (c_1[0]?) fun d_4=>
bindO (c_1[1]?) fun d_5=>
bindO (binD P BinOp.leq 3 (Operand.tmp 8) (Operand.tmp 10) d_4 d_5) fun d_6=>
ifU d_6 (
bindO (c_1[1]?) fun d_7=>
bindO (binD P BinOp.leq 3 (Operand.tmp 15) (Operand.const (Value.int IntKind.i64 1000)) d_7 (D.v (Value.int IntKind.i64 1000))) fun d_8=>
some d_8) (
some (D.v (Value.bool false)))) (
some (D.v (Value.bool false)))
noncomputable def C107_0:=B107_0 pc k
theorem h107_0 (v0:D):bodyY P pc noY rk LA (k+1) 107 [v0]=C107_0 pc k v0:=(bqA Go.Proofs.Tryz.f107 code107 results107 (by kernel_rfl)).trans (by kernel_rfl)
noncomputable def code108:Code:=codeOf 108
noncomputable def results108:List ResultVar:=resOf 108
noncomputable def K108_pr:KA:=(cutKA (LvA.b (LA 108)).c (codeA P pc noY rk (codeFA P pc noY rk 108 k) 108 (cR (cR code108)) (LvA.b (LvA.b (LA 108))) (doneA P results108) X0A (doneA P results108)))
noncomputable def K108_pxrlr:(Nat→KA):=(upA 0 (K108_pr pc rk k) X0A)
noncomputable def K108_prlrl (m1:Nat):KA:=(cutKA (LvA.a (LvA.b (LvA.a (LvA.b (LA 108))))).c (codeFA P pc noY rk 108 m1 (LvA.a (LvA.b (LvA.a (LvA.b (LA 108))))) (cL (cR (cL (cR code108)))) (K108_pr pc rk k) (K108_pxrlr pc rk k) (doneA P results108)))
noncomputable def T108_1 (m1:Nat):=fun(u1:D) (u7:D) (u8:D) (u9:D)=>labA (codeA P pc noY rk (codeFA P pc noY rk 108 m1) 108 (cL (cL (cR (cL (cR code108))))) (LvA.a (LvA.a (LvA.b (LvA.a (LvA.b (LA 108)))))) (K108_prlrl pc rk k m1) (K108_pxrlr pc rk k) (doneA P results108)) (Tr.set (Tr.set (Tr.set (Tr.set Tr.nil 9 (some (AV.d u9))) 8 (some (AV.d u8))) 7 (some (AV.d u7))) 1 (some (AV.d u1))) Tr.nil
noncomputable def R108_1 (m1:Nat):(D→D→D→D→Option D):=fun u1 u7 u8 u9=>labA (codeFA P pc noY rk 108 m1 (LvA.a (LvA.b (LvA.a (LvA.b (LA 108))))) (cL (cR (cL (cR code108)))) (K108_pr pc rk k) (K108_pxrlr pc rk k) (doneA P results108)) (Tr.set (Tr.set (Tr.set (Tr.set Tr.nil 9 (some (AV.d u9))) 8 (some (AV.d u8))) 7 (some (AV.d u7))) 1 (some (AV.d u1))) Tr.nil
noncomputable def B108_1 (pc:PC) (k:Nat) (m1:Nat) (b1:(D→D→D→D→Option D)) (u1:D) (u7:D) (u8:D) (u9:D):Option D:=
bindO (binD P BinOp.lss 3 (Operand.tmp 9) (Operand.tmp 8) u9 u8) fun d_2=>
ifU d_2 (
bindO (elsD u7) fun l_3=>
bindO (idxD u9 l_3.length) fun i_4=>
bindO (l_3[i_4]?) fun d_5=>
bindO (aggD d_5) fun c_6=>
chkK (Nat.beq c_6.length 2) (
bindO (cutD c_6 0 2) fun c_7=>
bindO (splD [(D.v (Value.int IntKind.i64 0)),(D.v (Value.int IntKind.i64 0))] 0 c_7 2) fun c_8=>
bindO (cutD c_8 0 2) fun c_9=>
fnK u1 fun g a b=>
bindO (pcD P pc g (a++[(D.agg c_9)]++b)) fun d_a=>
bindO (semD P d_a (Op.unary UnOp.not)) fun d_b=>
ifU d_b (
some (D.v (Value.bool false))) (
bindO (binD P BinOp.add 3 (Operand.tmp 9) (Operand.const (Value.int IntKind.i64 1)) u9 (D.v (Value.int IntKind.i64 1))) fun d_c=>
b1 u1 u7 u8 d_c))) (
some (D.v (Value.bool true)))
noncomputable def C108_1 (m1:Nat):=B108_1 pc k m1
noncomputable def S108_1:Nat→(D→D→D→D→Option D):=recF (C108_1 pc k) (fun _ _ _ _=>none)
theorem h108_1 (m1:Nat):T108_1 pc rk k m1=C108_1 pc k m1 (R108_1 pc rk k m1):=by kernel_rfl
theorem q108_1 (m:Nat):T108_1 pc rk k m=S108_1 pc k m:=recS (h108_1 pc rk k) (by kernel_rfl) (fun m=>by kernel_rfl) m
noncomputable def B108_0 (pc:PC) (k:Nat) (j1:(D→D→D→D→Option D)) (v0:D) (v1:D):Option D:=
bindO (elsD v0) fun l_1=>
j1 v1 v0 (lenD l_1) (D.v (Value.int IntKind.i64 0))
noncomputable def C108_0:=B108_0 pc k (S108_1 pc k k)
theorem h108_0 (v0:D) (v1:D):bodyY P pc noY rk LA (k+1) 108 [v0,v1]=C108_0 pc k v0 v1:=(bqA Go.Proofs.Tryz.f108 code108 results108 (by kernel_rfl)).trans (Eq.trans (b:=B108_0 pc k (T108_1 pc rk k k) v0 v1) (by kernel_rfl) (by rw[q108_1]; rfl))
noncomputable def code109:Code:=codeOf 109
noncomputable def results109:List ResultVar:=resOf 109
noncomputable def K109_prr:KA:=(cutKA (LvA.b (LvA.b (LA 109))).c (codeA P pc noY rk (codeFA P pc noY rk 109 k) 109 (cR (cR (cR code109))) (LvA.b (LvA.b (LvA.b (LA 109)))) (doneA P results109) X0A (doneA P results109)))
noncomputable def K109_pxrrlr:(Nat→KA):=(upA 0 (K109_prr pc rk k) X0A)
noncomputable def K109_prrlrl (m1:Nat):KA:=(cutKA (LvA.a (LvA.b (LvA.a (LvA.b (LvA.b (LA 109)))))).c (codeFA P pc noY rk 109 m1 (LvA.a (LvA.b (LvA.a (LvA.b (LvA.b (LA 109)))))) (cL (cR (cL (cR (cR code109))))) (K109_prr pc rk k) (K109_pxrrlr pc rk k) (doneA P results109)))
noncomputable def K109_prrlrllrr (m1:Nat):KA:=(cutKA (LvA.b (LvA.b (LvA.a (LvA.a (LvA.b (LvA.a (LvA.b (LvA.b (LA 109))))))))).c (codeA P pc noY rk (codeFA P pc noY rk 109 m1) 109 (cR (cR (cR (cL (cL (cR (cL (cR (cR code109))))))))) (LvA.b (LvA.b (LvA.b (LvA.a (LvA.a (LvA.b (LvA.a (LvA.b (LvA.b (LA 109)))))))))) (K109_prrlrl pc rk k m1) (K109_pxrrlr pc rk k) (doneA P results109)))
noncomputable def K109_pxrrlrllrrl (m1:Nat):(Nat→KA):=(upA 1 (K109_prrlrllrr pc rk k m1) (K109_pxrrlr pc rk k))
noncomputable def T109_3 (m1:Nat):=fun(u5:D) (u9:D) (u10:D) (u11:D) (c2:List D) (c3:List D)=>labA (codeA P pc noY rk (codeFA P pc noY rk 109 m1) 109 (cR (cR (cR (cL (cL (cR (cL (cR (cR code109))))))))) (LvA.b (LvA.b (LvA.b (LvA.a (LvA.a (LvA.b (LvA.a (LvA.b (LvA.b (LA 109)))))))))) (K109_prrlrl pc rk k m1) (K109_pxrrlr pc rk k) (doneA P results109)) (Tr.set (Tr.set (Tr.set (Tr.set (Tr.set (Tr.set Tr.nil 11 (some (AV.d u11))) 10 (some (AV.d u10))) 9 (some (AV.d u9))) 5 (some (AV.d u5))) 3 (some (AV.loc 3 0))) 2 (some (AV.loc 2 0))) (Tr.set (Tr.set Tr.nil 3 (some (Bx.dat c3 false))) 2 (some (Bx.dat c2 false)))
noncomputable def T109_2 (m1:Nat):=fun(u5:D) (u9:D) (u10:D) (u11:D) (u26:D) (c2:List D) (c3:List D)=>labA (codeA P pc noY rk (codeFA P pc noY rk 109 m1) 109 (cR (cR (cL (cL (cR (cR (cL (cL (cR (cL (cR (cR code109)))))))))))) (LvA.b (LvA.b (LvA.a (LvA.a (LvA.b (LvA.b (LvA.a (LvA.a (LvA.b (LvA.a (LvA.b (LvA.b (LA 109))))))))))))) (K109_prrlrllrr pc rk k m1) (K109_pxrrlrllrrl pc rk k m1) (doneA P results109)) (Tr.set (Tr.set (Tr.set (Tr.set (Tr.set (Tr.set (Tr.set Tr.nil 26 (some (AV.d u26))) 11 (some (AV.d u11))) 10 (some (AV.d u10))) 9 (some (AV.d u9))) 5 (some (AV.d u5))) 3 (some (AV.loc 3 0))) 2 (some (AV.loc 2 0))) (Tr.set (Tr.set Tr.nil 3 (some (Bx.dat c3 false))) 2 (some (Bx.dat c2 false)))
noncomputable def T109_1 (m1:Nat):=fun(u5:D) (u9:D) (u10:D) (u11:D) (c2:List D) (c3:List D)=>labA (codeA P pc noY rk (codeFA P pc noY rk 109 m1) 109 (cL (cL (cR (cL (cR (cR code109)))))) (LvA.a (LvA.a (LvA.b (LvA.a (LvA.b (LvA.b (LA 109))))))) (K109_prrlrl pc rk k m1) (K109_pxrrlr pc rk k) (doneA P results109)) (Tr.set (Tr.set (Tr.set (Tr.set (Tr.set (Tr.set Tr.nil 11 (some (AV.d u11))) 10 (some (AV.d u10))) 9 (some (AV.d u9))) 5 (some (AV.d u5))) 3 (some (AV.loc 3 0))) 2 (some (AV.loc 2 0))) (Tr.set (Tr.set Tr.nil 3 (some (Bx.dat c3 false))) 2 (some (Bx.dat c2 false)))
noncomputable def R109_1 (m1:Nat):(D→D→D→D→List D→List D→Option D):=fun u5 u9 u10 u11 c2 c3=>labA (codeFA P pc noY rk 109 m1 (LvA.a (LvA.b (LvA.a (LvA.b (LvA.b (LA 109)))))) (cL (cR (cL (cR (cR code109))))) (K109_prr pc rk k) (K109_pxrrlr pc rk k) (doneA P results109)) (Tr.set (Tr.set (Tr.set (Tr.set (Tr.set (Tr.set Tr.nil 11 (some (AV.d u11))) 10 (some (AV.d u10))) 9 (some (AV.d u9))) 5 (some (AV.d u5))) 3 (some (AV.loc 3 0))) 2 (some (AV.loc 2 0))) (Tr.set (Tr.set Tr.nil 3 (some (Bx.dat c3 false))) 2 (some (Bx.dat c2 false)))
noncomputable def B109_3 (pc:PC) (k:Nat) (m1:Nat) (b1:(D→D→D→D→List D→List D→Option D)) (u5:D) (u9:D) (u10:D) (u11:D) (c2:List D) (c3:List D):Option D:=
bindO (binD P BinOp.add 3 (Operand.tmp 11) (Operand.const (Value.int IntKind.i64 1)) u11 (D.v (Value.int IntKind.i64 1))) fun d_g=>
b1 u5 u9 u10 d_g c2 c3
noncomputable def C109_3 (m1:Nat):=B109_3 pc k m1
theorem h109_3 (m1:Nat):T109_3 pc rk k m1=C109_3 pc k m1 (R109_1 pc rk k m1):=by kernel_rfl
noncomputable def B109_2 (pc:PC) (k:Nat) (m1:Nat) (j3:(D→D→D→D→List D→List D→Option D)) (b1:(D→D→D→D→List D→List D→Option D)) (u5:D) (u9:D) (u10:D) (u11:D) (u26:D) (c2:List D) (c3:List D):Option D:=
ifU u26 (
bindO (binD P BinOp.add 3 (Operand.tmp 27) (Operand.const (Value.int IntKind.i64 1)) u5 (D.v (Value.int IntKind.i64 1))) fun d_f=>
j3 d_f u9 u10 u11 c2 c3) (
j3 u5 u9 u10 u11 c2 c3)
noncomputable def C109_2 (m1:Nat) (b1:(D→D→D→D→List D→List D→Option D)):=B109_2 pc k m1 (C109_3 pc k m1 b1) b1
theorem h109_2 (m1:Nat):T109_2 pc rk k m1=C109_2 pc k m1 (R109_1 pc rk k m1):=Eq.trans (b:=B109_2 pc k m1 (T109_3 pc rk k m1) (R109_1 pc rk k m1)) (by kernel_rfl) (by rw[h109_3]; rfl)
noncomputable def B109_1 (pc:PC) (k:Nat) (m1:Nat) (j2:(D→D→D→D→D→List D→List D→Option D)) (b1:(D→D→D→D→List D→List D→Option D)) (u5:D) (u9:D) (u10:D) (u11:D) (c2:List D) (c3:List D):Option D:=
bindO (binD P BinOp.lss 3 (Operand.tmp 11) (Operand.tmp 10) u11 u10) fun d_5=>
ifU d_5 (
bindO (elsD u9) fun l_6=>
bindO (idxD u11 l_6.length) fun i_7=>
bindO (l_6[i_7]?) fun d_8=>
bindO (aggD d_8) fun c_9=>
chkK (Nat.beq c_9.length 2) (
bindO (cutD c_9 0 2) fun c_a=>
bindO (splD [(D.v (Value.int IntKind.i64 0)),(D.v (Value.int IntKind.i64 0))] 0 c_a 2) fun c_b=>
bindO (cutD c_b 0 2) fun c_c=>
bindO (cutD c3 0 2) fun c_d=>
bindO (binD P BinOp.eql 125 (Operand.tmp 15) (Operand.tmp 16) (D.agg c_c) (D.agg c_d)) fun d_e=>
ifU d_e (
j2 u5 u9 u10 u11 (D.v (Value.bool true)) c2 c3) (
bindO (cutD c_b 0 2) fun c_h=>
bindO (c3[1]?) fun d_i=>
bindO (c3[0]?) fun d_j=>
chkK (leafD d_i) (
chkK (leafD d_j) (
bindO (binD P BinOp.eql 125 (Operand.tmp 19) (Operand.tmp 24) (D.agg c_h) (D.agg [d_i,d_j])) fun d_k=>
j2 u5 u9 u10 u11 d_k c2 c3))))) (
bindO (cutD c2 0 3) fun c_l=>
bindO (c3[0]?) fun d_m=>
bindO (pcD P pc 121 [(D.agg c_l),d_m]) fun d_n=>
ifU d_n (
bindO (cutD c2 0 3) fun c_o=>
bindO (c3[1]?) fun d_p=>
bindO (pcD P pc 121 [(D.agg c_o),d_p]) fun d_q=>
ifU d_q (
bindO (c3[0]?) fun d_r=>
bindO (c3[1]?) fun d_s=>
bindO (binD P BinOp.neq 3 (Operand.tmp 42) (Operand.tmp 44) d_r d_s) fun d_t=>
ifU d_t (
bindO (binD P BinOp.eql 3 (Operand.tmp 48) (Operand.const (Value.int IntKind.i64 1)) u5 (D.v (Value.int IntKind.i64 1))) fun d_u=>
some d_u) (
some (D.v (Value.bool false)))) (
some (D.v (Value.bool false)))) (
some (D.v (Value.bool false))))
noncomputable def C109_1 (m1:Nat) (b1:(D→D→D→D→List D→List D→Option D)):=B109_1 pc k m1 (C109_2 pc k m1 b1) b1
noncomputable def S109_1:Nat→(D→D→D→D→List D→List D→Option D):=recF (C109_1 pc k) (fun _ _ _ _ _ _=>none)
theorem h109_1 (m1:Nat):T109_1 pc rk k m1=C109_1 pc k m1 (R109_1 pc rk k m1):=Eq.trans (b:=B109_1 pc k m1 (T109_2 pc rk k m1) (R109_1 pc rk k m1)) (by kernel_rfl) (by rw[h109_2]; rfl)
theorem q109_1 (m:Nat):T109_1 pc rk k m=S109_1 pc k m:=recS (h109_1 pc rk k) (by kernel_rfl) (fun m=>by kernel_rfl) m
noncomputable def B109_0 (pc:PC) (k:Nat) (j1:(D→D→D→D→List D→List D→Option D)) (v0:D) (v1:D):Option D:=
bindO (aggD v0) fun c_1=>
bindO (aggD v1) fun c_2=>
bindO (c_1[1]?) fun d_3=>
bindO (elsD d_3) fun l_4=>
j1 (D.v (Value.int IntKind.i64 0)) d_3 (lenD l_4) (D.v (Value.int IntKind.i64 0)) c_1 c_2
noncomputable def C109_0:=B109_0 pc k (S109_1 pc k k)
theorem h109_0 (v0:D) (v1:D):bodyY P pc noY rk LA (k+1) 109 [v0,v1]=C109_0 pc k v0 v1:=(bqA Go.Proofs.Tryz.f109 code109 results109 (by kernel_rfl)).trans (Eq.trans (b:=B109_0 pc k (T109_1 pc rk k k) v0 v1) (by kernel_rfl) (by rw[q109_1]; rfl))
noncomputable def code110:Code:=codeOf 110
noncomputable def results110:List ResultVar:=resOf 110
noncomputable def K110_pr:KA:=(cutKA (LvA.b (LA 110)).c (codeA P pc noY rk (codeFA P pc noY rk 110 k) 110 (cR (cR code110)) (LvA.b (LvA.b (LA 110))) (doneA P results110) X0A (doneA P results110)))
noncomputable def K110_pxrlr:(Nat→KA):=(upA 0 (K110_pr pc rk k) X0A)
noncomputable def K110_prlrl (m1:Nat):KA:=(cutKA (LvA.a (LvA.b (LvA.a (LvA.b (LA 110))))).c (codeFA P pc noY rk 110 m1 (LvA.a (LvA.b (LvA.a (LvA.b (LA 110))))) (cL (cR (cL (cR code110)))) (K110_pr pc rk k) (K110_pxrlr pc rk k) (doneA P results110)))
noncomputable def T110_1 (m1:Nat):=fun(u1:D) (u7:D) (u8:D) (u9:D)=>labA (codeA P pc noY rk (codeFA P pc noY rk 110 m1) 110 (cL (cL (cR (cL (cR code110))))) (LvA.a (LvA.a (LvA.b (LvA.a (LvA.b (LA 110)))))) (K110_prlrl pc rk k m1) (K110_pxrlr pc rk k) (doneA P results110)) (Tr.set (Tr.set (Tr.set (Tr.set Tr.nil 9 (some (AV.d u9))) 8 (some (AV.d u8))) 7 (some (AV.d u7))) 1 (some (AV.d u1))) Tr.nil
noncomputable def R110_1 (m1:Nat):(D→D→D→D→Option D):=fun u1 u7 u8 u9=>labA (codeFA P pc noY rk 110 m1 (LvA.a (LvA.b (LvA.a (LvA.b (LA 110))))) (cL (cR (cL (cR code110)))) (K110_pr pc rk k) (K110_pxrlr pc rk k) (doneA P results110)) (Tr.set (Tr.set (Tr.set (Tr.set Tr.nil 9 (some (AV.d u9))) 8 (some (AV.d u8))) 7 (some (AV.d u7))) 1 (some (AV.d u1))) Tr.nil
noncomputable def B110_1 (pc:PC) (k:Nat) (m1:Nat) (b1:(D→D→D→D→Option D)) (u1:D) (u7:D) (u8:D) (u9:D):Option D:=
bindO (binD P BinOp.lss 3 (Operand.tmp 9) (Operand.tmp 8) u9 u8) fun d_2=>
ifU d_2 (
bindO (elsD u7) fun l_3=>
bindO (idxD u9 l_3.length) fun i_4=>
bindO (l_3[i_4]?) fun d_5=>
bindO (aggD d_5) fun c_6=>
chkK (Nat.beq c_6.length 5) (
bindO (cutD c_6 0 5) fun c_7=>
bindO (splD [(D.v (Value.int IntKind.i64 0)),(D.v (Value.int IntKind.i64 0)),(D.v (Value.int IntKind.i64 0)),(D.v (Value.int IntKind.i64 0)),(D.v (Value.int IntKind.i64 0))] 0 c_7 5) fun c_8=>
bindO (cutD c_8 0 5) fun c_9=>
fnK u1 fun g a b=>
bindO (pcD P pc g (a++[(D.agg c_9)]++b)) fun d_a=>
bindO (semD P d_a (Op.unary UnOp.not)) fun d_b=>
ifU d_b (
some (D.v (Value.bool false))) (
bindO (binD P BinOp.add 3 (Operand.tmp 9) (Operand.const (Value.int IntKind.i64 1)) u9 (D.v (Value.int IntKind.i64 1))) fun d_c=>
b1 u1 u7 u8 d_c))) (
some (D.v (Value.bool true)))
noncomputable def C110_1 (m1:Nat):=B110_1 pc k m1
noncomputable def S110_1:Nat→(D→D→D→D→Option D):=recF (C110_1 pc k) (fun _ _ _ _=>none)
theorem h110_1 (m1:Nat):T110_1 pc rk k m1=C110_1 pc k m1 (R110_1 pc rk k m1):=by kernel_rfl
theorem q110_1 (m:Nat):T110_1 pc rk k m=S110_1 pc k m:=recS (h110_1 pc rk k) (by kernel_rfl) (fun m=>by kernel_rfl) m
noncomputable def B110_0 (pc:PC) (k:Nat) (j1:(D→D→D→D→Option D)) (v0:D) (v1:D):Option D:=
bindO (elsD v0) fun l_1=>
j1 v1 v0 (lenD l_1) (D.v (Value.int IntKind.i64 0))
noncomputable def C110_0:=B110_0 pc k (S110_1 pc k k)
theorem h110_0 (v0:D) (v1:D):bodyY P pc noY rk LA (k+1) 110 [v0,v1]=C110_0 pc k v0 v1:=(bqA Go.Proofs.Tryz.f110 code110 results110 (by kernel_rfl)).trans (Eq.trans (b:=B110_0 pc k (T110_1 pc rk k k) v0 v1) (by kernel_rfl) (by rw[q110_1]; rfl))
noncomputable def code111:Code:=codeOf 111
noncomputable def results111:List ResultVar:=resOf 111
noncomputable def B111_0 (pc:PC) (k:Nat) (v0:D):Option D:=
bindO (aggD v0) fun c_1=>
bindO (c_1[0]?) fun d_2=>
bindO (binD P BinOp.geq 3 (Operand.tmp 4) (Operand.const (Value.int IntKind.i64 0)) d_2 (D.v (Value.int IntKind.i64 0))) fun d_3=>
ifU d_3 (
bindO (c_1[0]?) fun d_4=>
bindO (binD P BinOp.leq 3 (Operand.tmp 8) (Operand.const (Value.int IntKind.i64 1000)) d_4 (D.v (Value.int IntKind.i64 1000))) fun d_5=>
ifU d_5 (
bindO (cutD c_1 1 2) fun c_6=>
bindO (pcD P pc 122 [(D.agg c_6)]) fun d_7=>
ifU d_7 (
bindO (cutD c_1 3 2) fun c_8=>
bindO (pcD P pc 122 [(D.agg c_8)]) fun d_9=>
some d_9) (
some (D.v (Value.bool false)))) (
some (D.v (Value.bool false)))) (
some (D.v (Value.bool false)))
noncomputable def C111_0:=B111_0 pc k
theorem h111_0 (v0:D):bodyY P pc noY rk LA (k+1) 111 [v0]=C111_0 pc k v0:=(bqA Go.Proofs.Tryz.f111 code111 results111 (by kernel_rfl)).trans (by kernel_rfl)
noncomputable def code112:Code:=codeOf 112
noncomputable def results112:List ResultVar:=resOf 112
noncomputable def K112_pxr (pc:PC) (k:Nat):(Nat→KA):=(upA 0 (doneA P results112) X0A)
noncomputable def K112_prl (m1:Nat):KA:=(cutKA (LvA.a (LvA.b (LA 112))).c (codeFA P pc nodeY noR 112 m1 (LvA.a (LvA.b (LA 112))) (cL (cR code112)) (doneA P results112) (K112_pxr pc k) (doneA P results112)))
noncomputable def K112_prllrr (m1:Nat):KA:=(cutKA (LvA.b (LvA.b (LvA.a (LvA.a (LvA.b (LA 112)))))).c (codeA P pc nodeY noR (codeFA P pc nodeY noR 112 m1) 112 (cR (cR (cR (cL (cL (cR code112)))))) (LvA.b (LvA.b (LvA.b (LvA.a (LvA.a (LvA.b (LA 112))))))) (K112_prl pc k m1) (K112_pxr pc k) (doneA P results112)))
noncomputable def K112_pxrllrrl (m1:Nat):(Nat→KA):=(upA 1 (K112_prllrr pc k m1) (K112_pxr pc k))
noncomputable def T112_2 (m1:Nat):=fun(u0:Nat) (u1:D) (u2:D) (u10:D) (u11:D) (u27:D)=>labA (codeA P pc nodeY noR (codeFA P pc nodeY noR 112 m1) 112 (cR (cR (cL (cL (cR (cR (cL (cL (cR code112))))))))) (LvA.b (LvA.b (LvA.a (LvA.a (LvA.b (LvA.b (LvA.a (LvA.a (LvA.b (LA 112)))))))))) (K112_prllrr pc k m1) (K112_pxrllrrl pc k m1) (doneA P results112)) (Tr.set (Tr.set (Tr.set (Tr.set (Tr.set (Tr.set Tr.nil 27 (some (AV.d u27))) 11 (some (AV.d u11))) 10 (some (AV.d u10))) 2 (some (AV.d u2))) 1 (some (AV.d u1))) 0 (some (AV.d (D.yld u0)))) Tr.nil
noncomputable def T112_1 (m1:Nat):=fun(u0:Nat) (u1:D) (u2:D) (u10:D) (u11:D)=>labA (codeA P pc nodeY noR (codeFA P pc nodeY noR 112 m1) 112 (cL (cL (cR code112))) (LvA.a (LvA.a (LvA.b (LA 112)))) (K112_prl pc k m1) (K112_pxr pc k) (doneA P results112)) (Tr.set (Tr.set (Tr.set (Tr.set (Tr.set Tr.nil 11 (some (AV.d u11))) 10 (some (AV.d u10))) 2 (some (AV.d u2))) 1 (some (AV.d u1))) 0 (some (AV.d (D.yld u0)))) Tr.nil
noncomputable def R112_1 (m1:Nat):(Nat→D→D→D→D→Option D):=fun u0 u1 u2 u10 u11=>labA (codeFA P pc nodeY noR 112 m1 (LvA.a (LvA.b (LA 112))) (cL (cR code112)) (doneA P results112) (K112_pxr pc k) (doneA P results112)) (Tr.set (Tr.set (Tr.set (Tr.set (Tr.set Tr.nil 11 (some (AV.d u11))) 10 (some (AV.d u10))) 2 (some (AV.d u2))) 1 (some (AV.d u1))) 0 (some (AV.d (D.yld u0)))) Tr.nil
noncomputable def B112_2 (pc:PC) (k:Nat) (m1:Nat) (b1:(Nat→D→D→D→D→Option D)) (u0:Nat) (u1:D) (u2:D) (u10:D) (u11:D) (u27:D):Option D:=
ifU u27 (
some (D.tup [])) (
bindO (binD P BinOp.add 3 (Operand.tmp 11) (Operand.const (Value.int IntKind.i64 1)) u11 (D.v (Value.int IntKind.i64 1))) fun d_h=>
b1 u0 u1 u2 u10 d_h)
noncomputable def C112_2 (m1:Nat):=B112_2 pc k m1
theorem h112_2 (m1:Nat):T112_2 pc k m1=C112_2 pc k m1 (R112_1 pc k m1):=by kernel_rfl
noncomputable def B112_1 (pc:PC) (k:Nat) (m1:Nat) (j2:(Nat→D→D→D→D→D→Option D)) (b1:(Nat→D→D→D→D→Option D)) (u0:Nat) (u1:D) (u2:D) (u10:D) (u11:D):Option D:=
bindO (binD P BinOp.lss 3 (Operand.tmp 11) (Operand.tmp 10) u11 u10) fun d_6=>
ifU d_6 (
bindO (derefD u1) fun c_7=>
bindO (c_7[0]?) fun d_8=>
nilA (AV.d d_8) (
bindO (derefD d_8) fun c_9=>
bindO (idxD u11 8) fun i_a=>
bindO ((List.drop (i_a * 1) (List.drop 5 c_9))[0]?) fun d_b=>
bindO (derefD u2) fun c_c=>
bindO (c_c[0]?) fun d_d=>
bindO (pcD P pc 88 [d_b,d_d]) fun d_e=>
ifU d_e (
nodeYf u0 [u11] (
bindO (semD P (D.v (Value.bool true)) (Op.unary UnOp.not)) fun d_g=>
j2 u0 u1 u2 u10 u11 d_g) (
bindO (semD P (D.v (Value.bool false)) (Op.unary UnOp.not)) fun d_i=>
j2 u0 u1 u2 u10 u11 d_i)) (
j2 u0 u1 u2 u10 u11 (D.v (Value.bool false))))) (
some (D.tup []))
noncomputable def C112_1 (m1:Nat) (b1:(Nat→D→D→D→D→Option D)):=B112_1 pc k m1 (C112_2 pc k m1 b1) b1
noncomputable def S112_1:Nat→(Nat→D→D→D→D→Option D):=recF (C112_1 pc k) (fun _ _ _ _ _=>none)
theorem h112_1 (m1:Nat):T112_1 pc k m1=C112_1 pc k m1 (R112_1 pc k m1):=Eq.trans (b:=B112_1 pc k m1 (T112_2 pc k m1) (R112_1 pc k m1)) (by kernel_rfl) (by rw[h112_2]; rfl)
theorem q112_1 (m:Nat):T112_1 pc k m=S112_1 pc k m:=recS (h112_1 pc k) (by kernel_rfl) (fun m=>by kernel_rfl) m
noncomputable def B112_0 (pc:PC) (k:Nat) (j1:(Nat→D→D→D→D→Option D)) (v0:Nat) (v1:D) (v2:D):Option D:=
bindO (derefD v1) fun c_1=>
bindO (c_1[0]?) fun d_2=>
nilA (AV.d d_2) (
bindO (derefD d_2) fun c_3=>
bindO ((List.drop 4 c_3)[0]?) fun d_4=>
bindO (elsD d_4) fun l_5=>
j1 v0 v1 v2 (lenD l_5) (D.v (Value.int IntKind.i64 0)))
noncomputable def C112_0:=B112_0 pc k (S112_1 pc k k)
theorem h112_0 (v0:Nat) (v1:D) (v2:D):bodyY P pc nodeY noR LA (k+1) 112 [D.yld v0,v1,v2]=C112_0 pc k v0 v1 v2:=(bqY Go.Proofs.Tryz.f112 code112 results112 (by kernel_rfl)).trans (Eq.trans (b:=B112_0 pc k (T112_1 pc k k) v0 v1 v2) (by kernel_rfl) (by rw[q112_1]; rfl))
noncomputable def code115:Code:=codeOf 115
noncomputable def results115:List ResultVar:=resOf 115
noncomputable def B115_0 (pc:PC) (k:Nat) (v0:D):Option D:=
bindO (binD P BinOp.shr 180 (Operand.tmp 3) (Operand.const (Value.int IntKind.u64 1)) v0 (D.v (Value.int IntKind.u64 1))) fun d_1=>
bindO (binD P BinOp.and 180 (Operand.tmp 4) (Operand.const (Value.int IntKind.u64 6148914691236517205)) d_1 (D.v (Value.int IntKind.u64 6148914691236517205))) fun d_2=>
bindO (binD P BinOp.and 180 (Operand.tmp 6) (Operand.const (Value.int IntKind.u64 6148914691236517205)) v0 (D.v (Value.int IntKind.u64 6148914691236517205))) fun d_3=>
bindO (binD P BinOp.add 180 (Operand.tmp 5) (Operand.tmp 7) d_2 d_3) fun d_4=>
bindO (binD P BinOp.shr 180 (Operand.tmp 9) (Operand.const (Value.int IntKind.u64 2)) d_4 (D.v (Value.int IntKind.u64 2))) fun d_5=>
bindO (binD P BinOp.and 180 (Operand.tmp 10) (Operand.const (Value.int IntKind.u64 3689348814741910323)) d_5 (D.v (Value.int IntKind.u64 3689348814741910323))) fun d_6=>
bindO (binD P BinOp.and 180 (Operand.tmp 12) (Operand.const (Value.int IntKind.u64 3689348814741910323)) d_4 (D.v (Value.int IntKind.u64 3689348814741910323))) fun d_7=>
bindO (binD P BinOp.add 180 (Operand.tmp 11) (Operand.tmp 13) d_6 d_7) fun d_8=>
bindO (binD P BinOp.shr 180 (Operand.tmp 15) (Operand.const (Value.int IntKind.u64 4)) d_8 (D.v (Value.int IntKind.u64 4))) fun d_9=>
bindO (binD P BinOp.add 180 (Operand.tmp 16) (Operand.tmp 17) d_9 d_8) fun d_a=>
bindO (binD P BinOp.and 180 (Operand.tmp 18) (Operand.const (Value.int IntKind.u64 1085102592571150095)) d_a (D.v (Value.int IntKind.u64 1085102592571150095))) fun d_b=>
bindO (binD P BinOp.shr 180 (Operand.tmp 21) (Operand.const (Value.int IntKind.u64 8)) d_b (D.v (Value.int IntKind.u64 8))) fun d_c=>
bindO (binD P BinOp.add 180 (Operand.tmp 20) (Operand.tmp 22) d_b d_c) fun d_d=>
bindO (binD P BinOp.shr 180 (Operand.tmp 25) (Operand.const (Value.int IntKind.u64 16)) d_d (D.v (Value.int IntKind.u64 16))) fun d_e=>
bindO (binD P BinOp.add 180 (Operand.tmp 24) (Operand.tmp 26) d_d d_e) fun d_f=>
bindO (binD P BinOp.shr 180 (Operand.tmp 29) (Operand.const (Value.int IntKind.u64 32)) d_f (D.v (Value.int IntKind.u64 32))) fun d_g=>
bindO (binD P BinOp.add 180 (Operand.tmp 28) (Operand.tmp 30) d_f d_g) fun d_h=>
bindO (semD P d_h (convert 180 3)) fun d_i=>
bindO (binD P BinOp.and 3 (Operand.tmp 33) (Operand.const (Value.int IntKind.i64 127)) d_i (D.v (Value.int IntKind.i64 127))) fun d_j=>
some d_j
noncomputable def C115_0:=B115_0 pc k
noncomputable def code121:Code:=codeOf 121
noncomputable def results121:List ResultVar:=resOf 121
noncomputable def B121_0 (pc:PC) (k:Nat) (v0:D) (v1:D):Option D:=
bindO (aggD v0) fun c_1=>
bindO (binD P BinOp.geq 3 (Operand.tmp 5) (Operand.const (Value.int IntKind.i64 0)) v1 (D.v (Value.int IntKind.i64 0))) fun d_2=>
ifU d_2 (
bindO (c_1[0]?) fun d_3=>
bindO (elsD d_3) fun l_4=>
bindO (binD P BinOp.lss 3 (Operand.tmp 8) (Operand.tmp 11) v1 (lenD l_4)) fun d_5=>
some d_5) (
some (D.v (Value.bool false)))
noncomputable def C121_0:=B121_0 pc k
theorem h121_0 (v0:D) (v1:D):bodyY P pc noY rk LA (k+1) 121 [v0,v1]=C121_0 pc k v0 v1:=(bqA Go.Proofs.Tryz.f121 code121 results121 (by kernel_rfl)).trans (by kernel_rfl)
noncomputable def code122:Code:=codeOf 122
noncomputable def results122:List ResultVar:=resOf 122
noncomputable def B122_0 (pc:PC) (k:Nat) (v0:D):Option D:=
bindO (aggD v0) fun c_1=>
bindO (c_1[0]?) fun d_2=>
bindO (binD P BinOp.geq 3 (Operand.tmp 4) (Operand.const (Value.int IntKind.i64 0)) d_2 (D.v (Value.int IntKind.i64 0))) fun d_3=>
ifU d_3 (
bindO (c_1[0]?) fun d_4=>
bindO (c_1[1]?) fun d_5=>
bindO (binD P BinOp.leq 3 (Operand.tmp 8) (Operand.tmp 10) d_4 d_5) fun d_6=>
ifU d_6 (
bindO (c_1[1]?) fun d_7=>
bindO (binD P BinOp.leq 3 (Operand.tmp 15) (Operand.const (Value.int IntKind.i64 1000)) d_7 (D.v (Value.int IntKind.i64 1000))) fun d_8=>
some d_8) (
some (D.v (Value.bool false)))) (
some (D.v (Value.bool false)))
noncomputable def C122_0:=B122_0 pc k
theorem h122_0 (v0:D):bodyY P pc noY rk LA (k+1) 122 [v0]=C122_0 pc k v0:=(bqA Go.Proofs.Tryz.f122 code122 results122 (by kernel_rfl)).trans (by kernel_rfl)
end Go.Proofs.YtkmjgabdaikomaaGreat.L
end
end
