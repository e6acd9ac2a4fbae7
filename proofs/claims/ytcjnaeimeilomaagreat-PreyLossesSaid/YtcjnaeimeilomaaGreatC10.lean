import Derived.Test.YtcjnaeimeilomaaGreatRows
import Derived.Test.YtcjnaeimeilomaaGreatC9
set_option linter.unusedVariables false
section
open Go Go.Ev
set_option maxRecDepth 1000000
noncomputable section
namespace Go.Proofs.YtcjnaeimeilomaaGreat.L
noncomputable def P:Program:=Go.Proofs.Tryz.prog
noncomputable def aJ(f:FuncId):Code:=match P.funcs[f]? with
 | some fn=>match fn.body with
  | some c=>c
  | none=>.skip
 | none=>.skip
noncomputable def bk(f:FuncId):List ResultVar:=match P.funcs[f]? with
 | some fn=>fn.results.toList
 | none=>[]
noncomputable def cL:Code→Code
 | .seq a _=>a
 | .cond _ a _=>a
 | .block _ c=>c
 | .scope c=>c
 | .loop c=>c
 | .rangeFunc _ _ a _=>a
 | _=>.skip
noncomputable def cR:Code→Code
 | .seq _ b=>b
 | .cond _ _ b=>b
 | .rangeFunc _ _ _ b=>b
 | _=>.skip
noncomputable def X0A:Nat→KA:=fun _ _ _=>none
noncomputable def rX:Code→Operand
 | .rangeFunc x _ _ _=>x
 | _=>.tmp 0
noncomputable def rPs:Code→List Tmp
 | .rangeFunc _ ps _ _=>ps.toList
 | _=>[]
theorem body_eqA{pc:PC}{rk:RK}{L:FuncId→LvA}{k f:Nat}{fn:Func}{c:Code}{rs:List ResultVar}{ds:List D}(h1:P.funcs[f]?=some fn)(h2:fn.body=some c)
  (h3 : (fn.name == "runtime.NumGoroutine" || fn.ntmps < ds.length) = false) (h4 : fn.results.toList = rs) :
  cQ P pc noY rk L (k+1) f ds=bx P pc noY rk (aq P pc noY rk f k) f c (L f) (aw P rs) X0A (aw P rs) (YJ .nil 0 ds) .nil:=by
 subst h4
 unfold cQ
 simp only[h1,h2,h3]
 rfl
theorem body_eqY{pc:PC}{L:FuncId→LvA}{k f:Nat}{fn:Func}{c:Code}{rs:List ResultVar}{ds:List D}(h1:P.funcs[f]?=some fn)(h2:fn.body=some c)
  (h3 : (fn.name == "runtime.NumGoroutine" || fn.ntmps < ds.length) = false) (h4 : fn.results.toList = rs) :
  cQ P pc lK noR L (k+1) f ds=bx P pc lK noR (aq P pc lK noR f k) f c (L f) (aw P rs) X0A (aw P rs) (YJ .nil 0 ds) .nil:=by
 subst h4
 unfold cQ
 simp only[h1,h2,h3]
 rfl
noncomputable def lvTabA:Tr LvA:=Tr.set (Tr.set (Tr.set (Tr.set (Tr.set (Tr.set (Tr.set (Tr.set (Tr.set (Tr.set (Tr.set (Tr.set (Tr.set (Tr.set (Tr.set (Tr.set (Tr.set (Tr.set (Tr.set (Tr.set (Tr.set (Tr.set (Tr.set (Tr.set (Tr.set (Tr.set (Tr.set (Tr.set (Tr.set (Tr.set (Tr.set (Tr.set (Tr.set (Tr.set (Tr.set (Tr.set (.nil) 4 (some (.node none .leaf (.node none .leaf (.node (some { frz:=[1,2,3,9],own:=[],cel:=[],fzs:=[],tmps:=[1,2,3,4,9],sites:=[4] }) .leaf (.node none (.node (some { frz:=[1,2,3,9,37],own:=[],cel:=[],fzs:=[],tmps:=[1,2,3,4,9,37],sites:=[4] }) .leaf .leaf) (.node none .leaf (.node none .leaf (.node none (.node (some { frz:=[1,9,10,11,12,77],own:=[],cel:=[],fzs:=[],tmps:=[1,4,9,10,11,12,77],sites:=[4] }) .leaf .leaf) (.node (some { frz:=[1,9,10,11,12],own:=[],cel:=[],fzs:=[],tmps:=[1,4,9,10,11,12],sites:=[4] }) (.node (some { frz:=[1,9,10,11,12,85],own:=[],cel:=[],fzs:=[],tmps:=[1,4,9,10,11,12,85],sites:=[4] }) .leaf .leaf) .leaf)))))))))) 20 (some (.node none .leaf (.node none .leaf (.node none (.node none .leaf (.node none (.node (some { frz:=[0,4],own:=[(3,18,27,1)],cel:=[],fzs:=[],tmps:=[0,3,4],sites:=[18] }) .leaf .leaf) .leaf)) .leaf))))) 28 (some (.node none .leaf (.node none (.node none .leaf (.node none (.node (some { frz:=[1,5],own:=[],cel:=[],fzs:=[],tmps:=[1,2,5],sites:=[2] }) .leaf .leaf) .leaf)) .leaf)))) 29 (some (.node none .leaf (.node none .leaf (.node none .leaf (.node none (.node none .leaf (.node none (.node (some { frz:=[1,2,7],own:=[],cel:=[],fzs:=[],tmps:=[1,2,3,7],sites:=[3] }) (.node none .leaf (.node none (.node none (.node (some { frz:=[1,2,7,80],own:=[],cel:=[],fzs:=[],tmps:=[1,2,3,7,80],sites:=[3] }) .leaf .leaf) .leaf) .leaf)) .leaf) .leaf)) (.node none .leaf (.node none .leaf (.node none (.node none .leaf (.node none (.node (some { frz:=[1,2,8,9],own:=[],cel:=[],fzs:=[],tmps:=[1,2,3,8,9],sites:=[3] }) .leaf .leaf) .leaf)) .leaf))))))))) 30 (some (.node none .leaf (.node none .leaf (.node none (.node none .leaf (.node none (.node (some { frz:=[1,5,6],own:=[],cel:=[],fzs:=[],tmps:=[1,2,5,6],sites:=[2] }) .leaf .leaf) .leaf)) .leaf))))) 31 (some (.node none .leaf (.node none .leaf (.node (some { frz:=[1,2,7],own:=[],cel:=[],fzs:=[],tmps:=[1,2,3,7],sites:=[3] }) .leaf (.node none .leaf (.node none (.node none .leaf (.node none (.node (some { frz:=[1,2,7,8],own:=[],cel:=[],fzs:=[],tmps:=[1,2,3,7,8],sites:=[3] }) (.node none .leaf (.node (some { frz:=[1,2,7,8],own:=[],cel:=[],fzs:=[],tmps:=[1,2,3,7,8],sites:=[3] }) (.node none (.node none .leaf (.node (some { frz:=[1,2,7,8,64],own:=[],cel:=[],fzs:=[],tmps:=[1,2,3,7,8,64],sites:=[3] }) .leaf .leaf)) .leaf) .leaf)) .leaf) .leaf)) .leaf))))))) 39 (some (.node none .leaf (.node none (.node none .leaf (.node none (.node (some { frz:=[0,1,5],own:=[],cel:=[],fzs:=[],tmps:=[0,1,5],sites:=[] }) .leaf .leaf) .leaf)) .leaf)))) 52 (some (.node none .leaf (.node none (.node none .leaf (.node none (.node (some { frz:=[0,3],own:=[],cel:=[],fzs:=[],tmps:=[0,3],sites:=[] }) (.node none (.node (some { frz:=[0,3,11],own:=[],cel:=[],fzs:=[],tmps:=[0,3,11],sites:=[] }) .leaf .leaf) .leaf) .leaf) .leaf)) .leaf)))) 55 (some (.node none .leaf (.node none .leaf (.node none (.node (some { frz:=[30],own:=[],cel:=[],fzs:=[],tmps:=[30],sites:=[] }) .leaf .leaf) .leaf))))) 56 (some (.node none .leaf (.node none .leaf (.node none (.node none .leaf (.node none (.node (some { frz:=[4],own:=[],cel:=[(3,0,31,130,2)],fzs:=[],tmps:=[1,2,3,4],sites:=[1,2,3,31] }) .leaf .leaf) .leaf)) (.node none (.node none .leaf (.node none (.node (some { frz:=[5],own:=[],cel:=[(3,0,31,130,2),(3,1,56,131,2)],fzs:=[],tmps:=[1,2,3,5],sites:=[1,2,3,31,56] }) .leaf .leaf) .leaf)) (.node none (.node none .leaf (.node none (.node (some { frz:=[6],own:=[],cel:=[(3,0,31,130,2),(3,1,56,131,2),(3,2,82,128,5)],fzs:=[],tmps:=[1,2,3,6],sites:=[1,2,3,31,56,82] }) .leaf .leaf) .leaf)) .leaf))))))) 57 (some (.node none .leaf (.node none .leaf (.node none .leaf (.node none .leaf (.node none .leaf (.node none .leaf (.node none (.node none .leaf (.node none (.node (some { frz:=[7,34,35,36],own:=[(9,33,106,1)],cel:=[],fzs:=[],tmps:=[7,9,34,35,36],sites:=[33] }) .leaf .leaf) .leaf)) .leaf))))))))) 60 (some (.node none .leaf (.node none .leaf (.node none (.node (some { frz:=[25],own:=[],cel:=[],fzs:=[],tmps:=[1,25],sites:=[1] }) .leaf .leaf) (.node none (.node none .leaf (.node none (.node (some { frz:=[4],own:=[],cel:=[],fzs:=[],tmps:=[1,4],sites:=[1] }) .leaf .leaf) .leaf)) .leaf)))))) 61 (some (.node none .leaf (.node none .leaf (.node none (.node none .leaf (.node none (.node (some { frz:=[1,5],own:=[],cel:=[],fzs:=[],tmps:=[1,2,5],sites:=[2] }) .leaf .leaf) .leaf)) .leaf))))) 63 (some (.node none .leaf (.node none .leaf (.node none .leaf (.node none .leaf (.node (some { frz:=[],own:=[(6,36,3,1)],cel:=[],fzs:=[],tmps:=[6],sites:=[36] }) (.node none .leaf (.node none (.node (some { frz:=[0,7,20,21,22],own:=[(6,36,3,1)],cel:=[],fzs:=[],tmps:=[0,5,6,7,20,21,22],sites:=[5,36] }) .leaf .leaf) .leaf)) .leaf))))))) 64 (some (.node none .leaf (.node none .leaf (.node none (.node none .leaf (.node none (.node (some { frz:=[0,5,8,9,10],own:=[],cel:=[],fzs:=[],tmps:=[0,5,8,9,10],sites:=[] }) .leaf .leaf) .leaf)) .leaf))))) 65 (some (.node none .leaf (.node none .leaf (.node none .leaf (.node none (.node none .leaf (.node none (.node (some { frz:=[0,1,2,7,8,23,24,25],own:=[],cel:=[],fzs:=[],tmps:=[0,1,2,7,8,23,24,25],sites:=[] }) (.node none .leaf (.node none .leaf (.node none (.node none (.node none .leaf (.node none (.node (some { frz:=[0,1,2,9,10,23,24,25,42],own:=[],cel:=[],fzs:=[],tmps:=[0,1,2,9,10,23,24,25,42],sites:=[] }) .leaf .leaf) .leaf)) .leaf) .leaf))) .leaf) .leaf)) .leaf)))))) 66 (some (.node none .leaf (.node none .leaf (.node none .leaf (.node none (.node none .leaf (.node none (.node (some { frz:=[22,23],own:=[],cel:=[],fzs:=[],tmps:=[5,22,23],sites:=[16] }) .leaf .leaf) .leaf)) (.node none (.node none .leaf (.node none (.node (some { frz:=[40,41,42],own:=[],cel:=[],fzs:=[],tmps:=[5,40,41,42],sites:=[16] }) .leaf .leaf) .leaf)) .leaf))))))) 75 (some (.node none .leaf (.node none (.node none .leaf (.node none (.node (some { frz:=[1,2,7],own:=[],cel:=[],fzs:=[],tmps:=[1,2,3,7],sites:=[3] }) (.node none .leaf (.node none (.node none (.node none .leaf (.node (some { frz:=[1,2,7,42],own:=[],cel:=[],fzs:=[],tmps:=[1,2,3,7,42],sites:=[3] }) .leaf .leaf)) .leaf) .leaf)) .leaf) .leaf)) .leaf)))) 79 (some (.node none .leaf (.node none (.node none .leaf (.node none (.node (some { frz:=[1,7,8,9],own:=[],cel:=[],fzs:=[],tmps:=[1,7,8,9],sites:=[] }) .leaf .leaf) .leaf)) .leaf)))) 82 (some (.node none .leaf (.node none (.node none .leaf (.node none (.node (some { frz:=[1,7,8,9],own:=[],cel:=[],fzs:=[],tmps:=[1,7,8,9],sites:=[] }) .leaf .leaf) .leaf)) .leaf)))) 83 (some (.node none .leaf (.node none .leaf (.node none (.node none .leaf (.node none (.node (some { frz:=[3,6,7,8],own:=[],cel:=[],fzs:=[],tmps:=[3,6,7,8],sites:=[] }) .leaf .leaf) .leaf)) .leaf))))) 84 (some (.node none .leaf (.node none .leaf (.node none (.node none .leaf (.node none (.node (some { frz:=[0,5],own:=[(3,14,3,1)],cel:=[],fzs:=[],tmps:=[0,3,5],sites:=[14] }) (.node none .leaf (.node none .leaf (.node (some { frz:=[0,5],own:=[(3,14,3,1)],cel:=[],fzs:=[],tmps:=[0,3,5],sites:=[14] }) .leaf .leaf))) .leaf) .leaf)) .leaf))))) 85 (some (.node none .leaf (.node none .leaf (.node none (.node none .leaf (.node none (.node (some { frz:=[9],own:=[],cel:=[],fzs:=[],tmps:=[5,9],sites:=[5] }) (.node (some { frz:=[],own:=[],cel:=[],fzs:=[],tmps:=[],sites:=[5,1000001] }) .leaf .leaf) .leaf) .leaf)) .leaf))))) 87 (some (.node none .leaf (.node none (.node (some { frz:=[25],own:=[],cel:=[],fzs:=[],tmps:=[1,25],sites:=[1] }) .leaf .leaf) (.node none (.node (some { frz:=[35],own:=[],cel:=[],fzs:=[],tmps:=[1,35],sites:=[1] }) .leaf .leaf) (.node none (.node none .leaf (.node none (.node (some { frz:=[3],own:=[],cel:=[],fzs:=[],tmps:=[1,3],sites:=[1] }) .leaf .leaf) .leaf)) (.node none (.node none .leaf (.node none (.node (some { frz:=[4],own:=[],cel:=[],fzs:=[],tmps:=[1,4],sites:=[1] }) (.node none .leaf (.node none (.node none (.node none .leaf (.node (some { frz:=[4,92],own:=[],cel:=[],fzs:=[],tmps:=[1,4,92],sites:=[1] }) .leaf .leaf)) .leaf) .leaf)) .leaf) .leaf)) (.node none (.node none .leaf (.node none (.node (some { frz:=[6],own:=[],cel:=[],fzs:=[],tmps:=[1,6],sites:=[1] }) (.node none .leaf (.node none (.node none (.node none .leaf (.node none (.node (some { frz:=[6,129],own:=[],cel:=[],fzs:=[],tmps:=[1,6,7,129],sites:=[1,7] }) .leaf .leaf) (.node none .leaf (.node none (.node (some { frz:=[6,8],own:=[],cel:=[],fzs:=[],tmps:=[1,6,7,8],sites:=[1,7] }) (.node none .leaf (.node none (.node none (.node none .leaf (.node (some { frz:=[6,8,156],own:=[],cel:=[],fzs:=[],tmps:=[1,6,7,8,156],sites:=[1,7] }) .leaf .leaf)) .leaf) .leaf)) .leaf) .leaf)))) .leaf) .leaf)) .leaf) .leaf)) .leaf)))))))) 88 (some (.node none .leaf (.node none (.node none .leaf (.node none (.node (some { frz:=[1,5],own:=[],cel:=[],fzs:=[],tmps:=[1,2,5],sites:=[2] }) (.node none .leaf (.node none (.node none (.node (some { frz:=[1,5,38],own:=[],cel:=[],fzs:=[],tmps:=[1,2,5,38],sites:=[2] }) .leaf .leaf) .leaf) .leaf)) .leaf) .leaf)) .leaf)))) 89 (some (.node none .leaf (.node none .leaf (.node none (.node none .leaf (.node none (.node (some { frz:=[14],own:=[],cel:=[],fzs:=[],tmps:=[2,5,14],sites:=[2,5,12] }) (.node (some { frz:=[],own:=[],cel:=[],fzs:=[],tmps:=[],sites:=[2,5,12,1000001] }) .leaf .leaf) (.node none (.node none .leaf (.node none (.node (some { frz:=[21,22,23],own:=[],cel:=[],fzs:=[],tmps:=[2,5,6,7,21,22,23],sites:=[2,5,6,7,12,1000001] }) (.node none .leaf (.node none .leaf (.node none (.node none (.node none .leaf (.node none .leaf (.node none (.node none .leaf (.node none (.node (some { frz:=[8,9,21,22,23,32],own:=[],cel:=[],fzs:=[],tmps:=[2,5,6,7,8,9,10,21,22,23,32],sites:=[2,5,6,7,10,12,1000001] }) (.node (some { frz:=[],own:=[],cel:=[],fzs:=[],tmps:=[],sites:=[2,5,6,7,10,12,1000001,1000005] }) .leaf .leaf) .leaf) .leaf)) .leaf))) .leaf) .leaf))) .leaf) .leaf)) .leaf)) .leaf)) .leaf))))) 90 (some (.node none .leaf (.node (some { frz:=[0,1],own:=[],cel:=[],fzs:=[],tmps:=[0,1],sites:=[] }) .leaf (.node none .leaf (.node none (.node none .leaf (.node none (.node (some { frz:=[0,1,5,6],own:=[],cel:=[],fzs:=[],tmps:=[0,1,5,6],sites:=[] }) (.node none .leaf (.node (some { frz:=[0,1,5,6],own:=[],cel:=[],fzs:=[],tmps:=[0,1,5,6],sites:=[] }) .leaf .leaf)) .leaf) .leaf)) .leaf)))))) 100 (some (.node none .leaf (.node none (.node none .leaf (.node none (.node (some { frz:=[0,7,8,9],own:=[],cel:=[],fzs:=[],tmps:=[0,7,8,9],sites:=[] }) .leaf .leaf) .leaf)) .leaf)))) 102 (some (.node none .leaf (.node none (.node none (.node (some { frz:=[3],own:=[],cel:=[],fzs:=[],tmps:=[1,3],sites:=[1] }) .leaf (.node none .leaf (.node (some { frz:=[16],own:=[],cel:=[],fzs:=[],tmps:=[1,16],sites:=[1] }) .leaf (.node none .leaf (.node (some { frz:=[25],own:=[],cel:=[],fzs:=[],tmps:=[25],sites:=[] }) .leaf .leaf))))) .leaf) .leaf)))) 103 (some (.node none .leaf (.node none (.node none .leaf (.node none (.node (some { frz:=[0,3],own:=[],cel:=[],fzs:=[],tmps:=[0,3],sites:=[] }) .leaf .leaf) .leaf)) .leaf)))) 113 (some (.node none .leaf (.node none (.node none .leaf (.node none (.node (some { frz:=[1,7,8,9],own:=[],cel:=[],fzs:=[],tmps:=[1,7,8,9],sites:=[] }) .leaf .leaf) .leaf)) .leaf)))) 115 (some (.node none .leaf (.node none (.node none .leaf (.node none (.node (some { frz:=[1,7,8,9],own:=[],cel:=[],fzs:=[],tmps:=[1,7,8,9],sites:=[] }) .leaf .leaf) .leaf)) .leaf)))) 116 (some (.node none .leaf (.node none .leaf (.node none (.node none .leaf (.node none (.node (some { frz:=[5,9,10,11],own:=[],cel:=[],fzs:=[],tmps:=[2,3,5,9,10,11],sites:=[2,3] }) (.node none .leaf (.node none .leaf (.node (some { frz:=[5,9,10,11],own:=[],cel:=[],fzs:=[],tmps:=[2,3,5,9,10,11],sites:=[2,3] }) (.node none (.node none .leaf (.node (some { frz:=[5,9,10,11,26],own:=[],cel:=[],fzs:=[],tmps:=[2,3,5,9,10,11,26],sites:=[2,3] }) .leaf .leaf)) .leaf) .leaf))) .leaf) .leaf)) .leaf))))) 117 (some (.node none .leaf (.node none (.node none .leaf (.node none (.node (some { frz:=[1,7,8,9],own:=[],cel:=[],fzs:=[],tmps:=[1,7,8,9],sites:=[] }) .leaf .leaf) .leaf)) .leaf)))) 119 (some (.node none .leaf (.node none (.node (some { frz:=[1,2,10,11],own:=[],cel:=[],fzs:=[],tmps:=[0,1,2,10,11],sites:=[] }) (.node none .leaf (.node none .leaf (.node none (.node none (.node none .leaf (.node (some { frz:=[1,2,10,11,27],own:=[],cel:=[],fzs:=[],tmps:=[0,1,2,10,11,27],sites:=[] }) .leaf .leaf)) .leaf) .leaf))) .leaf) .leaf)))) 120 (some (.node none .leaf (.node none (.node (some { frz:=[1,3],own:=[],cel:=[],fzs:=[],tmps:=[0,1,3],sites:=[] }) .leaf .leaf) .leaf)))
noncomputable def LA(f:FuncId):LvA:=match lvTabA.get f with
 | some l=>l
 | none=>.leaf
noncomputable def recF{α:Type}(C:Nat→α→α)(z:α)(m:Nat):α:=Nat.rec (motive:=fun _=>α) (C 0 z) (fun m ih=>C (m+1) ih) m
theorem recS{α:Type}{T R:Nat→α}{z:α}{C:Nat→α→α}(h:∀ m,T m=C m (R m))(h0:R 0=z)(hs:∀ m,R (m+1)=T m):∀ m,T m=recF C z m
 | 0=>by rw[h,h0]; rfl
 | m+1=>by rw[h,hs,recS h h0 hs m]; rfl
theorem bqA{pc : PC}{rk : RK}{k f : Nat}{ds : List D}(fn : Func)(c : Code)(rs : List ResultVar)(h : (P.funcs[f]?, fn.body, (fn.name == "runtime.NumGoroutine" || fn.ntmps < ds.length), fn.results.toList) = (some fn, some c, false, rs)) :
  cQ P pc noY rk LA (k+1) f ds=bx P pc noY rk (aq P pc noY rk f k) f c (LA f) (aw P rs) X0A (aw P rs) (YJ .nil 0 ds) .nil:=by
 simp only[Prod.mk.injEq] at h
 exact body_eqA h.1 h.2.1 h.2.2.1 h.2.2.2
theorem bqY{pc : PC}{k f : Nat}{ds : List D}(fn : Func)(c : Code)(rs : List ResultVar)(h : (P.funcs[f]?, fn.body, (fn.name == "runtime.NumGoroutine" || fn.ntmps < ds.length), fn.results.toList) = (some fn, some c, false, rs)) :
  cQ P pc lK noR LA (k+1) f ds=bx P pc lK noR (aq P pc lK noR f k) f c (LA f) (aw P rs) X0A (aw P rs) (YJ .nil 0 ds) .nil:=by
 simp only[Prod.mk.injEq] at h
 exact body_eqY h.1 h.2.1 h.2.2.1 h.2.2.2
variable (pc:PC) (rk:RK) (k:Nat)
noncomputable def OK:Code:=aJ 4
noncomputable def kX:List ResultVar:=bk 4
noncomputable def K4_prrr:KA:=(bK (LvA.b (LvA.b (LvA.b (LA 4)))).c (bx P pc noY rk (aq P pc noY rk 4 k) 4 (cR (cR (cR (cR OK)))) (LvA.b (LvA.b (LvA.b (LvA.b (LA 4))))) (aw P kX) X0A (aw P kX)))
noncomputable def K4_prrrrrr:KA:=(bK (LvA.b (LvA.b (LvA.b (LvA.b (LvA.b (LvA.b (LA 4))))))).c (bx P pc noY rk (aq P pc noY rk 4 k) 4 (cR (cR (cR (cR (cR (cR (cR OK))))))) (LvA.b (LvA.b (LvA.b (LvA.b (LvA.b (LvA.b (LvA.b (LA 4)))))))) (aw P kX) X0A (aw P kX)))
noncomputable def K4_prrrrrrr:KA:=(bK (LvA.b (LvA.b (LvA.b (LvA.b (LvA.b (LvA.b (LvA.b (LA 4)))))))).c (bx P pc noY rk (aq P pc noY rk 4 k) 4 (cR (cR (cR (cR (cR (cR (cR (cR OK)))))))) (LvA.b (LvA.b (LvA.b (LvA.b (LvA.b (LvA.b (LvA.b (LvA.b (LA 4))))))))) (aw P kX) X0A (aw P kX)))
noncomputable def T4_5:=fun(u1:D) (u9:D) (u10:D) (u11:D) (u12:D) (c4:List D)=>labA (bx P pc noY rk (aq P pc noY rk 4 k) 4 (cR (cR (cR (cR (cR (cR (cR (cR OK)))))))) (LvA.b (LvA.b (LvA.b (LvA.b (LvA.b (LvA.b (LvA.b (LvA.b (LA 4))))))))) (aw P kX) X0A (aw P kX)) (Tr.set (Tr.set (Tr.set (Tr.set (Tr.set (Tr.set Tr.nil 12 (some (AV.d u12))) 11 (some (AV.d u11))) 10 (some (AV.d u10))) 9 (some (AV.d u9))) 4 (some (AV.loc 4 0))) 1 (some (AV.d u1))) (Tr.set Tr.nil 4 (some (Bx.dat c4 false)))
noncomputable def T4_4:=fun(u1:D) (u9:D) (u10:D) (u11:D) (u12:D) (u85:D) (c4:List D)=>labA (bx P pc noY rk (aq P pc noY rk 4 k) 4 (cR (cL (cR (cR (cR (cR (cR (cR (cR OK))))))))) (LvA.b (LvA.a (LvA.b (LvA.b (LvA.b (LvA.b (LvA.b (LvA.b (LvA.b (LA 4)))))))))) (K4_prrrrrrr pc rk k) X0A (aw P kX)) (Tr.set (Tr.set (Tr.set (Tr.set (Tr.set (Tr.set (Tr.set Tr.nil 85 (some (AV.d u85))) 12 (some (AV.d u12))) 11 (some (AV.d u11))) 10 (some (AV.d u10))) 9 (some (AV.d u9))) 4 (some (AV.loc 4 0))) 1 (some (AV.d u1))) (Tr.set Tr.nil 4 (some (Bx.dat c4 false)))
noncomputable def T4_3:=fun(u1:D) (u9:D) (u10:D) (u11:D) (u12:D) (u77:D) (c4:List D)=>labA (bx P pc noY rk (aq P pc noY rk 4 k) 4 (cR (cL (cR (cR (cR (cR (cR (cR OK)))))))) (LvA.b (LvA.a (LvA.b (LvA.b (LvA.b (LvA.b (LvA.b (LvA.b (LA 4))))))))) (K4_prrrrrr pc rk k) X0A (aw P kX)) (Tr.set (Tr.set (Tr.set (Tr.set (Tr.set (Tr.set (Tr.set Tr.nil 77 (some (AV.d u77))) 12 (some (AV.d u12))) 11 (some (AV.d u11))) 10 (some (AV.d u10))) 9 (some (AV.d u9))) 4 (some (AV.loc 4 0))) 1 (some (AV.d u1))) (Tr.set Tr.nil 4 (some (Bx.dat c4 false)))
noncomputable def T4_2:=fun(u1:D) (u2:D) (u3:D) (u9:D) (u37:D) (c4:List D)=>labA (bx P pc noY rk (aq P pc noY rk 4 k) 4 (cR (cL (cR (cR (cR OK))))) (LvA.b (LvA.a (LvA.b (LvA.b (LvA.b (LA 4)))))) (K4_prrr pc rk k) X0A (aw P kX)) (Tr.set (Tr.set (Tr.set (Tr.set (Tr.set (Tr.set Tr.nil 37 (some (AV.d u37))) 9 (some (AV.d u9))) 4 (some (AV.loc 4 0))) 3 (some (AV.d u3))) 2 (some (AV.d u2))) 1 (some (AV.d u1))) (Tr.set Tr.nil 4 (some (Bx.dat c4 false)))
noncomputable def T4_1:=fun(u1:D) (u2:D) (u3:D) (u9:D) (c4:List D)=>labA (bx P pc noY rk (aq P pc noY rk 4 k) 4 (cR (cR (cR OK))) (LvA.b (LvA.b (LvA.b (LA 4)))) (aw P kX) X0A (aw P kX)) (Tr.set (Tr.set (Tr.set (Tr.set (Tr.set Tr.nil 9 (some (AV.d u9))) 4 (some (AV.loc 4 0))) 3 (some (AV.d u3))) 2 (some (AV.d u2))) 1 (some (AV.d u1))) (Tr.set Tr.nil 4 (some (Bx.dat c4 false)))
noncomputable def B4_5(pc:PC)(k:Nat)(u1:D)(u9:D)(u10:D)(u11:D)(u12:D)(c4:List D):Option D:=
bindO (binD P BinOp.neq 33 (Operand.tmp 86) (Operand.const (Value.int IntKind.i64 0)) u9 (D.v (Value.int IntKind.i64 0))) fun d_z=>
ifU d_z (
bindO (binD P BinOp.eql 33 (Operand.tmp 88) (Operand.tmp 89) u12 u9) fun d_10=>
ifU d_10 (
bindO (binD P BinOp.eql 3 (Operand.tmp 92) (Operand.const (Value.int IntKind.i64 0)) u10 (D.v (Value.int IntKind.i64 0))) fun d_11=>
ifU d_11 (
bindO (elsD u11) fun l_12=>
bindO (binD P BinOp.eql 3 (Operand.tmp 97) (Operand.const (Value.int IntKind.i64 0)) (lenD l_12) (D.v (Value.int IntKind.i64 0))) fun d_13=>
ifU d_13 (
bindO (pcD P pc 16 []) fun d_14=>
some d_14) (
some (D.v (Value.bool false)))) (
some (D.v (Value.bool false)))) (
some (D.v (Value.bool false)))) (
bindO (binD P BinOp.eql 33 (Operand.tmp 103) (Operand.const (Value.int IntKind.i64 0)) u12 (D.v (Value.int IntKind.i64 0))) fun d_15=>
ifU d_15 (
bindO (cutD c4 0 5) fun c_16=>
bindO (pcD P pc 31 [(D.agg c_16),u1,(D.v (Value.slice none 0 0))]) fun d_17=>
bindO (binD P BinOp.eql 3 (Operand.tmp 106) (Operand.tmp 109) u10 d_17) fun d_18=>
ifU d_18 (
bindO (cutD c4 0 5) fun c_19=>
bindO (pcD P pc 28 [(D.agg c_19),u11]) fun d_1a=>
ifU d_1a (
bindO (cutD c4 0 5) fun c_1b=>
bindO (pcD P pc 29 [(D.agg c_1b),u1,u11]) fun d_1c=>
ifU d_1c (
bindO (cutD c4 0 5) fun c_1d=>
bindO (pcD P pc 30 [(D.agg c_1d),u11]) fun d_1e=>
bindO (binD P BinOp.eql 3 (Operand.tmp 126) (Operand.tmp 127) d_1e u10) fun d_1f=>
ifU d_1f (
bindO (pcD P pc 16 []) fun d_1g=>
some d_1g) (
some (D.v (Value.bool false)))) (
some (D.v (Value.bool false)))) (
some (D.v (Value.bool false)))) (
some (D.v (Value.bool false)))) (
some (D.v (Value.bool false))))
noncomputable def C4_5:=B4_5 pc k
theorem h4_5:T4_5 pc rk k=C4_5 pc k:=by kernel_rfl
noncomputable def B4_4(pc:PC)(k:Nat)(j5:(D→D→D→D→D→List D→Option D))(u1:D)(u9:D)(u10:D)(u11:D)(u12:D)(u85:D)(c4:List D):Option D:=
ifU u85 (
j5 u1 (D.v (Value.int IntKind.i64 7)) u10 u11 u12 c4) (
j5 u1 u9 u10 u11 u12 c4)
noncomputable def C4_4:=B4_4 pc k (C4_5 pc k)
theorem h4_4:T4_4 pc rk k=C4_4 pc k:=Eq.trans (b:=B4_4 pc k (T4_5 pc rk k)) (by kernel_rfl) (by rw[h4_5]; rfl)
noncomputable def B4_3(pc:PC)(k:Nat)(j4:(D→D→D→D→D→D→List D→Option D))(u1:D)(u9:D)(u10:D)(u11:D)(u12:D)(u77:D)(c4:List D):Option D:=
ifU u77 (
some (D.v (Value.bool false))) (
bindO (binD P BinOp.eql 33 (Operand.tmp 78) (Operand.const (Value.int IntKind.i64 0)) u9 (D.v (Value.int IntKind.i64 0))) fun d_v=>
ifU d_v (
bindO (c4[3]?) fun d_w=>
bindO (elsD d_w) fun l_x=>
bindO (binD P BinOp.eql 3 (Operand.tmp 83) (Operand.const (Value.int IntKind.i64 0)) (lenD l_x) (D.v (Value.int IntKind.i64 0))) fun d_y=>
j4 u1 u9 u10 u11 u12 d_y c4) (
j4 u1 u9 u10 u11 u12 (D.v (Value.bool false)) c4))
noncomputable def C4_3:=B4_3 pc k (C4_4 pc k)
theorem h4_3:T4_3 pc rk k=C4_3 pc k:=Eq.trans (b:=B4_3 pc k (T4_4 pc rk k)) (by kernel_rfl) (by rw[h4_4]; rfl)
noncomputable def B4_2(pc:PC)(k:Nat)(j3:(D→D→D→D→D→D→List D→Option D))(u1:D)(u2:D)(u3:D)(u9:D)(u37:D)(c4:List D):Option D:=
ifU u37 (
bindO (pcD P pc 16 []) fun d_9=>
some d_9) (
bindO (cutD c4 0 5) fun c_a=>
bindO (pcD P pc 18 [(D.agg c_a)]) fun d_b=>
bindO (pcD P pc 20 [u1]) fun d_c=>
bindO (pcD P pc 25 [d_b,d_c]) fun d_d=>
bindO (tupD d_d 0) fun d_e=>
bindO (tupD d_d 1) fun d_f=>
bindO (tupD d_d 2) fun d_g=>
bindO (cutD c4 0 5) fun c_h=>
bindO (pcD P pc 18 [(D.agg c_h)]) fun d_i=>
bindO (pcD P pc 20 [u1]) fun d_j=>
bindO (pcD P pc 27 [u2]) fun d_k=>
bindO (pcD P pc 26 [d_i,d_j,d_k,u3]) fun d_l=>
bindO (binD P BinOp.eql 33 (Operand.tmp 57) (Operand.const (Value.int IntKind.i64 0)) u9 (D.v (Value.int IntKind.i64 0))) fun d_m=>
ifU d_m (
bindO (cutD c4 0 5) fun c_n=>
bindO (pcD P pc 28 [(D.agg c_n),u2]) fun d_o=>
ifU d_o (
bindO (cutD c4 0 5) fun c_p=>
bindO (pcD P pc 29 [(D.agg c_p),u1,u2]) fun d_q=>
ifU d_q (
bindO (cutD c4 0 5) fun c_r=>
bindO (pcD P pc 30 [(D.agg c_r),u2]) fun d_s=>
bindO (binD P BinOp.geq 3 (Operand.tmp 73) (Operand.tmp 74) d_s u3) fun d_t=>
bindO (binD P BinOp.neq 4 (Operand.tmp 56) (Operand.tmp 76) d_l d_t) fun d_u=>
j3 u1 u9 d_e d_f d_g d_u c4) (
bindO (binD P BinOp.neq 4 (Operand.tmp 56) (Operand.tmp 76) d_l (D.v (Value.bool false))) fun d_1h=>
j3 u1 u9 d_e d_f d_g d_1h c4)) (
bindO (binD P BinOp.neq 4 (Operand.tmp 56) (Operand.tmp 76) d_l (D.v (Value.bool false))) fun d_1i=>
j3 u1 u9 d_e d_f d_g d_1i c4)) (
bindO (binD P BinOp.neq 4 (Operand.tmp 56) (Operand.tmp 76) d_l (D.v (Value.bool false))) fun d_1j=>
j3 u1 u9 d_e d_f d_g d_1j c4))
noncomputable def C4_2:=B4_2 pc k (C4_3 pc k)
theorem h4_2:T4_2 pc rk k=C4_2 pc k:=Eq.trans (b:=B4_2 pc k (T4_3 pc rk k)) (by kernel_rfl) (by rw[h4_3]; rfl)
noncomputable def B4_1(pc:PC)(k:Nat)(j2:(D→D→D→D→D→List D→Option D))(u1:D)(u2:D)(u3:D)(u9:D)(c4:List D):Option D:=
bindO (cutD c4 0 5) fun c_6=>
bindO (pcD P pc 15 [(D.agg c_6),u1]) fun d_7=>
bindO (semD P d_7 (Op.unary UnOp.not)) fun d_8=>
ifU d_8 (
j2 u1 u2 u3 u9 (D.v (Value.bool true)) c4) (
bindO (elsD u2) fun l_1k=>
bindO (binD P BinOp.gtr 3 (Operand.tmp 26) (Operand.const (Value.int IntKind.i64 310)) (lenD l_1k) (D.v (Value.int IntKind.i64 310))) fun d_1l=>
ifU d_1l (
j2 u1 u2 u3 u9 (D.v (Value.bool true)) c4) (
bindO (binD P BinOp.eql 33 (Operand.tmp 30) (Operand.const (Value.int IntKind.i64 0)) u9 (D.v (Value.int IntKind.i64 0))) fun d_1m=>
ifU d_1m (
bindO (elsD u1) fun l_1n=>
bindO (binD P BinOp.gtr 3 (Operand.tmp 34) (Operand.const (Value.int IntKind.i64 4)) (lenD l_1n) (D.v (Value.int IntKind.i64 4))) fun d_1o=>
j2 u1 u2 u3 u9 d_1o c4) (
j2 u1 u2 u3 u9 (D.v (Value.bool false)) c4)))
noncomputable def C4_1:=B4_1 pc k (C4_2 pc k)
theorem h4_1:T4_1 pc rk k=C4_1 pc k:=Eq.trans (b:=B4_1 pc k (T4_2 pc rk k)) (by kernel_rfl) (by rw[h4_2]; rfl)
noncomputable def B4_0(pc:PC)(k:Nat)(j1:(D→D→D→D→List D→Option D))(v0:D)(v1:D)(v2:D)(v3:D):Option D:=
bindO (aggD v0) fun c_1=>
bindO (cutD c_1 0 5) fun c_2=>
bindO (pcD P pc 15 [(D.agg c_2),v1]) fun d_3=>
ifU d_3 (
bindO (cutD c_1 0 5) fun c_4=>
bindO (pcD P pc 22 [(D.agg c_4),v1]) fun d_5=>
j1 v1 v2 v3 d_5 c_1) (
j1 v1 v2 v3 (D.v (Value.int IntKind.i64 1)) c_1)
noncomputable def C4_0:=B4_0 pc k (C4_1 pc k)
theorem h4_0(v0:D)(v1:D)(v2:D)(v3:D):cQ P pc noY rk LA (k+1) 4 [v0,v1,v2,v3]=C4_0 pc k v0 v1 v2 v3:=(bqA Go.Proofs.Tryz.f4 OK kX (by kernel_rfl)).trans (Eq.trans (b:=B4_0 pc k (T4_1 pc rk k) v0 v1 v2 v3) (by kernel_rfl) (by rw[h4_1]; rfl))
noncomputable def code15:Code:=aJ 15
noncomputable def results15:List ResultVar:=bk 15
noncomputable def B15_0(pc:PC)(k:Nat)(v0:D)(v1:D):Option D:=
bindO (aggD v0) fun c_1=>
bindO (cutD c_1 0 3) fun c_2=>
bindO (c_1[3]?) fun d_3=>
bindO (pcD P pc 51 [(D.agg c_2),d_3]) fun d_4=>
ifU d_4 (
bindO (c_1[4]?) fun d_5=>
bindO (elsD d_5) fun l_6=>
bindO (binD P BinOp.leq 3 (Operand.tmp 13) (Operand.const (Value.int IntKind.i64 11)) (lenD l_6) (D.v (Value.int IntKind.i64 11))) fun d_7=>
ifU d_7 (
bindO (pcD P pc 52 [v1]) fun d_8=>
some d_8) (
some (D.v (Value.bool false)))) (
some (D.v (Value.bool false)))
noncomputable def C15_0:=B15_0 pc k
theorem h15_0(v0:D)(v1:D):cQ P pc noY rk LA (k+1) 15 [v0,v1]=C15_0 pc k v0 v1:=(bqA Go.Proofs.Tryz.f15 code15 results15 (by kernel_rfl)).trans (by kernel_rfl)
noncomputable def code18:Code:=aJ 18
noncomputable def results18:List ResultVar:=bk 18
noncomputable def B18_0(pc:PC)(k:Nat)(v0:D):Option D:=
bindO (aggD v0) fun c_1=>
bindO (cutD c_1 0 3) fun c_2=>
bindO (c_1[3]?) fun d_3=>
bindO (c_1[4]?) fun d_4=>
bindO (pcD P pc 56 [(D.agg c_2)]) fun d_5=>
bindO (pcD P pc 27 [d_3]) fun d_6=>
bindO (pcD P pc 27 [d_4]) fun d_7=>
bindO (Kj [(D.v (Value.slice none 0 0)),(D.v (Value.slice none 0 0)),(D.v (Value.slice none 0 0)),(D.v (Value.slice none 0 0)),(D.v (Value.slice none 0 0))] [(0,3,d_5),(3,1,d_6),(4,1,d_7)]) fun c_8=>
bindO (splD [(D.v (Value.slice none 0 0)),(D.v (Value.slice none 0 0)),(D.v (Value.slice none 0 0)),(D.v (Value.slice none 0 0)),(D.v (Value.slice none 0 0))] 0 c_8 5) fun c_9=>
bindO (cutD c_9 0 5) fun c_a=>
some (D.agg c_a)
noncomputable def C18_0:=B18_0 pc k
theorem h18_0(v0:D):cQ P pc noY rk LA (k+1) 18 [v0]=C18_0 pc k v0:=(bqA Go.Proofs.Tryz.f18 code18 results18 (by kernel_rfl)).trans (by kernel_rfl)
noncomputable def code20:Code:=aJ 20
noncomputable def wv:List ResultVar:=bk 20
noncomputable def K20_prr:KA:=(bK (LvA.b (LvA.b (LA 20))).c (bx P pc noY rk (aq P pc noY rk 20 k) 20 (cR (cR (cR code20))) (LvA.b (LvA.b (LvA.b (LA 20)))) (aw P wv) X0A (aw P wv)))
noncomputable def Kk:(Nat→KA):=(upA 0 (K20_prr pc rk k) X0A)
noncomputable def K20_prrlrl(m1:Nat):KA:=(bK (LvA.a (LvA.b (LvA.a (LvA.b (LvA.b (LA 20)))))).c (aq P pc noY rk 20 m1 (LvA.a (LvA.b (LvA.a (LvA.b (LvA.b (LA 20)))))) (cL (cR (cL (cR (cR code20))))) (K20_prr pc rk k) (Kk pc rk k) (aw P wv)))
noncomputable def T20_1(m1:Nat):=fun(u0:D) (u4:D) (l18:List D)=>labA (bx P pc noY rk (aq P pc noY rk 20 m1) 20 (cL (cL (cR (cL (cR (cR code20)))))) (LvA.a (LvA.a (LvA.b (LvA.a (LvA.b (LvA.b (LA 20))))))) (K20_prrlrl pc rk k m1) (Kk pc rk k) (aw P wv)) (Tr.set (Tr.set (Tr.set Tr.nil 4 (some (AV.d u4))) 3 (some (AV.osl 18))) 0 (some (AV.d u0))) (Tr.set Tr.nil 18 (some (Bx.vec l18 27 1 false)))
noncomputable def R20_1(m1:Nat):(D→D→List D→Option D):=fun u0 u4 l18=>labA (aq P pc noY rk 20 m1 (LvA.a (LvA.b (LvA.a (LvA.b (LvA.b (LA 20)))))) (cL (cR (cL (cR (cR code20))))) (K20_prr pc rk k) (Kk pc rk k) (aw P wv)) (Tr.set (Tr.set (Tr.set Tr.nil 4 (some (AV.d u4))) 3 (some (AV.osl 18))) 0 (some (AV.d u0))) (Tr.set Tr.nil 18 (some (Bx.vec l18 27 1 false)))
noncomputable def B20_1(pc:PC)(k:Nat)(m1:Nat)(b1:(D→D→List D→Option D))(u0:D)(u4:D)(l18:List D):Option D:=
bindO (elsD u0) fun l_1=>
bindO (binD P BinOp.lss 3 (Operand.tmp 5) (Operand.tmp 7) u4 (lenD l_1)) fun d_2=>
ifU d_2 (
bindO (elsD u0) fun l_3=>
bindO (idxD u4 l_3.length) fun i_4=>
bindO (l_3[i_4]?) fun d_5=>
chkK (bz d_5) (
bindO (pcD P pc 27 [d_5]) fun d_6=>
chkK (bz d_6) (
bindO (appD l18 [d_6]) fun l_7=>
bindO (binD P BinOp.add 3 (Operand.tmp 9) (Operand.const (Value.int IntKind.i64 1)) u4 (D.v (Value.int IntKind.i64 1))) fun d_8=>
b1 u0 d_8 l_7))) (
some (D.sl l18))
noncomputable def C20_1(m1:Nat):=B20_1 pc k m1
noncomputable def S20_1:Nat→(D→D→List D→Option D):=recF (C20_1 pc k) (fun _ _ _=>none)
theorem h20_1(m1:Nat):T20_1 pc rk k m1=C20_1 pc k m1 (R20_1 pc rk k m1):=by kernel_rfl
theorem q20_1(m:Nat):T20_1 pc rk k m=S20_1 pc k m:=recS (h20_1 pc rk k) (by kernel_rfl) (fun m=>by kernel_rfl) m
noncomputable def B20_0(pc:PC)(k:Nat)(j1:(D→D→List D→Option D))(v0:D):Option D:=
j1 v0 (D.v (Value.int IntKind.i64 0)) []
noncomputable def C20_0:=B20_0 pc k (S20_1 pc k k)
theorem h20_0(v0:D):cQ P pc noY rk LA (k+1) 20 [v0]=C20_0 pc k v0:=(bqA Go.Proofs.Tryz.f20 code20 wv (by kernel_rfl)).trans (Eq.trans (b:=B20_0 pc k (T20_1 pc rk k k) v0) (by kernel_rfl) (by rw[q20_1]; rfl))
noncomputable def code21:Code:=aJ 21
noncomputable def results21:List ResultVar:=bk 21
noncomputable def B21_0(pc:PC)(k:Nat)(v0:D):Option D:=
bindO (aggD v0) fun c_1=>
bindO (cutD c_1 0 5) fun c_2=>
bindO (pcD P pc 60 [(D.agg c_2)]) fun d_3=>
some d_3
noncomputable def C21_0:=B21_0 pc k
theorem h21_0(v0:D):cQ P pc noY rk LA (k+1) 21 [v0]=C21_0 pc k v0:=(bqA Go.Proofs.Tryz.f21 code21 results21 (by kernel_rfl)).trans (by kernel_rfl)
noncomputable def code22:Code:=aJ 22
noncomputable def results22:List ResultVar:=bk 22
noncomputable def B22_0(pc:PC)(k:Nat)(v0:D)(v1:D):Option D:=
bindO (aggD v0) fun c_1=>
bindO (cutD c_1 0 5) fun c_2=>
bindO (pcD P pc 21 [(D.agg c_2)]) fun d_3=>
bindO (binD P BinOp.neq 33 (Operand.tmp 8) (Operand.const (Value.int IntKind.i64 0)) d_3 (D.v (Value.int IntKind.i64 0))) fun d_4=>
ifU d_4 (
some d_3) (
bindO (cutD c_1 0 5) fun c_5=>
bindO (pcD P pc 61 [(D.agg c_5),v1]) fun d_6=>
some d_6)
noncomputable def C22_0:=B22_0 pc k
theorem h22_0(v0:D)(v1:D):cQ P pc noY rk LA (k+1) 22 [v0,v1]=C22_0 pc k v0 v1:=(bqA Go.Proofs.Tryz.f22 code22 results22 (by kernel_rfl)).trans (by kernel_rfl)
noncomputable def code25:Code:=aJ 25
noncomputable def Rj:List ResultVar:=bk 25
noncomputable def B25_0(pc:PC)(k:Nat)(v0:D)(v1:D):Option D:=
bindO (aggD v0) fun c_1=>
bindO (cutD c_1 0 5) fun c_2=>
bindO (pcD P pc 57 [(D.agg c_2),v1]) fun d_3=>
bindO (tupD d_3 0) fun d_4=>
bindO (tupD d_3 1) fun d_5=>
bindO (tupD d_3 2) fun d_6=>
bindO (binD P BinOp.neq 33 (Operand.tmp 16) (Operand.const (Value.int IntKind.i64 0)) d_6 (D.v (Value.int IntKind.i64 0))) fun d_7=>
ifU d_7 (
some (D.tup [(D.v (Value.int IntKind.i64 0)),(D.v (Value.slice none 0 0)),d_6])) (
nilA (AV.d d_4) (
bindO (kz d_4) fun c_8=>
bindO ((List.drop 3 c_8)[0]?) fun d_9=>
bindO (elsD d_9) fun l_a=>
bindO (binD P BinOp.eql 3 (Operand.tmp 24) (Operand.const (Value.int IntKind.i64 0)) (lenD l_a) (D.v (Value.int IntKind.i64 0))) fun d_b=>
ifU d_b (
some (D.tup [(D.v (Value.int IntKind.i64 0)),(D.v (Value.slice none 0 0)),(D.v (Value.int IntKind.i64 7))])) (
bindO (pcD P pc 63 [d_4,d_5]) fun d_c=>
bindO (pcD P pc 64 [d_4,d_c]) fun d_d=>
some (D.tup [d_d,d_c,(D.v (Value.int IntKind.i64 0))]))))
noncomputable def C25_0:=B25_0 pc k
theorem h25_0(v0:D)(v1:D):cQ P pc noY rk LA (k+1) 25 [v0,v1]=C25_0 pc k v0 v1:=(bqA Go.Proofs.Tryz.f25 code25 Rj (by kernel_rfl)).trans (by kernel_rfl)
noncomputable def code26:Code:=aJ 26
noncomputable def results26:List ResultVar:=bk 26
noncomputable def B26_0(pc:PC)(k:Nat)(v0:D)(v1:D)(v2:D)(v3:D):Option D:=
bindO (aggD v0) fun c_1=>
bindO (cutD c_1 0 5) fun c_2=>
bindO (pcD P pc 57 [(D.agg c_2),v1]) fun d_3=>
bindO (tupD d_3 0) fun d_4=>
bindO (tupD d_3 1) fun d_5=>
bindO (tupD d_3 2) fun d_6=>
bindO (binD P BinOp.eql 33 (Operand.tmp 19) (Operand.const (Value.int IntKind.i64 0)) d_6 (D.v (Value.int IntKind.i64 0))) fun d_7=>
ifU d_7 (
bindO (pcD P pc 65 [d_4,d_5,v2]) fun d_8=>
ifU d_8 (
bindO (pcD P pc 64 [d_4,v2]) fun d_9=>
bindO (binD P BinOp.geq 3 (Operand.tmp 30) (Operand.tmp 31) d_9 v3) fun d_a=>
some d_a) (
some (D.v (Value.bool false)))) (
some (D.v (Value.bool false)))
noncomputable def C26_0:=B26_0 pc k
theorem h26_0(v0:D)(v1:D)(v2:D)(v3:D):cQ P pc noY rk LA (k+1) 26 [v0,v1,v2,v3]=C26_0 pc k v0 v1 v2 v3:=(bqA Go.Proofs.Tryz.f26 code26 results26 (by kernel_rfl)).trans (by kernel_rfl)
noncomputable def code27:Code:=aJ 27
noncomputable def results27:List ResultVar:=bk 27
noncomputable def B27_0(pc:PC)(k:Nat)(v0:D):Option D:=
bindO (elsD v0) fun l_1=>
chkK (l_1.all (szOk 1)) (
bindO (appD [] l_1) fun l_2=>
some (D.sl l_2))
noncomputable def C27_0:=B27_0 pc k
theorem h27_0(v0:D):cQ P pc noY rk LA (k+1) 27 [v0]=C27_0 pc k v0:=(bqA Go.Proofs.Tryz.f27 code27 results27 (by kernel_rfl)).trans (by kernel_rfl)
noncomputable def code28:Code:=aJ 28
noncomputable def wx:List ResultVar:=bk 28
noncomputable def K28_pr:KA:=(bK (LvA.b (LA 28)).c (bx P pc noY rk (aq P pc noY rk 28 k) 28 (cR (cR code28)) (LvA.b (LvA.b (LA 28))) (aw P wx) X0A (aw P wx)))
noncomputable def Rq:(Nat→KA):=(upA 0 (K28_pr pc rk k) X0A)
noncomputable def K28_prlrl(m1:Nat):KA:=(bK (LvA.a (LvA.b (LvA.a (LvA.b (LA 28))))).c (aq P pc noY rk 28 m1 (LvA.a (LvA.b (LvA.a (LvA.b (LA 28))))) (cL (cR (cL (cR code28)))) (K28_pr pc rk k) (Rq pc rk k) (aw P wx)))
noncomputable def T28_1(m1:Nat):=fun(u1:D) (u5:D) (c2:List D)=>labA (bx P pc noY rk (aq P pc noY rk 28 m1) 28 (cL (cL (cR (cL (cR code28))))) (LvA.a (LvA.a (LvA.b (LvA.a (LvA.b (LA 28)))))) (K28_prlrl pc rk k m1) (Rq pc rk k) (aw P wx)) (Tr.set (Tr.set (Tr.set Tr.nil 5 (some (AV.d u5))) 2 (some (AV.loc 2 0))) 1 (some (AV.d u1))) (Tr.set Tr.nil 2 (some (Bx.dat c2 false)))
noncomputable def R28_1(m1:Nat):(D→D→List D→Option D):=fun u1 u5 c2=>labA (aq P pc noY rk 28 m1 (LvA.a (LvA.b (LvA.a (LvA.b (LA 28))))) (cL (cR (cL (cR code28)))) (K28_pr pc rk k) (Rq pc rk k) (aw P wx)) (Tr.set (Tr.set (Tr.set Tr.nil 5 (some (AV.d u5))) 2 (some (AV.loc 2 0))) 1 (some (AV.d u1))) (Tr.set Tr.nil 2 (some (Bx.dat c2 false)))
noncomputable def B28_1(pc:PC)(k:Nat)(m1:Nat)(b1:(D→D→List D→Option D))(u1:D)(u5:D)(c2:List D):Option D:=
bindO (elsD u1) fun l_2=>
bindO (binD P BinOp.lss 3 (Operand.tmp 6) (Operand.tmp 8) u5 (lenD l_2)) fun d_3=>
ifU d_3 (
bindO (elsD u1) fun l_4=>
bindO (idxD u5 l_4.length) fun i_5=>
bindO (l_4[i_5]?) fun d_6=>
chkK (bz d_6) (
bindO (c2[0]?) fun d_7=>
bindO (elsD d_7) fun l_8=>
bindO (binD P BinOp.sub 3 (Operand.tmp 19) (Operand.const (Value.int IntKind.i64 1)) (lenD l_8) (D.v (Value.int IntKind.i64 1))) fun d_9=>
bindO (pcD P pc 35 [d_6,(D.v (Value.int IntKind.i64 0)),d_9]) fun d_a=>
bindO (semD P d_a (Op.unary UnOp.not)) fun d_b=>
ifU d_b (
some (D.v (Value.bool false))) (
bindO (binD P BinOp.add 3 (Operand.tmp 10) (Operand.const (Value.int IntKind.i64 1)) u5 (D.v (Value.int IntKind.i64 1))) fun d_c=>
b1 u1 d_c c2))) (
some (D.v (Value.bool true)))
noncomputable def C28_1(m1:Nat):=B28_1 pc k m1
noncomputable def S28_1:Nat→(D→D→List D→Option D):=recF (C28_1 pc k) (fun _ _ _=>none)
theorem h28_1(m1:Nat):T28_1 pc rk k m1=C28_1 pc k m1 (R28_1 pc rk k m1):=by kernel_rfl
theorem q28_1(m:Nat):T28_1 pc rk k m=S28_1 pc k m:=recS (h28_1 pc rk k) (by kernel_rfl) (fun m=>by kernel_rfl) m
noncomputable def B28_0(pc:PC)(k:Nat)(j1:(D→D→List D→Option D))(v0:D)(v1:D):Option D:=
bindO (aggD v0) fun c_1=>
j1 v1 (D.v (Value.int IntKind.i64 0)) c_1
noncomputable def C28_0:=B28_0 pc k (S28_1 pc k k)
theorem h28_0(v0:D)(v1:D):cQ P pc noY rk LA (k+1) 28 [v0,v1]=C28_0 pc k v0 v1:=(bqA Go.Proofs.Tryz.f28 code28 wx (by kernel_rfl)).trans (Eq.trans (b:=B28_0 pc k (T28_1 pc rk k k) v0 v1) (by kernel_rfl) (by rw[q28_1]; rfl))
noncomputable def xJ:Code:=aJ 29
noncomputable def jq:List ResultVar:=bk 29
noncomputable def qbk:KA:=(bK (LvA.b (LvA.b (LvA.b (LA 29)))).c (bx P pc noY rk (aq P pc noY rk 29 k) 29 (cR (cR (cR (cR xJ)))) (LvA.b (LvA.b (LvA.b (LvA.b (LA 29))))) (aw P jq) X0A (aw P jq)))
noncomputable def uz:(Nat→KA):=(upA 0 (qbk pc rk k) X0A)
noncomputable def K29_prrrlrl(m1:Nat):KA:=(bK (LvA.a (LvA.b (LvA.a (LvA.b (LvA.b (LvA.b (LA 29))))))).c (aq P pc noY rk 29 m1 (LvA.a (LvA.b (LvA.a (LvA.b (LvA.b (LvA.b (LA 29))))))) (cL (cR (cL (cR (cR (cR xJ)))))) (qbk pc rk k) (uz pc rk k) (aw P jq)))
noncomputable def K29_prrrlrllr(m1:Nat):KA:=(bK (LvA.b (LvA.a (LvA.a (LvA.b (LvA.a (LvA.b (LvA.b (LvA.b (LA 29))))))))).c (bx P pc noY rk (aq P pc noY rk 29 m1) 29 (cR (cR (cL (cL (cR (cL (cR (cR (cR xJ))))))))) (LvA.b (LvA.b (LvA.a (LvA.a (LvA.b (LvA.a (LvA.b (LvA.b (LvA.b (LA 29)))))))))) (K29_prrrlrl pc rk k m1) (uz pc rk k) (aw P jq)))
noncomputable def K29_pxrrrlrllrl(m1:Nat):(Nat→KA):=(upA 1 (K29_prrrlrllr pc rk k m1) (uz pc rk k))
noncomputable def EZ:KA:=(bK (LvA.b (LvA.b (LvA.b (LvA.b (LvA.b (LvA.b (LA 29))))))).c (bx P pc noY rk (aq P pc noY rk 29 k) 29 (cR (cR (cR (cR (cR (cR (cR xJ))))))) (LvA.b (LvA.b (LvA.b (LvA.b (LvA.b (LvA.b (LvA.b (LA 29)))))))) (aw P jq) X0A (aw P jq)))
noncomputable def xQ:(Nat→KA):=(upA 2 (EZ pc rk k) X0A)
noncomputable def K29_prrrrrrlrl(m1:Nat):KA:=(bK (LvA.a (LvA.b (LvA.a (LvA.b (LvA.b (LvA.b (LvA.b (LvA.b (LvA.b (LA 29)))))))))).c (aq P pc noY rk 29 m1 (LvA.a (LvA.b (LvA.a (LvA.b (LvA.b (LvA.b (LvA.b (LvA.b (LvA.b (LA 29)))))))))) (cL (cR (cL (cR (cR (cR (cR (cR (cR xJ))))))))) (EZ pc rk k) (xQ pc rk k) (aw P jq)))
noncomputable def T29_2(m1:Nat):=fun(u1:D) (u2:D) (u7:D) (u80:D) (c3:List D)=>labA (bx P pc noY rk (aq P pc noY rk 29 m1) 29 (cR (cL (cL (cR (cL (cL (cR (cL (cR (cR (cR xJ))))))))))) (LvA.b (LvA.a (LvA.a (LvA.b (LvA.a (LvA.a (LvA.b (LvA.a (LvA.b (LvA.b (LvA.b (LA 29)))))))))))) (K29_prrrlrllr pc rk k m1) (K29_pxrrrlrllrl pc rk k m1) (aw P jq)) (Tr.set (Tr.set (Tr.set (Tr.set (Tr.set Tr.nil 80 (some (AV.d u80))) 7 (some (AV.d u7))) 3 (some (AV.loc 3 0))) 2 (some (AV.d u2))) 1 (some (AV.d u1))) (Tr.set Tr.nil 3 (some (Bx.dat c3 false)))
noncomputable def T29_3(m1:Nat):=fun(u1:D) (u2:D) (u8:D) (u9:D) (c3:List D)=>labA (bx P pc noY rk (aq P pc noY rk 29 m1) 29 (cL (cL (cR (cL (cR (cR (cR (cR (cR (cR xJ)))))))))) (LvA.a (LvA.a (LvA.b (LvA.a (LvA.b (LvA.b (LvA.b (LvA.b (LvA.b (LvA.b (LA 29))))))))))) (K29_prrrrrrlrl pc rk k m1) (xQ pc rk k) (aw P jq)) (Tr.set (Tr.set (Tr.set (Tr.set (Tr.set Tr.nil 9 (some (AV.d u9))) 8 (some (AV.d u8))) 3 (some (AV.loc 3 0))) 2 (some (AV.d u2))) 1 (some (AV.d u1))) (Tr.set Tr.nil 3 (some (Bx.dat c3 false)))
noncomputable def R29_3(m1:Nat):(D→D→D→D→List D→Option D):=fun u1 u2 u8 u9 c3=>labA (aq P pc noY rk 29 m1 (LvA.a (LvA.b (LvA.a (LvA.b (LvA.b (LvA.b (LvA.b (LvA.b (LvA.b (LA 29)))))))))) (cL (cR (cL (cR (cR (cR (cR (cR (cR xJ))))))))) (EZ pc rk k) (xQ pc rk k) (aw P jq)) (Tr.set (Tr.set (Tr.set (Tr.set (Tr.set Tr.nil 9 (some (AV.d u9))) 8 (some (AV.d u8))) 3 (some (AV.loc 3 0))) 2 (some (AV.d u2))) 1 (some (AV.d u1))) (Tr.set Tr.nil 3 (some (Bx.dat c3 false)))
noncomputable def T29_1(m1:Nat):=fun(u1:D) (u2:D) (u7:D) (c3:List D)=>labA (bx P pc noY rk (aq P pc noY rk 29 m1) 29 (cL (cL (cR (cL (cR (cR (cR xJ))))))) (LvA.a (LvA.a (LvA.b (LvA.a (LvA.b (LvA.b (LvA.b (LA 29)))))))) (K29_prrrlrl pc rk k m1) (uz pc rk k) (aw P jq)) (Tr.set (Tr.set (Tr.set (Tr.set Tr.nil 7 (some (AV.d u7))) 3 (some (AV.loc 3 0))) 2 (some (AV.d u2))) 1 (some (AV.d u1))) (Tr.set Tr.nil 3 (some (Bx.dat c3 false)))
noncomputable def R29_1(m1:Nat):(D→D→D→List D→Option D):=fun u1 u2 u7 c3=>labA (aq P pc noY rk 29 m1 (LvA.a (LvA.b (LvA.a (LvA.b (LvA.b (LvA.b (LA 29))))))) (cL (cR (cL (cR (cR (cR xJ)))))) (qbk pc rk k) (uz pc rk k) (aw P jq)) (Tr.set (Tr.set (Tr.set (Tr.set Tr.nil 7 (some (AV.d u7))) 3 (some (AV.loc 3 0))) 2 (some (AV.d u2))) 1 (some (AV.d u1))) (Tr.set Tr.nil 3 (some (Bx.dat c3 false)))
noncomputable def B29_2(pc:PC)(k:Nat)(m1:Nat)(b1:(D→D→D→List D→Option D))(u1:D)(u2:D)(u7:D)(u80:D)(c3:List D):Option D:=
ifU u80 (
some (D.v (Value.bool false))) (
bindO (binD P BinOp.add 3 (Operand.tmp 25) (Operand.const (Value.int IntKind.i64 1)) u7 (D.v (Value.int IntKind.i64 1))) fun d_i=>
b1 u1 u2 d_i c3)
noncomputable def C29_2(m1:Nat):=B29_2 pc k m1
theorem h29_2(m1:Nat):T29_2 pc rk k m1=C29_2 pc k m1 (R29_1 pc rk k m1):=by kernel_rfl
noncomputable def B29_3(pc:PC)(k:Nat)(m1:Nat)(b3:(D→D→D→D→List D→Option D))(u1:D)(u2:D)(u8:D)(u9:D)(c3:List D):Option D:=
bindO (elsD u1) fun l_26=>
bindO (idxD u8 l_26.length) fun i_27=>
bindO (l_26[i_27]?) fun d_28=>
chkK (bz d_28) (
bindO (elsD d_28) fun l_29=>
bindO (binD P BinOp.lss 3 (Operand.tmp 89) (Operand.tmp 94) u9 (lenD l_29)) fun d_2a=>
ifU d_2a (
bindO (cutD c3 0 5) fun c_2b=>
bindO (elsD u2) fun l_2c=>
bindO (idxD u8 l_2c.length) fun i_2d=>
bindO (l_2c[i_2d]?) fun d_2e=>
chkK (bz d_2e) (
bindO (elsD u1) fun l_2f=>
bindO (idxD u8 l_2f.length) fun i_2g=>
bindO (l_2f[i_2g]?) fun d_2h=>
chkK (bz d_2h) (
bindO (elsD d_2h) fun l_2i=>
bindO (idxD u9 l_2i.length) fun i_2j=>
bindO (l_2i[i_2j]?) fun d_2k=>
chkK (bz d_2k) (
bindO (pcD P pc 41 [(D.agg c_2b),d_2e,d_2k]) fun d_2l=>
ifU d_2l (
some (D.v (Value.bool true))) (
bindO (binD P BinOp.add 3 (Operand.tmp 96) (Operand.const (Value.int IntKind.i64 1)) u9 (D.v (Value.int IntKind.i64 1))) fun d_2m=>
b3 u1 u2 u8 d_2m c3))))) (
some (D.v (Value.bool false))))
noncomputable def C29_3(m1:Nat):=B29_3 pc k m1
noncomputable def S29_3:Nat→(D→D→D→D→List D→Option D):=recF (C29_3 pc k) (fun _ _ _ _ _=>none)
theorem h29_3(m1:Nat):T29_3 pc rk k m1=C29_3 pc k m1 (R29_3 pc rk k m1):=by kernel_rfl
theorem q29_3(m:Nat):T29_3 pc rk k m=S29_3 pc k m:=recS (h29_3 pc rk k) (by kernel_rfl) (fun m=>by kernel_rfl) m
noncomputable def B29_1(pc:PC)(k:Nat)(m1:Nat)(j2:(D→D→D→D→List D→Option D))(j3:(D→D→D→D→List D→Option D))(b1:(D→D→D→List D→Option D))(u1:D)(u2:D)(u7:D)(c3:List D):Option D:=
bindO (elsD u2) fun l_9=>
bindO (binD P BinOp.lss 3 (Operand.tmp 21) (Operand.tmp 23) u7 (lenD l_9)) fun d_a=>
ifU d_a (
bindO (binD P BinOp.eql 3 (Operand.tmp 27) (Operand.const (Value.int IntKind.i64 0)) u7 (D.v (Value.int IntKind.i64 0))) fun d_b=>
ifU d_b (
bindO (c3[3]?) fun d_c=>
bindO (elsD u2) fun l_d=>
bindO (idxD (D.v (Value.int IntKind.i64 0)) l_d.length) fun i_e=>
bindO (l_d[i_e]?) fun d_f=>
chkK (bz d_f) (
bindO (pcD P pc 39 [d_c,d_f]) fun d_g=>
bindO (semD P d_g (Op.unary UnOp.not)) fun d_h=>
ifU d_h (
j2 u1 u2 u7 (D.v (Value.bool true)) c3) (
bindO (binD P BinOp.gtr 3 (Operand.tmp 39) (Operand.const (Value.int IntKind.i64 0)) u7 (D.v (Value.int IntKind.i64 0))) fun d_j=>
ifU d_j (
bindO (elsD u2) fun l_k=>
bindO (idxD u7 l_k.length) fun i_l=>
bindO (l_k[i_l]?) fun d_m=>
chkK (bz d_m) (
bindO (c3[0]?) fun d_n=>
bindO (elsD d_n) fun l_o=>
bindO (binD P BinOp.sub 3 (Operand.tmp 49) (Operand.const (Value.int IntKind.i64 1)) (lenD l_o) (D.v (Value.int IntKind.i64 1))) fun d_p=>
bindO (pcD P pc 35 [d_m,(D.v (Value.int IntKind.i64 0)),d_p]) fun d_q=>
bindO (semD P d_q (Op.unary UnOp.not)) fun d_r=>
ifU d_r (
j2 u1 u2 u7 (D.v (Value.bool true)) c3) (
bindO (cutD c3 0 5) fun c_s=>
bindO (binD P BinOp.sub 3 (Operand.tmp 56) (Operand.const (Value.int IntKind.i64 1)) u7 (D.v (Value.int IntKind.i64 1))) fun d_t=>
bindO (elsD u2) fun l_u=>
bindO (idxD d_t l_u.length) fun i_v=>
bindO (l_u[i_v]?) fun d_w=>
chkK (bz d_w) (
bindO (elsD u2) fun l_x=>
bindO (idxD u7 l_x.length) fun i_y=>
bindO (l_x[i_y]?) fun d_z=>
chkK (bz d_z) (
bindO (pcD P pc 41 [(D.agg c_s),d_w,d_z]) fun d_10=>
bindO (semD P d_10 (Op.unary UnOp.not)) fun d_11=>
ifU d_11 (
j2 u1 u2 u7 (D.v (Value.bool true)) c3) (
bindO (binD P BinOp.sub 3 (Operand.tmp 69) (Operand.const (Value.int IntKind.i64 1)) u7 (D.v (Value.int IntKind.i64 1))) fun d_12=>
bindO (elsD u1) fun l_13=>
bindO (idxD d_12 l_13.length) fun i_14=>
bindO (l_13[i_14]?) fun d_15=>
chkK (bz d_15) (
bindO (elsD u2) fun l_16=>
bindO (idxD u7 l_16.length) fun i_17=>
bindO (l_16[i_17]?) fun d_18=>
chkK (bz d_18) (
bindO (pcD P pc 39 [d_15,d_18]) fun d_19=>
j2 u1 u2 u7 d_19 c3)))))))) (
j2 u1 u2 u7 (D.v (Value.bool false)) c3)))) (
bindO (binD P BinOp.gtr 3 (Operand.tmp 39) (Operand.const (Value.int IntKind.i64 0)) u7 (D.v (Value.int IntKind.i64 0))) fun d_1a=>
ifU d_1a (
bindO (elsD u2) fun l_1b=>
bindO (idxD u7 l_1b.length) fun i_1c=>
bindO (l_1b[i_1c]?) fun d_1d=>
chkK (bz d_1d) (
bindO (c3[0]?) fun d_1e=>
bindO (elsD d_1e) fun l_1f=>
bindO (binD P BinOp.sub 3 (Operand.tmp 49) (Operand.const (Value.int IntKind.i64 1)) (lenD l_1f) (D.v (Value.int IntKind.i64 1))) fun d_1g=>
bindO (pcD P pc 35 [d_1d,(D.v (Value.int IntKind.i64 0)),d_1g]) fun d_1h=>
bindO (semD P d_1h (Op.unary UnOp.not)) fun d_1i=>
ifU d_1i (
j2 u1 u2 u7 (D.v (Value.bool true)) c3) (
bindO (cutD c3 0 5) fun c_1j=>
bindO (binD P BinOp.sub 3 (Operand.tmp 56) (Operand.const (Value.int IntKind.i64 1)) u7 (D.v (Value.int IntKind.i64 1))) fun d_1k=>
bindO (elsD u2) fun l_1l=>
bindO (idxD d_1k l_1l.length) fun i_1m=>
bindO (l_1l[i_1m]?) fun d_1n=>
chkK (bz d_1n) (
bindO (elsD u2) fun l_1o=>
bindO (idxD u7 l_1o.length) fun i_1p=>
bindO (l_1o[i_1p]?) fun d_1q=>
chkK (bz d_1q) (
bindO (pcD P pc 41 [(D.agg c_1j),d_1n,d_1q]) fun d_1r=>
bindO (semD P d_1r (Op.unary UnOp.not)) fun d_1s=>
ifU d_1s (
j2 u1 u2 u7 (D.v (Value.bool true)) c3) (
bindO (binD P BinOp.sub 3 (Operand.tmp 69) (Operand.const (Value.int IntKind.i64 1)) u7 (D.v (Value.int IntKind.i64 1))) fun d_1t=>
bindO (elsD u1) fun l_1u=>
bindO (idxD d_1t l_1u.length) fun i_1v=>
bindO (l_1u[i_1v]?) fun d_1w=>
chkK (bz d_1w) (
bindO (elsD u2) fun l_1x=>
bindO (idxD u7 l_1x.length) fun i_1y=>
bindO (l_1x[i_1y]?) fun d_1z=>
chkK (bz d_1z) (
bindO (pcD P pc 39 [d_1w,d_1z]) fun d_20=>
j2 u1 u2 u7 d_20 c3)))))))) (
j2 u1 u2 u7 (D.v (Value.bool false)) c3))) (
bindO (elsD u2) fun l_21=>
bindO (binD P BinOp.sub 3 (Operand.tmp 82) (Operand.const (Value.int IntKind.i64 1)) (lenD l_21) (D.v (Value.int IntKind.i64 1))) fun d_22=>
bindO (elsD u1) fun l_23=>
bindO (binD P BinOp.sub 3 (Operand.tmp 86) (Operand.const (Value.int IntKind.i64 1)) (lenD l_23) (D.v (Value.int IntKind.i64 1))) fun d_24=>
bindO (binD P BinOp.eql 3 (Operand.tmp 84) (Operand.tmp 87) d_22 d_24) fun d_25=>
ifU d_25 (
some (D.v (Value.bool true))) (
j3 u1 u2 d_22 (D.v (Value.int IntKind.i64 0)) c3))
noncomputable def C29_1(m1:Nat)(b1:(D→D→D→List D→Option D)):=B29_1 pc k m1 (C29_2 pc k m1 b1) (S29_3 pc k k) b1
noncomputable def S29_1:Nat→(D→D→D→List D→Option D):=recF (C29_1 pc k) (fun _ _ _ _=>none)
theorem h29_1(m1:Nat):T29_1 pc rk k m1=C29_1 pc k m1 (R29_1 pc rk k m1):=Eq.trans (b:=B29_1 pc k m1 (T29_2 pc rk k m1) (T29_3 pc rk k k) (R29_1 pc rk k m1)) (by kernel_rfl) (by rw[h29_2,q29_3]; rfl)
theorem q29_1(m:Nat):T29_1 pc rk k m=S29_1 pc k m:=recS (h29_1 pc rk k) (by kernel_rfl) (fun m=>by kernel_rfl) m
noncomputable def B29_0(pc:PC)(k:Nat)(j1:(D→D→D→List D→Option D))(v0:D)(v1:D)(v2:D):Option D:=
bindO (aggD v0) fun c_1=>
bindO (elsD v2) fun l_2=>
bindO (elsD v1) fun l_3=>
bindO (binD P BinOp.gtr 3 (Operand.tmp 11) (Operand.tmp 13) (lenD l_2) (lenD l_3)) fun d_4=>
ifU d_4 (
some (D.v (Value.bool false))) (
bindO (elsD v2) fun l_5=>
bindO (binD P BinOp.eql 3 (Operand.tmp 16) (Operand.const (Value.int IntKind.i64 0)) (lenD l_5) (D.v (Value.int IntKind.i64 0))) fun d_6=>
ifU d_6 (
bindO (elsD v1) fun l_7=>
bindO (binD P BinOp.eql 3 (Operand.tmp 19) (Operand.const (Value.int IntKind.i64 0)) (lenD l_7) (D.v (Value.int IntKind.i64 0))) fun d_8=>
some d_8) (
j1 v1 v2 (D.v (Value.int IntKind.i64 0)) c_1))
noncomputable def C29_0:=B29_0 pc k (S29_1 pc k k)
theorem h29_0(v0:D)(v1:D)(v2:D):cQ P pc noY rk LA (k+1) 29 [v0,v1,v2]=C29_0 pc k v0 v1 v2:=(bqA Go.Proofs.Tryz.f29 xJ jq (by kernel_rfl)).trans (Eq.trans (b:=B29_0 pc k (T29_1 pc rk k k) v0 v1 v2) (by kernel_rfl) (by rw[q29_1]; rfl))
noncomputable def code30:Code:=aJ 30
noncomputable def wy:List ResultVar:=bk 30
noncomputable def K30_prr:KA:=(bK (LvA.b (LvA.b (LA 30))).c (bx P pc noY rk (aq P pc noY rk 30 k) 30 (cR (cR (cR code30))) (LvA.b (LvA.b (LvA.b (LA 30)))) (aw P wy) X0A (aw P wy)))
noncomputable def KJ:(Nat→KA):=(upA 0 (K30_prr pc rk k) X0A)
noncomputable def K30_prrlrl(m1:Nat):KA:=(bK (LvA.a (LvA.b (LvA.a (LvA.b (LvA.b (LA 30)))))).c (aq P pc noY rk 30 m1 (LvA.a (LvA.b (LvA.a (LvA.b (LvA.b (LA 30)))))) (cL (cR (cL (cR (cR code30))))) (K30_prr pc rk k) (KJ pc rk k) (aw P wy)))
noncomputable def T30_1(m1:Nat):=fun(u1:D) (u5:D) (u6:D) (c2:List D)=>labA (bx P pc noY rk (aq P pc noY rk 30 m1) 30 (cL (cL (cR (cL (cR (cR code30)))))) (LvA.a (LvA.a (LvA.b (LvA.a (LvA.b (LvA.b (LA 30))))))) (K30_prrlrl pc rk k m1) (KJ pc rk k) (aw P wy)) (Tr.set (Tr.set (Tr.set (Tr.set Tr.nil 6 (some (AV.d u6))) 5 (some (AV.d u5))) 2 (some (AV.loc 2 0))) 1 (some (AV.d u1))) (Tr.set Tr.nil 2 (some (Bx.dat c2 false)))
noncomputable def R30_1(m1:Nat):(D→D→D→List D→Option D):=fun u1 u5 u6 c2=>labA (aq P pc noY rk 30 m1 (LvA.a (LvA.b (LvA.a (LvA.b (LvA.b (LA 30)))))) (cL (cR (cL (cR (cR code30))))) (K30_prr pc rk k) (KJ pc rk k) (aw P wy)) (Tr.set (Tr.set (Tr.set (Tr.set Tr.nil 6 (some (AV.d u6))) 5 (some (AV.d u5))) 2 (some (AV.loc 2 0))) 1 (some (AV.d u1))) (Tr.set Tr.nil 2 (some (Bx.dat c2 false)))
noncomputable def B30_1(pc:PC)(k:Nat)(m1:Nat)(b1:(D→D→D→List D→Option D))(u1:D)(u5:D)(u6:D)(c2:List D):Option D:=
bindO (elsD u1) fun l_2=>
bindO (binD P BinOp.lss 3 (Operand.tmp 7) (Operand.tmp 9) u6 (lenD l_2)) fun d_3=>
ifU d_3 (
bindO (c2[4]?) fun d_4=>
bindO (elsD u1) fun l_5=>
bindO (idxD u6 l_5.length) fun i_6=>
bindO (l_5[i_6]?) fun d_7=>
chkK (bz d_7) (
bindO (elsD d_4) fun l_8=>
bindO (idxD d_7 l_8.length) fun i_9=>
bindO (l_8[i_9]?) fun d_a=>
chkK (bz d_a) (
bindO (binD P BinOp.add 3 (Operand.tmp 13) (Operand.tmp 21) u5 d_a) fun d_b=>
bindO (binD P BinOp.add 3 (Operand.tmp 11) (Operand.const (Value.int IntKind.i64 1)) u6 (D.v (Value.int IntKind.i64 1))) fun d_c=>
b1 u1 d_b d_c c2))) (
some u5)
noncomputable def C30_1(m1:Nat):=B30_1 pc k m1
noncomputable def S30_1:Nat→(D→D→D→List D→Option D):=recF (C30_1 pc k) (fun _ _ _ _=>none)
theorem h30_1(m1:Nat):T30_1 pc rk k m1=C30_1 pc k m1 (R30_1 pc rk k m1):=by kernel_rfl
theorem q30_1(m:Nat):T30_1 pc rk k m=S30_1 pc k m:=recS (h30_1 pc rk k) (by kernel_rfl) (fun m=>by kernel_rfl) m
noncomputable def B30_0(pc:PC)(k:Nat)(j1:(D→D→D→List D→Option D))(v0:D)(v1:D):Option D:=
bindO (aggD v0) fun c_1=>
j1 v1 (D.v (Value.int IntKind.i64 0)) (D.v (Value.int IntKind.i64 0)) c_1
noncomputable def C30_0:=B30_0 pc k (S30_1 pc k k)
theorem h30_0(v0:D)(v1:D):cQ P pc noY rk LA (k+1) 30 [v0,v1]=C30_0 pc k v0 v1:=(bqA Go.Proofs.Tryz.f30 code30 wy (by kernel_rfl)).trans (Eq.trans (b:=B30_0 pc k (T30_1 pc rk k k) v0 v1) (by kernel_rfl) (by rw[q30_1]; rfl))
noncomputable def Cj:Code:=aJ 31
noncomputable def lV:List ResultVar:=bk 31
noncomputable def Rv:KA:=(bK (LvA.b (LvA.b (LvA.b (LvA.b (LA 31))))).c (bx P pc noY rk (aq P pc noY rk 31 k) 31 (cR (cR (cR (cR (cR Cj))))) (LvA.b (LvA.b (LvA.b (LvA.b (LvA.b (LA 31)))))) (aw P lV) X0A (aw P lV)))
noncomputable def oQ:(Nat→KA):=(upA 0 (Rv pc rk k) X0A)
noncomputable def Cq(m1:Nat):KA:=(bK (LvA.a (LvA.b (LvA.a (LvA.b (LvA.b (LvA.b (LvA.b (LA 31)))))))).c (aq P pc noY rk 31 m1 (LvA.a (LvA.b (LvA.a (LvA.b (LvA.b (LvA.b (LvA.b (LA 31)))))))) (cL (cR (cL (cR (cR (cR (cR Cj))))))) (Rv pc rk k) (oQ pc rk k) (aw P lV)))
noncomputable def K31_prrrrlrllr(m1:Nat):KA:=(bK (LvA.b (LvA.a (LvA.a (LvA.b (LvA.a (LvA.b (LvA.b (LvA.b (LvA.b (LA 31)))))))))).c (bx P pc noY rk (aq P pc noY rk 31 m1) 31 (cR (cR (cL (cL (cR (cL (cR (cR (cR (cR Cj)))))))))) (LvA.b (LvA.b (LvA.a (LvA.a (LvA.b (LvA.a (LvA.b (LvA.b (LvA.b (LvA.b (LA 31))))))))))) (Cq pc rk k m1) (oQ pc rk k) (aw P lV)))
noncomputable def K31_pxrrrrlrllrl(m1:Nat):(Nat→KA):=(upA 1 (K31_prrrrlrllr pc rk k m1) (oQ pc rk k))
noncomputable def T31_4(m1:Nat):=fun(u1:D) (u2:D) (u7:D) (u8:D) (c3:List D)=>labA (bx P pc noY rk (aq P pc noY rk 31 m1) 31 (cR (cR (cL (cL (cR (cL (cR (cR (cR (cR Cj)))))))))) (LvA.b (LvA.b (LvA.a (LvA.a (LvA.b (LvA.a (LvA.b (LvA.b (LvA.b (LvA.b (LA 31))))))))))) (Cq pc rk k m1) (oQ pc rk k) (aw P lV)) (Tr.set (Tr.set (Tr.set (Tr.set (Tr.set Tr.nil 8 (some (AV.d u8))) 7 (some (AV.d u7))) 3 (some (AV.loc 3 0))) 2 (some (AV.d u2))) 1 (some (AV.d u1))) (Tr.set Tr.nil 3 (some (Bx.dat c3 false)))
noncomputable def T31_3(m1:Nat):=fun(u1:D) (u2:D) (u7:D) (u8:D) (u64:D) (c3:List D)=>labA (bx P pc noY rk (aq P pc noY rk 31 m1) 31 (cR (cR (cL (cL (cR (cL (cL (cR (cL (cR (cR (cR (cR Cj))))))))))))) (LvA.b (LvA.b (LvA.a (LvA.a (LvA.b (LvA.a (LvA.a (LvA.b (LvA.a (LvA.b (LvA.b (LvA.b (LvA.b (LA 31)))))))))))))) (K31_prrrrlrllr pc rk k m1) (K31_pxrrrrlrllrl pc rk k m1) (aw P lV)) (Tr.set (Tr.set (Tr.set (Tr.set (Tr.set (Tr.set Tr.nil 64 (some (AV.d u64))) 8 (some (AV.d u8))) 7 (some (AV.d u7))) 3 (some (AV.loc 3 0))) 2 (some (AV.d u2))) 1 (some (AV.d u1))) (Tr.set Tr.nil 3 (some (Bx.dat c3 false)))
noncomputable def T31_2(m1:Nat):=fun(u1:D) (u2:D) (u7:D) (u8:D) (c3:List D)=>labA (bx P pc noY rk (aq P pc noY rk 31 m1) 31 (cL (cL (cR (cL (cR (cR (cR (cR Cj)))))))) (LvA.a (LvA.a (LvA.b (LvA.a (LvA.b (LvA.b (LvA.b (LvA.b (LA 31))))))))) (Cq pc rk k m1) (oQ pc rk k) (aw P lV)) (Tr.set (Tr.set (Tr.set (Tr.set (Tr.set Tr.nil 8 (some (AV.d u8))) 7 (some (AV.d u7))) 3 (some (AV.loc 3 0))) 2 (some (AV.d u2))) 1 (some (AV.d u1))) (Tr.set Tr.nil 3 (some (Bx.dat c3 false)))
noncomputable def R31_2(m1:Nat):(D→D→D→D→List D→Option D):=fun u1 u2 u7 u8 c3=>labA (aq P pc noY rk 31 m1 (LvA.a (LvA.b (LvA.a (LvA.b (LvA.b (LvA.b (LvA.b (LA 31)))))))) (cL (cR (cL (cR (cR (cR (cR Cj))))))) (Rv pc rk k) (oQ pc rk k) (aw P lV)) (Tr.set (Tr.set (Tr.set (Tr.set (Tr.set Tr.nil 8 (some (AV.d u8))) 7 (some (AV.d u7))) 3 (some (AV.loc 3 0))) 2 (some (AV.d u2))) 1 (some (AV.d u1))) (Tr.set Tr.nil 3 (some (Bx.dat c3 false)))
noncomputable def T31_1:=fun(u1:D) (u2:D) (u7:D) (c3:List D)=>labA (bx P pc noY rk (aq P pc noY rk 31 k) 31 (cR (cR (cR Cj))) (LvA.b (LvA.b (LvA.b (LA 31)))) (aw P lV) X0A (aw P lV)) (Tr.set (Tr.set (Tr.set (Tr.set Tr.nil 7 (some (AV.d u7))) 3 (some (AV.loc 3 0))) 2 (some (AV.d u2))) 1 (some (AV.d u1))) (Tr.set Tr.nil 3 (some (Bx.dat c3 false)))
noncomputable def B31_4(pc:PC)(k:Nat)(m1:Nat)(b2:(D→D→D→D→List D→Option D))(u1:D)(u2:D)(u7:D)(u8:D)(c3:List D):Option D:=
bindO (binD P BinOp.add 3 (Operand.tmp 29) (Operand.const (Value.int IntKind.i64 1)) u8 (D.v (Value.int IntKind.i64 1))) fun d_m=>
b2 u1 u2 u7 d_m c3
noncomputable def C31_4(m1:Nat):=B31_4 pc k m1
theorem h31_4(m1:Nat):T31_4 pc rk k m1=C31_4 pc k m1 (R31_2 pc rk k m1):=by kernel_rfl
noncomputable def B31_3(pc:PC)(k:Nat)(m1:Nat)(j4:(D→D→D→D→List D→Option D))(b2:(D→D→D→D→List D→Option D))(u1:D)(u2:D)(u7:D)(u8:D)(u64:D)(c3:List D):Option D:=
ifU u64 (
bindO (cutD c3 0 5) fun c_g=>
chkK (bz u8) (
bindO (elsD u2) fun l_h=>
chkK (l_h.all (szOk 1)) (
bindO (appD [] l_h) fun l_i=>
bindO (appD l_i [u8]) fun l_j=>
bindO (pcD P pc 31 [(D.agg c_g),u1,(D.sl l_j)]) fun d_k=>
bindO (mmD P .max [3,3] (Call.mk (Callee.builtin Builtin.max) #[(Operand.tmp 65),(Operand.tmp 74)] #[3,3]) 3 [u7,d_k]) fun d_l=>
j4 u1 u2 d_l u8 c3))) (
j4 u1 u2 u7 u8 c3)
noncomputable def C31_3(m1:Nat)(b2:(D→D→D→D→List D→Option D)):=B31_3 pc k m1 (C31_4 pc k m1 b2) b2
theorem h31_3(m1:Nat):T31_3 pc rk k m1=C31_3 pc k m1 (R31_2 pc rk k m1):=Eq.trans (b:=B31_3 pc k m1 (T31_4 pc rk k m1) (R31_2 pc rk k m1)) (by kernel_rfl) (by rw[h31_4]; rfl)
noncomputable def B31_2(pc:PC)(k:Nat)(m1:Nat)(j3:(D→D→D→D→D→List D→Option D))(b2:(D→D→D→D→List D→Option D))(u1:D)(u2:D)(u7:D)(u8:D)(c3:List D):Option D:=
bindO (c3[0]?) fun d_9=>
bindO (elsD d_9) fun l_a=>
bindO (binD P BinOp.lss 3 (Operand.tmp 23) (Operand.tmp 27) u8 (lenD l_a)) fun d_b=>
ifU d_b (
bindO (elsD u2) fun l_c=>
bindO (binD P BinOp.eql 3 (Operand.tmp 33) (Operand.const (Value.int IntKind.i64 0)) (lenD l_c) (D.v (Value.int IntKind.i64 0))) fun d_d=>
ifU d_d (
bindO (c3[3]?) fun d_e=>
bindO (pcD P pc 39 [d_e,u8]) fun d_f=>
ifU d_f (
j3 u1 u2 u7 u8 (D.v (Value.bool true)) c3) (
bindO (binD P BinOp.gtr 3 (Operand.tmp 42) (Operand.const (Value.int IntKind.i64 0)) (lenD l_c) (D.v (Value.int IntKind.i64 0))) fun d_n=>
ifU d_n (
bindO (cutD c3 0 5) fun c_o=>
bindO (binD P BinOp.sub 3 (Operand.tmp 47) (Operand.const (Value.int IntKind.i64 1)) (lenD l_c) (D.v (Value.int IntKind.i64 1))) fun d_p=>
bindO (elsD u2) fun l_q=>
bindO (idxD d_p l_q.length) fun i_r=>
bindO (l_q[i_r]?) fun d_s=>
chkK (bz d_s) (
bindO (pcD P pc 41 [(D.agg c_o),d_s,u8]) fun d_t=>
ifU d_t (
bindO (binD P BinOp.sub 3 (Operand.tmp 56) (Operand.const (Value.int IntKind.i64 1)) (lenD l_c) (D.v (Value.int IntKind.i64 1))) fun d_u=>
bindO (elsD u1) fun l_v=>
bindO (idxD d_u l_v.length) fun i_w=>
bindO (l_v[i_w]?) fun d_x=>
chkK (bz d_x) (
bindO (pcD P pc 39 [d_x,u8]) fun d_y=>
bindO (semD P d_y (Op.unary UnOp.not)) fun d_z=>
j3 u1 u2 u7 u8 d_z c3)) (
j3 u1 u2 u7 u8 (D.v (Value.bool false)) c3))) (
j3 u1 u2 u7 u8 (D.v (Value.bool false)) c3))) (
bindO (binD P BinOp.gtr 3 (Operand.tmp 42) (Operand.const (Value.int IntKind.i64 0)) (lenD l_c) (D.v (Value.int IntKind.i64 0))) fun d_10=>
ifU d_10 (
bindO (cutD c3 0 5) fun c_11=>
bindO (binD P BinOp.sub 3 (Operand.tmp 47) (Operand.const (Value.int IntKind.i64 1)) (lenD l_c) (D.v (Value.int IntKind.i64 1))) fun d_12=>
bindO (elsD u2) fun l_13=>
bindO (idxD d_12 l_13.length) fun i_14=>
bindO (l_13[i_14]?) fun d_15=>
chkK (bz d_15) (
bindO (pcD P pc 41 [(D.agg c_11),d_15,u8]) fun d_16=>
ifU d_16 (
bindO (binD P BinOp.sub 3 (Operand.tmp 56) (Operand.const (Value.int IntKind.i64 1)) (lenD l_c) (D.v (Value.int IntKind.i64 1))) fun d_17=>
bindO (elsD u1) fun l_18=>
bindO (idxD d_17 l_18.length) fun i_19=>
bindO (l_18[i_19]?) fun d_1a=>
chkK (bz d_1a) (
bindO (pcD P pc 39 [d_1a,u8]) fun d_1b=>
bindO (semD P d_1b (Op.unary UnOp.not)) fun d_1c=>
j3 u1 u2 u7 u8 d_1c c3)) (
j3 u1 u2 u7 u8 (D.v (Value.bool false)) c3))) (
j3 u1 u2 u7 u8 (D.v (Value.bool false)) c3))) (
some u7)
noncomputable def C31_2(m1:Nat)(b2:(D→D→D→D→List D→Option D)):=B31_2 pc k m1 (C31_3 pc k m1 b2) b2
noncomputable def Ww:Nat→(D→D→D→D→List D→Option D):=recF (C31_2 pc k) (fun _ _ _ _ _=>none)
theorem h31_2(m1:Nat):T31_2 pc rk k m1=C31_2 pc k m1 (R31_2 pc rk k m1):=Eq.trans (b:=B31_2 pc k m1 (T31_3 pc rk k m1) (R31_2 pc rk k m1)) (by kernel_rfl) (by rw[h31_3]; rfl)
theorem q31_2(m:Nat):T31_2 pc rk k m=Ww pc k m:=recS (h31_2 pc rk k) (by kernel_rfl) (fun m=>by kernel_rfl) m
noncomputable def B31_1(pc:PC)(k:Nat)(j2:(D→D→D→D→List D→Option D))(u1:D)(u2:D)(u7:D)(c3:List D):Option D:=
bindO (elsD u2) fun l_6=>
bindO (elsD u1) fun l_7=>
bindO (binD P BinOp.eql 3 (Operand.tmp 18) (Operand.tmp 20) (lenD l_6) (lenD l_7)) fun d_8=>
ifU d_8 (
some u7) (
j2 u1 u2 u7 (D.v (Value.int IntKind.i64 0)) c3)
noncomputable def C31_1:=B31_1 pc k (Ww pc k k)
theorem h31_1:T31_1 pc rk k=C31_1 pc k:=Eq.trans (b:=B31_1 pc k (T31_2 pc rk k k)) (by kernel_rfl) (by rw[q31_2]; rfl)
noncomputable def B31_0(pc:PC)(k:Nat)(j1:(D→D→D→List D→Option D))(v0:D)(v1:D)(v2:D):Option D:=
bindO (aggD v0) fun c_1=>
bindO (cutD c_1 0 5) fun c_2=>
bindO (pcD P pc 29 [(D.agg c_2),v1,v2]) fun d_3=>
ifU d_3 (
bindO (cutD c_1 0 5) fun c_4=>
bindO (pcD P pc 30 [(D.agg c_4),v2]) fun d_5=>
j1 v1 v2 d_5 c_1) (
j1 v1 v2 (D.v (Value.int IntKind.i64 (-1))) c_1)
noncomputable def C31_0:=B31_0 pc k (C31_1 pc k)
theorem h31_0(v0:D)(v1:D)(v2:D):cQ P pc noY rk LA (k+1) 31 [v0,v1,v2]=C31_0 pc k v0 v1 v2:=(bqA Go.Proofs.Tryz.f31 Cj lV (by kernel_rfl)).trans (Eq.trans (b:=B31_0 pc k (T31_1 pc rk k) v0 v1 v2) (by kernel_rfl) (by rw[h31_1]; rfl))
noncomputable def code35:Code:=aJ 35
noncomputable def results35:List ResultVar:=bk 35
noncomputable def B35_0(pc:PC)(k:Nat)(v0:D)(v1:D)(v2:D):Option D:=
bindO (binD P BinOp.geq 3 (Operand.tmp 7) (Operand.tmp 8) v0 v1) fun d_1=>
ifU d_1 (
bindO (binD P BinOp.leq 3 (Operand.tmp 11) (Operand.tmp 12) v0 v2) fun d_2=>
some d_2) (
some (D.v (Value.bool false)))
noncomputable def C35_0:=B35_0 pc k
theorem h35_0(v0:D)(v1:D)(v2:D):cQ P pc noY rk LA (k+1) 35 [v0,v1,v2]=C35_0 pc k v0 v1 v2:=(bqA Go.Proofs.Tryz.f35 code35 results35 (by kernel_rfl)).trans (by kernel_rfl)
noncomputable def code39:Code:=aJ 39
noncomputable def wz:List ResultVar:=bk 39
noncomputable def K39_pr:KA:=(bK (LvA.b (LA 39)).c (bx P pc noY rk (aq P pc noY rk 39 k) 39 (cR (cR code39)) (LvA.b (LvA.b (LA 39))) (aw P wz) X0A (aw P wz)))
noncomputable def Rw:(Nat→KA):=(upA 0 (K39_pr pc rk k) X0A)
noncomputable def K39_prlrl(m1:Nat):KA:=(bK (LvA.a (LvA.b (LvA.a (LvA.b (LA 39))))).c (aq P pc noY rk 39 m1 (LvA.a (LvA.b (LvA.a (LvA.b (LA 39))))) (cL (cR (cL (cR code39)))) (K39_pr pc rk k) (Rw pc rk k) (aw P wz)))
noncomputable def T39_1(m1:Nat):=fun(u0:D) (u1:D) (u5:D)=>labA (bx P pc noY rk (aq P pc noY rk 39 m1) 39 (cL (cL (cR (cL (cR code39))))) (LvA.a (LvA.a (LvA.b (LvA.a (LvA.b (LA 39)))))) (K39_prlrl pc rk k m1) (Rw pc rk k) (aw P wz)) (Tr.set (Tr.set (Tr.set Tr.nil 5 (some (AV.d u5))) 1 (some (AV.d u1))) 0 (some (AV.d u0))) Tr.nil
noncomputable def R39_1(m1:Nat):(D→D→D→Option D):=fun u0 u1 u5=>labA (aq P pc noY rk 39 m1 (LvA.a (LvA.b (LvA.a (LvA.b (LA 39))))) (cL (cR (cL (cR code39)))) (K39_pr pc rk k) (Rw pc rk k) (aw P wz)) (Tr.set (Tr.set (Tr.set Tr.nil 5 (some (AV.d u5))) 1 (some (AV.d u1))) 0 (some (AV.d u0))) Tr.nil
noncomputable def B39_1(pc:PC)(k:Nat)(m1:Nat)(b1:(D→D→D→Option D))(u0:D)(u1:D)(u5:D):Option D:=
bindO (elsD u0) fun l_1=>
bindO (binD P BinOp.lss 3 (Operand.tmp 6) (Operand.tmp 8) u5 (lenD l_1)) fun d_2=>
ifU d_2 (
bindO (elsD u0) fun l_3=>
bindO (idxD u5 l_3.length) fun i_4=>
bindO (l_3[i_4]?) fun d_5=>
chkK (bz d_5) (
bindO (binD P BinOp.eql 3 (Operand.tmp 15) (Operand.tmp 16) d_5 u1) fun d_6=>
ifU d_6 (
some (D.v (Value.bool true))) (
bindO (binD P BinOp.add 3 (Operand.tmp 10) (Operand.const (Value.int IntKind.i64 1)) u5 (D.v (Value.int IntKind.i64 1))) fun d_7=>
b1 u0 u1 d_7))) (
some (D.v (Value.bool false)))
noncomputable def C39_1(m1:Nat):=B39_1 pc k m1
noncomputable def S39_1:Nat→(D→D→D→Option D):=recF (C39_1 pc k) (fun _ _ _=>none)
theorem h39_1(m1:Nat):T39_1 pc rk k m1=C39_1 pc k m1 (R39_1 pc rk k m1):=by kernel_rfl
theorem q39_1(m:Nat):T39_1 pc rk k m=S39_1 pc k m:=recS (h39_1 pc rk k) (by kernel_rfl) (fun m=>by kernel_rfl) m
noncomputable def B39_0(pc:PC)(k:Nat)(j1:(D→D→D→Option D))(v0:D)(v1:D):Option D:=
j1 v0 v1 (D.v (Value.int IntKind.i64 0))
noncomputable def C39_0:=B39_0 pc k (S39_1 pc k k)
theorem h39_0(v0:D)(v1:D):cQ P pc noY rk LA (k+1) 39 [v0,v1]=C39_0 pc k v0 v1:=(bqA Go.Proofs.Tryz.f39 code39 wz (by kernel_rfl)).trans (Eq.trans (b:=B39_0 pc k (T39_1 pc rk k k) v0 v1) (by kernel_rfl) (by rw[q39_1]; rfl))
noncomputable def code41:Code:=aJ 41
noncomputable def results41:List ResultVar:=bk 41
noncomputable def B41_0(pc:PC)(k:Nat)(v0:D)(v1:D)(v2:D):Option D:=
bindO (aggD v0) fun c_1=>
bindO (binD P BinOp.eql 3 (Operand.tmp 7) (Operand.tmp 8) v1 v2) fun d_2=>
ifU d_2 (
some (D.v (Value.bool true))) (
bindO (cutD c_1 0 3) fun c_3=>
bindO (pcD P pc 75 [(D.agg c_3),v1,v2]) fun d_4=>
some d_4)
noncomputable def C41_0:=B41_0 pc k
theorem h41_0(v0:D)(v1:D)(v2:D):cQ P pc noY rk LA (k+1) 41 [v0,v1,v2]=C41_0 pc k v0 v1 v2:=(bqA Go.Proofs.Tryz.f41 code41 results41 (by kernel_rfl)).trans (by kernel_rfl)
noncomputable def code51:Code:=aJ 51
noncomputable def results51:List ResultVar:=bk 51
noncomputable def B51_0(pc:PC)(k:Nat)(v0:D)(v1:D):Option D:=
bindO (aggD v0) fun c_1=>
bindO (c_1[0]?) fun d_2=>
bindO (elsD d_2) fun l_3=>
bindO (binD P BinOp.leq 3 (Operand.tmp 7) (Operand.const (Value.int IntKind.i64 11)) (lenD l_3) (D.v (Value.int IntKind.i64 11))) fun d_4=>
ifU d_4 (
bindO (c_1[1]?) fun d_5=>
bindO (elsD d_5) fun l_6=>
bindO (binD P BinOp.leq 3 (Operand.tmp 12) (Operand.const (Value.int IntKind.i64 19)) (lenD l_6) (D.v (Value.int IntKind.i64 19))) fun d_7=>
ifU d_7 (
bindO (c_1[2]?) fun d_8=>
bindO (elsD d_8) fun l_9=>
bindO (binD P BinOp.leq 3 (Operand.tmp 18) (Operand.const (Value.int IntKind.i64 6)) (lenD l_9) (D.v (Value.int IntKind.i64 6))) fun d_a=>
ifU d_a (
bindO (elsD v1) fun l_b=>
bindO (binD P BinOp.leq 3 (Operand.tmp 23) (Operand.const (Value.int IntKind.i64 11)) (lenD l_b) (D.v (Value.int IntKind.i64 11))) fun d_c=>
some d_c) (
some (D.v (Value.bool false)))) (
some (D.v (Value.bool false)))) (
some (D.v (Value.bool false)))
noncomputable def C51_0:=B51_0 pc k
theorem h51_0(v0:D)(v1:D):cQ P pc noY rk LA (k+1) 51 [v0,v1]=C51_0 pc k v0 v1:=(bqA Go.Proofs.Tryz.f51 code51 results51 (by kernel_rfl)).trans (by kernel_rfl)
noncomputable def KQ:Code:=aJ 52
noncomputable def rJ:List ResultVar:=bk 52
noncomputable def K52_pr:KA:=(bK (LvA.b (LA 52)).c (bx P pc noY rk (aq P pc noY rk 52 k) 52 (cR (cR KQ)) (LvA.b (LvA.b (LA 52))) (aw P rJ) X0A (aw P rJ)))
noncomputable def Az:(Nat→KA):=(upA 0 (K52_pr pc rk k) X0A)
noncomputable def K52_prlrl(m1:Nat):KA:=(bK (LvA.a (LvA.b (LvA.a (LvA.b (LA 52))))).c (aq P pc noY rk 52 m1 (LvA.a (LvA.b (LvA.a (LvA.b (LA 52))))) (cL (cR (cL (cR KQ)))) (K52_pr pc rk k) (Az pc rk k) (aw P rJ)))
noncomputable def K52_prlrll(m1:Nat):KA:=(bK (LvA.a (LvA.a (LvA.b (LvA.a (LvA.b (LA 52)))))).c (bx P pc noY rk (aq P pc noY rk 52 m1) 52 (cR (cL (cL (cR (cL (cR KQ)))))) (LvA.b (LvA.a (LvA.a (LvA.b (LvA.a (LvA.b (LA 52))))))) (K52_prlrl pc rk k m1) (Az pc rk k) (aw P rJ)))
noncomputable def T52_2(m1:Nat):=fun(u0:D) (u3:D) (u11:D)=>labA (bx P pc noY rk (aq P pc noY rk 52 m1) 52 (cR (cL (cL (cL (cR (cL (cR KQ))))))) (LvA.b (LvA.a (LvA.a (LvA.a (LvA.b (LvA.a (LvA.b (LA 52)))))))) (K52_prlrll pc rk k m1) (Az pc rk k) (aw P rJ)) (Tr.set (Tr.set (Tr.set Tr.nil 11 (some (AV.d u11))) 3 (some (AV.d u3))) 0 (some (AV.d u0))) Tr.nil
noncomputable def T52_1(m1:Nat):=fun(u0:D) (u3:D)=>labA (bx P pc noY rk (aq P pc noY rk 52 m1) 52 (cL (cL (cR (cL (cR KQ))))) (LvA.a (LvA.a (LvA.b (LvA.a (LvA.b (LA 52)))))) (K52_prlrl pc rk k m1) (Az pc rk k) (aw P rJ)) (Tr.set (Tr.set Tr.nil 3 (some (AV.d u3))) 0 (some (AV.d u0))) Tr.nil
noncomputable def R52_1(m1:Nat):(D→D→Option D):=fun u0 u3=>labA (aq P pc noY rk 52 m1 (LvA.a (LvA.b (LvA.a (LvA.b (LA 52))))) (cL (cR (cL (cR KQ)))) (K52_pr pc rk k) (Az pc rk k) (aw P rJ)) (Tr.set (Tr.set Tr.nil 3 (some (AV.d u3))) 0 (some (AV.d u0))) Tr.nil
noncomputable def B52_2(pc:PC)(k:Nat)(m1:Nat)(b1:(D→D→Option D))(u0:D)(u3:D)(u11:D):Option D:=
ifU u11 (
bindO (elsD u0) fun l_4=>
bindO (idxD u3 l_4.length) fun i_5=>
bindO (l_4[i_5]?) fun d_6=>
chkK (bz d_6) (
bindO (elsD d_6) fun l_7=>
bindO (binD P BinOp.gtr 3 (Operand.tmp 18) (Operand.const (Value.int IntKind.i64 11)) (lenD l_7) (D.v (Value.int IntKind.i64 11))) fun d_8=>
ifU d_8 (
some (D.v (Value.bool false))) (
bindO (binD P BinOp.add 3 (Operand.tmp 12) (Operand.const (Value.int IntKind.i64 1)) u3 (D.v (Value.int IntKind.i64 1))) fun d_9=>
b1 u0 d_9))) (
bindO (elsD u0) fun l_a=>
bindO (binD P BinOp.leq 3 (Operand.tmp 21) (Operand.const (Value.int IntKind.i64 310)) (lenD l_a) (D.v (Value.int IntKind.i64 310))) fun d_b=>
some d_b)
noncomputable def C52_2(m1:Nat):=B52_2 pc k m1
theorem h52_2(m1:Nat):T52_2 pc rk k m1=C52_2 pc k m1 (R52_1 pc rk k m1):=by kernel_rfl
noncomputable def B52_1(pc:PC)(k:Nat)(m1:Nat)(j2:(D→D→D→Option D))(b1:(D→D→Option D))(u0:D)(u3:D):Option D:=
bindO (elsD u0) fun l_1=>
bindO (binD P BinOp.lss 3 (Operand.tmp 4) (Operand.tmp 6) u3 (lenD l_1)) fun d_2=>
ifU d_2 (
bindO (binD P BinOp.lss 3 (Operand.tmp 9) (Operand.const (Value.int IntKind.i64 311)) u3 (D.v (Value.int IntKind.i64 311))) fun d_3=>
j2 u0 u3 d_3) (
j2 u0 u3 (D.v (Value.bool false)))
noncomputable def C52_1(m1:Nat)(b1:(D→D→Option D)):=B52_1 pc k m1 (C52_2 pc k m1 b1) b1
noncomputable def S52_1:Nat→(D→D→Option D):=recF (C52_1 pc k) (fun _ _=>none)
theorem h52_1(m1:Nat):T52_1 pc rk k m1=C52_1 pc k m1 (R52_1 pc rk k m1):=Eq.trans (b:=B52_1 pc k m1 (T52_2 pc rk k m1) (R52_1 pc rk k m1)) (by kernel_rfl) (by rw[h52_2]; rfl)
theorem q52_1(m:Nat):T52_1 pc rk k m=S52_1 pc k m:=recS (h52_1 pc rk k) (by kernel_rfl) (fun m=>by kernel_rfl) m
noncomputable def B52_0(pc:PC)(k:Nat)(j1:(D→D→Option D))(v0:D):Option D:=
j1 v0 (D.v (Value.int IntKind.i64 0))
noncomputable def C52_0:=B52_0 pc k (S52_1 pc k k)
theorem h52_0(v0:D):cQ P pc noY rk LA (k+1) 52 [v0]=C52_0 pc k v0:=(bqA Go.Proofs.Tryz.f52 KQ rJ (by kernel_rfl)).trans (Eq.trans (b:=B52_0 pc k (T52_1 pc rk k k) v0) (by kernel_rfl) (by rw[q52_1]; rfl))
noncomputable def Rx:Code:=aJ 55
noncomputable def rQ:List ResultVar:=bk 55
noncomputable def K55_prr:KA:=(bK (LvA.b (LvA.b (LA 55))).c (bx P pc noY rk (aq P pc noY rk 55 k) 55 (cR (cR (cR Rx))) (LvA.b (LvA.b (LvA.b (LA 55)))) (aw P rQ) X0A (aw P rQ)))
noncomputable def T55_1:=fun(u30:D)=>labA (bx P pc noY rk (aq P pc noY rk 55 k) 55 (cR (cL (cR (cR Rx)))) (LvA.b (LvA.a (LvA.b (LvA.b (LA 55))))) (K55_prr pc rk k) X0A (aw P rQ)) (Tr.set Tr.nil 30 (some (AV.d u30))) Tr.nil
noncomputable def B55_1(pc:PC)(k:Nat)(u30:D):Option D:=
ifU u30 (
some (D.v (Value.int IntKind.i64 1))) (
some (D.v (Value.int IntKind.i64 0)))
noncomputable def C55_1:=B55_1 pc k
theorem h55_1:T55_1 pc rk k=C55_1 pc k:=by kernel_rfl
noncomputable def B55_0(pc:PC)(k:Nat)(j1:(D→Option D))(v0:D):Option D:=
bindO (aggD v0) fun c_1=>
bindO (cutD c_1 0 3) fun c_2=>
bindO (pcD P pc 77 [(D.agg c_2)]) fun d_3=>
bindO (binD P BinOp.neq 33 (Operand.tmp 7) (Operand.const (Value.int IntKind.i64 0)) d_3 (D.v (Value.int IntKind.i64 0))) fun d_4=>
ifU d_4 (
some d_3) (
bindO (cutD c_1 0 5) fun c_5=>
bindO (c_1[3]?) fun d_6=>
bindO (pcD P pc 78 [(D.agg c_5),d_6]) fun d_7=>
bindO (semD P d_7 (Op.unary UnOp.not)) fun d_8=>
ifU d_8 (
j1 (D.v (Value.bool true))) (
bindO (c_1[4]?) fun d_9=>
bindO (elsD d_9) fun l_a=>
bindO (c_1[0]?) fun d_b=>
bindO (elsD d_b) fun l_c=>
bindO (binD P BinOp.neq 3 (Operand.tmp 18) (Operand.tmp 22) (lenD l_a) (lenD l_c)) fun d_d=>
ifU d_d (
j1 (D.v (Value.bool true))) (
bindO (c_1[4]?) fun d_e=>
bindO (pcD P pc 79 [d_e,(D.fn 80 [] [])]) fun d_f=>
bindO (semD P d_f (Op.unary UnOp.not)) fun d_g=>
j1 d_g)))
noncomputable def C55_0:=B55_0 pc k (C55_1 pc k)
theorem h55_0(v0:D):cQ P pc noY rk LA (k+1) 55 [v0]=C55_0 pc k v0:=(bqA Go.Proofs.Tryz.f55 Rx rQ (by kernel_rfl)).trans (Eq.trans (b:=B55_0 pc k (T55_1 pc rk k) v0) (by kernel_rfl) (by rw[h55_1]; rfl))
noncomputable def tz:Code:=aJ 56
noncomputable def gv:List ResultVar:=bk 56
noncomputable def K56_prr:KA:=(bK (LvA.b (LvA.b (LA 56))).c (bx P pc noY rk (aq P pc noY rk 56 k) 56 (cR (cR (cR tz))) (LvA.b (LvA.b (LvA.b (LA 56)))) (aw P gv) X0A (aw P gv)))
noncomputable def KV:(Nat→KA):=(upA 0 (K56_prr pc rk k) X0A)
noncomputable def K56_prrlrl(m1:Nat):KA:=(bK (LvA.a (LvA.b (LvA.a (LvA.b (LvA.b (LA 56)))))).c (aq P pc noY rk 56 m1 (LvA.a (LvA.b (LvA.a (LvA.b (LvA.b (LA 56)))))) (cL (cR (cL (cR (cR tz))))) (K56_prr pc rk k) (KV pc rk k) (aw P gv)))
noncomputable def qcj:KA:=(bK (LvA.b (LvA.b (LvA.b (LA 56)))).c (bx P pc noY rk (aq P pc noY rk 56 k) 56 (cR (cR (cR (cR tz)))) (LvA.b (LvA.b (LvA.b (LvA.b (LA 56))))) (aw P gv) X0A (aw P gv)))
noncomputable def EK:(Nat→KA):=(upA 2 (qcj pc rk k) X0A)
noncomputable def K56_prrrlrl(m1:Nat):KA:=(bK (LvA.a (LvA.b (LvA.a (LvA.b (LvA.b (LvA.b (LA 56))))))).c (aq P pc noY rk 56 m1 (LvA.a (LvA.b (LvA.a (LvA.b (LvA.b (LvA.b (LA 56))))))) (cL (cR (cL (cR (cR (cR tz)))))) (qcj pc rk k) (EK pc rk k) (aw P gv)))
noncomputable def Ry:KA:=(bK (LvA.b (LvA.b (LvA.b (LvA.b (LA 56))))).c (bx P pc noY rk (aq P pc noY rk 56 k) 56 (cR (cR (cR (cR (cR tz))))) (LvA.b (LvA.b (LvA.b (LvA.b (LvA.b (LA 56)))))) (aw P gv) X0A (aw P gv)))
noncomputable def Cv:(Nat→KA):=(upA 4 (Ry pc rk k) X0A)
noncomputable def K56_prrrrlrl(m1:Nat):KA:=(bK (LvA.a (LvA.b (LvA.a (LvA.b (LvA.b (LvA.b (LvA.b (LA 56)))))))).c (aq P pc noY rk 56 m1 (LvA.a (LvA.b (LvA.a (LvA.b (LvA.b (LvA.b (LvA.b (LA 56)))))))) (cL (cR (cL (cR (cR (cR (cR tz))))))) (Ry pc rk k) (Cv pc rk k) (aw P gv)))
noncomputable def T56_3(m1:Nat):=fun(u6:D) (c1:List D) (l31:List D) (l56:List D) (l82:List D)=>labA (bx P pc noY rk (aq P pc noY rk 56 m1) 56 (cL (cL (cR (cL (cR (cR (cR (cR tz)))))))) (LvA.a (LvA.a (LvA.b (LvA.a (LvA.b (LvA.b (LvA.b (LvA.b (LA 56))))))))) (K56_prrrrlrl pc rk k m1) (Cv pc rk k) (aw P gv)) (Tr.set (Tr.set (Tr.set (Tr.set Tr.nil 6 (some (AV.d u6))) 3 (some (AV.loc 3 0))) 2 (some (AV.loc 2 0))) 1 (some (AV.loc 1 0))) (Tr.set (Tr.set (Tr.set (Tr.set (Tr.set (Tr.set Tr.nil 82 (some (Bx.vec l82 128 5 false))) 56 (some (Bx.vec l56 131 2 false))) 31 (some (Bx.vec l31 130 2 false))) 3 (some (Bx.box [(AV.osl 31),(AV.osl 56),(AV.osl 82)]))) 2 (some (Bx.dat [(D.v (Value.slice none 0 0)),(D.v (Value.slice none 0 0)),(D.v (Value.slice none 0 0))] false))) 1 (some (Bx.dat c1 false)))
noncomputable def R56_3(m1:Nat):(D→List D→List D→List D→List D→Option D):=fun u6 c1 l31 l56 l82=>labA (aq P pc noY rk 56 m1 (LvA.a (LvA.b (LvA.a (LvA.b (LvA.b (LvA.b (LvA.b (LA 56)))))))) (cL (cR (cL (cR (cR (cR (cR tz))))))) (Ry pc rk k) (Cv pc rk k) (aw P gv)) (Tr.set (Tr.set (Tr.set (Tr.set Tr.nil 6 (some (AV.d u6))) 3 (some (AV.loc 3 0))) 2 (some (AV.loc 2 0))) 1 (some (AV.loc 1 0))) (Tr.set (Tr.set (Tr.set (Tr.set (Tr.set (Tr.set Tr.nil 82 (some (Bx.vec l82 128 5 false))) 56 (some (Bx.vec l56 131 2 false))) 31 (some (Bx.vec l31 130 2 false))) 3 (some (Bx.box [(AV.osl 31),(AV.osl 56),(AV.osl 82)]))) 2 (some (Bx.dat [(D.v (Value.slice none 0 0)),(D.v (Value.slice none 0 0)),(D.v (Value.slice none 0 0))] false))) 1 (some (Bx.dat c1 false)))
noncomputable def T56_2(m1:Nat):=fun(u5:D) (c1:List D) (l31:List D) (l56:List D)=>labA (bx P pc noY rk (aq P pc noY rk 56 m1) 56 (cL (cL (cR (cL (cR (cR (cR tz))))))) (LvA.a (LvA.a (LvA.b (LvA.a (LvA.b (LvA.b (LvA.b (LA 56)))))))) (K56_prrrlrl pc rk k m1) (EK pc rk k) (aw P gv)) (Tr.set (Tr.set (Tr.set (Tr.set Tr.nil 5 (some (AV.d u5))) 3 (some (AV.loc 3 0))) 2 (some (AV.loc 2 0))) 1 (some (AV.loc 1 0))) (Tr.set (Tr.set (Tr.set (Tr.set (Tr.set Tr.nil 56 (some (Bx.vec l56 131 2 false))) 31 (some (Bx.vec l31 130 2 false))) 3 (some (Bx.box [(AV.osl 31),(AV.osl 56),(AV.d (D.v (Value.slice none 0 0)))]))) 2 (some (Bx.dat [(D.v (Value.slice none 0 0)),(D.v (Value.slice none 0 0)),(D.v (Value.slice none 0 0))] false))) 1 (some (Bx.dat c1 false)))
noncomputable def R56_2(m1:Nat):(D→List D→List D→List D→Option D):=fun u5 c1 l31 l56=>labA (aq P pc noY rk 56 m1 (LvA.a (LvA.b (LvA.a (LvA.b (LvA.b (LvA.b (LA 56))))))) (cL (cR (cL (cR (cR (cR tz)))))) (qcj pc rk k) (EK pc rk k) (aw P gv)) (Tr.set (Tr.set (Tr.set (Tr.set Tr.nil 5 (some (AV.d u5))) 3 (some (AV.loc 3 0))) 2 (some (AV.loc 2 0))) 1 (some (AV.loc 1 0))) (Tr.set (Tr.set (Tr.set (Tr.set (Tr.set Tr.nil 56 (some (Bx.vec l56 131 2 false))) 31 (some (Bx.vec l31 130 2 false))) 3 (some (Bx.box [(AV.osl 31),(AV.osl 56),(AV.d (D.v (Value.slice none 0 0)))]))) 2 (some (Bx.dat [(D.v (Value.slice none 0 0)),(D.v (Value.slice none 0 0)),(D.v (Value.slice none 0 0))] false))) 1 (some (Bx.dat c1 false)))
noncomputable def T56_1(m1:Nat):=fun(u4:D) (c1:List D) (l31:List D)=>labA (bx P pc noY rk (aq P pc noY rk 56 m1) 56 (cL (cL (cR (cL (cR (cR tz)))))) (LvA.a (LvA.a (LvA.b (LvA.a (LvA.b (LvA.b (LA 56))))))) (K56_prrlrl pc rk k m1) (KV pc rk k) (aw P gv)) (Tr.set (Tr.set (Tr.set (Tr.set Tr.nil 4 (some (AV.d u4))) 3 (some (AV.loc 3 0))) 2 (some (AV.loc 2 0))) 1 (some (AV.loc 1 0))) (Tr.set (Tr.set (Tr.set (Tr.set Tr.nil 31 (some (Bx.vec l31 130 2 false))) 3 (some (Bx.box [(AV.osl 31),(AV.d (D.v (Value.slice none 0 0))),(AV.d (D.v (Value.slice none 0 0)))]))) 2 (some (Bx.dat [(D.v (Value.slice none 0 0)),(D.v (Value.slice none 0 0)),(D.v (Value.slice none 0 0))] false))) 1 (some (Bx.dat c1 false)))
noncomputable def R56_1(m1:Nat):(D→List D→List D→Option D):=fun u4 c1 l31=>labA (aq P pc noY rk 56 m1 (LvA.a (LvA.b (LvA.a (LvA.b (LvA.b (LA 56)))))) (cL (cR (cL (cR (cR tz))))) (K56_prr pc rk k) (KV pc rk k) (aw P gv)) (Tr.set (Tr.set (Tr.set (Tr.set Tr.nil 4 (some (AV.d u4))) 3 (some (AV.loc 3 0))) 2 (some (AV.loc 2 0))) 1 (some (AV.loc 1 0))) (Tr.set (Tr.set (Tr.set (Tr.set Tr.nil 31 (some (Bx.vec l31 130 2 false))) 3 (some (Bx.box [(AV.osl 31),(AV.d (D.v (Value.slice none 0 0))),(AV.d (D.v (Value.slice none 0 0)))]))) 2 (some (Bx.dat [(D.v (Value.slice none 0 0)),(D.v (Value.slice none 0 0)),(D.v (Value.slice none 0 0))] false))) 1 (some (Bx.dat c1 false)))
noncomputable def B56_3(pc:PC)(k:Nat)(m1:Nat)(b3:(D→List D→List D→List D→List D→Option D))(u6:D)(c1:List D)(l31:List D)(l56:List D)(l82:List D):Option D:=
bindO (c1[2]?) fun d_10=>
bindO (elsD d_10) fun l_11=>
bindO (binD P BinOp.lss 3 (Operand.tmp 58) (Operand.tmp 61) u6 (lenD l_11)) fun d_12=>
ifU d_12 (
bindO (c1[2]?) fun d_13=>
bindO (elsD d_13) fun l_14=>
bindO (idxD u6 l_14.length) fun i_15=>
bindO (l_14[i_15]?) fun d_16=>
bindO (aggD d_16) fun c_17=>
chkK (Nat.beq c_17.length 5) (
bindO (cutD c_17 0 5) fun c_18=>
bindO (splD [(D.v (Value.int IntKind.i64 0)),(D.v (Value.int IntKind.i64 0)),(D.v (Value.int IntKind.i64 0)),(D.v (Value.int IntKind.i64 0)),(D.v (Value.int IntKind.i64 0))] 0 c_18 5) fun c_19=>
bindO (c_19[0]?) fun d_1a=>
bindO (cutD c_19 1 2) fun c_1b=>
bindO (cutD c_19 3 2) fun c_1c=>
bindO (pcD P pc 81 [(D.agg c_1b)]) fun d_1d=>
bindO (pcD P pc 81 [(D.agg c_1c)]) fun d_1e=>
bindO (Kj [(D.v (Value.int IntKind.i64 0)),(D.v (Value.int IntKind.i64 0)),(D.v (Value.int IntKind.i64 0)),(D.v (Value.int IntKind.i64 0)),(D.v (Value.int IntKind.i64 0))] [(0,1,d_1a),(1,2,d_1d),(3,2,d_1e)]) fun c_1f=>
chkK (Nat.beq c_1f.length 5) (
bindO (appD l82 [(D.agg c_1f)]) fun l_1g=>
bindO (binD P BinOp.add 3 (Operand.tmp 63) (Operand.const (Value.int IntKind.i64 1)) u6 (D.v (Value.int IntKind.i64 1))) fun d_1h=>
b3 d_1h c1 l31 l56 l_1g))) (
some (D.agg [(D.sl l31),(D.sl l56),(D.sl l82)]))
noncomputable def C56_3(m1:Nat):=B56_3 pc k m1
noncomputable def S56_3:Nat→(D→List D→List D→List D→List D→Option D):=recF (C56_3 pc k) (fun _ _ _ _ _=>none)
theorem h56_3(m1:Nat):T56_3 pc rk k m1=C56_3 pc k m1 (R56_3 pc rk k m1):=by kernel_rfl
theorem q56_3(m:Nat):T56_3 pc rk k m=S56_3 pc k m:=recS (h56_3 pc rk k) (by kernel_rfl) (fun m=>by kernel_rfl) m
noncomputable def B56_2(pc:PC)(k:Nat)(m1:Nat)(j3:(D→List D→List D→List D→List D→Option D))(b2:(D→List D→List D→List D→Option D))(u5:D)(c1:List D)(l31:List D)(l56:List D):Option D:=
bindO (c1[1]?) fun d_j=>
bindO (elsD d_j) fun l_k=>
bindO (binD P BinOp.lss 3 (Operand.tmp 33) (Operand.tmp 36) u5 (lenD l_k)) fun d_l=>
ifU d_l (
bindO (c1[1]?) fun d_m=>
bindO (elsD d_m) fun l_n=>
bindO (idxD u5 l_n.length) fun i_o=>
bindO (l_n[i_o]?) fun d_p=>
bindO (aggD d_p) fun c_q=>
chkK (Nat.beq c_q.length 2) (
bindO (c_q[0]?) fun d_r=>
bindO (c1[1]?) fun d_s=>
bindO (elsD d_s) fun l_t=>
bindO (idxD u5 l_t.length) fun i_u=>
bindO (l_t[i_u]?) fun d_v=>
bindO (aggD d_v) fun c_w=>
chkK (Nat.beq c_w.length 2) (
bindO ((List.drop 1 c_w)[0]?) fun d_x=>
chkK (bz d_r) (
chkK (bz d_x) (
bindO (appD l56 [(D.agg [d_r,d_x])]) fun l_y=>
bindO (binD P BinOp.add 3 (Operand.tmp 38) (Operand.const (Value.int IntKind.i64 1)) u5 (D.v (Value.int IntKind.i64 1))) fun d_z=>
b2 d_z c1 l31 l_y))))) (
j3 (D.v (Value.int IntKind.i64 0)) c1 l31 l56 [])
noncomputable def C56_2(m1:Nat):=B56_2 pc k m1 (S56_3 pc k k)
noncomputable def S56_2:Nat→(D→List D→List D→List D→Option D):=recF (C56_2 pc k) (fun _ _ _ _=>none)
theorem h56_2(m1:Nat):T56_2 pc rk k m1=C56_2 pc k m1 (R56_2 pc rk k m1):=Eq.trans (b:=B56_2 pc k m1 (T56_3 pc rk k k) (R56_2 pc rk k m1)) (by kernel_rfl) (by rw[q56_3]; rfl)
theorem q56_2(m:Nat):T56_2 pc rk k m=S56_2 pc k m:=recS (h56_2 pc rk k) (by kernel_rfl) (fun m=>by kernel_rfl) m
noncomputable def B56_1(pc:PC)(k:Nat)(m1:Nat)(j2:(D→List D→List D→List D→Option D))(b1:(D→List D→List D→Option D))(u4:D)(c1:List D)(l31:List D):Option D:=
bindO (c1[0]?) fun d_2=>
bindO (elsD d_2) fun l_3=>
bindO (binD P BinOp.lss 3 (Operand.tmp 8) (Operand.tmp 11) u4 (lenD l_3)) fun d_4=>
ifU d_4 (
bindO (c1[0]?) fun d_5=>
bindO (elsD d_5) fun l_6=>
bindO (idxD u4 l_6.length) fun i_7=>
bindO (l_6[i_7]?) fun d_8=>
bindO (aggD d_8) fun c_9=>
chkK (Nat.beq c_9.length 2) (
bindO (c_9[0]?) fun d_a=>
bindO (c1[0]?) fun d_b=>
bindO (elsD d_b) fun l_c=>
bindO (idxD u4 l_c.length) fun i_d=>
bindO (l_c[i_d]?) fun d_e=>
bindO (aggD d_e) fun c_f=>
chkK (Nat.beq c_f.length 2) (
bindO ((List.drop 1 c_f)[0]?) fun d_g=>
chkK (bz d_a) (
chkK (bz d_g) (
bindO (appD l31 [(D.agg [d_a,d_g])]) fun l_h=>
bindO (binD P BinOp.add 3 (Operand.tmp 13) (Operand.const (Value.int IntKind.i64 1)) u4 (D.v (Value.int IntKind.i64 1))) fun d_i=>
b1 d_i c1 l_h))))) (
j2 (D.v (Value.int IntKind.i64 0)) c1 l31 [])
noncomputable def C56_1(m1:Nat):=B56_1 pc k m1 (S56_2 pc k k)
noncomputable def S56_1:Nat→(D→List D→List D→Option D):=recF (C56_1 pc k) (fun _ _ _=>none)
theorem h56_1(m1:Nat):T56_1 pc rk k m1=C56_1 pc k m1 (R56_1 pc rk k m1):=Eq.trans (b:=B56_1 pc k m1 (T56_2 pc rk k k) (R56_1 pc rk k m1)) (by kernel_rfl) (by rw[q56_2]; rfl)
theorem q56_1(m:Nat):T56_1 pc rk k m=S56_1 pc k m:=recS (h56_1 pc rk k) (by kernel_rfl) (fun m=>by kernel_rfl) m
noncomputable def B56_0(pc:PC)(k:Nat)(j1:(D→List D→List D→Option D))(v0:D):Option D:=
bindO (aggD v0) fun c_1=>
j1 (D.v (Value.int IntKind.i64 0)) c_1 []
noncomputable def C56_0:=B56_0 pc k (S56_1 pc k k)
theorem h56_0(v0:D):cQ P pc noY rk LA (k+1) 56 [v0]=C56_0 pc k v0:=(bqA Go.Proofs.Tryz.f56 tz gv (by kernel_rfl)).trans (Eq.trans (b:=B56_0 pc k (T56_1 pc rk k k) v0) (by kernel_rfl) (by rw[q56_1]; rfl))
noncomputable def xV:Code:=aJ 57
noncomputable def jv:List ResultVar:=bk 57
noncomputable def nW:KA:=(bK (LvA.b (LvA.b (LvA.b (LvA.b (LvA.b (LvA.b (LA 57))))))).c (bx P pc noY rk (aq P pc noY rk 57 k) 57 (cR (cR (cR (cR (cR (cR (cR xV))))))) (LvA.b (LvA.b (LvA.b (LvA.b (LvA.b (LvA.b (LvA.b (LA 57)))))))) (aw P jv) X0A (aw P jv)))
noncomputable def jV:(Nat→KA):=(upA 0 (nW pc rk k) X0A)
noncomputable def xW(m1:Nat):KA:=(bK (LvA.a (LvA.b (LvA.a (LvA.b (LvA.b (LvA.b (LvA.b (LvA.b (LvA.b (LA 57)))))))))).c (aq P pc noY rk 57 m1 (LvA.a (LvA.b (LvA.a (LvA.b (LvA.b (LvA.b (LvA.b (LvA.b (LvA.b (LA 57)))))))))) (cL (cR (cL (cR (cR (cR (cR (cR (cR xV))))))))) (nW pc rk k) (jV pc rk k) (aw P jv)))
noncomputable def T57_1(m1:Nat):=fun(u7:D) (u34:D) (u35:D) (u36:D) (l33:List D)=>labA (bx P pc noY rk (aq P pc noY rk 57 m1) 57 (cL (cL (cR (cL (cR (cR (cR (cR (cR (cR xV)))))))))) (LvA.a (LvA.a (LvA.b (LvA.a (LvA.b (LvA.b (LvA.b (LvA.b (LvA.b (LvA.b (LA 57))))))))))) (xW pc rk k m1) (jV pc rk k) (aw P jv)) (Tr.set (Tr.set (Tr.set (Tr.set (Tr.set Tr.nil 36 (some (AV.d u36))) 35 (some (AV.d u35))) 34 (some (AV.d u34))) 9 (some (AV.osl 33))) 7 (some (AV.d u7))) (Tr.set Tr.nil 33 (some (Bx.vec l33 106 1 false)))
noncomputable def R57_1(m1:Nat):(D→D→D→D→List D→Option D):=fun u7 u34 u35 u36 l33=>labA (aq P pc noY rk 57 m1 (LvA.a (LvA.b (LvA.a (LvA.b (LvA.b (LvA.b (LvA.b (LvA.b (LvA.b (LA 57)))))))))) (cL (cR (cL (cR (cR (cR (cR (cR (cR xV))))))))) (nW pc rk k) (jV pc rk k) (aw P jv)) (Tr.set (Tr.set (Tr.set (Tr.set (Tr.set Tr.nil 36 (some (AV.d u36))) 35 (some (AV.d u35))) 34 (some (AV.d u34))) 9 (some (AV.osl 33))) 7 (some (AV.d u7))) (Tr.set Tr.nil 33 (some (Bx.vec l33 106 1 false)))
noncomputable def B57_1(pc:PC)(k:Nat)(m1:Nat)(b1:(D→D→D→D→List D→Option D))(u7:D)(u34:D)(u35:D)(u36:D)(l33:List D):Option D:=
bindO (binD P BinOp.lss 3 (Operand.tmp 36) (Operand.tmp 35) u36 u35) fun d_h=>
ifU d_h (
bindO (elsD u34) fun l_i=>
bindO (idxD u36 l_i.length) fun i_j=>
bindO (l_i[i_j]?) fun d_k=>
chkK (bz d_k) (
bindO (pcD P pc 83 [d_k]) fun d_l=>
bindO (idxD u36 l33.length) fun i_m=>
bindO (l33[i_m]?) fun d_n=>
chkK (bz d_n) (
chkK (bz d_l) (
bindO (binD P BinOp.add 3 (Operand.tmp 36) (Operand.const (Value.int IntKind.i64 1)) u36 (D.v (Value.int IntKind.i64 1))) fun d_o=>
b1 u7 u34 u35 d_o (List.set l33 i_m d_l))))) (
some (D.tup [u7,(D.sl l33),(D.v (Value.int IntKind.i64 0))]))
noncomputable def Wx(m1:Nat):=B57_1 pc k m1
noncomputable def Wy:Nat→(D→D→D→D→List D→Option D):=recF (Wx pc k) (fun _ _ _ _ _=>none)
theorem h57_1(m1:Nat):T57_1 pc rk k m1=Wx pc k m1 (R57_1 pc rk k m1):=by kernel_rfl
theorem q57_1(m:Nat):T57_1 pc rk k m=Wy pc k m:=recS (h57_1 pc rk k) (by kernel_rfl) (fun m=>by kernel_rfl) m
noncomputable def B57_0(pc:PC)(k:Nat)(j1:(D→D→D→D→List D→Option D))(v0:D)(v1:D):Option D:=
bindO (aggD v0) fun c_1=>
bindO (cutD c_1 0 5) fun c_2=>
bindO (pcD P pc 66 [(D.agg c_2)]) fun d_3=>
bindO (tupD d_3 0) fun d_4=>
bindO (tupD d_3 1) fun d_5=>
bindO (binD P BinOp.neq 33 (Operand.tmp 17) (Operand.const (Value.int IntKind.i64 0)) d_5 (D.v (Value.int IntKind.i64 0))) fun d_6=>
ifU d_6 (
some (D.tup [(D.v (Value.pointer none)),(D.v (Value.slice none 0 0)),d_5])) (
bindO (elsD v1) fun l_7=>
bindO (binD P BinOp.gtr 3 (Operand.tmp 21) (Operand.const (Value.int IntKind.i64 300)) (lenD l_7) (D.v (Value.int IntKind.i64 300))) fun d_8=>
ifU d_8 (
some (D.tup [(D.v (Value.pointer none)),(D.v (Value.slice none 0 0)),(D.v (Value.int IntKind.i64 3))])) (
nilA (AV.d d_4) (
bindO (kz d_4) fun c_9=>
bindO (cutD c_9 0 5) fun c_a=>
bindO (pcD P pc 82 [v1,(D.fn 78 [(D.agg c_a)] [])]) fun d_b=>
bindO (semD P d_b (Op.unary UnOp.not)) fun d_c=>
ifU d_c (
some (D.tup [(D.v (Value.pointer none)),(D.v (Value.slice none 0 0)),(D.v (Value.int IntKind.i64 2))])) (
bindO (elsD v1) fun l_d=>
bindO (natD (lenD l_d)) fun i_e=>
bindO (natD (lenD l_d)) fun i_f=>
chkK (Nat.ble i_e i_f && Nat.blt i_f 1048576) (
bindO (elsD v1) fun l_g=>
j1 d_4 v1 (lenD l_g) (D.v (Value.int IntKind.i64 0)) (List.replicate i_e (D.v (Value.int IntKind.u64 0))))))))
noncomputable def C57_0:=B57_0 pc k (Wy pc k k)
theorem h57_0(v0:D)(v1:D):cQ P pc noY rk LA (k+1) 57 [v0,v1]=C57_0 pc k v0 v1:=(bqA Go.Proofs.Tryz.f57 xV jv (by kernel_rfl)).trans (Eq.trans (b:=B57_0 pc k (T57_1 pc rk k k) v0 v1) (by kernel_rfl) (by rw[q57_1]; rfl))
noncomputable def KW:Code:=aJ 60
noncomputable def oV:List ResultVar:=bk 60
noncomputable def K60_prr:KA:=(bK (LvA.b (LvA.b (LA 60))).c (bx P pc noY rk (aq P pc noY rk 60 k) 60 (cR (cR (cR KW))) (LvA.b (LvA.b (LvA.b (LA 60)))) (aw P oV) X0A (aw P oV)))
noncomputable def qcv:KA:=(bK (LvA.b (LvA.b (LvA.b (LA 60)))).c (bx P pc noY rk (aq P pc noY rk 60 k) 60 (cR (cR (cR (cR KW)))) (LvA.b (LvA.b (LvA.b (LvA.b (LA 60))))) (aw P oV) X0A (aw P oV)))
noncomputable def Fj:(Nat→KA):=(upA 0 (qcv pc rk k) X0A)
noncomputable def K60_prrrlrl(m1:Nat):KA:=(bK (LvA.a (LvA.b (LvA.a (LvA.b (LvA.b (LvA.b (LA 60))))))).c (aq P pc noY rk 60 m1 (LvA.a (LvA.b (LvA.a (LvA.b (LvA.b (LvA.b (LA 60))))))) (cL (cR (cL (cR (cR (cR KW)))))) (qcv pc rk k) (Fj pc rk k) (aw P oV)))
noncomputable def T60_2(m1:Nat):=fun(u4:D) (c1:List D)=>labA (bx P pc noY rk (aq P pc noY rk 60 m1) 60 (cL (cL (cR (cL (cR (cR (cR KW))))))) (LvA.a (LvA.a (LvA.b (LvA.a (LvA.b (LvA.b (LvA.b (LA 60)))))))) (K60_prrrlrl pc rk k m1) (Fj pc rk k) (aw P oV)) (Tr.set (Tr.set Tr.nil 4 (some (AV.d u4))) 1 (some (AV.loc 1 0))) (Tr.set Tr.nil 1 (some (Bx.dat c1 false)))
noncomputable def R60_2(m1:Nat):(D→List D→Option D):=fun u4 c1=>labA (aq P pc noY rk 60 m1 (LvA.a (LvA.b (LvA.a (LvA.b (LvA.b (LvA.b (LA 60))))))) (cL (cR (cL (cR (cR (cR KW)))))) (qcv pc rk k) (Fj pc rk k) (aw P oV)) (Tr.set (Tr.set Tr.nil 4 (some (AV.d u4))) 1 (some (AV.loc 1 0))) (Tr.set Tr.nil 1 (some (Bx.dat c1 false)))
noncomputable def T60_1:=fun(u25:D) (c1:List D)=>labA (bx P pc noY rk (aq P pc noY rk 60 k) 60 (cR (cL (cR (cR KW)))) (LvA.b (LvA.a (LvA.b (LvA.b (LA 60))))) (K60_prr pc rk k) X0A (aw P oV)) (Tr.set (Tr.set Tr.nil 25 (some (AV.d u25))) 1 (some (AV.loc 1 0))) (Tr.set Tr.nil 1 (some (Bx.dat c1 false)))
noncomputable def B60_2(pc:PC)(k:Nat)(m1:Nat)(b2:(D→List D→Option D))(u4:D)(c1:List D):Option D:=
bindO (c1[4]?) fun d_9=>
bindO (elsD d_9) fun l_a=>
bindO (binD P BinOp.lss 3 (Operand.tmp 26) (Operand.tmp 29) u4 (lenD l_a)) fun d_b=>
ifU d_b (
bindO (c1[4]?) fun d_c=>
bindO (elsD d_c) fun l_d=>
bindO (idxD u4 l_d.length) fun i_e=>
bindO (l_d[i_e]?) fun d_f=>
chkK (bz d_f) (
bindO (pcD P pc 35 [d_f,(D.v (Value.int IntKind.i64 0)),(D.v (Value.int IntKind.i64 100))]) fun d_g=>
bindO (semD P d_g (Op.unary UnOp.not)) fun d_h=>
ifU d_h (
some (D.v (Value.int IntKind.i64 1))) (
bindO (binD P BinOp.add 3 (Operand.tmp 31) (Operand.const (Value.int IntKind.i64 1)) u4 (D.v (Value.int IntKind.i64 1))) fun d_i=>
b2 d_i c1))) (
some (D.v (Value.int IntKind.i64 0)))
noncomputable def C60_2(m1:Nat):=B60_2 pc k m1
noncomputable def S60_2:Nat→(D→List D→Option D):=recF (C60_2 pc k) (fun _ _=>none)
theorem h60_2(m1:Nat):T60_2 pc rk k m1=C60_2 pc k m1 (R60_2 pc rk k m1):=by kernel_rfl
theorem q60_2(m:Nat):T60_2 pc rk k m=S60_2 pc k m:=recS (h60_2 pc rk k) (by kernel_rfl) (fun m=>by kernel_rfl) m
noncomputable def B60_1(pc:PC)(k:Nat)(j2:(D→List D→Option D))(u25:D)(c1:List D):Option D:=
ifU u25 (
some (D.v (Value.int IntKind.i64 1))) (
j2 (D.v (Value.int IntKind.i64 0)) c1)
noncomputable def C60_1:=B60_1 pc k (S60_2 pc k k)
theorem h60_1:T60_1 pc rk k=C60_1 pc k:=Eq.trans (b:=B60_1 pc k (T60_2 pc rk k k)) (by kernel_rfl) (by rw[q60_2]; rfl)
noncomputable def B60_0(pc:PC)(k:Nat)(j1:(D→List D→Option D))(v0:D):Option D:=
bindO (aggD v0) fun c_1=>
bindO (cutD c_1 0 3) fun c_2=>
bindO (pcD P pc 87 [(D.agg c_2)]) fun d_3=>
bindO (binD P BinOp.neq 3 (Operand.tmp 8) (Operand.const (Value.int IntKind.i64 0)) d_3 (D.v (Value.int IntKind.i64 0))) fun d_4=>
ifU d_4 (
some d_3) (
bindO (cutD c_1 0 5) fun c_5=>
bindO (c_1[3]?) fun d_6=>
bindO (pcD P pc 88 [(D.agg c_5),d_6]) fun d_7=>
bindO (semD P d_7 (Op.unary UnOp.not)) fun d_8=>
ifU d_8 (
j1 (D.v (Value.bool true)) c_1) (
bindO (c_1[4]?) fun d_j=>
bindO (elsD d_j) fun l_k=>
bindO (c_1[0]?) fun d_l=>
bindO (elsD d_l) fun l_m=>
bindO (binD P BinOp.neq 3 (Operand.tmp 19) (Operand.tmp 23) (lenD l_k) (lenD l_m)) fun d_n=>
j1 d_n c_1))
noncomputable def C60_0:=B60_0 pc k (C60_1 pc k)
theorem h60_0(v0:D):cQ P pc noY rk LA (k+1) 60 [v0]=C60_0 pc k v0:=(bqA Go.Proofs.Tryz.f60 KW oV (by kernel_rfl)).trans (Eq.trans (b:=B60_0 pc k (T60_1 pc rk k) v0) (by kernel_rfl) (by rw[h60_1]; rfl))
noncomputable def code61:Code:=aJ 61
noncomputable def wJ:List ResultVar:=bk 61
noncomputable def K61_prr:KA:=(bK (LvA.b (LvA.b (LA 61))).c (bx P pc noY rk (aq P pc noY rk 61 k) 61 (cR (cR (cR code61))) (LvA.b (LvA.b (LvA.b (LA 61)))) (aw P wJ) X0A (aw P wJ)))
noncomputable def KX:(Nat→KA):=(upA 0 (K61_prr pc rk k) X0A)
noncomputable def K61_prrlrl(m1:Nat):KA:=(bK (LvA.a (LvA.b (LvA.a (LvA.b (LvA.b (LA 61)))))).c (aq P pc noY rk 61 m1 (LvA.a (LvA.b (LvA.a (LvA.b (LvA.b (LA 61)))))) (cL (cR (cL (cR (cR code61))))) (K61_prr pc rk k) (KX pc rk k) (aw P wJ)))
noncomputable def T61_1(m1:Nat):=fun(u1:D) (u5:D) (c2:List D)=>labA (bx P pc noY rk (aq P pc noY rk 61 m1) 61 (cL (cL (cR (cL (cR (cR code61)))))) (LvA.a (LvA.a (LvA.b (LvA.a (LvA.b (LvA.b (LA 61))))))) (K61_prrlrl pc rk k m1) (KX pc rk k) (aw P wJ)) (Tr.set (Tr.set (Tr.set Tr.nil 5 (some (AV.d u5))) 2 (some (AV.loc 2 0))) 1 (some (AV.d u1))) (Tr.set Tr.nil 2 (some (Bx.dat c2 false)))
noncomputable def R61_1(m1:Nat):(D→D→List D→Option D):=fun u1 u5 c2=>labA (aq P pc noY rk 61 m1 (LvA.a (LvA.b (LvA.a (LvA.b (LvA.b (LA 61)))))) (cL (cR (cL (cR (cR code61))))) (K61_prr pc rk k) (KX pc rk k) (aw P wJ)) (Tr.set (Tr.set (Tr.set Tr.nil 5 (some (AV.d u5))) 2 (some (AV.loc 2 0))) 1 (some (AV.d u1))) (Tr.set Tr.nil 2 (some (Bx.dat c2 false)))
noncomputable def B61_1(pc:PC)(k:Nat)(m1:Nat)(b1:(D→D→List D→Option D))(u1:D)(u5:D)(c2:List D):Option D:=
bindO (elsD u1) fun l_4=>
bindO (binD P BinOp.lss 3 (Operand.tmp 9) (Operand.tmp 11) u5 (lenD l_4)) fun d_5=>
ifU d_5 (
bindO (cutD c2 0 5) fun c_6=>
bindO (elsD u1) fun l_7=>
bindO (idxD u5 l_7.length) fun i_8=>
bindO (l_7[i_8]?) fun d_9=>
chkK (bz d_9) (
bindO (pcD P pc 88 [(D.agg c_6),d_9]) fun d_a=>
bindO (semD P d_a (Op.unary UnOp.not)) fun d_b=>
ifU d_b (
some (D.v (Value.int IntKind.i64 2))) (
bindO (binD P BinOp.add 3 (Operand.tmp 13) (Operand.const (Value.int IntKind.i64 1)) u5 (D.v (Value.int IntKind.i64 1))) fun d_c=>
b1 u1 d_c c2))) (
some (D.v (Value.int IntKind.i64 0)))
noncomputable def C61_1(m1:Nat):=B61_1 pc k m1
noncomputable def S61_1:Nat→(D→D→List D→Option D):=recF (C61_1 pc k) (fun _ _ _=>none)
theorem h61_1(m1:Nat):T61_1 pc rk k m1=C61_1 pc k m1 (R61_1 pc rk k m1):=by kernel_rfl
theorem q61_1(m:Nat):T61_1 pc rk k m=S61_1 pc k m:=recS (h61_1 pc rk k) (by kernel_rfl) (fun m=>by kernel_rfl) m
noncomputable def B61_0(pc:PC)(k:Nat)(j1:(D→D→List D→Option D))(v0:D)(v1:D):Option D:=
bindO (aggD v0) fun c_1=>
bindO (elsD v1) fun l_2=>
bindO (binD P BinOp.gtr 3 (Operand.tmp 7) (Operand.const (Value.int IntKind.i64 300)) (lenD l_2) (D.v (Value.int IntKind.i64 300))) fun d_3=>
ifU d_3 (
some (D.v (Value.int IntKind.i64 3))) (
j1 v1 (D.v (Value.int IntKind.i64 0)) c_1)
noncomputable def C61_0:=B61_0 pc k (S61_1 pc k k)
theorem h61_0(v0:D)(v1:D):cQ P pc noY rk LA (k+1) 61 [v0,v1]=C61_0 pc k v0 v1:=(bqA Go.Proofs.Tryz.f61 code61 wJ (by kernel_rfl)).trans (Eq.trans (b:=B61_0 pc k (T61_1 pc rk k k) v0 v1) (by kernel_rfl) (by rw[q61_1]; rfl))
noncomputable def tk:Code:=aJ 63
noncomputable def fQ:List ResultVar:=bk 63
noncomputable def tJ:KA:=(bK (LvA.b (LvA.b (LvA.b (LvA.b (LA 63))))).c (bx P pc noY rk (aq P pc noY rk 63 k) 63 (cR (cR (cR (cR (cR tk))))) (LvA.b (LvA.b (LvA.b (LvA.b (LvA.b (LA 63)))))) (aw P fQ) X0A (aw P fQ)))
noncomputable def mw:(Nat→KA):=(upA 0 (tJ pc rk k) X0A)
noncomputable def Cw(m1:Nat):KA:=(bK (LvA.a (LvA.b (LvA.a (LvA.b (LvA.b (LvA.b (LvA.b (LA 63)))))))).c (aq P pc noY rk 63 m1 (LvA.a (LvA.b (LvA.a (LvA.b (LvA.b (LvA.b (LvA.b (LA 63)))))))) (cL (cR (cL (cR (cR (cR (cR tk))))))) (tJ pc rk k) (mw pc rk k) (aw P fQ)))
noncomputable def T63_2:=fun(l36:List D)=>labA (bx P pc noY rk (aq P pc noY rk 63 k) 63 (cR (cR (cR (cR (cR tk))))) (LvA.b (LvA.b (LvA.b (LvA.b (LvA.b (LA 63)))))) (aw P fQ) X0A (aw P fQ)) (Tr.set Tr.nil 6 (some (AV.osl 36))) (Tr.set Tr.nil 36 (some (Bx.vec l36 3 1 false)))
noncomputable def T63_1(m1:Nat):=fun(u0:D) (u7:D) (u20:D) (u21:D) (u22:D) (g5_0:D) (l36:List D)=>labA (bx P pc noY rk (aq P pc noY rk 63 m1) 63 (cL (cL (cR (cL (cR (cR (cR (cR tk)))))))) (LvA.a (LvA.a (LvA.b (LvA.a (LvA.b (LvA.b (LvA.b (LvA.b (LA 63))))))))) (Cw pc rk k m1) (mw pc rk k) (aw P fQ)) (Tr.set (Tr.set (Tr.set (Tr.set (Tr.set (Tr.set (Tr.set Tr.nil 22 (some (AV.d u22))) 21 (some (AV.d u21))) 20 (some (AV.d u20))) 7 (some (AV.d u7))) 6 (some (AV.osl 36))) 5 (some (AV.loc 5 0))) 0 (some (AV.d u0))) (Tr.set (Tr.set Tr.nil 36 (some (Bx.vec l36 3 1 false))) 5 (some (Bx.dat [g5_0] false)))
noncomputable def R63_1(m1:Nat):(D→D→D→D→D→D→List D→Option D):=fun u0 u7 u20 u21 u22 g5_0 l36=>labA (aq P pc noY rk 63 m1 (LvA.a (LvA.b (LvA.a (LvA.b (LvA.b (LvA.b (LvA.b (LA 63)))))))) (cL (cR (cL (cR (cR (cR (cR tk))))))) (tJ pc rk k) (mw pc rk k) (aw P fQ)) (Tr.set (Tr.set (Tr.set (Tr.set (Tr.set (Tr.set (Tr.set Tr.nil 22 (some (AV.d u22))) 21 (some (AV.d u21))) 20 (some (AV.d u20))) 7 (some (AV.d u7))) 6 (some (AV.osl 36))) 5 (some (AV.loc 5 0))) 0 (some (AV.d u0))) (Tr.set (Tr.set Tr.nil 36 (some (Bx.vec l36 3 1 false))) 5 (some (Bx.dat [g5_0] false)))
noncomputable def B63_2(pc:PC)(k:Nat)(l36:List D):Option D:=
some (D.sl l36)
noncomputable def C63_2:=B63_2 pc k
theorem h63_2:T63_2 pc rk k=C63_2 pc k:=by kernel_rfl
noncomputable def B63_1(pc:PC)(k:Nat)(m1:Nat)(j2:(List D→Option D))(b1:(D→D→D→D→D→D→List D→Option D))(u0:D)(u7:D)(u20:D)(u21:D)(u22:D)(g5_0:D)(l36:List D):Option D:=
bindO (binD P BinOp.lss 3 (Operand.tmp 22) (Operand.tmp 21) u22 u21) fun d_6=>
ifU d_6 (
bindO (elsD u20) fun l_7=>
bindO (idxD u22 l_7.length) fun i_8=>
bindO (l_7[i_8]?) fun d_9=>
chkK (bz d_9) (
chkK (bz u22) (
bindO (binD P BinOp.eql 106 (Operand.tmp 27) (Operand.const (Value.int IntKind.u64 0)) u7 (D.v (Value.int IntKind.u64 0))) fun d_a=>
ifU d_a (
j2 l36) (
bindO (pcD P pc 84 [u7]) fun d_b=>
bindO (pcD P pc 90 [d_b,(D.fn 91 [] [(D.ref [g5_0]),(D.ref [u22])])]) fun d_c=>
chkK (bz d_c) (
bindO (appD l36 [d_c]) fun l_d=>
chkK (bz d_c) (
bindO (pcD P pc 83 [(D.sl [d_c])]) fun d_e=>
bindO (pcD P pc 85 [u0,d_e]) fun d_f=>
bindO (pcD P pc 86 [d_f,d_9]) fun d_g=>
bindO (binD P BinOp.add 3 (Operand.tmp 22) (Operand.const (Value.int IntKind.i64 1)) u22 (D.v (Value.int IntKind.i64 1))) fun d_h=>
b1 u0 d_g u20 u21 d_h g5_0 l_d)))))) (
j2 l36)
noncomputable def Wz(m1:Nat):=B63_1 pc k m1 (C63_2 pc k)
noncomputable def S63_1:Nat→(D→D→D→D→D→D→List D→Option D):=recF (Wz pc k) (fun _ _ _ _ _ _ _=>none)
theorem h63_1(m1:Nat):T63_1 pc rk k m1=Wz pc k m1 (R63_1 pc rk k m1):=Eq.trans (b:=B63_1 pc k m1 (T63_2 pc rk k) (R63_1 pc rk k m1)) (by kernel_rfl) (by rw[h63_2]; rfl)
theorem q63_1(m:Nat):T63_1 pc rk k m=S63_1 pc k m:=recS (h63_1 pc rk k) (by kernel_rfl) (fun m=>by kernel_rfl) m
noncomputable def B63_0(pc:PC)(k:Nat)(j1:(D→D→D→D→D→D→List D→Option D))(v0:D)(v1:D):Option D:=
bindO (pcD P pc 89 [v0,v1]) fun d_1=>
chkK (bz d_1) (
nilA (AV.d v0) (
bindO (kz v0) fun c_2=>
bindO ((List.drop 3 c_2)[0]?) fun d_3=>
bindO (pcD P pc 83 [d_3]) fun d_4=>
bindO (elsD v1) fun l_5=>
j1 v0 d_4 v1 (lenD l_5) (D.v (Value.int IntKind.i64 0)) d_1 []))
noncomputable def C63_0:=B63_0 pc k (S63_1 pc k k)
theorem h63_0(v0:D)(v1:D):cQ P pc noY rk LA (k+1) 63 [v0,v1]=C63_0 pc k v0 v1:=(bqA Go.Proofs.Tryz.f63 tk fQ (by kernel_rfl)).trans (Eq.trans (b:=B63_0 pc k (T63_1 pc rk k k) v0 v1) (by kernel_rfl) (by rw[q63_1]; rfl))
noncomputable def xX:Code:=aJ 64
noncomputable def jw:List ResultVar:=bk 64
noncomputable def Cx:KA:=(bK (LvA.b (LvA.b (LA 64))).c (bx P pc noY rk (aq P pc noY rk 64 k) 64 (cR (cR (cR xX))) (LvA.b (LvA.b (LvA.b (LA 64)))) (aw P jw) X0A (aw P jw)))
noncomputable def qz:(Nat→KA):=(upA 0 (Cx pc rk k) X0A)
noncomputable def KY(m1:Nat):KA:=(bK (LvA.a (LvA.b (LvA.a (LvA.b (LvA.b (LA 64)))))).c (aq P pc noY rk 64 m1 (LvA.a (LvA.b (LvA.a (LvA.b (LvA.b (LA 64)))))) (cL (cR (cL (cR (cR xX))))) (Cx pc rk k) (qz pc rk k) (aw P jw)))
noncomputable def T64_1(m1:Nat):=fun(u0:D) (u5:D) (u8:D) (u9:D) (u10:D)=>labA (bx P pc noY rk (aq P pc noY rk 64 m1) 64 (cL (cL (cR (cL (cR (cR xX)))))) (LvA.a (LvA.a (LvA.b (LvA.a (LvA.b (LvA.b (LA 64))))))) (KY pc rk k m1) (qz pc rk k) (aw P jw)) (Tr.set (Tr.set (Tr.set (Tr.set (Tr.set Tr.nil 10 (some (AV.d u10))) 9 (some (AV.d u9))) 8 (some (AV.d u8))) 5 (some (AV.d u5))) 0 (some (AV.d u0))) Tr.nil
noncomputable def R64_1(m1:Nat):(D→D→D→D→D→Option D):=fun u0 u5 u8 u9 u10=>labA (aq P pc noY rk 64 m1 (LvA.a (LvA.b (LvA.a (LvA.b (LvA.b (LA 64)))))) (cL (cR (cL (cR (cR xX))))) (Cx pc rk k) (qz pc rk k) (aw P jw)) (Tr.set (Tr.set (Tr.set (Tr.set (Tr.set Tr.nil 10 (some (AV.d u10))) 9 (some (AV.d u9))) 8 (some (AV.d u8))) 5 (some (AV.d u5))) 0 (some (AV.d u0))) Tr.nil
noncomputable def B64_1(pc:PC)(k:Nat)(m1:Nat)(b1:(D→D→D→D→D→Option D))(u0:D)(u5:D)(u8:D)(u9:D)(u10:D):Option D:=
bindO (binD P BinOp.lss 3 (Operand.tmp 10) (Operand.tmp 9) u10 u9) fun d_2=>
ifU d_2 (
bindO (elsD u8) fun l_3=>
bindO (idxD u10 l_3.length) fun i_4=>
bindO (l_3[i_4]?) fun d_5=>
chkK (bz d_5) (
nilA (AV.d u0) (
bindO (kz u0) fun c_6=>
bindO ((List.drop 4 c_6)[0]?) fun d_7=>
bindO (elsD d_7) fun l_8=>
bindO (idxD d_5 l_8.length) fun i_9=>
bindO (l_8[i_9]?) fun d_a=>
chkK (bz d_a) (
bindO (binD P BinOp.add 3 (Operand.tmp 14) (Operand.tmp 22) u5 d_a) fun d_b=>
bindO (binD P BinOp.add 3 (Operand.tmp 10) (Operand.const (Value.int IntKind.i64 1)) u10 (D.v (Value.int IntKind.i64 1))) fun d_c=>
b1 u0 d_b u8 u9 d_c)))) (
some u5)
noncomputable def Wk(m1:Nat):=B64_1 pc k m1
noncomputable def WJ:Nat→(D→D→D→D→D→Option D):=recF (Wk pc k) (fun _ _ _ _ _=>none)
theorem h64_1(m1:Nat):T64_1 pc rk k m1=Wk pc k m1 (R64_1 pc rk k m1):=by kernel_rfl
theorem q64_1(m:Nat):T64_1 pc rk k m=WJ pc k m:=recS (h64_1 pc rk k) (by kernel_rfl) (fun m=>by kernel_rfl) m
noncomputable def B64_0(pc:PC)(k:Nat)(j1:(D→D→D→D→D→Option D))(v0:D)(v1:D):Option D:=
bindO (elsD v1) fun l_1=>
j1 v0 (D.v (Value.int IntKind.i64 0)) v1 (lenD l_1) (D.v (Value.int IntKind.i64 0))
noncomputable def C64_0:=B64_0 pc k (WJ pc k k)
theorem h64_0(v0:D)(v1:D):cQ P pc noY rk LA (k+1) 64 [v0,v1]=C64_0 pc k v0 v1:=(bqA Go.Proofs.Tryz.f64 xX jw (by kernel_rfl)).trans (Eq.trans (b:=B64_0 pc k (T64_1 pc rk k k) v0 v1) (by kernel_rfl) (by rw[q64_1]; rfl))
noncomputable def Fq:Code:=aJ 65
noncomputable def oW:List ResultVar:=bk 65
noncomputable def qdx:KA:=(bK (LvA.b (LvA.b (LvA.b (LA 65)))).c (bx P pc noY rk (aq P pc noY rk 65 k) 65 (cR (cR (cR (cR Fq)))) (LvA.b (LvA.b (LvA.b (LvA.b (LA 65))))) (aw P oW) X0A (aw P oW)))
noncomputable def uk:(Nat→KA):=(upA 0 (qdx pc rk k) X0A)
noncomputable def K65_prrrlrl(m1:Nat):KA:=(bK (LvA.a (LvA.b (LvA.a (LvA.b (LvA.b (LvA.b (LA 65))))))).c (aq P pc noY rk 65 m1 (LvA.a (LvA.b (LvA.a (LvA.b (LvA.b (LvA.b (LA 65))))))) (cL (cR (cL (cR (cR (cR Fq)))))) (qdx pc rk k) (uk pc rk k) (aw P oW)))
noncomputable def K65_prrrlrllrr(m1:Nat):KA:=(bK (LvA.b (LvA.b (LvA.a (LvA.a (LvA.b (LvA.a (LvA.b (LvA.b (LvA.b (LA 65)))))))))).c (bx P pc noY rk (aq P pc noY rk 65 m1) 65 (cR (cR (cR (cL (cL (cR (cL (cR (cR (cR Fq)))))))))) (LvA.b (LvA.b (LvA.b (LvA.a (LvA.a (LvA.b (LvA.a (LvA.b (LvA.b (LvA.b (LA 65))))))))))) (K65_prrrlrl pc rk k m1) (uk pc rk k) (aw P oW)))
noncomputable def K65_pxrrrlrllrrl(m1:Nat):(Nat→KA):=(upA 1 (K65_prrrlrllrr pc rk k m1) (uk pc rk k))
noncomputable def K65_prrrlrllrrllr(m1:Nat):KA:=(bK (LvA.b (LvA.a (LvA.a (LvA.b (LvA.b (LvA.a (LvA.a (LvA.b (LvA.a (LvA.b (LvA.b (LvA.b (LA 65))))))))))))).c (bx P pc noY rk (aq P pc noY rk 65 m1) 65 (cR (cR (cL (cL (cR (cR (cL (cL (cR (cL (cR (cR (cR Fq))))))))))))) (LvA.b (LvA.b (LvA.a (LvA.a (LvA.b (LvA.b (LvA.a (LvA.a (LvA.b (LvA.a (LvA.b (LvA.b (LvA.b (LA 65)))))))))))))) (K65_prrrlrllrr pc rk k m1) (K65_pxrrrlrllrrl pc rk k m1) (aw P oW)))
noncomputable def T65_2(m1:Nat):=fun(u0:D) (u1:D) (u2:D) (u9:D) (u10:D) (u23:D) (u24:D) (u25:D) (u42:D)=>labA (bx P pc noY rk (aq P pc noY rk 65 m1) 65 (cR (cL (cR (cL (cL (cR (cR (cL (cL (cR (cL (cR (cR (cR Fq)))))))))))))) (LvA.b (LvA.a (LvA.b (LvA.a (LvA.a (LvA.b (LvA.b (LvA.a (LvA.a (LvA.b (LvA.a (LvA.b (LvA.b (LvA.b (LA 65))))))))))))))) (K65_prrrlrllrrllr pc rk k m1) (K65_pxrrrlrllrrl pc rk k m1) (aw P oW)) (Tr.set (Tr.set (Tr.set (Tr.set (Tr.set (Tr.set (Tr.set (Tr.set (Tr.set Tr.nil 42 (some (AV.d u42))) 25 (some (AV.d u25))) 24 (some (AV.d u24))) 23 (some (AV.d u23))) 10 (some (AV.d u10))) 9 (some (AV.d u9))) 2 (some (AV.d u2))) 1 (some (AV.d u1))) 0 (some (AV.d u0))) Tr.nil
noncomputable def T65_1(m1:Nat):=fun(u0:D) (u1:D) (u2:D) (u7:D) (u8:D) (u23:D) (u24:D) (u25:D)=>labA (bx P pc noY rk (aq P pc noY rk 65 m1) 65 (cL (cL (cR (cL (cR (cR (cR Fq))))))) (LvA.a (LvA.a (LvA.b (LvA.a (LvA.b (LvA.b (LvA.b (LA 65)))))))) (K65_prrrlrl pc rk k m1) (uk pc rk k) (aw P oW)) (Tr.set (Tr.set (Tr.set (Tr.set (Tr.set (Tr.set (Tr.set (Tr.set Tr.nil 25 (some (AV.d u25))) 24 (some (AV.d u24))) 23 (some (AV.d u23))) 8 (some (AV.d u8))) 7 (some (AV.d u7))) 2 (some (AV.d u2))) 1 (some (AV.d u1))) 0 (some (AV.d u0))) Tr.nil
noncomputable def R65_1(m1:Nat):(D→D→D→D→D→D→D→D→Option D):=fun u0 u1 u2 u7 u8 u23 u24 u25=>labA (aq P pc noY rk 65 m1 (LvA.a (LvA.b (LvA.a (LvA.b (LvA.b (LvA.b (LA 65))))))) (cL (cR (cL (cR (cR (cR Fq)))))) (qdx pc rk k) (uk pc rk k) (aw P oW)) (Tr.set (Tr.set (Tr.set (Tr.set (Tr.set (Tr.set (Tr.set (Tr.set Tr.nil 25 (some (AV.d u25))) 24 (some (AV.d u24))) 23 (some (AV.d u23))) 8 (some (AV.d u8))) 7 (some (AV.d u7))) 2 (some (AV.d u2))) 1 (some (AV.d u1))) 0 (some (AV.d u0))) Tr.nil
noncomputable def B65_2(pc:PC)(k:Nat)(m1:Nat)(b1:(D→D→D→D→D→D→D→D→Option D))(u0:D)(u1:D)(u2:D)(u9:D)(u10:D)(u23:D)(u24:D)(u25:D)(u42:D):Option D:=
ifU u42 (
some (D.v (Value.bool false))) (
chkK (bz u10) (
bindO (pcD P pc 83 [(D.sl [u10])]) fun d_g=>
bindO (pcD P pc 85 [u0,d_g]) fun d_h=>
bindO (elsD u1) fun l_i=>
bindO (idxD u9 l_i.length) fun i_j=>
bindO (l_i[i_j]?) fun d_k=>
chkK (bz d_k) (
bindO (elsD u1) fun l_l=>
bindO (idxD u9 l_l.length) fun i_m=>
bindO (l_l[i_m]?) fun d_n=>
chkK (bz d_n) (
bindO (pcD P pc 86 [d_h,d_k]) fun d_o=>
bindO (pcD P pc 95 [d_h,d_n]) fun d_p=>
bindO (binD P BinOp.add 3 (Operand.tmp 25) (Operand.const (Value.int IntKind.i64 1)) u25 (D.v (Value.int IntKind.i64 1))) fun d_q=>
b1 u0 u1 u2 d_o d_p u23 u24 d_q))))
noncomputable def C65_2(m1:Nat):=B65_2 pc k m1
theorem h65_2(m1:Nat):T65_2 pc rk k m1=C65_2 pc k m1 (R65_1 pc rk k m1):=by kernel_rfl
noncomputable def B65_1(pc:PC)(k:Nat)(m1:Nat)(j2:(D→D→D→D→D→D→D→D→D→Option D))(b1:(D→D→D→D→D→D→D→D→Option D))(u0:D)(u1:D)(u2:D)(u7:D)(u8:D)(u23:D)(u24:D)(u25:D):Option D:=
bindO (binD P BinOp.lss 3 (Operand.tmp 25) (Operand.tmp 24) u25 u24) fun d_8=>
ifU d_8 (
bindO (elsD u23) fun l_9=>
bindO (idxD u25 l_9.length) fun i_a=>
bindO (l_9[i_a]?) fun d_b=>
chkK (bz d_b) (
nilA (AV.d u0) (
bindO (kz u0) fun c_c=>
bindO (cutD c_c 0 5) fun c_d=>
bindO (pcD P pc 93 [(D.agg c_d),d_b]) fun d_e=>
bindO (semD P d_e (Op.unary UnOp.not)) fun d_f=>
ifU d_f (
j2 u0 u1 u2 u25 d_b u23 u24 u25 (D.v (Value.bool true))) (
bindO (pcD P pc 94 [u7,d_b]) fun d_r=>
bindO (semD P d_r (Op.unary UnOp.not)) fun d_s=>
j2 u0 u1 u2 u25 d_b u23 u24 u25 d_s)))) (
bindO (elsD u2) fun l_t=>
bindO (elsD u1) fun l_u=>
bindO (binD P BinOp.eql 3 (Operand.tmp 62) (Operand.tmp 64) (lenD l_t) (lenD l_u)) fun d_v=>
ifU d_v (
some (D.v (Value.bool true))) (
some u8))
noncomputable def C65_1(m1:Nat)(b1:(D→D→D→D→D→D→D→D→Option D)):=B65_1 pc k m1 (C65_2 pc k m1 b1) b1
noncomputable def S65_1:Nat→(D→D→D→D→D→D→D→D→Option D):=recF (C65_1 pc k) (fun _ _ _ _ _ _ _ _=>none)
theorem h65_1(m1:Nat):T65_1 pc rk k m1=C65_1 pc k m1 (R65_1 pc rk k m1):=Eq.trans (b:=B65_1 pc k m1 (T65_2 pc rk k m1) (R65_1 pc rk k m1)) (by kernel_rfl) (by rw[h65_2]; rfl)
theorem q65_1(m:Nat):T65_1 pc rk k m=S65_1 pc k m:=recS (h65_1 pc rk k) (by kernel_rfl) (fun m=>by kernel_rfl) m
noncomputable def B65_0(pc:PC)(k:Nat)(j1:(D→D→D→D→D→D→D→D→Option D))(v0:D)(v1:D)(v2:D):Option D:=
bindO (elsD v2) fun l_1=>
bindO (elsD v1) fun l_2=>
bindO (binD P BinOp.gtr 3 (Operand.tmp 13) (Operand.tmp 15) (lenD l_1) (lenD l_2)) fun d_3=>
ifU d_3 (
some (D.v (Value.bool false))) (
nilA (AV.d v0) (
bindO (kz v0) fun c_4=>
bindO ((List.drop 3 c_4)[0]?) fun d_5=>
bindO (pcD P pc 83 [d_5]) fun d_6=>
bindO (elsD v2) fun l_7=>
j1 v0 v1 v2 d_6 (D.v (Value.bool false)) v2 (lenD l_7) (D.v (Value.int IntKind.i64 0))))
noncomputable def C65_0:=B65_0 pc k (S65_1 pc k k)
theorem h65_0(v0:D)(v1:D)(v2:D):cQ P pc noY rk LA (k+1) 65 [v0,v1,v2]=C65_0 pc k v0 v1 v2:=(bqA Go.Proofs.Tryz.f65 Fq oW (by kernel_rfl)).trans (Eq.trans (b:=B65_0 pc k (T65_1 pc rk k k) v0 v1 v2) (by kernel_rfl) (by rw[q65_1]; rfl))
noncomputable def my:Code:=aJ 66
noncomputable def ew:List ResultVar:=bk 66
noncomputable def xY:KA:=(bK (LvA.b (LvA.b (LvA.b (LA 66)))).c (bx P pc noY rk (aq P pc noY rk 66 k) 66 (cR (cR (cR (cR my)))) (LvA.b (LvA.b (LvA.b (LvA.b (LA 66))))) (aw P ew) X0A (aw P ew)))
noncomputable def nX:(Nat→KA):=(upA 0 (xY pc rk k) X0A)
noncomputable def Fv(m1:Nat):KA:=(bK (LvA.a (LvA.b (LvA.a (LvA.b (LvA.b (LvA.b (LA 66))))))).c (aq P pc noY rk 66 m1 (LvA.a (LvA.b (LvA.a (LvA.b (LvA.b (LvA.b (LA 66))))))) (cL (cR (cL (cR (cR (cR my)))))) (xY pc rk k) (nX pc rk k) (aw P ew)))
noncomputable def tQ:KA:=(bK (LvA.b (LvA.b (LvA.b (LvA.b (LA 66))))).c (bx P pc noY rk (aq P pc noY rk 66 k) 66 (cR (cR (cR (cR (cR my))))) (LvA.b (LvA.b (LvA.b (LvA.b (LvA.b (LA 66)))))) (aw P ew) X0A (aw P ew)))
noncomputable def mz:(Nat→KA):=(upA 2 (tQ pc rk k) X0A)
noncomputable def Cy(m1:Nat):KA:=(bK (LvA.a (LvA.b (LvA.a (LvA.b (LvA.b (LvA.b (LvA.b (LA 66)))))))).c (aq P pc noY rk 66 m1 (LvA.a (LvA.b (LvA.a (LvA.b (LvA.b (LvA.b (LvA.b (LA 66)))))))) (cL (cR (cL (cR (cR (cR (cR my))))))) (tQ pc rk k) (mz pc rk k) (aw P ew)))
noncomputable def T66_2(m1:Nat):=fun(u40:D) (u41:D) (u42:D) (c16:List D)=>labA (bx P pc noY rk (aq P pc noY rk 66 m1) 66 (cL (cL (cR (cL (cR (cR (cR (cR my)))))))) (LvA.a (LvA.a (LvA.b (LvA.a (LvA.b (LvA.b (LvA.b (LvA.b (LA 66))))))))) (Cy pc rk k m1) (mz pc rk k) (aw P ew)) (Tr.set (Tr.set (Tr.set (Tr.set Tr.nil 42 (some (AV.d u42))) 41 (some (AV.d u41))) 40 (some (AV.d u40))) 5 (some (AV.loc 16 0))) (Tr.set Tr.nil 16 (some (Bx.dat c16 false)))
noncomputable def R66_2(m1:Nat):(D→D→D→List D→Option D):=fun u40 u41 u42 c16=>labA (aq P pc noY rk 66 m1 (LvA.a (LvA.b (LvA.a (LvA.b (LvA.b (LvA.b (LvA.b (LA 66)))))))) (cL (cR (cL (cR (cR (cR (cR my))))))) (tQ pc rk k) (mz pc rk k) (aw P ew)) (Tr.set (Tr.set (Tr.set (Tr.set Tr.nil 42 (some (AV.d u42))) 41 (some (AV.d u41))) 40 (some (AV.d u40))) 5 (some (AV.loc 16 0))) (Tr.set Tr.nil 16 (some (Bx.dat c16 false)))
noncomputable def T66_1(m1:Nat):=fun(u22:D) (u23:D) (c16:List D)=>labA (bx P pc noY rk (aq P pc noY rk 66 m1) 66 (cL (cL (cR (cL (cR (cR (cR my))))))) (LvA.a (LvA.a (LvA.b (LvA.a (LvA.b (LvA.b (LvA.b (LA 66)))))))) (Fv pc rk k m1) (nX pc rk k) (aw P ew)) (Tr.set (Tr.set (Tr.set Tr.nil 23 (some (AV.d u23))) 22 (some (AV.d u22))) 5 (some (AV.loc 16 0))) (Tr.set Tr.nil 16 (some (Bx.dat c16 false)))
noncomputable def R66_1(m1:Nat):(D→D→List D→Option D):=fun u22 u23 c16=>labA (aq P pc noY rk 66 m1 (LvA.a (LvA.b (LvA.a (LvA.b (LvA.b (LvA.b (LA 66))))))) (cL (cR (cL (cR (cR (cR my)))))) (xY pc rk k) (nX pc rk k) (aw P ew)) (Tr.set (Tr.set (Tr.set Tr.nil 23 (some (AV.d u23))) 22 (some (AV.d u22))) 5 (some (AV.loc 16 0))) (Tr.set Tr.nil 16 (some (Bx.dat c16 false)))
noncomputable def B66_2(pc:PC)(k:Nat)(m1:Nat)(b2:(D→D→D→List D→Option D))(u40:D)(u41:D)(u42:D)(c16:List D):Option D:=
bindO (binD P BinOp.lss 3 (Operand.tmp 42) (Operand.tmp 41) u42 u41) fun d_f=>
ifU d_f (
bindO (elsD u40) fun l_g=>
bindO (idxD u42 l_g.length) fun i_h=>
bindO (l_g[i_h]?) fun d_i=>
bindO (aggD d_i) fun c_j=>
chkK (Nat.beq c_j.length 2) (
bindO (cutD c_j 0 2) fun c_k=>
bindO (splD [(D.v (Value.int IntKind.i64 0)),(D.v (Value.int IntKind.i64 0))] 0 c_k 2) fun c_l=>
bindO (c_l[0]?) fun d_m=>
bindO (idxD d_m 8) fun i_n=>
bindO (c16[(5+i_n * 1)]?) fun d_o=>
bindO (c_l[1]?) fun d_p=>
chkK (bz d_p) (
bindO (pcD P pc 83 [(D.sl [d_p])]) fun d_q=>
bindO (binD P BinOp.or 106 (Operand.tmp 52) (Operand.tmp 56) d_o d_q) fun d_r=>
bindO (idxD d_m 8) fun i_s=>
chkK (bz d_r) (
chkK (Nat.blt (5+i_s * 1) c16.length) (
bindO (c_l[1]?) fun d_t=>
bindO (idxD d_t 8) fun i_u=>
bindO ((List.set c16 (5+i_s * 1) d_r)[(5+i_u * 1)]?) fun d_v=>
bindO (c_l[0]?) fun d_w=>
chkK (bz d_w) (
bindO (pcD P pc 83 [(D.sl [d_w])]) fun d_x=>
bindO (binD P BinOp.or 106 (Operand.tmp 67) (Operand.tmp 71) d_v d_x) fun d_y=>
bindO (idxD d_t 8) fun i_z=>
chkK (bz d_y) (
chkK (Nat.blt (5+i_z * 1) (List.set c16 (5+i_s * 1) d_r).length) (
bindO (binD P BinOp.add 3 (Operand.tmp 42) (Operand.const (Value.int IntKind.i64 1)) u42 (D.v (Value.int IntKind.i64 1))) fun d_10=>
b2 u40 u41 d_10 (List.set (List.set c16 (5+i_s * 1) d_r) (5+i_z * 1) d_y))))))))) (
some (D.tup [(D.ref c16),(D.v (Value.int IntKind.i64 0))]))
noncomputable def WQ(m1:Nat):=B66_2 pc k m1
noncomputable def WV:Nat→(D→D→D→List D→Option D):=recF (WQ pc k) (fun _ _ _ _=>none)
theorem h66_2(m1:Nat):T66_2 pc rk k m1=WQ pc k m1 (R66_2 pc rk k m1):=by kernel_rfl
theorem q66_2(m:Nat):T66_2 pc rk k m=WV pc k m:=recS (h66_2 pc rk k) (by kernel_rfl) (fun m=>by kernel_rfl) m
noncomputable def B66_1(pc:PC)(k:Nat)(m1:Nat)(j2:(D→D→D→List D→Option D))(b1:(D→D→List D→Option D))(u22:D)(u23:D)(c16:List D):Option D:=
bindO (binD P BinOp.lss 3 (Operand.tmp 23) (Operand.tmp 22) u23 u22) fun d_9=>
ifU d_9 (
chkK (bz u23) (
bindO (pcD P pc 83 [(D.sl [u23])]) fun d_a=>
bindO (idxD u23 8) fun i_b=>
chkK (bz d_a) (
chkK (Nat.blt (5+i_b * 1) c16.length) (
bindO (binD P BinOp.add 3 (Operand.tmp 23) (Operand.const (Value.int IntKind.i64 1)) u23 (D.v (Value.int IntKind.i64 1))) fun d_c=>
b1 u22 d_c (List.set c16 (5+i_b * 1) d_a))))) (
bindO (c16[1]?) fun d_d=>
bindO (elsD d_d) fun l_e=>
j2 d_d (lenD l_e) (D.v (Value.int IntKind.i64 0)) c16)
noncomputable def WW(m1:Nat):=B66_1 pc k m1 (WV pc k k)
noncomputable def WX:Nat→(D→D→List D→Option D):=recF (WW pc k) (fun _ _ _=>none)
theorem h66_1(m1:Nat):T66_1 pc rk k m1=WW pc k m1 (R66_1 pc rk k m1):=Eq.trans (b:=B66_1 pc k m1 (T66_2 pc rk k k) (R66_1 pc rk k m1)) (by kernel_rfl) (by rw[q66_2]; rfl)
theorem q66_1(m:Nat):T66_1 pc rk k m=WX pc k m:=recS (h66_1 pc rk k) (by kernel_rfl) (fun m=>by kernel_rfl) m
noncomputable def B66_0(pc:PC)(k:Nat)(j1:(D→D→List D→Option D))(v0:D):Option D:=
bindO (aggD v0) fun c_1=>
bindO (cutD c_1 0 5) fun c_2=>
bindO (pcD P pc 55 [(D.agg c_2)]) fun d_3=>
bindO (binD P BinOp.neq 33 (Operand.tmp 11) (Operand.const (Value.int IntKind.i64 0)) d_3 (D.v (Value.int IntKind.i64 0))) fun d_4=>
ifU d_4 (
some (D.tup [(D.v (Value.pointer none)),d_3])) (
bindO (cutD c_1 0 5) fun c_5=>
bindO (Kj [(D.v (Value.slice none 0 0)),(D.v (Value.slice none 0 0)),(D.v (Value.slice none 0 0)),(D.v (Value.slice none 0 0)),(D.v (Value.slice none 0 0)),(D.v (Value.int IntKind.u64 0)),(D.v (Value.int IntKind.u64 0)),(D.v (Value.int IntKind.u64 0)),(D.v (Value.int IntKind.u64 0)),(D.v (Value.int IntKind.u64 0)),(D.v (Value.int IntKind.u64 0)),(D.v (Value.int IntKind.u64 0)),(D.v (Value.int IntKind.u64 0))] [(0,5,(D.agg c_5))]) fun c_6=>
bindO (c_6[4]?) fun d_7=>
bindO (elsD d_7) fun l_8=>
j1 (lenD l_8) (D.v (Value.int IntKind.i64 0)) c_6)
noncomputable def C66_0:=B66_0 pc k (WX pc k k)
theorem h66_0(v0:D):cQ P pc noY rk LA (k+1) 66 [v0]=C66_0 pc k v0:=(bqA Go.Proofs.Tryz.f66 my ew (by kernel_rfl)).trans (Eq.trans (b:=B66_0 pc k (T66_1 pc rk k k) v0) (by kernel_rfl) (by rw[q66_1]; rfl))
noncomputable def KZ:Code:=aJ 75
noncomputable def rV:List ResultVar:=bk 75
noncomputable def K75_pr:KA:=(bK (LvA.b (LA 75)).c (bx P pc noY rk (aq P pc noY rk 75 k) 75 (cR (cR KZ)) (LvA.b (LvA.b (LA 75))) (aw P rV) X0A (aw P rV)))
noncomputable def Ak:(Nat→KA):=(upA 0 (K75_pr pc rk k) X0A)
noncomputable def K75_prlrl(m1:Nat):KA:=(bK (LvA.a (LvA.b (LvA.a (LvA.b (LA 75))))).c (aq P pc noY rk 75 m1 (LvA.a (LvA.b (LvA.a (LvA.b (LA 75))))) (cL (cR (cL (cR KZ)))) (K75_pr pc rk k) (Ak pc rk k) (aw P rV)))
noncomputable def K75_prlrllr(m1:Nat):KA:=(bK (LvA.b (LvA.a (LvA.a (LvA.b (LvA.a (LvA.b (LA 75))))))).c (bx P pc noY rk (aq P pc noY rk 75 m1) 75 (cR (cR (cL (cL (cR (cL (cR KZ))))))) (LvA.b (LvA.b (LvA.a (LvA.a (LvA.b (LvA.a (LvA.b (LA 75)))))))) (K75_prlrl pc rk k m1) (Ak pc rk k) (aw P rV)))
noncomputable def K75_pxrlrllrl(m1:Nat):(Nat→KA):=(upA 1 (K75_prlrllr pc rk k m1) (Ak pc rk k))
noncomputable def T75_2(m1:Nat):=fun(u1:D) (u2:D) (u7:D) (u42:D) (c3:List D)=>labA (bx P pc noY rk (aq P pc noY rk 75 m1) 75 (cR (cR (cL (cL (cR (cL (cL (cR (cL (cR KZ)))))))))) (LvA.b (LvA.b (LvA.a (LvA.a (LvA.b (LvA.a (LvA.a (LvA.b (LvA.a (LvA.b (LA 75))))))))))) (K75_prlrllr pc rk k m1) (K75_pxrlrllrl pc rk k m1) (aw P rV)) (Tr.set (Tr.set (Tr.set (Tr.set (Tr.set Tr.nil 42 (some (AV.d u42))) 7 (some (AV.d u7))) 3 (some (AV.loc 3 0))) 2 (some (AV.d u2))) 1 (some (AV.d u1))) (Tr.set Tr.nil 3 (some (Bx.dat c3 false)))
noncomputable def T75_1(m1:Nat):=fun(u1:D) (u2:D) (u7:D) (c3:List D)=>labA (bx P pc noY rk (aq P pc noY rk 75 m1) 75 (cL (cL (cR (cL (cR KZ))))) (LvA.a (LvA.a (LvA.b (LvA.a (LvA.b (LA 75)))))) (K75_prlrl pc rk k m1) (Ak pc rk k) (aw P rV)) (Tr.set (Tr.set (Tr.set (Tr.set Tr.nil 7 (some (AV.d u7))) 3 (some (AV.loc 3 0))) 2 (some (AV.d u2))) 1 (some (AV.d u1))) (Tr.set Tr.nil 3 (some (Bx.dat c3 false)))
noncomputable def R75_1(m1:Nat):(D→D→D→List D→Option D):=fun u1 u2 u7 c3=>labA (aq P pc noY rk 75 m1 (LvA.a (LvA.b (LvA.a (LvA.b (LA 75))))) (cL (cR (cL (cR KZ)))) (K75_pr pc rk k) (Ak pc rk k) (aw P rV)) (Tr.set (Tr.set (Tr.set (Tr.set Tr.nil 7 (some (AV.d u7))) 3 (some (AV.loc 3 0))) 2 (some (AV.d u2))) 1 (some (AV.d u1))) (Tr.set Tr.nil 3 (some (Bx.dat c3 false)))
noncomputable def B75_2(pc:PC)(k:Nat)(m1:Nat)(b1:(D→D→D→List D→Option D))(u1:D)(u2:D)(u7:D)(u42:D)(c3:List D):Option D:=
ifU u42 (
some (D.v (Value.bool true))) (
bindO (binD P BinOp.add 3 (Operand.tmp 14) (Operand.const (Value.int IntKind.i64 1)) u7 (D.v (Value.int IntKind.i64 1))) fun d_g=>
b1 u1 u2 d_g c3)
noncomputable def C75_2(m1:Nat):=B75_2 pc k m1
theorem h75_2(m1:Nat):T75_2 pc rk k m1=C75_2 pc k m1 (R75_1 pc rk k m1):=by kernel_rfl
noncomputable def B75_1(pc:PC)(k:Nat)(m1:Nat)(j2:(D→D→D→D→List D→Option D))(b1:(D→D→D→List D→Option D))(u1:D)(u2:D)(u7:D)(c3:List D):Option D:=
bindO (c3[1]?) fun d_2=>
bindO (elsD d_2) fun l_3=>
bindO (binD P BinOp.lss 3 (Operand.tmp 9) (Operand.tmp 12) u7 (lenD l_3)) fun d_4=>
ifU d_4 (
bindO (c3[1]?) fun d_5=>
bindO (elsD d_5) fun l_6=>
bindO (idxD u7 l_6.length) fun i_7=>
bindO (l_6[i_7]?) fun d_8=>
bindO (aggD d_8) fun c_9=>
chkK (Nat.beq c_9.length 2) (
bindO (cutD c_9 0 2) fun c_a=>
bindO (splD [(D.v (Value.int IntKind.i64 0)),(D.v (Value.int IntKind.i64 0))] 0 c_a 2) fun c_b=>
bindO (c_b[0]?) fun d_c=>
bindO (binD P BinOp.eql 3 (Operand.tmp 22) (Operand.tmp 23) d_c u1) fun d_d=>
ifU d_d (
bindO (c_b[1]?) fun d_e=>
bindO (binD P BinOp.eql 3 (Operand.tmp 27) (Operand.tmp 28) d_e u2) fun d_f=>
ifU d_f (
j2 u1 u2 u7 (D.v (Value.bool true)) c3) (
bindO (c_b[0]?) fun d_h=>
bindO (binD P BinOp.eql 3 (Operand.tmp 33) (Operand.tmp 34) d_h u2) fun d_i=>
ifU d_i (
bindO (c_b[1]?) fun d_j=>
bindO (binD P BinOp.eql 3 (Operand.tmp 38) (Operand.tmp 39) d_j u1) fun d_k=>
j2 u1 u2 u7 d_k c3) (
j2 u1 u2 u7 (D.v (Value.bool false)) c3))) (
bindO (c_b[0]?) fun d_l=>
bindO (binD P BinOp.eql 3 (Operand.tmp 33) (Operand.tmp 34) d_l u2) fun d_m=>
ifU d_m (
bindO (c_b[1]?) fun d_n=>
bindO (binD P BinOp.eql 3 (Operand.tmp 38) (Operand.tmp 39) d_n u1) fun d_o=>
j2 u1 u2 u7 d_o c3) (
j2 u1 u2 u7 (D.v (Value.bool false)) c3)))) (
some (D.v (Value.bool false)))
noncomputable def C75_1(m1:Nat)(b1:(D→D→D→List D→Option D)):=B75_1 pc k m1 (C75_2 pc k m1 b1) b1
noncomputable def S75_1:Nat→(D→D→D→List D→Option D):=recF (C75_1 pc k) (fun _ _ _ _=>none)
theorem h75_1(m1:Nat):T75_1 pc rk k m1=C75_1 pc k m1 (R75_1 pc rk k m1):=Eq.trans (b:=B75_1 pc k m1 (T75_2 pc rk k m1) (R75_1 pc rk k m1)) (by kernel_rfl) (by rw[h75_2]; rfl)
theorem q75_1(m:Nat):T75_1 pc rk k m=S75_1 pc k m:=recS (h75_1 pc rk k) (by kernel_rfl) (fun m=>by kernel_rfl) m
noncomputable def B75_0(pc:PC)(k:Nat)(j1:(D→D→D→List D→Option D))(v0:D)(v1:D)(v2:D):Option D:=
bindO (aggD v0) fun c_1=>
j1 v1 v2 (D.v (Value.int IntKind.i64 0)) c_1
noncomputable def C75_0:=B75_0 pc k (S75_1 pc k k)
theorem h75_0(v0:D)(v1:D)(v2:D):cQ P pc noY rk LA (k+1) 75 [v0,v1,v2]=C75_0 pc k v0 v1 v2:=(bqA Go.Proofs.Tryz.f75 KZ rV (by kernel_rfl)).trans (Eq.trans (b:=B75_0 pc k (T75_1 pc rk k k) v0 v1 v2) (by kernel_rfl) (by rw[q75_1]; rfl))
noncomputable def code77:Code:=aJ 77
noncomputable def Rz:List ResultVar:=bk 77
noncomputable def B77_0(pc:PC)(k:Nat)(v0:D):Option D:=
bindO (aggD v0) fun c_1=>
bindO (cutD c_1 0 3) fun c_2=>
bindO (pcD P pc 102 [(D.agg c_2)]) fun d_3=>
some d_3
noncomputable def C77_0:=B77_0 pc k
theorem h77_0(v0:D):cQ P pc noY rk LA (k+1) 77 [v0]=C77_0 pc k v0:=(bqA Go.Proofs.Tryz.f77 code77 Rz (by kernel_rfl)).trans (by kernel_rfl)
noncomputable def code78:Code:=aJ 78
noncomputable def Rk:List ResultVar:=bk 78
noncomputable def B78_0(pc:PC)(k:Nat)(v0:D)(v1:D):Option D:=
bindO (aggD v0) fun c_1=>
bindO (cutD c_1 0 5) fun c_2=>
bindO (pcD P pc 79 [v1,(D.fn 93 [(D.agg c_2)] [])]) fun d_3=>
ifU d_3 (
bindO (pcD P pc 103 [v1]) fun d_4=>
some d_4) (
some (D.v (Value.bool false)))
noncomputable def C78_0:=B78_0 pc k
theorem h78_0(v0:D)(v1:D):cQ P pc noY rk LA (k+1) 78 [v0,v1]=C78_0 pc k v0 v1:=(bqA Go.Proofs.Tryz.f78 code78 Rk (by kernel_rfl)).trans (by kernel_rfl)
noncomputable def xZ:Code:=aJ 79
noncomputable def jx:List ResultVar:=bk 79
noncomputable def Lj:KA:=(bK (LvA.b (LA 79)).c (bx P pc noY rk (aq P pc noY rk 79 k) 79 (cR (cR xZ)) (LvA.b (LvA.b (LA 79))) (aw P jx) X0A (aw P jx)))
noncomputable def tV:(Nat→KA):=(upA 0 (Lj pc rk k) X0A)
noncomputable def RJ(m1:Nat):KA:=(bK (LvA.a (LvA.b (LvA.a (LvA.b (LA 79))))).c (aq P pc noY rk 79 m1 (LvA.a (LvA.b (LvA.a (LvA.b (LA 79))))) (cL (cR (cL (cR xZ)))) (Lj pc rk k) (tV pc rk k) (aw P jx)))
noncomputable def T79_1(m1:Nat):=fun(u1:D) (u7:D) (u8:D) (u9:D)=>labA (bx P pc noY rk (aq P pc noY rk 79 m1) 79 (cL (cL (cR (cL (cR xZ))))) (LvA.a (LvA.a (LvA.b (LvA.a (LvA.b (LA 79)))))) (RJ pc rk k m1) (tV pc rk k) (aw P jx)) (Tr.set (Tr.set (Tr.set (Tr.set Tr.nil 9 (some (AV.d u9))) 8 (some (AV.d u8))) 7 (some (AV.d u7))) 1 (some (AV.d u1))) Tr.nil
noncomputable def R79_1(m1:Nat):(D→D→D→D→Option D):=fun u1 u7 u8 u9=>labA (aq P pc noY rk 79 m1 (LvA.a (LvA.b (LvA.a (LvA.b (LA 79))))) (cL (cR (cL (cR xZ)))) (Lj pc rk k) (tV pc rk k) (aw P jx)) (Tr.set (Tr.set (Tr.set (Tr.set Tr.nil 9 (some (AV.d u9))) 8 (some (AV.d u8))) 7 (some (AV.d u7))) 1 (some (AV.d u1))) Tr.nil
noncomputable def B79_1(pc:PC)(k:Nat)(m1:Nat)(b1:(D→D→D→D→Option D))(u1:D)(u7:D)(u8:D)(u9:D):Option D:=
bindO (binD P BinOp.lss 3 (Operand.tmp 9) (Operand.tmp 8) u9 u8) fun d_2=>
ifU d_2 (
bindO (elsD u7) fun l_3=>
bindO (idxD u9 l_3.length) fun i_4=>
bindO (l_3[i_4]?) fun d_5=>
chkK (bz d_5) (
fnK u1 fun g a b=>
bindO (pcD P pc g (a++[d_5]++b)) fun d_6=>
bindO (semD P d_6 (Op.unary UnOp.not)) fun d_7=>
ifU d_7 (
some (D.v (Value.bool false))) (
bindO (binD P BinOp.add 3 (Operand.tmp 9) (Operand.const (Value.int IntKind.i64 1)) u9 (D.v (Value.int IntKind.i64 1))) fun d_8=>
b1 u1 u7 u8 d_8))) (
some (D.v (Value.bool true)))
noncomputable def WY(m1:Nat):=B79_1 pc k m1
noncomputable def WZ:Nat→(D→D→D→D→Option D):=recF (WY pc k) (fun _ _ _ _=>none)
theorem h79_1(m1:Nat):T79_1 pc rk k m1=WY pc k m1 (R79_1 pc rk k m1):=by kernel_rfl
theorem q79_1(m:Nat):T79_1 pc rk k m=WZ pc k m:=recS (h79_1 pc rk k) (by kernel_rfl) (fun m=>by kernel_rfl) m
noncomputable def B79_0(pc:PC)(k:Nat)(j1:(D→D→D→D→Option D))(v0:D)(v1:D):Option D:=
bindO (elsD v0) fun l_1=>
j1 v1 v0 (lenD l_1) (D.v (Value.int IntKind.i64 0))
noncomputable def C79_0:=B79_0 pc k (WZ pc k k)
theorem h79_0(v0:D)(v1:D):cQ P pc noY rk LA (k+1) 79 [v0,v1]=C79_0 pc k v0 v1:=(bqA Go.Proofs.Tryz.f79 xZ jx (by kernel_rfl)).trans (Eq.trans (b:=B79_0 pc k (T79_1 pc rk k k) v0 v1) (by kernel_rfl) (by rw[q79_1]; rfl))
noncomputable def code80:Code:=aJ 80
noncomputable def RQ:List ResultVar:=bk 80
noncomputable def B80_0(pc:PC)(k:Nat)(v0:D):Option D:=
bindO (binD P BinOp.geq 3 (Operand.tmp 3) (Operand.const (Value.int IntKind.i64 0)) v0 (D.v (Value.int IntKind.i64 0))) fun d_1=>
ifU d_1 (
bindO (binD P BinOp.leq 3 (Operand.tmp 6) (Operand.const (Value.int IntKind.i64 100)) v0 (D.v (Value.int IntKind.i64 100))) fun d_2=>
some d_2) (
some (D.v (Value.bool false)))
noncomputable def C80_0:=B80_0 pc k
theorem h80_0(v0:D):cQ P pc noY rk LA (k+1) 80 [v0]=C80_0 pc k v0:=(bqA Go.Proofs.Tryz.f80 code80 RQ (by kernel_rfl)).trans (by kernel_rfl)
noncomputable def code81:Code:=aJ 81
noncomputable def results81:List ResultVar:=bk 81
noncomputable def B81_0(pc:PC)(k:Nat)(v0:D):Option D:=
bindO (aggD v0) fun c_1=>
bindO (c_1[0]?) fun d_2=>
bindO (c_1[1]?) fun d_3=>
chkK (bz d_2) (
chkK (bz d_3) (
some (D.agg [d_2,d_3])))
noncomputable def C81_0:=B81_0 pc k
theorem h81_0(v0:D):cQ P pc noY rk LA (k+1) 81 [v0]=C81_0 pc k v0:=(bqA Go.Proofs.Tryz.f81 code81 results81 (by kernel_rfl)).trans (by kernel_rfl)
noncomputable def xK:Code:=aJ 82
noncomputable def jy:List ResultVar:=bk 82
noncomputable def Lq:KA:=(bK (LvA.b (LA 82)).c (bx P pc noY rk (aq P pc noY rk 82 k) 82 (cR (cR xK)) (LvA.b (LvA.b (LA 82))) (aw P jy) X0A (aw P jy)))
noncomputable def tW:(Nat→KA):=(upA 0 (Lq pc rk k) X0A)
noncomputable def RV(m1:Nat):KA:=(bK (LvA.a (LvA.b (LvA.a (LvA.b (LA 82))))).c (aq P pc noY rk 82 m1 (LvA.a (LvA.b (LvA.a (LvA.b (LA 82))))) (cL (cR (cL (cR xK)))) (Lq pc rk k) (tW pc rk k) (aw P jy)))
noncomputable def T82_1(m1:Nat):=fun(u1:D) (u7:D) (u8:D) (u9:D)=>labA (bx P pc noY rk (aq P pc noY rk 82 m1) 82 (cL (cL (cR (cL (cR xK))))) (LvA.a (LvA.a (LvA.b (LvA.a (LvA.b (LA 82)))))) (RV pc rk k m1) (tW pc rk k) (aw P jy)) (Tr.set (Tr.set (Tr.set (Tr.set Tr.nil 9 (some (AV.d u9))) 8 (some (AV.d u8))) 7 (some (AV.d u7))) 1 (some (AV.d u1))) Tr.nil
noncomputable def R82_1(m1:Nat):(D→D→D→D→Option D):=fun u1 u7 u8 u9=>labA (aq P pc noY rk 82 m1 (LvA.a (LvA.b (LvA.a (LvA.b (LA 82))))) (cL (cR (cL (cR xK)))) (Lq pc rk k) (tW pc rk k) (aw P jy)) (Tr.set (Tr.set (Tr.set (Tr.set Tr.nil 9 (some (AV.d u9))) 8 (some (AV.d u8))) 7 (some (AV.d u7))) 1 (some (AV.d u1))) Tr.nil
noncomputable def B82_1(pc:PC)(k:Nat)(m1:Nat)(b1:(D→D→D→D→Option D))(u1:D)(u7:D)(u8:D)(u9:D):Option D:=
bindO (binD P BinOp.lss 3 (Operand.tmp 9) (Operand.tmp 8) u9 u8) fun d_2=>
ifU d_2 (
bindO (elsD u7) fun l_3=>
bindO (idxD u9 l_3.length) fun i_4=>
bindO (l_3[i_4]?) fun d_5=>
chkK (bz d_5) (
fnK u1 fun g a b=>
bindO (pcD P pc g (a++[d_5]++b)) fun d_6=>
bindO (semD P d_6 (Op.unary UnOp.not)) fun d_7=>
ifU d_7 (
some (D.v (Value.bool false))) (
bindO (binD P BinOp.add 3 (Operand.tmp 9) (Operand.const (Value.int IntKind.i64 1)) u9 (D.v (Value.int IntKind.i64 1))) fun d_8=>
b1 u1 u7 u8 d_8))) (
some (D.v (Value.bool true)))
noncomputable def WK(m1:Nat):=B82_1 pc k m1
noncomputable def Xj:Nat→(D→D→D→D→Option D):=recF (WK pc k) (fun _ _ _ _=>none)
theorem h82_1(m1:Nat):T82_1 pc rk k m1=WK pc k m1 (R82_1 pc rk k m1):=by kernel_rfl
theorem q82_1(m:Nat):T82_1 pc rk k m=Xj pc k m:=recS (h82_1 pc rk k) (by kernel_rfl) (fun m=>by kernel_rfl) m
noncomputable def B82_0(pc:PC)(k:Nat)(j1:(D→D→D→D→Option D))(v0:D)(v1:D):Option D:=
bindO (elsD v0) fun l_1=>
j1 v1 v0 (lenD l_1) (D.v (Value.int IntKind.i64 0))
noncomputable def C82_0:=B82_0 pc k (Xj pc k k)
theorem h82_0(v0:D)(v1:D):cQ P pc noY rk LA (k+1) 82 [v0,v1]=C82_0 pc k v0 v1:=(bqA Go.Proofs.Tryz.f82 xK jy (by kernel_rfl)).trans (Eq.trans (b:=B82_0 pc k (T82_1 pc rk k k) v0 v1) (by kernel_rfl) (by rw[q82_1]; rfl))
noncomputable def yj:Code:=aJ 83
noncomputable def jz:List ResultVar:=bk 83
noncomputable def Cz:KA:=(bK (LvA.b (LvA.b (LA 83))).c (bx P pc noY rk (aq P pc noY rk 83 k) 83 (cR (cR (cR yj))) (LvA.b (LvA.b (LvA.b (LA 83)))) (aw P jz) X0A (aw P jz)))
noncomputable def qk:(Nat→KA):=(upA 0 (Cz pc rk k) X0A)
noncomputable def Lw(m1:Nat):KA:=(bK (LvA.a (LvA.b (LvA.a (LvA.b (LvA.b (LA 83)))))).c (aq P pc noY rk 83 m1 (LvA.a (LvA.b (LvA.a (LvA.b (LvA.b (LA 83)))))) (cL (cR (cL (cR (cR yj))))) (Cz pc rk k) (qk pc rk k) (aw P jz)))
noncomputable def T83_1(m1:Nat):=fun(u3:D) (u6:D) (u7:D) (u8:D)=>labA (bx P pc noY rk (aq P pc noY rk 83 m1) 83 (cL (cL (cR (cL (cR (cR yj)))))) (LvA.a (LvA.a (LvA.b (LvA.a (LvA.b (LvA.b (LA 83))))))) (Lw pc rk k m1) (qk pc rk k) (aw P jz)) (Tr.set (Tr.set (Tr.set (Tr.set Tr.nil 8 (some (AV.d u8))) 7 (some (AV.d u7))) 6 (some (AV.d u6))) 3 (some (AV.d u3))) Tr.nil
noncomputable def R83_1(m1:Nat):(D→D→D→D→Option D):=fun u3 u6 u7 u8=>labA (aq P pc noY rk 83 m1 (LvA.a (LvA.b (LvA.a (LvA.b (LvA.b (LA 83)))))) (cL (cR (cL (cR (cR yj))))) (Cz pc rk k) (qk pc rk k) (aw P jz)) (Tr.set (Tr.set (Tr.set (Tr.set Tr.nil 8 (some (AV.d u8))) 7 (some (AV.d u7))) 6 (some (AV.d u6))) 3 (some (AV.d u3))) Tr.nil
noncomputable def B83_1(pc:PC)(k:Nat)(m1:Nat)(b1:(D→D→D→D→Option D))(u3:D)(u6:D)(u7:D)(u8:D):Option D:=
bindO (binD P BinOp.lss 3 (Operand.tmp 8) (Operand.tmp 7) u8 u7) fun d_2=>
ifU d_2 (
bindO (elsD u6) fun l_3=>
bindO (idxD u8 l_3.length) fun i_4=>
bindO (l_3[i_4]?) fun d_5=>
chkK (bz d_5) (
bindO (binD P BinOp.shl 106 (Operand.const (Value.int IntKind.u64 1)) (Operand.tmp 13) (D.v (Value.int IntKind.u64 1)) d_5) fun d_6=>
bindO (binD P BinOp.or 106 (Operand.tmp 12) (Operand.tmp 14) u3 d_6) fun d_7=>
bindO (binD P BinOp.add 3 (Operand.tmp 8) (Operand.const (Value.int IntKind.i64 1)) u8 (D.v (Value.int IntKind.i64 1))) fun d_8=>
b1 d_7 u6 u7 d_8)) (
some u3)
noncomputable def Xq(m1:Nat):=B83_1 pc k m1
noncomputable def Xv:Nat→(D→D→D→D→Option D):=recF (Xq pc k) (fun _ _ _ _=>none)
theorem h83_1(m1:Nat):T83_1 pc rk k m1=Xq pc k m1 (R83_1 pc rk k m1):=by kernel_rfl
theorem q83_1(m:Nat):T83_1 pc rk k m=Xv pc k m:=recS (h83_1 pc rk k) (by kernel_rfl) (fun m=>by kernel_rfl) m
noncomputable def B83_0(pc:PC)(k:Nat)(j1:(D→D→D→D→Option D))(v0:D):Option D:=
bindO (elsD v0) fun l_1=>
j1 (D.v (Value.int IntKind.u64 0)) v0 (lenD l_1) (D.v (Value.int IntKind.i64 0))
noncomputable def C83_0:=B83_0 pc k (Xv pc k k)
theorem h83_0(v0:D):cQ P pc noY rk LA (k+1) 83 [v0]=C83_0 pc k v0:=(bqA Go.Proofs.Tryz.f83 yj jz (by kernel_rfl)).trans (Eq.trans (b:=B83_0 pc k (T83_1 pc rk k k) v0) (by kernel_rfl) (by rw[q83_1]; rfl))
noncomputable def tX:Code:=aJ 84
noncomputable def gX:List ResultVar:=bk 84
noncomputable def Ck:KA:=(bK (LvA.b (LvA.b (LA 84))).c (bx P pc noY rk (aq P pc noY rk 84 k) 84 (cR (cR (cR tX))) (LvA.b (LvA.b (LvA.b (LA 84)))) (aw P gX) X0A (aw P gX)))
noncomputable def mJ:(Nat→KA):=(upA 0 (Ck pc rk k) X0A)
noncomputable def yq(m1:Nat):KA:=(bK (LvA.a (LvA.b (LvA.a (LvA.b (LvA.b (LA 84)))))).c (aq P pc noY rk 84 m1 (LvA.a (LvA.b (LvA.a (LvA.b (LvA.b (LA 84)))))) (cL (cR (cL (cR (cR tX))))) (Ck pc rk k) (mJ pc rk k) (aw P gX)))
noncomputable def T84_2(m1:Nat):=fun(u0:D) (u5:D) (l14:List D)=>labA (bx P pc noY rk (aq P pc noY rk 84 m1) 84 (cR (cR (cR (cL (cL (cR (cL (cR (cR tX))))))))) (LvA.b (LvA.b (LvA.b (LvA.a (LvA.a (LvA.b (LvA.a (LvA.b (LvA.b (LA 84)))))))))) (yq pc rk k m1) (mJ pc rk k) (aw P gX)) (Tr.set (Tr.set (Tr.set Tr.nil 5 (some (AV.d u5))) 3 (some (AV.osl 14))) 0 (some (AV.d u0))) (Tr.set Tr.nil 14 (some (Bx.vec l14 3 1 false)))
noncomputable def T84_1(m1:Nat):=fun(u0:D) (u5:D) (l14:List D)=>labA (bx P pc noY rk (aq P pc noY rk 84 m1) 84 (cL (cL (cR (cL (cR (cR tX)))))) (LvA.a (LvA.a (LvA.b (LvA.a (LvA.b (LvA.b (LA 84))))))) (yq pc rk k m1) (mJ pc rk k) (aw P gX)) (Tr.set (Tr.set (Tr.set Tr.nil 5 (some (AV.d u5))) 3 (some (AV.osl 14))) 0 (some (AV.d u0))) (Tr.set Tr.nil 14 (some (Bx.vec l14 3 1 false)))
noncomputable def R84_1(m1:Nat):(D→D→List D→Option D):=fun u0 u5 l14=>labA (aq P pc noY rk 84 m1 (LvA.a (LvA.b (LvA.a (LvA.b (LvA.b (LA 84)))))) (cL (cR (cL (cR (cR tX))))) (Ck pc rk k) (mJ pc rk k) (aw P gX)) (Tr.set (Tr.set (Tr.set Tr.nil 5 (some (AV.d u5))) 3 (some (AV.osl 14))) 0 (some (AV.d u0))) (Tr.set Tr.nil 14 (some (Bx.vec l14 3 1 false)))
noncomputable def B84_2(pc:PC)(k:Nat)(m1:Nat)(b1:(D→D→List D→Option D))(u0:D)(u5:D)(l14:List D):Option D:=
bindO (binD P BinOp.add 3 (Operand.tmp 5) (Operand.const (Value.int IntKind.i64 1)) u5 (D.v (Value.int IntKind.i64 1))) fun d_4=>
b1 u0 d_4 l14
noncomputable def C84_2(m1:Nat):=B84_2 pc k m1
theorem h84_2(m1:Nat):T84_2 pc rk k m1=C84_2 pc k m1 (R84_1 pc rk k m1):=by kernel_rfl
noncomputable def B84_1(pc:PC)(k:Nat)(m1:Nat)(j2:(D→D→List D→Option D))(b1:(D→D→List D→Option D))(u0:D)(u5:D)(l14:List D):Option D:=
bindO (binD P BinOp.lss 3 (Operand.tmp 5) (Operand.const (Value.int IntKind.i64 8)) u5 (D.v (Value.int IntKind.i64 8))) fun d_1=>
ifU d_1 (
bindO (pcD P pc 94 [u0,u5]) fun d_2=>
ifU d_2 (
chkK (bz u5) (
bindO (appD l14 [u5]) fun l_3=>
j2 u0 u5 l_3)) (
j2 u0 u5 l14)) (
some (D.sl l14))
noncomputable def Xw(m1:Nat)(b1:(D→D→List D→Option D)):=B84_1 pc k m1 (C84_2 pc k m1 b1) b1
noncomputable def Xx:Nat→(D→D→List D→Option D):=recF (Xw pc k) (fun _ _ _=>none)
theorem h84_1(m1:Nat):T84_1 pc rk k m1=Xw pc k m1 (R84_1 pc rk k m1):=Eq.trans (b:=B84_1 pc k m1 (T84_2 pc rk k m1) (R84_1 pc rk k m1)) (by kernel_rfl) (by rw[h84_2]; rfl)
theorem q84_1(m:Nat):T84_1 pc rk k m=Xx pc k m:=recS (h84_1 pc rk k) (by kernel_rfl) (fun m=>by kernel_rfl) m
noncomputable def B84_0(pc:PC)(k:Nat)(j1:(D→D→List D→Option D))(v0:D):Option D:=
j1 v0 (D.v (Value.int IntKind.i64 0)) []
noncomputable def C84_0:=B84_0 pc k (Xx pc k k)
theorem h84_0(v0:D):cQ P pc noY rk LA (k+1) 84 [v0]=C84_0 pc k v0:=(bqA Go.Proofs.Tryz.f84 tX gX (by kernel_rfl)).trans (Eq.trans (b:=B84_0 pc k (T84_1 pc rk k k) v0) (by kernel_rfl) (by rw[q84_1]; rfl))
noncomputable def vy:Code:=aJ 85
noncomputable def AJ:List ResultVar:=bk 85
noncomputable def K85_prr(pc rg pc1:PC)(rk1:List Nat→RK)(k:Nat):KA:=(bK (LvA.b (LvA.b (LA 85))).c (bx P pc noY (gz P rg pc1 rk1 (k+1) []) (aq P pc noY (gz P rg pc1 rk1 (k+1) []) 85 k) 85 (cR (cR (cR vy))) (LvA.b (LvA.b (LvA.b (LA 85)))) (aw P AJ) X0A (aw P AJ)))
noncomputable def K85_pxrrlr(pc rg pc1:PC)(rk1:List Nat→RK)(k:Nat):(Nat→KA):=(upA 0 (K85_prr pc rg pc1 rk1 k) X0A)
noncomputable def Xy(pc rg pc1:PC)(rk1:List Nat→RK)(k:Nat)(m1:List (List D)):KA:=fun _ G=>Qw (cfB P pc1 (rk1 ((dq (cR (cL (cR (cL (cR (cR vy)))))))::[])) (k+1) 85) (LvA.a (LvA.b (LvA.a (LvA.b (LvA.b (LA 85)))))) (ntm P 85) (rPs (cL (cR (cL (cR (cR vy)))))) (cL (cL (cR (cL (cR (cR vy)))))) (cR (cL (cR (cL (cR (cR vy)))))) (dq (cR (cL (cR (cL (cR (cR vy))))))) (K85_prr pc rg pc1 rk1 k) (K85_pxrrlr pc rg pc1 rk1 k) (aw P AJ) m1 G
noncomputable def R85_2(pc rg pc1:PC)(rk1:List Nat→RK)(k:Nat)(m1:List (List D)):(D→D→Option D):=fun g5_0 e1_9=>labA (Xy pc rg pc1 rk1 k m1) Tr.nil (Tr.set (Tr.set Tr.nil 1000001 (some (Bx.env [(5,(AV.loc 5 0)),(9,(AV.d e1_9))]))) 5 (some (Bx.dat [g5_0] false)))
noncomputable def T85_1(pc rg pc1:PC)(rk1:List Nat→RK)(k:Nat):=fun(u9:D) (g5_0:D)=>labA (fun A G=>getK (opdA (rX (cL (cR (cL (cR (cR vy)))))) A) fun a=>(gz P rg pc1 rk1 (k+1) []) (LvA.a (LvA.b (LvA.a (LvA.b (LvA.b (LA 85)))))) 85 a (rPs (cL (cR (cL (cR (cR vy)))))) (cL (cL (cR (cL (cR (cR vy)))))) (cR (cL (cR (cL (cR (cR vy)))))) (K85_prr pc rg pc1 rk1 k) (K85_pxrrlr pc rg pc1 rk1 k) (aw P AJ) A G) (Tr.set (Tr.set Tr.nil 9 (some (AV.d u9))) 5 (some (AV.loc 5 0))) (Tr.set Tr.nil 5 (some (Bx.dat [g5_0] false)))
noncomputable def BN85_2(pc rg pc1:PC)(k:Nat)(g5_0:D)(e1_9:D):Option D:=
some g5_0
noncomputable def CN85_2(pc rg pc1:PC)(k:Nat)(g5_0:D)(e1_9:D):Option D:=BN85_2 pc rg pc1 k g5_0 e1_9
noncomputable def B85_2(pc rg pc1:PC)(k:Nat)(m1:List (List D))(b2:(D→D→Option D))(y:List D)(g5_0:D)(e1_9:D):Option D:=
par1 y (fun z1_0=>
chkK (bz z1_0) (
bindO (pcD P pc1 83 [(D.sl [z1_0])]) fun d_2=>
bindO (binD P BinOp.or 106 (Operand.tmp 11) (Operand.tmp 14) g5_0 d_2) fun d_3=>
chkK (bz d_3) (
b2 d_3 e1_9)))
noncomputable def C85_2(pc rg pc1:PC)(k:Nat)(m1:List (List D)):=B85_2 pc rg pc1 k m1
noncomputable def Xz(pc rg pc1:PC)(k:Nat):List (List D)→(D→D→Option D):=fun ys=>List.rec (motive:=fun _=>(D→D→Option D)) (CN85_2 pc rg pc1 k) (fun y ys ih=>C85_2 pc rg pc1 k ys ih y) ys
theorem hN85_2(pc rg pc1:PC)(rk1:List Nat→RK)(k:Nat)(g5_0:D)(e1_9:D):labA (Xy pc rg pc1 rk1 k []) Tr.nil (Tr.set (Tr.set Tr.nil 1000001 (some (Bx.env [(5,(AV.loc 5 0)),(9,(AV.d e1_9))]))) 5 (some (Bx.dat [g5_0] false)))=CN85_2 pc rg pc1 k g5_0 e1_9:=by
 have h:labA (Xy pc rg pc1 rk1 k []) Tr.nil (Tr.set (Tr.set Tr.nil 1000001 (some (Bx.env [(5,(AV.loc 5 0)),(9,(AV.d e1_9))]))) 5 (some (Bx.dat [g5_0] false)))=BN85_2 pc rg pc1 k g5_0 e1_9:=by kernel_rfl
 rw[h,CN85_2]
theorem h85_2(pc rg pc1:PC)(rk1:List Nat→RK)(k:Nat)(m1:List (List D))(y:List D)(g5_0:D)(e1_9:D):labA (Xy pc rg pc1 rk1 k (y::m1)) Tr.nil (Tr.set (Tr.set Tr.nil 1000001 (some (Bx.env [(5,(AV.loc 5 0)),(9,(AV.d e1_9))]))) 5 (some (Bx.dat [g5_0] false)))=C85_2 pc rg pc1 k m1 (R85_2 pc rg pc1 rk1 k m1) y g5_0 e1_9:=by kernel_rfl
theorem q85_2(pc rg pc1:PC)(rk1:List Nat→RK)(k:Nat):∀(ys:List (List D)) (g5_0:D) (e1_9:D),labA (Xy pc rg pc1 rk1 k ys) Tr.nil (Tr.set (Tr.set Tr.nil 1000001 (some (Bx.env [(5,(AV.loc 5 0)),(9,(AV.d e1_9))]))) 5 (some (Bx.dat [g5_0] false)))=Xz pc rg pc1 k ys g5_0 e1_9
 | [],g5_0,e1_9=>by
  rw[hN85_2]; rfl
 | y::ys,g5_0,e1_9=>by
  rw[h85_2]
  have e:R85_2 pc rg pc1 rk1 k ys=Xz pc rg pc1 k ys:=by
   funext g5_0 e1_9
   have e:R85_2 pc rg pc1 rk1 k ys g5_0 e1_9=labA (Xy pc rg pc1 rk1 k ys) Tr.nil (Tr.set (Tr.set Tr.nil 1000001 (some (Bx.env [(5,(AV.loc 5 0)),(9,(AV.d e1_9))]))) 5 (some (Bx.dat [g5_0] false))):=rfl
   rw[e]; exact q85_2 ..
  rw[e]; rfl
noncomputable def B85_1(pc rg pc1:PC)(k:Nat)(j2:(List (List D)→(D→D→Option D)))(u9:D)(g5_0:D):Option D:=
fnK u9 fun g a b=>
chkK (BJ P g && !memN [] (dq (cR (cL (cR (cL (cR (cR vy)))))))) (
YQ (fun l=>rg g (a++D.yld l::b)) fun ys=>
j2 ys g5_0 u9)
noncomputable def C85_1(pc rg pc1:PC)(k:Nat):=B85_1 pc rg pc1 k (Xz pc rg pc1 k)
theorem h85_1(pc rg pc1:PC)(rk1:List Nat→RK)(k:Nat)(u9:D)(g5_0:D):T85_1 pc rg pc1 rk1 k u9 g5_0=C85_1 pc rg pc1 k u9 g5_0:=by
 have h:T85_1 pc rg pc1 rk1 k u9 g5_0=B85_1 pc rg pc1 k (fun ys_ g5_0 e1_9=>labA (Xy pc rg pc1 rk1 k ys_) Tr.nil (Tr.set (Tr.set Tr.nil 1000001 (some (Bx.env [(5,(AV.loc 5 0)),(9,(AV.d e1_9))]))) 5 (some (Bx.dat [g5_0] false)))) u9 g5_0:=by kernel_rfl
 rw[h,C85_1]
 have e2:(fun ys_ g5_0 e1_9=>labA (Xy pc rg pc1 rk1 k ys_) Tr.nil (Tr.set (Tr.set Tr.nil 1000001 (some (Bx.env [(5,(AV.loc 5 0)),(9,(AV.d e1_9))]))) 5 (some (Bx.dat [g5_0] false))))=(Xz pc rg pc1 k):=by funext ys_ g5_0 e1_9; exact q85_2 ..
 rw[e2]
theorem f85_1(pc rg pc1:PC)(rk1:List Nat→RK)(k:Nat):T85_1 pc rg pc1 rk1 k=C85_1 pc rg pc1 k:=by funext u9 g5_0; exact h85_1 ..
noncomputable def B85_0(pc rg pc1:PC)(k:Nat)(j1:(D→D→Option D))(v0:D)(v1:D):Option D:=
bindO (pcD P pc 104 [v0,v1]) fun d_1=>
j1 d_1 (D.v (Value.int IntKind.u64 0))
noncomputable def C85_0(pc rg pc1:PC)(k:Nat):=B85_0 pc rg pc1 k (C85_1 pc rg pc1 k)
theorem h85_0(pc rg pc1:PC)(rk1:List Nat→RK)(k:Nat)(v0:D)(v1:D):cQ P pc noY (gz P rg pc1 rk1 (k+1) []) LA (k+1) 85 [v0,v1]=C85_0 pc rg pc1 k v0 v1:=(bqA Go.Proofs.Tryz.f85 vy AJ (by kernel_rfl)).trans (Eq.trans (b:=B85_0 pc rg pc1 k (T85_1 pc rg pc1 rk1 k) v0 v1) (by kernel_rfl) (by rw[f85_1]; rfl))
noncomputable def code86:Code:=aJ 86
noncomputable def RW:List ResultVar:=bk 86
noncomputable def B86_0(pc:PC)(k:Nat)(v0:D)(v1:D):Option D:=
bindO (binD P BinOp.andNot 106 (Operand.tmp 5) (Operand.tmp 6) v0 v1) fun d_1=>
some d_1
noncomputable def C86_0:=B86_0 pc k
theorem h86_0(v0:D)(v1:D):cQ P pc noY rk LA (k+1) 86 [v0,v1]=C86_0 pc k v0 v1:=(bqA Go.Proofs.Tryz.f86 code86 RW (by kernel_rfl)).trans (by kernel_rfl)
noncomputable def gY:Code:=aJ 87
noncomputable def cY:List ResultVar:=bk 87
noncomputable def K87_pr:KA:=(bK (LvA.b (LA 87)).c (bx P pc noY rk (aq P pc noY rk 87 k) 87 (cR (cR gY)) (LvA.b (LvA.b (LA 87))) (aw P cY) X0A (aw P cY)))
noncomputable def K87_prr:KA:=(bK (LvA.b (LvA.b (LA 87))).c (bx P pc noY rk (aq P pc noY rk 87 k) 87 (cR (cR (cR gY))) (LvA.b (LvA.b (LvA.b (LA 87)))) (aw P cY) X0A (aw P cY)))
noncomputable def qev:KA:=(bK (LvA.b (LvA.b (LvA.b (LA 87)))).c (bx P pc noY rk (aq P pc noY rk 87 k) 87 (cR (cR (cR (cR gY)))) (LvA.b (LvA.b (LvA.b (LvA.b (LA 87))))) (aw P cY) X0A (aw P cY)))
noncomputable def Fw:(Nat→KA):=(upA 0 (qev pc rk k) X0A)
noncomputable def K87_prrrlrl(m1:Nat):KA:=(bK (LvA.a (LvA.b (LvA.a (LvA.b (LvA.b (LvA.b (LA 87))))))).c (aq P pc noY rk 87 m1 (LvA.a (LvA.b (LvA.a (LvA.b (LvA.b (LvA.b (LA 87))))))) (cL (cR (cL (cR (cR (cR gY)))))) (qev pc rk k) (Fw pc rk k) (aw P cY)))
noncomputable def RX:KA:=(bK (LvA.b (LvA.b (LvA.b (LvA.b (LA 87))))).c (bx P pc noY rk (aq P pc noY rk 87 k) 87 (cR (cR (cR (cR (cR gY))))) (LvA.b (LvA.b (LvA.b (LvA.b (LvA.b (LA 87)))))) (aw P cY) X0A (aw P cY)))
noncomputable def sx:(Nat→KA):=(upA 2 (RX pc rk k) X0A)
noncomputable def K87_prrrrlrl(m1:Nat):KA:=(bK (LvA.a (LvA.b (LvA.a (LvA.b (LvA.b (LvA.b (LvA.b (LA 87)))))))).c (aq P pc noY rk 87 m1 (LvA.a (LvA.b (LvA.a (LvA.b (LvA.b (LvA.b (LvA.b (LA 87)))))))) (cL (cR (cL (cR (cR (cR (cR gY))))))) (RX pc rk k) (sx pc rk k) (aw P cY)))
noncomputable def K87_prrrrlrllr(m1:Nat):KA:=(bK (LvA.b (LvA.a (LvA.a (LvA.b (LvA.a (LvA.b (LvA.b (LvA.b (LvA.b (LA 87)))))))))).c (bx P pc noY rk (aq P pc noY rk 87 m1) 87 (cR (cR (cL (cL (cR (cL (cR (cR (cR (cR gY)))))))))) (LvA.b (LvA.b (LvA.a (LvA.a (LvA.b (LvA.a (LvA.b (LvA.b (LvA.b (LvA.b (LA 87))))))))))) (K87_prrrrlrl pc rk k m1) (sx pc rk k) (aw P cY)))
noncomputable def K87_pxrrrrlrllrl(m1:Nat):(Nat→KA):=(upA 3 (K87_prrrrlrllr pc rk k m1) (sx pc rk k))
noncomputable def Lx:KA:=(bK (LvA.b (LvA.b (LvA.b (LvA.b (LvA.b (LA 87)))))).c (bx P pc noY rk (aq P pc noY rk 87 k) 87 (cR (cR (cR (cR (cR (cR gY)))))) (LvA.b (LvA.b (LvA.b (LvA.b (LvA.b (LvA.b (LA 87))))))) (aw P cY) X0A (aw P cY)))
noncomputable def pV:(Nat→KA):=(upA 4 (Lx pc rk k) X0A)
noncomputable def K87_prrrrrlrl(m1:Nat):KA:=(bK (LvA.a (LvA.b (LvA.a (LvA.b (LvA.b (LvA.b (LvA.b (LvA.b (LA 87))))))))).c (aq P pc noY rk 87 m1 (LvA.a (LvA.b (LvA.a (LvA.b (LvA.b (LvA.b (LvA.b (LvA.b (LA 87))))))))) (cL (cR (cL (cR (cR (cR (cR (cR gY)))))))) (Lx pc rk k) (pV pc rk k) (aw P cY)))
noncomputable def mY(m1:Nat):KA:=(bK (LvA.b (LvA.a (LvA.a (LvA.b (LvA.a (LvA.b (LvA.b (LvA.b (LvA.b (LvA.b (LA 87))))))))))).c (bx P pc noY rk (aq P pc noY rk 87 m1) 87 (cR (cR (cL (cL (cR (cL (cR (cR (cR (cR (cR gY))))))))))) (LvA.b (LvA.b (LvA.a (LvA.a (LvA.b (LvA.a (LvA.b (LvA.b (LvA.b (LvA.b (LvA.b (LA 87)))))))))))) (K87_prrrrrlrl pc rk k m1) (pV pc rk k) (aw P cY)))
noncomputable def sy(m1:Nat):(Nat→KA):=(upA 5 (mY pc rk k m1) (pV pc rk k))
noncomputable def K87_prrrrrlrllrllr(m1:Nat):KA:=(bK (LvA.b (LvA.a (LvA.a (LvA.b (LvA.a (LvA.a (LvA.b (LvA.a (LvA.b (LvA.b (LvA.b (LvA.b (LvA.b (LA 87)))))))))))))).c (bx P pc noY rk (aq P pc noY rk 87 m1) 87 (cR (cR (cL (cL (cR (cL (cL (cR (cL (cR (cR (cR (cR (cR gY)))))))))))))) (LvA.b (LvA.b (LvA.a (LvA.a (LvA.b (LvA.a (LvA.a (LvA.b (LvA.a (LvA.b (LvA.b (LvA.b (LvA.b (LvA.b (LA 87))))))))))))))) (mY pc rk k m1) (sy pc rk k m1) (aw P cY)))
noncomputable def gV(m1:Nat):(Nat→KA):=(upA 6 (mY pc rk k m1) (sy pc rk k m1))
noncomputable def K87_prrrrrlrllrllrrrl(m1:Nat)(m2:Nat):KA:=(bK (LvA.a (LvA.b (LvA.b (LvA.b (LvA.a (LvA.a (LvA.b (LvA.a (LvA.a (LvA.b (LvA.a (LvA.b (LvA.b (LvA.b (LvA.b (LvA.b (LA 87))))))))))))))))).c (aq P pc noY rk 87 m2 (LvA.a (LvA.b (LvA.b (LvA.b (LvA.a (LvA.a (LvA.b (LvA.a (LvA.a (LvA.b (LvA.a (LvA.b (LvA.b (LvA.b (LvA.b (LvA.b (LA 87))))))))))))))))) (cL (cR (cR (cR (cL (cL (cR (cL (cL (cR (cL (cR (cR (cR (cR (cR gY)))))))))))))))) (mY pc rk k m1) (gV pc rk k m1) (aw P cY)))
noncomputable def K87_prrrrrlrllrllrrrllr(m1:Nat)(m2:Nat):KA:=(bK (LvA.b (LvA.a (LvA.a (LvA.b (LvA.b (LvA.b (LvA.a (LvA.a (LvA.b (LvA.a (LvA.a (LvA.b (LvA.a (LvA.b (LvA.b (LvA.b (LvA.b (LvA.b (LA 87))))))))))))))))))).c (bx P pc noY rk (aq P pc noY rk 87 m2) 87 (cR (cR (cL (cL (cR (cR (cR (cL (cL (cR (cL (cL (cR (cL (cR (cR (cR (cR (cR gY))))))))))))))))))) (LvA.b (LvA.b (LvA.a (LvA.a (LvA.b (LvA.b (LvA.b (LvA.a (LvA.a (LvA.b (LvA.a (LvA.a (LvA.b (LvA.a (LvA.b (LvA.b (LvA.b (LvA.b (LvA.b (LA 87)))))))))))))))))))) (K87_prrrrrlrllrllrrrl pc rk k m1 m2) (gV pc rk k m1) (aw P cY)))
noncomputable def K87_pxrrrrrlrllrllrrrllrl(m1:Nat)(m2:Nat):(Nat→KA):=(upA 7 (K87_prrrrrlrllrllrrrllr pc rk k m1 m2) (gV pc rk k m1))
noncomputable def T87_5(m1:Nat):=fun(u4:D) (u92:D) (c1:List D)=>labA (bx P pc noY rk (aq P pc noY rk 87 m1) 87 (cR (cR (cL (cL (cR (cL (cL (cR (cL (cR (cR (cR (cR gY))))))))))))) (LvA.b (LvA.b (LvA.a (LvA.a (LvA.b (LvA.a (LvA.a (LvA.b (LvA.a (LvA.b (LvA.b (LvA.b (LvA.b (LA 87)))))))))))))) (K87_prrrrlrllr pc rk k m1) (K87_pxrrrrlrllrl pc rk k m1) (aw P cY)) (Tr.set (Tr.set (Tr.set Tr.nil 92 (some (AV.d u92))) 4 (some (AV.d u4))) 1 (some (AV.loc 1 0))) (Tr.set Tr.nil 1 (some (Bx.dat c1 false)))
noncomputable def T87_9(m1:Nat)(m2:Nat):=fun(u6:D) (u8:D) (u156:D) (c1:List D) (c7:List D)=>labA (bx P pc noY rk (aq P pc noY rk 87 m2) 87 (cR (cR (cL (cL (cR (cL (cL (cR (cR (cR (cL (cL (cR (cL (cL (cR (cL (cR (cR (cR (cR (cR gY)))))))))))))))))))))) (LvA.b (LvA.b (LvA.a (LvA.a (LvA.b (LvA.a (LvA.a (LvA.b (LvA.b (LvA.b (LvA.a (LvA.a (LvA.b (LvA.a (LvA.a (LvA.b (LvA.a (LvA.b (LvA.b (LvA.b (LvA.b (LvA.b (LA 87))))))))))))))))))))))) (K87_prrrrrlrllrllrrrllr pc rk k m1 m2) (K87_pxrrrrrlrllrllrrrllrl pc rk k m1 m2) (aw P cY)) (Tr.set (Tr.set (Tr.set (Tr.set (Tr.set Tr.nil 156 (some (AV.d u156))) 8 (some (AV.d u8))) 7 (some (AV.loc 7 0))) 6 (some (AV.d u6))) 1 (some (AV.loc 1 0))) (Tr.set (Tr.set Tr.nil 7 (some (Bx.dat c7 false))) 1 (some (Bx.dat c1 false)))
noncomputable def T87_8(m1:Nat)(m2:Nat):=fun(u6:D) (u8:D) (c1:List D) (c7:List D)=>labA (bx P pc noY rk (aq P pc noY rk 87 m2) 87 (cL (cL (cR (cR (cR (cL (cL (cR (cL (cL (cR (cL (cR (cR (cR (cR (cR gY))))))))))))))))) (LvA.a (LvA.a (LvA.b (LvA.b (LvA.b (LvA.a (LvA.a (LvA.b (LvA.a (LvA.a (LvA.b (LvA.a (LvA.b (LvA.b (LvA.b (LvA.b (LvA.b (LA 87)))))))))))))))))) (K87_prrrrrlrllrllrrrl pc rk k m1 m2) (gV pc rk k m1) (aw P cY)) (Tr.set (Tr.set (Tr.set (Tr.set Tr.nil 8 (some (AV.d u8))) 7 (some (AV.loc 7 0))) 6 (some (AV.d u6))) 1 (some (AV.loc 1 0))) (Tr.set (Tr.set Tr.nil 7 (some (Bx.dat c7 false))) 1 (some (Bx.dat c1 false)))
noncomputable def R87_8(m1:Nat)(m2:Nat):(D→D→List D→List D→Option D):=fun u6 u8 c1 c7=>labA (aq P pc noY rk 87 m2 (LvA.a (LvA.b (LvA.b (LvA.b (LvA.a (LvA.a (LvA.b (LvA.a (LvA.a (LvA.b (LvA.a (LvA.b (LvA.b (LvA.b (LvA.b (LvA.b (LA 87))))))))))))))))) (cL (cR (cR (cR (cL (cL (cR (cL (cL (cR (cL (cR (cR (cR (cR (cR gY)))))))))))))))) (mY pc rk k m1) (gV pc rk k m1) (aw P cY)) (Tr.set (Tr.set (Tr.set (Tr.set Tr.nil 8 (some (AV.d u8))) 7 (some (AV.loc 7 0))) 6 (some (AV.d u6))) 1 (some (AV.loc 1 0))) (Tr.set (Tr.set Tr.nil 7 (some (Bx.dat c7 false))) 1 (some (Bx.dat c1 false)))
noncomputable def T87_7(m1:Nat):=fun(u6:D) (u129:D) (c1:List D) (c7:List D)=>labA (bx P pc noY rk (aq P pc noY rk 87 m1) 87 (cR (cL (cR (cL (cL (cR (cL (cL (cR (cL (cR (cR (cR (cR (cR gY))))))))))))))) (LvA.b (LvA.a (LvA.b (LvA.a (LvA.a (LvA.b (LvA.a (LvA.a (LvA.b (LvA.a (LvA.b (LvA.b (LvA.b (LvA.b (LvA.b (LA 87)))))))))))))))) (K87_prrrrrlrllrllr pc rk k m1) (sy pc rk k m1) (aw P cY)) (Tr.set (Tr.set (Tr.set (Tr.set Tr.nil 129 (some (AV.d u129))) 7 (some (AV.loc 7 0))) 6 (some (AV.d u6))) 1 (some (AV.loc 1 0))) (Tr.set (Tr.set Tr.nil 7 (some (Bx.dat c7 false))) 1 (some (Bx.dat c1 false)))
noncomputable def T87_6(m1:Nat):=fun(u6:D) (c1:List D)=>labA (bx P pc noY rk (aq P pc noY rk 87 m1) 87 (cL (cL (cR (cL (cR (cR (cR (cR (cR gY))))))))) (LvA.a (LvA.a (LvA.b (LvA.a (LvA.b (LvA.b (LvA.b (LvA.b (LvA.b (LA 87)))))))))) (K87_prrrrrlrl pc rk k m1) (pV pc rk k) (aw P cY)) (Tr.set (Tr.set Tr.nil 6 (some (AV.d u6))) 1 (some (AV.loc 1 0))) (Tr.set Tr.nil 1 (some (Bx.dat c1 false)))
noncomputable def Xk(m1:Nat):(D→List D→Option D):=fun u6 c1=>labA (aq P pc noY rk 87 m1 (LvA.a (LvA.b (LvA.a (LvA.b (LvA.b (LvA.b (LvA.b (LvA.b (LA 87))))))))) (cL (cR (cL (cR (cR (cR (cR (cR gY)))))))) (Lx pc rk k) (pV pc rk k) (aw P cY)) (Tr.set (Tr.set Tr.nil 6 (some (AV.d u6))) 1 (some (AV.loc 1 0))) (Tr.set Tr.nil 1 (some (Bx.dat c1 false)))
noncomputable def T87_4(m1:Nat):=fun(u4:D) (c1:List D)=>labA (bx P pc noY rk (aq P pc noY rk 87 m1) 87 (cL (cL (cR (cL (cR (cR (cR (cR gY)))))))) (LvA.a (LvA.a (LvA.b (LvA.a (LvA.b (LvA.b (LvA.b (LvA.b (LA 87))))))))) (K87_prrrrlrl pc rk k m1) (sx pc rk k) (aw P cY)) (Tr.set (Tr.set Tr.nil 4 (some (AV.d u4))) 1 (some (AV.loc 1 0))) (Tr.set Tr.nil 1 (some (Bx.dat c1 false)))
noncomputable def R87_4(m1:Nat):(D→List D→Option D):=fun u4 c1=>labA (aq P pc noY rk 87 m1 (LvA.a (LvA.b (LvA.a (LvA.b (LvA.b (LvA.b (LvA.b (LA 87)))))))) (cL (cR (cL (cR (cR (cR (cR gY))))))) (RX pc rk k) (sx pc rk k) (aw P cY)) (Tr.set (Tr.set Tr.nil 4 (some (AV.d u4))) 1 (some (AV.loc 1 0))) (Tr.set Tr.nil 1 (some (Bx.dat c1 false)))
noncomputable def T87_3(m1:Nat):=fun(u3:D) (c1:List D)=>labA (bx P pc noY rk (aq P pc noY rk 87 m1) 87 (cL (cL (cR (cL (cR (cR (cR gY))))))) (LvA.a (LvA.a (LvA.b (LvA.a (LvA.b (LvA.b (LvA.b (LA 87)))))))) (K87_prrrlrl pc rk k m1) (Fw pc rk k) (aw P cY)) (Tr.set (Tr.set Tr.nil 3 (some (AV.d u3))) 1 (some (AV.loc 1 0))) (Tr.set Tr.nil 1 (some (Bx.dat c1 false)))
noncomputable def R87_3(m1:Nat):(D→List D→Option D):=fun u3 c1=>labA (aq P pc noY rk 87 m1 (LvA.a (LvA.b (LvA.a (LvA.b (LvA.b (LvA.b (LA 87))))))) (cL (cR (cL (cR (cR (cR gY)))))) (qev pc rk k) (Fw pc rk k) (aw P cY)) (Tr.set (Tr.set Tr.nil 3 (some (AV.d u3))) 1 (some (AV.loc 1 0))) (Tr.set Tr.nil 1 (some (Bx.dat c1 false)))
noncomputable def T87_2:=fun(u35:D) (c1:List D)=>labA (bx P pc noY rk (aq P pc noY rk 87 k) 87 (cR (cL (cR (cR gY)))) (LvA.b (LvA.a (LvA.b (LvA.b (LA 87))))) (K87_prr pc rk k) X0A (aw P cY)) (Tr.set (Tr.set Tr.nil 35 (some (AV.d u35))) 1 (some (AV.loc 1 0))) (Tr.set Tr.nil 1 (some (Bx.dat c1 false)))
noncomputable def T87_1:=fun(u25:D) (c1:List D)=>labA (bx P pc noY rk (aq P pc noY rk 87 k) 87 (cR (cL (cR gY))) (LvA.b (LvA.a (LvA.b (LA 87)))) (K87_pr pc rk k) X0A (aw P cY)) (Tr.set (Tr.set Tr.nil 25 (some (AV.d u25))) 1 (some (AV.loc 1 0))) (Tr.set Tr.nil 1 (some (Bx.dat c1 false)))
noncomputable def B87_5(pc:PC)(k:Nat)(m1:Nat)(b4:(D→List D→Option D))(u4:D)(u92:D)(c1:List D):Option D:=
ifU u92 (
some (D.v (Value.int IntKind.i64 1))) (
bindO (binD P BinOp.add 3 (Operand.tmp 62) (Operand.const (Value.int IntKind.i64 1)) u4 (D.v (Value.int IntKind.i64 1))) fun d_13=>
b4 d_13 c1)
noncomputable def C87_5(m1:Nat):=B87_5 pc k m1
theorem h87_5(m1:Nat):T87_5 pc rk k m1=C87_5 pc k m1 (R87_4 pc rk k m1):=by kernel_rfl
noncomputable def B87_9(pc:PC)(k:Nat)(m1:Nat)(m2:Nat)(b6:(D→List D→Option D))(b8:(D→D→List D→List D→Option D))(u6:D)(u8:D)(u156:D)(c1:List D)(c7:List D):Option D:=
ifU u156 (
some (D.v (Value.int IntKind.i64 1))) (
bindO (binD P BinOp.add 3 (Operand.tmp 133) (Operand.const (Value.int IntKind.i64 1)) u8 (D.v (Value.int IntKind.i64 1))) fun d_23=>
b8 u6 d_23 c1 c7)
noncomputable def C87_9(m1:Nat):=B87_9 pc k m1
theorem h87_9(m1:Nat)(m2:Nat):T87_9 pc rk k m1 m2=C87_9 pc k m1 m2 (Xk pc rk k m1) (R87_8 pc rk k m1 m2):=by kernel_rfl
noncomputable def B87_8(pc:PC)(k:Nat)(m1:Nat)(m2:Nat)(j9:(D→D→D→List D→List D→Option D))(b6:(D→List D→Option D))(b8:(D→D→List D→List D→Option D))(u6:D)(u8:D)(c1:List D)(c7:List D):Option D:=
bindO (binD P BinOp.lss 3 (Operand.tmp 130) (Operand.tmp 131) u8 u6) fun d_1s=>
ifU d_1s (
bindO (c1[1]?) fun d_1t=>
bindO (elsD d_1t) fun l_1u=>
bindO (idxD u8 l_1u.length) fun i_1v=>
bindO (l_1u[i_1v]?) fun d_1w=>
bindO (aggD d_1w) fun c_1x=>
chkK (Nat.beq c_1x.length 2) (
bindO (cutD c_1x 0 2) fun c_1y=>
bindO (splD [(D.v (Value.int IntKind.i64 0)),(D.v (Value.int IntKind.i64 0))] 0 c_1y 2) fun c_1z=>
bindO (cutD c_1z 0 2) fun c_20=>
bindO (cutD c7 0 2) fun c_21=>
bindO (binD P BinOp.eql 89 (Operand.tmp 140) (Operand.tmp 141) (D.agg c_20) (D.agg c_21)) fun d_22=>
ifU d_22 (
j9 u6 u8 (D.v (Value.bool true)) c1 c7) (
bindO (c_1z[0]?) fun d_24=>
bindO (c7[1]?) fun d_25=>
bindO (binD P BinOp.eql 3 (Operand.tmp 145) (Operand.tmp 147) d_24 d_25) fun d_26=>
ifU d_26 (
bindO (c_1z[1]?) fun d_27=>
bindO (c7[0]?) fun d_28=>
bindO (binD P BinOp.eql 3 (Operand.tmp 151) (Operand.tmp 153) d_27 d_28) fun d_29=>
j9 u6 u8 d_29 c1 c7) (
j9 u6 u8 (D.v (Value.bool false)) c1 c7)))) (
bindO (binD P BinOp.add 3 (Operand.tmp 98) (Operand.const (Value.int IntKind.i64 1)) u6 (D.v (Value.int IntKind.i64 1))) fun d_2a=>
b6 d_2a c1)
noncomputable def C87_8(m1:Nat)(m2:Nat)(b6:(D→List D→Option D))(b8:(D→D→List D→List D→Option D)):=B87_8 pc k m1 m2 (C87_9 pc k m1 m2 b6 b8) b6 b8
noncomputable def S87_8(m1:Nat)(b6:(D→List D→Option D)):Nat→(D→D→List D→List D→Option D):=fun m=>Nat.rec (motive:=fun _=>(D→D→List D→List D→Option D)) (C87_8 pc k m1 0 b6 (fun _ _ _ _=>none)) (fun m ih=>C87_8 pc k m1 (m+1) b6 ih) m
theorem h87_8(m1:Nat)(m2:Nat):T87_8 pc rk k m1 m2=C87_8 pc k m1 m2 (Xk pc rk k m1) (R87_8 pc rk k m1 m2):=Eq.trans (b:=B87_8 pc k m1 m2 (T87_9 pc rk k m1 m2) (Xk pc rk k m1) (R87_8 pc rk k m1 m2)) (by kernel_rfl) (by rw[h87_9]; rfl)
theorem q87_8(m1:Nat)(m:Nat):T87_8 pc rk k m1 m=S87_8 pc k m1 (Xk pc rk k m1) m:=recS (h87_8 pc rk k m1) (by kernel_rfl) (fun m=>by kernel_rfl) m
noncomputable def B87_7(pc:PC)(k:Nat)(m1:Nat)(j8:(D→D→List D→List D→Option D))(b6:(D→List D→Option D))(u6:D)(u129:D)(c1:List D)(c7:List D):Option D:=
ifU u129 (
some (D.v (Value.int IntKind.i64 1))) (
j8 u6 (D.v (Value.int IntKind.i64 0)) c1 c7)
noncomputable def C87_7(m1:Nat)(b6:(D→List D→Option D)):=B87_7 pc k m1 (S87_8 pc k m1 b6 m1) b6
theorem h87_7(m1:Nat):T87_7 pc rk k m1=C87_7 pc k m1 (Xk pc rk k m1):=Eq.trans (b:=B87_7 pc k m1 (T87_8 pc rk k m1 m1) (Xk pc rk k m1)) (by kernel_rfl) (by rw[q87_8]; rfl)
noncomputable def B87_6(pc:PC)(k:Nat)(m1:Nat)(j7:(D→D→List D→List D→Option D))(b6:(D→List D→Option D))(u6:D)(c1:List D):Option D:=
bindO (c1[1]?) fun d_1c=>
bindO (elsD d_1c) fun l_1d=>
bindO (binD P BinOp.lss 3 (Operand.tmp 93) (Operand.tmp 96) u6 (lenD l_1d)) fun d_1e=>
ifU d_1e (
bindO (c1[1]?) fun d_1f=>
bindO (elsD d_1f) fun l_1g=>
bindO (idxD u6 l_1g.length) fun i_1h=>
bindO (l_1g[i_1h]?) fun d_1i=>
bindO (aggD d_1i) fun c_1j=>
chkK (Nat.beq c_1j.length 2) (
bindO (cutD c_1j 0 2) fun c_1k=>
bindO (splD [(D.v (Value.int IntKind.i64 0)),(D.v (Value.int IntKind.i64 0))] 0 c_1k 2) fun c_1l=>
bindO (c_1l[0]?) fun d_1m=>
bindO (c1[0]?) fun d_1n=>
bindO (elsD d_1n) fun l_1o=>
bindO (binD P BinOp.sub 3 (Operand.tmp 109) (Operand.const (Value.int IntKind.i64 1)) (lenD l_1o) (D.v (Value.int IntKind.i64 1))) fun d_1p=>
bindO (pcD P pc 35 [d_1m,(D.v (Value.int IntKind.i64 0)),d_1p]) fun d_1q=>
bindO (semD P d_1q (Op.unary UnOp.not)) fun d_1r=>
ifU d_1r (
j7 u6 (D.v (Value.bool true)) c1 c_1l) (
bindO (c_1l[1]?) fun d_2b=>
bindO (c1[0]?) fun d_2c=>
bindO (elsD d_2c) fun l_2d=>
bindO (binD P BinOp.sub 3 (Operand.tmp 118) (Operand.const (Value.int IntKind.i64 1)) (lenD l_2d) (D.v (Value.int IntKind.i64 1))) fun d_2e=>
bindO (pcD P pc 35 [d_2b,(D.v (Value.int IntKind.i64 0)),d_2e]) fun d_2f=>
bindO (semD P d_2f (Op.unary UnOp.not)) fun d_2g=>
ifU d_2g (
j7 u6 (D.v (Value.bool true)) c1 c_1l) (
bindO (c_1l[0]?) fun d_2h=>
bindO (c_1l[1]?) fun d_2i=>
bindO (binD P BinOp.eql 3 (Operand.tmp 125) (Operand.tmp 127) d_2h d_2i) fun d_2j=>
j7 u6 d_2j c1 c_1l)))) (
some (D.v (Value.int IntKind.i64 0)))
noncomputable def C87_6(m1:Nat)(b6:(D→List D→Option D)):=B87_6 pc k m1 (C87_7 pc k m1 b6) b6
noncomputable def S87_6:Nat→(D→List D→Option D):=recF (C87_6 pc k) (fun _ _=>none)
theorem h87_6(m1:Nat):T87_6 pc rk k m1=C87_6 pc k m1 (Xk pc rk k m1):=Eq.trans (b:=B87_6 pc k m1 (T87_7 pc rk k m1) (Xk pc rk k m1)) (by kernel_rfl) (by rw[h87_7]; rfl)
theorem q87_6(m:Nat):T87_6 pc rk k m=S87_6 pc k m:=recS (h87_6 pc rk k) (by kernel_rfl) (fun m=>by kernel_rfl) m
noncomputable def B87_4(pc:PC)(k:Nat)(m1:Nat)(j5:(D→D→List D→Option D))(j6:(D→List D→Option D))(b4:(D→List D→Option D))(u4:D)(c1:List D):Option D:=
bindO (c1[2]?) fun d_q=>
bindO (elsD d_q) fun l_r=>
bindO (binD P BinOp.lss 3 (Operand.tmp 57) (Operand.tmp 60) u4 (lenD l_r)) fun d_s=>
ifU d_s (
bindO (c1[2]?) fun d_t=>
bindO (elsD d_t) fun l_u=>
bindO (idxD u4 l_u.length) fun i_v=>
bindO (l_u[i_v]?) fun d_w=>
bindO (aggD d_w) fun c_x=>
chkK (Nat.beq c_x.length 5) (
bindO (cutD c_x 0 5) fun c_y=>
bindO (splD [(D.v (Value.int IntKind.i64 0)),(D.v (Value.int IntKind.i64 0)),(D.v (Value.int IntKind.i64 0)),(D.v (Value.int IntKind.i64 0)),(D.v (Value.int IntKind.i64 0))] 0 c_y 5) fun c_z=>
bindO (c_z[0]?) fun d_10=>
bindO (pcD P pc 35 [d_10,(D.v (Value.int IntKind.i64 0)),(D.v (Value.int IntKind.i64 1000))]) fun d_11=>
bindO (semD P d_11 (Op.unary UnOp.not)) fun d_12=>
ifU d_12 (
j5 u4 (D.v (Value.bool true)) c1) (
bindO (c_z[1]?) fun d_14=>
bindO (c_z[2]?) fun d_15=>
bindO (pcD P pc 105 [d_14,d_15]) fun d_16=>
bindO (semD P d_16 (Op.unary UnOp.not)) fun d_17=>
ifU d_17 (
j5 u4 (D.v (Value.bool true)) c1) (
bindO (c_z[3]?) fun d_18=>
bindO (c_z[4]?) fun d_19=>
bindO (pcD P pc 105 [d_18,d_19]) fun d_1a=>
bindO (semD P d_1a (Op.unary UnOp.not)) fun d_1b=>
j5 u4 d_1b c1)))) (
j6 (D.v (Value.int IntKind.i64 0)) c1)
noncomputable def C87_4(m1:Nat)(b4:(D→List D→Option D)):=B87_4 pc k m1 (C87_5 pc k m1 b4) (S87_6 pc k k) b4
noncomputable def S87_4:Nat→(D→List D→Option D):=recF (C87_4 pc k) (fun _ _=>none)
theorem h87_4(m1:Nat):T87_4 pc rk k m1=C87_4 pc k m1 (R87_4 pc rk k m1):=Eq.trans (b:=B87_4 pc k m1 (T87_5 pc rk k m1) (T87_6 pc rk k k) (R87_4 pc rk k m1)) (by kernel_rfl) (by rw[h87_5,q87_6]; rfl)
theorem q87_4(m:Nat):T87_4 pc rk k m=S87_4 pc k m:=recS (h87_4 pc rk k) (by kernel_rfl) (fun m=>by kernel_rfl) m
noncomputable def B87_3(pc:PC)(k:Nat)(m1:Nat)(j4:(D→List D→Option D))(b3:(D→List D→Option D))(u3:D)(c1:List D):Option D:=
bindO (c1[0]?) fun d_8=>
bindO (elsD d_8) fun l_9=>
bindO (binD P BinOp.lss 3 (Operand.tmp 36) (Operand.tmp 39) u3 (lenD l_9)) fun d_a=>
ifU d_a (
bindO (c1[0]?) fun d_b=>
bindO (elsD d_b) fun l_c=>
bindO (idxD u3 l_c.length) fun i_d=>
bindO (l_c[i_d]?) fun d_e=>
bindO (aggD d_e) fun c_f=>
chkK (Nat.beq c_f.length 2) (
bindO (c_f[0]?) fun d_g=>
bindO (c1[0]?) fun d_h=>
bindO (elsD d_h) fun l_i=>
bindO (idxD u3 l_i.length) fun i_j=>
bindO (l_i[i_j]?) fun d_k=>
bindO (aggD d_k) fun c_l=>
chkK (Nat.beq c_l.length 2) (
bindO ((List.drop 1 c_l)[0]?) fun d_m=>
bindO (pcD P pc 105 [d_g,d_m]) fun d_n=>
bindO (semD P d_n (Op.unary UnOp.not)) fun d_o=>
ifU d_o (
some (D.v (Value.int IntKind.i64 1))) (
bindO (binD P BinOp.add 3 (Operand.tmp 41) (Operand.const (Value.int IntKind.i64 1)) u3 (D.v (Value.int IntKind.i64 1))) fun d_p=>
b3 d_p c1)))) (
j4 (D.v (Value.int IntKind.i64 0)) c1)
noncomputable def C87_3(m1:Nat):=B87_3 pc k m1 (S87_4 pc k k)
noncomputable def S87_3:Nat→(D→List D→Option D):=recF (C87_3 pc k) (fun _ _=>none)
theorem h87_3(m1:Nat):T87_3 pc rk k m1=C87_3 pc k m1 (R87_3 pc rk k m1):=Eq.trans (b:=B87_3 pc k m1 (T87_4 pc rk k k) (R87_3 pc rk k m1)) (by kernel_rfl) (by rw[q87_4]; rfl)
theorem q87_3(m:Nat):T87_3 pc rk k m=S87_3 pc k m:=recS (h87_3 pc rk k) (by kernel_rfl) (fun m=>by kernel_rfl) m
noncomputable def B87_2(pc:PC)(k:Nat)(j3:(D→List D→Option D))(u35:D)(c1:List D):Option D:=
ifU u35 (
some (D.v (Value.int IntKind.i64 1))) (
j3 (D.v (Value.int IntKind.i64 0)) c1)
noncomputable def C87_2:=B87_2 pc k (S87_3 pc k k)
theorem h87_2:T87_2 pc rk k=C87_2 pc k:=Eq.trans (b:=B87_2 pc k (T87_3 pc rk k k)) (by kernel_rfl) (by rw[q87_3]; rfl)
noncomputable def B87_1(pc:PC)(k:Nat)(j2:(D→List D→Option D))(u25:D)(c1:List D):Option D:=
ifU u25 (
some (D.v (Value.int IntKind.i64 3))) (
bindO (c1[0]?) fun d_5=>
bindO (elsD d_5) fun l_6=>
bindO (binD P BinOp.eql 3 (Operand.tmp 28) (Operand.const (Value.int IntKind.i64 0)) (lenD l_6) (D.v (Value.int IntKind.i64 0))) fun d_7=>
ifU d_7 (
j2 (D.v (Value.bool true)) c1) (
bindO (c1[2]?) fun d_2k=>
bindO (elsD d_2k) fun l_2l=>
bindO (binD P BinOp.eql 3 (Operand.tmp 33) (Operand.const (Value.int IntKind.i64 0)) (lenD l_2l) (D.v (Value.int IntKind.i64 0))) fun d_2m=>
j2 d_2m c1))
noncomputable def C87_1:=B87_1 pc k (C87_2 pc k)
theorem h87_1:T87_1 pc rk k=C87_1 pc k:=Eq.trans (b:=B87_1 pc k (T87_2 pc rk k)) (by kernel_rfl) (by rw[h87_2]; rfl)
noncomputable def B87_0(pc:PC)(k:Nat)(j1:(D→List D→Option D))(v0:D):Option D:=
bindO (aggD v0) fun c_1=>
bindO (c_1[0]?) fun d_2=>
bindO (elsD d_2) fun l_3=>
bindO (binD P BinOp.gtr 3 (Operand.tmp 12) (Operand.const (Value.int IntKind.i64 8)) (lenD l_3) (D.v (Value.int IntKind.i64 8))) fun d_4=>
ifU d_4 (
j1 (D.v (Value.bool true)) c_1) (
bindO (c_1[1]?) fun d_2n=>
bindO (elsD d_2n) fun l_2o=>
bindO (binD P BinOp.gtr 3 (Operand.tmp 17) (Operand.const (Value.int IntKind.i64 16)) (lenD l_2o) (D.v (Value.int IntKind.i64 16))) fun d_2p=>
ifU d_2p (
j1 (D.v (Value.bool true)) c_1) (
bindO (c_1[2]?) fun d_2q=>
bindO (elsD d_2q) fun l_2r=>
bindO (binD P BinOp.gtr 3 (Operand.tmp 23) (Operand.const (Value.int IntKind.i64 3)) (lenD l_2r) (D.v (Value.int IntKind.i64 3))) fun d_2s=>
j1 d_2s c_1))
noncomputable def C87_0:=B87_0 pc k (C87_1 pc k)
theorem h87_0(v0:D):cQ P pc noY rk LA (k+1) 87 [v0]=C87_0 pc k v0:=(bqA Go.Proofs.Tryz.f87 gY cY (by kernel_rfl)).trans (Eq.trans (b:=B87_0 pc k (T87_1 pc rk k) v0) (by kernel_rfl) (by rw[h87_1]; rfl))
noncomputable def Ly:Code:=aJ 88
noncomputable def rW:List ResultVar:=bk 88
noncomputable def K88_pr:KA:=(bK (LvA.b (LA 88)).c (bx P pc noY rk (aq P pc noY rk 88 k) 88 (cR (cR Ly)) (LvA.b (LvA.b (LA 88))) (aw P rW) X0A (aw P rW)))
noncomputable def AQ:(Nat→KA):=(upA 0 (K88_pr pc rk k) X0A)
noncomputable def K88_prlrl(m1:Nat):KA:=(bK (LvA.a (LvA.b (LvA.a (LvA.b (LA 88))))).c (aq P pc noY rk 88 m1 (LvA.a (LvA.b (LvA.a (LvA.b (LA 88))))) (cL (cR (cL (cR Ly)))) (K88_pr pc rk k) (AQ pc rk k) (aw P rW)))
noncomputable def K88_prlrllr(m1:Nat):KA:=(bK (LvA.b (LvA.a (LvA.a (LvA.b (LvA.a (LvA.b (LA 88))))))).c (bx P pc noY rk (aq P pc noY rk 88 m1) 88 (cR (cR (cL (cL (cR (cL (cR Ly))))))) (LvA.b (LvA.b (LvA.a (LvA.a (LvA.b (LvA.a (LvA.b (LA 88)))))))) (K88_prlrl pc rk k m1) (AQ pc rk k) (aw P rW)))
noncomputable def K88_pxrlrllrl(m1:Nat):(Nat→KA):=(upA 1 (K88_prlrllr pc rk k m1) (AQ pc rk k))
noncomputable def T88_2(m1:Nat):=fun(u1:D) (u5:D) (u38:D) (c2:List D)=>labA (bx P pc noY rk (aq P pc noY rk 88 m1) 88 (cR (cL (cL (cR (cL (cL (cR (cL (cR Ly))))))))) (LvA.b (LvA.a (LvA.a (LvA.b (LvA.a (LvA.a (LvA.b (LvA.a (LvA.b (LA 88)))))))))) (K88_prlrllr pc rk k m1) (K88_pxrlrllrl pc rk k m1) (aw P rW)) (Tr.set (Tr.set (Tr.set (Tr.set Tr.nil 38 (some (AV.d u38))) 5 (some (AV.d u5))) 2 (some (AV.loc 2 0))) 1 (some (AV.d u1))) (Tr.set Tr.nil 2 (some (Bx.dat c2 false)))
noncomputable def T88_1(m1:Nat):=fun(u1:D) (u5:D) (c2:List D)=>labA (bx P pc noY rk (aq P pc noY rk 88 m1) 88 (cL (cL (cR (cL (cR Ly))))) (LvA.a (LvA.a (LvA.b (LvA.a (LvA.b (LA 88)))))) (K88_prlrl pc rk k m1) (AQ pc rk k) (aw P rW)) (Tr.set (Tr.set (Tr.set Tr.nil 5 (some (AV.d u5))) 2 (some (AV.loc 2 0))) 1 (some (AV.d u1))) (Tr.set Tr.nil 2 (some (Bx.dat c2 false)))
noncomputable def R88_1(m1:Nat):(D→D→List D→Option D):=fun u1 u5 c2=>labA (aq P pc noY rk 88 m1 (LvA.a (LvA.b (LvA.a (LvA.b (LA 88))))) (cL (cR (cL (cR Ly)))) (K88_pr pc rk k) (AQ pc rk k) (aw P rW)) (Tr.set (Tr.set (Tr.set Tr.nil 5 (some (AV.d u5))) 2 (some (AV.loc 2 0))) 1 (some (AV.d u1))) (Tr.set Tr.nil 2 (some (Bx.dat c2 false)))
noncomputable def B88_2(pc:PC)(k:Nat)(m1:Nat)(b1:(D→D→List D→Option D))(u1:D)(u5:D)(u38:D)(c2:List D):Option D:=
ifU u38 (
some (D.v (Value.bool false))) (
bindO (binD P BinOp.add 3 (Operand.tmp 10) (Operand.const (Value.int IntKind.i64 1)) u5 (D.v (Value.int IntKind.i64 1))) fun d_c=>
b1 u1 d_c c2)
noncomputable def C88_2(m1:Nat):=B88_2 pc k m1
theorem h88_2(m1:Nat):T88_2 pc rk k m1=C88_2 pc k m1 (R88_1 pc rk k m1):=by kernel_rfl
noncomputable def B88_1(pc:PC)(k:Nat)(m1:Nat)(j2:(D→D→D→List D→Option D))(b1:(D→D→List D→Option D))(u1:D)(u5:D)(c2:List D):Option D:=
bindO (elsD u1) fun l_2=>
bindO (binD P BinOp.lss 3 (Operand.tmp 6) (Operand.tmp 8) u5 (lenD l_2)) fun d_3=>
ifU d_3 (
bindO (elsD u1) fun l_4=>
bindO (idxD u5 l_4.length) fun i_5=>
bindO (l_4[i_5]?) fun d_6=>
chkK (bz d_6) (
bindO (c2[0]?) fun d_7=>
bindO (elsD d_7) fun l_8=>
bindO (binD P BinOp.sub 3 (Operand.tmp 19) (Operand.const (Value.int IntKind.i64 1)) (lenD l_8) (D.v (Value.int IntKind.i64 1))) fun d_9=>
bindO (pcD P pc 35 [d_6,(D.v (Value.int IntKind.i64 0)),d_9]) fun d_a=>
bindO (semD P d_a (Op.unary UnOp.not)) fun d_b=>
ifU d_b (
j2 u1 u5 (D.v (Value.bool true)) c2) (
bindO (binD P BinOp.gtr 3 (Operand.tmp 24) (Operand.const (Value.int IntKind.i64 0)) u5 (D.v (Value.int IntKind.i64 0))) fun d_d=>
ifU d_d (
bindO (elsD u1) fun l_e=>
bindO (idxD u5 l_e.length) fun i_f=>
bindO (l_e[i_f]?) fun d_g=>
chkK (bz d_g) (
bindO (binD P BinOp.sub 3 (Operand.tmp 32) (Operand.const (Value.int IntKind.i64 1)) u5 (D.v (Value.int IntKind.i64 1))) fun d_h=>
bindO (elsD u1) fun l_i=>
bindO (idxD d_h l_i.length) fun i_j=>
bindO (l_i[i_j]?) fun d_k=>
chkK (bz d_k) (
bindO (binD P BinOp.leq 3 (Operand.tmp 30) (Operand.tmp 35) d_g d_k) fun d_l=>
j2 u1 u5 d_l c2))) (
j2 u1 u5 (D.v (Value.bool false)) c2)))) (
some (D.v (Value.bool true)))
noncomputable def C88_1(m1:Nat)(b1:(D→D→List D→Option D)):=B88_1 pc k m1 (C88_2 pc k m1 b1) b1
noncomputable def S88_1:Nat→(D→D→List D→Option D):=recF (C88_1 pc k) (fun _ _ _=>none)
theorem h88_1(m1:Nat):T88_1 pc rk k m1=C88_1 pc k m1 (R88_1 pc rk k m1):=Eq.trans (b:=B88_1 pc k m1 (T88_2 pc rk k m1) (R88_1 pc rk k m1)) (by kernel_rfl) (by rw[h88_2]; rfl)
theorem q88_1(m:Nat):T88_1 pc rk k m=S88_1 pc k m:=recS (h88_1 pc rk k) (by kernel_rfl) (fun m=>by kernel_rfl) m
noncomputable def B88_0(pc:PC)(k:Nat)(j1:(D→D→List D→Option D))(v0:D)(v1:D):Option D:=
bindO (aggD v0) fun c_1=>
j1 v1 (D.v (Value.int IntKind.i64 0)) c_1
noncomputable def C88_0:=B88_0 pc k (S88_1 pc k k)
theorem h88_0(v0:D)(v1:D):cQ P pc noY rk LA (k+1) 88 [v0,v1]=C88_0 pc k v0 v1:=(bqA Go.Proofs.Tryz.f88 Ly rW (by kernel_rfl)).trans (Eq.trans (b:=B88_0 pc k (T88_1 pc rk k k) v0 v1) (by kernel_rfl) (by rw[q88_1]; rfl))
noncomputable def dQ:Code:=aJ 89
noncomputable def tY:List ResultVar:=bk 89
noncomputable def Zj(pc rg pc1 rg1 pc2:PC)(rk2:List Nat→RK)(k:Nat):KA:=(bK (LvA.b (LvA.b (LA 89))).c (bx P pc noY (gz P rg pc1 (gz P rg1 pc2 rk2 (k+1)) (k+1) []) (aq P pc noY (gz P rg pc1 (gz P rg1 pc2 rk2 (k+1)) (k+1) []) 89 k) 89 (cR (cR (cR dQ))) (LvA.b (LvA.b (LvA.b (LA 89)))) (aw P tY) X0A (aw P tY)))
noncomputable def CJ(pc rg pc1 rg1 pc2:PC)(rk2:List Nat→RK)(k:Nat):(Nat→KA):=(upA 0 (Zj pc rg pc1 rg1 pc2 rk2 k) X0A)
noncomputable def zj(pc rg pc1 rg1 pc2:PC)(rk2:List Nat→RK)(k:Nat)(m1:List (List D)):KA:=(bK ((LvA.a (LvA.a (LvA.b (LvA.a (LvA.b (LvA.b (LA 89)))))))).c (fun _ G=>Qw (cfB P pc1 (gz P rg1 pc2 rk2 (k+1) ((dq (cR (cL (cR (cL (cR (cR dQ)))))))::[])) (k+1) 89) (LvA.a (LvA.b (LvA.a (LvA.b (LvA.b (LA 89)))))) (ntm P 89) (rPs (cL (cR (cL (cR (cR dQ)))))) (cL (cL (cR (cL (cR (cR dQ)))))) (cR (cL (cR (cL (cR (cR dQ)))))) (dq (cR (cL (cR (cL (cR (cR dQ))))))) (Zj pc rg pc1 rg1 pc2 rk2 k) (CJ pc rg pc1 rg1 pc2 rk2 k) (aw P tY) m1 G))
noncomputable def K89_pxrrlrlb(pc rg pc1 rg1 pc2:PC)(rk2:List Nat→RK)(k:Nat)(m1:List (List D)):(Nat→KA):=(fun i _ G=>envK (dq (cR (cL (cR (cL (cR (cR dQ))))))) G fun A=>(CJ pc rg pc1 rg1 pc2 rk2 k) i A G)
noncomputable def nY(pc rg pc1 rg1 pc2:PC)(rk2:List Nat→RK)(k:Nat)(m1:List (List D)):KA:=(fun _ G=>envK (dq (cR (cL (cR (cL (cR (cR dQ))))))) G fun A=>(aw P tY) A G)
noncomputable def K89_pxrrlrlr(pc rg pc1 rg1 pc2:PC)(rk2:List Nat→RK)(k:Nat)(m1:List (List D)):(Nat→KA):=(upA 1 (zj pc rg pc1 rg1 pc2 rk2 k m1) (K89_pxrrlrlb pc rg pc1 rg1 pc2 rk2 k m1))
noncomputable def nZ(pc rg pc1 rg1 pc2:PC)(rk2:List Nat→RK)(k:Nat)(m1:List (List D)):(Nat→KA):=(upA 2 (zj pc rg pc1 rg1 pc2 rk2 k m1) (K89_pxrrlrlr pc rg pc1 rg1 pc2 rk2 k m1))
noncomputable def K89_prrlrlrlrl(pc rg pc1 rg1 pc2:PC)(rk2:List Nat→RK)(k:Nat)(m1:List (List D))(m2:Nat):KA:=(bK (LvA.a (LvA.b (LvA.a (LvA.b (LvA.a (LvA.b (LvA.a (LvA.b (LvA.b (LA 89)))))))))).c (aq P pc1 noY (gz P rg1 pc2 rk2 (k+1) ((dq (cR (cL (cR (cL (cR (cR dQ)))))))::[])) 89 m2 (LvA.a (LvA.b (LvA.a (LvA.b (LvA.a (LvA.b (LvA.a (LvA.b (LvA.b (LA 89)))))))))) (cL (cR (cL (cR (cL (cR (cL (cR (cR dQ))))))))) (zj pc rg pc1 rg1 pc2 rk2 k m1) (nZ pc rg pc1 rg1 pc2 rk2 k m1) (nY pc rg pc1 rg1 pc2 rk2 k m1)))
noncomputable def K89_prrlrlrlrllrr(pc rg pc1 rg1 pc2:PC)(rk2:List Nat→RK)(k:Nat)(m1:List (List D))(m2:Nat):KA:=(bK (LvA.b (LvA.b (LvA.a (LvA.a (LvA.b (LvA.a (LvA.b (LvA.a (LvA.b (LvA.a (LvA.b (LvA.b (LA 89))))))))))))).c (bx P pc1 noY (gz P rg1 pc2 rk2 (k+1) ((dq (cR (cL (cR (cL (cR (cR dQ)))))))::[])) (aq P pc1 noY (gz P rg1 pc2 rk2 (k+1) ((dq (cR (cL (cR (cL (cR (cR dQ)))))))::[])) 89 m2) 89 (cR (cR (cR (cL (cL (cR (cL (cR (cL (cR (cL (cR (cR dQ))))))))))))) (LvA.b (LvA.b (LvA.b (LvA.a (LvA.a (LvA.b (LvA.a (LvA.b (LvA.a (LvA.b (LvA.a (LvA.b (LvA.b (LA 89)))))))))))))) (K89_prrlrlrlrl pc rg pc1 rg1 pc2 rk2 k m1 m2) (nZ pc rg pc1 rg1 pc2 rk2 k m1) (nY pc rg pc1 rg1 pc2 rk2 k m1)))
noncomputable def K89_pxrrlrlrlrllrrl(pc rg pc1 rg1 pc2:PC)(rk2:List Nat→RK)(k:Nat)(m1:List (List D))(m2:Nat):(Nat→KA):=(upA 3 (K89_prrlrlrlrllrr pc rg pc1 rg1 pc2 rk2 k m1 m2) (nZ pc rg pc1 rg1 pc2 rk2 k m1))
noncomputable def nx(pc rg pc1 rg1 pc2:PC)(rk2:List Nat→RK)(k:Nat)(m1:List (List D))(m2:Nat):KA:=(bK (LvA.b (LvA.b (LvA.a (LvA.a (LvA.b (LvA.b (LvA.a (LvA.a (LvA.b (LvA.a (LvA.b (LvA.a (LvA.b (LvA.a (LvA.b (LvA.b (LA 89))))))))))))))))).c (bx P pc1 noY (gz P rg1 pc2 rk2 (k+1) ((dq (cR (cL (cR (cL (cR (cR dQ)))))))::[])) (aq P pc1 noY (gz P rg1 pc2 rk2 (k+1) ((dq (cR (cL (cR (cL (cR (cR dQ)))))))::[])) 89 m2) 89 (cR (cR (cR (cL (cL (cR (cR (cL (cL (cR (cL (cR (cL (cR (cL (cR (cR dQ))))))))))))))))) (LvA.b (LvA.b (LvA.b (LvA.a (LvA.a (LvA.b (LvA.b (LvA.a (LvA.a (LvA.b (LvA.a (LvA.b (LvA.a (LvA.b (LvA.a (LvA.b (LvA.b (LA 89)))))))))))))))))) (K89_prrlrlrlrllrr pc rg pc1 rg1 pc2 rk2 k m1 m2) (K89_pxrrlrlrlrllrrl pc rg pc1 rg1 pc2 rk2 k m1 m2) (nY pc rg pc1 rg1 pc2 rk2 k m1)))
noncomputable def K89_pxrrlrlrlrllrrllrrlr(pc rg pc1 rg1 pc2:PC)(rk2:List Nat→RK)(k:Nat)(m1:List (List D))(m2:Nat):(Nat→KA):=(upA 4 (nx pc rg pc1 rg1 pc2 rk2 k m1 m2) (K89_pxrrlrlrlrllrrl pc rg pc1 rg1 pc2 rk2 k m1 m2))
noncomputable def XJ(pc rg pc1 rg1 pc2:PC)(rk2:List Nat→RK)(k:Nat)(m1:List (List D))(m2:Nat)(m3:List (List D)):KA:=fun _ G=>Qw (cfB P pc2 (rk2 ((dq (cR (cL (cR (cL (cR (cR (cL (cL (cR (cR (cL (cL (cR (cL (cR (cL (cR (cL (cR (cR dQ)))))))))))))))))))))::((dq (cR (cL (cR (cL (cR (cR dQ)))))))::[]))) (k+1) 89) (LvA.a (LvA.b (LvA.a (LvA.b (LvA.b (LvA.a (LvA.a (LvA.b (LvA.b (LvA.a (LvA.a (LvA.b (LvA.a (LvA.b (LvA.a (LvA.b (LvA.a (LvA.b (LvA.b (LA 89)))))))))))))))))))) (ntm P 89) (rPs (cL (cR (cL (cR (cR (cL (cL (cR (cR (cL (cL (cR (cL (cR (cL (cR (cL (cR (cR dQ)))))))))))))))))))) (cL (cL (cR (cL (cR (cR (cL (cL (cR (cR (cL (cL (cR (cL (cR (cL (cR (cL (cR (cR dQ)))))))))))))))))))) (cR (cL (cR (cL (cR (cR (cL (cL (cR (cR (cL (cL (cR (cL (cR (cL (cR (cL (cR (cR dQ)))))))))))))))))))) (dq (cR (cL (cR (cL (cR (cR (cL (cL (cR (cR (cL (cL (cR (cL (cR (cL (cR (cL (cR (cR dQ))))))))))))))))))))) (nx pc rg pc1 rg1 pc2 rk2 k m1 m2) (K89_pxrrlrlrlrllrrllrrlr pc rg pc1 rg1 pc2 rk2 k m1 m2) (nY pc rg pc1 rg1 pc2 rk2 k m1) m3 G
noncomputable def R89_5(pc rg pc1 rg1 pc2:PC)(rk2:List Nat→RK)(k:Nat)(m1:List (List D))(m2:Nat)(m3:List (List D)):(D→D→D→D→List MapEntry→Nat→D→D→D→D→D→D→D→Option D):=fun g2_0 g6_0 g7_0 g10_0 es12 mc12 e1_14 e5_8 e5_9 e5_21 e5_22 e5_23 e5_32=>labA (XJ pc rg pc1 rg1 pc2 rk2 k m1 m2 m3) Tr.nil (Tr.set (Tr.set (Tr.set (Tr.set (Tr.set (Tr.set (Tr.set (Tr.set Tr.nil 1000005 (some (Bx.env [(2,(AV.loc 2 0)),(5,(AV.loc 5 0)),(6,(AV.loc 6 0)),(7,(AV.loc 7 0)),(8,(AV.d e5_8)),(9,(AV.d e5_9)),(10,(AV.loc 10 0)),(21,(AV.d e5_21)),(22,(AV.d e5_22)),(23,(AV.d e5_23)),(32,(AV.d e5_32))]))) 1000001 (some (Bx.env [(2,(AV.loc 2 0)),(5,(AV.loc 5 0)),(14,(AV.d e1_14))]))) 12 (some (Bx.map es12 mc12 false))) 10 (some (Bx.dat [g10_0] false))) 7 (some (Bx.dat [g7_0] false))) 6 (some (Bx.dat [g6_0] false))) 5 (some (Bx.box [(AV.mp 12)]))) 2 (some (Bx.dat [g2_0] false)))
noncomputable def T89_4(pc rg pc1 rg1 pc2:PC)(rk2:List Nat→RK)(k:Nat)(m1:List (List D))(m2:Nat):=fun(u8:D) (u9:D) (u21:D) (u22:D) (u23:D) (u32:D) (g2_0:D) (g6_0:D) (g7_0:D) (g10_0:D) (es12:List MapEntry) (mc12:Nat) (e1_14:D)=>labA (fun A G=>getK (opdA (rX (cL (cR (cL (cR (cR (cL (cL (cR (cR (cL (cL (cR (cL (cR (cL (cR (cL (cR (cR dQ)))))))))))))))))))) A) fun a=>(gz P rg1 pc2 rk2 (k+1) ((dq (cR (cL (cR (cL (cR (cR dQ)))))))::[])) (LvA.a (LvA.b (LvA.a (LvA.b (LvA.b (LvA.a (LvA.a (LvA.b (LvA.b (LvA.a (LvA.a (LvA.b (LvA.a (LvA.b (LvA.a (LvA.b (LvA.a (LvA.b (LvA.b (LA 89)))))))))))))))))))) 89 a (rPs (cL (cR (cL (cR (cR (cL (cL (cR (cR (cL (cL (cR (cL (cR (cL (cR (cL (cR (cR dQ)))))))))))))))))))) (cL (cL (cR (cL (cR (cR (cL (cL (cR (cR (cL (cL (cR (cL (cR (cL (cR (cL (cR (cR dQ)))))))))))))))))))) (cR (cL (cR (cL (cR (cR (cL (cL (cR (cR (cL (cL (cR (cL (cR (cL (cR (cL (cR (cR dQ)))))))))))))))))))) (nx pc rg pc1 rg1 pc2 rk2 k m1 m2) (K89_pxrrlrlrlrllrrllrrlr pc rg pc1 rg1 pc2 rk2 k m1 m2) (nY pc rg pc1 rg1 pc2 rk2 k m1) A G) (Tr.set (Tr.set (Tr.set (Tr.set (Tr.set (Tr.set (Tr.set (Tr.set (Tr.set (Tr.set (Tr.set Tr.nil 32 (some (AV.d u32))) 23 (some (AV.d u23))) 22 (some (AV.d u22))) 21 (some (AV.d u21))) 10 (some (AV.loc 10 0))) 9 (some (AV.d u9))) 8 (some (AV.d u8))) 7 (some (AV.loc 7 0))) 6 (some (AV.loc 6 0))) 5 (some (AV.loc 5 0))) 2 (some (AV.loc 2 0))) (Tr.set (Tr.set (Tr.set (Tr.set (Tr.set (Tr.set (Tr.set Tr.nil 1000001 (some (Bx.env [(2,(AV.loc 2 0)),(5,(AV.loc 5 0)),(14,(AV.d e1_14))]))) 12 (some (Bx.map es12 mc12 false))) 10 (some (Bx.dat [g10_0] false))) 7 (some (Bx.dat [g7_0] false))) 6 (some (Bx.dat [g6_0] false))) 5 (some (Bx.box [(AV.mp 12)]))) 2 (some (Bx.dat [g2_0] false)))
noncomputable def T89_3(pc rg pc1 rg1 pc2:PC)(rk2:List Nat→RK)(k:Nat)(m1:List (List D))(m2:Nat):=fun(u21:D) (u22:D) (u23:D) (g2_0:D) (g6_0:D) (g7_0:D) (es12:List MapEntry) (mc12:Nat) (e1_14:D)=>labA (bx P pc1 noY (gz P rg1 pc2 rk2 (k+1) ((dq (cR (cL (cR (cL (cR (cR dQ)))))))::[])) (aq P pc1 noY (gz P rg1 pc2 rk2 (k+1) ((dq (cR (cL (cR (cL (cR (cR dQ)))))))::[])) 89 m2) 89 (cL (cL (cR (cL (cR (cL (cR (cL (cR (cR dQ)))))))))) (LvA.a (LvA.a (LvA.b (LvA.a (LvA.b (LvA.a (LvA.b (LvA.a (LvA.b (LvA.b (LA 89))))))))))) (K89_prrlrlrlrl pc rg pc1 rg1 pc2 rk2 k m1 m2) (nZ pc rg pc1 rg1 pc2 rk2 k m1) (nY pc rg pc1 rg1 pc2 rk2 k m1)) (Tr.set (Tr.set (Tr.set (Tr.set (Tr.set (Tr.set (Tr.set Tr.nil 23 (some (AV.d u23))) 22 (some (AV.d u22))) 21 (some (AV.d u21))) 7 (some (AV.loc 7 0))) 6 (some (AV.loc 6 0))) 5 (some (AV.loc 5 0))) 2 (some (AV.loc 2 0))) (Tr.set (Tr.set (Tr.set (Tr.set (Tr.set (Tr.set Tr.nil 1000001 (some (Bx.env [(2,(AV.loc 2 0)),(5,(AV.loc 5 0)),(14,(AV.d e1_14))]))) 12 (some (Bx.map es12 mc12 false))) 7 (some (Bx.dat [g7_0] false))) 6 (some (Bx.dat [g6_0] false))) 5 (some (Bx.box [(AV.mp 12)]))) 2 (some (Bx.dat [g2_0] false)))
noncomputable def Fx(pc rg pc1 rg1 pc2:PC)(rk2:List Nat→RK)(k:Nat)(m1:List (List D))(m2:Nat):(D→D→D→D→D→D→List MapEntry→Nat→D→Option D):=fun u21 u22 u23 g2_0 g6_0 g7_0 es12 mc12 e1_14=>labA (aq P pc1 noY (gz P rg1 pc2 rk2 (k+1) ((dq (cR (cL (cR (cL (cR (cR dQ)))))))::[])) 89 m2 (LvA.a (LvA.b (LvA.a (LvA.b (LvA.a (LvA.b (LvA.a (LvA.b (LvA.b (LA 89)))))))))) (cL (cR (cL (cR (cL (cR (cL (cR (cR dQ))))))))) (zj pc rg pc1 rg1 pc2 rk2 k m1) (nZ pc rg pc1 rg1 pc2 rk2 k m1) (nY pc rg pc1 rg1 pc2 rk2 k m1)) (Tr.set (Tr.set (Tr.set (Tr.set (Tr.set (Tr.set (Tr.set Tr.nil 23 (some (AV.d u23))) 22 (some (AV.d u22))) 21 (some (AV.d u21))) 7 (some (AV.loc 7 0))) 6 (some (AV.loc 6 0))) 5 (some (AV.loc 5 0))) 2 (some (AV.loc 2 0))) (Tr.set (Tr.set (Tr.set (Tr.set (Tr.set (Tr.set Tr.nil 1000001 (some (Bx.env [(2,(AV.loc 2 0)),(5,(AV.loc 5 0)),(14,(AV.d e1_14))]))) 12 (some (Bx.map es12 mc12 false))) 7 (some (Bx.dat [g7_0] false))) 6 (some (Bx.dat [g6_0] false))) 5 (some (Bx.box [(AV.mp 12)]))) 2 (some (Bx.dat [g2_0] false)))
noncomputable def XQ(pc rg pc1 rg1 pc2:PC)(rk2:List Nat→RK)(k:Nat)(m1:List (List D)):KA:=fun _ G=>Qw (cfB P pc1 (gz P rg1 pc2 rk2 (k+1) ((dq (cR (cL (cR (cL (cR (cR dQ)))))))::[])) (k+1) 89) (LvA.a (LvA.b (LvA.a (LvA.b (LvA.b (LA 89)))))) (ntm P 89) (rPs (cL (cR (cL (cR (cR dQ)))))) (cL (cL (cR (cL (cR (cR dQ)))))) (cR (cL (cR (cL (cR (cR dQ)))))) (dq (cR (cL (cR (cL (cR (cR dQ))))))) (Zj pc rg pc1 rg1 pc2 rk2 k) (CJ pc rg pc1 rg1 pc2 rk2 k) (aw P tY) m1 G
noncomputable def vk(pc rg pc1 rg1 pc2:PC)(rk2:List Nat→RK)(k:Nat)(m1:List (List D)):(D→List MapEntry→Nat→D→Option D):=fun g2_0 es12 mc12 e1_14=>labA (XQ pc rg pc1 rg1 pc2 rk2 k m1) Tr.nil (Tr.set (Tr.set (Tr.set (Tr.set Tr.nil 1000001 (some (Bx.env [(2,(AV.loc 2 0)),(5,(AV.loc 5 0)),(14,(AV.d e1_14))]))) 12 (some (Bx.map es12 mc12 false))) 5 (some (Bx.box [(AV.mp 12)]))) 2 (some (Bx.dat [g2_0] false)))
noncomputable def T89_1(pc rg pc1 rg1 pc2:PC)(rk2:List Nat→RK)(k:Nat):=fun(u14:D) (g2_0:D) (es12:List MapEntry) (mc12:Nat)=>labA (fun A G=>getK (opdA (rX (cL (cR (cL (cR (cR dQ)))))) A) fun a=>(gz P rg pc1 (gz P rg1 pc2 rk2 (k+1)) (k+1) []) (LvA.a (LvA.b (LvA.a (LvA.b (LvA.b (LA 89)))))) 89 a (rPs (cL (cR (cL (cR (cR dQ)))))) (cL (cL (cR (cL (cR (cR dQ)))))) (cR (cL (cR (cL (cR (cR dQ)))))) (Zj pc rg pc1 rg1 pc2 rk2 k) (CJ pc rg pc1 rg1 pc2 rk2 k) (aw P tY) A G) (Tr.set (Tr.set (Tr.set Tr.nil 14 (some (AV.d u14))) 5 (some (AV.loc 5 0))) 2 (some (AV.loc 2 0))) (Tr.set (Tr.set (Tr.set Tr.nil 12 (some (Bx.map es12 mc12 false))) 5 (some (Bx.box [(AV.mp 12)]))) 2 (some (Bx.dat [g2_0] false)))
noncomputable def BN89_5(pc rg pc1 rg1 pc2:PC)(k:Nat)(m1:List (List D))(m2:Nat)(b2:(D→List MapEntry→Nat→D→Option D))(b3:(D→D→D→D→D→D→List MapEntry→Nat→D→Option D))(g2_0:D)(g6_0:D)(g7_0:D)(g10_0:D)(es12:List MapEntry)(mc12:Nat)(e1_14:D)(e5_8:D)(e5_9:D)(e5_21:D)(e5_22:D)(e5_23:D)(e5_32:D):Option D:=
chkK (bz g6_0) (
chkK (bz e5_8) (
bindO (binD P BinOp.add 3 (Operand.tmp 51) (Operand.tmp 52) e5_9 g10_0) fun d_b=>
bindO (updD P 147 es12 mc12 (D.agg [g6_0,e5_8]) d_b) fun r_c=>
bindO (binD P BinOp.add 3 (Operand.tmp 23) (Operand.const (Value.int IntKind.i64 1)) e5_23 (D.v (Value.int IntKind.i64 1))) fun d_d=>
b3 e5_21 e5_22 d_d g2_0 g6_0 g7_0 r_c.1 r_c.2 e1_14))
noncomputable def RY(pc rg pc1 rg1 pc2:PC)(k:Nat)(m1:List (List D))(m2:Nat)(b2:(D→List MapEntry→Nat→D→Option D))(b3:(D→D→D→D→D→D→List MapEntry→Nat→D→Option D))(g2_0:D)(g6_0:D)(g7_0:D)(g10_0:D)(es12:List MapEntry)(mc12:Nat)(e1_14:D)(e5_8:D)(e5_9:D)(e5_21:D)(e5_22:D)(e5_23:D)(e5_32:D):Option D:=BN89_5 pc rg pc1 rg1 pc2 k m1 m2 b2 b3 g2_0 g6_0 g7_0 g10_0 es12 mc12 e1_14 e5_8 e5_9 e5_21 e5_22 e5_23 e5_32
noncomputable def B89_5(pc rg pc1 rg1 pc2:PC)(k:Nat)(m1:List (List D))(m2:Nat)(m3:List (List D))(b2:(D→List MapEntry→Nat→D→Option D))(b3:(D→D→D→D→D→D→List MapEntry→Nat→D→Option D))(b5:(D→D→D→D→List MapEntry→Nat→D→D→D→D→D→D→D→Option D))(y:List D)(g2_0:D)(g6_0:D)(g7_0:D)(g10_0:D)(es12:List MapEntry)(mc12:Nat)(e1_14:D)(e5_8:D)(e5_9:D)(e5_21:D)(e5_22:D)(e5_23:D)(e5_32:D):Option D:=
par1 y (fun z5_0=>
bindO (pcD P pc2 94 [g7_0,z5_0]) fun d_e=>
bindO (semD P d_e (Op.unary UnOp.not)) fun d_f=>
ifU d_f (
bindO (binD P BinOp.add 3 (Operand.tmp 40) (Operand.const (Value.int IntKind.i64 1)) g6_0 (D.v (Value.int IntKind.i64 1))) fun d_g=>
chkK (bz d_g) (
chkK (bz z5_0) (
bindO (Qj P 147 es12 (D.agg [d_g,z5_0]) false) fun d_h=>
chkK (bz d_h) (
bindO (pcD P pc2 100 [g10_0,(D.sl [d_h])]) fun d_i=>
chkK (bz d_i) (
b5 g2_0 g6_0 g7_0 d_i es12 mc12 e1_14 e5_8 e5_9 e5_21 e5_22 e5_23 e5_32))))) (
b5 g2_0 g6_0 g7_0 g10_0 es12 mc12 e1_14 e5_8 e5_9 e5_21 e5_22 e5_23 e5_32))
noncomputable def C89_5(pc rg pc1 rg1 pc2:PC)(k:Nat)(m1:List (List D)):=B89_5 pc rg pc1 rg1 pc2 k m1
noncomputable def XV(pc rg pc1 rg1 pc2:PC)(k:Nat)(m1:List (List D))(m2:Nat)(b2:(D→List MapEntry→Nat→D→Option D))(b3:(D→D→D→D→D→D→List MapEntry→Nat→D→Option D)):List (List D)→(D→D→D→D→List MapEntry→Nat→D→D→D→D→D→D→D→Option D):=fun ys=>List.rec (motive:=fun _=>(D→D→D→D→List MapEntry→Nat→D→D→D→D→D→D→D→Option D)) (RY pc rg pc1 rg1 pc2 k m1 m2 b2 b3) (fun y ys ih=>C89_5 pc rg pc1 rg1 pc2 k m1 m2 ys b2 b3 ih y) ys
theorem hN89_5(pc rg pc1 rg1 pc2:PC)(rk2:List Nat→RK)(k:Nat)(m1:List (List D))(m2:Nat)(g2_0:D)(g6_0:D)(g7_0:D)(g10_0:D)(es12:List MapEntry)(mc12:Nat)(e1_14:D)(e5_8:D)(e5_9:D)(e5_21:D)(e5_22:D)(e5_23:D)(e5_32:D):labA (XJ pc rg pc1 rg1 pc2 rk2 k m1 m2 []) Tr.nil (Tr.set (Tr.set (Tr.set (Tr.set (Tr.set (Tr.set (Tr.set (Tr.set Tr.nil 1000005 (some (Bx.env [(2,(AV.loc 2 0)),(5,(AV.loc 5 0)),(6,(AV.loc 6 0)),(7,(AV.loc 7 0)),(8,(AV.d e5_8)),(9,(AV.d e5_9)),(10,(AV.loc 10 0)),(21,(AV.d e5_21)),(22,(AV.d e5_22)),(23,(AV.d e5_23)),(32,(AV.d e5_32))]))) 1000001 (some (Bx.env [(2,(AV.loc 2 0)),(5,(AV.loc 5 0)),(14,(AV.d e1_14))]))) 12 (some (Bx.map es12 mc12 false))) 10 (some (Bx.dat [g10_0] false))) 7 (some (Bx.dat [g7_0] false))) 6 (some (Bx.dat [g6_0] false))) 5 (some (Bx.box [(AV.mp 12)]))) 2 (some (Bx.dat [g2_0] false)))=RY pc rg pc1 rg1 pc2 k m1 m2 (vk pc rg pc1 rg1 pc2 rk2 k m1) (Fx pc rg pc1 rg1 pc2 rk2 k m1 m2) g2_0 g6_0 g7_0 g10_0 es12 mc12 e1_14 e5_8 e5_9 e5_21 e5_22 e5_23 e5_32:=by
 have h:labA (XJ pc rg pc1 rg1 pc2 rk2 k m1 m2 []) Tr.nil (Tr.set (Tr.set (Tr.set (Tr.set (Tr.set (Tr.set (Tr.set (Tr.set Tr.nil 1000005 (some (Bx.env [(2,(AV.loc 2 0)),(5,(AV.loc 5 0)),(6,(AV.loc 6 0)),(7,(AV.loc 7 0)),(8,(AV.d e5_8)),(9,(AV.d e5_9)),(10,(AV.loc 10 0)),(21,(AV.d e5_21)),(22,(AV.d e5_22)),(23,(AV.d e5_23)),(32,(AV.d e5_32))]))) 1000001 (some (Bx.env [(2,(AV.loc 2 0)),(5,(AV.loc 5 0)),(14,(AV.d e1_14))]))) 12 (some (Bx.map es12 mc12 false))) 10 (some (Bx.dat [g10_0] false))) 7 (some (Bx.dat [g7_0] false))) 6 (some (Bx.dat [g6_0] false))) 5 (some (Bx.box [(AV.mp 12)]))) 2 (some (Bx.dat [g2_0] false)))=BN89_5 pc rg pc1 rg1 pc2 k m1 m2 (vk pc rg pc1 rg1 pc2 rk2 k m1) (Fx pc rg pc1 rg1 pc2 rk2 k m1 m2) g2_0 g6_0 g7_0 g10_0 es12 mc12 e1_14 e5_8 e5_9 e5_21 e5_22 e5_23 e5_32:=by kernel_rfl
 rw[h,RY]
theorem h89_5(pc rg pc1 rg1 pc2:PC)(rk2:List Nat→RK)(k:Nat)(m1:List (List D))(m2:Nat)(m3:List (List D))(y:List D)(g2_0:D)(g6_0:D)(g7_0:D)(g10_0:D)(es12:List MapEntry)(mc12:Nat)(e1_14:D)(e5_8:D)(e5_9:D)(e5_21:D)(e5_22:D)(e5_23:D)(e5_32:D):labA (XJ pc rg pc1 rg1 pc2 rk2 k m1 m2 (y::m3)) Tr.nil (Tr.set (Tr.set (Tr.set (Tr.set (Tr.set (Tr.set (Tr.set (Tr.set Tr.nil 1000005 (some (Bx.env [(2,(AV.loc 2 0)),(5,(AV.loc 5 0)),(6,(AV.loc 6 0)),(7,(AV.loc 7 0)),(8,(AV.d e5_8)),(9,(AV.d e5_9)),(10,(AV.loc 10 0)),(21,(AV.d e5_21)),(22,(AV.d e5_22)),(23,(AV.d e5_23)),(32,(AV.d e5_32))]))) 1000001 (some (Bx.env [(2,(AV.loc 2 0)),(5,(AV.loc 5 0)),(14,(AV.d e1_14))]))) 12 (some (Bx.map es12 mc12 false))) 10 (some (Bx.dat [g10_0] false))) 7 (some (Bx.dat [g7_0] false))) 6 (some (Bx.dat [g6_0] false))) 5 (some (Bx.box [(AV.mp 12)]))) 2 (some (Bx.dat [g2_0] false)))=C89_5 pc rg pc1 rg1 pc2 k m1 m2 m3 (vk pc rg pc1 rg1 pc2 rk2 k m1) (Fx pc rg pc1 rg1 pc2 rk2 k m1 m2) (R89_5 pc rg pc1 rg1 pc2 rk2 k m1 m2 m3) y g2_0 g6_0 g7_0 g10_0 es12 mc12 e1_14 e5_8 e5_9 e5_21 e5_22 e5_23 e5_32:=by kernel_rfl
theorem q89_5(pc rg pc1 rg1 pc2:PC)(rk2:List Nat→RK)(k:Nat)(m1:List (List D))(m2:Nat):∀(ys:List (List D)) (g2_0:D) (g6_0:D) (g7_0:D) (g10_0:D) (es12:List MapEntry) (mc12:Nat) (e1_14:D) (e5_8:D) (e5_9:D) (e5_21:D) (e5_22:D) (e5_23:D) (e5_32:D),labA (XJ pc rg pc1 rg1 pc2 rk2 k m1 m2 ys) Tr.nil (Tr.set (Tr.set (Tr.set (Tr.set (Tr.set (Tr.set (Tr.set (Tr.set Tr.nil 1000005 (some (Bx.env [(2,(AV.loc 2 0)),(5,(AV.loc 5 0)),(6,(AV.loc 6 0)),(7,(AV.loc 7 0)),(8,(AV.d e5_8)),(9,(AV.d e5_9)),(10,(AV.loc 10 0)),(21,(AV.d e5_21)),(22,(AV.d e5_22)),(23,(AV.d e5_23)),(32,(AV.d e5_32))]))) 1000001 (some (Bx.env [(2,(AV.loc 2 0)),(5,(AV.loc 5 0)),(14,(AV.d e1_14))]))) 12 (some (Bx.map es12 mc12 false))) 10 (some (Bx.dat [g10_0] false))) 7 (some (Bx.dat [g7_0] false))) 6 (some (Bx.dat [g6_0] false))) 5 (some (Bx.box [(AV.mp 12)]))) 2 (some (Bx.dat [g2_0] false)))=XV pc rg pc1 rg1 pc2 k m1 m2 (vk pc rg pc1 rg1 pc2 rk2 k m1) (Fx pc rg pc1 rg1 pc2 rk2 k m1 m2) ys g2_0 g6_0 g7_0 g10_0 es12 mc12 e1_14 e5_8 e5_9 e5_21 e5_22 e5_23 e5_32
 | [],g2_0,g6_0,g7_0,g10_0,es12,mc12,e1_14,e5_8,e5_9,e5_21,e5_22,e5_23,e5_32=>by
  rw[hN89_5]; rfl
 | y::ys,g2_0,g6_0,g7_0,g10_0,es12,mc12,e1_14,e5_8,e5_9,e5_21,e5_22,e5_23,e5_32=>by
  rw[h89_5]
  have e:R89_5 pc rg pc1 rg1 pc2 rk2 k m1 m2 ys=XV pc rg pc1 rg1 pc2 k m1 m2 (vk pc rg pc1 rg1 pc2 rk2 k m1) (Fx pc rg pc1 rg1 pc2 rk2 k m1 m2) ys:=by
   funext g2_0 g6_0 g7_0 g10_0 es12 mc12 e1_14 e5_8 e5_9 e5_21 e5_22 e5_23 e5_32
   have e:R89_5 pc rg pc1 rg1 pc2 rk2 k m1 m2 ys g2_0 g6_0 g7_0 g10_0 es12 mc12 e1_14 e5_8 e5_9 e5_21 e5_22 e5_23 e5_32=labA (XJ pc rg pc1 rg1 pc2 rk2 k m1 m2 ys) Tr.nil (Tr.set (Tr.set (Tr.set (Tr.set (Tr.set (Tr.set (Tr.set (Tr.set Tr.nil 1000005 (some (Bx.env [(2,(AV.loc 2 0)),(5,(AV.loc 5 0)),(6,(AV.loc 6 0)),(7,(AV.loc 7 0)),(8,(AV.d e5_8)),(9,(AV.d e5_9)),(10,(AV.loc 10 0)),(21,(AV.d e5_21)),(22,(AV.d e5_22)),(23,(AV.d e5_23)),(32,(AV.d e5_32))]))) 1000001 (some (Bx.env [(2,(AV.loc 2 0)),(5,(AV.loc 5 0)),(14,(AV.d e1_14))]))) 12 (some (Bx.map es12 mc12 false))) 10 (some (Bx.dat [g10_0] false))) 7 (some (Bx.dat [g7_0] false))) 6 (some (Bx.dat [g6_0] false))) 5 (some (Bx.box [(AV.mp 12)]))) 2 (some (Bx.dat [g2_0] false))):=rfl
   rw[e]; exact q89_5 ..
  rw[e]; rfl
noncomputable def B89_4(pc rg pc1 rg1 pc2:PC)(k:Nat)(m1:List (List D))(m2:Nat)(j5:(List (List D)→(D→D→D→D→List MapEntry→Nat→D→D→D→D→D→D→D→Option D)))(b2:(D→List MapEntry→Nat→D→Option D))(b3:(D→D→D→D→D→D→List MapEntry→Nat→D→Option D))(u8:D)(u9:D)(u21:D)(u22:D)(u23:D)(u32:D)(g2_0:D)(g6_0:D)(g7_0:D)(g10_0:D)(es12:List MapEntry)(mc12:Nat)(e1_14:D):Option D:=
fnK u32 fun g a b=>
chkK (BJ P g && !memN ((dq (cR (cL (cR (cL (cR (cR dQ)))))))::[]) (dq (cR (cL (cR (cL (cR (cR (cL (cL (cR (cR (cL (cL (cR (cL (cR (cL (cR (cL (cR (cR dQ)))))))))))))))))))))) (
YQ (fun l=>rg1 g (a++D.yld l::b)) fun ys=>
j5 ys g2_0 g6_0 g7_0 g10_0 es12 mc12 e1_14 u8 u9 u21 u22 u23 u32)
noncomputable def C89_4(pc rg pc1 rg1 pc2:PC)(k:Nat)(m1:List (List D))(m2:Nat)(b2:(D→List MapEntry→Nat→D→Option D))(b3:(D→D→D→D→D→D→List MapEntry→Nat→D→Option D)):=B89_4 pc rg pc1 rg1 pc2 k m1 m2 (XV pc rg pc1 rg1 pc2 k m1 m2 b2 b3) b2 b3
theorem h89_4(pc rg pc1 rg1 pc2:PC)(rk2:List Nat→RK)(k:Nat)(m1:List (List D))(m2:Nat)(u8:D)(u9:D)(u21:D)(u22:D)(u23:D)(u32:D)(g2_0:D)(g6_0:D)(g7_0:D)(g10_0:D)(es12:List MapEntry)(mc12:Nat)(e1_14:D):T89_4 pc rg pc1 rg1 pc2 rk2 k m1 m2 u8 u9 u21 u22 u23 u32 g2_0 g6_0 g7_0 g10_0 es12 mc12 e1_14=C89_4 pc rg pc1 rg1 pc2 k m1 m2 (vk pc rg pc1 rg1 pc2 rk2 k m1) (Fx pc rg pc1 rg1 pc2 rk2 k m1 m2) u8 u9 u21 u22 u23 u32 g2_0 g6_0 g7_0 g10_0 es12 mc12 e1_14:=by
 have h:T89_4 pc rg pc1 rg1 pc2 rk2 k m1 m2 u8 u9 u21 u22 u23 u32 g2_0 g6_0 g7_0 g10_0 es12 mc12 e1_14=B89_4 pc rg pc1 rg1 pc2 k m1 m2 (fun ys_ g2_0 g6_0 g7_0 g10_0 es12 mc12 e1_14 e5_8 e5_9 e5_21 e5_22 e5_23 e5_32=>labA (XJ pc rg pc1 rg1 pc2 rk2 k m1 m2 ys_) Tr.nil (Tr.set (Tr.set (Tr.set (Tr.set (Tr.set (Tr.set (Tr.set (Tr.set Tr.nil 1000005 (some (Bx.env [(2,(AV.loc 2 0)),(5,(AV.loc 5 0)),(6,(AV.loc 6 0)),(7,(AV.loc 7 0)),(8,(AV.d e5_8)),(9,(AV.d e5_9)),(10,(AV.loc 10 0)),(21,(AV.d e5_21)),(22,(AV.d e5_22)),(23,(AV.d e5_23)),(32,(AV.d e5_32))]))) 1000001 (some (Bx.env [(2,(AV.loc 2 0)),(5,(AV.loc 5 0)),(14,(AV.d e1_14))]))) 12 (some (Bx.map es12 mc12 false))) 10 (some (Bx.dat [g10_0] false))) 7 (some (Bx.dat [g7_0] false))) 6 (some (Bx.dat [g6_0] false))) 5 (some (Bx.box [(AV.mp 12)]))) 2 (some (Bx.dat [g2_0] false)))) (vk pc rg pc1 rg1 pc2 rk2 k m1) (Fx pc rg pc1 rg1 pc2 rk2 k m1 m2) u8 u9 u21 u22 u23 u32 g2_0 g6_0 g7_0 g10_0 es12 mc12 e1_14:=by kernel_rfl
 rw[h,C89_4]
 have e5:(fun ys_ g2_0 g6_0 g7_0 g10_0 es12 mc12 e1_14 e5_8 e5_9 e5_21 e5_22 e5_23 e5_32=>labA (XJ pc rg pc1 rg1 pc2 rk2 k m1 m2 ys_) Tr.nil (Tr.set (Tr.set (Tr.set (Tr.set (Tr.set (Tr.set (Tr.set (Tr.set Tr.nil 1000005 (some (Bx.env [(2,(AV.loc 2 0)),(5,(AV.loc 5 0)),(6,(AV.loc 6 0)),(7,(AV.loc 7 0)),(8,(AV.d e5_8)),(9,(AV.d e5_9)),(10,(AV.loc 10 0)),(21,(AV.d e5_21)),(22,(AV.d e5_22)),(23,(AV.d e5_23)),(32,(AV.d e5_32))]))) 1000001 (some (Bx.env [(2,(AV.loc 2 0)),(5,(AV.loc 5 0)),(14,(AV.d e1_14))]))) 12 (some (Bx.map es12 mc12 false))) 10 (some (Bx.dat [g10_0] false))) 7 (some (Bx.dat [g7_0] false))) 6 (some (Bx.dat [g6_0] false))) 5 (some (Bx.box [(AV.mp 12)]))) 2 (some (Bx.dat [g2_0] false))))=(XV pc rg pc1 rg1 pc2 k m1 m2 (vk pc rg pc1 rg1 pc2 rk2 k m1) (Fx pc rg pc1 rg1 pc2 rk2 k m1 m2)):=by funext ys_ g2_0 g6_0 g7_0 g10_0 es12 mc12 e1_14 e5_8 e5_9 e5_21 e5_22 e5_23 e5_32; exact q89_5 ..
 rw[e5]
theorem f89_4(pc rg pc1 rg1 pc2:PC)(rk2:List Nat→RK)(k:Nat)(m1:List (List D))(m2:Nat):T89_4 pc rg pc1 rg1 pc2 rk2 k m1 m2=C89_4 pc rg pc1 rg1 pc2 k m1 m2 (vk pc rg pc1 rg1 pc2 rk2 k m1) (Fx pc rg pc1 rg1 pc2 rk2 k m1 m2):=by funext u8 u9 u21 u22 u23 u32 g2_0 g6_0 g7_0 g10_0 es12 mc12 e1_14; exact h89_4 ..
noncomputable def B89_3(pc rg pc1 rg1 pc2:PC)(k:Nat)(m1:List (List D))(m2:Nat)(j4:(D→D→D→D→D→D→D→D→D→D→List MapEntry→Nat→D→Option D))(b2:(D→List MapEntry→Nat→D→Option D))(b3:(D→D→D→D→D→D→List MapEntry→Nat→D→Option D))(u21:D)(u22:D)(u23:D)(g2_0:D)(g6_0:D)(g7_0:D)(es12:List MapEntry)(mc12:Nat)(e1_14:D):Option D:=
bindO (binD P BinOp.lss 3 (Operand.tmp 23) (Operand.tmp 22) u23 u22) fun d_5=>
ifU d_5 (
bindO (elsD u21) fun l_6=>
bindO (idxD u23 l_6.length) fun i_7=>
bindO (l_6[i_7]?) fun d_8=>
chkK (bz d_8) (
chkK (bz u23) (
bindO (pcD P pc1 83 [(D.sl [u23])]) fun d_9=>
bindO (pcD P pc1 104 [g2_0,d_9]) fun d_a=>
j4 u23 d_8 u21 u22 u23 d_a g2_0 g6_0 g7_0 (D.v (Value.int IntKind.i64 0)) es12 mc12 e1_14))) (
b2 g2_0 es12 mc12 e1_14)
noncomputable def C89_3(pc rg pc1 rg1 pc2:PC)(k:Nat)(m1:List (List D))(m2:Nat)(b2:(D→List MapEntry→Nat→D→Option D))(b3:(D→D→D→D→D→D→List MapEntry→Nat→D→Option D)):=B89_3 pc rg pc1 rg1 pc2 k m1 m2 (C89_4 pc rg pc1 rg1 pc2 k m1 m2 b2 b3) b2 b3
noncomputable def S89_3(pc rg pc1 rg1 pc2:PC)(k:Nat)(m1:List (List D))(b2:(D→List MapEntry→Nat→D→Option D)):Nat→(D→D→D→D→D→D→List MapEntry→Nat→D→Option D):=fun m=>Nat.rec (motive:=fun _=>(D→D→D→D→D→D→List MapEntry→Nat→D→Option D)) (C89_3 pc rg pc1 rg1 pc2 k m1 0 b2 (fun _ _ _ _ _ _ _ _ _=>none)) (fun m ih=>C89_3 pc rg pc1 rg1 pc2 k m1 (m+1) b2 ih) m
theorem h89_3(pc rg pc1 rg1 pc2:PC)(rk2:List Nat→RK)(k:Nat)(m1:List (List D))(m2:Nat):T89_3 pc rg pc1 rg1 pc2 rk2 k m1 m2=C89_3 pc rg pc1 rg1 pc2 k m1 m2 (vk pc rg pc1 rg1 pc2 rk2 k m1) (Fx pc rg pc1 rg1 pc2 rk2 k m1 m2):=Eq.trans (b:=B89_3 pc rg pc1 rg1 pc2 k m1 m2 (T89_4 pc rg pc1 rg1 pc2 rk2 k m1 m2) (vk pc rg pc1 rg1 pc2 rk2 k m1) (Fx pc rg pc1 rg1 pc2 rk2 k m1 m2)) (by kernel_rfl) (by rw[f89_4]; rfl)
theorem q89_3(pc rg pc1 rg1 pc2:PC)(rk2:List Nat→RK)(k:Nat)(m1:List (List D))(m:Nat):T89_3 pc rg pc1 rg1 pc2 rk2 k m1 m=S89_3 pc rg pc1 rg1 pc2 k m1 (vk pc rg pc1 rg1 pc2 rk2 k m1) m:=recS (h89_3 pc rg pc1 rg1 pc2 rk2 k m1) (by kernel_rfl) (fun m=>by kernel_rfl) m
noncomputable def BN89_2(pc rg pc1 rg1 pc2:PC)(k:Nat)(g2_0:D)(es12:List MapEntry)(mc12:Nat)(e1_14:D):Option D:=
some (D.map es12 mc12)
noncomputable def CN89_2(pc rg pc1 rg1 pc2:PC)(k:Nat)(g2_0:D)(es12:List MapEntry)(mc12:Nat)(e1_14:D):Option D:=BN89_2 pc rg pc1 rg1 pc2 k g2_0 es12 mc12 e1_14
noncomputable def B89_2(pc rg pc1 rg1 pc2:PC)(k:Nat)(m1:List (List D))(j3:(D→D→D→D→D→D→List MapEntry→Nat→D→Option D))(b2:(D→List MapEntry→Nat→D→Option D))(y:List D)(g2_0:D)(es12:List MapEntry)(mc12:Nat)(e1_14:D):Option D:=
par2 y (fun z1_0 z1_1=>
chkK (bz z1_0) (
chkK (bz z1_1) (
nilA (AV.d g2_0) (
bindO (kz g2_0) fun c_2=>
bindO ((List.drop 4 c_2)[0]?) fun d_3=>
bindO (elsD d_3) fun l_4=>
j3 d_3 (lenD l_4) (D.v (Value.int IntKind.i64 0)) g2_0 z1_0 z1_1 es12 mc12 e1_14))))
noncomputable def C89_2(pc rg pc1 rg1 pc2:PC)(k:Nat)(m1:List (List D))(b2:(D→List MapEntry→Nat→D→Option D)):=B89_2 pc rg pc1 rg1 pc2 k m1 (S89_3 pc rg pc1 rg1 pc2 k m1 b2 k) b2
noncomputable def XW(pc rg pc1 rg1 pc2:PC)(k:Nat):List (List D)→(D→List MapEntry→Nat→D→Option D):=fun ys=>List.rec (motive:=fun _=>(D→List MapEntry→Nat→D→Option D)) (CN89_2 pc rg pc1 rg1 pc2 k) (fun y ys ih=>C89_2 pc rg pc1 rg1 pc2 k ys ih y) ys
theorem hN89_2(pc rg pc1 rg1 pc2:PC)(rk2:List Nat→RK)(k:Nat)(g2_0:D)(es12:List MapEntry)(mc12:Nat)(e1_14:D):labA (XQ pc rg pc1 rg1 pc2 rk2 k []) Tr.nil (Tr.set (Tr.set (Tr.set (Tr.set Tr.nil 1000001 (some (Bx.env [(2,(AV.loc 2 0)),(5,(AV.loc 5 0)),(14,(AV.d e1_14))]))) 12 (some (Bx.map es12 mc12 false))) 5 (some (Bx.box [(AV.mp 12)]))) 2 (some (Bx.dat [g2_0] false)))=CN89_2 pc rg pc1 rg1 pc2 k g2_0 es12 mc12 e1_14:=by
 have h:labA (XQ pc rg pc1 rg1 pc2 rk2 k []) Tr.nil (Tr.set (Tr.set (Tr.set (Tr.set Tr.nil 1000001 (some (Bx.env [(2,(AV.loc 2 0)),(5,(AV.loc 5 0)),(14,(AV.d e1_14))]))) 12 (some (Bx.map es12 mc12 false))) 5 (some (Bx.box [(AV.mp 12)]))) 2 (some (Bx.dat [g2_0] false)))=BN89_2 pc rg pc1 rg1 pc2 k g2_0 es12 mc12 e1_14:=by kernel_rfl
 rw[h,CN89_2]
theorem h89_2(pc rg pc1 rg1 pc2:PC)(rk2:List Nat→RK)(k:Nat)(m1:List (List D))(y:List D)(g2_0:D)(es12:List MapEntry)(mc12:Nat)(e1_14:D):labA (XQ pc rg pc1 rg1 pc2 rk2 k (y::m1)) Tr.nil (Tr.set (Tr.set (Tr.set (Tr.set Tr.nil 1000001 (some (Bx.env [(2,(AV.loc 2 0)),(5,(AV.loc 5 0)),(14,(AV.d e1_14))]))) 12 (some (Bx.map es12 mc12 false))) 5 (some (Bx.box [(AV.mp 12)]))) 2 (some (Bx.dat [g2_0] false)))=C89_2 pc rg pc1 rg1 pc2 k m1 (vk pc rg pc1 rg1 pc2 rk2 k m1) y g2_0 es12 mc12 e1_14:=Eq.trans (b:=B89_2 pc rg pc1 rg1 pc2 k m1 (T89_3 pc rg pc1 rg1 pc2 rk2 k m1 k) (vk pc rg pc1 rg1 pc2 rk2 k m1) y g2_0 es12 mc12 e1_14) (by kernel_rfl) (by rw[q89_3]; rfl)
theorem q89_2(pc rg pc1 rg1 pc2:PC)(rk2:List Nat→RK)(k:Nat):∀(ys:List (List D)) (g2_0:D) (es12:List MapEntry) (mc12:Nat) (e1_14:D),labA (XQ pc rg pc1 rg1 pc2 rk2 k ys) Tr.nil (Tr.set (Tr.set (Tr.set (Tr.set Tr.nil 1000001 (some (Bx.env [(2,(AV.loc 2 0)),(5,(AV.loc 5 0)),(14,(AV.d e1_14))]))) 12 (some (Bx.map es12 mc12 false))) 5 (some (Bx.box [(AV.mp 12)]))) 2 (some (Bx.dat [g2_0] false)))=XW pc rg pc1 rg1 pc2 k ys g2_0 es12 mc12 e1_14
 | [],g2_0,es12,mc12,e1_14=>by
  rw[hN89_2]; rfl
 | y::ys,g2_0,es12,mc12,e1_14=>by
  rw[h89_2]
  have e:vk pc rg pc1 rg1 pc2 rk2 k ys=XW pc rg pc1 rg1 pc2 k ys:=by
   funext g2_0 es12 mc12 e1_14
   have e:vk pc rg pc1 rg1 pc2 rk2 k ys g2_0 es12 mc12 e1_14=labA (XQ pc rg pc1 rg1 pc2 rk2 k ys) Tr.nil (Tr.set (Tr.set (Tr.set (Tr.set Tr.nil 1000001 (some (Bx.env [(2,(AV.loc 2 0)),(5,(AV.loc 5 0)),(14,(AV.d e1_14))]))) 12 (some (Bx.map es12 mc12 false))) 5 (some (Bx.box [(AV.mp 12)]))) 2 (some (Bx.dat [g2_0] false))):=rfl
   rw[e]; exact q89_2 ..
  rw[e]; rfl
noncomputable def B89_1(pc rg pc1 rg1 pc2:PC)(k:Nat)(j2:(List (List D)→(D→List MapEntry→Nat→D→Option D)))(u14:D)(g2_0:D)(es12:List MapEntry)(mc12:Nat):Option D:=
fnK u14 fun g a b=>
chkK (BJ P g && !memN [] (dq (cR (cL (cR (cL (cR (cR dQ)))))))) (
YQ (fun l=>rg g (a++D.yld l::b)) fun ys=>
j2 ys g2_0 es12 mc12 u14)
noncomputable def C89_1(pc rg pc1 rg1 pc2:PC)(k:Nat):=B89_1 pc rg pc1 rg1 pc2 k (XW pc rg pc1 rg1 pc2 k)
theorem h89_1(pc rg pc1 rg1 pc2:PC)(rk2:List Nat→RK)(k:Nat)(u14:D)(g2_0:D)(es12:List MapEntry)(mc12:Nat):T89_1 pc rg pc1 rg1 pc2 rk2 k u14 g2_0 es12 mc12=C89_1 pc rg pc1 rg1 pc2 k u14 g2_0 es12 mc12:=by
 have h:T89_1 pc rg pc1 rg1 pc2 rk2 k u14 g2_0 es12 mc12=B89_1 pc rg pc1 rg1 pc2 k (fun ys_ g2_0 es12 mc12 e1_14=>labA (XQ pc rg pc1 rg1 pc2 rk2 k ys_) Tr.nil (Tr.set (Tr.set (Tr.set (Tr.set Tr.nil 1000001 (some (Bx.env [(2,(AV.loc 2 0)),(5,(AV.loc 5 0)),(14,(AV.d e1_14))]))) 12 (some (Bx.map es12 mc12 false))) 5 (some (Bx.box [(AV.mp 12)]))) 2 (some (Bx.dat [g2_0] false)))) u14 g2_0 es12 mc12:=by kernel_rfl
 rw[h,C89_1]
 have e2:(fun ys_ g2_0 es12 mc12 e1_14=>labA (XQ pc rg pc1 rg1 pc2 rk2 k ys_) Tr.nil (Tr.set (Tr.set (Tr.set (Tr.set Tr.nil 1000001 (some (Bx.env [(2,(AV.loc 2 0)),(5,(AV.loc 5 0)),(14,(AV.d e1_14))]))) 12 (some (Bx.map es12 mc12 false))) 5 (some (Bx.box [(AV.mp 12)]))) 2 (some (Bx.dat [g2_0] false))))=(XW pc rg pc1 rg1 pc2 k):=by funext ys_ g2_0 es12 mc12 e1_14; exact q89_2 ..
 rw[e2]
theorem f89_1(pc rg pc1 rg1 pc2:PC)(rk2:List Nat→RK)(k:Nat):T89_1 pc rg pc1 rg1 pc2 rk2 k=C89_1 pc rg pc1 rg1 pc2 k:=by funext u14 g2_0 es12 mc12; exact h89_1 ..
noncomputable def B89_0(pc rg pc1 rg1 pc2:PC)(k:Nat)(j1:(D→D→List MapEntry→Nat→Option D))(v0:D)(v1:D):Option D:=
chkK (bz v0) (
bindO (pcD P pc 106 [v1]) fun d_1=>
j1 d_1 v0 [] 0)
noncomputable def C89_0(pc rg pc1 rg1 pc2:PC)(k:Nat):=B89_0 pc rg pc1 rg1 pc2 k (C89_1 pc rg pc1 rg1 pc2 k)
theorem h89_0(pc rg pc1 rg1 pc2:PC)(rk2:List Nat→RK)(k:Nat)(v0:D)(v1:D):cQ P pc noY (gz P rg pc1 (gz P rg1 pc2 rk2 (k+1)) (k+1) []) LA (k+1) 89 [v0,v1]=C89_0 pc rg pc1 rg1 pc2 k v0 v1:=(bqA Go.Proofs.Tryz.f89 dQ tY (by kernel_rfl)).trans (Eq.trans (b:=B89_0 pc rg pc1 rg1 pc2 k (T89_1 pc rg pc1 rg1 pc2 rk2 k) v0 v1) (by kernel_rfl) (by rw[f89_1]; rfl))
noncomputable def qJ:Code:=aJ 90
noncomputable def fj:List ResultVar:=bk 90
noncomputable def yw:KA:=(bK (LvA.b (LvA.b (LvA.b (LA 90)))).c (bx P pc noY rk (aq P pc noY rk 90 k) 90 (cR (cR (cR (cR qJ)))) (LvA.b (LvA.b (LvA.b (LvA.b (LA 90))))) (aw P fj) X0A (aw P fj)))
noncomputable def kY:(Nat→KA):=(upA 0 (yw pc rk k) X0A)
noncomputable def uJ(m1:Nat):KA:=(bK (LvA.a (LvA.b (LvA.a (LvA.b (LvA.b (LvA.b (LA 90))))))).c (aq P pc noY rk 90 m1 (LvA.a (LvA.b (LvA.a (LvA.b (LvA.b (LvA.b (LA 90))))))) (cL (cR (cL (cR (cR (cR qJ)))))) (yw pc rk k) (kY pc rk k) (aw P fj)))
noncomputable def T90_3(m1:Nat):=fun(u0:D) (u1:D) (u5:D) (u6:D)=>labA (bx P pc noY rk (aq P pc noY rk 90 m1) 90 (cR (cR (cL (cL (cR (cL (cR (cR (cR qJ))))))))) (LvA.b (LvA.b (LvA.a (LvA.a (LvA.b (LvA.a (LvA.b (LvA.b (LvA.b (LA 90)))))))))) (uJ pc rk k m1) (kY pc rk k) (aw P fj)) (Tr.set (Tr.set (Tr.set (Tr.set Tr.nil 6 (some (AV.d u6))) 5 (some (AV.d u5))) 1 (some (AV.d u1))) 0 (some (AV.d u0))) Tr.nil
noncomputable def T90_2(m1:Nat):=fun(u0:D) (u1:D) (u5:D) (u6:D)=>labA (bx P pc noY rk (aq P pc noY rk 90 m1) 90 (cL (cL (cR (cL (cR (cR (cR qJ))))))) (LvA.a (LvA.a (LvA.b (LvA.a (LvA.b (LvA.b (LvA.b (LA 90)))))))) (uJ pc rk k m1) (kY pc rk k) (aw P fj)) (Tr.set (Tr.set (Tr.set (Tr.set Tr.nil 6 (some (AV.d u6))) 5 (some (AV.d u5))) 1 (some (AV.d u1))) 0 (some (AV.d u0))) Tr.nil
noncomputable def R90_2(m1:Nat):(D→D→D→D→Option D):=fun u0 u1 u5 u6=>labA (aq P pc noY rk 90 m1 (LvA.a (LvA.b (LvA.a (LvA.b (LvA.b (LvA.b (LA 90))))))) (cL (cR (cL (cR (cR (cR qJ)))))) (yw pc rk k) (kY pc rk k) (aw P fj)) (Tr.set (Tr.set (Tr.set (Tr.set Tr.nil 6 (some (AV.d u6))) 5 (some (AV.d u5))) 1 (some (AV.d u1))) 0 (some (AV.d u0))) Tr.nil
noncomputable def T90_1:=fun(u0:D) (u1:D)=>labA (bx P pc noY rk (aq P pc noY rk 90 k) 90 (cR (cR qJ)) (LvA.b (LvA.b (LA 90))) (aw P fj) X0A (aw P fj)) (Tr.set (Tr.set Tr.nil 1 (some (AV.d u1))) 0 (some (AV.d u0))) Tr.nil
noncomputable def B90_3(pc:PC)(k:Nat)(m1:Nat)(b2:(D→D→D→D→Option D))(u0:D)(u1:D)(u5:D)(u6:D):Option D:=
bindO (binD P BinOp.add 3 (Operand.tmp 18) (Operand.const (Value.int IntKind.i64 1)) u6 (D.v (Value.int IntKind.i64 1))) fun d_g=>
b2 u0 u1 u5 d_g
noncomputable def C90_3(m1:Nat):=B90_3 pc k m1
theorem h90_3(m1:Nat):T90_3 pc rk k m1=C90_3 pc k m1 (R90_2 pc rk k m1):=by kernel_rfl
noncomputable def B90_2(pc:PC)(k:Nat)(m1:Nat)(j3:(D→D→D→D→Option D))(b2:(D→D→D→D→Option D))(u0:D)(u1:D)(u5:D)(u6:D):Option D:=
bindO (elsD u0) fun l_6=>
bindO (binD P BinOp.lss 3 (Operand.tmp 14) (Operand.tmp 16) u6 (lenD l_6)) fun d_7=>
ifU d_7 (
bindO (elsD u0) fun l_8=>
bindO (idxD u6 l_8.length) fun i_9=>
bindO (l_8[i_9]?) fun d_a=>
chkK (bz d_a) (
fnK u1 fun g a b=>
bindO (pcD P pc g (a++[d_a,u5]++b)) fun d_b=>
bindO (binD P BinOp.gtr 3 (Operand.tmp 26) (Operand.const (Value.int IntKind.i64 0)) d_b (D.v (Value.int IntKind.i64 0))) fun d_c=>
ifU d_c (
bindO (elsD u0) fun l_d=>
bindO (idxD u6 l_d.length) fun i_e=>
bindO (l_d[i_e]?) fun d_f=>
chkK (bz d_f) (
j3 u0 u1 d_f u6)) (
j3 u0 u1 u5 u6))) (
some u5)
noncomputable def XX(m1:Nat)(b2:(D→D→D→D→Option D)):=B90_2 pc k m1 (C90_3 pc k m1 b2) b2
noncomputable def XY:Nat→(D→D→D→D→Option D):=recF (XX pc k) (fun _ _ _ _=>none)
theorem h90_2(m1:Nat):T90_2 pc rk k m1=XX pc k m1 (R90_2 pc rk k m1):=Eq.trans (b:=B90_2 pc k m1 (T90_3 pc rk k m1) (R90_2 pc rk k m1)) (by kernel_rfl) (by rw[h90_3]; rfl)
theorem q90_2(m:Nat):T90_2 pc rk k m=XY pc k m:=recS (h90_2 pc rk k) (by kernel_rfl) (fun m=>by kernel_rfl) m
noncomputable def B90_1(pc:PC)(k:Nat)(j2:(D→D→D→D→Option D))(u0:D)(u1:D):Option D:=
bindO (elsD u0) fun l_3=>
bindO (idxD (D.v (Value.int IntKind.i64 0)) l_3.length) fun i_4=>
bindO (l_3[i_4]?) fun d_5=>
chkK (bz d_5) (
j2 u0 u1 d_5 (D.v (Value.int IntKind.i64 1)))
noncomputable def C90_1:=B90_1 pc k (XY pc k k)
theorem h90_1:T90_1 pc rk k=C90_1 pc k:=Eq.trans (b:=B90_1 pc k (T90_2 pc rk k k)) (by kernel_rfl) (by rw[q90_2]; rfl)
noncomputable def B90_0(pc:PC)(k:Nat)(j1:(D→D→Option D))(v0:D)(v1:D):Option D:=
bindO (elsD v0) fun l_1=>
bindO (binD P BinOp.lss 3 (Operand.tmp 8) (Operand.const (Value.int IntKind.i64 1)) (lenD l_1) (D.v (Value.int IntKind.i64 1))) fun d_2=>
ifU d_2 (
none) (
j1 v0 v1)
noncomputable def C90_0:=B90_0 pc k (C90_1 pc k)
theorem h90_0(v0:D)(v1:D):cQ P pc noY rk LA (k+1) 90 [v0,v1]=C90_0 pc k v0 v1:=(bqA Go.Proofs.Tryz.f90 qJ fj (by kernel_rfl)).trans (Eq.trans (b:=B90_0 pc k (T90_1 pc rk k) v0 v1) (by kernel_rfl) (by rw[h90_1]; rfl))
noncomputable def code91:Code:=aJ 91
noncomputable def RZ:List ResultVar:=bk 91
noncomputable def B91_0(pc:PC)(k:Nat)(v0:D)(v1:D)(v2:D)(v3:D):Option D:=
bindO (kz v2) fun c_1=>
bindO (c_1[0]?) fun d_2=>
bindO (kz v3) fun c_3=>
bindO (c_3[0]?) fun d_4=>
chkK (bz d_4) (
chkK (bz v0) (
bindO (mapD d_2) fun es_5=>
bindO (Qj P 147 es_5 (D.agg [d_4,v0]) false) fun d_6=>
bindO (kz v2) fun c_7=>
bindO (c_7[0]?) fun d_8=>
bindO (kz v3) fun c_9=>
bindO (c_9[0]?) fun d_a=>
chkK (bz d_a) (
chkK (bz v1) (
bindO (mapD d_8) fun es_b=>
bindO (Qj P 147 es_b (D.agg [d_a,v1]) false) fun d_c=>
bindO (pcD P pc 92 [d_6,d_c]) fun d_d=>
some d_d))))
noncomputable def C91_0:=B91_0 pc k
theorem h91_0(v0:D)(v1:D)(v2:D)(v3:D):cQ P pc noY rk LA (k+1) 91 [v0,v1,v2,v3]=C91_0 pc k v0 v1 v2 v3:=(bqA Go.Proofs.Tryz.f91 code91 RZ (by kernel_rfl)).trans (by kernel_rfl)
noncomputable def code92:Code:=aJ 92
noncomputable def Sj:List ResultVar:=bk 92
noncomputable def B92_0(pc:PC)(k:Nat)(v0:D)(v1:D):Option D:=
bindO (pcD P pc 107 [v0]) fun d_1=>
bindO (pcD P pc 107 [v1]) fun d_2=>
ifU d_1 (
ifU d_2 (
some (D.v (Value.int IntKind.i64 0))) (
some (D.v (Value.int IntKind.i64 (-1))))) (
ifU d_2 (
some (D.v (Value.int IntKind.i64 1))) (
bindO (binD P BinOp.lss 3 (Operand.tmp 14) (Operand.tmp 15) v0 v1) fun d_3=>
ifU d_3 (
some (D.v (Value.int IntKind.i64 (-1)))) (
bindO (binD P BinOp.gtr 3 (Operand.tmp 17) (Operand.tmp 18) v0 v1) fun d_4=>
ifU d_4 (
some (D.v (Value.int IntKind.i64 1))) (
some (D.v (Value.int IntKind.i64 0))))))
noncomputable def C92_0:=B92_0 pc k
theorem h92_0(v0:D)(v1:D):cQ P pc noY rk LA (k+1) 92 [v0,v1]=C92_0 pc k v0 v1:=(bqA Go.Proofs.Tryz.f92 code92 Sj (by kernel_rfl)).trans (by kernel_rfl)
noncomputable def code93:Code:=aJ 93
noncomputable def Sq:List ResultVar:=bk 93
noncomputable def B93_0(pc:PC)(k:Nat)(v0:D)(v1:D):Option D:=
bindO (aggD v0) fun c_1=>
bindO (binD P BinOp.geq 3 (Operand.tmp 5) (Operand.const (Value.int IntKind.i64 0)) v1 (D.v (Value.int IntKind.i64 0))) fun d_2=>
ifU d_2 (
bindO (c_1[0]?) fun d_3=>
bindO (elsD d_3) fun l_4=>
bindO (binD P BinOp.lss 3 (Operand.tmp 8) (Operand.tmp 12) v1 (lenD l_4)) fun d_5=>
some d_5) (
some (D.v (Value.bool false)))
noncomputable def C93_0:=B93_0 pc k
theorem h93_0(v0:D)(v1:D):cQ P pc noY rk LA (k+1) 93 [v0,v1]=C93_0 pc k v0 v1:=(bqA Go.Proofs.Tryz.f93 code93 Sq (by kernel_rfl)).trans (by kernel_rfl)
noncomputable def code94:Code:=aJ 94
noncomputable def Sv:List ResultVar:=bk 94
noncomputable def B94_0(pc:PC)(k:Nat)(v0:D)(v1:D):Option D:=
chkK (bz v1) (
bindO (pcD P pc 83 [(D.sl [v1])]) fun d_1=>
bindO (pcD P pc 95 [v0,d_1]) fun d_2=>
some d_2)
noncomputable def C94_0:=B94_0 pc k
theorem h94_0(v0:D)(v1:D):cQ P pc noY rk LA (k+1) 94 [v0,v1]=C94_0 pc k v0 v1:=(bqA Go.Proofs.Tryz.f94 code94 Sv (by kernel_rfl)).trans (by kernel_rfl)
noncomputable def code95:Code:=aJ 95
noncomputable def Sw:List ResultVar:=bk 95
noncomputable def B95_0(pc:PC)(k:Nat)(v0:D)(v1:D):Option D:=
bindO (binD P BinOp.and 106 (Operand.tmp 5) (Operand.tmp 6) v0 v1) fun d_1=>
bindO (binD P BinOp.neq 106 (Operand.tmp 7) (Operand.const (Value.int IntKind.u64 0)) d_1 (D.v (Value.int IntKind.u64 0))) fun d_2=>
some d_2
noncomputable def C95_0:=B95_0 pc k
theorem h95_0(v0:D)(v1:D):cQ P pc noY rk LA (k+1) 95 [v0,v1]=C95_0 pc k v0 v1:=(bqA Go.Proofs.Tryz.f95 code95 Sw (by kernel_rfl)).trans (by kernel_rfl)
noncomputable def sk:Code:=aJ 100
noncomputable def gZ:List ResultVar:=bk 100
noncomputable def CQ:KA:=(bK (LvA.b (LA 100)).c (bx P pc noY rk (aq P pc noY rk 100 k) 100 (cR (cR sk)) (LvA.b (LvA.b (LA 100))) (aw P gZ) X0A (aw P gZ)))
noncomputable def qQ:(Nat→KA):=(upA 0 (CQ pc rk k) X0A)
noncomputable def Lz(m1:Nat):KA:=(bK (LvA.a (LvA.b (LvA.a (LvA.b (LA 100))))).c (aq P pc noY rk 100 m1 (LvA.a (LvA.b (LvA.a (LvA.b (LA 100))))) (cL (cR (cL (cR sk)))) (CQ pc rk k) (qQ pc rk k) (aw P gZ)))
noncomputable def Lk(m1:Nat):=fun(u0:D) (u7:D) (u8:D) (u9:D)=>labA (bx P pc noY rk (aq P pc noY rk 100 m1) 100 (cL (cL (cR (cL (cR sk))))) (LvA.a (LvA.a (LvA.b (LvA.a (LvA.b (LA 100)))))) (Lz pc rk k m1) (qQ pc rk k) (aw P gZ)) (Tr.set (Tr.set (Tr.set (Tr.set Tr.nil 9 (some (AV.d u9))) 8 (some (AV.d u8))) 7 (some (AV.d u7))) 0 (some (AV.d u0))) Tr.nil
noncomputable def R100_1(m1:Nat):(D→D→D→D→Option D):=fun u0 u7 u8 u9=>labA (aq P pc noY rk 100 m1 (LvA.a (LvA.b (LvA.a (LvA.b (LA 100))))) (cL (cR (cL (cR sk)))) (CQ pc rk k) (qQ pc rk k) (aw P gZ)) (Tr.set (Tr.set (Tr.set (Tr.set Tr.nil 9 (some (AV.d u9))) 8 (some (AV.d u8))) 7 (some (AV.d u7))) 0 (some (AV.d u0))) Tr.nil
noncomputable def B100_1(pc:PC)(k:Nat)(m1:Nat)(b1:(D→D→D→D→Option D))(u0:D)(u7:D)(u8:D)(u9:D):Option D:=
bindO (binD P BinOp.lss 3 (Operand.tmp 9) (Operand.tmp 8) u9 u8) fun d_2=>
ifU d_2 (
bindO (elsD u7) fun l_3=>
bindO (idxD u9 l_3.length) fun i_4=>
bindO (l_3[i_4]?) fun d_5=>
chkK (bz d_5) (
bindO (mmD P .max [3,3] (Call.mk (Callee.builtin Builtin.max) #[(Operand.tmp 13),(Operand.tmp 14)] #[3,3]) 3 [u0,d_5]) fun d_6=>
bindO (binD P BinOp.add 3 (Operand.tmp 9) (Operand.const (Value.int IntKind.i64 1)) u9 (D.v (Value.int IntKind.i64 1))) fun d_7=>
b1 d_6 u7 u8 d_7)) (
some u0)
noncomputable def Fy(m1:Nat):=B100_1 pc k m1
noncomputable def Fk:Nat→(D→D→D→D→Option D):=recF (Fy pc k) (fun _ _ _ _=>none)
theorem h100_1(m1:Nat):Lk pc rk k m1=Fy pc k m1 (R100_1 pc rk k m1):=by kernel_rfl
theorem q100_1(m:Nat):Lk pc rk k m=Fk pc k m:=recS (h100_1 pc rk k) (by kernel_rfl) (fun m=>by kernel_rfl) m
noncomputable def Sx(pc:PC)(k:Nat)(j1:(D→D→D→D→Option D))(v0:D)(v1:D):Option D:=
bindO (elsD v1) fun l_1=>
j1 v0 v1 (lenD l_1) (D.v (Value.int IntKind.i64 0))
noncomputable def Sy:=Sx pc k (Fk pc k k)
theorem h100_0(v0:D)(v1:D):cQ P pc noY rk LA (k+1) 100 [v0,v1]=Sy pc k v0 v1:=(bqA Go.Proofs.Tryz.f100 sk gZ (by kernel_rfl)).trans (Eq.trans (b:=Sx pc k (Lk pc rk k k) v0 v1) (by kernel_rfl) (by rw[q100_1]; rfl))
noncomputable def sJ:Code:=aJ 102
noncomputable def gK:List ResultVar:=bk 102
noncomputable def vY:KA:=(bK (LvA.b (LA 102)).c (bx P pc noY rk (aq P pc noY rk 102 k) 102 (cR (cR sJ)) (LvA.b (LvA.b (LA 102))) (aw P gK) X0A (aw P gK)))
noncomputable def tZ:(Nat→KA):=(upA 0 (vY pc rk k) X0A)
noncomputable def T102_3:=fun(u25:D)=>labA (bx P pc noY rk (aq P pc noY rk 102 k) 102 (cR (cR (cR (cR (cR (cL (cL (cR sJ)))))))) (LvA.b (LvA.b (LvA.b (LvA.b (LvA.b (LvA.a (LvA.a (LvA.b (LA 102))))))))) (vY pc rk k) (tZ pc rk k) (aw P gK)) (Tr.set Tr.nil 25 (some (AV.d u25))) Tr.nil
noncomputable def T102_2:=fun(u16:D) (c1:List D)=>labA (bx P pc noY rk (aq P pc noY rk 102 k) 102 (cR (cR (cR (cL (cL (cR sJ)))))) (LvA.b (LvA.b (LvA.b (LvA.a (LvA.a (LvA.b (LA 102))))))) (vY pc rk k) (tZ pc rk k) (aw P gK)) (Tr.set (Tr.set Tr.nil 16 (some (AV.d u16))) 1 (some (AV.loc 1 0))) (Tr.set Tr.nil 1 (some (Bx.dat c1 false)))
noncomputable def T102_1:=fun(u3:D) (c1:List D)=>labA (bx P pc noY rk (aq P pc noY rk 102 k) 102 (cR (cL (cL (cR sJ)))) (LvA.b (LvA.a (LvA.a (LvA.b (LA 102))))) (vY pc rk k) (tZ pc rk k) (aw P gK)) (Tr.set (Tr.set Tr.nil 3 (some (AV.d u3))) 1 (some (AV.loc 1 0))) (Tr.set Tr.nil 1 (some (Bx.dat c1 false)))
noncomputable def B102_3(pc:PC)(k:Nat)(u25:D):Option D:=
ifU u25 (
some (D.v (Value.int IntKind.i64 1))) (
some (D.v (Value.int IntKind.i64 0)))
noncomputable def Sz:=B102_3 pc k
theorem h102_3:T102_3 pc rk k=Sz pc k:=by kernel_rfl
noncomputable def Sk(pc:PC)(k:Nat)(j3:(D→Option D))(u16:D)(c1:List D):Option D:=
ifU u16 (
some (D.v (Value.int IntKind.i64 1))) (
bindO (c1[0]?) fun d_8=>
bindO (pcD P pc 113 [d_8,(D.fn 114 [] [])]) fun d_9=>
bindO (semD P d_9 (Op.unary UnOp.not)) fun d_a=>
ifU d_a (
j3 d_a) (
bindO (c1[1]?) fun d_b=>
bindO (cutD c1 0 3) fun c_c=>
bindO (pcD P pc 115 [d_b,(D.fn 116 [(D.agg c_c)] [])]) fun d_d=>
bindO (semD P d_d (Op.unary UnOp.not)) fun d_e=>
ifU d_e (
j3 d_e) (
bindO (c1[2]?) fun d_f=>
bindO (pcD P pc 117 [d_f,(D.fn 118 [] [])]) fun d_g=>
bindO (semD P d_g (Op.unary UnOp.not)) fun d_h=>
j3 d_h)))
noncomputable def SJ:=Sk pc k (Sz pc k)
theorem h102_2:T102_2 pc rk k=SJ pc k:=Eq.trans (b:=Sk pc k (T102_3 pc rk k)) (by kernel_rfl) (by rw[h102_3]; rfl)
noncomputable def SQ(pc:PC)(k:Nat)(j2:(D→List D→Option D))(u3:D)(c1:List D):Option D:=
ifU u3 (
some (D.v (Value.int IntKind.i64 3))) (
bindO (c1[0]?) fun d_5=>
bindO (elsD d_5) fun l_6=>
bindO (binD P BinOp.eql 3 (Operand.tmp 19) (Operand.const (Value.int IntKind.i64 0)) (lenD l_6) (D.v (Value.int IntKind.i64 0))) fun d_7=>
ifU d_7 (
j2 d_7 c1) (
bindO (c1[2]?) fun d_i=>
bindO (elsD d_i) fun l_j=>
bindO (binD P BinOp.eql 3 (Operand.tmp 23) (Operand.const (Value.int IntKind.i64 0)) (lenD l_j) (D.v (Value.int IntKind.i64 0))) fun d_k=>
j2 d_k c1))
noncomputable def SV:=SQ pc k (SJ pc k)
theorem h102_1:T102_1 pc rk k=SV pc k:=Eq.trans (b:=SQ pc k (T102_2 pc rk k)) (by kernel_rfl) (by rw[h102_2]; rfl)
noncomputable def SW(pc:PC)(k:Nat)(j1:(D→List D→Option D))(v0:D):Option D:=
bindO (aggD v0) fun c_1=>
bindO (c_1[0]?) fun d_2=>
bindO (elsD d_2) fun l_3=>
bindO (binD P BinOp.gtr 3 (Operand.tmp 6) (Operand.const (Value.int IntKind.i64 8)) (lenD l_3) (D.v (Value.int IntKind.i64 8))) fun d_4=>
ifU d_4 (
j1 d_4 c_1) (
bindO (c_1[1]?) fun d_l=>
bindO (elsD d_l) fun l_m=>
bindO (binD P BinOp.gtr 3 (Operand.tmp 10) (Operand.const (Value.int IntKind.i64 16)) (lenD l_m) (D.v (Value.int IntKind.i64 16))) fun d_n=>
ifU d_n (
j1 d_n c_1) (
bindO (c_1[2]?) fun d_o=>
bindO (elsD d_o) fun l_p=>
bindO (binD P BinOp.gtr 3 (Operand.tmp 14) (Operand.const (Value.int IntKind.i64 3)) (lenD l_p) (D.v (Value.int IntKind.i64 3))) fun d_q=>
j1 d_q c_1))
noncomputable def SX:=SW pc k (SV pc k)
theorem h102_0(v0:D):cQ P pc noY rk LA (k+1) 102 [v0]=SX pc k v0:=(bqA Go.Proofs.Tryz.f102 sJ gK (by kernel_rfl)).trans (Eq.trans (b:=SW pc k (T102_1 pc rk k) v0) (by kernel_rfl) (by rw[h102_1]; rfl))
noncomputable def sQ:Code:=aJ 103
noncomputable def hY:List ResultVar:=bk 103
noncomputable def CV:KA:=(bK (LvA.b (LA 103)).c (bx P pc noY rk (aq P pc noY rk 103 k) 103 (cR (cR sQ)) (LvA.b (LvA.b (LA 103))) (aw P hY) X0A (aw P hY)))
noncomputable def qV:(Nat→KA):=(upA 0 (CV pc rk k) X0A)
noncomputable def LJ(m1:Nat):KA:=(bK (LvA.a (LvA.b (LvA.a (LvA.b (LA 103))))).c (aq P pc noY rk 103 m1 (LvA.a (LvA.b (LvA.a (LvA.b (LA 103))))) (cL (cR (cL (cR sQ)))) (CV pc rk k) (qV pc rk k) (aw P hY)))
noncomputable def LQ(m1:Nat):=fun(u0:D) (u3:D)=>labA (bx P pc noY rk (aq P pc noY rk 103 m1) 103 (cL (cL (cR (cL (cR sQ))))) (LvA.a (LvA.a (LvA.b (LvA.a (LvA.b (LA 103)))))) (LJ pc rk k m1) (qV pc rk k) (aw P hY)) (Tr.set (Tr.set Tr.nil 3 (some (AV.d u3))) 0 (some (AV.d u0))) Tr.nil
noncomputable def R103_1(m1:Nat):(D→D→Option D):=fun u0 u3=>labA (aq P pc noY rk 103 m1 (LvA.a (LvA.b (LvA.a (LvA.b (LA 103))))) (cL (cR (cL (cR sQ)))) (CV pc rk k) (qV pc rk k) (aw P hY)) (Tr.set (Tr.set Tr.nil 3 (some (AV.d u3))) 0 (some (AV.d u0))) Tr.nil
noncomputable def B103_1(pc:PC)(k:Nat)(m1:Nat)(b1:(D→D→Option D))(u0:D)(u3:D):Option D:=
bindO (elsD u0) fun l_1=>
bindO (binD P BinOp.lss 3 (Operand.tmp 4) (Operand.tmp 6) u3 (lenD l_1)) fun d_2=>
ifU d_2 (
bindO (elsD u0) fun l_3=>
bindO (idxD u3 l_3.length) fun i_4=>
bindO (l_3[i_4]?) fun d_5=>
chkK (bz d_5) (
bindO (binD P BinOp.sub 3 (Operand.tmp 15) (Operand.const (Value.int IntKind.i64 1)) u3 (D.v (Value.int IntKind.i64 1))) fun d_6=>
bindO (elsD u0) fun l_7=>
bindO (idxD d_6 l_7.length) fun i_8=>
bindO (l_7[i_8]?) fun d_9=>
chkK (bz d_9) (
bindO (binD P BinOp.leq 3 (Operand.tmp 13) (Operand.tmp 18) d_5 d_9) fun d_a=>
ifU d_a (
some (D.v (Value.bool false))) (
bindO (binD P BinOp.add 3 (Operand.tmp 8) (Operand.const (Value.int IntKind.i64 1)) u3 (D.v (Value.int IntKind.i64 1))) fun d_b=>
b1 u0 d_b)))) (
some (D.v (Value.bool true)))
noncomputable def FJ(m1:Nat):=B103_1 pc k m1
noncomputable def FQ:Nat→(D→D→Option D):=recF (FJ pc k) (fun _ _=>none)
theorem h103_1(m1:Nat):LQ pc rk k m1=FJ pc k m1 (R103_1 pc rk k m1):=by kernel_rfl
theorem q103_1(m:Nat):LQ pc rk k m=FQ pc k m:=recS (h103_1 pc rk k) (by kernel_rfl) (fun m=>by kernel_rfl) m
noncomputable def SY(pc:PC)(k:Nat)(j1:(D→D→Option D))(v0:D):Option D:=
j1 v0 (D.v (Value.int IntKind.i64 1))
noncomputable def SZ:=SY pc k (FQ pc k k)
theorem h103_0(v0:D):cQ P pc noY rk LA (k+1) 103 [v0]=SZ pc k v0:=(bqA Go.Proofs.Tryz.f103 sQ hY (by kernel_rfl)).trans (Eq.trans (b:=SY pc k (LQ pc rk k k) v0) (by kernel_rfl) (by rw[q103_1]; rfl))
noncomputable def code104:Code:=aJ 104
noncomputable def LV:List ResultVar:=bk 104
noncomputable def B104_0(pc:PC)(k:Nat)(v0:D)(v1:D):Option D:=
chkK (bz v0) (
chkK (bz v1) (
some (D.fn 119 [] [(D.ref [v0]),(D.ref [v1])])))
noncomputable def SK:=B104_0 pc k
theorem h104_0(v0:D)(v1:D):cQ P pc noY rk LA (k+1) 104 [v0,v1]=SK pc k v0 v1:=(bqA Go.Proofs.Tryz.f104 code104 LV (by kernel_rfl)).trans (by kernel_rfl)
noncomputable def code105:Code:=aJ 105
noncomputable def results105:List ResultVar:=bk 105
noncomputable def B105_0(pc:PC)(k:Nat)(v0:D)(v1:D):Option D:=
bindO (pcD P pc 35 [v0,(D.v (Value.int IntKind.i64 0)),v1]) fun d_1=>
ifU d_1 (
bindO (binD P BinOp.leq 3 (Operand.tmp 9) (Operand.const (Value.int IntKind.i64 1000)) v1 (D.v (Value.int IntKind.i64 1000))) fun d_2=>
some d_2) (
some (D.v (Value.bool false)))
noncomputable def C105_0:=B105_0 pc k
theorem h105_0(v0:D)(v1:D):cQ P pc noY rk LA (k+1) 105 [v0,v1]=C105_0 pc k v0 v1:=(bqA Go.Proofs.Tryz.f105 code105 results105 (by kernel_rfl)).trans (by kernel_rfl)
noncomputable def code106:Code:=aJ 106
noncomputable def LW:List ResultVar:=bk 106
noncomputable def B106_0(pc:PC)(k:Nat)(v0:D):Option D:=
chkK (bz v0) (
some (D.fn 120 [] [(D.ref [v0])]))
noncomputable def Tj:=B106_0 pc k
theorem h106_0(v0:D):cQ P pc noY rk LA (k+1) 106 [v0]=Tj pc k v0:=(bqA Go.Proofs.Tryz.f106 code106 LW (by kernel_rfl)).trans (by kernel_rfl)
noncomputable def code107:Code:=aJ 107
noncomputable def LX:List ResultVar:=bk 107
noncomputable def B107_0(pc:PC)(k:Nat)(v0:D):Option D:=
bindO (binD P BinOp.neq 3 (Operand.tmp 3) (Operand.tmp 4) v0 v0) fun d_1=>
some d_1
noncomputable def Tq:=B107_0 pc k
theorem h107_0(v0:D):cQ P pc noY rk LA (k+1) 107 [v0]=Tq pc k v0:=(bqA Go.Proofs.Tryz.f107 code107 LX (by kernel_rfl)).trans (by kernel_rfl)
noncomputable def sV:Code:=aJ 113
noncomputable def ij:List ResultVar:=bk 113
noncomputable def CW:KA:=(bK (LvA.b (LA 113)).c (bx P pc noY rk (aq P pc noY rk 113 k) 113 (cR (cR sV)) (LvA.b (LvA.b (LA 113))) (aw P ij) X0A (aw P ij)))
noncomputable def qW:(Nat→KA):=(upA 0 (CW pc rk k) X0A)
noncomputable def LY(m1:Nat):KA:=(bK (LvA.a (LvA.b (LvA.a (LvA.b (LA 113))))).c (aq P pc noY rk 113 m1 (LvA.a (LvA.b (LvA.a (LvA.b (LA 113))))) (cL (cR (cL (cR sV)))) (CW pc rk k) (qW pc rk k) (aw P ij)))
noncomputable def LZ(m1:Nat):=fun(u1:D) (u7:D) (u8:D) (u9:D)=>labA (bx P pc noY rk (aq P pc noY rk 113 m1) 113 (cL (cL (cR (cL (cR sV))))) (LvA.a (LvA.a (LvA.b (LvA.a (LvA.b (LA 113)))))) (LY pc rk k m1) (qW pc rk k) (aw P ij)) (Tr.set (Tr.set (Tr.set (Tr.set Tr.nil 9 (some (AV.d u9))) 8 (some (AV.d u8))) 7 (some (AV.d u7))) 1 (some (AV.d u1))) Tr.nil
noncomputable def R113_1(m1:Nat):(D→D→D→D→Option D):=fun u1 u7 u8 u9=>labA (aq P pc noY rk 113 m1 (LvA.a (LvA.b (LvA.a (LvA.b (LA 113))))) (cL (cR (cL (cR sV)))) (CW pc rk k) (qW pc rk k) (aw P ij)) (Tr.set (Tr.set (Tr.set (Tr.set Tr.nil 9 (some (AV.d u9))) 8 (some (AV.d u8))) 7 (some (AV.d u7))) 1 (some (AV.d u1))) Tr.nil
noncomputable def B113_1(pc:PC)(k:Nat)(m1:Nat)(b1:(D→D→D→D→Option D))(u1:D)(u7:D)(u8:D)(u9:D):Option D:=
bindO (binD P BinOp.lss 3 (Operand.tmp 9) (Operand.tmp 8) u9 u8) fun d_2=>
ifU d_2 (
bindO (elsD u7) fun l_3=>
bindO (idxD u9 l_3.length) fun i_4=>
bindO (l_3[i_4]?) fun d_5=>
bindO (aggD d_5) fun c_6=>
chkK (Nat.beq c_6.length 2) (
bindO (cutD c_6 0 2) fun c_7=>
bindO (splD [(D.v (Value.int IntKind.i64 0)),(D.v (Value.int IntKind.i64 0))] 0 c_7 2) fun c_8=>
bindO (cutD c_8 0 2) fun c_9=>
fnK u1 fun g a b=>
bindO (pcD P pc g (a++[(D.agg c_9)]++b)) fun d_a=>
bindO (semD P d_a (Op.unary UnOp.not)) fun d_b=>
ifU d_b (
some (D.v (Value.bool false))) (
bindO (binD P BinOp.add 3 (Operand.tmp 9) (Operand.const (Value.int IntKind.i64 1)) u9 (D.v (Value.int IntKind.i64 1))) fun d_c=>
b1 u1 u7 u8 d_c))) (
some (D.v (Value.bool true)))
noncomputable def FV(m1:Nat):=B113_1 pc k m1
noncomputable def FW:Nat→(D→D→D→D→Option D):=recF (FV pc k) (fun _ _ _ _=>none)
theorem h113_1(m1:Nat):LZ pc rk k m1=FV pc k m1 (R113_1 pc rk k m1):=by kernel_rfl
theorem q113_1(m:Nat):LZ pc rk k m=FW pc k m:=recS (h113_1 pc rk k) (by kernel_rfl) (fun m=>by kernel_rfl) m
noncomputable def Tv(pc:PC)(k:Nat)(j1:(D→D→D→D→Option D))(v0:D)(v1:D):Option D:=
bindO (elsD v0) fun l_1=>
j1 v1 v0 (lenD l_1) (D.v (Value.int IntKind.i64 0))
noncomputable def Tw:=Tv pc k (FW pc k k)
theorem h113_0(v0:D)(v1:D):cQ P pc noY rk LA (k+1) 113 [v0,v1]=Tw pc k v0 v1:=(bqA Go.Proofs.Tryz.f113 sV ij (by kernel_rfl)).trans (Eq.trans (b:=Tv pc k (LZ pc rk k k) v0 v1) (by kernel_rfl) (by rw[q113_1]; rfl))
noncomputable def code114:Code:=aJ 114
noncomputable def Mj:List ResultVar:=bk 114
noncomputable def B114_0(pc:PC)(k:Nat)(v0:D):Option D:=
bindO (aggD v0) fun c_1=>
bindO (c_1[0]?) fun d_2=>
bindO (binD P BinOp.geq 3 (Operand.tmp 4) (Operand.const (Value.int IntKind.i64 0)) d_2 (D.v (Value.int IntKind.i64 0))) fun d_3=>
ifU d_3 (
bindO (c_1[0]?) fun d_4=>
bindO (c_1[1]?) fun d_5=>
bindO (binD P BinOp.leq 3 (Operand.tmp 8) (Operand.tmp 10) d_4 d_5) fun d_6=>
ifU d_6 (
bindO (c_1[1]?) fun d_7=>
bindO (binD P BinOp.leq 3 (Operand.tmp 15) (Operand.const (Value.int IntKind.i64 1000)) d_7 (D.v (Value.int IntKind.i64 1000))) fun d_8=>
some d_8) (
some (D.v (Value.bool false)))) (
some (D.v (Value.bool false)))
noncomputable def Tx:=B114_0 pc k
theorem h114_0(v0:D):cQ P pc noY rk LA (k+1) 114 [v0]=Tx pc k v0:=(bqA Go.Proofs.Tryz.f114 code114 Mj (by kernel_rfl)).trans (by kernel_rfl)
noncomputable def sW:Code:=aJ 115
noncomputable def iq:List ResultVar:=bk 115
noncomputable def CX:KA:=(bK (LvA.b (LA 115)).c (bx P pc noY rk (aq P pc noY rk 115 k) 115 (cR (cR sW)) (LvA.b (LvA.b (LA 115))) (aw P iq) X0A (aw P iq)))
noncomputable def qX:(Nat→KA):=(upA 0 (CX pc rk k) X0A)
noncomputable def Mq(m1:Nat):KA:=(bK (LvA.a (LvA.b (LvA.a (LvA.b (LA 115))))).c (aq P pc noY rk 115 m1 (LvA.a (LvA.b (LvA.a (LvA.b (LA 115))))) (cL (cR (cL (cR sW)))) (CX pc rk k) (qX pc rk k) (aw P iq)))
noncomputable def Mv(m1:Nat):=fun(u1:D) (u7:D) (u8:D) (u9:D)=>labA (bx P pc noY rk (aq P pc noY rk 115 m1) 115 (cL (cL (cR (cL (cR sW))))) (LvA.a (LvA.a (LvA.b (LvA.a (LvA.b (LA 115)))))) (Mq pc rk k m1) (qX pc rk k) (aw P iq)) (Tr.set (Tr.set (Tr.set (Tr.set Tr.nil 9 (some (AV.d u9))) 8 (some (AV.d u8))) 7 (some (AV.d u7))) 1 (some (AV.d u1))) Tr.nil
noncomputable def R115_1(m1:Nat):(D→D→D→D→Option D):=fun u1 u7 u8 u9=>labA (aq P pc noY rk 115 m1 (LvA.a (LvA.b (LvA.a (LvA.b (LA 115))))) (cL (cR (cL (cR sW)))) (CX pc rk k) (qX pc rk k) (aw P iq)) (Tr.set (Tr.set (Tr.set (Tr.set Tr.nil 9 (some (AV.d u9))) 8 (some (AV.d u8))) 7 (some (AV.d u7))) 1 (some (AV.d u1))) Tr.nil
noncomputable def B115_1(pc:PC)(k:Nat)(m1:Nat)(b1:(D→D→D→D→Option D))(u1:D)(u7:D)(u8:D)(u9:D):Option D:=
bindO (binD P BinOp.lss 3 (Operand.tmp 9) (Operand.tmp 8) u9 u8) fun d_2=>
ifU d_2 (
bindO (elsD u7) fun l_3=>
bindO (idxD u9 l_3.length) fun i_4=>
bindO (l_3[i_4]?) fun d_5=>
bindO (aggD d_5) fun c_6=>
chkK (Nat.beq c_6.length 2) (
bindO (cutD c_6 0 2) fun c_7=>
bindO (splD [(D.v (Value.int IntKind.i64 0)),(D.v (Value.int IntKind.i64 0))] 0 c_7 2) fun c_8=>
bindO (cutD c_8 0 2) fun c_9=>
fnK u1 fun g a b=>
bindO (pcD P pc g (a++[(D.agg c_9)]++b)) fun d_a=>
bindO (semD P d_a (Op.unary UnOp.not)) fun d_b=>
ifU d_b (
some (D.v (Value.bool false))) (
bindO (binD P BinOp.add 3 (Operand.tmp 9) (Operand.const (Value.int IntKind.i64 1)) u9 (D.v (Value.int IntKind.i64 1))) fun d_c=>
b1 u1 u7 u8 d_c))) (
some (D.v (Value.bool true)))
noncomputable def FX(m1:Nat):=B115_1 pc k m1
noncomputable def FY:Nat→(D→D→D→D→Option D):=recF (FX pc k) (fun _ _ _ _=>none)
theorem h115_1(m1:Nat):Mv pc rk k m1=FX pc k m1 (R115_1 pc rk k m1):=by kernel_rfl
theorem q115_1(m:Nat):Mv pc rk k m=FY pc k m:=recS (h115_1 pc rk k) (by kernel_rfl) (fun m=>by kernel_rfl) m
noncomputable def Tz(pc:PC)(k:Nat)(j1:(D→D→D→D→Option D))(v0:D)(v1:D):Option D:=
bindO (elsD v0) fun l_1=>
j1 v1 v0 (lenD l_1) (D.v (Value.int IntKind.i64 0))
noncomputable def Tk:=Tz pc k (FY pc k k)
theorem h115_0(v0:D)(v1:D):cQ P pc noY rk LA (k+1) 115 [v0,v1]=Tk pc k v0 v1:=(bqA Go.Proofs.Tryz.f115 sW iq (by kernel_rfl)).trans (Eq.trans (b:=Tz pc k (Mv pc rk k k) v0 v1) (by kernel_rfl) (by rw[q115_1]; rfl))
noncomputable def lz:Code:=aJ 116
noncomputable def eX:List ResultVar:=bk 116
noncomputable def yx:KA:=(bK (LvA.b (LvA.b (LA 116))).c (bx P pc noY rk (aq P pc noY rk 116 k) 116 (cR (cR (cR lz))) (LvA.b (LvA.b (LvA.b (LA 116)))) (aw P eX) X0A (aw P eX)))
noncomputable def fV:(Nat→KA):=(upA 0 (yx pc rk k) X0A)
noncomputable def nK(m1:Nat):KA:=(bK (LvA.a (LvA.b (LvA.a (LvA.b (LvA.b (LA 116)))))).c (aq P pc noY rk 116 m1 (LvA.a (LvA.b (LvA.a (LvA.b (LvA.b (LA 116)))))) (cL (cR (cL (cR (cR lz))))) (yx pc rk k) (fV pc rk k) (aw P eX)))
noncomputable def sX(m1:Nat):KA:=(bK (LvA.b (LvA.b (LvA.a (LvA.a (LvA.b (LvA.a (LvA.b (LvA.b (LA 116))))))))).c (bx P pc noY rk (aq P pc noY rk 116 m1) 116 (cR (cR (cR (cL (cL (cR (cL (cR (cR lz))))))))) (LvA.b (LvA.b (LvA.b (LvA.a (LvA.a (LvA.b (LvA.a (LvA.b (LvA.b (LA 116)))))))))) (nK pc rk k m1) (fV pc rk k) (aw P eX)))
noncomputable def K116_pxrrlrllrrl(m1:Nat):(Nat→KA):=(upA 1 (sX pc rk k m1) (fV pc rk k))
noncomputable def T116_3(m1:Nat):=fun(u5:D) (u9:D) (u10:D) (u11:D) (c2:List D) (c3:List D)=>labA (bx P pc noY rk (aq P pc noY rk 116 m1) 116 (cR (cR (cR (cL (cL (cR (cL (cR (cR lz))))))))) (LvA.b (LvA.b (LvA.b (LvA.a (LvA.a (LvA.b (LvA.a (LvA.b (LvA.b (LA 116)))))))))) (nK pc rk k m1) (fV pc rk k) (aw P eX)) (Tr.set (Tr.set (Tr.set (Tr.set (Tr.set (Tr.set Tr.nil 11 (some (AV.d u11))) 10 (some (AV.d u10))) 9 (some (AV.d u9))) 5 (some (AV.d u5))) 3 (some (AV.loc 3 0))) 2 (some (AV.loc 2 0))) (Tr.set (Tr.set Tr.nil 3 (some (Bx.dat c3 false))) 2 (some (Bx.dat c2 false)))
noncomputable def T116_2(m1:Nat):=fun(u5:D) (u9:D) (u10:D) (u11:D) (u26:D) (c2:List D) (c3:List D)=>labA (bx P pc noY rk (aq P pc noY rk 116 m1) 116 (cR (cR (cL (cL (cR (cR (cL (cL (cR (cL (cR (cR lz)))))))))))) (LvA.b (LvA.b (LvA.a (LvA.a (LvA.b (LvA.b (LvA.a (LvA.a (LvA.b (LvA.a (LvA.b (LvA.b (LA 116))))))))))))) (sX pc rk k m1) (K116_pxrrlrllrrl pc rk k m1) (aw P eX)) (Tr.set (Tr.set (Tr.set (Tr.set (Tr.set (Tr.set (Tr.set Tr.nil 26 (some (AV.d u26))) 11 (some (AV.d u11))) 10 (some (AV.d u10))) 9 (some (AV.d u9))) 5 (some (AV.d u5))) 3 (some (AV.loc 3 0))) 2 (some (AV.loc 2 0))) (Tr.set (Tr.set Tr.nil 3 (some (Bx.dat c3 false))) 2 (some (Bx.dat c2 false)))
noncomputable def Mw(m1:Nat):=fun(u5:D) (u9:D) (u10:D) (u11:D) (c2:List D) (c3:List D)=>labA (bx P pc noY rk (aq P pc noY rk 116 m1) 116 (cL (cL (cR (cL (cR (cR lz)))))) (LvA.a (LvA.a (LvA.b (LvA.a (LvA.b (LvA.b (LA 116))))))) (nK pc rk k m1) (fV pc rk k) (aw P eX)) (Tr.set (Tr.set (Tr.set (Tr.set (Tr.set (Tr.set Tr.nil 11 (some (AV.d u11))) 10 (some (AV.d u10))) 9 (some (AV.d u9))) 5 (some (AV.d u5))) 3 (some (AV.loc 3 0))) 2 (some (AV.loc 2 0))) (Tr.set (Tr.set Tr.nil 3 (some (Bx.dat c3 false))) 2 (some (Bx.dat c2 false)))
noncomputable def CY(m1:Nat):(D→D→D→D→List D→List D→Option D):=fun u5 u9 u10 u11 c2 c3=>labA (aq P pc noY rk 116 m1 (LvA.a (LvA.b (LvA.a (LvA.b (LvA.b (LA 116)))))) (cL (cR (cL (cR (cR lz))))) (yx pc rk k) (fV pc rk k) (aw P eX)) (Tr.set (Tr.set (Tr.set (Tr.set (Tr.set (Tr.set Tr.nil 11 (some (AV.d u11))) 10 (some (AV.d u10))) 9 (some (AV.d u9))) 5 (some (AV.d u5))) 3 (some (AV.loc 3 0))) 2 (some (AV.loc 2 0))) (Tr.set (Tr.set Tr.nil 3 (some (Bx.dat c3 false))) 2 (some (Bx.dat c2 false)))
noncomputable def B116_3(pc:PC)(k:Nat)(m1:Nat)(b1:(D→D→D→D→List D→List D→Option D))(u5:D)(u9:D)(u10:D)(u11:D)(c2:List D)(c3:List D):Option D:=
bindO (binD P BinOp.add 3 (Operand.tmp 11) (Operand.const (Value.int IntKind.i64 1)) u11 (D.v (Value.int IntKind.i64 1))) fun d_g=>
b1 u5 u9 u10 d_g c2 c3
noncomputable def C116_3(m1:Nat):=B116_3 pc k m1
theorem h116_3(m1:Nat):T116_3 pc rk k m1=C116_3 pc k m1 (CY pc rk k m1):=by kernel_rfl
noncomputable def B116_2(pc:PC)(k:Nat)(m1:Nat)(j3:(D→D→D→D→List D→List D→Option D))(b1:(D→D→D→D→List D→List D→Option D))(u5:D)(u9:D)(u10:D)(u11:D)(u26:D)(c2:List D)(c3:List D):Option D:=
ifU u26 (
bindO (binD P BinOp.add 3 (Operand.tmp 27) (Operand.const (Value.int IntKind.i64 1)) u5 (D.v (Value.int IntKind.i64 1))) fun d_f=>
j3 d_f u9 u10 u11 c2 c3) (
j3 u5 u9 u10 u11 c2 c3)
noncomputable def TJ(m1:Nat)(b1:(D→D→D→D→List D→List D→Option D)):=B116_2 pc k m1 (C116_3 pc k m1 b1) b1
theorem h116_2(m1:Nat):T116_2 pc rk k m1=TJ pc k m1 (CY pc rk k m1):=Eq.trans (b:=B116_2 pc k m1 (T116_3 pc rk k m1) (CY pc rk k m1)) (by kernel_rfl) (by rw[h116_3]; rfl)
noncomputable def Mx(pc:PC)(k:Nat)(m1:Nat)(j2:(D→D→D→D→D→List D→List D→Option D))(b1:(D→D→D→D→List D→List D→Option D))(u5:D)(u9:D)(u10:D)(u11:D)(c2:List D)(c3:List D):Option D:=
bindO (binD P BinOp.lss 3 (Operand.tmp 11) (Operand.tmp 10) u11 u10) fun d_5=>
ifU d_5 (
bindO (elsD u9) fun l_6=>
bindO (idxD u11 l_6.length) fun i_7=>
bindO (l_6[i_7]?) fun d_8=>
bindO (aggD d_8) fun c_9=>
chkK (Nat.beq c_9.length 2) (
bindO (cutD c_9 0 2) fun c_a=>
bindO (splD [(D.v (Value.int IntKind.i64 0)),(D.v (Value.int IntKind.i64 0))] 0 c_a 2) fun c_b=>
bindO (cutD c_b 0 2) fun c_c=>
bindO (cutD c3 0 2) fun c_d=>
bindO (binD P BinOp.eql 131 (Operand.tmp 15) (Operand.tmp 16) (D.agg c_c) (D.agg c_d)) fun d_e=>
ifU d_e (
j2 u5 u9 u10 u11 (D.v (Value.bool true)) c2 c3) (
bindO (cutD c_b 0 2) fun c_h=>
bindO (c3[1]?) fun d_i=>
bindO (c3[0]?) fun d_j=>
chkK (bz d_i) (
chkK (bz d_j) (
bindO (binD P BinOp.eql 131 (Operand.tmp 19) (Operand.tmp 24) (D.agg c_h) (D.agg [d_i,d_j])) fun d_k=>
j2 u5 u9 u10 u11 d_k c2 c3))))) (
bindO (cutD c2 0 3) fun c_l=>
bindO (c3[0]?) fun d_m=>
bindO (pcD P pc 128 [(D.agg c_l),d_m]) fun d_n=>
ifU d_n (
bindO (cutD c2 0 3) fun c_o=>
bindO (c3[1]?) fun d_p=>
bindO (pcD P pc 128 [(D.agg c_o),d_p]) fun d_q=>
ifU d_q (
bindO (c3[0]?) fun d_r=>
bindO (c3[1]?) fun d_s=>
bindO (binD P BinOp.neq 3 (Operand.tmp 42) (Operand.tmp 44) d_r d_s) fun d_t=>
ifU d_t (
bindO (binD P BinOp.eql 3 (Operand.tmp 48) (Operand.const (Value.int IntKind.i64 1)) u5 (D.v (Value.int IntKind.i64 1))) fun d_u=>
some d_u) (
some (D.v (Value.bool false)))) (
some (D.v (Value.bool false)))) (
some (D.v (Value.bool false))))
noncomputable def FZ(m1:Nat)(b1:(D→D→D→D→List D→List D→Option D)):=Mx pc k m1 (TJ pc k m1 b1) b1
noncomputable def FK:Nat→(D→D→D→D→List D→List D→Option D):=recF (FZ pc k) (fun _ _ _ _ _ _=>none)
theorem h116_1(m1:Nat):Mw pc rk k m1=FZ pc k m1 (CY pc rk k m1):=Eq.trans (b:=Mx pc k m1 (T116_2 pc rk k m1) (CY pc rk k m1)) (by kernel_rfl) (by rw[h116_2]; rfl)
theorem q116_1(m:Nat):Mw pc rk k m=FK pc k m:=recS (h116_1 pc rk k) (by kernel_rfl) (fun m=>by kernel_rfl) m
noncomputable def TQ(pc:PC)(k:Nat)(j1:(D→D→D→D→List D→List D→Option D))(v0:D)(v1:D):Option D:=
bindO (aggD v0) fun c_1=>
bindO (aggD v1) fun c_2=>
bindO (c_1[1]?) fun d_3=>
bindO (elsD d_3) fun l_4=>
j1 (D.v (Value.int IntKind.i64 0)) d_3 (lenD l_4) (D.v (Value.int IntKind.i64 0)) c_1 c_2
noncomputable def TV:=TQ pc k (FK pc k k)
theorem h116_0(v0:D)(v1:D):cQ P pc noY rk LA (k+1) 116 [v0,v1]=TV pc k v0 v1:=(bqA Go.Proofs.Tryz.f116 lz eX (by kernel_rfl)).trans (Eq.trans (b:=TQ pc k (Mw pc rk k k) v0 v1) (by kernel_rfl) (by rw[q116_1]; rfl))
noncomputable def sY:Code:=aJ 117
noncomputable def iw:List ResultVar:=bk 117
noncomputable def CZ:KA:=(bK (LvA.b (LA 117)).c (bx P pc noY rk (aq P pc noY rk 117 k) 117 (cR (cR sY)) (LvA.b (LvA.b (LA 117))) (aw P iw) X0A (aw P iw)))
noncomputable def qY:(Nat→KA):=(upA 0 (CZ pc rk k) X0A)
noncomputable def My(m1:Nat):KA:=(bK (LvA.a (LvA.b (LvA.a (LvA.b (LA 117))))).c (aq P pc noY rk 117 m1 (LvA.a (LvA.b (LvA.a (LvA.b (LA 117))))) (cL (cR (cL (cR sY)))) (CZ pc rk k) (qY pc rk k) (aw P iw)))
noncomputable def Mz(m1:Nat):=fun(u1:D) (u7:D) (u8:D) (u9:D)=>labA (bx P pc noY rk (aq P pc noY rk 117 m1) 117 (cL (cL (cR (cL (cR sY))))) (LvA.a (LvA.a (LvA.b (LvA.a (LvA.b (LA 117)))))) (My pc rk k m1) (qY pc rk k) (aw P iw)) (Tr.set (Tr.set (Tr.set (Tr.set Tr.nil 9 (some (AV.d u9))) 8 (some (AV.d u8))) 7 (some (AV.d u7))) 1 (some (AV.d u1))) Tr.nil
noncomputable def R117_1(m1:Nat):(D→D→D→D→Option D):=fun u1 u7 u8 u9=>labA (aq P pc noY rk 117 m1 (LvA.a (LvA.b (LvA.a (LvA.b (LA 117))))) (cL (cR (cL (cR sY)))) (CZ pc rk k) (qY pc rk k) (aw P iw)) (Tr.set (Tr.set (Tr.set (Tr.set Tr.nil 9 (some (AV.d u9))) 8 (some (AV.d u8))) 7 (some (AV.d u7))) 1 (some (AV.d u1))) Tr.nil
noncomputable def B117_1(pc:PC)(k:Nat)(m1:Nat)(b1:(D→D→D→D→Option D))(u1:D)(u7:D)(u8:D)(u9:D):Option D:=
bindO (binD P BinOp.lss 3 (Operand.tmp 9) (Operand.tmp 8) u9 u8) fun d_2=>
ifU d_2 (
bindO (elsD u7) fun l_3=>
bindO (idxD u9 l_3.length) fun i_4=>
bindO (l_3[i_4]?) fun d_5=>
bindO (aggD d_5) fun c_6=>
chkK (Nat.beq c_6.length 5) (
bindO (cutD c_6 0 5) fun c_7=>
bindO (splD [(D.v (Value.int IntKind.i64 0)),(D.v (Value.int IntKind.i64 0)),(D.v (Value.int IntKind.i64 0)),(D.v (Value.int IntKind.i64 0)),(D.v (Value.int IntKind.i64 0))] 0 c_7 5) fun c_8=>
bindO (cutD c_8 0 5) fun c_9=>
fnK u1 fun g a b=>
bindO (pcD P pc g (a++[(D.agg c_9)]++b)) fun d_a=>
bindO (semD P d_a (Op.unary UnOp.not)) fun d_b=>
ifU d_b (
some (D.v (Value.bool false))) (
bindO (binD P BinOp.add 3 (Operand.tmp 9) (Operand.const (Value.int IntKind.i64 1)) u9 (D.v (Value.int IntKind.i64 1))) fun d_c=>
b1 u1 u7 u8 d_c))) (
some (D.v (Value.bool true)))
noncomputable def Gj(m1:Nat):=B117_1 pc k m1
noncomputable def Gq:Nat→(D→D→D→D→Option D):=recF (Gj pc k) (fun _ _ _ _=>none)
theorem h117_1(m1:Nat):Mz pc rk k m1=Gj pc k m1 (R117_1 pc rk k m1):=by kernel_rfl
theorem q117_1(m:Nat):Mz pc rk k m=Gq pc k m:=recS (h117_1 pc rk k) (by kernel_rfl) (fun m=>by kernel_rfl) m
noncomputable def TW(pc:PC)(k:Nat)(j1:(D→D→D→D→Option D))(v0:D)(v1:D):Option D:=
bindO (elsD v0) fun l_1=>
j1 v1 v0 (lenD l_1) (D.v (Value.int IntKind.i64 0))
noncomputable def TX:=TW pc k (Gq pc k k)
theorem h117_0(v0:D)(v1:D):cQ P pc noY rk LA (k+1) 117 [v0,v1]=TX pc k v0 v1:=(bqA Go.Proofs.Tryz.f117 sY iw (by kernel_rfl)).trans (Eq.trans (b:=TW pc k (Mz pc rk k k) v0 v1) (by kernel_rfl) (by rw[q117_1]; rfl))
noncomputable def code118:Code:=aJ 118
noncomputable def Mk:List ResultVar:=bk 118
noncomputable def B118_0(pc:PC)(k:Nat)(v0:D):Option D:=
bindO (aggD v0) fun c_1=>
bindO (c_1[0]?) fun d_2=>
bindO (binD P BinOp.geq 3 (Operand.tmp 4) (Operand.const (Value.int IntKind.i64 0)) d_2 (D.v (Value.int IntKind.i64 0))) fun d_3=>
ifU d_3 (
bindO (c_1[0]?) fun d_4=>
bindO (binD P BinOp.leq 3 (Operand.tmp 8) (Operand.const (Value.int IntKind.i64 1000)) d_4 (D.v (Value.int IntKind.i64 1000))) fun d_5=>
ifU d_5 (
bindO (cutD c_1 1 2) fun c_6=>
bindO (pcD P pc 129 [(D.agg c_6)]) fun d_7=>
ifU d_7 (
bindO (cutD c_1 3 2) fun c_8=>
bindO (pcD P pc 129 [(D.agg c_8)]) fun d_9=>
some d_9) (
some (D.v (Value.bool false)))) (
some (D.v (Value.bool false)))) (
some (D.v (Value.bool false)))
noncomputable def TY:=B118_0 pc k
theorem h118_0(v0:D):cQ P pc noY rk LA (k+1) 118 [v0]=TY pc k v0:=(bqA Go.Proofs.Tryz.f118 code118 Mk (by kernel_rfl)).trans (by kernel_rfl)
noncomputable def qw:Code:=aJ 119
noncomputable def eY:List ResultVar:=bk 119
noncomputable def oq(pc:PC)(k:Nat):(Nat→KA):=(upA 0 (aw P eY) X0A)
noncomputable def Gv(m1:Nat):KA:=(bK (LvA.a (LvA.b (LA 119))).c (aq P pc lK noR 119 m1 (LvA.a (LvA.b (LA 119))) (cL (cR qw)) (aw P eY) (oq pc k) (aw P eY)))
noncomputable def zq(m1:Nat):KA:=(bK (LvA.b (LvA.b (LvA.a (LvA.a (LvA.b (LA 119)))))).c (bx P pc lK noR (aq P pc lK noR 119 m1) 119 (cR (cR (cR (cL (cL (cR qw)))))) (LvA.b (LvA.b (LvA.b (LvA.a (LvA.a (LvA.b (LA 119))))))) (Gv pc k m1) (oq pc k) (aw P eY)))
noncomputable def K119_pxrllrrl(m1:Nat):(Nat→KA):=(upA 1 (zq pc k m1) (oq pc k))
noncomputable def T119_2(m1:Nat):=fun(u0:Nat) (u1:D) (u2:D) (u10:D) (u11:D) (u27:D)=>labA (bx P pc lK noR (aq P pc lK noR 119 m1) 119 (cR (cR (cL (cL (cR (cR (cL (cL (cR qw))))))))) (LvA.b (LvA.b (LvA.a (LvA.a (LvA.b (LvA.b (LvA.a (LvA.a (LvA.b (LA 119)))))))))) (zq pc k m1) (K119_pxrllrrl pc k m1) (aw P eY)) (Tr.set (Tr.set (Tr.set (Tr.set (Tr.set (Tr.set Tr.nil 27 (some (AV.d u27))) 11 (some (AV.d u11))) 10 (some (AV.d u10))) 2 (some (AV.d u2))) 1 (some (AV.d u1))) 0 (some (AV.d (D.yld u0)))) Tr.nil
noncomputable def MJ(m1:Nat):=fun(u0:Nat) (u1:D) (u2:D) (u10:D) (u11:D)=>labA (bx P pc lK noR (aq P pc lK noR 119 m1) 119 (cL (cL (cR qw))) (LvA.a (LvA.a (LvA.b (LA 119)))) (Gv pc k m1) (oq pc k) (aw P eY)) (Tr.set (Tr.set (Tr.set (Tr.set (Tr.set Tr.nil 11 (some (AV.d u11))) 10 (some (AV.d u10))) 2 (some (AV.d u2))) 1 (some (AV.d u1))) 0 (some (AV.d (D.yld u0)))) Tr.nil
noncomputable def R119_1(m1:Nat):(Nat→D→D→D→D→Option D):=fun u0 u1 u2 u10 u11=>labA (aq P pc lK noR 119 m1 (LvA.a (LvA.b (LA 119))) (cL (cR qw)) (aw P eY) (oq pc k) (aw P eY)) (Tr.set (Tr.set (Tr.set (Tr.set (Tr.set Tr.nil 11 (some (AV.d u11))) 10 (some (AV.d u10))) 2 (some (AV.d u2))) 1 (some (AV.d u1))) 0 (some (AV.d (D.yld u0)))) Tr.nil
noncomputable def B119_2(pc:PC)(k:Nat)(m1:Nat)(b1:(Nat→D→D→D→D→Option D))(u0:Nat)(u1:D)(u2:D)(u10:D)(u11:D)(u27:D):Option D:=
ifU u27 (
some (D.tup [])) (
bindO (binD P BinOp.add 3 (Operand.tmp 11) (Operand.const (Value.int IntKind.i64 1)) u11 (D.v (Value.int IntKind.i64 1))) fun d_h=>
b1 u0 u1 u2 u10 d_h)
noncomputable def C119_2(m1:Nat):=B119_2 pc k m1
theorem h119_2(m1:Nat):T119_2 pc k m1=C119_2 pc k m1 (R119_1 pc k m1):=by kernel_rfl
noncomputable def TZ(pc:PC)(k:Nat)(m1:Nat)(j2:(Nat→D→D→D→D→D→Option D))(b1:(Nat→D→D→D→D→Option D))(u0:Nat)(u1:D)(u2:D)(u10:D)(u11:D):Option D:=
bindO (binD P BinOp.lss 3 (Operand.tmp 11) (Operand.tmp 10) u11 u10) fun d_6=>
ifU d_6 (
bindO (kz u1) fun c_7=>
bindO (c_7[0]?) fun d_8=>
nilA (AV.d d_8) (
bindO (kz d_8) fun c_9=>
bindO (idxD u11 8) fun i_a=>
bindO ((List.drop (i_a * 1) (List.drop 5 c_9))[0]?) fun d_b=>
bindO (kz u2) fun c_c=>
bindO (c_c[0]?) fun d_d=>
bindO (pcD P pc 95 [d_b,d_d]) fun d_e=>
ifU d_e (
nodeYf u0 [u11] (
bindO (semD P (D.v (Value.bool true)) (Op.unary UnOp.not)) fun d_g=>
j2 u0 u1 u2 u10 u11 d_g) (
bindO (semD P (D.v (Value.bool false)) (Op.unary UnOp.not)) fun d_i=>
j2 u0 u1 u2 u10 u11 d_i)) (
j2 u0 u1 u2 u10 u11 (D.v (Value.bool false))))) (
some (D.tup []))
noncomputable def Gw(m1:Nat)(b1:(Nat→D→D→D→D→Option D)):=TZ pc k m1 (C119_2 pc k m1 b1) b1
noncomputable def Gx:Nat→(Nat→D→D→D→D→Option D):=recF (Gw pc k) (fun _ _ _ _ _=>none)
theorem h119_1(m1:Nat):MJ pc k m1=Gw pc k m1 (R119_1 pc k m1):=Eq.trans (b:=TZ pc k m1 (T119_2 pc k m1) (R119_1 pc k m1)) (by kernel_rfl) (by rw[h119_2]; rfl)
theorem q119_1(m:Nat):MJ pc k m=Gx pc k m:=recS (h119_1 pc k) (by kernel_rfl) (fun m=>by kernel_rfl) m
noncomputable def Uj(pc:PC)(k:Nat)(j1:(Nat→D→D→D→D→Option D))(v0:Nat)(v1:D)(v2:D):Option D:=
bindO (kz v1) fun c_1=>
bindO (c_1[0]?) fun d_2=>
nilA (AV.d d_2) (
bindO (kz d_2) fun c_3=>
bindO ((List.drop 4 c_3)[0]?) fun d_4=>
bindO (elsD d_4) fun l_5=>
j1 v0 v1 v2 (lenD l_5) (D.v (Value.int IntKind.i64 0)))
noncomputable def Uq:=Uj pc k (Gx pc k k)
theorem h119_0(v0:Nat)(v1:D)(v2:D):cQ P pc lK noR LA (k+1) 119 [D.yld v0,v1,v2]=Uq pc k v0 v1 v2:=(bqY Go.Proofs.Tryz.f119 qw eY (by kernel_rfl)).trans (Eq.trans (b:=Uj pc k (MJ pc k k) v0 v1 v2) (by kernel_rfl) (by rw[q119_1]; rfl))
noncomputable def vZ:Code:=aJ 120
noncomputable def fJ:List ResultVar:=bk 120
noncomputable def yy(pc:PC)(k:Nat):(Nat→KA):=(upA 0 (aw P fJ) X0A)
noncomputable def qhz(m1:Nat):KA:=(bK (LvA.a (LvA.b (LA 120))).c (aq P pc lK noR 120 m1 (LvA.a (LvA.b (LA 120))) (cL (cR vZ)) (aw P fJ) (yy pc k) (aw P fJ)))
noncomputable def MQ(m1:Nat):=fun(u0:Nat) (u1:D) (u3:D)=>labA (bx P pc lK noR (aq P pc lK noR 120 m1) 120 (cL (cL (cR vZ))) (LvA.a (LvA.a (LvA.b (LA 120)))) (qhz pc k m1) (yy pc k) (aw P fJ)) (Tr.set (Tr.set (Tr.set Tr.nil 3 (some (AV.d u3))) 1 (some (AV.d u1))) 0 (some (AV.d (D.yld u0)))) Tr.nil
noncomputable def R120_1(m1:Nat):(Nat→D→D→Option D):=fun u0 u1 u3=>labA (aq P pc lK noR 120 m1 (LvA.a (LvA.b (LA 120))) (cL (cR vZ)) (aw P fJ) (yy pc k) (aw P fJ)) (Tr.set (Tr.set (Tr.set Tr.nil 3 (some (AV.d u3))) 1 (some (AV.d u1))) 0 (some (AV.d (D.yld u0)))) Tr.nil
noncomputable def B120_1(pc:PC)(k:Nat)(m1:Nat)(b1:(Nat→D→D→Option D))(u0:Nat)(u1:D)(u3:D):Option D:=
bindO (binD P BinOp.geq 3 (Operand.tmp 7) (Operand.const (Value.int IntKind.i64 0)) u3 (D.v (Value.int IntKind.i64 0))) fun d_5=>
ifU d_5 (
bindO (kz u1) fun c_6=>
bindO (c_6[0]?) fun d_7=>
bindO (elsD d_7) fun l_8=>
bindO (idxD u3 l_8.length) fun i_9=>
bindO (l_8[i_9]?) fun d_a=>
chkK (bz d_a) (
nodeYf u0 [u3,d_a] (
bindO (semD P (D.v (Value.bool true)) (Op.unary UnOp.not)) fun d_c=>
ifU d_c (
some (D.tup [])) (
bindO (binD P BinOp.sub 3 (Operand.tmp 9) (Operand.const (Value.int IntKind.i64 1)) u3 (D.v (Value.int IntKind.i64 1))) fun d_d=>
b1 u0 u1 d_d)) (
bindO (semD P (D.v (Value.bool false)) (Op.unary UnOp.not)) fun d_e=>
ifU d_e (
some (D.tup [])) (
bindO (binD P BinOp.sub 3 (Operand.tmp 9) (Operand.const (Value.int IntKind.i64 1)) u3 (D.v (Value.int IntKind.i64 1))) fun d_f=>
b1 u0 u1 d_f)))) (
some (D.tup []))
noncomputable def Gy(m1:Nat):=B120_1 pc k m1
noncomputable def Gz:Nat→(Nat→D→D→Option D):=recF (Gy pc k) (fun _ _ _=>none)
theorem h120_1(m1:Nat):MQ pc k m1=Gy pc k m1 (R120_1 pc k m1):=by kernel_rfl
theorem q120_1(m:Nat):MQ pc k m=Gz pc k m:=recS (h120_1 pc k) (by kernel_rfl) (fun m=>by kernel_rfl) m
noncomputable def Uv(pc:PC)(k:Nat)(j1:(Nat→D→D→Option D))(v0:Nat)(v1:D):Option D:=
bindO (kz v1) fun c_1=>
bindO (c_1[0]?) fun d_2=>
bindO (elsD d_2) fun l_3=>
bindO (binD P BinOp.sub 3 (Operand.tmp 5) (Operand.const (Value.int IntKind.i64 1)) (lenD l_3) (D.v (Value.int IntKind.i64 1))) fun d_4=>
j1 v0 v1 d_4
noncomputable def Uw:=Uv pc k (Gz pc k k)
theorem h120_0(v0:Nat)(v1:D):cQ P pc lK noR LA (k+1) 120 [D.yld v0,v1]=Uw pc k v0 v1:=(bqY Go.Proofs.Tryz.f120 vZ fJ (by kernel_rfl)).trans (Eq.trans (b:=Uv pc k (MQ pc k k) v0 v1) (by kernel_rfl) (by rw[q120_1]; rfl))
noncomputable def code128:Code:=aJ 128
noncomputable def MV:List ResultVar:=bk 128
noncomputable def B128_0(pc:PC)(k:Nat)(v0:D)(v1:D):Option D:=
bindO (aggD v0) fun c_1=>
bindO (binD P BinOp.geq 3 (Operand.tmp 5) (Operand.const (Value.int IntKind.i64 0)) v1 (D.v (Value.int IntKind.i64 0))) fun d_2=>
ifU d_2 (
bindO (c_1[0]?) fun d_3=>
bindO (elsD d_3) fun l_4=>
bindO (binD P BinOp.lss 3 (Operand.tmp 8) (Operand.tmp 11) v1 (lenD l_4)) fun d_5=>
some d_5) (
some (D.v (Value.bool false)))
noncomputable def Ux:=B128_0 pc k
theorem h128_0(v0:D)(v1:D):cQ P pc noY rk LA (k+1) 128 [v0,v1]=Ux pc k v0 v1:=(bqA Go.Proofs.Tryz.f128 code128 MV (by kernel_rfl)).trans (by kernel_rfl)
noncomputable def code129:Code:=aJ 129
noncomputable def MW:List ResultVar:=bk 129
noncomputable def B129_0(pc:PC)(k:Nat)(v0:D):Option D:=
bindO (aggD v0) fun c_1=>
bindO (c_1[0]?) fun d_2=>
bindO (binD P BinOp.geq 3 (Operand.tmp 4) (Operand.const (Value.int IntKind.i64 0)) d_2 (D.v (Value.int IntKind.i64 0))) fun d_3=>
ifU d_3 (
bindO (c_1[0]?) fun d_4=>
bindO (c_1[1]?) fun d_5=>
bindO (binD P BinOp.leq 3 (Operand.tmp 8) (Operand.tmp 10) d_4 d_5) fun d_6=>
ifU d_6 (
bindO (c_1[1]?) fun d_7=>
bindO (binD P BinOp.leq 3 (Operand.tmp 15) (Operand.const (Value.int IntKind.i64 1000)) d_7 (D.v (Value.int IntKind.i64 1000))) fun d_8=>
some d_8) (
some (D.v (Value.bool false)))) (
some (D.v (Value.bool false)))
noncomputable def Uy:=B129_0 pc k
theorem h129_0(v0:D):cQ P pc noY rk LA (k+1) 129 [v0]=Uy pc k v0:=(bqA Go.Proofs.Tryz.f129 code129 MW (by kernel_rfl)).trans (by kernel_rfl)
end Go.Proofs.YtcjnaeimeilomaaGreat.L
end
end
