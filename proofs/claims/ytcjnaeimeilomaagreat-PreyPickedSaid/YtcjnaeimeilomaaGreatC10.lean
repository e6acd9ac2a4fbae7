import Derived.Test.YtcjnaeimeilomaaGreatRows
import Derived.Test.YtcjnaeimeilomaaGreatC9
set_option linter.unusedVariables false
section
open Go Go.Ev
set_option maxRecDepth 1000000
noncomputable section
namespace Go.Proofs.YtcjnaeimeilomaaGreat.L
noncomputable def P:Program:=Go.Proofs.Tryz.prog
noncomputable def ak(f:FuncId):Code:=match P.funcs[f]? with
 | some fn=>match fn.body with
  | some c=>c
  | none=>.skip
 | none=>.skip
noncomputable def bw(f:FuncId):List ResultVar:=match P.funcs[f]? with
 | some fn=>fn.results.toList
 | none=>[]
noncomputable def cL:Code→Code
 | .seq a _=>a
 | .cond _ a _=>a
 | .block _ c=>c
 | .scope c=>c
 | .loop c=>c
 | .rangeFunc _ _ a _=>a
 | _=>.skip
noncomputable def cR:Code→Code
 | .seq _ b=>b
 | .cond _ _ b=>b
 | .rangeFunc _ _ _ b=>b
 | _=>.skip
noncomputable def X0A:Nat→KA:=fun _ _ _=>none
noncomputable def rX:Code→Operand
 | .rangeFunc x _ _ _=>x
 | _=>.tmp 0
noncomputable def rPs:Code→List Tmp
 | .rangeFunc _ ps _ _=>ps.toList
 | _=>[]
theorem body_eqA{pc:PC}{rk:RK}{L:FuncId→LvA}{k f:Nat}{fn:Func}{c:Code}{rs:List ResultVar}{ds:List D}(h1:P.funcs[f]?=some fn)(h2:fn.body=some c)
  (h3 : (fn.name == "runtime.NumGoroutine" || fn.ntmps < ds.length) = false) (h4 : fn.results.toList = rs) :
  cQ P pc noY rk L (k+1) f ds=bx P pc noY rk (aq P pc noY rk f k) f c (L f) (aw P rs) X0A (aw P rs) (Hq .nil 0 ds) .nil:=by
 subst h4
 unfold cQ
 simp only[h1,h2,h3]
 rfl
theorem body_eqO{pc:PC}{L:FuncId→LvA}{k f:Nat}{e:TypeId}{sz:Nat}{fn:Func}{c:Code}{rs:List ResultVar}{ds:List D}(h1:P.funcs[f]?=some fn)(h2:fn.body=some c)
  (h3 : (fn.name == "runtime.NumGoroutine" || fn.ntmps < ds.length) = false) (h4 : fn.results.toList = rs) :
  XK P pc L (k+1) f e sz ds=bx P pc noY noR (aq P pc noY noR f k) f c (L f) (AY rs e sz) X0A (AY rs e sz) (Hq .nil 0 ds) .nil:=by
 subst h4
 unfold XK
 simp only[h1,h2,h3]
 rfl
theorem body_eqY{pc:PC}{L:FuncId→LvA}{k f:Nat}{fn:Func}{c:Code}{rs:List ResultVar}{ds:List D}(h1:P.funcs[f]?=some fn)(h2:fn.body=some c)
  (h3 : (fn.name == "runtime.NumGoroutine" || fn.ntmps < ds.length) = false) (h4 : fn.results.toList = rs) :
  cQ P pc lW noR L (k+1) f ds=bx P pc lW noR (aq P pc lW noR f k) f c (L f) (aw P rs) X0A (aw P rs) (Hq .nil 0 ds) .nil:=by
 subst h4
 unfold cQ
 simp only[h1,h2,h3]
 rfl
noncomputable def lvTabA:Tr LvA:=Tr.set (Tr.set (Tr.set (Tr.set (Tr.set (Tr.set (Tr.set (Tr.set (Tr.set (Tr.set (Tr.set (Tr.set (Tr.set (Tr.set (Tr.set (Tr.set (Tr.set (Tr.set (Tr.set (Tr.set (Tr.set (Tr.set (Tr.set (Tr.set (Tr.set (Tr.set (Tr.set (Tr.set (Tr.set (Tr.set (Tr.set (Tr.set (Tr.set (Tr.set (Tr.set (.nil) 12 (some (.node none .leaf (.node none (.node (some { frz:=[1,2,3,28],own:=[],cel:=[],fzs:=[],tmps:=[1,2,3,4,28],sites:=[4] }) .leaf .leaf) (.node none .leaf (.node none .leaf (.node none .leaf (.node none .leaf (.node none .leaf (.node none .leaf (.node none .leaf (.node none (.node (some { frz:=[11,13,109],own:=[],cel:=[],fzs:=[],tmps:=[11,13,109],sites:=[] }) .leaf .leaf) (.node none (.node none .leaf (.node none (.node (some { frz:=[11,13,19],own:=[],cel:=[],fzs:=[],tmps:=[11,13,19],sites:=[] }) .leaf .leaf) .leaf)) .leaf))))))))))))) 20 (some (.node none .leaf (.node none .leaf (.node none (.node none .leaf (.node none (.node (some { frz:=[0,4],own:=[(3,18,27,1)],cel:=[],fzs:=[],tmps:=[0,3,4],sites:=[18] }) .leaf .leaf) .leaf)) .leaf))))) 39 (some (.node none .leaf (.node none (.node none .leaf (.node none (.node (some { frz:=[0,1,5],own:=[],cel:=[],fzs:=[],tmps:=[0,1,5],sites:=[] }) .leaf .leaf) .leaf)) .leaf)))) 45 (some (.node none .leaf (.node none .leaf (.node none (.node none .leaf (.node none (.node (some { frz:=[0,4],own:=[(3,21,3,1)],cel:=[],fzs:=[],tmps:=[0,3,4],sites:=[21] }) (.node none .leaf (.node (some { frz:=[0,4],own:=[(3,21,3,1)],cel:=[],fzs:=[],tmps:=[0,3,4],sites:=[21] }) .leaf .leaf)) .leaf) .leaf)) .leaf))))) 46 (some (.node none .leaf (.node none .leaf (.node none (.node none .leaf (.node none (.node (some { frz:=[0,3,4],own:=[],cel:=[],fzs:=[],tmps:=[0,3,4],sites:=[] }) .leaf .leaf) .leaf)) .leaf))))) 50 (some (.node none .leaf (.node none (.node none .leaf (.node none (.node (some { frz:=[0,1,5],own:=[],cel:=[],fzs:=[],tmps:=[0,1,5],sites:=[] }) .leaf .leaf) .leaf)) .leaf)))) 52 (some (.node none .leaf (.node none (.node none .leaf (.node none (.node (some { frz:=[0,3],own:=[],cel:=[],fzs:=[],tmps:=[0,3],sites:=[] }) (.node none (.node (some { frz:=[0,3,11],own:=[],cel:=[],fzs:=[],tmps:=[0,3,11],sites:=[] }) .leaf .leaf) .leaf) .leaf) .leaf)) .leaf)))) 55 (some (.node none .leaf (.node none .leaf (.node none (.node (some { frz:=[30],own:=[],cel:=[],fzs:=[],tmps:=[30],sites:=[] }) .leaf .leaf) .leaf))))) 56 (some (.node none .leaf (.node none .leaf (.node none (.node none .leaf (.node none (.node (some { frz:=[4],own:=[],cel:=[(3,0,31,130,2)],fzs:=[],tmps:=[1,2,3,4],sites:=[1,2,3,31] }) .leaf .leaf) .leaf)) (.node none (.node none .leaf (.node none (.node (some { frz:=[5],own:=[],cel:=[(3,0,31,130,2),(3,1,56,131,2)],fzs:=[],tmps:=[1,2,3,5],sites:=[1,2,3,31,56] }) .leaf .leaf) .leaf)) (.node none (.node none .leaf (.node none (.node (some { frz:=[6],own:=[],cel:=[(3,0,31,130,2),(3,1,56,131,2),(3,2,82,128,5)],fzs:=[],tmps:=[1,2,3,6],sites:=[1,2,3,31,56,82] }) .leaf .leaf) .leaf)) .leaf))))))) 57 (some (.node none .leaf (.node none .leaf (.node none .leaf (.node none .leaf (.node none .leaf (.node none .leaf (.node none (.node none .leaf (.node none (.node (some { frz:=[7,34,35,36],own:=[(9,33,106,1)],cel:=[],fzs:=[],tmps:=[7,9,34,35,36],sites:=[33] }) .leaf .leaf) .leaf)) .leaf))))))))) 58 (some (.node none .leaf (.node none .leaf (.node none (.node none .leaf (.node none (.node (some { frz:=[6,7,8],own:=[(3,16,27,1)],cel:=[],fzs:=[],tmps:=[3,6,7,8],sites:=[16] }) .leaf .leaf) .leaf)) .leaf))))) 59 (some (.node none .leaf (.node none .leaf (.node none (.node none .leaf (.node none (.node (some { frz:=[0,15,16,17],own:=[(5,14,106,1)],cel:=[],fzs:=[],tmps:=[0,5,15,16,17],sites:=[14] }) .leaf .leaf) .leaf)) .leaf))))) 60 (some (.node none .leaf (.node none .leaf (.node none (.node (some { frz:=[25],own:=[],cel:=[],fzs:=[],tmps:=[1,25],sites:=[1] }) .leaf .leaf) (.node none (.node none .leaf (.node none (.node (some { frz:=[4],own:=[],cel:=[],fzs:=[],tmps:=[1,4],sites:=[1] }) .leaf .leaf) .leaf)) .leaf)))))) 61 (some (.node none .leaf (.node none .leaf (.node none (.node none .leaf (.node none (.node (some { frz:=[1,5],own:=[],cel:=[],fzs:=[],tmps:=[1,2,5],sites:=[2] }) .leaf .leaf) .leaf)) .leaf))))) 63 (some (.node none .leaf (.node none .leaf (.node none .leaf (.node none .leaf (.node (some { frz:=[],own:=[(6,36,3,1)],cel:=[],fzs:=[],tmps:=[6],sites:=[36] }) (.node none .leaf (.node none (.node (some { frz:=[0,7,20,21,22],own:=[(6,36,3,1)],cel:=[],fzs:=[],tmps:=[0,5,6,7,20,21,22],sites:=[5,36] }) .leaf .leaf) .leaf)) .leaf))))))) 64 (some (.node none .leaf (.node none .leaf (.node none (.node none .leaf (.node none (.node (some { frz:=[0,5,8,9,10],own:=[],cel:=[],fzs:=[],tmps:=[0,5,8,9,10],sites:=[] }) .leaf .leaf) .leaf)) .leaf))))) 66 (some (.node none .leaf (.node none .leaf (.node none .leaf (.node none (.node none .leaf (.node none (.node (some { frz:=[22,23],own:=[],cel:=[],fzs:=[],tmps:=[5,22,23],sites:=[16] }) .leaf .leaf) .leaf)) (.node none (.node none .leaf (.node none (.node (some { frz:=[40,41,42],own:=[],cel:=[],fzs:=[],tmps:=[5,40,41,42],sites:=[16] }) .leaf .leaf) .leaf)) .leaf))))))) 79 (some (.node none .leaf (.node none (.node none .leaf (.node none (.node (some { frz:=[1,7,8,9],own:=[],cel:=[],fzs:=[],tmps:=[1,7,8,9],sites:=[] }) .leaf .leaf) .leaf)) .leaf)))) 82 (some (.node none .leaf (.node none (.node none .leaf (.node none (.node (some { frz:=[1,7,8,9],own:=[],cel:=[],fzs:=[],tmps:=[1,7,8,9],sites:=[] }) .leaf .leaf) .leaf)) .leaf)))) 83 (some (.node none .leaf (.node none .leaf (.node none (.node none .leaf (.node none (.node (some { frz:=[3,6,7,8],own:=[],cel:=[],fzs:=[],tmps:=[3,6,7,8],sites:=[] }) .leaf .leaf) .leaf)) .leaf))))) 84 (some (.node none .leaf (.node none .leaf (.node none (.node none .leaf (.node none (.node (some { frz:=[0,5],own:=[(3,14,3,1)],cel:=[],fzs:=[],tmps:=[0,3,5],sites:=[14] }) (.node none .leaf (.node none .leaf (.node (some { frz:=[0,5],own:=[(3,14,3,1)],cel:=[],fzs:=[],tmps:=[0,3,5],sites:=[14] }) .leaf .leaf))) .leaf) .leaf)) .leaf))))) 85 (some (.node none .leaf (.node none .leaf (.node none (.node none .leaf (.node none (.node (some { frz:=[9],own:=[],cel:=[],fzs:=[],tmps:=[5,9],sites:=[5] }) (.node (some { frz:=[],own:=[],cel:=[],fzs:=[],tmps:=[],sites:=[5,1000001] }) .leaf .leaf) .leaf) .leaf)) .leaf))))) 87 (some (.node none .leaf (.node none (.node (some { frz:=[25],own:=[],cel:=[],fzs:=[],tmps:=[1,25],sites:=[1] }) .leaf .leaf) (.node none (.node (some { frz:=[35],own:=[],cel:=[],fzs:=[],tmps:=[1,35],sites:=[1] }) .leaf .leaf) (.node none (.node none .leaf (.node none (.node (some { frz:=[3],own:=[],cel:=[],fzs:=[],tmps:=[1,3],sites:=[1] }) .leaf .leaf) .leaf)) (.node none (.node none .leaf (.node none (.node (some { frz:=[4],own:=[],cel:=[],fzs:=[],tmps:=[1,4],sites:=[1] }) (.node none .leaf (.node none (.node none (.node none .leaf (.node (some { frz:=[4,92],own:=[],cel:=[],fzs:=[],tmps:=[1,4,92],sites:=[1] }) .leaf .leaf)) .leaf) .leaf)) .leaf) .leaf)) (.node none (.node none .leaf (.node none (.node (some { frz:=[6],own:=[],cel:=[],fzs:=[],tmps:=[1,6],sites:=[1] }) (.node none .leaf (.node none (.node none (.node none .leaf (.node none (.node (some { frz:=[6,129],own:=[],cel:=[],fzs:=[],tmps:=[1,6,7,129],sites:=[1,7] }) .leaf .leaf) (.node none .leaf (.node none (.node (some { frz:=[6,8],own:=[],cel:=[],fzs:=[],tmps:=[1,6,7,8],sites:=[1,7] }) (.node none .leaf (.node none (.node none (.node none .leaf (.node (some { frz:=[6,8,156],own:=[],cel:=[],fzs:=[],tmps:=[1,6,7,8,156],sites:=[1,7] }) .leaf .leaf)) .leaf) .leaf)) .leaf) .leaf)))) .leaf) .leaf)) .leaf) .leaf)) .leaf)))))))) 88 (some (.node none .leaf (.node none (.node none .leaf (.node none (.node (some { frz:=[1,5],own:=[],cel:=[],fzs:=[],tmps:=[1,2,5],sites:=[2] }) (.node none .leaf (.node none (.node none (.node (some { frz:=[1,5,38],own:=[],cel:=[],fzs:=[],tmps:=[1,2,5,38],sites:=[2] }) .leaf .leaf) .leaf) .leaf)) .leaf) .leaf)) .leaf)))) 89 (some (.node none .leaf (.node none .leaf (.node none (.node none .leaf (.node none (.node (some { frz:=[14],own:=[],cel:=[],fzs:=[],tmps:=[2,5,14],sites:=[2,5,12] }) (.node (some { frz:=[],own:=[],cel:=[],fzs:=[],tmps:=[],sites:=[2,5,12,1000001] }) .leaf .leaf) (.node none (.node none .leaf (.node none (.node (some { frz:=[21,22,23],own:=[],cel:=[],fzs:=[],tmps:=[2,5,6,7,21,22,23],sites:=[2,5,6,7,12,1000001] }) (.node none .leaf (.node none .leaf (.node none (.node none (.node none .leaf (.node none .leaf (.node none (.node none .leaf (.node none (.node (some { frz:=[8,9,21,22,23,32],own:=[],cel:=[],fzs:=[],tmps:=[2,5,6,7,8,9,10,21,22,23,32],sites:=[2,5,6,7,10,12,1000001] }) (.node (some { frz:=[],own:=[],cel:=[],fzs:=[],tmps:=[],sites:=[2,5,6,7,10,12,1000001,1000005] }) .leaf .leaf) .leaf) .leaf)) .leaf))) .leaf) .leaf))) .leaf) .leaf)) .leaf)) .leaf)) .leaf))))) 90 (some (.node none .leaf (.node (some { frz:=[0,1],own:=[],cel:=[],fzs:=[],tmps:=[0,1],sites:=[] }) .leaf (.node none .leaf (.node none (.node none .leaf (.node none (.node (some { frz:=[0,1,5,6],own:=[],cel:=[],fzs:=[],tmps:=[0,1,5,6],sites:=[] }) (.node none .leaf (.node (some { frz:=[0,1,5,6],own:=[],cel:=[],fzs:=[],tmps:=[0,1,5,6],sites:=[] }) .leaf .leaf)) .leaf) .leaf)) .leaf)))))) 100 (some (.node none .leaf (.node none (.node none .leaf (.node none (.node (some { frz:=[0,7,8,9],own:=[],cel:=[],fzs:=[],tmps:=[0,7,8,9],sites:=[] }) .leaf .leaf) .leaf)) .leaf)))) 102 (some (.node none .leaf (.node none (.node none (.node (some { frz:=[3],own:=[],cel:=[],fzs:=[],tmps:=[1,3],sites:=[1] }) .leaf (.node none .leaf (.node (some { frz:=[16],own:=[],cel:=[],fzs:=[],tmps:=[1,16],sites:=[1] }) .leaf (.node none .leaf (.node (some { frz:=[25],own:=[],cel:=[],fzs:=[],tmps:=[25],sites:=[] }) .leaf .leaf))))) .leaf) .leaf)))) 103 (some (.node none .leaf (.node none (.node none .leaf (.node none (.node (some { frz:=[0,3],own:=[],cel:=[],fzs:=[],tmps:=[0,3],sites:=[] }) .leaf .leaf) .leaf)) .leaf)))) 113 (some (.node none .leaf (.node none (.node none .leaf (.node none (.node (some { frz:=[1,7,8,9],own:=[],cel:=[],fzs:=[],tmps:=[1,7,8,9],sites:=[] }) .leaf .leaf) .leaf)) .leaf)))) 115 (some (.node none .leaf (.node none (.node none .leaf (.node none (.node (some { frz:=[1,7,8,9],own:=[],cel:=[],fzs:=[],tmps:=[1,7,8,9],sites:=[] }) .leaf .leaf) .leaf)) .leaf)))) 116 (some (.node none .leaf (.node none .leaf (.node none (.node none .leaf (.node none (.node (some { frz:=[5,9,10,11],own:=[],cel:=[],fzs:=[],tmps:=[2,3,5,9,10,11],sites:=[2,3] }) (.node none .leaf (.node none .leaf (.node (some { frz:=[5,9,10,11],own:=[],cel:=[],fzs:=[],tmps:=[2,3,5,9,10,11],sites:=[2,3] }) (.node none (.node none .leaf (.node (some { frz:=[5,9,10,11,26],own:=[],cel:=[],fzs:=[],tmps:=[2,3,5,9,10,11,26],sites:=[2,3] }) .leaf .leaf)) .leaf) .leaf))) .leaf) .leaf)) .leaf))))) 117 (some (.node none .leaf (.node none (.node none .leaf (.node none (.node (some { frz:=[1,7,8,9],own:=[],cel:=[],fzs:=[],tmps:=[1,7,8,9],sites:=[] }) .leaf .leaf) .leaf)) .leaf)))) 119 (some (.node none .leaf (.node none (.node (some { frz:=[1,2,10,11],own:=[],cel:=[],fzs:=[],tmps:=[0,1,2,10,11],sites:=[] }) (.node none .leaf (.node none .leaf (.node none (.node none (.node none .leaf (.node (some { frz:=[1,2,10,11,27],own:=[],cel:=[],fzs:=[],tmps:=[0,1,2,10,11,27],sites:=[] }) .leaf .leaf)) .leaf) .leaf))) .leaf) .leaf)))) 120 (some (.node none .leaf (.node none (.node (some { frz:=[1,3],own:=[],cel:=[],fzs:=[],tmps:=[0,1,3],sites:=[] }) .leaf .leaf) .leaf)))
noncomputable def LA(f:FuncId):LvA:=match lvTabA.get f with
 | some l=>l
 | none=>.leaf
noncomputable def recF{α:Type}(C:Nat→α→α)(z:α)(m:Nat):α:=Nat.rec (motive:=fun _=>α) (C 0 z) (fun m ih=>C (m+1) ih) m
theorem recS{α:Type}{T R:Nat→α}{z:α}{C:Nat→α→α}(h:∀ m,T m=C m (R m))(h0:R 0=z)(hs:∀ m,R (m+1)=T m):∀ m,T m=recF C z m
 | 0=>by rw[h,h0]; rfl
 | m+1=>by rw[h,hs,recS h h0 hs m]; rfl
theorem bqA{pc : PC}{rk : RK}{k f : Nat}{ds : List D}(fn : Func)(c : Code)(rs : List ResultVar)(h : (P.funcs[f]?, fn.body, (fn.name == "runtime.NumGoroutine" || fn.ntmps < ds.length), fn.results.toList) = (some fn, some c, false, rs)) :
  cQ P pc noY rk LA (k+1) f ds=bx P pc noY rk (aq P pc noY rk f k) f c (LA f) (aw P rs) X0A (aw P rs) (Hq .nil 0 ds) .nil:=by
 simp only[Prod.mk.injEq] at h
 exact body_eqA h.1 h.2.1 h.2.2.1 h.2.2.2
theorem bqY{pc : PC}{k f : Nat}{ds : List D}(fn : Func)(c : Code)(rs : List ResultVar)(h : (P.funcs[f]?, fn.body, (fn.name == "runtime.NumGoroutine" || fn.ntmps < ds.length), fn.results.toList) = (some fn, some c, false, rs)) :
  cQ P pc lW noR LA (k+1) f ds=bx P pc lW noR (aq P pc lW noR f k) f c (LA f) (aw P rs) X0A (aw P rs) (Hq .nil 0 ds) .nil:=by
 simp only[Prod.mk.injEq] at h
 exact body_eqY h.1 h.2.1 h.2.2.1 h.2.2.2
variable (pc:PC) (rk:RK) (k:Nat)
noncomputable def Bk:Code:=ak 12
noncomputable def kj:List ResultVar:=bw 12
noncomputable def K12_pr:KA:=(bK (LvA.b (LA 12)).c (bx P pc noY rk (aq P pc noY rk 12 k) 12 (cR (cR Bk)) (LvA.b (LvA.b (LA 12))) (aw P kj) X0A (aw P kj)))
noncomputable def K12_prrrrrrrrr:KA:=(bK (LvA.b (LvA.b (LvA.b (LvA.b (LvA.b (LvA.b (LvA.b (LvA.b (LvA.b (LA 12)))))))))).c (bx P pc noY rk (aq P pc noY rk 12 k) 12 (cR (cR (cR (cR (cR (cR (cR (cR (cR (cR Bk)))))))))) (LvA.b (LvA.b (LvA.b (LvA.b (LvA.b (LvA.b (LvA.b (LvA.b (LvA.b (LvA.b (LA 12))))))))))) (aw P kj) X0A (aw P kj)))
noncomputable def uY:KA:=(bK (LvA.b (LvA.b (LvA.b (LvA.b (LvA.b (LvA.b (LvA.b (LvA.b (LvA.b (LvA.b (LA 12))))))))))).c (bx P pc noY rk (aq P pc noY rk 12 k) 12 (cR (cR (cR (cR (cR (cR (cR (cR (cR (cR (cR Bk))))))))))) (LvA.b (LvA.b (LvA.b (LvA.b (LvA.b (LvA.b (LvA.b (LvA.b (LvA.b (LvA.b (LvA.b (LA 12)))))))))))) (aw P kj) X0A (aw P kj)))
noncomputable def pY:(Nat→KA):=(upA 0 (uY pc rk k) X0A)
noncomputable def K12_prrrrrrrrrrlrl(m1:Nat):KA:=(bK (LvA.a (LvA.b (LvA.a (LvA.b (LvA.b (LvA.b (LvA.b (LvA.b (LvA.b (LvA.b (LvA.b (LvA.b (LvA.b (LA 12)))))))))))))).c (aq P pc noY rk 12 m1 (LvA.a (LvA.b (LvA.a (LvA.b (LvA.b (LvA.b (LvA.b (LvA.b (LvA.b (LvA.b (LvA.b (LvA.b (LvA.b (LA 12)))))))))))))) (cL (cR (cL (cR (cR (cR (cR (cR (cR (cR (cR (cR (cR Bk))))))))))))) (uY pc rk k) (pY pc rk k) (aw P kj)))
noncomputable def T12_3(m1:Nat):=fun(u11:D) (u13:D) (u19:D)=>labA (bx P pc noY rk (aq P pc noY rk 12 m1) 12 (cL (cL (cR (cL (cR (cR (cR (cR (cR (cR (cR (cR (cR (cR Bk)))))))))))))) (LvA.a (LvA.a (LvA.b (LvA.a (LvA.b (LvA.b (LvA.b (LvA.b (LvA.b (LvA.b (LvA.b (LvA.b (LvA.b (LvA.b (LA 12))))))))))))))) (K12_prrrrrrrrrrlrl pc rk k m1) (pY pc rk k) (aw P kj)) (Tr.set (Tr.set (Tr.set Tr.nil 19 (some (AV.d u19))) 13 (some (AV.d u13))) 11 (some (AV.d u11))) Tr.nil
noncomputable def R12_3(m1:Nat):(D→D→D→Option D):=fun u11 u13 u19=>labA (aq P pc noY rk 12 m1 (LvA.a (LvA.b (LvA.a (LvA.b (LvA.b (LvA.b (LvA.b (LvA.b (LvA.b (LvA.b (LvA.b (LvA.b (LvA.b (LA 12)))))))))))))) (cL (cR (cL (cR (cR (cR (cR (cR (cR (cR (cR (cR (cR Bk))))))))))))) (uY pc rk k) (pY pc rk k) (aw P kj)) (Tr.set (Tr.set (Tr.set Tr.nil 19 (some (AV.d u19))) 13 (some (AV.d u13))) 11 (some (AV.d u11))) Tr.nil
noncomputable def T12_2:=fun(u11:D) (u13:D) (u109:D)=>labA (bx P pc noY rk (aq P pc noY rk 12 k) 12 (cR (cL (cR (cR (cR (cR (cR (cR (cR (cR (cR Bk))))))))))) (LvA.b (LvA.a (LvA.b (LvA.b (LvA.b (LvA.b (LvA.b (LvA.b (LvA.b (LvA.b (LvA.b (LA 12)))))))))))) (K12_prrrrrrrrr pc rk k) X0A (aw P kj)) (Tr.set (Tr.set (Tr.set Tr.nil 109 (some (AV.d u109))) 13 (some (AV.d u13))) 11 (some (AV.d u11))) Tr.nil
noncomputable def T12_1:=fun(u1:D) (u2:D) (u3:D) (u28:D) (c4:List D)=>labA (bx P pc noY rk (aq P pc noY rk 12 k) 12 (cR (cL (cR Bk))) (LvA.b (LvA.a (LvA.b (LA 12)))) (K12_pr pc rk k) X0A (aw P kj)) (Tr.set (Tr.set (Tr.set (Tr.set (Tr.set Tr.nil 28 (some (AV.d u28))) 4 (some (AV.loc 4 0))) 3 (some (AV.d u3))) 2 (some (AV.d u2))) 1 (some (AV.d u1))) (Tr.set Tr.nil 4 (some (Bx.dat c4 false)))
noncomputable def B12_3(pc:PC)(k:Nat)(m1:Nat)(b3:(D→D→D→Option D))(u11:D)(u13:D)(u19:D):Option D:=
bindO (elsD u11) fun l_1c=>
bindO (binD P BinOp.lss 3 (Operand.tmp 110) (Operand.tmp 112) u19 (lenD l_1c)) fun d_1d=>
ifU d_1d (
bindO (elsD u13) fun l_1e=>
bindO (idxD u19 l_1e.length) fun i_1f=>
bindO (l_1e[i_1f]?) fun d_1g=>
chkK (bk d_1g) (
bindO (elsD u11) fun l_1h=>
bindO (idxD u19 l_1h.length) fun i_1i=>
bindO (l_1h[i_1i]?) fun d_1j=>
chkK (bk d_1j) (
bindO (pcD P pc 50 [d_1g,d_1j]) fun d_1k=>
bindO (semD P d_1k (Op.unary UnOp.not)) fun d_1l=>
ifU d_1l (
some (D.v (Value.bool false))) (
bindO (binD P BinOp.add 3 (Operand.tmp 114) (Operand.const (Value.int IntKind.i64 1)) u19 (D.v (Value.int IntKind.i64 1))) fun d_1m=>
b3 u11 u13 d_1m)))) (
bindO (pcD P pc 16 []) fun d_1n=>
some d_1n)
noncomputable def C12_3(m1:Nat):=B12_3 pc k m1
noncomputable def S12_3:Nat→(D→D→D→Option D):=recF (C12_3 pc k) (fun _ _ _=>none)
theorem h12_3(m1:Nat):T12_3 pc rk k m1=C12_3 pc k m1 (R12_3 pc rk k m1):=by kernel_rfl
theorem q12_3(m:Nat):T12_3 pc rk k m=S12_3 pc k m:=recS (h12_3 pc rk k) (by kernel_rfl) (fun m=>by kernel_rfl) m
noncomputable def B12_2(pc:PC)(k:Nat)(j3:(D→D→D→Option D))(u11:D)(u13:D)(u109:D):Option D:=
ifU u109 (
some (D.v (Value.bool false))) (
j3 u11 u13 (D.v (Value.int IntKind.i64 0)))
noncomputable def C12_2:=B12_2 pc k (S12_3 pc k k)
theorem h12_2:T12_2 pc rk k=C12_2 pc k:=Eq.trans (b:=B12_2 pc k (T12_3 pc rk k k)) (by kernel_rfl) (by rw[q12_3]; rfl)
noncomputable def B12_1(pc:PC)(k:Nat)(j2:(D→D→D→Option D))(u1:D)(u2:D)(u3:D)(u28:D)(c4:List D):Option D:=
ifU u28 (
bindO (pcD P pc 16 []) fun d_5=>
some d_5) (
bindO (semD P u2 (convert 5 3)) fun d_6=>
bindO (elsD u1) fun l_7=>
bindO (binD P BinOp.rem 3 (Operand.tmp 31) (Operand.tmp 33) d_6 (lenD l_7)) fun d_8=>
bindO (pcD P pc 20 [u1]) fun d_9=>
bindO (elsD d_9) fun l_a=>
bindO (elsD u1) fun l_b=>
bindO (idxD d_8 l_b.length) fun i_c=>
bindO (l_b[i_c]?) fun d_d=>
chkK (bk d_d) (
bindO (semD P u3 (convert 79 3)) fun d_e=>
bindO (c4[0]?) fun d_f=>
bindO (elsD d_f) fun l_g=>
bindO (semD P (lenD l_g) (convert 3 80)) fun d_h=>
bindO (binD P BinOp.shl 3 (Operand.const (Value.int IntKind.i64 1)) (Operand.tmp 50) (D.v (Value.int IntKind.i64 1)) d_h) fun d_i=>
bindO (binD P BinOp.rem 3 (Operand.tmp 45) (Operand.tmp 51) d_e d_i) fun d_j=>
bindO (pcD P pc 46 [d_d]) fun d_k=>
bindO (binD P BinOp.or 3 (Operand.tmp 43) (Operand.tmp 52) d_k d_j) fun d_l=>
bindO (pcD P pc 45 [d_l]) fun d_m=>
bindO (idxD d_8 l_a.length) fun i_n=>
bindO (l_a[i_n]?) fun d_o=>
chkK (bk d_o) (
chkK (bk d_m) (
bindO (cutD c4 0 5) fun c_p=>
bindO (pcD P pc 18 [(D.agg c_p)]) fun d_q=>
bindO (pcD P pc 20 [u1]) fun d_r=>
bindO (elsD d_r) fun l_s=>
bindO (pcD P pc 19 [d_q,(D.sl l_s)]) fun d_t=>
bindO (tupD d_t 0) fun d_u=>
bindO (tupD d_t 1) fun d_v=>
bindO (cutD c4 0 5) fun c_w=>
bindO (pcD P pc 18 [(D.agg c_w)]) fun d_x=>
bindO (pcD P pc 20 [(D.sl (List.set l_a i_n d_m))]) fun d_y=>
bindO (elsD d_y) fun l_z=>
bindO (pcD P pc 19 [d_x,(D.sl l_z)]) fun d_10=>
bindO (tupD d_10 0) fun d_11=>
bindO (tupD d_10 1) fun d_12=>
bindO (cutD c4 0 5) fun c_13=>
bindO (pcD P pc 47 [(D.agg c_13),u1]) fun d_14=>
bindO (tupD d_14 0) fun d_15=>
bindO (tupD d_14 1) fun d_16=>
bindO (cutD c4 0 5) fun c_17=>
bindO (pcD P pc 47 [(D.agg c_17),(D.sl (List.set l_a i_n d_m))]) fun d_18=>
bindO (tupD d_18 0) fun d_19=>
bindO (tupD d_18 1) fun d_1a=>
bindO (binD P BinOp.neq 33 (Operand.tmp 84) (Operand.const (Value.int IntKind.i64 0)) d_v (D.v (Value.int IntKind.i64 0))) fun d_1b=>
ifU d_1b (
j2 d_u d_11 (D.v (Value.bool true))) (
bindO (binD P BinOp.neq 33 (Operand.tmp 87) (Operand.const (Value.int IntKind.i64 0)) d_12 (D.v (Value.int IntKind.i64 0))) fun d_1o=>
ifU d_1o (
j2 d_u d_11 (D.v (Value.bool true))) (
bindO (semD P d_16 (Op.unary UnOp.not)) fun d_1p=>
ifU d_1p (
j2 d_u d_11 (D.v (Value.bool true))) (
bindO (semD P d_1a (Op.unary UnOp.not)) fun d_1q=>
ifU d_1q (
j2 d_u d_11 (D.v (Value.bool true))) (
bindO (binD P BinOp.gtr 3 (Operand.tmp 99) (Operand.tmp 100) d_19 d_15) fun d_1r=>
ifU d_1r (
j2 d_u d_11 (D.v (Value.bool true))) (
bindO (elsD d_u) fun l_1s=>
bindO (elsD d_11) fun l_1t=>
bindO (binD P BinOp.neq 3 (Operand.tmp 105) (Operand.tmp 107) (lenD l_1s) (lenD l_1t)) fun d_1u=>
j2 d_u d_11 d_1u)))))))))
noncomputable def C12_1:=B12_1 pc k (C12_2 pc k)
theorem h12_1:T12_1 pc rk k=C12_1 pc k:=Eq.trans (b:=B12_1 pc k (T12_2 pc rk k)) (by kernel_rfl) (by rw[h12_2]; rfl)
noncomputable def B12_0(pc:PC)(k:Nat)(j1:(D→D→D→D→List D→Option D))(v0:D)(v1:D)(v2:D)(v3:D):Option D:=
bindO (aggD v0) fun c_1=>
bindO (cutD c_1 0 5) fun c_2=>
bindO (pcD P pc 37 [(D.agg c_2),v1]) fun d_3=>
bindO (semD P d_3 (Op.unary UnOp.not)) fun d_4=>
ifU d_4 (
j1 v1 v2 v3 (D.v (Value.bool true)) c_1) (
bindO (elsD v1) fun l_1v=>
bindO (binD P BinOp.eql 3 (Operand.tmp 26) (Operand.const (Value.int IntKind.i64 0)) (lenD l_1v) (D.v (Value.int IntKind.i64 0))) fun d_1w=>
j1 v1 v2 v3 d_1w c_1)
noncomputable def C12_0:=B12_0 pc k (C12_1 pc k)
theorem h12_0(v0:D)(v1:D)(v2:D)(v3:D):cQ P pc noY rk LA (k+1) 12 [v0,v1,v2,v3]=C12_0 pc k v0 v1 v2 v3:=(bqA Go.Proofs.Tryz.f12 Bk kj (by kernel_rfl)).trans (Eq.trans (b:=B12_0 pc k (T12_1 pc rk k) v0 v1 v2 v3) (by kernel_rfl) (by rw[h12_1]; rfl))
noncomputable def code15:Code:=ak 15
noncomputable def results15:List ResultVar:=bw 15
noncomputable def B15_0(pc:PC)(k:Nat)(v0:D)(v1:D):Option D:=
bindO (aggD v0) fun c_1=>
bindO (cutD c_1 0 3) fun c_2=>
bindO (c_1[3]?) fun d_3=>
bindO (pcD P pc 51 [(D.agg c_2),d_3]) fun d_4=>
ifU d_4 (
bindO (c_1[4]?) fun d_5=>
bindO (elsD d_5) fun l_6=>
bindO (binD P BinOp.leq 3 (Operand.tmp 13) (Operand.const (Value.int IntKind.i64 11)) (lenD l_6) (D.v (Value.int IntKind.i64 11))) fun d_7=>
ifU d_7 (
bindO (pcD P pc 52 [v1]) fun d_8=>
some d_8) (
some (D.v (Value.bool false)))) (
some (D.v (Value.bool false)))
noncomputable def C15_0:=B15_0 pc k
theorem h15_0(v0:D)(v1:D):cQ P pc noY rk LA (k+1) 15 [v0,v1]=C15_0 pc k v0 v1:=(bqA Go.Proofs.Tryz.f15 code15 results15 (by kernel_rfl)).trans (by kernel_rfl)
noncomputable def code18:Code:=ak 18
noncomputable def results18:List ResultVar:=bw 18
noncomputable def B18_0(pc:PC)(k:Nat)(v0:D):Option D:=
bindO (aggD v0) fun c_1=>
bindO (cutD c_1 0 3) fun c_2=>
bindO (c_1[3]?) fun d_3=>
bindO (c_1[4]?) fun d_4=>
bindO (pcD P pc 56 [(D.agg c_2)]) fun d_5=>
bindO (pcD P pc 27 [d_3]) fun d_6=>
bindO (pcD P pc 27 [d_4]) fun d_7=>
bindO (JQ [(D.v (Value.slice none 0 0)),(D.v (Value.slice none 0 0)),(D.v (Value.slice none 0 0)),(D.v (Value.slice none 0 0)),(D.v (Value.slice none 0 0))] [(0,3,d_5),(3,1,d_6),(4,1,d_7)]) fun c_8=>
bindO (splD [(D.v (Value.slice none 0 0)),(D.v (Value.slice none 0 0)),(D.v (Value.slice none 0 0)),(D.v (Value.slice none 0 0)),(D.v (Value.slice none 0 0))] 0 c_8 5) fun c_9=>
bindO (cutD c_9 0 5) fun c_a=>
some (D.agg c_a)
noncomputable def C18_0:=B18_0 pc k
theorem h18_0(v0:D):cQ P pc noY rk LA (k+1) 18 [v0]=C18_0 pc k v0:=(bqA Go.Proofs.Tryz.f18 code18 results18 (by kernel_rfl)).trans (by kernel_rfl)
noncomputable def code19:Code:=ak 19
noncomputable def QQ:List ResultVar:=bw 19
noncomputable def B19_0(pc:PC)(k:Nat)(v0:D)(v1:D):Option D:=
bindO (aggD v0) fun c_1=>
bindO (cutD c_1 0 5) fun c_2=>
bindO (pcD P pc 57 [(D.agg c_2),v1]) fun d_3=>
bindO (tupD d_3 0) fun d_4=>
bindO (tupD d_3 1) fun d_5=>
bindO (tupD d_3 2) fun d_6=>
bindO (binD P BinOp.neq 33 (Operand.tmp 16) (Operand.const (Value.int IntKind.i64 0)) d_6 (D.v (Value.int IntKind.i64 0))) fun d_7=>
ifU d_7 (
some (D.tup [(D.v (Value.slice none 0 0)),d_6])) (
bindO (pcD P pc 59 [d_4,d_5]) fun d_8=>
bindO (pcD P pc 58 [d_8]) fun d_9=>
some (D.tup [d_9,(D.v (Value.int IntKind.i64 0))]))
noncomputable def C19_0:=B19_0 pc k
theorem h19_0(v0:D)(v1:D):cQ P pc noY rk LA (k+1) 19 [v0,v1]=C19_0 pc k v0 v1:=(bqA Go.Proofs.Tryz.f19 code19 QQ (by kernel_rfl)).trans (by kernel_rfl)
noncomputable def ZY:Code:=ak 20
noncomputable def vK:List ResultVar:=bw 20
noncomputable def K20_prr:KA:=(bK (LvA.b (LvA.b (LA 20))).c (bx P pc noY rk (aq P pc noY rk 20 k) 20 (cR (cR (cR ZY))) (LvA.b (LvA.b (LvA.b (LA 20)))) (AY vK 27 1) X0A (AY vK 27 1)))
noncomputable def Kq:(Nat→KA):=(upA 0 (K20_prr pc rk k) X0A)
noncomputable def K20_prrlrl(m1:Nat):KA:=(bK (LvA.a (LvA.b (LvA.a (LvA.b (LvA.b (LA 20)))))).c (aq P pc noY rk 20 m1 (LvA.a (LvA.b (LvA.a (LvA.b (LvA.b (LA 20)))))) (cL (cR (cL (cR (cR ZY))))) (K20_prr pc rk k) (Kq pc rk k) (AY vK 27 1)))
noncomputable def T20_1(m1:Nat):=fun(u0:D) (u4:D) (l18:List D)=>labA (bx P pc noY rk (aq P pc noY rk 20 m1) 20 (cL (cL (cR (cL (cR (cR ZY)))))) (LvA.a (LvA.a (LvA.b (LvA.a (LvA.b (LvA.b (LA 20))))))) (K20_prrlrl pc rk k m1) (Kq pc rk k) (AY vK 27 1)) (Tr.set (Tr.set (Tr.set Tr.nil 4 (some (AV.d u4))) 3 (some (AV.osl 18))) 0 (some (AV.d u0))) (Tr.set Tr.nil 18 (some (Bx.vec l18 27 1 false)))
noncomputable def R20_1(m1:Nat):(D→D→List D→Option D):=fun u0 u4 l18=>labA (aq P pc noY rk 20 m1 (LvA.a (LvA.b (LvA.a (LvA.b (LvA.b (LA 20)))))) (cL (cR (cL (cR (cR ZY))))) (K20_prr pc rk k) (Kq pc rk k) (AY vK 27 1)) (Tr.set (Tr.set (Tr.set Tr.nil 4 (some (AV.d u4))) 3 (some (AV.osl 18))) 0 (some (AV.d u0))) (Tr.set Tr.nil 18 (some (Bx.vec l18 27 1 false)))
noncomputable def B20_1(pc:PC)(k:Nat)(m1:Nat)(b1:(D→D→List D→Option D))(u0:D)(u4:D)(l18:List D):Option D:=
bindO (elsD u0) fun l_1=>
bindO (binD P BinOp.lss 3 (Operand.tmp 5) (Operand.tmp 7) u4 (lenD l_1)) fun d_2=>
ifU d_2 (
bindO (elsD u0) fun l_3=>
bindO (idxD u4 l_3.length) fun i_4=>
bindO (l_3[i_4]?) fun d_5=>
chkK (bk d_5) (
bindO (pcD P pc 27 [d_5]) fun d_6=>
chkK (bk d_6) (
bindO (appD l18 [d_6]) fun l_7=>
bindO (binD P BinOp.add 3 (Operand.tmp 9) (Operand.const (Value.int IntKind.i64 1)) u4 (D.v (Value.int IntKind.i64 1))) fun d_8=>
b1 u0 d_8 l_7))) (
some (D.sl l18))
noncomputable def C20_1(m1:Nat):=B20_1 pc k m1
noncomputable def S20_1:Nat→(D→D→List D→Option D):=recF (C20_1 pc k) (fun _ _ _=>none)
theorem h20_1(m1:Nat):T20_1 pc rk k m1=C20_1 pc k m1 (R20_1 pc rk k m1):=by kernel_rfl
theorem q20_1(m:Nat):T20_1 pc rk k m=S20_1 pc k m:=recS (h20_1 pc rk k) (by kernel_rfl) (fun m=>by kernel_rfl) m
noncomputable def B20_0(pc:PC)(k:Nat)(j1:(D→D→List D→Option D))(v0:D):Option D:=
j1 v0 (D.v (Value.int IntKind.i64 0)) []
noncomputable def C20_0:=B20_0 pc k (S20_1 pc k k)
theorem h20_0(v0:D):XK P pc LA (k+1) 20 27 1 [v0]=C20_0 pc k v0:=by
 have h:XK P pc LA (k+1) 20 27 1 [v0]=B20_0 pc k (T20_1 pc noR k k) v0:=by
  rw[body_eqO (fn:=Go.Proofs.Tryz.f20) (c:=ZY) (rs:=vK) (by kernel_rfl) (by kernel_rfl) (by kernel_rfl) (by kernel_rfl)]
  kernel_rfl
 rw[h,C20_0]
 have e1:(T20_1 pc noR k k)=(S20_1 pc k k):=q20_1 ..
 rw[e1]
noncomputable def code21:Code:=ak 21
noncomputable def results21:List ResultVar:=bw 21
noncomputable def B21_0(pc:PC)(k:Nat)(v0:D):Option D:=
bindO (aggD v0) fun c_1=>
bindO (cutD c_1 0 5) fun c_2=>
bindO (pcD P pc 60 [(D.agg c_2)]) fun d_3=>
some d_3
noncomputable def C21_0:=B21_0 pc k
theorem h21_0(v0:D):cQ P pc noY rk LA (k+1) 21 [v0]=C21_0 pc k v0:=(bqA Go.Proofs.Tryz.f21 code21 results21 (by kernel_rfl)).trans (by kernel_rfl)
noncomputable def code22:Code:=ak 22
noncomputable def results22:List ResultVar:=bw 22
noncomputable def B22_0(pc:PC)(k:Nat)(v0:D)(v1:D):Option D:=
bindO (aggD v0) fun c_1=>
bindO (cutD c_1 0 5) fun c_2=>
bindO (pcD P pc 21 [(D.agg c_2)]) fun d_3=>
bindO (binD P BinOp.neq 33 (Operand.tmp 8) (Operand.const (Value.int IntKind.i64 0)) d_3 (D.v (Value.int IntKind.i64 0))) fun d_4=>
ifU d_4 (
some d_3) (
bindO (cutD c_1 0 5) fun c_5=>
bindO (pcD P pc 61 [(D.agg c_5),v1]) fun d_6=>
some d_6)
noncomputable def C22_0:=B22_0 pc k
theorem h22_0(v0:D)(v1:D):cQ P pc noY rk LA (k+1) 22 [v0,v1]=C22_0 pc k v0 v1:=(bqA Go.Proofs.Tryz.f22 code22 results22 (by kernel_rfl)).trans (by kernel_rfl)
noncomputable def code25:Code:=ak 25
noncomputable def QV:List ResultVar:=bw 25
noncomputable def B25_0(pc:PC)(k:Nat)(v0:D)(v1:D):Option D:=
bindO (aggD v0) fun c_1=>
bindO (cutD c_1 0 5) fun c_2=>
bindO (pcD P pc 57 [(D.agg c_2),v1]) fun d_3=>
bindO (tupD d_3 0) fun d_4=>
bindO (tupD d_3 1) fun d_5=>
bindO (tupD d_3 2) fun d_6=>
bindO (binD P BinOp.neq 33 (Operand.tmp 16) (Operand.const (Value.int IntKind.i64 0)) d_6 (D.v (Value.int IntKind.i64 0))) fun d_7=>
ifU d_7 (
some (D.tup [(D.v (Value.int IntKind.i64 0)),(D.v (Value.slice none 0 0)),d_6])) (
nilA (AV.d d_4) (
bindO (kY d_4) fun c_8=>
bindO ((List.drop 3 c_8)[0]?) fun d_9=>
bindO (elsD d_9) fun l_a=>
bindO (binD P BinOp.eql 3 (Operand.tmp 24) (Operand.const (Value.int IntKind.i64 0)) (lenD l_a) (D.v (Value.int IntKind.i64 0))) fun d_b=>
ifU d_b (
some (D.tup [(D.v (Value.int IntKind.i64 0)),(D.v (Value.slice none 0 0)),(D.v (Value.int IntKind.i64 7))])) (
bindO (pcD P pc 63 [d_4,d_5]) fun d_c=>
bindO (pcD P pc 64 [d_4,d_c]) fun d_d=>
some (D.tup [d_d,d_c,(D.v (Value.int IntKind.i64 0))]))))
noncomputable def C25_0:=B25_0 pc k
theorem h25_0(v0:D)(v1:D):cQ P pc noY rk LA (k+1) 25 [v0,v1]=C25_0 pc k v0 v1:=(bqA Go.Proofs.Tryz.f25 code25 QV (by kernel_rfl)).trans (by kernel_rfl)
noncomputable def code27:Code:=ak 27
noncomputable def results27:List ResultVar:=bw 27
noncomputable def B27_0(pc:PC)(k:Nat)(v0:D):Option D:=
bindO (elsD v0) fun l_1=>
chkK (l_1.all (szOk 1)) (
bindO (appD [] l_1) fun l_2=>
some (D.sl l_2))
noncomputable def C27_0:=B27_0 pc k
theorem h27_0(v0:D):cQ P pc noY rk LA (k+1) 27 [v0]=C27_0 pc k v0:=(bqA Go.Proofs.Tryz.f27 code27 results27 (by kernel_rfl)).trans (by kernel_rfl)
noncomputable def code35:Code:=ak 35
noncomputable def results35:List ResultVar:=bw 35
noncomputable def B35_0(pc:PC)(k:Nat)(v0:D)(v1:D)(v2:D):Option D:=
bindO (binD P BinOp.geq 3 (Operand.tmp 7) (Operand.tmp 8) v0 v1) fun d_1=>
ifU d_1 (
bindO (binD P BinOp.leq 3 (Operand.tmp 11) (Operand.tmp 12) v0 v2) fun d_2=>
some d_2) (
some (D.v (Value.bool false)))
noncomputable def C35_0:=B35_0 pc k
theorem h35_0(v0:D)(v1:D)(v2:D):cQ P pc noY rk LA (k+1) 35 [v0,v1,v2]=C35_0 pc k v0 v1 v2:=(bqA Go.Proofs.Tryz.f35 code35 results35 (by kernel_rfl)).trans (by kernel_rfl)
noncomputable def code37:Code:=ak 37
noncomputable def results37:List ResultVar:=bw 37
noncomputable def B37_0(pc:PC)(k:Nat)(v0:D)(v1:D):Option D:=
bindO (aggD v0) fun c_1=>
bindO (cutD c_1 0 5) fun c_2=>
bindO (pcD P pc 15 [(D.agg c_2),v1]) fun d_3=>
ifU d_3 (
bindO (cutD c_1 0 5) fun c_4=>
bindO (pcD P pc 22 [(D.agg c_4),v1]) fun d_5=>
bindO (binD P BinOp.eql 33 (Operand.tmp 11) (Operand.const (Value.int IntKind.i64 0)) d_5 (D.v (Value.int IntKind.i64 0))) fun d_6=>
some d_6) (
some (D.v (Value.bool false)))
noncomputable def C37_0:=B37_0 pc k
theorem h37_0(v0:D)(v1:D):cQ P pc noY rk LA (k+1) 37 [v0,v1]=C37_0 pc k v0 v1:=(bqA Go.Proofs.Tryz.f37 code37 results37 (by kernel_rfl)).trans (by kernel_rfl)
noncomputable def ZZ:Code:=ak 39
noncomputable def wj:List ResultVar:=bw 39
noncomputable def K39_pr:KA:=(bK (LvA.b (LA 39)).c (bx P pc noY rk (aq P pc noY rk 39 k) 39 (cR (cR ZZ)) (LvA.b (LvA.b (LA 39))) (aw P wj) X0A (aw P wj)))
noncomputable def QW:(Nat→KA):=(upA 0 (K39_pr pc rk k) X0A)
noncomputable def K39_prlrl(m1:Nat):KA:=(bK (LvA.a (LvA.b (LvA.a (LvA.b (LA 39))))).c (aq P pc noY rk 39 m1 (LvA.a (LvA.b (LvA.a (LvA.b (LA 39))))) (cL (cR (cL (cR ZZ)))) (K39_pr pc rk k) (QW pc rk k) (aw P wj)))
noncomputable def T39_1(m1:Nat):=fun(u0:D) (u1:D) (u5:D)=>labA (bx P pc noY rk (aq P pc noY rk 39 m1) 39 (cL (cL (cR (cL (cR ZZ))))) (LvA.a (LvA.a (LvA.b (LvA.a (LvA.b (LA 39)))))) (K39_prlrl pc rk k m1) (QW pc rk k) (aw P wj)) (Tr.set (Tr.set (Tr.set Tr.nil 5 (some (AV.d u5))) 1 (some (AV.d u1))) 0 (some (AV.d u0))) Tr.nil
noncomputable def R39_1(m1:Nat):(D→D→D→Option D):=fun u0 u1 u5=>labA (aq P pc noY rk 39 m1 (LvA.a (LvA.b (LvA.a (LvA.b (LA 39))))) (cL (cR (cL (cR ZZ)))) (K39_pr pc rk k) (QW pc rk k) (aw P wj)) (Tr.set (Tr.set (Tr.set Tr.nil 5 (some (AV.d u5))) 1 (some (AV.d u1))) 0 (some (AV.d u0))) Tr.nil
noncomputable def B39_1(pc:PC)(k:Nat)(m1:Nat)(b1:(D→D→D→Option D))(u0:D)(u1:D)(u5:D):Option D:=
bindO (elsD u0) fun l_1=>
bindO (binD P BinOp.lss 3 (Operand.tmp 6) (Operand.tmp 8) u5 (lenD l_1)) fun d_2=>
ifU d_2 (
bindO (elsD u0) fun l_3=>
bindO (idxD u5 l_3.length) fun i_4=>
bindO (l_3[i_4]?) fun d_5=>
chkK (bk d_5) (
bindO (binD P BinOp.eql 3 (Operand.tmp 15) (Operand.tmp 16) d_5 u1) fun d_6=>
ifU d_6 (
some (D.v (Value.bool true))) (
bindO (binD P BinOp.add 3 (Operand.tmp 10) (Operand.const (Value.int IntKind.i64 1)) u5 (D.v (Value.int IntKind.i64 1))) fun d_7=>
b1 u0 u1 d_7))) (
some (D.v (Value.bool false)))
noncomputable def C39_1(m1:Nat):=B39_1 pc k m1
noncomputable def S39_1:Nat→(D→D→D→Option D):=recF (C39_1 pc k) (fun _ _ _=>none)
theorem h39_1(m1:Nat):T39_1 pc rk k m1=C39_1 pc k m1 (R39_1 pc rk k m1):=by kernel_rfl
theorem q39_1(m:Nat):T39_1 pc rk k m=S39_1 pc k m:=recS (h39_1 pc rk k) (by kernel_rfl) (fun m=>by kernel_rfl) m
noncomputable def B39_0(pc:PC)(k:Nat)(j1:(D→D→D→Option D))(v0:D)(v1:D):Option D:=
j1 v0 v1 (D.v (Value.int IntKind.i64 0))
noncomputable def C39_0:=B39_0 pc k (S39_1 pc k k)
theorem h39_0(v0:D)(v1:D):cQ P pc noY rk LA (k+1) 39 [v0,v1]=C39_0 pc k v0 v1:=(bqA Go.Proofs.Tryz.f39 ZZ wj (by kernel_rfl)).trans (Eq.trans (b:=B39_0 pc k (T39_1 pc rk k k) v0 v1) (by kernel_rfl) (by rw[q39_1]; rfl))
noncomputable def QX:Code:=ak 45
noncomputable def tq:List ResultVar:=bw 45
noncomputable def K45_prr:KA:=(bK (LvA.b (LvA.b (LA 45))).c (bx P pc noY rk (aq P pc noY rk 45 k) 45 (cR (cR (cR QX))) (LvA.b (LvA.b (LvA.b (LA 45)))) (aw P tq) X0A (aw P tq)))
noncomputable def BJ:(Nat→KA):=(upA 0 (K45_prr pc rk k) X0A)
noncomputable def K45_prrlrl(m1:Nat):KA:=(bK (LvA.a (LvA.b (LvA.a (LvA.b (LvA.b (LA 45)))))).c (aq P pc noY rk 45 m1 (LvA.a (LvA.b (LvA.a (LvA.b (LvA.b (LA 45)))))) (cL (cR (cL (cR (cR QX))))) (K45_prr pc rk k) (BJ pc rk k) (aw P tq)))
noncomputable def T45_2(m1:Nat):=fun(u0:D) (u4:D) (l21:List D)=>labA (bx P pc noY rk (aq P pc noY rk 45 m1) 45 (cR (cR (cL (cL (cR (cL (cR (cR QX)))))))) (LvA.b (LvA.b (LvA.a (LvA.a (LvA.b (LvA.a (LvA.b (LvA.b (LA 45))))))))) (K45_prrlrl pc rk k m1) (BJ pc rk k) (aw P tq)) (Tr.set (Tr.set (Tr.set Tr.nil 4 (some (AV.d u4))) 3 (some (AV.osl 21))) 0 (some (AV.d u0))) (Tr.set Tr.nil 21 (some (Bx.vec l21 3 1 false)))
noncomputable def T45_1(m1:Nat):=fun(u0:D) (u4:D) (l21:List D)=>labA (bx P pc noY rk (aq P pc noY rk 45 m1) 45 (cL (cL (cR (cL (cR (cR QX)))))) (LvA.a (LvA.a (LvA.b (LvA.a (LvA.b (LvA.b (LA 45))))))) (K45_prrlrl pc rk k m1) (BJ pc rk k) (aw P tq)) (Tr.set (Tr.set (Tr.set Tr.nil 4 (some (AV.d u4))) 3 (some (AV.osl 21))) 0 (some (AV.d u0))) (Tr.set Tr.nil 21 (some (Bx.vec l21 3 1 false)))
noncomputable def R45_1(m1:Nat):(D→D→List D→Option D):=fun u0 u4 l21=>labA (aq P pc noY rk 45 m1 (LvA.a (LvA.b (LvA.a (LvA.b (LvA.b (LA 45)))))) (cL (cR (cL (cR (cR QX))))) (K45_prr pc rk k) (BJ pc rk k) (aw P tq)) (Tr.set (Tr.set (Tr.set Tr.nil 4 (some (AV.d u4))) 3 (some (AV.osl 21))) 0 (some (AV.d u0))) (Tr.set Tr.nil 21 (some (Bx.vec l21 3 1 false)))
noncomputable def B45_2(pc:PC)(k:Nat)(m1:Nat)(b1:(D→D→List D→Option D))(u0:D)(u4:D)(l21:List D):Option D:=
bindO (binD P BinOp.add 3 (Operand.tmp 10) (Operand.const (Value.int IntKind.i64 1)) u4 (D.v (Value.int IntKind.i64 1))) fun d_9=>
b1 u0 d_9 l21
noncomputable def C45_2(m1:Nat):=B45_2 pc k m1
theorem h45_2(m1:Nat):T45_2 pc rk k m1=C45_2 pc k m1 (R45_1 pc rk k m1):=by kernel_rfl
noncomputable def B45_1(pc:PC)(k:Nat)(m1:Nat)(j2:(D→D→List D→Option D))(b1:(D→D→List D→Option D))(u0:D)(u4:D)(l21:List D):Option D:=
bindO (semD P u4 (convert 3 80)) fun d_1=>
bindO (binD P BinOp.shr 3 (Operand.tmp 5) (Operand.tmp 7) u0 d_1) fun d_2=>
bindO (binD P BinOp.gtr 3 (Operand.tmp 8) (Operand.const (Value.int IntKind.i64 0)) d_2 (D.v (Value.int IntKind.i64 0))) fun d_3=>
ifU d_3 (
bindO (semD P u4 (convert 3 80)) fun d_4=>
bindO (binD P BinOp.shr 3 (Operand.tmp 12) (Operand.tmp 14) u0 d_4) fun d_5=>
bindO (binD P BinOp.rem 3 (Operand.tmp 15) (Operand.const (Value.int IntKind.i64 2)) d_5 (D.v (Value.int IntKind.i64 2))) fun d_6=>
bindO (binD P BinOp.eql 3 (Operand.tmp 16) (Operand.const (Value.int IntKind.i64 1)) d_6 (D.v (Value.int IntKind.i64 1))) fun d_7=>
ifU d_7 (
chkK (bk u4) (
bindO (appD l21 [u4]) fun l_8=>
j2 u0 u4 l_8)) (
j2 u0 u4 l21)) (
some (D.sl l21))
noncomputable def C45_1(m1:Nat)(b1:(D→D→List D→Option D)):=B45_1 pc k m1 (C45_2 pc k m1 b1) b1
noncomputable def S45_1:Nat→(D→D→List D→Option D):=recF (C45_1 pc k) (fun _ _ _=>none)
theorem h45_1(m1:Nat):T45_1 pc rk k m1=C45_1 pc k m1 (R45_1 pc rk k m1):=Eq.trans (b:=B45_1 pc k m1 (T45_2 pc rk k m1) (R45_1 pc rk k m1)) (by kernel_rfl) (by rw[h45_2]; rfl)
theorem q45_1(m:Nat):T45_1 pc rk k m=S45_1 pc k m:=recS (h45_1 pc rk k) (by kernel_rfl) (fun m=>by kernel_rfl) m
noncomputable def B45_0(pc:PC)(k:Nat)(j1:(D→D→List D→Option D))(v0:D):Option D:=
j1 v0 (D.v (Value.int IntKind.i64 0)) []
noncomputable def C45_0:=B45_0 pc k (S45_1 pc k k)
theorem h45_0(v0:D):cQ P pc noY rk LA (k+1) 45 [v0]=C45_0 pc k v0:=(bqA Go.Proofs.Tryz.f45 QX tq (by kernel_rfl)).trans (Eq.trans (b:=B45_0 pc k (T45_1 pc rk k k) v0) (by kernel_rfl) (by rw[q45_1]; rfl))
noncomputable def ZK:Code:=ak 46
noncomputable def wq:List ResultVar:=bw 46
noncomputable def K46_prr:KA:=(bK (LvA.b (LvA.b (LA 46))).c (bx P pc noY rk (aq P pc noY rk 46 k) 46 (cR (cR (cR ZK))) (LvA.b (LvA.b (LvA.b (LA 46)))) (aw P wq) X0A (aw P wq)))
noncomputable def Kv:(Nat→KA):=(upA 0 (K46_prr pc rk k) X0A)
noncomputable def K46_prrlrl(m1:Nat):KA:=(bK (LvA.a (LvA.b (LvA.a (LvA.b (LvA.b (LA 46)))))).c (aq P pc noY rk 46 m1 (LvA.a (LvA.b (LvA.a (LvA.b (LvA.b (LA 46)))))) (cL (cR (cL (cR (cR ZK))))) (K46_prr pc rk k) (Kv pc rk k) (aw P wq)))
noncomputable def T46_1(m1:Nat):=fun(u0:D) (u3:D) (u4:D)=>labA (bx P pc noY rk (aq P pc noY rk 46 m1) 46 (cL (cL (cR (cL (cR (cR ZK)))))) (LvA.a (LvA.a (LvA.b (LvA.a (LvA.b (LvA.b (LA 46))))))) (K46_prrlrl pc rk k m1) (Kv pc rk k) (aw P wq)) (Tr.set (Tr.set (Tr.set Tr.nil 4 (some (AV.d u4))) 3 (some (AV.d u3))) 0 (some (AV.d u0))) Tr.nil
noncomputable def R46_1(m1:Nat):(D→D→D→Option D):=fun u0 u3 u4=>labA (aq P pc noY rk 46 m1 (LvA.a (LvA.b (LvA.a (LvA.b (LvA.b (LA 46)))))) (cL (cR (cL (cR (cR ZK))))) (K46_prr pc rk k) (Kv pc rk k) (aw P wq)) (Tr.set (Tr.set (Tr.set Tr.nil 4 (some (AV.d u4))) 3 (some (AV.d u3))) 0 (some (AV.d u0))) Tr.nil
noncomputable def B46_1(pc:PC)(k:Nat)(m1:Nat)(b1:(D→D→D→Option D))(u0:D)(u3:D)(u4:D):Option D:=
bindO (elsD u0) fun l_1=>
bindO (binD P BinOp.lss 3 (Operand.tmp 5) (Operand.tmp 7) u4 (lenD l_1)) fun d_2=>
ifU d_2 (
bindO (elsD u0) fun l_3=>
bindO (idxD u4 l_3.length) fun i_4=>
bindO (l_3[i_4]?) fun d_5=>
chkK (bk d_5) (
bindO (semD P d_5 (convert 3 80)) fun d_6=>
bindO (binD P BinOp.shl 3 (Operand.const (Value.int IntKind.i64 1)) (Operand.tmp 16) (D.v (Value.int IntKind.i64 1)) d_6) fun d_7=>
bindO (binD P BinOp.or 3 (Operand.tmp 11) (Operand.tmp 17) u3 d_7) fun d_8=>
bindO (binD P BinOp.add 3 (Operand.tmp 9) (Operand.const (Value.int IntKind.i64 1)) u4 (D.v (Value.int IntKind.i64 1))) fun d_9=>
b1 u0 d_8 d_9)) (
some u3)
noncomputable def C46_1(m1:Nat):=B46_1 pc k m1
noncomputable def S46_1:Nat→(D→D→D→Option D):=recF (C46_1 pc k) (fun _ _ _=>none)
theorem h46_1(m1:Nat):T46_1 pc rk k m1=C46_1 pc k m1 (R46_1 pc rk k m1):=by kernel_rfl
theorem q46_1(m:Nat):T46_1 pc rk k m=S46_1 pc k m:=recS (h46_1 pc rk k) (by kernel_rfl) (fun m=>by kernel_rfl) m
noncomputable def B46_0(pc:PC)(k:Nat)(j1:(D→D→D→Option D))(v0:D):Option D:=
j1 v0 (D.v (Value.int IntKind.i64 0)) (D.v (Value.int IntKind.i64 0))
noncomputable def C46_0:=B46_0 pc k (S46_1 pc k k)
theorem h46_0(v0:D):cQ P pc noY rk LA (k+1) 46 [v0]=C46_0 pc k v0:=(bqA Go.Proofs.Tryz.f46 ZK wq (by kernel_rfl)).trans (Eq.trans (b:=B46_0 pc k (T46_1 pc rk k k) v0) (by kernel_rfl) (by rw[q46_1]; rfl))
noncomputable def code47:Code:=ak 47
noncomputable def results47:List ResultVar:=bw 47
noncomputable def B47_0(pc:PC)(k:Nat)(v0:D)(v1:D):Option D:=
bindO (aggD v0) fun c_1=>
bindO (cutD c_1 0 5) fun c_2=>
bindO (pcD P pc 18 [(D.agg c_2)]) fun d_3=>
bindO (pcD P pc 20 [v1]) fun d_4=>
bindO (elsD d_4) fun l_5=>
bindO (pcD P pc 25 [d_3,(D.sl l_5)]) fun d_6=>
bindO (tupD d_6 0) fun d_7=>
bindO (tupD d_6 1) fun d_8=>
bindO (tupD d_6 2) fun d_9=>
bindO (binD P BinOp.eql 33 (Operand.tmp 19) (Operand.const (Value.int IntKind.i64 0)) d_9 (D.v (Value.int IntKind.i64 0))) fun d_a=>
ifU d_a (
some (D.tup [d_7,(D.v (Value.bool true))])) (
bindO (binD P BinOp.eql 33 (Operand.tmp 22) (Operand.const (Value.int IntKind.i64 7)) d_9 (D.v (Value.int IntKind.i64 7))) fun d_b=>
ifU d_b (
bindO (c_1[3]?) fun d_c=>
bindO (elsD d_c) fun l_d=>
bindO (binD P BinOp.eql 3 (Operand.tmp 27) (Operand.const (Value.int IntKind.i64 0)) (lenD l_d) (D.v (Value.int IntKind.i64 0))) fun d_e=>
some (D.tup [d_7,d_e])) (
some (D.tup [d_7,(D.v (Value.bool false))])))
noncomputable def C47_0:=B47_0 pc k
theorem h47_0(v0:D)(v1:D):cQ P pc noY rk LA (k+1) 47 [v0,v1]=C47_0 pc k v0 v1:=(bqA Go.Proofs.Tryz.f47 code47 results47 (by kernel_rfl)).trans (by kernel_rfl)
noncomputable def code50:Code:=ak 50
noncomputable def wv:List ResultVar:=bw 50
noncomputable def K50_pr:KA:=(bK (LvA.b (LA 50)).c (bx P pc noY rk (aq P pc noY rk 50 k) 50 (cR (cR code50)) (LvA.b (LvA.b (LA 50))) (aw P wv) X0A (aw P wv)))
noncomputable def QY:(Nat→KA):=(upA 0 (K50_pr pc rk k) X0A)
noncomputable def K50_prlrl(m1:Nat):KA:=(bK (LvA.a (LvA.b (LvA.a (LvA.b (LA 50))))).c (aq P pc noY rk 50 m1 (LvA.a (LvA.b (LvA.a (LvA.b (LA 50))))) (cL (cR (cL (cR code50)))) (K50_pr pc rk k) (QY pc rk k) (aw P wv)))
noncomputable def T50_1(m1:Nat):=fun(u0:D) (u1:D) (u5:D)=>labA (bx P pc noY rk (aq P pc noY rk 50 m1) 50 (cL (cL (cR (cL (cR code50))))) (LvA.a (LvA.a (LvA.b (LvA.a (LvA.b (LA 50)))))) (K50_prlrl pc rk k m1) (QY pc rk k) (aw P wv)) (Tr.set (Tr.set (Tr.set Tr.nil 5 (some (AV.d u5))) 1 (some (AV.d u1))) 0 (some (AV.d u0))) Tr.nil
noncomputable def R50_1(m1:Nat):(D→D→D→Option D):=fun u0 u1 u5=>labA (aq P pc noY rk 50 m1 (LvA.a (LvA.b (LvA.a (LvA.b (LA 50))))) (cL (cR (cL (cR code50)))) (K50_pr pc rk k) (QY pc rk k) (aw P wv)) (Tr.set (Tr.set (Tr.set Tr.nil 5 (some (AV.d u5))) 1 (some (AV.d u1))) 0 (some (AV.d u0))) Tr.nil
noncomputable def B50_1(pc:PC)(k:Nat)(m1:Nat)(b1:(D→D→D→Option D))(u0:D)(u1:D)(u5:D):Option D:=
bindO (elsD u0) fun l_1=>
bindO (binD P BinOp.lss 3 (Operand.tmp 6) (Operand.tmp 8) u5 (lenD l_1)) fun d_2=>
ifU d_2 (
bindO (elsD u0) fun l_3=>
bindO (idxD u5 l_3.length) fun i_4=>
bindO (l_3[i_4]?) fun d_5=>
chkK (bk d_5) (
bindO (pcD P pc 39 [u1,d_5]) fun d_6=>
bindO (semD P d_6 (Op.unary UnOp.not)) fun d_7=>
ifU d_7 (
some (D.v (Value.bool false))) (
bindO (binD P BinOp.add 3 (Operand.tmp 10) (Operand.const (Value.int IntKind.i64 1)) u5 (D.v (Value.int IntKind.i64 1))) fun d_8=>
b1 u0 u1 d_8))) (
some (D.v (Value.bool true)))
noncomputable def C50_1(m1:Nat):=B50_1 pc k m1
noncomputable def S50_1:Nat→(D→D→D→Option D):=recF (C50_1 pc k) (fun _ _ _=>none)
theorem h50_1(m1:Nat):T50_1 pc rk k m1=C50_1 pc k m1 (R50_1 pc rk k m1):=by kernel_rfl
theorem q50_1(m:Nat):T50_1 pc rk k m=S50_1 pc k m:=recS (h50_1 pc rk k) (by kernel_rfl) (fun m=>by kernel_rfl) m
noncomputable def B50_0(pc:PC)(k:Nat)(j1:(D→D→D→Option D))(v0:D)(v1:D):Option D:=
j1 v0 v1 (D.v (Value.int IntKind.i64 0))
noncomputable def C50_0:=B50_0 pc k (S50_1 pc k k)
theorem h50_0(v0:D)(v1:D):cQ P pc noY rk LA (k+1) 50 [v0,v1]=C50_0 pc k v0 v1:=(bqA Go.Proofs.Tryz.f50 code50 wv (by kernel_rfl)).trans (Eq.trans (b:=B50_0 pc k (T50_1 pc rk k k) v0 v1) (by kernel_rfl) (by rw[q50_1]; rfl))
noncomputable def code51:Code:=ak 51
noncomputable def results51:List ResultVar:=bw 51
noncomputable def B51_0(pc:PC)(k:Nat)(v0:D)(v1:D):Option D:=
bindO (aggD v0) fun c_1=>
bindO (c_1[0]?) fun d_2=>
bindO (elsD d_2) fun l_3=>
bindO (binD P BinOp.leq 3 (Operand.tmp 7) (Operand.const (Value.int IntKind.i64 11)) (lenD l_3) (D.v (Value.int IntKind.i64 11))) fun d_4=>
ifU d_4 (
bindO (c_1[1]?) fun d_5=>
bindO (elsD d_5) fun l_6=>
bindO (binD P BinOp.leq 3 (Operand.tmp 12) (Operand.const (Value.int IntKind.i64 19)) (lenD l_6) (D.v (Value.int IntKind.i64 19))) fun d_7=>
ifU d_7 (
bindO (c_1[2]?) fun d_8=>
bindO (elsD d_8) fun l_9=>
bindO (binD P BinOp.leq 3 (Operand.tmp 18) (Operand.const (Value.int IntKind.i64 6)) (lenD l_9) (D.v (Value.int IntKind.i64 6))) fun d_a=>
ifU d_a (
bindO (elsD v1) fun l_b=>
bindO (binD P BinOp.leq 3 (Operand.tmp 23) (Operand.const (Value.int IntKind.i64 11)) (lenD l_b) (D.v (Value.int IntKind.i64 11))) fun d_c=>
some d_c) (
some (D.v (Value.bool false)))) (
some (D.v (Value.bool false)))) (
some (D.v (Value.bool false)))
noncomputable def C51_0:=B51_0 pc k
theorem h51_0(v0:D)(v1:D):cQ P pc noY rk LA (k+1) 51 [v0,v1]=C51_0 pc k v0 v1:=(bqA Go.Proofs.Tryz.f51 code51 results51 (by kernel_rfl)).trans (by kernel_rfl)
noncomputable def Kw:Code:=ak 52
noncomputable def qK:List ResultVar:=bw 52
noncomputable def K52_pr:KA:=(bK (LvA.b (LA 52)).c (bx P pc noY rk (aq P pc noY rk 52 k) 52 (cR (cR Kw)) (LvA.b (LvA.b (LA 52))) (aw P qK) X0A (aw P qK)))
noncomputable def Av:(Nat→KA):=(upA 0 (K52_pr pc rk k) X0A)
noncomputable def K52_prlrl(m1:Nat):KA:=(bK (LvA.a (LvA.b (LvA.a (LvA.b (LA 52))))).c (aq P pc noY rk 52 m1 (LvA.a (LvA.b (LvA.a (LvA.b (LA 52))))) (cL (cR (cL (cR Kw)))) (K52_pr pc rk k) (Av pc rk k) (aw P qK)))
noncomputable def K52_prlrll(m1:Nat):KA:=(bK (LvA.a (LvA.a (LvA.b (LvA.a (LvA.b (LA 52)))))).c (bx P pc noY rk (aq P pc noY rk 52 m1) 52 (cR (cL (cL (cR (cL (cR Kw)))))) (LvA.b (LvA.a (LvA.a (LvA.b (LvA.a (LvA.b (LA 52))))))) (K52_prlrl pc rk k m1) (Av pc rk k) (aw P qK)))
noncomputable def T52_2(m1:Nat):=fun(u0:D) (u3:D) (u11:D)=>labA (bx P pc noY rk (aq P pc noY rk 52 m1) 52 (cR (cL (cL (cL (cR (cL (cR Kw))))))) (LvA.b (LvA.a (LvA.a (LvA.a (LvA.b (LvA.a (LvA.b (LA 52)))))))) (K52_prlrll pc rk k m1) (Av pc rk k) (aw P qK)) (Tr.set (Tr.set (Tr.set Tr.nil 11 (some (AV.d u11))) 3 (some (AV.d u3))) 0 (some (AV.d u0))) Tr.nil
noncomputable def T52_1(m1:Nat):=fun(u0:D) (u3:D)=>labA (bx P pc noY rk (aq P pc noY rk 52 m1) 52 (cL (cL (cR (cL (cR Kw))))) (LvA.a (LvA.a (LvA.b (LvA.a (LvA.b (LA 52)))))) (K52_prlrl pc rk k m1) (Av pc rk k) (aw P qK)) (Tr.set (Tr.set Tr.nil 3 (some (AV.d u3))) 0 (some (AV.d u0))) Tr.nil
noncomputable def R52_1(m1:Nat):(D→D→Option D):=fun u0 u3=>labA (aq P pc noY rk 52 m1 (LvA.a (LvA.b (LvA.a (LvA.b (LA 52))))) (cL (cR (cL (cR Kw)))) (K52_pr pc rk k) (Av pc rk k) (aw P qK)) (Tr.set (Tr.set Tr.nil 3 (some (AV.d u3))) 0 (some (AV.d u0))) Tr.nil
noncomputable def B52_2(pc:PC)(k:Nat)(m1:Nat)(b1:(D→D→Option D))(u0:D)(u3:D)(u11:D):Option D:=
ifU u11 (
bindO (elsD u0) fun l_4=>
bindO (idxD u3 l_4.length) fun i_5=>
bindO (l_4[i_5]?) fun d_6=>
chkK (bk d_6) (
bindO (elsD d_6) fun l_7=>
bindO (binD P BinOp.gtr 3 (Operand.tmp 18) (Operand.const (Value.int IntKind.i64 11)) (lenD l_7) (D.v (Value.int IntKind.i64 11))) fun d_8=>
ifU d_8 (
some (D.v (Value.bool false))) (
bindO (binD P BinOp.add 3 (Operand.tmp 12) (Operand.const (Value.int IntKind.i64 1)) u3 (D.v (Value.int IntKind.i64 1))) fun d_9=>
b1 u0 d_9))) (
bindO (elsD u0) fun l_a=>
bindO (binD P BinOp.leq 3 (Operand.tmp 21) (Operand.const (Value.int IntKind.i64 310)) (lenD l_a) (D.v (Value.int IntKind.i64 310))) fun d_b=>
some d_b)
noncomputable def C52_2(m1:Nat):=B52_2 pc k m1
theorem h52_2(m1:Nat):T52_2 pc rk k m1=C52_2 pc k m1 (R52_1 pc rk k m1):=by kernel_rfl
noncomputable def B52_1(pc:PC)(k:Nat)(m1:Nat)(j2:(D→D→D→Option D))(b1:(D→D→Option D))(u0:D)(u3:D):Option D:=
bindO (elsD u0) fun l_1=>
bindO (binD P BinOp.lss 3 (Operand.tmp 4) (Operand.tmp 6) u3 (lenD l_1)) fun d_2=>
ifU d_2 (
bindO (binD P BinOp.lss 3 (Operand.tmp 9) (Operand.const (Value.int IntKind.i64 311)) u3 (D.v (Value.int IntKind.i64 311))) fun d_3=>
j2 u0 u3 d_3) (
j2 u0 u3 (D.v (Value.bool false)))
noncomputable def C52_1(m1:Nat)(b1:(D→D→Option D)):=B52_1 pc k m1 (C52_2 pc k m1 b1) b1
noncomputable def S52_1:Nat→(D→D→Option D):=recF (C52_1 pc k) (fun _ _=>none)
theorem h52_1(m1:Nat):T52_1 pc rk k m1=C52_1 pc k m1 (R52_1 pc rk k m1):=Eq.trans (b:=B52_1 pc k m1 (T52_2 pc rk k m1) (R52_1 pc rk k m1)) (by kernel_rfl) (by rw[h52_2]; rfl)
theorem q52_1(m:Nat):T52_1 pc rk k m=S52_1 pc k m:=recS (h52_1 pc rk k) (by kernel_rfl) (fun m=>by kernel_rfl) m
noncomputable def B52_0(pc:PC)(k:Nat)(j1:(D→D→Option D))(v0:D):Option D:=
j1 v0 (D.v (Value.int IntKind.i64 0))
noncomputable def C52_0:=B52_0 pc k (S52_1 pc k k)
theorem h52_0(v0:D):cQ P pc noY rk LA (k+1) 52 [v0]=C52_0 pc k v0:=(bqA Go.Proofs.Tryz.f52 Kw qK (by kernel_rfl)).trans (Eq.trans (b:=B52_0 pc k (T52_1 pc rk k k) v0) (by kernel_rfl) (by rw[q52_1]; rfl))
noncomputable def QZ:Code:=ak 55
noncomputable def rj:List ResultVar:=bw 55
noncomputable def K55_prr:KA:=(bK (LvA.b (LvA.b (LA 55))).c (bx P pc noY rk (aq P pc noY rk 55 k) 55 (cR (cR (cR QZ))) (LvA.b (LvA.b (LvA.b (LA 55)))) (aw P rj) X0A (aw P rj)))
noncomputable def T55_1:=fun(u30:D)=>labA (bx P pc noY rk (aq P pc noY rk 55 k) 55 (cR (cL (cR (cR QZ)))) (LvA.b (LvA.a (LvA.b (LvA.b (LA 55))))) (K55_prr pc rk k) X0A (aw P rj)) (Tr.set Tr.nil 30 (some (AV.d u30))) Tr.nil
noncomputable def B55_1(pc:PC)(k:Nat)(u30:D):Option D:=
ifU u30 (
some (D.v (Value.int IntKind.i64 1))) (
some (D.v (Value.int IntKind.i64 0)))
noncomputable def C55_1:=B55_1 pc k
theorem h55_1:T55_1 pc rk k=C55_1 pc k:=by kernel_rfl
noncomputable def B55_0(pc:PC)(k:Nat)(j1:(D→Option D))(v0:D):Option D:=
bindO (aggD v0) fun c_1=>
bindO (cutD c_1 0 3) fun c_2=>
bindO (pcD P pc 77 [(D.agg c_2)]) fun d_3=>
bindO (binD P BinOp.neq 33 (Operand.tmp 7) (Operand.const (Value.int IntKind.i64 0)) d_3 (D.v (Value.int IntKind.i64 0))) fun d_4=>
ifU d_4 (
some d_3) (
bindO (cutD c_1 0 5) fun c_5=>
bindO (c_1[3]?) fun d_6=>
bindO (pcD P pc 78 [(D.agg c_5),d_6]) fun d_7=>
bindO (semD P d_7 (Op.unary UnOp.not)) fun d_8=>
ifU d_8 (
j1 (D.v (Value.bool true))) (
bindO (c_1[4]?) fun d_9=>
bindO (elsD d_9) fun l_a=>
bindO (c_1[0]?) fun d_b=>
bindO (elsD d_b) fun l_c=>
bindO (binD P BinOp.neq 3 (Operand.tmp 18) (Operand.tmp 22) (lenD l_a) (lenD l_c)) fun d_d=>
ifU d_d (
j1 (D.v (Value.bool true))) (
bindO (c_1[4]?) fun d_e=>
bindO (pcD P pc 79 [d_e,(D.fn 80 [] [])]) fun d_f=>
bindO (semD P d_f (Op.unary UnOp.not)) fun d_g=>
j1 d_g)))
noncomputable def C55_0:=B55_0 pc k (C55_1 pc k)
theorem h55_0(v0:D):cQ P pc noY rk LA (k+1) 55 [v0]=C55_0 pc k v0:=(bqA Go.Proofs.Tryz.f55 QZ rj (by kernel_rfl)).trans (Eq.trans (b:=B55_0 pc k (T55_1 pc rk k) v0) (by kernel_rfl) (by rw[h55_1]; rfl))
noncomputable def tv:Code:=ak 56
noncomputable def gv:List ResultVar:=bw 56
noncomputable def K56_prr:KA:=(bK (LvA.b (LvA.b (LA 56))).c (bx P pc noY rk (aq P pc noY rk 56 k) 56 (cR (cR (cR tv))) (LvA.b (LvA.b (LvA.b (LA 56)))) (aw P gv) X0A (aw P gv)))
noncomputable def Kx:(Nat→KA):=(upA 0 (K56_prr pc rk k) X0A)
noncomputable def K56_prrlrl(m1:Nat):KA:=(bK (LvA.a (LvA.b (LvA.a (LvA.b (LvA.b (LA 56)))))).c (aq P pc noY rk 56 m1 (LvA.a (LvA.b (LvA.a (LvA.b (LvA.b (LA 56)))))) (cL (cR (cL (cR (cR tv))))) (K56_prr pc rk k) (Kx pc rk k) (aw P gv)))
noncomputable def qaz:KA:=(bK (LvA.b (LvA.b (LvA.b (LA 56)))).c (bx P pc noY rk (aq P pc noY rk 56 k) 56 (cR (cR (cR (cR tv)))) (LvA.b (LvA.b (LvA.b (LvA.b (LA 56))))) (aw P gv) X0A (aw P gv)))
noncomputable def EQ:(Nat→KA):=(upA 2 (qaz pc rk k) X0A)
noncomputable def K56_prrrlrl(m1:Nat):KA:=(bK (LvA.a (LvA.b (LvA.a (LvA.b (LvA.b (LvA.b (LA 56))))))).c (aq P pc noY rk 56 m1 (LvA.a (LvA.b (LvA.a (LvA.b (LvA.b (LvA.b (LA 56))))))) (cL (cR (cL (cR (cR (cR tv)))))) (qaz pc rk k) (EQ pc rk k) (aw P gv)))
noncomputable def QK:KA:=(bK (LvA.b (LvA.b (LvA.b (LvA.b (LA 56))))).c (bx P pc noY rk (aq P pc noY rk 56 k) 56 (cR (cR (cR (cR (cR tv))))) (LvA.b (LvA.b (LvA.b (LvA.b (LvA.b (LA 56)))))) (aw P gv) X0A (aw P gv)))
noncomputable def BQ:(Nat→KA):=(upA 4 (QK pc rk k) X0A)
noncomputable def K56_prrrrlrl(m1:Nat):KA:=(bK (LvA.a (LvA.b (LvA.a (LvA.b (LvA.b (LvA.b (LvA.b (LA 56)))))))).c (aq P pc noY rk 56 m1 (LvA.a (LvA.b (LvA.a (LvA.b (LvA.b (LvA.b (LvA.b (LA 56)))))))) (cL (cR (cL (cR (cR (cR (cR tv))))))) (QK pc rk k) (BQ pc rk k) (aw P gv)))
noncomputable def T56_3(m1:Nat):=fun(u6:D) (c1:List D) (l31:List D) (l56:List D) (l82:List D)=>labA (bx P pc noY rk (aq P pc noY rk 56 m1) 56 (cL (cL (cR (cL (cR (cR (cR (cR tv)))))))) (LvA.a (LvA.a (LvA.b (LvA.a (LvA.b (LvA.b (LvA.b (LvA.b (LA 56))))))))) (K56_prrrrlrl pc rk k m1) (BQ pc rk k) (aw P gv)) (Tr.set (Tr.set (Tr.set (Tr.set Tr.nil 6 (some (AV.d u6))) 3 (some (AV.loc 3 0))) 2 (some (AV.loc 2 0))) 1 (some (AV.loc 1 0))) (Tr.set (Tr.set (Tr.set (Tr.set (Tr.set (Tr.set Tr.nil 82 (some (Bx.vec l82 128 5 false))) 56 (some (Bx.vec l56 131 2 false))) 31 (some (Bx.vec l31 130 2 false))) 3 (some (Bx.box [(AV.osl 31),(AV.osl 56),(AV.osl 82)]))) 2 (some (Bx.dat [(D.v (Value.slice none 0 0)),(D.v (Value.slice none 0 0)),(D.v (Value.slice none 0 0))] false))) 1 (some (Bx.dat c1 false)))
noncomputable def R56_3(m1:Nat):(D→List D→List D→List D→List D→Option D):=fun u6 c1 l31 l56 l82=>labA (aq P pc noY rk 56 m1 (LvA.a (LvA.b (LvA.a (LvA.b (LvA.b (LvA.b (LvA.b (LA 56)))))))) (cL (cR (cL (cR (cR (cR (cR tv))))))) (QK pc rk k) (BQ pc rk k) (aw P gv)) (Tr.set (Tr.set (Tr.set (Tr.set Tr.nil 6 (some (AV.d u6))) 3 (some (AV.loc 3 0))) 2 (some (AV.loc 2 0))) 1 (some (AV.loc 1 0))) (Tr.set (Tr.set (Tr.set (Tr.set (Tr.set (Tr.set Tr.nil 82 (some (Bx.vec l82 128 5 false))) 56 (some (Bx.vec l56 131 2 false))) 31 (some (Bx.vec l31 130 2 false))) 3 (some (Bx.box [(AV.osl 31),(AV.osl 56),(AV.osl 82)]))) 2 (some (Bx.dat [(D.v (Value.slice none 0 0)),(D.v (Value.slice none 0 0)),(D.v (Value.slice none 0 0))] false))) 1 (some (Bx.dat c1 false)))
noncomputable def T56_2(m1:Nat):=fun(u5:D) (c1:List D) (l31:List D) (l56:List D)=>labA (bx P pc noY rk (aq P pc noY rk 56 m1) 56 (cL (cL (cR (cL (cR (cR (cR tv))))))) (LvA.a (LvA.a (LvA.b (LvA.a (LvA.b (LvA.b (LvA.b (LA 56)))))))) (K56_prrrlrl pc rk k m1) (EQ pc rk k) (aw P gv)) (Tr.set (Tr.set (Tr.set (Tr.set Tr.nil 5 (some (AV.d u5))) 3 (some (AV.loc 3 0))) 2 (some (AV.loc 2 0))) 1 (some (AV.loc 1 0))) (Tr.set (Tr.set (Tr.set (Tr.set (Tr.set Tr.nil 56 (some (Bx.vec l56 131 2 false))) 31 (some (Bx.vec l31 130 2 false))) 3 (some (Bx.box [(AV.osl 31),(AV.osl 56),(AV.d (D.v (Value.slice none 0 0)))]))) 2 (some (Bx.dat [(D.v (Value.slice none 0 0)),(D.v (Value.slice none 0 0)),(D.v (Value.slice none 0 0))] false))) 1 (some (Bx.dat c1 false)))
noncomputable def R56_2(m1:Nat):(D→List D→List D→List D→Option D):=fun u5 c1 l31 l56=>labA (aq P pc noY rk 56 m1 (LvA.a (LvA.b (LvA.a (LvA.b (LvA.b (LvA.b (LA 56))))))) (cL (cR (cL (cR (cR (cR tv)))))) (qaz pc rk k) (EQ pc rk k) (aw P gv)) (Tr.set (Tr.set (Tr.set (Tr.set Tr.nil 5 (some (AV.d u5))) 3 (some (AV.loc 3 0))) 2 (some (AV.loc 2 0))) 1 (some (AV.loc 1 0))) (Tr.set (Tr.set (Tr.set (Tr.set (Tr.set Tr.nil 56 (some (Bx.vec l56 131 2 false))) 31 (some (Bx.vec l31 130 2 false))) 3 (some (Bx.box [(AV.osl 31),(AV.osl 56),(AV.d (D.v (Value.slice none 0 0)))]))) 2 (some (Bx.dat [(D.v (Value.slice none 0 0)),(D.v (Value.slice none 0 0)),(D.v (Value.slice none 0 0))] false))) 1 (some (Bx.dat c1 false)))
noncomputable def T56_1(m1:Nat):=fun(u4:D) (c1:List D) (l31:List D)=>labA (bx P pc noY rk (aq P pc noY rk 56 m1) 56 (cL (cL (cR (cL (cR (cR tv)))))) (LvA.a (LvA.a (LvA.b (LvA.a (LvA.b (LvA.b (LA 56))))))) (K56_prrlrl pc rk k m1) (Kx pc rk k) (aw P gv)) (Tr.set (Tr.set (Tr.set (Tr.set Tr.nil 4 (some (AV.d u4))) 3 (some (AV.loc 3 0))) 2 (some (AV.loc 2 0))) 1 (some (AV.loc 1 0))) (Tr.set (Tr.set (Tr.set (Tr.set Tr.nil 31 (some (Bx.vec l31 130 2 false))) 3 (some (Bx.box [(AV.osl 31),(AV.d (D.v (Value.slice none 0 0))),(AV.d (D.v (Value.slice none 0 0)))]))) 2 (some (Bx.dat [(D.v (Value.slice none 0 0)),(D.v (Value.slice none 0 0)),(D.v (Value.slice none 0 0))] false))) 1 (some (Bx.dat c1 false)))
noncomputable def R56_1(m1:Nat):(D→List D→List D→Option D):=fun u4 c1 l31=>labA (aq P pc noY rk 56 m1 (LvA.a (LvA.b (LvA.a (LvA.b (LvA.b (LA 56)))))) (cL (cR (cL (cR (cR tv))))) (K56_prr pc rk k) (Kx pc rk k) (aw P gv)) (Tr.set (Tr.set (Tr.set (Tr.set Tr.nil 4 (some (AV.d u4))) 3 (some (AV.loc 3 0))) 2 (some (AV.loc 2 0))) 1 (some (AV.loc 1 0))) (Tr.set (Tr.set (Tr.set (Tr.set Tr.nil 31 (some (Bx.vec l31 130 2 false))) 3 (some (Bx.box [(AV.osl 31),(AV.d (D.v (Value.slice none 0 0))),(AV.d (D.v (Value.slice none 0 0)))]))) 2 (some (Bx.dat [(D.v (Value.slice none 0 0)),(D.v (Value.slice none 0 0)),(D.v (Value.slice none 0 0))] false))) 1 (some (Bx.dat c1 false)))
noncomputable def B56_3(pc:PC)(k:Nat)(m1:Nat)(b3:(D→List D→List D→List D→List D→Option D))(u6:D)(c1:List D)(l31:List D)(l56:List D)(l82:List D):Option D:=
bindO (c1[2]?) fun d_10=>
bindO (elsD d_10) fun l_11=>
bindO (binD P BinOp.lss 3 (Operand.tmp 58) (Operand.tmp 61) u6 (lenD l_11)) fun d_12=>
ifU d_12 (
bindO (c1[2]?) fun d_13=>
bindO (elsD d_13) fun l_14=>
bindO (idxD u6 l_14.length) fun i_15=>
bindO (l_14[i_15]?) fun d_16=>
bindO (aggD d_16) fun c_17=>
chkK (Nat.beq c_17.length 5) (
bindO (cutD c_17 0 5) fun c_18=>
bindO (splD [(D.v (Value.int IntKind.i64 0)),(D.v (Value.int IntKind.i64 0)),(D.v (Value.int IntKind.i64 0)),(D.v (Value.int IntKind.i64 0)),(D.v (Value.int IntKind.i64 0))] 0 c_18 5) fun c_19=>
bindO (c_19[0]?) fun d_1a=>
bindO (cutD c_19 1 2) fun c_1b=>
bindO (cutD c_19 3 2) fun c_1c=>
bindO (pcD P pc 81 [(D.agg c_1b)]) fun d_1d=>
bindO (pcD P pc 81 [(D.agg c_1c)]) fun d_1e=>
bindO (JQ [(D.v (Value.int IntKind.i64 0)),(D.v (Value.int IntKind.i64 0)),(D.v (Value.int IntKind.i64 0)),(D.v (Value.int IntKind.i64 0)),(D.v (Value.int IntKind.i64 0))] [(0,1,d_1a),(1,2,d_1d),(3,2,d_1e)]) fun c_1f=>
chkK (Nat.beq c_1f.length 5) (
bindO (appD l82 [(D.agg c_1f)]) fun l_1g=>
bindO (binD P BinOp.add 3 (Operand.tmp 63) (Operand.const (Value.int IntKind.i64 1)) u6 (D.v (Value.int IntKind.i64 1))) fun d_1h=>
b3 d_1h c1 l31 l56 l_1g))) (
some (D.agg [(D.sl l31),(D.sl l56),(D.sl l82)]))
noncomputable def C56_3(m1:Nat):=B56_3 pc k m1
noncomputable def S56_3:Nat→(D→List D→List D→List D→List D→Option D):=recF (C56_3 pc k) (fun _ _ _ _ _=>none)
theorem h56_3(m1:Nat):T56_3 pc rk k m1=C56_3 pc k m1 (R56_3 pc rk k m1):=by kernel_rfl
theorem q56_3(m:Nat):T56_3 pc rk k m=S56_3 pc k m:=recS (h56_3 pc rk k) (by kernel_rfl) (fun m=>by kernel_rfl) m
noncomputable def B56_2(pc:PC)(k:Nat)(m1:Nat)(j3:(D→List D→List D→List D→List D→Option D))(b2:(D→List D→List D→List D→Option D))(u5:D)(c1:List D)(l31:List D)(l56:List D):Option D:=
bindO (c1[1]?) fun d_j=>
bindO (elsD d_j) fun l_k=>
bindO (binD P BinOp.lss 3 (Operand.tmp 33) (Operand.tmp 36) u5 (lenD l_k)) fun d_l=>
ifU d_l (
bindO (c1[1]?) fun d_m=>
bindO (elsD d_m) fun l_n=>
bindO (idxD u5 l_n.length) fun i_o=>
bindO (l_n[i_o]?) fun d_p=>
bindO (aggD d_p) fun c_q=>
chkK (Nat.beq c_q.length 2) (
bindO (c_q[0]?) fun d_r=>
bindO (c1[1]?) fun d_s=>
bindO (elsD d_s) fun l_t=>
bindO (idxD u5 l_t.length) fun i_u=>
bindO (l_t[i_u]?) fun d_v=>
bindO (aggD d_v) fun c_w=>
chkK (Nat.beq c_w.length 2) (
bindO ((List.drop 1 c_w)[0]?) fun d_x=>
chkK (bk d_r) (
chkK (bk d_x) (
bindO (appD l56 [(D.agg [d_r,d_x])]) fun l_y=>
bindO (binD P BinOp.add 3 (Operand.tmp 38) (Operand.const (Value.int IntKind.i64 1)) u5 (D.v (Value.int IntKind.i64 1))) fun d_z=>
b2 d_z c1 l31 l_y))))) (
j3 (D.v (Value.int IntKind.i64 0)) c1 l31 l56 [])
noncomputable def C56_2(m1:Nat):=B56_2 pc k m1 (S56_3 pc k k)
noncomputable def S56_2:Nat→(D→List D→List D→List D→Option D):=recF (C56_2 pc k) (fun _ _ _ _=>none)
theorem h56_2(m1:Nat):T56_2 pc rk k m1=C56_2 pc k m1 (R56_2 pc rk k m1):=Eq.trans (b:=B56_2 pc k m1 (T56_3 pc rk k k) (R56_2 pc rk k m1)) (by kernel_rfl) (by rw[q56_3]; rfl)
theorem q56_2(m:Nat):T56_2 pc rk k m=S56_2 pc k m:=recS (h56_2 pc rk k) (by kernel_rfl) (fun m=>by kernel_rfl) m
noncomputable def B56_1(pc:PC)(k:Nat)(m1:Nat)(j2:(D→List D→List D→List D→Option D))(b1:(D→List D→List D→Option D))(u4:D)(c1:List D)(l31:List D):Option D:=
bindO (c1[0]?) fun d_2=>
bindO (elsD d_2) fun l_3=>
bindO (binD P BinOp.lss 3 (Operand.tmp 8) (Operand.tmp 11) u4 (lenD l_3)) fun d_4=>
ifU d_4 (
bindO (c1[0]?) fun d_5=>
bindO (elsD d_5) fun l_6=>
bindO (idxD u4 l_6.length) fun i_7=>
bindO (l_6[i_7]?) fun d_8=>
bindO (aggD d_8) fun c_9=>
chkK (Nat.beq c_9.length 2) (
bindO (c_9[0]?) fun d_a=>
bindO (c1[0]?) fun d_b=>
bindO (elsD d_b) fun l_c=>
bindO (idxD u4 l_c.length) fun i_d=>
bindO (l_c[i_d]?) fun d_e=>
bindO (aggD d_e) fun c_f=>
chkK (Nat.beq c_f.length 2) (
bindO ((List.drop 1 c_f)[0]?) fun d_g=>
chkK (bk d_a) (
chkK (bk d_g) (
bindO (appD l31 [(D.agg [d_a,d_g])]) fun l_h=>
bindO (binD P BinOp.add 3 (Operand.tmp 13) (Operand.const (Value.int IntKind.i64 1)) u4 (D.v (Value.int IntKind.i64 1))) fun d_i=>
b1 d_i c1 l_h))))) (
j2 (D.v (Value.int IntKind.i64 0)) c1 l31 [])
noncomputable def C56_1(m1:Nat):=B56_1 pc k m1 (S56_2 pc k k)
noncomputable def S56_1:Nat→(D→List D→List D→Option D):=recF (C56_1 pc k) (fun _ _ _=>none)
theorem h56_1(m1:Nat):T56_1 pc rk k m1=C56_1 pc k m1 (R56_1 pc rk k m1):=Eq.trans (b:=B56_1 pc k m1 (T56_2 pc rk k k) (R56_1 pc rk k m1)) (by kernel_rfl) (by rw[q56_2]; rfl)
theorem q56_1(m:Nat):T56_1 pc rk k m=S56_1 pc k m:=recS (h56_1 pc rk k) (by kernel_rfl) (fun m=>by kernel_rfl) m
noncomputable def B56_0(pc:PC)(k:Nat)(j1:(D→List D→List D→Option D))(v0:D):Option D:=
bindO (aggD v0) fun c_1=>
j1 (D.v (Value.int IntKind.i64 0)) c_1 []
noncomputable def C56_0:=B56_0 pc k (S56_1 pc k k)
theorem h56_0(v0:D):cQ P pc noY rk LA (k+1) 56 [v0]=C56_0 pc k v0:=(bqA Go.Proofs.Tryz.f56 tv gv (by kernel_rfl)).trans (Eq.trans (b:=B56_0 pc k (T56_1 pc rk k k) v0) (by kernel_rfl) (by rw[q56_1]; rfl))
noncomputable def wK:Code:=ak 57
noncomputable def iX:List ResultVar:=bw 57
noncomputable def nQ:KA:=(bK (LvA.b (LvA.b (LvA.b (LvA.b (LvA.b (LvA.b (LA 57))))))).c (bx P pc noY rk (aq P pc noY rk 57 k) 57 (cR (cR (cR (cR (cR (cR (cR wK))))))) (LvA.b (LvA.b (LvA.b (LvA.b (LvA.b (LvA.b (LvA.b (LA 57)))))))) (aw P iX) X0A (aw P iX)))
noncomputable def jz:(Nat→KA):=(upA 0 (nQ pc rk k) X0A)
noncomputable def xj(m1:Nat):KA:=(bK (LvA.a (LvA.b (LvA.a (LvA.b (LvA.b (LvA.b (LvA.b (LvA.b (LvA.b (LA 57)))))))))).c (aq P pc noY rk 57 m1 (LvA.a (LvA.b (LvA.a (LvA.b (LvA.b (LvA.b (LvA.b (LvA.b (LvA.b (LA 57)))))))))) (cL (cR (cL (cR (cR (cR (cR (cR (cR wK))))))))) (nQ pc rk k) (jz pc rk k) (aw P iX)))
noncomputable def T57_1(m1:Nat):=fun(u7:D) (u34:D) (u35:D) (u36:D) (l33:List D)=>labA (bx P pc noY rk (aq P pc noY rk 57 m1) 57 (cL (cL (cR (cL (cR (cR (cR (cR (cR (cR wK)))))))))) (LvA.a (LvA.a (LvA.b (LvA.a (LvA.b (LvA.b (LvA.b (LvA.b (LvA.b (LvA.b (LA 57))))))))))) (xj pc rk k m1) (jz pc rk k) (aw P iX)) (Tr.set (Tr.set (Tr.set (Tr.set (Tr.set Tr.nil 36 (some (AV.d u36))) 35 (some (AV.d u35))) 34 (some (AV.d u34))) 9 (some (AV.osl 33))) 7 (some (AV.d u7))) (Tr.set Tr.nil 33 (some (Bx.vec l33 106 1 false)))
noncomputable def R57_1(m1:Nat):(D→D→D→D→List D→Option D):=fun u7 u34 u35 u36 l33=>labA (aq P pc noY rk 57 m1 (LvA.a (LvA.b (LvA.a (LvA.b (LvA.b (LvA.b (LvA.b (LvA.b (LvA.b (LA 57)))))))))) (cL (cR (cL (cR (cR (cR (cR (cR (cR wK))))))))) (nQ pc rk k) (jz pc rk k) (aw P iX)) (Tr.set (Tr.set (Tr.set (Tr.set (Tr.set Tr.nil 36 (some (AV.d u36))) 35 (some (AV.d u35))) 34 (some (AV.d u34))) 9 (some (AV.osl 33))) 7 (some (AV.d u7))) (Tr.set Tr.nil 33 (some (Bx.vec l33 106 1 false)))
noncomputable def B57_1(pc:PC)(k:Nat)(m1:Nat)(b1:(D→D→D→D→List D→Option D))(u7:D)(u34:D)(u35:D)(u36:D)(l33:List D):Option D:=
bindO (binD P BinOp.lss 3 (Operand.tmp 36) (Operand.tmp 35) u36 u35) fun d_h=>
ifU d_h (
bindO (elsD u34) fun l_i=>
bindO (idxD u36 l_i.length) fun i_j=>
bindO (l_i[i_j]?) fun d_k=>
chkK (bk d_k) (
bindO (pcD P pc 83 [d_k]) fun d_l=>
bindO (idxD u36 l33.length) fun i_m=>
bindO (l33[i_m]?) fun d_n=>
chkK (bk d_n) (
chkK (bk d_l) (
bindO (binD P BinOp.add 3 (Operand.tmp 36) (Operand.const (Value.int IntKind.i64 1)) u36 (D.v (Value.int IntKind.i64 1))) fun d_o=>
b1 u7 u34 u35 d_o (List.set l33 i_m d_l))))) (
some (D.tup [u7,(D.sl l33),(D.v (Value.int IntKind.i64 0))]))
noncomputable def VQ(m1:Nat):=B57_1 pc k m1
noncomputable def VV:Nat→(D→D→D→D→List D→Option D):=recF (VQ pc k) (fun _ _ _ _ _=>none)
theorem h57_1(m1:Nat):T57_1 pc rk k m1=VQ pc k m1 (R57_1 pc rk k m1):=by kernel_rfl
theorem q57_1(m:Nat):T57_1 pc rk k m=VV pc k m:=recS (h57_1 pc rk k) (by kernel_rfl) (fun m=>by kernel_rfl) m
noncomputable def B57_0(pc:PC)(k:Nat)(j1:(D→D→D→D→List D→Option D))(v0:D)(v1:D):Option D:=
bindO (aggD v0) fun c_1=>
bindO (cutD c_1 0 5) fun c_2=>
bindO (pcD P pc 66 [(D.agg c_2)]) fun d_3=>
bindO (tupD d_3 0) fun d_4=>
bindO (tupD d_3 1) fun d_5=>
bindO (binD P BinOp.neq 33 (Operand.tmp 17) (Operand.const (Value.int IntKind.i64 0)) d_5 (D.v (Value.int IntKind.i64 0))) fun d_6=>
ifU d_6 (
some (D.tup [(D.v (Value.pointer none)),(D.v (Value.slice none 0 0)),d_5])) (
bindO (elsD v1) fun l_7=>
bindO (binD P BinOp.gtr 3 (Operand.tmp 21) (Operand.const (Value.int IntKind.i64 300)) (lenD l_7) (D.v (Value.int IntKind.i64 300))) fun d_8=>
ifU d_8 (
some (D.tup [(D.v (Value.pointer none)),(D.v (Value.slice none 0 0)),(D.v (Value.int IntKind.i64 3))])) (
nilA (AV.d d_4) (
bindO (kY d_4) fun c_9=>
bindO (cutD c_9 0 5) fun c_a=>
bindO (pcD P pc 82 [v1,(D.fn 78 [(D.agg c_a)] [])]) fun d_b=>
bindO (semD P d_b (Op.unary UnOp.not)) fun d_c=>
ifU d_c (
some (D.tup [(D.v (Value.pointer none)),(D.v (Value.slice none 0 0)),(D.v (Value.int IntKind.i64 2))])) (
bindO (elsD v1) fun l_d=>
bindO (natD (lenD l_d)) fun i_e=>
bindO (natD (lenD l_d)) fun i_f=>
chkK (Nat.ble i_e i_f && Nat.blt i_f 1048576) (
bindO (elsD v1) fun l_g=>
j1 d_4 v1 (lenD l_g) (D.v (Value.int IntKind.i64 0)) (List.replicate i_e (D.v (Value.int IntKind.u64 0))))))))
noncomputable def C57_0:=B57_0 pc k (VV pc k k)
theorem h57_0(v0:D)(v1:D):cQ P pc noY rk LA (k+1) 57 [v0,v1]=C57_0 pc k v0 v1:=(bqA Go.Proofs.Tryz.f57 wK iX (by kernel_rfl)).trans (Eq.trans (b:=B57_0 pc k (T57_1 pc rk k k) v0 v1) (by kernel_rfl) (by rw[q57_1]; rfl))
noncomputable def xq:Code:=ak 58
noncomputable def iY:List ResultVar:=bw 58
noncomputable def BV:KA:=(bK (LvA.b (LvA.b (LA 58))).c (bx P pc noY rk (aq P pc noY rk 58 k) 58 (cR (cR (cR xq))) (LvA.b (LvA.b (LvA.b (LA 58)))) (aw P iY) X0A (aw P iY)))
noncomputable def pZ:(Nat→KA):=(upA 0 (BV pc rk k) X0A)
noncomputable def Ky(m1:Nat):KA:=(bK (LvA.a (LvA.b (LvA.a (LvA.b (LvA.b (LA 58)))))).c (aq P pc noY rk 58 m1 (LvA.a (LvA.b (LvA.a (LvA.b (LvA.b (LA 58)))))) (cL (cR (cL (cR (cR xq))))) (BV pc rk k) (pZ pc rk k) (aw P iY)))
noncomputable def T58_1(m1:Nat):=fun(u6:D) (u7:D) (u8:D) (l16:List D)=>labA (bx P pc noY rk (aq P pc noY rk 58 m1) 58 (cL (cL (cR (cL (cR (cR xq)))))) (LvA.a (LvA.a (LvA.b (LvA.a (LvA.b (LvA.b (LA 58))))))) (Ky pc rk k m1) (pZ pc rk k) (aw P iY)) (Tr.set (Tr.set (Tr.set (Tr.set Tr.nil 8 (some (AV.d u8))) 7 (some (AV.d u7))) 6 (some (AV.d u6))) 3 (some (AV.osl 16))) (Tr.set Tr.nil 16 (some (Bx.vec l16 27 1 false)))
noncomputable def R58_1(m1:Nat):(D→D→D→List D→Option D):=fun u6 u7 u8 l16=>labA (aq P pc noY rk 58 m1 (LvA.a (LvA.b (LvA.a (LvA.b (LvA.b (LA 58)))))) (cL (cR (cL (cR (cR xq))))) (BV pc rk k) (pZ pc rk k) (aw P iY)) (Tr.set (Tr.set (Tr.set (Tr.set Tr.nil 8 (some (AV.d u8))) 7 (some (AV.d u7))) 6 (some (AV.d u6))) 3 (some (AV.osl 16))) (Tr.set Tr.nil 16 (some (Bx.vec l16 27 1 false)))
noncomputable def B58_1(pc:PC)(k:Nat)(m1:Nat)(b1:(D→D→D→List D→Option D))(u6:D)(u7:D)(u8:D)(l16:List D):Option D:=
bindO (binD P BinOp.lss 3 (Operand.tmp 8) (Operand.tmp 7) u8 u7) fun d_2=>
ifU d_2 (
bindO (elsD u6) fun l_3=>
bindO (idxD u8 l_3.length) fun i_4=>
bindO (l_3[i_4]?) fun d_5=>
chkK (bk d_5) (
bindO (pcD P pc 84 [d_5]) fun d_6=>
chkK (bk d_6) (
bindO (appD l16 [d_6]) fun l_7=>
bindO (binD P BinOp.add 3 (Operand.tmp 8) (Operand.const (Value.int IntKind.i64 1)) u8 (D.v (Value.int IntKind.i64 1))) fun d_8=>
b1 u6 u7 d_8 l_7))) (
some (D.sl l16))
noncomputable def VW(m1:Nat):=B58_1 pc k m1
noncomputable def VX:Nat→(D→D→D→List D→Option D):=recF (VW pc k) (fun _ _ _ _=>none)
theorem h58_1(m1:Nat):T58_1 pc rk k m1=VW pc k m1 (R58_1 pc rk k m1):=by kernel_rfl
theorem q58_1(m:Nat):T58_1 pc rk k m=VX pc k m:=recS (h58_1 pc rk k) (by kernel_rfl) (fun m=>by kernel_rfl) m
noncomputable def B58_0(pc:PC)(k:Nat)(j1:(D→D→D→List D→Option D))(v0:D):Option D:=
bindO (elsD v0) fun l_1=>
j1 v0 (lenD l_1) (D.v (Value.int IntKind.i64 0)) []
noncomputable def C58_0:=B58_0 pc k (VX pc k k)
theorem h58_0(v0:D):cQ P pc noY rk LA (k+1) 58 [v0]=C58_0 pc k v0:=(bqA Go.Proofs.Tryz.f58 xq iY (by kernel_rfl)).trans (Eq.trans (b:=B58_0 pc k (T58_1 pc rk k k) v0) (by kernel_rfl) (by rw[q58_1]; rfl))
noncomputable def xw:Code:=ak 59
noncomputable def iZ:List ResultVar:=bw 59
noncomputable def BW:KA:=(bK (LvA.b (LvA.b (LA 59))).c (bx P pc noY rk (aq P pc noY rk 59 k) 59 (cR (cR (cR xw))) (LvA.b (LvA.b (LvA.b (LA 59)))) (aw P iZ) X0A (aw P iZ)))
noncomputable def pK:(Nat→KA):=(upA 0 (BW pc rk k) X0A)
noncomputable def Kz(m1:Nat):KA:=(bK (LvA.a (LvA.b (LvA.a (LvA.b (LvA.b (LA 59)))))).c (aq P pc noY rk 59 m1 (LvA.a (LvA.b (LvA.a (LvA.b (LvA.b (LA 59)))))) (cL (cR (cL (cR (cR xw))))) (BW pc rk k) (pK pc rk k) (aw P iZ)))
noncomputable def T59_1(m1:Nat):=fun(u0:D) (u15:D) (u16:D) (u17:D) (l14:List D)=>labA (bx P pc noY rk (aq P pc noY rk 59 m1) 59 (cL (cL (cR (cL (cR (cR xw)))))) (LvA.a (LvA.a (LvA.b (LvA.a (LvA.b (LvA.b (LA 59))))))) (Kz pc rk k m1) (pK pc rk k) (aw P iZ)) (Tr.set (Tr.set (Tr.set (Tr.set (Tr.set Tr.nil 17 (some (AV.d u17))) 16 (some (AV.d u16))) 15 (some (AV.d u15))) 5 (some (AV.osl 14))) 0 (some (AV.d u0))) (Tr.set Tr.nil 14 (some (Bx.vec l14 106 1 false)))
noncomputable def R59_1(m1:Nat):(D→D→D→D→List D→Option D):=fun u0 u15 u16 u17 l14=>labA (aq P pc noY rk 59 m1 (LvA.a (LvA.b (LvA.a (LvA.b (LvA.b (LA 59)))))) (cL (cR (cL (cR (cR xw))))) (BW pc rk k) (pK pc rk k) (aw P iZ)) (Tr.set (Tr.set (Tr.set (Tr.set (Tr.set Tr.nil 17 (some (AV.d u17))) 16 (some (AV.d u16))) 15 (some (AV.d u15))) 5 (some (AV.osl 14))) 0 (some (AV.d u0))) (Tr.set Tr.nil 14 (some (Bx.vec l14 106 1 false)))
noncomputable def B59_1(pc:PC)(k:Nat)(m1:Nat)(b1:(D→D→D→D→List D→Option D))(u0:D)(u15:D)(u16:D)(u17:D)(l14:List D):Option D:=
bindO (binD P BinOp.lss 3 (Operand.tmp 17) (Operand.tmp 16) u17 u16) fun d_5=>
ifU d_5 (
bindO (elsD u15) fun l_6=>
bindO (idxD u17 l_6.length) fun i_7=>
bindO (l_6[i_7]?) fun d_8=>
chkK (bk d_8) (
bindO (idxD u17 l14.length) fun i_9=>
bindO (l14[i_9]?) fun d_a=>
chkK (bk d_a) (
bindO (pcD P pc 85 [u0,d_a]) fun d_b=>
bindO (pcD P pc 86 [d_b,d_8]) fun d_c=>
chkK (bk d_c) (
bindO (appD l14 [d_c]) fun l_d=>
bindO (binD P BinOp.add 3 (Operand.tmp 17) (Operand.const (Value.int IntKind.i64 1)) u17 (D.v (Value.int IntKind.i64 1))) fun d_e=>
b1 u0 u15 u16 d_e l_d)))) (
some (D.sl l14))
noncomputable def VY(m1:Nat):=B59_1 pc k m1
noncomputable def VZ:Nat→(D→D→D→D→List D→Option D):=recF (VY pc k) (fun _ _ _ _ _=>none)
theorem h59_1(m1:Nat):T59_1 pc rk k m1=VY pc k m1 (R59_1 pc rk k m1):=by kernel_rfl
theorem q59_1(m:Nat):T59_1 pc rk k m=VZ pc k m:=recS (h59_1 pc rk k) (by kernel_rfl) (fun m=>by kernel_rfl) m
noncomputable def B59_0(pc:PC)(k:Nat)(j1:(D→D→D→D→List D→Option D))(v0:D)(v1:D):Option D:=
nilA (AV.d v0) (
bindO (kY v0) fun c_1=>
bindO ((List.drop 3 c_1)[0]?) fun d_2=>
bindO (pcD P pc 83 [d_2]) fun d_3=>
chkK (bk d_3) (
bindO (elsD v1) fun l_4=>
j1 v0 v1 (lenD l_4) (D.v (Value.int IntKind.i64 0)) [d_3]))
noncomputable def C59_0:=B59_0 pc k (VZ pc k k)
theorem h59_0(v0:D)(v1:D):cQ P pc noY rk LA (k+1) 59 [v0,v1]=C59_0 pc k v0 v1:=(bqA Go.Proofs.Tryz.f59 xw iZ (by kernel_rfl)).trans (Eq.trans (b:=B59_0 pc k (T59_1 pc rk k k) v0 v1) (by kernel_rfl) (by rw[q59_1]; rfl))
noncomputable def Kk:Code:=ak 60
noncomputable def ox:List ResultVar:=bw 60
noncomputable def K60_prr:KA:=(bK (LvA.b (LvA.b (LA 60))).c (bx P pc noY rk (aq P pc noY rk 60 k) 60 (cR (cR (cR Kk))) (LvA.b (LvA.b (LvA.b (LA 60)))) (aw P ox) X0A (aw P ox)))
noncomputable def qav:KA:=(bK (LvA.b (LvA.b (LvA.b (LA 60)))).c (bx P pc noY rk (aq P pc noY rk 60 k) 60 (cR (cR (cR (cR Kk)))) (LvA.b (LvA.b (LvA.b (LvA.b (LA 60))))) (aw P ox) X0A (aw P ox)))
noncomputable def EV:(Nat→KA):=(upA 0 (qav pc rk k) X0A)
noncomputable def K60_prrrlrl(m1:Nat):KA:=(bK (LvA.a (LvA.b (LvA.a (LvA.b (LvA.b (LvA.b (LA 60))))))).c (aq P pc noY rk 60 m1 (LvA.a (LvA.b (LvA.a (LvA.b (LvA.b (LvA.b (LA 60))))))) (cL (cR (cL (cR (cR (cR Kk)))))) (qav pc rk k) (EV pc rk k) (aw P ox)))
noncomputable def T60_2(m1:Nat):=fun(u4:D) (c1:List D)=>labA (bx P pc noY rk (aq P pc noY rk 60 m1) 60 (cL (cL (cR (cL (cR (cR (cR Kk))))))) (LvA.a (LvA.a (LvA.b (LvA.a (LvA.b (LvA.b (LvA.b (LA 60)))))))) (K60_prrrlrl pc rk k m1) (EV pc rk k) (aw P ox)) (Tr.set (Tr.set Tr.nil 4 (some (AV.d u4))) 1 (some (AV.loc 1 0))) (Tr.set Tr.nil 1 (some (Bx.dat c1 false)))
noncomputable def R60_2(m1:Nat):(D→List D→Option D):=fun u4 c1=>labA (aq P pc noY rk 60 m1 (LvA.a (LvA.b (LvA.a (LvA.b (LvA.b (LvA.b (LA 60))))))) (cL (cR (cL (cR (cR (cR Kk)))))) (qav pc rk k) (EV pc rk k) (aw P ox)) (Tr.set (Tr.set Tr.nil 4 (some (AV.d u4))) 1 (some (AV.loc 1 0))) (Tr.set Tr.nil 1 (some (Bx.dat c1 false)))
noncomputable def T60_1:=fun(u25:D) (c1:List D)=>labA (bx P pc noY rk (aq P pc noY rk 60 k) 60 (cR (cL (cR (cR Kk)))) (LvA.b (LvA.a (LvA.b (LvA.b (LA 60))))) (K60_prr pc rk k) X0A (aw P ox)) (Tr.set (Tr.set Tr.nil 25 (some (AV.d u25))) 1 (some (AV.loc 1 0))) (Tr.set Tr.nil 1 (some (Bx.dat c1 false)))
noncomputable def B60_2(pc:PC)(k:Nat)(m1:Nat)(b2:(D→List D→Option D))(u4:D)(c1:List D):Option D:=
bindO (c1[4]?) fun d_9=>
bindO (elsD d_9) fun l_a=>
bindO (binD P BinOp.lss 3 (Operand.tmp 26) (Operand.tmp 29) u4 (lenD l_a)) fun d_b=>
ifU d_b (
bindO (c1[4]?) fun d_c=>
bindO (elsD d_c) fun l_d=>
bindO (idxD u4 l_d.length) fun i_e=>
bindO (l_d[i_e]?) fun d_f=>
chkK (bk d_f) (
bindO (pcD P pc 35 [d_f,(D.v (Value.int IntKind.i64 0)),(D.v (Value.int IntKind.i64 100))]) fun d_g=>
bindO (semD P d_g (Op.unary UnOp.not)) fun d_h=>
ifU d_h (
some (D.v (Value.int IntKind.i64 1))) (
bindO (binD P BinOp.add 3 (Operand.tmp 31) (Operand.const (Value.int IntKind.i64 1)) u4 (D.v (Value.int IntKind.i64 1))) fun d_i=>
b2 d_i c1))) (
some (D.v (Value.int IntKind.i64 0)))
noncomputable def C60_2(m1:Nat):=B60_2 pc k m1
noncomputable def S60_2:Nat→(D→List D→Option D):=recF (C60_2 pc k) (fun _ _=>none)
theorem h60_2(m1:Nat):T60_2 pc rk k m1=C60_2 pc k m1 (R60_2 pc rk k m1):=by kernel_rfl
theorem q60_2(m:Nat):T60_2 pc rk k m=S60_2 pc k m:=recS (h60_2 pc rk k) (by kernel_rfl) (fun m=>by kernel_rfl) m
noncomputable def B60_1(pc:PC)(k:Nat)(j2:(D→List D→Option D))(u25:D)(c1:List D):Option D:=
ifU u25 (
some (D.v (Value.int IntKind.i64 1))) (
j2 (D.v (Value.int IntKind.i64 0)) c1)
noncomputable def C60_1:=B60_1 pc k (S60_2 pc k k)
theorem h60_1:T60_1 pc rk k=C60_1 pc k:=Eq.trans (b:=B60_1 pc k (T60_2 pc rk k k)) (by kernel_rfl) (by rw[q60_2]; rfl)
noncomputable def B60_0(pc:PC)(k:Nat)(j1:(D→List D→Option D))(v0:D):Option D:=
bindO (aggD v0) fun c_1=>
bindO (cutD c_1 0 3) fun c_2=>
bindO (pcD P pc 87 [(D.agg c_2)]) fun d_3=>
bindO (binD P BinOp.neq 3 (Operand.tmp 8) (Operand.const (Value.int IntKind.i64 0)) d_3 (D.v (Value.int IntKind.i64 0))) fun d_4=>
ifU d_4 (
some d_3) (
bindO (cutD c_1 0 5) fun c_5=>
bindO (c_1[3]?) fun d_6=>
bindO (pcD P pc 88 [(D.agg c_5),d_6]) fun d_7=>
bindO (semD P d_7 (Op.unary UnOp.not)) fun d_8=>
ifU d_8 (
j1 (D.v (Value.bool true)) c_1) (
bindO (c_1[4]?) fun d_j=>
bindO (elsD d_j) fun l_k=>
bindO (c_1[0]?) fun d_l=>
bindO (elsD d_l) fun l_m=>
bindO (binD P BinOp.neq 3 (Operand.tmp 19) (Operand.tmp 23) (lenD l_k) (lenD l_m)) fun d_n=>
j1 d_n c_1))
noncomputable def C60_0:=B60_0 pc k (C60_1 pc k)
theorem h60_0(v0:D):cQ P pc noY rk LA (k+1) 60 [v0]=C60_0 pc k v0:=(bqA Go.Proofs.Tryz.f60 Kk ox (by kernel_rfl)).trans (Eq.trans (b:=B60_0 pc k (T60_1 pc rk k) v0) (by kernel_rfl) (by rw[h60_1]; rfl))
noncomputable def code61:Code:=ak 61
noncomputable def wx:List ResultVar:=bw 61
noncomputable def K61_prr:KA:=(bK (LvA.b (LvA.b (LA 61))).c (bx P pc noY rk (aq P pc noY rk 61 k) 61 (cR (cR (cR code61))) (LvA.b (LvA.b (LvA.b (LA 61)))) (aw P wx) X0A (aw P wx)))
noncomputable def KJ:(Nat→KA):=(upA 0 (K61_prr pc rk k) X0A)
noncomputable def K61_prrlrl(m1:Nat):KA:=(bK (LvA.a (LvA.b (LvA.a (LvA.b (LvA.b (LA 61)))))).c (aq P pc noY rk 61 m1 (LvA.a (LvA.b (LvA.a (LvA.b (LvA.b (LA 61)))))) (cL (cR (cL (cR (cR code61))))) (K61_prr pc rk k) (KJ pc rk k) (aw P wx)))
noncomputable def T61_1(m1:Nat):=fun(u1:D) (u5:D) (c2:List D)=>labA (bx P pc noY rk (aq P pc noY rk 61 m1) 61 (cL (cL (cR (cL (cR (cR code61)))))) (LvA.a (LvA.a (LvA.b (LvA.a (LvA.b (LvA.b (LA 61))))))) (K61_prrlrl pc rk k m1) (KJ pc rk k) (aw P wx)) (Tr.set (Tr.set (Tr.set Tr.nil 5 (some (AV.d u5))) 2 (some (AV.loc 2 0))) 1 (some (AV.d u1))) (Tr.set Tr.nil 2 (some (Bx.dat c2 false)))
noncomputable def R61_1(m1:Nat):(D→D→List D→Option D):=fun u1 u5 c2=>labA (aq P pc noY rk 61 m1 (LvA.a (LvA.b (LvA.a (LvA.b (LvA.b (LA 61)))))) (cL (cR (cL (cR (cR code61))))) (K61_prr pc rk k) (KJ pc rk k) (aw P wx)) (Tr.set (Tr.set (Tr.set Tr.nil 5 (some (AV.d u5))) 2 (some (AV.loc 2 0))) 1 (some (AV.d u1))) (Tr.set Tr.nil 2 (some (Bx.dat c2 false)))
noncomputable def B61_1(pc:PC)(k:Nat)(m1:Nat)(b1:(D→D→List D→Option D))(u1:D)(u5:D)(c2:List D):Option D:=
bindO (elsD u1) fun l_4=>
bindO (binD P BinOp.lss 3 (Operand.tmp 9) (Operand.tmp 11) u5 (lenD l_4)) fun d_5=>
ifU d_5 (
bindO (cutD c2 0 5) fun c_6=>
bindO (elsD u1) fun l_7=>
bindO (idxD u5 l_7.length) fun i_8=>
bindO (l_7[i_8]?) fun d_9=>
chkK (bk d_9) (
bindO (pcD P pc 88 [(D.agg c_6),d_9]) fun d_a=>
bindO (semD P d_a (Op.unary UnOp.not)) fun d_b=>
ifU d_b (
some (D.v (Value.int IntKind.i64 2))) (
bindO (binD P BinOp.add 3 (Operand.tmp 13) (Operand.const (Value.int IntKind.i64 1)) u5 (D.v (Value.int IntKind.i64 1))) fun d_c=>
b1 u1 d_c c2))) (
some (D.v (Value.int IntKind.i64 0)))
noncomputable def C61_1(m1:Nat):=B61_1 pc k m1
noncomputable def S61_1:Nat→(D→D→List D→Option D):=recF (C61_1 pc k) (fun _ _ _=>none)
theorem h61_1(m1:Nat):T61_1 pc rk k m1=C61_1 pc k m1 (R61_1 pc rk k m1):=by kernel_rfl
theorem q61_1(m:Nat):T61_1 pc rk k m=S61_1 pc k m:=recS (h61_1 pc rk k) (by kernel_rfl) (fun m=>by kernel_rfl) m
noncomputable def B61_0(pc:PC)(k:Nat)(j1:(D→D→List D→Option D))(v0:D)(v1:D):Option D:=
bindO (aggD v0) fun c_1=>
bindO (elsD v1) fun l_2=>
bindO (binD P BinOp.gtr 3 (Operand.tmp 7) (Operand.const (Value.int IntKind.i64 300)) (lenD l_2) (D.v (Value.int IntKind.i64 300))) fun d_3=>
ifU d_3 (
some (D.v (Value.int IntKind.i64 3))) (
j1 v1 (D.v (Value.int IntKind.i64 0)) c_1)
noncomputable def C61_0:=B61_0 pc k (S61_1 pc k k)
theorem h61_0(v0:D)(v1:D):cQ P pc noY rk LA (k+1) 61 [v0,v1]=C61_0 pc k v0 v1:=(bqA Go.Proofs.Tryz.f61 code61 wx (by kernel_rfl)).trans (Eq.trans (b:=B61_0 pc k (T61_1 pc rk k k) v0 v1) (by kernel_rfl) (by rw[q61_1]; rfl))
noncomputable def tx:Code:=ak 63
noncomputable def fJ:List ResultVar:=bw 63
noncomputable def tz:KA:=(bK (LvA.b (LvA.b (LvA.b (LvA.b (LA 63))))).c (bx P pc noY rk (aq P pc noY rk 63 k) 63 (cR (cR (cR (cR (cR tx))))) (LvA.b (LvA.b (LvA.b (LvA.b (LvA.b (LA 63)))))) (aw P fJ) X0A (aw P fJ)))
noncomputable def lZ:(Nat→KA):=(upA 0 (tz pc rk k) X0A)
noncomputable def BX(m1:Nat):KA:=(bK (LvA.a (LvA.b (LvA.a (LvA.b (LvA.b (LvA.b (LvA.b (LA 63)))))))).c (aq P pc noY rk 63 m1 (LvA.a (LvA.b (LvA.a (LvA.b (LvA.b (LvA.b (LvA.b (LA 63)))))))) (cL (cR (cL (cR (cR (cR (cR tx))))))) (tz pc rk k) (lZ pc rk k) (aw P fJ)))
noncomputable def T63_2:=fun(l36:List D)=>labA (bx P pc noY rk (aq P pc noY rk 63 k) 63 (cR (cR (cR (cR (cR tx))))) (LvA.b (LvA.b (LvA.b (LvA.b (LvA.b (LA 63)))))) (aw P fJ) X0A (aw P fJ)) (Tr.set Tr.nil 6 (some (AV.osl 36))) (Tr.set Tr.nil 36 (some (Bx.vec l36 3 1 false)))
noncomputable def T63_1(m1:Nat):=fun(u0:D) (u7:D) (u20:D) (u21:D) (u22:D) (g5_0:D) (l36:List D)=>labA (bx P pc noY rk (aq P pc noY rk 63 m1) 63 (cL (cL (cR (cL (cR (cR (cR (cR tx)))))))) (LvA.a (LvA.a (LvA.b (LvA.a (LvA.b (LvA.b (LvA.b (LvA.b (LA 63))))))))) (BX pc rk k m1) (lZ pc rk k) (aw P fJ)) (Tr.set (Tr.set (Tr.set (Tr.set (Tr.set (Tr.set (Tr.set Tr.nil 22 (some (AV.d u22))) 21 (some (AV.d u21))) 20 (some (AV.d u20))) 7 (some (AV.d u7))) 6 (some (AV.osl 36))) 5 (some (AV.loc 5 0))) 0 (some (AV.d u0))) (Tr.set (Tr.set Tr.nil 36 (some (Bx.vec l36 3 1 false))) 5 (some (Bx.dat [g5_0] false)))
noncomputable def R63_1(m1:Nat):(D→D→D→D→D→D→List D→Option D):=fun u0 u7 u20 u21 u22 g5_0 l36=>labA (aq P pc noY rk 63 m1 (LvA.a (LvA.b (LvA.a (LvA.b (LvA.b (LvA.b (LvA.b (LA 63)))))))) (cL (cR (cL (cR (cR (cR (cR tx))))))) (tz pc rk k) (lZ pc rk k) (aw P fJ)) (Tr.set (Tr.set (Tr.set (Tr.set (Tr.set (Tr.set (Tr.set Tr.nil 22 (some (AV.d u22))) 21 (some (AV.d u21))) 20 (some (AV.d u20))) 7 (some (AV.d u7))) 6 (some (AV.osl 36))) 5 (some (AV.loc 5 0))) 0 (some (AV.d u0))) (Tr.set (Tr.set Tr.nil 36 (some (Bx.vec l36 3 1 false))) 5 (some (Bx.dat [g5_0] false)))
noncomputable def B63_2(pc:PC)(k:Nat)(l36:List D):Option D:=
some (D.sl l36)
noncomputable def C63_2:=B63_2 pc k
theorem h63_2:T63_2 pc rk k=C63_2 pc k:=by kernel_rfl
noncomputable def B63_1(pc:PC)(k:Nat)(m1:Nat)(j2:(List D→Option D))(b1:(D→D→D→D→D→D→List D→Option D))(u0:D)(u7:D)(u20:D)(u21:D)(u22:D)(g5_0:D)(l36:List D):Option D:=
bindO (binD P BinOp.lss 3 (Operand.tmp 22) (Operand.tmp 21) u22 u21) fun d_6=>
ifU d_6 (
bindO (elsD u20) fun l_7=>
bindO (idxD u22 l_7.length) fun i_8=>
bindO (l_7[i_8]?) fun d_9=>
chkK (bk d_9) (
chkK (bk u22) (
bindO (binD P BinOp.eql 106 (Operand.tmp 27) (Operand.const (Value.int IntKind.u64 0)) u7 (D.v (Value.int IntKind.u64 0))) fun d_a=>
ifU d_a (
j2 l36) (
bindO (pcD P pc 84 [u7]) fun d_b=>
bindO (pcD P pc 90 [d_b,(D.fn 91 [] [(D.ref [g5_0]),(D.ref [u22])])]) fun d_c=>
chkK (bk d_c) (
bindO (appD l36 [d_c]) fun l_d=>
chkK (bk d_c) (
bindO (pcD P pc 83 [(D.sl [d_c])]) fun d_e=>
bindO (pcD P pc 85 [u0,d_e]) fun d_f=>
bindO (pcD P pc 86 [d_f,d_9]) fun d_g=>
bindO (binD P BinOp.add 3 (Operand.tmp 22) (Operand.const (Value.int IntKind.i64 1)) u22 (D.v (Value.int IntKind.i64 1))) fun d_h=>
b1 u0 d_g u20 u21 d_h g5_0 l_d)))))) (
j2 l36)
noncomputable def VK(m1:Nat):=B63_1 pc k m1 (C63_2 pc k)
noncomputable def S63_1:Nat→(D→D→D→D→D→D→List D→Option D):=recF (VK pc k) (fun _ _ _ _ _ _ _=>none)
theorem h63_1(m1:Nat):T63_1 pc rk k m1=VK pc k m1 (R63_1 pc rk k m1):=Eq.trans (b:=B63_1 pc k m1 (T63_2 pc rk k) (R63_1 pc rk k m1)) (by kernel_rfl) (by rw[h63_2]; rfl)
theorem q63_1(m:Nat):T63_1 pc rk k m=S63_1 pc k m:=recS (h63_1 pc rk k) (by kernel_rfl) (fun m=>by kernel_rfl) m
noncomputable def B63_0(pc:PC)(k:Nat)(j1:(D→D→D→D→D→D→List D→Option D))(v0:D)(v1:D):Option D:=
bindO (pcD P pc 89 [v0,v1]) fun d_1=>
chkK (bk d_1) (
nilA (AV.d v0) (
bindO (kY v0) fun c_2=>
bindO ((List.drop 3 c_2)[0]?) fun d_3=>
bindO (pcD P pc 83 [d_3]) fun d_4=>
bindO (elsD v1) fun l_5=>
j1 v0 d_4 v1 (lenD l_5) (D.v (Value.int IntKind.i64 0)) d_1 []))
noncomputable def C63_0:=B63_0 pc k (S63_1 pc k k)
theorem h63_0(v0:D)(v1:D):cQ P pc noY rk LA (k+1) 63 [v0,v1]=C63_0 pc k v0 v1:=(bqA Go.Proofs.Tryz.f63 tx fJ (by kernel_rfl)).trans (Eq.trans (b:=B63_0 pc k (T63_1 pc rk k k) v0 v1) (by kernel_rfl) (by rw[q63_1]; rfl))
noncomputable def xy:Code:=ak 64
noncomputable def iK:List ResultVar:=bw 64
noncomputable def BY:KA:=(bK (LvA.b (LvA.b (LA 64))).c (bx P pc noY rk (aq P pc noY rk 64 k) 64 (cR (cR (cR xy))) (LvA.b (LvA.b (LvA.b (LA 64)))) (aw P iK) X0A (aw P iK)))
noncomputable def qj:(Nat→KA):=(upA 0 (BY pc rk k) X0A)
noncomputable def KQ(m1:Nat):KA:=(bK (LvA.a (LvA.b (LvA.a (LvA.b (LvA.b (LA 64)))))).c (aq P pc noY rk 64 m1 (LvA.a (LvA.b (LvA.a (LvA.b (LvA.b (LA 64)))))) (cL (cR (cL (cR (cR xy))))) (BY pc rk k) (qj pc rk k) (aw P iK)))
noncomputable def T64_1(m1:Nat):=fun(u0:D) (u5:D) (u8:D) (u9:D) (u10:D)=>labA (bx P pc noY rk (aq P pc noY rk 64 m1) 64 (cL (cL (cR (cL (cR (cR xy)))))) (LvA.a (LvA.a (LvA.b (LvA.a (LvA.b (LvA.b (LA 64))))))) (KQ pc rk k m1) (qj pc rk k) (aw P iK)) (Tr.set (Tr.set (Tr.set (Tr.set (Tr.set Tr.nil 10 (some (AV.d u10))) 9 (some (AV.d u9))) 8 (some (AV.d u8))) 5 (some (AV.d u5))) 0 (some (AV.d u0))) Tr.nil
noncomputable def R64_1(m1:Nat):(D→D→D→D→D→Option D):=fun u0 u5 u8 u9 u10=>labA (aq P pc noY rk 64 m1 (LvA.a (LvA.b (LvA.a (LvA.b (LvA.b (LA 64)))))) (cL (cR (cL (cR (cR xy))))) (BY pc rk k) (qj pc rk k) (aw P iK)) (Tr.set (Tr.set (Tr.set (Tr.set (Tr.set Tr.nil 10 (some (AV.d u10))) 9 (some (AV.d u9))) 8 (some (AV.d u8))) 5 (some (AV.d u5))) 0 (some (AV.d u0))) Tr.nil
noncomputable def B64_1(pc:PC)(k:Nat)(m1:Nat)(b1:(D→D→D→D→D→Option D))(u0:D)(u5:D)(u8:D)(u9:D)(u10:D):Option D:=
bindO (binD P BinOp.lss 3 (Operand.tmp 10) (Operand.tmp 9) u10 u9) fun d_2=>
ifU d_2 (
bindO (elsD u8) fun l_3=>
bindO (idxD u10 l_3.length) fun i_4=>
bindO (l_3[i_4]?) fun d_5=>
chkK (bk d_5) (
nilA (AV.d u0) (
bindO (kY u0) fun c_6=>
bindO ((List.drop 4 c_6)[0]?) fun d_7=>
bindO (elsD d_7) fun l_8=>
bindO (idxD d_5 l_8.length) fun i_9=>
bindO (l_8[i_9]?) fun d_a=>
chkK (bk d_a) (
bindO (binD P BinOp.add 3 (Operand.tmp 14) (Operand.tmp 22) u5 d_a) fun d_b=>
bindO (binD P BinOp.add 3 (Operand.tmp 10) (Operand.const (Value.int IntKind.i64 1)) u10 (D.v (Value.int IntKind.i64 1))) fun d_c=>
b1 u0 d_b u8 u9 d_c)))) (
some u5)
noncomputable def Wj(m1:Nat):=B64_1 pc k m1
noncomputable def Wq:Nat→(D→D→D→D→D→Option D):=recF (Wj pc k) (fun _ _ _ _ _=>none)
theorem h64_1(m1:Nat):T64_1 pc rk k m1=Wj pc k m1 (R64_1 pc rk k m1):=by kernel_rfl
theorem q64_1(m:Nat):T64_1 pc rk k m=Wq pc k m:=recS (h64_1 pc rk k) (by kernel_rfl) (fun m=>by kernel_rfl) m
noncomputable def B64_0(pc:PC)(k:Nat)(j1:(D→D→D→D→D→Option D))(v0:D)(v1:D):Option D:=
bindO (elsD v1) fun l_1=>
j1 v0 (D.v (Value.int IntKind.i64 0)) v1 (lenD l_1) (D.v (Value.int IntKind.i64 0))
noncomputable def C64_0:=B64_0 pc k (Wq pc k k)
theorem h64_0(v0:D)(v1:D):cQ P pc noY rk LA (k+1) 64 [v0,v1]=C64_0 pc k v0 v1:=(bqA Go.Proofs.Tryz.f64 xy iK (by kernel_rfl)).trans (Eq.trans (b:=B64_0 pc k (T64_1 pc rk k k) v0 v1) (by kernel_rfl) (by rw[q64_1]; rfl))
noncomputable def lK:Code:=ak 66
noncomputable def dZ:List ResultVar:=bw 66
noncomputable def xz:KA:=(bK (LvA.b (LvA.b (LvA.b (LA 66)))).c (bx P pc noY rk (aq P pc noY rk 66 k) 66 (cR (cR (cR (cR lK)))) (LvA.b (LvA.b (LvA.b (LvA.b (LA 66))))) (aw P dZ) X0A (aw P dZ)))
noncomputable def nV:(Nat→KA):=(upA 0 (xz pc rk k) X0A)
noncomputable def EW(m1:Nat):KA:=(bK (LvA.a (LvA.b (LvA.a (LvA.b (LvA.b (LvA.b (LA 66))))))).c (aq P pc noY rk 66 m1 (LvA.a (LvA.b (LvA.a (LvA.b (LvA.b (LvA.b (LA 66))))))) (cL (cR (cL (cR (cR (cR lK)))))) (xz pc rk k) (nV pc rk k) (aw P dZ)))
noncomputable def tk:KA:=(bK (LvA.b (LvA.b (LvA.b (LvA.b (LA 66))))).c (bx P pc noY rk (aq P pc noY rk 66 k) 66 (cR (cR (cR (cR (cR lK))))) (LvA.b (LvA.b (LvA.b (LvA.b (LvA.b (LA 66)))))) (aw P dZ) X0A (aw P dZ)))
noncomputable def mj:(Nat→KA):=(upA 2 (tk pc rk k) X0A)
noncomputable def BZ(m1:Nat):KA:=(bK (LvA.a (LvA.b (LvA.a (LvA.b (LvA.b (LvA.b (LvA.b (LA 66)))))))).c (aq P pc noY rk 66 m1 (LvA.a (LvA.b (LvA.a (LvA.b (LvA.b (LvA.b (LvA.b (LA 66)))))))) (cL (cR (cL (cR (cR (cR (cR lK))))))) (tk pc rk k) (mj pc rk k) (aw P dZ)))
noncomputable def T66_2(m1:Nat):=fun(u40:D) (u41:D) (u42:D) (c16:List D)=>labA (bx P pc noY rk (aq P pc noY rk 66 m1) 66 (cL (cL (cR (cL (cR (cR (cR (cR lK)))))))) (LvA.a (LvA.a (LvA.b (LvA.a (LvA.b (LvA.b (LvA.b (LvA.b (LA 66))))))))) (BZ pc rk k m1) (mj pc rk k) (aw P dZ)) (Tr.set (Tr.set (Tr.set (Tr.set Tr.nil 42 (some (AV.d u42))) 41 (some (AV.d u41))) 40 (some (AV.d u40))) 5 (some (AV.loc 16 0))) (Tr.set Tr.nil 16 (some (Bx.dat c16 false)))
noncomputable def R66_2(m1:Nat):(D→D→D→List D→Option D):=fun u40 u41 u42 c16=>labA (aq P pc noY rk 66 m1 (LvA.a (LvA.b (LvA.a (LvA.b (LvA.b (LvA.b (LvA.b (LA 66)))))))) (cL (cR (cL (cR (cR (cR (cR lK))))))) (tk pc rk k) (mj pc rk k) (aw P dZ)) (Tr.set (Tr.set (Tr.set (Tr.set Tr.nil 42 (some (AV.d u42))) 41 (some (AV.d u41))) 40 (some (AV.d u40))) 5 (some (AV.loc 16 0))) (Tr.set Tr.nil 16 (some (Bx.dat c16 false)))
noncomputable def T66_1(m1:Nat):=fun(u22:D) (u23:D) (c16:List D)=>labA (bx P pc noY rk (aq P pc noY rk 66 m1) 66 (cL (cL (cR (cL (cR (cR (cR lK))))))) (LvA.a (LvA.a (LvA.b (LvA.a (LvA.b (LvA.b (LvA.b (LA 66)))))))) (EW pc rk k m1) (nV pc rk k) (aw P dZ)) (Tr.set (Tr.set (Tr.set Tr.nil 23 (some (AV.d u23))) 22 (some (AV.d u22))) 5 (some (AV.loc 16 0))) (Tr.set Tr.nil 16 (some (Bx.dat c16 false)))
noncomputable def R66_1(m1:Nat):(D→D→List D→Option D):=fun u22 u23 c16=>labA (aq P pc noY rk 66 m1 (LvA.a (LvA.b (LvA.a (LvA.b (LvA.b (LvA.b (LA 66))))))) (cL (cR (cL (cR (cR (cR lK)))))) (xz pc rk k) (nV pc rk k) (aw P dZ)) (Tr.set (Tr.set (Tr.set Tr.nil 23 (some (AV.d u23))) 22 (some (AV.d u22))) 5 (some (AV.loc 16 0))) (Tr.set Tr.nil 16 (some (Bx.dat c16 false)))
noncomputable def B66_2(pc:PC)(k:Nat)(m1:Nat)(b2:(D→D→D→List D→Option D))(u40:D)(u41:D)(u42:D)(c16:List D):Option D:=
bindO (binD P BinOp.lss 3 (Operand.tmp 42) (Operand.tmp 41) u42 u41) fun d_f=>
ifU d_f (
bindO (elsD u40) fun l_g=>
bindO (idxD u42 l_g.length) fun i_h=>
bindO (l_g[i_h]?) fun d_i=>
bindO (aggD d_i) fun c_j=>
chkK (Nat.beq c_j.length 2) (
bindO (cutD c_j 0 2) fun c_k=>
bindO (splD [(D.v (Value.int IntKind.i64 0)),(D.v (Value.int IntKind.i64 0))] 0 c_k 2) fun c_l=>
bindO (c_l[0]?) fun d_m=>
bindO (idxD d_m 8) fun i_n=>
bindO (c16[(5+i_n * 1)]?) fun d_o=>
bindO (c_l[1]?) fun d_p=>
chkK (bk d_p) (
bindO (pcD P pc 83 [(D.sl [d_p])]) fun d_q=>
bindO (binD P BinOp.or 106 (Operand.tmp 52) (Operand.tmp 56) d_o d_q) fun d_r=>
bindO (idxD d_m 8) fun i_s=>
chkK (bk d_r) (
chkK (Nat.blt (5+i_s * 1) c16.length) (
bindO (c_l[1]?) fun d_t=>
bindO (idxD d_t 8) fun i_u=>
bindO ((List.set c16 (5+i_s * 1) d_r)[(5+i_u * 1)]?) fun d_v=>
bindO (c_l[0]?) fun d_w=>
chkK (bk d_w) (
bindO (pcD P pc 83 [(D.sl [d_w])]) fun d_x=>
bindO (binD P BinOp.or 106 (Operand.tmp 67) (Operand.tmp 71) d_v d_x) fun d_y=>
bindO (idxD d_t 8) fun i_z=>
chkK (bk d_y) (
chkK (Nat.blt (5+i_z * 1) (List.set c16 (5+i_s * 1) d_r).length) (
bindO (binD P BinOp.add 3 (Operand.tmp 42) (Operand.const (Value.int IntKind.i64 1)) u42 (D.v (Value.int IntKind.i64 1))) fun d_10=>
b2 u40 u41 d_10 (List.set (List.set c16 (5+i_s * 1) d_r) (5+i_z * 1) d_y))))))))) (
some (D.tup [(D.ref c16),(D.v (Value.int IntKind.i64 0))]))
noncomputable def Wv(m1:Nat):=B66_2 pc k m1
noncomputable def Ww:Nat→(D→D→D→List D→Option D):=recF (Wv pc k) (fun _ _ _ _=>none)
theorem h66_2(m1:Nat):T66_2 pc rk k m1=Wv pc k m1 (R66_2 pc rk k m1):=by kernel_rfl
theorem q66_2(m:Nat):T66_2 pc rk k m=Ww pc k m:=recS (h66_2 pc rk k) (by kernel_rfl) (fun m=>by kernel_rfl) m
noncomputable def B66_1(pc:PC)(k:Nat)(m1:Nat)(j2:(D→D→D→List D→Option D))(b1:(D→D→List D→Option D))(u22:D)(u23:D)(c16:List D):Option D:=
bindO (binD P BinOp.lss 3 (Operand.tmp 23) (Operand.tmp 22) u23 u22) fun d_9=>
ifU d_9 (
chkK (bk u23) (
bindO (pcD P pc 83 [(D.sl [u23])]) fun d_a=>
bindO (idxD u23 8) fun i_b=>
chkK (bk d_a) (
chkK (Nat.blt (5+i_b * 1) c16.length) (
bindO (binD P BinOp.add 3 (Operand.tmp 23) (Operand.const (Value.int IntKind.i64 1)) u23 (D.v (Value.int IntKind.i64 1))) fun d_c=>
b1 u22 d_c (List.set c16 (5+i_b * 1) d_a))))) (
bindO (c16[1]?) fun d_d=>
bindO (elsD d_d) fun l_e=>
j2 d_d (lenD l_e) (D.v (Value.int IntKind.i64 0)) c16)
noncomputable def Wx(m1:Nat):=B66_1 pc k m1 (Ww pc k k)
noncomputable def Wy:Nat→(D→D→List D→Option D):=recF (Wx pc k) (fun _ _ _=>none)
theorem h66_1(m1:Nat):T66_1 pc rk k m1=Wx pc k m1 (R66_1 pc rk k m1):=Eq.trans (b:=B66_1 pc k m1 (T66_2 pc rk k k) (R66_1 pc rk k m1)) (by kernel_rfl) (by rw[q66_2]; rfl)
theorem q66_1(m:Nat):T66_1 pc rk k m=Wy pc k m:=recS (h66_1 pc rk k) (by kernel_rfl) (fun m=>by kernel_rfl) m
noncomputable def B66_0(pc:PC)(k:Nat)(j1:(D→D→List D→Option D))(v0:D):Option D:=
bindO (aggD v0) fun c_1=>
bindO (cutD c_1 0 5) fun c_2=>
bindO (pcD P pc 55 [(D.agg c_2)]) fun d_3=>
bindO (binD P BinOp.neq 33 (Operand.tmp 11) (Operand.const (Value.int IntKind.i64 0)) d_3 (D.v (Value.int IntKind.i64 0))) fun d_4=>
ifU d_4 (
some (D.tup [(D.v (Value.pointer none)),d_3])) (
bindO (cutD c_1 0 5) fun c_5=>
bindO (JQ [(D.v (Value.slice none 0 0)),(D.v (Value.slice none 0 0)),(D.v (Value.slice none 0 0)),(D.v (Value.slice none 0 0)),(D.v (Value.slice none 0 0)),(D.v (Value.int IntKind.u64 0)),(D.v (Value.int IntKind.u64 0)),(D.v (Value.int IntKind.u64 0)),(D.v (Value.int IntKind.u64 0)),(D.v (Value.int IntKind.u64 0)),(D.v (Value.int IntKind.u64 0)),(D.v (Value.int IntKind.u64 0)),(D.v (Value.int IntKind.u64 0))] [(0,5,(D.agg c_5))]) fun c_6=>
bindO (c_6[4]?) fun d_7=>
bindO (elsD d_7) fun l_8=>
j1 (lenD l_8) (D.v (Value.int IntKind.i64 0)) c_6)
noncomputable def C66_0:=B66_0 pc k (Wy pc k k)
theorem h66_0(v0:D):cQ P pc noY rk LA (k+1) 66 [v0]=C66_0 pc k v0:=(bqA Go.Proofs.Tryz.f66 lK dZ (by kernel_rfl)).trans (Eq.trans (b:=B66_0 pc k (T66_1 pc rk k k) v0) (by kernel_rfl) (by rw[q66_1]; rfl))
noncomputable def code77:Code:=ak 77
noncomputable def Rj:List ResultVar:=bw 77
noncomputable def B77_0(pc:PC)(k:Nat)(v0:D):Option D:=
bindO (aggD v0) fun c_1=>
bindO (cutD c_1 0 3) fun c_2=>
bindO (pcD P pc 102 [(D.agg c_2)]) fun d_3=>
some d_3
noncomputable def C77_0:=B77_0 pc k
theorem h77_0(v0:D):cQ P pc noY rk LA (k+1) 77 [v0]=C77_0 pc k v0:=(bqA Go.Proofs.Tryz.f77 code77 Rj (by kernel_rfl)).trans (by kernel_rfl)
noncomputable def code78:Code:=ak 78
noncomputable def Rq:List ResultVar:=bw 78
noncomputable def B78_0(pc:PC)(k:Nat)(v0:D)(v1:D):Option D:=
bindO (aggD v0) fun c_1=>
bindO (cutD c_1 0 5) fun c_2=>
bindO (pcD P pc 79 [v1,(D.fn 93 [(D.agg c_2)] [])]) fun d_3=>
ifU d_3 (
bindO (pcD P pc 103 [v1]) fun d_4=>
some d_4) (
some (D.v (Value.bool false)))
noncomputable def C78_0:=B78_0 pc k
theorem h78_0(v0:D)(v1:D):cQ P pc noY rk LA (k+1) 78 [v0,v1]=C78_0 pc k v0 v1:=(bqA Go.Proofs.Tryz.f78 code78 Rq (by kernel_rfl)).trans (by kernel_rfl)
noncomputable def xJ:Code:=ak 79
noncomputable def jj:List ResultVar:=bw 79
noncomputable def KV:KA:=(bK (LvA.b (LA 79)).c (bx P pc noY rk (aq P pc noY rk 79 k) 79 (cR (cR xJ)) (LvA.b (LvA.b (LA 79))) (aw P jj) X0A (aw P jj)))
noncomputable def tJ:(Nat→KA):=(upA 0 (KV pc rk k) X0A)
noncomputable def Rv(m1:Nat):KA:=(bK (LvA.a (LvA.b (LvA.a (LvA.b (LA 79))))).c (aq P pc noY rk 79 m1 (LvA.a (LvA.b (LvA.a (LvA.b (LA 79))))) (cL (cR (cL (cR xJ)))) (KV pc rk k) (tJ pc rk k) (aw P jj)))
noncomputable def T79_1(m1:Nat):=fun(u1:D) (u7:D) (u8:D) (u9:D)=>labA (bx P pc noY rk (aq P pc noY rk 79 m1) 79 (cL (cL (cR (cL (cR xJ))))) (LvA.a (LvA.a (LvA.b (LvA.a (LvA.b (LA 79)))))) (Rv pc rk k m1) (tJ pc rk k) (aw P jj)) (Tr.set (Tr.set (Tr.set (Tr.set Tr.nil 9 (some (AV.d u9))) 8 (some (AV.d u8))) 7 (some (AV.d u7))) 1 (some (AV.d u1))) Tr.nil
noncomputable def R79_1(m1:Nat):(D→D→D→D→Option D):=fun u1 u7 u8 u9=>labA (aq P pc noY rk 79 m1 (LvA.a (LvA.b (LvA.a (LvA.b (LA 79))))) (cL (cR (cL (cR xJ)))) (KV pc rk k) (tJ pc rk k) (aw P jj)) (Tr.set (Tr.set (Tr.set (Tr.set Tr.nil 9 (some (AV.d u9))) 8 (some (AV.d u8))) 7 (some (AV.d u7))) 1 (some (AV.d u1))) Tr.nil
noncomputable def B79_1(pc:PC)(k:Nat)(m1:Nat)(b1:(D→D→D→D→Option D))(u1:D)(u7:D)(u8:D)(u9:D):Option D:=
bindO (binD P BinOp.lss 3 (Operand.tmp 9) (Operand.tmp 8) u9 u8) fun d_2=>
ifU d_2 (
bindO (elsD u7) fun l_3=>
bindO (idxD u9 l_3.length) fun i_4=>
bindO (l_3[i_4]?) fun d_5=>
chkK (bk d_5) (
fnK u1 fun g a b=>
bindO (pcD P pc g (a++[d_5]++b)) fun d_6=>
bindO (semD P d_6 (Op.unary UnOp.not)) fun d_7=>
ifU d_7 (
some (D.v (Value.bool false))) (
bindO (binD P BinOp.add 3 (Operand.tmp 9) (Operand.const (Value.int IntKind.i64 1)) u9 (D.v (Value.int IntKind.i64 1))) fun d_8=>
b1 u1 u7 u8 d_8))) (
some (D.v (Value.bool true)))
noncomputable def Wz(m1:Nat):=B79_1 pc k m1
noncomputable def Wk:Nat→(D→D→D→D→Option D):=recF (Wz pc k) (fun _ _ _ _=>none)
theorem h79_1(m1:Nat):T79_1 pc rk k m1=Wz pc k m1 (R79_1 pc rk k m1):=by kernel_rfl
theorem q79_1(m:Nat):T79_1 pc rk k m=Wk pc k m:=recS (h79_1 pc rk k) (by kernel_rfl) (fun m=>by kernel_rfl) m
noncomputable def B79_0(pc:PC)(k:Nat)(j1:(D→D→D→D→Option D))(v0:D)(v1:D):Option D:=
bindO (elsD v0) fun l_1=>
j1 v1 v0 (lenD l_1) (D.v (Value.int IntKind.i64 0))
noncomputable def C79_0:=B79_0 pc k (Wk pc k k)
theorem h79_0(v0:D)(v1:D):cQ P pc noY rk LA (k+1) 79 [v0,v1]=C79_0 pc k v0 v1:=(bqA Go.Proofs.Tryz.f79 xJ jj (by kernel_rfl)).trans (Eq.trans (b:=B79_0 pc k (T79_1 pc rk k k) v0 v1) (by kernel_rfl) (by rw[q79_1]; rfl))
noncomputable def code80:Code:=ak 80
noncomputable def Rw:List ResultVar:=bw 80
noncomputable def B80_0(pc:PC)(k:Nat)(v0:D):Option D:=
bindO (binD P BinOp.geq 3 (Operand.tmp 3) (Operand.const (Value.int IntKind.i64 0)) v0 (D.v (Value.int IntKind.i64 0))) fun d_1=>
ifU d_1 (
bindO (binD P BinOp.leq 3 (Operand.tmp 6) (Operand.const (Value.int IntKind.i64 100)) v0 (D.v (Value.int IntKind.i64 100))) fun d_2=>
some d_2) (
some (D.v (Value.bool false)))
noncomputable def C80_0:=B80_0 pc k
theorem h80_0(v0:D):cQ P pc noY rk LA (k+1) 80 [v0]=C80_0 pc k v0:=(bqA Go.Proofs.Tryz.f80 code80 Rw (by kernel_rfl)).trans (by kernel_rfl)
noncomputable def code81:Code:=ak 81
noncomputable def results81:List ResultVar:=bw 81
noncomputable def B81_0(pc:PC)(k:Nat)(v0:D):Option D:=
bindO (aggD v0) fun c_1=>
bindO (c_1[0]?) fun d_2=>
bindO (c_1[1]?) fun d_3=>
chkK (bk d_2) (
chkK (bk d_3) (
some (D.agg [d_2,d_3])))
noncomputable def C81_0:=B81_0 pc k
theorem h81_0(v0:D):cQ P pc noY rk LA (k+1) 81 [v0]=C81_0 pc k v0:=(bqA Go.Proofs.Tryz.f81 code81 results81 (by kernel_rfl)).trans (by kernel_rfl)
noncomputable def xQ:Code:=ak 82
noncomputable def jq:List ResultVar:=bw 82
noncomputable def KW:KA:=(bK (LvA.b (LA 82)).c (bx P pc noY rk (aq P pc noY rk 82 k) 82 (cR (cR xQ)) (LvA.b (LvA.b (LA 82))) (aw P jq) X0A (aw P jq)))
noncomputable def tQ:(Nat→KA):=(upA 0 (KW pc rk k) X0A)
noncomputable def Rx(m1:Nat):KA:=(bK (LvA.a (LvA.b (LvA.a (LvA.b (LA 82))))).c (aq P pc noY rk 82 m1 (LvA.a (LvA.b (LvA.a (LvA.b (LA 82))))) (cL (cR (cL (cR xQ)))) (KW pc rk k) (tQ pc rk k) (aw P jq)))
noncomputable def T82_1(m1:Nat):=fun(u1:D) (u7:D) (u8:D) (u9:D)=>labA (bx P pc noY rk (aq P pc noY rk 82 m1) 82 (cL (cL (cR (cL (cR xQ))))) (LvA.a (LvA.a (LvA.b (LvA.a (LvA.b (LA 82)))))) (Rx pc rk k m1) (tQ pc rk k) (aw P jq)) (Tr.set (Tr.set (Tr.set (Tr.set Tr.nil 9 (some (AV.d u9))) 8 (some (AV.d u8))) 7 (some (AV.d u7))) 1 (some (AV.d u1))) Tr.nil
noncomputable def R82_1(m1:Nat):(D→D→D→D→Option D):=fun u1 u7 u8 u9=>labA (aq P pc noY rk 82 m1 (LvA.a (LvA.b (LvA.a (LvA.b (LA 82))))) (cL (cR (cL (cR xQ)))) (KW pc rk k) (tQ pc rk k) (aw P jq)) (Tr.set (Tr.set (Tr.set (Tr.set Tr.nil 9 (some (AV.d u9))) 8 (some (AV.d u8))) 7 (some (AV.d u7))) 1 (some (AV.d u1))) Tr.nil
noncomputable def B82_1(pc:PC)(k:Nat)(m1:Nat)(b1:(D→D→D→D→Option D))(u1:D)(u7:D)(u8:D)(u9:D):Option D:=
bindO (binD P BinOp.lss 3 (Operand.tmp 9) (Operand.tmp 8) u9 u8) fun d_2=>
ifU d_2 (
bindO (elsD u7) fun l_3=>
bindO (idxD u9 l_3.length) fun i_4=>
bindO (l_3[i_4]?) fun d_5=>
chkK (bk d_5) (
fnK u1 fun g a b=>
bindO (pcD P pc g (a++[d_5]++b)) fun d_6=>
bindO (semD P d_6 (Op.unary UnOp.not)) fun d_7=>
ifU d_7 (
some (D.v (Value.bool false))) (
bindO (binD P BinOp.add 3 (Operand.tmp 9) (Operand.const (Value.int IntKind.i64 1)) u9 (D.v (Value.int IntKind.i64 1))) fun d_8=>
b1 u1 u7 u8 d_8))) (
some (D.v (Value.bool true)))
noncomputable def WJ(m1:Nat):=B82_1 pc k m1
noncomputable def WQ:Nat→(D→D→D→D→Option D):=recF (WJ pc k) (fun _ _ _ _=>none)
theorem h82_1(m1:Nat):T82_1 pc rk k m1=WJ pc k m1 (R82_1 pc rk k m1):=by kernel_rfl
theorem q82_1(m:Nat):T82_1 pc rk k m=WQ pc k m:=recS (h82_1 pc rk k) (by kernel_rfl) (fun m=>by kernel_rfl) m
noncomputable def B82_0(pc:PC)(k:Nat)(j1:(D→D→D→D→Option D))(v0:D)(v1:D):Option D:=
bindO (elsD v0) fun l_1=>
j1 v1 v0 (lenD l_1) (D.v (Value.int IntKind.i64 0))
noncomputable def C82_0:=B82_0 pc k (WQ pc k k)
theorem h82_0(v0:D)(v1:D):cQ P pc noY rk LA (k+1) 82 [v0,v1]=C82_0 pc k v0 v1:=(bqA Go.Proofs.Tryz.f82 xQ jq (by kernel_rfl)).trans (Eq.trans (b:=B82_0 pc k (T82_1 pc rk k k) v0 v1) (by kernel_rfl) (by rw[q82_1]; rfl))
noncomputable def xV:Code:=ak 83
noncomputable def jv:List ResultVar:=bw 83
noncomputable def BK:KA:=(bK (LvA.b (LvA.b (LA 83))).c (bx P pc noY rk (aq P pc noY rk 83 k) 83 (cR (cR (cR xV))) (LvA.b (LvA.b (LvA.b (LA 83)))) (aw P jv) X0A (aw P jv)))
noncomputable def qq:(Nat→KA):=(upA 0 (BK pc rk k) X0A)
noncomputable def KX(m1:Nat):KA:=(bK (LvA.a (LvA.b (LvA.a (LvA.b (LvA.b (LA 83)))))).c (aq P pc noY rk 83 m1 (LvA.a (LvA.b (LvA.a (LvA.b (LvA.b (LA 83)))))) (cL (cR (cL (cR (cR xV))))) (BK pc rk k) (qq pc rk k) (aw P jv)))
noncomputable def T83_1(m1:Nat):=fun(u3:D) (u6:D) (u7:D) (u8:D)=>labA (bx P pc noY rk (aq P pc noY rk 83 m1) 83 (cL (cL (cR (cL (cR (cR xV)))))) (LvA.a (LvA.a (LvA.b (LvA.a (LvA.b (LvA.b (LA 83))))))) (KX pc rk k m1) (qq pc rk k) (aw P jv)) (Tr.set (Tr.set (Tr.set (Tr.set Tr.nil 8 (some (AV.d u8))) 7 (some (AV.d u7))) 6 (some (AV.d u6))) 3 (some (AV.d u3))) Tr.nil
noncomputable def R83_1(m1:Nat):(D→D→D→D→Option D):=fun u3 u6 u7 u8=>labA (aq P pc noY rk 83 m1 (LvA.a (LvA.b (LvA.a (LvA.b (LvA.b (LA 83)))))) (cL (cR (cL (cR (cR xV))))) (BK pc rk k) (qq pc rk k) (aw P jv)) (Tr.set (Tr.set (Tr.set (Tr.set Tr.nil 8 (some (AV.d u8))) 7 (some (AV.d u7))) 6 (some (AV.d u6))) 3 (some (AV.d u3))) Tr.nil
noncomputable def B83_1(pc:PC)(k:Nat)(m1:Nat)(b1:(D→D→D→D→Option D))(u3:D)(u6:D)(u7:D)(u8:D):Option D:=
bindO (binD P BinOp.lss 3 (Operand.tmp 8) (Operand.tmp 7) u8 u7) fun d_2=>
ifU d_2 (
bindO (elsD u6) fun l_3=>
bindO (idxD u8 l_3.length) fun i_4=>
bindO (l_3[i_4]?) fun d_5=>
chkK (bk d_5) (
bindO (binD P BinOp.shl 106 (Operand.const (Value.int IntKind.u64 1)) (Operand.tmp 13) (D.v (Value.int IntKind.u64 1)) d_5) fun d_6=>
bindO (binD P BinOp.or 106 (Operand.tmp 12) (Operand.tmp 14) u3 d_6) fun d_7=>
bindO (binD P BinOp.add 3 (Operand.tmp 8) (Operand.const (Value.int IntKind.i64 1)) u8 (D.v (Value.int IntKind.i64 1))) fun d_8=>
b1 d_7 u6 u7 d_8)) (
some u3)
noncomputable def WV(m1:Nat):=B83_1 pc k m1
noncomputable def WW:Nat→(D→D→D→D→Option D):=recF (WV pc k) (fun _ _ _ _=>none)
theorem h83_1(m1:Nat):T83_1 pc rk k m1=WV pc k m1 (R83_1 pc rk k m1):=by kernel_rfl
theorem q83_1(m:Nat):T83_1 pc rk k m=WW pc k m:=recS (h83_1 pc rk k) (by kernel_rfl) (fun m=>by kernel_rfl) m
noncomputable def B83_0(pc:PC)(k:Nat)(j1:(D→D→D→D→Option D))(v0:D):Option D:=
bindO (elsD v0) fun l_1=>
j1 (D.v (Value.int IntKind.u64 0)) v0 (lenD l_1) (D.v (Value.int IntKind.i64 0))
noncomputable def C83_0:=B83_0 pc k (WW pc k k)
theorem h83_0(v0:D):cQ P pc noY rk LA (k+1) 83 [v0]=C83_0 pc k v0:=(bqA Go.Proofs.Tryz.f83 xV jv (by kernel_rfl)).trans (Eq.trans (b:=B83_0 pc k (T83_1 pc rk k k) v0) (by kernel_rfl) (by rw[q83_1]; rfl))
noncomputable def tV:Code:=ak 84
noncomputable def gW:List ResultVar:=bw 84
noncomputable def Cj:KA:=(bK (LvA.b (LvA.b (LA 84))).c (bx P pc noY rk (aq P pc noY rk 84 k) 84 (cR (cR (cR tV))) (LvA.b (LvA.b (LvA.b (LA 84)))) (aw P gW) X0A (aw P gW)))
noncomputable def mq:(Nat→KA):=(upA 0 (Cj pc rk k) X0A)
noncomputable def xW(m1:Nat):KA:=(bK (LvA.a (LvA.b (LvA.a (LvA.b (LvA.b (LA 84)))))).c (aq P pc noY rk 84 m1 (LvA.a (LvA.b (LvA.a (LvA.b (LvA.b (LA 84)))))) (cL (cR (cL (cR (cR tV))))) (Cj pc rk k) (mq pc rk k) (aw P gW)))
noncomputable def T84_2(m1:Nat):=fun(u0:D) (u5:D) (l14:List D)=>labA (bx P pc noY rk (aq P pc noY rk 84 m1) 84 (cR (cR (cR (cL (cL (cR (cL (cR (cR tV))))))))) (LvA.b (LvA.b (LvA.b (LvA.a (LvA.a (LvA.b (LvA.a (LvA.b (LvA.b (LA 84)))))))))) (xW pc rk k m1) (mq pc rk k) (aw P gW)) (Tr.set (Tr.set (Tr.set Tr.nil 5 (some (AV.d u5))) 3 (some (AV.osl 14))) 0 (some (AV.d u0))) (Tr.set Tr.nil 14 (some (Bx.vec l14 3 1 false)))
noncomputable def T84_1(m1:Nat):=fun(u0:D) (u5:D) (l14:List D)=>labA (bx P pc noY rk (aq P pc noY rk 84 m1) 84 (cL (cL (cR (cL (cR (cR tV)))))) (LvA.a (LvA.a (LvA.b (LvA.a (LvA.b (LvA.b (LA 84))))))) (xW pc rk k m1) (mq pc rk k) (aw P gW)) (Tr.set (Tr.set (Tr.set Tr.nil 5 (some (AV.d u5))) 3 (some (AV.osl 14))) 0 (some (AV.d u0))) (Tr.set Tr.nil 14 (some (Bx.vec l14 3 1 false)))
noncomputable def R84_1(m1:Nat):(D→D→List D→Option D):=fun u0 u5 l14=>labA (aq P pc noY rk 84 m1 (LvA.a (LvA.b (LvA.a (LvA.b (LvA.b (LA 84)))))) (cL (cR (cL (cR (cR tV))))) (Cj pc rk k) (mq pc rk k) (aw P gW)) (Tr.set (Tr.set (Tr.set Tr.nil 5 (some (AV.d u5))) 3 (some (AV.osl 14))) 0 (some (AV.d u0))) (Tr.set Tr.nil 14 (some (Bx.vec l14 3 1 false)))
noncomputable def B84_2(pc:PC)(k:Nat)(m1:Nat)(b1:(D→D→List D→Option D))(u0:D)(u5:D)(l14:List D):Option D:=
bindO (binD P BinOp.add 3 (Operand.tmp 5) (Operand.const (Value.int IntKind.i64 1)) u5 (D.v (Value.int IntKind.i64 1))) fun d_4=>
b1 u0 d_4 l14
noncomputable def C84_2(m1:Nat):=B84_2 pc k m1
theorem h84_2(m1:Nat):T84_2 pc rk k m1=C84_2 pc k m1 (R84_1 pc rk k m1):=by kernel_rfl
noncomputable def B84_1(pc:PC)(k:Nat)(m1:Nat)(j2:(D→D→List D→Option D))(b1:(D→D→List D→Option D))(u0:D)(u5:D)(l14:List D):Option D:=
bindO (binD P BinOp.lss 3 (Operand.tmp 5) (Operand.const (Value.int IntKind.i64 8)) u5 (D.v (Value.int IntKind.i64 8))) fun d_1=>
ifU d_1 (
bindO (pcD P pc 94 [u0,u5]) fun d_2=>
ifU d_2 (
chkK (bk u5) (
bindO (appD l14 [u5]) fun l_3=>
j2 u0 u5 l_3)) (
j2 u0 u5 l14)) (
some (D.sl l14))
noncomputable def WX(m1:Nat)(b1:(D→D→List D→Option D)):=B84_1 pc k m1 (C84_2 pc k m1 b1) b1
noncomputable def WY:Nat→(D→D→List D→Option D):=recF (WX pc k) (fun _ _ _=>none)
theorem h84_1(m1:Nat):T84_1 pc rk k m1=WX pc k m1 (R84_1 pc rk k m1):=Eq.trans (b:=B84_1 pc k m1 (T84_2 pc rk k m1) (R84_1 pc rk k m1)) (by kernel_rfl) (by rw[h84_2]; rfl)
theorem q84_1(m:Nat):T84_1 pc rk k m=WY pc k m:=recS (h84_1 pc rk k) (by kernel_rfl) (fun m=>by kernel_rfl) m
noncomputable def B84_0(pc:PC)(k:Nat)(j1:(D→D→List D→Option D))(v0:D):Option D:=
j1 v0 (D.v (Value.int IntKind.i64 0)) []
noncomputable def C84_0:=B84_0 pc k (WY pc k k)
theorem h84_0(v0:D):cQ P pc noY rk LA (k+1) 84 [v0]=C84_0 pc k v0:=(bqA Go.Proofs.Tryz.f84 tV gW (by kernel_rfl)).trans (Eq.trans (b:=B84_0 pc k (T84_1 pc rk k k) v0) (by kernel_rfl) (by rw[q84_1]; rfl))
noncomputable def uZ:Code:=ak 85
noncomputable def Aw:List ResultVar:=bw 85
noncomputable def K85_prr(pc rg pc1:PC)(rk1:List Nat→RK)(k:Nat):KA:=(bK (LvA.b (LvA.b (LA 85))).c (bx P pc noY (gw P rg pc1 rk1 (k+1) []) (aq P pc noY (gw P rg pc1 rk1 (k+1) []) 85 k) 85 (cR (cR (cR uZ))) (LvA.b (LvA.b (LvA.b (LA 85)))) (aw P Aw) X0A (aw P Aw)))
noncomputable def K85_pxrrlr(pc rg pc1:PC)(rk1:List Nat→RK)(k:Nat):(Nat→KA):=(upA 0 (K85_prr pc rg pc1 rk1 k) X0A)
noncomputable def WZ(pc rg pc1:PC)(rk1:List Nat→RK)(k:Nat)(m1:List (List D)):KA:=fun _ G=>PW (cfB P pc1 (rk1 ((cX (cR (cL (cR (cL (cR (cR uZ)))))))::[])) (k+1) 85) (LvA.a (LvA.b (LvA.a (LvA.b (LvA.b (LA 85)))))) (ntm P 85) (rPs (cL (cR (cL (cR (cR uZ)))))) (cL (cL (cR (cL (cR (cR uZ)))))) (cR (cL (cR (cL (cR (cR uZ)))))) (cX (cR (cL (cR (cL (cR (cR uZ))))))) (K85_prr pc rg pc1 rk1 k) (K85_pxrrlr pc rg pc1 rk1 k) (aw P Aw) m1 G
noncomputable def R85_2(pc rg pc1:PC)(rk1:List Nat→RK)(k:Nat)(m1:List (List D)):(D→D→Option D):=fun g5_0 e1_9=>labA (WZ pc rg pc1 rk1 k m1) Tr.nil (Tr.set (Tr.set Tr.nil 1000001 (some (Bx.env [(5,(AV.loc 5 0)),(9,(AV.d e1_9))]))) 5 (some (Bx.dat [g5_0] false)))
noncomputable def T85_1(pc rg pc1:PC)(rk1:List Nat→RK)(k:Nat):=fun(u9:D) (g5_0:D)=>labA (fun A G=>getK (opdA (rX (cL (cR (cL (cR (cR uZ)))))) A) fun a=>(gw P rg pc1 rk1 (k+1) []) (LvA.a (LvA.b (LvA.a (LvA.b (LvA.b (LA 85)))))) 85 a (rPs (cL (cR (cL (cR (cR uZ)))))) (cL (cL (cR (cL (cR (cR uZ)))))) (cR (cL (cR (cL (cR (cR uZ)))))) (K85_prr pc rg pc1 rk1 k) (K85_pxrrlr pc rg pc1 rk1 k) (aw P Aw) A G) (Tr.set (Tr.set Tr.nil 9 (some (AV.d u9))) 5 (some (AV.loc 5 0))) (Tr.set Tr.nil 5 (some (Bx.dat [g5_0] false)))
noncomputable def BN85_2(pc rg pc1:PC)(k:Nat)(g5_0:D)(e1_9:D):Option D:=
some g5_0
noncomputable def CN85_2(pc rg pc1:PC)(k:Nat)(g5_0:D)(e1_9:D):Option D:=BN85_2 pc rg pc1 k g5_0 e1_9
noncomputable def B85_2(pc rg pc1:PC)(k:Nat)(m1:List (List D))(b2:(D→D→Option D))(y:List D)(g5_0:D)(e1_9:D):Option D:=
par1 y (fun z1_0=>
chkK (bk z1_0) (
bindO (pcD P pc1 83 [(D.sl [z1_0])]) fun d_2=>
bindO (binD P BinOp.or 106 (Operand.tmp 11) (Operand.tmp 14) g5_0 d_2) fun d_3=>
chkK (bk d_3) (
b2 d_3 e1_9)))
noncomputable def C85_2(pc rg pc1:PC)(k:Nat)(m1:List (List D)):=B85_2 pc rg pc1 k m1
noncomputable def WK(pc rg pc1:PC)(k:Nat):List (List D)→(D→D→Option D):=fun ys=>List.rec (motive:=fun _=>(D→D→Option D)) (CN85_2 pc rg pc1 k) (fun y ys ih=>C85_2 pc rg pc1 k ys ih y) ys
theorem hN85_2(pc rg pc1:PC)(rk1:List Nat→RK)(k:Nat)(g5_0:D)(e1_9:D):labA (WZ pc rg pc1 rk1 k []) Tr.nil (Tr.set (Tr.set Tr.nil 1000001 (some (Bx.env [(5,(AV.loc 5 0)),(9,(AV.d e1_9))]))) 5 (some (Bx.dat [g5_0] false)))=CN85_2 pc rg pc1 k g5_0 e1_9:=by
 have h:labA (WZ pc rg pc1 rk1 k []) Tr.nil (Tr.set (Tr.set Tr.nil 1000001 (some (Bx.env [(5,(AV.loc 5 0)),(9,(AV.d e1_9))]))) 5 (some (Bx.dat [g5_0] false)))=BN85_2 pc rg pc1 k g5_0 e1_9:=by kernel_rfl
 rw[h,CN85_2]
theorem h85_2(pc rg pc1:PC)(rk1:List Nat→RK)(k:Nat)(m1:List (List D))(y:List D)(g5_0:D)(e1_9:D):labA (WZ pc rg pc1 rk1 k (y::m1)) Tr.nil (Tr.set (Tr.set Tr.nil 1000001 (some (Bx.env [(5,(AV.loc 5 0)),(9,(AV.d e1_9))]))) 5 (some (Bx.dat [g5_0] false)))=C85_2 pc rg pc1 k m1 (R85_2 pc rg pc1 rk1 k m1) y g5_0 e1_9:=by kernel_rfl
theorem q85_2(pc rg pc1:PC)(rk1:List Nat→RK)(k:Nat):∀(ys:List (List D)) (g5_0:D) (e1_9:D),labA (WZ pc rg pc1 rk1 k ys) Tr.nil (Tr.set (Tr.set Tr.nil 1000001 (some (Bx.env [(5,(AV.loc 5 0)),(9,(AV.d e1_9))]))) 5 (some (Bx.dat [g5_0] false)))=WK pc rg pc1 k ys g5_0 e1_9
 | [],g5_0,e1_9=>by
  rw[hN85_2]; rfl
 | y::ys,g5_0,e1_9=>by
  rw[h85_2]
  have e:R85_2 pc rg pc1 rk1 k ys=WK pc rg pc1 k ys:=by
   funext g5_0 e1_9
   have e:R85_2 pc rg pc1 rk1 k ys g5_0 e1_9=labA (WZ pc rg pc1 rk1 k ys) Tr.nil (Tr.set (Tr.set Tr.nil 1000001 (some (Bx.env [(5,(AV.loc 5 0)),(9,(AV.d e1_9))]))) 5 (some (Bx.dat [g5_0] false))):=rfl
   rw[e]; exact q85_2 ..
  rw[e]; rfl
noncomputable def B85_1(pc rg pc1:PC)(k:Nat)(j2:(List (List D)→(D→D→Option D)))(u9:D)(g5_0:D):Option D:=
fnK u9 fun g a b=>
chkK (AK P g && !memN [] (cX (cR (cL (cR (cL (cR (cR uZ)))))))) (
Yj (fun l=>rg g (a++D.yld l::b)) fun ys=>
j2 ys g5_0 u9)
noncomputable def C85_1(pc rg pc1:PC)(k:Nat):=B85_1 pc rg pc1 k (WK pc rg pc1 k)
theorem h85_1(pc rg pc1:PC)(rk1:List Nat→RK)(k:Nat)(u9:D)(g5_0:D):T85_1 pc rg pc1 rk1 k u9 g5_0=C85_1 pc rg pc1 k u9 g5_0:=by
 have h:T85_1 pc rg pc1 rk1 k u9 g5_0=B85_1 pc rg pc1 k (fun ys_ g5_0 e1_9=>labA (WZ pc rg pc1 rk1 k ys_) Tr.nil (Tr.set (Tr.set Tr.nil 1000001 (some (Bx.env [(5,(AV.loc 5 0)),(9,(AV.d e1_9))]))) 5 (some (Bx.dat [g5_0] false)))) u9 g5_0:=by kernel_rfl
 rw[h,C85_1]
 have e2:(fun ys_ g5_0 e1_9=>labA (WZ pc rg pc1 rk1 k ys_) Tr.nil (Tr.set (Tr.set Tr.nil 1000001 (some (Bx.env [(5,(AV.loc 5 0)),(9,(AV.d e1_9))]))) 5 (some (Bx.dat [g5_0] false))))=(WK pc rg pc1 k):=by funext ys_ g5_0 e1_9; exact q85_2 ..
 rw[e2]
theorem f85_1(pc rg pc1:PC)(rk1:List Nat→RK)(k:Nat):T85_1 pc rg pc1 rk1 k=C85_1 pc rg pc1 k:=by funext u9 g5_0; exact h85_1 ..
noncomputable def B85_0(pc rg pc1:PC)(k:Nat)(j1:(D→D→Option D))(v0:D)(v1:D):Option D:=
bindO (pcD P pc 104 [v0,v1]) fun d_1=>
j1 d_1 (D.v (Value.int IntKind.u64 0))
noncomputable def C85_0(pc rg pc1:PC)(k:Nat):=B85_0 pc rg pc1 k (C85_1 pc rg pc1 k)
theorem h85_0(pc rg pc1:PC)(rk1:List Nat→RK)(k:Nat)(v0:D)(v1:D):cQ P pc noY (gw P rg pc1 rk1 (k+1) []) LA (k+1) 85 [v0,v1]=C85_0 pc rg pc1 k v0 v1:=(bqA Go.Proofs.Tryz.f85 uZ Aw (by kernel_rfl)).trans (Eq.trans (b:=B85_0 pc rg pc1 k (T85_1 pc rg pc1 rk1 k) v0 v1) (by kernel_rfl) (by rw[f85_1]; rfl))
noncomputable def code86:Code:=ak 86
noncomputable def Ry:List ResultVar:=bw 86
noncomputable def B86_0(pc:PC)(k:Nat)(v0:D)(v1:D):Option D:=
bindO (binD P BinOp.andNot 106 (Operand.tmp 5) (Operand.tmp 6) v0 v1) fun d_1=>
some d_1
noncomputable def C86_0:=B86_0 pc k
theorem h86_0(v0:D)(v1:D):cQ P pc noY rk LA (k+1) 86 [v0,v1]=C86_0 pc k v0 v1:=(bqA Go.Proofs.Tryz.f86 code86 Ry (by kernel_rfl)).trans (by kernel_rfl)
noncomputable def gX:Code:=ak 87
noncomputable def cV:List ResultVar:=bw 87
noncomputable def K87_pr:KA:=(bK (LvA.b (LA 87)).c (bx P pc noY rk (aq P pc noY rk 87 k) 87 (cR (cR gX)) (LvA.b (LvA.b (LA 87))) (aw P cV) X0A (aw P cV)))
noncomputable def K87_prr:KA:=(bK (LvA.b (LvA.b (LA 87))).c (bx P pc noY rk (aq P pc noY rk 87 k) 87 (cR (cR (cR gX))) (LvA.b (LvA.b (LvA.b (LA 87)))) (aw P cV) X0A (aw P cV)))
noncomputable def qck:KA:=(bK (LvA.b (LvA.b (LvA.b (LA 87)))).c (bx P pc noY rk (aq P pc noY rk 87 k) 87 (cR (cR (cR (cR gX)))) (LvA.b (LvA.b (LvA.b (LvA.b (LA 87))))) (aw P cV) X0A (aw P cV)))
noncomputable def EX:(Nat→KA):=(upA 0 (qck pc rk k) X0A)
noncomputable def K87_prrrlrl(m1:Nat):KA:=(bK (LvA.a (LvA.b (LvA.a (LvA.b (LvA.b (LvA.b (LA 87))))))).c (aq P pc noY rk 87 m1 (LvA.a (LvA.b (LvA.a (LvA.b (LvA.b (LvA.b (LA 87))))))) (cL (cR (cL (cR (cR (cR gX)))))) (qck pc rk k) (EX pc rk k) (aw P cV)))
noncomputable def Rz:KA:=(bK (LvA.b (LvA.b (LvA.b (LvA.b (LA 87))))).c (bx P pc noY rk (aq P pc noY rk 87 k) 87 (cR (cR (cR (cR (cR gX))))) (LvA.b (LvA.b (LvA.b (LvA.b (LvA.b (LA 87)))))) (aw P cV) X0A (aw P cV)))
noncomputable def rz:(Nat→KA):=(upA 2 (Rz pc rk k) X0A)
noncomputable def K87_prrrrlrl(m1:Nat):KA:=(bK (LvA.a (LvA.b (LvA.a (LvA.b (LvA.b (LvA.b (LvA.b (LA 87)))))))).c (aq P pc noY rk 87 m1 (LvA.a (LvA.b (LvA.a (LvA.b (LvA.b (LvA.b (LvA.b (LA 87)))))))) (cL (cR (cL (cR (cR (cR (cR gX))))))) (Rz pc rk k) (rz pc rk k) (aw P cV)))
noncomputable def K87_prrrrlrllr(m1:Nat):KA:=(bK (LvA.b (LvA.a (LvA.a (LvA.b (LvA.a (LvA.b (LvA.b (LvA.b (LvA.b (LA 87)))))))))).c (bx P pc noY rk (aq P pc noY rk 87 m1) 87 (cR (cR (cL (cL (cR (cL (cR (cR (cR (cR gX)))))))))) (LvA.b (LvA.b (LvA.a (LvA.a (LvA.b (LvA.a (LvA.b (LvA.b (LvA.b (LvA.b (LA 87))))))))))) (K87_prrrrlrl pc rk k m1) (rz pc rk k) (aw P cV)))
noncomputable def K87_pxrrrrlrllrl(m1:Nat):(Nat→KA):=(upA 3 (K87_prrrrlrllr pc rk k m1) (rz pc rk k))
noncomputable def KY:KA:=(bK (LvA.b (LvA.b (LvA.b (LvA.b (LvA.b (LA 87)))))).c (bx P pc noY rk (aq P pc noY rk 87 k) 87 (cR (cR (cR (cR (cR (cR gX)))))) (LvA.b (LvA.b (LvA.b (LvA.b (LvA.b (LvA.b (LA 87))))))) (aw P cV) X0A (aw P cV)))
noncomputable def pq:(Nat→KA):=(upA 4 (KY pc rk k) X0A)
noncomputable def K87_prrrrrlrl(m1:Nat):KA:=(bK (LvA.a (LvA.b (LvA.a (LvA.b (LvA.b (LvA.b (LvA.b (LvA.b (LA 87))))))))).c (aq P pc noY rk 87 m1 (LvA.a (LvA.b (LvA.a (LvA.b (LvA.b (LvA.b (LvA.b (LvA.b (LA 87))))))))) (cL (cR (cL (cR (cR (cR (cR (cR gX)))))))) (KY pc rk k) (pq pc rk k) (aw P cV)))
noncomputable def mJ(m1:Nat):KA:=(bK (LvA.b (LvA.a (LvA.a (LvA.b (LvA.a (LvA.b (LvA.b (LvA.b (LvA.b (LvA.b (LA 87))))))))))).c (bx P pc noY rk (aq P pc noY rk 87 m1) 87 (cR (cR (cL (cL (cR (cL (cR (cR (cR (cR (cR gX))))))))))) (LvA.b (LvA.b (LvA.a (LvA.a (LvA.b (LvA.a (LvA.b (LvA.b (LvA.b (LvA.b (LvA.b (LA 87)))))))))))) (K87_prrrrrlrl pc rk k m1) (pq pc rk k) (aw P cV)))
noncomputable def rJ(m1:Nat):(Nat→KA):=(upA 5 (mJ pc rk k m1) (pq pc rk k))
noncomputable def K87_prrrrrlrllrllr(m1:Nat):KA:=(bK (LvA.b (LvA.a (LvA.a (LvA.b (LvA.a (LvA.a (LvA.b (LvA.a (LvA.b (LvA.b (LvA.b (LvA.b (LvA.b (LA 87)))))))))))))).c (bx P pc noY rk (aq P pc noY rk 87 m1) 87 (cR (cR (cL (cL (cR (cL (cL (cR (cL (cR (cR (cR (cR (cR gX)))))))))))))) (LvA.b (LvA.b (LvA.a (LvA.a (LvA.b (LvA.a (LvA.a (LvA.b (LvA.a (LvA.b (LvA.b (LvA.b (LvA.b (LvA.b (LA 87))))))))))))))) (mJ pc rk k m1) (rJ pc rk k m1) (aw P cV)))
noncomputable def gQ(m1:Nat):(Nat→KA):=(upA 6 (mJ pc rk k m1) (rJ pc rk k m1))
noncomputable def K87_prrrrrlrllrllrrrl(m1:Nat)(m2:Nat):KA:=(bK (LvA.a (LvA.b (LvA.b (LvA.b (LvA.a (LvA.a (LvA.b (LvA.a (LvA.a (LvA.b (LvA.a (LvA.b (LvA.b (LvA.b (LvA.b (LvA.b (LA 87))))))))))))))))).c (aq P pc noY rk 87 m2 (LvA.a (LvA.b (LvA.b (LvA.b (LvA.a (LvA.a (LvA.b (LvA.a (LvA.a (LvA.b (LvA.a (LvA.b (LvA.b (LvA.b (LvA.b (LvA.b (LA 87))))))))))))))))) (cL (cR (cR (cR (cL (cL (cR (cL (cL (cR (cL (cR (cR (cR (cR (cR gX)))))))))))))))) (mJ pc rk k m1) (gQ pc rk k m1) (aw P cV)))
noncomputable def K87_prrrrrlrllrllrrrllr(m1:Nat)(m2:Nat):KA:=(bK (LvA.b (LvA.a (LvA.a (LvA.b (LvA.b (LvA.b (LvA.a (LvA.a (LvA.b (LvA.a (LvA.a (LvA.b (LvA.a (LvA.b (LvA.b (LvA.b (LvA.b (LvA.b (LA 87))))))))))))))))))).c (bx P pc noY rk (aq P pc noY rk 87 m2) 87 (cR (cR (cL (cL (cR (cR (cR (cL (cL (cR (cL (cL (cR (cL (cR (cR (cR (cR (cR gX))))))))))))))))))) (LvA.b (LvA.b (LvA.a (LvA.a (LvA.b (LvA.b (LvA.b (LvA.a (LvA.a (LvA.b (LvA.a (LvA.a (LvA.b (LvA.a (LvA.b (LvA.b (LvA.b (LvA.b (LvA.b (LA 87)))))))))))))))))))) (K87_prrrrrlrllrllrrrl pc rk k m1 m2) (gQ pc rk k m1) (aw P cV)))
noncomputable def K87_pxrrrrrlrllrllrrrllrl(m1:Nat)(m2:Nat):(Nat→KA):=(upA 7 (K87_prrrrrlrllrllrrrllr pc rk k m1 m2) (gQ pc rk k m1))
noncomputable def T87_5(m1:Nat):=fun(u4:D) (u92:D) (c1:List D)=>labA (bx P pc noY rk (aq P pc noY rk 87 m1) 87 (cR (cR (cL (cL (cR (cL (cL (cR (cL (cR (cR (cR (cR gX))))))))))))) (LvA.b (LvA.b (LvA.a (LvA.a (LvA.b (LvA.a (LvA.a (LvA.b (LvA.a (LvA.b (LvA.b (LvA.b (LvA.b (LA 87)))))))))))))) (K87_prrrrlrllr pc rk k m1) (K87_pxrrrrlrllrl pc rk k m1) (aw P cV)) (Tr.set (Tr.set (Tr.set Tr.nil 92 (some (AV.d u92))) 4 (some (AV.d u4))) 1 (some (AV.loc 1 0))) (Tr.set Tr.nil 1 (some (Bx.dat c1 false)))
noncomputable def T87_9(m1:Nat)(m2:Nat):=fun(u6:D) (u8:D) (u156:D) (c1:List D) (c7:List D)=>labA (bx P pc noY rk (aq P pc noY rk 87 m2) 87 (cR (cR (cL (cL (cR (cL (cL (cR (cR (cR (cL (cL (cR (cL (cL (cR (cL (cR (cR (cR (cR (cR gX)))))))))))))))))))))) (LvA.b (LvA.b (LvA.a (LvA.a (LvA.b (LvA.a (LvA.a (LvA.b (LvA.b (LvA.b (LvA.a (LvA.a (LvA.b (LvA.a (LvA.a (LvA.b (LvA.a (LvA.b (LvA.b (LvA.b (LvA.b (LvA.b (LA 87))))))))))))))))))))))) (K87_prrrrrlrllrllrrrllr pc rk k m1 m2) (K87_pxrrrrrlrllrllrrrllrl pc rk k m1 m2) (aw P cV)) (Tr.set (Tr.set (Tr.set (Tr.set (Tr.set Tr.nil 156 (some (AV.d u156))) 8 (some (AV.d u8))) 7 (some (AV.loc 7 0))) 6 (some (AV.d u6))) 1 (some (AV.loc 1 0))) (Tr.set (Tr.set Tr.nil 7 (some (Bx.dat c7 false))) 1 (some (Bx.dat c1 false)))
noncomputable def T87_8(m1:Nat)(m2:Nat):=fun(u6:D) (u8:D) (c1:List D) (c7:List D)=>labA (bx P pc noY rk (aq P pc noY rk 87 m2) 87 (cL (cL (cR (cR (cR (cL (cL (cR (cL (cL (cR (cL (cR (cR (cR (cR (cR gX))))))))))))))))) (LvA.a (LvA.a (LvA.b (LvA.b (LvA.b (LvA.a (LvA.a (LvA.b (LvA.a (LvA.a (LvA.b (LvA.a (LvA.b (LvA.b (LvA.b (LvA.b (LvA.b (LA 87)))))))))))))))))) (K87_prrrrrlrllrllrrrl pc rk k m1 m2) (gQ pc rk k m1) (aw P cV)) (Tr.set (Tr.set (Tr.set (Tr.set Tr.nil 8 (some (AV.d u8))) 7 (some (AV.loc 7 0))) 6 (some (AV.d u6))) 1 (some (AV.loc 1 0))) (Tr.set (Tr.set Tr.nil 7 (some (Bx.dat c7 false))) 1 (some (Bx.dat c1 false)))
noncomputable def R87_8(m1:Nat)(m2:Nat):(D→D→List D→List D→Option D):=fun u6 u8 c1 c7=>labA (aq P pc noY rk 87 m2 (LvA.a (LvA.b (LvA.b (LvA.b (LvA.a (LvA.a (LvA.b (LvA.a (LvA.a (LvA.b (LvA.a (LvA.b (LvA.b (LvA.b (LvA.b (LvA.b (LA 87))))))))))))))))) (cL (cR (cR (cR (cL (cL (cR (cL (cL (cR (cL (cR (cR (cR (cR (cR gX)))))))))))))))) (mJ pc rk k m1) (gQ pc rk k m1) (aw P cV)) (Tr.set (Tr.set (Tr.set (Tr.set Tr.nil 8 (some (AV.d u8))) 7 (some (AV.loc 7 0))) 6 (some (AV.d u6))) 1 (some (AV.loc 1 0))) (Tr.set (Tr.set Tr.nil 7 (some (Bx.dat c7 false))) 1 (some (Bx.dat c1 false)))
noncomputable def T87_7(m1:Nat):=fun(u6:D) (u129:D) (c1:List D) (c7:List D)=>labA (bx P pc noY rk (aq P pc noY rk 87 m1) 87 (cR (cL (cR (cL (cL (cR (cL (cL (cR (cL (cR (cR (cR (cR (cR gX))))))))))))))) (LvA.b (LvA.a (LvA.b (LvA.a (LvA.a (LvA.b (LvA.a (LvA.a (LvA.b (LvA.a (LvA.b (LvA.b (LvA.b (LvA.b (LvA.b (LA 87)))))))))))))))) (K87_prrrrrlrllrllr pc rk k m1) (rJ pc rk k m1) (aw P cV)) (Tr.set (Tr.set (Tr.set (Tr.set Tr.nil 129 (some (AV.d u129))) 7 (some (AV.loc 7 0))) 6 (some (AV.d u6))) 1 (some (AV.loc 1 0))) (Tr.set (Tr.set Tr.nil 7 (some (Bx.dat c7 false))) 1 (some (Bx.dat c1 false)))
noncomputable def T87_6(m1:Nat):=fun(u6:D) (c1:List D)=>labA (bx P pc noY rk (aq P pc noY rk 87 m1) 87 (cL (cL (cR (cL (cR (cR (cR (cR (cR gX))))))))) (LvA.a (LvA.a (LvA.b (LvA.a (LvA.b (LvA.b (LvA.b (LvA.b (LvA.b (LA 87)))))))))) (K87_prrrrrlrl pc rk k m1) (pq pc rk k) (aw P cV)) (Tr.set (Tr.set Tr.nil 6 (some (AV.d u6))) 1 (some (AV.loc 1 0))) (Tr.set Tr.nil 1 (some (Bx.dat c1 false)))
noncomputable def Xj(m1:Nat):(D→List D→Option D):=fun u6 c1=>labA (aq P pc noY rk 87 m1 (LvA.a (LvA.b (LvA.a (LvA.b (LvA.b (LvA.b (LvA.b (LvA.b (LA 87))))))))) (cL (cR (cL (cR (cR (cR (cR (cR gX)))))))) (KY pc rk k) (pq pc rk k) (aw P cV)) (Tr.set (Tr.set Tr.nil 6 (some (AV.d u6))) 1 (some (AV.loc 1 0))) (Tr.set Tr.nil 1 (some (Bx.dat c1 false)))
noncomputable def T87_4(m1:Nat):=fun(u4:D) (c1:List D)=>labA (bx P pc noY rk (aq P pc noY rk 87 m1) 87 (cL (cL (cR (cL (cR (cR (cR (cR gX)))))))) (LvA.a (LvA.a (LvA.b (LvA.a (LvA.b (LvA.b (LvA.b (LvA.b (LA 87))))))))) (K87_prrrrlrl pc rk k m1) (rz pc rk k) (aw P cV)) (Tr.set (Tr.set Tr.nil 4 (some (AV.d u4))) 1 (some (AV.loc 1 0))) (Tr.set Tr.nil 1 (some (Bx.dat c1 false)))
noncomputable def R87_4(m1:Nat):(D→List D→Option D):=fun u4 c1=>labA (aq P pc noY rk 87 m1 (LvA.a (LvA.b (LvA.a (LvA.b (LvA.b (LvA.b (LvA.b (LA 87)))))))) (cL (cR (cL (cR (cR (cR (cR gX))))))) (Rz pc rk k) (rz pc rk k) (aw P cV)) (Tr.set (Tr.set Tr.nil 4 (some (AV.d u4))) 1 (some (AV.loc 1 0))) (Tr.set Tr.nil 1 (some (Bx.dat c1 false)))
noncomputable def T87_3(m1:Nat):=fun(u3:D) (c1:List D)=>labA (bx P pc noY rk (aq P pc noY rk 87 m1) 87 (cL (cL (cR (cL (cR (cR (cR gX))))))) (LvA.a (LvA.a (LvA.b (LvA.a (LvA.b (LvA.b (LvA.b (LA 87)))))))) (K87_prrrlrl pc rk k m1) (EX pc rk k) (aw P cV)) (Tr.set (Tr.set Tr.nil 3 (some (AV.d u3))) 1 (some (AV.loc 1 0))) (Tr.set Tr.nil 1 (some (Bx.dat c1 false)))
noncomputable def R87_3(m1:Nat):(D→List D→Option D):=fun u3 c1=>labA (aq P pc noY rk 87 m1 (LvA.a (LvA.b (LvA.a (LvA.b (LvA.b (LvA.b (LA 87))))))) (cL (cR (cL (cR (cR (cR gX)))))) (qck pc rk k) (EX pc rk k) (aw P cV)) (Tr.set (Tr.set Tr.nil 3 (some (AV.d u3))) 1 (some (AV.loc 1 0))) (Tr.set Tr.nil 1 (some (Bx.dat c1 false)))
noncomputable def T87_2:=fun(u35:D) (c1:List D)=>labA (bx P pc noY rk (aq P pc noY rk 87 k) 87 (cR (cL (cR (cR gX)))) (LvA.b (LvA.a (LvA.b (LvA.b (LA 87))))) (K87_prr pc rk k) X0A (aw P cV)) (Tr.set (Tr.set Tr.nil 35 (some (AV.d u35))) 1 (some (AV.loc 1 0))) (Tr.set Tr.nil 1 (some (Bx.dat c1 false)))
noncomputable def T87_1:=fun(u25:D) (c1:List D)=>labA (bx P pc noY rk (aq P pc noY rk 87 k) 87 (cR (cL (cR gX))) (LvA.b (LvA.a (LvA.b (LA 87)))) (K87_pr pc rk k) X0A (aw P cV)) (Tr.set (Tr.set Tr.nil 25 (some (AV.d u25))) 1 (some (AV.loc 1 0))) (Tr.set Tr.nil 1 (some (Bx.dat c1 false)))
noncomputable def B87_5(pc:PC)(k:Nat)(m1:Nat)(b4:(D→List D→Option D))(u4:D)(u92:D)(c1:List D):Option D:=
ifU u92 (
some (D.v (Value.int IntKind.i64 1))) (
bindO (binD P BinOp.add 3 (Operand.tmp 62) (Operand.const (Value.int IntKind.i64 1)) u4 (D.v (Value.int IntKind.i64 1))) fun d_13=>
b4 d_13 c1)
noncomputable def C87_5(m1:Nat):=B87_5 pc k m1
theorem h87_5(m1:Nat):T87_5 pc rk k m1=C87_5 pc k m1 (R87_4 pc rk k m1):=by kernel_rfl
noncomputable def B87_9(pc:PC)(k:Nat)(m1:Nat)(m2:Nat)(b6:(D→List D→Option D))(b8:(D→D→List D→List D→Option D))(u6:D)(u8:D)(u156:D)(c1:List D)(c7:List D):Option D:=
ifU u156 (
some (D.v (Value.int IntKind.i64 1))) (
bindO (binD P BinOp.add 3 (Operand.tmp 133) (Operand.const (Value.int IntKind.i64 1)) u8 (D.v (Value.int IntKind.i64 1))) fun d_23=>
b8 u6 d_23 c1 c7)
noncomputable def C87_9(m1:Nat):=B87_9 pc k m1
theorem h87_9(m1:Nat)(m2:Nat):T87_9 pc rk k m1 m2=C87_9 pc k m1 m2 (Xj pc rk k m1) (R87_8 pc rk k m1 m2):=by kernel_rfl
noncomputable def B87_8(pc:PC)(k:Nat)(m1:Nat)(m2:Nat)(j9:(D→D→D→List D→List D→Option D))(b6:(D→List D→Option D))(b8:(D→D→List D→List D→Option D))(u6:D)(u8:D)(c1:List D)(c7:List D):Option D:=
bindO (binD P BinOp.lss 3 (Operand.tmp 130) (Operand.tmp 131) u8 u6) fun d_1s=>
ifU d_1s (
bindO (c1[1]?) fun d_1t=>
bindO (elsD d_1t) fun l_1u=>
bindO (idxD u8 l_1u.length) fun i_1v=>
bindO (l_1u[i_1v]?) fun d_1w=>
bindO (aggD d_1w) fun c_1x=>
chkK (Nat.beq c_1x.length 2) (
bindO (cutD c_1x 0 2) fun c_1y=>
bindO (splD [(D.v (Value.int IntKind.i64 0)),(D.v (Value.int IntKind.i64 0))] 0 c_1y 2) fun c_1z=>
bindO (cutD c_1z 0 2) fun c_20=>
bindO (cutD c7 0 2) fun c_21=>
bindO (binD P BinOp.eql 89 (Operand.tmp 140) (Operand.tmp 141) (D.agg c_20) (D.agg c_21)) fun d_22=>
ifU d_22 (
j9 u6 u8 (D.v (Value.bool true)) c1 c7) (
bindO (c_1z[0]?) fun d_24=>
bindO (c7[1]?) fun d_25=>
bindO (binD P BinOp.eql 3 (Operand.tmp 145) (Operand.tmp 147) d_24 d_25) fun d_26=>
ifU d_26 (
bindO (c_1z[1]?) fun d_27=>
bindO (c7[0]?) fun d_28=>
bindO (binD P BinOp.eql 3 (Operand.tmp 151) (Operand.tmp 153) d_27 d_28) fun d_29=>
j9 u6 u8 d_29 c1 c7) (
j9 u6 u8 (D.v (Value.bool false)) c1 c7)))) (
bindO (binD P BinOp.add 3 (Operand.tmp 98) (Operand.const (Value.int IntKind.i64 1)) u6 (D.v (Value.int IntKind.i64 1))) fun d_2a=>
b6 d_2a c1)
noncomputable def C87_8(m1:Nat)(m2:Nat)(b6:(D→List D→Option D))(b8:(D→D→List D→List D→Option D)):=B87_8 pc k m1 m2 (C87_9 pc k m1 m2 b6 b8) b6 b8
noncomputable def S87_8(m1:Nat)(b6:(D→List D→Option D)):Nat→(D→D→List D→List D→Option D):=fun m=>Nat.rec (motive:=fun _=>(D→D→List D→List D→Option D)) (C87_8 pc k m1 0 b6 (fun _ _ _ _=>none)) (fun m ih=>C87_8 pc k m1 (m+1) b6 ih) m
theorem h87_8(m1:Nat)(m2:Nat):T87_8 pc rk k m1 m2=C87_8 pc k m1 m2 (Xj pc rk k m1) (R87_8 pc rk k m1 m2):=Eq.trans (b:=B87_8 pc k m1 m2 (T87_9 pc rk k m1 m2) (Xj pc rk k m1) (R87_8 pc rk k m1 m2)) (by kernel_rfl) (by rw[h87_9]; rfl)
theorem q87_8(m1:Nat)(m:Nat):T87_8 pc rk k m1 m=S87_8 pc k m1 (Xj pc rk k m1) m:=recS (h87_8 pc rk k m1) (by kernel_rfl) (fun m=>by kernel_rfl) m
noncomputable def B87_7(pc:PC)(k:Nat)(m1:Nat)(j8:(D→D→List D→List D→Option D))(b6:(D→List D→Option D))(u6:D)(u129:D)(c1:List D)(c7:List D):Option D:=
ifU u129 (
some (D.v (Value.int IntKind.i64 1))) (
j8 u6 (D.v (Value.int IntKind.i64 0)) c1 c7)
noncomputable def C87_7(m1:Nat)(b6:(D→List D→Option D)):=B87_7 pc k m1 (S87_8 pc k m1 b6 m1) b6
theorem h87_7(m1:Nat):T87_7 pc rk k m1=C87_7 pc k m1 (Xj pc rk k m1):=Eq.trans (b:=B87_7 pc k m1 (T87_8 pc rk k m1 m1) (Xj pc rk k m1)) (by kernel_rfl) (by rw[q87_8]; rfl)
noncomputable def B87_6(pc:PC)(k:Nat)(m1:Nat)(j7:(D→D→List D→List D→Option D))(b6:(D→List D→Option D))(u6:D)(c1:List D):Option D:=
bindO (c1[1]?) fun d_1c=>
bindO (elsD d_1c) fun l_1d=>
bindO (binD P BinOp.lss 3 (Operand.tmp 93) (Operand.tmp 96) u6 (lenD l_1d)) fun d_1e=>
ifU d_1e (
bindO (c1[1]?) fun d_1f=>
bindO (elsD d_1f) fun l_1g=>
bindO (idxD u6 l_1g.length) fun i_1h=>
bindO (l_1g[i_1h]?) fun d_1i=>
bindO (aggD d_1i) fun c_1j=>
chkK (Nat.beq c_1j.length 2) (
bindO (cutD c_1j 0 2) fun c_1k=>
bindO (splD [(D.v (Value.int IntKind.i64 0)),(D.v (Value.int IntKind.i64 0))] 0 c_1k 2) fun c_1l=>
bindO (c_1l[0]?) fun d_1m=>
bindO (c1[0]?) fun d_1n=>
bindO (elsD d_1n) fun l_1o=>
bindO (binD P BinOp.sub 3 (Operand.tmp 109) (Operand.const (Value.int IntKind.i64 1)) (lenD l_1o) (D.v (Value.int IntKind.i64 1))) fun d_1p=>
bindO (pcD P pc 35 [d_1m,(D.v (Value.int IntKind.i64 0)),d_1p]) fun d_1q=>
bindO (semD P d_1q (Op.unary UnOp.not)) fun d_1r=>
ifU d_1r (
j7 u6 (D.v (Value.bool true)) c1 c_1l) (
bindO (c_1l[1]?) fun d_2b=>
bindO (c1[0]?) fun d_2c=>
bindO (elsD d_2c) fun l_2d=>
bindO (binD P BinOp.sub 3 (Operand.tmp 118) (Operand.const (Value.int IntKind.i64 1)) (lenD l_2d) (D.v (Value.int IntKind.i64 1))) fun d_2e=>
bindO (pcD P pc 35 [d_2b,(D.v (Value.int IntKind.i64 0)),d_2e]) fun d_2f=>
bindO (semD P d_2f (Op.unary UnOp.not)) fun d_2g=>
ifU d_2g (
j7 u6 (D.v (Value.bool true)) c1 c_1l) (
bindO (c_1l[0]?) fun d_2h=>
bindO (c_1l[1]?) fun d_2i=>
bindO (binD P BinOp.eql 3 (Operand.tmp 125) (Operand.tmp 127) d_2h d_2i) fun d_2j=>
j7 u6 d_2j c1 c_1l)))) (
some (D.v (Value.int IntKind.i64 0)))
noncomputable def C87_6(m1:Nat)(b6:(D→List D→Option D)):=B87_6 pc k m1 (C87_7 pc k m1 b6) b6
noncomputable def S87_6:Nat→(D→List D→Option D):=recF (C87_6 pc k) (fun _ _=>none)
theorem h87_6(m1:Nat):T87_6 pc rk k m1=C87_6 pc k m1 (Xj pc rk k m1):=Eq.trans (b:=B87_6 pc k m1 (T87_7 pc rk k m1) (Xj pc rk k m1)) (by kernel_rfl) (by rw[h87_7]; rfl)
theorem q87_6(m:Nat):T87_6 pc rk k m=S87_6 pc k m:=recS (h87_6 pc rk k) (by kernel_rfl) (fun m=>by kernel_rfl) m
noncomputable def B87_4(pc:PC)(k:Nat)(m1:Nat)(j5:(D→D→List D→Option D))(j6:(D→List D→Option D))(b4:(D→List D→Option D))(u4:D)(c1:List D):Option D:=
bindO (c1[2]?) fun d_q=>
bindO (elsD d_q) fun l_r=>
bindO (binD P BinOp.lss 3 (Operand.tmp 57) (Operand.tmp 60) u4 (lenD l_r)) fun d_s=>
ifU d_s (
bindO (c1[2]?) fun d_t=>
bindO (elsD d_t) fun l_u=>
bindO (idxD u4 l_u.length) fun i_v=>
bindO (l_u[i_v]?) fun d_w=>
bindO (aggD d_w) fun c_x=>
chkK (Nat.beq c_x.length 5) (
bindO (cutD c_x 0 5) fun c_y=>
bindO (splD [(D.v (Value.int IntKind.i64 0)),(D.v (Value.int IntKind.i64 0)),(D.v (Value.int IntKind.i64 0)),(D.v (Value.int IntKind.i64 0)),(D.v (Value.int IntKind.i64 0))] 0 c_y 5) fun c_z=>
bindO (c_z[0]?) fun d_10=>
bindO (pcD P pc 35 [d_10,(D.v (Value.int IntKind.i64 0)),(D.v (Value.int IntKind.i64 1000))]) fun d_11=>
bindO (semD P d_11 (Op.unary UnOp.not)) fun d_12=>
ifU d_12 (
j5 u4 (D.v (Value.bool true)) c1) (
bindO (c_z[1]?) fun d_14=>
bindO (c_z[2]?) fun d_15=>
bindO (pcD P pc 105 [d_14,d_15]) fun d_16=>
bindO (semD P d_16 (Op.unary UnOp.not)) fun d_17=>
ifU d_17 (
j5 u4 (D.v (Value.bool true)) c1) (
bindO (c_z[3]?) fun d_18=>
bindO (c_z[4]?) fun d_19=>
bindO (pcD P pc 105 [d_18,d_19]) fun d_1a=>
bindO (semD P d_1a (Op.unary UnOp.not)) fun d_1b=>
j5 u4 d_1b c1)))) (
j6 (D.v (Value.int IntKind.i64 0)) c1)
noncomputable def C87_4(m1:Nat)(b4:(D→List D→Option D)):=B87_4 pc k m1 (C87_5 pc k m1 b4) (S87_6 pc k k) b4
noncomputable def S87_4:Nat→(D→List D→Option D):=recF (C87_4 pc k) (fun _ _=>none)
theorem h87_4(m1:Nat):T87_4 pc rk k m1=C87_4 pc k m1 (R87_4 pc rk k m1):=Eq.trans (b:=B87_4 pc k m1 (T87_5 pc rk k m1) (T87_6 pc rk k k) (R87_4 pc rk k m1)) (by kernel_rfl) (by rw[h87_5,q87_6]; rfl)
theorem q87_4(m:Nat):T87_4 pc rk k m=S87_4 pc k m:=recS (h87_4 pc rk k) (by kernel_rfl) (fun m=>by kernel_rfl) m
noncomputable def B87_3(pc:PC)(k:Nat)(m1:Nat)(j4:(D→List D→Option D))(b3:(D→List D→Option D))(u3:D)(c1:List D):Option D:=
bindO (c1[0]?) fun d_8=>
bindO (elsD d_8) fun l_9=>
bindO (binD P BinOp.lss 3 (Operand.tmp 36) (Operand.tmp 39) u3 (lenD l_9)) fun d_a=>
ifU d_a (
bindO (c1[0]?) fun d_b=>
bindO (elsD d_b) fun l_c=>
bindO (idxD u3 l_c.length) fun i_d=>
bindO (l_c[i_d]?) fun d_e=>
bindO (aggD d_e) fun c_f=>
chkK (Nat.beq c_f.length 2) (
bindO (c_f[0]?) fun d_g=>
bindO (c1[0]?) fun d_h=>
bindO (elsD d_h) fun l_i=>
bindO (idxD u3 l_i.length) fun i_j=>
bindO (l_i[i_j]?) fun d_k=>
bindO (aggD d_k) fun c_l=>
chkK (Nat.beq c_l.length 2) (
bindO ((List.drop 1 c_l)[0]?) fun d_m=>
bindO (pcD P pc 105 [d_g,d_m]) fun d_n=>
bindO (semD P d_n (Op.unary UnOp.not)) fun d_o=>
ifU d_o (
some (D.v (Value.int IntKind.i64 1))) (
bindO (binD P BinOp.add 3 (Operand.tmp 41) (Operand.const (Value.int IntKind.i64 1)) u3 (D.v (Value.int IntKind.i64 1))) fun d_p=>
b3 d_p c1)))) (
j4 (D.v (Value.int IntKind.i64 0)) c1)
noncomputable def C87_3(m1:Nat):=B87_3 pc k m1 (S87_4 pc k k)
noncomputable def S87_3:Nat→(D→List D→Option D):=recF (C87_3 pc k) (fun _ _=>none)
theorem h87_3(m1:Nat):T87_3 pc rk k m1=C87_3 pc k m1 (R87_3 pc rk k m1):=Eq.trans (b:=B87_3 pc k m1 (T87_4 pc rk k k) (R87_3 pc rk k m1)) (by kernel_rfl) (by rw[q87_4]; rfl)
theorem q87_3(m:Nat):T87_3 pc rk k m=S87_3 pc k m:=recS (h87_3 pc rk k) (by kernel_rfl) (fun m=>by kernel_rfl) m
noncomputable def B87_2(pc:PC)(k:Nat)(j3:(D→List D→Option D))(u35:D)(c1:List D):Option D:=
ifU u35 (
some (D.v (Value.int IntKind.i64 1))) (
j3 (D.v (Value.int IntKind.i64 0)) c1)
noncomputable def C87_2:=B87_2 pc k (S87_3 pc k k)
theorem h87_2:T87_2 pc rk k=C87_2 pc k:=Eq.trans (b:=B87_2 pc k (T87_3 pc rk k k)) (by kernel_rfl) (by rw[q87_3]; rfl)
noncomputable def B87_1(pc:PC)(k:Nat)(j2:(D→List D→Option D))(u25:D)(c1:List D):Option D:=
ifU u25 (
some (D.v (Value.int IntKind.i64 3))) (
bindO (c1[0]?) fun d_5=>
bindO (elsD d_5) fun l_6=>
bindO (binD P BinOp.eql 3 (Operand.tmp 28) (Operand.const (Value.int IntKind.i64 0)) (lenD l_6) (D.v (Value.int IntKind.i64 0))) fun d_7=>
ifU d_7 (
j2 (D.v (Value.bool true)) c1) (
bindO (c1[2]?) fun d_2k=>
bindO (elsD d_2k) fun l_2l=>
bindO (binD P BinOp.eql 3 (Operand.tmp 33) (Operand.const (Value.int IntKind.i64 0)) (lenD l_2l) (D.v (Value.int IntKind.i64 0))) fun d_2m=>
j2 d_2m c1))
noncomputable def C87_1:=B87_1 pc k (C87_2 pc k)
theorem h87_1:T87_1 pc rk k=C87_1 pc k:=Eq.trans (b:=B87_1 pc k (T87_2 pc rk k)) (by kernel_rfl) (by rw[h87_2]; rfl)
noncomputable def B87_0(pc:PC)(k:Nat)(j1:(D→List D→Option D))(v0:D):Option D:=
bindO (aggD v0) fun c_1=>
bindO (c_1[0]?) fun d_2=>
bindO (elsD d_2) fun l_3=>
bindO (binD P BinOp.gtr 3 (Operand.tmp 12) (Operand.const (Value.int IntKind.i64 8)) (lenD l_3) (D.v (Value.int IntKind.i64 8))) fun d_4=>
ifU d_4 (
j1 (D.v (Value.bool true)) c_1) (
bindO (c_1[1]?) fun d_2n=>
bindO (elsD d_2n) fun l_2o=>
bindO (binD P BinOp.gtr 3 (Operand.tmp 17) (Operand.const (Value.int IntKind.i64 16)) (lenD l_2o) (D.v (Value.int IntKind.i64 16))) fun d_2p=>
ifU d_2p (
j1 (D.v (Value.bool true)) c_1) (
bindO (c_1[2]?) fun d_2q=>
bindO (elsD d_2q) fun l_2r=>
bindO (binD P BinOp.gtr 3 (Operand.tmp 23) (Operand.const (Value.int IntKind.i64 3)) (lenD l_2r) (D.v (Value.int IntKind.i64 3))) fun d_2s=>
j1 d_2s c_1))
noncomputable def C87_0:=B87_0 pc k (C87_1 pc k)
theorem h87_0(v0:D):cQ P pc noY rk LA (k+1) 87 [v0]=C87_0 pc k v0:=(bqA Go.Proofs.Tryz.f87 gX cV (by kernel_rfl)).trans (Eq.trans (b:=B87_0 pc k (T87_1 pc rk k) v0) (by kernel_rfl) (by rw[h87_1]; rfl))
noncomputable def KZ:Code:=ak 88
noncomputable def rq:List ResultVar:=bw 88
noncomputable def K88_pr:KA:=(bK (LvA.b (LA 88)).c (bx P pc noY rk (aq P pc noY rk 88 k) 88 (cR (cR KZ)) (LvA.b (LvA.b (LA 88))) (aw P rq) X0A (aw P rq)))
noncomputable def Ax:(Nat→KA):=(upA 0 (K88_pr pc rk k) X0A)
noncomputable def K88_prlrl(m1:Nat):KA:=(bK (LvA.a (LvA.b (LvA.a (LvA.b (LA 88))))).c (aq P pc noY rk 88 m1 (LvA.a (LvA.b (LvA.a (LvA.b (LA 88))))) (cL (cR (cL (cR KZ)))) (K88_pr pc rk k) (Ax pc rk k) (aw P rq)))
noncomputable def K88_prlrllr(m1:Nat):KA:=(bK (LvA.b (LvA.a (LvA.a (LvA.b (LvA.a (LvA.b (LA 88))))))).c (bx P pc noY rk (aq P pc noY rk 88 m1) 88 (cR (cR (cL (cL (cR (cL (cR KZ))))))) (LvA.b (LvA.b (LvA.a (LvA.a (LvA.b (LvA.a (LvA.b (LA 88)))))))) (K88_prlrl pc rk k m1) (Ax pc rk k) (aw P rq)))
noncomputable def K88_pxrlrllrl(m1:Nat):(Nat→KA):=(upA 1 (K88_prlrllr pc rk k m1) (Ax pc rk k))
noncomputable def T88_2(m1:Nat):=fun(u1:D) (u5:D) (u38:D) (c2:List D)=>labA (bx P pc noY rk (aq P pc noY rk 88 m1) 88 (cR (cL (cL (cR (cL (cL (cR (cL (cR KZ))))))))) (LvA.b (LvA.a (LvA.a (LvA.b (LvA.a (LvA.a (LvA.b (LvA.a (LvA.b (LA 88)))))))))) (K88_prlrllr pc rk k m1) (K88_pxrlrllrl pc rk k m1) (aw P rq)) (Tr.set (Tr.set (Tr.set (Tr.set Tr.nil 38 (some (AV.d u38))) 5 (some (AV.d u5))) 2 (some (AV.loc 2 0))) 1 (some (AV.d u1))) (Tr.set Tr.nil 2 (some (Bx.dat c2 false)))
noncomputable def T88_1(m1:Nat):=fun(u1:D) (u5:D) (c2:List D)=>labA (bx P pc noY rk (aq P pc noY rk 88 m1) 88 (cL (cL (cR (cL (cR KZ))))) (LvA.a (LvA.a (LvA.b (LvA.a (LvA.b (LA 88)))))) (K88_prlrl pc rk k m1) (Ax pc rk k) (aw P rq)) (Tr.set (Tr.set (Tr.set Tr.nil 5 (some (AV.d u5))) 2 (some (AV.loc 2 0))) 1 (some (AV.d u1))) (Tr.set Tr.nil 2 (some (Bx.dat c2 false)))
noncomputable def R88_1(m1:Nat):(D→D→List D→Option D):=fun u1 u5 c2=>labA (aq P pc noY rk 88 m1 (LvA.a (LvA.b (LvA.a (LvA.b (LA 88))))) (cL (cR (cL (cR KZ)))) (K88_pr pc rk k) (Ax pc rk k) (aw P rq)) (Tr.set (Tr.set (Tr.set Tr.nil 5 (some (AV.d u5))) 2 (some (AV.loc 2 0))) 1 (some (AV.d u1))) (Tr.set Tr.nil 2 (some (Bx.dat c2 false)))
noncomputable def B88_2(pc:PC)(k:Nat)(m1:Nat)(b1:(D→D→List D→Option D))(u1:D)(u5:D)(u38:D)(c2:List D):Option D:=
ifU u38 (
some (D.v (Value.bool false))) (
bindO (binD P BinOp.add 3 (Operand.tmp 10) (Operand.const (Value.int IntKind.i64 1)) u5 (D.v (Value.int IntKind.i64 1))) fun d_c=>
b1 u1 d_c c2)
noncomputable def C88_2(m1:Nat):=B88_2 pc k m1
theorem h88_2(m1:Nat):T88_2 pc rk k m1=C88_2 pc k m1 (R88_1 pc rk k m1):=by kernel_rfl
noncomputable def B88_1(pc:PC)(k:Nat)(m1:Nat)(j2:(D→D→D→List D→Option D))(b1:(D→D→List D→Option D))(u1:D)(u5:D)(c2:List D):Option D:=
bindO (elsD u1) fun l_2=>
bindO (binD P BinOp.lss 3 (Operand.tmp 6) (Operand.tmp 8) u5 (lenD l_2)) fun d_3=>
ifU d_3 (
bindO (elsD u1) fun l_4=>
bindO (idxD u5 l_4.length) fun i_5=>
bindO (l_4[i_5]?) fun d_6=>
chkK (bk d_6) (
bindO (c2[0]?) fun d_7=>
bindO (elsD d_7) fun l_8=>
bindO (binD P BinOp.sub 3 (Operand.tmp 19) (Operand.const (Value.int IntKind.i64 1)) (lenD l_8) (D.v (Value.int IntKind.i64 1))) fun d_9=>
bindO (pcD P pc 35 [d_6,(D.v (Value.int IntKind.i64 0)),d_9]) fun d_a=>
bindO (semD P d_a (Op.unary UnOp.not)) fun d_b=>
ifU d_b (
j2 u1 u5 (D.v (Value.bool true)) c2) (
bindO (binD P BinOp.gtr 3 (Operand.tmp 24) (Operand.const (Value.int IntKind.i64 0)) u5 (D.v (Value.int IntKind.i64 0))) fun d_d=>
ifU d_d (
bindO (elsD u1) fun l_e=>
bindO (idxD u5 l_e.length) fun i_f=>
bindO (l_e[i_f]?) fun d_g=>
chkK (bk d_g) (
bindO (binD P BinOp.sub 3 (Operand.tmp 32) (Operand.const (Value.int IntKind.i64 1)) u5 (D.v (Value.int IntKind.i64 1))) fun d_h=>
bindO (elsD u1) fun l_i=>
bindO (idxD d_h l_i.length) fun i_j=>
bindO (l_i[i_j]?) fun d_k=>
chkK (bk d_k) (
bindO (binD P BinOp.leq 3 (Operand.tmp 30) (Operand.tmp 35) d_g d_k) fun d_l=>
j2 u1 u5 d_l c2))) (
j2 u1 u5 (D.v (Value.bool false)) c2)))) (
some (D.v (Value.bool true)))
noncomputable def C88_1(m1:Nat)(b1:(D→D→List D→Option D)):=B88_1 pc k m1 (C88_2 pc k m1 b1) b1
noncomputable def S88_1:Nat→(D→D→List D→Option D):=recF (C88_1 pc k) (fun _ _ _=>none)
theorem h88_1(m1:Nat):T88_1 pc rk k m1=C88_1 pc k m1 (R88_1 pc rk k m1):=Eq.trans (b:=B88_1 pc k m1 (T88_2 pc rk k m1) (R88_1 pc rk k m1)) (by kernel_rfl) (by rw[h88_2]; rfl)
theorem q88_1(m:Nat):T88_1 pc rk k m=S88_1 pc k m:=recS (h88_1 pc rk k) (by kernel_rfl) (fun m=>by kernel_rfl) m
noncomputable def B88_0(pc:PC)(k:Nat)(j1:(D→D→List D→Option D))(v0:D)(v1:D):Option D:=
bindO (aggD v0) fun c_1=>
j1 v1 (D.v (Value.int IntKind.i64 0)) c_1
noncomputable def C88_0:=B88_0 pc k (S88_1 pc k k)
theorem h88_0(v0:D)(v1:D):cQ P pc noY rk LA (k+1) 88 [v0,v1]=C88_0 pc k v0 v1:=(bqA Go.Proofs.Tryz.f88 KZ rq (by kernel_rfl)).trans (Eq.trans (b:=B88_0 pc k (T88_1 pc rk k k) v0 v1) (by kernel_rfl) (by rw[q88_1]; rfl))
noncomputable def cK:Code:=ak 89
noncomputable def tW:List ResultVar:=bw 89
noncomputable def Yz(pc rg pc1 rg1 pc2:PC)(rk2:List Nat→RK)(k:Nat):KA:=(bK (LvA.b (LvA.b (LA 89))).c (bx P pc noY (gw P rg pc1 (gw P rg1 pc2 rk2 (k+1)) (k+1) []) (aq P pc noY (gw P rg pc1 (gw P rg1 pc2 rk2 (k+1)) (k+1) []) 89 k) 89 (cR (cR (cR cK))) (LvA.b (LvA.b (LvA.b (LA 89)))) (aw P tW) X0A (aw P tW)))
noncomputable def Cq(pc rg pc1 rg1 pc2:PC)(rk2:List Nat→RK)(k:Nat):(Nat→KA):=(upA 0 (Yz pc rg pc1 rg1 pc2 rk2 k) X0A)
noncomputable def yK(pc rg pc1 rg1 pc2:PC)(rk2:List Nat→RK)(k:Nat)(m1:List (List D)):KA:=(bK ((LvA.a (LvA.a (LvA.b (LvA.a (LvA.b (LvA.b (LA 89)))))))).c (fun _ G=>PW (cfB P pc1 (gw P rg1 pc2 rk2 (k+1) ((cX (cR (cL (cR (cL (cR (cR cK)))))))::[])) (k+1) 89) (LvA.a (LvA.b (LvA.a (LvA.b (LvA.b (LA 89)))))) (ntm P 89) (rPs (cL (cR (cL (cR (cR cK)))))) (cL (cL (cR (cL (cR (cR cK)))))) (cR (cL (cR (cL (cR (cR cK)))))) (cX (cR (cL (cR (cL (cR (cR cK))))))) (Yz pc rg pc1 rg1 pc2 rk2 k) (Cq pc rg pc1 rg1 pc2 rk2 k) (aw P tW) m1 G))
noncomputable def K89_pxrrlrlb(pc rg pc1 rg1 pc2:PC)(rk2:List Nat→RK)(k:Nat)(m1:List (List D)):(Nat→KA):=(fun i _ G=>envK (cX (cR (cL (cR (cL (cR (cR cK))))))) G fun A=>(Cq pc rg pc1 rg1 pc2 rk2 k) i A G)
noncomputable def nW(pc rg pc1 rg1 pc2:PC)(rk2:List Nat→RK)(k:Nat)(m1:List (List D)):KA:=(fun _ G=>envK (cX (cR (cL (cR (cL (cR (cR cK))))))) G fun A=>(aw P tW) A G)
noncomputable def K89_pxrrlrlr(pc rg pc1 rg1 pc2:PC)(rk2:List Nat→RK)(k:Nat)(m1:List (List D)):(Nat→KA):=(upA 1 (yK pc rg pc1 rg1 pc2 rk2 k m1) (K89_pxrrlrlb pc rg pc1 rg1 pc2 rk2 k m1))
noncomputable def nX(pc rg pc1 rg1 pc2:PC)(rk2:List Nat→RK)(k:Nat)(m1:List (List D)):(Nat→KA):=(upA 2 (yK pc rg pc1 rg1 pc2 rk2 k m1) (K89_pxrrlrlr pc rg pc1 rg1 pc2 rk2 k m1))
noncomputable def K89_prrlrlrlrl(pc rg pc1 rg1 pc2:PC)(rk2:List Nat→RK)(k:Nat)(m1:List (List D))(m2:Nat):KA:=(bK (LvA.a (LvA.b (LvA.a (LvA.b (LvA.a (LvA.b (LvA.a (LvA.b (LvA.b (LA 89)))))))))).c (aq P pc1 noY (gw P rg1 pc2 rk2 (k+1) ((cX (cR (cL (cR (cL (cR (cR cK)))))))::[])) 89 m2 (LvA.a (LvA.b (LvA.a (LvA.b (LvA.a (LvA.b (LvA.a (LvA.b (LvA.b (LA 89)))))))))) (cL (cR (cL (cR (cL (cR (cL (cR (cR cK))))))))) (yK pc rg pc1 rg1 pc2 rk2 k m1) (nX pc rg pc1 rg1 pc2 rk2 k m1) (nW pc rg pc1 rg1 pc2 rk2 k m1)))
noncomputable def K89_prrlrlrlrllrr(pc rg pc1 rg1 pc2:PC)(rk2:List Nat→RK)(k:Nat)(m1:List (List D))(m2:Nat):KA:=(bK (LvA.b (LvA.b (LvA.a (LvA.a (LvA.b (LvA.a (LvA.b (LvA.a (LvA.b (LvA.a (LvA.b (LvA.b (LA 89))))))))))))).c (bx P pc1 noY (gw P rg1 pc2 rk2 (k+1) ((cX (cR (cL (cR (cL (cR (cR cK)))))))::[])) (aq P pc1 noY (gw P rg1 pc2 rk2 (k+1) ((cX (cR (cL (cR (cL (cR (cR cK)))))))::[])) 89 m2) 89 (cR (cR (cR (cL (cL (cR (cL (cR (cL (cR (cL (cR (cR cK))))))))))))) (LvA.b (LvA.b (LvA.b (LvA.a (LvA.a (LvA.b (LvA.a (LvA.b (LvA.a (LvA.b (LvA.a (LvA.b (LvA.b (LA 89)))))))))))))) (K89_prrlrlrlrl pc rg pc1 rg1 pc2 rk2 k m1 m2) (nX pc rg pc1 rg1 pc2 rk2 k m1) (nW pc rg pc1 rg1 pc2 rk2 k m1)))
noncomputable def K89_pxrrlrlrlrllrrl(pc rg pc1 rg1 pc2:PC)(rk2:List Nat→RK)(k:Nat)(m1:List (List D))(m2:Nat):(Nat→KA):=(upA 3 (K89_prrlrlrlrllrr pc rg pc1 rg1 pc2 rk2 k m1 m2) (nX pc rg pc1 rg1 pc2 rk2 k m1))
noncomputable def nv(pc rg pc1 rg1 pc2:PC)(rk2:List Nat→RK)(k:Nat)(m1:List (List D))(m2:Nat):KA:=(bK (LvA.b (LvA.b (LvA.a (LvA.a (LvA.b (LvA.b (LvA.a (LvA.a (LvA.b (LvA.a (LvA.b (LvA.a (LvA.b (LvA.a (LvA.b (LvA.b (LA 89))))))))))))))))).c (bx P pc1 noY (gw P rg1 pc2 rk2 (k+1) ((cX (cR (cL (cR (cL (cR (cR cK)))))))::[])) (aq P pc1 noY (gw P rg1 pc2 rk2 (k+1) ((cX (cR (cL (cR (cL (cR (cR cK)))))))::[])) 89 m2) 89 (cR (cR (cR (cL (cL (cR (cR (cL (cL (cR (cL (cR (cL (cR (cL (cR (cR cK))))))))))))))))) (LvA.b (LvA.b (LvA.b (LvA.a (LvA.a (LvA.b (LvA.b (LvA.a (LvA.a (LvA.b (LvA.a (LvA.b (LvA.a (LvA.b (LvA.a (LvA.b (LvA.b (LA 89)))))))))))))))))) (K89_prrlrlrlrllrr pc rg pc1 rg1 pc2 rk2 k m1 m2) (K89_pxrrlrlrlrllrrl pc rg pc1 rg1 pc2 rk2 k m1 m2) (nW pc rg pc1 rg1 pc2 rk2 k m1)))
noncomputable def K89_pxrrlrlrlrllrrllrrlr(pc rg pc1 rg1 pc2:PC)(rk2:List Nat→RK)(k:Nat)(m1:List (List D))(m2:Nat):(Nat→KA):=(upA 4 (nv pc rg pc1 rg1 pc2 rk2 k m1 m2) (K89_pxrrlrlrlrllrrl pc rg pc1 rg1 pc2 rk2 k m1 m2))
noncomputable def Xq(pc rg pc1 rg1 pc2:PC)(rk2:List Nat→RK)(k:Nat)(m1:List (List D))(m2:Nat)(m3:List (List D)):KA:=fun _ G=>PW (cfB P pc2 (rk2 ((cX (cR (cL (cR (cL (cR (cR (cL (cL (cR (cR (cL (cL (cR (cL (cR (cL (cR (cL (cR (cR cK)))))))))))))))))))))::((cX (cR (cL (cR (cL (cR (cR cK)))))))::[]))) (k+1) 89) (LvA.a (LvA.b (LvA.a (LvA.b (LvA.b (LvA.a (LvA.a (LvA.b (LvA.b (LvA.a (LvA.a (LvA.b (LvA.a (LvA.b (LvA.a (LvA.b (LvA.a (LvA.b (LvA.b (LA 89)))))))))))))))))))) (ntm P 89) (rPs (cL (cR (cL (cR (cR (cL (cL (cR (cR (cL (cL (cR (cL (cR (cL (cR (cL (cR (cR cK)))))))))))))))))))) (cL (cL (cR (cL (cR (cR (cL (cL (cR (cR (cL (cL (cR (cL (cR (cL (cR (cL (cR (cR cK)))))))))))))))))))) (cR (cL (cR (cL (cR (cR (cL (cL (cR (cR (cL (cL (cR (cL (cR (cL (cR (cL (cR (cR cK)))))))))))))))))))) (cX (cR (cL (cR (cL (cR (cR (cL (cL (cR (cR (cL (cL (cR (cL (cR (cL (cR (cL (cR (cR cK))))))))))))))))))))) (nv pc rg pc1 rg1 pc2 rk2 k m1 m2) (K89_pxrrlrlrlrllrrllrrlr pc rg pc1 rg1 pc2 rk2 k m1 m2) (nW pc rg pc1 rg1 pc2 rk2 k m1) m3 G
noncomputable def R89_5(pc rg pc1 rg1 pc2:PC)(rk2:List Nat→RK)(k:Nat)(m1:List (List D))(m2:Nat)(m3:List (List D)):(D→D→D→D→List MapEntry→Nat→D→D→D→D→D→D→D→Option D):=fun g2_0 g6_0 g7_0 g10_0 es12 mc12 e1_14 e5_8 e5_9 e5_21 e5_22 e5_23 e5_32=>labA (Xq pc rg pc1 rg1 pc2 rk2 k m1 m2 m3) Tr.nil (Tr.set (Tr.set (Tr.set (Tr.set (Tr.set (Tr.set (Tr.set (Tr.set Tr.nil 1000005 (some (Bx.env [(2,(AV.loc 2 0)),(5,(AV.loc 5 0)),(6,(AV.loc 6 0)),(7,(AV.loc 7 0)),(8,(AV.d e5_8)),(9,(AV.d e5_9)),(10,(AV.loc 10 0)),(21,(AV.d e5_21)),(22,(AV.d e5_22)),(23,(AV.d e5_23)),(32,(AV.d e5_32))]))) 1000001 (some (Bx.env [(2,(AV.loc 2 0)),(5,(AV.loc 5 0)),(14,(AV.d e1_14))]))) 12 (some (Bx.map es12 mc12 false))) 10 (some (Bx.dat [g10_0] false))) 7 (some (Bx.dat [g7_0] false))) 6 (some (Bx.dat [g6_0] false))) 5 (some (Bx.box [(AV.mp 12)]))) 2 (some (Bx.dat [g2_0] false)))
noncomputable def T89_4(pc rg pc1 rg1 pc2:PC)(rk2:List Nat→RK)(k:Nat)(m1:List (List D))(m2:Nat):=fun(u8:D) (u9:D) (u21:D) (u22:D) (u23:D) (u32:D) (g2_0:D) (g6_0:D) (g7_0:D) (g10_0:D) (es12:List MapEntry) (mc12:Nat) (e1_14:D)=>labA (fun A G=>getK (opdA (rX (cL (cR (cL (cR (cR (cL (cL (cR (cR (cL (cL (cR (cL (cR (cL (cR (cL (cR (cR cK)))))))))))))))))))) A) fun a=>(gw P rg1 pc2 rk2 (k+1) ((cX (cR (cL (cR (cL (cR (cR cK)))))))::[])) (LvA.a (LvA.b (LvA.a (LvA.b (LvA.b (LvA.a (LvA.a (LvA.b (LvA.b (LvA.a (LvA.a (LvA.b (LvA.a (LvA.b (LvA.a (LvA.b (LvA.a (LvA.b (LvA.b (LA 89)))))))))))))))))))) 89 a (rPs (cL (cR (cL (cR (cR (cL (cL (cR (cR (cL (cL (cR (cL (cR (cL (cR (cL (cR (cR cK)))))))))))))))))))) (cL (cL (cR (cL (cR (cR (cL (cL (cR (cR (cL (cL (cR (cL (cR (cL (cR (cL (cR (cR cK)))))))))))))))))))) (cR (cL (cR (cL (cR (cR (cL (cL (cR (cR (cL (cL (cR (cL (cR (cL (cR (cL (cR (cR cK)))))))))))))))))))) (nv pc rg pc1 rg1 pc2 rk2 k m1 m2) (K89_pxrrlrlrlrllrrllrrlr pc rg pc1 rg1 pc2 rk2 k m1 m2) (nW pc rg pc1 rg1 pc2 rk2 k m1) A G) (Tr.set (Tr.set (Tr.set (Tr.set (Tr.set (Tr.set (Tr.set (Tr.set (Tr.set (Tr.set (Tr.set Tr.nil 32 (some (AV.d u32))) 23 (some (AV.d u23))) 22 (some (AV.d u22))) 21 (some (AV.d u21))) 10 (some (AV.loc 10 0))) 9 (some (AV.d u9))) 8 (some (AV.d u8))) 7 (some (AV.loc 7 0))) 6 (some (AV.loc 6 0))) 5 (some (AV.loc 5 0))) 2 (some (AV.loc 2 0))) (Tr.set (Tr.set (Tr.set (Tr.set (Tr.set (Tr.set (Tr.set Tr.nil 1000001 (some (Bx.env [(2,(AV.loc 2 0)),(5,(AV.loc 5 0)),(14,(AV.d e1_14))]))) 12 (some (Bx.map es12 mc12 false))) 10 (some (Bx.dat [g10_0] false))) 7 (some (Bx.dat [g7_0] false))) 6 (some (Bx.dat [g6_0] false))) 5 (some (Bx.box [(AV.mp 12)]))) 2 (some (Bx.dat [g2_0] false)))
noncomputable def T89_3(pc rg pc1 rg1 pc2:PC)(rk2:List Nat→RK)(k:Nat)(m1:List (List D))(m2:Nat):=fun(u21:D) (u22:D) (u23:D) (g2_0:D) (g6_0:D) (g7_0:D) (es12:List MapEntry) (mc12:Nat) (e1_14:D)=>labA (bx P pc1 noY (gw P rg1 pc2 rk2 (k+1) ((cX (cR (cL (cR (cL (cR (cR cK)))))))::[])) (aq P pc1 noY (gw P rg1 pc2 rk2 (k+1) ((cX (cR (cL (cR (cL (cR (cR cK)))))))::[])) 89 m2) 89 (cL (cL (cR (cL (cR (cL (cR (cL (cR (cR cK)))))))))) (LvA.a (LvA.a (LvA.b (LvA.a (LvA.b (LvA.a (LvA.b (LvA.a (LvA.b (LvA.b (LA 89))))))))))) (K89_prrlrlrlrl pc rg pc1 rg1 pc2 rk2 k m1 m2) (nX pc rg pc1 rg1 pc2 rk2 k m1) (nW pc rg pc1 rg1 pc2 rk2 k m1)) (Tr.set (Tr.set (Tr.set (Tr.set (Tr.set (Tr.set (Tr.set Tr.nil 23 (some (AV.d u23))) 22 (some (AV.d u22))) 21 (some (AV.d u21))) 7 (some (AV.loc 7 0))) 6 (some (AV.loc 6 0))) 5 (some (AV.loc 5 0))) 2 (some (AV.loc 2 0))) (Tr.set (Tr.set (Tr.set (Tr.set (Tr.set (Tr.set Tr.nil 1000001 (some (Bx.env [(2,(AV.loc 2 0)),(5,(AV.loc 5 0)),(14,(AV.d e1_14))]))) 12 (some (Bx.map es12 mc12 false))) 7 (some (Bx.dat [g7_0] false))) 6 (some (Bx.dat [g6_0] false))) 5 (some (Bx.box [(AV.mp 12)]))) 2 (some (Bx.dat [g2_0] false)))
noncomputable def EY(pc rg pc1 rg1 pc2:PC)(rk2:List Nat→RK)(k:Nat)(m1:List (List D))(m2:Nat):(D→D→D→D→D→D→List MapEntry→Nat→D→Option D):=fun u21 u22 u23 g2_0 g6_0 g7_0 es12 mc12 e1_14=>labA (aq P pc1 noY (gw P rg1 pc2 rk2 (k+1) ((cX (cR (cL (cR (cL (cR (cR cK)))))))::[])) 89 m2 (LvA.a (LvA.b (LvA.a (LvA.b (LvA.a (LvA.b (LvA.a (LvA.b (LvA.b (LA 89)))))))))) (cL (cR (cL (cR (cL (cR (cL (cR (cR cK))))))))) (yK pc rg pc1 rg1 pc2 rk2 k m1) (nX pc rg pc1 rg1 pc2 rk2 k m1) (nW pc rg pc1 rg1 pc2 rk2 k m1)) (Tr.set (Tr.set (Tr.set (Tr.set (Tr.set (Tr.set (Tr.set Tr.nil 23 (some (AV.d u23))) 22 (some (AV.d u22))) 21 (some (AV.d u21))) 7 (some (AV.loc 7 0))) 6 (some (AV.loc 6 0))) 5 (some (AV.loc 5 0))) 2 (some (AV.loc 2 0))) (Tr.set (Tr.set (Tr.set (Tr.set (Tr.set (Tr.set Tr.nil 1000001 (some (Bx.env [(2,(AV.loc 2 0)),(5,(AV.loc 5 0)),(14,(AV.d e1_14))]))) 12 (some (Bx.map es12 mc12 false))) 7 (some (Bx.dat [g7_0] false))) 6 (some (Bx.dat [g6_0] false))) 5 (some (Bx.box [(AV.mp 12)]))) 2 (some (Bx.dat [g2_0] false)))
noncomputable def Xv(pc rg pc1 rg1 pc2:PC)(rk2:List Nat→RK)(k:Nat)(m1:List (List D)):KA:=fun _ G=>PW (cfB P pc1 (gw P rg1 pc2 rk2 (k+1) ((cX (cR (cL (cR (cL (cR (cR cK)))))))::[])) (k+1) 89) (LvA.a (LvA.b (LvA.a (LvA.b (LvA.b (LA 89)))))) (ntm P 89) (rPs (cL (cR (cL (cR (cR cK)))))) (cL (cL (cR (cL (cR (cR cK)))))) (cR (cL (cR (cL (cR (cR cK)))))) (cX (cR (cL (cR (cL (cR (cR cK))))))) (Yz pc rg pc1 rg1 pc2 rk2 k) (Cq pc rg pc1 rg1 pc2 rk2 k) (aw P tW) m1 G
noncomputable def vj(pc rg pc1 rg1 pc2:PC)(rk2:List Nat→RK)(k:Nat)(m1:List (List D)):(D→List MapEntry→Nat→D→Option D):=fun g2_0 es12 mc12 e1_14=>labA (Xv pc rg pc1 rg1 pc2 rk2 k m1) Tr.nil (Tr.set (Tr.set (Tr.set (Tr.set Tr.nil 1000001 (some (Bx.env [(2,(AV.loc 2 0)),(5,(AV.loc 5 0)),(14,(AV.d e1_14))]))) 12 (some (Bx.map es12 mc12 false))) 5 (some (Bx.box [(AV.mp 12)]))) 2 (some (Bx.dat [g2_0] false)))
noncomputable def T89_1(pc rg pc1 rg1 pc2:PC)(rk2:List Nat→RK)(k:Nat):=fun(u14:D) (g2_0:D) (es12:List MapEntry) (mc12:Nat)=>labA (fun A G=>getK (opdA (rX (cL (cR (cL (cR (cR cK)))))) A) fun a=>(gw P rg pc1 (gw P rg1 pc2 rk2 (k+1)) (k+1) []) (LvA.a (LvA.b (LvA.a (LvA.b (LvA.b (LA 89)))))) 89 a (rPs (cL (cR (cL (cR (cR cK)))))) (cL (cL (cR (cL (cR (cR cK)))))) (cR (cL (cR (cL (cR (cR cK)))))) (Yz pc rg pc1 rg1 pc2 rk2 k) (Cq pc rg pc1 rg1 pc2 rk2 k) (aw P tW) A G) (Tr.set (Tr.set (Tr.set Tr.nil 14 (some (AV.d u14))) 5 (some (AV.loc 5 0))) 2 (some (AV.loc 2 0))) (Tr.set (Tr.set (Tr.set Tr.nil 12 (some (Bx.map es12 mc12 false))) 5 (some (Bx.box [(AV.mp 12)]))) 2 (some (Bx.dat [g2_0] false)))
noncomputable def BN89_5(pc rg pc1 rg1 pc2:PC)(k:Nat)(m1:List (List D))(m2:Nat)(b2:(D→List MapEntry→Nat→D→Option D))(b3:(D→D→D→D→D→D→List MapEntry→Nat→D→Option D))(g2_0:D)(g6_0:D)(g7_0:D)(g10_0:D)(es12:List MapEntry)(mc12:Nat)(e1_14:D)(e5_8:D)(e5_9:D)(e5_21:D)(e5_22:D)(e5_23:D)(e5_32:D):Option D:=
chkK (bk g6_0) (
chkK (bk e5_8) (
bindO (binD P BinOp.add 3 (Operand.tmp 51) (Operand.tmp 52) e5_9 g10_0) fun d_b=>
bindO (updD P 147 es12 mc12 (D.agg [g6_0,e5_8]) d_b) fun r_c=>
bindO (binD P BinOp.add 3 (Operand.tmp 23) (Operand.const (Value.int IntKind.i64 1)) e5_23 (D.v (Value.int IntKind.i64 1))) fun d_d=>
b3 e5_21 e5_22 d_d g2_0 g6_0 g7_0 r_c.1 r_c.2 e1_14))
noncomputable def Rk(pc rg pc1 rg1 pc2:PC)(k:Nat)(m1:List (List D))(m2:Nat)(b2:(D→List MapEntry→Nat→D→Option D))(b3:(D→D→D→D→D→D→List MapEntry→Nat→D→Option D))(g2_0:D)(g6_0:D)(g7_0:D)(g10_0:D)(es12:List MapEntry)(mc12:Nat)(e1_14:D)(e5_8:D)(e5_9:D)(e5_21:D)(e5_22:D)(e5_23:D)(e5_32:D):Option D:=BN89_5 pc rg pc1 rg1 pc2 k m1 m2 b2 b3 g2_0 g6_0 g7_0 g10_0 es12 mc12 e1_14 e5_8 e5_9 e5_21 e5_22 e5_23 e5_32
noncomputable def B89_5(pc rg pc1 rg1 pc2:PC)(k:Nat)(m1:List (List D))(m2:Nat)(m3:List (List D))(b2:(D→List MapEntry→Nat→D→Option D))(b3:(D→D→D→D→D→D→List MapEntry→Nat→D→Option D))(b5:(D→D→D→D→List MapEntry→Nat→D→D→D→D→D→D→D→Option D))(y:List D)(g2_0:D)(g6_0:D)(g7_0:D)(g10_0:D)(es12:List MapEntry)(mc12:Nat)(e1_14:D)(e5_8:D)(e5_9:D)(e5_21:D)(e5_22:D)(e5_23:D)(e5_32:D):Option D:=
par1 y (fun z5_0=>
bindO (pcD P pc2 94 [g7_0,z5_0]) fun d_e=>
bindO (semD P d_e (Op.unary UnOp.not)) fun d_f=>
ifU d_f (
bindO (binD P BinOp.add 3 (Operand.tmp 40) (Operand.const (Value.int IntKind.i64 1)) g6_0 (D.v (Value.int IntKind.i64 1))) fun d_g=>
chkK (bk d_g) (
chkK (bk z5_0) (
bindO (PJ P 147 es12 (D.agg [d_g,z5_0]) false) fun d_h=>
chkK (bk d_h) (
bindO (pcD P pc2 100 [g10_0,(D.sl [d_h])]) fun d_i=>
chkK (bk d_i) (
b5 g2_0 g6_0 g7_0 d_i es12 mc12 e1_14 e5_8 e5_9 e5_21 e5_22 e5_23 e5_32))))) (
b5 g2_0 g6_0 g7_0 g10_0 es12 mc12 e1_14 e5_8 e5_9 e5_21 e5_22 e5_23 e5_32))
noncomputable def C89_5(pc rg pc1 rg1 pc2:PC)(k:Nat)(m1:List (List D)):=B89_5 pc rg pc1 rg1 pc2 k m1
noncomputable def Xw(pc rg pc1 rg1 pc2:PC)(k:Nat)(m1:List (List D))(m2:Nat)(b2:(D→List MapEntry→Nat→D→Option D))(b3:(D→D→D→D→D→D→List MapEntry→Nat→D→Option D)):List (List D)→(D→D→D→D→List MapEntry→Nat→D→D→D→D→D→D→D→Option D):=fun ys=>List.rec (motive:=fun _=>(D→D→D→D→List MapEntry→Nat→D→D→D→D→D→D→D→Option D)) (Rk pc rg pc1 rg1 pc2 k m1 m2 b2 b3) (fun y ys ih=>C89_5 pc rg pc1 rg1 pc2 k m1 m2 ys b2 b3 ih y) ys
theorem hN89_5(pc rg pc1 rg1 pc2:PC)(rk2:List Nat→RK)(k:Nat)(m1:List (List D))(m2:Nat)(g2_0:D)(g6_0:D)(g7_0:D)(g10_0:D)(es12:List MapEntry)(mc12:Nat)(e1_14:D)(e5_8:D)(e5_9:D)(e5_21:D)(e5_22:D)(e5_23:D)(e5_32:D):labA (Xq pc rg pc1 rg1 pc2 rk2 k m1 m2 []) Tr.nil (Tr.set (Tr.set (Tr.set (Tr.set (Tr.set (Tr.set (Tr.set (Tr.set Tr.nil 1000005 (some (Bx.env [(2,(AV.loc 2 0)),(5,(AV.loc 5 0)),(6,(AV.loc 6 0)),(7,(AV.loc 7 0)),(8,(AV.d e5_8)),(9,(AV.d e5_9)),(10,(AV.loc 10 0)),(21,(AV.d e5_21)),(22,(AV.d e5_22)),(23,(AV.d e5_23)),(32,(AV.d e5_32))]))) 1000001 (some (Bx.env [(2,(AV.loc 2 0)),(5,(AV.loc 5 0)),(14,(AV.d e1_14))]))) 12 (some (Bx.map es12 mc12 false))) 10 (some (Bx.dat [g10_0] false))) 7 (some (Bx.dat [g7_0] false))) 6 (some (Bx.dat [g6_0] false))) 5 (some (Bx.box [(AV.mp 12)]))) 2 (some (Bx.dat [g2_0] false)))=Rk pc rg pc1 rg1 pc2 k m1 m2 (vj pc rg pc1 rg1 pc2 rk2 k m1) (EY pc rg pc1 rg1 pc2 rk2 k m1 m2) g2_0 g6_0 g7_0 g10_0 es12 mc12 e1_14 e5_8 e5_9 e5_21 e5_22 e5_23 e5_32:=by
 have h:labA (Xq pc rg pc1 rg1 pc2 rk2 k m1 m2 []) Tr.nil (Tr.set (Tr.set (Tr.set (Tr.set (Tr.set (Tr.set (Tr.set (Tr.set Tr.nil 1000005 (some (Bx.env [(2,(AV.loc 2 0)),(5,(AV.loc 5 0)),(6,(AV.loc 6 0)),(7,(AV.loc 7 0)),(8,(AV.d e5_8)),(9,(AV.d e5_9)),(10,(AV.loc 10 0)),(21,(AV.d e5_21)),(22,(AV.d e5_22)),(23,(AV.d e5_23)),(32,(AV.d e5_32))]))) 1000001 (some (Bx.env [(2,(AV.loc 2 0)),(5,(AV.loc 5 0)),(14,(AV.d e1_14))]))) 12 (some (Bx.map es12 mc12 false))) 10 (some (Bx.dat [g10_0] false))) 7 (some (Bx.dat [g7_0] false))) 6 (some (Bx.dat [g6_0] false))) 5 (some (Bx.box [(AV.mp 12)]))) 2 (some (Bx.dat [g2_0] false)))=BN89_5 pc rg pc1 rg1 pc2 k m1 m2 (vj pc rg pc1 rg1 pc2 rk2 k m1) (EY pc rg pc1 rg1 pc2 rk2 k m1 m2) g2_0 g6_0 g7_0 g10_0 es12 mc12 e1_14 e5_8 e5_9 e5_21 e5_22 e5_23 e5_32:=by kernel_rfl
 rw[h,Rk]
theorem h89_5(pc rg pc1 rg1 pc2:PC)(rk2:List Nat→RK)(k:Nat)(m1:List (List D))(m2:Nat)(m3:List (List D))(y:List D)(g2_0:D)(g6_0:D)(g7_0:D)(g10_0:D)(es12:List MapEntry)(mc12:Nat)(e1_14:D)(e5_8:D)(e5_9:D)(e5_21:D)(e5_22:D)(e5_23:D)(e5_32:D):labA (Xq pc rg pc1 rg1 pc2 rk2 k m1 m2 (y::m3)) Tr.nil (Tr.set (Tr.set (Tr.set (Tr.set (Tr.set (Tr.set (Tr.set (Tr.set Tr.nil 1000005 (some (Bx.env [(2,(AV.loc 2 0)),(5,(AV.loc 5 0)),(6,(AV.loc 6 0)),(7,(AV.loc 7 0)),(8,(AV.d e5_8)),(9,(AV.d e5_9)),(10,(AV.loc 10 0)),(21,(AV.d e5_21)),(22,(AV.d e5_22)),(23,(AV.d e5_23)),(32,(AV.d e5_32))]))) 1000001 (some (Bx.env [(2,(AV.loc 2 0)),(5,(AV.loc 5 0)),(14,(AV.d e1_14))]))) 12 (some (Bx.map es12 mc12 false))) 10 (some (Bx.dat [g10_0] false))) 7 (some (Bx.dat [g7_0] false))) 6 (some (Bx.dat [g6_0] false))) 5 (some (Bx.box [(AV.mp 12)]))) 2 (some (Bx.dat [g2_0] false)))=C89_5 pc rg pc1 rg1 pc2 k m1 m2 m3 (vj pc rg pc1 rg1 pc2 rk2 k m1) (EY pc rg pc1 rg1 pc2 rk2 k m1 m2) (R89_5 pc rg pc1 rg1 pc2 rk2 k m1 m2 m3) y g2_0 g6_0 g7_0 g10_0 es12 mc12 e1_14 e5_8 e5_9 e5_21 e5_22 e5_23 e5_32:=by kernel_rfl
theorem q89_5(pc rg pc1 rg1 pc2:PC)(rk2:List Nat→RK)(k:Nat)(m1:List (List D))(m2:Nat):∀(ys:List (List D)) (g2_0:D) (g6_0:D) (g7_0:D) (g10_0:D) (es12:List MapEntry) (mc12:Nat) (e1_14:D) (e5_8:D) (e5_9:D) (e5_21:D) (e5_22:D) (e5_23:D) (e5_32:D),labA (Xq pc rg pc1 rg1 pc2 rk2 k m1 m2 ys) Tr.nil (Tr.set (Tr.set (Tr.set (Tr.set (Tr.set (Tr.set (Tr.set (Tr.set Tr.nil 1000005 (some (Bx.env [(2,(AV.loc 2 0)),(5,(AV.loc 5 0)),(6,(AV.loc 6 0)),(7,(AV.loc 7 0)),(8,(AV.d e5_8)),(9,(AV.d e5_9)),(10,(AV.loc 10 0)),(21,(AV.d e5_21)),(22,(AV.d e5_22)),(23,(AV.d e5_23)),(32,(AV.d e5_32))]))) 1000001 (some (Bx.env [(2,(AV.loc 2 0)),(5,(AV.loc 5 0)),(14,(AV.d e1_14))]))) 12 (some (Bx.map es12 mc12 false))) 10 (some (Bx.dat [g10_0] false))) 7 (some (Bx.dat [g7_0] false))) 6 (some (Bx.dat [g6_0] false))) 5 (some (Bx.box [(AV.mp 12)]))) 2 (some (Bx.dat [g2_0] false)))=Xw pc rg pc1 rg1 pc2 k m1 m2 (vj pc rg pc1 rg1 pc2 rk2 k m1) (EY pc rg pc1 rg1 pc2 rk2 k m1 m2) ys g2_0 g6_0 g7_0 g10_0 es12 mc12 e1_14 e5_8 e5_9 e5_21 e5_22 e5_23 e5_32
 | [],g2_0,g6_0,g7_0,g10_0,es12,mc12,e1_14,e5_8,e5_9,e5_21,e5_22,e5_23,e5_32=>by
  rw[hN89_5]; rfl
 | y::ys,g2_0,g6_0,g7_0,g10_0,es12,mc12,e1_14,e5_8,e5_9,e5_21,e5_22,e5_23,e5_32=>by
  rw[h89_5]
  have e:R89_5 pc rg pc1 rg1 pc2 rk2 k m1 m2 ys=Xw pc rg pc1 rg1 pc2 k m1 m2 (vj pc rg pc1 rg1 pc2 rk2 k m1) (EY pc rg pc1 rg1 pc2 rk2 k m1 m2) ys:=by
   funext g2_0 g6_0 g7_0 g10_0 es12 mc12 e1_14 e5_8 e5_9 e5_21 e5_22 e5_23 e5_32
   have e:R89_5 pc rg pc1 rg1 pc2 rk2 k m1 m2 ys g2_0 g6_0 g7_0 g10_0 es12 mc12 e1_14 e5_8 e5_9 e5_21 e5_22 e5_23 e5_32=labA (Xq pc rg pc1 rg1 pc2 rk2 k m1 m2 ys) Tr.nil (Tr.set (Tr.set (Tr.set (Tr.set (Tr.set (Tr.set (Tr.set (Tr.set Tr.nil 1000005 (some (Bx.env [(2,(AV.loc 2 0)),(5,(AV.loc 5 0)),(6,(AV.loc 6 0)),(7,(AV.loc 7 0)),(8,(AV.d e5_8)),(9,(AV.d e5_9)),(10,(AV.loc 10 0)),(21,(AV.d e5_21)),(22,(AV.d e5_22)),(23,(AV.d e5_23)),(32,(AV.d e5_32))]))) 1000001 (some (Bx.env [(2,(AV.loc 2 0)),(5,(AV.loc 5 0)),(14,(AV.d e1_14))]))) 12 (some (Bx.map es12 mc12 false))) 10 (some (Bx.dat [g10_0] false))) 7 (some (Bx.dat [g7_0] false))) 6 (some (Bx.dat [g6_0] false))) 5 (some (Bx.box [(AV.mp 12)]))) 2 (some (Bx.dat [g2_0] false))):=rfl
   rw[e]; exact q89_5 ..
  rw[e]; rfl
noncomputable def B89_4(pc rg pc1 rg1 pc2:PC)(k:Nat)(m1:List (List D))(m2:Nat)(j5:(List (List D)→(D→D→D→D→List MapEntry→Nat→D→D→D→D→D→D→D→Option D)))(b2:(D→List MapEntry→Nat→D→Option D))(b3:(D→D→D→D→D→D→List MapEntry→Nat→D→Option D))(u8:D)(u9:D)(u21:D)(u22:D)(u23:D)(u32:D)(g2_0:D)(g6_0:D)(g7_0:D)(g10_0:D)(es12:List MapEntry)(mc12:Nat)(e1_14:D):Option D:=
fnK u32 fun g a b=>
chkK (AK P g && !memN ((cX (cR (cL (cR (cL (cR (cR cK)))))))::[]) (cX (cR (cL (cR (cL (cR (cR (cL (cL (cR (cR (cL (cL (cR (cL (cR (cL (cR (cL (cR (cR cK)))))))))))))))))))))) (
Yj (fun l=>rg1 g (a++D.yld l::b)) fun ys=>
j5 ys g2_0 g6_0 g7_0 g10_0 es12 mc12 e1_14 u8 u9 u21 u22 u23 u32)
noncomputable def C89_4(pc rg pc1 rg1 pc2:PC)(k:Nat)(m1:List (List D))(m2:Nat)(b2:(D→List MapEntry→Nat→D→Option D))(b3:(D→D→D→D→D→D→List MapEntry→Nat→D→Option D)):=B89_4 pc rg pc1 rg1 pc2 k m1 m2 (Xw pc rg pc1 rg1 pc2 k m1 m2 b2 b3) b2 b3
theorem h89_4(pc rg pc1 rg1 pc2:PC)(rk2:List Nat→RK)(k:Nat)(m1:List (List D))(m2:Nat)(u8:D)(u9:D)(u21:D)(u22:D)(u23:D)(u32:D)(g2_0:D)(g6_0:D)(g7_0:D)(g10_0:D)(es12:List MapEntry)(mc12:Nat)(e1_14:D):T89_4 pc rg pc1 rg1 pc2 rk2 k m1 m2 u8 u9 u21 u22 u23 u32 g2_0 g6_0 g7_0 g10_0 es12 mc12 e1_14=C89_4 pc rg pc1 rg1 pc2 k m1 m2 (vj pc rg pc1 rg1 pc2 rk2 k m1) (EY pc rg pc1 rg1 pc2 rk2 k m1 m2) u8 u9 u21 u22 u23 u32 g2_0 g6_0 g7_0 g10_0 es12 mc12 e1_14:=by
 have h:T89_4 pc rg pc1 rg1 pc2 rk2 k m1 m2 u8 u9 u21 u22 u23 u32 g2_0 g6_0 g7_0 g10_0 es12 mc12 e1_14=B89_4 pc rg pc1 rg1 pc2 k m1 m2 (fun ys_ g2_0 g6_0 g7_0 g10_0 es12 mc12 e1_14 e5_8 e5_9 e5_21 e5_22 e5_23 e5_32=>labA (Xq pc rg pc1 rg1 pc2 rk2 k m1 m2 ys_) Tr.nil (Tr.set (Tr.set (Tr.set (Tr.set (Tr.set (Tr.set (Tr.set (Tr.set Tr.nil 1000005 (some (Bx.env [(2,(AV.loc 2 0)),(5,(AV.loc 5 0)),(6,(AV.loc 6 0)),(7,(AV.loc 7 0)),(8,(AV.d e5_8)),(9,(AV.d e5_9)),(10,(AV.loc 10 0)),(21,(AV.d e5_21)),(22,(AV.d e5_22)),(23,(AV.d e5_23)),(32,(AV.d e5_32))]))) 1000001 (some (Bx.env [(2,(AV.loc 2 0)),(5,(AV.loc 5 0)),(14,(AV.d e1_14))]))) 12 (some (Bx.map es12 mc12 false))) 10 (some (Bx.dat [g10_0] false))) 7 (some (Bx.dat [g7_0] false))) 6 (some (Bx.dat [g6_0] false))) 5 (some (Bx.box [(AV.mp 12)]))) 2 (some (Bx.dat [g2_0] false)))) (vj pc rg pc1 rg1 pc2 rk2 k m1) (EY pc rg pc1 rg1 pc2 rk2 k m1 m2) u8 u9 u21 u22 u23 u32 g2_0 g6_0 g7_0 g10_0 es12 mc12 e1_14:=by kernel_rfl
 rw[h,C89_4]
 have e5:(fun ys_ g2_0 g6_0 g7_0 g10_0 es12 mc12 e1_14 e5_8 e5_9 e5_21 e5_22 e5_23 e5_32=>labA (Xq pc rg pc1 rg1 pc2 rk2 k m1 m2 ys_) Tr.nil (Tr.set (Tr.set (Tr.set (Tr.set (Tr.set (Tr.set (Tr.set (Tr.set Tr.nil 1000005 (some (Bx.env [(2,(AV.loc 2 0)),(5,(AV.loc 5 0)),(6,(AV.loc 6 0)),(7,(AV.loc 7 0)),(8,(AV.d e5_8)),(9,(AV.d e5_9)),(10,(AV.loc 10 0)),(21,(AV.d e5_21)),(22,(AV.d e5_22)),(23,(AV.d e5_23)),(32,(AV.d e5_32))]))) 1000001 (some (Bx.env [(2,(AV.loc 2 0)),(5,(AV.loc 5 0)),(14,(AV.d e1_14))]))) 12 (some (Bx.map es12 mc12 false))) 10 (some (Bx.dat [g10_0] false))) 7 (some (Bx.dat [g7_0] false))) 6 (some (Bx.dat [g6_0] false))) 5 (some (Bx.box [(AV.mp 12)]))) 2 (some (Bx.dat [g2_0] false))))=(Xw pc rg pc1 rg1 pc2 k m1 m2 (vj pc rg pc1 rg1 pc2 rk2 k m1) (EY pc rg pc1 rg1 pc2 rk2 k m1 m2)):=by funext ys_ g2_0 g6_0 g7_0 g10_0 es12 mc12 e1_14 e5_8 e5_9 e5_21 e5_22 e5_23 e5_32; exact q89_5 ..
 rw[e5]
theorem f89_4(pc rg pc1 rg1 pc2:PC)(rk2:List Nat→RK)(k:Nat)(m1:List (List D))(m2:Nat):T89_4 pc rg pc1 rg1 pc2 rk2 k m1 m2=C89_4 pc rg pc1 rg1 pc2 k m1 m2 (vj pc rg pc1 rg1 pc2 rk2 k m1) (EY pc rg pc1 rg1 pc2 rk2 k m1 m2):=by funext u8 u9 u21 u22 u23 u32 g2_0 g6_0 g7_0 g10_0 es12 mc12 e1_14; exact h89_4 ..
noncomputable def B89_3(pc rg pc1 rg1 pc2:PC)(k:Nat)(m1:List (List D))(m2:Nat)(j4:(D→D→D→D→D→D→D→D→D→D→List MapEntry→Nat→D→Option D))(b2:(D→List MapEntry→Nat→D→Option D))(b3:(D→D→D→D→D→D→List MapEntry→Nat→D→Option D))(u21:D)(u22:D)(u23:D)(g2_0:D)(g6_0:D)(g7_0:D)(es12:List MapEntry)(mc12:Nat)(e1_14:D):Option D:=
bindO (binD P BinOp.lss 3 (Operand.tmp 23) (Operand.tmp 22) u23 u22) fun d_5=>
ifU d_5 (
bindO (elsD u21) fun l_6=>
bindO (idxD u23 l_6.length) fun i_7=>
bindO (l_6[i_7]?) fun d_8=>
chkK (bk d_8) (
chkK (bk u23) (
bindO (pcD P pc1 83 [(D.sl [u23])]) fun d_9=>
bindO (pcD P pc1 104 [g2_0,d_9]) fun d_a=>
j4 u23 d_8 u21 u22 u23 d_a g2_0 g6_0 g7_0 (D.v (Value.int IntKind.i64 0)) es12 mc12 e1_14))) (
b2 g2_0 es12 mc12 e1_14)
noncomputable def C89_3(pc rg pc1 rg1 pc2:PC)(k:Nat)(m1:List (List D))(m2:Nat)(b2:(D→List MapEntry→Nat→D→Option D))(b3:(D→D→D→D→D→D→List MapEntry→Nat→D→Option D)):=B89_3 pc rg pc1 rg1 pc2 k m1 m2 (C89_4 pc rg pc1 rg1 pc2 k m1 m2 b2 b3) b2 b3
noncomputable def S89_3(pc rg pc1 rg1 pc2:PC)(k:Nat)(m1:List (List D))(b2:(D→List MapEntry→Nat→D→Option D)):Nat→(D→D→D→D→D→D→List MapEntry→Nat→D→Option D):=fun m=>Nat.rec (motive:=fun _=>(D→D→D→D→D→D→List MapEntry→Nat→D→Option D)) (C89_3 pc rg pc1 rg1 pc2 k m1 0 b2 (fun _ _ _ _ _ _ _ _ _=>none)) (fun m ih=>C89_3 pc rg pc1 rg1 pc2 k m1 (m+1) b2 ih) m
theorem h89_3(pc rg pc1 rg1 pc2:PC)(rk2:List Nat→RK)(k:Nat)(m1:List (List D))(m2:Nat):T89_3 pc rg pc1 rg1 pc2 rk2 k m1 m2=C89_3 pc rg pc1 rg1 pc2 k m1 m2 (vj pc rg pc1 rg1 pc2 rk2 k m1) (EY pc rg pc1 rg1 pc2 rk2 k m1 m2):=Eq.trans (b:=B89_3 pc rg pc1 rg1 pc2 k m1 m2 (T89_4 pc rg pc1 rg1 pc2 rk2 k m1 m2) (vj pc rg pc1 rg1 pc2 rk2 k m1) (EY pc rg pc1 rg1 pc2 rk2 k m1 m2)) (by kernel_rfl) (by rw[f89_4]; rfl)
theorem q89_3(pc rg pc1 rg1 pc2:PC)(rk2:List Nat→RK)(k:Nat)(m1:List (List D))(m:Nat):T89_3 pc rg pc1 rg1 pc2 rk2 k m1 m=S89_3 pc rg pc1 rg1 pc2 k m1 (vj pc rg pc1 rg1 pc2 rk2 k m1) m:=recS (h89_3 pc rg pc1 rg1 pc2 rk2 k m1) (by kernel_rfl) (fun m=>by kernel_rfl) m
noncomputable def BN89_2(pc rg pc1 rg1 pc2:PC)(k:Nat)(g2_0:D)(es12:List MapEntry)(mc12:Nat)(e1_14:D):Option D:=
some (D.map es12 mc12)
noncomputable def CN89_2(pc rg pc1 rg1 pc2:PC)(k:Nat)(g2_0:D)(es12:List MapEntry)(mc12:Nat)(e1_14:D):Option D:=BN89_2 pc rg pc1 rg1 pc2 k g2_0 es12 mc12 e1_14
noncomputable def B89_2(pc rg pc1 rg1 pc2:PC)(k:Nat)(m1:List (List D))(j3:(D→D→D→D→D→D→List MapEntry→Nat→D→Option D))(b2:(D→List MapEntry→Nat→D→Option D))(y:List D)(g2_0:D)(es12:List MapEntry)(mc12:Nat)(e1_14:D):Option D:=
par2 y (fun z1_0 z1_1=>
chkK (bk z1_0) (
chkK (bk z1_1) (
nilA (AV.d g2_0) (
bindO (kY g2_0) fun c_2=>
bindO ((List.drop 4 c_2)[0]?) fun d_3=>
bindO (elsD d_3) fun l_4=>
j3 d_3 (lenD l_4) (D.v (Value.int IntKind.i64 0)) g2_0 z1_0 z1_1 es12 mc12 e1_14))))
noncomputable def C89_2(pc rg pc1 rg1 pc2:PC)(k:Nat)(m1:List (List D))(b2:(D→List MapEntry→Nat→D→Option D)):=B89_2 pc rg pc1 rg1 pc2 k m1 (S89_3 pc rg pc1 rg1 pc2 k m1 b2 k) b2
noncomputable def Xx(pc rg pc1 rg1 pc2:PC)(k:Nat):List (List D)→(D→List MapEntry→Nat→D→Option D):=fun ys=>List.rec (motive:=fun _=>(D→List MapEntry→Nat→D→Option D)) (CN89_2 pc rg pc1 rg1 pc2 k) (fun y ys ih=>C89_2 pc rg pc1 rg1 pc2 k ys ih y) ys
theorem hN89_2(pc rg pc1 rg1 pc2:PC)(rk2:List Nat→RK)(k:Nat)(g2_0:D)(es12:List MapEntry)(mc12:Nat)(e1_14:D):labA (Xv pc rg pc1 rg1 pc2 rk2 k []) Tr.nil (Tr.set (Tr.set (Tr.set (Tr.set Tr.nil 1000001 (some (Bx.env [(2,(AV.loc 2 0)),(5,(AV.loc 5 0)),(14,(AV.d e1_14))]))) 12 (some (Bx.map es12 mc12 false))) 5 (some (Bx.box [(AV.mp 12)]))) 2 (some (Bx.dat [g2_0] false)))=CN89_2 pc rg pc1 rg1 pc2 k g2_0 es12 mc12 e1_14:=by
 have h:labA (Xv pc rg pc1 rg1 pc2 rk2 k []) Tr.nil (Tr.set (Tr.set (Tr.set (Tr.set Tr.nil 1000001 (some (Bx.env [(2,(AV.loc 2 0)),(5,(AV.loc 5 0)),(14,(AV.d e1_14))]))) 12 (some (Bx.map es12 mc12 false))) 5 (some (Bx.box [(AV.mp 12)]))) 2 (some (Bx.dat [g2_0] false)))=BN89_2 pc rg pc1 rg1 pc2 k g2_0 es12 mc12 e1_14:=by kernel_rfl
 rw[h,CN89_2]
theorem h89_2(pc rg pc1 rg1 pc2:PC)(rk2:List Nat→RK)(k:Nat)(m1:List (List D))(y:List D)(g2_0:D)(es12:List MapEntry)(mc12:Nat)(e1_14:D):labA (Xv pc rg pc1 rg1 pc2 rk2 k (y::m1)) Tr.nil (Tr.set (Tr.set (Tr.set (Tr.set Tr.nil 1000001 (some (Bx.env [(2,(AV.loc 2 0)),(5,(AV.loc 5 0)),(14,(AV.d e1_14))]))) 12 (some (Bx.map es12 mc12 false))) 5 (some (Bx.box [(AV.mp 12)]))) 2 (some (Bx.dat [g2_0] false)))=C89_2 pc rg pc1 rg1 pc2 k m1 (vj pc rg pc1 rg1 pc2 rk2 k m1) y g2_0 es12 mc12 e1_14:=Eq.trans (b:=B89_2 pc rg pc1 rg1 pc2 k m1 (T89_3 pc rg pc1 rg1 pc2 rk2 k m1 k) (vj pc rg pc1 rg1 pc2 rk2 k m1) y g2_0 es12 mc12 e1_14) (by kernel_rfl) (by rw[q89_3]; rfl)
theorem q89_2(pc rg pc1 rg1 pc2:PC)(rk2:List Nat→RK)(k:Nat):∀(ys:List (List D)) (g2_0:D) (es12:List MapEntry) (mc12:Nat) (e1_14:D),labA (Xv pc rg pc1 rg1 pc2 rk2 k ys) Tr.nil (Tr.set (Tr.set (Tr.set (Tr.set Tr.nil 1000001 (some (Bx.env [(2,(AV.loc 2 0)),(5,(AV.loc 5 0)),(14,(AV.d e1_14))]))) 12 (some (Bx.map es12 mc12 false))) 5 (some (Bx.box [(AV.mp 12)]))) 2 (some (Bx.dat [g2_0] false)))=Xx pc rg pc1 rg1 pc2 k ys g2_0 es12 mc12 e1_14
 | [],g2_0,es12,mc12,e1_14=>by
  rw[hN89_2]; rfl
 | y::ys,g2_0,es12,mc12,e1_14=>by
  rw[h89_2]
  have e:vj pc rg pc1 rg1 pc2 rk2 k ys=Xx pc rg pc1 rg1 pc2 k ys:=by
   funext g2_0 es12 mc12 e1_14
   have e:vj pc rg pc1 rg1 pc2 rk2 k ys g2_0 es12 mc12 e1_14=labA (Xv pc rg pc1 rg1 pc2 rk2 k ys) Tr.nil (Tr.set (Tr.set (Tr.set (Tr.set Tr.nil 1000001 (some (Bx.env [(2,(AV.loc 2 0)),(5,(AV.loc 5 0)),(14,(AV.d e1_14))]))) 12 (some (Bx.map es12 mc12 false))) 5 (some (Bx.box [(AV.mp 12)]))) 2 (some (Bx.dat [g2_0] false))):=rfl
   rw[e]; exact q89_2 ..
  rw[e]; rfl
noncomputable def B89_1(pc rg pc1 rg1 pc2:PC)(k:Nat)(j2:(List (List D)→(D→List MapEntry→Nat→D→Option D)))(u14:D)(g2_0:D)(es12:List MapEntry)(mc12:Nat):Option D:=
fnK u14 fun g a b=>
chkK (AK P g && !memN [] (cX (cR (cL (cR (cL (cR (cR cK)))))))) (
Yj (fun l=>rg g (a++D.yld l::b)) fun ys=>
j2 ys g2_0 es12 mc12 u14)
noncomputable def C89_1(pc rg pc1 rg1 pc2:PC)(k:Nat):=B89_1 pc rg pc1 rg1 pc2 k (Xx pc rg pc1 rg1 pc2 k)
theorem h89_1(pc rg pc1 rg1 pc2:PC)(rk2:List Nat→RK)(k:Nat)(u14:D)(g2_0:D)(es12:List MapEntry)(mc12:Nat):T89_1 pc rg pc1 rg1 pc2 rk2 k u14 g2_0 es12 mc12=C89_1 pc rg pc1 rg1 pc2 k u14 g2_0 es12 mc12:=by
 have h:T89_1 pc rg pc1 rg1 pc2 rk2 k u14 g2_0 es12 mc12=B89_1 pc rg pc1 rg1 pc2 k (fun ys_ g2_0 es12 mc12 e1_14=>labA (Xv pc rg pc1 rg1 pc2 rk2 k ys_) Tr.nil (Tr.set (Tr.set (Tr.set (Tr.set Tr.nil 1000001 (some (Bx.env [(2,(AV.loc 2 0)),(5,(AV.loc 5 0)),(14,(AV.d e1_14))]))) 12 (some (Bx.map es12 mc12 false))) 5 (some (Bx.box [(AV.mp 12)]))) 2 (some (Bx.dat [g2_0] false)))) u14 g2_0 es12 mc12:=by kernel_rfl
 rw[h,C89_1]
 have e2:(fun ys_ g2_0 es12 mc12 e1_14=>labA (Xv pc rg pc1 rg1 pc2 rk2 k ys_) Tr.nil (Tr.set (Tr.set (Tr.set (Tr.set Tr.nil 1000001 (some (Bx.env [(2,(AV.loc 2 0)),(5,(AV.loc 5 0)),(14,(AV.d e1_14))]))) 12 (some (Bx.map es12 mc12 false))) 5 (some (Bx.box [(AV.mp 12)]))) 2 (some (Bx.dat [g2_0] false))))=(Xx pc rg pc1 rg1 pc2 k):=by funext ys_ g2_0 es12 mc12 e1_14; exact q89_2 ..
 rw[e2]
theorem f89_1(pc rg pc1 rg1 pc2:PC)(rk2:List Nat→RK)(k:Nat):T89_1 pc rg pc1 rg1 pc2 rk2 k=C89_1 pc rg pc1 rg1 pc2 k:=by funext u14 g2_0 es12 mc12; exact h89_1 ..
noncomputable def B89_0(pc rg pc1 rg1 pc2:PC)(k:Nat)(j1:(D→D→List MapEntry→Nat→Option D))(v0:D)(v1:D):Option D:=
chkK (bk v0) (
bindO (pcD P pc 106 [v1]) fun d_1=>
j1 d_1 v0 [] 0)
noncomputable def C89_0(pc rg pc1 rg1 pc2:PC)(k:Nat):=B89_0 pc rg pc1 rg1 pc2 k (C89_1 pc rg pc1 rg1 pc2 k)
theorem h89_0(pc rg pc1 rg1 pc2:PC)(rk2:List Nat→RK)(k:Nat)(v0:D)(v1:D):cQ P pc noY (gw P rg pc1 (gw P rg1 pc2 rk2 (k+1)) (k+1) []) LA (k+1) 89 [v0,v1]=C89_0 pc rg pc1 rg1 pc2 k v0 v1:=(bqA Go.Proofs.Tryz.f89 cK tW (by kernel_rfl)).trans (Eq.trans (b:=B89_0 pc rg pc1 rg1 pc2 k (T89_1 pc rg pc1 rg1 pc2 rk2 k) v0 v1) (by kernel_rfl) (by rw[f89_1]; rfl))
noncomputable def qv:Code:=ak 90
noncomputable def eY:List ResultVar:=bw 90
noncomputable def xX:KA:=(bK (LvA.b (LvA.b (LvA.b (LA 90)))).c (bx P pc noY rk (aq P pc noY rk 90 k) 90 (cR (cR (cR (cR qv)))) (LvA.b (LvA.b (LvA.b (LvA.b (LA 90))))) (aw P eY) X0A (aw P eY)))
noncomputable def kJ:(Nat→KA):=(upA 0 (xX pc rk k) X0A)
noncomputable def uy(m1:Nat):KA:=(bK (LvA.a (LvA.b (LvA.a (LvA.b (LvA.b (LvA.b (LA 90))))))).c (aq P pc noY rk 90 m1 (LvA.a (LvA.b (LvA.a (LvA.b (LvA.b (LvA.b (LA 90))))))) (cL (cR (cL (cR (cR (cR qv)))))) (xX pc rk k) (kJ pc rk k) (aw P eY)))
noncomputable def T90_3(m1:Nat):=fun(u0:D) (u1:D) (u5:D) (u6:D)=>labA (bx P pc noY rk (aq P pc noY rk 90 m1) 90 (cR (cR (cL (cL (cR (cL (cR (cR (cR qv))))))))) (LvA.b (LvA.b (LvA.a (LvA.a (LvA.b (LvA.a (LvA.b (LvA.b (LvA.b (LA 90)))))))))) (uy pc rk k m1) (kJ pc rk k) (aw P eY)) (Tr.set (Tr.set (Tr.set (Tr.set Tr.nil 6 (some (AV.d u6))) 5 (some (AV.d u5))) 1 (some (AV.d u1))) 0 (some (AV.d u0))) Tr.nil
noncomputable def T90_2(m1:Nat):=fun(u0:D) (u1:D) (u5:D) (u6:D)=>labA (bx P pc noY rk (aq P pc noY rk 90 m1) 90 (cL (cL (cR (cL (cR (cR (cR qv))))))) (LvA.a (LvA.a (LvA.b (LvA.a (LvA.b (LvA.b (LvA.b (LA 90)))))))) (uy pc rk k m1) (kJ pc rk k) (aw P eY)) (Tr.set (Tr.set (Tr.set (Tr.set Tr.nil 6 (some (AV.d u6))) 5 (some (AV.d u5))) 1 (some (AV.d u1))) 0 (some (AV.d u0))) Tr.nil
noncomputable def R90_2(m1:Nat):(D→D→D→D→Option D):=fun u0 u1 u5 u6=>labA (aq P pc noY rk 90 m1 (LvA.a (LvA.b (LvA.a (LvA.b (LvA.b (LvA.b (LA 90))))))) (cL (cR (cL (cR (cR (cR qv)))))) (xX pc rk k) (kJ pc rk k) (aw P eY)) (Tr.set (Tr.set (Tr.set (Tr.set Tr.nil 6 (some (AV.d u6))) 5 (some (AV.d u5))) 1 (some (AV.d u1))) 0 (some (AV.d u0))) Tr.nil
noncomputable def T90_1:=fun(u0:D) (u1:D)=>labA (bx P pc noY rk (aq P pc noY rk 90 k) 90 (cR (cR qv)) (LvA.b (LvA.b (LA 90))) (aw P eY) X0A (aw P eY)) (Tr.set (Tr.set Tr.nil 1 (some (AV.d u1))) 0 (some (AV.d u0))) Tr.nil
noncomputable def B90_3(pc:PC)(k:Nat)(m1:Nat)(b2:(D→D→D→D→Option D))(u0:D)(u1:D)(u5:D)(u6:D):Option D:=
bindO (binD P BinOp.add 3 (Operand.tmp 18) (Operand.const (Value.int IntKind.i64 1)) u6 (D.v (Value.int IntKind.i64 1))) fun d_g=>
b2 u0 u1 u5 d_g
noncomputable def C90_3(m1:Nat):=B90_3 pc k m1
theorem h90_3(m1:Nat):T90_3 pc rk k m1=C90_3 pc k m1 (R90_2 pc rk k m1):=by kernel_rfl
noncomputable def B90_2(pc:PC)(k:Nat)(m1:Nat)(j3:(D→D→D→D→Option D))(b2:(D→D→D→D→Option D))(u0:D)(u1:D)(u5:D)(u6:D):Option D:=
bindO (elsD u0) fun l_6=>
bindO (binD P BinOp.lss 3 (Operand.tmp 14) (Operand.tmp 16) u6 (lenD l_6)) fun d_7=>
ifU d_7 (
bindO (elsD u0) fun l_8=>
bindO (idxD u6 l_8.length) fun i_9=>
bindO (l_8[i_9]?) fun d_a=>
chkK (bk d_a) (
fnK u1 fun g a b=>
bindO (pcD P pc g (a++[d_a,u5]++b)) fun d_b=>
bindO (binD P BinOp.gtr 3 (Operand.tmp 26) (Operand.const (Value.int IntKind.i64 0)) d_b (D.v (Value.int IntKind.i64 0))) fun d_c=>
ifU d_c (
bindO (elsD u0) fun l_d=>
bindO (idxD u6 l_d.length) fun i_e=>
bindO (l_d[i_e]?) fun d_f=>
chkK (bk d_f) (
j3 u0 u1 d_f u6)) (
j3 u0 u1 u5 u6))) (
some u5)
noncomputable def Xy(m1:Nat)(b2:(D→D→D→D→Option D)):=B90_2 pc k m1 (C90_3 pc k m1 b2) b2
noncomputable def Xz:Nat→(D→D→D→D→Option D):=recF (Xy pc k) (fun _ _ _ _=>none)
theorem h90_2(m1:Nat):T90_2 pc rk k m1=Xy pc k m1 (R90_2 pc rk k m1):=Eq.trans (b:=B90_2 pc k m1 (T90_3 pc rk k m1) (R90_2 pc rk k m1)) (by kernel_rfl) (by rw[h90_3]; rfl)
theorem q90_2(m:Nat):T90_2 pc rk k m=Xz pc k m:=recS (h90_2 pc rk k) (by kernel_rfl) (fun m=>by kernel_rfl) m
noncomputable def B90_1(pc:PC)(k:Nat)(j2:(D→D→D→D→Option D))(u0:D)(u1:D):Option D:=
bindO (elsD u0) fun l_3=>
bindO (idxD (D.v (Value.int IntKind.i64 0)) l_3.length) fun i_4=>
bindO (l_3[i_4]?) fun d_5=>
chkK (bk d_5) (
j2 u0 u1 d_5 (D.v (Value.int IntKind.i64 1)))
noncomputable def C90_1:=B90_1 pc k (Xz pc k k)
theorem h90_1:T90_1 pc rk k=C90_1 pc k:=Eq.trans (b:=B90_1 pc k (T90_2 pc rk k k)) (by kernel_rfl) (by rw[q90_2]; rfl)
noncomputable def B90_0(pc:PC)(k:Nat)(j1:(D→D→Option D))(v0:D)(v1:D):Option D:=
bindO (elsD v0) fun l_1=>
bindO (binD P BinOp.lss 3 (Operand.tmp 8) (Operand.const (Value.int IntKind.i64 1)) (lenD l_1) (D.v (Value.int IntKind.i64 1))) fun d_2=>
ifU d_2 (
none) (
j1 v0 v1)
noncomputable def C90_0:=B90_0 pc k (C90_1 pc k)
theorem h90_0(v0:D)(v1:D):cQ P pc noY rk LA (k+1) 90 [v0,v1]=C90_0 pc k v0 v1:=(bqA Go.Proofs.Tryz.f90 qv eY (by kernel_rfl)).trans (Eq.trans (b:=B90_0 pc k (T90_1 pc rk k) v0 v1) (by kernel_rfl) (by rw[h90_1]; rfl))
noncomputable def code91:Code:=ak 91
noncomputable def RJ:List ResultVar:=bw 91
noncomputable def B91_0(pc:PC)(k:Nat)(v0:D)(v1:D)(v2:D)(v3:D):Option D:=
bindO (kY v2) fun c_1=>
bindO (c_1[0]?) fun d_2=>
bindO (kY v3) fun c_3=>
bindO (c_3[0]?) fun d_4=>
chkK (bk d_4) (
chkK (bk v0) (
bindO (mapD d_2) fun es_5=>
bindO (PJ P 147 es_5 (D.agg [d_4,v0]) false) fun d_6=>
bindO (kY v2) fun c_7=>
bindO (c_7[0]?) fun d_8=>
bindO (kY v3) fun c_9=>
bindO (c_9[0]?) fun d_a=>
chkK (bk d_a) (
chkK (bk v1) (
bindO (mapD d_8) fun es_b=>
bindO (PJ P 147 es_b (D.agg [d_a,v1]) false) fun d_c=>
bindO (pcD P pc 92 [d_6,d_c]) fun d_d=>
some d_d))))
noncomputable def C91_0:=B91_0 pc k
theorem h91_0(v0:D)(v1:D)(v2:D)(v3:D):cQ P pc noY rk LA (k+1) 91 [v0,v1,v2,v3]=C91_0 pc k v0 v1 v2 v3:=(bqA Go.Proofs.Tryz.f91 code91 RJ (by kernel_rfl)).trans (by kernel_rfl)
noncomputable def code92:Code:=ak 92
noncomputable def RQ:List ResultVar:=bw 92
noncomputable def B92_0(pc:PC)(k:Nat)(v0:D)(v1:D):Option D:=
bindO (pcD P pc 107 [v0]) fun d_1=>
bindO (pcD P pc 107 [v1]) fun d_2=>
ifU d_1 (
ifU d_2 (
some (D.v (Value.int IntKind.i64 0))) (
some (D.v (Value.int IntKind.i64 (-1))))) (
ifU d_2 (
some (D.v (Value.int IntKind.i64 1))) (
bindO (binD P BinOp.lss 3 (Operand.tmp 14) (Operand.tmp 15) v0 v1) fun d_3=>
ifU d_3 (
some (D.v (Value.int IntKind.i64 (-1)))) (
bindO (binD P BinOp.gtr 3 (Operand.tmp 17) (Operand.tmp 18) v0 v1) fun d_4=>
ifU d_4 (
some (D.v (Value.int IntKind.i64 1))) (
some (D.v (Value.int IntKind.i64 0))))))
noncomputable def C92_0:=B92_0 pc k
theorem h92_0(v0:D)(v1:D):cQ P pc noY rk LA (k+1) 92 [v0,v1]=C92_0 pc k v0 v1:=(bqA Go.Proofs.Tryz.f92 code92 RQ (by kernel_rfl)).trans (by kernel_rfl)
noncomputable def code93:Code:=ak 93
noncomputable def RV:List ResultVar:=bw 93
noncomputable def B93_0(pc:PC)(k:Nat)(v0:D)(v1:D):Option D:=
bindO (aggD v0) fun c_1=>
bindO (binD P BinOp.geq 3 (Operand.tmp 5) (Operand.const (Value.int IntKind.i64 0)) v1 (D.v (Value.int IntKind.i64 0))) fun d_2=>
ifU d_2 (
bindO (c_1[0]?) fun d_3=>
bindO (elsD d_3) fun l_4=>
bindO (binD P BinOp.lss 3 (Operand.tmp 8) (Operand.tmp 12) v1 (lenD l_4)) fun d_5=>
some d_5) (
some (D.v (Value.bool false)))
noncomputable def C93_0:=B93_0 pc k
theorem h93_0(v0:D)(v1:D):cQ P pc noY rk LA (k+1) 93 [v0,v1]=C93_0 pc k v0 v1:=(bqA Go.Proofs.Tryz.f93 code93 RV (by kernel_rfl)).trans (by kernel_rfl)
noncomputable def code94:Code:=ak 94
noncomputable def RW:List ResultVar:=bw 94
noncomputable def B94_0(pc:PC)(k:Nat)(v0:D)(v1:D):Option D:=
chkK (bk v1) (
bindO (pcD P pc 83 [(D.sl [v1])]) fun d_1=>
bindO (pcD P pc 95 [v0,d_1]) fun d_2=>
some d_2)
noncomputable def C94_0:=B94_0 pc k
theorem h94_0(v0:D)(v1:D):cQ P pc noY rk LA (k+1) 94 [v0,v1]=C94_0 pc k v0 v1:=(bqA Go.Proofs.Tryz.f94 code94 RW (by kernel_rfl)).trans (by kernel_rfl)
noncomputable def code95:Code:=ak 95
noncomputable def RX:List ResultVar:=bw 95
noncomputable def B95_0(pc:PC)(k:Nat)(v0:D)(v1:D):Option D:=
bindO (binD P BinOp.and 106 (Operand.tmp 5) (Operand.tmp 6) v0 v1) fun d_1=>
bindO (binD P BinOp.neq 106 (Operand.tmp 7) (Operand.const (Value.int IntKind.u64 0)) d_1 (D.v (Value.int IntKind.u64 0))) fun d_2=>
some d_2
noncomputable def C95_0:=B95_0 pc k
theorem h95_0(v0:D)(v1:D):cQ P pc noY rk LA (k+1) 95 [v0,v1]=C95_0 pc k v0 v1:=(bqA Go.Proofs.Tryz.f95 code95 RX (by kernel_rfl)).trans (by kernel_rfl)
noncomputable def rQ:Code:=ak 100
noncomputable def gY:List ResultVar:=bw 100
noncomputable def Cv:KA:=(bK (LvA.b (LA 100)).c (bx P pc noY rk (aq P pc noY rk 100 k) 100 (cR (cR rQ)) (LvA.b (LvA.b (LA 100))) (aw P gY) X0A (aw P gY)))
noncomputable def qw:(Nat→KA):=(upA 0 (Cv pc rk k) X0A)
noncomputable def Lj(m1:Nat):KA:=(bK (LvA.a (LvA.b (LvA.a (LvA.b (LA 100))))).c (aq P pc noY rk 100 m1 (LvA.a (LvA.b (LvA.a (LvA.b (LA 100))))) (cL (cR (cL (cR rQ)))) (Cv pc rk k) (qw pc rk k) (aw P gY)))
noncomputable def Lq(m1:Nat):=fun(u0:D) (u7:D) (u8:D) (u9:D)=>labA (bx P pc noY rk (aq P pc noY rk 100 m1) 100 (cL (cL (cR (cL (cR rQ))))) (LvA.a (LvA.a (LvA.b (LvA.a (LvA.b (LA 100)))))) (Lj pc rk k m1) (qw pc rk k) (aw P gY)) (Tr.set (Tr.set (Tr.set (Tr.set Tr.nil 9 (some (AV.d u9))) 8 (some (AV.d u8))) 7 (some (AV.d u7))) 0 (some (AV.d u0))) Tr.nil
noncomputable def R100_1(m1:Nat):(D→D→D→D→Option D):=fun u0 u7 u8 u9=>labA (aq P pc noY rk 100 m1 (LvA.a (LvA.b (LvA.a (LvA.b (LA 100))))) (cL (cR (cL (cR rQ)))) (Cv pc rk k) (qw pc rk k) (aw P gY)) (Tr.set (Tr.set (Tr.set (Tr.set Tr.nil 9 (some (AV.d u9))) 8 (some (AV.d u8))) 7 (some (AV.d u7))) 0 (some (AV.d u0))) Tr.nil
noncomputable def B100_1(pc:PC)(k:Nat)(m1:Nat)(b1:(D→D→D→D→Option D))(u0:D)(u7:D)(u8:D)(u9:D):Option D:=
bindO (binD P BinOp.lss 3 (Operand.tmp 9) (Operand.tmp 8) u9 u8) fun d_2=>
ifU d_2 (
bindO (elsD u7) fun l_3=>
bindO (idxD u9 l_3.length) fun i_4=>
bindO (l_3[i_4]?) fun d_5=>
chkK (bk d_5) (
bindO (mmD P .max [3,3] (Call.mk (Callee.builtin Builtin.max) #[(Operand.tmp 13),(Operand.tmp 14)] #[3,3]) 3 [u0,d_5]) fun d_6=>
bindO (binD P BinOp.add 3 (Operand.tmp 9) (Operand.const (Value.int IntKind.i64 1)) u9 (D.v (Value.int IntKind.i64 1))) fun d_7=>
b1 d_6 u7 u8 d_7)) (
some u0)
noncomputable def EZ(m1:Nat):=B100_1 pc k m1
noncomputable def EK:Nat→(D→D→D→D→Option D):=recF (EZ pc k) (fun _ _ _ _=>none)
theorem h100_1(m1:Nat):Lq pc rk k m1=EZ pc k m1 (R100_1 pc rk k m1):=by kernel_rfl
theorem q100_1(m:Nat):Lq pc rk k m=EK pc k m:=recS (h100_1 pc rk k) (by kernel_rfl) (fun m=>by kernel_rfl) m
noncomputable def RY(pc:PC)(k:Nat)(j1:(D→D→D→D→Option D))(v0:D)(v1:D):Option D:=
bindO (elsD v1) fun l_1=>
j1 v0 v1 (lenD l_1) (D.v (Value.int IntKind.i64 0))
noncomputable def RZ:=RY pc k (EK pc k k)
theorem h100_0(v0:D)(v1:D):cQ P pc noY rk LA (k+1) 100 [v0,v1]=RZ pc k v0 v1:=(bqA Go.Proofs.Tryz.f100 rQ gY (by kernel_rfl)).trans (Eq.trans (b:=RY pc k (Lq pc rk k k) v0 v1) (by kernel_rfl) (by rw[q100_1]; rfl))
noncomputable def rV:Code:=ak 102
noncomputable def gZ:List ResultVar:=bw 102
noncomputable def vQ:KA:=(bK (LvA.b (LA 102)).c (bx P pc noY rk (aq P pc noY rk 102 k) 102 (cR (cR rV)) (LvA.b (LvA.b (LA 102))) (aw P gZ) X0A (aw P gZ)))
noncomputable def tX:(Nat→KA):=(upA 0 (vQ pc rk k) X0A)
noncomputable def T102_3:=fun(u25:D)=>labA (bx P pc noY rk (aq P pc noY rk 102 k) 102 (cR (cR (cR (cR (cR (cL (cL (cR rV)))))))) (LvA.b (LvA.b (LvA.b (LvA.b (LvA.b (LvA.a (LvA.a (LvA.b (LA 102))))))))) (vQ pc rk k) (tX pc rk k) (aw P gZ)) (Tr.set Tr.nil 25 (some (AV.d u25))) Tr.nil
noncomputable def T102_2:=fun(u16:D) (c1:List D)=>labA (bx P pc noY rk (aq P pc noY rk 102 k) 102 (cR (cR (cR (cL (cL (cR rV)))))) (LvA.b (LvA.b (LvA.b (LvA.a (LvA.a (LvA.b (LA 102))))))) (vQ pc rk k) (tX pc rk k) (aw P gZ)) (Tr.set (Tr.set Tr.nil 16 (some (AV.d u16))) 1 (some (AV.loc 1 0))) (Tr.set Tr.nil 1 (some (Bx.dat c1 false)))
noncomputable def T102_1:=fun(u3:D) (c1:List D)=>labA (bx P pc noY rk (aq P pc noY rk 102 k) 102 (cR (cL (cL (cR rV)))) (LvA.b (LvA.a (LvA.a (LvA.b (LA 102))))) (vQ pc rk k) (tX pc rk k) (aw P gZ)) (Tr.set (Tr.set Tr.nil 3 (some (AV.d u3))) 1 (some (AV.loc 1 0))) (Tr.set Tr.nil 1 (some (Bx.dat c1 false)))
noncomputable def B102_3(pc:PC)(k:Nat)(u25:D):Option D:=
ifU u25 (
some (D.v (Value.int IntKind.i64 1))) (
some (D.v (Value.int IntKind.i64 0)))
noncomputable def Sj:=B102_3 pc k
theorem h102_3:T102_3 pc rk k=Sj pc k:=by kernel_rfl
noncomputable def Sq(pc:PC)(k:Nat)(j3:(D→Option D))(u16:D)(c1:List D):Option D:=
ifU u16 (
some (D.v (Value.int IntKind.i64 1))) (
bindO (c1[0]?) fun d_8=>
bindO (pcD P pc 113 [d_8,(D.fn 114 [] [])]) fun d_9=>
bindO (semD P d_9 (Op.unary UnOp.not)) fun d_a=>
ifU d_a (
j3 d_a) (
bindO (c1[1]?) fun d_b=>
bindO (cutD c1 0 3) fun c_c=>
bindO (pcD P pc 115 [d_b,(D.fn 116 [(D.agg c_c)] [])]) fun d_d=>
bindO (semD P d_d (Op.unary UnOp.not)) fun d_e=>
ifU d_e (
j3 d_e) (
bindO (c1[2]?) fun d_f=>
bindO (pcD P pc 117 [d_f,(D.fn 118 [] [])]) fun d_g=>
bindO (semD P d_g (Op.unary UnOp.not)) fun d_h=>
j3 d_h)))
noncomputable def Sv:=Sq pc k (Sj pc k)
theorem h102_2:T102_2 pc rk k=Sv pc k:=Eq.trans (b:=Sq pc k (T102_3 pc rk k)) (by kernel_rfl) (by rw[h102_3]; rfl)
noncomputable def Sw(pc:PC)(k:Nat)(j2:(D→List D→Option D))(u3:D)(c1:List D):Option D:=
ifU u3 (
some (D.v (Value.int IntKind.i64 3))) (
bindO (c1[0]?) fun d_5=>
bindO (elsD d_5) fun l_6=>
bindO (binD P BinOp.eql 3 (Operand.tmp 19) (Operand.const (Value.int IntKind.i64 0)) (lenD l_6) (D.v (Value.int IntKind.i64 0))) fun d_7=>
ifU d_7 (
j2 d_7 c1) (
bindO (c1[2]?) fun d_i=>
bindO (elsD d_i) fun l_j=>
bindO (binD P BinOp.eql 3 (Operand.tmp 23) (Operand.const (Value.int IntKind.i64 0)) (lenD l_j) (D.v (Value.int IntKind.i64 0))) fun d_k=>
j2 d_k c1))
noncomputable def Sx:=Sw pc k (Sv pc k)
theorem h102_1:T102_1 pc rk k=Sx pc k:=Eq.trans (b:=Sw pc k (T102_2 pc rk k)) (by kernel_rfl) (by rw[h102_2]; rfl)
noncomputable def Sy(pc:PC)(k:Nat)(j1:(D→List D→Option D))(v0:D):Option D:=
bindO (aggD v0) fun c_1=>
bindO (c_1[0]?) fun d_2=>
bindO (elsD d_2) fun l_3=>
bindO (binD P BinOp.gtr 3 (Operand.tmp 6) (Operand.const (Value.int IntKind.i64 8)) (lenD l_3) (D.v (Value.int IntKind.i64 8))) fun d_4=>
ifU d_4 (
j1 d_4 c_1) (
bindO (c_1[1]?) fun d_l=>
bindO (elsD d_l) fun l_m=>
bindO (binD P BinOp.gtr 3 (Operand.tmp 10) (Operand.const (Value.int IntKind.i64 16)) (lenD l_m) (D.v (Value.int IntKind.i64 16))) fun d_n=>
ifU d_n (
j1 d_n c_1) (
bindO (c_1[2]?) fun d_o=>
bindO (elsD d_o) fun l_p=>
bindO (binD P BinOp.gtr 3 (Operand.tmp 14) (Operand.const (Value.int IntKind.i64 3)) (lenD l_p) (D.v (Value.int IntKind.i64 3))) fun d_q=>
j1 d_q c_1))
noncomputable def Sz:=Sy pc k (Sx pc k)
theorem h102_0(v0:D):cQ P pc noY rk LA (k+1) 102 [v0]=Sz pc k v0:=(bqA Go.Proofs.Tryz.f102 rV gZ (by kernel_rfl)).trans (Eq.trans (b:=Sy pc k (T102_1 pc rk k) v0) (by kernel_rfl) (by rw[h102_1]; rfl))
noncomputable def rW:Code:=ak 103
noncomputable def gK:List ResultVar:=bw 103
noncomputable def Cw:KA:=(bK (LvA.b (LA 103)).c (bx P pc noY rk (aq P pc noY rk 103 k) 103 (cR (cR rW)) (LvA.b (LvA.b (LA 103))) (aw P gK) X0A (aw P gK)))
noncomputable def qx:(Nat→KA):=(upA 0 (Cw pc rk k) X0A)
noncomputable def Lw(m1:Nat):KA:=(bK (LvA.a (LvA.b (LvA.a (LvA.b (LA 103))))).c (aq P pc noY rk 103 m1 (LvA.a (LvA.b (LvA.a (LvA.b (LA 103))))) (cL (cR (cL (cR rW)))) (Cw pc rk k) (qx pc rk k) (aw P gK)))
noncomputable def Lx(m1:Nat):=fun(u0:D) (u3:D)=>labA (bx P pc noY rk (aq P pc noY rk 103 m1) 103 (cL (cL (cR (cL (cR rW))))) (LvA.a (LvA.a (LvA.b (LvA.a (LvA.b (LA 103)))))) (Lw pc rk k m1) (qx pc rk k) (aw P gK)) (Tr.set (Tr.set Tr.nil 3 (some (AV.d u3))) 0 (some (AV.d u0))) Tr.nil
noncomputable def R103_1(m1:Nat):(D→D→Option D):=fun u0 u3=>labA (aq P pc noY rk 103 m1 (LvA.a (LvA.b (LvA.a (LvA.b (LA 103))))) (cL (cR (cL (cR rW)))) (Cw pc rk k) (qx pc rk k) (aw P gK)) (Tr.set (Tr.set Tr.nil 3 (some (AV.d u3))) 0 (some (AV.d u0))) Tr.nil
noncomputable def B103_1(pc:PC)(k:Nat)(m1:Nat)(b1:(D→D→Option D))(u0:D)(u3:D):Option D:=
bindO (elsD u0) fun l_1=>
bindO (binD P BinOp.lss 3 (Operand.tmp 4) (Operand.tmp 6) u3 (lenD l_1)) fun d_2=>
ifU d_2 (
bindO (elsD u0) fun l_3=>
bindO (idxD u3 l_3.length) fun i_4=>
bindO (l_3[i_4]?) fun d_5=>
chkK (bk d_5) (
bindO (binD P BinOp.sub 3 (Operand.tmp 15) (Operand.const (Value.int IntKind.i64 1)) u3 (D.v (Value.int IntKind.i64 1))) fun d_6=>
bindO (elsD u0) fun l_7=>
bindO (idxD d_6 l_7.length) fun i_8=>
bindO (l_7[i_8]?) fun d_9=>
chkK (bk d_9) (
bindO (binD P BinOp.leq 3 (Operand.tmp 13) (Operand.tmp 18) d_5 d_9) fun d_a=>
ifU d_a (
some (D.v (Value.bool false))) (
bindO (binD P BinOp.add 3 (Operand.tmp 8) (Operand.const (Value.int IntKind.i64 1)) u3 (D.v (Value.int IntKind.i64 1))) fun d_b=>
b1 u0 d_b)))) (
some (D.v (Value.bool true)))
noncomputable def Fj(m1:Nat):=B103_1 pc k m1
noncomputable def Fq:Nat→(D→D→Option D):=recF (Fj pc k) (fun _ _=>none)
theorem h103_1(m1:Nat):Lx pc rk k m1=Fj pc k m1 (R103_1 pc rk k m1):=by kernel_rfl
theorem q103_1(m:Nat):Lx pc rk k m=Fq pc k m:=recS (h103_1 pc rk k) (by kernel_rfl) (fun m=>by kernel_rfl) m
noncomputable def Sk(pc:PC)(k:Nat)(j1:(D→D→Option D))(v0:D):Option D:=
j1 v0 (D.v (Value.int IntKind.i64 1))
noncomputable def SJ:=Sk pc k (Fq pc k k)
theorem h103_0(v0:D):cQ P pc noY rk LA (k+1) 103 [v0]=SJ pc k v0:=(bqA Go.Proofs.Tryz.f103 rW gK (by kernel_rfl)).trans (Eq.trans (b:=Sk pc k (Lx pc rk k k) v0) (by kernel_rfl) (by rw[q103_1]; rfl))
noncomputable def code104:Code:=ak 104
noncomputable def Ly:List ResultVar:=bw 104
noncomputable def B104_0(pc:PC)(k:Nat)(v0:D)(v1:D):Option D:=
chkK (bk v0) (
chkK (bk v1) (
some (D.fn 119 [] [(D.ref [v0]),(D.ref [v1])])))
noncomputable def SQ:=B104_0 pc k
theorem h104_0(v0:D)(v1:D):cQ P pc noY rk LA (k+1) 104 [v0,v1]=SQ pc k v0 v1:=(bqA Go.Proofs.Tryz.f104 code104 Ly (by kernel_rfl)).trans (by kernel_rfl)
noncomputable def code105:Code:=ak 105
noncomputable def results105:List ResultVar:=bw 105
noncomputable def B105_0(pc:PC)(k:Nat)(v0:D)(v1:D):Option D:=
bindO (pcD P pc 35 [v0,(D.v (Value.int IntKind.i64 0)),v1]) fun d_1=>
ifU d_1 (
bindO (binD P BinOp.leq 3 (Operand.tmp 9) (Operand.const (Value.int IntKind.i64 1000)) v1 (D.v (Value.int IntKind.i64 1000))) fun d_2=>
some d_2) (
some (D.v (Value.bool false)))
noncomputable def C105_0:=B105_0 pc k
theorem h105_0(v0:D)(v1:D):cQ P pc noY rk LA (k+1) 105 [v0,v1]=C105_0 pc k v0 v1:=(bqA Go.Proofs.Tryz.f105 code105 results105 (by kernel_rfl)).trans (by kernel_rfl)
noncomputable def code106:Code:=ak 106
noncomputable def Lz:List ResultVar:=bw 106
noncomputable def B106_0(pc:PC)(k:Nat)(v0:D):Option D:=
chkK (bk v0) (
some (D.fn 120 [] [(D.ref [v0])]))
noncomputable def SV:=B106_0 pc k
theorem h106_0(v0:D):cQ P pc noY rk LA (k+1) 106 [v0]=SV pc k v0:=(bqA Go.Proofs.Tryz.f106 code106 Lz (by kernel_rfl)).trans (by kernel_rfl)
noncomputable def code107:Code:=ak 107
noncomputable def Lk:List ResultVar:=bw 107
noncomputable def B107_0(pc:PC)(k:Nat)(v0:D):Option D:=
bindO (binD P BinOp.neq 3 (Operand.tmp 3) (Operand.tmp 4) v0 v0) fun d_1=>
some d_1
noncomputable def SW:=B107_0 pc k
theorem h107_0(v0:D):cQ P pc noY rk LA (k+1) 107 [v0]=SW pc k v0:=(bqA Go.Proofs.Tryz.f107 code107 Lk (by kernel_rfl)).trans (by kernel_rfl)
noncomputable def rY:Code:=ak 113
noncomputable def hY:List ResultVar:=bw 113
noncomputable def Cx:KA:=(bK (LvA.b (LA 113)).c (bx P pc noY rk (aq P pc noY rk 113 k) 113 (cR (cR rY)) (LvA.b (LvA.b (LA 113))) (aw P hY) X0A (aw P hY)))
noncomputable def qy:(Nat→KA):=(upA 0 (Cx pc rk k) X0A)
noncomputable def LJ(m1:Nat):KA:=(bK (LvA.a (LvA.b (LvA.a (LvA.b (LA 113))))).c (aq P pc noY rk 113 m1 (LvA.a (LvA.b (LvA.a (LvA.b (LA 113))))) (cL (cR (cL (cR rY)))) (Cx pc rk k) (qy pc rk k) (aw P hY)))
noncomputable def LQ(m1:Nat):=fun(u1:D) (u7:D) (u8:D) (u9:D)=>labA (bx P pc noY rk (aq P pc noY rk 113 m1) 113 (cL (cL (cR (cL (cR rY))))) (LvA.a (LvA.a (LvA.b (LvA.a (LvA.b (LA 113)))))) (LJ pc rk k m1) (qy pc rk k) (aw P hY)) (Tr.set (Tr.set (Tr.set (Tr.set Tr.nil 9 (some (AV.d u9))) 8 (some (AV.d u8))) 7 (some (AV.d u7))) 1 (some (AV.d u1))) Tr.nil
noncomputable def R113_1(m1:Nat):(D→D→D→D→Option D):=fun u1 u7 u8 u9=>labA (aq P pc noY rk 113 m1 (LvA.a (LvA.b (LvA.a (LvA.b (LA 113))))) (cL (cR (cL (cR rY)))) (Cx pc rk k) (qy pc rk k) (aw P hY)) (Tr.set (Tr.set (Tr.set (Tr.set Tr.nil 9 (some (AV.d u9))) 8 (some (AV.d u8))) 7 (some (AV.d u7))) 1 (some (AV.d u1))) Tr.nil
noncomputable def B113_1(pc:PC)(k:Nat)(m1:Nat)(b1:(D→D→D→D→Option D))(u1:D)(u7:D)(u8:D)(u9:D):Option D:=
bindO (binD P BinOp.lss 3 (Operand.tmp 9) (Operand.tmp 8) u9 u8) fun d_2=>
ifU d_2 (
bindO (elsD u7) fun l_3=>
bindO (idxD u9 l_3.length) fun i_4=>
bindO (l_3[i_4]?) fun d_5=>
bindO (aggD d_5) fun c_6=>
chkK (Nat.beq c_6.length 2) (
bindO (cutD c_6 0 2) fun c_7=>
bindO (splD [(D.v (Value.int IntKind.i64 0)),(D.v (Value.int IntKind.i64 0))] 0 c_7 2) fun c_8=>
bindO (cutD c_8 0 2) fun c_9=>
fnK u1 fun g a b=>
bindO (pcD P pc g (a++[(D.agg c_9)]++b)) fun d_a=>
bindO (semD P d_a (Op.unary UnOp.not)) fun d_b=>
ifU d_b (
some (D.v (Value.bool false))) (
bindO (binD P BinOp.add 3 (Operand.tmp 9) (Operand.const (Value.int IntKind.i64 1)) u9 (D.v (Value.int IntKind.i64 1))) fun d_c=>
b1 u1 u7 u8 d_c))) (
some (D.v (Value.bool true)))
noncomputable def Fv(m1:Nat):=B113_1 pc k m1
noncomputable def Fw:Nat→(D→D→D→D→Option D):=recF (Fv pc k) (fun _ _ _ _=>none)
theorem h113_1(m1:Nat):LQ pc rk k m1=Fv pc k m1 (R113_1 pc rk k m1):=by kernel_rfl
theorem q113_1(m:Nat):LQ pc rk k m=Fw pc k m:=recS (h113_1 pc rk k) (by kernel_rfl) (fun m=>by kernel_rfl) m
noncomputable def SX(pc:PC)(k:Nat)(j1:(D→D→D→D→Option D))(v0:D)(v1:D):Option D:=
bindO (elsD v0) fun l_1=>
j1 v1 v0 (lenD l_1) (D.v (Value.int IntKind.i64 0))
noncomputable def SY:=SX pc k (Fw pc k k)
theorem h113_0(v0:D)(v1:D):cQ P pc noY rk LA (k+1) 113 [v0,v1]=SY pc k v0 v1:=(bqA Go.Proofs.Tryz.f113 rY hY (by kernel_rfl)).trans (Eq.trans (b:=SX pc k (LQ pc rk k k) v0 v1) (by kernel_rfl) (by rw[q113_1]; rfl))
noncomputable def code114:Code:=ak 114
noncomputable def LV:List ResultVar:=bw 114
noncomputable def B114_0(pc:PC)(k:Nat)(v0:D):Option D:=
bindO (aggD v0) fun c_1=>
bindO (c_1[0]?) fun d_2=>
bindO (binD P BinOp.geq 3 (Operand.tmp 4) (Operand.const (Value.int IntKind.i64 0)) d_2 (D.v (Value.int IntKind.i64 0))) fun d_3=>
ifU d_3 (
bindO (c_1[0]?) fun d_4=>
bindO (c_1[1]?) fun d_5=>
bindO (binD P BinOp.leq 3 (Operand.tmp 8) (Operand.tmp 10) d_4 d_5) fun d_6=>
ifU d_6 (
bindO (c_1[1]?) fun d_7=>
bindO (binD P BinOp.leq 3 (Operand.tmp 15) (Operand.const (Value.int IntKind.i64 1000)) d_7 (D.v (Value.int IntKind.i64 1000))) fun d_8=>
some d_8) (
some (D.v (Value.bool false)))) (
some (D.v (Value.bool false)))
noncomputable def SZ:=B114_0 pc k
theorem h114_0(v0:D):cQ P pc noY rk LA (k+1) 114 [v0]=SZ pc k v0:=(bqA Go.Proofs.Tryz.f114 code114 LV (by kernel_rfl)).trans (by kernel_rfl)
noncomputable def rK:Code:=ak 115
noncomputable def ij:List ResultVar:=bw 115
noncomputable def Cy:KA:=(bK (LvA.b (LA 115)).c (bx P pc noY rk (aq P pc noY rk 115 k) 115 (cR (cR rK)) (LvA.b (LvA.b (LA 115))) (aw P ij) X0A (aw P ij)))
noncomputable def qz:(Nat→KA):=(upA 0 (Cy pc rk k) X0A)
noncomputable def LW(m1:Nat):KA:=(bK (LvA.a (LvA.b (LvA.a (LvA.b (LA 115))))).c (aq P pc noY rk 115 m1 (LvA.a (LvA.b (LvA.a (LvA.b (LA 115))))) (cL (cR (cL (cR rK)))) (Cy pc rk k) (qz pc rk k) (aw P ij)))
noncomputable def LX(m1:Nat):=fun(u1:D) (u7:D) (u8:D) (u9:D)=>labA (bx P pc noY rk (aq P pc noY rk 115 m1) 115 (cL (cL (cR (cL (cR rK))))) (LvA.a (LvA.a (LvA.b (LvA.a (LvA.b (LA 115)))))) (LW pc rk k m1) (qz pc rk k) (aw P ij)) (Tr.set (Tr.set (Tr.set (Tr.set Tr.nil 9 (some (AV.d u9))) 8 (some (AV.d u8))) 7 (some (AV.d u7))) 1 (some (AV.d u1))) Tr.nil
noncomputable def R115_1(m1:Nat):(D→D→D→D→Option D):=fun u1 u7 u8 u9=>labA (aq P pc noY rk 115 m1 (LvA.a (LvA.b (LvA.a (LvA.b (LA 115))))) (cL (cR (cL (cR rK)))) (Cy pc rk k) (qz pc rk k) (aw P ij)) (Tr.set (Tr.set (Tr.set (Tr.set Tr.nil 9 (some (AV.d u9))) 8 (some (AV.d u8))) 7 (some (AV.d u7))) 1 (some (AV.d u1))) Tr.nil
noncomputable def B115_1(pc:PC)(k:Nat)(m1:Nat)(b1:(D→D→D→D→Option D))(u1:D)(u7:D)(u8:D)(u9:D):Option D:=
bindO (binD P BinOp.lss 3 (Operand.tmp 9) (Operand.tmp 8) u9 u8) fun d_2=>
ifU d_2 (
bindO (elsD u7) fun l_3=>
bindO (idxD u9 l_3.length) fun i_4=>
bindO (l_3[i_4]?) fun d_5=>
bindO (aggD d_5) fun c_6=>
chkK (Nat.beq c_6.length 2) (
bindO (cutD c_6 0 2) fun c_7=>
bindO (splD [(D.v (Value.int IntKind.i64 0)),(D.v (Value.int IntKind.i64 0))] 0 c_7 2) fun c_8=>
bindO (cutD c_8 0 2) fun c_9=>
fnK u1 fun g a b=>
bindO (pcD P pc g (a++[(D.agg c_9)]++b)) fun d_a=>
bindO (semD P d_a (Op.unary UnOp.not)) fun d_b=>
ifU d_b (
some (D.v (Value.bool false))) (
bindO (binD P BinOp.add 3 (Operand.tmp 9) (Operand.const (Value.int IntKind.i64 1)) u9 (D.v (Value.int IntKind.i64 1))) fun d_c=>
b1 u1 u7 u8 d_c))) (
some (D.v (Value.bool true)))
noncomputable def Fx(m1:Nat):=B115_1 pc k m1
noncomputable def Fy:Nat→(D→D→D→D→Option D):=recF (Fx pc k) (fun _ _ _ _=>none)
theorem h115_1(m1:Nat):LX pc rk k m1=Fx pc k m1 (R115_1 pc rk k m1):=by kernel_rfl
theorem q115_1(m:Nat):LX pc rk k m=Fy pc k m:=recS (h115_1 pc rk k) (by kernel_rfl) (fun m=>by kernel_rfl) m
noncomputable def SK(pc:PC)(k:Nat)(j1:(D→D→D→D→Option D))(v0:D)(v1:D):Option D:=
bindO (elsD v0) fun l_1=>
j1 v1 v0 (lenD l_1) (D.v (Value.int IntKind.i64 0))
noncomputable def Tj:=SK pc k (Fy pc k k)
theorem h115_0(v0:D)(v1:D):cQ P pc noY rk LA (k+1) 115 [v0,v1]=Tj pc k v0 v1:=(bqA Go.Proofs.Tryz.f115 rK ij (by kernel_rfl)).trans (Eq.trans (b:=SK pc k (LX pc rk k k) v0 v1) (by kernel_rfl) (by rw[q115_1]; rfl))
noncomputable def kK:Code:=ak 116
noncomputable def eJ:List ResultVar:=bw 116
noncomputable def xY:KA:=(bK (LvA.b (LvA.b (LA 116))).c (bx P pc noY rk (aq P pc noY rk 116 k) 116 (cR (cR (cR kK))) (LvA.b (LvA.b (LvA.b (LA 116)))) (aw P eJ) X0A (aw P eJ)))
noncomputable def fQ:(Nat→KA):=(upA 0 (xY pc rk k) X0A)
noncomputable def nY(m1:Nat):KA:=(bK (LvA.a (LvA.b (LvA.a (LvA.b (LvA.b (LA 116)))))).c (aq P pc noY rk 116 m1 (LvA.a (LvA.b (LvA.a (LvA.b (LvA.b (LA 116)))))) (cL (cR (cL (cR (cR kK))))) (xY pc rk k) (fQ pc rk k) (aw P eJ)))
noncomputable def sj(m1:Nat):KA:=(bK (LvA.b (LvA.b (LvA.a (LvA.a (LvA.b (LvA.a (LvA.b (LvA.b (LA 116))))))))).c (bx P pc noY rk (aq P pc noY rk 116 m1) 116 (cR (cR (cR (cL (cL (cR (cL (cR (cR kK))))))))) (LvA.b (LvA.b (LvA.b (LvA.a (LvA.a (LvA.b (LvA.a (LvA.b (LvA.b (LA 116)))))))))) (nY pc rk k m1) (fQ pc rk k) (aw P eJ)))
noncomputable def K116_pxrrlrllrrl(m1:Nat):(Nat→KA):=(upA 1 (sj pc rk k m1) (fQ pc rk k))
noncomputable def T116_3(m1:Nat):=fun(u5:D) (u9:D) (u10:D) (u11:D) (c2:List D) (c3:List D)=>labA (bx P pc noY rk (aq P pc noY rk 116 m1) 116 (cR (cR (cR (cL (cL (cR (cL (cR (cR kK))))))))) (LvA.b (LvA.b (LvA.b (LvA.a (LvA.a (LvA.b (LvA.a (LvA.b (LvA.b (LA 116)))))))))) (nY pc rk k m1) (fQ pc rk k) (aw P eJ)) (Tr.set (Tr.set (Tr.set (Tr.set (Tr.set (Tr.set Tr.nil 11 (some (AV.d u11))) 10 (some (AV.d u10))) 9 (some (AV.d u9))) 5 (some (AV.d u5))) 3 (some (AV.loc 3 0))) 2 (some (AV.loc 2 0))) (Tr.set (Tr.set Tr.nil 3 (some (Bx.dat c3 false))) 2 (some (Bx.dat c2 false)))
noncomputable def T116_2(m1:Nat):=fun(u5:D) (u9:D) (u10:D) (u11:D) (u26:D) (c2:List D) (c3:List D)=>labA (bx P pc noY rk (aq P pc noY rk 116 m1) 116 (cR (cR (cL (cL (cR (cR (cL (cL (cR (cL (cR (cR kK)))))))))))) (LvA.b (LvA.b (LvA.a (LvA.a (LvA.b (LvA.b (LvA.a (LvA.a (LvA.b (LvA.a (LvA.b (LvA.b (LA 116))))))))))))) (sj pc rk k m1) (K116_pxrrlrllrrl pc rk k m1) (aw P eJ)) (Tr.set (Tr.set (Tr.set (Tr.set (Tr.set (Tr.set (Tr.set Tr.nil 26 (some (AV.d u26))) 11 (some (AV.d u11))) 10 (some (AV.d u10))) 9 (some (AV.d u9))) 5 (some (AV.d u5))) 3 (some (AV.loc 3 0))) 2 (some (AV.loc 2 0))) (Tr.set (Tr.set Tr.nil 3 (some (Bx.dat c3 false))) 2 (some (Bx.dat c2 false)))
noncomputable def LY(m1:Nat):=fun(u5:D) (u9:D) (u10:D) (u11:D) (c2:List D) (c3:List D)=>labA (bx P pc noY rk (aq P pc noY rk 116 m1) 116 (cL (cL (cR (cL (cR (cR kK)))))) (LvA.a (LvA.a (LvA.b (LvA.a (LvA.b (LvA.b (LA 116))))))) (nY pc rk k m1) (fQ pc rk k) (aw P eJ)) (Tr.set (Tr.set (Tr.set (Tr.set (Tr.set (Tr.set Tr.nil 11 (some (AV.d u11))) 10 (some (AV.d u10))) 9 (some (AV.d u9))) 5 (some (AV.d u5))) 3 (some (AV.loc 3 0))) 2 (some (AV.loc 2 0))) (Tr.set (Tr.set Tr.nil 3 (some (Bx.dat c3 false))) 2 (some (Bx.dat c2 false)))
noncomputable def Cz(m1:Nat):(D→D→D→D→List D→List D→Option D):=fun u5 u9 u10 u11 c2 c3=>labA (aq P pc noY rk 116 m1 (LvA.a (LvA.b (LvA.a (LvA.b (LvA.b (LA 116)))))) (cL (cR (cL (cR (cR kK))))) (xY pc rk k) (fQ pc rk k) (aw P eJ)) (Tr.set (Tr.set (Tr.set (Tr.set (Tr.set (Tr.set Tr.nil 11 (some (AV.d u11))) 10 (some (AV.d u10))) 9 (some (AV.d u9))) 5 (some (AV.d u5))) 3 (some (AV.loc 3 0))) 2 (some (AV.loc 2 0))) (Tr.set (Tr.set Tr.nil 3 (some (Bx.dat c3 false))) 2 (some (Bx.dat c2 false)))
noncomputable def B116_3(pc:PC)(k:Nat)(m1:Nat)(b1:(D→D→D→D→List D→List D→Option D))(u5:D)(u9:D)(u10:D)(u11:D)(c2:List D)(c3:List D):Option D:=
bindO (binD P BinOp.add 3 (Operand.tmp 11) (Operand.const (Value.int IntKind.i64 1)) u11 (D.v (Value.int IntKind.i64 1))) fun d_g=>
b1 u5 u9 u10 d_g c2 c3
noncomputable def C116_3(m1:Nat):=B116_3 pc k m1
theorem h116_3(m1:Nat):T116_3 pc rk k m1=C116_3 pc k m1 (Cz pc rk k m1):=by kernel_rfl
noncomputable def B116_2(pc:PC)(k:Nat)(m1:Nat)(j3:(D→D→D→D→List D→List D→Option D))(b1:(D→D→D→D→List D→List D→Option D))(u5:D)(u9:D)(u10:D)(u11:D)(u26:D)(c2:List D)(c3:List D):Option D:=
ifU u26 (
bindO (binD P BinOp.add 3 (Operand.tmp 27) (Operand.const (Value.int IntKind.i64 1)) u5 (D.v (Value.int IntKind.i64 1))) fun d_f=>
j3 d_f u9 u10 u11 c2 c3) (
j3 u5 u9 u10 u11 c2 c3)
noncomputable def Tq(m1:Nat)(b1:(D→D→D→D→List D→List D→Option D)):=B116_2 pc k m1 (C116_3 pc k m1 b1) b1
theorem h116_2(m1:Nat):T116_2 pc rk k m1=Tq pc k m1 (Cz pc rk k m1):=Eq.trans (b:=B116_2 pc k m1 (T116_3 pc rk k m1) (Cz pc rk k m1)) (by kernel_rfl) (by rw[h116_3]; rfl)
noncomputable def LZ(pc:PC)(k:Nat)(m1:Nat)(j2:(D→D→D→D→D→List D→List D→Option D))(b1:(D→D→D→D→List D→List D→Option D))(u5:D)(u9:D)(u10:D)(u11:D)(c2:List D)(c3:List D):Option D:=
bindO (binD P BinOp.lss 3 (Operand.tmp 11) (Operand.tmp 10) u11 u10) fun d_5=>
ifU d_5 (
bindO (elsD u9) fun l_6=>
bindO (idxD u11 l_6.length) fun i_7=>
bindO (l_6[i_7]?) fun d_8=>
bindO (aggD d_8) fun c_9=>
chkK (Nat.beq c_9.length 2) (
bindO (cutD c_9 0 2) fun c_a=>
bindO (splD [(D.v (Value.int IntKind.i64 0)),(D.v (Value.int IntKind.i64 0))] 0 c_a 2) fun c_b=>
bindO (cutD c_b 0 2) fun c_c=>
bindO (cutD c3 0 2) fun c_d=>
bindO (binD P BinOp.eql 131 (Operand.tmp 15) (Operand.tmp 16) (D.agg c_c) (D.agg c_d)) fun d_e=>
ifU d_e (
j2 u5 u9 u10 u11 (D.v (Value.bool true)) c2 c3) (
bindO (cutD c_b 0 2) fun c_h=>
bindO (c3[1]?) fun d_i=>
bindO (c3[0]?) fun d_j=>
chkK (bk d_i) (
chkK (bk d_j) (
bindO (binD P BinOp.eql 131 (Operand.tmp 19) (Operand.tmp 24) (D.agg c_h) (D.agg [d_i,d_j])) fun d_k=>
j2 u5 u9 u10 u11 d_k c2 c3))))) (
bindO (cutD c2 0 3) fun c_l=>
bindO (c3[0]?) fun d_m=>
bindO (pcD P pc 128 [(D.agg c_l),d_m]) fun d_n=>
ifU d_n (
bindO (cutD c2 0 3) fun c_o=>
bindO (c3[1]?) fun d_p=>
bindO (pcD P pc 128 [(D.agg c_o),d_p]) fun d_q=>
ifU d_q (
bindO (c3[0]?) fun d_r=>
bindO (c3[1]?) fun d_s=>
bindO (binD P BinOp.neq 3 (Operand.tmp 42) (Operand.tmp 44) d_r d_s) fun d_t=>
ifU d_t (
bindO (binD P BinOp.eql 3 (Operand.tmp 48) (Operand.const (Value.int IntKind.i64 1)) u5 (D.v (Value.int IntKind.i64 1))) fun d_u=>
some d_u) (
some (D.v (Value.bool false)))) (
some (D.v (Value.bool false)))) (
some (D.v (Value.bool false))))
noncomputable def Fk(m1:Nat)(b1:(D→D→D→D→List D→List D→Option D)):=LZ pc k m1 (Tq pc k m1 b1) b1
noncomputable def FJ:Nat→(D→D→D→D→List D→List D→Option D):=recF (Fk pc k) (fun _ _ _ _ _ _=>none)
theorem h116_1(m1:Nat):LY pc rk k m1=Fk pc k m1 (Cz pc rk k m1):=Eq.trans (b:=LZ pc k m1 (T116_2 pc rk k m1) (Cz pc rk k m1)) (by kernel_rfl) (by rw[h116_2]; rfl)
theorem q116_1(m:Nat):LY pc rk k m=FJ pc k m:=recS (h116_1 pc rk k) (by kernel_rfl) (fun m=>by kernel_rfl) m
noncomputable def Tv(pc:PC)(k:Nat)(j1:(D→D→D→D→List D→List D→Option D))(v0:D)(v1:D):Option D:=
bindO (aggD v0) fun c_1=>
bindO (aggD v1) fun c_2=>
bindO (c_1[1]?) fun d_3=>
bindO (elsD d_3) fun l_4=>
j1 (D.v (Value.int IntKind.i64 0)) d_3 (lenD l_4) (D.v (Value.int IntKind.i64 0)) c_1 c_2
noncomputable def Tw:=Tv pc k (FJ pc k k)
theorem h116_0(v0:D)(v1:D):cQ P pc noY rk LA (k+1) 116 [v0,v1]=Tw pc k v0 v1:=(bqA Go.Proofs.Tryz.f116 kK eJ (by kernel_rfl)).trans (Eq.trans (b:=Tv pc k (LY pc rk k k) v0 v1) (by kernel_rfl) (by rw[q116_1]; rfl))
noncomputable def sq:Code:=ak 117
noncomputable def iq:List ResultVar:=bw 117
noncomputable def Ck:KA:=(bK (LvA.b (LA 117)).c (bx P pc noY rk (aq P pc noY rk 117 k) 117 (cR (cR sq)) (LvA.b (LvA.b (LA 117))) (aw P iq) X0A (aw P iq)))
noncomputable def qk:(Nat→KA):=(upA 0 (Ck pc rk k) X0A)
noncomputable def Mj(m1:Nat):KA:=(bK (LvA.a (LvA.b (LvA.a (LvA.b (LA 117))))).c (aq P pc noY rk 117 m1 (LvA.a (LvA.b (LvA.a (LvA.b (LA 117))))) (cL (cR (cL (cR sq)))) (Ck pc rk k) (qk pc rk k) (aw P iq)))
noncomputable def Mq(m1:Nat):=fun(u1:D) (u7:D) (u8:D) (u9:D)=>labA (bx P pc noY rk (aq P pc noY rk 117 m1) 117 (cL (cL (cR (cL (cR sq))))) (LvA.a (LvA.a (LvA.b (LvA.a (LvA.b (LA 117)))))) (Mj pc rk k m1) (qk pc rk k) (aw P iq)) (Tr.set (Tr.set (Tr.set (Tr.set Tr.nil 9 (some (AV.d u9))) 8 (some (AV.d u8))) 7 (some (AV.d u7))) 1 (some (AV.d u1))) Tr.nil
noncomputable def R117_1(m1:Nat):(D→D→D→D→Option D):=fun u1 u7 u8 u9=>labA (aq P pc noY rk 117 m1 (LvA.a (LvA.b (LvA.a (LvA.b (LA 117))))) (cL (cR (cL (cR sq)))) (Ck pc rk k) (qk pc rk k) (aw P iq)) (Tr.set (Tr.set (Tr.set (Tr.set Tr.nil 9 (some (AV.d u9))) 8 (some (AV.d u8))) 7 (some (AV.d u7))) 1 (some (AV.d u1))) Tr.nil
noncomputable def B117_1(pc:PC)(k:Nat)(m1:Nat)(b1:(D→D→D→D→Option D))(u1:D)(u7:D)(u8:D)(u9:D):Option D:=
bindO (binD P BinOp.lss 3 (Operand.tmp 9) (Operand.tmp 8) u9 u8) fun d_2=>
ifU d_2 (
bindO (elsD u7) fun l_3=>
bindO (idxD u9 l_3.length) fun i_4=>
bindO (l_3[i_4]?) fun d_5=>
bindO (aggD d_5) fun c_6=>
chkK (Nat.beq c_6.length 5) (
bindO (cutD c_6 0 5) fun c_7=>
bindO (splD [(D.v (Value.int IntKind.i64 0)),(D.v (Value.int IntKind.i64 0)),(D.v (Value.int IntKind.i64 0)),(D.v (Value.int IntKind.i64 0)),(D.v (Value.int IntKind.i64 0))] 0 c_7 5) fun c_8=>
bindO (cutD c_8 0 5) fun c_9=>
fnK u1 fun g a b=>
bindO (pcD P pc g (a++[(D.agg c_9)]++b)) fun d_a=>
bindO (semD P d_a (Op.unary UnOp.not)) fun d_b=>
ifU d_b (
some (D.v (Value.bool false))) (
bindO (binD P BinOp.add 3 (Operand.tmp 9) (Operand.const (Value.int IntKind.i64 1)) u9 (D.v (Value.int IntKind.i64 1))) fun d_c=>
b1 u1 u7 u8 d_c))) (
some (D.v (Value.bool true)))
noncomputable def FQ(m1:Nat):=B117_1 pc k m1
noncomputable def FV:Nat→(D→D→D→D→Option D):=recF (FQ pc k) (fun _ _ _ _=>none)
theorem h117_1(m1:Nat):Mq pc rk k m1=FQ pc k m1 (R117_1 pc rk k m1):=by kernel_rfl
theorem q117_1(m:Nat):Mq pc rk k m=FV pc k m:=recS (h117_1 pc rk k) (by kernel_rfl) (fun m=>by kernel_rfl) m
noncomputable def Tx(pc:PC)(k:Nat)(j1:(D→D→D→D→Option D))(v0:D)(v1:D):Option D:=
bindO (elsD v0) fun l_1=>
j1 v1 v0 (lenD l_1) (D.v (Value.int IntKind.i64 0))
noncomputable def Tz:=Tx pc k (FV pc k k)
theorem h117_0(v0:D)(v1:D):cQ P pc noY rk LA (k+1) 117 [v0,v1]=Tz pc k v0 v1:=(bqA Go.Proofs.Tryz.f117 sq iq (by kernel_rfl)).trans (Eq.trans (b:=Tx pc k (Mq pc rk k k) v0 v1) (by kernel_rfl) (by rw[q117_1]; rfl))
noncomputable def code118:Code:=ak 118
noncomputable def Mv:List ResultVar:=bw 118
noncomputable def B118_0(pc:PC)(k:Nat)(v0:D):Option D:=
bindO (aggD v0) fun c_1=>
bindO (c_1[0]?) fun d_2=>
bindO (binD P BinOp.geq 3 (Operand.tmp 4) (Operand.const (Value.int IntKind.i64 0)) d_2 (D.v (Value.int IntKind.i64 0))) fun d_3=>
ifU d_3 (
bindO (c_1[0]?) fun d_4=>
bindO (binD P BinOp.leq 3 (Operand.tmp 8) (Operand.const (Value.int IntKind.i64 1000)) d_4 (D.v (Value.int IntKind.i64 1000))) fun d_5=>
ifU d_5 (
bindO (cutD c_1 1 2) fun c_6=>
bindO (pcD P pc 129 [(D.agg c_6)]) fun d_7=>
ifU d_7 (
bindO (cutD c_1 3 2) fun c_8=>
bindO (pcD P pc 129 [(D.agg c_8)]) fun d_9=>
some d_9) (
some (D.v (Value.bool false)))) (
some (D.v (Value.bool false)))) (
some (D.v (Value.bool false)))
noncomputable def Tk:=B118_0 pc k
theorem h118_0(v0:D):cQ P pc noY rk LA (k+1) 118 [v0]=Tk pc k v0:=(bqA Go.Proofs.Tryz.f118 code118 Mv (by kernel_rfl)).trans (by kernel_rfl)
noncomputable def pV:Code:=ak 119
noncomputable def eQ:List ResultVar:=bw 119
noncomputable def nZ(pc:PC)(k:Nat):(Nat→KA):=(upA 0 (aw P eQ) X0A)
noncomputable def FW(m1:Nat):KA:=(bK (LvA.a (LvA.b (LA 119))).c (aq P pc lW noR 119 m1 (LvA.a (LvA.b (LA 119))) (cL (cR pV)) (aw P eQ) (nZ pc k) (aw P eQ)))
noncomputable def zj(m1:Nat):KA:=(bK (LvA.b (LvA.b (LvA.a (LvA.a (LvA.b (LA 119)))))).c (bx P pc lW noR (aq P pc lW noR 119 m1) 119 (cR (cR (cR (cL (cL (cR pV)))))) (LvA.b (LvA.b (LvA.b (LvA.a (LvA.a (LvA.b (LA 119))))))) (FW pc k m1) (nZ pc k) (aw P eQ)))
noncomputable def K119_pxrllrrl(m1:Nat):(Nat→KA):=(upA 1 (zj pc k m1) (nZ pc k))
noncomputable def T119_2(m1:Nat):=fun(u0:Nat) (u1:D) (u2:D) (u10:D) (u11:D) (u27:D)=>labA (bx P pc lW noR (aq P pc lW noR 119 m1) 119 (cR (cR (cL (cL (cR (cR (cL (cL (cR pV))))))))) (LvA.b (LvA.b (LvA.a (LvA.a (LvA.b (LvA.b (LvA.a (LvA.a (LvA.b (LA 119)))))))))) (zj pc k m1) (K119_pxrllrrl pc k m1) (aw P eQ)) (Tr.set (Tr.set (Tr.set (Tr.set (Tr.set (Tr.set Tr.nil 27 (some (AV.d u27))) 11 (some (AV.d u11))) 10 (some (AV.d u10))) 2 (some (AV.d u2))) 1 (some (AV.d u1))) 0 (some (AV.d (D.yld u0)))) Tr.nil
noncomputable def Mw(m1:Nat):=fun(u0:Nat) (u1:D) (u2:D) (u10:D) (u11:D)=>labA (bx P pc lW noR (aq P pc lW noR 119 m1) 119 (cL (cL (cR pV))) (LvA.a (LvA.a (LvA.b (LA 119)))) (FW pc k m1) (nZ pc k) (aw P eQ)) (Tr.set (Tr.set (Tr.set (Tr.set (Tr.set Tr.nil 11 (some (AV.d u11))) 10 (some (AV.d u10))) 2 (some (AV.d u2))) 1 (some (AV.d u1))) 0 (some (AV.d (D.yld u0)))) Tr.nil
noncomputable def R119_1(m1:Nat):(Nat→D→D→D→D→Option D):=fun u0 u1 u2 u10 u11=>labA (aq P pc lW noR 119 m1 (LvA.a (LvA.b (LA 119))) (cL (cR pV)) (aw P eQ) (nZ pc k) (aw P eQ)) (Tr.set (Tr.set (Tr.set (Tr.set (Tr.set Tr.nil 11 (some (AV.d u11))) 10 (some (AV.d u10))) 2 (some (AV.d u2))) 1 (some (AV.d u1))) 0 (some (AV.d (D.yld u0)))) Tr.nil
noncomputable def B119_2(pc:PC)(k:Nat)(m1:Nat)(b1:(Nat→D→D→D→D→Option D))(u0:Nat)(u1:D)(u2:D)(u10:D)(u11:D)(u27:D):Option D:=
ifU u27 (
some (D.tup [])) (
bindO (binD P BinOp.add 3 (Operand.tmp 11) (Operand.const (Value.int IntKind.i64 1)) u11 (D.v (Value.int IntKind.i64 1))) fun d_h=>
b1 u0 u1 u2 u10 d_h)
noncomputable def C119_2(m1:Nat):=B119_2 pc k m1
theorem h119_2(m1:Nat):T119_2 pc k m1=C119_2 pc k m1 (R119_1 pc k m1):=by kernel_rfl
noncomputable def TJ(pc:PC)(k:Nat)(m1:Nat)(j2:(Nat→D→D→D→D→D→Option D))(b1:(Nat→D→D→D→D→Option D))(u0:Nat)(u1:D)(u2:D)(u10:D)(u11:D):Option D:=
bindO (binD P BinOp.lss 3 (Operand.tmp 11) (Operand.tmp 10) u11 u10) fun d_6=>
ifU d_6 (
bindO (kY u1) fun c_7=>
bindO (c_7[0]?) fun d_8=>
nilA (AV.d d_8) (
bindO (kY d_8) fun c_9=>
bindO (idxD u11 8) fun i_a=>
bindO ((List.drop (i_a * 1) (List.drop 5 c_9))[0]?) fun d_b=>
bindO (kY u2) fun c_c=>
bindO (c_c[0]?) fun d_d=>
bindO (pcD P pc 95 [d_b,d_d]) fun d_e=>
ifU d_e (
nodeYf u0 [u11] (
bindO (semD P (D.v (Value.bool true)) (Op.unary UnOp.not)) fun d_g=>
j2 u0 u1 u2 u10 u11 d_g) (
bindO (semD P (D.v (Value.bool false)) (Op.unary UnOp.not)) fun d_i=>
j2 u0 u1 u2 u10 u11 d_i)) (
j2 u0 u1 u2 u10 u11 (D.v (Value.bool false))))) (
some (D.tup []))
noncomputable def FX(m1:Nat)(b1:(Nat→D→D→D→D→Option D)):=TJ pc k m1 (C119_2 pc k m1 b1) b1
noncomputable def FY:Nat→(Nat→D→D→D→D→Option D):=recF (FX pc k) (fun _ _ _ _ _=>none)
theorem h119_1(m1:Nat):Mw pc k m1=FX pc k m1 (R119_1 pc k m1):=Eq.trans (b:=TJ pc k m1 (T119_2 pc k m1) (R119_1 pc k m1)) (by kernel_rfl) (by rw[h119_2]; rfl)
theorem q119_1(m:Nat):Mw pc k m=FY pc k m:=recS (h119_1 pc k) (by kernel_rfl) (fun m=>by kernel_rfl) m
noncomputable def TQ(pc:PC)(k:Nat)(j1:(Nat→D→D→D→D→Option D))(v0:Nat)(v1:D)(v2:D):Option D:=
bindO (kY v1) fun c_1=>
bindO (c_1[0]?) fun d_2=>
nilA (AV.d d_2) (
bindO (kY d_2) fun c_3=>
bindO ((List.drop 4 c_3)[0]?) fun d_4=>
bindO (elsD d_4) fun l_5=>
j1 v0 v1 v2 (lenD l_5) (D.v (Value.int IntKind.i64 0)))
noncomputable def TV:=TQ pc k (FY pc k k)
theorem h119_0(v0:Nat)(v1:D)(v2:D):cQ P pc lW noR LA (k+1) 119 [D.yld v0,v1,v2]=TV pc k v0 v1 v2:=(bqY Go.Proofs.Tryz.f119 pV eQ (by kernel_rfl)).trans (Eq.trans (b:=TQ pc k (Mw pc k k) v0 v1 v2) (by kernel_rfl) (by rw[q119_1]; rfl))
noncomputable def vV:Code:=ak 120
noncomputable def fy:List ResultVar:=bw 120
noncomputable def xZ(pc:PC)(k:Nat):(Nat→KA):=(upA 0 (aw P fy) X0A)
noncomputable def qfq(m1:Nat):KA:=(bK (LvA.a (LvA.b (LA 120))).c (aq P pc lW noR 120 m1 (LvA.a (LvA.b (LA 120))) (cL (cR vV)) (aw P fy) (xZ pc k) (aw P fy)))
noncomputable def Mx(m1:Nat):=fun(u0:Nat) (u1:D) (u3:D)=>labA (bx P pc lW noR (aq P pc lW noR 120 m1) 120 (cL (cL (cR vV))) (LvA.a (LvA.a (LvA.b (LA 120)))) (qfq pc k m1) (xZ pc k) (aw P fy)) (Tr.set (Tr.set (Tr.set Tr.nil 3 (some (AV.d u3))) 1 (some (AV.d u1))) 0 (some (AV.d (D.yld u0)))) Tr.nil
noncomputable def R120_1(m1:Nat):(Nat→D→D→Option D):=fun u0 u1 u3=>labA (aq P pc lW noR 120 m1 (LvA.a (LvA.b (LA 120))) (cL (cR vV)) (aw P fy) (xZ pc k) (aw P fy)) (Tr.set (Tr.set (Tr.set Tr.nil 3 (some (AV.d u3))) 1 (some (AV.d u1))) 0 (some (AV.d (D.yld u0)))) Tr.nil
noncomputable def B120_1(pc:PC)(k:Nat)(m1:Nat)(b1:(Nat→D→D→Option D))(u0:Nat)(u1:D)(u3:D):Option D:=
bindO (binD P BinOp.geq 3 (Operand.tmp 7) (Operand.const (Value.int IntKind.i64 0)) u3 (D.v (Value.int IntKind.i64 0))) fun d_5=>
ifU d_5 (
bindO (kY u1) fun c_6=>
bindO (c_6[0]?) fun d_7=>
bindO (elsD d_7) fun l_8=>
bindO (idxD u3 l_8.length) fun i_9=>
bindO (l_8[i_9]?) fun d_a=>
chkK (bk d_a) (
nodeYf u0 [u3,d_a] (
bindO (semD P (D.v (Value.bool true)) (Op.unary UnOp.not)) fun d_c=>
ifU d_c (
some (D.tup [])) (
bindO (binD P BinOp.sub 3 (Operand.tmp 9) (Operand.const (Value.int IntKind.i64 1)) u3 (D.v (Value.int IntKind.i64 1))) fun d_d=>
b1 u0 u1 d_d)) (
bindO (semD P (D.v (Value.bool false)) (Op.unary UnOp.not)) fun d_e=>
ifU d_e (
some (D.tup [])) (
bindO (binD P BinOp.sub 3 (Operand.tmp 9) (Operand.const (Value.int IntKind.i64 1)) u3 (D.v (Value.int IntKind.i64 1))) fun d_f=>
b1 u0 u1 d_f)))) (
some (D.tup []))
noncomputable def FZ(m1:Nat):=B120_1 pc k m1
noncomputable def FK:Nat→(Nat→D→D→Option D):=recF (FZ pc k) (fun _ _ _=>none)
theorem h120_1(m1:Nat):Mx pc k m1=FZ pc k m1 (R120_1 pc k m1):=by kernel_rfl
theorem q120_1(m:Nat):Mx pc k m=FK pc k m:=recS (h120_1 pc k) (by kernel_rfl) (fun m=>by kernel_rfl) m
noncomputable def TW(pc:PC)(k:Nat)(j1:(Nat→D→D→Option D))(v0:Nat)(v1:D):Option D:=
bindO (kY v1) fun c_1=>
bindO (c_1[0]?) fun d_2=>
bindO (elsD d_2) fun l_3=>
bindO (binD P BinOp.sub 3 (Operand.tmp 5) (Operand.const (Value.int IntKind.i64 1)) (lenD l_3) (D.v (Value.int IntKind.i64 1))) fun d_4=>
j1 v0 v1 d_4
noncomputable def TX:=TW pc k (FK pc k k)
theorem h120_0(v0:Nat)(v1:D):cQ P pc lW noR LA (k+1) 120 [D.yld v0,v1]=TX pc k v0 v1:=(bqY Go.Proofs.Tryz.f120 vV fy (by kernel_rfl)).trans (Eq.trans (b:=TW pc k (Mx pc k k) v0 v1) (by kernel_rfl) (by rw[q120_1]; rfl))
noncomputable def code128:Code:=ak 128
noncomputable def My:List ResultVar:=bw 128
noncomputable def B128_0(pc:PC)(k:Nat)(v0:D)(v1:D):Option D:=
bindO (aggD v0) fun c_1=>
bindO (binD P BinOp.geq 3 (Operand.tmp 5) (Operand.const (Value.int IntKind.i64 0)) v1 (D.v (Value.int IntKind.i64 0))) fun d_2=>
ifU d_2 (
bindO (c_1[0]?) fun d_3=>
bindO (elsD d_3) fun l_4=>
bindO (binD P BinOp.lss 3 (Operand.tmp 8) (Operand.tmp 11) v1 (lenD l_4)) fun d_5=>
some d_5) (
some (D.v (Value.bool false)))
noncomputable def TY:=B128_0 pc k
theorem h128_0(v0:D)(v1:D):cQ P pc noY rk LA (k+1) 128 [v0,v1]=TY pc k v0 v1:=(bqA Go.Proofs.Tryz.f128 code128 My (by kernel_rfl)).trans (by kernel_rfl)
noncomputable def code129:Code:=ak 129
noncomputable def Mz:List ResultVar:=bw 129
noncomputable def B129_0(pc:PC)(k:Nat)(v0:D):Option D:=
bindO (aggD v0) fun c_1=>
bindO (c_1[0]?) fun d_2=>
bindO (binD P BinOp.geq 3 (Operand.tmp 4) (Operand.const (Value.int IntKind.i64 0)) d_2 (D.v (Value.int IntKind.i64 0))) fun d_3=>
ifU d_3 (
bindO (c_1[0]?) fun d_4=>
bindO (c_1[1]?) fun d_5=>
bindO (binD P BinOp.leq 3 (Operand.tmp 8) (Operand.tmp 10) d_4 d_5) fun d_6=>
ifU d_6 (
bindO (c_1[1]?) fun d_7=>
bindO (binD P BinOp.leq 3 (Operand.tmp 15) (Operand.const (Value.int IntKind.i64 1000)) d_7 (D.v (Value.int IntKind.i64 1000))) fun d_8=>
some d_8) (
some (D.v (Value.bool false)))) (
some (D.v (Value.bool false)))
noncomputable def TZ:=B129_0 pc k
theorem h129_0(v0:D):cQ P pc noY rk LA (k+1) 129 [v0]=TZ pc k v0:=(bqA Go.Proofs.Tryz.f129 code129 Mz (by kernel_rfl)).trans (by kernel_rfl)
end Go.Proofs.YtcjnaeimeilomaaGreat.L
end
end
