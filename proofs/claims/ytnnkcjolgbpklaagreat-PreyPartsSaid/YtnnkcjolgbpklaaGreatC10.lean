/- Texts L1 to L1. -/
import Derived.Test.YtnnkcjolgbpklaaGreatRows
import Derived.Test.YtnnkcjolgbpklaaGreatC9
set_option linter.unusedVariables false
section
open Go Go.Ev
set_option maxRecDepth 1000000
noncomputable section
namespace Go.Proofs.YtnnkcjolgbpklaaGreat.L
noncomputable def P:Program:=Go.Proofs.Tryz.prog
noncomputable def codeOf (f:FuncId):Code:=match P.funcs[f]? with
  | some fn=>match fn.body with
    | some c=>c
    | none=>.skip
  | none=>.skip
noncomputable def resOf (f:FuncId):List ResultVar:=match P.funcs[f]? with
  | some fn=>fn.results.toList
  | none=>[]
noncomputable def cL:Code→Code
  | .seq a _=>a
  | .cond _ a _=>a
  | .block _ c=>c
  | .scope c=>c
  | .loop c=>c
  | .rangeFunc _ _ a _=>a
  | _=>.skip
noncomputable def cR:Code→Code
  | .seq _ b=>b
  | .cond _ _ b=>b
  | .rangeFunc _ _ _ b=>b
  | _=>.skip
noncomputable def X0A:Nat→KA:=fun _ _ _=>none
noncomputable def rX:Code→Operand
  | .rangeFunc x _ _ _=>x
  | _=>.tmp 0
noncomputable def rPs:Code→List Tmp
  | .rangeFunc _ ps _ _=>ps.toList
  | _=>[]
theorem body_eqA {pc:PC} {rk:RK} {L:FuncId→LvA} {k f:Nat} {fn:Func} {c:Code} {rs:List ResultVar} {ds:List D} (h1:P.funcs[f]?=some fn) (h2:fn.body=some c)
    (h3 : (fn.name == "runtime.NumGoroutine" || fn.ntmps < ds.length) = false) (h4 : fn.results.toList = rs) :
    bodyY P pc noY rk L (k+1) f ds=codeA P pc noY rk (codeFA P pc noY rk f k) f c (L f) (doneA P rs) X0A (doneA P rs) (argsA .nil 0 ds) .nil:=by
  subst h4
  unfold bodyY
  simp only[h1,h2,h3]
  rfl
theorem body_eqY {pc:PC} {L:FuncId→LvA} {k f:Nat} {fn:Func} {c:Code} {rs:List ResultVar} {ds:List D} (h1:P.funcs[f]?=some fn) (h2:fn.body=some c)
    (h3 : (fn.name == "runtime.NumGoroutine" || fn.ntmps < ds.length) = false) (h4 : fn.results.toList = rs) :
    bodyY P pc nodeY noR L (k+1) f ds=codeA P pc nodeY noR (codeFA P pc nodeY noR f k) f c (L f) (doneA P rs) X0A (doneA P rs) (argsA .nil 0 ds) .nil:=by
  subst h4
  unfold bodyY
  simp only[h1,h2,h3]
  rfl
noncomputable def lvTabA:Tr LvA:=Tr.set (Tr.set (Tr.set (Tr.set (Tr.set (Tr.set (Tr.set (Tr.set (Tr.set (Tr.set (Tr.set (Tr.set (Tr.set (Tr.set (Tr.set (Tr.set (Tr.set (Tr.set (Tr.set (Tr.set (Tr.set (Tr.set (Tr.set (Tr.set (Tr.set (Tr.set (Tr.set (Tr.set (Tr.set (Tr.set (Tr.set (.nil) 14 (some (.node none .leaf (.node none .leaf (.node none .leaf (.node none .leaf (.node none .leaf (.node none (.node (some { frz:=[1,7,8,10,64],own:=[],cel:=[],fzs:=[],tmps:=[1,3,7,8,10,64],sites:=[3] }) .leaf .leaf) .leaf)))))))) 20 (some (.node none .leaf (.node none .leaf (.node none (.node none .leaf (.node none (.node (some { frz:=[0,4],own:=[(3,18,27,1)],cel:=[],fzs:=[],tmps:=[0,3,4],sites:=[18] }) .leaf .leaf) .leaf)) .leaf))))) 23 (some (.node none .leaf (.node none .leaf (.node none (.node none .leaf (.node none (.node (some { frz:=[0,1,5],own:=[],cel:=[],fzs:=[],tmps:=[0,1,5],sites:=[] }) .leaf .leaf) .leaf)) .leaf))))) 24 (some (.node none .leaf (.node none .leaf (.node none (.node none .leaf (.node none (.node (some { frz:=[1,6],own:=[(5,11,27,1)],cel:=[],fzs:=[],tmps:=[1,2,5,6],sites:=[2,11] }) .leaf .leaf) .leaf)) .leaf))))) 39 (some (.node none .leaf (.node none (.node none .leaf (.node none (.node (some { frz:=[0,1,5],own:=[],cel:=[],fzs:=[],tmps:=[0,1,5],sites:=[] }) .leaf .leaf) .leaf)) .leaf)))) 48 (some (.node none .leaf (.node none .leaf (.node none (.node none .leaf (.node none (.node (some { frz:=[0,1,5],own:=[],cel:=[],fzs:=[],tmps:=[0,1,5],sites:=[] }) .leaf .leaf) .leaf)) .leaf))))) 52 (some (.node none .leaf (.node none (.node none .leaf (.node none (.node (some { frz:=[0,3],own:=[],cel:=[],fzs:=[],tmps:=[0,3],sites:=[] }) (.node none (.node (some { frz:=[0,3,11],own:=[],cel:=[],fzs:=[],tmps:=[0,3,11],sites:=[] }) .leaf .leaf) .leaf) .leaf) .leaf)) .leaf)))) 55 (some (.node none .leaf (.node none .leaf (.node none (.node (some { frz:=[30],own:=[],cel:=[],fzs:=[],tmps:=[30],sites:=[] }) .leaf .leaf) .leaf))))) 56 (some (.node none .leaf (.node none .leaf (.node none (.node none .leaf (.node none (.node (some { frz:=[4],own:=[],cel:=[(3,0,31,130,2)],fzs:=[],tmps:=[1,2,3,4],sites:=[1,2,3,31] }) .leaf .leaf) .leaf)) (.node none (.node none .leaf (.node none (.node (some { frz:=[5],own:=[],cel:=[(3,0,31,130,2),(3,1,56,131,2)],fzs:=[],tmps:=[1,2,3,5],sites:=[1,2,3,31,56] }) .leaf .leaf) .leaf)) (.node none (.node none .leaf (.node none (.node (some { frz:=[6],own:=[],cel:=[(3,0,31,130,2),(3,1,56,131,2),(3,2,82,128,5)],fzs:=[],tmps:=[1,2,3,6],sites:=[1,2,3,31,56,82] }) .leaf .leaf) .leaf)) .leaf))))))) 57 (some (.node none .leaf (.node none .leaf (.node none .leaf (.node none .leaf (.node none .leaf (.node none .leaf (.node none (.node none .leaf (.node none (.node (some { frz:=[7,34,35,36],own:=[(9,33,106,1)],cel:=[],fzs:=[],tmps:=[7,9,34,35,36],sites:=[33] }) .leaf .leaf) .leaf)) .leaf))))))))) 58 (some (.node none .leaf (.node none .leaf (.node none (.node none .leaf (.node none (.node (some { frz:=[6,7,8],own:=[(3,16,27,1)],cel:=[],fzs:=[],tmps:=[3,6,7,8],sites:=[16] }) .leaf .leaf) .leaf)) .leaf))))) 59 (some (.node none .leaf (.node none .leaf (.node none (.node none .leaf (.node none (.node (some { frz:=[0,15,16,17],own:=[(5,14,106,1)],cel:=[],fzs:=[],tmps:=[0,5,15,16,17],sites:=[14] }) .leaf .leaf) .leaf)) .leaf))))) 60 (some (.node none .leaf (.node none .leaf (.node none (.node (some { frz:=[25],own:=[],cel:=[],fzs:=[],tmps:=[1,25],sites:=[1] }) .leaf .leaf) (.node none (.node none .leaf (.node none (.node (some { frz:=[4],own:=[],cel:=[],fzs:=[],tmps:=[1,4],sites:=[1] }) .leaf .leaf) .leaf)) .leaf)))))) 61 (some (.node none .leaf (.node none .leaf (.node none (.node none .leaf (.node none (.node (some { frz:=[1,5],own:=[],cel:=[],fzs:=[],tmps:=[1,2,5],sites:=[2] }) .leaf .leaf) .leaf)) .leaf))))) 62 (some (.node none .leaf (.node none .leaf (.node none (.node none .leaf (.node none (.node (some { frz:=[1,2,8],own:=[(7,45,3,1)],cel:=[],fzs:=[],tmps:=[1,2,3,7,8],sites:=[3,45] }) (.node none .leaf (.node (some { frz:=[1,2,8],own:=[(7,45,3,1)],cel:=[],fzs:=[],tmps:=[1,2,3,7,8],sites:=[3,45] }) (.node none (.node none .leaf (.node none (.node none .leaf (.node none (.node (some { frz:=[1,2,8,9,10],own:=[(7,45,3,1)],cel:=[],fzs:=[],tmps:=[1,2,3,7,8,9,10],sites:=[3,45] }) (.node none .leaf (.node (some { frz:=[1,2,8,9,10],own:=[(7,45,3,1)],cel:=[],fzs:=[],tmps:=[1,2,3,7,8,9,10],sites:=[3,45] }) .leaf .leaf)) .leaf) .leaf)) (.node (some { frz:=[1,2,8,41],own:=[(7,45,3,1)],cel:=[],fzs:=[],tmps:=[1,2,3,7,8,41],sites:=[3,45] }) .leaf .leaf))) .leaf) .leaf)) .leaf) .leaf)) .leaf))))) 66 (some (.node none .leaf (.node none .leaf (.node none .leaf (.node none (.node none .leaf (.node none (.node (some { frz:=[22,23],own:=[],cel:=[],fzs:=[],tmps:=[5,22,23],sites:=[16] }) .leaf .leaf) .leaf)) (.node none (.node none .leaf (.node none (.node (some { frz:=[40,41,42],own:=[],cel:=[],fzs:=[],tmps:=[5,40,41,42],sites:=[16] }) .leaf .leaf) .leaf)) .leaf))))))) 75 (some (.node none .leaf (.node none (.node none .leaf (.node none (.node (some { frz:=[1,2,7],own:=[],cel:=[],fzs:=[],tmps:=[1,2,3,7],sites:=[3] }) (.node none .leaf (.node none (.node none (.node none .leaf (.node (some { frz:=[1,2,7,42],own:=[],cel:=[],fzs:=[],tmps:=[1,2,3,7,42],sites:=[3] }) .leaf .leaf)) .leaf) .leaf)) .leaf) .leaf)) .leaf)))) 79 (some (.node none .leaf (.node none (.node none .leaf (.node none (.node (some { frz:=[1,7,8,9],own:=[],cel:=[],fzs:=[],tmps:=[1,7,8,9],sites:=[] }) .leaf .leaf) .leaf)) .leaf)))) 82 (some (.node none .leaf (.node none (.node none .leaf (.node none (.node (some { frz:=[1,7,8,9],own:=[],cel:=[],fzs:=[],tmps:=[1,7,8,9],sites:=[] }) .leaf .leaf) .leaf)) .leaf)))) 83 (some (.node none .leaf (.node none .leaf (.node none (.node none .leaf (.node none (.node (some { frz:=[3,6,7,8],own:=[],cel:=[],fzs:=[],tmps:=[3,6,7,8],sites:=[] }) .leaf .leaf) .leaf)) .leaf))))) 84 (some (.node none .leaf (.node none .leaf (.node none (.node none .leaf (.node none (.node (some { frz:=[0,5],own:=[(3,14,3,1)],cel:=[],fzs:=[],tmps:=[0,3,5],sites:=[14] }) (.node none .leaf (.node none .leaf (.node (some { frz:=[0,5],own:=[(3,14,3,1)],cel:=[],fzs:=[],tmps:=[0,3,5],sites:=[14] }) .leaf .leaf))) .leaf) .leaf)) .leaf))))) 85 (some (.node none .leaf (.node none .leaf (.node none (.node none .leaf (.node none (.node (some { frz:=[9],own:=[],cel:=[],fzs:=[],tmps:=[5,9],sites:=[5] }) (.node (some { frz:=[],own:=[],cel:=[],fzs:=[],tmps:=[],sites:=[5,1000001] }) .leaf .leaf) .leaf) .leaf)) .leaf))))) 87 (some (.node none .leaf (.node none (.node (some { frz:=[25],own:=[],cel:=[],fzs:=[],tmps:=[1,25],sites:=[1] }) .leaf .leaf) (.node none (.node (some { frz:=[35],own:=[],cel:=[],fzs:=[],tmps:=[1,35],sites:=[1] }) .leaf .leaf) (.node none (.node none .leaf (.node none (.node (some { frz:=[3],own:=[],cel:=[],fzs:=[],tmps:=[1,3],sites:=[1] }) .leaf .leaf) .leaf)) (.node none (.node none .leaf (.node none (.node (some { frz:=[4],own:=[],cel:=[],fzs:=[],tmps:=[1,4],sites:=[1] }) (.node none .leaf (.node none (.node none (.node none .leaf (.node (some { frz:=[4,92],own:=[],cel:=[],fzs:=[],tmps:=[1,4,92],sites:=[1] }) .leaf .leaf)) .leaf) .leaf)) .leaf) .leaf)) (.node none (.node none .leaf (.node none (.node (some { frz:=[6],own:=[],cel:=[],fzs:=[],tmps:=[1,6],sites:=[1] }) (.node none .leaf (.node none (.node none (.node none .leaf (.node none (.node (some { frz:=[6,129],own:=[],cel:=[],fzs:=[],tmps:=[1,6,7,129],sites:=[1,7] }) .leaf .leaf) (.node none .leaf (.node none (.node (some { frz:=[6,8],own:=[],cel:=[],fzs:=[],tmps:=[1,6,7,8],sites:=[1,7] }) (.node none .leaf (.node none (.node none (.node none .leaf (.node (some { frz:=[6,8,156],own:=[],cel:=[],fzs:=[],tmps:=[1,6,7,8,156],sites:=[1,7] }) .leaf .leaf)) .leaf) .leaf)) .leaf) .leaf)))) .leaf) .leaf)) .leaf) .leaf)) .leaf)))))))) 88 (some (.node none .leaf (.node none (.node none .leaf (.node none (.node (some { frz:=[1,5],own:=[],cel:=[],fzs:=[],tmps:=[1,2,5],sites:=[2] }) (.node none .leaf (.node none (.node none (.node (some { frz:=[1,5,38],own:=[],cel:=[],fzs:=[],tmps:=[1,2,5,38],sites:=[2] }) .leaf .leaf) .leaf) .leaf)) .leaf) .leaf)) .leaf)))) 102 (some (.node none .leaf (.node none (.node none (.node (some { frz:=[3],own:=[],cel:=[],fzs:=[],tmps:=[1,3],sites:=[1] }) .leaf (.node none .leaf (.node (some { frz:=[16],own:=[],cel:=[],fzs:=[],tmps:=[1,16],sites:=[1] }) .leaf (.node none .leaf (.node (some { frz:=[25],own:=[],cel:=[],fzs:=[],tmps:=[25],sites:=[] }) .leaf .leaf))))) .leaf) .leaf)))) 103 (some (.node none .leaf (.node none (.node none .leaf (.node none (.node (some { frz:=[0,3],own:=[],cel:=[],fzs:=[],tmps:=[0,3],sites:=[] }) .leaf .leaf) .leaf)) .leaf)))) 113 (some (.node none .leaf (.node none (.node none .leaf (.node none (.node (some { frz:=[1,7,8,9],own:=[],cel:=[],fzs:=[],tmps:=[1,7,8,9],sites:=[] }) .leaf .leaf) .leaf)) .leaf)))) 115 (some (.node none .leaf (.node none (.node none .leaf (.node none (.node (some { frz:=[1,7,8,9],own:=[],cel:=[],fzs:=[],tmps:=[1,7,8,9],sites:=[] }) .leaf .leaf) .leaf)) .leaf)))) 116 (some (.node none .leaf (.node none .leaf (.node none (.node none .leaf (.node none (.node (some { frz:=[5,9,10,11],own:=[],cel:=[],fzs:=[],tmps:=[2,3,5,9,10,11],sites:=[2,3] }) (.node none .leaf (.node none .leaf (.node (some { frz:=[5,9,10,11],own:=[],cel:=[],fzs:=[],tmps:=[2,3,5,9,10,11],sites:=[2,3] }) (.node none (.node none .leaf (.node (some { frz:=[5,9,10,11,26],own:=[],cel:=[],fzs:=[],tmps:=[2,3,5,9,10,11,26],sites:=[2,3] }) .leaf .leaf)) .leaf) .leaf))) .leaf) .leaf)) .leaf))))) 117 (some (.node none .leaf (.node none (.node none .leaf (.node none (.node (some { frz:=[1,7,8,9],own:=[],cel:=[],fzs:=[],tmps:=[1,7,8,9],sites:=[] }) .leaf .leaf) .leaf)) .leaf)))) 119 (some (.node none .leaf (.node none (.node (some { frz:=[1,2,10,11],own:=[],cel:=[],fzs:=[],tmps:=[0,1,2,10,11],sites:=[] }) (.node none .leaf (.node none .leaf (.node none (.node none (.node none .leaf (.node (some { frz:=[1,2,10,11,27],own:=[],cel:=[],fzs:=[],tmps:=[0,1,2,10,11,27],sites:=[] }) .leaf .leaf)) .leaf) .leaf))) .leaf) .leaf)))
noncomputable def LA (f:FuncId):LvA:=match lvTabA.get f with
  | some l=>l
  | none=>.leaf
noncomputable def recF {α:Type} (C:Nat→α→α) (z:α) (m:Nat):α:=Nat.rec (motive:=fun _=>α) (C 0 z) (fun m ih=>C (m+1) ih) m
theorem recS {α:Type} {T R:Nat→α} {z:α} {C:Nat→α→α} (h:∀ m,T m=C m (R m)) (h0:R 0=z) (hs:∀ m,R (m+1)=T m):∀ m,T m=recF C z m
  | 0=>by rw[h,h0]; rfl
  | m+1=>by rw[h,hs,recS h h0 hs m]; rfl
theorem bqA {pc : PC} {rk : RK} {k f : Nat} {ds : List D} (fn : Func) (c : Code) (rs : List ResultVar) (h : (P.funcs[f]?, fn.body, (fn.name == "runtime.NumGoroutine" || fn.ntmps < ds.length), fn.results.toList) = (some fn, some c, false, rs)) :
    bodyY P pc noY rk LA (k+1) f ds=codeA P pc noY rk (codeFA P pc noY rk f k) f c (LA f) (doneA P rs) X0A (doneA P rs) (argsA .nil 0 ds) .nil:=by
  simp only[Prod.mk.injEq] at h
  exact body_eqA h.1 h.2.1 h.2.2.1 h.2.2.2
theorem bqY {pc : PC} {k f : Nat} {ds : List D} (fn : Func) (c : Code) (rs : List ResultVar) (h : (P.funcs[f]?, fn.body, (fn.name == "runtime.NumGoroutine" || fn.ntmps < ds.length), fn.results.toList) = (some fn, some c, false, rs)) :
    bodyY P pc nodeY noR LA (k+1) f ds=codeA P pc nodeY noR (codeFA P pc nodeY noR f k) f c (LA f) (doneA P rs) X0A (doneA P rs) (argsA .nil 0 ds) .nil:=by
  simp only[Prod.mk.injEq] at h
  exact body_eqY h.1 h.2.1 h.2.2.1 h.2.2.2
variable (pc:PC) (rk:RK) (k:Nat)
noncomputable def code14:Code:=codeOf 14
noncomputable def results14:List ResultVar:=resOf 14
noncomputable def K14_prrrrr:KA:=(cutKA (LvA.b (LvA.b (LvA.b (LvA.b (LvA.b (LA 14)))))).c (codeA P pc noY rk (codeFA P pc noY rk 14 k) 14 (cR (cR (cR (cR (cR (cR code14)))))) (LvA.b (LvA.b (LvA.b (LvA.b (LvA.b (LvA.b (LA 14))))))) (doneA P results14) X0A (doneA P results14)))
noncomputable def T14_1:=fun(u1:D) (u7:D) (u8:D) (u10:D) (u64:D) (c3:List D)=>labA (codeA P pc noY rk (codeFA P pc noY rk 14 k) 14 (cR (cL (cR (cR (cR (cR (cR code14))))))) (LvA.b (LvA.a (LvA.b (LvA.b (LvA.b (LvA.b (LvA.b (LA 14)))))))) (K14_prrrrr pc rk k) X0A (doneA P results14)) (Tr.set (Tr.set (Tr.set (Tr.set (Tr.set (Tr.set Tr.nil 64 (some (AV.d u64))) 10 (some (AV.d u10))) 8 (some (AV.d u8))) 7 (some (AV.d u7))) 3 (some (AV.loc 3 0))) 1 (some (AV.d u1))) (Tr.set Tr.nil 3 (some (Bx.dat c3 false)))
noncomputable def B14_1 (pc:PC) (k:Nat) (u1:D) (u7:D) (u8:D) (u10:D) (u64:D) (c3:List D):Option D:=
ifU u64 (
some (D.v (Value.bool false))) (
bindO (cutD c3 0 5) fun c_p=>
bindO (splD [(D.v (Value.slice none 0 0)),(D.v (Value.slice none 0 0)),(D.v (Value.slice none 0 0)),(D.v (Value.slice none 0 0)),(D.v (Value.slice none 0 0))] 0 c_p 5) fun c_q=>
bindO (elsD u10) fun l_r=>
bindO (idxD u7 l_r.length) fun i_s=>
bindO (l_r[i_s]?) fun d_t=>
chkK (leafD d_t) (
chkK (leafD d_t) (
chkK (Nat.blt 3 c_q.length) (
bindO (cutD (List.set c_q 3 d_t) 0 5) fun c_u=>
bindO (elsD u1) fun l_v=>
bindO (natI u7) fun i_w=>
chkK (Nat.ble i_w l_v.length && Nat.ble l_v.length l_v.length && l_v.all (szOk 1)) (
bindO (pcD P pc 18 [(D.agg c_u)]) fun d_x=>
bindO (pcD P pc 20 [(D.sl (List.take (l_v.length-i_w) (List.drop i_w l_v)))]) fun d_y=>
bindO (pcD P pc 19 [d_x,d_y]) fun d_z=>
bindO (tupD d_z 0) fun d_10=>
bindO (tupD d_z 1) fun d_11=>
bindO (binD P BinOp.eql 33 (Operand.tmp 81) (Operand.const (Value.int IntKind.i64 0)) d_11 (D.v (Value.int IntKind.i64 0))) fun d_12=>
ifU d_12 (
bindO (elsD d_10) fun l_13=>
bindO (elsD u1) fun l_14=>
bindO (binD P BinOp.sub 3 (Operand.tmp 87) (Operand.tmp 88) (lenD l_14) u7) fun d_15=>
bindO (binD P BinOp.add 3 (Operand.tmp 89) (Operand.const (Value.int IntKind.i64 1)) d_15 (D.v (Value.int IntKind.i64 1))) fun d_16=>
bindO (binD P BinOp.eql 3 (Operand.tmp 85) (Operand.tmp 90) (lenD l_13) d_16) fun d_17=>
ifU d_17 (
bindO (elsD u1) fun l_18=>
bindO (binD P BinOp.sub 3 (Operand.tmp 96) (Operand.tmp 97) (lenD l_18) u7) fun d_19=>
bindO (elsD d_10) fun l_1a=>
bindO (idxD d_19 l_1a.length) fun i_1b=>
bindO (l_1a[i_1b]?) fun d_1c=>
chkK (leafD d_1c) (
bindO (elsD u1) fun l_1d=>
bindO (elsD u8) fun l_1e=>
bindO (idxD (lenD l_1d) l_1e.length) fun i_1f=>
bindO (l_1e[i_1f]?) fun d_1g=>
chkK (leafD d_1g) (
bindO (pcD P pc 48 [d_1c,d_1g]) fun d_1h=>
ifU d_1h (
bindO (binD P BinOp.add 3 (Operand.tmp 111) (Operand.const (Value.int IntKind.i64 1)) u7 (D.v (Value.int IntKind.i64 1))) fun d_1i=>
bindO (elsD u8) fun l_1j=>
bindO (natI d_1i) fun i_1k=>
chkK (Nat.ble 0 i_1k && Nat.ble i_1k l_1j.length && l_1j.all (szOk 1)) (
bindO (pcD P pc 23 [u10,(D.sl (List.take (i_1k-0) (List.drop 0 l_1j)))]) fun d_1l=>
ifU d_1l (
bindO (pcD P pc 16 []) fun d_1m=>
some d_1m) (
some (D.v (Value.bool false))))) (
some (D.v (Value.bool false)))))) (
some (D.v (Value.bool false)))) (
some (D.v (Value.bool false))))))))
noncomputable def C14_1:=B14_1 pc k
theorem h14_1:T14_1 pc rk k=C14_1 pc k:=by kernel_rfl
noncomputable def B14_0 (pc:PC) (k:Nat) (j1:(D→D→D→D→D→List D→Option D)) (v0:D) (v1:D) (v2:D):Option D:=
bindO (aggD v0) fun c_1=>
bindO (cutD c_1 0 5) fun c_2=>
bindO (pcD P pc 37 [(D.agg c_2),v1]) fun d_3=>
bindO (semD P d_3 (Op.unary UnOp.not)) fun d_4=>
ifU d_4 (
bindO (pcD P pc 16 []) fun d_5=>
some d_5) (
bindO (semD P v2 (convert 5 3)) fun d_6=>
bindO (elsD v1) fun l_7=>
bindO (binD P BinOp.add 3 (Operand.tmp 23) (Operand.const (Value.int IntKind.i64 1)) (lenD l_7) (D.v (Value.int IntKind.i64 1))) fun d_8=>
bindO (binD P BinOp.rem 3 (Operand.tmp 21) (Operand.tmp 24) d_6 d_8) fun d_9=>
bindO (cutD c_1 0 5) fun c_a=>
bindO (pcD P pc 18 [(D.agg c_a)]) fun d_b=>
bindO (pcD P pc 20 [v1]) fun d_c=>
bindO (pcD P pc 19 [d_b,d_c]) fun d_d=>
bindO (tupD d_d 0) fun d_e=>
bindO (tupD d_d 1) fun d_f=>
bindO (cutD c_1 0 5) fun c_g=>
bindO (elsD v1) fun l_h=>
bindO (natI d_9) fun i_i=>
chkK (Nat.ble 0 i_i && Nat.ble i_i l_h.length && l_h.all (szOk 1)) (
bindO (pcD P pc 18 [(D.agg c_g)]) fun d_j=>
bindO (pcD P pc 20 [(D.sl (List.take (i_i-0) (List.drop 0 l_h)))]) fun d_k=>
bindO (pcD P pc 19 [d_j,d_k]) fun d_l=>
bindO (tupD d_l 0) fun d_m=>
bindO (tupD d_l 1) fun d_n=>
bindO (binD P BinOp.neq 33 (Operand.tmp 44) (Operand.const (Value.int IntKind.i64 0)) d_f (D.v (Value.int IntKind.i64 0))) fun d_o=>
ifU d_o (
j1 v1 d_9 d_e d_m (D.v (Value.bool true)) c_1) (
bindO (binD P BinOp.neq 33 (Operand.tmp 47) (Operand.const (Value.int IntKind.i64 0)) d_n (D.v (Value.int IntKind.i64 0))) fun d_1n=>
ifU d_1n (
j1 v1 d_9 d_e d_m (D.v (Value.bool true)) c_1) (
bindO (elsD d_e) fun l_1o=>
bindO (elsD v1) fun l_1p=>
bindO (binD P BinOp.add 3 (Operand.tmp 54) (Operand.const (Value.int IntKind.i64 1)) (lenD l_1p) (D.v (Value.int IntKind.i64 1))) fun d_1q=>
bindO (binD P BinOp.neq 3 (Operand.tmp 52) (Operand.tmp 55) (lenD l_1o) d_1q) fun d_1r=>
ifU d_1r (
j1 v1 d_9 d_e d_m (D.v (Value.bool true)) c_1) (
bindO (elsD d_m) fun l_1s=>
bindO (binD P BinOp.add 3 (Operand.tmp 61) (Operand.const (Value.int IntKind.i64 1)) d_9 (D.v (Value.int IntKind.i64 1))) fun d_1t=>
bindO (binD P BinOp.neq 3 (Operand.tmp 60) (Operand.tmp 62) (lenD l_1s) d_1t) fun d_1u=>
j1 v1 d_9 d_e d_m d_1u c_1)))))
noncomputable def C14_0:=B14_0 pc k (C14_1 pc k)
theorem h14_0 (v0:D) (v1:D) (v2:D):bodyY P pc noY rk LA (k+1) 14 [v0,v1,v2]=C14_0 pc k v0 v1 v2:=(bqA Go.Proofs.Tryz.f14 code14 results14 (by kernel_rfl)).trans (Eq.trans (b:=B14_0 pc k (T14_1 pc rk k) v0 v1 v2) (by kernel_rfl) (by rw[h14_1]; rfl))
noncomputable def code15:Code:=codeOf 15
noncomputable def results15:List ResultVar:=resOf 15
noncomputable def B15_0 (pc:PC) (k:Nat) (v0:D) (v1:D):Option D:=
bindO (aggD v0) fun c_1=>
bindO (cutD c_1 0 3) fun c_2=>
bindO (c_1[3]?) fun d_3=>
bindO (pcD P pc 51 [(D.agg c_2),d_3]) fun d_4=>
ifU d_4 (
bindO (c_1[4]?) fun d_5=>
bindO (elsD d_5) fun l_6=>
bindO (binD P BinOp.leq 3 (Operand.tmp 13) (Operand.const (Value.int IntKind.i64 11)) (lenD l_6) (D.v (Value.int IntKind.i64 11))) fun d_7=>
ifU d_7 (
bindO (pcD P pc 52 [v1]) fun d_8=>
some d_8) (
some (D.v (Value.bool false)))) (
some (D.v (Value.bool false)))
noncomputable def C15_0:=B15_0 pc k
theorem h15_0 (v0:D) (v1:D):bodyY P pc noY rk LA (k+1) 15 [v0,v1]=C15_0 pc k v0 v1:=(bqA Go.Proofs.Tryz.f15 code15 results15 (by kernel_rfl)).trans (by kernel_rfl)
noncomputable def code18:Code:=codeOf 18
noncomputable def results18:List ResultVar:=resOf 18
noncomputable def B18_0 (pc:PC) (k:Nat) (v0:D):Option D:=
bindO (aggD v0) fun c_1=>
bindO (cutD c_1 0 3) fun c_2=>
bindO (c_1[3]?) fun d_3=>
bindO (c_1[4]?) fun d_4=>
bindO (pcD P pc 56 [(D.agg c_2)]) fun d_5=>
bindO (pcD P pc 27 [d_3]) fun d_6=>
bindO (pcD P pc 27 [d_4]) fun d_7=>
bindO (fillD [(D.v (Value.slice none 0 0)),(D.v (Value.slice none 0 0)),(D.v (Value.slice none 0 0)),(D.v (Value.slice none 0 0)),(D.v (Value.slice none 0 0))] [(0,3,d_5),(3,1,d_6),(4,1,d_7)]) fun c_8=>
bindO (splD [(D.v (Value.slice none 0 0)),(D.v (Value.slice none 0 0)),(D.v (Value.slice none 0 0)),(D.v (Value.slice none 0 0)),(D.v (Value.slice none 0 0))] 0 c_8 5) fun c_9=>
bindO (cutD c_9 0 5) fun c_a=>
some (D.agg c_a)
noncomputable def C18_0:=B18_0 pc k
theorem h18_0 (v0:D):bodyY P pc noY rk LA (k+1) 18 [v0]=C18_0 pc k v0:=(bqA Go.Proofs.Tryz.f18 code18 results18 (by kernel_rfl)).trans (by kernel_rfl)
noncomputable def code19:Code:=codeOf 19
noncomputable def results19:List ResultVar:=resOf 19
noncomputable def B19_0 (pc:PC) (k:Nat) (v0:D) (v1:D):Option D:=
bindO (aggD v0) fun c_1=>
bindO (cutD c_1 0 5) fun c_2=>
bindO (pcD P pc 57 [(D.agg c_2),v1]) fun d_3=>
bindO (tupD d_3 0) fun d_4=>
bindO (tupD d_3 1) fun d_5=>
bindO (tupD d_3 2) fun d_6=>
bindO (binD P BinOp.neq 33 (Operand.tmp 16) (Operand.const (Value.int IntKind.i64 0)) d_6 (D.v (Value.int IntKind.i64 0))) fun d_7=>
ifU d_7 (
some (D.tup [(D.v (Value.slice none 0 0)),d_6])) (
bindO (pcD P pc 59 [d_4,d_5]) fun d_8=>
bindO (pcD P pc 58 [d_8]) fun d_9=>
some (D.tup [d_9,(D.v (Value.int IntKind.i64 0))]))
noncomputable def C19_0:=B19_0 pc k
theorem h19_0 (v0:D) (v1:D):bodyY P pc noY rk LA (k+1) 19 [v0,v1]=C19_0 pc k v0 v1:=(bqA Go.Proofs.Tryz.f19 code19 results19 (by kernel_rfl)).trans (by kernel_rfl)
noncomputable def code20:Code:=codeOf 20
noncomputable def results20:List ResultVar:=resOf 20
noncomputable def K20_prr:KA:=(cutKA (LvA.b (LvA.b (LA 20))).c (codeA P pc noY rk (codeFA P pc noY rk 20 k) 20 (cR (cR (cR code20))) (LvA.b (LvA.b (LvA.b (LA 20)))) (doneA P results20) X0A (doneA P results20)))
noncomputable def K20_pxrrlr:(Nat→KA):=(upA 0 (K20_prr pc rk k) X0A)
noncomputable def K20_prrlrl (m1:Nat):KA:=(cutKA (LvA.a (LvA.b (LvA.a (LvA.b (LvA.b (LA 20)))))).c (codeFA P pc noY rk 20 m1 (LvA.a (LvA.b (LvA.a (LvA.b (LvA.b (LA 20)))))) (cL (cR (cL (cR (cR code20))))) (K20_prr pc rk k) (K20_pxrrlr pc rk k) (doneA P results20)))
noncomputable def T20_1 (m1:Nat):=fun(u0:D) (u4:D) (l18:List D)=>labA (codeA P pc noY rk (codeFA P pc noY rk 20 m1) 20 (cL (cL (cR (cL (cR (cR code20)))))) (LvA.a (LvA.a (LvA.b (LvA.a (LvA.b (LvA.b (LA 20))))))) (K20_prrlrl pc rk k m1) (K20_pxrrlr pc rk k) (doneA P results20)) (Tr.set (Tr.set (Tr.set Tr.nil 4 (some (AV.d u4))) 3 (some (AV.osl 18))) 0 (some (AV.d u0))) (Tr.set Tr.nil 18 (some (Bx.vec l18 27 1 false)))
noncomputable def R20_1 (m1:Nat):(D→D→List D→Option D):=fun u0 u4 l18=>labA (codeFA P pc noY rk 20 m1 (LvA.a (LvA.b (LvA.a (LvA.b (LvA.b (LA 20)))))) (cL (cR (cL (cR (cR code20))))) (K20_prr pc rk k) (K20_pxrrlr pc rk k) (doneA P results20)) (Tr.set (Tr.set (Tr.set Tr.nil 4 (some (AV.d u4))) 3 (some (AV.osl 18))) 0 (some (AV.d u0))) (Tr.set Tr.nil 18 (some (Bx.vec l18 27 1 false)))
noncomputable def B20_1 (pc:PC) (k:Nat) (m1:Nat) (b1:(D→D→List D→Option D)) (u0:D) (u4:D) (l18:List D):Option D:=
bindO (elsD u0) fun l_1=>
bindO (binD P BinOp.lss 3 (Operand.tmp 5) (Operand.tmp 7) u4 (lenD l_1)) fun d_2=>
ifU d_2 (
bindO (elsD u0) fun l_3=>
bindO (idxD u4 l_3.length) fun i_4=>
bindO (l_3[i_4]?) fun d_5=>
chkK (leafD d_5) (
bindO (pcD P pc 27 [d_5]) fun d_6=>
chkK (leafD d_6) (
bindO (appD l18 [d_6]) fun l_7=>
bindO (binD P BinOp.add 3 (Operand.tmp 9) (Operand.const (Value.int IntKind.i64 1)) u4 (D.v (Value.int IntKind.i64 1))) fun d_8=>
b1 u0 d_8 l_7))) (
some (D.sl l18))
noncomputable def C20_1 (m1:Nat):=B20_1 pc k m1
noncomputable def S20_1:Nat→(D→D→List D→Option D):=recF (C20_1 pc k) (fun _ _ _=>none)
theorem h20_1 (m1:Nat):T20_1 pc rk k m1=C20_1 pc k m1 (R20_1 pc rk k m1):=by kernel_rfl
theorem q20_1 (m:Nat):T20_1 pc rk k m=S20_1 pc k m:=recS (h20_1 pc rk k) (by kernel_rfl) (fun m=>by kernel_rfl) m
noncomputable def B20_0 (pc:PC) (k:Nat) (j1:(D→D→List D→Option D)) (v0:D):Option D:=
j1 v0 (D.v (Value.int IntKind.i64 0)) []
noncomputable def C20_0:=B20_0 pc k (S20_1 pc k k)
theorem h20_0 (v0:D):bodyY P pc noY rk LA (k+1) 20 [v0]=C20_0 pc k v0:=(bqA Go.Proofs.Tryz.f20 code20 results20 (by kernel_rfl)).trans (Eq.trans (b:=B20_0 pc k (T20_1 pc rk k k) v0) (by kernel_rfl) (by rw[q20_1]; rfl))
noncomputable def code21:Code:=codeOf 21
noncomputable def results21:List ResultVar:=resOf 21
noncomputable def B21_0 (pc:PC) (k:Nat) (v0:D):Option D:=
bindO (aggD v0) fun c_1=>
bindO (cutD c_1 0 5) fun c_2=>
bindO (pcD P pc 60 [(D.agg c_2)]) fun d_3=>
some d_3
noncomputable def C21_0:=B21_0 pc k
theorem h21_0 (v0:D):bodyY P pc noY rk LA (k+1) 21 [v0]=C21_0 pc k v0:=(bqA Go.Proofs.Tryz.f21 code21 results21 (by kernel_rfl)).trans (by kernel_rfl)
noncomputable def code22:Code:=codeOf 22
noncomputable def results22:List ResultVar:=resOf 22
noncomputable def B22_0 (pc:PC) (k:Nat) (v0:D) (v1:D):Option D:=
bindO (aggD v0) fun c_1=>
bindO (cutD c_1 0 5) fun c_2=>
bindO (pcD P pc 21 [(D.agg c_2)]) fun d_3=>
bindO (binD P BinOp.neq 33 (Operand.tmp 8) (Operand.const (Value.int IntKind.i64 0)) d_3 (D.v (Value.int IntKind.i64 0))) fun d_4=>
ifU d_4 (
some d_3) (
bindO (cutD c_1 0 5) fun c_5=>
bindO (pcD P pc 61 [(D.agg c_5),v1]) fun d_6=>
some d_6)
noncomputable def C22_0:=B22_0 pc k
theorem h22_0 (v0:D) (v1:D):bodyY P pc noY rk LA (k+1) 22 [v0,v1]=C22_0 pc k v0 v1:=(bqA Go.Proofs.Tryz.f22 code22 results22 (by kernel_rfl)).trans (by kernel_rfl)
noncomputable def code23:Code:=codeOf 23
noncomputable def results23:List ResultVar:=resOf 23
noncomputable def K23_prr:KA:=(cutKA (LvA.b (LvA.b (LA 23))).c (codeA P pc noY rk (codeFA P pc noY rk 23 k) 23 (cR (cR (cR code23))) (LvA.b (LvA.b (LvA.b (LA 23)))) (doneA P results23) X0A (doneA P results23)))
noncomputable def K23_pxrrlr:(Nat→KA):=(upA 0 (K23_prr pc rk k) X0A)
noncomputable def K23_prrlrl (m1:Nat):KA:=(cutKA (LvA.a (LvA.b (LvA.a (LvA.b (LvA.b (LA 23)))))).c (codeFA P pc noY rk 23 m1 (LvA.a (LvA.b (LvA.a (LvA.b (LvA.b (LA 23)))))) (cL (cR (cL (cR (cR code23))))) (K23_prr pc rk k) (K23_pxrrlr pc rk k) (doneA P results23)))
noncomputable def T23_1 (m1:Nat):=fun(u0:D) (u1:D) (u5:D)=>labA (codeA P pc noY rk (codeFA P pc noY rk 23 m1) 23 (cL (cL (cR (cL (cR (cR code23)))))) (LvA.a (LvA.a (LvA.b (LvA.a (LvA.b (LvA.b (LA 23))))))) (K23_prrlrl pc rk k m1) (K23_pxrrlr pc rk k) (doneA P results23)) (Tr.set (Tr.set (Tr.set Tr.nil 5 (some (AV.d u5))) 1 (some (AV.d u1))) 0 (some (AV.d u0))) Tr.nil
noncomputable def R23_1 (m1:Nat):(D→D→D→Option D):=fun u0 u1 u5=>labA (codeFA P pc noY rk 23 m1 (LvA.a (LvA.b (LvA.a (LvA.b (LvA.b (LA 23)))))) (cL (cR (cL (cR (cR code23))))) (K23_prr pc rk k) (K23_pxrrlr pc rk k) (doneA P results23)) (Tr.set (Tr.set (Tr.set Tr.nil 5 (some (AV.d u5))) 1 (some (AV.d u1))) 0 (some (AV.d u0))) Tr.nil
noncomputable def B23_1 (pc:PC) (k:Nat) (m1:Nat) (b1:(D→D→D→Option D)) (u0:D) (u1:D) (u5:D):Option D:=
bindO (elsD u0) fun l_4=>
bindO (binD P BinOp.lss 3 (Operand.tmp 11) (Operand.tmp 13) u5 (lenD l_4)) fun d_5=>
ifU d_5 (
bindO (elsD u0) fun l_6=>
bindO (idxD u5 l_6.length) fun i_7=>
bindO (l_6[i_7]?) fun d_8=>
chkK (leafD d_8) (
bindO (elsD u1) fun l_9=>
bindO (idxD u5 l_9.length) fun i_a=>
bindO (l_9[i_a]?) fun d_b=>
chkK (leafD d_b) (
bindO (pcD P pc 48 [d_8,d_b]) fun d_c=>
bindO (semD P d_c (Op.unary UnOp.not)) fun d_d=>
ifU d_d (
some (D.v (Value.bool false))) (
bindO (binD P BinOp.add 3 (Operand.tmp 15) (Operand.const (Value.int IntKind.i64 1)) u5 (D.v (Value.int IntKind.i64 1))) fun d_e=>
b1 u0 u1 d_e)))) (
some (D.v (Value.bool true)))
noncomputable def C23_1 (m1:Nat):=B23_1 pc k m1
noncomputable def S23_1:Nat→(D→D→D→Option D):=recF (C23_1 pc k) (fun _ _ _=>none)
theorem h23_1 (m1:Nat):T23_1 pc rk k m1=C23_1 pc k m1 (R23_1 pc rk k m1):=by kernel_rfl
theorem q23_1 (m:Nat):T23_1 pc rk k m=S23_1 pc k m:=recS (h23_1 pc rk k) (by kernel_rfl) (fun m=>by kernel_rfl) m
noncomputable def B23_0 (pc:PC) (k:Nat) (j1:(D→D→D→Option D)) (v0:D) (v1:D):Option D:=
bindO (elsD v0) fun l_1=>
bindO (elsD v1) fun l_2=>
bindO (binD P BinOp.neq 3 (Operand.tmp 7) (Operand.tmp 9) (lenD l_1) (lenD l_2)) fun d_3=>
ifU d_3 (
some (D.v (Value.bool false))) (
j1 v0 v1 (D.v (Value.int IntKind.i64 0)))
noncomputable def C23_0:=B23_0 pc k (S23_1 pc k k)
theorem h23_0 (v0:D) (v1:D):bodyY P pc noY rk LA (k+1) 23 [v0,v1]=C23_0 pc k v0 v1:=(bqA Go.Proofs.Tryz.f23 code23 results23 (by kernel_rfl)).trans (Eq.trans (b:=B23_0 pc k (T23_1 pc rk k k) v0 v1) (by kernel_rfl) (by rw[q23_1]; rfl))
noncomputable def code27:Code:=codeOf 27
noncomputable def results27:List ResultVar:=resOf 27
noncomputable def B27_0 (pc:PC) (k:Nat) (v0:D):Option D:=
bindO (elsD v0) fun l_1=>
chkK (l_1.all (szOk 1)) (
bindO (appD [] l_1) fun l_2=>
some (D.sl l_2))
noncomputable def C27_0:=B27_0 pc k
theorem h27_0 (v0:D):bodyY P pc noY rk LA (k+1) 27 [v0]=C27_0 pc k v0:=(bqA Go.Proofs.Tryz.f27 code27 results27 (by kernel_rfl)).trans (by kernel_rfl)
noncomputable def code35:Code:=codeOf 35
noncomputable def results35:List ResultVar:=resOf 35
noncomputable def B35_0 (pc:PC) (k:Nat) (v0:D) (v1:D) (v2:D):Option D:=
bindO (binD P BinOp.geq 3 (Operand.tmp 7) (Operand.tmp 8) v0 v1) fun d_1=>
ifU d_1 (
bindO (binD P BinOp.leq 3 (Operand.tmp 11) (Operand.tmp 12) v0 v2) fun d_2=>
some d_2) (
some (D.v (Value.bool false)))
noncomputable def C35_0:=B35_0 pc k
theorem h35_0 (v0:D) (v1:D) (v2:D):bodyY P pc noY rk LA (k+1) 35 [v0,v1,v2]=C35_0 pc k v0 v1 v2:=(bqA Go.Proofs.Tryz.f35 code35 results35 (by kernel_rfl)).trans (by kernel_rfl)
noncomputable def code37:Code:=codeOf 37
noncomputable def results37:List ResultVar:=resOf 37
noncomputable def B37_0 (pc:PC) (k:Nat) (v0:D) (v1:D):Option D:=
bindO (aggD v0) fun c_1=>
bindO (cutD c_1 0 5) fun c_2=>
bindO (pcD P pc 15 [(D.agg c_2),v1]) fun d_3=>
ifU d_3 (
bindO (cutD c_1 0 5) fun c_4=>
bindO (pcD P pc 22 [(D.agg c_4),v1]) fun d_5=>
bindO (binD P BinOp.eql 33 (Operand.tmp 11) (Operand.const (Value.int IntKind.i64 0)) d_5 (D.v (Value.int IntKind.i64 0))) fun d_6=>
some d_6) (
some (D.v (Value.bool false)))
noncomputable def C37_0:=B37_0 pc k
theorem h37_0 (v0:D) (v1:D):bodyY P pc noY rk LA (k+1) 37 [v0,v1]=C37_0 pc k v0 v1:=(bqA Go.Proofs.Tryz.f37 code37 results37 (by kernel_rfl)).trans (by kernel_rfl)
noncomputable def code48:Code:=codeOf 48
noncomputable def results48:List ResultVar:=resOf 48
noncomputable def K48_prr:KA:=(cutKA (LvA.b (LvA.b (LA 48))).c (codeA P pc noY rk (codeFA P pc noY rk 48 k) 48 (cR (cR (cR code48))) (LvA.b (LvA.b (LvA.b (LA 48)))) (doneA P results48) X0A (doneA P results48)))
noncomputable def K48_pxrrlr:(Nat→KA):=(upA 0 (K48_prr pc rk k) X0A)
noncomputable def K48_prrlrl (m1:Nat):KA:=(cutKA (LvA.a (LvA.b (LvA.a (LvA.b (LvA.b (LA 48)))))).c (codeFA P pc noY rk 48 m1 (LvA.a (LvA.b (LvA.a (LvA.b (LvA.b (LA 48)))))) (cL (cR (cL (cR (cR code48))))) (K48_prr pc rk k) (K48_pxrrlr pc rk k) (doneA P results48)))
noncomputable def T48_1 (m1:Nat):=fun(u0:D) (u1:D) (u5:D)=>labA (codeA P pc noY rk (codeFA P pc noY rk 48 m1) 48 (cL (cL (cR (cL (cR (cR code48)))))) (LvA.a (LvA.a (LvA.b (LvA.a (LvA.b (LvA.b (LA 48))))))) (K48_prrlrl pc rk k m1) (K48_pxrrlr pc rk k) (doneA P results48)) (Tr.set (Tr.set (Tr.set Tr.nil 5 (some (AV.d u5))) 1 (some (AV.d u1))) 0 (some (AV.d u0))) Tr.nil
noncomputable def R48_1 (m1:Nat):(D→D→D→Option D):=fun u0 u1 u5=>labA (codeFA P pc noY rk 48 m1 (LvA.a (LvA.b (LvA.a (LvA.b (LvA.b (LA 48)))))) (cL (cR (cL (cR (cR code48))))) (K48_prr pc rk k) (K48_pxrrlr pc rk k) (doneA P results48)) (Tr.set (Tr.set (Tr.set Tr.nil 5 (some (AV.d u5))) 1 (some (AV.d u1))) 0 (some (AV.d u0))) Tr.nil
noncomputable def B48_1 (pc:PC) (k:Nat) (m1:Nat) (b1:(D→D→D→Option D)) (u0:D) (u1:D) (u5:D):Option D:=
bindO (elsD u0) fun l_4=>
bindO (binD P BinOp.lss 3 (Operand.tmp 11) (Operand.tmp 13) u5 (lenD l_4)) fun d_5=>
ifU d_5 (
bindO (elsD u0) fun l_6=>
bindO (idxD u5 l_6.length) fun i_7=>
bindO (l_6[i_7]?) fun d_8=>
chkK (leafD d_8) (
bindO (elsD u1) fun l_9=>
bindO (idxD u5 l_9.length) fun i_a=>
bindO (l_9[i_a]?) fun d_b=>
chkK (leafD d_b) (
bindO (binD P BinOp.neq 3 (Operand.tmp 20) (Operand.tmp 24) d_8 d_b) fun d_c=>
ifU d_c (
some (D.v (Value.bool false))) (
bindO (binD P BinOp.add 3 (Operand.tmp 15) (Operand.const (Value.int IntKind.i64 1)) u5 (D.v (Value.int IntKind.i64 1))) fun d_d=>
b1 u0 u1 d_d)))) (
some (D.v (Value.bool true)))
noncomputable def C48_1 (m1:Nat):=B48_1 pc k m1
noncomputable def S48_1:Nat→(D→D→D→Option D):=recF (C48_1 pc k) (fun _ _ _=>none)
theorem h48_1 (m1:Nat):T48_1 pc rk k m1=C48_1 pc k m1 (R48_1 pc rk k m1):=by kernel_rfl
theorem q48_1 (m:Nat):T48_1 pc rk k m=S48_1 pc k m:=recS (h48_1 pc rk k) (by kernel_rfl) (fun m=>by kernel_rfl) m
noncomputable def B48_0 (pc:PC) (k:Nat) (j1:(D→D→D→Option D)) (v0:D) (v1:D):Option D:=
bindO (elsD v0) fun l_1=>
bindO (elsD v1) fun l_2=>
bindO (binD P BinOp.neq 3 (Operand.tmp 7) (Operand.tmp 9) (lenD l_1) (lenD l_2)) fun d_3=>
ifU d_3 (
some (D.v (Value.bool false))) (
j1 v0 v1 (D.v (Value.int IntKind.i64 0)))
noncomputable def C48_0:=B48_0 pc k (S48_1 pc k k)
theorem h48_0 (v0:D) (v1:D):bodyY P pc noY rk LA (k+1) 48 [v0,v1]=C48_0 pc k v0 v1:=(bqA Go.Proofs.Tryz.f48 code48 results48 (by kernel_rfl)).trans (Eq.trans (b:=B48_0 pc k (T48_1 pc rk k k) v0 v1) (by kernel_rfl) (by rw[q48_1]; rfl))
noncomputable def code51:Code:=codeOf 51
noncomputable def results51:List ResultVar:=resOf 51
noncomputable def B51_0 (pc:PC) (k:Nat) (v0:D) (v1:D):Option D:=
bindO (aggD v0) fun c_1=>
bindO (c_1[0]?) fun d_2=>
bindO (elsD d_2) fun l_3=>
bindO (binD P BinOp.leq 3 (Operand.tmp 7) (Operand.const (Value.int IntKind.i64 11)) (lenD l_3) (D.v (Value.int IntKind.i64 11))) fun d_4=>
ifU d_4 (
bindO (c_1[1]?) fun d_5=>
bindO (elsD d_5) fun l_6=>
bindO (binD P BinOp.leq 3 (Operand.tmp 12) (Operand.const (Value.int IntKind.i64 19)) (lenD l_6) (D.v (Value.int IntKind.i64 19))) fun d_7=>
ifU d_7 (
bindO (c_1[2]?) fun d_8=>
bindO (elsD d_8) fun l_9=>
bindO (binD P BinOp.leq 3 (Operand.tmp 18) (Operand.const (Value.int IntKind.i64 6)) (lenD l_9) (D.v (Value.int IntKind.i64 6))) fun d_a=>
ifU d_a (
bindO (elsD v1) fun l_b=>
bindO (binD P BinOp.leq 3 (Operand.tmp 23) (Operand.const (Value.int IntKind.i64 11)) (lenD l_b) (D.v (Value.int IntKind.i64 11))) fun d_c=>
some d_c) (
some (D.v (Value.bool false)))) (
some (D.v (Value.bool false)))) (
some (D.v (Value.bool false)))
noncomputable def C51_0:=B51_0 pc k
theorem h51_0 (v0:D) (v1:D):bodyY P pc noY rk LA (k+1) 51 [v0,v1]=C51_0 pc k v0 v1:=(bqA Go.Proofs.Tryz.f51 code51 results51 (by kernel_rfl)).trans (by kernel_rfl)
noncomputable def code52:Code:=codeOf 52
noncomputable def results52:List ResultVar:=resOf 52
noncomputable def K52_pr:KA:=(cutKA (LvA.b (LA 52)).c (codeA P pc noY rk (codeFA P pc noY rk 52 k) 52 (cR (cR code52)) (LvA.b (LvA.b (LA 52))) (doneA P results52) X0A (doneA P results52)))
noncomputable def K52_pxrlr:(Nat→KA):=(upA 0 (K52_pr pc rk k) X0A)
noncomputable def K52_prlrl (m1:Nat):KA:=(cutKA (LvA.a (LvA.b (LvA.a (LvA.b (LA 52))))).c (codeFA P pc noY rk 52 m1 (LvA.a (LvA.b (LvA.a (LvA.b (LA 52))))) (cL (cR (cL (cR code52)))) (K52_pr pc rk k) (K52_pxrlr pc rk k) (doneA P results52)))
noncomputable def K52_prlrll (m1:Nat):KA:=(cutKA (LvA.a (LvA.a (LvA.b (LvA.a (LvA.b (LA 52)))))).c (codeA P pc noY rk (codeFA P pc noY rk 52 m1) 52 (cR (cL (cL (cR (cL (cR code52)))))) (LvA.b (LvA.a (LvA.a (LvA.b (LvA.a (LvA.b (LA 52))))))) (K52_prlrl pc rk k m1) (K52_pxrlr pc rk k) (doneA P results52)))
noncomputable def T52_2 (m1:Nat):=fun(u0:D) (u3:D) (u11:D)=>labA (codeA P pc noY rk (codeFA P pc noY rk 52 m1) 52 (cR (cL (cL (cL (cR (cL (cR code52))))))) (LvA.b (LvA.a (LvA.a (LvA.a (LvA.b (LvA.a (LvA.b (LA 52)))))))) (K52_prlrll pc rk k m1) (K52_pxrlr pc rk k) (doneA P results52)) (Tr.set (Tr.set (Tr.set Tr.nil 11 (some (AV.d u11))) 3 (some (AV.d u3))) 0 (some (AV.d u0))) Tr.nil
noncomputable def T52_1 (m1:Nat):=fun(u0:D) (u3:D)=>labA (codeA P pc noY rk (codeFA P pc noY rk 52 m1) 52 (cL (cL (cR (cL (cR code52))))) (LvA.a (LvA.a (LvA.b (LvA.a (LvA.b (LA 52)))))) (K52_prlrl pc rk k m1) (K52_pxrlr pc rk k) (doneA P results52)) (Tr.set (Tr.set Tr.nil 3 (some (AV.d u3))) 0 (some (AV.d u0))) Tr.nil
noncomputable def R52_1 (m1:Nat):(D→D→Option D):=fun u0 u3=>labA (codeFA P pc noY rk 52 m1 (LvA.a (LvA.b (LvA.a (LvA.b (LA 52))))) (cL (cR (cL (cR code52)))) (K52_pr pc rk k) (K52_pxrlr pc rk k) (doneA P results52)) (Tr.set (Tr.set Tr.nil 3 (some (AV.d u3))) 0 (some (AV.d u0))) Tr.nil
noncomputable def B52_2 (pc:PC) (k:Nat) (m1:Nat) (b1:(D→D→Option D)) (u0:D) (u3:D) (u11:D):Option D:=
ifU u11 (
bindO (elsD u0) fun l_4=>
bindO (idxD u3 l_4.length) fun i_5=>
bindO (l_4[i_5]?) fun d_6=>
chkK (leafD d_6) (
bindO (elsD d_6) fun l_7=>
bindO (binD P BinOp.gtr 3 (Operand.tmp 18) (Operand.const (Value.int IntKind.i64 11)) (lenD l_7) (D.v (Value.int IntKind.i64 11))) fun d_8=>
ifU d_8 (
some (D.v (Value.bool false))) (
bindO (binD P BinOp.add 3 (Operand.tmp 12) (Operand.const (Value.int IntKind.i64 1)) u3 (D.v (Value.int IntKind.i64 1))) fun d_9=>
b1 u0 d_9))) (
bindO (elsD u0) fun l_a=>
bindO (binD P BinOp.leq 3 (Operand.tmp 21) (Operand.const (Value.int IntKind.i64 310)) (lenD l_a) (D.v (Value.int IntKind.i64 310))) fun d_b=>
some d_b)
noncomputable def C52_2 (m1:Nat):=B52_2 pc k m1
theorem h52_2 (m1:Nat):T52_2 pc rk k m1=C52_2 pc k m1 (R52_1 pc rk k m1):=by kernel_rfl
noncomputable def B52_1 (pc:PC) (k:Nat) (m1:Nat) (j2:(D→D→D→Option D)) (b1:(D→D→Option D)) (u0:D) (u3:D):Option D:=
bindO (elsD u0) fun l_1=>
bindO (binD P BinOp.lss 3 (Operand.tmp 4) (Operand.tmp 6) u3 (lenD l_1)) fun d_2=>
ifU d_2 (
bindO (binD P BinOp.lss 3 (Operand.tmp 9) (Operand.const (Value.int IntKind.i64 311)) u3 (D.v (Value.int IntKind.i64 311))) fun d_3=>
j2 u0 u3 d_3) (
j2 u0 u3 (D.v (Value.bool false)))
noncomputable def C52_1 (m1:Nat) (b1:(D→D→Option D)):=B52_1 pc k m1 (C52_2 pc k m1 b1) b1
noncomputable def S52_1:Nat→(D→D→Option D):=recF (C52_1 pc k) (fun _ _=>none)
theorem h52_1 (m1:Nat):T52_1 pc rk k m1=C52_1 pc k m1 (R52_1 pc rk k m1):=Eq.trans (b:=B52_1 pc k m1 (T52_2 pc rk k m1) (R52_1 pc rk k m1)) (by kernel_rfl) (by rw[h52_2]; rfl)
theorem q52_1 (m:Nat):T52_1 pc rk k m=S52_1 pc k m:=recS (h52_1 pc rk k) (by kernel_rfl) (fun m=>by kernel_rfl) m
noncomputable def B52_0 (pc:PC) (k:Nat) (j1:(D→D→Option D)) (v0:D):Option D:=
j1 v0 (D.v (Value.int IntKind.i64 0))
noncomputable def C52_0:=B52_0 pc k (S52_1 pc k k)
theorem h52_0 (v0:D):bodyY P pc noY rk LA (k+1) 52 [v0]=C52_0 pc k v0:=(bqA Go.Proofs.Tryz.f52 code52 results52 (by kernel_rfl)).trans (Eq.trans (b:=B52_0 pc k (T52_1 pc rk k k) v0) (by kernel_rfl) (by rw[q52_1]; rfl))
noncomputable def code55:Code:=codeOf 55
noncomputable def results55:List ResultVar:=resOf 55
noncomputable def K55_prr:KA:=(cutKA (LvA.b (LvA.b (LA 55))).c (codeA P pc noY rk (codeFA P pc noY rk 55 k) 55 (cR (cR (cR code55))) (LvA.b (LvA.b (LvA.b (LA 55)))) (doneA P results55) X0A (doneA P results55)))
noncomputable def T55_1:=fun(u30:D)=>labA (codeA P pc noY rk (codeFA P pc noY rk 55 k) 55 (cR (cL (cR (cR code55)))) (LvA.b (LvA.a (LvA.b (LvA.b (LA 55))))) (K55_prr pc rk k) X0A (doneA P results55)) (Tr.set Tr.nil 30 (some (AV.d u30))) Tr.nil
noncomputable def B55_1 (pc:PC) (k:Nat) (u30:D):Option D:=
ifU u30 (
some (D.v (Value.int IntKind.i64 1))) (
some (D.v (Value.int IntKind.i64 0)))
noncomputable def C55_1:=B55_1 pc k
theorem h55_1:T55_1 pc rk k=C55_1 pc k:=by kernel_rfl
noncomputable def B55_0 (pc:PC) (k:Nat) (j1:(D→Option D)) (v0:D):Option D:=
bindO (aggD v0) fun c_1=>
bindO (cutD c_1 0 3) fun c_2=>
bindO (pcD P pc 77 [(D.agg c_2)]) fun d_3=>
bindO (binD P BinOp.neq 33 (Operand.tmp 7) (Operand.const (Value.int IntKind.i64 0)) d_3 (D.v (Value.int IntKind.i64 0))) fun d_4=>
ifU d_4 (
some d_3) (
bindO (cutD c_1 0 5) fun c_5=>
bindO (c_1[3]?) fun d_6=>
bindO (pcD P pc 78 [(D.agg c_5),d_6]) fun d_7=>
bindO (semD P d_7 (Op.unary UnOp.not)) fun d_8=>
ifU d_8 (
j1 (D.v (Value.bool true))) (
bindO (c_1[4]?) fun d_9=>
bindO (elsD d_9) fun l_a=>
bindO (c_1[0]?) fun d_b=>
bindO (elsD d_b) fun l_c=>
bindO (binD P BinOp.neq 3 (Operand.tmp 18) (Operand.tmp 22) (lenD l_a) (lenD l_c)) fun d_d=>
ifU d_d (
j1 (D.v (Value.bool true))) (
bindO (c_1[4]?) fun d_e=>
bindO (pcD P pc 79 [d_e,(D.fn 80 [] [])]) fun d_f=>
bindO (semD P d_f (Op.unary UnOp.not)) fun d_g=>
j1 d_g)))
noncomputable def C55_0:=B55_0 pc k (C55_1 pc k)
theorem h55_0 (v0:D):bodyY P pc noY rk LA (k+1) 55 [v0]=C55_0 pc k v0:=(bqA Go.Proofs.Tryz.f55 code55 results55 (by kernel_rfl)).trans (Eq.trans (b:=B55_0 pc k (T55_1 pc rk k) v0) (by kernel_rfl) (by rw[h55_1]; rfl))
noncomputable def code56:Code:=codeOf 56
noncomputable def results56:List ResultVar:=resOf 56
noncomputable def K56_prr:KA:=(cutKA (LvA.b (LvA.b (LA 56))).c (codeA P pc noY rk (codeFA P pc noY rk 56 k) 56 (cR (cR (cR code56))) (LvA.b (LvA.b (LvA.b (LA 56)))) (doneA P results56) X0A (doneA P results56)))
noncomputable def K56_pxrrlr:(Nat→KA):=(upA 0 (K56_prr pc rk k) X0A)
noncomputable def K56_prrlrl (m1:Nat):KA:=(cutKA (LvA.a (LvA.b (LvA.a (LvA.b (LvA.b (LA 56)))))).c (codeFA P pc noY rk 56 m1 (LvA.a (LvA.b (LvA.a (LvA.b (LvA.b (LA 56)))))) (cL (cR (cL (cR (cR code56))))) (K56_prr pc rk k) (K56_pxrrlr pc rk k) (doneA P results56)))
noncomputable def K56_prrr:KA:=(cutKA (LvA.b (LvA.b (LvA.b (LA 56)))).c (codeA P pc noY rk (codeFA P pc noY rk 56 k) 56 (cR (cR (cR (cR code56)))) (LvA.b (LvA.b (LvA.b (LvA.b (LA 56))))) (doneA P results56) X0A (doneA P results56)))
noncomputable def K56_pxrrrlr:(Nat→KA):=(upA 2 (K56_prrr pc rk k) X0A)
noncomputable def K56_prrrlrl (m1:Nat):KA:=(cutKA (LvA.a (LvA.b (LvA.a (LvA.b (LvA.b (LvA.b (LA 56))))))).c (codeFA P pc noY rk 56 m1 (LvA.a (LvA.b (LvA.a (LvA.b (LvA.b (LvA.b (LA 56))))))) (cL (cR (cL (cR (cR (cR code56)))))) (K56_prrr pc rk k) (K56_pxrrrlr pc rk k) (doneA P results56)))
noncomputable def K56_prrrr:KA:=(cutKA (LvA.b (LvA.b (LvA.b (LvA.b (LA 56))))).c (codeA P pc noY rk (codeFA P pc noY rk 56 k) 56 (cR (cR (cR (cR (cR code56))))) (LvA.b (LvA.b (LvA.b (LvA.b (LvA.b (LA 56)))))) (doneA P results56) X0A (doneA P results56)))
noncomputable def K56_pxrrrrlr:(Nat→KA):=(upA 4 (K56_prrrr pc rk k) X0A)
noncomputable def K56_prrrrlrl (m1:Nat):KA:=(cutKA (LvA.a (LvA.b (LvA.a (LvA.b (LvA.b (LvA.b (LvA.b (LA 56)))))))).c (codeFA P pc noY rk 56 m1 (LvA.a (LvA.b (LvA.a (LvA.b (LvA.b (LvA.b (LvA.b (LA 56)))))))) (cL (cR (cL (cR (cR (cR (cR code56))))))) (K56_prrrr pc rk k) (K56_pxrrrrlr pc rk k) (doneA P results56)))
noncomputable def T56_3 (m1:Nat):=fun(u6:D) (c1:List D) (l31:List D) (l56:List D) (l82:List D)=>labA (codeA P pc noY rk (codeFA P pc noY rk 56 m1) 56 (cL (cL (cR (cL (cR (cR (cR (cR code56)))))))) (LvA.a (LvA.a (LvA.b (LvA.a (LvA.b (LvA.b (LvA.b (LvA.b (LA 56))))))))) (K56_prrrrlrl pc rk k m1) (K56_pxrrrrlr pc rk k) (doneA P results56)) (Tr.set (Tr.set (Tr.set (Tr.set Tr.nil 6 (some (AV.d u6))) 3 (some (AV.loc 3 0))) 2 (some (AV.loc 2 0))) 1 (some (AV.loc 1 0))) (Tr.set (Tr.set (Tr.set (Tr.set (Tr.set (Tr.set Tr.nil 82 (some (Bx.vec l82 128 5 false))) 56 (some (Bx.vec l56 131 2 false))) 31 (some (Bx.vec l31 130 2 false))) 3 (some (Bx.box [(AV.osl 31),(AV.osl 56),(AV.osl 82)]))) 2 (some (Bx.dat [(D.v (Value.slice none 0 0)),(D.v (Value.slice none 0 0)),(D.v (Value.slice none 0 0))] false))) 1 (some (Bx.dat c1 false)))
noncomputable def R56_3 (m1:Nat):(D→List D→List D→List D→List D→Option D):=fun u6 c1 l31 l56 l82=>labA (codeFA P pc noY rk 56 m1 (LvA.a (LvA.b (LvA.a (LvA.b (LvA.b (LvA.b (LvA.b (LA 56)))))))) (cL (cR (cL (cR (cR (cR (cR code56))))))) (K56_prrrr pc rk k) (K56_pxrrrrlr pc rk k) (doneA P results56)) (Tr.set (Tr.set (Tr.set (Tr.set Tr.nil 6 (some (AV.d u6))) 3 (some (AV.loc 3 0))) 2 (some (AV.loc 2 0))) 1 (some (AV.loc 1 0))) (Tr.set (Tr.set (Tr.set (Tr.set (Tr.set (Tr.set Tr.nil 82 (some (Bx.vec l82 128 5 false))) 56 (some (Bx.vec l56 131 2 false))) 31 (some (Bx.vec l31 130 2 false))) 3 (some (Bx.box [(AV.osl 31),(AV.osl 56),(AV.osl 82)]))) 2 (some (Bx.dat [(D.v (Value.slice none 0 0)),(D.v (Value.slice none 0 0)),(D.v (Value.slice none 0 0))] false))) 1 (some (Bx.dat c1 false)))
noncomputable def T56_2 (m1:Nat):=fun(u5:D) (c1:List D) (l31:List D) (l56:List D)=>labA (codeA P pc noY rk (codeFA P pc noY rk 56 m1) 56 (cL (cL (cR (cL (cR (cR (cR code56))))))) (LvA.a (LvA.a (LvA.b (LvA.a (LvA.b (LvA.b (LvA.b (LA 56)))))))) (K56_prrrlrl pc rk k m1) (K56_pxrrrlr pc rk k) (doneA P results56)) (Tr.set (Tr.set (Tr.set (Tr.set Tr.nil 5 (some (AV.d u5))) 3 (some (AV.loc 3 0))) 2 (some (AV.loc 2 0))) 1 (some (AV.loc 1 0))) (Tr.set (Tr.set (Tr.set (Tr.set (Tr.set Tr.nil 56 (some (Bx.vec l56 131 2 false))) 31 (some (Bx.vec l31 130 2 false))) 3 (some (Bx.box [(AV.osl 31),(AV.osl 56),(AV.d (D.v (Value.slice none 0 0)))]))) 2 (some (Bx.dat [(D.v (Value.slice none 0 0)),(D.v (Value.slice none 0 0)),(D.v (Value.slice none 0 0))] false))) 1 (some (Bx.dat c1 false)))
noncomputable def R56_2 (m1:Nat):(D→List D→List D→List D→Option D):=fun u5 c1 l31 l56=>labA (codeFA P pc noY rk 56 m1 (LvA.a (LvA.b (LvA.a (LvA.b (LvA.b (LvA.b (LA 56))))))) (cL (cR (cL (cR (cR (cR code56)))))) (K56_prrr pc rk k) (K56_pxrrrlr pc rk k) (doneA P results56)) (Tr.set (Tr.set (Tr.set (Tr.set Tr.nil 5 (some (AV.d u5))) 3 (some (AV.loc 3 0))) 2 (some (AV.loc 2 0))) 1 (some (AV.loc 1 0))) (Tr.set (Tr.set (Tr.set (Tr.set (Tr.set Tr.nil 56 (some (Bx.vec l56 131 2 false))) 31 (some (Bx.vec l31 130 2 false))) 3 (some (Bx.box [(AV.osl 31),(AV.osl 56),(AV.d (D.v (Value.slice none 0 0)))]))) 2 (some (Bx.dat [(D.v (Value.slice none 0 0)),(D.v (Value.slice none 0 0)),(D.v (Value.slice none 0 0))] false))) 1 (some (Bx.dat c1 false)))
noncomputable def T56_1 (m1:Nat):=fun(u4:D) (c1:List D) (l31:List D)=>labA (codeA P pc noY rk (codeFA P pc noY rk 56 m1) 56 (cL (cL (cR (cL (cR (cR code56)))))) (LvA.a (LvA.a (LvA.b (LvA.a (LvA.b (LvA.b (LA 56))))))) (K56_prrlrl pc rk k m1) (K56_pxrrlr pc rk k) (doneA P results56)) (Tr.set (Tr.set (Tr.set (Tr.set Tr.nil 4 (some (AV.d u4))) 3 (some (AV.loc 3 0))) 2 (some (AV.loc 2 0))) 1 (some (AV.loc 1 0))) (Tr.set (Tr.set (Tr.set (Tr.set Tr.nil 31 (some (Bx.vec l31 130 2 false))) 3 (some (Bx.box [(AV.osl 31),(AV.d (D.v (Value.slice none 0 0))),(AV.d (D.v (Value.slice none 0 0)))]))) 2 (some (Bx.dat [(D.v (Value.slice none 0 0)),(D.v (Value.slice none 0 0)),(D.v (Value.slice none 0 0))] false))) 1 (some (Bx.dat c1 false)))
noncomputable def R56_1 (m1:Nat):(D→List D→List D→Option D):=fun u4 c1 l31=>labA (codeFA P pc noY rk 56 m1 (LvA.a (LvA.b (LvA.a (LvA.b (LvA.b (LA 56)))))) (cL (cR (cL (cR (cR code56))))) (K56_prr pc rk k) (K56_pxrrlr pc rk k) (doneA P results56)) (Tr.set (Tr.set (Tr.set (Tr.set Tr.nil 4 (some (AV.d u4))) 3 (some (AV.loc 3 0))) 2 (some (AV.loc 2 0))) 1 (some (AV.loc 1 0))) (Tr.set (Tr.set (Tr.set (Tr.set Tr.nil 31 (some (Bx.vec l31 130 2 false))) 3 (some (Bx.box [(AV.osl 31),(AV.d (D.v (Value.slice none 0 0))),(AV.d (D.v (Value.slice none 0 0)))]))) 2 (some (Bx.dat [(D.v (Value.slice none 0 0)),(D.v (Value.slice none 0 0)),(D.v (Value.slice none 0 0))] false))) 1 (some (Bx.dat c1 false)))
noncomputable def B56_3 (pc:PC) (k:Nat) (m1:Nat) (b3:(D→List D→List D→List D→List D→Option D)) (u6:D) (c1:List D) (l31:List D) (l56:List D) (l82:List D):Option D:=
bindO (c1[2]?) fun d_10=>
bindO (elsD d_10) fun l_11=>
bindO (binD P BinOp.lss 3 (Operand.tmp 58) (Operand.tmp 61) u6 (lenD l_11)) fun d_12=>
ifU d_12 (
bindO (c1[2]?) fun d_13=>
bindO (elsD d_13) fun l_14=>
bindO (idxD u6 l_14.length) fun i_15=>
bindO (l_14[i_15]?) fun d_16=>
bindO (aggD d_16) fun c_17=>
chkK (Nat.beq c_17.length 5) (
bindO (cutD c_17 0 5) fun c_18=>
bindO (splD [(D.v (Value.int IntKind.i64 0)),(D.v (Value.int IntKind.i64 0)),(D.v (Value.int IntKind.i64 0)),(D.v (Value.int IntKind.i64 0)),(D.v (Value.int IntKind.i64 0))] 0 c_18 5) fun c_19=>
bindO (c_19[0]?) fun d_1a=>
bindO (cutD c_19 1 2) fun c_1b=>
bindO (cutD c_19 3 2) fun c_1c=>
bindO (pcD P pc 81 [(D.agg c_1b)]) fun d_1d=>
bindO (pcD P pc 81 [(D.agg c_1c)]) fun d_1e=>
bindO (fillD [(D.v (Value.int IntKind.i64 0)),(D.v (Value.int IntKind.i64 0)),(D.v (Value.int IntKind.i64 0)),(D.v (Value.int IntKind.i64 0)),(D.v (Value.int IntKind.i64 0))] [(0,1,d_1a),(1,2,d_1d),(3,2,d_1e)]) fun c_1f=>
chkK (Nat.beq c_1f.length 5) (
bindO (appD l82 [(D.agg c_1f)]) fun l_1g=>
bindO (binD P BinOp.add 3 (Operand.tmp 63) (Operand.const (Value.int IntKind.i64 1)) u6 (D.v (Value.int IntKind.i64 1))) fun d_1h=>
b3 d_1h c1 l31 l56 l_1g))) (
some (D.agg [(D.sl l31),(D.sl l56),(D.sl l82)]))
noncomputable def C56_3 (m1:Nat):=B56_3 pc k m1
noncomputable def S56_3:Nat→(D→List D→List D→List D→List D→Option D):=recF (C56_3 pc k) (fun _ _ _ _ _=>none)
theorem h56_3 (m1:Nat):T56_3 pc rk k m1=C56_3 pc k m1 (R56_3 pc rk k m1):=by kernel_rfl
theorem q56_3 (m:Nat):T56_3 pc rk k m=S56_3 pc k m:=recS (h56_3 pc rk k) (by kernel_rfl) (fun m=>by kernel_rfl) m
noncomputable def B56_2 (pc:PC) (k:Nat) (m1:Nat) (j3:(D→List D→List D→List D→List D→Option D)) (b2:(D→List D→List D→List D→Option D)) (u5:D) (c1:List D) (l31:List D) (l56:List D):Option D:=
bindO (c1[1]?) fun d_j=>
bindO (elsD d_j) fun l_k=>
bindO (binD P BinOp.lss 3 (Operand.tmp 33) (Operand.tmp 36) u5 (lenD l_k)) fun d_l=>
ifU d_l (
bindO (c1[1]?) fun d_m=>
bindO (elsD d_m) fun l_n=>
bindO (idxD u5 l_n.length) fun i_o=>
bindO (l_n[i_o]?) fun d_p=>
bindO (aggD d_p) fun c_q=>
chkK (Nat.beq c_q.length 2) (
bindO (c_q[0]?) fun d_r=>
bindO (c1[1]?) fun d_s=>
bindO (elsD d_s) fun l_t=>
bindO (idxD u5 l_t.length) fun i_u=>
bindO (l_t[i_u]?) fun d_v=>
bindO (aggD d_v) fun c_w=>
chkK (Nat.beq c_w.length 2) (
bindO ((List.drop 1 c_w)[0]?) fun d_x=>
chkK (leafD d_r) (
chkK (leafD d_x) (
bindO (appD l56 [(D.agg [d_r,d_x])]) fun l_y=>
bindO (binD P BinOp.add 3 (Operand.tmp 38) (Operand.const (Value.int IntKind.i64 1)) u5 (D.v (Value.int IntKind.i64 1))) fun d_z=>
b2 d_z c1 l31 l_y))))) (
j3 (D.v (Value.int IntKind.i64 0)) c1 l31 l56 [])
noncomputable def C56_2 (m1:Nat):=B56_2 pc k m1 (S56_3 pc k k)
noncomputable def S56_2:Nat→(D→List D→List D→List D→Option D):=recF (C56_2 pc k) (fun _ _ _ _=>none)
theorem h56_2 (m1:Nat):T56_2 pc rk k m1=C56_2 pc k m1 (R56_2 pc rk k m1):=Eq.trans (b:=B56_2 pc k m1 (T56_3 pc rk k k) (R56_2 pc rk k m1)) (by kernel_rfl) (by rw[q56_3]; rfl)
theorem q56_2 (m:Nat):T56_2 pc rk k m=S56_2 pc k m:=recS (h56_2 pc rk k) (by kernel_rfl) (fun m=>by kernel_rfl) m
noncomputable def B56_1 (pc:PC) (k:Nat) (m1:Nat) (j2:(D→List D→List D→List D→Option D)) (b1:(D→List D→List D→Option D)) (u4:D) (c1:List D) (l31:List D):Option D:=
bindO (c1[0]?) fun d_2=>
bindO (elsD d_2) fun l_3=>
bindO (binD P BinOp.lss 3 (Operand.tmp 8) (Operand.tmp 11) u4 (lenD l_3)) fun d_4=>
ifU d_4 (
bindO (c1[0]?) fun d_5=>
bindO (elsD d_5) fun l_6=>
bindO (idxD u4 l_6.length) fun i_7=>
bindO (l_6[i_7]?) fun d_8=>
bindO (aggD d_8) fun c_9=>
chkK (Nat.beq c_9.length 2) (
bindO (c_9[0]?) fun d_a=>
bindO (c1[0]?) fun d_b=>
bindO (elsD d_b) fun l_c=>
bindO (idxD u4 l_c.length) fun i_d=>
bindO (l_c[i_d]?) fun d_e=>
bindO (aggD d_e) fun c_f=>
chkK (Nat.beq c_f.length 2) (
bindO ((List.drop 1 c_f)[0]?) fun d_g=>
chkK (leafD d_a) (
chkK (leafD d_g) (
bindO (appD l31 [(D.agg [d_a,d_g])]) fun l_h=>
bindO (binD P BinOp.add 3 (Operand.tmp 13) (Operand.const (Value.int IntKind.i64 1)) u4 (D.v (Value.int IntKind.i64 1))) fun d_i=>
b1 d_i c1 l_h))))) (
j2 (D.v (Value.int IntKind.i64 0)) c1 l31 [])
noncomputable def C56_1 (m1:Nat):=B56_1 pc k m1 (S56_2 pc k k)
noncomputable def S56_1:Nat→(D→List D→List D→Option D):=recF (C56_1 pc k) (fun _ _ _=>none)
theorem h56_1 (m1:Nat):T56_1 pc rk k m1=C56_1 pc k m1 (R56_1 pc rk k m1):=Eq.trans (b:=B56_1 pc k m1 (T56_2 pc rk k k) (R56_1 pc rk k m1)) (by kernel_rfl) (by rw[q56_2]; rfl)
theorem q56_1 (m:Nat):T56_1 pc rk k m=S56_1 pc k m:=recS (h56_1 pc rk k) (by kernel_rfl) (fun m=>by kernel_rfl) m
noncomputable def B56_0 (pc:PC) (k:Nat) (j1:(D→List D→List D→Option D)) (v0:D):Option D:=
bindO (aggD v0) fun c_1=>
j1 (D.v (Value.int IntKind.i64 0)) c_1 []
noncomputable def C56_0:=B56_0 pc k (S56_1 pc k k)
theorem h56_0 (v0:D):bodyY P pc noY rk LA (k+1) 56 [v0]=C56_0 pc k v0:=(bqA Go.Proofs.Tryz.f56 code56 results56 (by kernel_rfl)).trans (Eq.trans (b:=B56_0 pc k (T56_1 pc rk k k) v0) (by kernel_rfl) (by rw[q56_1]; rfl))
noncomputable def code57:Code:=codeOf 57
noncomputable def results57:List ResultVar:=resOf 57
noncomputable def K57_prrrrrr:KA:=(cutKA (LvA.b (LvA.b (LvA.b (LvA.b (LvA.b (LvA.b (LA 57))))))).c (codeA P pc noY rk (codeFA P pc noY rk 57 k) 57 (cR (cR (cR (cR (cR (cR (cR code57))))))) (LvA.b (LvA.b (LvA.b (LvA.b (LvA.b (LvA.b (LvA.b (LA 57)))))))) (doneA P results57) X0A (doneA P results57)))
noncomputable def K57_pxrrrrrrlr:(Nat→KA):=(upA 0 (K57_prrrrrr pc rk k) X0A)
noncomputable def K57_prrrrrrlrl (m1:Nat):KA:=(cutKA (LvA.a (LvA.b (LvA.a (LvA.b (LvA.b (LvA.b (LvA.b (LvA.b (LvA.b (LA 57)))))))))).c (codeFA P pc noY rk 57 m1 (LvA.a (LvA.b (LvA.a (LvA.b (LvA.b (LvA.b (LvA.b (LvA.b (LvA.b (LA 57)))))))))) (cL (cR (cL (cR (cR (cR (cR (cR (cR code57))))))))) (K57_prrrrrr pc rk k) (K57_pxrrrrrrlr pc rk k) (doneA P results57)))
noncomputable def T57_1 (m1:Nat):=fun(u7:D) (u34:D) (u35:D) (u36:D) (l33:List D)=>labA (codeA P pc noY rk (codeFA P pc noY rk 57 m1) 57 (cL (cL (cR (cL (cR (cR (cR (cR (cR (cR code57)))))))))) (LvA.a (LvA.a (LvA.b (LvA.a (LvA.b (LvA.b (LvA.b (LvA.b (LvA.b (LvA.b (LA 57))))))))))) (K57_prrrrrrlrl pc rk k m1) (K57_pxrrrrrrlr pc rk k) (doneA P results57)) (Tr.set (Tr.set (Tr.set (Tr.set (Tr.set Tr.nil 36 (some (AV.d u36))) 35 (some (AV.d u35))) 34 (some (AV.d u34))) 9 (some (AV.osl 33))) 7 (some (AV.d u7))) (Tr.set Tr.nil 33 (some (Bx.vec l33 106 1 false)))
noncomputable def R57_1 (m1:Nat):(D→D→D→D→List D→Option D):=fun u7 u34 u35 u36 l33=>labA (codeFA P pc noY rk 57 m1 (LvA.a (LvA.b (LvA.a (LvA.b (LvA.b (LvA.b (LvA.b (LvA.b (LvA.b (LA 57)))))))))) (cL (cR (cL (cR (cR (cR (cR (cR (cR code57))))))))) (K57_prrrrrr pc rk k) (K57_pxrrrrrrlr pc rk k) (doneA P results57)) (Tr.set (Tr.set (Tr.set (Tr.set (Tr.set Tr.nil 36 (some (AV.d u36))) 35 (some (AV.d u35))) 34 (some (AV.d u34))) 9 (some (AV.osl 33))) 7 (some (AV.d u7))) (Tr.set Tr.nil 33 (some (Bx.vec l33 106 1 false)))
noncomputable def B57_1 (pc:PC) (k:Nat) (m1:Nat) (b1:(D→D→D→D→List D→Option D)) (u7:D) (u34:D) (u35:D) (u36:D) (l33:List D):Option D:=
bindO (binD P BinOp.lss 3 (Operand.tmp 36) (Operand.tmp 35) u36 u35) fun d_h=>
ifU d_h (
bindO (elsD u34) fun l_i=>
bindO (idxD u36 l_i.length) fun i_j=>
bindO (l_i[i_j]?) fun d_k=>
chkK (leafD d_k) (
bindO (pcD P pc 83 [d_k]) fun d_l=>
bindO (idxD u36 l33.length) fun i_m=>
bindO (l33[i_m]?) fun d_n=>
chkK (leafD d_n) (
chkK (leafD d_l) (
bindO (binD P BinOp.add 3 (Operand.tmp 36) (Operand.const (Value.int IntKind.i64 1)) u36 (D.v (Value.int IntKind.i64 1))) fun d_o=>
b1 u7 u34 u35 d_o (List.set l33 i_m d_l))))) (
some (D.tup [u7,(D.sl l33),(D.v (Value.int IntKind.i64 0))]))
noncomputable def C57_1 (m1:Nat):=B57_1 pc k m1
noncomputable def S57_1:Nat→(D→D→D→D→List D→Option D):=recF (C57_1 pc k) (fun _ _ _ _ _=>none)
theorem h57_1 (m1:Nat):T57_1 pc rk k m1=C57_1 pc k m1 (R57_1 pc rk k m1):=by kernel_rfl
theorem q57_1 (m:Nat):T57_1 pc rk k m=S57_1 pc k m:=recS (h57_1 pc rk k) (by kernel_rfl) (fun m=>by kernel_rfl) m
noncomputable def B57_0 (pc:PC) (k:Nat) (j1:(D→D→D→D→List D→Option D)) (v0:D) (v1:D):Option D:=
bindO (aggD v0) fun c_1=>
bindO (cutD c_1 0 5) fun c_2=>
bindO (pcD P pc 66 [(D.agg c_2)]) fun d_3=>
bindO (tupD d_3 0) fun d_4=>
bindO (tupD d_3 1) fun d_5=>
bindO (binD P BinOp.neq 33 (Operand.tmp 17) (Operand.const (Value.int IntKind.i64 0)) d_5 (D.v (Value.int IntKind.i64 0))) fun d_6=>
ifU d_6 (
some (D.tup [(D.v (Value.pointer none)),(D.v (Value.slice none 0 0)),d_5])) (
bindO (elsD v1) fun l_7=>
bindO (binD P BinOp.gtr 3 (Operand.tmp 21) (Operand.const (Value.int IntKind.i64 300)) (lenD l_7) (D.v (Value.int IntKind.i64 300))) fun d_8=>
ifU d_8 (
some (D.tup [(D.v (Value.pointer none)),(D.v (Value.slice none 0 0)),(D.v (Value.int IntKind.i64 3))])) (
nilA (AV.d d_4) (
bindO (derefD d_4) fun c_9=>
bindO (cutD c_9 0 5) fun c_a=>
bindO (pcD P pc 82 [v1,(D.fn 78 [(D.agg c_a)] [])]) fun d_b=>
bindO (semD P d_b (Op.unary UnOp.not)) fun d_c=>
ifU d_c (
some (D.tup [(D.v (Value.pointer none)),(D.v (Value.slice none 0 0)),(D.v (Value.int IntKind.i64 2))])) (
bindO (elsD v1) fun l_d=>
bindO (natD (lenD l_d)) fun i_e=>
bindO (natD (lenD l_d)) fun i_f=>
chkK (Nat.ble i_e i_f && Nat.blt i_f 1048576) (
bindO (elsD v1) fun l_g=>
j1 d_4 v1 (lenD l_g) (D.v (Value.int IntKind.i64 0)) (List.replicate i_e (D.v (Value.int IntKind.u64 0))))))))
noncomputable def C57_0:=B57_0 pc k (S57_1 pc k k)
theorem h57_0 (v0:D) (v1:D):bodyY P pc noY rk LA (k+1) 57 [v0,v1]=C57_0 pc k v0 v1:=(bqA Go.Proofs.Tryz.f57 code57 results57 (by kernel_rfl)).trans (Eq.trans (b:=B57_0 pc k (T57_1 pc rk k k) v0 v1) (by kernel_rfl) (by rw[q57_1]; rfl))
noncomputable def code58:Code:=codeOf 58
noncomputable def results58:List ResultVar:=resOf 58
noncomputable def K58_prr:KA:=(cutKA (LvA.b (LvA.b (LA 58))).c (codeA P pc noY rk (codeFA P pc noY rk 58 k) 58 (cR (cR (cR code58))) (LvA.b (LvA.b (LvA.b (LA 58)))) (doneA P results58) X0A (doneA P results58)))
noncomputable def K58_pxrrlr:(Nat→KA):=(upA 0 (K58_prr pc rk k) X0A)
noncomputable def K58_prrlrl (m1:Nat):KA:=(cutKA (LvA.a (LvA.b (LvA.a (LvA.b (LvA.b (LA 58)))))).c (codeFA P pc noY rk 58 m1 (LvA.a (LvA.b (LvA.a (LvA.b (LvA.b (LA 58)))))) (cL (cR (cL (cR (cR code58))))) (K58_prr pc rk k) (K58_pxrrlr pc rk k) (doneA P results58)))
noncomputable def T58_1 (m1:Nat):=fun(u6:D) (u7:D) (u8:D) (l16:List D)=>labA (codeA P pc noY rk (codeFA P pc noY rk 58 m1) 58 (cL (cL (cR (cL (cR (cR code58)))))) (LvA.a (LvA.a (LvA.b (LvA.a (LvA.b (LvA.b (LA 58))))))) (K58_prrlrl pc rk k m1) (K58_pxrrlr pc rk k) (doneA P results58)) (Tr.set (Tr.set (Tr.set (Tr.set Tr.nil 8 (some (AV.d u8))) 7 (some (AV.d u7))) 6 (some (AV.d u6))) 3 (some (AV.osl 16))) (Tr.set Tr.nil 16 (some (Bx.vec l16 27 1 false)))
noncomputable def R58_1 (m1:Nat):(D→D→D→List D→Option D):=fun u6 u7 u8 l16=>labA (codeFA P pc noY rk 58 m1 (LvA.a (LvA.b (LvA.a (LvA.b (LvA.b (LA 58)))))) (cL (cR (cL (cR (cR code58))))) (K58_prr pc rk k) (K58_pxrrlr pc rk k) (doneA P results58)) (Tr.set (Tr.set (Tr.set (Tr.set Tr.nil 8 (some (AV.d u8))) 7 (some (AV.d u7))) 6 (some (AV.d u6))) 3 (some (AV.osl 16))) (Tr.set Tr.nil 16 (some (Bx.vec l16 27 1 false)))
noncomputable def B58_1 (pc:PC) (k:Nat) (m1:Nat) (b1:(D→D→D→List D→Option D)) (u6:D) (u7:D) (u8:D) (l16:List D):Option D:=
bindO (binD P BinOp.lss 3 (Operand.tmp 8) (Operand.tmp 7) u8 u7) fun d_2=>
ifU d_2 (
bindO (elsD u6) fun l_3=>
bindO (idxD u8 l_3.length) fun i_4=>
bindO (l_3[i_4]?) fun d_5=>
chkK (leafD d_5) (
bindO (pcD P pc 84 [d_5]) fun d_6=>
chkK (leafD d_6) (
bindO (appD l16 [d_6]) fun l_7=>
bindO (binD P BinOp.add 3 (Operand.tmp 8) (Operand.const (Value.int IntKind.i64 1)) u8 (D.v (Value.int IntKind.i64 1))) fun d_8=>
b1 u6 u7 d_8 l_7))) (
some (D.sl l16))
noncomputable def C58_1 (m1:Nat):=B58_1 pc k m1
noncomputable def S58_1:Nat→(D→D→D→List D→Option D):=recF (C58_1 pc k) (fun _ _ _ _=>none)
theorem h58_1 (m1:Nat):T58_1 pc rk k m1=C58_1 pc k m1 (R58_1 pc rk k m1):=by kernel_rfl
theorem q58_1 (m:Nat):T58_1 pc rk k m=S58_1 pc k m:=recS (h58_1 pc rk k) (by kernel_rfl) (fun m=>by kernel_rfl) m
noncomputable def B58_0 (pc:PC) (k:Nat) (j1:(D→D→D→List D→Option D)) (v0:D):Option D:=
bindO (elsD v0) fun l_1=>
j1 v0 (lenD l_1) (D.v (Value.int IntKind.i64 0)) []
noncomputable def C58_0:=B58_0 pc k (S58_1 pc k k)
theorem h58_0 (v0:D):bodyY P pc noY rk LA (k+1) 58 [v0]=C58_0 pc k v0:=(bqA Go.Proofs.Tryz.f58 code58 results58 (by kernel_rfl)).trans (Eq.trans (b:=B58_0 pc k (T58_1 pc rk k k) v0) (by kernel_rfl) (by rw[q58_1]; rfl))
noncomputable def code59:Code:=codeOf 59
noncomputable def results59:List ResultVar:=resOf 59
noncomputable def K59_prr:KA:=(cutKA (LvA.b (LvA.b (LA 59))).c (codeA P pc noY rk (codeFA P pc noY rk 59 k) 59 (cR (cR (cR code59))) (LvA.b (LvA.b (LvA.b (LA 59)))) (doneA P results59) X0A (doneA P results59)))
noncomputable def K59_pxrrlr:(Nat→KA):=(upA 0 (K59_prr pc rk k) X0A)
noncomputable def K59_prrlrl (m1:Nat):KA:=(cutKA (LvA.a (LvA.b (LvA.a (LvA.b (LvA.b (LA 59)))))).c (codeFA P pc noY rk 59 m1 (LvA.a (LvA.b (LvA.a (LvA.b (LvA.b (LA 59)))))) (cL (cR (cL (cR (cR code59))))) (K59_prr pc rk k) (K59_pxrrlr pc rk k) (doneA P results59)))
noncomputable def T59_1 (m1:Nat):=fun(u0:D) (u15:D) (u16:D) (u17:D) (l14:List D)=>labA (codeA P pc noY rk (codeFA P pc noY rk 59 m1) 59 (cL (cL (cR (cL (cR (cR code59)))))) (LvA.a (LvA.a (LvA.b (LvA.a (LvA.b (LvA.b (LA 59))))))) (K59_prrlrl pc rk k m1) (K59_pxrrlr pc rk k) (doneA P results59)) (Tr.set (Tr.set (Tr.set (Tr.set (Tr.set Tr.nil 17 (some (AV.d u17))) 16 (some (AV.d u16))) 15 (some (AV.d u15))) 5 (some (AV.osl 14))) 0 (some (AV.d u0))) (Tr.set Tr.nil 14 (some (Bx.vec l14 106 1 false)))
noncomputable def R59_1 (m1:Nat):(D→D→D→D→List D→Option D):=fun u0 u15 u16 u17 l14=>labA (codeFA P pc noY rk 59 m1 (LvA.a (LvA.b (LvA.a (LvA.b (LvA.b (LA 59)))))) (cL (cR (cL (cR (cR code59))))) (K59_prr pc rk k) (K59_pxrrlr pc rk k) (doneA P results59)) (Tr.set (Tr.set (Tr.set (Tr.set (Tr.set Tr.nil 17 (some (AV.d u17))) 16 (some (AV.d u16))) 15 (some (AV.d u15))) 5 (some (AV.osl 14))) 0 (some (AV.d u0))) (Tr.set Tr.nil 14 (some (Bx.vec l14 106 1 false)))
noncomputable def B59_1 (pc:PC) (k:Nat) (m1:Nat) (b1:(D→D→D→D→List D→Option D)) (u0:D) (u15:D) (u16:D) (u17:D) (l14:List D):Option D:=
bindO (binD P BinOp.lss 3 (Operand.tmp 17) (Operand.tmp 16) u17 u16) fun d_5=>
ifU d_5 (
bindO (elsD u15) fun l_6=>
bindO (idxD u17 l_6.length) fun i_7=>
bindO (l_6[i_7]?) fun d_8=>
chkK (leafD d_8) (
bindO (idxD u17 l14.length) fun i_9=>
bindO (l14[i_9]?) fun d_a=>
chkK (leafD d_a) (
bindO (pcD P pc 85 [u0,d_a]) fun d_b=>
bindO (pcD P pc 86 [d_b,d_8]) fun d_c=>
chkK (leafD d_c) (
bindO (appD l14 [d_c]) fun l_d=>
bindO (binD P BinOp.add 3 (Operand.tmp 17) (Operand.const (Value.int IntKind.i64 1)) u17 (D.v (Value.int IntKind.i64 1))) fun d_e=>
b1 u0 u15 u16 d_e l_d)))) (
some (D.sl l14))
noncomputable def C59_1 (m1:Nat):=B59_1 pc k m1
noncomputable def S59_1:Nat→(D→D→D→D→List D→Option D):=recF (C59_1 pc k) (fun _ _ _ _ _=>none)
theorem h59_1 (m1:Nat):T59_1 pc rk k m1=C59_1 pc k m1 (R59_1 pc rk k m1):=by kernel_rfl
theorem q59_1 (m:Nat):T59_1 pc rk k m=S59_1 pc k m:=recS (h59_1 pc rk k) (by kernel_rfl) (fun m=>by kernel_rfl) m
noncomputable def B59_0 (pc:PC) (k:Nat) (j1:(D→D→D→D→List D→Option D)) (v0:D) (v1:D):Option D:=
nilA (AV.d v0) (
bindO (derefD v0) fun c_1=>
bindO ((List.drop 3 c_1)[0]?) fun d_2=>
bindO (pcD P pc 83 [d_2]) fun d_3=>
chkK (leafD d_3) (
bindO (elsD v1) fun l_4=>
j1 v0 v1 (lenD l_4) (D.v (Value.int IntKind.i64 0)) [d_3]))
noncomputable def C59_0:=B59_0 pc k (S59_1 pc k k)
theorem h59_0 (v0:D) (v1:D):bodyY P pc noY rk LA (k+1) 59 [v0,v1]=C59_0 pc k v0 v1:=(bqA Go.Proofs.Tryz.f59 code59 results59 (by kernel_rfl)).trans (Eq.trans (b:=B59_0 pc k (T59_1 pc rk k k) v0 v1) (by kernel_rfl) (by rw[q59_1]; rfl))
noncomputable def code60:Code:=codeOf 60
noncomputable def results60:List ResultVar:=resOf 60
noncomputable def K60_prr:KA:=(cutKA (LvA.b (LvA.b (LA 60))).c (codeA P pc noY rk (codeFA P pc noY rk 60 k) 60 (cR (cR (cR code60))) (LvA.b (LvA.b (LvA.b (LA 60)))) (doneA P results60) X0A (doneA P results60)))
noncomputable def K60_prrr:KA:=(cutKA (LvA.b (LvA.b (LvA.b (LA 60)))).c (codeA P pc noY rk (codeFA P pc noY rk 60 k) 60 (cR (cR (cR (cR code60)))) (LvA.b (LvA.b (LvA.b (LvA.b (LA 60))))) (doneA P results60) X0A (doneA P results60)))
noncomputable def K60_pxrrrlr:(Nat→KA):=(upA 0 (K60_prrr pc rk k) X0A)
noncomputable def K60_prrrlrl (m1:Nat):KA:=(cutKA (LvA.a (LvA.b (LvA.a (LvA.b (LvA.b (LvA.b (LA 60))))))).c (codeFA P pc noY rk 60 m1 (LvA.a (LvA.b (LvA.a (LvA.b (LvA.b (LvA.b (LA 60))))))) (cL (cR (cL (cR (cR (cR code60)))))) (K60_prrr pc rk k) (K60_pxrrrlr pc rk k) (doneA P results60)))
noncomputable def T60_2 (m1:Nat):=fun(u4:D) (c1:List D)=>labA (codeA P pc noY rk (codeFA P pc noY rk 60 m1) 60 (cL (cL (cR (cL (cR (cR (cR code60))))))) (LvA.a (LvA.a (LvA.b (LvA.a (LvA.b (LvA.b (LvA.b (LA 60)))))))) (K60_prrrlrl pc rk k m1) (K60_pxrrrlr pc rk k) (doneA P results60)) (Tr.set (Tr.set Tr.nil 4 (some (AV.d u4))) 1 (some (AV.loc 1 0))) (Tr.set Tr.nil 1 (some (Bx.dat c1 false)))
noncomputable def R60_2 (m1:Nat):(D→List D→Option D):=fun u4 c1=>labA (codeFA P pc noY rk 60 m1 (LvA.a (LvA.b (LvA.a (LvA.b (LvA.b (LvA.b (LA 60))))))) (cL (cR (cL (cR (cR (cR code60)))))) (K60_prrr pc rk k) (K60_pxrrrlr pc rk k) (doneA P results60)) (Tr.set (Tr.set Tr.nil 4 (some (AV.d u4))) 1 (some (AV.loc 1 0))) (Tr.set Tr.nil 1 (some (Bx.dat c1 false)))
noncomputable def T60_1:=fun(u25:D) (c1:List D)=>labA (codeA P pc noY rk (codeFA P pc noY rk 60 k) 60 (cR (cL (cR (cR code60)))) (LvA.b (LvA.a (LvA.b (LvA.b (LA 60))))) (K60_prr pc rk k) X0A (doneA P results60)) (Tr.set (Tr.set Tr.nil 25 (some (AV.d u25))) 1 (some (AV.loc 1 0))) (Tr.set Tr.nil 1 (some (Bx.dat c1 false)))
noncomputable def B60_2 (pc:PC) (k:Nat) (m1:Nat) (b2:(D→List D→Option D)) (u4:D) (c1:List D):Option D:=
bindO (c1[4]?) fun d_9=>
bindO (elsD d_9) fun l_a=>
bindO (binD P BinOp.lss 3 (Operand.tmp 26) (Operand.tmp 29) u4 (lenD l_a)) fun d_b=>
ifU d_b (
bindO (c1[4]?) fun d_c=>
bindO (elsD d_c) fun l_d=>
bindO (idxD u4 l_d.length) fun i_e=>
bindO (l_d[i_e]?) fun d_f=>
chkK (leafD d_f) (
bindO (pcD P pc 35 [d_f,(D.v (Value.int IntKind.i64 0)),(D.v (Value.int IntKind.i64 100))]) fun d_g=>
bindO (semD P d_g (Op.unary UnOp.not)) fun d_h=>
ifU d_h (
some (D.v (Value.int IntKind.i64 1))) (
bindO (binD P BinOp.add 3 (Operand.tmp 31) (Operand.const (Value.int IntKind.i64 1)) u4 (D.v (Value.int IntKind.i64 1))) fun d_i=>
b2 d_i c1))) (
some (D.v (Value.int IntKind.i64 0)))
noncomputable def C60_2 (m1:Nat):=B60_2 pc k m1
noncomputable def S60_2:Nat→(D→List D→Option D):=recF (C60_2 pc k) (fun _ _=>none)
theorem h60_2 (m1:Nat):T60_2 pc rk k m1=C60_2 pc k m1 (R60_2 pc rk k m1):=by kernel_rfl
theorem q60_2 (m:Nat):T60_2 pc rk k m=S60_2 pc k m:=recS (h60_2 pc rk k) (by kernel_rfl) (fun m=>by kernel_rfl) m
noncomputable def B60_1 (pc:PC) (k:Nat) (j2:(D→List D→Option D)) (u25:D) (c1:List D):Option D:=
ifU u25 (
some (D.v (Value.int IntKind.i64 1))) (
j2 (D.v (Value.int IntKind.i64 0)) c1)
noncomputable def C60_1:=B60_1 pc k (S60_2 pc k k)
theorem h60_1:T60_1 pc rk k=C60_1 pc k:=Eq.trans (b:=B60_1 pc k (T60_2 pc rk k k)) (by kernel_rfl) (by rw[q60_2]; rfl)
noncomputable def B60_0 (pc:PC) (k:Nat) (j1:(D→List D→Option D)) (v0:D):Option D:=
bindO (aggD v0) fun c_1=>
bindO (cutD c_1 0 3) fun c_2=>
bindO (pcD P pc 87 [(D.agg c_2)]) fun d_3=>
bindO (binD P BinOp.neq 3 (Operand.tmp 8) (Operand.const (Value.int IntKind.i64 0)) d_3 (D.v (Value.int IntKind.i64 0))) fun d_4=>
ifU d_4 (
some d_3) (
bindO (cutD c_1 0 5) fun c_5=>
bindO (c_1[3]?) fun d_6=>
bindO (pcD P pc 88 [(D.agg c_5),d_6]) fun d_7=>
bindO (semD P d_7 (Op.unary UnOp.not)) fun d_8=>
ifU d_8 (
j1 (D.v (Value.bool true)) c_1) (
bindO (c_1[4]?) fun d_j=>
bindO (elsD d_j) fun l_k=>
bindO (c_1[0]?) fun d_l=>
bindO (elsD d_l) fun l_m=>
bindO (binD P BinOp.neq 3 (Operand.tmp 19) (Operand.tmp 23) (lenD l_k) (lenD l_m)) fun d_n=>
j1 d_n c_1))
noncomputable def C60_0:=B60_0 pc k (C60_1 pc k)
theorem h60_0 (v0:D):bodyY P pc noY rk LA (k+1) 60 [v0]=C60_0 pc k v0:=(bqA Go.Proofs.Tryz.f60 code60 results60 (by kernel_rfl)).trans (Eq.trans (b:=B60_0 pc k (T60_1 pc rk k) v0) (by kernel_rfl) (by rw[h60_1]; rfl))
noncomputable def code61:Code:=codeOf 61
noncomputable def results61:List ResultVar:=resOf 61
noncomputable def K61_prr:KA:=(cutKA (LvA.b (LvA.b (LA 61))).c (codeA P pc noY rk (codeFA P pc noY rk 61 k) 61 (cR (cR (cR code61))) (LvA.b (LvA.b (LvA.b (LA 61)))) (doneA P results61) X0A (doneA P results61)))
noncomputable def K61_pxrrlr:(Nat→KA):=(upA 0 (K61_prr pc rk k) X0A)
noncomputable def K61_prrlrl (m1:Nat):KA:=(cutKA (LvA.a (LvA.b (LvA.a (LvA.b (LvA.b (LA 61)))))).c (codeFA P pc noY rk 61 m1 (LvA.a (LvA.b (LvA.a (LvA.b (LvA.b (LA 61)))))) (cL (cR (cL (cR (cR code61))))) (K61_prr pc rk k) (K61_pxrrlr pc rk k) (doneA P results61)))
noncomputable def T61_1 (m1:Nat):=fun(u1:D) (u5:D) (c2:List D)=>labA (codeA P pc noY rk (codeFA P pc noY rk 61 m1) 61 (cL (cL (cR (cL (cR (cR code61)))))) (LvA.a (LvA.a (LvA.b (LvA.a (LvA.b (LvA.b (LA 61))))))) (K61_prrlrl pc rk k m1) (K61_pxrrlr pc rk k) (doneA P results61)) (Tr.set (Tr.set (Tr.set Tr.nil 5 (some (AV.d u5))) 2 (some (AV.loc 2 0))) 1 (some (AV.d u1))) (Tr.set Tr.nil 2 (some (Bx.dat c2 false)))
noncomputable def R61_1 (m1:Nat):(D→D→List D→Option D):=fun u1 u5 c2=>labA (codeFA P pc noY rk 61 m1 (LvA.a (LvA.b (LvA.a (LvA.b (LvA.b (LA 61)))))) (cL (cR (cL (cR (cR code61))))) (K61_prr pc rk k) (K61_pxrrlr pc rk k) (doneA P results61)) (Tr.set (Tr.set (Tr.set Tr.nil 5 (some (AV.d u5))) 2 (some (AV.loc 2 0))) 1 (some (AV.d u1))) (Tr.set Tr.nil 2 (some (Bx.dat c2 false)))
noncomputable def B61_1 (pc:PC) (k:Nat) (m1:Nat) (b1:(D→D→List D→Option D)) (u1:D) (u5:D) (c2:List D):Option D:=
bindO (elsD u1) fun l_4=>
bindO (binD P BinOp.lss 3 (Operand.tmp 9) (Operand.tmp 11) u5 (lenD l_4)) fun d_5=>
ifU d_5 (
bindO (cutD c2 0 5) fun c_6=>
bindO (elsD u1) fun l_7=>
bindO (idxD u5 l_7.length) fun i_8=>
bindO (l_7[i_8]?) fun d_9=>
chkK (leafD d_9) (
bindO (pcD P pc 88 [(D.agg c_6),d_9]) fun d_a=>
bindO (semD P d_a (Op.unary UnOp.not)) fun d_b=>
ifU d_b (
some (D.v (Value.int IntKind.i64 2))) (
bindO (binD P BinOp.add 3 (Operand.tmp 13) (Operand.const (Value.int IntKind.i64 1)) u5 (D.v (Value.int IntKind.i64 1))) fun d_c=>
b1 u1 d_c c2))) (
some (D.v (Value.int IntKind.i64 0)))
noncomputable def C61_1 (m1:Nat):=B61_1 pc k m1
noncomputable def S61_1:Nat→(D→D→List D→Option D):=recF (C61_1 pc k) (fun _ _ _=>none)
theorem h61_1 (m1:Nat):T61_1 pc rk k m1=C61_1 pc k m1 (R61_1 pc rk k m1):=by kernel_rfl
theorem q61_1 (m:Nat):T61_1 pc rk k m=S61_1 pc k m:=recS (h61_1 pc rk k) (by kernel_rfl) (fun m=>by kernel_rfl) m
noncomputable def B61_0 (pc:PC) (k:Nat) (j1:(D→D→List D→Option D)) (v0:D) (v1:D):Option D:=
bindO (aggD v0) fun c_1=>
bindO (elsD v1) fun l_2=>
bindO (binD P BinOp.gtr 3 (Operand.tmp 7) (Operand.const (Value.int IntKind.i64 300)) (lenD l_2) (D.v (Value.int IntKind.i64 300))) fun d_3=>
ifU d_3 (
some (D.v (Value.int IntKind.i64 3))) (
j1 v1 (D.v (Value.int IntKind.i64 0)) c_1)
noncomputable def C61_0:=B61_0 pc k (S61_1 pc k k)
theorem h61_0 (v0:D) (v1:D):bodyY P pc noY rk LA (k+1) 61 [v0,v1]=C61_0 pc k v0 v1:=(bqA Go.Proofs.Tryz.f61 code61 results61 (by kernel_rfl)).trans (Eq.trans (b:=B61_0 pc k (T61_1 pc rk k k) v0 v1) (by kernel_rfl) (by rw[q61_1]; rfl))
noncomputable def code66:Code:=codeOf 66
noncomputable def results66:List ResultVar:=resOf 66
noncomputable def K66_prrr:KA:=(cutKA (LvA.b (LvA.b (LvA.b (LA 66)))).c (codeA P pc noY rk (codeFA P pc noY rk 66 k) 66 (cR (cR (cR (cR code66)))) (LvA.b (LvA.b (LvA.b (LvA.b (LA 66))))) (doneA P results66) X0A (doneA P results66)))
noncomputable def K66_pxrrrlr:(Nat→KA):=(upA 0 (K66_prrr pc rk k) X0A)
noncomputable def K66_prrrlrl (m1:Nat):KA:=(cutKA (LvA.a (LvA.b (LvA.a (LvA.b (LvA.b (LvA.b (LA 66))))))).c (codeFA P pc noY rk 66 m1 (LvA.a (LvA.b (LvA.a (LvA.b (LvA.b (LvA.b (LA 66))))))) (cL (cR (cL (cR (cR (cR code66)))))) (K66_prrr pc rk k) (K66_pxrrrlr pc rk k) (doneA P results66)))
noncomputable def K66_prrrr:KA:=(cutKA (LvA.b (LvA.b (LvA.b (LvA.b (LA 66))))).c (codeA P pc noY rk (codeFA P pc noY rk 66 k) 66 (cR (cR (cR (cR (cR code66))))) (LvA.b (LvA.b (LvA.b (LvA.b (LvA.b (LA 66)))))) (doneA P results66) X0A (doneA P results66)))
noncomputable def K66_pxrrrrlr:(Nat→KA):=(upA 2 (K66_prrrr pc rk k) X0A)
noncomputable def K66_prrrrlrl (m1:Nat):KA:=(cutKA (LvA.a (LvA.b (LvA.a (LvA.b (LvA.b (LvA.b (LvA.b (LA 66)))))))).c (codeFA P pc noY rk 66 m1 (LvA.a (LvA.b (LvA.a (LvA.b (LvA.b (LvA.b (LvA.b (LA 66)))))))) (cL (cR (cL (cR (cR (cR (cR code66))))))) (K66_prrrr pc rk k) (K66_pxrrrrlr pc rk k) (doneA P results66)))
noncomputable def T66_2 (m1:Nat):=fun(u40:D) (u41:D) (u42:D) (c16:List D)=>labA (codeA P pc noY rk (codeFA P pc noY rk 66 m1) 66 (cL (cL (cR (cL (cR (cR (cR (cR code66)))))))) (LvA.a (LvA.a (LvA.b (LvA.a (LvA.b (LvA.b (LvA.b (LvA.b (LA 66))))))))) (K66_prrrrlrl pc rk k m1) (K66_pxrrrrlr pc rk k) (doneA P results66)) (Tr.set (Tr.set (Tr.set (Tr.set Tr.nil 42 (some (AV.d u42))) 41 (some (AV.d u41))) 40 (some (AV.d u40))) 5 (some (AV.loc 16 0))) (Tr.set Tr.nil 16 (some (Bx.dat c16 false)))
noncomputable def R66_2 (m1:Nat):(D→D→D→List D→Option D):=fun u40 u41 u42 c16=>labA (codeFA P pc noY rk 66 m1 (LvA.a (LvA.b (LvA.a (LvA.b (LvA.b (LvA.b (LvA.b (LA 66)))))))) (cL (cR (cL (cR (cR (cR (cR code66))))))) (K66_prrrr pc rk k) (K66_pxrrrrlr pc rk k) (doneA P results66)) (Tr.set (Tr.set (Tr.set (Tr.set Tr.nil 42 (some (AV.d u42))) 41 (some (AV.d u41))) 40 (some (AV.d u40))) 5 (some (AV.loc 16 0))) (Tr.set Tr.nil 16 (some (Bx.dat c16 false)))
noncomputable def T66_1 (m1:Nat):=fun(u22:D) (u23:D) (c16:List D)=>labA (codeA P pc noY rk (codeFA P pc noY rk 66 m1) 66 (cL (cL (cR (cL (cR (cR (cR code66))))))) (LvA.a (LvA.a (LvA.b (LvA.a (LvA.b (LvA.b (LvA.b (LA 66)))))))) (K66_prrrlrl pc rk k m1) (K66_pxrrrlr pc rk k) (doneA P results66)) (Tr.set (Tr.set (Tr.set Tr.nil 23 (some (AV.d u23))) 22 (some (AV.d u22))) 5 (some (AV.loc 16 0))) (Tr.set Tr.nil 16 (some (Bx.dat c16 false)))
noncomputable def R66_1 (m1:Nat):(D→D→List D→Option D):=fun u22 u23 c16=>labA (codeFA P pc noY rk 66 m1 (LvA.a (LvA.b (LvA.a (LvA.b (LvA.b (LvA.b (LA 66))))))) (cL (cR (cL (cR (cR (cR code66)))))) (K66_prrr pc rk k) (K66_pxrrrlr pc rk k) (doneA P results66)) (Tr.set (Tr.set (Tr.set Tr.nil 23 (some (AV.d u23))) 22 (some (AV.d u22))) 5 (some (AV.loc 16 0))) (Tr.set Tr.nil 16 (some (Bx.dat c16 false)))
noncomputable def B66_2 (pc:PC) (k:Nat) (m1:Nat) (b2:(D→D→D→List D→Option D)) (u40:D) (u41:D) (u42:D) (c16:List D):Option D:=
bindO (binD P BinOp.lss 3 (Operand.tmp 42) (Operand.tmp 41) u42 u41) fun d_f=>
ifU d_f (
bindO (elsD u40) fun l_g=>
bindO (idxD u42 l_g.length) fun i_h=>
bindO (l_g[i_h]?) fun d_i=>
bindO (aggD d_i) fun c_j=>
chkK (Nat.beq c_j.length 2) (
bindO (cutD c_j 0 2) fun c_k=>
bindO (splD [(D.v (Value.int IntKind.i64 0)),(D.v (Value.int IntKind.i64 0))] 0 c_k 2) fun c_l=>
bindO (c_l[0]?) fun d_m=>
bindO (idxD d_m 8) fun i_n=>
bindO (c16[(5+i_n * 1)]?) fun d_o=>
bindO (c_l[1]?) fun d_p=>
chkK (leafD d_p) (
bindO (pcD P pc 83 [(D.sl [d_p])]) fun d_q=>
bindO (binD P BinOp.or 106 (Operand.tmp 52) (Operand.tmp 56) d_o d_q) fun d_r=>
bindO (idxD d_m 8) fun i_s=>
chkK (leafD d_r) (
chkK (Nat.blt (5+i_s * 1) c16.length) (
bindO (c_l[1]?) fun d_t=>
bindO (idxD d_t 8) fun i_u=>
bindO ((List.set c16 (5+i_s * 1) d_r)[(5+i_u * 1)]?) fun d_v=>
bindO (c_l[0]?) fun d_w=>
chkK (leafD d_w) (
bindO (pcD P pc 83 [(D.sl [d_w])]) fun d_x=>
bindO (binD P BinOp.or 106 (Operand.tmp 67) (Operand.tmp 71) d_v d_x) fun d_y=>
bindO (idxD d_t 8) fun i_z=>
chkK (leafD d_y) (
chkK (Nat.blt (5+i_z * 1) (List.set c16 (5+i_s * 1) d_r).length) (
bindO (binD P BinOp.add 3 (Operand.tmp 42) (Operand.const (Value.int IntKind.i64 1)) u42 (D.v (Value.int IntKind.i64 1))) fun d_10=>
b2 u40 u41 d_10 (List.set (List.set c16 (5+i_s * 1) d_r) (5+i_z * 1) d_y))))))))) (
some (D.tup [(D.ref c16),(D.v (Value.int IntKind.i64 0))]))
noncomputable def C66_2 (m1:Nat):=B66_2 pc k m1
noncomputable def S66_2:Nat→(D→D→D→List D→Option D):=recF (C66_2 pc k) (fun _ _ _ _=>none)
theorem h66_2 (m1:Nat):T66_2 pc rk k m1=C66_2 pc k m1 (R66_2 pc rk k m1):=by kernel_rfl
theorem q66_2 (m:Nat):T66_2 pc rk k m=S66_2 pc k m:=recS (h66_2 pc rk k) (by kernel_rfl) (fun m=>by kernel_rfl) m
noncomputable def B66_1 (pc:PC) (k:Nat) (m1:Nat) (j2:(D→D→D→List D→Option D)) (b1:(D→D→List D→Option D)) (u22:D) (u23:D) (c16:List D):Option D:=
bindO (binD P BinOp.lss 3 (Operand.tmp 23) (Operand.tmp 22) u23 u22) fun d_9=>
ifU d_9 (
chkK (leafD u23) (
bindO (pcD P pc 83 [(D.sl [u23])]) fun d_a=>
bindO (idxD u23 8) fun i_b=>
chkK (leafD d_a) (
chkK (Nat.blt (5+i_b * 1) c16.length) (
bindO (binD P BinOp.add 3 (Operand.tmp 23) (Operand.const (Value.int IntKind.i64 1)) u23 (D.v (Value.int IntKind.i64 1))) fun d_c=>
b1 u22 d_c (List.set c16 (5+i_b * 1) d_a))))) (
bindO (c16[1]?) fun d_d=>
bindO (elsD d_d) fun l_e=>
j2 d_d (lenD l_e) (D.v (Value.int IntKind.i64 0)) c16)
noncomputable def C66_1 (m1:Nat):=B66_1 pc k m1 (S66_2 pc k k)
noncomputable def S66_1:Nat→(D→D→List D→Option D):=recF (C66_1 pc k) (fun _ _ _=>none)
theorem h66_1 (m1:Nat):T66_1 pc rk k m1=C66_1 pc k m1 (R66_1 pc rk k m1):=Eq.trans (b:=B66_1 pc k m1 (T66_2 pc rk k k) (R66_1 pc rk k m1)) (by kernel_rfl) (by rw[q66_2]; rfl)
theorem q66_1 (m:Nat):T66_1 pc rk k m=S66_1 pc k m:=recS (h66_1 pc rk k) (by kernel_rfl) (fun m=>by kernel_rfl) m
noncomputable def B66_0 (pc:PC) (k:Nat) (j1:(D→D→List D→Option D)) (v0:D):Option D:=
bindO (aggD v0) fun c_1=>
bindO (cutD c_1 0 5) fun c_2=>
bindO (pcD P pc 55 [(D.agg c_2)]) fun d_3=>
bindO (binD P BinOp.neq 33 (Operand.tmp 11) (Operand.const (Value.int IntKind.i64 0)) d_3 (D.v (Value.int IntKind.i64 0))) fun d_4=>
ifU d_4 (
some (D.tup [(D.v (Value.pointer none)),d_3])) (
bindO (cutD c_1 0 5) fun c_5=>
bindO (fillD [(D.v (Value.slice none 0 0)),(D.v (Value.slice none 0 0)),(D.v (Value.slice none 0 0)),(D.v (Value.slice none 0 0)),(D.v (Value.slice none 0 0)),(D.v (Value.int IntKind.u64 0)),(D.v (Value.int IntKind.u64 0)),(D.v (Value.int IntKind.u64 0)),(D.v (Value.int IntKind.u64 0)),(D.v (Value.int IntKind.u64 0)),(D.v (Value.int IntKind.u64 0)),(D.v (Value.int IntKind.u64 0)),(D.v (Value.int IntKind.u64 0))] [(0,5,(D.agg c_5))]) fun c_6=>
bindO (c_6[4]?) fun d_7=>
bindO (elsD d_7) fun l_8=>
j1 (lenD l_8) (D.v (Value.int IntKind.i64 0)) c_6)
noncomputable def C66_0:=B66_0 pc k (S66_1 pc k k)
theorem h66_0 (v0:D):bodyY P pc noY rk LA (k+1) 66 [v0]=C66_0 pc k v0:=(bqA Go.Proofs.Tryz.f66 code66 results66 (by kernel_rfl)).trans (Eq.trans (b:=B66_0 pc k (T66_1 pc rk k k) v0) (by kernel_rfl) (by rw[q66_1]; rfl))
noncomputable def code77:Code:=codeOf 77
noncomputable def results77:List ResultVar:=resOf 77
noncomputable def B77_0 (pc:PC) (k:Nat) (v0:D):Option D:=
bindO (aggD v0) fun c_1=>
bindO (cutD c_1 0 3) fun c_2=>
bindO (pcD P pc 102 [(D.agg c_2)]) fun d_3=>
some d_3
noncomputable def C77_0:=B77_0 pc k
theorem h77_0 (v0:D):bodyY P pc noY rk LA (k+1) 77 [v0]=C77_0 pc k v0:=(bqA Go.Proofs.Tryz.f77 code77 results77 (by kernel_rfl)).trans (by kernel_rfl)
noncomputable def code78:Code:=codeOf 78
noncomputable def results78:List ResultVar:=resOf 78
noncomputable def B78_0 (pc:PC) (k:Nat) (v0:D) (v1:D):Option D:=
bindO (aggD v0) fun c_1=>
bindO (cutD c_1 0 5) fun c_2=>
bindO (pcD P pc 79 [v1,(D.fn 93 [(D.agg c_2)] [])]) fun d_3=>
ifU d_3 (
bindO (pcD P pc 103 [v1]) fun d_4=>
some d_4) (
some (D.v (Value.bool false)))
noncomputable def C78_0:=B78_0 pc k
theorem h78_0 (v0:D) (v1:D):bodyY P pc noY rk LA (k+1) 78 [v0,v1]=C78_0 pc k v0 v1:=(bqA Go.Proofs.Tryz.f78 code78 results78 (by kernel_rfl)).trans (by kernel_rfl)
noncomputable def code79:Code:=codeOf 79
noncomputable def results79:List ResultVar:=resOf 79
noncomputable def K79_pr:KA:=(cutKA (LvA.b (LA 79)).c (codeA P pc noY rk (codeFA P pc noY rk 79 k) 79 (cR (cR code79)) (LvA.b (LvA.b (LA 79))) (doneA P results79) X0A (doneA P results79)))
noncomputable def K79_pxrlr:(Nat→KA):=(upA 0 (K79_pr pc rk k) X0A)
noncomputable def K79_prlrl (m1:Nat):KA:=(cutKA (LvA.a (LvA.b (LvA.a (LvA.b (LA 79))))).c (codeFA P pc noY rk 79 m1 (LvA.a (LvA.b (LvA.a (LvA.b (LA 79))))) (cL (cR (cL (cR code79)))) (K79_pr pc rk k) (K79_pxrlr pc rk k) (doneA P results79)))
noncomputable def T79_1 (m1:Nat):=fun(u1:D) (u7:D) (u8:D) (u9:D)=>labA (codeA P pc noY rk (codeFA P pc noY rk 79 m1) 79 (cL (cL (cR (cL (cR code79))))) (LvA.a (LvA.a (LvA.b (LvA.a (LvA.b (LA 79)))))) (K79_prlrl pc rk k m1) (K79_pxrlr pc rk k) (doneA P results79)) (Tr.set (Tr.set (Tr.set (Tr.set Tr.nil 9 (some (AV.d u9))) 8 (some (AV.d u8))) 7 (some (AV.d u7))) 1 (some (AV.d u1))) Tr.nil
noncomputable def R79_1 (m1:Nat):(D→D→D→D→Option D):=fun u1 u7 u8 u9=>labA (codeFA P pc noY rk 79 m1 (LvA.a (LvA.b (LvA.a (LvA.b (LA 79))))) (cL (cR (cL (cR code79)))) (K79_pr pc rk k) (K79_pxrlr pc rk k) (doneA P results79)) (Tr.set (Tr.set (Tr.set (Tr.set Tr.nil 9 (some (AV.d u9))) 8 (some (AV.d u8))) 7 (some (AV.d u7))) 1 (some (AV.d u1))) Tr.nil
noncomputable def B79_1 (pc:PC) (k:Nat) (m1:Nat) (b1:(D→D→D→D→Option D)) (u1:D) (u7:D) (u8:D) (u9:D):Option D:=
bindO (binD P BinOp.lss 3 (Operand.tmp 9) (Operand.tmp 8) u9 u8) fun d_2=>
ifU d_2 (
bindO (elsD u7) fun l_3=>
bindO (idxD u9 l_3.length) fun i_4=>
bindO (l_3[i_4]?) fun d_5=>
chkK (leafD d_5) (
fnK u1 fun g a b=>
bindO (pcD P pc g (a++[d_5]++b)) fun d_6=>
bindO (semD P d_6 (Op.unary UnOp.not)) fun d_7=>
ifU d_7 (
some (D.v (Value.bool false))) (
bindO (binD P BinOp.add 3 (Operand.tmp 9) (Operand.const (Value.int IntKind.i64 1)) u9 (D.v (Value.int IntKind.i64 1))) fun d_8=>
b1 u1 u7 u8 d_8))) (
some (D.v (Value.bool true)))
noncomputable def C79_1 (m1:Nat):=B79_1 pc k m1
noncomputable def S79_1:Nat→(D→D→D→D→Option D):=recF (C79_1 pc k) (fun _ _ _ _=>none)
theorem h79_1 (m1:Nat):T79_1 pc rk k m1=C79_1 pc k m1 (R79_1 pc rk k m1):=by kernel_rfl
theorem q79_1 (m:Nat):T79_1 pc rk k m=S79_1 pc k m:=recS (h79_1 pc rk k) (by kernel_rfl) (fun m=>by kernel_rfl) m
noncomputable def B79_0 (pc:PC) (k:Nat) (j1:(D→D→D→D→Option D)) (v0:D) (v1:D):Option D:=
bindO (elsD v0) fun l_1=>
j1 v1 v0 (lenD l_1) (D.v (Value.int IntKind.i64 0))
noncomputable def C79_0:=B79_0 pc k (S79_1 pc k k)
theorem h79_0 (v0:D) (v1:D):bodyY P pc noY rk LA (k+1) 79 [v0,v1]=C79_0 pc k v0 v1:=(bqA Go.Proofs.Tryz.f79 code79 results79 (by kernel_rfl)).trans (Eq.trans (b:=B79_0 pc k (T79_1 pc rk k k) v0 v1) (by kernel_rfl) (by rw[q79_1]; rfl))
noncomputable def code80:Code:=codeOf 80
noncomputable def results80:List ResultVar:=resOf 80
noncomputable def B80_0 (pc:PC) (k:Nat) (v0:D):Option D:=
bindO (binD P BinOp.geq 3 (Operand.tmp 3) (Operand.const (Value.int IntKind.i64 0)) v0 (D.v (Value.int IntKind.i64 0))) fun d_1=>
ifU d_1 (
bindO (binD P BinOp.leq 3 (Operand.tmp 6) (Operand.const (Value.int IntKind.i64 100)) v0 (D.v (Value.int IntKind.i64 100))) fun d_2=>
some d_2) (
some (D.v (Value.bool false)))
noncomputable def C80_0:=B80_0 pc k
theorem h80_0 (v0:D):bodyY P pc noY rk LA (k+1) 80 [v0]=C80_0 pc k v0:=(bqA Go.Proofs.Tryz.f80 code80 results80 (by kernel_rfl)).trans (by kernel_rfl)
noncomputable def code81:Code:=codeOf 81
noncomputable def results81:List ResultVar:=resOf 81
noncomputable def B81_0 (pc:PC) (k:Nat) (v0:D):Option D:=
bindO (aggD v0) fun c_1=>
bindO (c_1[0]?) fun d_2=>
bindO (c_1[1]?) fun d_3=>
chkK (leafD d_2) (
chkK (leafD d_3) (
some (D.agg [d_2,d_3])))
noncomputable def C81_0:=B81_0 pc k
theorem h81_0 (v0:D):bodyY P pc noY rk LA (k+1) 81 [v0]=C81_0 pc k v0:=(bqA Go.Proofs.Tryz.f81 code81 results81 (by kernel_rfl)).trans (by kernel_rfl)
noncomputable def code82:Code:=codeOf 82
noncomputable def results82:List ResultVar:=resOf 82
noncomputable def K82_pr:KA:=(cutKA (LvA.b (LA 82)).c (codeA P pc noY rk (codeFA P pc noY rk 82 k) 82 (cR (cR code82)) (LvA.b (LvA.b (LA 82))) (doneA P results82) X0A (doneA P results82)))
noncomputable def K82_pxrlr:(Nat→KA):=(upA 0 (K82_pr pc rk k) X0A)
noncomputable def K82_prlrl (m1:Nat):KA:=(cutKA (LvA.a (LvA.b (LvA.a (LvA.b (LA 82))))).c (codeFA P pc noY rk 82 m1 (LvA.a (LvA.b (LvA.a (LvA.b (LA 82))))) (cL (cR (cL (cR code82)))) (K82_pr pc rk k) (K82_pxrlr pc rk k) (doneA P results82)))
noncomputable def T82_1 (m1:Nat):=fun(u1:D) (u7:D) (u8:D) (u9:D)=>labA (codeA P pc noY rk (codeFA P pc noY rk 82 m1) 82 (cL (cL (cR (cL (cR code82))))) (LvA.a (LvA.a (LvA.b (LvA.a (LvA.b (LA 82)))))) (K82_prlrl pc rk k m1) (K82_pxrlr pc rk k) (doneA P results82)) (Tr.set (Tr.set (Tr.set (Tr.set Tr.nil 9 (some (AV.d u9))) 8 (some (AV.d u8))) 7 (some (AV.d u7))) 1 (some (AV.d u1))) Tr.nil
noncomputable def R82_1 (m1:Nat):(D→D→D→D→Option D):=fun u1 u7 u8 u9=>labA (codeFA P pc noY rk 82 m1 (LvA.a (LvA.b (LvA.a (LvA.b (LA 82))))) (cL (cR (cL (cR code82)))) (K82_pr pc rk k) (K82_pxrlr pc rk k) (doneA P results82)) (Tr.set (Tr.set (Tr.set (Tr.set Tr.nil 9 (some (AV.d u9))) 8 (some (AV.d u8))) 7 (some (AV.d u7))) 1 (some (AV.d u1))) Tr.nil
noncomputable def B82_1 (pc:PC) (k:Nat) (m1:Nat) (b1:(D→D→D→D→Option D)) (u1:D) (u7:D) (u8:D) (u9:D):Option D:=
bindO (binD P BinOp.lss 3 (Operand.tmp 9) (Operand.tmp 8) u9 u8) fun d_2=>
ifU d_2 (
bindO (elsD u7) fun l_3=>
bindO (idxD u9 l_3.length) fun i_4=>
bindO (l_3[i_4]?) fun d_5=>
chkK (leafD d_5) (
fnK u1 fun g a b=>
bindO (pcD P pc g (a++[d_5]++b)) fun d_6=>
bindO (semD P d_6 (Op.unary UnOp.not)) fun d_7=>
ifU d_7 (
some (D.v (Value.bool false))) (
bindO (binD P BinOp.add 3 (Operand.tmp 9) (Operand.const (Value.int IntKind.i64 1)) u9 (D.v (Value.int IntKind.i64 1))) fun d_8=>
b1 u1 u7 u8 d_8))) (
some (D.v (Value.bool true)))
noncomputable def C82_1 (m1:Nat):=B82_1 pc k m1
noncomputable def S82_1:Nat→(D→D→D→D→Option D):=recF (C82_1 pc k) (fun _ _ _ _=>none)
theorem h82_1 (m1:Nat):T82_1 pc rk k m1=C82_1 pc k m1 (R82_1 pc rk k m1):=by kernel_rfl
theorem q82_1 (m:Nat):T82_1 pc rk k m=S82_1 pc k m:=recS (h82_1 pc rk k) (by kernel_rfl) (fun m=>by kernel_rfl) m
noncomputable def B82_0 (pc:PC) (k:Nat) (j1:(D→D→D→D→Option D)) (v0:D) (v1:D):Option D:=
bindO (elsD v0) fun l_1=>
j1 v1 v0 (lenD l_1) (D.v (Value.int IntKind.i64 0))
noncomputable def C82_0:=B82_0 pc k (S82_1 pc k k)
theorem h82_0 (v0:D) (v1:D):bodyY P pc noY rk LA (k+1) 82 [v0,v1]=C82_0 pc k v0 v1:=(bqA Go.Proofs.Tryz.f82 code82 results82 (by kernel_rfl)).trans (Eq.trans (b:=B82_0 pc k (T82_1 pc rk k k) v0 v1) (by kernel_rfl) (by rw[q82_1]; rfl))
noncomputable def code83:Code:=codeOf 83
noncomputable def results83:List ResultVar:=resOf 83
noncomputable def K83_prr:KA:=(cutKA (LvA.b (LvA.b (LA 83))).c (codeA P pc noY rk (codeFA P pc noY rk 83 k) 83 (cR (cR (cR code83))) (LvA.b (LvA.b (LvA.b (LA 83)))) (doneA P results83) X0A (doneA P results83)))
noncomputable def K83_pxrrlr:(Nat→KA):=(upA 0 (K83_prr pc rk k) X0A)
noncomputable def K83_prrlrl (m1:Nat):KA:=(cutKA (LvA.a (LvA.b (LvA.a (LvA.b (LvA.b (LA 83)))))).c (codeFA P pc noY rk 83 m1 (LvA.a (LvA.b (LvA.a (LvA.b (LvA.b (LA 83)))))) (cL (cR (cL (cR (cR code83))))) (K83_prr pc rk k) (K83_pxrrlr pc rk k) (doneA P results83)))
noncomputable def T83_1 (m1:Nat):=fun(u3:D) (u6:D) (u7:D) (u8:D)=>labA (codeA P pc noY rk (codeFA P pc noY rk 83 m1) 83 (cL (cL (cR (cL (cR (cR code83)))))) (LvA.a (LvA.a (LvA.b (LvA.a (LvA.b (LvA.b (LA 83))))))) (K83_prrlrl pc rk k m1) (K83_pxrrlr pc rk k) (doneA P results83)) (Tr.set (Tr.set (Tr.set (Tr.set Tr.nil 8 (some (AV.d u8))) 7 (some (AV.d u7))) 6 (some (AV.d u6))) 3 (some (AV.d u3))) Tr.nil
noncomputable def R83_1 (m1:Nat):(D→D→D→D→Option D):=fun u3 u6 u7 u8=>labA (codeFA P pc noY rk 83 m1 (LvA.a (LvA.b (LvA.a (LvA.b (LvA.b (LA 83)))))) (cL (cR (cL (cR (cR code83))))) (K83_prr pc rk k) (K83_pxrrlr pc rk k) (doneA P results83)) (Tr.set (Tr.set (Tr.set (Tr.set Tr.nil 8 (some (AV.d u8))) 7 (some (AV.d u7))) 6 (some (AV.d u6))) 3 (some (AV.d u3))) Tr.nil
noncomputable def B83_1 (pc:PC) (k:Nat) (m1:Nat) (b1:(D→D→D→D→Option D)) (u3:D) (u6:D) (u7:D) (u8:D):Option D:=
bindO (binD P BinOp.lss 3 (Operand.tmp 8) (Operand.tmp 7) u8 u7) fun d_2=>
ifU d_2 (
bindO (elsD u6) fun l_3=>
bindO (idxD u8 l_3.length) fun i_4=>
bindO (l_3[i_4]?) fun d_5=>
chkK (leafD d_5) (
bindO (binD P BinOp.shl 106 (Operand.const (Value.int IntKind.u64 1)) (Operand.tmp 13) (D.v (Value.int IntKind.u64 1)) d_5) fun d_6=>
bindO (binD P BinOp.or 106 (Operand.tmp 12) (Operand.tmp 14) u3 d_6) fun d_7=>
bindO (binD P BinOp.add 3 (Operand.tmp 8) (Operand.const (Value.int IntKind.i64 1)) u8 (D.v (Value.int IntKind.i64 1))) fun d_8=>
b1 d_7 u6 u7 d_8)) (
some u3)
noncomputable def C83_1 (m1:Nat):=B83_1 pc k m1
noncomputable def S83_1:Nat→(D→D→D→D→Option D):=recF (C83_1 pc k) (fun _ _ _ _=>none)
theorem h83_1 (m1:Nat):T83_1 pc rk k m1=C83_1 pc k m1 (R83_1 pc rk k m1):=by kernel_rfl
theorem q83_1 (m:Nat):T83_1 pc rk k m=S83_1 pc k m:=recS (h83_1 pc rk k) (by kernel_rfl) (fun m=>by kernel_rfl) m
noncomputable def B83_0 (pc:PC) (k:Nat) (j1:(D→D→D→D→Option D)) (v0:D):Option D:=
bindO (elsD v0) fun l_1=>
j1 (D.v (Value.int IntKind.u64 0)) v0 (lenD l_1) (D.v (Value.int IntKind.i64 0))
noncomputable def C83_0:=B83_0 pc k (S83_1 pc k k)
theorem h83_0 (v0:D):bodyY P pc noY rk LA (k+1) 83 [v0]=C83_0 pc k v0:=(bqA Go.Proofs.Tryz.f83 code83 results83 (by kernel_rfl)).trans (Eq.trans (b:=B83_0 pc k (T83_1 pc rk k k) v0) (by kernel_rfl) (by rw[q83_1]; rfl))
noncomputable def code84:Code:=codeOf 84
noncomputable def results84:List ResultVar:=resOf 84
noncomputable def K84_prr:KA:=(cutKA (LvA.b (LvA.b (LA 84))).c (codeA P pc noY rk (codeFA P pc noY rk 84 k) 84 (cR (cR (cR code84))) (LvA.b (LvA.b (LvA.b (LA 84)))) (doneA P results84) X0A (doneA P results84)))
noncomputable def K84_pxrrlr:(Nat→KA):=(upA 0 (K84_prr pc rk k) X0A)
noncomputable def K84_prrlrl (m1:Nat):KA:=(cutKA (LvA.a (LvA.b (LvA.a (LvA.b (LvA.b (LA 84)))))).c (codeFA P pc noY rk 84 m1 (LvA.a (LvA.b (LvA.a (LvA.b (LvA.b (LA 84)))))) (cL (cR (cL (cR (cR code84))))) (K84_prr pc rk k) (K84_pxrrlr pc rk k) (doneA P results84)))
noncomputable def T84_2 (m1:Nat):=fun(u0:D) (u5:D) (l14:List D)=>labA (codeA P pc noY rk (codeFA P pc noY rk 84 m1) 84 (cR (cR (cR (cL (cL (cR (cL (cR (cR code84))))))))) (LvA.b (LvA.b (LvA.b (LvA.a (LvA.a (LvA.b (LvA.a (LvA.b (LvA.b (LA 84)))))))))) (K84_prrlrl pc rk k m1) (K84_pxrrlr pc rk k) (doneA P results84)) (Tr.set (Tr.set (Tr.set Tr.nil 5 (some (AV.d u5))) 3 (some (AV.osl 14))) 0 (some (AV.d u0))) (Tr.set Tr.nil 14 (some (Bx.vec l14 3 1 false)))
noncomputable def T84_1 (m1:Nat):=fun(u0:D) (u5:D) (l14:List D)=>labA (codeA P pc noY rk (codeFA P pc noY rk 84 m1) 84 (cL (cL (cR (cL (cR (cR code84)))))) (LvA.a (LvA.a (LvA.b (LvA.a (LvA.b (LvA.b (LA 84))))))) (K84_prrlrl pc rk k m1) (K84_pxrrlr pc rk k) (doneA P results84)) (Tr.set (Tr.set (Tr.set Tr.nil 5 (some (AV.d u5))) 3 (some (AV.osl 14))) 0 (some (AV.d u0))) (Tr.set Tr.nil 14 (some (Bx.vec l14 3 1 false)))
noncomputable def R84_1 (m1:Nat):(D→D→List D→Option D):=fun u0 u5 l14=>labA (codeFA P pc noY rk 84 m1 (LvA.a (LvA.b (LvA.a (LvA.b (LvA.b (LA 84)))))) (cL (cR (cL (cR (cR code84))))) (K84_prr pc rk k) (K84_pxrrlr pc rk k) (doneA P results84)) (Tr.set (Tr.set (Tr.set Tr.nil 5 (some (AV.d u5))) 3 (some (AV.osl 14))) 0 (some (AV.d u0))) (Tr.set Tr.nil 14 (some (Bx.vec l14 3 1 false)))
noncomputable def B84_2 (pc:PC) (k:Nat) (m1:Nat) (b1:(D→D→List D→Option D)) (u0:D) (u5:D) (l14:List D):Option D:=
bindO (binD P BinOp.add 3 (Operand.tmp 5) (Operand.const (Value.int IntKind.i64 1)) u5 (D.v (Value.int IntKind.i64 1))) fun d_4=>
b1 u0 d_4 l14
noncomputable def C84_2 (m1:Nat):=B84_2 pc k m1
theorem h84_2 (m1:Nat):T84_2 pc rk k m1=C84_2 pc k m1 (R84_1 pc rk k m1):=by kernel_rfl
noncomputable def B84_1 (pc:PC) (k:Nat) (m1:Nat) (j2:(D→D→List D→Option D)) (b1:(D→D→List D→Option D)) (u0:D) (u5:D) (l14:List D):Option D:=
bindO (binD P BinOp.lss 3 (Operand.tmp 5) (Operand.const (Value.int IntKind.i64 8)) u5 (D.v (Value.int IntKind.i64 8))) fun d_1=>
ifU d_1 (
bindO (pcD P pc 94 [u0,u5]) fun d_2=>
ifU d_2 (
chkK (leafD u5) (
bindO (appD l14 [u5]) fun l_3=>
j2 u0 u5 l_3)) (
j2 u0 u5 l14)) (
some (D.sl l14))
noncomputable def C84_1 (m1:Nat) (b1:(D→D→List D→Option D)):=B84_1 pc k m1 (C84_2 pc k m1 b1) b1
noncomputable def S84_1:Nat→(D→D→List D→Option D):=recF (C84_1 pc k) (fun _ _ _=>none)
theorem h84_1 (m1:Nat):T84_1 pc rk k m1=C84_1 pc k m1 (R84_1 pc rk k m1):=Eq.trans (b:=B84_1 pc k m1 (T84_2 pc rk k m1) (R84_1 pc rk k m1)) (by kernel_rfl) (by rw[h84_2]; rfl)
theorem q84_1 (m:Nat):T84_1 pc rk k m=S84_1 pc k m:=recS (h84_1 pc rk k) (by kernel_rfl) (fun m=>by kernel_rfl) m
noncomputable def B84_0 (pc:PC) (k:Nat) (j1:(D→D→List D→Option D)) (v0:D):Option D:=
j1 v0 (D.v (Value.int IntKind.i64 0)) []
noncomputable def C84_0:=B84_0 pc k (S84_1 pc k k)
theorem h84_0 (v0:D):bodyY P pc noY rk LA (k+1) 84 [v0]=C84_0 pc k v0:=(bqA Go.Proofs.Tryz.f84 code84 results84 (by kernel_rfl)).trans (Eq.trans (b:=B84_0 pc k (T84_1 pc rk k k) v0) (by kernel_rfl) (by rw[q84_1]; rfl))
noncomputable def code85:Code:=codeOf 85
noncomputable def results85:List ResultVar:=resOf 85
noncomputable def K85_prr (pc rg pc1:PC) (rk1:List Nat→RK) (k:Nat):KA:=(cutKA (LvA.b (LvA.b (LA 85))).c (codeA P pc noY (rangeA P rg pc1 rk1 (k+1) []) (codeFA P pc noY (rangeA P rg pc1 rk1 (k+1) []) 85 k) 85 (cR (cR (cR code85))) (LvA.b (LvA.b (LvA.b (LA 85)))) (doneA P results85) X0A (doneA P results85)))
noncomputable def K85_pxrrlr (pc rg pc1:PC) (rk1:List Nat→RK) (k:Nat):(Nat→KA):=(upA 0 (K85_prr pc rg pc1 rk1 k) X0A)
noncomputable def E85_2 (pc rg pc1:PC) (rk1:List Nat→RK) (k:Nat) (m1:List (List D)):KA:=fun _ G=>foldA (cfB P pc1 (rk1 ((siteZ (cR (cL (cR (cL (cR (cR code85)))))))::[])) (k+1) 85) (LvA.a (LvA.b (LvA.a (LvA.b (LvA.b (LA 85)))))) (ntm P 85) (rPs (cL (cR (cL (cR (cR code85)))))) (cL (cL (cR (cL (cR (cR code85)))))) (cR (cL (cR (cL (cR (cR code85)))))) (siteZ (cR (cL (cR (cL (cR (cR code85))))))) (K85_prr pc rg pc1 rk1 k) (K85_pxrrlr pc rg pc1 rk1 k) (doneA P results85) m1 G
noncomputable def R85_2 (pc rg pc1:PC) (rk1:List Nat→RK) (k:Nat) (m1:List (List D)):(D→D→Option D):=fun g5_0 e1_9=>labA (E85_2 pc rg pc1 rk1 k m1) Tr.nil (Tr.set (Tr.set Tr.nil 1000001 (some (Bx.env [(5,(AV.loc 5 0)),(9,(AV.d e1_9))]))) 5 (some (Bx.dat [g5_0] false)))
noncomputable def T85_1 (pc rg pc1:PC) (rk1:List Nat→RK) (k:Nat):=fun(u9:D) (g5_0:D)=>labA (fun A G=>getK (opdA (rX (cL (cR (cL (cR (cR code85)))))) A) fun a=>(rangeA P rg pc1 rk1 (k+1) []) (LvA.a (LvA.b (LvA.a (LvA.b (LvA.b (LA 85)))))) 85 a (rPs (cL (cR (cL (cR (cR code85)))))) (cL (cL (cR (cL (cR (cR code85)))))) (cR (cL (cR (cL (cR (cR code85)))))) (K85_prr pc rg pc1 rk1 k) (K85_pxrrlr pc rg pc1 rk1 k) (doneA P results85) A G) (Tr.set (Tr.set Tr.nil 9 (some (AV.d u9))) 5 (some (AV.loc 5 0))) (Tr.set Tr.nil 5 (some (Bx.dat [g5_0] false)))
noncomputable def BN85_2 (pc rg pc1:PC) (k:Nat) (g5_0:D) (e1_9:D):Option D:=
some g5_0
noncomputable def CN85_2 (pc rg pc1:PC) (k:Nat) (g5_0:D) (e1_9:D):Option D:=BN85_2 pc rg pc1 k g5_0 e1_9
noncomputable def B85_2 (pc rg pc1:PC) (k:Nat) (m1:List (List D)) (b2:(D→D→Option D)) (y:List D) (g5_0:D) (e1_9:D):Option D:=
par1 y (fun z1_0=>
chkK (leafD z1_0) (
bindO (pcD P pc1 83 [(D.sl [z1_0])]) fun d_2=>
bindO (binD P BinOp.or 106 (Operand.tmp 11) (Operand.tmp 14) g5_0 d_2) fun d_3=>
chkK (leafD d_3) (
b2 d_3 e1_9)))
noncomputable def C85_2 (pc rg pc1:PC) (k:Nat) (m1:List (List D)):=B85_2 pc rg pc1 k m1
noncomputable def S85_2 (pc rg pc1:PC) (k:Nat):List (List D)→(D→D→Option D):=fun ys=>List.rec (motive:=fun _=>(D→D→Option D)) (CN85_2 pc rg pc1 k) (fun y ys ih=>C85_2 pc rg pc1 k ys ih y) ys
theorem hN85_2 (pc rg pc1:PC) (rk1:List Nat→RK) (k:Nat) (g5_0:D) (e1_9:D):labA (E85_2 pc rg pc1 rk1 k []) Tr.nil (Tr.set (Tr.set Tr.nil 1000001 (some (Bx.env [(5,(AV.loc 5 0)),(9,(AV.d e1_9))]))) 5 (some (Bx.dat [g5_0] false)))=CN85_2 pc rg pc1 k g5_0 e1_9:=by
  have h:labA (E85_2 pc rg pc1 rk1 k []) Tr.nil (Tr.set (Tr.set Tr.nil 1000001 (some (Bx.env [(5,(AV.loc 5 0)),(9,(AV.d e1_9))]))) 5 (some (Bx.dat [g5_0] false)))=BN85_2 pc rg pc1 k g5_0 e1_9:=by kernel_rfl
  rw[h,CN85_2]
theorem h85_2 (pc rg pc1:PC) (rk1:List Nat→RK) (k:Nat) (m1:List (List D)) (y:List D) (g5_0:D) (e1_9:D):labA (E85_2 pc rg pc1 rk1 k (y::m1)) Tr.nil (Tr.set (Tr.set Tr.nil 1000001 (some (Bx.env [(5,(AV.loc 5 0)),(9,(AV.d e1_9))]))) 5 (some (Bx.dat [g5_0] false)))=C85_2 pc rg pc1 k m1 (R85_2 pc rg pc1 rk1 k m1) y g5_0 e1_9:=by kernel_rfl
theorem q85_2 (pc rg pc1:PC) (rk1:List Nat→RK) (k:Nat):∀(ys:List (List D)) (g5_0:D) (e1_9:D),labA (E85_2 pc rg pc1 rk1 k ys) Tr.nil (Tr.set (Tr.set Tr.nil 1000001 (some (Bx.env [(5,(AV.loc 5 0)),(9,(AV.d e1_9))]))) 5 (some (Bx.dat [g5_0] false)))=S85_2 pc rg pc1 k ys g5_0 e1_9
  | [],g5_0,e1_9=>by
    rw[hN85_2]; rfl
  | y::ys,g5_0,e1_9=>by
    rw[h85_2]
    have e:R85_2 pc rg pc1 rk1 k ys=S85_2 pc rg pc1 k ys:=by
      funext g5_0 e1_9
      have e:R85_2 pc rg pc1 rk1 k ys g5_0 e1_9=labA (E85_2 pc rg pc1 rk1 k ys) Tr.nil (Tr.set (Tr.set Tr.nil 1000001 (some (Bx.env [(5,(AV.loc 5 0)),(9,(AV.d e1_9))]))) 5 (some (Bx.dat [g5_0] false))):=rfl
      rw[e]; exact q85_2 ..
    rw[e]; rfl
noncomputable def B85_1 (pc rg pc1:PC) (k:Nat) (j2:(List (List D)→(D→D→Option D))) (u9:D) (g5_0:D):Option D:=
fnK u9 fun g a b=>
chkK (noRes P g && !memN [] (siteZ (cR (cL (cR (cL (cR (cR code85)))))))) (
iterK (fun l=>rg g (a++D.yld l::b)) fun ys=>
j2 ys g5_0 u9)
noncomputable def C85_1 (pc rg pc1:PC) (k:Nat):=B85_1 pc rg pc1 k (S85_2 pc rg pc1 k)
theorem h85_1 (pc rg pc1:PC) (rk1:List Nat→RK) (k:Nat) (u9:D) (g5_0:D):T85_1 pc rg pc1 rk1 k u9 g5_0=C85_1 pc rg pc1 k u9 g5_0:=by
  have h:T85_1 pc rg pc1 rk1 k u9 g5_0=B85_1 pc rg pc1 k (fun ys_ g5_0 e1_9=>labA (E85_2 pc rg pc1 rk1 k ys_) Tr.nil (Tr.set (Tr.set Tr.nil 1000001 (some (Bx.env [(5,(AV.loc 5 0)),(9,(AV.d e1_9))]))) 5 (some (Bx.dat [g5_0] false)))) u9 g5_0:=by kernel_rfl
  rw[h,C85_1]
  have e2:(fun ys_ g5_0 e1_9=>labA (E85_2 pc rg pc1 rk1 k ys_) Tr.nil (Tr.set (Tr.set Tr.nil 1000001 (some (Bx.env [(5,(AV.loc 5 0)),(9,(AV.d e1_9))]))) 5 (some (Bx.dat [g5_0] false))))=(S85_2 pc rg pc1 k):=by funext ys_ g5_0 e1_9; exact q85_2 ..
  rw[e2]
theorem f85_1 (pc rg pc1:PC) (rk1:List Nat→RK) (k:Nat):T85_1 pc rg pc1 rk1 k=C85_1 pc rg pc1 k:=by funext u9 g5_0; exact h85_1 ..
noncomputable def B85_0 (pc rg pc1:PC) (k:Nat) (j1:(D→D→Option D)) (v0:D) (v1:D):Option D:=
bindO (pcD P pc 104 [v0,v1]) fun d_1=>
j1 d_1 (D.v (Value.int IntKind.u64 0))
noncomputable def C85_0 (pc rg pc1:PC) (k:Nat):=B85_0 pc rg pc1 k (C85_1 pc rg pc1 k)
theorem h85_0 (pc rg pc1:PC) (rk1:List Nat→RK) (k:Nat) (v0:D) (v1:D):bodyY P pc noY (rangeA P rg pc1 rk1 (k+1) []) LA (k+1) 85 [v0,v1]=C85_0 pc rg pc1 k v0 v1:=(bqA Go.Proofs.Tryz.f85 code85 results85 (by kernel_rfl)).trans (Eq.trans (b:=B85_0 pc rg pc1 k (T85_1 pc rg pc1 rk1 k) v0 v1) (by kernel_rfl) (by rw[f85_1]; rfl))
noncomputable def code86:Code:=codeOf 86
noncomputable def results86:List ResultVar:=resOf 86
noncomputable def B86_0 (pc:PC) (k:Nat) (v0:D) (v1:D):Option D:=
bindO (binD P BinOp.andNot 106 (Operand.tmp 5) (Operand.tmp 6) v0 v1) fun d_1=>
some d_1
noncomputable def C86_0:=B86_0 pc k
theorem h86_0 (v0:D) (v1:D):bodyY P pc noY rk LA (k+1) 86 [v0,v1]=C86_0 pc k v0 v1:=(bqA Go.Proofs.Tryz.f86 code86 results86 (by kernel_rfl)).trans (by kernel_rfl)
noncomputable def code87:Code:=codeOf 87
noncomputable def results87:List ResultVar:=resOf 87
noncomputable def K87_pr:KA:=(cutKA (LvA.b (LA 87)).c (codeA P pc noY rk (codeFA P pc noY rk 87 k) 87 (cR (cR code87)) (LvA.b (LvA.b (LA 87))) (doneA P results87) X0A (doneA P results87)))
noncomputable def K87_prr:KA:=(cutKA (LvA.b (LvA.b (LA 87))).c (codeA P pc noY rk (codeFA P pc noY rk 87 k) 87 (cR (cR (cR code87))) (LvA.b (LvA.b (LvA.b (LA 87)))) (doneA P results87) X0A (doneA P results87)))
noncomputable def K87_prrr:KA:=(cutKA (LvA.b (LvA.b (LvA.b (LA 87)))).c (codeA P pc noY rk (codeFA P pc noY rk 87 k) 87 (cR (cR (cR (cR code87)))) (LvA.b (LvA.b (LvA.b (LvA.b (LA 87))))) (doneA P results87) X0A (doneA P results87)))
noncomputable def K87_pxrrrlr:(Nat→KA):=(upA 0 (K87_prrr pc rk k) X0A)
noncomputable def K87_prrrlrl (m1:Nat):KA:=(cutKA (LvA.a (LvA.b (LvA.a (LvA.b (LvA.b (LvA.b (LA 87))))))).c (codeFA P pc noY rk 87 m1 (LvA.a (LvA.b (LvA.a (LvA.b (LvA.b (LvA.b (LA 87))))))) (cL (cR (cL (cR (cR (cR code87)))))) (K87_prrr pc rk k) (K87_pxrrrlr pc rk k) (doneA P results87)))
noncomputable def K87_prrrr:KA:=(cutKA (LvA.b (LvA.b (LvA.b (LvA.b (LA 87))))).c (codeA P pc noY rk (codeFA P pc noY rk 87 k) 87 (cR (cR (cR (cR (cR code87))))) (LvA.b (LvA.b (LvA.b (LvA.b (LvA.b (LA 87)))))) (doneA P results87) X0A (doneA P results87)))
noncomputable def K87_pxrrrrlr:(Nat→KA):=(upA 2 (K87_prrrr pc rk k) X0A)
noncomputable def K87_prrrrlrl (m1:Nat):KA:=(cutKA (LvA.a (LvA.b (LvA.a (LvA.b (LvA.b (LvA.b (LvA.b (LA 87)))))))).c (codeFA P pc noY rk 87 m1 (LvA.a (LvA.b (LvA.a (LvA.b (LvA.b (LvA.b (LvA.b (LA 87)))))))) (cL (cR (cL (cR (cR (cR (cR code87))))))) (K87_prrrr pc rk k) (K87_pxrrrrlr pc rk k) (doneA P results87)))
noncomputable def K87_prrrrlrllr (m1:Nat):KA:=(cutKA (LvA.b (LvA.a (LvA.a (LvA.b (LvA.a (LvA.b (LvA.b (LvA.b (LvA.b (LA 87)))))))))).c (codeA P pc noY rk (codeFA P pc noY rk 87 m1) 87 (cR (cR (cL (cL (cR (cL (cR (cR (cR (cR code87)))))))))) (LvA.b (LvA.b (LvA.a (LvA.a (LvA.b (LvA.a (LvA.b (LvA.b (LvA.b (LvA.b (LA 87))))))))))) (K87_prrrrlrl pc rk k m1) (K87_pxrrrrlr pc rk k) (doneA P results87)))
noncomputable def K87_pxrrrrlrllrl (m1:Nat):(Nat→KA):=(upA 3 (K87_prrrrlrllr pc rk k m1) (K87_pxrrrrlr pc rk k))
noncomputable def K87_prrrrr:KA:=(cutKA (LvA.b (LvA.b (LvA.b (LvA.b (LvA.b (LA 87)))))).c (codeA P pc noY rk (codeFA P pc noY rk 87 k) 87 (cR (cR (cR (cR (cR (cR code87)))))) (LvA.b (LvA.b (LvA.b (LvA.b (LvA.b (LvA.b (LA 87))))))) (doneA P results87) X0A (doneA P results87)))
noncomputable def K87_pxrrrrrlr:(Nat→KA):=(upA 4 (K87_prrrrr pc rk k) X0A)
noncomputable def K87_prrrrrlrl (m1:Nat):KA:=(cutKA (LvA.a (LvA.b (LvA.a (LvA.b (LvA.b (LvA.b (LvA.b (LvA.b (LA 87))))))))).c (codeFA P pc noY rk 87 m1 (LvA.a (LvA.b (LvA.a (LvA.b (LvA.b (LvA.b (LvA.b (LvA.b (LA 87))))))))) (cL (cR (cL (cR (cR (cR (cR (cR code87)))))))) (K87_prrrrr pc rk k) (K87_pxrrrrrlr pc rk k) (doneA P results87)))
noncomputable def K87_prrrrrlrllr (m1:Nat):KA:=(cutKA (LvA.b (LvA.a (LvA.a (LvA.b (LvA.a (LvA.b (LvA.b (LvA.b (LvA.b (LvA.b (LA 87))))))))))).c (codeA P pc noY rk (codeFA P pc noY rk 87 m1) 87 (cR (cR (cL (cL (cR (cL (cR (cR (cR (cR (cR code87))))))))))) (LvA.b (LvA.b (LvA.a (LvA.a (LvA.b (LvA.a (LvA.b (LvA.b (LvA.b (LvA.b (LvA.b (LA 87)))))))))))) (K87_prrrrrlrl pc rk k m1) (K87_pxrrrrrlr pc rk k) (doneA P results87)))
noncomputable def K87_pxrrrrrlrllrl (m1:Nat):(Nat→KA):=(upA 5 (K87_prrrrrlrllr pc rk k m1) (K87_pxrrrrrlr pc rk k))
noncomputable def K87_prrrrrlrllrllr (m1:Nat):KA:=(cutKA (LvA.b (LvA.a (LvA.a (LvA.b (LvA.a (LvA.a (LvA.b (LvA.a (LvA.b (LvA.b (LvA.b (LvA.b (LvA.b (LA 87)))))))))))))).c (codeA P pc noY rk (codeFA P pc noY rk 87 m1) 87 (cR (cR (cL (cL (cR (cL (cL (cR (cL (cR (cR (cR (cR (cR code87)))))))))))))) (LvA.b (LvA.b (LvA.a (LvA.a (LvA.b (LvA.a (LvA.a (LvA.b (LvA.a (LvA.b (LvA.b (LvA.b (LvA.b (LvA.b (LA 87))))))))))))))) (K87_prrrrrlrllr pc rk k m1) (K87_pxrrrrrlrllrl pc rk k m1) (doneA P results87)))
noncomputable def K87_pxrrrrrlrllrllrrr (m1:Nat):(Nat→KA):=(upA 6 (K87_prrrrrlrllr pc rk k m1) (K87_pxrrrrrlrllrl pc rk k m1))
noncomputable def K87_prrrrrlrllrllrrrl (m1:Nat) (m2:Nat):KA:=(cutKA (LvA.a (LvA.b (LvA.b (LvA.b (LvA.a (LvA.a (LvA.b (LvA.a (LvA.a (LvA.b (LvA.a (LvA.b (LvA.b (LvA.b (LvA.b (LvA.b (LA 87))))))))))))))))).c (codeFA P pc noY rk 87 m2 (LvA.a (LvA.b (LvA.b (LvA.b (LvA.a (LvA.a (LvA.b (LvA.a (LvA.a (LvA.b (LvA.a (LvA.b (LvA.b (LvA.b (LvA.b (LvA.b (LA 87))))))))))))))))) (cL (cR (cR (cR (cL (cL (cR (cL (cL (cR (cL (cR (cR (cR (cR (cR code87)))))))))))))))) (K87_prrrrrlrllr pc rk k m1) (K87_pxrrrrrlrllrllrrr pc rk k m1) (doneA P results87)))
noncomputable def K87_prrrrrlrllrllrrrllr (m1:Nat) (m2:Nat):KA:=(cutKA (LvA.b (LvA.a (LvA.a (LvA.b (LvA.b (LvA.b (LvA.a (LvA.a (LvA.b (LvA.a (LvA.a (LvA.b (LvA.a (LvA.b (LvA.b (LvA.b (LvA.b (LvA.b (LA 87))))))))))))))))))).c (codeA P pc noY rk (codeFA P pc noY rk 87 m2) 87 (cR (cR (cL (cL (cR (cR (cR (cL (cL (cR (cL (cL (cR (cL (cR (cR (cR (cR (cR code87))))))))))))))))))) (LvA.b (LvA.b (LvA.a (LvA.a (LvA.b (LvA.b (LvA.b (LvA.a (LvA.a (LvA.b (LvA.a (LvA.a (LvA.b (LvA.a (LvA.b (LvA.b (LvA.b (LvA.b (LvA.b (LA 87)))))))))))))))))))) (K87_prrrrrlrllrllrrrl pc rk k m1 m2) (K87_pxrrrrrlrllrllrrr pc rk k m1) (doneA P results87)))
noncomputable def K87_pxrrrrrlrllrllrrrllrl (m1:Nat) (m2:Nat):(Nat→KA):=(upA 7 (K87_prrrrrlrllrllrrrllr pc rk k m1 m2) (K87_pxrrrrrlrllrllrrr pc rk k m1))
noncomputable def T87_5 (m1:Nat):=fun(u4:D) (u92:D) (c1:List D)=>labA (codeA P pc noY rk (codeFA P pc noY rk 87 m1) 87 (cR (cR (cL (cL (cR (cL (cL (cR (cL (cR (cR (cR (cR code87))))))))))))) (LvA.b (LvA.b (LvA.a (LvA.a (LvA.b (LvA.a (LvA.a (LvA.b (LvA.a (LvA.b (LvA.b (LvA.b (LvA.b (LA 87)))))))))))))) (K87_prrrrlrllr pc rk k m1) (K87_pxrrrrlrllrl pc rk k m1) (doneA P results87)) (Tr.set (Tr.set (Tr.set Tr.nil 92 (some (AV.d u92))) 4 (some (AV.d u4))) 1 (some (AV.loc 1 0))) (Tr.set Tr.nil 1 (some (Bx.dat c1 false)))
noncomputable def T87_9 (m1:Nat) (m2:Nat):=fun(u6:D) (u8:D) (u156:D) (c1:List D) (c7:List D)=>labA (codeA P pc noY rk (codeFA P pc noY rk 87 m2) 87 (cR (cR (cL (cL (cR (cL (cL (cR (cR (cR (cL (cL (cR (cL (cL (cR (cL (cR (cR (cR (cR (cR code87)))))))))))))))))))))) (LvA.b (LvA.b (LvA.a (LvA.a (LvA.b (LvA.a (LvA.a (LvA.b (LvA.b (LvA.b (LvA.a (LvA.a (LvA.b (LvA.a (LvA.a (LvA.b (LvA.a (LvA.b (LvA.b (LvA.b (LvA.b (LvA.b (LA 87))))))))))))))))))))))) (K87_prrrrrlrllrllrrrllr pc rk k m1 m2) (K87_pxrrrrrlrllrllrrrllrl pc rk k m1 m2) (doneA P results87)) (Tr.set (Tr.set (Tr.set (Tr.set (Tr.set Tr.nil 156 (some (AV.d u156))) 8 (some (AV.d u8))) 7 (some (AV.loc 7 0))) 6 (some (AV.d u6))) 1 (some (AV.loc 1 0))) (Tr.set (Tr.set Tr.nil 7 (some (Bx.dat c7 false))) 1 (some (Bx.dat c1 false)))
noncomputable def T87_8 (m1:Nat) (m2:Nat):=fun(u6:D) (u8:D) (c1:List D) (c7:List D)=>labA (codeA P pc noY rk (codeFA P pc noY rk 87 m2) 87 (cL (cL (cR (cR (cR (cL (cL (cR (cL (cL (cR (cL (cR (cR (cR (cR (cR code87))))))))))))))))) (LvA.a (LvA.a (LvA.b (LvA.b (LvA.b (LvA.a (LvA.a (LvA.b (LvA.a (LvA.a (LvA.b (LvA.a (LvA.b (LvA.b (LvA.b (LvA.b (LvA.b (LA 87)))))))))))))))))) (K87_prrrrrlrllrllrrrl pc rk k m1 m2) (K87_pxrrrrrlrllrllrrr pc rk k m1) (doneA P results87)) (Tr.set (Tr.set (Tr.set (Tr.set Tr.nil 8 (some (AV.d u8))) 7 (some (AV.loc 7 0))) 6 (some (AV.d u6))) 1 (some (AV.loc 1 0))) (Tr.set (Tr.set Tr.nil 7 (some (Bx.dat c7 false))) 1 (some (Bx.dat c1 false)))
noncomputable def R87_8 (m1:Nat) (m2:Nat):(D→D→List D→List D→Option D):=fun u6 u8 c1 c7=>labA (codeFA P pc noY rk 87 m2 (LvA.a (LvA.b (LvA.b (LvA.b (LvA.a (LvA.a (LvA.b (LvA.a (LvA.a (LvA.b (LvA.a (LvA.b (LvA.b (LvA.b (LvA.b (LvA.b (LA 87))))))))))))))))) (cL (cR (cR (cR (cL (cL (cR (cL (cL (cR (cL (cR (cR (cR (cR (cR code87)))))))))))))))) (K87_prrrrrlrllr pc rk k m1) (K87_pxrrrrrlrllrllrrr pc rk k m1) (doneA P results87)) (Tr.set (Tr.set (Tr.set (Tr.set Tr.nil 8 (some (AV.d u8))) 7 (some (AV.loc 7 0))) 6 (some (AV.d u6))) 1 (some (AV.loc 1 0))) (Tr.set (Tr.set Tr.nil 7 (some (Bx.dat c7 false))) 1 (some (Bx.dat c1 false)))
noncomputable def T87_7 (m1:Nat):=fun(u6:D) (u129:D) (c1:List D) (c7:List D)=>labA (codeA P pc noY rk (codeFA P pc noY rk 87 m1) 87 (cR (cL (cR (cL (cL (cR (cL (cL (cR (cL (cR (cR (cR (cR (cR code87))))))))))))))) (LvA.b (LvA.a (LvA.b (LvA.a (LvA.a (LvA.b (LvA.a (LvA.a (LvA.b (LvA.a (LvA.b (LvA.b (LvA.b (LvA.b (LvA.b (LA 87)))))))))))))))) (K87_prrrrrlrllrllr pc rk k m1) (K87_pxrrrrrlrllrl pc rk k m1) (doneA P results87)) (Tr.set (Tr.set (Tr.set (Tr.set Tr.nil 129 (some (AV.d u129))) 7 (some (AV.loc 7 0))) 6 (some (AV.d u6))) 1 (some (AV.loc 1 0))) (Tr.set (Tr.set Tr.nil 7 (some (Bx.dat c7 false))) 1 (some (Bx.dat c1 false)))
noncomputable def T87_6 (m1:Nat):=fun(u6:D) (c1:List D)=>labA (codeA P pc noY rk (codeFA P pc noY rk 87 m1) 87 (cL (cL (cR (cL (cR (cR (cR (cR (cR code87))))))))) (LvA.a (LvA.a (LvA.b (LvA.a (LvA.b (LvA.b (LvA.b (LvA.b (LvA.b (LA 87)))))))))) (K87_prrrrrlrl pc rk k m1) (K87_pxrrrrrlr pc rk k) (doneA P results87)) (Tr.set (Tr.set Tr.nil 6 (some (AV.d u6))) 1 (some (AV.loc 1 0))) (Tr.set Tr.nil 1 (some (Bx.dat c1 false)))
noncomputable def R87_6 (m1:Nat):(D→List D→Option D):=fun u6 c1=>labA (codeFA P pc noY rk 87 m1 (LvA.a (LvA.b (LvA.a (LvA.b (LvA.b (LvA.b (LvA.b (LvA.b (LA 87))))))))) (cL (cR (cL (cR (cR (cR (cR (cR code87)))))))) (K87_prrrrr pc rk k) (K87_pxrrrrrlr pc rk k) (doneA P results87)) (Tr.set (Tr.set Tr.nil 6 (some (AV.d u6))) 1 (some (AV.loc 1 0))) (Tr.set Tr.nil 1 (some (Bx.dat c1 false)))
noncomputable def T87_4 (m1:Nat):=fun(u4:D) (c1:List D)=>labA (codeA P pc noY rk (codeFA P pc noY rk 87 m1) 87 (cL (cL (cR (cL (cR (cR (cR (cR code87)))))))) (LvA.a (LvA.a (LvA.b (LvA.a (LvA.b (LvA.b (LvA.b (LvA.b (LA 87))))))))) (K87_prrrrlrl pc rk k m1) (K87_pxrrrrlr pc rk k) (doneA P results87)) (Tr.set (Tr.set Tr.nil 4 (some (AV.d u4))) 1 (some (AV.loc 1 0))) (Tr.set Tr.nil 1 (some (Bx.dat c1 false)))
noncomputable def R87_4 (m1:Nat):(D→List D→Option D):=fun u4 c1=>labA (codeFA P pc noY rk 87 m1 (LvA.a (LvA.b (LvA.a (LvA.b (LvA.b (LvA.b (LvA.b (LA 87)))))))) (cL (cR (cL (cR (cR (cR (cR code87))))))) (K87_prrrr pc rk k) (K87_pxrrrrlr pc rk k) (doneA P results87)) (Tr.set (Tr.set Tr.nil 4 (some (AV.d u4))) 1 (some (AV.loc 1 0))) (Tr.set Tr.nil 1 (some (Bx.dat c1 false)))
noncomputable def T87_3 (m1:Nat):=fun(u3:D) (c1:List D)=>labA (codeA P pc noY rk (codeFA P pc noY rk 87 m1) 87 (cL (cL (cR (cL (cR (cR (cR code87))))))) (LvA.a (LvA.a (LvA.b (LvA.a (LvA.b (LvA.b (LvA.b (LA 87)))))))) (K87_prrrlrl pc rk k m1) (K87_pxrrrlr pc rk k) (doneA P results87)) (Tr.set (Tr.set Tr.nil 3 (some (AV.d u3))) 1 (some (AV.loc 1 0))) (Tr.set Tr.nil 1 (some (Bx.dat c1 false)))
noncomputable def R87_3 (m1:Nat):(D→List D→Option D):=fun u3 c1=>labA (codeFA P pc noY rk 87 m1 (LvA.a (LvA.b (LvA.a (LvA.b (LvA.b (LvA.b (LA 87))))))) (cL (cR (cL (cR (cR (cR code87)))))) (K87_prrr pc rk k) (K87_pxrrrlr pc rk k) (doneA P results87)) (Tr.set (Tr.set Tr.nil 3 (some (AV.d u3))) 1 (some (AV.loc 1 0))) (Tr.set Tr.nil 1 (some (Bx.dat c1 false)))
noncomputable def T87_2:=fun(u35:D) (c1:List D)=>labA (codeA P pc noY rk (codeFA P pc noY rk 87 k) 87 (cR (cL (cR (cR code87)))) (LvA.b (LvA.a (LvA.b (LvA.b (LA 87))))) (K87_prr pc rk k) X0A (doneA P results87)) (Tr.set (Tr.set Tr.nil 35 (some (AV.d u35))) 1 (some (AV.loc 1 0))) (Tr.set Tr.nil 1 (some (Bx.dat c1 false)))
noncomputable def T87_1:=fun(u25:D) (c1:List D)=>labA (codeA P pc noY rk (codeFA P pc noY rk 87 k) 87 (cR (cL (cR code87))) (LvA.b (LvA.a (LvA.b (LA 87)))) (K87_pr pc rk k) X0A (doneA P results87)) (Tr.set (Tr.set Tr.nil 25 (some (AV.d u25))) 1 (some (AV.loc 1 0))) (Tr.set Tr.nil 1 (some (Bx.dat c1 false)))
noncomputable def B87_5 (pc:PC) (k:Nat) (m1:Nat) (b4:(D→List D→Option D)) (u4:D) (u92:D) (c1:List D):Option D:=
ifU u92 (
some (D.v (Value.int IntKind.i64 1))) (
bindO (binD P BinOp.add 3 (Operand.tmp 62) (Operand.const (Value.int IntKind.i64 1)) u4 (D.v (Value.int IntKind.i64 1))) fun d_13=>
b4 d_13 c1)
noncomputable def C87_5 (m1:Nat):=B87_5 pc k m1
theorem h87_5 (m1:Nat):T87_5 pc rk k m1=C87_5 pc k m1 (R87_4 pc rk k m1):=by kernel_rfl
noncomputable def B87_9 (pc:PC) (k:Nat) (m1:Nat) (m2:Nat) (b6:(D→List D→Option D)) (b8:(D→D→List D→List D→Option D)) (u6:D) (u8:D) (u156:D) (c1:List D) (c7:List D):Option D:=
ifU u156 (
some (D.v (Value.int IntKind.i64 1))) (
bindO (binD P BinOp.add 3 (Operand.tmp 133) (Operand.const (Value.int IntKind.i64 1)) u8 (D.v (Value.int IntKind.i64 1))) fun d_23=>
b8 u6 d_23 c1 c7)
noncomputable def C87_9 (m1:Nat):=B87_9 pc k m1
theorem h87_9 (m1:Nat) (m2:Nat):T87_9 pc rk k m1 m2=C87_9 pc k m1 m2 (R87_6 pc rk k m1) (R87_8 pc rk k m1 m2):=by kernel_rfl
noncomputable def B87_8 (pc:PC) (k:Nat) (m1:Nat) (m2:Nat) (j9:(D→D→D→List D→List D→Option D)) (b6:(D→List D→Option D)) (b8:(D→D→List D→List D→Option D)) (u6:D) (u8:D) (c1:List D) (c7:List D):Option D:=
bindO (binD P BinOp.lss 3 (Operand.tmp 130) (Operand.tmp 131) u8 u6) fun d_1s=>
ifU d_1s (
bindO (c1[1]?) fun d_1t=>
bindO (elsD d_1t) fun l_1u=>
bindO (idxD u8 l_1u.length) fun i_1v=>
bindO (l_1u[i_1v]?) fun d_1w=>
bindO (aggD d_1w) fun c_1x=>
chkK (Nat.beq c_1x.length 2) (
bindO (cutD c_1x 0 2) fun c_1y=>
bindO (splD [(D.v (Value.int IntKind.i64 0)),(D.v (Value.int IntKind.i64 0))] 0 c_1y 2) fun c_1z=>
bindO (cutD c_1z 0 2) fun c_20=>
bindO (cutD c7 0 2) fun c_21=>
bindO (binD P BinOp.eql 89 (Operand.tmp 140) (Operand.tmp 141) (D.agg c_20) (D.agg c_21)) fun d_22=>
ifU d_22 (
j9 u6 u8 (D.v (Value.bool true)) c1 c7) (
bindO (c_1z[0]?) fun d_24=>
bindO (c7[1]?) fun d_25=>
bindO (binD P BinOp.eql 3 (Operand.tmp 145) (Operand.tmp 147) d_24 d_25) fun d_26=>
ifU d_26 (
bindO (c_1z[1]?) fun d_27=>
bindO (c7[0]?) fun d_28=>
bindO (binD P BinOp.eql 3 (Operand.tmp 151) (Operand.tmp 153) d_27 d_28) fun d_29=>
j9 u6 u8 d_29 c1 c7) (
j9 u6 u8 (D.v (Value.bool false)) c1 c7)))) (
bindO (binD P BinOp.add 3 (Operand.tmp 98) (Operand.const (Value.int IntKind.i64 1)) u6 (D.v (Value.int IntKind.i64 1))) fun d_2a=>
b6 d_2a c1)
noncomputable def C87_8 (m1:Nat) (m2:Nat) (b6:(D→List D→Option D)) (b8:(D→D→List D→List D→Option D)):=B87_8 pc k m1 m2 (C87_9 pc k m1 m2 b6 b8) b6 b8
noncomputable def S87_8 (m1:Nat) (b6:(D→List D→Option D)):Nat→(D→D→List D→List D→Option D):=fun m=>Nat.rec (motive:=fun _=>(D→D→List D→List D→Option D)) (C87_8 pc k m1 0 b6 (fun _ _ _ _=>none)) (fun m ih=>C87_8 pc k m1 (m+1) b6 ih) m
theorem h87_8 (m1:Nat) (m2:Nat):T87_8 pc rk k m1 m2=C87_8 pc k m1 m2 (R87_6 pc rk k m1) (R87_8 pc rk k m1 m2):=Eq.trans (b:=B87_8 pc k m1 m2 (T87_9 pc rk k m1 m2) (R87_6 pc rk k m1) (R87_8 pc rk k m1 m2)) (by kernel_rfl) (by rw[h87_9]; rfl)
theorem q87_8 (m1:Nat) (m:Nat):T87_8 pc rk k m1 m=S87_8 pc k m1 (R87_6 pc rk k m1) m:=recS (h87_8 pc rk k m1) (by kernel_rfl) (fun m=>by kernel_rfl) m
noncomputable def B87_7 (pc:PC) (k:Nat) (m1:Nat) (j8:(D→D→List D→List D→Option D)) (b6:(D→List D→Option D)) (u6:D) (u129:D) (c1:List D) (c7:List D):Option D:=
ifU u129 (
some (D.v (Value.int IntKind.i64 1))) (
j8 u6 (D.v (Value.int IntKind.i64 0)) c1 c7)
noncomputable def C87_7 (m1:Nat) (b6:(D→List D→Option D)):=B87_7 pc k m1 (S87_8 pc k m1 b6 m1) b6
theorem h87_7 (m1:Nat):T87_7 pc rk k m1=C87_7 pc k m1 (R87_6 pc rk k m1):=Eq.trans (b:=B87_7 pc k m1 (T87_8 pc rk k m1 m1) (R87_6 pc rk k m1)) (by kernel_rfl) (by rw[q87_8]; rfl)
noncomputable def B87_6 (pc:PC) (k:Nat) (m1:Nat) (j7:(D→D→List D→List D→Option D)) (b6:(D→List D→Option D)) (u6:D) (c1:List D):Option D:=
bindO (c1[1]?) fun d_1c=>
bindO (elsD d_1c) fun l_1d=>
bindO (binD P BinOp.lss 3 (Operand.tmp 93) (Operand.tmp 96) u6 (lenD l_1d)) fun d_1e=>
ifU d_1e (
bindO (c1[1]?) fun d_1f=>
bindO (elsD d_1f) fun l_1g=>
bindO (idxD u6 l_1g.length) fun i_1h=>
bindO (l_1g[i_1h]?) fun d_1i=>
bindO (aggD d_1i) fun c_1j=>
chkK (Nat.beq c_1j.length 2) (
bindO (cutD c_1j 0 2) fun c_1k=>
bindO (splD [(D.v (Value.int IntKind.i64 0)),(D.v (Value.int IntKind.i64 0))] 0 c_1k 2) fun c_1l=>
bindO (c_1l[0]?) fun d_1m=>
bindO (c1[0]?) fun d_1n=>
bindO (elsD d_1n) fun l_1o=>
bindO (binD P BinOp.sub 3 (Operand.tmp 109) (Operand.const (Value.int IntKind.i64 1)) (lenD l_1o) (D.v (Value.int IntKind.i64 1))) fun d_1p=>
bindO (pcD P pc 35 [d_1m,(D.v (Value.int IntKind.i64 0)),d_1p]) fun d_1q=>
bindO (semD P d_1q (Op.unary UnOp.not)) fun d_1r=>
ifU d_1r (
j7 u6 (D.v (Value.bool true)) c1 c_1l) (
bindO (c_1l[1]?) fun d_2b=>
bindO (c1[0]?) fun d_2c=>
bindO (elsD d_2c) fun l_2d=>
bindO (binD P BinOp.sub 3 (Operand.tmp 118) (Operand.const (Value.int IntKind.i64 1)) (lenD l_2d) (D.v (Value.int IntKind.i64 1))) fun d_2e=>
bindO (pcD P pc 35 [d_2b,(D.v (Value.int IntKind.i64 0)),d_2e]) fun d_2f=>
bindO (semD P d_2f (Op.unary UnOp.not)) fun d_2g=>
ifU d_2g (
j7 u6 (D.v (Value.bool true)) c1 c_1l) (
bindO (c_1l[0]?) fun d_2h=>
bindO (c_1l[1]?) fun d_2i=>
bindO (binD P BinOp.eql 3 (Operand.tmp 125) (Operand.tmp 127) d_2h d_2i) fun d_2j=>
j7 u6 d_2j c1 c_1l)))) (
some (D.v (Value.int IntKind.i64 0)))
noncomputable def C87_6 (m1:Nat) (b6:(D→List D→Option D)):=B87_6 pc k m1 (C87_7 pc k m1 b6) b6
noncomputable def S87_6:Nat→(D→List D→Option D):=recF (C87_6 pc k) (fun _ _=>none)
theorem h87_6 (m1:Nat):T87_6 pc rk k m1=C87_6 pc k m1 (R87_6 pc rk k m1):=Eq.trans (b:=B87_6 pc k m1 (T87_7 pc rk k m1) (R87_6 pc rk k m1)) (by kernel_rfl) (by rw[h87_7]; rfl)
theorem q87_6 (m:Nat):T87_6 pc rk k m=S87_6 pc k m:=recS (h87_6 pc rk k) (by kernel_rfl) (fun m=>by kernel_rfl) m
noncomputable def B87_4 (pc:PC) (k:Nat) (m1:Nat) (j5:(D→D→List D→Option D)) (j6:(D→List D→Option D)) (b4:(D→List D→Option D)) (u4:D) (c1:List D):Option D:=
bindO (c1[2]?) fun d_q=>
bindO (elsD d_q) fun l_r=>
bindO (binD P BinOp.lss 3 (Operand.tmp 57) (Operand.tmp 60) u4 (lenD l_r)) fun d_s=>
ifU d_s (
bindO (c1[2]?) fun d_t=>
bindO (elsD d_t) fun l_u=>
bindO (idxD u4 l_u.length) fun i_v=>
bindO (l_u[i_v]?) fun d_w=>
bindO (aggD d_w) fun c_x=>
chkK (Nat.beq c_x.length 5) (
bindO (cutD c_x 0 5) fun c_y=>
bindO (splD [(D.v (Value.int IntKind.i64 0)),(D.v (Value.int IntKind.i64 0)),(D.v (Value.int IntKind.i64 0)),(D.v (Value.int IntKind.i64 0)),(D.v (Value.int IntKind.i64 0))] 0 c_y 5) fun c_z=>
bindO (c_z[0]?) fun d_10=>
bindO (pcD P pc 35 [d_10,(D.v (Value.int IntKind.i64 0)),(D.v (Value.int IntKind.i64 1000))]) fun d_11=>
bindO (semD P d_11 (Op.unary UnOp.not)) fun d_12=>
ifU d_12 (
j5 u4 (D.v (Value.bool true)) c1) (
bindO (c_z[1]?) fun d_14=>
bindO (c_z[2]?) fun d_15=>
bindO (pcD P pc 105 [d_14,d_15]) fun d_16=>
bindO (semD P d_16 (Op.unary UnOp.not)) fun d_17=>
ifU d_17 (
j5 u4 (D.v (Value.bool true)) c1) (
bindO (c_z[3]?) fun d_18=>
bindO (c_z[4]?) fun d_19=>
bindO (pcD P pc 105 [d_18,d_19]) fun d_1a=>
bindO (semD P d_1a (Op.unary UnOp.not)) fun d_1b=>
j5 u4 d_1b c1)))) (
j6 (D.v (Value.int IntKind.i64 0)) c1)
noncomputable def C87_4 (m1:Nat) (b4:(D→List D→Option D)):=B87_4 pc k m1 (C87_5 pc k m1 b4) (S87_6 pc k k) b4
noncomputable def S87_4:Nat→(D→List D→Option D):=recF (C87_4 pc k) (fun _ _=>none)
theorem h87_4 (m1:Nat):T87_4 pc rk k m1=C87_4 pc k m1 (R87_4 pc rk k m1):=Eq.trans (b:=B87_4 pc k m1 (T87_5 pc rk k m1) (T87_6 pc rk k k) (R87_4 pc rk k m1)) (by kernel_rfl) (by rw[h87_5,q87_6]; rfl)
theorem q87_4 (m:Nat):T87_4 pc rk k m=S87_4 pc k m:=recS (h87_4 pc rk k) (by kernel_rfl) (fun m=>by kernel_rfl) m
noncomputable def B87_3 (pc:PC) (k:Nat) (m1:Nat) (j4:(D→List D→Option D)) (b3:(D→List D→Option D)) (u3:D) (c1:List D):Option D:=
bindO (c1[0]?) fun d_8=>
bindO (elsD d_8) fun l_9=>
bindO (binD P BinOp.lss 3 (Operand.tmp 36) (Operand.tmp 39) u3 (lenD l_9)) fun d_a=>
ifU d_a (
bindO (c1[0]?) fun d_b=>
bindO (elsD d_b) fun l_c=>
bindO (idxD u3 l_c.length) fun i_d=>
bindO (l_c[i_d]?) fun d_e=>
bindO (aggD d_e) fun c_f=>
chkK (Nat.beq c_f.length 2) (
bindO (c_f[0]?) fun d_g=>
bindO (c1[0]?) fun d_h=>
bindO (elsD d_h) fun l_i=>
bindO (idxD u3 l_i.length) fun i_j=>
bindO (l_i[i_j]?) fun d_k=>
bindO (aggD d_k) fun c_l=>
chkK (Nat.beq c_l.length 2) (
bindO ((List.drop 1 c_l)[0]?) fun d_m=>
bindO (pcD P pc 105 [d_g,d_m]) fun d_n=>
bindO (semD P d_n (Op.unary UnOp.not)) fun d_o=>
ifU d_o (
some (D.v (Value.int IntKind.i64 1))) (
bindO (binD P BinOp.add 3 (Operand.tmp 41) (Operand.const (Value.int IntKind.i64 1)) u3 (D.v (Value.int IntKind.i64 1))) fun d_p=>
b3 d_p c1)))) (
j4 (D.v (Value.int IntKind.i64 0)) c1)
noncomputable def C87_3 (m1:Nat):=B87_3 pc k m1 (S87_4 pc k k)
noncomputable def S87_3:Nat→(D→List D→Option D):=recF (C87_3 pc k) (fun _ _=>none)
theorem h87_3 (m1:Nat):T87_3 pc rk k m1=C87_3 pc k m1 (R87_3 pc rk k m1):=Eq.trans (b:=B87_3 pc k m1 (T87_4 pc rk k k) (R87_3 pc rk k m1)) (by kernel_rfl) (by rw[q87_4]; rfl)
theorem q87_3 (m:Nat):T87_3 pc rk k m=S87_3 pc k m:=recS (h87_3 pc rk k) (by kernel_rfl) (fun m=>by kernel_rfl) m
noncomputable def B87_2 (pc:PC) (k:Nat) (j3:(D→List D→Option D)) (u35:D) (c1:List D):Option D:=
ifU u35 (
some (D.v (Value.int IntKind.i64 1))) (
j3 (D.v (Value.int IntKind.i64 0)) c1)
noncomputable def C87_2:=B87_2 pc k (S87_3 pc k k)
theorem h87_2:T87_2 pc rk k=C87_2 pc k:=Eq.trans (b:=B87_2 pc k (T87_3 pc rk k k)) (by kernel_rfl) (by rw[q87_3]; rfl)
noncomputable def B87_1 (pc:PC) (k:Nat) (j2:(D→List D→Option D)) (u25:D) (c1:List D):Option D:=
ifU u25 (
some (D.v (Value.int IntKind.i64 3))) (
bindO (c1[0]?) fun d_5=>
bindO (elsD d_5) fun l_6=>
bindO (binD P BinOp.eql 3 (Operand.tmp 28) (Operand.const (Value.int IntKind.i64 0)) (lenD l_6) (D.v (Value.int IntKind.i64 0))) fun d_7=>
ifU d_7 (
j2 (D.v (Value.bool true)) c1) (
bindO (c1[2]?) fun d_2k=>
bindO (elsD d_2k) fun l_2l=>
bindO (binD P BinOp.eql 3 (Operand.tmp 33) (Operand.const (Value.int IntKind.i64 0)) (lenD l_2l) (D.v (Value.int IntKind.i64 0))) fun d_2m=>
j2 d_2m c1))
noncomputable def C87_1:=B87_1 pc k (C87_2 pc k)
theorem h87_1:T87_1 pc rk k=C87_1 pc k:=Eq.trans (b:=B87_1 pc k (T87_2 pc rk k)) (by kernel_rfl) (by rw[h87_2]; rfl)
noncomputable def B87_0 (pc:PC) (k:Nat) (j1:(D→List D→Option D)) (v0:D):Option D:=
bindO (aggD v0) fun c_1=>
bindO (c_1[0]?) fun d_2=>
bindO (elsD d_2) fun l_3=>
bindO (binD P BinOp.gtr 3 (Operand.tmp 12) (Operand.const (Value.int IntKind.i64 8)) (lenD l_3) (D.v (Value.int IntKind.i64 8))) fun d_4=>
ifU d_4 (
j1 (D.v (Value.bool true)) c_1) (
bindO (c_1[1]?) fun d_2n=>
bindO (elsD d_2n) fun l_2o=>
bindO (binD P BinOp.gtr 3 (Operand.tmp 17) (Operand.const (Value.int IntKind.i64 16)) (lenD l_2o) (D.v (Value.int IntKind.i64 16))) fun d_2p=>
ifU d_2p (
j1 (D.v (Value.bool true)) c_1) (
bindO (c_1[2]?) fun d_2q=>
bindO (elsD d_2q) fun l_2r=>
bindO (binD P BinOp.gtr 3 (Operand.tmp 23) (Operand.const (Value.int IntKind.i64 3)) (lenD l_2r) (D.v (Value.int IntKind.i64 3))) fun d_2s=>
j1 d_2s c_1))
noncomputable def C87_0:=B87_0 pc k (C87_1 pc k)
theorem h87_0 (v0:D):bodyY P pc noY rk LA (k+1) 87 [v0]=C87_0 pc k v0:=(bqA Go.Proofs.Tryz.f87 code87 results87 (by kernel_rfl)).trans (Eq.trans (b:=B87_0 pc k (T87_1 pc rk k) v0) (by kernel_rfl) (by rw[h87_1]; rfl))
noncomputable def code88:Code:=codeOf 88
noncomputable def results88:List ResultVar:=resOf 88
noncomputable def K88_pr:KA:=(cutKA (LvA.b (LA 88)).c (codeA P pc noY rk (codeFA P pc noY rk 88 k) 88 (cR (cR code88)) (LvA.b (LvA.b (LA 88))) (doneA P results88) X0A (doneA P results88)))
noncomputable def K88_pxrlr:(Nat→KA):=(upA 0 (K88_pr pc rk k) X0A)
noncomputable def K88_prlrl (m1:Nat):KA:=(cutKA (LvA.a (LvA.b (LvA.a (LvA.b (LA 88))))).c (codeFA P pc noY rk 88 m1 (LvA.a (LvA.b (LvA.a (LvA.b (LA 88))))) (cL (cR (cL (cR code88)))) (K88_pr pc rk k) (K88_pxrlr pc rk k) (doneA P results88)))
noncomputable def K88_prlrllr (m1:Nat):KA:=(cutKA (LvA.b (LvA.a (LvA.a (LvA.b (LvA.a (LvA.b (LA 88))))))).c (codeA P pc noY rk (codeFA P pc noY rk 88 m1) 88 (cR (cR (cL (cL (cR (cL (cR code88))))))) (LvA.b (LvA.b (LvA.a (LvA.a (LvA.b (LvA.a (LvA.b (LA 88)))))))) (K88_prlrl pc rk k m1) (K88_pxrlr pc rk k) (doneA P results88)))
noncomputable def K88_pxrlrllrl (m1:Nat):(Nat→KA):=(upA 1 (K88_prlrllr pc rk k m1) (K88_pxrlr pc rk k))
noncomputable def T88_2 (m1:Nat):=fun(u1:D) (u5:D) (u38:D) (c2:List D)=>labA (codeA P pc noY rk (codeFA P pc noY rk 88 m1) 88 (cR (cL (cL (cR (cL (cL (cR (cL (cR code88))))))))) (LvA.b (LvA.a (LvA.a (LvA.b (LvA.a (LvA.a (LvA.b (LvA.a (LvA.b (LA 88)))))))))) (K88_prlrllr pc rk k m1) (K88_pxrlrllrl pc rk k m1) (doneA P results88)) (Tr.set (Tr.set (Tr.set (Tr.set Tr.nil 38 (some (AV.d u38))) 5 (some (AV.d u5))) 2 (some (AV.loc 2 0))) 1 (some (AV.d u1))) (Tr.set Tr.nil 2 (some (Bx.dat c2 false)))
noncomputable def T88_1 (m1:Nat):=fun(u1:D) (u5:D) (c2:List D)=>labA (codeA P pc noY rk (codeFA P pc noY rk 88 m1) 88 (cL (cL (cR (cL (cR code88))))) (LvA.a (LvA.a (LvA.b (LvA.a (LvA.b (LA 88)))))) (K88_prlrl pc rk k m1) (K88_pxrlr pc rk k) (doneA P results88)) (Tr.set (Tr.set (Tr.set Tr.nil 5 (some (AV.d u5))) 2 (some (AV.loc 2 0))) 1 (some (AV.d u1))) (Tr.set Tr.nil 2 (some (Bx.dat c2 false)))
noncomputable def R88_1 (m1:Nat):(D→D→List D→Option D):=fun u1 u5 c2=>labA (codeFA P pc noY rk 88 m1 (LvA.a (LvA.b (LvA.a (LvA.b (LA 88))))) (cL (cR (cL (cR code88)))) (K88_pr pc rk k) (K88_pxrlr pc rk k) (doneA P results88)) (Tr.set (Tr.set (Tr.set Tr.nil 5 (some (AV.d u5))) 2 (some (AV.loc 2 0))) 1 (some (AV.d u1))) (Tr.set Tr.nil 2 (some (Bx.dat c2 false)))
noncomputable def B88_2 (pc:PC) (k:Nat) (m1:Nat) (b1:(D→D→List D→Option D)) (u1:D) (u5:D) (u38:D) (c2:List D):Option D:=
ifU u38 (
some (D.v (Value.bool false))) (
bindO (binD P BinOp.add 3 (Operand.tmp 10) (Operand.const (Value.int IntKind.i64 1)) u5 (D.v (Value.int IntKind.i64 1))) fun d_c=>
b1 u1 d_c c2)
noncomputable def C88_2 (m1:Nat):=B88_2 pc k m1
theorem h88_2 (m1:Nat):T88_2 pc rk k m1=C88_2 pc k m1 (R88_1 pc rk k m1):=by kernel_rfl
noncomputable def B88_1 (pc:PC) (k:Nat) (m1:Nat) (j2:(D→D→D→List D→Option D)) (b1:(D→D→List D→Option D)) (u1:D) (u5:D) (c2:List D):Option D:=
bindO (elsD u1) fun l_2=>
bindO (binD P BinOp.lss 3 (Operand.tmp 6) (Operand.tmp 8) u5 (lenD l_2)) fun d_3=>
ifU d_3 (
bindO (elsD u1) fun l_4=>
bindO (idxD u5 l_4.length) fun i_5=>
bindO (l_4[i_5]?) fun d_6=>
chkK (leafD d_6) (
bindO (c2[0]?) fun d_7=>
bindO (elsD d_7) fun l_8=>
bindO (binD P BinOp.sub 3 (Operand.tmp 19) (Operand.const (Value.int IntKind.i64 1)) (lenD l_8) (D.v (Value.int IntKind.i64 1))) fun d_9=>
bindO (pcD P pc 35 [d_6,(D.v (Value.int IntKind.i64 0)),d_9]) fun d_a=>
bindO (semD P d_a (Op.unary UnOp.not)) fun d_b=>
ifU d_b (
j2 u1 u5 (D.v (Value.bool true)) c2) (
bindO (binD P BinOp.gtr 3 (Operand.tmp 24) (Operand.const (Value.int IntKind.i64 0)) u5 (D.v (Value.int IntKind.i64 0))) fun d_d=>
ifU d_d (
bindO (elsD u1) fun l_e=>
bindO (idxD u5 l_e.length) fun i_f=>
bindO (l_e[i_f]?) fun d_g=>
chkK (leafD d_g) (
bindO (binD P BinOp.sub 3 (Operand.tmp 32) (Operand.const (Value.int IntKind.i64 1)) u5 (D.v (Value.int IntKind.i64 1))) fun d_h=>
bindO (elsD u1) fun l_i=>
bindO (idxD d_h l_i.length) fun i_j=>
bindO (l_i[i_j]?) fun d_k=>
chkK (leafD d_k) (
bindO (binD P BinOp.leq 3 (Operand.tmp 30) (Operand.tmp 35) d_g d_k) fun d_l=>
j2 u1 u5 d_l c2))) (
j2 u1 u5 (D.v (Value.bool false)) c2)))) (
some (D.v (Value.bool true)))
noncomputable def C88_1 (m1:Nat) (b1:(D→D→List D→Option D)):=B88_1 pc k m1 (C88_2 pc k m1 b1) b1
noncomputable def S88_1:Nat→(D→D→List D→Option D):=recF (C88_1 pc k) (fun _ _ _=>none)
theorem h88_1 (m1:Nat):T88_1 pc rk k m1=C88_1 pc k m1 (R88_1 pc rk k m1):=Eq.trans (b:=B88_1 pc k m1 (T88_2 pc rk k m1) (R88_1 pc rk k m1)) (by kernel_rfl) (by rw[h88_2]; rfl)
theorem q88_1 (m:Nat):T88_1 pc rk k m=S88_1 pc k m:=recS (h88_1 pc rk k) (by kernel_rfl) (fun m=>by kernel_rfl) m
noncomputable def B88_0 (pc:PC) (k:Nat) (j1:(D→D→List D→Option D)) (v0:D) (v1:D):Option D:=
bindO (aggD v0) fun c_1=>
j1 v1 (D.v (Value.int IntKind.i64 0)) c_1
noncomputable def C88_0:=B88_0 pc k (S88_1 pc k k)
theorem h88_0 (v0:D) (v1:D):bodyY P pc noY rk LA (k+1) 88 [v0,v1]=C88_0 pc k v0 v1:=(bqA Go.Proofs.Tryz.f88 code88 results88 (by kernel_rfl)).trans (Eq.trans (b:=B88_0 pc k (T88_1 pc rk k k) v0 v1) (by kernel_rfl) (by rw[q88_1]; rfl))
noncomputable def code93:Code:=codeOf 93
noncomputable def results93:List ResultVar:=resOf 93
noncomputable def B93_0 (pc:PC) (k:Nat) (v0:D) (v1:D):Option D:=
bindO (aggD v0) fun c_1=>
bindO (binD P BinOp.geq 3 (Operand.tmp 5) (Operand.const (Value.int IntKind.i64 0)) v1 (D.v (Value.int IntKind.i64 0))) fun d_2=>
ifU d_2 (
bindO (c_1[0]?) fun d_3=>
bindO (elsD d_3) fun l_4=>
bindO (binD P BinOp.lss 3 (Operand.tmp 8) (Operand.tmp 12) v1 (lenD l_4)) fun d_5=>
some d_5) (
some (D.v (Value.bool false)))
noncomputable def C93_0:=B93_0 pc k
theorem h93_0 (v0:D) (v1:D):bodyY P pc noY rk LA (k+1) 93 [v0,v1]=C93_0 pc k v0 v1:=(bqA Go.Proofs.Tryz.f93 code93 results93 (by kernel_rfl)).trans (by kernel_rfl)
noncomputable def code94:Code:=codeOf 94
noncomputable def results94:List ResultVar:=resOf 94
noncomputable def B94_0 (pc:PC) (k:Nat) (v0:D) (v1:D):Option D:=
chkK (leafD v1) (
bindO (pcD P pc 83 [(D.sl [v1])]) fun d_1=>
bindO (pcD P pc 95 [v0,d_1]) fun d_2=>
some d_2)
noncomputable def C94_0:=B94_0 pc k
theorem h94_0 (v0:D) (v1:D):bodyY P pc noY rk LA (k+1) 94 [v0,v1]=C94_0 pc k v0 v1:=(bqA Go.Proofs.Tryz.f94 code94 results94 (by kernel_rfl)).trans (by kernel_rfl)
noncomputable def code95:Code:=codeOf 95
noncomputable def results95:List ResultVar:=resOf 95
noncomputable def B95_0 (pc:PC) (k:Nat) (v0:D) (v1:D):Option D:=
bindO (binD P BinOp.and 106 (Operand.tmp 5) (Operand.tmp 6) v0 v1) fun d_1=>
bindO (binD P BinOp.neq 106 (Operand.tmp 7) (Operand.const (Value.int IntKind.u64 0)) d_1 (D.v (Value.int IntKind.u64 0))) fun d_2=>
some d_2
noncomputable def C95_0:=B95_0 pc k
theorem h95_0 (v0:D) (v1:D):bodyY P pc noY rk LA (k+1) 95 [v0,v1]=C95_0 pc k v0 v1:=(bqA Go.Proofs.Tryz.f95 code95 results95 (by kernel_rfl)).trans (by kernel_rfl)
noncomputable def code102:Code:=codeOf 102
noncomputable def results102:List ResultVar:=resOf 102
noncomputable def K102_pr:KA:=(cutKA (LvA.b (LA 102)).c (codeA P pc noY rk (codeFA P pc noY rk 102 k) 102 (cR (cR code102)) (LvA.b (LvA.b (LA 102))) (doneA P results102) X0A (doneA P results102)))
noncomputable def K102_pxrl:(Nat→KA):=(upA 0 (K102_pr pc rk k) X0A)
noncomputable def T102_3:=fun(u25:D)=>labA (codeA P pc noY rk (codeFA P pc noY rk 102 k) 102 (cR (cR (cR (cR (cR (cL (cL (cR code102)))))))) (LvA.b (LvA.b (LvA.b (LvA.b (LvA.b (LvA.a (LvA.a (LvA.b (LA 102))))))))) (K102_pr pc rk k) (K102_pxrl pc rk k) (doneA P results102)) (Tr.set Tr.nil 25 (some (AV.d u25))) Tr.nil
noncomputable def T102_2:=fun(u16:D) (c1:List D)=>labA (codeA P pc noY rk (codeFA P pc noY rk 102 k) 102 (cR (cR (cR (cL (cL (cR code102)))))) (LvA.b (LvA.b (LvA.b (LvA.a (LvA.a (LvA.b (LA 102))))))) (K102_pr pc rk k) (K102_pxrl pc rk k) (doneA P results102)) (Tr.set (Tr.set Tr.nil 16 (some (AV.d u16))) 1 (some (AV.loc 1 0))) (Tr.set Tr.nil 1 (some (Bx.dat c1 false)))
noncomputable def T102_1:=fun(u3:D) (c1:List D)=>labA (codeA P pc noY rk (codeFA P pc noY rk 102 k) 102 (cR (cL (cL (cR code102)))) (LvA.b (LvA.a (LvA.a (LvA.b (LA 102))))) (K102_pr pc rk k) (K102_pxrl pc rk k) (doneA P results102)) (Tr.set (Tr.set Tr.nil 3 (some (AV.d u3))) 1 (some (AV.loc 1 0))) (Tr.set Tr.nil 1 (some (Bx.dat c1 false)))
noncomputable def B102_3 (pc:PC) (k:Nat) (u25:D):Option D:=
ifU u25 (
some (D.v (Value.int IntKind.i64 1))) (
some (D.v (Value.int IntKind.i64 0)))
noncomputable def C102_3:=B102_3 pc k
theorem h102_3:T102_3 pc rk k=C102_3 pc k:=by kernel_rfl
noncomputable def B102_2 (pc:PC) (k:Nat) (j3:(D→Option D)) (u16:D) (c1:List D):Option D:=
ifU u16 (
some (D.v (Value.int IntKind.i64 1))) (
bindO (c1[0]?) fun d_8=>
bindO (pcD P pc 113 [d_8,(D.fn 114 [] [])]) fun d_9=>
bindO (semD P d_9 (Op.unary UnOp.not)) fun d_a=>
ifU d_a (
j3 d_a) (
bindO (c1[1]?) fun d_b=>
bindO (cutD c1 0 3) fun c_c=>
bindO (pcD P pc 115 [d_b,(D.fn 116 [(D.agg c_c)] [])]) fun d_d=>
bindO (semD P d_d (Op.unary UnOp.not)) fun d_e=>
ifU d_e (
j3 d_e) (
bindO (c1[2]?) fun d_f=>
bindO (pcD P pc 117 [d_f,(D.fn 118 [] [])]) fun d_g=>
bindO (semD P d_g (Op.unary UnOp.not)) fun d_h=>
j3 d_h)))
noncomputable def C102_2:=B102_2 pc k (C102_3 pc k)
theorem h102_2:T102_2 pc rk k=C102_2 pc k:=Eq.trans (b:=B102_2 pc k (T102_3 pc rk k)) (by kernel_rfl) (by rw[h102_3]; rfl)
noncomputable def B102_1 (pc:PC) (k:Nat) (j2:(D→List D→Option D)) (u3:D) (c1:List D):Option D:=
ifU u3 (
some (D.v (Value.int IntKind.i64 3))) (
bindO (c1[0]?) fun d_5=>
bindO (elsD d_5) fun l_6=>
bindO (binD P BinOp.eql 3 (Operand.tmp 19) (Operand.const (Value.int IntKind.i64 0)) (lenD l_6) (D.v (Value.int IntKind.i64 0))) fun d_7=>
ifU d_7 (
j2 d_7 c1) (
bindO (c1[2]?) fun d_i=>
bindO (elsD d_i) fun l_j=>
bindO (binD P BinOp.eql 3 (Operand.tmp 23) (Operand.const (Value.int IntKind.i64 0)) (lenD l_j) (D.v (Value.int IntKind.i64 0))) fun d_k=>
j2 d_k c1))
noncomputable def C102_1:=B102_1 pc k (C102_2 pc k)
theorem h102_1:T102_1 pc rk k=C102_1 pc k:=Eq.trans (b:=B102_1 pc k (T102_2 pc rk k)) (by kernel_rfl) (by rw[h102_2]; rfl)
noncomputable def B102_0 (pc:PC) (k:Nat) (j1:(D→List D→Option D)) (v0:D):Option D:=
bindO (aggD v0) fun c_1=>
bindO (c_1[0]?) fun d_2=>
bindO (elsD d_2) fun l_3=>
bindO (binD P BinOp.gtr 3 (Operand.tmp 6) (Operand.const (Value.int IntKind.i64 8)) (lenD l_3) (D.v (Value.int IntKind.i64 8))) fun d_4=>
ifU d_4 (
j1 d_4 c_1) (
bindO (c_1[1]?) fun d_l=>
bindO (elsD d_l) fun l_m=>
bindO (binD P BinOp.gtr 3 (Operand.tmp 10) (Operand.const (Value.int IntKind.i64 16)) (lenD l_m) (D.v (Value.int IntKind.i64 16))) fun d_n=>
ifU d_n (
j1 d_n c_1) (
bindO (c_1[2]?) fun d_o=>
bindO (elsD d_o) fun l_p=>
bindO (binD P BinOp.gtr 3 (Operand.tmp 14) (Operand.const (Value.int IntKind.i64 3)) (lenD l_p) (D.v (Value.int IntKind.i64 3))) fun d_q=>
j1 d_q c_1))
noncomputable def C102_0:=B102_0 pc k (C102_1 pc k)
theorem h102_0 (v0:D):bodyY P pc noY rk LA (k+1) 102 [v0]=C102_0 pc k v0:=(bqA Go.Proofs.Tryz.f102 code102 results102 (by kernel_rfl)).trans (Eq.trans (b:=B102_0 pc k (T102_1 pc rk k) v0) (by kernel_rfl) (by rw[h102_1]; rfl))
noncomputable def code103:Code:=codeOf 103
noncomputable def results103:List ResultVar:=resOf 103
noncomputable def K103_pr:KA:=(cutKA (LvA.b (LA 103)).c (codeA P pc noY rk (codeFA P pc noY rk 103 k) 103 (cR (cR code103)) (LvA.b (LvA.b (LA 103))) (doneA P results103) X0A (doneA P results103)))
noncomputable def K103_pxrlr:(Nat→KA):=(upA 0 (K103_pr pc rk k) X0A)
noncomputable def K103_prlrl (m1:Nat):KA:=(cutKA (LvA.a (LvA.b (LvA.a (LvA.b (LA 103))))).c (codeFA P pc noY rk 103 m1 (LvA.a (LvA.b (LvA.a (LvA.b (LA 103))))) (cL (cR (cL (cR code103)))) (K103_pr pc rk k) (K103_pxrlr pc rk k) (doneA P results103)))
noncomputable def T103_1 (m1:Nat):=fun(u0:D) (u3:D)=>labA (codeA P pc noY rk (codeFA P pc noY rk 103 m1) 103 (cL (cL (cR (cL (cR code103))))) (LvA.a (LvA.a (LvA.b (LvA.a (LvA.b (LA 103)))))) (K103_prlrl pc rk k m1) (K103_pxrlr pc rk k) (doneA P results103)) (Tr.set (Tr.set Tr.nil 3 (some (AV.d u3))) 0 (some (AV.d u0))) Tr.nil
noncomputable def R103_1 (m1:Nat):(D→D→Option D):=fun u0 u3=>labA (codeFA P pc noY rk 103 m1 (LvA.a (LvA.b (LvA.a (LvA.b (LA 103))))) (cL (cR (cL (cR code103)))) (K103_pr pc rk k) (K103_pxrlr pc rk k) (doneA P results103)) (Tr.set (Tr.set Tr.nil 3 (some (AV.d u3))) 0 (some (AV.d u0))) Tr.nil
noncomputable def B103_1 (pc:PC) (k:Nat) (m1:Nat) (b1:(D→D→Option D)) (u0:D) (u3:D):Option D:=
bindO (elsD u0) fun l_1=>
bindO (binD P BinOp.lss 3 (Operand.tmp 4) (Operand.tmp 6) u3 (lenD l_1)) fun d_2=>
ifU d_2 (
bindO (elsD u0) fun l_3=>
bindO (idxD u3 l_3.length) fun i_4=>
bindO (l_3[i_4]?) fun d_5=>
chkK (leafD d_5) (
bindO (binD P BinOp.sub 3 (Operand.tmp 15) (Operand.const (Value.int IntKind.i64 1)) u3 (D.v (Value.int IntKind.i64 1))) fun d_6=>
bindO (elsD u0) fun l_7=>
bindO (idxD d_6 l_7.length) fun i_8=>
bindO (l_7[i_8]?) fun d_9=>
chkK (leafD d_9) (
bindO (binD P BinOp.leq 3 (Operand.tmp 13) (Operand.tmp 18) d_5 d_9) fun d_a=>
ifU d_a (
some (D.v (Value.bool false))) (
bindO (binD P BinOp.add 3 (Operand.tmp 8) (Operand.const (Value.int IntKind.i64 1)) u3 (D.v (Value.int IntKind.i64 1))) fun d_b=>
b1 u0 d_b)))) (
some (D.v (Value.bool true)))
noncomputable def C103_1 (m1:Nat):=B103_1 pc k m1
noncomputable def S103_1:Nat→(D→D→Option D):=recF (C103_1 pc k) (fun _ _=>none)
theorem h103_1 (m1:Nat):T103_1 pc rk k m1=C103_1 pc k m1 (R103_1 pc rk k m1):=by kernel_rfl
theorem q103_1 (m:Nat):T103_1 pc rk k m=S103_1 pc k m:=recS (h103_1 pc rk k) (by kernel_rfl) (fun m=>by kernel_rfl) m
noncomputable def B103_0 (pc:PC) (k:Nat) (j1:(D→D→Option D)) (v0:D):Option D:=
j1 v0 (D.v (Value.int IntKind.i64 1))
noncomputable def C103_0:=B103_0 pc k (S103_1 pc k k)
theorem h103_0 (v0:D):bodyY P pc noY rk LA (k+1) 103 [v0]=C103_0 pc k v0:=(bqA Go.Proofs.Tryz.f103 code103 results103 (by kernel_rfl)).trans (Eq.trans (b:=B103_0 pc k (T103_1 pc rk k k) v0) (by kernel_rfl) (by rw[q103_1]; rfl))
noncomputable def code104:Code:=codeOf 104
noncomputable def results104:List ResultVar:=resOf 104
noncomputable def B104_0 (pc:PC) (k:Nat) (v0:D) (v1:D):Option D:=
chkK (leafD v0) (
chkK (leafD v1) (
some (D.fn 119 [] [(D.ref [v0]),(D.ref [v1])])))
noncomputable def C104_0:=B104_0 pc k
theorem h104_0 (v0:D) (v1:D):bodyY P pc noY rk LA (k+1) 104 [v0,v1]=C104_0 pc k v0 v1:=(bqA Go.Proofs.Tryz.f104 code104 results104 (by kernel_rfl)).trans (by kernel_rfl)
noncomputable def code105:Code:=codeOf 105
noncomputable def results105:List ResultVar:=resOf 105
noncomputable def B105_0 (pc:PC) (k:Nat) (v0:D) (v1:D):Option D:=
bindO (pcD P pc 35 [v0,(D.v (Value.int IntKind.i64 0)),v1]) fun d_1=>
ifU d_1 (
bindO (binD P BinOp.leq 3 (Operand.tmp 9) (Operand.const (Value.int IntKind.i64 1000)) v1 (D.v (Value.int IntKind.i64 1000))) fun d_2=>
some d_2) (
some (D.v (Value.bool false)))
noncomputable def C105_0:=B105_0 pc k
theorem h105_0 (v0:D) (v1:D):bodyY P pc noY rk LA (k+1) 105 [v0,v1]=C105_0 pc k v0 v1:=(bqA Go.Proofs.Tryz.f105 code105 results105 (by kernel_rfl)).trans (by kernel_rfl)
noncomputable def code113:Code:=codeOf 113
noncomputable def results113:List ResultVar:=resOf 113
noncomputable def K113_pr:KA:=(cutKA (LvA.b (LA 113)).c (codeA P pc noY rk (codeFA P pc noY rk 113 k) 113 (cR (cR code113)) (LvA.b (LvA.b (LA 113))) (doneA P results113) X0A (doneA P results113)))
noncomputable def K113_pxrlr:(Nat→KA):=(upA 0 (K113_pr pc rk k) X0A)
noncomputable def K113_prlrl (m1:Nat):KA:=(cutKA (LvA.a (LvA.b (LvA.a (LvA.b (LA 113))))).c (codeFA P pc noY rk 113 m1 (LvA.a (LvA.b (LvA.a (LvA.b (LA 113))))) (cL (cR (cL (cR code113)))) (K113_pr pc rk k) (K113_pxrlr pc rk k) (doneA P results113)))
noncomputable def T113_1 (m1:Nat):=fun(u1:D) (u7:D) (u8:D) (u9:D)=>labA (codeA P pc noY rk (codeFA P pc noY rk 113 m1) 113 (cL (cL (cR (cL (cR code113))))) (LvA.a (LvA.a (LvA.b (LvA.a (LvA.b (LA 113)))))) (K113_prlrl pc rk k m1) (K113_pxrlr pc rk k) (doneA P results113)) (Tr.set (Tr.set (Tr.set (Tr.set Tr.nil 9 (some (AV.d u9))) 8 (some (AV.d u8))) 7 (some (AV.d u7))) 1 (some (AV.d u1))) Tr.nil
noncomputable def R113_1 (m1:Nat):(D→D→D→D→Option D):=fun u1 u7 u8 u9=>labA (codeFA P pc noY rk 113 m1 (LvA.a (LvA.b (LvA.a (LvA.b (LA 113))))) (cL (cR (cL (cR code113)))) (K113_pr pc rk k) (K113_pxrlr pc rk k) (doneA P results113)) (Tr.set (Tr.set (Tr.set (Tr.set Tr.nil 9 (some (AV.d u9))) 8 (some (AV.d u8))) 7 (some (AV.d u7))) 1 (some (AV.d u1))) Tr.nil
noncomputable def B113_1 (pc:PC) (k:Nat) (m1:Nat) (b1:(D→D→D→D→Option D)) (u1:D) (u7:D) (u8:D) (u9:D):Option D:=
bindO (binD P BinOp.lss 3 (Operand.tmp 9) (Operand.tmp 8) u9 u8) fun d_2=>
ifU d_2 (
bindO (elsD u7) fun l_3=>
bindO (idxD u9 l_3.length) fun i_4=>
bindO (l_3[i_4]?) fun d_5=>
bindO (aggD d_5) fun c_6=>
chkK (Nat.beq c_6.length 2) (
bindO (cutD c_6 0 2) fun c_7=>
bindO (splD [(D.v (Value.int IntKind.i64 0)),(D.v (Value.int IntKind.i64 0))] 0 c_7 2) fun c_8=>
bindO (cutD c_8 0 2) fun c_9=>
fnK u1 fun g a b=>
bindO (pcD P pc g (a++[(D.agg c_9)]++b)) fun d_a=>
bindO (semD P d_a (Op.unary UnOp.not)) fun d_b=>
ifU d_b (
some (D.v (Value.bool false))) (
bindO (binD P BinOp.add 3 (Operand.tmp 9) (Operand.const (Value.int IntKind.i64 1)) u9 (D.v (Value.int IntKind.i64 1))) fun d_c=>
b1 u1 u7 u8 d_c))) (
some (D.v (Value.bool true)))
noncomputable def C113_1 (m1:Nat):=B113_1 pc k m1
noncomputable def S113_1:Nat→(D→D→D→D→Option D):=recF (C113_1 pc k) (fun _ _ _ _=>none)
theorem h113_1 (m1:Nat):T113_1 pc rk k m1=C113_1 pc k m1 (R113_1 pc rk k m1):=by kernel_rfl
theorem q113_1 (m:Nat):T113_1 pc rk k m=S113_1 pc k m:=recS (h113_1 pc rk k) (by kernel_rfl) (fun m=>by kernel_rfl) m
noncomputable def B113_0 (pc:PC) (k:Nat) (j1:(D→D→D→D→Option D)) (v0:D) (v1:D):Option D:=
bindO (elsD v0) fun l_1=>
j1 v1 v0 (lenD l_1) (D.v (Value.int IntKind.i64 0))
noncomputable def C113_0:=B113_0 pc k (S113_1 pc k k)
theorem h113_0 (v0:D) (v1:D):bodyY P pc noY rk LA (k+1) 113 [v0,v1]=C113_0 pc k v0 v1:=(bqA Go.Proofs.Tryz.f113 code113 results113 (by kernel_rfl)).trans (Eq.trans (b:=B113_0 pc k (T113_1 pc rk k k) v0 v1) (by kernel_rfl) (by rw[q113_1]; rfl))
noncomputable def code114:Code:=codeOf 114
noncomputable def results114:List ResultVar:=resOf 114
noncomputable def B114_0 (pc:PC) (k:Nat) (v0:D):Option D:=
bindO (aggD v0) fun c_1=>
bindO (c_1[0]?) fun d_2=>
bindO (binD P BinOp.geq 3 (Operand.tmp 4) (Operand.const (Value.int IntKind.i64 0)) d_2 (D.v (Value.int IntKind.i64 0))) fun d_3=>
ifU d_3 (
bindO (c_1[0]?) fun d_4=>
bindO (c_1[1]?) fun d_5=>
bindO (binD P BinOp.leq 3 (Operand.tmp 8) (Operand.tmp 10) d_4 d_5) fun d_6=>
ifU d_6 (
bindO (c_1[1]?) fun d_7=>
bindO (binD P BinOp.leq 3 (Operand.tmp 15) (Operand.const (Value.int IntKind.i64 1000)) d_7 (D.v (Value.int IntKind.i64 1000))) fun d_8=>
some d_8) (
some (D.v (Value.bool false)))) (
some (D.v (Value.bool false)))
noncomputable def C114_0:=B114_0 pc k
theorem h114_0 (v0:D):bodyY P pc noY rk LA (k+1) 114 [v0]=C114_0 pc k v0:=(bqA Go.Proofs.Tryz.f114 code114 results114 (by kernel_rfl)).trans (by kernel_rfl)
noncomputable def code115:Code:=codeOf 115
noncomputable def results115:List ResultVar:=resOf 115
noncomputable def K115_pr:KA:=(cutKA (LvA.b (LA 115)).c (codeA P pc noY rk (codeFA P pc noY rk 115 k) 115 (cR (cR code115)) (LvA.b (LvA.b (LA 115))) (doneA P results115) X0A (doneA P results115)))
noncomputable def K115_pxrlr:(Nat→KA):=(upA 0 (K115_pr pc rk k) X0A)
noncomputable def K115_prlrl (m1:Nat):KA:=(cutKA (LvA.a (LvA.b (LvA.a (LvA.b (LA 115))))).c (codeFA P pc noY rk 115 m1 (LvA.a (LvA.b (LvA.a (LvA.b (LA 115))))) (cL (cR (cL (cR code115)))) (K115_pr pc rk k) (K115_pxrlr pc rk k) (doneA P results115)))
noncomputable def T115_1 (m1:Nat):=fun(u1:D) (u7:D) (u8:D) (u9:D)=>labA (codeA P pc noY rk (codeFA P pc noY rk 115 m1) 115 (cL (cL (cR (cL (cR code115))))) (LvA.a (LvA.a (LvA.b (LvA.a (LvA.b (LA 115)))))) (K115_prlrl pc rk k m1) (K115_pxrlr pc rk k) (doneA P results115)) (Tr.set (Tr.set (Tr.set (Tr.set Tr.nil 9 (some (AV.d u9))) 8 (some (AV.d u8))) 7 (some (AV.d u7))) 1 (some (AV.d u1))) Tr.nil
noncomputable def R115_1 (m1:Nat):(D→D→D→D→Option D):=fun u1 u7 u8 u9=>labA (codeFA P pc noY rk 115 m1 (LvA.a (LvA.b (LvA.a (LvA.b (LA 115))))) (cL (cR (cL (cR code115)))) (K115_pr pc rk k) (K115_pxrlr pc rk k) (doneA P results115)) (Tr.set (Tr.set (Tr.set (Tr.set Tr.nil 9 (some (AV.d u9))) 8 (some (AV.d u8))) 7 (some (AV.d u7))) 1 (some (AV.d u1))) Tr.nil
noncomputable def B115_1 (pc:PC) (k:Nat) (m1:Nat) (b1:(D→D→D→D→Option D)) (u1:D) (u7:D) (u8:D) (u9:D):Option D:=
bindO (binD P BinOp.lss 3 (Operand.tmp 9) (Operand.tmp 8) u9 u8) fun d_2=>
ifU d_2 (
bindO (elsD u7) fun l_3=>
bindO (idxD u9 l_3.length) fun i_4=>
bindO (l_3[i_4]?) fun d_5=>
bindO (aggD d_5) fun c_6=>
chkK (Nat.beq c_6.length 2) (
bindO (cutD c_6 0 2) fun c_7=>
bindO (splD [(D.v (Value.int IntKind.i64 0)),(D.v (Value.int IntKind.i64 0))] 0 c_7 2) fun c_8=>
bindO (cutD c_8 0 2) fun c_9=>
fnK u1 fun g a b=>
bindO (pcD P pc g (a++[(D.agg c_9)]++b)) fun d_a=>
bindO (semD P d_a (Op.unary UnOp.not)) fun d_b=>
ifU d_b (
some (D.v (Value.bool false))) (
bindO (binD P BinOp.add 3 (Operand.tmp 9) (Operand.const (Value.int IntKind.i64 1)) u9 (D.v (Value.int IntKind.i64 1))) fun d_c=>
b1 u1 u7 u8 d_c))) (
some (D.v (Value.bool true)))
noncomputable def C115_1 (m1:Nat):=B115_1 pc k m1
noncomputable def S115_1:Nat→(D→D→D→D→Option D):=recF (C115_1 pc k) (fun _ _ _ _=>none)
theorem h115_1 (m1:Nat):T115_1 pc rk k m1=C115_1 pc k m1 (R115_1 pc rk k m1):=by kernel_rfl
theorem q115_1 (m:Nat):T115_1 pc rk k m=S115_1 pc k m:=recS (h115_1 pc rk k) (by kernel_rfl) (fun m=>by kernel_rfl) m
noncomputable def B115_0 (pc:PC) (k:Nat) (j1:(D→D→D→D→Option D)) (v0:D) (v1:D):Option D:=
bindO (elsD v0) fun l_1=>
j1 v1 v0 (lenD l_1) (D.v (Value.int IntKind.i64 0))
noncomputable def C115_0:=B115_0 pc k (S115_1 pc k k)
theorem h115_0 (v0:D) (v1:D):bodyY P pc noY rk LA (k+1) 115 [v0,v1]=C115_0 pc k v0 v1:=(bqA Go.Proofs.Tryz.f115 code115 results115 (by kernel_rfl)).trans (Eq.trans (b:=B115_0 pc k (T115_1 pc rk k k) v0 v1) (by kernel_rfl) (by rw[q115_1]; rfl))
noncomputable def code116:Code:=codeOf 116
noncomputable def results116:List ResultVar:=resOf 116
noncomputable def K116_prr:KA:=(cutKA (LvA.b (LvA.b (LA 116))).c (codeA P pc noY rk (codeFA P pc noY rk 116 k) 116 (cR (cR (cR code116))) (LvA.b (LvA.b (LvA.b (LA 116)))) (doneA P results116) X0A (doneA P results116)))
noncomputable def K116_pxrrlr:(Nat→KA):=(upA 0 (K116_prr pc rk k) X0A)
noncomputable def K116_prrlrl (m1:Nat):KA:=(cutKA (LvA.a (LvA.b (LvA.a (LvA.b (LvA.b (LA 116)))))).c (codeFA P pc noY rk 116 m1 (LvA.a (LvA.b (LvA.a (LvA.b (LvA.b (LA 116)))))) (cL (cR (cL (cR (cR code116))))) (K116_prr pc rk k) (K116_pxrrlr pc rk k) (doneA P results116)))
noncomputable def K116_prrlrllrr (m1:Nat):KA:=(cutKA (LvA.b (LvA.b (LvA.a (LvA.a (LvA.b (LvA.a (LvA.b (LvA.b (LA 116))))))))).c (codeA P pc noY rk (codeFA P pc noY rk 116 m1) 116 (cR (cR (cR (cL (cL (cR (cL (cR (cR code116))))))))) (LvA.b (LvA.b (LvA.b (LvA.a (LvA.a (LvA.b (LvA.a (LvA.b (LvA.b (LA 116)))))))))) (K116_prrlrl pc rk k m1) (K116_pxrrlr pc rk k) (doneA P results116)))
noncomputable def K116_pxrrlrllrrl (m1:Nat):(Nat→KA):=(upA 1 (K116_prrlrllrr pc rk k m1) (K116_pxrrlr pc rk k))
noncomputable def T116_3 (m1:Nat):=fun(u5:D) (u9:D) (u10:D) (u11:D) (c2:List D) (c3:List D)=>labA (codeA P pc noY rk (codeFA P pc noY rk 116 m1) 116 (cR (cR (cR (cL (cL (cR (cL (cR (cR code116))))))))) (LvA.b (LvA.b (LvA.b (LvA.a (LvA.a (LvA.b (LvA.a (LvA.b (LvA.b (LA 116)))))))))) (K116_prrlrl pc rk k m1) (K116_pxrrlr pc rk k) (doneA P results116)) (Tr.set (Tr.set (Tr.set (Tr.set (Tr.set (Tr.set Tr.nil 11 (some (AV.d u11))) 10 (some (AV.d u10))) 9 (some (AV.d u9))) 5 (some (AV.d u5))) 3 (some (AV.loc 3 0))) 2 (some (AV.loc 2 0))) (Tr.set (Tr.set Tr.nil 3 (some (Bx.dat c3 false))) 2 (some (Bx.dat c2 false)))
noncomputable def T116_2 (m1:Nat):=fun(u5:D) (u9:D) (u10:D) (u11:D) (u26:D) (c2:List D) (c3:List D)=>labA (codeA P pc noY rk (codeFA P pc noY rk 116 m1) 116 (cR (cR (cL (cL (cR (cR (cL (cL (cR (cL (cR (cR code116)))))))))))) (LvA.b (LvA.b (LvA.a (LvA.a (LvA.b (LvA.b (LvA.a (LvA.a (LvA.b (LvA.a (LvA.b (LvA.b (LA 116))))))))))))) (K116_prrlrllrr pc rk k m1) (K116_pxrrlrllrrl pc rk k m1) (doneA P results116)) (Tr.set (Tr.set (Tr.set (Tr.set (Tr.set (Tr.set (Tr.set Tr.nil 26 (some (AV.d u26))) 11 (some (AV.d u11))) 10 (some (AV.d u10))) 9 (some (AV.d u9))) 5 (some (AV.d u5))) 3 (some (AV.loc 3 0))) 2 (some (AV.loc 2 0))) (Tr.set (Tr.set Tr.nil 3 (some (Bx.dat c3 false))) 2 (some (Bx.dat c2 false)))
noncomputable def T116_1 (m1:Nat):=fun(u5:D) (u9:D) (u10:D) (u11:D) (c2:List D) (c3:List D)=>labA (codeA P pc noY rk (codeFA P pc noY rk 116 m1) 116 (cL (cL (cR (cL (cR (cR code116)))))) (LvA.a (LvA.a (LvA.b (LvA.a (LvA.b (LvA.b (LA 116))))))) (K116_prrlrl pc rk k m1) (K116_pxrrlr pc rk k) (doneA P results116)) (Tr.set (Tr.set (Tr.set (Tr.set (Tr.set (Tr.set Tr.nil 11 (some (AV.d u11))) 10 (some (AV.d u10))) 9 (some (AV.d u9))) 5 (some (AV.d u5))) 3 (some (AV.loc 3 0))) 2 (some (AV.loc 2 0))) (Tr.set (Tr.set Tr.nil 3 (some (Bx.dat c3 false))) 2 (some (Bx.dat c2 false)))
noncomputable def R116_1 (m1:Nat):(D→D→D→D→List D→List D→Option D):=fun u5 u9 u10 u11 c2 c3=>labA (codeFA P pc noY rk 116 m1 (LvA.a (LvA.b (LvA.a (LvA.b (LvA.b (LA 116)))))) (cL (cR (cL (cR (cR code116))))) (K116_prr pc rk k) (K116_pxrrlr pc rk k) (doneA P results116)) (Tr.set (Tr.set (Tr.set (Tr.set (Tr.set (Tr.set Tr.nil 11 (some (AV.d u11))) 10 (some (AV.d u10))) 9 (some (AV.d u9))) 5 (some (AV.d u5))) 3 (some (AV.loc 3 0))) 2 (some (AV.loc 2 0))) (Tr.set (Tr.set Tr.nil 3 (some (Bx.dat c3 false))) 2 (some (Bx.dat c2 false)))
noncomputable def B116_3 (pc:PC) (k:Nat) (m1:Nat) (b1:(D→D→D→D→List D→List D→Option D)) (u5:D) (u9:D) (u10:D) (u11:D) (c2:List D) (c3:List D):Option D:=
bindO (binD P BinOp.add 3 (Operand.tmp 11) (Operand.const (Value.int IntKind.i64 1)) u11 (D.v (Value.int IntKind.i64 1))) fun d_g=>
b1 u5 u9 u10 d_g c2 c3
noncomputable def C116_3 (m1:Nat):=B116_3 pc k m1
theorem h116_3 (m1:Nat):T116_3 pc rk k m1=C116_3 pc k m1 (R116_1 pc rk k m1):=by kernel_rfl
noncomputable def B116_2 (pc:PC) (k:Nat) (m1:Nat) (j3:(D→D→D→D→List D→List D→Option D)) (b1:(D→D→D→D→List D→List D→Option D)) (u5:D) (u9:D) (u10:D) (u11:D) (u26:D) (c2:List D) (c3:List D):Option D:=
ifU u26 (
bindO (binD P BinOp.add 3 (Operand.tmp 27) (Operand.const (Value.int IntKind.i64 1)) u5 (D.v (Value.int IntKind.i64 1))) fun d_f=>
j3 d_f u9 u10 u11 c2 c3) (
j3 u5 u9 u10 u11 c2 c3)
noncomputable def C116_2 (m1:Nat) (b1:(D→D→D→D→List D→List D→Option D)):=B116_2 pc k m1 (C116_3 pc k m1 b1) b1
theorem h116_2 (m1:Nat):T116_2 pc rk k m1=C116_2 pc k m1 (R116_1 pc rk k m1):=Eq.trans (b:=B116_2 pc k m1 (T116_3 pc rk k m1) (R116_1 pc rk k m1)) (by kernel_rfl) (by rw[h116_3]; rfl)
noncomputable def B116_1 (pc:PC) (k:Nat) (m1:Nat) (j2:(D→D→D→D→D→List D→List D→Option D)) (b1:(D→D→D→D→List D→List D→Option D)) (u5:D) (u9:D) (u10:D) (u11:D) (c2:List D) (c3:List D):Option D:=
bindO (binD P BinOp.lss 3 (Operand.tmp 11) (Operand.tmp 10) u11 u10) fun d_5=>
ifU d_5 (
bindO (elsD u9) fun l_6=>
bindO (idxD u11 l_6.length) fun i_7=>
bindO (l_6[i_7]?) fun d_8=>
bindO (aggD d_8) fun c_9=>
chkK (Nat.beq c_9.length 2) (
bindO (cutD c_9 0 2) fun c_a=>
bindO (splD [(D.v (Value.int IntKind.i64 0)),(D.v (Value.int IntKind.i64 0))] 0 c_a 2) fun c_b=>
bindO (cutD c_b 0 2) fun c_c=>
bindO (cutD c3 0 2) fun c_d=>
bindO (binD P BinOp.eql 131 (Operand.tmp 15) (Operand.tmp 16) (D.agg c_c) (D.agg c_d)) fun d_e=>
ifU d_e (
j2 u5 u9 u10 u11 (D.v (Value.bool true)) c2 c3) (
bindO (cutD c_b 0 2) fun c_h=>
bindO (c3[1]?) fun d_i=>
bindO (c3[0]?) fun d_j=>
chkK (leafD d_i) (
chkK (leafD d_j) (
bindO (binD P BinOp.eql 131 (Operand.tmp 19) (Operand.tmp 24) (D.agg c_h) (D.agg [d_i,d_j])) fun d_k=>
j2 u5 u9 u10 u11 d_k c2 c3))))) (
bindO (cutD c2 0 3) fun c_l=>
bindO (c3[0]?) fun d_m=>
bindO (pcD P pc 128 [(D.agg c_l),d_m]) fun d_n=>
ifU d_n (
bindO (cutD c2 0 3) fun c_o=>
bindO (c3[1]?) fun d_p=>
bindO (pcD P pc 128 [(D.agg c_o),d_p]) fun d_q=>
ifU d_q (
bindO (c3[0]?) fun d_r=>
bindO (c3[1]?) fun d_s=>
bindO (binD P BinOp.neq 3 (Operand.tmp 42) (Operand.tmp 44) d_r d_s) fun d_t=>
ifU d_t (
bindO (binD P BinOp.eql 3 (Operand.tmp 48) (Operand.const (Value.int IntKind.i64 1)) u5 (D.v (Value.int IntKind.i64 1))) fun d_u=>
some d_u) (
some (D.v (Value.bool false)))) (
some (D.v (Value.bool false)))) (
some (D.v (Value.bool false))))
noncomputable def C116_1 (m1:Nat) (b1:(D→D→D→D→List D→List D→Option D)):=B116_1 pc k m1 (C116_2 pc k m1 b1) b1
noncomputable def S116_1:Nat→(D→D→D→D→List D→List D→Option D):=recF (C116_1 pc k) (fun _ _ _ _ _ _=>none)
theorem h116_1 (m1:Nat):T116_1 pc rk k m1=C116_1 pc k m1 (R116_1 pc rk k m1):=Eq.trans (b:=B116_1 pc k m1 (T116_2 pc rk k m1) (R116_1 pc rk k m1)) (by kernel_rfl) (by rw[h116_2]; rfl)
theorem q116_1 (m:Nat):T116_1 pc rk k m=S116_1 pc k m:=recS (h116_1 pc rk k) (by kernel_rfl) (fun m=>by kernel_rfl) m
noncomputable def B116_0 (pc:PC) (k:Nat) (j1:(D→D→D→D→List D→List D→Option D)) (v0:D) (v1:D):Option D:=
bindO (aggD v0) fun c_1=>
bindO (aggD v1) fun c_2=>
bindO (c_1[1]?) fun d_3=>
bindO (elsD d_3) fun l_4=>
j1 (D.v (Value.int IntKind.i64 0)) d_3 (lenD l_4) (D.v (Value.int IntKind.i64 0)) c_1 c_2
noncomputable def C116_0:=B116_0 pc k (S116_1 pc k k)
theorem h116_0 (v0:D) (v1:D):bodyY P pc noY rk LA (k+1) 116 [v0,v1]=C116_0 pc k v0 v1:=(bqA Go.Proofs.Tryz.f116 code116 results116 (by kernel_rfl)).trans (Eq.trans (b:=B116_0 pc k (T116_1 pc rk k k) v0 v1) (by kernel_rfl) (by rw[q116_1]; rfl))
noncomputable def code117:Code:=codeOf 117
noncomputable def results117:List ResultVar:=resOf 117
noncomputable def K117_pr:KA:=(cutKA (LvA.b (LA 117)).c (codeA P pc noY rk (codeFA P pc noY rk 117 k) 117 (cR (cR code117)) (LvA.b (LvA.b (LA 117))) (doneA P results117) X0A (doneA P results117)))
noncomputable def K117_pxrlr:(Nat→KA):=(upA 0 (K117_pr pc rk k) X0A)
noncomputable def K117_prlrl (m1:Nat):KA:=(cutKA (LvA.a (LvA.b (LvA.a (LvA.b (LA 117))))).c (codeFA P pc noY rk 117 m1 (LvA.a (LvA.b (LvA.a (LvA.b (LA 117))))) (cL (cR (cL (cR code117)))) (K117_pr pc rk k) (K117_pxrlr pc rk k) (doneA P results117)))
noncomputable def T117_1 (m1:Nat):=fun(u1:D) (u7:D) (u8:D) (u9:D)=>labA (codeA P pc noY rk (codeFA P pc noY rk 117 m1) 117 (cL (cL (cR (cL (cR code117))))) (LvA.a (LvA.a (LvA.b (LvA.a (LvA.b (LA 117)))))) (K117_prlrl pc rk k m1) (K117_pxrlr pc rk k) (doneA P results117)) (Tr.set (Tr.set (Tr.set (Tr.set Tr.nil 9 (some (AV.d u9))) 8 (some (AV.d u8))) 7 (some (AV.d u7))) 1 (some (AV.d u1))) Tr.nil
noncomputable def R117_1 (m1:Nat):(D→D→D→D→Option D):=fun u1 u7 u8 u9=>labA (codeFA P pc noY rk 117 m1 (LvA.a (LvA.b (LvA.a (LvA.b (LA 117))))) (cL (cR (cL (cR code117)))) (K117_pr pc rk k) (K117_pxrlr pc rk k) (doneA P results117)) (Tr.set (Tr.set (Tr.set (Tr.set Tr.nil 9 (some (AV.d u9))) 8 (some (AV.d u8))) 7 (some (AV.d u7))) 1 (some (AV.d u1))) Tr.nil
noncomputable def B117_1 (pc:PC) (k:Nat) (m1:Nat) (b1:(D→D→D→D→Option D)) (u1:D) (u7:D) (u8:D) (u9:D):Option D:=
bindO (binD P BinOp.lss 3 (Operand.tmp 9) (Operand.tmp 8) u9 u8) fun d_2=>
ifU d_2 (
bindO (elsD u7) fun l_3=>
bindO (idxD u9 l_3.length) fun i_4=>
bindO (l_3[i_4]?) fun d_5=>
bindO (aggD d_5) fun c_6=>
chkK (Nat.beq c_6.length 5) (
bindO (cutD c_6 0 5) fun c_7=>
bindO (splD [(D.v (Value.int IntKind.i64 0)),(D.v (Value.int IntKind.i64 0)),(D.v (Value.int IntKind.i64 0)),(D.v (Value.int IntKind.i64 0)),(D.v (Value.int IntKind.i64 0))] 0 c_7 5) fun c_8=>
bindO (cutD c_8 0 5) fun c_9=>
fnK u1 fun g a b=>
bindO (pcD P pc g (a++[(D.agg c_9)]++b)) fun d_a=>
bindO (semD P d_a (Op.unary UnOp.not)) fun d_b=>
ifU d_b (
some (D.v (Value.bool false))) (
bindO (binD P BinOp.add 3 (Operand.tmp 9) (Operand.const (Value.int IntKind.i64 1)) u9 (D.v (Value.int IntKind.i64 1))) fun d_c=>
b1 u1 u7 u8 d_c))) (
some (D.v (Value.bool true)))
noncomputable def C117_1 (m1:Nat):=B117_1 pc k m1
noncomputable def S117_1:Nat→(D→D→D→D→Option D):=recF (C117_1 pc k) (fun _ _ _ _=>none)
theorem h117_1 (m1:Nat):T117_1 pc rk k m1=C117_1 pc k m1 (R117_1 pc rk k m1):=by kernel_rfl
theorem q117_1 (m:Nat):T117_1 pc rk k m=S117_1 pc k m:=recS (h117_1 pc rk k) (by kernel_rfl) (fun m=>by kernel_rfl) m
noncomputable def B117_0 (pc:PC) (k:Nat) (j1:(D→D→D→D→Option D)) (v0:D) (v1:D):Option D:=
bindO (elsD v0) fun l_1=>
j1 v1 v0 (lenD l_1) (D.v (Value.int IntKind.i64 0))
noncomputable def C117_0:=B117_0 pc k (S117_1 pc k k)
theorem h117_0 (v0:D) (v1:D):bodyY P pc noY rk LA (k+1) 117 [v0,v1]=C117_0 pc k v0 v1:=(bqA Go.Proofs.Tryz.f117 code117 results117 (by kernel_rfl)).trans (Eq.trans (b:=B117_0 pc k (T117_1 pc rk k k) v0 v1) (by kernel_rfl) (by rw[q117_1]; rfl))
noncomputable def code118:Code:=codeOf 118
noncomputable def results118:List ResultVar:=resOf 118
noncomputable def B118_0 (pc:PC) (k:Nat) (v0:D):Option D:=
bindO (aggD v0) fun c_1=>
bindO (c_1[0]?) fun d_2=>
bindO (binD P BinOp.geq 3 (Operand.tmp 4) (Operand.const (Value.int IntKind.i64 0)) d_2 (D.v (Value.int IntKind.i64 0))) fun d_3=>
ifU d_3 (
bindO (c_1[0]?) fun d_4=>
bindO (binD P BinOp.leq 3 (Operand.tmp 8) (Operand.const (Value.int IntKind.i64 1000)) d_4 (D.v (Value.int IntKind.i64 1000))) fun d_5=>
ifU d_5 (
bindO (cutD c_1 1 2) fun c_6=>
bindO (pcD P pc 129 [(D.agg c_6)]) fun d_7=>
ifU d_7 (
bindO (cutD c_1 3 2) fun c_8=>
bindO (pcD P pc 129 [(D.agg c_8)]) fun d_9=>
some d_9) (
some (D.v (Value.bool false)))) (
some (D.v (Value.bool false)))) (
some (D.v (Value.bool false)))
noncomputable def C118_0:=B118_0 pc k
theorem h118_0 (v0:D):bodyY P pc noY rk LA (k+1) 118 [v0]=C118_0 pc k v0:=(bqA Go.Proofs.Tryz.f118 code118 results118 (by kernel_rfl)).trans (by kernel_rfl)
noncomputable def code119:Code:=codeOf 119
noncomputable def results119:List ResultVar:=resOf 119
noncomputable def K119_pxr (pc:PC) (k:Nat):(Nat→KA):=(upA 0 (doneA P results119) X0A)
noncomputable def K119_prl (m1:Nat):KA:=(cutKA (LvA.a (LvA.b (LA 119))).c (codeFA P pc nodeY noR 119 m1 (LvA.a (LvA.b (LA 119))) (cL (cR code119)) (doneA P results119) (K119_pxr pc k) (doneA P results119)))
noncomputable def K119_prllrr (m1:Nat):KA:=(cutKA (LvA.b (LvA.b (LvA.a (LvA.a (LvA.b (LA 119)))))).c (codeA P pc nodeY noR (codeFA P pc nodeY noR 119 m1) 119 (cR (cR (cR (cL (cL (cR code119)))))) (LvA.b (LvA.b (LvA.b (LvA.a (LvA.a (LvA.b (LA 119))))))) (K119_prl pc k m1) (K119_pxr pc k) (doneA P results119)))
noncomputable def K119_pxrllrrl (m1:Nat):(Nat→KA):=(upA 1 (K119_prllrr pc k m1) (K119_pxr pc k))
noncomputable def T119_2 (m1:Nat):=fun(u0:Nat) (u1:D) (u2:D) (u10:D) (u11:D) (u27:D)=>labA (codeA P pc nodeY noR (codeFA P pc nodeY noR 119 m1) 119 (cR (cR (cL (cL (cR (cR (cL (cL (cR code119))))))))) (LvA.b (LvA.b (LvA.a (LvA.a (LvA.b (LvA.b (LvA.a (LvA.a (LvA.b (LA 119)))))))))) (K119_prllrr pc k m1) (K119_pxrllrrl pc k m1) (doneA P results119)) (Tr.set (Tr.set (Tr.set (Tr.set (Tr.set (Tr.set Tr.nil 27 (some (AV.d u27))) 11 (some (AV.d u11))) 10 (some (AV.d u10))) 2 (some (AV.d u2))) 1 (some (AV.d u1))) 0 (some (AV.d (D.yld u0)))) Tr.nil
noncomputable def T119_1 (m1:Nat):=fun(u0:Nat) (u1:D) (u2:D) (u10:D) (u11:D)=>labA (codeA P pc nodeY noR (codeFA P pc nodeY noR 119 m1) 119 (cL (cL (cR code119))) (LvA.a (LvA.a (LvA.b (LA 119)))) (K119_prl pc k m1) (K119_pxr pc k) (doneA P results119)) (Tr.set (Tr.set (Tr.set (Tr.set (Tr.set Tr.nil 11 (some (AV.d u11))) 10 (some (AV.d u10))) 2 (some (AV.d u2))) 1 (some (AV.d u1))) 0 (some (AV.d (D.yld u0)))) Tr.nil
noncomputable def R119_1 (m1:Nat):(Nat→D→D→D→D→Option D):=fun u0 u1 u2 u10 u11=>labA (codeFA P pc nodeY noR 119 m1 (LvA.a (LvA.b (LA 119))) (cL (cR code119)) (doneA P results119) (K119_pxr pc k) (doneA P results119)) (Tr.set (Tr.set (Tr.set (Tr.set (Tr.set Tr.nil 11 (some (AV.d u11))) 10 (some (AV.d u10))) 2 (some (AV.d u2))) 1 (some (AV.d u1))) 0 (some (AV.d (D.yld u0)))) Tr.nil
noncomputable def B119_2 (pc:PC) (k:Nat) (m1:Nat) (b1:(Nat→D→D→D→D→Option D)) (u0:Nat) (u1:D) (u2:D) (u10:D) (u11:D) (u27:D):Option D:=
ifU u27 (
some (D.tup [])) (
bindO (binD P BinOp.add 3 (Operand.tmp 11) (Operand.const (Value.int IntKind.i64 1)) u11 (D.v (Value.int IntKind.i64 1))) fun d_h=>
b1 u0 u1 u2 u10 d_h)
noncomputable def C119_2 (m1:Nat):=B119_2 pc k m1
theorem h119_2 (m1:Nat):T119_2 pc k m1=C119_2 pc k m1 (R119_1 pc k m1):=by kernel_rfl
noncomputable def B119_1 (pc:PC) (k:Nat) (m1:Nat) (j2:(Nat→D→D→D→D→D→Option D)) (b1:(Nat→D→D→D→D→Option D)) (u0:Nat) (u1:D) (u2:D) (u10:D) (u11:D):Option D:=
bindO (binD P BinOp.lss 3 (Operand.tmp 11) (Operand.tmp 10) u11 u10) fun d_6=>
ifU d_6 (
bindO (derefD u1) fun c_7=>
bindO (c_7[0]?) fun d_8=>
nilA (AV.d d_8) (
bindO (derefD d_8) fun c_9=>
bindO (idxD u11 8) fun i_a=>
bindO ((List.drop (i_a * 1) (List.drop 5 c_9))[0]?) fun d_b=>
bindO (derefD u2) fun c_c=>
bindO (c_c[0]?) fun d_d=>
bindO (pcD P pc 95 [d_b,d_d]) fun d_e=>
ifU d_e (
nodeYf u0 [u11] (
bindO (semD P (D.v (Value.bool true)) (Op.unary UnOp.not)) fun d_g=>
j2 u0 u1 u2 u10 u11 d_g) (
bindO (semD P (D.v (Value.bool false)) (Op.unary UnOp.not)) fun d_i=>
j2 u0 u1 u2 u10 u11 d_i)) (
j2 u0 u1 u2 u10 u11 (D.v (Value.bool false))))) (
some (D.tup []))
noncomputable def C119_1 (m1:Nat) (b1:(Nat→D→D→D→D→Option D)):=B119_1 pc k m1 (C119_2 pc k m1 b1) b1
noncomputable def S119_1:Nat→(Nat→D→D→D→D→Option D):=recF (C119_1 pc k) (fun _ _ _ _ _=>none)
theorem h119_1 (m1:Nat):T119_1 pc k m1=C119_1 pc k m1 (R119_1 pc k m1):=Eq.trans (b:=B119_1 pc k m1 (T119_2 pc k m1) (R119_1 pc k m1)) (by kernel_rfl) (by rw[h119_2]; rfl)
theorem q119_1 (m:Nat):T119_1 pc k m=S119_1 pc k m:=recS (h119_1 pc k) (by kernel_rfl) (fun m=>by kernel_rfl) m
noncomputable def B119_0 (pc:PC) (k:Nat) (j1:(Nat→D→D→D→D→Option D)) (v0:Nat) (v1:D) (v2:D):Option D:=
bindO (derefD v1) fun c_1=>
bindO (c_1[0]?) fun d_2=>
nilA (AV.d d_2) (
bindO (derefD d_2) fun c_3=>
bindO ((List.drop 4 c_3)[0]?) fun d_4=>
bindO (elsD d_4) fun l_5=>
j1 v0 v1 v2 (lenD l_5) (D.v (Value.int IntKind.i64 0)))
noncomputable def C119_0:=B119_0 pc k (S119_1 pc k k)
theorem h119_0 (v0:Nat) (v1:D) (v2:D):bodyY P pc nodeY noR LA (k+1) 119 [D.yld v0,v1,v2]=C119_0 pc k v0 v1 v2:=(bqY Go.Proofs.Tryz.f119 code119 results119 (by kernel_rfl)).trans (Eq.trans (b:=B119_0 pc k (T119_1 pc k k) v0 v1 v2) (by kernel_rfl) (by rw[q119_1]; rfl))
noncomputable def code128:Code:=codeOf 128
noncomputable def results128:List ResultVar:=resOf 128
noncomputable def B128_0 (pc:PC) (k:Nat) (v0:D) (v1:D):Option D:=
bindO (aggD v0) fun c_1=>
bindO (binD P BinOp.geq 3 (Operand.tmp 5) (Operand.const (Value.int IntKind.i64 0)) v1 (D.v (Value.int IntKind.i64 0))) fun d_2=>
ifU d_2 (
bindO (c_1[0]?) fun d_3=>
bindO (elsD d_3) fun l_4=>
bindO (binD P BinOp.lss 3 (Operand.tmp 8) (Operand.tmp 11) v1 (lenD l_4)) fun d_5=>
some d_5) (
some (D.v (Value.bool false)))
noncomputable def C128_0:=B128_0 pc k
theorem h128_0 (v0:D) (v1:D):bodyY P pc noY rk LA (k+1) 128 [v0,v1]=C128_0 pc k v0 v1:=(bqA Go.Proofs.Tryz.f128 code128 results128 (by kernel_rfl)).trans (by kernel_rfl)
noncomputable def code129:Code:=codeOf 129
noncomputable def results129:List ResultVar:=resOf 129
noncomputable def B129_0 (pc:PC) (k:Nat) (v0:D):Option D:=
bindO (aggD v0) fun c_1=>
bindO (c_1[0]?) fun d_2=>
bindO (binD P BinOp.geq 3 (Operand.tmp 4) (Operand.const (Value.int IntKind.i64 0)) d_2 (D.v (Value.int IntKind.i64 0))) fun d_3=>
ifU d_3 (
bindO (c_1[0]?) fun d_4=>
bindO (c_1[1]?) fun d_5=>
bindO (binD P BinOp.leq 3 (Operand.tmp 8) (Operand.tmp 10) d_4 d_5) fun d_6=>
ifU d_6 (
bindO (c_1[1]?) fun d_7=>
bindO (binD P BinOp.leq 3 (Operand.tmp 15) (Operand.const (Value.int IntKind.i64 1000)) d_7 (D.v (Value.int IntKind.i64 1000))) fun d_8=>
some d_8) (
some (D.v (Value.bool false)))) (
some (D.v (Value.bool false)))
noncomputable def C129_0:=B129_0 pc k
theorem h129_0 (v0:D):bodyY P pc noY rk LA (k+1) 129 [v0]=C129_0 pc k v0:=(bqA Go.Proofs.Tryz.f129 code129 results129 (by kernel_rfl)).trans (by kernel_rfl)
end Go.Proofs.YtnnkcjolgbpklaaGreat.L
end
end
