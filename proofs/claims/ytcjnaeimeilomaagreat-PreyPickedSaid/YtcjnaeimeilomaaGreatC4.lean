import GoSem.ClaimJoined
import Derived.WideShapes
import Derived.SizedLaws
import Derived.ChangeSame
import Derived.ChangeOld
import Derived.ReadAgain
import Derived.RowKit3
import Derived.Test.YtcjnaeimeilomaaGreatC3
set_option linter.unusedVariables false
section
namespace Go.Ev
noncomputable section
open Go
def oX(ops:List Oper)(x:Nat):Bool:=match ops[x]? with
 | some o=>match dj o.op with
  | .l | .a | .m=>true
  | _=>false
 | none=>false
def exOf(A:List Nat)(ops:List Oper)(x:Nat):List Ent→List Extra
 | []=>[]
 | e::l=>match bit A x e.x with
  | true=>exOf A ops x l
  | false=>match oX ops e.x with
   | true=>e.k::exOf A ops x l
   | false=>exOf A ops x l
def jJ:List Extra→Hp→Option Hp
 | [],H=>some H
 | y::l,H=>match jJ l H with
  | none=>none
  | some H1=>match y with
   | .l _ a=>match H1.get a.block with
    | some (.cells c t _ vec)=>some (H1.set a.block (some (.cells c t true vec)))
    | some (.rows _)=>some H1
    | _=>none
   | _=>some H1
def kX:List Extra→Hp→Hp
 | [],H=>H
 | y::l,H=>match y with
  | .a id _ _=>(kX l H).set id none
  | _=>kX l H
def lz:List Extra→Hp→Hp→Option Hp
 | [],_,H=>some H
 | y::l,H0,H=>match lz l H0 H with
  | none=>none
  | some H1=>match y with
   | .l _ a=>match H.get a.block with
    | some B=>match B.ro with
     | true=>some (H1.set a.block (H0.get a.block))
     | false=>none
    | none=>none
   | _=>some H1
def jZ:List Extra→Hp→Hp→Hp
 | [],_,H=>H
 | y::l,H0,H=>match y with
  | .a id _ _=>(jZ l H0 H).set id (H0.get id)
  | _=>jZ l H0 H
def chkX(P:Program)(H:Hp):List Extra→Bool
 | []=>true
 | y::l=>chkE P H y && chkX P H l
def OK(P:Program)(t:TypeId)(l c:Value):Option (Nat × Nat × List Value × TypeId):=match dY P t,l,c with
 | some e,.int .i64 (.ofNat l),.int .i64 (.ofNat c)=>match szT P e,sK P e,jx P e with
  | some s,some b,some z=>if l≤c∧yW c s b∧(aQ z).length=s then some (l,c,repl c (aQ z),e) else none
  | _,_,_=>none
 | _,_,_=>none
section
variable {ρ:Type}
abbrev KD(ρ:Type):=Value→Extra→Hp→Nat→Option ρ
def chkK(b:Bool)(r:Option ρ):Option ρ:=match b with
 | true=>r
 | false=>none
def effK(P:Program)(ex:List Extra)(H:Hp)(n:Nat)(op:Hp→Nat→(Value→Hp→Nat→Option ρ)→Option ρ)(k:Value→Hp→Nat→Option ρ):Option ρ:=
 match ex with
 | []=>op H n k
 | ex=>bindO (jJ ex H) fun H1=>op (kX ex H1) n fun v H2 n2=>bindO (lz ex H H2) fun H3=>chkK (chkX P (jZ ex H H3) ex) (k v (jZ ex H H3) n2)
def fj(x:Value)(want:Bool)(op:KD ρ→Option ρ)(ex:Extra)(H:Hp)(n:Nat)(k:KD ρ):Option ρ:=
 match x with
 | .bool b=>match b == want with
  | true=>op k
  | false=>k undef ex H n
 | .tuple ⟨[]⟩=>k undef ex H n
 | _=>none
def opD(P:Program)(cal:Cal)(ex:List Extra)(o:Oper)(T:Tm)(H:Hp)(n:Nat)(k:KD ρ):Option ρ:=
 match dj o.op with
 | .p=>opE P cal o.op o.type T H n fun v _ _=>k v .p H n
 | .l=>match o.op with
  | .load t a=>getK (opd a T) fun v=>bindO (aX v) fun ad=>bindO (az P H t ad) fun v=>k v (.l t ad) H n
  | _=>none
 | .a=>match o.op with
  | .alloc e=>bindO (jx P e) fun z=>newK (aQ z) e H n fun H' n'=>k (ptr n) (.a n (some (aQ z)) e) H' n'
  | .box e x=>getK (opd x T) fun v=>newK (aQ v) e H n fun H' n'=>k (ptr n) (.a n (some (aQ v)) e) H' n'
  | .buildSlice t len parts=>getK (uW T parts.toList) fun ps=>bindO (zw P t len ps) fun q=>newK q.1 q.2 H n fun H' n'=>k (.slice (some ⟨n,0,none⟩) len len) (.a n (some q.1) q.2) H' n'
  | .makeSlice t l c=>getK (opd l T) fun l=>getK (opd c T) fun c=>bindO (OK P t l c) fun q=>newK q.2.2.1 q.2.2.2 H n fun H' n'=>k (.slice (some ⟨n,0,none⟩) q.1 q.2.1) (.a n (some q.2.2.1) q.2.2.2) H' n'
  | .makeMap _ none=>newMapK H n fun v H' n'=>k v (.a n none 0) H' n'
  | _=>none
 | .e=>effK P ex H n (fun H n k=>opE P cal o.op o.type T H n k) fun v H n=>k v .e H n
 | .m=>match o.op with
  | .lookup t a b ok=>getK (opd a T) fun mv=>getK (opd b T) fun kx=>bindO (fZ P H t mv kx ok) fun v=>k v (.m t mv kx ok v) H n
  | _=>none
def exNo(o:Oper):Extra:=match isE o with
 | true=>.e
 | false=>.p
def stepD(P:Program)(cal:Cal)(ops:List Oper)(ex:List Extra)(o:Oper)(T:Tm)(H:Hp)(n:Nat)(k:KD ρ):Option ρ:=
 match o.guard with
 | none=>opD P cal ex o T H n k
 | some (j,want)=>getK (GW ops j T) fun x=>fj x want (fun k=>opD P cal ex o T H n k) (exNo o) H n k
def sk(P:Program)(cal:Cal)(N:Nat)(ops:List Oper)(A:List Nat):List Nat→Reg→(Reg→Option ρ)→Option ρ
 | [],g,k=>k g
 | x::rest,g,k=>match ops[x]? with
  | none=>none
  | some o=>match inN N o.dst && zJ A g.log x o.dst (cj ops o) && !nK g.log x && (!isE o || rest.all fun y=>bit A y x) with
   | false=>none
   | true=>stepD P cal ops (exOf A ops x g.log) o (eZ g.T (cj ops o)) g.H g.n fun v ex H n=>sk P cal N ops A rest (addE g x o.dst (cj ops o) v ex H n) k
def drawK(P:Program)(cal:Cal)(N:Nat)(ops:List Oper)(T:Tm)(H:Hp)(n:Nat)(k:Tm→Hp→Nat→Option ρ):Option ρ:=
 match ancOk ops (ancs ops) && covers ops.length (order ops (ancs ops)) && P.follows .mixedOrders with
 | true=>sk P cal N ops (ancs ops) (order ops (ancs ops)) { log:=[],T,H,n } fun g=>k g.T g.H g.n
 | false=>none
end
variable {P:Program} {cal:Cal} {rec:Rec} {ρ:Type} {r:ρ} {N:Nat} {ops:List Oper} {A:List Nat}
def XZ(ops:List Oper)(log:List Ent):Prop:=∀ e,e ∈ log→oX ops e.x=false→e.k=.p∨e.k=.e
theorem maskXL_eq{x:Nat}{H:Hp}:∀ {log:List Ent},XZ ops log→maskL A x H log=jJ (exOf A ops x log) H
 | [],_=>rfl
 | e::l,h=>by
  have ih:=maskXL_eq (x:=x) (H:=H) (log:=l) (fun e he=>h e (List.mem_cons_of_mem _ he))
  have h0:=h e List.mem_cons_self
  simp only[maskL,exOf,ih]
  cases hb:bit A x e.x with
  | true=>
   simp only
   cases jJ (exOf A ops x l) H <;> rfl
  | false=>
   simp only
   cases hk:oX ops e.x with
   | true=>
    simp only[jJ]
    cases jJ (exOf A ops x l) H with
    | none=>rfl
    | some H1=>cases e.k <;> rfl
   | false=>
    simp only
    cases jJ (exOf A ops x l) H with
    | none=>rfl
    | some H1=>rcases h0 hk with q | q <;> rw[q]
theorem UV{x:Nat}{H:Hp}:∀ {log:List Ent},XZ ops log→Jz A x H log=kX (exOf A ops x log) H
 | [],_=>rfl
 | e::l,h=>by
  have ih:=UV (x:=x) (H:=H) (log:=l) (fun e he=>h e (List.mem_cons_of_mem _ he))
  have h0:=h e List.mem_cons_self
  simp only[Jz,exOf,ih]
  cases hb:bit A x e.x with
  | true=>rfl
  | false=>
   simp only
   cases hk:oX ops e.x with
   | true=>
    simp only[kX]
    cases e.k <;> rfl
   | false=>rcases h0 hk with q | q <;> rw[q]
theorem UW{x:Nat}{H0 H:Hp}:∀ {log:List Ent},XZ ops log→backL A x H0 H log=lz (exOf A ops x log) H0 H
 | [],_=>rfl
 | e::l,h=>by
  have ih:=UW (x:=x) (H0:=H0) (H:=H) (log:=l) (fun e he=>h e (List.mem_cons_of_mem _ he))
  have h0:=h e List.mem_cons_self
  simp only[backL,exOf,ih]
  cases hb:bit A x e.x with
  | true=>
   simp only
   cases lz (exOf A ops x l) H0 H <;> rfl
  | false=>
   simp only
   cases hk:oX ops e.x with
   | true=>
    simp only[lz]
    cases lz (exOf A ops x l) H0 H with
    | none=>rfl
    | some H1=>cases e.k <;> rfl
   | false=>
    simp only
    cases lz (exOf A ops x l) H0 H with
    | none=>rfl
    | some H1=>rcases h0 hk with q | q <;> rw[q]
theorem chkX_eq{x:Nat}{H:Hp}:∀ {log:List Ent},XZ ops log→chkM P A x H log=chkX P H (exOf A ops x log)
 | [],_=>rfl
 | e::l,h=>by
  have ih:=chkX_eq (x:=x) (H:=H) (log:=l) (fun e he=>h e (List.mem_cons_of_mem _ he))
  have h0:=h e List.mem_cons_self
  simp only[chkM,exOf,ih]
  cases hb:bit A x e.x with
  | true=>rfl
  | false=>
   simp only
   cases hk:oX ops e.x with
   | true=>rfl
   | false=>rcases h0 hk with q | q <;> rw[q] <;> rfl
theorem UX{x:Nat}{H0 H:Hp}:∀ {log:List Ent},XZ ops log→Jk A x H0 H log=jZ (exOf A ops x log) H0 H
 | [],_=>rfl
 | e::l,h=>by
  have ih:=UX (x:=x) (H0:=H0) (H:=H) (log:=l) (fun e he=>h e (List.mem_cons_of_mem _ he))
  have h0:=h e List.mem_cons_self
  simp only[Jk,exOf,ih]
  cases hb:bit A x e.x with
  | true=>rfl
  | false=>
   simp only
   cases hk:oX ops e.x with
   | true=>
    simp only[jZ]
    cases e.k <;> rfl
   | false=>rcases h0 hk with q | q <;> rw[q]
end
end Go.Ev
end
section
namespace Go.Ev
open Go
variable {P:Program} {cal:Cal} {rec:Rec} {ρ:Type} {r:ρ} {N:Nat} {ops:List Oper} {A:List Nat}
theorem cOp_aOp{op:Op}{type:TypeId}{st:St}(h:dj op=.p):cOp P rec op type st=aOp P op type st:=by
 cases op with
 | call c=>
  simp only[cOp,cCall,aOp]
  split
  ·rename_i f hf
   obtain⟨callee,_,_⟩:=c
   simp only at hf
   subst hf
   simp [dj] at h
  ·rfl
 | _=>rfl
theorem opD_ok(hc:cal.Ok P rec){x:Nat}{slots rest:List Nat}{g:Reg}{o:Oper}{T:Tm}{k:KD ρ}(hx:ops[x]?=some o)(hl:XZ ops g.log)
  (hE:isE o=true→rest.all (fun y=>bit A y x)=true) (e:opD P cal (exOf A ops x g.log) o T g.H g.n k=some r) :
  ∃ v ex H n,MX P rec A o x slots T rest g=some (addE g x o.dst slots v ex H n)∧k v ex H n=some r∧(oX ops x=false→ex=.p∨ex=.e):=by
 unfold opD at e
 unfold MX
 split at e
 ·rename_i hk
  simp only[hk]
  obtain⟨v,s,h,_,_,hkk⟩:=opE_ok (st:={ T,H:=g.H,n:=g.n,D:=[] }) hc e
  rw[cOp_aOp hk] at h
  rw[h]
  exact⟨v,.p,g.H,g.n,rfl,hkk,fun _=>.inl rfl⟩
 ·rename_i hk
  have hka:oX ops x=true:=by simp only[oX,hx,hk]
  simp only[hk]
  split at e
  ·rename_i t a ho
   simp only[kQ,nz] at e
   obtain⟨p,hp,ad,had,v,hv,hkk⟩:=e
   unfold aX at had
   split at had
   ·cases had
    refine⟨v,.l t ad,g.H,g.n,?_,hkk,fun q=>by rw[hka] at q; cases q⟩
    simp only[ho,hp,hv]
   ·cases had
  ·cases e
 ·rename_i hk
  have hka:oX ops x=true:=by simp only[oX,hx,hk]
  simp only[hk]
  have fin:∀ {c:List Value} {el:TypeId} {v:Value},aOp P o.op o.type { T,H:=g.H,n:=g.n,D:=[] }=some (v,mz { T,H:=g.H,n:=g.n,D:=[] } c el none) →
    k v (.a g.n (some c) el) (g.H.set g.n (some (.cells c el false none))) (g.n+1)=some r →
    ∃ v ex H n,(match aOp P o.op o.type { T,H:=g.H,n:=g.n,D:=[] } with
     | some (v,s)=>match s.H.get g.n with
      | some (.cells c e false none)=>some (addE g x o.dst slots v (.a g.n (some c) e) s.H s.n)
      | some (.map [] 0)=>some (addE g x o.dst slots v (.a g.n none 0) s.H s.n)
      | _=>none
     | none=>none)=some (addE g x o.dst slots v ex H n)∧k v ex H n=some r∧(oX ops x=false→ex=.p∨ex=.e):=by
   intro c el v h1 h2
   refine⟨v,.a g.n (some c) el,g.H.set g.n (some (.cells c el false none)),g.n+1,?_,h2,fun q=>by rw[hka] at q; cases q⟩
   rw[h1]
   simp only[mz,Tr.get_set,if_true]
  split at e
  ·rename_i el ho
   simp only[kQ,newK] at e
   obtain⟨z,hz,hkk⟩:=e
   exact fin (by rw[ho]; simp only[aOp,Ej,hz]) hkk
  ·rename_i el y ho
   simp only[nz,newK] at e
   obtain⟨v,hv,hkk⟩:=e
   exact fin (by rw[ho]; simp only[aOp,oBox,hv]) hkk
  ·rename_i t len parts ho
   simp only[kQ,nz,newK] at e
   obtain⟨ps,hps,⟨c,e1⟩,hr,hkk⟩:=e
   refine fin (c:=c) (el:=e1) ?_ hkk
   rw[ho]
   simp only[aOp,lQ,hps]
   unfold zw at hr
   split at hr
   ·rename_i el hel
    simp only[hel]
    split at hr
    ·rename_i s z hs hz
     split at hr
     ·rename_i hh
      split at hr
      ·rename_i cc hcc
       cases hr
       simp only[hs,hz,if_pos hh,hcc]
      ·cases hr
     ·cases hr
    ·cases hr
   ·cases hr
  ·rename_i t l c ho
   simp only[kQ,nz,newK] at e
   obtain⟨lv,hlv,cv,hcv,⟨q1,q2,cs,e1⟩,hr,hkk⟩:=e
   refine fin (c:=cs) (el:=e1) ?_ hkk
   rw[ho]
   simp only[aOp,nJ,hlv,hcv]
   unfold OK at hr
   split at hr
   ·rename_i el l c hel
    simp only[hel]
    split at hr
    ·rename_i s b z hs hb hz
     split at hr
     ·rename_i hh
      cases hr
      simp only[hs,hb,hz,if_pos hh]
     ·cases hr
    ·cases hr
   ·cases hr
  ·rename_i tt ho
   refine⟨.map (some g.n),.a g.n none 0,g.H.set g.n (some (.map [] 0)),g.n+1,?_,e,fun q=>by rw[hka] at q; cases q⟩
   rw[ho]
   simp only[aOp,Ey,Tr.get_set,if_true]
  ·cases e
 ·rename_i hk
  simp only[hk]
  have hee:isE o=true:=by simp only[isE,hk]
  rw[hE hee]
  rw[maskXL_eq hl]
  unfold effK at e
  split at e
  ·rename_i hex
   obtain⟨v,s,h,_,_,hkk⟩:=opE_ok (st:={ T,H:=g.H,n:=g.n,D:=[] }) hc e
   refine⟨v,.e,s.H,s.n,?_,hkk,fun _=>.inr rfl⟩
   rw[hex]
   simp only[jJ,UV hl,hex,kX,h,UW hl,lz,UX hl,jZ,chkX_eq hl,chkX]
  ·simp only [kQ] at e
   obtain⟨H1,hH1,e⟩:=e
   obtain⟨v,s,h,_,_,hkk⟩:=opE_ok (st:={ T,H:=kX (exOf A ops x g.log) H1,n:=g.n,D:=[] }) hc e
   simp only[kQ] at hkk
   obtain⟨H3,hH3,hkk⟩:=hkk
   unfold chkK at hkk
   split at hkk
   ·rename_i hchk
    refine⟨v,.e,jZ (exOf A ops x g.log) g.H H3,s.n,?_,hkk,fun _=>.inr rfl⟩
    simp only[hH1,UV hl,h,UW hl,hH3,UX hl,chkX_eq hl,hchk]
   ·cases hkk
 ·rename_i hk
  have hka:oX ops x=true:=by simp only[oX,hx,hk]
  simp only[hk]
  split at e
  ·rename_i t a b ok ho
   simp only[kQ,nz] at e
   obtain⟨mv,hmv,kx,hkx,v,hv,hkk⟩:=e
   refine⟨v,.m t mv kx ok v,g.H,g.n,?_,hkk,fun q=>by rw[hka] at q; cases q⟩
   simp only[ho,hmv,hkx,hv]
  ·cases e
theorem stepD_ok(hc:cal.Ok P rec){x:Nat}{rest:List Nat}{g:Reg}{o:Oper}{k:KD ρ}(hx:ops[x]?=some o)(hl:XZ ops g.log)
  (hin:(inN N o.dst && zJ A g.log x o.dst (cj ops o) && !nK g.log x)=true)
  (hE:isE o=true→rest.all (fun y=>bit A y x)=true) (e:stepD P cal ops (exOf A ops x g.log) o (eZ g.T (cj ops o)) g.H g.n k=some r) :
  ∃ v ex H n,pw P rec N ops A x rest g=some (addE g x o.dst (cj ops o) v ex H n)∧k v ex H n=some r∧(oX ops x=false→ex=.p∨ex=.e):=by
 unfold stepD at e
 unfold pw
 simp only[hx,hin]
 split at e
 ·rename_i hg
  simp only[hg,pQ]
  exact opD_ok hc hx hl hE e
 ·rename_i j want hg
  rw[hg]
  simp only[nz] at e
  obtain⟨y,hy,e⟩:=e
  unfold fj at e
  split at e
  ·rename_i b
   have hw:=wantedA_of (g:=(j,want)) hy
   simp only[hw]
   split at e
   ·rename_i hb; rw[hb]; exact opD_ok hc hx hl hE e
   ·rename_i hb; rw [hb]
    refine⟨undef,exNo o,g.H,g.n,?_,e,fun _=>?_⟩
    ·simp only [exNo]
     cases hh:isE o with
     | true=>simp only[hE hh]
     | false=>rfl
    ·simp only[exNo]; cases isE o <;> simp
  ·have hw := wantedA_un (g := (j, want)) hy
   simp only[hw]
   refine⟨undef,exNo o,g.H,g.n,?_,e,fun _=>?_⟩
   ·simp only [exNo]
    cases hh:isE o with
    | true=>simp only[hE hh]
    | false=>rfl
   ·simp only[exNo]; cases isE o <;> simp
  ·cases e
theorem drawRunK_ok(hc:cal.Ok P rec):∀ {π:List Nat} {g:Reg} {k:Reg→Option ρ},XZ ops g.log→sk P cal N ops A π g k=some r →
  ∃ g',sy P rec N ops A π g=some g'∧k g'=some r
 | [],g,k,_,e=>⟨g,rfl,e⟩
 | x::rest,g,k,hl,e=>by
  simp only[sk] at e
  split at e
  ·cases e
  rename_i o hx
  split at e
  ·cases e
  rename_i hcond
  rw[Bool.and_eq_true] at hcond
  obtain⟨h1,h2⟩:=hcond
  obtain⟨v,ex,H,n,hs,hk,hkd⟩:=stepD_ok (rest:=rest) hc hx hl h1 (fun hE=>by rw[hE] at h2; simpa using h2) e
  obtain⟨g',hg,hk⟩:=drawRunK_ok hc (by
   intro e2 he2 hkk
   rcases List.mem_cons.1 he2 with rfl | he2
   ·exact hkd hkk
   ·exact hl e2 he2 hkk) hk
  exact⟨g',by simp only[sy,hs,hg],hk⟩
theorem drawK_ok(hc:cal.Ok P rec){f:FuncId}{st:St}{k:Tm→Hp→Nat→Option ρ}(e:drawK P cal N ops st.T st.H st.n k=some r) :
  ∃ s,JJ P rec f N ops st=some s∧s.D=st.D∧k s.T s.H s.n=some r:=by
 unfold drawK at e
 unfold JJ
 split at e
 ·rename_i h
  obtain⟨g,hg,hk⟩:=drawRunK_ok hc (fun _ q=>absurd q (by simp)) e
  exact⟨{ st with T:=g.T,H:=g.H,n:=g.n },by simp only[h,hg],rfl,hk⟩
 ·cases e
end Go.Ev
end
section
namespace Go.Ev
noncomputable section
open Go
abbrev KC(ρ:Type):=Tm→Hp→Nat→List Nat→Option ρ
abbrev XC(ρ:Type):=Nat→KC ρ
section
variable {ρ:Type}
def fin(K:KC ρ)(X:XC ρ)(Kr:KC ρ)(o:Option (Ex × St)):Option ρ:=match o with
 | none=>none
 | some (.norm,s)=>K s.T s.H s.n s.D
 | some (.exit id,s)=>X id s.T s.H s.n s.D
 | some (.ret,s)=>Kr s.T s.H s.n s.D
def ifK(v:Value)(a b:Option ρ):Option ρ:=match v with
 | .bool true=>a
 | .bool false=>b
 | _=>none
def upX(id:Nat)(K:KC ρ)(X:XC ρ):XC ρ:=fun j=>match Nat.beq j id with
 | true=>K
 | false=>X j
def labK(g:KC ρ):KC ρ:=g
def cutK:Option (List Nat)→KC ρ→KC ρ
 | none,g=>g
 | some L,g=>fun T H n D=>labK g (eZ T L) H n D
theorem cutK_eq{c:Option (List Nat)}{g:KC ρ}{T:Tm}{H:Hp}{n:Nat}{D:List Nat}:cutK c g T H n D=g (cutT c T) H n D:=by cases c <;> rfl
abbrev LpE(ρ:Type):=Lv→Option Nat→FuncId→Code→KC ρ→XC ρ→KC ρ→KC ρ
def CZ(P:Program)(cal:Cal)(ro:Option Nat)(f:FuncId)(v:Value)(params:Array Tmp)(assign body:Code)(K:KC ρ)(X:XC ρ)(Kr:KC ρ):KC ρ:=fun T H n D=>
 match v with
 | .func (.func g) first cap=>match vJ ro { T,H,n,D } with
  | none=>none
  | some (d,st)=>aZ P cal g (first.toList++(.func (.yield st.n) #[] #[])::cap.toList) (st.H.set st.n (some (.loop .ready none f st.T (ntm P f) params assign body d))) (st.n+1)
    fun _ H n=>fin K X Kr (zK st.n { T:=st.T,H,n,D:=st.D })
 | _=>none
def bW(P:Program)(cal:Cal)(lp:LpE ρ)(ro:Option Nat)(f:FuncId):Code→Lv→KC ρ→XC ρ→KC ρ→KC ρ
 | .skip,_,K,_,_=>K
 | .label _,_,K,_,_=>K
 | .ret,_,_,_,Kr=>Kr
 | .exit id,_,_,X,_=>X id
 | .seq a b,lv,K,X,Kr=>bW P cal lp ro f a lv.a (cutK lv.c (bW P cal lp ro f b lv.b K X Kr)) X Kr
 | .cond c a b,lv,K,X,Kr=>fun T H n D=>getK (opd c T) fun v=>ifK v (bW P cal lp ro f a lv.a K X Kr T H n D) (bW P cal lp ro f b lv.b K X Kr T H n D)
 | .block id c,lv,K,X,Kr=>bW P cal lp ro f c lv.a K (upX id K X) Kr
 | .scope c,lv,K,X,Kr=>bW P cal lp ro f c lv.a K X Kr
 | .loop c,lv,K,X,Kr=>cutK lv.c (bW P cal lp ro f c lv.a (fun T H n D=>lp lv ro f (.loop c) K X Kr (cutT lv.c T) H n D) X Kr)
 | .region _ ops false,_,K,_,_=>fun T H n D=>opsE P cal (ntm P f) ops.toList ops.toList T H n fun T H n=>K T H n D
 | .region _ ops true,_,K,_,_=>fun T H n D=>drawK P cal (ntm P f) ops.toList T H n fun T H n=>K T H n D
 | .rangeFunc x params assign body,_,K,X,Kr=>fun T H n D=>getK (opd x T) fun v=>CZ P cal ro f v params assign body K X Kr T H n D
 | _,_,_,_,_=>fun _ _ _ _=>none
def aY(P:Program)(cal:Cal):Nat→LpE ρ
 | 0=>fun _ _ _ _ _ _ _ _ _ _ _=>none
 | k+1=>fun lv ro f c K X Kr=>bW P cal (aY P cal k) ro f c lv K X Kr
end
variable {P:Program} {cal:Cal} {rec:Rec} {ρ:Type} {r:ρ}
theorem fin_mono{K K':KC ρ}{X:XC ρ}{Kr:KC ρ}{o:Option (Ex × St)}(h:∀ T H n D,K T H n D=some r→K' T H n D=some r)(e:fin K X Kr o=some r):fin K' X Kr o=some r:=by
 unfold fin at e ⊢
 split at e
 ·cases e
 ·exact h _ _ _ _ e
 ·exact e
 ·exact e
theorem rangeK_ok(hc:cal.Ok P rec){ro:Option Nat}{f:FuncId}{x:Operand}{v:Value}{params:Array Tmp}{assign body:Code}{K:KC ρ}{X:XC ρ}{Kr:KC ρ}{st:St}(hv:opd x st.T=some v)
  (e:CZ P cal ro f v params assign body K X Kr st.T st.H st.n st.D=some r):fin K X Kr (ZJ P rec ro f x params assign body st)=some r:=by
 unfold CZ at e
 unfold ZJ
 rw[hv]
 split at e
 ·rename_i g first cap
  simp only
  have e0:({ T:=st.T,H:=st.H,n:=st.n,D:=st.D }:St)=st:=rfl
  rw[e0] at e
  split at e
  ·cases e
  ·rename_i d s hin
   rw[hin]
   simp only
   obtain⟨v',s',h,a,b,hk⟩:=callFK_ok (st:={ s with H:=s.H.set s.n (some (.loop .ready none f s.T (ntm P f) params assign body d)),n:=s.n+1 }) hc e
   rw[h]
   simp only
   have e1:({ T:=s.T,H:=s'.H,n:=s'.n,D:=s.D }:St)=s':=by
    obtain⟨t1,t2,t3,t4⟩:=s'
    simp only at a b
    subst a; subst b; rfl
   rw[e1] at hk
   exact hk
 ·cases e
theorem uk(hc:cal.Ok P rec){lp:LpE ρ}{lp':RecL}{ro:Option Nat}{f:FuncId}
  (hlp:∀ lv ro f c K X Kr (st:St),lp lv ro f c K X Kr st.T st.H st.n st.D=some r→fin K X Kr (lp' lv ro f c st)=some r) :
  ∀(c:Code) (lv:Lv) (K:KC ρ) (X:XC ρ) (Kr:KC ρ) (st:St),bW P cal lp ro f c lv K X Kr st.T st.H st.n st.D=some r→fin K X Kr (evA P rec lp' (JJ P rec) ro f c lv st)=some r
 | .skip,lv,K,X,Kr,st,e=>e
 | .label _,lv,K,X,Kr,st,e=>e
 | .ret,lv,K,X,Kr,st,e=>e
 | .exit _,lv,K,X,Kr,st,e=>e
 | .seq a b,lv,K,X,Kr,st,e=>by
  simp only[bW] at e
  have h1:=uk hc hlp a lv.a _ X Kr st e
  have h2:=fin_mono (K':=fun T H n D=>fin K X Kr (evA P rec lp' (JJ P rec) ro f b lv.b (cutS lv.c { T,H,n,D }))) (fun T H n D h=>uk hc hlp b lv.b K X Kr (cutS lv.c { T,H,n,D }) (by rw[cutK_eq] at h; exact h)) h1
  simp only[evA]
  generalize evA P rec lp' (JJ P rec) ro f a lv.a st=o at h2
  match o,h2 with
  | none,h2=>exact h2
  | some (.norm,s),h2=>exact h2
  | some (.exit _,s),h2=>exact h2
  | some (.ret,s),h2=>exact h2
 | .cond c a b,lv,K,X,Kr,st,e=>by
  simp only[bW,nz] at e
  obtain⟨v,hv,e⟩:=e
  simp only[evA]
  unfold ifK at e
  rw[hv]
  split at e
  ·exact uk hc hlp a lv.a K X Kr st e
  ·exact uk hc hlp b lv.b K X Kr st e
  ·cases e
 | .block id c,lv,K,X,Kr,st,e=>by
  simp only[bW] at e
  have h1:=uk hc hlp c lv.a K _ Kr st e
  simp only[evA]
  generalize evA P rec lp' (JJ P rec) ro f c lv.a st=o at h1
  match o,h1 with
  | none,h1=>exact h1
  | some (.norm,s),h1=>exact h1
  | some (.exit j,s),h1=>
   simp only[fin,upX] at h1
   simp only[Zk]
   cases hj:Nat.beq j id with
   | true=>rw[hj] at h1; exact h1
   | false=>rw[hj] at h1; exact h1
  | some (.ret,s),h1=>exact h1
 | .scope c,lv,K,X,Kr,st,e=>by
  simp only[bW] at e
  simp only[evA]
  exact uk hc hlp c lv.a K X Kr st e
 | .loop c,lv,K,X,Kr,st,e=>by
  simp only[bW,cutK_eq] at e
  have h1:=uk hc hlp c lv.a _ X Kr (cutS lv.c st) e
  have h2:=fin_mono (K':=fun T H n D=>fin K X Kr (lp' lv ro f (.loop c) (cutS lv.c { T,H,n,D }))) (fun T H n D h=>hlp lv ro f (.loop c) K X Kr (cutS lv.c { T,H,n,D }) h) h1
  simp only[evA]
  generalize evA P rec lp' (JJ P rec) ro f c lv.a (cutS lv.c st)=o at h2
  match o,h2 with
  | none,h2=>exact h2
  | some (.norm,s),h2=>exact h2
  | some (.exit _,s),h2=>exact h2
  | some (.ret,s),h2=>exact h2
 | .region id ops false,lv,K,X,Kr,st,e=>by
  simp only[bW] at e
  obtain⟨s,h,hd,hk⟩:=opsE_ok hc e
  simp only[evA,h,normE,fin,hd]
  exact hk
 | .region id ops true,lv,K,X,Kr,st,e=>by
  simp only[bW] at e
  obtain⟨s,h,hd,hk⟩:=drawK_ok (f:=f) hc e
  simp only[evA,h,normE,fin,hd]
  exact hk
 | .rangeFunc x params assign body,lv,K,X,Kr,st,e=>by
  simp only[bW,nz] at e
  obtain⟨v,hv,e⟩:=e
  simp only[evA]
  exact rangeK_ok hc hv e
 | .goto l,lv,K,X,Kr,st,e=>by simp [bW] at e
 | .refuse y,lv,K,X,Kr,st,e=>by simp [bW] at e
theorem GX(hc:cal.Ok P rec):∀(k:Nat) lv ro f c (K:KC ρ) X Kr (st:St),aY P cal k lv ro f c K X Kr st.T st.H st.n st.D=some r→fin K X Kr (evFA P rec k lv ro f c st)=some r
 | 0,lv,ro,f,c,K,X,Kr,st,e=>by simp [aY] at e
 | k+1,lv,ro,f,c,K,X,Kr,st,e=>uk hc (fun lv ro f c K X Kr st e=>GX hc k lv ro f c K X Kr st e) c lv K X Kr st e
abbrev Res:=Option (Value × Hp × Nat)
def ay(P:Program)(rs:List ResultVar):KC (Value × Hp × Nat):=fun T H n D=>
 getK (Dz H D) fun H=>bindO (resV P T H rs) fun vs=>some (oneV vs,H,n)
def aW(P:Program)(cal:Cal)(A:FuncId→Lv)(F:Nat)(f:FuncId)(args:List Value)(H:Hp)(n:Nat):Res:=
 match P.funcs[f]? with
 | none=>none
 | some fn=>match fn.body with
  | none=>none
  | some c => if fn.name == "runtime.NumGoroutine" || fn.ntmps < args.length then none else
   aY P cal F (A f) none f c (ay P fn.results.toList) (fun _ _ _ _ _=>none) (ay P fn.results.toList) (pj .nil 0 args) H n []
theorem Pj{rs:List ResultVar}{T:Tm}{H:Hp}{n:Nat}{D:List Nat}{x:Value × Hp × Nat}(e:ay P rs T H n D=some x) :
  ∃ H' vs,Dz H D=some H'∧resV P T H' rs=some vs∧x=(oneV vs,H',n):=by
 simp only[ay,kQ,nz,Option.some.injEq] at e
 obtain⟨H',h1,vs,h2,rfl⟩:=e
 exact⟨H',vs,h1,h2,rfl⟩
def upE(P:Program)(A:FuncId→Lv)(F:Nat)(cal:Cal)(tbl:FuncId→Option (Cal→List Value→Hp→Nat→Res)):Cal where
 call f args H n:=match tbl f with
  | some S=>S cal args H n
  | none=>aW P cal A F f args H n
 body l f c st:=aY P cal F (lvOf A f c (some l)) (some l) f c (fun T H n D=>some (.norm,{ T,H,n,D })) (fun id T H n D=>some (.exit id,{ T,H,n,D })) (fun T H n D=>some (.ret,{ T,H,n,D })) st.T st.H st.n st.D
def DJ(P:Program)(A:FuncId→Lv)(F:Nat)(tbl:FuncId→Option (Cal→List Value→Hp→Nat→Res)):Prop:=
 ∀ f S,tbl f=some S→∀ cal args H n r,S cal args H n=some r→aW P cal A F f args H n=some r
def calE(P:Program)(A:FuncId→Lv)(F:Nat)(tbl:FuncId→Option (Cal→List Value→Hp→Nat→Res)):Nat→Cal
 | 0=>{ call:=fun _ _ _ _=>none,body:=fun _ _ _ _=>none }
 | l+1=>upE P A F (calE P A F tbl l) tbl
theorem calE_ok{A:FuncId→Lv}{F:Nat}{tbl:FuncId→Option (Cal→List Value→Hp→Nat→Res)}(ht:DJ P A F tbl):∀ l,(calE P A F tbl l).Ok P (evLA P A F l)
 | 0=>⟨fun _ _ _ _ e=>(by cases e),fun _ _ _ _ _ e=>(by cases e)⟩
 | l+1=>by
  have ih:=calE_ok ht l
  refine⟨fun f args st r e=>?_,fun l2 f c st r e=>?_⟩
  ·have e' : aW P (calE P A F tbl l) A F f args st.H st.n = some r := by
    simp only[calE,upE] at e
    split at e
    ·rename_i S hS; exact ht f S hS _ _ _ _ _ e
    ·exact e
   unfold aW at e'
   unfold Jw
   split at e'
   ·cases e'
   rename_i fn hf
   split at e'
   ·cases e'
   rename_i c hb
   simp only[hf,hb]
   split at e'
   ·cases e'
   rename_i hcond
   rw[if_neg hcond]
   have h:=GX ih F (A f) none f c _ _ _ { T:=pj .nil 0 args,H:=st.H,n:=st.n,D:=[] } e'
   have e2:evLA P A F (l+1) none f c { T:=pj .nil 0 args,H:=st.H,n:=st.n,D:=[] }=evFA P (evLA P A F l) F (A f) none f c { T:=pj .nil 0 args,H:=st.H,n:=st.n,D:=[] }:=rfl
   rw[e2]
   generalize evFA P (evLA P A F l) F (A f) none f c { T:=pj .nil 0 args,H:=st.H,n:=st.n,D:=[] }=o at h
   match o,h with
   | none,h=>cases h
   | some (.norm,s),h=>
    obtain⟨H',vs,h1,h2,rfl⟩:=Pj h
    simp only[h1,h2]
   | some (.exit _,s),h=>cases h
   | some (.ret,s),h=>
    obtain⟨H',vs,h1,h2,rfl⟩:=Pj h
    simp only[h1,h2]
  ·have h := GX ih F (lvOf A f c (some l2)) (some l2) f c _ _ _ st e
   have e2:evLA P A F (l+1) (some l2) f c st=evFA P (evLA P A F l) F (lvOf A f c (some l2)) (some l2) f c st:=rfl
   rw[e2]
   generalize evFA P (evLA P A F l) F (lvOf A f c (some l2)) (some l2) f c st=o at h
   match o,h with
   | none,h=>cases h
   | some (.norm,s),h=>exact h
   | some (.exit _,s),h=>exact h
   | some (.ret,s),h=>exact h
end
end Go.Ev
end
section
namespace Go.Ev
open Go
variable {P:Program}
theorem mkH(g:Nat→Option Blk):∀ m:Nat,∃ H:Hp,∀ i,H.get i=if i<m then g i else none
 | 0=>⟨.nil,fun i=>by rw[Tr.get_nil]; simp⟩
 | m+1=>by
  obtain⟨H,h⟩:=mkH g m
  refine⟨H.set m (g m),fun i=>?_⟩
  rw[Tr.get_set]
  by_cases e:i=m
  ·subst e; simp
  ·rw [if_neg e, h i]
   by_cases q:i<m
   ·rw[if_pos q,if_pos (by omega)]
   ·rw[if_neg q,if_neg (by omega)]
def qQ(m:Nat):Phi:=fun i=>if i<m then some (i,0) else none
open Classical in
noncomputable def hole(φ:Phi)(v:Value):Value:=if VR φ v v then v else .chan none
noncomputable def sJ(m:Nat)(w:World)(i:Nat):Option Blk:=match w.heap[i]? with
 | some (.cells arr _ _)=>some (.rows (arr.toList.map (hole (qQ m))))
 | _=>none
theorem I.startN(w:World){m:Nat}(hm:w.heap.size≤m):∃ H:Hp,(∀ i,H.get i=sJ m w i)∧I w ⟨fun _=>False,fun _=>True⟩ (qQ m) H m w:=by
 obtain⟨H,hH⟩:=mkH (sJ m w) w.heap.size
 have hget:∀ i,H.get i=sJ m w i:=by
  intro i
  rw[hH i]
  split
  ·rfl
  ·rename_i q
   unfold sJ
   rw[Array.getElem?_eq_none (by omega)]
 have hφ:∀ i p,qQ m i=some p→i<m∧p=(i,0):=by
  intro i p e
  unfold qQ at e
  split at e
  ·rename_i q; cases e; exact⟨q,rfl⟩
  ·cases e
 have hb:∀ i b,H.get i=some b→∃ arr e fr,w.heap[i]?=some (.cells arr e fr)∧b=.rows (arr.toList.map (hole (qQ m))):=by
  intro i b e
  rw[hget i] at e
  unfold sJ at e
  split at e
  ·rename_i arr el fr hw; cases e; exact⟨arr,el,fr,hw,rfl⟩
  ·cases e
 refine⟨H,hget,⟨?_,?_,?_,fun _ _ _=>rfl,Nat.le_refl _,?_,fun _ _ _ _ _=>.inl trivial,rfl,rfl,rfl,fun _=>rfl⟩⟩
 ·intro i p e
  obtain⟨h1,rfl⟩:=hφ i p e
  exact h1
 ·intro i b e
  obtain⟨arr,el,fr,hw,rfl⟩:=hb i b e
  have hlt:i<w.heap.size:=(Array.getElem?_eq_some_iff.1 hw).1
  refine⟨(i,0),_,by unfold qQ; rw[if_pos (by omega)],hw,arr,el,fr,rfl,?_⟩
  intro j v hj hno
  rw[List.getElem?_map] at hj
  cases hu:arr.toList[j]? with
  | none=>rw[hu] at hj; cases hj
  | some u=>
   rw[hu] at hj
   simp only[Option.map_some,Option.some.injEq] at hj
   subst hj
   unfold hole at hno ⊢
   split at hno
   ·rename_i hv
    rw[if_pos hv]
    exact⟨u,by simpa using hu,hv⟩
   ·cases hno
 ·intro i j b c p q _ _ hp hq e
  obtain⟨_,rfl⟩:=hφ i p hp
  obtain⟨_,rfl⟩:=hφ j q hq
  exact .inl e
 ·intro i b p hi hr _
  obtain⟨arr,el,fr,_,rfl⟩:=hb i b hi
  cases hr
end Go.Ev
end
section
namespace Go.Ev
open Go
variable {P:Program} {H H':Hp} {b o s k:Nat} {t:TypeId} {vs:List Value} {v:Value}
def cellsIn:Blk→Option (List Value)
 | .cells c _ _ _=>some c
 | .rows c=>some c
 | _=>none
def fx(H:Hp)(b o:Nat)(vs:List Value):Prop:=∃ B c,H.get b=some B∧cellsIn B=some c∧∀(k:Nat) v,vs[k]?=some v→c[o+k]?=some v
def Keep(n:Nat)(H H':Hp):Prop:=∀ b,b<n→H'.get b=H.get b
theorem Keep.refl(n:Nat)(H:Hp):Keep n H H:=fun _ _=>rfl
theorem loadV_scalar(hc:fx H b o vs)(ht:oW P t=some false)(hv:vs[k]?=some v)(hn:nq v=true)(hg:vy v=true):az P H t ⟨b,o+k,none⟩=some v:=by
 obtain⟨B,c,h1,h2,h3⟩:=hc
 have:=h3 k v hv
 unfold az
 simp only[h1]
 cases B with
 | cells c' e ro vec=>cases h2; simp only[lq,ht,this]
 | rows c'=>cases h2; simp only[lq,ht,this,hg]
 | _=>cases h2
theorem cut_at{c:List Value}(h:∀(k:Nat) v,vs[k]?=some v→c[o+k]?=some v)(hk:k+s≤vs.length):cut c (o+k) s=some ((vs.drop k).take s):=by
 have e:(c.drop (o+k)).take s=(vs.drop k).take s:=by
  apply List.ext_getElem?
  intro i
  rw[List.getElem?_take,List.getElem?_take]
  split
  ·rename_i hi
   rw[List.getElem?_drop,List.getElem?_drop]
   have hlt:k+i<vs.length:=by omega
   rw[List.getElem?_eq_getElem hlt,← h (k+i) _ (List.getElem?_eq_getElem hlt)]
   congr 1; omega
  ·rfl
 unfold cut
 simp only[e]
 rw[if_pos]
 simp; omega
theorem loadV_agg(hc:fx H b o vs)(ht:oW P t=some true)(hs:szT P t=some s)(hk:k+s≤vs.length)(hn:vs.all nq=true) :
  az P H t ⟨b,o+k,none⟩=some (.agg ⟨(vs.drop k).take s⟩):=by
 obtain⟨B,c,h1,h2,h3⟩:=hc
 have hcut:=cut_at h3 hk
 have hall:((vs.drop k).take s).all nq=true:=by
  rw[List.all_eq_true] at hn ⊢
  intro x hx
  exact hn x (List.mem_of_mem_drop (List.mem_of_mem_take hx))
 unfold az
 simp only[h1]
 cases B with
 | cells c' e ro vec=>cases h2; simp only[lq,ht,hs,hcut]
 | rows c'=>cases h2; simp only[lq,ht,hs,hcut,vy,hall]
 | _=>cases h2
theorem loadN_at(hc:fx H b o vs)(hk:k+s≤vs.length)(hn:vs.all nq=true):loadN H ⟨b,o+k,none⟩ s=some ((vs.drop k).take s):=by
 obtain⟨B,c,h1,h2,h3⟩:=hc
 have hcut:=cut_at h3 hk
 have hall:((vs.drop k).take s).all nq=true:=by
  rw[List.all_eq_true] at hn ⊢
  intro x hx
  exact hn x (List.mem_of_mem_drop (List.mem_of_mem_take hx))
 unfold loadN
 simp only[h1]
 cases B with
 | cells c' e ro vec=>cases h2; simp only[hcut]
 | rows c'=>cases h2; simp only[hcut,hall]
 | _=>cases h2
def I64(x:Int):Prop:=-9223372036854775808≤x∧x<9223372036854775808
end Go.Ev
end
section
namespace Go.Ev
open Go
variable {P:Program}
theorem cells?_get{w:World}{base:Nat}{a:Addr}{n:Nat}{l:List Value}(h:w.cells? base a n=some l):l.length=n∧∀ i,i<n→w.cell? (a.add i)=l[i]?:=by
 unfold World.cells? at h
 split at h
 ·have key : ∀ (m k : Nat) (l : List Value), (List.range' k m).mapM (fun i => w.cell? (a.add i)) = some l → l.length = m ∧ ∀ i, i < m → w.cell? (a.add (k + i)) = l[i]? := by
   intro m
   induction m with
   | zero=>intro k l e; simp at e; subst e; exact⟨rfl,fun i hi=>by omega⟩
   | succ m ih=>
    intro k l e
    rw[List.range'_succ,List.mapM_cons] at e
    cases h1:w.cell? (a.add k) with
    | none=>rw[h1] at e; cases e
    | some v=>
     rw[h1] at e
     cases h2:(List.range' (k+1) m).mapM (fun i=>w.cell? (a.add i)) with
     | none=>rw[h2] at e; cases e
     | some r=>
      rw[h2] at e
      cases e
      obtain⟨i1,i2⟩:=ih (k+1) r h2
      refine⟨by simp [i1],fun i hi=>?_⟩
      cases i with
      | zero=>simpa using h1
      | succ i=>
       have:=i2 i (by omega)
       rw[show k+(i+1)=k+1+i by omega]
       simpa using this
  rw[List.range_eq_range'] at h
  obtain⟨h1,h2⟩:=key n 0 l h
  exact⟨h1,fun i hi=>by simpa using h2 i hi⟩
 ·cases h
theorem qhv{α β:Type}{f:α→Option β}:∀ {l:List α} {r:List β},l.mapM f=some r→r.length=l.length
 | [],r,h=>by simp at h; subst h; rfl
 | x::l,r,h=>by
  rw[List.mapM_cons] at h
  cases h1:f x with
  | none=>rw[h1] at h; cases h
  | some y=>
   rw[h1] at h
   cases h2:l.mapM f with
   | none=>rw[h2] at h; cases h
   | some q=>
    rw[h2] at h
    cases h
    simp [qhv h2]
theorem choose_list{α:Type}{R:Nat→α→Prop}:∀ m:Nat,(∀ k,k<m→∃ x,R k x)→∃ xs:List α,xs.length=m∧∀ k x,xs[k]?=some x→R k x
 | 0,_=>⟨[],rfl,fun k x h=>by simp at h⟩
 | m+1,h=>by
  obtain⟨xs,h1,h2⟩:=choose_list m (fun k hk=>h k (by omega))
  obtain⟨x,hx⟩:=h m (by omega)
  refine⟨xs++[x],by simp [h1],fun k y e=>?_⟩
  rcases Nat.lt_trichotomy k m with q | q | q
  ·rw[List.getElem?_append_left (by omega)] at e; exact h2 k y e
  ·subst q
   rw[List.getElem?_append_right (by omega),h1] at e
   simp at e; subst e; exact hx
  ·rw[List.getElem?_eq_none (by simp; omega)] at e; cases e
theorem MY{w:World}{a:Addr}{v:Value}(h:w.cell? a=some v):∃ arr e fr,w.heap[a.block]?=some (.cells arr e fr)∧arr[a.off]?=some v:=by
 unfold World.cell? at h
 split at h
 ·rename_i arr e fr hb
  split at h
  ·cases h
  ·exact⟨arr,e,fr,hb,h⟩
 ·cases h
end Go.Ev
end
section
namespace Go.Ev
open Go
variable {P:Program}
theorem frozen_same(w w':World)(h:∀ b:Nat,frOb w'.heap[b]?=frOb w.heap[b]?)(a:Addr):w'.frozen? a=w.frozen? a:=by
 have key:∀ u:World,u.frozen? a=(decide ((frOb u.heap[a.block]?).1≤a.off) && decide (a.off<(frOb u.heap[a.block]?).2)):=by
  intro u
  unfold World.frozen?
  cases u.heap[a.block]? with
  | none=>simp [frOb]
  | some o=>
   cases o with
   | cells c t fr=>
    rw[Bool.eq_iff_iff]
    simp only[frOb,Bool.and_eq_true]
    exact⟨fun⟨a,b⟩=>⟨decide_eq_true (of_decide_eq_true a),decide_eq_true (of_decide_eq_true b)⟩,fun⟨a,b⟩=>⟨decide_eq_true (of_decide_eq_true a),decide_eq_true (of_decide_eq_true b)⟩⟩
   | _=>simp [frOb]
 rw[key,key,h]
theorem grown_of{w w':World}(h1:w'.os=w.os)(h2:w'.output=w.output)(h3:w.heap.size≤w'.heap.size)(h4:∀ b,b<w.heap.size→w'.heap[b]?=w.heap[b]?)
  (h5:∀ b:Nat,frOb w'.heap[b]?=frOb w.heap[b]?):RowKit.Grown w w':=by
 refine⟨⟨h1,h2,fun i hi=>?_⟩,frozen_same w w' h5,h3⟩
 rw[h4 i hi]
 cases w.heap[i]? with
 | none=>rfl
 | some o=>cases o with
  | cells c t fr=>exact⟨rfl,rfl,rfl,fun _ _=>rfl⟩
  | map es clock=>exact .inr ⟨rfl,rfl⟩
  | _=>rfl
theorem carryAll{H:Type}{enc:TypeId × Value→H}{w w':World}{base:Nat}{sp:Nat→Bool}{held:Bool}(h4:∀ b,b<w.heap.size→w'.heap[b]?=w.heap[b]?) :
  ∀ {ts:List TypeId} {vs:List Value} {ds:List (DataW H)} {ps:List MemPlace},DataW.TrodAll enc P w base sp held ts vs ds ps→DataW.TrodAll enc P w' base sp held ts vs ds ps
 | [],[],[],_,h=>h
 | t::ts,v::vs,d::ds,ps,h=>by
  have hlt:=DataW.TrodAll.lt h
  obtain⟨p,q,⟨n,hn⟩,h2,rfl⟩:=h
  refine⟨p,q,⟨n,DataW.trod_carry n t _ _ hn ?_⟩,carryAll h4 h2,rfl⟩
  intro x hx
  have:=h4 x.block (hlt x (by simp [hx]))
  cases x with
  | cell b off=>simp only[MemPlace.block] at this; simp [World.sameAt,World.cell?,this]
  | map b=>simp only[MemPlace.block] at this; simp [World.sameAt,this]
end Go.Ev
end
section
namespace Go.Ev
open Go
variable {P:Program} {t:TypeId} {x y:Operand} {a b:Int} {ρ:Type}
theorem semPure_guard{op:BinOp}{u v w:Value}(h1:eqGuard op t x y u v=pure ())(h2:binOp op t u v=pure w):cz P (gJ op t x y u v)=some w:=by
 unfold gJ
 rw[h1,h2]
 rfl
theorem eqGuard_ints{op:BinOp}{k k':IntKind}:eqGuard op t x y (.int k a) (.int k' b)=pure ():=by
 unfold eqGuard
 split <;> rfl
theorem qhw{op:BinOp}{w:Value}(h:binOp op t (.int .i64 a) (.int .i64 b)=pure w)(hp:bz w=true):HW P op t x y (.int .i64 a) (.int .i64 b)=some w:=by
 unfold HW
 have h0:(bz (.int .i64 a) && bz (.int .i64 b))=true:=rfl
 have h1:DK P op t (.int .i64 a) (.int .i64 b)=none:=by unfold DK; cases op <;> rfl
 rw[h0]
 simp only[h1,semPure_guard eqGuard_ints h,hp]
theorem vW{op:BinOp}{w:Value}(h:binOp op t (.int .i64 a) (.int .i64 b)=pure w)(hp:bz w=true)
  (hq:∀ m n:Nat,a=m→b=n→JZ op m n=some w∨JZ op m n=none):binV P op t x y (.int .i64 a) (.int .i64 b)=some w:=by
 unfold binV
 cases a with
 | ofNat m=>
  cases b with
  | ofNat n=>
   show(match JZ op m n with | some v=>some v | none=>_)=_
   rcases hq m n rfl rfl with q | q
   ·rw[q]
   ·rw[q]; exact qhw h hp
  | negSucc n=>exact qhw h hp
 | negSucc m=>cases b <;> exact qhw h hp
theorem bin_lss:binV P .lss t x y (.int .i64 a) (.int .i64 b)=some (.bool (decide (a<b))):=by
 refine vW (by simp [binOp,Op.intCmp]) rfl ?_
 rintro m n rfl rfl
 refine .inl ?_
 rw[show decide ((m:Int)<(n:Int))=Nat.blt m n from(by rw[Bool.eq_iff_iff]; simp)]
 rfl
theorem bin_leq:binV P .leq t x y (.int .i64 a) (.int .i64 b)=some (.bool (decide (a≤b))):=by
 refine vW (by simp [binOp,Op.intCmp]) rfl ?_
 rintro m n rfl rfl
 refine .inl ?_
 rw[show decide ((m:Int)≤(n:Int))=Nat.ble m n from(by rw[Bool.eq_iff_iff]; simp)]
 rfl
theorem bin_gtr:binV P .gtr t x y (.int .i64 a) (.int .i64 b)=some (.bool (decide (b<a))):=by
 refine vW (by simp [binOp,Op.intCmp]) rfl ?_
 rintro m n rfl rfl
 refine .inl ?_
 rw[show decide ((n:Int)<(m:Int))=Nat.blt n m from(by rw[Bool.eq_iff_iff]; simp)]
 rfl
theorem bin_geq:binV P .geq t x y (.int .i64 a) (.int .i64 b)=some (.bool (decide (b≤a))):=by
 refine vW (by simp [binOp,Op.intCmp]) rfl ?_
 rintro m n rfl rfl
 refine .inl ?_
 rw[show decide ((n:Int)≤(m:Int))=Nat.ble n m from(by rw[Bool.eq_iff_iff]; simp)]
 rfl
theorem bin_eql:binV P .eql t x y (.int .i64 a) (.int .i64 b)=some (.bool (decide (a=b))):=by
 refine vW (by simp [binOp,Op.intCmp]; rfl) rfl ?_
 rintro m n rfl rfl
 refine .inl ?_
 rw[show decide ((m:Int)=(n:Int))=Nat.beq m n from(by rw[Bool.eq_iff_iff]; simp; omega)]
 rfl
theorem bin_neq:binV P .neq t x y (.int .i64 a) (.int .i64 b)=some (.bool (!decide (a=b))):=by
 refine vW (by simp [binOp,Op.intCmp]; rfl) rfl ?_
 rintro m n rfl rfl
 refine .inl ?_
 rw[show decide ((m:Int)=(n:Int))=Nat.beq m n from(by rw[Bool.eq_iff_iff]; simp; omega)]
 rfl
theorem Pq{z:Int}(h:I64 z):IntKind.i64.wrap z=z:=by
 unfold I64 at h
 simp [IntKind.wrap,IntKind.bits,IntKind.signed]
 omega
theorem mk64_or(n:Nat){w:Value}(h:w=.int .i64 (n:Int)):mk64 n=some w∨mk64 n=none:=by
 unfold mk64
 split
 ·subst h; exact .inl rfl
 ·exact .inr rfl
theorem bin_add(h:I64 (a+b)):binV P .add t x y (.int .i64 a) (.int .i64 b)=some (.int .i64 (a+b)):=by
 refine vW (by simp [binOp,Op.intArith,Pq h]) rfl ?_
 rintro m n rfl rfl
 exact mk64_or _ (by simp)
theorem bin_sub(h:I64 (a-b)):binV P .sub t x y (.int .i64 a) (.int .i64 b)=some (.int .i64 (a-b)):=by
 refine vW (by simp [binOp,Op.intArith,Pq h]) rfl ?_
 rintro m n rfl rfl
 unfold JZ
 simp only
 split
 ·rename_i hle
  have:=Nat.le_of_ble_eq_true hle
  exact mk64_or _ (by congr 1; omega)
 ·exact .inr rfl
theorem aj{α:Type}{v:α}{k:α→Option ρ}:bindO (some v) k=k v:=rfl
theorem binK_some{op:BinOp}{u v w:Value}{k:Value→Option ρ}(h:binV P op t x y u v=some w):binK P op t x y u v k=k w:=by
 unfold binK; rw[h]; rfl
theorem boxK_eq{e:TypeId}{v:Value}{H:Hp}{n:Nat}{k:Value→Hp→Nat→Option ρ}:boxK e v H n k=k (ptr n) (H.set n (some (.cells (aQ v) e false none))) (n+1):=rfl
theorem allocK_eq{e:TypeId}{z:Value}{H:Hp}{n:Nat}{k:Value→Hp→Nat→Option ρ}(h:jx P e=some z):jY P e H n k=k (ptr n) (H.set n (some (.cells (aQ z) e false none))) (n+1):=by
 unfold jY; rw[h]; rfl
theorem qiq{b o:Nat}:aX (.pointer (some ⟨b,o,none⟩))=some ⟨b,o,none⟩:=rfl
theorem CK{b o f off s:Nat}{ft:TypeId}(hf:Bq P t f=some (off,ft))(hs:szT P ft=some (s+1)) :
  ax P t (.pointer (some ⟨b,o,none⟩)) f=some (.pointer (some ⟨b,o+off,none⟩)):=by
 unfold ax
 simp [hf,hs,addA]
end Go.Ev
end
section
namespace Go.Ev
open Go
variable {P:Program} {ρ:Type}
theorem maskXL_ro{H:Hp}:∀ {ex:List Extra} {H1:Hp},jJ ex H=some H1→∀ t a,Extra.l t a ∈ ex→∃ B,H1.get a.block=some B∧B.ro=true
 | [],_,_,_,_,h=>by cases h
 | y::l,H1,e,t,a,h=>by
  simp only[jJ] at e
  split at e
  ·cases e
  ·rename_i H2 h2
   have ih:=maskXL_ro h2
   split at e
   ·rename_i t' a'
    split at e
    ·rename_i c ty r vec hc
     simp only[Option.some.injEq] at e; subst e
     rw[Tr.get_set]
     by_cases q:a.block=a'.block
     ·rw[if_pos q]; exact⟨_,rfl,rfl⟩
     ·rw [if_neg q]
      rcases List.mem_cons.1 h with z | z
      ·cases z; exact absurd rfl q
      ·exact ih t a z
    ·rename_i c hc
     simp only[Option.some.injEq] at e; subst e
     rcases List.mem_cons.1 h with z | z
     ·cases z; exact⟨_,hc,rfl⟩
     ·exact ih t a z
    ·cases e
   ·rename_i hno
    simp only[Option.some.injEq] at e; subst e
    rcases List.mem_cons.1 h with z | z
    ·exact(hno _ _ z.symm).elim
    ·exact ih t a z
end Go.Ev
end
section
namespace Go.Ev
open Go
variable {P:Program} {ρ:Type}
def ldOf(ex:List Extra)(b:Nat):Prop:=∃ t a,Extra.l t a ∈ ex∧a.block=b
def nwOf(ex:List Extra)(b:Nat):Prop:=∃ id c e,Extra.a id c e ∈ ex∧id=b
theorem maskX_some{H:Hp}:∀ {ex:List Extra},(∀ y ∈ ex,(∃ t a,y=.l t a∧((∃ c e ro vec,H.get a.block=some (.cells c e ro vec))∨∃ c,H.get a.block=some (.rows c)))∨∃ id c e,y=.a id c e) →
  ∃ H1,jJ ex H=some H1∧∀ b,H1.get b=H.get b∨((∃ c e ro vec,H.get b=some (.cells c e ro vec)∧H1.get b=some (.cells c e true vec))∧ldOf ex b)
 | [],_=>⟨H,rfl,fun _=>.inl rfl⟩
 | y::l,h=>by
  obtain⟨H1,e1,e2⟩:=maskX_some (ex:=l) (fun z hz=>h z (List.mem_cons_of_mem _ hz))
  have old:∀ b,H1.get b=H.get b∨((∃ c e ro vec,H.get b=some (.cells c e ro vec)∧H1.get b=some (.cells c e true vec))∧ldOf (y::l) b):=fun b=>by
   rcases e2 b with q | ⟨q,t',a',q1,q2⟩
   ·exact .inl q
   ·exact .inr ⟨q,t',a',List.mem_cons_of_mem _ q1,q2⟩
  rcases h y List.mem_cons_self with⟨t,a,rfl,ha⟩ | ⟨id,c,e,rfl⟩
  ·rcases ha with ⟨c, e, ro, vec, hc⟩ | ⟨c, hc⟩
   ·have hro : ∃ ro', H1.get a.block = some (.cells c e ro' vec) := by
     rcases e2 a.block with q | ⟨⟨c',e',ro',vec',q1,q2⟩,_⟩
     ·exact⟨ro,q.trans hc⟩
     ·rw[hc] at q1; cases q1; exact⟨true,q2⟩
    obtain⟨ro',h1⟩:=hro
    refine⟨H1.set a.block (some (.cells c e true vec)),by simp only[jJ,e1,h1],fun b=>?_⟩
    rw[Tr.get_set]
    by_cases hb:b=a.block
    ·subst hb
     rw[if_pos rfl]
     exact .inr ⟨⟨c,e,ro,vec,hc,rfl⟩,t,a,List.mem_cons_self,rfl⟩
    ·rw[if_neg hb]; exact old b
   ·have h1 : H1.get a.block = some (.rows c) := by
     rcases e2 a.block with q | ⟨⟨c',e',ro',vec',q1,_⟩,_⟩
     ·exact q.trans hc
     ·rw[hc] at q1; cases q1
    exact⟨H1,by simp only[jJ,e1,h1],old⟩
  ·exact⟨H1,by simp only[jJ,e1],old⟩
theorem MZ{H:Hp}:∀ {ex:List Extra} (b:Nat),(nwOf ex b→(kX ex H).get b=none)∧(¬ nwOf ex b→(kX ex H).get b=H.get b)
 | [],b=>⟨fun⟨_,_,_,h,_⟩=>(by cases h),fun _=>rfl⟩
 | y::l,b=>by
  obtain⟨i1,i2⟩:=MZ (H:=H) (ex:=l) b
  cases y with
  | a id c e=>
   simp only[kX,Tr.get_set]
   constructor
   ·rintro ⟨id', c', e', h1, h2⟩
    by_cases q:b=id
    ·rw[if_pos q]
    ·rw [if_neg q]
     rcases List.mem_cons.1 h1 with z | z
     ·cases z; exact absurd h2.symm q
     ·exact i1 ⟨id',c',e',z,h2⟩
   ·intro h
    rw[if_neg (fun q=>h ⟨id,c,e,List.mem_cons_self,q.symm⟩)]
    exact i2 fun⟨id',c',e',h1,h2⟩=>h ⟨id',c',e',List.mem_cons_of_mem _ h1,h2⟩
  | _=>
   simp only[kX]
   refine⟨fun⟨id',c',e',h1,h2⟩=>i1 ?_,fun h=>i2 fun⟨id',c',e',h1,h2⟩=>h ⟨id',c',e',List.mem_cons_of_mem _ h1,h2⟩⟩
   rcases List.mem_cons.1 h1 with z | z
   ·cases z
   ·exact⟨id',c',e',z,h2⟩
theorem MK{H0 H:Hp}:∀ {ex:List Extra} (b:Nat),(nwOf ex b→(jZ ex H0 H).get b=H0.get b)∧(¬ nwOf ex b→(jZ ex H0 H).get b=H.get b)
 | [],b=>⟨fun⟨_,_,_,h,_⟩=>(by cases h),fun _=>rfl⟩
 | y::l,b=>by
  obtain⟨i1,i2⟩:=MK (H0:=H0) (H:=H) (ex:=l) b
  cases y with
  | a id c e=>
   simp only[jZ,Tr.get_set]
   constructor
   ·rintro ⟨id', c', e', h1, h2⟩
    by_cases q:b=id
    ·rw[if_pos q,q]
    ·rw [if_neg q]
     rcases List.mem_cons.1 h1 with z | z
     ·cases z; exact absurd h2.symm q
     ·exact i1 ⟨id',c',e',z,h2⟩
   ·intro h
    rw[if_neg (fun q=>h ⟨id,c,e,List.mem_cons_self,q.symm⟩)]
    exact i2 fun⟨id',c',e',h1,h2⟩=>h ⟨id',c',e',List.mem_cons_of_mem _ h1,h2⟩
  | _=>
   simp only[jZ]
   refine⟨fun⟨id',c',e',h1,h2⟩=>i1 ?_,fun h=>i2 fun⟨id',c',e',h1,h2⟩=>h ⟨id',c',e',List.mem_cons_of_mem _ h1,h2⟩⟩
   rcases List.mem_cons.1 h1 with z | z
   ·cases z
   ·exact⟨id',c',e',z,h2⟩
theorem backX_some{H0 H:Hp}:∀ {ex:List Extra},(∀ y ∈ ex,(∃ t a,y=.l t a∧∃ B,H.get a.block=some B∧B.ro=true)∨∃ id c e,y=.a id c e)→∃ H1,lz ex H0 H=some H1∧(∀ b,ldOf ex b→H1.get b=H0.get b)∧∀ b,¬ ldOf ex b→H1.get b=H.get b
 | [],_=>⟨H,rfl,fun b ⟨t,a,h,_⟩=>(by cases h),fun _ _=>rfl⟩
 | y::l,h=>by
  obtain⟨H1,e1,e2,e3⟩:=backX_some (H0:=H0) (ex:=l) (fun z hz=>h z (List.mem_cons_of_mem _ hz))
  rcases h y List.mem_cons_self with⟨t,a,rfl,ha⟩ | ⟨id,c,e,rfl⟩
  ·obtain ⟨B, h1, hro⟩ := ha
   refine⟨H1.set a.block (H0.get a.block),by simp only[lz,e1,h1,hro],fun b hb=>?_,fun b hb=>?_⟩
   ·rw [Tr.get_set]
    by_cases hab:b=a.block
    ·rw[if_pos hab,hab]
    ·rw [if_neg hab]
     obtain⟨t',a',q1,q2⟩:=hb
     rcases List.mem_cons.1 q1 with q | q
     ·cases q; exact absurd q2.symm hab
     ·exact e2 b ⟨t',a',q,q2⟩
   ·rw [Tr.get_set, if_neg (fun q => hb ⟨t, a, List.mem_cons_self, q.symm⟩)]
    exact e3 b (fun⟨t',a',q1,q2⟩=>hb ⟨t',a',List.mem_cons_of_mem _ q1,q2⟩)
  ·refine ⟨H1, by simp only [lz, e1], fun b hb => ?_, fun b hb => e3 b fun ⟨t', a', q1, q2⟩ => hb ⟨t', a', List.mem_cons_of_mem _ q1, q2⟩⟩
   obtain⟨t',a',q1,q2⟩:=hb
   rcases List.mem_cons.1 q1 with q | q
   ·cases q
   ·exact e2 b ⟨t',a',q,q2⟩
end Go.Ev
end
section
namespace Go.Ev
open Go
inductive D where
 | v (x:Value)
 | agg (l:List D)
 | sl (els:List D)
 | ref (cells:List D)
 | fn (f:FuncId) (a b:List D)
 | tup (l:List D)
 | opq
 | yld (l:Nat)
 | map (es:List MapEntry) (c:Nat)
noncomputable def uJ:Value→Bool
 | .bool _ | .int _ _ | .string _ | .nilFunc=>true
 | .pointer a=>a.isNone
 | .slice a n c=>a.isNone && Nat.beq n 0 && Nat.beq c 0
 | .map r=>r.isNone
 | _=>false
noncomputable def bk:D→Bool
 | .agg _ | .tup _=>false
 | _=>true
noncomputable def datD:D→Bool
 | .tup _=>false
 | _=>true
noncomputable def ny:D→List D
 | .agg l=>l
 | d=>[d]
mutual
noncomputable def DRel(F:Nat→Prop)(H:Hp):D→Value→Prop
 | .v x,v=>v=x∧uJ x=true
 | .agg l,v=>l.all bk=true∧∃ vs,v=.agg ⟨vs⟩∧aK F H l vs
 | .sl els,v=>(v=.slice none 0 0∧els=[])∨(∃ b o cap s,v=.slice (some ⟨b,o,none⟩) els.length cap∧els.length≤cap∧cap≤capR∧(els=[]∨(F b∧DAt F H els b o s)))∨(els=[]∧∃ a cap,v=.slice (some a) 0 cap∧cap≤capE)
 | .ref cells,v=>cells.all bk=true∧∃ b o,v=.pointer (some ⟨b,o,none⟩)∧F b∧DAt F H cells b o 1
 | .fn f a b,v=>∃ va vb,v=.func (.func f) ⟨va⟩ ⟨vb⟩∧aK F H a va∧aK F H b vb
 | .tup l,v=>∃ vs,v=.tuple ⟨vs⟩∧aK F H l vs
 | .opq,v=>oQ v=true∧nq v=true∧vy v=true∧aQ v=[v]∧aX v=none
 | .yld l,v=>v=.func (.yield l) ⟨[]⟩ ⟨[]⟩
 | .map es c,v=>∃ b,v=.map (some b)∧F b∧H.get b=some (.map es c)
noncomputable def aK(F:Nat→Prop)(H:Hp):List D→List Value→Prop
 | [],vs=>vs=[]
 | d::l,vs=>∃ v vs',vs=v::vs'∧DRel F H d v∧aK F H l vs'
noncomputable def DAt(F:Nat→Prop)(H:Hp):List D→Nat→Nat→Nat→Prop
 | [],_,_,_=>True
 | d::l,b,o,s=>(datD d=true∧∃ v,DRel F H d v∧(aQ v).length=s∧fx H b o (aQ v))∧DAt F H l b (o+s) s
end
noncomputable def Fz(F:Nat→Prop)(H H':Hp):Prop:=∀ b,F b→(∀ o vs,fx H b o vs→fx H' b o vs)∧∀ es c,H.get b=some (.map es c)→H'.get b=some (.map es c)
theorem Fz.refl{F:Nat→Prop}{H:Hp}:Fz F H H:=fun _ _=>⟨fun _ _ h=>h,fun _ _ h=>h⟩
theorem Fz.trans{F F':Nat→Prop}{H1 H2 H3:Hp}(h:Fz F H1 H2)(hF:∀ b,F b→F' b)(g:Fz F' H2 H3):Fz F H1 H3:=fun b hb=>⟨fun _ _ c=>(g b (hF b hb)).1 _ _ ((h b hb).1 _ _ c),fun _ _ c=>(g b (hF b hb)).2 _ _ ((h b hb).2 _ _ c)⟩
theorem Fz.of_eq{F:Nat→Prop}{H H':Hp}(h:∀ b,F b→H'.get b=H.get b):Fz F H H':=fun b hb=>⟨fun _ _ ⟨B,c,h1,h2,h3⟩=>⟨B,c,(h b hb).trans h1,h2,h3⟩,fun _ _ e=>(h b hb).trans e⟩
variable {F F':Nat→Prop} {H H':Hp}
mutual
theorem DRel.mono(hF:∀ b,F b→F' b)(hH:Fz F H H'):∀(d:D) (v:Value),DRel F H d v→DRel F' H' d v
 | .v x,v,h=>by unfold DRel at h ⊢; exact h
 | .agg l,v,h=>by
  unfold DRel at h ⊢
  obtain⟨h0,vs,rfl,h1⟩:=h
  exact⟨h0,vs,rfl,aK.mono hF hH l vs h1⟩
 | .sl els,v,h=>by
  unfold DRel at h ⊢
  rcases h with h | ⟨b,o,cap,s,rfl,h1,h2,h3⟩ | h
  ·exact .inl h
  ·exact .inr (.inl ⟨b,o,cap,s,rfl,h1,h2,h3.imp id fun⟨a,c⟩=>⟨hF b a,DAt.mono hF hH els b o s (hH b a).1 c⟩⟩)
  ·exact .inr (.inr h)
 | .ref cells,v,h=>by
  unfold DRel at h ⊢
  obtain⟨h0,b,o,rfl,h1,h2⟩:=h
  exact⟨h0,b,o,rfl,hF b h1,DAt.mono hF hH cells b o 1 (hH b h1).1 h2⟩
 | .fn f a b,v,h=>by
  unfold DRel at h ⊢
  obtain⟨va,vb,rfl,h1,h2⟩:=h
  exact⟨va,vb,rfl,aK.mono hF hH a va h1,aK.mono hF hH b vb h2⟩
 | .tup l,v,h=>by
  unfold DRel at h ⊢
  obtain⟨vs,rfl,h1⟩:=h
  exact⟨vs,rfl,aK.mono hF hH l vs h1⟩
 | .opq,v,h=>by unfold DRel at h ⊢; exact h
 | .yld l,v,h=>by unfold DRel at h ⊢; exact h
 | .map es c,v,h=>by
  unfold DRel at h ⊢
  obtain⟨b,rfl,h1,h2⟩:=h
  exact⟨b,rfl,hF b h1,(hH b h1).2 _ _ h2⟩
theorem aK.mono(hF:∀ b,F b→F' b)(hH:Fz F H H'):∀(l:List D) (vs:List Value),aK F H l vs→aK F' H' l vs
 | [],vs,h=>by unfold aK at h ⊢; exact h
 | d::l,vs,h=>by
  unfold aK at h ⊢
  obtain⟨v,vs',rfl,h1,h2⟩:=h
  exact⟨v,vs',rfl,DRel.mono hF hH d v h1,aK.mono hF hH l vs' h2⟩
theorem DAt.mono(hF:∀ b,F b→F' b)(hH:Fz F H H'):∀(l:List D) (b o s:Nat),(∀ o vs,fx H b o vs→fx H' b o vs)→DAt F H l b o s→DAt F' H' l b o s
 | [],_,_,_,_,_=>by unfold DAt; trivial
 | d::l,b,o,s,hb,h=>by
  unfold DAt at h ⊢
  obtain⟨⟨h0,v,h1,h2,h3⟩,h4⟩:=h
  exact⟨⟨h0,v,DRel.mono hF hH d v h1,h2,hb o _ h3⟩,DAt.mono hF hH l b (o+s) s hb h4⟩
end
noncomputable def noF:Nat→Prop:=fun _=>False
mutual
theorem DRel.pure:∀(d:D) (v:Value),DRel F H d v→bz v=true→DRel noF .nil d v
 | .v x,v,h,_=>by unfold DRel at h ⊢; exact h
 | .agg l,v,h,hp=>by
  unfold DRel at h ⊢
  obtain⟨h0,vs,rfl,h1⟩:=h
  simp only[bz,lj] at hp
  exact⟨h0,vs,rfl,aK.pure l vs h1 hp⟩
 | .sl els,v,h,hp=>by
  unfold DRel at h ⊢
  rcases h with h | ⟨b,o,cap,s,rfl,h1,h2,h3⟩ | ⟨_,a,cap,rfl,_⟩
  ·exact .inl h
  ·simp [bz] at hp
  ·simp [bz] at hp
 | .ref cells,v,h,hp=>by
  unfold DRel at h
  obtain⟨h0,b,o,rfl,h1,h2⟩:=h
  simp [bz] at hp
 | .fn f a b,v,h,hp=>by
  unfold DRel at h ⊢
  obtain⟨va,vb,rfl,h1,h2⟩:=h
  simp only[bz,lj,Bool.and_eq_true,Bool.true_and] at hp
  exact⟨va,vb,rfl,aK.pure a va h1 hp.1,aK.pure b vb h2 hp.2⟩
 | .tup l,v,h,hp=>by
  unfold DRel at h ⊢
  obtain⟨vs,rfl,h1⟩:=h
  simp only[bz,lj] at hp
  exact⟨vs,rfl,aK.pure l vs h1 hp⟩
 | .opq,v,h,_=>by unfold DRel at h ⊢; exact h
 | .yld l,v,h,_=>by unfold DRel at h ⊢; exact h
 | .map es c,v,h,hp=>by
  unfold DRel at h
  obtain⟨b,rfl,h1,h2⟩:=h
  simp [bz] at hp
theorem aK.pure:∀(l:List D) (vs:List Value),aK F H l vs→ek vs=true→aK noF .nil l vs
 | [],vs,h,_=>by unfold aK at h ⊢; exact h
 | d::l,vs,h,hp=>by
  unfold aK at h ⊢
  obtain⟨v,vs',rfl,h1,h2⟩:=h
  simp only[ek,Bool.and_eq_true] at hp
  exact⟨v,vs',rfl,DRel.pure d v h1 hp.1,aK.pure l vs' h2 hp.2⟩
end
theorem tZ{x:Value}(h:uJ x=true):oQ x=true∧nq x=true∧vy x=true∧bz x=true∧aQ x=[x]:=by
 cases x <;> simp [uJ] at h <;> simp_all [oQ,nq,vy,bz,aQ]
theorem DRel.leaf{d:D}{v:Value}(h:DRel F H d v)(hd:bk d=true):oQ v=true∧nq v=true∧vy v=true∧aQ v=[v]:=by
 cases d with
 | v x=>unfold DRel at h; obtain⟨rfl,h⟩:=h; exact⟨(tZ h).1,(tZ h).2.1,(tZ h).2.2.1,(tZ h).2.2.2.2⟩
 | agg l=>cases hd
 | sl els=>
  unfold DRel at h
  rcases h with⟨rfl,_⟩ | ⟨b,o,cap,s,rfl,_⟩ | ⟨_,a,cap,rfl,_⟩ <;> exact⟨rfl,rfl,rfl,rfl⟩
 | ref cells=>unfold DRel at h; obtain⟨_,b,o,rfl,_⟩:=h; exact⟨rfl,rfl,rfl,rfl⟩
 | fn f a b=>unfold DRel at h; obtain⟨va,vb,rfl,_⟩:=h; exact⟨rfl,rfl,rfl,rfl⟩
 | tup l=>cases hd
 | opq=>unfold DRel at h; exact⟨h.1,h.2.1,h.2.2.1,h.2.2.2.1⟩
 | yld l=>unfold DRel at h; subst h; exact⟨rfl,rfl,rfl,rfl⟩
 | map es c=>unfold DRel at h; obtain⟨b,rfl,_⟩:=h; exact⟨rfl,rfl,rfl,rfl⟩
theorem aK.length:∀ {l:List D} {vs:List Value},aK F H l vs→vs.length=l.length
 | [],vs,h=>by unfold aK at h; subst h; rfl
 | d::l,vs,h=>by
  unfold aK at h
  obtain⟨v,vs',rfl,_,h2⟩:=h
  simp [aK.length h2]
theorem aK.get:∀ {l:List D} {vs:List Value} {i:Nat} {d:D},aK F H l vs→l[i]?=some d→∃ v,vs[i]?=some v∧DRel F H d v
 | [],_,_,_,_,e=>by cases e
 | d::l,vs,i,x,h,e=>by
  unfold aK at h
  obtain⟨v,vs',rfl,h1,h2⟩:=h
  cases i with
  | zero=>cases e; exact⟨v,rfl,h1⟩
  | succ i=>exact aK.get (l:=l) (i:=i) h2 (by simpa using e)
theorem aK.leafs:∀ {l:List D} {vs:List Value},aK F H l vs→l.all bk=true→vs.all oQ=true∧vs.all nq=true
 | [],vs,h,_=>by unfold aK at h; subst h; exact⟨rfl,rfl⟩
 | d::l,vs,h,hl=>by
  unfold aK at h
  obtain⟨v,vs',rfl,h1,h2⟩:=h
  simp only[List.all_cons,Bool.and_eq_true] at hl ⊢
  have a:=h1.leaf hl.1
  have b:=aK.leafs h2 hl.2
  exact⟨⟨a.1,b.1⟩,a.2.1,b.2⟩
theorem DRel.cells{d:D}{v:Value}(h:DRel F H d v)(hd:datD d=true):aK F H (ny d) (aQ v)∧(ny d).all bk=true:=by
 by_cases hl:bk d=true
 ·have hq := h.leaf hl
  have e:ny d=[d]:=by cases d <;> first | rfl | cases hl
  rw[hq.2.2.2,e]
  refine⟨?_,by simp [hl]⟩
  simp only[aK]
  exact⟨v,[],rfl,h,rfl⟩
 ·cases d with
  | agg l=>
   unfold DRel at h
   obtain⟨h0,vs,rfl,h1⟩:=h
   exact⟨h1,h0⟩
  | tup l=>cases hd
  | _=>exact absurd rfl hl
theorem fx.sub{b o k:Nat}{vs us:List Value}(h:fx H b o vs)(hk:∀(j:Nat) u,us[j]?=some u→vs[k+j]?=some u):fx H b (o+k) us:=by
 obtain⟨B,c,h1,h2,h3⟩:=h
 exact⟨B,c,h1,h2,fun j u hj=>by have:=h3 (k+j) u (hk j u hj); rw[← this]; congr 1; omega⟩
theorem DAt.get:∀ {l:List D} {b o s i:Nat} {d:D},DAt F H l b o s→l[i]?=some d→datD d=true∧∃ v,DRel F H d v∧(aQ v).length=s∧fx H b (o+i * s) (aQ v)
 | [],_,_,_,_,_,_,e=>by cases e
 | d::l,b,o,s,i,x,h,e=>by
  unfold DAt at h
  cases i with
  | zero=>cases e; simpa using h.1
  | succ i=>
   obtain⟨h0,v,h1,h2,h3⟩:=DAt.get (l:=l) (i:=i) h.2 (by simpa using e)
   exact⟨h0,v,h1,h2,by
    have:o+s+i * s=o+(i+1) * s:=by rw[Nat.succ_mul]; omega
    rw[← this]; exact h3⟩
theorem DAt.of_get:∀ {l:List D} {b o s:Nat},(∀(i:Nat) d,l[i]?=some d→datD d=true∧∃ v,DRel F H d v∧(aQ v).length=s∧fx H b (o+i * s) (aQ v))→DAt F H l b o s
 | [],_,_,_,_=>by unfold DAt; trivial
 | d::l,b,o,s,h=>by
  unfold DAt
  refine⟨by simpa using h 0 d rfl,DAt.of_get fun i x e=>?_⟩
  obtain⟨h0,v,h1,h2,h3⟩:=h (i+1) x e
  exact⟨h0,v,h1,h2,by
   have:o+s+i * s=o+(i+1) * s:=by rw[Nat.succ_mul]; omega
   rw[this]; exact h3⟩
theorem UY{d:D}(h:bk d=true):datD d=true:=by cases d <;> first | rfl | cases h
theorem DAt.of_cells{l:List D}{vs:List Value}{b o:Nat}(h:aK F H l vs)(hc:fx H b o vs)(hl:l.all bk=true):DAt F H l b o 1:=by
 refine DAt.of_get fun i d e=>?_
 obtain⟨v,hv,h1⟩:=h.get e
 have hd:bk d=true:=by rw[List.all_eq_true] at hl; exact hl d (List.mem_of_getElem? e)
 have hq:=h1.leaf hd
 refine⟨UY hd,v,h1,by rw[hq.2.2.2]; rfl,?_⟩
 rw[hq.2.2.2,Nat.mul_one]
 refine hc.sub fun j u hj=>?_
 cases j with
 | zero=>cases hj; exact hv
 | succ j=>cases hj
theorem DAt.drop{l:List D}{b o s:Nat}(k:Nat)(h:DAt F H l b o s):DAt F H (l.drop k) b (o+k * s) s:=by
 refine DAt.of_get fun i d e=>?_
 rw[List.getElem?_drop] at e
 obtain⟨h0,v,h1,h2,h3⟩:=h.get e
 exact⟨h0,v,h1,h2,by
  have:o+k * s+i * s=o+(k+i) * s:=by rw[Nat.add_mul]; omega
  rw[this]; exact h3⟩
theorem DAt.flat:∀ {l:List D} {b o:Nat},DAt F H l b o 1→l.all bk=true→l≠[]→∃ vs,aK F H l vs∧fx H b o vs
 | [],_,_,_,_,hn=>absurd rfl hn
 | d::l,b,o,h,hl,_=>by
  simp only[List.all_cons,Bool.and_eq_true] at hl
  unfold DAt at h
  obtain⟨⟨_,v,h1,_,h3⟩,h4⟩:=h
  rw[(h1.leaf hl.1).2.2.2] at h3
  obtain⟨B,c,hB,hc,hcell⟩:=h3
  by_cases hn:l=[]
  ·subst hn
   refine⟨[v],?_,B,c,hB,hc,hcell⟩
   simp only[aK]; exact⟨v,[],rfl,h1,rfl⟩
  ·obtain ⟨vs, g1, B', c', hB', hc', g2⟩ := DAt.flat h4 hl.2 hn
   rw[hB] at hB'; cases hB'
   rw[hc] at hc'; cases hc'
   refine⟨v::vs,?_,B,c,hB,hc,fun k u hu=>?_⟩
   ·unfold aK; exact⟨v,vs,rfl,h1,g1⟩
   ·cases k with
    | zero=>exact hcell 0 u hu
    | succ k=>have:=g2 k u hu; rw[← this]; congr 1; omega
noncomputable def cutD(l:List D)(o s:Nat):Option (List D):=if o+s≤l.length∧1≤s then some ((l.drop o).take s) else none
variable {P:Program} {t:TypeId}
theorem DAt.load1{l:List D}{b o k:Nat}{d:D}(h:DAt F H l b o 1)(hl:l.all bk=true)(e:l[k]?=some d)(ht:oW P t=some false):∃ v,az P H t ⟨b,o+k,none⟩=some v∧DRel F H d v:=by
 obtain⟨_,v,h1,_,h3⟩:=h.get e
 have hd:bk d=true:=by rw[List.all_eq_true] at hl; exact hl d (List.mem_of_getElem? e)
 have hq:=h1.leaf hd
 rw[hq.2.2.2,Nat.mul_one] at h3
 exact⟨v,loadV_scalar (k:=0) h3 ht rfl hq.2.1 hq.2.2.1,h1⟩
theorem aK.take:∀ {l:List D} {vs:List Value} (k:Nat),aK F H l vs→aK F H (l.take k) (vs.take k)
 | _,_,0,_=>by simp [aK]
 | [],vs,k+1,h=>by unfold aK at h; subst h; simp [aK]
 | d::l,vs,k+1,h=>by
  unfold aK at h
  obtain⟨v,vs',rfl,h1,h2⟩:=h
  simp only[List.take_succ_cons,aK]
  exact⟨v,_,rfl,h1,aK.take k h2⟩
theorem aK.drop:∀ {l:List D} {vs:List Value} (k:Nat),aK F H l vs→aK F H (l.drop k) (vs.drop k)
 | _,_,0,h=>h
 | [],vs,k+1,h=>by unfold aK at h; subst h; simp [aK]
 | d::l,vs,k+1,h=>by
  unfold aK at h
  obtain⟨v,vs',rfl,h1,h2⟩:=h
  exact aK.drop k h2
theorem aK.append:∀ {l l':List D} {vs vs':List Value},aK F H l vs→aK F H l' vs'→aK F H (l++l') (vs++vs')
 | [],_,vs,_,h,g=>by unfold aK at h; subst h; exact g
 | d::l,_,vs,_,h,g=>by
  unfold aK at h
  obtain⟨v,vs'',rfl,h1,h2⟩:=h
  simp only[List.cons_append,aK]
  exact⟨v,_,rfl,h1,aK.append h2 g⟩
theorem all_drop_take{l:List D}{o s:Nat}(h:l.all bk=true):((l.drop o).take s).all bk=true:=by
 rw[List.all_eq_true] at h ⊢
 exact fun x hx=>h x (List.mem_of_mem_drop (List.mem_of_mem_take hx))
theorem DAt.loadN{l l':List D}{b o k s:Nat}(h:DAt F H l b o 1)(hl:l.all bk=true)(e:cutD l k s=some l')(ht:oW P t=some true)(hs:szT P t=some s) :
  ∃ vs,az P H t ⟨b,o+k,none⟩=some (.agg ⟨vs⟩)∧aK F H l' vs∧l'.all bk=true:=by
 unfold cutD at e
 split at e
 ·rename_i hc
  cases e
  have hne:l≠[]:=by rintro rfl; simp at hc; omega
  obtain⟨vs,g1,g2⟩:=h.flat hl hne
  have hlen:=g1.length
  refine⟨(vs.drop k).take s,?_,(g1.drop k).take s,all_drop_take hl⟩
  exact loadV_agg g2 ht hs (by omega) (g1.leafs hl).2
 ·cases e
end Go.Ev
end
section
namespace Go.Ev
open Go
inductive AV where
 | d (x:D)
 | loc (s o:Nat)
 | osl (s:Nat)
 | elo (s i o:Nat)
 | mp (s:Nat)
 | asl (s o n c:Nat)
 | agg (l:List AV)
 | fn (f:FuncId) (a b:List AV)
 | bad
 | b (c:Bool)
 | und
inductive Bx where
 | dat (cells:List D) (fz:Bool)
 | box (cells:List AV)
 | vec (els:List D) (e:TypeId) (sz:Nat) (fz:Bool)
 | map (es:List MapEntry) (c:Nat) (fz:Bool)
 | env (l:List (Nat × AV))
structure Si where
 b:Nat
 len:Nat
 cap:Nat
 sz:Nat
 nil:Bool
 tm:Tm
noncomputable def oq:AV→Bool
 | .agg _ | .und=>false
 | .d x=>bk x
 | _=>true
mutual
noncomputable def okA(Q:Nat→Bool):AV→Bool
 | .d _ | .bad | .b _ | .und=>true
 | .loc s _ | .osl s | .elo s _ _ | .mp s | .asl s _ _ _=>Q s
 | .agg l=>okAL Q l
 | .fn _ a b=>okAL Q a && okAL Q b
noncomputable def okAL(Q:Nat→Bool):List AV→Bool
 | []=>true
 | a::l=>okA Q a && okAL Q l
end
noncomputable def okB(Q:Nat→Bool):Bx→Bool
 | .box l=>okAL Q l
 | .env l=>l.all fun x=>okA Q x.2
 | _=>true
mutual
noncomputable def VRel(σ:Nat→Option Si)(F:Nat→Prop)(H:Hp):AV→Value→Prop
 | .d x,v=>DRel F H x v
 | .loc s o,v=>∃ i,σ s=some i∧i.nil=false∧v=.pointer (some ⟨i.b,o,none⟩)
 | .osl s,v=>∃ i,σ s=some i∧((i.nil=true∧v=.slice none 0 0)∨(i.nil=false∧v=.slice (some ⟨i.b,0,none⟩) i.len i.cap))
 | .elo s k o,v=>∃ i,σ s=some i∧i.nil=false∧v=.pointer (some ⟨i.b,k * i.sz+o,none⟩)
 | .mp s,v=>∃ i,σ s=some i∧i.nil=false∧v=.map (some i.b)
 | .asl s o n c,v=>∃ i,σ s=some i∧i.nil=false∧n≤c∧c<capV∧v=.slice (some ⟨i.b,o,none⟩) n c
 | .agg l,v=>l.all oq=true∧∃ vs,v=.agg ⟨vs⟩∧bQ σ F H l vs
 | .fn f a b,v=>∃ va vb,v=.func (.func f) ⟨va⟩ ⟨vb⟩∧bQ σ F H a va∧bQ σ F H b vb
 | .bad,v=>oQ v=true
 | .b c,v=>v=.bool c
 | .und,v=>v=undef
noncomputable def bQ(σ:Nat→Option Si)(F:Nat→Prop)(H:Hp):List AV→List Value→Prop
 | [],vs=>vs=[]
 | a::l,vs=>∃ v vs',vs=v::vs'∧VRel σ F H a v∧bQ σ F H l vs'
end
structure KI (ρ:Type) where
 C:Nat→Prop
 O:Nat→Prop
 oc:∀ b,O b→C b
 ok:Hp→Prop
 st:∀ H H',(∀ b,C b→H'.get b=H.get b)→ok H→ok H'
 Fs:Nat→Prop
 tm:Nat→Tm
 ds:List Nat
 R:Nat→(Nat→Prop)→Option ρ→D→Prop
variable {σ σ':Nat→Option Si} {F F' F0:Nat→Prop} {H H':Hp} {ρ:Type} {H0:KI ρ} {n n' n0:Nat} {Q:Nat→Bool}
mutual
theorem VRel.only(hσ:∀ s i,Q s=true→σ s=some i→σ' s=some i)(hF:∀ b,F b→F' b)(hH:Fz F H H'):∀(a:AV) (v:Value),okA Q a=true→VRel σ F H a v→VRel σ' F' H' a v
 | .d x,v,_,h=>by unfold VRel at h ⊢; exact h.mono hF hH
 | .loc s o,v,hq,h=>by
  unfold okA at hq; unfold VRel at h ⊢
  obtain⟨i,h1,h2⟩:=h; exact⟨i,hσ s i hq h1,h2⟩
 | .osl s,v,hq,h=>by
  unfold okA at hq; unfold VRel at h ⊢
  obtain⟨i,h1,h2⟩:=h; exact⟨i,hσ s i hq h1,h2⟩
 | .elo s k o,v,hq,h=>by
  unfold okA at hq; unfold VRel at h ⊢
  obtain⟨i,h1,h2⟩:=h; exact⟨i,hσ s i hq h1,h2⟩
 | .mp s,v,hq,h=>by
  unfold okA at hq; unfold VRel at h ⊢
  obtain⟨i,h1,h2⟩:=h; exact⟨i,hσ s i hq h1,h2⟩
 | .asl s o n c,v,hq,h=>by
  unfold okA at hq; unfold VRel at h ⊢
  obtain⟨i,h1,h2⟩:=h; exact⟨i,hσ s i hq h1,h2⟩
 | .agg l,v,hq,h=>by
  unfold okA at hq; unfold VRel at h ⊢
  obtain⟨h0,vs,rfl,h1⟩:=h; exact⟨h0,vs,rfl,bQ.only hσ hF hH l vs hq h1⟩
 | .fn f a b,v,hq,h=>by
  unfold okA at hq; unfold VRel at h ⊢
  rw[Bool.and_eq_true] at hq
  obtain⟨va,vb,rfl,h1,h2⟩:=h; exact⟨va,vb,rfl,bQ.only hσ hF hH a va hq.1 h1,bQ.only hσ hF hH b vb hq.2 h2⟩
 | .bad,v,_,h=>by unfold VRel at h ⊢; exact h
 | .b c,v,_,h=>by unfold VRel at h ⊢; exact h
 | .und,v,_,h=>by unfold VRel at h ⊢; exact h
theorem bQ.only(hσ:∀ s i,Q s=true→σ s=some i→σ' s=some i)(hF:∀ b,F b→F' b)(hH:Fz F H H'):∀(l:List AV) (vs:List Value),okAL Q l=true→bQ σ F H l vs→bQ σ' F' H' l vs
 | [],vs,_,h=>by unfold bQ at h ⊢; exact h
 | a::l,vs,hq,h=>by
  unfold okAL at hq; unfold bQ at h ⊢
  rw[Bool.and_eq_true] at hq
  obtain⟨v,vs',rfl,h1,h2⟩:=h; exact⟨v,vs',rfl,VRel.only hσ hF hH a v hq.1 h1,bQ.only hσ hF hH l vs' hq.2 h2⟩
end
mutual
theorem qiz:∀ a:AV,okA (fun _=>true) a=true
 | .d _ | .bad | .b _ | .und | .loc _ _ | .osl _ | .elo _ _ _ | .mp _ | .asl _ _ _ _=>by simp [okA]
 | .agg l=>by unfold okA; exact wJ l
 | .fn _ a b=>by unfold okA; rw[wJ a,wJ b]; rfl
theorem wJ:∀ l:List AV,okAL (fun _=>true) l=true
 | []=>by simp [okAL]
 | a::l=>by unfold okAL; rw[qiz a,wJ l]; rfl
end
theorem VRel.mono(hσ:∀ s i,σ s=some i→σ' s=some i)(hF:∀ b,F b→F' b)(hH:Fz F H H'){a:AV}{v:Value}(h:VRel σ F H a v):VRel σ' F' H' a v:=
 VRel.only (Q:=fun _=>true) (fun s i _=>hσ s i) hF hH a v (qiz a) h
theorem bQ.mono(hσ:∀ s i,σ s=some i→σ' s=some i)(hF:∀ b,F b→F' b)(hH:Fz F H H'){l:List AV}{vs:List Value}(h:bQ σ F H l vs):bQ σ' F' H' l vs:=
 bQ.only (Q:=fun _=>true) (fun s i _=>hσ s i) hF hH l vs (wJ l) h
theorem VRel.leaf{a:AV}{v:Value}(h:VRel σ F H a v)(ha:oq a=true):oQ v=true∧aQ v=[v]:=by
 cases a with
 | d x=>unfold VRel at h; exact⟨(h.leaf ha).1,(h.leaf ha).2.2.2⟩
 | loc s o=>unfold VRel at h; obtain⟨i,_,_,rfl⟩:=h; exact⟨rfl,rfl⟩
 | osl s=>unfold VRel at h; obtain⟨i,_,⟨_,rfl⟩ | ⟨_,rfl⟩⟩:=h <;> exact⟨rfl,rfl⟩
 | elo s k o=>unfold VRel at h; obtain⟨i,_,_,rfl⟩:=h; exact⟨rfl,rfl⟩
 | mp s=>unfold VRel at h; obtain⟨i,_,_,rfl⟩:=h; exact⟨rfl,rfl⟩
 | asl s o n c=>unfold VRel at h; obtain⟨i,_,_,_,_,rfl⟩:=h; exact⟨rfl,rfl⟩
 | agg l=>cases ha
 | fn f a b=>unfold VRel at h; obtain⟨va,vb,rfl,_⟩:=h; exact⟨rfl,rfl⟩
 | bad=>unfold VRel at h; exact⟨h,by cases v <;> first | rfl | cases h⟩
 | b c=>unfold VRel at h; subst h; exact⟨rfl,rfl⟩
 | und=>cases ha
theorem bQ.length:∀ {l:List AV} {vs:List Value},bQ σ F H l vs→vs.length=l.length
 | [],vs,h=>by unfold bQ at h; subst h; rfl
 | a::l,vs,h=>by
  unfold bQ at h
  obtain⟨v,vs',rfl,_,h2⟩:=h
  simp [bQ.length h2]
theorem bQ.get:∀ {l:List AV} {vs:List Value} {i:Nat} {a:AV},bQ σ F H l vs→l[i]?=some a→∃ v,vs[i]?=some v∧VRel σ F H a v
 | [],_,_,_,_,e=>by cases e
 | a::l,vs,i,x,h,e=>by
  unfold bQ at h
  obtain⟨v,vs',rfl,h1,h2⟩:=h
  cases i with
  | zero=>cases e; exact⟨v,rfl,h1⟩
  | succ i=>exact bQ.get (l:=l) (i:=i) h2 (by simpa using e)
theorem bQ.leafs:∀ {l:List AV} {vs:List Value},bQ σ F H l vs→l.all oq=true→vs.all oQ=true
 | [],vs,h,_=>by unfold bQ at h; subst h; rfl
 | d::l,vs,h,hl=>by
  unfold bQ at h
  obtain⟨v,vs',rfl,h1,h2⟩:=h
  simp only[List.all_cons,Bool.and_eq_true] at hl ⊢
  exact⟨(h1.leaf hl.1).1,bQ.leafs h2 hl.2⟩
theorem bQ.take:∀ {l:List AV} {vs:List Value} (k:Nat),bQ σ F H l vs→bQ σ F H (l.take k) (vs.take k)
 | _,_,0,_=>by simp [bQ]
 | [],vs,k+1,h=>by unfold bQ at h; subst h; simp [bQ]
 | d::l,vs,k+1,h=>by
  unfold bQ at h
  obtain⟨v,vs',rfl,h1,h2⟩:=h
  simp only[List.take_succ_cons,bQ]
  exact⟨v,_,rfl,h1,bQ.take k h2⟩
theorem bQ.drop:∀ {l:List AV} {vs:List Value} (k:Nat),bQ σ F H l vs→bQ σ F H (l.drop k) (vs.drop k)
 | _,_,0,h=>h
 | [],vs,k+1,h=>by unfold bQ at h; subst h; simp [bQ]
 | d::l,vs,k+1,h=>by
  unfold bQ at h
  obtain⟨v,vs',rfl,h1,h2⟩:=h
  exact bQ.drop k h2
theorem bQ.append:∀ {l l':List AV} {vs vs':List Value},bQ σ F H l vs→bQ σ F H l' vs'→bQ σ F H (l++l') (vs++vs')
 | [],_,vs,_,h,g=>by unfold bQ at h; subst h; exact g
 | d::l,_,vs,_,h,g=>by
  unfold bQ at h
  obtain⟨v,vs'',rfl,h1,h2⟩:=h
  simp only[List.cons_append,bQ]
  exact⟨v,_,rfl,h1,bQ.append h2 g⟩
theorem bQ.of_D:∀ {l:List D} {vs:List Value},aK F H l vs→bQ σ F H (l.map .d) vs
 | [],vs,h=>by unfold aK at h; simp only[List.map_nil,bQ]; exact h
 | d::l,vs,h=>by
  unfold aK at h
  obtain⟨v,vs',rfl,h1,h2⟩:=h
  simp only[List.map_cons,bQ]
  exact⟨v,vs',rfl,by unfold VRel; exact h1,bQ.of_D h2⟩
noncomputable def allD:List AV→Option (List D)
 | []=>some []
 | .d x::l=>match allD l with
  | some ds=>some (x::ds)
  | none=>none
 | _::_=>none
theorem bQ.to_D:∀ {l:List AV} {vs:List Value} {ds:List D},bQ σ F H l vs→allD l=some ds→aK F H ds vs∧(l.all oq=true→ds.all bk=true)
 | [],vs,ds,h,e=>by cases e; unfold bQ at h; unfold aK; exact⟨h,fun _=>rfl⟩
 | a::l,vs,ds,h,e=>by
  unfold bQ at h
  obtain⟨v,vs',rfl,h1,h2⟩:=h
  cases a with
  | d x=>
   simp only[allD] at e
   split at e
   ·rename_i ds' e'
    cases e
    have ih:=bQ.to_D h2 e'
    unfold VRel at h1
    refine⟨by unfold aK; exact⟨v,vs',rfl,h1,ih.1⟩,fun hl=>?_⟩
    simp only[List.all_cons,Bool.and_eq_true] at hl ⊢
    exact⟨hl.1,ih.2 hl.2⟩
   ·cases e
  | _=>simp [allD] at e
noncomputable def mkAgg(l:List AV):AV:=match allD l with
 | some ds=>.d (.agg ds)
 | none=>.agg l
theorem VRel.mkAgg{l:List AV}{vs:List Value}(h:bQ σ F H l vs)(hl:l.all oq=true):VRel σ F H (mkAgg l) (.agg ⟨vs⟩):=by
 unfold Ev.mkAgg
 split
 ·rename_i ds e
  unfold VRel DRel
  exact⟨(h.to_D e).2 hl,vs,rfl,(h.to_D e).1⟩
 ·unfold VRel
  exact⟨hl,vs,rfl,h⟩
noncomputable def BRel(σ:Nat→Option Si)(F:Nat→Prop)(H:Hp)(i:Si):Bx→Prop
 | .dat cells fz=>i.nil=false∧(F i.b↔fz=true)∧cells.all bk=true∧∃ c e vec,H.get i.b=some (.cells c e false vec)∧aK F H cells c
 | .box cells=>i.nil=false∧¬ F i.b∧cells.all oq=true∧∃ c e vec,H.get i.b=some (.cells c e false vec)∧bQ σ F H cells c
 | .vec els e sz fz=>i.len=els.length∧i.sz=sz∧1≤sz∧((i.nil=true∧els=[])∨(i.nil=false∧(F i.b↔fz=true)∧els.length≤i.cap∧DAt F H els i.b 0 sz ∧
   ∃ c vec,H.get i.b=some (.cells c e false vec)∧((i.cap=capV∧vec=some sz∧c.length=els.length * sz)∨(i.cap<capV∧c.length=i.cap * sz))))
 | .map es c fz=>i.nil=false∧(F i.b↔fz=true)∧H.get i.b=some (.map es c)
 | .env l=>i.nil=true∧∀ x ∈ l,∃ v,i.tm.get x.1=some v∧VRel σ F H x.2 v
theorem lV{b:Nat}(h:H'.get b=H.get b){o:Nat}{vs:List Value}(c:fx H b o vs):fx H' b o vs:=by
 obtain⟨B,c,h1,h2,h3⟩:=c; exact⟨B,c,h.trans h1,h2,h3⟩
theorem sQ:∀ B:Bx,okB (fun _=>true) B=true
 | .box _=>wJ _
 | .env _=>List.all_eq_true.2 fun x _=>qiz x.2
 | .dat .. | .vec .. | .map ..=>rfl
theorem BRel.only{i:Si}{B:Bx}(hσ:∀ s i,Q s=true→σ s=some i→σ' s=some i)(hF:∀ b,F b→F' b)(hFb:i.nil=false→F' i.b→F i.b)(hH:Fz F H H')(hg:i.nil=false→H'.get i.b=H.get i.b)(hq:okB Q B=true)
  (h:BRel σ F H i B):BRel σ' F' H' i B:=by
 cases B with
 | dat cells fz=>
  obtain⟨h1,h2,h3,c,e,vec,h4,h5⟩:=h
  exact⟨h1,⟨fun z=>h2.1 (hFb h1 z),fun z=>hF _ (h2.2 z)⟩,h3,c,e,vec,(hg h1).trans h4,h5.mono hF hH⟩
 | box cells=>
  obtain⟨h1,h2,h3,c,e,vec,h4,h5⟩:=h
  exact⟨h1,fun z=>h2 (hFb h1 z),h3,c,e,vec,(hg h1).trans h4,bQ.only hσ hF hH _ _ hq h5⟩
 | map es c fz=>exact⟨h.1,⟨fun z=>h.2.1.1 (hFb h.1 z),fun z=>hF _ (h.2.1.2 z)⟩,(hg h.1).trans h.2.2⟩
 | env l=>
  refine⟨h.1,fun x hx=>?_⟩
  obtain⟨v,h1,h2⟩:=h.2 x hx
  exact⟨v,h1,VRel.only hσ hF hH _ _ (List.all_eq_true.1 hq x hx) h2⟩
 | vec els e sz fz=>
  obtain⟨h1,h2,h3,h4⟩:=h
  refine⟨h1,h2,h3,h4.imp id ?_⟩
  rintro⟨g1,g2,g3,g4,c,vec,g5,g6⟩
  exact⟨g1,⟨fun z=>g2.1 (hFb g1 z),fun z=>hF _ (g2.2 z)⟩,g3,DAt.mono hF hH _ _ _ _ (fun o vs=>lV (hg g1)) g4,c,vec,(hg g1).trans g5,g6⟩
structure Rs (n0:Nat) (H0:KI ρ) (F0:Nat→Prop) (σ:Nat→Option Si) (F:Nat→Prop) (H:Hp) (n:Nat) (G:Tr Bx):Prop where
 le:n0≤n
 keep:H0.ok H∧∀ b,H0.C b→b<n
 sub:∀ b,F0 b→F b
 fin:∀ b,F b→F0 b∨(n0≤b∧b<n)
 low:∀ b,F0 b→b<n0
 site:∀ s B,G.get s=some B→∃ i,σ s=some i∧BRel σ F H i B
 back:∀ s i,σ s=some i→∃ B,G.get s=some B
 own:∀ s i,σ s=some i→i.nil=false→n0≤i.b∧i.b<n
 inj:∀ s s' i j,σ s=some i→σ s'=some j→i.nil=false→j.nil=false→i.b=j.b→s=s'
 ownC:∀ s i,σ s=some i→i.nil=false→¬ H0.C i.b∨F i.b
 finC:∀ b,F b→F0 b∨¬ H0.O b
 fs:∀ b,H0.Fs b→F b
 tms:∀ s l,G.get s=some (.env l)→∀ i,σ s=some i→i.tm=H0.tm s
variable {G:Tr Bx}
theorem Rs.lt(h:Rs n0 H0 F0 σ F H n G){b:Nat}(hb:F b):b<n:=by
 rcases h.fin b hb with q | q
 ·have:=h.low b q; have:=h.le; omega
 ·exact q.2
noncomputable def upd(σ:Nat→Option Si)(s:Nat)(i:Si):Nat→Option Si:=fun s'=>if s'=s then some i else σ s'
theorem eV{s:Nat}{i:Si}:upd σ s i s=some i:=by simp [upd]
theorem fw{s s':Nat}{i:Si}(h:s'≠s):upd σ s i s'=σ s':=by simp [upd,h]
theorem Rs.put(h:Rs n0 H0 F0 σ F H n G){s:Nat}{i':Si}{B':Bx}(hn:n≤n')
  (hH:∀ b,b<n→(∀ i,σ s=some i→i.nil=false→b≠i.b)→H'.get b=H.get b)
  (hlive:∀ i,σ s=some i→i.nil=false→¬ F i.b∨H'.get i.b=H.get i.b)
  (hi:i'.nil=false→(n≤i'.b∧i'.b<n')∨∃ i,σ s=some i∧i.nil=false∧i'.b=i.b)
  (hmen:σ s=none∨σ s=some i'∨∀ s' B,s'≠s→G.get s'=some B→okB (fun x=>!Nat.beq x s) B=true)
  (hB:Fz F H H'→BRel (upd σ s i') F H' i' B') (henv:∀ l,B'=.env l→i'.tm=H0.tm s:=by intro l e; cases e) :
  Fz F H H'∧Rs n0 H0 F0 (upd σ s i') F H' n' (G.set s (some B')):=by
 have hfz:Fz F H H':=by
  refine Fz.of_eq fun b hb=>?_
  by_cases hx:∃ i,σ s=some i∧i.nil=false∧b=i.b
  ·obtain ⟨i, h1, h2, rfl⟩ := hx
   exact(hlive i h1 h2).resolve_left (fun z=>z hb)
  ·exact hH b (h.lt hb) fun i h1 h2 h3=>hx ⟨i,h1,h2,h3⟩
 refine⟨hfz,?_⟩
 have oth:∀ s' i,s'≠s→σ s'=some i→i.nil=false→H'.get i.b=H.get i.b:=by
  intro s' i hs h1 h2
  exact hH _ (h.own s' i h1 h2).2 fun j g1 g2 g3=>hs (h.inj s' s i j h1 g1 h2 g2 g3)
 refine⟨by have:=h.le; omega,⟨H0.st _ _ (fun b hb=>by
  by_cases hx:∃ i,σ s=some i∧i.nil=false∧b=i.b
  ·obtain ⟨i, h1, h2, rfl⟩ := hx
   rcases h.ownC s i h1 h2 with q | q
   ·exact absurd hb q
   ·exact(hlive i h1 h2).resolve_left fun z=>z q
  ·exact hH b (h.keep.2 b hb) fun i h1 h2 h3=>hx ⟨i,h1,h2,h3⟩) h.keep.1,fun b hb=>by have:=h.keep.2 b hb; omega⟩,h.sub,fun b hb=>?_,h.low,?_,?_,?_,?_,?_,h.finC,h.fs,?_⟩
 ·rcases h.fin b hb with q | q
  ·exact .inl q
  ·exact .inr ⟨q.1,by omega⟩
 ·intro s' B e
  rw[Tr.get_set] at e
  by_cases hs:s'=s
  ·rw [if_pos hs] at e; cases e; subst hs
   exact⟨i',eV,hB hfz⟩
  ·rw [if_neg hs] at e
   obtain⟨i,h1,h2⟩:=h.site s' B e
   refine⟨i,by rw[fw hs]; exact h1,?_⟩
   rcases hmen with q | q | q
   ·exact h2.only (Q:=fun _=>true) (fun x j _ hx=>by rw[fw (fun z=>by subst z; rw[q] at hx; cases hx)]; exact hx) (fun _ z=>z) (fun _ z=>z) hfz (oth s' i hs h1)
     (sQ _)
   ·exact h2.only (Q:=fun _=>true) (fun x j _ hx=>by
     by_cases hxs:x=s
     ·subst hxs; rw[eV,← q]; exact hx
     ·rw[fw hxs]; exact hx) (fun _ z=>z) (fun _ z=>z) hfz (oth s' i hs h1) (sQ _)
   ·exact h2.only (Q:=fun x=>!Nat.beq x s) (fun x j hx1 hx=>by
     rw[fw (fun z=>by subst z; simp at hx1)]; exact hx) (fun _ z=>z) (fun _ z=>z) hfz (oth s' i hs h1) (q s' B hs e)
 ·intro s' i e
  rw[Tr.get_set]
  by_cases hs:s'=s
  ·rw[if_pos hs]; exact⟨_,rfl⟩
  ·rw[if_neg hs]; rw[fw hs] at e; exact h.back s' i e
 ·intro s' i e hnil
  by_cases hs:s'=s
  ·subst hs; rw [eV] at e; cases e
   rcases hi hnil with q | ⟨j,q1,q2,q3⟩
   ·have:=h.le; omega
   ·have:=h.own _ j q1 q2; omega
  ·rw [fw hs] at e
   have:=h.own s' i e hnil; omega
 ·have key : ∀ s' j, s' ≠ s → σ s' = some j → i'.nil = false → j.nil = false → i'.b = j.b → False := by
   intro s' j hs h1 h2 h3 h4
   rcases hi h2 with q | ⟨i,q1,q2,q3⟩
   ·have:=h.own s' j h1 h3; omega
   ·exact hs (h.inj s' s j i h1 q1 h3 q2 (by omega))
  intro s1 s2 i j e1 e2 n1 n2 hb
  by_cases h1:s1=s <;> by_cases h2:s2=s
  ·rw[h1,h2]
  ·subst h1; rw [eV] at e1; cases e1; rw [fw h2] at e2
   exact(key s2 j h2 e2 n1 n2 hb).elim
  ·subst h2; rw [eV] at e2; cases e2; rw [fw h1] at e1
   exact(key s1 i h1 e1 n2 n1 hb.symm).elim
  ·rw [fw h1] at e1; rw [fw h2] at e2
   exact h.inj s1 s2 i j e1 e2 n1 n2 hb
 ·intro s' i e hnil
  by_cases hs:s'=s
  ·subst hs; rw [eV] at e; cases e
   rcases hi hnil with q | ⟨j,q1,q2,q3⟩
   ·left; intro z; have:=h.keep.2 _ z; omega
   ·rw[q3]; exact h.ownC _ j q1 q2
  ·rw [fw hs] at e
   exact h.ownC s' i e hnil
 ·intro s' l e i hi
  rw[Tr.get_set] at e
  by_cases hs:s'=s
  ·subst hs
   rw[if_pos rfl] at e; rw[eV] at hi
   cases hi; cases e
   exact henv l rfl
  ·rw [if_neg hs] at e; rw [fw hs] at hi
   exact h.tms s' l e i hi
theorem VRel.put{s:Nat}{i':Si}{a:AV}{v:Value}(hfz:Fz F H H')(hmen:σ s=none∨σ s=some i'∨okA (fun x=>!Nat.beq x s) a=true)(h:VRel σ F H a v):VRel (upd σ s i') F H' a v:=by
 rcases hmen with q | q | q
 ·exact h.mono (fun x j hx=>by rw[fw (fun z=>by subst z; rw[q] at hx; cases hx)]; exact hx) (fun _ z=>z) hfz
 ·exact h.mono (fun x j hx=>by
   by_cases hxs:x=s
   ·subst hxs; rw[eV,← q]; exact hx
   ·rw[fw hxs]; exact hx) (fun _ z=>z) hfz
 ·exact VRel.only (Q:=fun x=>!Nat.beq x s) (fun x j hx1 hx=>by rw[fw (fun z=>by subst z; simp at hx1)]; exact hx) (fun _ z=>z) hfz a v q h
end Go.Ev
end
section
namespace Go.Ev
open Go
variable {σ σ':Nat→Option Si} {F F' F0:Nat→Prop} {H H':Hp} {ρ:Type} {H0:KI ρ} {n n' n0:Nat} {Q:Nat→Bool} {G G':Tr Bx}
noncomputable def fzL(f:AV→Tr Bx→Option (D × Tr Bx)):List AV→Tr Bx→Option (List D × Tr Bx)
 | [],G=>some ([],G)
 | a::l,G=>match f a G with
  | some (d,G1)=>match fzL f l G1 with
   | some (ds,G2)=>some (d::ds,G2)
   | none=>none
  | none=>none
noncomputable def fzS(s o:Nat)(G:Tr Bx)(f:List AV→Tr Bx→Option (List D × Tr Bx)):Option (D × Tr Bx):=match G.get s with
 | some (.dat c _)=>some (.ref (c.drop o),G.set s (some (.dat c true)))
 | some (.box l)=>match f l G with
  | some (ds,G1)=>match G1.get s with
   | some (.box _)=>some (.ref (ds.drop o),G1.set s (some (.dat ds true)))
   | _=>none
  | none=>none
 | _=>none
noncomputable def fzO(s:Nat)(G:Tr Bx):Option (D × Tr Bx):=match G.get s with
 | some (.vec els e sz _)=>some (.sl els,G.set s (some (.vec els e sz true)))
 | _=>none
noncomputable def fzM(s:Nat)(G:Tr Bx):Option (D × Tr Bx):=match G.get s with
 | some (.map es c _)=>some (.map es c,G.set s (some (.map es c true)))
 | _=>none
noncomputable def fzR(s o n:Nat)(G:Tr Bx):Option (D × Tr Bx):=match G.get s with
 | some (.dat c _)=>match Nat.ble (o+n) c.length with
  | true=>some (.sl ((c.drop o).take n),G.set s (some (.dat c true)))
  | false=>none
 | _=>none
noncomputable def fzG(g:List AV→Tr Bx→Option (List D × Tr Bx))(l:List AV)(G:Tr Bx):Option (D × Tr Bx):=match g l G with
 | some (ds,G1)=>some (.agg ds,G1)
 | none=>none
noncomputable def fzF(g:List AV→Tr Bx→Option (List D × Tr Bx))(f:FuncId)(a b:List AV)(G:Tr Bx):Option (D × Tr Bx):=match g a G with
 | some (da,G1)=>match g b G1 with
  | some (db,G2)=>some (.fn f da db,G2)
  | none=>none
 | none=>none
noncomputable def fzV:Nat→AV→Tr Bx→Option (D × Tr Bx)
 | _,.d x,G=>some (x,G)
 | _,.b c,G=>some (.v (.bool c),G)
 | _,.osl s,G=>fzO s G
 | _,.mp s,G=>fzM s G
 | _,.asl s o n _,G=>fzR s o n G
 | k+1,.loc s o,G=>fzS s o G (fzL (fzV k))
 | k+1,.agg l,G=>fzG (fzL (fzV k)) l G
 | k+1,.fn f a b,G=>fzF (fzL (fzV k)) f a b G
 | _,_,_=>none
theorem Rs.frz(h:Rs n0 H0 F0 σ F H n G){s:Nat}{i:Si}{B':Bx}(hs:σ s=some i)(hB:(∀ b,F b→(F b∨(i.nil=false∧b=i.b)))→BRel σ (fun b=>F b∨(i.nil=false∧b=i.b)) H i B')(hne:∀ l,B'≠.env l:=by intro l e; cases e) :
  Rs n0 H0 F0 σ (fun b=>F b∨(i.nil=false∧b=i.b)) H n (G.set s (some B')):=by
 refine⟨h.le,h.keep,fun b hb=>.inl (h.sub b hb),fun b hb=>?_,h.low,?_,?_,h.own,h.inj,fun s' j h1 h2=>(h.ownC s' j h1 h2).imp id .inl,fun b hb=>?_,fun b hb=>.inl (h.fs b hb),fun s' l e j hj=>?_⟩
 ·rcases hb with hb | ⟨hn, rfl⟩
  ·exact h.fin b hb
  ·exact .inr (h.own s i hs hn)
 ·intro s' B2 e
  rw[Tr.get_set] at e
  by_cases q:s'=s
  ·rw [if_pos q] at e; cases e; subst q
   exact⟨i,hs,hB fun b z=>.inl z⟩
  ·rw [if_neg q] at e
   obtain⟨j,h1,h2⟩:=h.site s' B2 e
   refine⟨j,h1,h2.only (Q:=fun _=>true) (fun _ _ _ z=>z) (fun b z=>.inl z) (fun hn z=>?_) Fz.refl (fun _=>rfl) (sQ _)⟩
   rcases z with z | ⟨z1,z2⟩
   ·exact z
   ·exact absurd (h.inj s' s j i h1 hs hn z1 z2) q
 ·intro s' j e
  rw[Tr.get_set]
  by_cases q:s'=s
  ·rw[if_pos q]; exact⟨_,rfl⟩
  ·rw[if_neg q]; exact h.back s' j e
 ·rcases hb with hb | ⟨hn, rfl⟩
  ·exact h.finC b hb
  ·rcases h.ownC s i hs hn with q | q
   ·exact .inr fun z=>q (H0.oc _ z)
   ·exact h.finC _ q
 ·rw [Tr.get_set] at e
  by_cases q:s'=s
  ·rw[if_pos q] at e; cases e; exact absurd rfl (hne _)
  ·rw[if_neg q] at e; exact h.tms s' l e j hj
noncomputable def FzOk(n0:Nat)(H0:KI ρ)(F0:Nat→Prop)(σ:Nat→Option Si)(F:Nat→Prop)(H:Hp)(n:Nat)(G G':Tr Bx)(X:(Nat→Prop)→Prop):Prop:=
 (∃ F',Rs n0 H0 F0 σ F' H n G'∧(∀ b,F b→F' b)∧X F')∧∀ s c,G'.get s=some (.box c)→G.get s=some (.box c)
theorem fzO_ok{s:Nat}{d:D}{v:Value}(h:Rs n0 H0 F0 σ F H n G)(hv:VRel σ F H (.osl s) v)(e:fzO s G=some (d,G')) :
  FzOk n0 H0 F0 σ F H n G G' (fun F'=>DRel F' H d v)∧bk d=true:=by
 unfold fzO at e
 split at e
 ·rename_i els el sz fz hg
  cases e
  obtain⟨i,hi,hB⟩:=h.site _ _ hg
  unfold VRel at hv
  obtain⟨j,hj,hv⟩:=hv
  rw[hi] at hj; cases hj
  obtain⟨b1,b2,b3,b4⟩:=hB
  refine⟨⟨⟨_,h.frz (B':=.vec els el sz true) hi (fun hF=>⟨b1,b2,b3,b4.imp id ?_⟩),fun b hb=>.inl hb,?_⟩,?_⟩,rfl⟩
  ·rintro ⟨g1, g2, g3, g4, g5⟩
   exact⟨g1,⟨fun _=>rfl,fun _=>.inr ⟨g1,rfl⟩⟩,g3,DAt.mono hF Fz.refl _ _ _ _ (fun _ _ z=>z) g4,g5⟩
  ·unfold DRel
   rcases b4 with⟨q1,q2⟩ | ⟨q1,q2,q3,q4,c,vec,q5,q6⟩
   ·rcases hv with ⟨_, rfl⟩ | ⟨z, _⟩
    ·exact .inl ⟨rfl,q2⟩
    ·rw[q1] at z; cases z
   ·rcases hv with ⟨z, _⟩ | ⟨_, rfl⟩
    ·rw[q1] at z; cases z
    ·refine .inr (.inl ⟨i.b, 0, i.cap, sz, by rw [b1], q3, ?_, .inr ⟨.inr ⟨q1, rfl⟩, DAt.mono (fun b hb => .inl hb) Fz.refl _ _ _ _ (fun _ _ z => z) q4⟩⟩)
     rcases q6 with⟨z,_⟩ | ⟨z,_⟩ <;> unfold capR <;> unfold capV at z <;> omega
  ·intro s' c e
   rw[Tr.get_set] at e
   split at e
   ·cases e
   ·exact e
 ·cases e
theorem fzM_ok{s:Nat}{d:D}{v:Value}(h:Rs n0 H0 F0 σ F H n G)(hv:VRel σ F H (.mp s) v)(e:fzM s G=some (d,G')) :
  FzOk n0 H0 F0 σ F H n G G' (fun F'=>DRel F' H d v)∧bk d=true:=by
 unfold fzM at e
 split at e
 ·rename_i es c fz hg
  cases e
  obtain⟨i,hi,hB⟩:=h.site _ _ hg
  unfold VRel at hv
  obtain⟨j,hj,hnil,rfl⟩:=hv
  rw[hi] at hj; cases hj
  obtain⟨b1,b2,b3⟩:=hB
  refine⟨⟨⟨_,h.frz (B':=.map es c true) hi (fun hF=>⟨b1,⟨fun _=>rfl,fun _=>.inr ⟨b1,rfl⟩⟩,b3⟩),fun b hb=>.inl hb,?_⟩,?_⟩,rfl⟩
  ·unfold DRel
   exact⟨_,rfl,.inr ⟨b1,rfl⟩,b3⟩
  ·intro s' c e
   rw[Tr.get_set] at e
   split at e
   ·cases e
   ·exact e
 ·cases e
theorem IJ{b:Nat}{c:List Value}{e:TypeId}{ro:Bool}{vec:Option Nat}(h:H.get b=some (.cells c e ro vec)):fx H b 0 c:=⟨_,c,h,rfl,fun k v hv=>by simpa using hv⟩
theorem fzR_ok{s o m c:Nat}{d:D}{v:Value}(h:Rs n0 H0 F0 σ F H n G)(hv:VRel σ F H (.asl s o m c) v)(e:fzR s o m G=some (d,G')) :
  FzOk n0 H0 F0 σ F H n G G' (fun F'=>DRel F' H d v)∧bk d=true:=by
 unfold fzR at e
 split at e
 ·rename_i l fz hg
  split at e
  ·rename_i hle
   have hle:=Nat.le_of_ble_eq_true hle
   simp only[Option.some.injEq,Prod.mk.injEq] at e
   obtain⟨rfl,rfl⟩:=e
   unfold VRel at hv
   obtain⟨i,hi,hnil,hmc,hcap,rfl⟩:=hv
   obtain⟨j,hj,hB⟩:=h.site _ _ hg
   rw[hi] at hj; cases hj
   obtain⟨b1,b2,b3,cs,el,vec,b4,b5⟩:=hB
   have hF:∀ b,F b→(F b∨(i.nil=false∧b=i.b)):=fun b z=>.inl z
   refine⟨⟨⟨_,h.frz (B':=.dat l true) hi (fun hF=>⟨b1,⟨fun _=>rfl,fun _=>.inr ⟨hnil,rfl⟩⟩,b3,cs,el,vec,b4,b5.mono hF Fz.refl⟩),hF,?_⟩,?_⟩,rfl⟩
   ·unfold DRel
    have hd:=(DAt.of_cells (b5.mono hF Fz.refl) (IJ b4) b3).drop o
    have hlen:((l.drop o).take m).length=m:=by simp; omega
    refine .inr (.inl ⟨i.b,o,c,1,by rw[hlen],by omega,by unfold capR; unfold capV at hcap; omega,.inr ⟨.inr ⟨hnil,rfl⟩,?_⟩⟩)
    refine DAt.of_get fun k d hd'=>?_
    have hk':k<m:=by
     have:=(List.getElem?_eq_some_iff.1 hd').1
     rw[hlen] at this; exact this
    rw[List.getElem?_take,if_pos hk'] at hd'
    have:=hd.get hd'
    simpa using this
   ·intro s' c' e
    rw[Tr.get_set] at e
    split at e
    ·cases e
    ·exact e
  ·cases e
 ·cases e
theorem zQ{f:AV→Tr Bx→Option (D × Tr Bx)}
  (hf:∀ a F G d G' v,Rs n0 H0 F0 σ F H n G→VRel σ F H a v→f a G=some (d,G')→FzOk n0 H0 F0 σ F H n G G' (fun F'=>DRel F' H d v)∧(oq a=true→bk d=true)) :
  ∀(l:List AV) (F:Nat→Prop) (G:Tr Bx) (ds:List D) (G':Tr Bx) (vs:List Value),Rs n0 H0 F0 σ F H n G→bQ σ F H l vs→fzL f l G=some (ds,G') →
   FzOk n0 H0 F0 σ F H n G G' (fun F'=>aK F' H ds vs)∧(l.all oq=true→ds.all bk=true)
 | [],F,G,ds,G',vs,h,hv,e=>by
  simp only[fzL,Option.some.injEq,Prod.mk.injEq] at e
  obtain⟨rfl,rfl⟩:=e
  unfold bQ at hv
  exact⟨⟨⟨F,h,fun _ z=>z,by unfold aK; exact hv⟩,fun _ _ z=>z⟩,fun _=>rfl⟩
 | a::l,F,G,ds,G',vs,h,hv,e=>by
  simp only[fzL] at e
  split at e
  ·rename_i d G1 e1
   split at e
   ·rename_i ds' G2 e2
    simp only[Option.some.injEq,Prod.mk.injEq] at e
    obtain⟨rfl,rfl⟩:=e
    unfold bQ at hv
    obtain⟨v,vs',rfl,hv1,hv2⟩:=hv
    obtain⟨⟨⟨F1,r1,r2,r3⟩,r4⟩,r5⟩:=hf a F G d G1 v h hv1 e1
    obtain⟨⟨⟨F2,t1,t2,t3⟩,t4⟩,t5⟩:=zQ hf l F1 G1 ds' G2 vs' r1 (hv2.mono (fun _ _ z=>z) r2 Fz.refl) e2
    refine⟨⟨⟨F2,t1,fun b hb=>t2 b (r2 b hb),?_⟩,fun s c z=>r4 s c (t4 s c z)⟩,fun hl=>?_⟩
    ·unfold aK; exact⟨v,vs',rfl,r3.mono t2 Fz.refl,t3⟩
    ·simp only [List.all_cons, Bool.and_eq_true] at hl ⊢
     exact⟨r5 hl.1,t5 hl.2⟩
   ·cases e
  ·cases e
theorem yq:∀(k:Nat) (a:AV) (F:Nat→Prop) (G:Tr Bx) (d:D) (G':Tr Bx) (v:Value),Rs n0 H0 F0 σ F H n G→VRel σ F H a v→fzV k a G=some (d,G') →
  FzOk n0 H0 F0 σ F H n G G' (fun F'=>DRel F' H d v)∧(oq a=true→bk d=true):=by
 intro k
 induction k with
 | zero=>
  intro a F G d G' v h hv e
  cases a with
  | d x=>
   simp only[fzV,Option.some.injEq,Prod.mk.injEq] at e
   obtain⟨rfl,rfl⟩:=e
   unfold VRel at hv
   exact⟨⟨⟨F,h,fun _ z=>z,hv⟩,fun _ _ z=>z⟩,fun z=>z⟩
  | osl s=>simp only[fzV] at e; have:=fzO_ok h hv e; exact⟨this.1,fun _=>this.2⟩
  | mp s=>simp only[fzV] at e; have:=fzM_ok h hv e; exact⟨this.1,fun _=>this.2⟩
  | asl s o m c=>simp only[fzV] at e; have:=fzR_ok h hv e; exact⟨this.1,fun _=>this.2⟩
  | b c=>
   simp only[fzV,Option.some.injEq,Prod.mk.injEq] at e
   obtain⟨rfl,rfl⟩:=e
   unfold VRel at hv
   exact⟨⟨⟨F,h,fun _ z=>z,by unfold DRel; exact⟨hv,rfl⟩⟩,fun _ _ z=>z⟩,fun _=>rfl⟩
  | _=>simp [fzV] at e
 | succ k ih=>
  intro a F G d G' v h hv e
  cases a with
  | d x=>
   simp only[fzV,Option.some.injEq,Prod.mk.injEq] at e
   obtain⟨rfl,rfl⟩:=e
   unfold VRel at hv
   exact⟨⟨⟨F,h,fun _ z=>z,hv⟩,fun _ _ z=>z⟩,fun z=>z⟩
  | osl s=>simp only[fzV] at e; have:=fzO_ok h hv e; exact⟨this.1,fun _=>this.2⟩
  | elo s i o=>simp [fzV] at e
  | mp s=>simp only[fzV] at e; have:=fzM_ok h hv e; exact⟨this.1,fun _=>this.2⟩
  | asl s o m c=>simp only[fzV] at e; have:=fzR_ok h hv e; exact⟨this.1,fun _=>this.2⟩
  | bad=>simp [fzV] at e
  | b c=>
   simp only[fzV,Option.some.injEq,Prod.mk.injEq] at e
   obtain⟨rfl,rfl⟩:=e
   unfold VRel at hv
   exact⟨⟨⟨F,h,fun _ z=>z,by unfold DRel; exact⟨hv,rfl⟩⟩,fun _ _ z=>z⟩,fun _=>rfl⟩
  | und=>simp [fzV] at e
  | agg l=>
   simp only[fzV,fzG] at e
   split at e
   ·rename_i ds G1 e1
    simp only[Option.some.injEq,Prod.mk.injEq] at e
    obtain⟨rfl,rfl⟩:=e
    unfold VRel at hv
    obtain⟨hl,vs,rfl,hv⟩:=hv
    obtain⟨⟨⟨F1,r1,r2,r3⟩,r4⟩,r5⟩:=zQ ih l F G ds G1 vs h hv e1
    exact⟨⟨⟨F1,r1,r2,by unfold DRel; exact⟨r5 hl,vs,rfl,r3⟩⟩,r4⟩,fun z=>by cases z⟩
   ·cases e
  | fn f a b=>
   simp only[fzV,fzF] at e
   split at e
   ·rename_i da G1 e1
    split at e
    ·rename_i db G2 e2
     simp only[Option.some.injEq,Prod.mk.injEq] at e
     obtain⟨rfl,rfl⟩:=e
     unfold VRel at hv
     obtain⟨va,vb,rfl,hva,hvb⟩:=hv
     obtain⟨⟨⟨F1,r1,r2,r3⟩,r4⟩,_⟩:=zQ ih a F G da G1 va h hva e1
     obtain⟨⟨⟨F2,t1,t2,t3⟩,t4⟩,_⟩:=zQ ih b F1 G1 db G2 vb r1 (hvb.mono (fun _ _ z=>z) r2 Fz.refl) e2
     exact⟨⟨⟨F2,t1,fun b hb=>t2 b (r2 b hb),by unfold DRel; exact⟨va,vb,rfl,r3.mono t2 Fz.refl,t3⟩⟩,fun s c z=>r4 s c (t4 s c z)⟩,fun _=>rfl⟩
    ·cases e
   ·cases e
  | loc s o=>
   simp only[fzV,fzS] at e
   unfold VRel at hv
   obtain⟨i,hi,hnil,rfl⟩:=hv
   split at e
   ·rename_i c fz hg
    simp only[Option.some.injEq,Prod.mk.injEq] at e
    obtain⟨rfl,rfl⟩:=e
    obtain⟨j,hj,hB⟩:=h.site _ _ hg
    rw[hi] at hj; cases hj
    obtain⟨b1,b2,b3,cs,el,vec,b4,b5⟩:=hB
    have hF:∀ b,F b→(F b∨(i.nil=false∧b=i.b)):=fun b z=>.inl z
    refine⟨⟨⟨_,h.frz (B':=.dat c true) hi (fun hF=>⟨b1,⟨fun _=>rfl,fun _=>.inr ⟨hnil,rfl⟩⟩,b3,cs,el,vec,b4,b5.mono hF Fz.refl⟩),hF,?_⟩,?_⟩,fun _=>rfl⟩
    ·unfold DRel
     have hd:=(DAt.of_cells (b5.mono hF Fz.refl) (IJ b4) b3).drop o
     refine⟨by rw[List.all_eq_true] at b3 ⊢; exact fun x hx=>b3 x (List.mem_of_mem_drop hx),i.b,o,rfl,.inr ⟨hnil,rfl⟩,?_⟩
     simpa using hd
    ·intro s' c' e
     rw[Tr.get_set] at e
     split at e
     ·cases e
     ·exact e
   ·rename_i l hg
    split at e
    ·rename_i ds G1 e1
     split at e
     ·rename_i l2 hg2
      simp only[Option.some.injEq,Prod.mk.injEq] at e
      obtain⟨rfl,rfl⟩:=e
      obtain⟨j,hj,hB⟩:=h.site _ _ hg
      rw[hi] at hj; cases hj
      obtain⟨b1,b2,b3,cs,el,vec,b4,b5⟩:=hB
      obtain⟨⟨⟨F1,r1,r2,r3⟩,r4⟩,r5⟩:=zQ ih l F G ds G1 cs h b5 e1
      have hF:∀ b,F1 b→(F1 b∨(i.nil=false∧b=i.b)):=fun b z=>.inl z
      refine⟨⟨⟨_,r1.frz (B':=.dat ds true) hi (fun hF=>⟨b1,⟨fun _=>rfl,fun _=>.inr ⟨hnil,rfl⟩⟩,r5 b3,cs,el,vec,b4,r3.mono hF Fz.refl⟩),fun b z=>.inl (r2 b z),?_⟩,?_⟩,fun _=>rfl⟩
      ·unfold DRel
       have hd:=(DAt.of_cells (r3.mono hF Fz.refl) (IJ b4) (r5 b3)).drop o
       refine⟨by have:=r5 b3; rw[List.all_eq_true] at this ⊢; exact fun x hx=>this x (List.mem_of_mem_drop hx),i.b,o,rfl,.inr ⟨hnil,rfl⟩,?_⟩
       simpa using hd
      ·intro s' c' e
       rw[Tr.get_set] at e
       split at e
       ·cases e
       ·exact r4 s' c' e
     ·cases e
    ·cases e
   ·cases e
structure Cu where
 frz:List Nat
 own:List (Nat × Nat × TypeId × Nat)
 cel:List (Nat × Nat × Nat × TypeId × Nat)
 fzs:List Nat
 tmps:List Nat
 sites:List Nat
noncomputable def memN(M:List Nat)(s:Nat):Bool:=match M with
 | []=>false
 | x::l=>match Nat.beq x s with
  | true=>true
  | false=>memN l s
noncomputable def ownV(s:Nat)(e:TypeId)(sz:Nat)(a:AV)(G:Tr Bx):Option (Tr Bx):=match a with
 | .osl s'=>match Nat.beq s' s with
  | true=>some G
  | false=>none
 | .d (.v (.slice none 0 0))=>match G.get s,Nat.ble 1 sz with
  | none,true=>some (G.set s (some (.vec [] e sz false)))
  | _,_=>none
 | _=>none
noncomputable def cuFrz:List Nat→Tr AV→Tr Bx→Option (Tr AV × Tr Bx)
 | [],A,G=>some (A,G)
 | t::l,A,G=>match A.get t with
  | some a=>match fzV 9 a G with
   | some (d,G1)=>cuFrz l (A.set t (some (.d d))) G1
   | none=>none
  | none=>none
noncomputable def cuOwn:List (Nat × Nat × TypeId × Nat)→Tr AV→Tr Bx→Option (Tr AV × Tr Bx)
 | [],A,G=>some (A,G)
 | (t,s,e,sz)::l,A,G=>match A.get t with
  | some a=>match ownV s e sz a G with
   | some G1=>cuOwn l (A.set t (some (.osl s))) G1
   | none=>none
  | none=>none
noncomputable def celsA:Bx→Option (List AV)
 | .box l=>some l
 | .dat l false=>some (l.map .d)
 | _=>none
noncomputable def cuCel:List (Nat × Nat × Nat × TypeId × Nat)→Tr Bx→Option (Tr Bx)
 | [],G=>some G
 | (b,j,s,e,sz)::l,G=>match G.get b with
  | some B=>match celsA B with
   | some cs=>match cs[j]? with
    | some a=>match ownV s e sz a G with
     | some G1=>match Nat.beq s b with
      | true=>none
      | false=>cuCel l (G1.set b (some (.box (cs.set j (.osl s)))))
     | none=>none
    | none=>none
   | none=>none
  | none=>none
noncomputable def cuA(Q:Nat→Bool)(A:Tr AV):List Nat→Option (Tr AV)
 | []=>some .nil
 | t::l=>match cuA Q A l with
  | some A'=>match A.get t with
   | some a=>match okA Q a with
    | true=>some (A'.set t (some a))
    | false=>none
   | none=>some A'
  | none=>none
noncomputable def cuG(Q:Nat→Bool)(G:Tr Bx):List Nat→Option (Tr Bx)
 | []=>some .nil
 | s::l=>match cuG Q G l with
  | some G'=>match G.get s with
   | some B=>match okB Q B with
    | true=>some (G'.set s (some B))
    | false=>none
   | none=>some G'
  | none=>none
noncomputable def cuFzs:List Nat→Tr Bx→Option (Tr Bx)
 | [],G=>some G
 | s::l,G=>match G.get s with
  | some (.vec _ _ _ _)=>match fzO s G with
   | some (_,G1)=>cuFzs l G1
   | none=>none
  | some (.map _ _ _)=>match fzM s G with
   | some (_,G1)=>cuFzs l G1
   | none=>none
  | some _=>match fzV 9 (.loc s 0) G with
   | some (_,G1)=>cuFzs l G1
   | none=>none
  | none=>none
noncomputable def cutA(c:Cu)(A:Tr AV)(G:Tr Bx):Option (Tr AV × Tr Bx):=match cuFrz c.frz A G with
 | some (A1, G1) => match cuOwn c.own A1 G1 with
  | some (A2,G2)=>match cuCel c.cel G2 with
   | some G3=>match cuFzs c.fzs G3 with
    | some G5=>match cuA (memN c.sites) A2 c.tmps,cuG (memN c.sites) G5 c.sites with
     | some A4,some G4=>some (A4,G4)
     | _,_=>none
    | none=>none
   | none=>none
  | none=>none
 | none=>none
noncomputable def TRl(σ:Nat→Option Si)(F:Nat→Prop)(H:Hp)(T:Tm)(A:Tr AV):Prop:=∀ t a,A.get t=some a→∃ v,T.get t=some v∧VRel σ F H a v
variable {T:Tm} {A A':Tr AV}
theorem TRl.mono(h:TRl σ F H T A)(hσ:∀ s i,σ s=some i→σ' s=some i)(hF:∀ b,F b→F' b)(hH:Fz F H H'):TRl σ' F' H' T A:=fun t a e=>by
 obtain⟨v,h1,h2⟩:=h t a e
 exact⟨v,h1,h2.mono hσ hF hH⟩
theorem TRl.set(h:TRl σ F H T A){t:Nat}{a:AV}{v:Value}(hv:T.get t=some v)(ha:VRel σ F H a v):TRl σ F H T (A.set t (some a)):=fun s b e=>by
 rw[Tr.get_set] at e
 by_cases q:s=t
 ·rw[if_pos q] at e; cases e; subst q; exact⟨v,hv,ha⟩
 ·rw[if_neg q] at e; exact h s b e
theorem cuFrz_ok:∀(l:List Nat) (F:Nat→Prop) (A:Tr AV) (G:Tr Bx) (A':Tr AV) (G':Tr Bx),Rs n0 H0 F0 σ F H n G→TRl σ F H T A→cuFrz l A G=some (A',G') →
  ∃ F',Rs n0 H0 F0 σ F' H n G'∧TRl σ F' H T A'
 | [],F,A,G,A',G',h,ht,e=>by
  simp only[cuFrz,Option.some.injEq,Prod.mk.injEq] at e
  obtain⟨rfl,rfl⟩:=e
  exact⟨F,h,ht⟩
 | t::l,F,A,G,A',G',h,ht,e=>by
  simp only[cuFrz] at e
  split at e
  ·rename_i a ha
   split at e
   ·rename_i d G1 e1
    obtain⟨v,hv1,hv2⟩:=ht t a ha
    obtain⟨⟨⟨F1,r1,r2,r3⟩,_⟩,_⟩:=yq 9 a F G d G1 v h hv2 e1
    exact cuFrz_ok l F1 _ G1 A' G' r1 ((ht.mono (fun _ _ z=>z) r2 Fz.refl).set hv1 (by unfold VRel; exact r3)) e
   ·cases e
  ·cases e
theorem ownV_ok{s:Nat}{e:TypeId}{sz:Nat}{a:AV}{v:Value}(h:Rs n0 H0 F0 σ F H n G)(hv:VRel σ F H a v)(he:ownV s e sz a G=some G') :
  ∃ σ',Rs n0 H0 F0 σ' F H n G'∧(∀ x i,σ x=some i→σ' x=some i)∧VRel σ' F H (.osl s) v∧∀ x,x≠s→G'.get x=G.get x:=by
 unfold ownV at he
 split at he
 ·rename_i s'
  split at he
  ·rename_i q
   cases he
   have:=Nat.eq_of_beq_eq_true q; subst this
   exact⟨σ,h,fun _ _ z=>z,hv,fun _ _=>rfl⟩
  ·cases he
 ·split at he
  ·rename_i hg hsz
   cases he
   have hnone:σ s=none:=by
    cases q:σ s with
    | none=>rfl
    | some i=>obtain⟨B,hB⟩:=h.back s i q; rw[hg] at hB; cases hB
   unfold VRel DRel at hv
   obtain⟨rfl,_⟩:=hv
   have:=h.put (H':=H) (n':=n) (s:=s) (i':=⟨0,0,0,sz,true,.nil⟩) (B':=.vec [] e sz false) (Nat.le_refl _) (fun _ _ _=>rfl) (fun _ _ _=>.inr rfl) (fun z=>by cases z) (.inl hnone)
    (fun _=>⟨rfl,rfl,Nat.le_of_ble_eq_true hsz,.inl ⟨rfl,rfl⟩⟩)
   refine⟨_,this.2,fun x i hx=>by rw[fw (fun z=>by subst z; rw[hnone] at hx; cases hx)]; exact hx,?_,fun x hx=>by rw[Tr.get_set,if_neg hx]⟩
   unfold VRel
   exact⟨_,eV,.inl ⟨rfl,rfl⟩⟩
  ·cases he
 ·cases he
theorem cuOwn_ok:∀(l:List (Nat × Nat × TypeId × Nat)) (σ:Nat→Option Si) (A:Tr AV) (G:Tr Bx) (A':Tr AV) (G':Tr Bx),Rs n0 H0 F0 σ F H n G→TRl σ F H T A→cuOwn l A G=some (A',G') →
  ∃ σ',Rs n0 H0 F0 σ' F H n G'∧TRl σ' F H T A'
 | [],σ,A,G,A',G',h,ht,e=>by
  simp only[cuOwn,Option.some.injEq,Prod.mk.injEq] at e
  obtain⟨rfl,rfl⟩:=e
  exact⟨σ,h,ht⟩
 | (t,s,el,sz)::l,σ,A,G,A',G',h,ht,e=>by
  simp only[cuOwn] at e
  split at e
  ·rename_i a ha
   split at e
   ·rename_i G1 e1
    obtain⟨v,hv1,hv2⟩:=ht t a ha
    obtain⟨σ1,r1,r2,r3,_⟩:=ownV_ok h hv2 e1
    exact cuOwn_ok l σ1 _ G1 A' G' r1 ((ht.mono r2 (fun _ z=>z) Fz.refl).set hv1 r3) e
   ·cases e
  ·cases e
theorem all_set{p:AV→Bool}:∀ {l:List AV} {j:Nat} {a:AV},l.all p=true→p a=true→(l.set j a).all p=true
 | [],_,_,h,_=>h
 | x::l,0,a,h,g=>by simp only[List.set_cons_zero,List.all_cons,Bool.and_eq_true] at h ⊢; exact⟨g,h.2⟩
 | x::l,j+1,a,h,g=>by simp only[List.set_cons_succ,List.all_cons,Bool.and_eq_true] at h ⊢; exact⟨h.1,all_set h.2 g⟩
theorem bQ.set_same:∀ {l:List AV} {vs:List Value} {j:Nat} {a:AV} {v:Value},bQ σ F H l vs→vs[j]?=some v→VRel σ F H a v→bQ σ F H (l.set j a) vs
 | [],vs,j,a,v,h,e,g=>by unfold bQ at h; subst h; cases e
 | x::l,vs,j,a,v,h,e,g=>by
  unfold bQ at h
  obtain⟨u,vs',rfl,h1,h2⟩:=h
  cases j with
  | zero=>cases e; simp only[List.set_cons_zero,bQ]; exact⟨_,_,rfl,g,h2⟩
  | succ j=>simp only[List.set_cons_succ,bQ]; exact⟨_,_,rfl,h1,bQ.set_same h2 e g⟩
theorem celsA_ok{i:Si}{B:Bx}{cs:List AV}(h:BRel σ F H i B)(e:celsA B=some cs) :
  i.nil=false∧¬ F i.b∧cs.all oq=true∧∃ c e vec,H.get i.b=some (.cells c e false vec)∧bQ σ F H cs c:=by
 cases B with
 | dat l fz=>
  cases fz with
  | true=>cases e
  | false=>
   cases e
   obtain⟨h1,h2,h3,c,e,vec,h4,h5⟩:=h
   refine⟨h1,fun z=>(by have:=h2.1 z; cases this),?_,c,e,vec,h4,bQ.of_D h5⟩
   rw[List.all_map]; exact h3
 | box l=>cases e; exact h
 | vec _ _ _ _=>cases e
 | map _ _ _=>cases e
 | env _=>cases e
theorem cuCel_ok:∀(l:List (Nat × Nat × Nat × TypeId × Nat)) (σ:Nat→Option Si) (G G':Tr Bx),Rs n0 H0 F0 σ F H n G→TRl σ F H T A→cuCel l G=some G' →
  ∃ σ',Rs n0 H0 F0 σ' F H n G'∧TRl σ' F H T A
 | [],σ,G,G',h,ht,e=>by
  simp only[cuCel,Option.some.injEq] at e
  subst e
  exact⟨σ,h,ht⟩
 | (b,j,s,el,sz)::l,σ,G,G',h,ht,e=>by
  simp only[cuCel] at e
  split at e
  ·rename_i B hB
   split at e
   ·rename_i cs hcs
    split at e
    ·rename_i a ha
     split at e
     ·rename_i G1 e1
      split at e
      ·cases e
      ·rename_i hne
       have hsb:b≠s:=by rintro rfl; simp at hne
       obtain⟨i,hi,hBR⟩:=h.site b B hB
       obtain⟨c1,c2,c3,c,e',vec,c4,c5⟩:=celsA_ok hBR hcs
       obtain⟨v,hv1,hv2⟩:=c5.get ha
       obtain⟨σ1,r1,r2,r3,_⟩:=ownV_ok h hv2 e1
       have hi1:=r2 _ _ hi
       have:=r1.put (H':=H) (n':=n) (s:=b) (i':=i) (B':=.box (cs.set j (.osl s))) (Nat.le_refl _) (fun _ _ _=>rfl) (fun _ _ _=>.inr rfl) (fun z=>.inr ⟨i,hi1,z,rfl⟩) (.inr (.inl hi1)) (by
        intro hfz
        have hup:upd σ1 b i=σ1:=by
         funext x; unfold upd; split
         ·rename_i q; rw[q,hi1]
         ·rfl
        rw[hup]
        refine⟨c1,c2,all_set c3 rfl,c,e',vec,c4,?_⟩
        exact(c5.mono r2 (fun _ z=>z) Fz.refl).set_same hv1 r3)
       have hup:upd σ1 b i=σ1:=by
        funext x; unfold upd; split
        ·rename_i q; rw[q,hi1]
        ·rfl
       rw[hup] at this
       exact cuCel_ok l σ1 _ G' this.2 (ht.mono r2 (fun _ z=>z) Fz.refl) e
     ·cases e
    ·cases e
   ·cases e
  ·cases e
theorem Pv:∀(l:List Nat) (F:Nat→Prop) (G G':Tr Bx),Rs n0 H0 F0 σ F H n G→TRl σ F H T A→cuFzs l G=some G'→∃ F',Rs n0 H0 F0 σ F' H n G'∧TRl σ F' H T A
 | [],F,G,G',h,ht,e=>by
  simp only[cuFzs,Option.some.injEq] at e
  subst e
  exact⟨F,h,ht⟩
 | s::l,F,G,G',h,ht,e=>by
  simp only[cuFzs] at e
  split at e
  ·rename_i els el sz fz hg
   split at e
   ·rename_i d G1 e1
    obtain⟨i,hi,hB⟩:=h.site _ _ hg
    have hv:∃ v,VRel σ F H (.osl s) v:=by
     cases hn:i.nil with
     | true=>exact⟨_,by unfold VRel; exact⟨i,hi,.inl ⟨hn,rfl⟩⟩⟩
     | false=>exact⟨_,by unfold VRel; exact⟨i,hi,.inr ⟨hn,rfl⟩⟩⟩
    obtain⟨v,hv⟩:=hv
    obtain⟨⟨⟨F1,r1,r2,r3⟩,_⟩,_⟩:=fzO_ok h hv e1
    exact Pv l F1 G1 G' r1 (ht.mono (fun _ _ z=>z) r2 Fz.refl) e
   ·cases e
  ·rename_i es c fz hg
   split at e
   ·rename_i d G1 e1
    obtain⟨i,hi,hB⟩:=h.site _ _ hg
    have hv:VRel σ F H (.mp s) (.map (some i.b)):=by unfold VRel; exact⟨i,hi,hB.1,rfl⟩
    obtain⟨⟨⟨F1,r1,r2,r3⟩,_⟩,_⟩:=fzM_ok h hv e1
    exact Pv l F1 G1 G' r1 (ht.mono (fun _ _ z=>z) r2 Fz.refl) e
   ·cases e
  ·rename_i B hne hnm hg
   split at e
   ·rename_i d G1 e1
    obtain⟨i,hi,hB⟩:=h.site _ _ hg
    have hnil:i.nil=false:=by
     cases B with
     | dat c fz=>exact hB.1
     | box c=>exact hB.1
     | vec a b c d=>exact(hne a b c d rfl).elim
     | map a b c=>exact(hnm a b c rfl).elim
     | env l=>simp [fzV,fzS,hg] at e1
    have hv:VRel σ F H (.loc s 0) (.pointer (some ⟨i.b,0,none⟩)):=by unfold VRel; exact⟨i,hi,hnil,rfl⟩
    obtain⟨⟨⟨F1,r1,r2,r3⟩,_⟩,_⟩:=yq 9 (.loc s 0) F G d G1 _ h hv e1
    exact Pv l F1 G1 G' r1 (ht.mono (fun _ _ z=>z) r2 Fz.refl) e
   ·cases e
  ·cases e
theorem cuA_ok:∀ {l:List Nat} {A':Tr AV},cuA Q A l=some A'→∀ t a,A'.get t=some a→A.get t=some a∧okA Q a=true
 | [],A',e,t,a,h=>by cases e; rw[Tr.get_nil] at h; cases h
 | x::l,A',e,t,a,h=>by
  simp only[cuA] at e
  split at e
  ·rename_i A1 e1
   split at e
   ·rename_i b hb
    split at e
    ·rename_i hok
     cases e
     rw[Tr.get_set] at h
     by_cases q:t=x
     ·rw[if_pos q] at h; cases h; subst q; exact⟨hb,hok⟩
     ·rw[if_neg q] at h; exact cuA_ok e1 t a h
    ·cases e
   ·cases e; exact cuA_ok e1 t a h
  ·cases e
theorem cuG_ok:∀ {l:List Nat} {G':Tr Bx},cuG Q G l=some G'→(∀ s B,G'.get s=some B→G.get s=some B∧okB Q B=true)∧∀ s B,memN l s=true→G.get s=some B→G'.get s=some B
 | [],G',e=>by
  cases e
  exact⟨fun s B h=>(by rw[Tr.get_nil] at h; cases h),fun s B h=>(by cases h)⟩
 | x::l,G',e=>by
  simp only[cuG] at e
  split at e
  ·rename_i G1 e1
   have ih:=cuG_ok e1
   split at e
   ·rename_i b hb
    split at e
    ·rename_i hok
     cases e
     refine⟨fun s B h=>?_,fun s B hm h=>?_⟩
     ·rw [Tr.get_set] at h
      by_cases q:s=x
      ·rw[if_pos q] at h; cases h; subst q; exact⟨hb,hok⟩
      ·rw[if_neg q] at h; exact ih.1 s B h
     ·rw [Tr.get_set]
      by_cases q:s=x
      ·rw[if_pos q]; subst q; rw[hb] at h; exact h
      ·rw [if_neg q]
       refine ih.2 s B ?_ h
       simp only[memN] at hm
       split at hm
       ·rename_i z; exact absurd (Nat.eq_of_beq_eq_true z).symm q
       ·exact hm
    ·cases e
   ·rename_i hb
    cases e
    refine⟨ih.1,fun s B hm h=>?_⟩
    refine ih.2 s B ?_ h
    simp only[memN] at hm
    split at hm
    ·rename_i z; have:=Nat.eq_of_beq_eq_true z; subst this; rw[hb] at h; cases h
    ·exact hm
  ·cases e
theorem cutA_ok{c:Cu}(h:Rs n0 H0 F0 σ F H n G)(ht:TRl σ F H T A)(e:cutA c A G=some (A',G')):∃ σ' F',Rs n0 H0 F0 σ' F' H n G'∧TRl σ' F' H T A':=by
 unfold cutA at e
 split at e
 ·rename_i A1 G1 e1
  obtain⟨F1,r1,r2⟩:=cuFrz_ok _ F A G A1 G1 h ht e1
  split at e
  ·rename_i A2 G2 e2
   obtain⟨σ2,r3,r4⟩:=cuOwn_ok _ σ A1 G1 A2 G2 r1 r2 e2
   split at e
   ·rename_i G3 e3
    obtain⟨σ3,r5,r6⟩:=cuCel_ok _ σ2 G2 G3 r3 r4 e3
    split at e
    ·rename_i G5 e6
     obtain⟨F1,r5,r6⟩:=Pv _ F1 G3 G5 r5 r6 e6
     split at e
     case h_2=>cases e
     rename_i A4 G4 e4 e5
     simp only[Option.some.injEq,Prod.mk.injEq] at e
     obtain⟨rfl,rfl⟩:=e
     have hA:=cuA_ok e4
     have hG:=cuG_ok e5
     let σ4:Nat→Option Si:=fun s=>match G4.get s with
      | some _=>σ3 s
      | none=>none
     have up:∀ s i,σ4 s=some i→σ3 s=some i∧∃ B,G4.get s=some B:=by
      intro s i q
      simp only[σ4] at q
      split at q
      ·rename_i B hB; exact⟨q,B,hB⟩
      ·cases q
     have dn:∀ s i,memN c.sites s=true→σ3 s=some i→σ4 s=some i:=by
      intro s i hm q
      obtain⟨B,hB⟩:=r5.back s i q
      simp only[σ4,hG.2 s B hm hB]
      exact q
     refine⟨σ4,F1,⟨r5.le,r5.keep,r5.sub,r5.fin,r5.low,?_,fun s i q=>(up s i q).2,fun s i q=>r5.own s i (up s i q).1,fun s s' i j q q'=>r5.inj s s' i j (up s i q).1 (up s' j q').1,fun s i q=>r5.ownC s i (up s i q).1,r5.finC,r5.fs,fun s l e i q=>r5.tms s l (hG.1 s _ e).1 i (up s i q).1⟩,?_⟩
     ·intro s B hB
      obtain⟨hB3,hok⟩:=hG.1 s B hB
      obtain⟨i,hi,hBR⟩:=r5.site s B hB3
      refine⟨i,by simp only[σ4,hB]; exact hi,hBR.only (Q:=memN c.sites) dn (fun _ z=>z) (fun _ z=>z) Fz.refl (fun _=>rfl) hok⟩
     ·intro t a hta
      obtain⟨q1,q2⟩:=hA t a hta
      obtain⟨v,q3,q4⟩:=r6 t a q1
      exact⟨v,q3,VRel.only (Q:=memN c.sites) dn (fun _ z=>z) Fz.refl a v q2 q4⟩
    ·cases e
   ·cases e
  ·cases e
 ·cases e
end Go.Ev
end
