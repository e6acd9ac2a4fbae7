import Derived.ChangeArms
import Derived.Test.YtcjnaeimeilomaaGreatC6
set_option linter.unusedVariables false
section
namespace Go.Ev
open Go
variable {σ σ':Nat→Option Si} {F F' F0:Nat→Prop} {H H':Hp} {ρ:Type} {H0:KI ρ} {n n' n0:Nat} {G G':Tr Bx} {T:Tm} {A A':Tr AV} {P:Program}
 {cal:Cal} {pc:FuncId→List D→Option D}
inductive LvA where
 | leaf
 | node (cut:Option Cu) (a b:LvA)
noncomputable def LvA.c:LvA→Option Cu
 | .leaf=>none
 | .node c _ _=>c
noncomputable def LvA.a:LvA→LvA
 | .leaf=>.leaf
 | .node _ a _=>a
noncomputable def LvA.b:LvA→LvA
 | .leaf=>.leaf
 | .node _ _ b=>b
abbrev KA:=Tr AV→Tr Bx→Option D
noncomputable def labA(k:KA):KA:=fun A G=>k A G
noncomputable def bK(c:Option Cu)(k:KA):KA:=match c with
 | none=>k
 | some c=>fun A G=>getK (cutA c A G) fun r=>labA k r.1 r.2
noncomputable def ifA(x:AV)(p q:Option D):Option D:=match x with
 | .b true=>p
 | .b false=>q
 | .d u=>ifU u p q
 | _=>none
noncomputable def upA(id:Nat)(K:KA)(X:Nat→KA):Nat→KA:=fun i=>match Nat.beq i id with
 | true=>K
 | false=>X i
abbrev LpA:=LvA→Code→KA→(Nat→KA)→KA→KA
abbrev RK:=LvA→FuncId→AV→List Tmp→Code→Code→KA→(Nat→KA)→KA→KA
noncomputable def noR:RK:=fun _ _ _ _ _ _ _ _ _ _ _=>none
noncomputable def bx(P:Program)(pc:FuncId→List D→Option D)(yk:YK)(rk:RK)(lp:LpA)(f:FuncId):Code→LvA→KA→(Nat→KA)→KA→KA
 | .skip,_,K,_,_=>K
 | .label _,_,K,_,_=>K
 | .ret,_,_,_,Kr=>Kr
 | .exit id,_,_,X,_=>X id
 | .seq a b,lv,K,X,Kr=>bx P pc yk rk lp f a lv.a (bK lv.c (bx P pc yk rk lp f b lv.b K X Kr)) X Kr
 | .cond c a b,lv,K,X,Kr=>fun A G=>getK (opdA c A) fun v=>ifA v (bx P pc yk rk lp f a lv.a K X Kr A G) (bx P pc yk rk lp f b lv.b K X Kr A G)
 | .block id c,lv,K,X,Kr=>bx P pc yk rk lp f c lv.a K (upA id K X) Kr
 | .scope c,lv,K,X,Kr=>bx P pc yk rk lp f c lv.a K X Kr
 | .loop c,lv,K,X,Kr=>bK lv.c (bx P pc yk rk lp f c lv.a (bK lv.c (lp lv (.loop c) K X Kr)) X Kr)
 | .region _ ops false,_,K,_,_=>fun A G=>opsA P pc yk (ntm P f) ops.toList ops.toList A G K
 | .region _ ops true,_,K,_,_=>fun A G=>drawA P pc yk (ntm P f) ops.toList A G K
 | .rangeFunc x ps aS bd,lv,K,X,Kr=>bK lv.c fun A G=>getK (opdA x A) fun a=>rk lv f a ps.toList aS bd K X Kr A G
 | _,_,_,_,_=>fun _ _=>none
noncomputable def aq(P:Program)(pc:FuncId→List D→Option D)(yk:YK)(rk:RK)(f:FuncId):Nat→LpA
 | 0=>fun _ _ _ _ _ _ _=>none
 | k+1=>fun lv c K X Kr=>bx P pc yk rk (aq P pc yk rk f k) f c lv K X Kr
def KS(n0:Nat)(Fam:KI ρ→Prop)(F0:Nat→Prop)(K:KC ρ)(k:KA):Prop:=
 ∀ H0,Fam H0→∀ σ F H n T A G,Rs n0 H0 F0 σ F H n G→TRl σ F H T A→Out n0 H0 F0 (K T H n H0.ds) (k A G)
def RkOk(P:Program)(cal:Cal)(ro:Option Nat)(rk:RK)(n0:Nat)(Fam:KI ρ→Prop)(F0:Nat→Prop):Prop:=
 ∀ lv f ps aS bd (K:KC ρ) (X:XC ρ) (Kr:KC ρ) (k:KA) (x:Nat→KA) (kr:KA),KS n0 Fam F0 K k→(∀ i,KS n0 Fam F0 (X i) (x i))→KS n0 Fam F0 Kr kr →
  ∀ H0,Fam H0→∀ σ F H n T A G a v,Rs n0 H0 F0 σ F H n G→TRl σ F H T A→VRel σ F H a v→Out n0 H0 F0 (CZ P cal ro f v ps aS bd K X Kr T H n H0.ds) (rk lv f a ps.toList aS bd k x kr A G)
theorem Vw{ro:Option Nat}{Fam:KI ρ→Prop}:RkOk P cal ro noR n0 Fam F0:=fun _ _ _ _ _ _ _ _ _ _ _ _ _ _ _ _ _ _ _ _ _ _ _ _ _ _ _ _=>Out.no
theorem KS.cut{Fam:KI ρ→Prop}{K:KC ρ}{k:KA}(h:KS n0 Fam F0 K k)(c:Option Cu):KS n0 Fam F0 K (bK c k):=by
 cases c with
 | none=>exact h
 | some c=>
  intro H0 hH0 σ F H n T A G hR hT
  simp only[bK]
  refine Out.getK fun r hr=>?_
  obtain⟨σ',F',h1,h2⟩:=cutA_ok (A':=r.1) (G':=r.2) hR hT hr
  exact h H0 hH0 σ' F' H n T r.1 r.2 h1 h2
theorem uQ{yk:YK}{rk:RK}{ro:Option Nat}{Fam:KI ρ→Prop}(hpc:∀ f,lk (flO P f) (cal.call f) (pc f))(hy:YOk P cal yk n0 Fam F0)(hr:RkOk P cal ro rk n0 Fam F0){lp:LpE ρ}{lpA:LpA}{f:FuncId}
  (hlp:∀ lv c K X Kr k x kr,KS n0 Fam F0 K k→(∀ i,KS n0 Fam F0 (X i) (x i))→KS n0 Fam F0 Kr kr→KS n0 Fam F0 (lp .leaf ro f c K X Kr) (lpA lv c k x kr)) :
  ∀(c:Code) (lv:LvA) (K:KC ρ) (X:XC ρ) (Kr:KC ρ) (k:KA) (x:Nat→KA) (kr:KA),KS n0 Fam F0 K k→(∀ i,KS n0 Fam F0 (X i) (x i))→KS n0 Fam F0 Kr kr →
   KS n0 Fam F0 (bW P cal lp ro f c .leaf K X Kr) (bx P pc yk rk lpA f c lv k x kr)
 | .skip,lv,K,X,Kr,k,x,kr,h1,h2,h3=>h1
 | .label _,lv,K,X,Kr,k,x,kr,h1,h2,h3=>h1
 | .ret,lv,K,X,Kr,k,x,kr,h1,h2,h3=>h3
 | .exit id,lv,K,X,Kr,k,x,kr,h1,h2,h3=>h2 id
 | .seq a b,lv,K,X,Kr,k,x,kr,h1,h2,h3=>by
  simp only[bW,bx]
  exact uQ hpc hy hr hlp a lv.a _ X Kr _ x kr ((uQ hpc hy hr hlp b lv.b K X Kr k x kr h1 h2 h3).cut lv.c) h2 h3
 | .cond c a b,lv,K,X,Kr,k,x,kr,h1,h2,h3=>by
  have ha:=uQ hpc hy hr hlp a lv.a K X Kr k x kr h1 h2 h3
  have hb:=uQ hpc hy hr hlp b lv.b K X Kr k x kr h1 h2 h3
  intro H0 hH0 σ F H n T A G hR hT
  simp only[bW,bx]
  refine Out.getK fun v hv=>?_
  obtain⟨u,u1,u2⟩:=oz hT hv
  rw[u1,bX]
  unfold ifA
  split
  ·unfold VRel at u2; subst u2; exact ha H0 hH0 σ F H n T A G hR hT
  ·unfold VRel at u2; subst u2; exact hb H0 hH0 σ F H n T A G hR hT
  ·have u2 := u2.un
   unfold ifU
   split
   ·unfold DRel at u2; rw[u2.1]; exact ha H0 hH0 σ F H n T A G hR hT
   ·unfold DRel at u2; rw[u2.1]; exact hb H0 hH0 σ F H n T A G hR hT
   ·exact Out.no
  ·exact Out.no
 | .block id c,lv,K,X,Kr,k,x,kr,h1,h2,h3=>by
  simp only[bW,bx]
  refine uQ hpc hy hr hlp c lv.a K _ Kr k _ kr h1 (fun i=>?_) h3
  unfold upX upA
  cases Nat.beq i id with
  | true=>exact h1
  | false=>exact h2 i
 | .scope c,lv,K,X,Kr,k,x,kr,h1,h2,h3=>by
  simp only[bW,bx]
  exact uQ hpc hy hr hlp c lv.a K X Kr k x kr h1 h2 h3
 | .loop c,lv,K,X,Kr,k,x,kr,h1,h2,h3=>by
  simp only[bW,bx]
  exact(uQ hpc hy hr hlp c lv.a _ X Kr _ x kr ((hlp lv (.loop c) K X Kr k x kr h1 h2 h3).cut lv.c) h2 h3).cut lv.c
 | .region id ops false,lv,K,X,Kr,k,x,kr,h1,h2,h3=>by
  intro H0 hH0 σ F H n T A G hR hT
  simp only[bW,bx]
  exact PV hpc (hy.fix H0.ds) (K:=fun T H n=>K T H n H0.ds) (fun H1 q σ F H n T A G r1 r2=>by have:=h1 H1 q.1 σ F H n T A G r1 r2; rw[q.2] at this; exact this) ops.toList H0 ⟨hH0,rfl⟩ σ F H n T A G hR hT
 | .region id ops true,lv,K,X,Kr,k,x,kr,h1,h2,h3=>by
  intro H0 hH0 σ F H n T A G hR hT
  simp only[bW,bx]
  exact drawA_ok (Fam:=fun K=>Fam K∧K.ds=H0.ds) hpc (hy.fix H0.ds) (K:=fun T H n=>K T H n H0.ds) (fun H1 q σ F H n T A G r1 r2=>by have:=h1 H1 q.1 σ F H n T A G r1 r2; rw[q.2] at this; exact this) ⟨hH0,rfl⟩ hR hT
 | .rangeFunc y ps aS bd,lv,K,X,Kr,k,x,kr,h1,h2,h3=>by
  simp only[bW,bx]
  refine KS.cut ?_ lv.c
  intro H0 hH0 σ F H n T A G hR hT
  refine Out.getK fun a ha=>?_
  obtain⟨v,v1,v2⟩:=oz hT ha
  show Out n0 H0 F0 (getK (opd y T) fun v=>CZ P cal ro f v ps aS bd K X Kr T H n H0.ds) _
  rw[v1,bX]
  exact hr lv f ps aS bd K X Kr k x kr h1 h2 h3 H0 hH0 σ F H n T A G a v hR hT v2
 | .goto _,lv,K,X,Kr,k,x,kr,h1,h2,h3=>fun _ _ _ _ _ _ _ _ _ _ _=>Out.no
 | .refuse _,lv,K,X,Kr,k,x,kr,h1,h2,h3=>fun _ _ _ _ _ _ _ _ _ _ _=>Out.no
theorem IY{yk:YK}{rk:RK}{ro:Option Nat}{Fam:KI ρ→Prop}(hpc:∀ f,lk (flO P f) (cal.call f) (pc f))(hy:YOk P cal yk n0 Fam F0)(hr:RkOk P cal ro rk n0 Fam F0){f:FuncId}:∀(m:Nat) lv c K X Kr k x kr,KS n0 Fam F0 K k→(∀ i,KS n0 Fam F0 (X i) (x i))→KS n0 Fam F0 Kr kr→KS n0 Fam F0 (aY P cal m .leaf ro f c K X Kr) (aq P pc yk rk f m lv c k x kr)
 | 0,_,_,_,_,_,_,_,_,_,_,_=>fun _ _ _ _ _ _ _ _ _ _ _=>Out.no
 | m+1,lv,c,K,X,Kr,k,x,kr,h1,h2,h3=>uQ hpc hy hr (IY hpc hy hr m) c lv K X Kr k x kr h1 h2 h3
noncomputable def resA(P:Program)(A:Tr AV)(G:Tr Bx):List ResultVar→(List AV→Option D)→Option D
 | [],k=>k []
 | .tmp t::l,k=>getK (A.get t) fun a=>resA P A G l fun aS=>k (JV a::aS)
 | .cell a t::l,k=>getK (A.get a) fun p=>loadA P t p G fun v=>resA P A G l fun aS=>k (v::aS)
noncomputable def oneA:List D→D
 | [d]=>d
 | l=>.tup l
noncomputable def aw(P:Program)(rs:List ResultVar):KA:=fun A G=>resA P A G rs fun aS=>getK (fzL (fzV 9) aS G) fun r=>some (oneA r.1)
noncomputable def Hq:Tr AV→Nat→List D→Tr AV
 | A,_,[]=>A
 | A,i,d::l=>Hq (A.set i (some (.d d))) (i+1) l
noncomputable def cQ(P:Program)(pc:FuncId→List D→Option D)(yk:YK)(rk:RK)(L:FuncId→LvA)(m:Nat)(f:FuncId)(ds:List D):Option D:=match P.funcs[f]? with
 | none=>none
 | some fn=>match fn.body with
  | none=>none
  | some c => if fn.name == "runtime.NumGoroutine" || fn.ntmps < ds.length then none else
   aq P pc yk rk f m (L f) c (aw P fn.results.toList) (fun _ _ _=>none) (aw P fn.results.toList) (Hq .nil 0 ds) .nil
theorem resA_ok{rs:List ResultVar}{k:List AV→Option D}{K:List Value→Option ρ}(h:Rs n0 H0 F0 σ F H n G)(ht:TRl σ F H T A)(hk:∀ aS vs,bQ σ F H aS vs→Out n0 H0 F0 (K vs) (k aS)) :
  Out n0 H0 F0 (bindO (resV P T H rs) K) (resA P A G rs k):=by
 induction rs generalizing k K with
 | nil=>exact hk [] [] (by unfold bQ; rfl)
 | cons r l ih=>
  cases r with
  | tmp t=>
   simp only[resA]
   refine Out.getK fun a ha=>?_
   obtain⟨v,h1,h2⟩:=ht t a ha
   have:=ih (k:=fun aS=>k (JV a::aS)) (K:=fun vs=>K (v::vs)) (fun aS vs h3=>hk _ _ (by unfold bQ; exact⟨v,vs,rfl,yx h2,h3⟩))
   simp only[resV,h1]
   cases hr:resV P T H l with
   | none=>rw[hr] at this; exact this
   | some vs=>rw[hr] at this; exact this
  | cell a t=>
   simp only[resA]
   refine Out.getK fun p hp=>?_
   obtain⟨pv,p1,p2⟩:=ht a p hp
   have step:∀ v w,VRel σ F H w v→Out n0 H0 F0 (bindO (resV P T H l) fun vs=>K (v::vs)) (resA P A G l fun aS=>k (w::aS)):=fun v w hvw=>
    ih (k:=fun aS=>k (w::aS)) (K:=fun vs=>K (v::vs)) (fun aS vs h3=>hk _ _ (by unfold bQ; exact⟨v,vs,rfl,hvw,h3⟩))
   have:=loadA_ok (P:=P) (t:=t) (kc:=fun v=>bindO (resV P T H l) fun vs=>K (v::vs)) (ka:=fun w=>resA P A G l fun aS=>k (w::aS)) h p2 step
   simp only[resV,p1]
   cases pv with
   | pointer ad=>
    cases ad with
    | none=>exact this
    | some ad=>
     have this:Out n0 H0 F0 (bindO (az P H t ad) fun v=>bindO (resV P T H l) fun vs=>K (v::vs)) (loadA P t p G fun w=>resA P A G l fun aS=>k (w::aS)):=this
     simp only
     cases hl:az P H t ad with
     | none=>rw[hl] at this; exact this
     | some v=>
      rw[hl] at this
      simp only
      cases hr:resV P T H l with
      | none=>rw[hr] at this; exact this
      | some vs=>rw[hr] at this; exact this
   | _=>exact this
def DsOk(n0:Nat)(Fam:KI ρ→Prop)(F0:Nat→Prop):Prop:=
 ∀ H0,Fam H0→∀ σ F H n G,Rs n0 H0 F0 σ F H n G→∃ H' H0',Dz H H0.ds=some H'∧Fam H0'∧H0'.ds=[]∧Rs n0 H0' F0 σ F H' n G∧Fz F H H'∧H0.R=H0'.R
theorem dsOk_nil{Fam:KI ρ→Prop}(h:∀ K,Fam K→K.ds=[]):DsOk n0 Fam F0:=fun H0 hF σ F H n G hR=>⟨H,H0,by rw[h H0 hF]; rfl,hF,h H0 hF,hR,Fz.refl,rfl⟩
theorem doneA_ok{Fam:KI (Value × Hp × Nat)→Prop}{rs:List ResultVar}(hD:DsOk n0 Fam F0)(hR:∀ H0,Fam H0→∀ σ F H n G v x,H0.ds=[]→(rs=[]→x=.tup [])→Rs n0 H0 F0 σ F H n G→DRel F H x v→H0.R n0 F0 (some (v,H,n)) x):KS n0 Fam F0 (ay P rs) (aw P rs):=by
 intro H0 hH0 σ F H n T A G h ht
 unfold ay aw
 obtain⟨H',H0',q1,q2,q3,q4,q5,q6⟩:=hD H0 hH0 σ F H n G h
 rw[q1,bX]
 have h:=q4
 have ht:=ht.mono (fun _ _ z=>z) (fun _ z=>z) q5
 have sw:∀ {r:Option (Value × Hp × Nat)} {d:Option D},Out n0 H0' F0 r d→Out n0 H0 F0 r d:=fun z=>by show OutP (fun x=>H0.R n0 F0 _ x) _; rw[q6]; exact z
 by_cases hz:rs=[]
 ·subst hz
  refine sw ?_
  intro x ex
  have ex:some (D.tup [])=some x:=ex
  cases ex
  exact hR H0' q2 _ F H' n _ (oneV []) _ q3 (fun _=>rfl) h (by unfold DRel; exact⟨[],rfl,by unfold aK; rfl⟩)
 refine sw (resA_ok h ht fun aS vs hav=>?_)
 refine Out.getK fun r hr=>?_
 obtain⟨⟨⟨F1,r1,r2,r3⟩,_⟩,_⟩:=zQ (fun a F G d G' v h hv e=>yq 9 a F G d G' v h hv e) aS F G r.1 r.2 vs h hav hr
 intro x ex
 cases ex
 refine hR H0' q2 _ F1 H' n _ (oneV vs) _ q3 (fun z=>absurd z hz) r1 ?_
 match hd:r.1,r3 with
 | [],r3=>unfold aK at r3; subst r3; unfold oneA DRel; exact⟨[],rfl,by unfold aK; rfl⟩
 | [d],r3=>
  unfold aK at r3
  obtain⟨v,vs',rfl,q1,q2⟩:=r3
  unfold aK at q2; subst q2
  exact q1
 | d::d'::l,r3=>
  have hlen:=r3.length
  match vs,hlen,r3 with
  | v::v'::vs,_,r3=>unfold oneA DRel; exact⟨_,rfl,r3⟩
theorem qkj:∀(ds:List D) (vs:List Value) (i:Nat) (T:Tm) (A:Tr AV),aK F H ds vs→TRl σ F H T A→TRl σ F H (pj T i vs) (Hq A i ds)
 | [],vs,i,T,A,h,ht=>by unfold aK at h; subst h; exact ht
 | d::ds,vs,i,T,A,h,ht=>by
  unfold aK at h
  obtain⟨v,vs',rfl,h1,h2⟩:=h
  exact qkj ds vs' (i+1) _ _ h2 (ht.put (dst:=some i) (.dat h1))
noncomputable def KI.call(n0:Nat)(H0:Hp):KI (Value × Hp × Nat) where
 C b:=b<n0
 O b:=b<n0∧False
 oc _ h:=h.1
 Fs _:=False
 tm _:=.nil
 ok H:=Keep n0 H0 H
 st _ _ h g:=fun b hb=>(h b hb).trans (g b hb)
 ds:=[]
 R n0 F0 r x:=∃ v H n F,r=some (v,H,n)∧n0≤n∧Keep n0 H0 H∧(∀ b,F0 b→F b)∧(∀ b,F b→F0 b∨(n0≤b∧b<n))∧DRel F H x v
theorem bodyY_ok{yk:YK}{rk:RK}{Fam:KI (Value × Hp × Nat)→Prop}{Lv0:FuncId→Lv}{L:FuncId→LvA}{m:Nat}{f:FuncId}(hpc:∀ f,lk (flO P f) (cal.call f) (pc f))(hy:YOk P cal yk n0 Fam F0)(hr:RkOk P cal none rk n0 Fam F0)(hD:DsOk n0 Fam F0)
  (hR:∀ H0,Fam H0→∀ σ F H n G v x,H0.ds=[]→(∀ fn,P.funcs[f]?=some fn→fn.results.toList=[]→x=.tup [])→Rs n0 H0 F0 σ F H n G→DRel F H x v→H0.R n0 F0 (some (v,H,n)) x) (hlv:Lv0 f=.leaf) {ds:List D} {vs:List Value} {H0:KI (Value × Hp × Nat)} (hF:Fam H0) (hds:H0.ds=[]) (h0:Rs n0 H0 F0 (fun _=>none) F H n .nil) (hv:aK F H ds vs) :
  Out n0 H0 F0 (aW P cal Lv0 m f vs H n) (cQ P pc yk rk L m f ds):=by
 unfold cQ aW
 cases hfn:P.funcs[f]? with
 | none=>exact Out.no
 | some fn=>
  simp only
  cases hc:fn.body with
  | none=>exact Out.no
  | some c=>
   simp only
   have hlen:=hv.length
   rw[hlen]
   by_cases hcond : (fn.name == "runtime.NumGoroutine" || decide (fn.ntmps < ds.length)) = true
   ·rw[if_pos hcond,if_pos hcond]; exact Out.no
   ·rw [if_neg hcond, if_neg hcond, hlv]
    have hR':∀ H0,Fam H0→∀ σ F H n G v x,H0.ds=[]→(fn.results.toList=[]→x=.tup [])→Rs n0 H0 F0 σ F H n G→DRel F H x v→H0.R n0 F0 (some (v,H,n)) x:=fun H0 a σ F H n G v x b c=>hR H0 a σ F H n G v x b (fun fn' e=>by rw[hfn] at e; cases e; exact c)
    have key:=IY (P:=P) (f:=f) hpc hy hr m (L f) c (ay P fn.results.toList) (fun _ _ _ _ _=>none) (ay P fn.results.toList) (aw P fn.results.toList) (fun _ _ _=>none) (aw P fn.results.toList) (doneA_ok hD hR') (fun i _ _ σ F H n T A G _ _=>Out.no) (doneA_ok hD hR') H0 hF (fun _=>none) F H n (pj .nil 0 vs) (Hq .nil 0 ds) .nil h0 (qkj ds vs 0 .nil .nil hv (fun t a q=>by rw[Tr.get_nil] at q; cases q))
    rw[hds] at key
    exact key
noncomputable def AY(rs:List ResultVar)(e:TypeId)(sz:Nat):KA:=fun A G=>match rs with
 | [.tmp t]=>getK (A.get t) fun a=>match JV a with
  | .osl s=>match G.get s with
   | some (.vec els e' sz' false)=>match Nat.beq e' e && Nat.beq sz' sz with
    | true=>some (.sl els)
    | false=>none
   | _=>none
  | _=>none
 | _=>none
noncomputable def KI.callO(n0:Nat)(H0:Hp)(e:TypeId)(sz:Nat):KI (Value × Hp × Nat) where
 C b:=b<n0
 O b:=b<n0∧False
 oc _ h:=h.1
 Fs _:=False
 tm _:=.nil
 ok H:=Keep n0 H0 H
 st _ _ h g:=fun b hb=>(h b hb).trans (g b hb)
 ds:=[]
 R n0 F0 r x:=OutO n0 H0 F0 r x e sz
theorem doneO_ok{rs:List ResultVar}{e:TypeId}{sz:Nat}{Hb:Hp}:KS n0 (fun K=>K=KI.callO n0 Hb e sz) F0 (ay P rs) (AY rs e sz):=by
 intro H0 hH0 σ F H n T A G h ht
 subst hH0
 intro x ex
 unfold AY at ex
 match rs,ex with
 | [.tmp t],ex=>
  simp only at ex
  cases ha:A.get t with
  | none=>rw[ha] at ex; cases ex
  | some a=>
   rw[ha] at ex
   have ex:(match JV a with
    | .osl s=>match G.get s with
     | some (.vec els e' sz' false)=>match Nat.beq e' e && Nat.beq sz' sz with
      | true=>some (.sl els)
      | false=>none
     | _=>none
    | _=>none)=some x:=ex
   obtain⟨v,v1,v2⟩:=ht t a ha
   have v2:=yx v2
   split at ex
   ·rename_i s hs
    split at ex
    ·rename_i els e' sz' hg
     split at ex
     ·rename_i hb
      cases ex
      rw[Bool.and_eq_true] at hb
      have e1:=Nat.eq_of_beq_eq_true hb.1
      have e2:=Nat.eq_of_beq_eq_true hb.2
      subst e1 e2
      rw[hs] at v2
      unfold VRel at v2
      obtain⟨i,hi,hv⟩:=v2
      obtain⟨j,hj,hB⟩:=h.site s _ hg
      rw[hi] at hj; cases hj
      refine⟨v,H,n,F,i,els,?_,rfl,h.le,h.keep.1,h.sub,h.fin,hv,hB,fun z=>h.own s i hi z⟩
      show ay P [.tmp t] T H n []=_
      unfold ay
      simp only[Dz,bX,resV,v1]
      rfl
     ·cases ex
    ·cases ex
   ·cases ex
noncomputable def XK(P:Program)(pc:FuncId→List D→Option D)(L:FuncId→LvA)(m:Nat)(f:FuncId)(e:TypeId)(sz:Nat)(ds:List D):Option D:=match P.funcs[f]? with
 | none=>none
 | some fn=>match fn.body with
  | none=>none
  | some c => if fn.name == "runtime.NumGoroutine" || fn.ntmps < ds.length then none else
   aq P pc noY noR f m (L f) c (AY fn.results.toList e sz) (fun _ _ _=>none) (AY fn.results.toList e sz) (Hq .nil 0 ds) .nil
theorem bodyO_ok{Lv0:FuncId→Lv}{L:FuncId→LvA}{m:Nat}{f:FuncId}{e:TypeId}{sz:Nat}(hpc:∀ f,lk (flO P f) (cal.call f) (pc f))(hlv:Lv0 f=.leaf) :
  ∀ ds d F H n vs,XK P pc L m f e sz ds=some d→(∀ b,F b→b<n)→aK F H ds vs→OutO n H F (aW P cal Lv0 m f vs H n) d e sz:=by
 intro ds d F H n vs ex hF hv
 have h0:Rs n (KI.callO n H e sz) F (fun _=>none) F H n .nil:=⟨Nat.le_refl _,⟨Keep.refl _ _,fun _ z=>z⟩,fun _ z=>z,fun _ z=>.inl z,hF,fun s B q=>(by rw[Tr.get_nil] at q; cases q),fun s i q=>(by cases q),fun s i q=>(by cases q),fun s s' i j q=>(by cases q),fun s i q=>(by cases q),fun _ z=>.inl z,fun _ z=>z.elim,fun s l q=>(by rw[Tr.get_nil] at q; cases q)⟩
 unfold XK at ex
 unfold aW
 cases hfn:P.funcs[f]? with
 | none=>rw[hfn] at ex; cases ex
 | some fn=>
  rw[hfn] at ex
  simp only at ex ⊢
  cases hc:fn.body with
  | none=>rw[hc] at ex; cases ex
  | some c=>
   rw[hc] at ex
   simp only at ex ⊢
   have hlen:=hv.length
   rw[hlen]
   by_cases hcond : (fn.name == "runtime.NumGoroutine" || decide (fn.ntmps < ds.length)) = true
   ·rw[if_pos hcond] at ex; cases ex
   ·rw [if_neg hcond] at ex ⊢
    rw[hlv]
    have key:=IY (P:=P) (f:=f) (n0:=n) (F0:=F) (ro:=none) (Fam:=fun K=>K=KI.callO n H e sz) hpc noY_ok Vw m (L f) c (ay P fn.results.toList) (fun _ _ _ _ _=>none) (ay P fn.results.toList) (AY fn.results.toList e sz) (fun _ _ _=>none) (AY fn.results.toList e sz) doneO_ok (fun i _ _ σ F H n T A G _ _=>Out.no) doneO_ok _ rfl (fun _=>none) F H n (pj .nil 0 vs) (Hq .nil 0 ds) .nil h0 (qkj ds vs 0 .nil .nil hv (fun t a q=>by rw[Tr.get_nil] at q; cases q))
    exact key d ex
end Go.Ev
end
section
namespace Go.Ev
open Go
variable {P:Program} {t:TypeId} {x y:Operand} {a b:Int} {ρ:Type}
abbrev dI(i:Int):D:=.v (.int .i64 i)
abbrev dB(c:Bool):D:=.v (.bool c)
theorem sV{op:BinOp}{v:Value}(h:binV P op t x y (.int .i64 a) (.int .i64 b)=some v)(hs:uJ v=true):binD P op t x y (.v (.int .i64 a)) (.v (.int .i64 b))=some (.v v):=by
 unfold binD
 simp only[valD,h,Pw,hs]
theorem fW:binD P .lss t x y (.v (.int .i64 a)) (.v (.int .i64 b))=some (.v (.bool (decide (a<b)))):=sV bin_lss rfl
theorem mX:binD P .leq t x y (.v (.int .i64 a)) (.v (.int .i64 b))=some (.v (.bool (decide (a≤b)))):=sV bin_leq rfl
theorem mY:binD P .gtr t x y (.v (.int .i64 a)) (.v (.int .i64 b))=some (.v (.bool (decide (b<a)))):=sV bin_gtr rfl
theorem sW:binD P .geq t x y (.v (.int .i64 a)) (.v (.int .i64 b))=some (.v (.bool (decide (b≤a)))):=sV bin_geq rfl
theorem kV:binD P .eql t x y (.v (.int .i64 a)) (.v (.int .i64 b))=some (.v (.bool (decide (a=b)))):=sV bin_eql rfl
theorem jV:binD P .neq t x y (.v (.int .i64 a)) (.v (.int .i64 b))=some (.v (.bool (!decide (a=b)))):=sV bin_neq rfl
theorem qkk(h:I64 (a+b)):binD P .add t x y (.v (.int .i64 a)) (.v (.int .i64 b))=some (.v (.int .i64 (a+b))):=sV (bin_add h) rfl
theorem AZ(h:I64 (a-b)):binD P .sub t x y (.v (.int .i64 a)) (.v (.int .i64 b))=some (.v (.int .i64 (a-b))):=sV (bin_sub h) rfl
theorem lJ{k:Nat}(h:k<4611686018427387904):binD P .add t x y (.v (.int .i64 (k:Int))) (.v (.int .i64 1))=some (.v (.int .i64 ((k+1:Nat):Int))):=by
 rw[qkk (by unfold I64; omega)]; rfl
theorem ew{c:Bool}:semD P (.v (.bool c)) (Op.unary .not)=some (.v (.bool (!c))):=by cases c <;> rfl
theorem ifU_b{c:Bool}{p q:Option D}:ifU (.v (.bool c)) p q=if c then p else q:=by cases c <;> rfl
theorem ifU_d{c:Prop}[Decidable c]{p q:Option D}:ifU (.v (.bool (decide c))) p q=if c then p else q:=by by_cases h:c <;> simp [h,ifU]
theorem iJ{p q:Option D}:ifU (.v (.bool true)) p q=p:=rfl
theorem ev{p q:Option D}:ifU (.v (.bool false)) p q=q:=rfl
theorem idxD_nat{k n:Nat}:idxD (.v (.int .i64 (k:Int))) n=if k<n then some k else none:=rfl
theorem pW{k n:Nat}(h:k<n):idxD (.v (.int .i64 (k:Int))) n=some k:=by rw[idxD_nat,if_pos h]
theorem bY{l:List D}:lenD l=.v (.int .i64 (l.length:Nat)):=rfl
theorem aV{l:List D}:elsD (.sl l)=some l:=rfl
theorem cw{l:List D}:aggD (.agg l)=some l:=rfl
theorem fk{l:List D}:kY (.ref l)=some l:=rfl
theorem qV{g:FuncId}{a b:List D}{f:FuncId→List D→List D→Option D}:fnK (.fn g a b) f=f g a b:=rfl
theorem bZ{r:Option ρ}:chkK true r=r:=rfl
theorem cq{v:Value}:bk (.v v)=true:=rfl
theorem mZ{l:List D}:bk (.sl l)=true:=rfl
theorem vX{l l':List D}(h:l.length+l'.length<1048576):appD l l'=some (l++l'):=by unfold appD; rw[if_pos h]
theorem eK{pc:FuncId→List D→Option D}{f:FuncId}{ds:List D}{v:Value}(h:pc f ds=some (.v v)):pcD P pc f ds=some (.v v):=by
 unfold pcD
 rw[h]
 simp only
 split
 ·rfl
 ·rfl
theorem vw{pc:FuncId→List D→Option D}{f:FuncId}{ds:List D}{d:D}(h:pc f ds=some d)(hf:ux P f=false):pcD P pc f ds=some d:=by
 unfold pcD
 rw[h]
 simp only[hf]
theorem pcD_f{pc:FuncId→List D→Option D}{f:FuncId}{ds:List D}{d:D}(h:pc f ds=some d)(hf:zy d=true):pcD P pc f ds=some d:=by
 unfold pcD
 rw[h]
 simp only[hf]
 split <;> rfl
abbrev dL(xs:List Int):D:=.sl (xs.map dI)
abbrev dLL(xss:List (List Int)):D:=.sl (xss.map dL)
end Go.Ev
end
section
namespace Go.Ev
open Go
noncomputable def nodeYf:Nat→List D→Option D→Option D→Option D:=fun l xs p q=>match p with
 | none=>none
 | some p=>match q with
  | none=>none
  | some q=>some (.fn l xs [p,q])
noncomputable def lW:YK:=⟨true,nodeYf⟩
noncomputable def leafT:D:=.tup []
noncomputable def pJ(l:Nat):List (List D)→D
 | []=>leafT
 | x::xs=>.fn l x [pJ l xs,leafT]
theorem nodeY_some{l:Nat}{x:List D}{p q:Option D}{t:D}(h:nodeYf l x p q=some t):∃ a b,p=some a∧q=some b∧t=.fn l x [a,b]:=by
 unfold nodeYf at h
 split at h
 ·cases h
 ·split at h
  ·cases h
  ·cases h; exact⟨_,_,rfl,rfl,rfl⟩
theorem listT_inj{l:Nat}:∀ {xs ys:List (List D)},pJ l xs=pJ l ys→xs=ys
 | [],[],_=>rfl
 | [],_::_,h=>by simp [pJ,leafT] at h
 | _::_,[],h=>by simp [pJ,leafT] at h
 | x::xs,y::ys,h=>by
  simp only[pJ,D.fn.injEq,List.cons.injEq] at h
  rw[h.2.1,listT_inj h.2.2.1]
noncomputable def Yj(o:Nat→Option D)(k:List (List D)→Option D):Option D:=
 open Classical in if h : ∃ ys, ∀ l, o l = some (pJ l ys) then k h.choose else none
theorem qkw{o:Nat→Option D}{k:List (List D)→Option D}{ys:List (List D)}(h:∀ l,o l=some (pJ l ys)):Yj o k=k ys:=by
 unfold Yj
 have hx:∃ ys,∀ l,o l=some (pJ l ys):=⟨ys,h⟩
 rw[dif_pos hx]
 have:=hx.choose_spec 0
 rw[h 0] at this
 simp only[Option.some.injEq] at this
 rw[← listT_inj this]
theorem iterK_some{o:Nat→Option D}{k:List (List D)→Option D}{d:D}(e:Yj o k=some d):∃ ys,(∀ l,o l=some (pJ l ys))∧k ys=some d:=by
 unfold Yj at e
 split at e
 ·rename_i h; exact⟨h.choose,h.choose_spec,e⟩
 ·cases e
end Go.Ev
end
section
namespace Go.Ev
open Go
variable {ρ:Type} {σ σ':Nat→Option Si} {F F' F0:Nat→Prop} {H H':Hp} {H0:KI ρ} {n n' n0:Nat} {G G':Tr Bx} {T:Tm} {A A':Tr AV} {P:Program}
theorem Rs.out(h:Rs n0 H0 F0 σ F H n G)(hn:n≤n')(hC:∀ b,H0.C b→H'.get b=H.get b)(hF:∀ b,F b→H'.get b=H.get b)(ho:∀ s i,σ s=some i→i.nil=false→H'.get i.b=H.get i.b) :
  Rs n0 H0 F0 σ F H' n' G∧Fz F H H':=by
 have hfz:Fz F H H':=Fz.of_eq hF
 refine⟨⟨Nat.le_trans h.le hn,⟨H0.st _ _ hC h.keep.1,fun b hb=>by have:=h.keep.2 b hb; omega⟩,h.sub,fun b hb=>?_,h.low,fun s B e=>?_,h.back,fun s i hi hnil=>?_,h.inj,h.ownC,h.finC,h.fs,h.tms⟩,hfz⟩
 ·rcases h.fin b hb with q | q
  ·exact .inl q
  ·exact .inr ⟨q.1,by omega⟩
 ·obtain ⟨i, hi, hB⟩ := h.site s B e
  exact⟨i,hi,hB.only (Q:=fun _=>true) (fun _ _ _ z=>z) (fun _ z=>z) (fun _ z=>z) hfz (fun hnil=>ho s i hi hnil) (sQ _)⟩
 ·have:=h.own s i hi hnil; omega
noncomputable def KI.add(K:KI ρ)(d:Nat):KI ρ where
 C b:=K.C b∨b=d
 O b:=K.O b∨b=d
 oc b h:=h.imp (K.oc b) id
 ok H:=K.ok H∧H.get d=some .deferred
 st H H' h g:=⟨K.st H H' (fun b hb=>h b (.inl hb)) g.1,(h d (.inr rfl)).trans g.2⟩
 Fs:=K.Fs
 tm:=K.tm
 ds:=d::K.ds
 R:=K.R
inductive AddF (K0:KI ρ):KI ρ→Prop
 | base:AddF K0 K0
 | add {K:KI ρ} (d:Nat) (h:AddF K0 K) (hd:¬ K.C d):AddF K0 (K.add d)
 | keep {K:KI ρ} (tm:Nat→Tm) (h:AddF K0 K):AddF K0 { K with tm:=tm }
theorem Rs.add(h:Rs n0 H0 F0 σ F H n G):Rs n0 (H0.add n) F0 σ F (H.set n (some .deferred)) (n+1) G∧Fz F H (H.set n (some .deferred))∧¬ H0.C n:=by
 have hlt:∀ b,b<n→(H.set n (some Blk.deferred)).get b=H.get b:=fun b hb=>by rw[Tr.get_set,if_neg (by omega)]
 obtain⟨q,hfz⟩:=h.out (n':=n+1) (H':=H.set n (some .deferred)) (Nat.le_succ n) (fun b hb=>hlt b (h.keep.2 b hb)) (fun b hb=>hlt b (h.lt hb)) (fun s i hi hn=>hlt _ (h.own s i hi hn).2)
 refine⟨⟨q.le,⟨⟨q.keep.1,by rw[Tr.get_set,if_pos rfl]⟩,fun b hb=>?_⟩,q.sub,q.fin,q.low,q.site,q.back,q.own,q.inj,fun s i hi hn=>?_,fun b hb=>?_,q.fs,q.tms⟩,hfz,fun z=>?_⟩
 ·rcases hb with hb | rfl
  ·exact q.keep.2 b hb
  ·omega
 ·rcases h.ownC s i hi hn with z | z
  ·left
   rintro(y | y)
   ·exact z y
   ·have:=(h.own s i hi hn).2; omega
  ·exact .inr z
 ·rcases h.finC b hb with z | z
  ·exact .inl z
  ·right
   rintro(y | y)
   ·exact z y
   ·have:=h.lt hb; omega
 ·have:=h.keep.2 n z; omega
theorem Rs.rem{d:Nat}(h:Rs n0 (H0.add d) F0 σ F H n G)(hd:¬ H0.C d)(hlow:n0≤d):H.get d=some .deferred∧Rs n0 H0 F0 σ F (H.set d none) n G∧Fz F H (H.set d none):=by
 have hg:=h.keep.1.2
 have hne:∀ b,b≠d→(H.set d none).get b=H.get b:=fun b hb=>by rw[Tr.get_set,if_neg hb]
 have hF:∀ b,F b→b≠d:=by
  rintro b hb rfl
  rcases h.finC b hb with z | z
  ·have:=h.low b z; omega
  ·exact z (.inr rfl)
 have ho:∀ s i,σ s=some i→i.nil=false→i.b≠d:=by
  intro s i hi hn z
  rcases h.ownC s i hi hn with y | y
  ·exact y (.inr z)
  ·exact hF _ y z
 have hfz:Fz F H (H.set d none):=Fz.of_eq fun b hb=>hne b (hF b hb)
 refine⟨hg,⟨h.le,⟨H0.st _ _ (fun b hb=>hne b (fun z=>hd (z ▸ hb))) h.keep.1.1,fun b hb=>h.keep.2 b (.inl hb)⟩,h.sub,h.fin,h.low,fun s B e=>?_,h.back,h.own,h.inj,fun s i hi hn=>?_,fun b hb=>?_,h.fs,h.tms⟩,hfz⟩
 ·obtain ⟨i, hi, hB⟩ := h.site s B e
  exact⟨i,hi,hB.only (Q:=fun _=>true) (fun _ _ _ z=>z) (fun _ z=>z) (fun _ z=>z) hfz (fun hnil=>hne _ (ho s i hi hnil)) (sQ _)⟩
 ·exact(h.ownC s i hi hn).imp (fun z y=>z (.inl y)) id
 ·exact(h.finC b hb).imp id (fun z y=>z (.inl y))
theorem Rs.more(h:Rs n0 H0 F0 σ F H n G){E:Nat→Prop}(h1:∀ b,E b→F b∨(n0≤b∧b<n))(h2:∀ b,E b→F b∨¬ H0.O b)(h3:∀ s i,σ s=some i→i.nil=false→E i.b→F i.b) :
  Rs n0 H0 F0 σ (fun b=>F b∨E b) H n G:=by
 refine⟨h.le,h.keep,fun b hb=>.inl (h.sub b hb),fun b hb=>?_,h.low,fun s B e=>?_,h.back,h.own,h.inj,fun s i hi hn=>(h.ownC s i hi hn).imp id .inl,fun b hb=>?_,fun b hb=>.inl (h.fs b hb),h.tms⟩
 ·rcases hb with hb | hb
  ·exact h.fin b hb
  ·rcases h1 b hb with q | q
   ·exact h.fin b q
   ·exact .inr q
 ·obtain ⟨i, hi, hB⟩ := h.site s B e
  refine⟨i,hi,hB.only (Q:=fun _=>true) (fun _ _ _ z=>z) (fun _ z=>.inl z) (fun hn z=>?_) Fz.refl (fun _=>rfl) (sQ _)⟩
  rcases z with z | z
  ·exact z
  ·exact h3 s i hi hn z
 ·rcases hb with hb | hb
  ·exact h.finC b hb
  ·rcases h2 b hb with q | q
   ·exact h.finC b q
   ·exact .inr q
theorem Rs.re(h:Rs n0 H0 F0 σ F H n G){m:Nat}(hm:n0≤m)(hC:∀ b,H0.C b→b<m)(hF:∀ b,F b→b<m)(ho:∀ s i,σ s=some i→i.nil=false→i.b<m):Rs n0 H0 F0 σ F H m G:=
 ⟨hm,⟨h.keep.1,hC⟩,h.sub,fun b hb=>(h.fin b hb).imp id fun q=>⟨q.1,hF b hb⟩,h.low,h.site,h.back,fun s i hi hn=>⟨(h.own s i hi hn).1,ho s i hi hn⟩,h.inj,h.ownC,h.finC,h.fs,h.tms⟩
theorem AddF.sub{K0 K:KI ρ}(h:AddF K0 K):∀ b,K0.C b→K.C b:=by
 induction h with
 | base=>exact fun _ z=>z
 | add d _ _ ih=>exact fun b z=>.inl (ih b z)
 | keep _ _ ih=>exact ih
theorem AddF.same{K0 K:KI ρ}(h:AddF K0 K):K.R=K0.R∧∀ H,K.ok H→K0.ok H:=by
 induction h with
 | base=>exact⟨rfl,fun _ z=>z⟩
 | add d _ _ ih=>exact⟨ih.1,fun H z=>ih.2 H z.1⟩
 | keep _ _ ih=>exact ih
theorem dsOk_add{K0:KI ρ}(h0:K0.ds=[])(hlow:∀ b,b<n0→K0.C b):DsOk n0 (AddF K0) F0:=by
 intro K hK
 have key:∀ tm,∀ σ F H n G,Rs n0 { K with tm:=tm } F0 σ F H n G→∃ H' K',Dz H K.ds=some H'∧AddF K0 K'∧K'.ds=[]∧Rs n0 K' F0 σ F H' n G∧Fz F H H'∧K.R=K'.R:=by
  induction hK with
  | base=>intro tm σ F H n G h; exact⟨H,{ K0 with tm:=tm },by rw[h0]; rfl,.keep tm .base,h0,h,Fz.refl,rfl⟩
  | @add K d hK hd ih=>
   intro tm σ F H n G h
   have hlo:n0≤d:=by
    rcases Nat.lt_or_ge d n0 with q | q
    ·exact absurd (hK.sub d (hlow d q)) hd
    ·exact q
   have h:Rs n0 (KI.add { K with tm:=tm } d) F0 σ F H n G:=h
   obtain⟨q1,q2,q3⟩:=h.rem hd hlo
   obtain⟨H',K',r1,r2,r3,r4,r5,r6⟩:=ih tm σ F _ n G q2
   refine⟨H',K',?_,r2,r3,r4,q3.trans (fun _ z=>z) r5,r6⟩
   show Dz H (d::_)=_
   simp only[Dz,q1]
   exact r1
  | keep tm' h ih=>intro tm σ F H n G h; exact ih tm σ F H n G h
 exact fun σ F H n G h=>key K.tm σ F H n G h
theorem bodyR_ok{cal:Cal}{pc:FuncId→List D→Option D}{rk:RK}{Lv0:FuncId→Lv}{L:FuncId→LvA}{m:Nat}{f:FuncId}(hpc:∀ f,lk (flO P f) (cal.call f) (pc f))
  (hr:∀ n0 F0 (K0:KI (Value × Hp × Nat)),(∀ b,b<n0→K0.C b)→RkOk P cal none rk n0 (AddF K0) F0) (hlv:Lv0 f=.leaf):PStr (aW P cal Lv0 m f) (cQ P pc noY rk L m f):=by
 intro ds d F H n vs e hF hv
 have h0:Rs n (KI.call n H) F (fun _=>none) F H n .nil:=⟨Nat.le_refl _,⟨Keep.refl _ _,fun _ z=>z⟩,fun _ z=>z,fun _ z=>.inl z,hF,fun s B q=>(by rw[Tr.get_nil] at q; cases q),fun s i q=>(by cases q),fun s i q=>(by cases q),fun s s' i j q=>(by cases q),fun s i q=>(by cases q),fun _ z=>.inl z,fun _ z=>z.elim,fun s l q=>(by rw[Tr.get_nil] at q; cases q)⟩
 have:=bodyY_ok (P:=P) (m:=m) (n0:=n) (F0:=F) (Fam:=AddF (KI.call n H)) (L:=L) hpc noY_ok (hr n F _ (fun _ z=>z)) (dsOk_add rfl (fun _ z=>z)) (fun H0 hH σ F H n G v x hds _ q r=>by
  rw[hH.same.1]
  exact⟨v,H,n,F,rfl,q.le,hH.same.2 _ q.keep.1,q.sub,q.fin,r⟩) hlv .base rfl h0 hv
 intro x ex
 exact this x (e.trans ex)
end Go.Ev
end
section
namespace Go.Ev
open Go
variable {ρ ρ':Type} {σ σ':Nat→Option Si} {F F' F0:Nat→Prop} {H H':Hp} {H0:KI ρ} {n n' n0:Nat} {G G':Tr Bx} {T:Tm} {A A':Tr AV} {P:Program}
 {cal:Cal} {pc:FuncId→List D→Option D}
noncomputable def toL(A:Tr AV):List Nat→List (Nat × AV)
 | []=>[]
 | t::l=>match A.get t with
  | some a=>(t,a)::toL A l
  | none=>toL A l
noncomputable def ofL:List (Nat × AV)→Tr AV
 | []=>.nil
 | (t,a)::l=>(ofL l).set t (some a)
noncomputable def envK(Z:Nat)(G:Tr Bx)(k:Tr AV→Option D):Option D:=match G.get Z with
 | some (.env l)=>k (ofL l)
 | _=>none
noncomputable def parsA:Tr AV→Nat→List Tmp→List D→Option (Tr AV)
 | A,_,[],[]=>some A
 | A,N,t::ts,d::ds=>match Nat.blt t N with
  | true=>parsA (A.set t (some (.d d))) N ts ds
  | false=>none
 | _,_,_,_=>none
theorem toL_mem{t:Nat}{a:AV}:∀ {l:List Nat},(t,a) ∈ toL A l→A.get t=some a
 | [],h=>by cases h
 | x::l,h=>by
  simp only[toL] at h
  split at h
  ·rename_i b hb
   rcases List.mem_cons.1 h with q | q
   ·cases q; exact hb
   ·exact toL_mem q
  ·exact toL_mem h
theorem ofL_get{t:Nat}{a:AV}:∀ {l:List (Nat × AV)},(ofL l).get t=some a→(t,a) ∈ l
 | [],h=>by rw[ofL,Tr.get_nil] at h; cases h
 | (x,b)::l,h=>by
  rw[ofL,Tr.get_set] at h
  by_cases q:t=x
  ·rw[if_pos q] at h; cases h; subst q; exact List.mem_cons_self
  ·rw[if_neg q] at h; exact List.mem_cons_of_mem _ (ofL_get h)
theorem envK_ok{Qx:D→Prop}{Z:Nat}{k:Tr AV→Option D}(h:Rs n0 H0 F0 σ F H n G)(hk:∀ A,TRl σ F H (H0.tm Z) A→OutP Qx (k A)):OutP Qx (envK Z G k):=by
 unfold envK
 split
 ·rename_i l hg
  obtain⟨j,hj,hB⟩:=h.site Z _ hg
  refine hk _ fun t a q=>?_
  rw[← h.tms Z l hg j hj]
  exact hB.2 _ (ofL_get q)
 ·exact Out.no
theorem parsA_ok{N:Nat}:∀ {ps:List Tmp} {ds:List D} {vs:List Value} {T:Tm} {A A':Tr AV},aK F H ds vs→TRl σ F H T A→parsA A N ps ds=some A'→∃ T',vk T N ps vs=some T'∧TRl σ F H T' A'
 | [],[],vs,T,A,A',h,ht,e=>by
  unfold aK at h; subst h
  cases e; exact⟨T,rfl,ht⟩
 | t::ts,d::ds,vs,T,A,A',h,ht,e=>by
  unfold aK at h
  obtain⟨v,vs',rfl,h1,h2⟩:=h
  simp only[parsA] at e
  split at e
  ·rename_i hb
   have hb:t<N:=Nat.blt_eq.mp hb
   obtain⟨T',q1,q2⟩:=parsA_ok (T:=T.set t (some v)) h2 (ht.put (dst:=some t) (.dat h1)) e
   exact⟨T',by simp only[vk,if_pos hb]; exact q1,q2⟩
  ·cases e
 | [],_::_,_,_,_,_,_,_,e=>by cases e
 | _::_,[],_,_,_,_,_,_,e=>by cases e
def ownM(σ:Nat→Option Si)(F:Nat→Prop)(b:Nat):Prop:=∃ s i,σ s=some i∧i.nil=false∧i.b=b∧¬ F b
noncomputable def kiR(tm:Nat→Tm)(C O Fs:Nat→Prop)(oc:∀ b,O b→C b)(Hs:Hp)(R:Option ρ→D→Prop):KI ρ where
 C:=C
 O:=O
 oc:=oc
 ok H:=∀ b,C b→H.get b=Hs.get b
 st _ _ h g b hb:=(h b hb).trans (g b hb)
 Fs:=Fs
 tm:=tm
 ds:=[]
 R _ _:=R
def CRn(σ:Nat→Option Si)(F:Nat→Prop)(n:Nat)(b:Nat):Prop:=b<n∧¬ ownM σ F b
theorem Rs.to(h:Rs n0 H0 F0 σ F H n G){W:Nat→Prop}(hW:∀ b,F b→¬ W b)(R:Option ρ'→D→Prop):Rs n0 (kiR H0.tm (CRn σ F n) (fun b=>CRn σ F n b∧(H0.O b∨W b)) F (fun _ z=>z.1) H R) F0 σ F H n G:=by
 refine⟨h.le,⟨fun _ _=>rfl,fun b z=>z.1⟩,h.sub,h.fin,h.low,h.site,h.back,h.own,h.inj,fun s i hi hn=>?_,fun b hb=>?_,fun _ z=>z,h.tms⟩
 ·by_cases q : F i.b
  ·exact .inr q
  ·exact .inl fun z=>z.2 ⟨s,i,hi,hn,rfl,q⟩
 ·exact(h.finC b hb).imp id fun z y=>y.2.elim z (hW b hb)
theorem Rs.fro{tm:Nat→Tm}{σ1:Nat→Option Si}{F1:Nat→Prop}{Hs:Hp}{m:Nat}{G1:Tr Bx}{W:Nat→Prop}{oc:∀ b,(CRn σ1 F1 m b∧(H0.O b∨W b))→CRn σ1 F1 m b}{R:Option ρ'→D→Prop}
  (h:Rs n0 (kiR tm (CRn σ1 F1 m) (fun b=>CRn σ1 F1 m b∧(H0.O b∨W b)) F1 oc Hs R) F0 σ F H n G) (h0:Rs n0 H0 F0 σ1 F1 Hs m G1) :
  Rs n0 { H0 with tm:=tm } F0 σ F H n G∧(∀ b,F1 b→F b)∧∀ b,CRn σ1 F1 m b→H.get b=Hs.get b:=by
 have hC:∀ b,H0.C b→CRn σ1 F1 m b:=fun b z=>⟨h0.keep.2 b z,fun⟨s,i,a,b',c,d⟩=>by
  subst c
  rcases h0.ownC s i a b' with q | q
  ·exact q z
  ·exact d q⟩
 refine⟨⟨h.le,⟨H0.st Hs H (fun b hb=>h.keep.1 b (hC b hb)) h0.keep.1,fun b hb=>h.keep.2 b (hC b hb)⟩,h.sub,h.fin,h.low,h.site,h.back,h.own,h.inj,fun s i hi hn=>?_,fun b hb=>?_,fun b hb=>h.fs b (h0.fs b hb),h.tms⟩,h.fs,h.keep.1⟩
 ·exact(h.ownC s i hi hn).imp (fun z y=>z (hC _ y)) id
 ·exact(h.finC b hb).imp id fun z y=>z ⟨hC b (H0.oc b y),.inl y⟩
noncomputable def runB(P:Program)(cal:Cal)(m:Nat)(ro:Option Nat)(f:FuncId)(c:Code)(T:Tm)(H:Hp)(n:Nat):Option (Ex × St):=
 aY P cal m .leaf ro f c (fun T H n D=>some (.norm,{ T,H,n,D })) (fun id T H n D=>some (.exit id,{ T,H,n,D })) (fun T H n D=>some (.ret,{ T,H,n,D })) T H n []
def zV(l:Nat)(H:Hp):Prop:=∃ d,∀(T:Tm) (n:Nat) (D:List Nat),vJ (some l) { T,H,n,D }=some (d,{ T,H,n,D })
def DX(K1:KI ρ)(zs:List Nat)(K:KI ρ):Prop:=∃ tm,(∀ z,memN zs z=true→tm z=K1.tm z)∧K={ K1 with tm:=tm }
theorem runB_ok{m l:Nat}{f:FuncId}{c:Code}{lv:LvA}{cu:Option Cu}{rk:RK}{zs:List Nat}{k:KA}{x:Nat→KA}{kr:KA}{dd:D}(hpc:∀ f,lk (flO P f) (cal.call f) (pc f))
  (hr:∀ K1:KI (Ex × St),(∀ H,K1.ok H→zV l H)→RkOk P cal (some l) rk n0 (DX K1 zs) F0) (hL:zV l H) (hLC:CRn σ F n l)
  (h:Rs n0 H0 F0 σ F H n G) {W:Nat→Prop} (hW:∀ b,F b→¬ W b) (hWC:∀ b,W b→CRn σ F n b) (ht:TRl σ F H T A)
  (e:aq P pc noY rk f m lv c (bK cu k) x kr A G=some dd) :
  ∃ ex s σ' F' A' G' tm',(∀ z,memN zs z=true→tm' z=H0.tm z)∧runB P cal m (some l) f c T H n=some (ex,s)∧s.D=[]∧Rs n0 { H0 with tm:=tm' } F0 σ' F' s.H s.n G'∧TRl σ' F' s.H s.T A'∧(∀ b,F b→F' b)∧(∀ b,CRn σ F n b→s.H.get b=H.get b∧CRn σ' F' s.n b)∧(∀ b,W b→¬ F' b) ∧
   (match ex with | .norm=>k A' G' | .exit i=>x i A' G' | .ret=>kr A' G')=some dd:=by
 let K0:(Nat→Tm)→KI Unit:=fun tm=>kiR tm (CRn σ F n) (fun b=>CRn σ F n b∧(H0.O b∨W b)) F (fun _ z=>z.1) H (fun _ _=>True)
 let K1:KI (Ex × St):=kiR H0.tm (CRn σ F n) (fun b=>CRn σ F n b∧(H0.O b∨W b)) F (fun _ z=>z.1) H (fun r d=>∃ ex s σ' F' A' G' tm',(∀ z,memN zs z=true→tm' z=H0.tm z)∧r=some (ex,s)∧s.D=[]∧Rs n0 (K0 tm') F0 σ' F' s.H s.n G'∧TRl σ' F' s.H s.T A' ∧
   (match ex with | .norm=>k A' G' | .exit i=>x i A' G' | .ret=>kr A' G')=some d)
 have sw:∀ {tm:Nat→Tm} {σ':Nat→Option Si} {F':Nat→Prop} {H':Hp} {n':Nat} {G':Tr Bx},Rs n0 { K1 with tm:=tm } F0 σ' F' H' n' G'→Rs n0 (K0 tm) F0 σ' F' H' n' G':=fun q=>⟨q.le,q.keep,q.sub,q.fin,q.low,q.site,q.back,q.own,q.inj,q.ownC,q.finC,q.fs,q.tms⟩
 have hk0:KS n0 (DX K1 zs) F0 (fun T H n D=>some (Ex.norm,({ T,H,n,D }:St))) k:=by
  intro K hK σ' F' H' n' T' A' G' q1 q2 y hy
  obtain⟨tm,ht,rfl⟩:=hK
  exact⟨.norm,_,σ',F',A',G',tm,ht,rfl,rfl,sw q1,q2,hy⟩
 have h1:=IY (P:=P) (cal:=cal) (pc:=pc) (ro:=some l) (n0:=n0) (F0:=F0) (Fam:=DX K1 zs) (f:=f) hpc noY_ok (hr K1 (fun H' hH'=>by
   obtain⟨d,hd⟩:=hL
   have hg:H'.get l=H.get l:=hH' l hLC
   refine⟨d,fun T n D=>?_⟩
   have:=hd T n D
   unfold vJ at this ⊢
   simp only[hg] at this ⊢
   split at this
   ·simp only [Option.some.injEq, Prod.mk.injEq] at this
    rw[this.1]
   ·cases this)) m lv c
  (fun T H n D=>some (Ex.norm,({ T,H,n,D }:St))) (fun id T H n D=>some (Ex.exit id,({ T,H,n,D }:St))) (fun T H n D=>some (Ex.ret,({ T,H,n,D }:St))) (bK cu k) x kr
  (hk0.cut cu)
  (fun i K hK σ' F' H' n' T' A' G' q1 q2 y hy=>by obtain⟨tm,ht,rfl⟩:=hK; exact⟨.exit i,_,σ',F',A',G',tm,ht,rfl,rfl,sw q1,q2,hy⟩)
  (fun K hK σ' F' H' n' T' A' G' q1 q2 y hy=>by obtain⟨tm,ht,rfl⟩:=hK; exact⟨.ret,_,σ',F',A',G',tm,ht,rfl,rfl,sw q1,q2,hy⟩)
  K1 ⟨H0.tm,fun _ _=>rfl,rfl⟩ σ F H n T A G (h.to hW _) ht dd e
 obtain⟨ex,s,σ',F',A',G',tm',e0,e1,e2,e3,e4,e5⟩:=h1
 obtain⟨q1,q2,q3⟩:=e3.fro h
 refine⟨ex,s,σ',F',A',G',tm',e0,e1,e2,q1,e4,q2,fun b hb=>⟨q3 b hb,e3.keep.2 b hb,?_⟩,fun b hb z=>?_,e5⟩
 ·rintro ⟨s', i, h1, h2, rfl, h4⟩
  rcases e3.ownC s' i h1 h2 with z | z
  ·exact z hb
  ·exact h4 z
 ·rcases e3.finC b z with y | y
  ·exact hW b (h.sub b y) hb
  ·exact y ⟨hWC b hb,.inr hb⟩
end Go.Ev
end
section
namespace Go.Ev
open Go
variable {ρ ρ':Type} {σ σ':Nat→Option Si} {F F' F0:Nat→Prop} {H H':Hp} {H0:KI ρ} {n n' n0:Nat} {G G':Tr Bx} {T:Tm} {A A':Tr AV} {P:Program}
 {cal:Cal} {pc:FuncId→List D→Option D}
noncomputable def KI.has(K:KI ρ)(l:Nat)(B:Blk):KI ρ where
 C b:=K.C b∨b=l
 O b:=K.O b∨b=l
 oc b h:=h.imp (K.oc b) id
 ok H:=K.ok H∧H.get l=some B
 st H H' h g:=⟨K.st H H' (fun b hb=>h b (.inl hb)) g.1,(h l (.inr rfl)).trans g.2⟩
 Fs:=K.Fs
 tm:=K.tm
 ds:=K.ds
 R:=K.R
theorem Rs.has{l:Nat}{B:Blk}(h:Rs n0 H0 F0 σ F H n G)(hb:H.get l=some B)(hl:l<n)(hF:¬ F l)(ho:∀ s i,σ s=some i→i.nil=false→i.b≠l):Rs n0 (H0.has l B) F0 σ F H n G:=by
 refine⟨h.le,⟨⟨h.keep.1,hb⟩,fun b q=>?_⟩,h.sub,h.fin,h.low,h.site,h.back,h.own,h.inj,fun s i hi hn=>?_,fun b q=>?_,h.fs,h.tms⟩
 ·rcases q with q | rfl
  ·exact h.keep.2 b q
  ·exact hl
 ·exact(h.ownC s i hi hn).imp (fun z y=>y.elim z (ho s i hi hn)) id
 ·rcases h.finC b q with z | z
  ·exact .inl z
  ·exact .inr fun y=>y.elim z (fun e=>hF (e ▸ q))
theorem Rs.unhas{l:Nat}{B:Blk}(h:Rs n0 (H0.has l B) F0 σ F H n G)(hl:n0≤l) :
  H.get l=some B∧l<n∧Rs n0 H0 F0 σ F H n G∧¬ F l∧∀ s i,σ s=some i→i.nil=false→i.b≠l:=by
 have hF:¬ F l:=fun z=>by
  rcases h.finC l z with q | q
  ·have:=h.low l q; omega
  ·exact q (.inr rfl)
 refine⟨h.keep.1.2,h.keep.2 l (.inr rfl),⟨h.le,⟨h.keep.1.1,fun b hb=>h.keep.2 b (.inl hb)⟩,h.sub,h.fin,h.low,h.site,h.back,h.own,h.inj,fun s i hi hn=>?_,fun b q=>?_,h.fs,h.tms⟩,hF,fun s i hi hn z=>?_⟩
 ·exact(h.ownC s i hi hn).imp (fun z y=>z (.inl y)) id
 ·exact(h.finC b q).imp id fun z y=>z (.inl y)
 ·rcases h.ownC s i hi hn with q | q
  ·exact q (.inr z)
  ·exact hF (z ▸ q)
theorem Rs.hasSet{l:Nat}{B B':Blk}(h:Rs n0 (H0.has l B) F0 σ F H n G)(hl:n0≤l)(hC:¬ H0.C l):Rs n0 (H0.has l B') F0 σ F (H.set l (some B')) n G∧Fz F H (H.set l (some B')):=by
 obtain⟨h1,h2,h3,h4,h5⟩:=h.unhas hl
 have hne:∀ b,b≠l→(H.set l (some B')).get b=H.get b:=fun b hb=>by rw[Tr.get_set,if_neg hb]
 obtain⟨q1,q2⟩:=h3.out (H':=H.set l (some B')) (Nat.le_refl n) (fun b hb=>hne b fun z=>hC (z ▸ hb)) (fun b hb=>hne b fun z=>h4 (z ▸ hb)) (fun s i hi hn=>hne _ (h5 s i hi hn))
 exact⟨q1.has (by rw[Tr.get_set,if_pos rfl]) h2 h4 h5,q2⟩
end Go.Ev
end
section
namespace Go.Ev
open Go
variable {P:Program} {cal calg calb:Cal} {pcb:FuncId→List D→Option D}
noncomputable def par0(y:List D)(k:Option D):Option D:=match y with
 | []=>k
 | _=>none
noncomputable def par1(y:List D)(k:D→Option D):Option D:=match y with
 | [a]=>k a
 | _=>none
noncomputable def par2(y:List D)(k:D→D→Option D):Option D:=match y with
 | [a,b]=>k a b
 | _=>none
noncomputable def parsK(ps:List Tmp)(N:Nat)(y:List D)(A:Tr AV)(k:Tr AV→Option D):Option D:=match ps with
 | []=>par0 y (k A)
 | [t]=>chkK (Nat.blt t N) (par1 y fun a=>k (A.set t (some (.d a))))
 | [t,u]=>chkK (Nat.blt t N) (chkK (Nat.blt u N) (par2 y fun a b=>k ((A.set t (some (.d a))).set u (some (.d b)))))
 | _=>none
theorem parsK_ok{Qx:D→Prop}{ps:List Tmp}{N:Nat}{y:List D}{A:Tr AV}{k:Tr AV→Option D}(h:∀ A',parsA A N ps y=some A'→OutP Qx (k A')):OutP Qx (parsK ps N y A k):=by
 unfold parsK
 split
 ·cases y with
  | nil=>exact h A rfl
  | cons a l=>exact Out.no
 ·rename_i t
  refine Out.chk fun ht=>?_
  cases y with
  | nil=>exact Out.no
  | cons a l=>
   cases l with
   | nil=>exact h _ (by simp only[parsA,ht])
   | cons b l=>exact Out.no
 ·rename_i t u
  refine Out.chk fun ht=>Out.chk fun hu=>?_
  cases y with
  | nil=>exact Out.no
  | cons a l=>
   cases l with
   | nil=>exact Out.no
   | cons b l=>
    cases l with
    | nil=>exact h _ (by simp only[parsA,ht,hu])
    | cons c l=>exact Out.no
 ·exact Out.no
abbrev CF:=LvA→Code→KA→(Nat→KA)→KA→KA
noncomputable def PW(cf:CF)(lv:LvA)(N:Nat)(ps:List Tmp)(aS bd:Code)(Z:Nat)(k:KA)(x:Nat→KA)(kr:KA):List (List D)→Tr Bx→Option D
 | [],G=>envK Z G fun A=>k A G
 | y::ys,G=>envK Z G fun A=>parsK ps N y A fun A=>
   cf .leaf aS (fun A G=>cf lv.b bd (bK lv.a.c fun _ G=>PW cf lv N ps aS bd Z k x kr ys G) (fun i _ G=>envK Z G fun A=>x i A G) (fun _ G=>envK Z G fun A=>kr A G) A G) (fun _ _ _=>none) (fun _ _=>none) A G
structure Rg (ρ:Type) where
 f:FuncId
 T:Tm
 ps:Array Tmp
 aS:Code
 bd:Code
 Z:Nat
 l:Nat
 d:Nat
 K:KC ρ
 X:XC ρ
 Kr:KC ρ
 k:KA
 x:Nat→KA
 kr:KA
 lv:LvA
structure Cn (ρ:Type) where
 K0:KI ρ
 σ:Nat→Option Si
 F:Nat→Prop
 G:Tr Bx
 pe:Option Code
variable {ρ:Type}
noncomputable def Rg.blk(r:Rg ρ)(P:Program)(st:LoopState)(pe:Option Code):Blk:=.loop st pe r.f r.T (ntm P r.f) r.ps r.aS r.bd r.d
noncomputable def stOf(pe:Option Code):LoopState:=if pe.isNone then .ready else .done
noncomputable def aftA(P:Program)(cf:CF)(r:Rg ρ)(c:Cn ρ)(ys:List (List D)):Option D:=match c.pe with
 | none=>PW cf r.lv (ntm P r.f) r.ps.toList r.aS r.bd r.Z r.k r.x r.kr ys c.G
 | some (.exit i)=>match ys with
  | []=>envK r.Z c.G fun A=>r.x i A c.G
  | _=>none
 | some .ret=>match ys with
  | []=>envK r.Z c.G fun A=>r.kr A c.G
  | _=>none
 | _=>none
noncomputable def Rg.out(r:Rg ρ)(D:List Nat)(o:Option (Value × Hp × Nat)):Option ρ:=bindO o fun y=>fin r.K r.X r.Kr (zK r.l { T:=r.T,H:=y.2.1,n:=y.2.2,D })
noncomputable def Cn.ki(P:Program)(cf:CF)(r:Rg ρ)(n0:Nat)(F0:Nat→Prop)(c:Cn ρ):KI (Value × Hp × Nat) where
 C b:=c.K0.C b∨b=r.l∨c.F b∨∃ s i,c.σ s=some i∧i.nil=false∧i.b=b
 O b:=c.K0.O b∨b=r.l∨ownM c.σ c.F b
 oc b h:=by
  rcases h with h | h | ⟨s,i,h1,h2,h3,_⟩
  ·exact .inl (c.K0.oc b h)
  ·exact .inr (.inl h)
  ·exact .inr (.inr (.inr ⟨s,i,h1,h2,h3⟩))
 ok H:=(∃ nn,Rs n0 (c.K0.has r.l (r.blk P (stOf c.pe) c.pe)) F0 c.σ c.F H nn c.G)∧c.K0.tm r.Z=r.T
 st H H' h g:=by
  obtain⟨⟨nn,q⟩,z⟩:=g
  exact⟨⟨nn,(q.out (Nat.le_refl nn) (fun b hb=>h b (hb.elim .inl fun e=>.inr (.inl e))) (fun b hb=>h b (.inr (.inr (.inl hb)))) (fun s i hi hn=>h _ (.inr (.inr (.inr ⟨s,i,hi,hn,rfl⟩))))).1⟩,z⟩
 Fs _:=False
 tm _:=.nil
 ds:=[]
 R _ _ o x:=∀ ys,x=pJ r.l ys→∀ dd,aftA P cf r c ys=some dd→c.K0.R n0 F0 (r.out c.K0.ds o) dd
def RgF(P:Program)(cf:CF)(r:Rg ρ)(n0:Nat)(F0 F1:Nat→Prop)(Fam:KI ρ→Prop)(K:KI (Value × Hp × Nat)):Prop:=
 ∃ c:Cn ρ,Fam c.K0∧¬ c.K0.C r.l∧(∀ b,F1 b→c.F b)∧K=c.ki P cf r n0 F0
end Go.Ev
end
section
namespace Go.Ev
open Go
variable {P:Program} {cal calg calb:Cal} {pcb:FuncId→List D→Option D} {ρ:Type}
noncomputable def cfB(P:Program)(pcb:FuncId→List D→Option D)(rkb:RK)(m:Nat)(f:FuncId):CF:=fun lv c k x kr=>aq P pcb noY rkb f m lv c k x kr
theorem rgF_yld{r:Rg ρ}{rkb:RK}{zs:List Nat}{m n0:Nat}{F0 F1:Nat→Prop}{Fam:KI ρ→Prop}(hFam:∀ K tm,Fam K→(∀ z,memN (r.Z::zs) z=true→tm z=K.tm z)→Fam { K with tm:=tm })
  (hrk:∀ K1:KI (Ex × St),(∀ H,K1.ok H→zV r.l H)→RkOk P calb (some r.l) rkb n0 (DX K1 (r.Z::zs)) F0) (hpc:∀ f,lk (flO P f) (calb.call f) (pcb f))
  (hb:∀ l f c (st:St),st.D=[]→calg.body l f c st=runB P calb m (some l) f c st.T st.H st.n) (hl:n0≤r.l) :
  YOk P calg lW (r.l+1) (RgF P (cfB P pcb rkb m r.f) r n0 F0 F1 Fam) F1:=by
 refine⟨fun l xs=>rfl,fun K' hK σg Fg H n Gg l' xs vs p q kc hR hxs hk=>?_⟩
 obtain⟨c,hc,hcl,hsub,rfl⟩:=hK
 intro tree e
 obtain⟨p',q',rfl,rfl,rfl⟩:=nodeY_some e
 intro ys hys dd hdd
 cases ys with
 | nil=>simp [pJ,leafT] at hys
 | cons y ys=>
  simp only[pJ,D.fn.injEq,List.cons.injEq] at hys
  obtain⟨e1,e2,e3,e4,_⟩:=hys
  subst e1; subst e2; subst e3; subst e4
  cases hpe:c.pe with
  | some j=>
   exfalso
   unfold aftA at hdd
   rw[hpe] at hdd
   cases j <;> simp at hdd
  | none=>
   have hdd:PW (cfB P pcb rkb m r.f) r.lv (ntm P r.f) r.ps.toList r.aS r.bd r.Z r.k r.x r.kr (xs::ys) c.G=some dd:=by
    unfold aftA at hdd; rw[hpe] at hdd; exact hdd
   obtain⟨⟨nn,hRs⟩,hT⟩:=hR.keep.1
   rw[hpe] at hRs
   have hbd:=hR.keep.2
   have hn:r.l+1≤n:=hR.le
   have h1:=hRs.re (m:=n) (by omega) (fun b hb=>hbd b (hb.elim .inl fun e=>.inr (.inl e))) (fun b hb=>hbd b (.inr (.inr (.inl hb)))) (fun s i hi hn=>hbd _ (.inr (.inr (.inr ⟨s,i,hi,hn,rfl⟩))))
   have h2:=h1.more (E:=Fg) (fun b hb=>by
     rcases hR.fin b hb with q | q
     ·exact .inl (hsub b q)
     ·exact .inr ⟨by omega,q.2⟩)
    (fun b hb=>by
     rcases hR.finC b hb with q | q
     ·exact .inl (hsub b q)
     ·exact .inr fun z=>q (z.elim .inl fun e=>.inr (.inl e)))
    (fun s i hi hn hE=>by
     rcases hR.finC _ hE with q | q
     ·exact hsub _ q
     ·by_cases z : c.F i.b
      ·exact z
      ·exact absurd (.inr (.inr ⟨s,i,hi,hn,rfl,z⟩)) q)
   have hl0:=(h2.unhas hl).1
   let W:Nat→Prop:=fun b=>(∃ s i,σg s=some i∧i.nil=false∧i.b=b)∧¬ (c.ki P (cfB P pcb rkb m r.f) r n0 F0).C b∧¬ Fg b
   have hW:∀ b,(c.F b∨Fg b)→¬ W b:=fun b hb z=>hb.elim (fun y=>z.2.1 (.inr (.inr (.inl y)))) z.2.2
   have hWC:∀ b,W b→CRn c.σ (fun b=>c.F b∨Fg b) n b:=by
    rintro b ⟨⟨s,i,h1,h2,rfl⟩,h3,_⟩
    exact⟨(hR.own s i h1 h2).2,fun⟨s',i',g1,g2,g3,_⟩=>h3 (.inr (.inr (.inr ⟨s',i',g1,g2,g3⟩)))⟩
   refine envK_ok (Qx:=fun dd=>c.K0.R n0 F0 (r.out c.K0.ds (iQ P calg (.func (.yield r.l) ⟨[]⟩ ⟨[]⟩) vs H n kc)) dd) (Z:=r.Z) h2 (fun A hA=>?_) dd hdd
   have hA:TRl c.σ (fun b=>c.F b∨Fg b) H r.T A:=by rw[← hT]; exact hA
   refine parsK_ok fun A1 hA1=>?_
   obtain⟨T1,t1,t2⟩:=parsA_ok (hxs.mono (fun _ z=>.inr z) Fz.refl) hA hA1
   intro dd hdd
   have lAt:∀ {H:Hp} {B:LoopState} {pe:Option Code},H.get r.l=some (r.blk P B pe)→zV r.l H:=fun hg=>⟨r.d,fun T n D=>by unfold vJ; simp only[hg]; rfl⟩
   have hlC:CRn c.σ (fun b=>c.F b∨Fg b) n r.l:=⟨by omega,fun⟨s,i,g1,g2,g3,_⟩=>(h2.unhas hl).2.2.2.2 s i g1 g2 g3⟩
   obtain⟨ex1,s1,σ1,F3,A2,G2,tm1,e0,e1,e2,e3,e4,e5,e6,e8,e7⟩:=runB_ok (cu:=none) (m:=m) hpc hrk (lAt hl0) hlC h2 hW hWC t2 hdd
   have e3:Rs n0 (KI.has { c.K0 with tm:=tm1 } r.l (r.blk P .ready none)) F0 σ1 F3 s1.H s1.n G2:=e3
   cases ex1 with
   | exit i=>cases e7
   | ret=>cases e7
   | norm=>
    obtain⟨u1,u2,u3,u4,u5⟩:=e3.unhas hl
    obtain⟨w1,w2⟩:=e3.hasSet (B':=r.blk P .busy none) hl hcl
    obtain⟨ex2,s2,σ2,F4,A3,G3,tm2,f0,f1,f2,f3,f4,f5,f6,f8,f7⟩:=runB_ok (m:=m) hpc hrk (lAt (w1.unhas hl).1) (e6 _ hlC).2 w1 (W:=W) (fun b hb z=>e8 b z hb) (fun b hb=>(e6 b (hWC b hb)).2) (e4.mono (fun _ _ z=>z) (fun _ z=>z) w2) e7
    have f3:Rs n0 (KI.has { c.K0 with tm:=tm2 } r.l (r.blk P .busy none)) F0 σ2 F4 s2.H s2.n G3:=f3
    have htm:∀ z,memN (r.Z::zs) z=true→tm2 z=c.K0.tm z:=fun z hz=>(f0 z hz).trans (e0 z hz)
    have hT2:tm2 r.Z=r.T:=(htm r.Z (by simp [memN])).trans hT
    obtain⟨v1,v2,v3,v4,v5⟩:=f3.unhas hl
    have hy:∀ j,Qw ex2=some j→Bw (fun | some l=>calg.body l | none=>fun _ _ _=>none) P r.l vs (bare H n) =
      some (.bool j.isNone,{ bare H n with H:=s2.H.set r.l (some (r.blk P (stOf j) j)),n:=s2.n }):=by
     intro j hj
     have a1:calg.body r.l r.f r.aS { T:=T1,H:=H,n:=n,D:=[] }=some (.norm,s1):=(hb _ _ _ _ rfl).trans e1
     have a2:calg.body r.l r.f r.bd { s1 with H:=s1.H.set r.l (some (r.blk P .busy none)) }=some (ex2,s2):=(hb _ _ _ { s1 with H:=s1.H.set r.l (some (r.blk P .busy none)) } e2).trans f1
     have a3:Oj s1.H r.l=true:=by unfold Oj; rw[u1]; rfl
     have a4:yZ s1.H r.l .busy (vZ s1.H r.l)=some (s1.H.set r.l (some (r.blk P .busy none))):=by unfold yZ vZ; rw[u1]; rfl
     have a5:yZ s2.H r.l (if j.isNone then .ready else .done) j=some (s2.H.set r.l (some (r.blk P (stOf j) j))):=by unfold yZ; rw[v1]; rfl
     have a6:Nat.beq (ntm P r.f) (ntm P r.f)=true:=Nat.beq_refl _
     unfold Bw
     have hl1:(bare H n).H.get r.l=some (.loop .ready none r.f r.T (ntm P r.f) r.ps r.aS r.bd r.d):=hl0
     rw[hl1]
     simp only[a6,t1]
     show(match calg.body r.l r.f r.aS { T:=T1,H:=H,n:=n,D:=[] } with
      | some (.norm,s)=>_
      | _=>none)=_
     rw[a1]
     simp only[a3,a4,a2,hj,a5]
    have fin2:∀ j (p2:D) (ys2:List (List D)),Qw ex2=some j→p2=pJ r.l ys2→(∀ b,b=j.isNone→(if b then some (pJ r.l ys) else some leafT)=some p2) →
      aftA P (cfB P pcb rkb m r.f) r ⟨{ c.K0 with tm:=tm2 },σ2,F4,G3,j⟩ ys2=some dd→c.K0.R n0 F0 (r.out c.K0.ds (iQ P calg (.func (.yield r.l) ⟨[]⟩ ⟨[]⟩) vs H n kc)) dd:=by
     intro j p2 ys2 hj hp2 hpq haft
     obtain⟨x1,x2⟩:=f3.hasSet (B':=r.blk P (stOf j) j) hl hcl
     have keepg:∀ b,(CRn c.σ (fun b=>c.F b∨Fg b) n b)→b≠r.l→(s2.H.set r.l (some (r.blk P (stOf j) j))).get b=H.get b∧b<s2.n:=by
      intro b hb hne
      obtain⟨y1,y2⟩:=e6 b hb
      obtain⟨y3,y4⟩:=f6 b y2
      exact⟨by rw[Tr.get_set,if_neg hne,y3,Tr.get_set,if_neg hne,y1],y4.1⟩
     have hFg:∀ b,Fg b→CRn c.σ (fun b=>c.F b∨Fg b) n b∧b≠r.l:=fun b hb=>⟨⟨hR.lt hb,fun⟨_,_,_,_,_,h4⟩=>h4 (.inr hb)⟩,fun z=>(h2.unhas hl).2.2.2.1 (z ▸ .inr hb)⟩
     have hog:∀ s i,σg s=some i→i.nil=false→CRn c.σ (fun b=>c.F b∨Fg b) n i.b∧i.b≠r.l:=fun s i hi hnil=>by
      rcases hR.ownC s i hi hnil with z | z
      ·exact⟨⟨(hR.own s i hi hnil).2,fun⟨s',i',h1,h2,h3,_⟩=>z (.inr (.inr (.inr ⟨s',i',h1,h2,h3⟩)))⟩,fun y=>z (.inr (.inl y))⟩
      ·exact hFg _ z
     have hfz:Fz Fg H (s2.H.set r.l (some (r.blk P (stOf j) j))):=Fz.of_eq fun b hb=>(keepg b (hFg b hb).1 (hFg b hb).2).1
     have hFF:∀ b,c.F b→F4 b:=fun b hb=>f5 b (e5 b (.inl hb))
     have hnew:Rs (r.l+1) (Cn.ki P (cfB P pcb rkb m r.f) r n0 F0 ⟨{ c.K0 with tm:=tm2 },σ2,F4,G3,j⟩) F1 σg Fg (s2.H.set r.l (some (r.blk P (stOf j) j))) s2.n Gg:=by
      refine⟨v2,⟨⟨⟨s2.n,x1⟩,hT2⟩,fun b hb=>?_⟩,hR.sub,fun b hb=>?_,fun b hb=>hR.low b hb,fun s B e=>?_,hR.back,fun s i hi hnil=>⟨(hR.own s i hi hnil).1,(keepg _ (hog s i hi hnil).1 (hog s i hi hnil).2).2⟩,hR.inj,fun s i hi hnil=>?_,fun b hb=>?_,fun b hb=>hb.elim,?_⟩
      ·rcases hb with hb | rfl | hb | ⟨s, i, h1, h2, rfl⟩
       ·exact v3.keep.2 b hb
       ·exact v2
       ·exact v3.lt hb
       ·exact(v3.own s i h1 h2).2
      ·rcases hR.fin b hb with z | z
       ·exact .inl z
       ·exact .inr ⟨z.1,(keepg b (hFg b hb).1 (hFg b hb).2).2⟩
      ·obtain ⟨i, hi, hB⟩ := hR.site s B e
       exact⟨i,hi,hB.only (Q:=fun _=>true) (fun _ _ _ z=>z) (fun _ z=>z) (fun _ z=>z) hfz (fun hnil=>(keepg _ (hog s i hi hnil).1 (hog s i hi hnil).2).1) (sQ _)⟩
      ·rcases hR.ownC s i hi hnil with z | z
       ·by_cases y : Fg i.b
        ·exact .inr y
        ·left
         have hw:W i.b:=⟨⟨s,i,hi,hnil,rfl⟩,z,y⟩
         rintro(q | q | q | ⟨s',i',g1,g2,g3⟩)
         ·exact z (.inl q)
         ·exact z (.inr (.inl q))
         ·exact f8 _ hw q
         ·exact(f6 _ (e6 _ (hWC _ hw)).2).2.2 ⟨s',i',g1,g2,g3,f8 _ hw⟩
       ·exact .inr z
      ·rcases hR.finC b hb with z | z
       ·exact .inl z
       ·right
        rintro(q | q | ⟨s',i',g1,g2,g3,g4⟩)
        ·exact z (.inl q)
        ·exact z (.inr (.inl q))
        ·exact g4 (f5 b (e5 b (.inr hb)))
      ·intro s l e i hi
       have:=hR.site s _ e
       exact hR.tms s l e i hi
     have key:=hk j.isNone (Cn.ki P (cfB P pcb rkb m r.f) r n0 F0 ⟨{ c.K0 with tm:=tm2 },σ2,F4,G3,j⟩) _ _ ⟨⟨{ c.K0 with tm:=tm2 },σ2,F4,G3,j⟩,hFam _ _ hc htm,hcl,fun b hb=>hFF b (hsub b hb),rfl⟩ rfl hnew (fun b hb=>(keepg b (hFg b hb).1 (hFg b hb).2).1) p2 (hpq _ rfl) ys2 hp2 dd haft
     have hcv:iQ P calg (.func (.yield r.l) ⟨[]⟩ ⟨[]⟩) vs H n kc=kc (.bool j.isNone) (s2.H.set r.l (some (r.blk P (stOf j) j))) s2.n:=congrArg (fun o=>stK o kc) (hy j hj)
     rw[hcv]
     exact key
    cases ex2 with
    | norm=>exact fin2 none _ ys rfl rfl (fun b hb=>by subst hb; rfl) f7
    | exit i=>exact fin2 (some (.exit i)) _ [] rfl rfl (fun b hb=>by subst hb; rfl) f7
    | ret=>exact fin2 (some .ret) _ [] rfl rfl (fun b hb=>by subst hb; rfl) f7
end Go.Ev
end
section
namespace Go.Ev
open Go
variable {P:Program} {ρ:Type}
theorem rgF_end{r:Rg ρ}{cf:CF}{n0:Nat}{F0 F1:Nat→Prop}{Fam:KI ρ→Prop}(hK:KS n0 Fam F0 r.K r.k)(hX:∀ i,KS n0 Fam F0 (r.X i) (r.x i))(hKr:KS n0 Fam F0 r.Kr r.kr)(hl:n0≤r.l)
  {K':KI (Value × Hp × Nat)} (hK':RgF P cf r n0 F0 F1 Fam K') {σg:Nat→Option Si} {Fg:Nat→Prop} {H:Hp} {n:Nat} {G:Tr Bx} {v:Value} {x:D} (hx:x=.tup []) (hR:Rs (r.l+1) K' F1 σg Fg H n G):K'.R (r.l+1) F1 (some (v,H,n)) x:=by
 obtain⟨c,hc,hcl,hsub,rfl⟩:=hK'
 intro ys hys dd hdd
 subst hx
 cases ys with
 | cons y ys=>simp [pJ] at hys
 | nil=>
  obtain⟨⟨nn,hRs⟩,hT⟩:=hR.keep.1
  have hbd:=hR.keep.2
  have hn:r.l+1≤n:=hR.le
  have h1:=hRs.re (m:=n) (by omega) (fun b hb=>hbd b (hb.elim .inl fun e=>.inr (.inl e))) (fun b hb=>hbd b (.inr (.inr (.inl hb)))) (fun s i hi hn=>hbd _ (.inr (.inr (.inr ⟨s,i,hi,hn,rfl⟩))))
  have hl0:=(h1.unhas hl).1
  obtain⟨w1,w2⟩:=h1.hasSet (B':=r.blk P .exhausted c.pe) hl hcl
  have h2:=(w1.unhas hl).2.2.1
  have go:∀ {K:KC ρ} {k:KA},KS n0 Fam F0 K k→envK r.Z c.G (fun A=>k A c.G)=some dd→c.K0.R n0 F0 (K r.T (H.set r.l (some (r.blk P .exhausted c.pe))) n c.K0.ds) dd:=by
   intro K k hk e
   exact envK_ok (Qx:=fun dd=>c.K0.R n0 F0 (K r.T (H.set r.l (some (r.blk P .exhausted c.pe))) n c.K0.ds) dd) h2 (fun A hA=>hk c.K0 hc c.σ c.F _ n r.T A c.G h2 (by rw[← hT]; exact hA)) dd e
  show c.K0.R n0 F0 (fin r.K r.X r.Kr (zK r.l { T:=r.T,H:=H,n:=n,D:=c.K0.ds })) dd
  unfold zK
  simp only
  rw[hl0]
  cases hpe:c.pe with
  | none=>
   unfold aftA at hdd; rw[hpe] at hdd
   have:=go hK hdd
   rw[hpe] at this
   exact this
  | some j=>
   unfold aftA at hdd; rw[hpe] at hdd
   cases j with
   | exit i=>
    have:=go (hX i) hdd
    rw[hpe] at this
    exact this
   | ret=>
    have:=go hKr hdd
    rw[hpe] at this
    exact this
   | _=>cases hdd
end Go.Ev
end
section
namespace Go.Ev
open Go
variable {P:Program} {cal calg calb:Cal} {pcg pcb:FuncId→List D→Option D} {ρ:Type}
noncomputable def cX(bd:Code):Nat:=match bd with
 | .block id _=>1000000+id
 | _=>1000000
noncomputable def AK(P:Program)(g:FuncId):Bool:=match P.funcs[g]? with
 | some fn=>fn.results.toList.isEmpty
 | none=>false
noncomputable def envG(Z N:Nat)(A:Tr AV)(G:Tr Bx):Tr Bx:=(mapT (poiB Z) G).set Z (some (.env (toL (zx (some Z) A) (List.range N))))
noncomputable def gw(P:Program)(rg:FuncId→List D→Option D)(pcb:FuncId→List D→Option D)(rkb:List Nat→RK)(m:Nat)(zs:List Nat):RK:=fun lv f a ps aS bd k x kr A G=>
 getK (fzV 9 a G) fun r=>fnK r.1 fun g ca cb=>chkK (AK P g && !memN zs (cX bd)) (Yj (fun l=>rg g (ca++.yld l::cb)) fun ys=>
  PW (cfB P pcb (rkb (cX bd::zs)) m f) lv (ntm P f) ps aS bd (cX bd) k x kr ys (envG (cX bd) (ntm P f) A r.2))
theorem Rs.congr{K:KI ρ}{σ:Nat→Option Si}{F F0:Nat→Prop}{H:Hp}{n n0:Nat}{G G':Tr Bx}(h:Rs n0 K F0 σ F H n G)(e:∀ s,G'.get s=G.get s):Rs n0 K F0 σ F H n G':=
 ⟨h.le,h.keep,h.sub,h.fin,h.low,fun s B q=>h.site s B ((e s).symm.trans q),fun s i q=>by obtain⟨B,hB⟩:=h.back s i q; exact⟨B,(e s).trans hB⟩,h.own,h.inj,h.ownC,h.finC,h.fs,fun s l q=>h.tms s l ((e s).symm.trans q)⟩
theorem Hv{l:Nat}{b:List Value}:∀ {a:List Value},ek (a++.func (.yield l) ⟨[]⟩ ⟨[]⟩::b)=false
 | []=>by simp [ek,bz]
 | v::a=>by simp [ek,Hv (l:=l) (b:=b) (a:=a)]
theorem memN_cons{x z:Nat}{l:List Nat}(h:memN l z=true):memN (x::l) z=true:=by
 simp only[memN]
 split
 ·rfl
 ·exact h
theorem range_core{rkb:RK}{zs:List Nat}{Lv0:FuncId→Lv}{L:FuncId→LvA}{mg m n0 n d:Nat}{F0 F1:Nat→Prop}{Fam:KI ρ→Prop}{K1:KI ρ}{f:FuncId}{ps:Array Tmp}{aS bd:Code}{lv:LvA}{g:FuncId}
  {K:KC ρ} {X:XC ρ} {Kr:KC ρ} {k:KA} {x:Nat→KA} {kr:KA} {σ:Nat→Option Si} {H:Hp} {G:Tr Bx} {T:Tm} {A:Tr AV} {ca cb:List D} {va vb:List Value} {ys:List (List D)} {dd:D}
  (hpg:∀ f,lk (flO P f) (calg.call f) (pcg f)) (hpc:∀ f,lk (flO P f) (calb.call f) (pcb f))
  (hb:∀ l f c (st:St),st.D=[]→calg.body l f c st=runB P calb m (some l) f c st.T st.H st.n) (hcall:∀ g,AK P g=true→∀ vs H n,cal.call g vs H n=aW P calg Lv0 mg g vs H n) (hlv:∀ g,Lv0 g=.leaf)
  (hFam:∀ K tm,Fam K→(∀ z,memN zs z=true→tm z=K.tm z)→Fam { K with tm:=tm })
  (hrk:∀ l,∀ K1:KI (Ex × St),(∀ H,K1.ok H→zV l H)→RkOk P calb (some l) rkb n0 (DX K1 (cX bd::zs)) F0)
  (hK:KS n0 Fam F0 K k) (hX:∀ i,KS n0 Fam F0 (X i) (x i)) (hKr:KS n0 Fam F0 Kr kr) (hF:Fam K1) (h:Rs n0 K1 F0 σ F1 H n G) (ht:TRl σ F1 H T A)
  (hZ:memN zs (cX bd)=false) (hres:AK P g=true) (q1:aK F1 H ca va) (q2:aK F1 H cb vb)
  (e1:∀ l,cQ P pcg lW noR L mg g (ca++.yld l::cb)=some (pJ l ys))
  (e2:PW (cfB P pcb rkb m f) lv (ntm P f) ps.toList aS bd (cX bd) k x kr ys (envG (cX bd) (ntm P f) A G)=some dd) :
  K1.R n0 F0 ((⟨f,T,ps,aS,bd,cX bd,n,d,K,X,Kr,k,x,kr,lv⟩:Rg ρ).out K1.ds (cal.call g (va++.func (.yield n) ⟨[]⟩ ⟨[]⟩::vb) (H.set n (some ((⟨f,T,ps,aS,bd,cX bd,n,d,K,X,Kr,k,x,kr,lv⟩:Rg ρ).blk P .ready none))) (n+1))) dd:=by
 generalize hrr:(⟨f,T,ps,aS,bd,cX bd,n,d,K,X,Kr,k,x,kr,lv⟩:Rg ρ)=rr
 have rl:rr.l=n:=by subst hrr; rfl
 have rZ:rr.Z=cX bd:=by subst hrr; rfl
 have rT:rr.T=T:=by subst hrr; rfl
 have hn0:n0≤n:=h.le
 have hlt:∀ b,b<n→(H.set n (some (rr.blk P .ready none))).get b=H.get b:=fun b hb=>by rw[Tr.get_set,if_neg (by omega)]
 obtain⟨t1,t2⟩:=h.out (n':=n+1) (H':=H.set n (some (rr.blk P .ready none))) (by omega) (fun b hb=>hlt b (h.keep.2 b hb)) (fun b hb=>hlt b (h.lt hb)) (fun s i hi hn=>hlt _ (h.own s i hi hn).2)
 have t3:=t1.has (l:=n) (B:=rr.blk P .ready none) (by rw[Tr.get_set,if_pos rfl]) (by omega) (fun z=>by have:=h.lt z; omega) (fun s i hi hn z=>by have:=(h.own s i hi hn).2; omega)
 obtain⟨u1,u2⟩:=t3.poison (cX bd)
 let i':Si:=⟨0,0,0,1,true,T⟩
 obtain⟨w1,w2⟩:=u1.put (s:=cX bd) (i':=i') (B':=.vec [] 0 1 false) (n':=n+1) (H':=H.set n (some (rr.blk P .ready none))) (Nat.le_refl _) (fun _ _ _=>rfl) (fun _ _ _=>.inr rfl) (fun z=>by cases z)
  (.inr (.inr fun s B _ e=>u2 s B e)) (fun _=>⟨rfl,rfl,Nat.le_refl 1,.inl ⟨rfl,rfl⟩⟩)
 have hta:TRl (upd σ (cX bd) i') F1 (H.set n (some (rr.blk P .ready none))) T (zx (some (cX bd)) A):=killT t2 ht
 let K2:KI ρ:={ K1 with tm:=fun s=>if s=cX bd then T else K1.tm s }
 have w3:Rs n0 (K2.has n (rr.blk P .ready none)) F0 (upd σ (cX bd) i') F1 (H.set n (some (rr.blk P .ready none))) (n+1) ((mapT (poiB (cX bd)) G).set (cX bd) (some (.vec [] 0 1 false))):=by
  refine⟨w2.le,w2.keep,w2.sub,w2.fin,w2.low,w2.site,w2.back,w2.own,w2.inj,w2.ownC,w2.finC,w2.fs,fun s l e j hj=>?_⟩
  by_cases hs:s=cX bd
  ·subst hs; rw[Tr.get_set,if_pos rfl] at e; cases e
  ·have := w2.tms s l e j hj
   show j.tm=if s=cX bd then T else K1.tm s
   rw[if_neg hs]; exact this
 obtain⟨y1,y2⟩:=w3.put (s:=cX bd) (i':=i') (B':=.env (toL (zx (some (cX bd)) A) (List.range (ntm P f)))) (n':=n+1) (H':=H.set n (some (rr.blk P .ready none))) (Nat.le_refl _) (fun _ _ _=>rfl) (fun _ _ _=>.inr rfl) (fun z=>by cases z)
  (.inr (.inl eV)) (fun _=>⟨rfl,fun z hz=>by
   obtain⟨v,v1,v2⟩:=hta z.1 z.2 (toL_mem hz)
   have eu:upd (upd σ (cX bd) i') (cX bd) i'=upd σ (cX bd) i':=by funext s; unfold upd; split <;> rfl
   exact⟨v,v1,by rw[eu]; exact v2⟩⟩) (fun l _=>by show T=if cX bd=cX bd then T else _; rw[if_pos rfl])
 have y2:=y2.congr (G':=envG (cX bd) (ntm P f) A G) (fun s=>by unfold envG; simp only[Tr.get_set]; split <;> rfl)
 let c0:Cn ρ:=⟨K2,upd (upd σ (cX bd) i') (cX bd) i',F1,envG (cX bd) (ntm P f) A G,none⟩
 have hfam:RgF P (cfB P pcb rkb m f) rr n0 F0 F1 Fam (c0.ki P (cfB P pcb rkb m f) rr n0 F0):=by
  refine⟨c0,hFam K1 _ hF (fun z hz=>by rw[if_neg (fun e=>by subst e; rw[hZ] at hz; cases hz)]),fun z=>?_,fun _ z=>z,rfl⟩
  have z:K1.C rr.l:=z
  have:=h.keep.2 _ z
  omega
 have hTT:(if cX bd=cX bd then T else K1.tm (cX bd))=T:=if_pos rfl
 have hg0:Rs (n+1) (c0.ki P (cfB P pcb rkb m f) rr n0 F0) F1 (fun _=>none) F1 (H.set n (some (rr.blk P .ready none))) (n+1) .nil:=by
  refine⟨Nat.le_refl _,⟨⟨⟨n+1,by rw[rl]; exact y2⟩,by rw[rZ,rT]; exact hTT⟩,fun b hb=>?_⟩,fun _ z=>z,fun _ z=>.inl z,fun b hb=>y2.lt hb,fun s B q=>(by rw[Tr.get_nil] at q; cases q),fun s i q=>(by cases q),fun s i q=>(by cases q),fun s s' i j q=>(by cases q),fun s i q=>(by cases q),fun _ z=>.inl z,fun _ z=>z.elim,fun s l q=>(by rw[Tr.get_nil] at q; cases q)⟩
  rcases hb with hb | hb | hb | ⟨s,i,h1,h2,rfl⟩
  ·exact y2.keep.2 b (.inl hb)
  ·rw[rl] at hb; omega
  ·exact y2.lt hb
  ·exact(y2.own s i h1 h2).2
 have hvs:aK F1 (H.set n (some (rr.blk P .ready none))) (ca++.yld n::cb) (va++.func (.yield n) ⟨[]⟩ ⟨[]⟩::vb):=
  (q1.mono (fun _ z=>z) t2).append (by unfold aK; exact⟨_,vb,rfl,by unfold DRel; rfl,q2.mono (fun _ z=>z) t2⟩)
 have rcf:cfB P pcb rkb m f=cfB P pcb rkb m rr.f:=by subst hrr; rfl
 have key:=bodyY_ok (P:=P) (cal:=calg) (pc:=pcg) (n0:=n+1) (F0:=F1) (Fam:=RgF P (cfB P pcb rkb m f) rr n0 F0 F1 Fam) (L:=L) (m:=mg) (f:=g) hpg
  (by
   have:=rgF_yld (r:=rr) (rkb:=rkb) (zs:=zs) (m:=m) (n0:=n0) (F0:=F0) (F1:=F1) (Fam:=Fam) (calg:=calg) (calb:=calb) (pcb:=pcb)
    (fun K tm hK htm=>hFam K tm hK fun z hz=>htm z (memN_cons hz)) (by rw[rZ]; exact hrk rr.l) hpc hb (by omega)
   rw[rl,← rcf] at this; exact this) Vw (dsOk_nil fun K z=>by obtain⟨c,_,_,_,rfl⟩:=z; rfl)
  (fun K' hK' σ F H n' G v x _ hx q _=>by
   have:=rgF_end (r:=rr) (cf:=cfB P pcb rkb m f) (n0:=n0) (F0:=F0) (F1:=F1) (Fam:=Fam) (by subst hrr; exact hK) (by subst hrr; exact hX) (by subst hrr; exact hKr) (by omega) hK' (v:=v) (x:=x) (H:=H) (n:=n') (G:=G) (σg:=σ) (Fg:=F) (by
    unfold AK at hres
    split at hres
    ·rename_i fn hfn; exact hx fn hfn (List.isEmpty_iff.1 hres)
    ·cases hres) (by rw[rl]; exact q)
   rw[rl] at this; exact this) (hlv g) hfam rfl hg0 hvs
 have:=key _ (e1 n) ys (by rw[rl]) dd (by subst hrr; exact e2)
 rw[hcall g hres]
 exact this
theorem rangeA_ok{rkb:List Nat→RK}{Lv0:FuncId→Lv}{L:FuncId→LvA}{mg m n0:Nat}{F0:Nat→Prop}{K0:KI ρ}(hpg:∀ f,lk (flO P f) (calg.call f) (pcg f))(hpc:∀ f,lk (flO P f) (calb.call f) (pcb f))
  (hb:∀ l f c (st:St),st.D=[]→calg.body l f c st=runB P calb m (some l) f c st.T st.H st.n) (hcall:∀ g,AK P g=true→∀ vs H n,cal.call g vs H n=aW P calg Lv0 mg g vs H n) (hlv:∀ g,Lv0 g=.leaf)
  (hrk:∀ zs l,∀ K1:KI (Ex × St),(∀ H,K1.ok H→zV l H)→RkOk P calb (some l) (rkb zs) n0 (DX K1 zs) F0) :
  RkOk P cal none (gw P (cQ P pcg lW noR L mg) pcb rkb m []) n0 (AddF K0) F0:=by
 intro lv f ps aS bd K X Kr k x kr hK hX hKr H0 hF σ F H n T A G a v h ht hv
 unfold gw
 refine Out.getK fun r hr=>?_
 obtain⟨⟨⟨F1,r1,r2,r3⟩,_⟩,_⟩:=yq 9 a F G r.1 r.2 v h hv hr
 cases hd:r.1 with
 | fn g ca cb=>
  rw[hd] at r3
  unfold DRel at r3
  obtain⟨va,vb,rfl,q1,q2⟩:=r3
  refine Out.chk fun hres=>?_
  simp only[Bool.and_eq_true] at hres
  intro dd e
  obtain⟨ys,e1,e2⟩:=iterK_some e
  obtain⟨s1,s2,s3⟩:=r1.add
  have key:=range_core (cal:=cal) (d:=n) (K:=K) (X:=X) (Kr:=Kr) (x:=x) (kr:=kr) (zs:=[]) hpg hpc hb hcall hlv (Fam:=AddF K0) (fun K tm hK _=>.keep tm hK) (fun l=>hrk _ l) hK hX hKr (.add n hF s3) s1 ((ht.mono (fun _ _ z=>z) r2 Fz.refl).mono (fun _ _ z=>z) (fun _ z=>z) s2) rfl hres.1 (q1.mono (fun _ z=>z) s2) (q2.mono (fun _ z=>z) s2) e1 e2
  have hcon:CZ P cal none f (.func (.func g) ⟨va⟩ ⟨vb⟩) ps aS bd K X Kr T H n H0.ds =
    (⟨f,T,ps,aS,bd,cX bd,n+1,n,K,X,Kr,k,x,kr,lv⟩:Rg ρ).out (n::H0.ds) (cal.call g (va++.func (.yield (n+1)) ⟨[]⟩ ⟨[]⟩::vb) ((H.set n (some .deferred)).set (n+1) (some ((⟨f,T,ps,aS,bd,cX bd,n+1,n,K,X,Kr,k,x,kr,lv⟩:Rg ρ).blk P .ready none))) (n+1+1)):=by
   unfold CZ vJ aZ
   simp only[Hv,Bool.and_false]
   rfl
  rw[hcon]
  exact key
 | _=>exact Out.no
theorem rangeI_ok{rkb:List Nat→RK}{zs:List Nat}{l:Nat}{Lv0:FuncId→Lv}{L:FuncId→LvA}{mg m n0:Nat}{F0:Nat→Prop}{K1:KI ρ}(hL:∀ H,K1.ok H→zV l H)(hpg:∀ f,lk (flO P f) (calg.call f) (pcg f))(hpc:∀ f,lk (flO P f) (calb.call f) (pcb f))
  (hb:∀ l f c (st:St),st.D=[]→calg.body l f c st=runB P calb m (some l) f c st.T st.H st.n) (hcall:∀ g,AK P g=true→∀ vs H n,cal.call g vs H n=aW P calg Lv0 mg g vs H n) (hlv:∀ g,Lv0 g=.leaf)
  (hrk:∀ zs l,∀ K1:KI (Ex × St),(∀ H,K1.ok H→zV l H)→RkOk P calb (some l) (rkb zs) n0 (DX K1 zs) F0) :
  RkOk P cal (some l) (gw P (cQ P pcg lW noR L mg) pcb rkb m zs) n0 (DX K1 zs) F0:=by
 intro lv f ps aS bd K X Kr k x kr hK hX hKr H0 hF σ F H n T A G a v h ht hv
 unfold gw
 refine Out.getK fun r hr=>?_
 obtain⟨⟨⟨F1,r1,r2,r3⟩,_⟩,_⟩:=yq 9 a F G r.1 r.2 v h hv hr
 cases hd:r.1 with
 | fn g ca cb=>
  rw[hd] at r3
  unfold DRel at r3
  obtain⟨va,vb,rfl,q1,q2⟩:=r3
  refine Out.chk fun hres=>?_
  simp only[Bool.and_eq_true,Bool.not_eq_true'] at hres
  intro dd e
  obtain⟨ys,e1,e2⟩:=iterK_some e
  have hloop:zV l H:=by
   obtain⟨tm,_,rfl⟩:=hF
   exact hL H h.keep.1
  obtain⟨d,hd'⟩:=hloop
  have hFam:∀ K tm,DX K1 zs K→(∀ z,memN zs z=true→tm z=K.tm z)→DX K1 zs { K with tm:=tm }:=by
   rintro K tm ⟨tm0,h0,rfl⟩ h1
   exact⟨tm,fun z hz=>(h1 z hz).trans (h0 z hz),rfl⟩
  have key:=range_core (cal:=cal) (d:=d) (K:=K) (X:=X) (Kr:=Kr) (x:=x) (kr:=kr) (zs:=zs) hpg hpc hb hcall hlv (Fam:=DX K1 zs) hFam (fun l=>hrk _ l) hK hX hKr hF r1 (ht.mono (fun _ _ z=>z) r2 Fz.refl) hres.2 hres.1 q1 q2 e1 e2
  have hcon:CZ P cal (some l) f (.func (.func g) ⟨va⟩ ⟨vb⟩) ps aS bd K X Kr T H n H0.ds =
    (⟨f,T,ps,aS,bd,cX bd,n,d,K,X,Kr,k,x,kr,lv⟩:Rg ρ).out H0.ds (cal.call g (va++.func (.yield n) ⟨[]⟩ ⟨[]⟩::vb) (H.set n (some ((⟨f,T,ps,aS,bd,cX bd,n,d,K,X,Kr,k,x,kr,lv⟩:Rg ρ).blk P .ready none))) (n+1)):=by
   unfold CZ aZ
   simp only[hd',Hv,Bool.and_false]
   rfl
  rw[hcon]
  exact key
 | _=>exact Out.no
end Go.Ev
end
section
namespace Go.Ev
open Go
variable {P:Program}
abbrev PC:=FuncId→List D→Option D
abbrev Man:=Nat→FuncId→Option (List D→Option D)
noncomputable def Hw(P:Program)(L:FuncId→LvA)(m:Nat)(man:Man)(l:Nat)(pc:PC)(rk:List Nat→RK):PC:=fun f ds=>match man l f with
 | some p=>p ds
 | none=>match ownF f with
  | none=>cQ P pc noY (rk []) L m f ds
  | some x=>XK P pc L m f x.1 x.2 ds
noncomputable def tw(P:Program)(L:FuncId→LvA)(m:Nat)(man:Man):Nat→PC × (List Nat→RK)
 | 0=>(fun _ _=>none,fun _=>noR)
 | 1=>(Hw P L m man 1 (fun _ _=>none) (fun _=>noR),fun _=>noR)
 | l+2=>(Hw P L m man (l+2) (tw P L m man (l+1)).1 (tw P L m man (l+1)).2,gw P (cQ P (tw P L m man (l+1)).1 lW noR L m) (tw P L m man l).1 (tw P L m man l).2 m)
noncomputable def pcR(P:Program)(L:FuncId→LvA)(m:Nat)(man:Man)(l:Nat):PC:=(tw P L m man l).1
noncomputable def rkR(P:Program)(L:FuncId→LvA)(m:Nat)(man:Man)(l:Nat):List Nat→RK:=(tw P L m man l).2
noncomputable def rgR(P:Program)(L:FuncId→LvA)(m:Nat)(man:Man)(l:Nat):PC:=fun f ds=>cQ P (pcR P L m man l) lW noR L m f ds
theorem bV{L:FuncId→LvA}{m l:Nat}{man:Man}{f:FuncId}{ds:List D}(h:man (l+1) f=none)(ho:ownF f=none:=by rfl):pcR P L m man (l+1) f ds=cQ P (pcR P L m man l) noY (rkR P L m man l []) L m f ds:=by
 have:pcR P L m man (l+1) f ds=Hw P L m man (l+1) (pcR P L m man l) (rkR P L m man l) f ds:=by cases l <;> rfl
 rw[this]
 unfold Hw
 rw[h,ho]
theorem pcR_own{L:FuncId→LvA}{m l:Nat}{man:Man}{f:FuncId}{ds:List D}{e:TypeId}{s:Nat}(h:man (l+1) f=none)(ho:ownF f=some (e,s):=by rfl):pcR P L m man (l+1) f ds=XK P (pcR P L m man l) L m f e s ds:=by
 have:pcR P L m man (l+1) f ds=Hw P L m man (l+1) (pcR P L m man l) (rkR P L m man l) f ds:=by cases l <;> rfl
 rw[this]
 unfold Hw
 rw[h,ho]
theorem pcR_man{L:FuncId→LvA}{m l:Nat}{man:Man}{f:FuncId}{ds:List D}{p:List D→Option D}(h:man (l+1) f=some p):pcR P L m man (l+1) f ds=p ds:=by
 have:pcR P L m man (l+1) f ds=Hw P L m man (l+1) (pcR P L m man l) (rkR P L m man l) f ds:=by cases l <;> rfl
 rw[this]
 unfold Hw
 rw[h]
structure Alt where
 A:FuncId→Lv
 tab:FuncId→Option (Cal→List Value→Hp→Nat→Res)
 W:FuncId→Bool
variable {q:Alt}
noncomputable def calR(P:Program)(q:Alt)(m:Nat):Nat→Cal
 | 0=>{ call:=fun _ _ _ _=>none,body:=fun _ _ _ _=>none }
 | l+1=>{
  call:=fun f args H n=>match q.W f with
   | true=>(calE P q.A m q.tab (l+1)).call f args H n
   | false=>aW P (calR P q m l) (fun _=>.leaf) m f args H n
  body:=fun k f c st=>runB P (calR P q m l) m (some k) f c st.T st.H st.n >>= fun r=>match st.D with
   | []=>some r
   | _=>none }
noncomputable def recR(P:Program)(q:Alt)(m:Nat):Nat→Rec
 | 0,_,_,_,_=>none
 | l+1,none,f,c,st=>match q.W f with
  | true=>evLA P q.A m (l+1) none f c st
  | false=>evFA P (recR P q m l) m .leaf none f c st
 | l+1,some k,f,c,st=>evFA P (recR P q m l) m .leaf (some k) f c st
theorem recR_ok{m:Nat}:∀ l,Snd P (recR P q m l)
 | 0=>fun _ _ _ _ _ _ e=>by simp [recR] at e
 | l+1=>fun ro f c st ex st' e=>by
  cases ro with
  | none=>
   simp only[recR] at e
   split at e
   ·exact evLA_ok P q.A m (l+1) none f c st ex st' e
   ·exact YQ P (recR_ok l) m _ none f c st ex st' e
  | some k=>exact YQ P (recR_ok l) m _ (some k) f c st ex st' e
theorem calR_rec{m:Nat}(ht:DJ P q.A m q.tab):∀ l,(calR P q m l).Ok P (recR P q m l)
 | 0=>⟨fun _ _ _ _ e=>(by cases e),fun _ _ _ _ _ e=>(by cases e)⟩
 | l+1=>by
  have ih:=calR_rec ht l
  refine⟨fun f args st r e=>?_,fun l2 f c st r e=>?_⟩
  ·simp only [calR] at e
   split at e
   ·rename_i hW
    have h:=(calE_ok ht (l+1)).call f args st r e
    unfold Jw at h ⊢
    have e2:∀ c st,recR P q m (l+1) none f c st=evLA P q.A m (l+1) none f c st:=fun c st=>by simp only[recR,hW]
    simp only[e2]
    exact h
   ·rename_i hW
    unfold aW at e
    unfold Jw
    split at e
    ·cases e
    rename_i fn hf
    split at e
    ·cases e
    rename_i c hb
    simp only[hf,hb]
    split at e
    ·cases e
    rename_i hcond
    rw[if_neg hcond]
    have h:=GX ih m .leaf none f c _ _ _ { T:=pj .nil 0 args,H:=st.H,n:=st.n,D:=[] } e
    have e2:recR P q m (l+1) none f c { T:=pj .nil 0 args,H:=st.H,n:=st.n,D:=[] }=evFA P (recR P q m l) m .leaf none f c { T:=pj .nil 0 args,H:=st.H,n:=st.n,D:=[] }:=by simp only[recR,hW]
    rw[e2]
    generalize evFA P (recR P q m l) m .leaf none f c { T:=pj .nil 0 args,H:=st.H,n:=st.n,D:=[] }=o at h
    match o,h with
    | none,h=>cases h
    | some (.norm,s),h=>
     obtain⟨H',vs,h1,h2,rfl⟩:=Pj h
     simp only[h1,h2]
    | some (.exit _,s),h=>cases h
    | some (.ret,s),h=>
     obtain⟨H',vs,h1,h2,rfl⟩:=Pj h
     simp only[h1,h2]
  ·simp only [calR] at e
   cases hD:st.D with
   | cons a d=>
    rw[hD] at e
    cases hr:runB P (calR P q m l) m (some l2) f c st.T st.H st.n with
    | none=>rw[hr] at e; cases e
    | some x=>rw[hr] at e; cases e
   | nil=>
    have e:runB P (calR P q m l) m (some l2) f c st.T st.H st.n=some r:=by
     rw[hD] at e
     cases hr:runB P (calR P q m l) m (some l2) f c st.T st.H st.n with
     | none=>rw[hr] at e; cases e
     | some x=>rw[hr] at e; exact e
    have hst:st={ T:=st.T,H:=st.H,n:=st.n,D:=[] }:=by rw[← hD]
    have h:=GX ih m .leaf (some l2) f c _ _ _ { T:=st.T,H:=st.H,n:=st.n,D:=[] } e
    have e2:recR P q m (l+1) (some l2) f c st=evFA P (recR P q m l) m .leaf (some l2) f c st:=rfl
    rw[e2,hst]
    generalize evFA P (recR P q m l) m .leaf (some l2) f c { T:=st.T,H:=st.H,n:=st.n,D:=[] }=o at h
    match o,h with
    | none,h=>cases h
    | some (.norm,s),h=>exact h
    | some (.exit _,s),h=>exact h
    | some (.ret,s),h=>exact h
theorem Vx{m l:Nat}{f:FuncId}{vs:List Value}{H:Hp}{n:Nat}(hW:q.W f=false):(calR P q m (l+1)).call f vs H n=aW P (calR P q m l) (fun _=>.leaf) m f vs H n:=by
 simp only[calR,hW]
theorem calR_alt{m l:Nat}{f:FuncId}{vs:List Value}{H:Hp}{n:Nat}(hW:q.W f=true):(calR P q m (l+1)).call f vs H n=(calE P q.A m q.tab (l+1)).call f vs H n:=by
 simp only[calR,hW]
theorem calR_body{m l k:Nat}{f:FuncId}{c:Code}{st:St}(h:st.D=[]):(calR P q m (l+1)).body k f c st=runB P (calR P q m l) m (some k) f c st.T st.H st.n:=by
 simp only[calR,h]
 cases runB P (calR P q m l) m (some k) f c st.T st.H st.n <;> rfl
theorem calls_of_calR{m:Nat}(ht:DJ P q.A m q.tab){l:Nat}{f:FuncId}{v:Value}{args args':List Value}{H H':Hp}{n n':Nat}{φ:Phi}{w:World}
  {R:Nat→Prop} (hI:I w ⟨fun _=>False,R⟩ φ H n w) (hargs:VRL φ args args')
  (e:(calR P q m l).call f args H n=some (v,H',n')) (hp:bz v=true) :
  Calls P f ⟨args'⟩ w fun en w'=>en=.returned v∧w'.os=w.os∧w'.tape=w.tape∧w'.output=w.output∧w.heap.size≤w'.heap.size∧(∀ b,b<w.heap.size→w'.heap[b]?=w.heap[b]?)∧∀ b:Nat,frOb w'.heap[b]?=frOb w.heap[b]?:=by
 refine(calls_of (recR_ok l) ((calR_rec ht l).call f args { T:=.nil,H:=H,n:=n,D:=[] } _ e) hI hargs).mono ?_
 rintro en w' ⟨φ',v',rfl,hv,hx,h⟩
 refine⟨by rw[bz.eq hp hv],h.os,h.tape,h.output,h.size,fun b hb=>h.keep b hb (fun z=>z),h.fz⟩
structure ManOk (P:Program) (q:Alt) (m:Nat) (man:Man):Prop where
 no:∀ l f,q.W f=true→man l f≠none
 res:∀ f,q.W f=true→AK P f=false
 yes:∀ l f p,man l f=some p→lk (flO P f) ((calR P q m l).call f) p
structure TwOk (P:Program) (q:Alt) (L:FuncId→LvA) (m:Nat) (man:Man) (l:Nat):Prop where
 pc:∀ f,lk (flO P f) ((calR P q m l).call f) (pcR P L m man l f)
 rk:∀(ρ:Type) n0 F0 (K0:KI ρ),RkOk P (calR P q m l) none (rkR P L m man l []) n0 (AddF K0) F0
 ri:∀(ρ:Type) n0 F0 zs k,∀ K1:KI ρ,(∀ H,K1.ok H→zV k H)→RkOk P (calR P q m l) (some k) (rkR P L m man l zs) n0 (DX K1 zs) F0
theorem pcStep_str{L:FuncId→LvA}{m l:Nat}{man:Man}(hm:ManOk P q m man)(h:TwOk P q L m man l)(f:FuncId)(hf:man (l+1) f=none)(ho:ownF f=none):PStr ((calR P q m (l+1)).call f) (pcR P L m man (l+1) f):=by
 have:=bodyR_ok (P:=P) (cal:=calR P q m l) (pc:=pcR P L m man l) (L:=L) (m:=m) (f:=f) (rk:=rkR P L m man l []) (Lv0:=fun _=>.leaf) h.pc (fun n0 F0 K0 _=>h.rk _ n0 F0 K0) rfl
 intro ds d F H n vs e hF hv
 have hW:q.W f=false:=by
  cases hq:q.W f with
  | false=>rfl
  | true=>exact absurd hf (hm.no _ _ hq)
 rw[Vx hW]
 exact this ds d F H n vs (by rw[← bV hf ho]; exact e) hF hv
theorem pcStep_ok{L:FuncId→LvA}{m l:Nat}{man:Man}(hm:ManOk P q m man)(h:TwOk P q L m man l)(f:FuncId):lk (flO P f) ((calR P q m (l+1)).call f) (pcR P L m man (l+1) f):=by
 cases hf:man (l+1) f with
 | none=>
  cases ho:ownF f with
  | none=>exact(pcStep_str hm h f hf ho).spec ho
  | some x=>
   obtain⟨e,s⟩:=x
   have hW:q.W f=false:=by
    cases hq:q.W f with
    | false=>rfl
    | true=>exact absurd hf (hm.no _ _ hq)
   have key:=bodyO_ok (P:=P) (cal:=calR P q m l) (pc:=pcR P L m man l) (L:=L) (m:=m) (f:=f) (e:=e) (sz:=s) (Lv0:=fun _=>.leaf) h.pc rfl
   intro ds d F H n vs ex _ hF hv
   have:=key ds d F H n vs (by rw[← pcR_own hf ho]; exact ex) hF hv
   rw[Vx hW]
   refine⟨this.out,fun e' s' q=>?_⟩
   have q:ownF f=some (e',s'):=q
   rw[ho] at q
   cases q
   exact this
 | some p=>
  have:pcR P L m man (l+1) f=p:=by funext ds; exact pcR_man hf
  rw[this]
  exact hm.yes _ _ _ hf
theorem tw_ok{L:FuncId→LvA}{m:Nat}{man:Man}(hm:ManOk P q m man):∀ l,TwOk P q L m man l∧TwOk P q L m man (l+1)
 | 0=>by
  have h0:TwOk P q L m man 0:=⟨fun f ds d F H n vs e=>(by cases e),fun _ _ _ _=>Vw,fun _ _ _ _ _ _ _=>Vw⟩
  exact⟨h0,pcStep_ok hm h0,fun _ _ _ _=>Vw,fun _ _ _ _ _ _ _=>Vw⟩
 | l+1=>by
  obtain⟨h0,h1⟩:=tw_ok (L:=L) hm l
  have hc:∀ l g,AK P g=true→∀ vs H n,(calR P q m (l+1)).call g vs H n=aW P (calR P q m l) (fun _=>.leaf) m g vs H n:=fun l g hg vs H n=>Vx (by
   cases hq:q.W g with
   | false=>rfl
   | true=>rw[hm.res g hq] at hg; cases hg)
  refine⟨h1,pcStep_ok hm h1,fun ρ n0 F0 K0=>?_,fun ρ n0 F0 zs k K1 hL=>?_⟩
  ·exact rangeA_ok (calg:=calR P q m (l+1)) (calb:=calR P q m l) (Lv0:=fun _=>.leaf) h1.pc h0.pc (fun k f c st h=>calR_body h) (hc _) (fun _=>rfl) (fun zs k K1 hL=>h0.ri _ n0 F0 zs k K1 hL)
  ·exact rangeI_ok (calg:=calR P q m (l+1)) (calb:=calR P q m l) (Lv0:=fun _=>.leaf) hL h1.pc h0.pc (fun k f c st h=>calR_body h) (hc _) (fun _=>rfl) (fun zs k K1 hL=>h0.ri _ n0 F0 zs k K1 hL)
theorem pcR_ok{L:FuncId→LvA}{m:Nat}{man:Man}(hm:ManOk P q m man)(l:Nat)(f:FuncId)(hf:man (l+1) f=none)(ho:ownF f=none:=by rfl):PStr ((calR P q m (l+1)).call f) (pcR P L m man (l+1) f):=pcStep_str hm (tw_ok hm l).1 f hf ho
noncomputable def runT:Option (Value × Hp × Nat)→Bool
 | some (.bool true,_,_)=>true
 | _=>false
theorem man_run{m l:Nat}{f:FuncId}(hf:ux P f=true)(h:runT ((calR P q m l).call f [] .nil 0)=true)(ho:ownF f=none:=by rfl):lk (flO P f) ((calR P q m l).call f) (fun ds=>match ds with | []=>some (.v (.bool true)) | _=>none):=by
 intro ds d F H n vs e hx hF hv
 cases ds with
 | cons a l=>cases e
 | nil=>
  cases e
  unfold aK at hv; subst hv
  obtain⟨rfl,rfl⟩:=hx hf rfl
  refine⟨?_,fun e s q=>by have q:ownF f=some (e,s):=q; rw[ho] at q; cases q⟩
  intro x ex
  cases ex
  unfold runT at h
  split at h
  ·rename_i H' n' e
   exact⟨_,H',n',fun b=>F b,e,Nat.zero_le _,fun b hb=>absurd hb (by omega),fun _ z=>z,fun b z=>.inl z,.scal rfl⟩
  ·cases h
end Go.Ev
end
section
namespace Go.Ev
open Go
variable {P:Program}
inductive Ty where
 | int (k:IntKind)
 | bool
 | sl (e:Ty)
 | nil
 | cons (a b:Ty)
namespace Ty
def isS:Ty→Bool
 | .nil | .cons _ _=>true
 | _=>false
def size:Ty→Nat
 | .nil=>0
 | .cons a b=>a.size+b.size
 | _=>1
def den:Ty→Type
 | .int _=>Int
 | .bool=>Bool
 | .sl e=>List e.den
 | .nil=>Unit
 | .cons a b=>a.den × b.den
noncomputable def cells:(t:Ty)→t.den→List D
 | .int k,x=>[.v (.int k x)]
 | .bool,b=>[.v (.bool b)]
 | .sl e,l=>[.sl (l.map fun x=>match e.isS with
  | true=>.agg (e.cells x)
  | false=>oneA (e.cells x))]
 | .nil,_=>[]
 | .cons a b,x=>a.cells x.1++b.cells x.2
noncomputable def el(e:Ty)(x:e.den):D:=match e.isS with
 | true=>.agg (e.cells x)
 | false=>oneA (e.cells x)
def ok:(t:Ty)→t.den→Prop
 | .int k,x=>(Lit.int k x).wf=true
 | .bool,_=>True
 | .sl e,l=>@List.length e.den l<capV∧∀ x:e.den,@Membership.mem e.den (List e.den) _ l x→e.ok x
 | .nil,_=>True
 | .cons a b,x=>a.ok x.1∧b.ok x.2
theorem cells_leaf:∀(t:Ty) (x:t.den),(t.cells x).all bk=true
 | .int _,_=>rfl
 | .bool,_=>rfl
 | .sl _,_=>rfl
 | .nil,_=>rfl
 | .cons a b,x=>by simp only[cells,List.all_append,cells_leaf a,cells_leaf b]; rfl
theorem sl_cells(e:Ty)(l:List e.den):cells (.sl e) l=[.sl (l.map e.el)]:=rfl
theorem one_cell{t:Ty}(h:t.isS=false)(x:t.den):t.cells x=[t.el x]:=by
 unfold el; rw[h]
 cases t <;> first | rfl | cases h
theorem el_cells(e:Ty)(x:e.den):ny (e.el x)=e.cells x∧datD (e.el x)=true:=by
 cases h:e.isS with
 | true=>unfold el; rw[h]; exact⟨rfl,rfl⟩
 | false=>
  rw[one_cell h]
  cases e <;> first | exact⟨rfl,rfl⟩ | cases h
end Ty
def tyFs(g:TypeId→Option Ty)(P:Program):List Field→Nat→Option Ty
 | [],_=>some .nil
 | f::fs,off=>match Nat.beq f.offset off,g f.type with
  | true,some a=>match Nat.beq (P.cellsOf f.type) a.size,tyFs g P fs (off+a.size) with
   | true,some b=>some (.cons a b)
   | _,_=>none
  | _,_=>none
def tyOf(P:Program):Nat→TypeId→Option Ty
 | 0,_=>none
 | d+1,t=>match P.underlying t with
  | some (.int k)=>some (.int k)
  | some .bool=>some .bool
  | some (.slice e)=>match tyOf P d e with
   | some a=>match Nat.beq (P.cellsOf e) a.size,Nat.ble 1 a.size,Nat.ble 1 (P.bytesOf e) with
    | true,true,true=>some (.sl a)
    | _,_,_=>none
   | none=>none
  | some (.struct fs)=>match tyFs (tyOf P d) P fs.toList 0 with
   | some a=>match Nat.beq (P.cellsOf t) a.size with
    | true=>some a
    | false=>none
   | none=>none
  | _=>none
theorem mapM_get{α β:Type}{f:α→Option β}:∀ {l:List α} {r:List β},l.mapM f=some r→∀(k:Nat) (x:α),l[k]?=some x→∃ y,f x=some y∧r[k]?=some y
 | [],r,h,k,x,e=>by simp at e
 | a::l,r,h,k,x,e=>by
  rw[List.mapM_cons] at h
  cases h1:f a with
  | none=>rw[h1] at h; cases h
  | some y=>
   rw[h1] at h
   cases h2:l.mapM f with
   | none=>rw[h2] at h; cases h
   | some q=>
    rw[h2] at h
    cases h
    cases k with
    | zero=>simp at e; subst e; exact⟨y,h1,rfl⟩
    | succ k=>exact mapM_get h2 k x (by simpa using e)
theorem weights_in{H:Type}{e:TypeId}{n:Nat}:∀ {ds:List (DataW H)} {d:DataW H},d ∈ ds→n ∈ d.weights P e→n ∈ DataW.weightsAll P e ds
 | [],d,hm,hn=>by simp at hm
 | c::ds,d,hm,hn=>by
  unfold DataW.weightsAll
  rcases List.mem_cons.1 hm with rfl | h
  ·exact List.mem_append_left _ hn
  ·exact List.mem_append_right _ (weights_in h hn)
theorem weights_each{H:Type}{n:Nat}:∀ {ts:List TypeId} {ds:List (DataW H)} {k:Nat} {t:TypeId} {d:DataW H},ts[k]?=some t→ds[k]?=some d→n ∈ d.weights P t→n ∈ DataW.weightsEach P ts ds
 | [],_,_,_,_,h,_,_=>by simp at h
 | _::_,[],_,_,_,_,h,_=>by simp at h
 | t::ts,d::ds,0,_,_,h,g,hn=>by
  simp at h g; subst h; subst g
  unfold DataW.weightsEach; exact List.mem_append_left _ hn
 | t::ts,d::ds,k+1,_,_,h,g,hn=>by
  unfold DataW.weightsEach
  exact List.mem_append_right _ (weights_each (k:=k) (by simpa using h) (by simpa using g) hn)
theorem slice_open{H:Type}{enc:TypeId × Value→H}{w:World}{fuel len cap:Nat}{t e:TypeId}{a:Addr}{dd:DataW H}{ps:List MemPlace}(hu:P.underlying t=some (.slice e))(hb:1≤P.bytesOf e)
  (ht:DataW.trod enc P w 0 (fun _=>true) true (fuel+1) t [.slice (some a) len cap]=some (dd,ps)) (hw:∀ n ∈ dd.weights P t,n≤reachBytes) :
  len≤cap∧cap<capV∧∀ k,k<len→∃ cs y,w.cells? 0 (a.add (k * P.cellsOf e)) (P.cellsOf e)=some cs∧DataW.trod enc P w 0 (fun _=>true) true fuel e cs=some y∧∀ n ∈ y.1.weights P e,n≤reachBytes:=by
 unfold DataW.trod at ht
 simp only[hu] at ht
 split at ht
 case isFalse=>cases ht
 rename_i hcond
 obtain⟨_,hlc,_⟩:=hcond
 simp only[if_true,Option.bind_eq_some_iff,Option.map_eq_some_iff] at ht
 obtain⟨elems,hel,rest,hrest,hdd⟩:=ht
 have l1:=qhv hel
 have l2:=qhv hrest
 simp only[List.length_range] at l1 l2
 simp only[Prod.mk.injEq] at hdd
 obtain⟨rfl,rfl⟩:=hdd
 have hcap:cap<capV:=by
  have:=hw ((elems.length+rest.length) * P.bytesOf e) (by simp [DataW.weights,hu])
  have h1:elems.length+rest.length=cap:=by omega
  rw[h1] at this
  have h2:cap≤cap * P.bytesOf e:=Nat.le_mul_of_pos_right _ hb
  have h3:reachBytes<capV:=by decide
  omega
 refine⟨hlc,hcap,fun k hk=>?_⟩
 obtain⟨y,hy,hy2⟩:=mapM_get hel k k (List.getElem?_range hk)
 simp only[Option.bind_eq_some_iff] at hy
 obtain⟨cs,hc1,hc2⟩:=hy
 refine⟨cs,y,hc1,hc2,fun n hn=>hw n ?_⟩
 simp only[DataW.weights,hu]
 exact List.mem_cons_of_mem _ (List.mem_append_left _ (weights_in (List.mem_map.2 ⟨y,List.mem_of_getElem? hy2,rfl⟩) hn))
theorem cell_there{w:World}{a:Addr}{v:Value}(h:w.cell? a=some v):a.block<w.heap.size∧a.spot=none:=by
 obtain⟨arr,e,fr,h1,_⟩:=MY h
 refine⟨(Array.getElem?_eq_some_iff.1 h1).1,?_⟩
 unfold World.cell? at h
 rw[h1] at h
 dsimp only at h
 split at h
 ·cases h
 ·rename_i hs
  cases hq:a.spot with
  | none=>rfl
  | some _=>rw[hq] at hs; simp at hs
theorem cells_in{W:World}{m:Nat}{H:Hp}(hH:∀ i,H.get i=sJ m W i){b o:Nat}{vs:List Value}(hne:0<vs.length)(h:∀(k:Nat) (v:Value),vs[k]?=some v→W.cell? ⟨b,o+k,none⟩=some v∧VR (qQ m) v v):fx H b o vs:=by
 obtain⟨v0,hv0⟩:∃ v,vs[0]?=some v:=⟨vs[0],List.getElem?_eq_getElem hne⟩
 obtain⟨arr,el,fr,hbk,_⟩:=MY (h 0 v0 hv0).1
 simp only at hbk
 refine⟨_,arr.toList.map (hole (qQ m)),by rw[hH]; unfold sJ; rw[hbk],rfl,fun k v hv=>?_⟩
 obtain⟨h1,h2⟩:=h k v hv
 obtain⟨arr',el',fr',hbk',harr⟩:=MY h1
 simp only at hbk' harr
 rw[hbk] at hbk'; cases hbk'
 rw[List.getElem?_map]
 have:arr.toList[o+k]?=some v:=by simpa using harr
 rw[this]
 simp only[Option.map_some,Option.some.injEq]
 unfold hole
 rw[if_pos h2]
theorem addr_at{a:Addr}(h:a.spot=none)(k:Nat):a.add k=⟨a.block,a.off+k,none⟩:=by
 have ha:a=⟨a.block,a.off,none⟩:=iz h
 rw[ha,wZ]
theorem vr_slice{m len cap:Nat}{a:Addr}(hm:a.block<m)(hc:cap<capV):VR (qQ m) (.slice (some a) len cap) (.slice (some a) len cap):=by
 simp only[VR]
 exact⟨a,cap,rfl,.inl ⟨⟨⟨0,by unfold qQ; rw[if_pos hm]⟩,rfl,rfl⟩,.inl ⟨hc,rfl⟩⟩⟩
theorem vr_nil{m:Nat}:VR (qQ m) (.slice none 0 0) (.slice none 0 0):=by simp only[VR]
theorem choose_fun{α:Type}(d:α){R:Nat→α→Prop}{n:Nat}(h:∀ k,k<n→∃ x,R k x):∃ f:Nat→α,∀ k,k<n→R k (f k):=
 ⟨fun k=>open Classical in if h':k<n then Classical.choose (h k h') else d,fun k hk=>by dsimp only; rw[dif_pos hk]; exact Classical.choose_spec (h k hk)⟩
theorem bound_fun(f:Nat→Nat):∀ n:Nat,∃ M,∀ k,k<n→f k≤M
 | 0=>⟨0,fun k h=>absurd h (by omega)⟩
 | n+1=>by
  obtain⟨M,h⟩:=bound_fun f n
  refine⟨M+f n,fun k hk=>?_⟩
  rcases Nat.lt_or_ge k n with q | q
  ·have:=h k q; omega
  ·have : k = n := by omega
   subst this; omega
def InD(W:World)(t:Ty)(x:t.den)(cs:List Value)(m0:Nat):Prop:=
 cs.length=t.size∧t.ok x∧∀ m,m0≤m→W.heap.size≤m→VRL (qQ m) cs cs∧∀ H,(∀ i,H.get i=sJ m W i)→aK (fun b=>b<m) H (t.cells x) cs
theorem aK.of_val{F:Nat→Prop}{H:Hp}{e:Ty}{x:e.den}{cs:List Value}(h:aK F H (e.cells x) cs):∃ v,DRel F H (e.el x) v∧aQ v=cs:=by
 cases hs:e.isS with
 | true=>
  refine⟨.agg ⟨cs⟩,?_,rfl⟩
  unfold Ty.el; rw[hs]
  unfold DRel
  exact⟨e.cells_leaf x,cs,rfl,h⟩
 | false=>
  rw[Ty.one_cell hs] at h
  unfold aK at h
  obtain⟨v,vs,rfl,h1,h2⟩:=h
  unfold aK at h2; subst h2
  exact⟨v,h1,by have:=h1.leaf (by cases e <;> first | rfl | cases hs); exact this.2.2.2⟩
theorem tyFs_in{K:Type}{enc:TypeId × Value→K}{W:World}{g:TypeId→Option Ty}{n:Nat}
  (hg:∀(t:TypeId) (T:Ty) (cs:List Value) (r:DataW K × List MemPlace),g t=some T→DataW.trod enc P W 0 (fun _=>true) true n t cs=some r→(∀ k ∈ r.1.weights P t,k≤reachBytes)→∃ x m0,InD W T x cs m0) :
  ∀(fs:List Field) (off:Nat) (T:Ty) (cs:List Value) (xs:List (DataW K × List MemPlace)),tyFs g P fs off=some T→cs.length=off+T.size →
   (∀(i:Nat) (f:Field),fs[i]?=some f→∃ y,xs[i]?=some y∧DataW.trod enc P W 0 (fun _=>true) true n f.type ((cs.drop f.offset).take (P.cellsOf f.type))=some y∧∀ k ∈ y.1.weights P f.type,k≤reachBytes) →
   ∃ x m0,InD W T x (cs.drop off) m0
 | [],off,T,cs,xs,h,hl,_=>by
  cases h
  refine⟨(),0,?_,trivial,fun m _ _=>?_⟩
  ·simp [Ty.size] at hl ⊢; omega
  ·have : cs.drop off = [] := by rw [List.drop_eq_nil_iff]; simp [Ty.size] at hl; omega
   rw[this]
   exact⟨VRL.nil,fun H _=>by show aK _ _ [] []; unfold aK; rfl⟩
 | f::fs,off,T,cs,xs,h,hl,hf=>by
  unfold tyFs at h
  split at h
  ·rename_i a ho ha
   split at h
   ·rename_i b hc hb
    cases h
    have ho:=Nat.eq_of_beq_eq_true ho
    have hc:=Nat.eq_of_beq_eq_true hc
    obtain⟨y,_,h1,h2⟩:=hf 0 f rfl
    obtain⟨x,m0,i1⟩:=hg _ _ _ _ ha h1 h2
    simp only[Ty.size] at hl
    obtain⟨x',m1,i2⟩:=tyFs_in hg fs (off+a.size) b cs xs.tail hb (by omega) (fun i f' e=>by
     obtain⟨y,q1,q2⟩:=hf (i+1) f' (by simpa using e)
     exact⟨y,by simpa [List.getElem?_tail] using q1,q2⟩)
    rw[ho,hc] at i1
    have hcat:cs.drop off=(cs.drop off).take a.size++cs.drop (off+a.size):=by
     rw[← List.drop_drop,List.take_append_drop]
    refine⟨(x,x'),m0+m1,?_,⟨i1.2.1,i2.2.1⟩,fun m hm hW=>?_⟩
    ·simp [Ty.size]; omega
    ·obtain ⟨v1, d1⟩ := i1.2.2 m (by omega) hW
     obtain⟨v2,d2⟩:=i2.2.2 m (by omega) hW
     rw[hcat]
     exact⟨VRL.append v1 v2,fun H hH=>aK.append (d1 H hH) (d2 H hH)⟩
   ·cases h
  ·cases h
theorem trod_in{K:Type}{enc:TypeId × Value→K}{W:World}:∀(d:Nat) (fuel:Nat) (t:TypeId) (T:Ty) (cs:List Value) (r:DataW K × List MemPlace),tyOf P d t=some T →
  DataW.trod enc P W 0 (fun _=>true) true fuel t cs=some r→(∀ k ∈ r.1.weights P t,k≤reachBytes)→∃ x m0,InD W T x cs m0
 | 0,_,_,_,_,_,h,_,_=>by cases h
 | d+1,0,t,T,cs,r,_,ht,_=>by simp [DataW.trod] at ht
 | d+1,fuel+1,t,T,cs,r,h,ht,hw=>by
  unfold tyOf at h
  split at h
  ·rename_i k hu
   cases h
   obtain⟨x,rfl,rfl,hwf⟩:=DataW.trod_int hu ht
   refine⟨x,0,rfl,hwf,fun m _ _=>⟨VRL.cons (by simp only[VR]) VRL.nil,fun H _=>?_⟩⟩
   show aK _ _ [.v (.int k x)] _
   unfold aK DRel
   exact⟨_,_,rfl,⟨rfl,rfl⟩,by unfold aK; rfl⟩
  ·rename_i hu
   cases h
   have:∃ b,cs=[.bool b]:=by
    unfold DataW.trod at ht
    rw[hu] at ht
    split at ht <;> simp_all
   obtain⟨b,rfl⟩:=this
   refine⟨b,0,rfl,trivial,fun m _ _=>⟨VRL.cons (by simp only[VR]) VRL.nil,fun H _=>?_⟩⟩
   show aK _ _ [.v (.bool b)] _
   unfold aK DRel
   exact⟨_,_,rfl,⟨rfl,rfl⟩,by unfold aK; rfl⟩
  ·rename_i e hu
   split at h
   case h_2=>cases h
   rename_i a ha
   split at h
   case h_2=>cases h
   rename_i hc h1 hb
   cases h
   have hc:=Nat.eq_of_beq_eq_true hc
   have h1:=Nat.le_of_ble_eq_true h1
   have hb:=Nat.le_of_ble_eq_true hb
   have ht0:=ht
   rcases DataW.trod_slice hu ht with⟨rfl,_⟩ | ⟨ad,len,cap,_,_,_,_,rfl,_⟩
   ·refine ⟨([] : List a.den), 0, rfl, ⟨by simp [capV], fun x hx => by cases hx⟩, fun m _ _ => ⟨VRL.cons vr_nil VRL.nil, fun H _ => ?_⟩⟩
    rw[Ty.sl_cells]; unfold aK DRel
    exact⟨_,_,rfl,.inl ⟨rfl,rfl⟩,by unfold aK; rfl⟩
   ·obtain ⟨dd, pp⟩ := r
    obtain⟨hlc,hcap,hel⟩:=slice_open hu hb ht0 hw
    by_cases h0:len=0
    ·subst h0
     refine⟨([]:List a.den),ad.block+1,rfl,⟨by simp [capV],fun x hx=>by cases hx⟩,fun m hm _=>⟨VRL.cons (vr_slice (by omega) hcap) VRL.nil,fun H _=>?_⟩⟩
     rw[Ty.sl_cells]; unfold aK DRel
     exact⟨_,_,rfl,.inr (.inr ⟨rfl,ad,cap,rfl,by unfold capE; unfold capV at hcap; omega⟩),by unfold aK; rfl⟩
    ·have each : ∀ k, k < len → ∃ p : List Value × Nat, W.cells? 0 (ad.add (k * P.cellsOf e)) (P.cellsOf e) = some p.1 ∧ ∃ x, InD W a x p.1 p.2 := fun k hk => by
      obtain⟨cs,y,c1,c2,c3⟩:=hel k hk
      obtain⟨x,m0,hx⟩:=trod_in d fuel e a cs y ha c2 c3
      exact⟨(cs,m0),c1,x,hx⟩
     obtain⟨f,hf⟩:=choose_fun ([],0) each
     obtain⟨M,hM⟩:=bound_fun (fun k=>(f k).2) len
     obtain⟨xs,x1,x2⟩:=choose_list (R:=fun k x=>InD W a x (f k).1 (f k).2) len (fun k hk=>(hf k hk).2)
     have cell:∀ k,k<len→∀ j,j<a.size→W.cell? ((ad.add (k * P.cellsOf e)).add j)=(f k).1[j]?:=fun k hk j hj=>by
      have:=(cells?_get (hf k hk).1).2 j (by omega)
      exact this
     have hb0:ad.block<W.heap.size∧ad.spot=none:=by
      have hl0:(f 0).1.length=P.cellsOf e:=(cells?_get (hf 0 (by omega)).1).1
      have:=cell 0 (by omega) 0 (by omega)
      rw[List.getElem?_eq_getElem (by omega)] at this
      have h2:=cell_there this
      simpa [Addr.add] using h2
     have hat:∀ k,k<len→∀ j,j<a.size→W.cell? ⟨ad.block,ad.off+k * a.size+j,none⟩=(f k).1[j]?:=fun k hk j hj=>by
      have:=cell k hk j hj
      rw[addr_at hb0.2,wZ,hc] at this
      rw[← this]
     refine⟨xs,M,rfl,⟨by rw[x1]; omega,fun x hx=>?_⟩,fun m hm hW=>⟨VRL.cons (vr_slice (by omega) hcap) VRL.nil,fun H hH=>?_⟩⟩
     ·obtain ⟨k, hk⟩ := List.getElem?_of_mem hx
      exact(x2 k x hk).2.1
     ·rw [Ty.sl_cells]; unfold aK DRel
      refine⟨_,_,rfl,.inr (.inl ⟨ad.block,ad.off,cap,a.size,?_,?_,?_,.inr ⟨by omega,?_⟩⟩),by unfold aK; rfl⟩
      ·rw[List.length_map,x1,← iz hb0.2]
      ·rw[List.length_map,x1]; exact hlc
      ·unfold capR; unfold capV at hcap; omega
      ·refine DAt.of_get fun i q hq => ?_
       rw[List.getElem?_map,Option.map_eq_some_iff] at hq
       obtain⟨x,hx,rfl⟩:=hq
       have hi:i<len:=by rw[← x1]; exact(List.getElem?_eq_some_iff.1 hx).1
       have hin:=x2 i x hx
       have hMi:=hM i hi
       obtain⟨v1,v2⟩:=hin.2.2 m (by omega) hW
       obtain⟨v,w1,w2⟩:=aK.of_val (v2 H hH)
       refine⟨(a.el_cells x).2,v,w1,by rw[w2,hin.1],?_⟩
       rw[w2]
       refine cells_in hH (by rw[hin.1]; omega) fun k u hu'=>?_
       have hk:k<a.size:=by rw[← hin.1]; exact(List.getElem?_eq_some_iff.1 hu').1
       obtain⟨u',g1,g2⟩:=VRL.get v1 hu'
       rw[hu'] at g1; cases g1
       exact⟨(hat i hi k hk).trans hu',g2⟩
  ·rename_i fs hu
   split at h
   case h_2=>cases h
   rename_i a ha
   split at h
   case h_2=>cases h
   rename_i hc
   cases h
   have hc:=Nat.eq_of_beq_eq_true hc
   obtain⟨xs,n,hn,rfl,hl,hlen,hf⟩:=DataW.trod_struct hu ht
   cases hn
   have:=tyFs_in (enc:=enc) (g:=tyOf P d) (n:=fuel) (fun t T cs r h1 h2 h3=>trod_in d fuel t T cs r h1 h2 h3) fs.toList 0 T cs xs ha (by omega) (fun i f hi=>by
    have hif:fs[i]?=some f:=by simpa using hi
    have hlt:i<xs.length:=by rw[hlen]; exact(Array.getElem?_eq_some_iff.1 hif).1
    refine⟨xs[i],List.getElem?_eq_getElem hlt,?_,fun k hk=>hw k ?_⟩
    ·rw[hf i f hif]; exact List.getElem?_eq_getElem hlt
    ·simp only [DataW.weights, hu]
     exact weights_each (k:=i) (t:=f.type) (d:=xs[i].1) (by simp [hi]) (by simp [hlt]) hk)
   simpa using this
  ·cases h
end Go.Ev
end
section
namespace Go.Ev
open Go
variable {P:Program}
def DenL:List Ty→Type
 | []=>Unit
 | t::ts=>t.den × DenL ts
noncomputable def elsL:(ts:List Ty)→DenL ts→List D
 | [],_=>[]
 | t::ts,x=>t.el x.1::elsL ts x.2
def okL:(ts:List Ty)→DenL ts→Prop
 | [],_=>True
 | t::ts,x=>t.ok x.1∧okL ts x.2
def tysOf(P:Program)(d:Nat):List TypeId→Option (List Ty)
 | []=>some []
 | t::ts=>match tyOf P d t,tysOf P d ts with
  | some a,some l=>some (a::l)
  | _,_=>none
theorem tyFs_isS{g:TypeId→Option Ty}:∀ {fs:List Field} {off:Nat} {T:Ty},tyFs g P fs off=some T→T.isS=true
 | [],_,_,h=>by cases h; rfl
 | f::fs,off,T,h=>by
  unfold tyFs at h
  split at h
  ·split at h
   ·cases h; rfl
   ·cases h
  ·cases h
theorem val_in{K:Type}{enc:TypeId × Value→K}{W:World}{base d:Nat}{t:TypeId}{T:Ty}{v:Value}{dd:DataW K}{ps:List MemPlace}(hT:tyOf P d t=some T)
  (hok:Value.okWide P W .any base t v) (ht:DataW.Trod enc P W 0 (fun _=>true) true t v dd ps) (hw:∀ n ∈ dd.weights P t,n≤reachBytes) :
  ∃ x m0,T.ok x∧∀ m,m0≤m→W.heap.size≤m→VR (qQ m) v v∧∀ H,(∀ i,H.get i=sJ m W i)→DRel (fun b=>b<m) H (T.el x) v:=by
 obtain⟨fuel,ht⟩:=ht
 obtain⟨x,m0,hl,hx,hin⟩:=trod_in d fuel t T _ _ hT ht hw
 refine⟨x,m0,hx,fun m hm hW=>?_⟩
 obtain⟨h1,h2⟩:=hin m hm hW
 cases d with
 | zero=>cases hT
 | succ d=>
  have one:∀(hs:T.isS=false),v.cells.toList=[v]→VR (qQ m) v v∧∀ H,(∀ i,H.get i=sJ m W i)→DRel (fun b=>b<m) H (T.el x) v:=by
   intro hs hv
   rw[hv] at h1 h2
   refine⟨?_,fun H hH=>?_⟩
   ·simp only [VRL] at h1
    obtain⟨v',vs,e,h1,_⟩:=h1
    cases e; exact h1
   ·have := h2 H hH
    rw[Ty.one_cell hs] at this
    unfold aK at this
    obtain⟨v',vs,e,h3,_⟩:=this
    cases e; exact h3
  unfold tyOf at hT
  unfold Value.okWide at hok
  split at hT
  ·rename_i k hu
   cases hT
   rw[hu] at hok
   refine one rfl ?_
   cases v with
   | agg l=>simp only[Cell.okWide,hu,Cell.ok] at hok
   | _=>rfl
  ·rename_i hu
   cases hT
   rw[hu] at hok
   refine one rfl ?_
   cases v with
   | agg l=>simp only[Cell.okWide,hu,Cell.ok] at hok
   | _=>rfl
  ·rename_i e hu
   split at hT
   ·split at hT
    ·cases hT
     rw[hu] at hok
     refine one rfl ?_
     cases v with
     | agg l=>simp only[Cell.okWide,hu,Cell.ok] at hok
     | _=>rfl
    ·cases hT
   ·cases hT
  ·rename_i fs hu
   split at hT
   ·rename_i a ha
    split at hT
    ·cases hT
     rw[hu] at hok
     obtain⟨cs,rfl,_⟩:=hok
     rcases cs with⟨cs⟩
     have hcs:(Value.agg ⟨cs⟩).cells.toList=cs:=rfl
     rw[hcs] at h1 h2
     refine⟨?_,fun H hH=>?_⟩
     ·simp only [VR]
      exact⟨_,rfl,by simp only[VRA]; exact h1⟩
     ·unfold Ty.el; rw [tyFs_isS ha]
      unfold DRel
      exact⟨Ty.cells_leaf _ _,cs,rfl,h2 H hH⟩
    ·cases hT
   ·cases hT
  ·cases hT
theorem args_in{K:Type}{enc:TypeId × Value→K}{W:World}{base d:Nat}:∀ {ts:List TypeId} {Ts:List Ty} {vs:List Value} {ds:List (DataW K)} {ps:List MemPlace},tysOf P d ts=some Ts →
  (∀(j:Nat) t v,ts[j]?=some t→vs[j]?=some v→Value.okWide P W .any base t v)→DataW.TrodAll enc P W 0 (fun _=>true) true ts vs ds ps→(∀ n ∈ DataW.weightsEach P ts ds,n≤reachBytes) →
  ∃ xs m0,okL Ts xs∧∀ m,m0≤m→W.heap.size≤m→VRL (qQ m) vs vs∧∀ H,(∀ i,H.get i=sJ m W i)→aK (fun b=>b<m) H (elsL Ts xs) vs
 | [],Ts,vs,ds,ps,hT,hok,ht,hw=>by
  cases hT
  cases vs <;> cases ds <;> simp only[DataW.TrodAll] at ht
  exact⟨(),0,trivial,fun m _ _=>⟨VRL.nil,fun H _=>by show aK _ _ [] []; unfold aK; rfl⟩⟩
 | t::ts,Ts,vs,ds,ps,hT,hok,ht,hw=>by
  unfold tysOf at hT
  split at hT
  ·rename_i a l ha hl
   cases hT
   cases vs with
   | nil=>simp only[DataW.TrodAll] at ht
   | cons v vs=>
    cases ds with
    | nil=>simp only[DataW.TrodAll] at ht
    | cons dd ds=>
     simp only[DataW.TrodAll] at ht
     obtain⟨p,q,h1,h2,_⟩:=ht
     obtain⟨x,m0,x1,x2⟩:=val_in ha (hok 0 t v rfl rfl) h1 (fun n hn=>hw n (by unfold DataW.weightsEach; exact List.mem_append_left _ hn))
     obtain⟨xs,m1,y1,y2⟩:=args_in hl (fun j t v h g=>hok (j+1) t v (by simpa using h) (by simpa using g)) h2 (fun n hn=>hw n (by unfold DataW.weightsEach; exact List.mem_append_right _ hn))
     refine⟨(x,xs),m0+m1,⟨x1,y1⟩,fun m hm hW=>?_⟩
     obtain⟨a1,a2⟩:=x2 m (by omega) hW
     obtain⟨b1,b2⟩:=y2 m (by omega) hW
     exact⟨VRL.cons a1 b1,fun H hH=>by show aK _ _ (a.el x::elsL l xs) _; unfold aK; exact⟨v,vs,rfl,a2 H hH,b2 H hH⟩⟩
  ·cases hT
def Says(P:Program)(L:FuncId→LvA)(m:Nat)(man:Man)(f:FuncId)(Ts:List Ty):Prop:=∀ xs:DenL Ts,okL Ts xs→∃ l,man (l+1) f=none∧pcR P L m man (l+1) f (elsL Ts xs)=some (.v (.bool true))
theorem says_calls{q:Alt}{L:FuncId→LvA}{mm:Nat}{man:Man}(htab:DJ P q.A mm q.tab)(hman:ManOk P q mm man){f:FuncId}{Ts:List Ty}(hs:Says P L mm man f Ts){K:Type}{enc:TypeId × Value→K}{W:World}{base d:Nat}{ts:List TypeId}{args:Array Value}{ds:List (DataW K)}{ps:List MemPlace}(hT:tysOf P d ts=some Ts)
  (hok:∀(j:Nat) t v,ts[j]?=some t→args.toList[j]?=some v→Value.okWide P W .any base t v) (ht:DataW.TrodAll enc P W 0 (fun _=>true) true ts args.toList ds ps) (hw:∀ n ∈ DataW.weightsEach P ts ds,n≤reachBytes) (ho:ownF f=none:=by rfl) :
  Calls P f args W fun e w'=>e=.returned (.bool true)∧RowKit.Grown W w'∧∀ b,b<W.heap.size→w'.heap[b]?=W.heap[b]?:=by
 obtain⟨xs,m0,x1,x2⟩:=args_in hT hok ht hw
 obtain⟨H,hH,hI⟩:=I.startN W (m:=m0+W.heap.size) (by omega)
 obtain⟨v1,v2⟩:=x2 (m0+W.heap.size) (by omega) (by omega)
 obtain⟨l,hf,hl⟩:=hs xs x1
 obtain⟨v,H',n',F',e,_,_,_,_,hd⟩:=pcR_ok hman l f hf ho (elsL Ts xs) _ (fun b=>b<m0+W.heap.size) H (m0+W.heap.size) args.toList hl (fun _ z=>z) (v2 H hH) _ rfl
 unfold DRel at hd
 obtain⟨rfl,_⟩:=hd
 have:=calls_of_calR (q:=q) (m:=mm) htab (l:=l+1) hI v1 e rfl
 refine this.mono ?_
 rintro en w' ⟨h1,h2,h3,h4,h5,h6,h7⟩
 exact⟨h1,grown_of h2 h4 h5 h6 h7,h6⟩
theorem weights_app{K:Type}{n:Nat}:∀ {ts us:List TypeId} {ds gs:List (DataW K)},ds.length≤ts.length→n ∈ DataW.weightsEach P ts ds→n ∈ DataW.weightsEach P (ts++us) (ds++gs)
 | _,_,[],_,_,h=>by simp [DataW.weightsEach] at h
 | [],_,_::_,_,hl,_=>by simp at hl
 | t::ts,us,d::ds,gs,hl,h=>by
  simp only[List.cons_append,DataW.weightsEach] at h ⊢
  rcases List.mem_append.1 h with q | q
  ·exact List.mem_append_left _ q
  ·exact List.mem_append_right _ (weights_app (by simpa using hl) q)
theorem Hy{K:Type}{enc:TypeId × Value→K}{W:World}:∀ {ts:List TypeId} {vs:List Value} {ds:List (DataW K)} {ps:List MemPlace},DataW.TrodAll enc P W 0 (fun _=>true) true ts vs ds ps→ds.length=ts.length
 | [],[],[],_,_=>rfl
 | _::_,_::_,_::_,_,h=>by
  simp only[DataW.TrodAll] at h
  obtain⟨p,q,_,h2,_⟩:=h
  have:=Hy h2
  simp only[List.length_cons]; omega
 | [],[],_::_,_,h=>by simp only[DataW.TrodAll] at h
 | [],_::_,_,_,h=>by simp only[DataW.TrodAll] at h
 | _::_,[],_,_,h=>by simp only[DataW.TrodAll] at h
 | _::_,_::_,[],_,h=>by simp only[DataW.TrodAll] at h
theorem list4{α:Type}{l:List α}(h:l.length=4):∃ a0 a1 a2 a3,l=[a0,a1,a2,a3]:=by
 match l,h with
 | [a0,a1,a2,a3],_=>exact⟨a0,a1,a2,a3,rfl⟩
end Go.Ev
end
section
namespace Go.Ev
open Go
variable {P:Program} {t:TypeId} {x y:Operand} {α:Type} {f:α→D} {pre suf:List α} {a:α} {ρ:Type}
theorem sX{c:List D}{r:Option D}:nilA (.d (.ref c)) r=r:=rfl
theorem gj{k:D→Option D}:(bindO (idxD (.v (.int .i64 (pre.length:Nat))) ((pre++a::suf).map f).length) fun i=>bindO (((pre++a::suf).map f)[i]?) k)=k (f a):=by
 rw[pW (by simp),aj]
 simp [aj]
theorem lss_mid:binD P .lss t x y (.v (.int .i64 (pre.length:Nat))) (lenD ((pre++a::suf).map f))=some (.v (.bool true)):=by
 rw[bY,fW]; simp; omega
theorem lss_end:binD P .lss t x y (.v (.int .i64 (pre.length:Nat))) (lenD (pre.map f))=some (.v (.bool false)):=by
 rw[bY,fW]; simp
theorem dV(h:pre.length<4611686018427387904):binD P .add t x y (.v (.int .i64 (pre.length:Nat))) (.v (.int .i64 1))=some (.v (.int .i64 ((pre++[a]).length:Nat))):=by
 rw[lJ h]; simp
theorem leafD_ref{l:List D}:bk (.ref l)=true:=rfl
theorem dQ{c:Prop}[Decidable c]{p q:Option D}:ifU (.v (.bool (decide c))) p q=if c then p else q:=ifU_d
theorem beq_refl(n:Nat):Nat.beq n n=true:=Nat.beq_refl n
theorem allI{l:List Int}:(l.map dI).all (szOk 1)=true:=by rw[List.all_map,List.all_eq_true]; intro _ _; rfl
theorem appI{l l':List D}(h:l.length+l'.length<1048576):appD l l'=some (l++l'):=vX h
end Go.Ev
namespace Go.Ev
open Go
variable {P:Program} {t:TypeId} {x y:Operand} {α:Type} {f:α→D} {pre suf:List α} {a:α} {ρ:Type}
theorem dK:binD P .lss t x y (.v (.int .i64 (pre.length:Nat))) (.v (.int .i64 (((pre++a::suf).map f).length:Nat)))=some (.v (.bool true)):=lss_mid
theorem dX:binD P .lss t x y (.v (.int .i64 (pre.length:Nat))) (.v (.int .i64 ((pre.map f).length:Nat)))=some (.v (.bool false)):=lss_end
end Go.Ev
end
section
namespace Go.Ev
open Go
variable {P:Program} {t:TypeId} {x y:Operand}
noncomputable abbrev uB(b:BitVec 64):D:=.v (.int .u64 (b.toNat:Int))
theorem bin_gen{op:BinOp}{k k':IntKind}{a b:Int}{w:Value}(hk:uw op (.int k a) (.int k' b)=none)(h:binOp op t (.int k a) (.int k' b)=pure w)(hp:bz w=true):binV P op t x y (.int k a) (.int k' b)=some w:=by
 unfold binV
 rw[hk]
 unfold HW
 have h0:(bz (.int k a) && bz (.int k' b))=true:=rfl
 have h1:DK P op t (.int k a) (.int k' b)=none:=by unfold DK; cases op <;> rfl
 rw[h0]
 simp only[h1,semPure_guard eqGuard_ints h,hp]
theorem yz{op:BinOp}{k k':IntKind}{a b:Int}{w:Value}(hk:uw op (.int k a) (.int k' b)=none)(h:binOp op t (.int k a) (.int k' b)=pure w)(hp:bz w=true)(hs:uJ w=true) :
  binD P op t x y (.v (.int k a)) (.v (.int k' b))=some (.v w):=by
 unfold binD
 simp only[valD,bin_gen hk h hp,Pw,hs]
theorem IZ{op:BinOp}{a b:Int}{k:IntKind}:uw op (.int .u64 a) (.int k b)=none:=rfl
theorem wrap_u{n:Nat}(h:n<18446744073709551616):IntKind.u64.wrap (n:Int)=n:=by
 simp [IntKind.wrap,IntKind.bits,IntKind.signed]
 omega
theorem YX{b:BitVec 64}:BitVec.ofInt 64 (b.toNat:Int)=b:=by
 apply BitVec.eq_of_toNat_eq
 simp
theorem binD_or{a b:BitVec 64}:binD P .or t x y (uB a) (uB b)=some (uB (a ||| b)):=
 yz IZ (by simp only[binOp,Op.intBits,IntKind.bits,YX]; rw[wrap_u (BitVec.isLt _)]; rfl) rfl rfl
theorem binD_and{a b:BitVec 64}:binD P .and t x y (uB a) (uB b)=some (uB (a &&& b)):=
 yz IZ (by simp only[binOp,Op.intBits,IntKind.bits,YX]; rw[wrap_u (BitVec.isLt _)]; rfl) rfl rfl
theorem binD_andNot{a b:BitVec 64}:binD P .andNot t x y (uB a) (uB b)=some (uB (a &&& ~~~b)):=
 yz IZ (by simp only[binOp,Op.intBits,IntKind.bits,YX]; rw[wrap_u (BitVec.isLt _)]; rfl) rfl rfl
theorem binD_shl{p:Nat}(hp:p<64):binD P .shl t x y (uB 1#64) (.v (.int .i64 (p:Int)))=some (uB (BitVec.twoPow 64 p)):=by
 refine yz IZ (w:=.int .u64 ((BitVec.twoPow 64 p).toNat:Int)) ?_ rfl rfl
 have h1:¬ ((p:Int)<0):=by omega
 have h2:(BitVec.twoPow 64 p).toNat=2 ^ p:=by
  rw[BitVec.toNat_twoPow]
  exact Nat.mod_eq_of_lt (Nat.pow_lt_pow_right (by omega) hp)
 have h3:2 ^ p<18446744073709551616:=by
  have:=Nat.pow_lt_pow_right (a:=2) (by omega) hp
  simpa using this
 have h4:min p 64=p:=by omega
 have h5:((1#64:BitVec 64).toNat:Int) * 2 ^ p=((2 ^ p:Nat):Int):=by simp
 simp only[binOp,Op.shift,if_neg h1,IntKind.bits,Int.toNat_natCast,h4,h5]
 rw[wrap_u h3,h2]
theorem u_zero{a:BitVec 64}:((a.toNat:Int)=0)↔a=0#64:=by
 constructor
 ·intro h; apply BitVec.eq_of_toNat_eq; simpa using h
 ·rintro rfl; rfl
theorem binD_neq_u{a:BitVec 64}:binD P .neq t x y (uB a) (.v (.int .u64 0))=some (.v (.bool (!decide (a=0#64)))):=by
 rw[yz (w:=.bool (!decide ((a.toNat:Int)=0))) IZ (by simp only[binOp,Op.intCmp]; rfl) rfl rfl]
 simp only[u_zero]
theorem binD_eql_u{a:BitVec 64}:binD P .eql t x y (uB a) (.v (.int .u64 0))=some (.v (.bool (decide (a=0#64)))):=by
 rw[yz (w:=.bool (decide ((a.toNat:Int)=0))) IZ (by simp only[binOp,Op.intCmp]; rfl) rfl rfl]
 simp only[u_zero]
end Go.Ev
end
section
namespace Go.Ev
open Go
variable {P:Program}
theorem gz{α β:Type}(f:α→Sem β):∀ m:Sem α,cz P (m >>= f)=match cz P m with
  | some a=>cz P (f a)
  | none=>none
 | .pure _=>rfl
 | .load ..=>rfl
 | .store ..=>rfl
 | .new ..=>rfl
 | .shape ..=>rfl
 | .freeze ..=>rfl
 | .frozen ..=>rfl
 | .getObj ..=>rfl
 | .setObj ..=>rfl
 | .choose ..=>rfl
 | .sys ..=>rfl
 | .program k=>gz f (k P)
 | .mark _ k=>gz f k
 | .halt _=>rfl
theorem vY{α:Type}(a:α):cz P (pure a)=some a:=rfl
theorem sp_program:cz P program=some P:=rfl
theorem Hz{t:TypeId}{d:TypeDesc}(e:P.underlying t=some d):cz P (underlying t)=some d:=by
 unfold underlying
 rw[gz,sp_program]
 show cz P (match P.underlying t with | some d => pure d | none => stuck "no such type") = some d
 rw[e]
 rfl
theorem sp_isAgg{t:TypeId}{b:Bool}(e:oW P t=some b):cz P (isAgg t)=some b:=by
 unfold oW at e
 unfold isAgg
 rw[gz]
 split at e
 ·rename_i fs h; cases e; rw[Hz h]; rfl
 ·rename_i x y h; cases e; rw[Hz h]; rfl
 ·rename_i d h1 h2 h
  cases e
  rw[Hz h]
  cases d <;> first | rfl | exact absurd rfl (h1 _) | exact absurd rfl (h2 _ _)
 ·cases e
theorem sp_part{t:TypeId}{cs:List Value}{i:Nat}{v:Value}(e:oW P t=some false)(h:cs[i]?=some v):cz P (part t ⟨cs⟩ i)=some v:=by
 unfold part
 rw[gz,sp_isAgg e]
 simp [h,vY]
theorem sp_equal_int{d:Nat}{t:TypeId}{k k':IntKind}{a b:Int}(h:P.underlying t=some (.int k')):cz P (Op.equalIn (d+1) t (.int k a) (.int k b))=some (a == b):=by
 unfold Op.equalIn
 rw[gz,Hz h]
 simp [vY]
theorem sp_equal_struct(d:Nat)(t:TypeId)(xs ys:Array Value){fs:Array Field}(ht:P.underlying t=some (.struct fs))(hp:P.stoodInHeld t=false) :
  cz P (Op.equalIn (d+1) t (.agg xs) (.agg ys))=cz P (Op.eqFields d xs ys fs.toList):=by
 unfold Op.equalIn
 rw[gz,Hz ht]
 simp only[gz,sp_program,hp,Bool.false_eq_true,if_false]
 rw[← Array.forIn_toList]
 generalize fs.toList=fs
 clear ht
 induction fs with
 | nil=>rfl
 | cons f fs ih=>
  by_cases hn : f.name ≠ "_"
  ·simp only [List.forIn_cons, Op.eqFields, gz, hn, ne_eq, not_false_eq_true, if_true]
   cases cz P (part f.type xs f.offset) with
   | none=>rfl
   | some a=>
    simp only
    cases cz P (part f.type ys f.offset) with
    | none=>rfl
    | some b=>
     simp only
     cases cz P (Op.equalIn d f.type a b) with
     | none=>rfl
     | some r=>
      cases r
      ·simp [vY]
      ·simp only [Bool.not_true, Bool.false_eq_true, if_false, vY]
       exact ih
  ·simp only [List.forIn_cons, Op.eqFields, gz, hn, if_false, vY]
   exact ih
theorem sp_eqFields{xs ys:List Value}(d:Nat):∀ {fs:List Field} {i:Nat} {l l':List Value} {r:Bool},tj P fs i=true→xs.drop i=l→ys.drop i=l'→fs.length=l.length→kz l l'=some r →
  cz P (Op.eqFields (d+1) ⟨xs⟩ ⟨ys⟩ fs)=some r
 | [],i,l,l',r,_,_,_,hl,he=>by
  cases l with
  | cons z zs=>simp at hl
  | nil=>cases l' with
   | nil=>simp [kz] at he; simp [Op.eqFields,he,vY]
   | cons z zs=>simp [kz] at he
 | f::fs,i,l,l',r,hf,hx,hy,hlen,he=>by
  simp only[tj] at hf
  split at hf
  ·rename_i k hn hu ha
   simp only[Bool.and_eq_true,bne_iff_ne,ne_eq,Nat.beq_eq] at hn
   obtain⟨hn,rfl⟩:=hn
   match l,l',he with
   | [],_,_=>simp at hlen
   | .int k1 a::l,.int k2 b::l',he=>
    have gx:xs[f.offset]?=some (.int k1 a):=by
     have:=congrArg (fun z=>z[0]?) hx; simpa using this
    have gy:ys[f.offset]?=some (.int k2 b):=by
     have:=congrArg (fun z=>z[0]?) hy; simpa using this
    have px:=sp_part ha gx
    have py:=sp_part ha gy
    have dx:xs.drop (f.offset+1)=l:=by rw[← List.drop_drop,hx]; rfl
    have dy:ys.drop (f.offset+1)=l':=by rw[← List.drop_drop,hy]; rfl
    simp only[kz] at he
    split at he
    ·rename_i h1 h2
     have h1:=of_decide_eq_true h1
     have h2:=of_decide_eq_true h2
     subst h1; subst h2
     have ih:=sp_eqFields d hf dx dy (by simpa using hlen) he
     simp only[Op.eqFields,hn,ne_eq,not_false_eq_true,if_true,gz,px,py,sp_equal_int hu,beq_self_eq_true,Bool.not_true,Bool.false_eq_true,if_false,ih]
    ·rename_i h1 h2
     have h1:=of_decide_eq_true h1
     have h2:=of_decide_eq_false h2
     cases he
     subst h1
     simp only[Op.eqFields,hn,ne_eq,not_false_eq_true,if_true,gz,px,py,sp_equal_int hu,beq_eq_false_iff_ne.2 h2,Bool.not_false,vY]
    ·cases he
  ·cases hf
theorem sp_check{xs:List Value}(em:Bool)(d:Nat):∀ {fs:List Field} {i:Nat},tj P fs i=true→i+fs.length≤xs.length →
  cz P (forIn (m:=Sem) fs PUnit.unit fun f _=>do
   if f.name ≠ "_" then do
    Instr.checkKey em (d+1) f.type (← part f.type ⟨xs⟩ f.offset)
    pure (ForInStep.yield PUnit.unit)
   else pure (ForInStep.yield PUnit.unit))=some PUnit.unit
 | [],i,_,_=>rfl
 | f::fs,i,hf,hl=>by
  simp only[tj] at hf
  split at hf
  ·rename_i k hn hu ha
   simp only[Bool.and_eq_true,bne_iff_ne,ne_eq,Nat.beq_eq] at hn
   obtain⟨hn,rfl⟩:=hn
   simp only[List.length_cons] at hl
   have hlt:f.offset<xs.length:=by omega
   have px:=sp_part (P:=P) (cs:=xs) ha (List.getElem?_eq_getElem hlt)
   have hc:cz P (Instr.checkKey em (d+1) f.type xs[f.offset])=some ():=by
    unfold Instr.checkKey
    rw[gz,Hz hu]
    rfl
   have ih:=sp_check (xs:=xs) em d hf (by omega)
   simp only[List.forIn_cons,gz,hn,ne_eq,not_false_eq_true,if_true,px,hc,vY]
   exact ih
  ·cases hf
theorem sp_checkKey{k:TypeId}{n:Nat}{x:List Value}(hn:zW P k=some n)(hl:x.length=n)(em:Bool):cz P (Instr.checkKey em 10000 k (.agg ⟨x⟩))=some ():=by
 obtain⟨fs,hu,hp,hf,hl'⟩:=Oz hn
 rw[show(10000:Nat)=9998+1+1 from rfl,Instr.checkKey]
 rw[gz,Hz hu]
 show cz P (forIn (m:=Sem) fs PUnit.unit _ >>= _)=_
 rw[← Array.forIn_toList,gz]
 have:=sp_check (P:=P) (xs:=x) em 9998 hf (by omega)
 rw[this]
 rfl
theorem sp_asking{k:TypeId}{fs:Array Field}{x:List Value}(hu:P.underlying k=some (.struct fs))(hp:P.stoodInHeld k=false)(hf:tj P fs.toList 0=true)(hl:fs.toList.length=x.length) :
  ∀ {es:List MapEntry} {i:Nat} {r:Option (Nat × Value)},iW x es i=some r→cz P (Instr.findAsking k (.agg ⟨x⟩) es i)=some r
 | [],i,r,e=>by simp [iW] at e; simp [Instr.findAsking,← e,vY]
 | e0::es,i,r,e=>by
  simp only[iW] at e
  split at e
  ·rename_i l hk
   have run:∀ {b:Bool},kz x l=some b→cz P (Op.equal k (.agg ⟨x⟩) e0.key)=some b:=by
    intro b hb
    rw[hk,Op.equal,show Op.maxDepth=9998+1+1 from rfl,sp_equal_struct (9998+1) k _ _ hu hp]
    exact sp_eqFields 9998 hf rfl rfl hl hb
   split at e
   ·rename_i hb
    cases e
    rw[Instr.findAsking,gz,run hb]
    rfl
   ·rename_i hb
    rw[Instr.findAsking,gz,run hb]
    exact sp_asking hu hp hf hl e
   ·cases e
  ·cases e
theorem sp_findKey{k:TypeId}{n:Nat}{x:List Value}{es:List MapEntry}{r:Option (Nat × Value)}(hn:zW P k=some n)(hl:x.length=n)(e:iW x es 0=some r):cz P (Instr.findKey k (.agg ⟨x⟩) es)=some r:=by
 obtain⟨fs,hu,hp,hf,hl'⟩:=Oz hn
 unfold Instr.findKey
 rw[gz,Hz hu]
 cases es with
 | nil=>
  simp [iW] at e
  rw[← e]
  rfl
 | cons e0 es=>exact sp_asking hu hp hf (by omega) e
abbrev MapL:=List (List Int × Int)
def keyV(k:List Int):Value:=.agg ⟨k.map (.int .i64)⟩
def entE(x:List Int × Int)(i:Nat):MapEntry:={ key:=keyV x.1,val:=.int .i64 x.2,born:=i }
def fX:MapL→Nat→List MapEntry
 | [],_=>[]
 | x::l,i=>entE x i::fX l (i+1)
def vx(k:List Int):MapL→Nat→Option (Nat × Int)
 | [],_=>none
 | x::l,i=>if x.1=k then some (i,x.2) else vx k l (i+1)
def getF:MapL→List Int→Int
 | [],_=>0
 | x::l,k=>if x.1=k then x.2 else getF l k
def putL(k:List Int)(v:Int):MapL→MapL
 | []=>[(k,v)]
 | x::l=>if x.1=k then(k,v)::l else x::putL k v l
theorem PX(k:List Int)(v:Int)(q:List Int):∀ l:MapL,getF (putL k v l) q=if q=k then v else getF l q
 | []=>by
  simp only[putL,getF]
  by_cases h:q=k
  ·rw[if_pos h,if_pos h.symm]
  ·rw[if_neg h,if_neg (fun e=>h e.symm)]
 | x::l=>by
  simp only[putL]
  by_cases c:x.1=k
  ·rw [if_pos c]
   simp only[getF]
   by_cases h:q=k
   ·rw[if_pos h,if_pos h.symm]
   ·rw[if_neg h,if_neg (fun e=>h e.symm),if_neg (fun e=>h (e.symm.trans c))]
  ·rw [if_neg c]
   simp only[getF]
   rw[PX k v q l]
   by_cases h:x.1=q
   ·rw[if_pos h,if_pos h,if_neg (fun e=>c (h.trans e))]
   ·rw[if_neg h,if_neg h]
theorem keys_eq:∀ {k k':List Int},k.length=k'.length→kz (k.map (.int .i64)) (k'.map (.int .i64))=some (decide (k=k'))
 | [],[],_=>rfl
 | a::k,b::k',h=>by
  have ih:=keys_eq (k:=k) (k':=k') (by simpa using h)
  simp only[List.map_cons,kz,decide_true]
  by_cases c:a=b
  ·rw [decide_eq_true c]
   simp only
   rw[ih]
   simp [c]
  ·rw [decide_eq_false c]
   simp [c]
theorem Ny{n:Nat}{k:List Int}(hk:k.length=n):∀ {l:MapL} {i:Nat},(∀ x ∈ l,x.1.length=n)→iW (k.map (.int .i64)) (fX l i) i=some ((vx k l i).map fun p=>(p.1,.int .i64 p.2))
 | [],i,_=>rfl
 | x::l,i,h=>by
  have hx:=h x (List.mem_cons_self ..)
  simp only[fX,iW,entE,keyV,vx]
  rw[keys_eq (by omega)]
  by_cases c:x.1=k
  ·rw [decide_eq_true c.symm, if_pos c]
   rfl
  ·rw [decide_eq_false (fun e => c e.symm), if_neg c]
   exact Ny hk (l:=l) (i:=i+1) fun y hy=>h y (List.mem_cons_of_mem _ hy)
theorem qlq{k:List Int}:∀ {l:MapL} {i j:Nat} {u:Int},vx k l i=some (j,u)→u=getF l k∧i≤j∧j<i+l.length
 | [],i,j,u,h=>by cases h
 | x::l,i,j,u,h=>by
  simp only[vx] at h
  simp only[getF,List.length_cons]
  by_cases c:x.1=k
  ·rw [if_pos c] at h ⊢
   cases h
   exact⟨rfl,Nat.le_refl _,by omega⟩
  ·rw [if_neg c] at h ⊢
   obtain⟨h1,h2,h3⟩:=qlq h
   exact⟨h1,by omega,by omega⟩
theorem find_no{k:List Int}:∀ {l:MapL} {i:Nat},vx k l i=none→getF l k=0
 | [],i,h=>rfl
 | x::l,i,h=>by
  simp only[vx] at h
  simp only[getF]
  by_cases c:x.1=k
  ·rw[if_pos c] at h; cases h
  ·rw [if_neg c] at h ⊢
   exact find_no h
theorem put_found{k:List Int}{v:Int}:∀ {l:MapL} {i j:Nat} {u:Int},vx k l i=some (j,u) →
  (fX l i).modify (j-i) (fun e=>{ key:=keyV k,val:=.int .i64 v,born:=e.born })=fX (putL k v l) i∧(fX l i).modify (j-i) (fun e=>{ key:=e.key,val:=.int .i64 v,born:=e.born })=fX (putL k v l) i ∧
   (fX l i).modify (j-i) (fun e=>{ key:=keyV k,val:=e.val,born:=e.born })=fX l i∧(fX l i)[j-i]?=some (entE (k,u) j)∧(putL k v l).length=l.length
 | [],i,j,u,h=>by cases h
 | x::l,i,j,u,h=>by
  simp only[vx] at h
  simp only[putL]
  by_cases c:x.1=k
  ·rw [if_pos c] at h ⊢
   cases h
   obtain⟨xk,xv⟩:=x
   have c:xk=k:=c
   subst c
   simp only[Nat.sub_self,fX]
   exact⟨rfl,rfl,rfl,rfl,rfl⟩
  ·rw [if_neg c] at h ⊢
   have hj:=qlq h
   obtain⟨h1,h2,h3,h4,h5⟩:=put_found (v:=v) h
   have e:j-i=(j-(i+1))+1:=by omega
   rw[e]
   simp only[fX,List.modify_succ_cons,List.getElem?_cons_succ,h1,h2,h3,h4,List.length_cons,h5]
   exact⟨trivial,trivial,trivial,trivial,trivial⟩
theorem put_new{k:List Int}{v:Int}:∀ {l:MapL} {i:Nat},vx k l i=none→fX l i++[{ key:=keyV k,val:=.int .i64 v,born:=i+l.length }]=fX (putL k v l) i∧(putL k v l).length=l.length+1∧vx k (putL k v l) i=some (i+l.length,v)
 | [],i,_=>by
  refine⟨rfl,rfl,?_⟩
  simp only[putL,vx,if_true]
  rfl
 | x::l,i,h=>by
  simp only[vx] at h
  by_cases c:x.1=k
  ·rw[if_pos c] at h; cases h
  ·rw [if_neg c] at h
   obtain⟨h1,h2,h3⟩:=put_new (v:=v) h
   have e:i+(x::l).length=i+1+l.length:=by simp only[List.length_cons]; omega
   refine⟨?_,?_,?_⟩
   ·simp only [putL, if_neg c, fX, List.cons_append]
    rw[e,h1]
   ·simp only[putL,if_neg c,List.length_cons,h2]
   ·simp only [putL, if_neg c, vx]
    rw[e,h3]
theorem qlz{n:Nat}{k:List Int}{v:Int}(hk:k.length=n):∀ {l:MapL},(∀ x ∈ l,x.1.length=n)→∀ x ∈ putL k v l,x.1.length=n
 | [],_,x,hx=>by
  simp only[putL,List.mem_singleton] at hx
  rw[hx]; exact hk
 | y::l,h,x,hx=>by
  simp only[putL] at hx
  by_cases c:y.1=k
  ·rw [if_pos c] at hx
   rcases List.mem_cons.1 hx with e | e
   ·rw[e]; exact hk
   ·exact h x (List.mem_cons_of_mem _ e)
  ·rw [if_neg c] at hx
   rcases List.mem_cons.1 hx with e | e
   ·rw[e]; exact h y (List.mem_cons_self ..)
   ·exact qlz hk (fun z hz=>h z (List.mem_cons_of_mem _ hz)) x e
theorem same_bits(k:List Int):Instr.sameBits 10000 (keyV k) (keyV k)=true:=by
 have each:∀ v:Int,Instr.sameBits 9999 (.int .i64 v) (.int .i64 v)=true:=fun v=>by
  show Instr.sameBits (9998+1) (.int .i64 v) (.int .i64 v)=true
  unfold Instr.sameBits
  simp
 show Instr.sameBits (9999+1) (keyV k) (keyV k)=true
 unfold keyV
 rw[Instr.sameBits]
 simp only[beq_self_eq_true,Bool.true_and]
 rw[List.all_eq_true]
 intro p hp
 have:∀ {l:List Value} {p:Value × Value},p ∈ l.zip l→p.1=p.2∧p.1 ∈ l:=fun {l} {p} h=>by
  induction l with
  | nil=>cases h
  | cons a l ih=>
   rw[List.zip_cons_cons] at h
   rcases List.mem_cons.1 h with e | e
   ·rw[e]; exact⟨rfl,List.mem_cons_self ..⟩
   ·exact⟨(ih e).1,List.mem_cons_of_mem _ (ih e).2⟩
 obtain⟨h1,h2⟩:=this hp
 obtain⟨v,_,hv⟩:=List.mem_map.1 h2
 rw[← h1,← hv]
 exact each v
theorem sp_stays(k:List Int):cz P (Instr.keyThatStays (keyV k) (keyV k))=some (keyV k):=by
 unfold Instr.keyThatStays
 rw[if_pos (same_bits k)]
 rfl
structure MapAt (H:Hp) (r n:Nat) (l:MapL):Prop where
 block:H.get r=some (.map (fX l 0) l.length)
 keys:∀ x ∈ l,x.1.length=n
theorem Hk(k:List Int):bz (keyV k)=true:=by
 have:∀ k:List Int,ek (k.map (.int .i64))=true:=fun k=>by
  induction k with
  | nil=>rfl
  | cons a k ih=>exact ih
 exact this k
section
variable {t key elem:TypeId} {n:Nat} {H:Hp} {r:Nat} {l:MapL} {k:List Int}
theorem map_get(ht:Dy P t=some (key,elem))(hf:zW P key=some n)(hz:jx P elem=some (.int .i64 0))(h:MapAt H r n l)(hk:k.length=n):fZ P H t (.map (some r)) (keyV k) false=some (.int .i64 (getF l k)):=by
 unfold fZ zZ
 rw[ht]
 simp only[h.block,Hk]
 unfold HY HX
 show(match (match zW P key with | some n=>(match Nat.beq (k.map (Value.int .i64)).length n with | true=>iW (k.map (.int .i64)) (fX l 0) 0 | false=>none) | none=>none) with | some r=>NK P elem false r | none=>_)=_
 rw[hf]
 have:Nat.beq (k.map (Value.int .i64)).length n=true:=by rw[List.length_map,hk]; exact Nat.beq_refl n
 simp only[this,Ny hk h.keys]
 cases c:vx k l 0 with
 | none=>
  rw[find_no c]
  show NK P elem false none=_
  unfold NK
  rw[hz]
  rfl
 | some p=>
  obtain⟨j,u⟩:=p
  rw[← (qlq c).1]
  rfl
theorem map_put{v:Int}(ht:Dy P t=some (key,elem))(hf:zW P key=some n)(h:MapAt H r n l)(hk:k.length=n) :
  ∃ H',vz P t (.map (some r)) (keyV k) (.int .i64 v) H=some H'∧MapAt H' r n (putL k v l)∧∀ b,b≠r→H'.get b=H.get b:=by
 have hq:=sp_findKey (P:=P) (x:=k.map (.int .i64)) (es:=fX l 0) hf (by rw[List.length_map,hk]) (Ny hk h.keys)
 have hc:=sp_checkKey (P:=P) (x:=k.map (.int .i64)) hf (by rw[List.length_map,hk]) false
 have key':cz P (updS key (fX l 0) l.length (keyV k) (.int .i64 v))=some (fX (putL k v l) 0,(putL k v l).length):=by
  unfold updS
  rw[gz,show keyV k=.agg ⟨k.map (.int .i64)⟩ from rfl,hc]
  simp only
  rw[gz,hq]
  cases c:vx k l 0 with
  | none=>
   obtain⟨h1,h2,_⟩:=put_new (v:=v) c
   rw[← h1,h2,Nat.zero_add]
   rfl
  | some p=>
   obtain⟨j,u⟩:=p
   obtain⟨h1,_,_,h4,h5⟩:=put_found (v:=v) c
   rw[Nat.sub_zero] at h1 h4
   simp only[Option.map_some]
   rw[gz,h4]
   simp only[Option.map_some,Option.getD_some]
   have hst:cz P (Instr.keyThatStays (entE (k,u) j).key (.agg ⟨k.map (.int .i64)⟩))=some (keyV k):=sp_stays k
   rw[hst]
   rw[← h1,h5]
   rfl
 refine⟨H.set r (some (.map (fX (putL k v l) 0) (putL k v l).length)),?_,⟨?_,qlz hk h.keys⟩,?_⟩
 ·unfold vz
  rw[ht]
  simp only[h.block]
  rw[show(bz (keyV k) && bz (.int .i64 v))=true by rw[Hk]; rfl]
  simp only[key']
 ·rw[Tr.get_set,if_pos rfl]
 ·intro b hb
  rw[Tr.get_set,if_neg hb]
end
end Go.Ev
end
