import Derived.Test.YtnnkcjolgbpklaaGreatC5
set_option linter.unusedVariables false
section
namespace Go.Ev
open Go
variable {σ σ':Nat→Option Si} {F F' F0:Nat→Prop} {H H':Hp} {ρ:Type} {H0:KI ρ} {n n' n0:Nat} {G G':Tr Bx} {T:Tm} {A A':Tr AV} {P:Program}
 {cal:Cal} {pc:FuncId→List D→Option D} {ops:List Oper} {N:Nat}
noncomputable def putA(A:Tr AV)(dst:Option Tmp)(a:AV):Tr AV:=match dst with
 | some d=>A.set d (some a)
 | none=>A
theorem TRl.put(ht:TRl σ F H T A){dst:Option Tmp}{a:AV}{v:Value}(hv:VRel σ F H a v):TRl σ F H (putT T dst v) (putA A dst a):=by
 cases dst with
 | none=>exact ht
 | some d=>
  intro t b e
  simp only[putA,putT,Tr.get_set] at e ⊢
  by_cases q:t=d
  ·rw[if_pos q] at e ⊢; cases e; exact⟨v,rfl,hv⟩
  ·rw[if_neg q] at e ⊢; exact ht t b e
noncomputable def QJ(ops:List Oper)(j:Nat):Option Tmp:=match ops[j]? with
 | some oj=>oj.dst
 | none=>none
noncomputable def ifU(u:D)(p q:Option D):Option D:=match u with
 | .v (.bool true)=>p
 | .v (.bool false)=>q
 | _=>none
noncomputable def guardA(t:Tmp)(want:Bool)(A:Tr AV)(on off:Tr AV→Option D):Option D:=getK (A.get t) fun x=>match x with
 | .und=>off A
 | .b c=>selW (c == want) on off A
 | .d u=>ifU u (selW (true == want) on off (A.set t (some (.b true)))) (selW (false == want) on off (A.set t (some (.b false))))
 | _=>none
theorem guardA_ok{t:Tmp}{want:Bool}{on off:Tr AV→Option D}{r:Option ρ}(ht:TRl σ F H T A)
  (hon:∀ A,TRl σ F H T A→T.get t=some (.bool want)→Out n0 H0 F0 r (on A)) (hoff:∀ A,TRl σ F H T A→(T.get t=some (.bool (!want))∨T.get t=some undef)→Out n0 H0 F0 r (off A)):Out n0 H0 F0 r (guardA t want A on off):=by
 have sel:∀ {c:Bool} {A:Tr AV},TRl σ F H T A→T.get t=some (.bool c)→Out n0 H0 F0 r (selW (c == want) on off A):=by
  intro c A hA hc
  cases c <;> cases want
  ·exact hon A hA hc
  ·exact hoff A hA (.inl hc)
  ·exact hoff A hA (.inl hc)
  ·exact hon A hA hc
 unfold guardA
 refine Out.getK fun x hx=>?_
 obtain⟨v,h1,h2⟩:=ht t x hx
 split
 ·unfold VRel at h2; subst h2; exact hoff A ht (.inr h1)
 ·unfold VRel at h2; subst h2; exact sel ht h1
 ·rename_i u
  have h2:=h2.un
  unfold ifU
  split
  ·unfold DRel at h2; rw [h2.1] at h1
   exact sel (ht.set h1 (by unfold VRel; rfl)) h1
  ·unfold DRel at h2; rw [h2.1] at h1
   exact sel (ht.set h1 (by unfold VRel; rfl)) h1
  ·exact Out.no
 ·exact Out.no
noncomputable def yldO(op:Op)(A:Tr AV):Option (Nat × List AV):=match op with
 | .call c=>match c.callee with
  | .value f=>match opdA f A with
   | some (.d (.yld l))=>match Kq A c.args.toList with
    | some aS=>some (l,Kx aS)
    | none=>none
   | _=>none
  | _=>none
 | _=>none
structure YK where
 on:Bool
 f:Nat→List D→Option D→Option D→Option D
noncomputable def noY:YK:=⟨false,fun _ _ _ _=>none⟩
noncomputable def boolT(P:Program)(t:TypeId):Bool:=match P.underlying t with
 | some .bool=>true
 | _=>false
noncomputable def yldB(P:Program)(yk:YK)(op:Op)(type:TypeId)(A:Tr AV):Option (Nat × List AV):=match yk.on with
 | false=>none
 | true=>match boolT P type with
  | false=>none
  | true=>yldO op A
theorem yldB_some{P:Program}{yk:YK}{op:Op}{type:TypeId}{A:Tr AV}{y:Nat × List AV}(h:yldB P yk op type A=some y):yldO op A=some y:=by
 unfold yldB at h
 split at h
 ·cases h
 ·split at h
  ·cases h
  ·exact h
noncomputable def yldA(yk:YK)(y:Nat × List AV)(G:Tr Bx)(k:AV→Tr Bx→Option D):Option D:=getK (fzL (fzV 9) y.2 G) fun r=>yk.f y.1 r.1 (k (.b true) r.2) (k (.b false) r.2)
noncomputable def YZ(P:Program)(pc:FuncId→List D→Option D)(yk:YK)(ck:Tr Bx→Bool)(op:Op)(type:TypeId)(dst:Option Tmp)(A:Tr AV)(G:Tr Bx)(k:KO)(ky:AV→Tr Bx→Option D):Option D:=match yldB P yk op type A with
 | none=>opA P pc ck op type dst A G k
 | some y=>yldA yk y G ky
noncomputable def opsA(P:Program)(pc:FuncId→List D→Option D)(yk:YK)(N:Nat)(ops:List Oper):List Oper→Tr AV→Tr Bx→(Tr AV→Tr Bx→Option D)→Option D
 | [],A,G,k=>k A G
 | o::l,A,G,k=>match inN N o.dst with
  | false=>none
  | true=>match o.guard with
   | none=>YZ P pc yk (fun _=>true) o.op o.type o.dst A G (fun v q G=>opsA P pc yk N ops l (putA (Aj q A) o.dst v) G k) (fun v G=>opsA P pc yk N ops l (putA A o.dst v) G k)
   | some (j,want)=>getK (QJ ops j) fun t=>guardA t want A (fun A=>YZ P pc yk (fun _=>true) o.op o.type o.dst A G (fun v q G=>opsA P pc yk N ops l (putA (Aj q A) o.dst v) G k) (fun v G=>opsA P pc yk N ops l (putA A o.dst v) G k)) (fun A=>opsA P pc yk N ops l (putA A o.dst .und) G k)
def TK(n0:Nat)(Fam:KI ρ→Prop)(F0:Nat→Prop)(K:Tm→Hp→Nat→Option ρ)(k:Tr AV→Tr Bx→Option D):Prop:=
 ∀ H0,Fam H0→∀ σ F H n T A G,Rs n0 H0 F0 σ F H n G→TRl σ F H T A→Out n0 H0 F0 (K T H n) (k A G)
structure YOk (P:Program) (cal:Cal) (yk:YK) (n0:Nat) (Fam:KI ρ→Prop) (F0:Nat→Prop):Prop where
 no:∀ l xs,yk.f l xs none none=none
 run:∀ H0,Fam H0→∀ σ F H n G l xs vs (p q:Option D) (kc:Value→Hp→Nat→Option ρ),Rs n0 H0 F0 σ F H n G→bj F H xs vs →
  (∀ b H1 H' n',Fam H1→H1.ds=H0.ds→Rs n0 H1 F0 σ F H' n' G→(∀ c,F c→H'.get c=H.get c)→Out n0 H1 F0 (kc (.bool b) H' n') (if b then p else q)) →
  Out n0 H0 F0 (iW P cal (.func (.yield l) ⟨[]⟩ ⟨[]⟩) vs H n kc) (yk.f l xs p q)
theorem noY_ok{Fam:KI ρ→Prop}:YOk P cal noY n0 Fam F0:=⟨fun _ _=>rfl,fun _ _ _ _ _ _ _ _ _ _ _ _ _ _ _ _=>Out.no⟩
theorem YOk.fix{yk:YK}{Fam:KI ρ→Prop}(h:YOk P cal yk n0 Fam F0)(D:List Nat):YOk P cal yk n0 (fun K=>Fam K∧K.ds=D) F0:=
 ⟨h.no,fun H0 hF σ F H n G l xs vs p q kc h1 h2 h3=>h.run H0 hF.1 σ F H n G l xs vs p q kc h1 h2 fun b H1 H' n' g1 g2=>h3 b H1 H' n' ⟨g1,g2.trans hF.2⟩ g2⟩
theorem yldO_some{op:Op}{l:Nat}{aS:List AV}(ht:TRl σ F H T A)(e:yldO op A=some (l,aS)):∃ c f vs,op=.call c∧c.callee=.value f∧opd f T=some (.func (.yield l) ⟨[]⟩ ⟨[]⟩)∧opds T c.args.toList=some vs∧bW σ F H aS vs:=by
 unfold yldO at e
 split at e
 ·rename_i c
  split at e
  ·rename_i f hf
   split at e
   ·rename_i l' hl
    split at e
    ·rename_i as' has
     cases e
     obtain⟨fv,f1,f2⟩:=pj ht hl
     obtain⟨vs,v1,v2⟩:=tk ht has
     have f2:=f2.un
     unfold DRel at f2; subst f2
     exact⟨c,f,vs,rfl,hf,f1,v1,tJ v2⟩
    ·cases e
   ·cases e
  ·cases e
 ·cases e
theorem yldA_ok{yk:YK}{Fam:KI ρ→Prop}(hy:YOk P cal yk n0 Fam F0)(hF:Fam H0)(h:Rs n0 H0 F0 σ F H n G){y:Nat × List AV}{vs:List Value}(hv:bW σ F H y.2 vs){kc:Value→Hp→Nat→Option ρ}{k:AV→Tr Bx→Option D}
  (hk:∀ b H1 F1 H' n' G',Fam H1→H1.ds=H0.ds→Rs n0 H1 F0 σ F1 H' n' G'→(∀ c,F c→F1 c)→Fz F H H'→Out n0 H1 F0 (kc (.bool b) H' n') (k (.b b) G')) :
  Out n0 H0 F0 (iW P cal (.func (.yield y.1) ⟨[]⟩ ⟨[]⟩) vs H n kc) (yldA yk y G k):=by
 unfold yldA
 refine Out.getK fun r hr=>?_
 obtain⟨⟨⟨F1,r1,r2,r3⟩,_⟩,_⟩:=Ey (fun a F G d G' v h hv e=>AJ 9 a F G d G' v h hv e) y.2 F G r.1 r.2 vs h hv hr
 refine hy.run H0 hF σ F1 H n r.2 y.1 r.1 vs _ _ kc r1 r3 fun b H1 H' n' g1 g1' g2 g4=>?_
 have:=hk b H1 F1 H' n' r.2 g1 g1' g2 r2 (Fz.of_eq fun c hc=>g4 c (r2 c hc))
 cases b <;> exact this
theorem guardV_eq{j:Nat}{t:Tmp}(h:QJ ops j=some t):HV ops j T=T.get t:=by
 unfold QJ at h
 unfold HV
 split at h
 ·rename_i oj hj; simp only[hj,h]
 ·cases h
theorem ZY{yk:YK}{Fam:KI ρ→Prop}(hpc:∀ f,nx (iJ P f) (cal.call f) (pc f))(hy:YOk P cal yk n0 Fam F0){K:Tm→Hp→Nat→Option ρ}{k:Tr AV→Tr Bx→Option D}(hk:TK n0 Fam F0 K k) :
  ∀(l:List Oper) (H0:KI ρ),Fam H0→∀(σ:Nat→Option Si) (F:Nat→Prop) (H:Hp) (n:Nat) (T:Tm) (A:Tr AV) (G:Tr Bx),Rs n0 H0 F0 σ F H n G→TRl σ F H T A→Out n0 H0 F0 (opsE P cal N ops l T H n K) (opsA P pc yk N ops l A G k)
 | [],H0,hF,σ,F,H,n,T,A,G,h,ht=>hk H0 hF σ F H n T A G h ht
 | o::l,H0,hF,σ,F,H,n,T,A,G,h,ht=>by
  have run:∀ A,TRl σ F H T A→Out n0 H0 F0 (opE P cal o.op o.type T H n fun v H n=>opsE P cal N ops l (putT T o.dst v) H n K) (YZ P pc yk (fun _=>true) o.op o.type o.dst A G (fun v q G=>opsA P pc yk N ops l (putA (Aj q A) o.dst v) G k) (fun v G=>opsA P pc yk N ops l (putA A o.dst v) G k)):=fun A ht=>by
   unfold YZ
   split
   ·exact opA_ok hpc h ht fun σ' F' H' n' G' v a q r1 r2 r3=>ZY hpc hy hk l H0 hF σ' F' H' n' _ _ G' r1 ((r3.tr T A ht).put r2)
   ·rename_i y hyo
    obtain⟨c,f,vs,h1,h2,h3,h4,h5⟩:=yldO_some (l:=y.1) (aS:=y.2) ht (yldB_some hyo)
    rw[h1]
    simp only[opE,PW,h2,h3,h4,bK]
    exact yldA_ok hy hF h h5 fun b H1 F1 H' n' G' g1 _ g2 g3 g5=>ZY hpc hy hk l H1 g1 σ F1 H' n' _ _ G' g2 ((ht.mono (fun _ _ z=>z) g3 g5).put (by unfold VRel; rfl))
  simp only[opsE,opsA,oneE]
  cases hin:inN N o.dst with
  | false=>exact Out.no
  | true=>
   simp only
   cases hg:o.guard with
   | none=>exact run A ht
   | some g=>
    obtain⟨j,want⟩:=g
    refine Out.getK fun t htt=>?_
    simp only
    rw[guardV_eq htt]
    refine guardA_ok ht (fun A hA hT=>?_) (fun A hA hT=>?_)
    ·rw [hT, bK]
     have e:(want == want)=true:=by cases want <;> rfl
     simp only[bx,e]
     exact run A hA
    ·have go : Out n0 H0 F0 (opsE P cal N ops l (putT T o.dst undef) H n K) (opsA P pc yk N ops l (putA A o.dst .und) G k) := ZY hpc hy hk l H0 hF σ F H n _ _ G h (hA.put (by unfold VRel; rfl))
     rcases hT with hT | hT
     ·rw [hT, bK]
      have e:((!want) == want)=false:=by cases want <;> rfl
      simp only[bx,e]
      exact go
     ·rw[hT,bK]; exact go
def ExG(H:Hp)(n:Nat)(y:Extra):Prop:=y=.p∨y=.e∨(∃ t a,y=.l t a∧a.block<n∧pres H a.block)∨∃ id c e,y=.a id c e∧id<n
noncomputable def fltX:List Extra→List Extra
 | []=>[]
 | .l t a::l=>.l t a::fltX l
 | .a i c e::l=>.a i c e::fltX l
 | _::l=>fltX l
theorem qq{n:Nat}{H:Hp}:∀ {ex:List Extra},(∀ y ∈ ex,ExG H n y)→∀(H1 H2:Hp),lx ex H1=lx (fltX ex) H1∧lY ex H1=lY (fltX ex) H1∧lZ ex H1 H2=lZ (fltX ex) H1 H2∧kj ex H1 H2=kj (fltX ex) H1 H2∧chkX P H1 ex=true
 | [],_,_,_=>⟨rfl,rfl,rfl,rfl,rfl⟩
 | y::l,h,H1,H2=>by
  obtain⟨i1,i2,i3,i4,i5⟩:=qq (ex:=l) (fun z hz=>h z (List.mem_cons_of_mem _ hz)) H1 H2
  have no:∀ z:Extra,z=.p∨z=.e→lx (z::l) H1=lx (fltX l) H1∧lY (z::l) H1=lY (fltX l) H1∧lZ (z::l) H1 H2=lZ (fltX l) H1 H2∧kj (z::l) H1 H2=kj (fltX l) H1 H2∧chkX P H1 (z::l)=true:=by
   rintro z (rfl | rfl)
   all_goals
    refine⟨?_,i2,?_,i4,by simp only[chkX,chkE,i5,Bool.and_self]⟩
    ·simp only[lx,i1]; cases lx (fltX l) H1 <;> rfl
    ·simp only[lZ,i3]; cases lZ (fltX l) H1 H2 <;> rfl
  rcases h y List.mem_cons_self with rfl | rfl | ⟨t,a,rfl,_⟩ | ⟨id,c,e,rfl,_⟩
  ·exact no .p (.inl rfl)
  ·exact no .e (.inr rfl)
  ·exact⟨by simp only[lx,fltX,i1],i2,by simp only[lZ,fltX,i3],i4,by simp only[chkX,chkE,i5,Bool.and_self]⟩
  ·refine⟨by simp only[lx,fltX,i1],by simp only[lY,fltX,i2],by simp only[lZ,fltX,i3],by simp only[kj,fltX,i4],by simp only[chkX,chkE,i5,Bool.and_self]⟩
theorem jW{y:Extra}:∀ {ex:List Extra},y ∈ fltX ex→((∃ t a,y=.l t a)∨∃ id c e,y=.a id c e)∧y ∈ ex
 | [],h=>by cases h
 | .l t a::l,h=>by
  rcases List.mem_cons.1 h with q | q
  ·exact⟨.inl ⟨t,a,q⟩,by rw[q]; exact List.mem_cons_self⟩
  ·exact⟨(jW q).1,List.mem_cons_of_mem _ (jW q).2⟩
 | .a i c e::l,h=>by
  rcases List.mem_cons.1 h with q | q
  ·exact⟨.inr ⟨i,c,e,q⟩,by rw[q]; exact List.mem_cons_self⟩
  ·exact⟨(jW q).1,List.mem_cons_of_mem _ (jW q).2⟩
 | .p::l,h=>⟨(jW (ex:=l) h).1,List.mem_cons_of_mem _ (jW (ex:=l) h).2⟩
 | .e::l,h=>⟨(jW (ex:=l) h).1,List.mem_cons_of_mem _ (jW (ex:=l) h).2⟩
 | .m _ _ _ _ _::l,h=>⟨(jW (ex:=l) h).1,List.mem_cons_of_mem _ (jW (ex:=l) h).2⟩
theorem flt_in{y:Extra}:∀ {ex:List Extra},y ∈ ex→((∃ t a,y=.l t a)∨∃ id c e,y=.a id c e)→y ∈ fltX ex
 | [],h,_=>by cases h
 | z::l,h,g=>by
  rcases List.mem_cons.1 h with q | q
  ·subst q
   rcases g with⟨t,a,rfl⟩ | ⟨id,c,e,rfl⟩ <;> exact List.mem_cons_self
  ·have := flt_in q g
   cases z <;> first | exact List.mem_cons_of_mem _ this | exact this
theorem pres.cells{b:Nat}(h:pres H b):(∃ c e ro vec,H.get b=some (.cells c e ro vec))∨∃ c,H.get b=some (.rows c):=by
 obtain⟨B,c,h1,h2⟩:=h
 cases B with
 | cells c e ro vec=>exact .inl ⟨_,_,_,_,h1⟩
 | rows c=>exact .inr ⟨_,h1⟩
 | _=>cases h2
def MaskOf(ex:List Extra)(H Hm:Hp):Prop:=(∀ b,nwOf ex b→Hm.get b=none)∧(∀ b,¬ nwOf ex b→¬ ldOf ex b→Hm.get b=H.get b)∧∀ b,¬ nwOf ex b→∀ o vs,fk H b o vs↔fk Hm b o vs
theorem effK_run{ex:List Extra}(hex:∀ y ∈ ex,ExG H n y)(hap:∀ b,ldOf ex b→¬ nwOf ex b){op:Hp→Nat→(Value→Hp→Nat→Option ρ)→Option ρ}
  {R:Hp→Value→Hp→Nat→Prop} (hop:∀ Hm,MaskOf ex H Hm→∃ v H2 n2,(∀ k,op Hm n k=k v H2 n2)∧(∀ b,ldOf ex b→H2.get b=Hm.get b)∧R Hm v H2 n2) :
  ∃ v Hm H2 H3 n2,(∀ k,effK P ex H n op k=k v H3 n2)∧MaskOf ex H Hm∧R Hm v H2 n2∧(∀ b,ldOf ex b∨nwOf ex b→H3.get b=H.get b)∧∀ b,¬ ldOf ex b→¬ nwOf ex b→H3.get b=H2.get b:=by
 cases ex with
 | nil=>
  have hno:∀ b,¬ nwOf [] b∧¬ ldOf [] b:=fun b=>⟨fun⟨_,_,_,z,_⟩=>(by cases z),fun⟨_,_,z,_⟩=>(by cases z)⟩
  have hm:MaskOf [] H H:=⟨fun b z=>absurd z (hno b).1,fun _ _ _=>rfl,fun _ _ _ _=>Iff.rfl⟩
  obtain⟨v,H2,n2,h1,_,h3⟩:=hop H hm
  exact⟨v,H,H2,H2,n2,fun k=>by unfold effK; exact h1 k,hm,h3,fun b z=>(z.elim (fun z=>absurd z (hno b).2) (fun z=>absurd z (hno b).1)),fun _ _ _=>rfl⟩
 | cons y l=>
  generalize hE:y::l=E at hex hap hop ⊢
  have iL:∀ b,ldOf (fltX E) b↔ldOf E b:=fun b=>⟨fun⟨t,a,h,e⟩=>⟨t,a,(jW h).2,e⟩,fun⟨t,a,h,e⟩=>⟨t,a,flt_in h (.inl ⟨t,a,rfl⟩),e⟩⟩
  have iN:∀ b,nwOf (fltX E) b↔nwOf E b:=fun b=>⟨fun⟨i,c,e,h,q⟩=>⟨i,c,e,(jW h).2,q⟩,fun⟨i,c,e,h,q⟩=>⟨i,c,e,flt_in h (.inr ⟨i,c,e,rfl⟩),q⟩⟩
  obtain⟨H1,e1,e2⟩:=maskX_some (ex:=fltX E) (H:=H) fun z hz=>by
   obtain⟨h1,hm⟩:=jW hz
   rcases hex _ hm with q | q | ⟨t',a',q,_,q2⟩ | ⟨id,c,e,q,_⟩
   ·rcases h1 with⟨t,a,h1⟩ | ⟨i,c,e,h1⟩ <;> rw[q] at h1 <;> cases h1
   ·rcases h1 with⟨t,a,h1⟩ | ⟨i,c,e,h1⟩ <;> rw[q] at h1 <;> cases h1
   ·exact .inl ⟨t',a',q,q2.cells⟩
   ·exact .inr ⟨id,c,e,q⟩
  have hld:∀ b,ldOf E b→b<n∧pres H b:=by
   rintro b ⟨t,a,hm,rfl⟩
   rcases hex _ hm with q | q | ⟨t',a',q,q1,q2⟩ | ⟨id,c,e,q,_⟩
   ·cases q
   ·cases q
   ·cases q; exact⟨q1,q2⟩
   ·cases q
  have same:∀ b o vs,fk H b o vs↔fk H1 b o vs:=by
   intro b o vs
   rcases e2 b with q | ⟨⟨c,e,ro,vec,q1,q2⟩,_⟩
   ·exact⟨mw q,mw q.symm⟩
   ·constructor
    ·rintro ⟨B, c', h1, h2, h3⟩
     rw[q1] at h1; cases h1; cases h2
     exact⟨_,c,q2,rfl,h3⟩
    ·rintro ⟨B, c', h1, h2, h3⟩
     rw[q2] at h1; cases h1; cases h2
     exact⟨_,c,q1,rfl,h3⟩
  have hmA:∀ b,(nwOf E b→(lY (fltX E) H1).get b=none)∧(¬ nwOf E b→(lY (fltX E) H1).get b=H1.get b):=fun b=>
   ⟨fun z=>(NX b).1 ((iN b).2 z),fun z=>(NX b).2 (fun q=>z ((iN b).1 q))⟩
  have hmask:MaskOf E H (lY (fltX E) H1):=by
   refine⟨fun b z=>(hmA b).1 z,fun b z1 z2=>?_,fun b z o vs=>?_⟩
   ·rw [(hmA b).2 z1]
    rcases e2 b with q | ⟨_,q⟩
    ·exact q
    ·exact absurd ((iL b).1 q) z2
   ·rw [same b o vs]
    exact⟨mw ((hmA b).2 z),mw ((hmA b).2 z).symm⟩
  obtain⟨v,H2,n2,h1,h2,h3⟩:=hop _ hmask
  have hsome:∀ z ∈ fltX E,(∃ t a,z=.l t a∧(H2.get a.block).isSome)∨∃ id c e,z=.a id c e:=by
   intro z hz
   obtain⟨q,hm⟩:=jW hz
   rcases q with⟨t,a,rfl⟩ | q
   ·have hl : ldOf E a.block := ⟨t, a, hm, rfl⟩
    obtain⟨q1,B,c,q2,q3⟩:=hld _ hl
    refine .inl ⟨t,a,rfl,?_⟩
    rw[h2 _ hl,(hmA _).2 (hap _ hl)]
    rcases e2 a.block with q | ⟨⟨c,e,ro,vec,_,q⟩,_⟩
    ·rw[q,q2]; rfl
    ·rw[q]; rfl
   ·exact .inr q
  obtain⟨H3,f1,f2,f3⟩:=backX_some (H0:=H) (H:=H2) hsome
  obtain⟨m1,_,_,_,_⟩:=qq (P:=P) hex H H
  obtain⟨_,m2,_,_,_⟩:=qq (P:=P) hex H1 H1
  obtain⟨_,_,m3,_,_⟩:=qq (P:=P) hex H H2
  obtain⟨_,_,_,m4,_⟩:=qq (P:=P) hex H H3
  obtain⟨_,_,_,_,m5⟩:=qq (P:=P) hex (kj (fltX E) H H3) H3
  have hbA:∀ b,(nwOf E b→(kj (fltX E) H H3).get b=H.get b)∧(¬ nwOf E b→(kj (fltX E) H H3).get b=H3.get b):=fun b=>
   ⟨fun z=>(NY b).1 ((iN b).2 z),fun z=>(NY b).2 (fun q=>z ((iN b).1 q))⟩
  refine⟨v,_,H2,kj (fltX E) H H3,n2,fun k=>?_,hmask,h3,fun b z=>?_,fun b z1 z2=>?_⟩
  ·subst hE
   unfold effK
   simp only[m1,e1,aj,m2,h1,m3,f1,m4,m5]
   rfl
  ·by_cases q : nwOf E b
   ·exact(hbA b).1 q
   ·rw [(hbA b).2 q]
    exact f2 b ((iL b).2 (z.resolve_right q))
  ·rw [(hbA b).2 z2]
   exact f3 b (fun q=>z1 ((iL b).1 q))
noncomputable def pV(A:Tr AV):List Nat→Tr AV
 | []=>.nil
 | d::l=>match A.get d with
  | some a=>(pV A l).set d (some a)
  | none=>pV A l
theorem zq{d:Nat}{a:AV}:∀ {l:List Nat},(pV A l).get d=some a→A.get d=some a∧d ∈ l
 | [],h=>by rw[pV,Tr.get_nil] at h; cases h
 | x::l,h=>by
  simp only[pV] at h
  split at h
  ·rename_i b hb
   rw[Tr.get_set] at h
   by_cases q:d=x
   ·rw[if_pos q] at h; cases h; subst q; exact⟨hb,List.mem_cons_self⟩
   ·rw[if_neg q] at h; exact⟨(zq h).1,List.mem_cons_of_mem _ (zq h).2⟩
  ·exact⟨(zq h).1,List.mem_cons_of_mem _ (zq h).2⟩
theorem TRl.restr(ht:TRl σ F H T A)(l:List Nat):TRl σ F H (fj T l) (pV A l):=fun t a e=>by
 obtain⟨h1,h2⟩:=zq e
 obtain⟨v,h3,h4⟩:=ht t a h1
 exact⟨v,by rw[iz,if_pos h2]; exact h3,h4⟩
noncomputable def callish:Op→Bool
 | .call c=>match c.callee with
  | .value _=>true
  | _=>false
 | _=>false
noncomputable def EY(o:Oper)(A:Tr AV):Extra:=match dk o.op with
 | .l=>match o.op with
  | .load _ a=>match opdN a A with
   | some (.loc s _)=>.l 0 ⟨s,0,none⟩
   | some (.elo s _ _)=>.l 0 ⟨s,0,none⟩
   | some (.d _)=>.e
   | _=>.m 0 undef undef false undef
  | _=>.m 0 undef undef false undef
 | .a=>match o.dst with
  | some s=>.a s (some []) 0
  | none=>.m 0 undef undef false undef
 | .m=>.m 0 undef undef false undef
 | _=>.p
noncomputable def entA(x:Nat)(dst:Option Tmp)(slots:List Nat)(k:Extra):Ent:={ x,dst,slots,v:=undef,k }
noncomputable def exA(Anc:List Nat)(x:Nat):List Ent→List Extra
 | []=>[]
 | e::l=>match bit Anc x e.x with
  | true=>exA Anc x l
  | false=>match e.k with
   | .p=>exA Anc x l
   | k=>k::exA Anc x l
noncomputable def nwS:List Extra→Nat→Bool
 | [],_=>false
 | .a s _ _::l,w=>match Nat.beq s w with
  | true=>true
  | false=>nwS l w
 | _::l,w=>nwS l w
noncomputable def liveB:Option Bx→Bool
 | some (.dat _ false)=>true
 | some (.box _)=>true
 | some (.vec _ _ _ false)=>true
 | some (.map _ _ false)=>true
 | _=>false
noncomputable def neW(w:Option Nat)(b:Nat):Bool:=match w with
 | some w=>!Nat.beq w b
 | none=>true
noncomputable def okX(G:Tr Bx)(w:Option Nat)(ex:List Extra):List Extra→Bool
 | []=>true
 | .l _ a::l=>!nwS ex a.block && neW w a.block && okX G w ex l
 | .a s _ _::l=>liveB (G.get s) && neW w s && okX G w ex l
 | .e::l=>okX G w ex l
 | _::_=>false
noncomputable def wrS(o:Oper)(A:Tr AV):Option Nat:=match o.op with
 | .store _ a _=>match opdN a A with
  | some a=>addrS a
  | none=>none
 | _=>none
noncomputable def exOkA(Anc:List Nat)(x:Nat)(dirty:Bool)(o:Oper)(A:Tr AV)(G:Tr Bx)(log:List Ent):Bool:=match isE o with
 | false=>true
 | true=>match exA Anc x log with
  | []=>true
  | y::l=>!dirty && match callish o.op with
   | true=>true
   | false=>match wrS o A with
    | some w=>okX G (some w) (y::l) (y::l)
    | none=>false
noncomputable def ckA(Anc:List Nat)(x:Nat)(log:List Ent)(G:Tr Bx):Bool:=okX G none (exA Anc x log) (exA Anc x log)
noncomputable def nilK(l:List Extra)(k:Option D):Option D:=match l with
 | []=>k
 | _=>none
noncomputable def ny(P:Program)(pc:FuncId→List D→Option D)(yk:YK)(N:Nat)(ops:List Oper)(Anc:List Nat):List Nat→Bool→List Ent→Tr AV→Tr Bx→(Tr AV→Tr Bx→Option D)→Option D
 | [],_,_,A,G,k=>k A G
 | x::rest,dirty,log,A,G,k=>match ops[x]? with
  | none=>none
  | some o=>match inN N o.dst && Ak Anc log x o.dst (cz ops o) && !oV log x && (!isE o || rest.all fun y=>bit Anc y x) with
   | false=>none
   | true=>match o.guard with
    | none=>match exOkA Anc x dirty o (pV A (cz ops o)) G log with
     | false=>none
     | true=>YZ P pc yk (ckA Anc x log) o.op o.type o.dst (pV A (cz ops o)) G (fun v q G=>ny P pc yk N ops Anc rest (dirty || q.isSome) (entA x o.dst (cz ops o) (EY o (pV A (cz ops o)))::log) (putA (Aj q A) o.dst v) G k) (fun v G=>nilK (exA Anc x log) (ny P pc yk N ops Anc rest true (entA x o.dst (cz ops o) .p::log) (putA A o.dst v) G k))
    | some (j,want)=>getK (QJ ops j) fun t=>guardA t want A
      (fun A=>match exOkA Anc x dirty o (pV A (cz ops o)) G log with
       | false=>none
       | true=>YZ P pc yk (ckA Anc x log) o.op o.type o.dst (pV A (cz ops o)) G (fun v q G=>ny P pc yk N ops Anc rest (dirty || q.isSome) (entA x o.dst (cz ops o) (EY o (pV A (cz ops o)))::log) (putA (Aj q A) o.dst v) G k) (fun v G=>nilK (exA Anc x log) (ny P pc yk N ops Anc rest true (entA x o.dst (cz ops o) .p::log) (putA A o.dst v) G k)))
      (fun A=>ny P pc yk N ops Anc rest dirty (entA x o.dst (cz ops o) .p::log) (putA A o.dst .und) G k)
noncomputable def drawA(P:Program)(pc:FuncId→List D→Option D)(yk:YK)(N:Nat)(ops:List Oper)(A:Tr AV)(G:Tr Bx)(k:Tr AV→Tr Bx→Option D):Option D:=
 match ancOk ops (ancs ops) && covers ops.length (order ops (ancs ops)) && P.follows .mixedOrders with
 | true=>ny P pc yk N ops (ancs ops) (order ops (ancs ops)) false [] A G k
 | false=>none
def KR(σ:Nat→Option Si)(F:Nat→Prop)(H:Hp)(n:Nat)(c:Extra):Extra→Prop
 | .p=>c=.p∨c=.e
 | .e=>c=.p∨c=.e∨∃ t a,c=.l t a∧a.block<n∧pres H a.block∧F a.block
 | .l _ ad=>∃ t a i,c=.l t a∧a.block<n∧pres H a.block∧σ ad.block=some i∧i.nil=false∧a.block=i.b
 | .a s _ _=>∃ id cc t i,c=.a id cc t∧id<n∧σ s=some i∧i.nil=false∧i.b=id
 | .m _ _ _ _ _=>True
def LogS(K:Extra→Extra→Prop):List Ent→List Ent→Prop
 | [],[]=>True
 | e::l,e'::l'=>((e.x=e'.x∧e.dst=e'.dst∧e.slots=e'.slots)∧K e.k e'.k)∧LogS K l l'
 | _,_=>False
theorem LogS.slot{K:Extra→Extra→Prop}{Anc:List Nat}{x:Nat}{dst:Option Tmp}{slots:List Nat}:∀ {l l':List Ent},LogS K l l'→Ak Anc l x dst slots=Ak Anc l' x dst slots∧oV l x=oV l' x
 | [],[],_=>⟨rfl,rfl⟩
 | e::l,e'::l',h=>by
  obtain⟨⟨⟨h1,h2,h3⟩,_⟩,h4⟩:=h
  obtain⟨i1,i2⟩:=LogS.slot (Anc:=Anc) (x:=x) (dst:=dst) (slots:=slots) h4
  refine⟨?_,?_⟩
  ·unfold Ak at i1 ⊢
   simp only[List.all_cons,h1,h2,h3,i1]
  ·unfold oV at i2 ⊢
   simp only[List.any_cons,h1,i2]
 | [],_::_,h=>h.elim
 | _::_,[],h=>h.elim
theorem LogS.mono{K K':Extra→Extra→Prop}(hk:∀ c c',K c c'→K' c c'):∀ {l l':List Ent},LogS K l l'→LogS K' l l'
 | [],[],_=>trivial
 | _::_,_::_,h=>⟨⟨h.1.1,hk _ _ h.1.2⟩,LogS.mono hk h.2⟩
 | [],_::_,h=>h.elim
 | _::_,[],h=>h.elim
theorem KR.step{c c':Extra}{q:Option Nat}(hq:q=none)(h:Nx σ F H n σ' F' H' n' q)(g:KR σ F H n c c'):KR σ' F' H' n' c c':=by
 have hk:=h.keep hq
 have hle:=h.le
 cases c' with
 | p=>exact g
 | e=>
  rcases g with g | g | ⟨t,a,g1,g2,g3,g4⟩
  ·exact .inl g
  ·exact .inr (.inl g)
  ·exact .inr (.inr ⟨t,a,g1,by omega,hk.1 _ g2 g3,h.fr _ g4⟩)
 | l t ad=>
  obtain⟨t,a,i,g1,g2,g3,g4,g5,g6⟩:=g
  obtain⟨i',k1,k2,k3⟩:=hk.2 _ _ g4
  exact⟨t,a,i',g1,by omega,hk.1 _ g2 g3,k1,by rw[k2]; exact g5,by rw[k3]; exact g6⟩
 | a s c e=>
  obtain⟨id,cc,t,i,g1,g2,g3,g4,g5⟩:=g
  obtain⟨i',k1,k2,k3⟩:=hk.2 _ _ g3
  exact⟨id,cc,t,i',g1,by omega,k1,by rw[k2]; exact g4,by rw[k3]; exact g5⟩
 | m _ _ _ _ _=>trivial
theorem VK{K:Extra→Extra→Prop}{Anc:List Nat}{x:Nat}{y:Extra}(hK:∀ c,K c .p→c=.p∨c=.e):∀ {log log':List Ent},LogS K log log'→y ∈ exOf Anc ops x log→y=.p∨y=.e∨∃ y' ∈ exA Anc x log',K y y'
 | [],[],_,h=>by cases h
 | e::l,e'::l',hl,h=>by
  obtain⟨⟨⟨h1,_,_⟩,h2⟩,h3⟩:=hl
  have rest:y ∈ exOf Anc ops x l→y=.p∨y=.e∨∃ y' ∈ exA Anc x (e'::l'),K y y':=by
   intro hy
   rcases VK hK h3 hy with q | q | ⟨y',q1,q2⟩
   ·exact .inl q
   ·exact .inr (.inl q)
   ·refine .inr (.inr ⟨y', ?_, q2⟩)
    simp only[exA]
    split
    ·exact q1
    ·split
     ·exact q1
     ·exact List.mem_cons_of_mem _ q1
  simp only[exOf] at h
  split at h
  ·exact rest h
  ·rename_i hb
   split at h
   ·rcases List.mem_cons.1 h with q | q
    ·subst q
     rw[h1] at hb
     cases hk:e'.k with
     | p=>
      rw[hk] at h2; rcases hK _ h2 with z | z
      ·exact .inl z
      ·exact .inr (.inl z)
     | _=>refine .inr (.inr ⟨_,?_,h2⟩); simp only[exA,hb,hk]; exact List.mem_cons_self
    ·exact rest q
   ·exact rest h
 | [],_::_,h,_=>h.elim
 | _::_,[],h,_=>h.elim
theorem Ez{w:Option Nat}{ex:List Extra}{y:Extra}:∀ {l:List Extra},okX G w ex l=true→y ∈ l→y=.e∨(∃ t a,y=.l t a∧nwS ex a.block=false∧∀ x,w=some x→x≠a.block)∨∃ s c e,y=.a s c e∧liveB (G.get s)=true∧∀ x,w=some x→x≠s
 | [],_,h=>by cases h
 | z::l,h,hy=>by
  have hw:∀ {b:Nat},neW w b=true→∀ x,w=some x→x≠b:=by
   rintro b hb x rfl rfl
   simp [neW] at hb
  cases z with
  | l t a=>
   simp only[okX,Bool.and_eq_true] at h
   rcases List.mem_cons.1 hy with q | q
   ·exact .inr (.inl ⟨t,a,q,by simpa using h.1.1,hw h.1.2⟩)
   ·exact Ez h.2 q
  | a s c e=>
   simp only[okX,Bool.and_eq_true] at h
   rcases List.mem_cons.1 hy with q | q
   ·exact .inr (.inr ⟨s,c,e,q,h.1.1,hw h.1.2⟩)
   ·exact Ez h.2 q
  | e=>
   rcases List.mem_cons.1 hy with q | q
   ·exact .inl q
   ·exact Ez (l:=l) h q
  | _=>cases h
theorem nwS_of{s:Nat}{c:Option (List Value)}{e:TypeId}:∀ {ex:List Extra},Extra.a s c e ∈ ex→nwS ex s=true
 | [],h=>by cases h
 | y::l,h=>by
  rcases List.mem_cons.1 h with q | q
  ·subst q; simp [nwS]
  ·have := nwS_of q
   cases y with
   | a s' _ _=>simp only[nwS]; split <;> first | rfl | exact this
   | _=>exact this
theorem live_not(h:Rs n0 H0 F0 σ F H n G){s:Nat}{i:Si}(hs:σ s=some i)(hn:i.nil=false)(hl:liveB (G.get s)=true):¬ F i.b:=by
 unfold liveB at hl
 split at hl
 ·rename_i hg
  obtain⟨j,hj,b1,b2,_⟩:=h.site _ _ hg
  rw[hs] at hj; cases hj
  exact fun z=>by have:=b2.1 z; cases this
 ·rename_i hg
  obtain⟨j,hj,b1,b2,_⟩:=h.site _ _ hg
  rw[hs] at hj; cases hj
  exact b2
 ·rename_i hg
  obtain⟨j,hj,b1,b2,b3,b4⟩:=h.site _ _ hg
  rw[hs] at hj; cases hj
  rcases b4 with⟨z,_⟩ | ⟨_,b5,_⟩
  ·rw[hn] at z; cases z
  ·exact fun z=>by have:=b5.1 z; cases this
 ·rename_i hg
  obtain⟨j,hj,b1,b2,_⟩:=h.site _ _ hg
  rw[hs] at hj; cases hj
  exact fun z=>by have:=b2.1 z; cases this
 ·cases hl
theorem ex_good(h:Rs n0 H0 F0 σ F H n G){Anc:List Nat}{x:Nat}{w:Option Nat}{log log':List Ent}(hl:LogS (KR σ F H n) log log')(hok:okX G w (exA Anc x log') (exA Anc x log')=true) :
  (∀ y ∈ exOf Anc ops x log,ExG H n y)∧(∀ b,ldOf (exOf Anc ops x log) b→¬ nwOf (exOf Anc ops x log) b)∧(∀ b,nwOf (exOf Anc ops x log) b→¬ F b) ∧
   ∀ u i,w=some u→σ u=some i→i.nil=false→¬ F i.b→¬ ldOf (exOf Anc ops x log) i.b∧¬ nwOf (exOf Anc ops x log) i.b:=by
 have hK:∀ c,KR σ F H n c .p→c=.p∨c=.e:=fun c h=>h
 have hnw:∀ b,nwOf (exOf Anc ops x log) b→∃ s c e i,Extra.a s c e ∈ exA Anc x log'∧σ s=some i∧i.nil=false∧i.b=b∧¬ F b:=by
  rintro b ⟨id,c,e,hm,rfl⟩
  rcases VK hK hl hm with q | q | ⟨y',q1,q2⟩
  ·cases q
  ·cases q
  ·rcases Ez hok q1 with rfl | ⟨t, a, rfl, _⟩ | ⟨s, c', e', rfl, l1, l2⟩
   ·rcases q2 with q | q | ⟨_,_,q,_⟩ <;> cases q
   ·obtain⟨_,_,_,q,_⟩:=q2; cases q
   ·obtain ⟨id', cc, t, i, g1, g2, g3, g4, g5⟩ := q2
    cases g1
    exact⟨s,c',e',i,q1,g3,g4,g5,by rw[← g5]; exact live_not h g3 g4 l1⟩
 have hld:∀ b,ldOf (exOf Anc ops x log) b→F b∨∃ s i,σ s=some i∧i.nil=false∧i.b=b∧nwS (exA Anc x log') s=false∧∀ u,w=some u→u≠s:=by
  rintro b ⟨t,a,hm,rfl⟩
  rcases VK hK hl hm with q | q | ⟨y',q1,q2⟩
  ·cases q
  ·cases q
  ·rcases Ez hok q1 with rfl | ⟨t', a', rfl, l1, l2⟩ | ⟨s, c', e', rfl, l1, l2⟩
   ·rcases q2 with q | q | ⟨t1, a1, q, _, _, q4⟩
    ·cases q
    ·cases q
    ·cases q; exact .inl q4
   ·obtain ⟨t1, a1, i, g1, g2, g3, g4, g5, g6⟩ := q2
    cases g1
    exact .inr ⟨a'.block,i,g4,g5,g6.symm,l1,l2⟩
   ·obtain⟨_,_,_,_,q,_⟩:=q2; cases q
 refine⟨fun y hy=>?_,fun b h1 h2=>?_,fun b h2=>?_,fun u i hw hi hn hF=>⟨fun h1=>?_,fun h2=>?_⟩⟩
 ·rcases VK hK hl hy with q | q | ⟨y', q1, q2⟩
  ·exact .inl q
  ·exact .inr (.inl q)
  ·rcases Ez hok q1 with rfl | ⟨t', a', rfl, l1, l2⟩ | ⟨s, c', e', rfl, l1, l2⟩
   ·rcases q2 with q | q | ⟨t1, a1, q, q2, q3, _⟩
    ·exact .inl q
    ·exact .inr (.inl q)
    ·exact .inr (.inr (.inl ⟨t1,a1,q,q2,q3⟩))
   ·obtain ⟨t1, a1, i, g1, g2, g3, _⟩ := q2
    exact .inr (.inr (.inl ⟨t1,a1,g1,g2,g3⟩))
   ·obtain ⟨id, cc, t, i, g1, g2, _⟩ := q2
    exact .inr (.inr (.inr ⟨id,cc,t,g1,g2⟩))
 ·obtain ⟨s, c, e, i, a1, a2, a3, a4, a5⟩ := hnw b h2
  rcases hld b h1 with q | ⟨s',i',b1,b2,b3,b4,_⟩
  ·exact a5 q
  ·have := h.inj s s' i i' a2 b1 a3 b2 (by omega)
   subst this
   rw[nwS_of a1] at b4; cases b4
 ·obtain⟨_,_,_,_,_,_,_,_,a5⟩:=hnw b h2; exact a5
 ·rcases hld _ h1 with q | ⟨s', i', b1, b2, b3, b4, b5⟩
  ·exact hF q
  ·exact b5 u hw (h.inj u s' i i' hi b1 hn b2 b3.symm)
 ·obtain ⟨s, c, e, i', a1, a2, a3, a4, a5⟩ := hnw _ h2
  rcases Ez hok a1 with q | ⟨_,_,q,_⟩ | ⟨s',c',e',q,l1,l2⟩
  ·cases q
  ·cases q
  ·cases q
   exact l2 u hw (h.inj u s i i' hi a2 hn a3 a4.symm)
theorem effK_plain{ex:List Extra}(hex:∀ y ∈ ex,y=.p∨y=.e){op:Hp→Nat→(Value→Hp→Nat→Option ρ)→Option ρ}{k:Value→Hp→Nat→Option ρ} :
  effK P ex H n op k=op H n k:=by
 cases ex with
 | nil=>rfl
 | cons y l=>
  have hf:fltX (y::l)=[]:=by
   cases hfl:fltX (y::l) with
   | nil=>rfl
   | cons z l'=>
    obtain⟨h1,h2⟩:=jW (y:=z) (ex:=y::l) (by rw[hfl]; exact List.mem_cons_self)
    rcases hex z h2 with q | q <;> subst q <;> rcases h1 with⟨_,_,q⟩ | ⟨_,_,_,q⟩ <;> cases q
  have hex':∀ z ∈ y::l,ExG H n z:=fun z hz=>(hex z hz).elim .inl (fun q=>.inr (.inl q))
  unfold effK
  obtain⟨m1,m2,_,_,_⟩:=qq (P:=P) hex' H H
  rw[hf] at m1 m2
  have m1:lx (y::l) H=some H:=m1
  have m2:lY (y::l) H=H:=m2
  simp only[m1,aj,m2]
  congr 1
  funext v H2 n2
  obtain⟨_,_,m3,_,_⟩:=qq (P:=P) hex' H H2
  obtain⟨_,_,_,m4,_⟩:=qq (P:=P) hex' H H2
  obtain⟨_,_,_,_,m5⟩:=qq (P:=P) hex' H2 H2
  rw[hf] at m3 m4
  have m3:lZ (y::l) H H2=some H2:=m3
  have m4:kj (y::l) H H2=H2:=m4
  simp only[m3,aj,m4,m5]
  rfl
theorem kind_e{o:Oper}:isE o=true↔dk o.op=.e:=by
 unfold isE; cases dk o.op <;> simp
theorem loadV_pres{t:TypeId}{ad:Addr}{v:Value}(h:aJ P H t ad=some v):pres H ad.block:=by
 unfold aJ at h
 split at h
 ·cases h
 ·split at h
  ·rename_i hg; exact⟨_,_,hg,rfl⟩
  ·rename_i hg; exact⟨_,_,hg,rfl⟩
  ·cases h
theorem make_eq{t:TypeId}{l c:Value}:jQ P t l c (bare H n)=(PX P t l c).map fun q=>(.slice (some ⟨n,0,none⟩) q.1 q.2.1,nq (bare H n) q.2.2.1 q.2.2.2 none):=by
 unfold jQ PX
 cases eZ P t with
 | none=>rfl
 | some e=>
  cases l with
  | int kl il=>
   cases kl with
   | i64=>
    cases il with
    | ofNat l=>
     cases c with
     | int kc ic=>
      cases kc with
      | i64=>
       cases ic with
       | ofNat c=>
        simp only
        cases szT P e with
        | none=>rfl
        | some s=>
         cases xV P e with
         | none=>rfl
         | some b=>
          cases kV P e with
          | none=>rfl
          | some z=>
           simp only
           by_cases q:l≤c∧zJ c s b=true∧(aV z).length=s
           ·rw[if_pos q,if_pos q]; rfl
           ·rw[if_neg q,if_neg q]; rfl
       | negSucc c=>rfl
      | _=>rfl
     | _=>rfl
    | negSucc l=>rfl
   | _=>rfl
  | _=>rfl
theorem opD_A{x:Nat}{dirty:Bool}{o:Oper}{Anc:List Nat}{log log':List Ent}{K:KD ρ}{k:KO}(hpc:∀ f,nx (iJ P f) (cal.call f) (pc f))(h:Rs n0 H0 F0 σ F H n G)(ht:TRl σ F H T A)
  (hs:LogS (fun c c'=>c'=.p→c=.p∨c=.e) log log') (hl:dirty=false→LogS (KR σ F H n) log log') (hex:exOkA Anc x dirty o A G log'=true)
  (hk:∀ σ' F' H' n' G' v a q ex,Rs n0 H0 F0 σ' F' H' n' G'→VRel σ' F' H' a v→Nx σ F H n σ' F' H' n' q→KR σ' F' H' n' ex (EY o A)→Out n0 H0 F0 (K v ex H' n') (k a q G')) :
  Out n0 H0 F0 (opD P cal (exOf Anc ops x log) o T H n K) (opA P pc (ckA Anc x log') o.op o.type o.dst A G k):=by
 unfold opD
 cases hko:dk o.op with
 | p=>
  simp only
  have e:(∀ t x lo hi,o.op≠.slice t x lo hi none)→opA P pc (ckA Anc x log') o.op o.type o.dst A G k=opR P o.op o.type A G fun a=>k a none G:=by
   intro hns
   cases hop:o.op with
   | slice t x lo hi mx=>
    cases mx with
    | none=>exact absurd hop (hns t x lo hi)
    | some _=>rfl
   | call c=>
    rw[hop] at hko
    obtain⟨callee,args,ts⟩:=c
    cases callee with
    | builtin b=>cases b <;> first | rfl | (simp [dk] at hko)
    | _=>simp [dk] at hko
   | makeMap t r=>rw[hop] at hko; cases r <;> simp [dk] at hko
   | _=>first | rfl | (rw[hop] at hko; simp [dk] at hko)
  by_cases hsl:∃ t x lo hi,o.op=.slice t x lo hi none
  ·obtain ⟨t, x', lo, hi, hop⟩ := hsl
   rw[hop]
   simp only[opA]
   refine Out.getK fun a ha=>Out.getK fun lo' hlo=>Out.getK fun hi' hhi=>?_
   obtain⟨v,v1,v2⟩:=dY ht ha
   obtain⟨l,l1,l2⟩:=Qz ht hlo
   obtain⟨u,u1,u2⟩:=Qz ht hhi
   simp only[opE,v1,l1,u1,bK]
   exact sliceA_ok (kp:=fun v=>K v .p H n) h v2 l2 u2 fun F' G' v a q1 q2 q3=>hk σ F' H n G' v a none .p q1 q3 (Nx.frz q2) (by unfold EY; rw[hko]; exact .inl rfl)
  rw[e (fun t x lo hi z=>hsl ⟨t,x,lo,hi,z⟩)]
  exact opR_ok h ht fun v a hv=>(hk σ F H n G v a none .p h hv Nx.refl (by unfold EY; rw[hko]; exact .inl rfl))
 | l=>
  simp only
  cases hop:o.op with
  | load t a=>
   simp only[opA,opR]
   refine Out.getK fun a' ha=>?_
   obtain⟨v,h1,h2⟩:=dY ht ha
   rw[h1,bK]
   refine loadA_ok' (kc:=fun ad v=>K v (.l t ad) H n) h h2 fun ad hadr had v' w hload hv=>(hk σ F H n G v' w none (.l t ad) h hv Nx.refl ?_)
   unfold EY
   rw[hko]
   simp only[hop,ha]
   have own:∀ {s o':Nat} {i:Si},σ s=some i→i.nil=false→v=.pointer (some ⟨i.b,o',none⟩)→KR σ F H n (.l t ad) (.l 0 ⟨s,0,none⟩):=by
    rintro s o' i hi hn rfl
    cases hadr
    exact⟨t,_,i,rfl,had,loadV_pres hload,hi,hn,rfl⟩
   cases a' with
   | loc s o'=>unfold VRel at h2; obtain⟨i,hi,hn,e⟩:=h2; exact own hi hn e
   | elo s q o'=>unfold VRel at h2; obtain⟨i,hi,hn,e⟩:=h2; exact own hi hn e
   | d y=>
    refine .inr (.inr ⟨t,ad,rfl,had,loadV_pres hload,?_⟩)
    have h2:=h2.un
    cases y with
    | ref c=>unfold DRel at h2; obtain⟨_,b,o',rfl,hF,_⟩:=h2; cases hadr; exact hF
    | v y=>unfold DRel at h2; obtain⟨rfl,hsc⟩:=h2; cases v <;> simp [aY,vq] at hadr hsc <;> simp_all
    | agg l=>unfold DRel at h2; obtain⟨_,vs,rfl,_⟩:=h2; cases hadr
    | sl l=>unfold DRel at h2; rcases h2 with⟨rfl,_⟩ | ⟨_,_,_,_,rfl,_⟩ | ⟨_,_,_,rfl,_⟩ <;> cases hadr
    | fn f x y=>unfold DRel at h2; obtain⟨_,_,rfl,_⟩:=h2; cases hadr
    | tup l=>unfold DRel at h2; obtain⟨_,rfl,_⟩:=h2; cases hadr
    | opq=>unfold DRel at h2; rw[h2.2.2.2.2] at hadr; cases hadr
    | yld l=>unfold DRel at h2; subst h2; cases hadr
    | map es c=>unfold DRel at h2; obtain⟨_,rfl,_⟩:=h2; cases hadr
   | _=>trivial
  | call c=>
   rw[hop] at hko
   obtain⟨callee,args,ts⟩:=c
   cases callee with
   | builtin b=>cases b <;> simp [dk] at hko
   | _=>simp [dk] at hko
  | makeMap t r=>rw[hop] at hko; cases r <;> simp [dk] at hko
  | _=>rw[hop] at hko; simp [dk] at hko
 | a=>
  simp only
  have kx:EY o A=match o.dst with
   | some s=>.a s (some []) 0
   | none=>.m 0 undef undef false undef:=by unfold EY; rw[hko]
  have kop:∀ {c:Option (List Value)} {e:TypeId},KOkN o.dst n0 H0 F0 σ F H n (fun v H' n'=>K v (.a n c e) H' n') k:=by
   rintro c e σ' F' H' n' G' v a q r1 r2 r3 ⟨s,i,hd,hi,hn,hb,hlt⟩
   refine(hk σ' F' H' n' G' v a q (.a n c e) r1 r2 r3 ?_)
   rw[kx,hd]
   exact⟨n,c,e,i,rfl,hlt,hi,hn,hb⟩
  cases hop:o.op with
  | alloc e=>
   simp only[opA]
   cases hz:kV P e with
   | none=>
    unfold allocA
    refine Out.getK fun z hzz=>?_
    obtain⟨zv,z1,_⟩:=HX (F:=F) (H:=H) hzz
    rw[hz] at z1; cases z1
   | some z=>
    have:=allocA_ok (P:=P) (e:=e) (dst:=o.dst) h (kop (c:=some (aV z)) (e:=e))
    unfold jK at this
    rw[hz] at this
    exact this
  | box e x=>
   simp only[opA]
   refine Out.getK fun a ha=>?_
   obtain⟨v,h1,h2⟩:=dY ht ha
   rw[h1,bK]
   exact boxA_ok (e:=e) h h2 (kop (c:=some (aV v)) (e:=e))
  | buildSlice t len parts=>
   simp only[opA]
   refine Out.getK fun ps hps=>?_
   obtain⟨vs,v1,v2⟩:=Jy ht hps
   rw[v1,bK]
   cases hr:zK P t len vs with
   | none=>
    have:=rowA_ok (P:=P) (t:=t) (len:=len) (dst:=o.dst) h (HZ v2) (kop (c:=some []) (e:=0))
    unfold rowK at this
    rw[hr] at this
    exact this
   | some q=>
    have:=rowA_ok (P:=P) (t:=t) (len:=len) (dst:=o.dst) h (HZ v2) (kop (c:=some q.1) (e:=q.2))
    unfold rowK at this
    rw[hr] at this
    exact this
  | makeSlice t l c=>
   simp only[opA]
   refine Out.getK fun a ha=>Out.getK fun b hb=>?_
   obtain⟨u,u1,u2⟩:=dY ht ha
   obtain⟨v,v1,v2⟩:=dY ht hb
   refine mK u2 fun du hu=>mK v2 fun dv hv=>?_
   rw[u1,v1,bK,bK]
   cases hr:PX P t u v with
   | none=>
    have:=qnz (P:=P) (t:=t) (dst:=o.dst) h hu hv (kop (c:=some []) (e:=0))
    rw[make_eq,hr] at this
    exact this
   | some q=>
    have:=qnz (P:=P) (t:=t) (dst:=o.dst) h hu hv (kop (c:=some q.2.2.1) (e:=q.2.2.2))
    rw[make_eq,hr] at this
    exact this
  | makeMap t r=>
   cases r with
   | some r=>rw[hop] at hko; simp [dk] at hko
   | none=>simp only[opA]; exact newMap_ok h (kop (c:=none) (e:=0))
  | call c=>
   rw[hop] at hko
   obtain⟨callee,args,ts⟩:=c
   cases callee with
   | builtin b=>cases b <;> simp [dk] at hko
   | _=>simp [dk] at hko
  | _=>rw[hop] at hko; simp [dk] at hko
 | e=>
  simp only
  have hE:isE o=true:=kind_e.2 hko
  have kx:EY o A=.p:=by unfold EY; rw[hko]
  have kop:KOk n0 H0 F0 σ F H n (fun v H' n'=>K v .e H' n') k:=fun σ' F' H' n' G' v a q r1 r2 r3=>(hk σ' F' H' n' G' v a q .e r1 r2 r3 (by rw[kx]; exact .inr rfl))
  cases hexA:exA Anc x log' with
  | nil=>
   have hpl:∀ y ∈ exOf Anc ops x log,y=.p∨y=.e:=by
    intro y hy
    rcases VK (fun c h=>h rfl) hs hy with q | q | ⟨y',q1,_⟩
    ·exact .inl q
    ·exact .inr q
    ·rw[hexA] at q1; cases q1
   rw[effK_plain hpl]
   exact opA_ok hpc h ht kop
  | cons y0 ys=>
   unfold exOkA at hex
   rw[hE,hexA] at hex
   simp only[Bool.and_eq_true,Bool.not_eq_true'] at hex
   have hl:=hl hex.1
   cases hc:callish o.op with
   | false=>
    rw[hc] at hex
    simp only at hex
    cases hw:wrS o A with
    | none=>rw[hw] at hex; cases hex.2
    | some w=>
     rw[hw] at hex
     have hok:okX G (some w) (exA Anc x log') (exA Anc x log')=true:=by rw[hexA]; exact hex.2
     obtain⟨g1,g2,g3,g4⟩:=ex_good (ops:=ops) h hl hok
     cases hop:o.op with
     | store t a xx=>
      simp only[opA]
      refine Out.getK fun aa ha=>Out.getK fun xa hx=>?_
      obtain⟨av,a1,a2⟩:=dY ht ha
      obtain⟨v,v1,v2⟩:=dY ht hx
      intro y ey
      obtain⟨w',hw',i,X,G',s1,s2,hFi,s3,s4,s5⟩:=storeA_run (P:=P) h a2 v2 y ey
      have hww:w'=w:=by
       unfold wrS at hw
       rw[hop] at hw
       simp only[ha] at hw
       rw[hw'] at hw; cases hw; rfl
      subst hww
      obtain⟨n1,n2⟩:=g4 w' i rfl s1 s2 hFi
      obtain⟨v',Hm,H2,H3,n3,e1,e2,⟨rfl,rfl,rfl⟩,e4,e5⟩:=effK_run (ρ:=ρ) (P:=P) (ex:=exOf Anc ops x log) (H:=H) (n:=n) (op:=fun H n k=>opE P cal (.store t a xx) o.type T H n k) g1 g2
       (R:=fun Hm v H2 n2=>v=undef∧H2=Hm.set i.b X∧n2=n) (fun Hm hm=>by
        refine⟨undef,Hm.set i.b X,n,fun k=>?_,fun b hb=>?_,rfl,rfl,rfl⟩
        ·simp only [opE, a1, v1, bK]
         rw[s3 Hm (hm.2.1 _ n2 n1),aj]
        ·rw[Tr.get_set,if_neg (fun z=>by subst z; exact n1 hb)])
      rw[e1]
      obtain ⟨t1, t2⟩ := s4 H3 (fun b => by
       by_cases q:b=i.b
       ·subst q
        rw[if_pos rfl,e5 _ n1 n2,Tr.get_set,if_pos rfl]
       ·rw [if_neg q]
        by_cases q1:ldOf (exOf Anc ops x log) b
        ·exact e4 b (.inl q1)
        ·by_cases q2 : nwOf (exOf Anc ops x log) b
         ·exact e4 b (.inr q2)
         ·rw [e5 b q1 q2, Tr.get_set, if_neg q]
          exact e2.2.1 b q2 q1)
      exact kop _ _ _ _ _ _ _ none t1 tup0 t2 y s5
     | _=>simp [wrS,hop] at hw
   | true=>
    cases hop:o.op with
    | call c=>
     rw[hop] at hc
     simp only[callish] at hc
     split at hc
     ·rename_i f hf
      simp only[opA,hf]
      refine Out.getK fun fa hfa=>Out.getK fun aS has=>?_
      obtain⟨fv,f1,f2⟩:=pj ht hfa
      obtain⟨vs,v1,v2⟩:=tk ht has
      intro y e
      obtain⟨F1,G1,F2,G2,d,r1,r2,hokb,r3,r3',r5,r6,r4⟩:=callA_run (P:=P) (cal:=cal) hpc h f2 (tJ v2) (thaw_ok hfa) e
      have hokb:okX G1 none (exA Anc x log') (exA Anc x log')=true:=hokb
      ·
       obtain⟨g1,g2,g3,_⟩:=ex_good (ops:=ops) r1 (hl.mono fun c c' z=>KR.step rfl (Nx.frz (n:=n) (H:=H) (σ:=σ) r2) z) hokb
       have lt:∀ b,ldOf (exOf Anc ops x log) b∨nwOf (exOf Anc ops x log) b→b<n:=by
        rintro b (⟨t,a,hm,rfl⟩ | ⟨id,c,e,hm,rfl⟩)
        ·rcases g1 _ hm with q | q | ⟨t', a', q, q1, _⟩ | ⟨_, _, _, q, _⟩ <;> cases q
         exact q1
        ·rcases g1 _ hm with q | q | ⟨t', a', q, q1, _⟩ | ⟨_, _, _, q, q1⟩ <;> cases q
         exact q1
       obtain⟨v,Hm,H2,H3,n2,s1,s2,⟨s3,s4,F',s5,s6,s7⟩,s8,s9⟩:=effK_run (ρ:=ρ) (P:=P) (ex:=exOf Anc ops x log) (H:=H) (n:=n) (op:=fun H n k=>opE P cal (.call c) o.type T H n k) g1 g2
        (R:=fun Hm v H2 n2=>n≤n2∧Keep n Hm H2∧∃ F',(∀ b,F1 b→F' b)∧(∀ b,F' b→F1 b∨(n≤b∧b<n2))∧DRel F' H2 d v)
        (fun Hm hm=>by
         obtain⟨v,H',n',F',t1,t2,t3,t4,t5,t6⟩:=r4 Hm (fun b hb=>⟨fun o vs z=>(hm.2.2 b (fun q=>g3 b q hb) o vs).1 z,fun es c z=>by
          rw[hm.2.1 b (fun q=>g3 b q hb) (fun q=>?_)]; exact z
          obtain⟨t',a',hm',rfl⟩:=q
          rcases g1 _ hm' with q | q | ⟨t1,a1,q,_,B,c1,q2,q3⟩ | ⟨_,_,_,q,_⟩ <;> cases q
          rw[z] at q2; cases q2; cases q3⟩)
         exact⟨v,H',n',fun k=>by simp only[opE,PW,hf,f1,v1,bK,t1],fun b hb=>t3 b (lt b (.inl hb)),t2,t3,F',t4,t5,t6⟩)
       rw[s1]
       have hkp:Keep n H H3:=by
        intro b hb
        by_cases q1:ldOf (exOf Anc ops x log) b
        ·exact s8 b (.inl q1)
        ·by_cases q2 : nwOf (exOf Anc ops x log) b
         ·exact s8 b (.inr q2)
         ·rw[s9 b q1 q2,s4 b hb]; exact s2.2.1 b q2 q1
       have hfz:Fz F' H2 H3:=by
        refine fun b hb=>⟨fun o vs z=>?_,fun es c z=>?_⟩
        rotate_left
        ·by_cases q1 : ldOf (exOf Anc ops x log) b
         ·exfalso
          have z1:Hm.get b=some (.map es c):=(s4 b (lt b (.inl q1))).symm.trans z
          obtain⟨t',a',hm',rfl⟩:=q1
          rcases g1 _ hm' with q | q | ⟨t1,a1,q,_,B,c1,q2,q3⟩ | ⟨_,_,_,q,_⟩ <;> cases q
          obtain⟨B',c',w1,w2,_⟩:=(s2.2.2 _ (g2 _ ⟨t',a',hm',rfl⟩) 0 []).1 ⟨B,c1,q2,q3,fun k v hv=>by simp at hv⟩
          rw[z1] at w1; cases w1; cases w2
         ·by_cases q2 : nwOf (exOf Anc ops x log) b
          ·rcases s6 b hb with z1 | z1
           ·exact absurd z1 (g3 b q2)
           ·have:=lt b (.inr q2); omega
          ·rw[s9 b q1 q2]; exact z
        by_cases q1:ldOf (exOf Anc ops x log) b
        ·have z1 : fk Hm b o vs := mw (s4 b (lt b (.inl q1))).symm z
         exact mw (s8 b (.inl q1)) ((s2.2.2 b (g2 b q1) o vs).2 z1)
        ·by_cases q2 : nwOf (exOf Anc ops x log) b
         ·rcases s6 b hb with z1 | z1
          ·exact absurd z1 (g3 b q2)
          ·have:=lt b (.inr q2); omega
         ·exact mw (s9 b q1 q2) z
       obtain⟨F3,q1,q2,q3⟩:=call_next r3 r3' r5 s3 hkp s5 s6 (s7.mono (fun _ z=>z) hfz)
       exact hk _ _ _ _ _ _ _ none .e q1 q2 q3 (by rw[kx]; exact .inr rfl) y r6
     ·cases hc
    | _=>rw[hop] at hc; cases hc
 | m=>
  simp only
  cases hop:o.op with
  | lookup t a b ok=>
   simp only[opA,opR]
   refine Out.getK fun a' ha=>Out.getK fun b' hb=>?_
   obtain⟨u,u1,u2⟩:=dY ht ha
   obtain⟨v,v1,v2⟩:=dY ht hb
   refine mK v2 fun dv hv=>Out.bindO fun es hes=>Out.bindO fun d hd=>?_
   obtain⟨w,w1,w2⟩:=lookD_ok (mapA_ok h u2 hes) hv hd
   rw[u1,v1,bK,bK,w1,aj]
   exact hk _ _ _ _ _ _ _ none _ h (.dat w2) Nx.refl (by unfold EY; rw[hko]; trivial)
  | call c=>
   rw[hop] at hko
   obtain⟨callee,args,ts⟩:=c
   cases callee with
   | builtin b=>cases b <;> simp [dk] at hko
   | _=>simp [dk] at hko
  | makeMap t r=>rw[hop] at hko; cases r <;> simp [dk] at hko
  | _=>rw[hop] at hko; simp [dk] at hko
theorem yldA_no{yk:YK}{y:Nat × List AV}{r:Option ρ}{z:Extra}{es:List Extra}{k:AV→Tr Bx→Option D}(hn:∀ l xs,yk.f l xs none none=none):Out n0 H0 F0 r (yldA yk y G fun v G=>nilK (z::es) (k v G)):=by
 unfold yldA
 refine Out.getK fun r hr=>?_
 show OutP _ (yk.f _ _ none none)
 rw[hn]; exact Out.no
theorem HK{yk:YK}{Fam:KI ρ→Prop}(hpc:∀ f,nx (iJ P f) (cal.call f) (pc f))(hy:YOk P cal yk n0 Fam F0){Anc:List Nat}{K:Tm→Hp→Nat→Option ρ}{k:Tr AV→Tr Bx→Option D}(hk:TK n0 Fam F0 K k) :
  ∀(l:List Nat) (dirty:Bool) (log':List Ent) (H0:KI ρ),Fam H0→∀(σ:Nat→Option Si) (F:Nat→Prop) (g:Reg) (A:Tr AV) (G:Tr Bx),Rs n0 H0 F0 σ F g.H g.n G→TRl σ F g.H g.T A→LogS (fun c c'=>c'=.p→c=.p∨c=.e) g.log log' →
   (dirty=false→LogS (KR σ F g.H g.n) g.log log')→Out n0 H0 F0 (tx P cal N ops Anc l g fun g=>K g.T g.H g.n) (ny P pc yk N ops Anc l dirty log' A G k)
 | [],dirty,log',H0,hF,σ,F,g,A,G,h,ht,hs,hd=>hk H0 hF σ F g.H g.n g.T A G h ht
 | x::rest,dirty,log',H0,hF,σ,F,g,A,G,h,ht,hs,hd=>by
  simp only[tx,ny]
  cases ho:ops[x]? with
  | none=>exact Out.no
  | some o=>
   simp only
   obtain⟨e1,e2⟩:=hs.slot (Anc:=Anc) (x:=x) (dst:=o.dst) (slots:=cz ops o)
   rw[e1,e2]
   generalize (inN N o.dst && Ak Anc log' x o.dst (cz ops o) && !oV log' x && (!isE o || rest.all fun y=>bit Anc y x))=b1
   cases b1 with
   | false=>exact Out.no
   | true=>
    simp only
    have next:∀ A,TRl σ F g.H g.T A→∀ kx,(∀ c,KR σ F g.H g.n c kx→kx=.p→c=.p∨c=.e)→∀ σ' F' H' n' G' v a q ex,Rs n0 H0 F0 σ' F' H' n' G'→VRel σ' F' H' a v→Nx σ F g.H g.n σ' F' H' n' q→KR σ' F' H' n' ex kx →
      Out n0 H0 F0 (tx P cal N ops Anc rest (addE g x o.dst (cz ops o) v ex H' n') fun g=>K g.T g.H g.n)
       (ny P pc yk N ops Anc rest (dirty || q.isSome) (entA x o.dst (cz ops o) kx::log') (putA (Aj q A) o.dst a) G' k):=by
     intro A hA kx hkx σ' F' H' n' G' v a q ex r1 r2 r3 r4
     refine HK hpc hy hk rest _ _ H0 hF σ' F' _ _ G' r1 ((r3.tr _ A hA).put r2) ⟨⟨⟨rfl,rfl,rfl⟩,fun z=>?_⟩,hs⟩ fun hdd=>?_
     ·have z : kx = .p := z
      subst z; exact r4
     ·rw [Bool.or_eq_false_iff] at hdd
      have hq:q=none:=by cases q with
       | none=>rfl
       | some _=>cases hdd.2
      exact⟨⟨⟨rfl,rfl,rfl⟩,r4⟩,(hd hdd.1).mono fun c c' z=>KR.step hq r3 z⟩
    have run:∀ A,TRl σ F g.H g.T A→Out n0 H0 F0 (opD P cal (exOf Anc ops x g.log) o (fj g.T (cz ops o)) g.H g.n fun v ex H n=>tx P cal N ops Anc rest (addE g x o.dst (cz ops o) v ex H n) fun g=>K g.T g.H g.n)
      (match exOkA Anc x dirty o (pV A (cz ops o)) G log' with
       | false=>none
       | true=>YZ P pc yk (ckA Anc x log') o.op o.type o.dst (pV A (cz ops o)) G (fun v q G=>ny P pc yk N ops Anc rest (dirty || q.isSome) (entA x o.dst (cz ops o) (EY o (pV A (cz ops o)))::log') (putA (Aj q A) o.dst v) G k) (fun v G=>nilK (exA Anc x log') (ny P pc yk N ops Anc rest true (entA x o.dst (cz ops o) .p::log') (putA A o.dst v) G k))):=by
     intro A hA
     cases hex:exOkA Anc x dirty o (pV A (cz ops o)) G log' with
     | false=>exact Out.no
     | true=>
      simp only
      unfold YZ
      split
      ·exact opD_A hpc h (hA.restr _) hs hd hex (next A hA _ (fun c z1 z2=>by rw[z2] at z1; exact z1))
      ·rename_i y hyo
       obtain⟨c,f,vs,h1,h2,h3,h4,h5⟩:=yldO_some (l:=y.1) (aS:=y.2) (hA.restr _) (yldB_some hyo)
       have hko:dk o.op=.e:=by
        rw[h1]; obtain⟨cc,aa,tt⟩:=c; simp only at h2; subst h2; rfl
       cases hexA:exA Anc x log' with
       | cons _ _=>exact yldA_no hy.no
       | nil=>
        have hpl:∀ y ∈ exOf Anc ops x g.log,y=.p∨y=.e:=by
         intro y hy
         rcases VK (fun c h=>h rfl) hs hy with q | q | ⟨y',q1,_⟩
         ·exact .inl q
         ·exact .inr q
         ·rw[hexA] at q1; cases q1
        unfold opD
        rw[hko]
        simp only
        rw[effK_plain hpl,h1]
        simp only[opE,PW,h2,h3,h4,bK]
        refine yldA_ok hy hF h h5 fun b H1 F1 H' n' G' g1 _ g2 g3 g5=>?_
        exact HK hpc hy hk rest true _ H1 g1 σ F1 _ _ G' g2 ((hA.mono (fun _ _ z=>z) g3 g5).put (by unfold VRel; rfl)) ⟨⟨⟨rfl,rfl,rfl⟩,fun _=>.inr rfl⟩,hs⟩ (fun z=>by cases z)
    unfold stepD
    cases hg:o.guard with
    | none=>exact run A ht
    | some gg=>
     obtain⟨j,want⟩:=gg
     refine Out.getK fun t htt=>?_
     simp only
     have hin:t ∈ cz ops o:=by
      unfold cz
      rw[hg]
      unfold QJ at htt
      split at htt
      ·rename_i oj hj
       simp only[hj]
       rw[List.mem_append]; right
       rw[htt]; simp
      ·cases htt
     rw[guardV_eq htt,iz,if_pos hin]
     refine guardA_ok ht (fun A hA hT=>?_) (fun A hA hT=>?_)
     ·rw [hT, bK]
      have e:(want == want)=true:=by cases want <;> rfl
      simp only[fq,e]
      exact run A hA
     ·have go : Out n0 H0 F0 (tx P cal N ops Anc rest (addE g x o.dst (cz ops o) undef (exNo o) g.H g.n) fun g => K g.T g.H g.n) (ny P pc yk N ops Anc rest dirty (entA x o.dst (cz ops o) .p :: log') (putA A o.dst .und) G k) := by
       have:=next A hA .p (fun c z _=>z) σ F g.H g.n G undef .und none (exNo o) h (by unfold VRel; rfl) Nx.refl (by unfold exNo; split <;> first | exact .inr rfl | exact .inl rfl)
       simp only[Aj,Option.isSome_none,Bool.or_false] at this
       exact this
      rcases hT with hT | hT
      ·rw [hT, bK]
       have e:((!want) == want)=false:=by cases want <;> rfl
       simp only[fq,e]
       exact go
      ·rw[hT,bK]; exact go
theorem drawA_ok{yk:YK}{Fam:KI ρ→Prop}(hpc:∀ f,nx (iJ P f) (cal.call f) (pc f))(hy:YOk P cal yk n0 Fam F0){K:Tm→Hp→Nat→Option ρ}{k:Tr AV→Tr Bx→Option D}(hk:TK n0 Fam F0 K k)(hF:Fam H0)(h:Rs n0 H0 F0 σ F H n G)(ht:TRl σ F H T A) :
  Out n0 H0 F0 (drawK P cal N ops T H n K) (drawA P pc yk N ops A G k):=by
 unfold drawK drawA
 generalize (ancOk ops (ancs ops) && covers ops.length (order ops (ancs ops)) && P.follows .mixedOrders)=b
 cases b with
 | true=>exact HK hpc hy hk _ false [] H0 hF σ F ⟨[],T,H,n⟩ A G h ht trivial (fun _=>trivial)
 | false=>exact Out.no
end Go.Ev
end
section
namespace Go.Ev
open Go
variable {σ σ':Nat→Option Si} {F F' F0:Nat→Prop} {H H':Hp} {ρ:Type} {H0:KI ρ} {n n' n0:Nat} {G G':Tr Bx} {T:Tm} {A A':Tr AV} {P:Program}
 {cal:Cal} {pc:FuncId→List D→Option D}
inductive LvA where
 | leaf
 | node (cut:Option Cu) (a b:LvA)
noncomputable def LvA.c:LvA→Option Cu
 | .leaf=>none
 | .node c _ _=>c
noncomputable def LvA.a:LvA→LvA
 | .leaf=>.leaf
 | .node _ a _=>a
noncomputable def LvA.b:LvA→LvA
 | .leaf=>.leaf
 | .node _ _ b=>b
abbrev KA:=Tr AV→Tr Bx→Option D
noncomputable def labA(k:KA):KA:=fun A G=>k A G
noncomputable def bX(c:Option Cu)(k:KA):KA:=match c with
 | none=>k
 | some c=>fun A G=>getK (cutA c A G) fun r=>labA k r.1 r.2
noncomputable def ifA(x:AV)(p q:Option D):Option D:=match x with
 | .b true=>p
 | .b false=>q
 | .d u=>ifU u p q
 | _=>none
noncomputable def upA(id:Nat)(K:KA)(X:Nat→KA):Nat→KA:=fun i=>match Nat.beq i id with
 | true=>K
 | false=>X i
abbrev LpA:=LvA→Code→KA→(Nat→KA)→KA→KA
abbrev RK:=LvA→FuncId→AV→List Tmp→Code→Code→KA→(Nat→KA)→KA→KA
noncomputable def noR:RK:=fun _ _ _ _ _ _ _ _ _ _ _=>none
noncomputable def aW(P:Program)(pc:FuncId→List D→Option D)(yk:YK)(rk:RK)(lp:LpA)(f:FuncId):Code→LvA→KA→(Nat→KA)→KA→KA
 | .skip,_,K,_,_=>K
 | .label _,_,K,_,_=>K
 | .ret,_,_,_,Kr=>Kr
 | .exit id,_,_,X,_=>X id
 | .seq a b,lv,K,X,Kr=>aW P pc yk rk lp f a lv.a (bX lv.c (aW P pc yk rk lp f b lv.b K X Kr)) X Kr
 | .cond c a b,lv,K,X,Kr=>fun A G=>getK (opdA c A) fun v=>ifA v (aW P pc yk rk lp f a lv.a K X Kr A G) (aW P pc yk rk lp f b lv.b K X Kr A G)
 | .block id c,lv,K,X,Kr=>aW P pc yk rk lp f c lv.a K (upA id K X) Kr
 | .scope c,lv,K,X,Kr=>aW P pc yk rk lp f c lv.a K X Kr
 | .loop c,lv,K,X,Kr=>bX lv.c (aW P pc yk rk lp f c lv.a (bX lv.c (lp lv (.loop c) K X Kr)) X Kr)
 | .region _ ops false,_,K,_,_=>fun A G=>opsA P pc yk (ntm P f) ops.toList ops.toList A G K
 | .region _ ops true,_,K,_,_=>fun A G=>drawA P pc yk (ntm P f) ops.toList A G K
 | .rangeFunc x ps aS bd,lv,K,X,Kr=>bX lv.c fun A G=>getK (opdA x A) fun a=>rk lv f a ps.toList aS bd K X Kr A G
 | _,_,_,_,_=>fun _ _=>none
noncomputable def aq(P:Program)(pc:FuncId→List D→Option D)(yk:YK)(rk:RK)(f:FuncId):Nat→LpA
 | 0=>fun _ _ _ _ _ _ _=>none
 | k+1=>fun lv c K X Kr=>aW P pc yk rk (aq P pc yk rk f k) f c lv K X Kr
def KS(n0:Nat)(Fam:KI ρ→Prop)(F0:Nat→Prop)(K:KC ρ)(k:KA):Prop:=
 ∀ H0,Fam H0→∀ σ F H n T A G,Rs n0 H0 F0 σ F H n G→TRl σ F H T A→Out n0 H0 F0 (K T H n H0.ds) (k A G)
def RkOk(P:Program)(cal:Cal)(ro:Option Nat)(rk:RK)(n0:Nat)(Fam:KI ρ→Prop)(F0:Nat→Prop):Prop:=
 ∀ lv f ps aS bd (K:KC ρ) (X:XC ρ) (Kr:KC ρ) (k:KA) (x:Nat→KA) (kr:KA),KS n0 Fam F0 K k→(∀ i,KS n0 Fam F0 (X i) (x i))→KS n0 Fam F0 Kr kr →
  ∀ H0,Fam H0→∀ σ F H n T A G a v,Rs n0 H0 F0 σ F H n G→TRl σ F H T A→VRel σ F H a v→Out n0 H0 F0 (Ej P cal ro f v ps aS bd K X Kr T H n H0.ds) (rk lv f a ps.toList aS bd k x kr A G)
theorem noR_ok{ro:Option Nat}{Fam:KI ρ→Prop}:RkOk P cal ro noR n0 Fam F0:=fun _ _ _ _ _ _ _ _ _ _ _ _ _ _ _ _ _ _ _ _ _ _ _ _ _ _ _ _=>Out.no
theorem KS.cut{Fam:KI ρ→Prop}{K:KC ρ}{k:KA}(h:KS n0 Fam F0 K k)(c:Option Cu):KS n0 Fam F0 K (bX c k):=by
 cases c with
 | none=>exact h
 | some c=>
  intro H0 hH0 σ F H n T A G hR hT
  simp only[bX]
  refine Out.getK fun r hr=>?_
  obtain⟨σ',F',h1,h2⟩:=cutA_ok (A':=r.1) (G':=r.2) hR hT hr
  exact h H0 hH0 σ' F' H n T r.1 r.2 h1 h2
theorem vx{yk:YK}{rk:RK}{ro:Option Nat}{Fam:KI ρ→Prop}(hpc:∀ f,nx (iJ P f) (cal.call f) (pc f))(hy:YOk P cal yk n0 Fam F0)(hr:RkOk P cal ro rk n0 Fam F0){lp:LpE ρ}{lpA:LpA}{f:FuncId}
  (hlp:∀ lv c K X Kr k x kr,KS n0 Fam F0 K k→(∀ i,KS n0 Fam F0 (X i) (x i))→KS n0 Fam F0 Kr kr→KS n0 Fam F0 (lp .leaf ro f c K X Kr) (lpA lv c k x kr)) :
  ∀(c:Code) (lv:LvA) (K:KC ρ) (X:XC ρ) (Kr:KC ρ) (k:KA) (x:Nat→KA) (kr:KA),KS n0 Fam F0 K k→(∀ i,KS n0 Fam F0 (X i) (x i))→KS n0 Fam F0 Kr kr →
   KS n0 Fam F0 (bZ P cal lp ro f c .leaf K X Kr) (aW P pc yk rk lpA f c lv k x kr)
 | .skip,lv,K,X,Kr,k,x,kr,h1,h2,h3=>h1
 | .label _,lv,K,X,Kr,k,x,kr,h1,h2,h3=>h1
 | .ret,lv,K,X,Kr,k,x,kr,h1,h2,h3=>h3
 | .exit id,lv,K,X,Kr,k,x,kr,h1,h2,h3=>h2 id
 | .seq a b,lv,K,X,Kr,k,x,kr,h1,h2,h3=>by
  simp only[bZ,aW]
  exact vx hpc hy hr hlp a lv.a _ X Kr _ x kr ((vx hpc hy hr hlp b lv.b K X Kr k x kr h1 h2 h3).cut lv.c) h2 h3
 | .cond c a b,lv,K,X,Kr,k,x,kr,h1,h2,h3=>by
  have ha:=vx hpc hy hr hlp a lv.a K X Kr k x kr h1 h2 h3
  have hb:=vx hpc hy hr hlp b lv.b K X Kr k x kr h1 h2 h3
  intro H0 hH0 σ F H n T A G hR hT
  simp only[bZ,aW]
  refine Out.getK fun v hv=>?_
  obtain⟨u,u1,u2⟩:=pj hT hv
  rw[u1,bK]
  unfold ifA
  split
  ·unfold VRel at u2; subst u2; exact ha H0 hH0 σ F H n T A G hR hT
  ·unfold VRel at u2; subst u2; exact hb H0 hH0 σ F H n T A G hR hT
  ·have u2 := u2.un
   unfold ifU
   split
   ·unfold DRel at u2; rw[u2.1]; exact ha H0 hH0 σ F H n T A G hR hT
   ·unfold DRel at u2; rw[u2.1]; exact hb H0 hH0 σ F H n T A G hR hT
   ·exact Out.no
  ·exact Out.no
 | .block id c,lv,K,X,Kr,k,x,kr,h1,h2,h3=>by
  simp only[bZ,aW]
  refine vx hpc hy hr hlp c lv.a K _ Kr k _ kr h1 (fun i=>?_) h3
  unfold upX upA
  cases Nat.beq i id with
  | true=>exact h1
  | false=>exact h2 i
 | .scope c,lv,K,X,Kr,k,x,kr,h1,h2,h3=>by
  simp only[bZ,aW]
  exact vx hpc hy hr hlp c lv.a K X Kr k x kr h1 h2 h3
 | .loop c,lv,K,X,Kr,k,x,kr,h1,h2,h3=>by
  simp only[bZ,aW]
  exact(vx hpc hy hr hlp c lv.a _ X Kr _ x kr ((hlp lv (.loop c) K X Kr k x kr h1 h2 h3).cut lv.c) h2 h3).cut lv.c
 | .region id ops false,lv,K,X,Kr,k,x,kr,h1,h2,h3=>by
  intro H0 hH0 σ F H n T A G hR hT
  simp only[bZ,aW]
  exact ZY hpc (hy.fix H0.ds) (K:=fun T H n=>K T H n H0.ds) (fun H1 q σ F H n T A G r1 r2=>by have:=h1 H1 q.1 σ F H n T A G r1 r2; rw[q.2] at this; exact this) ops.toList H0 ⟨hH0,rfl⟩ σ F H n T A G hR hT
 | .region id ops true,lv,K,X,Kr,k,x,kr,h1,h2,h3=>by
  intro H0 hH0 σ F H n T A G hR hT
  simp only[bZ,aW]
  exact drawA_ok (Fam:=fun K=>Fam K∧K.ds=H0.ds) hpc (hy.fix H0.ds) (K:=fun T H n=>K T H n H0.ds) (fun H1 q σ F H n T A G r1 r2=>by have:=h1 H1 q.1 σ F H n T A G r1 r2; rw[q.2] at this; exact this) ⟨hH0,rfl⟩ hR hT
 | .rangeFunc y ps aS bd,lv,K,X,Kr,k,x,kr,h1,h2,h3=>by
  simp only[bZ,aW]
  refine KS.cut ?_ lv.c
  intro H0 hH0 σ F H n T A G hR hT
  refine Out.getK fun a ha=>?_
  obtain⟨v,v1,v2⟩:=pj hT ha
  show Out n0 H0 F0 (getK (opd y T) fun v=>Ej P cal ro f v ps aS bd K X Kr T H n H0.ds) _
  rw[v1,bK]
  exact hr lv f ps aS bd K X Kr k x kr h1 h2 h3 H0 hH0 σ F H n T A G a v hR hT v2
 | .goto _,lv,K,X,Kr,k,x,kr,h1,h2,h3=>fun _ _ _ _ _ _ _ _ _ _ _=>Out.no
 | .refuse _,lv,K,X,Kr,k,x,kr,h1,h2,h3=>fun _ _ _ _ _ _ _ _ _ _ _=>Out.no
theorem Wj{yk:YK}{rk:RK}{ro:Option Nat}{Fam:KI ρ→Prop}(hpc:∀ f,nx (iJ P f) (cal.call f) (pc f))(hy:YOk P cal yk n0 Fam F0)(hr:RkOk P cal ro rk n0 Fam F0){f:FuncId}:∀(m:Nat) lv c K X Kr k x kr,KS n0 Fam F0 K k→(∀ i,KS n0 Fam F0 (X i) (x i))→KS n0 Fam F0 Kr kr→KS n0 Fam F0 (aZ P cal m .leaf ro f c K X Kr) (aq P pc yk rk f m lv c k x kr)
 | 0,_,_,_,_,_,_,_,_,_,_,_=>fun _ _ _ _ _ _ _ _ _ _ _=>Out.no
 | m+1,lv,c,K,X,Kr,k,x,kr,h1,h2,h3=>vx hpc hy hr (Wj hpc hy hr m) c lv K X Kr k x kr h1 h2 h3
noncomputable def resA(P:Program)(A:Tr AV)(G:Tr Bx):List ResultVar→(List AV→Option D)→Option D
 | [],k=>k []
 | .tmp t::l,k=>getK (A.get t) fun a=>resA P A G l fun aS=>k (YY a::aS)
 | .cell a t::l,k=>getK (A.get a) fun p=>loadA P t p G fun v=>resA P A G l fun aS=>k (v::aS)
noncomputable def oneA:List D→D
 | [d]=>d
 | l=>.tup l
noncomputable def aw(P:Program)(rs:List ResultVar):KA:=fun A G=>resA P A G rs fun aS=>getK (fzL (fzV 9) aS G) fun r=>some (oneA r.1)
noncomputable def Zj:Tr AV→Nat→List D→Tr AV
 | A,_,[]=>A
 | A,i,d::l=>Zj (A.set i (some (.d d))) (i+1) l
noncomputable def cJ(P:Program)(pc:FuncId→List D→Option D)(yk:YK)(rk:RK)(L:FuncId→LvA)(m:Nat)(f:FuncId)(ds:List D):Option D:=match P.funcs[f]? with
 | none=>none
 | some fn=>match fn.body with
  | none=>none
  | some c => if fn.name == "runtime.NumGoroutine" || fn.ntmps < ds.length then none else
   aq P pc yk rk f m (L f) c (aw P fn.results.toList) (fun _ _ _=>none) (aw P fn.results.toList) (Zj .nil 0 ds) .nil
theorem resA_ok{rs:List ResultVar}{k:List AV→Option D}{K:List Value→Option ρ}(h:Rs n0 H0 F0 σ F H n G)(ht:TRl σ F H T A)(hk:∀ aS vs,bW σ F H aS vs→Out n0 H0 F0 (K vs) (k aS)) :
  Out n0 H0 F0 (bindO (resV P T H rs) K) (resA P A G rs k):=by
 induction rs generalizing k K with
 | nil=>exact hk [] [] (by unfold bW; rfl)
 | cons r l ih=>
  cases r with
  | tmp t=>
   simp only[resA]
   refine Out.getK fun a ha=>?_
   obtain⟨v,h1,h2⟩:=ht t a ha
   have:=ih (k:=fun aS=>k (YY a::aS)) (K:=fun vs=>K (v::vs)) (fun aS vs h3=>hk _ _ (by unfold bW; exact⟨v,vs,rfl,Cq h2,h3⟩))
   simp only[resV,h1]
   cases hr:resV P T H l with
   | none=>rw[hr] at this; exact this
   | some vs=>rw[hr] at this; exact this
  | cell a t=>
   simp only[resA]
   refine Out.getK fun p hp=>?_
   obtain⟨pv,p1,p2⟩:=ht a p hp
   have step:∀ v w,VRel σ F H w v→Out n0 H0 F0 (bindO (resV P T H l) fun vs=>K (v::vs)) (resA P A G l fun aS=>k (w::aS)):=fun v w hvw=>
    ih (k:=fun aS=>k (w::aS)) (K:=fun vs=>K (v::vs)) (fun aS vs h3=>hk _ _ (by unfold bW; exact⟨v,vs,rfl,hvw,h3⟩))
   have:=loadA_ok (P:=P) (t:=t) (kc:=fun v=>bindO (resV P T H l) fun vs=>K (v::vs)) (ka:=fun w=>resA P A G l fun aS=>k (w::aS)) h p2 step
   simp only[resV,p1]
   cases pv with
   | pointer ad=>
    cases ad with
    | none=>exact this
    | some ad=>
     have this:Out n0 H0 F0 (bindO (aJ P H t ad) fun v=>bindO (resV P T H l) fun vs=>K (v::vs)) (loadA P t p G fun w=>resA P A G l fun aS=>k (w::aS)):=this
     simp only
     cases hl:aJ P H t ad with
     | none=>rw[hl] at this; exact this
     | some v=>
      rw[hl] at this
      simp only
      cases hr:resV P T H l with
      | none=>rw[hr] at this; exact this
      | some vs=>rw[hr] at this; exact this
   | _=>exact this
def DsOk(n0:Nat)(Fam:KI ρ→Prop)(F0:Nat→Prop):Prop:=
 ∀ H0,Fam H0→∀ σ F H n G,Rs n0 H0 F0 σ F H n G→∃ H' H0',FJ H H0.ds=some H'∧Fam H0'∧H0'.ds=[]∧Rs n0 H0' F0 σ F H' n G∧Fz F H H'∧H0.R=H0'.R
theorem dsOk_nil{Fam:KI ρ→Prop}(h:∀ K,Fam K→K.ds=[]):DsOk n0 Fam F0:=fun H0 hF σ F H n G hR=>⟨H,H0,by rw[h H0 hF]; rfl,hF,h H0 hF,hR,Fz.refl,rfl⟩
theorem doneA_ok{Fam:KI (Value × Hp × Nat)→Prop}{rs:List ResultVar}(hD:DsOk n0 Fam F0)(hR:∀ H0,Fam H0→∀ σ F H n G v x,H0.ds=[]→(rs=[]→x=.tup [])→Rs n0 H0 F0 σ F H n G→DRel F H x v→H0.R n0 F0 (some (v,H,n)) x):KS n0 Fam F0 (ay P rs) (aw P rs):=by
 intro H0 hH0 σ F H n T A G h ht
 unfold ay aw
 obtain⟨H',H0',q1,q2,q3,q4,q5,q6⟩:=hD H0 hH0 σ F H n G h
 rw[q1,bK]
 have h:=q4
 have ht:=ht.mono (fun _ _ z=>z) (fun _ z=>z) q5
 have sw:∀ {r:Option (Value × Hp × Nat)} {d:Option D},Out n0 H0' F0 r d→Out n0 H0 F0 r d:=fun z=>by show OutP (fun x=>H0.R n0 F0 _ x) _; rw[q6]; exact z
 by_cases hz:rs=[]
 ·subst hz
  refine sw ?_
  intro x ex
  have ex:some (D.tup [])=some x:=ex
  cases ex
  exact hR H0' q2 _ F H' n _ (oneV []) _ q3 (fun _=>rfl) h (by unfold DRel; exact⟨[],rfl,by unfold bj; rfl⟩)
 refine sw (resA_ok h ht fun aS vs hav=>?_)
 refine Out.getK fun r hr=>?_
 obtain⟨⟨⟨F1,r1,r2,r3⟩,_⟩,_⟩:=Ey (fun a F G d G' v h hv e=>AJ 9 a F G d G' v h hv e) aS F G r.1 r.2 vs h hav hr
 intro x ex
 cases ex
 refine hR H0' q2 _ F1 H' n _ (oneV vs) _ q3 (fun z=>absurd z hz) r1 ?_
 match hd:r.1,r3 with
 | [],r3=>unfold bj at r3; subst r3; unfold oneA DRel; exact⟨[],rfl,by unfold bj; rfl⟩
 | [d],r3=>
  unfold bj at r3
  obtain⟨v,vs',rfl,q1,q2⟩:=r3
  unfold bj at q2; subst q2
  exact q1
 | d::d'::l,r3=>
  have hlen:=r3.length
  match vs,hlen,r3 with
  | v::v'::vs,_,r3=>unfold oneA DRel; exact⟨_,rfl,r3⟩
theorem argsA_ok:∀(ds:List D) (vs:List Value) (i:Nat) (T:Tm) (A:Tr AV),bj F H ds vs→TRl σ F H T A→TRl σ F H (rW T i vs) (Zj A i ds)
 | [],vs,i,T,A,h,ht=>by unfold bj at h; subst h; exact ht
 | d::ds,vs,i,T,A,h,ht=>by
  unfold bj at h
  obtain⟨v,vs',rfl,h1,h2⟩:=h
  exact argsA_ok ds vs' (i+1) _ _ h2 (ht.put (dst:=some i) (.dat h1))
noncomputable def KI.call(n0:Nat)(H0:Hp):KI (Value × Hp × Nat) where
 C b:=b<n0
 O b:=b<n0∧False
 oc _ h:=h.1
 Fs _:=False
 tm _:=.nil
 ok H:=Keep n0 H0 H
 st _ _ h g:=fun b hb=>(h b hb).trans (g b hb)
 ds:=[]
 R n0 F0 r x:=∃ v H n F,r=some (v,H,n)∧n0≤n∧Keep n0 H0 H∧(∀ b,F0 b→F b)∧(∀ b,F b→F0 b∨(n0≤b∧b<n))∧DRel F H x v
theorem bodyY_ok{yk:YK}{rk:RK}{Fam:KI (Value × Hp × Nat)→Prop}{Lv0:FuncId→Lv}{L:FuncId→LvA}{m:Nat}{f:FuncId}(hpc:∀ f,nx (iJ P f) (cal.call f) (pc f))(hy:YOk P cal yk n0 Fam F0)(hr:RkOk P cal none rk n0 Fam F0)(hD:DsOk n0 Fam F0)
  (hR:∀ H0,Fam H0→∀ σ F H n G v x,H0.ds=[]→(∀ fn,P.funcs[f]?=some fn→fn.results.toList=[]→x=.tup [])→Rs n0 H0 F0 σ F H n G→DRel F H x v→H0.R n0 F0 (some (v,H,n)) x) (hlv:Lv0 f=.leaf) {ds:List D} {vs:List Value} {H0:KI (Value × Hp × Nat)} (hF:Fam H0) (hds:H0.ds=[]) (h0:Rs n0 H0 F0 (fun _=>none) F H n .nil) (hv:bj F H ds vs) :
  Out n0 H0 F0 (aX P cal Lv0 m f vs H n) (cJ P pc yk rk L m f ds):=by
 unfold cJ aX
 cases hfn:P.funcs[f]? with
 | none=>exact Out.no
 | some fn=>
  simp only
  cases hc:fn.body with
  | none=>exact Out.no
  | some c=>
   simp only
   have hlen:=hv.length
   rw[hlen]
   by_cases hcond : (fn.name == "runtime.NumGoroutine" || decide (fn.ntmps < ds.length)) = true
   ·rw[if_pos hcond,if_pos hcond]; exact Out.no
   ·rw [if_neg hcond, if_neg hcond, hlv]
    have hR':∀ H0,Fam H0→∀ σ F H n G v x,H0.ds=[]→(fn.results.toList=[]→x=.tup [])→Rs n0 H0 F0 σ F H n G→DRel F H x v→H0.R n0 F0 (some (v,H,n)) x:=fun H0 a σ F H n G v x b c=>hR H0 a σ F H n G v x b (fun fn' e=>by rw[hfn] at e; cases e; exact c)
    have key:=Wj (P:=P) (f:=f) hpc hy hr m (L f) c (ay P fn.results.toList) (fun _ _ _ _ _=>none) (ay P fn.results.toList) (aw P fn.results.toList) (fun _ _ _=>none) (aw P fn.results.toList) (doneA_ok hD hR') (fun i _ _ σ F H n T A G _ _=>Out.no) (doneA_ok hD hR') H0 hF (fun _=>none) F H n (rW .nil 0 vs) (Zj .nil 0 ds) .nil h0 (argsA_ok ds vs 0 .nil .nil hv (fun t a q=>by rw[Tr.get_nil] at q; cases q))
    rw[hds] at key
    exact key
end Go.Ev
end
section
namespace Go.Ev
open Go
variable {P:Program} {t:TypeId} {x y:Operand} {a b:Int} {ρ:Type}
abbrev dI(i:Int):D:=.v (.int .i64 i)
abbrev dB(c:Bool):D:=.v (.bool c)
theorem tQ{op:BinOp}{v:Value}(h:binV P op t x y (.int .i64 a) (.int .i64 b)=some v)(hs:vq v=true):binD P op t x y (.v (.int .i64 a)) (.v (.int .i64 b))=some (.v v):=by
 unfold binD
 simp only[valD,h,Qj,hs]
theorem ek:binD P .lss t x y (.v (.int .i64 a)) (.v (.int .i64 b))=some (.v (.bool (decide (a<b)))):=tQ bin_lss rfl
theorem lK:binD P .leq t x y (.v (.int .i64 a)) (.v (.int .i64 b))=some (.v (.bool (decide (a≤b)))):=tQ bin_leq rfl
theorem kK:binD P .gtr t x y (.v (.int .i64 a)) (.v (.int .i64 b))=some (.v (.bool (decide (b<a)))):=tQ bin_gtr rfl
theorem qv:binD P .geq t x y (.v (.int .i64 a)) (.v (.int .i64 b))=some (.v (.bool (decide (b≤a)))):=tQ bin_geq rfl
theorem gY:binD P .eql t x y (.v (.int .i64 a)) (.v (.int .i64 b))=some (.v (.bool (decide (a=b)))):=tQ bin_eql rfl
theorem jX:binD P .neq t x y (.v (.int .i64 a)) (.v (.int .i64 b))=some (.v (.bool (!decide (a=b)))):=tQ bin_neq rfl
theorem Ij(h:I64 (a+b)):binD P .add t x y (.v (.int .i64 a)) (.v (.int .i64 b))=some (.v (.int .i64 (a+b))):=tQ (bin_add h) rfl
theorem zw(h:I64 (a-b)):binD P .sub t x y (.v (.int .i64 a)) (.v (.int .i64 b))=some (.v (.int .i64 (a-b))):=tQ (bin_sub h) rfl
theorem fY{k:Nat}(h:k<4611686018427387904):binD P .add t x y (.v (.int .i64 (k:Int))) (.v (.int .i64 1))=some (.v (.int .i64 ((k+1:Nat):Int))):=by
 rw[Ij (by unfold I64; omega)]; rfl
theorem ew{c:Bool}:semD P (.v (.bool c)) (Op.unary .not)=some (.v (.bool (!c))):=by cases c <;> rfl
theorem ifU_b{c:Bool}{p q:Option D}:ifU (.v (.bool c)) p q=if c then p else q:=by cases c <;> rfl
theorem ifU_d{c:Prop}[Decidable c]{p q:Option D}:ifU (.v (.bool (decide c))) p q=if c then p else q:=by by_cases h:c <;> simp [h,ifU]
theorem fK{p q:Option D}:ifU (.v (.bool true)) p q=p:=rfl
theorem dq{p q:Option D}:ifU (.v (.bool false)) p q=q:=rfl
theorem idxD_nat{k n:Nat}:idxD (.v (.int .i64 (k:Int))) n=if k<n then some k else none:=rfl
theorem qz{k n:Nat}(h:k<n):idxD (.v (.int .i64 (k:Int))) n=some k:=by rw[idxD_nat,if_pos h]
theorem bk{l:List D}:lenD l=.v (.int .i64 (l.length:Nat)):=rfl
theorem az{l:List D}:elsD (.sl l)=some l:=rfl
theorem cw{l:List D}:aggD (.agg l)=some l:=rfl
theorem eY{l:List D}:jV (.ref l)=some l:=rfl
theorem rz{g:FuncId}{a b:List D}{f:FuncId→List D→List D→Option D}:fnK (.fn g a b) f=f g a b:=rfl
theorem bY{r:Option ρ}:chkK true r=r:=rfl
theorem cj{v:Value}:bz (.v v)=true:=rfl
theorem zx{l:List D}:bz (.sl l)=true:=rfl
theorem wW{l l':List D}(h:l.length+l'.length<1048576):appD l l'=some (l++l'):=by unfold appD; rw[if_pos h]
theorem dK{pc:FuncId→List D→Option D}{f:FuncId}{ds:List D}{v:Value}(h:pc f ds=some (.v v)):pcD P pc f ds=some (.v v):=by
 unfold pcD
 rw[h]
 simp only
 split
 ·rfl
 ·rfl
theorem wj{pc:FuncId→List D→Option D}{f:FuncId}{ds:List D}{d:D}(h:pc f ds=some d)(hf:iJ P f=false):pcD P pc f ds=some d:=by
 unfold pcD
 rw[h]
 simp only[hf]
theorem pcD_f{pc:FuncId→List D→Option D}{f:FuncId}{ds:List D}{d:D}(h:pc f ds=some d)(hf:Aq d=true):pcD P pc f ds=some d:=by
 unfold pcD
 rw[h]
 simp only[hf]
 split <;> rfl
abbrev dL(xs:List Int):D:=.sl (xs.map dI)
abbrev dLL(xss:List (List Int)):D:=.sl (xss.map dL)
end Go.Ev
end
section
namespace Go.Ev
open Go
noncomputable def nodeYf:Nat→List D→Option D→Option D→Option D:=fun l xs p q=>match p with
 | none=>none
 | some p=>match q with
  | none=>none
  | some q=>some (.fn l xs [p,q])
noncomputable def my:YK:=⟨true,nodeYf⟩
noncomputable def leafT:D:=.tup []
noncomputable def qw(l:Nat):List (List D)→D
 | []=>leafT
 | x::xs=>.fn l x [qw l xs,leafT]
theorem nodeY_some{l:Nat}{x:List D}{p q:Option D}{t:D}(h:nodeYf l x p q=some t):∃ a b,p=some a∧q=some b∧t=.fn l x [a,b]:=by
 unfold nodeYf at h
 split at h
 ·cases h
 ·split at h
  ·cases h
  ·cases h; exact⟨_,_,rfl,rfl,rfl⟩
theorem listT_inj{l:Nat}:∀ {xs ys:List (List D)},qw l xs=qw l ys→xs=ys
 | [],[],_=>rfl
 | [],_::_,h=>by simp [qw,leafT] at h
 | _::_,[],h=>by simp [qw,leafT] at h
 | x::xs,y::ys,h=>by
  simp only[qw,D.fn.injEq,List.cons.injEq] at h
  rw[h.2.1,listT_inj h.2.2.1]
noncomputable def Zq(o:Nat→Option D)(k:List (List D)→Option D):Option D:=
 open Classical in if h : ∃ ys, ∀ l, o l = some (qw l ys) then k h.choose else none
theorem qnv{o:Nat→Option D}{k:List (List D)→Option D}{ys:List (List D)}(h:∀ l,o l=some (qw l ys)):Zq o k=k ys:=by
 unfold Zq
 have hx:∃ ys,∀ l,o l=some (qw l ys):=⟨ys,h⟩
 rw[dif_pos hx]
 have:=hx.choose_spec 0
 rw[h 0] at this
 simp only[Option.some.injEq] at this
 rw[← listT_inj this]
theorem iterK_some{o:Nat→Option D}{k:List (List D)→Option D}{d:D}(e:Zq o k=some d):∃ ys,(∀ l,o l=some (qw l ys))∧k ys=some d:=by
 unfold Zq at e
 split at e
 ·rename_i h; exact⟨h.choose,h.choose_spec,e⟩
 ·cases e
end Go.Ev
end
section
namespace Go.Ev
open Go
variable {ρ:Type} {σ σ':Nat→Option Si} {F F' F0:Nat→Prop} {H H':Hp} {H0:KI ρ} {n n' n0:Nat} {G G':Tr Bx} {T:Tm} {A A':Tr AV} {P:Program}
theorem Rs.out(h:Rs n0 H0 F0 σ F H n G)(hn:n≤n')(hC:∀ b,H0.C b→H'.get b=H.get b)(hF:∀ b,F b→H'.get b=H.get b)(ho:∀ s i,σ s=some i→i.nil=false→H'.get i.b=H.get i.b) :
  Rs n0 H0 F0 σ F H' n' G∧Fz F H H':=by
 have hfz:Fz F H H':=Fz.of_eq hF
 refine⟨⟨Nat.le_trans h.le hn,⟨H0.st _ _ hC h.keep.1,fun b hb=>by have:=h.keep.2 b hb; omega⟩,h.sub,fun b hb=>?_,h.low,fun s B e=>?_,h.back,fun s i hi hnil=>?_,h.inj,h.ownC,h.finC,h.fs,h.tms⟩,hfz⟩
 ·rcases h.fin b hb with q | q
  ·exact .inl q
  ·exact .inr ⟨q.1,by omega⟩
 ·obtain ⟨i, hi, hB⟩ := h.site s B e
  exact⟨i,hi,hB.only (Q:=fun _=>true) (fun _ _ _ z=>z) (fun _ z=>z) (fun _ z=>z) hfz (fun hnil=>ho s i hi hnil) (vw _)⟩
 ·have:=h.own s i hi hnil; omega
noncomputable def KI.add(K:KI ρ)(d:Nat):KI ρ where
 C b:=K.C b∨b=d
 O b:=K.O b∨b=d
 oc b h:=h.imp (K.oc b) id
 ok H:=K.ok H∧H.get d=some .deferred
 st H H' h g:=⟨K.st H H' (fun b hb=>h b (.inl hb)) g.1,(h d (.inr rfl)).trans g.2⟩
 Fs:=K.Fs
 tm:=K.tm
 ds:=d::K.ds
 R:=K.R
inductive AddF (K0:KI ρ):KI ρ→Prop
 | base:AddF K0 K0
 | add {K:KI ρ} (d:Nat) (h:AddF K0 K) (hd:¬ K.C d):AddF K0 (K.add d)
 | keep {K:KI ρ} (tm:Nat→Tm) (h:AddF K0 K):AddF K0 { K with tm:=tm }
theorem Rs.add(h:Rs n0 H0 F0 σ F H n G):Rs n0 (H0.add n) F0 σ F (H.set n (some .deferred)) (n+1) G∧Fz F H (H.set n (some .deferred))∧¬ H0.C n:=by
 have hlt:∀ b,b<n→(H.set n (some Blk.deferred)).get b=H.get b:=fun b hb=>by rw[Tr.get_set,if_neg (by omega)]
 obtain⟨q,hfz⟩:=h.out (n':=n+1) (H':=H.set n (some .deferred)) (Nat.le_succ n) (fun b hb=>hlt b (h.keep.2 b hb)) (fun b hb=>hlt b (h.lt hb)) (fun s i hi hn=>hlt _ (h.own s i hi hn).2)
 refine⟨⟨q.le,⟨⟨q.keep.1,by rw[Tr.get_set,if_pos rfl]⟩,fun b hb=>?_⟩,q.sub,q.fin,q.low,q.site,q.back,q.own,q.inj,fun s i hi hn=>?_,fun b hb=>?_,q.fs,q.tms⟩,hfz,fun z=>?_⟩
 ·rcases hb with hb | rfl
  ·exact q.keep.2 b hb
  ·omega
 ·rcases h.ownC s i hi hn with z | z
  ·left
   rintro(y | y)
   ·exact z y
   ·have:=(h.own s i hi hn).2; omega
  ·exact .inr z
 ·rcases h.finC b hb with z | z
  ·exact .inl z
  ·right
   rintro(y | y)
   ·exact z y
   ·have:=h.lt hb; omega
 ·have:=h.keep.2 n z; omega
theorem Rs.rem{d:Nat}(h:Rs n0 (H0.add d) F0 σ F H n G)(hd:¬ H0.C d)(hlow:n0≤d):H.get d=some .deferred∧Rs n0 H0 F0 σ F (H.set d none) n G∧Fz F H (H.set d none):=by
 have hg:=h.keep.1.2
 have hne:∀ b,b≠d→(H.set d none).get b=H.get b:=fun b hb=>by rw[Tr.get_set,if_neg hb]
 have hF:∀ b,F b→b≠d:=by
  rintro b hb rfl
  rcases h.finC b hb with z | z
  ·have:=h.low b z; omega
  ·exact z (.inr rfl)
 have ho:∀ s i,σ s=some i→i.nil=false→i.b≠d:=by
  intro s i hi hn z
  rcases h.ownC s i hi hn with y | y
  ·exact y (.inr z)
  ·exact hF _ y z
 have hfz:Fz F H (H.set d none):=Fz.of_eq fun b hb=>hne b (hF b hb)
 refine⟨hg,⟨h.le,⟨H0.st _ _ (fun b hb=>hne b (fun z=>hd (z ▸ hb))) h.keep.1.1,fun b hb=>h.keep.2 b (.inl hb)⟩,h.sub,h.fin,h.low,fun s B e=>?_,h.back,h.own,h.inj,fun s i hi hn=>?_,fun b hb=>?_,h.fs,h.tms⟩,hfz⟩
 ·obtain ⟨i, hi, hB⟩ := h.site s B e
  exact⟨i,hi,hB.only (Q:=fun _=>true) (fun _ _ _ z=>z) (fun _ z=>z) (fun _ z=>z) hfz (fun hnil=>hne _ (ho s i hi hnil)) (vw _)⟩
 ·exact(h.ownC s i hi hn).imp (fun z y=>z (.inl y)) id
 ·exact(h.finC b hb).imp id (fun z y=>z (.inl y))
theorem Rs.more(h:Rs n0 H0 F0 σ F H n G){E:Nat→Prop}(h1:∀ b,E b→F b∨(n0≤b∧b<n))(h2:∀ b,E b→F b∨¬ H0.O b)(h3:∀ s i,σ s=some i→i.nil=false→E i.b→F i.b) :
  Rs n0 H0 F0 σ (fun b=>F b∨E b) H n G:=by
 refine⟨h.le,h.keep,fun b hb=>.inl (h.sub b hb),fun b hb=>?_,h.low,fun s B e=>?_,h.back,h.own,h.inj,fun s i hi hn=>(h.ownC s i hi hn).imp id .inl,fun b hb=>?_,fun b hb=>.inl (h.fs b hb),h.tms⟩
 ·rcases hb with hb | hb
  ·exact h.fin b hb
  ·rcases h1 b hb with q | q
   ·exact h.fin b q
   ·exact .inr q
 ·obtain ⟨i, hi, hB⟩ := h.site s B e
  refine⟨i,hi,hB.only (Q:=fun _=>true) (fun _ _ _ z=>z) (fun _ z=>.inl z) (fun hn z=>?_) Fz.refl (fun _=>rfl) (vw _)⟩
  rcases z with z | z
  ·exact z
  ·exact h3 s i hi hn z
 ·rcases hb with hb | hb
  ·exact h.finC b hb
  ·rcases h2 b hb with q | q
   ·exact h.finC b q
   ·exact .inr q
theorem Rs.re(h:Rs n0 H0 F0 σ F H n G){m:Nat}(hm:n0≤m)(hC:∀ b,H0.C b→b<m)(hF:∀ b,F b→b<m)(ho:∀ s i,σ s=some i→i.nil=false→i.b<m):Rs n0 H0 F0 σ F H m G:=
 ⟨hm,⟨h.keep.1,hC⟩,h.sub,fun b hb=>(h.fin b hb).imp id fun q=>⟨q.1,hF b hb⟩,h.low,h.site,h.back,fun s i hi hn=>⟨(h.own s i hi hn).1,ho s i hi hn⟩,h.inj,h.ownC,h.finC,h.fs,h.tms⟩
theorem AddF.sub{K0 K:KI ρ}(h:AddF K0 K):∀ b,K0.C b→K.C b:=by
 induction h with
 | base=>exact fun _ z=>z
 | add d _ _ ih=>exact fun b z=>.inl (ih b z)
 | keep _ _ ih=>exact ih
theorem AddF.same{K0 K:KI ρ}(h:AddF K0 K):K.R=K0.R∧∀ H,K.ok H→K0.ok H:=by
 induction h with
 | base=>exact⟨rfl,fun _ z=>z⟩
 | add d _ _ ih=>exact⟨ih.1,fun H z=>ih.2 H z.1⟩
 | keep _ _ ih=>exact ih
theorem dsOk_add{K0:KI ρ}(h0:K0.ds=[])(hlow:∀ b,b<n0→K0.C b):DsOk n0 (AddF K0) F0:=by
 intro K hK
 have key:∀ tm,∀ σ F H n G,Rs n0 { K with tm:=tm } F0 σ F H n G→∃ H' K',FJ H K.ds=some H'∧AddF K0 K'∧K'.ds=[]∧Rs n0 K' F0 σ F H' n G∧Fz F H H'∧K.R=K'.R:=by
  induction hK with
  | base=>intro tm σ F H n G h; exact⟨H,{ K0 with tm:=tm },by rw[h0]; rfl,.keep tm .base,h0,h,Fz.refl,rfl⟩
  | @add K d hK hd ih=>
   intro tm σ F H n G h
   have hlo:n0≤d:=by
    rcases Nat.lt_or_ge d n0 with q | q
    ·exact absurd (hK.sub d (hlow d q)) hd
    ·exact q
   have h:Rs n0 (KI.add { K with tm:=tm } d) F0 σ F H n G:=h
   obtain⟨q1,q2,q3⟩:=h.rem hd hlo
   obtain⟨H',K',r1,r2,r3,r4,r5,r6⟩:=ih tm σ F _ n G q2
   refine⟨H',K',?_,r2,r3,r4,q3.trans (fun _ z=>z) r5,r6⟩
   show FJ H (d::_)=_
   simp only[FJ,q1]
   exact r1
  | keep tm' h ih=>intro tm σ F H n G h; exact ih tm σ F H n G h
 exact fun σ F H n G h=>key K.tm σ F H n G h
theorem bodyR_ok{cal:Cal}{pc:FuncId→List D→Option D}{rk:RK}{Lv0:FuncId→Lv}{L:FuncId→LvA}{m:Nat}{f:FuncId}(hpc:∀ f,nx (iJ P f) (cal.call f) (pc f))
  (hr:∀ n0 F0 (K0:KI (Value × Hp × Nat)),(∀ b,b<n0→K0.C b)→RkOk P cal none rk n0 (AddF K0) F0) (hlv:Lv0 f=.leaf):PStr (aX P cal Lv0 m f) (cJ P pc noY rk L m f):=by
 intro ds d F H n vs e hF hv
 have h0:Rs n (KI.call n H) F (fun _=>none) F H n .nil:=⟨Nat.le_refl _,⟨Keep.refl _ _,fun _ z=>z⟩,fun _ z=>z,fun _ z=>.inl z,hF,fun s B q=>(by rw[Tr.get_nil] at q; cases q),fun s i q=>(by cases q),fun s i q=>(by cases q),fun s s' i j q=>(by cases q),fun s i q=>(by cases q),fun _ z=>.inl z,fun _ z=>z.elim,fun s l q=>(by rw[Tr.get_nil] at q; cases q)⟩
 have:=bodyY_ok (P:=P) (m:=m) (n0:=n) (F0:=F) (Fam:=AddF (KI.call n H)) (L:=L) hpc noY_ok (hr n F _ (fun _ z=>z)) (dsOk_add rfl (fun _ z=>z)) (fun H0 hH σ F H n G v x hds _ q r=>by
  rw[hH.same.1]
  exact⟨v,H,n,F,rfl,q.le,hH.same.2 _ q.keep.1,q.sub,q.fin,r⟩) hlv .base rfl h0 hv
 intro x ex
 exact this x (e.trans ex)
end Go.Ev
end
section
namespace Go.Ev
open Go
variable {ρ ρ':Type} {σ σ':Nat→Option Si} {F F' F0:Nat→Prop} {H H':Hp} {H0:KI ρ} {n n' n0:Nat} {G G':Tr Bx} {T:Tm} {A A':Tr AV} {P:Program}
 {cal:Cal} {pc:FuncId→List D→Option D}
noncomputable def toL(A:Tr AV):List Nat→List (Nat × AV)
 | []=>[]
 | t::l=>match A.get t with
  | some a=>(t,a)::toL A l
  | none=>toL A l
noncomputable def ofL:List (Nat × AV)→Tr AV
 | []=>.nil
 | (t,a)::l=>(ofL l).set t (some a)
noncomputable def envK(Z:Nat)(G:Tr Bx)(k:Tr AV→Option D):Option D:=match G.get Z with
 | some (.env l)=>k (ofL l)
 | _=>none
noncomputable def parsA:Tr AV→Nat→List Tmp→List D→Option (Tr AV)
 | A,_,[],[]=>some A
 | A,N,t::ts,d::ds=>match Nat.blt t N with
  | true=>parsA (A.set t (some (.d d))) N ts ds
  | false=>none
 | _,_,_,_=>none
theorem PJ{t:Nat}{a:AV}:∀ {l:List Nat},(t,a) ∈ toL A l→A.get t=some a
 | [],h=>by cases h
 | x::l,h=>by
  simp only[toL] at h
  split at h
  ·rename_i b hb
   rcases List.mem_cons.1 h with q | q
   ·cases q; exact hb
   ·exact PJ q
  ·exact PJ h
theorem ofL_get{t:Nat}{a:AV}:∀ {l:List (Nat × AV)},(ofL l).get t=some a→(t,a) ∈ l
 | [],h=>by rw[ofL,Tr.get_nil] at h; cases h
 | (x,b)::l,h=>by
  rw[ofL,Tr.get_set] at h
  by_cases q:t=x
  ·rw[if_pos q] at h; cases h; subst q; exact List.mem_cons_self
  ·rw[if_neg q] at h; exact List.mem_cons_of_mem _ (ofL_get h)
theorem envK_ok{Qx:D→Prop}{Z:Nat}{k:Tr AV→Option D}(h:Rs n0 H0 F0 σ F H n G)(hk:∀ A,TRl σ F H (H0.tm Z) A→OutP Qx (k A)):OutP Qx (envK Z G k):=by
 unfold envK
 split
 ·rename_i l hg
  obtain⟨j,hj,hB⟩:=h.site Z _ hg
  refine hk _ fun t a q=>?_
  rw[← h.tms Z l hg j hj]
  exact hB.2 _ (ofL_get q)
 ·exact Out.no
theorem parsA_ok{N:Nat}:∀ {ps:List Tmp} {ds:List D} {vs:List Value} {T:Tm} {A A':Tr AV},bj F H ds vs→TRl σ F H T A→parsA A N ps ds=some A'→∃ T',wy T N ps vs=some T'∧TRl σ F H T' A'
 | [],[],vs,T,A,A',h,ht,e=>by
  unfold bj at h; subst h
  cases e; exact⟨T,rfl,ht⟩
 | t::ts,d::ds,vs,T,A,A',h,ht,e=>by
  unfold bj at h
  obtain⟨v,vs',rfl,h1,h2⟩:=h
  simp only[parsA] at e
  split at e
  ·rename_i hb
   have hb:t<N:=Nat.blt_eq.mp hb
   obtain⟨T',q1,q2⟩:=parsA_ok (T:=T.set t (some v)) h2 (ht.put (dst:=some t) (.dat h1)) e
   exact⟨T',by simp only[wy,if_pos hb]; exact q1,q2⟩
  ·cases e
 | [],_::_,_,_,_,_,_,_,e=>by cases e
 | _::_,[],_,_,_,_,_,_,e=>by cases e
def ownM(σ:Nat→Option Si)(F:Nat→Prop)(b:Nat):Prop:=∃ s i,σ s=some i∧i.nil=false∧i.b=b∧¬ F b
noncomputable def kiR(tm:Nat→Tm)(C O Fs:Nat→Prop)(oc:∀ b,O b→C b)(Hs:Hp)(R:Option ρ→D→Prop):KI ρ where
 C:=C
 O:=O
 oc:=oc
 ok H:=∀ b,C b→H.get b=Hs.get b
 st _ _ h g b hb:=(h b hb).trans (g b hb)
 Fs:=Fs
 tm:=tm
 ds:=[]
 R _ _:=R
def CRn(σ:Nat→Option Si)(F:Nat→Prop)(n:Nat)(b:Nat):Prop:=b<n∧¬ ownM σ F b
theorem Rs.to(h:Rs n0 H0 F0 σ F H n G){W:Nat→Prop}(hW:∀ b,F b→¬ W b)(R:Option ρ'→D→Prop):Rs n0 (kiR H0.tm (CRn σ F n) (fun b=>CRn σ F n b∧(H0.O b∨W b)) F (fun _ z=>z.1) H R) F0 σ F H n G:=by
 refine⟨h.le,⟨fun _ _=>rfl,fun b z=>z.1⟩,h.sub,h.fin,h.low,h.site,h.back,h.own,h.inj,fun s i hi hn=>?_,fun b hb=>?_,fun _ z=>z,h.tms⟩
 ·by_cases q : F i.b
  ·exact .inr q
  ·exact .inl fun z=>z.2 ⟨s,i,hi,hn,rfl,q⟩
 ·exact(h.finC b hb).imp id fun z y=>y.2.elim z (hW b hb)
theorem Rs.fro{tm:Nat→Tm}{σ1:Nat→Option Si}{F1:Nat→Prop}{Hs:Hp}{m:Nat}{G1:Tr Bx}{W:Nat→Prop}{oc:∀ b,(CRn σ1 F1 m b∧(H0.O b∨W b))→CRn σ1 F1 m b}{R:Option ρ'→D→Prop}
  (h:Rs n0 (kiR tm (CRn σ1 F1 m) (fun b=>CRn σ1 F1 m b∧(H0.O b∨W b)) F1 oc Hs R) F0 σ F H n G) (h0:Rs n0 H0 F0 σ1 F1 Hs m G1) :
  Rs n0 { H0 with tm:=tm } F0 σ F H n G∧(∀ b,F1 b→F b)∧∀ b,CRn σ1 F1 m b→H.get b=Hs.get b:=by
 have hC:∀ b,H0.C b→CRn σ1 F1 m b:=fun b z=>⟨h0.keep.2 b z,fun⟨s,i,a,b',c,d⟩=>by
  subst c
  rcases h0.ownC s i a b' with q | q
  ·exact q z
  ·exact d q⟩
 refine⟨⟨h.le,⟨H0.st Hs H (fun b hb=>h.keep.1 b (hC b hb)) h0.keep.1,fun b hb=>h.keep.2 b (hC b hb)⟩,h.sub,h.fin,h.low,h.site,h.back,h.own,h.inj,fun s i hi hn=>?_,fun b hb=>?_,fun b hb=>h.fs b (h0.fs b hb),h.tms⟩,h.fs,h.keep.1⟩
 ·exact(h.ownC s i hi hn).imp (fun z y=>z (hC _ y)) id
 ·exact(h.finC b hb).imp id fun z y=>z ⟨hC b (H0.oc b y),.inl y⟩
noncomputable def runB(P:Program)(cal:Cal)(m:Nat)(ro:Option Nat)(f:FuncId)(c:Code)(T:Tm)(H:Hp)(n:Nat):Option (Ex × St):=
 aZ P cal m .leaf ro f c (fun T H n D=>some (.norm,{ T,H,n,D })) (fun id T H n D=>some (.exit id,{ T,H,n,D })) (fun T H n D=>some (.ret,{ T,H,n,D })) T H n []
def AQ(l:Nat)(H:Hp):Prop:=∃ d,∀(T:Tm) (n:Nat) (D:List Nat),wz (some l) { T,H,n,D }=some (d,{ T,H,n,D })
def EZ(K1:KI ρ)(zs:List Nat)(K:KI ρ):Prop:=∃ tm,(∀ z,memN zs z=true→tm z=K1.tm z)∧K={ K1 with tm:=tm }
theorem runB_ok{m l:Nat}{f:FuncId}{c:Code}{lv:LvA}{cu:Option Cu}{rk:RK}{zs:List Nat}{k:KA}{x:Nat→KA}{kr:KA}{dd:D}(hpc:∀ f,nx (iJ P f) (cal.call f) (pc f))
  (hr:∀ K1:KI (Ex × St),(∀ H,K1.ok H→AQ l H)→RkOk P cal (some l) rk n0 (EZ K1 zs) F0) (hL:AQ l H) (hLC:CRn σ F n l)
  (h:Rs n0 H0 F0 σ F H n G) {W:Nat→Prop} (hW:∀ b,F b→¬ W b) (hWC:∀ b,W b→CRn σ F n b) (ht:TRl σ F H T A)
  (e:aq P pc noY rk f m lv c (bX cu k) x kr A G=some dd) :
  ∃ ex s σ' F' A' G' tm',(∀ z,memN zs z=true→tm' z=H0.tm z)∧runB P cal m (some l) f c T H n=some (ex,s)∧s.D=[]∧Rs n0 { H0 with tm:=tm' } F0 σ' F' s.H s.n G'∧TRl σ' F' s.H s.T A'∧(∀ b,F b→F' b)∧(∀ b,CRn σ F n b→s.H.get b=H.get b∧CRn σ' F' s.n b)∧(∀ b,W b→¬ F' b) ∧
   (match ex with | .norm=>k A' G' | .exit i=>x i A' G' | .ret=>kr A' G')=some dd:=by
 let K0:(Nat→Tm)→KI Unit:=fun tm=>kiR tm (CRn σ F n) (fun b=>CRn σ F n b∧(H0.O b∨W b)) F (fun _ z=>z.1) H (fun _ _=>True)
 let K1:KI (Ex × St):=kiR H0.tm (CRn σ F n) (fun b=>CRn σ F n b∧(H0.O b∨W b)) F (fun _ z=>z.1) H (fun r d=>∃ ex s σ' F' A' G' tm',(∀ z,memN zs z=true→tm' z=H0.tm z)∧r=some (ex,s)∧s.D=[]∧Rs n0 (K0 tm') F0 σ' F' s.H s.n G'∧TRl σ' F' s.H s.T A' ∧
   (match ex with | .norm=>k A' G' | .exit i=>x i A' G' | .ret=>kr A' G')=some d)
 have sw:∀ {tm:Nat→Tm} {σ':Nat→Option Si} {F':Nat→Prop} {H':Hp} {n':Nat} {G':Tr Bx},Rs n0 { K1 with tm:=tm } F0 σ' F' H' n' G'→Rs n0 (K0 tm) F0 σ' F' H' n' G':=fun q=>⟨q.le,q.keep,q.sub,q.fin,q.low,q.site,q.back,q.own,q.inj,q.ownC,q.finC,q.fs,q.tms⟩
 have hk0:KS n0 (EZ K1 zs) F0 (fun T H n D=>some (Ex.norm,({ T,H,n,D }:St))) k:=by
  intro K hK σ' F' H' n' T' A' G' q1 q2 y hy
  obtain⟨tm,ht,rfl⟩:=hK
  exact⟨.norm,_,σ',F',A',G',tm,ht,rfl,rfl,sw q1,q2,hy⟩
 have h1:=Wj (P:=P) (cal:=cal) (pc:=pc) (ro:=some l) (n0:=n0) (F0:=F0) (Fam:=EZ K1 zs) (f:=f) hpc noY_ok (hr K1 (fun H' hH'=>by
   obtain⟨d,hd⟩:=hL
   have hg:H'.get l=H.get l:=hH' l hLC
   refine⟨d,fun T n D=>?_⟩
   have:=hd T n D
   unfold wz at this ⊢
   simp only[hg] at this ⊢
   split at this
   ·simp only [Option.some.injEq, Prod.mk.injEq] at this
    rw[this.1]
   ·cases this)) m lv c
  (fun T H n D=>some (Ex.norm,({ T,H,n,D }:St))) (fun id T H n D=>some (Ex.exit id,({ T,H,n,D }:St))) (fun T H n D=>some (Ex.ret,({ T,H,n,D }:St))) (bX cu k) x kr
  (hk0.cut cu)
  (fun i K hK σ' F' H' n' T' A' G' q1 q2 y hy=>by obtain⟨tm,ht,rfl⟩:=hK; exact⟨.exit i,_,σ',F',A',G',tm,ht,rfl,rfl,sw q1,q2,hy⟩)
  (fun K hK σ' F' H' n' T' A' G' q1 q2 y hy=>by obtain⟨tm,ht,rfl⟩:=hK; exact⟨.ret,_,σ',F',A',G',tm,ht,rfl,rfl,sw q1,q2,hy⟩)
  K1 ⟨H0.tm,fun _ _=>rfl,rfl⟩ σ F H n T A G (h.to hW _) ht dd e
 obtain⟨ex,s,σ',F',A',G',tm',e0,e1,e2,e3,e4,e5⟩:=h1
 obtain⟨q1,q2,q3⟩:=e3.fro h
 refine⟨ex,s,σ',F',A',G',tm',e0,e1,e2,q1,e4,q2,fun b hb=>⟨q3 b hb,e3.keep.2 b hb,?_⟩,fun b hb z=>?_,e5⟩
 ·rintro ⟨s', i, h1, h2, rfl, h4⟩
  rcases e3.ownC s' i h1 h2 with z | z
  ·exact z hb
  ·exact h4 z
 ·rcases e3.finC b z with y | y
  ·exact hW b (h.sub b y) hb
  ·exact y ⟨hWC b hb,.inr hb⟩
end Go.Ev
end
section
namespace Go.Ev
open Go
variable {ρ ρ':Type} {σ σ':Nat→Option Si} {F F' F0:Nat→Prop} {H H':Hp} {H0:KI ρ} {n n' n0:Nat} {G G':Tr Bx} {T:Tm} {A A':Tr AV} {P:Program}
 {cal:Cal} {pc:FuncId→List D→Option D}
noncomputable def KI.has(K:KI ρ)(l:Nat)(B:Blk):KI ρ where
 C b:=K.C b∨b=l
 O b:=K.O b∨b=l
 oc b h:=h.imp (K.oc b) id
 ok H:=K.ok H∧H.get l=some B
 st H H' h g:=⟨K.st H H' (fun b hb=>h b (.inl hb)) g.1,(h l (.inr rfl)).trans g.2⟩
 Fs:=K.Fs
 tm:=K.tm
 ds:=K.ds
 R:=K.R
theorem Rs.has{l:Nat}{B:Blk}(h:Rs n0 H0 F0 σ F H n G)(hb:H.get l=some B)(hl:l<n)(hF:¬ F l)(ho:∀ s i,σ s=some i→i.nil=false→i.b≠l):Rs n0 (H0.has l B) F0 σ F H n G:=by
 refine⟨h.le,⟨⟨h.keep.1,hb⟩,fun b q=>?_⟩,h.sub,h.fin,h.low,h.site,h.back,h.own,h.inj,fun s i hi hn=>?_,fun b q=>?_,h.fs,h.tms⟩
 ·rcases q with q | rfl
  ·exact h.keep.2 b q
  ·exact hl
 ·exact(h.ownC s i hi hn).imp (fun z y=>y.elim z (ho s i hi hn)) id
 ·rcases h.finC b q with z | z
  ·exact .inl z
  ·exact .inr fun y=>y.elim z (fun e=>hF (e ▸ q))
theorem Rs.unhas{l:Nat}{B:Blk}(h:Rs n0 (H0.has l B) F0 σ F H n G)(hl:n0≤l) :
  H.get l=some B∧l<n∧Rs n0 H0 F0 σ F H n G∧¬ F l∧∀ s i,σ s=some i→i.nil=false→i.b≠l:=by
 have hF:¬ F l:=fun z=>by
  rcases h.finC l z with q | q
  ·have:=h.low l q; omega
  ·exact q (.inr rfl)
 refine⟨h.keep.1.2,h.keep.2 l (.inr rfl),⟨h.le,⟨h.keep.1.1,fun b hb=>h.keep.2 b (.inl hb)⟩,h.sub,h.fin,h.low,h.site,h.back,h.own,h.inj,fun s i hi hn=>?_,fun b q=>?_,h.fs,h.tms⟩,hF,fun s i hi hn z=>?_⟩
 ·exact(h.ownC s i hi hn).imp (fun z y=>z (.inl y)) id
 ·exact(h.finC b q).imp id fun z y=>z (.inl y)
 ·rcases h.ownC s i hi hn with q | q
  ·exact q (.inr z)
  ·exact hF (z ▸ q)
theorem Rs.hasSet{l:Nat}{B B':Blk}(h:Rs n0 (H0.has l B) F0 σ F H n G)(hl:n0≤l)(hC:¬ H0.C l):Rs n0 (H0.has l B') F0 σ F (H.set l (some B')) n G∧Fz F H (H.set l (some B')):=by
 obtain⟨h1,h2,h3,h4,h5⟩:=h.unhas hl
 have hne:∀ b,b≠l→(H.set l (some B')).get b=H.get b:=fun b hb=>by rw[Tr.get_set,if_neg hb]
 obtain⟨q1,q2⟩:=h3.out (H':=H.set l (some B')) (Nat.le_refl n) (fun b hb=>hne b fun z=>hC (z ▸ hb)) (fun b hb=>hne b fun z=>h4 (z ▸ hb)) (fun s i hi hn=>hne _ (h5 s i hi hn))
 exact⟨q1.has (by rw[Tr.get_set,if_pos rfl]) h2 h4 h5,q2⟩
end Go.Ev
end
section
namespace Go.Ev
open Go
variable {P:Program} {cal calg calb:Cal} {pcb:FuncId→List D→Option D}
noncomputable def par0(y:List D)(k:Option D):Option D:=match y with
 | []=>k
 | _=>none
noncomputable def par1(y:List D)(k:D→Option D):Option D:=match y with
 | [a]=>k a
 | _=>none
noncomputable def par2(y:List D)(k:D→D→Option D):Option D:=match y with
 | [a,b]=>k a b
 | _=>none
noncomputable def parsK(ps:List Tmp)(N:Nat)(y:List D)(A:Tr AV)(k:Tr AV→Option D):Option D:=match ps with
 | []=>par0 y (k A)
 | [t]=>chkK (Nat.blt t N) (par1 y fun a=>k (A.set t (some (.d a))))
 | [t,u]=>chkK (Nat.blt t N) (chkK (Nat.blt u N) (par2 y fun a b=>k ((A.set t (some (.d a))).set u (some (.d b)))))
 | _=>none
theorem parsK_ok{Qx:D→Prop}{ps:List Tmp}{N:Nat}{y:List D}{A:Tr AV}{k:Tr AV→Option D}(h:∀ A',parsA A N ps y=some A'→OutP Qx (k A')):OutP Qx (parsK ps N y A k):=by
 unfold parsK
 split
 ·cases y with
  | nil=>exact h A rfl
  | cons a l=>exact Out.no
 ·rename_i t
  refine Out.chk fun ht=>?_
  cases y with
  | nil=>exact Out.no
  | cons a l=>
   cases l with
   | nil=>exact h _ (by simp only[parsA,ht])
   | cons b l=>exact Out.no
 ·rename_i t u
  refine Out.chk fun ht=>Out.chk fun hu=>?_
  cases y with
  | nil=>exact Out.no
  | cons a l=>
   cases l with
   | nil=>exact Out.no
   | cons b l=>
    cases l with
    | nil=>exact h _ (by simp only[parsA,ht,hu])
    | cons c l=>exact Out.no
 ·exact Out.no
abbrev CF:=LvA→Code→KA→(Nat→KA)→KA→KA
noncomputable def QQ(cf:CF)(lv:LvA)(N:Nat)(ps:List Tmp)(aS bd:Code)(Z:Nat)(k:KA)(x:Nat→KA)(kr:KA):List (List D)→Tr Bx→Option D
 | [],G=>envK Z G fun A=>k A G
 | y::ys,G=>envK Z G fun A=>parsK ps N y A fun A=>
   cf .leaf aS (fun A G=>cf lv.b bd (bX lv.a.c fun _ G=>QQ cf lv N ps aS bd Z k x kr ys G) (fun i _ G=>envK Z G fun A=>x i A G) (fun _ G=>envK Z G fun A=>kr A G) A G) (fun _ _ _=>none) (fun _ _=>none) A G
structure Rg (ρ:Type) where
 f:FuncId
 T:Tm
 ps:Array Tmp
 aS:Code
 bd:Code
 Z:Nat
 l:Nat
 d:Nat
 K:KC ρ
 X:XC ρ
 Kr:KC ρ
 k:KA
 x:Nat→KA
 kr:KA
 lv:LvA
structure Cn (ρ:Type) where
 K0:KI ρ
 σ:Nat→Option Si
 F:Nat→Prop
 G:Tr Bx
 pe:Option Code
variable {ρ:Type}
noncomputable def Rg.blk(r:Rg ρ)(P:Program)(st:LoopState)(pe:Option Code):Blk:=.loop st pe r.f r.T (ntm P r.f) r.ps r.aS r.bd r.d
noncomputable def stOf(pe:Option Code):LoopState:=if pe.isNone then .ready else .done
noncomputable def aftA(P:Program)(cf:CF)(r:Rg ρ)(c:Cn ρ)(ys:List (List D)):Option D:=match c.pe with
 | none=>QQ cf r.lv (ntm P r.f) r.ps.toList r.aS r.bd r.Z r.k r.x r.kr ys c.G
 | some (.exit i)=>match ys with
  | []=>envK r.Z c.G fun A=>r.x i A c.G
  | _=>none
 | some .ret=>match ys with
  | []=>envK r.Z c.G fun A=>r.kr A c.G
  | _=>none
 | _=>none
noncomputable def Rg.out(r:Rg ρ)(D:List Nat)(o:Option (Value × Hp × Nat)):Option ρ:=bindO o fun y=>fin r.K r.X r.Kr (AK r.l { T:=r.T,H:=y.2.1,n:=y.2.2,D })
noncomputable def Cn.ki(P:Program)(cf:CF)(r:Rg ρ)(n0:Nat)(F0:Nat→Prop)(c:Cn ρ):KI (Value × Hp × Nat) where
 C b:=c.K0.C b∨b=r.l∨c.F b∨∃ s i,c.σ s=some i∧i.nil=false∧i.b=b
 O b:=c.K0.O b∨b=r.l∨ownM c.σ c.F b
 oc b h:=by
  rcases h with h | h | ⟨s,i,h1,h2,h3,_⟩
  ·exact .inl (c.K0.oc b h)
  ·exact .inr (.inl h)
  ·exact .inr (.inr (.inr ⟨s,i,h1,h2,h3⟩))
 ok H:=(∃ nn,Rs n0 (c.K0.has r.l (r.blk P (stOf c.pe) c.pe)) F0 c.σ c.F H nn c.G)∧c.K0.tm r.Z=r.T
 st H H' h g:=by
  obtain⟨⟨nn,q⟩,z⟩:=g
  exact⟨⟨nn,(q.out (Nat.le_refl nn) (fun b hb=>h b (hb.elim .inl fun e=>.inr (.inl e))) (fun b hb=>h b (.inr (.inr (.inl hb)))) (fun s i hi hn=>h _ (.inr (.inr (.inr ⟨s,i,hi,hn,rfl⟩))))).1⟩,z⟩
 Fs _:=False
 tm _:=.nil
 ds:=[]
 R _ _ o x:=∀ ys,x=qw r.l ys→∀ dd,aftA P cf r c ys=some dd→c.K0.R n0 F0 (r.out c.K0.ds o) dd
def RgF(P:Program)(cf:CF)(r:Rg ρ)(n0:Nat)(F0 F1:Nat→Prop)(Fam:KI ρ→Prop)(K:KI (Value × Hp × Nat)):Prop:=
 ∃ c:Cn ρ,Fam c.K0∧¬ c.K0.C r.l∧(∀ b,F1 b→c.F b)∧K=c.ki P cf r n0 F0
end Go.Ev
end
section
namespace Go.Ev
open Go
variable {P:Program} {cal calg calb:Cal} {pcb:FuncId→List D→Option D} {ρ:Type}
noncomputable def cfB(P:Program)(pcb:FuncId→List D→Option D)(rkb:RK)(m:Nat)(f:FuncId):CF:=fun lv c k x kr=>aq P pcb noY rkb f m lv c k x kr
theorem rgF_yld{r:Rg ρ}{rkb:RK}{zs:List Nat}{m n0:Nat}{F0 F1:Nat→Prop}{Fam:KI ρ→Prop}(hFam:∀ K tm,Fam K→(∀ z,memN (r.Z::zs) z=true→tm z=K.tm z)→Fam { K with tm:=tm })
  (hrk:∀ K1:KI (Ex × St),(∀ H,K1.ok H→AQ r.l H)→RkOk P calb (some r.l) rkb n0 (EZ K1 (r.Z::zs)) F0) (hpc:∀ f,nx (iJ P f) (calb.call f) (pcb f))
  (hb:∀ l f c (st:St),st.D=[]→calg.body l f c st=runB P calb m (some l) f c st.T st.H st.n) (hl:n0≤r.l) :
  YOk P calg my (r.l+1) (RgF P (cfB P pcb rkb m r.f) r n0 F0 F1 Fam) F1:=by
 refine⟨fun l xs=>rfl,fun K' hK σg Fg H n Gg l' xs vs p q kc hR hxs hk=>?_⟩
 obtain⟨c,hc,hcl,hsub,rfl⟩:=hK
 intro tree e
 obtain⟨p',q',rfl,rfl,rfl⟩:=nodeY_some e
 intro ys hys dd hdd
 cases ys with
 | nil=>simp [qw,leafT] at hys
 | cons y ys=>
  simp only[qw,D.fn.injEq,List.cons.injEq] at hys
  obtain⟨e1,e2,e3,e4,_⟩:=hys
  subst e1; subst e2; subst e3; subst e4
  cases hpe:c.pe with
  | some j=>
   exfalso
   unfold aftA at hdd
   rw[hpe] at hdd
   cases j <;> simp at hdd
  | none=>
   have hdd:QQ (cfB P pcb rkb m r.f) r.lv (ntm P r.f) r.ps.toList r.aS r.bd r.Z r.k r.x r.kr (xs::ys) c.G=some dd:=by
    unfold aftA at hdd; rw[hpe] at hdd; exact hdd
   obtain⟨⟨nn,hRs⟩,hT⟩:=hR.keep.1
   rw[hpe] at hRs
   have hbd:=hR.keep.2
   have hn:r.l+1≤n:=hR.le
   have h1:=hRs.re (m:=n) (by omega) (fun b hb=>hbd b (hb.elim .inl fun e=>.inr (.inl e))) (fun b hb=>hbd b (.inr (.inr (.inl hb)))) (fun s i hi hn=>hbd _ (.inr (.inr (.inr ⟨s,i,hi,hn,rfl⟩))))
   have h2:=h1.more (E:=Fg) (fun b hb=>by
     rcases hR.fin b hb with q | q
     ·exact .inl (hsub b q)
     ·exact .inr ⟨by omega,q.2⟩)
    (fun b hb=>by
     rcases hR.finC b hb with q | q
     ·exact .inl (hsub b q)
     ·exact .inr fun z=>q (z.elim .inl fun e=>.inr (.inl e)))
    (fun s i hi hn hE=>by
     rcases hR.finC _ hE with q | q
     ·exact hsub _ q
     ·by_cases z : c.F i.b
      ·exact z
      ·exact absurd (.inr (.inr ⟨s,i,hi,hn,rfl,z⟩)) q)
   have hl0:=(h2.unhas hl).1
   let W:Nat→Prop:=fun b=>(∃ s i,σg s=some i∧i.nil=false∧i.b=b)∧¬ (c.ki P (cfB P pcb rkb m r.f) r n0 F0).C b∧¬ Fg b
   have hW:∀ b,(c.F b∨Fg b)→¬ W b:=fun b hb z=>hb.elim (fun y=>z.2.1 (.inr (.inr (.inl y)))) z.2.2
   have hWC:∀ b,W b→CRn c.σ (fun b=>c.F b∨Fg b) n b:=by
    rintro b ⟨⟨s,i,h1,h2,rfl⟩,h3,_⟩
    exact⟨(hR.own s i h1 h2).2,fun⟨s',i',g1,g2,g3,_⟩=>h3 (.inr (.inr (.inr ⟨s',i',g1,g2,g3⟩)))⟩
   refine envK_ok (Qx:=fun dd=>c.K0.R n0 F0 (r.out c.K0.ds (iW P calg (.func (.yield r.l) ⟨[]⟩ ⟨[]⟩) vs H n kc)) dd) (Z:=r.Z) h2 (fun A hA=>?_) dd hdd
   have hA:TRl c.σ (fun b=>c.F b∨Fg b) H r.T A:=by rw[← hT]; exact hA
   refine parsK_ok fun A1 hA1=>?_
   obtain⟨T1,t1,t2⟩:=parsA_ok (hxs.mono (fun _ z=>.inr z) Fz.refl) hA hA1
   intro dd hdd
   have lAt:∀ {H:Hp} {B:LoopState} {pe:Option Code},H.get r.l=some (r.blk P B pe)→AQ r.l H:=fun hg=>⟨r.d,fun T n D=>by unfold wz; simp only[hg]; rfl⟩
   have hlC:CRn c.σ (fun b=>c.F b∨Fg b) n r.l:=⟨by omega,fun⟨s,i,g1,g2,g3,_⟩=>(h2.unhas hl).2.2.2.2 s i g1 g2 g3⟩
   obtain⟨ex1,s1,σ1,F3,A2,G2,tm1,e0,e1,e2,e3,e4,e5,e6,e8,e7⟩:=runB_ok (cu:=none) (m:=m) hpc hrk (lAt hl0) hlC h2 hW hWC t2 hdd
   have e3:Rs n0 (KI.has { c.K0 with tm:=tm1 } r.l (r.blk P .ready none)) F0 σ1 F3 s1.H s1.n G2:=e3
   cases ex1 with
   | exit i=>cases e7
   | ret=>cases e7
   | norm=>
    obtain⟨u1,u2,u3,u4,u5⟩:=e3.unhas hl
    obtain⟨w1,w2⟩:=e3.hasSet (B':=r.blk P .busy none) hl hcl
    obtain⟨ex2,s2,σ2,F4,A3,G3,tm2,f0,f1,f2,f3,f4,f5,f6,f8,f7⟩:=runB_ok (m:=m) hpc hrk (lAt (w1.unhas hl).1) (e6 _ hlC).2 w1 (W:=W) (fun b hb z=>e8 b z hb) (fun b hb=>(e6 b (hWC b hb)).2) (e4.mono (fun _ _ z=>z) (fun _ z=>z) w2) e7
    have f3:Rs n0 (KI.has { c.K0 with tm:=tm2 } r.l (r.blk P .busy none)) F0 σ2 F4 s2.H s2.n G3:=f3
    have htm:∀ z,memN (r.Z::zs) z=true→tm2 z=c.K0.tm z:=fun z hz=>(f0 z hz).trans (e0 z hz)
    have hT2:tm2 r.Z=r.T:=(htm r.Z (by simp [memN])).trans hT
    obtain⟨v1,v2,v3,v4,v5⟩:=f3.unhas hl
    have hy:∀ j,QK ex2=some j→Cz (fun | some l=>calg.body l | none=>fun _ _ _=>none) P r.l vs (bare H n) =
      some (.bool j.isNone,{ bare H n with H:=s2.H.set r.l (some (r.blk P (stOf j) j)),n:=s2.n }):=by
     intro j hj
     have a1:calg.body r.l r.f r.aS { T:=T1,H:=H,n:=n,D:=[] }=some (.norm,s1):=(hb _ _ _ _ rfl).trans e1
     have a2:calg.body r.l r.f r.bd { s1 with H:=s1.H.set r.l (some (r.blk P .busy none)) }=some (ex2,s2):=(hb _ _ _ { s1 with H:=s1.H.set r.l (some (r.blk P .busy none)) } e2).trans f1
     have a3:OY s1.H r.l=true:=by unfold OY; rw[u1]; rfl
     have a4:zV s1.H r.l .busy (wY s1.H r.l)=some (s1.H.set r.l (some (r.blk P .busy none))):=by unfold zV wY; rw[u1]; rfl
     have a5:zV s2.H r.l (if j.isNone then .ready else .done) j=some (s2.H.set r.l (some (r.blk P (stOf j) j))):=by unfold zV; rw[v1]; rfl
     have a6:Nat.beq (ntm P r.f) (ntm P r.f)=true:=Nat.beq_refl _
     unfold Cz
     have hl1:(bare H n).H.get r.l=some (.loop .ready none r.f r.T (ntm P r.f) r.ps r.aS r.bd r.d):=hl0
     rw[hl1]
     simp only[a6,t1]
     show(match calg.body r.l r.f r.aS { T:=T1,H:=H,n:=n,D:=[] } with
      | some (.norm,s)=>_
      | _=>none)=_
     rw[a1]
     simp only[a3,a4,a2,hj,a5]
    have fin2:∀ j (p2:D) (ys2:List (List D)),QK ex2=some j→p2=qw r.l ys2→(∀ b,b=j.isNone→(if b then some (qw r.l ys) else some leafT)=some p2) →
      aftA P (cfB P pcb rkb m r.f) r ⟨{ c.K0 with tm:=tm2 },σ2,F4,G3,j⟩ ys2=some dd→c.K0.R n0 F0 (r.out c.K0.ds (iW P calg (.func (.yield r.l) ⟨[]⟩ ⟨[]⟩) vs H n kc)) dd:=by
     intro j p2 ys2 hj hp2 hpq haft
     obtain⟨x1,x2⟩:=f3.hasSet (B':=r.blk P (stOf j) j) hl hcl
     have keepg:∀ b,(CRn c.σ (fun b=>c.F b∨Fg b) n b)→b≠r.l→(s2.H.set r.l (some (r.blk P (stOf j) j))).get b=H.get b∧b<s2.n:=by
      intro b hb hne
      obtain⟨y1,y2⟩:=e6 b hb
      obtain⟨y3,y4⟩:=f6 b y2
      exact⟨by rw[Tr.get_set,if_neg hne,y3,Tr.get_set,if_neg hne,y1],y4.1⟩
     have hFg:∀ b,Fg b→CRn c.σ (fun b=>c.F b∨Fg b) n b∧b≠r.l:=fun b hb=>⟨⟨hR.lt hb,fun⟨_,_,_,_,_,h4⟩=>h4 (.inr hb)⟩,fun z=>(h2.unhas hl).2.2.2.1 (z ▸ .inr hb)⟩
     have hog:∀ s i,σg s=some i→i.nil=false→CRn c.σ (fun b=>c.F b∨Fg b) n i.b∧i.b≠r.l:=fun s i hi hnil=>by
      rcases hR.ownC s i hi hnil with z | z
      ·exact⟨⟨(hR.own s i hi hnil).2,fun⟨s',i',h1,h2,h3,_⟩=>z (.inr (.inr (.inr ⟨s',i',h1,h2,h3⟩)))⟩,fun y=>z (.inr (.inl y))⟩
      ·exact hFg _ z
     have hfz:Fz Fg H (s2.H.set r.l (some (r.blk P (stOf j) j))):=Fz.of_eq fun b hb=>(keepg b (hFg b hb).1 (hFg b hb).2).1
     have hFF:∀ b,c.F b→F4 b:=fun b hb=>f5 b (e5 b (.inl hb))
     have hnew:Rs (r.l+1) (Cn.ki P (cfB P pcb rkb m r.f) r n0 F0 ⟨{ c.K0 with tm:=tm2 },σ2,F4,G3,j⟩) F1 σg Fg (s2.H.set r.l (some (r.blk P (stOf j) j))) s2.n Gg:=by
      refine⟨v2,⟨⟨⟨s2.n,x1⟩,hT2⟩,fun b hb=>?_⟩,hR.sub,fun b hb=>?_,fun b hb=>hR.low b hb,fun s B e=>?_,hR.back,fun s i hi hnil=>⟨(hR.own s i hi hnil).1,(keepg _ (hog s i hi hnil).1 (hog s i hi hnil).2).2⟩,hR.inj,fun s i hi hnil=>?_,fun b hb=>?_,fun b hb=>hb.elim,?_⟩
      ·rcases hb with hb | rfl | hb | ⟨s, i, h1, h2, rfl⟩
       ·exact v3.keep.2 b hb
       ·exact v2
       ·exact v3.lt hb
       ·exact(v3.own s i h1 h2).2
      ·rcases hR.fin b hb with z | z
       ·exact .inl z
       ·exact .inr ⟨z.1,(keepg b (hFg b hb).1 (hFg b hb).2).2⟩
      ·obtain ⟨i, hi, hB⟩ := hR.site s B e
       exact⟨i,hi,hB.only (Q:=fun _=>true) (fun _ _ _ z=>z) (fun _ z=>z) (fun _ z=>z) hfz (fun hnil=>(keepg _ (hog s i hi hnil).1 (hog s i hi hnil).2).1) (vw _)⟩
      ·rcases hR.ownC s i hi hnil with z | z
       ·by_cases y : Fg i.b
        ·exact .inr y
        ·left
         have hw:W i.b:=⟨⟨s,i,hi,hnil,rfl⟩,z,y⟩
         rintro(q | q | q | ⟨s',i',g1,g2,g3⟩)
         ·exact z (.inl q)
         ·exact z (.inr (.inl q))
         ·exact f8 _ hw q
         ·exact(f6 _ (e6 _ (hWC _ hw)).2).2.2 ⟨s',i',g1,g2,g3,f8 _ hw⟩
       ·exact .inr z
      ·rcases hR.finC b hb with z | z
       ·exact .inl z
       ·right
        rintro(q | q | ⟨s',i',g1,g2,g3,g4⟩)
        ·exact z (.inl q)
        ·exact z (.inr (.inl q))
        ·exact g4 (f5 b (e5 b (.inr hb)))
      ·intro s l e i hi
       have:=hR.site s _ e
       exact hR.tms s l e i hi
     have key:=hk j.isNone (Cn.ki P (cfB P pcb rkb m r.f) r n0 F0 ⟨{ c.K0 with tm:=tm2 },σ2,F4,G3,j⟩) _ _ ⟨⟨{ c.K0 with tm:=tm2 },σ2,F4,G3,j⟩,hFam _ _ hc htm,hcl,fun b hb=>hFF b (hsub b hb),rfl⟩ rfl hnew (fun b hb=>(keepg b (hFg b hb).1 (hFg b hb).2).1) p2 (hpq _ rfl) ys2 hp2 dd haft
     have hcv:iW P calg (.func (.yield r.l) ⟨[]⟩ ⟨[]⟩) vs H n kc=kc (.bool j.isNone) (s2.H.set r.l (some (r.blk P (stOf j) j))) s2.n:=congrArg (fun o=>stK o kc) (hy j hj)
     rw[hcv]
     exact key
    cases ex2 with
    | norm=>exact fin2 none _ ys rfl rfl (fun b hb=>by subst hb; rfl) f7
    | exit i=>exact fin2 (some (.exit i)) _ [] rfl rfl (fun b hb=>by subst hb; rfl) f7
    | ret=>exact fin2 (some .ret) _ [] rfl rfl (fun b hb=>by subst hb; rfl) f7
end Go.Ev
end
section
namespace Go.Ev
open Go
variable {P:Program} {ρ:Type}
theorem rgF_end{r:Rg ρ}{cf:CF}{n0:Nat}{F0 F1:Nat→Prop}{Fam:KI ρ→Prop}(hK:KS n0 Fam F0 r.K r.k)(hX:∀ i,KS n0 Fam F0 (r.X i) (r.x i))(hKr:KS n0 Fam F0 r.Kr r.kr)(hl:n0≤r.l)
  {K':KI (Value × Hp × Nat)} (hK':RgF P cf r n0 F0 F1 Fam K') {σg:Nat→Option Si} {Fg:Nat→Prop} {H:Hp} {n:Nat} {G:Tr Bx} {v:Value} {x:D} (hx:x=.tup []) (hR:Rs (r.l+1) K' F1 σg Fg H n G):K'.R (r.l+1) F1 (some (v,H,n)) x:=by
 obtain⟨c,hc,hcl,hsub,rfl⟩:=hK'
 intro ys hys dd hdd
 subst hx
 cases ys with
 | cons y ys=>simp [qw] at hys
 | nil=>
  obtain⟨⟨nn,hRs⟩,hT⟩:=hR.keep.1
  have hbd:=hR.keep.2
  have hn:r.l+1≤n:=hR.le
  have h1:=hRs.re (m:=n) (by omega) (fun b hb=>hbd b (hb.elim .inl fun e=>.inr (.inl e))) (fun b hb=>hbd b (.inr (.inr (.inl hb)))) (fun s i hi hn=>hbd _ (.inr (.inr (.inr ⟨s,i,hi,hn,rfl⟩))))
  have hl0:=(h1.unhas hl).1
  obtain⟨w1,w2⟩:=h1.hasSet (B':=r.blk P .exhausted c.pe) hl hcl
  have h2:=(w1.unhas hl).2.2.1
  have go:∀ {K:KC ρ} {k:KA},KS n0 Fam F0 K k→envK r.Z c.G (fun A=>k A c.G)=some dd→c.K0.R n0 F0 (K r.T (H.set r.l (some (r.blk P .exhausted c.pe))) n c.K0.ds) dd:=by
   intro K k hk e
   exact envK_ok (Qx:=fun dd=>c.K0.R n0 F0 (K r.T (H.set r.l (some (r.blk P .exhausted c.pe))) n c.K0.ds) dd) h2 (fun A hA=>hk c.K0 hc c.σ c.F _ n r.T A c.G h2 (by rw[← hT]; exact hA)) dd e
  show c.K0.R n0 F0 (fin r.K r.X r.Kr (AK r.l { T:=r.T,H:=H,n:=n,D:=c.K0.ds })) dd
  unfold AK
  simp only
  rw[hl0]
  cases hpe:c.pe with
  | none=>
   unfold aftA at hdd; rw[hpe] at hdd
   have:=go hK hdd
   rw[hpe] at this
   exact this
  | some j=>
   unfold aftA at hdd; rw[hpe] at hdd
   cases j with
   | exit i=>
    have:=go (hX i) hdd
    rw[hpe] at this
    exact this
   | ret=>
    have:=go hKr hdd
    rw[hpe] at this
    exact this
   | _=>cases hdd
end Go.Ev
end
section
namespace Go.Ev
open Go
variable {P:Program} {cal calg calb:Cal} {pcg pcb:FuncId→List D→Option D} {ρ:Type}
noncomputable def cK(bd:Code):Nat:=match bd with
 | .block id _=>1000000+id
 | _=>1000000
noncomputable def Cv(P:Program)(g:FuncId):Bool:=match P.funcs[g]? with
 | some fn=>fn.results.toList.isEmpty
 | none=>false
noncomputable def envG(Z N:Nat)(A:Tr AV)(G:Tr Bx):Tr Bx:=(mapT (poiB Z) G).set Z (some (.env (toL (Aj (some Z) A) (List.range N))))
noncomputable def gz(P:Program)(rg:FuncId→List D→Option D)(pcb:FuncId→List D→Option D)(rkb:List Nat→RK)(m:Nat)(zs:List Nat):RK:=fun lv f a ps aS bd k x kr A G=>
 getK (fzV 9 a G) fun r=>fnK r.1 fun g ca cb=>chkK (Cv P g && !memN zs (cK bd)) (Zq (fun l=>rg g (ca++.yld l::cb)) fun ys=>
  QQ (cfB P pcb (rkb (cK bd::zs)) m f) lv (ntm P f) ps aS bd (cK bd) k x kr ys (envG (cK bd) (ntm P f) A r.2))
theorem Rs.congr{K:KI ρ}{σ:Nat→Option Si}{F F0:Nat→Prop}{H:Hp}{n n0:Nat}{G G':Tr Bx}(h:Rs n0 K F0 σ F H n G)(e:∀ s,G'.get s=G.get s):Rs n0 K F0 σ F H n G':=
 ⟨h.le,h.keep,h.sub,h.fin,h.low,fun s B q=>h.site s B ((e s).symm.trans q),fun s i q=>by obtain⟨B,hB⟩:=h.back s i q; exact⟨B,(e s).trans hB⟩,h.own,h.inj,h.ownC,h.finC,h.fs,fun s l q=>h.tms s l ((e s).symm.trans q)⟩
theorem Iq{l:Nat}{b:List Value}:∀ {a:List Value},eQ (a++.func (.yield l) ⟨[]⟩ ⟨[]⟩::b)=false
 | []=>by simp [eQ,bQ]
 | v::a=>by simp [eQ,Iq (l:=l) (b:=b) (a:=a)]
theorem memN_cons{x z:Nat}{l:List Nat}(h:memN l z=true):memN (x::l) z=true:=by
 simp only[memN]
 split
 ·rfl
 ·exact h
theorem range_core{rkb:RK}{zs:List Nat}{Lv0:FuncId→Lv}{L:FuncId→LvA}{mg m n0 n d:Nat}{F0 F1:Nat→Prop}{Fam:KI ρ→Prop}{K1:KI ρ}{f:FuncId}{ps:Array Tmp}{aS bd:Code}{lv:LvA}{g:FuncId}
  {K:KC ρ} {X:XC ρ} {Kr:KC ρ} {k:KA} {x:Nat→KA} {kr:KA} {σ:Nat→Option Si} {H:Hp} {G:Tr Bx} {T:Tm} {A:Tr AV} {ca cb:List D} {va vb:List Value} {ys:List (List D)} {dd:D}
  (hpg:∀ f,nx (iJ P f) (calg.call f) (pcg f)) (hpc:∀ f,nx (iJ P f) (calb.call f) (pcb f))
  (hb:∀ l f c (st:St),st.D=[]→calg.body l f c st=runB P calb m (some l) f c st.T st.H st.n) (hcall:∀ g,Cv P g=true→∀ vs H n,cal.call g vs H n=aX P calg Lv0 mg g vs H n) (hlv:∀ g,Lv0 g=.leaf)
  (hFam:∀ K tm,Fam K→(∀ z,memN zs z=true→tm z=K.tm z)→Fam { K with tm:=tm })
  (hrk:∀ l,∀ K1:KI (Ex × St),(∀ H,K1.ok H→AQ l H)→RkOk P calb (some l) rkb n0 (EZ K1 (cK bd::zs)) F0)
  (hK:KS n0 Fam F0 K k) (hX:∀ i,KS n0 Fam F0 (X i) (x i)) (hKr:KS n0 Fam F0 Kr kr) (hF:Fam K1) (h:Rs n0 K1 F0 σ F1 H n G) (ht:TRl σ F1 H T A)
  (hZ:memN zs (cK bd)=false) (hres:Cv P g=true) (q1:bj F1 H ca va) (q2:bj F1 H cb vb)
  (e1:∀ l,cJ P pcg my noR L mg g (ca++.yld l::cb)=some (qw l ys))
  (e2:QQ (cfB P pcb rkb m f) lv (ntm P f) ps.toList aS bd (cK bd) k x kr ys (envG (cK bd) (ntm P f) A G)=some dd) :
  K1.R n0 F0 ((⟨f,T,ps,aS,bd,cK bd,n,d,K,X,Kr,k,x,kr,lv⟩:Rg ρ).out K1.ds (cal.call g (va++.func (.yield n) ⟨[]⟩ ⟨[]⟩::vb) (H.set n (some ((⟨f,T,ps,aS,bd,cK bd,n,d,K,X,Kr,k,x,kr,lv⟩:Rg ρ).blk P .ready none))) (n+1))) dd:=by
 generalize hrr:(⟨f,T,ps,aS,bd,cK bd,n,d,K,X,Kr,k,x,kr,lv⟩:Rg ρ)=rr
 have rl:rr.l=n:=by subst hrr; rfl
 have rZ:rr.Z=cK bd:=by subst hrr; rfl
 have rT:rr.T=T:=by subst hrr; rfl
 have hn0:n0≤n:=h.le
 have hlt:∀ b,b<n→(H.set n (some (rr.blk P .ready none))).get b=H.get b:=fun b hb=>by rw[Tr.get_set,if_neg (by omega)]
 obtain⟨t1,t2⟩:=h.out (n':=n+1) (H':=H.set n (some (rr.blk P .ready none))) (by omega) (fun b hb=>hlt b (h.keep.2 b hb)) (fun b hb=>hlt b (h.lt hb)) (fun s i hi hn=>hlt _ (h.own s i hi hn).2)
 have t3:=t1.has (l:=n) (B:=rr.blk P .ready none) (by rw[Tr.get_set,if_pos rfl]) (by omega) (fun z=>by have:=h.lt z; omega) (fun s i hi hn z=>by have:=(h.own s i hi hn).2; omega)
 obtain⟨u1,u2⟩:=t3.poison (cK bd)
 let i':Si:=⟨0,0,0,1,true,T⟩
 obtain⟨w1,w2⟩:=u1.put (s:=cK bd) (i':=i') (B':=.vec [] 0 1 false) (n':=n+1) (H':=H.set n (some (rr.blk P .ready none))) (Nat.le_refl _) (fun _ _ _=>rfl) (fun _ _ _=>.inr rfl) (fun z=>by cases z)
  (.inr (.inr fun s B _ e=>u2 s B e)) (fun _=>⟨rfl,rfl,Nat.le_refl 1,.inl ⟨rfl,rfl⟩⟩)
 have hta:TRl (upd σ (cK bd) i') F1 (H.set n (some (rr.blk P .ready none))) T (Aj (some (cK bd)) A):=killT t2 ht
 let K2:KI ρ:={ K1 with tm:=fun s=>if s=cK bd then T else K1.tm s }
 have w3:Rs n0 (K2.has n (rr.blk P .ready none)) F0 (upd σ (cK bd) i') F1 (H.set n (some (rr.blk P .ready none))) (n+1) ((mapT (poiB (cK bd)) G).set (cK bd) (some (.vec [] 0 1 false))):=by
  refine⟨w2.le,w2.keep,w2.sub,w2.fin,w2.low,w2.site,w2.back,w2.own,w2.inj,w2.ownC,w2.finC,w2.fs,fun s l e j hj=>?_⟩
  by_cases hs:s=cK bd
  ·subst hs; rw[Tr.get_set,if_pos rfl] at e; cases e
  ·have := w2.tms s l e j hj
   show j.tm=if s=cK bd then T else K1.tm s
   rw[if_neg hs]; exact this
 obtain⟨y1,y2⟩:=w3.put (s:=cK bd) (i':=i') (B':=.env (toL (Aj (some (cK bd)) A) (List.range (ntm P f)))) (n':=n+1) (H':=H.set n (some (rr.blk P .ready none))) (Nat.le_refl _) (fun _ _ _=>rfl) (fun _ _ _=>.inr rfl) (fun z=>by cases z)
  (.inr (.inl gX)) (fun _=>⟨rfl,fun z hz=>by
   obtain⟨v,v1,v2⟩:=hta z.1 z.2 (PJ hz)
   have eu:upd (upd σ (cK bd) i') (cK bd) i'=upd σ (cK bd) i':=by funext s; unfold upd; split <;> rfl
   exact⟨v,v1,by rw[eu]; exact v2⟩⟩) (fun l _=>by show T=if cK bd=cK bd then T else _; rw[if_pos rfl])
 have y2:=y2.congr (G':=envG (cK bd) (ntm P f) A G) (fun s=>by unfold envG; simp only[Tr.get_set]; split <;> rfl)
 let c0:Cn ρ:=⟨K2,upd (upd σ (cK bd) i') (cK bd) i',F1,envG (cK bd) (ntm P f) A G,none⟩
 have hfam:RgF P (cfB P pcb rkb m f) rr n0 F0 F1 Fam (c0.ki P (cfB P pcb rkb m f) rr n0 F0):=by
  refine⟨c0,hFam K1 _ hF (fun z hz=>by rw[if_neg (fun e=>by subst e; rw[hZ] at hz; cases hz)]),fun z=>?_,fun _ z=>z,rfl⟩
  have z:K1.C rr.l:=z
  have:=h.keep.2 _ z
  omega
 have hTT:(if cK bd=cK bd then T else K1.tm (cK bd))=T:=if_pos rfl
 have hg0:Rs (n+1) (c0.ki P (cfB P pcb rkb m f) rr n0 F0) F1 (fun _=>none) F1 (H.set n (some (rr.blk P .ready none))) (n+1) .nil:=by
  refine⟨Nat.le_refl _,⟨⟨⟨n+1,by rw[rl]; exact y2⟩,by rw[rZ,rT]; exact hTT⟩,fun b hb=>?_⟩,fun _ z=>z,fun _ z=>.inl z,fun b hb=>y2.lt hb,fun s B q=>(by rw[Tr.get_nil] at q; cases q),fun s i q=>(by cases q),fun s i q=>(by cases q),fun s s' i j q=>(by cases q),fun s i q=>(by cases q),fun _ z=>.inl z,fun _ z=>z.elim,fun s l q=>(by rw[Tr.get_nil] at q; cases q)⟩
  rcases hb with hb | hb | hb | ⟨s,i,h1,h2,rfl⟩
  ·exact y2.keep.2 b (.inl hb)
  ·rw[rl] at hb; omega
  ·exact y2.lt hb
  ·exact(y2.own s i h1 h2).2
 have hvs:bj F1 (H.set n (some (rr.blk P .ready none))) (ca++.yld n::cb) (va++.func (.yield n) ⟨[]⟩ ⟨[]⟩::vb):=
  (q1.mono (fun _ z=>z) t2).append (by unfold bj; exact⟨_,vb,rfl,by unfold DRel; rfl,q2.mono (fun _ z=>z) t2⟩)
 have rcf:cfB P pcb rkb m f=cfB P pcb rkb m rr.f:=by subst hrr; rfl
 have key:=bodyY_ok (P:=P) (cal:=calg) (pc:=pcg) (n0:=n+1) (F0:=F1) (Fam:=RgF P (cfB P pcb rkb m f) rr n0 F0 F1 Fam) (L:=L) (m:=mg) (f:=g) hpg
  (by
   have:=rgF_yld (r:=rr) (rkb:=rkb) (zs:=zs) (m:=m) (n0:=n0) (F0:=F0) (F1:=F1) (Fam:=Fam) (calg:=calg) (calb:=calb) (pcb:=pcb)
    (fun K tm hK htm=>hFam K tm hK fun z hz=>htm z (memN_cons hz)) (by rw[rZ]; exact hrk rr.l) hpc hb (by omega)
   rw[rl,← rcf] at this; exact this) noR_ok (dsOk_nil fun K z=>by obtain⟨c,_,_,_,rfl⟩:=z; rfl)
  (fun K' hK' σ F H n' G v x _ hx q _=>by
   have:=rgF_end (r:=rr) (cf:=cfB P pcb rkb m f) (n0:=n0) (F0:=F0) (F1:=F1) (Fam:=Fam) (by subst hrr; exact hK) (by subst hrr; exact hX) (by subst hrr; exact hKr) (by omega) hK' (v:=v) (x:=x) (H:=H) (n:=n') (G:=G) (σg:=σ) (Fg:=F) (by
    unfold Cv at hres
    split at hres
    ·rename_i fn hfn; exact hx fn hfn (List.isEmpty_iff.1 hres)
    ·cases hres) (by rw[rl]; exact q)
   rw[rl] at this; exact this) (hlv g) hfam rfl hg0 hvs
 have:=key _ (e1 n) ys (by rw[rl]) dd (by subst hrr; exact e2)
 rw[hcall g hres]
 exact this
theorem rangeA_ok{rkb:List Nat→RK}{Lv0:FuncId→Lv}{L:FuncId→LvA}{mg m n0:Nat}{F0:Nat→Prop}{K0:KI ρ}(hpg:∀ f,nx (iJ P f) (calg.call f) (pcg f))(hpc:∀ f,nx (iJ P f) (calb.call f) (pcb f))
  (hb:∀ l f c (st:St),st.D=[]→calg.body l f c st=runB P calb m (some l) f c st.T st.H st.n) (hcall:∀ g,Cv P g=true→∀ vs H n,cal.call g vs H n=aX P calg Lv0 mg g vs H n) (hlv:∀ g,Lv0 g=.leaf)
  (hrk:∀ zs l,∀ K1:KI (Ex × St),(∀ H,K1.ok H→AQ l H)→RkOk P calb (some l) (rkb zs) n0 (EZ K1 zs) F0) :
  RkOk P cal none (gz P (cJ P pcg my noR L mg) pcb rkb m []) n0 (AddF K0) F0:=by
 intro lv f ps aS bd K X Kr k x kr hK hX hKr H0 hF σ F H n T A G a v h ht hv
 unfold gz
 refine Out.getK fun r hr=>?_
 obtain⟨⟨⟨F1,r1,r2,r3⟩,_⟩,_⟩:=AJ 9 a F G r.1 r.2 v h hv hr
 cases hd:r.1 with
 | fn g ca cb=>
  rw[hd] at r3
  unfold DRel at r3
  obtain⟨va,vb,rfl,q1,q2⟩:=r3
  refine Out.chk fun hres=>?_
  simp only[Bool.and_eq_true] at hres
  intro dd e
  obtain⟨ys,e1,e2⟩:=iterK_some e
  obtain⟨s1,s2,s3⟩:=r1.add
  have key:=range_core (cal:=cal) (d:=n) (K:=K) (X:=X) (Kr:=Kr) (x:=x) (kr:=kr) (zs:=[]) hpg hpc hb hcall hlv (Fam:=AddF K0) (fun K tm hK _=>.keep tm hK) (fun l=>hrk _ l) hK hX hKr (.add n hF s3) s1 ((ht.mono (fun _ _ z=>z) r2 Fz.refl).mono (fun _ _ z=>z) (fun _ z=>z) s2) rfl hres.1 (q1.mono (fun _ z=>z) s2) (q2.mono (fun _ z=>z) s2) e1 e2
  have hcon:Ej P cal none f (.func (.func g) ⟨va⟩ ⟨vb⟩) ps aS bd K X Kr T H n H0.ds =
    (⟨f,T,ps,aS,bd,cK bd,n+1,n,K,X,Kr,k,x,kr,lv⟩:Rg ρ).out (n::H0.ds) (cal.call g (va++.func (.yield (n+1)) ⟨[]⟩ ⟨[]⟩::vb) ((H.set n (some .deferred)).set (n+1) (some ((⟨f,T,ps,aS,bd,cK bd,n+1,n,K,X,Kr,k,x,kr,lv⟩:Rg ρ).blk P .ready none))) (n+1+1)):=by
   unfold Ej wz aK
   simp only[Iq,Bool.and_false]
   rfl
  rw[hcon]
  exact key
 | _=>exact Out.no
theorem rangeI_ok{rkb:List Nat→RK}{zs:List Nat}{l:Nat}{Lv0:FuncId→Lv}{L:FuncId→LvA}{mg m n0:Nat}{F0:Nat→Prop}{K1:KI ρ}(hL:∀ H,K1.ok H→AQ l H)(hpg:∀ f,nx (iJ P f) (calg.call f) (pcg f))(hpc:∀ f,nx (iJ P f) (calb.call f) (pcb f))
  (hb:∀ l f c (st:St),st.D=[]→calg.body l f c st=runB P calb m (some l) f c st.T st.H st.n) (hcall:∀ g,Cv P g=true→∀ vs H n,cal.call g vs H n=aX P calg Lv0 mg g vs H n) (hlv:∀ g,Lv0 g=.leaf)
  (hrk:∀ zs l,∀ K1:KI (Ex × St),(∀ H,K1.ok H→AQ l H)→RkOk P calb (some l) (rkb zs) n0 (EZ K1 zs) F0) :
  RkOk P cal (some l) (gz P (cJ P pcg my noR L mg) pcb rkb m zs) n0 (EZ K1 zs) F0:=by
 intro lv f ps aS bd K X Kr k x kr hK hX hKr H0 hF σ F H n T A G a v h ht hv
 unfold gz
 refine Out.getK fun r hr=>?_
 obtain⟨⟨⟨F1,r1,r2,r3⟩,_⟩,_⟩:=AJ 9 a F G r.1 r.2 v h hv hr
 cases hd:r.1 with
 | fn g ca cb=>
  rw[hd] at r3
  unfold DRel at r3
  obtain⟨va,vb,rfl,q1,q2⟩:=r3
  refine Out.chk fun hres=>?_
  simp only[Bool.and_eq_true,Bool.not_eq_true'] at hres
  intro dd e
  obtain⟨ys,e1,e2⟩:=iterK_some e
  have hloop:AQ l H:=by
   obtain⟨tm,_,rfl⟩:=hF
   exact hL H h.keep.1
  obtain⟨d,hd'⟩:=hloop
  have hFam:∀ K tm,EZ K1 zs K→(∀ z,memN zs z=true→tm z=K.tm z)→EZ K1 zs { K with tm:=tm }:=by
   rintro K tm ⟨tm0,h0,rfl⟩ h1
   exact⟨tm,fun z hz=>(h1 z hz).trans (h0 z hz),rfl⟩
  have key:=range_core (cal:=cal) (d:=d) (K:=K) (X:=X) (Kr:=Kr) (x:=x) (kr:=kr) (zs:=zs) hpg hpc hb hcall hlv (Fam:=EZ K1 zs) hFam (fun l=>hrk _ l) hK hX hKr hF r1 (ht.mono (fun _ _ z=>z) r2 Fz.refl) hres.2 hres.1 q1 q2 e1 e2
  have hcon:Ej P cal (some l) f (.func (.func g) ⟨va⟩ ⟨vb⟩) ps aS bd K X Kr T H n H0.ds =
    (⟨f,T,ps,aS,bd,cK bd,n,d,K,X,Kr,k,x,kr,lv⟩:Rg ρ).out H0.ds (cal.call g (va++.func (.yield n) ⟨[]⟩ ⟨[]⟩::vb) (H.set n (some ((⟨f,T,ps,aS,bd,cK bd,n,d,K,X,Kr,k,x,kr,lv⟩:Rg ρ).blk P .ready none))) (n+1)):=by
   unfold Ej aK
   simp only[hd',Iq,Bool.and_false]
   rfl
  rw[hcon]
  exact key
 | _=>exact Out.no
end Go.Ev
end
section
namespace Go.Ev
open Go
variable {P:Program}
abbrev PC:=FuncId→List D→Option D
abbrev Man:=Nat→FuncId→Option (List D→Option D)
noncomputable def Wq(P:Program)(L:FuncId→LvA)(m:Nat)(man:Man)(l:Nat)(pc:PC)(rk:List Nat→RK):PC:=fun f ds=>match man l f with
 | some p=>p ds
 | none=>cJ P pc noY (rk []) L m f ds
noncomputable def tw(P:Program)(L:FuncId→LvA)(m:Nat)(man:Man):Nat→PC × (List Nat→RK)
 | 0=>(fun _ _=>none,fun _=>noR)
 | 1=>(Wq P L m man 1 (fun _ _=>none) (fun _=>noR),fun _=>noR)
 | l+2=>(Wq P L m man (l+2) (tw P L m man (l+1)).1 (tw P L m man (l+1)).2,gz P (cJ P (tw P L m man (l+1)).1 my noR L m) (tw P L m man l).1 (tw P L m man l).2 m)
noncomputable def pcR(P:Program)(L:FuncId→LvA)(m:Nat)(man:Man)(l:Nat):PC:=(tw P L m man l).1
noncomputable def rkR(P:Program)(L:FuncId→LvA)(m:Nat)(man:Man)(l:Nat):List Nat→RK:=(tw P L m man l).2
noncomputable def rgR(P:Program)(L:FuncId→LvA)(m:Nat)(man:Man)(l:Nat):PC:=fun f ds=>cJ P (pcR P L m man l) my noR L m f ds
theorem bJ{L:FuncId→LvA}{m l:Nat}{man:Man}{f:FuncId}{ds:List D}(h:man (l+1) f=none):pcR P L m man (l+1) f ds=cJ P (pcR P L m man l) noY (rkR P L m man l []) L m f ds:=by
 have:pcR P L m man (l+1) f ds=Wq P L m man (l+1) (pcR P L m man l) (rkR P L m man l) f ds:=by cases l <;> rfl
 rw[this]
 unfold Wq
 rw[h]
theorem pcR_man{L:FuncId→LvA}{m l:Nat}{man:Man}{f:FuncId}{ds:List D}{p:List D→Option D}(h:man (l+1) f=some p):pcR P L m man (l+1) f ds=p ds:=by
 have:pcR P L m man (l+1) f ds=Wq P L m man (l+1) (pcR P L m man l) (rkR P L m man l) f ds:=by cases l <;> rfl
 rw[this]
 unfold Wq
 rw[h]
structure Alt where
 A:FuncId→Lv
 tab:FuncId→Option (Cal→List Value→Hp→Nat→Res)
 W:FuncId→Bool
variable {q:Alt}
noncomputable def calR(P:Program)(q:Alt)(m:Nat):Nat→Cal
 | 0=>{ call:=fun _ _ _ _=>none,body:=fun _ _ _ _=>none }
 | l+1=>{
  call:=fun f args H n=>match q.W f with
   | true=>(calE P q.A m q.tab (l+1)).call f args H n
   | false=>aX P (calR P q m l) (fun _=>.leaf) m f args H n
  body:=fun k f c st=>runB P (calR P q m l) m (some k) f c st.T st.H st.n >>= fun r=>match st.D with
   | []=>some r
   | _=>none }
noncomputable def recR(P:Program)(q:Alt)(m:Nat):Nat→Rec
 | 0,_,_,_,_=>none
 | l+1,none,f,c,st=>match q.W f with
  | true=>evLA P q.A m (l+1) none f c st
  | false=>evFA P (recR P q m l) m .leaf none f c st
 | l+1,some k,f,c,st=>evFA P (recR P q m l) m .leaf (some k) f c st
theorem recR_ok{m:Nat}:∀ l,Snd P (recR P q m l)
 | 0=>fun _ _ _ _ _ _ e=>by simp [recR] at e
 | l+1=>fun ro f c st ex st' e=>by
  cases ro with
  | none=>
   simp only[recR] at e
   split at e
   ·exact evLA_ok P q.A m (l+1) none f c st ex st' e
   ·exact ZW P (recR_ok l) m _ none f c st ex st' e
  | some k=>exact ZW P (recR_ok l) m _ (some k) f c st ex st' e
theorem calR_rec{m:Nat}(ht:EX P q.A m q.tab):∀ l,(calR P q m l).Ok P (recR P q m l)
 | 0=>⟨fun _ _ _ _ e=>(by cases e),fun _ _ _ _ _ e=>(by cases e)⟩
 | l+1=>by
  have ih:=calR_rec ht l
  refine⟨fun f args st r e=>?_,fun l2 f c st r e=>?_⟩
  ·simp only [calR] at e
   split at e
   ·rename_i hW
    have h:=(calE_ok ht (l+1)).call f args st r e
    unfold JY at h ⊢
    have e2:∀ c st,recR P q m (l+1) none f c st=evLA P q.A m (l+1) none f c st:=fun c st=>by simp only[recR,hW]
    simp only[e2]
    exact h
   ·rename_i hW
    unfold aX at e
    unfold JY
    split at e
    ·cases e
    rename_i fn hf
    split at e
    ·cases e
    rename_i c hb
    simp only[hf,hb]
    split at e
    ·cases e
    rename_i hcond
    rw[if_neg hcond]
    have h:=HW ih m .leaf none f c _ _ _ { T:=rW .nil 0 args,H:=st.H,n:=st.n,D:=[] } e
    have e2:recR P q m (l+1) none f c { T:=rW .nil 0 args,H:=st.H,n:=st.n,D:=[] }=evFA P (recR P q m l) m .leaf none f c { T:=rW .nil 0 args,H:=st.H,n:=st.n,D:=[] }:=by simp only[recR,hW]
    rw[e2]
    generalize evFA P (recR P q m l) m .leaf none f c { T:=rW .nil 0 args,H:=st.H,n:=st.n,D:=[] }=o at h
    match o,h with
    | none,h=>cases h
    | some (.norm,s),h=>
     obtain⟨H',vs,h1,h2,rfl⟩:=PY h
     simp only[h1,h2]
    | some (.exit _,s),h=>cases h
    | some (.ret,s),h=>
     obtain⟨H',vs,h1,h2,rfl⟩:=PY h
     simp only[h1,h2]
  ·simp only [calR] at e
   cases hD:st.D with
   | cons a d=>
    rw[hD] at e
    cases hr:runB P (calR P q m l) m (some l2) f c st.T st.H st.n with
    | none=>rw[hr] at e; cases e
    | some x=>rw[hr] at e; cases e
   | nil=>
    have e:runB P (calR P q m l) m (some l2) f c st.T st.H st.n=some r:=by
     rw[hD] at e
     cases hr:runB P (calR P q m l) m (some l2) f c st.T st.H st.n with
     | none=>rw[hr] at e; cases e
     | some x=>rw[hr] at e; exact e
    have hst:st={ T:=st.T,H:=st.H,n:=st.n,D:=[] }:=by rw[← hD]
    have h:=HW ih m .leaf (some l2) f c _ _ _ { T:=st.T,H:=st.H,n:=st.n,D:=[] } e
    have e2:recR P q m (l+1) (some l2) f c st=evFA P (recR P q m l) m .leaf (some l2) f c st:=rfl
    rw[e2,hst]
    generalize evFA P (recR P q m l) m .leaf (some l2) f c { T:=st.T,H:=st.H,n:=st.n,D:=[] }=o at h
    match o,h with
    | none,h=>cases h
    | some (.norm,s),h=>exact h
    | some (.exit _,s),h=>exact h
    | some (.ret,s),h=>exact h
theorem calR_call{m l:Nat}{f:FuncId}{vs:List Value}{H:Hp}{n:Nat}(hW:q.W f=false):(calR P q m (l+1)).call f vs H n=aX P (calR P q m l) (fun _=>.leaf) m f vs H n:=by
 simp only[calR,hW]
theorem calR_alt{m l:Nat}{f:FuncId}{vs:List Value}{H:Hp}{n:Nat}(hW:q.W f=true):(calR P q m (l+1)).call f vs H n=(calE P q.A m q.tab (l+1)).call f vs H n:=by
 simp only[calR,hW]
theorem calR_body{m l k:Nat}{f:FuncId}{c:Code}{st:St}(h:st.D=[]):(calR P q m (l+1)).body k f c st=runB P (calR P q m l) m (some k) f c st.T st.H st.n:=by
 simp only[calR,h]
 cases runB P (calR P q m l) m (some k) f c st.T st.H st.n <;> rfl
theorem calls_of_calR{m:Nat}(ht:EX P q.A m q.tab){l:Nat}{f:FuncId}{v:Value}{args args':List Value}{H H':Hp}{n n':Nat}{φ:Phi}{w:World}
  {R:Nat→Prop} (hI:I w ⟨fun _=>False,R⟩ φ H n w) (hargs:VRL φ args args')
  (e:(calR P q m l).call f args H n=some (v,H',n')) (hp:bQ v=true) :
  Calls P f ⟨args'⟩ w fun en w'=>en=.returned v∧w'.os=w.os∧w'.tape=w.tape∧w'.output=w.output∧w.heap.size≤w'.heap.size∧(∀ b,b<w.heap.size→w'.heap[b]?=w.heap[b]?)∧∀ b:Nat,frOb w'.heap[b]?=frOb w.heap[b]?:=by
 refine(calls_of (recR_ok l) ((calR_rec ht l).call f args { T:=.nil,H:=H,n:=n,D:=[] } _ e) hI hargs).mono ?_
 rintro en w' ⟨φ',v',rfl,hv,hx,h⟩
 refine⟨by rw[bQ.eq hp hv],h.os,h.tape,h.output,h.size,fun b hb=>h.keep b hb (fun z=>z),h.fz⟩
structure ManOk (P:Program) (q:Alt) (m:Nat) (man:Man):Prop where
 no:∀ l f,q.W f=true→man l f≠none
 res:∀ f,q.W f=true→Cv P f=false
 yes:∀ l f p,man l f=some p→nx (iJ P f) ((calR P q m l).call f) p
structure TwOk (P:Program) (q:Alt) (L:FuncId→LvA) (m:Nat) (man:Man) (l:Nat):Prop where
 pc:∀ f,nx (iJ P f) ((calR P q m l).call f) (pcR P L m man l f)
 rk:∀(ρ:Type) n0 F0 (K0:KI ρ),RkOk P (calR P q m l) none (rkR P L m man l []) n0 (AddF K0) F0
 ri:∀(ρ:Type) n0 F0 zs k,∀ K1:KI ρ,(∀ H,K1.ok H→AQ k H)→RkOk P (calR P q m l) (some k) (rkR P L m man l zs) n0 (EZ K1 zs) F0
theorem pcStep_str{L:FuncId→LvA}{m l:Nat}{man:Man}(hm:ManOk P q m man)(h:TwOk P q L m man l)(f:FuncId)(hf:man (l+1) f=none):PStr ((calR P q m (l+1)).call f) (pcR P L m man (l+1) f):=by
 have:=bodyR_ok (P:=P) (cal:=calR P q m l) (pc:=pcR P L m man l) (L:=L) (m:=m) (f:=f) (rk:=rkR P L m man l []) (Lv0:=fun _=>.leaf) h.pc (fun n0 F0 K0 _=>h.rk _ n0 F0 K0) rfl
 intro ds d F H n vs e hF hv
 have hW:q.W f=false:=by
  cases hq:q.W f with
  | false=>rfl
  | true=>exact absurd hf (hm.no _ _ hq)
 rw[calR_call hW]
 exact this ds d F H n vs (by rw[← bJ hf]; exact e) hF hv
theorem pcStep_ok{L:FuncId→LvA}{m l:Nat}{man:Man}(hm:ManOk P q m man)(h:TwOk P q L m man l)(f:FuncId):nx (iJ P f) ((calR P q m (l+1)).call f) (pcR P L m man (l+1) f):=by
 cases hf:man (l+1) f with
 | none=>exact(pcStep_str hm h f hf).spec
 | some p=>
  have:pcR P L m man (l+1) f=p:=by funext ds; exact pcR_man hf
  rw[this]
  exact hm.yes _ _ _ hf
theorem tw_ok{L:FuncId→LvA}{m:Nat}{man:Man}(hm:ManOk P q m man):∀ l,TwOk P q L m man l∧TwOk P q L m man (l+1)
 | 0=>by
  have h0:TwOk P q L m man 0:=⟨fun f ds d F H n vs e=>(by cases e),fun _ _ _ _=>noR_ok,fun _ _ _ _ _ _ _=>noR_ok⟩
  exact⟨h0,pcStep_ok hm h0,fun _ _ _ _=>noR_ok,fun _ _ _ _ _ _ _=>noR_ok⟩
 | l+1=>by
  obtain⟨h0,h1⟩:=tw_ok (L:=L) hm l
  have hc:∀ l g,Cv P g=true→∀ vs H n,(calR P q m (l+1)).call g vs H n=aX P (calR P q m l) (fun _=>.leaf) m g vs H n:=fun l g hg vs H n=>calR_call (by
   cases hq:q.W g with
   | false=>rfl
   | true=>rw[hm.res g hq] at hg; cases hg)
  refine⟨h1,pcStep_ok hm h1,fun ρ n0 F0 K0=>?_,fun ρ n0 F0 zs k K1 hL=>?_⟩
  ·exact rangeA_ok (calg:=calR P q m (l+1)) (calb:=calR P q m l) (Lv0:=fun _=>.leaf) h1.pc h0.pc (fun k f c st h=>calR_body h) (hc _) (fun _=>rfl) (fun zs k K1 hL=>h0.ri _ n0 F0 zs k K1 hL)
  ·exact rangeI_ok (calg:=calR P q m (l+1)) (calb:=calR P q m l) (Lv0:=fun _=>.leaf) hL h1.pc h0.pc (fun k f c st h=>calR_body h) (hc _) (fun _=>rfl) (fun zs k K1 hL=>h0.ri _ n0 F0 zs k K1 hL)
theorem pcR_ok{L:FuncId→LvA}{m:Nat}{man:Man}(hm:ManOk P q m man)(l:Nat)(f:FuncId)(hf:man (l+1) f=none):PStr ((calR P q m (l+1)).call f) (pcR P L m man (l+1) f):=pcStep_str hm (tw_ok hm l).1 f hf
noncomputable def runT:Option (Value × Hp × Nat)→Bool
 | some (.bool true,_,_)=>true
 | _=>false
theorem man_run{m l:Nat}{f:FuncId}(hf:iJ P f=true)(h:runT ((calR P q m l).call f [] .nil 0)=true):nx (iJ P f) ((calR P q m l).call f) (fun ds=>match ds with | []=>some (.v (.bool true)) | _=>none):=by
 intro ds d F H n vs e hx hF hv
 cases ds with
 | cons a l=>cases e
 | nil=>
  cases e
  unfold bj at hv; subst hv
  obtain⟨rfl,rfl⟩:=hx hf rfl
  intro x ex
  cases ex
  unfold runT at h
  split at h
  ·rename_i H' n' e
   exact⟨_,H',n',fun b=>F b,e,Nat.zero_le _,fun b hb=>absurd hb (by omega),fun _ z=>z,fun b z=>.inl z,.scal rfl⟩
  ·cases h
end Go.Ev
end
