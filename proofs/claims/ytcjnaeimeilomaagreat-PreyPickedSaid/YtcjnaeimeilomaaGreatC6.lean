import Derived.Test.YtcjnaeimeilomaaGreatC5
set_option linter.unusedVariables false
section
namespace Go.Ev
open Go
variable {σ σ':Nat→Option Si} {F F' F0:Nat→Prop} {H H':Hp} {ρ:Type} {H0:KI ρ} {n n' n0:Nat} {G G':Tr Bx} {T:Tm} {A A':Tr AV} {P:Program}
 {kc:Value→Hp→Nat→Option ρ} {k:KO} {ka:AV→Option D} {cal:Cal} {pc:FuncId→List D→Option D}
def OutC(n0:Nat)(H0:Hp)(F0:Nat→Prop)(r:Option (Value × Hp × Nat))(d:Option D):Prop:=
 OutP (fun x=>∃ v H n F,r=some (v,H,n)∧n0≤n∧Keep n0 H0 H∧(∀ b,F0 b→F b)∧(∀ b,F b→F0 b∨(n0≤b∧b<n))∧DRel F H x v) d
def PStr(call:List Value→Hp→Nat→Res)(p:List D→Option D):Prop:=
 ∀ ds d F H n vs,p ds=some d→(∀ b,F b→b<n)→aK F H ds vs→OutC n H F (call vs H n) (some d)
noncomputable def ownList:List (FuncId × TypeId × Nat):=[(20,27,1)]
noncomputable def ownG:List (FuncId × TypeId × Nat)→FuncId→Option (TypeId × Nat)
 | [],_=>none
 | x::l,f=>match Nat.beq x.1 f with
  | true=>some x.2
  | false=>ownG l f
noncomputable def ownF(f:FuncId):Option (TypeId × Nat):=ownG ownList f
noncomputable def flO(P:Program)(f:FuncId):Bool × Option (TypeId × Nat):=(ux P f,ownF f)
def OwnV(i:Si)(v:Value):Prop:=(i.nil=true∧v=.slice none 0 0)∨(i.nil=false∧v=.slice (some ⟨i.b,0,none⟩) i.len i.cap)
def OutO(n0:Nat)(H0:Hp)(F0:Nat→Prop)(r:Option (Value × Hp × Nat))(d:D)(e:TypeId)(s:Nat):Prop:=
 ∃ v H n F i els,r=some (v,H,n)∧d=.sl els∧n0≤n∧Keep n0 H0 H∧(∀ b,F0 b→F b)∧(∀ b,F b→F0 b∨(n0≤b∧b<n))∧OwnV i v∧BRel (fun _=>none) F H i (.vec els e s false)∧(i.nil=false→n0≤i.b∧i.b<n)
theorem OutO.out{r:Option (Value × Hp × Nat)}{d:D}{e:TypeId}{s:Nat}(h:OutO n0 H F0 r d e s):OutC n0 H F0 r (some d):=by
 obtain⟨v,H',n,F,i,els,rfl,rfl,h1,h2,h3,h4,h5,h6,h7⟩:=h
 intro x ex
 cases ex
 rcases h5 with⟨z,rfl⟩ | ⟨z,rfl⟩
 ·rcases h6.2.2.2 with ⟨_, q⟩ | ⟨q, _⟩
  ·exact⟨_,H',n,F,rfl,h1,h2,h3,h4,by unfold DRel; exact .inl ⟨rfl,q⟩⟩
  ·rw[z] at q; cases q
 ·refine ⟨_, H', n, fun b => F b ∨ b = i.b, rfl, h1, h2, fun b hb => .inl (h3 b hb), fun b hb => ?_, ?_⟩
  ·rcases hb with hb | hb
   ·exact h4 b hb
   ·subst hb; exact .inr (h7 z)
  ·obtain ⟨q1, q2, q3, q4⟩ := h6
   rcases q4 with⟨q,_⟩ | ⟨_,q5,q6,q7,c,vec,q8,q9⟩
   ·rw[z] at q; cases q
   ·unfold DRel
    refine .inr (.inl ⟨i.b,0,i.cap,s,by rw[q1],q6,?_,.inr ⟨.inr rfl,DAt.mono (fun _ z=>.inl z) Fz.refl _ _ _ _ (fun _ _ z=>z) q7⟩⟩)
    rcases q9 with⟨w,_⟩ | ⟨w,_⟩ <;> unfold capR <;> unfold capV at w <;> omega
def lk(fl:Bool × Option (TypeId × Nat))(call:List Value→Hp→Nat→Res)(p:List D→Option D):Prop:=
 ∀ ds d F H n vs,p ds=some d→(fl.1=true→ek vs=true→H=.nil∧n=0)→(∀ b,F b→b<n)→aK F H ds vs→OutC n H F (call vs H n) (some d)∧∀ e s,fl.2=some (e,s)→OutO n H F (call vs H n) d e s
theorem PStr.spec{fl:Bool × Option (TypeId × Nat)}{call:List Value→Hp→Nat→Res}{p:List D→Option D}(h:PStr call p)(ho:fl.2=none):lk fl call p:=fun ds d F H n vs e _ hF hv=>⟨h ds d F H n vs e hF hv,fun e s q=>by rw[ho] at q; cases q⟩
mutual
noncomputable def zy:D→Bool
 | .v _=>true
 | .agg l | .tup l=>flatDL l
 | _=>false
noncomputable def flatDL:List D→Bool
 | []=>true
 | d::l=>zy d && flatDL l
end
mutual
theorem qkq:∀(d:D) (v:Value),DRel F H d v→zy d=true→bz v=true∧DRel F' H' d v
 | .v x,v,h,_=>by
  unfold DRel at h ⊢
  exact⟨by rw[h.1]; exact(tZ h.2).2.2.2.1,h⟩
 | .agg l,v,h,hf=>by
  unfold zy at hf
  unfold DRel at h ⊢
  obtain⟨h0,vs,rfl,h1⟩:=h
  have:=Vq l vs h1 hf
  exact⟨by simp only[bz,lj]; exact this.1,h0,vs,rfl,this.2⟩
 | .tup l,v,h,hf=>by
  unfold zy at hf
  unfold DRel at h ⊢
  obtain⟨vs,rfl,h1⟩:=h
  have:=Vq l vs h1 hf
  exact⟨by simp only[bz,lj]; exact this.1,vs,rfl,this.2⟩
 | .sl _,_,_,hf=>by simp [zy] at hf
 | .ref _,_,_,hf=>by simp [zy] at hf
 | .fn _ _ _,_,_,hf=>by simp [zy] at hf
 | .opq,_,_,hf=>by simp [zy] at hf
 | .yld _,_,_,hf=>by simp [zy] at hf
theorem Vq:∀(l:List D) (vs:List Value),aK F H l vs→flatDL l=true→ek vs=true∧aK F' H' l vs
 | [],vs,h,_=>by unfold aK at h ⊢; subst h; exact⟨rfl,rfl⟩
 | d::l,vs,h,hf=>by
  unfold flatDL at hf
  rw[Bool.and_eq_true] at hf
  unfold aK at h ⊢
  obtain⟨v,vs',rfl,h1,h2⟩:=h
  have a:=qkq d v h1 hf.1
  have b:=Vq l vs' h2 hf.2
  exact⟨by simp only[ek,Bool.and_eq_true]; exact⟨a.1,b.1⟩,v,vs',rfl,a.2,b.2⟩
end
noncomputable def pcD(P:Program)(pc:FuncId→List D→Option D)(f:FuncId)(ds:List D):Option D:=match pc f ds with
 | some d=>match ux P f with
  | true=>match zy d with
   | true=>some d
   | false=>none
  | false=>some d
 | none=>none
theorem call_run{f:FuncId}{ds:List D}{d:D}{vs:List Value}(hpc:lk (flO P f) (cal.call f) (pc f))(e:pcD P pc f ds=some d)(hF:∀ b,F b→b<n)(hv:aK F H ds vs) :
  ∃ v H' n' F',(∀ {ρ:Type} (k:Value→Hp→Nat→Option ρ),aZ P cal f vs H n k=k v H' n')∧n≤n'∧Keep n H H'∧(∀ b,F b→F' b)∧(∀ b,F' b→F b∨(n≤b∧b<n'))∧DRel F' H' d v:=by
 unfold pcD at e
 split at e
 ·rename_i d' hd
  cases hb:ux P f && ek vs with
  | false=>
   have hdd:d'=d:=by
    split at e
    ·split at e
     ·cases e; rfl
     ·cases e
    ·cases e; rfl
   subst hdd
   obtain⟨v,H',n',F',h1,h2,h3,h4,h5,h6⟩:=(hpc ds d' F H n vs hd (fun q1 q2=>by have q1:ux P f=true:=q1; rw[q1,q2] at hb; cases hb) hF hv).1 d' rfl
   exact⟨v,H',n',F',fun k=>by unfold aZ; rw[hb,h1]; rfl,h2,h3,h4,h5,h6⟩
  | true=>
   have hb':=hb
   rw[Bool.and_eq_true] at hb'
   rw[hb'.1] at e
   simp only at e
   split at e
   ·rename_i hfl
    cases e
    obtain⟨v,H',n',F',h1,h2,h3,h4,h5,h6⟩:=(hpc ds d noF .nil 0 vs hd (fun _ _=>⟨rfl,rfl⟩) (fun _ z=>z.elim) (aK.pure ds vs hv hb'.2)).1 d rfl
    have:=qkq (F':=F) (H':=H) d v h6 hfl
    refine⟨v,H,n,F,fun k=>?_,Nat.le_refl _,Keep.refl _ _,fun _ z=>z,fun _ z=>.inl z,this.2⟩
    unfold aZ
    rw[hb,h1]
    simp only[aj,this.1]
   ·cases e
 ·cases e
theorem Rs.call(h:Rs n0 H0 F0 σ F H n G)(hn:n≤n')(hk:Keep n H H')(hF:∀ b,F b→F' b)(hF':∀ b,F' b→F b∨(n≤b∧b<n')):Rs n0 H0 F0 σ F' H' n' G∧Nx σ F H n σ F' H' n' none:=by
 have hfz:Fz F H H':=Fz.of_eq fun b hb=>hk b (h.lt hb)
 refine⟨⟨Nat.le_trans h.le hn,⟨H0.st _ _ (fun b hb=>hk b (h.keep.2 b hb)) h.keep.1,fun b hb=>by have:=h.keep.2 b hb; omega⟩,fun b hb=>hF b (h.sub b hb),fun b hb=>?_,h.low,fun s B e=>?_,h.back,fun s i hi hnil=>?_,h.inj,fun s i h1 h2=>(h.ownC s i h1 h2).imp id (hF _),fun b hb=>?_,fun b hb=>hF b (h.fs b hb),h.tms⟩,
  hn,hF,fun T A ht=>ht.mono (fun _ _ z=>z) hF hfz,kp0 ⟨fun b hb=>pres.of_eq (hk b hb),fun s i hi=>⟨i,hi,rfl,rfl⟩⟩⟩
 ·rcases hF' b hb with q | q
  ·rcases h.fin b q with z | z
   ·exact .inl z
   ·exact .inr ⟨z.1,by omega⟩
  ·have:=h.le; exact .inr ⟨by omega,q.2⟩
 ·obtain ⟨i, hi, hB⟩ := h.site s B e
  refine⟨i,hi,hB.only (Q:=fun _=>true) (fun _ _ _ z=>z) hF (fun hnil z=>?_) hfz (fun hnil=>hk _ (h.own s i hi hnil).2) (sQ _)⟩
  rcases hF' _ z with q | q
  ·exact q
  ·have:=(h.own s i hi hnil).2; omega
 ·have:=h.own s i hi hnil; omega
 ·rcases hF' b hb with q | q
  ·exact h.finC b q
  ·exact .inr fun z=>by have:=h.keep.2 b (H0.oc b z); omega
noncomputable def fnK(d:D)(f:FuncId→List D→List D→Option D):Option D:=match d with
 | .fn g a b=>f g a b
 | _=>none
noncomputable def callA(P:Program)(pc:FuncId→List D→Option D)(ck:Tr Bx→Bool)(th:Bool)(fa:AV)(aS:List AV)(G:Tr Bx)(k:KO):Option D:=
 getK (fzV 9 fa G) fun r0=>getK (fzL (fzV 9) aS r0.2) fun r=>fnK r0.1 fun g a b=>chkK (ck r.2) (bindO (pcD P pc g (a++r.1++b)) fun d=>k (.d d) none (selW th G r.2))
theorem pcD_flat{f:FuncId}{ds:List D}{d:D}(e:pcD P pc f ds=some d)(h:ux P f=true):zy d=true:=by
 unfold pcD at e
 split at e
 ·rw [h] at e
  simp only at e
  split at e
  ·rename_i hf; cases e; exact hf
  ·cases e
 ·cases e
theorem callA_run{ck:Tr Bx→Bool}{th:Bool}{fa:AV}{aS:List AV}{fv:Value}{vs:List Value}{x:D}(hpc:∀ f,lk (flO P f) (cal.call f) (pc f))(h:Rs n0 H0 F0 σ F H n G)(hf:VRel σ F H fa fv)(ha:bQ σ F H aS vs)
  (hth:th=true→∃ g,fa=.d (.fn g [] [])∧ux P g=true) (e:callA P pc ck th fa aS G k=some x) :
  ∃ F1 G1 F2 G2 d,Rs n0 H0 F0 σ F1 H n G1∧(∀ b,F b→F1 b)∧ck G1=true∧Rs n0 H0 F0 σ F2 H n G2∧(∀ b,F b→F2 b)∧(F2=F1∨zy d=true)∧k (.d d) none G2=some x ∧
   ∀ Hm,Fz F1 H Hm→∃ v H' n' F',(∀ {ρ:Type} (k:Value→Hp→Nat→Option ρ),iQ P cal fv vs Hm n k=k v H' n')∧n≤n'∧Keep n Hm H'∧(∀ b,F1 b→F' b)∧(∀ b,F' b→F1 b∨(n≤b∧b<n'))∧DRel F' H' d v:=by
 unfold callA at e
 cases h0:fzV 9 fa G with
 | none=>rw[h0] at e; cases e
 | some r0=>
  obtain⟨d0,G0⟩:=r0
  obtain⟨⟨⟨F1,r1,r2,r3⟩,_⟩,_⟩:=yq 9 fa F G d0 G0 fv h hf h0
  rw[h0] at e
  have e:getK (fzL (fzV 9) aS G0) (fun r=>fnK d0 fun g a b=>chkK (ck r.2) (bindO (pcD P pc g (a++r.1++b)) fun d=>k (.d d) none (selW th G r.2)))=some x:=e
  cases h1:fzL (fzV 9) aS G0 with
  | none=>rw[h1] at e; cases e
  | some r=>
   obtain⟨ds,G1⟩:=r
   obtain⟨⟨⟨F2,t1,t2,t3⟩,_⟩,_⟩:=zQ (fun a F G d G' v h hv e=>yq 9 a F G d G' v h hv e) aS F1 G0 ds G1 vs r1 (ha.mono (fun _ _ z=>z) r2 Fz.refl) h1
   rw[h1] at e
   cases d0 with
   | fn g a b=>
    have e:chkK (ck G1) (bindO (pcD P pc g (a++ds++b)) (fun d=>k (.d d) none (selW th G G1)))=some x:=e
    cases hck:ck G1 with
    | false=>rw[hck] at e; cases e
    | true=>
     rw[hck] at e
     have e:bindO (pcD P pc g (a++ds++b)) (fun d=>k (.d d) none (selW th G G1))=some x:=e
     cases h2:pcD P pc g (a++ds++b) with
     | none=>rw[h2] at e; cases e
     | some d=>
      rw[h2] at e
      have e9:k (.d d) none (selW th G G1)=some x:=e
      have r3':=r3.mono t2 Fz.refl
      unfold DRel at r3'
      obtain⟨va,vb,rfl,q1,q2⟩:=r3'
      have run:∀ Hm,Fz F2 H Hm→∃ v H' n' F',(∀ {ρ:Type} (k:Value→Hp→Nat→Option ρ),iQ P cal (.func (.func g) ⟨va⟩ ⟨vb⟩) vs Hm n k=k v H' n')∧n≤n'∧Keep n Hm H'∧(∀ b,F2 b→F' b)∧(∀ b,F' b→F2 b∨(n≤b∧b<n'))∧DRel F' H' d v:=fun Hm hm=>by
       obtain⟨v,H',n',F',g1,g2,g3,g4,g5,g6⟩:=call_run (P:=P) (vs:=va++vs++vb) (hpc g) h2 (fun b hb=>t1.lt hb) ((((q1.mono (fun _ z=>z) hm)).append (t3.mono (fun _ z=>z) hm)).append (q2.mono (fun _ z=>z) hm))
       exact⟨v,H',n',F',fun k=>g1 k,g2,g3,g4,g5,g6⟩
      cases th with
      | false=>exact⟨F2,G1,F2,G1,d,t1,fun b hb=>t2 b (r2 b hb),hck,t1,fun b hb=>t2 b (r2 b hb),.inl rfl,e9,run⟩
      | true=>
       obtain⟨g',hg1,hg2⟩:=hth rfl
       subst hg1
       have h0':fzV 9 (.d (.fn g' [] [])) G=some (.fn g' [] [],G):=rfl
       rw[h0'] at h0
       simp only[Option.some.injEq,Prod.mk.injEq,D.fn.injEq] at h0
       obtain⟨⟨rfl,rfl,rfl⟩,rfl⟩:=h0
       exact⟨F2,G1,F,G,d,t1,fun b hb=>t2 b (r2 b hb),hck,h,fun _ z=>z,.inr (pcD_flat h2 hg2),e9,run⟩
   | _=>cases e
theorem call_next{F1 F2:Nat→Prop}{G2:Tr Bx}{d:D}{v:Value}(h2:Rs n0 H0 F0 σ F2 H n G2)(hF2:∀ b,F b→F2 b)(ho:F2=F1∨zy d=true)(hn:n≤n')(hk:Keep n H H')(hF:∀ b,F1 b→F' b)(hF':∀ b,F' b→F1 b∨(n≤b∧b<n'))(hd:DRel F' H' d v) :
  ∃ F3,Rs n0 H0 F0 σ F3 H' n' G2∧VRel σ F3 H' (.d d) v∧Nx σ F H n σ F3 H' n' none:=by
 rcases ho with rfl | ho
 ·obtain ⟨q1, q2⟩ := h2.call hn hk hF hF'
  exact⟨F',q1,.dat hd,(Nx.frz hF2).then q2⟩
 ·obtain ⟨q1, q2⟩ := h2.call hn hk (fun _ z => z) (fun _ z => .inl z)
  exact⟨F2,q1,.dat (qkq d v hd ho).2,(Nx.frz hF2).then q2⟩
theorem Rs.adopt(h:Rs n0 H0 F0 σ F H n G){s:Nat}(hg:G.get s=none){i:Si}{B:Bx}(h1:i.nil=false→n0≤i.b∧i.b<n)(h2:i.nil=false→¬ H0.C i.b)(h3:∀ s' j,σ s'=some j→i.nil=false→j.nil=false→i.b≠j.b)
  (hB:BRel (upd σ s i) F H i B) (hne:∀ l,B≠.env l):Rs n0 H0 F0 (upd σ s i) F H n (G.set s (some B)):=by
 have hnone:=h.none_of hg
 have hσ:∀ t j,σ t=some j→upd σ s i t=some j:=fun t j hx=>by rw[fw (fun z=>by subst z; rw[hnone] at hx; cases hx)]; exact hx
 refine⟨h.le,h.keep,h.sub,h.fin,h.low,?_,?_,?_,?_,?_,h.finC,h.fs,?_⟩
 ·intro s' B' e
  rw[Tr.get_set] at e
  by_cases hs:s'=s
  ·rw [if_pos hs] at e; cases e; subst hs
   exact⟨i,eV,hB⟩
  ·rw [if_neg hs] at e
   obtain⟨j,q1,q2⟩:=h.site s' B' e
   exact⟨j,hσ _ _ q1,q2.only (Q:=fun _=>true) (fun x j _ hx=>hσ x j hx) (fun _ z=>z) (fun _ z=>z) Fz.refl (fun _=>rfl) (sQ _)⟩
 ·intro s' j e
  rw[Tr.get_set]
  by_cases hs:s'=s
  ·rw[if_pos hs]; exact⟨_,rfl⟩
  ·rw[if_neg hs]; rw[fw hs] at e; exact h.back s' j e
 ·intro s' j e hnil
  by_cases hs:s'=s
  ·subst hs; rw[eV] at e; cases e; exact h1 hnil
  ·rw[fw hs] at e; exact h.own s' j e hnil
 ·intro a b j j' e1 e2 n1 n2 hb
  by_cases g1:a=s <;> by_cases g2:b=s
  ·rw[g1,g2]
  ·subst g1; rw [eV] at e1; cases e1; rw [fw g2] at e2
   exact absurd hb (h3 b j' e2 n1 n2)
  ·subst g2; rw [eV] at e2; cases e2; rw [fw g1] at e1
   exact absurd hb.symm (h3 a j e1 n2 n1)
  ·rw [fw g1] at e1; rw [fw g2] at e2
   exact h.inj a b j j' e1 e2 n1 n2 hb
 ·intro s' j e hnil
  by_cases hs:s'=s
  ·subst hs; rw[eV] at e; cases e; exact .inl (h2 hnil)
  ·rw[fw hs] at e; exact h.ownC s' j e hnil
 ·intro s' l e j hj
  rw[Tr.get_set] at e
  by_cases hs:s'=s
  ·rw[if_pos hs] at e; cases e; exact absurd rfl (hne l)
  ·rw[if_neg hs] at e; rw[fw hs] at hj; exact h.tms s' l e j hj
noncomputable def natI(x:D):Option Nat:=match x with
 | .v (.int _ (.ofNat n))=>some n
 | _=>none
noncomputable def loK(x:Option AV)(k:Nat→Option D):Option D:=match x with
 | none=>k 0
 | some (.d u)=>bindO (natI u) k
 | _=>none
noncomputable def hiK(x:Option AV)(m:Nat)(k:Nat→Option D):Option D:=match x with
 | none=>k m
 | some (.d u)=>bindO (natI u) k
 | _=>none
noncomputable def sliceA(P:Program)(t:TypeId)(a:AV)(lo hi:Option AV)(G:Tr Bx)(k:KO):Option D:=match rowT P t with
 | some (none,_,s)=>getK (fzV 9 a G) fun r=>bindO (elsD r.1) fun l=>loK lo fun i=>hiK hi l.length fun j=>
   chkK (Nat.ble i j && Nat.ble j l.length && l.all (szOk s)) (k (.d (.sl ((l.drop i).take (j-i)))) none r.2)
 | some (some len,_,1)=>match a with
  | .loc w o=>match lo with
   | none=>hiK hi len fun j=>chkK (Nat.blt 0 len && Nat.ble j len && Nat.blt len capV) (k (.asl w o j len) none G)
   | _=>none
  | _=>none
 | _=>none
def ORel(σ:Nat→Option Si)(F:Nat→Prop)(H:Hp):Option AV→Option Value→Prop
 | none,v=>v=none
 | some a,v=>∃ w,v=some w∧VRel σ F H a w
theorem natI_ok{x:D}{v:Value}{n:Nat}(h:DRel F H x v)(e:natI x=some n):∃ k,v=.int k (.ofNat n):=by
 unfold natI at e
 split at e
 ·cases e; unfold DRel at h; exact⟨_,h.1⟩
 ·cases e
theorem loK_ok{Qx:D→Prop}{x:Option AV}{v:Option Value}{f:Nat→Option D}(h:ORel σ F H x v)(hk:∀ i,(∀ r,i≤r→loV r v=some i)→OutP Qx (f i)):OutP Qx (loK x f):=by
 cases x with
 | none=>unfold ORel at h; subst h; exact hk 0 (fun _ _=>rfl)
 | some a=>
  cases a with
  | d u=>
   obtain⟨w,rfl,h⟩:=h
   refine Out.bindO fun i hi=>hk i fun r hr=>?_
   obtain⟨k,rfl⟩:=natI_ok h.un hi
   simp only[loV,Zw,if_pos hr]
  | _=>exact Out.no
theorem hiK_ok{Qx:D→Prop}{x:Option AV}{v:Option Value}{m:Nat}{f:Nat→Option D}(h:ORel σ F H x v)(hk:∀ j,(∀ c,j≤c→hiV m c v=some j)→OutP Qx (f j)):OutP Qx (hiK x m f):=by
 cases x with
 | none=>unfold ORel at h; subst h; exact hk m (fun _ _=>rfl)
 | some a=>
  cases a with
  | d u=>
   obtain⟨w,rfl,h⟩:=h
   refine Out.bindO fun i hi=>hk i fun r hr=>?_
   obtain⟨k,rfl⟩:=natI_ok h.un hi
   simp only[hiV,Zw,if_pos hr]
  | _=>exact Out.no
theorem sliceV_empty{t e:TypeId}{s len cap i:Nat}{a:Addr}{lov hiv:Option Value}(hu:P.underlying t=some (.slice e))(hs:szT P e=some s)(hlen:len≤cap)(hcap:cap≤capE)(hil:i≤len)(hsp:a.spot=none∨len=0)
  (hj0:∀ c,i≤c→hiV len c hiv=some i) (hi0:∀ r,i≤r→loV r lov=some i):∃ u,lw P t (.slice (some a) len cap) lov hiv=some u∧DRel F H (.sl []) u:=by
 have emp:∀ {a:Addr} {c:Nat},c≤capE→DRel F H (.sl []) (.slice (some a) 0 c):=fun {a c} hc=>by
  unfold DRel
  exact .inr (.inr ⟨rfl,a,c,rfl,hc⟩)
 cases hsp':a.spot with
 | none=>
  by_cases hc:cap<capV
  ·refine ⟨.slice (some (if cap = i then a else addA a (i * s))) (i - i) (cap - i), ?_, ?_⟩
   ·unfold lw
    simp only[hu,hs,hsp',if_pos hc,if_pos hlen,lY,hj0 cap (by omega),hi0 i (Nat.le_refl _)]
   ·rw[Nat.sub_self]; exact emp (by omega)
  ·refine ⟨Qj, ?_, emp (Nat.le_refl _)⟩
   unfold lw
   simp only[hu,hs,hsp',if_neg hc,lY,hj0 len hil,hi0 i (Nat.le_refl _),if_true]
 | some sp=>
  rw[hsp'] at hsp
  rcases hsp with z | z
  ·cases z
  ·subst z
   have hi:i=0:=by omega
   subst hi
   refine⟨Qj,?_,emp (Nat.le_refl _)⟩
   unfold lw
   simp only[hu,hs,hsp',lY,hj0 0 (Nat.le_refl _),hi0 0 (Nat.le_refl _),if_true]
theorem sliceA_ok{t:TypeId}{a:AV}{v:Value}{lo hi:Option AV}{lov hiv:Option Value}{kp:Value→Option ρ}(h:Rs n0 H0 F0 σ F H n G)(hv:VRel σ F H a v)(hlo:ORel σ F H lo lov)(hhi:ORel σ F H hi hiv)
  (hk:∀ F' G' v a,Rs n0 H0 F0 σ F' H n G'→(∀ b,F b→F' b)→VRel σ F' H a v→Out n0 H0 F0 (kp v) (k a none G')):Out n0 H0 F0 (bindO (lw P t v lov hiv) kp) (sliceA P t a lo hi G k):=by
 unfold sliceA
 split
 ·rename_i e s ht
  obtain⟨hu,hs⟩:=UZ ht
  refine Out.getK fun r hr=>Out.bindO fun l hl=>loK_ok hlo fun i hi0=>hiK_ok hhi fun j hj0=>Out.chk fun hc=>?_
  obtain⟨⟨⟨F1,r1,r2,r3⟩,_⟩,_⟩:=yq 9 a F G r.1 r.2 v h hv hr
  simp only[Bool.and_eq_true] at hc
  have q0:=Nat.le_of_ble_eq_true hc.1.1
  have q2:=Nat.le_of_ble_eq_true hc.1.2
  by_cases hij:i=j
  ·subst hij
   have key:∃ u,lw P t v lov hiv=some u∧DRel F1 H (.sl []) u:=by
    rcases IW r3 hl with⟨rfl,rfl⟩ | ⟨b,o,cap,s',rfl,g1,g2,_⟩ | ⟨rfl,a,cap,rfl,g2⟩
    ·have hi : i = 0 := by simpa using q2
     subst hi
     refine⟨.slice none 0 0,?_,by unfold DRel; exact .inl ⟨rfl,rfl⟩⟩
     have h1:hiV 0 0 hiv=some 0:=hj0 0 (Nat.le_refl _)
     unfold lw
     simp only[hu,hs,lY,h1,hi0 0 (Nat.le_refl _)]
    ·exact sliceV_empty hu hs g1 (by unfold capR at g2; unfold capE; omega) q2 (.inl rfl) hj0 hi0
    ·exact sliceV_empty hu hs (Nat.zero_le _) g2 q2 (.inr rfl) hj0 hi0
   obtain⟨u,u1,u2⟩:=key
   rw[u1,aj]
   have hz:List.take (i-i) (List.drop i l)=[]:=by simp
   rw[hz]
   exact hk F1 r.2 _ _ r1 r2 (.dat u2)
  have q1:i<j:=by omega
  rcases IW r3 hl with⟨_,rfl⟩ | ⟨b,o,cap,s',rfl,g1,g2,g3⟩ | ⟨rfl,_⟩
  rotate_left 2
  ·simp at q2; omega
  ·simp at q2; omega
  ·obtain ⟨g3, g4⟩ := g3.resolve_left (fun z => by subst z; simp at q2; omega)
   have hss:s'=s:=by
    cases l with
    | nil=>simp at q2; omega
    | cons d l=>
     have hc2:=hc.2
     simp only[List.all_cons,Bool.and_eq_true] at hc2
     have:=Nat.eq_of_beq_eq_true hc2.1
     unfold DAt at g4
     obtain⟨⟨q0,v,q1,q2,_⟩,_⟩:=g4
     rw[← q2,(q1.cells q0).1.length]; exact this
   subst hss
   have hlen:((l.drop i).take (j-i)).length=j-i:=by simp; omega
   have hat:DAt F1 H ((l.drop i).take (j-i)) b (o+i * s') s':=by
    refine DAt.of_get fun k d hd=>?_
    have hk':=nj hd
    rw[hlen] at hk'
    rw[List.getElem?_take,if_pos hk'] at hd
    exact(g4.drop i).get hd
   have go:∀ cap',j-i≤cap'→cap'≤capR→DRel F1 H (.sl ((l.drop i).take (j-i))) (.slice (some ⟨b,o+i * s',none⟩) (j-i) cap'):=by
    intro cap' c1 c2
    unfold DRel
    exact .inr (.inl ⟨b,o+i * s',cap',s',by rw[hlen],by omega,c2,.inr ⟨g3,hat⟩⟩)
   by_cases hcap:cap<capV
   ·have : lw P t (.slice (some ⟨b, o, none⟩) l.length cap) lov hiv = some (.slice (some ⟨b, o + i * s', none⟩) (j - i) (cap - i)) := by
     unfold lw
     simp only[hu,hs,if_pos hcap,if_pos g1,lY,hj0 cap (by omega),hi0 j (by omega)]
     rw[if_neg (by omega)]; rfl
    rw[this,aj]
    exact hk F1 r.2 _ _ r1 r2 (.dat (go _ (by omega) (by omega)))
   ·by_cases hz : i = 0
    ·subst hz
     have:lw P t (.slice (some ⟨b,o,none⟩) l.length cap) lov hiv=some (.slice (some ⟨b,o,none⟩) j (if cap=capV then capV else capR)):=by
      unfold lw
      simp only[hu,hs,if_neg hcap,lY,hj0 l.length (by omega),hi0 j (by omega),if_true]
      have hj:¬ 0=j:=by omega
      by_cases hcv:cap=capV
      ·rw[if_pos hcv,if_pos hcv,if_neg hj]
      ·rw[if_neg hcv,if_neg hcv,if_neg hj]
     rw[this,aj]
     refine hk F1 r.2 _ _ r1 r2 (.dat ?_)
     have:=go (if cap=capV then capV else capR) (by split <;> omega) (by split <;> simp [capV,capR])
     simpa using this
    ·have : lw P t (.slice (some ⟨b, o, none⟩) l.length cap) lov hiv = some (.slice (some ⟨b, o + i * s', none⟩) (j - i) capR) := by
      unfold lw
      simp only[hu,hs,if_neg hcap,lY,hj0 l.length (by omega),hi0 j (by omega),if_neg hz,if_neg hij]
      rfl
     rw[this,aj]
     exact hk F1 r.2 _ _ r1 r2 (.dat (go _ (by omega) (Nat.le_refl _)))
 ·rename_i len e ht
  obtain⟨hu,hs⟩:=UK ht
  split
  ·rename_i w o
   split
   ·refine hiK_ok hhi fun j hj0 => Out.chk fun hc => ?_
    simp only[Bool.and_eq_true] at hc
    have q1:0<len:=by simpa using hc.1.1
    have q2:=Nat.le_of_ble_eq_true hc.1.2
    have q3:len<capV:=by simpa using hc.2
    unfold ORel at hlo; subst hlo
    unfold VRel at hv
    obtain⟨i,hi,hnil,rfl⟩:=hv
    have:lw P t (.pointer (some ⟨i.b,o,none⟩)) none hiv=some (.slice (some ⟨i.b,o,none⟩) j len):=by
     unfold lw
     simp only[hu,hs,lY,hj0 len q2,loV,if_pos q3,Nat.sub_zero,Nat.zero_mul]
     rw[if_neg (by omega)]; rfl
    rw[this,aj]
    exact hk F G _ _ h (fun _ z=>z) (by unfold VRel; exact⟨i,hi,hnil,q2,q3,rfl⟩)
   ·exact Out.no
  ·exact Out.no
 ·exact Out.no
noncomputable def JV:AV→AV
 | .b c=>.d (.v (.bool c))
 | a=>a
theorem yx{a:AV}{v:Value}(h:VRel σ F H a v):VRel σ F H (JV a) v:=by
 cases a with
 | b c=>unfold VRel at h; subst h; exact .dat (.scal rfl)
 | _=>exact h
noncomputable def opdN(x:Operand)(A:Tr AV):Option AV:=match opdA x A with
 | some a=>some (JV a)
 | none=>none
theorem dJ{x:Operand}{a:AV}(ht:TRl σ F H T A)(e:opdN x A=some a):∃ v,opd x T=some v∧VRel σ F H a v:=by
 unfold opdN at e
 split at e
 ·rename_i b hb
  cases e
  obtain⟨v,h1,h2⟩:=oz ht hb
  exact⟨v,h1,yx h2⟩
 ·cases e
noncomputable def opdO2(x:Option Operand)(A:Tr AV):Option (Option AV):=match x with
 | none=>some none
 | some x=>match opdN x A with
  | some a=>some (some a)
  | none=>none
theorem Pk{x:Option Operand}{a:Option AV}(ht:TRl σ F H T A)(e:opdO2 x A=some a):∃ v,opdO x T=some v∧ORel σ F H a v:=by
 unfold opdO2 at e
 split at e
 ·cases e; exact⟨none,rfl,rfl⟩
 ·split at e
  ·rename_i b hb
   cases e
   obtain⟨v,h1,h2⟩:=dJ ht hb
   exact⟨some v,by simp only[opdO,h1],v,rfl,h2⟩
  ·cases e
noncomputable def AX:List AV→List AV
 | []=>[]
 | a::l=>JV a::AX l
theorem ow:∀ {l:List AV} {vs:List Value},bQ σ F H l vs→bQ σ F H (AX l) vs
 | [],vs,h=>h
 | a::l,vs,h=>by
  unfold bQ at h
  obtain⟨v,vs',rfl,h1,h2⟩:=h
  simp only[AX,bQ]
  exact⟨v,vs',rfl,yx h1,ow h2⟩
noncomputable def normP:List (Nat × AV)→List (Nat × AV)
 | []=>[]
 | (i,a)::l=>(i,JV a)::normP l
theorem GK:∀ {l:List (Nat × AV)} {vs:List (Nat × Value)},PRel σ F H l vs→PRel σ F H (normP l) vs
 | [],vs,h=>h
 | (i,a)::l,vs,h=>by
  obtain⟨v,vs',rfl,h1,h2⟩:=h
  exact⟨v,vs',rfl,yx h1,GK h2⟩
noncomputable def datK(a:AV)(f:D→Option D):Option D:=match a with
 | .d x=>f x
 | _=>none
theorem my{Qx:D→Prop}{a:AV}{v:Value}{f:D→Option D}(h:VRel σ F H a v)(hk:∀ x,DRel F H x v→OutP Qx (f x)):OutP Qx (datK a f):=by
 cases a with
 | d x=>exact hk x h.un
 | _=>exact Out.no
noncomputable def pickX(c a b:AV)(k:AV→Option D):Option D:=match c with
 | .b true=>k a
 | .b false=>k b
 | .d u=>pickA u (JV a) (JV b) k
 | _=>none
noncomputable def nilA(a:AV)(r:Option D):Option D:=match a with
 | .d (.ref _)=>r
 | .d (.fn _ _ _)=>r
 | .loc _ _=>r
 | .fn _ _ _=>r
 | _=>none
noncomputable def mkFn(f:FuncId)(a b:List AV):AV:=match allD a,allD b with
 | some x,some y=>.d (.fn f x y)
 | _,_=>.fn f a b
noncomputable def mmD(P:Program)(b:Builtin)(ts:List TypeId)(c:Call)(type:TypeId)(ds:List D):Option D:=match Px ds with
 | some vs=>fK P b ts c type vs .nil 0 fun v _ _=>Pw (some v)
 | none=>none
noncomputable def bltR(P:Program)(b:Builtin)(c:Call)(type:TypeId)(aS:List AV)(G:Tr Bx)(k:AV→Option D):Option D:=match b with
 | .len=>match c.argTypes.toList,aS with
  | t::_,[a]=>lenA P t a G k
  | _,_=>none
 | .min=>getK (allD aS) fun ds=>bindO (mmD P .min c.argTypes.toList c type ds) fun d=>k (.d d)
 | .max=>getK (allD aS) fun ds=>bindO (mmD P .max c.argTypes.toList c type ds) fun d=>k (.d d)
 | _=>none
noncomputable def datC:List Value→Option (List D)
 | []=>some []
 | x::l=>match uJ x with
  | true=>match datC l with
   | some r=>some (.v x::r)
   | none=>none
  | false=>none
noncomputable def datV:Value→Option D
 | .agg ⟨l⟩=>match datC l with
  | some r=>some (.agg r)
  | none=>none
 | x=>match uJ x with
  | true=>some (.v x)
  | false=>none
noncomputable def datT:Value→Option D
 | .tuple ⟨[a,b]⟩=>match datV a with
  | some x=>match datV b with
   | some y=>some (.tup [x,y])
   | none=>none
  | none=>none
 | v=>datV v
theorem datC_ok:∀ {l:List Value} {r:List D},datC l=some r→aK F H r l∧r.all bk=true
 | [],r,e=>by cases e; exact⟨by unfold aK; rfl,rfl⟩
 | x::l,r,e=>by
  simp only[datC] at e
  split at e
  ·rename_i hx
   split at e
   ·rename_i r' e'
    cases e
    have ih:=datC_ok e'
    refine⟨by unfold aK; exact⟨x,l,rfl,by unfold DRel; exact⟨rfl,hx⟩,ih.1⟩,?_⟩
    simp only[List.all_cons,Bool.and_eq_true]
    exact⟨rfl,ih.2⟩
   ·cases e
  ·cases e
theorem datV_ok{v:Value}{d:D}(e:datV v=some d):DRel F H d v:=by
 unfold datV at e
 split at e
 ·split at e
  ·rename_i l r hr
   cases e
   have:=datC_ok (F:=F) (H:=H) hr
   unfold DRel
   exact⟨this.2,_,rfl,this.1⟩
  ·cases e
 ·split at e
  ·rename_i hs
   cases e
   unfold DRel
   exact⟨rfl,hs⟩
  ·cases e
theorem datT_ok{v:Value}{d:D}(e:datT v=some d):DRel F H d v:=by
 unfold datT at e
 split at e
 ·split at e
  ·rename_i hx
   split at e
   ·rename_i hy
    cases e
    unfold DRel
    refine⟨_,rfl,?_⟩
    simp only[aK]
    exact⟨_,_,rfl,datV_ok hx,_,_,rfl,datV_ok hy,rfl⟩
   ·cases e
  ·cases e
 ·exact datV_ok e
noncomputable def mapD(x:D):Option (List MapEntry):=match x with
 | .map es _=>some es
 | .v (.map none)=>some []
 | _=>none
noncomputable def mapA(a:AV)(G:Tr Bx):Option (List MapEntry):=match a with
 | .mp s=>match G.get s with
  | some (.map es _ _)=>some es
  | _=>none
 | .d x=>mapD x
 | _=>none
noncomputable def PJ(P:Program)(t:TypeId)(es:List MapEntry)(k:D)(ok:Bool):Option D:=match Dy P t with
 | some (key,elem)=>match valD k with
  | some kv=>match bz kv with
   | true=>match HY P key elem es kv ok with
    | some v=>datT v
    | none=>none
   | false=>none
  | none=>none
 | none=>none
noncomputable def updD(P:Program)(t:TypeId)(es:List MapEntry)(c:Nat)(k v:D):Option (List MapEntry × Nat):=match Dy P t with
 | some (key,_)=>match valD k with
  | some kv=>match valD v with
   | some vv=>match bz kv && bz vv with
    | true=>cz P (updS key es c kv vv)
    | false=>none
   | none=>none
  | none=>none
 | none=>none
theorem mapA_ok{a:AV}{m:Value}{es:List MapEntry}(h:Rs n0 H0 F0 σ F H n G)(hv:VRel σ F H a m)(e:mapA a G=some es):zZ H m=some es:=by
 unfold mapA at e
 split at e
 ·split at e
  ·rename_i s _ es' c fz hg
   cases e
   obtain⟨i,hi,hB⟩:=h.site _ _ hg
   unfold VRel at hv
   obtain⟨j,hj,_,rfl⟩:=hv
   rw[hi] at hj; cases hj
   simp only[zZ,hB.2.2]
  ·cases e
 ·have hv := hv.un
  unfold mapD at e
  split at e
  ·cases e
   unfold DRel at hv
   obtain⟨b,rfl,_,hb⟩:=hv
   simp only[zZ,hb]
  ·cases e
   unfold DRel at hv
   rw[hv.1]; rfl
  ·cases e
 ·cases e
theorem lookD_ok{t:TypeId}{m kv:Value}{es:List MapEntry}{k d:D}{ok:Bool}(hm:zZ H m=some es)(hk:DRel F H k kv)(e:PJ P t es k ok=some d):∃ v,fZ P H t m kv ok=some v∧DRel F H d v:=by
 unfold PJ at e
 split at e
 ·rename_i key elem hty
  split at e
  ·rename_i u hu
   have:=Py hk hu; subst this
   split at e
   ·rename_i hp
    split at e
    ·rename_i v hv
     refine⟨v,?_,datT_ok e⟩
     simp only[fZ,hty,hm,hp,hv]
    ·cases e
   ·cases e
  ·cases e
 ·cases e
noncomputable def updA(P:Program)(t:TypeId)(m:AV)(x v:D)(G:Tr Bx)(k:KO):Option D:=match m with
 | .mp s=>match G.get s with
  | some (.map es c false)=>bindO (updD P t es c x v) fun r=>k (.d (.tup [])) none (G.set s (some (.map r.1 r.2 false)))
  | _=>none
 | _=>none
theorem updA_ok{t:TypeId}{m:AV}{mv xv vv:Value}{x v:D}(h:Rs n0 H0 F0 σ F H n G)(hm:VRel σ F H m mv)(hx:DRel F H x xv)(hv:DRel F H v vv)(hk:KOk n0 H0 F0 σ F H n kc k) :
  Out n0 H0 F0 (bindO (vz P t mv xv vv H) fun H=>kc undef H n) (updA P t m x v G k):=by
 unfold updA
 split
 ·split
  ·rename_i s _ es c hg
   refine Out.bindO fun r hr=>?_
   obtain⟨i,hi,hB⟩:=h.site _ _ hg
   unfold VRel at hm
   obtain⟨j,hj,hnil,rfl⟩:=hm
   rw[hi] at hj; cases hj
   unfold updD at hr
   split at hr
   ·rename_i key el hty
    split at hr
    ·rename_i ku hku
     split at hr
     ·rename_i vu hvu
      split at hr
      ·rename_i hp
       have:=Py hx hku; subst this
       have:=Py hv hvu; subst this
       have e:vz P t (.map (some i.b)) xv vv H=some (H.set i.b (some (.map r.1 r.2))):=by
        simp only[vz,hty,hB.2.2,hp,hr]
       rw[e,aj]
       obtain⟨q1,q2⟩:=h.writeM (H':=H.set i.b (some (.map r.1 r.2))) hi hnil (fun z=>by have:=hB.2.1.1 z; cases this) hB.2.2 (fun b=>Tr.get_set _ _ _ _)
       exact hk _ _ _ _ _ _ _ none q1 tup0 q2
      ·cases hr
     ·cases hr
    ·cases hr
   ·cases hr
  ·exact Out.no
 ·exact Out.no
noncomputable def opR(P:Program)(op:Op)(type:TypeId)(A:Tr AV)(G:Tr Bx)(k:AV→Option D):Option D:=match op with
 | .move x | .assign x=>getK (opdA x A) k
 | .pick c a b=>getK (opdA c A) fun c=>getK (opdA a A) fun a=>getK (opdA b A) fun b=>pickX c a b k
 | .build t parts=>getK (partsA A parts.toList) fun ps=>buildA P t (normP ps) k
 | .load t a=>getK (opdN a A) fun a=>loadA P t a G k
 | .nilCheck x=>getK (opdN x A) fun a=>nilA a (k a)
 | .binOp op t x y _=>getK (opdN x A) fun a=>getK (opdN y A) fun b=>datK a fun u=>datK b fun v=>bindO (binD P op t x y u v) fun d=>k (.d d)
 | .unOp op _ x=>getK (opdN x A) fun a=>datK a fun u=>bindO (semD P u (Op.unary op)) fun d=>k (.d d)
 | .convert s d x=>getK (opdN x A) fun a=>datK a fun u=>bindO (semD P u (convert s d)) fun d=>k (.d d)
 | .makeFunc (.func f) first cap=>getK (DQ A first.toList) fun a=>getK (DQ A cap.toList) fun b=>k (mkFn f (AX a) (AX b))
 | .fieldAddr t x f=>getK (opdN x A) fun a=>Nq P t a f k
 | .field t x f=>getK (opdN x A) fun a=>fieldA P t a f k
 | .indexAddr t x i=>getK (opdN x A) fun a=>getK (opdN i A) fun i=>datK i fun i=>Nv P t a i G k
 | .index t x i=>getK (opdN x A) fun a=>getK (opdN i A) fun i=>datK i fun i=>indexA P t a i k
 | .extract t i=>getK (opdN t A) fun a=>datK a fun u=>bindO (tupD u i) fun d=>k (.d d)
 | .lookup t m x ok=>getK (opdN m A) fun m=>getK (opdN x A) fun x=>datK x fun x=>bindO (mapA m G) fun es=>bindO (PJ P t es x ok) fun d=>k (.d d)
 | .call c=>match c.callee with
  | .builtin b=>getK (DQ A c.args.toList) fun aS=>bltR P b c type (AX aS) G k
  | _=>none
 | _=>none
theorem pickX_ok{c a b:AV}{cv av bv:Value}{kp:Value→Option ρ}(hc:VRel σ F H c cv)(ha:VRel σ F H a av)(hb:VRel σ F H b bv)(hk:PK n0 H0 F0 σ F H kp ka):Out n0 H0 F0 (bindO (fV cv av bv) kp) (pickX c a b ka):=by
 unfold pickX
 split
 ·unfold VRel at hc; rw[hc]; exact hk _ _ ha
 ·unfold VRel at hc; rw[hc]; exact hk _ _ hb
 ·exact pickA_ok hc.un (yx ha) (yx hb) hk
 ·exact Out.no
theorem nilA_ok{a:AV}{v:Value}{kp:Value→Option ρ}(h:VRel σ F H a v)(hk:PK n0 H0 F0 σ F H kp ka):Out n0 H0 F0 (bindO (nilV v) kp) (nilA a (ka a)):=by
 unfold nilA
 split
 ·have h':=h.un; unfold DRel at h'; obtain⟨_,b,o,rfl,_⟩:=h'; exact hk _ _ h
 ·have h':=h.un; unfold DRel at h'; obtain⟨va,vb,rfl,_⟩:=h'; exact hk _ _ h
 ·have h':=h; unfold VRel at h'; obtain⟨i,_,_,rfl⟩:=h'; exact hk _ _ h
 ·have h':=h; unfold VRel at h'; obtain⟨va,vb,rfl,_⟩:=h'; exact hk _ _ h
 ·exact Out.no
theorem mkFn_ok{f:FuncId}{a b:List AV}{va vb:List Value}(ha:bQ σ F H a va)(hb:bQ σ F H b vb):VRel σ F H (mkFn f a b) (.func (.func f) ⟨va⟩ ⟨vb⟩):=by
 unfold mkFn
 split
 ·rename_i x y hx hy
  refine .dat ?_
  unfold DRel
  exact⟨va,vb,rfl,(ha.to_D hx).1,(hb.to_D hy).1⟩
 ·unfold VRel; exact⟨va,vb,rfl,ha,hb⟩
theorem bX{α ρ:Type}{a:α}{f:α→Option ρ}:getK (some a) f=f a:=rfl
theorem mm_K{b:Builtin}{ts:List TypeId}{c:Call}{type:TypeId}{vs:List Value}{d:D}(hb:b=.min∨b=.max)(e:fK P b ts c type vs .nil 0 (fun v _ _=>Pw (some v))=some d) :
  ∃ v,d=.v v∧uJ v=true∧∀ {ρ:Type} (k:Value→Hp→Nat→Option ρ) H n,fK P b ts c type vs H n k=k v H n:=by
 rcases hb with rfl | rfl
 all_goals
  unfold fK at e
  simp only at e
  split at e
  ·rename_i hp
   split at e
   ·rename_i u hu
    split at e
    ·rename_i hq
     obtain⟨v,h1,h2,h3⟩:=qik e
     cases h1
     refine⟨u,h2,h3,fun k H n=>?_⟩
     unfold fK
     simp only[hp]
     erw [hu]
     simp only[hq]
    ·cases e
   ·cases e
  ·cases e
theorem allD_rel{l:List AV}{vs:List Value}{ds:List D}(h:bQ σ F H l vs)(e:allD l=some ds):aK F H ds vs:=(h.to_D e).1
theorem bltR_ok{b:Builtin}{c:Call}{type:TypeId}{aS:List AV}{vs:List Value}(h:Rs n0 H0 F0 σ F H n G)(ha:bQ σ F H aS vs)(hk:PK n0 H0 F0 σ F H (fun v=>kc v H n) ka) :
  Out n0 H0 F0 (fK P b c.argTypes.toList c type vs H n kc) (bltR P b c type aS G ka):=by
 have mm:(b=.min∨b=.max)→Out n0 H0 F0 (fK P b c.argTypes.toList c type vs H n kc) (getK (allD aS) fun ds=>bindO (mmD P b c.argTypes.toList c type ds) fun d=>ka (.d d)):=by
  intro hb
  refine Out.getK fun ds hds=>Out.bindO fun d hd=>?_
  have hr:=allD_rel ha hds
  unfold mmD at hd
  split at hd
  ·rename_i us hus
   have:=qij hr hus
   subst this
   obtain⟨v,rfl,h2,h3⟩:=mm_K hb hd
   rw[h3 kc H n]
   exact hk _ _ (.dat (.scal h2))
  ·cases hd
 unfold bltR
 split
 ·split
  ·rename_i t _ a hts
   unfold bQ at ha
   obtain⟨v,vs',rfl,h1,h2⟩:=ha
   unfold bQ at h2
   subst h2
   have:fK P .len c.argTypes.toList c type [v] H n kc=bindO (lenV P t v) fun v=>kc v H n:=by unfold fK; simp only[hts]
   rw[this]
   exact lenA_ok h h1 hk
  ·exact Out.no
 ·exact mm (.inl rfl)
 ·exact mm (.inr rfl)
 ·exact Out.no
theorem semD_ok{u d:D}{v:Value}{m:Value→Sem Value}(h:DRel F H u v)(e:semD P u m=some d):∃ w,dk P v (m v)=some w∧d=.v w∧uJ w=true:=by
 cases u with
 | v x=>
  unfold DRel at h
  obtain⟨w,h1,h2,h3⟩:=qik e
  exact⟨w,by rw[h.1]; exact h1,h2,h3⟩
 | _=>cases e
theorem opR_ok{op:Op}{type:TypeId}(h:Rs n0 H0 F0 σ F H n G)(ht:TRl σ F H T A)(hk:PK n0 H0 F0 σ F H (fun v=>kc v H n) ka):Out n0 H0 F0 (opE P cal op type T H n kc) (opR P op type A G ka):=by
 cases op with
 | move x=>refine Out.getK fun a ha=>?_; obtain⟨v,h1,h2⟩:=oz ht ha; simp only[opE,h1,bX]; exact hk _ _ h2
 | assign x=>refine Out.getK fun a ha=>?_; obtain⟨v,h1,h2⟩:=oz ht ha; simp only[opE,h1,bX]; exact hk _ _ h2
 | pick c a b=>
  refine Out.getK fun c hc=>Out.getK fun a ha=>Out.getK fun b hb=>?_
  obtain⟨cv,c1,c2⟩:=oz ht hc
  obtain⟨av,a1,a2⟩:=oz ht ha
  obtain⟨bv,b1,b2⟩:=oz ht hb
  simp only[opE,c1,a1,b1,bX]
  exact pickX_ok c2 a2 b2 hk
 | build t parts=>
  refine Out.getK fun ps hps=>?_
  obtain⟨vs,v1,v2⟩:=IQ ht hps
  simp only[opE,v1,bX]
  exact buildA_ok (GK v2) hk
 | load t a=>
  refine Out.getK fun a ha=>?_
  obtain⟨v,h1,h2⟩:=dJ ht ha
  simp only[opE,h1,bX]
  exact loadA_ok h h2 hk
 | nilCheck x=>
  refine Out.getK fun a ha=>?_
  obtain⟨v,h1,h2⟩:=dJ ht ha
  simp only[opE,h1,bX]
  exact nilA_ok h2 hk
 | binOp op t x y _=>
  refine Out.getK fun a ha=>Out.getK fun b hb=>?_
  obtain⟨u,u1,u2⟩:=dJ ht ha
  obtain⟨v,v1,v2⟩:=dJ ht hb
  refine my u2 fun du hu=>my v2 fun dv hv=>Out.bindO fun d hd=>?_
  simp only[opE,u1,v1,bX]
  unfold binD at hd
  split at hd
  ·rename_i u' hu'
   split at hd
   ·rename_i v' hv'
    have e1:=Py hu hu'; subst e1
    have e2:=Py hv hv'; subst e2
    obtain⟨w,w1,rfl,w3⟩:=qik hd
    rw[binK_some w1]
    exact hk _ _ (.dat (.scal w3))
   ·cases hd
  ·cases hd
 | unOp op _ x=>
  refine Out.getK fun a ha=>?_
  obtain⟨v,v1,v2⟩:=dJ ht ha
  refine my v2 fun u hu=>Out.bindO fun d hd=>?_
  obtain⟨w,w1,rfl,w3⟩:=semD_ok hu hd
  simp only[opE,v1,bX,w1,aj]
  exact hk _ _ (.dat (.scal w3))
 | convert s d x=>
  refine Out.getK fun a ha=>?_
  obtain⟨v,v1,v2⟩:=dJ ht ha
  refine my v2 fun u hu=>Out.bindO fun d hd=>?_
  obtain⟨w,w1,rfl,w3⟩:=semD_ok hu hd
  simp only[opE,v1,bX,w1,aj]
  exact hk _ _ (.dat (.scal w3))
 | makeFunc fn first cap=>
  cases fn with
  | func f=>
   refine Out.getK fun a ha=>Out.getK fun b hb=>?_
   obtain⟨va,a1,a2⟩:=ov ht ha
   obtain⟨vb,b1,b2⟩:=ov ht hb
   simp only[opE,a1,b1,bX]
   exact hk _ _ (mkFn_ok (ow a2) (ow b2))
  | _=>exact Out.no
 | fieldAddr t x f=>
  refine Out.getK fun a ha=>?_
  obtain⟨v,v1,v2⟩:=dJ ht ha
  simp only[opE,v1,bX]
  exact fieldAddrA_ok v2 hk
 | field t x f=>
  refine Out.getK fun a ha=>?_
  obtain⟨v,v1,v2⟩:=dJ ht ha
  simp only[opE,v1,bX]
  exact fieldA_ok v2 hk
 | indexAddr t x i=>
  refine Out.getK fun a ha=>Out.getK fun b hb=>?_
  obtain⟨u,u1,u2⟩:=dJ ht ha
  obtain⟨v,v1,v2⟩:=dJ ht hb
  refine my v2 fun dv hv=>?_
  simp only[opE,u1,v1,bX]
  exact indexAddrA_ok h u2 hv hk
 | index t x i=>
  refine Out.getK fun a ha=>Out.getK fun b hb=>?_
  obtain⟨u,u1,u2⟩:=dJ ht ha
  obtain⟨v,v1,v2⟩:=dJ ht hb
  refine my v2 fun dv hv=>?_
  simp only[opE,u1,v1,bX]
  exact indexA_ok u2 hv hk
 | extract t i=>
  refine Out.getK fun a ha=>?_
  obtain⟨v,v1,v2⟩:=dJ ht ha
  refine my v2 fun u hu=>Out.bindO fun d hd=>?_
  simp only[opE,v1,bX]
  cases u with
  | tup l=>
   unfold DRel at hu
   obtain⟨vs,rfl,h1⟩:=hu
   obtain⟨w,w1,w2⟩:=h1.get hd
   have:tupV (.tuple ⟨vs⟩) i=some w:=w1
   rw[this]
   exact hk _ _ (.dat w2)
  | _=>cases hd
 | lookup t m x ok=>
  refine Out.getK fun a ha=>Out.getK fun b hb=>?_
  obtain⟨u,u1,u2⟩:=dJ ht ha
  obtain⟨v,v1,v2⟩:=dJ ht hb
  refine my v2 fun dv hv=>Out.bindO fun es hes=>Out.bindO fun d hd=>?_
  obtain⟨w,w1,w2⟩:=lookD_ok (mapA_ok h u2 hes) hv hd
  simp only[opE,u1,v1,bX,w1,aj]
  exact hk _ _ (.dat w2)
 | call c=>
  simp only[opR]
  split
  ·rename_i b hb
   refine Out.getK fun aS has=>?_
   obtain⟨vs,v1,v2⟩:=ov ht has
   simp only[opE,GV,hb,v1,bX]
   exact bltR_ok h (ow v2) hk
  ·exact Out.no
 | _=>exact Out.no
noncomputable def thaw(P:Program):Operand→Bool
 | .func g=>ux P g
 | _=>false
noncomputable def putC(c:List D)(o:Nat)(l:List D):List D:=c.take o++l++c.drop (o+l.length)
noncomputable def copyA(P:Program)(t:TypeId)(x y:AV)(G:Tr Bx)(k:KO):Option D:=match rowT P t with
 | some (none,_,1)=>match x with
  | .asl s o m _=>match G.get s with
   | some (.dat c false)=>match y with
    | .d u=>bindO (elsD u) fun l=>chkK (l.all bk && Nat.blt 0 l.length && Nat.ble (o+m) c.length) (k (.d (.v (goInt (Nat.min l.length m)))) none (G.set s (some (.dat (putC c o (l.take (Nat.min l.length m))) false))))
    | _=>none
   | _=>none
  | _=>none
 | _=>none
theorem all_take{p:D→Bool}{l:List D}(k:Nat)(h:l.all p=true):(l.take k).all p=true:=by
 rw[List.all_eq_true] at h ⊢
 exact fun x hx=>h x (List.mem_of_mem_take hx)
theorem copyA_ok{t:TypeId}{x y:AV}{xv yv:Value}(h:Rs n0 H0 F0 σ F H n G)(hx:VRel σ F H x xv)(hy:VRel σ F H y yv)(hk:KOk n0 H0 F0 σ F H n kc k) :
  Out n0 H0 F0 (stK (Jv P (bare H n) t xv yv) kc) (copyA P t x y G k):=by
 unfold copyA
 split
 ·rename_i e ht
  obtain⟨hu,hs⟩:=UZ ht
  split
  ·rename_i s o m cap
   split
   ·rename_i c hg
    split
    ·rename_i u
     refine Out.bindO fun l hl=>Out.chk fun hc=>?_
     simp only[Bool.and_eq_true] at hc
     have q1:=hc.1.1
     have q2:0<l.length:=by simpa using hc.1.2
     have q3:=Nat.le_of_ble_eq_true hc.2
     unfold VRel at hx
     obtain⟨i,hi,hnil,hmc,hcap,rfl⟩:=hx
     obtain⟨j,hj,hB⟩:=h.site _ _ hg
     rw[hi] at hj; cases hj
     obtain⟨b1,b2,b3,cs,el,vec,b4,b5⟩:=hB
     have hne:l≠[]:=by intro z; rw[z] at q2; simp at q2
     rcases IW hy.un hl with⟨_,rfl⟩ | ⟨b,o',cap',s',rfl,g1,g2,g3⟩ | ⟨rfl,_⟩
     ·exact absurd rfl hne
     ·obtain ⟨_, g4⟩ := g3.resolve_left hne
      have hss:s'=1:=by
       cases l with
       | nil=>exact absurd rfl hne
       | cons d l=>
        unfold DAt at g4
        obtain⟨⟨q0,v,w1,w2,_⟩,_⟩:=g4
        simp only[List.all_cons,Bool.and_eq_true] at q1
        rw[← w2,(w1.leaf q1.1).2.2.2]; rfl
      subst hss
      obtain⟨vs,f1,f2⟩:=g4.flat q1 hne
      have hlen:=f1.length
      have hcs:=b5.length
      have hno:=f1.leafs q1
      have e1:loadN H ⟨b,o',none⟩ (Nat.min l.length m * 1)=some (vs.take (Nat.min l.length m)):=by
       have:=loadN_at (k:=0) (s:=Nat.min l.length m) f2 (by rw[hlen,Nat.zero_add]; exact Nat.min_le_left _ _) hno.2
       simpa using this
      have hml:(vs.take (Nat.min l.length m)).length=Nat.min l.length m:=by
       rw[List.length_take,hlen]; exact Nat.min_eq_left (Nat.min_le_left _ _)
      have hmm:Nat.min l.length m≤m:=Nat.min_le_right _ _
      have hlf:(vs.take (Nat.min l.length m)).all oQ=true:=by
       have:=hno.1
       rw[List.all_eq_true] at this ⊢
       exact fun x hx=>this x (List.mem_of_mem_take hx)
      have e2:=AQ (o:=o) (vs:=vs.take (Nat.min l.length m)) b4 hlf (by rw[hml,hcs]; omega)
      have e3:Jv P (bare H n) t (.slice (some ⟨i.b,o,none⟩) m cap) (.slice (some ⟨b,o',none⟩) l.length cap')=some (goInt (Nat.min l.length m),{ (bare H n) with H:=H.set i.b (some (.cells (cs.take o++vs.take (Nat.min l.length m)++cs.drop (o+(vs.take (Nat.min l.length m)).length)) el false vec)) }):=by
       have hne2:Nat.beq cap capE=false:=by
        cases hq:Nat.beq cap capE with
        | false=>rfl
        | true=>have:=Nat.eq_of_beq_eq_true hq; unfold capE at this; unfold capV at hcap; omega
       unfold Jv
       simp only[dY,hu,hs,bare,e1,e2,hne2]
      rw[e3]
      have hF:¬ F i.b:=fun z=>by have:=b2.1 z; cases this
      obtain⟨r1,r2⟩:=h.write (H':=H.set i.b (some (.cells (cs.take o++vs.take (Nat.min l.length m)++cs.drop (o+(vs.take (Nat.min l.length m)).length)) el false vec))) (B':=.dat (putC c o (l.take (Nat.min l.length m))) false)
       hi hnil hF ⟨_,_,_,_,rfl⟩ (fun b=>Tr.get_set _ _ _ _) (fun hfz=>by
        refine⟨hnil,⟨fun z=>absurd z hF,fun z=>by cases z⟩,?_,_,_,_,by rw[Tr.get_set,if_pos rfl],?_⟩
        ·unfold putC
         rw[List.all_append,List.all_append,all_take _ b3,all_take _ q1]
         rw[List.all_eq_true] at b3
         simp only[Bool.true_and]
         rw[List.all_eq_true]
         exact fun x hx=>b3 x (List.mem_of_mem_drop hx)
        ·unfold putC
         have hl2:(l.take (Nat.min l.length m)).length=(vs.take (Nat.min l.length m)).length:=by simp [hlen]
         rw[hl2]
         exact(((b5.take o).append (f1.take _)).append (b5.drop _)).mono (fun _ z=>z) hfz)
      simp only[stK,aj,bare]
      exact hk _ _ _ _ _ _ _ none r1 (.dat (.scal rfl)) r2
     ·exact absurd rfl hne
    ·exact Out.no
   ·exact Out.no
  ·exact Out.no
 ·exact Out.no
noncomputable def opA(P:Program)(pc:FuncId→List D→Option D)(ck:Tr Bx→Bool)(op:Op)(type:TypeId)(dst:Option Tmp)(A:Tr AV)(G:Tr Bx)(k:KO):Option D:=match op with
 | .alloc e=>allocA P e dst G k
 | .box e x=>getK (opdN x A) fun a=>boxA P e a dst G k
 | .buildSlice t len parts=>getK (partsA A parts.toList) fun ps=>rowA P t len (normP ps) dst G k
 | .makeSlice t l c=>getK (opdN l A) fun l=>getK (opdN c A) fun c=>datK l fun l=>datK c fun c=>makeA P t l c dst G k
 | .store t a x=>getK (opdN a A) fun a=>getK (opdN x A) fun x=>storeA P t a x G k
 | .makeMap _ none=>DV dst G fun s=>k (.mp s) none (G.set s (some (.map [] 0 false)))
 | .mapUpdate t m x v=>getK (opdN m A) fun m=>getK (opdN x A) fun x=>getK (opdN v A) fun v=>datK x fun x=>datK v fun v=>updA P t m x v G k
 | .slice t x lo hi none=>getK (opdN x A) fun a=>getK (opdO2 lo A) fun lo=>getK (opdO2 hi A) fun hi=>sliceA P t a lo hi G k
 | .call c=>match c.callee with
  | .value f=>getK (opdA f A) fun fa=>getK (DQ A c.args.toList) fun aS=>callA P pc ck (thaw P f) fa (AX aS) G k
  | .builtin .append=>match c.argTypes.toList with
   | [t,t2]=>getK (DQ A c.args.toList) fun aS=>match AX aS with
    | [x,y]=>match keepC c with
     | true=>none
     | false=>IX P t t2 x y dst G k
    | _=>none
   | _=>none
  | .builtin .copy=>match c.argTypes.toList with
   | t::_=>getK (DQ A c.args.toList) fun aS=>match AX aS with
    | [x,y]=>copyA P t x y G k
    | _=>none
   | _=>none
  | _=>opR P op type A G fun a=>k a none G
 | op=>opR P op type A G fun a=>k a none G
theorem newMap_ok{dst:Option Tmp}(h:Rs n0 H0 F0 σ F H n G)(hk:KOkN dst n0 H0 F0 σ F H n kc k):Out n0 H0 F0 (newMapK H n kc) (DV dst G fun s=>k (.mp s) none (G.set s (some (.map [] 0 false)))):=by
 refine yw fun s hd hs=>?_
 have:=h.new hs (i':=⟨n,0,0,0,false,.nil⟩) (B':=.map [] 0 false) (x:=some (.map [] 0)) (fun _=>rfl) (fun hfz=>
  ⟨rfl,⟨fun z=>absurd (h.lt z) (by simp),fun z=>by cases z⟩,by rw[Tr.get_set,if_pos rfl]⟩)
 exact hk _ _ _ _ _ _ _ none this.1 (by unfold VRel; exact⟨_,eV,rfl,rfl⟩) this.2 ⟨s,_,hd,eV,rfl,rfl,Nat.lt_succ_self _⟩
theorem thaw_ok{f:Operand}{fa:AV}(hf:opdA f A=some fa)(h:thaw P f=true):∃ g,fa=.d (.fn g [] [])∧ux P g=true:=by
 cases f with
 | func g=>cases hf; exact⟨g,rfl,h⟩
 | _=>cases h
theorem opA_ok{ck:Tr Bx→Bool}{op:Op}{type:TypeId}{dst:Option Tmp}(hpc:∀ f,lk (flO P f) (cal.call f) (pc f))(h:Rs n0 H0 F0 σ F H n G)(ht:TRl σ F H T A)(hk:KOk n0 H0 F0 σ F H n kc k) :
  Out n0 H0 F0 (opE P cal op type T H n kc) (opA P pc ck op type dst A G k):=by
 have reads:∀ op,Out n0 H0 F0 (opE P cal op type T H n kc) (opR P op type A G fun a=>k a none G):=fun op=>opR_ok h ht (hk.pk h)
 cases op with
 | alloc e=>simp only[opE,opA]; exact allocA_ok h hk.toN
 | box e x=>
  refine Out.getK fun a ha=>?_
  obtain⟨v,v1,v2⟩:=dJ ht ha
  simp only[opE,v1,bX]
  exact boxA_ok h v2 hk.toN
 | buildSlice t len parts=>
  refine Out.getK fun ps hps=>?_
  obtain⟨vs,v1,v2⟩:=IQ ht hps
  simp only[opE,v1,bX]
  exact rowA_ok h (GK v2) hk.toN
 | makeSlice t l c=>
  refine Out.getK fun a ha=>Out.getK fun b hb=>?_
  obtain⟨u,u1,u2⟩:=dJ ht ha
  obtain⟨v,v1,v2⟩:=dJ ht hb
  refine my u2 fun du hu=>my v2 fun dv hv=>?_
  simp only[opE,u1,v1,bX]
  exact qjw h hu hv hk.toN
 | store t a x=>
  refine Out.getK fun a ha=>Out.getK fun b hb=>?_
  obtain⟨u,u1,u2⟩:=dJ ht ha
  obtain⟨v,v1,v2⟩:=dJ ht hb
  simp only[opE,u1,v1,bX]
  exact storeA_ok h u2 v2 hk
 | makeMap t r=>
  cases r with
  | some _=>exact reads _
  | none=>simp only[opE,opA]; exact newMap_ok h hk.toN
 | mapUpdate t m x v=>
  refine Out.getK fun a ha=>Out.getK fun b hb=>Out.getK fun c hc=>?_
  obtain⟨u,u1,u2⟩:=dJ ht ha
  obtain⟨w,w1,w2⟩:=dJ ht hb
  obtain⟨y,y1,y2⟩:=dJ ht hc
  refine my w2 fun dw hw=>my y2 fun dy hy=>?_
  simp only[opE,u1,w1,y1,bX]
  exact updA_ok h u2 hw hy hk
 | slice t x lo hi mx=>
  cases mx with
  | some _=>exact reads _
  | none=>
   refine Out.getK fun a ha=>Out.getK fun lo' hlo=>Out.getK fun hi' hhi=>?_
   obtain⟨v,v1,v2⟩:=dJ ht ha
   obtain⟨l,l1,l2⟩:=Pk ht hlo
   obtain⟨u,u1,u2⟩:=Pk ht hhi
   simp only[opE,v1,l1,u1,bX]
   exact sliceA_ok (kp:=fun v=>kc v H n) h v2 l2 u2 fun F' G' v a q1 q2 q3=>hk σ F' H n G' v a none q1 q3 (Nx.frz q2)
 | call c=>
  simp only[opA]
  split
  ·rename_i f hf
   refine Out.getK fun fa hfa=>Out.getK fun aS has=>?_
   obtain⟨fv,f1,f2⟩:=oz ht hfa
   obtain⟨vs,v1,v2⟩:=ov ht has
   intro x e
   obtain⟨F1,G1,F2,G2,d,r1,r2,_,r3,r4,r5,r6,r7⟩:=callA_run (P:=P) (cal:=cal) hpc h f2 (ow v2) (thaw_ok hfa) e
   obtain⟨v,H',n',F',g1,g2,g3,g4,g5,g6⟩:=r7 H Fz.refl
   simp only[opE,GV,hf,f1,v1,bX,g1]
   obtain⟨F3,q1,q2,q3⟩:=call_next r3 r4 r5 g2 g3 g4 g5 g6
   exact hk _ _ _ _ _ _ _ none q1 q2 q3 x r6
  ·rename_i hb
   split
   ·rename_i t t2 hts
    refine Out.getK fun aS has=>?_
    obtain⟨vs,v1,v2⟩:=ov ht has
    have v2:=ow v2
    split
    ·rename_i x y hxy
     rw[hxy] at v2
     unfold bQ at v2
     obtain⟨xv,vs',rfl,x1,x2⟩:=v2
     unfold bQ at x2
     obtain⟨yv,vs'',rfl,y1,y2⟩:=x2
     unfold bQ at y2
     subst y2
     simp only[opE,GV,hb,v1,bX]
     cases hkc:keepC c with
     | true=>exact Out.no
     | false=>
      have:fK P .append c.argTypes.toList c type [xv,yv] H n kc=stK (cZ P (bare H n) t t2 xv yv) kc:=by unfold fK; simp only[hts,hkc]; rfl
      rw[this]
      exact appendA_ok h x1 y1 hk
    ·exact Out.no
   ·exact Out.no
  ·rename_i hb
   split
   ·rename_i t ts hts
    refine Out.getK fun aS has=>?_
    obtain⟨vs,v1,v2⟩:=ov ht has
    have v2:=ow v2
    split
    ·rename_i x y hxy
     rw[hxy] at v2
     unfold bQ at v2
     obtain⟨xv,vs',rfl,x1,x2⟩:=v2
     unfold bQ at x2
     obtain⟨yv,vs'',rfl,y1,y2⟩:=x2
     unfold bQ at y2
     subst y2
     simp only[opE,GV,hb,v1,bX]
     have:fK P .copy c.argTypes.toList c type [xv,yv] H n kc=stK (Jv P (bare H n) t xv yv) kc:=by unfold fK; simp only[hts]
     rw[this]
     exact copyA_ok h x1 y1 hk
    ·exact Out.no
   ·exact Out.no
  ·exact reads _
 | _=>exact reads _
noncomputable def ownO(P:Program)(op:Op):Option (FuncId × TypeId × Nat × List Operand):=match op with
 | .call c=>match c.callee with
  | .value (.func g)=>match ownF g with
   | some r=>match ux P g with
    | false=>some (g,r.1,r.2,c.args.toList)
    | true=>none
   | none=>none
  | _=>none
 | _=>none
noncomputable def ownA(P:Program)(pc:FuncId→List D→Option D)(g:FuncId)(e:TypeId)(sz:Nat)(xs:List Operand)(dst:Option Tmp)(A:Tr AV)(G:Tr Bx)(k:KO):Option D:=
 getK (DQ A xs) fun aS=>getK (fzL (fzV 9) (AX aS) G) fun r=>bindO (pcD P pc g r.1) fun d=>DV dst r.2 fun s=>bindO (elsD d) fun l=>k (.osl s) none (r.2.set s (some (.vec l e sz false)))
theorem ownO_some{op:Op}{g:FuncId}{e:TypeId}{sz:Nat}{xs:List Operand}(h:ownO P op=some (g,e,sz,xs)):∃ c,op=.call c∧c.callee=.value (.func g)∧ownF g=some (e,sz)∧ux P g=false∧xs=c.args.toList:=by
 unfold ownO at h
 split at h
 ·rename_i c
  split at h
  ·rename_i g' hc
   split at h
   ·rename_i r hr
    split at h
    ·rename_i hf
     cases h
     exact⟨c,rfl,hc,hr,hf,rfl⟩
    ·cases h
   ·cases h
  ·cases h
 ·cases h
theorem ownA_ok{c:Call}{g:FuncId}{e:TypeId}{sz:Nat}{type:TypeId}{dst:Option Tmp}(hpc:∀ f,lk (flO P f) (cal.call f) (pc f))(h:Rs n0 H0 F0 σ F H n G)(ht:TRl σ F H T A)(hc:c.callee=.value (.func g))(hg:ownF g=some (e,sz))(hfl:ux P g=false)
  (hk:KOk n0 H0 F0 σ F H n kc k):Out n0 H0 F0 (opE P cal (.call c) type T H n kc) (ownA P pc g e sz c.args.toList dst A G k):=by
 unfold ownA
 refine Out.getK fun aS has=>Out.getK fun r hr=>?_
 obtain⟨vs,v1,v2⟩:=ov ht has
 obtain⟨⟨⟨F1,r1,r2,r3⟩,_⟩,_⟩:=zQ (fun a F G d G' v h hv e=>yq 9 a F G d G' v h hv e) (AX aS) F G r.1 r.2 vs h (ow v2) hr
 intro x ex
 cases hp:pcD P pc g r.1 with
 | none=>rw[hp] at ex; cases ex
 | some d=>
  rw[hp] at ex
  have hp':pc g r.1=some d:=by
   unfold pcD at hp
   cases hq:pc g r.1 with
   | none=>rw[hq] at hp; cases hp
   | some d'=>rw[hq,hfl] at hp; exact hp
  obtain⟨v,H',n',F',i,els,e1,rfl,g2,g3,g4,g5,g6,g7,g8⟩:=(hpc g r.1 d F1 H n vs hp' (fun z=>by have z:ux P g=true:=z; rw[hfl] at z; cases z) (fun b hb=>r1.lt hb) r3).2 e sz hg
  obtain⟨q1,q2⟩:=r1.call g2 g3 g4 g5
  have run:opE P cal (.call c) type T H n kc=kc v H' n':=by
   have e0:opd (.func g) T=some (.func (.func g) ⟨[]⟩ ⟨[]⟩):=by cases T <;> rfl
   simp only[opE,GV,hc,e0,v1,bX]
   show aZ P cal g ([]++vs++[]) H n kc=_
   unfold aZ
   rw[List.nil_append,List.append_nil,hfl,e1]
   rfl
  rw[run]
  revert x
  show Out n0 H0 F0 (kc v H' n') (DV dst r.2 fun s=>bindO (elsD (.sl els)) fun l=>k (.osl s) none (r.2.set s (some (.vec l e sz false))))
  refine yw fun s hs hgs=>?_
  have hnone:=q1.none_of hgs
  have ad:=q1.adopt hgs (i:=i) (B:=.vec els e sz false) (fun z=>by have:=h.le; have:=g8 z; omega) (fun z y=>by have:=r1.keep.2 _ y; have:=g8 z; omega) (fun s' j hj z y w=>by have:=r1.own s' j hj y; have:=g8 z; omega)
   g7 (fun l z=>by cases z)
  have hσ:∀ t j,σ t=some j→upd σ s i t=some j:=fun t j hx=>by rw[fw (fun z=>by subst z; rw[hnone] at hx; cases hx)]; exact hx
  refine hk _ _ _ _ _ _ _ none ad (by unfold VRel; exact⟨i,eV,g6⟩) (((Nx.frz r2).then q2).then ⟨Nat.le_refl _,fun _ z=>z,fun T A ht=>ht.mono hσ (fun _ z=>z) Fz.refl,kp0 ⟨fun _ _ z=>z,fun t j hx=>⟨j,hσ t j hx,rfl,rfl⟩⟩⟩)
end Go.Ev
end
section
namespace Go.Ev
open Go
variable {σ σ':Nat→Option Si} {F F' F0:Nat→Prop} {H H':Hp} {ρ:Type} {H0:KI ρ} {n n' n0:Nat} {G G':Tr Bx} {T:Tm} {A A':Tr AV} {P:Program}
 {cal:Cal} {pc:FuncId→List D→Option D} {ops:List Oper} {N:Nat}
noncomputable def putA(A:Tr AV)(dst:Option Tmp)(a:AV):Tr AV:=match dst with
 | some d=>A.set d (some a)
 | none=>A
theorem TRl.put(ht:TRl σ F H T A){dst:Option Tmp}{a:AV}{v:Value}(hv:VRel σ F H a v):TRl σ F H (putT T dst v) (putA A dst a):=by
 cases dst with
 | none=>exact ht
 | some d=>
  intro t b e
  simp only[putA,putT,Tr.get_set] at e ⊢
  by_cases q:t=d
  ·rw[if_pos q] at e ⊢; cases e; exact⟨v,rfl,hv⟩
  ·rw[if_neg q] at e ⊢; exact ht t b e
noncomputable def PQ(ops:List Oper)(j:Nat):Option Tmp:=match ops[j]? with
 | some oj=>oj.dst
 | none=>none
noncomputable def ifU(u:D)(p q:Option D):Option D:=match u with
 | .v (.bool true)=>p
 | .v (.bool false)=>q
 | _=>none
noncomputable def guardA(t:Tmp)(want:Bool)(A:Tr AV)(on off:Tr AV→Option D):Option D:=getK (A.get t) fun x=>match x with
 | .und=>off A
 | .b c=>selW (c == want) on off A
 | .d u=>ifU u (selW (true == want) on off (A.set t (some (.b true)))) (selW (false == want) on off (A.set t (some (.b false))))
 | _=>none
theorem guardA_ok{t:Tmp}{want:Bool}{on off:Tr AV→Option D}{r:Option ρ}(ht:TRl σ F H T A)
  (hon:∀ A,TRl σ F H T A→T.get t=some (.bool want)→Out n0 H0 F0 r (on A)) (hoff:∀ A,TRl σ F H T A→(T.get t=some (.bool (!want))∨T.get t=some undef)→Out n0 H0 F0 r (off A)):Out n0 H0 F0 r (guardA t want A on off):=by
 have sel:∀ {c:Bool} {A:Tr AV},TRl σ F H T A→T.get t=some (.bool c)→Out n0 H0 F0 r (selW (c == want) on off A):=by
  intro c A hA hc
  cases c <;> cases want
  ·exact hon A hA hc
  ·exact hoff A hA (.inl hc)
  ·exact hoff A hA (.inl hc)
  ·exact hon A hA hc
 unfold guardA
 refine Out.getK fun x hx=>?_
 obtain⟨v,h1,h2⟩:=ht t x hx
 split
 ·unfold VRel at h2; subst h2; exact hoff A ht (.inr h1)
 ·unfold VRel at h2; subst h2; exact sel ht h1
 ·rename_i u
  have h2:=h2.un
  unfold ifU
  split
  ·unfold DRel at h2; rw [h2.1] at h1
   exact sel (ht.set h1 (by unfold VRel; rfl)) h1
  ·unfold DRel at h2; rw [h2.1] at h1
   exact sel (ht.set h1 (by unfold VRel; rfl)) h1
  ·exact Out.no
 ·exact Out.no
noncomputable def yldO(op:Op)(A:Tr AV):Option (Nat × List AV):=match op with
 | .call c=>match c.callee with
  | .value f=>match opdA f A with
   | some (.d (.yld l))=>match DQ A c.args.toList with
    | some aS=>some (l,AX aS)
    | none=>none
   | _=>none
  | _=>none
 | _=>none
structure YK where
 on:Bool
 f:Nat→List D→Option D→Option D→Option D
noncomputable def noY:YK:=⟨false,fun _ _ _ _=>none⟩
noncomputable def boolT(P:Program)(t:TypeId):Bool:=match P.underlying t with
 | some .bool=>true
 | _=>false
noncomputable def yldB(P:Program)(yk:YK)(op:Op)(type:TypeId)(A:Tr AV):Option (Nat × List AV):=match yk.on with
 | false=>none
 | true=>match boolT P type with
  | false=>none
  | true=>yldO op A
theorem yldB_some{P:Program}{yk:YK}{op:Op}{type:TypeId}{A:Tr AV}{y:Nat × List AV}(h:yldB P yk op type A=some y):yldO op A=some y:=by
 unfold yldB at h
 split at h
 ·cases h
 ·split at h
  ·cases h
  ·exact h
noncomputable def yldA(yk:YK)(y:Nat × List AV)(G:Tr Bx)(k:AV→Tr Bx→Option D):Option D:=getK (fzL (fzV 9) y.2 G) fun r=>yk.f y.1 r.1 (k (.b true) r.2) (k (.b false) r.2)
noncomputable def stepA(P:Program)(pc:FuncId→List D→Option D)(yk:YK)(ck:Tr Bx→Bool)(op:Op)(type:TypeId)(dst:Option Tmp)(A:Tr AV)(G:Tr Bx)(k:KO)(ky:AV→Tr Bx→Option D):Option D:=match yldB P yk op type A with
 | none=>opA P pc ck op type dst A G k
 | some y=>yldA yk y G ky
noncomputable def stepO(P:Program)(pc:FuncId→List D→Option D)(yk:YK)(ck:Tr Bx→Bool)(op:Op)(type:TypeId)(dst:Option Tmp)(A:Tr AV)(G:Tr Bx)(k:KO)(ky:AV→Tr Bx→Option D):Option D:=match yldB P yk op type A with
 | none=>match ownO P op with
  | none=>opA P pc ck op type dst A G k
  | some x=>ownA P pc x.1 x.2.1 x.2.2.1 x.2.2.2 dst A G k
 | some y=>yldA yk y G ky
noncomputable def opsA(P:Program)(pc:FuncId→List D→Option D)(yk:YK)(N:Nat)(ops:List Oper):List Oper→Tr AV→Tr Bx→(Tr AV→Tr Bx→Option D)→Option D
 | [],A,G,k=>k A G
 | o::l,A,G,k=>match inN N o.dst with
  | false=>none
  | true=>match o.guard with
   | none=>stepO P pc yk (fun _=>true) o.op o.type o.dst A G (fun v q G=>opsA P pc yk N ops l (putA (zx q A) o.dst v) G k) (fun v G=>opsA P pc yk N ops l (putA A o.dst v) G k)
   | some (j,want)=>getK (PQ ops j) fun t=>guardA t want A (fun A=>stepO P pc yk (fun _=>true) o.op o.type o.dst A G (fun v q G=>opsA P pc yk N ops l (putA (zx q A) o.dst v) G k) (fun v G=>opsA P pc yk N ops l (putA A o.dst v) G k)) (fun A=>opsA P pc yk N ops l (putA A o.dst .und) G k)
def TK(n0:Nat)(Fam:KI ρ→Prop)(F0:Nat→Prop)(K:Tm→Hp→Nat→Option ρ)(k:Tr AV→Tr Bx→Option D):Prop:=
 ∀ H0,Fam H0→∀ σ F H n T A G,Rs n0 H0 F0 σ F H n G→TRl σ F H T A→Out n0 H0 F0 (K T H n) (k A G)
structure YOk (P:Program) (cal:Cal) (yk:YK) (n0:Nat) (Fam:KI ρ→Prop) (F0:Nat→Prop):Prop where
 no:∀ l xs,yk.f l xs none none=none
 run:∀ H0,Fam H0→∀ σ F H n G l xs vs (p q:Option D) (kc:Value→Hp→Nat→Option ρ),Rs n0 H0 F0 σ F H n G→aK F H xs vs →
  (∀ b H1 H' n',Fam H1→H1.ds=H0.ds→Rs n0 H1 F0 σ F H' n' G→(∀ c,F c→H'.get c=H.get c)→Out n0 H1 F0 (kc (.bool b) H' n') (if b then p else q)) →
  Out n0 H0 F0 (iQ P cal (.func (.yield l) ⟨[]⟩ ⟨[]⟩) vs H n kc) (yk.f l xs p q)
theorem noY_ok{Fam:KI ρ→Prop}:YOk P cal noY n0 Fam F0:=⟨fun _ _=>rfl,fun _ _ _ _ _ _ _ _ _ _ _ _ _ _ _ _=>Out.no⟩
theorem YOk.fix{yk:YK}{Fam:KI ρ→Prop}(h:YOk P cal yk n0 Fam F0)(D:List Nat):YOk P cal yk n0 (fun K=>Fam K∧K.ds=D) F0:=
 ⟨h.no,fun H0 hF σ F H n G l xs vs p q kc h1 h2 h3=>h.run H0 hF.1 σ F H n G l xs vs p q kc h1 h2 fun b H1 H' n' g1 g2=>h3 b H1 H' n' ⟨g1,g2.trans hF.2⟩ g2⟩
theorem yldO_some{op:Op}{l:Nat}{aS:List AV}(ht:TRl σ F H T A)(e:yldO op A=some (l,aS)):∃ c f vs,op=.call c∧c.callee=.value f∧opd f T=some (.func (.yield l) ⟨[]⟩ ⟨[]⟩)∧opds T c.args.toList=some vs∧bQ σ F H aS vs:=by
 unfold yldO at e
 split at e
 ·rename_i c
  split at e
  ·rename_i f hf
   split at e
   ·rename_i l' hl
    split at e
    ·rename_i as' has
     cases e
     obtain⟨fv,f1,f2⟩:=oz ht hl
     obtain⟨vs,v1,v2⟩:=ov ht has
     have f2:=f2.un
     unfold DRel at f2; subst f2
     exact⟨c,f,vs,rfl,hf,f1,v1,ow v2⟩
    ·cases e
   ·cases e
  ·cases e
 ·cases e
theorem yldA_ok{yk:YK}{Fam:KI ρ→Prop}(hy:YOk P cal yk n0 Fam F0)(hF:Fam H0)(h:Rs n0 H0 F0 σ F H n G){y:Nat × List AV}{vs:List Value}(hv:bQ σ F H y.2 vs){kc:Value→Hp→Nat→Option ρ}{k:AV→Tr Bx→Option D}
  (hk:∀ b H1 F1 H' n' G',Fam H1→H1.ds=H0.ds→Rs n0 H1 F0 σ F1 H' n' G'→(∀ c,F c→F1 c)→Fz F H H'→Out n0 H1 F0 (kc (.bool b) H' n') (k (.b b) G')) :
  Out n0 H0 F0 (iQ P cal (.func (.yield y.1) ⟨[]⟩ ⟨[]⟩) vs H n kc) (yldA yk y G k):=by
 unfold yldA
 refine Out.getK fun r hr=>?_
 obtain⟨⟨⟨F1,r1,r2,r3⟩,_⟩,_⟩:=zQ (fun a F G d G' v h hv e=>yq 9 a F G d G' v h hv e) y.2 F G r.1 r.2 vs h hv hr
 refine hy.run H0 hF σ F1 H n r.2 y.1 r.1 vs _ _ kc r1 r3 fun b H1 H' n' g1 g1' g2 g4=>?_
 have:=hk b H1 F1 H' n' r.2 g1 g1' g2 r2 (Fz.of_eq fun c hc=>g4 c (r2 c hc))
 cases b <;> exact this
theorem guardV_eq{j:Nat}{t:Tmp}(h:PQ ops j=some t):GW ops j T=T.get t:=by
 unfold PQ at h
 unfold GW
 split at h
 ·rename_i oj hj; simp only[hj,h]
 ·cases h
theorem PV{yk:YK}{Fam:KI ρ→Prop}(hpc:∀ f,lk (flO P f) (cal.call f) (pc f))(hy:YOk P cal yk n0 Fam F0){K:Tm→Hp→Nat→Option ρ}{k:Tr AV→Tr Bx→Option D}(hk:TK n0 Fam F0 K k) :
  ∀(l:List Oper) (H0:KI ρ),Fam H0→∀(σ:Nat→Option Si) (F:Nat→Prop) (H:Hp) (n:Nat) (T:Tm) (A:Tr AV) (G:Tr Bx),Rs n0 H0 F0 σ F H n G→TRl σ F H T A→Out n0 H0 F0 (opsE P cal N ops l T H n K) (opsA P pc yk N ops l A G k)
 | [],H0,hF,σ,F,H,n,T,A,G,h,ht=>hk H0 hF σ F H n T A G h ht
 | o::l,H0,hF,σ,F,H,n,T,A,G,h,ht=>by
  have run:∀ A,TRl σ F H T A→Out n0 H0 F0 (opE P cal o.op o.type T H n fun v H n=>opsE P cal N ops l (putT T o.dst v) H n K) (stepO P pc yk (fun _=>true) o.op o.type o.dst A G (fun v q G=>opsA P pc yk N ops l (putA (zx q A) o.dst v) G k) (fun v G=>opsA P pc yk N ops l (putA A o.dst v) G k)):=fun A ht=>by
   unfold stepO
   split
   ·split
    ·exact opA_ok hpc h ht fun σ' F' H' n' G' v a q r1 r2 r3=>PV hpc hy hk l H0 hF σ' F' H' n' _ _ G' r1 ((r3.tr T A ht).put r2)
    ·rename_i x hx
     obtain⟨g,e,sz,xs⟩:=x
     obtain⟨c,h1,h2,h3,h4,rfl⟩:=ownO_some hx
     rw[h1]
     exact ownA_ok hpc h ht h2 h3 h4 fun σ' F' H' n' G' v a q r1 r2 r3=>PV hpc hy hk l H0 hF σ' F' H' n' _ _ G' r1 ((r3.tr T A ht).put r2)
   ·rename_i y hyo
    obtain⟨c,f,vs,h1,h2,h3,h4,h5⟩:=yldO_some (l:=y.1) (aS:=y.2) ht (yldB_some hyo)
    rw[h1]
    simp only[opE,GV,h2,h3,h4,bX]
    exact yldA_ok hy hF h h5 fun b H1 F1 H' n' G' g1 _ g2 g3 g5=>PV hpc hy hk l H1 g1 σ F1 H' n' _ _ G' g2 ((ht.mono (fun _ _ z=>z) g3 g5).put (by unfold VRel; rfl))
  simp only[opsE,opsA,oneE]
  cases hin:inN N o.dst with
  | false=>exact Out.no
  | true=>
   simp only
   cases hg:o.guard with
   | none=>exact run A ht
   | some g=>
    obtain⟨j,want⟩:=g
    refine Out.getK fun t htt=>?_
    simp only
    rw[guardV_eq htt]
    refine guardA_ok ht (fun A hA hT=>?_) (fun A hA hT=>?_)
    ·rw [hT, bX]
     have e:(want == want)=true:=by cases want <;> rfl
     simp only[bj,e]
     exact run A hA
    ·have go : Out n0 H0 F0 (opsE P cal N ops l (putT T o.dst undef) H n K) (opsA P pc yk N ops l (putA A o.dst .und) G k) := PV hpc hy hk l H0 hF σ F H n _ _ G h (hA.put (by unfold VRel; rfl))
     rcases hT with hT | hT
     ·rw [hT, bX]
      have e:((!want) == want)=false:=by cases want <;> rfl
      simp only[bj,e]
      exact go
     ·rw[hT,bX]; exact go
def ExG(H:Hp)(n:Nat)(y:Extra):Prop:=y=.p∨y=.e∨(∃ t a,y=.l t a∧a.block<n∧pres H a.block)∨∃ id c e,y=.a id c e∧id<n
noncomputable def fltX:List Extra→List Extra
 | []=>[]
 | .l t a::l=>.l t a::fltX l
 | .a i c e::l=>.a i c e::fltX l
 | _::l=>fltX l
theorem pz{n:Nat}{H:Hp}:∀ {ex:List Extra},(∀ y ∈ ex,ExG H n y)→∀(H1 H2:Hp),jJ ex H1=jJ (fltX ex) H1∧kX ex H1=kX (fltX ex) H1∧lz ex H1 H2=lz (fltX ex) H1 H2∧jZ ex H1 H2=jZ (fltX ex) H1 H2∧chkX P H1 ex=true
 | [],_,_,_=>⟨rfl,rfl,rfl,rfl,rfl⟩
 | y::l,h,H1,H2=>by
  obtain⟨i1,i2,i3,i4,i5⟩:=pz (ex:=l) (fun z hz=>h z (List.mem_cons_of_mem _ hz)) H1 H2
  have no:∀ z:Extra,z=.p∨z=.e→jJ (z::l) H1=jJ (fltX l) H1∧kX (z::l) H1=kX (fltX l) H1∧lz (z::l) H1 H2=lz (fltX l) H1 H2∧jZ (z::l) H1 H2=jZ (fltX l) H1 H2∧chkX P H1 (z::l)=true:=by
   rintro z (rfl | rfl)
   all_goals
    refine⟨?_,i2,?_,i4,by simp only[chkX,chkE,i5,Bool.and_self]⟩
    ·simp only[jJ,i1]; cases jJ (fltX l) H1 <;> rfl
    ·simp only[lz,i3]; cases lz (fltX l) H1 H2 <;> rfl
  rcases h y List.mem_cons_self with rfl | rfl | ⟨t,a,rfl,_⟩ | ⟨id,c,e,rfl,_⟩
  ·exact no .p (.inl rfl)
  ·exact no .e (.inr rfl)
  ·exact⟨by simp only[jJ,fltX,i1],i2,by simp only[lz,fltX,i3],i4,by simp only[chkX,chkE,i5,Bool.and_self]⟩
  ·refine⟨by simp only[jJ,fltX,i1],by simp only[kX,fltX,i2],by simp only[lz,fltX,i3],by simp only[jZ,fltX,i4],by simp only[chkX,chkE,i5,Bool.and_self]⟩
theorem jQ{y:Extra}:∀ {ex:List Extra},y ∈ fltX ex→((∃ t a,y=.l t a)∨∃ id c e,y=.a id c e)∧y ∈ ex
 | [],h=>by cases h
 | .l t a::l,h=>by
  rcases List.mem_cons.1 h with q | q
  ·exact⟨.inl ⟨t,a,q⟩,by rw[q]; exact List.mem_cons_self⟩
  ·exact⟨(jQ q).1,List.mem_cons_of_mem _ (jQ q).2⟩
 | .a i c e::l,h=>by
  rcases List.mem_cons.1 h with q | q
  ·exact⟨.inr ⟨i,c,e,q⟩,by rw[q]; exact List.mem_cons_self⟩
  ·exact⟨(jQ q).1,List.mem_cons_of_mem _ (jQ q).2⟩
 | .p::l,h=>⟨(jQ (ex:=l) h).1,List.mem_cons_of_mem _ (jQ (ex:=l) h).2⟩
 | .e::l,h=>⟨(jQ (ex:=l) h).1,List.mem_cons_of_mem _ (jQ (ex:=l) h).2⟩
 | .m _ _ _ _ _::l,h=>⟨(jQ (ex:=l) h).1,List.mem_cons_of_mem _ (jQ (ex:=l) h).2⟩
theorem flt_in{y:Extra}:∀ {ex:List Extra},y ∈ ex→((∃ t a,y=.l t a)∨∃ id c e,y=.a id c e)→y ∈ fltX ex
 | [],h,_=>by cases h
 | z::l,h,g=>by
  rcases List.mem_cons.1 h with q | q
  ·subst q
   rcases g with⟨t,a,rfl⟩ | ⟨id,c,e,rfl⟩ <;> exact List.mem_cons_self
  ·have := flt_in q g
   cases z <;> first | exact List.mem_cons_of_mem _ this | exact this
theorem pres.cells{b:Nat}(h:pres H b):(∃ c e ro vec,H.get b=some (.cells c e ro vec))∨∃ c,H.get b=some (.rows c):=by
 obtain⟨B,c,h1,h2⟩:=h
 cases B with
 | cells c e ro vec=>exact .inl ⟨_,_,_,_,h1⟩
 | rows c=>exact .inr ⟨_,h1⟩
 | _=>cases h2
def MaskOf(ex:List Extra)(H Hm:Hp):Prop:=(∀ b,nwOf ex b→Hm.get b=none)∧(∀ b,¬ nwOf ex b→¬ ldOf ex b→Hm.get b=H.get b)∧∀ b,¬ nwOf ex b→∀ o vs,fx H b o vs↔fx Hm b o vs
def MaskG(ex:List Extra)(H Hm:Hp):Prop:=∀ b,¬ nwOf ex b→Hm.get b=H.get b∨∃ c e ro vec,H.get b=some (.cells c e ro vec)∧Hm.get b=some (.cells c e true vec)
theorem MaskG.load{ex:List Extra}{H Hm:Hp}(h:MaskG ex H Hm){a:Addr}(ha:¬ nwOf ex a.block){k:Nat}:loadN Hm a k=loadN H a k:=by
 unfold loadN
 cases a.spot with
 | some s=>rfl
 | none=>
  simp only
  rcases h _ ha with q | ⟨c,e,ro,vec,q1,q2⟩
  ·rw[q]
  ·rw[q1,q2]
theorem MaskG.src{ex:List Extra}{H Hm:Hp}(h:MaskG ex H Hm){s:Nat}{y:Value}(hy:∀ a m c,y=.slice (some a) m c→m=0∨¬ nwOf ex a.block):iy Hm s y=iy H s y:=by
 cases y with
 | slice a m c=>
  cases a with
  | none=>rfl
  | some a=>
   rcases hy a m c rfl with rfl | q
   ·rw[AW,AW]
   ·simp only[iy,h.load q]
 | _=>rfl
theorem store_at{a:Addr}{vs:List Value}{k:Nat}{H1:Hp}(e:pX H (addA a k) vs=some H1):∃ B,H1=H.set a.block (some B)∧∀ Hm:Hp,Hm.get a.block=H.get a.block→pX Hm (addA a k) vs=some (Hm.set a.block (some B)):=by
 have hb:(addA a k).block=a.block:=rfl
 unfold pX at e ⊢
 cases h1:(addA a k).spot with
 | some s=>rw[h1] at e; cases e
 | none=>
  rw[h1] at e
  simp only[hb] at e ⊢
  cases h2:H.get a.block with
  | none=>rw[h2] at e; cases e
  | some B=>
   rw[h2] at e
   cases B with
   | cells c el ro vec=>
    cases ro with
    | true=>cases e
    | false=>
     simp only at e ⊢
     by_cases h3:vs.all oQ=true
     ·rw [if_pos h3] at e
      cases h4:lX c (addA a k).off vs with
      | none=>rw[h4] at e; cases e
      | some c'=>
       rw[h4] at e
       cases e
       refine⟨_,rfl,fun Hm hm=>?_⟩
       simp only[hm,h4,if_pos h3]
     ·rw[if_neg h3] at e; cases e
   | _=>cases e
theorem append_mask{ex:List Extra}{H Hm:Hp}(h:MaskG ex H Hm)(hlt:∀ b,ldOf ex b∨nwOf ex b→b<n){t t2:TypeId}{x y v:Value}{st:St}
  (hy:∀ a m c,y=.slice (some a) m c→m=0∨¬ nwOf ex a.block) (hx:∀ a m c,x=.slice (some a) m c→¬ nwOf ex a.block∧¬ ldOf ex a.block∧Hm.get a.block=H.get a.block)
  (e:cZ P (bare H n) t t2 x y=some (v,st)) :
  ∃ H2,cZ P (bare Hm n) t t2 x y=some (v,{ bare H2 n with n:=st.n })∧n≤st.n∧(∀ b,ldOf ex b∨nwOf ex b→H2.get b=Hm.get b∧st.H.get b=H.get b)∧∀ b,Hm.get b=H.get b→H2.get b=st.H.get b:=by
 have grow:∀ {H1 H1m:Hp} {c:List Value} {s e len:Nat},(∀ b,ldOf ex b∨nwOf ex b→H1m.get b=Hm.get b∧H1.get b=H.get b)→(∀ b,Hm.get b=H.get b→H1m.get b=H1.get b) →
   ∃ H2,some (rx (bare Hm n) H1m len s c e)=some ((rx (bare H n) H1 len s c e).1,{ bare H2 n with n:=(rx (bare H n) H1 len s c e).2.n })∧n≤(rx (bare H n) H1 len s c e).2.n ∧
    (∀ b,ldOf ex b∨nwOf ex b→H2.get b=Hm.get b∧(rx (bare H n) H1 len s c e).2.H.get b=H.get b)∧∀ b,Hm.get b=H.get b→H2.get b=(rx (bare H n) H1 len s c e).2.H.get b:=by
  intro H1 H1m c s e len g1 g2
  refine⟨H1m.set n (some (.cells c e false (some s))),rfl,Nat.le_succ _,fun b hb=>?_,fun b hb=>?_⟩
  ·have := hlt b hb
   have e2:(rx (bare H n) H1 len s c e).2.H=H1.set n (some (.cells c e false (some s))):=rfl
   rw[e2,Tr.get_set,if_neg (by omega),Tr.get_set,if_neg (by omega)]
   exact g1 b hb
  ·have e2 : (rx (bare H n) H1 len s c e).2.H = H1.set n (some (.cells c e false (some s))) := rfl
   rw[e2,Tr.get_set,Tr.get_set]
   by_cases hbn:b=n
   ·rw[if_pos hbn,if_pos hbn]
   ·rw[if_neg hbn,if_neg hbn]; exact g2 b hb
 have g0:=@grow H Hm
 unfold cZ at e ⊢
 cases h1:dY P t with
 | none=>rw[h1] at e; cases e
 | some el=>
  cases h2:dY P t2 with
  | none=>rw[h1,h2] at e; cases e
  | some el2=>
   rw[h1,h2] at e
   simp only at e ⊢
   cases h3:szT P el with
   | none=>rw[h3] at e; cases e
   | some s=>
    cases h4:sK P el with
    | none=>rw[h3,h4] at e; cases e
    | some b=>
     cases h5:jx P el with
     | none=>rw[h3,h4,h5] at e; cases e
     | some z=>
      rw[h3,h4,h5] at e
      simp only at e ⊢
      have hs:iy (bare Hm n).H s y=iy (bare H n).H s y:=h.src hy
      rw[hs]
      cases h6:iy (bare H n).H s y with
      | none=>rw[h6] at e; cases e
      | some r=>
       obtain⟨new,m⟩:=r
       rw[h6] at e
       cases h7:Nat.beq (aQ z).length s with
       | false=>rw[h7] at e; cases e
       | true=>
        rw[h7] at e
        simp only at e ⊢
        cases x with
        | slice a len cap=>
         cases a with
         | none=>
          cases len with
          | succ _=>cases e
          | zero=>
           cases cap with
           | succ _=>cases e
           | zero=>
            simp only at e ⊢
            cases m with
            | zero=>
             cases e
             exact⟨Hm,rfl,Nat.le_refl _,fun b hb=>⟨rfl,rfl⟩,fun b hb=>hb⟩
            | succ m=>
             simp only at e ⊢
             cases h8:Dx (m+1) s b with
             | false=>rw[h8] at e; cases e
             | true=>
              rw[h8] at e
              cases e
              exact g0 (fun b hb=>⟨rfl,rfl⟩) (fun b hb=>hb)
         | some a=>
          obtain⟨x1,x2,x3⟩:=hx a len cap rfl
          have hlo:loadN (bare Hm n).H a (len * s)=loadN (bare H n).H a (len * s):=h.load x1
          simp only at e ⊢
          rw[hlo]
          cases h8:loadN (bare H n).H a (len * s) with
          | none=>rw[h8] at e; cases e
          | some old=>
           rw[h8] at e
           cases h9:a.spot with
           | some sp=>rw[h9] at e; cases e
           | none=>
            rw[h9] at e
            cases h10:Dx (len+m) s b with
            | false=>rw[h10] at e; cases e
            | true=>
             rw[h10] at e
             simp only at e ⊢
             unfold oZ at e ⊢
             cases h11:Nat.blt cap capV with
             | true=>
              rw[h11] at e
              simp only at e ⊢
              cases h12:Nat.ble (len+m) cap with
              | false=>
               rw[h12] at e
               cases e
               exact g0 (fun b hb=>⟨rfl,rfl⟩) (fun b hb=>hb)
              | true=>
               rw[h12] at e
               simp only at e ⊢
               cases h13:pX (bare H n).H (addA a (len * s)) new with
               | none=>rw[h13] at e; cases e
               | some H1=>
                rw[h13] at e
                cases e
                obtain⟨B,z1,z2⟩:=store_at h13
                have z3:=z2 (bare Hm n).H x3
                rw[z3]
                refine⟨Hm.set a.block (some B),rfl,Nat.le_refl _,fun b hb=>?_,fun b hb=>?_⟩
                ·have hne : b ≠ a.block := fun q => by
                  subst q
                  rcases hb with q | q
                  ·exact x2 q
                  ·exact x1 q
                 subst z1
                 show((Hm.set a.block (some B)).get b=_)∧(H.set a.block (some B)).get b=_
                 rw[Tr.get_set,if_neg hne,Tr.get_set,if_neg hne]
                 exact⟨rfl,rfl⟩
                ·subst z1
                 show(Hm.set a.block (some B)).get b=(H.set a.block (some B)).get b
                 rw[Tr.get_set,Tr.get_set]
                 by_cases q:b=a.block
                 ·rw[if_pos q,if_pos q]
                 ·rw[if_neg q,if_neg q]; exact hb
             | false=>
              rw[h11] at e
              simp only at e ⊢
              have x3':(bare Hm n).H.get a.block=(bare H n).H.get a.block:=x3
              rw[x3']
              cases h12:Nat.beq cap capV with
              | false=>rw[h12] at e; cases e
              | true=>
               rw[h12] at e
               cases h13:(bare H n).H.get a.block with
               | none=>rw[h13] at e; cases e
               | some B=>
                rw[h13] at e
                cases B with
                | cells c e' ro vec=>
                 cases vec with
                 | none=>cases ro <;> cases e
                 | some s'=>
                  cases ro with
                  | true=>cases e
                  | false=>
                   simp only at e ⊢
                   cases h14:(Nat.beq e' el && Nat.beq s' s && new.all oQ) with
                   | false=>rw[h14] at e; cases e
                   | true=>
                    rw[h14] at e
                    cases e
                    refine grow (fun b hb=>?_) (fun b hb=>?_)
                    ·have hne : b ≠ a.block := fun q => by
                      subst q
                      rcases hb with q | q
                      ·exact x2 q
                      ·exact x1 q
                     show((Hm.set a.block none).get b=_)∧(H.set a.block none).get b=_
                     rw[Tr.get_set,if_neg hne,Tr.get_set,if_neg hne]
                     exact⟨rfl,rfl⟩
                    ·show (Hm.set a.block none).get b = (H.set a.block none).get b
                     rw[Tr.get_set,Tr.get_set]
                     by_cases q:b=a.block
                     ·rw[if_pos q,if_pos q]
                     ·rw[if_neg q,if_neg q]; exact hb
                | _=>cases e
        | _=>cases e
theorem Nx.thenR{σ1 σ2:Nat→Option Si}{F1 F2:Nat→Prop}{H1 H2:Hp}{n1 n2:Nat}{q:Option Nat}(h:Nx σ F H n σ1 F1 H1 n1 q)(g:Nx σ1 F1 H1 n1 σ2 F2 H2 n2 none):Nx σ F H n σ2 F2 H2 n2 q:=by
 refine⟨Nat.le_trans h.le g.le,fun b hb=>g.fr b (h.fr b hb),fun T A ht=>g.tr T _ (h.tr T A ht),⟨fun b hb hp hc=>(g.keep rfl).1 b (by have:=h.le; omega) (h.kp.1 b hb hp hc),fun s i hs hi=>?_⟩⟩
 obtain⟨i1,a1,a2,a3⟩:=h.kp.2 s i hs hi
 obtain⟨i2,b1,b2,b3⟩:=(g.keep rfl).2 s i1 a1
 exact⟨i2,b1,b2.trans a2,b3.trans a3⟩
theorem appendA_run{t t2:TypeId}{x y:AV}{xv yv:Value}{dst:Option Tmp}(h:Rs n0 H0 F0 σ F H n G)(hx:VRel σ F H x xv)(hy:VRel σ F H y yv){k:KO}{z:D}(e:IX P t t2 x y dst G k=some z) :
  ∃ v st σ' F' G' a q,cZ P (bare H n) t t2 xv yv=some (v,st)∧Rs n0 H0 F0 σ' F' st.H st.n G'∧VRel σ' F' st.H a v∧Nx σ F H n σ' F' st.H st.n q∧k a q G'=some z:=by
 let K1:KI (Value × Hp × Nat):={ C:=H0.C,O:=H0.O,oc:=H0.oc,ok:=H0.ok,st:=H0.st,Fs:=H0.Fs,tm:=H0.tm,ds:=H0.ds,R:=fun _ _ r z=>∃ v H' n',r=some (v,H',n')∧∃ σ' F' G' a q,Rs n0 H0 F0 σ' F' H' n' G'∧VRel σ' F' H' a v∧Nx σ F H n σ' F' H' n' q∧k a q G'=some z }
 have to:Rs n0 K1 F0 σ F H n G:=⟨h.le,h.keep,h.sub,h.fin,h.low,h.site,h.back,h.own,h.inj,h.ownC,h.finC,h.fs,h.tms⟩
 obtain⟨v,H',n',er,σ',F',G',a,q,r1,r2,r3,r4⟩:=appendA_ok (P:=P) (H0:=K1) (kc:=fun v H n=>some (v,H,n)) (k:=k) (dst:=dst) to hx hy
  (fun σ' F' H' n' G' v a q r1 r2 r3 y ey=>⟨v,H',n',rfl,σ',F',G',a,q,⟨r1.le,r1.keep,r1.sub,r1.fin,r1.low,r1.site,r1.back,r1.own,r1.inj,r1.ownC,r1.finC,r1.fs,r1.tms⟩,r2,r3,ey⟩) z e
 unfold stK at er
 cases hap:cZ P (bare H n) t t2 xv yv with
 | none=>rw[hap] at er; cases er
 | some p=>
  obtain⟨v1,st⟩:=p
  rw[hap] at er
  cases er
  exact⟨_,st,σ',F',G',a,q,rfl,r1,r2,r3,r4⟩
theorem qkx{ex:List Extra}(hex:∀ y ∈ ex,ExG H n y)(hap:∀ b,ldOf ex b→¬ nwOf ex b){op:Hp→Nat→(Value→Hp→Nat→Option ρ)→Option ρ}
  {R:Hp→Value→Hp→Nat→Prop} (hop:∀ Hm,MaskOf ex H Hm→MaskG ex H Hm→∃ v H2 n2,(∀ k,op Hm n k=k v H2 n2)∧(∀ b,ldOf ex b→H2.get b=Hm.get b)∧R Hm v H2 n2) :
  ∃ v Hm H2 H3 n2,(∀ k,effK P ex H n op k=k v H3 n2)∧MaskOf ex H Hm∧R Hm v H2 n2∧(∀ b,ldOf ex b∨nwOf ex b→H3.get b=H.get b)∧∀ b,¬ ldOf ex b→¬ nwOf ex b→H3.get b=H2.get b:=by
 cases ex with
 | nil=>
  have hno:∀ b,¬ nwOf [] b∧¬ ldOf [] b:=fun b=>⟨fun⟨_,_,_,z,_⟩=>(by cases z),fun⟨_,_,z,_⟩=>(by cases z)⟩
  have hm:MaskOf [] H H:=⟨fun b z=>absurd z (hno b).1,fun _ _ _=>rfl,fun _ _ _ _=>Iff.rfl⟩
  obtain⟨v,H2,n2,h1,_,h3⟩:=hop H hm fun _ _=>.inl rfl
  exact⟨v,H,H2,H2,n2,fun k=>by unfold effK; exact h1 k,hm,h3,fun b z=>(z.elim (fun z=>absurd z (hno b).2) (fun z=>absurd z (hno b).1)),fun _ _ _=>rfl⟩
 | cons y l=>
  generalize hE:y::l=E at hex hap hop ⊢
  have iL:∀ b,ldOf (fltX E) b↔ldOf E b:=fun b=>⟨fun⟨t,a,h,e⟩=>⟨t,a,(jQ h).2,e⟩,fun⟨t,a,h,e⟩=>⟨t,a,flt_in h (.inl ⟨t,a,rfl⟩),e⟩⟩
  have iN:∀ b,nwOf (fltX E) b↔nwOf E b:=fun b=>⟨fun⟨i,c,e,h,q⟩=>⟨i,c,e,(jQ h).2,q⟩,fun⟨i,c,e,h,q⟩=>⟨i,c,e,flt_in h (.inr ⟨i,c,e,rfl⟩),q⟩⟩
  obtain⟨H1,e1,e2⟩:=maskX_some (ex:=fltX E) (H:=H) fun z hz=>by
   obtain⟨h1,hm⟩:=jQ hz
   rcases hex _ hm with q | q | ⟨t',a',q,_,q2⟩ | ⟨id,c,e,q,_⟩
   ·rcases h1 with⟨t,a,h1⟩ | ⟨i,c,e,h1⟩ <;> rw[q] at h1 <;> cases h1
   ·rcases h1 with⟨t,a,h1⟩ | ⟨i,c,e,h1⟩ <;> rw[q] at h1 <;> cases h1
   ·exact .inl ⟨t',a',q,q2.cells⟩
   ·exact .inr ⟨id,c,e,q⟩
  have hld:∀ b,ldOf E b→b<n∧pres H b:=by
   rintro b ⟨t,a,hm,rfl⟩
   rcases hex _ hm with q | q | ⟨t',a',q,q1,q2⟩ | ⟨id,c,e,q,_⟩
   ·cases q
   ·cases q
   ·cases q; exact⟨q1,q2⟩
   ·cases q
  have same:∀ b o vs,fx H b o vs↔fx H1 b o vs:=by
   intro b o vs
   rcases e2 b with q | ⟨⟨c,e,ro,vec,q1,q2⟩,_⟩
   ·exact⟨lV q,lV q.symm⟩
   ·constructor
    ·rintro ⟨B, c', h1, h2, h3⟩
     rw[q1] at h1; cases h1; cases h2
     exact⟨_,c,q2,rfl,h3⟩
    ·rintro ⟨B, c', h1, h2, h3⟩
     rw[q2] at h1; cases h1; cases h2
     exact⟨_,c,q1,rfl,h3⟩
  have hmA:∀ b,(nwOf E b→(kX (fltX E) H1).get b=none)∧(¬ nwOf E b→(kX (fltX E) H1).get b=H1.get b):=fun b=>
   ⟨fun z=>(MZ b).1 ((iN b).2 z),fun z=>(MZ b).2 (fun q=>z ((iN b).1 q))⟩
  have hmask:MaskOf E H (kX (fltX E) H1):=by
   refine⟨fun b z=>(hmA b).1 z,fun b z1 z2=>?_,fun b z o vs=>?_⟩
   ·rw [(hmA b).2 z1]
    rcases e2 b with q | ⟨_,q⟩
    ·exact q
    ·exact absurd ((iL b).1 q) z2
   ·rw [same b o vs]
    exact⟨lV ((hmA b).2 z),lV ((hmA b).2 z).symm⟩
  have hmaskG:MaskG E H (kX (fltX E) H1):=by
   intro b hb
   rw[(hmA b).2 hb]
   rcases e2 b with q | ⟨q,_⟩
   ·exact .inl q
   ·exact .inr q
  obtain⟨v,H2,n2,h1,h2,h3⟩:=hop _ hmask hmaskG
  have hsome:∀ z ∈ fltX E,(∃ t a,z=.l t a∧∃ B,H2.get a.block=some B∧B.ro=true)∨∃ id c e,z=.a id c e:=by
   intro z hz
   obtain⟨q,hm⟩:=jQ hz
   rcases q with⟨t,a,rfl⟩ | q
   ·have hl : ldOf E a.block := ⟨t, a, hm, rfl⟩
    refine .inl ⟨t,a,rfl,?_⟩
    rw[h2 _ hl,(hmA _).2 (hap _ hl)]
    exact maskXL_ro e1 t a hz
   ·exact .inr q
  obtain⟨H3,f1,f2,f3⟩:=backX_some (H0:=H) (H:=H2) hsome
  obtain⟨m1,_,_,_,_⟩:=pz (P:=P) hex H H
  obtain⟨_,m2,_,_,_⟩:=pz (P:=P) hex H1 H1
  obtain⟨_,_,m3,_,_⟩:=pz (P:=P) hex H H2
  obtain⟨_,_,_,m4,_⟩:=pz (P:=P) hex H H3
  obtain⟨_,_,_,_,m5⟩:=pz (P:=P) hex (jZ (fltX E) H H3) H3
  have hbA:∀ b,(nwOf E b→(jZ (fltX E) H H3).get b=H.get b)∧(¬ nwOf E b→(jZ (fltX E) H H3).get b=H3.get b):=fun b=>
   ⟨fun z=>(MK b).1 ((iN b).2 z),fun z=>(MK b).2 (fun q=>z ((iN b).1 q))⟩
  refine⟨v,_,H2,jZ (fltX E) H H3,n2,fun k=>?_,hmask,h3,fun b z=>?_,fun b z1 z2=>?_⟩
  ·subst hE
   unfold effK
   simp only[m1,e1,aj,m2,h1,m3,f1,m4,m5]
   rfl
  ·by_cases q : nwOf E b
   ·exact(hbA b).1 q
   ·rw [(hbA b).2 q]
    exact f2 b ((iL b).2 (z.resolve_right q))
  ·rw [(hbA b).2 z2]
   exact f3 b (fun q=>z1 ((iL b).1 q))
noncomputable def oY(A:Tr AV):List Nat→Tr AV
 | []=>.nil
 | d::l=>match A.get d with
  | some a=>(oY A l).set d (some a)
  | none=>oY A l
theorem yy{d:Nat}{a:AV}:∀ {l:List Nat},(oY A l).get d=some a→A.get d=some a∧d ∈ l
 | [],h=>by rw[oY,Tr.get_nil] at h; cases h
 | x::l,h=>by
  simp only[oY] at h
  split at h
  ·rename_i b hb
   rw[Tr.get_set] at h
   by_cases q:d=x
   ·rw[if_pos q] at h; cases h; subst q; exact⟨hb,List.mem_cons_self⟩
   ·rw[if_neg q] at h; exact⟨(yy h).1,List.mem_cons_of_mem _ (yy h).2⟩
  ·exact⟨(yy h).1,List.mem_cons_of_mem _ (yy h).2⟩
theorem TRl.restr(ht:TRl σ F H T A)(l:List Nat):TRl σ F H (eZ T l) (oY A l):=fun t a e=>by
 obtain⟨h1,h2⟩:=yy e
 obtain⟨v,h3,h4⟩:=ht t a h1
 exact⟨v,by rw[ix,if_pos h2]; exact h3,h4⟩
noncomputable def callish:Op→Bool
 | .call c=>match c.callee with
  | .value _=>true
  | _=>false
 | _=>false
noncomputable def DW(o:Oper)(A:Tr AV):Extra:=match dj o.op with
 | .l=>match o.op with
  | .load _ a=>match opdN a A with
   | some (.loc s _)=>.l 0 ⟨s,0,none⟩
   | some (.elo s _ _)=>.l 0 ⟨s,0,none⟩
   | some (.d _)=>.e
   | _=>.m 0 undef undef false undef
  | _=>.m 0 undef undef false undef
 | .a=>match o.dst with
  | some s=>.a s (some []) 0
  | none=>.m 0 undef undef false undef
 | .m=>.m 0 undef undef false undef
 | _=>.p
noncomputable def entA(x:Nat)(dst:Option Tmp)(slots:List Nat)(k:Extra):Ent:={ x,dst,slots,v:=undef,k }
noncomputable def exA(Anc:List Nat)(x:Nat):List Ent→List Extra
 | []=>[]
 | e::l=>match bit Anc x e.x with
  | true=>exA Anc x l
  | false=>match e.k with
   | .p=>exA Anc x l
   | k=>k::exA Anc x l
noncomputable def nwS:List Extra→Nat→Bool
 | [],_=>false
 | .a s _ _::l,w=>match Nat.beq s w with
  | true=>true
  | false=>nwS l w
 | _::l,w=>nwS l w
noncomputable def liveB:Option Bx→Bool
 | some (.dat _ false)=>true
 | some (.box _)=>true
 | some (.vec _ _ _ false)=>true
 | some (.map _ _ false)=>true
 | _=>false
noncomputable def neW(w:Option Nat)(b:Nat):Bool:=match w with
 | some w=>!Nat.beq w b
 | none=>true
noncomputable def okX(G:Tr Bx)(w:Option Nat)(ex:List Extra):List Extra→Bool
 | []=>true
 | .l _ a::l=>!nwS ex a.block && neW w a.block && okX G w ex l
 | .a s _ _::l=>liveB (G.get s) && neW w s && okX G w ex l
 | .e::l=>okX G w ex l
 | _::_=>false
noncomputable def wrS(o:Oper)(A:Tr AV):Option Nat:=match o.op with
 | .store _ a _=>match opdN a A with
  | some a=>addrS a
  | none=>none
 | _=>none
noncomputable def siX(G:Tr Bx)(a:AV):Option (Option Nat):=match a with
 | .d (.v (.slice none 0 0))=>some none
 | .osl w=>match G.get w with
  | some (.vec _ _ _ false)=>some (some w)
  | _=>none
 | _=>none
noncomputable def siY(a:AV):Option (Option Nat):=match a with
 | .d _=>some none
 | .osl w=>some (some w)
 | _=>none
noncomputable def apS(o:Oper)(A:Tr AV)(G:Tr Bx):Option (Option Nat × Option Nat):=match o.op with
 | .call c=>match c.callee with
  | .builtin .append=>match DQ A c.args.toList with
   | some aS=>match AX aS with
    | [x,y]=>match siX G x,siY y with
     | some w,some u=>some (w,u)
     | _,_=>none
    | _=>none
   | none=>none
  | _=>none
 | _=>none
noncomputable def unwX(q:Option Nat)(k:Extra):Extra:=match q with
 | none=>k
 | some w=>match k with
  | .l t a=>match Nat.beq a.block w with
   | true=>.m 0 undef undef false undef
   | false=>.l t a
  | .a s c e=>match Nat.beq s w with
   | true=>.m 0 undef undef false undef
   | false=>.a s c e
  | k=>k
noncomputable def unwL(q:Option Nat)(l:List Ent):List Ent:=match q with
 | none=>l
 | some _=>l.map fun e=>{ e with k:=unwX q e.k }
noncomputable def exOkA(Anc:List Nat)(x:Nat)(dirty:Bool)(o:Oper)(A:Tr AV)(G:Tr Bx)(log:List Ent):Bool:=match isE o with
 | false=>true
 | true=>match exA Anc x log with
  | []=>true
  | y::l=>!dirty && match callish o.op with
   | true=>true
   | false=>match wrS o A with
    | some w=>okX G (some w) (y::l) (y::l)
    | none=>match apS o A G with
     | some p=>okX G p.1 (y::l) (y::l) && okX G p.2 (y::l) (y::l)
     | none=>false
noncomputable def ckA(Anc:List Nat)(x:Nat)(log:List Ent)(G:Tr Bx):Bool:=okX G none (exA Anc x log) (exA Anc x log)
noncomputable def nilK(l:List Extra)(k:Option D):Option D:=match l with
 | []=>k
 | _=>none
noncomputable def mW(P:Program)(pc:FuncId→List D→Option D)(yk:YK)(N:Nat)(ops:List Oper)(Anc:List Nat):List Nat→Bool→List Ent→Tr AV→Tr Bx→(Tr AV→Tr Bx→Option D)→Option D
 | [],_,_,A,G,k=>k A G
 | x::rest,dirty,log,A,G,k=>match ops[x]? with
  | none=>none
  | some o=>match inN N o.dst && zJ Anc log x o.dst (cj ops o) && !nK log x && (!isE o || rest.all fun y=>bit Anc y x) with
   | false=>none
   | true=>match o.guard with
    | none=>match exOkA Anc x dirty o (oY A (cj ops o)) G log with
     | false=>none
     | true=>stepA P pc yk (ckA Anc x log) o.op o.type o.dst (oY A (cj ops o)) G (fun v q G=>mW P pc yk N ops Anc rest dirty (entA x o.dst (cj ops o) (DW o (oY A (cj ops o)))::unwL q log) (putA (zx q A) o.dst v) G k) (fun v G=>nilK (exA Anc x log) (mW P pc yk N ops Anc rest true (entA x o.dst (cj ops o) .p::log) (putA A o.dst v) G k))
    | some (j,want)=>getK (PQ ops j) fun t=>guardA t want A
      (fun A=>match exOkA Anc x dirty o (oY A (cj ops o)) G log with
       | false=>none
       | true=>stepA P pc yk (ckA Anc x log) o.op o.type o.dst (oY A (cj ops o)) G (fun v q G=>mW P pc yk N ops Anc rest dirty (entA x o.dst (cj ops o) (DW o (oY A (cj ops o)))::unwL q log) (putA (zx q A) o.dst v) G k) (fun v G=>nilK (exA Anc x log) (mW P pc yk N ops Anc rest true (entA x o.dst (cj ops o) .p::log) (putA A o.dst v) G k)))
      (fun A=>mW P pc yk N ops Anc rest dirty (entA x o.dst (cj ops o) .p::log) (putA A o.dst .und) G k)
noncomputable def drawA(P:Program)(pc:FuncId→List D→Option D)(yk:YK)(N:Nat)(ops:List Oper)(A:Tr AV)(G:Tr Bx)(k:Tr AV→Tr Bx→Option D):Option D:=
 match ancOk ops (ancs ops) && covers ops.length (order ops (ancs ops)) && P.follows .mixedOrders with
 | true=>mW P pc yk N ops (ancs ops) (order ops (ancs ops)) false [] A G k
 | false=>none
def KR(σ:Nat→Option Si)(F:Nat→Prop)(H:Hp)(n:Nat)(c:Extra):Extra→Prop
 | .p=>c=.p∨c=.e
 | .e=>c=.p∨c=.e∨∃ t a,c=.l t a∧a.block<n∧pres H a.block∧F a.block
 | .l _ ad=>∃ t a i,c=.l t a∧a.block<n∧pres H a.block∧σ ad.block=some i∧i.nil=false∧a.block=i.b
 | .a s _ _=>∃ id cc t i,c=.a id cc t∧id<n∧σ s=some i∧i.nil=false∧i.b=id
 | .m _ _ _ _ _=>True
def LogS(K:Extra→Extra→Prop):List Ent→List Ent→Prop
 | [],[]=>True
 | e::l,e'::l'=>((e.x=e'.x∧e.dst=e'.dst∧e.slots=e'.slots)∧K e.k e'.k)∧LogS K l l'
 | _,_=>False
theorem LogS.slot{K:Extra→Extra→Prop}{Anc:List Nat}{x:Nat}{dst:Option Tmp}{slots:List Nat}:∀ {l l':List Ent},LogS K l l'→zJ Anc l x dst slots=zJ Anc l' x dst slots∧nK l x=nK l' x
 | [],[],_=>⟨rfl,rfl⟩
 | e::l,e'::l',h=>by
  obtain⟨⟨⟨h1,h2,h3⟩,_⟩,h4⟩:=h
  obtain⟨i1,i2⟩:=LogS.slot (Anc:=Anc) (x:=x) (dst:=dst) (slots:=slots) h4
  refine⟨?_,?_⟩
  ·unfold zJ at i1 ⊢
   simp only[List.all_cons,h1,h2,h3,i1]
  ·unfold nK at i2 ⊢
   simp only[List.any_cons,h1,i2]
 | [],_::_,h=>h.elim
 | _::_,[],h=>h.elim
theorem LogS.mono{K K':Extra→Extra→Prop}(hk:∀ c c',K c c'→K' c c'):∀ {l l':List Ent},LogS K l l'→LogS K' l l'
 | [],[],_=>trivial
 | _::_,_::_,h=>⟨⟨h.1.1,hk _ _ h.1.2⟩,LogS.mono hk h.2⟩
 | [],_::_,h=>h.elim
 | _::_,[],h=>h.elim
theorem KR.step{c c':Extra}{q:Option Nat}(hR:Rs n0 H0 F0 σ F H n G)(h:Nx σ F H n σ' F' H' n' q)(g:KR σ F H n c c'):KR σ' F' H' n' c (unwX q c'):=by
 have hk:=h.kp
 have hle:=h.le
 have noM:KR σ' F' H' n' c (.m 0 undef undef false undef):=trivial
 have ne:∀ s i,q≠some s→σ s=some i→i.nil=false→∀ w j,q=some w→σ w=some j→j.nil=false→i.b≠j.b:=fun s i hs hi hn w j hw hj hjn e=>hs (by rw[hw,hR.inj w s j i hj hi hjn hn e.symm])
 have goL:∀ t ad,q≠some ad.block→KR σ F H n c (.l t ad)→KR σ' F' H' n' c (.l t ad):=by
  rintro t ad hq ⟨t',a,i,g1,g2,g3,g4,g5,g6⟩
  obtain⟨i',k1,k2,k3⟩:=hk.2 _ _ hq g4
  exact⟨t',a,i',g1,by omega,hk.1 _ g2 g3 (.inl fun w j hw hj hjn=>by rw[g6]; exact ne _ _ hq g4 g5 w j hw hj hjn),k1,by rw[k2]; exact g5,by rw[k3]; exact g6⟩
 have goA:∀ s x e,q≠some s→KR σ F H n c (.a s x e)→KR σ' F' H' n' c (.a s x e):=by
  rintro s x e hq ⟨id,cc,t,i,g1,g2,g3,g4,g5⟩
  obtain⟨i',k1,k2,k3⟩:=hk.2 _ _ hq g3
  exact⟨id,cc,t,i',g1,by omega,k1,by rw[k2]; exact g4,by rw[k3]; exact g5⟩
 have goE:KR σ F H n c .e→KR σ' F' H' n' c .e:=by
  rintro(g | g | ⟨t,a,g1,g2,g3,g4⟩)
  ·exact .inl g
  ·exact .inr (.inl g)
  ·exact .inr (.inr ⟨t,a,g1,by omega,hk.1 _ g2 g3 (.inr g4),h.fr _ g4⟩)
 cases q with
 | none=>
  show KR σ' F' H' n' c c'
  cases c' with
  | p=>exact g
  | e=>exact goE g
  | l t ad=>exact goL t ad (fun z=>by cases z) g
  | a s x e=>exact goA s x e (fun z=>by cases z) g
  | m _ _ _ _ _=>trivial
 | some w=>
  cases c' with
  | p=>exact g
  | e=>exact goE g
  | l t ad=>
   simp only[unwX]
   cases hb:Nat.beq ad.block w with
   | true=>exact noM
   | false=>exact goL t ad (fun z=>by cases z; rw[Nat.beq_refl] at hb; cases hb) g
  | a s x e=>
   simp only[unwX]
   cases hb:Nat.beq s w with
   | true=>exact noM
   | false=>exact goA s x e (fun z=>by cases z; rw[Nat.beq_refl] at hb; cases hb) g
  | m _ _ _ _ _=>trivial
theorem LogS.unw{K K':Extra→Extra→Prop}{q:Option Nat}(hk:∀ c c',K c c'→K' c (unwX q c')):∀ {l l':List Ent},LogS K l l'→LogS K' l (unwL q l')
 | [],[],_=>by unfold unwL; cases q <;> trivial
 | _::_,_::_,h=>by
  have ih:=LogS.unw (q:=q) hk h.2
  unfold unwL at ih ⊢
  cases q with
  | none=>exact⟨⟨h.1.1,hk _ _ h.1.2⟩,ih⟩
  | some w=>exact⟨⟨h.1.1,hk _ _ h.1.2⟩,ih⟩
 | [],_::_,h=>h.elim
 | _::_,[],h=>h.elim
theorem unwX_p{q:Option Nat}{c:Extra}(h:unwX q c=.p):c=.p:=by
 cases q with
 | none=>exact h
 | some w=>
  cases c with
  | l t a=>simp only[unwX] at h; split at h <;> cases h
  | a s x e=>simp only[unwX] at h; split at h <;> cases h
  | _=>exact h
theorem Vv{K:Extra→Extra→Prop}{Anc:List Nat}{x:Nat}{y:Extra}(hK:∀ c,K c .p→c=.p∨c=.e):∀ {log log':List Ent},LogS K log log'→y ∈ exOf Anc ops x log→y=.p∨y=.e∨∃ y' ∈ exA Anc x log',K y y'
 | [],[],_,h=>by cases h
 | e::l,e'::l',hl,h=>by
  obtain⟨⟨⟨h1,_,_⟩,h2⟩,h3⟩:=hl
  have rest:y ∈ exOf Anc ops x l→y=.p∨y=.e∨∃ y' ∈ exA Anc x (e'::l'),K y y':=by
   intro hy
   rcases Vv hK h3 hy with q | q | ⟨y',q1,q2⟩
   ·exact .inl q
   ·exact .inr (.inl q)
   ·refine .inr (.inr ⟨y', ?_, q2⟩)
    simp only[exA]
    split
    ·exact q1
    ·split
     ·exact q1
     ·exact List.mem_cons_of_mem _ q1
  simp only[exOf] at h
  split at h
  ·exact rest h
  ·rename_i hb
   split at h
   ·rcases List.mem_cons.1 h with q | q
    ·subst q
     rw[h1] at hb
     cases hk:e'.k with
     | p=>
      rw[hk] at h2; rcases hK _ h2 with z | z
      ·exact .inl z
      ·exact .inr (.inl z)
     | _=>refine .inr (.inr ⟨_,?_,h2⟩); simp only[exA,hb,hk]; exact List.mem_cons_self
    ·exact rest q
   ·exact rest h
 | [],_::_,h,_=>h.elim
 | _::_,[],h,_=>h.elim
theorem Dj{w:Option Nat}{ex:List Extra}{y:Extra}:∀ {l:List Extra},okX G w ex l=true→y ∈ l→y=.e∨(∃ t a,y=.l t a∧nwS ex a.block=false∧∀ x,w=some x→x≠a.block)∨∃ s c e,y=.a s c e∧liveB (G.get s)=true∧∀ x,w=some x→x≠s
 | [],_,h=>by cases h
 | z::l,h,hy=>by
  have hw:∀ {b:Nat},neW w b=true→∀ x,w=some x→x≠b:=by
   rintro b hb x rfl rfl
   simp [neW] at hb
  cases z with
  | l t a=>
   simp only[okX,Bool.and_eq_true] at h
   rcases List.mem_cons.1 hy with q | q
   ·exact .inr (.inl ⟨t,a,q,by simpa using h.1.1,hw h.1.2⟩)
   ·exact Dj h.2 q
  | a s c e=>
   simp only[okX,Bool.and_eq_true] at h
   rcases List.mem_cons.1 hy with q | q
   ·exact .inr (.inr ⟨s,c,e,q,h.1.1,hw h.1.2⟩)
   ·exact Dj h.2 q
  | e=>
   rcases List.mem_cons.1 hy with q | q
   ·exact .inl q
   ·exact Dj (l:=l) h q
  | _=>cases h
theorem nwS_of{s:Nat}{c:Option (List Value)}{e:TypeId}:∀ {ex:List Extra},Extra.a s c e ∈ ex→nwS ex s=true
 | [],h=>by cases h
 | y::l,h=>by
  rcases List.mem_cons.1 h with q | q
  ·subst q; simp [nwS]
  ·have := nwS_of q
   cases y with
   | a s' _ _=>simp only[nwS]; split <;> first | rfl | exact this
   | _=>exact this
theorem live_not(h:Rs n0 H0 F0 σ F H n G){s:Nat}{i:Si}(hs:σ s=some i)(hn:i.nil=false)(hl:liveB (G.get s)=true):¬ F i.b:=by
 unfold liveB at hl
 split at hl
 ·rename_i hg
  obtain⟨j,hj,b1,b2,_⟩:=h.site _ _ hg
  rw[hs] at hj; cases hj
  exact fun z=>by have:=b2.1 z; cases this
 ·rename_i hg
  obtain⟨j,hj,b1,b2,_⟩:=h.site _ _ hg
  rw[hs] at hj; cases hj
  exact b2
 ·rename_i hg
  obtain⟨j,hj,b1,b2,b3,b4⟩:=h.site _ _ hg
  rw[hs] at hj; cases hj
  rcases b4 with⟨z,_⟩ | ⟨_,b5,_⟩
  ·rw[hn] at z; cases z
  ·exact fun z=>by have:=b5.1 z; cases this
 ·rename_i hg
  obtain⟨j,hj,b1,b2,_⟩:=h.site _ _ hg
  rw[hs] at hj; cases hj
  exact fun z=>by have:=b2.1 z; cases this
 ·cases hl
theorem siX_ok{a:AV}{v:Value}{w:Option Nat}{Q:Nat→Prop}(h:Rs n0 H0 F0 σ F H n G)(ha:VRel σ F H a v)(e:siX G a=some w)(hQ:∀ u i,w=some u→σ u=some i→i.nil=false→¬ F i.b→Q i.b):∀ d m c,v=.slice (some d) m c→Q d.block:=by
 intro d m c hv
 subst hv
 unfold siX at e
 split at e
 ·have ha := ha.un
  unfold DRel at ha
  obtain⟨z,_⟩:=ha
  cases z
 ·rename_i w'
  split at e
  ·rename_i els ee sz hg
   cases e
   unfold VRel at ha
   obtain⟨i,hi,⟨_,z⟩ | ⟨hn,z⟩⟩:=ha
   ·cases z
   ·cases z
    obtain⟨j,hj,_,_,_,b4⟩:=h.site _ _ hg
    rw[hi] at hj; cases hj
    rcases b4 with⟨b4,_⟩ | ⟨_,b5,_⟩
    ·rw[b4] at hn; cases hn
    ·exact hQ _ i rfl hi hn fun z=>by have:=b5.1 z; cases this
  ·cases e
 ·cases e
theorem appendA_els{t t2:TypeId}{x:AV}{u:D}{dst:Option Tmp}{k:KO}{z:D}(e:IX P t t2 x (.d u) dst G k=some z):∃ l,elsD u=some l:=by
 unfold IX at e
 cases hp:appT P t t2 with
 | none=>rw[hp] at e; cases e
 | some p=>
  rw[hp] at e
  cases he:elsD u with
  | none=>simp only[bX,srcA,he] at e; cases e
  | some l=>exact⟨l,rfl⟩
theorem siY_ok{a:AV}{v:Value}{w:Option Nat}{N:Nat→Prop}(hels:∀ u,a=.d u→∃ l,elsD u=some l)(ha:VRel σ F H a v)(e:siY a=some w)(hN:∀ b,N b→¬ F b)(hQ:∀ u i,w=some u→σ u=some i→i.nil=false→¬ F i.b→¬ N i.b):∀ d m c,v=.slice (some d) m c→m=0∨¬ N d.block:=by
 intro d m c hv
 subst hv
 unfold siY at e
 split at e
 ·rename_i u
  obtain⟨l,hl⟩:=hels u rfl
  have ha:=ha.un
  cases u with
  | sl l'=>
   unfold DRel at ha
   rcases ha with⟨z,_⟩ | ⟨b,o,cap,s,z,_,_,q⟩ | ⟨_,_,_,z,_⟩
   ·cases z
   rotate_left
   ·cases z; exact .inl rfl
   ·cases z
    rcases q with q | ⟨q,_⟩
    ·left; rw[q]; rfl
    ·exact .inr fun z=>hN _ z q
  | v x=>
   unfold DRel at ha
   obtain⟨z,_⟩:=ha
   subst z
   cases hl
  | _=>cases hl
 ·rename_i w'
  cases e
  unfold VRel at ha
  obtain⟨i,hi,⟨_,z⟩ | ⟨hn,z⟩⟩:=ha
  ·cases z
  ·cases z
   right
   by_cases hF:F i.b
   ·exact fun z=>hN _ z hF
   ·exact hQ _ i rfl hi hn hF
 ·cases e
theorem YW(h:Rs n0 H0 F0 σ F H n G){Anc:List Nat}{x:Nat}{w:Option Nat}{log log':List Ent}(hl:LogS (KR σ F H n) log log')(hok:okX G w (exA Anc x log') (exA Anc x log')=true) :
  (∀ y ∈ exOf Anc ops x log,ExG H n y)∧(∀ b,ldOf (exOf Anc ops x log) b→¬ nwOf (exOf Anc ops x log) b)∧(∀ b,nwOf (exOf Anc ops x log) b→¬ F b) ∧
   ∀ u i,w=some u→σ u=some i→i.nil=false→¬ F i.b→¬ ldOf (exOf Anc ops x log) i.b∧¬ nwOf (exOf Anc ops x log) i.b:=by
 have hK:∀ c,KR σ F H n c .p→c=.p∨c=.e:=fun c h=>h
 have hnw:∀ b,nwOf (exOf Anc ops x log) b→∃ s c e i,Extra.a s c e ∈ exA Anc x log'∧σ s=some i∧i.nil=false∧i.b=b∧¬ F b:=by
  rintro b ⟨id,c,e,hm,rfl⟩
  rcases Vv hK hl hm with q | q | ⟨y',q1,q2⟩
  ·cases q
  ·cases q
  ·rcases Dj hok q1 with rfl | ⟨t, a, rfl, _⟩ | ⟨s, c', e', rfl, l1, l2⟩
   ·rcases q2 with q | q | ⟨_,_,q,_⟩ <;> cases q
   ·obtain⟨_,_,_,q,_⟩:=q2; cases q
   ·obtain ⟨id', cc, t, i, g1, g2, g3, g4, g5⟩ := q2
    cases g1
    exact⟨s,c',e',i,q1,g3,g4,g5,by rw[← g5]; exact live_not h g3 g4 l1⟩
 have hld:∀ b,ldOf (exOf Anc ops x log) b→F b∨∃ s i,σ s=some i∧i.nil=false∧i.b=b∧nwS (exA Anc x log') s=false∧∀ u,w=some u→u≠s:=by
  rintro b ⟨t,a,hm,rfl⟩
  rcases Vv hK hl hm with q | q | ⟨y',q1,q2⟩
  ·cases q
  ·cases q
  ·rcases Dj hok q1 with rfl | ⟨t', a', rfl, l1, l2⟩ | ⟨s, c', e', rfl, l1, l2⟩
   ·rcases q2 with q | q | ⟨t1, a1, q, _, _, q4⟩
    ·cases q
    ·cases q
    ·cases q; exact .inl q4
   ·obtain ⟨t1, a1, i, g1, g2, g3, g4, g5, g6⟩ := q2
    cases g1
    exact .inr ⟨a'.block,i,g4,g5,g6.symm,l1,l2⟩
   ·obtain⟨_,_,_,_,q,_⟩:=q2; cases q
 refine⟨fun y hy=>?_,fun b h1 h2=>?_,fun b h2=>?_,fun u i hw hi hn hF=>⟨fun h1=>?_,fun h2=>?_⟩⟩
 ·rcases Vv hK hl hy with q | q | ⟨y', q1, q2⟩
  ·exact .inl q
  ·exact .inr (.inl q)
  ·rcases Dj hok q1 with rfl | ⟨t', a', rfl, l1, l2⟩ | ⟨s, c', e', rfl, l1, l2⟩
   ·rcases q2 with q | q | ⟨t1, a1, q, q2, q3, _⟩
    ·exact .inl q
    ·exact .inr (.inl q)
    ·exact .inr (.inr (.inl ⟨t1,a1,q,q2,q3⟩))
   ·obtain ⟨t1, a1, i, g1, g2, g3, _⟩ := q2
    exact .inr (.inr (.inl ⟨t1,a1,g1,g2,g3⟩))
   ·obtain ⟨id, cc, t, i, g1, g2, _⟩ := q2
    exact .inr (.inr (.inr ⟨id,cc,t,g1,g2⟩))
 ·obtain ⟨s, c, e, i, a1, a2, a3, a4, a5⟩ := hnw b h2
  rcases hld b h1 with q | ⟨s',i',b1,b2,b3,b4,_⟩
  ·exact a5 q
  ·have := h.inj s s' i i' a2 b1 a3 b2 (by omega)
   subst this
   rw[nwS_of a1] at b4; cases b4
 ·obtain⟨_,_,_,_,_,_,_,_,a5⟩:=hnw b h2; exact a5
 ·rcases hld _ h1 with q | ⟨s', i', b1, b2, b3, b4, b5⟩
  ·exact hF q
  ·exact b5 u hw (h.inj u s' i i' hi b1 hn b2 b3.symm)
 ·obtain ⟨s, c, e, i', a1, a2, a3, a4, a5⟩ := hnw _ h2
  rcases Dj hok a1 with q | ⟨_,_,q,_⟩ | ⟨s',c',e',q,l1,l2⟩
  ·cases q
  ·cases q
  ·cases q
   exact l2 u hw (h.inj u s i i' hi a2 hn a3 a4.symm)
theorem effK_plain{ex:List Extra}(hex:∀ y ∈ ex,y=.p∨y=.e){op:Hp→Nat→(Value→Hp→Nat→Option ρ)→Option ρ}{k:Value→Hp→Nat→Option ρ} :
  effK P ex H n op k=op H n k:=by
 cases ex with
 | nil=>rfl
 | cons y l=>
  have hf:fltX (y::l)=[]:=by
   cases hfl:fltX (y::l) with
   | nil=>rfl
   | cons z l'=>
    obtain⟨h1,h2⟩:=jQ (y:=z) (ex:=y::l) (by rw[hfl]; exact List.mem_cons_self)
    rcases hex z h2 with q | q <;> subst q <;> rcases h1 with⟨_,_,q⟩ | ⟨_,_,_,q⟩ <;> cases q
  have hex':∀ z ∈ y::l,ExG H n z:=fun z hz=>(hex z hz).elim .inl (fun q=>.inr (.inl q))
  unfold effK
  obtain⟨m1,m2,_,_,_⟩:=pz (P:=P) hex' H H
  rw[hf] at m1 m2
  have m1:jJ (y::l) H=some H:=m1
  have m2:kX (y::l) H=H:=m2
  simp only[m1,aj,m2]
  congr 1
  funext v H2 n2
  obtain⟨_,_,m3,_,_⟩:=pz (P:=P) hex' H H2
  obtain⟨_,_,_,m4,_⟩:=pz (P:=P) hex' H H2
  obtain⟨_,_,_,_,m5⟩:=pz (P:=P) hex' H2 H2
  rw[hf] at m3 m4
  have m3:lz (y::l) H H2=some H2:=m3
  have m4:jZ (y::l) H H2=H2:=m4
  simp only[m3,aj,m4,m5]
  rfl
theorem kind_e{o:Oper}:isE o=true↔dj o.op=.e:=by
 unfold isE; cases dj o.op <;> simp
theorem make_eq{t:TypeId}{l c:Value}:jk P t l c (bare H n)=(OK P t l c).map fun q=>(.slice (some ⟨n,0,none⟩) q.1 q.2.1,mz (bare H n) q.2.2.1 q.2.2.2 none):=by
 unfold jk OK
 cases dY P t with
 | none=>rfl
 | some e=>
  cases l with
  | int kl il=>
   cases kl with
   | i64=>
    cases il with
    | ofNat l=>
     cases c with
     | int kc ic=>
      cases kc with
      | i64=>
       cases ic with
       | ofNat c=>
        simp only
        cases szT P e with
        | none=>rfl
        | some s=>
         cases sK P e with
         | none=>rfl
         | some b=>
          cases jx P e with
          | none=>rfl
          | some z=>
           simp only
           by_cases q:l≤c∧yW c s b=true∧(aQ z).length=s
           ·rw[if_pos q,if_pos q]; rfl
           ·rw[if_neg q,if_neg q]; rfl
       | negSucc c=>rfl
      | _=>rfl
     | _=>rfl
    | negSucc l=>rfl
   | _=>rfl
  | _=>rfl
theorem opD_A{x:Nat}{dirty:Bool}{o:Oper}{Anc:List Nat}{log log':List Ent}{K:KD ρ}{k:KO}(hpc:∀ f,lk (flO P f) (cal.call f) (pc f))(h:Rs n0 H0 F0 σ F H n G)(ht:TRl σ F H T A)
  (hs:LogS (fun c c'=>c'=.p→c=.p∨c=.e) log log') (hl:dirty=false→LogS (KR σ F H n) log log') (hex:exOkA Anc x dirty o A G log'=true)
  (hk:∀ σ' F' H' n' G' v a q ex,Rs n0 H0 F0 σ' F' H' n' G'→VRel σ' F' H' a v→Nx σ F H n σ' F' H' n' q→KR σ' F' H' n' ex (DW o A)→Out n0 H0 F0 (K v ex H' n') (k a q G')) :
  Out n0 H0 F0 (opD P cal (exOf Anc ops x log) o T H n K) (opA P pc (ckA Anc x log') o.op o.type o.dst A G k):=by
 unfold opD
 cases hko:dj o.op with
 | p=>
  simp only
  have e:(∀ t x lo hi,o.op≠.slice t x lo hi none)→opA P pc (ckA Anc x log') o.op o.type o.dst A G k=opR P o.op o.type A G fun a=>k a none G:=by
   intro hns
   cases hop:o.op with
   | slice t x lo hi mx=>
    cases mx with
    | none=>exact absurd hop (hns t x lo hi)
    | some _=>rfl
   | call c=>
    rw[hop] at hko
    obtain⟨callee,args,ts⟩:=c
    cases callee with
    | builtin b=>cases b <;> first | rfl | (simp [dj] at hko)
    | _=>simp [dj] at hko
   | makeMap t r=>rw[hop] at hko; cases r <;> simp [dj] at hko
   | _=>first | rfl | (rw[hop] at hko; simp [dj] at hko)
  by_cases hsl:∃ t x lo hi,o.op=.slice t x lo hi none
  ·obtain ⟨t, x', lo, hi, hop⟩ := hsl
   rw[hop]
   simp only[opA]
   refine Out.getK fun a ha=>Out.getK fun lo' hlo=>Out.getK fun hi' hhi=>?_
   obtain⟨v,v1,v2⟩:=dJ ht ha
   obtain⟨l,l1,l2⟩:=Pk ht hlo
   obtain⟨u,u1,u2⟩:=Pk ht hhi
   simp only[opE,v1,l1,u1,bX]
   exact sliceA_ok (kp:=fun v=>K v .p H n) h v2 l2 u2 fun F' G' v a q1 q2 q3=>hk σ F' H n G' v a none .p q1 q3 (Nx.frz q2) (by unfold DW; rw[hko]; exact .inl rfl)
  rw[e (fun t x lo hi z=>hsl ⟨t,x,lo,hi,z⟩)]
  exact opR_ok h ht fun v a hv=>(hk σ F H n G v a none .p h hv Nx.refl (by unfold DW; rw[hko]; exact .inl rfl))
 | l=>
  simp only
  cases hop:o.op with
  | load t a=>
   simp only[opA,opR]
   refine Out.getK fun a' ha=>?_
   obtain⟨v,h1,h2⟩:=dJ ht ha
   rw[h1,bX]
   refine loadA_ok' (kc:=fun ad v=>K v (.l t ad) H n) h h2 fun ad hadr had v' w hpr hload hv=>(hk σ F H n G v' w none (.l t ad) h hv Nx.refl ?_)
   unfold DW
   rw[hko]
   simp only[hop,ha]
   have own:∀ {s o':Nat} {i:Si},σ s=some i→i.nil=false→v=.pointer (some ⟨i.b,o',none⟩)→KR σ F H n (.l t ad) (.l 0 ⟨s,0,none⟩):=by
    rintro s o' i hi hn rfl
    cases hadr
    exact⟨t,_,i,rfl,had,hpr,hi,hn,rfl⟩
   cases a' with
   | loc s o'=>unfold VRel at h2; obtain⟨i,hi,hn,e⟩:=h2; exact own hi hn e
   | elo s q o'=>unfold VRel at h2; obtain⟨i,hi,hn,e⟩:=h2; exact own hi hn e
   | d y=>
    refine .inr (.inr ⟨t,ad,rfl,had,hpr,?_⟩)
    have h2:=h2.un
    cases y with
    | ref c=>unfold DRel at h2; obtain⟨_,b,o',rfl,hF,_⟩:=h2; cases hadr; exact hF
    | v y=>unfold DRel at h2; obtain⟨rfl,hsc⟩:=h2; cases v <;> simp [aX,uJ] at hadr hsc <;> simp_all
    | agg l=>unfold DRel at h2; obtain⟨_,vs,rfl,_⟩:=h2; cases hadr
    | sl l=>unfold DRel at h2; rcases h2 with⟨rfl,_⟩ | ⟨_,_,_,_,rfl,_⟩ | ⟨_,_,_,rfl,_⟩ <;> cases hadr
    | fn f x y=>unfold DRel at h2; obtain⟨_,_,rfl,_⟩:=h2; cases hadr
    | tup l=>unfold DRel at h2; obtain⟨_,rfl,_⟩:=h2; cases hadr
    | opq=>unfold DRel at h2; rw[h2.2.2.2.2] at hadr; cases hadr
    | yld l=>unfold DRel at h2; subst h2; cases hadr
    | map es c=>unfold DRel at h2; obtain⟨_,rfl,_⟩:=h2; cases hadr
   | _=>trivial
  | call c=>
   rw[hop] at hko
   obtain⟨callee,args,ts⟩:=c
   cases callee with
   | builtin b=>cases b <;> simp [dj] at hko
   | _=>simp [dj] at hko
  | makeMap t r=>rw[hop] at hko; cases r <;> simp [dj] at hko
  | _=>rw[hop] at hko; simp [dj] at hko
 | a=>
  simp only
  have kx:DW o A=match o.dst with
   | some s=>.a s (some []) 0
   | none=>.m 0 undef undef false undef:=by unfold DW; rw[hko]
  have kop:∀ {c:Option (List Value)} {e:TypeId},KOkN o.dst n0 H0 F0 σ F H n (fun v H' n'=>K v (.a n c e) H' n') k:=by
   rintro c e σ' F' H' n' G' v a q r1 r2 r3 ⟨s,i,hd,hi,hn,hb,hlt⟩
   refine(hk σ' F' H' n' G' v a q (.a n c e) r1 r2 r3 ?_)
   rw[kx,hd]
   exact⟨n,c,e,i,rfl,hlt,hi,hn,hb⟩
  cases hop:o.op with
  | alloc e=>
   simp only[opA]
   cases hz:jx P e with
   | none=>
    unfold allocA
    refine Out.getK fun z hzz=>?_
    obtain⟨zv,z1,_⟩:=GY (F:=F) (H:=H) hzz
    rw[hz] at z1; cases z1
   | some z=>
    have:=allocA_ok (P:=P) (e:=e) (dst:=o.dst) h (kop (c:=some (aQ z)) (e:=e))
    unfold jY at this
    rw[hz] at this
    exact this
  | box e x=>
   simp only[opA]
   refine Out.getK fun a ha=>?_
   obtain⟨v,h1,h2⟩:=dJ ht ha
   rw[h1,bX]
   exact boxA_ok (e:=e) h h2 (kop (c:=some (aQ v)) (e:=e))
  | buildSlice t len parts=>
   simp only[opA]
   refine Out.getK fun ps hps=>?_
   obtain⟨vs,v1,v2⟩:=IQ ht hps
   rw[v1,bX]
   cases hr:zw P t len vs with
   | none=>
    have:=rowA_ok (P:=P) (t:=t) (len:=len) (dst:=o.dst) h (GK v2) (kop (c:=some []) (e:=0))
    unfold rowK at this
    rw[hr] at this
    exact this
   | some q=>
    have:=rowA_ok (P:=P) (t:=t) (len:=len) (dst:=o.dst) h (GK v2) (kop (c:=some q.1) (e:=q.2))
    unfold rowK at this
    rw[hr] at this
    exact this
  | makeSlice t l c=>
   simp only[opA]
   refine Out.getK fun a ha=>Out.getK fun b hb=>?_
   obtain⟨u,u1,u2⟩:=dJ ht ha
   obtain⟨v,v1,v2⟩:=dJ ht hb
   refine my u2 fun du hu=>my v2 fun dv hv=>?_
   rw[u1,v1,bX,bX]
   cases hr:OK P t u v with
   | none=>
    have:=qjw (P:=P) (t:=t) (dst:=o.dst) h hu hv (kop (c:=some []) (e:=0))
    rw[make_eq,hr] at this
    exact this
   | some q=>
    have:=qjw (P:=P) (t:=t) (dst:=o.dst) h hu hv (kop (c:=some q.2.2.1) (e:=q.2.2.2))
    rw[make_eq,hr] at this
    exact this
  | makeMap t r=>
   cases r with
   | some r=>rw[hop] at hko; simp [dj] at hko
   | none=>simp only[opA]; exact newMap_ok h (kop (c:=none) (e:=0))
  | call c=>
   rw[hop] at hko
   obtain⟨callee,args,ts⟩:=c
   cases callee with
   | builtin b=>cases b <;> simp [dj] at hko
   | _=>simp [dj] at hko
  | _=>rw[hop] at hko; simp [dj] at hko
 | e=>
  simp only
  have hE:isE o=true:=kind_e.2 hko
  have kx:DW o A=.p:=by unfold DW; rw[hko]
  have kop:KOk n0 H0 F0 σ F H n (fun v H' n'=>K v .e H' n') k:=fun σ' F' H' n' G' v a q r1 r2 r3=>(hk σ' F' H' n' G' v a q .e r1 r2 r3 (by rw[kx]; exact .inr rfl))
  cases hexA:exA Anc x log' with
  | nil=>
   have hpl:∀ y ∈ exOf Anc ops x log,y=.p∨y=.e:=by
    intro y hy
    rcases Vv (fun c h=>h rfl) hs hy with q | q | ⟨y',q1,_⟩
    ·exact .inl q
    ·exact .inr q
    ·rw[hexA] at q1; cases q1
   rw[effK_plain hpl]
   exact opA_ok hpc h ht kop
  | cons y0 ys=>
   unfold exOkA at hex
   rw[hE,hexA] at hex
   simp only[Bool.and_eq_true,Bool.not_eq_true'] at hex
   have hl:=hl hex.1
   cases hc:callish o.op with
   | false=>
    rw[hc] at hex
    simp only at hex
    cases hw:wrS o A with
    | none=>
     rw[hw] at hex
     simp only at hex
     cases hap:apS o A G with
     | none=>rw[hap] at hex; cases hex.2
     | some p=>
     obtain⟨w,u⟩:=p
     rw[hap] at hex
     simp only[Bool.and_eq_true] at hex
     have hokw:okX G w (exA Anc x log') (exA Anc x log')=true:=by rw[hexA]; exact hex.2.1
     have hoku:okX G u (exA Anc x log') (exA Anc x log')=true:=by rw[hexA]; exact hex.2.2
     obtain⟨g1,g2,g3,g4⟩:=YW (ops:=ops) h hl hokw
     obtain⟨_,_,_,g5⟩:=YW (ops:=ops) h hl hoku
     have lt:∀ b,ldOf (exOf Anc ops x log) b∨nwOf (exOf Anc ops x log) b→b<n:=by
      rintro b (⟨t,a,hm,rfl⟩ | ⟨id,c,e,hm,rfl⟩)
      ·rcases g1 _ hm with q | q | ⟨t', a', q, q1, _⟩ | ⟨_, _, _, q, _⟩ <;> cases q
       exact q1
      ·rcases g1 _ hm with q | q | ⟨t', a', q, q1, _⟩ | ⟨_, _, _, q, q1⟩ <;> cases q
       exact q1
     unfold apS at hap
     cases hop:o.op with
     | call c=>
      rw[hop] at hap
      simp only at hap
      split at hap
      ·rename_i hb
       simp only[opA,hb]
       split
       ·rename_i t t2 hts
        refine Out.getK fun aS has=>?_
        rw[has] at hap
        simp only at hap
        split at hap
        ·rename_i x1 y1 hxy
         try simp only[hxy]
         obtain⟨vs,v1,v2⟩:=ov ht has
         have v2:=ow v2
         rw[hxy] at v2
         unfold bQ at v2
         obtain⟨xv,vs',rfl,hx1,v3⟩:=v2
         unfold bQ at v3
         obtain⟨yv,vs'',rfl,hy1,v4⟩:=v3
         unfold bQ at v4
         subst v4
         split at hap
         ·rename_i w' u' hsx hsy
          cases hap
          intro z ez
          cases hkc:keepC c with
          | true=>rw[hkc] at ez; cases ez
          | false=>
          rw[hkc] at ez
          obtain⟨v,st,σ',F',G',a,q,e1,r1,r2,r3,e2⟩:=appendA_run h hx1 hy1 ez
          have hyn:∀ a m c,yv=.slice (some a) m c→m=0∨¬ nwOf (exOf Anc ops x log) a.block:=siY_ok (F:=F) (fun u hu=>by subst hu; exact appendA_els ez) hy1 hsy g3 fun u i hu h1 h2 h3=>(g5 u i hu h1 h2 h3).2
          have hxn:∀ a m c,xv=.slice (some a) m c→¬ nwOf (exOf Anc ops x log) a.block∧¬ ldOf (exOf Anc ops x log) a.block:=siX_ok (Q:=fun b=>¬ nwOf (exOf Anc ops x log) b∧¬ ldOf (exOf Anc ops x log) b) h hx1 hsx fun u i hu h1 h2 h3=>⟨(g4 u i hu h1 h2 h3).2,(g4 u i hu h1 h2 h3).1⟩
          obtain⟨v',Hm,H2,H3,n3,s1,s2,⟨rfl,rfl,m1,m2⟩,s4,s5⟩:=qkx (ρ:=ρ) (P:=P) (ex:=exOf Anc ops x log) (H:=H) (n:=n) (op:=fun H n k=>opE P cal (.call c) o.type T H n k) g1 g2
           (R:=fun Hm v2 H2 n2=>v2=v∧n2=st.n∧(∀ b,ldOf (exOf Anc ops x log) b∨nwOf (exOf Anc ops x log) b→st.H.get b=H.get b)∧∀ b,Hm.get b=H.get b→H2.get b=st.H.get b) (fun Hm hm hG=>by
            obtain⟨H2,q1,q2,q3,q4⟩:=append_mask hG lt hyn (fun a m c ex=>⟨(hxn a m c ex).1,(hxn a m c ex).2,hm.2.1 _ (hxn a m c ex).1 (hxn a m c ex).2⟩) e1
            refine⟨v,H2,st.n,fun k=>?_,fun b hb=>(q3 b (.inl hb)).1,rfl,rfl,fun b hb=>(q3 b hb).2,q4⟩
            simp only[opE,GV,hb,v1,bX]
            have:fK P .append c.argTypes.toList c o.type [xv,yv] Hm n k=stK (cZ P (bare Hm n) t t2 xv yv) k:=by unfold fK; simp only[hts,hkc]; rfl
            rw[this,q1]
            rfl)
          rw[s1]
          have heq:∀ b,H3.get b=st.H.get b:=fun b=>by
           by_cases q1:ldOf (exOf Anc ops x log) b
           ·rw[s4 b (.inl q1),m1 b (.inl q1)]
           ·by_cases q2 : nwOf (exOf Anc ops x log) b
            ·rw[s4 b (.inr q2),m1 b (.inr q2)]
            ·rw[s5 b q1 q2]; exact m2 b (s2.2.1 b q2 q1)
          obtain⟨t1,t2⟩:=r1.call (n':=st.n) (H':=H3) (Nat.le_refl _) (fun b _=>heq b) (fun _ z=>z) (fun _ z=>.inl z)
          exact kop _ _ _ _ _ _ _ q t1 (r2.mono (fun _ _ z=>z) (fun _ z=>z) (Fz.of_eq fun b _=>heq b)) (r3.thenR t2) z e2
         ·cases hap
        ·cases hap
       ·exact Out.no
      ·cases hap
     | _=>rw[hop] at hap; cases hap
    | some w=>
     rw[hw] at hex
     have hok:okX G (some w) (exA Anc x log') (exA Anc x log')=true:=by rw[hexA]; exact hex.2
     obtain⟨g1,g2,g3,g4⟩:=YW (ops:=ops) h hl hok
     cases hop:o.op with
     | store t a xx=>
      simp only[opA]
      refine Out.getK fun aa ha=>Out.getK fun xa hx=>?_
      obtain⟨av,a1,a2⟩:=dJ ht ha
      obtain⟨v,v1,v2⟩:=dJ ht hx
      intro y ey
      obtain⟨w',hw',i,X,G',s1,s2,hFi,s3,s4,s5⟩:=storeA_run (P:=P) h a2 v2 y ey
      have hww:w'=w:=by
       unfold wrS at hw
       rw[hop] at hw
       simp only[ha] at hw
       rw[hw'] at hw; cases hw; rfl
      subst hww
      obtain⟨n1,n2⟩:=g4 w' i rfl s1 s2 hFi
      obtain⟨v',Hm,H2,H3,n3,e1,e2,⟨rfl,rfl,rfl⟩,e4,e5⟩:=qkx (ρ:=ρ) (P:=P) (ex:=exOf Anc ops x log) (H:=H) (n:=n) (op:=fun H n k=>opE P cal (.store t a xx) o.type T H n k) g1 g2
       (R:=fun Hm v H2 n2=>v=undef∧H2=Hm.set i.b X∧n2=n) (fun Hm hm _=>by
        refine⟨undef,Hm.set i.b X,n,fun k=>?_,fun b hb=>?_,rfl,rfl,rfl⟩
        ·simp only [opE, a1, v1, bX]
         rw[s3 Hm (hm.2.1 _ n2 n1),aj]
        ·rw[Tr.get_set,if_neg (fun z=>by subst z; exact n1 hb)])
      rw[e1]
      obtain ⟨t1, t2⟩ := s4 H3 (fun b => by
       by_cases q:b=i.b
       ·subst q
        rw[if_pos rfl,e5 _ n1 n2,Tr.get_set,if_pos rfl]
       ·rw [if_neg q]
        by_cases q1:ldOf (exOf Anc ops x log) b
        ·exact e4 b (.inl q1)
        ·by_cases q2 : nwOf (exOf Anc ops x log) b
         ·exact e4 b (.inr q2)
         ·rw [e5 b q1 q2, Tr.get_set, if_neg q]
          exact e2.2.1 b q2 q1)
      exact kop _ _ _ _ _ _ _ none t1 tup0 t2 y s5
     | _=>simp [wrS,hop] at hw
   | true=>
    cases hop:o.op with
    | call c=>
     rw[hop] at hc
     simp only[callish] at hc
     split at hc
     ·rename_i f hf
      simp only[opA,hf]
      refine Out.getK fun fa hfa=>Out.getK fun aS has=>?_
      obtain⟨fv,f1,f2⟩:=oz ht hfa
      obtain⟨vs,v1,v2⟩:=ov ht has
      intro y e
      obtain⟨F1,G1,F2,G2,d,r1,r2,hokb,r3,r3',r5,r6,r4⟩:=callA_run (P:=P) (cal:=cal) hpc h f2 (ow v2) (thaw_ok hfa) e
      have hokb:okX G1 none (exA Anc x log') (exA Anc x log')=true:=hokb
      ·
       obtain⟨g1,g2,g3,_⟩:=YW (ops:=ops) r1 (hl.mono fun c c' z=>KR.step h (Nx.frz (n:=n) (H:=H) (σ:=σ) r2) z) hokb
       have lt:∀ b,ldOf (exOf Anc ops x log) b∨nwOf (exOf Anc ops x log) b→b<n:=by
        rintro b (⟨t,a,hm,rfl⟩ | ⟨id,c,e,hm,rfl⟩)
        ·rcases g1 _ hm with q | q | ⟨t', a', q, q1, _⟩ | ⟨_, _, _, q, _⟩ <;> cases q
         exact q1
        ·rcases g1 _ hm with q | q | ⟨t', a', q, q1, _⟩ | ⟨_, _, _, q, q1⟩ <;> cases q
         exact q1
       obtain⟨v,Hm,H2,H3,n2,s1,s2,⟨s3,s4,F',s5,s6,s7⟩,s8,s9⟩:=qkx (ρ:=ρ) (P:=P) (ex:=exOf Anc ops x log) (H:=H) (n:=n) (op:=fun H n k=>opE P cal (.call c) o.type T H n k) g1 g2
        (R:=fun Hm v H2 n2=>n≤n2∧Keep n Hm H2∧∃ F',(∀ b,F1 b→F' b)∧(∀ b,F' b→F1 b∨(n≤b∧b<n2))∧DRel F' H2 d v)
        (fun Hm hm _=>by
         obtain⟨v,H',n',F',t1,t2,t3,t4,t5,t6⟩:=r4 Hm (fun b hb=>⟨fun o vs z=>(hm.2.2 b (fun q=>g3 b q hb) o vs).1 z,fun es c z=>by
          rw[hm.2.1 b (fun q=>g3 b q hb) (fun q=>?_)]; exact z
          obtain⟨t',a',hm',rfl⟩:=q
          rcases g1 _ hm' with q | q | ⟨t1,a1,q,_,B,c1,q2,q3⟩ | ⟨_,_,_,q,_⟩ <;> cases q
          rw[z] at q2; cases q2; cases q3⟩)
         exact⟨v,H',n',fun k=>by simp only[opE,GV,hf,f1,v1,bX,t1],fun b hb=>t3 b (lt b (.inl hb)),t2,t3,F',t4,t5,t6⟩)
       rw[s1]
       have hkp:Keep n H H3:=by
        intro b hb
        by_cases q1:ldOf (exOf Anc ops x log) b
        ·exact s8 b (.inl q1)
        ·by_cases q2 : nwOf (exOf Anc ops x log) b
         ·exact s8 b (.inr q2)
         ·rw[s9 b q1 q2,s4 b hb]; exact s2.2.1 b q2 q1
       have hfz:Fz F' H2 H3:=by
        refine fun b hb=>⟨fun o vs z=>?_,fun es c z=>?_⟩
        rotate_left
        ·by_cases q1 : ldOf (exOf Anc ops x log) b
         ·exfalso
          have z1:Hm.get b=some (.map es c):=(s4 b (lt b (.inl q1))).symm.trans z
          obtain⟨t',a',hm',rfl⟩:=q1
          rcases g1 _ hm' with q | q | ⟨t1,a1,q,_,B,c1,q2,q3⟩ | ⟨_,_,_,q,_⟩ <;> cases q
          obtain⟨B',c',w1,w2,_⟩:=(s2.2.2 _ (g2 _ ⟨t',a',hm',rfl⟩) 0 []).1 ⟨B,c1,q2,q3,fun k v hv=>by simp at hv⟩
          rw[z1] at w1; cases w1; cases w2
         ·by_cases q2 : nwOf (exOf Anc ops x log) b
          ·rcases s6 b hb with z1 | z1
           ·exact absurd z1 (g3 b q2)
           ·have:=lt b (.inr q2); omega
          ·rw[s9 b q1 q2]; exact z
        by_cases q1:ldOf (exOf Anc ops x log) b
        ·have z1 : fx Hm b o vs := lV (s4 b (lt b (.inl q1))).symm z
         exact lV (s8 b (.inl q1)) ((s2.2.2 b (g2 b q1) o vs).2 z1)
        ·by_cases q2 : nwOf (exOf Anc ops x log) b
         ·rcases s6 b hb with z1 | z1
          ·exact absurd z1 (g3 b q2)
          ·have:=lt b (.inr q2); omega
         ·exact lV (s9 b q1 q2) z
       obtain⟨F3,q1,q2,q3⟩:=call_next r3 r3' r5 s3 hkp s5 s6 (s7.mono (fun _ z=>z) hfz)
       exact hk _ _ _ _ _ _ _ none .e q1 q2 q3 (by rw[kx]; exact .inr rfl) y r6
     ·cases hc
    | _=>rw[hop] at hc; cases hc
 | m=>
  simp only
  cases hop:o.op with
  | lookup t a b ok=>
   simp only[opA,opR]
   refine Out.getK fun a' ha=>Out.getK fun b' hb=>?_
   obtain⟨u,u1,u2⟩:=dJ ht ha
   obtain⟨v,v1,v2⟩:=dJ ht hb
   refine my v2 fun dv hv=>Out.bindO fun es hes=>Out.bindO fun d hd=>?_
   obtain⟨w,w1,w2⟩:=lookD_ok (mapA_ok h u2 hes) hv hd
   rw[u1,v1,bX,bX,w1,aj]
   exact hk _ _ _ _ _ _ _ none _ h (.dat w2) Nx.refl (by unfold DW; rw[hko]; trivial)
  | call c=>
   rw[hop] at hko
   obtain⟨callee,args,ts⟩:=c
   cases callee with
   | builtin b=>cases b <;> simp [dj] at hko
   | _=>simp [dj] at hko
  | makeMap t r=>rw[hop] at hko; cases r <;> simp [dj] at hko
  | _=>rw[hop] at hko; simp [dj] at hko
theorem yldA_no{yk:YK}{y:Nat × List AV}{r:Option ρ}{z:Extra}{es:List Extra}{k:AV→Tr Bx→Option D}(hn:∀ l xs,yk.f l xs none none=none):Out n0 H0 F0 r (yldA yk y G fun v G=>nilK (z::es) (k v G)):=by
 unfold yldA
 refine Out.getK fun r hr=>?_
 show OutP _ (yk.f _ _ none none)
 rw[hn]; exact Out.no
theorem Hj{yk:YK}{Fam:KI ρ→Prop}(hpc:∀ f,lk (flO P f) (cal.call f) (pc f))(hy:YOk P cal yk n0 Fam F0){Anc:List Nat}{K:Tm→Hp→Nat→Option ρ}{k:Tr AV→Tr Bx→Option D}(hk:TK n0 Fam F0 K k) :
  ∀(l:List Nat) (dirty:Bool) (log':List Ent) (H0:KI ρ),Fam H0→∀(σ:Nat→Option Si) (F:Nat→Prop) (g:Reg) (A:Tr AV) (G:Tr Bx),Rs n0 H0 F0 σ F g.H g.n G→TRl σ F g.H g.T A→LogS (fun c c'=>c'=.p→c=.p∨c=.e) g.log log' →
   (dirty=false→LogS (KR σ F g.H g.n) g.log log')→Out n0 H0 F0 (sk P cal N ops Anc l g fun g=>K g.T g.H g.n) (mW P pc yk N ops Anc l dirty log' A G k)
 | [],dirty,log',H0,hF,σ,F,g,A,G,h,ht,hs,hd=>hk H0 hF σ F g.H g.n g.T A G h ht
 | x::rest,dirty,log',H0,hF,σ,F,g,A,G,h,ht,hs,hd=>by
  simp only[sk,mW]
  cases ho:ops[x]? with
  | none=>exact Out.no
  | some o=>
   simp only
   obtain⟨e1,e2⟩:=hs.slot (Anc:=Anc) (x:=x) (dst:=o.dst) (slots:=cj ops o)
   rw[e1,e2]
   generalize (inN N o.dst && zJ Anc log' x o.dst (cj ops o) && !nK log' x && (!isE o || rest.all fun y=>bit Anc y x))=b1
   cases b1 with
   | false=>exact Out.no
   | true=>
    simp only
    have next:∀ A,TRl σ F g.H g.T A→∀ kx,(∀ c,KR σ F g.H g.n c kx→kx=.p→c=.p∨c=.e)→∀ σ' F' H' n' G' v a q ex,Rs n0 H0 F0 σ' F' H' n' G'→VRel σ' F' H' a v→Nx σ F g.H g.n σ' F' H' n' q→KR σ' F' H' n' ex kx →
      Out n0 H0 F0 (sk P cal N ops Anc rest (addE g x o.dst (cj ops o) v ex H' n') fun g=>K g.T g.H g.n)
       (mW P pc yk N ops Anc rest dirty (entA x o.dst (cj ops o) kx::unwL q log') (putA (zx q A) o.dst a) G' k):=by
     intro A hA kx hkx σ' F' H' n' G' v a q ex r1 r2 r3 r4
     refine Hj hpc hy hk rest _ _ H0 hF σ' F' _ _ G' r1 ((r3.tr _ A hA).put r2) ⟨⟨⟨rfl,rfl,rfl⟩,fun z=>?_⟩,hs.unw fun c c' z e=>z (unwX_p e)⟩ fun hdd=>?_
     ·have z : kx = .p := z
      subst z; exact r4
     ·exact⟨⟨⟨rfl,rfl,rfl⟩,r4⟩,(hd hdd).unw fun c c' z=>KR.step h r3 z⟩
    have run:∀ A,TRl σ F g.H g.T A→Out n0 H0 F0 (opD P cal (exOf Anc ops x g.log) o (eZ g.T (cj ops o)) g.H g.n fun v ex H n=>sk P cal N ops Anc rest (addE g x o.dst (cj ops o) v ex H n) fun g=>K g.T g.H g.n)
      (match exOkA Anc x dirty o (oY A (cj ops o)) G log' with
       | false=>none
       | true=>stepA P pc yk (ckA Anc x log') o.op o.type o.dst (oY A (cj ops o)) G (fun v q G=>mW P pc yk N ops Anc rest dirty (entA x o.dst (cj ops o) (DW o (oY A (cj ops o)))::unwL q log') (putA (zx q A) o.dst v) G k) (fun v G=>nilK (exA Anc x log') (mW P pc yk N ops Anc rest true (entA x o.dst (cj ops o) .p::log') (putA A o.dst v) G k))):=by
     intro A hA
     cases hex:exOkA Anc x dirty o (oY A (cj ops o)) G log' with
     | false=>exact Out.no
     | true=>
      simp only
      unfold stepA
      split
      ·exact opD_A hpc h (hA.restr _) hs hd hex (next A hA _ (fun c z1 z2=>by rw[z2] at z1; exact z1))
      ·rename_i y hyo
       obtain⟨c,f,vs,h1,h2,h3,h4,h5⟩:=yldO_some (l:=y.1) (aS:=y.2) (hA.restr _) (yldB_some hyo)
       have hko:dj o.op=.e:=by
        rw[h1]; obtain⟨cc,aa,tt⟩:=c; simp only at h2; subst h2; rfl
       cases hexA:exA Anc x log' with
       | cons _ _=>exact yldA_no hy.no
       | nil=>
        have hpl:∀ y ∈ exOf Anc ops x g.log,y=.p∨y=.e:=by
         intro y hy
         rcases Vv (fun c h=>h rfl) hs hy with q | q | ⟨y',q1,_⟩
         ·exact .inl q
         ·exact .inr q
         ·rw[hexA] at q1; cases q1
        unfold opD
        rw[hko]
        simp only
        rw[effK_plain hpl,h1]
        simp only[opE,GV,h2,h3,h4,bX]
        refine yldA_ok hy hF h h5 fun b H1 F1 H' n' G' g1 _ g2 g3 g5=>?_
        exact Hj hpc hy hk rest true _ H1 g1 σ F1 _ _ G' g2 ((hA.mono (fun _ _ z=>z) g3 g5).put (by unfold VRel; rfl)) ⟨⟨⟨rfl,rfl,rfl⟩,fun _=>.inr rfl⟩,hs⟩ (fun z=>by cases z)
    unfold stepD
    cases hg:o.guard with
    | none=>exact run A ht
    | some gg=>
     obtain⟨j,want⟩:=gg
     refine Out.getK fun t htt=>?_
     simp only
     have hin:t ∈ cj ops o:=by
      unfold cj
      rw[hg]
      unfold PQ at htt
      split at htt
      ·rename_i oj hj
       simp only[hj]
       rw[List.mem_append]; right
       rw[htt]; simp
      ·cases htt
     rw[guardV_eq htt,ix,if_pos hin]
     refine guardA_ok ht (fun A hA hT=>?_) (fun A hA hT=>?_)
     ·rw [hT, bX]
      have e:(want == want)=true:=by cases want <;> rfl
      simp only[fj,e]
      exact run A hA
     ·have go : Out n0 H0 F0 (sk P cal N ops Anc rest (addE g x o.dst (cj ops o) undef (exNo o) g.H g.n) fun g => K g.T g.H g.n) (mW P pc yk N ops Anc rest dirty (entA x o.dst (cj ops o) .p :: log') (putA A o.dst .und) G k) := by
       have:=next A hA .p (fun c z _=>z) σ F g.H g.n G undef .und none (exNo o) h (by unfold VRel; rfl) Nx.refl (by unfold exNo; split <;> first | exact .inr rfl | exact .inl rfl)
       simp only[zx,Option.isSome_none,Bool.or_false] at this
       exact this
      rcases hT with hT | hT
      ·rw [hT, bX]
       have e:((!want) == want)=false:=by cases want <;> rfl
       simp only[fj,e]
       exact go
      ·rw[hT,bX]; exact go
theorem drawA_ok{yk:YK}{Fam:KI ρ→Prop}(hpc:∀ f,lk (flO P f) (cal.call f) (pc f))(hy:YOk P cal yk n0 Fam F0){K:Tm→Hp→Nat→Option ρ}{k:Tr AV→Tr Bx→Option D}(hk:TK n0 Fam F0 K k)(hF:Fam H0)(h:Rs n0 H0 F0 σ F H n G)(ht:TRl σ F H T A) :
  Out n0 H0 F0 (drawK P cal N ops T H n K) (drawA P pc yk N ops A G k):=by
 unfold drawK drawA
 generalize (ancOk ops (ancs ops) && covers ops.length (order ops (ancs ops)) && P.follows .mixedOrders)=b
 cases b with
 | true=>exact Hj hpc hy hk _ false [] H0 hF σ F ⟨[],T,H,n⟩ A G h ht trivial (fun _=>trivial)
 | false=>exact Out.no
end Go.Ev
end
