import Derived.Test.YtcjnaeimeilomaaGreatC4
set_option linter.unusedVariables false
section
namespace Go.Ev
open Go
variable {σ σ':Nat→Option Si} {F F' F0:Nat→Prop} {H H':Hp} {ρ:Type} {H0:KI ρ} {n n' n0:Nat} {G G':Tr Bx} {T:Tm} {A A':Tr AV} {P:Program}
abbrev OutP(Q:D→Prop)(d:Option D):Prop:=∀ x,d=some x→Q x
abbrev Out(n0:Nat)(H0:KI ρ)(F0:Nat→Prop)(r:Option ρ)(d:Option D):Prop:=
 OutP (fun x=>H0.R n0 F0 r x) d
variable {Qx:D→Prop}
theorem Out.no:OutP Qx none:=fun _ e=>by cases e
theorem Out.bindO{α:Type}{o:Option α}{k:α→Option D}(h:∀ a,o=some a→OutP Qx (k a)):OutP Qx (bindO o k):=by
 cases o with
 | none=>exact Out.no
 | some a=>exact h a rfl
theorem Out.getK{α:Type}{o:Option α}{k:α→Option D}(h:∀ a,o=some a→OutP Qx (k a)):OutP Qx (getK o k):=by
 cases o with
 | none=>exact Out.no
 | some a=>exact h a rfl
theorem Out.chk{c:Bool}{k:Option D}(h:c=true→OutP Qx k):OutP Qx (chkK c k):=by
 cases c with
 | false=>exact Out.no
 | true=>exact h rfl
noncomputable def kY:D→Option (List D)
 | .ref c=>some c
 | _=>none
noncomputable def elsD:D→Option (List D)
 | .sl l=>some l
 | .v (.slice none _ _)=>some []
 | _=>none
noncomputable def aggD:D→Option (List D)
 | .agg l=>some l
 | _=>none
noncomputable def idxD(x:D)(len:Nat):Option Nat:=match x with
 | .v v=>Jq v len
 | _=>none
noncomputable def szOk(s:Nat)(d:D):Bool:=Nat.beq (ny d).length s
noncomputable def tupD(x:D)(i:Nat):Option D:=match x with
 | .tup l=>l[i]?
 | _=>none
noncomputable def pickD(c a b:D):Option D:=match c with
 | .v (.bool true)=>some a
 | .v (.bool false)=>some b
 | _=>none
noncomputable def Pw:Option Value→Option D
 | some v=>match uJ v with
  | true=>some (.v v)
  | false=>none
 | none=>none
noncomputable def Px:List D→Option (List Value)
 | []=>some []
 | .v x::l=>match Px l with
  | some vs=>some (x::vs)
  | none=>none
 | _::_=>none
noncomputable def valD:D→Option Value
 | .v x=>some x
 | .agg l=>match Px l with
  | some vs=>some (.agg ⟨vs⟩)
  | none=>none
 | _=>none
noncomputable def binD(P:Program)(op:BinOp)(t:TypeId)(x y:Operand)(a b:D):Option D:=match valD a with
 | some u=>match valD b with
  | some v=>Pw (binV P op t x y u v)
  | none=>none
 | none=>none
noncomputable def semD(P:Program)(a:D)(m:Value→Sem Value):Option D:=match a with
 | .v x=>Pw (dk P x (m x))
 | _=>none
noncomputable def lenD(l:List D):D:=.v (goInt l.length)
noncomputable def splD(c:List D)(o:Nat)(ds:List D)(s:Nat):Option (List D):=if ds.length=s∧o+s≤c.length then some (c.take o++ds++c.drop (o+s)) else none
noncomputable def appD(l l':List D):Option (List D):=if l.length+l'.length<1048576 then some (l++l') else none
noncomputable def dcells:List Value→Option (List D)
 | []=>some []
 | v::l=>match uJ v with
  | true=>match dcells l with
   | some ds=>some (.v v::ds)
   | none=>none
  | false=>none
noncomputable def zeroD(P:Program)(t:TypeId):Option D:=match jx P t with
 | some (.agg ⟨l⟩)=>match dcells l with
  | some ds=>some (.agg ds)
  | none=>none
 | some v=>match uJ v with
  | true=>some (.v v)
  | false=>none
 | none=>none
theorem qij:∀ {l:List D} {vs us:List Value},aK F H l vs→Px l=some us→vs=us
 | [],vs,us,h,e=>by cases e; unfold aK at h; exact h
 | d::l,vs,us,h,e=>by
  unfold aK at h
  obtain⟨v,vs',rfl,h1,h2⟩:=h
  cases d with
  | v x=>
   simp only[Px] at e
   split at e
   ·rename_i us' e'
    cases e
    unfold DRel at h1
    rw[h1.1,qij h2 e']
   ·cases e
  | _=>simp [Px] at e
theorem Py{d:D}{v u:Value}(h:DRel F H d v)(e:valD d=some u):v=u:=by
 cases d with
 | v x=>cases e; unfold DRel at h; exact h.1
 | agg l=>
  simp only[valD] at e
  split at e
  ·rename_i vs e'
   cases e
   unfold DRel at h
   obtain⟨_,vs',rfl,h1⟩:=h
   rw[qij h1 e']
  ·cases e
 | _=>cases e
theorem qik{o:Option Value}{d:D}(e:Pw o=some d):∃ v,o=some v∧d=.v v∧uJ v=true:=by
 unfold Pw at e
 split at e
 ·split at e
  ·cases e; exact⟨_,rfl,rfl,by assumption⟩
  ·cases e
 ·cases e
theorem DRel.scal{v:Value}(h:uJ v=true):DRel F H (.v v) v:=by unfold DRel; exact⟨rfl,h⟩
theorem VRel.dat{d:D}{v:Value}(h:DRel F H d v):VRel σ F H (.d d) v:=by unfold VRel; exact h
theorem VRel.un{d:D}{v:Value}(h:VRel σ F H (.d d) v):DRel F H d v:=by unfold VRel at h; exact h
theorem dcells_ok:∀ {l:List Value} {ds:List D},dcells l=some ds→aK F H ds l∧ds.all bk=true
 | [],ds,e=>by cases e; unfold aK; exact⟨rfl,rfl⟩
 | v::l,ds,e=>by
  simp only[dcells] at e
  split at e
  ·rename_i hs
   split at e
   ·rename_i ds' e'
    cases e
    have ih:=dcells_ok e'
    refine⟨by unfold aK; exact⟨v,l,rfl,.scal hs,ih.1⟩,?_⟩
    simp only[List.all_cons,Bool.and_eq_true]; exact⟨rfl,ih.2⟩
   ·cases e
  ·cases e
theorem GY{t:TypeId}{d:D}(e:zeroD P t=some d):∃ z,jx P t=some z∧DRel F H d z∧datD d=true:=by
 unfold zeroD at e
 split at e
 ·rename_i l hz
  split at e
  ·rename_i ds hd
   cases e
   have:=dcells_ok (F:=F) (H:=H) hd
   exact⟨_,hz,by unfold DRel; exact⟨this.2,l,rfl,this.1⟩,rfl⟩
  ·cases e
 ·rename_i v hz
  split at e
  ·rename_i hs
   cases e
   exact⟨_,hz,.scal hs,rfl⟩
  ·cases e
 ·cases e
noncomputable def opdA(x:Operand)(A:Tr AV):Option AV:=match x with
 | .tmp t=>A.get t
 | .const v=>match v with
  | .bool c=>some (.b c)
  | v=>match uJ v with
   | true=>some (.d (.v v))
   | false=>none
 | .func f=>some (.d (.fn f [] []))
 | .global _=>none
noncomputable def DQ(A:Tr AV):List Operand→Option (List AV)
 | []=>some []
 | x::l=>match opdA x A with
  | some a=>match DQ A l with
   | some aS=>some (a::aS)
   | none=>none
  | none=>none
noncomputable def partsA(A:Tr AV):List (Nat × Operand)→Option (List (Nat × AV))
 | []=>some []
 | (i,x)::l=>match opdA x A with
  | some a=>match partsA A l with
   | some aS=>some ((i,a)::aS)
   | none=>none
  | none=>none
theorem oz{x:Operand}{a:AV}(ht:TRl σ F H T A)(e:opdA x A=some a):∃ v,opd x T=some v∧VRel σ F H a v:=by
 cases x with
 | tmp t=>exact ht t a e
 | const v=>
  simp only[opdA] at e
  split at e
  ·cases e
   exact⟨_,rfl,by unfold VRel; rfl⟩
  ·split at e
   ·rename_i hs
    cases e
    exact⟨v,by simp only[opd,(tZ hs).2.2.2.1],.dat (.scal hs)⟩
   ·cases e
 | func f=>
  cases e
  exact⟨_,rfl,.dat (by unfold DRel; exact⟨[],[],rfl,by unfold aK; rfl,by unfold aK; rfl⟩)⟩
 | global g=>cases e
theorem ov(ht:TRl σ F H T A):∀ {l:List Operand} {aS:List AV},DQ A l=some aS→∃ vs,opds T l=some vs∧bQ σ F H aS vs
 | [],aS,e=>by cases e; exact⟨[],rfl,by unfold bQ; rfl⟩
 | x::l,aS,e=>by
  simp only[DQ] at e
  split at e
  ·rename_i a ha
   split at e
   ·rename_i as' has
    cases e
    obtain⟨v,h1,h2⟩:=oz ht ha
    obtain⟨vs,h3,h4⟩:=ov ht has
    exact⟨v::vs,by simp only[opds,h1,h3],by unfold bQ; exact⟨v,vs,rfl,h2,h4⟩⟩
   ·cases e
  ·cases e
noncomputable def PRel(σ:Nat→Option Si)(F:Nat→Prop)(H:Hp):List (Nat × AV)→List (Nat × Value)→Prop
 | [],vs=>vs=[]
 | (i,a)::l,vs=>∃ v vs',vs=(i,v)::vs'∧VRel σ F H a v∧PRel σ F H l vs'
theorem IQ(ht:TRl σ F H T A):∀ {l:List (Nat × Operand)} {aS:List (Nat × AV)},partsA A l=some aS→∃ vs,uW T l=some vs∧PRel σ F H aS vs
 | [],aS,e=>by cases e; exact⟨[],rfl,rfl⟩
 | (i,x)::l,aS,e=>by
  simp only[partsA] at e
  split at e
  ·rename_i a ha
   split at e
   ·rename_i as' has
    cases e
    obtain⟨v,h1,h2⟩:=oz ht ha
    obtain⟨vs,h3,h4⟩:=IQ ht has
    exact⟨(i,v)::vs,by simp only[uW,h1,h3],v,vs,rfl,h2,h4⟩
   ·cases e
  ·cases e
noncomputable def PK(n0:Nat)(H0:KI ρ)(F0:Nat→Prop)(σ:Nat→Option Si)(F:Nat→Prop)(H:Hp)(kc:Value→Option ρ)(ka:AV→Option D):Prop:=∀ v a,VRel σ F H a v→Out n0 H0 F0 (kc v) (ka a)
variable {kc:Value→Option ρ} {ka:AV→Option D}
noncomputable def Nj(P:Program)(e:TypeId)(d:D)(k:List D→Option D):Option D:=match oW P e with
 | some true=>bindO (aggD d) k
 | some false=>chkK (bk d) (k [d])
 | none=>none
theorem AJ{e:TypeId}{d:D}{f:List D→Option D}(h:datD d=true→OutP Qx (f (ny d))):OutP Qx (Nj P e d f):=by
 unfold Nj
 split
 ·refine Out.bindO fun c hc => ?_
  cases d with
  | agg l=>cases hc; exact h rfl
  | _=>cases hc
 ·refine Out.chk fun hl => ?_
  have:ny d=[d]:=by cases d <;> first | rfl | cases hl
  rw[← this]; exact h (UY hl)
 ·exact Out.no
noncomputable def loadC(P:Program)(t:TypeId)(c:List D)(o:Nat)(k:AV→Option D):Option D:=match oW P t with
 | some false=>bindO (c[o]?) fun d=>k (.d d)
 | some true=>match szT P t with
  | some s=>bindO (cutD c o s) fun l=>k (.d (.agg l))
  | none=>none
 | none=>none
noncomputable def cutB(c:List AV)(o s:Nat):Option (List AV):=match Nat.ble (o+s) c.length with
 | true=>match Nat.ble 1 s with
  | true=>some ((c.drop o).take s)
  | false=>none
 | false=>none
noncomputable def loadB(P:Program)(t:TypeId)(c:List AV)(o:Nat)(k:AV→Option D):Option D:=match oW P t with
 | some false=>getK (c[o]?) k
 | some true=>match szT P t with
  | some s=>getK (cutB c o s) fun l=>k (mkAgg l)
  | none=>none
 | none=>none
noncomputable def loadA(P:Program)(t:TypeId)(a:AV)(G:Tr Bx)(k:AV→Option D):Option D:=match a with
 | .d x=>bindO (kY x) fun c=>loadC P t c 0 k
 | .loc s o=>match G.get s with
  | some (.dat c _)=>loadC P t c o k
  | some (.box c)=>loadB P t c o k
  | _=>none
 | .elo s i o=>match G.get s with
  | some (.vec els e _ _)=>bindO (els[i]?) fun x=>Nj P e x fun c=>loadC P t c o k
  | _=>none
 | _=>none
def pres(H:Hp)(b:Nat):Prop:=∃ B c,H.get b=some B∧cellsIn B=some c
def LK(P:Program)(t:TypeId)(n0:Nat)(H0:KI ρ)(F0:Nat→Prop)(σ:Nat→Option Si)(F:Nat→Prop)(H:Hp)(ad:Addr)(kc:Value→Option ρ)(ka:AV→Option D):Prop:=
 ∀ v a,pres H ad.block→az P H t ad=some v→VRel σ F H a v→Out n0 H0 F0 (kc v) (ka a)
theorem qjz{t:TypeId}{c:List D}{b o k:Nat}(hk:LK P t n0 H0 F0 σ F H ⟨b,o+k,none⟩ kc ka)(h:DAt F H c b o 1)(hl:c.all bk=true):Out n0 H0 F0 (bindO (az P H t ⟨b,o+k,none⟩) kc) (loadC P t c k ka):=by
 unfold loadC
 split
 ·rename_i ht
  refine Out.bindO fun d e=>?_
  obtain⟨v,h1,h2⟩:=h.load1 hl e ht
  rw[h1]
  obtain⟨_,_,_,_,B,cc,g1,g2,_⟩:=h.get e
  exact hk _ _ ⟨B,cc,g1,g2⟩ h1 (.dat h2)
 ·rename_i ht
  split
  ·rename_i s hs
   refine Out.bindO fun l e=>?_
   obtain⟨vs,h1,h2,h3⟩:=h.loadN hl e ht hs
   rw[h1]
   have hlt:k<c.length:=by
    unfold cutD at e
    split at e
    ·omega
    ·cases e
   obtain⟨_,_,_,_,B,cc,g1,g2,_⟩:=h.get (List.getElem?_eq_getElem hlt)
   exact hk _ _ ⟨B,cc,g1,g2⟩ h1 (.dat (by unfold DRel; exact⟨h3,vs,rfl,h2⟩))
  ·exact Out.no
 ·exact Out.no
theorem GZ{c:List Value}{o s:Nat}(h:o+s≤c.length):cut c o s=some ((c.drop o).take s):=by
 unfold cut
 rw[if_pos]
 simp; omega
theorem loadB_ok{t:TypeId}{c:List AV}{cs:List Value}{b o:Nat}{e:TypeId}{vec:Option Nat}(hk:LK P t n0 H0 F0 σ F H ⟨b,o,none⟩ kc ka)(hg:H.get b=some (.cells cs e false vec))(h:bQ σ F H c cs)(hl:c.all oq=true) :
  Out n0 H0 F0 (bindO (az P H t ⟨b,o,none⟩) kc) (loadB P t c o ka):=by
 unfold loadB
 split
 ·rename_i ht
  refine Out.getK fun a ea=>?_
  obtain⟨v,h1,h2⟩:=h.get ea
  have:az P H t ⟨b,o,none⟩=some v:=by unfold az; simp only[hg,lq,ht]; exact h1
  rw[this]
  exact hk _ _ ⟨_,_,hg,rfl⟩ this h2
 ·rename_i ht
  split
  ·rename_i s hs
   refine Out.getK fun l el=>?_
   unfold cutB at el
   split at el
   ·rename_i h1
    split at el
    ·cases el
     have hlen:=h.length
     have h1:=Nat.le_of_ble_eq_true h1
     have:az P H t ⟨b,o,none⟩=some (.agg ⟨(cs.drop o).take s⟩):=by unfold az; simp only[hg,lq,ht,hs,GZ (c:=cs) (o:=o) (s:=s) (by omega)]
     rw[this]
     refine hk _ _ ⟨_,_,hg,rfl⟩ this (.mkAgg ((h.drop o).take s) ?_)
     rw[List.all_eq_true] at hl ⊢
     exact fun x hx=>hl x (List.mem_of_mem_drop (List.mem_of_mem_take hx))
    ·cases el
   ·cases el
  ·exact Out.no
 ·exact Out.no
theorem vec_at{s:Nat}{els:List D}{e:TypeId}{sz:Nat}{fz:Bool}{i:Nat}{x:D}(h:Rs n0 H0 F0 σ F H n G)(hg:G.get s=some (.vec els e sz fz))(hx:els[i]?=some x) :
  ∃ j,σ s=some j∧j.nil=false∧j.sz=sz∧j.len=els.length∧datD x=true∧(ny x).length=sz∧(ny x).all bk=true∧DAt F H (ny x) j.b (i * sz) 1:=by
 obtain⟨j,hj,b1,b2,b3,b4⟩:=h.site _ _ hg
 rcases b4 with⟨_,rfl⟩ | ⟨q1,q2,q3,q4,_⟩
 ·cases hx
 ·obtain ⟨g0, v, g1, g2, g3⟩ := q4.get hx
  have hc:=g1.cells g0
  refine⟨j,hj,q1,b2,b1,g0,by rw[← hc.1.length]; exact g2,hc.2,?_⟩
  have:=DAt.of_cells hc.1 g3 hc.2
  simpa using this
theorem loadA_ok'{t:TypeId}{a:AV}{v:Value}{kc:Addr→Value→Option ρ}(h:Rs n0 H0 F0 σ F H n G)(hv:VRel σ F H a v)(hk:∀ ad,aX v=some ad→ad.block<n→LK P t n0 H0 F0 σ F H ad (kc ad) ka):Out n0 H0 F0 (bindO (aX v) fun ad=>bindO (az P H t ad) (kc ad)) (loadA P t a G ka):=by
 cases a with
 | d x=>
  refine Out.bindO fun c ec=>?_
  have hv:=hv.un
  cases x with
  | ref c'=>
   cases ec
   unfold DRel at hv
   obtain⟨h0,b,o,rfl,h1,h2⟩:=hv
   rw[qiq,aj]
   exact qjz (k:=0) (hk ⟨b,o+0,none⟩ rfl (h.lt h1)) h2 h0
  | _=>cases ec
 | loc s o=>
  unfold VRel at hv
  obtain⟨i,hi,hnil,rfl⟩:=hv
  simp only[loadA]
  rw[qiq,aj]
  split
  ·rename_i c fz hg
   obtain⟨j,hj,b1,b2,b3,cs,el,vec,b4,b5⟩:=h.site _ _ hg
   rw[hi] at hj; cases hj
   have:=qjz (P:=P) (t:=t) (b:=i.b) (o:=0) (k:=o) (kc:=kc ⟨i.b,o,none⟩) (ka:=ka) (by rw[Nat.zero_add]; exact hk ⟨i.b,o,none⟩ rfl (h.own s i hi hnil).2) (DAt.of_cells b5 (IJ b4) b3) b3
   rwa [Nat.zero_add] at this
  ·rename_i c hg
   obtain⟨j,hj,b1,b2,b3,cs,el,vec,b4,b5⟩:=h.site _ _ hg
   rw[hi] at hj; cases hj
   exact loadB_ok (hk ⟨i.b,o,none⟩ rfl (h.own s i hi hnil).2) b4 b5 b3
  ·exact Out.no
 | elo s k o=>
  unfold VRel at hv
  obtain⟨i,hi,hnil,rfl⟩:=hv
  simp only[loadA]
  rw[qiq,aj]
  split
  ·rename_i els e sz fz hg
   refine Out.bindO fun x hx=>AJ fun _=>?_
   obtain⟨j,hj,q1,q2,q3,q4,q5,q6,q7⟩:=vec_at h hg hx
   rw[hi] at hj; cases hj
   rw[q2]
   exact qjz (hk ⟨i.b,k * sz+o,none⟩ (by rw[q2]; rfl) (h.own s i hi hnil).2) q7 q6
  ·exact Out.no
 | _=>exact Out.no
theorem loadA_ok{t:TypeId}{a:AV}{v:Value}(h:Rs n0 H0 F0 σ F H n G)(hv:VRel σ F H a v)(hk:PK n0 H0 F0 σ F H kc ka):Out n0 H0 F0 (bindO (aX v) fun ad=>bindO (az P H t ad) kc) (loadA P t a G ka):=
 loadA_ok' (kc:=fun _=>kc) h hv fun _ _ _ v a _ _ hv=>hk v a hv
noncomputable def Nq(P:Program)(t:TypeId)(a:AV)(f:Nat)(k:AV→Option D):Option D:=match Bq P t f with
 | some (off,ft)=>match szT P ft with
  | some (_+1)=>match a with
   | .d x=>bindO (kY x) fun c=>k (.d (.ref (c.drop off)))
   | .loc s o=>k (.loc s (o+off))
   | .elo s i o=>k (.elo s i (o+off))
   | _=>none
  | _=>none
 | none=>none
noncomputable def rowT(P:Program)(t:TypeId):Option (Option Nat × TypeId × Nat):=match P.underlying t with
 | some (.slice e)=>match szT P e with
  | some s=>some (none,e,s)
  | none=>none
 | some (.array len e)=>match szT P e with
  | some s=>some (some len,e,s)
  | none=>none
 | _=>none
noncomputable def Nv(P:Program)(t:TypeId)(a:AV)(i:D)(G:Tr Bx)(k:AV→Option D):Option D:=match rowT P t with
 | some (none,e,s)=>match a with
  | .d x=>bindO (elsD x) fun l=>bindO (idxD i l.length) fun j=>bindO (l[j]?) fun y=>Nj P e y fun c=>chkK (Nat.beq c.length s) (k (.d (.ref c)))
  | .osl w=>match G.get w with
   | some (.vec els _ sz _)=>match Nat.beq sz s with
    | true=>bindO (idxD i els.length) fun j=>k (.elo w j 0)
    | false=>none
   | _=>none
  | _=>none
 | some (some len,_,s)=>match a with
  | .d x=>bindO (kY x) fun c=>bindO (idxD i len) fun j=>k (.d (.ref (c.drop (j * s))))
  | .loc w o=>bindO (idxD i len) fun j=>k (.loc w (o+j * s))
  | .elo w q o=>bindO (idxD i len) fun j=>k (.elo w q (o+j * s))
  | _=>none
 | none=>none
noncomputable def partA(P:Program)(t:TypeId)(a:AV)(o:Nat)(k:AV→Option D):Option D:=match a with
 | .d x=>bindO (aggD x) fun c=>loadC P t c o k
 | .agg l=>loadB P t l o k
 | _=>none
noncomputable def fieldA(P:Program)(t:TypeId)(a:AV)(f:Nat)(k:AV→Option D):Option D:=match Bq P t f with
 | some (off,ft)=>partA P ft a off k
 | none=>none
noncomputable def indexA(P:Program)(t:TypeId)(a:AV)(i:D)(k:AV→Option D):Option D:=match rowT P t with
 | some (some len,e,s)=>bindO (idxD i len) fun j=>partA P e a (j * s) k
 | _=>none
noncomputable def lenA(P:Program)(t:TypeId)(a:AV)(G:Tr Bx)(k:AV→Option D):Option D:=match P.underlying t with
 | some (.slice _)=>match a with
  | .d x=>bindO (elsD x) fun l=>k (.d (lenD l))
  | .osl w=>match G.get w with
   | some (.vec els _ _ _)=>k (.d (lenD els))
   | _=>none
  | _=>none
 | _=>none
noncomputable def pickA(c:D)(a b:AV)(k:AV→Option D):Option D:=match a with
 | .d x=>match b with
  | .d y=>bindO (pickD c x y) fun d=>k (.d d)
  | _=>none
 | _=>none
theorem drop_leaf{c:List D}{k:Nat}(h:c.all bk=true):(c.drop k).all bk=true:=by
 rw[List.all_eq_true] at h ⊢; exact fun x hx=>h x (List.mem_of_mem_drop hx)
theorem qjx{c:List D}{b o k:Nat}(h0:c.all bk=true)(h1:F b)(h2:DAt F H c b o 1):DRel F H (.ref (c.drop k)) (.pointer (some ⟨b,o+k,none⟩)):=by
 unfold DRel
 exact⟨drop_leaf h0,b,o+k,rfl,h1,by simpa using h2.drop k⟩
theorem fieldAddrA_ok{t:TypeId}{a:AV}{v:Value}{f:Nat}(hv:VRel σ F H a v)(hk:PK n0 H0 F0 σ F H kc ka):Out n0 H0 F0 (bindO (ax P t v f) kc) (Nq P t a f ka):=by
 unfold Nq
 split
 ·rename_i off ft hf
  split
  ·rename_i s hs
   cases a with
   | d x=>
    refine Out.bindO fun c ec=>?_
    have hv:=hv.un
    cases x with
    | ref c'=>
     cases ec
     unfold DRel at hv
     obtain⟨h0,b,o,rfl,h1,h2⟩:=hv
     rw[CK hf hs,aj]
     exact hk _ _ (.dat (qjx h0 h1 h2))
    | _=>cases ec
   | loc w o=>
    unfold VRel at hv
    obtain⟨i,hi,hnil,rfl⟩:=hv
    rw[CK hf hs,aj]
    exact hk _ _ (by unfold VRel; exact⟨i,hi,hnil,rfl⟩)
   | elo w k o=>
    unfold VRel at hv
    obtain⟨i,hi,hnil,rfl⟩:=hv
    rw[CK hf hs,aj]
    exact hk _ _ (by unfold VRel; exact⟨i,hi,hnil,by rw[Nat.add_assoc]⟩)
   | _=>exact Out.no
  ·exact Out.no
 ·exact Out.no
theorem IV{i:D}{iv:Value}{len j:Nat}(h:DRel F H i iv)(e:idxD i len=some j):Jq iv len=some j∧j<len:=by
 cases i with
 | v x=>
  unfold DRel at h
  rw[h.1]
  refine⟨e,?_⟩
  simp only[idxD,Jq] at e
  split at e
  ·split at e
   ·cases e; assumption
   ·cases e
  ·cases e
 | _=>cases e
theorem IW{x:D}{v:Value}{l:List D}(h:DRel F H x v)(e:elsD x=some l):(v=.slice none 0 0∧l=[])∨(∃ b o cap s,v=.slice (some ⟨b,o,none⟩) l.length cap∧l.length≤cap∧cap≤capR∧(l=[]∨(F b∧DAt F H l b o s)))∨(l=[]∧∃ a cap,v=.slice (some a) 0 cap∧cap≤capE):=by
 unfold elsD at e
 split at e
 ·cases e; unfold DRel at h; exact h
 ·rename_i a c
  cases e
  unfold DRel at h
  obtain⟨rfl,hs⟩:=h
  simp only[uJ,Bool.and_eq_true] at hs
  have h1:=Nat.eq_of_beq_eq_true hs.1.2
  have h2:=Nat.eq_of_beq_eq_true hs.2
  subst h1; subst h2
  exact .inl ⟨rfl,rfl⟩
 ·cases e
theorem UZ{t:TypeId}{e:TypeId}{s:Nat}(h:rowT P t=some (none,e,s)):P.underlying t=some (.slice e)∧szT P e=some s:=by
 unfold rowT at h
 split at h
 ·rename_i e' hu
  split at h
  ·rename_i s' hs; cases h; exact⟨hu,hs⟩
  ·cases h
 ·split at h <;> cases h
 ·cases h
theorem UK{t:TypeId}{len:Nat}{e:TypeId}{s:Nat}(h:rowT P t=some (some len,e,s)):P.underlying t=some (.array len e)∧szT P e=some s:=by
 unfold rowT at h
 split at h
 ·split at h <;> cases h
 ·rename_i len' e' hu
  split at h
  ·rename_i s' hs; cases h; exact⟨hu,hs⟩
  ·cases h
 ·cases h
theorem indexAddrA_ok{t:TypeId}{a:AV}{i:D}{v iv:Value}(h:Rs n0 H0 F0 σ F H n G)(hv:VRel σ F H a v)(hi:DRel F H i iv)(hk:PK n0 H0 F0 σ F H kc ka) :
  Out n0 H0 F0 (bindO (aJ P t v iv) kc) (Nv P t a i G ka):=by
 unfold Nv
 split
 ·rename_i e s ht
  obtain⟨hu,hs⟩:=UZ ht
  cases a with
  | d x=>
   refine Out.bindO fun l el=>Out.bindO fun j ej=>Out.bindO fun y ey=>AJ fun _=>Out.chk fun hsz=>?_
   obtain⟨h1,h2⟩:=IV hi ej
   rcases IW hv.un el with⟨_,rfl⟩ | ⟨b,o,cap,s',rfl,g1,g2,g3⟩ | ⟨rfl,_⟩
   rotate_left 2
   ·cases ey
   ·cases ey
   ·rcases g3 with rfl | ⟨g3, g4⟩
    ·cases ey
    ·obtain ⟨q0, u, q1, q2, q3⟩ := g4.get ey
     have hc:=q1.cells q0
     have hss:s'=s:=by
      have:=Nat.eq_of_beq_eq_true hsz
      rw[← q2,hc.1.length]; exact this
     subst hss
     have:aJ P t (.slice (some ⟨b,o,none⟩) l.length cap) iv=some (.pointer (some ⟨b,o+j * s',none⟩)):=by
      unfold aJ; simp only[hu,h1,hs,addA]
     rw[this,aj]
     refine hk _ _ (.dat ?_)
     have:=qjx (k:=0) hc.2 g3 (DAt.of_cells hc.1 q3 hc.2)
     simpa using this
  | osl w=>
   simp only
   split
   ·rename_i els el sz fz hg
    split
    ·rename_i hsz
     have:=Nat.eq_of_beq_eq_true hsz; subst this
     refine Out.bindO fun j ej=>?_
     obtain⟨h1,h2⟩:=IV hi ej
     obtain⟨m,hm,q1,q2,q3,_⟩:=vec_at h hg (List.getElem?_eq_getElem h2)
     unfold VRel at hv
     obtain⟨m',hm',hv⟩:=hv
     rw[hm] at hm'; cases hm'
     rcases hv with⟨z,_⟩ | ⟨_,rfl⟩
     ·rw[q1] at z; cases z
     ·have : aJ P t (.slice (some ⟨m.b, 0, none⟩) m.len m.cap) iv = some (.pointer (some ⟨m.b, 0 + j * sz, none⟩)) := by
       unfold aJ; rw[q3]; simp only[hu,h1,hs,addA]
      rw[this,aj]
      exact hk _ _ (by unfold VRel; exact⟨m,hm,q1,by rw[q2]; simp⟩)
    ·exact Out.no
   ·exact Out.no
  | _=>exact Out.no
 ·rename_i len e s ht
  obtain⟨hu,hs⟩:=UK ht
  have go:∀ {b o j:Nat},Jq iv len=some j→aJ P t (.pointer (some ⟨b,o,none⟩)) iv=some (.pointer (some ⟨b,o+j * s,none⟩)):=by
   intro b o j q
   unfold aJ; simp only[hu,q,hs,addA]
  cases a with
  | d x=>
   refine Out.bindO fun c ec=>Out.bindO fun j ej=>?_
   obtain⟨h1,h2⟩:=IV hi ej
   have hv:=hv.un
   cases x with
   | ref c'=>
    cases ec
    unfold DRel at hv
    obtain⟨h0,b,o,rfl,g1,g2⟩:=hv
    rw[go h1,aj]
    exact hk _ _ (.dat (qjx h0 g1 g2))
   | _=>cases ec
  | loc w o=>
   refine Out.bindO fun j ej=>?_
   obtain⟨h1,h2⟩:=IV hi ej
   unfold VRel at hv
   obtain⟨m,hm,hnil,rfl⟩:=hv
   rw[go h1,aj]
   exact hk _ _ (by unfold VRel; exact⟨m,hm,hnil,rfl⟩)
  | elo w q o=>
   refine Out.bindO fun j ej=>?_
   obtain⟨h1,h2⟩:=IV hi ej
   unfold VRel at hv
   obtain⟨m,hm,hnil,rfl⟩:=hv
   rw[go h1,aj]
   exact hk _ _ (by unfold VRel; exact⟨m,hm,hnil,by rw[Nat.add_assoc]⟩)
  | _=>exact Out.no
 ·exact Out.no
theorem partA_ok{t:TypeId}{a:AV}{cs:Array Value}{o:Nat}(hv:VRel σ F H a (.agg cs))(hk:PK n0 H0 F0 σ F H kc ka):Out n0 H0 F0 (bindO (lq P t cs.toList o) kc) (partA P t a o ka):=by
 cases a with
 | d x=>
  refine Out.bindO fun c ec=>?_
  have hv:=hv.un
  cases x with
  | agg l=>
   cases ec
   unfold DRel at hv
   obtain⟨hl,vs,e,h1⟩:=hv
   cases e
   unfold loadC
   split
   ·rename_i ht
    refine Out.bindO fun d e=>?_
    obtain⟨v,h2,h3⟩:=h1.get e
    have:lq P t vs o=some v:=by unfold lq; simp only[ht,h2]
    rw[this]
    exact hk _ _ (.dat h3)
   ·rename_i ht
    split
    ·rename_i s hs
     refine Out.bindO fun l' e=>?_
     unfold cutD at e
     split at e
     ·rename_i hc
      cases e
      have hlen:=h1.length
      have:lq P t vs o=some (.agg ⟨(vs.drop o).take s⟩):=by unfold lq; simp only[ht,hs,GZ (c:=vs) (o:=o) (s:=s) (by omega)]
      rw[this]
      exact hk _ _ (.dat (by unfold DRel; exact⟨all_drop_take hl,_,rfl,(h1.drop o).take s⟩))
     ·cases e
    ·exact Out.no
   ·exact Out.no
  | _=>cases ec
 | agg l=>
  unfold VRel at hv
  obtain⟨hl,vs,e,h1⟩:=hv
  cases e
  simp only[partA]
  unfold loadB
  split
  ·rename_i ht
   refine Out.getK fun d e=>?_
   obtain⟨v,h2,h3⟩:=h1.get e
   have:lq P t vs o=some v:=by unfold lq; simp only[ht,h2]
   rw[this]
   exact hk _ _ h3
  ·rename_i ht
   split
   ·rename_i s hs
    refine Out.getK fun l' e=>?_
    unfold cutB at e
    split at e
    ·rename_i hc
     split at e
     ·cases e
      have hlen:=h1.length
      have hc:=Nat.le_of_ble_eq_true hc
      have:lq P t vs o=some (.agg ⟨(vs.drop o).take s⟩):=by unfold lq; simp only[ht,hs,GZ (c:=vs) (o:=o) (s:=s) (by omega)]
      rw[this]
      refine hk _ _ (.mkAgg ((h1.drop o).take s) ?_)
      rw[List.all_eq_true] at hl ⊢
      exact fun x hx=>hl x (List.mem_of_mem_drop (List.mem_of_mem_take hx))
     ·cases e
    ·cases e
   ·exact Out.no
  ·exact Out.no
 | _=>exact Out.no
theorem agg_of{a:AV}{v:Value}{t:TypeId}{o:Nat}{x:D}(hv:VRel σ F H a v)(e:partA P t a o ka=some x):∃ cs,v=.agg cs:=by
 cases a with
 | d y=>
  have hv:=hv.un
  cases y with
  | agg l=>unfold DRel at hv; obtain⟨_,vs,rfl,_⟩:=hv; exact⟨_,rfl⟩
  | _=>simp [partA,aggD,Ev.bindO,noneO] at e
 | agg l=>unfold VRel at hv; obtain⟨_,vs,rfl,_⟩:=hv; exact⟨_,rfl⟩
 | _=>cases e
theorem fieldA_ok{t:TypeId}{a:AV}{v:Value}{f:Nat}(hv:VRel σ F H a v)(hk:PK n0 H0 F0 σ F H kc ka):Out n0 H0 F0 (bindO (Qq P t v f) kc) (fieldA P t a f ka):=by
 unfold fieldA
 split
 ·rename_i off ft hf
  intro x e
  obtain⟨cs,rfl⟩:=agg_of hv e
  have:Qq P t (.agg cs) f=lq P ft cs.toList off:=by unfold Qq; simp only[hf]
  rw[this]
  exact partA_ok hv hk x e
 ·exact Out.no
theorem indexA_ok{t:TypeId}{a:AV}{i:D}{v iv:Value}(hv:VRel σ F H a v)(hi:DRel F H i iv)(hk:PK n0 H0 F0 σ F H kc ka):Out n0 H0 F0 (bindO (uX P t v iv) kc) (indexA P t a i ka):=by
 unfold indexA
 split
 ·rename_i len e s ht
  obtain⟨hu,hs⟩:=UK ht
  refine Out.bindO fun j ej=>?_
  obtain⟨h1,h2⟩:=IV hi ej
  intro x ex
  obtain⟨cs,rfl⟩:=agg_of hv ex
  have:uX P t (.agg cs) iv=lq P e cs.toList (j * s):=by unfold uX; simp only[hu,h1,hs]
  rw[this]
  exact partA_ok hv hk x ex
 ·exact Out.no
theorem YV{l:List D}:DRel F H (lenD l) (goInt l.length):=by unfold lenD; exact .scal rfl
theorem lenA_ok{t:TypeId}{a:AV}{v:Value}(h:Rs n0 H0 F0 σ F H n G)(hv:VRel σ F H a v)(hk:PK n0 H0 F0 σ F H kc ka):Out n0 H0 F0 (bindO (lenV P t v) kc) (lenA P t a G ka):=by
 unfold lenA
 split
 ·rename_i e hu
  cases a with
  | d x=>
   refine Out.bindO fun l el=>?_
   rcases IW hv.un el with⟨rfl,rfl⟩ | ⟨b,o,cap,s',rfl,_⟩ | ⟨rfl,a,cap,rfl,_⟩
   rotate_left 2
   ·have : lenV P t (.slice (some a) 0 cap) = some (goInt ([] : List D).length) := by unfold lenV; simp only [hu]; rfl
    rw[this]
    exact hk _ _ (.dat YV)
   ·have : lenV P t (.slice none 0 0) = some (goInt ([] : List D).length) := by unfold lenV; simp only [hu]; rfl
    rw[this]
    exact hk _ _ (.dat YV)
   ·have : lenV P t (.slice (some ⟨b, o, none⟩) l.length cap) = some (goInt l.length) := by unfold lenV; simp only [hu]
    rw[this]
    exact hk _ _ (.dat YV)
  | osl w=>
   simp only
   split
   ·rename_i els el sz fz hg
    obtain⟨j,hj,b1,b2,b3,b4⟩:=h.site _ _ hg
    unfold VRel at hv
    obtain⟨m',hm',hv⟩:=hv
    rw[hj] at hm'; cases hm'
    have:lenV P t v=some (goInt els.length):=by
     rcases hv with⟨z,rfl⟩ | ⟨z,rfl⟩
     ·rcases b4 with ⟨_, rfl⟩ | ⟨q, _⟩
      ·unfold lenV; simp only[hu]; rfl
      ·rw[q] at z; cases z
     ·unfold lenV; simp only[hu]; rw[b1]
    rw[this]
    exact hk _ _ (.dat YV)
   ·exact Out.no
  | _=>exact Out.no
 ·exact Out.no
theorem pickA_ok{c:D}{a b:AV}{cv av bv:Value}(hc:DRel F H c cv)(ha:VRel σ F H a av)(hb:VRel σ F H b bv)(hk:PK n0 H0 F0 σ F H kc ka):Out n0 H0 F0 (bindO (fV cv av bv) kc) (pickA c a b ka):=by
 cases a with
 | d x=>
  cases b with
  | d y=>
   refine Out.bindO fun d e=>?_
   unfold pickD at e
   split at e
   ·cases e; unfold DRel at hc; rw[hc.1]; exact hk _ _ ha
   ·cases e; unfold DRel at hc; rw[hc.1]; exact hk _ _ hb
   ·cases e
  | _=>exact Out.no
 | _=>exact Out.no
end Go.Ev
end
section
namespace Go.Ev
open Go
variable {σ σ':Nat→Option Si} {F F' F0:Nat→Prop} {H H':Hp} {ρ:Type} {H0:KI ρ} {n n' n0:Nat} {G G':Tr Bx} {T:Tm} {A A':Tr AV} {P:Program}
noncomputable def selT{α:Type}(p:α→Bool):Option α→Option α
 | some a=>match p a with
  | true=>some a
  | false=>none
 | none=>none
noncomputable def filtT{α:Type}(p:α→Bool):Tr α→Tr α
 | .nil=>.nil
 | .node v l r=>.node (selT p v) (filtT p l) (filtT p r)
noncomputable def mapT{α β:Type}(f:α→β):Tr α→Tr β
 | .nil=>.nil
 | .node v l r=>.node (match v with
  | some a=>some (f a)
  | none=>none) (mapT f l) (mapT f r)
theorem filtP{α:Type}{p:α→Bool}{a:α}:∀(q:List Bool) (t:Tr α),getP q (filtT p t)=some a→getP q t=some a∧p a=true
 | [],.nil,e=>by cases e
 | b::q,.nil,e=>by cases b <;> cases e
 | [],.node v l r,e=>by
  have e:selT p v=some a:=e
  unfold selT at e
  split at e
  ·split at e
   ·rename_i h; cases e; exact⟨rfl,h⟩
   ·cases e
  ·cases e
 | true::q,.node v l r,e=>filtP q l e
 | false::q,.node v l r,e=>filtP q r e
theorem filtT_get{α:Type}{p:α→Bool}{t:Tr α}{k:Nat}{a:α}(h:(filtT p t).get k=some a):t.get k=some a∧p a=true:=filtP _ _ h
theorem mapP{α β:Type}{f:α→β}:∀(q:List Bool) (t:Tr α),getP q (mapT f t)=(getP q t).map f
 | [],.nil=>rfl
 | b::q,.nil=>by cases b <;> rfl
 | [],.node v l r=>by cases v <;> rfl
 | true::q,.node v l r=>mapP q l
 | false::q,.node v l r=>mapP q r
theorem mapT_get{α β:Type}{f:α→β}{t:Tr α}{k:Nat}:(mapT f t).get k=(t.get k).map f:=mapP _ _
abbrev KO:=AV→Option Nat→Tr Bx→Option D
noncomputable def notS(w:Nat):Nat→Bool:=fun x=>!Nat.beq x w
noncomputable def zx(q:Option Nat)(A:Tr AV):Tr AV:=match q with
 | none=>A
 | some w=>filtT (okA (notS w)) A
structure Nx (σ:Nat→Option Si) (F:Nat→Prop) (H:Hp) (n:Nat) (σ':Nat→Option Si) (F':Nat→Prop) (H':Hp) (n':Nat) (q:Option Nat):Prop where
 le:n≤n'
 fr:∀ b,F b→F' b
 tr:∀ T A,TRl σ F H T A→TRl σ' F' H' T (zx q A)
 kp:(∀ b,b<n→pres H b→((∀ w i,q=some w→σ w=some i→i.nil=false→b≠i.b)∨F b)→pres H' b)∧∀ s i,q≠some s→σ s=some i→∃ i',σ' s=some i'∧i'.nil=i.nil∧i'.b=i.b
theorem kp0{q:Option Nat}(h:(∀ b,b<n→pres H b→pres H' b)∧∀ s i,σ s=some i→∃ i',σ' s=some i'∧i'.nil=i.nil∧i'.b=i.b) :
  (∀ b,b<n→pres H b→((∀ w i,q=some w→σ w=some i→i.nil=false→b≠i.b)∨F b)→pres H' b)∧∀ s i,q≠some s→σ s=some i→∃ i',σ' s=some i'∧i'.nil=i.nil∧i'.b=i.b:=
 ⟨fun b hb hp _=>h.1 b hb hp,fun s i _ hs=>h.2 s i hs⟩
theorem Nx.keep{q:Option Nat}(h:Nx σ F H n σ' F' H' n' q)(hq:q=none):(∀ b,b<n→pres H b→pres H' b)∧∀ s i,σ s=some i→∃ i',σ' s=some i'∧i'.nil=i.nil∧i'.b=i.b:=
 ⟨fun b hb hp=>h.kp.1 b hb hp (.inl fun w i e=>by rw[hq] at e; cases e),fun s i hs=>h.kp.2 s i (fun e=>by rw[hq] at e; cases e) hs⟩
theorem Nx.refl:Nx σ F H n σ F H n none:=⟨Nat.le_refl _,fun _ z=>z,fun _ _ h=>h,kp0 ⟨fun _ _ h=>h,fun _ i h=>⟨i,h,rfl,rfl⟩⟩⟩
theorem pres.of_eq{b:Nat}(e:H'.get b=H.get b)(h:pres H b):pres H' b:=by
 obtain⟨B,c,h1,h2⟩:=h; exact⟨B,c,e.trans h1,h2⟩
def KOk(n0:Nat)(H0:KI ρ)(F0:Nat→Prop)(σ:Nat→Option Si)(F:Nat→Prop)(H:Hp)(n:Nat)(kc:Value→Hp→Nat→Option ρ)(k:KO):Prop:=
 ∀ σ' F' H' n' G' v a q,Rs n0 H0 F0 σ' F' H' n' G'→VRel σ' F' H' a v→Nx σ F H n σ' F' H' n' q→Out n0 H0 F0 (kc v H' n') (k a q G')
def KOkN(dst:Option Tmp)(n0:Nat)(H0:KI ρ)(F0:Nat→Prop)(σ:Nat→Option Si)(F:Nat→Prop)(H:Hp)(n:Nat)(kc:Value→Hp→Nat→Option ρ)(k:KO):Prop:=
 ∀ σ' F' H' n' G' v a q,Rs n0 H0 F0 σ' F' H' n' G'→VRel σ' F' H' a v→Nx σ F H n σ' F' H' n' q→(∃ s i,dst=some s∧σ' s=some i∧i.nil=false∧i.b=n∧n<n')→Out n0 H0 F0 (kc v H' n') (k a q G')
variable {kc:Value→Hp→Nat→Option ρ} {k:KO}
theorem KOk.toN{dst:Option Tmp}(h:KOk n0 H0 F0 σ F H n kc k):KOkN dst n0 H0 F0 σ F H n kc k:=fun _ _ _ _ _ _ _ _ a b c _=>h _ _ _ _ _ _ _ _ a b c
theorem KOk.pk(hk:KOk n0 H0 F0 σ F H n kc k)(h:Rs n0 H0 F0 σ F H n G):PK n0 H0 F0 σ F H (fun v=>kc v H n) (fun a=>k a none G):=
 fun v a hv=>hk σ F H n G v a none h hv Nx.refl
theorem tup0:VRel σ F H (.d (.tup [])) undef:=.dat (by unfold DRel; exact⟨[],rfl,by unfold aK; rfl⟩)
theorem Rs.none_of(h:Rs n0 H0 F0 σ F H n G){s:Nat}(hg:G.get s=none):σ s=none:=by
 cases q:σ s with
 | none=>rfl
 | some i=>obtain⟨B,hB⟩:=h.back s i q; rw[hg] at hB; cases hB
theorem Rs.new(h:Rs n0 H0 F0 σ F H n G){s:Nat}(hg:G.get s=none){i':Si}{B':Bx}{x:Option Blk}(hi:i'.nil=false→i'.b=n)
  (hB:Fz F H (H.set n x)→BRel (upd σ s i') F (H.set n x) i' B') (hne:∀ l,B'≠.env l:=by intro l e; cases e) :
  Rs n0 H0 F0 (upd σ s i') F (H.set n x) (n+1) (G.set s (some B'))∧Nx σ F H n (upd σ s i') F (H.set n x) (n+1) none:=by
 have hnone:=h.none_of hg
 have hp:=h.put (H':=H.set n x) (n':=n+1) (s:=s) (i':=i') (B':=B') (Nat.le_succ _) (fun b hb _=>by rw[Tr.get_set,if_neg (by omega)]) (fun i hi _=>by rw[hnone] at hi; cases hi)
  (fun z=>.inl (by rw[hi z]; omega)) (.inl hnone) hB (fun l e=>absurd e (hne l))
 have hσ:∀ t i,σ t=some i→upd σ s i' t=some i:=fun t i hx=>by rw[fw (fun z=>by subst z; rw[hnone] at hx; cases hx)]; exact hx
 exact⟨hp.2,Nat.le_succ _,fun _ z=>z,fun T A ht=>ht.mono hσ (fun _ z=>z) hp.1,kp0 ⟨fun b hb=>pres.of_eq (by rw[Tr.get_set,if_neg (by omega)]),fun t i hx=>⟨i,hσ t i hx,rfl,rfl⟩⟩⟩
noncomputable def DV(dst:Option Tmp)(G:Tr Bx)(k:Nat→Option D):Option D:=match dst with
 | some s=>match G.get s with
  | none=>k s
  | some _=>none
 | none=>none
theorem yw{Qx:D→Prop}{dst:Option Tmp}{f:Nat→Option D}(h:∀ s,dst=some s→G.get s=none→OutP Qx (f s)):OutP Qx (DV dst G f):=by
 cases dst with
 | none=>exact Out.no
 | some s=>
  simp only[DV]
  cases hg:G.get s with
  | none=>exact h s rfl hg
  | some _=>exact Out.no
theorem loc_ok{s:Nat}{i:Si}(hi:i.nil=false):VRel (upd σ s i) F H (.loc s 0) (ptr i.b):=by
 unfold VRel; exact⟨i,eV,hi,rfl⟩
theorem newD_ok{s:Nat}{d:D}{v:Value}{e:TypeId}(h:Rs n0 H0 F0 σ F H n G)(hg:G.get s=none)(hd:DRel F H d v)(hdat:datD d=true) :
  ∃ σ',Rs n0 H0 F0 σ' F (H.set n (some (.cells (aQ v) e false none))) (n+1) (G.set s (some (.dat (ny d) false)))∧VRel σ' F (H.set n (some (.cells (aQ v) e false none))) (.loc s 0) (ptr n) ∧
   Nx σ F H n σ' F (H.set n (some (.cells (aQ v) e false none))) (n+1) none∧σ' s=some ⟨n,0,0,0,false,.nil⟩:=by
 have:=h.new hg (i':=⟨n,0,0,0,false,.nil⟩) (B':=.dat (ny d) false) (x:=some (.cells (aQ v) e false none)) (fun _=>rfl) (fun hfz=>by
  have hc:=hd.cells hdat
  exact⟨rfl,⟨fun z=>absurd (h.lt z) (by simp),fun z=>by cases z⟩,hc.2,aQ v,e,none,by rw[Tr.get_set,if_pos rfl],hc.1.mono (fun _ z=>z) hfz⟩)
 exact⟨_,this.1,loc_ok rfl,this.2,eV⟩
theorem newB_ok{s:Nat}{l:List AV}{vs:List Value}{e:TypeId}(h:Rs n0 H0 F0 σ F H n G)(hg:G.get s=none)(hl:l.all oq=true)(hv:bQ σ F H l vs) :
  ∃ σ',Rs n0 H0 F0 σ' F (H.set n (some (.cells vs e false none))) (n+1) (G.set s (some (.box l)))∧VRel σ' F (H.set n (some (.cells vs e false none))) (.loc s 0) (ptr n) ∧
   Nx σ F H n σ' F (H.set n (some (.cells vs e false none))) (n+1) none∧σ' s=some ⟨n,0,0,0,false,.nil⟩:=by
 have hnone:=h.none_of hg
 have:=h.new hg (i':=⟨n,0,0,0,false,.nil⟩) (B':=.box l) (x:=some (.cells vs e false none)) (fun _=>rfl) (fun hfz=>
  ⟨rfl,fun z=>absurd (h.lt z) (by simp),hl,vs,e,none,by rw[Tr.get_set,if_pos rfl],hv.mono (fun t i hx=>by rw[fw (fun z=>by subst z; rw[hnone] at hx; cases hx)]; exact hx) (fun _ z=>z) hfz⟩)
 exact⟨_,this.1,loc_ok rfl,this.2,eV⟩
noncomputable def allocA(P:Program)(e:TypeId)(dst:Option Tmp)(G:Tr Bx)(k:KO):Option D:=
 getK (zeroD P e) fun z=>DV dst G fun s=>k (.loc s 0) none (G.set s (some (.dat (ny z) false)))
noncomputable def boxA(P:Program)(e:TypeId)(a:AV)(dst:Option Tmp)(G:Tr Bx)(k:KO):Option D:=DV dst G fun s=>match a with
 | .d x=>Nj P e x fun c=>k (.loc s 0) none (G.set s (some (.dat c false)))
 | .agg l=>k (.loc s 0) none (G.set s (some (.box l)))
 | .bad | .und=>none
 | a=>k (.loc s 0) none (G.set s (some (.box [a])))
theorem allocA_ok{e:TypeId}{dst:Option Tmp}(h:Rs n0 H0 F0 σ F H n G)(hk:KOkN dst n0 H0 F0 σ F H n kc k):Out n0 H0 F0 (jY P e H n kc) (allocA P e dst G k):=by
 unfold allocA
 refine Out.getK fun z hz=>yw fun s hd hs=>?_
 obtain⟨zv,h1,h2,h3⟩:=GY (F:=F) (H:=H) hz
 rw[allocK_eq h1]
 obtain⟨σ',r1,r2,r3,r4⟩:=newD_ok (e:=e) h hs h2 h3
 exact hk _ _ _ _ _ _ _ none r1 r2 r3 ⟨s,_,hd,r4,rfl,rfl,Nat.lt_succ_self _⟩
theorem leaf_one{a:AV}{v:Value}(hv:VRel σ F H a v)(ha:oq a=true):bQ σ F H [a] (aQ v):=by
 rw[(hv.leaf ha).2]; unfold bQ; exact⟨v,[],rfl,hv,by unfold bQ; rfl⟩
theorem boxA_ok{e:TypeId}{dst:Option Tmp}{a:AV}{v:Value}(h:Rs n0 H0 F0 σ F H n G)(hv:VRel σ F H a v)(hk:KOkN dst n0 H0 F0 σ F H n kc k):Out n0 H0 F0 (boxK e v H n kc) (boxA P e a dst G k):=by
 unfold boxA
 refine yw fun s hd0 hs=>?_
 rw[boxK_eq]
 have one:∀ {a:AV},VRel σ F H a v→oq a=true→Out n0 H0 F0 (kc (ptr n) (H.set n (some (.cells (aQ v) e false none))) (n+1)) (k (.loc s 0) none (G.set s (some (.box [a])))):=by
  intro a hv ha
  obtain⟨σ',r1,r2,r3,r4⟩:=newB_ok (e:=e) h hs (l:=[a]) (by simp [ha]) (leaf_one hv ha)
  exact hk _ _ _ _ _ _ _ none r1 r2 r3 ⟨s,_,hd0,r4,rfl,rfl,Nat.lt_succ_self _⟩
 cases a with
 | d x=>
  refine AJ fun hd=>?_
  obtain⟨σ',r1,r2,r3,r4⟩:=newD_ok (e:=e) h hs hv.un hd
  exact hk _ _ _ _ _ _ _ none r1 r2 r3 ⟨s,_,hd0,r4,rfl,rfl,Nat.lt_succ_self _⟩
 | agg l=>
  unfold VRel at hv
  obtain⟨hl,vs,rfl,h1⟩:=hv
  obtain⟨σ',r1,r2,r3,r4⟩:=newB_ok (e:=e) h hs hl h1
  exact hk _ _ _ _ _ _ _ none r1 r2 r3 ⟨s,_,hd0,r4,rfl,rfl,Nat.lt_succ_self _⟩
 | bad=>exact Out.no
 | und=>exact Out.no
 | b c=>exact one hv rfl
 | loc w o=>exact one hv rfl
 | osl w=>exact one hv rfl
 | mp w=>exact one hv rfl
 | asl w o n c=>exact one hv rfl
 | elo w i o=>exact one hv rfl
 | fn f a b=>exact one hv rfl
theorem splice_cut:∀ {c vs:List Value} {o:Nat},o+vs.length≤c.length→lX c o vs=some (c.take o++vs++c.drop (o+vs.length)):=by
 have over:∀ {c vs:List Value},vs.length≤c.length→lX.over c vs=some (vs++c.drop vs.length):=by
  intro c vs
  induction vs generalizing c with
  | nil=>intro _; cases c <;> simp [lX.over]
  | cons v vs ih=>
   intro h
   cases c with
   | nil=>simp at h
   | cons x c=>simp only[lX.over,ih (c:=c) (by simpa using h)]; simp
 intro c vs o
 induction o generalizing c with
 | zero=>intro h; unfold lX; rw[over (by omega)]; simp
 | succ o ih=>
  intro h
  cases c with
  | nil=>simp at h
  | cons x c=>
   unfold lX
   show(match lX c o vs with | none=>none | some r=>some (x::r))=_
   rw[ih (c:=c) (by simp at h; omega)]
   simp [show o+1+vs.length=o+vs.length+1 by omega]
theorem AQ{b o:Nat}{c vs:List Value}{e:TypeId}{vec:Option Nat}(hg:H.get b=some (.cells c e false vec))(hl:vs.all oQ=true)(ho:o+vs.length≤c.length) :
  pX H ⟨b,o,none⟩ vs=some (H.set b (some (.cells (c.take o++vs++c.drop (o+vs.length)) e false vec))):=by
 unfold pX
 simp only[hg,hl,if_true,splice_cut ho]
theorem Rs.write(h:Rs n0 H0 F0 σ F H n G){s:Nat}{i:Si}{B':Bx}{x:Option Blk}(hs:σ s=some i)(hnil:i.nil=false)(hF:¬ F i.b)(hx:∃ c e ro vec,x=some (.cells c e ro vec))
  (hH:∀ b,H'.get b=if b=i.b then x else H.get b) (hB:Fz F H H'→BRel σ F H' i B') (hne:∀ l,B'≠.env l:=by intro l e; cases e) :
  Rs n0 H0 F0 σ F H' n (G.set s (some B'))∧Nx σ F H n σ F H' n none:=by
 have hup:upd σ s i=σ:=by
  funext y; unfold upd; split
  ·rename_i q; rw[q,hs]
  ·rfl
 have hp:=h.put (H':=H') (n':=n) (s:=s) (i':=i) (B':=B') (Nat.le_refl _) (fun b hb hne=>by rw[hH,if_neg (hne i hs hnil)]) (fun j hj _=>.inl (by rw[hs] at hj; cases hj; exact hF))
  (fun z=>.inr ⟨i,hs,z,rfl⟩) (.inr (.inl hs)) (by rw[hup]; exact hB) (fun l e=>absurd e (hne l))
 rw[hup] at hp
 refine⟨hp.2,Nat.le_refl _,fun _ z=>z,fun T A ht=>ht.mono (fun _ _ z=>z) (fun _ z=>z) hp.1,kp0 ⟨fun b _ hb=>?_,fun _ j z=>⟨j,z,rfl,rfl⟩⟩⟩
 obtain⟨c,e,ro,vec,rfl⟩:=hx
 by_cases q:b=i.b
 ·exact⟨_,c,by rw[hH,if_pos q],rfl⟩
 ·exact hb.of_eq (by rw[hH,if_neg q])
theorem Rs.writeM(h:Rs n0 H0 F0 σ F H n G){s:Nat}{i:Si}{es es':List MapEntry}{c c':Nat}(hs:σ s=some i)(hnil:i.nil=false)(hF:¬ F i.b)(hm:H.get i.b=some (.map es c))
  (hH:∀ b,H'.get b=if b=i.b then some (.map es' c') else H.get b) :
  Rs n0 H0 F0 σ F H' n (G.set s (some (.map es' c' false)))∧Nx σ F H n σ F H' n none:=by
 have hup:upd σ s i=σ:=by
  funext y; unfold upd; split
  ·rename_i q; rw[q,hs]
  ·rfl
 have hp:=h.put (H':=H') (n':=n) (s:=s) (i':=i) (B':=.map es' c' false) (Nat.le_refl _) (fun b hb hne=>by rw[hH,if_neg (hne i hs hnil)]) (fun j hj _=>.inl (by rw[hs] at hj; cases hj; exact hF))
  (fun z=>.inr ⟨i,hs,z,rfl⟩) (.inr (.inl hs)) (by rw[hup]; exact fun _=>⟨hnil,⟨fun z=>absurd z hF,fun z=>by cases z⟩,by rw[hH,if_pos rfl]⟩)
 rw[hup] at hp
 refine⟨hp.2,Nat.le_refl _,fun _ z=>z,fun T A ht=>ht.mono (fun _ _ z=>z) (fun _ z=>z) hp.1,kp0 ⟨fun b _ hb=>?_,fun _ j z=>⟨j,z,rfl,rfl⟩⟩⟩
 by_cases q:b=i.b
 ·obtain ⟨B, c, h1, h2⟩ := hb
  rw[q,hm] at h1; cases h1; cases h2
 ·exact hb.of_eq (by rw[hH,if_neg q])
def StRes(P:Program)(t:TypeId)(av v:Value)(n0:Nat)(H0:KI ρ)(F0:Nat→Prop)(σ:Nat→Option Si)(F:Nat→Prop)(H:Hp)(n:Nat)(k:KO)(w:Nat)(y:D):Prop:=
 ∃ i x G',σ w=some i∧i.nil=false∧¬ F i.b∧(∀ Hm,Hm.get i.b=H.get i.b→dz P t av v Hm=some (Hm.set i.b x)) ∧
  (∀ H',(∀ b,H'.get b=if b=i.b then x else H.get b)→Rs n0 H0 F0 σ F H' n G'∧Nx σ F H n σ F H' n none)∧k (.d (.tup [])) none G'=some y
noncomputable def splA(c:List AV)(o:Nat)(l:List AV)(sz:Nat):Option (List AV):=match Nat.beq l.length sz with
 | true=>match Nat.ble (o+sz) c.length with
  | true=>some (c.take o++l++c.drop (o+sz))
  | false=>none
 | false=>none
noncomputable def nthsD(l:List D):Nat→Nat→(List AV→Option D)→Option D
 | 0,_,k=>k []
 | m+1,i,k=>bindO (l[i]?) fun d=>nthsD l m (i+1) fun c=>k (.d d::c)
theorem nthsD_eq{l:List D}:∀(suf pre:List D) (k:List AV→Option D),l=pre++suf→nthsD l suf.length pre.length k=k (suf.map .d)
 | [],_,_,_=>rfl
 | d::suf,pre,k,e=>by
  have h:l[pre.length]?=some d:=by rw[e]; simp
  have ih:=nthsD_eq (l:=l) suf (pre++[d]) (fun c=>k (.d d::c)) (by rw[e]; simp)
  simp only[List.length_append,List.length_cons,List.length_nil,Nat.zero_add] at ih
  show nthsD l (suf.length+1) pre.length k=_
  simp only[nthsD,h,aj]
  rw[ih]; rfl
noncomputable def cellsK(sz:Nat)(a:AV)(k:List AV→Option D):Option D:=match a with
 | .d x=>match Nat.beq sz 1 with
  | true=>chkK (bk x) (k [.d x])
  | false=>bindO (aggD x) fun l=>chkK (Nat.beq l.length sz) (nthsD l sz 0 k)
 | .agg l=>k l
 | .bad | .und=>none
 | a=>k [a]
theorem cellsK_ok{Qx:D→Prop}{sz:Nat}{a:AV}{v:Value}{f:List AV→Option D}(hv:VRel σ F H a v)(hk:∀ l,bQ σ F H l (aQ v)→l.all oq=true→OutP Qx (f l)) :
  OutP Qx (cellsK sz a f):=by
 have one:∀ {a:AV},VRel σ F H a v→oq a=true→OutP Qx (f [a]):=fun hv ha=>hk _ (leaf_one hv ha) (by simp [ha])
 cases a with
 | d x=>
  simp only[cellsK]
  split
  ·exact Out.chk fun hl=>one hv hl
  ·refine Out.bindO fun l hl => Out.chk fun hsz => ?_
   have hsz:=Nat.eq_of_beq_eq_true hsz
   cases x with
   | agg l'=>
    cases hl
    have hv:=hv.un
    unfold DRel at hv
    obtain⟨h0,vs,rfl,h1⟩:=hv
    have:=nthsD_eq (l:=l) l [] f rfl
    rw[← hsz]
    show OutP _ (nthsD l l.length ([]:List D).length f)
    rw[this]
    exact hk _ (bQ.of_D h1) (by rw[List.all_map]; exact h0)
   | _=>cases hl
 | agg l=>
  unfold VRel at hv
  obtain⟨hl,vs,rfl,h1⟩:=hv
  exact hk _ h1 hl
 | bad=>exact Out.no
 | und=>exact Out.no
 | b c=>exact one hv rfl
 | loc w o=>exact one hv rfl
 | osl w=>exact one hv rfl
 | mp w=>exact one hv rfl
 | asl w o n c=>exact one hv rfl
 | elo w i o=>exact one hv rfl
 | fn f a b=>exact one hv rfl
noncomputable def storeB(s o:Nat)(c:List AV)(sz:Nat)(x:AV)(G:Tr Bx)(k:KO):Option D:=
 cellsK sz x fun l=>getK (splA c o l sz) fun c'=>k (.d (.tup [])) none (G.set s (some (.box c')))
noncomputable def putD(P:Program)(t:TypeId)(c:List D)(o:Nat)(y:D)(sz:Nat)(k:List D→Option D):Option D:=match oW P t with
 | none=>none
 | some false=>match Nat.beq sz 1 with
  | true=>chkK (bk y) (chkK (Nat.blt o c.length) (k (c.set o y)))
  | false=>none
 | some true=>bindO (aggD y) fun ds=>bindO (splD c o ds sz) k
noncomputable def reT(P:Program)(e:TypeId)(c:List D)(k:D→Option D):Option D:=match oW P e with
 | some true=>k (.agg c)
 | some false=>match c with
  | [x]=>k x
  | _=>none
 | none=>none
noncomputable def storeA(P:Program)(t:TypeId)(a x:AV)(G:Tr Bx)(k:KO):Option D:=match szT P t with
 | some sz=>match a with
  | .loc s o=>match G.get s with
   | some (.dat c false)=>match x with
    | .d y=>putD P t c o y sz fun c'=>k (.d (.tup [])) none (G.set s (some (.dat c' false)))
    | x=>storeB s o (c.map .d) sz x G k
   | some (.box c)=>storeB s o c sz x G k
   | _=>none
  | .elo s i o=>match G.get s with
   | some (.vec els e z false)=>match x with
    | .d y=>bindO (els[i]?) fun el=>Nj P e el fun c=>putD P t c o y sz fun c'=>reT P e c' fun w=>k (.d (.tup [])) none (G.set s (some (.vec (els.set i w) e z false)))
    | _=>none
   | _=>none
  | _=>none
 | none=>none
theorem splD_leaf{c ds c':List D}{o s:Nat}(e:splD c o ds s=some c')(hc:c.all bk=true)(hd:ds.all bk=true):c'.all bk=true:=by
 unfold splD at e
 split at e
 ·cases e
  rw[List.all_eq_true] at hc hd ⊢
  intro x hx
  simp only[List.mem_append] at hx
  rcases hx with(hx | hx) | hx
  ·exact hc x (List.mem_of_mem_take hx)
  ·exact hd x hx
  ·exact hc x (List.mem_of_mem_drop hx)
 ·cases e
theorem splD_rel{c ds c':List D}{cv dv:List Value}{o s:Nat}(e:splD c o ds s=some c')(hc:aK F H c cv)(hd:aK F H ds dv) :
  dv.length=s∧o+s≤cv.length∧aK F H c' (cv.take o++dv++cv.drop (o+s)):=by
 unfold splD at e
 split at e
 ·rename_i q
  cases e
  have h1:=hc.length
  have h2:=hd.length
  exact⟨by omega,by omega,((hc.take o).append hd).append (hc.drop (o+s))⟩
 ·cases e
theorem Vj{t:TypeId}{sz:Nat}{a:Addr}{v:Value}(hs:szT P t=some sz)(hl:(aQ v).length=sz):dz P t (.pointer (some a)) v H=pX H a (aQ v):=by
 unfold dz; simp only[hs,hl,if_true]
theorem storeB_run{s o:Nat}{c:List AV}{cv:List Value}{sz:Nat}{x:AV}{v:Value}{i:Si}{t:TypeId}{e:TypeId}{vec:Option Nat}(h:Rs n0 H0 F0 σ F H n G)(hi:σ s=some i)(hnil:i.nil=false)(hF:¬ F i.b)
  (hg:H.get i.b=some (.cells cv e false vec)) (hc:bQ σ F H c cv) (hcl:c.all oq=true) (hs:szT P t=some sz) (hv:VRel σ F H x v) :
  OutP (StRes P t (.pointer (some ⟨i.b,o,none⟩)) v n0 H0 F0 σ F H n k s) (storeB s o c sz x G k):=by
 unfold storeB
 refine cellsK_ok hv fun l hl hll=>Out.getK fun c' hc'=>?_
 unfold splA at hc'
 split at hc'
 ·rename_i q1
  split at hc'
  ·rename_i q2
   cases hc'
   have q1:=Nat.eq_of_beq_eq_true q1
   have q2:=Nat.le_of_ble_eq_true q2
   have hlen:=hl.length
   have hlc:=hc.length
   intro y ey
   refine⟨i,some (.cells (cv.take o++aQ v++cv.drop (o+sz)) e false vec),_,hi,hnil,hF,fun Hm hm=>?_,fun H' hH'=>?_,ey⟩
   ·rw[Vj hs (by omega),AQ (hm.trans hg) (hl.leafs hll) (by omega),show o+(aQ v).length=o+sz by omega]
   ·exact h.write (B':=.box (c.take o++l++c.drop (o+sz))) hi hnil hF ⟨_,_,_,_,rfl⟩ hH' (fun hfz=>by
     refine⟨hnil,hF,?_,_,e,vec,by rw[hH',if_pos rfl],?_⟩
     ·rw [List.all_eq_true] at hcl hll ⊢
      intro y hy
      simp only[List.mem_append] at hy
      rcases hy with(hy | hy) | hy
      ·exact hcl y (List.mem_of_mem_take hy)
      ·exact hll y hy
      ·exact hcl y (List.mem_of_mem_drop hy)
     ·exact(((hc.take o).append hl).append (hc.drop (o+sz))).mono (fun _ _ z=>z) (fun _ z=>z) hfz)
  ·cases hc'
 ·cases hc'
theorem set_cut:∀ {c:List D} {o:Nat} {y:D},o<c.length→c.set o y=c.take o++[y]++c.drop (o+1)
 | [],_,_,h=>by simp at h
 | x::c,0,y,_=>by simp
 | x::c,o+1,y,h=>by simp only[List.set_cons_succ,List.take_succ_cons,List.drop_succ_cons,List.cons_append]; rw[set_cut (by simpa using h)]
theorem putD_ok{Qx:D→Prop}{t:TypeId}{c:List D}{cv:List Value}{o sz:Nat}{y:D}{v:Value}{f:List D→Option D}(hc:aK F H c cv)(hcl:c.all bk=true)(hv:DRel F H y v)
  (hk:∀ c',(aQ v).length=sz→(aQ v).all oQ=true→o+sz≤cv.length→aK F H c' (cv.take o++aQ v++cv.drop (o+sz))→c'.all bk=true→OutP Qx (f c')):OutP Qx (putD P t c o y sz f):=by
 have hlen:=hc.length
 unfold putD
 split
 ·exact Out.no
 ·split
  case h_2=>exact Out.no
  rename_i q
  have:=Nat.eq_of_beq_eq_true q; subst this
  refine Out.chk fun hl=>Out.chk fun ho=>?_
  have ho:o<c.length:=by simpa using ho
  have hq:=hv.leaf hl
  have h1:aK F H [y] (aQ v):=by rw[hq.2.2.2]; unfold aK; exact⟨v,[],rfl,hv,by unfold aK; rfl⟩
  rw[set_cut ho]
  refine hk _ (by rw[hq.2.2.2]; rfl) (by rw[hq.2.2.2]; simp [hq.1]) (by omega) (((hc.take o).append h1).append (hc.drop (o+1))) ?_
  rw[List.all_eq_true] at hcl ⊢
  intro z hz
  simp only[List.mem_append,List.mem_cons,List.not_mem_nil,or_false] at hz
  rcases hz with(hz | hz) | hz
  ·exact hcl z (List.mem_of_mem_take hz)
  ·rw[hz]; exact hl
  ·exact hcl z (List.mem_of_mem_drop hz)
 ·refine Out.bindO fun ds hds => Out.bindO fun c' hc' => ?_
  cases y with
  | agg l=>
   cases hds
   have hcy:=hv.cells rfl
   obtain⟨r1,r2,r3⟩:=splD_rel hc' hc hcy.1
   exact hk c' r1 (hcy.1.leafs hcy.2).1 r2 r3 (splD_leaf hc' hcl hcy.2)
  | _=>cases hds
def DNew(F:Nat→Prop)(H:Hp)(l:List D)(c:List Value)(s:Nat):Prop:=
 ∀(i:Nat) d,l[i]?=some d→datD d=true∧∃ v,DRel F H d v∧(aQ v).length=s∧∀(j:Nat) u,(aQ v)[j]?=some u→c[i * s+j]?=some u
variable {l l':List D} {c c':List Value} {s b:Nat} {e:TypeId} {ro:Bool} {vec:Option Nat}
theorem DAt.new(h:DAt F H l b 0 s)(hg:H.get b=some (.cells c e ro vec)):DNew F H l c s:=fun i d hd=>by
 obtain⟨h0,v,h1,h2,B,c2,h3,h4,h5⟩:=h.get hd
 rw[hg] at h3; cases h3; cases h4
 exact⟨h0,v,h1,h2,fun j u hj=>by have:=h5 j u hj; rwa [Nat.zero_add] at this⟩
theorem DNew.at(h:DNew F H l c s)(hF:∀ b,F b→F' b)(hfz:Fz F H H')(hg:H'.get b=some (.cells c e ro vec)):DAt F' H' l b 0 s:=DAt.of_get fun i d hd=>by
 obtain⟨h0,v,h1,h2,h3⟩:=h i d hd
 exact⟨h0,v,h1.mono hF hfz,h2,_,c,hg,rfl,fun j u hj=>by rw[Nat.zero_add]; exact h3 j u hj⟩
theorem nj{α:Type}{l:List α}{i:Nat}{x:α}(h:l[i]?=some x):i<l.length:=(List.getElem?_eq_some_iff.1 h).1
theorem DNew.app(h:DNew F H l c s)(hc:c.length=l.length * s)(h':DNew F H l' c' s):DNew F H (l++l') (c++c') s:=fun i d hd=>by
 by_cases q:i<l.length
 ·rw [List.getElem?_append_left q] at hd
  obtain⟨h0,v,h1,h2,h3⟩:=h i d hd
  refine⟨h0,v,h1,h2,fun j u hj=>?_⟩
  have:=h3 j u hj
  rw[List.getElem?_append_left (nj this)]; exact this
 ·rw [List.getElem?_append_right (by omega)] at hd
  obtain⟨h0,v,h1,h2,h3⟩:=h' _ d hd
  refine⟨h0,v,h1,h2,fun j u hj=>?_⟩
  have hm:i * s=(i-l.length) * s+l.length * s:=by rw[← Nat.add_mul]; congr 1; omega
  rw[List.getElem?_append_right (by omega),← h3 j u hj]
  congr 1; omega
theorem DNew.ext(h:DNew F H l c s)(x:List Value):DNew F H l (c++x) s:=fun i d hd=>by
 obtain⟨h0,v,h1,h2,h3⟩:=h i d hd
 exact⟨h0,v,h1,h2,fun j u hj=>by rw[List.getElem?_append_left (nj (h3 j u hj))]; exact h3 j u hj⟩
theorem DNew.pre(h:DNew F H l c s):DNew F H l (c.take (l.length * s)) s:=fun i d hd=>by
 obtain⟨h0,v,h1,h2,h3⟩:=h i d hd
 refine⟨h0,v,h1,h2,fun j u hj=>?_⟩
 have hi:=nj hd
 have hj':=nj hj
 have hm:(i+1) * s≤l.length * s:=Nat.mul_le_mul_right s (by omega)
 rw[Nat.succ_mul] at hm
 rw[List.getElem?_take,if_pos (by omega)]; exact h3 j u hj
theorem DNew.leaf(h:DNew F H l c s)(hs:1≤s)(hc:c.length=l.length * s):c.all oQ=true:=by
 rw[List.all_eq_true]
 intro x hx
 obtain⟨k,hk,rfl⟩:=List.getElem_of_mem hx
 have hi:k / s<l.length:=(Nat.div_lt_iff_lt_mul (by omega)).2 (by omega)
 obtain⟨h0,v,h1,h2,h3⟩:=h (k / s) _ (List.getElem?_eq_getElem hi)
 have hj:k % s<(aQ v).length:=by rw[h2]; exact Nat.mod_lt _ (by omega)
 have h4:=h3 (k % s) _ (List.getElem?_eq_getElem hj)
 have hm:k / s * s+k % s=k:=by rw[Nat.mul_comm]; exact Nat.div_add_mod k s
 rw[hm,List.getElem?_eq_getElem hk] at h4
 have hcl:=h1.cells h0
 have:=(hcl.1.leafs hcl.2).1
 rw[List.all_eq_true] at this
 rw[Option.some.inj h4]
 exact this _ (List.getElem_mem hj)
theorem DNew.nil:DNew F H [] c s:=fun i d hd=>by cases hd
theorem DAt.flatS:∀ {l:List D} {b o s:Nat},DAt F H l b o s→l≠[]→∃ c,c.length=l.length * s∧fx H b o c∧DNew F H l c s∧c.all nq=true
 | [],_,_,_,_,hn=>absurd rfl hn
 | d::l,b,o,s,h,_=>by
  unfold DAt at h
  obtain⟨⟨h0,v,h1,h2,B,cc,h3,h4,h5⟩,h6⟩:=h
  have hcl:=h1.cells h0
  have hno:=(hcl.1.leafs hcl.2).2
  have one:DNew F H [d] (aQ v) s:=fun i x hx=>by
   cases i with
   | zero=>cases hx; exact⟨h0,v,h1,h2,fun j u hj=>by simpa using hj⟩
   | succ i=>cases hx
  by_cases hn:l=[]
  ·subst hn
   exact⟨aQ v,by simp [h2],⟨B,cc,h3,h4,h5⟩,one,hno⟩
  ·obtain ⟨c, g1, ⟨B', cc', g2, g3, g4⟩, g5, g6⟩ := DAt.flatS h6 hn
   rw[h3] at g2; cases g2
   rw[h4] at g3; cases g3
   refine⟨aQ v++c,by simp [h2,g1,Nat.succ_mul]; omega,⟨B,cc,h3,h4,fun k u hk=>?_⟩,one.app (by simp [h2]) g5,by rw[List.all_append,hno,g6]; rfl⟩
   by_cases q:k<(aQ v).length
   ·rw[List.getElem?_append_left q] at hk; exact h5 k u hk
   ·rw [List.getElem?_append_right (by omega)] at hk
    have:=g4 _ u hk
    rw[← this]; congr 1; omega
end Go.Ev
end
section
namespace Go.Ev
open Go
variable {σ σ':Nat→Option Si} {F F' F0:Nat→Prop} {H H':Hp} {ρ:Type} {H0:KI ρ} {n n' n0:Nat} {G G':Tr Bx} {T:Tm} {A A':Tr AV} {P:Program}
 {kc:Value→Hp→Nat→Option ρ} {k:KO}
theorem reT_ok{Qx:D→Prop}{e:TypeId}{c':List D}{vs:List Value}{f:D→Option D}(hc:aK F H c' vs)(hl:c'.all bk=true)
  (hk:∀ w u,datD w=true→DRel F H w u→aQ u=vs→OutP Qx (f w)):OutP Qx (reT P e c' f):=by
 unfold reT
 split
 ·exact hk _ (.agg ⟨vs⟩) rfl (by unfold DRel; exact⟨hl,vs,rfl,hc⟩) rfl
 ·split
  ·rename_i x
   unfold aK at hc
   obtain⟨w,vs',rfl,g1,g2⟩:=hc
   unfold aK at g2; subst g2
   simp only[List.all_cons,Bool.and_eq_true] at hl
   exact hk x w (UY hl.1) g1 (g1.leaf hl.1).2.2.2
  ·exact Out.no
 ·exact Out.no
theorem DNew.set{l:List D}{c:List Value}{s i o:Nat}{d:D}{v u:Value}{dv:List Value}(h:DNew F H l c s)(_:l[i]?=some d)(_:DRel F H d v)(hvl:(aQ v).length=s)(hvc:∀(j:Nat) w,(aQ v)[j]?=some w→c[i * s+j]?=some w)
  {d':D} (hd':datD d'=true) (hu:DRel F H d' u) (huc:aQ u=(aQ v).take o++dv++(aQ v).drop (o+dv.length)) (ho:o+dv.length≤s) :
  DNew F H (l.set i d') (c.take (i * s+o)++dv++c.drop (i * s+o+dv.length)) s:=by
 have hlast:i * s+s≤c.length:=by
  rcases Nat.eq_zero_or_pos s with q | q
  ·subst q
   by_cases hc:0<c.length
   ·omega
   ·omega
  ·have := hvc (s - 1) _ (List.getElem?_eq_getElem (by omega))
   have:=nj this; omega
 have hget:∀(k:Nat),(c.take (i * s+o)++dv++c.drop (i * s+o+dv.length))[k]?=if k<i * s+o then c[k]? else if k<i * s+o+dv.length then dv[k-(i * s+o)]? else c[k]?:=by
  intro k
  by_cases q1:k<i * s+o
  ·rw[if_pos q1,List.getElem?_append_left (by simp; omega),List.getElem?_append_left (by simp; omega),List.getElem?_take,if_pos q1]
  ·rw [if_neg q1]
   by_cases q2:k<i * s+o+dv.length
   ·rw [if_pos q2, List.getElem?_append_left (by simp; omega), List.getElem?_append_right (by simp; omega)]
    congr 1; simp; omega
   ·rw [if_neg q2, List.getElem?_append_right (by simp; omega), List.getElem?_drop]
    congr 1; simp; omega
 intro k x hx
 rw[List.getElem?_set] at hx
 by_cases q:i=k
 ·subst q
  rw[if_pos rfl] at hx
  split at hx
  ·cases hx
   refine⟨hd',u,hu,by rw[huc]; simp; omega,fun j w hj=>?_⟩
   have hjl:=nj hj
   rw[huc] at hj hjl
   simp at hjl
   rw[hget]
   by_cases q1:j<o
   ·rw [if_pos (by omega)]
    rw[List.getElem?_append_left (by simp; omega),List.getElem?_append_left (by simp; omega),List.getElem?_take,if_pos q1] at hj
    exact hvc j w hj
   ·rw [if_neg (by omega)]
    by_cases q2:j<o+dv.length
    ·rw [if_pos (by omega)]
     rw[List.getElem?_append_left (by simp; omega),List.getElem?_append_right (by simp; omega)] at hj
     rw[← hj]; congr 1; simp; omega
    ·rw [if_neg (by omega)]
     rw[List.getElem?_append_right (by simp; omega),List.getElem?_drop] at hj
     refine hvc j w ?_
     rw[← hj]; congr 1; simp; omega
  ·cases hx
 ·rw [if_neg q] at hx
  obtain⟨g0,w,g1,g2,g3⟩:=h k x hx
  refine⟨g0,w,g1,g2,fun j y hj=>?_⟩
  have hj':=nj hj
  rw[hget]
  rcases Nat.lt_or_gt_of_ne q with q | q
  ·have : (i + 1) * s ≤ k * s := Nat.mul_le_mul_right s (by omega)
   rw[Nat.succ_mul] at this
   rw[if_neg (by omega),if_neg (by omega)]; exact g3 j y hj
  ·have : (k + 1) * s ≤ i * s := Nat.mul_le_mul_right s (by omega)
   rw[Nat.succ_mul] at this
   rw[if_pos (by omega)]; exact g3 j y hj
noncomputable def addrS:AV→Option Nat
 | .loc s _=>some s
 | .elo s _ _=>some s
 | _=>none
theorem storeA_run{t:TypeId}{a x:AV}{av v:Value}(h:Rs n0 H0 F0 σ F H n G)(ha:VRel σ F H a av)(hv:VRel σ F H x v) :
  OutP (fun y=>∃ w,addrS a=some w∧StRes P t av v n0 H0 F0 σ F H n k w y) (storeA P t a x G k):=by
 unfold storeA
 split
 ·rename_i sz hs
  cases a with
  | loc s o=>
   simp only
   unfold VRel at ha
   obtain⟨i,hi,hnil,rfl⟩:=ha
   split
   ·rename_i c hg
    obtain⟨j,hj,hB⟩:=h.site _ _ hg
    rw[hi] at hj; cases hj
    obtain⟨b1,b2,b3,cs,el,vec,b4,b5⟩:=hB
    have hF:¬ F i.b:=fun z=>by have:=b2.1 z; cases this
    have wired:∀ {x:AV},VRel σ F H x v→OutP (fun y=>∃ w,addrS (.loc s o)=some w∧StRes P t (.pointer (some ⟨i.b,o,none⟩)) v n0 H0 F0 σ F H n k w y) (storeB s o (c.map .d) sz x G k):=fun hv y e=>
     ⟨s,rfl,storeB_run h hi hnil hF b4 (bQ.of_D b5) (by rw[List.all_map]; exact b3) hs hv y e⟩
    cases x with
    | d y=>
     refine putD_ok b5 b3 hv.un fun c' r1 r2 r3 r4 r5=>?_
     intro y ey
     refine⟨s,rfl,i,some (.cells (cs.take o++aQ v++cs.drop (o+sz)) el false vec),_,hi,hnil,hF,fun Hm hm=>?_,fun H' hH'=>?_,ey⟩
     ·rw[Vj hs r1,AQ (hm.trans b4) r2 (by omega),r1]
     ·exact h.write (B':=.dat c' false) hi hnil hF ⟨_,_,_,_,rfl⟩ hH' (fun hfz=>
       ⟨hnil,⟨fun z=>absurd z hF,fun z=>by cases z⟩,r5,_,el,vec,by rw[hH',if_pos rfl],r4.mono (fun _ z=>z) hfz⟩)
    | _=>exact wired hv
   ·rename_i c hg
    obtain⟨j,hj,b1,b2,b3,cs,el,vec,b4,b5⟩:=h.site _ _ hg
    rw[hi] at hj; cases hj
    exact fun y e=>⟨s,rfl,storeB_run h hi hnil b2 b4 b5 b3 hs hv y e⟩
   ·exact Out.no
  | elo s q o=>
   simp only
   unfold VRel at ha
   obtain⟨i,hi,hnil,rfl⟩:=ha
   split
   ·rename_i els e z hg
    cases x with
    | d y=>
     refine Out.bindO fun el hel=>AJ fun _=>?_
     obtain⟨j,hj,b1,b2,b3,b4⟩:=h.site _ _ hg
     rw[hi] at hj; cases hj
     rcases b4 with⟨b4,_⟩ | ⟨_,b4,b5,b6,c,vec,b7,b8⟩
     ·rw[hnil] at b4; cases b4
     ·have hF : ¬ F i.b := fun z => by have := b4.1 z; cases this
      have hnew:=b6.new b7
      obtain⟨g0,w,g1,g2,g3⟩:=hnew q el hel
      have hce:=g1.cells g0
      refine putD_ok hce.1 hce.2 hv.un fun c' r1 rl r2 r3 r4=>reT_ok r3 r4 fun d' u u0 u1 u2=>?_
      have hlast:q * z+z≤c.length:=by
       have:=g3 (z-1) _ (List.getElem?_eq_getElem (by omega))
       have:=nj this; omega
      have hset:=hnew.set (o:=o) (dv:=aQ v) hel g1 g2 g3 u0 u1 (by rw[u2,r1]) (by omega)
      intro y ey
      refine⟨s,rfl,i,some (.cells (c.take (q * z+o)++aQ v++c.drop (q * z+o+(aQ v).length)) e false vec),_,hi,hnil,hF,fun Hm hm=>?_,fun H' hH'=>?_,ey⟩
      ·rw[b2,Vj hs r1,AQ (hm.trans b7) rl (by omega)]
      ·exact h.write (B':=.vec (els.set q d') e z false) hi hnil hF ⟨_,_,_,_,rfl⟩ hH' (fun hfz=>by
        have hg':H'.get i.b=some (.cells (c.take (q * z+o)++aQ v++c.drop (q * z+o+(aQ v).length)) e false vec):=by rw[hH',if_pos rfl]
        refine⟨by simp [b1],b2,b3,.inr ⟨hnil,⟨fun y=>absurd y hF,fun y=>by cases y⟩,by simp [b5],hset.at (fun _ z=>z) hfz hg',_,vec,hg',?_⟩⟩
        simp only[List.length_append,List.length_take,List.length_drop,List.length_set]
        rcases b8 with⟨x1,x2,x3⟩ | ⟨x1,x2⟩
        ·exact .inl ⟨x1,x2,by omega⟩
        ·exact .inr ⟨x1,by omega⟩)
    | _=>exact Out.no
   ·exact Out.no
  | _=>exact Out.no
 ·exact Out.no
theorem storeA_ok{t:TypeId}{a x:AV}{av v:Value}(h:Rs n0 H0 F0 σ F H n G)(ha:VRel σ F H a av)(hv:VRel σ F H x v)(hk:KOk n0 H0 F0 σ F H n kc k) :
  Out n0 H0 F0 (bindO (dz P t av v H) fun H=>kc undef H n) (storeA P t a x G k):=by
 intro y e
 obtain⟨w,_,i,x,G',h1,h2,_,h3,h4,h5⟩:=storeA_run (P:=P) h ha hv y e
 rw[h3 H rfl,aj]
 obtain⟨r1,r2⟩:=h4 (H.set i.b x) (fun b=>by rw[Tr.get_set])
 exact hk _ _ _ _ _ _ _ none r1 tup0 r2 y h5
noncomputable def appT(P:Program)(t t2:TypeId):Option (TypeId × Nat):=match dY P t with
 | some e=>match dY P t2 with
  | some _=>match szT P e,sK P e,jx P e with
   | some s,some b,some z=>match Nat.beq (aQ z).length s && Nat.blt s 1048576 && Nat.blt b 1048576 && Nat.ble 1 s with
    | true=>some (e,s)
    | false=>none
   | _,_,_=>none
  | none=>none
 | none=>none
noncomputable def srcA(y:AV)(s:Nat)(G:Tr Bx)(k:List D→Option D):Option D:=match y with
 | .d u=>bindO (elsD u) fun l=>chkK (l.all (szOk s)) (k l)
 | .osl w=>match G.get w with
  | some (.vec els _ sz _)=>match Nat.beq sz s with
   | true=>k els
   | false=>none
  | _=>none
 | _=>none
theorem loadN_zero{a:Addr}:loadN H a 0=none∨loadN H a 0=some []:=by
 have hc:∀ c:List Value,cut c a.off 0=some []:=fun c=>by unfold cut; simp
 unfold loadN
 split
 ·exact .inl rfl
 ·split
  ·rw[hc]; exact .inr rfl
  ·rw[hc]; exact .inr rfl
  ·rw[hc]; exact .inr rfl
  ·exact .inl rfl
theorem AW{s cap:Nat}{a:Option Addr}:iy H s (.slice a 0 cap)=some ([],0):=by
 cases a with
 | none=>simp [iy]
 | some a=>
  simp only[iy,Nat.zero_mul]
  rcases loadN_zero (H:=H) (a:=a) with q | q <;> rw[q] <;> rfl
theorem srcA_ok{Qx:D→Prop}{y:AV}{yv:Value}{s:Nat}{f:List D→Option D}(h:Rs n0 H0 F0 σ F H n G)(hy:VRel σ F H y yv)(hs:1≤s)
  (hk:∀ l new,iy H s yv=some (new,l.length)→DNew F H l new s→new.length=l.length * s→OutP Qx (f l)):OutP Qx (srcA y s G f):=by
 cases y with
 | d u=>
  refine Out.bindO fun l hl=>Out.chk fun hsz=>?_
  rcases IW hy.un hl with⟨rfl,rfl⟩ | ⟨b,o,cap,s',rfl,g1,g2,g3⟩ | ⟨rfl,a,cap,rfl,_⟩
  rotate_left 2
  ·exact hk [] [] AW DNew.nil (by simp)
  ·exact hk [] [] AW DNew.nil (by simp)
  ·by_cases hne : l = []
   ·subst hne; exact hk [] [] AW DNew.nil (by simp)
   ·obtain ⟨g3, g4⟩ := g3.resolve_left hne
    have hss:s'=s:=by
     cases l with
     | nil=>exact absurd rfl hne
     | cons d l=>
      simp only[List.all_cons,Bool.and_eq_true] at hsz
      have:=Nat.eq_of_beq_eq_true hsz.1
      unfold DAt at g4
      obtain⟨⟨q0,v,q1,q2,_⟩,_⟩:=g4
      rw[← q2,(q1.cells q0).1.length]; exact this
    subst hss
    obtain⟨c,c1,c2,c3,c4⟩:=g4.flatS hne
    refine hk l c ?_ c3 c1
    have:=loadN_at (k:=0) (s:=l.length * s') c2 (by omega) c4
    simp only[Nat.add_zero,List.drop_zero] at this
    rw[← c1,List.take_length] at this
    simp only[iy,← c1,this]
 | osl w=>
  simp only[srcA]
  split
  ·rename_i els e sz fz hg
   split
   ·rename_i q
    have:=Nat.eq_of_beq_eq_true q; subst this
    obtain⟨i,hi,b1,b2,b3,b4⟩:=h.site _ _ hg
    unfold VRel at hy
    obtain⟨j,hj,hy⟩:=hy
    rw[hi] at hj; cases hj
    rcases b4 with⟨b4,rfl⟩ | ⟨b4,b5,b6,b7,c,vec,b8,b9⟩
    ·rcases hy with ⟨_, rfl⟩ | ⟨z, _⟩
     ·exact hk [] [] AW DNew.nil (by simp)
     ·rw[b4] at z; cases z
    ·rcases hy with ⟨z, _⟩ | ⟨_, rfl⟩
     ·rw[b4] at z; cases z
     ·have hle : els.length * sz ≤ c.length := by
       rcases b9 with⟨_,_,x⟩ | ⟨_,x⟩
       ·omega
       ·rw[x]; exact Nat.mul_le_mul_right sz b6
      refine hk els (c.take (els.length * sz)) ?_ ((b7.new b8).pre) (by simp; omega)
      have:loadN H ⟨i.b,0,none⟩ (els.length * sz)=some (c.take (els.length * sz)):=by
       unfold loadN
       simp only[b8]
       rw[GZ (by omega)]; rfl
      simp only[iy,b1,this]
   ·exact Out.no
  ·exact Out.no
 | _=>exact Out.no
noncomputable def poiA(w:Nat)(a:AV):AV:=match okA (notS w) a with
 | true=>a
 | false=>.bad
noncomputable def poiB(w:Nat):Bx→Bx
 | .box l=>.box (l.map (poiA w))
 | .env l=>.env (l.filter fun x=>okA (notS w) x.2)
 | B=>B
theorem poiA_ok{w:Nat}{a:AV}:okA (notS w) (poiA w a)=true∧(oq a=true→oq (poiA w a)=true):=by
 unfold poiA
 split
 ·rename_i h; exact⟨h,id⟩
 ·exact⟨rfl,fun _=>rfl⟩
theorem poiL{w:Nat}:∀ {l:List AV} {vs:List Value},bQ σ F H l vs→l.all oq=true→bQ σ F H (l.map (poiA w)) vs∧(l.map (poiA w)).all oq=true∧okAL (notS w) (l.map (poiA w))=true
 | [],vs,h,_=>⟨h,rfl,by simp [okAL]⟩
 | a::l,vs,h,hl=>by
  unfold bQ at h
  obtain⟨v,vs',rfl,h1,h2⟩:=h
  simp only[List.all_cons,Bool.and_eq_true] at hl
  obtain⟨i1,i2,i3⟩:=poiL (w:=w) h2 hl.2
  refine⟨?_,?_,?_⟩
  ·simp only [List.map_cons, bQ]
   refine⟨v,vs',rfl,?_,i1⟩
   unfold poiA
   split
   ·exact h1
   ·unfold VRel; exact(h1.leaf hl.1).1
  ·simp only[List.map_cons,List.all_cons,Bool.and_eq_true]; exact⟨poiA_ok.2 hl.1,i2⟩
  ·simp only[List.map_cons,okAL,Bool.and_eq_true]; exact⟨poiA_ok.1,i3⟩
theorem Rs.poison(h:Rs n0 H0 F0 σ F H n G)(w:Nat):Rs n0 H0 F0 σ F H n (mapT (poiB w) G)∧∀ s B,(mapT (poiB w) G).get s=some B→okB (notS w) B=true:=by
 have key:∀ s B,(mapT (poiB w) G).get s=some B→∃ B0,G.get s=some B0∧B=poiB w B0:=by
  intro s B e
  rw[mapT_get] at e
  cases hg:G.get s with
  | none=>rw[hg] at e; cases e
  | some B0=>rw[hg] at e; cases e; exact⟨B0,rfl,rfl⟩
 refine⟨⟨h.le,h.keep,h.sub,h.fin,h.low,fun s B e=>?_,fun s i e=>?_,h.own,h.inj,h.ownC,h.finC,h.fs,fun s l e i hi=>?_⟩,fun s B e=>?_⟩
 ·obtain ⟨B0, h1, rfl⟩ := key s B e
  obtain⟨i,hi,hB⟩:=h.site s B0 h1
  refine⟨i,hi,?_⟩
  cases B0 with
  | box l=>
   obtain⟨b1,b2,b3,c,e,vec,b4,b5⟩:=hB
   have:=poiL (w:=w) b5 b3
   exact⟨b1,b2,this.2.1,c,e,vec,b4,this.1⟩
  | env l=>exact⟨hB.1,fun x hx=>hB.2 x (List.mem_filter.1 hx).1⟩
  | _=>exact hB
 ·obtain ⟨B, hB⟩ := h.back s i e
  rw[mapT_get,hB]; exact⟨_,rfl⟩
 ·obtain ⟨B0, h1, h2⟩ := key s _ e
  cases B0 with
  | env l0=>exact h.tms s l0 h1 i hi
  | _=>cases h2
 ·obtain ⟨B0, h1, rfl⟩ := key s B e
  obtain⟨i,hi,hB⟩:=h.site s B0 h1
  cases B0 with
  | box l=>
   obtain⟨b1,b2,b3,c,e,vec,b4,b5⟩:=hB
   exact(poiL (w:=w) b5 b3).2.2
  | env l=>exact List.all_eq_true.2 fun x hx=>(List.mem_filter.1 hx).2
  | _=>rfl
noncomputable def IX(P:Program)(t t2:TypeId)(x y:AV)(dst:Option Tmp)(G:Tr Bx)(k:KO):Option D:=getK (appT P t t2) fun p=>srcA y p.2 G fun els2=>match x with
 | .d (.v (.slice none 0 0))=>DV dst G fun w=>bindO (appD [] els2) fun l=>k (.osl w) none (G.set w (some (.vec l p.1 p.2 false)))
 | .osl w=>match G.get w with
  | some (.vec els e s false)=>match Nat.beq e p.1 && Nat.beq s p.2 with
   | true=>bindO (appD els els2) fun l=>k (.osl w) (some w) ((mapT (poiB w) G).set w (some (.vec l p.1 p.2 false)))
   | false=>none
  | _=>none
 | _=>none
theorem appT_ok{t t2 e:TypeId}{s:Nat}(h:appT P t t2=some (e,s)):∃ e2 b z,dY P t=some e∧dY P t2=some e2∧szT P e=some s∧sK P e=some b∧jx P e=some z∧Nat.beq (aQ z).length s=true∧s<1048576∧b<1048576∧1≤s:=by
 unfold appT at h
 split at h
 ·rename_i e' h1
  split at h
  ·rename_i e2 h2
   split at h
   ·rename_i s' b z h3 h4 h5
    split at h
    ·rename_i h6
     cases h
     simp only[Bool.and_eq_true] at h6
     exact⟨e2,b,z,h1,h2,h3,h4,h5,h6.1.1.1,by simpa using h6.1.1.2,by simpa using h6.1.2,Nat.le_of_ble_eq_true h6.2⟩
    ·cases h
   ·cases h
  ·cases h
 ·cases h
theorem appD_ok{l l' r:List D}(h:appD l l'=some r):r=l++l'∧l.length+l'.length<1048576:=by
 unfold appD at h
 split at h
 ·cases h; exact⟨rfl,by assumption⟩
 ·cases h
theorem osl_ok{w:Nat}{i:Si}(hi:i.nil=false){m cap b:Nat}(h1:i.b=b)(h2:i.len=m)(h3:i.cap=cap):VRel (upd σ w i) F H (.osl w) (.slice (some ⟨b,0,none⟩) m cap):=by
 subst h1; subst h2; subst h3
 unfold VRel; exact⟨i,eV,.inr ⟨hi,rfl⟩⟩
theorem Pz{v:Value}{s:St}{f:Value→Hp→Nat→Option ρ}:stK (some (v,s)) f=f v s.H s.n:=rfl
theorem killT{w:Nat}{i':Si}(hfz:Fz F H H')(ht:TRl σ F H T A):TRl (upd σ w i') F H' T (zx (some w) A):=fun t a e=>by
 obtain⟨h1,h2⟩:=filtT_get e
 obtain⟨v,h3,h4⟩:=ht t a h1
 exact⟨v,h3,VRel.put hfz (.inr (.inr h2)) h4⟩
theorem appNil{t t2 e:TypeId}{s:Nat}{yv:Value}{new:List Value}{m:Nat}(hT:appT P t t2=some (e,s))(hsrc:iy H s yv=some (new,m))(hm:m<1048576) :
  stK (cZ P (bare H n) t t2 (.slice none 0 0) yv) kc=if m=0 then kc (.slice none 0 0) H n else kc (.slice (some ⟨n,0,none⟩) m capV) (H.set n (some (.cells new e false (some s)))) (n+1):=by
 obtain⟨e2,b,z,h1,h2,h3,h4,h5,h6,h7,h8,h9⟩:=appT_ok hT
 have e1:(bare H n).H=H:=rfl
 unfold cZ
 simp only[h1,h2,h3,h4,h5,h6,e1,hsrc]
 cases m with
 | zero=>rfl
 | succ m=>
  have hb:Dx (m+1) s b=true:=by
   unfold Dx
   simp [h7,h8,hm]
  simp only[hb]
  rfl
theorem appendA_ok{t t2:TypeId}{x y:AV}{xv yv:Value}{dst:Option Tmp}(h:Rs n0 H0 F0 σ F H n G)(hx:VRel σ F H x xv)(hy:VRel σ F H y yv)(hk:KOk n0 H0 F0 σ F H n kc k) :
  Out n0 H0 F0 (stK (cZ P (bare H n) t t2 xv yv) kc) (IX P t t2 x y dst G k):=by
 unfold IX
 refine Out.getK fun p hp=>?_
 obtain⟨e,s⟩:=p
 obtain⟨e2,b,z,h1,h2,h3,h4,h5,h6,h7,h8,h9⟩:=appT_ok hp
 simp only
 refine srcA_ok h hy h9 fun els2 new hsrc hnew hnl=>?_
 have fresh:∀ {w:Nat} {G1:Tr Bx} {l:List D} {c:List Value} {H1:Hp} {q:Option Nat},Rs n0 H0 F0 σ F H n G1→DNew F H l c s→c.length=l.length * s →
   (∀ b,b<n→(∀ i,σ w=some i→i.nil=false→b≠i.b)→H1.get b=H.get b)→(∀ i,σ w=some i→i.nil=false→¬ F i.b)→(σ w=none∨q=some w∧∀ s' B,G1.get s'=some B→okB (notS w) B=true) →
   (q=none→σ w=none)→(∀ T A,TRl σ F H T A→Fz F H (H1.set n (some (.cells c e false (some s))))→TRl (upd σ w ⟨n,l.length,capV,s,false,.nil⟩) F (H1.set n (some (.cells c e false (some s)))) T (zx q A))→l.length<1048576 →
   Out n0 H0 F0 (kc (.slice (some ⟨n,0,none⟩) l.length capV) (H1.set n (some (.cells c e false (some s)))) (n+1)) (k (.osl w) q (G1.set w (some (.vec l e s false)))):=by
  intro w G1 l c H1 q hR hd hcl hH1 hnF hmen hq htr hlen
  have hp:=hR.put (H':=H1.set n (some (.cells c e false (some s)))) (n':=n+1) (s:=w) (i':=⟨n,l.length,capV,s,false,.nil⟩) (B':=.vec l e s false) (Nat.le_succ _)
   (fun b hb hne=>by rw[Tr.get_set,if_neg (by omega)]; exact hH1 b hb hne) (fun i hi hnil=>.inl (hnF i hi hnil)) (fun _=>.inl ⟨Nat.le_refl _,by simp⟩)
   (by
    rcases hmen with z | ⟨_,z⟩
    ·exact .inl z
    ·exact .inr (.inr fun s' B _ hB=>z s' B hB))
   (fun hfz=>by
    have hg:(H1.set n (some (.cells c e false (some s)))).get n=some (.cells c e false (some s)):=by rw[Tr.get_set,if_pos rfl]
    exact⟨rfl,rfl,h9,.inr ⟨rfl,⟨fun z=>absurd (hR.lt z) (by simp),fun z=>by cases z⟩,by simp only[capV]; omega,hd.at (fun _ z=>z) hfz hg,c,some s,hg,.inl ⟨rfl,rfl,hcl⟩⟩⟩)
  refine hk _ _ _ _ _ _ _ q hp.2 (osl_ok rfl rfl rfl rfl) ⟨Nat.le_succ _,fun _ z=>z,fun T A ht=>htr T A ht hp.1,?_⟩
  refine⟨fun b hb hpr hc=>hpr.of_eq ?_,fun t i ht hi=>⟨i,?_,rfl,rfl⟩⟩
  ·rw [Tr.get_set, if_neg (by omega)]
   refine hH1 b hb fun i hi hnil=>?_
   rcases hmen with z | ⟨z,_⟩
   ·rw[z] at hi; cases hi
   ·rcases hc with hc | hc
    ·exact hc w i z hi hnil
    ·exact fun e=>hnF i hi hnil (e ▸ hc)
  ·rw [fw]
   ·exact hi
   ·rintro rfl
    rcases hmen with z | ⟨z,_⟩
    ·rw[z] at hi; cases hi
    ·exact ht z
 split
 ·
  refine yw fun w _ hw=>Out.bindO fun l hl=>?_
  obtain⟨hle,hlen⟩:=appD_ok hl
  simp only[List.nil_append] at hle
  simp only[List.length_nil,Nat.zero_add] at hlen
  rw[hle]
  have hx:=hx.un
  unfold DRel at hx
  obtain⟨rfl,_⟩:=hx
  have hnone:=h.none_of hw
  rw[appNil hp hsrc hlen]
  by_cases hz:els2.length=0
  ·rw [if_pos hz]
   have hnil:els2=[]:=List.length_eq_zero_iff.1 hz
   subst hnil
   have hp:=h.put (H':=H) (n':=n) (s:=w) (i':=⟨0,0,0,s,true,.nil⟩) (B':=.vec [] e s false) (Nat.le_refl _) (fun _ _ _=>rfl) (fun _ _ _=>.inr rfl) (fun z=>by cases z) (.inl hnone)
    (fun _=>⟨rfl,rfl,h9,.inl ⟨rfl,rfl⟩⟩)
   have hσ:∀ t i,σ t=some i→upd σ w ⟨0,0,0,s,true,.nil⟩ t=some i:=fun t i hx=>by rw[fw (fun z=>by subst z; rw[hnone] at hx; cases hx)]; exact hx
   exact hk _ _ _ _ _ _ _ none hp.2 (by unfold VRel; exact⟨_,eV,.inl ⟨rfl,rfl⟩⟩) ⟨Nat.le_refl _,fun _ z=>z,fun T A ht=>ht.mono hσ (fun _ z=>z) hp.1,kp0 ⟨fun _ _ z=>z,fun t i hx=>⟨i,hσ t i hx,rfl,rfl⟩⟩⟩
  ·rw [if_neg hz]
   exact fresh (H1:=H) h hnew hnl (fun _ _ _=>rfl) (fun i hi=>by rw[hnone] at hi; cases hi) (.inl hnone) (fun _=>hnone)
    (fun T A ht hfz=>ht.mono (fun t i hx=>by rw[fw (fun z=>by subst z; rw[hnone] at hx; cases hx)]; exact hx) (fun _ z=>z) hfz) hlen
 ·
  rename_i w
  split
  ·rename_i els e' s' hg
   split
   ·rename_i hes
    rw[Bool.and_eq_true] at hes
    have q1:=Nat.eq_of_beq_eq_true hes.1
    have q2:=Nat.eq_of_beq_eq_true hes.2
    subst q1; subst q2
    refine Out.bindO fun l hl=>?_
    obtain⟨rfl,hlen⟩:=appD_ok hl
    obtain⟨i,hi,b1,b2,b3,b4⟩:=h.site _ _ hg
    unfold VRel at hx
    obtain⟨j,hj,hx⟩:=hx
    rw[hi] at hj; cases hj
    obtain⟨hpo,hpo2⟩:=h.poison w
    rcases b4 with⟨b4,rfl⟩ | ⟨b4,b5,b6,b7,c,vec,b8,b9⟩
    ·rcases hx with ⟨_, rfl⟩ | ⟨z, _⟩
     ·simp only [List.nil_append, List.length_nil, Nat.zero_add] at hlen ⊢
      rw[appNil hp hsrc hlen]
      by_cases hz:els2.length=0
      ·rw [if_pos hz]
       have hnil:els2=[]:=List.length_eq_zero_iff.1 hz
       subst hnil
       have hup:upd σ w i=σ:=by
        funext y; unfold upd; split
        ·rename_i q; rw[q,hi]
        ·rfl
       have hp:=hpo.put (H':=H) (n':=n) (s:=w) (i':=i) (B':=.vec [] e' s' false) (Nat.le_refl _) (fun _ _ _=>rfl) (fun _ _ _=>.inr rfl) (fun z=>by rw[b4] at z; cases z) (.inr (.inl hi))
        (fun _=>⟨b1,b2,b3,.inl ⟨b4,rfl⟩⟩)
       rw[hup] at hp
       exact hk _ _ _ _ _ _ _ (some w) hp.2 (by unfold VRel; exact⟨i,hi,.inl ⟨b4,rfl⟩⟩) ⟨Nat.le_refl _,fun _ z=>z,fun T A ht=>fun t a e=>ht t a (filtT_get e).1,⟨fun _ _ hp _=>hp,fun s i _ hs=>⟨i,hs,rfl,rfl⟩⟩⟩
      ·rw [if_neg hz]
       exact fresh (H1:=H) hpo hnew hnl (fun _ _ _=>rfl) (fun j hj hn=>by rw[hi] at hj; cases hj; rw[b4] at hn; cases hn) (.inr ⟨rfl,hpo2⟩) (fun z=>by cases z) (fun T A ht hfz=>killT hfz ht) hlen
     ·rw[b4] at z; cases z
    ·rcases hx with ⟨z, _⟩ | ⟨_, rfl⟩
     ·rw[b4] at z; cases z
     ·have hF : ¬ F i.b := fun z => by have := b5.1 z; cases this
      have hle:els.length * s'≤c.length:=by
       rcases b9 with⟨_,_,x⟩ | ⟨_,x⟩
       ·omega
       ·rw[x]; exact Nat.mul_le_mul_right s' b6
      have hold:loadN H ⟨i.b,0,none⟩ (els.length * s')=some (c.take (els.length * s')):=by
       unfold loadN
       simp only[b8]
       rw[GZ (by omega)]; rfl
      have hb:Dx (els.length+els2.length) s' b=true:=by
       unfold Dx
       simp [h7,h8,hlen]
      have hdn:DNew F H (els++els2) (c.take (els.length * s')++new) s':=((b7.new b8).pre).app (by simp; omega) hnew
      have hll:(c.take (els.length * s')++new).length=(els++els2).length * s':=by simp [hnl,Nat.add_mul]; omega
      have e1:(bare H n).H=H:=rfl
      have hgrow:Out n0 H0 F0 (kc (.slice (some ⟨n,0,none⟩) (els.length+els2.length) capV) (H.set n (some (.cells (c.take (els.length * s')++new) e' false (some s')))) (n+1)) (k (.osl w) (some w) ((mapT (poiB w) G).set w (some (.vec (els++els2) e' s' false)))):=by
       have:=fresh (H1:=H) (w:=w) (q:=some w) hpo hdn hll (fun _ _ _=>rfl) (fun j hj hn=>by rw[hi] at hj; cases hj; exact hF) (.inr ⟨rfl,hpo2⟩) (fun z=>by cases z) (fun T A ht hfz=>killT hfz ht) (by simpa using hlen)
       rw[List.length_append] at this
       exact this
      rcases b9 with⟨x1,rfl,x3⟩ | ⟨x1,x2⟩
      ·have hap : cZ P (bare H n) t t2 (.slice (some ⟨i.b, 0, none⟩) i.len i.cap) yv = some (rx (bare H n) (H.set i.b none) (els.length + els2.length) s' (c.take (els.length * s') ++ new) e') := by
        unfold cZ
        simp only[h1,h2,h3,h4,h5,h6,e1,hsrc,b1,hold,hb]
        unfold oZ
        rw[x1]
        have c1:Nat.blt capV capV=false:=by kernel_rfl
        have c2:Nat.beq capV capV=true:=Nat.beq_refl _
        have c3:Nat.beq e' e'=true:=Nat.beq_refl _
        have c4:Nat.beq s' s'=true:=Nat.beq_refl _
        simp only[c1,c2,e1,b8,c3,c4,Bool.true_and,hnew.leaf h9 hnl]
       rw[hap,rx,Pz]
       have hne:i.b≠n:=by have:=(h.own w i hi b4).2; omega
       have:=fresh (H1:=H.set i.b none) (w:=w) (q:=some w) hpo hdn hll (fun b hb hne=>by rw[Tr.get_set,if_neg (hne i hi b4)]) (fun j hj hn=>by rw[hi] at hj; cases hj; exact hF) (.inr ⟨rfl,hpo2⟩) (fun z=>by cases z) (fun T A ht hfz=>killT hfz ht) (by simpa using hlen)
       rw[List.length_append] at this
       exact this
      ·have c1 : Nat.blt i.cap capV = true := by simpa using x1
       by_cases hroom:els.length+els2.length≤i.cap
       ·have c2 : Nat.ble (els.length + els2.length) i.cap = true := by simpa using hroom
        have hm:(els.length+els2.length) * s'≤i.cap * s':=Nat.mul_le_mul_right s' hroom
        rw[Nat.add_mul] at hm
        have hst:pX H ⟨i.b,els.length * s',none⟩ new=some (H.set i.b (some (.cells (c.take (els.length * s')++new++c.drop (els.length * s'+new.length)) e' false vec))):=AQ b8 (hnew.leaf h9 hnl) (by omega)
        have hap:cZ P (bare H n) t t2 (.slice (some ⟨i.b,0,none⟩) i.len i.cap) yv=some (.slice (some ⟨i.b,0,none⟩) (els.length+els2.length) i.cap,{ bare H n with H:=H.set i.b (some (.cells (c.take (els.length * s')++new++c.drop (els.length * s'+new.length)) e' false vec)) }):=by
         unfold cZ
         simp only[h1,h2,h3,h4,h5,h6,e1,hsrc,b1,hold,hb]
         unfold oZ
         simp only[c1,c2,addA,Nat.zero_add,e1,hst]
        rw[hap,Pz]
        have hp:=hpo.put (H':=H.set i.b (some (.cells (c.take (els.length * s')++new++c.drop (els.length * s'+new.length)) e' false vec))) (n':=n) (s:=w) (i':={ i with len:=(els++els2).length }) (B':=.vec (els++els2) e' s' false) (Nat.le_refl _)
         (fun b hb hne=>by rw[Tr.get_set,if_neg (hne i hi b4)]) (fun j hj _=>.inl (by rw[hi] at hj; cases hj; exact hF)) (fun z=>.inr ⟨i,hi,b4,rfl⟩) (.inr (.inr fun s' B _ hB=>hpo2 s' B hB))
         (fun hfz=>by
          have hg':(H.set i.b (some (.cells (c.take (els.length * s')++new++c.drop (els.length * s'+new.length)) e' false vec))).get i.b=some (.cells (c.take (els.length * s')++new++c.drop (els.length * s'+new.length)) e' false vec):=by rw[Tr.get_set,if_pos rfl]
          refine⟨rfl,b2,b3,.inr ⟨b4,⟨fun z=>absurd z hF,fun z=>by cases z⟩,by simpa using hroom,(hdn.ext _).at (fun _ z=>z) hfz hg',_,vec,hg',.inr ⟨x1,?_⟩⟩⟩
          simp; omega)
        refine hk _ _ _ _ _ _ _ (some w) hp.2 (osl_ok (i:={ i with len:=(els++els2).length }) b4 rfl List.length_append rfl) ⟨Nat.le_refl _,fun _ z=>z,fun T A ht=>killT hp.1 ht,⟨fun b hb hpr hc=>hpr.of_eq (by
         rw[Tr.get_set,if_neg]
         rintro rfl
         rcases hc with hc | hc
         ·exact hc w i rfl hi b4 rfl
         ·exact hF hc),fun t j ht hj=>⟨j,by rw[fw (fun z=>ht (by rw[z]))]; exact hj,rfl,rfl⟩⟩⟩
       ·have c2 : Nat.ble (els.length + els2.length) i.cap = false := by rw [Bool.eq_false_iff]; intro z; exact hroom (Nat.le_of_ble_eq_true z)
        have hap:cZ P (bare H n) t t2 (.slice (some ⟨i.b,0,none⟩) i.len i.cap) yv=some (rx (bare H n) H (els.length+els2.length) s' (c.take (els.length * s')++new) e'):=by
         unfold cZ
         simp only[h1,h2,h3,h4,h5,h6,e1,hsrc,b1,hold,hb]
         unfold oZ
         simp only[c1,c2,e1]
        rw[hap,rx,Pz]
        exact hgrow
   ·exact Out.no
  ·exact Out.no
 ·exact Out.no
end Go.Ev
end
section
namespace Go.Ev
open Go
variable {σ σ':Nat→Option Si} {F F' F0:Nat→Prop} {H H':Hp} {ρ:Type} {H0:KI ρ} {n n' n0:Nat} {G G':Tr Bx} {T:Tm} {A A':Tr AV} {P:Program}
 {kc:Value→Hp→Nat→Option ρ} {k:KO}
noncomputable def JQ(z:List D):List (Nat × Nat × D)→Option (List D)
 | []=>some z
 | (o,s,d)::l=>match datD d with
  | true=>match splD z o (ny d) s with
   | some z'=>JQ z' l
   | none=>none
  | false=>none
noncomputable def fillB(z:List AV)(k:List AV→Option D):List (Nat × Nat × AV)→Option D
 | []=>k z
 | (o,s,a)::l=>cellsK s a fun c=>getK (splA z o c s) fun z'=>fillB z' k l
noncomputable def placeA(pl:Nat→Option (Nat × Nat)):List (Nat × AV)→Option (List (Nat × Nat × AV))
 | []=>some []
 | (i,a)::l=>match pl i with
  | some (o,s)=>match placeA pl l with
   | some r=>some ((o,s,a)::r)
   | none=>none
  | none=>none
noncomputable def oneP:List (Nat × Nat × AV)→Bool
 | []=>true
 | (_,s,_)::l=>match Nat.beq s 1 with
  | true=>oneP l
  | false=>false
noncomputable def allP:List (Nat × Nat × AV)→Option (List (Nat × Nat × D))
 | []=>some []
 | (o,s,.d x)::l=>match allP l with
  | some r=>some ((o,s,x)::r)
  | none=>none
 | _::_=>none
noncomputable def placesT(P:Program)(t:TypeId):Option (Nat→Option (Nat × Nat)):=match P.underlying t with
 | some (.struct fs)=>match JX P fs.toList with
  | some pl=>some (pl[·]?)
  | none=>none
 | some (.array _ e)=>match szT P e with
  | some s=>some fun i=>some (i * s,s)
  | none=>none
 | _=>none
noncomputable def selW{α:Type}(c:Bool)(p q:α):α:=match c with
 | true=>p
 | false=>q
noncomputable def buildA(P:Program)(t:TypeId)(ps:List (Nat × AV))(k:AV→Option D):Option D:=
 getK (zeroD P t) fun z=>getK (placesT P t) fun pl=>getK (placeA pl ps) fun qs=>match selW (oneP qs) none (allP qs) with
  | some ds=>bindO (JQ (ny z) ds) fun c=>k (.d (.agg c))
  | none=>fillB ((ny z).map .d) (fun c=>k (mkAgg c)) qs
def QRel(σ:Nat→Option Si)(F:Nat→Prop)(H:Hp)(pl:Nat→Option (Nat × Nat)):List (Nat × Nat × AV)→List (Nat × Value)→Prop
 | [],vs=>vs=[]
 | (o,s,a)::l,vs=>∃ i v vs',vs=(i,v)::vs'∧pl i=some (o,s)∧VRel σ F H a v∧QRel σ F H pl l vs'
theorem placeA_ok{pl:Nat→Option (Nat × Nat)}:∀ {ps:List (Nat × AV)} {vs:List (Nat × Value)} {qs:List (Nat × Nat × AV)},PRel σ F H ps vs→placeA pl ps=some qs→QRel σ F H pl qs vs
 | [],vs,qs,h,e=>by cases e; exact h
 | (i,a)::l,vs,qs,h,e=>by
  obtain⟨v,vs',rfl,h1,h2⟩:=h
  simp only[placeA] at e
  split at e
  ·rename_i o s hp
   split at e
   ·rename_i r hr
    cases e
    exact⟨i,v,vs',rfl,hp,h1,placeA_ok h2 hr⟩
   ·cases e
  ·cases e
theorem Nw{pl:Nat→Option (Nat × Nat)}{c:List Value}{i o s:Nat}{v:Value}{vs:List (Nat × Value)}(hp:pl i=some (o,s))(hl:(aQ v).length=s)(ho:o+s≤c.length) :
  nk pl c ((i,v)::vs)=nk pl (c.take o++aQ v++c.drop (o+s)) vs:=by
 simp only[nk,hp,hl,if_true]
 rw[splice_cut (by omega),hl]
theorem fillD_ok{pl:Nat→Option (Nat × Nat)}:∀ {qs:List (Nat × Nat × AV)} {ds:List (Nat × Nat × D)} {vs:List (Nat × Value)} {z c:List D} {zv:List Value},QRel σ F H pl qs vs→allP qs=some ds→aK F H z zv→z.all bk=true →
  JQ z ds=some c→∃ cv,nk pl zv vs=some cv∧aK F H c cv∧c.all bk=true
 | [],ds,vs,z,c,zv,h,e,hz,hl,ef=>by
  cases e; cases ef; unfold QRel at h; subst h
  exact⟨zv,rfl,hz,hl⟩
 | (o,s,a)::l,ds,vs,z,c,zv,h,e,hz,hl,ef=>by
  unfold QRel at h
  obtain⟨i,v,vs',rfl,hp,h1,h2⟩:=h
  cases a with
  | d x=>
   simp only[allP] at e
   split at e
   ·rename_i r hr
    cases e
    simp only[JQ] at ef
    split at ef
    ·rename_i hd
     split at ef
     ·rename_i z' hz'
      have hc:=h1.un.cells hd
      obtain⟨r1,r2,r3⟩:=splD_rel hz' hz hc.1
      obtain⟨cv,g1,g2⟩:=fillD_ok h2 hr r3 (splD_leaf hz' hl hc.2) ef
      exact⟨cv,by rw[Nw hp r1 r2]; exact g1,g2⟩
     ·cases ef
    ·cases ef
   ·cases e
  | _=>simp [allP] at e
theorem fillB_ok{pl:Nat→Option (Nat × Nat)}{f:List AV→Option D}{g:List Value→Option ρ}(hk:∀ c cv,bQ σ F H c cv→c.all oq=true→Out n0 H0 F0 (g cv) (f c)) :
  ∀ {qs:List (Nat × Nat × AV)} {vs:List (Nat × Value)} {z:List AV} {zv:List Value},QRel σ F H pl qs vs→bQ σ F H z zv→z.all oq=true→Out n0 H0 F0 (bindO (nk pl zv vs) g) (fillB z f qs)
 | [],vs,z,zv,h,hz,hl=>by unfold QRel at h; subst h; exact hk z zv hz hl
 | (o,s,a)::l,vs,z,zv,h,hz,hl=>by
  unfold QRel at h
  obtain⟨i,v,vs',rfl,hp,h1,h2⟩:=h
  simp only[fillB]
  refine cellsK_ok h1 fun c hc hcl=>Out.getK fun z' hz'=>?_
  unfold splA at hz'
  split at hz'
  ·rename_i q1
   split at hz'
   ·rename_i q2
    cases hz'
    have q1:=Nat.eq_of_beq_eq_true q1
    have q2:=Nat.le_of_ble_eq_true q2
    have e1:=hc.length
    have e2:=hz.length
    rw[Nw hp (by omega) (by omega)]
    refine fillB_ok hk h2 (((hz.take o).append hc).append (hz.drop (o+s))) ?_
    rw[List.all_eq_true] at hl hcl ⊢
    intro y hy
    simp only[List.mem_append] at hy
    rcases hy with(hy | hy) | hy
    ·exact hl y (List.mem_of_mem_take hy)
    ·exact hcl y hy
    ·exact hl y (List.mem_of_mem_drop hy)
   ·cases hz'
  ·cases hz'
theorem buildP_eq{t:TypeId}{z:Value}{pl:Nat→Option (Nat × Nat)}{vs:List (Nat × Value)}(hz:jx P t=some z)(hp:placesT P t=some pl) :
  nx P t vs=(nk pl (aQ z) vs).map fun c=>.agg ⟨c⟩:=by
 unfold placesT at hp
 unfold nx
 rw[hz]
 split at hp
 ·rename_i fs hu
  split at hp
  ·rename_i pl' hpl; cases hp; simp only[hu,hpl]; cases nk (fun x=>pl'[x]?) (aQ z) vs <;> rfl
  ·cases hp
 ·rename_i e hu
  split at hp
  ·rename_i s hs; cases hp; simp only[hu,hs]; cases nk (fun i=>some (i * s,s)) (aQ z) vs <;> rfl
  ·cases hp
 ·cases hp
theorem buildA_ok{t:TypeId}{ps:List (Nat × AV)}{vs:List (Nat × Value)}{kc:Value→Option ρ}{ka:AV→Option D}(hp:PRel σ F H ps vs)(hk:PK n0 H0 F0 σ F H kc ka) :
  Out n0 H0 F0 (bindO (nx P t vs) kc) (buildA P t ps ka):=by
 unfold buildA
 refine Out.getK fun z hz=>Out.getK fun pl hpl=>Out.getK fun qs hqs=>?_
 obtain⟨zv,z1,z2,z3⟩:=GY (F:=F) (H:=H) hz
 have hc:=z2.cells z3
 have hq:=placeA_ok hp hqs
 rw[buildP_eq z1 hpl]
 cases hds0:selW (oneP qs) none (allP qs) with
 | some ds=>
  have hds:allP qs=some ds:=by
   cases hw:oneP qs with
   | true=>rw[hw] at hds0; cases hds0
   | false=>rw[hw] at hds0; exact hds0
  refine Out.bindO fun c ec=>?_
  obtain⟨cv,c1,c2,c3⟩:=fillD_ok hq hds hc.1 hc.2 ec
  rw[c1]
  exact hk _ _ (.dat (by unfold DRel; exact⟨c3,cv,rfl,c2⟩))
 | none=>
  have:=fillB_ok (n0:=n0) (H0:=H0) (F0:=F0) (pl:=pl) (f:=fun c=>ka (mkAgg c)) (g:=fun cv=>kc (.agg ⟨cv⟩)) (fun c cv h1 h2=>hk _ _ (.mkAgg h1 h2)) hq (bQ.of_D hc.1) (by rw[List.all_map]; exact hc.2)
  cases hf:nk pl (aQ zv) vs with
  | none=>rw[hf] at this; exact this
  | some c=>rw[hf] at this; exact this
noncomputable def rowZ(P:Program)(t:TypeId)(len:Nat):Option (TypeId × Nat × D):=match dY P t with
 | some e=>match szT P e with
  | some s=>match zeroD P e with
   | some z=>match Nat.ble (len * s) 16777216 && Nat.beq (ny z).length s && Nat.blt len capV && Nat.ble 1 s with
    | true=>some (e,s,z)
    | false=>none
   | none=>none
  | none=>none
 | none=>none
noncomputable def elsK(P:Program)(e:TypeId)(s:Nat)(l:List D)(k:List D→Option D):List (Nat × D)→Option D
 | []=>k l
 | (i,d)::ps=>match Nat.blt i l.length with
  | true=>Nj P e d fun c=>chkK (Nat.beq c.length s) (elsK P e s (l.set i d) k ps)
  | false=>none
noncomputable def zipI:List (Nat × AV)→List D→List (Nat × D)
 | (i,_)::l,d::ds=>(i,d)::zipI l ds
 | _,_=>[]
noncomputable def rowA(P:Program)(t:TypeId)(len:Nat)(ps:List (Nat × AV))(dst:Option Tmp)(G:Tr Bx)(k:KO):Option D:=
 getK (rowZ P t len) fun z=>getK (fzL (fzV 9) (ps.map (·.2)) G) fun r=>elsK P z.1 z.2.1 (List.replicate len z.2.2) (fun l=>DV dst r.2 fun w=>k (.osl w) none (r.2.set w (some (.vec l z.1 z.2.1 false)))) (zipI ps r.1)
theorem PRel.vals:∀ {ps:List (Nat × AV)} {vs:List (Nat × Value)},PRel σ F H ps vs→bQ σ F H (ps.map (·.2)) (vs.map (·.2))
 | [],vs,h=>by unfold PRel at h; subst h; simp only[List.map_nil,bQ]
 | (i,a)::l,vs,h=>by
  obtain⟨v,vs',rfl,h1,h2⟩:=h
  simp only[List.map_cons,bQ]
  exact⟨v,_,rfl,h1,PRel.vals h2⟩
def IRel(F:Nat→Prop)(H:Hp):List (Nat × D)→List (Nat × Value)→Prop
 | [],vs=>vs=[]
 | (i,d)::l,vs=>∃ v vs',vs=(i,v)::vs'∧DRel F H d v∧IRel F H l vs'
theorem zipI_ok:∀ {ps:List (Nat × AV)} {vs:List (Nat × Value)} {ds:List D},PRel σ F H ps vs→aK F' H ds (vs.map (·.2))→IRel F' H (zipI ps ds) vs
 | [],vs,ds,h,g=>by unfold PRel at h; subst h; simp [zipI,IRel]
 | (i,a)::l,vs,ds,h,g=>by
  obtain⟨v,vs',rfl,h1,h2⟩:=h
  cases ds with
  | nil=>unfold aK at g; simp at g
  | cons d ds=>
   simp only[List.map_cons,aK] at g
   obtain⟨v',us,e,g1,g2⟩:=g
   cases e
   exact⟨v,vs',rfl,g1,zipI_ok h2 g2⟩
theorem elsK_ok{e:TypeId}{s len:Nat}{f:List D→Option D}{g:List Value→Option ρ}(hs:1≤s)(hk:∀ l c,l.length=len→c.length=len * s→DNew F H l c s→Out n0 H0 F0 (g c) (f l)) :
  ∀ {ps:List (Nat × D)} {vs:List (Nat × Value)} {l:List D} {c:List Value},IRel F H ps vs→l.length=len→c.length=len * s→DNew F H l c s→Out n0 H0 F0 (bindO (nk (fun i=>some (i * s,s)) c vs) g) (elsK P e s l f ps)
 | [],vs,l,c,h,h1,h2,h3=>by unfold IRel at h; subst h; exact hk l c h1 h2 h3
 | (i,d)::ps,vs,l,c,h,h1,h2,h3=>by
  obtain⟨v,vs',rfl,g1,g2⟩:=h
  simp only[elsK]
  split
  ·rename_i hi
   refine AJ fun hd1=>Out.chk fun hd2=>?_
   have hi:i<l.length:=by simpa using hi
   have hsz:(aQ v).length=s:=by rw[(g1.cells hd1).1.length]; exact Nat.eq_of_beq_eq_true hd2
   have hm:(i+1) * s≤len * s:=Nat.mul_le_mul_right s (by omega)
   rw[Nat.succ_mul] at hm
   rw[Nw rfl hsz (by omega)]
   refine elsK_ok hs hk g2 (by simpa using h1) (by simp; omega) ?_
   obtain⟨q0,w,q1,q2,q3⟩:=h3 i _ (List.getElem?_eq_getElem hi)
   have:=h3.set (o:=0) (dv:=aQ v) (d':=d) (u:=v) (List.getElem?_eq_getElem hi) q1 q2 q3 hd1 g1 (by simp [hsz,q2]) (by omega)
   simp only[Nat.add_zero,hsz] at this
   exact this
  ·exact Out.no
theorem qjk{z:List Value}:∀ m,(repl m z).length=m * z.length
 | 0=>by simp [repl]
 | m+1=>by simp [repl,qjk m,Nat.succ_mul]; omega
theorem qjv{z:D}{zv:Value}{s:Nat}(hz:DRel F H z zv)(hd:datD z=true)(hs:(aQ zv).length=s):∀ m,DNew F H (List.replicate m z) (repl m (aQ zv)) s
 | 0=>DNew.nil
 | m+1=>by
  have one:DNew F H [z] (aQ zv) s:=fun i x hx=>by
   cases i with
   | zero=>cases hx; exact⟨hd,zv,hz,hs,fun j u hj=>by simpa using hj⟩
   | succ i=>cases hx
  exact one.app (by simp [hs]) (qjv hz hd hs m)
theorem Rs.newRow{l:List D}{c:List Value}{e:TypeId}{s w m cap:Nat}(h:Rs n0 H0 F0 σ F H n G)(hg:G.get w=none)(hs:1≤s)(hd:DNew F H l c s)(hm:m=l.length)(hcap:m≤cap)(hc:cap<capV)(hl:c.length=cap * s) :
  ∃ σ',Rs n0 H0 F0 σ' F (H.set n (some (.cells c e false none))) (n+1) (G.set w (some (.vec l e s false)))∧VRel σ' F (H.set n (some (.cells c e false none))) (.osl w) (.slice (some ⟨n,0,none⟩) m cap) ∧
   Nx σ F H n σ' F (H.set n (some (.cells c e false none))) (n+1) none∧σ' w=some ⟨n,m,cap,s,false,.nil⟩:=by
 subst hm
 have:=h.new hg (i':=⟨n,l.length,cap,s,false,.nil⟩) (B':=.vec l e s false) (x:=some (.cells c e false none)) (fun _=>rfl) (fun hfz=>by
  have hg:(H.set n (some (.cells c e false none))).get n=some (.cells c e false none):=by rw[Tr.get_set,if_pos rfl]
  exact⟨rfl,rfl,hs,.inr ⟨rfl,⟨fun z=>absurd (h.lt z) (by simp),fun z=>by cases z⟩,hcap,hd.at (fun _ z=>z) hfz hg,c,none,hg,.inr ⟨hc,hl⟩⟩⟩)
 exact⟨_,this.1,osl_ok rfl rfl rfl rfl,this.2,eV⟩
theorem rowZ_ok{t e:TypeId}{len s:Nat}{z:D}(h:rowZ P t len=some (e,s,z)):∃ zv,dY P t=some e∧szT P e=some s∧jx P e=some zv∧DRel F H z zv∧datD z=true∧(aQ zv).length=s∧len * s≤16777216∧len<capV∧1≤s:=by
 unfold rowZ at h
 split at h
 ·rename_i e' h1
  split at h
  ·rename_i s' h2
   split at h
   ·rename_i z' h3
    split at h
    ·rename_i h4
     cases h
     simp only[Bool.and_eq_true] at h4
     obtain⟨zv,q1,q2,q3⟩:=GY (F:=F) (H:=H) h3
     refine⟨zv,h1,h2,q1,q2,q3,?_,Nat.le_of_ble_eq_true h4.1.1.1,by simpa using h4.1.2,Nat.le_of_ble_eq_true h4.2⟩
     rw[(q2.cells q3).1.length]; exact Nat.eq_of_beq_eq_true h4.1.1.2
    ·cases h
   ·cases h
  ·cases h
 ·cases h
theorem Nx.frz(h:∀ b,F b→F' b):Nx σ F H n σ F' H n none:=⟨Nat.le_refl _,h,fun _ _ ht=>ht.mono (fun _ _ z=>z) h Fz.refl,kp0 ⟨fun _ _ z=>z,fun _ i z=>⟨i,z,rfl,rfl⟩⟩⟩
theorem Nx.then{σ1 σ2:Nat→Option Si}{F1 F2:Nat→Prop}{H1 H2:Hp}{n1 n2:Nat}(h:Nx σ F H n σ1 F1 H1 n1 none)(g:Nx σ1 F1 H1 n1 σ2 F2 H2 n2 none):Nx σ F H n σ2 F2 H2 n2 none:=by
 have hq:(none:Option Nat)=none:=rfl
 refine⟨Nat.le_trans h.le g.le,fun b hb=>g.fr b (h.fr b hb),fun T A ht=>g.tr T A (h.tr T A ht),kp0 ⟨fun b hb hp=>(g.keep hq).1 b (by have:=h.le; omega) ((h.keep rfl).1 b hb hp),fun s i hi=>?_⟩⟩
 obtain⟨i1,a1,a2,a3⟩:=(h.keep rfl).2 s i hi
 obtain⟨i2,b1,b2,b3⟩:=(g.keep hq).2 s i1 a1
 exact⟨i2,b1,b2.trans a2,b3.trans a3⟩
theorem rowA_ok{t:TypeId}{len:Nat}{ps:List (Nat × AV)}{vs:List (Nat × Value)}{dst:Option Tmp}(h:Rs n0 H0 F0 σ F H n G)(hp:PRel σ F H ps vs)(hk:KOkN dst n0 H0 F0 σ F H n kc k) :
  Out n0 H0 F0 (rowK P t len vs H n kc) (rowA P t len ps dst G k):=by
 unfold rowA
 refine Out.getK fun z hz=>Out.getK fun r hr=>?_
 obtain⟨e,s,z⟩:=z
 obtain⟨ds,G1⟩:=r
 obtain⟨⟨⟨F1,r1,r2,r3⟩,_⟩,_⟩:=zQ (fun a F G d G' v h hv e=>yq 9 a F G d G' v h hv e) _ F G ds G1 _ h hp.vals hr
 obtain⟨zv,z1,z2,z3,z4,z5,z6,z7,z8,z9⟩:=rowZ_ok (F:=F1) (H:=H) hz
 have hI:=zipI_ok hp r3
 have:=elsK_ok (n0:=n0) (H0:=H0) (F0:=F0) (P:=P) (e:=e) (len:=len) (f:=fun l=>DV dst G1 fun w=>k (.osl w) none (G1.set w (some (.vec l e s false)))) (g:=fun c=>kc (.slice (some ⟨n,0,none⟩) len len) (H.set n (some (.cells c e false none))) (n+1)) z9
  (fun l c l1 l2 l3=>yw fun w hd0 hw=>by
   obtain⟨σ',t1,t2,t3,t4⟩:=r1.newRow (e:=e) hw z9 l3 l1.symm (Nat.le_refl _) z8 l2
   exact hk _ _ _ _ _ _ _ none t1 t2 ((Nx.frz r2).then t3) ⟨w,_,hd0,t4,rfl,rfl,Nat.lt_succ_self _⟩) hI (by simp) (by rw[qjk,z6]) (qjv z4 z5 z6 len)
 have hc:zw P t len vs=(nk (fun i=>some (i * s,s)) (repl len (aQ zv)) vs).map fun c=>(c,e):=by
  unfold zw
  simp only[z1,z2,z3]
  rw[if_pos ⟨z7,z6,z8⟩]
  cases nk (fun i=>some (i * s,s)) (repl len (aQ zv)) vs <;> rfl
 unfold rowK
 rw[hc]
 cases hf:nk (fun i=>some (i * s,s)) (repl len (aQ zv)) vs with
 | none=>rw[hf] at this; exact this
 | some c=>rw[hf] at this; exact this
noncomputable def natD(x:D):Option Nat:=match x with
 | .v (.int .i64 (.ofNat n))=>some n
 | _=>none
noncomputable def makeT(P:Program)(t:TypeId):Option (TypeId × Nat × D):=match dY P t with
 | some e=>match szT P e with
  | some s=>match sK P e with
   | some b=>match zeroD P e with
    | some z=>match Nat.blt s 1048576 && Nat.blt b 1048576 && Nat.beq (ny z).length s && Nat.ble 1 s with
     | true=>some (e,s,z)
     | false=>none
    | none=>none
   | none=>none
  | none=>none
 | none=>none
noncomputable def makeA(P:Program)(t:TypeId)(l c:D)(dst:Option Tmp)(G:Tr Bx)(k:KO):Option D:=getK (makeT P t) fun z=>DV dst G fun w=>bindO (natD l) fun l=>bindO (natD c) fun c=>
 chkK (Nat.ble l c && Nat.blt c 1048576) (k (.osl w) none (G.set w (some (.vec (List.replicate l z.2.2) z.1 z.2.1 false))))
theorem qjw{t:TypeId}{l c:D}{lv cv:Value}{dst:Option Tmp}(h:Rs n0 H0 F0 σ F H n G)(hl:DRel F H l lv)(hc:DRel F H c cv)(hk:KOkN dst n0 H0 F0 σ F H n kc k) :
  Out n0 H0 F0 (stK (jk P t lv cv (bare H n)) kc) (makeA P t l c dst G k):=by
 unfold makeA
 refine Out.getK fun z hz=>yw fun w hd0 hw=>Out.bindO fun l' el=>Out.bindO fun c' ec=>Out.chk fun hle=>?_
 obtain⟨e,s,z⟩:=z
 have nat:∀ {x:D} {v:Value} {m:Nat},DRel F H x v→natD x=some m→v=.int .i64 (.ofNat m):=by
  intro x v m hx e
  unfold natD at e
  split at e
  ·cases e; unfold DRel at hx; exact hx.1
  ·cases e
 rw[nat hl el,nat hc ec]
 simp only[Bool.and_eq_true] at hle
 have q1:=Nat.le_of_ble_eq_true hle.1
 have q2:c'<1048576:=by simpa using hle.2
 unfold makeT at hz
 split at hz
 ·rename_i e' h1
  split at hz
  ·rename_i s' h2
   split at hz
   ·rename_i b h3
    split at hz
    ·rename_i z' h4
     split at hz
     ·rename_i h5
      cases hz
      simp only[Bool.and_eq_true] at h5
      obtain⟨zv,z1,z2,z3⟩:=GY (F:=F) (H:=H) h4
      have z6:(aQ zv).length=s:=by rw[(z2.cells z3).1.length]; exact Nat.eq_of_beq_eq_true h5.1.2
      have h9:=Nat.le_of_ble_eq_true h5.2
      have hs:s<1048576:=by simpa using h5.1.1.1
      have hb:b<1048576:=by simpa using h5.1.1.2
      have hsm:yW c' s b=true:=by unfold yW; simp [q2,hs,hb]
      have:jk P t (.int .i64 (.ofNat l')) (.int .i64 (.ofNat c')) (bare H n)=some (.slice (some ⟨n,0,none⟩) l' c',mz (bare H n) (repl c' (aQ zv)) e none):=by
       unfold jk
       simp only[h1,h2,h3,z1]
       rw[if_pos ⟨q1,hsm,z6⟩]; rfl
      rw[this,Pz]
      have hd:DNew F H (List.replicate l' z) (repl c' (aQ zv)) s:=by
       intro i d hd
       have hi:=nj hd
       simp at hi
       have e:d=z:=by
        rw[List.getElem?_replicate,if_pos hi] at hd
        exact(Option.some.inj hd).symm
       subst e
       exact qjv z2 z3 z6 c' i d (by rw[List.getElem?_replicate,if_pos (by omega)])
      obtain⟨σ',t1,t2,t3,t4⟩:=h.newRow (e:=e) (m:=l') (cap:=c') hw h9 hd (by simp) q1 (by simp only[capV]; omega) (by rw[qjk,z6])
      exact hk _ _ _ _ _ _ _ none t1 t2 t3 ⟨w,_,hd0,t4,rfl,rfl,Nat.lt_succ_self _⟩
     ·cases hz
    ·cases hz
   ·cases hz
  ·cases hz
 ·cases hz
end Go.Ev
end
