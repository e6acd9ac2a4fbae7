/- Texts Ev29 to S20. -/
import GoSem.ClaimJoined
import Derived.WideShapes
import Derived.SizedLaws
import Derived.ChangeSame
import Derived.ChangeOld
import Derived.ReadAgain
import Derived.RowKit3
import Derived.Test.YtmjbdjnnojfhkaaRows
import Derived.WalkKit
import Derived.ProofKit
import Derived.OpenShut
import Derived.Test.YtmjbdjnnojfhkaaH8
section
namespace Go.Ev
open Go
variable {P:Program}
theorem mkH(g:Nat→Option Blk):∀ m:Nat,∃ H:Hp,∀ i,H.get i=if i<m then g i else none
 | 0=>⟨.nil,fun i=>by rw[Tr.get_nil]; simp⟩
 | m+1=>by
  obtain⟨H,h⟩:=mkH g m
  refine⟨H.set m (g m),fun i=>?_⟩
  rw[Tr.get_set]
  by_cases e:i=m
  ·subst e; simp
  ·rw[if_neg e,h i]
   by_cases q:i<m
   ·rw[if_pos q,if_pos (by omega)]
   ·rw[if_neg q,if_neg (by omega)]
def qZ(m:Nat):Phi:=fun i=>if i<m then some (i,0) else none
open Classical in
noncomputable def hole(φ:Phi)(v:Value):Value:=if VR φ v v then v else .chan none
noncomputable def pK(m:Nat)(w:World)(i:Nat):Option Blk:=match w.heap[i]? with
 | some (.cells arr _ _)=>some (.rows (arr.toList.map (hole (qZ m))))
 | _=>none
theorem I.startN(w:World){m:Nat}(hm:w.heap.size≤m):∃ H:Hp,(∀ i,H.get i=pK m w i)∧I w ⟨fun _=>False,fun _=>True⟩ (qZ m) H m w:=by
 obtain⟨H,hH⟩:=mkH (pK m w) w.heap.size
 have hget:∀ i,H.get i=pK m w i:=by
  intro i
  rw[hH i]
  split
  ·rfl
  ·rename_i q
   unfold pK
   rw[Array.getElem?_eq_none (by omega)]
 have hφ:∀ i p,qZ m i=some p→i<m∧p=(i,0):=by
  intro i p e
  unfold qZ at e
  split at e
  ·rename_i q; cases e; exact⟨q,rfl⟩
  ·cases e
 have hb:∀ i b,H.get i=some b→∃ arr e fr,w.heap[i]?=some (.cells arr e fr)∧b=.rows (arr.toList.map (hole (qZ m))):=by
  intro i b e
  rw[hget i] at e
  unfold pK at e
  split at e
  ·rename_i arr el fr hw; cases e; exact⟨arr,el,fr,hw,rfl⟩
  ·cases e
 refine⟨H,hget,⟨?_,?_,?_,fun _ _ _=>rfl,Nat.le_refl _,?_,fun _ _ _ _ _=>.inl trivial,rfl,rfl,rfl,fun _=>rfl⟩⟩
 ·intro i p e
  obtain⟨h1,rfl⟩:=hφ i p e
  exact h1
 ·intro i b e
  obtain⟨arr,el,fr,hw,rfl⟩:=hb i b e
  have hlt:i<w.heap.size:=(Array.getElem?_eq_some_iff.1 hw).1
  refine⟨(i,0),_,by unfold qZ; rw[if_pos (by omega)],hw,arr,el,fr,rfl,?_⟩
  intro j v hj hno
  rw[List.getElem?_map] at hj
  cases hu:arr.toList[j]? with
  | none=>rw[hu] at hj; cases hj
  | some u=>
   rw[hu] at hj
   simp only[Option.map_some,Option.some.injEq] at hj
   subst hj
   unfold hole at hno ⊢
   split at hno
   ·rename_i hv
    rw[if_pos hv]
    exact⟨u,by simpa using hu,hv⟩
   ·cases hno
 ·intro i j b c p q _ _ hp hq e
  obtain⟨_,rfl⟩:=hφ i p hp
  obtain⟨_,rfl⟩:=hφ j q hq
  exact e
 ·intro i b p hi hr _
  obtain⟨arr,el,fr,_,rfl⟩:=hb i b hi
  cases hr
theorem calls_of_tower_open{A:FuncId→Lv}{F:Nat}{tbl:FuncId→Option (Cal→List Value→Hp→Nat→Res)}(ht:TblOk P A F tbl){l:Nat}{f:FuncId}{v:Value}{args args':List Value}{H H':Hp}{n n':Nat}{φ:Phi}{w:World}
  {R:Nat→Prop} (hI:I w ⟨fun _=>False,R⟩ φ H n w) (hargs:VRL φ args args')
  (e:(calE P A F tbl l).call f args H n=some (v,H',n')) (hp:bw v=true) :
  Calls P f ⟨args'⟩ w fun en w'=>en=.returned v∧w'.os=w.os∧w'.tape=w.tape∧w'.output=w.output∧w.heap.size≤w'.heap.size∧(∀ b,b<w.heap.size→w'.heap[b]?=w.heap[b]?)∧∀ b:Nat,frOb w'.heap[b]?=frOb w.heap[b]?:=by
 refine(calls_of (evLA_ok P A F l) ((calE_ok ht l).call f args { T:=.nil,H:=H,n:=n,D:=[] } _ e) hI hargs).mono ?_
 rintro en w' ⟨φ',v',rfl,hv,hx,h⟩
 refine⟨by rw[bw.eq hp hv],h.os,h.tape,h.output,h.size,fun b hb=>h.keep b hb (fun z=>z),h.fz⟩
end Go.Ev
end
section
namespace Go.Ev
open Go
variable {P:Program} {H H':Hp} {b o s k:Nat} {t:TypeId} {vs:List Value} {v:Value}
def cellsIn:Blk→Option (List Value)
 | .cells c _ _ _=>some c
 | .rows c=>some c
 | _=>none
def aW(H:Hp)(b o:Nat)(vs:List Value):Prop:=∃ B c,H.get b=some B∧cellsIn B=some c∧∀(k:Nat) v,vs[k]?=some v→c[o+k]?=some v
def Keep(n:Nat)(H H':Hp):Prop:=∀ b,b<n→H'.get b=H.get b
theorem Keep.refl(n:Nat)(H:Hp):Keep n H H:=fun _ _=>rfl
theorem Keep.trans{n m:Nat}{H1 H2 H3:Hp}(h:Keep n H1 H2)(g:Keep m H2 H3)(hm:n≤m):Keep n H1 H3:=fun b hb=>(g b (by omega)).trans (h b hb)
theorem Keep.set{n m:Nat}{H1 H2:Hp}(h:Keep n H1 H2)(hm:n≤m)(x:Option Blk):Keep n H1 (H2.set m x):=fun b hb=>by
 rw[Tr.get_set,if_neg (by omega)]; exact h b hb
theorem Keep.le{n m:Nat}{H1 H2:Hp}(h:Keep m H1 H2)(hm:n≤m):Keep n H1 H2:=fun b hb=>h b (by omega)
theorem aW.keep{n:Nat}(h:aW H b o vs)(hk:Keep n H H')(hb:b<n):aW H' b o vs:=by
 obtain⟨B,c,h1,h2,h3⟩:=h
 exact⟨B,c,by rw[hk b hb]; exact h1,h2,h3⟩
theorem aW.new{n:Nat}{e:TypeId}{ro:Bool}{vec:Option Nat}:aW (H.set n (some (.cells vs e ro vec))) n 0 vs:=
 ⟨_,vs,by rw[Tr.get_set,if_pos rfl],rfl,fun k v h=>by simpa using h⟩
theorem aW.set{n:Nat}{x:Option Blk}(h:aW H b o vs)(hb:b≠n):aW (H.set n x) b o vs:=by
 obtain⟨B,c,h1,h2,h3⟩:=h
 exact⟨B,c,by rw[Tr.get_set,if_neg hb]; exact h1,h2,h3⟩
theorem bq(hc:aW H b o vs)(ht:fJ P t=some false)(hv:vs[k]?=some v)(hn:lJ v=true)(hg:vj v=true):az P H t ⟨b,o+k,none⟩=some v:=by
 obtain⟨B,c,h1,h2,h3⟩:=hc
 have:=h3 k v hv
 unfold az
 simp only[h1]
 cases B with
 | cells c' e ro vec=>cases h2; simp only[Cy,ht,this]
 | rows c'=>cases h2; simp only[Cy,ht,this,hg]
 | _=>cases h2
theorem bj{kd:IntKind}{x:Int}(hc:aW H b o vs)(ht:fJ P t=some false)(hv:vs[k]?=some (.int kd x)):az P H t ⟨b,o+k,none⟩=some (.int kd x):=
 bq hc ht hv rfl rfl
theorem cut_at{c:List Value}(h:∀(k:Nat) v,vs[k]?=some v→c[o+k]?=some v)(hk:k+s≤vs.length):cut c (o+k) s=some ((vs.drop k).take s):=by
 have e:(c.drop (o+k)).take s=(vs.drop k).take s:=by
  apply List.ext_getElem?
  intro i
  rw[List.getElem?_take,List.getElem?_take]
  split
  ·rename_i hi
   rw[List.getElem?_drop,List.getElem?_drop]
   have hlt:k+i<vs.length:=by omega
   rw[List.getElem?_eq_getElem hlt,← h (k+i) _ (List.getElem?_eq_getElem hlt)]
   congr 1; omega
  ·rfl
 unfold cut
 simp only[e]
 rw[if_pos]
 simp; omega
theorem cw(hc:aW H b o vs)(ht:fJ P t=some true)(hs:szT P t=some s)(hk:k+s≤vs.length)(hn:vs.all lJ=true) :
  az P H t ⟨b,o+k,none⟩=some (.agg ⟨(vs.drop k).take s⟩):=by
 obtain⟨B,c,h1,h2,h3⟩:=hc
 have hcut:=cut_at h3 hk
 have hall:((vs.drop k).take s).all lJ=true:=by
  rw[List.all_eq_true] at hn ⊢
  intro x hx
  exact hn x (List.mem_of_mem_drop (List.mem_of_mem_take hx))
 unfold az
 simp only[h1]
 cases B with
 | cells c' e ro vec=>cases h2; simp only[Cy,ht,hs,hcut]
 | rows c'=>cases h2; simp only[Cy,ht,hs,hcut,vj,hall]
 | _=>cases h2
theorem qjj(hc:aW H b o vs)(hk:k+s≤vs.length)(hn:vs.all lJ=true):qX H ⟨b,o+k,none⟩ s=some ((vs.drop k).take s):=by
 obtain⟨B,c,h1,h2,h3⟩:=hc
 have hcut:=cut_at h3 hk
 have hall:((vs.drop k).take s).all lJ=true:=by
  rw[List.all_eq_true] at hn ⊢
  intro x hx
  exact hn x (List.mem_of_mem_drop (List.mem_of_mem_take hx))
 unfold qX
 simp only[h1]
 cases B with
 | cells c' e ro vec=>cases h2; simp only[hcut]
 | rows c'=>cases h2; simp only[hcut,hall]
 | _=>cases h2
def I64(x:Int):Prop:=-9223372036854775808≤x∧x<9223372036854775808
def ints(xs:List Int):List Value:=xs.map (.int .i64)
theorem gQ{xs:List Int}{k:Nat}{x:Int}(h:xs[k]?=some x):(ints xs)[k]?=some (.int .i64 x):=by simp [ints,h]
theorem dY(xs:List Int):(ints xs).all lJ=true:=by simp [ints,lJ]
theorem bv(xs:List Int):(ints xs).length=xs.length:=by simp [ints]
theorem EK(xs:List Int)(k s:Nat):((ints xs).drop k).take s=ints ((xs.drop k).take s):=by simp [ints,List.map_drop,List.map_take]
def SliceI(H:Hp)(n:Nat)(s:Nat)(v:Value)(len:Nat)(xs:List Int):Prop:=
 xs.length=len * s∧(∀ x ∈ xs,I64 x) ∧
 ((v=.slice none 0 0∧len=0)∨∃ b o cap,v=.slice (some ⟨b,o,none⟩) len cap∧len≤cap∧cap≤capV∧b<n∧(len=0∨aW H b o (ints xs)))
theorem SliceI.keep{n m:Nat}{len:Nat}{xs:List Int}(h:SliceI H n s v len xs)(hk:Keep m H H')(hm:n≤m):SliceI H' m s v len xs:=by
 obtain⟨h1,h2,h3⟩:=h
 refine⟨h1,h2,?_⟩
 rcases h3 with h3 | ⟨b,o,cap,e,a1,a2,a3,a4⟩
 ·exact .inl h3
 ·exact .inr ⟨b,o,cap,e,a1,a2,by omega,a4.imp id fun z=>z.keep hk (by omega)⟩
theorem SliceI.len_eq{n len:Nat}{xs:List Int}(h:SliceI H n s v len xs){e:TypeId}(ht:P.underlying t=some (.slice e)):lenV P t v=some (goInt len):=by
 rcases h.2.2 with⟨rfl,rfl⟩ | ⟨b,o,cap,rfl,_⟩ <;> simp [lenV,ht]
theorem SliceI.at_{n len:Nat}{xs:List Int}(h:SliceI H n s v len xs){e:TypeId}(ht:P.underlying t=some (.slice e))(hs:szT P e=some s){i:Nat}(hi:i<len) :
  ∃ b o,aJ P t v (.int .i64 i)=some (.pointer (some ⟨b,o+i * s,none⟩))∧b<n∧aW H b o (ints xs):=by
 rcases h.2.2 with⟨rfl,rfl⟩ | ⟨b,o,cap,rfl,h1,h2,h3,h4⟩
 ·omega
 ·have h4:=h4.resolve_left (by omega)
  refine⟨b,o,?_,h3,h4⟩
  unfold aJ
  simp only[ht,hs]
  have:qY (.int .i64 (i:Int)) len=some i:=by
   show qY (.int .i64 (.ofNat i)) len=some i
   simp [qY,hi]
  rw[this]
  simp [addA]
end Go.Ev
end
section
namespace Go.Ev
open Go
variable {P:Program}
def tile(g:TypeId→Option Nat):List Field→Nat→Option Nat
 | [],off=>some off
 | f::fs,off=>match Nat.beq f.offset off,g f.type with
  | true,some k=>tile g fs (off+k)
  | _,_=>none
def RK(P:Program):Nat→TypeId→Option Nat
 | 0,_=>none
 | d+1,t=>match P.underlying t with
  | some (.int .i64)=>match Nat.beq (P.cellsOf t) 1 with
   | true=>some 1
   | false=>none
  | some (.struct fs)=>match tile (RK P d) fs.toList 0 with
   | some n=>match Nat.beq (P.cellsOf t) n with
    | true=>some n
    | false=>none
   | none=>none
  | _=>none
theorem Nv{d:Nat}{t:TypeId}{n:Nat}(h:RK P d t=some n):P.cellsOf t=n:=by
 cases d with
 | zero=>cases h
 | succ d=>
  unfold RK at h
  split at h
  ·split at h
   ·rename_i hb; cases h; exact Nat.eq_of_beq_eq_true hb
   ·cases h
  ·split at h
   ·split at h
    ·rename_i hb; cases h; exact Nat.eq_of_beq_eq_true hb
    ·cases h
   ·cases h
  ·cases h
def NumAt(cs:List Value)(i:Nat):Prop:=∃ x,cs[i]?=some (.int .i64 x)∧I64 x
theorem tile_num{g:TypeId→Option Nat}{cs:List Value}:∀ {fs:List Field} {off n:Nat},tile g fs off=some n →
  (∀ f ∈ fs,∀ k,g f.type=some k→∀ i,i<k→NumAt ((cs.drop f.offset).take k) i)→∀ i,off≤i→i<n→NumAt cs i
 | [],off,n,h,_,i,h1,h2=>by cases h; omega
 | f::fs,off,n,h,hf,i,h1,h2=>by
  unfold tile at h
  split at h
  ·rename_i k hb hk
   have hb:=Nat.eq_of_beq_eq_true hb
   by_cases q:i<off+k
   ·obtain⟨x,e,hx⟩:=hf f (by simp) k hk (i-off) (by omega)
    rw[List.getElem?_take,if_pos (by omega),List.getElem?_drop] at e
    refine⟨x,?_,hx⟩
    rw[← e]; congr 1; omega
   ·exact tile_num h (fun f' hf'=>hf f' (List.mem_cons_of_mem _ hf')) i (by omega) h2
  ·cases h
theorem Xx{H:Type}{enc:TypeId × Value→H}{w:World}{base:Nat}{spare:Nat→Bool}{held:Bool}:∀(d:Nat) {t:TypeId} {n fuel:Nat} {cs:List Value} {r:DataW H × List MemPlace},
  RK P d t=some n→DataW.trod enc P w base spare held fuel t cs=some r→cs.length=n∧∀ i,i<n→NumAt cs i
 | 0,t,n,fuel,cs,r,h,_=>by cases h
 | d+1,t,n,0,cs,r,h,ht=>by simp [DataW.trod] at ht
 | d+1,t,n,fuel+1,cs,r,h,ht=>by
  have hcell:=Nv h
  unfold RK at h
  split at h
  ·rename_i hu
   split at h
   ·cases h
    unfold DataW.trod at ht
    simp only[hu] at ht
    split at ht <;> simp_all
    rename_i k1 k2 x e
    subst e
    refine⟨x,by simp,?_⟩
    have:=ht.1.2
    simp only[Lit.wf,Bool.and_eq_true,decide_eq_true_eq,IntKind.min,IntKind.max,IntKind.signed,IntKind.bits] at this
    unfold I64
    simp at this
    omega
   ·cases h
  ·rename_i fs hu
   split at h
   case h_2=>cases h
   rename_i n' hn'
   split at h
   case h_2=>cases h
   cases h
   have hlen:cs.length=P.cellsOf t∧∃ xs,fs.toList.mapM (fun f=>DataW.trod enc P w base spare held fuel f.type ((cs.drop f.offset).take (P.cellsOf f.type)))=some xs:=by
    unfold DataW.trod at ht
    simp only[hu] at ht
    split at ht <;> simp_all
    obtain⟨a,h1,_⟩:=ht
    exact⟨a,h1⟩
   obtain⟨hl,xs,hm⟩:=hlen
   refine⟨by rw[hl,hcell],fun i hi=>?_⟩
   refine tile_num (cs:=cs) hn' ?_ i (Nat.zero_le _) hi
   intro f hf k hk j hj
   obtain⟨y,hy⟩:=WideShapes.mapM_each hm f hf
   rw[Nv hk] at hy
   exact(Xx d hk hy).2 j hj
  ·cases h
theorem SZ{w:World}{base:Nat}{a:Addr}{n:Nat}{l:List Value}(h:w.cells? base a n=some l):l.length=n∧∀ i,i<n→w.cell? (a.add i)=l[i]?:=by
 unfold World.cells? at h
 split at h
 ·have key:∀(m k:Nat) (l:List Value),(List.range' k m).mapM (fun i=>w.cell? (a.add i))=some l→l.length=m∧∀ i,i<m→w.cell? (a.add (k+i))=l[i]?:=by
   intro m
   induction m with
   | zero=>intro k l e; simp at e; subst e; exact⟨rfl,fun i hi=>by omega⟩
   | succ m ih=>
    intro k l e
    rw[List.range'_succ,List.mapM_cons] at e
    cases h1:w.cell? (a.add k) with
    | none=>rw[h1] at e; cases e
    | some v=>
     rw[h1] at e
     cases h2:(List.range' (k+1) m).mapM (fun i=>w.cell? (a.add i)) with
     | none=>rw[h2] at e; cases e
     | some r=>
      rw[h2] at e
      cases e
      obtain⟨i1,i2⟩:=ih (k+1) r h2
      refine⟨by simp [i1],fun i hi=>?_⟩
      cases i with
      | zero=>simpa using h1
      | succ i=>
       have:=i2 i (by omega)
       rw[show k+(i+1)=k+1+i by omega]
       simpa using this
  rw[List.range_eq_range'] at h
  obtain⟨h1,h2⟩:=key n 0 l h
  exact⟨h1,fun i hi=>by simpa using h2 i hi⟩
 ·cases h
theorem Nw{α β:Type}{f:α→Option β}:∀ {l:List α} {r:List β},l.mapM f=some r→r.length=l.length
 | [],r,h=>by simp at h; subst h; rfl
 | x::l,r,h=>by
  rw[List.mapM_cons] at h
  cases h1:f x with
  | none=>rw[h1] at h; cases h
  | some y=>
   rw[h1] at h
   cases h2:l.mapM f with
   | none=>rw[h2] at h; cases h
   | some q=>
    rw[h2] at h
    cases h
    simp [Nw h2]
theorem Nx{α:Type}{R:Nat→α→Prop}:∀ m:Nat,(∀ k,k<m→∃ x,R k x)→∃ xs:List α,xs.length=m∧∀ k x,xs[k]?=some x→R k x
 | 0,_=>⟨[],rfl,fun k x h=>by simp at h⟩
 | m+1,h=>by
  obtain⟨xs,h1,h2⟩:=Nx m (fun k hk=>h k (by omega))
  obtain⟨x,hx⟩:=h m (by omega)
  refine⟨xs++[x],by simp [h1],fun k y e=>?_⟩
  rcases Nat.lt_trichotomy k m with q | q | q
  ·rw[List.getElem?_append_left (by omega)] at e; exact h2 k y e
  ·subst q
   rw[List.getElem?_append_right (by omega),h1] at e
   simp at e; subst e; exact hx
  ·rw[List.getElem?_eq_none (by simp; omega)] at e; cases e
theorem Fj{w:World}{a:Addr}{v:Value}(h:w.cell? a=some v):∃ arr e fr,w.heap[a.block]?=some (.cells arr e fr)∧arr[a.off]?=some v:=by
 unfold World.cell? at h
 split at h
 ·rename_i arr e fr hb
  split at h
  ·cases h
  ·exact⟨arr,e,fr,hb,h⟩
 ·cases h
theorem PY{m:Nat}{H:Type}{enc:TypeId × Value→H}{w:World}{d s fuel base:Nat}{t e:TypeId}{v:Value}{dd:DataW H}{ps:List MemPlace}{Hp0:Hp}
  (hm:w.heap.size≤m) (hH:∀ i,Hp0.get i=pK m w i) (hu:P.underlying t=some (.slice e)) (hf:RK P d e=some s) (hs:1≤s) (hb:1≤P.bytesOf e)
  (ht:DataW.trod enc P w 0 (fun _=>true) true fuel t [v]=some (dd,ps)) (hw:∀ n ∈ dd.weights P t,n≤reachBytes) (hok:Cell.okWide P w .any base t v) :
  ∃ len xs,SliceI Hp0 m s v len xs∧VR (qZ m) v v:=by
 cases fuel with
 | zero=>simp [DataW.trod] at ht
 | succ fuel=>
  unfold DataW.trod at ht
  cases v with
  | slice ao len cap=>
   cases ao with
   | none=>
    simp only[hu] at ht
    split at ht <;> simp_all
    exact⟨⟨0,[],by simp,by simp,.inl ⟨rfl,rfl⟩⟩,by simp only[VR]⟩
   | some a=>
    simp only[hu] at ht
    simp only[Cell.okWide,hu,Cell.ok] at hok
    obtain⟨_,_,_,hsp,row,cells,hshape,_⟩:=hok
    split at ht
    case isFalse=>cases ht
    rename_i hcond
    obtain⟨_,hlc,_⟩:=hcond
    have hcell:=Nv hf
    rw[hcell] at ht
    simp only[if_true,Option.bind_eq_some_iff,Option.map_eq_some_iff] at ht
    obtain⟨elems,hel,rest,hrest,hdd⟩:=ht
    have l1:=Nw hel
    have l2:=Nw hrest
    simp only[List.length_range] at l1 l2
    simp only[Prod.mk.injEq] at hdd
    obtain⟨rfl,rfl⟩:=hdd
    have hcap:cap<capV:=by
     have:=hw ((elems.length+rest.length) * P.bytesOf e) (by simp [DataW.weights,hu])
     have h1:elems.length+rest.length=cap:=by omega
     rw[h1] at this
     have h2:cap≤cap * P.bytesOf e:=Nat.le_mul_of_pos_right _ hb
     have h3:reachBytes<capV:=by decide
     omega
    have hblk:a.block<w.heap.size:=by
     unfold World.shape? at hshape
     rcases Nat.lt_or_ge a.block w.heap.size with q | q
     ·exact q
     ·rw[Array.getElem?_eq_none q] at hshape; simp at hshape
    have ha:a=⟨a.block,a.off,none⟩:=ov hsp
    have num:∀ k,k<len * s→∃ x,w.cell? ⟨a.block,a.off+k,none⟩=some (.int .i64 x)∧I64 x:=by
     intro k hk
     have hi:k / s<len:=Nat.div_lt_of_lt_mul (by rw[Nat.mul_comm]; exact hk)
     obtain⟨y,hy⟩:=WideShapes.mapM_each hel (k / s) (by simp [hi])
     simp only[Option.bind_eq_some_iff] at hy
     obtain⟨cs,hc1,hc2⟩:=hy
     obtain⟨n1,n2⟩:=Xx d hf hc2
     obtain⟨m1,m2⟩:=SZ hc1
     have hj:k % s<s:=Nat.mod_lt _ hs
     obtain⟨x,hx,hx2⟩:=n2 (k % s) hj
     have:=m2 (k % s) hj
     rw[hx,ha,Cz,Cz] at this
     refine⟨x,?_,hx2⟩
     rw[← this]
     congr 2
     have:=Nat.div_add_mod' k s
     omega
    obtain⟨xs,hx1,hx2⟩:=Nx (len * s) num
    refine⟨len,xs,⟨hx1,fun x hx=>?_,.inr ⟨a.block,a.off,cap,by rw[← ha],hlc,Nat.le_of_lt hcap,Nat.lt_of_lt_of_le hblk hm,?_⟩⟩,?_⟩
    ·obtain⟨k,hk⟩:=List.getElem?_of_mem hx
     exact(hx2 k x hk).2
    ·rcases Nat.eq_zero_or_pos len with q | q
     ·exact .inl q
     ·refine .inr ?_
      have hpos:0<len * s:=Nat.mul_pos q hs
      obtain⟨x0,hx0,_⟩:=num 0 hpos
      obtain⟨arr,el,fr,hbk,_⟩:=Fj hx0
      simp only at hbk
      refine⟨_,arr.toList.map (hole (qZ m)),by rw[hH]; unfold pK; rw[hbk],rfl,fun k v hv=>?_⟩
      simp only[ints,List.getElem?_map,Option.map_eq_some_iff] at hv
      obtain⟨x,hx,rfl⟩:=hv
      obtain⟨arr',el',fr',hbk',harr⟩:=Fj (hx2 k x hx).1
      simp only at hbk' harr
      rw[hbk] at hbk'; cases hbk'
      rw[List.getElem?_map]
      have:arr.toList[a.off+k]?=some (.int .i64 x):=by simpa using harr
      rw[this]
      simp only[Option.map_some,Option.some.injEq]
      unfold hole
      rw[if_pos (by simp only[VR])]
    ·simp only[VR]
     exact⟨a,cap,rfl,⟨⟨0,by unfold qZ; rw[if_pos (Nat.lt_of_lt_of_le hblk hm)]⟩,rfl,rfl⟩,.inl ⟨hcap,rfl⟩⟩
  | _=>simp_all
theorem frozen_same(w w':World)(h:∀ b:Nat,frOb w'.heap[b]?=frOb w.heap[b]?)(a:Addr):w'.frozen? a=w.frozen? a:=by
 have key:∀ u:World,u.frozen? a=(decide ((frOb u.heap[a.block]?).1≤a.off) && decide (a.off<(frOb u.heap[a.block]?).2)):=by
  intro u
  unfold World.frozen?
  cases u.heap[a.block]? with
  | none=>simp [frOb]
  | some o=>
   cases o with
   | cells c t fr=>
    rw[Bool.eq_iff_iff]
    simp only[frOb,Bool.and_eq_true]
    exact⟨fun⟨a,b⟩=>⟨decide_eq_true (of_decide_eq_true a),decide_eq_true (of_decide_eq_true b)⟩,fun⟨a,b⟩=>⟨decide_eq_true (of_decide_eq_true a),decide_eq_true (of_decide_eq_true b)⟩⟩
   | _=>simp [frOb]
 rw[key,key,h]
theorem grown_of{w w':World}(h1:w'.os=w.os)(h2:w'.output=w.output)(h3:w.heap.size≤w'.heap.size)(h4:∀ b,b<w.heap.size→w'.heap[b]?=w.heap[b]?)
  (h5:∀ b:Nat,frOb w'.heap[b]?=frOb w.heap[b]?):RowKit.Grown w w':=by
 refine⟨⟨h1,h2,fun i hi=>?_⟩,frozen_same w w' h5,h3⟩
 rw[h4 i hi]
 cases w.heap[i]? with
 | none=>rfl
 | some o=>cases o with
  | cells c t fr=>exact⟨rfl,rfl,rfl,fun _ _=>rfl⟩
  | map es clock=>exact .inr ⟨rfl,rfl⟩
  | _=>rfl
theorem carryAll{H:Type}{enc:TypeId × Value→H}{w w':World}{base:Nat}{sp:Nat→Bool}{held:Bool}(h4:∀ b,b<w.heap.size→w'.heap[b]?=w.heap[b]?) :
  ∀ {ts:List TypeId} {vs:List Value} {ds:List (DataW H)} {ps:List MemPlace},DataW.TrodAll enc P w base sp held ts vs ds ps→DataW.TrodAll enc P w' base sp held ts vs ds ps
 | [],[],[],_,h=>h
 | t::ts,v::vs,d::ds,ps,h=>by
  have hlt:=DataW.TrodAll.lt h
  obtain⟨p,q,⟨n,hn⟩,h2,rfl⟩:=h
  refine⟨p,q,⟨n,DataW.trod_carry n t _ _ hn ?_⟩,carryAll h4 h2,rfl⟩
  intro x hx
  have:=h4 x.block (hlt x (by simp [hx]))
  cases x with
  | cell b off=>simp only[MemPlace.block] at this; simp [World.sameAt,World.cell?,this]
  | map b=>simp only[MemPlace.block] at this; simp [World.sameAt,this]
end Go.Ev
end
section
namespace Go.Proofs.Ytmjbdjnnojfhkaa.nestFits
open Go.ChangeShapes Go.WideShapes Go.ChangeAt Go.RowKit Go.Ev
theorem own:ownKnob Try.prog.godebug=none:=by kernel_rfl
theorem kids:Kids Try.prog (·<Try.prog.types.size):=kids_rows (by kernel_rfl) (by kernel_rfl)
theorem full:∀ t e,t<Try.prog.types.size→Try.prog.underlying t=some (.slice e)→0<Try.prog.cellsOf e:=slices_full_of Try.prog (by kernel_rfl)
structure GroveI (H:Hp) (n:Nat) (v:Value) (np nj nk:Nat) (ps js ks:List Int):Prop where
 eq:∃ a b c,v=.agg ⟨[a,b,c]⟩∧SliceI H n 2 a np ps∧SliceI H n 2 b nj js∧SliceI H n 5 c nk ks
theorem cells26:Try.prog.cellsOf 26=3:=by kernel_rfl
theorem cells22:Try.prog.cellsOf 22=1:=by kernel_rfl
theorem cells23:Try.prog.cellsOf 23=1:=by kernel_rfl
theorem cells24:Try.prog.cellsOf 24=1:=by kernel_rfl
theorem flat95:RK Try.prog 5 95=some 2:=by kernel_rfl
theorem flat104:RK Try.prog 5 102=some 2:=by kernel_rfl
theorem flat94:RK Try.prog 5 94=some 5:=by kernel_rfl
theorem bytes95:1≤Try.prog.bytesOf 95:=by decide +kernel
theorem bytes104:1≤Try.prog.bytesOf 102:=by decide +kernel
theorem bytes94:1≤Try.prog.bytesOf 94:=by decide +kernel
theorem types26:Try.prog.cellTypes Try.prog.depth 26=some [22,23,24]:=by kernel_rfl
theorem three{cs:Array Value}(h:cs.size=3):∃ a b c,cs=⟨[a,b,c]⟩:=by
 rcases cs with⟨_ | ⟨a,_ | ⟨b,_ | ⟨c,_ | ⟨d,l⟩⟩⟩⟩⟩ <;> simp at h
 exact⟨a,b,c,rfl⟩
set_option maxRecDepth 100000 in
theorem grove_inN{m:Nat}{K:Type}{enc:TypeId × Value→K}{W:World}{base:Nat}{v:Value}{d:DataW K}{p:List MemPlace}{H:Hp}(hm:W.heap.size≤m)(hH:∀ i,H.get i=pK m W i)
  (hok:Value.okWide Try.prog W .any base 26 v) (ht:DataW.Trod enc Try.prog W 0 (fun _=>true) true 26 v d p) (hw:∀ n ∈ d.weights Try.prog 26,n≤reachBytes) :
  ∃ np nj nk ps js ks,GroveI H m v np nj nk ps js ks∧VR (qZ m) v v:=by
 unfold Value.okWide at hok
 rw[Try.underlying26] at hok
 obtain⟨cs,rfl,hsz,ts,hts,_,hcell⟩:=hok
 rw[types26] at hts
 cases hts
 rw[cells26] at hsz
 obtain⟨a,b,c,rfl⟩:=three hsz
 ·skip
  have ha:Cell.okWide Try.prog W .any base 22 a:=by obtain⟨u,e1,e2⟩:=hcell 0 a (by simp); simp at e1; subst e1; exact e2
  have hb:Cell.okWide Try.prog W .any base 23 b:=by obtain⟨u,e1,e2⟩:=hcell 1 b (by simp); simp at e1; subst e1; exact e2
  have hc:Cell.okWide Try.prog W .any base 24 c:=by obtain⟨u,e1,e2⟩:=hcell 2 c (by simp); simp at e1; subst e1; exact e2
  obtain⟨fuel,ht⟩:=ht
  obtain⟨xs,n,_,hx,hl,hlen,hf⟩:=DataW.trod_struct Try.underlying26 ht
  match xs,hlen with
  | [y0,y1,y2],_=>
   cases hx
   have h0:=hf 0 _ rfl
   have h1:=hf 1 _ rfl
   have h2:=hf 2 _ rfl
   simp only[cells22,cells23,cells24,Value.cells] at h0 h1 h2
   have w0:∀ n ∈ y0.1.weights Try.prog 22,n≤reachBytes:=fun n hn=>hw n (by simp [DataW.weights,Try.underlying26,DataW.weightsEach,hn])
   have w1:∀ n ∈ y1.1.weights Try.prog 23,n≤reachBytes:=fun n hn=>hw n (by simp [DataW.weights,Try.underlying26,DataW.weightsEach,hn])
   have w2:∀ n ∈ y2.1.weights Try.prog 24,n≤reachBytes:=fun n hn=>hw n (by simp [DataW.weights,Try.underlying26,DataW.weightsEach,hn])
   obtain⟨np,ps,s0,r0⟩:=PY hm hH Try.underlying22 flat95 (by omega) bytes95 h0 w0 ha
   obtain⟨nj,js,s1,r1⟩:=PY hm hH Try.underlying23 flat104 (by omega) bytes104 h1 w1 hb
   obtain⟨nk,ks,s2,r2⟩:=PY hm hH Try.underlying24 flat94 (by omega) bytes94 h2 w2 hc
   refine⟨np,nj,nk,ps,js,ks,⟨a,b,c,rfl,s0,s1,s2⟩,?_⟩
   simp only[VR]
   exact⟨_,rfl,by simp only[VRA]; exact VRL.cons r0 (VRL.cons r1 (VRL.cons r2 VRL.nil))⟩
def Says(f:Nat):Prop:=∀(H:Hp) (n:Nat) (v:Value) np nj nk ps js ks,GroveI H n v np nj nk ps js ks →
 ∃ l H' n',(calE G.P G.A (G.KK+1) G.tab.get l).call f [v] H n=some (.bool true,H',n')
end Go.Proofs.Ytmjbdjnnojfhkaa.nestFits
end
section
namespace Go.Ev
open Go
variable {P:Program} {t:TypeId} {x y:Operand} {a b:Int} {ρ:Type}
theorem HJ{op:BinOp}{u v w:Value}(h1:eqGuard op t x y u v=pure ())(h2:binOp op t u v=pure w):cY P (mQ op t x y u v)=some w:=by
 unfold mQ
 rw[h1,h2]
 rfl
theorem KJ{op:BinOp}{k k':IntKind}:eqGuard op t x y (.int k a) (.int k' b)=pure ():=by
 unfold eqGuard
 split <;> rfl
theorem qjk{op:BinOp}{w:Value}(h:binOp op t (.int .i64 a) (.int .i64 b)=pure w)(hp:bw w=true):Gy P op t x y (.int .i64 a) (.int .i64 b)=some w:=by
 unfold Gy
 have h0:(bw (.int .i64 a) && bw (.int .i64 b))=true:=rfl
 have h1:EQ P op t (.int .i64 a) (.int .i64 b)=none:=by unfold EQ; cases op <;> rfl
 rw[h0]
 simp only[h1,HJ KJ h,hp]
theorem Cj{op:BinOp}{w:Value}(h:binOp op t (.int .i64 a) (.int .i64 b)=pure w)(hp:bw w=true)
  (hq:∀ m n:Nat,a=m→b=n→Sk op m n=some w∨Sk op m n=none):binV P op t x y (.int .i64 a) (.int .i64 b)=some w:=by
 unfold binV
 cases a with
 | ofNat m=>
  cases b with
  | ofNat n=>
   show(match Sk op m n with | some v=>some v | none=>_)=_
   rcases hq m n rfl rfl with q | q
   ·rw[q]
   ·rw[q]; exact qjk h hp
  | negSucc n=>exact qjk h hp
 | negSucc m=>cases b <;> exact qjk h hp
theorem cJ:binV P .lss t x y (.int .i64 a) (.int .i64 b)=some (.bool (decide (a<b))):=by
 refine Cj (by simp [binOp,Op.intCmp]) rfl ?_
 rintro m n rfl rfl
 refine .inl ?_
 rw[show decide ((m:Int)<(n:Int))=Nat.blt m n from(by rw[Bool.eq_iff_iff]; simp)]
 rfl
theorem wW:binV P .leq t x y (.int .i64 a) (.int .i64 b)=some (.bool (decide (a≤b))):=by
 refine Cj (by simp [binOp,Op.intCmp]) rfl ?_
 rintro m n rfl rfl
 refine .inl ?_
 rw[show decide ((m:Int)≤(n:Int))=Nat.ble m n from(by rw[Bool.eq_iff_iff]; simp)]
 rfl
theorem wX:binV P .gtr t x y (.int .i64 a) (.int .i64 b)=some (.bool (decide (b<a))):=by
 refine Cj (by simp [binOp,Op.intCmp]) rfl ?_
 rintro m n rfl rfl
 refine .inl ?_
 rw[show decide ((n:Int)<(m:Int))=Nat.blt n m from(by rw[Bool.eq_iff_iff]; simp)]
 rfl
theorem PZ:binV P .geq t x y (.int .i64 a) (.int .i64 b)=some (.bool (decide (b≤a))):=by
 refine Cj (by simp [binOp,Op.intCmp]) rfl ?_
 rintro m n rfl rfl
 refine .inl ?_
 rw[show decide ((n:Int)≤(m:Int))=Nat.ble n m from(by rw[Bool.eq_iff_iff]; simp)]
 rfl
theorem jY:binV P .eql t x y (.int .i64 a) (.int .i64 b)=some (.bool (decide (a=b))):=by
 refine Cj (by simp [binOp,Op.intCmp]; rfl) rfl ?_
 rintro m n rfl rfl
 refine .inl ?_
 rw[show decide ((m:Int)=(n:Int))=Nat.beq m n from(by rw[Bool.eq_iff_iff]; simp; omega)]
 rfl
theorem iV:binV P .neq t x y (.int .i64 a) (.int .i64 b)=some (.bool (!decide (a=b))):=by
 refine Cj (by simp [binOp,Op.intCmp]; rfl) rfl ?_
 rintro m n rfl rfl
 refine .inl ?_
 rw[show decide ((m:Int)=(n:Int))=Nat.beq m n from(by rw[Bool.eq_iff_iff]; simp; omega)]
 rfl
theorem UJ{z:Int}(h:I64 z):IntKind.i64.wrap z=z:=by
 unfold I64 at h
 simp [IntKind.wrap,IntKind.bits,IntKind.signed]
 omega
theorem mk64_or(n:Nat){w:Value}(h:w=.int .i64 (n:Int)):mk64 n=some w∨mk64 n=none:=by
 unfold mk64
 split
 ·subst h; exact .inl rfl
 ·exact .inr rfl
theorem bk(h:I64 (a+b)):binV P .add t x y (.int .i64 a) (.int .i64 b)=some (.int .i64 (a+b)):=by
 refine Cj (by simp [binOp,Op.intArith,UJ h]) rfl ?_
 rintro m n rfl rfl
 exact mk64_or _ (by simp)
theorem oW(h:I64 (a-b)):binV P .sub t x y (.int .i64 a) (.int .i64 b)=some (.int .i64 (a-b)):=by
 refine Cj (by simp [binOp,Op.intArith,UJ h]) rfl ?_
 rintro m n rfl rfl
 unfold Sk
 simp only
 split
 ·rename_i hle
  have:=Nat.le_of_ble_eq_true hle
  exact mk64_or _ (by congr 1; omega)
 ·exact .inr rfl
theorem rQ(h:I64 (a * b)):binV P .mul t x y (.int .i64 a) (.int .i64 b)=some (.int .i64 (a * b)):=by
 refine Cj (by simp [binOp,Op.intArith,UJ h]) rfl ?_
 rintro m n rfl rfl
 exact mk64_or _ (by simp)
theorem aj{α:Type}{v:α}{k:α→Option ρ}:aq (some v) k=k v:=rfl
theorem ax{op:BinOp}{u v w:Value}{k:Value→Option ρ}(h:binV P op t x y u v=some w):binK P op t x y u v k=k w:=by
 unfold binK; rw[h]; rfl
theorem dZ{e:TypeId}{v:Value}{H:Hp}{n:Nat}{k:Value→Hp→Nat→Option ρ}:boxK e v H n k=k (ptr n) (H.set n (some (.cells (aZ v) e false none))) (n+1):=rfl
theorem jw{e:TypeId}{z:Value}{H:Hp}{n:Nat}{k:Value→Hp→Nat→Option ρ}(h:iJ P e=some z):eQ P e H n k=k (ptr n) (H.set n (some (.cells (aZ z) e false none))) (n+1):=by
 unfold eQ; rw[h]; rfl
theorem fX{p q:Option ρ}:ifK (.bool true) p q=p:=rfl
theorem ez{p q:Option ρ}:ifK (.bool false) p q=q:=rfl
theorem gw{c:Prop}[Decidable c]{p q:Option ρ}:ifK (.bool (decide c)) p q=if c then p else q:=by
 by_cases h:c <;> simp [h,ifK]
theorem dk{op:(Value→Hp→Nat→Option ρ)→Option ρ}{H:Hp}{n:Nat}{k:Value→Hp→Nat→Option ρ}:aQ (.bool true) true op H n k=op k:=rfl
theorem nq{op:(Value→Hp→Nat→Option ρ)→Option ρ}{H:Hp}{n:Nat}{k:Value→Hp→Nat→Option ρ}:aQ (.bool false) false op H n k=op k:=rfl
theorem nw{op:(Value→Hp→Nat→Option ρ)→Option ρ}{H:Hp}{n:Nat}{k:Value→Hp→Nat→Option ρ}:aQ (.bool true) false op H n k=k undef H n:=rfl
theorem eJ{op:(Value→Hp→Nat→Option ρ)→Option ρ}{H:Hp}{n:Nat}{k:Value→Hp→Nat→Option ρ}:aQ (.bool false) true op H n k=k undef H n:=rfl
theorem jk{w:Bool}{op:(Value→Hp→Nat→Option ρ)→Option ρ}{H:Hp}{n:Nat}{k:Value→Hp→Nat→Option ρ}:aQ undef w op H n k=k undef H n:=rfl
theorem dw{u v:Value}:fy (.bool true) u v=some u:=rfl
theorem dQ{u v:Value}:fy (.bool false) u v=some v:=rfl
theorem ak{b o:Nat}:aV (.pointer (some ⟨b,o,none⟩))=some ⟨b,o,none⟩:=rfl
theorem SliceI.up{H:Hp}{n m s len:Nat}{v:Value}{xs:List Int}(h:SliceI H n s v len xs)(hm:n≤m):SliceI H m s v len xs:=by
 obtain⟨h1,h2,h3⟩:=h
 refine⟨h1,h2,?_⟩
 rcases h3 with h3 | ⟨b,o,cap,e,a1,a2,a3,a4⟩
 ·exact .inl h3
 ·exact .inr ⟨b,o,cap,e,a1,a2,by omega,a4⟩
def Ret(r:Res)(n:Nat)(H:Hp)(v:Value):Prop:=∃ H' n',r=some (v,H',n')∧n≤n'∧Keep n H H'
theorem iZ{cal:Cal}{f:FuncId}{args:List Value}{H H':Hp}{n n':Nat}{v:Value}{k:Value→Hp→Nat→Option ρ}(hf:iY P f=true)(hp:ck args=true)
  (e:cal.call f args .nil 0=some (v,H',n')) (hv:bw v=true):aX P cal f args H n k=k v H n:=by
 unfold aX
 rw[hf,hp,e]
 simp only[Bool.and_self,aj,hv]
theorem eZ{cal:Cal}{f:FuncId}{args:List Value}{H:Hp}{n:Nat}{Pre:Hp→Nat→Prop}{Q:Value→Prop}
  (hs:∀ H n,Pre H n→∃ r,Ret (cal.call f args H n) n H r∧Q r) (hq:∀ r,Q r→iY P f=true→bw r=true) (h0:Pre H n) (h1:ck args=true→Pre .nil 0) :
  ∃ r H' n',Q r∧(∀ k:Value→Hp→Nat→Option ρ,aX P cal f args H n k=k r H' n')∧n≤n'∧Keep n H H':=by
 unfold aX
 cases hb:iY P f && ck args with
 | false=>
  obtain⟨r,⟨H',n',e,e1,e2⟩,q⟩:=hs H n h0
  exact⟨r,H',n',q,fun k=>by rw[e]; rfl,e1,e2⟩
 | true=>
  rw[Bool.and_eq_true] at hb
  obtain⟨r,⟨H',n',e,e1,e2⟩,q⟩:=hs .nil 0 (h1 hb.2)
  refine⟨r,H,n,q,fun k=>?_,Nat.le_refl _,Keep.refl _ _⟩
  rw[e]
  simp only[aj,hq r q hb.1]
end Go.Ev
end
section
namespace Go.Proofs.Ytmjbdjnnojfhkaa.spec
open Go.Ev Go.Proofs.Ytmjbdjnnojfhkaa.nestFits Go.Proofs.Ytmjbdjnnojfhkaa.G
set_option maxRecDepth 100000
theorem agg3:fJ P 3=some false:=by kernel_rfl
theorem Sj:fJ P 22=some false:=by kernel_rfl
theorem agg23:fJ P 23=some false:=by kernel_rfl
theorem Mv:fJ P 24=some false:=by kernel_rfl
theorem agg26:fJ P 26=some true:=by kernel_rfl
theorem agg104:fJ P 102=some true:=by kernel_rfl
theorem UQ:szT P 102=some 2:=by kernel_rfl
theorem sz26:szT P 26=some 3:=by kernel_rfl
theorem UV:P.underlying 23=some (.slice 102):=by kernel_rfl
theorem Fq(b o:Nat):aw P 26 (.pointer (some ⟨b,o,none⟩)) 0=some (.pointer (some ⟨b,o+0,none⟩)):=by kernel_rfl
theorem Xy(b o:Nat):aw P 26 (.pointer (some ⟨b,o,none⟩)) 1=some (.pointer (some ⟨b,o+1,none⟩)):=by kernel_rfl
theorem Dq(b o:Nat):aw P 26 (.pointer (some ⟨b,o,none⟩)) 2=some (.pointer (some ⟨b,o+2,none⟩)):=by kernel_rfl
theorem PK(b o:Nat):aw P 102 (.pointer (some ⟨b,o,none⟩)) 0=some (.pointer (some ⟨b,o+0,none⟩)):=by kernel_rfl
theorem Qj(b o:Nat):aw P 102 (.pointer (some ⟨b,o,none⟩)) 1=some (.pointer (some ⟨b,o+1,none⟩)):=by kernel_rfl
theorem zero104:iJ P 102=some (.agg #[.int .i64 0,.int .i64 0]):=by kernel_rfl
theorem qjw(H:Hp)(b o:Nat)(u v:Value):bX P 102 (.pointer (some ⟨b,o,none⟩)) (.agg ⟨[u,v]⟩) H=storeN H ⟨b,o,none⟩ [u,v]:=by kernel_rfl
theorem _root_.Go.Ev.SliceI.hole{H:Hp}{n s len:Nat}{v:Value}{xs:List Int}(h:SliceI H n s v len xs):lJ v=true∧vj v=true:=by
 rcases h.2.2 with⟨rfl,_⟩ | ⟨b,o,cap,rfl,_⟩ <;> exact⟨rfl,rfl⟩
theorem UW{js:List Int}{i:Nat}(h:i * 2+2≤js.length):∃ x y,js[i * 2]?=some x∧js[i * 2+1]?=some y∧((ints js).drop (i * 2)).take 2=[.int .i64 x,.int .i64 y]:=by
 refine⟨js[i * 2],js[i * 2+1],List.getElem?_eq_getElem _,List.getElem?_eq_getElem _,?_⟩
 rw[EK]
 have:(js.drop (i * 2)).take 2=[js[i * 2],js[i * 2+1]]:=by
  apply List.ext_getElem?
  intro k
  rw[List.getElem?_take]
  match k with
  | 0=>simp
  | 1=>simp
  | k+2=>simp; omega
 rw[this]; rfl
theorem lW{H:Hp}{b:Nat}{c vs:List Value}{e:TypeId}{vec:Option Nat}(h:H.get b=some (.cells c e false vec))(hl:vs.length=c.length)(hv:vs.all tj=true) :
  storeN H ⟨b,0,none⟩ vs=some (H.set b (some (.cells vs e false vec))):=by
 have key:∀(c vs:List Value),vs.length=c.length→ij.over c vs=some vs:=by
  intro c
  induction c with
  | nil=>intro vs hl; cases vs with
   | nil=>rfl
   | cons v vs=>simp at hl
  | cons x c ih=>intro vs hl; cases vs with
   | nil=>simp at hl
   | cons v vs=>simp [ij.over,ih vs (by simpa using hl)]
 unfold storeN
 simp only[h,hv,if_true]
 have:ij c 0 vs=some vs:=by unfold ij; exact key c vs hl
 rw[this]
def J(js:List Int)(a b:Int)(j:Nat):Prop:=(js[j * 2]?=some a∧js[j * 2+1]?=some b)∨(js[j * 2]?=some b∧js[j * 2+1]?=some a)
theorem near_loop(cal:Cal)(k:Nat)(a b:Int)(g nj:Nat)(js:List Int)(sp sj sk:Value):∀(m i:Nat) (H:Hp) (n:Nat),g<n→aW H g 0 [sp,sj,sk]→SliceI H n 2 sj nj js→i≤nj→nj-i≤m →
  ∃ r,Ret (S89_1 cal k m (.int .i64 a) (.int .i64 b) (ptr g) (.int .i64 i) H n) n H (.bool r)∧(r=true↔∃ j,i≤j∧j<nj∧J js a b j):=by
 intro m
 have body:∀(b1:Value→Value→Value→Value→Hp→Nat→Res) (m i:Nat) (H:Hp) (n:Nat),g<n→aW H g 0 [sp,sj,sk]→SliceI H n 2 sj nj js→i≤nj →
   (∀ H' n',n≤n'→Keep n H H'→i<nj→∃ r,Ret (b1 (.int .i64 a) (.int .i64 b) (ptr g) (.int .i64 ((i+1:Nat):Int)) H' n') n' H' (.bool r)∧(r=true↔∃ j,i+1≤j∧j<nj∧J js a b j)) →
   ∃ r,Ret (C89_1 cal k m b1 (.int .i64 a) (.int .i64 b) (ptr g) (.int .i64 i) H n) n H (.bool r)∧(r=true↔∃ j,i≤j∧j<nj∧J js a b j):=by
  intro b1 m i H n hgn hg hj hi ih
  have hl:az P H 23 ⟨g,0+1,none⟩=some sj:=bq hg agg23 rfl hj.hole.1 hj.hole.2
  have hlen:lenV P 23 sj=some (.int .i64 nj):=hj.len_eq UV
  unfold C89_1 B89_1
  simp only[ptr,Xy,aj,ak,hl,hlen,ax cJ,gw]
  by_cases hlt:i<nj
  ·rw[if_pos (by omega)]
   obtain⟨bb,o,hix,hbn,hc⟩:=hj.at_ UV UQ hlt
   have hlen2:i * 2+2≤js.length:=by rw[hj.1]; omega
   obtain⟨x,y,hx,hy,hxy⟩:=UW hlen2
   have hld:az P H 102 ⟨bb,o+i * 2,none⟩=some (.agg ⟨[.int .i64 x,.int .i64 y]⟩):=by
    rw[cw hc agg104 UQ (by rw[bv]; exact hlen2) (dY _),hxy]
   simp only[hix,aj,ak,hld,jw zero104,ptr,qjw,aZ]
   have hst:=lW (H:=H.set n (some (.cells [.int .i64 0,.int .i64 0] 102 false none))) (b:=n) (c:=[.int .i64 0,.int .i64 0]) (vs:=[.int .i64 x,.int .i64 y]) (e:=102) (vec:=none) (by rw[Tr.get_set,if_pos rfl]) rfl rfl
   rw[hst]
   have hk:Keep n H ((H.set n (some (.cells [.int .i64 0,.int .i64 0] 102 false none))).set n (some (.cells [.int .i64 x,.int .i64 y] 102 false none))):=
    ((Keep.refl n H).set (Nat.le_refl _) _).set (Nat.le_refl _) _
   have hnew:=aW.new (H:=H.set n (some (.cells [.int .i64 0,.int .i64 0] 102 false none))) (n:=n) (vs:=[.int .i64 x,.int .i64 y]) (e:=102) (ro:=false) (vec:=none)
   generalize (H.set n (some (.cells [.int .i64 0,.int .i64 0] 102 false none))).set n (some (.cells [.int .i64 x,.int .i64 y] 102 false none))=H23 at hk hnew ⊢
   have l0:az P H23 3 ⟨n,0+0,none⟩=some (.int .i64 x):=bj hnew agg3 rfl
   have l1:az P H23 3 ⟨n,0+1,none⟩=some (.int .i64 y):=bj hnew agg3 rfl
   simp only[aj,ak,PK,Qj,l0,ax jY]
   have hI:I64 ((i:Int)+1):=by
    rcases hj.2.2 with⟨_,h0⟩ | ⟨_,_,cap,_,h1,h2,_⟩
    ·omega
    ·unfold I64; unfold capV at h2; omega
   have hcast:((i:Int)+1)=((i+1:Nat):Int):=by omega
   have next:=ih H23 (n+1) (by omega) hk hlt
   obtain⟨r,⟨H',n',e1,e2,e3⟩,e4⟩:=next
   have go:¬ J js a b i→∃ r,Ret (b1 (.int .i64 a) (.int .i64 b) (.pointer (some ⟨g,0,none⟩)) (.int .i64 ((i+1:Nat):Int)) H23 (n+1)) n H (.bool r)∧(r=true↔∃ j,i≤j∧j<nj∧J js a b j):=by
    intro hno
    refine⟨r,⟨H',n',e1,by omega,hk.trans e3 (by omega)⟩,e4.trans ⟨fun⟨j,q1,q2,q3⟩=>⟨j,by omega,q2,q3⟩,fun⟨j,q1,q2,q3⟩=>⟨j,?_,q2,q3⟩⟩⟩
    rcases Nat.eq_or_lt_of_le q1 with q | q
    ·subst q; exact absurd q3 hno
    ·exact q
   have yes:J js a b i→∃ r,Ret (some (Value.bool true,H23,n+1)) n H (.bool r)∧(r=true↔∃ j,i≤j∧j<nj∧J js a b j):=fun h=>
    ⟨true,⟨H23,n+1,rfl,by omega,hk⟩,⟨fun _=>⟨i,Nat.le_refl _,hlt,h⟩,fun _=>rfl⟩⟩
   have hJ:J js a b i↔(decide (x=a)=true∧decide (y=b)=true)∨(decide (x=b)=true∧decide (y=a)=true):=by
    unfold J; rw[hx,hy]; simp
   cases c1:decide (x=a) <;> cases c2:decide (y=b) <;> cases c3:decide (x=b) <;> cases c4:decide (y=a) <;>
    simp only[c1,c2,c3,c4,dk,nq,nw,eJ,jk,aj,ak,l0,l1,ax jY,ax (bk hI),dw,dQ,fX,ez,PK,Qj,hcast] <;>
    rw[c1,c2,c3,c4] at hJ <;> first | exact go (by rw[hJ]; simp) | exact yes (by rw[hJ]; simp)
  ·rw[if_neg (by omega)]
   refine⟨false,⟨H,n,rfl,Nat.le_refl _,Keep.refl _ _⟩,?_⟩
   constructor
   ·intro h; cases h
   ·rintro⟨j,h1,h2,_⟩; omega
 induction m with
 | zero=>
  intro i H n h1 h2 h3 h4 h5
  exact body _ 0 i H n h1 h2 h3 h4 (fun _ _ _ _ h=>by omega)
 | succ m ih=>
  intro i H n h1 h2 h3 h4 h5
  exact body _ (m+1) i H n h1 h2 h3 h4 (fun H' n' q1 q2 q3=>ih (i+1) H' n' (by omega) (h2.keep q2 h1) ((h3.keep q2 (Nat.le_refl _)).up q1) (by omega) (by omega))
theorem near_spec(cal:Cal)(k:Nat){H:Hp}{n:Nat}{v:Value}{np nj nk:Nat}{ps js ks:List Int}(hg:GroveI H n v np nj nk ps js ks)(hk:nj≤k)(a b:Int) :
  ∃ r,Ret (C89_0 cal k v (.int .i64 a) (.int .i64 b) H n) n H (.bool r)∧(r=true↔∃ j,j<nj∧J js a b j):=by
 obtain⟨x,y,z,rfl,h1,h2,h3⟩:=hg.eq
 unfold C89_0 B89_0
 simp only[dZ,aZ]
 have hkeep:Keep n H (H.set n (some (.cells [x,y,z] 26 false none))):=(Keep.refl n H).set (Nat.le_refl _) _
 obtain⟨r,⟨H',n',e1,e2,e3⟩,e4⟩:=near_loop cal k a b n nj js x y z k 0 (H.set n (some (.cells [x,y,z] 26 false none))) (n+1) (by omega) aW.new ((h2.keep hkeep (Nat.le_refl _)).up (by omega)) (by omega) (by omega)
 exact⟨r,⟨H',n',e1,by omega,hkeep.trans e3 (by omega)⟩,e4.trans ⟨fun⟨j,_,q⟩=>⟨j,q⟩,fun⟨j,q⟩=>⟨j,Nat.zero_le _,q⟩⟩⟩
noncomputable def cal(l:Nat):Cal:=calE G.P G.A (G.KK+1) G.tab.get l
theorem call89(l:Nat)(a b c:Value)(H:Hp)(n:Nat):(cal (l+1)).call 89 [a,b,c] H n=C89_0 (cal l) KK a b c H n:=by kernel_rfl
theorem call32(l:Nat)(a b c:Value)(H:Hp)(n:Nat):(cal (l+1)).call 32 [a,b,c] H n=C32_0 (cal l) KK a b c H n:=by kernel_rfl
theorem call100(l:Nat)(a b:Value)(H:Hp)(n:Nat):(cal (l+1)).call 100 [a,b] H n=YJ (cal l) KK a b H n:=by kernel_rfl
theorem flat32:iY P 32=true:=by kernel_rfl
theorem flat100:iY P 100=true:=by kernel_rfl
variable {ρ:Type}
theorem in_spec(c:Cal)(k:Nat)(a lo hi:Int)(H:Hp)(n:Nat):C32_0 c k (.int .i64 a) (.int .i64 lo) (.int .i64 hi) H n=some (.bool (decide (lo≤a∧a≤hi)),H,n):=by
 unfold C32_0 B32_0
 simp only[ax PZ]
 cases c1:decide (lo≤a) <;> cases c2:decide (a≤hi) <;>
  simp only[dk,nq,nw,eJ,jk,ax wW,c2,aj,dw,dQ] <;> simp_all
theorem DJ(l:Nat)(a lo hi:Int)(H:Hp)(n:Nat)(k:Value→Hp→Nat→Option ρ) :
  aX P (cal (l+1)) 32 [.int .i64 a,.int .i64 lo,.int .i64 hi] H n k=k (.bool (decide (lo≤a∧a≤hi))) H n:=
 iZ flat32 rfl ((call32 ..).trans (in_spec ..)) rfl
theorem span_spec(l k:Nat)(lo hi:Int)(H:Hp)(n:Nat):YJ (cal (l+1)) k (.int .i64 lo) (.int .i64 hi) H n=some (.bool (decide (0≤lo∧lo≤hi∧hi≤1000)),H,n):=by
 unfold YJ B100_0
 rw[DJ]
 cases c1:decide (0≤lo∧lo≤hi) <;> cases c2:decide (hi≤1000) <;>
  simp only[dk,nq,nw,eJ,jk,ax wW,c2,aj,dw,dQ] <;> simp_all
theorem Xk(l:Nat)(lo hi:Int)(H:Hp)(n:Nat)(k:Value→Hp→Nat→Option ρ) :
  aX P (cal (l+2)) 100 [.int .i64 lo,.int .i64 hi] H n k=k (.bool (decide (0≤lo∧lo≤hi∧hi≤1000))) H n:=
 iZ flat100 rfl ((call100 ..).trans (span_spec ..)) rfl
end Go.Proofs.Ytmjbdjnnojfhkaa.spec
end
section
namespace Go.Proofs.Ytmjbdjnnojfhkaa.spec
open Go.Ev Go.Proofs.Ytmjbdjnnojfhkaa.nestFits Go.Proofs.Ytmjbdjnnojfhkaa.G
set_option maxRecDepth 100000
theorem agg55:fJ P 55=some true:=by kernel_rfl
theorem sz55:szT P 55=some 2:=by kernel_rfl
theorem sz94:szT P 94=some 5:=by kernel_rfl
theorem IQ:P.underlying 24=some (.slice 94):=by kernel_rfl
theorem zero55:iJ P 55=some (.agg #[.int .i64 0,.int .i64 0]):=by kernel_rfl
theorem fa94_0(b o:Nat):aw P 94 (.pointer (some ⟨b,o,none⟩)) 0=some (.pointer (some ⟨b,o+0,none⟩)):=by kernel_rfl
theorem fa94_1(b o:Nat):aw P 94 (.pointer (some ⟨b,o,none⟩)) 1=some (.pointer (some ⟨b,o+1,none⟩)):=by kernel_rfl
theorem fa94_2(b o:Nat):aw P 94 (.pointer (some ⟨b,o,none⟩)) 2=some (.pointer (some ⟨b,o+3,none⟩)):=by kernel_rfl
theorem qdz(H:Hp)(b o:Nat)(u v:Value):bX P 55 (.pointer (some ⟨b,o,none⟩)) (.agg ⟨[u,v]⟩) H=storeN H ⟨b,o,none⟩ [u,v]:=by kernel_rfl
theorem build55:fK P 55 []=some (.agg ⟨[.int .i64 0,.int .i64 0]⟩):=by kernel_rfl
theorem res77(H:Hp)(b:Nat):resV P (Tr.set Tr.nil 8 (some (.pointer (some ⟨b,0,none⟩)))) H mz=(match az P H 55 ⟨b,0,none⟩ with
 | some v=>some [v]
 | none=>none):=by kernel_rfl
theorem _root_.Go.Proofs.Ytmjbdjnnojfhkaa.nestFits.GroveI.nil{H:Hp}{n:Nat}{v:Value}{np nj nk:Nat}{ps js ks:List Int}(hg:GroveI H n v np nj nk ps js ks)(hp:bw v=true):GroveI .nil 0 v np nj nk ps js ks:=by
 obtain⟨a,b,c,rfl,h1,h2,h3⟩:=hg.eq
 simp only[bw,ox,ck,Bool.and_eq_true,and_true] at hp
 have key:∀ {s len:Nat} {u:Value} {xs:List Int},SliceI H n s u len xs→bw u=true→SliceI .nil 0 s u len xs:=by
  intro s len u xs h hu
  refine⟨h.1,h.2.1,?_⟩
  rcases h.2.2 with q | ⟨b,o,cap,rfl,_⟩
  ·exact .inl q
  ·simp [bw] at hu
 exact⟨a,b,c,rfl,key h1 hp.1,key h2 hp.2.1,key h3 hp.2.2⟩
theorem _root_.Go.Proofs.Ytmjbdjnnojfhkaa.nestFits.GroveI.keep{H H':Hp}{n m:Nat}{v:Value}{np nj nk:Nat}{ps js ks:List Int}(hg:GroveI H n v np nj nk ps js ks)(hk:Keep n H H')(hm:n≤m):GroveI H' m v np nj nk ps js ks:=by
 obtain⟨a,b,c,rfl,h1,h2,h3⟩:=hg.eq
 exact⟨a,b,c,rfl,(h1.keep hk (Nat.le_refl _)).up hm,(h2.keep hk (Nat.le_refl _)).up hm,(h3.keep hk (Nat.le_refl _)).up hm⟩
def Near(js:List Int)(nj:Nat)(a b:Int):Prop:=∃ j,j<nj∧J js a b j
open Classical in
noncomputable def cq(js ks:List Int)(nj:Nat)(kind:Nat)(at_ pad:Int):Int × Int:=
 if at_=pad then(ks.getD (kind * 5+1) 0,ks.getD (kind * 5+2) 0)
 else if Near js nj at_ pad then(ks.getD (kind * 5+3) 0,ks.getD (kind * 5+4) 0)
 else(0,0)
theorem SK{ks:List Int}{k:Nat}(h:k+2≤ks.length):((ints ks).drop k).take 2=[.int .i64 (ks.getD k 0),.int .i64 (ks.getD (k+1) 0)]:=by
 rw[EK]
 have:(ks.drop k).take 2=[ks.getD k 0,ks.getD (k+1) 0]:=by
  apply List.ext_getElem?
  intro i
  rw[List.getElem?_take]
  match i with
  | 0=>simp [List.getD_eq_getElem?_getD,List.getElem?_eq_getElem (show k<ks.length by omega)]
  | 1=>simp [List.getD_eq_getElem?_getD,List.getElem?_eq_getElem (show k+1<ks.length by omega)]
  | i+2=>simp; omega
 rw[this]; rfl
theorem end77{H:Hp}{n b:Nat}{u w:Int}{c:List Value}(hg:H.get b=some (.cells c 55 false none))(hc:c.length=2) :
  (aq (bX P 55 (.pointer (some ⟨b,0,none⟩)) (.agg ⟨[.int .i64 u,.int .i64 w]⟩) H) fun H'=>aq (resV P (Tr.set Tr.nil 8 (some (.pointer (some ⟨b,0,none⟩)))) H' mz) fun vs=>some (oneV vs,H',n)) =
   some (.agg ⟨[.int .i64 u,.int .i64 w]⟩,H.set b (some (.cells [.int .i64 u,.int .i64 w] 55 false none)),n):=by
 have hst:=lW (vs:=[.int .i64 u,.int .i64 w]) hg (by rw[hc]; rfl) rfl
 have hld:az P (H.set b (some (.cells [.int .i64 u,.int .i64 w] 55 false none))) 55 ⟨b,0,none⟩=some (.agg ⟨[.int .i64 u,.int .i64 w]⟩):=
  cw (o:=0) (k:=0) (aW.new (n:=b)) agg55 sz55 (by simp) rfl
 rw[qdz,hst,aj,res77,hld]
 rfl
theorem reach_spec(l k:Nat){H:Hp}{n:Nat}{v:Value}{np nj nk:Nat}{ps js ks:List Int}(hg:GroveI H n v np nj nk ps js ks)(hj:nj≤KK)(kind:Nat)(hk:kind<nk)(at_ pad:Int) :
  Ret (C77_0 (cal (l+1)) k v (.int .i64 kind) (.int .i64 at_) (.int .i64 pad) H n) n H (.agg ⟨[.int .i64 (cq js ks nj kind at_ pad).1,.int .i64 (cq js ks nj kind at_ pad).2]⟩):=by
 have hg0:=hg
 obtain⟨x,y,z,rfl,h1,h2,h3⟩:=hg.eq
 unfold C77_0 B77_0
 simp only[dZ,aZ,jw zero55,ptr,ax jY]
 have hkeep:Keep n H ((H.set n (some (.cells [x,y,z] 26 false none))).set (n+1) (some (.cells [.int .i64 0,.int .i64 0] 55 false none))):=
  ((Keep.refl n H).set (Nat.le_refl _) _).set (by omega) _
 have hbox:aW ((H.set n (some (.cells [x,y,z] 26 false none))).set (n+1) (some (.cells [.int .i64 0,.int .i64 0] 55 false none))) n 0 [x,y,z]:=aW.new.set (by omega)
 have hnew:((H.set n (some (.cells [x,y,z] 26 false none))).set (n+1) (some (.cells [.int .i64 0,.int .i64 0] 55 false none))).get (n+1)=some (.cells [.int .i64 0,.int .i64 0] 55 false none):=by
  rw[Tr.get_set,if_pos rfl]
 generalize (H.set n (some (.cells [x,y,z] 26 false none))).set (n+1) (some (.cells [.int .i64 0,.int .i64 0] 55 false none))=H5 at hkeep hbox hnew ⊢
 have s3:SliceI H5 (n+2) 5 z nk ks:=(h3.keep hkeep (Nat.le_refl _)).up (by omega)
 have hgr:GroveI H5 (n+2) (.agg ⟨[x,y,z]⟩) np nj nk ps js ks:=hg0.keep hkeep (by omega)
 have hlen:kind * 5+5≤ks.length:=by rw[h3.1]; omega
 by_cases c:at_=pad
 ·rw[decide_eq_true c,fX]
  obtain⟨b,o,hix,hbn,hc⟩:=s3.at_ IQ sz94 hk
  have hl:az P H5 24 ⟨n,0+2,none⟩=some z:=bq hbox Mv rfl h3.hole.1 h3.hole.2
  have hld:az P H5 55 ⟨b,o+kind * 5+1,none⟩=some (.agg ⟨[.int .i64 (ks.getD (kind * 5+1) 0),.int .i64 (ks.getD (kind * 5+2) 0)]⟩):=by
   rw[show o+kind * 5+1=o+(kind * 5+1) by omega,cw hc agg55 sz55 (by rw[bv]; omega) (dY _),SK (by omega)]
  simp only[Dq,aj,ak,hl,hix,fa94_1,hld,end77 hnew rfl]
  refine⟨_,_,by rw[cq,if_pos c],by omega,hkeep.trans ((Keep.refl n H5).set (by omega) _) (Nat.le_refl _)⟩
 ·rw[decide_eq_false c,ez]
  have hl26:az P H5 26 ⟨n,0,none⟩=some (.agg ⟨[x,y,z]⟩):=by
   have hno:([x,y,z]:List Value).all lJ=true:=by simp [h1.hole.1,h2.hole.1,h3.hole.1]
   exact cw (o:=0) (k:=0) hbox agg26 sz26 (by simp) hno
  simp only[ak,aj,hl26]
  obtain⟨r,H6,n6,⟨b0,rfl,hr⟩,e1,e2,e3⟩:=eZ (ρ:=Value × Hp × Nat) (P:=P) (cal:=cal (l+1)) (f:=89) (args:=[.agg ⟨[x,y,z]⟩,.int .i64 at_,.int .i64 pad]) (H:=H5) (n:=n+2)
   (Pre:=fun H n=>GroveI H n (.agg ⟨[x,y,z]⟩) np nj nk ps js ks) (Q:=fun v=>∃ b:Bool,v=.bool b∧(b=true↔Near js nj at_ pad))
   (fun H n h=>by
    obtain⟨r,h1,h2⟩:=near_spec (cal l) KK h hj at_ pad
    exact⟨.bool r,by rw[call89]; exact h1,r,rfl,h2⟩)
   (fun r ⟨b,e,_⟩ _=>by subst e; rfl) hgr (fun hp=>hgr.nil (by simp only[ck,Bool.and_eq_true] at hp; exact hp.1))
  rw[e1]
  have hnew6:H6.get (n+1)=some (.cells [.int .i64 0,.int .i64 0] 55 false none):=(e3 (n+1) (by omega)).trans hnew
  have k6:Keep n H H6:=hkeep.trans e3 (by omega)
  cases b0 with
  | true=>
   have hnear:=hr.1 rfl
   rw[fX]
   have s6:SliceI H6 n6 5 z nk ks:=(s3.keep e3 (Nat.le_refl _)).up (by omega)
   obtain⟨b,o,hix,hbn,hc⟩:=s6.at_ IQ sz94 hk
   have hl:az P H6 24 ⟨n,0+2,none⟩=some z:=bq (hbox.keep e3 (by omega)) Mv rfl h3.hole.1 h3.hole.2
   have hld:az P H6 55 ⟨b,o+kind * 5+3,none⟩=some (.agg ⟨[.int .i64 (ks.getD (kind * 5+3) 0),.int .i64 (ks.getD (kind * 5+4) 0)]⟩):=by
    rw[show o+kind * 5+3=o+(kind * 5+3) by omega,cw hc agg55 sz55 (by rw[bv]; omega) (dY _),SK (by omega)]
   simp only[Dq,aj,ak,hl,hix,fa94_2,hld,end77 hnew6 rfl]
   refine⟨_,_,by rw[cq,if_neg c,if_pos hnear],by omega,k6.trans ((Keep.refl n H6).set (by omega) _) (Nat.le_refl _)⟩
  | false=>
   have hnear:¬ Near js nj at_ pad:=fun h=>by cases hr.2 h
   rw[ez,build55,aj,end77 hnew6 rfl]
   refine⟨_,_,by rw[cq,if_neg c,if_neg hnear],by omega,k6.trans ((Keep.refl n H6).set (by omega) _) (Nat.le_refl _)⟩
theorem call77(l:Nat)(a b c d:Value)(H:Hp)(n:Nat):(cal (l+1)).call 77 [a,b,c,d] H n=C77_0 (cal l) KK a b c d H n:=by kernel_rfl
theorem Mw:P.underlying 22=some (.slice 95):=by kernel_rfl
theorem Ny(b o:Nat):aw P 55 (.pointer (some ⟨b,o,none⟩)) 0=some (.pointer (some ⟨b,o+0,none⟩)):=by kernel_rfl
theorem Nz(b o:Nat):aw P 55 (.pointer (some ⟨b,o,none⟩)) 1=some (.pointer (some ⟨b,o+1,none⟩)):=by kernel_rfl
theorem KQ(l:Nat){ρ:Type}{H:Hp}{n:Nat}{v:Value}{np nj nk:Nat}{ps js ks:List Int}(hg:GroveI H n v np nj nk ps js ks)(hj:nj≤KK)(kind:Nat)(hk:kind<nk)(at_ pad:Int) :
  ∃ H' n',(∀ k:Value→Hp→Nat→Option ρ,aX P (cal (l+2)) 77 [v,.int .i64 kind,.int .i64 at_,.int .i64 pad] H n k=k (.agg ⟨[.int .i64 (cq js ks nj kind at_ pad).1,.int .i64 (cq js ks nj kind at_ pad).2]⟩) H' n')∧n≤n'∧Keep n H H':=by
 obtain⟨r,H',n',rfl,e1,e2,e3⟩:=eZ (ρ:=ρ) (P:=P) (cal:=cal (l+2)) (f:=77) (args:=[v,.int .i64 kind,.int .i64 at_,.int .i64 pad]) (H:=H) (n:=n)
  (Pre:=fun H n=>GroveI H n v np nj nk ps js ks) (Q:=fun r=>r=.agg ⟨[.int .i64 (cq js ks nj kind at_ pad).1,.int .i64 (cq js ks nj kind at_ pad).2]⟩)
  (fun H n h=>⟨_,by rw[call77]; exact reach_spec l KK h hj kind hk at_ pad,rfl⟩) (fun r e _=>by subst e; rfl) hg (fun hp=>hg.nil (by simp only[ck,Bool.and_eq_true] at hp; exact hp.1))
 exact⟨H',n',e1,e2,e3⟩
noncomputable def lows(js ks:List Int)(nj kind:Nat)(at_ pad:Int):Nat→Int
 | 0=>0
 | i+1=>lows js ks nj kind at_ pad i+if(i:Int)=pad then 0 else(cq js ks nj kind at_ i).1
noncomputable def vz(js ks:List Int)(nj kind:Nat)(at_ pad:Int):Nat→Int
 | 0=>0
 | i+1=>vz js ks nj kind at_ pad i+if(i:Int)=pad then 0 else(cq js ks nj kind at_ i).2
def IV(ks:List Int)(nk:Nat):Prop:=∀ kind,kind<nk→0≤ks.getD (kind * 5) 0∧ks.getD (kind * 5) 0≤1000 ∧
 0≤ks.getD (kind * 5+1) 0∧ks.getD (kind * 5+1) 0≤ks.getD (kind * 5+2) 0∧ks.getD (kind * 5+2) 0≤1000∧0≤ks.getD (kind * 5+3) 0∧ks.getD (kind * 5+3) 0≤ks.getD (kind * 5+4) 0∧ks.getD (kind * 5+4) 0≤1000
theorem tK{js ks:List Int}{nj nk kind:Nat}(h:IV ks nk)(hk:kind<nk)(a p:Int):0≤(cq js ks nj kind a p).1∧(cq js ks nj kind a p).1≤(cq js ks nj kind a p).2∧(cq js ks nj kind a p).2≤1000:=by
 obtain⟨h0,h1,h2,h3,h4,h5,h6,h7⟩:=h kind hk
 unfold cq
 split
 ·exact⟨h2,h3,h4⟩
 ·split
  ·exact⟨h5,h6,h7⟩
  ·exact⟨by simp,by simp,by simp⟩
theorem Tj{js ks:List Int}{nj nk kind:Nat}(h:IV ks nk)(hk:kind<nk)(a p:Int):∀ i:Nat,0≤lows js ks nj kind a p i∧lows js ks nj kind a p i≤vz js ks nj kind a p i∧vz js ks nj kind a p i≤1000 * i
 | 0=>by simp [lows,vz]
 | i+1=>by
  obtain⟨h1,h2,h3⟩:=Tj (js:=js) (nj:=nj) h hk a p i
  obtain⟨r1,r2,r3⟩:=tK (js:=js) (nj:=nj) h hk a i
  simp only[lows,vz]
  split <;> omega
theorem KV{H:Hp}{g:Nat}{x y z:Value}(hb:aW H g 0 [x,y,z])(h1:lJ x=true)(h2:lJ y=true)(h3:lJ z=true):az P H 26 ⟨g,0,none⟩=some (.agg ⟨[x,y,z]⟩):=
 cw (o:=0) (k:=0) hb agg26 sz26 (by simp) (by simp [h1,h2,h3])
noncomputable def Mx(js ks:List Int)(nj np kind:Nat)(at_ pad number:Int):Prop:=
 ((cq js ks nj kind at_ pad).1≤number∧number≤(cq js ks nj kind at_ pad).2) ∧
 (number+lows js ks nj kind at_ pad np≤ks.getD (kind * 5) 0∧ks.getD (kind * 5) 0≤number+vz js ks nj kind at_ pad np)
theorem box55{ρ:Type}{H:Hp}{n:Nat}{u w:Int}{k:Value→Hp→Nat→Option ρ} :
  (eQ P 55 H n fun v H2 n2=>aq (bX P 55 v (.agg ⟨[.int .i64 u,.int .i64 w]⟩) H2) fun H3=>k v H3 n2) =
   k (.pointer (some ⟨n,0,none⟩)) ((H.set n (some (.cells [.int .i64 0,.int .i64 0] 55 false none))).set n (some (.cells [.int .i64 u,.int .i64 w] 55 false none))) (n+1):=by
 rw[jw zero55,ptr,qdz,lW (c:=[.int .i64 0,.int .i64 0]) (vs:=[.int .i64 u,.int .i64 w]) (e:=55) (vec:=none) (by rw[Tr.get_set,if_pos rfl]; rfl) rfl rfl]
 rfl
theorem XJ{H:Hp}{n:Nat}{a b:Option Blk}:Keep n H ((H.set n a).set n b):=((Keep.refl n H).set (Nat.le_refl _) _).set (Nat.le_refl _) _
theorem some_loop(l k:Nat){np nj nk:Nat}{ps js ks:List Int}(hnj:nj≤KK)(hnp:np≤100)(kind:Nat)(hk:kind<nk)(at_ pad number:Int)(hn:0≤number∧number≤1000)(hs:IV ks nk)(g:Nat)(x y z:Value) :
  ∀(m i:Nat) (H:Hp) (n:Nat),g<n→aW H g 0 [x,y,z]→GroveI H n (.agg ⟨[x,y,z]⟩) np nj nk ps js ks→i≤np→np-i≤m →
  ∃ r,Ret (S64_1 (cal (l+2)) k m (.int .i64 kind) (.int .i64 at_) (.int .i64 pad) (.int .i64 number) (.pointer (some ⟨g,0,none⟩)) (.int .i64 (number+lows js ks nj kind at_ pad i)) (.int .i64 (number+vz js ks nj kind at_ pad i)) (.int .i64 i) H n) n H (.bool r) ∧
   (r=true↔Mx js ks nj np kind at_ pad number):=by
 have body:∀(b1:Value→Value→Value→Value→Value→Value→Value→Value→Hp→Nat→Res) (m i:Nat) (H:Hp) (n:Nat),g<n→aW H g 0 [x,y,z]→GroveI H n (.agg ⟨[x,y,z]⟩) np nj nk ps js ks→i≤np →
   (∀ H' n',n≤n'→Keep n H H'→i<np→∃ r,Ret (b1 (.int .i64 kind) (.int .i64 at_) (.int .i64 pad) (.int .i64 number) (.pointer (some ⟨g,0,none⟩)) (.int .i64 (number+lows js ks nj kind at_ pad (i+1))) (.int .i64 (number+vz js ks nj kind at_ pad (i+1))) (.int .i64 ((i+1:Nat):Int)) H' n') n' H' (.bool r) ∧
    (r=true↔Mx js ks nj np kind at_ pad number)) →
   ∃ r,Ret (C64_1 (cal (l+2)) k m b1 (.int .i64 kind) (.int .i64 at_) (.int .i64 pad) (.int .i64 number) (.pointer (some ⟨g,0,none⟩)) (.int .i64 (number+lows js ks nj kind at_ pad i)) (.int .i64 (number+vz js ks nj kind at_ pad i)) (.int .i64 i) H n) n H (.bool r) ∧
    (r=true↔Mx js ks nj np kind at_ pad number):=by
  intro b1 m i H n hgn hg hgr hi ih
  obtain⟨x',y',z',hxyz,h1,h2,h3⟩:=hgr.eq
  cases hxyz
  have hl:az P H 22 ⟨g,0+0,none⟩=some x:=bq hg Sj rfl h1.hole.1 h1.hole.2
  have hlen:lenV P 22 x=some (.int .i64 np):=h1.len_eq Mw
  have h26:=KV hg h1.hole.1 h2.hole.1 h3.hole.1
  obtain⟨b1s,b2s,b3s⟩:=Tj (js:=js) (nj:=nj) hs hk at_ pad i
  unfold C64_1 B64_1
  simp only[Fq,aj,ak,hl,hlen,ax cJ,gw,h26]
  by_cases hlt:i<np
  ·rw[if_pos (by omega)]
   obtain⟨H1,n1,e,e2,e3⟩:=KQ (ρ:=Value × Hp × Nat) l hgr hnj kind hk at_ i
   rw[e,box55]
   have hk55:=XJ (H:=H1) (n:=n1) (a:=some (.cells [.int .i64 0,.int .i64 0] 55 false none)) (b:=some (.cells [.int .i64 (cq js ks nj kind at_ i).1,.int .i64 (cq js ks nj kind at_ i).2] 55 false none))
   have hnew:=aW.new (H:=H1.set n1 (some (.cells [.int .i64 0,.int .i64 0] 55 false none))) (n:=n1) (vs:=[.int .i64 (cq js ks nj kind at_ i).1,.int .i64 (cq js ks nj kind at_ i).2]) (e:=55) (ro:=false) (vec:=none)
   generalize (H1.set n1 (some (.cells [.int .i64 0,.int .i64 0] 55 false none))).set n1 (some (.cells [.int .i64 (cq js ks nj kind at_ i).1,.int .i64 (cq js ks nj kind at_ i).2] 55 false none))=H2 at hk55 hnew ⊢
   have hkk:Keep n H H2:=e3.trans hk55 e2
   obtain⟨r,⟨H',n',q1,q2,q3⟩,q4⟩:=ih H2 (n1+1) (by omega) hkk hlt
   have hI:I64 ((i:Int)+1):=by unfold I64; omega
   have hcast:((i:Int)+1)=((i+1:Nat):Int):=by omega
   have l0:az P H2 3 ⟨n1,0+0,none⟩=some (.int .i64 (cq js ks nj kind at_ i).1):=bj hnew agg3 rfl
   have l1:az P H2 3 ⟨n1,0+1,none⟩=some (.int .i64 (cq js ks nj kind at_ i).2):=bj hnew agg3 rfl
   obtain⟨r1,r2,r3⟩:=tK (js:=js) (nj:=nj) hs hk at_ i
   by_cases c:(i:Int)=pad
   ·have el:lows js ks nj kind at_ pad (i+1)=lows js ks nj kind at_ pad i:=by simp only[lows]; rw[if_pos c]; omega
    have eh:vz js ks nj kind at_ pad (i+1)=vz js ks nj kind at_ pad i:=by simp only[vz]; rw[if_pos c]; omega
    rw[el,eh] at q1
    simp only[ax iV,decide_eq_true c,Bool.not_true,ez,C64_2,B64_2,ax (bk hI),hcast]
    exact⟨r,⟨H',n',q1,by omega,hkk.trans q3 (by omega)⟩,q4⟩
   ·have el:lows js ks nj kind at_ pad (i+1)=lows js ks nj kind at_ pad i+(cq js ks nj kind at_ i).1:=by simp only[lows]; rw[if_neg c]
    have eh:vz js ks nj kind at_ pad (i+1)=vz js ks nj kind at_ pad i+(cq js ks nj kind at_ i).2:=by simp only[vz]; rw[if_neg c]
    rw[el,eh,← Int.add_assoc,← Int.add_assoc] at q1
    have hA:I64 (number+lows js ks nj kind at_ pad i+(cq js ks nj kind at_ i).1):=by unfold I64; omega
    have hB:I64 (number+vz js ks nj kind at_ pad i+(cq js ks nj kind at_ i).2):=by unfold I64; omega
    simp only[ax iV,decide_eq_false c,Bool.not_false,fX,Ny,Nz,aj,ak,l0,l1,ax (bk hA),ax (bk hB),C64_2,B64_2,ax (bk hI),hcast]
    exact⟨r,⟨H',n',q1,by omega,hkk.trans q3 (by omega)⟩,q4⟩
  ·rw[if_neg (by omega)]
   have hi':i=np:=by omega
   subst hi'
   obtain⟨H1,n1,e,e2,e3⟩:=KQ (ρ:=Value × Hp × Nat) l hgr hnj kind hk at_ pad
   rw[e,box55]
   have hk55:=XJ (H:=H1) (n:=n1) (a:=some (.cells [.int .i64 0,.int .i64 0] 55 false none)) (b:=some (.cells [.int .i64 (cq js ks nj kind at_ pad).1,.int .i64 (cq js ks nj kind at_ pad).2] 55 false none))
   have hnew:=aW.new (H:=H1.set n1 (some (.cells [.int .i64 0,.int .i64 0] 55 false none))) (n:=n1) (vs:=[.int .i64 (cq js ks nj kind at_ pad).1,.int .i64 (cq js ks nj kind at_ pad).2]) (e:=55) (ro:=false) (vec:=none)
   generalize (H1.set n1 (some (.cells [.int .i64 0,.int .i64 0] 55 false none))).set n1 (some (.cells [.int .i64 (cq js ks nj kind at_ pad).1,.int .i64 (cq js ks nj kind at_ pad).2] 55 false none))=H2 at hk55 hnew ⊢
   have hkk:Keep n H H2:=e3.trans hk55 e2
   have l0:az P H2 3 ⟨n1,0+0,none⟩=some (.int .i64 (cq js ks nj kind at_ pad).1):=bj hnew agg3 rfl
   have l1:az P H2 3 ⟨n1,0+1,none⟩=some (.int .i64 (cq js ks nj kind at_ pad).2):=bj hnew agg3 rfl
   have hz:az P H2 24 ⟨g,0+2,none⟩=some z:=bq (hg.keep hkk hgn) Mv rfl h3.hole.1 h3.hole.2
   obtain⟨bb,o,hix,hbn,hc⟩:=((h3.keep hkk (Nat.le_refl _)).up (show n≤n1+1 by omega)).at_ IQ sz94 hk
   have hlen5:kind * 5+5≤ks.length:=by rw[h3.1]; omega
   have hy:az P H2 3 ⟨bb,o+kind * 5+0,none⟩=some (.int .i64 (ks.getD (kind * 5) 0)):=by
    rw[show o+kind * 5+0=o+kind * 5 by omega]
    exact bj hc agg3 (gQ (by rw[List.getD_eq_getElem?_getD,List.getElem?_eq_getElem (show kind * 5<ks.length by omega)]; rfl))
   simp only[Ny,Nz,aj,ak,l0,l1]
   rw[DJ (l+1)]
   unfold Mx
   cases c1:decide ((cq js ks nj kind at_ pad).1≤number∧number≤(cq js ks nj kind at_ pad).2) with
   | true=>
    have c1:=of_decide_eq_true c1
    simp only[dk,Dq,aj,ak,hz,hix,fa94_0,hy]
    rw[DJ (l+1)]
    simp only[dw,aj]
    exact⟨_,⟨H2,n1+1,rfl,by omega,hkk⟩,by simp [c1]⟩
   | false=>
    have c1:=of_decide_eq_false c1
    simp only[eJ,dQ,aj]
    exact⟨_,⟨H2,n1+1,rfl,by omega,hkk⟩,by simp [c1]⟩
 intro m
 induction m with
 | zero=>
  intro i H n h1 h2 h3 h4 h5
  exact body _ 0 i H n h1 h2 h3 h4 (fun _ _ _ _ h=>by omega)
 | succ m ih=>
  intro i H n h1 h2 h3 h4 h5
  exact body _ (m+1) i H n h1 h2 h3 h4 (fun H' n' q1 q2 q3=>ih (i+1) H' n' (by omega) (h2.keep q2 h1) (h3.keep q2 q1) (by omega) (by omega))
theorem some_spec(l:Nat){np nj nk:Nat}{ps js ks:List Int}(hnj:nj≤KK)(hnp:np≤100)(kind:Nat)(hk:kind<nk)(at_ pad number:Int)(hn:0≤number∧number≤1000)(hs:IV ks nk)
  {H:Hp} {n:Nat} {v:Value} (hg:GroveI H n v np nj nk ps js ks) :
  ∃ r,Ret (C64_0 (cal (l+2)) KK v (.int .i64 kind) (.int .i64 at_) (.int .i64 pad) (.int .i64 number) H n) n H (.bool r)∧(r=true↔Mx js ks nj np kind at_ pad number):=by
 have hg0:=hg
 obtain⟨x,y,z,rfl,h1,h2,h3⟩:=hg.eq
 unfold C64_0 B64_0
 simp only[dZ,aZ,ptr]
 have hkeep:Keep n H (H.set n (some (.cells [x,y,z] 26 false none))):=(Keep.refl n H).set (Nat.le_refl _) _
 obtain⟨r,⟨H',n',e1,e2,e3⟩,e4⟩:=some_loop l KK hnj hnp kind hk at_ pad number hn hs n x y z KK 0 (H.set n (some (.cells [x,y,z] 26 false none))) (n+1) (by omega) aW.new (hg0.keep hkeep (by omega)) (by omega) (by unfold KK; omega)
 simp only[lows,vz,Int.add_zero] at e1
 exact⟨r,⟨H',n',e1,by omega,hkeep.trans e3 (by omega)⟩,e4⟩
theorem call64(l:Nat)(a b c d e:Value)(H:Hp)(n:Nat):(cal (l+1)).call 64 [a,b,c,d,e] H n=C64_0 (cal l) KK a b c d e H n:=by kernel_rfl
theorem some_call(l:Nat){ρ:Type}{np nj nk:Nat}{ps js ks:List Int}(hnj:nj≤KK)(hnp:np≤100)(kind:Nat)(hk:kind<nk)(at_ pad number:Int)(hn:0≤number∧number≤1000)(hs:IV ks nk)
  {H:Hp} {n:Nat} {v:Value} (hg:GroveI H n v np nj nk ps js ks) :
  ∃(r:Bool) (H':Hp) (n':Nat),(r=true↔Mx js ks nj np kind at_ pad number)∧(∀ k:Value→Hp→Nat→Option ρ,aX P (cal (l+3)) 64 [v,.int .i64 kind,.int .i64 at_,.int .i64 pad,.int .i64 number] H n k=k (.bool r) H' n')∧n≤n'∧Keep n H H':=by
 obtain⟨r,H',n',⟨b,rfl,hb⟩,e1,e2,e3⟩:=eZ (ρ:=ρ) (P:=P) (cal:=cal (l+3)) (f:=64) (args:=[v,.int .i64 kind,.int .i64 at_,.int .i64 pad,.int .i64 number]) (H:=H) (n:=n)
  (Pre:=fun H n=>GroveI H n v np nj nk ps js ks) (Q:=fun r=>∃ b:Bool,r=.bool b∧(b=true↔Mx js ks nj np kind at_ pad number))
  (fun H n h=>by
   obtain⟨r,h1,h2⟩:=some_spec l hnj hnp kind hk at_ pad number hn hs h
   exact⟨.bool r,by rw[call64]; exact h1,r,rfl,h2⟩) (fun r ⟨b,e,_⟩ _=>by subst e; rfl) hg (fun hp=>hg.nil (by simp only[ck,Bool.and_eq_true] at hp; exact hp.1))
 exact⟨b,H',n',hb,e1,e2,e3⟩
theorem kind_at{H:Hp}{n nk kind:Nat}{ks:List Int}{z:Value}(hz:SliceI H n 5 z nk ks)(hk:kind<nk) :
  ∃ b o,aJ P 24 z (.int .i64 kind)=some (.pointer (some ⟨b,o,none⟩))∧∀ j,j<5→az P H 3 ⟨b,o+j,none⟩=some (.int .i64 (ks.getD (kind * 5+j) 0)):=by
 obtain⟨b,o,hix,hbn,hc⟩:=hz.at_ IQ sz94 hk
 refine⟨b,o+kind * 5,hix,fun j hj=>?_⟩
 have hlen:kind * 5+5≤ks.length:=by rw[hz.1]; omega
 rw[show o+kind * 5+j=o+(kind * 5+j) by omega]
 exact bj hc agg3 (gQ (by rw[List.getD_eq_getElem?_getD,List.getElem?_eq_getElem (show kind * 5+j<ks.length by omega)]; rfl))
noncomputable def fitsB(js ks:List Int)(nj np kind:Nat)(at_:Int):Prop:=∃ m:Int,ks.getD (kind * 5+1) 0≤m∧m≤ks.getD (kind * 5+2) 0∧Mx js ks nj np kind at_ at_ m
theorem fits_loop(l k:Nat){np nj nk:Nat}{ps js ks:List Int}(hnj:nj≤KK)(hnp:np≤100)(kind:Nat)(hk:kind<nk)(at_:Int)(hs:IV ks nk)(g:Nat)(x y z:Value) :
  ∀(m:Nat) (a:Int) (H:Hp) (n:Nat),g<n→aW H g 0 [x,y,z]→GroveI H n (.agg ⟨[x,y,z]⟩) np nj nk ps js ks→0≤a→a≤ks.getD (kind * 5+2) 0+1→ks.getD (kind * 5+2) 0+1-a≤m →
  ∃ r,Ret (S21_1 (cal (l+3)) k m (.int .i64 kind) (.int .i64 at_) (.pointer (some ⟨g,0,none⟩)) (.int .i64 a) H n) n H (.bool r) ∧
   (r=true↔∃ b:Int,a≤b∧b≤ks.getD (kind * 5+2) 0∧Mx js ks nj np kind at_ at_ b):=by
 obtain⟨_,_,_,_,hi1000,_,_,_⟩:=hs kind hk
 have body:∀(b1:Value→Value→Value→Value→Hp→Nat→Res) (m:Nat) (a:Int) (H:Hp) (n:Nat),g<n→aW H g 0 [x,y,z]→GroveI H n (.agg ⟨[x,y,z]⟩) np nj nk ps js ks→0≤a →
   (∀ H' n',n≤n'→Keep n H H'→a≤ks.getD (kind * 5+2) 0→∃ r,Ret (b1 (.int .i64 kind) (.int .i64 at_) (.pointer (some ⟨g,0,none⟩)) (.int .i64 (a+1)) H' n') n' H' (.bool r) ∧
    (r=true↔∃ b:Int,a+1≤b∧b≤ks.getD (kind * 5+2) 0∧Mx js ks nj np kind at_ at_ b)) →
   ∃ r,Ret (C21_1 (cal (l+3)) k m b1 (.int .i64 kind) (.int .i64 at_) (.pointer (some ⟨g,0,none⟩)) (.int .i64 a) H n) n H (.bool r) ∧
    (r=true↔∃ b:Int,a≤b∧b≤ks.getD (kind * 5+2) 0∧Mx js ks nj np kind at_ at_ b):=by
  intro b1 m a H n hgn hg hgr ha ih
  obtain⟨x',y',z',hxyz,h1,h2,h3⟩:=hgr.eq
  cases hxyz
  have hz:az P H 24 ⟨g,0+2,none⟩=some z:=bq hg Mv rfl h3.hole.1 h3.hole.2
  have h26:=KV hg h1.hole.1 h2.hole.1 h3.hole.1
  obtain⟨b,o,hix,hld⟩:=kind_at h3 hk
  unfold C21_1 B21_1
  simp only[Dq,aj,ak,hz,hix,fa94_1,Nz,hld 2 (by omega),ax wW,gw,h26]
  by_cases hle:a≤ks.getD (kind * 5+2) 0
  ·rw[if_pos hle]
   obtain⟨r,H1,n1,hr,e,e2,e3⟩:=some_call (ρ:=Value × Hp × Nat) l hnj hnp kind hk at_ at_ a (by omega) hs hgr
   rw[e]
   cases r with
   | true=>exact⟨true,⟨H1,n1,rfl,e2,e3⟩,⟨fun _=>⟨a,Int.le_refl _,hle,hr.1 rfl⟩,fun _=>rfl⟩⟩
   | false=>
    have hI:I64 (a+1):=by unfold I64; omega
    simp only[ez,ax (bk hI)]
    obtain⟨r,⟨H',n',q1,q2,q3⟩,q4⟩:=ih H1 n1 e2 e3 hle
    refine⟨r,⟨H',n',q1,by omega,e3.trans q3 e2⟩,q4.trans ⟨fun⟨b,c1,c2,c3⟩=>⟨b,by omega,c2,c3⟩,fun⟨b,c1,c2,c3⟩=>⟨b,?_,c2,c3⟩⟩⟩
    rcases Int.lt_or_eq_of_le c1 with q | q
    ·omega
    ·subst q; cases hr.2 c3
  ·rw[if_neg hle]
   exact⟨false,⟨H,n,rfl,Nat.le_refl _,Keep.refl _ _⟩,⟨fun h=>(by cases h),fun⟨b,c1,c2,_⟩=>by omega⟩⟩
 intro m
 induction m with
 | zero=>
  intro a H n h1 h2 h3 h4 h5 h6
  exact body _ 0 a H n h1 h2 h3 h4 (fun _ _ _ _ h=>by omega)
 | succ m ih=>
  intro a H n h1 h2 h3 h4 h5 h6
  exact body _ (m+1) a H n h1 h2 h3 h4 (fun H' n' q1 q2 q3=>ih (a+1) H' n' (by omega) (h2.keep q2 h1) (h3.keep q2 q1) (by omega) (by omega) (by omega))
theorem fits_spec(l:Nat){np nj nk:Nat}{ps js ks:List Int}(hnj:nj≤KK)(hnp:np≤100)(kind:Nat)(hk:kind<nk)(at_:Int)(hs:IV ks nk)
  {H:Hp} {n:Nat} {v:Value} (hg:GroveI H n v np nj nk ps js ks) :
  ∃ r,Ret (C21_0 (cal (l+3)) KK v (.int .i64 kind) (.int .i64 at_) H n) n H (.bool r)∧(r=true↔fitsB js ks nj np kind at_):=by
 have hg0:=hg
 obtain⟨x,y,z,rfl,h1,h2,h3⟩:=hg.eq
 obtain⟨_,_,lo0,lohi,hi1000,_,_,_⟩:=hs kind hk
 unfold C21_0 B21_0
 simp only[dZ,aZ,ptr]
 have hkeep:Keep n H (H.set n (some (.cells [x,y,z] 26 false none))):=(Keep.refl n H).set (Nat.le_refl _) _
 have hbox:aW (H.set n (some (.cells [x,y,z] 26 false none))) n 0 [x,y,z]:=aW.new
 have hgr:=hg0.keep hkeep (show n≤n+1 by omega)
 have s3:SliceI (H.set n (some (.cells [x,y,z] 26 false none))) (n+1) 5 z nk ks:=(h3.keep hkeep (Nat.le_refl _)).up (by omega)
 generalize H.set n (some (.cells [x,y,z] 26 false none))=H1 at hkeep hbox hgr s3 ⊢
 have hz:az P H1 24 ⟨n,0+2,none⟩=some z:=bq hbox Mv rfl h3.hole.1 h3.hole.2
 obtain⟨b,o,hix,hld⟩:=kind_at s3 hk
 simp only[Dq,aj,ak,hz,hix,fa94_1,Ny,hld 1 (by omega),Nat.add_zero]
 obtain⟨r,⟨H',n',e1,e2,e3⟩,e4⟩:=fits_loop l KK hnj hnp kind hk at_ hs n x y z KK (ks.getD (kind * 5+1) 0) H1 (n+1) (by omega) hbox hgr lo0 (by omega) (by unfold KK; omega)
 exact⟨r,⟨H',n',e1,by omega,hkeep.trans e3 (by omega)⟩,e4⟩
theorem flatK104:Iv P 102=some 2:=by kernel_rfl
theorem eqG104:P.eqGuardType P.depth 102=false:=by kernel_rfl
theorem eq104(p q:Operand)(x y a b:Int):binV P .eql 102 p q (.agg ⟨[.int .i64 x,.int .i64 y]⟩) (.agg ⟨[.int .i64 a,.int .i64 b]⟩)=some (.bool (decide (x=a) && decide (y=b))):=by
 have h0:yW .eql (.agg ⟨[.int .i64 x,.int .i64 y]⟩) (.agg ⟨[.int .i64 a,.int .i64 b]⟩)=none:=rfl
 have h1:(bw (.agg ⟨[.int .i64 x,.int .i64 y]⟩) && bw (.agg ⟨[.int .i64 a,.int .i64 b]⟩))=true:=rfl
 have h2:nW [.int .i64 x,.int .i64 y] [.int .i64 a,.int .i64 b]=some (decide (x=a) && decide (y=b)):=by
  simp only[nW,decide_true]
  cases decide (x=a) <;> cases decide (y=b) <;> rfl
 unfold binV
 rw[h0]
 unfold Gy
 simp only[h1,EQ,aggEq,flatK104,eqG104,List.length_cons,List.length_nil,h2]
 rfl
theorem fault_inner(c:Cal)(k m1:Nat)(b3:Value→Value→Hp→Nat→Res)(g gi nj i:Nat)(a b:Int)(js:List Int)(sp sj sk:Value):∀(m j:Nat) (H:Hp) (n:Nat),g<n→gi<n→aW H g 0 [sp,sj,sk]→aW H gi 0 [.int .i64 a,.int .i64 b] →
  SliceI H n 2 sj nj js→i<nj→j≤i→i-j≤m→I64 ((i:Int)+1) →
  ((∃ q,j≤q∧q<i∧J js a b q)∧Ret (S63_4 c k m1 b3 m (.pointer (some ⟨g,0,none⟩)) (.int .i64 i) (.pointer (some ⟨gi,0,none⟩)) (.int .i64 j) H n) n H (.int .i64 1)) ∨
  ((¬ ∃ q,j≤q∧q<i∧J js a b q)∧∃ H1 n1,S63_4 c k m1 b3 m (.pointer (some ⟨g,0,none⟩)) (.int .i64 i) (.pointer (some ⟨gi,0,none⟩)) (.int .i64 j) H n=b3 (.pointer (some ⟨g,0,none⟩)) (.int .i64 ((i+1:Nat):Int)) H1 n1∧n≤n1∧Keep n H H1):=by
 have body:∀(b4:Value→Value→Value→Value→Hp→Nat→Res) (m j:Nat) (H:Hp) (n:Nat),g<n→gi<n→aW H g 0 [sp,sj,sk]→aW H gi 0 [.int .i64 a,.int .i64 b] →
   SliceI H n 2 sj nj js→i<nj→j≤i→I64 ((i:Int)+1) →
   (∀ H' n',n≤n'→Keep n H H'→j<i →
    ((∃ q,j+1≤q∧q<i∧J js a b q)∧Ret (b4 (.pointer (some ⟨g,0,none⟩)) (.int .i64 i) (.pointer (some ⟨gi,0,none⟩)) (.int .i64 ((j+1:Nat):Int)) H' n') n' H' (.int .i64 1)) ∨
    ((¬ ∃ q,j+1≤q∧q<i∧J js a b q)∧∃ H1 n1,b4 (.pointer (some ⟨g,0,none⟩)) (.int .i64 i) (.pointer (some ⟨gi,0,none⟩)) (.int .i64 ((j+1:Nat):Int)) H' n'=b3 (.pointer (some ⟨g,0,none⟩)) (.int .i64 ((i+1:Nat):Int)) H1 n1∧n'≤n1∧Keep n' H' H1)) →
   ((∃ q,j≤q∧q<i∧J js a b q)∧Ret (C63_4 c k m1 m b3 b4 (.pointer (some ⟨g,0,none⟩)) (.int .i64 i) (.pointer (some ⟨gi,0,none⟩)) (.int .i64 j) H n) n H (.int .i64 1)) ∨
   ((¬ ∃ q,j≤q∧q<i∧J js a b q)∧∃ H1 n1,C63_4 c k m1 m b3 b4 (.pointer (some ⟨g,0,none⟩)) (.int .i64 i) (.pointer (some ⟨gi,0,none⟩)) (.int .i64 j) H n=b3 (.pointer (some ⟨g,0,none⟩)) (.int .i64 ((i+1:Nat):Int)) H1 n1∧n≤n1∧Keep n H H1):=by
  intro b4 m j H n hgn hgin hg hgi hj hinj hji hI1 ih
  have hcast1:((i:Int)+1)=((i+1:Nat):Int):=by omega
  unfold C63_4 B63_4
  simp only[ax cJ,gw]
  by_cases hlt:j<i
  ·rw[if_pos (by omega)]
   have hl:az P H 23 ⟨g,0+1,none⟩=some sj:=bq hg agg23 rfl hj.hole.1 hj.hole.2
   obtain⟨bb,o,hix,hbn,hc⟩:=hj.at_ UV UQ (show j<nj by omega)
   have hlen2:j * 2+2≤js.length:=by rw[hj.1]; omega
   obtain⟨x,y,hx,hy,hxy⟩:=UW hlen2
   have hld:az P H 102 ⟨bb,o+j * 2,none⟩=some (.agg ⟨[.int .i64 x,.int .i64 y]⟩):=by
    rw[cw hc agg104 UQ (by rw[bv]; exact hlen2) (dY _),hxy]
   simp only[Xy,aj,ak,hl,hix,hld,jw zero104,ptr,qjw,aZ]
   have hst:=lW (H:=H.set n (some (.cells [.int .i64 0,.int .i64 0] 102 false none))) (b:=n) (c:=[.int .i64 0,.int .i64 0]) (vs:=[.int .i64 x,.int .i64 y]) (e:=102) (vec:=none) (by rw[Tr.get_set,if_pos rfl]) rfl rfl
   rw[hst]
   have hk:Keep n H ((H.set n (some (.cells [.int .i64 0,.int .i64 0] 102 false none))).set n (some (.cells [.int .i64 x,.int .i64 y] 102 false none))):=XJ
   have hnew:=aW.new (H:=H.set n (some (.cells [.int .i64 0,.int .i64 0] 102 false none))) (n:=n) (vs:=[.int .i64 x,.int .i64 y]) (e:=102) (ro:=false) (vec:=none)
   generalize (H.set n (some (.cells [.int .i64 0,.int .i64 0] 102 false none))).set n (some (.cells [.int .i64 x,.int .i64 y] 102 false none))=H2 at hk hnew ⊢
   have g2:=hgi.keep hk hgin
   have lxy:az P H2 102 ⟨n,0,none⟩=some (.agg ⟨[.int .i64 x,.int .i64 y]⟩):=cw (o:=0) (k:=0) hnew agg104 UQ (by simp) rfl
   have lab:az P H2 102 ⟨gi,0,none⟩=some (.agg ⟨[.int .i64 a,.int .i64 b]⟩):=cw (o:=0) (k:=0) g2 agg104 UQ (by simp) rfl
   have l0:az P H2 3 ⟨n,0+0,none⟩=some (.int .i64 x):=bj hnew agg3 rfl
   have l1:az P H2 3 ⟨n,0+1,none⟩=some (.int .i64 y):=bj hnew agg3 rfl
   have l2:az P H2 3 ⟨gi,0+0,none⟩=some (.int .i64 a):=bj g2 agg3 rfl
   have l3:az P H2 3 ⟨gi,0+1,none⟩=some (.int .i64 b):=bj g2 agg3 rfl
   have hI:I64 ((j:Int)+1):=by unfold I64 at hI1 ⊢; omega
   have hcast:((j:Int)+1)=((j+1:Nat):Int):=by omega
   have hJ:J js a b j↔(decide (x=a)=true∧decide (y=b)=true)∨(decide (x=b)=true∧decide (y=a)=true):=by
    unfold J; rw[hx,hy]; simp
   have yes:J js a b j→∃ q,j≤q∧q<i∧J js a b q:=fun h=>⟨j,Nat.le_refl _,hlt,h⟩
   have next:=ih H2 (n+1) (by omega) hk hlt
   simp only[aj,lxy,lab,ax (eq104 ..)]
   have yes2:J js a b j→((∃ q,j≤q∧q<i∧J js a b q)∧Ret (some (Value.int .i64 1,H2,n+1)) n H (.int .i64 1)):=fun h=>⟨yes h,H2,n+1,rfl,by omega,hk⟩
   have go:¬ J js a b j→((∃ q,j≤q∧q<i∧J js a b q)∧Ret (b4 (.pointer (some ⟨g,0,none⟩)) (.int .i64 i) (.pointer (some ⟨gi,0,none⟩)) (.int .i64 ((j+1:Nat):Int)) H2 (n+1)) n H (.int .i64 1)) ∨
     ((¬ ∃ q,j≤q∧q<i∧J js a b q)∧∃ H1 n1,b4 (.pointer (some ⟨g,0,none⟩)) (.int .i64 i) (.pointer (some ⟨gi,0,none⟩)) (.int .i64 ((j+1:Nat):Int)) H2 (n+1)=b3 (.pointer (some ⟨g,0,none⟩)) (.int .i64 ((i+1:Nat):Int)) H1 n1∧n≤n1∧Keep n H H1):=by
    intro hno
    rcases next with⟨⟨q,q1,q2,q3⟩,H',n',e1,e2,e3⟩ | ⟨hnone,H1,n1,e1,e2,e3⟩
    ·exact .inl ⟨⟨q,by omega,q2,q3⟩,H',n',e1,by omega,hk.trans e3 (by omega)⟩
    ·refine .inr ⟨fun⟨q,q1,q2,q3⟩=>?_,H1,n1,e1,by omega,hk.trans e3 (by omega)⟩
     rcases Nat.eq_or_lt_of_le q1 with z | z
     ·subst z; exact hno q3
     ·exact hnone ⟨q,z,q2,q3⟩
   cases c1:decide (x=a) <;> cases c2:decide (y=b) <;> cases c3:decide (x=b) <;> cases c4:decide (y=a) <;>
    simp only[c1,c2,c3,c4,Bool.and_true,Bool.and_false,Bool.true_and,Bool.false_and,Bool.and_self,dk,nq,nw,eJ,jk,aj,ak,l0,l1,l2,l3,ax jY,ax (bk hI),dw,dQ,fX,ez,PK,Qj,hcast] <;>
    rw[c1,c2,c3,c4] at hJ <;> first | exact go (by rw[hJ]; simp) | exact .inl (yes2 (by rw[hJ]; simp))
  ·rw[if_neg (by omega)]
   simp only[ax (bk hI1),hcast1]
   exact .inr ⟨fun⟨q,h1,h2,_⟩=>by omega,H,n,rfl,Nat.le_refl _,Keep.refl _ _⟩
 intro m
 induction m with
 | zero=>
  intro j H n h1 h2 h3 h4 h5 h6 h7 h8 h9
  exact body _ 0 j H n h1 h2 h3 h4 h5 h6 h7 h9 (fun _ _ _ _ h=>by omega)
 | succ m ih=>
  intro j H n h1 h2 h3 h4 h5 h6 h7 h8 h9
  exact body _ (m+1) j H n h1 h2 h3 h4 h5 h6 h7 h9 (fun H' n' q1 q2 q3=>ih (j+1) H' n' (by omega) (by omega) (h3.keep q2 h1) (h4.keep q2 h2) ((h5.keep q2 (Nat.le_refl _)).up q1) h6 (by omega) (by omega) h9)
theorem qK:dX P (.bool true) (Op.unary .not (.bool true))=some (.bool false):=by kernel_rfl
theorem tv:dX P (.bool false) (Op.unary .not (.bool false))=some (.bool true):=by kernel_rfl
def JBad(js:List Int)(np:Nat)(i:Nat):Prop:=∃ a b,js[i * 2]?=some a∧js[i * 2+1]?=some b ∧
 (¬ (0≤a∧a≤(np:Int)-1)∨¬ (0≤b∧b≤(np:Int)-1)∨a=b∨∃ q,0≤q∧q<i∧J js a b q)
theorem fault_joins(l k:Nat)(g np nj nk:Nat)(ps js ks:List Int)(sp sj sk:Value)(hnp:np≤100)(hnj:nj≤100):∀(m i:Nat) (H:Hp) (n:Nat),g<n→aW H g 0 [sp,sj,sk]→SliceI H n 2 sp np ps→SliceI H n 2 sj nj js →
  i≤nj→2 * nj-i≤m →
  ((∃ q,i≤q∧q<nj∧JBad js np q)∧Ret (S63_3 (cal (l+1)) k m (.pointer (some ⟨g,0,none⟩)) (.int .i64 i) H n) n H (.int .i64 1)) ∨
  ((¬ ∃ q,i≤q∧q<nj∧JBad js np q)∧Ret (S63_3 (cal (l+1)) k m (.pointer (some ⟨g,0,none⟩)) (.int .i64 i) H n) n H (.int .i64 0)):=by
 have body:∀(b3:Value→Value→Hp→Nat→Res) (m i:Nat) (H:Hp) (n:Nat),g<n→aW H g 0 [sp,sj,sk]→SliceI H n 2 sp np ps→SliceI H n 2 sj nj js→i≤nj→i≤m →
   (∀ H' n',n≤n'→Keep n H H'→i<nj →
    ((∃ q,i+1≤q∧q<nj∧JBad js np q)∧Ret (b3 (.pointer (some ⟨g,0,none⟩)) (.int .i64 ((i+1:Nat):Int)) H' n') n' H' (.int .i64 1)) ∨
    ((¬ ∃ q,i+1≤q∧q<nj∧JBad js np q)∧Ret (b3 (.pointer (some ⟨g,0,none⟩)) (.int .i64 ((i+1:Nat):Int)) H' n') n' H' (.int .i64 0))) →
   ((∃ q,i≤q∧q<nj∧JBad js np q)∧Ret (C63_3 (cal (l+1)) k m b3 (.pointer (some ⟨g,0,none⟩)) (.int .i64 i) H n) n H (.int .i64 1)) ∨
   ((¬ ∃ q,i≤q∧q<nj∧JBad js np q)∧Ret (C63_3 (cal (l+1)) k m b3 (.pointer (some ⟨g,0,none⟩)) (.int .i64 i) H n) n H (.int .i64 0)):=by
  intro b3 m i H n hgn hg hp hj hi him ih
  have hl:az P H 23 ⟨g,0+1,none⟩=some sj:=bq hg agg23 rfl hj.hole.1 hj.hole.2
  have hlen:lenV P 23 sj=some (.int .i64 nj):=hj.len_eq UV
  unfold C63_3 B63_3
  simp only[Xy,aj,ak,hl,hlen,ax cJ,gw]
  by_cases hlt:i<nj
  ·rw[if_pos (by omega)]
   obtain⟨bb,o,hix,hbn,hc⟩:=hj.at_ UV UQ hlt
   have hlen2:i * 2+2≤js.length:=by rw[hj.1]; omega
   obtain⟨x,y,hx,hy,hxy⟩:=UW hlen2
   have hld:az P H 102 ⟨bb,o+i * 2,none⟩=some (.agg ⟨[.int .i64 x,.int .i64 y]⟩):=by
    rw[cw hc agg104 UQ (by rw[bv]; exact hlen2) (dY _),hxy]
   simp only[hix,aj,ak,hld,jw zero104,ptr,qjw,aZ]
   have hst:=lW (H:=H.set n (some (.cells [.int .i64 0,.int .i64 0] 102 false none))) (b:=n) (c:=[.int .i64 0,.int .i64 0]) (vs:=[.int .i64 x,.int .i64 y]) (e:=102) (vec:=none) (by rw[Tr.get_set,if_pos rfl]) rfl rfl
   rw[hst]
   have hk:Keep n H ((H.set n (some (.cells [.int .i64 0,.int .i64 0] 102 false none))).set n (some (.cells [.int .i64 x,.int .i64 y] 102 false none))):=XJ
   have hnew:=aW.new (H:=H.set n (some (.cells [.int .i64 0,.int .i64 0] 102 false none))) (n:=n) (vs:=[.int .i64 x,.int .i64 y]) (e:=102) (ro:=false) (vec:=none)
   generalize (H.set n (some (.cells [.int .i64 0,.int .i64 0] 102 false none))).set n (some (.cells [.int .i64 x,.int .i64 y] 102 false none))=H2 at hk hnew ⊢
   have g2:=hg.keep hk hgn
   have j2:=(hj.keep hk (Nat.le_refl _)).up (show n≤n+1 by omega)
   have l0:az P H2 3 ⟨n,0+0,none⟩=some (.int .i64 x):=bj hnew agg3 rfl
   have l1:az P H2 3 ⟨n,0+1,none⟩=some (.int .i64 y):=bj hnew agg3 rfl
   have lp:az P H2 22 ⟨g,0+0,none⟩=some sp:=bq g2 Sj rfl hp.hole.1 hp.hole.2
   have lpl:lenV P 22 sp=some (.int .i64 np):=hp.len_eq Mw
   have hs:I64 ((np:Int)-1):=by unfold I64; omega
   have hI:I64 ((i:Int)+1):=by unfold I64; omega
   have bad:JBad js np i↔(¬ (0≤x∧x≤(np:Int)-1)∨¬ (0≤y∧y≤(np:Int)-1)∨x=y∨∃ q,0≤q∧q<i∧J js x y q):=by
    unfold JBad
    constructor
    ·rintro⟨a,b,e1,e2,h⟩
     rw[hx] at e1; rw[hy] at e2
     cases e1; cases e2; exact h
    ·intro h; exact⟨x,y,hx,hy,h⟩
   simp only[PK,aj,ak,l0,Fq,lp,lpl,ax (oW hs)]
   rw[DJ l]
   have one:JBad js np i→((∃ q,i≤q∧q<nj∧JBad js np q)∧Ret (some (Value.int .i64 1,H2,n+1)) n H (.int .i64 1)):=fun h=>⟨⟨i,Nat.le_refl _,hlt,h⟩,H2,n+1,rfl,by omega,hk⟩
   cases c1:decide (0≤x∧x≤(np:Int)-1) with
   | false=>
    simp only[tv,aj,nw,jk,dw,fX]
    exact .inl (one (bad.2 (.inl (of_decide_eq_false c1))))
   | true=>
    simp only[qK,aj,nq,Qj,ak,l1,Fq,lp,lpl,ax (oW hs)]
    rw[DJ l]
    cases c2:decide (0≤y∧y≤(np:Int)-1) with
    | false=>
     simp only[tv,aj,dQ,nw,jk,dw,fX]
     exact .inl (one (bad.2 (.inr (.inl (of_decide_eq_false c2)))))
    | true=>
     simp only[qK,aj,dQ,nq,PK,Qj,ak,l0,l1,ax jY]
     cases c3:decide (x=y) with
     | true=>
      simp only[fX]
      exact .inl (one (bad.2 (.inr (.inr (.inl (of_decide_eq_true c3))))))
     | false=>
      simp only[ez]
      rcases fault_inner (cal (l+1)) k m b3 g n nj i x y js sp sj sk m 0 H2 (n+1) (by omega) (by omega) g2 hnew j2 hlt (by omega) (by omega) hI with⟨⟨q,q1,q2,q3⟩,H',n',e1,e2,e3⟩ | ⟨hno,H1,n1,e1,e2,e3⟩
      ·exact .inl ⟨⟨i,Nat.le_refl _,hlt,bad.2 (.inr (.inr (.inr ⟨q,q1,q2,q3⟩)))⟩,H',n',e1,by omega,hk.trans e3 (by omega)⟩
      ·have nb:¬ JBad js np i:=fun h=>by
        rcases bad.1 h with h | h | h | h
        ·exact h (of_decide_eq_true c1)
        ·exact h (of_decide_eq_true c2)
        ·exact of_decide_eq_false c3 h
        ·exact hno h
       have kk:Keep n H H1:=hk.trans e3 (by omega)
       rcases ih H1 n1 (by omega) kk hlt with⟨⟨q,q1,q2,q3⟩,H',n',f1,f2,f3⟩ | ⟨hnone,H',n',f1,f2,f3⟩
       ·exact .inl ⟨⟨q,by omega,q2,q3⟩,H',n',e1.trans f1,by omega,kk.trans f3 (by omega)⟩
       ·refine .inr ⟨fun⟨q,q1,q2,q3⟩=>?_,H',n',e1.trans f1,by omega,kk.trans f3 (by omega)⟩
        rcases Nat.eq_or_lt_of_le q1 with z | z
        ·subst z; exact nb q3
        ·exact hnone ⟨q,z,q2,q3⟩
  ·rw[if_neg (by omega)]
   exact .inr ⟨fun⟨q,h1,h2,_⟩=>by omega,H,n,rfl,Nat.le_refl _,Keep.refl _ _⟩
 intro m
 induction m with
 | zero=>
  intro i H n h1 h2 h3 h4 h5 h6
  exact body _ 0 i H n h1 h2 h3 h4 h5 (by omega) (fun _ _ _ _ h=>by omega)
 | succ m ih=>
  intro i H n h1 h2 h3 h4 h5 h6
  exact body _ (m+1) i H n h1 h2 h3 h4 h5 (by omega) (fun H' n' q1 q2 q3=>ih (i+1) H' n' (by omega) (h2.keep q2 h1) ((h3.keep q2 (Nat.le_refl _)).up q1) ((h4.keep q2 (Nat.le_refl _)).up q1) (by omega) (by omega))
theorem agg94:fJ P 94=some true:=by kernel_rfl
theorem zero94:iJ P 94=some (.agg #[.int .i64 0,.int .i64 0,.int .i64 0,.int .i64 0,.int .i64 0]):=by kernel_rfl
theorem store94(H:Hp)(b o:Nat)(v0 v1 v2 v3 v4:Value):bX P 94 (.pointer (some ⟨b,o,none⟩)) (.agg ⟨[v0,v1,v2,v3,v4]⟩) H=storeN H ⟨b,o,none⟩ [v0,v1,v2,v3,v4]:=by kernel_rfl
theorem qdx{ks:List Int}{i:Nat}(h:i * 5+5≤ks.length):((ints ks).drop (i * 5)).take 5 =
  [.int .i64 (ks.getD (i * 5) 0),.int .i64 (ks.getD (i * 5+1) 0),.int .i64 (ks.getD (i * 5+2) 0),.int .i64 (ks.getD (i * 5+3) 0),.int .i64 (ks.getD (i * 5+4) 0)]:=by
 rw[EK]
 have:(ks.drop (i * 5)).take 5=[ks.getD (i * 5) 0,ks.getD (i * 5+1) 0,ks.getD (i * 5+2) 0,ks.getD (i * 5+3) 0,ks.getD (i * 5+4) 0]:=by
  apply List.ext_getElem?
  intro k
  rw[List.getElem?_take]
  match k with
  | 0=>simp [List.getD_eq_getElem?_getD,List.getElem?_eq_getElem (show i * 5<ks.length by omega)]
  | 1=>simp [List.getD_eq_getElem?_getD,List.getElem?_eq_getElem (show i * 5+1<ks.length by omega)]
  | 2=>simp [List.getD_eq_getElem?_getD,List.getElem?_eq_getElem (show i * 5+2<ks.length by omega)]
  | 3=>simp [List.getD_eq_getElem?_getD,List.getElem?_eq_getElem (show i * 5+3<ks.length by omega)]
  | 4=>simp [List.getD_eq_getElem?_getD,List.getElem?_eq_getElem (show i * 5+4<ks.length by omega)]
  | k+5=>simp; omega
 rw[this]; rfl
def KBad(ks:List Int)(i:Nat):Prop:=¬ (0≤ks.getD (i * 5) 0∧ks.getD (i * 5) 0≤1000) ∨
 ¬ (0≤ks.getD (i * 5+1) 0∧ks.getD (i * 5+1) 0≤ks.getD (i * 5+2) 0∧ks.getD (i * 5+2) 0≤1000) ∨
 ¬ (0≤ks.getD (i * 5+3) 0∧ks.getD (i * 5+3) 0≤ks.getD (i * 5+4) 0∧ks.getD (i * 5+4) 0≤1000)
def KW(bad:Prop)(r:Res)(n:Nat)(H:Hp):Prop:=(bad∧Ret r n H (.int .i64 1))∨(¬ bad∧Ret r n H (.int .i64 0))
theorem fault_kinds(l:Nat)(g np nj nk:Nat)(ps js ks:List Int)(sp sj sk:Value)(hnp:np≤100)(hnj:nj≤100)(hnk:nk≤100):∀(m i:Nat) (H:Hp) (n:Nat),g<n→aW H g 0 [sp,sj,sk]→SliceI H n 2 sp np ps→SliceI H n 2 sj nj js→SliceI H n 5 sk nk ks →
  i≤nk→nk-i≤m →
  KW ((∃ q,i≤q∧q<nk∧KBad ks q)∨∃ q,0≤q∧q<nj∧JBad js np q) (S63_2 (cal (l+2)) KK m (.pointer (some ⟨g,0,none⟩)) (.int .i64 i) H n) n H:=by
 have body:∀(b2:Value→Value→Hp→Nat→Res) (m i:Nat) (H:Hp) (n:Nat),g<n→aW H g 0 [sp,sj,sk]→SliceI H n 2 sp np ps→SliceI H n 2 sj nj js→SliceI H n 5 sk nk ks→i≤nk →
   (∀ H' n',n≤n'→Keep n H H'→i<nk→KW ((∃ q,i+1≤q∧q<nk∧KBad ks q)∨∃ q,0≤q∧q<nj∧JBad js np q) (b2 (.pointer (some ⟨g,0,none⟩)) (.int .i64 ((i+1:Nat):Int)) H' n') n' H') →
   KW ((∃ q,i≤q∧q<nk∧KBad ks q)∨∃ q,0≤q∧q<nj∧JBad js np q) (C63_2 (cal (l+2)) KK m b2 (.pointer (some ⟨g,0,none⟩)) (.int .i64 i) H n) n H:=by
  intro b2 m i H n hgn hg hp hj hk hi ih
  have hl:az P H 24 ⟨g,0+2,none⟩=some sk:=bq hg Mv rfl hk.hole.1 hk.hole.2
  have hlen:lenV P 24 sk=some (.int .i64 nk):=hk.len_eq IQ
  unfold C63_2 B63_2
  simp only[Dq,aj,ak,hl,hlen,ax cJ,gw]
  by_cases hlt:i<nk
  ·rw[if_pos (by omega)]
   obtain⟨bb,o,hix,hbn,hc⟩:=hk.at_ IQ sz94 hlt
   have hlen2:i * 5+5≤ks.length:=by rw[hk.1]; omega
   have hld:az P H 94 ⟨bb,o+i * 5,none⟩=some (.agg ⟨[.int .i64 (ks.getD (i * 5) 0),.int .i64 (ks.getD (i * 5+1) 0),.int .i64 (ks.getD (i * 5+2) 0),.int .i64 (ks.getD (i * 5+3) 0),.int .i64 (ks.getD (i * 5+4) 0)]⟩):=by
    rw[cw hc agg94 sz94 (by rw[bv]; exact hlen2) (dY _),qdx hlen2]
   have bad:KBad ks i↔(¬ (0≤ks.getD (i * 5) 0∧ks.getD (i * 5) 0≤1000)∨¬ (0≤ks.getD (i * 5+1) 0∧ks.getD (i * 5+1) 0≤ks.getD (i * 5+2) 0∧ks.getD (i * 5+2) 0≤1000) ∨
    ¬ (0≤ks.getD (i * 5+3) 0∧ks.getD (i * 5+3) 0≤ks.getD (i * 5+4) 0∧ks.getD (i * 5+4) 0≤1000)):=Iff.rfl
   generalize hy:ks.getD (i * 5) 0=y at *
   generalize h1:ks.getD (i * 5+1) 0=a1 at *
   generalize h2:ks.getD (i * 5+2) 0=a2 at *
   generalize h3:ks.getD (i * 5+3) 0=a3 at *
   generalize h4:ks.getD (i * 5+4) 0=a4 at *
   simp only[hix,aj,ak,hld,jw zero94,ptr,store94,aZ]
   have hst:=lW (H:=H.set n (some (.cells [.int .i64 0,.int .i64 0,.int .i64 0,.int .i64 0,.int .i64 0] 94 false none))) (b:=n) (c:=[.int .i64 0,.int .i64 0,.int .i64 0,.int .i64 0,.int .i64 0]) (vs:=[.int .i64 y,.int .i64 a1,.int .i64 a2,.int .i64 a3,.int .i64 a4]) (e:=94) (vec:=none) (by rw[Tr.get_set,if_pos rfl]) rfl rfl
   rw[hst]
   have hkp:Keep n H ((H.set n (some (.cells [.int .i64 0,.int .i64 0,.int .i64 0,.int .i64 0,.int .i64 0] 94 false none))).set n (some (.cells [.int .i64 y,.int .i64 a1,.int .i64 a2,.int .i64 a3,.int .i64 a4] 94 false none))):=XJ
   have hnew:=aW.new (H:=H.set n (some (.cells [.int .i64 0,.int .i64 0,.int .i64 0,.int .i64 0,.int .i64 0] 94 false none))) (n:=n) (vs:=[.int .i64 y,.int .i64 a1,.int .i64 a2,.int .i64 a3,.int .i64 a4]) (e:=94) (ro:=false) (vec:=none)
   generalize (H.set n (some (.cells [.int .i64 0,.int .i64 0,.int .i64 0,.int .i64 0,.int .i64 0] 94 false none))).set n (some (.cells [.int .i64 y,.int .i64 a1,.int .i64 a2,.int .i64 a3,.int .i64 a4] 94 false none))=H2 at hkp hnew ⊢
   have l0:az P H2 3 ⟨n,0+0,none⟩=some (.int .i64 y):=bj hnew agg3 rfl
   have l1:az P H2 3 ⟨n,0+1+0,none⟩=some (.int .i64 a1):=bj (k:=1) hnew agg3 rfl
   have l2:az P H2 3 ⟨n,0+1+1,none⟩=some (.int .i64 a2):=bj (k:=2) hnew agg3 rfl
   have l3:az P H2 3 ⟨n,0+3+0,none⟩=some (.int .i64 a3):=bj (k:=3) hnew agg3 rfl
   have l4:az P H2 3 ⟨n,0+3+1,none⟩=some (.int .i64 a4):=bj (k:=4) hnew agg3 rfl
   have hI:I64 ((i:Int)+1):=by unfold I64; omega
   have hcast:((i:Int)+1)=((i+1:Nat):Int):=by omega
   simp only[fa94_0,aj,ak,l0]
   rw[DJ (l+1)]
   have one:KBad ks i→KW ((∃ q,i≤q∧q<nk∧KBad ks q)∨∃ q,0≤q∧q<nj∧JBad js np q) (some (Value.int .i64 1,H2,n+1)) n H:=fun h=>.inl ⟨.inl ⟨i,Nat.le_refl _,hlt,h⟩,H2,n+1,rfl,by omega,hkp⟩
   cases c1:decide (0≤y∧y≤1000) with
   | false=>
    simp only[tv,aj,nw,jk,dw,fX]
    exact one (bad.2 (.inl (of_decide_eq_false c1)))
   | true=>
    simp only[qK,aj,nq,fa94_1,Ny,Nz,ak,l1,l2]
    rw[Xk l]
    cases c2:decide (0≤a1∧a1≤a2∧a2≤1000) with
    | false=>
     simp only[tv,aj,dQ,nw,jk,dw,fX]
     exact one (bad.2 (.inr (.inl (of_decide_eq_false c2))))
    | true=>
     simp only[qK,aj,dQ,nq,fa94_2,Ny,Nz,ak,l3,l4]
     rw[Xk l]
     cases c3:decide (0≤a3∧a3≤a4∧a4≤1000) with
     | false=>
      simp only[tv,aj,dQ,fX]
      exact one (bad.2 (.inr (.inr (of_decide_eq_false c3))))
     | true=>
      simp only[qK,aj,dQ,ez,ax (bk hI),hcast]
      have nb:¬ KBad ks i:=fun h=>by
       rcases bad.1 h with h | h | h
       ·exact h (of_decide_eq_true c1)
       ·exact h (of_decide_eq_true c2)
       ·exact h (of_decide_eq_true c3)
      rcases ih H2 (n+1) (by omega) hkp hlt with⟨h,H',n',f1,f2,f3⟩ | ⟨h,H',n',f1,f2,f3⟩
      ·refine .inl ⟨?_,H',n',f1,by omega,hkp.trans f3 (by omega)⟩
       rcases h with⟨q,q1,q2,q3⟩ | h
       ·exact .inl ⟨q,by omega,q2,q3⟩
       ·exact .inr h
      ·refine .inr ⟨?_,H',n',f1,by omega,hkp.trans f3 (by omega)⟩
       rintro(⟨q,q1,q2,q3⟩ | h')
       ·rcases Nat.eq_or_lt_of_le q1 with z | z
        ·subst z; exact nb q3
        ·exact h (.inl ⟨q,z,q2,q3⟩)
       ·exact h (.inr h')
  ·rw[if_neg (by omega)]
   rcases fault_joins (l+1) KK g np nj nk ps js ks sp sj sk hnp hnj KK 0 H n hgn hg hp hj (by omega) (by unfold KK; omega) with⟨h1,h2⟩ | ⟨h1,h2⟩
   ·exact .inl ⟨.inr h1,h2⟩
   ·refine .inr ⟨?_,h2⟩
    rintro(⟨q,q1,q2,_⟩ | h)
    ·omega
    ·exact h1 h
 intro m
 induction m with
 | zero=>
  intro i H n h1 h2 h3 h4 h5 h6 h7
  exact body _ 0 i H n h1 h2 h3 h4 h5 h6 (fun _ _ _ _ h=>by omega)
 | succ m ih=>
  intro i H n h1 h2 h3 h4 h5 h6 h7
  exact body _ (m+1) i H n h1 h2 h3 h4 h5 h6 (fun H' n' q1 q2 q3=>ih (i+1) H' n' (by omega) (h2.keep q2 h1) ((h3.keep q2 (Nat.le_refl _)).up q1) ((h4.keep q2 (Nat.le_refl _)).up q1) ((h5.keep q2 (Nat.le_refl _)).up q1) (by omega) (by omega))
theorem sz95:szT P 95=some 2:=by kernel_rfl
theorem fa95_0(b o:Nat):aw P 95 (.pointer (some ⟨b,o,none⟩)) 0=some (.pointer (some ⟨b,o+0,none⟩)):=by kernel_rfl
theorem fa95_1(b o:Nat):aw P 95 (.pointer (some ⟨b,o,none⟩)) 1=some (.pointer (some ⟨b,o+1,none⟩)):=by kernel_rfl
theorem pad_at{H:Hp}{n np i:Nat}{ps:List Int}{z:Value}(hz:SliceI H n 2 z np ps)(hk:i<np) :
  ∃ b o,aJ P 22 z (.int .i64 i)=some (.pointer (some ⟨b,o,none⟩))∧∀ j,j<2→az P H 3 ⟨b,o+j,none⟩=some (.int .i64 (ps.getD (i * 2+j) 0)):=by
 obtain⟨b,o,hix,hbn,hc⟩:=hz.at_ Mw sz95 hk
 refine⟨b,o+i * 2,hix,fun j hj=>?_⟩
 have hlen:i * 2+2≤ps.length:=by rw[hz.1]; omega
 rw[show o+i * 2+j=o+(i * 2+j) by omega]
 exact bj hc agg3 (gQ (by rw[List.getD_eq_getElem?_getD,List.getElem?_eq_getElem (show i * 2+j<ps.length by omega)]; rfl))
def PBad(ps:List Int)(i:Nat):Prop:=¬ (0≤ps.getD (i * 2) 0∧ps.getD (i * 2) 0≤ps.getD (i * 2+1) 0∧ps.getD (i * 2+1) 0≤1000)
theorem fault_pads(l:Nat)(g np nj nk:Nat)(ps js ks:List Int)(sp sj sk:Value)(hnp:np≤100)(hnj:nj≤100)(hnk:nk≤100):∀(m i:Nat) (H:Hp) (n:Nat),g<n→aW H g 0 [sp,sj,sk]→SliceI H n 2 sp np ps→SliceI H n 2 sj nj js→SliceI H n 5 sk nk ks →
  i≤np→np-i≤m →
  KW ((∃ q,i≤q∧q<np∧PBad ps q)∨(∃ q,0≤q∧q<nk∧KBad ks q)∨∃ q,0≤q∧q<nj∧JBad js np q) (S63_1 (cal (l+2)) KK m (.pointer (some ⟨g,0,none⟩)) (.int .i64 i) H n) n H:=by
 have body:∀(b2:Value→Value→Hp→Nat→Res) (m i:Nat) (H:Hp) (n:Nat),g<n→aW H g 0 [sp,sj,sk]→SliceI H n 2 sp np ps→SliceI H n 2 sj nj js→SliceI H n 5 sk nk ks→i≤np →
   (i<np→KW ((∃ q,i+1≤q∧q<np∧PBad ps q)∨(∃ q,0≤q∧q<nk∧KBad ks q)∨∃ q,0≤q∧q<nj∧JBad js np q) (b2 (.pointer (some ⟨g,0,none⟩)) (.int .i64 ((i+1:Nat):Int)) H n) n H) →
   KW ((∃ q,i≤q∧q<np∧PBad ps q)∨(∃ q,0≤q∧q<nk∧KBad ks q)∨∃ q,0≤q∧q<nj∧JBad js np q) (C63_1 (cal (l+2)) KK m b2 (.pointer (some ⟨g,0,none⟩)) (.int .i64 i) H n) n H:=by
  intro b2 m i H n hgn hg hp hj hk hi ih
  have hl:az P H 22 ⟨g,0+0,none⟩=some sp:=bq hg Sj rfl hp.hole.1 hp.hole.2
  have hlen:lenV P 22 sp=some (.int .i64 np):=hp.len_eq Mw
  unfold C63_1 B63_1
  simp only[Fq,aj,ak,hl,hlen,ax cJ,gw]
  by_cases hlt:i<np
  ·rw[if_pos (by omega)]
   obtain⟨bb,o,hix,hld⟩:=pad_at hp hlt
   have hI:I64 ((i:Int)+1):=by unfold I64; omega
   have hcast:((i:Int)+1)=((i+1:Nat):Int):=by omega
   have q0:=hld 0 (by omega)
   have q1:=hld 1 (by omega)
   simp only[Nat.add_zero] at q0
   simp only[hix,aj,ak,fa95_0,fa95_1,Nat.add_zero,q0,q1]
   rw[Xk l]
   cases c1:decide (0≤ps.getD (i * 2) 0∧ps.getD (i * 2) 0≤ps.getD (i * 2+1) 0∧ps.getD (i * 2+1) 0≤1000) with
   | false=>
    simp only[tv,aj,fX]
    exact .inl ⟨.inl ⟨i,Nat.le_refl _,hlt,of_decide_eq_false c1⟩,H,n,rfl,by omega,Keep.refl _ _⟩
   | true=>
    simp only[qK,aj,ez,ax (bk hI),hcast]
    have nb:¬ PBad ps i:=fun h=>h (of_decide_eq_true c1)
    rcases ih hlt with⟨h,h2⟩ | ⟨h,h2⟩
    ·refine .inl ⟨?_,h2⟩
     rcases h with⟨q,q1,q2,q3⟩ | h
     ·exact .inl ⟨q,by omega,q2,q3⟩
     ·exact .inr h
    ·refine .inr ⟨?_,h2⟩
     rintro(⟨q,q1,q2,q3⟩ | h')
     ·rcases Nat.eq_or_lt_of_le q1 with z | z
      ·subst z; exact nb q3
      ·exact h (.inl ⟨q,z,q2,q3⟩)
     ·exact h (.inr h')
  ·rw[if_neg (by omega)]
   rcases fault_kinds l g np nj nk ps js ks sp sj sk hnp hnj hnk KK 0 H n hgn hg hp hj hk (by omega) (by unfold KK; omega) with⟨h1,h2⟩ | ⟨h1,h2⟩
   ·exact .inl ⟨.inr h1,h2⟩
   ·refine .inr ⟨?_,h2⟩
    rintro(⟨q,q1,q2,_⟩ | h)
    ·omega
    ·exact h1 h
 intro m
 induction m with
 | zero=>
  intro i H n h1 h2 h3 h4 h5 h6 h7
  exact body _ 0 i H n h1 h2 h3 h4 h5 h6 (fun h=>by omega)
 | succ m ih=>
  intro i H n h1 h2 h3 h4 h5 h6 h7
  exact body _ (m+1) i H n h1 h2 h3 h4 h5 h6 (fun q=>ih (i+1) H n h1 h2 h3 h4 h5 (by omega) (by omega))
def GBad(np nj nk:Nat)(ps js ks:List Int):Prop:=(∃ q,q<np∧PBad ps q)∨(∃ q,q<nk∧KBad ks q)∨∃ q,q<nj∧JBad js np q
open Classical in
noncomputable def iq(np nj nk:Nat)(ps js ks:List Int):Int:=
 if 8<np∨16<nj∨3<nk then 3 else if np=0∨nk=0 then 1 else if GBad np nj nk ps js ks then 1 else 0
theorem fault_spec(l:Nat){np nj nk:Nat}{ps js ks:List Int}{H:Hp}{n:Nat}{v:Value}(hg:GroveI H n v np nj nk ps js ks) :
  Ret (C63_0 (cal (l+2)) KK v H n) n H (.int .i64 (iq np nj nk ps js ks)):=by
 obtain⟨x,y,z,rfl,h1,h2,h3⟩:=hg.eq
 unfold C63_0 B63_0
 simp only[dZ,aZ,ptr]
 have hkeep:Keep n H (H.set n (some (.cells [x,y,z] 26 false none))):=(Keep.refl n H).set (Nat.le_refl _) _
 have hbox:aW (H.set n (some (.cells [x,y,z] 26 false none))) n 0 [x,y,z]:=aW.new
 have s1:=(h1.keep hkeep (Nat.le_refl _)).up (show n≤n+1 by omega)
 have s2:=(h2.keep hkeep (Nat.le_refl _)).up (show n≤n+1 by omega)
 have s3:=(h3.keep hkeep (Nat.le_refl _)).up (show n≤n+1 by omega)
 generalize H.set n (some (.cells [x,y,z] 26 false none))=H1 at hkeep hbox s1 s2 s3 ⊢
 have lx:az P H1 22 ⟨n,0+0,none⟩=some x:=bq hbox Sj rfl h1.hole.1 h1.hole.2
 have ly:az P H1 23 ⟨n,0+1,none⟩=some y:=bq hbox agg23 rfl h2.hole.1 h2.hole.2
 have lz:az P H1 24 ⟨n,0+2,none⟩=some z:=bq hbox Mv rfl h3.hole.1 h3.hole.2
 have e1:lenV P 22 x=some (.int .i64 np):=h1.len_eq Mw
 have e2:lenV P 23 y=some (.int .i64 nj):=h2.len_eq UV
 have e3:lenV P 24 z=some (.int .i64 nk):=h3.len_eq IQ
 simp only[Fq,Xy,Dq,aj,ak,lx,e1,ax wX]
 have three:(8<np∨16<nj∨3<nk)→∀ H' n',n≤n'→Keep n H H'→Ret (some (Value.int .i64 3,H',n')) n H (.int .i64 (iq np nj nk ps js ks)):=by
  intro h H' n' q1 q2
  unfold iq
  rw[if_pos h]
  exact⟨H',n',rfl,q1,q2⟩
 have one:¬ (8<np∨16<nj∨3<nk)→(np=0∨nk=0)→∀ H' n',n≤n'→Keep n H H'→Ret (some (Value.int .i64 1,H',n')) n H (.int .i64 (iq np nj nk ps js ks)):=by
  intro h h' H' n' q1 q2
  unfold iq
  rw[if_neg h,if_pos h']
  exact⟨H',n',rfl,q1,q2⟩
 have rest:¬ (8<np∨16<nj∨3<nk)→¬ (np=0∨nk=0)→Ret (S63_1 (cal (l+2)) KK KK (.pointer (some ⟨n,0,none⟩)) (.int .i64 0) H1 (n+1)) n H (.int .i64 (iq np nj nk ps js ks)):=by
  intro h h'
  unfold iq
  rw[if_neg h,if_neg h']
  rcases fault_pads l n np nj nk ps js ks x y z (by omega) (by omega) (by omega) KK 0 H1 (n+1) (by omega) hbox s1 s2 s3 (by omega) (by unfold KK; omega) with⟨h1,H',n',f1,f2,f3⟩ | ⟨h1,H',n',f1,f2,f3⟩
  ·rw[if_pos (by simpa [GBad] using h1)]
   exact⟨H',n',f1,by omega,hkeep.trans f3 (by omega)⟩
  ·rw[if_neg (by simpa [GBad] using h1)]
   exact⟨H',n',f1,by omega,hkeep.trans f3 (by omega)⟩
 cases c1:decide ((8:Int)<(np:Int)) <;> cases c2:decide ((16:Int)<(nj:Int)) <;> cases c3:decide ((3:Int)<(nk:Int)) <;>
  simp only[nq,nw,aj,dw,dQ,fX,ez,c2,c3,ak,ly,lz,e2,e3,ax wX] <;>
  first
  | exact three (by simp only[decide_eq_true_eq] at c1 c2 c3; omega) _ _ (by omega) hkeep
  | skip
 simp only[decide_eq_false_iff_not] at c1 c2 c3
 have h:¬ (8<np∨16<nj∨3<nk):=by omega
 simp only[aj,lx,e1,ax jY]
 cases d1:decide ((np:Int)=0) <;> cases d2:decide ((nk:Int)=0) <;>
  simp only[nq,nw,aj,dw,dQ,fX,ez,d2,ak,lz,e3,ax jY] <;>
  first
  | exact one h (by simp only[decide_eq_true_eq] at d1 d2; omega) _ _ (by omega) hkeep
  | exact rest h (by simp only[decide_eq_false_iff_not] at d1 d2; omega)
end Go.Proofs.Ytmjbdjnnojfhkaa.spec
end
section
namespace Go.Ev
open Go
variable {P:Program} {t t2 e e2:TypeId} {ρ:Type}
def eK(H:Hp)(n:Nat)(s:Nat)(v:Value)(len:Nat)(xs:List Int):Prop:=
 xs.length=len * s∧(∀ x ∈ xs,I64 x) ∧
 ((v=.slice none 0 0∧len=0)∨∃ b o cap,v=.slice (some ⟨b,o,none⟩) len cap∧b<n∧0<len∧aW H b o (ints xs))
theorem eK.keep{H H':Hp}{n m s len:Nat}{v:Value}{xs:List Int}(h:eK H n s v len xs)(hk:Keep m H H')(hm:n≤m):eK H' m s v len xs:=by
 obtain⟨h1,h2,h3⟩:=h
 refine⟨h1,h2,?_⟩
 rcases h3 with h3 | ⟨b,o,cap,e,a1,a2,a3⟩
 ·exact .inl h3
 ·exact .inr ⟨b,o,cap,e,by omega,a2,a3.keep hk (by omega)⟩
theorem eK.up{H:Hp}{n m s len:Nat}{v:Value}{xs:List Int}(h:eK H n s v len xs)(hm:n≤m):eK H m s v len xs:=by
 obtain⟨h1,h2,h3⟩:=h
 refine⟨h1,h2,?_⟩
 rcases h3 with h3 | ⟨b,o,cap,e,a1,a2,a3⟩
 ·exact .inl h3
 ·exact .inr ⟨b,o,cap,e,by omega,a2,a3⟩
theorem eK.hole{H:Hp}{n s len:Nat}{v:Value}{xs:List Int}(h:eK H n s v len xs):lJ v=true∧vj v=true:=by
 rcases h.2.2 with⟨rfl,_⟩ | ⟨b,o,cap,rfl,_⟩ <;> exact⟨rfl,rfl⟩
theorem eK.len_eq{H:Hp}{n s len:Nat}{v:Value}{xs:List Int}(h:eK H n s v len xs){e:TypeId}(ht:P.underlying t=some (.slice e)):lenV P t v=some (goInt len):=by
 rcases h.2.2 with⟨rfl,rfl⟩ | ⟨b,o,cap,rfl,_⟩ <;> simp [lenV,ht]
theorem eK.at_{H:Hp}{n s len:Nat}{v:Value}{xs:List Int}(h:eK H n s v len xs){e:TypeId}(ht:P.underlying t=some (.slice e))(hs:szT P e=some s){i:Nat}(hi:i<len) :
  ∃ b o,aJ P t v (.int .i64 i)=some (.pointer (some ⟨b,o+i * s,none⟩))∧b<n∧aW H b o (ints xs):=by
 rcases h.2.2 with⟨rfl,rfl⟩ | ⟨b,o,cap,rfl,h1,h2,h3⟩
 ·omega
 ·refine⟨b,o,?_,h1,h3⟩
  unfold aJ
  simp only[ht,hs]
  have:qY (.int .i64 (i:Int)) len=some i:=by
   show qY (.int .i64 (.ofNat i)) len=some i
   simp [qY,hi]
  rw[this]
  simp [addA]
theorem eK.nil{H:Hp}{n s len:Nat}{v:Value}{xs:List Int}(h:eK H n s v len xs)(hp:bw v=true):eK .nil 0 s v len xs:=by
 obtain⟨h1,h2,h3⟩:=h
 refine⟨h1,h2,?_⟩
 rcases h3 with h3 | ⟨b,o,cap,e,a1,a2,a3⟩
 ·exact .inl h3
 ·subst e; simp [bw] at hp
def VecAt(H:Hp)(n0 n:Nat)(s:Nat)(e:TypeId)(v:Value)(len:Nat)(xs:List Int):Prop:=
 xs.length=len * s∧((v=.slice none 0 0∧len=0)∨∃ b,v=.slice (some ⟨b,0,none⟩) len capV∧n0≤b∧b<n∧0<len∧H.get b=some (.cells (ints xs) e false (some s)))
def fj(v:Value)(b:Nat):Prop:=∃ o len cap sp,v=.slice (some ⟨b,o,sp⟩) len cap
theorem VecAt.slice{H:Hp}{n0 n s len:Nat}{v:Value}{xs:List Int}(h:VecAt H n0 n s e v len xs)(hx:∀ x ∈ xs,I64 x):eK H n s v len xs:=by
 obtain⟨h1,h2⟩:=h
 refine⟨h1,hx,?_⟩
 rcases h2 with h2 | ⟨b,e,a1,a2,a3,a4⟩
 ·exact .inl h2
 ·exact .inr ⟨b,0,capV,e,a2,a3,_,_,a4,rfl,fun k v h=>by simpa using h⟩
theorem VecAt.leaf{H:Hp}{n0 n s len:Nat}{v:Value}{xs:List Int}(h:VecAt H n0 n s e v len xs):tj v=true∧lJ v=true∧vj v=true:=by
 rcases h.2 with⟨rfl,_⟩ | ⟨b,rfl,_⟩ <;> exact⟨rfl,rfl,rfl⟩
theorem VecAt.same{H H':Hp}{n0 n m s len:Nat}{v:Value}{xs:List Int}(h:VecAt H n0 n s e v len xs)(hm:n≤m)(hk:∀ b,b<n→fj v b→H'.get b=H.get b):VecAt H' n0 m s e v len xs:=by
 obtain⟨h1,h2⟩:=h
 refine⟨h1,?_⟩
 rcases h2 with h2 | ⟨b,e,a1,a2,a3,a4⟩
 ·exact .inl h2
 ·exact .inr ⟨b,e,a1,by omega,a3,by rw[hk b a2 ⟨_,_,_,_,e⟩]; exact a4⟩
theorem kJ(xs:List Int):(ints xs).all tj=true:=by simp [ints,tj]
theorem ints_append(xs ys:List Int):ints (xs++ys)=ints xs++ints ys:=by simp [ints]
theorem qkj{α:Type}(l:List α)(n:Nat)(h:l.length=n):(l.drop 0).take n=l:=by simp [← h]
theorem KX{H:Hp}{n0 n s len b2 o2 cap2 bt:Nat}{v z:Value}{xs ys:List Int}(h:VecAt H n0 n s e v len xs)(h1:jv P t=some e)(h2:jv P t2=some e2)
  (hs:szT P e=some s) (hb:yQ P e=some bt) (hz:iJ P e=some z) (hzl:(aZ z).length=s) (hy:aW H b2 o2 (ints ys)) (hyl:ys.length=s)
  (big:len+1<1048576) (hsb:s<1048576) (hbb:bt<1048576) (hn:n0≤n) :
  ∃ H',iz P (bare H n) t t2 v (.slice (some ⟨b2,o2,none⟩) 1 cap2)=some (.slice (some ⟨n,0,none⟩) (len+1) capV,bare H' (n+1)) ∧
   VecAt H' n0 (n+1) s e (.slice (some ⟨n,0,none⟩) (len+1) capV) (len+1) (xs++ys)∧∀ b,b<n→¬ fj v b→H'.get b=H.get b:=by
 have hl2:qX H ⟨b2,o2,none⟩ (1 * s)=some (ints ys):=by
  have:=qjj (s:=1 * s) (k:=0) hy (by rw[bv]; omega) (dY _)
  rw[Nat.add_zero] at this
  rw[this,qkj _ _ (by rw[bv]; omega)]
 have hsrc:pX H s (.slice (some ⟨b2,o2,none⟩) 1 cap2)=some (ints ys,1):=by
  unfold pX
  simp only[hl2]
 have hbeq:Nat.beq (aZ z).length s=true:=by rw[hzl]; exact Nat.beq_refl s
 obtain⟨g1,g2⟩:=h
 have hlen:(xs++ys).length=(len+1) * s:=by rw[List.length_append,g1,hyl,Nat.add_mul,Nat.one_mul]
 rcases g2 with⟨rfl,rfl⟩ | ⟨b,rfl,a1,a2,a3,a4⟩
 ·have hx0:xs=[]:=by simpa using g1
  subst hx0
  have hbig:yV (0+1) s bt=true:=by unfold yV; simp [hsb,hbb]
  refine⟨H.set n (some (.cells (ints ys) e false (some s))),?_,⟨hlen,.inr ⟨n,rfl,hn,by omega,by omega,by rw[Tr.get_set,if_pos rfl]; rfl⟩⟩,fun b hb _=>by rw[Tr.get_set,if_neg (by omega)]⟩
  unfold iz
  simp only[h1,h2,hs,hb,hz,bare,hsrc,hbeq,hbig]
  rfl
 ·have hbig:yV (len+1) s bt=true:=by unfold yV; simp [hsb,hbb,big]
  have hold:qX H ⟨b,0,none⟩ (len * s)=some (ints xs):=by
   have hc:aW H b 0 (ints xs):=⟨_,_,a4,rfl,fun k v h=>by simpa using h⟩
   have:=qjj (s:=len * s) (k:=0) hc (by rw[bv]; omega) (dY _)
   rw[Nat.add_zero] at this
   rw[this,qkj _ _ (by rw[bv]; omega)]
  have c1:Nat.blt capV capV=false:=by decide +kernel
  have c2:Nat.beq capV capV=true:=Nat.beq_refl _
  have c3:Nat.beq e e=true:=Nat.beq_refl _
  have c4:Nat.beq s s=true:=Nat.beq_refl _
  refine⟨(H.set b none).set n (some (.cells (ints xs++ints ys) e false (some s))),?_,⟨hlen,.inr ⟨n,rfl,hn,by omega,by omega,by rw[Tr.get_set,if_pos rfl,ints_append]⟩⟩,fun b' hb' hne=>?_⟩
  ·unfold iz
   simp only[h1,h2,hs,hb,hz,bare,hsrc,hbeq,hold,hbig]
   unfold tY
   simp only[c1,c2,a4,c3,c4,kJ,Bool.and_self]
   rfl
  ·rw[Tr.get_set,if_neg (by omega),Tr.get_set,if_neg (fun h=>hne (by subst h; exact⟨_,_,_,_,rfl⟩))]
def cZ(H:Hp)(b N:Nat)(e:TypeId)(f:Nat→Value):Prop:=
 ∃ c,H.get b=some (.cells c e false none)∧c.length=N∧∀ k,k<N→c[k]?=some (f k)
def putF(f:Nat→Value)(o:Nat)(vs:List Value):Nat→Value:=fun k=>if o≤k then(match vs[k-o]? with | some v=>v | none=>f k) else f k
theorem cZ.new{H:Hp}{n N:Nat}{vs:List Value}(hN:vs.length=N)(f:Nat→Value)(hf:∀ k,k<N→vs[k]?=some (f k)):cZ (H.set n (some (.cells vs e false none))) n N e f:=
 ⟨vs,by rw[Tr.get_set,if_pos rfl],hN,hf⟩
theorem cZ.keep{H H':Hp}{b N n:Nat}{f:Nat→Value}(h:cZ H b N e f)(hk:Keep n H H')(hb:b<n):cZ H' b N e f:=by
 obtain⟨c,h1,h2,h3⟩:=h
 exact⟨c,by rw[hk b hb]; exact h1,h2,h3⟩
theorem cZ.load{H:Hp}{b N k:Nat}{f:Nat→Value}(h:cZ H b N e f)(ht:fJ P t=some false)(hk:k<N):az P H t ⟨b,k,none⟩=some (f k):=by
 obtain⟨c,h1,h2,h3⟩:=h
 unfold az
 simp only[h1,Cy,ht,h3 k hk]
theorem cZ.cut_{N k s:Nat}{f:Nat→Value}{c:List Value}(h3:∀ k,k<N→c[k]?=some (f k))(hk:k+s≤N):cut c k s=some ((List.range s).map fun j=>f (k+j)):=by
 have e:(c.drop k).take s=(List.range s).map fun j=>f (k+j):=by
  apply List.ext_getElem?
  intro i
  rw[List.getElem?_take]
  split
  ·rename_i hi
   rw[List.getElem?_drop,h3 (k+i) (by omega),List.getElem?_map,List.getElem?_range hi]
   rfl
  ·rename_i hi
   rw[List.getElem?_eq_none (by simp; omega)]
 unfold cut
 simp only[e]
 rw[if_pos (by simp)]
theorem cZ.load_agg{H:Hp}{b N k s:Nat}{f:Nat→Value}(h:cZ H b N e f)(ht:fJ P t=some true)(hs:szT P t=some s)(hk:k+s≤N) :
  az P H t ⟨b,k,none⟩=some (.agg ⟨(List.range s).map fun j=>f (k+j)⟩):=by
 obtain⟨c,h1,h2,h3⟩:=h
 unfold az
 simp only[h1,Cy,ht,hs,cZ.cut_ h3 hk]
theorem splice_some:∀(c:List Value) (o:Nat) (vs:List Value),o+vs.length≤c.length→∃ c',ij c o vs=some c'∧c'.length=c.length ∧
  ∀ k,c'[k]?=if o≤k then(match vs[k-o]? with | some v=>some v | none=>c[k]?) else c[k]?:=by
 have over:∀(c vs:List Value),vs.length≤c.length→∃ c',ij.over c vs=some c'∧c'.length=c.length∧∀ k:Nat,c'[k]?=(match vs[k]? with | some v=>some v | none=>c[k]?):=by
  intro c
  induction c with
  | nil=>
   intro vs h
   cases vs with
   | nil=>exact⟨[],rfl,rfl,fun k=>by simp⟩
   | cons v vs=>simp at h
  | cons x c ih=>
   intro vs h
   cases vs with
   | nil=>exact⟨x::c,rfl,rfl,fun k=>by simp⟩
   | cons v vs=>
    obtain⟨c',e1,e2,e3⟩:=ih vs (by simpa using h)
    refine⟨v::c',by simp [ij.over,e1],by simp [e2],fun k=>?_⟩
    cases k with
    | zero=>simp
    | succ k=>simpa using e3 k
 intro c o
 induction o generalizing c with
 | zero=>
  intro vs h
  obtain⟨c',e1,e2,e3⟩:=over c vs (by omega)
  exact⟨c',by unfold ij; exact e1,e2,fun k=>by rw[if_pos (Nat.zero_le k)]; exact e3 k⟩
 | succ o ih=>
  intro vs h
  cases c with
  | nil=>simp at h
  | cons x c=>
   obtain⟨c',e1,e2,e3⟩:=ih c vs (by simp at h; omega)
   refine⟨x::c',by unfold ij; simp only[e1],by simp [e2],fun k=>?_⟩
   cases k with
   | zero=>simp
   | succ k=>
    have:=e3 k
    simp only[List.getElem?_cons_succ,Nat.add_le_add_iff_right,Nat.add_sub_add_right]
    exact this
theorem cZ.storeN{H:Hp}{b N o:Nat}{f:Nat→Value}{vs:List Value}(h:cZ H b N e f)(ho:o+vs.length≤N)(hl:vs.all tj=true) :
  ∃ H',Ev.storeN H ⟨b,o,none⟩ vs=some H'∧cZ H' b N e (putF f o vs)∧∀ b',b'≠b→H'.get b'=H.get b':=by
 obtain⟨c,h1,h2,h3⟩:=h
 obtain⟨c',e1,e2,e3⟩:=splice_some c o vs (by omega)
 refine⟨H.set b (some (.cells c' e false none)),?_,⟨c',by rw[Tr.get_set,if_pos rfl],by omega,fun k hk=>?_⟩,fun b' hb'=>by rw[Tr.get_set,if_neg hb']⟩
 ·unfold Ev.storeN
  simp only[h1,hl,if_true,e1]
 ·rw[e3 k]
  unfold putF
  split
  ·split
   ·rfl
   ·exact h3 k hk
  ·exact h3 k hk
theorem cZ.at_{H:Hp}{b N:Nat}{f:Nat→Value}(h:cZ H b N e f):aW H b 0 ((List.range N).map f):=by
 obtain⟨c,h1,h2,h3⟩:=h
 refine⟨_,c,h1,rfl,fun k v hv=>?_⟩
 rw[Nat.zero_add]
 rw[List.getElem?_map] at hv
 by_cases hk:k<N
 ·rw[List.getElem?_range hk] at hv
  rw[h3 k hk]; exact hv
 ·rw[List.getElem?_eq_none (by simp; omega)] at hv; cases hv
end Go.Ev
end
section
namespace Go.Ev
open Go
variable {P:Program} {ρ:Type}
def UX(H:Hp)(ex:List Extra):Prop:=∀ y ∈ ex,∃ t a,y=.l t a∧((∃ c e ro vec,H.get a.block=some (.cells c e ro vec))∨∃ c,H.get a.block=some (.rows c))
theorem maskXL_some{H:Hp}:∀ {ex:List Extra},UX H ex→∃ H1,vQ ex H=some H1∧∀ b,H1.get b=H.get b ∨
  ((∃ c e ro vec,H.get b=some (.cells c e ro vec)∧H1.get b=some (.cells c e true vec))∧∃ t a,Extra.l t a ∈ ex∧a.block=b)
 | [],_=>⟨H,rfl,fun _=>.inl rfl⟩
 | y::l,h=>by
  obtain⟨H1,e1,e2⟩:=maskXL_some (ex:=l) (fun z hz=>h z (List.mem_cons_of_mem _ hz))
  obtain⟨t,a,rfl,ha⟩:=h y List.mem_cons_self
  have old:∀ b,H1.get b=H.get b∨((∃ c e ro vec,H.get b=some (.cells c e ro vec)∧H1.get b=some (.cells c e true vec))∧∃ t' a',Extra.l t' a' ∈ (Extra.l t a::l)∧a'.block=b):=fun b=>by
   rcases e2 b with q | ⟨q,t',a',q1,q2⟩
   ·exact .inl q
   ·exact .inr ⟨q,t',a',List.mem_cons_of_mem _ q1,q2⟩
  rcases ha with⟨c,e,ro,vec,hc⟩ | ⟨c,hc⟩
  ·have hro:∃ ro',H1.get a.block=some (.cells c e ro' vec):=by
    rcases e2 a.block with q | ⟨⟨c',e',ro',vec',q1,q2⟩,_⟩
    ·exact⟨ro,q.trans hc⟩
    ·rw[hc] at q1; cases q1; exact⟨true,q2⟩
   obtain⟨ro',h1⟩:=hro
   refine⟨H1.set a.block (some (.cells c e true vec)),by simp only[vQ,e1,h1],fun b=>?_⟩
   rw[Tr.get_set]
   by_cases hb:b=a.block
   ·subst hb
    rw[if_pos rfl]
    exact .inr ⟨⟨c,e,ro,vec,hc,rfl⟩,t,a,List.mem_cons_self,rfl⟩
   ·rw[if_neg hb]; exact old b
  ·have h1:H1.get a.block=some (.rows c):=by
    rcases e2 a.block with q | ⟨⟨c',e',ro',vec',q1,_⟩,_⟩
    ·exact q.trans hc
    ·rw[hc] at q1; cases q1
   exact⟨H1,by simp only[vQ,e1,h1],old⟩
theorem backXL_some{H0 H:Hp}:∀ {ex:List Extra},UX H0 ex→(∀ b,(H0.get b).isSome→(H.get b).isSome)→∃ H1,zq ex H0 H=some H1∧(∀ b,(∃ t a,Extra.l t a ∈ ex∧a.block=b)→H1.get b=H0.get b) ∧
  ∀ b,(¬ ∃ t a,Extra.l t a ∈ ex∧a.block=b)→H1.get b=H.get b
 | [],_,_=>⟨H,rfl,fun b ⟨t,a,h,_⟩=>(by cases h),fun _ _=>rfl⟩
 | y::l,h,hs=>by
  obtain⟨H1,e1,e2,e3⟩:=backXL_some (ex:=l) (fun z hz=>h z (List.mem_cons_of_mem _ hz)) hs
  obtain⟨t,a,rfl,ha⟩:=h y List.mem_cons_self
  have h1:∃ B,H.get a.block=some B:=by
   have:(H0.get a.block).isSome:=by rcases ha with⟨c,e,ro,vec,hc⟩ | ⟨c,hc⟩ <;> rw[hc] <;> rfl
   exact Option.isSome_iff_exists.1 (hs _ this)
  obtain⟨B,h1⟩:=h1
  refine⟨H1.set a.block (H0.get a.block),by simp only[zq,e1,h1],fun b hb=>?_,fun b hb=>?_⟩
  ·rw[Tr.get_set]
   by_cases hab:b=a.block
   ·rw[if_pos hab,hab]
   ·rw[if_neg hab]
    obtain⟨t',a',q1,q2⟩:=hb
    rcases List.mem_cons.1 q1 with q | q
    ·cases q; exact absurd q2.symm hab
    ·exact e2 b ⟨t',a',q,q2⟩
  ·rw[Tr.get_set,if_neg (fun q=>hb ⟨t,a,List.mem_cons_self,q.symm⟩)]
   exact e3 b (fun⟨t',a',q1,q2⟩=>hb ⟨t',a',List.mem_cons_of_mem _ q1,q2⟩)
theorem qdj{H0 H:Hp}:∀ {ex:List Extra},UX H0 ex→sW ex H=H∧oK ex H0 H=H∧chkX P H ex=true
 | [],_=>⟨rfl,rfl,rfl⟩
 | y::l,h=>by
  obtain⟨h1,h2,h3⟩:=qdj (H0:=H0) (H:=H) (ex:=l) (fun z hz=>h z (List.mem_cons_of_mem _ hz))
  obtain⟨t,a,rfl,_⟩:=h y List.mem_cons_self
  exact⟨h1,h2,by simp only[chkX,chkE,h3,Bool.and_self]⟩
theorem effK_pure{ex:List Extra}{H:Hp}{n:Nat}{v:Value}{op:Hp→Nat→(Value→Hp→Nat→Option ρ)→Option ρ}(hex:UX H ex)(hop:∀ H k,op H n k=k v H n) :
  ∃ H',(∀ b,H'.get b=H.get b)∧∀ k,effK P ex H n op k=k v H' n:=by
 cases ex with
 | nil=>exact⟨H,fun _=>rfl,fun k=>by unfold effK; exact hop H k⟩
 | cons y l=>
  obtain⟨H1,e1,e2⟩:=maskXL_some hex
  have hs:∀ b,(H.get b).isSome→(H1.get b).isSome:=fun b hb=>by
   rcases e2 b with q | ⟨⟨c,e,ro,vec,_,q⟩,_⟩
   ·rw[q]; exact hb
   ·rw[q]; rfl
  obtain⟨H3,f1,f2,f3⟩:=backXL_some hex hs
  refine⟨H3,fun b=>?_,fun k=>?_⟩
  ·by_cases hb:∃ t a,Extra.l t a ∈ y::l∧a.block=b
   ·exact f2 b hb
   ·rw[f3 b hb]
    rcases e2 b with q | ⟨_,q⟩
    ·exact q
    ·exact absurd q hb
  ·unfold effK
   simp only[e1,aj,(qdj (P:=P) (H0:=H) (H:=H1) hex).1,hop,f1,(qdj (P:=P) (H0:=H) (H:=H3) hex).2.1,(qdj (P:=P) (H0:=H) (H:=H3) hex).2.2]
   rfl
end Go.Ev
end
section
namespace Go.Proofs.Ytmjbdjnnojfhkaa.spec
open Go.Ev Go.Proofs.Ytmjbdjnnojfhkaa.nestFits Go.Proofs.Ytmjbdjnnojfhkaa.G
set_option maxRecDepth 100000
variable {ρ:Type}
def thin(np nj nk nl:Nat):Prop:=np≤11∧nj≤19∧nk≤6∧nl≤11
theorem thin_spec(c:Cal)(k:Nat){np nj nk nl:Nat}{ps js ks:List Int}{H:Hp}{n:Nat}{v l:Value}(hg:GroveI H n v np nj nk ps js ks)(hl:lenV P 44 l=some (.int .i64 nl)) :
  ∃ r,Ret (C15_0 c k v l H n) n H (.bool r)∧(r=true↔thin np nj nk nl):=by
 obtain⟨x,y,z,rfl,h1,h2,h3⟩:=hg.eq
 unfold C15_0 B15_0
 simp only[dZ,aZ,ptr]
 have hkeep:Keep n H (H.set n (some (.cells [x,y,z] 26 false none))):=(Keep.refl n H).set (Nat.le_refl _) _
 have hbox:aW (H.set n (some (.cells [x,y,z] 26 false none))) n 0 [x,y,z]:=aW.new
 generalize H.set n (some (.cells [x,y,z] 26 false none))=H1 at hkeep hbox ⊢
 have lx:az P H1 22 ⟨n,0+0,none⟩=some x:=bq hbox Sj rfl h1.hole.1 h1.hole.2
 have ly:az P H1 23 ⟨n,0+1,none⟩=some y:=bq hbox agg23 rfl h2.hole.1 h2.hole.2
 have lz:az P H1 24 ⟨n,0+2,none⟩=some z:=bq hbox Mv rfl h3.hole.1 h3.hole.2
 have e1:lenV P 22 x=some (.int .i64 np):=h1.len_eq Mw
 have e2:lenV P 23 y=some (.int .i64 nj):=h2.len_eq UV
 have e3:lenV P 24 z=some (.int .i64 nk):=h3.len_eq IQ
 simp only[Fq,Xy,Dq,aj,ak,lx,e1,ax wW]
 unfold thin
 cases c1:decide ((np:Int)≤11) <;> cases c2:decide ((nj:Int)≤19) <;> cases c3:decide ((nk:Int)≤6) <;> cases c4:decide ((nl:Int)≤11) <;>
  simp only[dk,eJ,jk,aj,dw,dQ,c2,c3,c4,ak,ly,lz,e2,e3,hl,ax wW] <;>
  refine⟨_,⟨_,_,rfl,by omega,hkeep⟩,?_⟩ <;>
  simp only[decide_eq_true_eq,decide_eq_false_iff_not] at c1 c2 c3 c4 <;> simp <;> omega
theorem call15(l:Nat)(a b:Value)(H:Hp)(n:Nat):(cal (l+1)).call 15 [a,b] H n=C15_0 (cal l) KK a b H n:=by kernel_rfl
theorem thin_call(l:Nat){np nj nk nl:Nat}{ps js ks:List Int}{H:Hp}{n:Nat}{v w:Value}(hg:GroveI H n v np nj nk ps js ks)(hl:lenV P 44 w=some (.int .i64 nl)) :
  ∃(r:Bool) (H':Hp) (n':Nat),(r=true↔thin np nj nk nl)∧(∀ k:Value→Hp→Nat→Option ρ,aX P (cal (l+1)) 15 [v,w] H n k=k (.bool r) H' n')∧n≤n'∧Keep n H H':=by
 obtain⟨r,H',n',⟨b,rfl,hb⟩,e1,e2,e3⟩:=eZ (ρ:=ρ) (P:=P) (cal:=cal (l+1)) (f:=15) (args:=[v,w]) (H:=H) (n:=n)
  (Pre:=fun H n=>GroveI H n v np nj nk ps js ks) (Q:=fun r=>∃ b:Bool,r=.bool b∧(b=true↔thin np nj nk nl))
  (fun H n h=>by
   obtain⟨r,h1,h2⟩:=thin_spec (cal l) KK h hl
   exact⟨.bool r,by rw[call15]; exact h1,r,rfl,h2⟩) (fun r ⟨b,e,_⟩ _=>by subst e; rfl) hg (fun hp=>hg.nil (by simp only[ck,Bool.and_eq_true] at hp; exact hp.1))
 exact⟨b,H',n',hb,e1,e2,e3⟩
theorem zero53:iJ P 53=some (.agg #[.int .i64 0,.int .i64 0]):=by kernel_rfl
theorem build53(a b:Int):fK P 53 [(0,.int .i64 a),(1,.int .i64 b)]=some (.agg ⟨[.int .i64 a,.int .i64 b]⟩):=by kernel_rfl
theorem qdk(H:Hp)(b o:Nat)(u v:Value):bX P 53 (.pointer (some ⟨b,o,none⟩)) (.agg ⟨[u,v]⟩) H=storeN H ⟨b,o,none⟩ [u,v]:=by kernel_rfl
theorem UY:fJ P 53=some true:=by kernel_rfl
theorem sz53:szT P 53=some 2:=by kernel_rfl
theorem res26(H:Hp)(b:Nat):resV P (Tr.set Tr.nil 2 (some (.pointer (some ⟨b,0,none⟩)))) H AK=(match az P H 53 ⟨b,0,none⟩ with
 | none=>none
 | some v=>some [v]):=by kernel_rfl
theorem to_spec(c:Cal)(k:Nat)(a b:Int)(H:Hp)(n:Nat):Ret (C26_0 c k (.agg ⟨[.int .i64 a,.int .i64 b]⟩) H n) n H (.agg ⟨[.int .i64 a,.int .i64 b]⟩):=by
 unfold C26_0 B26_0
 simp only[dZ,jw zero53,aZ,ptr]
 have h0:aW ((H.set n (some (.cells [.int .i64 a,.int .i64 b] 55 false none))).set (n+1) (some (.cells [.int .i64 0,.int .i64 0] 53 false none))) n 0 [.int .i64 a,.int .i64 b]:=aW.new.set (by omega)
 have l0:az P ((H.set n (some (.cells [.int .i64 a,.int .i64 b] 55 false none))).set (n+1) (some (.cells [.int .i64 0,.int .i64 0] 53 false none))) 3 ⟨n,0+0,none⟩=some (.int .i64 a):=bj h0 agg3 rfl
 have l1:az P ((H.set n (some (.cells [.int .i64 a,.int .i64 b] 55 false none))).set (n+1) (some (.cells [.int .i64 0,.int .i64 0] 53 false none))) 3 ⟨n,0+1,none⟩=some (.int .i64 b):=bj h0 agg3 rfl
 have hst:=lW (H:=(H.set n (some (.cells [.int .i64 a,.int .i64 b] 55 false none))).set (n+1) (some (.cells [.int .i64 0,.int .i64 0] 53 false none))) (b:=n+1) (c:=[.int .i64 0,.int .i64 0]) (vs:=[.int .i64 a,.int .i64 b]) (e:=53) (vec:=none) (by rw[Tr.get_set,if_pos rfl]) rfl rfl
 simp only[Ny,Nz,aj,ak,l0,l1,build53,qdk,hst,res26]
 have hnew:=aW.new (H:=(H.set n (some (.cells [.int .i64 a,.int .i64 b] 55 false none))).set (n+1) (some (.cells [.int .i64 0,.int .i64 0] 53 false none))) (n:=n+1) (vs:=[.int .i64 a,.int .i64 b]) (e:=53) (ro:=false) (vec:=none)
 have ld:=cw (o:=0) (k:=0) hnew UY sz53 (by simp) rfl
 simp only[Nat.add_zero] at ld
 rw[ld]
 exact⟨_,_,rfl,by omega,(((Keep.refl n H).set (Nat.le_refl _) _).set (by omega) _).set (by omega) _⟩
theorem flat26:iY P 26=true:=by kernel_rfl
theorem call26(l:Nat)(a:Value)(H:Hp)(n:Nat):(cal (l+1)).call 26 [a] H n=C26_0 (cal l) KK a H n:=by kernel_rfl
theorem to_call(l:Nat)(a b:Int)(H:Hp)(n:Nat)(k:Value→Hp→Nat→Option ρ) :
  aX P (cal (l+1)) 26 [.agg ⟨[.int .i64 a,.int .i64 b]⟩] H n k=k (.agg ⟨[.int .i64 a,.int .i64 b]⟩) H n:=by
 obtain⟨H',n',e,_,_⟩:=to_spec (cal l) KK a b .nil 0
 exact iZ flat26 rfl ((call26 ..).trans e) rfl
def kq(H:Hp)(n:Nat)(v:Value)(np nj nk:Nat)(ps js ks:List Int):Prop:=
 ∃ a b c,v=.agg ⟨[a,b,c]⟩∧eK H n 2 a np ps∧eK H n 2 b nj js∧eK H n 5 c nk ks
theorem kq.keep{H H':Hp}{n m:Nat}{v:Value}{np nj nk:Nat}{ps js ks:List Int}(h:kq H n v np nj nk ps js ks)(hk:Keep n H H')(hm:n≤m):kq H' m v np nj nk ps js ks:=by
 obtain⟨a,b,c,rfl,h1,h2,h3⟩:=h
 exact⟨a,b,c,rfl,(h1.keep hk (Nat.le_refl _)).up hm,(h2.keep hk (Nat.le_refl _)).up hm,(h3.keep hk (Nat.le_refl _)).up hm⟩
theorem kq.nil{H:Hp}{n:Nat}{v:Value}{np nj nk:Nat}{ps js ks:List Int}(h:kq H n v np nj nk ps js ks)(hp:bw v=true):kq .nil 0 v np nj nk ps js ks:=by
 obtain⟨a,b,c,rfl,h1,h2,h3⟩:=h
 simp only[bw,ox,ck,Bool.and_eq_true,and_true] at hp
 exact⟨a,b,c,rfl,h1.nil hp.1,h2.nil hp.2.1,h3.nil hp.2.2⟩
theorem _root_.Go.Ev.VecAt.low{H:Hp}{n0 n s len:Nat}{e:TypeId}{v:Value}{xs:List Int}(h:VecAt H n0 n s e v len xs){k:Nat}(hb:fj v k):n0≤k∧k<n:=by
 obtain⟨o,l,cp,sp,hb⟩:=hb
 rcases h.2 with⟨rfl,_⟩ | ⟨b,rfl,h1,h2,_⟩
 ·cases hb
 ·cases hb; exact⟨h1,h2⟩
structure GS (H:Hp) (base n:Nat) (x y z a b c:Value) (np nj nk ia ib ic:Nat) (ps js ks:List Int):Prop where
 n0:base+3≤n
 box:aW H base 0 [x,y,z]
 out:H.get (base+2)=some (.cells [a,b,c] 35 false none)
 res:∃ w,H.get (base+1)=some (.cells w 35 false none)∧w.length=3
 sx:SliceI H base 2 x np ps
 sy:SliceI H base 2 y nj js
 sz:SliceI H base 5 z nk ks
 va:VecAt H (base+3) n 2 90 a ia (ps.take (ia * 2))
 vb:VecAt H (base+3) n 2 88 b ib (js.take (ib * 2))
 vc:VecAt H (base+3) n 5 86 c ic (ks.take (ic * 5))
 ab:∀ k,fj a k→¬ fj b k
 ac:∀ k,fj a k→¬ fj c k
 bc:∀ k,fj b k→¬ fj c k
variable {H H':Hp} {base n m np nj nk ia ib ic:Nat} {x y z a b c a':Value} {ps js ks:List Int}
theorem aW.of_get{b o:Nat}{vs:List Value}(h:aW H b o vs)(e:H'.get b=H.get b):aW H' b o vs:=by
 obtain⟨B,c,h1,h2,h3⟩:=h
 exact⟨B,c,by rw[e]; exact h1,h2,h3⟩
theorem GS.same(h:GS H base n x y z a b c np nj nk ia ib ic ps js ks)(v:Value)(hlow:∀ k,fj v k→base+3≤k)(hk:∀ k,k<n→¬ fj v k→H'.get k=H.get k)(X:Option Blk) :
  Keep base H (H'.set (base+2) X)∧aW (H'.set (base+2) X) base 0 [x,y,z]∧(∃ w,(H'.set (base+2) X).get (base+1)=some (.cells w 35 false none)∧w.length=3) ∧
   H'.get (base+2)=some (.cells [a,b,c] 35 false none)∧∀ k,k<n→¬ fj v k→k≠base+2→(H'.set (base+2) X).get k=H.get k:=by
 have hn0:=h.n0
 have get':∀ k,k<n→¬ fj v k→k≠base+2→(H'.set (base+2) X).get k=H.get k:=fun k h1 h2 h3=>by rw[Tr.get_set,if_neg h3]; exact hk k h1 h2
 have off:∀ k,k<base+3→¬ fj v k:=fun k hlt hb=>by have:=hlow k hb; omega
 refine⟨fun k hlt=>get' k (by omega) (off k (by omega)) (by omega),aW.of_get h.box (get' base (by omega) (off _ (by omega)) (by omega)),?_,?_,get'⟩
 ·obtain⟨w,h1,h2⟩:=h.res
  exact⟨w,by rw[get' (base+1) (by omega) (off _ (by omega)) (by omega)]; exact h1,h2⟩
 ·rw[hk (base+2) (by omega) (off _ (by omega))]; exact h.out
theorem GS.pa(h:GS H base n x y z a b c np nj nk ia ib ic ps js ks)(hm:n≤m)(hk:∀ k,k<n→¬ fj a k→H'.get k=H.get k)
  (hv:VecAt H' (base+3) m 2 90 a' (ia+1) (ps.take ((ia+1) * 2))) (hf:∀ k,fj a' k→n≤k) :
  ∃ H'',storeN H' ⟨base+2,0+0,none⟩ [a']=some H''∧Keep base H H''∧GS H'' base m x y z a' b c np nj nk (ia+1) ib ic ps js ks:=by
 have hn0:=h.n0
 obtain⟨k1,k2,k3,k4,k5⟩:=h.same a (fun k hb=>(h.va.low hb).1) hk (some (.cells [a',b,c] 35 false none))
 refine⟨H'.set (base+2) (some (.cells [a',b,c] 35 false none)),?_,k1,⟨by omega,k2,by rw[Tr.get_set,if_pos rfl],k3,h.sx.keep k1 (Nat.le_refl _),h.sy.keep k1 (Nat.le_refl _),h.sz.keep k1 (Nat.le_refl _),?_,?_,?_,?_,?_,h.bc⟩⟩
 ·unfold storeN
  simp only[k4,List.all_cons,hv.leaf.1,List.all_nil,Bool.and_self,if_true]
  rfl
 ·exact hv.same (Nat.le_refl _) fun k _ hb=>by rw[Tr.get_set,if_neg]; have:=(hv.low hb).1; omega
 ·exact h.vb.same hm fun k hlt hb=>k5 k hlt (fun q=>h.ab k q hb) (by have:=(h.vb.low hb).1; omega)
 ·exact h.vc.same hm fun k hlt hb=>k5 k hlt (fun q=>h.ac k q hb) (by have:=(h.vc.low hb).1; omega)
 ·intro k h1 h2; have:=hf k h1; have:=(h.vb.low h2).2; omega
 ·intro k h1 h2; have:=hf k h1; have:=(h.vc.low h2).2; omega
theorem GS.pb(h:GS H base n x y z a b c np nj nk ia ib ic ps js ks)(hm:n≤m)(hk:∀ k,k<n→¬ fj b k→H'.get k=H.get k)
  (hv:VecAt H' (base+3) m 2 88 a' (ib+1) (js.take ((ib+1) * 2))) (hf:∀ k,fj a' k→n≤k) :
  ∃ H'',storeN H' ⟨base+2,0+1,none⟩ [a']=some H''∧Keep base H H''∧GS H'' base m x y z a a' c np nj nk ia (ib+1) ic ps js ks:=by
 have hn0:=h.n0
 obtain⟨k1,k2,k3,k4,k5⟩:=h.same b (fun k hb=>(h.vb.low hb).1) hk (some (.cells [a,a',c] 35 false none))
 refine⟨H'.set (base+2) (some (.cells [a,a',c] 35 false none)),?_,k1,⟨by omega,k2,by rw[Tr.get_set,if_pos rfl],k3,h.sx.keep k1 (Nat.le_refl _),h.sy.keep k1 (Nat.le_refl _),h.sz.keep k1 (Nat.le_refl _),?_,?_,?_,?_,h.ac,?_⟩⟩
 ·unfold storeN
  simp only[k4,List.all_cons,hv.leaf.1,List.all_nil,Bool.and_self,if_true]
  rfl
 ·exact h.va.same hm fun k hlt hb=>k5 k hlt (fun q=>h.ab k hb q) (by have:=(h.va.low hb).1; omega)
 ·exact hv.same (Nat.le_refl _) fun k _ hb=>by rw[Tr.get_set,if_neg]; have:=(hv.low hb).1; omega
 ·exact h.vc.same hm fun k hlt hb=>k5 k hlt (fun q=>h.bc k q hb) (by have:=(h.vc.low hb).1; omega)
 ·intro k h1 h2; have:=hf k h2; have:=(h.va.low h1).2; omega
 ·intro k h1 h2; have:=hf k h1; have:=(h.vc.low h2).2; omega
theorem GS.pc(h:GS H base n x y z a b c np nj nk ia ib ic ps js ks)(hm:n≤m)(hk:∀ k,k<n→¬ fj c k→H'.get k=H.get k)
  (hv:VecAt H' (base+3) m 5 86 a' (ic+1) (ks.take ((ic+1) * 5))) (hf:∀ k,fj a' k→n≤k) :
  ∃ H'',storeN H' ⟨base+2,0+2,none⟩ [a']=some H''∧Keep base H H''∧GS H'' base m x y z a b a' np nj nk ia ib (ic+1) ps js ks:=by
 have hn0:=h.n0
 obtain⟨k1,k2,k3,k4,k5⟩:=h.same c (fun k hb=>(h.vc.low hb).1) hk (some (.cells [a,b,a'] 35 false none))
 refine⟨H'.set (base+2) (some (.cells [a,b,a'] 35 false none)),?_,k1,⟨by omega,k2,by rw[Tr.get_set,if_pos rfl],k3,h.sx.keep k1 (Nat.le_refl _),h.sy.keep k1 (Nat.le_refl _),h.sz.keep k1 (Nat.le_refl _),?_,?_,?_,h.ab,?_,?_⟩⟩
 ·unfold storeN
  simp only[k4,List.all_cons,hv.leaf.1,List.all_nil,Bool.and_self,if_true]
  rfl
 ·exact h.va.same hm fun k hlt hb=>k5 k hlt (fun q=>h.ac k hb q) (by have:=(h.va.low hb).1; omega)
 ·exact h.vb.same hm fun k hlt hb=>k5 k hlt (fun q=>h.bc k hb q) (by have:=(h.vb.low hb).1; omega)
 ·exact hv.same (Nat.le_refl _) fun k _ hb=>by rw[Tr.get_set,if_neg]; have:=(hv.low hb).1; omega
 ·intro k h1 h2; have:=hf k h2; have:=(h.va.low h1).2; omega
 ·intro k h1 h2; have:=hf k h2; have:=(h.vb.low h1).2; omega
end Go.Proofs.Ytmjbdjnnojfhkaa.spec
end
section
namespace Go.Proofs.Ytmjbdjnnojfhkaa.spec
open Go.Ev Go.Proofs.Ytmjbdjnnojfhkaa.nestFits Go.Proofs.Ytmjbdjnnojfhkaa.G
set_option maxRecDepth 100000
variable {ρ:Type}
theorem Fv:fJ P 31=some false:=by kernel_rfl
theorem agg32:fJ P 32=some false:=by kernel_rfl
theorem agg33:fJ P 33=some false:=by kernel_rfl
theorem UZ:fJ P 35=some true:=by kernel_rfl
theorem sz35:szT P 35=some 3:=by kernel_rfl
theorem zero35:iJ P 35=some (.agg #[.slice none 0 0,.slice none 0 0,.slice none 0 0]):=by kernel_rfl
theorem vV(b o:Nat):aw P 35 (.pointer (some ⟨b,o,none⟩)) 0=some (.pointer (some ⟨b,o+0,none⟩)):=by kernel_rfl
theorem fa35_1(b o:Nat):aw P 35 (.pointer (some ⟨b,o,none⟩)) 1=some (.pointer (some ⟨b,o+1,none⟩)):=by kernel_rfl
theorem XQ(b o:Nat):aw P 35 (.pointer (some ⟨b,o,none⟩)) 2=some (.pointer (some ⟨b,o+2,none⟩)):=by kernel_rfl
theorem sl31:jv P 31=some 90:=by kernel_rfl
theorem sl32:jv P 32=some 88:=by kernel_rfl
theorem sl33:jv P 33=some 86:=by kernel_rfl
theorem sz90:szT P 90=some 2:=by kernel_rfl
theorem sz88:szT P 88=some 2:=by kernel_rfl
theorem sz86:szT P 86=some 5:=by kernel_rfl
theorem by90:yQ P 90=some 16:=by kernel_rfl
theorem by88:yQ P 88=some 16:=by kernel_rfl
theorem by86:yQ P 86=some 40:=by kernel_rfl
theorem zero90:iJ P 90=some (.agg #[.int .i64 0,.int .i64 0]):=by kernel_rfl
theorem zero88:iJ P 88=some (.agg #[.int .i64 0,.int .i64 0]):=by kernel_rfl
theorem zero86:iJ P 86=some (.agg #[.int .i64 0,.int .i64 0,.int .i64 0,.int .i64 0,.int .i64 0]):=by kernel_rfl
theorem build90(a b:Int):fK P 90 [(0,.int .i64 a),(1,.int .i64 b)]=some (.agg ⟨[.int .i64 a,.int .i64 b]⟩):=by kernel_rfl
theorem build88(a b:Int):fK P 88 [(0,.int .i64 a),(1,.int .i64 b)]=some (.agg ⟨[.int .i64 a,.int .i64 b]⟩):=by kernel_rfl
theorem build86(y a b c d:Int):fK P 86 [(0,.int .i64 y),(1,.agg ⟨[.int .i64 a,.int .i64 b]⟩),(2,.agg ⟨[.int .i64 c,.int .i64 d]⟩)]=some (.agg ⟨[.int .i64 y,.int .i64 a,.int .i64 b,.int .i64 c,.int .i64 d]⟩):=by kernel_rfl
theorem row31(a b:Int):zj P 31 1 [(0,.agg ⟨[.int .i64 a,.int .i64 b]⟩)]=some ([.int .i64 a,.int .i64 b],90):=by kernel_rfl
theorem row32(a b:Int):zj P 32 1 [(0,.agg ⟨[.int .i64 a,.int .i64 b]⟩)]=some ([.int .i64 a,.int .i64 b],88):=by kernel_rfl
theorem row33(y a b c d:Int):zj P 33 1 [(0,.agg ⟨[.int .i64 y,.int .i64 a,.int .i64 b,.int .i64 c,.int .i64 d]⟩)]=some ([.int .i64 y,.int .i64 a,.int .i64 b,.int .i64 c,.int .i64 d],86):=by kernel_rfl
theorem store31(H:Hp)(b o:Nat){v:Value}(h:tj v=true):bX P 31 (.pointer (some ⟨b,o,none⟩)) v H=storeN H ⟨b,o,none⟩ [v]:=by
 have e:szT P 31=some 1:=by kernel_rfl
 unfold bX; simp only[e]; cases v <;> first | rfl | cases h
theorem store32(H:Hp)(b o:Nat){v:Value}(h:tj v=true):bX P 32 (.pointer (some ⟨b,o,none⟩)) v H=storeN H ⟨b,o,none⟩ [v]:=by
 have e:szT P 32=some 1:=by kernel_rfl
 unfold bX; simp only[e]; cases v <;> first | rfl | cases h
theorem store33(H:Hp)(b o:Nat){v:Value}(h:tj v=true):bX P 33 (.pointer (some ⟨b,o,none⟩)) v H=storeN H ⟨b,o,none⟩ [v]:=by
 have e:szT P 33=some 1:=by kernel_rfl
 unfold bX; simp only[e]; cases v <;> first | rfl | cases h
theorem store35(H:Hp)(b o:Nat)(u v w:Value):bX P 35 (.pointer (some ⟨b,o,none⟩)) (.agg ⟨[u,v,w]⟩) H=storeN H ⟨b,o,none⟩ [u,v,w]:=by kernel_rfl
theorem res18(H:Hp)(b:Nat):resV P (Tr.set Tr.nil 2 (some (.pointer (some ⟨b,0,none⟩)))) H cV=(match az P H 35 ⟨b,0,none⟩ with
 | none=>none
 | some v=>some [v]):=by kernel_rfl
theorem XV(xs:List Int)(i s:Nat)(h:(i+1) * s≤xs.length):xs.take (i * s)++(List.range s).map (fun j=>xs.getD (i * s+j) 0)=xs.take ((i+1) * s):=by
 have e:(i+1) * s=i * s+s:=by rw[Nat.add_mul,Nat.one_mul]
 rw[e,List.take_add]
 congr 1
 apply List.ext_getElem?
 intro k
 rw[List.getElem?_take]
 by_cases hk:k<s
 ·rw[if_pos hk,List.getElem?_drop,List.getElem?_map,List.getElem?_range hk,List.getElem?_eq_getElem (show i * s+k<xs.length by omega)]
  simp [List.getD_eq_getElem?_getD,List.getElem?_eq_getElem (show i * s+k<xs.length by omega)]
 ·rw[if_neg hk,List.getElem?_eq_none (by simp; omega)]
theorem IW{n len cp k:Nat}(h:fj (.slice (some ⟨n,0,none⟩) len cp) k):k=n:=by
 obtain⟨o,l,c,sp,h⟩:=h
 cases h; rfl
def RetG(r:Res)(n base:Nat)(H:Hp)(np nj nk:Nat)(ps js ks:List Int):Prop:=∃ v H' n',r=some (v,H',n')∧n≤n'∧Keep base H H'∧kq H' n' v np nj nk ps js ks
theorem RetG.after{r:Res}{n m base:Nat}{H H2:Hp}{np nj nk:Nat}{ps js ks:List Int}(h:RetG r m base H2 np nj nk ps js ks)(hm:n≤m)(hk:Keep base H H2):RetG r n base H np nj nk ps js ks:=by
 obtain⟨v,H',n',e,h1,h2,h3⟩:=h
 exact⟨v,H',n',e,by omega,hk.trans h2 (Nat.le_refl _),h3⟩
theorem grove_3(l k base np nj nk:Nat)(ps js ks:List Int)(x y z a b:Value)(hps:∀ q ∈ ps,I64 q)(hjs:∀ q ∈ js,I64 q)(hks:∀ q ∈ ks,I64 q)(hlp:ps.length=np * 2)(hlj:js.length=nj * 2)(hlk:ks.length=nk * 5)(hnk:nk≤100) :
  ∀(m i:Nat) (c:Value) (H:Hp) (n:Nat),GS H base n x y z a b c np nj nk np nj i ps js ks→i≤nk→nk-i≤m →
  RetG (S18_3 (cal (l+1)) k m (.pointer (some ⟨base,0,none⟩)) (.pointer (some ⟨base+1,0,none⟩)) (.pointer (some ⟨base+2,0,none⟩)) (.int .i64 i) H n) n base H np nj nk ps js ks:=by
 have body:∀(b3:Value→Value→Value→Value→Hp→Nat→Res) (m i:Nat) (c:Value) (H:Hp) (n:Nat),GS H base n x y z a b c np nj nk np nj i ps js ks→i≤nk →
   (∀ c' H' n',n≤n'→GS H' base n' x y z a b c' np nj nk np nj (i+1) ps js ks→i<nk→RetG (b3 (.pointer (some ⟨base,0,none⟩)) (.pointer (some ⟨base+1,0,none⟩)) (.pointer (some ⟨base+2,0,none⟩)) (.int .i64 ((i+1:Nat):Int)) H' n') n' base H' np nj nk ps js ks) →
   RetG (C18_3 (cal (l+1)) k m b3 (.pointer (some ⟨base,0,none⟩)) (.pointer (some ⟨base+1,0,none⟩)) (.pointer (some ⟨base+2,0,none⟩)) (.int .i64 i) H n) n base H np nj nk ps js ks:=by
  intro b3 m i c H n hs hi ih
  have hn0:=hs.n0
  have hz:=hs.sz
  have hl:az P H 24 ⟨base,0+2,none⟩=some z:=bq hs.box Mv rfl hz.hole.1 hz.hole.2
  have hlen:lenV P 24 z=some (.int .i64 nk):=hz.len_eq IQ
  unfold C18_3 B18_3
  simp only[Dq,aj,ak,hl,hlen,ax cJ,gw]
  by_cases hlt:i<nk
  ·rw[if_pos (by omega)]
   obtain⟨bb,o,hix,hbn,hc⟩:=hz.at_ IQ sz94 hlt
   have hlen2:i * 5+5≤ks.length:=by rw[hz.1]; omega
   have hld:az P H 94 ⟨bb,o+i * 5,none⟩=some (.agg ⟨[.int .i64 (ks.getD (i * 5) 0),.int .i64 (ks.getD (i * 5+1) 0),.int .i64 (ks.getD (i * 5+2) 0),.int .i64 (ks.getD (i * 5+3) 0),.int .i64 (ks.getD (i * 5+4) 0)]⟩):=by
    rw[cw hc agg94 sz94 (by rw[bv]; exact hlen2) (dY _),qdx hlen2]
   have htake:=XV ks i 5 (by omega)
   have hrange:(List.range 5).map (fun j=>ks.getD (i * 5+j) 0)=[ks.getD (i * 5) 0,ks.getD (i * 5+1) 0,ks.getD (i * 5+2) 0,ks.getD (i * 5+3) 0,ks.getD (i * 5+4) 0]:=rfl
   rw[hrange] at htake
   generalize hy:ks.getD (i * 5) 0=w0 at *
   generalize h1:ks.getD (i * 5+1) 0=w1 at *
   generalize h2:ks.getD (i * 5+2) 0=w2 at *
   generalize h3:ks.getD (i * 5+3) 0=w3 at *
   generalize h4:ks.getD (i * 5+4) 0=w4 at *
   simp only[hix,aj,ak,hld,jw zero94,ptr,store94,aZ]
   have hst:=lW (H:=H.set n (some (.cells [.int .i64 0,.int .i64 0,.int .i64 0,.int .i64 0,.int .i64 0] 94 false none))) (b:=n) (c:=[.int .i64 0,.int .i64 0,.int .i64 0,.int .i64 0,.int .i64 0]) (vs:=[.int .i64 w0,.int .i64 w1,.int .i64 w2,.int .i64 w3,.int .i64 w4]) (e:=94) (vec:=none) (by rw[Tr.get_set,if_pos rfl]) rfl rfl
   rw[hst]
   have hkp:Keep n H ((H.set n (some (.cells [.int .i64 0,.int .i64 0,.int .i64 0,.int .i64 0,.int .i64 0] 94 false none))).set n (some (.cells [.int .i64 w0,.int .i64 w1,.int .i64 w2,.int .i64 w3,.int .i64 w4] 94 false none))):=XJ
   have hgn:((H.set n (some (.cells [.int .i64 0,.int .i64 0,.int .i64 0,.int .i64 0,.int .i64 0] 94 false none))).set n (some (.cells [.int .i64 w0,.int .i64 w1,.int .i64 w2,.int .i64 w3,.int .i64 w4] 94 false none))).get n=some (.cells [.int .i64 w0,.int .i64 w1,.int .i64 w2,.int .i64 w3,.int .i64 w4] 94 false none):=by rw[Tr.get_set,if_pos rfl]
   generalize (H.set n (some (.cells [.int .i64 0,.int .i64 0,.int .i64 0,.int .i64 0,.int .i64 0] 94 false none))).set n (some (.cells [.int .i64 w0,.int .i64 w1,.int .i64 w2,.int .i64 w3,.int .i64 w4] 94 false none))=H2 at hkp hgn ⊢
   have hnew:aW H2 n 0 [.int .i64 w0,.int .i64 w1,.int .i64 w2,.int .i64 w3,.int .i64 w4]:=⟨_,_,hgn,rfl,fun k v h=>by simpa using h⟩
   have hq:aW H2 (base+2) 0 [a,b,c]:=⟨_,_,(hkp (base+2) (by omega)).trans hs.out,rfl,fun k v h=>by simpa using h⟩
   have lc:az P H2 33 ⟨base+2,0+2,none⟩=some c:=bq hq agg33 rfl hs.vc.leaf.2.1 hs.vc.leaf.2.2
   have l0:az P H2 3 ⟨n,0+0,none⟩=some (.int .i64 w0):=bj hnew agg3 rfl
   have l1:az P H2 55 ⟨n,0+1,none⟩=some (.agg ⟨[.int .i64 w1,.int .i64 w2]⟩):=cw (k:=1) hnew agg55 sz55 (by simp) rfl
   have l2:az P H2 55 ⟨n,0+3,none⟩=some (.agg ⟨[.int .i64 w3,.int .i64 w4]⟩):=cw (k:=3) hnew agg55 sz55 (by simp) rfl
   simp only[XQ,fa94_0,fa94_1,fa94_2,aj,ak,lc,l0,l1,l2]
   have ok2:∀ H3:Hp,(∀ b,H3.get b=H2.get b)→∀ ex:List Extra,(∀ y ∈ ex,y=.l 55 ⟨n,0+3,none⟩∨y=.l 3 ⟨n,0+0,none⟩∨y=.l 33 ⟨base+2,0+2,none⟩)→UX H3 ex:=by
    intro H3 h3 ex hex y hy
    rcases hex y hy with rfl | rfl | rfl
    ·exact⟨_,_,rfl,.inl ⟨_,_,_,_,by rw[h3]; exact hgn⟩⟩
    ·exact⟨_,_,rfl,.inl ⟨_,_,_,_,by rw[h3]; exact hgn⟩⟩
    ·exact⟨_,_,rfl,.inl ⟨_,_,_,_,by rw[h3]; exact(hkp (base+2) (by omega)).trans hs.out⟩⟩
   obtain⟨H3,s3,e3⟩:=effK_pure (P:=P) (ρ:=Value × Hp × Nat) (ex:=[.l 55 ⟨n,0+3,none⟩,.l 3 ⟨n,0+0,none⟩,.l 33 ⟨base+2,0+2,none⟩]) (H:=H2) (n:=n+1) (v:=.agg ⟨[.int .i64 w1,.int .i64 w2]⟩)
    (op:=fun H n k=>aX P (cal (l+1)) 26 [.agg ⟨[.int .i64 w1,.int .i64 w2]⟩] H n fun v H n=>k v H n) (ok2 H2 (fun _=>rfl) _ (by simp)) (fun H k=>to_call l w1 w2 H (n+1) _)
   rw[e3]
   obtain⟨H4,s4,e4⟩:=effK_pure (P:=P) (ρ:=Value × Hp × Nat) (ex:=[.l 3 ⟨n,0+0,none⟩,.l 33 ⟨base+2,0+2,none⟩]) (H:=H3) (n:=n+1) (v:=.agg ⟨[.int .i64 w3,.int .i64 w4]⟩)
    (op:=fun H n k=>aX P (cal (l+1)) 26 [.agg ⟨[.int .i64 w3,.int .i64 w4]⟩] H n fun v H n=>k v H n) (ok2 H3 s3 _ (by simp)) (fun H k=>to_call l w3 w4 H (n+1) _)
   rw[e4]
   simp only[build86,aj,row33,newK]
   have hrow:aW (H4.set (n+1) (some (.cells [.int .i64 w0,.int .i64 w1,.int .i64 w2,.int .i64 w3,.int .i64 w4] 86 false none))) (n+1) 0 (ints [w0,w1,w2,w3,w4]):=aW.new
   have hk4:Keep n H (H4.set (n+1) (some (.cells [.int .i64 w0,.int .i64 w1,.int .i64 w2,.int .i64 w3,.int .i64 w4] 86 false none))):=fun q hq=>by
    rw[Tr.get_set,if_neg (by omega),s4,s3]; exact hkp q hq
   generalize H4.set (n+1) (some (.cells [.int .i64 w0,.int .i64 w1,.int .i64 w2,.int .i64 w3,.int .i64 w4] 86 false none))=H5 at hrow hk4 ⊢
   have hv5:VecAt H5 (base+3) (n+1+1) 5 86 c i (ks.take (i * 5)):=hs.vc.same (by omega) fun q hq _=>hk4 q hq
   obtain⟨H6,ea,ev,eo⟩:=KX (P:=P) (t:=33) (t2:=33) (cap2:=1) hv5 sl33 sl33 sz86 by86 zero86 rfl hrow rfl (by omega) (by omega) (by omega) (by omega)
   rw[htake] at ev
   unfold stK
   rw[ea]
   simp only[aj,bare]
   obtain⟨H7,es,ek,eg⟩:=hs.pc (m:=n+1+1+1) (by omega) (fun q hq hb=>(eo q (by omega) hb).trans (hk4 q hq)) ev (fun q hb=>by rw[IW hb]; omega)
   rw[store33 _ _ _ (by rfl),es]
   have hI:I64 ((i:Int)+1):=by unfold I64; omega
   have hcast:((i:Int)+1)=((i+1:Nat):Int):=by omega
   simp only[aj,ax (bk hI),hcast]
   exact(ih _ H7 (n+1+1+1) (by omega) eg hlt).after (by omega) ek
  ·rw[if_neg (by omega)]
   have hi':i=nk:=by omega
   subst hi'
   have hq:aW H (base+2) 0 [a,b,c]:=⟨_,_,hs.out,rfl,fun k v h=>by simpa using h⟩
   have l35:az P H 35 ⟨base+2,0,none⟩=some (.agg ⟨[a,b,c]⟩):=cw (o:=0) (k:=0) hq UZ sz35 (by simp) (by simp [hs.va.leaf.2.1,hs.vb.leaf.2.1,hs.vc.leaf.2.1])
   obtain⟨w,hr,hw⟩:=hs.res
   have hst:=lW (H:=H) (b:=base+1) (c:=w) (vs:=[a,b,c]) (e:=35) (vec:=none) hr hw.symm (by simp [hs.va.leaf.1,hs.vb.leaf.1,hs.vc.leaf.1])
   simp only[ak,aj,l35,store35,hst,res18]
   have hnew:=aW.new (H:=H) (n:=base+1) (vs:=[a,b,c]) (e:=35) (ro:=false) (vec:=none)
   have ld:=cw (o:=0) (k:=0) hnew UZ sz35 (by simp) (by simp [hs.va.leaf.2.1,hs.vb.leaf.2.1,hs.vc.leaf.2.1])
   simp only[Nat.add_zero] at ld
   rw[ld]
   have hsame:∀ q,q≠base+1→(H.set (base+1) (some (.cells [a,b,c] 35 false none))).get q=H.get q:=fun q hq=>by rw[Tr.get_set,if_neg hq]
   have va:=hs.va.same (H':=H.set (base+1) (some (.cells [a,b,c] 35 false none))) (Nat.le_refl _) fun q _ hb=>hsame q (by have:=(hs.va.low hb).1; omega)
   have vb:=hs.vb.same (H':=H.set (base+1) (some (.cells [a,b,c] 35 false none))) (Nat.le_refl _) fun q _ hb=>hsame q (by have:=(hs.vb.low hb).1; omega)
   have vc:=hs.vc.same (H':=H.set (base+1) (some (.cells [a,b,c] 35 false none))) (Nat.le_refl _) fun q _ hb=>hsame q (by have:=(hs.vc.low hb).1; omega)
   rw[← hlp,List.take_length] at va
   rw[← hlj,List.take_length] at vb
   rw[← hlk,List.take_length] at vc
   exact⟨_,_,_,rfl,Nat.le_refl _,fun q hq=>hsame q (by omega),a,b,c,rfl,va.slice hps,vb.slice hjs,vc.slice hks⟩
 intro m
 induction m with
 | zero=>
  intro i c H n h1 h2 h3
  exact body _ 0 i c H n h1 h2 (fun _ _ _ _ _ h=>by omega)
 | succ m ih=>
  intro i c H n h1 h2 h3
  exact body _ (m+1) i c H n h1 h2 (fun c' H' n' _ q2 _=>ih (i+1) c' H' n' q2 (by omega) (by omega))
theorem join_at{H:Hp}{n nj i:Nat}{js:List Int}{z:Value}(hz:SliceI H n 2 z nj js)(hk:i<nj) :
  ∃ b o,aJ P 23 z (.int .i64 i)=some (.pointer (some ⟨b,o,none⟩))∧∀ j,j<2→az P H 3 ⟨b,o+j,none⟩=some (.int .i64 (js.getD (i * 2+j) 0)):=by
 obtain⟨b,o,hix,hbn,hc⟩:=hz.at_ UV UQ hk
 refine⟨b,o+i * 2,hix,fun j hj=>?_⟩
 have hlen:i * 2+2≤js.length:=by rw[hz.1]; omega
 rw[show o+i * 2+j=o+(i * 2+j) by omega]
 exact bj hc agg3 (gQ (by rw[List.getD_eq_getElem?_getD,List.getElem?_eq_getElem (show i * 2+j<js.length by omega)]; rfl))
theorem grove_2(l k base np nj nk:Nat)(ps js ks:List Int)(x y z a c:Value)(hps:∀ q ∈ ps,I64 q)(hjs:∀ q ∈ js,I64 q)(hks:∀ q ∈ ks,I64 q)(hlp:ps.length=np * 2)(hlj:js.length=nj * 2)(hlk:ks.length=nk * 5)(hnk:nk≤100)(hnj:nj≤100)(hK:nk≤k) :
  ∀(m i:Nat) (b:Value) (H:Hp) (n:Nat),GS H base n x y z a b c np nj nk np i 0 ps js ks→i≤nj→nj-i≤m →
  RetG (S18_2 (cal (l+1)) k m (.pointer (some ⟨base,0,none⟩)) (.pointer (some ⟨base+1,0,none⟩)) (.pointer (some ⟨base+2,0,none⟩)) (.int .i64 i) H n) n base H np nj nk ps js ks:=by
 have body:∀(b3:Value→Value→Value→Value→Hp→Nat→Res) (m i:Nat) (b:Value) (H:Hp) (n:Nat),GS H base n x y z a b c np nj nk np i 0 ps js ks→i≤nj →
   (∀ b' H' n',n≤n'→GS H' base n' x y z a b' c np nj nk np (i+1) 0 ps js ks→i<nj→RetG (b3 (.pointer (some ⟨base,0,none⟩)) (.pointer (some ⟨base+1,0,none⟩)) (.pointer (some ⟨base+2,0,none⟩)) (.int .i64 ((i+1:Nat):Int)) H' n') n' base H' np nj nk ps js ks) →
   RetG (C18_2 (cal (l+1)) k m b3 (.pointer (some ⟨base,0,none⟩)) (.pointer (some ⟨base+1,0,none⟩)) (.pointer (some ⟨base+2,0,none⟩)) (.int .i64 i) H n) n base H np nj nk ps js ks:=by
  intro b3 m i b H n hs hi ih
  have hn0:=hs.n0
  have hz:=hs.sy
  have hl:az P H 23 ⟨base,0+1,none⟩=some y:=bq hs.box agg23 rfl hz.hole.1 hz.hole.2
  have hlen:lenV P 23 y=some (.int .i64 nj):=hz.len_eq UV
  unfold C18_2 B18_2
  simp only[Xy,aj,ak,hl,hlen,ax cJ,gw]
  by_cases hlt:i<nj
  ·rw[if_pos (by omega)]
   obtain⟨bb,o,hix,hld⟩:=join_at hz hlt
   have hlen2:(i+1) * 2≤js.length:=by rw[hz.1]; omega
   have htake:=XV js i 2 hlen2
   have hrange:(List.range 2).map (fun j=>js.getD (i * 2+j) 0)=[js.getD (i * 2) 0,js.getD (i * 2+1) 0]:=rfl
   rw[hrange] at htake
   have q0:=hld 0 (by omega)
   have q1:=hld 1 (by omega)
   simp only[Nat.add_zero] at q0
   have hq:aW H (base+2) 0 [a,b,c]:=⟨_,_,hs.out,rfl,fun k v h=>by simpa using h⟩
   have lc:az P H 32 ⟨base+2,0+1,none⟩=some b:=bq hq agg32 rfl hs.vb.leaf.2.1 hs.vb.leaf.2.2
   simp only[fa35_1,hix,aj,ak,PK,Qj,lc,Nat.add_zero,q0,q1,build88,row32,newK]
   have hrow:aW (H.set n (some (.cells [.int .i64 (js.getD (i * 2) 0),.int .i64 (js.getD (i * 2+1) 0)] 88 false none))) n 0 (ints [js.getD (i * 2) 0,js.getD (i * 2+1) 0]):=aW.new
   have hk4:Keep n H (H.set n (some (.cells [.int .i64 (js.getD (i * 2) 0),.int .i64 (js.getD (i * 2+1) 0)] 88 false none))):=(Keep.refl n H).set (Nat.le_refl _) _
   generalize H.set n (some (.cells [.int .i64 (js.getD (i * 2) 0),.int .i64 (js.getD (i * 2+1) 0)] 88 false none))=H5 at hrow hk4 ⊢
   have hv5:VecAt H5 (base+3) (n+1) 2 88 b i (js.take (i * 2)):=hs.vb.same (by omega) fun q hq _=>hk4 q hq
   obtain⟨H6,ea,ev,eo⟩:=KX (P:=P) (t:=32) (t2:=32) (cap2:=1) hv5 sl32 sl32 sz88 by88 zero88 rfl hrow rfl (by omega) (by omega) (by omega) (by omega)
   rw[htake] at ev
   unfold stK
   rw[ea]
   simp only[aj,bare]
   obtain⟨H7,es,ek,eg⟩:=hs.pb (m:=n+1+1) (by omega) (fun q hq hb=>(eo q (by omega) hb).trans (hk4 q hq)) ev (fun q hb=>by rw[IW hb]; omega)
   rw[store32 _ _ _ (by rfl),es]
   have hI:I64 ((i:Int)+1):=by unfold I64; omega
   have hcast:((i:Int)+1)=((i+1:Nat):Int):=by omega
   simp only[aj,ax (bk hI),hcast]
   exact(ih _ H7 (n+1+1) (by omega) eg hlt).after (by omega) ek
  ·rw[if_neg (by omega)]
   have hi':i=nj:=by omega
   subst hi'
   exact grove_3 l k base np i nk ps js ks x y z a b hps hjs hks hlp hlj hlk hnk k 0 c H n hs (by omega) (by omega)
 intro m
 induction m with
 | zero=>
  intro i b H n h1 h2 h3
  exact body _ 0 i b H n h1 h2 (fun _ _ _ _ _ h=>by omega)
 | succ m ih=>
  intro i b H n h1 h2 h3
  exact body _ (m+1) i b H n h1 h2 (fun b' H' n' _ q2 _=>ih (i+1) b' H' n' q2 (by omega) (by omega))
theorem grove_1(l k base np nj nk:Nat)(ps js ks:List Int)(x y z b c:Value)(hps:∀ q ∈ ps,I64 q)(hjs:∀ q ∈ js,I64 q)(hks:∀ q ∈ ks,I64 q)(hlp:ps.length=np * 2)(hlj:js.length=nj * 2)(hlk:ks.length=nk * 5)(hnk:nk≤100)(hnj:nj≤100)(hnp:np≤100)(hK:nk≤k)(hK2:nj≤k) :
  ∀(m i:Nat) (a:Value) (H:Hp) (n:Nat),GS H base n x y z a b c np nj nk i 0 0 ps js ks→i≤np→np-i≤m →
  RetG (S18_1 (cal (l+1)) k m (.pointer (some ⟨base,0,none⟩)) (.pointer (some ⟨base+1,0,none⟩)) (.pointer (some ⟨base+2,0,none⟩)) (.int .i64 i) H n) n base H np nj nk ps js ks:=by
 have body:∀(b3:Value→Value→Value→Value→Hp→Nat→Res) (m i:Nat) (a:Value) (H:Hp) (n:Nat),GS H base n x y z a b c np nj nk i 0 0 ps js ks→i≤np →
   (∀ a' H' n',n≤n'→GS H' base n' x y z a' b c np nj nk (i+1) 0 0 ps js ks→i<np→RetG (b3 (.pointer (some ⟨base,0,none⟩)) (.pointer (some ⟨base+1,0,none⟩)) (.pointer (some ⟨base+2,0,none⟩)) (.int .i64 ((i+1:Nat):Int)) H' n') n' base H' np nj nk ps js ks) →
   RetG (C18_1 (cal (l+1)) k m b3 (.pointer (some ⟨base,0,none⟩)) (.pointer (some ⟨base+1,0,none⟩)) (.pointer (some ⟨base+2,0,none⟩)) (.int .i64 i) H n) n base H np nj nk ps js ks:=by
  intro b3 m i a H n hs hi ih
  have hn0:=hs.n0
  have hz:=hs.sx
  have hl:az P H 22 ⟨base,0+0,none⟩=some x:=bq hs.box Sj rfl hz.hole.1 hz.hole.2
  have hlen:lenV P 22 x=some (.int .i64 np):=hz.len_eq Mw
  unfold C18_1 B18_1
  simp only[Fq,aj,ak,hl,hlen,ax cJ,gw]
  by_cases hlt:i<np
  ·rw[if_pos (by omega)]
   obtain⟨bb,o,hix,hld⟩:=pad_at hz hlt
   have hlen2:(i+1) * 2≤ps.length:=by rw[hz.1]; omega
   have htake:=XV ps i 2 hlen2
   have hrange:(List.range 2).map (fun j=>ps.getD (i * 2+j) 0)=[ps.getD (i * 2) 0,ps.getD (i * 2+1) 0]:=rfl
   rw[hrange] at htake
   have q0:=hld 0 (by omega)
   have q1:=hld 1 (by omega)
   simp only[Nat.add_zero] at q0 hl
   have hq:aW H (base+2) 0 [a,b,c]:=⟨_,_,hs.out,rfl,fun k v h=>by simpa using h⟩
   have lc:az P H 31 ⟨base+2,0+0,none⟩=some a:=bq hq Fv rfl hs.va.leaf.2.1 hs.va.leaf.2.2
   simp only[Nat.add_zero] at lc
   simp only[vV,hix,hl,aj,ak,fa95_0,fa95_1,lc,Nat.add_zero,q0,q1,build90,row31,newK]
   have hrow:aW (H.set n (some (.cells [.int .i64 (ps.getD (i * 2) 0),.int .i64 (ps.getD (i * 2+1) 0)] 90 false none))) n 0 (ints [ps.getD (i * 2) 0,ps.getD (i * 2+1) 0]):=aW.new
   have hk4:Keep n H (H.set n (some (.cells [.int .i64 (ps.getD (i * 2) 0),.int .i64 (ps.getD (i * 2+1) 0)] 90 false none))):=(Keep.refl n H).set (Nat.le_refl _) _
   generalize H.set n (some (.cells [.int .i64 (ps.getD (i * 2) 0),.int .i64 (ps.getD (i * 2+1) 0)] 90 false none))=H5 at hrow hk4 ⊢
   have hv5:VecAt H5 (base+3) (n+1) 2 90 a i (ps.take (i * 2)):=hs.va.same (by omega) fun q hq _=>hk4 q hq
   obtain⟨H6,ea,ev,eo⟩:=KX (P:=P) (t:=31) (t2:=31) (cap2:=1) hv5 sl31 sl31 sz90 by90 zero90 rfl hrow rfl (by omega) (by omega) (by omega) (by omega)
   rw[htake] at ev
   unfold stK
   rw[ea]
   simp only[aj,bare]
   obtain⟨H7,es,ek,eg⟩:=hs.pa (m:=n+1+1) (by omega) (fun q hq hb=>(eo q (by omega) hb).trans (hk4 q hq)) ev (fun q hb=>by rw[IW hb]; omega)
   simp only[Nat.add_zero] at es
   rw[store31 _ _ _ (by rfl),es]
   have hI:I64 ((i:Int)+1):=by unfold I64; omega
   have hcast:((i:Int)+1)=((i+1:Nat):Int):=by omega
   simp only[aj,ax (bk hI),hcast]
   exact(ih _ H7 (n+1+1) (by omega) eg hlt).after (by omega) ek
  ·rw[if_neg (by omega)]
   have hi':i=np:=by omega
   subst hi'
   exact grove_2 l k base i nj nk ps js ks x y z a c hps hjs hks hlp hlj hlk hnk hnj hK k 0 b H n hs (by omega) (by omega)
 intro m
 induction m with
 | zero=>
  intro i a H n h1 h2 h3
  exact body _ 0 i a H n h1 h2 (fun _ _ _ _ _ h=>by omega)
 | succ m ih=>
  intro i a H n h1 h2 h3
  exact body _ (m+1) i a H n h1 h2 (fun a' H' n' _ q2 _=>ih (i+1) a' H' n' q2 (by omega) (by omega))
theorem nil_vec{H:Hp}{n0 n s:Nat}{e:TypeId}{xs:List Int}:VecAt H n0 n s e (.slice none 0 0) 0 (xs.take (0 * s)):=⟨by simp,.inl ⟨rfl,rfl⟩⟩
theorem qdv{v:Value}{k:Nat}:¬ fj (.slice none 0 0) k:=by
 rintro⟨o,l,c,sp,h⟩; cases h
theorem grove_spec(l:Nat){np nj nk:Nat}{ps js ks:List Int}{H:Hp}{n:Nat}{v:Value}(hg:GroveI H n v np nj nk ps js ks)(hnp:np≤100)(hnj:nj≤100)(hnk:nk≤100) :
  RetG (C18_0 (cal (l+1)) KK v H n) n n H np nj nk ps js ks:=by
 obtain⟨x,y,z,rfl,h1,h2,h3⟩:=hg.eq
 unfold C18_0 B18_0
 simp only[dZ,jw zero35,aZ,ptr]
 have hk:Keep n H (((H.set n (some (.cells [x,y,z] 26 false none))).set (n+1) (some (.cells [.slice none 0 0,.slice none 0 0,.slice none 0 0] 35 false none))).set (n+1+1) (some (.cells [.slice none 0 0,.slice none 0 0,.slice none 0 0] 35 false none))):=
  (((Keep.refl n H).set (Nat.le_refl _) _).set (by omega) _).set (by omega) _
 have hb:aW (((H.set n (some (.cells [x,y,z] 26 false none))).set (n+1) (some (.cells [.slice none 0 0,.slice none 0 0,.slice none 0 0] 35 false none))).set (n+1+1) (some (.cells [.slice none 0 0,.slice none 0 0,.slice none 0 0] 35 false none))) n 0 [x,y,z]:=
  (aW.new.set (by omega)).set (by omega)
 have hr:(((H.set n (some (.cells [x,y,z] 26 false none))).set (n+1) (some (.cells [.slice none 0 0,.slice none 0 0,.slice none 0 0] 35 false none))).set (n+1+1) (some (.cells [.slice none 0 0,.slice none 0 0,.slice none 0 0] 35 false none))).get (n+1)=some (.cells [.slice none 0 0,.slice none 0 0,.slice none 0 0] 35 false none):=by
  rw[Tr.get_set,if_neg (by omega),Tr.get_set,if_pos rfl]
 have ho:(((H.set n (some (.cells [x,y,z] 26 false none))).set (n+1) (some (.cells [.slice none 0 0,.slice none 0 0,.slice none 0 0] 35 false none))).set (n+1+1) (some (.cells [.slice none 0 0,.slice none 0 0,.slice none 0 0] 35 false none))).get (n+2)=some (.cells [.slice none 0 0,.slice none 0 0,.slice none 0 0] 35 false none):=by
  rw[Tr.get_set,if_pos rfl]
 generalize ((H.set n (some (.cells [x,y,z] 26 false none))).set (n+1) (some (.cells [.slice none 0 0,.slice none 0 0,.slice none 0 0] 35 false none))).set (n+1+1) (some (.cells [.slice none 0 0,.slice none 0 0,.slice none 0 0] 35 false none))=H1 at hk hb hr ho ⊢
 refine RetG.after (m:=n+1+1+1) (H2:=H1) (grove_1 l KK n np nj nk ps js ks x y z (.slice none 0 0) (.slice none 0 0) h1.2.1 h2.2.1 h3.2.1 h1.1 h2.1 h3.1 hnk hnj hnp (by unfold KK; omega) (by unfold KK; omega) KK 0 (.slice none 0 0) H1 (n+1+1+1) ?_ (by omega) (by unfold KK; omega)) (by omega) hk
 exact⟨by omega,hb,ho,⟨_,hr,rfl⟩,h1.keep hk (Nat.le_refl _),h2.keep hk (Nat.le_refl _),h3.keep hk (Nat.le_refl _),nil_vec,nil_vec,nil_vec,fun k h=>absurd h (qdv (v:=x)),fun k h=>absurd h (qdv (v:=x)),fun k h=>absurd h (qdv (v:=x))⟩
theorem call18(l:Nat)(a:Value)(H:Hp)(n:Nat):(cal (l+1)).call 18 [a] H n=C18_0 (cal l) KK a H n:=by kernel_rfl
theorem flat18:iY P 18=false:=by kernel_rfl
theorem grove_call(l:Nat){np nj nk:Nat}{ps js ks:List Int}{H:Hp}{n:Nat}{v:Value}(hg:GroveI H n v np nj nk ps js ks)(hnp:np≤100)(hnj:nj≤100)(hnk:nk≤100) :
  ∃ u H' n',(∀ k:Value→Hp→Nat→Option ρ,aX P (cal (l+2)) 18 [v] H n k=k u H' n')∧n≤n'∧Keep n H H'∧kq H' n' u np nj nk ps js ks:=by
 obtain⟨u,H',n',e,h1,h2,h3⟩:=grove_spec l hg hnp hnj hnk
 refine⟨u,H',n',fun k=>?_,h1,h2,h3⟩
 unfold aX
 rw[flat18,call18,e]
 rfl
end Go.Proofs.Ytmjbdjnnojfhkaa.spec
end
section
namespace Go.Ev
open Go
variable {P:Program} {ρ:Type}
theorem rV{H:Hp}{b:Nat}{c vs:List Value}{e:TypeId}{vec:Option Nat}(h:H.get b=some (.cells c e false vec))(hl:vs.length=c.length)(hv:vs.all tj=true) :
  storeN H ⟨b,0,none⟩ vs=some (H.set b (some (.cells vs e false vec))):=by
 have key:∀(c vs:List Value),vs.length=c.length→ij.over c vs=some vs:=by
  intro c
  induction c with
  | nil=>intro vs hl; cases vs with
   | nil=>rfl
   | cons v vs=>simp at hl
  | cons x c ih=>intro vs hl; cases vs with
   | nil=>simp at hl
   | cons v vs=>simp [ij.over,ih vs (by simpa using hl)]
 unfold storeN
 simp only[h,hv,if_true]
 have:ij c 0 vs=some vs:=by unfold ij; exact key c vs hl
 rw[this]
theorem xq{t:TypeId}{s:Nat}{L:List Value}{a:Addr}{H:Hp}(hs:szT P t=some s)(hl:L.length=s):bX P t (.pointer (some a)) (.agg ⟨L⟩) H=storeN H a L:=by
 unfold bX
 simp only[hs,aZ,hl,if_true]
theorem rz{t:TypeId}{a:Addr}{H:Hp}{v:Value}(hs:szT P t=some 1)(h:tj v=true):bX P t (.pointer (some a)) v H=storeN H a [v]:=by
 unfold bX
 simp only[hs]
 cases v <;> first | rfl | cases h
theorem fY{t:TypeId}{s b:Nat}{L:List Value}{H:Hp}{e:TypeId}{vec:Option Nat}(h:H.get b=some (.cells L e false vec))(ha:fJ P t=some true)(hs:szT P t=some s)(hl:L.length=s) :
  az P H t ⟨b,0,none⟩=some (.agg ⟨L⟩):=by
 unfold az
 simp only[h,Cy,ha,hs]
 unfold cut
 simp [hl]
 exact List.take_of_length_le (by omega)
theorem dv{b:Nat}{L:List Value}{H:Hp}{e:TypeId}{ro:Bool}{vec:Option Nat}(h:H.get b=some (.cells L e ro vec)):aW H b 0 L:=⟨_,L,h,rfl,fun k v hv=>by simpa using hv⟩
theorem vk{t:TypeId}{s:Nat}{z:Value}{L:List Value}{H:Hp}{n:Nat}(hz:iJ P t=some z)(hzl:(aZ z).length=s)(hs:szT P t=some s)(hl:L.length=s)(hf:L.all tj=true) :
  ∃ H',Keep n H H'∧H'.get n=some (.cells L t false none)∧∀ k:Value→Hp→Nat→Option ρ,
   (eQ P t H n fun v H2 n2=>aq (bX P t v (.agg ⟨L⟩) H2) fun H3=>k v H3 n2)=k (.pointer (some ⟨n,0,none⟩)) H' (n+1):=by
 refine⟨(H.set n (some (.cells (aZ z) t false none))).set n (some (.cells L t false none)),((Keep.refl n H).set (Nat.le_refl _) _).set (Nat.le_refl _) _,by rw[Tr.get_set,if_pos rfl],fun k=>?_⟩
 rw[jw hz]
 simp only[ptr]
 rw[xq hs hl,rV (c:=aZ z) (by rw[Tr.get_set,if_pos rfl]) (by omega) hf]
 rfl
theorem Qq{xs:List Int}{i s:Nat}(h:i * s+s≤xs.length):(((ints xs).drop (i * s)).take s).length=s∧(((ints xs).drop (i * s)).take s).all tj=true:=by
 refine⟨by simp [bv]; omega,?_⟩
 rw[EK]; exact kJ _
theorem callVK_f{cal:Cal}{g:FuncId}{a b:List Value}{args:List Value}{H:Hp}{n:Nat}{k:Value→Hp→Nat→Option ρ} :
  lQ P cal (.func (.func g) ⟨a⟩ ⟨b⟩) args H n k=aX P cal g (a++args++b) H n k:=rfl
end Go.Ev
end
section
namespace Go.Proofs.Ytmjbdjnnojfhkaa.spec
open Go.Ev Go.Proofs.Ytmjbdjnnojfhkaa.nestFits Go.Proofs.Ytmjbdjnnojfhkaa.G
set_option maxRecDepth 100000
variable {ρ:Type}
theorem fa90_0(b o:Nat):aw P 90 (.pointer (some ⟨b,o,none⟩)) 0=some (.pointer (some ⟨b,o+0,none⟩)):=by kernel_rfl
theorem fa90_1(b o:Nat):aw P 90 (.pointer (some ⟨b,o,none⟩)) 1=some (.pointer (some ⟨b,o+1,none⟩)):=by kernel_rfl
theorem fa53_0(b o:Nat):aw P 53 (.pointer (some ⟨b,o,none⟩)) 0=some (.pointer (some ⟨b,o+0,none⟩)):=by kernel_rfl
theorem fa53_1(b o:Nat):aw P 53 (.pointer (some ⟨b,o,none⟩)) 1=some (.pointer (some ⟨b,o+1,none⟩)):=by kernel_rfl
theorem fa86_0(b o:Nat):aw P 86 (.pointer (some ⟨b,o,none⟩)) 0=some (.pointer (some ⟨b,o+0,none⟩)):=by kernel_rfl
theorem fa86_1(b o:Nat):aw P 86 (.pointer (some ⟨b,o,none⟩)) 1=some (.pointer (some ⟨b,o+1,none⟩)):=by kernel_rfl
theorem fa86_2(b o:Nat):aw P 86 (.pointer (some ⟨b,o,none⟩)) 2=some (.pointer (some ⟨b,o+3,none⟩)):=by kernel_rfl
theorem Fx:P.underlying 31=some (.slice 90):=by kernel_rfl
theorem und32:P.underlying 32=some (.slice 88):=by kernel_rfl
theorem und33:P.underlying 33=some (.slice 86):=by kernel_rfl
theorem agg90:fJ P 90=some true:=by kernel_rfl
theorem agg88:fJ P 88=some true:=by kernel_rfl
theorem agg86:fJ P 86=some true:=by kernel_rfl
theorem qdw{b b':Bool}{H:Hp}{n:Nat}(h:b=b'):(some (.bool b,H,n):Res)=some (.bool b',H,n):=by rw[h]
def okR(a b:Int):Prop:=0≤a∧a≤b∧b≤1000
instance (a b:Int):Decidable (okR a b):=by unfold okR; infer_instance
theorem valid92_spec(c:Cal)(k:Nat)(a b:Int):∃ H' n',C92_0 c k (.agg ⟨[.int .i64 a,.int .i64 b]⟩) .nil 0=some (.bool (decide (okR a b)),H',n'):=by
 unfold C92_0 B92_0
 simp only[dZ,aZ,ptr]
 have h0:aW ((Tr.nil:Hp).set 0 (some (.cells [.int .i64 a,.int .i64 b] 90 false none))) 0 0 [.int .i64 a,.int .i64 b]:=aW.new
 generalize (Tr.nil:Hp).set 0 (some (.cells [.int .i64 a,.int .i64 b] 90 false none))=H1 at h0 ⊢
 have l0:az P H1 3 ⟨0,0+0,none⟩=some (.int .i64 a):=bj h0 agg3 rfl
 have l1:az P H1 3 ⟨0,0+1,none⟩=some (.int .i64 b):=bj h0 agg3 rfl
 simp only[fa90_0,fa90_1,aj,ak,l0,ax PZ]
 unfold okR
 cases c1:decide (0≤a) <;> cases c2:decide (a≤b) <;> cases c3:decide (b≤1000) <;>
  simp only[dk,eJ,jk,aj,dw,dQ,c2,c3,ak,l0,l1,ax wW] <;>
  refine⟨_,_,qdw ?_⟩ <;> simp only[decide_eq_true_eq,decide_eq_false_iff_not] at c1 c2 c3 <;> simp [c1,c2,c3]
theorem flat92:iY P 92=true:=by kernel_rfl
theorem call92(l:Nat)(a:Value)(H:Hp)(n:Nat):(cal (l+1)).call 92 [a] H n=C92_0 (cal l) KK a H n:=by kernel_rfl
theorem valid92_call(l:Nat)(a b:Int)(H:Hp)(n:Nat)(k:Value→Hp→Nat→Option ρ) :
  aX P (cal (l+1)) 92 [.agg ⟨[.int .i64 a,.int .i64 b]⟩] H n k=k (.bool (decide (okR a b))) H n:=by
 obtain⟨H',n',e⟩:=valid92_spec (cal l) KK a b
 exact iZ flat92 rfl ((call92 ..).trans e) rfl
theorem valid114_spec(c:Cal)(k:Nat)(a b:Int):∃ H' n',Zw c k (.agg ⟨[.int .i64 a,.int .i64 b]⟩) .nil 0=some (.bool (decide (okR a b)),H',n'):=by
 unfold Zw B114_0
 simp only[dZ,aZ,ptr]
 have h0:aW ((Tr.nil:Hp).set 0 (some (.cells [.int .i64 a,.int .i64 b] 53 false none))) 0 0 [.int .i64 a,.int .i64 b]:=aW.new
 generalize (Tr.nil:Hp).set 0 (some (.cells [.int .i64 a,.int .i64 b] 53 false none))=H1 at h0 ⊢
 have l0:az P H1 3 ⟨0,0+0,none⟩=some (.int .i64 a):=bj h0 agg3 rfl
 have l1:az P H1 3 ⟨0,0+1,none⟩=some (.int .i64 b):=bj h0 agg3 rfl
 simp only[fa53_0,fa53_1,aj,ak,l0,ax PZ]
 unfold okR
 cases c1:decide (0≤a) <;> cases c2:decide (a≤b) <;> cases c3:decide (b≤1000) <;>
  simp only[dk,eJ,jk,aj,dw,dQ,c2,c3,ak,l0,l1,ax wW] <;>
  refine⟨_,_,qdw ?_⟩ <;> simp only[decide_eq_true_eq,decide_eq_false_iff_not] at c1 c2 c3 <;> simp [c1,c2,c3]
theorem flat114:iY P 114=true:=by kernel_rfl
theorem call114(l:Nat)(a:Value)(H:Hp)(n:Nat):(cal (l+1)).call 114 [a] H n=Zw (cal l) KK a H n:=by kernel_rfl
theorem valid114_call(l:Nat)(a b:Int)(H:Hp)(n:Nat)(k:Value→Hp→Nat→Option ρ) :
  aX P (cal (l+1)) 114 [.agg ⟨[.int .i64 a,.int .i64 b]⟩] H n k=k (.bool (decide (okR a b))) H n:=by
 obtain⟨H',n',e⟩:=valid114_spec (cal l) KK a b
 exact iZ flat114 rfl ((call114 ..).trans e) rfl
def okK(y a b c d:Int):Prop:=(0≤y∧y≤1000)∧okR a b∧okR c d
instance (y a b c d:Int):Decidable (okK y a b c d):=by unfold okK; infer_instance
theorem valid96_spec(l k:Nat)(y a b c d:Int):∃ H' n',C96_0 (cal (l+1)) k (.agg ⟨[.int .i64 y,.int .i64 a,.int .i64 b,.int .i64 c,.int .i64 d]⟩) .nil 0=some (.bool (decide (okK y a b c d)),H',n'):=by
 unfold C96_0 B96_0
 simp only[dZ,aZ,ptr]
 have h0:aW ((Tr.nil:Hp).set 0 (some (.cells [.int .i64 y,.int .i64 a,.int .i64 b,.int .i64 c,.int .i64 d] 86 false none))) 0 0 [.int .i64 y,.int .i64 a,.int .i64 b,.int .i64 c,.int .i64 d]:=aW.new
 generalize (Tr.nil:Hp).set 0 (some (.cells [.int .i64 y,.int .i64 a,.int .i64 b,.int .i64 c,.int .i64 d] 86 false none))=H1 at h0 ⊢
 have l0:az P H1 3 ⟨0,0+0,none⟩=some (.int .i64 y):=bj h0 agg3 rfl
 have l1:az P H1 53 ⟨0,0+1,none⟩=some (.agg ⟨[.int .i64 a,.int .i64 b]⟩):=cw (k:=1) h0 UY sz53 (by simp) rfl
 have l2:az P H1 53 ⟨0,0+3,none⟩=some (.agg ⟨[.int .i64 c,.int .i64 d]⟩):=cw (k:=3) h0 UY sz53 (by simp) rfl
 simp only[fa86_0,fa86_1,fa86_2,aj,ak,l0,ax PZ]
 unfold okK
 cases c1:decide (0≤y) <;> cases c2:decide (y≤1000) <;> cases c3:decide (okR a b) <;> cases c4:decide (okR c d) <;>
  simp only[dk,eJ,jk,aj,dw,dQ,c2,c3,c4,ak,l0,l1,l2,ax wW,valid114_call] <;>
  refine⟨_,_,qdw ?_⟩ <;> simp only[decide_eq_true_eq,decide_eq_false_iff_not] at c1 c2 c3 c4 <;> simp [c1,c2,c3,c4]
theorem flat96:iY P 96=true:=by kernel_rfl
theorem call96(l:Nat)(a:Value)(H:Hp)(n:Nat):(cal (l+1)).call 96 [a] H n=C96_0 (cal l) KK a H n:=by kernel_rfl
theorem valid96_call(l:Nat)(y a b c d:Int)(H:Hp)(n:Nat)(k:Value→Hp→Nat→Option ρ) :
  aX P (cal (l+2)) 96 [.agg ⟨[.int .i64 y,.int .i64 a,.int .i64 b,.int .i64 c,.int .i64 d]⟩] H n k=k (.bool (decide (okK y a b c d))) H n:=by
 obtain⟨H',n',e⟩:=valid96_spec l KK y a b c d
 exact iZ flat96 rfl ((call96 ..).trans e) rfl
def Ax(c:Cal)(fv:Value)(s:Nat)(xs:List Int)(len:Nat)(p:Nat→Prop)(H0:Hp)(n0:Nat):Prop:=
 ∀ i,i<len→∀(H:Hp) (n:Nat),n0≤n→Keep n0 H0 H→∃(b:Bool) (H':Hp) (n':Nat),(b=true↔p i) ∧
  (∀ k:Value→Hp→Nat→Res,lQ P c fv [.agg ⟨((ints xs).drop (i * s)).take s⟩] H n k=k (.bool b) H' n')∧n≤n'∧Keep n H H'
theorem each91_loop(c:Cal)(k:Nat)(fv v:Value)(xs:List Int)(len:Nat)(p:Nat→Prop)(H0:Hp)(n0:Nat)(hx:eK H0 n0 2 v len xs)(hlen:len≤1000)(hf:Ax c fv 2 xs len p H0 n0) :
  ∀(m i:Nat) (H:Hp) (n:Nat),n0≤n→Keep n0 H0 H→i≤len→len-i≤m →
  ∃ r,Ret (S91_1 c k m fv v (.int .i64 len) (.int .i64 i) H n) n H (.bool r)∧(r=true↔∀ q,i≤q→q<len→p q):=by
 have body:∀(b1:Value→Value→Value→Value→Hp→Nat→Res) (m i:Nat) (H:Hp) (n:Nat),n0≤n→Keep n0 H0 H→i≤len →
   (∀ H' n',n≤n'→Keep n H H'→i<len→∃ r,Ret (b1 fv v (.int .i64 len) (.int .i64 ((i+1:Nat):Int)) H' n') n' H' (.bool r)∧(r=true↔∀ q,i+1≤q→q<len→p q)) →
   ∃ r,Ret (C91_1 c k m b1 fv v (.int .i64 len) (.int .i64 i) H n) n H (.bool r)∧(r=true↔∀ q,i≤q→q<len→p q):=by
  intro b1 m i H n hn hk hi ih
  unfold C91_1 B91_1
  simp only[ax cJ,gw]
  by_cases hlt:i<len
  ·rw[if_pos (by omega)]
   have hx':=(hx.keep hk (Nat.le_refl _)).up hn
   obtain⟨bb,o,hix,hbn,hc⟩:=hx'.at_ Fx sz90 hlt
   have hl2:i * 2+2≤xs.length:=by rw[hx.1]; omega
   obtain⟨g1,g2⟩:=Qq hl2
   have hld:az P H 90 ⟨bb,o+i * 2,none⟩=some (.agg ⟨((ints xs).drop (i * 2)).take 2⟩):=cw hc agg90 sz90 (by rw[bv]; exact hl2) (dY _)
   obtain⟨H1,k1,k2,k3⟩:=vk (P:=P) (ρ:=Value × Hp × Nat) (H:=H) (n:=n) zero90 rfl sz90 g1 g2
   simp only[hix,aj,ak,hld]
   rw[k3]
   have hback:=fY k2 agg90 sz90 g1
   obtain⟨b,H2,n2,e1,e2,e3,e4⟩:=hf i hlt H1 (n+1) (by omega) (hk.trans k1 hn)
   have kk:Keep n H H2:=k1.trans e4 (by omega)
   simp only[ak,aj,hback]
   rw[e2]
   cases b with
   | false=>
    simp only[tv,aj,fX]
    refine⟨false,⟨H2,n2,rfl,by omega,kk⟩,⟨fun h=>(by cases h),fun h=>?_⟩⟩
    exact absurd (e1.2 (h i (Nat.le_refl _) hlt)) (by simp)
   | true=>
    have hI:I64 ((i:Int)+1):=by unfold I64; omega
    have hcast:((i:Int)+1)=((i+1:Nat):Int):=by omega
    simp only[qK,aj,ez,ax (bk hI),hcast]
    obtain⟨r,⟨H',n',q1,q2,q3⟩,q4⟩:=ih H2 n2 (by omega) kk hlt
    refine⟨r,⟨H',n',q1,by omega,kk.trans q3 (by omega)⟩,q4.trans ⟨fun h q h1 h2=>?_,fun h q h1 h2=>h q (by omega) h2⟩⟩
    rcases Nat.eq_or_lt_of_le h1 with z | z
    ·subst z; exact e1.1 rfl
    ·exact h q z h2
  ·rw[if_neg (by omega)]
   exact⟨true,⟨H,n,rfl,Nat.le_refl _,Keep.refl _ _⟩,⟨fun _ q h1 h2=>by omega,fun _=>rfl⟩⟩
 intro m
 induction m with
 | zero=>
  intro i H n h1 h2 h3 h4
  exact body _ 0 i H n h1 h2 h3 (fun _ _ _ _ h=>by omega)
 | succ m ih=>
  intro i H n h1 h2 h3 h4
  exact body _ (m+1) i H n h1 h2 h3 (fun H' n' q1 q2 q3=>ih (i+1) H' n' (by omega) (h2.trans q2 h1) (by omega) (by omega))
theorem each91_spec(c:Cal)(fv v:Value)(xs:List Int)(len:Nat)(p:Nat→Prop)(H:Hp)(n:Nat)(hx:eK H n 2 v len xs)(hlen:len≤1000)(hf:Ax c fv 2 xs len p H n) :
  ∃ r,Ret (C91_0 c KK v fv H n) n H (.bool r)∧(r=true↔∀ q,q<len→p q):=by
 unfold C91_0 B91_0
 have hl:lenV P 31 v=some (.int .i64 len):=hx.len_eq Fx
 simp only[hl,aj]
 obtain⟨r,h1,h2⟩:=each91_loop c KK fv v xs len p H n hx hlen hf KK 0 H n (Nat.le_refl _) (Keep.refl _ _) (by omega) (by unfold KK; omega)
 exact⟨r,h1,h2.trans ⟨fun h q=>h q (by omega),fun h q _=>h q⟩⟩
theorem call91(l:Nat)(a b:Value)(H:Hp)(n:Nat):(cal (l+1)).call 91 [a,b] H n=C91_0 (cal l) KK a b H n:=by kernel_rfl
theorem each93_loop(c:Cal)(k:Nat)(fv v:Value)(xs:List Int)(len:Nat)(p:Nat→Prop)(H0:Hp)(n0:Nat)(hx:eK H0 n0 2 v len xs)(hlen:len≤1000)(hf:Ax c fv 2 xs len p H0 n0) :
  ∀(m i:Nat) (H:Hp) (n:Nat),n0≤n→Keep n0 H0 H→i≤len→len-i≤m →
  ∃ r,Ret (S93_1 c k m fv v (.int .i64 len) (.int .i64 i) H n) n H (.bool r)∧(r=true↔∀ q,i≤q→q<len→p q):=by
 have body:∀(b1:Value→Value→Value→Value→Hp→Nat→Res) (m i:Nat) (H:Hp) (n:Nat),n0≤n→Keep n0 H0 H→i≤len →
   (∀ H' n',n≤n'→Keep n H H'→i<len→∃ r,Ret (b1 fv v (.int .i64 len) (.int .i64 ((i+1:Nat):Int)) H' n') n' H' (.bool r)∧(r=true↔∀ q,i+1≤q→q<len→p q)) →
   ∃ r,Ret (C93_1 c k m b1 fv v (.int .i64 len) (.int .i64 i) H n) n H (.bool r)∧(r=true↔∀ q,i≤q→q<len→p q):=by
  intro b1 m i H n hn hk hi ih
  unfold C93_1 B93_1
  simp only[ax cJ,gw]
  by_cases hlt:i<len
  ·rw[if_pos (by omega)]
   have hx':=(hx.keep hk (Nat.le_refl _)).up hn
   obtain⟨bb,o,hix,hbn,hc⟩:=hx'.at_ und32 sz88 hlt
   have hl2:i * 2+2≤xs.length:=by rw[hx.1]; omega
   obtain⟨g1,g2⟩:=Qq hl2
   have hld:az P H 88 ⟨bb,o+i * 2,none⟩=some (.agg ⟨((ints xs).drop (i * 2)).take 2⟩):=cw hc agg88 sz88 (by rw[bv]; exact hl2) (dY _)
   obtain⟨H1,k1,k2,k3⟩:=vk (P:=P) (ρ:=Value × Hp × Nat) (H:=H) (n:=n) zero88 rfl sz88 g1 g2
   simp only[hix,aj,ak,hld]
   rw[k3]
   have hback:=fY k2 agg88 sz88 g1
   obtain⟨b,H2,n2,e1,e2,e3,e4⟩:=hf i hlt H1 (n+1) (by omega) (hk.trans k1 hn)
   have kk:Keep n H H2:=k1.trans e4 (by omega)
   simp only[ak,aj,hback]
   rw[e2]
   cases b with
   | false=>
    simp only[tv,aj,fX]
    refine⟨false,⟨H2,n2,rfl,by omega,kk⟩,⟨fun h=>(by cases h),fun h=>?_⟩⟩
    exact absurd (e1.2 (h i (Nat.le_refl _) hlt)) (by simp)
   | true=>
    have hI:I64 ((i:Int)+1):=by unfold I64; omega
    have hcast:((i:Int)+1)=((i+1:Nat):Int):=by omega
    simp only[qK,aj,ez,ax (bk hI),hcast]
    obtain⟨r,⟨H',n',q1,q2,q3⟩,q4⟩:=ih H2 n2 (by omega) kk hlt
    refine⟨r,⟨H',n',q1,by omega,kk.trans q3 (by omega)⟩,q4.trans ⟨fun h q h1 h2=>?_,fun h q h1 h2=>h q (by omega) h2⟩⟩
    rcases Nat.eq_or_lt_of_le h1 with z | z
    ·subst z; exact e1.1 rfl
    ·exact h q z h2
  ·rw[if_neg (by omega)]
   exact⟨true,⟨H,n,rfl,Nat.le_refl _,Keep.refl _ _⟩,⟨fun _ q h1 h2=>by omega,fun _=>rfl⟩⟩
 intro m
 induction m with
 | zero=>
  intro i H n h1 h2 h3 h4
  exact body _ 0 i H n h1 h2 h3 (fun _ _ _ _ h=>by omega)
 | succ m ih=>
  intro i H n h1 h2 h3 h4
  exact body _ (m+1) i H n h1 h2 h3 (fun H' n' q1 q2 q3=>ih (i+1) H' n' (by omega) (h2.trans q2 h1) (by omega) (by omega))
theorem each93_spec(c:Cal)(fv v:Value)(xs:List Int)(len:Nat)(p:Nat→Prop)(H:Hp)(n:Nat)(hx:eK H n 2 v len xs)(hlen:len≤1000)(hf:Ax c fv 2 xs len p H n) :
  ∃ r,Ret (C93_0 c KK v fv H n) n H (.bool r)∧(r=true↔∀ q,q<len→p q):=by
 unfold C93_0 B93_0
 have hl:lenV P 32 v=some (.int .i64 len):=hx.len_eq und32
 simp only[hl,aj]
 obtain⟨r,h1,h2⟩:=each93_loop c KK fv v xs len p H n hx hlen hf KK 0 H n (Nat.le_refl _) (Keep.refl _ _) (by omega) (by unfold KK; omega)
 exact⟨r,h1,h2.trans ⟨fun h q=>h q (by omega),fun h q _=>h q⟩⟩
theorem call93(l:Nat)(a b:Value)(H:Hp)(n:Nat):(cal (l+1)).call 93 [a,b] H n=C93_0 (cal l) KK a b H n:=by kernel_rfl
theorem each95_loop(c:Cal)(k:Nat)(fv v:Value)(xs:List Int)(len:Nat)(p:Nat→Prop)(H0:Hp)(n0:Nat)(hx:eK H0 n0 5 v len xs)(hlen:len≤1000)(hf:Ax c fv 5 xs len p H0 n0) :
  ∀(m i:Nat) (H:Hp) (n:Nat),n0≤n→Keep n0 H0 H→i≤len→len-i≤m →
  ∃ r,Ret (S95_1 c k m fv v (.int .i64 len) (.int .i64 i) H n) n H (.bool r)∧(r=true↔∀ q,i≤q→q<len→p q):=by
 have body:∀(b1:Value→Value→Value→Value→Hp→Nat→Res) (m i:Nat) (H:Hp) (n:Nat),n0≤n→Keep n0 H0 H→i≤len →
   (∀ H' n',n≤n'→Keep n H H'→i<len→∃ r,Ret (b1 fv v (.int .i64 len) (.int .i64 ((i+1:Nat):Int)) H' n') n' H' (.bool r)∧(r=true↔∀ q,i+1≤q→q<len→p q)) →
   ∃ r,Ret (C95_1 c k m b1 fv v (.int .i64 len) (.int .i64 i) H n) n H (.bool r)∧(r=true↔∀ q,i≤q→q<len→p q):=by
  intro b1 m i H n hn hk hi ih
  unfold C95_1 B95_1
  simp only[ax cJ,gw]
  by_cases hlt:i<len
  ·rw[if_pos (by omega)]
   have hx':=(hx.keep hk (Nat.le_refl _)).up hn
   obtain⟨bb,o,hix,hbn,hc⟩:=hx'.at_ und33 sz86 hlt
   have hl2:i * 5+5≤xs.length:=by rw[hx.1]; omega
   obtain⟨g1,g2⟩:=Qq hl2
   have hld:az P H 86 ⟨bb,o+i * 5,none⟩=some (.agg ⟨((ints xs).drop (i * 5)).take 5⟩):=cw hc agg86 sz86 (by rw[bv]; exact hl2) (dY _)
   obtain⟨H1,k1,k2,k3⟩:=vk (P:=P) (ρ:=Value × Hp × Nat) (H:=H) (n:=n) zero86 rfl sz86 g1 g2
   simp only[hix,aj,ak,hld]
   rw[k3]
   have hback:=fY k2 agg86 sz86 g1
   obtain⟨b,H2,n2,e1,e2,e3,e4⟩:=hf i hlt H1 (n+1) (by omega) (hk.trans k1 hn)
   have kk:Keep n H H2:=k1.trans e4 (by omega)
   simp only[ak,aj,hback]
   rw[e2]
   cases b with
   | false=>
    simp only[tv,aj,fX]
    refine⟨false,⟨H2,n2,rfl,by omega,kk⟩,⟨fun h=>(by cases h),fun h=>?_⟩⟩
    exact absurd (e1.2 (h i (Nat.le_refl _) hlt)) (by simp)
   | true=>
    have hI:I64 ((i:Int)+1):=by unfold I64; omega
    have hcast:((i:Int)+1)=((i+1:Nat):Int):=by omega
    simp only[qK,aj,ez,ax (bk hI),hcast]
    obtain⟨r,⟨H',n',q1,q2,q3⟩,q4⟩:=ih H2 n2 (by omega) kk hlt
    refine⟨r,⟨H',n',q1,by omega,kk.trans q3 (by omega)⟩,q4.trans ⟨fun h q h1 h2=>?_,fun h q h1 h2=>h q (by omega) h2⟩⟩
    rcases Nat.eq_or_lt_of_le h1 with z | z
    ·subst z; exact e1.1 rfl
    ·exact h q z h2
  ·rw[if_neg (by omega)]
   exact⟨true,⟨H,n,rfl,Nat.le_refl _,Keep.refl _ _⟩,⟨fun _ q h1 h2=>by omega,fun _=>rfl⟩⟩
 intro m
 induction m with
 | zero=>
  intro i H n h1 h2 h3 h4
  exact body _ 0 i H n h1 h2 h3 (fun _ _ _ _ h=>by omega)
 | succ m ih=>
  intro i H n h1 h2 h3 h4
  exact body _ (m+1) i H n h1 h2 h3 (fun H' n' q1 q2 q3=>ih (i+1) H' n' (by omega) (h2.trans q2 h1) (by omega) (by omega))
theorem each95_spec(c:Cal)(fv v:Value)(xs:List Int)(len:Nat)(p:Nat→Prop)(H:Hp)(n:Nat)(hx:eK H n 5 v len xs)(hlen:len≤1000)(hf:Ax c fv 5 xs len p H n) :
  ∃ r,Ret (C95_0 c KK v fv H n) n H (.bool r)∧(r=true↔∀ q,q<len→p q):=by
 unfold C95_0 B95_0
 have hl:lenV P 33 v=some (.int .i64 len):=hx.len_eq und33
 simp only[hl,aj]
 obtain⟨r,h1,h2⟩:=each95_loop c KK fv v xs len p H n hx hlen hf KK 0 H n (Nat.le_refl _) (Keep.refl _ _) (by omega) (by unfold KK; omega)
 exact⟨r,h1,h2.trans ⟨fun h q=>h q (by omega),fun h q _=>h q⟩⟩
theorem call95(l:Nat)(a b:Value)(H:Hp)(n:Nat):(cal (l+1)).call 95 [a,b] H n=C95_0 (cal l) KK a b H n:=by kernel_rfl
theorem flat95:iY P 95=true:=by kernel_rfl
theorem fa88_0(b o:Nat):aw P 88 (.pointer (some ⟨b,o,none⟩)) 0=some (.pointer (some ⟨b,o+0,none⟩)):=by kernel_rfl
theorem fa88_1(b o:Nat):aw P 88 (.pointer (some ⟨b,o,none⟩)) 1=some (.pointer (some ⟨b,o+1,none⟩)):=by kernel_rfl
theorem flatK88:Iv P 88=some 2:=by kernel_rfl
theorem eqG88:P.eqGuardType P.depth 88=false:=by kernel_rfl
theorem eq88(p q:Operand)(x y a b:Int):binV P .eql 88 p q (.agg ⟨[.int .i64 x,.int .i64 y]⟩) (.agg ⟨[.int .i64 a,.int .i64 b]⟩)=some (.bool (decide (x=a) && decide (y=b))):=by
 have h0:yW .eql (.agg ⟨[.int .i64 x,.int .i64 y]⟩) (.agg ⟨[.int .i64 a,.int .i64 b]⟩)=none:=rfl
 have h1:(bw (.agg ⟨[.int .i64 x,.int .i64 y]⟩) && bw (.agg ⟨[.int .i64 a,.int .i64 b]⟩))=true:=rfl
 have h2:nW [.int .i64 x,.int .i64 y] [.int .i64 a,.int .i64 b]=some (decide (x=a) && decide (y=b)):=by
  simp only[nW,decide_true]
  cases decide (x=a) <;> cases decide (y=b) <;> rfl
 unfold binV
 rw[h0]
 unfold Gy
 simp only[h1,EQ,aggEq,flatK88,eqG88,List.length_cons,List.length_nil,h2]
 rfl
theorem has_spec(c:Cal)(k:Nat){H:Hp}{n np nj nk:Nat}{v:Value}{ps js ks:List Int}(hg:kq H n v np nj nk ps js ks)(a:Int) :
  ∃ r,Ret (C71_0 c k v (.int .i64 a) H n) n H (.bool r)∧(r=true↔0≤a∧a<np):=by
 obtain⟨x,y,z,rfl,h1,h2,h3⟩:=hg
 unfold C71_0 B71_0
 simp only[dZ,aZ,ptr]
 have hk:Keep n H (H.set n (some (.cells [x,y,z] 35 false none))):=(Keep.refl n H).set (Nat.le_refl _) _
 have hb:aW (H.set n (some (.cells [x,y,z] 35 false none))) n 0 [x,y,z]:=aW.new
 generalize H.set n (some (.cells [x,y,z] 35 false none))=H1 at hk hb ⊢
 have lx:az P H1 31 ⟨n,0+0,none⟩=some x:=bq hb Fv rfl h1.hole.1 h1.hole.2
 have e1:lenV P 31 x=some (.int .i64 np):=h1.len_eq Fx
 simp only[vV,ax PZ]
 cases c1:decide (0≤a) <;> cases c2:decide (a<np) <;>
  simp only[dk,eJ,jk,aj,dw,dQ,c2,ak,lx,e1,ax cJ] <;>
  refine⟨_,⟨H1,n+1,rfl,by omega,hk⟩,?_⟩ <;> simp only[decide_eq_true_eq,decide_eq_false_iff_not] at c1 c2 <;> simp <;> omega
theorem call71(l:Nat)(a b:Value)(H:Hp)(n:Nat):(cal (l+1)).call 71 [a,b] H n=C71_0 (cal l) KK a b H n:=by kernel_rfl
theorem has_call(l:Nat){H:Hp}{n np nj nk:Nat}{v:Value}{ps js ks:List Int}(hg:kq H n v np nj nk ps js ks)(a:Int) :
  ∃(r:Bool) (H':Hp) (n':Nat),(r=true↔0≤a∧a<np)∧(∀ k:Value→Hp→Nat→Option ρ,aX P (cal (l+1)) 71 [v,.int .i64 a] H n k=k (.bool r) H' n')∧n≤n'∧Keep n H H':=by
 obtain⟨r,H',n',⟨b,rfl,hb⟩,e1,e2,e3⟩:=eZ (ρ:=ρ) (P:=P) (cal:=cal (l+1)) (f:=71) (args:=[v,.int .i64 a]) (H:=H) (n:=n)
  (Pre:=fun H n=>kq H n v np nj nk ps js ks) (Q:=fun r=>∃ b:Bool,r=.bool b∧(b=true↔0≤a∧a<np))
  (fun H n h=>by
   obtain⟨r,h1,h2⟩:=has_spec (cal l) KK h a
   exact⟨.bool r,by rw[call71]; exact h1,r,rfl,h2⟩) (fun r ⟨b,e,_⟩ _=>by subst e; rfl) hg (fun hp=>hg.nil (by simp only[ck,Bool.and_eq_true] at hp; exact hp.1))
 exact⟨b,H',n',hb,e1,e2,e3⟩
open Classical in
noncomputable def cnt(p:Nat→Prop):Nat→Nat
 | 0=>0
 | m+1=>cnt p m+if p m then 1 else 0
theorem cnt_le(p:Nat→Prop):∀ m,cnt p m≤m
 | 0=>Nat.le_refl _
 | m+1=>by have:=cnt_le p m; simp only[cnt]; split <;> omega
theorem cnt_pos{p:Nat→Prop}{i:Nat}(h:p i):∀ {m},i<m→1≤cnt p m
 | 0,h1=>by omega
 | m+1,h1=>by
  simp only[cnt]
  by_cases e:i=m
  ·subst e; rw[if_pos h]; omega
  ·have:=cnt_pos h (m:=m) (by omega); omega
theorem cnt_two{p:Nat→Prop}{i q:Nat}(h:p i)(h':p q)(hi:i<q):∀ {m},q<m→2≤cnt p m
 | 0,h1=>by omega
 | m+1,h1=>by
  simp only[cnt]
  by_cases e:q=m
  ·subst e; rw[if_pos h']; have:=cnt_pos h hi; omega
  ·have:=cnt_two h h' hi (m:=m) (by omega); omega
theorem cnt_zero{p:Nat→Prop}:∀ {m},(∀ q,q<m→¬ p q)→cnt p m=0
 | 0,_=>rfl
 | m+1,h=>by
  simp only[cnt]
  rw[cnt_zero (fun q hq=>h q (by omega)),if_neg (h m (by omega))]
theorem cnt_one{p:Nat→Prop}{i:Nat}(h:p i):∀ {m},i<m→(∀ q,q<m→q≠i→¬ p q)→cnt p m=1
 | 0,h1,_=>by omega
 | m+1,h1,h2=>by
  simp only[cnt]
  by_cases e:i=m
  ·subst e; rw[if_pos h,cnt_zero (fun q hq=>h2 q (by omega) (by omega))]
  ·rw[cnt_one h (m:=m) (by omega) (fun q hq=>h2 q (by omega)),if_neg (h2 m (by omega) (by omega))]
def okJ(js:List Int)(np nj:Nat)(a b:Int):Prop:=(0≤a∧a<np)∧(0≤b∧b<np)∧a≠b∧cnt (J js a b) nj=1
theorem joins_loop(l k:Nat){np nj nk:Nat}{ps js ks:List Int}(a b:Int)(g1 g2:Nat)(x y z:Value)(hnj:nj≤1000) :
  ∀(m i:Nat) (H:Hp) (n:Nat),g1<n→g2<n→aW H g1 0 [x,y,z]→aW H g2 0 [.int .i64 a,.int .i64 b]→kq H n (.agg ⟨[x,y,z]⟩) np nj nk ps js ks→i≤nj→nj-i≤m →
  ∃ r,Ret (S94_1 (cal (l+1)) k m (.pointer (some ⟨g1,0,none⟩)) (.pointer (some ⟨g2,0,none⟩)) (.int .i64 (cnt (J js a b) i)) y (.int .i64 nj) (.int .i64 i) H n) n H (.bool r)∧(r=true↔okJ js np nj a b):=by
 have body:∀(b1:Value→Value→Value→Value→Value→Value→Hp→Nat→Res) (m i:Nat) (H:Hp) (n:Nat),g1<n→g2<n→aW H g1 0 [x,y,z]→aW H g2 0 [.int .i64 a,.int .i64 b]→kq H n (.agg ⟨[x,y,z]⟩) np nj nk ps js ks→i≤nj →
   (∀ H' n',n≤n'→Keep n H H'→i<nj→∃ r,Ret (b1 (.pointer (some ⟨g1,0,none⟩)) (.pointer (some ⟨g2,0,none⟩)) (.int .i64 (cnt (J js a b) (i+1))) y (.int .i64 nj) (.int .i64 ((i+1:Nat):Int)) H' n') n' H' (.bool r)∧(r=true↔okJ js np nj a b)) →
   ∃ r,Ret (C94_1 (cal (l+1)) k m b1 (.pointer (some ⟨g1,0,none⟩)) (.pointer (some ⟨g2,0,none⟩)) (.int .i64 (cnt (J js a b) i)) y (.int .i64 nj) (.int .i64 i) H n) n H (.bool r)∧(r=true↔okJ js np nj a b):=by
  intro b1 m i H n hg1 hg2 hb1 hb2 hg hi ih
  have hg0:=hg
  obtain⟨x',y',z',hxyz,h1,h2,h3⟩:=hg
  cases hxyz
  unfold C94_1 B94_1
  simp only[ax cJ,gw]
  by_cases hlt:i<nj
  ·rw[if_pos (by omega)]
   obtain⟨bb,o,hix,hbn,hc⟩:=h2.at_ und32 sz88 hlt
   have hl2:i * 2+2≤js.length:=by rw[h2.1]; omega
   obtain⟨u,w,hu,hw,huw⟩:=UW hl2
   have hld:az P H 88 ⟨bb,o+i * 2,none⟩=some (.agg ⟨[.int .i64 u,.int .i64 w]⟩):=by
    rw[cw hc agg88 sz88 (by rw[bv]; exact hl2) (dY _),huw]
   obtain⟨H1,k1,k2,k3⟩:=vk (P:=P) (ρ:=Value × Hp × Nat) (H:=H) (n:=n) (L:=[.int .i64 u,.int .i64 w]) zero88 rfl sz88 rfl rfl
   simp only[hix,aj,ak,hld]
   rw[k3]
   have hback:=fY k2 agg88 sz88 rfl
   have hb2':=hb2.keep k1 hg2
   have lab:az P H1 88 ⟨g2,0,none⟩=some (.agg ⟨[.int .i64 a,.int .i64 b]⟩):=cw (o:=0) (k:=0) hb2' agg88 sz88 (by simp) rfl
   have la:az P H1 3 ⟨g2,0+0,none⟩=some (.int .i64 a):=bj hb2' agg3 rfl
   have lb:az P H1 3 ⟨g2,0+1,none⟩=some (.int .i64 b):=bj hb2' agg3 rfl
   have hJ:J js a b i↔(decide (u=a)=true∧decide (w=b)=true)∨(decide (u=b)=true∧decide (w=a)=true):=by
    unfold J; rw[hu,hw]; simp
   have hle:=cnt_le (J js a b) i
   have hI:I64 ((i:Int)+1):=by unfold I64; omega
   have hcast:((i:Int)+1)=((i+1:Nat):Int):=by omega
   have hIc:I64 ((cnt (J js a b) i:Int)+1):=by unfold I64; omega
   obtain⟨r,⟨H',n',q1,q2,q3⟩,q4⟩:=ih H1 (n+1) (by omega) k1 hlt
   have yes:J js a b i→((cnt (J js a b) i:Int)+1)=((cnt (J js a b) (i+1):Nat):Int):=fun h=>by simp only[cnt]; rw[if_pos h]; omega
   have no:¬ J js a b i→cnt (J js a b) (i+1)=cnt (J js a b) i:=fun h=>by simp only[cnt]; rw[if_neg h]; omega
   simp only[ak,aj,hback,lab,ax (eq88 ..),fa88_0,fa88_1]
   cases c1:decide (u=a) <;> cases c2:decide (w=b) <;> cases c3:decide (u=b) <;> cases c4:decide (w=a) <;>
    rw[c1,c2,c3,c4] at hJ <;>
    simp only[Bool.and_true,Bool.and_false,Bool.true_and,Bool.false_and,Bool.and_self,c3,c4,nq,nw,aj,ak,hback,la,lb,build88,ax (eq88 ..),dw,dQ,fX,ez,ax (bk hIc),C94_2,B94_2,ax (bk hI),hcast] <;>
    first
    | (rw[yes (by rw[hJ]; simp)]; exact⟨r,⟨H',n',q1,by omega,k1.trans q3 (by omega)⟩,q4⟩)
    | (rw[no (by rw[hJ]; simp)] at q1; exact⟨r,⟨H',n',q1,by omega,k1.trans q3 (by omega)⟩,q4⟩)
  ·rw[if_neg (by omega)]
   have hi':i=nj:=by omega
   subst hi'
   have l35:az P H 35 ⟨g1,0,none⟩=some (.agg ⟨[x,y,z]⟩):=cw (o:=0) (k:=0) hb1 UZ sz35 (by simp) (by simp [h1.hole.1,h2.hole.1,h3.hole.1])
   have la:az P H 3 ⟨g2,0+0,none⟩=some (.int .i64 a):=bj hb2 agg3 rfl
   obtain⟨r1,H1,n1,e1,e2,e3,e4⟩:=has_call (ρ:=Value × Hp × Nat) l hg0 a
   simp only[ak,aj,l35,fa88_0,fa88_1,la]
   rw[e2]
   have hb1':=hb1.keep e4 hg1
   have hb2':=hb2.keep e4 hg2
   have l35':az P H1 35 ⟨g1,0,none⟩=some (.agg ⟨[x,y,z]⟩):=cw (o:=0) (k:=0) hb1' UZ sz35 (by simp) (by simp [h1.hole.1,h2.hole.1,h3.hole.1])
   have lb:az P H1 3 ⟨g2,0+1,none⟩=some (.int .i64 b):=bj hb2' agg3 rfl
   cases r1 with
   | false=>
    simp only[eJ,jk,aj,dQ]
    refine⟨false,⟨H1,n1,rfl,by omega,e4⟩,⟨fun h=>(by cases h),fun h=>?_⟩⟩
    exact absurd (e1.2 h.1) (by simp)
   | true=>
    obtain⟨r2,H2,n2,f1,f2,f3,f4⟩:=has_call (ρ:=Value × Hp × Nat) l (hg0.keep e4 e3) b
    simp only[dk,aj,ak,l35',lb]
    rw[f2]
    have hb2'':=hb2'.keep f4 (by omega)
    have la2:az P H2 3 ⟨g2,0+0,none⟩=some (.int .i64 a):=bj hb2'' agg3 rfl
    have lb2:az P H2 3 ⟨g2,0+1,none⟩=some (.int .i64 b):=bj hb2'' agg3 rfl
    have kk:Keep n H H2:=e4.trans f4 e3
    have e1':=e1.1 rfl
    unfold okJ
    cases r2 with
    | false=>
     simp only[eJ,jk,aj,dw,dQ]
     refine⟨false,⟨H2,n2,rfl,by omega,kk⟩,⟨fun h=>(by cases h),fun h=>?_⟩⟩
     exact absurd (f1.2 h.2.1) (by simp)
    | true=>
     have f1':=f1.1 rfl
     cases c1:decide (a=b) with
     | true=>
      simp only[dk,eJ,jk,aj,dw,dQ,ak,la2,lb2,ax iV,c1,Bool.not_true]
      refine⟨false,⟨H2,n2,rfl,by omega,kk⟩,⟨fun h=>(by cases h),fun h=>?_⟩⟩
      exact absurd (of_decide_eq_true c1) h.2.2.1
     | false=>
      simp only[dk,aj,dw,ak,la2,lb2,ax iV,c1,Bool.not_false,ax jY]
      refine⟨_,⟨H2,n2,rfl,by omega,kk⟩,?_⟩
      rw[decide_eq_true_eq]
      exact⟨fun h=>⟨e1',f1',of_decide_eq_false c1,by omega⟩,fun h=>by have:=h.2.2.2; omega⟩
 intro m
 induction m with
 | zero=>
  intro i H n h1 h2 h3 h4 h5 h6 h7
  exact body _ 0 i H n h1 h2 h3 h4 h5 h6 (fun _ _ _ _ h=>by omega)
 | succ m ih=>
  intro i H n h1 h2 h3 h4 h5 h6 h7
  exact body _ (m+1) i H n h1 h2 h3 h4 h5 h6 (fun H' n' q1 q2 q3=>ih (i+1) H' n' (by omega) (by omega) (h3.keep q2 h1) (h4.keep q2 h2) (h5.keep q2 q1) (by omega) (by omega))
theorem joins_spec(l:Nat){np nj nk:Nat}{ps js ks:List Int}{H:Hp}{n:Nat}{v:Value}(hg:kq H n v np nj nk ps js ks)(hnj:nj≤1000)(a b:Int) :
  ∃ r,Ret (C94_0 (cal (l+1)) KK v (.agg ⟨[.int .i64 a,.int .i64 b]⟩) H n) n H (.bool r)∧(r=true↔okJ js np nj a b):=by
 have hg0:=hg
 obtain⟨x,y,z,rfl,h1,h2,h3⟩:=hg
 unfold C94_0 B94_0
 simp only[dZ,aZ,ptr]
 have hk:Keep n H ((H.set n (some (.cells [x,y,z] 35 false none))).set (n+1) (some (.cells [.int .i64 a,.int .i64 b] 88 false none))):=((Keep.refl n H).set (Nat.le_refl _) _).set (by omega) _
 have hb1:aW ((H.set n (some (.cells [x,y,z] 35 false none))).set (n+1) (some (.cells [.int .i64 a,.int .i64 b] 88 false none))) n 0 [x,y,z]:=aW.new.set (by omega)
 have hb2:aW ((H.set n (some (.cells [x,y,z] 35 false none))).set (n+1) (some (.cells [.int .i64 a,.int .i64 b] 88 false none))) (n+1) 0 [.int .i64 a,.int .i64 b]:=aW.new
 generalize (H.set n (some (.cells [x,y,z] 35 false none))).set (n+1) (some (.cells [.int .i64 a,.int .i64 b] 88 false none))=H1 at hk hb1 hb2 ⊢
 have ly:az P H1 32 ⟨n,0+1,none⟩=some y:=bq hb1 agg32 rfl h2.hole.1 h2.hole.2
 have e1:lenV P 32 y=some (.int .i64 nj):=h2.len_eq und32
 simp only[fa35_1,aj,ak,ly,e1]
 obtain⟨r,⟨H',n',q1,q2,q3⟩,q4⟩:=joins_loop l KK (ps:=ps) (ks:=ks) (np:=np) (nk:=nk) a b n (n+1) x y z hnj KK 0 H1 (n+1+1) (by omega) (by omega) hb1 hb2 (hg0.keep hk (by omega)) (by omega) (by unfold KK; omega)
 exact⟨r,⟨H',n',q1,by omega,hk.trans q3 (by omega)⟩,q4⟩
theorem call94(l:Nat)(a b:Value)(H:Hp)(n:Nat):(cal (l+1)).call 94 [a,b] H n=C94_0 (cal l) KK a b H n:=by kernel_rfl
theorem joins_call(l:Nat){np nj nk:Nat}{ps js ks:List Int}{H:Hp}{n:Nat}{v:Value}(hg:kq H n v np nj nk ps js ks)(hnj:nj≤1000)(a b:Int) :
  ∃(r:Bool) (H':Hp) (n':Nat),(r=true↔okJ js np nj a b)∧(∀ k:Value→Hp→Nat→Option ρ,aX P (cal (l+2)) 94 [v,.agg ⟨[.int .i64 a,.int .i64 b]⟩] H n k=k (.bool r) H' n')∧n≤n'∧Keep n H H':=by
 obtain⟨r,H',n',⟨b',rfl,hb⟩,e1,e2,e3⟩:=eZ (ρ:=ρ) (P:=P) (cal:=cal (l+2)) (f:=94) (args:=[v,.agg ⟨[.int .i64 a,.int .i64 b]⟩]) (H:=H) (n:=n)
  (Pre:=fun H n=>kq H n v np nj nk ps js ks) (Q:=fun r=>∃ b':Bool,r=.bool b'∧(b'=true↔okJ js np nj a b))
  (fun H n h=>by
   obtain⟨r,h1,h2⟩:=joins_spec l h hnj a b
   exact⟨.bool r,by rw[call94]; exact h1,r,rfl,h2⟩) (fun r ⟨b,e,_⟩ _=>by subst e; rfl) hg (fun hp=>hg.nil (by simp only[ck,Bool.and_eq_true] at hp; exact hp.1))
 exact⟨b',H',n',hb,e1,e2,e3⟩
theorem joins_all{js:List Int}{np nj:Nat}(hl:js.length=nj * 2):(∀ i,i<nj→okJ js np nj (js.getD (i * 2) 0) (js.getD (i * 2+1) 0))↔¬ ∃ i,i<nj∧JBad js np i:=by
 have at0:∀ i,i<nj→js[i * 2]?=some (js.getD (i * 2) 0):=fun i hi=>by
  rw[List.getD_eq_getElem?_getD,List.getElem?_eq_getElem (show i * 2<js.length by omega)]; rfl
 have at1:∀ i,i<nj→js[i * 2+1]?=some (js.getD (i * 2+1) 0):=fun i hi=>by
  rw[List.getD_eq_getElem?_getD,List.getElem?_eq_getElem (show i * 2+1<js.length by omega)]; rfl
 have self:∀ i,i<nj→J js (js.getD (i * 2) 0) (js.getD (i * 2+1) 0) i:=fun i hi=>.inl ⟨at0 i hi,at1 i hi⟩
 have sym:∀ i q,i<nj→q<nj→J js (js.getD (i * 2) 0) (js.getD (i * 2+1) 0) q→J js (js.getD (q * 2) 0) (js.getD (q * 2+1) 0) i:=by
  intro i q hi hq h
  unfold J at h ⊢
  rw[at0 q hq,at1 q hq] at h
  rw[at0 i hi,at1 i hi]
  simp only[Option.some.injEq] at h ⊢
  omega
 constructor
 ·rintro h ⟨i,hi,a,b,ha,hb,hbad⟩
  rw[at0 i hi] at ha; rw[at1 i hi] at hb
  cases ha; cases hb
  obtain⟨o1,o2,o3,o4⟩:=h i hi
  rcases hbad with hbad | hbad | hbad | ⟨q,_,hq,hJ⟩
  ·omega
  ·omega
  ·exact o3 hbad
  ·have:=cnt_two hJ (self i hi) hq hi; omega
 ·intro h i hi
  have nb:¬ JBad js np i:=fun hb=>h ⟨i,hi,hb⟩
  have nb':∀ Q:Prop,(Q→¬ (0≤js.getD (i * 2) 0∧js.getD (i * 2) 0≤(np:Int)-1)∨¬ (0≤js.getD (i * 2+1) 0∧js.getD (i * 2+1) 0≤(np:Int)-1)∨js.getD (i * 2) 0=js.getD (i * 2+1) 0∨∃ q,0≤q∧q<i∧J js (js.getD (i * 2) 0) (js.getD (i * 2+1) 0) q)→¬ Q:=
   fun Q hQ q=>nb ⟨_,_,at0 i hi,at1 i hi,hQ q⟩
  have h1:=nb' (¬ (0≤js.getD (i * 2) 0∧js.getD (i * 2) 0≤(np:Int)-1)) .inl
  have h2:=nb' (¬ (0≤js.getD (i * 2+1) 0∧js.getD (i * 2+1) 0≤(np:Int)-1)) (fun q=>.inr (.inl q))
  have h3:=nb' (js.getD (i * 2) 0=js.getD (i * 2+1) 0) (fun q=>.inr (.inr (.inl q)))
  refine⟨by omega,by omega,h3,cnt_one (self i hi) hi fun q hq hne hJ=>?_⟩
  rcases Nat.lt_or_gt_of_ne hne with z | z
  ·exact nb' (∃ q,0≤q∧q<i∧J js (js.getD (i * 2) 0) (js.getD (i * 2+1) 0) q) (fun q=>.inr (.inr (.inr q))) ⟨q,Nat.zero_le _,z,hJ⟩
  ·exact h ⟨q,hq,_,_,at0 q hq,at1 q hq,.inr (.inr (.inr ⟨i,Nat.zero_le _,z,sym i q hi hq hJ⟩))⟩
theorem each91_call(l:Nat)(fv v:Value)(xs:List Int)(len:Nat)(p:Nat→Prop){H:Hp}{n:Nat}(hx:eK H n 2 v len xs)(hlen:len≤1000)(hf:Ax (cal l) fv 2 xs len p H n)(hf0:bw fv=true→Ax (cal l) fv 2 xs len p .nil 0) :
  ∃(b:Bool) (H':Hp) (n':Nat),(b=true↔∀ q,q<len→p q)∧(∀ k:Value→Hp→Nat→Option ρ,aX P (cal (l+1)) 91 [v,fv] H n k=k (.bool b) H' n')∧n≤n'∧Keep n H H':=by
 obtain⟨r,H',n',⟨b',rfl,hb⟩,e1,e2,e3⟩:=eZ (ρ:=ρ) (P:=P) (cal:=cal (l+1)) (f:=91) (args:=[v,fv]) (H:=H) (n:=n)
  (Pre:=fun H n=>eK H n 2 v len xs∧Ax (cal l) fv 2 xs len p H n) (Q:=fun r=>∃ b':Bool,r=.bool b'∧(b'=true↔∀ q,q<len→p q))
  (fun H n h=>by
   obtain⟨r,h1,h2⟩:=each91_spec (cal l) fv v xs len p H n h.1 hlen h.2
   exact⟨.bool r,by rw[call91]; exact h1,r,rfl,h2⟩) (fun r ⟨b,e,_⟩ _=>by subst e; rfl) ⟨hx,hf⟩ (fun hp=>by
    simp only[ck,Bool.and_eq_true] at hp
    exact⟨hx.nil hp.1,hf0 hp.2.1⟩)
 exact⟨b',H',n',hb,e1,e2,e3⟩
theorem each93_call(l:Nat)(fv v:Value)(xs:List Int)(len:Nat)(p:Nat→Prop){H:Hp}{n:Nat}(hx:eK H n 2 v len xs)(hlen:len≤1000)(hf:Ax (cal l) fv 2 xs len p H n)(hf0:bw fv=true→Ax (cal l) fv 2 xs len p .nil 0) :
  ∃(b:Bool) (H':Hp) (n':Nat),(b=true↔∀ q,q<len→p q)∧(∀ k:Value→Hp→Nat→Option ρ,aX P (cal (l+1)) 93 [v,fv] H n k=k (.bool b) H' n')∧n≤n'∧Keep n H H':=by
 obtain⟨r,H',n',⟨b',rfl,hb⟩,e1,e2,e3⟩:=eZ (ρ:=ρ) (P:=P) (cal:=cal (l+1)) (f:=93) (args:=[v,fv]) (H:=H) (n:=n)
  (Pre:=fun H n=>eK H n 2 v len xs∧Ax (cal l) fv 2 xs len p H n) (Q:=fun r=>∃ b':Bool,r=.bool b'∧(b'=true↔∀ q,q<len→p q))
  (fun H n h=>by
   obtain⟨r,h1,h2⟩:=each93_spec (cal l) fv v xs len p H n h.1 hlen h.2
   exact⟨.bool r,by rw[call93]; exact h1,r,rfl,h2⟩) (fun r ⟨b,e,_⟩ _=>by subst e; rfl) ⟨hx,hf⟩ (fun hp=>by
    simp only[ck,Bool.and_eq_true] at hp
    exact⟨hx.nil hp.1,hf0 hp.2.1⟩)
 exact⟨b',H',n',hb,e1,e2,e3⟩
theorem each95_call(l:Nat)(fv v:Value)(xs:List Int)(len:Nat)(p:Nat→Prop){H:Hp}{n:Nat}(hx:eK H n 5 v len xs)(hlen:len≤1000)(hf:Ax (cal l) fv 5 xs len p H n)(hf0:bw fv=true→Ax (cal l) fv 5 xs len p .nil 0) :
  ∃(b:Bool) (H':Hp) (n':Nat),(b=true↔∀ q,q<len→p q)∧(∀ k:Value→Hp→Nat→Option ρ,aX P (cal (l+1)) 95 [v,fv] H n k=k (.bool b) H' n')∧n≤n'∧Keep n H H':=by
 obtain⟨r,H',n',⟨b',rfl,hb⟩,e1,e2,e3⟩:=eZ (ρ:=ρ) (P:=P) (cal:=cal (l+1)) (f:=95) (args:=[v,fv]) (H:=H) (n:=n)
  (Pre:=fun H n=>eK H n 5 v len xs∧Ax (cal l) fv 5 xs len p H n) (Q:=fun r=>∃ b':Bool,r=.bool b'∧(b'=true↔∀ q,q<len→p q))
  (fun H n h=>by
   obtain⟨r,h1,h2⟩:=each95_spec (cal l) fv v xs len p H n h.1 hlen h.2
   exact⟨.bool r,by rw[call95]; exact h1,r,rfl,h2⟩) (fun r ⟨b,e,_⟩ _=>by subst e; rfl) ⟨hx,hf⟩ (fun hp=>by
    simp only[ck,Bool.and_eq_true] at hp
    exact⟨hx.nil hp.1,hf0 hp.2.1⟩)
 exact⟨b',H',n',hb,e1,e2,e3⟩
theorem holds92(l:Nat){ps:List Int}{np:Nat}(hl:ps.length=np * 2)(H:Hp)(n:Nat):Ax (cal (l+1)) (.func (.func 92) #[] #[]) 2 ps np (fun i=>okR (ps.getD (i * 2) 0) (ps.getD (i * 2+1) 0)) H n:=by
 intro i hi H1 n1 _ _
 refine⟨decide (okR (ps.getD (i * 2) 0) (ps.getD (i * 2+1) 0)),H1,n1,by simp,fun k=>?_,Nat.le_refl _,Keep.refl _ _⟩
 rw[SK (show i * 2+2≤ps.length by omega)]
 exact valid92_call l _ _ H1 n1 k
theorem holds96(l:Nat){ks:List Int}{nk:Nat}(hl:ks.length=nk * 5)(H:Hp)(n:Nat):Ax (cal (l+2)) (.func (.func 96) #[] #[]) 5 ks nk (fun i=>okK (ks.getD (i * 5) 0) (ks.getD (i * 5+1) 0) (ks.getD (i * 5+2) 0) (ks.getD (i * 5+3) 0) (ks.getD (i * 5+4) 0)) H n:=by
 intro i hi H1 n1 _ _
 refine⟨decide (okK (ks.getD (i * 5) 0) (ks.getD (i * 5+1) 0) (ks.getD (i * 5+2) 0) (ks.getD (i * 5+3) 0) (ks.getD (i * 5+4) 0)),H1,n1,by simp,fun k=>?_,Nat.le_refl _,Keep.refl _ _⟩
 rw[qdx (show i * 5+5≤ks.length by omega)]
 exact valid96_call l _ _ _ _ _ H1 n1 k
theorem holds94(l:Nat){np nj nk:Nat}{ps js ks:List Int}{H:Hp}{n:Nat}{v:Value}(hg:kq H n v np nj nk ps js ks)(hnj:nj≤1000)(hl:js.length=nj * 2) :
  Ax (cal (l+2)) (.func (.func 94) ⟨[v]⟩ ⟨[]⟩) 2 js nj (fun i=>okJ js np nj (js.getD (i * 2) 0) (js.getD (i * 2+1) 0)) H n:=by
 intro i hi H1 n1 hn hk
 obtain⟨b,H2,n2,h1,h2,h3,h4⟩:=joins_call (ρ:=Value × Hp × Nat) l (hg.keep hk hn) hnj (js.getD (i * 2) 0) (js.getD (i * 2+1) 0)
 refine⟨b,H2,n2,h1,fun k=>?_,h3,h4⟩
 rw[SK (show i * 2+2≤js.length by omega)]
 exact h2 k
theorem qeq(c:Cal)(k:Nat)(b:Bool)(H:Hp)(n:Nat):C60_3 c k (.bool b) H n=some (.int .i64 (if b=true then 1 else 0),H,n):=by
 unfold C60_3 B60_3
 cases b <;> rfl
theorem check_2(l:Nat){np nj nk:Nat}{ps js ks:List Int}{H:Hp}{n g:Nat}{x y z:Value}(hg:kq H n (.agg ⟨[x,y,z]⟩) np nj nk ps js ks)(hb:aW H g 0 [x,y,z])(hgn:g<n)(hnp:np≤1000)(hnj:nj≤1000)(hnk:nk≤1000)(b:Bool) :
  KW (b=true∨GBad np nj nk ps js ks) (C60_2 (cal (l+3)) KK (.pointer (some ⟨g,0,none⟩)) (.bool b) H n) n H:=by
 have hg0:=hg
 obtain⟨x',y',z',hxyz,h1,h2,h3⟩:=hg
 cases hxyz
 unfold C60_2 B60_2
 cases b with
 | true=>exact .inl ⟨.inl rfl,H,n,rfl,Nat.le_refl _,Keep.refl _ _⟩
 | false=>
  have lx:az P H 31 ⟨g,0+0,none⟩=some x:=bq hb Fv rfl h1.hole.1 h1.hole.2
  simp only[ez,vV,aj,ak,lx]
  obtain⟨b1,H1,n1,a1,a2,a3,a4⟩:=each91_call (ρ:=Value × Hp × Nat) (l+2) (.func (.func 92) #[] #[]) x ps np (fun i=>okR (ps.getD (i * 2) 0) (ps.getD (i * 2+1) 0)) h1 hnp (holds92 (l+1) h1.1 H n) (fun _=>holds92 (l+1) h1.1 _ _)
  rw[a2]
  have p1:(∀ q,q<np→okR (ps.getD (q * 2) 0) (ps.getD (q * 2+1) 0))↔¬ ∃ q,q<np∧PBad ps q:=
   ⟨fun h ⟨q,q1,q2⟩=>q2 (h q q1),fun h q hq=>Classical.byContradiction fun c=>h ⟨q,hq,c⟩⟩
  cases b1 with
  | false=>
   simp only[tv,aj,fX,qeq]
   refine .inl ⟨.inr (.inl (Classical.byContradiction fun c=>?_)),H1,n1,rfl,a3,a4⟩
   exact absurd (a1.2 (p1.2 c)) (by simp)
  | true=>
   have np1:=p1.1 (a1.1 rfl)
   have hb1:=hb.keep a4 hgn
   have ly:az P H1 32 ⟨g,0+1,none⟩=some y:=bq hb1 agg32 rfl h2.hole.1 h2.hole.2
   have lg:az P H1 35 ⟨g,0,none⟩=some (.agg ⟨[x,y,z]⟩):=cw (o:=0) (k:=0) hb1 UZ sz35 (by simp) (by simp [h1.hole.1,h2.hole.1,h3.hole.1])
   simp only[qK,aj,ez,fa35_1,ak,ly,lg]
   have hg1:=hg0.keep a4 a3
   obtain⟨b2,H2,n2,c1,c2,c3,c4⟩:=each93_call (ρ:=Value × Hp × Nat) (l+2) (.func (.func 94) ⟨[.agg ⟨[x,y,z]⟩]⟩ ⟨[]⟩) y js nj (fun i=>okJ js np nj (js.getD (i * 2) 0) (js.getD (i * 2+1) 0)) ((h2.keep a4 (Nat.le_refl _)).up a3) hnj (holds94 l hg1 hnj h2.1)
    (fun hp=>holds94 l (hg1.nil (by simp only[bw,ox,ck,Bool.and_eq_true] at hp ⊢; simp_all)) hnj h2.1)
   rw[c2]
   have p2:=joins_all (np:=np) h2.1
   cases b2 with
   | false=>
    simp only[tv,aj,fX,qeq]
    refine .inl ⟨.inr (.inr (.inr (Classical.byContradiction fun c=>?_))),H2,n2,rfl,by omega,a4.trans c4 a3⟩
    exact absurd (c1.2 (p2.2 c)) (by simp)
   | true=>
    have np2:=p2.1 (c1.1 rfl)
    have hb2:=hb1.keep c4 (by omega)
    have lz:az P H2 33 ⟨g,0+2,none⟩=some z:=bq hb2 agg33 rfl h3.hole.1 h3.hole.2
    simp only[qK,aj,ez,XQ,ak,lz]
    obtain⟨b3,H3,n3,d1,d2,d3,d4⟩:=each95_call (ρ:=Value × Hp × Nat) (l+2) (.func (.func 96) #[] #[]) z ks nk (fun i=>okK (ks.getD (i * 5) 0) (ks.getD (i * 5+1) 0) (ks.getD (i * 5+2) 0) (ks.getD (i * 5+3) 0) (ks.getD (i * 5+4) 0)) ((h3.keep (a4.trans c4 a3) (Nat.le_refl _)).up (by omega)) hnk (holds96 l h3.1 H2 n2) (fun _=>holds96 l h3.1 _ _)
    rw[d2]
    have p3:(∀ q,q<nk→okK (ks.getD (q * 5) 0) (ks.getD (q * 5+1) 0) (ks.getD (q * 5+2) 0) (ks.getD (q * 5+3) 0) (ks.getD (q * 5+4) 0))↔¬ ∃ q,q<nk∧KBad ks q:=by
     have e:∀ q,okK (ks.getD (q * 5) 0) (ks.getD (q * 5+1) 0) (ks.getD (q * 5+2) 0) (ks.getD (q * 5+3) 0) (ks.getD (q * 5+4) 0)↔¬ KBad ks q:=fun q=>by
      unfold okK KBad okR; omega
     exact⟨fun h ⟨q,q1,q2⟩=>(e q).1 (h q q1) q2,fun h q hq=>(e q).2 fun c=>h ⟨q,hq,c⟩⟩
    have kk:Keep n H H3:=(a4.trans c4 a3).trans d4 (by omega)
    cases b3 with
    | false=>
     simp only[tv,aj,qeq]
     refine .inl ⟨.inr (.inr (.inl (Classical.byContradiction fun c=>?_))),H3,n3,rfl,by omega,kk⟩
     exact absurd (d1.2 (p3.2 c)) (by simp)
    | true=>
     have np3:=p3.1 (d1.1 rfl)
     simp only[qK,aj,qeq]
     refine .inr ⟨?_,H3,n3,rfl,by omega,kk⟩
     rintro(h | h | h | h)
     ·cases h
     ·exact np1 h
     ·exact np3 h
     ·exact np2 h
theorem check_1(l:Nat){np nj nk:Nat}{ps js ks:List Int}{H:Hp}{n g:Nat}{x y z:Value}(hg:kq H n (.agg ⟨[x,y,z]⟩) np nj nk ps js ks)(hb:aW H g 0 [x,y,z])(hgn:g<n)(hnp:np≤1000)(hnj:nj≤1000)(hnk:nk≤1000) :
  KW ((np=0∨nk=0)∨GBad np nj nk ps js ks) (C60_1 (cal (l+3)) KK (.pointer (some ⟨g,0,none⟩)) (.bool false) H n) n H:=by
 have hg0:=hg
 obtain⟨x',y',z',hxyz,h1,h2,h3⟩:=hg
 cases hxyz
 unfold C60_1 B60_1
 have lx:az P H 31 ⟨g,0+0,none⟩=some x:=bq hb Fv rfl h1.hole.1 h1.hole.2
 have lz:az P H 33 ⟨g,0+2,none⟩=some z:=bq hb agg33 rfl h3.hole.1 h3.hole.2
 have e1:lenV P 31 x=some (.int .i64 np):=h1.len_eq Fx
 have e3:lenV P 33 z=some (.int .i64 nk):=h3.len_eq und33
 simp only[ez,vV,aj,ak,lx,e1,ax jY]
 cases c1:decide ((np:Int)=0) with
 | true=>
  simp only[fX]
  rcases check_2 l hg0 hb hgn hnp hnj hnk true with⟨_,q⟩ | ⟨q,_⟩
  ·exact .inl ⟨.inl (.inl (by simpa using c1)),q⟩
  ·exact absurd (.inl rfl) q
 | false=>
  simp only[ez,XQ,aj,ak,lz,e3,ax jY]
  have hn:np≠0:=by simpa using c1
  rcases check_2 l hg0 hb hgn hnp hnj hnk (decide ((nk:Int)=0)) with⟨q,q'⟩ | ⟨q,q'⟩
  ·exact .inl ⟨by simpa [hn] using q,q'⟩
  ·exact .inr ⟨by simpa [hn] using q,q'⟩
theorem check_spec(l:Nat){np nj nk:Nat}{ps js ks:List Int}{H:Hp}{n:Nat}{v:Value}(hg:kq H n v np nj nk ps js ks)(hnp:np≤1000)(hnj:nj≤1000)(hnk:nk≤1000) :
  Ret (C60_0 (cal (l+3)) KK v H n) n H (.int .i64 (iq np nj nk ps js ks)):=by
 have hg0:=hg
 obtain⟨x,y,z,rfl,h1,h2,h3⟩:=hg
 unfold C60_0 B60_0
 simp only[dZ,aZ,ptr]
 have hk:Keep n H (H.set n (some (.cells [x,y,z] 35 false none))):=(Keep.refl n H).set (Nat.le_refl _) _
 have hb:aW (H.set n (some (.cells [x,y,z] 35 false none))) n 0 [x,y,z]:=aW.new
 generalize H.set n (some (.cells [x,y,z] 35 false none))=H1 at hk hb ⊢
 have lx:az P H1 31 ⟨n,0+0,none⟩=some x:=bq hb Fv rfl h1.hole.1 h1.hole.2
 have ly:az P H1 32 ⟨n,0+1,none⟩=some y:=bq hb agg32 rfl h2.hole.1 h2.hole.2
 have lz:az P H1 33 ⟨n,0+2,none⟩=some z:=bq hb agg33 rfl h3.hole.1 h3.hole.2
 have e1:lenV P 31 x=some (.int .i64 np):=h1.len_eq Fx
 have e2:lenV P 32 y=some (.int .i64 nj):=h2.len_eq und32
 have e3:lenV P 33 z=some (.int .i64 nk):=h3.len_eq und33
 simp only[vV,aj,ak,lx,e1,ax wX]
 have big:(8<np∨16<nj∨3<nk)→Ret (C60_1 (cal (l+3)) KK (.pointer (some ⟨n,0,none⟩)) (.bool true) H1 (n+1)) n H (.int .i64 (iq np nj nk ps js ks)):=fun h=>by
  unfold iq
  rw[if_pos h]
  exact⟨H1,n+1,rfl,by omega,hk⟩
 have small:¬ (8<np∨16<nj∨3<nk)→Ret (C60_1 (cal (l+3)) KK (.pointer (some ⟨n,0,none⟩)) (.bool false) H1 (n+1)) n H (.int .i64 (iq np nj nk ps js ks)):=fun h=>by
  unfold iq
  rw[if_neg h]
  rcases check_1 l (hg0.keep hk (show n≤n+1 by omega)) hb (by omega) hnp hnj hnk with⟨q,H',n',r1,r2,r3⟩ | ⟨q,H',n',r1,r2,r3⟩
  ·refine⟨H',n',?_,by omega,hk.trans r3 (by omega)⟩
   rw[r1]
   rcases q with q | q
   ·rw[if_pos q]
   ·rw[if_pos q]; split <;> rfl
  ·refine⟨H',n',?_,by omega,hk.trans r3 (by omega)⟩
   rw[r1,if_neg (fun c=>q (.inl c)),if_neg (fun c=>q (.inr c))]
 cases c1:decide ((8:Int)<(np:Int)) with
 | true=>exact big (.inl (by have:=of_decide_eq_true c1; omega))
 | false=>
  simp only[ez,fa35_1,aj,ak,ly,e2,ax wX]
  cases c2:decide ((16:Int)<(nj:Int)) with
  | true=>exact big (.inr (.inl (by have:=of_decide_eq_true c2; omega)))
  | false=>
   simp only[ez,XQ,aj,ak,lz,e3,ax wX]
   cases c3:decide ((3:Int)<(nk:Int)) with
   | true=>exact big (.inr (.inr (by have:=of_decide_eq_true c3; omega)))
   | false=>
    refine small ?_
    simp only[decide_eq_false_iff_not] at c1 c2 c3
    omega
theorem call60(l:Nat)(a:Value)(H:Hp)(n:Nat):(cal (l+1)).call 60 [a] H n=C60_0 (cal l) KK a H n:=by kernel_rfl
theorem check_call(l:Nat){np nj nk:Nat}{ps js ks:List Int}{H:Hp}{n:Nat}{v:Value}(hg:kq H n v np nj nk ps js ks)(hnp:np≤1000)(hnj:nj≤1000)(hnk:nk≤1000) :
  ∃ H' n',(∀ k:Value→Hp→Nat→Option ρ,aX P (cal (l+4)) 60 [v] H n k=k (.int .i64 (iq np nj nk ps js ks)) H' n')∧n≤n'∧Keep n H H':=by
 obtain⟨r,H',n',rfl,e1,e2,e3⟩:=eZ (ρ:=ρ) (P:=P) (cal:=cal (l+4)) (f:=60) (args:=[v]) (H:=H) (n:=n)
  (Pre:=fun H n=>kq H n v np nj nk ps js ks) (Q:=fun r=>r=.int .i64 (iq np nj nk ps js ks))
  (fun H n h=>⟨_,by rw[call60]; exact check_spec l h hnp hnj hnk,rfl⟩) (fun r e _=>by subst e; rfl) hg (fun hp=>hg.nil (by simp only[ck,Bool.and_eq_true] at hp; exact hp.1))
 exact⟨H',n',e1,e2,e3⟩
theorem call63(l:Nat)(a:Value)(H:Hp)(n:Nat):(cal (l+1)).call 63 [a] H n=C63_0 (cal l) KK a H n:=by kernel_rfl
theorem ref_call(l:Nat){np nj nk:Nat}{ps js ks:List Int}{H:Hp}{n:Nat}{v:Value}(hg:GroveI H n v np nj nk ps js ks) :
  ∃ H' n',(∀ k:Value→Hp→Nat→Option ρ,aX P (cal (l+3)) 63 [v] H n k=k (.int .i64 (iq np nj nk ps js ks)) H' n')∧n≤n'∧Keep n H H':=by
 obtain⟨r,H',n',rfl,e1,e2,e3⟩:=eZ (ρ:=ρ) (P:=P) (cal:=cal (l+3)) (f:=63) (args:=[v]) (H:=H) (n:=n)
  (Pre:=fun H n=>GroveI H n v np nj nk ps js ks) (Q:=fun r=>r=.int .i64 (iq np nj nk ps js ks))
  (fun H n h=>⟨_,by rw[call63]; exact fault_spec l h,rfl⟩) (fun r e _=>by subst e; rfl) hg (fun hp=>hg.nil (by simp only[ck,Bool.and_eq_true] at hp; exact hp.1))
 exact⟨H',n',e1,e2,e3⟩
theorem call20(l:Nat)(a:Value)(H:Hp)(n:Nat):(cal (l+1)).call 20 [a] H n=C20_0 (cal l) KK a H n:=by kernel_rfl
theorem lawfault_spec(l:Nat){np nj nk:Nat}{ps js ks:List Int}{H:Hp}{n:Nat}{v:Value}(hg:GroveI H n v np nj nk ps js ks) :
  Ret (C20_0 (cal (l+3)) KK v H n) n H (.int .i64 (iq np nj nk ps js ks)):=by
 have hg0:=hg
 obtain⟨x,y,z,rfl,h1,h2,h3⟩:=hg.eq
 unfold C20_0 B20_0
 simp only[dZ,aZ,ptr]
 have hk:Keep n H (H.set n (some (.cells [x,y,z] 26 false none))):=(Keep.refl n H).set (Nat.le_refl _) _
 have hb:aW (H.set n (some (.cells [x,y,z] 26 false none))) n 0 [x,y,z]:=aW.new
 generalize H.set n (some (.cells [x,y,z] 26 false none))=H1 at hk hb ⊢
 have lg:=KV hb h1.hole.1 h2.hole.1 h3.hole.1
 simp only[aj,ak,lg]
 obtain⟨H2,n2,e1,e2,e3⟩:=ref_call (ρ:=Value × Hp × Nat) l (hg0.keep hk (show n≤n+1 by omega))
 rw[e1]
 exact⟨H2,n2,rfl,by omega,hk.trans e3 (by omega)⟩
theorem lawfault_call(l:Nat){np nj nk:Nat}{ps js ks:List Int}{H:Hp}{n:Nat}{v:Value}(hg:GroveI H n v np nj nk ps js ks) :
  ∃ H' n',(∀ k:Value→Hp→Nat→Option ρ,aX P (cal (l+4)) 20 [v] H n k=k (.int .i64 (iq np nj nk ps js ks)) H' n')∧n≤n'∧Keep n H H':=by
 obtain⟨r,H',n',rfl,e1,e2,e3⟩:=eZ (ρ:=ρ) (P:=P) (cal:=cal (l+4)) (f:=20) (args:=[v]) (H:=H) (n:=n)
  (Pre:=fun H n=>GroveI H n v np nj nk ps js ks) (Q:=fun r=>r=.int .i64 (iq np nj nk ps js ks))
  (fun H n h=>⟨_,by rw[call20]; exact lawfault_spec l h,rfl⟩) (fun r e _=>by subst e; rfl) hg (fun hp=>hg.nil (by simp only[ck,Bool.and_eq_true] at hp; exact hp.1))
 exact⟨H',n',e1,e2,e3⟩
end Go.Proofs.Ytmjbdjnnojfhkaa.spec
end
section
namespace Go.Ev
open Go
variable {P:Program} {ρ:Type}
structure ExOk (H:Hp) (ex:List Extra):Prop where
 all:∀ y ∈ ex,(∃ t a,y=.l t a∧((∃ c e ro vec,H.get a.block=some (.cells c e ro vec))∨∃ c,H.get a.block=some (.rows c)))∨∃ id c e,y=.a id c e
 apart:∀ t a id c e,Extra.l t a ∈ ex→Extra.a id c e ∈ ex→a.block≠id
def ldOf(ex:List Extra)(b:Nat):Prop:=∃ t a,Extra.l t a ∈ ex∧a.block=b
def nwOf(ex:List Extra)(b:Nat):Prop:=∃ id c e,Extra.a id c e ∈ ex∧id=b
theorem Fy{H:Hp}:∀ {ex:List Extra},(∀ y ∈ ex,(∃ t a,y=.l t a∧((∃ c e ro vec,H.get a.block=some (.cells c e ro vec))∨∃ c,H.get a.block=some (.rows c)))∨∃ id c e,y=.a id c e) →
  ∃ H1,vQ ex H=some H1∧∀ b,H1.get b=H.get b∨((∃ c e ro vec,H.get b=some (.cells c e ro vec)∧H1.get b=some (.cells c e true vec))∧ldOf ex b)
 | [],_=>⟨H,rfl,fun _=>.inl rfl⟩
 | y::l,h=>by
  obtain⟨H1,e1,e2⟩:=Fy (ex:=l) (fun z hz=>h z (List.mem_cons_of_mem _ hz))
  have old:∀ b,H1.get b=H.get b∨((∃ c e ro vec,H.get b=some (.cells c e ro vec)∧H1.get b=some (.cells c e true vec))∧ldOf (y::l) b):=fun b=>by
   rcases e2 b with q | ⟨q,t',a',q1,q2⟩
   ·exact .inl q
   ·exact .inr ⟨q,t',a',List.mem_cons_of_mem _ q1,q2⟩
  rcases h y List.mem_cons_self with⟨t,a,rfl,ha⟩ | ⟨id,c,e,rfl⟩
  ·rcases ha with⟨c,e,ro,vec,hc⟩ | ⟨c,hc⟩
   ·have hro:∃ ro',H1.get a.block=some (.cells c e ro' vec):=by
     rcases e2 a.block with q | ⟨⟨c',e',ro',vec',q1,q2⟩,_⟩
     ·exact⟨ro,q.trans hc⟩
     ·rw[hc] at q1; cases q1; exact⟨true,q2⟩
    obtain⟨ro',h1⟩:=hro
    refine⟨H1.set a.block (some (.cells c e true vec)),by simp only[vQ,e1,h1],fun b=>?_⟩
    rw[Tr.get_set]
    by_cases hb:b=a.block
    ·subst hb
     rw[if_pos rfl]
     exact .inr ⟨⟨c,e,ro,vec,hc,rfl⟩,t,a,List.mem_cons_self,rfl⟩
    ·rw[if_neg hb]; exact old b
   ·have h1:H1.get a.block=some (.rows c):=by
     rcases e2 a.block with q | ⟨⟨c',e',ro',vec',q1,_⟩,_⟩
     ·exact q.trans hc
     ·rw[hc] at q1; cases q1
    exact⟨H1,by simp only[vQ,e1,h1],old⟩
  ·exact⟨H1,by simp only[vQ,e1],old⟩
theorem qJ{H:Hp}:∀ {ex:List Extra} (b:Nat),(nwOf ex b→(sW ex H).get b=none)∧(¬ nwOf ex b→(sW ex H).get b=H.get b)
 | [],b=>⟨fun⟨_,_,_,h,_⟩=>(by cases h),fun _=>rfl⟩
 | y::l,b=>by
  obtain⟨i1,i2⟩:=qJ (H:=H) (ex:=l) b
  cases y with
  | a id c e=>
   simp only[sW,Tr.get_set]
   constructor
   ·rintro⟨id',c',e',h1,h2⟩
    by_cases q:b=id
    ·rw[if_pos q]
    ·rw[if_neg q]
     rcases List.mem_cons.1 h1 with z | z
     ·cases z; exact absurd h2.symm q
     ·exact i1 ⟨id',c',e',z,h2⟩
   ·intro h
    rw[if_neg (fun q=>h ⟨id,c,e,List.mem_cons_self,q.symm⟩)]
    exact i2 fun⟨id',c',e',h1,h2⟩=>h ⟨id',c',e',List.mem_cons_of_mem _ h1,h2⟩
  | _=>
   simp only[sW]
   refine⟨fun⟨id',c',e',h1,h2⟩=>i1 ?_,fun h=>i2 fun⟨id',c',e',h1,h2⟩=>h ⟨id',c',e',List.mem_cons_of_mem _ h1,h2⟩⟩
   rcases List.mem_cons.1 h1 with z | z
   ·cases z
   ·exact⟨id',c',e',z,h2⟩
theorem xw{H0 H:Hp}:∀ {ex:List Extra} (b:Nat),(nwOf ex b→(oK ex H0 H).get b=H0.get b)∧(¬ nwOf ex b→(oK ex H0 H).get b=H.get b)
 | [],b=>⟨fun⟨_,_,_,h,_⟩=>(by cases h),fun _=>rfl⟩
 | y::l,b=>by
  obtain⟨i1,i2⟩:=xw (H0:=H0) (H:=H) (ex:=l) b
  cases y with
  | a id c e=>
   simp only[oK,Tr.get_set]
   constructor
   ·rintro⟨id',c',e',h1,h2⟩
    by_cases q:b=id
    ·rw[if_pos q,q]
    ·rw[if_neg q]
     rcases List.mem_cons.1 h1 with z | z
     ·cases z; exact absurd h2.symm q
     ·exact i1 ⟨id',c',e',z,h2⟩
   ·intro h
    rw[if_neg (fun q=>h ⟨id,c,e,List.mem_cons_self,q.symm⟩)]
    exact i2 fun⟨id',c',e',h1,h2⟩=>h ⟨id',c',e',List.mem_cons_of_mem _ h1,h2⟩
  | _=>
   simp only[oK]
   refine⟨fun⟨id',c',e',h1,h2⟩=>i1 ?_,fun h=>i2 fun⟨id',c',e',h1,h2⟩=>h ⟨id',c',e',List.mem_cons_of_mem _ h1,h2⟩⟩
   rcases List.mem_cons.1 h1 with z | z
   ·cases z
   ·exact⟨id',c',e',z,h2⟩
theorem Fz{H0 H:Hp}:∀ {ex:List Extra},(∀ y ∈ ex,(∃ t a,y=.l t a∧(H.get a.block).isSome)∨∃ id c e,y=.a id c e)→∃ H1,zq ex H0 H=some H1∧(∀ b,ldOf ex b→H1.get b=H0.get b)∧∀ b,¬ ldOf ex b→H1.get b=H.get b
 | [],_=>⟨H,rfl,fun b ⟨t,a,h,_⟩=>(by cases h),fun _ _=>rfl⟩
 | y::l,h=>by
  obtain⟨H1,e1,e2,e3⟩:=Fz (H0:=H0) (ex:=l) (fun z hz=>h z (List.mem_cons_of_mem _ hz))
  rcases h y List.mem_cons_self with⟨t,a,rfl,ha⟩ | ⟨id,c,e,rfl⟩
  ·obtain⟨B,h1⟩:=Option.isSome_iff_exists.1 ha
   refine⟨H1.set a.block (H0.get a.block),by simp only[zq,e1,h1],fun b hb=>?_,fun b hb=>?_⟩
   ·rw[Tr.get_set]
    by_cases hab:b=a.block
    ·rw[if_pos hab,hab]
    ·rw[if_neg hab]
     obtain⟨t',a',q1,q2⟩:=hb
     rcases List.mem_cons.1 q1 with q | q
     ·cases q; exact absurd q2.symm hab
     ·exact e2 b ⟨t',a',q,q2⟩
   ·rw[Tr.get_set,if_neg (fun q=>hb ⟨t,a,List.mem_cons_self,q.symm⟩)]
    exact e3 b (fun⟨t',a',q1,q2⟩=>hb ⟨t',a',List.mem_cons_of_mem _ q1,q2⟩)
  ·refine⟨H1,by simp only[zq,e1],fun b hb=>?_,fun b hb=>e3 b fun⟨t',a',q1,q2⟩=>hb ⟨t',a',List.mem_cons_of_mem _ q1,q2⟩⟩
   obtain⟨t',a',q1,q2⟩:=hb
   rcases List.mem_cons.1 q1 with q | q
   ·cases q
   ·exact e2 b ⟨t',a',q,q2⟩
theorem Nk{H:Hp}:∀ {ex:List Extra},(∀ y ∈ ex,(∃ t a,y=.l t a)∨∃ id c e,y=.a id c e)→chkX P H ex=true
 | [],_=>rfl
 | y::l,h=>by
  have h3:=Nk (H:=H) (ex:=l) (fun z hz=>h z (List.mem_cons_of_mem _ hz))
  rcases h y List.mem_cons_self with⟨t,a,rfl⟩ | ⟨id,c,e,rfl⟩ <;> simp only[chkX,chkE,h3,Bool.and_self]
theorem AQ{ex:List Extra}{H:Hp}{n:Nat}{v:Value}{op:Hp→Nat→(Value→Hp→Nat→Option ρ)→Option ρ}(hex:ExOk H ex)(hop:∀ H k,op H n k=k v H n) :
  ∃ H',(∀ b,H'.get b=H.get b)∧∀ k,effK P ex H n op k=k v H' n:=by
 cases ex with
 | nil=>exact⟨H,fun _=>rfl,fun k=>by unfold effK; exact hop H k⟩
 | cons y l=>
  obtain⟨H1,e1,e2⟩:=Fy hex.all
  have hld:∀ t a,Extra.l t a ∈ y::l→((sW (y::l) H1).get a.block).isSome:=by
   intro t a hm
   have hn:¬ nwOf (y::l) a.block:=fun⟨id,c,e,q1,q2⟩=>hex.apart t a id c e hm q1 q2.symm
   rw[(qJ (H:=H1) a.block).2 hn]
   have hs:(H.get a.block).isSome:=by
    rcases hex.all _ hm with⟨t',a',q,hc⟩ | ⟨_,_,_,q⟩
    ·cases q
     rcases hc with⟨c,e,ro,vec,hc⟩ | ⟨c,hc⟩ <;> rw[hc] <;> rfl
    ·cases q
   rcases e2 a.block with q | ⟨⟨c,e,ro,vec,_,q⟩,_⟩
   ·rw[q]; exact hs
   ·rw[q]; rfl
  have hall:∀ z ∈ y::l,(∃ t a,z=.l t a∧((sW (y::l) H1).get a.block).isSome)∨∃ id c e,z=.a id c e:=by
   intro z hz
   rcases hex.all z hz with⟨t,a,rfl,_⟩ | q
   ·exact .inl ⟨t,a,rfl,hld t a hz⟩
   ·exact .inr q
  obtain⟨H3,f1,f2,f3⟩:=Fz (H0:=H) hall
  have hck:chkX P (oK (y::l) H H3) (y::l)=true:=Nk fun z hz=>by
   rcases hex.all z hz with⟨t,a,q,_⟩ | q
   ·exact .inl ⟨t,a,q⟩
   ·exact .inr q
  refine⟨oK (y::l) H H3,fun b=>?_,fun k=>?_⟩
  ·by_cases hn:nwOf (y::l) b
   ·exact(xw b).1 hn
   ·rw[(xw b).2 hn]
    by_cases hb:ldOf (y::l) b
    ·exact f2 b hb
    ·rw[f3 b hb,(qJ b).2 hn]
     rcases e2 b with q | ⟨_,q⟩
     ·exact q
     ·exact absurd q hb
  ·unfold effK
   simp only[e1,aj,hop,f1,hck]
   rfl
end Go.Ev
end
section
namespace Go.Proofs.Ytmjbdjnnojfhkaa.spec
open Go.Ev Go.Proofs.Ytmjbdjnnojfhkaa.nestFits Go.Proofs.Ytmjbdjnnojfhkaa.G
noncomputable def ay(f:Nat→Int):Nat→Int
 | 0=>0
 | i+1=>ay f i+f i
theorem bz{f g:Nat→Int}:∀ {i:Nat},(∀ k,k<i→f k=g k)→ay f i=ay g i
 | 0,_=>rfl
 | i+1,h=>by
  simp only[ay]
  rw[bz (fun k hk=>h k (by omega)),h i (by omega)]
theorem oy{f:Nat→Int}{i:Nat}:∀ {j:Nat},i≤j→(∀ k,i≤k→k<j→f k=0)→ay f j=ay f i
 | 0,h,_=>by rw[show i=0 by omega]
 | j+1,h,hz=>by
  rcases Nat.eq_or_lt_of_le h with e | e
  ·rw[e]
  ·simp only[ay]
   rw[oy (j:=j) (by omega) (fun k h1 h2=>hz k h1 (by omega)),hz j (by omega) (by omega)]
   omega
theorem CV{f:Nat→Int}{c:Int}:∀ {i:Nat},(∀ k,k<i→0≤f k∧f k≤c)→0≤ay f i∧ay f i≤c * i
 | 0,_=>by simp [ay]
 | i+1,h=>by
  obtain⟨h1,h2⟩:=CV (i:=i) (fun k hk=>h k (by omega))
  obtain⟨g1,g2⟩:=h i (by omega)
  simp only[ay]
  have:c * ((i+1:Nat):Int)=c * i+c:=by rw[Int.natCast_add,Int.mul_add]; simp
  omega
theorem kQ{f g:Nat→Int}:∀ {i:Nat},(∀ k,k<i→f k≤g k)→ay f i≤ay g i
 | 0,_=>by simp [ay]
 | i+1,h=>by
  have h1:=kQ (i:=i) (fun k hk=>h k (by omega))
  have h2:=h i (by omega)
  simp only[ay]
  omega
theorem lows_sum(js ks:List Int)(nj kind at_ pad:Nat):∀ i:Nat,ay (fun p=>(cq js ks nj kind at_ p).1) i=lows js ks nj kind at_ pad i+if pad<i then(cq js ks nj kind at_ pad).1 else 0
 | 0=>by simp [ay,lows]
 | i+1=>by
  simp only[ay,lows,lows_sum js ks nj kind at_ pad i]
  by_cases h:i=pad
  ·subst h
   rw[if_neg (by omega),if_pos rfl,if_pos (by omega)]
  ·rw[if_neg (show ¬ (i:Int)=(pad:Int) by omega)]
   by_cases h2:pad<i
   ·rw[if_pos h2,if_pos (by omega)]; omega
   ·rw[if_neg h2,if_neg (by omega)]
    omega
theorem highs_sum(js ks:List Int)(nj kind at_ pad:Nat):∀ i:Nat,ay (fun p=>(cq js ks nj kind at_ p).2) i=vz js ks nj kind at_ pad i+if pad<i then(cq js ks nj kind at_ pad).2 else 0
 | 0=>by simp [ay,vz]
 | i+1=>by
  simp only[ay,vz,highs_sum js ks nj kind at_ pad i]
  by_cases h:i=pad
  ·subst h
   rw[if_neg (by omega),if_pos rfl,if_pos (by omega)]
  ·rw[if_neg (show ¬ (i:Int)=(pad:Int) by omega)]
   by_cases h2:pad<i
   ·rw[if_pos h2,if_pos (by omega)]; omega
   ·rw[if_neg h2,if_neg (by omega)]
    omega
theorem reach_own(js ks:List Int)(nj kind:Nat)(a:Int):cq js ks nj kind a a=(ks.getD (kind * 5+1) 0,ks.getD (kind * 5+2) 0):=by
 unfold cq; rw[if_pos rfl]
def Inner(js:List Int)(nj np:Nat):Prop:=∀ j,j<nj→∀ a b,J js a b j→0≤a∧a<np∧0≤b∧b<np
theorem IX{js ks:List Int}{nj np kind a p:Nat}(h:Inner js nj np)(ha:a<np)(hp:np≤p):cq js ks nj kind a p=(0,0):=by
 unfold cq
 rw[if_neg (by omega),if_neg]
 rintro⟨j,h1,h2⟩
 have:=h j h1 _ _ h2
 omega
theorem fitsB_iff{js ks:List Int}{nj np nk kind a:Nat}(hs:IV ks nk)(hk:kind<nk)(ha:a<np)(hi:Inner js nj np)(hnp:np≤11) :
  fitsB js ks nj np kind a↔ay (fun p=>(cq js ks nj kind a p).1) 11≤ks.getD (kind * 5) 0∧ks.getD (kind * 5) 0≤ay (fun p=>(cq js ks nj kind a p).2) 11:=by
 have e1:ay (fun p=>(cq js ks nj kind a p).1) 11=ay (fun p=>(cq js ks nj kind a p).1) np:=oy hnp fun k h1 _=>by rw[IX hi ha h1]
 have e2:ay (fun p=>(cq js ks nj kind a p).2) 11=ay (fun p=>(cq js ks nj kind a p).2) np:=oy hnp fun k h1 _=>by rw[IX hi ha h1]
 rw[e1,e2,lows_sum js ks nj kind a a np,highs_sum js ks nj kind a a np,if_pos ha,if_pos ha,reach_own]
 obtain⟨b1,b2,_⟩:=Tj (js:=js) (nj:=nj) hs hk (a:Int) (a:Int) np
 obtain⟨_,_,lo0,lohi,_⟩:=hs kind hk
 unfold fitsB Mx
 rw[reach_own]
 constructor
 ·rintro⟨m,h1,h2,⟨h3,h4⟩,h5,h6⟩
  simp only
  omega
 ·simp only
  rintro⟨h1,h2⟩
  by_cases c:ks.getD (kind * 5) 0-vz js ks nj kind a a np≤ks.getD (kind * 5+1) 0
  ·exact⟨ks.getD (kind * 5+1) 0,by omega,by omega,⟨by omega,by omega⟩,by omega,by omega⟩
  ·exact⟨ks.getD (kind * 5) 0-vz js ks nj kind a a np,by omega,by omega,⟨by omega,by omega⟩,by omega,by omega⟩
end Go.Proofs.Ytmjbdjnnojfhkaa.spec
end
section
namespace Go.Proofs.Ytmjbdjnnojfhkaa.spec
open Go.Ev Go.Proofs.Ytmjbdjnnojfhkaa.nestFits Go.Proofs.Ytmjbdjnnojfhkaa.G
set_option maxRecDepth 100000
variable {ρ:Type}
theorem und111:P.underlying 109=some (.array 8 53):=by kernel_rfl
theorem agg111:fJ P 109=some true:=by kernel_rfl
theorem sz111:szT P 109=some 16:=by kernel_rfl
theorem Tq:fJ P 111=some true:=by kernel_rfl
theorem Gk:szT P 111=some 33:=by kernel_rfl
theorem qez(b o:Nat):aw P 111 (.pointer (some ⟨b,o,none⟩)) 0=some (.pointer (some ⟨b,o+0,none⟩)):=by kernel_rfl
theorem UK(b o:Nat):aw P 111 (.pointer (some ⟨b,o,none⟩)) 1=some (.pointer (some ⟨b,o+1,none⟩)):=by kernel_rfl
theorem fa113_2(b o:Nat):aw P 111 (.pointer (some ⟨b,o,none⟩)) 2=some (.pointer (some ⟨b,o+17,none⟩)):=by kernel_rfl
theorem low_spec(c:Cal)(k:Nat)(a b:Int):∃ H' n',C72_0 c k (.agg ⟨[.int .i64 a,.int .i64 b]⟩) .nil 0=some (.int .i64 a,H',n'):=by
 unfold C72_0 B72_0
 simp only[dZ,aZ,ptr]
 have h0:aW ((Tr.nil:Hp).set 0 (some (.cells [.int .i64 a,.int .i64 b] 53 false none))) 0 0 [.int .i64 a,.int .i64 b]:=aW.new
 have l0:az P ((Tr.nil:Hp).set 0 (some (.cells [.int .i64 a,.int .i64 b] 53 false none))) 3 ⟨0,0+0,none⟩=some (.int .i64 a):=bj h0 agg3 rfl
 simp only[fa53_0,aj,ak,l0]
 exact⟨_,_,rfl⟩
theorem high_spec(c:Cal)(k:Nat)(a b:Int):∃ H' n',C73_0 c k (.agg ⟨[.int .i64 a,.int .i64 b]⟩) .nil 0=some (.int .i64 b,H',n'):=by
 unfold C73_0 B73_0
 simp only[dZ,aZ,ptr]
 have h0:aW ((Tr.nil:Hp).set 0 (some (.cells [.int .i64 a,.int .i64 b] 53 false none))) 0 0 [.int .i64 a,.int .i64 b]:=aW.new
 have l0:az P ((Tr.nil:Hp).set 0 (some (.cells [.int .i64 a,.int .i64 b] 53 false none))) 3 ⟨0,0+1,none⟩=some (.int .i64 b):=bj h0 agg3 rfl
 simp only[fa53_1,aj,ak,l0]
 exact⟨_,_,rfl⟩
theorem flat72:iY P 72=true:=by kernel_rfl
theorem flat73:iY P 73=true:=by kernel_rfl
theorem call72(l:Nat)(a:Value)(H:Hp)(n:Nat):(cal (l+1)).call 72 [a] H n=C72_0 (cal l) KK a H n:=by kernel_rfl
theorem call73(l:Nat)(a:Value)(H:Hp)(n:Nat):(cal (l+1)).call 73 [a] H n=C73_0 (cal l) KK a H n:=by kernel_rfl
noncomputable def endF(e:Nat):Value:=match e with
 | 0=>.func (.func 72) #[] #[]
 | _=>.func (.func 73) #[] #[]
theorem qlx(l:Nat){e:Nat}(he:e<2)(L:List Int)(i:Nat)(hi:i+2≤L.length)(H:Hp)(n:Nat)(k:Value→Hp→Nat→Option ρ) :
  lQ P (cal (l+1)) (endF e) [.agg ⟨((ints L).drop i).take 2⟩] H n k=k (.int .i64 (L.getD (i+e) 0)) H n:=by
 rw[SK hi]
 match e,he with
 | 0,_=>
  obtain⟨H',n',h⟩:=low_spec (cal l) KK (L.getD i 0) (L.getD (i+1) 0)
  exact iZ flat72 rfl ((call72 ..).trans h) rfl
 | 1,_=>
  obtain⟨H',n',h⟩:=high_spec (cal l) KK (L.getD i 0) (L.getD (i+1) 0)
  exact iZ flat73 rfl ((call73 ..).trans h) rfl
theorem index_row{L:List Int}(hL:L.length=16){i:Nat}(hi:i<8):EJ P 109 (.agg ⟨ints L⟩) (.int .i64 i)=some (.agg ⟨((ints L).drop (i * 2)).take 2⟩):=by
 unfold EJ
 have:qY (.int .i64 (i:Int)) 8=some i:=by
  show qY (.int .i64 (.ofNat i)) 8=some i
  simp [qY,hi]
 simp only[und111,this,sz53,Cy,UY]
 have hc:cut (ints L) (i * 2) 2=some (((ints L).drop (i * 2)).take 2):=by
  unfold cut
  simp only
  rw[if_pos (by simp [bv]; omega)]
 simp only[hc]
noncomputable def bW(y:Int)(L B:List Int):List Int:=y::(L++B)
noncomputable def total(L:List Int)(e:Nat):Int:=ay (fun p=>L.getD (p * 2+e) 0) 8
def iW(L:List Int):Prop:=∀ k:Nat,0≤L.getD k 0∧L.getD k 0≤1000
theorem Ez(L:List Int):ck (ints L)=true:=by
 unfold ints
 induction L with
 | nil=>rfl
 | cons x L ih=>simp only[List.map_cons,ck,ih,bw,Bool.and_self]
theorem sum_loop(l k:Nat){e:Nat}(he:e<2){L:List Int}(hL:L.length=16)(hB:iW L):∀(m i:Nat) (H:Hp) (n:Nat),i≤8→8-i≤m →
  ∃ H' n',S98_1 (cal (l+1)) k m (endF e) (.int .i64 (ay (fun p=>L.getD (p * 2+e) 0) i)) (.agg ⟨ints L⟩) (.int .i64 i) H n=some (.int .i64 (total L e),H',n'):=by
 have body:∀(b1:Value→Value→Value→Value→Hp→Nat→Res) (m i:Nat) (H:Hp) (n:Nat),i≤8 →
   (∀ H' n',i<8→∃ H'' n'',b1 (endF e) (.int .i64 (ay (fun p=>L.getD (p * 2+e) 0) (i+1))) (.agg ⟨ints L⟩) (.int .i64 ((i+1:Nat):Int)) H' n'=some (.int .i64 (total L e),H'',n'')) →
   ∃ H' n',C98_1 (cal (l+1)) k m b1 (endF e) (.int .i64 (ay (fun p=>L.getD (p * 2+e) 0) i)) (.agg ⟨ints L⟩) (.int .i64 i) H n=some (.int .i64 (total L e),H',n'):=by
  intro b1 m i H n hi ih
  unfold C98_1 B98_1
  simp only[ax cJ,gw]
  by_cases hlt:i<8
  ·rw[if_pos (by omega)]
   have hl2:i * 2+2≤L.length:=by omega
   obtain⟨g1,g2⟩:=Qq hl2
   obtain⟨H1,k1,k2,k3⟩:=vk (P:=P) (ρ:=Value × Hp × Nat) (H:=H) (n:=n) zero53 rfl sz53 g1 g2
   simp only[index_row hL hlt,aj]
   rw[k3]
   have hback:=fY k2 UY sz53 g1
   simp only[ak,aj,hback]
   rw[qlx l he L (i * 2) hl2]
   obtain⟨s1,s2⟩:=CV (f:=fun p=>L.getD (p * 2+e) 0) (c:=1000) (i:=i) (fun p _=>hB _)
   obtain⟨t1,t2⟩:=hB (i * 2+e)
   have hI:I64 (ay (fun p=>L.getD (p * 2+e) 0) i+L.getD (i * 2+e) 0):=by unfold I64; omega
   have hI2:I64 ((i:Int)+1):=by unfold I64; omega
   have hcast:((i:Int)+1)=((i+1:Nat):Int):=by omega
   simp only[ax (bk hI),ax (bk hI2),hcast]
   exact ih H1 (n+1) hlt
  ·rw[if_neg (by omega)]
   have hi':i=8:=by omega
   subst hi'
   exact⟨_,_,rfl⟩
 intro m
 induction m with
 | zero=>
  intro i H n h1 h2
  exact body _ 0 i H n h1 (fun _ _ h=>by omega)
 | succ m ih=>
  intro i H n h1 h2
  exact body _ (m+1) i H n h1 (fun H' n' q=>ih (i+1) H' n' (by omega) (by omega))
theorem gk{y:Int}{L B:List Int}(hL:L.length=16)(hB:B.length=16):(bW y L B).length=33:=by simp [bW,hL,hB]
theorem nest_shares{y:Int}{L B:List Int}(hL:L.length=16):((ints (bW y L B)).drop 1).take 16=ints L:=by
 rw[EK]
 congr 1
 unfold bW
 rw[List.drop_succ_cons,List.drop_zero,← hL,List.take_left']
 rfl
theorem sum_spec(l:Nat){e:Nat}(he:e<2){y:Int}{L B:List Int}(hL:L.length=16)(hB:B.length=16)(hb:iW L) :
  ∃ H' n',C98_0 (cal (l+1)) KK (.agg ⟨ints (bW y L B)⟩) (endF e) .nil 0=some (.int .i64 (total L e),H',n'):=by
 unfold C98_0 B98_0
 generalize hS:S98_1 (cal (l+1)) KK KK=S
 simp only[dZ,aZ,ptr]
 have h0:aW ((Tr.nil:Hp).set 0 (some (.cells (ints (bW y L B)) 111 false none))) 0 0 (ints (bW y L B)):=aW.new
 have hl:=cw (P:=P) (k:=1) h0 agg111 sz111 (by rw[bv,gk hL hB]; omega) (dY _)
 rw[nest_shares hL] at hl
 generalize (Tr.nil:Hp).set 0 (some (.cells (ints (bW y L B)) 111 false none))=H1 at hl ⊢
 rw[UK,aj,ak,aj,hl,aj]
 have h:=sum_loop l KK he hL hb KK 0 H1 (0+1) (by omega) (by unfold KK; omega)
 have e0:ay (fun p=>L.getD (p * 2+e) 0) 0=0:=rfl
 rw[e0,hS] at h
 exact h
theorem flat98:iY P 98=true:=by kernel_rfl
theorem call98(l:Nat)(a b:Value)(H:Hp)(n:Nat):(cal (l+1)).call 98 [a,b] H n=C98_0 (cal l) KK a b H n:=
 (show(cal (l+1)).call 98 [a,b] H n=Pq ent98 (cal l) [a,b] H n by kernel_rfl).trans (Pv ..)
theorem Vj(l:Nat){e:Nat}(he:e<2){y:Int}{L B:List Int}(hL:L.length=16)(hB:B.length=16)(hb:iW L)(H:Hp)(n:Nat)(k:Value→Hp→Nat→Option ρ) :
  aX P (cal (l+2)) 98 [.agg ⟨ints (bW y L B)⟩,endF e] H n k=k (.int .i64 (total L e)) H n:=by
 obtain⟨H',n',h⟩:=sum_spec l he (y:=y) hL hB hb
 refine iZ flat98 ?_ ((call98 ..).trans h) rfl
 have:bw (endF e)=true:=by unfold endF; split <;> rfl
 simp only[ck,bw,ox,Ez,this,Bool.and_self]
theorem in_range_spec(c:Cal)(k:Nat)(a b y:Int):∃ H' n',C99_0 c k (.agg ⟨[.int .i64 a,.int .i64 b]⟩) (.int .i64 y) .nil 0=some (.bool (decide (a≤y∧y≤b)),H',n'):=by
 unfold C99_0 B99_0
 simp only[dZ,aZ,ptr]
 have h0:aW ((Tr.nil:Hp).set 0 (some (.cells [.int .i64 a,.int .i64 b] 53 false none))) 0 0 [.int .i64 a,.int .i64 b]:=aW.new
 generalize (Tr.nil:Hp).set 0 (some (.cells [.int .i64 a,.int .i64 b] 53 false none))=H1 at h0 ⊢
 have l0:az P H1 3 ⟨0,0+0,none⟩=some (.int .i64 a):=bj h0 agg3 rfl
 have l1:az P H1 3 ⟨0,0+1,none⟩=some (.int .i64 b):=bj h0 agg3 rfl
 simp only[fa53_0,fa53_1,aj,ak,l0,ax wW]
 cases c1:decide (a≤y) <;> cases c2:decide (y≤b) <;>
  simp only[dk,eJ,jk,aj,dw,dQ,c2,ak,l1,ax wW] <;>
  refine⟨_,_,qdw ?_⟩ <;> simp only[decide_eq_true_eq,decide_eq_false_iff_not] at c1 c2 <;> simp [c1,c2]
theorem flat99:iY P 99=true:=by kernel_rfl
theorem call99(l:Nat)(a b:Value)(H:Hp)(n:Nat):(cal (l+1)).call 99 [a,b] H n=C99_0 (cal l) KK a b H n:=by kernel_rfl
theorem in_range_call(l:Nat)(a b y:Int)(H:Hp)(n:Nat)(k:Value→Hp→Nat→Option ρ) :
  aX P (cal (l+1)) 99 [.agg ⟨[.int .i64 a,.int .i64 b]⟩,.int .i64 y] H n k=k (.bool (decide (a≤y∧y≤b))) H n:=by
 obtain⟨H',n',h⟩:=in_range_spec (cal l) KK a b y
 exact iZ flat99 rfl ((call99 ..).trans h) rfl
theorem fit_spec(l:Nat){y:Int}{L B:List Int}(hL:L.length=16)(hB:B.length=16)(hb:iW L) :
  ∃ H' n',C62_0 (cal (l+2)) KK (.agg ⟨ints (bW y L B)⟩) .nil 0=some (.bool (decide (total L 0≤y∧y≤total L 1)),H',n'):=by
 unfold C62_0 B62_0
 simp only[dZ,aZ,ptr]
 have hg:((Tr.nil:Hp).set 0 (some (.cells (ints (bW y L B)) 111 false none))).get 0=some (.cells (ints (bW y L B)) 111 false none):=by rw[Tr.get_set,if_pos rfl]
 generalize (Tr.nil:Hp).set 0 (some (.cells (ints (bW y L B)) 111 false none))=H1 at hg ⊢
 have hl:=fY hg Tq Gk (by rw[bv,gk hL hB])
 have h0:aW H1 0 0 (ints (bW y L B)):=dv hg
 have l0:az P H1 3 ⟨0,0+0,none⟩=some (.int .i64 y):=bj h0 agg3 (by simp [ints,bW])
 simp only[aj,ak,hl,qez,l0]
 have ok:∀ H:Hp,H.get 0=H1.get 0→∀ ex:List Extra,(∀ q ∈ ex,q=.l 3 ⟨0,0+0,none⟩∨q=.l 111 ⟨0,0,none⟩)→ExOk H ex:=by
  intro H hH ex hex
  refine⟨fun q hq=>.inl ?_,fun t a id c e h1 h2=>?_⟩
  ·rcases hex q hq with rfl | rfl
   ·exact⟨_,_,rfl,.inl ⟨_,_,_,_,hH.trans hg⟩⟩
   ·exact⟨_,_,rfl,.inl ⟨_,_,_,_,hH.trans hg⟩⟩
  ·rcases hex _ h2 with q | q <;> cases q
 obtain⟨H2,s2,e2⟩:=AQ (P:=P) (ρ:=Value × Hp × Nat) (ex:=[.l 3 ⟨0,0+0,none⟩,.l 111 ⟨0,0,none⟩]) (H:=H1) (n:=0+1) (v:=.int .i64 (total L 0))
  (op:=fun H n k=>aX P (cal (l+2)) 98 [.agg ⟨ints (bW y L B)⟩,.func (.func 72) #[] #[]] H n fun v H n=>k v H n) (ok H1 rfl _ (by simp)) (fun H k=>Vj l (e:=0) (by omega) hL hB hb H _ _)
 rw[e2]
 obtain⟨H3,s3,e3⟩:=AQ (P:=P) (ρ:=Value × Hp × Nat) (ex:=[.l 3 ⟨0,0+0,none⟩]) (H:=H2) (n:=0+1) (v:=.int .i64 (total L 1))
  (op:=fun H n k=>aX P (cal (l+2)) 98 [.agg ⟨ints (bW y L B)⟩,.func (.func 73) #[] #[]] H n fun v H n=>k v H n) (ok H2 (s2 0) _ (by simp)) (fun H k=>Vj l (e:=1) (by omega) hL hB hb H _ _)
 rw[e3]
 simp only[build53,aj,in_range_call]
 exact⟨_,_,rfl⟩
theorem flat62:iY P 62=true:=by kernel_rfl
theorem call62(l:Nat)(a:Value)(H:Hp)(n:Nat):(cal (l+1)).call 62 [a] H n=C62_0 (cal l) KK a H n:=
 (show(cal (l+1)).call 62 [a] H n=Pq ent62 (cal l) [a] H n by kernel_rfl).trans (Pv ..)
theorem fit_call(l:Nat){y:Int}{L B:List Int}(hL:L.length=16)(hB:B.length=16)(hb:iW L)(H:Hp)(n:Nat)(k:Value→Hp→Nat→Option ρ) :
  aX P (cal (l+3)) 62 [.agg ⟨ints (bW y L B)⟩] H n k=k (.bool (decide (total L 0≤y∧y≤total L 1))) H n:=by
 obtain⟨H',n',h⟩:=fit_spec l (y:=y) hL hB hb
 refine iZ flat62 ?_ ((call62 ..).trans h) rfl
 simp only[ck,bw,ox,Ez,Bool.and_self]
end Go.Proofs.Ytmjbdjnnojfhkaa.spec
end
section
namespace Go.Ev
open Go
variable {P:Program} {ρ:Type}
theorem effK_grow{ex:List Extra}{H:Hp}{n:Nat}{v:Value}{op:Hp→Nat→(Value→Hp→Nat→Option ρ)→Option ρ}
  (hex:∀ y ∈ ex,∃ t a,y=.l t a∧a.block<n∧((∃ c e ro vec,H.get a.block=some (.cells c e ro vec))∨∃ c,H.get a.block=some (.rows c)))
  (hop:∀ Hm,∃ H2 n2,(∀ k,op Hm n k=k v H2 n2)∧n≤n2∧Keep n Hm H2) :
  ∃ H' n',(∀ k,effK P ex H n op k=k v H' n')∧n≤n'∧Keep n H H':=by
 cases ex with
 | nil=>
  obtain⟨H2,n2,h1,h2,h3⟩:=hop H
  exact⟨H2,n2,fun k=>by unfold effK; exact h1 k,h2,h3⟩
 | cons y l=>
  have hl:∀ z ∈ y::l,∃ t a,z=.l t a:=fun z hz=>by obtain⟨t,a,e,_⟩:=hex z hz; exact⟨t,a,e⟩
  obtain⟨H1,e1,e2⟩:=Fy (ex:=y::l) (H:=H) fun z hz=>by obtain⟨t,a,e,_,h⟩:=hex z hz; exact .inl ⟨t,a,e,h⟩
  have hnw:∀ b,¬ nwOf (y::l) b:=fun b ⟨id,c,e,h1,_⟩=>by obtain⟨t,a,q⟩:=hl _ h1; cases q
  obtain⟨H2,n2,h1,h2,h3⟩:=hop (sW (y::l) H1)
  have hsome:∀ z ∈ y::l,(∃ t a,z=.l t a∧(H2.get a.block).isSome)∨∃ id c e,z=.a id c e:=by
   intro z hz
   obtain⟨t,a,rfl,hn,hc⟩:=hex z hz
   refine .inl ⟨t,a,rfl,?_⟩
   rw[h3 _ hn,(qJ (H:=H1) a.block).2 (hnw _)]
   have hs:(H.get a.block).isSome:=by rcases hc with⟨c,e,ro,vec,hc⟩ | ⟨c,hc⟩ <;> rw[hc] <;> rfl
   rcases e2 a.block with q | ⟨⟨c,e,ro,vec,_,q⟩,_⟩
   ·rw[q]; exact hs
   ·rw[q]; rfl
  obtain⟨H3,f1,f2,f3⟩:=Fz (H0:=H) hsome
  have hck:chkX P (oK (y::l) H H3) (y::l)=true:=Nk fun z hz=>.inl (hl z hz)
  refine⟨oK (y::l) H H3,n2,fun k=>?_,h2,fun b hb=>?_⟩
  ·unfold effK
   simp only[e1,aj,h1,f1,hck]
   rfl
  ·rw[(xw b).2 (hnw b)]
   by_cases q:ldOf (y::l) b
   ·exact f2 b q
   ·rw[f3 b q,h3 b hb,(qJ b).2 (hnw b)]
    rcases e2 b with z | ⟨_,z⟩
    ·exact z
    ·exact absurd z q
theorem splice_two{a b:Int}:∀ {X:List Int} {o:Nat},o+2≤X.length→ij (ints X) o [.int .i64 a,.int .i64 b]=some (ints ((X.set o a).set (o+1) b))
 | [],_,h=>by simp at h
 | [x],0,h=>by simp at h
 | x::x'::X,0,_=>by
  unfold ij
  simp [ints,ij.over]
 | x::X,o+1,h=>by
  have ih:=splice_two (a:=a) (b:=b) (X:=X) (o:=o) (by simp at h; omega)
  unfold ij
  simp only[ints,List.map_cons,List.set_cons_succ] at ih ⊢
  rw[ih]
theorem XW{a b:Int}{X:List Int}{o g:Nat}{H:Hp}{e:TypeId}{vec:Option Nat}(h:H.get g=some (.cells (ints X) e false vec))(ho:o+2≤X.length) :
  storeN H ⟨g,o,none⟩ [.int .i64 a,.int .i64 b]=some (H.set g (some (.cells (ints ((X.set o a).set (o+1) b)) e false vec))):=by
 unfold storeN
 simp only[h,splice_two ho]
 rfl
end Go.Ev
end
section
namespace Go.Proofs.Ytmjbdjnnojfhkaa.spec
open Go.Ev Go.Proofs.Ytmjbdjnnojfhkaa.nestFits Go.Proofs.Ytmjbdjnnojfhkaa.G
set_option maxRecDepth 100000
variable {ρ:Type}
theorem max_k(a b:Int)(H:Hp)(n:Nat)(k:Value→Hp→Nat→Option ρ) :
  EY P .max [3,3] (Go.Call.mk (Go.Callee.builtin Go.Builtin.max) #[(Go.Operand.tmp 13),(Go.Operand.tmp 14)] #[3,3]) 3 [.int .i64 a,.int .i64 b] H n k=k (.int .i64 (max a b)) H n:=by
 have h:max a b=if b > a then b else a:=by omega
 rw[h]
 rfl
theorem min_k(a b:Int)(H:Hp)(n:Nat)(k:Value→Hp→Nat→Option ρ) :
  EY P .min [3,3] (Go.Call.mk (Go.Callee.builtin Go.Builtin.min) #[(Go.Operand.tmp 13),(Go.Operand.tmp 14)] #[3,3]) 3 [.int .i64 a,.int .i64 b] H n k=k (.int .i64 (min a b)) H n:=by
 have h:min a b=if b<a then b else a:=by omega
 rw[h]
 rfl
theorem len44(b:Nat):lenV P 44 (.slice (some ⟨b,0,none⟩) 1 1)=some (.int .i64 1):=by kernel_rfl
theorem at44(b:Nat):aJ P 44 (.slice (some ⟨b,0,none⟩) 1 1) (.int .i64 0)=some (.pointer (some ⟨b,0+0,none⟩)):=by kernel_rfl
theorem i01:decide ((0:Int)<1)=true:=rfl
theorem i11:decide ((1:Int)<1)=false:=rfl
theorem most_spec(c:Cal)(a x:Int){H:Hp}{n b:Nat}(hx:aW H b 0 [.int .i64 x]):YY c KK (.int .i64 a) (.slice (some ⟨b,0,none⟩) 1 1) H n=some (.int .i64 (max a x),H,n):=by
 unfold YY B106_0
 rw[len44,aj]
 have hl:az P H 3 ⟨b,0+0,none⟩=some (.int .i64 x):=bj hx agg3 rfl
 have s1:∀ m,Iq c KK (m+1)=TJ c KK (m+1) (Iq c KK m):=fun _=>rfl
 have hk:KK=19998+1+1:=rfl
 have e:Iq c KK KK=Iq c KK (19998+1+1):=by rw[← hk]
 rw[e,s1]
 generalize hS:Iq c KK (19998+1)=S
 unfold TJ B106_1
 have hI:I64 ((0:Int)+1):=by unfold I64; omega
 rw[ax cJ,i01,fX,at44,aj,ak,aj,hl,aj,max_k,ax (bk hI),← hS,s1]
 generalize Iq c KK 19998=S'
 unfold TJ B106_1
 rw[ax cJ,show((0:Int)+1)=1 from rfl,i11,ez]
theorem least_spec(c:Cal)(a x:Int){H:Hp}{n b:Nat}(hx:aW H b 0 [.int .i64 x]):YX c KK (.int .i64 a) (.slice (some ⟨b,0,none⟩) 1 1) H n=some (.int .i64 (min a x),H,n):=by
 unfold YX B105_0
 rw[len44,aj]
 have hl:az P H 3 ⟨b,0+0,none⟩=some (.int .i64 x):=bj hx agg3 rfl
 have s1:∀ m,Ij c KK (m+1)=Tk c KK (m+1) (Ij c KK m):=fun _=>rfl
 have hk:KK=19998+1+1:=rfl
 have e:Ij c KK KK=Ij c KK (19998+1+1):=by rw[← hk]
 rw[e,s1]
 generalize hS:Ij c KK (19998+1)=S
 unfold Tk B105_1
 have hI:I64 ((0:Int)+1):=by unfold I64; omega
 rw[ax cJ,i01,fX,at44,aj,ak,aj,hl,aj,min_k,ax (bk hI),← hS,s1]
 generalize Ij c KK 19998=S'
 unfold Tk B105_1
 rw[ax cJ,show((0:Int)+1)=1 from rfl,i11,ez]
theorem call105(l:Nat)(a b:Value)(H:Hp)(n:Nat):(cal (l+1)).call 105 [a,b] H n=YX (cal l) KK a b H n:=by kernel_rfl
theorem call106(l:Nat)(a b:Value)(H:Hp)(n:Nat):(cal (l+1)).call 106 [a,b] H n=YY (cal l) KK a b H n:=by kernel_rfl
noncomputable def Dz(e:Nat):Value:=match e with
 | 0=>.func (.func 106) #[] #[]
 | _=>.func (.func 105) #[] #[]
def lim(e:Nat)(a x:Int):Int:=match e with
 | 0=>max a x
 | _=>min a x
theorem with_call(l:Nat){e:Nat}(he:e<2)(a x:Int){H:Hp}{n b:Nat}(hx:aW H b 0 [.int .i64 x])(k:Value→Hp→Nat→Option ρ) :
  lQ P (cal (l+1)) (Dz e) [.int .i64 a,.slice (some ⟨b,0,none⟩) 1 1] H n k=k (.int .i64 (lim e a x)) H n:=by
 match e,he with
 | 0,_=>
  show aX P (cal (l+1)) 106 [.int .i64 a,.slice (some ⟨b,0,none⟩) 1 1] H n k=_
  unfold aX
  have:(iY P 106 && ck [.int .i64 a,.slice (some ⟨b,0,none⟩) 1 1])=false:=by rw[Bool.and_eq_false_iff]; exact .inr rfl
  rw[this,call106,most_spec (cal l) a x hx]
  rfl
 | 1,_=>
  show aX P (cal (l+1)) 105 [.int .i64 a,.slice (some ⟨b,0,none⟩) 1 1] H n k=_
  unfold aX
  have:(iY P 105 && ck [.int .i64 a,.slice (some ⟨b,0,none⟩) 1 1])=false:=by rw[Bool.and_eq_false_iff]; exact .inr rfl
  rw[this,call105,least_spec (cal l) a x hx]
  rfl
noncomputable def endV(e:Nat):Value:=.agg ⟨[endF e,endF (1-e),Dz e]⟩
theorem zero179:iJ P 177=some (.agg #[.nilFunc,.nilFunc,.nilFunc]):=by kernel_rfl
theorem sz179:szT P 177=some 3:=by kernel_rfl
theorem agg179:fJ P 177=some true:=by kernel_rfl
theorem agg129:fJ P 127=some false:=by kernel_rfl
theorem agg160:fJ P 158=some false:=by kernel_rfl
theorem fa179_0(b o:Nat):aw P 177 (.pointer (some ⟨b,o,none⟩)) 0=some (.pointer (some ⟨b,o+0,none⟩)):=by kernel_rfl
theorem fa179_1(b o:Nat):aw P 177 (.pointer (some ⟨b,o,none⟩)) 1=some (.pointer (some ⟨b,o+1,none⟩)):=by kernel_rfl
theorem fa179_2(b o:Nat):aw P 177 (.pointer (some ⟨b,o,none⟩)) 2=some (.pointer (some ⟨b,o+2,none⟩)):=by kernel_rfl
theorem build179a:fK P 177 [(0,(Value.func (.func 72) #[] #[])),(1,(Value.func (.func 73) #[] #[])),(2,(Value.func (.func 106) #[] #[]))]=some (endV 0):=by kernel_rfl
theorem build179b:fK P 177 [(0,(Value.func (.func 73) #[] #[])),(1,(Value.func (.func 72) #[] #[])),(2,(Value.func (.func 105) #[] #[]))]=some (endV 1):=by kernel_rfl
theorem res121(H:Hp)(b:Nat):resV P (Tr.set Tr.nil 0 (some (.pointer (some ⟨b,0,none⟩)))) H yj=(match az P H 177 ⟨b,0,none⟩ with
 | none=>none
 | some v=>some [v]):=by kernel_rfl
theorem res122(H:Hp)(b:Nat):resV P (Tr.set Tr.nil 0 (some (.pointer (some ⟨b,0,none⟩)))) H yq=(match az P H 177 ⟨b,0,none⟩ with
 | none=>none
 | some v=>some [v]):=by kernel_rfl
theorem IY(e:Nat):tj (endF e)=true∧lJ (endF e)=true∧vj (endF e)=true∧bw (endF e)=true:=by unfold endF; split <;> exact⟨rfl,rfl,rfl,rfl⟩
theorem Tv(e:Nat):tj (Dz e)=true∧lJ (Dz e)=true∧vj (Dz e)=true∧bw (Dz e)=true:=by unfold Dz; split <;> exact⟨rfl,rfl,rfl,rfl⟩
theorem lowEnd_spec(c:Cal)(k:Nat)(H:Hp)(n:Nat):Ret (ZV c k H n) n H (endV 0):=by
 obtain⟨H1,k1,k2,k3⟩:=vk (P:=P) (ρ:=Value × Hp × Nat) (H:=H) (n:=n) (L:=[endF 0,endF 1,Dz 0]) zero179 rfl sz179 rfl rfl
 unfold ZV B121_0
 simp only[build179a,aj]
 unfold endV
 rw[k3]
 rw[res121,fY k2 agg179 sz179 rfl]
 exact⟨H1,n+1,rfl,by omega,k1⟩
theorem highEnd_spec(c:Cal)(k:Nat)(H:Hp)(n:Nat):Ret (ZW c k H n) n H (endV 1):=by
 obtain⟨H1,k1,k2,k3⟩:=vk (P:=P) (ρ:=Value × Hp × Nat) (H:=H) (n:=n) (L:=[endF 1,endF 0,Dz 1]) zero179 rfl sz179 rfl rfl
 unfold ZW B122_0
 simp only[build179b,aj]
 unfold endV
 rw[k3]
 rw[res122,fY k2 agg179 sz179 rfl]
 exact⟨H1,n+1,rfl,by omega,k1⟩
theorem call121(l:Nat)(H:Hp)(n:Nat):(cal (l+1)).call 121 [] H n=ZV (cal l) KK H n:=by kernel_rfl
theorem call122(l:Nat)(H:Hp)(n:Nat):(cal (l+1)).call 122 [] H n=ZW (cal l) KK H n:=by kernel_rfl
theorem flat121:iY P 121=false:=by kernel_rfl
theorem flat122:iY P 122=false:=by kernel_rfl
theorem lowEnd_call(l:Nat)(H:Hp)(n:Nat):∃ H' n',(∀ k:Value→Hp→Nat→Option ρ,aX P (cal (l+1)) 121 [] H n k=k (endV 0) H' n')∧n≤n'∧Keep n H H':=by
 obtain⟨H',n',e,h1,h2⟩:=lowEnd_spec (cal l) KK H n
 refine⟨H',n',fun k=>?_,h1,h2⟩
 unfold aX
 rw[flat121,call121,e]
 rfl
theorem highEnd_call(l:Nat)(H:Hp)(n:Nat):∃ H' n',(∀ k:Value→Hp→Nat→Option ρ,aX P (cal (l+1)) 122 [] H n k=k (endV 1) H' n')∧n≤n'∧Keep n H H':=by
 obtain⟨H',n',e,h1,h2⟩:=highEnd_spec (cal l) KK H n
 refine⟨H',n',fun k=>?_,h1,h2⟩
 unfold aX
 rw[flat122,call122,e]
 rfl
noncomputable def ext(y:Int)(L:List Int)(e p:Nat):Int:=lim e (L.getD (p * 2+e) 0) (y-(total L (1-e)-L.getD (p * 2+(1-e)) 0))
theorem at111(b o:Nat){i:Nat}(hi:i<8):aJ P 109 (.pointer (some ⟨b,o,none⟩)) (.int .i64 i)=some (.pointer (some ⟨b,o+i * 2,none⟩)):=by
 unfold aJ
 have:qY (.int .i64 (i:Int)) 8=some i:=by
  show qY (.int .i64 (.ofNat i)) 8=some i
  simp [qY,hi]
 simp only[und111,this,sz53]
 rfl
theorem nest_share{y:Int}{L B:List Int}(hL:L.length=16){i:Nat}(hi:i<8):((ints (bW y L B)).drop (1+i * 2)).take 2=((ints L).drop (i * 2)).take 2:=by
 rw[EK,EK]
 congr 1
 unfold bW
 rw[Nat.add_comm,List.drop_succ_cons,List.drop_append_of_le_length (by omega),List.take_append_of_le_length (by simp; omega)]
theorem total_range{L:List Int}(hb:iW L)(e:Nat):0≤total L e∧total L e≤8000:=by
 have:=CV (f:=fun p=>L.getD (p * 2+e) 0) (c:=1000) (i:=8) (fun p _=>hb _)
 exact⟨this.1,by unfold total; omega⟩
theorem row44(x:Int):zj P 44 1 [(0,.int .i64 x)]=some ([.int .i64 x],3):=by kernel_rfl
theorem extreme_spec(l:Nat){e:Nat}(he:e<2){y:Int}{L B:List Int}(hL:L.length=16)(hB:B.length=16)(hb:iW L)(hy:0≤y∧y≤1000){p:Nat}(hp:p<8) :
  ∃ H' n',ZQ (cal (l+2)) KK (.agg ⟨ints (bW y L B)⟩) (.int .i64 p) (endV e) .nil 0=some (.int .i64 (ext y L e p),H',n'):=by
 unfold ZQ B120_0
 simp only[dZ,aZ,ptr,endV]
 have hg0:(((Tr.nil:Hp).set 0 (some (.cells (ints (bW y L B)) 111 false none))).set (0+1) (some (.cells [endF e,endF (1-e),Dz e] 177 false none))).get 0=some (.cells (ints (bW y L B)) 111 false none):=by rw[Tr.get_set,if_neg (by omega),Tr.get_set,if_pos rfl]
 have hg1:(((Tr.nil:Hp).set 0 (some (.cells (ints (bW y L B)) 111 false none))).set (0+1) (some (.cells [endF e,endF (1-e),Dz e] 177 false none))).get 1=some (.cells [endF e,endF (1-e),Dz e] 177 false none):=by rw[Tr.get_set,if_pos rfl]
 generalize ((Tr.nil:Hp).set 0 (some (.cells (ints (bW y L B)) 111 false none))).set (0+1) (some (.cells [endF e,endF (1-e),Dz e] 177 false none))=H1 at hg0 hg1 ⊢
 simp only[Nat.zero_add]
 have lens:(ints (bW y L B)).length=33:=by rw[bv,gk hL hB]
 have loads:∀ H:Hp,H.get 0=H1.get 0→H.get 1=H1.get 1 →
   az P H 111 ⟨0,0,none⟩=some (.agg ⟨ints (bW y L B)⟩)∧az P H 127 ⟨1,0+0,none⟩=some (endF e)∧az P H 127 ⟨1,0+1,none⟩=some (endF (1-e))∧az P H 158 ⟨1,0+2,none⟩=some (Dz e) ∧
   az P H 53 ⟨0,0+1+p * 2,none⟩=some (.agg ⟨((ints L).drop (p * 2)).take 2⟩)∧az P H 3 ⟨0,0+0,none⟩=some (.int .i64 y):=by
  intro H q0 q1
  have c0:aW H 0 0 (ints (bW y L B)):=dv (q0.trans hg0)
  have c1:aW H 1 0 [endF e,endF (1-e),Dz e]:=dv (q1.trans hg1)
  refine⟨fY (q0.trans hg0) Tq Gk lens,bq c1 agg129 rfl (IY _).2.1 (IY _).2.2.1,bq c1 agg129 rfl (IY _).2.1 (IY _).2.2.1,bq c1 agg160 rfl (Tv _).2.1 (Tv _).2.2.1,?_,bj c0 agg3 (by simp [ints,bW])⟩
  have:=cw (P:=P) (k:=1+p * 2) c0 UY sz53 (by rw[lens]; omega) (dY _)
  rw[nest_share hL hp,← Nat.add_assoc] at this
  exact this
 obtain⟨a0,a1,a2,a3,a4,a5⟩:=loads H1 rfl rfl
 have h1e:1-e<2:=by omega
 rw[ak,aj,a0,aj,fa179_1,aj,ak,aj,a2,aj,aj,ak,aj,a2,aj,UK,aj,at111 0 (0+1) hp,aj,ak,aj,a4,aj]
 obtain⟨H2,s2,e2⟩:=AQ (P:=P) (ρ:=Value × Hp × Nat) (ex:=[.l 53 ⟨0,0+1+p * 2,none⟩,.l 127 ⟨1,0+1,none⟩]) (H:=H1) (n:=1+1) (v:=.int .i64 (total L (1-e)))
  (op:=fun H n k=>aX P (cal (l+2)) 98 [.agg ⟨ints (bW y L B)⟩,endF (1-e)] H n fun v H n=>k v H n)
  ⟨fun q hq=>.inl (by
   simp only[List.mem_cons,List.not_mem_nil,or_false] at hq
   rcases hq with rfl | rfl
   ·exact⟨_,_,rfl,.inl ⟨_,_,_,_,hg0⟩⟩
   ·exact⟨_,_,rfl,.inl ⟨_,_,_,_,hg1⟩⟩),fun t a id c e h1 h2=>by simp at h2⟩ (fun H k=>Vj l h1e hL hB hb H _ _)
 rw[e2,qlx (l+1) h1e L (p * 2) (by omega)]
 obtain⟨t0,t1⟩:=total_range hb (1-e)
 obtain⟨u0,u1⟩:=hb (p * 2+(1-e))
 have hI:I64 (total L (1-e)-L.getD (p * 2+(1-e)) 0):=by unfold I64; omega
 have hI2:I64 (y-(total L (1-e)-L.getD (p * 2+(1-e)) 0)):=by unfold I64; omega
 obtain⟨b0,b1,b2,b3,b4,b5⟩:=loads H2 (s2 0) (s2 1)
 rw[ax (oW hI),fa179_2,aj,ak,aj,b3,aj,fa179_0,aj,ak,aj,b1,aj,aj,at111 0 (0+1) hp,aj,ak,aj,b4,aj,qez,aj,ak,aj,b5,aj,
  ax (oW hI2),row44,aj]
 unfold newK
 have hg0':(H2.set (1+1) (some (.cells [.int .i64 (y-(total L (1-e)-L.getD (p * 2+(1-e)) 0))] 3 false none))).get 0=some (.cells (ints (bW y L B)) 111 false none):=by rw[Tr.get_set,if_neg (by omega),s2]; exact hg0
 have hg1':(H2.set (1+1) (some (.cells [.int .i64 (y-(total L (1-e)-L.getD (p * 2+(1-e)) 0))] 3 false none))).get 1=some (.cells [endF e,endF (1-e),Dz e] 177 false none):=by rw[Tr.get_set,if_neg (by omega),s2]; exact hg1
 have hrow:aW (H2.set (1+1) (some (.cells [.int .i64 (y-(total L (1-e)-L.getD (p * 2+(1-e)) 0))] 3 false none))) 2 0 [.int .i64 (y-(total L (1-e)-L.getD (p * 2+(1-e)) 0))]:=aW.new
 obtain⟨H3,s3,e3⟩:=AQ (P:=P) (ρ:=Value × Hp × Nat) (ex:=[.a (1+1) [.int .i64 (y-(total L (1-e)-L.getD (p * 2+(1-e)) 0))] 3,.l 3 ⟨0,0+0,none⟩,.l 158 ⟨1,0+2,none⟩])
  (H:=H2.set (1+1) (some (.cells [.int .i64 (y-(total L (1-e)-L.getD (p * 2+(1-e)) 0))] 3 false none))) (n:=1+1+1) (v:=.int .i64 (L.getD (p * 2+e) 0))
  (op:=fun H n k=>lQ P (cal (l+2)) (endF e) [.agg ⟨((ints L).drop (p * 2)).take 2⟩] H n fun v H n=>k v H n)
  ⟨fun q hq=>by
   simp only[List.mem_cons,List.not_mem_nil,or_false] at hq
   rcases hq with rfl | rfl | rfl
   ·exact .inr ⟨_,_,_,rfl⟩
   ·exact .inl ⟨_,_,rfl,.inl ⟨_,_,_,_,hg0'⟩⟩
   ·exact .inl ⟨_,_,rfl,.inl ⟨_,_,_,_,hg1'⟩⟩,fun t a id c e h1 h2=>by
   simp only[List.mem_cons,List.not_mem_nil,or_false,Extra.a.injEq,reduceCtorEq,Extra.l.injEq,false_or] at h1 h2
   obtain⟨rfl,_⟩:=h2
   rcases h1 with⟨_,rfl⟩ | ⟨_,rfl⟩ <;> simp⟩ (fun H k=>qlx (l+1) he L (p * 2) (by omega) H _ _)
 have ee:∀ k,effK P [.a (1+1) [.int .i64 (y-(total L (1-e)-L.getD (p * 2+(1-e)) 0))] 3,.l 3 ⟨0,0+0,none⟩,.l 158 ⟨1,0+2,none⟩] (H2.set (1+1) (some (.cells [.int .i64 (y-(total L (1-e)-L.getD (p * 2+(1-e)) 0))] 3 false none))) (1+1+1)
  (fun H n k=>lQ P (cal (l+2)) (endF e) [.agg ⟨((ints L).drop (p * 2)).take 2⟩] H n fun v H n=>k v H n) k=k (.int .i64 (L.getD (p * 2+e) 0)) H3 (1+1+1):=e3
 simp only[ee]
 have hx:aW H3 (1+1) 0 [.int .i64 (y-(total L (1-e)-L.getD (p * 2+(1-e)) 0))]:=aW.of_get hrow (s3 2)
 rw[with_call (l+1) he _ _ hx]
 exact⟨_,_,rfl⟩
theorem flat120:iY P 120=true:=by kernel_rfl
theorem call120(l:Nat)(a b c:Value)(H:Hp)(n:Nat):(cal (l+1)).call 120 [a,b,c] H n=ZQ (cal l) KK a b c H n:=
 (show(cal (l+1)).call 120 [a,b,c] H n=Pq ent120 (cal l) [a,b,c] H n by kernel_rfl).trans (Pv ..)
theorem extreme_call(l:Nat){e:Nat}(he:e<2){y:Int}{L B:List Int}(hL:L.length=16)(hB:B.length=16)(hb:iW L)(hy:0≤y∧y≤1000){p:Nat}(hp:p<8)(H:Hp)(n:Nat)(k:Value→Hp→Nat→Option ρ) :
  aX P (cal (l+3)) 120 [.agg ⟨ints (bW y L B)⟩,.int .i64 p,endV e] H n k=k (.int .i64 (ext y L e p)) H n:=by
 obtain⟨H',n',h⟩:=extreme_spec l he (B:=B) hL hB hb hy hp
 refine iZ flat120 ?_ ((call120 ..).trans h) rfl
 simp only[endV,ck,bw,ox,Ez,(IY _).2.2.2,(Tv _).2.2.2,Bool.and_self]
end Go.Proofs.Ytmjbdjnnojfhkaa.spec
end
