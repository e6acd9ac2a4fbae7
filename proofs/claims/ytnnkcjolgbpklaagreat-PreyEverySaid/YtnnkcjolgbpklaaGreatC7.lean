import Derived.ChangeArms
import Derived.Test.YtnnkcjolgbpklaaGreatRows
import Derived.Test.YtnnkcjolgbpklaaGreatC6
set_option linter.unusedVariables false
section
namespace Go.Ev
open Go
variable {P:Program}
inductive Ty where
 | int (k:IntKind)
 | bool
 | sl (e:Ty)
 | nil
 | cons (a b:Ty)
namespace Ty
def isS:Ty→Bool
 | .nil | .cons _ _=>true
 | _=>false
def size:Ty→Nat
 | .nil=>0
 | .cons a b=>a.size+b.size
 | _=>1
def den:Ty→Type
 | .int _=>Int
 | .bool=>Bool
 | .sl e=>List e.den
 | .nil=>Unit
 | .cons a b=>a.den × b.den
noncomputable def cells:(t:Ty)→t.den→List D
 | .int k,x=>[.v (.int k x)]
 | .bool,b=>[.v (.bool b)]
 | .sl e,l=>[.sl (l.map fun x=>match e.isS with
  | true=>.agg (e.cells x)
  | false=>oneA (e.cells x))]
 | .nil,_=>[]
 | .cons a b,x=>a.cells x.1++b.cells x.2
noncomputable def el(e:Ty)(x:e.den):D:=match e.isS with
 | true=>.agg (e.cells x)
 | false=>oneA (e.cells x)
def ok:(t:Ty)→t.den→Prop
 | .int k,x=>(Lit.int k x).wf=true
 | .bool,_=>True
 | .sl e,l=>@List.length e.den l<capV∧∀ x:e.den,@Membership.mem e.den (List e.den) _ l x→e.ok x
 | .nil,_=>True
 | .cons a b,x=>a.ok x.1∧b.ok x.2
theorem cells_leaf:∀(t:Ty) (x:t.den),(t.cells x).all bz=true
 | .int _,_=>rfl
 | .bool,_=>rfl
 | .sl _,_=>rfl
 | .nil,_=>rfl
 | .cons a b,x=>by simp only[cells,List.all_append,cells_leaf a,cells_leaf b]; rfl
theorem sl_cells(e:Ty)(l:List e.den):cells (.sl e) l=[.sl (l.map e.el)]:=rfl
theorem one_cell{t:Ty}(h:t.isS=false)(x:t.den):t.cells x=[t.el x]:=by
 unfold el; rw[h]
 cases t <;> first | rfl | cases h
theorem el_cells(e:Ty)(x:e.den):nW (e.el x)=e.cells x∧datD (e.el x)=true:=by
 cases h:e.isS with
 | true=>unfold el; rw[h]; exact⟨rfl,rfl⟩
 | false=>
  rw[one_cell h]
  cases e <;> first | exact⟨rfl,rfl⟩ | cases h
end Ty
def tyFs(g:TypeId→Option Ty)(P:Program):List Field→Nat→Option Ty
 | [],_=>some .nil
 | f::fs,off=>match Nat.beq f.offset off,g f.type with
  | true,some a=>match Nat.beq (P.cellsOf f.type) a.size,tyFs g P fs (off+a.size) with
   | true,some b=>some (.cons a b)
   | _,_=>none
  | _,_=>none
def tyOf(P:Program):Nat→TypeId→Option Ty
 | 0,_=>none
 | d+1,t=>match P.underlying t with
  | some (.int k)=>some (.int k)
  | some .bool=>some .bool
  | some (.slice e)=>match tyOf P d e with
   | some a=>match Nat.beq (P.cellsOf e) a.size,Nat.ble 1 a.size,Nat.ble 1 (P.bytesOf e) with
    | true,true,true=>some (.sl a)
    | _,_,_=>none
   | none=>none
  | some (.struct fs)=>match tyFs (tyOf P d) P fs.toList 0 with
   | some a=>match Nat.beq (P.cellsOf t) a.size with
    | true=>some a
    | false=>none
   | none=>none
  | _=>none
theorem mapM_get{α β:Type}{f:α→Option β}:∀ {l:List α} {r:List β},l.mapM f=some r→∀(k:Nat) (x:α),l[k]?=some x→∃ y,f x=some y∧r[k]?=some y
 | [],r,h,k,x,e=>by simp at e
 | a::l,r,h,k,x,e=>by
  rw[List.mapM_cons] at h
  cases h1:f a with
  | none=>rw[h1] at h; cases h
  | some y=>
   rw[h1] at h
   cases h2:l.mapM f with
   | none=>rw[h2] at h; cases h
   | some q=>
    rw[h2] at h
    cases h
    cases k with
    | zero=>simp at e; subst e; exact⟨y,h1,rfl⟩
    | succ k=>exact mapM_get h2 k x (by simpa using e)
theorem weights_in{H:Type}{e:TypeId}{n:Nat}:∀ {ds:List (DataW H)} {d:DataW H},d ∈ ds→n ∈ d.weights P e→n ∈ DataW.weightsAll P e ds
 | [],d,hm,hn=>by simp at hm
 | c::ds,d,hm,hn=>by
  unfold DataW.weightsAll
  rcases List.mem_cons.1 hm with rfl | h
  ·exact List.mem_append_left _ hn
  ·exact List.mem_append_right _ (weights_in h hn)
theorem weights_each{H:Type}{n:Nat}:∀ {ts:List TypeId} {ds:List (DataW H)} {k:Nat} {t:TypeId} {d:DataW H},ts[k]?=some t→ds[k]?=some d→n ∈ d.weights P t→n ∈ DataW.weightsEach P ts ds
 | [],_,_,_,_,h,_,_=>by simp at h
 | _::_,[],_,_,_,_,h,_=>by simp at h
 | t::ts,d::ds,0,_,_,h,g,hn=>by
  simp at h g; subst h; subst g
  unfold DataW.weightsEach; exact List.mem_append_left _ hn
 | t::ts,d::ds,k+1,_,_,h,g,hn=>by
  unfold DataW.weightsEach
  exact List.mem_append_right _ (weights_each (k:=k) (by simpa using h) (by simpa using g) hn)
theorem slice_open{H:Type}{enc:TypeId × Value→H}{w:World}{fuel len cap:Nat}{t e:TypeId}{a:Addr}{dd:DataW H}{ps:List MemPlace}(hu:P.underlying t=some (.slice e))(hb:1≤P.bytesOf e)
  (ht:DataW.trod enc P w 0 (fun _=>true) true (fuel+1) t [.slice (some a) len cap]=some (dd,ps)) (hw:∀ n ∈ dd.weights P t,n≤reachBytes) :
  len≤cap∧cap<capV∧∀ k,k<len→∃ cs y,w.cells? 0 (a.add (k * P.cellsOf e)) (P.cellsOf e)=some cs∧DataW.trod enc P w 0 (fun _=>true) true fuel e cs=some y∧∀ n ∈ y.1.weights P e,n≤reachBytes:=by
 unfold DataW.trod at ht
 simp only[hu] at ht
 split at ht
 case isFalse=>cases ht
 rename_i hcond
 obtain⟨_,hlc,_⟩:=hcond
 simp only[if_true,Option.bind_eq_some_iff,Option.map_eq_some_iff] at ht
 obtain⟨elems,hel,rest,hrest,hdd⟩:=ht
 have l1:=qkw hel
 have l2:=qkw hrest
 simp only[List.length_range] at l1 l2
 simp only[Prod.mk.injEq] at hdd
 obtain⟨rfl,rfl⟩:=hdd
 have hcap:cap<capV:=by
  have:=hw ((elems.length+rest.length) * P.bytesOf e) (by simp [DataW.weights,hu])
  have h1:elems.length+rest.length=cap:=by omega
  rw[h1] at this
  have h2:cap≤cap * P.bytesOf e:=Nat.le_mul_of_pos_right _ hb
  have h3:reachBytes<capV:=by decide
  omega
 refine⟨hlc,hcap,fun k hk=>?_⟩
 obtain⟨y,hy,hy2⟩:=mapM_get hel k k (List.getElem?_range hk)
 simp only[Option.bind_eq_some_iff] at hy
 obtain⟨cs,hc1,hc2⟩:=hy
 refine⟨cs,y,hc1,hc2,fun n hn=>hw n ?_⟩
 simp only[DataW.weights,hu]
 exact List.mem_cons_of_mem _ (List.mem_append_left _ (weights_in (List.mem_map.2 ⟨y,List.mem_of_getElem? hy2,rfl⟩) hn))
theorem cell_there{w:World}{a:Addr}{v:Value}(h:w.cell? a=some v):a.block<w.heap.size∧a.spot=none:=by
 obtain⟨arr,e,fr,h1,_⟩:=NW h
 refine⟨(Array.getElem?_eq_some_iff.1 h1).1,?_⟩
 unfold World.cell? at h
 rw[h1] at h
 dsimp only at h
 split at h
 ·cases h
 ·rename_i hs
  cases hq:a.spot with
  | none=>rfl
  | some _=>rw[hq] at hs; simp at hs
theorem cells_in{W:World}{m:Nat}{H:Hp}(hH:∀ i,H.get i=tz m W i){b o:Nat}{vs:List Value}(hne:0<vs.length)(h:∀(k:Nat) (v:Value),vs[k]?=some v→W.cell? ⟨b,o+k,none⟩=some v∧VR (ry m) v v):fk H b o vs:=by
 obtain⟨v0,hv0⟩:∃ v,vs[0]?=some v:=⟨vs[0],List.getElem?_eq_getElem hne⟩
 obtain⟨arr,el,fr,hbk,_⟩:=NW (h 0 v0 hv0).1
 simp only at hbk
 refine⟨_,arr.toList.map (hole (ry m)),by rw[hH]; unfold tz; rw[hbk],rfl,fun k v hv=>?_⟩
 obtain⟨h1,h2⟩:=h k v hv
 obtain⟨arr',el',fr',hbk',harr⟩:=NW h1
 simp only at hbk' harr
 rw[hbk] at hbk'; cases hbk'
 rw[List.getElem?_map]
 have:arr.toList[o+k]?=some v:=by simpa using harr
 rw[this]
 simp only[Option.map_some,Option.some.injEq]
 unfold hole
 rw[if_pos h2]
theorem addr_at{a:Addr}(h:a.spot=none)(k:Nat):a.add k=⟨a.block,a.off+k,none⟩:=by
 have ha:a=⟨a.block,a.off,none⟩:=lW h
 rw[ha,Bq]
theorem vr_slice{m len cap:Nat}{a:Addr}(hm:a.block<m)(hc:cap<capV):VR (ry m) (.slice (some a) len cap) (.slice (some a) len cap):=by
 simp only[VR]
 exact⟨a,cap,rfl,.inl ⟨⟨⟨0,by unfold ry; rw[if_pos hm]⟩,rfl,rfl⟩,.inl ⟨hc,rfl⟩⟩⟩
theorem vr_nil{m:Nat}:VR (ry m) (.slice none 0 0) (.slice none 0 0):=by simp only[VR]
theorem choose_fun{α:Type}(d:α){R:Nat→α→Prop}{n:Nat}(h:∀ k,k<n→∃ x,R k x):∃ f:Nat→α,∀ k,k<n→R k (f k):=
 ⟨fun k=>open Classical in if h':k<n then Classical.choose (h k h') else d,fun k hk=>by dsimp only; rw[dif_pos hk]; exact Classical.choose_spec (h k hk)⟩
theorem bound_fun(f:Nat→Nat):∀ n:Nat,∃ M,∀ k,k<n→f k≤M
 | 0=>⟨0,fun k h=>absurd h (by omega)⟩
 | n+1=>by
  obtain⟨M,h⟩:=bound_fun f n
  refine⟨M+f n,fun k hk=>?_⟩
  rcases Nat.lt_or_ge k n with q | q
  ·have:=h k q; omega
  ·have : k = n := by omega
   subst this; omega
def InD(W:World)(t:Ty)(x:t.den)(cs:List Value)(m0:Nat):Prop:=
 cs.length=t.size∧t.ok x∧∀ m,m0≤m→W.heap.size≤m→VRL (ry m) cs cs∧∀ H,(∀ i,H.get i=tz m W i)→bj (fun b=>b<m) H (t.cells x) cs
theorem bj.of_val{F:Nat→Prop}{H:Hp}{e:Ty}{x:e.den}{cs:List Value}(h:bj F H (e.cells x) cs):∃ v,DRel F H (e.el x) v∧aV v=cs:=by
 cases hs:e.isS with
 | true=>
  refine⟨.agg ⟨cs⟩,?_,rfl⟩
  unfold Ty.el; rw[hs]
  unfold DRel
  exact⟨e.cells_leaf x,cs,rfl,h⟩
 | false=>
  rw[Ty.one_cell hs] at h
  unfold bj at h
  obtain⟨v,vs,rfl,h1,h2⟩:=h
  unfold bj at h2; subst h2
  exact⟨v,h1,by have:=h1.leaf (by cases e <;> first | rfl | cases hs); exact this.2.2.2⟩
theorem tyFs_in{K:Type}{enc:TypeId × Value→K}{W:World}{g:TypeId→Option Ty}{n:Nat}
  (hg:∀(t:TypeId) (T:Ty) (cs:List Value) (r:DataW K × List MemPlace),g t=some T→DataW.trod enc P W 0 (fun _=>true) true n t cs=some r→(∀ k ∈ r.1.weights P t,k≤reachBytes)→∃ x m0,InD W T x cs m0) :
  ∀(fs:List Field) (off:Nat) (T:Ty) (cs:List Value) (xs:List (DataW K × List MemPlace)),tyFs g P fs off=some T→cs.length=off+T.size →
   (∀(i:Nat) (f:Field),fs[i]?=some f→∃ y,xs[i]?=some y∧DataW.trod enc P W 0 (fun _=>true) true n f.type ((cs.drop f.offset).take (P.cellsOf f.type))=some y∧∀ k ∈ y.1.weights P f.type,k≤reachBytes) →
   ∃ x m0,InD W T x (cs.drop off) m0
 | [],off,T,cs,xs,h,hl,_=>by
  cases h
  refine⟨(),0,?_,trivial,fun m _ _=>?_⟩
  ·simp [Ty.size] at hl ⊢; omega
  ·have : cs.drop off = [] := by rw [List.drop_eq_nil_iff]; simp [Ty.size] at hl; omega
   rw[this]
   exact⟨VRL.nil,fun H _=>by show bj _ _ [] []; unfold bj; rfl⟩
 | f::fs,off,T,cs,xs,h,hl,hf=>by
  unfold tyFs at h
  split at h
  ·rename_i a ho ha
   split at h
   ·rename_i b hc hb
    cases h
    have ho:=Nat.eq_of_beq_eq_true ho
    have hc:=Nat.eq_of_beq_eq_true hc
    obtain⟨y,_,h1,h2⟩:=hf 0 f rfl
    obtain⟨x,m0,i1⟩:=hg _ _ _ _ ha h1 h2
    simp only[Ty.size] at hl
    obtain⟨x',m1,i2⟩:=tyFs_in hg fs (off+a.size) b cs xs.tail hb (by omega) (fun i f' e=>by
     obtain⟨y,q1,q2⟩:=hf (i+1) f' (by simpa using e)
     exact⟨y,by simpa [List.getElem?_tail] using q1,q2⟩)
    rw[ho,hc] at i1
    have hcat:cs.drop off=(cs.drop off).take a.size++cs.drop (off+a.size):=by
     rw[← List.drop_drop,List.take_append_drop]
    refine⟨(x,x'),m0+m1,?_,⟨i1.2.1,i2.2.1⟩,fun m hm hW=>?_⟩
    ·simp [Ty.size]; omega
    ·obtain ⟨v1, d1⟩ := i1.2.2 m (by omega) hW
     obtain⟨v2,d2⟩:=i2.2.2 m (by omega) hW
     rw[hcat]
     exact⟨VRL.append v1 v2,fun H hH=>bj.append (d1 H hH) (d2 H hH)⟩
   ·cases h
  ·cases h
theorem trod_in{K:Type}{enc:TypeId × Value→K}{W:World}:∀(d:Nat) (fuel:Nat) (t:TypeId) (T:Ty) (cs:List Value) (r:DataW K × List MemPlace),tyOf P d t=some T →
  DataW.trod enc P W 0 (fun _=>true) true fuel t cs=some r→(∀ k ∈ r.1.weights P t,k≤reachBytes)→∃ x m0,InD W T x cs m0
 | 0,_,_,_,_,_,h,_,_=>by cases h
 | d+1,0,t,T,cs,r,_,ht,_=>by simp [DataW.trod] at ht
 | d+1,fuel+1,t,T,cs,r,h,ht,hw=>by
  unfold tyOf at h
  split at h
  ·rename_i k hu
   cases h
   obtain⟨x,rfl,rfl,hwf⟩:=DataW.trod_int hu ht
   refine⟨x,0,rfl,hwf,fun m _ _=>⟨VRL.cons (by simp only[VR]) VRL.nil,fun H _=>?_⟩⟩
   show bj _ _ [.v (.int k x)] _
   unfold bj DRel
   exact⟨_,_,rfl,⟨rfl,rfl⟩,by unfold bj; rfl⟩
  ·rename_i hu
   cases h
   have:∃ b,cs=[.bool b]:=by
    unfold DataW.trod at ht
    rw[hu] at ht
    split at ht <;> simp_all
   obtain⟨b,rfl⟩:=this
   refine⟨b,0,rfl,trivial,fun m _ _=>⟨VRL.cons (by simp only[VR]) VRL.nil,fun H _=>?_⟩⟩
   show bj _ _ [.v (.bool b)] _
   unfold bj DRel
   exact⟨_,_,rfl,⟨rfl,rfl⟩,by unfold bj; rfl⟩
  ·rename_i e hu
   split at h
   case h_2=>cases h
   rename_i a ha
   split at h
   case h_2=>cases h
   rename_i hc h1 hb
   cases h
   have hc:=Nat.eq_of_beq_eq_true hc
   have h1:=Nat.le_of_ble_eq_true h1
   have hb:=Nat.le_of_ble_eq_true hb
   have ht0:=ht
   rcases DataW.trod_slice hu ht with⟨rfl,_⟩ | ⟨ad,len,cap,_,_,_,_,rfl,_⟩
   ·refine ⟨([] : List a.den), 0, rfl, ⟨by simp [capV], fun x hx => by cases hx⟩, fun m _ _ => ⟨VRL.cons vr_nil VRL.nil, fun H _ => ?_⟩⟩
    rw[Ty.sl_cells]; unfold bj DRel
    exact⟨_,_,rfl,.inl ⟨rfl,rfl⟩,by unfold bj; rfl⟩
   ·obtain ⟨dd, pp⟩ := r
    obtain⟨hlc,hcap,hel⟩:=slice_open hu hb ht0 hw
    by_cases h0:len=0
    ·subst h0
     refine⟨([]:List a.den),ad.block+1,rfl,⟨by simp [capV],fun x hx=>by cases hx⟩,fun m hm _=>⟨VRL.cons (vr_slice (by omega) hcap) VRL.nil,fun H _=>?_⟩⟩
     rw[Ty.sl_cells]; unfold bj DRel
     exact⟨_,_,rfl,.inr (.inr ⟨rfl,ad,cap,rfl,by unfold capE; unfold capV at hcap; omega⟩),by unfold bj; rfl⟩
    ·have each : ∀ k, k < len → ∃ p : List Value × Nat, W.cells? 0 (ad.add (k * P.cellsOf e)) (P.cellsOf e) = some p.1 ∧ ∃ x, InD W a x p.1 p.2 := fun k hk => by
      obtain⟨cs,y,c1,c2,c3⟩:=hel k hk
      obtain⟨x,m0,hx⟩:=trod_in d fuel e a cs y ha c2 c3
      exact⟨(cs,m0),c1,x,hx⟩
     obtain⟨f,hf⟩:=choose_fun ([],0) each
     obtain⟨M,hM⟩:=bound_fun (fun k=>(f k).2) len
     obtain⟨xs,x1,x2⟩:=choose_list (R:=fun k x=>InD W a x (f k).1 (f k).2) len (fun k hk=>(hf k hk).2)
     have cell:∀ k,k<len→∀ j,j<a.size→W.cell? ((ad.add (k * P.cellsOf e)).add j)=(f k).1[j]?:=fun k hk j hj=>by
      have:=(cells?_get (hf k hk).1).2 j (by omega)
      exact this
     have hb0:ad.block<W.heap.size∧ad.spot=none:=by
      have hl0:(f 0).1.length=P.cellsOf e:=(cells?_get (hf 0 (by omega)).1).1
      have:=cell 0 (by omega) 0 (by omega)
      rw[List.getElem?_eq_getElem (by omega)] at this
      have h2:=cell_there this
      simpa [Addr.add] using h2
     have hat:∀ k,k<len→∀ j,j<a.size→W.cell? ⟨ad.block,ad.off+k * a.size+j,none⟩=(f k).1[j]?:=fun k hk j hj=>by
      have:=cell k hk j hj
      rw[addr_at hb0.2,Bq,hc] at this
      rw[← this]
     refine⟨xs,M,rfl,⟨by rw[x1]; omega,fun x hx=>?_⟩,fun m hm hW=>⟨VRL.cons (vr_slice (by omega) hcap) VRL.nil,fun H hH=>?_⟩⟩
     ·obtain ⟨k, hk⟩ := List.getElem?_of_mem hx
      exact(x2 k x hk).2.1
     ·rw [Ty.sl_cells]; unfold bj DRel
      refine⟨_,_,rfl,.inr (.inl ⟨ad.block,ad.off,cap,a.size,?_,?_,?_,.inr ⟨by omega,?_⟩⟩),by unfold bj; rfl⟩
      ·rw[List.length_map,x1,← lW hb0.2]
      ·rw[List.length_map,x1]; exact hlc
      ·unfold capR; unfold capV at hcap; omega
      ·refine DAt.of_get fun i q hq => ?_
       rw[List.getElem?_map,Option.map_eq_some_iff] at hq
       obtain⟨x,hx,rfl⟩:=hq
       have hi:i<len:=by rw[← x1]; exact(List.getElem?_eq_some_iff.1 hx).1
       have hin:=x2 i x hx
       have hMi:=hM i hi
       obtain⟨v1,v2⟩:=hin.2.2 m (by omega) hW
       obtain⟨v,w1,w2⟩:=bj.of_val (v2 H hH)
       refine⟨(a.el_cells x).2,v,w1,by rw[w2,hin.1],?_⟩
       rw[w2]
       refine cells_in hH (by rw[hin.1]; omega) fun k u hu'=>?_
       have hk:k<a.size:=by rw[← hin.1]; exact(List.getElem?_eq_some_iff.1 hu').1
       obtain⟨u',g1,g2⟩:=VRL.get v1 hu'
       rw[hu'] at g1; cases g1
       exact⟨(hat i hi k hk).trans hu',g2⟩
  ·rename_i fs hu
   split at h
   case h_2=>cases h
   rename_i a ha
   split at h
   case h_2=>cases h
   rename_i hc
   cases h
   have hc:=Nat.eq_of_beq_eq_true hc
   obtain⟨xs,n,hn,rfl,hl,hlen,hf⟩:=DataW.trod_struct hu ht
   cases hn
   have:=tyFs_in (enc:=enc) (g:=tyOf P d) (n:=fuel) (fun t T cs r h1 h2 h3=>trod_in d fuel t T cs r h1 h2 h3) fs.toList 0 T cs xs ha (by omega) (fun i f hi=>by
    have hif:fs[i]?=some f:=by simpa using hi
    have hlt:i<xs.length:=by rw[hlen]; exact(Array.getElem?_eq_some_iff.1 hif).1
    refine⟨xs[i],List.getElem?_eq_getElem hlt,?_,fun k hk=>hw k ?_⟩
    ·rw[hf i f hif]; exact List.getElem?_eq_getElem hlt
    ·simp only [DataW.weights, hu]
     exact weights_each (k:=i) (t:=f.type) (d:=xs[i].1) (by simp [hi]) (by simp [hlt]) hk)
   simpa using this
  ·cases h
end Go.Ev
end
section
namespace Go.Ev
open Go
variable {P:Program}
def DenL:List Ty→Type
 | []=>Unit
 | t::ts=>t.den × DenL ts
noncomputable def elsL:(ts:List Ty)→DenL ts→List D
 | [],_=>[]
 | t::ts,x=>t.el x.1::elsL ts x.2
def okL:(ts:List Ty)→DenL ts→Prop
 | [],_=>True
 | t::ts,x=>t.ok x.1∧okL ts x.2
def tysOf(P:Program)(d:Nat):List TypeId→Option (List Ty)
 | []=>some []
 | t::ts=>match tyOf P d t,tysOf P d ts with
  | some a,some l=>some (a::l)
  | _,_=>none
theorem tyFs_isS{g:TypeId→Option Ty}:∀ {fs:List Field} {off:Nat} {T:Ty},tyFs g P fs off=some T→T.isS=true
 | [],_,_,h=>by cases h; rfl
 | f::fs,off,T,h=>by
  unfold tyFs at h
  split at h
  ·split at h
   ·cases h; rfl
   ·cases h
  ·cases h
theorem val_in{K:Type}{enc:TypeId × Value→K}{W:World}{base d:Nat}{t:TypeId}{T:Ty}{v:Value}{dd:DataW K}{ps:List MemPlace}(hT:tyOf P d t=some T)
  (hok:Value.okWide P W .any base t v) (ht:DataW.Trod enc P W 0 (fun _=>true) true t v dd ps) (hw:∀ n ∈ dd.weights P t,n≤reachBytes) :
  ∃ x m0,T.ok x∧∀ m,m0≤m→W.heap.size≤m→VR (ry m) v v∧∀ H,(∀ i,H.get i=tz m W i)→DRel (fun b=>b<m) H (T.el x) v:=by
 obtain⟨fuel,ht⟩:=ht
 obtain⟨x,m0,hl,hx,hin⟩:=trod_in d fuel t T _ _ hT ht hw
 refine⟨x,m0,hx,fun m hm hW=>?_⟩
 obtain⟨h1,h2⟩:=hin m hm hW
 cases d with
 | zero=>cases hT
 | succ d=>
  have one:∀(hs:T.isS=false),v.cells.toList=[v]→VR (ry m) v v∧∀ H,(∀ i,H.get i=tz m W i)→DRel (fun b=>b<m) H (T.el x) v:=by
   intro hs hv
   rw[hv] at h1 h2
   refine⟨?_,fun H hH=>?_⟩
   ·simp only [VRL] at h1
    obtain⟨v',vs,e,h1,_⟩:=h1
    cases e; exact h1
   ·have := h2 H hH
    rw[Ty.one_cell hs] at this
    unfold bj at this
    obtain⟨v',vs,e,h3,_⟩:=this
    cases e; exact h3
  unfold tyOf at hT
  unfold Value.okWide at hok
  split at hT
  ·rename_i k hu
   cases hT
   rw[hu] at hok
   refine one rfl ?_
   cases v with
   | agg l=>simp only[Cell.okWide,hu,Cell.ok] at hok
   | _=>rfl
  ·rename_i hu
   cases hT
   rw[hu] at hok
   refine one rfl ?_
   cases v with
   | agg l=>simp only[Cell.okWide,hu,Cell.ok] at hok
   | _=>rfl
  ·rename_i e hu
   split at hT
   ·split at hT
    ·cases hT
     rw[hu] at hok
     refine one rfl ?_
     cases v with
     | agg l=>simp only[Cell.okWide,hu,Cell.ok] at hok
     | _=>rfl
    ·cases hT
   ·cases hT
  ·rename_i fs hu
   split at hT
   ·rename_i a ha
    split at hT
    ·cases hT
     rw[hu] at hok
     obtain⟨cs,rfl,_⟩:=hok
     rcases cs with⟨cs⟩
     have hcs:(Value.agg ⟨cs⟩).cells.toList=cs:=rfl
     rw[hcs] at h1 h2
     refine⟨?_,fun H hH=>?_⟩
     ·simp only [VR]
      exact⟨_,rfl,by simp only[VRA]; exact h1⟩
     ·unfold Ty.el; rw [tyFs_isS ha]
      unfold DRel
      exact⟨Ty.cells_leaf _ _,cs,rfl,h2 H hH⟩
    ·cases hT
   ·cases hT
  ·cases hT
theorem args_in{K:Type}{enc:TypeId × Value→K}{W:World}{base d:Nat}:∀ {ts:List TypeId} {Ts:List Ty} {vs:List Value} {ds:List (DataW K)} {ps:List MemPlace},tysOf P d ts=some Ts →
  (∀(j:Nat) t v,ts[j]?=some t→vs[j]?=some v→Value.okWide P W .any base t v)→DataW.TrodAll enc P W 0 (fun _=>true) true ts vs ds ps→(∀ n ∈ DataW.weightsEach P ts ds,n≤reachBytes) →
  ∃ xs m0,okL Ts xs∧∀ m,m0≤m→W.heap.size≤m→VRL (ry m) vs vs∧∀ H,(∀ i,H.get i=tz m W i)→bj (fun b=>b<m) H (elsL Ts xs) vs
 | [],Ts,vs,ds,ps,hT,hok,ht,hw=>by
  cases hT
  cases vs <;> cases ds <;> simp only[DataW.TrodAll] at ht
  exact⟨(),0,trivial,fun m _ _=>⟨VRL.nil,fun H _=>by show bj _ _ [] []; unfold bj; rfl⟩⟩
 | t::ts,Ts,vs,ds,ps,hT,hok,ht,hw=>by
  unfold tysOf at hT
  split at hT
  ·rename_i a l ha hl
   cases hT
   cases vs with
   | nil=>simp only[DataW.TrodAll] at ht
   | cons v vs=>
    cases ds with
    | nil=>simp only[DataW.TrodAll] at ht
    | cons dd ds=>
     simp only[DataW.TrodAll] at ht
     obtain⟨p,q,h1,h2,_⟩:=ht
     obtain⟨x,m0,x1,x2⟩:=val_in ha (hok 0 t v rfl rfl) h1 (fun n hn=>hw n (by unfold DataW.weightsEach; exact List.mem_append_left _ hn))
     obtain⟨xs,m1,y1,y2⟩:=args_in hl (fun j t v h g=>hok (j+1) t v (by simpa using h) (by simpa using g)) h2 (fun n hn=>hw n (by unfold DataW.weightsEach; exact List.mem_append_right _ hn))
     refine⟨(x,xs),m0+m1,⟨x1,y1⟩,fun m hm hW=>?_⟩
     obtain⟨a1,a2⟩:=x2 m (by omega) hW
     obtain⟨b1,b2⟩:=y2 m (by omega) hW
     exact⟨VRL.cons a1 b1,fun H hH=>by show bj _ _ (a.el x::elsL l xs) _; unfold bj; exact⟨v,vs,rfl,a2 H hH,b2 H hH⟩⟩
  ·cases hT
def Says(P:Program)(L:FuncId→LvA)(m:Nat)(man:Man)(f:FuncId)(Ts:List Ty):Prop:=∀ xs:DenL Ts,okL Ts xs→∃ l,man (l+1) f=none∧pcR P L m man (l+1) f (elsL Ts xs)=some (.v (.bool true))
theorem says_calls{q:Alt}{L:FuncId→LvA}{mm:Nat}{man:Man}(htab:EX P q.A mm q.tab)(hman:ManOk P q mm man){f:FuncId}{Ts:List Ty}(hs:Says P L mm man f Ts){K:Type}{enc:TypeId × Value→K}{W:World}{base d:Nat}{ts:List TypeId}{args:Array Value}{ds:List (DataW K)}{ps:List MemPlace}(hT:tysOf P d ts=some Ts)
  (hok:∀(j:Nat) t v,ts[j]?=some t→args.toList[j]?=some v→Value.okWide P W .any base t v) (ht:DataW.TrodAll enc P W 0 (fun _=>true) true ts args.toList ds ps) (hw:∀ n ∈ DataW.weightsEach P ts ds,n≤reachBytes) :
  Calls P f args W fun e w'=>e=.returned (.bool true)∧RowKit.Grown W w'∧∀ b,b<W.heap.size→w'.heap[b]?=W.heap[b]?:=by
 obtain⟨xs,m0,x1,x2⟩:=args_in hT hok ht hw
 obtain⟨H,hH,hI⟩:=I.startN W (m:=m0+W.heap.size) (by omega)
 obtain⟨v1,v2⟩:=x2 (m0+W.heap.size) (by omega) (by omega)
 obtain⟨l,hf,hl⟩:=hs xs x1
 obtain⟨v,H',n',F',e,_,_,_,_,hd⟩:=pcR_ok hman l f hf (elsL Ts xs) _ (fun b=>b<m0+W.heap.size) H (m0+W.heap.size) args.toList hl (fun _ z=>z) (v2 H hH) _ rfl
 unfold DRel at hd
 obtain⟨rfl,_⟩:=hd
 have:=calls_of_calR (q:=q) (m:=mm) htab (l:=l+1) hI v1 e rfl
 refine this.mono ?_
 rintro en w' ⟨h1,h2,h3,h4,h5,h6,h7⟩
 exact⟨h1,grown_of h2 h4 h5 h6 h7,h6⟩
theorem weights_app{K:Type}{n:Nat}:∀ {ts us:List TypeId} {ds gs:List (DataW K)},ds.length≤ts.length→n ∈ DataW.weightsEach P ts ds→n ∈ DataW.weightsEach P (ts++us) (ds++gs)
 | _,_,[],_,_,h=>by simp [DataW.weightsEach] at h
 | [],_,_::_,_,hl,_=>by simp at hl
 | t::ts,us,d::ds,gs,hl,h=>by
  simp only[List.cons_append,DataW.weightsEach] at h ⊢
  rcases List.mem_append.1 h with q | q
  ·exact List.mem_append_left _ q
  ·exact List.mem_append_right _ (weights_app (by simpa using hl) q)
theorem Iv{K:Type}{enc:TypeId × Value→K}{W:World}:∀ {ts:List TypeId} {vs:List Value} {ds:List (DataW K)} {ps:List MemPlace},DataW.TrodAll enc P W 0 (fun _=>true) true ts vs ds ps→ds.length=ts.length
 | [],[],[],_,_=>rfl
 | _::_,_::_,_::_,_,h=>by
  simp only[DataW.TrodAll] at h
  obtain⟨p,q,_,h2,_⟩:=h
  have:=Iv h2
  simp only[List.length_cons]; omega
 | [],[],_::_,_,h=>by simp only[DataW.TrodAll] at h
 | [],_::_,_,_,h=>by simp only[DataW.TrodAll] at h
 | _::_,[],_,_,h=>by simp only[DataW.TrodAll] at h
 | _::_,_::_,[],_,h=>by simp only[DataW.TrodAll] at h
theorem list3{α:Type}{l:List α}(h:l.length=3):∃ a0 a1 a2,l=[a0,a1,a2]:=by
 match l,h with
 | [a0,a1,a2],_=>exact⟨a0,a1,a2,rfl⟩
end Go.Ev
end
section
namespace Go.Ev
open Go
variable {P:Program} {t:TypeId} {x y:Operand} {α:Type} {f:α→D} {pre suf:List α} {a:α} {ρ:Type}
theorem oX{c:List D}{r:Option D}:nilA (.d (.ref c)) r=r:=rfl
theorem fw{k:D→Option D}:(bindO (idxD (.v (.int .i64 (pre.length:Nat))) ((pre++a::suf).map f).length) fun i=>bindO (((pre++a::suf).map f)[i]?) k)=k (f a):=by
 rw[qz (by simp),aj]
 simp [aj]
theorem lss_mid:binD P .lss t x y (.v (.int .i64 (pre.length:Nat))) (lenD ((pre++a::suf).map f))=some (.v (.bool true)):=by
 rw[bk,ek]; simp; omega
theorem ZZ:binD P .lss t x y (.v (.int .i64 (pre.length:Nat))) (lenD (pre.map f))=some (.v (.bool false)):=by
 rw[bk,ek]; simp
theorem cZ(h:pre.length<4611686018427387904):binD P .add t x y (.v (.int .i64 (pre.length:Nat))) (.v (.int .i64 1))=some (.v (.int .i64 ((pre++[a]).length:Nat))):=by
 rw[fY h]; simp
theorem leafD_ref{l:List D}:bz (.ref l)=true:=rfl
theorem cY{c:Prop}[Decidable c]{p q:Option D}:ifU (.v (.bool (decide c))) p q=if c then p else q:=ifU_d
theorem beq_refl(n:Nat):Nat.beq n n=true:=Nat.beq_refl n
theorem allI{l:List Int}:(l.map dI).all (szOk 1)=true:=by rw[List.all_map,List.all_eq_true]; intro _ _; rfl
theorem appI{l l':List D}(h:l.length+l'.length<1048576):appD l l'=some (l++l'):=wW h
end Go.Ev
namespace Go.Ev
open Go
variable {P:Program} {t:TypeId} {x y:Operand} {α:Type} {f:α→D} {pre suf:List α} {a:α} {ρ:Type}
theorem dJ:binD P .lss t x y (.v (.int .i64 (pre.length:Nat))) (.v (.int .i64 (((pre++a::suf).map f).length:Nat)))=some (.v (.bool true)):=lss_mid
theorem dj:binD P .lss t x y (.v (.int .i64 (pre.length:Nat))) (.v (.int .i64 ((pre.map f).length:Nat)))=some (.v (.bool false)):=ZZ
end Go.Ev
end
section
namespace Go.Ev
open Go
variable {P:Program} {t:TypeId} {x y:Operand}
noncomputable abbrev uB(b:BitVec 64):D:=.v (.int .u64 (b.toNat:Int))
theorem bin_gen{op:BinOp}{k k':IntKind}{a b:Int}{w:Value}(hk:xX op (.int k a) (.int k' b)=none)(h:binOp op t (.int k a) (.int k' b)=pure w)(hp:bQ w=true):binV P op t x y (.int k a) (.int k' b)=some w:=by
 unfold binV
 rw[hk]
 unfold IJ
 have h0:(bQ (.int k a) && bQ (.int k' b))=true:=rfl
 have h1:Fv P op t (.int k a) (.int k' b)=none:=by unfold Fv; cases op <;> rfl
 rw[h0]
 simp only[h1,semPure_guard eqGuard_ints h,hp]
theorem Cw{op:BinOp}{k k':IntKind}{a b:Int}{w:Value}(hk:xX op (.int k a) (.int k' b)=none)(h:binOp op t (.int k a) (.int k' b)=pure w)(hp:bQ w=true)(hs:vq w=true) :
  binD P op t x y (.v (.int k a)) (.v (.int k' b))=some (.v w):=by
 unfold binD
 simp only[valD,bin_gen hk h hp,Qj,hs]
theorem JJ{op:BinOp}{a b:Int}{k:IntKind}:xX op (.int .u64 a) (.int k b)=none:=rfl
theorem wrap_u{n:Nat}(h:n<18446744073709551616):IntKind.u64.wrap (n:Int)=n:=by
 simp [IntKind.wrap,IntKind.bits,IntKind.signed]
 omega
theorem ofInt_u{b:BitVec 64}:BitVec.ofInt 64 (b.toNat:Int)=b:=by
 apply BitVec.eq_of_toNat_eq
 simp
theorem binD_or{a b:BitVec 64}:binD P .or t x y (uB a) (uB b)=some (uB (a ||| b)):=
 Cw JJ (by simp only[binOp,Op.intBits,IntKind.bits,ofInt_u]; rw[wrap_u (BitVec.isLt _)]; rfl) rfl rfl
theorem binD_and{a b:BitVec 64}:binD P .and t x y (uB a) (uB b)=some (uB (a &&& b)):=
 Cw JJ (by simp only[binOp,Op.intBits,IntKind.bits,ofInt_u]; rw[wrap_u (BitVec.isLt _)]; rfl) rfl rfl
theorem binD_andNot{a b:BitVec 64}:binD P .andNot t x y (uB a) (uB b)=some (uB (a &&& ~~~b)):=
 Cw JJ (by simp only[binOp,Op.intBits,IntKind.bits,ofInt_u]; rw[wrap_u (BitVec.isLt _)]; rfl) rfl rfl
theorem binD_shl{p:Nat}(hp:p<64):binD P .shl t x y (uB 1#64) (.v (.int .i64 (p:Int)))=some (uB (BitVec.twoPow 64 p)):=by
 refine Cw JJ (w:=.int .u64 ((BitVec.twoPow 64 p).toNat:Int)) ?_ rfl rfl
 have h1:¬ ((p:Int)<0):=by omega
 have h2:(BitVec.twoPow 64 p).toNat=2 ^ p:=by
  rw[BitVec.toNat_twoPow]
  exact Nat.mod_eq_of_lt (Nat.pow_lt_pow_right (by omega) hp)
 have h3:2 ^ p<18446744073709551616:=by
  have:=Nat.pow_lt_pow_right (a:=2) (by omega) hp
  simpa using this
 have h4:min p 64=p:=by omega
 have h5:((1#64:BitVec 64).toNat:Int) * 2 ^ p=((2 ^ p:Nat):Int):=by simp
 simp only[binOp,Op.shift,if_neg h1,IntKind.bits,Int.toNat_natCast,h4,h5]
 rw[wrap_u h3,h2]
theorem u_zero{a:BitVec 64}:((a.toNat:Int)=0)↔a=0#64:=by
 constructor
 ·intro h; apply BitVec.eq_of_toNat_eq; simpa using h
 ·rintro rfl; rfl
theorem binD_neq_u{a:BitVec 64}:binD P .neq t x y (uB a) (.v (.int .u64 0))=some (.v (.bool (!decide (a=0#64)))):=by
 rw[Cw (w:=.bool (!decide ((a.toNat:Int)=0))) JJ (by simp only[binOp,Op.intCmp]; rfl) rfl rfl]
 simp only[u_zero]
theorem binD_eql_u{a:BitVec 64}:binD P .eql t x y (uB a) (.v (.int .u64 0))=some (.v (.bool (decide (a=0#64)))):=by
 rw[Cw (w:=.bool (decide ((a.toNat:Int)=0))) JJ (by simp only[binOp,Op.intCmp]; rfl) rfl rfl]
 simp only[u_zero]
end Go.Ev
end
section
namespace Go.Ev
open Go
variable {P:Program}
theorem gJ{α β:Type}(f:α→Sem β):∀ m:Sem α,cQ P (m >>= f)=match cQ P m with
  | some a=>cQ P (f a)
  | none=>none
 | .pure _=>rfl
 | .load ..=>rfl
 | .store ..=>rfl
 | .new ..=>rfl
 | .shape ..=>rfl
 | .freeze ..=>rfl
 | .frozen ..=>rfl
 | .getObj ..=>rfl
 | .setObj ..=>rfl
 | .choose ..=>rfl
 | .sys ..=>rfl
 | .program k=>gJ f (k P)
 | .mark _ k=>gJ f k
 | .halt _=>rfl
theorem wX{α:Type}(a:α):cQ P (pure a)=some a:=rfl
theorem sp_program:cQ P program=some P:=rfl
theorem Iw{t:TypeId}{d:TypeDesc}(e:P.underlying t=some d):cQ P (underlying t)=some d:=by
 unfold underlying
 rw[gJ,sp_program]
 show cQ P (match P.underlying t with | some d => pure d | none => stuck "no such type") = some d
 rw[e]
 rfl
theorem sp_isAgg{t:TypeId}{b:Bool}(e:pz P t=some b):cQ P (isAgg t)=some b:=by
 unfold pz at e
 unfold isAgg
 rw[gJ]
 split at e
 ·rename_i fs h; cases e; rw[Iw h]; rfl
 ·rename_i x y h; cases e; rw[Iw h]; rfl
 ·rename_i d h1 h2 h
  cases e
  rw[Iw h]
  cases d <;> first | rfl | exact absurd rfl (h1 _) | exact absurd rfl (h2 _ _)
 ·cases e
theorem sp_part{t:TypeId}{cs:List Value}{i:Nat}{v:Value}(e:pz P t=some false)(h:cs[i]?=some v):cQ P (part t ⟨cs⟩ i)=some v:=by
 unfold part
 rw[gJ,sp_isAgg e]
 simp [h,wX]
theorem sp_equal_int{d:Nat}{t:TypeId}{k k':IntKind}{a b:Int}(h:P.underlying t=some (.int k')):cQ P (Op.equalIn (d+1) t (.int k a) (.int k b))=some (a == b):=by
 unfold Op.equalIn
 rw[gJ,Iw h]
 simp [wX]
theorem sp_equal_struct(d:Nat)(t:TypeId)(xs ys:Array Value){fs:Array Field}(ht:P.underlying t=some (.struct fs))(hp:P.stoodInHeld t=false) :
  cQ P (Op.equalIn (d+1) t (.agg xs) (.agg ys))=cQ P (Op.eqFields d xs ys fs.toList):=by
 unfold Op.equalIn
 rw[gJ,Iw ht]
 simp only[gJ,sp_program,hp,Bool.false_eq_true,if_false]
 rw[← Array.forIn_toList]
 generalize fs.toList=fs
 clear ht
 induction fs with
 | nil=>rfl
 | cons f fs ih=>
  by_cases hn : f.name ≠ "_"
  ·simp only [List.forIn_cons, Op.eqFields, gJ, hn, ne_eq, not_false_eq_true, if_true]
   cases cQ P (part f.type xs f.offset) with
   | none=>rfl
   | some a=>
    simp only
    cases cQ P (part f.type ys f.offset) with
    | none=>rfl
    | some b=>
     simp only
     cases cQ P (Op.equalIn d f.type a b) with
     | none=>rfl
     | some r=>
      cases r
      ·simp [wX]
      ·simp only [Bool.not_true, Bool.false_eq_true, if_false, wX]
       exact ih
  ·simp only [List.forIn_cons, Op.eqFields, gJ, hn, if_false, wX]
   exact ih
theorem sp_eqFields{xs ys:List Value}(d:Nat):∀ {fs:List Field} {i:Nat} {l l':List Value} {r:Bool},tX P fs i=true→xs.drop i=l→ys.drop i=l'→fs.length=l.length→kW l l'=some r →
  cQ P (Op.eqFields (d+1) ⟨xs⟩ ⟨ys⟩ fs)=some r
 | [],i,l,l',r,_,_,_,hl,he=>by
  cases l with
  | cons z zs=>simp at hl
  | nil=>cases l' with
   | nil=>simp [kW] at he; simp [Op.eqFields,he,wX]
   | cons z zs=>simp [kW] at he
 | f::fs,i,l,l',r,hf,hx,hy,hlen,he=>by
  simp only[tX] at hf
  split at hf
  ·rename_i k hn hu ha
   simp only[Bool.and_eq_true,bne_iff_ne,ne_eq,Nat.beq_eq] at hn
   obtain⟨hn,rfl⟩:=hn
   match l,l',he with
   | [],_,_=>simp at hlen
   | .int k1 a::l,.int k2 b::l',he=>
    have gx:xs[f.offset]?=some (.int k1 a):=by
     have:=congrArg (fun z=>z[0]?) hx; simpa using this
    have gy:ys[f.offset]?=some (.int k2 b):=by
     have:=congrArg (fun z=>z[0]?) hy; simpa using this
    have px:=sp_part ha gx
    have py:=sp_part ha gy
    have dx:xs.drop (f.offset+1)=l:=by rw[← List.drop_drop,hx]; rfl
    have dy:ys.drop (f.offset+1)=l':=by rw[← List.drop_drop,hy]; rfl
    simp only[kW] at he
    split at he
    ·rename_i h1 h2
     have h1:=of_decide_eq_true h1
     have h2:=of_decide_eq_true h2
     subst h1; subst h2
     have ih:=sp_eqFields d hf dx dy (by simpa using hlen) he
     simp only[Op.eqFields,hn,ne_eq,not_false_eq_true,if_true,gJ,px,py,sp_equal_int hu,beq_self_eq_true,Bool.not_true,Bool.false_eq_true,if_false,ih]
    ·rename_i h1 h2
     have h1:=of_decide_eq_true h1
     have h2:=of_decide_eq_false h2
     cases he
     subst h1
     simp only[Op.eqFields,hn,ne_eq,not_false_eq_true,if_true,gJ,px,py,sp_equal_int hu,beq_eq_false_iff_ne.2 h2,Bool.not_false,wX]
    ·cases he
  ·cases hf
theorem sp_check{xs:List Value}(em:Bool)(d:Nat):∀ {fs:List Field} {i:Nat},tX P fs i=true→i+fs.length≤xs.length →
  cQ P (forIn (m:=Sem) fs PUnit.unit fun f _=>do
   if f.name ≠ "_" then do
    Instr.checkKey em (d+1) f.type (← part f.type ⟨xs⟩ f.offset)
    pure (ForInStep.yield PUnit.unit)
   else pure (ForInStep.yield PUnit.unit))=some PUnit.unit
 | [],i,_,_=>rfl
 | f::fs,i,hf,hl=>by
  simp only[tX] at hf
  split at hf
  ·rename_i k hn hu ha
   simp only[Bool.and_eq_true,bne_iff_ne,ne_eq,Nat.beq_eq] at hn
   obtain⟨hn,rfl⟩:=hn
   simp only[List.length_cons] at hl
   have hlt:f.offset<xs.length:=by omega
   have px:=sp_part (P:=P) (cs:=xs) ha (List.getElem?_eq_getElem hlt)
   have hc:cQ P (Instr.checkKey em (d+1) f.type xs[f.offset])=some ():=by
    unfold Instr.checkKey
    rw[gJ,Iw hu]
    rfl
   have ih:=sp_check (xs:=xs) em d hf (by omega)
   simp only[List.forIn_cons,gJ,hn,ne_eq,not_false_eq_true,if_true,px,hc,wX]
   exact ih
  ·cases hf
theorem sp_checkKey{k:TypeId}{n:Nat}{x:List Value}(hn:AW P k=some n)(hl:x.length=n)(em:Bool):cQ P (Instr.checkKey em 10000 k (.agg ⟨x⟩))=some ():=by
 obtain⟨fs,hu,hp,hf,hl'⟩:=Pq hn
 rw[show(10000:Nat)=9998+1+1 from rfl,Instr.checkKey]
 rw[gJ,Iw hu]
 show cQ P (forIn (m:=Sem) fs PUnit.unit _ >>= _)=_
 rw[← Array.forIn_toList,gJ]
 have:=sp_check (P:=P) (xs:=x) em 9998 hf (by omega)
 rw[this]
 rfl
theorem sp_asking{k:TypeId}{fs:Array Field}{x:List Value}(hu:P.underlying k=some (.struct fs))(hp:P.stoodInHeld k=false)(hf:tX P fs.toList 0=true)(hl:fs.toList.length=x.length) :
  ∀ {es:List MapEntry} {i:Nat} {r:Option (Nat × Value)},iY x es i=some r→cQ P (Instr.findAsking k (.agg ⟨x⟩) es i)=some r
 | [],i,r,e=>by simp [iY] at e; simp [Instr.findAsking,← e,wX]
 | e0::es,i,r,e=>by
  simp only[iY] at e
  split at e
  ·rename_i l hk
   have run:∀ {b:Bool},kW x l=some b→cQ P (Op.equal k (.agg ⟨x⟩) e0.key)=some b:=by
    intro b hb
    rw[hk,Op.equal,show Op.maxDepth=9998+1+1 from rfl,sp_equal_struct (9998+1) k _ _ hu hp]
    exact sp_eqFields 9998 hf rfl rfl hl hb
   split at e
   ·rename_i hb
    cases e
    rw[Instr.findAsking,gJ,run hb]
    rfl
   ·rename_i hb
    rw[Instr.findAsking,gJ,run hb]
    exact sp_asking hu hp hf hl e
   ·cases e
  ·cases e
theorem sp_findKey{k:TypeId}{n:Nat}{x:List Value}{es:List MapEntry}{r:Option (Nat × Value)}(hn:AW P k=some n)(hl:x.length=n)(e:iY x es 0=some r):cQ P (Instr.findKey k (.agg ⟨x⟩) es)=some r:=by
 obtain⟨fs,hu,hp,hf,hl'⟩:=Pq hn
 unfold Instr.findKey
 rw[gJ,Iw hu]
 cases es with
 | nil=>
  simp [iY] at e
  rw[← e]
  rfl
 | cons e0 es=>exact sp_asking hu hp hf (by omega) e
abbrev MapL:=List (List Int × Int)
def keyV(k:List Int):Value:=.agg ⟨k.map (.int .i64)⟩
def entE(x:List Int × Int)(i:Nat):MapEntry:={ key:=keyV x.1,val:=.int .i64 x.2,born:=i }
def fZ:MapL→Nat→List MapEntry
 | [],_=>[]
 | x::l,i=>entE x i::fZ l (i+1)
def wq(k:List Int):MapL→Nat→Option (Nat × Int)
 | [],_=>none
 | x::l,i=>if x.1=k then some (i,x.2) else wq k l (i+1)
def getF:MapL→List Int→Int
 | [],_=>0
 | x::l,k=>if x.1=k then x.2 else getF l k
def putL(k:List Int)(v:Int):MapL→MapL
 | []=>[(k,v)]
 | x::l=>if x.1=k then(k,v)::l else x::putL k v l
theorem QV(k:List Int)(v:Int)(q:List Int):∀ l:MapL,getF (putL k v l) q=if q=k then v else getF l q
 | []=>by
  simp only[putL,getF]
  by_cases h:q=k
  ·rw[if_pos h,if_pos h.symm]
  ·rw[if_neg h,if_neg (fun e=>h e.symm)]
 | x::l=>by
  simp only[putL]
  by_cases c:x.1=k
  ·rw [if_pos c]
   simp only[getF]
   by_cases h:q=k
   ·rw[if_pos h,if_pos h.symm]
   ·rw[if_neg h,if_neg (fun e=>h e.symm),if_neg (fun e=>h (e.symm.trans c))]
  ·rw [if_neg c]
   simp only[getF]
   rw[QV k v q l]
   by_cases h:x.1=q
   ·rw[if_pos h,if_pos h,if_neg (fun e=>c (h.trans e))]
   ·rw[if_neg h,if_neg h]
theorem keys_eq:∀ {k k':List Int},k.length=k'.length→kW (k.map (.int .i64)) (k'.map (.int .i64))=some (decide (k=k'))
 | [],[],_=>rfl
 | a::k,b::k',h=>by
  have ih:=keys_eq (k:=k) (k':=k') (by simpa using h)
  simp only[List.map_cons,kW,decide_true]
  by_cases c:a=b
  ·rw [decide_eq_true c]
   simp only
   rw[ih]
   simp [c]
  ·rw [decide_eq_false c]
   simp [c]
theorem Ow{n:Nat}{k:List Int}(hk:k.length=n):∀ {l:MapL} {i:Nat},(∀ x ∈ l,x.1.length=n)→iY (k.map (.int .i64)) (fZ l i) i=some ((wq k l i).map fun p=>(p.1,.int .i64 p.2))
 | [],i,_=>rfl
 | x::l,i,h=>by
  have hx:=h x (List.mem_cons_self ..)
  simp only[fZ,iY,entE,keyV,wq]
  rw[keys_eq (by omega)]
  by_cases c:x.1=k
  ·rw [decide_eq_true c.symm, if_pos c]
   rfl
  ·rw [decide_eq_false (fun e => c e.symm), if_neg c]
   exact Ow hk (l:=l) (i:=i+1) fun y hy=>h y (List.mem_cons_of_mem _ hy)
theorem qnw{k:List Int}:∀ {l:MapL} {i j:Nat} {u:Int},wq k l i=some (j,u)→u=getF l k∧i≤j∧j<i+l.length
 | [],i,j,u,h=>by cases h
 | x::l,i,j,u,h=>by
  simp only[wq] at h
  simp only[getF,List.length_cons]
  by_cases c:x.1=k
  ·rw [if_pos c] at h ⊢
   cases h
   exact⟨rfl,Nat.le_refl _,by omega⟩
  ·rw [if_neg c] at h ⊢
   obtain⟨h1,h2,h3⟩:=qnw h
   exact⟨h1,by omega,by omega⟩
theorem find_no{k:List Int}:∀ {l:MapL} {i:Nat},wq k l i=none→getF l k=0
 | [],i,h=>rfl
 | x::l,i,h=>by
  simp only[wq] at h
  simp only[getF]
  by_cases c:x.1=k
  ·rw[if_pos c] at h; cases h
  ·rw [if_neg c] at h ⊢
   exact find_no h
theorem put_found{k:List Int}{v:Int}:∀ {l:MapL} {i j:Nat} {u:Int},wq k l i=some (j,u) →
  (fZ l i).modify (j-i) (fun e=>{ key:=keyV k,val:=.int .i64 v,born:=e.born })=fZ (putL k v l) i∧(fZ l i).modify (j-i) (fun e=>{ key:=e.key,val:=.int .i64 v,born:=e.born })=fZ (putL k v l) i ∧
   (fZ l i).modify (j-i) (fun e=>{ key:=keyV k,val:=e.val,born:=e.born })=fZ l i∧(fZ l i)[j-i]?=some (entE (k,u) j)∧(putL k v l).length=l.length
 | [],i,j,u,h=>by cases h
 | x::l,i,j,u,h=>by
  simp only[wq] at h
  simp only[putL]
  by_cases c:x.1=k
  ·rw [if_pos c] at h ⊢
   cases h
   obtain⟨xk,xv⟩:=x
   have c:xk=k:=c
   subst c
   simp only[Nat.sub_self,fZ]
   exact⟨rfl,rfl,rfl,rfl,rfl⟩
  ·rw [if_neg c] at h ⊢
   have hj:=qnw h
   obtain⟨h1,h2,h3,h4,h5⟩:=put_found (v:=v) h
   have e:j-i=(j-(i+1))+1:=by omega
   rw[e]
   simp only[fZ,List.modify_succ_cons,List.getElem?_cons_succ,h1,h2,h3,h4,List.length_cons,h5]
   exact⟨trivial,trivial,trivial,trivial,trivial⟩
theorem put_new{k:List Int}{v:Int}:∀ {l:MapL} {i:Nat},wq k l i=none→fZ l i++[{ key:=keyV k,val:=.int .i64 v,born:=i+l.length }]=fZ (putL k v l) i∧(putL k v l).length=l.length+1∧wq k (putL k v l) i=some (i+l.length,v)
 | [],i,_=>by
  refine⟨rfl,rfl,?_⟩
  simp only[putL,wq,if_true]
  rfl
 | x::l,i,h=>by
  simp only[wq] at h
  by_cases c:x.1=k
  ·rw[if_pos c] at h; cases h
  ·rw [if_neg c] at h
   obtain⟨h1,h2,h3⟩:=put_new (v:=v) h
   have e:i+(x::l).length=i+1+l.length:=by simp only[List.length_cons]; omega
   refine⟨?_,?_,?_⟩
   ·simp only [putL, if_neg c, fZ, List.cons_append]
    rw[e,h1]
   ·simp only[putL,if_neg c,List.length_cons,h2]
   ·simp only [putL, if_neg c, wq]
    rw[e,h3]
theorem qoq{n:Nat}{k:List Int}{v:Int}(hk:k.length=n):∀ {l:MapL},(∀ x ∈ l,x.1.length=n)→∀ x ∈ putL k v l,x.1.length=n
 | [],_,x,hx=>by
  simp only[putL,List.mem_singleton] at hx
  rw[hx]; exact hk
 | y::l,h,x,hx=>by
  simp only[putL] at hx
  by_cases c:y.1=k
  ·rw [if_pos c] at hx
   rcases List.mem_cons.1 hx with e | e
   ·rw[e]; exact hk
   ·exact h x (List.mem_cons_of_mem _ e)
  ·rw [if_neg c] at hx
   rcases List.mem_cons.1 hx with e | e
   ·rw[e]; exact h y (List.mem_cons_self ..)
   ·exact qoq hk (fun z hz=>h z (List.mem_cons_of_mem _ hz)) x e
theorem same_bits(k:List Int):Instr.sameBits 10000 (keyV k) (keyV k)=true:=by
 have each:∀ v:Int,Instr.sameBits 9999 (.int .i64 v) (.int .i64 v)=true:=fun v=>by
  show Instr.sameBits (9998+1) (.int .i64 v) (.int .i64 v)=true
  unfold Instr.sameBits
  simp
 show Instr.sameBits (9999+1) (keyV k) (keyV k)=true
 unfold keyV
 rw[Instr.sameBits]
 simp only[beq_self_eq_true,Bool.true_and]
 rw[List.all_eq_true]
 intro p hp
 have:∀ {l:List Value} {p:Value × Value},p ∈ l.zip l→p.1=p.2∧p.1 ∈ l:=fun {l} {p} h=>by
  induction l with
  | nil=>cases h
  | cons a l ih=>
   rw[List.zip_cons_cons] at h
   rcases List.mem_cons.1 h with e | e
   ·rw[e]; exact⟨rfl,List.mem_cons_self ..⟩
   ·exact⟨(ih e).1,List.mem_cons_of_mem _ (ih e).2⟩
 obtain⟨h1,h2⟩:=this hp
 obtain⟨v,_,hv⟩:=List.mem_map.1 h2
 rw[← h1,← hv]
 exact each v
theorem sp_stays(k:List Int):cQ P (Instr.keyThatStays (keyV k) (keyV k))=some (keyV k):=by
 unfold Instr.keyThatStays
 rw[if_pos (same_bits k)]
 rfl
structure MapAt (H:Hp) (r n:Nat) (l:MapL):Prop where
 block:H.get r=some (.map (fZ l 0) l.length)
 keys:∀ x ∈ l,x.1.length=n
theorem Ix(k:List Int):bQ (keyV k)=true:=by
 have:∀ k:List Int,eQ (k.map (.int .i64))=true:=fun k=>by
  induction k with
  | nil=>rfl
  | cons a k ih=>exact ih
 exact this k
section
variable {t key elem:TypeId} {n:Nat} {H:Hp} {r:Nat} {l:MapL} {k:List Int}
theorem map_get(ht:EV P t=some (key,elem))(hf:AW P key=some n)(hz:kV P elem=some (.int .i64 0))(h:MapAt H r n l)(hk:k.length=n):gj P H t (.map (some r)) (keyV k) false=some (.int .i64 (getF l k)):=by
 unfold gj AZ
 rw[ht]
 simp only[h.block,Ix]
 unfold IV IQ
 show(match (match AW P key with | some n=>(match Nat.beq (k.map (Value.int .i64)).length n with | true=>iY (k.map (.int .i64)) (fZ l 0) 0 | false=>none) | none=>none) with | some r=>OX P elem false r | none=>_)=_
 rw[hf]
 have:Nat.beq (k.map (Value.int .i64)).length n=true:=by rw[List.length_map,hk]; exact Nat.beq_refl n
 simp only[this,Ow hk h.keys]
 cases c:wq k l 0 with
 | none=>
  rw[find_no c]
  show OX P elem false none=_
  unfold OX
  rw[hz]
  rfl
 | some p=>
  obtain⟨j,u⟩:=p
  rw[← (qnw c).1]
  rfl
theorem map_put{v:Int}(ht:EV P t=some (key,elem))(hf:AW P key=some n)(h:MapAt H r n l)(hk:k.length=n) :
  ∃ H',wx P t (.map (some r)) (keyV k) (.int .i64 v) H=some H'∧MapAt H' r n (putL k v l)∧∀ b,b≠r→H'.get b=H.get b:=by
 have hq:=sp_findKey (P:=P) (x:=k.map (.int .i64)) (es:=fZ l 0) hf (by rw[List.length_map,hk]) (Ow hk h.keys)
 have hc:=sp_checkKey (P:=P) (x:=k.map (.int .i64)) hf (by rw[List.length_map,hk]) false
 have key':cQ P (updS key (fZ l 0) l.length (keyV k) (.int .i64 v))=some (fZ (putL k v l) 0,(putL k v l).length):=by
  unfold updS
  rw[gJ,show keyV k=.agg ⟨k.map (.int .i64)⟩ from rfl,hc]
  simp only
  rw[gJ,hq]
  cases c:wq k l 0 with
  | none=>
   obtain⟨h1,h2,_⟩:=put_new (v:=v) c
   rw[← h1,h2,Nat.zero_add]
   rfl
  | some p=>
   obtain⟨j,u⟩:=p
   obtain⟨h1,_,_,h4,h5⟩:=put_found (v:=v) c
   rw[Nat.sub_zero] at h1 h4
   simp only[Option.map_some]
   rw[gJ,h4]
   simp only[Option.map_some,Option.getD_some]
   have hst:cQ P (Instr.keyThatStays (entE (k,u) j).key (.agg ⟨k.map (.int .i64)⟩))=some (keyV k):=sp_stays k
   rw[hst]
   rw[← h1,h5]
   rfl
 refine⟨H.set r (some (.map (fZ (putL k v l) 0) (putL k v l).length)),?_,⟨?_,qoq hk h.keys⟩,?_⟩
 ·unfold wx
  rw[ht]
  simp only[h.block]
  rw[show(bQ (keyV k) && bQ (.int .i64 v))=true by rw[Ix]; rfl]
  simp only[key']
 ·rw[Tr.get_set,if_pos rfl]
 ·intro b hb
  rw[Tr.get_set,if_neg hb]
end
end Go.Ev
end
section
open Go Go.Ev
set_option maxRecDepth 1000000
noncomputable section
namespace Go.Proofs.YtnnkcjolgbpklaaGreat.G
abbrev KR:=KC (Value × Hp × Nat)
abbrev XR:=XC (Value × Hp × Nat)
noncomputable def P:Program:=Go.Proofs.Tryz.prog
abbrev V0:Type:=Hp→Nat→Res
abbrev V1:Type:=Value→V0
abbrev V2:Type:=Value→V1
abbrev V3:Type:=Value→V2
abbrev V4:Type:=Value→V3
abbrev V5:Type:=Value→V4
abbrev V6:Type:=Value→V5
abbrev V7:Type:=Value→V6
abbrev V8:Type:=Value→V7
abbrev V9:Type:=Value→V8
abbrev V10:Type:=Value→V9
noncomputable def ak(f:FuncId):Code:=match P.funcs[f]? with
 | some fn=>match fn.body with
  | some c=>c
  | none=>.skip
 | none=>.skip
noncomputable def bw(f:FuncId):List ResultVar:=match P.funcs[f]? with
 | some fn=>fn.results.toList
 | none=>[]
noncomputable def cL:Code→Code
 | .seq a _=>a
 | .cond _ a _=>a
 | .block _ c=>c
 | .scope c=>c
 | .loop c=>c
 | _=>.skip
noncomputable def cR:Code→Code
 | .seq _ b=>b
 | .cond _ _ b=>b
 | _=>.skip
noncomputable def X0:XR:=fun _ _ _ _ _=>none
theorem body_eq{cal:Cal}{A:FuncId→Lv}{k f:Nat}{fn:Func}{c:Code}{rs:List ResultVar}{args:List Value}{H:Hp}{n:Nat}(h1:P.funcs[f]?=some fn)(h2:fn.body=some c)
  (h3 : (fn.name == "runtime.NumGoroutine" || fn.ntmps < args.length) = false) (h4 : fn.results.toList = rs) :
  aX P cal A (k+1) f args H n=bZ P cal (aZ P cal k) none f c (A f) (ay P rs) X0 (ay P rs) (rW .nil 0 args) H n []:=by
 subst h4
 unfold aX
 simp only[h1,h2,h3]
 rfl
noncomputable def lvTab:Tr Lv:=Tr.set (Tr.set (Tr.set (Tr.set (Tr.set (Tr.set (Tr.set (Tr.set (Tr.set (Tr.set (Tr.set (Tr.set (Tr.set (Tr.set (Tr.set (Tr.set (Tr.set (Tr.set (Tr.set (Tr.set (Tr.set (Tr.set (Tr.set (Tr.set (Tr.set (Tr.set (Tr.set (Tr.set (Tr.set (Tr.set (Tr.set (Tr.set (Tr.set (Tr.set (Tr.set (.nil) 23 (some (.node none .leaf (.node none .leaf (.node none (.node none .leaf (.node none (.node (some [0,1,5]) .leaf .leaf) .leaf)) .leaf))))) 48 (some (.node none .leaf (.node none .leaf (.node none (.node none .leaf (.node none (.node (some [0,1,5]) .leaf .leaf) .leaf)) .leaf))))) 53 (some (.node none .leaf (.node none .leaf (.node none .leaf (.node none (.node none .leaf (.node none (.node (some [0,1,2,3]) (.node none .leaf (.node none (.node none (.node none .leaf (.node (some [0,1,2,3]) .leaf .leaf)) .leaf) .leaf)) .leaf) .leaf)) .leaf)))))) 57 (some (.node none .leaf (.node none .leaf (.node none .leaf (.node none .leaf (.node none .leaf (.node none .leaf (.node none (.node none .leaf (.node none (.node (some [7,9,34,35,36]) .leaf .leaf) .leaf)) .leaf))))))))) 58 (some (.node none .leaf (.node none .leaf (.node none (.node none .leaf (.node none (.node (some [3,6,7,8]) .leaf .leaf) .leaf)) .leaf))))) 59 (some (.node none .leaf (.node none .leaf (.node none (.node none .leaf (.node none (.node (some [0,5,15,16,17]) .leaf .leaf) .leaf)) .leaf))))) 63 (some (.node none .leaf (.node none .leaf (.node none .leaf (.node none .leaf (.node (some [6]) (.node none .leaf (.node none (.node (some [0,5,6,7,20,21,22]) .leaf .leaf) .leaf)) .leaf))))))) 64 (some (.node none .leaf (.node none .leaf (.node none (.node none .leaf (.node none (.node (some [0,5,8,9,10]) .leaf .leaf) .leaf)) .leaf))))) 66 (some (.node none .leaf (.node none .leaf (.node none .leaf (.node none (.node none .leaf (.node none (.node (some [5,22,23]) .leaf .leaf) .leaf)) (.node none (.node none .leaf (.node none (.node (some [5,40,41,42]) .leaf .leaf) .leaf)) .leaf))))))) 67 (some (.node none .leaf (.node none .leaf (.node none (.node none .leaf (.node none (.node (some [0,3,13,14]) .leaf .leaf) .leaf)) .leaf))))) 76 (some (.node none .leaf (.node none (.node none .leaf (.node none .leaf (.node none .leaf (.node none .leaf (.node none .leaf (.node none .leaf (.node none .leaf (.node none .leaf (.node (some [10]) (.node none .leaf (.node none (.node (some [0,7,8,9,10,11]) (.node none .leaf (.node none (.node none (.node none .leaf (.node none .leaf (.node none (.node (some [0,7,8,9,10,11,12,54,55,56]) (.node none .leaf (.node none .leaf (.node (some [0,7,8,9,10,11,12,54,55,56]) .leaf .leaf))) .leaf) .leaf))) .leaf) .leaf)) .leaf) .leaf)) .leaf))))))))) .leaf)))) 79 (some (.node none .leaf (.node none (.node none .leaf (.node none (.node (some [1,7,8,9]) .leaf .leaf) .leaf)) .leaf)))) 82 (some (.node none .leaf (.node none (.node none .leaf (.node none (.node (some [1,7,8,9]) .leaf .leaf) .leaf)) .leaf)))) 83 (some (.node none .leaf (.node none .leaf (.node none (.node none .leaf (.node none (.node (some [3,6,7,8]) .leaf .leaf) .leaf)) .leaf))))) 84 (some (.node none .leaf (.node none .leaf (.node none (.node none .leaf (.node none (.node (some [0,3,5]) (.node none .leaf (.node none .leaf (.node (some [0,3,5]) .leaf .leaf))) .leaf) .leaf)) .leaf))))) 90 (some (.node none .leaf (.node (some [0,1]) .leaf (.node none .leaf (.node none (.node none .leaf (.node none (.node (some [0,1,5,6]) (.node none .leaf (.node (some [0,1,5,6]) .leaf .leaf)) .leaf) .leaf)) .leaf)))))) 96 (some (.node none .leaf (.node none .leaf (.node none (.node none .leaf (.node none (.node (some [1,5,13,14]) (.node none .leaf (.node none .leaf (.node (some [1,5,13,14]) .leaf .leaf))) .leaf) .leaf)) .leaf))))) 97 (some (.node none (.node none .leaf (.node none (.node (some []) .leaf .leaf) .leaf)) (.node none .leaf (.node (some [0,6,9]) .leaf (.node none .leaf (.node none (.node (some [0,6,35,36,37]) .leaf .leaf) .leaf))))))) 100 (some (.node none .leaf (.node none (.node none .leaf (.node none (.node (some [0,7,8,9]) .leaf .leaf) .leaf)) .leaf)))) 101 (some (.node none .leaf (.node none .leaf (.node none (.node none (.node (some [0,3]) .leaf .leaf) .leaf) .leaf))))) 102 (some (.node none .leaf (.node none (.node none (.node (some [1,3]) .leaf (.node none .leaf (.node (some [1,16]) .leaf (.node none .leaf (.node (some [25]) .leaf .leaf))))) .leaf) .leaf)))) 103 (some (.node none .leaf (.node none (.node none .leaf (.node none (.node (some [0,3]) .leaf .leaf) .leaf)) .leaf)))) 112 (some (.node none .leaf (.node none (.node (some [0,2,3]) .leaf .leaf) .leaf)))) 113 (some (.node none .leaf (.node none (.node none .leaf (.node none (.node (some [1,7,8,9]) .leaf .leaf) .leaf)) .leaf)))) 115 (some (.node none .leaf (.node none (.node none .leaf (.node none (.node (some [1,7,8,9]) .leaf .leaf) .leaf)) .leaf)))) 116 (some (.node none .leaf (.node none .leaf (.node none (.node none .leaf (.node none (.node (some [2,3,5,9,10,11]) (.node none .leaf (.node none .leaf (.node (some [2,3,5,9,10,11]) .leaf .leaf))) .leaf) .leaf)) .leaf))))) 117 (some (.node none .leaf (.node none (.node none .leaf (.node none (.node (some [1,7,8,9]) .leaf .leaf) .leaf)) .leaf)))) 119 (some (.node none .leaf (.node none (.node (some [0,1,2,10,11]) .leaf .leaf) .leaf)))) 120 (some (.node none .leaf (.node none (.node (some [0,1,3]) .leaf .leaf) .leaf)))) 121 (some (.node none .leaf (.node none .leaf (.node none (.node (some [0,1,2,3,4,10,11]) (.node none (.node none .leaf (.node none .leaf (.node none .leaf (.node (some [0,1,2,3,4,10,11,12]) .leaf (.node none .leaf (.node (some [0,1,2,3,4,10,11,12,13,14]) .leaf (.node (some [0,1,2,3,4,10,11,12,13]) .leaf .leaf))))))) .leaf) .leaf) .leaf))))) 125 (some (.node none .leaf (.node none .leaf (.node none (.node none .leaf (.node none (.node (some [3,6,7,8]) .leaf .leaf) .leaf)) .leaf))))) 130 (some (.node none .leaf (.node none (.node (some [0,1,2,3,8]) (.node none .leaf (.node none (.node none (.node none .leaf (.node none (.node (some [0,1,2,3,8,9]) .leaf .leaf) .leaf)) .leaf) .leaf)) .leaf) .leaf)))) 134 (some (.node none .leaf (.node none .leaf (.node none (.node (some [0,8,9]) .leaf .leaf) .leaf))))) 138 (some (.node none .leaf (.node (some [0,2]) .leaf (.node (some [0,2]) .leaf .leaf))))) 139 (some (.node none .leaf (.node (some [0,2]) .leaf (.node (some [0,2]) .leaf (.node (some [0,2]) .leaf .leaf)))))
noncomputable def A(f:FuncId):Lv:=match lvTab.get f with
 | some l=>l
 | none=>.leaf
noncomputable def recF{α:Type}(C:Nat→α→α)(z:α)(m:Nat):α:=Nat.rec (motive:=fun _=>α) (C 0 z) (fun m ih=>C (m+1) ih) m
theorem recS{α:Type}{T R:Nat→α}{z:α}{C:Nat→α→α}(h:∀ m,T m=C m (R m))(h0:R 0=z)(hs:∀ m,R (m+1)=T m):∀ m,T m=recF C z m
 | 0=>by rw[h,h0]; rfl
 | m+1=>by rw[h,hs,recS h h0 hs m]; rfl
theorem bq{cal : Cal}{k f : Nat}{args : List Value}{H : Hp}{n : Nat}(fn : Func)(c : Code)(rs : List ResultVar)(h : (P.funcs[f]?, fn.body, (fn.name == "runtime.NumGoroutine" || fn.ntmps < args.length), fn.results.toList) = (some fn, some c, false, rs)) :
  aX P cal A (k+1) f args H n=bZ P cal (aZ P cal k) none f c (A f) (ay P rs) X0 (ay P rs) (rW .nil 0 args) H n []:=by
 simp only[Prod.mk.injEq] at h
 exact body_eq h.1 h.2.1 h.2.2.1 h.2.2.2
end Go.Proofs.YtnnkcjolgbpklaaGreat.G
end
end
section
open Go Go.Ev
set_option maxRecDepth 1000000
noncomputable section
namespace Go.Proofs.YtnnkcjolgbpklaaGreat.G
variable (cal:Cal) (k:Nat)
noncomputable def code16:Code:=ak 16
noncomputable def results16:List ResultVar:=bw 16
noncomputable def B16_0(cal:Cal)(k:Nat)(H:Hp)(n:Nat):Res:=
aK P cal 53 [] H n fun v_2 H_3 n_4=>
aK P cal 54 [] H_3 n_4 fun v_5 H_6 n_7=>
bindO (lV P 30 v_5 none (some (Value.int IntKind.i64 2))) fun v_8=>
aK P cal 19 [v_2,v_8] H_6 n_7 fun v_9 H_a n_b=>
bindO (tupV v_9 0) fun v_d=>
bindO (tupV v_9 1) fun v_e=>
aK P cal 53 [] H_a n_b fun v_h H_i n_j=>
aK P cal 42 [v_h,(Value.int IntKind.i64 2)] H_i n_j fun v_k H_l n_m=>
bindO (tupV v_k 0) fun v_o=>
bindO (tupV v_k 1) fun v_p=>
aK P cal 53 [] H_l n_m fun v_s H_t n_u=>
aK P cal 32 [v_s] H_t n_u fun v_v H_w n_x=>
bindO (tupV v_v 0) fun v_z=>
bindO (tupV v_v 1) fun v_10=>
aK P cal 53 [] H_w n_x fun v_13 H_14 n_15=>
aK P cal 54 [] H_14 n_15 fun v_16 H_17 n_18=>
aK P cal 25 [v_13,v_16] H_17 n_18 fun v_19 H_1a n_1b=>
bindO (tupV v_19 0) fun v_1d=>
bindO (tupV v_19 1) fun v_1e=>
bindO (tupV v_19 2) fun v_1f=>
aK P cal 53 [] H_1a n_1b fun v_1j H_1k n_1l=>
aK P cal 34 [v_1j,(Value.int IntKind.i64 1),(Value.int IntKind.i64 2)] H_1k n_1l fun v_1m H_1n n_1o=>
bindO (tupV v_1m 0) fun v_1q=>
bindO (tupV v_1m 1) fun v_1r=>
bindO (tupV v_1m 2) fun v_1s=>
binK P BinOp.eql 33 (Operand.tmp 43) (Operand.const (Value.int IntKind.i64 0)) v_e (Value.int IntKind.i64 0) fun v_1x=>
bx v_1x true (fun k_1z=>
k_1z v_d H_1n n_1o) H_1n n_1o fun v_20 H_21 n_22=>
bx v_1x true (fun k_24=>
rowK P 27 5 [(0,(Value.int IntKind.i64 0)),(1,(Value.int IntKind.i64 1)),(2,(Value.int IntKind.i64 2)),(3,(Value.int IntKind.i64 3)),(4,(Value.int IntKind.i64 4))] H_21 n_22 fun v_28 H_29 n_2a=>
k_24 v_28 H_29 n_2a) H_21 n_22 fun v_25 H_26 n_27=>
bx v_1x true (fun k_2b=>
rowK P 27 3 [(0,(Value.int IntKind.i64 2)),(1,(Value.int IntKind.i64 3)),(2,(Value.int IntKind.i64 4))] H_26 n_27 fun v_2f H_2g n_2h=>
k_2b v_2f H_2g n_2h) H_26 n_27 fun v_2c H_2d n_2e=>
bx v_1x true (fun k_2i=>
rowK P 27 2 [(0,(Value.int IntKind.i64 3)),(1,(Value.int IntKind.i64 4))] H_2d n_2e fun v_2m H_2n n_2o=>
k_2i v_2m H_2n n_2o) H_2d n_2e fun v_2j H_2k n_2l=>
bx v_1x true (fun k_2p=>
rowK P 30 3 [(0,v_25),(1,v_2c),(2,v_2j)] H_2k n_2l fun v_2t H_2u n_2v=>
k_2p v_2t H_2u n_2v) H_2k n_2l fun v_2q H_2r n_2s=>
bx v_1x true (fun k_2w=>
aK P cal 23 [v_20,v_2q] H_2r n_2s fun v_30 H_31 n_32=>
k_2w v_30 H_31 n_32) H_2r n_2s fun v_2x H_2y n_2z=>
bindO (fX v_1x v_2x (Value.bool false)) fun v_33=>
bx v_33 true (fun k_35=>
k_35 v_p H_2y n_2z) H_2y n_2z fun v_36 H_37 n_38=>
bx v_33 true (fun k_3a=>
binK P BinOp.eql 33 (Operand.tmp 54) (Operand.const (Value.int IntKind.i64 0)) v_36 (Value.int IntKind.i64 0) fun v_3e=>
k_3a v_3e H_37 n_38) H_37 n_38 fun v_3b H_3c n_3d=>
bindO (fX v_33 v_3b (Value.bool false)) fun v_3f=>
bx v_3f true (fun k_3h=>
k_3h v_o H_3c n_3d) H_3c n_3d fun v_3i H_3j n_3k=>
bx v_3f true (fun k_3m=>
aK P cal 54 [] H_3j n_3k fun v_3q H_3r n_3s=>
k_3m v_3q H_3r n_3s) H_3j n_3k fun v_3n H_3o n_3p=>
bx v_3f true (fun k_3t=>
aK P cal 23 [v_3i,v_3n] H_3o n_3p fun v_3x H_3y n_3z=>
k_3t v_3x H_3y n_3z) H_3o n_3p fun v_3u H_3v n_3w=>
bindO (fX v_3f v_3u (Value.bool false)) fun v_40=>
bx v_40 true (fun k_42=>
k_42 v_10 H_3v n_3w) H_3v n_3w fun v_43 H_44 n_45=>
bx v_40 true (fun k_47=>
binK P BinOp.eql 33 (Operand.tmp 63) (Operand.const (Value.int IntKind.i64 0)) v_43 (Value.int IntKind.i64 0) fun v_4b=>
k_47 v_4b H_44 n_45) H_44 n_45 fun v_48 H_49 n_4a=>
bindO (fX v_40 v_48 (Value.bool false)) fun v_4c=>
bx v_4c true (fun k_4e=>
k_4e v_z H_49 n_4a) H_49 n_4a fun v_4f H_4g n_4h=>
bx v_4c true (fun k_4j=>
binK P BinOp.eql 3 (Operand.tmp 67) (Operand.const (Value.int IntKind.i64 2)) v_4f (Value.int IntKind.i64 2) fun v_4n=>
k_4j v_4n H_4g n_4h) H_4g n_4h fun v_4k H_4l n_4m=>
bindO (fX v_4c v_4k (Value.bool false)) fun v_4o=>
bx v_4o true (fun k_4q=>
k_4q v_1f H_4l n_4m) H_4l n_4m fun v_4r H_4s n_4t=>
bx v_4o true (fun k_4v=>
binK P BinOp.eql 33 (Operand.tmp 71) (Operand.const (Value.int IntKind.i64 0)) v_4r (Value.int IntKind.i64 0) fun v_4z=>
k_4v v_4z H_4s n_4t) H_4s n_4t fun v_4w H_4x n_4y=>
bindO (fX v_4o v_4w (Value.bool false)) fun v_50=>
bx v_50 true (fun k_52=>
k_52 v_1d H_4x n_4y) H_4x n_4y fun v_53 H_54 n_55=>
bx v_50 true (fun k_57=>
binK P BinOp.eql 3 (Operand.tmp 75) (Operand.const (Value.int IntKind.i64 20)) v_53 (Value.int IntKind.i64 20) fun v_5b=>
k_57 v_5b H_54 n_55) H_54 n_55 fun v_58 H_59 n_5a=>
bindO (fX v_50 v_58 (Value.bool false)) fun v_5c=>
bx v_5c true (fun k_5e=>
k_5e v_1e H_59 n_5a) H_59 n_5a fun v_5f H_5g n_5h=>
bx v_5c true (fun k_5j=>
rowK P 27 4 [(0,(Value.int IntKind.i64 4)),(1,(Value.int IntKind.i64 4)),(2,(Value.int IntKind.i64 4)),(3,(Value.int IntKind.i64 4))] H_5g n_5h fun v_5n H_5o n_5p=>
k_5j v_5n H_5o n_5p) H_5g n_5h fun v_5k H_5l n_5m=>
bx v_5c true (fun k_5q=>
aK P cal 48 [v_5f,v_5k] H_5l n_5m fun v_5u H_5v n_5w=>
k_5q v_5u H_5v n_5w) H_5l n_5m fun v_5r H_5s n_5t=>
bindO (fX v_5c v_5r (Value.bool false)) fun v_5x=>
bx v_5x true (fun k_5z=>
k_5z v_1s H_5s n_5t) H_5s n_5t fun v_60 H_61 n_62=>
bx v_5x true (fun k_64=>
binK P BinOp.eql 33 (Operand.tmp 84) (Operand.const (Value.int IntKind.i64 0)) v_60 (Value.int IntKind.i64 0) fun v_68=>
k_64 v_68 H_61 n_62) H_61 n_62 fun v_65 H_66 n_67=>
bindO (fX v_5x v_65 (Value.bool false)) fun v_69=>
bx v_69 true (fun k_6b=>
k_6b v_1q H_66 n_67) H_66 n_67 fun v_6c H_6d n_6e=>
bx v_69 true (fun k_6g=>
rowK P 27 1 [(0,(Value.int IntKind.i64 4))] H_6d n_6e fun v_6k H_6l n_6m=>
k_6g v_6k H_6l n_6m) H_6d n_6e fun v_6h H_6i n_6j=>
bx v_69 true (fun k_6n=>
rowK P 30 2 [(0,v_6h),(1,(Value.slice none 0 0))] H_6i n_6j fun v_6r H_6s n_6t=>
k_6n v_6r H_6s n_6t) H_6i n_6j fun v_6o H_6p n_6q=>
bx v_69 true (fun k_6u=>
aK P cal 23 [v_6c,v_6o] H_6p n_6q fun v_6y H_6z n_70=>
k_6u v_6y H_6z n_70) H_6p n_6q fun v_6v H_6w n_6x=>
bindO (fX v_69 v_6v (Value.bool false)) fun v_71=>
bx v_71 true (fun k_73=>
k_73 v_1r H_6w n_6x) H_6w n_6x fun v_74 H_75 n_76=>
bx v_71 true (fun k_78=>
binK P BinOp.eql 3 (Operand.tmp 94) (Operand.const (Value.int IntKind.i64 9)) v_74 (Value.int IntKind.i64 9) fun v_7c=>
k_78 v_7c H_75 n_76) H_75 n_76 fun v_79 H_7a n_7b=>
bindO (fX v_71 v_79 (Value.bool false)) fun v_7d=>
some (v_7d,H_7a,n_7b)
noncomputable def C16_0:=B16_0 cal k 
theorem h16_0(H:Hp)(n:Nat):aX P cal A (k+1) 16 [] H n=C16_0 cal k  H n:=(bq Go.Proofs.Tryz.f16 code16 results16 (by kernel_rfl)).trans (by kernel_rfl)
noncomputable def code19:Code:=ak 19
noncomputable def Rw:List ResultVar:=bw 19
noncomputable def B19_0(cal:Cal)(k:Nat)(v0 v1:Value)(H:Hp)(n:Nat):Res:=
boxK 41 v0 H n fun v_1 H_2 n_3=>
bindO (aY v_1) fun a_7=>bindO (aJ P H_2 41 a_7) fun v_6=>
aK P cal 57 [v_6,v1] H_2 n_3 fun v_9 H_a n_b=>
bindO (tupV v_9 0) fun v_d=>
bindO (tupV v_9 1) fun v_e=>
bindO (tupV v_9 2) fun v_f=>
binK P BinOp.neq 33 (Operand.tmp 16) (Operand.const (Value.int IntKind.i64 0)) v_f (Value.int IntKind.i64 0) fun v_k=>
ifK v_k (
some ((Value.tuple ⟨[(Value.slice none 0 0),v_f]⟩),H_a,n_b)) (
aK P cal 59 [v_d,v_e] H_a n_b fun v_q H_r n_s=>
aK P cal 58 [v_q] H_r n_s fun v_t H_u n_v=>
some ((Value.tuple ⟨[v_t,(Value.int IntKind.i64 0)]⟩),H_u,n_v))
noncomputable def C19_0:=B19_0 cal k
theorem h19_0(v0 v1:Value)(H:Hp)(n:Nat):aX P cal A (k+1) 19 [v0,v1] H n=C19_0 cal k v0 v1 H n:=(bq Go.Proofs.Tryz.f19 code19 Rw (by kernel_rfl)).trans (by kernel_rfl)
noncomputable def Ax:Code:=ak 23
noncomputable def kw:List ResultVar:=bw 23
noncomputable def CV:KR:=(cutK (Lv.b (Lv.b (A 23))).c (bZ P cal (aZ P cal k) none 23 (cR (cR (cR Ax))) (Lv.b (Lv.b (Lv.b (A 23)))) (ay P kw) X0 (ay P kw)))
noncomputable def qk:XR:=(upX 0 (CV cal k) X0)
noncomputable def KW(m1:Nat):KR:=(fun T H n D=>aZ P cal m1 (Lv.a (Lv.b (Lv.a (Lv.b (Lv.b (A 23)))))) none 23 (cL (cR (cL (cR (cR Ax))))) (CV cal k) (qk cal k) (ay P kw) (cutT (Lv.a (Lv.b (Lv.a (Lv.b (Lv.b (A 23)))))).c T) H n D)
noncomputable def T23_1(m1:Nat):=fun(u0 u1 u5:Value) (H:Hp) (n:Nat)=>labK (bZ P cal (aZ P cal m1) none 23 (cL (cL (cR (cL (cR (cR Ax)))))) (Lv.a (Lv.a (Lv.b (Lv.a (Lv.b (Lv.b (A 23))))))) (KW cal k m1) (qk cal k) (ay P kw)) (Tr.set (Tr.set (Tr.set Tr.nil 5 (some u5)) 1 (some u1)) 0 (some u0)) H n []
noncomputable def R23_1(m1:Nat):V3:=fun u0 u1 u5 H n=>aZ P cal m1 (Lv.a (Lv.b (Lv.a (Lv.b (Lv.b (A 23)))))) none 23 (cL (cR (cL (cR (cR Ax))))) (CV cal k) (qk cal k) (ay P kw) (Tr.set (Tr.set (Tr.set Tr.nil 5 (some u5)) 1 (some u1)) 0 (some u0)) H n []
noncomputable def B23_1(cal:Cal)(k m1:Nat)(b1:V3)(u0 u1 u5:Value)(H:Hp)(n:Nat):Res:=
bindO (lenV P 30 u0) fun v_b=>
binK P BinOp.lss 3 (Operand.tmp 11) (Operand.tmp 13) u5 v_b fun v_c=>
ifK v_c (
bindO (aQ P 30 u0 u5) fun v_f=>
bindO (aY v_f) fun a_g=>bindO (aJ P H 27 a_g) fun v_h=>
bindO (aQ P 30 u1 u5) fun v_k=>
bindO (aY v_k) fun a_l=>bindO (aJ P H 27 a_l) fun v_m=>
aK P cal 48 [v_h,v_m] H n fun v_n H_o n_p=>
bindO (dX P v_n (Op.unary UnOp.not v_n)) fun v_q=>
ifK v_q (
some ((Value.bool false),H_o,n_p)) (
binK P BinOp.add 3 (Operand.tmp 15) (Operand.const (Value.int IntKind.i64 1)) u5 (Value.int IntKind.i64 1) fun v_t=>
b1 u0 u1 v_t H_o n_p)) (
some ((Value.bool true),H,n))
noncomputable def C23_1(m1:Nat):=B23_1 cal k m1
noncomputable def S23_1:Nat→V3:=recF (C23_1 cal k) (fun _ _ _ _ _=>none)
theorem h23_1(m1:Nat):T23_1 cal k m1=C23_1 cal k m1 (R23_1 cal k m1):=by kernel_rfl
theorem q23_1(m:Nat):T23_1 cal k m=S23_1 cal k m:=recS (h23_1 cal k) (by kernel_rfl) (fun m=>by kernel_rfl) m
noncomputable def B23_0(cal:Cal)(k:Nat)(j1:V3)(v0 v1:Value)(H:Hp)(n:Nat):Res:=
bindO (lenV P 30 v0) fun v_3=>
bindO (lenV P 30 v1) fun v_5=>
binK P BinOp.neq 3 (Operand.tmp 7) (Operand.tmp 9) v_3 v_5 fun v_6=>
ifK v_6 (
some ((Value.bool false),H,n)) (
j1 v0 v1 (Value.int IntKind.i64 0) H n)
noncomputable def C23_0:=B23_0 cal k (S23_1 cal k k)
theorem h23_0(v0 v1:Value)(H:Hp)(n:Nat):aX P cal A (k+1) 23 [v0,v1] H n=C23_0 cal k v0 v1 H n:=(bq Go.Proofs.Tryz.f23 Ax kw (by kernel_rfl)).trans (Eq.trans (b:=B23_0 cal k (T23_1 cal k k) v0 v1 H n) (by kernel_rfl) (by rw[q23_1]; rfl))
noncomputable def code25:Code:=ak 25
noncomputable def Rx:List ResultVar:=bw 25
noncomputable def B25_0(cal:Cal)(k:Nat)(v0 v1:Value)(H:Hp)(n:Nat):Res:=
boxK 41 v0 H n fun v_1 H_2 n_3=>
bindO (aY v_1) fun a_8=>bindO (aJ P H_2 41 a_8) fun v_7=>
aK P cal 57 [v_7,v1] H_2 n_3 fun v_a H_b n_c=>
bindO (tupV v_a 0) fun v_e=>
bindO (tupV v_a 1) fun v_f=>
bindO (tupV v_a 2) fun v_g=>
binK P BinOp.neq 33 (Operand.tmp 16) (Operand.const (Value.int IntKind.i64 0)) v_g (Value.int IntKind.i64 0) fun v_l=>
ifK v_l (
some ((Value.tuple ⟨[(Value.int IntKind.i64 0),(Value.slice none 0 0),v_g]⟩),H_b,n_c)) (
bindO (nilV v_e) fun v_r=>
bindO (ax P 109 v_r 0) fun v_s=>
bindO (ax P 41 v_s 1) fun v_t=>
bindO (aY v_t) fun a_v=>bindO (aJ P H_b 27 a_v) fun v_u=>
bindO (lenV P 27 v_u) fun v_w=>
binK P BinOp.eql 3 (Operand.tmp 24) (Operand.const (Value.int IntKind.i64 0)) v_w (Value.int IntKind.i64 0) fun v_x=>
ifK v_x (
some ((Value.tuple ⟨[(Value.int IntKind.i64 0),(Value.slice none 0 0),(Value.int IntKind.i64 7)]⟩),H_b,n_c)) (
aK P cal 63 [v_e,v_f] H_b n_c fun v_13 H_14 n_15=>
aK P cal 64 [v_e,v_13] H_14 n_15 fun v_19 H_1a n_1b=>
some ((Value.tuple ⟨[v_19,v_13,(Value.int IntKind.i64 0)]⟩),H_1a,n_1b)))
noncomputable def C25_0:=B25_0 cal k
theorem h25_0(v0 v1:Value)(H:Hp)(n:Nat):aX P cal A (k+1) 25 [v0,v1] H n=C25_0 cal k v0 v1 H n:=(bq Go.Proofs.Tryz.f25 code25 Rx (by kernel_rfl)).trans (by kernel_rfl)
noncomputable def code32:Code:=ak 32
noncomputable def results32:List ResultVar:=bw 32
noncomputable def B32_0(cal:Cal)(k:Nat)(v0:Value)(H:Hp)(n:Nat):Res:=
boxK 41 v0 H n fun v_1 H_2 n_3=>
bindO (aY v_1) fun a_7=>bindO (aJ P H_2 41 a_7) fun v_6=>
aK P cal 66 [v_6] H_2 n_3 fun v_8 H_9 n_a=>
bindO (tupV v_8 0) fun v_c=>
bindO (tupV v_8 1) fun v_d=>
binK P BinOp.neq 33 (Operand.tmp 11) (Operand.const (Value.int IntKind.i64 0)) v_d (Value.int IntKind.i64 0) fun v_h=>
ifK v_h (
some ((Value.tuple ⟨[(Value.int IntKind.i64 0),v_d]⟩),H_9,n_a)) (
aK P cal 67 [v_c] H_9 n_a fun v_m H_n n_o=>
some ((Value.tuple ⟨[v_m,(Value.int IntKind.i64 0)]⟩),H_n,n_o))
noncomputable def C32_0:=B32_0 cal k
theorem h32_0(v0:Value)(H:Hp)(n:Nat):aX P cal A (k+1) 32 [v0] H n=C32_0 cal k v0 H n:=(bq Go.Proofs.Tryz.f32 code32 results32 (by kernel_rfl)).trans (by kernel_rfl)
noncomputable def code34:Code:=ak 34
noncomputable def results34:List ResultVar:=bw 34
noncomputable def B34_0(cal:Cal)(k:Nat)(v0 v1 v2:Value)(H:Hp)(n:Nat):Res:=
boxK 41 v0 H n fun v_1 H_2 n_3=>
bindO (aY v_1) fun a_8=>bindO (aJ P H_2 41 a_8) fun v_7=>
aK P cal 66 [v_7] H_2 n_3 fun v_9 H_a n_b=>
bindO (tupV v_9 0) fun v_d=>
bindO (tupV v_9 1) fun v_e=>
binK P BinOp.neq 33 (Operand.tmp 16) (Operand.const (Value.int IntKind.i64 0)) v_e (Value.int IntKind.i64 0) fun v_i=>
ifK v_i (
some ((Value.tuple ⟨[(Value.slice none 0 0),(Value.int IntKind.i64 0),v_e]⟩),H_a,n_b)) (
binK P BinOp.lss 3 (Operand.tmp 19) (Operand.const (Value.int IntKind.i64 0)) v1 (Value.int IntKind.i64 0) fun v_o=>
bx v_o false (fun k_q=>
k_q v1 H_a n_b) H_a n_b fun v_r H_s n_t=>
bx v_o false (fun k_v=>
binK P BinOp.gtr 3 (Operand.tmp 22) (Operand.const (Value.int IntKind.i64 2)) v_r (Value.int IntKind.i64 2) fun v_z=>
k_v v_z H_s n_t) H_s n_t fun v_w H_x n_y=>
bindO (fX v_o (Value.bool true) v_w) fun v_10=>
bx v_10 false (fun k_12=>
k_12 v2 H_x n_y) H_x n_y fun v_13 H_14 n_15=>
bx v_10 false (fun k_17=>
binK P BinOp.lss 3 (Operand.tmp 26) (Operand.const (Value.int IntKind.i64 0)) v_13 (Value.int IntKind.i64 0) fun v_1b=>
k_17 v_1b H_14 n_15) H_14 n_15 fun v_18 H_19 n_1a=>
bindO (fX v_10 (Value.bool true) v_18) fun v_1c=>
bx v_1c false (fun k_1e=>
k_1e v2 H_19 n_1a) H_19 n_1a fun v_1f H_1g n_1h=>
bx v_1c false (fun k_1j=>
binK P BinOp.gtr 3 (Operand.tmp 30) (Operand.const (Value.int IntKind.i64 3)) v_1f (Value.int IntKind.i64 3) fun v_1n=>
k_1j v_1n H_1g n_1h) H_1g n_1h fun v_1k H_1l n_1m=>
bindO (fX v_1c (Value.bool true) v_1k) fun v_1o=>
ifK v_1o (
some ((Value.tuple ⟨[(Value.slice none 0 0),(Value.int IntKind.i64 0),(Value.int IntKind.i64 2)]⟩),H_1l,n_1m)) (
bindO (nilV v_d) fun v_1t=>
bindO (ax P 109 v_1t 0) fun v_1u=>
bindO (ax P 41 v_1u 1) fun v_1v=>
bindO (aY v_1v) fun a_1x=>bindO (aJ P H_1l 27 a_1x) fun v_1w=>
bindO (lenV P 27 v_1w) fun v_1y=>
binK P BinOp.eql 3 (Operand.tmp 38) (Operand.const (Value.int IntKind.i64 0)) v_1y (Value.int IntKind.i64 0) fun v_1z=>
ifK v_1z (
some ((Value.tuple ⟨[(Value.slice none 0 0),(Value.int IntKind.i64 0),(Value.int IntKind.i64 7)]⟩),H_1l,n_1m)) (
aK P cal 71 [v_d,v1,v2] H_1l n_1m fun v_26 H_27 n_28=>
bindO (tupV v_26 0) fun v_2a=>
bindO (tupV v_26 1) fun v_2b=>
aK P cal 58 [v_2a] H_27 n_28 fun v_2f H_2g n_2h=>
some ((Value.tuple ⟨[v_2f,v_2b,(Value.int IntKind.i64 0)]⟩),H_2g,n_2h))))
noncomputable def C34_0:=B34_0 cal k
theorem h34_0(v0 v1 v2:Value)(H:Hp)(n:Nat):aX P cal A (k+1) 34 [v0,v1,v2] H n=C34_0 cal k v0 v1 v2 H n:=(bq Go.Proofs.Tryz.f34 code34 results34 (by kernel_rfl)).trans (by kernel_rfl)
noncomputable def code42:Code:=ak 42
noncomputable def results42:List ResultVar:=bw 42
noncomputable def B42_0(cal:Cal)(k:Nat)(v0 v1:Value)(H:Hp)(n:Nat):Res:=
boxK 41 v0 H n fun v_1 H_2 n_3=>
bindO (aY v_1) fun a_7=>bindO (aJ P H_2 41 a_7) fun v_6=>
aK P cal 66 [v_6] H_2 n_3 fun v_8 H_9 n_a=>
bindO (tupV v_8 0) fun v_c=>
bindO (tupV v_8 1) fun v_d=>
binK P BinOp.neq 33 (Operand.tmp 15) (Operand.const (Value.int IntKind.i64 0)) v_d (Value.int IntKind.i64 0) fun v_h=>
ifK v_h (
some ((Value.tuple ⟨[(Value.slice none 0 0),v_d]⟩),H_9,n_a)) (
binK P BinOp.lss 3 (Operand.tmp 18) (Operand.const (Value.int IntKind.i64 0)) v1 (Value.int IntKind.i64 0) fun v_m=>
bx v_m false (fun k_o=>
k_o v1 H_9 n_a) H_9 n_a fun v_p H_q n_r=>
bx v_m false (fun k_t=>
binK P BinOp.gtr 3 (Operand.tmp 21) (Operand.const (Value.int IntKind.i64 8)) v_p (Value.int IntKind.i64 8) fun v_x=>
k_t v_x H_q n_r) H_q n_r fun v_u H_v n_w=>
bindO (fX v_m (Value.bool true) v_u) fun v_y=>
ifK v_y (
some ((Value.tuple ⟨[(Value.slice none 0 0),(Value.int IntKind.i64 2)]⟩),H_v,n_w)) (
aK P cal 76 [v_c,v1] H_v n_w fun v_13 H_14 n_15=>
bindO (tupV v_13 0) fun v_17=>
bindO (tupV v_13 1) fun v_18=>
bindO (dX P v_18 (Op.unary UnOp.not v_18)) fun v_1c=>
ifK v_1c (
some ((Value.tuple ⟨[(Value.slice none 0 0),(Value.int IntKind.i64 10)]⟩),H_14,n_15)) (
aK P cal 58 [v_17] H_14 n_15 fun v_1g H_1h n_1i=>
some ((Value.tuple ⟨[v_1g,(Value.int IntKind.i64 0)]⟩),H_1h,n_1i))))
noncomputable def C42_0:=B42_0 cal k
theorem h42_0(v0 v1:Value)(H:Hp)(n:Nat):aX P cal A (k+1) 42 [v0,v1] H n=C42_0 cal k v0 v1 H n:=(bq Go.Proofs.Tryz.f42 code42 results42 (by kernel_rfl)).trans (by kernel_rfl)
noncomputable def Ay:Code:=ak 48
noncomputable def kz:List ResultVar:=bw 48
noncomputable def CW:KR:=(cutK (Lv.b (Lv.b (A 48))).c (bZ P cal (aZ P cal k) none 48 (cR (cR (cR Ay))) (Lv.b (Lv.b (Lv.b (A 48)))) (ay P kz) X0 (ay P kz)))
noncomputable def qJ:XR:=(upX 0 (CW cal k) X0)
noncomputable def KY(m1:Nat):KR:=(fun T H n D=>aZ P cal m1 (Lv.a (Lv.b (Lv.a (Lv.b (Lv.b (A 48)))))) none 48 (cL (cR (cL (cR (cR Ay))))) (CW cal k) (qJ cal k) (ay P kz) (cutT (Lv.a (Lv.b (Lv.a (Lv.b (Lv.b (A 48)))))).c T) H n D)
noncomputable def T48_1(m1:Nat):=fun(u0 u1 u5:Value) (H:Hp) (n:Nat)=>labK (bZ P cal (aZ P cal m1) none 48 (cL (cL (cR (cL (cR (cR Ay)))))) (Lv.a (Lv.a (Lv.b (Lv.a (Lv.b (Lv.b (A 48))))))) (KY cal k m1) (qJ cal k) (ay P kz)) (Tr.set (Tr.set (Tr.set Tr.nil 5 (some u5)) 1 (some u1)) 0 (some u0)) H n []
noncomputable def R48_1(m1:Nat):V3:=fun u0 u1 u5 H n=>aZ P cal m1 (Lv.a (Lv.b (Lv.a (Lv.b (Lv.b (A 48)))))) none 48 (cL (cR (cL (cR (cR Ay))))) (CW cal k) (qJ cal k) (ay P kz) (Tr.set (Tr.set (Tr.set Tr.nil 5 (some u5)) 1 (some u1)) 0 (some u0)) H n []
noncomputable def B48_1(cal:Cal)(k m1:Nat)(b1:V3)(u0 u1 u5:Value)(H:Hp)(n:Nat):Res:=
bindO (lenV P 27 u0) fun v_b=>
binK P BinOp.lss 3 (Operand.tmp 11) (Operand.tmp 13) u5 v_b fun v_c=>
ifK v_c (
bindO (aQ P 27 u0 u5) fun v_f=>
bindO (aY v_f) fun a_g=>bindO (aJ P H 3 a_g) fun v_h=>
bindO (aQ P 27 u1 u5) fun v_k=>
bindO (aY v_k) fun a_l=>bindO (aJ P H 3 a_l) fun v_m=>
binK P BinOp.neq 3 (Operand.tmp 20) (Operand.tmp 24) v_h v_m fun v_n=>
ifK v_n (
some ((Value.bool false),H,n)) (
binK P BinOp.add 3 (Operand.tmp 15) (Operand.const (Value.int IntKind.i64 1)) u5 (Value.int IntKind.i64 1) fun v_q=>
b1 u0 u1 v_q H n)) (
some ((Value.bool true),H,n))
noncomputable def C48_1(m1:Nat):=B48_1 cal k m1
noncomputable def S48_1:Nat→V3:=recF (C48_1 cal k) (fun _ _ _ _ _=>none)
theorem h48_1(m1:Nat):T48_1 cal k m1=C48_1 cal k m1 (R48_1 cal k m1):=by kernel_rfl
theorem q48_1(m:Nat):T48_1 cal k m=S48_1 cal k m:=recS (h48_1 cal k) (by kernel_rfl) (fun m=>by kernel_rfl) m
noncomputable def B48_0(cal:Cal)(k:Nat)(j1:V3)(v0 v1:Value)(H:Hp)(n:Nat):Res:=
bindO (lenV P 27 v0) fun v_3=>
bindO (lenV P 27 v1) fun v_5=>
binK P BinOp.neq 3 (Operand.tmp 7) (Operand.tmp 9) v_3 v_5 fun v_6=>
ifK v_6 (
some ((Value.bool false),H,n)) (
j1 v0 v1 (Value.int IntKind.i64 0) H n)
noncomputable def C48_0:=B48_0 cal k (S48_1 cal k k)
theorem h48_0(v0 v1:Value)(H:Hp)(n:Nat):aX P cal A (k+1) 48 [v0,v1] H n=C48_0 cal k v0 v1 H n:=(bq Go.Proofs.Tryz.f48 Ay kz (by kernel_rfl)).trans (Eq.trans (b:=B48_0 cal k (T48_1 cal k k) v0 v1 H n) (by kernel_rfl) (by rw[q48_1]; rfl))
noncomputable def Ox:Code:=ak 53
noncomputable def pq:List ResultVar:=bw 53
noncomputable def qoz:KR:=(cutK (Lv.b (Lv.b (Lv.b (A 53)))).c (bZ P cal (aZ P cal k) none 53 (cR (cR (cR (cR Ox)))) (Lv.b (Lv.b (Lv.b (Lv.b (A 53))))) (ay P pq) X0 (ay P pq)))
noncomputable def vy:XR:=(upX 0 (qoz cal k) X0)
noncomputable def K53_prrrlrl(m1:Nat):KR:=(fun T H n D=>aZ P cal m1 (Lv.a (Lv.b (Lv.a (Lv.b (Lv.b (Lv.b (A 53))))))) none 53 (cL (cR (cL (cR (cR (cR Ox)))))) (qoz cal k) (vy cal k) (ay P pq) (cutT (Lv.a (Lv.b (Lv.a (Lv.b (Lv.b (Lv.b (A 53))))))).c T) H n D)
noncomputable def K53_prrrlrllr(m1:Nat):KR:=(cutK (Lv.b (Lv.a (Lv.a (Lv.b (Lv.a (Lv.b (Lv.b (Lv.b (A 53))))))))).c (bZ P cal (aZ P cal m1) none 53 (cR (cR (cL (cL (cR (cL (cR (cR (cR Ox))))))))) (Lv.b (Lv.b (Lv.a (Lv.a (Lv.b (Lv.a (Lv.b (Lv.b (Lv.b (A 53)))))))))) (K53_prrrlrl cal k m1) (vy cal k) (ay P pq)))
noncomputable def K53_pxrrrlrllrl(m1:Nat):XR:=(upX 1 (K53_prrrlrllr cal k m1) (vy cal k))
noncomputable def T53_2(m1:Nat):=fun(u0 u1 u2 u3:Value) (H:Hp) (n:Nat)=>labK (bZ P cal (aZ P cal m1) none 53 (cR (cR (cL (cL (cR (cL (cL (cR (cL (cR (cR (cR Ox)))))))))))) (Lv.b (Lv.b (Lv.a (Lv.a (Lv.b (Lv.a (Lv.a (Lv.b (Lv.a (Lv.b (Lv.b (Lv.b (A 53))))))))))))) (K53_prrrlrllr cal k m1) (K53_pxrrrlrllrl cal k m1) (ay P pq)) (Tr.set (Tr.set (Tr.set (Tr.set Tr.nil 3 (some u3)) 2 (some u2)) 1 (some u1)) 0 (some u0)) H n []
noncomputable def T53_1(m1:Nat):=fun(u0 u1 u2 u3:Value) (H:Hp) (n:Nat)=>labK (bZ P cal (aZ P cal m1) none 53 (cL (cL (cR (cL (cR (cR (cR Ox))))))) (Lv.a (Lv.a (Lv.b (Lv.a (Lv.b (Lv.b (Lv.b (A 53)))))))) (K53_prrrlrl cal k m1) (vy cal k) (ay P pq)) (Tr.set (Tr.set (Tr.set (Tr.set Tr.nil 3 (some u3)) 2 (some u2)) 1 (some u1)) 0 (some u0)) H n []
noncomputable def R53_1(m1:Nat):V4:=fun u0 u1 u2 u3 H n=>aZ P cal m1 (Lv.a (Lv.b (Lv.a (Lv.b (Lv.b (Lv.b (A 53))))))) none 53 (cL (cR (cL (cR (cR (cR Ox)))))) (qoz cal k) (vy cal k) (ay P pq) (Tr.set (Tr.set (Tr.set (Tr.set Tr.nil 3 (some u3)) 2 (some u2)) 1 (some u1)) 0 (some u0)) H n []
noncomputable def B53_2(cal:Cal)(k m1:Nat)(b1:V4)(u0 u1 u2 u3:Value)(H:Hp)(n:Nat):Res:=
bindO (ax P 41 u2 1) fun v_10=>
bindO (aY v_10) fun a_11=>bindO (aJ P H 27 a_11) fun v_12=>
bindO (zK P 27 1 [(0,u3)]) fun q_16=>newK q_16.1 q_16.2 H n fun H_14 n_15=>
bindO (ax P 41 u2 2) fun v_17=>
bindO (aY v_17) fun a_18=>bindO (aJ P H_14 27 a_18) fun v_19=>
binK P BinOp.add 3 (Operand.tmp 36) (Operand.const (Value.int IntKind.i64 1)) u3 (Value.int IntKind.i64 1) fun v_1b=>
bindO (zK P 27 1 [(0,v_1b)]) fun q_1e=>newK q_1e.1 q_1e.2 H_14 n_15 fun H_1c n_1d=>
effK P [(.a n_15 (some q_1e.1) q_1e.2),(.l 27 a_18)] H_1c n_1d (fun H_1f n_1g k_1h=>
stK (eJ P (bare H_1f n_1g) 27 27 v_12 (.slice (some ⟨n,0,none⟩) 1 1)) fun v_1l H_1m n_1n=>
k_1h v_1l H_1m n_1n) fun v_1i H_1j n_1k=>
bindO (ax P 41 u2 1) fun v_1o=>
stK (eJ P (bare H_1j n_1k) 27 27 v_19 (.slice (some ⟨n_15,0,none⟩) 1 1)) fun v_1p H_1q n_1r=>
bindO (dQ P 27 v_1o v_1i H_1q) fun H_1t=>
bindO (ax P 41 u2 2) fun v_1u=>
bindO (dQ P 27 v_1u v_1p H_1t) fun H_1w=>
binK P BinOp.add 3 (Operand.tmp 10) (Operand.const (Value.int IntKind.i64 1)) u3 (Value.int IntKind.i64 1) fun v_1y=>
b1 u0 u1 u2 v_1y H_1w n_1r
noncomputable def C53_2(m1:Nat):=B53_2 cal k m1
theorem h53_2(m1:Nat):T53_2 cal k m1=C53_2 cal k m1 (R53_1 cal k m1):=by kernel_rfl
noncomputable def B53_1(cal:Cal)(k m1:Nat)(j2:V4)(b1:V4)(u0 u1 u2 u3:Value)(H:Hp)(n:Nat):Res:=
binK P BinOp.lss 3 (Operand.tmp 8) (Operand.const (Value.int IntKind.i64 5)) u3 (Value.int IntKind.i64 5) fun v_m=>
ifK v_m (
bindO (ax P 39 u1 0) fun v_n=>
bindO (aY v_n) fun a_p=>bindO (aJ P H 35 a_p) fun v_o=>
bindO (nV P 130 []) fun v_q=>
rowK P 35 1 [(0,v_q)] H n fun v_r H_s n_t=>
stK (eJ P (bare H_s n_t) 35 35 v_o v_r) fun v_u H_v n_w=>
bindO (ax P 39 u1 0) fun v_x=>
bindO (dQ P 35 v_x v_u H_v) fun H_z=>
binK P BinOp.gtr 3 (Operand.tmp 18) (Operand.const (Value.int IntKind.i64 0)) u3 (Value.int IntKind.i64 0) fun v_21=>
ifK v_21 (
bindO (ax P 39 u1 1) fun v_22=>
bindO (aY v_22) fun a_24=>bindO (aJ P H_z 36 a_24) fun v_23=>
binK P BinOp.sub 3 (Operand.tmp 22) (Operand.const (Value.int IntKind.i64 1)) u3 (Value.int IntKind.i64 1) fun v_26=>
bindO (nV P 131 [(0,v_26),(1,u3)]) fun v_28=>
rowK P 36 1 [(0,v_28)] H_z n_w fun v_29 H_2a n_2b=>
stK (eJ P (bare H_2a n_2b) 36 36 v_23 v_29) fun v_2c H_2d n_2e=>
bindO (ax P 39 u1 1) fun v_2f=>
bindO (dQ P 36 v_2f v_2c H_2d) fun H_2h=>
j2 u0 u1 u2 u3 H_2h n_2e) (
j2 u0 u1 u2 u3 H_z n_w)) (
bindO (aY u1) fun a_2j=>bindO (aJ P H 39 a_2j) fun v_2i=>
bindO (ax P 41 u2 0) fun v_2k=>
bindO (dQ P 39 v_2k v_2i H) fun H_2m=>
bindO (aY u2) fun a_2o=>bindO (aJ P H_2m 41 a_2o) fun v_2n=>
bindO (dQ P 41 u0 v_2n H_2m) fun H_2q=>
bindO (resV P (Tr.set Tr.nil 0 (some u0)) H_2q pq) fun v_2r=>some (oneV v_2r,H_2q,n))
noncomputable def C53_1(m1:Nat)(b1:V4):=B53_1 cal k m1 (C53_2 cal k m1 b1) b1
noncomputable def S53_1:Nat→V4:=recF (C53_1 cal k) (fun _ _ _ _ _ _=>none)
theorem h53_1(m1:Nat):T53_1 cal k m1=C53_1 cal k m1 (R53_1 cal k m1):=Eq.trans (b:=B53_1 cal k m1 (T53_2 cal k m1) (R53_1 cal k m1)) (by kernel_rfl) (by rw[h53_2]; rfl)
theorem q53_1(m:Nat):T53_1 cal k m=S53_1 cal k m:=recS (h53_1 cal k) (by kernel_rfl) (fun m=>by kernel_rfl) m
noncomputable def B53_0(cal:Cal)(k:Nat)(j1:V4)(H:Hp)(n:Nat):Res:=
jK P 41 H n fun v_1 H_2 n_3=>
bindO (nV P 128 []) fun v_4=>
rowK P 37 1 [(0,v_4)] H_2 n_3 fun v_5 H_6 n_7=>
bindO (nV P 39 [(2,v_5)]) fun v_8=>
jK P 39 H_6 n_7 fun v_9 H_a n_b=>
bindO (dQ P 39 v_9 v_8 H_a) fun H_d=>
bindO (nV P 41 []) fun v_e=>
jK P 41 H_d n_b fun v_f H_g n_h=>
bindO (dQ P 41 v_f v_e H_g) fun H_j=>
j1 v_1 v_9 v_f (Value.int IntKind.i64 0) H_j n_h
noncomputable def C53_0:=B53_0 cal k (S53_1 cal k k) 
theorem h53_0(H:Hp)(n:Nat):aX P cal A (k+1) 53 [] H n=C53_0 cal k  H n:=(bq Go.Proofs.Tryz.f53 Ox pq (by kernel_rfl)).trans (Eq.trans (b:=B53_0 cal k (T53_1 cal k k)  H n) (by kernel_rfl) (by rw[q53_1]; rfl))
noncomputable def code54:Code:=ak 54
noncomputable def results54:List ResultVar:=bw 54
noncomputable def B54_0(cal:Cal)(k:Nat)(H:Hp)(n:Nat):Res:=
rowK P 27 2 [(0,(Value.int IntKind.i64 0)),(1,(Value.int IntKind.i64 1))] H n fun v_2 H_3 n_4=>
rowK P 27 2 [(0,(Value.int IntKind.i64 1)),(1,(Value.int IntKind.i64 2))] H_3 n_4 fun v_5 H_6 n_7=>
rowK P 27 2 [(0,(Value.int IntKind.i64 2)),(1,(Value.int IntKind.i64 3))] H_6 n_7 fun v_8 H_9 n_a=>
rowK P 27 2 [(0,(Value.int IntKind.i64 3)),(1,(Value.int IntKind.i64 4))] H_9 n_a fun v_b H_c n_d=>
rowK P 30 4 [(0,v_2),(1,v_5),(2,v_8),(3,v_b)] H_c n_d fun v_e H_f n_g=>
some (v_e,H_f,n_g)
noncomputable def C54_0:=B54_0 cal k 
theorem h54_0(H:Hp)(n:Nat):aX P cal A (k+1) 54 [] H n=C54_0 cal k  H n:=(bq Go.Proofs.Tryz.f54 code54 results54 (by kernel_rfl)).trans (by kernel_rfl)
noncomputable def Rz:Code:=ak 55
noncomputable def sj:List ResultVar:=bw 55
noncomputable def K55_prr:KR:=(cutK (Lv.b (Lv.b (A 55))).c (bZ P cal (aZ P cal k) none 55 (cR (cR (cR Rz))) (Lv.b (Lv.b (Lv.b (A 55)))) (ay P sj) X0 (ay P sj)))
noncomputable def B55_0(cal:Cal)(k:Nat)(v0:Value)(H:Hp)(n:Nat):Res:=
boxK 41 v0 H n fun v_1 H_2 n_3=>
bindO (ax P 41 v_1 0) fun v_5=>
bindO (aY v_5) fun a_7=>bindO (aJ P H_2 39 a_7) fun v_6=>
aK P cal 77 [v_6] H_2 n_3 fun v_8 H_9 n_a=>
binK P BinOp.neq 33 (Operand.tmp 7) (Operand.const (Value.int IntKind.i64 0)) v_8 (Value.int IntKind.i64 0) fun v_d=>
ifK v_d (
some (v_8,H_9,n_a)) (
bindO (aY v_1) fun a_h=>bindO (aJ P H_9 41 a_h) fun v_g=>
bindO (ax P 41 v_1 1) fun v_i=>
bindO (aY v_i) fun a_k=>bindO (aJ P H_9 27 a_k) fun v_j=>
aK P cal 78 [v_g,v_j] H_9 n_a fun v_l H_m n_n=>
bindO (dX P v_l (Op.unary UnOp.not v_l)) fun v_o=>
bx v_o false (fun k_q=>
bindO (ax P 41 v_1 2) fun v_u=>
k_q v_u H_m n_n) H_m n_n fun v_r H_s n_t=>
bx v_o false (fun k_v=>
bindO (aY v_r) fun a_10=>bindO (aJ P H_s 27 a_10) fun v_z=>
k_v v_z H_s n_t) H_s n_t fun v_w H_x n_y=>
bx v_o false (fun k_11=>
bindO (lenV P 27 v_w) fun v_15=>
k_11 v_15 H_x n_y) H_x n_y fun v_12 H_13 n_14=>
bx v_o false (fun k_16=>
bindO (ax P 41 v_1 0) fun v_1a=>
k_16 v_1a H_13 n_14) H_13 n_14 fun v_17 H_18 n_19=>
bx v_o false (fun k_1b=>
bindO (ax P 39 v_17 0) fun v_1f=>
k_1b v_1f H_18 n_19) H_18 n_19 fun v_1c H_1d n_1e=>
bx v_o false (fun k_1g=>
bindO (aY v_1c) fun a_1l=>bindO (aJ P H_1d 35 a_1l) fun v_1k=>
k_1g v_1k H_1d n_1e) H_1d n_1e fun v_1h H_1i n_1j=>
bx v_o false (fun k_1m=>
bindO (lenV P 35 v_1h) fun v_1q=>
k_1m v_1q H_1i n_1j) H_1i n_1j fun v_1n H_1o n_1p=>
bx v_o false (fun k_1r=>
binK P BinOp.neq 3 (Operand.tmp 18) (Operand.tmp 22) v_12 v_1n fun v_1v=>
k_1r v_1v H_1o n_1p) H_1o n_1p fun v_1s H_1t n_1u=>
bindO (fX v_o (Value.bool true) v_1s) fun v_1w=>
bx v_1w false (fun k_1y=>
bindO (ax P 41 v_1 2) fun v_22=>
k_1y v_22 H_1t n_1u) H_1t n_1u fun v_1z H_20 n_21=>
bx v_1w false (fun k_23=>
bindO (aY v_1z) fun a_28=>bindO (aJ P H_20 27 a_28) fun v_27=>
k_23 v_27 H_20 n_21) H_20 n_21 fun v_24 H_25 n_26=>
bx v_1w false (fun k_29=>
aK P cal 79 [v_24,(Value.func (.func 80) #[] #[])] H_25 n_26 fun v_2d H_2e n_2f=>
k_29 v_2d H_2e n_2f) H_25 n_26 fun v_2a H_2b n_2c=>
bx v_1w false (fun k_2g=>
bindO (dX P v_2a (Op.unary UnOp.not v_2a)) fun v_2k=>
k_2g v_2k H_2b n_2c) H_2b n_2c fun v_2h H_2i n_2j=>
bindO (fX v_1w (Value.bool true) v_2h) fun v_2l=>
ifK v_2l (
some ((Value.int IntKind.i64 1),H_2i,n_2j)) (
some ((Value.int IntKind.i64 0),H_2i,n_2j)))
noncomputable def C55_0:=B55_0 cal k
theorem h55_0(v0:Value)(H:Hp)(n:Nat):aX P cal A (k+1) 55 [v0] H n=C55_0 cal k v0 H n:=(bq Go.Proofs.Tryz.f55 Rz sj (by kernel_rfl)).trans (by kernel_rfl)
noncomputable def xK:Code:=ak 57
noncomputable def iZ:List ResultVar:=bw 57
noncomputable def nK:KR:=(cutK (Lv.b (Lv.b (Lv.b (Lv.b (Lv.b (Lv.b (A 57))))))).c (bZ P cal (aZ P cal k) none 57 (cR (cR (cR (cR (cR (cR (cR xK))))))) (Lv.b (Lv.b (Lv.b (Lv.b (Lv.b (Lv.b (Lv.b (A 57)))))))) (ay P iZ) X0 (ay P iZ)))
noncomputable def jk:XR:=(upX 0 (nK cal k) X0)
noncomputable def yj(m1:Nat):KR:=(fun T H n D=>aZ P cal m1 (Lv.a (Lv.b (Lv.a (Lv.b (Lv.b (Lv.b (Lv.b (Lv.b (Lv.b (A 57)))))))))) none 57 (cL (cR (cL (cR (cR (cR (cR (cR (cR xK))))))))) (nK cal k) (jk cal k) (ay P iZ) (cutT (Lv.a (Lv.b (Lv.a (Lv.b (Lv.b (Lv.b (Lv.b (Lv.b (Lv.b (A 57)))))))))).c T) H n D)
noncomputable def T57_1(m1:Nat):=fun(u7 u9 u34 u35 u36:Value) (H:Hp) (n:Nat)=>labK (bZ P cal (aZ P cal m1) none 57 (cL (cL (cR (cL (cR (cR (cR (cR (cR (cR xK)))))))))) (Lv.a (Lv.a (Lv.b (Lv.a (Lv.b (Lv.b (Lv.b (Lv.b (Lv.b (Lv.b (A 57))))))))))) (yj cal k m1) (jk cal k) (ay P iZ)) (Tr.set (Tr.set (Tr.set (Tr.set (Tr.set Tr.nil 36 (some u36)) 35 (some u35)) 34 (some u34)) 9 (some u9)) 7 (some u7)) H n []
noncomputable def R57_1(m1:Nat):V5:=fun u7 u9 u34 u35 u36 H n=>aZ P cal m1 (Lv.a (Lv.b (Lv.a (Lv.b (Lv.b (Lv.b (Lv.b (Lv.b (Lv.b (A 57)))))))))) none 57 (cL (cR (cL (cR (cR (cR (cR (cR (cR xK))))))))) (nK cal k) (jk cal k) (ay P iZ) (Tr.set (Tr.set (Tr.set (Tr.set (Tr.set Tr.nil 36 (some u36)) 35 (some u35)) 34 (some u34)) 9 (some u9)) 7 (some u7)) H n []
noncomputable def B57_1(cal:Cal)(k m1:Nat)(b1:V5)(u7 u9 u34 u35 u36:Value)(H:Hp)(n:Nat):Res:=
binK P BinOp.lss 3 (Operand.tmp 36) (Operand.tmp 35) u36 u35 fun v_1g=>
ifK v_1g (
bindO (aQ P 30 u34 u36) fun v_1i=>
bindO (aY v_1i) fun a_1k=>bindO (aJ P H 27 a_1k) fun v_1j=>
aK P cal 83 [v_1j] H n fun v_1q H_1r n_1s=>
bindO (aQ P 98 u9 u36) fun v_1t=>
bindO (dQ P 106 v_1t v_1q H_1r) fun H_1v=>
binK P BinOp.add 3 (Operand.tmp 36) (Operand.const (Value.int IntKind.i64 1)) u36 (Value.int IntKind.i64 1) fun v_1w=>
b1 u7 u9 u34 u35 v_1w H_1v n_1s) (
some ((Value.tuple ⟨[u7,u9,(Value.int IntKind.i64 0)]⟩),H,n))
noncomputable def Wk(m1:Nat):=B57_1 cal k m1
noncomputable def WJ:Nat→V5:=recF (Wk cal k) (fun _ _ _ _ _ _ _=>none)
theorem h57_1(m1:Nat):T57_1 cal k m1=Wk cal k m1 (R57_1 cal k m1):=by kernel_rfl
theorem q57_1(m:Nat):T57_1 cal k m=WJ cal k m:=recS (h57_1 cal k) (by kernel_rfl) (fun m=>by kernel_rfl) m
noncomputable def B57_0(cal:Cal)(k:Nat)(j1:V5)(v0 v1:Value)(H:Hp)(n:Nat):Res:=
boxK 41 v0 H n fun v_1 H_2 n_3=>
bindO (aY v_1) fun a_8=>bindO (aJ P H_2 41 a_8) fun v_7=>
aK P cal 66 [v_7] H_2 n_3 fun v_9 H_a n_b=>
bindO (tupV v_9 0) fun v_d=>
bindO (tupV v_9 1) fun v_e=>
binK P BinOp.neq 33 (Operand.tmp 17) (Operand.const (Value.int IntKind.i64 0)) v_e (Value.int IntKind.i64 0) fun v_i=>
ifK v_i (
some ((Value.tuple ⟨[(Value.pointer none),(Value.slice none 0 0),v_e]⟩),H_a,n_b)) (
bindO (lenV P 30 v1) fun v_o=>
binK P BinOp.gtr 3 (Operand.tmp 21) (Operand.const (Value.int IntKind.i64 300)) v_o (Value.int IntKind.i64 300) fun v_p=>
ifK v_p (
some ((Value.tuple ⟨[(Value.pointer none),(Value.slice none 0 0),(Value.int IntKind.i64 3)]⟩),H_a,n_b)) (
bindO (nilV v_d) fun v_v=>
bindO (ax P 109 v_v 0) fun v_w=>
bindO (aY v_w) fun a_y=>bindO (aJ P H_a 41 a_y) fun v_x=>
aK P cal 82 [v1,(Value.func (Fn.func 78) ⟨[v_x]⟩ ⟨[]⟩)] H_a n_b fun v_10 H_11 n_12=>
bindO (dX P v_10 (Op.unary UnOp.not v_10)) fun v_13=>
ifK v_13 (
some ((Value.tuple ⟨[(Value.pointer none),(Value.slice none 0 0),(Value.int IntKind.i64 2)]⟩),H_11,n_12)) (
bindO (lenV P 30 v1) fun v_18=>
stK (jQ P 98 v_18 v_18 (bare H_11 n_12)) fun v_19 H_1a n_1b=>
bindO (lenV P 30 v1) fun v_1e=>
j1 v_d v_19 v1 v_1e (Value.int IntKind.i64 0) H_1a n_1b)))
noncomputable def C57_0:=B57_0 cal k (WJ cal k k)
theorem h57_0(v0 v1:Value)(H:Hp)(n:Nat):aX P cal A (k+1) 57 [v0,v1] H n=C57_0 cal k v0 v1 H n:=(bq Go.Proofs.Tryz.f57 xK iZ (by kernel_rfl)).trans (Eq.trans (b:=B57_0 cal k (T57_1 cal k k) v0 v1 H n) (by kernel_rfl) (by rw[q57_1]; rfl))
noncomputable def yq:Code:=ak 58
noncomputable def iK:List ResultVar:=bw 58
noncomputable def CY:KR:=(cutK (Lv.b (Lv.b (A 58))).c (bZ P cal (aZ P cal k) none 58 (cR (cR (cR yq))) (Lv.b (Lv.b (Lv.b (A 58)))) (ay P iK) X0 (ay P iK)))
noncomputable def qQ:XR:=(upX 0 (CY cal k) X0)
noncomputable def Lq(m1:Nat):KR:=(fun T H n D=>aZ P cal m1 (Lv.a (Lv.b (Lv.a (Lv.b (Lv.b (A 58)))))) none 58 (cL (cR (cL (cR (cR yq))))) (CY cal k) (qQ cal k) (ay P iK) (cutT (Lv.a (Lv.b (Lv.a (Lv.b (Lv.b (A 58)))))).c T) H n D)
noncomputable def T58_1(m1:Nat):=fun(u3 u6 u7 u8:Value) (H:Hp) (n:Nat)=>labK (bZ P cal (aZ P cal m1) none 58 (cL (cL (cR (cL (cR (cR yq)))))) (Lv.a (Lv.a (Lv.b (Lv.a (Lv.b (Lv.b (A 58))))))) (Lq cal k m1) (qQ cal k) (ay P iK)) (Tr.set (Tr.set (Tr.set (Tr.set Tr.nil 8 (some u8)) 7 (some u7)) 6 (some u6)) 3 (some u3)) H n []
noncomputable def R58_1(m1:Nat):V4:=fun u3 u6 u7 u8 H n=>aZ P cal m1 (Lv.a (Lv.b (Lv.a (Lv.b (Lv.b (A 58)))))) none 58 (cL (cR (cL (cR (cR yq))))) (CY cal k) (qQ cal k) (ay P iK) (Tr.set (Tr.set (Tr.set (Tr.set Tr.nil 8 (some u8)) 7 (some u7)) 6 (some u6)) 3 (some u3)) H n []
noncomputable def B58_1(cal:Cal)(k m1:Nat)(b1:V4)(u3 u6 u7 u8:Value)(H:Hp)(n:Nat):Res:=
binK P BinOp.lss 3 (Operand.tmp 8) (Operand.tmp 7) u8 u7 fun v_6=>
ifK v_6 (
bindO (aQ P 98 u6 u8) fun v_7=>
bindO (aY v_7) fun a_9=>bindO (aJ P H 106 a_9) fun v_8=>
aK P cal 84 [v_8] H n fun v_d H_e n_f=>
rowK P 30 1 [(0,v_d)] H_e n_f fun v_g H_h n_i=>
stK (eJ P (bare H_h n_i) 30 30 u3 v_g) fun v_j H_k n_l=>
binK P BinOp.add 3 (Operand.tmp 8) (Operand.const (Value.int IntKind.i64 1)) u8 (Value.int IntKind.i64 1) fun v_n=>
b1 v_j u6 u7 v_n H_k n_l) (
some (u3,H,n))
noncomputable def WQ(m1:Nat):=B58_1 cal k m1
noncomputable def WV:Nat→V4:=recF (WQ cal k) (fun _ _ _ _ _ _=>none)
theorem h58_1(m1:Nat):T58_1 cal k m1=WQ cal k m1 (R58_1 cal k m1):=by kernel_rfl
theorem q58_1(m:Nat):T58_1 cal k m=WV cal k m:=recS (h58_1 cal k) (by kernel_rfl) (fun m=>by kernel_rfl) m
noncomputable def B58_0(cal:Cal)(k:Nat)(j1:V4)(v0:Value)(H:Hp)(n:Nat):Res:=
bindO (lenV P 98 v0) fun v_4=>
j1 (Value.slice none 0 0) v0 v_4 (Value.int IntKind.i64 0) H n
noncomputable def C58_0:=B58_0 cal k (WV cal k k)
theorem h58_0(v0:Value)(H:Hp)(n:Nat):aX P cal A (k+1) 58 [v0] H n=C58_0 cal k v0 H n:=(bq Go.Proofs.Tryz.f58 yq iK (by kernel_rfl)).trans (Eq.trans (b:=B58_0 cal k (T58_1 cal k k) v0 H n) (by kernel_rfl) (by rw[q58_1]; rfl))
noncomputable def yw:Code:=ak 59
noncomputable def jj:List ResultVar:=bw 59
noncomputable def CZ:KR:=(cutK (Lv.b (Lv.b (A 59))).c (bZ P cal (aZ P cal k) none 59 (cR (cR (cR yw))) (Lv.b (Lv.b (Lv.b (A 59)))) (ay P jj) X0 (ay P jj)))
noncomputable def qV:XR:=(upX 0 (CZ cal k) X0)
noncomputable def Lw(m1:Nat):KR:=(fun T H n D=>aZ P cal m1 (Lv.a (Lv.b (Lv.a (Lv.b (Lv.b (A 59)))))) none 59 (cL (cR (cL (cR (cR yw))))) (CZ cal k) (qV cal k) (ay P jj) (cutT (Lv.a (Lv.b (Lv.a (Lv.b (Lv.b (A 59)))))).c T) H n D)
noncomputable def T59_1(m1:Nat):=fun(u0 u5 u15 u16 u17:Value) (H:Hp) (n:Nat)=>labK (bZ P cal (aZ P cal m1) none 59 (cL (cL (cR (cL (cR (cR yw)))))) (Lv.a (Lv.a (Lv.b (Lv.a (Lv.b (Lv.b (A 59))))))) (Lw cal k m1) (qV cal k) (ay P jj)) (Tr.set (Tr.set (Tr.set (Tr.set (Tr.set Tr.nil 17 (some u17)) 16 (some u16)) 15 (some u15)) 5 (some u5)) 0 (some u0)) H n []
noncomputable def R59_1(m1:Nat):V5:=fun u0 u5 u15 u16 u17 H n=>aZ P cal m1 (Lv.a (Lv.b (Lv.a (Lv.b (Lv.b (A 59)))))) none 59 (cL (cR (cL (cR (cR yw))))) (CZ cal k) (qV cal k) (ay P jj) (Tr.set (Tr.set (Tr.set (Tr.set (Tr.set Tr.nil 17 (some u17)) 16 (some u16)) 15 (some u15)) 5 (some u5)) 0 (some u0)) H n []
noncomputable def B59_1(cal:Cal)(k m1:Nat)(b1:V5)(u0 u5 u15 u16 u17:Value)(H:Hp)(n:Nat):Res:=
binK P BinOp.lss 3 (Operand.tmp 17) (Operand.tmp 16) u17 u16 fun v_i=>
ifK v_i (
bindO (aQ P 98 u15 u17) fun v_k=>
bindO (aY v_k) fun a_m=>bindO (aJ P H 106 a_m) fun v_l=>
bindO (aQ P 98 u5 u17) fun v_t=>
bindO (aY v_t) fun a_v=>bindO (aJ P H 106 a_v) fun v_u=>
aK P cal 85 [u0,v_u] H n fun v_w H_x n_y=>
aK P cal 86 [v_w,v_l] H_x n_y fun v_10 H_11 n_12=>
rowK P 98 1 [(0,v_10)] H_11 n_12 fun v_13 H_14 n_15=>
stK (eJ P (bare H_14 n_15) 98 98 u5 v_13) fun v_16 H_17 n_18=>
binK P BinOp.add 3 (Operand.tmp 17) (Operand.const (Value.int IntKind.i64 1)) u17 (Value.int IntKind.i64 1) fun v_1a=>
b1 u0 v_16 u15 u16 v_1a H_17 n_18) (
some (u5,H,n))
noncomputable def WW(m1:Nat):=B59_1 cal k m1
noncomputable def WX:Nat→V5:=recF (WW cal k) (fun _ _ _ _ _ _ _=>none)
theorem h59_1(m1:Nat):T59_1 cal k m1=WW cal k m1 (R59_1 cal k m1):=by kernel_rfl
theorem q59_1(m:Nat):T59_1 cal k m=WX cal k m:=recS (h59_1 cal k) (by kernel_rfl) (fun m=>by kernel_rfl) m
noncomputable def B59_0(cal:Cal)(k:Nat)(j1:V5)(v0 v1:Value)(H:Hp)(n:Nat):Res:=
bindO (nilV v0) fun v_3=>
bindO (ax P 109 v_3 0) fun v_4=>
bindO (ax P 41 v_4 1) fun v_5=>
bindO (aY v_5) fun a_7=>bindO (aJ P H 27 a_7) fun v_6=>
aK P cal 83 [v_6] H n fun v_8 H_9 n_a=>
rowK P 98 1 [(0,v_8)] H_9 n_a fun v_b H_c n_d=>
bindO (lenV P 98 v1) fun v_g=>
j1 v0 v_b v1 v_g (Value.int IntKind.i64 0) H_c n_d
noncomputable def C59_0:=B59_0 cal k (WX cal k k)
theorem h59_0(v0 v1:Value)(H:Hp)(n:Nat):aX P cal A (k+1) 59 [v0,v1] H n=C59_0 cal k v0 v1 H n:=(bq Go.Proofs.Tryz.f59 yw jj (by kernel_rfl)).trans (Eq.trans (b:=B59_0 cal k (T59_1 cal k k) v0 v1 H n) (by kernel_rfl) (by rw[q59_1]; rfl))
noncomputable def tZ:Code:=ak 63
noncomputable def fV:List ResultVar:=bw 63
noncomputable def tK:KR:=(cutK (Lv.b (Lv.b (Lv.b (Lv.b (A 63))))).c (bZ P cal (aZ P cal k) none 63 (cR (cR (cR (cR (cR tZ))))) (Lv.b (Lv.b (Lv.b (Lv.b (Lv.b (A 63)))))) (ay P fV) X0 (ay P fV)))
noncomputable def mV:XR:=(upX 0 (tK cal k) X0)
noncomputable def CK(m1:Nat):KR:=(fun T H n D=>aZ P cal m1 (Lv.a (Lv.b (Lv.a (Lv.b (Lv.b (Lv.b (Lv.b (A 63)))))))) none 63 (cL (cR (cL (cR (cR (cR (cR tZ))))))) (tK cal k) (mV cal k) (ay P fV) (cutT (Lv.a (Lv.b (Lv.a (Lv.b (Lv.b (Lv.b (Lv.b (A 63)))))))).c T) H n D)
noncomputable def T63_1:=fun(u6:Value) (H:Hp) (n:Nat)=>labK (bZ P cal (aZ P cal k) none 63 (cR (cR (cR (cR (cR tZ))))) (Lv.b (Lv.b (Lv.b (Lv.b (Lv.b (A 63)))))) (ay P fV) X0 (ay P fV)) (Tr.set Tr.nil 6 (some u6)) H n []
noncomputable def T63_2(m1:Nat):=fun(u0 u5 u6 u7 u20 u21 u22:Value) (H:Hp) (n:Nat)=>labK (bZ P cal (aZ P cal m1) none 63 (cL (cL (cR (cL (cR (cR (cR (cR tZ)))))))) (Lv.a (Lv.a (Lv.b (Lv.a (Lv.b (Lv.b (Lv.b (Lv.b (A 63))))))))) (CK cal k m1) (mV cal k) (ay P fV)) (Tr.set (Tr.set (Tr.set (Tr.set (Tr.set (Tr.set (Tr.set Tr.nil 22 (some u22)) 21 (some u21)) 20 (some u20)) 7 (some u7)) 6 (some u6)) 5 (some u5)) 0 (some u0)) H n []
noncomputable def R63_2(m1:Nat):V7:=fun u0 u5 u6 u7 u20 u21 u22 H n=>aZ P cal m1 (Lv.a (Lv.b (Lv.a (Lv.b (Lv.b (Lv.b (Lv.b (A 63)))))))) none 63 (cL (cR (cL (cR (cR (cR (cR tZ))))))) (tK cal k) (mV cal k) (ay P fV) (Tr.set (Tr.set (Tr.set (Tr.set (Tr.set (Tr.set (Tr.set Tr.nil 22 (some u22)) 21 (some u21)) 20 (some u20)) 7 (some u7)) 6 (some u6)) 5 (some u5)) 0 (some u0)) H n []
noncomputable def B63_1(cal:Cal)(k:Nat)(u6:Value)(H:Hp)(n:Nat):Res:=
some (u6,H,n)
noncomputable def WY:=B63_1 cal k
theorem h63_1:T63_1 cal k=WY cal k:=by kernel_rfl
noncomputable def B63_2(cal:Cal)(k m1:Nat)(j1:V1)(b2:V7)(u0 u5 u6 u7 u20 u21 u22:Value)(H:Hp)(n:Nat):Res:=
binK P BinOp.lss 3 (Operand.tmp 22) (Operand.tmp 21) u22 u21 fun v_s=>
ifK v_s (
bindO (aQ P 98 u20 u22) fun v_u=>
bindO (aY v_u) fun a_w=>bindO (aJ P H 106 a_w) fun v_v=>
jK P 3 H n fun v_x H_y n_z=>
bindO (dQ P 3 v_x u22 H_y) fun H_11=>
binK P BinOp.eql 106 (Operand.tmp 27) (Operand.const (Value.int IntKind.u64 0)) u7 (Value.int IntKind.u64 0) fun v_14=>
ifK v_14 (
j1 u6 H_11 n_z) (
aK P cal 84 [u7] H_11 n_z fun v_16 H_17 n_18=>
aK P cal 90 [v_16,(Value.func (Fn.func 91) ⟨[]⟩ ⟨[u5,v_x]⟩)] H_17 n_18 fun v_1a H_1b n_1c=>
rowK P 27 1 [(0,v_1a)] H_1b n_1c fun v_1g H_1h n_1i=>
stK (eJ P (bare H_1h n_1i) 27 27 u6 v_1g) fun v_1j H_1k n_1l=>
rowK P 27 1 [(0,v_1a)] H_1k n_1l fun v_1p H_1q n_1r=>
aK P cal 83 [v_1p] H_1q n_1r fun v_1s H_1t n_1u=>
aK P cal 85 [u0,v_1s] H_1t n_1u fun v_1v H_1w n_1x=>
aK P cal 86 [v_1v,v_v] H_1w n_1x fun v_1z H_20 n_21=>
binK P BinOp.add 3 (Operand.tmp 22) (Operand.const (Value.int IntKind.i64 1)) u22 (Value.int IntKind.i64 1) fun v_23=>
b2 u0 u5 v_1j v_1z u20 u21 v_23 H_20 n_21)) (
j1 u6 H n)
noncomputable def C63_2(m1:Nat):=B63_2 cal k m1 (WY cal k)
noncomputable def S63_2:Nat→V7:=recF (C63_2 cal k) (fun _ _ _ _ _ _ _ _ _=>none)
theorem h63_2(m1:Nat):T63_2 cal k m1=C63_2 cal k m1 (R63_2 cal k m1):=Eq.trans (b:=B63_2 cal k m1 (T63_1 cal k) (R63_2 cal k m1)) (by kernel_rfl) (by rw[h63_1]; rfl)
theorem q63_2(m:Nat):T63_2 cal k m=S63_2 cal k m:=recS (h63_2 cal k) (by kernel_rfl) (fun m=>by kernel_rfl) m
noncomputable def B63_0(cal:Cal)(k:Nat)(j2:V7)(v0 v1:Value)(H:Hp)(n:Nat):Res:=
aK P cal 89 [v0,v1] H n fun v_4 H_5 n_6=>
jK P 147 H_5 n_6 fun v_7 H_8 n_9=>
bindO (dQ P 147 v_7 v_4 H_8) fun H_b=>
bindO (nilV v0) fun v_e=>
bindO (ax P 109 v_e 0) fun v_f=>
bindO (ax P 41 v_f 1) fun v_g=>
bindO (aY v_g) fun a_i=>bindO (aJ P H_b 27 a_i) fun v_h=>
aK P cal 83 [v_h] H_b n_9 fun v_j H_k n_l=>
bindO (lenV P 98 v1) fun v_q=>
j2 v0 v_7 (Value.slice none 0 0) v_j v1 v_q (Value.int IntKind.i64 0) H_k n_l
noncomputable def C63_0:=B63_0 cal k (S63_2 cal k k)
theorem h63_0(v0 v1:Value)(H:Hp)(n:Nat):aX P cal A (k+1) 63 [v0,v1] H n=C63_0 cal k v0 v1 H n:=(bq Go.Proofs.Tryz.f63 tZ fV (by kernel_rfl)).trans (Eq.trans (b:=B63_0 cal k (T63_2 cal k k) v0 v1 H n) (by kernel_rfl) (by rw[q63_2]; rfl))
end Go.Proofs.YtnnkcjolgbpklaaGreat.G
end
end
section
open Go Go.Ev
set_option maxRecDepth 1000000
noncomputable section
namespace Go.Proofs.YtnnkcjolgbpklaaGreat.G
variable (cal:Cal) (k:Nat)
noncomputable def yx:Code:=ak 64
noncomputable def jq:List ResultVar:=bw 64
noncomputable def Dj:KR:=(cutK (Lv.b (Lv.b (A 64))).c (bZ P cal (aZ P cal k) none 64 (cR (cR (cR yx))) (Lv.b (Lv.b (Lv.b (A 64)))) (ay P jq) X0 (ay P jq)))
noncomputable def qW:XR:=(upX 0 (Dj cal k) X0)
noncomputable def Lz(m1:Nat):KR:=(fun T H n D=>aZ P cal m1 (Lv.a (Lv.b (Lv.a (Lv.b (Lv.b (A 64)))))) none 64 (cL (cR (cL (cR (cR yx))))) (Dj cal k) (qW cal k) (ay P jq) (cutT (Lv.a (Lv.b (Lv.a (Lv.b (Lv.b (A 64)))))).c T) H n D)
noncomputable def T64_1(m1:Nat):=fun(u0 u5 u8 u9 u10:Value) (H:Hp) (n:Nat)=>labK (bZ P cal (aZ P cal m1) none 64 (cL (cL (cR (cL (cR (cR yx)))))) (Lv.a (Lv.a (Lv.b (Lv.a (Lv.b (Lv.b (A 64))))))) (Lz cal k m1) (qW cal k) (ay P jq)) (Tr.set (Tr.set (Tr.set (Tr.set (Tr.set Tr.nil 10 (some u10)) 9 (some u9)) 8 (some u8)) 5 (some u5)) 0 (some u0)) H n []
noncomputable def R64_1(m1:Nat):V5:=fun u0 u5 u8 u9 u10 H n=>aZ P cal m1 (Lv.a (Lv.b (Lv.a (Lv.b (Lv.b (A 64)))))) none 64 (cL (cR (cL (cR (cR yx))))) (Dj cal k) (qW cal k) (ay P jq) (Tr.set (Tr.set (Tr.set (Tr.set (Tr.set Tr.nil 10 (some u10)) 9 (some u9)) 8 (some u8)) 5 (some u5)) 0 (some u0)) H n []
noncomputable def B64_1(cal:Cal)(k m1:Nat)(b1:V5)(u0 u5 u8 u9 u10:Value)(H:Hp)(n:Nat):Res:=
binK P BinOp.lss 3 (Operand.tmp 10) (Operand.tmp 9) u10 u9 fun v_6=>
ifK v_6 (
bindO (aQ P 27 u8 u10) fun v_7=>
bindO (aY v_7) fun a_9=>bindO (aJ P H 3 a_9) fun v_8=>
bindO (nilV u0) fun v_d=>
bindO (ax P 109 v_d 0) fun v_e=>
bindO (ax P 41 v_e 2) fun v_f=>
bindO (aY v_f) fun a_h=>bindO (aJ P H 27 a_h) fun v_g=>
bindO (aQ P 27 v_g v_8) fun v_j=>
bindO (aY v_j) fun a_l=>bindO (aJ P H 3 a_l) fun v_k=>
binK P BinOp.add 3 (Operand.tmp 14) (Operand.tmp 22) u5 v_k fun v_m=>
binK P BinOp.add 3 (Operand.tmp 10) (Operand.const (Value.int IntKind.i64 1)) u10 (Value.int IntKind.i64 1) fun v_o=>
b1 u0 v_m u8 u9 v_o H n) (
some (u5,H,n))
noncomputable def WZ(m1:Nat):=B64_1 cal k m1
noncomputable def WK:Nat→V5:=recF (WZ cal k) (fun _ _ _ _ _ _ _=>none)
theorem h64_1(m1:Nat):T64_1 cal k m1=WZ cal k m1 (R64_1 cal k m1):=by kernel_rfl
theorem q64_1(m:Nat):T64_1 cal k m=WK cal k m:=recS (h64_1 cal k) (by kernel_rfl) (fun m=>by kernel_rfl) m
noncomputable def B64_0(cal:Cal)(k:Nat)(j1:V5)(v0 v1:Value)(H:Hp)(n:Nat):Res:=
bindO (lenV P 27 v1) fun v_4=>
j1 v0 (Value.int IntKind.i64 0) v1 v_4 (Value.int IntKind.i64 0) H n
noncomputable def C64_0:=B64_0 cal k (WK cal k k)
theorem h64_0(v0 v1:Value)(H:Hp)(n:Nat):aX P cal A (k+1) 64 [v0,v1] H n=C64_0 cal k v0 v1 H n:=(bq Go.Proofs.Tryz.f64 yx jq (by kernel_rfl)).trans (Eq.trans (b:=B64_0 cal k (T64_1 cal k k) v0 v1 H n) (by kernel_rfl) (by rw[q64_1]; rfl))
noncomputable def mW:Code:=ak 66
noncomputable def ev:List ResultVar:=bw 66
noncomputable def yy:KR:=(cutK (Lv.b (Lv.b (Lv.b (A 66)))).c (bZ P cal (aZ P cal k) none 66 (cR (cR (cR (cR mW)))) (Lv.b (Lv.b (Lv.b (Lv.b (A 66))))) (ay P ev) X0 (ay P ev)))
noncomputable def oq:XR:=(upX 0 (yy cal k) X0)
noncomputable def FY(m1:Nat):KR:=(fun T H n D=>aZ P cal m1 (Lv.a (Lv.b (Lv.a (Lv.b (Lv.b (Lv.b (A 66))))))) none 66 (cL (cR (cL (cR (cR (cR mW)))))) (yy cal k) (oq cal k) (ay P ev) (cutT (Lv.a (Lv.b (Lv.a (Lv.b (Lv.b (Lv.b (A 66))))))).c T) H n D)
noncomputable def uj:KR:=(cutK (Lv.b (Lv.b (Lv.b (Lv.b (A 66))))).c (bZ P cal (aZ P cal k) none 66 (cR (cR (cR (cR (cR mW))))) (Lv.b (Lv.b (Lv.b (Lv.b (Lv.b (A 66)))))) (ay P ev) X0 (ay P ev)))
noncomputable def mX:XR:=(upX 2 (uj cal k) X0)
noncomputable def Dq(m1:Nat):KR:=(fun T H n D=>aZ P cal m1 (Lv.a (Lv.b (Lv.a (Lv.b (Lv.b (Lv.b (Lv.b (A 66)))))))) none 66 (cL (cR (cL (cR (cR (cR (cR mW))))))) (uj cal k) (mX cal k) (ay P ev) (cutT (Lv.a (Lv.b (Lv.a (Lv.b (Lv.b (Lv.b (Lv.b (A 66)))))))).c T) H n D)
noncomputable def T66_2(m1:Nat):=fun(u5 u40 u41 u42:Value) (H:Hp) (n:Nat)=>labK (bZ P cal (aZ P cal m1) none 66 (cL (cL (cR (cL (cR (cR (cR (cR mW)))))))) (Lv.a (Lv.a (Lv.b (Lv.a (Lv.b (Lv.b (Lv.b (Lv.b (A 66))))))))) (Dq cal k m1) (mX cal k) (ay P ev)) (Tr.set (Tr.set (Tr.set (Tr.set Tr.nil 42 (some u42)) 41 (some u41)) 40 (some u40)) 5 (some u5)) H n []
noncomputable def R66_2(m1:Nat):V4:=fun u5 u40 u41 u42 H n=>aZ P cal m1 (Lv.a (Lv.b (Lv.a (Lv.b (Lv.b (Lv.b (Lv.b (A 66)))))))) none 66 (cL (cR (cL (cR (cR (cR (cR mW))))))) (uj cal k) (mX cal k) (ay P ev) (Tr.set (Tr.set (Tr.set (Tr.set Tr.nil 42 (some u42)) 41 (some u41)) 40 (some u40)) 5 (some u5)) H n []
noncomputable def T66_1(m1:Nat):=fun(u5 u22 u23:Value) (H:Hp) (n:Nat)=>labK (bZ P cal (aZ P cal m1) none 66 (cL (cL (cR (cL (cR (cR (cR mW))))))) (Lv.a (Lv.a (Lv.b (Lv.a (Lv.b (Lv.b (Lv.b (A 66)))))))) (FY cal k m1) (oq cal k) (ay P ev)) (Tr.set (Tr.set (Tr.set Tr.nil 23 (some u23)) 22 (some u22)) 5 (some u5)) H n []
noncomputable def R66_1(m1:Nat):V3:=fun u5 u22 u23 H n=>aZ P cal m1 (Lv.a (Lv.b (Lv.a (Lv.b (Lv.b (Lv.b (A 66))))))) none 66 (cL (cR (cL (cR (cR (cR mW)))))) (yy cal k) (oq cal k) (ay P ev) (Tr.set (Tr.set (Tr.set Tr.nil 23 (some u23)) 22 (some u22)) 5 (some u5)) H n []
noncomputable def B66_2(cal:Cal)(k m1:Nat)(b2:V4)(u5 u40 u41 u42:Value)(H:Hp)(n:Nat):Res:=
binK P BinOp.lss 3 (Operand.tmp 42) (Operand.tmp 41) u42 u41 fun v_1o=>
ifK v_1o (
bindO (aQ P 36 u40 u42) fun v_1p=>
bindO (aY v_1p) fun a_1r=>bindO (aJ P H 131 a_1r) fun v_1q=>
jK P 131 H n fun v_1s H_1t n_1u=>
bindO (dQ P 131 v_1s v_1q H_1t) fun H_1w=>
bindO (ax P 131 v_1s 0) fun v_1y=>
bindO (aY v_1y) fun a_1z=>bindO (aJ P H_1w 3 a_1z) fun v_20=>
bindO (nilV u5) fun v_21=>
bindO (ax P 109 v_21 1) fun v_22=>
bindO (aQ P 107 v_22 v_20) fun v_23=>
bindO (aY v_23) fun a_24=>bindO (aJ P H_1w 106 a_24) fun v_25=>
bindO (ax P 131 v_1s 1) fun v_26=>
bindO (aY v_26) fun a_27=>bindO (aJ P H_1w 3 a_27) fun v_28=>
bindO (zK P 27 1 [(0,v_28)]) fun q_2b=>newK q_2b.1 q_2b.2 H_1w n_1u fun H_29 n_2a=>
bindO (nilV u5) fun v_2c=>
bindO (ax P 109 v_2c 1) fun v_2d=>
effK P [(.l 106 a_24),(.l 3 a_1z)] H_29 n_2a (fun H_2e n_2f k_2g=>
aK P cal 83 [(.slice (some ⟨n_1u,0,none⟩) 1 1)] H_2e n_2f fun v_2k H_2l n_2m=>
k_2g v_2k H_2l n_2m) fun v_2h H_2i n_2j=>
binK P BinOp.or 106 (Operand.tmp 52) (Operand.tmp 56) v_25 v_2h fun v_2n=>
bindO (aQ P 107 v_2d v_20) fun v_2o=>
bindO (dQ P 106 v_2o v_2n H_2i) fun H_2q=>
bindO (ax P 131 v_1s 1) fun v_2s=>
bindO (aY v_2s) fun a_2t=>bindO (aJ P H_2q 3 a_2t) fun v_2u=>
bindO (nilV u5) fun v_2v=>
bindO (ax P 109 v_2v 1) fun v_2w=>
bindO (aQ P 107 v_2w v_2u) fun v_2x=>
bindO (aY v_2x) fun a_2y=>bindO (aJ P H_2q 106 a_2y) fun v_2z=>
bindO (ax P 131 v_1s 0) fun v_30=>
bindO (aY v_30) fun a_31=>bindO (aJ P H_2q 3 a_31) fun v_32=>
bindO (zK P 27 1 [(0,v_32)]) fun q_35=>newK q_35.1 q_35.2 H_2q n_2j fun H_33 n_34=>
bindO (nilV u5) fun v_36=>
bindO (ax P 109 v_36 1) fun v_37=>
effK P [(.l 106 a_2y),(.l 3 a_2t)] H_33 n_34 (fun H_38 n_39 k_3a=>
aK P cal 83 [(.slice (some ⟨n_2j,0,none⟩) 1 1)] H_38 n_39 fun v_3e H_3f n_3g=>
k_3a v_3e H_3f n_3g) fun v_3b H_3c n_3d=>
binK P BinOp.or 106 (Operand.tmp 67) (Operand.tmp 71) v_2z v_3b fun v_3h=>
bindO (aQ P 107 v_37 v_2u) fun v_3i=>
bindO (dQ P 106 v_3i v_3h H_3c) fun H_3k=>
binK P BinOp.add 3 (Operand.tmp 42) (Operand.const (Value.int IntKind.i64 1)) u42 (Value.int IntKind.i64 1) fun v_3l=>
b2 u5 u40 u41 v_3l H_3k n_3d) (
some ((Value.tuple ⟨[u5,(Value.int IntKind.i64 0)]⟩),H,n))
noncomputable def Xj(m1:Nat):=B66_2 cal k m1
noncomputable def Xq:Nat→V4:=recF (Xj cal k) (fun _ _ _ _ _ _=>none)
theorem h66_2(m1:Nat):T66_2 cal k m1=Xj cal k m1 (R66_2 cal k m1):=by kernel_rfl
theorem q66_2(m:Nat):T66_2 cal k m=Xq cal k m:=recS (h66_2 cal k) (by kernel_rfl) (fun m=>by kernel_rfl) m
noncomputable def B66_1(cal:Cal)(k m1:Nat)(j2:V4)(b1:V3)(u5 u22 u23:Value)(H:Hp)(n:Nat):Res:=
binK P BinOp.lss 3 (Operand.tmp 23) (Operand.tmp 22) u23 u22 fun v_w=>
ifK v_w (
bindO (zK P 27 1 [(0,u23)]) fun q_14=>newK q_14.1 q_14.2 H n fun H_12 n_13=>
bindO (nilV u5) fun v_15=>
bindO (ax P 109 v_15 1) fun v_16=>
aK P cal 83 [(.slice (some ⟨n,0,none⟩) 1 1)] H_12 n_13 fun v_17 H_18 n_19=>
bindO (aQ P 107 v_16 u23) fun v_1a=>
bindO (dQ P 106 v_1a v_17 H_18) fun H_1c=>
binK P BinOp.add 3 (Operand.tmp 23) (Operand.const (Value.int IntKind.i64 1)) u23 (Value.int IntKind.i64 1) fun v_1d=>
b1 u5 u22 v_1d H_1c n_19) (
bindO (nilV u5) fun v_1g=>
bindO (ax P 109 v_1g 0) fun v_1h=>
bindO (ax P 41 v_1h 0) fun v_1i=>
bindO (ax P 39 v_1i 1) fun v_1j=>
bindO (aY v_1j) fun a_1l=>bindO (aJ P H 36 a_1l) fun v_1k=>
bindO (lenV P 36 v_1k) fun v_1m=>
j2 u5 v_1k v_1m (Value.int IntKind.i64 0) H n)
noncomputable def Xv(m1:Nat):=B66_1 cal k m1 (Xq cal k k)
noncomputable def Xw:Nat→V3:=recF (Xv cal k) (fun _ _ _ _ _=>none)
theorem h66_1(m1:Nat):T66_1 cal k m1=Xv cal k m1 (R66_1 cal k m1):=Eq.trans (b:=B66_1 cal k m1 (T66_2 cal k k) (R66_1 cal k m1)) (by kernel_rfl) (by rw[q66_2]; rfl)
theorem q66_1(m:Nat):T66_1 cal k m=Xw cal k m:=recS (h66_1 cal k) (by kernel_rfl) (fun m=>by kernel_rfl) m
noncomputable def B66_0(cal:Cal)(k:Nat)(j1:V3)(v0:Value)(H:Hp)(n:Nat):Res:=
boxK 41 v0 H n fun v_1 H_2 n_3=>
bindO (aY v_1) fun a_7=>bindO (aJ P H_2 41 a_7) fun v_6=>
aK P cal 55 [v_6] H_2 n_3 fun v_8 H_9 n_a=>
binK P BinOp.neq 33 (Operand.tmp 11) (Operand.const (Value.int IntKind.i64 0)) v_8 (Value.int IntKind.i64 0) fun v_d=>
ifK v_d (
some ((Value.tuple ⟨[(Value.pointer none),v_8]⟩),H_9,n_a)) (
bindO (aY v_1) fun a_i=>bindO (aJ P H_9 41 a_i) fun v_h=>
bindO (nV P 109 [(0,v_h)]) fun v_j=>
boxK 109 v_j H_9 n_a fun v_k H_l n_m=>
bindO (nilV v_k) fun v_p=>
bindO (ax P 109 v_p 0) fun v_q=>
bindO (ax P 41 v_q 2) fun v_r=>
bindO (aY v_r) fun a_t=>bindO (aJ P H_l 27 a_t) fun v_s=>
bindO (lenV P 27 v_s) fun v_u=>
j1 v_k v_u (Value.int IntKind.i64 0) H_l n_m)
noncomputable def C66_0:=B66_0 cal k (Xw cal k k)
theorem h66_0(v0:Value)(H:Hp)(n:Nat):aX P cal A (k+1) 66 [v0] H n=C66_0 cal k v0 H n:=(bq Go.Proofs.Tryz.f66 mW ev (by kernel_rfl)).trans (Eq.trans (b:=B66_0 cal k (T66_1 cal k k) v0 H n) (by kernel_rfl) (by rw[q66_1]; rfl))
noncomputable def code67:Code:=ak 67
noncomputable def xQ:List ResultVar:=bw 67
noncomputable def K67_prr:KR:=(cutK (Lv.b (Lv.b (A 67))).c (bZ P cal (aZ P cal k) none 67 (cR (cR (cR code67))) (Lv.b (Lv.b (Lv.b (A 67)))) (ay P xQ) X0 (ay P xQ)))
noncomputable def Oy:XR:=(upX 0 (K67_prr cal k) X0)
noncomputable def K67_prrlrl(m1:Nat):KR:=(fun T H n D=>aZ P cal m1 (Lv.a (Lv.b (Lv.a (Lv.b (Lv.b (A 67)))))) none 67 (cL (cR (cL (cR (cR code67))))) (K67_prr cal k) (Oy cal k) (ay P xQ) (cutT (Lv.a (Lv.b (Lv.a (Lv.b (Lv.b (A 67)))))).c T) H n D)
noncomputable def T67_1(m1:Nat):=fun(u0 u3 u13 u14:Value) (H:Hp) (n:Nat)=>labK (bZ P cal (aZ P cal m1) none 67 (cL (cL (cR (cL (cR (cR code67)))))) (Lv.a (Lv.a (Lv.b (Lv.a (Lv.b (Lv.b (A 67))))))) (K67_prrlrl cal k m1) (Oy cal k) (ay P xQ)) (Tr.set (Tr.set (Tr.set (Tr.set Tr.nil 14 (some u14)) 13 (some u13)) 3 (some u3)) 0 (some u0)) H n []
noncomputable def R67_1(m1:Nat):V4:=fun u0 u3 u13 u14 H n=>aZ P cal m1 (Lv.a (Lv.b (Lv.a (Lv.b (Lv.b (A 67)))))) none 67 (cL (cR (cL (cR (cR code67))))) (K67_prr cal k) (Oy cal k) (ay P xQ) (Tr.set (Tr.set (Tr.set (Tr.set Tr.nil 14 (some u14)) 13 (some u13)) 3 (some u3)) 0 (some u0)) H n []
noncomputable def B67_1(cal:Cal)(k m1:Nat)(b1:V4)(u0 u3 u13 u14:Value)(H:Hp)(n:Nat):Res:=
binK P BinOp.lss 3 (Operand.tmp 14) (Operand.tmp 13) u14 u13 fun v_c=>
ifK v_c (
aK P cal 76 [u0,u14] H n fun v_h H_i n_j=>
bindO (tupV v_h 0) fun v_l=>
bindO (tupV v_h 1) fun v_m=>
ifK v_m (
some (u14,H_i,n_j)) (
binK P BinOp.add 3 (Operand.tmp 14) (Operand.const (Value.int IntKind.i64 1)) u14 (Value.int IntKind.i64 1) fun v_s=>
b1 u0 u3 u13 v_s H_i n_j)) (
some (u3,H,n))
noncomputable def C67_1(m1:Nat):=B67_1 cal k m1
noncomputable def S67_1:Nat→V4:=recF (C67_1 cal k) (fun _ _ _ _ _ _=>none)
theorem h67_1(m1:Nat):T67_1 cal k m1=C67_1 cal k m1 (R67_1 cal k m1):=by kernel_rfl
theorem q67_1(m:Nat):T67_1 cal k m=S67_1 cal k m:=recS (h67_1 cal k) (by kernel_rfl) (fun m=>by kernel_rfl) m
noncomputable def B67_0(cal:Cal)(k:Nat)(j1:V4)(v0:Value)(H:Hp)(n:Nat):Res:=
bindO (nilV v0) fun v_3=>
bindO (ax P 109 v_3 0) fun v_4=>
bindO (ax P 41 v_4 2) fun v_5=>
bindO (aY v_5) fun a_7=>bindO (aJ P H 27 a_7) fun v_6=>
bindO (lenV P 27 v_6) fun v_8=>
j1 v0 v_8 v_8 (Value.int IntKind.i64 0) H n
noncomputable def C67_0:=B67_0 cal k (S67_1 cal k k)
theorem h67_0(v0:Value)(H:Hp)(n:Nat):aX P cal A (k+1) 67 [v0] H n=C67_0 cal k v0 H n:=(bq Go.Proofs.Tryz.f67 code67 xQ (by kernel_rfl)).trans (Eq.trans (b:=B67_0 cal k (T67_1 cal k k) v0 H n) (by kernel_rfl) (by rw[q67_1]; rfl))
noncomputable def code71:Code:=ak 71
noncomputable def results71:List ResultVar:=bw 71
noncomputable def B71_0(cal:Cal)(k:Nat)(v0 v1 v2:Value)(H:Hp)(n:Nat):Res:=
boxK 97 v0 H n fun v_1 H_2 n_3=>
boxK 3 v2 H_2 n_3 fun v_4 H_5 n_6=>
jK P 98 H_5 n_6 fun v_9 H_a n_b=>
bindO (aY v_4) fun a_d=>bindO (aJ P H_a 3 a_d) fun v_c=>
binK P BinOp.mul 3 (Operand.tmp 12) (Operand.const (Value.int IntKind.i64 100)) v_c (Value.int IntKind.i64 100) fun v_e=>
binK P BinOp.add 3 (Operand.tmp 13) (Operand.const (Value.int IntKind.i64 1)) v_e (Value.int IntKind.i64 1) fun v_f=>
jK P 3 H_a n_b fun v_g H_h n_i=>
bindO (dQ P 3 v_g v_f H_h) fun H_k=>
bindO (aY v_1) fun a_m=>bindO (aJ P H_k 97 a_m) fun v_l=>
aK P cal 96 [v_l,v1] H_k n_i fun v_o H_p n_q=>
jK P 98 H_p n_q fun v_r H_s n_t=>
bindO (dQ P 98 v_r v_o H_s) fun H_v=>
jK P 155 H_v n_t fun v_w H_x n_y=>
bindO (dQ P 155 v_w (Value.func (Fn.func 97) ⟨[]⟩ ⟨[v_4,v_1,v_g,v_9,v_r,v_w]⟩) H_x) fun H_11=>
bindO (aY v_w) fun a_13=>bindO (aJ P H_11 155 a_13) fun v_12=>
iW P cal v_12 [(Value.slice none 0 0)] H_11 n_y fun v_14 H_15 n_16=>
bindO (aY v_9) fun a_17=>bindO (aJ P H_15 98 a_17) fun v_18=>
bindO (aY v_g) fun a_19=>bindO (aJ P H_15 3 a_19) fun v_1a=>
some ((Value.tuple ⟨[v_18,v_1a]⟩),H_15,n_16)
noncomputable def C71_0:=B71_0 cal k
theorem h71_0(v0 v1 v2:Value)(H:Hp)(n:Nat):aX P cal A (k+1) 71 [v0,v1,v2] H n=C71_0 cal k v0 v1 v2 H n:=(bq Go.Proofs.Tryz.f71 code71 results71 (by kernel_rfl)).trans (by kernel_rfl)
noncomputable def zy:Code:=ak 76
noncomputable def jy:List ResultVar:=bw 76
noncomputable def vW:KR:=(cutK (Lv.b (Lv.b (Lv.b (Lv.b (Lv.b (Lv.b (Lv.b (Lv.b (Lv.a (Lv.b (A 76))))))))))).c (bZ P cal (aZ P cal k) none 76 (cR (cR (cR (cR (cR (cR (cR (cR (cR (cL (cR zy))))))))))) (Lv.b (Lv.b (Lv.b (Lv.b (Lv.b (Lv.b (Lv.b (Lv.b (Lv.b (Lv.a (Lv.b (A 76)))))))))))) (ay P jy) X0 (ay P jy)))
noncomputable def jY:XR:=(upX 0 (vW cal k) X0)
noncomputable def K76_prlrrrrrrrrlrl(m1:Nat):KR:=(fun T H n D=>aZ P cal m1 (Lv.a (Lv.b (Lv.a (Lv.b (Lv.b (Lv.b (Lv.b (Lv.b (Lv.b (Lv.b (Lv.b (Lv.a (Lv.b (A 76)))))))))))))) none 76 (cL (cR (cL (cR (cR (cR (cR (cR (cR (cR (cR (cL (cR zy))))))))))))) (vW cal k) (jY cal k) (ay P jy) (cutT (Lv.a (Lv.b (Lv.a (Lv.b (Lv.b (Lv.b (Lv.b (Lv.b (Lv.b (Lv.b (Lv.b (Lv.a (Lv.b (A 76)))))))))))))).c T) H n D)
noncomputable def lj(m1:Nat):KR:=(cutK (Lv.b (Lv.a (Lv.a (Lv.b (Lv.a (Lv.b (Lv.b (Lv.b (Lv.b (Lv.b (Lv.b (Lv.b (Lv.b (Lv.a (Lv.b (A 76)))))))))))))))).c (bZ P cal (aZ P cal m1) none 76 (cR (cR (cL (cL (cR (cL (cR (cR (cR (cR (cR (cR (cR (cR (cL (cR zy)))))))))))))))) (Lv.b (Lv.b (Lv.a (Lv.a (Lv.b (Lv.a (Lv.b (Lv.b (Lv.b (Lv.b (Lv.b (Lv.b (Lv.b (Lv.b (Lv.a (Lv.b (A 76))))))))))))))))) (K76_prlrrrrrrrrlrl cal k m1) (jY cal k) (ay P jy)))
noncomputable def K76_pxrlrrrrrrrrlrllrl(m1:Nat):XR:=(upX 1 (lj cal k m1) (jY cal k))
noncomputable def gQ(m1:Nat):XR:=(upX 2 (lj cal k m1) (K76_pxrlrrrrrrrrlrllrl cal k m1))
noncomputable def K76_prlrrrrrrrrlrllrllrrl(m1:Nat)(m2:Nat):KR:=(fun T H n D=>aZ P cal m2 (Lv.a (Lv.b (Lv.b (Lv.a (Lv.a (Lv.b (Lv.a (Lv.a (Lv.b (Lv.a (Lv.b (Lv.b (Lv.b (Lv.b (Lv.b (Lv.b (Lv.b (Lv.b (Lv.a (Lv.b (A 76))))))))))))))))))))) none 76 (cL (cR (cR (cL (cL (cR (cL (cL (cR (cL (cR (cR (cR (cR (cR (cR (cR (cR (cL (cR zy)))))))))))))))))))) (lj cal k m1) (gQ cal k m1) (ay P jy) (cutT (Lv.a (Lv.b (Lv.b (Lv.a (Lv.a (Lv.b (Lv.a (Lv.a (Lv.b (Lv.a (Lv.b (Lv.b (Lv.b (Lv.b (Lv.b (Lv.b (Lv.b (Lv.b (Lv.a (Lv.b (A 76))))))))))))))))))))).c T) H n D)
noncomputable def T76_1:=fun(u10:Value) (H:Hp) (n:Nat)=>labK (bZ P cal (aZ P cal k) none 76 (cR (cR (cR (cR (cR (cR (cR (cR (cR (cL (cR zy))))))))))) (Lv.b (Lv.b (Lv.b (Lv.b (Lv.b (Lv.b (Lv.b (Lv.b (Lv.b (Lv.a (Lv.b (A 76)))))))))))) (ay P jy) X0 (ay P jy)) (Tr.set Tr.nil 10 (some u10)) H n []
noncomputable def T76_4(m1 m2:Nat):=fun(u0 u7 u8 u9 u10 u11 u12 u54 u55 u56:Value) (H:Hp) (n:Nat)=>labK (bZ P cal (aZ P cal m2) none 76 (cR (cR (cR (cL (cL (cR (cR (cL (cL (cR (cL (cL (cR (cL (cR (cR (cR (cR (cR (cR (cR (cR (cL (cR zy)))))))))))))))))))))))) (Lv.b (Lv.b (Lv.b (Lv.a (Lv.a (Lv.b (Lv.b (Lv.a (Lv.a (Lv.b (Lv.a (Lv.a (Lv.b (Lv.a (Lv.b (Lv.b (Lv.b (Lv.b (Lv.b (Lv.b (Lv.b (Lv.b (Lv.a (Lv.b (A 76))))))))))))))))))))))))) (K76_prlrrrrrrrrlrllrllrrl cal k m1 m2) (gQ cal k m1) (ay P jy)) (Tr.set (Tr.set (Tr.set (Tr.set (Tr.set (Tr.set (Tr.set (Tr.set (Tr.set (Tr.set Tr.nil 56 (some u56)) 55 (some u55)) 54 (some u54)) 12 (some u12)) 11 (some u11)) 10 (some u10)) 9 (some u9)) 8 (some u8)) 7 (some u7)) 0 (some u0)) H n []
noncomputable def T76_3(m1 m2:Nat):=fun(u0 u7 u8 u9 u10 u11 u12 u54 u55 u56:Value) (H:Hp) (n:Nat)=>labK (bZ P cal (aZ P cal m2) none 76 (cL (cL (cR (cR (cL (cL (cR (cL (cL (cR (cL (cR (cR (cR (cR (cR (cR (cR (cR (cL (cR zy))))))))))))))))))))) (Lv.a (Lv.a (Lv.b (Lv.b (Lv.a (Lv.a (Lv.b (Lv.a (Lv.a (Lv.b (Lv.a (Lv.b (Lv.b (Lv.b (Lv.b (Lv.b (Lv.b (Lv.b (Lv.b (Lv.a (Lv.b (A 76)))))))))))))))))))))) (K76_prlrrrrrrrrlrllrllrrl cal k m1 m2) (gQ cal k m1) (ay P jy)) (Tr.set (Tr.set (Tr.set (Tr.set (Tr.set (Tr.set (Tr.set (Tr.set (Tr.set (Tr.set Tr.nil 56 (some u56)) 55 (some u55)) 54 (some u54)) 12 (some u12)) 11 (some u11)) 10 (some u10)) 9 (some u9)) 8 (some u8)) 7 (some u7)) 0 (some u0)) H n []
noncomputable def R76_3(m1 m2:Nat):V10:=fun u0 u7 u8 u9 u10 u11 u12 u54 u55 u56 H n=>aZ P cal m2 (Lv.a (Lv.b (Lv.b (Lv.a (Lv.a (Lv.b (Lv.a (Lv.a (Lv.b (Lv.a (Lv.b (Lv.b (Lv.b (Lv.b (Lv.b (Lv.b (Lv.b (Lv.b (Lv.a (Lv.b (A 76))))))))))))))))))))) none 76 (cL (cR (cR (cL (cL (cR (cL (cL (cR (cL (cR (cR (cR (cR (cR (cR (cR (cR (cL (cR zy)))))))))))))))))))) (lj cal k m1) (gQ cal k m1) (ay P jy) (Tr.set (Tr.set (Tr.set (Tr.set (Tr.set (Tr.set (Tr.set (Tr.set (Tr.set (Tr.set Tr.nil 56 (some u56)) 55 (some u55)) 54 (some u54)) 12 (some u12)) 11 (some u11)) 10 (some u10)) 9 (some u9)) 8 (some u8)) 7 (some u7)) 0 (some u0)) H n []
noncomputable def T76_2(m1:Nat):=fun(u0 u7 u8 u9 u10 u11:Value) (H:Hp) (n:Nat)=>labK (bZ P cal (aZ P cal m1) none 76 (cL (cL (cR (cL (cR (cR (cR (cR (cR (cR (cR (cR (cL (cR zy)))))))))))))) (Lv.a (Lv.a (Lv.b (Lv.a (Lv.b (Lv.b (Lv.b (Lv.b (Lv.b (Lv.b (Lv.b (Lv.b (Lv.a (Lv.b (A 76))))))))))))))) (K76_prlrrrrrrrrlrl cal k m1) (jY cal k) (ay P jy)) (Tr.set (Tr.set (Tr.set (Tr.set (Tr.set (Tr.set Tr.nil 11 (some u11)) 10 (some u10)) 9 (some u9)) 8 (some u8)) 7 (some u7)) 0 (some u0)) H n []
noncomputable def R76_2(m1:Nat):V6:=fun u0 u7 u8 u9 u10 u11 H n=>aZ P cal m1 (Lv.a (Lv.b (Lv.a (Lv.b (Lv.b (Lv.b (Lv.b (Lv.b (Lv.b (Lv.b (Lv.b (Lv.a (Lv.b (A 76)))))))))))))) none 76 (cL (cR (cL (cR (cR (cR (cR (cR (cR (cR (cR (cL (cR zy))))))))))))) (vW cal k) (jY cal k) (ay P jy) (Tr.set (Tr.set (Tr.set (Tr.set (Tr.set (Tr.set Tr.nil 11 (some u11)) 10 (some u10)) 9 (some u9)) 8 (some u8)) 7 (some u7)) 0 (some u0)) H n []
noncomputable def B76_1(cal:Cal)(k:Nat)(u10:Value)(H:Hp)(n:Nat):Res:=
binK P BinOp.eql 157 (Operand.tmp 88) (Operand.const (Value.pointer none)) u10 (Value.pointer none) fun v_1d=>
ifK v_1d (
some ((Value.tuple ⟨[(Value.slice none 0 0),(Value.bool false)]⟩),H,n)) (
aK P cal 101 [u10] H n fun v_1h H_1i n_1j=>
some ((Value.tuple ⟨[v_1h,(Value.bool true)]⟩),H_1i,n_1j))
noncomputable def C76_1:=B76_1 cal k
theorem h76_1:T76_1 cal k=C76_1 cal k:=by kernel_rfl
noncomputable def B76_4(cal:Cal)(k m1 m2:Nat)(b2:V6)(b3:V10)(u0 u7 u8 u9 u10 u11 u12 u54 u55 u56:Value)(H:Hp)(n:Nat):Res:=
binK P BinOp.add 3 (Operand.tmp 56) (Operand.const (Value.int IntKind.i64 1)) u56 (Value.int IntKind.i64 1) fun v_29=>
b3 u0 u7 u8 u9 u10 u11 u12 u54 u55 v_29 H n
noncomputable def C76_4(m1 m2:Nat):=B76_4 cal k m1 m2
theorem h76_4(m1 m2:Nat):T76_4 cal k m1 m2=C76_4 cal k m1 m2 (R76_2 cal k m1) (R76_3 cal k m1 m2):=by kernel_rfl
noncomputable def B76_3(cal:Cal)(k m1 m2:Nat)(j4:V10)(j1:V1)(b2:V6)(b3:V10)(u0 u7 u8 u9 u10 u11 u12 u54 u55 u56:Value)(H:Hp)(n:Nat):Res:=
binK P BinOp.lss 3 (Operand.tmp 56) (Operand.tmp 55) u56 u55 fun v_28=>
ifK v_28 (
bindO (aQ P 98 u54 u56) fun v_2b=>
bindO (aY v_2b) fun a_2d=>bindO (aJ P H 106 a_2d) fun v_2c=>
aK P cal 86 [u12,v_2c] H n fun v_2h H_2i n_2j=>
bindO (aQ P 161 u9 v_2h) fun v_2m=>
bindO (aY v_2m) fun a_2o=>bindO (aJ P H_2i 4 a_2o) fun v_2n=>
ifK v_2n (
j4 u0 u7 u8 u9 u10 u11 u12 u54 u55 u56 H_2i n_2j) (
bindO (aQ P 161 u9 v_2h) fun v_2q=>
bindO (dQ P 4 v_2q (Value.bool true) H_2i) fun H_2s=>
bindO (aQ P 160 u8 u11) fun v_2w=>
bindO (aY v_2w) fun a_2y=>bindO (aJ P H_2s 157 a_2y) fun v_2x=>
bindO (nV P 159 [(0,v_2x),(1,v_2c),(2,v_2h)]) fun v_31=>
boxK 159 v_31 H_2s n_2j fun v_32 H_33 n_34=>
rowK P 160 1 [(0,v_32)] H_33 n_34 fun v_35 H_36 n_37=>
stK (eJ P (bare H_36 n_37) 160 160 u8 v_35) fun v_38 H_39 n_3a=>
binK P BinOp.eql 106 (Operand.tmp 79) (Operand.const (Value.int IntKind.u64 0)) v_2h (Value.int IntKind.u64 0) fun v_3d=>
ifK v_3d (
bindO (lenV P 160 v_38) fun v_3g=>
binK P BinOp.sub 3 (Operand.tmp 83) (Operand.const (Value.int IntKind.i64 1)) v_3g (Value.int IntKind.i64 1) fun v_3h=>
bindO (aQ P 160 v_38 v_3h) fun v_3i=>
bindO (aY v_3i) fun a_3k=>bindO (aJ P H_39 157 a_3k) fun v_3j=>
j1 v_3j H_39 n_3a) (
j4 u0 u7 v_38 u9 u10 u11 u12 u54 u55 u56 H_39 n_3a))) (
binK P BinOp.add 3 (Operand.tmp 43) (Operand.const (Value.int IntKind.i64 1)) u11 (Value.int IntKind.i64 1) fun v_3n=>
b2 u0 u7 u8 u9 u10 v_3n H n)
noncomputable def C76_3(m1 m2:Nat)(b2:V6)(b3:V10):=B76_3 cal k m1 m2 (C76_4 cal k m1 m2 b2 b3) (C76_1 cal k) b2 b3
noncomputable def S76_3(m1:Nat)(b2:V6):Nat→V10:=fun m=>Nat.rec (motive:=fun _=>V10) (C76_3 cal k m1 0 b2 (fun _ _ _ _ _ _ _ _ _ _ _ _=>none)) (fun m ih=>C76_3 cal k m1 (m+1) b2 ih) m
theorem h76_3(m1 m2:Nat):T76_3 cal k m1 m2=C76_3 cal k m1 m2 (R76_2 cal k m1) (R76_3 cal k m1 m2):=Eq.trans (b:=B76_3 cal k m1 m2 (T76_4 cal k m1 m2) (T76_1 cal k) (R76_2 cal k m1) (R76_3 cal k m1 m2)) (by kernel_rfl) (by rw[h76_4,h76_1]; rfl)
theorem q76_3(m1:Nat)(m:Nat):T76_3 cal k m1 m=S76_3 cal k m1 (R76_2 cal k m1) m:=recS (h76_3 cal k m1) (by kernel_rfl) (fun m=>by kernel_rfl) m
noncomputable def B76_2(cal:Cal)(k m1:Nat)(j3:V10)(j1:V1)(b2:V6)(u0 u7 u8 u9 u10 u11:Value)(H:Hp)(n:Nat):Res:=
bindO (lenV P 160 u8) fun v_1p=>
binK P BinOp.lss 3 (Operand.tmp 39) (Operand.tmp 41) u11 v_1p fun v_1q=>
ifK v_1q (
bindO (aQ P 160 u8 u11) fun v_1u=>
bindO (aY v_1u) fun a_1w=>bindO (aJ P H 157 a_1w) fun v_1v=>
bindO (nilV v_1v) fun v_1x=>
bindO (ax P 159 v_1x 2) fun v_1y=>
bindO (aY v_1y) fun a_20=>bindO (aJ P H 106 a_20) fun v_1z=>
aK P cal 85 [u0,v_1z] H n fun v_21 H_22 n_23=>
bindO (lenV P 98 u7) fun v_26=>
j3 u0 u7 u8 u9 u10 u11 v_21 u7 v_26 (Value.int IntKind.i64 0) H_22 n_23) (
j1 u10 H n)
noncomputable def C76_2(m1:Nat)(b2:V6):=B76_2 cal k m1 (S76_3 cal k m1 b2 m1) (C76_1 cal k) b2
noncomputable def S76_2:Nat→V6:=recF (C76_2 cal k) (fun _ _ _ _ _ _ _ _=>none)
theorem h76_2(m1:Nat):T76_2 cal k m1=C76_2 cal k m1 (R76_2 cal k m1):=Eq.trans (b:=B76_2 cal k m1 (T76_3 cal k m1 m1) (T76_1 cal k) (R76_2 cal k m1)) (by kernel_rfl) (by rw[q76_3,h76_1]; rfl)
theorem q76_2(m:Nat):T76_2 cal k m=S76_2 cal k m:=recS (h76_2 cal k) (by kernel_rfl) (fun m=>by kernel_rfl) m
noncomputable def B76_0(cal:Cal)(k:Nat)(j2:V6)(v0 v1:Value)(H:Hp)(n:Nat):Res:=
bindO (nilV v0) fun v_4=>
bindO (ax P 109 v_4 0) fun v_5=>
bindO (ax P 41 v_5 1) fun v_6=>
bindO (aY v_6) fun a_8=>bindO (aJ P H 27 a_8) fun v_7=>
aK P cal 83 [v_7] H n fun v_9 H_a n_b=>
bindO (nV P 159 [(2,v_9)]) fun v_c=>
boxK 159 v_c H_a n_b fun v_d H_e n_f=>
bindO (nilV v_d) fun v_i=>
bindO (ax P 159 v_i 2) fun v_j=>
bindO (aY v_j) fun a_l=>bindO (aJ P H_e 106 a_l) fun v_k=>
binK P BinOp.eql 106 (Operand.tmp 27) (Operand.const (Value.int IntKind.u64 0)) v_k (Value.int IntKind.u64 0) fun v_m=>
ifK v_m (
some ((Value.tuple ⟨[(Value.slice none 0 0),(Value.bool true)]⟩),H_e,n_f)) (
aK P cal 96 [v0,v1] H_e n_f fun v_r H_s n_t=>
rowK P 160 1 [(0,v_d)] H_s n_t fun v_w H_x n_y=>
jK P 161 H_x n_y fun v_10 H_11 n_12=>
bindO (nilV v_d) fun v_14=>
bindO (ax P 159 v_14 2) fun v_15=>
bindO (aY v_15) fun a_17=>bindO (aJ P H_11 106 a_17) fun v_16=>
bindO (aQ P 161 v_10 v_16) fun v_18=>
bindO (dQ P 4 v_18 (Value.bool true) H_11) fun H_1a=>
j2 v0 v_r v_w v_10 (Value.pointer none) (Value.int IntKind.i64 0) H_1a n_12)
noncomputable def C76_0:=B76_0 cal k (S76_2 cal k k)
theorem h76_0(v0 v1:Value)(H:Hp)(n:Nat):aX P cal A (k+1) 76 [v0,v1] H n=C76_0 cal k v0 v1 H n:=(bq Go.Proofs.Tryz.f76 zy jy (by kernel_rfl)).trans (Eq.trans (b:=B76_0 cal k (T76_2 cal k k) v0 v1 H n) (by kernel_rfl) (by rw[q76_2]; rfl))
noncomputable def code77:Code:=ak 77
noncomputable def RJ:List ResultVar:=bw 77
noncomputable def B77_0(cal:Cal)(k:Nat)(v0:Value)(H:Hp)(n:Nat):Res:=
boxK 39 v0 H n fun v_1 H_2 n_3=>
bindO (aY v_1) fun a_6=>bindO (aJ P H_2 39 a_6) fun v_5=>
aK P cal 102 [v_5] H_2 n_3 fun v_7 H_8 n_9=>
some (v_7,H_8,n_9)
noncomputable def C77_0:=B77_0 cal k
theorem h77_0(v0:Value)(H:Hp)(n:Nat):aX P cal A (k+1) 77 [v0] H n=C77_0 cal k v0 H n:=(bq Go.Proofs.Tryz.f77 code77 RJ (by kernel_rfl)).trans (by kernel_rfl)
noncomputable def code78:Code:=ak 78
noncomputable def RQ:List ResultVar:=bw 78
noncomputable def B78_0(cal:Cal)(k:Nat)(v0 v1:Value)(H:Hp)(n:Nat):Res:=
boxK 41 v0 H n fun v_1 H_2 n_3=>
bindO (aY v_1) fun a_7=>bindO (aJ P H_2 41 a_7) fun v_6=>
aK P cal 79 [v1,(Value.func (Fn.func 93) ⟨[v_6]⟩ ⟨[]⟩)] H_2 n_3 fun v_9 H_a n_b=>
bx v_9 true (fun k_d=>
k_d v1 H_a n_b) H_a n_b fun v_e H_f n_g=>
bx v_9 true (fun k_i=>
aK P cal 103 [v_e] H_f n_g fun v_m H_n n_o=>
k_i v_m H_n n_o) H_f n_g fun v_j H_k n_l=>
bindO (fX v_9 v_j (Value.bool false)) fun v_p=>
some (v_p,H_k,n_l)
noncomputable def C78_0:=B78_0 cal k
theorem h78_0(v0 v1:Value)(H:Hp)(n:Nat):aX P cal A (k+1) 78 [v0,v1] H n=C78_0 cal k v0 v1 H n:=(bq Go.Proofs.Tryz.f78 code78 RQ (by kernel_rfl)).trans (by kernel_rfl)
noncomputable def yz:Code:=ak 79
noncomputable def jv:List ResultVar:=bw 79
noncomputable def LQ:KR:=(cutK (Lv.b (A 79)).c (bZ P cal (aZ P cal k) none 79 (cR (cR yz)) (Lv.b (Lv.b (A 79))) (ay P jv) X0 (ay P jv)))
noncomputable def uq:XR:=(upX 0 (LQ cal k) X0)
noncomputable def RV(m1:Nat):KR:=(fun T H n D=>aZ P cal m1 (Lv.a (Lv.b (Lv.a (Lv.b (A 79))))) none 79 (cL (cR (cL (cR yz)))) (LQ cal k) (uq cal k) (ay P jv) (cutT (Lv.a (Lv.b (Lv.a (Lv.b (A 79))))).c T) H n D)
noncomputable def T79_1(m1:Nat):=fun(u1 u7 u8 u9:Value) (H:Hp) (n:Nat)=>labK (bZ P cal (aZ P cal m1) none 79 (cL (cL (cR (cL (cR yz))))) (Lv.a (Lv.a (Lv.b (Lv.a (Lv.b (A 79)))))) (RV cal k m1) (uq cal k) (ay P jv)) (Tr.set (Tr.set (Tr.set (Tr.set Tr.nil 9 (some u9)) 8 (some u8)) 7 (some u7)) 1 (some u1)) H n []
noncomputable def R79_1(m1:Nat):V4:=fun u1 u7 u8 u9 H n=>aZ P cal m1 (Lv.a (Lv.b (Lv.a (Lv.b (A 79))))) none 79 (cL (cR (cL (cR yz)))) (LQ cal k) (uq cal k) (ay P jv) (Tr.set (Tr.set (Tr.set (Tr.set Tr.nil 9 (some u9)) 8 (some u8)) 7 (some u7)) 1 (some u1)) H n []
noncomputable def B79_1(cal:Cal)(k m1:Nat)(b1:V4)(u1 u7 u8 u9:Value)(H:Hp)(n:Nat):Res:=
binK P BinOp.lss 3 (Operand.tmp 9) (Operand.tmp 8) u9 u8 fun v_5=>
ifK v_5 (
bindO (aQ P 27 u7 u9) fun v_6=>
bindO (aY v_6) fun a_8=>bindO (aJ P H 3 a_8) fun v_7=>
iW P cal u1 [v_7] H n fun v_c H_d n_e=>
bindO (dX P v_c (Op.unary UnOp.not v_c)) fun v_f=>
ifK v_f (
some ((Value.bool false),H_d,n_e)) (
binK P BinOp.add 3 (Operand.tmp 9) (Operand.const (Value.int IntKind.i64 1)) u9 (Value.int IntKind.i64 1) fun v_h=>
b1 u1 u7 u8 v_h H_d n_e)) (
some ((Value.bool true),H,n))
noncomputable def Xx(m1:Nat):=B79_1 cal k m1
noncomputable def Xy:Nat→V4:=recF (Xx cal k) (fun _ _ _ _ _ _=>none)
theorem h79_1(m1:Nat):T79_1 cal k m1=Xx cal k m1 (R79_1 cal k m1):=by kernel_rfl
theorem q79_1(m:Nat):T79_1 cal k m=Xy cal k m:=recS (h79_1 cal k) (by kernel_rfl) (fun m=>by kernel_rfl) m
noncomputable def B79_0(cal:Cal)(k:Nat)(j1:V4)(v0 v1:Value)(H:Hp)(n:Nat):Res:=
bindO (lenV P 27 v0) fun v_3=>
j1 v1 v0 v_3 (Value.int IntKind.i64 0) H n
noncomputable def C79_0:=B79_0 cal k (Xy cal k k)
theorem h79_0(v0 v1:Value)(H:Hp)(n:Nat):aX P cal A (k+1) 79 [v0,v1] H n=C79_0 cal k v0 v1 H n:=(bq Go.Proofs.Tryz.f79 yz jv (by kernel_rfl)).trans (Eq.trans (b:=B79_0 cal k (T79_1 cal k k) v0 v1 H n) (by kernel_rfl) (by rw[q79_1]; rfl))
noncomputable def code80:Code:=ak 80
noncomputable def RW:List ResultVar:=bw 80
noncomputable def B80_0(cal:Cal)(k:Nat)(v0:Value)(H:Hp)(n:Nat):Res:=
binK P BinOp.geq 3 (Operand.tmp 3) (Operand.const (Value.int IntKind.i64 0)) v0 (Value.int IntKind.i64 0) fun v_3=>
bx v_3 true (fun k_5=>
k_5 v0 H n) H n fun v_6 H_7 n_8=>
bx v_3 true (fun k_a=>
binK P BinOp.leq 3 (Operand.tmp 6) (Operand.const (Value.int IntKind.i64 100)) v_6 (Value.int IntKind.i64 100) fun v_e=>
k_a v_e H_7 n_8) H_7 n_8 fun v_b H_c n_d=>
bindO (fX v_3 v_b (Value.bool false)) fun v_f=>
some (v_f,H_c,n_d)
noncomputable def C80_0:=B80_0 cal k
theorem h80_0(v0:Value)(H:Hp)(n:Nat):aX P cal A (k+1) 80 [v0] H n=C80_0 cal k v0 H n:=(bq Go.Proofs.Tryz.f80 code80 RW (by kernel_rfl)).trans (by kernel_rfl)
noncomputable def yJ:Code:=ak 82
noncomputable def jw:List ResultVar:=bw 82
noncomputable def LV:KR:=(cutK (Lv.b (A 82)).c (bZ P cal (aZ P cal k) none 82 (cR (cR yJ)) (Lv.b (Lv.b (A 82))) (ay P jw) X0 (ay P jw)))
noncomputable def uv:XR:=(upX 0 (LV cal k) X0)
noncomputable def RX(m1:Nat):KR:=(fun T H n D=>aZ P cal m1 (Lv.a (Lv.b (Lv.a (Lv.b (A 82))))) none 82 (cL (cR (cL (cR yJ)))) (LV cal k) (uv cal k) (ay P jw) (cutT (Lv.a (Lv.b (Lv.a (Lv.b (A 82))))).c T) H n D)
noncomputable def T82_1(m1:Nat):=fun(u1 u7 u8 u9:Value) (H:Hp) (n:Nat)=>labK (bZ P cal (aZ P cal m1) none 82 (cL (cL (cR (cL (cR yJ))))) (Lv.a (Lv.a (Lv.b (Lv.a (Lv.b (A 82)))))) (RX cal k m1) (uv cal k) (ay P jw)) (Tr.set (Tr.set (Tr.set (Tr.set Tr.nil 9 (some u9)) 8 (some u8)) 7 (some u7)) 1 (some u1)) H n []
noncomputable def R82_1(m1:Nat):V4:=fun u1 u7 u8 u9 H n=>aZ P cal m1 (Lv.a (Lv.b (Lv.a (Lv.b (A 82))))) none 82 (cL (cR (cL (cR yJ)))) (LV cal k) (uv cal k) (ay P jw) (Tr.set (Tr.set (Tr.set (Tr.set Tr.nil 9 (some u9)) 8 (some u8)) 7 (some u7)) 1 (some u1)) H n []
noncomputable def B82_1(cal:Cal)(k m1:Nat)(b1:V4)(u1 u7 u8 u9:Value)(H:Hp)(n:Nat):Res:=
binK P BinOp.lss 3 (Operand.tmp 9) (Operand.tmp 8) u9 u8 fun v_5=>
ifK v_5 (
bindO (aQ P 30 u7 u9) fun v_6=>
bindO (aY v_6) fun a_8=>bindO (aJ P H 27 a_8) fun v_7=>
iW P cal u1 [v_7] H n fun v_c H_d n_e=>
bindO (dX P v_c (Op.unary UnOp.not v_c)) fun v_f=>
ifK v_f (
some ((Value.bool false),H_d,n_e)) (
binK P BinOp.add 3 (Operand.tmp 9) (Operand.const (Value.int IntKind.i64 1)) u9 (Value.int IntKind.i64 1) fun v_h=>
b1 u1 u7 u8 v_h H_d n_e)) (
some ((Value.bool true),H,n))
noncomputable def Xz(m1:Nat):=B82_1 cal k m1
noncomputable def Xk:Nat→V4:=recF (Xz cal k) (fun _ _ _ _ _ _=>none)
theorem h82_1(m1:Nat):T82_1 cal k m1=Xz cal k m1 (R82_1 cal k m1):=by kernel_rfl
theorem q82_1(m:Nat):T82_1 cal k m=Xk cal k m:=recS (h82_1 cal k) (by kernel_rfl) (fun m=>by kernel_rfl) m
noncomputable def B82_0(cal:Cal)(k:Nat)(j1:V4)(v0 v1:Value)(H:Hp)(n:Nat):Res:=
bindO (lenV P 30 v0) fun v_3=>
j1 v1 v0 v_3 (Value.int IntKind.i64 0) H n
noncomputable def C82_0:=B82_0 cal k (Xk cal k k)
theorem h82_0(v0 v1:Value)(H:Hp)(n:Nat):aX P cal A (k+1) 82 [v0,v1] H n=C82_0 cal k v0 v1 H n:=(bq Go.Proofs.Tryz.f82 yJ jw (by kernel_rfl)).trans (Eq.trans (b:=B82_0 cal k (T82_1 cal k k) v0 v1 H n) (by kernel_rfl) (by rw[q82_1]; rfl))
noncomputable def yQ:Code:=ak 83
noncomputable def jx:List ResultVar:=bw 83
noncomputable def Dv:KR:=(cutK (Lv.b (Lv.b (A 83))).c (bZ P cal (aZ P cal k) none 83 (cR (cR (cR yQ))) (Lv.b (Lv.b (Lv.b (A 83)))) (ay P jx) X0 (ay P jx)))
noncomputable def qX:XR:=(upX 0 (Dv cal k) X0)
noncomputable def LW(m1:Nat):KR:=(fun T H n D=>aZ P cal m1 (Lv.a (Lv.b (Lv.a (Lv.b (Lv.b (A 83)))))) none 83 (cL (cR (cL (cR (cR yQ))))) (Dv cal k) (qX cal k) (ay P jx) (cutT (Lv.a (Lv.b (Lv.a (Lv.b (Lv.b (A 83)))))).c T) H n D)
noncomputable def T83_1(m1:Nat):=fun(u3 u6 u7 u8:Value) (H:Hp) (n:Nat)=>labK (bZ P cal (aZ P cal m1) none 83 (cL (cL (cR (cL (cR (cR yQ)))))) (Lv.a (Lv.a (Lv.b (Lv.a (Lv.b (Lv.b (A 83))))))) (LW cal k m1) (qX cal k) (ay P jx)) (Tr.set (Tr.set (Tr.set (Tr.set Tr.nil 8 (some u8)) 7 (some u7)) 6 (some u6)) 3 (some u3)) H n []
noncomputable def R83_1(m1:Nat):V4:=fun u3 u6 u7 u8 H n=>aZ P cal m1 (Lv.a (Lv.b (Lv.a (Lv.b (Lv.b (A 83)))))) none 83 (cL (cR (cL (cR (cR yQ))))) (Dv cal k) (qX cal k) (ay P jx) (Tr.set (Tr.set (Tr.set (Tr.set Tr.nil 8 (some u8)) 7 (some u7)) 6 (some u6)) 3 (some u3)) H n []
noncomputable def B83_1(cal:Cal)(k m1:Nat)(b1:V4)(u3 u6 u7 u8:Value)(H:Hp)(n:Nat):Res:=
binK P BinOp.lss 3 (Operand.tmp 8) (Operand.tmp 7) u8 u7 fun v_6=>
ifK v_6 (
bindO (aQ P 27 u6 u8) fun v_7=>
bindO (aY v_7) fun a_9=>bindO (aJ P H 3 a_9) fun v_8=>
binK P BinOp.shl 106 (Operand.const (Value.int IntKind.u64 1)) (Operand.tmp 13) (Value.int IntKind.u64 1) v_8 fun v_d=>
binK P BinOp.or 106 (Operand.tmp 12) (Operand.tmp 14) u3 v_d fun v_e=>
binK P BinOp.add 3 (Operand.tmp 8) (Operand.const (Value.int IntKind.i64 1)) u8 (Value.int IntKind.i64 1) fun v_g=>
b1 v_e u6 u7 v_g H n) (
some (u3,H,n))
noncomputable def XJ(m1:Nat):=B83_1 cal k m1
noncomputable def XQ:Nat→V4:=recF (XJ cal k) (fun _ _ _ _ _ _=>none)
theorem h83_1(m1:Nat):T83_1 cal k m1=XJ cal k m1 (R83_1 cal k m1):=by kernel_rfl
theorem q83_1(m:Nat):T83_1 cal k m=XQ cal k m:=recS (h83_1 cal k) (by kernel_rfl) (fun m=>by kernel_rfl) m
noncomputable def B83_0(cal:Cal)(k:Nat)(j1:V4)(v0:Value)(H:Hp)(n:Nat):Res:=
bindO (lenV P 27 v0) fun v_4=>
j1 (Value.int IntKind.u64 0) v0 v_4 (Value.int IntKind.i64 0) H n
noncomputable def C83_0:=B83_0 cal k (XQ cal k k)
theorem h83_0(v0:Value)(H:Hp)(n:Nat):aX P cal A (k+1) 83 [v0] H n=C83_0 cal k v0 H n:=(bq Go.Proofs.Tryz.f83 yQ jx (by kernel_rfl)).trans (Eq.trans (b:=B83_0 cal k (T83_1 cal k k) v0 H n) (by kernel_rfl) (by rw[q83_1]; rfl))
end Go.Proofs.YtnnkcjolgbpklaaGreat.G
end
end
