import Derived.Test.YtcjnaeimeilomaaGreatC2
set_option linter.unusedVariables false
section
namespace Go.Ev
open Go
variable {P:Program} {w₀:World} {W:Sets} {φ:Phi} {st st':St} {w:World} {H:Hp} {n:Nat} {rec:Rec}
 {f:FuncId} {t:Array Value} {k:List Item} {ds:List Deferred} {kd:CallKind} {ro:Option Nat} {cs:List Frame} {N:Nat}
theorem mV{o:Option Value}{v:Value}{s st:St}:keep o st=some (v,s)↔o=some v∧s=st:=by
 constructor
 ·exact Aj
 ·rintro⟨rfl,rfl⟩; rfl
theorem kind_p{op:Op}{ty:TypeId}(hk:dj op=.p){T:Tm}{v:Value}{H:Hp}{n:Nat}{D:List Nat}{s:St}(e:aOp P op ty ⟨T,H,n,D⟩=some (v,s)) :
  ∀ H' n' D',aOp P op ty ⟨T,H',n',D'⟩=some (v,⟨T,H',n',D'⟩):=by
 intro H' n' D'
 cases op with
 | move x=>simp only[aOp,mV] at e ⊢; exact⟨e.1,trivial⟩
 | assign x=>simp only[aOp,mV] at e ⊢; exact⟨e.1,trivial⟩
 | pick c a b=>simp only[aOp,oPick] at e ⊢; split at e <;> simp_all [mV]
 | build t ps=>simp only[aOp,mV] at e ⊢; exact⟨e.1,trivial⟩
 | nilCheck x=>simp only[aOp,zX] at e ⊢; split at e <;> simp_all
 | binOp op t x y t2=>simp only[aOp,oBin] at e ⊢; split at e <;> simp_all [mV]
 | unOp op t x=>simp only[aOp,oUn,yY] at e ⊢; (repeat' (split at e)) <;> simp_all
 | convert s d x=>simp only[aOp,Ew,yY] at e ⊢; (repeat' (split at e)) <;> simp_all
 | makeFunc fn x y=>
  simp only[aOp,zY] at e ⊢
  cases fn <;> simp only at e ⊢ <;> first | (split at e <;> simp_all) | cases e
 | slice t x lo hi mx=>cases mx with
  | none=>simp only[aOp,Zx] at e ⊢; split at e <;> simp_all [mV]
  | some m=>simp [aOp] at e
 | fieldAddr t x f=>simp only[aOp,wX] at e ⊢; split at e <;> simp_all [mV]
 | field t x f=>simp only[aOp,Zy] at e ⊢; split at e <;> simp_all [mV]
 | indexAddr t x i=>simp only[aOp,wY] at e ⊢; split at e <;> simp_all [mV]
 | index t x i=>simp only[aOp,Zz] at e ⊢; split at e <;> simp_all [mV]
 | extract x i=>simp only[aOp,Ez] at e ⊢; split at e <;> simp_all [mV]
 | call c=>
  obtain⟨cal,args,tys⟩:=c
  cases cal with
  | builtin b=>
   cases b with
   | len=>simp only[aOp,Vk,oK,oLen] at e ⊢; (repeat' (split at e)) <;> simp_all [mV]
   | min=>simp only[aOp,Vk,oK,HZ] at e ⊢; (repeat' (split at e)) <;> simp_all
   | max=>simp only[aOp,Vk,oK,HZ] at e ⊢; (repeat' (split at e)) <;> simp_all
   | _=>simp [dj] at hk
  | _=>simp [dj] at hk
 | makeMap t r=>cases r <;> simp [dj] at hk
 | _=>simp [dj] at hk
theorem kind_a{o:Oper}(hk:dj o.op=.a)(hm:∀ t,o.op≠.makeMap t none){T:Tm}{v:Value}{H:Hp}{id:Nat}{D:List Nat}{s:St}(ht:TR φ T t)(e:aOp P o.op o.type ⟨T,H,id,D⟩=some (v,s)) :
  ∃(c c':List Value) (el:TypeId) (mk:Nat→Value),s=mz ⟨T,H,id,D⟩ c el none∧Pre φ c c'∧v=mk id ∧
   (mk=ptr∨∃ len cap,cap<capV∧mk=fun i=>.slice (some ⟨i,0,none⟩) len cap) ∧
   ∀ w:World,(execOp (⟨t,[]⟩:Act).eval o).run P w=.ok (.value (mk w.heap.size)) { w with heap:=w.heap.push (.cells ⟨c'⟩ el) }:=by
 obtain⟨dst,op,ty,pos,after,guard⟩:=o
 simp only at hk e
 cases op with
 | alloc el=>
  simp only[aOp,Ej] at e
  split at e
  ·rename_i z hz
   simp only[Option.some.injEq,Prod.mk.injEq] at e
   obtain⟨rfl,rfl⟩:=e
   refine⟨aQ z,aQ z,el,ptr,rfl,Pre.of (bz.refl (jK hz default).2).cells,rfl,.inl rfl,fun w=>?_⟩
   obtain⟨hr,hp⟩:=jK hz w
   exact gq (by simp [Instr.alloc,hr,newVar,newRow,fq,ptr])
  ·cases e
 | box el x=>
  simp only[aOp,oBox] at e
  split at e
  ·rename_i u hu
   simp only[Option.some.injEq,Prod.mk.injEq] at e
   obtain⟨rfl,rfl⟩:=e
   refine⟨aQ u,aQ ((⟨t,[]⟩:Act).eval x),el,ptr,rfl,Pre.of (cJ (a:=⟨t,[]⟩) ht hu).cells,rfl,.inl rfl,fun w=>?_⟩
   exact gq (by simp [Instr.box,newVar,newRow,fq,ptr])
  ·cases e
 | buildSlice tt len parts=>
  simp only[aOp,lQ] at e
  split at e
  ·rename_i el ps hel hps
   split at e
   ·rename_i sz z hs hz
    split at e
    ·rename_i hc
     split at e
     ·rename_i c hfill
      simp only[Option.some.injEq,Prod.mk.injEq] at e
      obtain⟨rfl,rfl⟩:=e
      have hzp:=(jK hz default).2
      obtain⟨h1,h2⟩:=Ox (st:=⟨T,H,id,D⟩) (a:=⟨t,[]⟩) ht hps
      have hpl:(parts.map fun(i,x)=>(i,(⟨t,[]⟩:Act).eval x)).toList=parts.toList.map fun(i,x)=>(i,(⟨t,[]⟩:Act).eval x):=by simp
      obtain⟨c',hr,hr2⟩:=Yy (φ:=φ) (ek.refl (Bz (EJ hzp) len)) h1 h2 hfill
      refine⟨c,c',el,fun i=>.slice (some ⟨i,0,none⟩) len len,rfl,Pre.of hr2,rfl,.inr ⟨len,len,hc.2.2,rfl⟩,fun w=>gq ?_⟩
      have hzr:=(jK hz w).1
      have hz2:z.cells.size=sz:=by rw[← hc.2.1,fq]; simp
      have hbig:¬ len * sz > 2 ^ 24:=by have:=hc.1; omega
      simp only[Instr.buildSlice,Sem.run_bind,cx (iw hel),Result.andThen_ok,fY hs,if_neg hbig,hpl]
      by_cases h0:len * sz=0
      ·simp only [h0, if_true, pure_bind]
       have:repl len (aQ z)=[]:=by rw[Ij]; rw[hc.2.1,h0]; rfl
       rw[this] at hr
       have e0:(Array.map (fun x=>(#[]:Array Value)[x % (#[]:Array Value).size]!) (Array.range 0))=⟨[]⟩:=by simp
       rw[e0,hr]
       simp [newRow]
      ·simp only [h0, if_false, Sem.run_bind, hzr, Result.andThen_ok, Sem.run_pure]
       have e0:=ry z.cells len
       rw[hz2] at e0
       rw[hz2,e0,← fq,hr]
       simp [newRow]
     ·cases e
    ·cases e
   ·cases e
  ·cases e
 | makeSlice tt l c=>
  simp only[aOp,nJ] at e
  split at e
  ·rename_i el l c hel hl hc
   split at e
   ·rename_i s b z hs hb hz
    split at e
    ·rename_i hcond
     simp only[Option.some.injEq,Prod.mk.injEq] at e
     obtain⟨rfl,rfl⟩:=e
     obtain⟨hlc,hbig,hzl⟩:=hcond
     obtain⟨hb1,hb2,hb3⟩:=smallOk_inv hbig
     have hzp:=(jK hz default).2
     refine⟨repl c (aQ z),repl c (aQ z),el,fun i=>.slice (some ⟨i,0,none⟩) l c,rfl,Pre.of (ek.refl (Bz (EJ hzp) c)),rfl,.inr ⟨l,c,by unfold capV; omega,rfl⟩,fun w=>gq ?_⟩
     have hzr:=(jK hz w).1
     obtain⟨i,hir,rfl⟩:=By hb w
     have e1:=cJ (a:=⟨t,[]⟩) ht hl; simp only[VR] at e1
     have e2:=cJ (a:=⟨t,[]⟩) ht hc; simp only[VR] at e2
     have w1:=OJ l (by omega)
     have w2:=OJ c hb1
     have hz2:z.cells.size=s:=by rw[← hzl,fq]; simp
     have hmul:(i.bytes:Int) * (c:Int)≤2 ^ 48:=by
      have:i.bytes * c≤1048576 * 1048576:=Nat.mul_le_mul (by omega) (by omega)
      have:=Int.ofNat_le.2 this
      rw[Int.natCast_mul] at this
      omega
     have hno:((decide ((c:Int)<0) || decide ((i.bytes:Int) * (c:Int) > 2 ^ 48)) || decide ((l:Int)<0) || decide ((l:Int) > (c:Int)))=false:=by
      have q1:¬ ((c:Int)<0):=by omega
      have q2:¬ ((i.bytes:Int) * (c:Int) > 2 ^ 48):=by omega
      have q3:¬ ((l:Int)<0):=by omega
      have q4:¬ ((l:Int) > (c:Int)):=by omega
      simp only[decide_eq_false q1,decide_eq_false q2,decide_eq_false q3,decide_eq_false q4,Bool.or_false]
     simp only[Instr.makeSlice,Sem.run_bind,cx (iw hel),Result.andThen_ok,e1,e2,asInt,asIntOf,Sem.run_pure,hir,Int.ofNat_eq_natCast,w1,w2]
     rw[hno]
     simp only[Bool.false_eq_true,if_false,Sem.run_bind,run_askRoom,Result.andThen_ok,fY hs,Int.toNat_natCast]
     by_cases h0:c * s=0
     ·have : repl c (aQ z) = [] := by rw [Ij, hzl, h0]; rfl
      have e0:(Array.map (fun x=>(#[]:Array Value)[x % (#[]:Array Value).size]!) (Array.range 0))=⟨[]⟩:=by simp
      simp only[h0,if_true,pure_bind]
      rw[e0,this]
      simp [newRow]
     ·simp only [h0, if_false, Sem.run_bind, hzr, Result.andThen_ok, Sem.run_pure]
      have e0:=ry z.cells c
      rw[hz2] at e0
      rw[hz2,e0,← fq]
      simp [newRow]
    ·cases e
   ·cases e
  ·cases e
 | call c=>
  obtain⟨cal,args,tys⟩:=c
  cases cal <;> simp [dj] at hk
  split at hk <;> cases hk
 | makeMap tt r=>
  cases r with
  | none=>exact absurd rfl (hm tt)
  | some r=>simp [dj] at hk
 | _=>simp [dj] at hk
theorem qhx{o:Oper}{tt:TypeId}(hm:o.op=.makeMap tt none){T:Tm}{v:Value}{H:Hp}{id:Nat}{D:List Nat}{s:St}(e:aOp P o.op o.type ⟨T,H,id,D⟩=some (v,s)) :
  s=newB ⟨T,H,id,D⟩ none 0∧v=.map (some id)∧∀ w:World,(execOp (⟨t,[]⟩:Act).eval o).run P w=.ok (.value (.map (some w.heap.size))) { w with heap:=w.heap.push (.map #[] 0) }:=by
 obtain⟨dst,op,ty,pos,after,guard⟩:=o
 simp only at hm e
 subst hm
 simp only[aOp,Ey,Option.some.injEq,Prod.mk.injEq] at e
 obtain⟨rfl,rfl⟩:=e
 refine⟨rfl,rfl,fun w=>gq ?_⟩
 simp only[Option.map_none,Instr.makeMap,newObj,Sem.run_bind,Sem.run,Result.andThen_ok,Sem.run_pure]
theorem Gk:∀ {l l':List Value},XY l l'=true→l=l'
 | [],[],_=>rfl
 | .int k n::l,.int k' n'::l',h=>by
  simp only[XY,Bool.and_eq_true] at h
  obtain⟨⟨h1,h2⟩,h3⟩:=h
  split at h1
  ·rename_i e1 _
   split at h2
   ·rename_i e2 _
    subst e1; subst e2; rw[Gk h3]
   ·cases h2
  ·cases h1
 | .bool b::l,.bool b'::l',h=>by
  simp only[XY,Bool.and_eq_true,beq_iff_eq] at h
  rw[h.1,Gk h.2]
theorem sameV_eq{v v':Value}(h:sameV v v'=true):v=v':=by
 unfold sameV at h
 split at h
 ·rw[Gk h]
 ·rw[Gk h]
 ·have:=Gk h; simpa using this
theorem chkM_eq{A:List Nat}{x:Nat}{H:Hp}:∀ {l:List Ent},chkM P A x H l=true→∀ e ∈ l,bit A x e.x=false→chkE P H e.k=true
 | [],_,e,he,_=>nomatch he
 | e0::l,h,e,he,hb=>by
  simp only[chkM] at h
  rcases List.mem_cons.1 he with rfl | he
  ·rw[hb] at h; simp only[Bool.and_eq_true] at h; exact h.1
  ·split at h
   ·exact chkM_eq h e he hb
   ·rw[Bool.and_eq_true] at h; exact chkM_eq h.2 e he hb
theorem chkE_m{H:Hp}{t:TypeId}{mv k v:Value}{ok:Bool}(h:chkE P H (.m t mv k ok v)=true):fZ P H t mv k ok=some v:=by
 simp only[chkE] at h
 split at h
 ·rename_i u hu; rw[hu,sameV_eq h]
 ·cases h
theorem lookupV_congr{H H':Hp}{t:TypeId}{mv k:Value}{ok:Bool}(h:∀ r,mv=.map (some r)→H'.get r=H.get r):fZ P H' t mv k ok=fZ P H t mv k ok:=by
 unfold fZ
 have:zZ H' mv=zZ H mv:=by
  unfold zZ
  split
  ·rfl
  ·rename_i r; rw[h r rfl]
  ·rfl
 rw[this]
theorem lookupV_some{H:Hp}{t:TypeId}{r:Nat}{k v:Value}{ok:Bool}(h:fZ P H t (.map (some r)) k ok=some v):∃ b,H.get r=some b:=by
 unfold fZ at h
 split at h
 ·split at h
  ·rename_i hes _
   unfold zZ at hes
   simp only at hes
   split at hes
   ·rename_i hg; exact⟨_,hg⟩
   ·cases hes
  ·cases h
 ·cases h
theorem GJ{H H':Hp}{ty:TypeId}{a:Addr}(h:H'.get a.block=H.get a.block):az P H' ty a=az P H ty a:=by
 unfold az; rw[h]
theorem cOp_ok(hs:Snd P rec){ops:Array Oper}{i:Nat}{rest:List Nat}{o:Oper}{v:Value}{s:St}(hI:I w₀ W φ st.H st.n w)(ht:TR φ st.T t)(ho:ops[i]?=some o)
  (hw:Region.wanted o (yielded ops t)=true) (hc:cOp P rec o.op o.type st=some (v,s)) :
  ∃ φ' w' v',Ext φ st.n φ' s.n∧I w₀ W φ' s.H s.n w'∧VR φ' v v' ∧
   Steps P (lone (fr f t (.inRegion ops (i::rest)::k) ds kd ro) cs w) (lone (fr f ((⟨t,[]⟩:Act).put o.dst v').tmps (.inRegion ops rest::k) ds kd ro) cs w'):=by
 have plain:aOp P o.op o.type st=some (v,s)→(∀ c,o.op≠.defer c) →
   ∃ φ' w' v',Ext φ st.n φ' s.n∧I w₀ W φ' s.H s.n w'∧VR φ' v v' ∧
   Steps P (lone (fr f t (.inRegion ops (i::rest)::k) ds kd ro) cs w) (lone (fr f ((⟨t,[]⟩:Act).put o.dst v').tmps (.inRegion ops rest::k) ds kd ro) cs w'):=by
  intro h hd
  obtain⟨φ',v',w',hr,hle,hI,hv,hT,hD⟩:=aOp_ok (a:=⟨t,[]⟩) hI ht o h
  exact⟨φ',w',v',hle,hI,hv,.one (rv ho hw hd hr)⟩
 unfold cOp at hc
 split at hc
 ·rename_i c hop
  have hd:∀ c,o.op≠.defer c:=by intro c x; rw[hop] at x; cases x
  unfold cCall at hc
  split at hc
  ·rename_i fo hcal
   split at hc
   ·rename_i vf args hvf hargs
    have hf':=cJ (a:=⟨t,[]⟩) ht hvf
    have ha':=HK (a:=⟨t,[]⟩) ht hargs
    unfold callV at hc
    split at hc
    ·rename_i g first cap
     simp only[VR] at hf'
     obtain⟨f',a',b',e1,e2,e3,e4⟩:=hf'
     simp only[FR] at e2; subst e2
     have l1:VRL φ first.toList a'.toList:=by cases first; simpa only [VRA] using e3
     have l2:VRL φ cap.toList b'.toList:=by cases cap; simpa only [VRA] using e4
     obtain⟨hok,⟨fn,cb,q1,q2,q3⟩,hT,hD⟩:=qgv hs hc
     obtain⟨φ',w',v',hle,hI,hv,hst⟩:=hok w₀ W φ w _ (fr f t (.inRegion ops (i::rest)::k) ds kd ro) cs hI ((l1.append ha').append l2)
     refine⟨φ',w',v',hle,hI,hv,.head (st_op_enter ho hw hd (args:=⟨a'.toList++List.map (⟨t,[]⟩:Act).eval c.args.toList++b'.toList⟩) (g:=g) (w':=w) ?_) ?_⟩
     ·have hn : ¬ fn.name = "runtime.NumGoroutine" := by simpa using q3
      have e5:a'++Array.map (⟨t,[]⟩:Act).eval c.args++b'=⟨a'.toList++List.map (⟨t,[]⟩:Act).eval c.args.toList++b'.toList⟩:=by apply Array.ext'; simp
      simp [execOp,hop,resolve,hcal,e1,Deferred.ofValue,invoke,callFunc,q1,q2,hn]
     ·rw[← wy ho]; exact hst
    ·rename_i l
     simp only[VR] at hf'
     obtain⟨f',a',b',e1,⟨l',cp,e2,e5⟩,e3,e4⟩:=hf'
     subst e2
     have n1:a'=#[]:=by simp only[VRA,VRL] at e3; apply Array.ext'; simpa using e3
     have n2:b'=#[]:=by simp only[VRA,VRL] at e4; apply Array.ext'; simpa using e4
     subst n1 n2
     obtain⟨g,tm,aS,bd,hr,hT,hD,hok⟩:=yieldF_ok hs hc hI ha' e5
     obtain⟨φ',w',v',hle,hI,hv,hst⟩:=hok (fr f t (.inRegion ops (i::rest)::k) ds kd ro) cs
     refine⟨φ',w',v',hle,hI,hv,.head (st_op_round ho hw hd (l:=l') (g:=g) (tm:=tm) (aS:=aS) (bd:=bd) (w':=w) ?_) ?_⟩
     ·have e6 : Array.map (⟨t, []⟩ : Act).eval c.args = ⟨List.map (⟨t, []⟩ : Act).eval c.args.toList⟩ := by apply Array.ext'; simp
      simp only[execOp,hop,resolve,hcal,e1,Deferred.ofValue,pure_bind,invoke,e6,Array.empty_append]
      exact hr
     ·rw[← wy ho]; exact hst
    ·cases hc
   ·cases hc
  ·refine plain ?_ hd
   rw[hop]; simp only[aOp]; exact hc
 ·rename_i x hop
  refine plain hc ?_
  intro c x
  rw[x] at hc; simp [aOp] at hc
def Sub(H' H:Hp):Prop:=∀ i b',H'.get i=some b'→∃ b,H.get i=some b∧(b'=b∨∃ c t ro vec,b=.cells c t ro vec∧b'=.cells c t true vec)
def Ak(φ:Phi)(H:Hp):Sets where
 w p:=∃ i b q,H.get i=some b∧b.ro=false∧φ i=some q∧q.1=p
 r p:=∃ i b q,H.get i=some b∧φ i=some q∧q.1=p
theorem BR.toRo{c:List Value}{e:TypeId}{r:Bool}{vec:Option Nat}{o:Obj}{cp:Nat}(h:BR φ (.cells c e r vec) o cp):BR φ (.cells c e true vec) o cp:=by
 obtain⟨arr,fr,a,b,c,d⟩:=h
 exact⟨arr,fr,a,(fun x=>Bool.noConfusion x),c,d⟩
theorem I.sub{Hs:Hp}(h:I w₀ W φ H n w)(hs:Sub Hs H):I w (Ak φ Hs) φ Hs n w:=by
 refine⟨h.dom,?_,?_,fun _ _ _=>rfl,Nat.le_refl _,?_,?_,rfl,rfl,rfl,fun _=>rfl⟩
 ·intro i b hb
  obtain⟨b0,h0,hbb⟩:=hs i b hb
  obtain⟨p,o,f,g,k⟩:=h.rel i b0 h0
  refine⟨p,o,f,g,?_⟩
  rcases hbb with rfl | ⟨c,t,ro,vec,rfl,rfl⟩
  ·exact k
  ·exact k.toRo
 ·intro i j b c p q hb hc hp hq x
  obtain⟨b0,h0,hbb⟩:=hs i b hb
  obtain⟨c0,h1,hcc⟩:=hs j c hc
  refine(h.inj i j b0 c0 p q h0 h1 hp hq x).imp id fun hk=>?_
  rcases hbb with rfl | ⟨_,_,_,_,rfl,_⟩
  ·rcases hcc with rfl | ⟨_, _, _, _, rfl, _⟩
   ·exact hk
   ·exact(hk.right rfl).elim
  ·exact(hk.left rfl).elim
 ·intro i b p hb hr hp; exact .inl ⟨i,b,p,hb,hr,hp,rfl⟩
 ·intro i b p hb hp; exact .inl ⟨i,b,p,hb,hp,rfl⟩
theorem I.back{φ1:Phi}{Hm Hs H1 Hn:Hp}{n1:Nat}{w1:World}(h:I w₀ W φ Hm n w)(hs:Sub Hs Hm)(h1:I w (Ak φ Hs) φ1 H1 n1 w1)(hx:φ.le φ1)(Ov:Nat→Prop)
  (ha:∀ i b,¬ Ov i→Hn.get i=some b→H1.get i=some b)
  (hb:∀ i b,Ov i→Hn.get i=some b→(Hm.get i=some b∧b.isFam=false)∧(Hs.get i=none∨((∃ b',Hs.get i=some b'∧b'.ro=true)∧∃ b1,H1.get i=some b1∧b1.ro=true))) :
  I w₀ W φ1 Hn n1 w1:=by
 have out:∀ i b p,Ov i→Hn.get i=some b→φ i=some p→¬ (Ak φ Hs).w p.1:=by
  intro i b p ho hi hp ⟨j,c,q,hj,hr,hq,e⟩
  obtain⟨⟨hm,hf⟩,hh⟩:=hb i b ho hi
  obtain⟨c0,hc0,_⟩:=hs j c hj
  have:=h.inj' hm hc0 hp hq e.symm hf
  subst this
  rcases hh with hh | ⟨⟨b',hb',hro⟩,_⟩
  ·rw[hh] at hj; cases hj
  ·rw[hb'] at hj; cases hj; rw[hro] at hr; cases hr
 have at1:∀ i b,Ov i→Hn.get i=some b→∃ p,φ i=some p∧φ1 i=some p∧p.1<w.heap.size:=by
  intro i b ho hi
  obtain⟨⟨hm,_⟩,_⟩:=hb i b ho hi
  obtain⟨p,o,f,g,k⟩:=h.rel i b hm
  exact⟨p,f,hx _ _ f,h.lt hm f⟩
 have ww:∀ p,(Ak φ Hs).w p→W.w p∨w₀.heap.size≤p:=by
  intro p ⟨j,c,q,hj,hr,hq,e⟩
  obtain⟨c0,hc0,hcc⟩:=hs j c hj
  subst e
  refine h.wr j c0 q hc0 ?_ hq
  rcases hcc with rfl | ⟨_,_,_,_,rfl,rfl⟩
  ·exact hr
  ·cases hr
 have wr:∀ p,(Ak φ Hs).r p→W.r p∨w₀.heap.size≤p:=by
  intro p ⟨j,c,q,hj,hq,e⟩
  obtain⟨c0,hc0,_⟩:=hs j c hj
  subst e
  exact h.src j c0 q hc0 hq
 have mixed:∀ i j b c p,Ov i→¬ Ov j→Hn.get i=some b→Hn.get j=some c→φ1 i=some p→∀ q,φ1 j=some q→p.1=q.1→i=j:=by
  intro i j b c p hi hj hbi hcj hp q hq e
  obtain⟨p',f1,f2,f3⟩:=at1 i b hi hbi
  rw[hp] at f2; cases f2
  obtain⟨⟨hm,hf⟩,hh⟩:=hb i b hi hbi
  rcases hh with hh | ⟨_,b1,hb1,hro1⟩
  ·exfalso
   rcases h1.src j c q (ha j c hj hcj) hq with⟨j',c',q',g1,g2,g3⟩ | g
   ·obtain ⟨c0, hc0, _⟩ := hs j' c' g1
    have:=h.inj' hm hc0 f1 g2 (by rw[e,g3]) hf
    subst this; rw[hh] at g1; cases g1
   ·omega
  ·exact h1.inj' hb1 (ha j c hj hcj) hp hq e (by cases b1 <;> first | rfl | cases hro1)
 refine⟨h1.dom,?_,?_,?_,Nat.le_trans h.size h1.size,?_,?_,h1.os.trans h.os,h1.tape.trans h.tape,h1.output.trans h.output,fun b=>(h1.fz b).trans (h.fz b)⟩
 ·intro i b hi
  by_cases ho:Ov i
  ·obtain ⟨p, f1, f2, f3⟩ := at1 i b ho hi
   obtain⟨⟨hm,_⟩,_⟩:=hb i b ho hi
   obtain⟨p',o,g1,g2,g3⟩:=h.rel i b hm
   rw[f1] at g1; cases g1
   exact⟨p,o,f2,(h1.keep p.1 f3 (out i b p ho hi f1)).trans g2,g3.mono hx⟩
  ·exact h1.rel i b (ha i b ho hi)
 ·intro i j b c p q hi hj hp hq e
  by_cases ho:Ov i <;> by_cases hoj:Ov j
  ·obtain ⟨p', f1, f2, f3⟩ := at1 i b ho hi
   obtain⟨q',g1,g2,g3⟩:=at1 j c hoj hj
   rw[hp] at f2; cases f2
   rw[hq] at g2; cases g2
   exact h.inj i j b c p q (hb i b ho hi).1.1 (hb j c hoj hj).1.1 f1 g1 e
  ·exact .inl (mixed i j b c p ho hoj hi hj hp q hq e)
  ·exact .inl (mixed j i c b q hoj ho hj hi hq p hp e.symm).symm
  ·exact h1.inj i j b c p q (ha i b ho hi) (ha j c hoj hj) hp hq e
 ·intro b hb0 nb
  have hnw:¬ (Ak φ Hs).w b:=by
   intro x
   rcases ww b x with y | y
   ·exact nb y
   ·omega
  rw[h1.keep b (by have:=h.size; omega) hnw]
  exact h.keep b hb0 nb
 ·intro i b p hi hr hp
  by_cases ho:Ov i
  ·obtain ⟨p', f1, f2, f3⟩ := at1 i b ho hi
   rw[hp] at f2; cases f2
   exact h.wr i b p (hb i b ho hi).1.1 hr f1
  ·rcases h1.wr i b p (ha i b ho hi) hr hp with x | x
   ·exact ww _ x
   ·exact .inr (Nat.le_trans h.size x)
 ·intro i b p hi hp
  by_cases ho:Ov i
  ·obtain ⟨p', f1, f2, f3⟩ := at1 i b ho hi
   rw[hp] at f2; cases f2
   exact h.src i b p (hb i b ho hi).1.1 f1
  ·rcases h1.src i b p (ha i b ho hi) hp with x | x
   ·exact wr _ x
   ·exact .inr (Nat.le_trans h.size x)
theorem I.pushAt{Hn:Hp}(h:I w₀ W φ H n w){i:Nat}(hi:φ i=none)(hin:i<n){b:Blk}{o:Obj}{cp:Nat}(hb:BR φ b o cp)
  (hn:∀ j,Hn.get j=if j=i then some b else H.get j) (hro:b.ro=false:=by rfl) :
  I w₀ W (ext φ i (w.heap.size,cp)) Hn n { w with heap:=w.heap.push o }:=by
 have hle:=Ek (p:=(w.heap.size,cp)) hi
 have oldφ:∀ j q,j≠i→ext φ i (w.heap.size,cp) j=some q→φ j=some q:=by
  intro j q hj e; unfold ext at e; rwa [if_neg hj] at e
 refine⟨?_,?_,?_,?_,?_,?_,?_,h.os,h.tape,h.output,frOb_push h (hb.fr hro)⟩
 ·intro j p e
  by_cases x:j=i
  ·subst x; rw[cW] at e; cases e; exact hin
  ·exact h.dom j p (oldφ j p x e)
 ·intro j c e
  rw[hn] at e
  split at e
  ·rename_i x; subst x; cases e
   exact⟨_,o,cW _ _ _,by simp,hb.mono hle⟩
  ·obtain ⟨p, o', f, g, k⟩ := h.rel j c e
   refine⟨p,o',hle _ _ f,?_,k.mono hle⟩
   have:=h.lt e f
   show(w.heap.push o)[p.1]?=_
   rw[Array.getElem?_push,if_neg (by omega)]; exact g
 ·intro j k c d p q e f g g' x
  rw[hn] at e f
  split at e <;> split at f
  ·rename_i a b; exact .inl (by rw[a,b])
  ·rename_i a b
   subst a; rw[cW] at g; cases g
   have:=h.lt f (oldφ k q b g'); simp at x; omega
  ·rename_i a b
   subst b; rw[cW] at g'; cases g'
   have:=h.lt e (oldφ j p a g); simp at x; omega
  ·rename_i a b
   exact h.inj j k c d p q e f (oldφ j p a g) (oldφ k q b g') x
 ·intro c hc nc
  show(w.heap.push o)[c]?=_
  rw[Array.getElem?_push,if_neg (by have:=h.size; omega)]; exact h.keep c hc nc
 ·have:=h.size; simp; omega
 ·intro j c p e r g
  rw[hn] at e
  split at e
  ·rename_i x; subst x; rw [cW] at g; cases g
   exact .inr h.size
  ·rename_i x; exact h.wr j c p e r (oldφ j p x g)
 ·intro j c p e g
  rw[hn] at e
  split at e
  ·rename_i x; subst x; rw [cW] at g; cases g
   exact .inr h.size
  ·rename_i x; exact h.src j c p e (oldφ j p x g)
end Go.Ev
end
section
namespace Go.Ev
open Go
variable {P:Program} {w₀:World} {W:Sets} {φ:Phi} {st st':St} {w:World} {H:Hp} {n:Nat} {rec:Rec}
 {f:FuncId} {t:Array Value} {k:List Item} {ds:List Deferred} {kd:CallKind} {ro:Option Nat} {cs:List Frame} {N:Nat}
def LB(A:List Nat)(x:Nat)(log:List Ent)(i:Nat):Prop:=∃ e ∈ log,bit A x e.x=false∧∃ ty a,e.k=.l ty a∧a.block=i
def AB(A:List Nat)(x:Nat)(log:List Ent)(i:Nat):Prop:=∃ e ∈ log,bit A x e.x=false∧∃ c ty,e.k=.a i c ty
theorem LB.cons{A:List Nat}{x i:Nat}{e:Ent}{l:List Ent}:LB A x (e::l) i↔(bit A x e.x=false∧∃ ty a,e.k=.l ty a∧a.block=i)∨LB A x l i:=by
 unfold LB; simp
theorem AB.cons{A:List Nat}{x i:Nat}{e:Ent}{l:List Ent}:AB A x (e::l) i↔(bit A x e.x=false∧∃ c ty,e.k=.a i c ty)∨AB A x l i:=by
 unfold AB; simp
theorem maskL_ok{A:List Nat}{x:Nat}{H:Hp}:∀ {l:List Ent} {H1:Hp},maskL A x H l=some H1→(Sub H1 H∧∀ i b,LB A x l i→H1.get i=some b→b.ro=true)∧∀ i,LB A x l i→∃ b,H1.get i=some b
 | [],H1,e=>by
  simp only[maskL,Option.some.injEq] at e; subst e
  exact⟨⟨fun i b h=>⟨b,h,.inl rfl⟩,fun i b ⟨e,he,_⟩=>nomatch he⟩,fun i ⟨e,he,_⟩=>nomatch he⟩
 | e::l,H1,h=>by
  simp only[maskL] at h
  split at h
  ·cases h
  ·rename_i H2 h2
   obtain⟨⟨s1,s2⟩,s3⟩:=maskL_ok h2
   split at h
   ·rename_i ty a hb hk
    split at h
    ·rename_i c t r vec hc
     simp only[Option.some.injEq] at h; subst h
     refine⟨?_,fun i hL=>?_⟩
     rotate_left
     ·rw [Tr.get_set]
      by_cases q:i=a.block
      ·rw[if_pos q]; exact⟨_,rfl⟩
      ·rw [if_neg q]
       refine s3 i ?_
       rcases LB.cons.1 hL with⟨_,ty',a',e1,e2⟩ | hL
       ·rw[hk] at e1; cases e1; exact absurd e2.symm q
       ·exact hL
     constructor
     ·intro i b hi
      rw[Tr.get_set] at hi
      split at hi
      ·rename_i q; subst q
       cases hi
       obtain⟨b0,h0,hbb⟩:=s1 _ _ hc
       rcases hbb with hbb | ⟨c',t',r',v',e1,e2⟩
       ·subst hbb; exact⟨_,h0,.inr ⟨c,t,r,vec,rfl,rfl⟩⟩
       ·cases e2; exact⟨_,h0,.inr ⟨c,t,r',vec,e1,rfl⟩⟩
      ·exact s1 i b hi
     ·intro i b hL hi
      rw[Tr.get_set] at hi
      split at hi
      ·cases hi; rfl
      ·rename_i q
       refine s2 i b ?_ hi
       rcases LB.cons.1 hL with⟨_,ty',a',e1,e2⟩ | hL
       ·rw[hk] at e1; cases e1; exact absurd e2.symm q
       ·exact hL
    ·rename_i c hc
     simp only[Option.some.injEq] at h; subst h
     refine⟨⟨s1,fun i b hL hi=>?_⟩,fun i hL=>?_⟩
     ·rcases LB.cons.1 hL with ⟨_, ty', a', e1, e2⟩ | hL
      ·rw [hk] at e1; cases e1
       rw[e2] at hc
       rw[hc] at hi; cases hi; rfl
      ·exact s2 i b hL hi
     ·rcases LB.cons.1 hL with ⟨_, ty', a', e1, e2⟩ | hL
      ·rw [hk] at e1; cases e1
       rw[e2] at hc
       exact⟨_,hc⟩
      ·exact s3 i hL
    ·cases h
   ·rename_i hno
    simp only[Option.some.injEq] at h; subst h
    refine⟨⟨s1,fun i b hL hi=>s2 i b ?_ hi⟩,fun i hL=>s3 i ?_⟩
    ·rcases LB.cons.1 hL with ⟨e0, ty', a', e1, e2⟩ | hL
     ·exact(hno ty' a' e0 e1).elim
     ·exact hL
    ·rcases LB.cons.1 hL with ⟨e0, ty', a', e1, e2⟩ | hL
     ·exact(hno ty' a' e0 e1).elim
     ·exact hL
theorem wz{A:List Nat}{x:Nat}{H:Hp}(i:Nat):∀(l:List Ent),(AB A x l i→(Jz A x H l).get i=none)∧(¬ AB A x l i→(Jz A x H l).get i=H.get i)
 | []=>⟨fun h=>absurd h (by simp [AB]),fun _=>rfl⟩
 | e::l=>by
  obtain⟨h1,h2⟩:=wz (A:=A) (x:=x) (H:=H) i l
  simp only[Jz]
  split
  ·rename_i id c ty hb hk
   rw[Tr.get_set]
   constructor
   ·intro h
    split
    ·rfl
    ·rename_i q
     refine h1 ?_
     rcases AB.cons.1 h with⟨_,c',t',e1⟩ | h
     ·rw[hk] at e1; cases e1; exact absurd rfl q
     ·exact h
   ·intro h
    rw[if_neg (fun q=>h (AB.cons.2 (.inl ⟨hb,c,ty,by rw[hk,q]⟩)))]
    exact h2 (fun q=>h (AB.cons.2 (.inr q)))
  ·rename_i hno
   constructor
   ·intro h
    refine h1 ?_
    rcases AB.cons.1 h with⟨e0,c',t',e1⟩ | h
    ·exact(hno i c' t' e0 e1).elim
    ·exact h
   ·intro h; exact h2 (fun q=>h (AB.cons.2 (.inr q)))
theorem backL_ok{A:List Nat}{x:Nat}{H0 H:Hp}:∀ {l:List Ent} {H2:Hp},backL A x H0 H l=some H2 →
  ∀ i,(LB A x l i→H2.get i=H0.get i∧∃ b,H.get i=some b∧b.ro=true)∧(¬ LB A x l i→H2.get i=H.get i)
 | [],H2,h=>by
  simp only[backL,Option.some.injEq] at h; subst h
  exact fun i=>⟨fun h=>absurd h (by simp [LB]),fun _=>rfl⟩
 | e::l,H2,h=>by
  simp only[backL] at h
  split at h
  ·cases h
  ·rename_i H3 h3
   have ih:=backL_ok h3
   split at h
   ·rename_i ty a hb hk
    split at h
    ·rename_i b hbb
     split at h
     case h_2=>cases h
     rename_i hbro
     simp only[Option.some.injEq] at h; subst h
     intro i
     rw[Tr.get_set]
     by_cases q:i=a.block
     ·subst q
      simp only[if_true]
      exact⟨fun _=>⟨trivial,b,hbb,hbro⟩,fun hn=>absurd (LB.cons.2 (.inl ⟨hb,ty,a,hk,rfl⟩)) hn⟩
     ·rw [if_neg q]
      constructor
      ·intro hL
       refine(ih i).1 ?_
       rcases LB.cons.1 hL with⟨_,ty',a',e1,e2⟩ | hL
       ·rw[hk] at e1; cases e1; exact absurd e2.symm q
       ·exact hL
      ·intro hn; exact(ih i).2 (fun q=>hn (LB.cons.2 (.inr q)))
    ·cases h
   ·rename_i hno
    simp only[Option.some.injEq] at h; subst h
    intro i
    constructor
    ·intro hL
     refine(ih i).1 ?_
     rcases LB.cons.1 hL with⟨e0,ty',a',e1,e2⟩ | hL
     ·exact(hno ty' a' e0 e1).elim
     ·exact hL
    ·intro hn; exact(ih i).2 (fun q=>hn (LB.cons.2 (.inr q)))
theorem Iz{A:List Nat}{x:Nat}{H0 H:Hp}(i:Nat):∀(l:List Ent),(AB A x l i→(Jk A x H0 H l).get i=H0.get i)∧(¬ AB A x l i→(Jk A x H0 H l).get i=H.get i)
 | []=>⟨fun h=>absurd h (by simp [AB]),fun _=>rfl⟩
 | e::l=>by
  obtain⟨h1,h2⟩:=Iz (A:=A) (x:=x) (H0:=H0) (H:=H) i l
  simp only[Jk]
  split
  ·rename_i id c ty hb hk
   rw[Tr.get_set]
   constructor
   ·intro h
    split
    ·rename_i q; rw[q]
    ·rename_i q
     refine h1 ?_
     rcases AB.cons.1 h with⟨_,c',t',e1⟩ | h
     ·rw[hk] at e1; cases e1; exact absurd rfl q
     ·exact h
   ·intro h
    rw[if_neg (fun q=>h (AB.cons.2 (.inl ⟨hb,c,ty,by rw[hk,q]⟩)))]
    exact h2 (fun q=>h (AB.cons.2 (.inr q)))
  ·rename_i hno
   constructor
   ·intro h
    refine h1 ?_
    rcases AB.cons.1 h with⟨e0,c',t',e1⟩ | h
    ·exact(hno i c' t' e0 e1).elim
    ·exact h
   ·intro h; exact h2 (fun q=>h (AB.cons.2 (.inr q)))
noncomputable def TF(S:List Nat)(log:List Ent)(T0:Tm)(d:Nat):Option Value:=
 match log.find? (fun e=>e.dst == some d) with
 | some e=>if e.x ∈ S then some e.v else T0.get d
 | none=>T0.get d
def TRF(φ:Phi)(F:Nat→Option Value)(t:Array Value):Prop:=∀ d v,F d=some v→∃ v',t[d]?=some v'∧VR φ v v'
theorem TRF.mono{φ ψ:Phi}(h:φ.le ψ){F:Nat→Option Value}(g:TRF φ F t):TRF ψ F t:=fun d v e=>let ⟨v',a,b⟩:=g d v e; ⟨v',a,b.mono h⟩
def Pend(S:List Nat)(log:List Ent)(i:Nat):Prop:=∃ e ∈ log,e.x ∉ S∧∃ c ty,e.k=.a i c ty
def Closed(A S:List Nat):Prop:=∀ x ∈ S,∀ y,bit A x y=true→y ∈ S
structure Uniq (log:List Ent):Prop where
 x:∀ e ∈ log,∀ e' ∈ log,e.x=e'.x→e=e'
 d:∀ e ∈ log,∀ e' ∈ log,∀ d,e.dst=some d→e'.dst=some d→e=e'
 a:∀ e ∈ log,∀ e' ∈ log,∀ i c ty c' ty',e.k=.a i c ty→e'.k=.a i c' ty'→e=e'
theorem find_dst{log:List Ent}(h:Uniq log){e:Ent}(he:e ∈ log){d:Nat}(hd:e.dst=some d):log.find? (fun e=>e.dst == some d)=some e:=by
 cases hf:log.find? (fun e=>e.dst == some d) with
 | none=>
  have:=List.find?_eq_none.1 hf e he
  simp [hd] at this
 | some e'=>
  have h1:=List.mem_of_find?_eq_some hf
  have h2:=List.find?_some hf
  simp at h2
  rw[h.d e' h1 e he d h2 hd]
def RunOk(P:Program)(ops:List Oper)(e:Ent)(o:Oper)(r:Tm):Prop:=
 (pQ ops o.guard r=some false∧e.v=undef∧(e.k=.p∨e.k=.e)) ∨
 (pQ ops o.guard r=some true∧match e.k with
  | .p=>∀ H n D,aOp P o.op o.type ⟨r,H,n,D⟩=some (e.v,⟨r,H,n,D⟩)
  | .l ty ad=>∃ a,o.op=.load ty a∧opd a r=some (.pointer (some ad))
  | .a id c ty=>dj o.op=.a∧∃ H,aOp P o.op o.type ⟨r,H,id,[]⟩=some (e.v,newB ⟨r,H,id,[]⟩ c ty)
  | .e=>True
  | .m t mv k ok v=>v=e.v∧∃ a b,o.op=.lookup t a b ok∧opd a r=some mv∧opd b r=some k)
def EntOk(P:Program)(N:Nat)(ops:List Oper)(A:List Nat)(T0:Tm)(log:List Ent)(e:Ent):Prop:=
 ∃ o r,ops[e.x]?=some o∧e.dst=o.dst∧inN N o.dst=true∧RunOk P ops e o r∧(∀ d,d ∉ e.slots→r.get d=none) ∧
  ∀ S,Closed A S→(∀ y,bit A e.x y=true→y ∈ S)→e.x ∉ S→∀ d ∈ e.slots,TF S log T0 d=r.get d
def Cur(P:Program)(H:Hp)(n:Nat)(e:Ent):Prop:=
 match e.k with
 | .l ty ad=>az P H ty ad=some e.v
 | .a id c ty=>H.get id=some (blkN c ty)∧id<n
 | .m t mv k ok v=>fZ P H t mv k ok=some v
 | _=>True
structure J (P:Program) (N:Nat) (ops:List Oper) (A:List Nat) (T0:Tm) (n0:Nat) (w₀:World) (W:Sets) (g:Reg) (S:List Nat) (φ:Phi) (t:Array Value) (w:World) (Hm:Hp):Prop where
 tr:TRF φ (TF S g.log T0) t
 sz:t.size=N
 i:I w₀ W φ Hm g.n w
 hm:∀ i,(Pend S g.log i→Hm.get i=none)∧(¬ Pend S g.log i→Hm.get i=g.H.get i)
 pend:∀ i,Pend S g.log i→φ i=none
 sub:∀ x ∈ S,∃ e ∈ g.log,e.x=x
 cl:Closed A S
 un:Uniq g.log
 ent:∀ e ∈ g.log,EntOk P N ops A T0 g.log e
 cur:∀ e ∈ g.log,e.x ∉ S→Cur P g.H g.n e
 eff:∀ e ∈ g.log,e.k=.e→e.x ∈ S
 T:∀ d,g.T.get d=match g.log.find? (fun e=>e.dst == some d) with | some e=>some e.v | none=>T0.get d
 nle:n0≤g.n
 ids:∀ e ∈ g.log,∀ i c ty,e.k=.a i c ty→n0≤i∧i<g.n
 za:∀ e ∈ g.log,∀ i c ty,e.k=.a i c ty→∀ p,φ i=some p→p.2=0
end Go.Ev
end
section
namespace Go.Ev
open Go
variable {P:Program} {w₀:World} {W:Sets} {φ:Phi} {st st':St} {w:World} {H Hm:Hp} {n n0:Nat} {rec:Rec}
 {f:FuncId} {t:Array Value} {k:List Item} {ds:List Deferred} {kd:CallKind} {ro:Option Nat} {cs:List Frame} {N:Nat}
 {ops:List Oper} {A:List Nat} {T0:Tm} {g g1:Reg} {S:List Nat}
theorem I.up(h:I w₀ W φ H n w){m:Nat}(hm:n≤m):I w₀ W φ H m w:=
 ⟨fun i p e=>Nat.lt_of_lt_of_le (h.dom i p e) hm,h.rel,h.inj,h.keep,h.size,h.wr,h.src,h.os,h.tape,h.output,h.fz⟩
theorem kq{log:List Ent}{x:Nat}:nK log x=true↔∃ e ∈ log,e.x=x:=by
 simp [nK]
theorem J.fresh(h:J P N ops A T0 n0 w₀ W g S φ t w Hm){i:Nat}(hi:g.n≤i):g.H.get i=none:=by
 by_cases hp:Pend S g.log i
 ·obtain ⟨e, he, _, c, ty, hk⟩ := hp
  have:=(h.ids e he i c ty hk).2; omega
 ·rw [← (h.hm i).2 hp]
  cases e:Hm.get i with
  | none=>rfl
  | some b=>
   obtain⟨p,o,f1,_⟩:=h.i.rel i b e
   have:=h.i.dom i p f1; omega
theorem UJ(h:J P N ops A T0 n0 w₀ W g S φ t w Hm){x:Nat}{dst:Option Tmp}{slots:List Nat}{v:Value}{kx:Extra}
  (hs:zJ A g.log x dst slots=true) (hn:nK g.log x=false) :
  (∀ e ∈ g.log,EntOk P N ops A T0 ({ x,dst,slots,v,k:=kx }::g.log) e) ∧
  (∀ S',Closed A S'→(∀ y,bit A x y=true→y ∈ S')→x ∉ S'→∀ d ∈ slots,TF S' ({ x,dst,slots,v,k:=kx }::g.log) T0 d=(eZ g.T slots).get d) ∧
  (∀ e ∈ g.log,e.x≠x)∧(∀ e ∈ g.log,∀ d,e.dst=some d→dst≠some d) ∧
  (∀ S',x ∉ S'→∀ d,TF S' ({ x,dst,slots,v,k:=kx }::g.log) T0 d=TF S' g.log T0 d) ∧
  (∀ d,(putT g.T dst v).get d=match ({ x,dst,slots,v,k:=kx }::g.log).find? (fun e=>e.dst == some d) with | some e=>some e.v | none=>T0.get d):=by
 have hx:∀ e ∈ g.log,e.x≠x:=by
  intro e he q
  have:nK g.log x=true:=kq.2 ⟨e,he,q⟩
  rw[hn] at this; cases this
 simp only[zJ,List.all_eq_true,Bool.and_eq_true] at hs
 have hd:∀ e ∈ g.log,∀ d,e.dst=some d→dst≠some d:=by
  intro e he d h1 h2
  have:=(hs e he).2
  rw[h2,h1] at this
  simp at this
 have hnone:∀ d,dst=some d→g.log.find? (fun e=>e.dst == some d)=none:=by
  intro d h2
  rw[List.find?_eq_none]
  intro e he
  simp
  intro h1
  exact hd e he d h1 h2
 have hTF:∀ S',x ∉ S'→∀ d,TF S' ({ x,dst,slots,v,k:=kx }::g.log) T0 d=TF S' g.log T0 d:=by
  intro S' hx' d
  unfold TF
  rw[List.find?_cons]
  by_cases q:dst=some d
  ·simp only[q,beq_self_eq_true,if_neg hx',hnone d q]
  ·have : (dst == some d) = false := by simpa using q
   simp only[this]
 refine⟨?_,?_,hx,hd,hTF,?_⟩
 ·intro e he
  obtain⟨o,r,a1,a2,a3,a4,a5,a6⟩:=h.ent e he
  refine⟨o,r,a1,a2,a3,a4,a5,fun S' hc hy hxe d hds=>?_⟩
  rw[← a6 S' hc hy hxe d hds]
  unfold TF
  rw[List.find?_cons]
  by_cases q:dst=some d
  ·have hb := (hs e he).2
   rw[q] at hb
   simp only[Bool.and_eq_true,Bool.or_eq_true,Bool.not_eq_true',List.contains_eq_mem,decide_eq_false_iff_not] at hb
   have hbit:bit A x e.x=true:=by
    rcases hb.1 with hb | hb
    ·exact absurd hds hb
    ·exact hb
   have hxS:x ∉ S':=fun hh=>hxe (hc x hh e.x hbit)
   simp only[q,beq_self_eq_true,if_neg hxS,hnone d q]
  ·have : (dst == some d) = false := by simpa using q
   simp only[this]
 ·intro S' hc hy hxS d hds
  rw[hTF S' hxS d,ix,if_pos hds,h.T d]
  unfold TF
  cases hf:g.log.find? (fun e=>e.dst == some d) with
  | none=>rfl
  | some e=>
   have he:=List.mem_of_find?_eq_some hf
   have h2:=List.find?_some hf
   simp at h2
   have hb:=(hs e he).1
   rw[h2] at hb
   simp only[Bool.or_eq_true,Bool.not_eq_true',List.contains_eq_mem,decide_eq_false_iff_not] at hb
   have hbit:bit A x e.x=true:=by
    rcases hb with hb | hb
    ·exact absurd hds hb
    ·exact hb
   simp only[hy e.x hbit,if_true]
 ·intro d
  rw[List.find?_cons]
  cases dst with
  | none=>
   have:((none:Option Tmp) == some d)=false:=rfl
   simp only[putT,this]; exact h.T d
  | some d'=>
   simp only[putT,Tr.get_set]
   by_cases q:d=d'
   ·subst q; simp
   ·have : (some d' == some d) = false := by simp; exact fun z => q z.symm
    rw[if_neg q]
    simp only[this]
    exact h.T d
theorem Uniq.cons{log:List Ent}(h:Uniq log){e0:Ent}(hx:∀ e ∈ log,e.x≠e0.x)(hd:∀ e ∈ log,∀ d,e.dst=some d→e0.dst≠some d)
  (ha:∀ e ∈ log,∀ i c ty c' ty',e.k=.a i c ty→e0.k≠.a i c' ty'):Uniq (e0::log):=by
 constructor
 ·intro e he e' he' q
  rcases List.mem_cons.1 he with rfl | h1 <;> rcases List.mem_cons.1 he' with rfl | h2
  ·rfl
  ·exact absurd q.symm (hx e' h2)
  ·exact absurd q (hx e h1)
  ·exact h.x e h1 e' h2 q
 ·intro e he e' he' d q q'
  rcases List.mem_cons.1 he with rfl | h1 <;> rcases List.mem_cons.1 he' with rfl | h2
  ·rfl
  ·exact absurd q (hd e' h2 d q')
  ·exact absurd q' (hd e h1 d q)
  ·exact h.d e h1 e' h2 d q q'
 ·intro e he e' he' i c ty c' ty' q q'
  rcases List.mem_cons.1 he with rfl | h1 <;> rcases List.mem_cons.1 he' with rfl | h2
  ·rfl
  ·exact absurd q (ha e' h2 i c' ty' c ty q')
  ·exact absurd q' (ha e h1 i c ty c' ty' q)
  ·exact h.a e h1 e' h2 i c ty c' ty' q q'
theorem J.virt(h : J P N ops A T0 n0 w₀ W g S φ t w Hm){x : Nat}{rest : List Nat}{o : Oper}(ho : ops[x]? = some o)(hne : isE o = false)
  (e:pw P rec N ops A x rest g=some g1):J P N ops A T0 n0 w₀ W g1 S φ t w Hm:=by
 unfold pw at e
 rw[ho] at e
 simp only at e
 split at e
 ·cases e
 rename_i hcond
 simp only[Bool.and_eq_true,Bool.not_eq_true'] at hcond
 obtain⟨⟨hN,hsl⟩,hil⟩:=hcond
 have hxS:x ∉ S:=by
  intro hx
  obtain⟨e',he',q⟩:=h.sub x hx
  have:nK g.log x=true:=kq.2 ⟨e',he',q⟩
  rw[hil] at this; cases this
 have main:∀(v:Value) (kx:Extra) (H1:Hp) (n1:Nat),RunOk P ops { x,dst:=o.dst,slots:=cj ops o,v,k:=kx } o (eZ g.T (cj ops o)) →
   kx≠.e→(∀ i,i<g.n→H1.get i=g.H.get i)→g.n≤n1→(∀ i c ty,kx=.a i c ty→g.n≤i∧i<n1) →
   (∀ i,(¬ ∃ c ty,kx=.a i c ty)→H1.get i=g.H.get i)→Cur P H1 n1 { x,dst:=o.dst,slots:=cj ops o,v,k:=kx } →
   J P N ops A T0 n0 w₀ W (addE g x o.dst (cj ops o) v kx H1 n1) S φ t w Hm:=by
  intro v kx H1 n1 hrun hke hH hn1 hid hH2 hcur
  obtain⟨q1,q2,q3,q4,q5,q6⟩:=UJ (v:=v) (kx:=kx) h hsl hil
  have hpend:∀ i,Pend S ({ x,dst:=o.dst,slots:=cj ops o,v,k:=kx }::g.log) i↔(∃ c ty,kx=.a i c ty)∨Pend S g.log i:=by
   intro i
   unfold Pend
   simp [hxS]
  have hbig:∀ i c ty,kx=.a i c ty→Hm.get i=none∧φ i=none:=by
   intro i c ty q
   have:=(hid i c ty q).1
   constructor
   ·cases hh : Hm.get i with
    | none=>rfl
    | some b=>obtain⟨p,o',f1,_⟩:=h.i.rel i b hh; have:=h.i.dom i p f1; omega
   ·cases hh : φ i with
    | none=>rfl
    | some p=>have:=h.i.dom i p hh; omega
  refine⟨?_,h.sz,h.i.up hn1,?_,?_,?_,h.cl,?_,?_,?_,?_,q6,Nat.le_trans h.nle hn1,?_,?_⟩
  ·intro d u hu; exact h.tr d u (by rw[← q5 S hxS d]; exact hu)
  ·intro i
   constructor
   ·intro hp
    rcases(hpend i).1 hp with⟨c,ty,q⟩ | hp
    ·exact(hbig i c ty q).1
    ·exact(h.hm i).1 hp
   ·intro hp
    have hp1:¬ Pend S g.log i:=fun z=>hp ((hpend i).2 (.inr z))
    have hp2:¬ ∃ c ty,kx=.a i c ty:=fun z=>hp ((hpend i).2 (.inl z))
    exact((h.hm i).2 hp1).trans (hH2 i hp2).symm
  ·intro i hp
   rcases(hpend i).1 hp with⟨c,ty,q⟩ | hp
   ·exact(hbig i c ty q).2
   ·exact h.pend i hp
  ·intro y hy
   obtain⟨e',he',q⟩:=h.sub y hy
   exact⟨e',List.mem_cons_of_mem _ he',q⟩
  ·refine h.un.cons q3 q4 ?_
   intro e' he' i c ty c' ty' a1 a2
   have:=(h.ids e' he' i c ty a1).2
   have:=(hid i c' ty' a2).1
   omega
  ·intro e' he'
   rcases List.mem_cons.1 he' with rfl | he'
   ·exact⟨o,eZ g.T (cj ops o),ho,rfl,hN,hrun,fun d hd=>by rw[ix,if_neg hd],q2⟩
   ·exact q1 e' he'
  ·intro e' he' hS'
   rcases List.mem_cons.1 he' with rfl | he'
   ·exact hcur
   ·have hc := h.cur e' he' hS'
    unfold Cur at hc ⊢
    split
    ·rename_i ty ad hk
     rw[hk] at hc
     simp only at hc
     rw[← hc]
     refine GJ ?_
     refine hH _ ?_
     cases hb:g.H.get ad.block with
     | none=>unfold az at hc; rw[hb] at hc; split at hc <;> cases hc
     | some b=>
      by_cases hlt:ad.block<g.n
      ·exact hlt
      ·rw[h.fresh (by omega)] at hb; cases hb
    ·rename_i id c ty hk
     rw[hk] at hc
     simp only at hc
     exact⟨(hH id hc.2).trans hc.1,Nat.lt_of_lt_of_le hc.2 hn1⟩
    ·rename_i ty mv kk ok v1 hk
     rw[hk] at hc
     simp only at hc
     rw[← hc]
     refine lookupV_congr fun r hr=>?_
     subst hr
     refine hH _ ?_
     obtain⟨b,hb⟩:=lookupV_some hc
     by_cases hlt:r<g.n
     ·exact hlt
     ·rw[h.fresh (by omega)] at hb; cases hb
    ·trivial
  ·intro e' he' hk
   rcases List.mem_cons.1 he' with rfl | he'
   ·exact absurd hk hke
   ·exact h.eff e' he' hk
  ·intro e' he' i c ty hk
   rcases List.mem_cons.1 he' with rfl | he'
   ·exact⟨Nat.le_trans h.nle (hid i c ty hk).1,(hid i c ty hk).2⟩
   ·exact⟨(h.ids e' he' i c ty hk).1,Nat.lt_of_lt_of_le (h.ids e' he' i c ty hk).2 hn1⟩
  ·intro e' he' i c ty hk p hp
   rcases List.mem_cons.1 he' with rfl | he'
   ·have := (hbig i c ty hk).2
    rw[this] at hp; cases hp
   ·exact h.za e' he' i c ty hk p hp
 split at e
 ·cases e
 ·rename_i hwa
  rw[hne] at e
  simp only[Option.some.injEq] at e; subst e
  exact main undef .p g.H g.n (.inl ⟨hwa,rfl,.inl rfl⟩) (fun z=>by cases z) (fun _ _=>rfl) (Nat.le_refl _) (fun _ _ _ z=>by cases z) (fun _ _=>rfl) trivial
 ·rename_i hwa
  unfold MX at e
  split at e
  ·rename_i hk
   split at e
   ·rename_i v s hv
    simp only[Option.some.injEq] at e; subst e
    exact main v .p g.H g.n (.inr ⟨hwa,kind_p hk hv⟩) (fun z=>by cases z) (fun _ _=>rfl) (Nat.le_refl _) (fun _ _ _ z=>by cases z) (fun _ _=>rfl) trivial
   ·cases e
  ·rename_i hk
   split at e
   ·rename_i ty a hop
    split at e
    ·rename_i ad had
     split at e
     ·rename_i v hv
      simp only[Option.some.injEq] at e; subst e
      exact main v (.l ty ad) g.H g.n (.inr ⟨hwa,a,hop,had⟩) (fun z=>by cases z) (fun _ _=>rfl) (Nat.le_refl _) (fun _ _ _ z=>by cases z) (fun _ _=>rfl) hv
     ·cases e
    ·cases e
   ·cases e
  ·rename_i hk
   split at e
   ·rename_i v s hv
    split at e
    ·rename_i c el hc
     simp only[Option.some.injEq] at e; subst e
     have hm:∀ tt,o.op≠.makeMap tt none:=by
      intro tt z
      rw[(qhx (t:=#[]) z hv).1] at hc
      simp only[newB,Tr.get_set,if_true,blkN] at hc
      cases hc
     have hrow:∃ c' el',s=mz ⟨eZ g.T (cj ops o),g.H,g.n,[]⟩ c' el' none:=by
      have h0:=hv
      obtain⟨dst,op,ty,pos,after,guard⟩:=o
      simp only at hk h0
      cases op with
      | alloc el=>simp only[aOp,Ej] at h0; split at h0 <;> simp at h0; exact⟨_,_,h0.2.symm⟩
      | box el x=>simp only[aOp,oBox] at h0; split at h0 <;> simp at h0; exact⟨_,_,h0.2.symm⟩
      | buildSlice tt len parts=>
       simp only[aOp,lQ] at h0
       (repeat' (split at h0)) <;> simp at h0
       exact⟨_,_,h0.2.symm⟩
      | makeSlice tt l c=>
       simp only[aOp,nJ] at h0
       (repeat' (split at h0)) <;> simp at h0
       exact⟨_,_,h0.2.symm⟩
      | call c=>
       obtain⟨cal,args,tys⟩:=c
       cases cal <;> simp [dj] at hk
       split at hk <;> cases hk
      | makeMap tt r=>
       cases r with
       | none=>exact absurd rfl (hm tt)
       | some r=>simp [dj] at hk
      | _=>simp [dj] at hk
     obtain⟨c',el',hs⟩:=hrow
     have hc':(mz ⟨eZ g.T (cj ops o),g.H,g.n,[]⟩ c' el' none).H.get g.n=some (.cells c' el' false none):=by simp [mz,Tr.get_set]
     rw[hs,hc'] at hc
     simp only[Option.some.injEq,Blk.cells.injEq,and_true] at hc
     obtain⟨rfl,rfl⟩:=hc
     have hget:∀ i,s.H.get i=if i=g.n then some (.cells c' el' false none) else g.H.get i:=by intro i; rw[hs]; simp [mz,Tr.get_set]
     have hsn:s.n=g.n+1:=by rw[hs]; rfl
     refine main v (.a g.n (some c') el') s.H s.n (.inr ⟨hwa,hk,g.H,by rw[show newB ⟨eZ g.T (cj ops o),g.H,g.n,[]⟩ (some c') el'=s from hs.symm]; exact hv⟩) (fun z=>by cases z) ?_ (by omega) ?_ ?_ ?_
     ·intro i hi; rw[hget,if_neg (by omega)]
     ·intro i c ty z; cases z; omega
     ·intro i hi
      rw[hget,if_neg]
      intro z; subst z; exact hi ⟨_,_,rfl⟩
     ·exact⟨by rw[hget,if_pos rfl]; rfl,by rw[hsn]; exact Nat.lt_succ_self _⟩
    ·rename_i hc
     simp only[Option.some.injEq] at e; subst e
     have hm:∃ tt,o.op=.makeMap tt none:=by
      by_cases q:∃ tt,o.op=.makeMap tt none
      ·exact q
      ·exfalso
       have h0:=hv
       obtain⟨dst,op,ty,pos,after,guard⟩:=o
       simp only at hk h0 q
       cases op with
       | alloc el=>simp only[aOp,Ej] at h0; split at h0 <;> simp at h0; rw[← h0.2] at hc; simp [mz,Tr.get_set] at hc
       | box el x=>simp only[aOp,oBox] at h0; split at h0 <;> simp at h0; rw[← h0.2] at hc; simp [mz,Tr.get_set] at hc
       | buildSlice tt len parts=>
        simp only[aOp,lQ] at h0
        (repeat' (split at h0)) <;> simp at h0
        rw[← h0.2] at hc; simp [mz,Tr.get_set] at hc
       | makeSlice tt l c=>
        simp only[aOp,nJ] at h0
        (repeat' (split at h0)) <;> simp at h0
        rw[← h0.2] at hc; simp [mz,Tr.get_set] at hc
       | call c=>
        obtain⟨cal,args,tys⟩:=c
        cases cal <;> simp [dj] at hk
        split at hk <;> cases hk
       | makeMap tt r=>
        cases r with
        | none=>exact q ⟨tt,rfl⟩
        | some r=>simp [dj] at hk
       | _=>simp [dj] at hk
     obtain⟨tt,hm⟩:=hm
     obtain⟨hs,rfl,_⟩:=qhx (t:=#[]) hm hv
     have hget:∀ i,s.H.get i=if i=g.n then some (.map [] 0) else g.H.get i:=by intro i; rw[hs]; simp [newB,Tr.get_set,blkN]
     have hsn:s.n=g.n+1:=by rw[hs]; rfl
     refine main (.map (some g.n)) (.a g.n none 0) s.H s.n (.inr ⟨hwa,hk,g.H,by rw[← hs]; exact hv⟩) (fun z=>by cases z) ?_ (by omega) ?_ ?_ ?_
     ·intro i hi; rw[hget,if_neg (by omega)]
     ·intro i c ty z; cases z; omega
     ·intro i hi
      rw[hget,if_neg]
      intro z; subst z; exact hi ⟨_,_,rfl⟩
     ·exact⟨by rw[hget,if_pos rfl]; rfl,by rw[hsn]; exact Nat.lt_succ_self _⟩
    ·cases e
   ·cases e
  ·rename_i hk
   simp [isE,hk] at hne
  ·rename_i hk
   split at e
   ·rename_i ty a b ok hop
    split at e
    ·rename_i mv kk hmv hkk
     split at e
     ·rename_i v hv
      simp only[Option.some.injEq] at e; subst e
      exact main v (.m ty mv kk ok v) g.H g.n (.inr ⟨hwa,rfl,a,b,hop,hmv,hkk⟩) (fun z=>by cases z) (fun _ _=>rfl) (Nat.le_refl _) (fun _ _ _ z=>by cases z) (fun _ _=>rfl) hv
     ·cases e
    ·cases e
   ·cases e
end Go.Ev
end
section
namespace Go.Ev
open Go
variable {P:Program} {w₀:World} {W:Sets} {φ:Phi} {st st':St} {w:World} {H Hm:Hp} {n n0:Nat} {rec:Rec}
 {f:FuncId} {t:Array Value} {k:List Item} {ds:List Deferred} {kd:CallKind} {ro:Option Nat} {cs:List Frame} {N:Nat}
 {opsA:Array Oper} {A:List Nat} {T0:Tm} {g g1:Reg} {S:List Nat}
theorem tr_of{r:Tm}{F:Nat→Option Value}{slots:List Nat}(h:TRF φ F t)(h1:∀ d,d ∉ slots→r.get d=none)(h2:∀ d ∈ slots,F d=r.get d):TR φ r t:=by
 intro d v e
 by_cases q:d ∈ slots
 ·exact h d v (by rw[h2 d q]; exact e)
 ·rw[h1 d q] at e; cases e
theorem trf_put{F F':Nat→Option Value}(h:TRF φ F t){dst:Option Tmp}{v v':Value}(hN:inN t.size dst=true)(hv:VR φ v v')
  (hF:∀ d,F' d=if dst=some d then some v else F d):TRF φ F' ((⟨t,[]⟩:Act).put dst v').tmps:=by
 intro d u e
 rw[hF] at e
 cases dst with
 | none=>simp at e; exact h d u e
 | some d'=>
  simp only[inN,Nat.blt_eq] at hN
  split at e
  ·rename_i q; cases q; cases e
   exact⟨v',by simp [Act.put,hN],hv⟩
  ·rename_i q
   obtain⟨u',a,b⟩:=h d u e
   refine⟨u',?_,b⟩
   have:d'≠d:=fun z=>q (by rw[z])
   simp only[Act.put]
   rw[Array.getElem?_setIfInBounds_ne this]; exact a
theorem TF_in(hu:Uniq g.log){e:Ent}(he:e ∈ g.log)(hS:e.x ∉ S)(d:Nat):TF (e.x::S) g.log T0 d=if e.dst=some d then some e.v else TF S g.log T0 d:=by
 unfold TF
 by_cases q:e.dst=some d
 ·rw[find_dst hu he q]; simp [q]
 ·rw [if_neg q]
  cases hf:g.log.find? (fun e=>e.dst == some d) with
  | none=>rfl
  | some e'=>
   have h1:=List.mem_of_find?_eq_some hf
   have h2:=List.find?_some hf
   simp at h2
   have hx:e'.x≠e.x:=by
    intro z; have:=hu.x e' h1 e he z; subst this; exact q h2
   simp [hx]
theorem Ik{o:Oper}{r:Tm}{b:Bool}(ht:TR φ r t)(e:pQ opsA.toList o.guard r=some b):Region.wanted o (yielded opsA t)=b:=Uz ht e
theorem J.real(h:J P N opsA.toList A T0 n0 w₀ W g S φ t w Hm){x:Nat}{rest:List Nat}{e:Ent}(he:e ∈ g.log)(hx:e.x=x)(hS:x ∉ S)(hanc:∀ y,bit A x y=true→y ∈ S) :
  ∃ φ' w' t' Hm',Ext φ n0 φ' g.n∧J P N opsA.toList A T0 n0 w₀ W g (x::S) φ' t' w' Hm' ∧
   Steps P (lone (fr f t (.inRegion opsA (x::rest)::k) ds kd ro) cs w) (lone (fr f t' (.inRegion opsA rest::k) ds kd ro) cs w'):=by
 subst hx
 obtain⟨o,r,ho,hdst,hN,hrun,hr1,hr2⟩:=h.ent e he
 have ho':opsA[e.x]?=some o:=by simpa using ho
 have hr2':=hr2 S h.cl hanc hS
 have htr:TR φ r t:=tr_of h.tr hr1 hr2'
 have hNt:inN t.size o.dst=true:=by rw[h.sz]; exact hN
 have hcl:Closed A (e.x::S):=by
  intro y hy z hz
  rcases List.mem_cons.1 hy with rfl | hy
  ·exact List.mem_cons_of_mem _ (hanc z hz)
  ·exact List.mem_cons_of_mem _ (h.cl y hy z hz)
 have fin:∀ {φ':Phi} {w':World} {v':Value} {Hm':Hp},Ext φ n0 φ' g.n→I w₀ W φ' Hm' g.n w'→VR φ' e.v v' →
   (∀ i,(Pend (e.x::S) g.log i→Hm'.get i=none)∧(¬ Pend (e.x::S) g.log i→Hm'.get i=g.H.get i))→(∀ i,Pend (e.x::S) g.log i→φ' i=none)→(∀ e ∈ g.log,∀ i c ty,e.k=.a i c ty→∀ p,φ' i=some p→p.2=0) →
   Steps P (lone (fr f t (.inRegion opsA (e.x::rest)::k) ds kd ro) cs w) (lone (fr f ((⟨t,[]⟩:Act).put o.dst v').tmps (.inRegion opsA rest::k) ds kd ro) cs w') →
   ∃ φ' w' t' Hm',Ext φ n0 φ' g.n∧J P N opsA.toList A T0 n0 w₀ W g (e.x::S) φ' t' w' Hm' ∧
    Steps P (lone (fr f t (.inRegion opsA (e.x::rest)::k) ds kd ro) cs w) (lone (fr f t' (.inRegion opsA rest::k) ds kd ro) cs w'):=by
  intro φ' w' v' Hm' hext hI hv hhm hp hza hst
  refine⟨φ',w',_,Hm',hext,⟨?_,?_,hI,hhm,hp,?_,hcl,h.un,h.ent,?_,?_,h.T,h.nle,h.ids,hza⟩,hst⟩
  ·exact trf_put (h.tr.mono hext.le) hNt hv (fun d=>by rw[TF_in h.un he hS d,hdst])
  ·have : ((⟨t, []⟩ : Act).put o.dst v').tmps.size = t.size := by cases o.dst <;> simp [Act.put]
   rw[this]; exact h.sz
  ·intro y hy
   rcases List.mem_cons.1 hy with rfl | hy
   ·exact⟨e,he,rfl⟩
   ·exact h.sub y hy
  ·intro e' he' hn; exact h.cur e' he' (fun z=>hn (List.mem_cons_of_mem _ z))
  ·intro e' he' hk; exact List.mem_cons_of_mem _ (h.eff e' he' hk)
 have pendSame:(∀ i c ty,e.k≠.a i c ty)→∀ i,Pend (e.x::S) g.log i↔Pend S g.log i:=by
  intro hna i
  constructor
  ·rintro⟨e',he',hn,hk⟩; exact⟨e',he',fun z=>hn (List.mem_cons_of_mem _ z),hk⟩
  ·rintro ⟨e', he', hn, c, ty, hk⟩
   refine⟨e',he',fun z=>?_,c,ty,hk⟩
   rcases List.mem_cons.1 z with q | q
   ·have:=h.un.x e' he' e he q; subst this; exact hna i c ty hk
   ·exact hn q
 have finSame:∀ {φ':Phi} {w':World} {v':Value},(∀ i c ty,e.k≠.a i c ty)→Ext φ g.n φ' g.n→I w₀ W φ' Hm g.n w'→VR φ' e.v v' →
   Steps P (lone (fr f t (.inRegion opsA (e.x::rest)::k) ds kd ro) cs w) (lone (fr f ((⟨t,[]⟩:Act).put o.dst v').tmps (.inRegion opsA rest::k) ds kd ro) cs w') →
   ∃ φ' w' t' Hm',Ext φ n0 φ' g.n∧J P N opsA.toList A T0 n0 w₀ W g (e.x::S) φ' t' w' Hm' ∧
    Steps P (lone (fr f t (.inRegion opsA (e.x::rest)::k) ds kd ro) cs w) (lone (fr f t' (.inRegion opsA rest::k) ds kd ro) cs w'):=by
  intro φ' w' v' hna hext hI hv hst
  have hnew:∀ i p,φ' i=some p→φ i=some p:=by
   intro i p hp
   rcases hext.new i p hp with q | q
   ·exact q
   ·have:=hI.dom i p hp; omega
  refine fin ⟨hext.le,fun i p hp=>.inl (hnew i p hp),h.nle⟩ hI hv (fun i=>⟨fun z=>(h.hm i).1 ((pendSame hna i).1 z),fun z=>(h.hm i).2 (fun y=>z ((pendSame hna i).2 y))⟩) ?_ (fun e' he' i c ty hk p hp=>h.za e' he' i c ty hk p (hnew i p hp)) hst
  intro i hi
  have h0:=h.pend i ((pendSame hna i).1 hi)
  cases hh:φ' i with
  | none=>rfl
  | some p=>rw[hnew i p hh] at h0; cases h0
 rcases hrun with⟨hwa,hv,hk⟩ | ⟨hwa,hk⟩
 ·
  refine finSame (by intro i c ty z; rcases hk with hk | hk <;> rw[hk] at z <;> cases z) (Ext.refl _ _) h.i (v':=undef) (by rw[hv]; exact bz.refl rfl) (.one (MV ho' (Ik htr hwa)))
 ·have hw := Ik htr hwa
  cases hek:e.k with
  | p=>
   rw[hek] at hk
   simp only at hk
   obtain ⟨φ', w', v', hext, hI, hv, hst⟩ := cOp_ok (P := P) (rec := fun _ _ _ _ => none) (f := f) (k := k) (ds := ds) (kd := kd) (ro := ro) (cs := cs) (rest := rest) (fun _ _ _ _ _ _ z => by cases z) (st := ⟨r, Hm, g.n, []⟩) h.i htr ho' hw
    (v:=e.v) (s:=⟨r,Hm,g.n,[]⟩) (by
     have:=hk Hm g.n []
     unfold cOp
     split
     ·rename_i c hop
      rw[hop] at this
      simp only[aOp] at this
      unfold cCall
      split
      ·rename_i fo hcal
       unfold Vk at this; rw[hcal] at this; cases this
      ·exact this
     ·exact this)
   exact finSame (by intro i c ty z; rw[hek] at z; cases z) hext hI hv hst
  | l ty ad=>
   rw[hek] at hk
   simp only at hk
   obtain⟨a,hop,had⟩:=hk
   have hcur:=h.cur e he hS
   unfold Cur at hcur; rw[hek] at hcur; simp only at hcur
   have hvr:=cJ (a:=⟨t,[]⟩) htr had
   simp only[VR] at hvr
   obtain⟨ad',hav,har⟩:=hvr
   have hload:az P Hm ty ad=some e.v:=by
    rw[← hcur]
    refine GJ ?_
    refine(h.hm _).2 ?_
    intro hp
    obtain⟨⟨c,hφ⟩,_⟩:=har
    rw[h.pend _ hp] at hφ; cases hφ
   obtain⟨v',hv1,hv2⟩:=ZW (P:=P) h.i har hload
   refine finSame (by intro i c ty z; rw[hek] at z; cases z) (Ext.refl _ _) h.i hv1 (.one (rv ho' hw (by intro c z; rw[hop] at z; cases z) (.inl ?_)))
   have:(execOp (⟨t,[]⟩:Act).eval o)=ik (Instr.loadAt ty ((⟨t,[]⟩:Act).eval a)):=by simp only[execOp,hop]; rfl
   rw[this]
   exact gq (by simp [Instr.loadAt,Instr.sureAddr,hav,hv2])
  | a id c ty=>
   rw[hek] at hk
   simp only at hk
   obtain⟨hka,H0,hop⟩:=hk
   have hcur:=h.cur e he hS
   unfold Cur at hcur; rw[hek] at hcur; simp only at hcur
   have hpid:φ id=none:=h.pend id ⟨e,he,hS,_,_,hek⟩
   have hext:Ext φ n0 (ext φ id (w.heap.size,0)) g.n:=by
    refine⟨Ek hpid,fun i p hp=>?_,h.nle⟩
    unfold ext at hp
    split at hp
    ·rename_i q; subst q; exact .inr (h.ids e he _ _ _ hek).1
    ·exact .inl hp
   have hpnd:∀ i,Pend (e.x::S) g.log i↔Pend S g.log i∧i≠id:=by
    intro i
    constructor
    ·rintro ⟨e', he', hn, c2, ty2, hk2⟩
     refine⟨⟨e',he',fun z=>hn (List.mem_cons_of_mem _ z),c2,ty2,hk2⟩,fun z=>?_⟩
     subst z
     have:=h.un.a e' he' e he _ _ _ _ _ hk2 hek
     subst this; exact hn (List.mem_cons_self)
    ·rintro ⟨⟨e', he', hn, c2, ty2, hk2⟩, hne⟩
     refine⟨e',he',fun z=>?_,c2,ty2,hk2⟩
     rcases List.mem_cons.1 z with q | q
     ·have := h.un.x e' he' e he q; subst this
      rw[hek] at hk2; cases hk2; exact hne rfl
     ·exact hn q
   have hhm:∀ i,(Pend (e.x::S) g.log i→(Hm.set id (some (blkN c ty))).get i=none)∧(¬ Pend (e.x::S) g.log i→(Hm.set id (some (blkN c ty))).get i=g.H.get i):=by
    intro i
    rw[Tr.get_set]
    constructor
    ·intro z
     obtain⟨z1,z2⟩:=(hpnd i).1 z
     rw[if_neg z2]; exact(h.hm i).1 z1
    ·intro z
     by_cases q:i=id
     ·subst q; rw[if_pos rfl]; exact hcur.1.symm
     ·rw[if_neg q]; exact(h.hm i).2 (fun y=>z ((hpnd i).2 ⟨y,q⟩))
   have hpp:∀ i,Pend (e.x::S) g.log i→ext φ id (w.heap.size,0) i=none:=by
    intro i z
    obtain⟨z1,z2⟩:=(hpnd i).1 z
    unfold ext; rw[if_neg z2]; exact h.pend i z1
   have hzz:∀ e ∈ g.log,∀ i c ty,e.k=.a i c ty→∀ p,ext φ id (w.heap.size,0) i=some p→p.2=0:=by
    intro e' he' i c2 ty2 hk2 p hp
    unfold ext at hp
    split at hp
    ·cases hp; rfl
    ·exact h.za e' he' i c2 ty2 hk2 p hp
   have hnc:∀ c,o.op≠.defer c:=by intro c2 z; rw[z] at hka; simp [dj] at hka
   by_cases hmm:∃ tt,o.op=.makeMap tt none
   ·obtain ⟨tt, hmm⟩ := hmm
    obtain⟨hs,hv0,hexec⟩:=qhx (t:=t) hmm hop
    simp only[newB,St.mk.injEq,true_and,and_true] at hs
    have hcc:blkN c ty=.map [] 0:=by
     have:=congrArg (fun q=>q.get id) hs
     simp only[Tr.get_set,if_true,Option.some.injEq] at this
     exact this
    rw[hcc] at hhm hcur
    have hI:=h.i.pushAt (Hn:=Hm.set id (some (.map [] 0))) hpid hcur.2 (b:=.map [] 0) (o:=.map #[] 0) (cp:=0)
     rfl (fun j=>Tr.get_set _ _ _ _)
    refine fin (v':=.map (some w.heap.size)) hext hI ?_ hhm hpp hzz (.one (rv ho' hw hnc (.inl (hexec w))))
    rw[hv0]
    simp only[VR]; exact⟨_,0,rfl,cW _ _ _⟩
   ·obtain ⟨c1, c', el, mk, hs, hpre, hmk, hmk2, hexec⟩ := kind_a hka (fun tt z => hmm ⟨tt, z⟩) htr hop
    simp only[newB,mz,St.mk.injEq,true_and,and_true] at hs
    have hcc:blkN c ty=.cells c1 el false none:=by
     have:=congrArg (fun q=>q.get id) hs
     simp only[Tr.get_set,if_true,Option.some.injEq] at this
     exact this
    rw[hcc] at hhm hcur
    have hI:=h.i.pushAt (Hn:=Hm.set id (some (.cells c1 el false none))) hpid hcur.2 (b:=.cells c1 el false none) (o:=.cells ⟨c'⟩ el) (cp:=0)
     ⟨⟨c'⟩,(0,0),rfl,fun _=>rfl,hpre,fun s z=>by cases z⟩ (fun j=>Tr.get_set _ _ _ _)
    refine fin (v':=mk w.heap.size) hext hI ?_ hhm hpp hzz (.one (rv ho' hw hnc (.inl (hexec w))))
    rw[hmk]
    rcases hmk2 with rfl | ⟨len,cap,hlen,rfl⟩
    ·simp only[ptr,VR]; exact⟨_,rfl,⟨0,cW _ _ _⟩,rfl,rfl⟩
    ·simp only[VR]; exact⟨_,_,rfl,.inl ⟨⟨⟨0,cW _ _ _⟩,rfl,rfl⟩,.inl ⟨hlen,rfl⟩⟩⟩
  | e=>exact absurd (h.eff e he hek) hS
  | m ty mv kk ok v1=>
   rw[hek] at hk
   simp only at hk
   obtain⟨rfl,a,b,hop,hmv,hkk⟩:=hk
   have hcur:=h.cur e he hS
   unfold Cur at hcur; rw[hek] at hcur; simp only at hcur
   have h1:=cJ (a:=⟨t,[]⟩) htr hmv
   have h2:=cJ (a:=⟨t,[]⟩) htr hkk
   have hlook:fZ P Hm ty mv kk ok=some e.v:=by
    rw[← hcur]
    refine lookupV_congr fun r hr=>?_
    refine(h.hm _).2 ?_
    intro hp
    subst hr
    simp only[VR] at h1
    obtain⟨r',c,_,hφ⟩:=h1
    rw[h.pend _ hp] at hφ; cases hφ
   obtain⟨hv2,hv1⟩:=lookupV_run (st:=⟨r,Hm,g.n,[]⟩) h.i h1 h2 hlook
   refine finSame (by intro i c ty z; rw[hek] at z; cases z) (Ext.refl _ _) h.i hv1 (.one (rv ho' hw (by intro c z; rw[hop] at z; cases z) (.inl ?_)))
   have:(execOp (⟨t,[]⟩:Act).eval o)=ik (Instr.lookup ty ((⟨t,[]⟩:Act).eval a) ((⟨t,[]⟩:Act).eval b) ok):=by simp only[execOp,hop]; rfl
   rw[this]
   exact gq hv2
theorem Ext.trans0{ψ χ:Phi}{m m':Nat}(h:Ext φ n0 ψ m)(g:Ext ψ n0 χ m'):Ext φ n0 χ m':=
 ⟨Phi.le_trans h.le g.le,fun i p e=>by
  rcases g.new i p e with x | x
  ·exact h.new i p x
  ·exact .inr x,g.n⟩
theorem J.effect(hs : Snd P rec)(h : J P N opsA.toList A T0 n0 w₀ W g S φ t w Hm){x : Nat}{rest rest' : List Nat}{o : Oper}(ho : opsA.toList[x]? = some o)(hE : isE o = true)
  (hanc:∀ y,bit A x y=true→y ∈ S) (e:pw P rec N opsA.toList A x rest' g=some g1) :
  (∀ y ∈ rest',bit A y x=true)∧nK g.log x=false∧(∃ e0,g1.log=e0::g.log∧e0.x=x) ∧
  ∃ φ' w' t' Hm',Ext φ n0 φ' g1.n∧J P N opsA.toList A T0 n0 w₀ W g1 (x::S) φ' t' w' Hm' ∧
   Steps P (lone (fr f t (.inRegion opsA (x::rest)::k) ds kd ro) cs w) (lone (fr f t' (.inRegion opsA rest::k) ds kd ro) cs w'):=by
 have ho':opsA[x]?=some o:=by simpa using ho
 unfold pw at e
 rw[ho] at e
 simp only at e
 split at e
 ·cases e
 rename_i hcond
 simp only[Bool.and_eq_true,Bool.not_eq_true'] at hcond
 obtain⟨⟨hN,hsl⟩,hil⟩:=hcond
 have hS:x ∉ S:=by
  intro hx
  obtain⟨e',he',q⟩:=h.sub x hx
  have:nK g.log x=true:=kq.2 ⟨e',he',q⟩
  rw[hil] at this; cases this
 have hNt:inN t.size o.dst=true:=by rw[h.sz]; exact hN
 have hcl:Closed A (x::S):=by
  intro y hy z hz
  rcases List.mem_cons.1 hy with rfl | hy
  ·exact List.mem_cons_of_mem _ (hanc z hz)
  ·exact List.mem_cons_of_mem _ (h.cl y hy z hz)
 have fin:∀ {v:Value} {H1:Hp} {n1:Nat} {φ':Phi} {w':World} {v':Value} {Hm':Hp},
   RunOk P opsA.toList { x,dst:=o.dst,slots:=cj opsA.toList o,v,k:=.e } o (eZ g.T (cj opsA.toList o)) →
   Ext φ n0 φ' n1→g.n≤n1→I w₀ W φ' Hm' n1 w'→VR φ' v v' →
   (∀ i,(Pend S g.log i→Hm'.get i=none)∧(¬ Pend S g.log i→Hm'.get i=H1.get i))→(∀ i,Pend S g.log i→φ' i=none)→(∀ e ∈ g.log,∀ i c ty,e.k=.a i c ty→∀ p,φ' i=some p→p.2=0) →
   (∀ e ∈ g.log,e.x ∉ S→Cur P H1 n1 e) →
   Steps P (lone (fr f t (.inRegion opsA (x::rest)::k) ds kd ro) cs w) (lone (fr f ((⟨t,[]⟩:Act).put o.dst v').tmps (.inRegion opsA rest::k) ds kd ro) cs w') →
   ∃ φ' w' t' Hm',Ext φ n0 φ' n1∧J P N opsA.toList A T0 n0 w₀ W (addE g x o.dst (cj opsA.toList o) v .e H1 n1) (x::S) φ' t' w' Hm' ∧
    Steps P (lone (fr f t (.inRegion opsA (x::rest)::k) ds kd ro) cs w) (lone (fr f t' (.inRegion opsA rest::k) ds kd ro) cs w'):=by
  intro v H1 n1 φ' w' v' Hm' hrun hext hn1 hI hv hhm hp hza hcur hst
  obtain⟨q1,q2,q3,q4,q5,q6⟩:=UJ (v:=v) (kx:=.e) h hsl hil
  have hun:=h.un.cons (e0:={ x,dst:=o.dst,slots:=cj opsA.toList o,v,k:=.e }) q3 q4 (fun _ _ _ _ _ _ _ _ z=>by cases z)
  have hpnd:∀ i,Pend (x::S) ({ x,dst:=o.dst,slots:=cj opsA.toList o,v,k:=.e }::g.log) i↔Pend S g.log i:=by
   intro i
   constructor
   ·rintro ⟨e', he', hn, c, ty, hk⟩
    rcases List.mem_cons.1 he' with rfl | he'
    ·cases hk
    ·exact⟨e',he',fun z=>hn (List.mem_cons_of_mem _ z),c,ty,hk⟩
   ·rintro ⟨e', he', hn, c, ty, hk⟩
    refine⟨e',List.mem_cons_of_mem _ he',fun z=>?_,c,ty,hk⟩
    rcases List.mem_cons.1 z with z | z
    ·exact q3 e' he' z
    ·exact hn z
  refine⟨φ',w',_,Hm',hext,⟨?_,?_,hI,fun i=>⟨fun z=>(hhm i).1 ((hpnd i).1 z),fun z=>(hhm i).2 (fun y=>z ((hpnd i).2 y))⟩,fun i z=>hp i ((hpnd i).1 z),?_,hcl,hun,?_,?_,?_,q6,hext.n,?_,?_⟩,hst⟩
  ·refine trf_put (h.tr.mono hext.le) hNt hv (fun d => ?_)
   have:=TF_in (g:=addE g x o.dst (cj opsA.toList o) v .e H1 n1) (S:=S) (T0:=T0) hun (List.mem_cons_self) hS d
   simp only[addE] at this ⊢
   rw[this]
   by_cases q:o.dst=some d
   ·simp [q]
   ·simp only[if_neg q]; exact q5 S hS d
  ·have : ((⟨t, []⟩ : Act).put o.dst v').tmps.size = t.size := by cases o.dst <;> simp [Act.put]
   rw[this]; exact h.sz
  ·intro y hy
   rcases List.mem_cons.1 hy with rfl | hy
   ·exact⟨_,List.mem_cons_self,rfl⟩
   ·obtain⟨e',he',q⟩:=h.sub y hy; exact⟨e',List.mem_cons_of_mem _ he',q⟩
  ·intro e' he'
   rcases List.mem_cons.1 he' with rfl | he'
   ·exact⟨o,eZ g.T (cj opsA.toList o),ho,rfl,hN,hrun,fun d hd=>by rw[ix,if_neg hd],q2⟩
   ·exact q1 e' he'
  ·intro e' he' hn
   rcases List.mem_cons.1 he' with rfl | he'
   ·exact absurd List.mem_cons_self hn
   ·exact hcur e' he' (fun z=>hn (List.mem_cons_of_mem _ z))
  ·intro e' he' hk
   rcases List.mem_cons.1 he' with rfl | he'
   ·exact List.mem_cons_self
   ·exact List.mem_cons_of_mem _ (h.eff e' he' hk)
  ·intro e' he' i c ty hk
   rcases List.mem_cons.1 he' with rfl | he'
   ·cases hk
   ·exact⟨(h.ids e' he' i c ty hk).1,Nat.lt_of_lt_of_le (h.ids e' he' i c ty hk).2 hn1⟩
  ·intro e' he' i c ty hk
   rcases List.mem_cons.1 he' with rfl | he'
   ·cases hk
   ·exact hza e' he' i c ty hk
 have htr:TR φ (eZ g.T (cj opsA.toList o)) t:=by
  obtain⟨_,q2,_,_,q5,_⟩:=UJ (v:=undef) (kx:=.e) h hsl hil
  refine tr_of h.tr (slots:=cj opsA.toList o) (fun d hd=>by rw[ix,if_neg hd]) (fun d hd=>?_)
  rw[← q2 S h.cl hanc hS d hd,q5 S hS d]
 split at e
 ·cases e
 ·rename_i hwa
  rw[hE] at e
  simp only at e
  split at e
  ·rename_i hbar
   simp only[Option.some.injEq] at e; subst e
   refine⟨by simpa using hbar,hil,⟨_,rfl,rfl⟩,?_⟩
   exact fin (.inl ⟨hwa,rfl,.inr rfl⟩) ⟨Phi.le_refl _,fun _ _ z=>.inl z,h.nle⟩ (Nat.le_refl _) h.i (bz.refl rfl) h.hm h.pend h.za h.cur (.one (MV ho' (Ik htr hwa)))
  ·cases e
 ·rename_i hwa
  have hw:=Ik htr hwa
  unfold MX at e
  split at e
  ·rename_i hk; simp [isE,hk] at hE
  ·rename_i hk; simp [isE,hk] at hE
  ·rename_i hk; simp [isE,hk] at hE
  case h_5=>rename_i hk; simp [isE,hk] at hE
  rename_i hk
  split at e
  case h_2=>cases e
  rename_i H1 hbar hmask
  split at e
  case h_2=>cases e
  rename_i v s hc
  split at e
  case h_2=>cases e
  rename_i H2 hback
  split at e
  case h_2=>cases e
  rename_i hchk
  simp only[Option.some.injEq] at e; subst e
  refine⟨by simpa using hbar,hil,⟨_,rfl,rfl⟩,?_⟩
  obtain⟨⟨m1,m2⟩,m3⟩:=maskL_ok hmask
  have bL:=backL_ok hback
  have hPA:∀ i,Pend S g.log i→AB A x g.log i:=by
   rintro i ⟨e',he',hn,c,ty,hk'⟩
   refine⟨e',he',?_,c,ty,hk'⟩
   cases hb:bit A x e'.x with
   | false=>rfl
   | true=>exact absurd (hanc _ hb) hn
  have hsub:Sub (Jz A x H1 g.log) Hm:=by
   intro i b' hi
   by_cases ha:AB A x g.log i
   ·rw[(wz i g.log).1 ha] at hi; cases hi
   ·rw [(wz i g.log).2 ha] at hi
    obtain⟨b,hb1,hb2⟩:=m1 i b' hi
    exact⟨b,by rw[(h.hm i).2 (fun z=>ha (hPA i z))]; exact hb1,hb2⟩
  obtain⟨φ',w',v',hext,hI,hv,hst⟩:=cOp_ok (f:=f) (k:=k) (ds:=ds) (kd:=kd) (ro:=ro) (cs:=cs) (rest:=rest) hs (st:=⟨eZ g.T (cj opsA.toList o),Jz A x H1 g.log,g.n,[]⟩) (h.i.sub hsub) htr ho' hw hc
  have hext0:Ext φ n0 φ' s.n:=⟨hext.le,fun i p z=>by
   rcases hext.new i p z with y | y
   ·exact .inl y
   ·exact .inr (Nat.le_trans h.nle y),Nat.le_trans h.nle hext.n⟩
  have hpφ:∀ i,Pend S g.log i→φ' i=none:=by
   intro i hp
   obtain⟨e',he',hn,c,ty,hk'⟩:=hp
   have h0:=h.pend i ⟨e',he',hn,c,ty,hk'⟩
   have hlt:=(h.ids e' he' i c ty hk').2
   cases hh:φ' i with
   | none=>rfl
   | some p=>
    rcases hext.new i p hh with y | y
    ·rw[y] at h0; cases h0
    ·simp only at y; omega
  have hzφ:∀ e ∈ g.log,∀ i c ty,e.k=.a i c ty→∀ p,φ' i=some p→p.2=0:=by
   intro e' he' i c ty hk' p hp
   rcases hext.new i p hp with y | y
   ·exact h.za e' he' i c ty hk' p y
   ·have:=(h.ids e' he' i c ty hk').2; simp only at y; omega
  let Hb:=Jk A x g.H H2 g.log
  have hHb:∀ i,(AB A x g.log i→Hb.get i=g.H.get i)∧(¬ AB A x g.log i→LB A x g.log i→Hb.get i=g.H.get i)∧(¬ AB A x g.log i→¬ LB A x g.log i→Hb.get i=s.H.get i):=by
   intro i
   refine⟨(Iz i g.log).1,fun ha hl=>?_,fun ha hl=>?_⟩
   ·exact((Iz i g.log).2 ha).trans ((bL i).1 hl).1
   ·exact((Iz i g.log).2 ha).trans ((bL i).2 hl)
  have hcut:∃ Hm':Hp,∀ i,(Pend S g.log i→Hm'.get i=none)∧(¬ Pend S g.log i→Hm'.get i=Hb.get i):=by
   have:∀ l:List Ent,(∀ e ∈ l,e ∈ g.log)→∃ Hm':Hp,∀ i,(Pend S l i→Hm'.get i=none)∧(¬ Pend S l i→Hm'.get i=Hb.get i):=by
    intro l
    induction l with
    | nil=>intro _; exact⟨Hb,fun i=>⟨fun⟨_,z,_⟩=>absurd z (by simp),fun _=>rfl⟩⟩
    | cons e' l ih=>
     intro hl
     obtain⟨Hx,hx⟩:=ih (fun e he=>hl e (List.mem_cons_of_mem _ he))
     have hc1:∀ i,Pend S (e'::l) i↔(e'.x ∉ S∧∃ c ty,e'.k=.a i c ty)∨Pend S l i:=by intro i; unfold Pend; simp
     by_cases q:e'.x ∈ S
     ·exact⟨Hx,fun i=>⟨fun z=>(hx i).1 (((hc1 i).1 z).resolve_left (fun y=>y.1 q)),fun z=>(hx i).2 (fun y=>z ((hc1 i).2 (.inr y)))⟩⟩
     ·cases hk' : e'.k with
      | a id c ty=>
       refine⟨Hx.set id none,fun i=>?_⟩
       rw[Tr.get_set]
       constructor
       ·intro z
        split
        ·rfl
        ·rename_i ne
         refine(hx i).1 (((hc1 i).1 z).resolve_left ?_)
         rintro⟨_,c',ty',hk2⟩
         rw[hk'] at hk2; cases hk2; exact ne rfl
       ·intro z
        rw[if_neg]
        ·exact(hx i).2 (fun y=>z ((hc1 i).2 (.inr y)))
        ·intro y; subst y; exact z ((hc1 i).2 (.inl ⟨q,c,ty,hk'⟩))
      | p=>exact⟨Hx,fun i=>⟨fun z=>(hx i).1 (((hc1 i).1 z).resolve_left (by rintro⟨_,c',ty',hk2⟩; rw[hk'] at hk2; cases hk2)),fun z=>(hx i).2 (fun y=>z ((hc1 i).2 (.inr y)))⟩⟩
      | l a b=>exact⟨Hx,fun i=>⟨fun z=>(hx i).1 (((hc1 i).1 z).resolve_left (by rintro⟨_,c',ty',hk2⟩; rw[hk'] at hk2; cases hk2)),fun z=>(hx i).2 (fun y=>z ((hc1 i).2 (.inr y)))⟩⟩
      | e=>exact⟨Hx,fun i=>⟨fun z=>(hx i).1 (((hc1 i).1 z).resolve_left (by rintro⟨_,c',ty',hk2⟩; rw[hk'] at hk2; cases hk2)),fun z=>(hx i).2 (fun y=>z ((hc1 i).2 (.inr y)))⟩⟩
      | m a b c d f=>exact⟨Hx,fun i=>⟨fun z=>(hx i).1 (((hc1 i).1 z).resolve_left (by rintro⟨_,c',ty',hk2⟩; rw[hk'] at hk2; cases hk2)),fun z=>(hx i).2 (fun y=>z ((hc1 i).2 (.inr y)))⟩⟩
   exact this g.log (fun _ z=>z)
  obtain⟨Hm',hm'⟩:=hcut
  have hIb:I w₀ W φ' Hm' s.n w':=by
   refine h.i.back hsub hI hext.le (fun i=>AB A x g.log i∨LB A x g.log i) ?_ ?_
   ·intro i b hno hi
    have hnp:¬ Pend S g.log i:=fun z=>hno (.inl (hPA i z))
    rw[(hm' i).2 hnp,(hHb i).2.2 (fun z=>hno (.inl z)) (fun z=>hno (.inr z))] at hi
    exact hi
   ·intro i b hov hi
    have hnp:¬ Pend S g.log i:=fun z=>by rw[(hm' i).1 z] at hi; cases hi
    rw[(hm' i).2 hnp] at hi
    have hgi:g.H.get i=some b:=by
     by_cases ha:AB A x g.log i
     ·rw[← (hHb i).1 ha]; exact hi
     ·rw[← (hHb i).2.1 ha (hov.resolve_left ha)]; exact hi
    have hmi:Hm.get i=some b:=by rw[(h.hm i).2 hnp]; exact hgi
    refine⟨⟨hmi,?_⟩,?_⟩
    ·cases hbf : b.isFam with
     | false=>rfl
     | true=>
      exfalso
      by_cases ha:AB A x g.log i
      ·obtain ⟨e', he', _, c, ty, hk'⟩ := ha
       cases b with
       | fam l el sz A' D'=>
        obtain⟨p,arr,f1,_,_,_,f2⟩:=ZV h.i hmi
        have:=h.za e' he' i c ty hk' p f1
        omega
       | _=>cases hbf
      ·have hl := hov.resolve_left ha
       obtain⟨b1,hb1⟩:=m3 i hl
       have hro:=m2 i b1 hl hb1
       obtain⟨b2,g1,g2⟩:=m1 i b1 hb1
       rw[hgi] at g1; cases g1
       rcases g2 with rfl | ⟨_,_,_,_,rfl,_⟩
       ·cases b1 <;> first | (cases hbf; done) | (cases hro; done)
       ·cases hbf
    by_cases ha:AB A x g.log i
    ·exact .inl ((wz i g.log).1 ha)
    ·have hl := hov.resolve_left ha
     cases hm1:H1.get i with
     | none=>exact .inl (by rw[(wz i g.log).2 ha]; exact hm1)
     | some b1=>exact .inr ⟨⟨b1,by rw[(wz i g.log).2 ha]; exact hm1,m2 i b1 hl hm1⟩,((bL i).1 hl).2⟩
  refine fin (.inr ⟨hwa,trivial⟩) hext0 hext.n hIb hv hm' hpφ hzφ ?_ hst
  intro e' he' hn
  have hcu:=h.cur e' he' hn
  have hbf:bit A x e'.x=false:=by
   cases hb:bit A x e'.x with
   | false=>rfl
   | true=>exact absurd (hanc _ hb) hn
  unfold Cur at hcu ⊢
  split
  ·rename_i ty ad hk'
   rw[hk'] at hcu
   simp only at hcu
   rw[← hcu]
   refine GJ ?_
   by_cases ha:AB A x g.log ad.block
   ·exact(hHb _).1 ha
   ·exact(hHb _).2.1 ha ⟨e',he',hbf,ty,ad,hk',rfl⟩
  ·rename_i id c ty hk'
   rw[hk'] at hcu
   simp only at hcu
   exact⟨((hHb id).1 ⟨e',he',hbf,c,ty,hk'⟩).trans hcu.1,Nat.lt_of_lt_of_le hcu.2 hext.n⟩
  ·rename_i ty mv kk ok v1 hk'
   have:=chkM_eq hchk e' he' hbf
   rw[hk'] at this
   exact chkE_m this
  ·trivial
end Go.Ev
end
section
namespace Go.Ev
open Go
variable {P:Program} {w₀:World} {W:Sets} {φ:Phi} {st st':St} {w:World} {H Hm:Hp} {n n0:Nat} {rec:Rec}
 {f:FuncId} {t:Array Value} {k:List Item} {ds:List Deferred} {kd:CallKind} {ro:Option Nat} {cs:List Frame} {N:Nat}
 {opsA:Array Oper} {ops:List Oper} {A:List Nat} {T0:Tm} {g g1 gf:Reg} {S:List Nat}
theorem CY{x:Nat}{rest:List Nat}(e:pw P rec N ops A x rest g=some g1) :
  (∃ o,ops[x]?=some o∧(isE o=true→∀ y ∈ rest,bit A y x=true))∧nK g.log x=false∧∃ e0,g1.log=e0::g.log∧e0.x=x:=by
 unfold pw at e
 split at e
 ·cases e
 rename_i o ho
 simp only at e
 split at e
 ·cases e
 rename_i hcond
 simp only[Bool.and_eq_true,Bool.not_eq_true'] at hcond
 refine⟨⟨o,ho,fun hE=>?_⟩,hcond.2,?_⟩
 ·split at e
  ·cases e
  ·rw [hE] at e
   simp only at e
   split at e
   ·rename_i hb; simpa using hb
   ·cases e
  ·have hk : dj o.op = .e := by
    unfold isE at hE
    split at hE
    ·assumption
    ·cases hE
   unfold MX at e
   rw[hk] at e
   simp only at e
   split at e
   ·rename_i hb _; simpa using hb
   ·cases e
 ·split at e
  ·cases e
  ·split at e
   ·split at e
    ·simp only[Option.some.injEq] at e; subst e; exact⟨_,rfl,rfl⟩
    ·cases e
   ·simp only[Option.some.injEq] at e; subst e; exact⟨_,rfl,rfl⟩
  ·unfold MX at e
   split at e
   ·split at e
    ·simp only[Option.some.injEq] at e; subst e; exact⟨_,rfl,rfl⟩
    ·cases e
   ·split at e
    ·split at e
     ·split at e
      ·simp only[Option.some.injEq] at e; subst e; exact⟨_,rfl,rfl⟩
      ·cases e
     ·cases e
    ·cases e
   ·split at e
    ·split at e
     ·simp only[Option.some.injEq] at e; subst e; exact⟨_,rfl,rfl⟩
     ·simp only[Option.some.injEq] at e; subst e; exact⟨_,rfl,rfl⟩
     ·cases e
    ·cases e
   ·split at e
    ·split at e
     ·split at e
      ·split at e
       ·simp only[Option.some.injEq] at e; subst e; exact⟨_,rfl,rfl⟩
       ·cases e
      ·cases e
     ·cases e
    ·cases e
   ·split at e
    ·split at e
     ·split at e
      ·simp only[Option.some.injEq] at e; subst e; exact⟨_,rfl,rfl⟩
      ·cases e
     ·cases e
    ·cases e
theorem qhk:∀ {π:List Nat} {g:Reg},J P N ops A T0 n0 w₀ W g S φ t w Hm→sy P rec N ops A π g=some gf →
  ∃ g' π',J P N ops A T0 n0 w₀ W g' S φ t w Hm∧sy P rec N ops A π' g'=some gf∧(∀ x,nK g.log x=true∨x ∈ π→nK g'.log x=true∨x ∈ π') ∧
   (π'=[]∨∃ x π'' g1,π'=x::π''∧pw P rec N ops A x π'' g'=some g1∧sy P rec N ops A π'' g1=some gf∧∃ o,ops[x]?=some o∧isE o=true)
 | [],g,h,e=>⟨g,[],h,e,fun _ z=>z,.inl rfl⟩
 | x::π,g,h,e=>by
  have e0:=e
  simp only[sy] at e
  split at e
  ·cases e
  ·rename_i g1 h1
   obtain⟨⟨o,ho,_⟩,_,e1,hl,hx⟩:=CY h1
   cases hE:isE o with
   | true=>exact⟨g,x::π,h,e0,fun _ z=>z,.inr ⟨x,π,g1,rfl,h1,e,o,ho,hE⟩⟩
   | false=>
    obtain⟨g',π',a,b,c,d⟩:=qhk (h.virt ho hE h1) e
    refine⟨g',π',a,b,fun y hy=>c y ?_,d⟩
    rw[hl]
    rcases hy with hy | hy
    ·left
     obtain⟨e2,he2,q⟩:=kq.1 hy
     exact kq.2 ⟨e2,List.mem_cons_of_mem _ he2,q⟩
    ·rcases List.mem_cons.1 hy with rfl | hy
     ·exact .inl (kq.2 ⟨e1,List.mem_cons_self,hx⟩)
     ·exact .inr hy
def LS(listed:Array Bool)(S:List Nat)(n:Nat):Prop:=∀ i,i<n→listed[i]?=some (decide (i ∈ S))
theorem LS.set{listed:Array Bool}{n i:Nat}(h:LS listed S n)(hi:i<n):LS (listed.setIfInBounds i true) (i::S) n:=by
 intro j hj
 rw[Array.getElem?_setIfInBounds]
 by_cases q:i=j
 ·subst q
  have:=h i hi
  have hlt:i<listed.size:=by
   rcases Nat.lt_or_ge i listed.size with y | y
   ·exact y
   ·rw[Array.getElem?_eq_none y] at this; cases this
  simp [hlt]
 ·rw [if_neg q, h j hj]
  have:¬ j=i:=fun z=>q z.symm
  simp [this]
structure AncOk (ops:List Oper) (A:List Nat):Prop where
 back:∀ x o,ops[x]?=some o→∀ e ∈ o.after,Region.binds .any e=true→e.on<x
 chain:∀ x o,ops[x]?=some o→∀ y,bit A x y=true→∃ e ∈ o.after,Region.binds .any e=true∧(e.on=y∨bit A e.on y=true)
theorem ancOk_ok(h:ancOk ops A=true):AncOk ops A:=by
 simp only[ancOk,List.all_eq_true,List.mem_range] at h
 have key:∀ x o,ops[x]?=some o→(∀ e ∈ o.after.toList,Gz e=true→e.on<x)∧(∀ y,y<x→bit A x y=true→∃ e ∈ o.after.toList,Gz e=true∧(e.on=y∨bit A e.on y=true))∧A.getD x 0<2 ^ x:=by
  intro x o ho
  have hlt:x<ops.length:=by
   rcases Nat.lt_or_ge x ops.length with y | y
   ·exact y
   ·rw[List.getElem?_eq_none y] at ho; cases ho
  have:=h x hlt
  rw[ho] at this
  simp only[Bool.and_eq_true,List.all_eq_true,List.mem_range,Bool.or_eq_true,Bool.not_eq_true',List.any_eq_true,Nat.blt_eq] at this
  obtain⟨⟨a,b⟩,c⟩:=this
  refine⟨fun e he hb=>?_,fun y hy hb=>?_,c⟩
  ·rcases a e he with q | q
   ·rw[hb] at q; cases q
   ·exact q
  ·rcases b y hy with q | ⟨e, he, hb1, q⟩
   ·rw[hb] at q; cases q
   ·exact⟨e,he,hb1,by rcases q with q | q; exact .inl (Nat.eq_of_beq_eq_true q); exact .inr q⟩
 constructor
 ·intro x o ho e he hb
  exact(key x o ho).1 e (Array.mem_toList_iff.2 he) hb
 ·intro x o ho y hb
  obtain⟨_,k2,k3⟩:=key x o ho
  have hy:y<x:=by
   rcases Nat.lt_or_ge y x with q | q
   ·exact q
   ·exfalso
    unfold bit at hb
    have:=Nat.testBit_lt_two_pow (Nat.lt_of_lt_of_le k3 (Nat.pow_le_pow_right (by omega) q))
    rw[this] at hb; cases hb
  obtain⟨e,he,a,b⟩:=k2 y hy hb
  exact⟨e,Array.mem_toList_iff.1 he,a,b⟩
theorem ready_iff{listed:Array Bool}(hl:LS listed S opsA.size)(hA:AncOk opsA.toList A){i:Nat} :
  i ∈ Region.ready .any opsA listed↔i<opsA.size∧i ∉ S∧∀ o,opsA[i]?=some o→∀ e ∈ o.after,Region.binds .any e=true→e.on ∈ S:=by
 unfold Region.ready
 rw[List.mem_filter,List.mem_range]
 constructor
 ·rintro ⟨hi, h⟩
  simp only[Bool.and_eq_true,Bool.not_eq_true'] at h
  obtain⟨h1,h2⟩:=h
  refine⟨hi,?_,?_⟩
  ·intro hS
   rw[Array.getD_eq_getD_getElem?,hl i hi] at h1
   simp [hS] at h1
  ·intro o ho e he hb
   rw[ho] at h2
   simp only[Option.map_some,Option.getD_some,Array.all_eq_true_iff_forall_mem,Bool.or_eq_true,Bool.not_eq_true'] at h2
   have hon:=hA.back i o (by simpa using ho) e he hb
   rcases h2 e he with q | q
   ·rw[hb] at q; cases q
   ·rw [Array.getD_eq_getD_getElem?, hl e.on (by omega)] at q
    simpa using q
 ·rintro ⟨hi, hS, hd⟩
  refine⟨hi,?_⟩
  have ho:opsA[i]?=some opsA[i]:=Array.getElem?_eq_getElem hi
  rw[Bool.and_eq_true,Array.getD_eq_getD_getElem?,hl i hi,ho]
  refine⟨by simp [hS],?_⟩
  simp only[Option.map_some,Option.getD_some,Array.all_eq_true_iff_forall_mem,Bool.or_eq_true,Bool.not_eq_true']
  intro e he
  cases hb:Region.binds .any e with
  | false=>exact .inl rfl
  | true=>
   right
   have hon:=hA.back i _ (show opsA.toList[i]?=some opsA[i] by rw[Array.getElem?_toList]; exact ho) e he hb
   rw[Array.getD_eq_getD_getElem?,hl e.on (by omega)]
   simpa using hd _ ho e he hb
theorem ready_nil{listed:Array Bool}(hl:LS listed S opsA.size)(hA:AncOk opsA.toList A)(h:Region.ready .any opsA listed=[]):∀ x,x<opsA.size→x ∈ S:=by
 intro x
 induction x using Nat.strongRecOn with
 | _ x ih=>
  intro hx
  by_cases q:x ∈ S
  ·exact q
  ·exfalso
   have:x ∈ Region.ready .any opsA listed:=(ready_iff hl hA).2 ⟨hx,q,fun o ho e he hb=>by
    have hon:=hA.back x o (by simpa using ho) e he hb
    exact ih e.on hon (by omega)⟩
   rw[h] at this; cases this
theorem J.done(h:J P N opsA.toList A T0 n0 w₀ W g S φ t w Hm){π:List Nat}(e:sy P rec N opsA.toList A π g=some gf)(hall:∀ x,x<opsA.size→x ∈ S) :
  TR φ gf.T t∧I w₀ W φ gf.H gf.n w∧n0≤gf.n:=by
 obtain⟨g',π',h',e',_,hπ⟩:=qhk h e
 have lt:∀ e ∈ g'.log,e.x<opsA.size:=by
  intro e he
  obtain⟨o,r,ho,_⟩:=h'.ent e he
  rcases Nat.lt_or_ge e.x opsA.size with q | q
  ·exact q
  ·rw[List.getElem?_eq_none (by simpa using q)] at ho; cases ho
 rcases hπ with rfl | ⟨x,π'',g1,rfl,h1,h2,o,ho,hE⟩
 ·simp only [sy, Option.some.injEq] at e'; subst e'
  refine⟨?_,h'.i.congr (fun i=>?_),h'.nle⟩
  ·intro d v hv
   refine h'.tr d v ?_
   rw[h'.T d] at hv
   unfold TF
   cases hf:g'.log.find? (fun e=>e.dst == some d) with
   | none=>rw[hf] at hv; exact hv
   | some e=>
    rw[hf] at hv
    have:=hall _ (lt e (List.mem_of_find?_eq_some hf))
    simp only[this,if_true]; exact hv
  ·refine ((h'.hm i).2 ?_).symm
   rintro⟨e,he,hn,_⟩
   exact hn (hall _ (lt e he))
 ·exfalso
  have hx:x<opsA.size:=by
   rcases Nat.lt_or_ge x opsA.size with q | q
   ·exact q
   ·rw[List.getElem?_eq_none (by simpa using q)] at ho; cases ho
  obtain⟨e,he,q⟩:=h'.sub x (hall x hx)
  have:=(CY h1).2.1
  rw[kq.2 ⟨e,he,q⟩] at this; cases this
theorem go_ok(hs:Snd P rec)(hA:AncOk opsA.toList A):∀(fuel tp:Nat) (listed:Array Bool) (g:Reg) (S:List Nat) (φ:Phi) (t:Array Value) (w:World) (Hm:Hp) (π todo:List Nat),
  J P N opsA.toList A T0 n0 w₀ W g S φ t w Hm→sy P rec N opsA.toList A π g=some gf→(∀ x,x<opsA.size→nK g.log x=true∨x ∈ π)→LS listed S opsA.size →
  (∀ x,x<opsA.size→x ∈ S∨x ∈ todo)→todo.length≤fuel →
  ∃ φ' w' t',Ext φ n0 φ' gf.n∧TR φ' gf.T t'∧t'.size=N∧I w₀ W φ' gf.H gf.n w' ∧
   Steps P (lone (fr f t (.inRegion opsA (Region.linearise.go .any opsA fuel tp listed [])::k) ds kd ro) cs w) (lone (fr f t' k ds kd ro) cs w'):=by
 intro fuel
 induction fuel with
 | zero=>
  intro tp listed g S φ t w Hm π todo h e hc hl ht hf
  have hall:∀ x,x<opsA.size→x ∈ S:=by
   intro x hx
   rcases ht x hx with q | q
   ·exact q
   ·have : todo = [] := List.eq_nil_of_length_eq_zero (by omega)
    rw[this] at q; cases q
  obtain⟨a,b,c⟩:=h.done e hall
  exact⟨φ,w,t,⟨Phi.le_refl _,fun _ _ z=>.inl z,c⟩,a,h.sz,b,by simpa [Region.linearise.go] using Steps.one zk⟩
 | succ fuel ih=>
  intro tp listed g S φ t w Hm π todo h e hc hl ht hf
  simp only[Region.linearise.go]
  change ∃ φ' w' t',Ext φ n0 φ' gf.n∧TR φ' gf.T t'∧t'.size=N∧I w₀ W φ' gf.H gf.n w' ∧
   Steps P (lone (fr f t (.inRegion opsA (match (Region.ready .any opsA listed)[tp % (Region.ready .any opsA listed).length]? with
    | some i=>Region.linearise.go .any opsA fuel (tp / (Region.ready .any opsA listed).length) (listed.setIfInBounds i true) [i]
    | none=>[].reverse)::k) ds kd ro) cs w) (lone (fr f t' k ds kd ro) cs w')
  cases hi:(Region.ready .any opsA listed)[tp % (Region.ready .any opsA listed).length]? with
  | none=>
   have hnil:Region.ready .any opsA listed=[]:=by
    cases hr:Region.ready .any opsA listed with
    | nil=>rfl
    | cons x xs=>
     rw[hr] at hi
     have hlt:tp % (x::xs).length<(x::xs).length:=Nat.mod_lt _ (by simp)
     simp at hi
     simp at hlt
     omega
   obtain⟨a,b,c⟩:=h.done e (ready_nil hl hA hnil)
   exact⟨φ,w,t,⟨Phi.le_refl _,fun _ _ z=>.inl z,c⟩,a,h.sz,b,Steps.one zk⟩
  | some i=>
   simp only[]
   rw[linearise_go_acc,List.reverse_singleton,List.singleton_append]
   obtain⟨hin,hiS,hid⟩:=(ready_iff hl hA).1 (List.mem_of_getElem? hi)
   have ho:opsA[i]?=some opsA[i]:=Array.getElem?_eq_getElem hin
   have hanc:∀ y,bit A i y=true→y ∈ S:=by
    intro y hy
    obtain⟨e',he',hb,q⟩:=hA.chain i _ (show opsA.toList[i]?=some opsA[i] by rw[Array.getElem?_toList]; exact ho) y hy
    have hon:=hid _ ho e' he' hb
    rcases q with rfl | q
    ·exact hon
    ·exact h.cl _ hon y q
   have ht':∀ x,x<opsA.size→x ∈ i::S∨x ∈ todo.erase i:=by
    intro x hx
    by_cases q:x=i
    ·exact .inl (by rw[q]; exact List.mem_cons_self)
    ·rcases ht x hx with y | y
     ·exact .inl (List.mem_cons_of_mem _ y)
     ·exact .inr ((List.mem_erase_of_ne q).2 y)
   have hlen:(todo.erase i).length≤fuel:=by
    have:i ∈ todo:=(ht i hin).resolve_left hiS
    rw[List.length_erase_of_mem this]; omega
   obtain⟨g',π',h',e',hc',hπ⟩:=qhk h e
   have hcov:∀ x,x<opsA.size→nK g'.log x=true∨x ∈ π':=fun x hx=>hc' x (hc x hx)
   by_cases hin':nK g'.log i=true
   ·obtain ⟨e0, he0, hx0⟩ := kq.1 hin'
    obtain⟨φ1,w1,t1,Hm1,x1,j1,s1⟩:=h'.real (f:=f) (k:=k) (ds:=ds) (kd:=kd) (ro:=ro) (cs:=cs) (rest:=Region.linearise.go .any opsA fuel (tp / (Region.ready .any opsA listed).length) (listed.setIfInBounds i true) []) he0 hx0 hiS hanc
    obtain⟨φ2,w2,t2,x2,a2,b2,c2,s2⟩:=ih _ _ _ _ _ _ _ _ _ _ j1 e' hcov (hl.set hin) ht' hlen
    exact⟨φ2,w2,t2,x1.trans0 x2,a2,b2,c2,Steps.trans s1 s2⟩
   ·have hip := (hcov i hin).resolve_left hin'
    rcases hπ with rfl | ⟨x,π'',g1,rfl,h1,h2,o,hox,hE⟩
    ·cases hip
    ·obtain ⟨⟨o', ho', hbar⟩, hnew, e1, hlog, hx1⟩ := CY h1
     rw[hox] at ho'; cases ho'
     have hxi:i=x:=by
      rcases List.mem_cons.1 hip with q | q
      ·exact q
      ·exfalso
       have hxS:=hanc x (hbar hE i q)
       obtain⟨e2,he2,q2⟩:=h'.sub x hxS
       rw[kq.2 ⟨e2,he2,q2⟩] at hnew; cases hnew
     subst hxi
     obtain⟨_,_,_,φ1,w1,t1,Hm1,x1,j1,s1⟩:=h'.effect hs (f:=f) (k:=k) (ds:=ds) (kd:=kd) (ro:=ro) (cs:=cs) (rest:=Region.linearise.go .any opsA fuel (tp / (Region.ready .any opsA listed).length) (listed.setIfInBounds i true) []) hox hE hanc h1
     have hcov1:∀ x,x<opsA.size→nK g1.log x=true∨x ∈ π'':=by
      intro y hy
      rw[hlog]
      rcases hcov y hy with q | q
      ·obtain ⟨e2, he2, q2⟩ := kq.1 q
       exact .inl (kq.2 ⟨e2,List.mem_cons_of_mem _ he2,q2⟩)
      ·rcases List.mem_cons.1 q with rfl | q
       ·exact .inl (kq.2 ⟨e1,List.mem_cons_self,hx1⟩)
       ·exact .inr q
     obtain⟨φ2,w2,t2,x2,a2,b2,c2,s2⟩:=ih _ _ _ _ _ _ _ _ _ _ j1 h2 hcov1 (hl.set hin) ht' hlen
     exact⟨φ2,w2,t2,x1.trans0 x2,a2,b2,c2,Steps.trans s1 s2⟩
theorem drawE_ok(hs:Snd P rec):DrawOk P (JJ P rec):=by
 intro f ops st st' e w₀ W φ w t ds kd k cs ro' tp hS
 unfold JJ at e
 simp only at e
 split at e
 case h_2=>cases e
 rename_i hcond
 simp only[Bool.and_eq_true] at hcond
 obtain⟨⟨hanc,hcov⟩,hmix⟩:=hcond
 split at e
 case h_2=>cases e
 rename_i g hrun
 simp only[Option.some.injEq] at e; subst e
 have hA:=ancOk_ok hanc
 have hJ:J P (ntm P f) ops.toList (ancs ops.toList) st.T st.n w₀ W { log:=[],T:=st.T,H:=st.H,n:=st.n } [] φ t w st.H:=by
  refine⟨fun d v z=>hS.tr d v z,hS.sz,hS.i,fun i=>⟨fun⟨_,z,_⟩=>absurd z (by simp),fun _=>rfl⟩,fun i ⟨_,z,_⟩=>absurd z (by simp),fun x z=>absurd z (by simp),fun x z=>absurd z (by simp),
   ⟨fun _ z=>absurd z (by simp),fun _ z=>absurd z (by simp),fun _ z=>absurd z (by simp)⟩,fun _ z=>absurd z (by simp),fun _ z=>absurd z (by simp),fun _ z=>absurd z (by simp),fun _=>rfl,Nat.le_refl _,fun _ z=>absurd z (by simp),fun _ z=>absurd z (by simp)⟩
 have hL:LS (Array.replicate ops.size false) [] ops.size:=by
  intro i hi
  simp [hi]
 have hcv:∀ x,x<ops.size→nK ({ log:=[],T:=st.T,H:=st.H,n:=st.n }:Reg).log x=true∨x ∈ order ops.toList (ancs ops.toList):=by
  intro x hx
  simp only[covers,List.all_eq_true,List.mem_range] at hcov
  exact .inr (by simpa using hcov x (by simpa using hx))
 obtain⟨φ',w',t',x1,a1,b1,c1,s1⟩:=go_ok (f:=f) (k:=k) (ds:=ds) (kd:=kd) (ro:=ro') (cs:=cs) hs hA ops.size tp (Array.replicate ops.size false) _ [] φ t w st.H _ (List.range ops.size) hJ hrun hcv hL (fun x hx=>.inr (List.mem_range.2 hx)) (by simp)
 refine⟨φ',w',t',x1,⟨c1,a1,b1,hS.d.mono x1.le⟩,?_⟩
 have:Region.schedule (P.follows .mixedOrders) ops tp=Region.linearise.go .any ops ops.size tp (Array.replicate ops.size false) []:=by
  simp [Region.schedule,hmix,Region.linearise]
 rw[this]; exact s1
theorem calls_of{P:Program}{rec:Rec}(hs:Snd P rec){f:FuncId}{args:List Value}{v:Value}{st st':St}(e:Jw P rec f args st=some (v,st'))
  {w₀:World} {W:Sets} {φ:Phi} {w:World} {args':List Value} (hI:I w₀ W φ st.H st.n w) (hargs:VRL φ args args') :
  Calls P f ⟨args'⟩ w fun en w'=>∃ φ' v',en=.returned v'∧VR φ' v v'∧Ext φ st.n φ' st'.n∧I w₀ W φ' st'.H st'.n w':=by
 unfold Jw at e
 split at e
 ·cases e
 rename_i fn hf
 split at e
 ·cases e
 rename_i c hb
 split at e
 ·cases e
 rename_i hcond
 simp only[Bool.or_eq_true,not_or,Bool.not_eq_true] at hcond
 obtain⟨hname,hlt⟩:=hcond
 have hlt:args.length≤fn.ntmps:=by simpa using hlt
 split at e
 ·cases e
 ·rename_i ex s hne hrec
  split at e
  ·cases e
  rename_i H' hH
  split at e
  ·cases e
  rename_i vs hvs
  simp only[Option.some.injEq,Prod.mk.injEq] at e
  obtain⟨rfl,rfl⟩:=e
  intro cs
  have hal:=hargs.length
  have h0:S w₀ W φ { T:=pj .nil 0 args,H:=st.H,n:=st.n,D:=[] } (ntm P f) (⟨args'⟩++Array.replicate (fn.ntmps-(⟨args'⟩:Array Value).size) undef) [] w:=by
   refine⟨hI,?_,?_,rfl⟩
   ·have := args_ok (φ := φ) (T := .nil) (i := 0) (pre := []) (List.replicate (fn.ntmps - args'.length) undef) hargs rfl TR.nil
    have e1:((⟨args'⟩:Array Value)++Array.replicate (fn.ntmps-(⟨args'⟩:Array Value).size) undef)=⟨[]++args'++List.replicate (fn.ntmps-args'.length) undef⟩:=by
     apply Array.ext'; simp
    rw[e1]; exact this
   ·rw[ntm_eq hf]; simp; omega
  obtain⟨φ1,w1,t1,ds1,hle,hS,hg⟩:=hs _ _ _ _ _ _ hrec w₀ W φ w _ [] .normal [] cs none h0 rfl
  have fin:∀ kk,Steps P (lone (fr f (⟨args'⟩++Array.replicate (fn.ntmps-(⟨args'⟩:Array Value).size) undef) [.code c] [] .normal none) cs w) (lone { fr f t1 kk ds1 .normal none with mode:=.returning } cs w1) →
    ∃ e w' fr,(∃ φ' v',e=.returned v'∧VR φ' (oneV vs) v'∧Ext φ st.n φ' s.n∧I w₀ W φ' H' s.n w')∧Comes P (lone (Frame.enter P f ⟨args'⟩ .normal) cs w) (lone fr cs w') e∧fr.fn=f∧fr.leaving P w' e:=by
   intro kk hst
   obtain⟨w2,hI2,hun⟩:=Uy (P:=P) (f:=f) (t:=t1) (k:=kk) (kd:=.normal) (ro:=none) (cs:=cs) hS.i hS.d hH
   obtain⟨v',hv',hres⟩:=results_ok (fn:=fn) hI2 hS.tr hvs
   refine⟨.returned v',w2,{ fr f t1 kk [] .normal none with mode:=.returning },⟨φ1,v',rfl,hv',hle,hI2⟩,?_,rfl,rfl,rfl,rfl,fn,hf,hres⟩
   rw[qgk hf hb]
   exact hst.trans hun
  cases ex with
  | exit id=>exact absurd rfl (hne id)
  | norm=>exact fin [] (Steps.trans hg (.one st_leave))
  | ret=>
   obtain⟨kk,hg⟩:=hg
   exact fin _ (Steps.trans hg (.one st_leave_ret))
 ·cases e
end Go.Ev
end
section
namespace Go.Ev
open Go
variable {P:Program} {w₀:World} {W:Sets} {φ:Phi} {st st':St} {w:World} {H:Hp} {n:Nat} {rec:Rec}
 {f:FuncId} {t:Array Value} {k:List Item} {ds:List Deferred} {kd:CallKind} {cs:List Frame} {N:Nat}
inductive Lv where
 | leaf
 | node (cut:Option (List Nat)) (a b:Lv)
def Lv.c:Lv→Option (List Nat)
 | .leaf=>none
 | .node c _ _=>c
def Lv.a:Lv→Lv
 | .leaf=>.leaf
 | .node _ a _=>a
def Lv.b:Lv→Lv
 | .leaf=>.leaf
 | .node _ _ b=>b
noncomputable def cutT:Option (List Nat)→Tm→Tm
 | none,T=>T
 | some L,T=>eZ T L
noncomputable def cutS(c:Option (List Nat))(st:St):St:={ st with T:=cutT c st.T }
theorem tY.cut{ro:Option Nat}{c:Code}{ex:Ex}{L:Option (List Nat)}(h:tY P ro f c (cutS L st) ex st'):tY P ro f c st ex st':=by
 intro w₀ W φ w t ds kd k cs ro' hS hro
 refine h w₀ W φ w t ds kd k cs ro' ⟨hS.i,?_,hS.sz,hS.d⟩ hro
 cases L with
 | none=>exact hS.tr
 | some L=>
  intro i v e
  simp only[cutS,cutT,ix] at e
  split at e
  ·exact hS.tr i v e
  ·cases e
abbrev RecL:=Lv→Option Nat→FuncId→Code→St→Option (Ex × St)
noncomputable def evA(P:Program)(rec:Rec)(lp:RecL)(draw:Draw)(ro:Option Nat)(f:FuncId):Code→Lv→St→Option (Ex × St)
 | .skip,_,st=>some (.norm,st)
 | .label _,_,st=>some (.norm,st)
 | .ret,_,st=>some (.ret,st)
 | .exit id,_,st=>some (.exit id,st)
 | .seq a b,lv,st=>seqE (evA P rec lp draw ro f a lv.a st) fun s=>evA P rec lp draw ro f b lv.b (cutS lv.c s)
 | .cond c a b,lv,st=>match opd c st.T with
  | some (.bool true)=>evA P rec lp draw ro f a lv.a st
  | some (.bool false)=>evA P rec lp draw ro f b lv.b st
  | _=>none
 | .block id c,lv,st=>Zk id (evA P rec lp draw ro f c lv.a st)
 | .scope c,lv,st=>evA P rec lp draw ro f c lv.a st
 | .loop c,lv,st=>seqE (evA P rec lp draw ro f c lv.a (cutS lv.c st)) fun s=>lp lv ro f (.loop c) (cutS lv.c s)
 | .region _ ops false,_,st=>normE (VJ P rec (ntm P f) ops.toList ops.toList st)
 | .region _ ops true,_,st=>normE (draw f (ntm P f) ops.toList st)
 | .rangeFunc x params assign body,_,st=>ZJ P rec ro f x params assign body st
 | _,_,_=>none
theorem GQ{lp:RecL}{draw:Draw}(hs:Snd P rec)(hlp:∀ lv,Snd P (lp lv))(hdr:DrawOk P draw){ro:Option Nat}:∀(c:Code) (lv:Lv) (st:St) (ex:Ex) (st':St),evA P rec lp draw ro f c lv st=some (ex,st')→tY P ro f c st ex st'
 | .skip,lv,st,ex,st',e=>by
  simp only[evA,Option.some.injEq,Prod.mk.injEq] at e
  obtain⟨rfl,rfl⟩:=e
  intro w₀ W φ w t ds kd k cs ro' hS hro
  exact⟨φ,w,t,ds,Ext.refl _ _,hS,.one st_skip⟩
 | .label l,lv,st,ex,st',e=>by
  simp only[evA,Option.some.injEq,Prod.mk.injEq] at e
  obtain⟨rfl,rfl⟩:=e
  intro w₀ W φ w t ds kd k cs ro' hS hro
  exact⟨φ,w,t,ds,Ext.refl _ _,hS,.one st_label⟩
 | .ret,lv,st,ex,st',e=>by
  simp only[evA,Option.some.injEq,Prod.mk.injEq] at e
  obtain⟨rfl,rfl⟩:=e
  intro w₀ W φ w t ds kd k cs ro' hS hro
  exact⟨φ,w,t,ds,Ext.refl _ _,hS,k,.refl _ _⟩
 | .exit id,lv,st,ex,st',e=>by
  simp only[evA,Option.some.injEq,Prod.mk.injEq] at e
  obtain⟨rfl,rfl⟩:=e
  intro w₀ W φ w t ds kd k cs ro' hS hro
  exact⟨φ,w,t,ds,Ext.refl _ _,hS,k,rfl,.refl _ _⟩
 | .seq a b,lv,st,ex,st',e=>by
  simp only[evA] at e
  cases ha:evA P rec lp draw ro f a lv.a st with
  | none=>rw[ha] at e; cases e
  | some r=>
   obtain⟨ex1,s⟩:=r
   rw[ha] at e
   have h1:=GQ hs hlp hdr a lv.a st ex1 s ha
   cases ex1 with
   | norm=>exact h1.then (GQ hs hlp hdr b lv.b _ ex st' e).cut
   | exit id=>simp only[seqE,Option.some.injEq,Prod.mk.injEq] at e; obtain⟨rfl,rfl⟩:=e; exact h1.out (by intro x; cases x)
   | ret=>simp only[seqE,Option.some.injEq,Prod.mk.injEq] at e; obtain⟨rfl,rfl⟩:=e; exact h1.out (by intro x; cases x)
 | .cond c a b,lv,st,ex,st',e=>by
  simp only[evA] at e
  split at e
  ·rename_i hc
   have h1:=GQ hs hlp hdr a lv.a st ex st' e
   intro w₀ W φ w t ds kd k cs ro' hS hro
   have hv:=cJ (a:=⟨t,[]⟩) hS.tr hc; simp only[VR] at hv
   obtain⟨φ1,w1,t1,ds1,hle1,hS1,g1⟩:=h1 w₀ W φ w t ds kd k cs ro' hS hro
   exact⟨φ1,w1,t1,ds1,hle1,hS1,.of_steps (.one (st_cond hv)) g1⟩
  ·rename_i hc
   have h1:=GQ hs hlp hdr b lv.b st ex st' e
   intro w₀ W φ w t ds kd k cs ro' hS hro
   have hv:=cJ (a:=⟨t,[]⟩) hS.tr hc; simp only[VR] at hv
   obtain⟨φ1,w1,t1,ds1,hle1,hS1,g1⟩:=h1 w₀ W φ w t ds kd k cs ro' hS hro
   exact⟨φ1,w1,t1,ds1,hle1,hS1,.of_steps (.one (st_cond hv)) g1⟩
  ·cases e
 | .block id c,lv,st,ex,st',e=>by
  simp only[evA] at e
  cases ha:evA P rec lp draw ro f c lv.a st with
  | none=>rw[ha] at e; cases e
  | some r=>
   obtain⟨ex1,s⟩:=r
   rw[ha] at e
   have h1:=GQ hs hlp hdr c lv.a st ex1 s ha
   intro w₀ W φ w t ds kd k cs ro' hS hro
   obtain⟨φ1,w1,t1,ds1,hle1,hS1,g1⟩:=h1 w₀ W φ w t ds kd (.inBlock id::k) cs ro' hS hro
   cases ex1 with
   | norm=>
    simp only[Zk,Option.some.injEq,Prod.mk.injEq] at e; obtain⟨rfl,rfl⟩:=e
    exact⟨φ1,w1,t1,ds1,hle1,hS1,.head OY (Steps.trans g1 (.one st_inBlock))⟩
   | exit j=>
    obtain⟨kk,hk,g1⟩:=g1
    simp only[Zk] at e
    split at e
    ·rename_i hj
     have hj:=Nat.eq_of_beq_eq_true hj; subst hj
     simp only[Option.some.injEq,Prod.mk.injEq] at e; obtain⟨rfl,rfl⟩:=e
     refine⟨φ1,w1,t1,ds1,hle1,hS1,.head OY (Steps.trans g1 (.one (st_exit ?_)))⟩
     rw[hk]; simp [exitTo]
    ·rename_i hj
     simp only[Option.some.injEq,Prod.mk.injEq] at e; obtain⟨rfl,rfl⟩:=e
     refine⟨φ1,w1,t1,ds1,hle1,hS1,kk,?_,.head OY g1⟩
     rw[hk]
     have:(id == j)=false:=by
      have h0:Nat.beq j id=false:=hj
      cases h:(id == j) with
      | false=>rfl
      | true=>have:=eq_of_beq h; subst this; rw[Nat.beq_refl] at h0; cases h0
     simp [exitTo,this]
   | ret=>
    simp only[Zk,Option.some.injEq,Prod.mk.injEq] at e; obtain⟨rfl,rfl⟩:=e
    obtain⟨kk,g1⟩:=g1
    exact⟨φ1,w1,t1,ds1,hle1,hS1,kk,.head OY g1⟩
 | .scope c,lv,st,ex,st',e=>by
  simp only[evA] at e
  have h1:=GQ hs hlp hdr c lv.a st ex st' e
  intro w₀ W φ w t ds kd k cs ro' hS hro
  obtain⟨φ1,w1,t1,ds1,hle1,hS1,g1⟩:=h1 w₀ W φ w t ds kd (.inScope c::k) cs ro' hS hro
  refine⟨φ1,w1,t1,ds1,hle1,hS1,.of_steps (.one st_scope) ?_⟩
  cases ex with
  | norm=>exact Steps.trans g1 (.one st_inScope)
  | exit id=>obtain⟨kk,hk,g1⟩:=g1; exact⟨kk,hk.trans (Uk (fun j x=>by cases x)),g1⟩
  | ret=>exact g1
 | .loop c,lv,st,ex,st',e=>by
  simp only[evA] at e
  cases ha:evA P rec lp draw ro f c lv.a (cutS lv.c st) with
  | none=>rw[ha] at e; cases e
  | some r=>
   obtain⟨ex1,s⟩:=r
   rw[ha] at e
   have h1:=(GQ hs hlp hdr c lv.a _ ex1 s ha).cut
   intro w₀ W φ w t ds kd k cs ro' hS hro
   obtain⟨φ1,w1,t1,ds1,hle1,hS1,g1⟩:=h1 w₀ W φ w t ds kd (.inLoop c::k) cs ro' hS hro
   cases ex1 with
   | norm=>
    simp only[seqE] at e
    obtain⟨φ2,w2,t2,ds2,hle2,hS2,g2⟩:=(hlp _ _ _ _ _ _ _ e).cut w₀ W φ1 w1 t1 ds1 kd k cs ro' hS1 (hro.mono hle1.le)
    exact⟨φ2,w2,t2,ds2,hle1.trans hle2,hS2,.of_steps (.head Iy g1) g2.again⟩
   | exit j=>
    simp only[seqE,Option.some.injEq,Prod.mk.injEq] at e; obtain⟨rfl,rfl⟩:=e
    obtain⟨kk,hk,g1⟩:=g1
    exact⟨φ1,w1,t1,ds1,hle1,hS1,kk,hk.trans (Uk (fun j x=>by cases x)),.head Iy g1⟩
   | ret=>
    simp only[seqE,Option.some.injEq,Prod.mk.injEq] at e; obtain⟨rfl,rfl⟩:=e
    obtain⟨kk,g1⟩:=g1
    exact⟨φ1,w1,t1,ds1,hle1,hS1,kk,.head Iy g1⟩
 | .region id ops false,lv,st,ex,st',e=>by
  simp only[evA] at e
  cases ha:VJ P rec (ntm P f) ops.toList ops.toList st with
  | none=>rw[ha] at e; cases e
  | some s=>
   rw[ha] at e
   simp only[normE,Option.some.injEq,Prod.mk.injEq] at e; obtain⟨rfl,rfl⟩:=e
   intro w₀ W φ w t ds kd k cs ro' hS hro
   obtain⟨φ1,w1,t1,hle,hS1,hst⟩:=evOps_ok (f:=f) (k:=k) (kd:=kd) (ro:=ro') (cs:=cs) hs (pre:=[]) rfl hS ha
   refine⟨φ1,w1,t1,ds,hle,hS1,.head st_region ?_⟩
   have:List.range ops.size=List.range' ([]:List Oper).length ops.toList.length:=by simp [List.range_eq_range']
   rw[this]; exact hst
 | .region id ops true,lv,st,ex,st',e=>by
  simp only[evA] at e
  cases ha:draw f (ntm P f) ops.toList st with
  | none=>rw[ha] at e; cases e
  | some s=>
   rw[ha] at e
   simp only[normE,Option.some.injEq,Prod.mk.injEq] at e; obtain⟨rfl,rfl⟩:=e
   intro w₀ W φ w t ds kd k cs ro' hS hro
   have hS':S w₀ W φ st (ntm P f) t ds { w with drawn:=w.drawn+1 }:=⟨hS.i.drew _,hS.tr,hS.sz,hS.d⟩
   obtain⟨φ1,w1,t1,hle,hS1,hst⟩:=hdr f ops st s ha w₀ W φ _ t ds kd k cs ro' (w.tape w.drawn (.order f id)) hS'
   exact⟨φ1,w1,t1,ds,hle,hS1,.head st_region_draw hst⟩
 | .rangeFunc x params assign body,lv,st,ex,st',e=>by
  simp only[evA] at e
  exact rangeE_ok hs e
 | .goto l,lv,st,ex,st',e=>by simp [evA] at e
 | .refuse y,lv,st,ex,st',e=>by simp [evA] at e
noncomputable def evFA(P:Program)(cal:Rec):Nat→RecL
 | 0,_,_,_,_,_=>none
 | k+1,lv,ro,f,c,st=>evA P cal (evFA P cal k) (JJ P cal) ro f c lv st
noncomputable def lvOf(A:FuncId→Lv)(f:FuncId)(c:Code):Option Nat→Lv
 | none=>A f
 | some _=>match c with
  | .block id _=>A (f+65536 * (id+1))
  | _=>.leaf
noncomputable def evLA(P:Program)(A:FuncId→Lv)(F:Nat):Nat→Rec
 | 0,_,_,_,_=>none
 | l+1,ro,f,c,st=>evFA P (evLA P A F l) F (lvOf A f c ro) ro f c st
theorem YQ(P:Program){cal:Rec}(hs:Snd P cal):∀ k lv,Snd P (evFA P cal k lv)
 | 0,_=>fun _ _ _ _ _ _ e=>by simp [evFA] at e
 | k+1,lv=>fun ro f c st ex st' e=>GQ hs (fun lv=>YQ P hs k lv) (drawE_ok hs) c lv st ex st' e
theorem evLA_ok(P:Program)(A:FuncId→Lv)(F:Nat):∀ l,Snd P (evLA P A F l)
 | 0=>fun _ _ _ _ _ _ e=>by simp [evLA] at e
 | l+1=>fun ro f c st ex st' e=>YQ P (evLA_ok P A F l) F _ ro f c st ex st' e
end Go.Ev
end
section
namespace Go.Ev
noncomputable section
open Go
def noneO{ρ:Type}:Option ρ:=none
def bindO{α ρ:Type}(o:Option α)(k:α→Option ρ):Option ρ:=Option.rec (motive:=fun _=>Option ρ) noneO k o
theorem kQ{α ρ:Type}{o:Option α}{k:α→Option ρ}{r:ρ}:bindO o k=some r↔∃ a,o=some a∧k a=some r:=by
 cases o with
 | none=>exact⟨fun h=>by simp [bindO,noneO] at h,fun⟨a,h,_⟩=>by cases h⟩
 | some a=>exact⟨fun h=>⟨a,rfl,h⟩,fun⟨b,h,k⟩=>by cases h; exact k⟩
def zz0{ρ:Type}:Option ρ:=none
def zz1{ρ:Type}:Option ρ:=zz0
def zz2{ρ:Type}:Option ρ:=zz1
def zz3{ρ:Type}:Option ρ:=zz2
def zz4{ρ:Type}:Option ρ:=zz3
def zz5{ρ:Type}:Option ρ:=zz4
def zz6{ρ:Type}:Option ρ:=zz5
def zz7{ρ:Type}:Option ρ:=zz6
def zz8{ρ:Type}:Option ρ:=zz7
def zz9{ρ:Type}:Option ρ:=zz8
def zz10{ρ:Type}:Option ρ:=zz9
def zz11{ρ:Type}:Option ρ:=zz10
def zz12{ρ:Type}:Option ρ:=zz11
def zz13{ρ:Type}:Option ρ:=zz12
def zz14{ρ:Type}:Option ρ:=zz13
def zz15{ρ:Type}:Option ρ:=zz14
def zz16{ρ:Type}:Option ρ:=zz15
def zz17{ρ:Type}:Option ρ:=zz16
def zz18{ρ:Type}:Option ρ:=zz17
def zz19{ρ:Type}:Option ρ:=zz18
def zz20{ρ:Type}:Option ρ:=zz19
def zz21{ρ:Type}:Option ρ:=zz20
def zz22{ρ:Type}:Option ρ:=zz21
def zz23{ρ:Type}:Option ρ:=zz22
def zz24{ρ:Type}:Option ρ:=zz23
def zz25{ρ:Type}:Option ρ:=zz24
def zz26{ρ:Type}:Option ρ:=zz25
def zz27{ρ:Type}:Option ρ:=zz26
def zz28{ρ:Type}:Option ρ:=zz27
def zz29{ρ:Type}:Option ρ:=zz28
def zz30{ρ:Type}:Option ρ:=zz29
def zz31{ρ:Type}:Option ρ:=zz30
def zz32{ρ:Type}:Option ρ:=zz31
def zz33{ρ:Type}:Option ρ:=zz32
def zz34{ρ:Type}:Option ρ:=zz33
def zz35{ρ:Type}:Option ρ:=zz34
def zz36{ρ:Type}:Option ρ:=zz35
def zz37{ρ:Type}:Option ρ:=zz36
def zz38{ρ:Type}:Option ρ:=zz37
def zz39{ρ:Type}:Option ρ:=zz38
def zz40{ρ:Type}:Option ρ:=zz39
theorem zz_eq{ρ:Type}:(zz40:Option ρ)=none:=rfl
def getK{α ρ:Type}(o:Option α)(k:α→Option ρ):Option ρ:=Option.rec (motive:=fun _=>Option ρ) zz40 k o
theorem nz{α ρ:Type}{o:Option α}{k:α→Option ρ}{r:ρ}:getK o k=some r↔∃ a,o=some a∧k a=some r:=by
 cases o with
 | none=>exact⟨fun h=>by simp [getK,zz_eq] at h,fun⟨a,h,_⟩=>by cases h⟩
 | some a=>exact⟨fun h=>⟨a,rfl,h⟩,fun⟨b,h,k⟩=>by cases h; exact k⟩
structure Cal where
 call:FuncId→List Value→Hp→Nat→Option (Value × Hp × Nat)
 body:Nat→FuncId→Code→St→Option (Ex × St)
structure Cal.Ok (P:Program) (cal:Cal) (rec:Rec):Prop where
 call:∀ f args (st:St) r,cal.call f args st.H st.n=some r→Jw P rec f args st=some (r.1,{ st with H:=r.2.1,n:=r.2.2 })
 body:∀ l f c st r,cal.body l f c st=some r→rec (some l) f c st=some r
def fV(c a b:Value):Option Value:=match c with
 | .bool true=>some a
 | .bool false=>some b
 | _=>none
def aX(v:Value):Option Addr:=match v with
 | .pointer (some a)=>some a
 | _=>none
def nx(P:Program)(t:TypeId)(ps:List (Nat × Value)):Option Value:=
 match jx P t with
 | some z=>match P.underlying t with
  | some (.struct fs)=>match JX P fs.toList with
   | some pl=>match nk (pl[·]?) (aQ z) ps with
    | some c=>some (.agg ⟨c⟩)
    | none=>none
   | none=>none
  | some (.array _ e)=>match szT P e with
   | some s=>match nk (fun i=>some (i * s,s)) (aQ z) ps with
    | some c=>some (.agg ⟨c⟩)
    | none=>none
   | none=>none
  | _=>none
 | none=>none
theorem buildV_of{P:Program}{T:Tm}{t:TypeId}{parts:List (Nat × Operand)}{ps:List (Nat × Value)}{v:Value}
  (h:uW T parts=some ps) (e:nx P t ps=some v):Zv P T t parts=some v:=by
 unfold Zv
 rw[h]
 unfold nx at e
 cases hz:jx P t with
 | none=>rw[hz] at e; cases e
 | some z=>rw[hz] at e; exact e
def nilV(v:Value):Option Value:=match v with
 | .pointer (some a)=>some (.pointer (some a))
 | .func (.func f) a b=>some (.func (.func f) a b)
 | _=>none
def dz(P:Program)(t:TypeId)(a v:Value)(H:Hp):Option Hp:=match a with
 | .pointer (some a)=>match szT P t with
  | some s=>if(aQ v).length=s then pX H a (aQ v) else none
  | none=>none
 | _=>none
def dk(P:Program)(v:Value)(m:Sem Value):Option Value:=match bz v with
 | true=>match cz P m with
  | some u=>match bz u with
   | true=>some u
   | false=>none
  | none=>none
 | false=>none
def zw(P:Program)(t:TypeId)(len:Nat)(ps:List (Nat × Value)):Option (List Value × TypeId):=
 match dY P t with
 | some e=>match szT P e,jx P e with
  | some s,some z=>if len * s≤16777216∧(aQ z).length=s∧len<capV then
    match nk (fun i=>some (i * s,s)) (repl len (aQ z)) ps with
    | some c=>some (c,e)
    | none=>none
   else none
  | _,_=>none
 | none=>none
def tupV(v:Value)(i:Nat):Option Value:=match v with
 | .tuple vs=>vs.toList[i]?
 | _=>none
section
variable {ρ:Type}
def newK(c:List Value)(e:TypeId)(H:Hp)(n:Nat)(k:Hp→Nat→Option ρ):Option ρ:=k (H.set n (some (.cells c e false none))) (n+1)
def jY(P:Program)(e:TypeId)(H:Hp)(n:Nat)(k:Value→Hp→Nat→Option ρ):Option ρ:=
 bindO (jx P e) fun z=>newK (aQ z) e H n fun H' n'=>k (ptr n) H' n'
def boxK(e:TypeId)(v:Value)(H:Hp)(n:Nat)(k:Value→Hp→Nat→Option ρ):Option ρ:=
 newK (aQ v) e H n fun H' n'=>k (ptr n) H' n'
def rowK(P:Program)(t:TypeId)(len:Nat)(ps:List (Nat × Value))(H:Hp)(n:Nat)(k:Value→Hp→Nat→Option ρ):Option ρ:=
 bindO (zw P t len ps) fun r=>newK r.1 r.2 H n fun H' n'=>k (.slice (some ⟨n,0,none⟩) len len) H' n'
def binK(P:Program)(op:BinOp)(t:TypeId)(x y:Operand)(a b:Value)(k:Value→Option ρ):Option ρ:=bindO (binV P op t x y a b) k
def stK(o:Option (Value × St))(k:Value→Hp→Nat→Option ρ):Option ρ:=bindO o fun r=>k r.1 r.2.H r.2.n
def bare(H:Hp)(n:Nat):St:={ T:=.nil,H,n,D:=[] }
def jk(P:Program)(t:TypeId)(l c:Value)(st:St):Option (Value × St):=match dY P t,l,c with
 | some e,.int .i64 (.ofNat l),.int .i64 (.ofNat c)=>match szT P e,sK P e,jx P e with
  | some s,some b,some z=>if l≤c∧yW c s b∧(aQ z).length=s then
    some (.slice (some ⟨st.n,0,none⟩) l c,mz st (repl c (aQ z)) e none)
   else none
  | _,_,_=>none
 | _,_,_=>none
def newMapK(H:Hp)(n:Nat)(k:Value→Hp→Nat→Option ρ):Option ρ:=k (.map (some n)) (H.set n (some (.map [] 0))) (n+1)
def aZ(P:Program)(cal:Cal)(f:FuncId)(args:List Value)(H:Hp)(n:Nat)(k:Value→Hp→Nat→Option ρ):Option ρ:=
 match ux P f && ek args with
 | false=>bindO (cal.call f args H n) fun r=>k r.1 r.2.1 r.2.2
 | true=>bindO (cal.call f args .nil 0) fun r=>match bz r.1 with
  | true=>k r.1 H n
  | false=>none
def iQ(P:Program)(cal:Cal)(v:Value)(args:List Value)(H:Hp)(n:Nat)(k:Value→Hp→Nat→Option ρ):Option ρ:=
 match v with
 | .func (.func g) first cap=>aZ P cal g (first.toList++args++cap.toList) H n k
 | .func (.yield l) ⟨[]⟩ ⟨[]⟩=>stK (Bw (fun | some l=>cal.body l | none=>fun _ _ _=>none) P l args (bare H n)) k
 | _=>none
def fK(P:Program)(b:Builtin)(ts:List TypeId)(c:Call)(type:TypeId)(vs:List Value)(H:Hp)(n:Nat)(k:Value→Hp→Nat→Option ρ):Option ρ:=
 match b,ts,vs with
 | .len,t::_,[v]=>bindO (lenV P t v) fun v=>k v H n
 | .append,[t,t2],[v,u]=>stK (NZ P (bare H n) (keepC c) t t2 v u) k
 | .copy,t::_,[v,u]=>stK (Jv P (bare H n) t v u) k
 | .min,_,vs | .max,_,vs=>match ek vs with
  | true=>match cz P (builtin b c.argTypes type (c.args.map fun | .const _=>true | _=>false) ⟨vs⟩) with
   | some (.value u)=>match bz u with
    | true=>k u H n
    | false=>none
   | _=>none
  | false=>none
 | _,_,_=>none
def GV(P:Program)(cal:Cal)(c:Call)(type:TypeId)(T:Tm)(H:Hp)(n:Nat)(k:Value→Hp→Nat→Option ρ):Option ρ:=
 match c.callee with
 | .value f=>getK (opd f T) fun v=>getK (opds T c.args.toList) fun vs=>iQ P cal v vs H n k
 | .builtin b=>getK (opds T c.args.toList) fun vs=>fK P b c.argTypes.toList c type vs H n k
 | _=>none
def opE(P:Program)(cal:Cal)(op:Op)(type:TypeId)(T:Tm)(H:Hp)(n:Nat)(k:Value→Hp→Nat→Option ρ):Option ρ:=
 match op with
 | .move x | .assign x=>getK (opd x T) fun v=>k v H n
 | .pick c a b=>getK (opd c T) fun c=>getK (opd a T) fun a=>getK (opd b T) fun b=>bindO (fV c a b) fun v=>k v H n
 | .alloc e=>jY P e H n k
 | .box e x=>getK (opd x T) fun v=>boxK e v H n k
 | .build t parts=>getK (uW T parts.toList) fun ps=>bindO (nx P t ps) fun v=>k v H n
 | .buildSlice t len parts=>getK (uW T parts.toList) fun ps=>rowK P t len ps H n k
 | .load t a=>getK (opd a T) fun v=>bindO (aX v) fun a=>bindO (az P H t a) fun v=>k v H n
 | .store t a x=>getK (opd a T) fun a=>getK (opd x T) fun v=>bindO (dz P t a v H) fun H=>k undef H n
 | .nilCheck x=>getK (opd x T) fun v=>bindO (nilV v) fun v=>k v H n
 | .binOp op t x y _=>getK (opd x T) fun a=>getK (opd y T) fun b=>binK P op t x y a b fun v=>k v H n
 | .unOp op _ x=>getK (opd x T) fun a=>bindO (dk P a (Op.unary op a)) fun v=>k v H n
 | .convert s d x=>getK (opd x T) fun a=>bindO (dk P a (convert s d a)) fun v=>k v H n
 | .makeFunc fn first cap=>match fn with
  | .func f=>getK (opds T first.toList) fun a=>getK (opds T cap.toList) fun b=>k (.func (.func f) ⟨a⟩ ⟨b⟩) H n
  | _=>none
 | .makeSlice t l c=>getK (opd l T) fun l=>getK (opd c T) fun c=>stK (jk P t l c (bare H n)) k
 | .slice t x lo hi none=>getK (opd x T) fun v=>getK (opdO lo T) fun l=>getK (opdO hi T) fun h=>bindO (lw P t v l h) fun v=>k v H n
 | .fieldAddr t x f=>getK (opd x T) fun v=>bindO (ax P t v f) fun v=>k v H n
 | .field t x f=>getK (opd x T) fun v=>bindO (Qq P t v f) fun v=>k v H n
 | .indexAddr t x i=>getK (opd x T) fun v=>getK (opd i T) fun i=>bindO (aJ P t v i) fun v=>k v H n
 | .index t x i=>getK (opd x T) fun v=>getK (opd i T) fun i=>bindO (uX P t v i) fun v=>k v H n
 | .extract t i=>getK (opd t T) fun v=>bindO (tupV v i) fun v=>k v H n
 | .call c=>GV P cal c type T H n k
 | .makeMap _ none=>newMapK H n k
 | .lookup t m x ok=>getK (opd m T) fun m=>getK (opd x T) fun x=>bindO (fZ P H t m x ok) fun v=>k v H n
 | .mapUpdate t m x v=>getK (opd m T) fun m=>getK (opd x T) fun x=>getK (opd v T) fun v=>bindO (vz P t m x v H) fun H=>k undef H n
 | .mapEntry t m x=>getK (opd m T) fun m=>getK (opd x T) fun x=>bindO (mapEntV P t m x H) fun r=>k r.1 r.2 n
 | .entryStore _ m s v=>getK (opd m T) fun m=>getK (opd s T) fun s=>getK (opd v T) fun v=>bindO (entStV m s v H) fun H=>k undef H n
 | _=>none
end
end
end Go.Ev
end
section
namespace Go.Ev
open Go
variable {P:Program} {cal:Cal} {rec:Rec} {ρ:Type} {r:ρ}
def lift(st:St)(o:Option (Value × St)):Option (Value × St):=match o with
 | some r=>some (r.1,{ st with H:=r.2.H,n:=r.2.n })
 | none=>none
theorem appendTo_st{st:St}{e s a len cap old new n}:oZ st e s a len cap old new n=lift st (oZ (bare st.H st.n) e s a len cap old new n):=by
 simp only[oZ,bare]
 cases Nat.blt cap capV with
 | true=>
  simp only
  cases Nat.ble (len+n) cap with
  | true=>
   simp only
   cases pX st.H (addA a (len * s)) new <;> rfl
  | false=>rfl
 | false=>
  simp only
  split
  ·split <;> rfl
  ·rfl
theorem appendV_st{st:St}{t t2:TypeId}{x y:Value}:cZ P st t t2 x y=lift st (cZ P (bare st.H st.n) t t2 x y):=by
 have e1:(bare st.H st.n).H=st.H:=rfl
 simp only[cZ,appendTo_st (st:=st),e1]
 split
 ·split
  ·split
   ·split
    ·split
     ·rfl
     ·split <;> rfl
    ·split <;> rfl
    ·rfl
   ·rfl
  ·rfl
 ·rfl
theorem copyV_st{st:St}{t:TypeId}{x y:Value}:Jv P st t x y=lift st (Jv P (bare st.H st.n) t x y):=by
 simp only[Jv]
 split
 ·split
  ·split
   ·split
    ·rfl
    ·simp only [bare]
     split
     ·split <;> rfl
     ·rfl
   ·rfl
  ·rfl
 ·rfl
theorem makeSlice_st{st:St}{t:TypeId}{x y:Value}:jk P t x y st=lift st (jk P t x y (bare st.H st.n)):=by
 simp only[jk]
 split
 ·split
  ·split <;> rfl
  ·rfl
 ·rfl
theorem lift_eq{st:St}{o:Option (Value × St)}{k:Value→Hp→Nat→Option ρ}(e:stK o k=some r):∃ v s,lift st o=some (v,s)∧s.T=st.T∧s.D=st.D∧k v s.H s.n=some r:=by
 simp only[stK,kQ] at e
 obtain⟨⟨v,s⟩,rfl,h⟩:=e
 exact⟨v,_,rfl,rfl,rfl,h⟩
theorem UQ{T:Tm}{x:Operand}{l:List Operand}{vs:List Value}(h:opds T (x::l)=some vs):∃ v vs',vs=v::vs'∧opd x T=some v∧opds T l=some vs':=by
 simp only[opds] at h
 split at h
 ·cases h
 ·rename_i v hv
  split at h
  ·cases h
  ·rename_i us hus; cases h; exact⟨v,us,rfl,hv,hus⟩
theorem opds_one{T:Tm}{l:List Operand}{v:Value}(h:opds T l=some [v]):∃ x,l=[x]∧opd x T=some v:=by
 cases l with
 | nil=>simp [opds] at h
 | cons x l=>
  obtain⟨_,_,e,h1,h2⟩:=UQ h
  cases e
  cases l with
  | nil=>exact⟨x,rfl,h1⟩
  | cons y l=>obtain⟨_,_,e,_⟩:=UQ h2; cases e
theorem opds_two{T:Tm}{l:List Operand}{v u:Value}(h:opds T l=some [v,u]):∃ x y,l=[x,y]∧opd x T=some v∧opd y T=some u:=by
 cases l with
 | nil=>simp [opds] at h
 | cons x l=>
  obtain⟨_,_,e,h1,h2⟩:=UQ h
  cases e
  obtain⟨y,rfl,h3⟩:=opds_one h2
  exact⟨x,y,rfl,h1,h3⟩
theorem pureSem_eq{v:Value}{m:Sem Value}{u:Value}(h:dk P v m=some u):bz v=true∧cz P m=some u∧bz u=true:=by
 unfold dk at h
 split at h
 ·rename_i hv
  split at h
  ·rename_i x hx
   split at h
   ·rename_i hu; cases h; exact⟨hv,hx,hu⟩
   ·cases h
  ·cases h
 ·cases h
theorem callFK_ok(hc:cal.Ok P rec){f:FuncId}{args:List Value}{st:St}{k:Value→Hp→Nat→Option ρ}(e:aZ P cal f args st.H st.n k=some r) :
  ∃ v s,callF P rec f args st=some (v,s)∧s.T=st.T∧s.D=st.D∧k v s.H s.n=some r:=by
 unfold aZ at e
 unfold callF
 split at e
 ·rename_i hp
  rw[hp]
  simp only[kQ] at e
  obtain⟨x,hx,hk⟩:=e
  exact⟨_,_,hc.call _ _ st _ hx,rfl,rfl,hk⟩
 ·rename_i hp
  rw[hp]
  simp only[kQ] at e
  obtain⟨x,hx,hk⟩:=e
  split at hk
  ·rename_i hpv
   have:=hc.call f args { T:=.nil,H:=.nil,n:=0,D:=[] } _ hx
   simp only[this,hpv]
   exact⟨_,_,rfl,rfl,rfl,hk⟩
  ·cases hk
theorem yieldF_ok'(hc:cal.Ok P rec){l:Nat}{args:List Value}{st:St}{k:Value→Hp→Nat→Option ρ}
  (e:stK (Bw (fun | some l=>cal.body l | none=>fun _ _ _=>none) P l args (bare st.H st.n)) k=some r) :
  ∃ v s,Bw rec P l args st=some (v,s)∧s.T=st.T∧s.D=st.D∧k v s.H s.n=some r:=by
 simp only[stK,kQ] at e
 obtain⟨⟨v,s⟩,h,hk⟩:=e
 unfold Bw at h ⊢
 have e1:(bare st.H st.n).H=st.H:=rfl
 have e2:(bare st.H st.n).n=st.n:=rfl
 simp only[e1,e2] at h
 split at h
 ·split at h
  ·split at h
   ·rename_i s1 h1
    have h1':=hc.body _ _ _ _ _ h1
    split at h
    ·rename_i H1 hr1 hs1
     split at h
     ·rename_i ex s2 h2
      have h2':=hc.body _ _ _ _ _ h2
      split at h
      ·cases h
      ·rename_i j hj
       split at h
       ·rename_i H2 hH2
        simp only[Option.some.injEq,Prod.mk.injEq] at h
        obtain⟨rfl,rfl⟩:=h
        refine⟨.bool j.isNone,{ st with H:=H2,n:=s2.n },?_,rfl,rfl,hk⟩
        simp only[*]
       ·cases h
     ·cases h
    ·cases h
   ·cases h
  ·cases h
 ·cases h
theorem callVK_ok(hc:cal.Ok P rec){v:Value}{args:List Value}{st:St}{k:Value→Hp→Nat→Option ρ}(e:iQ P cal v args st.H st.n k=some r) :
  ∃ v' s,callV P rec v args st=some (v',s)∧s.T=st.T∧s.D=st.D∧k v' s.H s.n=some r:=by
 unfold iQ at e
 unfold callV
 split at e
 ·exact callFK_ok hc e
 ·exact yieldF_ok' hc e
 ·cases e
theorem keepTo_st{st:St}{e s i len new m}:Qv st e s i len new m=lift st (Qv (bare st.H st.n) e s i len new m):=by
 simp only[Qv,bare]
 split
 ·split
  ·split
   ·split <;> rfl
   ·rfl
  ·rfl
 ·rfl
theorem keepV_st{st:St}{t t2:TypeId}{x y:Value}:keepV P st t t2 x y=lift st (keepV P (bare st.H st.n) t t2 x y):=by
 have e1:(bare st.H st.n).H=st.H:=rfl
 simp only[keepV,keepTo_st (st:=st),appendV_st (st:=st),e1]
 split
 ·split
  ·split
   ·split
    ·split
     ·split
      ·rfl
      ·rfl
     ·rfl
    ·rfl
   ·rfl
  ·rfl
 ·rfl
theorem appendW_st{st:St}{keep:Bool}{t t2:TypeId}{x y:Value}:NZ P st keep t t2 x y=lift st (NZ P (bare st.H st.n) keep t t2 x y):=by
 cases keep with
 | true=>exact keepV_st
 | false=>exact appendV_st
theorem builtinK_ok{b:Builtin}{c:Call}{type:TypeId}{st:St}{vs:List Value}{k:Value→Hp→Nat→Option ρ}(hv:opds st.T c.args.toList=some vs)
  (e:fK P b c.argTypes.toList c type vs st.H st.n k=some r) :
  ∃ v' s,oK P b c type st=some (v',s)∧s.T=st.T∧s.D=st.D∧k v' s.H s.n=some r:=by
 unfold fK at e
 split at e
 ·rename_i t _ v hts
  obtain⟨x,hx,hv⟩:=opds_one hv
  simp only[kQ] at e
  obtain⟨u,hu,hk⟩:=e
  exact⟨u,st,by simp only[oK,oLen,hx,hts,hv,hu,keep],rfl,rfl,hk⟩
 ·rename_i t t2 v u hts
  obtain⟨x,y,hx,hv,hu⟩:=opds_two hv
  obtain⟨v',s,h,a,b,c⟩:=lift_eq e
  exact⟨v',s,by simp only[oK,Yx,hx,hts,hv,hu]; rw[appendW_st]; exact h,a,b,c⟩
 ·rename_i t _ v u hts
  obtain⟨x,y,hx,hv,hu⟩:=opds_two hv
  obtain⟨v',s,h,a,b,c⟩:=lift_eq e
  exact⟨v',s,by simp only[oK,oCopy,hx,hts,hv,hu]; rw[copyV_st]; exact h,a,b,c⟩
 all_goals first
  | (cases e; done)
  |
   simp only[oK,HZ,hv]
   split at e
   ·rename_i hp
    split at e
    ·rename_i u hu
     split at e
     ·rename_i hq
      refine⟨u,st,?_,rfl,rfl,e⟩
      simp only[hp]
      erw [hu]
      simp only[hq]
     ·cases e
    ·cases e
   ·cases e
theorem opE_ok(hc:cal.Ok P rec){op:Op}{type:TypeId}{st:St}{k:Value→Hp→Nat→Option ρ}(e:opE P cal op type st.T st.H st.n k=some r) :
  ∃ v s,cOp P rec op type st=some (v,s)∧s.T=st.T∧s.D=st.D∧k v s.H s.n=some r:=by
 unfold opE at e
 split at e
 case h_22=>
  rename_i c
  simp only[cOp,cCall]
  unfold GV at e
  split at e
  ·rename_i f hf
   simp only[nz] at e
   obtain⟨v,hv,vs,hvs,e⟩:=e
   simp only[hf,hv,hvs]
   exact callVK_ok hc e
  ·rename_i b hb
   simp only[nz] at e
   obtain⟨vs,hvs,e⟩:=e
   obtain⟨v',s,h,r⟩:=builtinK_ok hvs e
   exact⟨v',s,by simp only[hb,Vk]; exact h,r⟩
  ·cases e
 all_goals simp only[cOp,aOp]
 all_goals try simp only[jY,boxK,rowK,newK,binK,kQ,nz] at e
 ·obtain⟨v,hv,hk⟩:=e; exact⟨v,st,by rw[hv]; rfl,rfl,rfl,hk⟩
 ·obtain⟨v,hv,hk⟩:=e; exact⟨v,st,by rw[hv]; rfl,rfl,rfl,hk⟩
 ·obtain ⟨c, hc, a, ha, b, hb, v, hv, hk⟩ := e
  refine⟨v,st,?_,rfl,rfl,hk⟩
  unfold fV at hv
  unfold oPick
  rw[hc]
  split at hv
  ·cases hv; simp only[ha]; rfl
  ·cases hv; simp only[hb]; rfl
  ·cases hv
 ·obtain ⟨z, hz, hk⟩ := e
  exact⟨_,mz st (aQ z) _ none,by simp only[Ej,hz],rfl,rfl,hk⟩
 ·obtain ⟨v, hv, hk⟩ := e
  exact⟨_,mz st (aQ v) _ none,by simp only[oBox,hv],rfl,rfl,hk⟩
 ·obtain ⟨ps, hps, v, hv, hk⟩ := e
  exact⟨v,st,by rw[buildV_of hps hv]; rfl,rfl,rfl,hk⟩
 ·obtain ⟨ps, hps, ⟨c, e1⟩, hr, hk⟩ := e
  unfold zw at hr
  unfold lQ
  split at hr
  ·rename_i el hel
   simp only[hel,hps]
   split at hr
   ·rename_i s z hs hz
    split at hr
    ·rename_i hh
     split at hr
     ·rename_i cc hcc
      cases hr
      exact⟨_,mz st c e1 none,by simp only[hs,hz,if_pos hh,hcc],rfl,rfl,hk⟩
     ·cases hr
    ·cases hr
   ·cases hr
  ·cases hr
 ·obtain ⟨p, hp, a, ha, v, hv, hk⟩ := e
  unfold aX at ha
  split at ha
  ·cases ha
   exact⟨v,st,by simp only[oLoad,hp,hv]; rfl,rfl,rfl,hk⟩
  ·cases ha
 ·obtain ⟨a, ha, v, hv, H', hH, hk⟩ := e
  unfold dz at hH
  split at hH
  ·split at hH
   ·rename_i s hs
    split at hH
    ·rename_i hl
     exact⟨undef,{ st with H:=H' },by simp only[oStore,ha,hv,hs,if_pos hl,hH],rfl,rfl,hk⟩
    ·cases hH
   ·cases hH
  ·cases hH
 ·obtain ⟨v, hv, u, hu, hk⟩ := e
  unfold nilV at hu
  unfold zX
  rw[hv]
  split at hu
  ·cases hu; exact⟨_,st,rfl,rfl,rfl,hk⟩
  ·cases hu; exact⟨_,st,rfl,rfl,rfl,hk⟩
  ·cases hu
 ·obtain ⟨a, ha, b, hb, v, hv, hk⟩ := e
  exact⟨v,st,by simp only[oBin,ha,hb,hv]; rfl,rfl,rfl,hk⟩
 ·obtain ⟨a, ha, v, hv, hk⟩ := e
  obtain⟨h1,h2,h3⟩:=pureSem_eq hv
  exact⟨v,st,by simp only[oUn,ha,h1,yY,h2,h3],rfl,rfl,hk⟩
 ·obtain ⟨a, ha, v, hv, hk⟩ := e
  obtain⟨h1,h2,h3⟩:=pureSem_eq hv
  exact⟨v,st,by simp only[Ew,ha,h1,yY,h2,h3],rfl,rfl,hk⟩
 ·split at e
  ·simp only [nz] at e
   obtain⟨a,ha,b,hb,hk⟩:=e
   exact⟨_,st,by simp only[zY,ha,hb],rfl,rfl,hk⟩
  ·cases e
 ·obtain ⟨l, hl, c, hcc, e⟩ := e
  obtain⟨v',s,h,a,b,c⟩:=lift_eq e
  refine⟨v',s,?_,a,b,c⟩
  rw[← makeSlice_st] at h
  unfold jk at h
  unfold nJ
  rw[hl,hcc]
  split at h
  ·rename_i el l1 c1 hel
   simp only[hel]
   exact h
  ·cases h
 ·obtain ⟨v, hv, l, hl, h, hh, u, hu, hk⟩ := e
  exact⟨u,st,by simp only[Zx,hv,hl,hh,hu]; rfl,rfl,rfl,hk⟩
 ·obtain ⟨v, hv, u, hu, hk⟩ := e
  exact⟨u,st,by simp only[wX,hv,hu]; rfl,rfl,rfl,hk⟩
 ·obtain ⟨v, hv, u, hu, hk⟩ := e
  exact⟨u,st,by simp only[Zy,hv,hu]; rfl,rfl,rfl,hk⟩
 ·obtain ⟨v, hv, i, hi, u, hu, hk⟩ := e
  exact⟨u,st,by simp only[wY,hv,hi,hu]; rfl,rfl,rfl,hk⟩
 ·obtain ⟨v, hv, i, hi, u, hu, hk⟩ := e
  exact⟨u,st,by simp only[Zz,hv,hi,hu]; rfl,rfl,rfl,hk⟩
 ·obtain ⟨v, hv, u, hu, hk⟩ := e
  unfold tupV at hu
  split at hu
  ·exact⟨u,st,by simp only[Ez,hv,hu]; rfl,rfl,rfl,hk⟩
  ·cases hu
 ·exact⟨_,{ st with H:=st.H.set st.n (some (.map [] 0)),n:=st.n+1 },rfl,rfl,rfl,e⟩
 ·obtain ⟨m, hm, x, hx, u, hu, hk⟩ := e
  exact⟨u,st,by simp only[Yq,hm,hx,hu]; rfl,rfl,rfl,hk⟩
 ·obtain ⟨m, hm, x, hx, v, hv, H', hH, hk⟩ := e
  exact⟨undef,{ st with H:=H' },by simp only[Yv,hm,hx,hv,hH]; rfl,rfl,rfl,hk⟩
 ·obtain ⟨m, hm, x, hx, r, hr, hk⟩ := e
  exact⟨r.1,{ st with H:=r.2 },by simp only[Yw,hm,hx,hr],rfl,rfl,hk⟩
 ·obtain ⟨m, hm, x, hx, v, hv, H', hH, hk⟩ := e
  exact⟨undef,{ st with H:=H' },by simp only[oEntSt,hm,hx,hv,hH]; rfl,rfl,rfl,hk⟩
 ·cases e
end Go.Ev
end
section
namespace Go.Ev
noncomputable section
open Go
section
variable {ρ:Type}
def GW(ops:List Oper)(j:Nat)(T:Tm):Option Value:=match ops[j]? with
 | some oj=>match oj.dst with
  | some d=>T.get d
  | none=>none
 | none=>none
def bj(x:Value)(want:Bool)(op:(Value→Hp→Nat→Option ρ)→Option ρ)(H:Hp)(n:Nat)(k:Value→Hp→Nat→Option ρ):Option ρ:=
 match x with
 | .bool b=>match b == want with
  | true=>op k
  | false=>k undef H n
 | .tuple ⟨[]⟩=>k undef H n
 | _=>none
def oneE(P:Program)(cal:Cal)(N:Nat)(ops:List Oper)(o:Oper)(T:Tm)(H:Hp)(n:Nat)(k:Value→Hp→Nat→Option ρ):Option ρ:=
 match inN N o.dst with
 | false=>none
 | true=>match o.guard with
  | none=>opE P cal o.op o.type T H n k
  | some (j,want)=>getK (GW ops j T) fun x=>bj x want (fun k=>opE P cal o.op o.type T H n k) H n k
def opsE(P:Program)(cal:Cal)(N:Nat)(ops:List Oper):List Oper→Tm→Hp→Nat→(Tm→Hp→Nat→Option ρ)→Option ρ
 | [],T,H,n,k=>k T H n
 | o::l,T,H,n,k=>oneE P cal N ops o T H n fun v H n=>opsE P cal N ops l (putT T o.dst v) H n k
end
variable {P:Program} {cal:Cal} {rec:Rec} {ρ:Type} {r:ρ} {N:Nat} {ops:List Oper}
theorem wantedA_of{g:Nat × Bool}{T:Tm}{b:Bool}(h:GW ops g.1 T=some (.bool b)):pQ ops (some g) T=some (b == g.2):=by
 obtain⟨j,w⟩:=g
 simp only[GW] at h
 simp only[pQ]
 split at h
 ·rename_i oj hj
  split at h
  ·rename_i d hd; simp only[hj,hd,h]
  ·cases h
 ·cases h
theorem wantedA_un{g:Nat × Bool}{T:Tm}(h:GW ops g.1 T=some (.tuple ⟨[]⟩)):pQ ops (some g) T=some false:=by
 obtain⟨j,w⟩:=g
 simp only[GW] at h
 simp only[pQ]
 split at h
 ·rename_i oj hj
  split at h
  ·rename_i d hd; simp only[hj,hd,h]
  ·cases h
 ·cases h
theorem oneE_ok(hc:cal.Ok P rec){o:Oper}{st:St}{k:Value→Hp→Nat→Option ρ}(e:oneE P cal N ops o st.T st.H st.n k=some r) :
  ∃ v s,evOp P rec N ops o st=some s∧s.T=putT st.T o.dst v∧s.D=st.D∧k v s.H s.n=some r:=by
 unfold oneE at e
 unfold evOp
 split at e
 ·cases e
 ·rename_i hin
  rw[hin]
  have one:∀ {k:Value→Hp→Nat→Option ρ},opE P cal o.op o.type st.T st.H st.n k=some r→∃ v s,evOp1 P rec o.dst o.op o.type st=some s∧s.T=putT st.T o.dst v∧s.D=st.D∧k v s.H s.n=some r:=by
   intro k e
   obtain⟨v,s,h,a,b,c⟩:=opE_ok hc e
   exact⟨v,{ s with T:=putT s.T o.dst v },by simp only[evOp1,h],by simp only[a],b,c⟩
  split at e
  ·rename_i hg
   rw[hg]
   exact one e
  ·rename_i j want hg
   rw[hg]
   simp only[nz] at e
   obtain⟨x,hx,e⟩:=e
   unfold bj at e
   split at e
   ·rename_i b
    have hw:=wantedA_of (g:=(j,want)) hx
    simp only[hw]
    split at e
    ·rename_i hb; rw[hb]; exact one e
    ·rename_i hb; rw[hb]; exact⟨undef,{ st with T:=putT st.T o.dst undef },rfl,rfl,rfl,e⟩
   ·have hw := wantedA_un (g := (j, want)) hx
    simp only[hw]
    exact⟨undef,{ st with T:=putT st.T o.dst undef },rfl,rfl,rfl,e⟩
   ·cases e
theorem opsE_ok(hc:cal.Ok P rec):∀ {l:List Oper} {st:St} {k:Tm→Hp→Nat→Option ρ},opsE P cal N ops l st.T st.H st.n k=some r →
  ∃ s,VJ P rec N ops l st=some s∧s.D=st.D∧k s.T s.H s.n=some r
 | [],st,k,e=>⟨st,rfl,rfl,e⟩
 | o::l,st,k,e=>by
  simp only[opsE] at e
  obtain⟨v,s,h,a,b,c⟩:=oneE_ok hc e
  rw[← a] at c
  obtain⟨s2,h2,b2,c2⟩:=opsE_ok hc c
  exact⟨s2,by simp only[VJ,h,h2],b2.trans b,c2⟩
end
end Go.Ev
end
