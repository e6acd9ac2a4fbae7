import GoSem.ClaimJoined
import Derived.WideShapes
import Derived.SizedLaws
import Derived.ChangeSame
import Derived.ChangeOld
import Derived.ReadAgain
import Derived.RowKit3
import Derived.Test.YtnnkcjolgbpklaaGreatC2
set_option linter.unusedVariables false
section
namespace Go.Ev
open Go
variable {P:Program} {w₀:World} {W:Sets} {φ:Phi} {st st':St} {w:World} {H Hm:Hp} {n n0:Nat} {rec:Rec}
 {f:FuncId} {t:Array Value} {k:List Item} {ds:List Deferred} {kd:CallKind} {ro:Option Nat} {cs:List Frame} {N:Nat}
 {ops:List Oper} {A:List Nat} {T0:Tm} {g g1:Reg} {S:List Nat}
theorem I.up(h:I w₀ W φ H n w){m:Nat}(hm:n≤m):I w₀ W φ H m w:=
 ⟨fun i p e=>Nat.lt_of_lt_of_le (h.dom i p e) hm,h.rel,h.inj,h.keep,h.size,h.wr,h.src,h.os,h.tape,h.output,h.fz⟩
theorem kJ{log:List Ent}{x:Nat}:oV log x=true↔∃ e ∈ log,e.x=x:=by
 simp [oV]
theorem J.fresh(h:J P N ops A T0 n0 w₀ W g S φ t w Hm){i:Nat}(hi:g.n≤i):g.H.get i=none:=by
 by_cases hp:Pend S g.log i
 ·obtain ⟨e, he, _, c, ty, hk⟩ := hp
  have:=(h.ids e he i c ty hk).2; omega
 ·rw [← (h.hm i).2 hp]
  cases e:Hm.get i with
  | none=>rfl
  | some b=>
   obtain⟨p,o,f1,_⟩:=h.i.rel i b e
   have:=h.i.dom i p f1; omega
theorem Vy(h:J P N ops A T0 n0 w₀ W g S φ t w Hm){x:Nat}{dst:Option Tmp}{slots:List Nat}{v:Value}{kx:Extra}
  (hs:Ak A g.log x dst slots=true) (hn:oV g.log x=false) :
  (∀ e ∈ g.log,EntOk P N ops A T0 ({ x,dst,slots,v,k:=kx }::g.log) e) ∧
  (∀ S',Closed A S'→(∀ y,bit A x y=true→y ∈ S')→x ∉ S'→∀ d ∈ slots,TF S' ({ x,dst,slots,v,k:=kx }::g.log) T0 d=(fj g.T slots).get d) ∧
  (∀ e ∈ g.log,e.x≠x)∧(∀ e ∈ g.log,∀ d,e.dst=some d→dst≠some d) ∧
  (∀ S',x ∉ S'→∀ d,TF S' ({ x,dst,slots,v,k:=kx }::g.log) T0 d=TF S' g.log T0 d) ∧
  (∀ d,(putT g.T dst v).get d=match ({ x,dst,slots,v,k:=kx }::g.log).find? (fun e=>e.dst == some d) with | some e=>some e.v | none=>T0.get d):=by
 have hx:∀ e ∈ g.log,e.x≠x:=by
  intro e he q
  have:oV g.log x=true:=kJ.2 ⟨e,he,q⟩
  rw[hn] at this; cases this
 simp only[Ak,List.all_eq_true,Bool.and_eq_true] at hs
 have hd:∀ e ∈ g.log,∀ d,e.dst=some d→dst≠some d:=by
  intro e he d h1 h2
  have:=(hs e he).2
  rw[h2,h1] at this
  simp at this
 have hnone:∀ d,dst=some d→g.log.find? (fun e=>e.dst == some d)=none:=by
  intro d h2
  rw[List.find?_eq_none]
  intro e he
  simp
  intro h1
  exact hd e he d h1 h2
 have hTF:∀ S',x ∉ S'→∀ d,TF S' ({ x,dst,slots,v,k:=kx }::g.log) T0 d=TF S' g.log T0 d:=by
  intro S' hx' d
  unfold TF
  rw[List.find?_cons]
  by_cases q:dst=some d
  ·simp only[q,beq_self_eq_true,if_neg hx',hnone d q]
  ·have : (dst == some d) = false := by simpa using q
   simp only[this]
 refine⟨?_,?_,hx,hd,hTF,?_⟩
 ·intro e he
  obtain⟨o,r,a1,a2,a3,a4,a5,a6⟩:=h.ent e he
  refine⟨o,r,a1,a2,a3,a4,a5,fun S' hc hy hxe d hds=>?_⟩
  rw[← a6 S' hc hy hxe d hds]
  unfold TF
  rw[List.find?_cons]
  by_cases q:dst=some d
  ·have hb := (hs e he).2
   rw[q] at hb
   simp only[Bool.and_eq_true,Bool.or_eq_true,Bool.not_eq_true',List.contains_eq_mem,decide_eq_false_iff_not] at hb
   have hbit:bit A x e.x=true:=by
    rcases hb.1 with hb | hb
    ·exact absurd hds hb
    ·exact hb
   have hxS:x ∉ S':=fun hh=>hxe (hc x hh e.x hbit)
   simp only[q,beq_self_eq_true,if_neg hxS,hnone d q]
  ·have : (dst == some d) = false := by simpa using q
   simp only[this]
 ·intro S' hc hy hxS d hds
  rw[hTF S' hxS d,iz,if_pos hds,h.T d]
  unfold TF
  cases hf:g.log.find? (fun e=>e.dst == some d) with
  | none=>rfl
  | some e=>
   have he:=List.mem_of_find?_eq_some hf
   have h2:=List.find?_some hf
   simp at h2
   have hb:=(hs e he).1
   rw[h2] at hb
   simp only[Bool.or_eq_true,Bool.not_eq_true',List.contains_eq_mem,decide_eq_false_iff_not] at hb
   have hbit:bit A x e.x=true:=by
    rcases hb with hb | hb
    ·exact absurd hds hb
    ·exact hb
   simp only[hy e.x hbit,if_true]
 ·intro d
  rw[List.find?_cons]
  cases dst with
  | none=>
   have:((none:Option Tmp) == some d)=false:=rfl
   simp only[putT,this]; exact h.T d
  | some d'=>
   simp only[putT,Tr.get_set]
   by_cases q:d=d'
   ·subst q; simp
   ·have : (some d' == some d) = false := by simp; exact fun z => q z.symm
    rw[if_neg q]
    simp only[this]
    exact h.T d
theorem Uniq.cons{log:List Ent}(h:Uniq log){e0:Ent}(hx:∀ e ∈ log,e.x≠e0.x)(hd:∀ e ∈ log,∀ d,e.dst=some d→e0.dst≠some d)
  (ha:∀ e ∈ log,∀ i c ty c' ty',e.k=.a i c ty→e0.k≠.a i c' ty'):Uniq (e0::log):=by
 constructor
 ·intro e he e' he' q
  rcases List.mem_cons.1 he with rfl | h1 <;> rcases List.mem_cons.1 he' with rfl | h2
  ·rfl
  ·exact absurd q.symm (hx e' h2)
  ·exact absurd q (hx e h1)
  ·exact h.x e h1 e' h2 q
 ·intro e he e' he' d q q'
  rcases List.mem_cons.1 he with rfl | h1 <;> rcases List.mem_cons.1 he' with rfl | h2
  ·rfl
  ·exact absurd q (hd e' h2 d q')
  ·exact absurd q' (hd e h1 d q)
  ·exact h.d e h1 e' h2 d q q'
 ·intro e he e' he' i c ty c' ty' q q'
  rcases List.mem_cons.1 he with rfl | h1 <;> rcases List.mem_cons.1 he' with rfl | h2
  ·rfl
  ·exact absurd q (ha e' h2 i c' ty' c ty q')
  ·exact absurd q' (ha e h1 i c ty c' ty' q)
  ·exact h.a e h1 e' h2 i c ty c' ty' q q'
theorem J.virt(h : J P N ops A T0 n0 w₀ W g S φ t w Hm){x : Nat}{rest : List Nat}{o : Oper}(ho : ops[x]? = some o)(hne : isE o = false)
  (e:qj P rec N ops A x rest g=some g1):J P N ops A T0 n0 w₀ W g1 S φ t w Hm:=by
 unfold qj at e
 rw[ho] at e
 simp only at e
 split at e
 ·cases e
 rename_i hcond
 simp only[Bool.and_eq_true,Bool.not_eq_true'] at hcond
 obtain⟨⟨hN,hsl⟩,hil⟩:=hcond
 have hxS:x ∉ S:=by
  intro hx
  obtain⟨e',he',q⟩:=h.sub x hx
  have:oV g.log x=true:=kJ.2 ⟨e',he',q⟩
  rw[hil] at this; cases this
 have main:∀(v:Value) (kx:Extra) (H1:Hp) (n1:Nat),RunOk P ops { x,dst:=o.dst,slots:=cz ops o,v,k:=kx } o (fj g.T (cz ops o)) →
   kx≠.e→(∀ i,i<g.n→H1.get i=g.H.get i)→g.n≤n1→(∀ i c ty,kx=.a i c ty→g.n≤i∧i<n1) →
   (∀ i,(¬ ∃ c ty,kx=.a i c ty)→H1.get i=g.H.get i)→Cur P H1 n1 { x,dst:=o.dst,slots:=cz ops o,v,k:=kx } →
   J P N ops A T0 n0 w₀ W (addE g x o.dst (cz ops o) v kx H1 n1) S φ t w Hm:=by
  intro v kx H1 n1 hrun hke hH hn1 hid hH2 hcur
  obtain⟨q1,q2,q3,q4,q5,q6⟩:=Vy (v:=v) (kx:=kx) h hsl hil
  have hpend:∀ i,Pend S ({ x,dst:=o.dst,slots:=cz ops o,v,k:=kx }::g.log) i↔(∃ c ty,kx=.a i c ty)∨Pend S g.log i:=by
   intro i
   unfold Pend
   simp [hxS]
  have hbig:∀ i c ty,kx=.a i c ty→Hm.get i=none∧φ i=none:=by
   intro i c ty q
   have:=(hid i c ty q).1
   constructor
   ·cases hh : Hm.get i with
    | none=>rfl
    | some b=>obtain⟨p,o',f1,_⟩:=h.i.rel i b hh; have:=h.i.dom i p f1; omega
   ·cases hh : φ i with
    | none=>rfl
    | some p=>have:=h.i.dom i p hh; omega
  refine⟨?_,h.sz,h.i.up hn1,?_,?_,?_,h.cl,?_,?_,?_,?_,q6,Nat.le_trans h.nle hn1,?_⟩
  ·intro d u hu; exact h.tr d u (by rw[← q5 S hxS d]; exact hu)
  ·intro i
   constructor
   ·intro hp
    rcases(hpend i).1 hp with⟨c,ty,q⟩ | hp
    ·exact(hbig i c ty q).1
    ·exact(h.hm i).1 hp
   ·intro hp
    have hp1:¬ Pend S g.log i:=fun z=>hp ((hpend i).2 (.inr z))
    have hp2:¬ ∃ c ty,kx=.a i c ty:=fun z=>hp ((hpend i).2 (.inl z))
    exact((h.hm i).2 hp1).trans (hH2 i hp2).symm
  ·intro i hp
   rcases(hpend i).1 hp with⟨c,ty,q⟩ | hp
   ·exact(hbig i c ty q).2
   ·exact h.pend i hp
  ·intro y hy
   obtain⟨e',he',q⟩:=h.sub y hy
   exact⟨e',List.mem_cons_of_mem _ he',q⟩
  ·refine h.un.cons q3 q4 ?_
   intro e' he' i c ty c' ty' a1 a2
   have:=(h.ids e' he' i c ty a1).2
   have:=(hid i c' ty' a2).1
   omega
  ·intro e' he'
   rcases List.mem_cons.1 he' with rfl | he'
   ·exact⟨o,fj g.T (cz ops o),ho,rfl,hN,hrun,fun d hd=>by rw[iz,if_neg hd],q2⟩
   ·exact q1 e' he'
  ·intro e' he' hS'
   rcases List.mem_cons.1 he' with rfl | he'
   ·exact hcur
   ·have hc := h.cur e' he' hS'
    unfold Cur at hc ⊢
    split
    ·rename_i ty ad hk
     rw[hk] at hc
     simp only at hc
     rw[← hc]
     refine HJ ?_
     refine hH _ ?_
     cases hb:g.H.get ad.block with
     | none=>unfold aJ at hc; rw[hb] at hc; split at hc <;> cases hc
     | some b=>
      by_cases hlt:ad.block<g.n
      ·exact hlt
      ·rw[h.fresh (by omega)] at hb; cases hb
    ·rename_i id c ty hk
     rw[hk] at hc
     simp only at hc
     exact⟨(hH id hc.2).trans hc.1,Nat.lt_of_lt_of_le hc.2 hn1⟩
    ·rename_i ty mv kk ok v1 hk
     rw[hk] at hc
     simp only at hc
     rw[← hc]
     refine lookupV_congr fun r hr=>?_
     subst hr
     refine hH _ ?_
     obtain⟨b,hb⟩:=lookupV_some hc
     by_cases hlt:r<g.n
     ·exact hlt
     ·rw[h.fresh (by omega)] at hb; cases hb
    ·trivial
  ·intro e' he' hk
   rcases List.mem_cons.1 he' with rfl | he'
   ·exact absurd hk hke
   ·exact h.eff e' he' hk
  ·intro e' he' i c ty hk
   rcases List.mem_cons.1 he' with rfl | he'
   ·exact⟨Nat.le_trans h.nle (hid i c ty hk).1,(hid i c ty hk).2⟩
   ·exact⟨(h.ids e' he' i c ty hk).1,Nat.lt_of_lt_of_le (h.ids e' he' i c ty hk).2 hn1⟩
 split at e
 ·cases e
 ·rename_i hwa
  rw[hne] at e
  simp only[Option.some.injEq] at e; subst e
  exact main undef .p g.H g.n (.inl ⟨hwa,rfl,.inl rfl⟩) (fun z=>by cases z) (fun _ _=>rfl) (Nat.le_refl _) (fun _ _ _ z=>by cases z) (fun _ _=>rfl) trivial
 ·rename_i hwa
  unfold NV at e
  split at e
  ·rename_i hk
   split at e
   ·rename_i v s hv
    simp only[Option.some.injEq] at e; subst e
    exact main v .p g.H g.n (.inr ⟨hwa,kind_p hk hv⟩) (fun z=>by cases z) (fun _ _=>rfl) (Nat.le_refl _) (fun _ _ _ z=>by cases z) (fun _ _=>rfl) trivial
   ·cases e
  ·rename_i hk
   split at e
   ·rename_i ty a hop
    split at e
    ·rename_i ad had
     split at e
     ·rename_i v hv
      simp only[Option.some.injEq] at e; subst e
      exact main v (.l ty ad) g.H g.n (.inr ⟨hwa,a,hop,had⟩) (fun z=>by cases z) (fun _ _=>rfl) (Nat.le_refl _) (fun _ _ _ z=>by cases z) (fun _ _=>rfl) hv
     ·cases e
    ·cases e
   ·cases e
  ·rename_i hk
   split at e
   ·rename_i v s hv
    split at e
    ·rename_i c el hc
     simp only[Option.some.injEq] at e; subst e
     have hm:∀ tt,o.op≠.makeMap tt none:=by
      intro tt z
      rw[(qkj (t:=#[]) z hv).1] at hc
      simp only[newB,Tr.get_set,if_true,blkN] at hc
      cases hc
     have hrow:∃ c' el',s=nq ⟨fj g.T (cz ops o),g.H,g.n,[]⟩ c' el' none:=by
      have h0:=hv
      obtain⟨dst,op,ty,pos,after,guard⟩:=o
      simp only at hk h0
      cases op with
      | alloc el=>simp only[aOp,Fw] at h0; split at h0 <;> simp at h0; exact⟨_,_,h0.2.symm⟩
      | box el x=>simp only[aOp,oBox] at h0; split at h0 <;> simp at h0; exact⟨_,_,h0.2.symm⟩
      | buildSlice tt len parts=>
       simp only[aOp,mj] at h0
       (repeat' (split at h0)) <;> simp at h0
       exact⟨_,_,h0.2.symm⟩
      | makeSlice tt l c=>
       simp only[aOp,nZ] at h0
       (repeat' (split at h0)) <;> simp at h0
       exact⟨_,_,h0.2.symm⟩
      | call c=>
       obtain⟨cal,args,tys⟩:=c
       cases cal <;> simp [dk] at hk
       split at hk <;> cases hk
      | makeMap tt r=>
       cases r with
       | none=>exact absurd rfl (hm tt)
       | some r=>simp [dk] at hk
      | _=>simp [dk] at hk
     obtain⟨c',el',hs⟩:=hrow
     have hc':(nq ⟨fj g.T (cz ops o),g.H,g.n,[]⟩ c' el' none).H.get g.n=some (.cells c' el' false none):=by simp [nq,Tr.get_set]
     rw[hs,hc'] at hc
     simp only[Option.some.injEq,Blk.cells.injEq,and_true] at hc
     obtain⟨rfl,rfl⟩:=hc
     have hget:∀ i,s.H.get i=if i=g.n then some (.cells c' el' false none) else g.H.get i:=by intro i; rw[hs]; simp [nq,Tr.get_set]
     have hsn:s.n=g.n+1:=by rw[hs]; rfl
     refine main v (.a g.n (some c') el') s.H s.n (.inr ⟨hwa,hk,g.H,by rw[show newB ⟨fj g.T (cz ops o),g.H,g.n,[]⟩ (some c') el'=s from hs.symm]; exact hv⟩) (fun z=>by cases z) ?_ (by omega) ?_ ?_ ?_
     ·intro i hi; rw[hget,if_neg (by omega)]
     ·intro i c ty z; cases z; omega
     ·intro i hi
      rw[hget,if_neg]
      intro z; subst z; exact hi ⟨_,_,rfl⟩
     ·exact⟨by rw[hget,if_pos rfl]; rfl,by rw[hsn]; exact Nat.lt_succ_self _⟩
    ·rename_i hc
     simp only[Option.some.injEq] at e; subst e
     have hm:∃ tt,o.op=.makeMap tt none:=by
      by_cases q:∃ tt,o.op=.makeMap tt none
      ·exact q
      ·exfalso
       have h0:=hv
       obtain⟨dst,op,ty,pos,after,guard⟩:=o
       simp only at hk h0 q
       cases op with
       | alloc el=>simp only[aOp,Fw] at h0; split at h0 <;> simp at h0; rw[← h0.2] at hc; simp [nq,Tr.get_set] at hc
       | box el x=>simp only[aOp,oBox] at h0; split at h0 <;> simp at h0; rw[← h0.2] at hc; simp [nq,Tr.get_set] at hc
       | buildSlice tt len parts=>
        simp only[aOp,mj] at h0
        (repeat' (split at h0)) <;> simp at h0
        rw[← h0.2] at hc; simp [nq,Tr.get_set] at hc
       | makeSlice tt l c=>
        simp only[aOp,nZ] at h0
        (repeat' (split at h0)) <;> simp at h0
        rw[← h0.2] at hc; simp [nq,Tr.get_set] at hc
       | call c=>
        obtain⟨cal,args,tys⟩:=c
        cases cal <;> simp [dk] at hk
        split at hk <;> cases hk
       | makeMap tt r=>
        cases r with
        | none=>exact q ⟨tt,rfl⟩
        | some r=>simp [dk] at hk
       | _=>simp [dk] at hk
     obtain⟨tt,hm⟩:=hm
     obtain⟨hs,rfl,_⟩:=qkj (t:=#[]) hm hv
     have hget:∀ i,s.H.get i=if i=g.n then some (.map [] 0) else g.H.get i:=by intro i; rw[hs]; simp [newB,Tr.get_set,blkN]
     have hsn:s.n=g.n+1:=by rw[hs]; rfl
     refine main (.map (some g.n)) (.a g.n none 0) s.H s.n (.inr ⟨hwa,hk,g.H,by rw[← hs]; exact hv⟩) (fun z=>by cases z) ?_ (by omega) ?_ ?_ ?_
     ·intro i hi; rw[hget,if_neg (by omega)]
     ·intro i c ty z; cases z; omega
     ·intro i hi
      rw[hget,if_neg]
      intro z; subst z; exact hi ⟨_,_,rfl⟩
     ·exact⟨by rw[hget,if_pos rfl]; rfl,by rw[hsn]; exact Nat.lt_succ_self _⟩
    ·cases e
   ·cases e
  ·rename_i hk
   simp [isE,hk] at hne
  ·rename_i hk
   split at e
   ·rename_i ty a b ok hop
    split at e
    ·rename_i mv kk hmv hkk
     split at e
     ·rename_i v hv
      simp only[Option.some.injEq] at e; subst e
      exact main v (.m ty mv kk ok v) g.H g.n (.inr ⟨hwa,rfl,a,b,hop,hmv,hkk⟩) (fun z=>by cases z) (fun _ _=>rfl) (Nat.le_refl _) (fun _ _ _ z=>by cases z) (fun _ _=>rfl) hv
     ·cases e
    ·cases e
   ·cases e
end Go.Ev
end
section
namespace Go.Ev
open Go
variable {P:Program} {w₀:World} {W:Sets} {φ:Phi} {st st':St} {w:World} {H Hm:Hp} {n n0:Nat} {rec:Rec}
 {f:FuncId} {t:Array Value} {k:List Item} {ds:List Deferred} {kd:CallKind} {ro:Option Nat} {cs:List Frame} {N:Nat}
 {opsA:Array Oper} {A:List Nat} {T0:Tm} {g g1:Reg} {S:List Nat}
theorem tr_of{r:Tm}{F:Nat→Option Value}{slots:List Nat}(h:TRF φ F t)(h1:∀ d,d ∉ slots→r.get d=none)(h2:∀ d ∈ slots,F d=r.get d):TR φ r t:=by
 intro d v e
 by_cases q:d ∈ slots
 ·exact h d v (by rw[h2 d q]; exact e)
 ·rw[h1 d q] at e; cases e
theorem trf_put{F F':Nat→Option Value}(h:TRF φ F t){dst:Option Tmp}{v v':Value}(hN:inN t.size dst=true)(hv:VR φ v v')
  (hF:∀ d,F' d=if dst=some d then some v else F d):TRF φ F' ((⟨t,[]⟩:Act).put dst v').tmps:=by
 intro d u e
 rw[hF] at e
 cases dst with
 | none=>simp at e; exact h d u e
 | some d'=>
  simp only[inN,Nat.blt_eq] at hN
  split at e
  ·rename_i q; cases q; cases e
   exact⟨v',by simp [Act.put,hN],hv⟩
  ·rename_i q
   obtain⟨u',a,b⟩:=h d u e
   refine⟨u',?_,b⟩
   have:d'≠d:=fun z=>q (by rw[z])
   simp only[Act.put]
   rw[Array.getElem?_setIfInBounds_ne this]; exact a
theorem TF_in(hu:Uniq g.log){e:Ent}(he:e ∈ g.log)(hS:e.x ∉ S)(d:Nat):TF (e.x::S) g.log T0 d=if e.dst=some d then some e.v else TF S g.log T0 d:=by
 unfold TF
 by_cases q:e.dst=some d
 ·rw[find_dst hu he q]; simp [q]
 ·rw [if_neg q]
  cases hf:g.log.find? (fun e=>e.dst == some d) with
  | none=>rfl
  | some e'=>
   have h1:=List.mem_of_find?_eq_some hf
   have h2:=List.find?_some hf
   simp at h2
   have hx:e'.x≠e.x:=by
    intro z; have:=hu.x e' h1 e he z; subst this; exact q h2
   simp [hx]
theorem Jw{o:Oper}{r:Tm}{b:Bool}(ht:TR φ r t)(e:qx opsA.toList o.guard r=some b):Region.wanted o (yielded opsA t)=b:=Vw ht e
theorem J.real(h:J P N opsA.toList A T0 n0 w₀ W g S φ t w Hm){x:Nat}{rest:List Nat}{e:Ent}(he:e ∈ g.log)(hx:e.x=x)(hS:x ∉ S)(hanc:∀ y,bit A x y=true→y ∈ S) :
  ∃ φ' w' t' Hm',Ext φ n0 φ' g.n∧J P N opsA.toList A T0 n0 w₀ W g (x::S) φ' t' w' Hm' ∧
   Steps P (lone (fr f t (.inRegion opsA (x::rest)::k) ds kd ro) cs w) (lone (fr f t' (.inRegion opsA rest::k) ds kd ro) cs w'):=by
 subst hx
 obtain⟨o,r,ho,hdst,hN,hrun,hr1,hr2⟩:=h.ent e he
 have ho':opsA[e.x]?=some o:=by simpa using ho
 have hr2':=hr2 S h.cl hanc hS
 have htr:TR φ r t:=tr_of h.tr hr1 hr2'
 have hNt:inN t.size o.dst=true:=by rw[h.sz]; exact hN
 have hcl:Closed A (e.x::S):=by
  intro y hy z hz
  rcases List.mem_cons.1 hy with rfl | hy
  ·exact List.mem_cons_of_mem _ (hanc z hz)
  ·exact List.mem_cons_of_mem _ (h.cl y hy z hz)
 have fin:∀ {φ':Phi} {w':World} {v':Value} {Hm':Hp},Ext φ n0 φ' g.n→I w₀ W φ' Hm' g.n w'→VR φ' e.v v' →
   (∀ i,(Pend (e.x::S) g.log i→Hm'.get i=none)∧(¬ Pend (e.x::S) g.log i→Hm'.get i=g.H.get i))→(∀ i,Pend (e.x::S) g.log i→φ' i=none) →
   Steps P (lone (fr f t (.inRegion opsA (e.x::rest)::k) ds kd ro) cs w) (lone (fr f ((⟨t,[]⟩:Act).put o.dst v').tmps (.inRegion opsA rest::k) ds kd ro) cs w') →
   ∃ φ' w' t' Hm',Ext φ n0 φ' g.n∧J P N opsA.toList A T0 n0 w₀ W g (e.x::S) φ' t' w' Hm' ∧
    Steps P (lone (fr f t (.inRegion opsA (e.x::rest)::k) ds kd ro) cs w) (lone (fr f t' (.inRegion opsA rest::k) ds kd ro) cs w'):=by
  intro φ' w' v' Hm' hext hI hv hhm hp hst
  refine⟨φ',w',_,Hm',hext,⟨?_,?_,hI,hhm,hp,?_,hcl,h.un,h.ent,?_,?_,h.T,h.nle,h.ids⟩,hst⟩
  ·exact trf_put (h.tr.mono hext.le) hNt hv (fun d=>by rw[TF_in h.un he hS d,hdst])
  ·have : ((⟨t, []⟩ : Act).put o.dst v').tmps.size = t.size := by cases o.dst <;> simp [Act.put]
   rw[this]; exact h.sz
  ·intro y hy
   rcases List.mem_cons.1 hy with rfl | hy
   ·exact⟨e,he,rfl⟩
   ·exact h.sub y hy
  ·intro e' he' hn; exact h.cur e' he' (fun z=>hn (List.mem_cons_of_mem _ z))
  ·intro e' he' hk; exact List.mem_cons_of_mem _ (h.eff e' he' hk)
 have pendSame:(∀ i c ty,e.k≠.a i c ty)→∀ i,Pend (e.x::S) g.log i↔Pend S g.log i:=by
  intro hna i
  constructor
  ·rintro⟨e',he',hn,hk⟩; exact⟨e',he',fun z=>hn (List.mem_cons_of_mem _ z),hk⟩
  ·rintro ⟨e', he', hn, c, ty, hk⟩
   refine⟨e',he',fun z=>?_,c,ty,hk⟩
   rcases List.mem_cons.1 z with q | q
   ·have:=h.un.x e' he' e he q; subst this; exact hna i c ty hk
   ·exact hn q
 have finSame:∀ {φ':Phi} {w':World} {v':Value},(∀ i c ty,e.k≠.a i c ty)→Ext φ g.n φ' g.n→I w₀ W φ' Hm g.n w'→VR φ' e.v v' →
   Steps P (lone (fr f t (.inRegion opsA (e.x::rest)::k) ds kd ro) cs w) (lone (fr f ((⟨t,[]⟩:Act).put o.dst v').tmps (.inRegion opsA rest::k) ds kd ro) cs w') →
   ∃ φ' w' t' Hm',Ext φ n0 φ' g.n∧J P N opsA.toList A T0 n0 w₀ W g (e.x::S) φ' t' w' Hm' ∧
    Steps P (lone (fr f t (.inRegion opsA (e.x::rest)::k) ds kd ro) cs w) (lone (fr f t' (.inRegion opsA rest::k) ds kd ro) cs w'):=by
  intro φ' w' v' hna hext hI hv hst
  have hnew:∀ i p,φ' i=some p→φ i=some p:=by
   intro i p hp
   rcases hext.new i p hp with q | q
   ·exact q
   ·have:=hI.dom i p hp; omega
  refine fin ⟨hext.le,fun i p hp=>.inl (hnew i p hp),h.nle⟩ hI hv (fun i=>⟨fun z=>(h.hm i).1 ((pendSame hna i).1 z),fun z=>(h.hm i).2 (fun y=>z ((pendSame hna i).2 y))⟩) ?_ hst
  intro i hi
  have h0:=h.pend i ((pendSame hna i).1 hi)
  cases hh:φ' i with
  | none=>rfl
  | some p=>rw[hnew i p hh] at h0; cases h0
 rcases hrun with⟨hwa,hv,hk⟩ | ⟨hwa,hk⟩
 ·
  refine finSame (by intro i c ty z; rcases hk with hk | hk <;> rw[hk] at z <;> cases z) (Ext.refl _ _) h.i (v':=undef) (by rw[hv]; exact bQ.refl rfl) (.one (NJ ho' (Jw htr hwa)))
 ·have hw := Jw htr hwa
  cases hek:e.k with
  | p=>
   rw[hek] at hk
   simp only at hk
   obtain ⟨φ', w', v', hext, hI, hv, hst⟩ := cOp_ok (P := P) (rec := fun _ _ _ _ => none) (f := f) (k := k) (ds := ds) (kd := kd) (ro := ro) (cs := cs) (rest := rest) (fun _ _ _ _ _ _ z => by cases z) (st := ⟨r, Hm, g.n, []⟩) h.i htr ho' hw
    (v:=e.v) (s:=⟨r,Hm,g.n,[]⟩) (by
     have:=hk Hm g.n []
     unfold cOp
     split
     ·rename_i c hop
      rw[hop] at this
      simp only[aOp] at this
      unfold cCall
      split
      ·rename_i fo hcal
       unfold Wx at this; rw[hcal] at this; cases this
      ·exact this
     ·exact this)
   exact finSame (by intro i c ty z; rw[hek] at z; cases z) hext hI hv hst
  | l ty ad=>
   rw[hek] at hk
   simp only at hk
   obtain⟨a,hop,had⟩:=hk
   have hcur:=h.cur e he hS
   unfold Cur at hcur; rw[hek] at hcur; simp only at hcur
   have hvr:=cV (a:=⟨t,[]⟩) htr had
   simp only[VR] at hvr
   obtain⟨ad',hav,har⟩:=hvr
   have hload:aJ P Hm ty ad=some e.v:=by
    rw[← hcur]
    refine HJ ?_
    refine(h.hm _).2 ?_
    intro hp
    obtain⟨⟨c,hφ⟩,_⟩:=har
    rw[h.pend _ hp] at hφ; cases hφ
   obtain⟨v',hv1,hv2⟩:=qbj (P:=P) h.i har hload
   refine finSame (by intro i c ty z; rw[hek] at z; cases z) (Ext.refl _ _) h.i hv1 (.one (sx ho' hw (by intro c z; rw[hop] at z; cases z) (.inl ?_)))
   have:(execOp (⟨t,[]⟩:Act).eval o)=iX (Instr.loadAt ty ((⟨t,[]⟩:Act).eval a)):=by simp only[execOp,hop]; rfl
   rw[this]
   exact iQ (by simp [Instr.loadAt,Instr.sureAddr,hav,hv2])
  | a id c ty=>
   rw[hek] at hk
   simp only at hk
   obtain⟨hka,H0,hop⟩:=hk
   have hcur:=h.cur e he hS
   unfold Cur at hcur; rw[hek] at hcur; simp only at hcur
   have hpid:φ id=none:=h.pend id ⟨e,he,hS,_,_,hek⟩
   have hext:Ext φ n0 (ext φ id (w.heap.size,0)) g.n:=by
    refine⟨KJ hpid,fun i p hp=>?_,h.nle⟩
    unfold ext at hp
    split at hp
    ·rename_i q; subst q; exact .inr (h.ids e he _ _ _ hek).1
    ·exact .inl hp
   have hpnd:∀ i,Pend (e.x::S) g.log i↔Pend S g.log i∧i≠id:=by
    intro i
    constructor
    ·rintro ⟨e', he', hn, c2, ty2, hk2⟩
     refine⟨⟨e',he',fun z=>hn (List.mem_cons_of_mem _ z),c2,ty2,hk2⟩,fun z=>?_⟩
     subst z
     have:=h.un.a e' he' e he _ _ _ _ _ hk2 hek
     subst this; exact hn (List.mem_cons_self)
    ·rintro ⟨⟨e', he', hn, c2, ty2, hk2⟩, hne⟩
     refine⟨e',he',fun z=>?_,c2,ty2,hk2⟩
     rcases List.mem_cons.1 z with q | q
     ·have := h.un.x e' he' e he q; subst this
      rw[hek] at hk2; cases hk2; exact hne rfl
     ·exact hn q
   have hhm:∀ i,(Pend (e.x::S) g.log i→(Hm.set id (some (blkN c ty))).get i=none)∧(¬ Pend (e.x::S) g.log i→(Hm.set id (some (blkN c ty))).get i=g.H.get i):=by
    intro i
    rw[Tr.get_set]
    constructor
    ·intro z
     obtain⟨z1,z2⟩:=(hpnd i).1 z
     rw[if_neg z2]; exact(h.hm i).1 z1
    ·intro z
     by_cases q:i=id
     ·subst q; rw[if_pos rfl]; exact hcur.1.symm
     ·rw[if_neg q]; exact(h.hm i).2 (fun y=>z ((hpnd i).2 ⟨y,q⟩))
   have hpp:∀ i,Pend (e.x::S) g.log i→ext φ id (w.heap.size,0) i=none:=by
    intro i z
    obtain⟨z1,z2⟩:=(hpnd i).1 z
    unfold ext; rw[if_neg z2]; exact h.pend i z1
   have hnc:∀ c,o.op≠.defer c:=by intro c2 z; rw[z] at hka; simp [dk] at hka
   by_cases hmm:∃ tt,o.op=.makeMap tt none
   ·obtain ⟨tt, hmm⟩ := hmm
    obtain⟨hs,hv0,hexec⟩:=qkj (t:=t) hmm hop
    simp only[newB,St.mk.injEq,true_and,and_true] at hs
    have hcc:blkN c ty=.map [] 0:=by
     have:=congrArg (fun q=>q.get id) hs
     simp only[Tr.get_set,if_true,Option.some.injEq] at this
     exact this
    rw[hcc] at hhm hcur
    have hI:=h.i.pushAt (Hn:=Hm.set id (some (.map [] 0))) hpid hcur.2 (b:=.map [] 0) (o:=.map #[] 0) (cp:=0)
     rfl (fun j=>Tr.get_set _ _ _ _)
    refine fin (v':=.map (some w.heap.size)) hext hI ?_ hhm hpp (.one (sx ho' hw hnc (.inl (hexec w))))
    rw[hv0]
    simp only[VR]; exact⟨_,0,rfl,dV _ _ _⟩
   ·obtain ⟨c1, c', el, mk, hs, hpre, hmk, hmk2, hexec⟩ := kind_a hka (fun tt z => hmm ⟨tt, z⟩) htr hop
    simp only[newB,nq,St.mk.injEq,true_and,and_true] at hs
    have hcc:blkN c ty=.cells c1 el false none:=by
     have:=congrArg (fun q=>q.get id) hs
     simp only[Tr.get_set,if_true,Option.some.injEq] at this
     exact this
    rw[hcc] at hhm hcur
    have hI:=h.i.pushAt (Hn:=Hm.set id (some (.cells c1 el false none))) hpid hcur.2 (b:=.cells c1 el false none) (o:=.cells ⟨c'⟩ el) (cp:=0)
     ⟨⟨c'⟩,(0,0),rfl,fun _=>rfl,hpre,fun s z=>by cases z⟩ (fun j=>Tr.get_set _ _ _ _)
    refine fin (v':=mk w.heap.size) hext hI ?_ hhm hpp (.one (sx ho' hw hnc (.inl (hexec w))))
    rw[hmk]
    rcases hmk2 with rfl | ⟨len,cap,hlen,rfl⟩
    ·simp only[ptr,VR]; exact⟨_,rfl,⟨0,dV _ _ _⟩,rfl,rfl⟩
    ·simp only[VR]; exact⟨_,_,rfl,.inl ⟨⟨⟨0,dV _ _ _⟩,rfl,rfl⟩,.inl ⟨hlen,rfl⟩⟩⟩
  | e=>exact absurd (h.eff e he hek) hS
  | m ty mv kk ok v1=>
   rw[hek] at hk
   simp only at hk
   obtain⟨rfl,a,b,hop,hmv,hkk⟩:=hk
   have hcur:=h.cur e he hS
   unfold Cur at hcur; rw[hek] at hcur; simp only at hcur
   have h1:=cV (a:=⟨t,[]⟩) htr hmv
   have h2:=cV (a:=⟨t,[]⟩) htr hkk
   have hlook:gj P Hm ty mv kk ok=some e.v:=by
    rw[← hcur]
    refine lookupV_congr fun r hr=>?_
    refine(h.hm _).2 ?_
    intro hp
    subst hr
    simp only[VR] at h1
    obtain⟨r',c,_,hφ⟩:=h1
    rw[h.pend _ hp] at hφ; cases hφ
   obtain⟨hv2,hv1⟩:=lookupV_run (st:=⟨r,Hm,g.n,[]⟩) h.i h1 h2 hlook
   refine finSame (by intro i c ty z; rw[hek] at z; cases z) (Ext.refl _ _) h.i hv1 (.one (sx ho' hw (by intro c z; rw[hop] at z; cases z) (.inl ?_)))
   have:(execOp (⟨t,[]⟩:Act).eval o)=iX (Instr.lookup ty ((⟨t,[]⟩:Act).eval a) ((⟨t,[]⟩:Act).eval b) ok):=by simp only[execOp,hop]; rfl
   rw[this]
   exact iQ hv2
theorem Ext.trans0{ψ χ:Phi}{m m':Nat}(h:Ext φ n0 ψ m)(g:Ext ψ n0 χ m'):Ext φ n0 χ m':=
 ⟨Phi.le_trans h.le g.le,fun i p e=>by
  rcases g.new i p e with x | x
  ·exact h.new i p x
  ·exact .inr x,g.n⟩
theorem J.effect(hs : Snd P rec)(h : J P N opsA.toList A T0 n0 w₀ W g S φ t w Hm){x : Nat}{rest rest' : List Nat}{o : Oper}(ho : opsA.toList[x]? = some o)(hE : isE o = true)
  (hanc:∀ y,bit A x y=true→y ∈ S) (e:qj P rec N opsA.toList A x rest' g=some g1) :
  (∀ y ∈ rest',bit A y x=true)∧oV g.log x=false∧(∃ e0,g1.log=e0::g.log∧e0.x=x) ∧
  ∃ φ' w' t' Hm',Ext φ n0 φ' g1.n∧J P N opsA.toList A T0 n0 w₀ W g1 (x::S) φ' t' w' Hm' ∧
   Steps P (lone (fr f t (.inRegion opsA (x::rest)::k) ds kd ro) cs w) (lone (fr f t' (.inRegion opsA rest::k) ds kd ro) cs w'):=by
 have ho':opsA[x]?=some o:=by simpa using ho
 unfold qj at e
 rw[ho] at e
 simp only at e
 split at e
 ·cases e
 rename_i hcond
 simp only[Bool.and_eq_true,Bool.not_eq_true'] at hcond
 obtain⟨⟨hN,hsl⟩,hil⟩:=hcond
 have hS:x ∉ S:=by
  intro hx
  obtain⟨e',he',q⟩:=h.sub x hx
  have:oV g.log x=true:=kJ.2 ⟨e',he',q⟩
  rw[hil] at this; cases this
 have hNt:inN t.size o.dst=true:=by rw[h.sz]; exact hN
 have hcl:Closed A (x::S):=by
  intro y hy z hz
  rcases List.mem_cons.1 hy with rfl | hy
  ·exact List.mem_cons_of_mem _ (hanc z hz)
  ·exact List.mem_cons_of_mem _ (h.cl y hy z hz)
 have fin:∀ {v:Value} {H1:Hp} {n1:Nat} {φ':Phi} {w':World} {v':Value} {Hm':Hp},
   RunOk P opsA.toList { x,dst:=o.dst,slots:=cz opsA.toList o,v,k:=.e } o (fj g.T (cz opsA.toList o)) →
   Ext φ n0 φ' n1→g.n≤n1→I w₀ W φ' Hm' n1 w'→VR φ' v v' →
   (∀ i,(Pend S g.log i→Hm'.get i=none)∧(¬ Pend S g.log i→Hm'.get i=H1.get i))→(∀ i,Pend S g.log i→φ' i=none) →
   (∀ e ∈ g.log,e.x ∉ S→Cur P H1 n1 e) →
   Steps P (lone (fr f t (.inRegion opsA (x::rest)::k) ds kd ro) cs w) (lone (fr f ((⟨t,[]⟩:Act).put o.dst v').tmps (.inRegion opsA rest::k) ds kd ro) cs w') →
   ∃ φ' w' t' Hm',Ext φ n0 φ' n1∧J P N opsA.toList A T0 n0 w₀ W (addE g x o.dst (cz opsA.toList o) v .e H1 n1) (x::S) φ' t' w' Hm' ∧
    Steps P (lone (fr f t (.inRegion opsA (x::rest)::k) ds kd ro) cs w) (lone (fr f t' (.inRegion opsA rest::k) ds kd ro) cs w'):=by
  intro v H1 n1 φ' w' v' Hm' hrun hext hn1 hI hv hhm hp hcur hst
  obtain⟨q1,q2,q3,q4,q5,q6⟩:=Vy (v:=v) (kx:=.e) h hsl hil
  have hun:=h.un.cons (e0:={ x,dst:=o.dst,slots:=cz opsA.toList o,v,k:=.e }) q3 q4 (fun _ _ _ _ _ _ _ _ z=>by cases z)
  have hpnd:∀ i,Pend (x::S) ({ x,dst:=o.dst,slots:=cz opsA.toList o,v,k:=.e }::g.log) i↔Pend S g.log i:=by
   intro i
   constructor
   ·rintro ⟨e', he', hn, c, ty, hk⟩
    rcases List.mem_cons.1 he' with rfl | he'
    ·cases hk
    ·exact⟨e',he',fun z=>hn (List.mem_cons_of_mem _ z),c,ty,hk⟩
   ·rintro ⟨e', he', hn, c, ty, hk⟩
    refine⟨e',List.mem_cons_of_mem _ he',fun z=>?_,c,ty,hk⟩
    rcases List.mem_cons.1 z with z | z
    ·exact q3 e' he' z
    ·exact hn z
  refine⟨φ',w',_,Hm',hext,⟨?_,?_,hI,fun i=>⟨fun z=>(hhm i).1 ((hpnd i).1 z),fun z=>(hhm i).2 (fun y=>z ((hpnd i).2 y))⟩,fun i z=>hp i ((hpnd i).1 z),?_,hcl,hun,?_,?_,?_,q6,hext.n,?_⟩,hst⟩
  ·refine trf_put (h.tr.mono hext.le) hNt hv (fun d => ?_)
   have:=TF_in (g:=addE g x o.dst (cz opsA.toList o) v .e H1 n1) (S:=S) (T0:=T0) hun (List.mem_cons_self) hS d
   simp only[addE] at this ⊢
   rw[this]
   by_cases q:o.dst=some d
   ·simp [q]
   ·simp only[if_neg q]; exact q5 S hS d
  ·have : ((⟨t, []⟩ : Act).put o.dst v').tmps.size = t.size := by cases o.dst <;> simp [Act.put]
   rw[this]; exact h.sz
  ·intro y hy
   rcases List.mem_cons.1 hy with rfl | hy
   ·exact⟨_,List.mem_cons_self,rfl⟩
   ·obtain⟨e',he',q⟩:=h.sub y hy; exact⟨e',List.mem_cons_of_mem _ he',q⟩
  ·intro e' he'
   rcases List.mem_cons.1 he' with rfl | he'
   ·exact⟨o,fj g.T (cz opsA.toList o),ho,rfl,hN,hrun,fun d hd=>by rw[iz,if_neg hd],q2⟩
   ·exact q1 e' he'
  ·intro e' he' hn
   rcases List.mem_cons.1 he' with rfl | he'
   ·exact absurd List.mem_cons_self hn
   ·exact hcur e' he' (fun z=>hn (List.mem_cons_of_mem _ z))
  ·intro e' he' hk
   rcases List.mem_cons.1 he' with rfl | he'
   ·exact List.mem_cons_self
   ·exact List.mem_cons_of_mem _ (h.eff e' he' hk)
  ·intro e' he' i c ty hk
   rcases List.mem_cons.1 he' with rfl | he'
   ·cases hk
   ·exact⟨(h.ids e' he' i c ty hk).1,Nat.lt_of_lt_of_le (h.ids e' he' i c ty hk).2 hn1⟩
 have htr:TR φ (fj g.T (cz opsA.toList o)) t:=by
  obtain⟨_,q2,_,_,q5,_⟩:=Vy (v:=undef) (kx:=.e) h hsl hil
  refine tr_of h.tr (slots:=cz opsA.toList o) (fun d hd=>by rw[iz,if_neg hd]) (fun d hd=>?_)
  rw[← q2 S h.cl hanc hS d hd,q5 S hS d]
 split at e
 ·cases e
 ·rename_i hwa
  rw[hE] at e
  simp only at e
  split at e
  ·rename_i hbar
   simp only[Option.some.injEq] at e; subst e
   refine⟨by simpa using hbar,hil,⟨_,rfl,rfl⟩,?_⟩
   exact fin (.inl ⟨hwa,rfl,.inr rfl⟩) ⟨Phi.le_refl _,fun _ _ z=>.inl z,h.nle⟩ (Nat.le_refl _) h.i (bQ.refl rfl) h.hm h.pend h.cur (.one (NJ ho' (Jw htr hwa)))
  ·cases e
 ·rename_i hwa
  have hw:=Jw htr hwa
  unfold NV at e
  split at e
  ·rename_i hk; simp [isE,hk] at hE
  ·rename_i hk; simp [isE,hk] at hE
  ·rename_i hk; simp [isE,hk] at hE
  case h_5=>rename_i hk; simp [isE,hk] at hE
  rename_i hk
  split at e
  case h_2=>cases e
  rename_i H1 hbar hmask
  split at e
  case h_2=>cases e
  rename_i v s hc
  split at e
  case h_2=>cases e
  rename_i H2 hback
  split at e
  case h_2=>cases e
  rename_i hchk
  simp only[Option.some.injEq] at e; subst e
  refine⟨by simpa using hbar,hil,⟨_,rfl,rfl⟩,?_⟩
  obtain⟨m1,m2⟩:=maskL_ok hmask
  have bL:=backL_ok hback
  have hPA:∀ i,Pend S g.log i→AB A x g.log i:=by
   rintro i ⟨e',he',hn,c,ty,hk'⟩
   refine⟨e',he',?_,c,ty,hk'⟩
   cases hb:bit A x e'.x with
   | false=>rfl
   | true=>exact absurd (hanc _ hb) hn
  have hsub:Sub (JZ A x H1 g.log) Hm:=by
   intro i b' hi
   by_cases ha:AB A x g.log i
   ·rw[(xz i g.log).1 ha] at hi; cases hi
   ·rw [(xz i g.log).2 ha] at hi
    obtain⟨b,hb1,hb2⟩:=m1 i b' hi
    exact⟨b,by rw[(h.hm i).2 (fun z=>ha (hPA i z))]; exact hb1,hb2⟩
  obtain⟨φ',w',v',hext,hI,hv,hst⟩:=cOp_ok (f:=f) (k:=k) (ds:=ds) (kd:=kd) (ro:=ro) (cs:=cs) (rest:=rest) hs (st:=⟨fj g.T (cz opsA.toList o),JZ A x H1 g.log,g.n,[]⟩) (h.i.sub hsub) htr ho' hw hc
  have hext0:Ext φ n0 φ' s.n:=⟨hext.le,fun i p z=>by
   rcases hext.new i p z with y | y
   ·exact .inl y
   ·exact .inr (Nat.le_trans h.nle y),Nat.le_trans h.nle hext.n⟩
  have hpφ:∀ i,Pend S g.log i→φ' i=none:=by
   intro i hp
   obtain⟨e',he',hn,c,ty,hk'⟩:=hp
   have h0:=h.pend i ⟨e',he',hn,c,ty,hk'⟩
   have hlt:=(h.ids e' he' i c ty hk').2
   cases hh:φ' i with
   | none=>rfl
   | some p=>
    rcases hext.new i p hh with y | y
    ·rw[y] at h0; cases h0
    ·simp only at y; omega
  let Hb:=JK A x g.H H2 g.log
  have hHb:∀ i,(AB A x g.log i→Hb.get i=g.H.get i)∧(¬ AB A x g.log i→LB A x g.log i→Hb.get i=g.H.get i)∧(¬ AB A x g.log i→¬ LB A x g.log i→Hb.get i=s.H.get i):=by
   intro i
   refine⟨(Jv i g.log).1,fun ha hl=>?_,fun ha hl=>?_⟩
   ·exact((Jv i g.log).2 ha).trans ((bL i).1 hl).1
   ·exact((Jv i g.log).2 ha).trans ((bL i).2 hl)
  have hcut:∃ Hm':Hp,∀ i,(Pend S g.log i→Hm'.get i=none)∧(¬ Pend S g.log i→Hm'.get i=Hb.get i):=by
   have:∀ l:List Ent,(∀ e ∈ l,e ∈ g.log)→∃ Hm':Hp,∀ i,(Pend S l i→Hm'.get i=none)∧(¬ Pend S l i→Hm'.get i=Hb.get i):=by
    intro l
    induction l with
    | nil=>intro _; exact⟨Hb,fun i=>⟨fun⟨_,z,_⟩=>absurd z (by simp),fun _=>rfl⟩⟩
    | cons e' l ih=>
     intro hl
     obtain⟨Hx,hx⟩:=ih (fun e he=>hl e (List.mem_cons_of_mem _ he))
     have hc1:∀ i,Pend S (e'::l) i↔(e'.x ∉ S∧∃ c ty,e'.k=.a i c ty)∨Pend S l i:=by intro i; unfold Pend; simp
     by_cases q:e'.x ∈ S
     ·exact⟨Hx,fun i=>⟨fun z=>(hx i).1 (((hc1 i).1 z).resolve_left (fun y=>y.1 q)),fun z=>(hx i).2 (fun y=>z ((hc1 i).2 (.inr y)))⟩⟩
     ·cases hk' : e'.k with
      | a id c ty=>
       refine⟨Hx.set id none,fun i=>?_⟩
       rw[Tr.get_set]
       constructor
       ·intro z
        split
        ·rfl
        ·rename_i ne
         refine(hx i).1 (((hc1 i).1 z).resolve_left ?_)
         rintro⟨_,c',ty',hk2⟩
         rw[hk'] at hk2; cases hk2; exact ne rfl
       ·intro z
        rw[if_neg]
        ·exact(hx i).2 (fun y=>z ((hc1 i).2 (.inr y)))
        ·intro y; subst y; exact z ((hc1 i).2 (.inl ⟨q,c,ty,hk'⟩))
      | p=>exact⟨Hx,fun i=>⟨fun z=>(hx i).1 (((hc1 i).1 z).resolve_left (by rintro⟨_,c',ty',hk2⟩; rw[hk'] at hk2; cases hk2)),fun z=>(hx i).2 (fun y=>z ((hc1 i).2 (.inr y)))⟩⟩
      | l a b=>exact⟨Hx,fun i=>⟨fun z=>(hx i).1 (((hc1 i).1 z).resolve_left (by rintro⟨_,c',ty',hk2⟩; rw[hk'] at hk2; cases hk2)),fun z=>(hx i).2 (fun y=>z ((hc1 i).2 (.inr y)))⟩⟩
      | e=>exact⟨Hx,fun i=>⟨fun z=>(hx i).1 (((hc1 i).1 z).resolve_left (by rintro⟨_,c',ty',hk2⟩; rw[hk'] at hk2; cases hk2)),fun z=>(hx i).2 (fun y=>z ((hc1 i).2 (.inr y)))⟩⟩
      | m a b c d f=>exact⟨Hx,fun i=>⟨fun z=>(hx i).1 (((hc1 i).1 z).resolve_left (by rintro⟨_,c',ty',hk2⟩; rw[hk'] at hk2; cases hk2)),fun z=>(hx i).2 (fun y=>z ((hc1 i).2 (.inr y)))⟩⟩
   exact this g.log (fun _ z=>z)
  obtain⟨Hm',hm'⟩:=hcut
  have hIb:I w₀ W φ' Hm' s.n w':=by
   refine h.i.back hsub hI hext.le (fun i=>AB A x g.log i∨LB A x g.log i) ?_ ?_
   ·intro i b hno hi
    have hnp:¬ Pend S g.log i:=fun z=>hno (.inl (hPA i z))
    rw[(hm' i).2 hnp,(hHb i).2.2 (fun z=>hno (.inl z)) (fun z=>hno (.inr z))] at hi
    exact hi
   ·intro i b hov hi
    have hnp:¬ Pend S g.log i:=fun z=>by rw[(hm' i).1 z] at hi; cases hi
    rw[(hm' i).2 hnp] at hi
    have hgi:g.H.get i=some b:=by
     by_cases ha:AB A x g.log i
     ·rw[← (hHb i).1 ha]; exact hi
     ·rw[← (hHb i).2.1 ha (hov.resolve_left ha)]; exact hi
    refine⟨by rw[(h.hm i).2 hnp]; exact hgi,?_⟩
    by_cases ha:AB A x g.log i
    ·exact .inl ((xz i g.log).1 ha)
    ·have hl := hov.resolve_left ha
     cases hm1:H1.get i with
     | none=>exact .inl (by rw[(xz i g.log).2 ha]; exact hm1)
     | some b1=>exact .inr ⟨⟨b1,by rw[(xz i g.log).2 ha]; exact hm1,m2 i b1 hl hm1⟩,((bL i).1 hl).2⟩
  refine fin (.inr ⟨hwa,trivial⟩) hext0 hext.n hIb hv hm' hpφ ?_ hst
  intro e' he' hn
  have hcu:=h.cur e' he' hn
  have hbf:bit A x e'.x=false:=by
   cases hb:bit A x e'.x with
   | false=>rfl
   | true=>exact absurd (hanc _ hb) hn
  unfold Cur at hcu ⊢
  split
  ·rename_i ty ad hk'
   rw[hk'] at hcu
   simp only at hcu
   rw[← hcu]
   refine HJ ?_
   by_cases ha:AB A x g.log ad.block
   ·exact(hHb _).1 ha
   ·exact(hHb _).2.1 ha ⟨e',he',hbf,ty,ad,hk',rfl⟩
  ·rename_i id c ty hk'
   rw[hk'] at hcu
   simp only at hcu
   exact⟨((hHb id).1 ⟨e',he',hbf,c,ty,hk'⟩).trans hcu.1,Nat.lt_of_lt_of_le hcu.2 hext.n⟩
  ·rename_i ty mv kk ok v1 hk'
   have:=chkM_eq hchk e' he' hbf
   rw[hk'] at this
   exact chkE_m this
  ·trivial
end Go.Ev
end
section
namespace Go.Ev
open Go
variable {P:Program} {w₀:World} {W:Sets} {φ:Phi} {st st':St} {w:World} {H Hm:Hp} {n n0:Nat} {rec:Rec}
 {f:FuncId} {t:Array Value} {k:List Item} {ds:List Deferred} {kd:CallKind} {ro:Option Nat} {cs:List Frame} {N:Nat}
 {opsA:Array Oper} {ops:List Oper} {A:List Nat} {T0:Tm} {g g1 gf:Reg} {S:List Nat}
theorem DK{x:Nat}{rest:List Nat}(e:qj P rec N ops A x rest g=some g1) :
  (∃ o,ops[x]?=some o∧(isE o=true→∀ y ∈ rest,bit A y x=true))∧oV g.log x=false∧∃ e0,g1.log=e0::g.log∧e0.x=x:=by
 unfold qj at e
 split at e
 ·cases e
 rename_i o ho
 simp only at e
 split at e
 ·cases e
 rename_i hcond
 simp only[Bool.and_eq_true,Bool.not_eq_true'] at hcond
 refine⟨⟨o,ho,fun hE=>?_⟩,hcond.2,?_⟩
 ·split at e
  ·cases e
  ·rw [hE] at e
   simp only at e
   split at e
   ·rename_i hb; simpa using hb
   ·cases e
  ·have hk : dk o.op = .e := by
    unfold isE at hE
    split at hE
    ·assumption
    ·cases hE
   unfold NV at e
   rw[hk] at e
   simp only at e
   split at e
   ·rename_i hb _; simpa using hb
   ·cases e
 ·split at e
  ·cases e
  ·split at e
   ·split at e
    ·simp only[Option.some.injEq] at e; subst e; exact⟨_,rfl,rfl⟩
    ·cases e
   ·simp only[Option.some.injEq] at e; subst e; exact⟨_,rfl,rfl⟩
  ·unfold NV at e
   split at e
   ·split at e
    ·simp only[Option.some.injEq] at e; subst e; exact⟨_,rfl,rfl⟩
    ·cases e
   ·split at e
    ·split at e
     ·split at e
      ·simp only[Option.some.injEq] at e; subst e; exact⟨_,rfl,rfl⟩
      ·cases e
     ·cases e
    ·cases e
   ·split at e
    ·split at e
     ·simp only[Option.some.injEq] at e; subst e; exact⟨_,rfl,rfl⟩
     ·simp only[Option.some.injEq] at e; subst e; exact⟨_,rfl,rfl⟩
     ·cases e
    ·cases e
   ·split at e
    ·split at e
     ·split at e
      ·split at e
       ·simp only[Option.some.injEq] at e; subst e; exact⟨_,rfl,rfl⟩
       ·cases e
      ·cases e
     ·cases e
    ·cases e
   ·split at e
    ·split at e
     ·split at e
      ·simp only[Option.some.injEq] at e; subst e; exact⟨_,rfl,rfl⟩
      ·cases e
     ·cases e
    ·cases e
theorem qkv:∀ {π:List Nat} {g:Reg},J P N ops A T0 n0 w₀ W g S φ t w Hm→tv P rec N ops A π g=some gf →
  ∃ g' π',J P N ops A T0 n0 w₀ W g' S φ t w Hm∧tv P rec N ops A π' g'=some gf∧(∀ x,oV g.log x=true∨x ∈ π→oV g'.log x=true∨x ∈ π') ∧
   (π'=[]∨∃ x π'' g1,π'=x::π''∧qj P rec N ops A x π'' g'=some g1∧tv P rec N ops A π'' g1=some gf∧∃ o,ops[x]?=some o∧isE o=true)
 | [],g,h,e=>⟨g,[],h,e,fun _ z=>z,.inl rfl⟩
 | x::π,g,h,e=>by
  have e0:=e
  simp only[tv] at e
  split at e
  ·cases e
  ·rename_i g1 h1
   obtain⟨⟨o,ho,_⟩,_,e1,hl,hx⟩:=DK h1
   cases hE:isE o with
   | true=>exact⟨g,x::π,h,e0,fun _ z=>z,.inr ⟨x,π,g1,rfl,h1,e,o,ho,hE⟩⟩
   | false=>
    obtain⟨g',π',a,b,c,d⟩:=qkv (h.virt ho hE h1) e
    refine⟨g',π',a,b,fun y hy=>c y ?_,d⟩
    rw[hl]
    rcases hy with hy | hy
    ·left
     obtain⟨e2,he2,q⟩:=kJ.1 hy
     exact kJ.2 ⟨e2,List.mem_cons_of_mem _ he2,q⟩
    ·rcases List.mem_cons.1 hy with rfl | hy
     ·exact .inl (kJ.2 ⟨e1,List.mem_cons_self,hx⟩)
     ·exact .inr hy
def LS(listed:Array Bool)(S:List Nat)(n:Nat):Prop:=∀ i,i<n→listed[i]?=some (decide (i ∈ S))
theorem LS.set{listed:Array Bool}{n i:Nat}(h:LS listed S n)(hi:i<n):LS (listed.setIfInBounds i true) (i::S) n:=by
 intro j hj
 rw[Array.getElem?_setIfInBounds]
 by_cases q:i=j
 ·subst q
  have:=h i hi
  have hlt:i<listed.size:=by
   rcases Nat.lt_or_ge i listed.size with y | y
   ·exact y
   ·rw[Array.getElem?_eq_none y] at this; cases this
  simp [hlt]
 ·rw [if_neg q, h j hj]
  have:¬ j=i:=fun z=>q z.symm
  simp [this]
structure AncOk (ops:List Oper) (A:List Nat):Prop where
 back:∀ x o,ops[x]?=some o→∀ e ∈ o.after,Region.binds .any e=true→e.on<x
 chain:∀ x o,ops[x]?=some o→∀ y,bit A x y=true→∃ e ∈ o.after,Region.binds .any e=true∧(e.on=y∨bit A e.on y=true)
theorem ancOk_ok(h:ancOk ops A=true):AncOk ops A:=by
 simp only[ancOk,List.all_eq_true,List.mem_range] at h
 have key:∀ x o,ops[x]?=some o→(∀ e ∈ o.after.toList,Hz e=true→e.on<x)∧(∀ y,y<x→bit A x y=true→∃ e ∈ o.after.toList,Hz e=true∧(e.on=y∨bit A e.on y=true))∧A.getD x 0<2 ^ x:=by
  intro x o ho
  have hlt:x<ops.length:=by
   rcases Nat.lt_or_ge x ops.length with y | y
   ·exact y
   ·rw[List.getElem?_eq_none y] at ho; cases ho
  have:=h x hlt
  rw[ho] at this
  simp only[Bool.and_eq_true,List.all_eq_true,List.mem_range,Bool.or_eq_true,Bool.not_eq_true',List.any_eq_true,Nat.blt_eq] at this
  obtain⟨⟨a,b⟩,c⟩:=this
  refine⟨fun e he hb=>?_,fun y hy hb=>?_,c⟩
  ·rcases a e he with q | q
   ·rw[hb] at q; cases q
   ·exact q
  ·rcases b y hy with q | ⟨e, he, hb1, q⟩
   ·rw[hb] at q; cases q
   ·exact⟨e,he,hb1,by rcases q with q | q; exact .inl (Nat.eq_of_beq_eq_true q); exact .inr q⟩
 constructor
 ·intro x o ho e he hb
  exact(key x o ho).1 e (Array.mem_toList_iff.2 he) hb
 ·intro x o ho y hb
  obtain⟨_,k2,k3⟩:=key x o ho
  have hy:y<x:=by
   rcases Nat.lt_or_ge y x with q | q
   ·exact q
   ·exfalso
    unfold bit at hb
    have:=Nat.testBit_lt_two_pow (Nat.lt_of_lt_of_le k3 (Nat.pow_le_pow_right (by omega) q))
    rw[this] at hb; cases hb
  obtain⟨e,he,a,b⟩:=k2 y hy hb
  exact⟨e,Array.mem_toList_iff.1 he,a,b⟩
theorem ready_iff{listed:Array Bool}(hl:LS listed S opsA.size)(hA:AncOk opsA.toList A){i:Nat} :
  i ∈ Region.ready .any opsA listed↔i<opsA.size∧i ∉ S∧∀ o,opsA[i]?=some o→∀ e ∈ o.after,Region.binds .any e=true→e.on ∈ S:=by
 unfold Region.ready
 rw[List.mem_filter,List.mem_range]
 constructor
 ·rintro ⟨hi, h⟩
  simp only[Bool.and_eq_true,Bool.not_eq_true'] at h
  obtain⟨h1,h2⟩:=h
  refine⟨hi,?_,?_⟩
  ·intro hS
   rw[Array.getD_eq_getD_getElem?,hl i hi] at h1
   simp [hS] at h1
  ·intro o ho e he hb
   rw[ho] at h2
   simp only[Option.map_some,Option.getD_some,Array.all_eq_true_iff_forall_mem,Bool.or_eq_true,Bool.not_eq_true'] at h2
   have hon:=hA.back i o (by simpa using ho) e he hb
   rcases h2 e he with q | q
   ·rw[hb] at q; cases q
   ·rw [Array.getD_eq_getD_getElem?, hl e.on (by omega)] at q
    simpa using q
 ·rintro ⟨hi, hS, hd⟩
  refine⟨hi,?_⟩
  have ho:opsA[i]?=some opsA[i]:=Array.getElem?_eq_getElem hi
  rw[Bool.and_eq_true,Array.getD_eq_getD_getElem?,hl i hi,ho]
  refine⟨by simp [hS],?_⟩
  simp only[Option.map_some,Option.getD_some,Array.all_eq_true_iff_forall_mem,Bool.or_eq_true,Bool.not_eq_true']
  intro e he
  cases hb:Region.binds .any e with
  | false=>exact .inl rfl
  | true=>
   right
   have hon:=hA.back i _ (show opsA.toList[i]?=some opsA[i] by rw[Array.getElem?_toList]; exact ho) e he hb
   rw[Array.getD_eq_getD_getElem?,hl e.on (by omega)]
   simpa using hd _ ho e he hb
theorem ready_nil{listed:Array Bool}(hl:LS listed S opsA.size)(hA:AncOk opsA.toList A)(h:Region.ready .any opsA listed=[]):∀ x,x<opsA.size→x ∈ S:=by
 intro x
 induction x using Nat.strongRecOn with
 | _ x ih=>
  intro hx
  by_cases q:x ∈ S
  ·exact q
  ·exfalso
   have:x ∈ Region.ready .any opsA listed:=(ready_iff hl hA).2 ⟨hx,q,fun o ho e he hb=>by
    have hon:=hA.back x o (by simpa using ho) e he hb
    exact ih e.on hon (by omega)⟩
   rw[h] at this; cases this
theorem J.done(h:J P N opsA.toList A T0 n0 w₀ W g S φ t w Hm){π:List Nat}(e:tv P rec N opsA.toList A π g=some gf)(hall:∀ x,x<opsA.size→x ∈ S) :
  TR φ gf.T t∧I w₀ W φ gf.H gf.n w∧n0≤gf.n:=by
 obtain⟨g',π',h',e',_,hπ⟩:=qkv h e
 have lt:∀ e ∈ g'.log,e.x<opsA.size:=by
  intro e he
  obtain⟨o,r,ho,_⟩:=h'.ent e he
  rcases Nat.lt_or_ge e.x opsA.size with q | q
  ·exact q
  ·rw[List.getElem?_eq_none (by simpa using q)] at ho; cases ho
 rcases hπ with rfl | ⟨x,π'',g1,rfl,h1,h2,o,ho,hE⟩
 ·simp only [tv, Option.some.injEq] at e'; subst e'
  refine⟨?_,h'.i.congr (fun i=>?_),h'.nle⟩
  ·intro d v hv
   refine h'.tr d v ?_
   rw[h'.T d] at hv
   unfold TF
   cases hf:g'.log.find? (fun e=>e.dst == some d) with
   | none=>rw[hf] at hv; exact hv
   | some e=>
    rw[hf] at hv
    have:=hall _ (lt e (List.mem_of_find?_eq_some hf))
    simp only[this,if_true]; exact hv
  ·refine ((h'.hm i).2 ?_).symm
   rintro⟨e,he,hn,_⟩
   exact hn (hall _ (lt e he))
 ·exfalso
  have hx:x<opsA.size:=by
   rcases Nat.lt_or_ge x opsA.size with q | q
   ·exact q
   ·rw[List.getElem?_eq_none (by simpa using q)] at ho; cases ho
  obtain⟨e,he,q⟩:=h'.sub x (hall x hx)
  have:=(DK h1).2.1
  rw[kJ.2 ⟨e,he,q⟩] at this; cases this
theorem go_ok(hs:Snd P rec)(hA:AncOk opsA.toList A):∀(fuel tp:Nat) (listed:Array Bool) (g:Reg) (S:List Nat) (φ:Phi) (t:Array Value) (w:World) (Hm:Hp) (π todo:List Nat),
  J P N opsA.toList A T0 n0 w₀ W g S φ t w Hm→tv P rec N opsA.toList A π g=some gf→(∀ x,x<opsA.size→oV g.log x=true∨x ∈ π)→LS listed S opsA.size →
  (∀ x,x<opsA.size→x ∈ S∨x ∈ todo)→todo.length≤fuel →
  ∃ φ' w' t',Ext φ n0 φ' gf.n∧TR φ' gf.T t'∧t'.size=N∧I w₀ W φ' gf.H gf.n w' ∧
   Steps P (lone (fr f t (.inRegion opsA (Region.linearise.go .any opsA fuel tp listed [])::k) ds kd ro) cs w) (lone (fr f t' k ds kd ro) cs w'):=by
 intro fuel
 induction fuel with
 | zero=>
  intro tp listed g S φ t w Hm π todo h e hc hl ht hf
  have hall:∀ x,x<opsA.size→x ∈ S:=by
   intro x hx
   rcases ht x hx with q | q
   ·exact q
   ·have : todo = [] := List.eq_nil_of_length_eq_zero (by omega)
    rw[this] at q; cases q
  obtain⟨a,b,c⟩:=h.done e hall
  exact⟨φ,w,t,⟨Phi.le_refl _,fun _ _ z=>.inl z,c⟩,a,h.sz,b,by simpa [Region.linearise.go] using Steps.one Az⟩
 | succ fuel ih=>
  intro tp listed g S φ t w Hm π todo h e hc hl ht hf
  simp only[Region.linearise.go]
  change ∃ φ' w' t',Ext φ n0 φ' gf.n∧TR φ' gf.T t'∧t'.size=N∧I w₀ W φ' gf.H gf.n w' ∧
   Steps P (lone (fr f t (.inRegion opsA (match (Region.ready .any opsA listed)[tp % (Region.ready .any opsA listed).length]? with
    | some i=>Region.linearise.go .any opsA fuel (tp / (Region.ready .any opsA listed).length) (listed.setIfInBounds i true) [i]
    | none=>[].reverse)::k) ds kd ro) cs w) (lone (fr f t' k ds kd ro) cs w')
  cases hi:(Region.ready .any opsA listed)[tp % (Region.ready .any opsA listed).length]? with
  | none=>
   have hnil:Region.ready .any opsA listed=[]:=by
    cases hr:Region.ready .any opsA listed with
    | nil=>rfl
    | cons x xs=>
     rw[hr] at hi
     have hlt:tp % (x::xs).length<(x::xs).length:=Nat.mod_lt _ (by simp)
     simp at hi
     simp at hlt
     omega
   obtain⟨a,b,c⟩:=h.done e (ready_nil hl hA hnil)
   exact⟨φ,w,t,⟨Phi.le_refl _,fun _ _ z=>.inl z,c⟩,a,h.sz,b,Steps.one Az⟩
  | some i=>
   simp only[]
   rw[linearise_go_acc,List.reverse_singleton,List.singleton_append]
   obtain⟨hin,hiS,hid⟩:=(ready_iff hl hA).1 (List.mem_of_getElem? hi)
   have ho:opsA[i]?=some opsA[i]:=Array.getElem?_eq_getElem hin
   have hanc:∀ y,bit A i y=true→y ∈ S:=by
    intro y hy
    obtain⟨e',he',hb,q⟩:=hA.chain i _ (show opsA.toList[i]?=some opsA[i] by rw[Array.getElem?_toList]; exact ho) y hy
    have hon:=hid _ ho e' he' hb
    rcases q with rfl | q
    ·exact hon
    ·exact h.cl _ hon y q
   have ht':∀ x,x<opsA.size→x ∈ i::S∨x ∈ todo.erase i:=by
    intro x hx
    by_cases q:x=i
    ·exact .inl (by rw[q]; exact List.mem_cons_self)
    ·rcases ht x hx with y | y
     ·exact .inl (List.mem_cons_of_mem _ y)
     ·exact .inr ((List.mem_erase_of_ne q).2 y)
   have hlen:(todo.erase i).length≤fuel:=by
    have:i ∈ todo:=(ht i hin).resolve_left hiS
    rw[List.length_erase_of_mem this]; omega
   obtain⟨g',π',h',e',hc',hπ⟩:=qkv h e
   have hcov:∀ x,x<opsA.size→oV g'.log x=true∨x ∈ π':=fun x hx=>hc' x (hc x hx)
   by_cases hin':oV g'.log i=true
   ·obtain ⟨e0, he0, hx0⟩ := kJ.1 hin'
    obtain⟨φ1,w1,t1,Hm1,x1,j1,s1⟩:=h'.real (f:=f) (k:=k) (ds:=ds) (kd:=kd) (ro:=ro) (cs:=cs) (rest:=Region.linearise.go .any opsA fuel (tp / (Region.ready .any opsA listed).length) (listed.setIfInBounds i true) []) he0 hx0 hiS hanc
    obtain⟨φ2,w2,t2,x2,a2,b2,c2,s2⟩:=ih _ _ _ _ _ _ _ _ _ _ j1 e' hcov (hl.set hin) ht' hlen
    exact⟨φ2,w2,t2,x1.trans0 x2,a2,b2,c2,Steps.trans s1 s2⟩
   ·have hip := (hcov i hin).resolve_left hin'
    rcases hπ with rfl | ⟨x,π'',g1,rfl,h1,h2,o,hox,hE⟩
    ·cases hip
    ·obtain ⟨⟨o', ho', hbar⟩, hnew, e1, hlog, hx1⟩ := DK h1
     rw[hox] at ho'; cases ho'
     have hxi:i=x:=by
      rcases List.mem_cons.1 hip with q | q
      ·exact q
      ·exfalso
       have hxS:=hanc x (hbar hE i q)
       obtain⟨e2,he2,q2⟩:=h'.sub x hxS
       rw[kJ.2 ⟨e2,he2,q2⟩] at hnew; cases hnew
     subst hxi
     obtain⟨_,_,_,φ1,w1,t1,Hm1,x1,j1,s1⟩:=h'.effect hs (f:=f) (k:=k) (ds:=ds) (kd:=kd) (ro:=ro) (cs:=cs) (rest:=Region.linearise.go .any opsA fuel (tp / (Region.ready .any opsA listed).length) (listed.setIfInBounds i true) []) hox hE hanc h1
     have hcov1:∀ x,x<opsA.size→oV g1.log x=true∨x ∈ π'':=by
      intro y hy
      rw[hlog]
      rcases hcov y hy with q | q
      ·obtain ⟨e2, he2, q2⟩ := kJ.1 q
       exact .inl (kJ.2 ⟨e2,List.mem_cons_of_mem _ he2,q2⟩)
      ·rcases List.mem_cons.1 q with rfl | q
       ·exact .inl (kJ.2 ⟨e1,List.mem_cons_self,hx1⟩)
       ·exact .inr q
     obtain⟨φ2,w2,t2,x2,a2,b2,c2,s2⟩:=ih _ _ _ _ _ _ _ _ _ _ j1 h2 hcov1 (hl.set hin) ht' hlen
     exact⟨φ2,w2,t2,x1.trans0 x2,a2,b2,c2,Steps.trans s1 s2⟩
theorem drawE_ok(hs:Snd P rec):DrawOk P (Kj P rec):=by
 intro f ops st st' e w₀ W φ w t ds kd k cs ro' tp hS
 unfold Kj at e
 simp only at e
 split at e
 case h_2=>cases e
 rename_i hcond
 simp only[Bool.and_eq_true] at hcond
 obtain⟨⟨hanc,hcov⟩,hmix⟩:=hcond
 split at e
 case h_2=>cases e
 rename_i g hrun
 simp only[Option.some.injEq] at e; subst e
 have hA:=ancOk_ok hanc
 have hJ:J P (ntm P f) ops.toList (ancs ops.toList) st.T st.n w₀ W { log:=[],T:=st.T,H:=st.H,n:=st.n } [] φ t w st.H:=by
  refine⟨fun d v z=>hS.tr d v z,hS.sz,hS.i,fun i=>⟨fun⟨_,z,_⟩=>absurd z (by simp),fun _=>rfl⟩,fun i ⟨_,z,_⟩=>absurd z (by simp),fun x z=>absurd z (by simp),fun x z=>absurd z (by simp),
   ⟨fun _ z=>absurd z (by simp),fun _ z=>absurd z (by simp),fun _ z=>absurd z (by simp)⟩,fun _ z=>absurd z (by simp),fun _ z=>absurd z (by simp),fun _ z=>absurd z (by simp),fun _=>rfl,Nat.le_refl _,fun _ z=>absurd z (by simp)⟩
 have hL:LS (Array.replicate ops.size false) [] ops.size:=by
  intro i hi
  simp [hi]
 have hcv:∀ x,x<ops.size→oV ({ log:=[],T:=st.T,H:=st.H,n:=st.n }:Reg).log x=true∨x ∈ order ops.toList (ancs ops.toList):=by
  intro x hx
  simp only[covers,List.all_eq_true,List.mem_range] at hcov
  exact .inr (by simpa using hcov x (by simpa using hx))
 obtain⟨φ',w',t',x1,a1,b1,c1,s1⟩:=go_ok (f:=f) (k:=k) (ds:=ds) (kd:=kd) (ro:=ro') (cs:=cs) hs hA ops.size tp (Array.replicate ops.size false) _ [] φ t w st.H _ (List.range ops.size) hJ hrun hcv hL (fun x hx=>.inr (List.mem_range.2 hx)) (by simp)
 refine⟨φ',w',t',x1,⟨c1,a1,b1,hS.d.mono x1.le⟩,?_⟩
 have:Region.schedule (P.follows .mixedOrders) ops tp=Region.linearise.go .any ops ops.size tp (Array.replicate ops.size false) []:=by
  simp [Region.schedule,hmix,Region.linearise]
 rw[this]; exact s1
theorem calls_of{P:Program}{rec:Rec}(hs:Snd P rec){f:FuncId}{args:List Value}{v:Value}{st st':St}(e:JY P rec f args st=some (v,st'))
  {w₀:World} {W:Sets} {φ:Phi} {w:World} {args':List Value} (hI:I w₀ W φ st.H st.n w) (hargs:VRL φ args args') :
  Calls P f ⟨args'⟩ w fun en w'=>∃ φ' v',en=.returned v'∧VR φ' v v'∧Ext φ st.n φ' st'.n∧I w₀ W φ' st'.H st'.n w':=by
 unfold JY at e
 split at e
 ·cases e
 rename_i fn hf
 split at e
 ·cases e
 rename_i c hb
 split at e
 ·cases e
 rename_i hcond
 simp only[Bool.or_eq_true,not_or,Bool.not_eq_true] at hcond
 obtain⟨hname,hlt⟩:=hcond
 have hlt:args.length≤fn.ntmps:=by simpa using hlt
 split at e
 ·cases e
 ·rename_i ex s hne hrec
  split at e
  ·cases e
  rename_i H' hH
  split at e
  ·cases e
  rename_i vs hvs
  simp only[Option.some.injEq,Prod.mk.injEq] at e
  obtain⟨rfl,rfl⟩:=e
  intro cs
  have hal:=hargs.length
  have h0:S w₀ W φ { T:=rW .nil 0 args,H:=st.H,n:=st.n,D:=[] } (ntm P f) (⟨args'⟩++Array.replicate (fn.ntmps-(⟨args'⟩:Array Value).size) undef) [] w:=by
   refine⟨hI,?_,?_,rfl⟩
   ·have := args_ok (φ := φ) (T := .nil) (i := 0) (pre := []) (List.replicate (fn.ntmps - args'.length) undef) hargs rfl TR.nil
    have e1:((⟨args'⟩:Array Value)++Array.replicate (fn.ntmps-(⟨args'⟩:Array Value).size) undef)=⟨[]++args'++List.replicate (fn.ntmps-args'.length) undef⟩:=by
     apply Array.ext'; simp
    rw[e1]; exact this
   ·rw[ntm_eq hf]; simp; omega
  obtain⟨φ1,w1,t1,ds1,hle,hS,hg⟩:=hs _ _ _ _ _ _ hrec w₀ W φ w _ [] .normal [] cs none h0 rfl
  have fin:∀ kk,Steps P (lone (fr f (⟨args'⟩++Array.replicate (fn.ntmps-(⟨args'⟩:Array Value).size) undef) [.code c] [] .normal none) cs w) (lone { fr f t1 kk ds1 .normal none with mode:=.returning } cs w1) →
    ∃ e w' fr,(∃ φ' v',e=.returned v'∧VR φ' (oneV vs) v'∧Ext φ st.n φ' s.n∧I w₀ W φ' H' s.n w')∧Comes P (lone (Frame.enter P f ⟨args'⟩ .normal) cs w) (lone fr cs w') e∧fr.fn=f∧fr.leaving P w' e:=by
   intro kk hst
   obtain⟨w2,hI2,hun⟩:=Vv (P:=P) (f:=f) (t:=t1) (k:=kk) (kd:=.normal) (ro:=none) (cs:=cs) hS.i hS.d hH
   obtain⟨v',hv',hres⟩:=results_ok (fn:=fn) hI2 hS.tr hvs
   refine⟨.returned v',w2,{ fr f t1 kk [] .normal none with mode:=.returning },⟨φ1,v',rfl,hv',hle,hI2⟩,?_,rfl,rfl,rfl,rfl,fn,hf,hres⟩
   rw[qjv hf hb]
   exact hst.trans hun
  cases ex with
  | exit id=>exact absurd rfl (hne id)
  | norm=>exact fin [] (Steps.trans hg (.one st_leave))
  | ret=>
   obtain⟨kk,hg⟩:=hg
   exact fin _ (Steps.trans hg (.one st_leave_ret))
 ·cases e
end Go.Ev
end
section
namespace Go.Ev
open Go
variable {P:Program} {w₀:World} {W:Sets} {φ:Phi} {st st':St} {w:World} {H:Hp} {n:Nat} {rec:Rec}
 {f:FuncId} {t:Array Value} {k:List Item} {ds:List Deferred} {kd:CallKind} {cs:List Frame} {N:Nat}
inductive Lv where
 | leaf
 | node (cut:Option (List Nat)) (a b:Lv)
def Lv.c:Lv→Option (List Nat)
 | .leaf=>none
 | .node c _ _=>c
def Lv.a:Lv→Lv
 | .leaf=>.leaf
 | .node _ a _=>a
def Lv.b:Lv→Lv
 | .leaf=>.leaf
 | .node _ _ b=>b
noncomputable def cutT:Option (List Nat)→Tm→Tm
 | none,T=>T
 | some L,T=>fj T L
noncomputable def cutS(c:Option (List Nat))(st:St):St:={ st with T:=cutT c st.T }
theorem uz.cut{ro:Option Nat}{c:Code}{ex:Ex}{L:Option (List Nat)}(h:uz P ro f c (cutS L st) ex st'):uz P ro f c st ex st':=by
 intro w₀ W φ w t ds kd k cs ro' hS hro
 refine h w₀ W φ w t ds kd k cs ro' ⟨hS.i,?_,hS.sz,hS.d⟩ hro
 cases L with
 | none=>exact hS.tr
 | some L=>
  intro i v e
  simp only[cutS,cutT,iz] at e
  split at e
  ·exact hS.tr i v e
  ·cases e
abbrev RecL:=Lv→Option Nat→FuncId→Code→St→Option (Ex × St)
noncomputable def evA(P:Program)(rec:Rec)(lp:RecL)(draw:Draw)(ro:Option Nat)(f:FuncId):Code→Lv→St→Option (Ex × St)
 | .skip,_,st=>some (.norm,st)
 | .label _,_,st=>some (.norm,st)
 | .ret,_,st=>some (.ret,st)
 | .exit id,_,st=>some (.exit id,st)
 | .seq a b,lv,st=>seqE (evA P rec lp draw ro f a lv.a st) fun s=>evA P rec lp draw ro f b lv.b (cutS lv.c s)
 | .cond c a b,lv,st=>match opd c st.T with
  | some (.bool true)=>evA P rec lp draw ro f a lv.a st
  | some (.bool false)=>evA P rec lp draw ro f b lv.b st
  | _=>none
 | .block id c,lv,st=>blockE id (evA P rec lp draw ro f c lv.a st)
 | .scope c,lv,st=>evA P rec lp draw ro f c lv.a st
 | .loop c,lv,st=>seqE (evA P rec lp draw ro f c lv.a (cutS lv.c st)) fun s=>lp lv ro f (.loop c) (cutS lv.c s)
 | .region _ ops false,_,st=>normE (Wy P rec (ntm P f) ops.toList ops.toList st)
 | .region _ ops true,_,st=>normE (draw f (ntm P f) ops.toList st)
 | .rangeFunc x params assign body,_,st=>rangeE P rec ro f x params assign body st
 | _,_,_=>none
theorem HQ{lp:RecL}{draw:Draw}(hs:Snd P rec)(hlp:∀ lv,Snd P (lp lv))(hdr:DrawOk P draw){ro:Option Nat}:∀(c:Code) (lv:Lv) (st:St) (ex:Ex) (st':St),evA P rec lp draw ro f c lv st=some (ex,st')→uz P ro f c st ex st'
 | .skip,lv,st,ex,st',e=>by
  simp only[evA,Option.some.injEq,Prod.mk.injEq] at e
  obtain⟨rfl,rfl⟩:=e
  intro w₀ W φ w t ds kd k cs ro' hS hro
  exact⟨φ,w,t,ds,Ext.refl _ _,hS,.one st_skip⟩
 | .label l,lv,st,ex,st',e=>by
  simp only[evA,Option.some.injEq,Prod.mk.injEq] at e
  obtain⟨rfl,rfl⟩:=e
  intro w₀ W φ w t ds kd k cs ro' hS hro
  exact⟨φ,w,t,ds,Ext.refl _ _,hS,.one st_label⟩
 | .ret,lv,st,ex,st',e=>by
  simp only[evA,Option.some.injEq,Prod.mk.injEq] at e
  obtain⟨rfl,rfl⟩:=e
  intro w₀ W φ w t ds kd k cs ro' hS hro
  exact⟨φ,w,t,ds,Ext.refl _ _,hS,k,.refl _ _⟩
 | .exit id,lv,st,ex,st',e=>by
  simp only[evA,Option.some.injEq,Prod.mk.injEq] at e
  obtain⟨rfl,rfl⟩:=e
  intro w₀ W φ w t ds kd k cs ro' hS hro
  exact⟨φ,w,t,ds,Ext.refl _ _,hS,k,rfl,.refl _ _⟩
 | .seq a b,lv,st,ex,st',e=>by
  simp only[evA] at e
  cases ha:evA P rec lp draw ro f a lv.a st with
  | none=>rw[ha] at e; cases e
  | some r=>
   obtain⟨ex1,s⟩:=r
   rw[ha] at e
   have h1:=HQ hs hlp hdr a lv.a st ex1 s ha
   cases ex1 with
   | norm=>exact h1.then (HQ hs hlp hdr b lv.b _ ex st' e).cut
   | exit id=>simp only[seqE,Option.some.injEq,Prod.mk.injEq] at e; obtain⟨rfl,rfl⟩:=e; exact h1.out (by intro x; cases x)
   | ret=>simp only[seqE,Option.some.injEq,Prod.mk.injEq] at e; obtain⟨rfl,rfl⟩:=e; exact h1.out (by intro x; cases x)
 | .cond c a b,lv,st,ex,st',e=>by
  simp only[evA] at e
  split at e
  ·rename_i hc
   have h1:=HQ hs hlp hdr a lv.a st ex st' e
   intro w₀ W φ w t ds kd k cs ro' hS hro
   have hv:=cV (a:=⟨t,[]⟩) hS.tr hc; simp only[VR] at hv
   obtain⟨φ1,w1,t1,ds1,hle1,hS1,g1⟩:=h1 w₀ W φ w t ds kd k cs ro' hS hro
   exact⟨φ1,w1,t1,ds1,hle1,hS1,.of_steps (.one (st_cond hv)) g1⟩
  ·rename_i hc
   have h1:=HQ hs hlp hdr b lv.b st ex st' e
   intro w₀ W φ w t ds kd k cs ro' hS hro
   have hv:=cV (a:=⟨t,[]⟩) hS.tr hc; simp only[VR] at hv
   obtain⟨φ1,w1,t1,ds1,hle1,hS1,g1⟩:=h1 w₀ W φ w t ds kd k cs ro' hS hro
   exact⟨φ1,w1,t1,ds1,hle1,hS1,.of_steps (.one (st_cond hv)) g1⟩
  ·cases e
 | .block id c,lv,st,ex,st',e=>by
  simp only[evA] at e
  cases ha:evA P rec lp draw ro f c lv.a st with
  | none=>rw[ha] at e; cases e
  | some r=>
   obtain⟨ex1,s⟩:=r
   rw[ha] at e
   have h1:=HQ hs hlp hdr c lv.a st ex1 s ha
   intro w₀ W φ w t ds kd k cs ro' hS hro
   obtain⟨φ1,w1,t1,ds1,hle1,hS1,g1⟩:=h1 w₀ W φ w t ds kd (.inBlock id::k) cs ro' hS hro
   cases ex1 with
   | norm=>
    simp only[blockE,Option.some.injEq,Prod.mk.injEq] at e; obtain⟨rfl,rfl⟩:=e
    exact⟨φ1,w1,t1,ds1,hle1,hS1,.head PQ (Steps.trans g1 (.one st_inBlock))⟩
   | exit j=>
    obtain⟨kk,hk,g1⟩:=g1
    simp only[blockE] at e
    split at e
    ·rename_i hj
     have hj:=Nat.eq_of_beq_eq_true hj; subst hj
     simp only[Option.some.injEq,Prod.mk.injEq] at e; obtain⟨rfl,rfl⟩:=e
     refine⟨φ1,w1,t1,ds1,hle1,hS1,.head PQ (Steps.trans g1 (.one (st_exit ?_)))⟩
     rw[hk]; simp [exitTo]
    ·rename_i hj
     simp only[Option.some.injEq,Prod.mk.injEq] at e; obtain⟨rfl,rfl⟩:=e
     refine⟨φ1,w1,t1,ds1,hle1,hS1,kk,?_,.head PQ g1⟩
     rw[hk]
     have:(id == j)=false:=by
      have h0:Nat.beq j id=false:=hj
      cases h:(id == j) with
      | false=>rfl
      | true=>have:=eq_of_beq h; subst this; rw[Nat.beq_refl] at h0; cases h0
     simp [exitTo,this]
   | ret=>
    simp only[blockE,Option.some.injEq,Prod.mk.injEq] at e; obtain⟨rfl,rfl⟩:=e
    obtain⟨kk,g1⟩:=g1
    exact⟨φ1,w1,t1,ds1,hle1,hS1,kk,.head PQ g1⟩
 | .scope c,lv,st,ex,st',e=>by
  simp only[evA] at e
  have h1:=HQ hs hlp hdr c lv.a st ex st' e
  intro w₀ W φ w t ds kd k cs ro' hS hro
  obtain⟨φ1,w1,t1,ds1,hle1,hS1,g1⟩:=h1 w₀ W φ w t ds kd (.inScope c::k) cs ro' hS hro
  refine⟨φ1,w1,t1,ds1,hle1,hS1,.of_steps (.one st_scope) ?_⟩
  cases ex with
  | norm=>exact Steps.trans g1 (.one st_inScope)
  | exit id=>obtain⟨kk,hk,g1⟩:=g1; exact⟨kk,hk.trans (Vx (fun j x=>by cases x)),g1⟩
  | ret=>exact g1
 | .loop c,lv,st,ex,st',e=>by
  simp only[evA] at e
  cases ha:evA P rec lp draw ro f c lv.a (cutS lv.c st) with
  | none=>rw[ha] at e; cases e
  | some r=>
   obtain⟨ex1,s⟩:=r
   rw[ha] at e
   have h1:=(HQ hs hlp hdr c lv.a _ ex1 s ha).cut
   intro w₀ W φ w t ds kd k cs ro' hS hro
   obtain⟨φ1,w1,t1,ds1,hle1,hS1,g1⟩:=h1 w₀ W φ w t ds kd (.inLoop c::k) cs ro' hS hro
   cases ex1 with
   | norm=>
    simp only[seqE] at e
    obtain⟨φ2,w2,t2,ds2,hle2,hS2,g2⟩:=(hlp _ _ _ _ _ _ _ e).cut w₀ W φ1 w1 t1 ds1 kd k cs ro' hS1 (hro.mono hle1.le)
    exact⟨φ2,w2,t2,ds2,hle1.trans hle2,hS2,.of_steps (.head Jq g1) g2.again⟩
   | exit j=>
    simp only[seqE,Option.some.injEq,Prod.mk.injEq] at e; obtain⟨rfl,rfl⟩:=e
    obtain⟨kk,hk,g1⟩:=g1
    exact⟨φ1,w1,t1,ds1,hle1,hS1,kk,hk.trans (Vx (fun j x=>by cases x)),.head Jq g1⟩
   | ret=>
    simp only[seqE,Option.some.injEq,Prod.mk.injEq] at e; obtain⟨rfl,rfl⟩:=e
    obtain⟨kk,g1⟩:=g1
    exact⟨φ1,w1,t1,ds1,hle1,hS1,kk,.head Jq g1⟩
 | .region id ops false,lv,st,ex,st',e=>by
  simp only[evA] at e
  cases ha:Wy P rec (ntm P f) ops.toList ops.toList st with
  | none=>rw[ha] at e; cases e
  | some s=>
   rw[ha] at e
   simp only[normE,Option.some.injEq,Prod.mk.injEq] at e; obtain⟨rfl,rfl⟩:=e
   intro w₀ W φ w t ds kd k cs ro' hS hro
   obtain⟨φ1,w1,t1,hle,hS1,hst⟩:=evOps_ok (f:=f) (k:=k) (kd:=kd) (ro:=ro') (cs:=cs) hs (pre:=[]) rfl hS ha
   refine⟨φ1,w1,t1,ds,hle,hS1,.head st_region ?_⟩
   have:List.range ops.size=List.range' ([]:List Oper).length ops.toList.length:=by simp [List.range_eq_range']
   rw[this]; exact hst
 | .region id ops true,lv,st,ex,st',e=>by
  simp only[evA] at e
  cases ha:draw f (ntm P f) ops.toList st with
  | none=>rw[ha] at e; cases e
  | some s=>
   rw[ha] at e
   simp only[normE,Option.some.injEq,Prod.mk.injEq] at e; obtain⟨rfl,rfl⟩:=e
   intro w₀ W φ w t ds kd k cs ro' hS hro
   have hS':S w₀ W φ st (ntm P f) t ds { w with drawn:=w.drawn+1 }:=⟨hS.i.drew _,hS.tr,hS.sz,hS.d⟩
   obtain⟨φ1,w1,t1,hle,hS1,hst⟩:=hdr f ops st s ha w₀ W φ _ t ds kd k cs ro' (w.tape w.drawn (.order f id)) hS'
   exact⟨φ1,w1,t1,ds,hle,hS1,.head st_region_draw hst⟩
 | .rangeFunc x params assign body,lv,st,ex,st',e=>by
  simp only[evA] at e
  exact rangeE_ok hs e
 | .goto l,lv,st,ex,st',e=>by simp [evA] at e
 | .refuse y,lv,st,ex,st',e=>by simp [evA] at e
noncomputable def evFA(P:Program)(cal:Rec):Nat→RecL
 | 0,_,_,_,_,_=>none
 | k+1,lv,ro,f,c,st=>evA P cal (evFA P cal k) (Kj P cal) ro f c lv st
noncomputable def lvOf(A:FuncId→Lv)(f:FuncId)(c:Code):Option Nat→Lv
 | none=>A f
 | some _=>match c with
  | .block id _=>A (f+65536 * (id+1))
  | _=>.leaf
noncomputable def evLA(P:Program)(A:FuncId→Lv)(F:Nat):Nat→Rec
 | 0,_,_,_,_=>none
 | l+1,ro,f,c,st=>evFA P (evLA P A F l) F (lvOf A f c ro) ro f c st
theorem ZW(P:Program){cal:Rec}(hs:Snd P cal):∀ k lv,Snd P (evFA P cal k lv)
 | 0,_=>fun _ _ _ _ _ _ e=>by simp [evFA] at e
 | k+1,lv=>fun ro f c st ex st' e=>HQ hs (fun lv=>ZW P hs k lv) (drawE_ok hs) c lv st ex st' e
theorem evLA_ok(P:Program)(A:FuncId→Lv)(F:Nat):∀ l,Snd P (evLA P A F l)
 | 0=>fun _ _ _ _ _ _ e=>by simp [evLA] at e
 | l+1=>fun ro f c st ex st' e=>ZW P (evLA_ok P A F l) F _ ro f c st ex st' e
end Go.Ev
end
section
namespace Go.Ev
noncomputable section
open Go
def noneO{ρ:Type}:Option ρ:=none
def bindO{α ρ:Type}(o:Option α)(k:α→Option ρ):Option ρ:=Option.rec (motive:=fun _=>Option ρ) noneO k o
theorem kZ{α ρ:Type}{o:Option α}{k:α→Option ρ}{r:ρ}:bindO o k=some r↔∃ a,o=some a∧k a=some r:=by
 cases o with
 | none=>exact⟨fun h=>by simp [bindO,noneO] at h,fun⟨a,h,_⟩=>by cases h⟩
 | some a=>exact⟨fun h=>⟨a,rfl,h⟩,fun⟨b,h,k⟩=>by cases h; exact k⟩
def zz0{ρ:Type}:Option ρ:=none
def zz1{ρ:Type}:Option ρ:=zz0
def zz2{ρ:Type}:Option ρ:=zz1
def zz3{ρ:Type}:Option ρ:=zz2
def zz4{ρ:Type}:Option ρ:=zz3
def zz5{ρ:Type}:Option ρ:=zz4
def zz6{ρ:Type}:Option ρ:=zz5
def zz7{ρ:Type}:Option ρ:=zz6
def zz8{ρ:Type}:Option ρ:=zz7
def zz9{ρ:Type}:Option ρ:=zz8
def zz10{ρ:Type}:Option ρ:=zz9
def zz11{ρ:Type}:Option ρ:=zz10
def zz12{ρ:Type}:Option ρ:=zz11
def zz13{ρ:Type}:Option ρ:=zz12
def zz14{ρ:Type}:Option ρ:=zz13
def zz15{ρ:Type}:Option ρ:=zz14
def zz16{ρ:Type}:Option ρ:=zz15
def zz17{ρ:Type}:Option ρ:=zz16
def zz18{ρ:Type}:Option ρ:=zz17
def zz19{ρ:Type}:Option ρ:=zz18
def zz20{ρ:Type}:Option ρ:=zz19
def zz21{ρ:Type}:Option ρ:=zz20
def zz22{ρ:Type}:Option ρ:=zz21
def zz23{ρ:Type}:Option ρ:=zz22
def zz24{ρ:Type}:Option ρ:=zz23
def zz25{ρ:Type}:Option ρ:=zz24
def zz26{ρ:Type}:Option ρ:=zz25
def zz27{ρ:Type}:Option ρ:=zz26
def zz28{ρ:Type}:Option ρ:=zz27
def zz29{ρ:Type}:Option ρ:=zz28
def zz30{ρ:Type}:Option ρ:=zz29
def zz31{ρ:Type}:Option ρ:=zz30
def zz32{ρ:Type}:Option ρ:=zz31
def zz33{ρ:Type}:Option ρ:=zz32
def zz34{ρ:Type}:Option ρ:=zz33
def zz35{ρ:Type}:Option ρ:=zz34
def zz36{ρ:Type}:Option ρ:=zz35
def zz37{ρ:Type}:Option ρ:=zz36
def zz38{ρ:Type}:Option ρ:=zz37
def zz39{ρ:Type}:Option ρ:=zz38
def zz40{ρ:Type}:Option ρ:=zz39
theorem zz_eq{ρ:Type}:(zz40:Option ρ)=none:=rfl
def getK{α ρ:Type}(o:Option α)(k:α→Option ρ):Option ρ:=Option.rec (motive:=fun _=>Option ρ) zz40 k o
theorem nX{α ρ:Type}{o:Option α}{k:α→Option ρ}{r:ρ}:getK o k=some r↔∃ a,o=some a∧k a=some r:=by
 cases o with
 | none=>exact⟨fun h=>by simp [getK,zz_eq] at h,fun⟨a,h,_⟩=>by cases h⟩
 | some a=>exact⟨fun h=>⟨a,rfl,h⟩,fun⟨b,h,k⟩=>by cases h; exact k⟩
structure Cal where
 call:FuncId→List Value→Hp→Nat→Option (Value × Hp × Nat)
 body:Nat→FuncId→Code→St→Option (Ex × St)
structure Cal.Ok (P:Program) (cal:Cal) (rec:Rec):Prop where
 call:∀ f args (st:St) r,cal.call f args st.H st.n=some r→JY P rec f args st=some (r.1,{ st with H:=r.2.1,n:=r.2.2 })
 body:∀ l f c st r,cal.body l f c st=some r→rec (some l) f c st=some r
def fX(c a b:Value):Option Value:=match c with
 | .bool true=>some a
 | .bool false=>some b
 | _=>none
def aY(v:Value):Option Addr:=match v with
 | .pointer (some a)=>some a
 | _=>none
def nV(P:Program)(t:TypeId)(ps:List (Nat × Value)):Option Value:=
 match kV P t with
 | some z=>match P.underlying t with
  | some (.struct fs)=>match Kz P fs.toList with
   | some pl=>match nY (pl[·]?) (aV z) ps with
    | some c=>some (.agg ⟨c⟩)
    | none=>none
   | none=>none
  | some (.array _ e)=>match szT P e with
   | some s=>match nY (fun i=>some (i * s,s)) (aV z) ps with
    | some c=>some (.agg ⟨c⟩)
    | none=>none
   | none=>none
  | _=>none
 | none=>none
theorem buildV_of{P:Program}{T:Tm}{t:TypeId}{parts:List (Nat × Operand)}{ps:List (Nat × Value)}{v:Value}
  (h:vz T parts=some ps) (e:nV P t ps=some v):buildV P T t parts=some v:=by
 unfold buildV
 rw[h]
 unfold nV at e
 cases hz:kV P t with
 | none=>rw[hz] at e; cases e
 | some z=>rw[hz] at e; exact e
def nilV(v:Value):Option Value:=match v with
 | .pointer (some a)=>some (.pointer (some a))
 | .func (.func f) a b=>some (.func (.func f) a b)
 | _=>none
def dQ(P:Program)(t:TypeId)(a v:Value)(H:Hp):Option Hp:=match a with
 | .pointer (some a)=>match szT P t with
  | some s=>if(aV v).length=s then xW H a (aV v) else none
  | none=>none
 | _=>none
def dX(P:Program)(v:Value)(m:Sem Value):Option Value:=match bQ v with
 | true=>match cQ P m with
  | some u=>match bQ u with
   | true=>some u
   | false=>none
  | none=>none
 | false=>none
def zK(P:Program)(t:TypeId)(len:Nat)(ps:List (Nat × Value)):Option (List Value × TypeId):=
 match eZ P t with
 | some e=>match szT P e,kV P e with
  | some s,some z=>if len * s≤16777216∧(aV z).length=s∧len<capV then
    match nY (fun i=>some (i * s,s)) (repl len (aV z)) ps with
    | some c=>some (c,e)
    | none=>none
   else none
  | _,_=>none
 | none=>none
def tupV(v:Value)(i:Nat):Option Value:=match v with
 | .tuple vs=>vs.toList[i]?
 | _=>none
section
variable {ρ:Type}
def newK(c:List Value)(e:TypeId)(H:Hp)(n:Nat)(k:Hp→Nat→Option ρ):Option ρ:=k (H.set n (some (.cells c e false none))) (n+1)
def jK(P:Program)(e:TypeId)(H:Hp)(n:Nat)(k:Value→Hp→Nat→Option ρ):Option ρ:=
 bindO (kV P e) fun z=>newK (aV z) e H n fun H' n'=>k (ptr n) H' n'
def boxK(e:TypeId)(v:Value)(H:Hp)(n:Nat)(k:Value→Hp→Nat→Option ρ):Option ρ:=
 newK (aV v) e H n fun H' n'=>k (ptr n) H' n'
def rowK(P:Program)(t:TypeId)(len:Nat)(ps:List (Nat × Value))(H:Hp)(n:Nat)(k:Value→Hp→Nat→Option ρ):Option ρ:=
 bindO (zK P t len ps) fun r=>newK r.1 r.2 H n fun H' n'=>k (.slice (some ⟨n,0,none⟩) len len) H' n'
def binK(P:Program)(op:BinOp)(t:TypeId)(x y:Operand)(a b:Value)(k:Value→Option ρ):Option ρ:=bindO (binV P op t x y a b) k
def stK(o:Option (Value × St))(k:Value→Hp→Nat→Option ρ):Option ρ:=bindO o fun r=>k r.1 r.2.H r.2.n
def bare(H:Hp)(n:Nat):St:={ T:=.nil,H,n,D:=[] }
def jQ(P:Program)(t:TypeId)(l c:Value)(st:St):Option (Value × St):=match eZ P t,l,c with
 | some e,.int .i64 (.ofNat l),.int .i64 (.ofNat c)=>match szT P e,xV P e,kV P e with
  | some s,some b,some z=>if l≤c∧zJ c s b∧(aV z).length=s then
    some (.slice (some ⟨st.n,0,none⟩) l c,nq st (repl c (aV z)) e none)
   else none
  | _,_,_=>none
 | _,_,_=>none
def newMapK(H:Hp)(n:Nat)(k:Value→Hp→Nat→Option ρ):Option ρ:=k (.map (some n)) (H.set n (some (.map [] 0))) (n+1)
def aK(P:Program)(cal:Cal)(f:FuncId)(args:List Value)(H:Hp)(n:Nat)(k:Value→Hp→Nat→Option ρ):Option ρ:=
 match iJ P f && eQ args with
 | false=>bindO (cal.call f args H n) fun r=>k r.1 r.2.1 r.2.2
 | true=>bindO (cal.call f args .nil 0) fun r=>match bQ r.1 with
  | true=>k r.1 H n
  | false=>none
def iW(P:Program)(cal:Cal)(v:Value)(args:List Value)(H:Hp)(n:Nat)(k:Value→Hp→Nat→Option ρ):Option ρ:=
 match v with
 | .func (.func g) first cap=>aK P cal g (first.toList++args++cap.toList) H n k
 | .func (.yield l) ⟨[]⟩ ⟨[]⟩=>stK (Cz (fun | some l=>cal.body l | none=>fun _ _ _=>none) P l args (bare H n)) k
 | _=>none
def ik(P:Program)(b:Builtin)(ts:List TypeId)(c:Call)(type:TypeId)(vs:List Value)(H:Hp)(n:Nat)(k:Value→Hp→Nat→Option ρ):Option ρ:=
 match b,ts,vs with
 | .len,t::_,[v]=>bindO (lenV P t v) fun v=>k v H n
 | .append,[t,t2],[v,u]=>stK (eJ P (bare H n) t t2 v u) k
 | .copy,t::_,[v,u]=>stK (JX P (bare H n) t v u) k
 | .min,_,vs | .max,_,vs=>match eQ vs with
  | true=>match cQ P (builtin b c.argTypes type (c.args.map fun | .const _=>true | _=>false) ⟨vs⟩) with
   | some (.value u)=>match bQ u with
    | true=>k u H n
    | false=>none
   | _=>none
  | false=>none
 | _,_,_=>none
def PW(P:Program)(cal:Cal)(c:Call)(type:TypeId)(T:Tm)(H:Hp)(n:Nat)(k:Value→Hp→Nat→Option ρ):Option ρ:=
 match c.callee with
 | .value f=>getK (opd f T) fun v=>getK (opds T c.args.toList) fun vs=>iW P cal v vs H n k
 | .builtin b=>getK (opds T c.args.toList) fun vs=>ik P b c.argTypes.toList c type vs H n k
 | _=>none
def opE(P:Program)(cal:Cal)(op:Op)(type:TypeId)(T:Tm)(H:Hp)(n:Nat)(k:Value→Hp→Nat→Option ρ):Option ρ:=
 match op with
 | .move x | .assign x=>getK (opd x T) fun v=>k v H n
 | .pick c a b=>getK (opd c T) fun c=>getK (opd a T) fun a=>getK (opd b T) fun b=>bindO (fX c a b) fun v=>k v H n
 | .alloc e=>jK P e H n k
 | .box e x=>getK (opd x T) fun v=>boxK e v H n k
 | .build t parts=>getK (vz T parts.toList) fun ps=>bindO (nV P t ps) fun v=>k v H n
 | .buildSlice t len parts=>getK (vz T parts.toList) fun ps=>rowK P t len ps H n k
 | .load t a=>getK (opd a T) fun v=>bindO (aY v) fun a=>bindO (aJ P H t a) fun v=>k v H n
 | .store t a x=>getK (opd a T) fun a=>getK (opd x T) fun v=>bindO (dQ P t a v H) fun H=>k undef H n
 | .nilCheck x=>getK (opd x T) fun v=>bindO (nilV v) fun v=>k v H n
 | .binOp op t x y _=>getK (opd x T) fun a=>getK (opd y T) fun b=>binK P op t x y a b fun v=>k v H n
 | .unOp op _ x=>getK (opd x T) fun a=>bindO (dX P a (Op.unary op a)) fun v=>k v H n
 | .convert s d x=>getK (opd x T) fun a=>bindO (dX P a (convert s d a)) fun v=>k v H n
 | .makeFunc fn first cap=>match fn with
  | .func f=>getK (opds T first.toList) fun a=>getK (opds T cap.toList) fun b=>k (.func (.func f) ⟨a⟩ ⟨b⟩) H n
  | _=>none
 | .makeSlice t l c=>getK (opd l T) fun l=>getK (opd c T) fun c=>stK (jQ P t l c (bare H n)) k
 | .slice t x lo hi none=>getK (opd x T) fun v=>getK (opdO lo T) fun l=>getK (opdO hi T) fun h=>bindO (lV P t v l h) fun v=>k v H n
 | .fieldAddr t x f=>getK (opd x T) fun v=>bindO (ax P t v f) fun v=>k v H n
 | .field t x f=>getK (opd x T) fun v=>bindO (QZ P t v f) fun v=>k v H n
 | .indexAddr t x i=>getK (opd x T) fun v=>getK (opd i T) fun i=>bindO (aQ P t v i) fun v=>k v H n
 | .index t x i=>getK (opd x T) fun v=>getK (opd i T) fun i=>bindO (vk P t v i) fun v=>k v H n
 | .extract t i=>getK (opd t T) fun v=>bindO (tupV v i) fun v=>k v H n
 | .call c=>PW P cal c type T H n k
 | .makeMap _ none=>newMapK H n k
 | .lookup t m x ok=>getK (opd m T) fun m=>getK (opd x T) fun x=>bindO (gj P H t m x ok) fun v=>k v H n
 | .mapUpdate t m x v=>getK (opd m T) fun m=>getK (opd x T) fun x=>getK (opd v T) fun v=>bindO (wx P t m x v H) fun H=>k undef H n
 | .mapEntry t m x=>getK (opd m T) fun m=>getK (opd x T) fun x=>bindO (mapEntV P t m x H) fun r=>k r.1 r.2 n
 | .entryStore _ m s v=>getK (opd m T) fun m=>getK (opd s T) fun s=>getK (opd v T) fun v=>bindO (entStV m s v H) fun H=>k undef H n
 | _=>none
end
end
end Go.Ev
end
section
namespace Go.Ev
open Go
variable {P:Program} {cal:Cal} {rec:Rec} {ρ:Type} {r:ρ}
def lift(st:St)(o:Option (Value × St)):Option (Value × St):=match o with
 | some r=>some (r.1,{ st with H:=r.2.H,n:=r.2.n })
 | none=>none
theorem appendTo_st{st:St}{e s a len cap old new n}:sy st e s a len cap old new n=lift st (sy (bare st.H st.n) e s a len cap old new n):=by
 simp only[sy,bare]
 cases Nat.blt cap capV with
 | true=>
  simp only
  cases Nat.ble (len+n) cap with
  | true=>
   simp only
   cases xW st.H (addA a (len * s)) new <;> rfl
  | false=>rfl
 | false=>
  simp only
  split
  ·split <;> rfl
  ·rfl
theorem appendV_st{st:St}{t t2:TypeId}{x y:Value}:eJ P st t t2 x y=lift st (eJ P (bare st.H st.n) t t2 x y):=by
 have e1:(bare st.H st.n).H=st.H:=rfl
 simp only[eJ,appendTo_st (st:=st),e1]
 split
 ·split
  ·split
   ·split
    ·split
     ·rfl
     ·split <;> rfl
    ·split <;> rfl
    ·rfl
   ·rfl
  ·rfl
 ·rfl
theorem copyV_st{st:St}{t:TypeId}{x y:Value}:JX P st t x y=lift st (JX P (bare st.H st.n) t x y):=by
 simp only[JX]
 split
 ·split
  ·split
   ·split
    ·rfl
    ·simp only [bare]
     split
     ·split <;> rfl
     ·rfl
   ·rfl
  ·rfl
 ·rfl
theorem makeSlice_st{st:St}{t:TypeId}{x y:Value}:jQ P t x y st=lift st (jQ P t x y (bare st.H st.n)):=by
 simp only[jQ]
 split
 ·split
  ·split <;> rfl
  ·rfl
 ·rfl
theorem lift_eq{st:St}{o:Option (Value × St)}{k:Value→Hp→Nat→Option ρ}(e:stK o k=some r):∃ v s,lift st o=some (v,s)∧s.T=st.T∧s.D=st.D∧k v s.H s.n=some r:=by
 simp only[stK,kZ] at e
 obtain⟨⟨v,s⟩,rfl,h⟩:=e
 exact⟨v,_,rfl,rfl,rfl,h⟩
theorem Vz{T:Tm}{x:Operand}{l:List Operand}{vs:List Value}(h:opds T (x::l)=some vs):∃ v vs',vs=v::vs'∧opd x T=some v∧opds T l=some vs':=by
 simp only[opds] at h
 split at h
 ·cases h
 ·rename_i v hv
  split at h
  ·cases h
  ·rename_i us hus; cases h; exact⟨v,us,rfl,hv,hus⟩
theorem opds_one{T:Tm}{l:List Operand}{v:Value}(h:opds T l=some [v]):∃ x,l=[x]∧opd x T=some v:=by
 cases l with
 | nil=>simp [opds] at h
 | cons x l=>
  obtain⟨_,_,e,h1,h2⟩:=Vz h
  cases e
  cases l with
  | nil=>exact⟨x,rfl,h1⟩
  | cons y l=>obtain⟨_,_,e,_⟩:=Vz h2; cases e
theorem opds_two{T:Tm}{l:List Operand}{v u:Value}(h:opds T l=some [v,u]):∃ x y,l=[x,y]∧opd x T=some v∧opd y T=some u:=by
 cases l with
 | nil=>simp [opds] at h
 | cons x l=>
  obtain⟨_,_,e,h1,h2⟩:=Vz h
  cases e
  obtain⟨y,rfl,h3⟩:=opds_one h2
  exact⟨x,y,rfl,h1,h3⟩
theorem pureSem_eq{v:Value}{m:Sem Value}{u:Value}(h:dX P v m=some u):bQ v=true∧cQ P m=some u∧bQ u=true:=by
 unfold dX at h
 split at h
 ·rename_i hv
  split at h
  ·rename_i x hx
   split at h
   ·rename_i hu; cases h; exact⟨hv,hx,hu⟩
   ·cases h
  ·cases h
 ·cases h
theorem callFK_ok(hc:cal.Ok P rec){f:FuncId}{args:List Value}{st:St}{k:Value→Hp→Nat→Option ρ}(e:aK P cal f args st.H st.n k=some r) :
  ∃ v s,callF P rec f args st=some (v,s)∧s.T=st.T∧s.D=st.D∧k v s.H s.n=some r:=by
 unfold aK at e
 unfold callF
 split at e
 ·rename_i hp
  rw[hp]
  simp only[kZ] at e
  obtain⟨x,hx,hk⟩:=e
  exact⟨_,_,hc.call _ _ st _ hx,rfl,rfl,hk⟩
 ·rename_i hp
  rw[hp]
  simp only[kZ] at e
  obtain⟨x,hx,hk⟩:=e
  split at hk
  ·rename_i hpv
   have:=hc.call f args { T:=.nil,H:=.nil,n:=0,D:=[] } _ hx
   simp only[this,hpv]
   exact⟨_,_,rfl,rfl,rfl,hk⟩
  ·cases hk
theorem yieldF_ok'(hc:cal.Ok P rec){l:Nat}{args:List Value}{st:St}{k:Value→Hp→Nat→Option ρ}
  (e:stK (Cz (fun | some l=>cal.body l | none=>fun _ _ _=>none) P l args (bare st.H st.n)) k=some r) :
  ∃ v s,Cz rec P l args st=some (v,s)∧s.T=st.T∧s.D=st.D∧k v s.H s.n=some r:=by
 simp only[stK,kZ] at e
 obtain⟨⟨v,s⟩,h,hk⟩:=e
 unfold Cz at h ⊢
 have e1:(bare st.H st.n).H=st.H:=rfl
 have e2:(bare st.H st.n).n=st.n:=rfl
 simp only[e1,e2] at h
 split at h
 ·split at h
  ·split at h
   ·rename_i s1 h1
    have h1':=hc.body _ _ _ _ _ h1
    split at h
    ·rename_i H1 hr1 hs1
     split at h
     ·rename_i ex s2 h2
      have h2':=hc.body _ _ _ _ _ h2
      split at h
      ·cases h
      ·rename_i j hj
       split at h
       ·rename_i H2 hH2
        simp only[Option.some.injEq,Prod.mk.injEq] at h
        obtain⟨rfl,rfl⟩:=h
        refine⟨.bool j.isNone,{ st with H:=H2,n:=s2.n },?_,rfl,rfl,hk⟩
        simp only[*]
       ·cases h
     ·cases h
    ·cases h
   ·cases h
  ·cases h
 ·cases h
theorem callVK_ok(hc:cal.Ok P rec){v:Value}{args:List Value}{st:St}{k:Value→Hp→Nat→Option ρ}(e:iW P cal v args st.H st.n k=some r) :
  ∃ v' s,callV P rec v args st=some (v',s)∧s.T=st.T∧s.D=st.D∧k v' s.H s.n=some r:=by
 unfold iW at e
 unfold callV
 split at e
 ·exact callFK_ok hc e
 ·exact yieldF_ok' hc e
 ·cases e
theorem builtinK_ok{b:Builtin}{c:Call}{type:TypeId}{st:St}{vs:List Value}{k:Value→Hp→Nat→Option ρ}(hv:opds st.T c.args.toList=some vs)
  (e:ik P b c.argTypes.toList c type vs st.H st.n k=some r) :
  ∃ v' s,pX P b c type st=some (v',s)∧s.T=st.T∧s.D=st.D∧k v' s.H s.n=some r:=by
 unfold ik at e
 split at e
 ·rename_i t _ v hts
  obtain⟨x,hx,hv⟩:=opds_one hv
  simp only[kZ] at e
  obtain⟨u,hu,hk⟩:=e
  exact⟨u,st,by simp only[pX,oLen,hx,hts,hv,hu,keep],rfl,rfl,hk⟩
 ·rename_i t t2 v u hts
  obtain⟨x,y,hx,hv,hu⟩:=opds_two hv
  obtain⟨v',s,h,a,b,c⟩:=lift_eq e
  exact⟨v',s,by simp only[pX,Zy,hx,hts,hv,hu]; rw[appendV_st]; exact h,a,b,c⟩
 ·rename_i t _ v u hts
  obtain⟨x,y,hx,hv,hu⟩:=opds_two hv
  obtain⟨v',s,h,a,b,c⟩:=lift_eq e
  exact⟨v',s,by simp only[pX,oCopy,hx,hts,hv,hu]; rw[copyV_st]; exact h,a,b,c⟩
 all_goals first
  | (cases e; done)
  |
   simp only[pX,IW,hv]
   split at e
   ·rename_i hp
    split at e
    ·rename_i u hu
     split at e
     ·rename_i hq
      refine⟨u,st,?_,rfl,rfl,e⟩
      simp only[hp]
      erw [hu]
      simp only[hq]
     ·cases e
    ·cases e
   ·cases e
theorem opE_ok(hc:cal.Ok P rec){op:Op}{type:TypeId}{st:St}{k:Value→Hp→Nat→Option ρ}(e:opE P cal op type st.T st.H st.n k=some r) :
  ∃ v s,cOp P rec op type st=some (v,s)∧s.T=st.T∧s.D=st.D∧k v s.H s.n=some r:=by
 unfold opE at e
 split at e
 case h_22=>
  rename_i c
  simp only[cOp,cCall]
  unfold PW at e
  split at e
  ·rename_i f hf
   simp only[nX] at e
   obtain⟨v,hv,vs,hvs,e⟩:=e
   simp only[hf,hv,hvs]
   exact callVK_ok hc e
  ·rename_i b hb
   simp only[nX] at e
   obtain⟨vs,hvs,e⟩:=e
   obtain⟨v',s,h,r⟩:=builtinK_ok hvs e
   exact⟨v',s,by simp only[hb,Wx]; exact h,r⟩
  ·cases e
 all_goals simp only[cOp,aOp]
 all_goals try simp only[jK,boxK,rowK,newK,binK,kZ,nX] at e
 ·obtain⟨v,hv,hk⟩:=e; exact⟨v,st,by rw[hv]; rfl,rfl,rfl,hk⟩
 ·obtain⟨v,hv,hk⟩:=e; exact⟨v,st,by rw[hv]; rfl,rfl,rfl,hk⟩
 ·obtain ⟨c, hc, a, ha, b, hb, v, hv, hk⟩ := e
  refine⟨v,st,?_,rfl,rfl,hk⟩
  unfold fX at hv
  unfold oPick
  rw[hc]
  split at hv
  ·cases hv; simp only[ha]; rfl
  ·cases hv; simp only[hb]; rfl
  ·cases hv
 ·obtain ⟨z, hz, hk⟩ := e
  exact⟨_,nq st (aV z) _ none,by simp only[Fw,hz],rfl,rfl,hk⟩
 ·obtain ⟨v, hv, hk⟩ := e
  exact⟨_,nq st (aV v) _ none,by simp only[oBox,hv],rfl,rfl,hk⟩
 ·obtain ⟨ps, hps, v, hv, hk⟩ := e
  exact⟨v,st,by rw[buildV_of hps hv]; rfl,rfl,rfl,hk⟩
 ·obtain ⟨ps, hps, ⟨c, e1⟩, hr, hk⟩ := e
  unfold zK at hr
  unfold mj
  split at hr
  ·rename_i el hel
   simp only[hel,hps]
   split at hr
   ·rename_i s z hs hz
    split at hr
    ·rename_i hh
     split at hr
     ·rename_i cc hcc
      cases hr
      exact⟨_,nq st c e1 none,by simp only[hs,hz,if_pos hh,hcc],rfl,rfl,hk⟩
     ·cases hr
    ·cases hr
   ·cases hr
  ·cases hr
 ·obtain ⟨p, hp, a, ha, v, hv, hk⟩ := e
  unfold aY at ha
  split at ha
  ·cases ha
   exact⟨v,st,by simp only[oLoad,hp,hv]; rfl,rfl,rfl,hk⟩
  ·cases ha
 ·obtain ⟨a, ha, v, hv, H', hH, hk⟩ := e
  unfold dQ at hH
  split at hH
  ·split at hH
   ·rename_i s hs
    split at hH
    ·rename_i hl
     exact⟨undef,{ st with H:=H' },by simp only[oStore,ha,hv,hs,if_pos hl,hH],rfl,rfl,hk⟩
    ·cases hH
   ·cases hH
  ·cases hH
 ·obtain ⟨v, hv, u, hu, hk⟩ := e
  unfold nilV at hu
  unfold AX
  rw[hv]
  split at hu
  ·cases hu; exact⟨_,st,rfl,rfl,rfl,hk⟩
  ·cases hu; exact⟨_,st,rfl,rfl,rfl,hk⟩
  ·cases hu
 ·obtain ⟨a, ha, b, hb, v, hv, hk⟩ := e
  exact⟨v,st,by simp only[oBin,ha,hb,hv]; rfl,rfl,rfl,hk⟩
 ·obtain ⟨a, ha, v, hv, hk⟩ := e
  obtain⟨h1,h2,h3⟩:=pureSem_eq hv
  exact⟨v,st,by simp only[oUn,ha,h1,zQ,h2,h3],rfl,rfl,hk⟩
 ·obtain ⟨a, ha, v, hv, hk⟩ := e
  obtain⟨h1,h2,h3⟩:=pureSem_eq hv
  exact⟨v,st,by simp only[Fx,ha,h1,zQ,h2,h3],rfl,rfl,hk⟩
 ·split at e
  ·simp only [nX] at e
   obtain⟨a,ha,b,hb,hk⟩:=e
   exact⟨_,st,by simp only[AY,ha,hb],rfl,rfl,hk⟩
  ·cases e
 ·obtain ⟨l, hl, c, hcc, e⟩ := e
  obtain⟨v',s,h,a,b,c⟩:=lift_eq e
  refine⟨v',s,?_,a,b,c⟩
  rw[← makeSlice_st] at h
  unfold jQ at h
  unfold nZ
  rw[hl,hcc]
  split at h
  ·rename_i el l1 c1 hel
   simp only[hel]
   exact h
  ·cases h
 ·obtain ⟨v, hv, l, hl, h, hh, u, hu, hk⟩ := e
  exact⟨u,st,by simp only[oSlice,hv,hl,hh,hu]; rfl,rfl,rfl,hk⟩
 ·obtain ⟨v, hv, u, hu, hk⟩ := e
  exact⟨u,st,by simp only[xY,hv,hu]; rfl,rfl,rfl,hk⟩
 ·obtain ⟨v, hv, u, hu, hk⟩ := e
  exact⟨u,st,by simp only[oField,hv,hu]; rfl,rfl,rfl,hk⟩
 ·obtain ⟨v, hv, i, hi, u, hu, hk⟩ := e
  exact⟨u,st,by simp only[xZ,hv,hi,hu]; rfl,rfl,rfl,hk⟩
 ·obtain ⟨v, hv, i, hi, u, hu, hk⟩ := e
  exact⟨u,st,by simp only[oIndex,hv,hi,hu]; rfl,rfl,rfl,hk⟩
 ·obtain ⟨v, hv, u, hu, hk⟩ := e
  unfold tupV at hu
  split at hu
  ·exact⟨u,st,by simp only[Fk,hv,hu]; rfl,rfl,rfl,hk⟩
  ·cases hu
 ·exact⟨_,{ st with H:=st.H.set st.n (some (.map [] 0)),n:=st.n+1 },rfl,rfl,rfl,e⟩
 ·obtain ⟨m, hm, x, hx, u, hu, hk⟩ := e
  exact⟨u,st,by simp only[Zv,hm,hx,hu]; rfl,rfl,rfl,hk⟩
 ·obtain ⟨m, hm, x, hx, v, hv, H', hH, hk⟩ := e
  exact⟨undef,{ st with H:=H' },by simp only[Zw,hm,hx,hv,hH]; rfl,rfl,rfl,hk⟩
 ·obtain ⟨m, hm, x, hx, r, hr, hk⟩ := e
  exact⟨r.1,{ st with H:=r.2 },by simp only[Zx,hm,hx,hr],rfl,rfl,hk⟩
 ·obtain ⟨m, hm, x, hx, v, hv, H', hH, hk⟩ := e
  exact⟨undef,{ st with H:=H' },by simp only[oEntSt,hm,hx,hv,hH]; rfl,rfl,rfl,hk⟩
 ·cases e
end Go.Ev
end
section
namespace Go.Ev
noncomputable section
open Go
section
variable {ρ:Type}
def HV(ops:List Oper)(j:Nat)(T:Tm):Option Value:=match ops[j]? with
 | some oj=>match oj.dst with
  | some d=>T.get d
  | none=>none
 | none=>none
def bx(x:Value)(want:Bool)(op:(Value→Hp→Nat→Option ρ)→Option ρ)(H:Hp)(n:Nat)(k:Value→Hp→Nat→Option ρ):Option ρ:=
 match x with
 | .bool b=>match b == want with
  | true=>op k
  | false=>k undef H n
 | .tuple ⟨[]⟩=>k undef H n
 | _=>none
def oneE(P:Program)(cal:Cal)(N:Nat)(ops:List Oper)(o:Oper)(T:Tm)(H:Hp)(n:Nat)(k:Value→Hp→Nat→Option ρ):Option ρ:=
 match inN N o.dst with
 | false=>none
 | true=>match o.guard with
  | none=>opE P cal o.op o.type T H n k
  | some (j,want)=>getK (HV ops j T) fun x=>bx x want (fun k=>opE P cal o.op o.type T H n k) H n k
def opsE(P:Program)(cal:Cal)(N:Nat)(ops:List Oper):List Oper→Tm→Hp→Nat→(Tm→Hp→Nat→Option ρ)→Option ρ
 | [],T,H,n,k=>k T H n
 | o::l,T,H,n,k=>oneE P cal N ops o T H n fun v H n=>opsE P cal N ops l (putT T o.dst v) H n k
end
variable {P:Program} {cal:Cal} {rec:Rec} {ρ:Type} {r:ρ} {N:Nat} {ops:List Oper}
theorem wantedA_of{g:Nat × Bool}{T:Tm}{b:Bool}(h:HV ops g.1 T=some (.bool b)):qx ops (some g) T=some (b == g.2):=by
 obtain⟨j,w⟩:=g
 simp only[HV] at h
 simp only[qx]
 split at h
 ·rename_i oj hj
  split at h
  ·rename_i d hd; simp only[hj,hd,h]
  ·cases h
 ·cases h
theorem wantedA_un{g:Nat × Bool}{T:Tm}(h:HV ops g.1 T=some (.tuple ⟨[]⟩)):qx ops (some g) T=some false:=by
 obtain⟨j,w⟩:=g
 simp only[HV] at h
 simp only[qx]
 split at h
 ·rename_i oj hj
  split at h
  ·rename_i d hd; simp only[hj,hd,h]
  ·cases h
 ·cases h
theorem oneE_ok(hc:cal.Ok P rec){o:Oper}{st:St}{k:Value→Hp→Nat→Option ρ}(e:oneE P cal N ops o st.T st.H st.n k=some r) :
  ∃ v s,evOp P rec N ops o st=some s∧s.T=putT st.T o.dst v∧s.D=st.D∧k v s.H s.n=some r:=by
 unfold oneE at e
 unfold evOp
 split at e
 ·cases e
 ·rename_i hin
  rw[hin]
  have one:∀ {k:Value→Hp→Nat→Option ρ},opE P cal o.op o.type st.T st.H st.n k=some r→∃ v s,evOp1 P rec o.dst o.op o.type st=some s∧s.T=putT st.T o.dst v∧s.D=st.D∧k v s.H s.n=some r:=by
   intro k e
   obtain⟨v,s,h,a,b,c⟩:=opE_ok hc e
   exact⟨v,{ s with T:=putT s.T o.dst v },by simp only[evOp1,h],by simp only[a],b,c⟩
  split at e
  ·rename_i hg
   rw[hg]
   exact one e
  ·rename_i j want hg
   rw[hg]
   simp only[nX] at e
   obtain⟨x,hx,e⟩:=e
   unfold bx at e
   split at e
   ·rename_i b
    have hw:=wantedA_of (g:=(j,want)) hx
    simp only[hw]
    split at e
    ·rename_i hb; rw[hb]; exact one e
    ·rename_i hb; rw[hb]; exact⟨undef,{ st with T:=putT st.T o.dst undef },rfl,rfl,rfl,e⟩
   ·have hw := wantedA_un (g := (j, want)) hx
    simp only[hw]
    exact⟨undef,{ st with T:=putT st.T o.dst undef },rfl,rfl,rfl,e⟩
   ·cases e
theorem opsE_ok(hc:cal.Ok P rec):∀ {l:List Oper} {st:St} {k:Tm→Hp→Nat→Option ρ},opsE P cal N ops l st.T st.H st.n k=some r →
  ∃ s,Wy P rec N ops l st=some s∧s.D=st.D∧k s.T s.H s.n=some r
 | [],st,k,e=>⟨st,rfl,rfl,e⟩
 | o::l,st,k,e=>by
  simp only[opsE] at e
  obtain⟨v,s,h,a,b,c⟩:=oneE_ok hc e
  rw[← a] at c
  obtain⟨s2,h2,b2,c2⟩:=opsE_ok hc c
  exact⟨s2,by simp only[Wy,h,h2],b2.trans b,c2⟩
end
end Go.Ev
end
section
namespace Go.Ev
noncomputable section
open Go
def pQ(ops:List Oper)(x:Nat):Bool:=match ops[x]? with
 | some o=>match dk o.op with
  | .l | .a | .m=>true
  | _=>false
 | none=>false
def exOf(A:List Nat)(ops:List Oper)(x:Nat):List Ent→List Extra
 | []=>[]
 | e::l=>match bit A x e.x with
  | true=>exOf A ops x l
  | false=>match pQ ops e.x with
   | true=>e.k::exOf A ops x l
   | false=>exOf A ops x l
def lx:List Extra→Hp→Option Hp
 | [],H=>some H
 | y::l,H=>match lx l H with
  | none=>none
  | some H1=>match y with
   | .l _ a=>match H1.get a.block with
    | some (.cells c t _ vec)=>some (H1.set a.block (some (.cells c t true vec)))
    | some (.rows _)=>some H1
    | _=>none
   | _=>some H1
def lY:List Extra→Hp→Hp
 | [],H=>H
 | y::l,H=>match y with
  | .a id _ _=>(lY l H).set id none
  | _=>lY l H
def lZ:List Extra→Hp→Hp→Option Hp
 | [],_,H=>some H
 | y::l,H0,H=>match lZ l H0 H with
  | none=>none
  | some H1=>match y with
   | .l _ a=>match H.get a.block with
    | some _=>some (H1.set a.block (H0.get a.block))
    | none=>none
   | _=>some H1
def kj:List Extra→Hp→Hp→Hp
 | [],_,H=>H
 | y::l,H0,H=>match y with
  | .a id _ _=>(kj l H0 H).set id (H0.get id)
  | _=>kj l H0 H
def chkX(P:Program)(H:Hp):List Extra→Bool
 | []=>true
 | y::l=>chkE P H y && chkX P H l
def PX(P:Program)(t:TypeId)(l c:Value):Option (Nat × Nat × List Value × TypeId):=match eZ P t,l,c with
 | some e,.int .i64 (.ofNat l),.int .i64 (.ofNat c)=>match szT P e,xV P e,kV P e with
  | some s,some b,some z=>if l≤c∧zJ c s b∧(aV z).length=s then some (l,c,repl c (aV z),e) else none
  | _,_,_=>none
 | _,_,_=>none
section
variable {ρ:Type}
abbrev KD(ρ:Type):=Value→Extra→Hp→Nat→Option ρ
def chkK(b:Bool)(r:Option ρ):Option ρ:=match b with
 | true=>r
 | false=>none
def effK(P:Program)(ex:List Extra)(H:Hp)(n:Nat)(op:Hp→Nat→(Value→Hp→Nat→Option ρ)→Option ρ)(k:Value→Hp→Nat→Option ρ):Option ρ:=
 match ex with
 | []=>op H n k
 | ex=>bindO (lx ex H) fun H1=>op (lY ex H1) n fun v H2 n2=>bindO (lZ ex H H2) fun H3=>chkK (chkX P (kj ex H H3) ex) (k v (kj ex H H3) n2)
def fq(x:Value)(want:Bool)(op:KD ρ→Option ρ)(ex:Extra)(H:Hp)(n:Nat)(k:KD ρ):Option ρ:=
 match x with
 | .bool b=>match b == want with
  | true=>op k
  | false=>k undef ex H n
 | .tuple ⟨[]⟩=>k undef ex H n
 | _=>none
def opD(P:Program)(cal:Cal)(ex:List Extra)(o:Oper)(T:Tm)(H:Hp)(n:Nat)(k:KD ρ):Option ρ:=
 match dk o.op with
 | .p=>opE P cal o.op o.type T H n fun v _ _=>k v .p H n
 | .l=>match o.op with
  | .load t a=>getK (opd a T) fun v=>bindO (aY v) fun ad=>bindO (aJ P H t ad) fun v=>k v (.l t ad) H n
  | _=>none
 | .a=>match o.op with
  | .alloc e=>bindO (kV P e) fun z=>newK (aV z) e H n fun H' n'=>k (ptr n) (.a n (some (aV z)) e) H' n'
  | .box e x=>getK (opd x T) fun v=>newK (aV v) e H n fun H' n'=>k (ptr n) (.a n (some (aV v)) e) H' n'
  | .buildSlice t len parts=>getK (vz T parts.toList) fun ps=>bindO (zK P t len ps) fun q=>newK q.1 q.2 H n fun H' n'=>k (.slice (some ⟨n,0,none⟩) len len) (.a n (some q.1) q.2) H' n'
  | .makeSlice t l c=>getK (opd l T) fun l=>getK (opd c T) fun c=>bindO (PX P t l c) fun q=>newK q.2.2.1 q.2.2.2 H n fun H' n'=>k (.slice (some ⟨n,0,none⟩) q.1 q.2.1) (.a n (some q.2.2.1) q.2.2.2) H' n'
  | .makeMap _ none=>newMapK H n fun v H' n'=>k v (.a n none 0) H' n'
  | _=>none
 | .e=>effK P ex H n (fun H n k=>opE P cal o.op o.type T H n k) fun v H n=>k v .e H n
 | .m=>match o.op with
  | .lookup t a b ok=>getK (opd a T) fun mv=>getK (opd b T) fun kx=>bindO (gj P H t mv kx ok) fun v=>k v (.m t mv kx ok v) H n
  | _=>none
def exNo(o:Oper):Extra:=match isE o with
 | true=>.e
 | false=>.p
def stepD(P:Program)(cal:Cal)(ops:List Oper)(ex:List Extra)(o:Oper)(T:Tm)(H:Hp)(n:Nat)(k:KD ρ):Option ρ:=
 match o.guard with
 | none=>opD P cal ex o T H n k
 | some (j,want)=>getK (HV ops j T) fun x=>fq x want (fun k=>opD P cal ex o T H n k) (exNo o) H n k
def tx(P:Program)(cal:Cal)(N:Nat)(ops:List Oper)(A:List Nat):List Nat→Reg→(Reg→Option ρ)→Option ρ
 | [],g,k=>k g
 | x::rest,g,k=>match ops[x]? with
  | none=>none
  | some o=>match inN N o.dst && Ak A g.log x o.dst (cz ops o) && !oV g.log x && (!isE o || rest.all fun y=>bit A y x) with
   | false=>none
   | true=>stepD P cal ops (exOf A ops x g.log) o (fj g.T (cz ops o)) g.H g.n fun v ex H n=>tx P cal N ops A rest (addE g x o.dst (cz ops o) v ex H n) k
def drawK(P:Program)(cal:Cal)(N:Nat)(ops:List Oper)(T:Tm)(H:Hp)(n:Nat)(k:Tm→Hp→Nat→Option ρ):Option ρ:=
 match ancOk ops (ancs ops) && covers ops.length (order ops (ancs ops)) && P.follows .mixedOrders with
 | true=>tx P cal N ops (ancs ops) (order ops (ancs ops)) { log:=[],T,H,n } fun g=>k g.T g.H g.n
 | false=>none
end
variable {P:Program} {cal:Cal} {rec:Rec} {ρ:Type} {r:ρ} {N:Nat} {ops:List Oper} {A:List Nat}
def YX(ops:List Oper)(log:List Ent):Prop:=∀ e,e ∈ log→pQ ops e.x=false→e.k=.p∨e.k=.e
theorem maskXL_eq{x:Nat}{H:Hp}:∀ {log:List Ent},YX ops log→maskL A x H log=lx (exOf A ops x log) H
 | [],_=>rfl
 | e::l,h=>by
  have ih:=maskXL_eq (x:=x) (H:=H) (log:=l) (fun e he=>h e (List.mem_cons_of_mem _ he))
  have h0:=h e List.mem_cons_self
  simp only[maskL,exOf,ih]
  cases hb:bit A x e.x with
  | true=>
   simp only
   cases lx (exOf A ops x l) H <;> rfl
  | false=>
   simp only
   cases hk:pQ ops e.x with
   | true=>
    simp only[lx]
    cases lx (exOf A ops x l) H with
    | none=>rfl
    | some H1=>cases e.k <;> rfl
   | false=>
    simp only
    cases lx (exOf A ops x l) H with
    | none=>rfl
    | some H1=>rcases h0 hk with q | q <;> rw[q]
theorem Vk{x:Nat}{H:Hp}:∀ {log:List Ent},YX ops log→JZ A x H log=lY (exOf A ops x log) H
 | [],_=>rfl
 | e::l,h=>by
  have ih:=Vk (x:=x) (H:=H) (log:=l) (fun e he=>h e (List.mem_cons_of_mem _ he))
  have h0:=h e List.mem_cons_self
  simp only[JZ,exOf,ih]
  cases hb:bit A x e.x with
  | true=>rfl
  | false=>
   simp only
   cases hk:pQ ops e.x with
   | true=>
    simp only[lY]
    cases e.k <;> rfl
   | false=>rcases h0 hk with q | q <;> rw[q]
theorem VJ{x:Nat}{H0 H:Hp}:∀ {log:List Ent},YX ops log→backL A x H0 H log=lZ (exOf A ops x log) H0 H
 | [],_=>rfl
 | e::l,h=>by
  have ih:=VJ (x:=x) (H0:=H0) (H:=H) (log:=l) (fun e he=>h e (List.mem_cons_of_mem _ he))
  have h0:=h e List.mem_cons_self
  simp only[backL,exOf,ih]
  cases hb:bit A x e.x with
  | true=>
   simp only
   cases lZ (exOf A ops x l) H0 H <;> rfl
  | false=>
   simp only
   cases hk:pQ ops e.x with
   | true=>
    simp only[lZ]
    cases lZ (exOf A ops x l) H0 H with
    | none=>rfl
    | some H1=>cases e.k <;> rfl
   | false=>
    simp only
    cases lZ (exOf A ops x l) H0 H with
    | none=>rfl
    | some H1=>rcases h0 hk with q | q <;> rw[q]
theorem chkX_eq{x:Nat}{H:Hp}:∀ {log:List Ent},YX ops log→chkM P A x H log=chkX P H (exOf A ops x log)
 | [],_=>rfl
 | e::l,h=>by
  have ih:=chkX_eq (x:=x) (H:=H) (log:=l) (fun e he=>h e (List.mem_cons_of_mem _ he))
  have h0:=h e List.mem_cons_self
  simp only[chkM,exOf,ih]
  cases hb:bit A x e.x with
  | true=>rfl
  | false=>
   simp only
   cases hk:pQ ops e.x with
   | true=>rfl
   | false=>rcases h0 hk with q | q <;> rw[q] <;> rfl
theorem VQ{x:Nat}{H0 H:Hp}:∀ {log:List Ent},YX ops log→JK A x H0 H log=kj (exOf A ops x log) H0 H
 | [],_=>rfl
 | e::l,h=>by
  have ih:=VQ (x:=x) (H0:=H0) (H:=H) (log:=l) (fun e he=>h e (List.mem_cons_of_mem _ he))
  have h0:=h e List.mem_cons_self
  simp only[JK,exOf,ih]
  cases hb:bit A x e.x with
  | true=>rfl
  | false=>
   simp only
   cases hk:pQ ops e.x with
   | true=>
    simp only[kj]
    cases e.k <;> rfl
   | false=>rcases h0 hk with q | q <;> rw[q]
end
end Go.Ev
end
section
namespace Go.Ev
open Go
variable {P:Program} {cal:Cal} {rec:Rec} {ρ:Type} {r:ρ} {N:Nat} {ops:List Oper} {A:List Nat}
theorem cOp_aOp{op:Op}{type:TypeId}{st:St}(h:dk op=.p):cOp P rec op type st=aOp P op type st:=by
 cases op with
 | call c=>
  simp only[cOp,cCall,aOp]
  split
  ·rename_i f hf
   obtain⟨callee,_,_⟩:=c
   simp only at hf
   subst hf
   simp [dk] at h
  ·rfl
 | _=>rfl
theorem opD_ok(hc:cal.Ok P rec){x:Nat}{slots rest:List Nat}{g:Reg}{o:Oper}{T:Tm}{k:KD ρ}(hx:ops[x]?=some o)(hl:YX ops g.log)
  (hE:isE o=true→rest.all (fun y=>bit A y x)=true) (e:opD P cal (exOf A ops x g.log) o T g.H g.n k=some r) :
  ∃ v ex H n,NV P rec A o x slots T rest g=some (addE g x o.dst slots v ex H n)∧k v ex H n=some r∧(pQ ops x=false→ex=.p∨ex=.e):=by
 unfold opD at e
 unfold NV
 split at e
 ·rename_i hk
  simp only[hk]
  obtain⟨v,s,h,_,_,hkk⟩:=opE_ok (st:={ T,H:=g.H,n:=g.n,D:=[] }) hc e
  rw[cOp_aOp hk] at h
  rw[h]
  exact⟨v,.p,g.H,g.n,rfl,hkk,fun _=>.inl rfl⟩
 ·rename_i hk
  have hka:pQ ops x=true:=by simp only[pQ,hx,hk]
  simp only[hk]
  split at e
  ·rename_i t a ho
   simp only[kZ,nX] at e
   obtain⟨p,hp,ad,had,v,hv,hkk⟩:=e
   unfold aY at had
   split at had
   ·cases had
    refine⟨v,.l t ad,g.H,g.n,?_,hkk,fun q=>by rw[hka] at q; cases q⟩
    simp only[ho,hp,hv]
   ·cases had
  ·cases e
 ·rename_i hk
  have hka:pQ ops x=true:=by simp only[pQ,hx,hk]
  simp only[hk]
  have fin:∀ {c:List Value} {el:TypeId} {v:Value},aOp P o.op o.type { T,H:=g.H,n:=g.n,D:=[] }=some (v,nq { T,H:=g.H,n:=g.n,D:=[] } c el none) →
    k v (.a g.n (some c) el) (g.H.set g.n (some (.cells c el false none))) (g.n+1)=some r →
    ∃ v ex H n,(match aOp P o.op o.type { T,H:=g.H,n:=g.n,D:=[] } with
     | some (v,s)=>match s.H.get g.n with
      | some (.cells c e false none)=>some (addE g x o.dst slots v (.a g.n (some c) e) s.H s.n)
      | some (.map [] 0)=>some (addE g x o.dst slots v (.a g.n none 0) s.H s.n)
      | _=>none
     | none=>none)=some (addE g x o.dst slots v ex H n)∧k v ex H n=some r∧(pQ ops x=false→ex=.p∨ex=.e):=by
   intro c el v h1 h2
   refine⟨v,.a g.n (some c) el,g.H.set g.n (some (.cells c el false none)),g.n+1,?_,h2,fun q=>by rw[hka] at q; cases q⟩
   rw[h1]
   simp only[nq,Tr.get_set,if_true]
  split at e
  ·rename_i el ho
   simp only[kZ,newK] at e
   obtain⟨z,hz,hkk⟩:=e
   exact fin (by rw[ho]; simp only[aOp,Fw,hz]) hkk
  ·rename_i el y ho
   simp only[nX,newK] at e
   obtain⟨v,hv,hkk⟩:=e
   exact fin (by rw[ho]; simp only[aOp,oBox,hv]) hkk
  ·rename_i t len parts ho
   simp only[kZ,nX,newK] at e
   obtain⟨ps,hps,⟨c,e1⟩,hr,hkk⟩:=e
   refine fin (c:=c) (el:=e1) ?_ hkk
   rw[ho]
   simp only[aOp,mj,hps]
   unfold zK at hr
   split at hr
   ·rename_i el hel
    simp only[hel]
    split at hr
    ·rename_i s z hs hz
     split at hr
     ·rename_i hh
      split at hr
      ·rename_i cc hcc
       cases hr
       simp only[hs,hz,if_pos hh,hcc]
      ·cases hr
     ·cases hr
    ·cases hr
   ·cases hr
  ·rename_i t l c ho
   simp only[kZ,nX,newK] at e
   obtain⟨lv,hlv,cv,hcv,⟨q1,q2,cs,e1⟩,hr,hkk⟩:=e
   refine fin (c:=cs) (el:=e1) ?_ hkk
   rw[ho]
   simp only[aOp,nZ,hlv,hcv]
   unfold PX at hr
   split at hr
   ·rename_i el l c hel
    simp only[hel]
    split at hr
    ·rename_i s b z hs hb hz
     split at hr
     ·rename_i hh
      cases hr
      simp only[hs,hb,hz,if_pos hh]
     ·cases hr
    ·cases hr
   ·cases hr
  ·rename_i tt ho
   refine⟨.map (some g.n),.a g.n none 0,g.H.set g.n (some (.map [] 0)),g.n+1,?_,e,fun q=>by rw[hka] at q; cases q⟩
   rw[ho]
   simp only[aOp,Fy,Tr.get_set,if_true]
  ·cases e
 ·rename_i hk
  simp only[hk]
  have hee:isE o=true:=by simp only[isE,hk]
  rw[hE hee]
  rw[maskXL_eq hl]
  unfold effK at e
  split at e
  ·rename_i hex
   obtain⟨v,s,h,_,_,hkk⟩:=opE_ok (st:={ T,H:=g.H,n:=g.n,D:=[] }) hc e
   refine⟨v,.e,s.H,s.n,?_,hkk,fun _=>.inr rfl⟩
   rw[hex]
   simp only[lx,Vk hl,hex,lY,h,VJ hl,lZ,VQ hl,kj,chkX_eq hl,chkX]
  ·simp only [kZ] at e
   obtain⟨H1,hH1,e⟩:=e
   obtain⟨v,s,h,_,_,hkk⟩:=opE_ok (st:={ T,H:=lY (exOf A ops x g.log) H1,n:=g.n,D:=[] }) hc e
   simp only[kZ] at hkk
   obtain⟨H3,hH3,hkk⟩:=hkk
   unfold chkK at hkk
   split at hkk
   ·rename_i hchk
    refine⟨v,.e,kj (exOf A ops x g.log) g.H H3,s.n,?_,hkk,fun _=>.inr rfl⟩
    simp only[hH1,Vk hl,h,VJ hl,hH3,VQ hl,chkX_eq hl,hchk]
   ·cases hkk
 ·rename_i hk
  have hka:pQ ops x=true:=by simp only[pQ,hx,hk]
  simp only[hk]
  split at e
  ·rename_i t a b ok ho
   simp only[kZ,nX] at e
   obtain⟨mv,hmv,kx,hkx,v,hv,hkk⟩:=e
   refine⟨v,.m t mv kx ok v,g.H,g.n,?_,hkk,fun q=>by rw[hka] at q; cases q⟩
   simp only[ho,hmv,hkx,hv]
  ·cases e
theorem stepD_ok(hc:cal.Ok P rec){x:Nat}{rest:List Nat}{g:Reg}{o:Oper}{k:KD ρ}(hx:ops[x]?=some o)(hl:YX ops g.log)
  (hin:(inN N o.dst && Ak A g.log x o.dst (cz ops o) && !oV g.log x)=true)
  (hE:isE o=true→rest.all (fun y=>bit A y x)=true) (e:stepD P cal ops (exOf A ops x g.log) o (fj g.T (cz ops o)) g.H g.n k=some r) :
  ∃ v ex H n,qj P rec N ops A x rest g=some (addE g x o.dst (cz ops o) v ex H n)∧k v ex H n=some r∧(pQ ops x=false→ex=.p∨ex=.e):=by
 unfold stepD at e
 unfold qj
 simp only[hx,hin]
 split at e
 ·rename_i hg
  simp only[hg,qx]
  exact opD_ok hc hx hl hE e
 ·rename_i j want hg
  rw[hg]
  simp only[nX] at e
  obtain⟨y,hy,e⟩:=e
  unfold fq at e
  split at e
  ·rename_i b
   have hw:=wantedA_of (g:=(j,want)) hy
   simp only[hw]
   split at e
   ·rename_i hb; rw[hb]; exact opD_ok hc hx hl hE e
   ·rename_i hb; rw [hb]
    refine⟨undef,exNo o,g.H,g.n,?_,e,fun _=>?_⟩
    ·simp only [exNo]
     cases hh:isE o with
     | true=>simp only[hE hh]
     | false=>rfl
    ·simp only[exNo]; cases isE o <;> simp
  ·have hw := wantedA_un (g := (j, want)) hy
   simp only[hw]
   refine⟨undef,exNo o,g.H,g.n,?_,e,fun _=>?_⟩
   ·simp only [exNo]
    cases hh:isE o with
    | true=>simp only[hE hh]
    | false=>rfl
   ·simp only[exNo]; cases isE o <;> simp
  ·cases e
theorem drawRunK_ok(hc:cal.Ok P rec):∀ {π:List Nat} {g:Reg} {k:Reg→Option ρ},YX ops g.log→tx P cal N ops A π g k=some r →
  ∃ g',tv P rec N ops A π g=some g'∧k g'=some r
 | [],g,k,_,e=>⟨g,rfl,e⟩
 | x::rest,g,k,hl,e=>by
  simp only[tx] at e
  split at e
  ·cases e
  rename_i o hx
  split at e
  ·cases e
  rename_i hcond
  rw[Bool.and_eq_true] at hcond
  obtain⟨h1,h2⟩:=hcond
  obtain⟨v,ex,H,n,hs,hk,hkd⟩:=stepD_ok (rest:=rest) hc hx hl h1 (fun hE=>by rw[hE] at h2; simpa using h2) e
  obtain⟨g',hg,hk⟩:=drawRunK_ok hc (by
   intro e2 he2 hkk
   rcases List.mem_cons.1 he2 with rfl | he2
   ·exact hkd hkk
   ·exact hl e2 he2 hkk) hk
  exact⟨g',by simp only[tv,hs,hg],hk⟩
theorem drawK_ok(hc:cal.Ok P rec){f:FuncId}{st:St}{k:Tm→Hp→Nat→Option ρ}(e:drawK P cal N ops st.T st.H st.n k=some r) :
  ∃ s,Kj P rec f N ops st=some s∧s.D=st.D∧k s.T s.H s.n=some r:=by
 unfold drawK at e
 unfold Kj
 split at e
 ·rename_i h
  obtain⟨g,hg,hk⟩:=drawRunK_ok hc (fun _ q=>absurd q (by simp)) e
  exact⟨{ st with T:=g.T,H:=g.H,n:=g.n },by simp only[h,hg],rfl,hk⟩
 ·cases e
end Go.Ev
end
section
namespace Go.Ev
noncomputable section
open Go
abbrev KC(ρ:Type):=Tm→Hp→Nat→List Nat→Option ρ
abbrev XC(ρ:Type):=Nat→KC ρ
section
variable {ρ:Type}
def fin(K:KC ρ)(X:XC ρ)(Kr:KC ρ)(o:Option (Ex × St)):Option ρ:=match o with
 | none=>none
 | some (.norm,s)=>K s.T s.H s.n s.D
 | some (.exit id,s)=>X id s.T s.H s.n s.D
 | some (.ret,s)=>Kr s.T s.H s.n s.D
def ifK(v:Value)(a b:Option ρ):Option ρ:=match v with
 | .bool true=>a
 | .bool false=>b
 | _=>none
def upX(id:Nat)(K:KC ρ)(X:XC ρ):XC ρ:=fun j=>match Nat.beq j id with
 | true=>K
 | false=>X j
def labK(g:KC ρ):KC ρ:=g
def cutK:Option (List Nat)→KC ρ→KC ρ
 | none,g=>g
 | some L,g=>fun T H n D=>labK g (fj T L) H n D
theorem cutK_eq{c:Option (List Nat)}{g:KC ρ}{T:Tm}{H:Hp}{n:Nat}{D:List Nat}:cutK c g T H n D=g (cutT c T) H n D:=by cases c <;> rfl
abbrev LpE(ρ:Type):=Lv→Option Nat→FuncId→Code→KC ρ→XC ρ→KC ρ→KC ρ
def Ej(P:Program)(cal:Cal)(ro:Option Nat)(f:FuncId)(v:Value)(params:Array Tmp)(assign body:Code)(K:KC ρ)(X:XC ρ)(Kr:KC ρ):KC ρ:=fun T H n D=>
 match v with
 | .func (.func g) first cap=>match wz ro { T,H,n,D } with
  | none=>none
  | some (d,st)=>aK P cal g (first.toList++(.func (.yield st.n) #[] #[])::cap.toList) (st.H.set st.n (some (.loop .ready none f st.T (ntm P f) params assign body d))) (st.n+1)
    fun _ H n=>fin K X Kr (AK st.n { T:=st.T,H,n,D:=st.D })
 | _=>none
def bZ(P:Program)(cal:Cal)(lp:LpE ρ)(ro:Option Nat)(f:FuncId):Code→Lv→KC ρ→XC ρ→KC ρ→KC ρ
 | .skip,_,K,_,_=>K
 | .label _,_,K,_,_=>K
 | .ret,_,_,_,Kr=>Kr
 | .exit id,_,_,X,_=>X id
 | .seq a b,lv,K,X,Kr=>bZ P cal lp ro f a lv.a (cutK lv.c (bZ P cal lp ro f b lv.b K X Kr)) X Kr
 | .cond c a b,lv,K,X,Kr=>fun T H n D=>getK (opd c T) fun v=>ifK v (bZ P cal lp ro f a lv.a K X Kr T H n D) (bZ P cal lp ro f b lv.b K X Kr T H n D)
 | .block id c,lv,K,X,Kr=>bZ P cal lp ro f c lv.a K (upX id K X) Kr
 | .scope c,lv,K,X,Kr=>bZ P cal lp ro f c lv.a K X Kr
 | .loop c,lv,K,X,Kr=>cutK lv.c (bZ P cal lp ro f c lv.a (fun T H n D=>lp lv ro f (.loop c) K X Kr (cutT lv.c T) H n D) X Kr)
 | .region _ ops false,_,K,_,_=>fun T H n D=>opsE P cal (ntm P f) ops.toList ops.toList T H n fun T H n=>K T H n D
 | .region _ ops true,_,K,_,_=>fun T H n D=>drawK P cal (ntm P f) ops.toList T H n fun T H n=>K T H n D
 | .rangeFunc x params assign body,_,K,X,Kr=>fun T H n D=>getK (opd x T) fun v=>Ej P cal ro f v params assign body K X Kr T H n D
 | _,_,_,_,_=>fun _ _ _ _=>none
def aZ(P:Program)(cal:Cal):Nat→LpE ρ
 | 0=>fun _ _ _ _ _ _ _ _ _ _ _=>none
 | k+1=>fun lv ro f c K X Kr=>bZ P cal (aZ P cal k) ro f c lv K X Kr
end
variable {P:Program} {cal:Cal} {rec:Rec} {ρ:Type} {r:ρ}
theorem fin_mono{K K':KC ρ}{X:XC ρ}{Kr:KC ρ}{o:Option (Ex × St)}(h:∀ T H n D,K T H n D=some r→K' T H n D=some r)(e:fin K X Kr o=some r):fin K' X Kr o=some r:=by
 unfold fin at e ⊢
 split at e
 ·cases e
 ·exact h _ _ _ _ e
 ·exact e
 ·exact e
theorem rangeK_ok(hc:cal.Ok P rec){ro:Option Nat}{f:FuncId}{x:Operand}{v:Value}{params:Array Tmp}{assign body:Code}{K:KC ρ}{X:XC ρ}{Kr:KC ρ}{st:St}(hv:opd x st.T=some v)
  (e:Ej P cal ro f v params assign body K X Kr st.T st.H st.n st.D=some r):fin K X Kr (rangeE P rec ro f x params assign body st)=some r:=by
 unfold Ej at e
 unfold rangeE
 rw[hv]
 split at e
 ·rename_i g first cap
  simp only
  have e0:({ T:=st.T,H:=st.H,n:=st.n,D:=st.D }:St)=st:=rfl
  rw[e0] at e
  split at e
  ·cases e
  ·rename_i d s hin
   rw[hin]
   simp only
   obtain⟨v',s',h,a,b,hk⟩:=callFK_ok (st:={ s with H:=s.H.set s.n (some (.loop .ready none f s.T (ntm P f) params assign body d)),n:=s.n+1 }) hc e
   rw[h]
   simp only
   have e1:({ T:=s.T,H:=s'.H,n:=s'.n,D:=s.D }:St)=s':=by
    obtain⟨t1,t2,t3,t4⟩:=s'
    simp only at a b
    subst a; subst b; rfl
   rw[e1] at hk
   exact hk
 ·cases e
theorem vj(hc:cal.Ok P rec){lp:LpE ρ}{lp':RecL}{ro:Option Nat}{f:FuncId}
  (hlp:∀ lv ro f c K X Kr (st:St),lp lv ro f c K X Kr st.T st.H st.n st.D=some r→fin K X Kr (lp' lv ro f c st)=some r) :
  ∀(c:Code) (lv:Lv) (K:KC ρ) (X:XC ρ) (Kr:KC ρ) (st:St),bZ P cal lp ro f c lv K X Kr st.T st.H st.n st.D=some r→fin K X Kr (evA P rec lp' (Kj P rec) ro f c lv st)=some r
 | .skip,lv,K,X,Kr,st,e=>e
 | .label _,lv,K,X,Kr,st,e=>e
 | .ret,lv,K,X,Kr,st,e=>e
 | .exit _,lv,K,X,Kr,st,e=>e
 | .seq a b,lv,K,X,Kr,st,e=>by
  simp only[bZ] at e
  have h1:=vj hc hlp a lv.a _ X Kr st e
  have h2:=fin_mono (K':=fun T H n D=>fin K X Kr (evA P rec lp' (Kj P rec) ro f b lv.b (cutS lv.c { T,H,n,D }))) (fun T H n D h=>vj hc hlp b lv.b K X Kr (cutS lv.c { T,H,n,D }) (by rw[cutK_eq] at h; exact h)) h1
  simp only[evA]
  generalize evA P rec lp' (Kj P rec) ro f a lv.a st=o at h2
  match o,h2 with
  | none,h2=>exact h2
  | some (.norm,s),h2=>exact h2
  | some (.exit _,s),h2=>exact h2
  | some (.ret,s),h2=>exact h2
 | .cond c a b,lv,K,X,Kr,st,e=>by
  simp only[bZ,nX] at e
  obtain⟨v,hv,e⟩:=e
  simp only[evA]
  unfold ifK at e
  rw[hv]
  split at e
  ·exact vj hc hlp a lv.a K X Kr st e
  ·exact vj hc hlp b lv.b K X Kr st e
  ·cases e
 | .block id c,lv,K,X,Kr,st,e=>by
  simp only[bZ] at e
  have h1:=vj hc hlp c lv.a K _ Kr st e
  simp only[evA]
  generalize evA P rec lp' (Kj P rec) ro f c lv.a st=o at h1
  match o,h1 with
  | none,h1=>exact h1
  | some (.norm,s),h1=>exact h1
  | some (.exit j,s),h1=>
   simp only[fin,upX] at h1
   simp only[blockE]
   cases hj:Nat.beq j id with
   | true=>rw[hj] at h1; exact h1
   | false=>rw[hj] at h1; exact h1
  | some (.ret,s),h1=>exact h1
 | .scope c,lv,K,X,Kr,st,e=>by
  simp only[bZ] at e
  simp only[evA]
  exact vj hc hlp c lv.a K X Kr st e
 | .loop c,lv,K,X,Kr,st,e=>by
  simp only[bZ,cutK_eq] at e
  have h1:=vj hc hlp c lv.a _ X Kr (cutS lv.c st) e
  have h2:=fin_mono (K':=fun T H n D=>fin K X Kr (lp' lv ro f (.loop c) (cutS lv.c { T,H,n,D }))) (fun T H n D h=>hlp lv ro f (.loop c) K X Kr (cutS lv.c { T,H,n,D }) h) h1
  simp only[evA]
  generalize evA P rec lp' (Kj P rec) ro f c lv.a (cutS lv.c st)=o at h2
  match o,h2 with
  | none,h2=>exact h2
  | some (.norm,s),h2=>exact h2
  | some (.exit _,s),h2=>exact h2
  | some (.ret,s),h2=>exact h2
 | .region id ops false,lv,K,X,Kr,st,e=>by
  simp only[bZ] at e
  obtain⟨s,h,hd,hk⟩:=opsE_ok hc e
  simp only[evA,h,normE,fin,hd]
  exact hk
 | .region id ops true,lv,K,X,Kr,st,e=>by
  simp only[bZ] at e
  obtain⟨s,h,hd,hk⟩:=drawK_ok (f:=f) hc e
  simp only[evA,h,normE,fin,hd]
  exact hk
 | .rangeFunc x params assign body,lv,K,X,Kr,st,e=>by
  simp only[bZ,nX] at e
  obtain⟨v,hv,e⟩:=e
  simp only[evA]
  exact rangeK_ok hc hv e
 | .goto l,lv,K,X,Kr,st,e=>by simp [bZ] at e
 | .refuse y,lv,K,X,Kr,st,e=>by simp [bZ] at e
theorem HW(hc:cal.Ok P rec):∀(k:Nat) lv ro f c (K:KC ρ) X Kr (st:St),aZ P cal k lv ro f c K X Kr st.T st.H st.n st.D=some r→fin K X Kr (evFA P rec k lv ro f c st)=some r
 | 0,lv,ro,f,c,K,X,Kr,st,e=>by simp [aZ] at e
 | k+1,lv,ro,f,c,K,X,Kr,st,e=>vj hc (fun lv ro f c K X Kr st e=>HW hc k lv ro f c K X Kr st e) c lv K X Kr st e
abbrev Res:=Option (Value × Hp × Nat)
def ay(P:Program)(rs:List ResultVar):KC (Value × Hp × Nat):=fun T H n D=>
 getK (FJ H D) fun H=>bindO (resV P T H rs) fun vs=>some (oneV vs,H,n)
def aX(P:Program)(cal:Cal)(A:FuncId→Lv)(F:Nat)(f:FuncId)(args:List Value)(H:Hp)(n:Nat):Res:=
 match P.funcs[f]? with
 | none=>none
 | some fn=>match fn.body with
  | none=>none
  | some c => if fn.name == "runtime.NumGoroutine" || fn.ntmps < args.length then none else
   aZ P cal F (A f) none f c (ay P fn.results.toList) (fun _ _ _ _ _=>none) (ay P fn.results.toList) (rW .nil 0 args) H n []
theorem PY{rs:List ResultVar}{T:Tm}{H:Hp}{n:Nat}{D:List Nat}{x:Value × Hp × Nat}(e:ay P rs T H n D=some x) :
  ∃ H' vs,FJ H D=some H'∧resV P T H' rs=some vs∧x=(oneV vs,H',n):=by
 simp only[ay,kZ,nX,Option.some.injEq] at e
 obtain⟨H',h1,vs,h2,rfl⟩:=e
 exact⟨H',vs,h1,h2,rfl⟩
def upE(P:Program)(A:FuncId→Lv)(F:Nat)(cal:Cal)(tbl:FuncId→Option (Cal→List Value→Hp→Nat→Res)):Cal where
 call f args H n:=match tbl f with
  | some S=>S cal args H n
  | none=>aX P cal A F f args H n
 body l f c st:=aZ P cal F (lvOf A f c (some l)) (some l) f c (fun T H n D=>some (.norm,{ T,H,n,D })) (fun id T H n D=>some (.exit id,{ T,H,n,D })) (fun T H n D=>some (.ret,{ T,H,n,D })) st.T st.H st.n st.D
def EX(P:Program)(A:FuncId→Lv)(F:Nat)(tbl:FuncId→Option (Cal→List Value→Hp→Nat→Res)):Prop:=
 ∀ f S,tbl f=some S→∀ cal args H n r,S cal args H n=some r→aX P cal A F f args H n=some r
def calE(P:Program)(A:FuncId→Lv)(F:Nat)(tbl:FuncId→Option (Cal→List Value→Hp→Nat→Res)):Nat→Cal
 | 0=>{ call:=fun _ _ _ _=>none,body:=fun _ _ _ _=>none }
 | l+1=>upE P A F (calE P A F tbl l) tbl
theorem calE_ok{A:FuncId→Lv}{F:Nat}{tbl:FuncId→Option (Cal→List Value→Hp→Nat→Res)}(ht:EX P A F tbl):∀ l,(calE P A F tbl l).Ok P (evLA P A F l)
 | 0=>⟨fun _ _ _ _ e=>(by cases e),fun _ _ _ _ _ e=>(by cases e)⟩
 | l+1=>by
  have ih:=calE_ok ht l
  refine⟨fun f args st r e=>?_,fun l2 f c st r e=>?_⟩
  ·have e' : aX P (calE P A F tbl l) A F f args st.H st.n = some r := by
    simp only[calE,upE] at e
    split at e
    ·rename_i S hS; exact ht f S hS _ _ _ _ _ e
    ·exact e
   unfold aX at e'
   unfold JY
   split at e'
   ·cases e'
   rename_i fn hf
   split at e'
   ·cases e'
   rename_i c hb
   simp only[hf,hb]
   split at e'
   ·cases e'
   rename_i hcond
   rw[if_neg hcond]
   have h:=HW ih F (A f) none f c _ _ _ { T:=rW .nil 0 args,H:=st.H,n:=st.n,D:=[] } e'
   have e2:evLA P A F (l+1) none f c { T:=rW .nil 0 args,H:=st.H,n:=st.n,D:=[] }=evFA P (evLA P A F l) F (A f) none f c { T:=rW .nil 0 args,H:=st.H,n:=st.n,D:=[] }:=rfl
   rw[e2]
   generalize evFA P (evLA P A F l) F (A f) none f c { T:=rW .nil 0 args,H:=st.H,n:=st.n,D:=[] }=o at h
   match o,h with
   | none,h=>cases h
   | some (.norm,s),h=>
    obtain⟨H',vs,h1,h2,rfl⟩:=PY h
    simp only[h1,h2]
   | some (.exit _,s),h=>cases h
   | some (.ret,s),h=>
    obtain⟨H',vs,h1,h2,rfl⟩:=PY h
    simp only[h1,h2]
  ·have h := HW ih F (lvOf A f c (some l2)) (some l2) f c _ _ _ st e
   have e2:evLA P A F (l+1) (some l2) f c st=evFA P (evLA P A F l) F (lvOf A f c (some l2)) (some l2) f c st:=rfl
   rw[e2]
   generalize evFA P (evLA P A F l) F (lvOf A f c (some l2)) (some l2) f c st=o at h
   match o,h with
   | none,h=>cases h
   | some (.norm,s),h=>exact h
   | some (.exit _,s),h=>exact h
   | some (.ret,s),h=>exact h
end
end Go.Ev
end
section
namespace Go.Ev
open Go
variable {P:Program}
theorem mkH(g:Nat→Option Blk):∀ m:Nat,∃ H:Hp,∀ i,H.get i=if i<m then g i else none
 | 0=>⟨.nil,fun i=>by rw[Tr.get_nil]; simp⟩
 | m+1=>by
  obtain⟨H,h⟩:=mkH g m
  refine⟨H.set m (g m),fun i=>?_⟩
  rw[Tr.get_set]
  by_cases e:i=m
  ·subst e; simp
  ·rw [if_neg e, h i]
   by_cases q:i<m
   ·rw[if_pos q,if_pos (by omega)]
   ·rw[if_neg q,if_neg (by omega)]
def ry(m:Nat):Phi:=fun i=>if i<m then some (i,0) else none
open Classical in
noncomputable def hole(φ:Phi)(v:Value):Value:=if VR φ v v then v else .chan none
noncomputable def tz(m:Nat)(w:World)(i:Nat):Option Blk:=match w.heap[i]? with
 | some (.cells arr _ _)=>some (.rows (arr.toList.map (hole (ry m))))
 | _=>none
theorem I.startN(w:World){m:Nat}(hm:w.heap.size≤m):∃ H:Hp,(∀ i,H.get i=tz m w i)∧I w ⟨fun _=>False,fun _=>True⟩ (ry m) H m w:=by
 obtain⟨H,hH⟩:=mkH (tz m w) w.heap.size
 have hget:∀ i,H.get i=tz m w i:=by
  intro i
  rw[hH i]
  split
  ·rfl
  ·rename_i q
   unfold tz
   rw[Array.getElem?_eq_none (by omega)]
 have hφ:∀ i p,ry m i=some p→i<m∧p=(i,0):=by
  intro i p e
  unfold ry at e
  split at e
  ·rename_i q; cases e; exact⟨q,rfl⟩
  ·cases e
 have hb:∀ i b,H.get i=some b→∃ arr e fr,w.heap[i]?=some (.cells arr e fr)∧b=.rows (arr.toList.map (hole (ry m))):=by
  intro i b e
  rw[hget i] at e
  unfold tz at e
  split at e
  ·rename_i arr el fr hw; cases e; exact⟨arr,el,fr,hw,rfl⟩
  ·cases e
 refine⟨H,hget,⟨?_,?_,?_,fun _ _ _=>rfl,Nat.le_refl _,?_,fun _ _ _ _ _=>.inl trivial,rfl,rfl,rfl,fun _=>rfl⟩⟩
 ·intro i p e
  obtain⟨h1,rfl⟩:=hφ i p e
  exact h1
 ·intro i b e
  obtain⟨arr,el,fr,hw,rfl⟩:=hb i b e
  have hlt:i<w.heap.size:=(Array.getElem?_eq_some_iff.1 hw).1
  refine⟨(i,0),_,by unfold ry; rw[if_pos (by omega)],hw,arr,el,fr,rfl,?_⟩
  intro j v hj hno
  rw[List.getElem?_map] at hj
  cases hu:arr.toList[j]? with
  | none=>rw[hu] at hj; cases hj
  | some u=>
   rw[hu] at hj
   simp only[Option.map_some,Option.some.injEq] at hj
   subst hj
   unfold hole at hno ⊢
   split at hno
   ·rename_i hv
    rw[if_pos hv]
    exact⟨u,by simpa using hu,hv⟩
   ·cases hno
 ·intro i j b c p q _ _ hp hq e
  obtain⟨_,rfl⟩:=hφ i p hp
  obtain⟨_,rfl⟩:=hφ j q hq
  exact e
 ·intro i b p hi hr _
  obtain⟨arr,el,fr,_,rfl⟩:=hb i b hi
  cases hr
end Go.Ev
end
section
namespace Go.Ev
open Go
variable {P:Program} {H H':Hp} {b o s k:Nat} {t:TypeId} {vs:List Value} {v:Value}
def cellsIn:Blk→Option (List Value)
 | .cells c _ _ _=>some c
 | .rows c=>some c
 | _=>none
def fk(H:Hp)(b o:Nat)(vs:List Value):Prop:=∃ B c,H.get b=some B∧cellsIn B=some c∧∀(k:Nat) v,vs[k]?=some v→c[o+k]?=some v
def Keep(n:Nat)(H H':Hp):Prop:=∀ b,b<n→H'.get b=H.get b
theorem Keep.refl(n:Nat)(H:Hp):Keep n H H:=fun _ _=>rfl
theorem loadV_scalar(hc:fk H b o vs)(ht:pz P t=some false)(hv:vs[k]?=some v)(hn:nJ v=true)(hg:wv v=true):aJ P H t ⟨b,o+k,none⟩=some v:=by
 obtain⟨B,c,h1,h2,h3⟩:=hc
 have:=h3 k v hv
 unfold aJ
 simp only[h1]
 cases B with
 | cells c' e ro vec=>cases h2; simp only[nj,ht,this]
 | rows c'=>cases h2; simp only[nj,ht,this,hg]
 | _=>cases h2
theorem cut_at{c:List Value}(h:∀(k:Nat) v,vs[k]?=some v→c[o+k]?=some v)(hk:k+s≤vs.length):cut c (o+k) s=some ((vs.drop k).take s):=by
 have e:(c.drop (o+k)).take s=(vs.drop k).take s:=by
  apply List.ext_getElem?
  intro i
  rw[List.getElem?_take,List.getElem?_take]
  split
  ·rename_i hi
   rw[List.getElem?_drop,List.getElem?_drop]
   have hlt:k+i<vs.length:=by omega
   rw[List.getElem?_eq_getElem hlt,← h (k+i) _ (List.getElem?_eq_getElem hlt)]
   congr 1; omega
  ·rfl
 unfold cut
 simp only[e]
 rw[if_pos]
 simp; omega
theorem loadV_agg(hc:fk H b o vs)(ht:pz P t=some true)(hs:szT P t=some s)(hk:k+s≤vs.length)(hn:vs.all nJ=true) :
  aJ P H t ⟨b,o+k,none⟩=some (.agg ⟨(vs.drop k).take s⟩):=by
 obtain⟨B,c,h1,h2,h3⟩:=hc
 have hcut:=cut_at h3 hk
 have hall:((vs.drop k).take s).all nJ=true:=by
  rw[List.all_eq_true] at hn ⊢
  intro x hx
  exact hn x (List.mem_of_mem_drop (List.mem_of_mem_take hx))
 unfold aJ
 simp only[h1]
 cases B with
 | cells c' e ro vec=>cases h2; simp only[nj,ht,hs,hcut]
 | rows c'=>cases h2; simp only[nj,ht,hs,hcut,wv,hall]
 | _=>cases h2
theorem loadN_at(hc:fk H b o vs)(hk:k+s≤vs.length)(hn:vs.all nJ=true):loadN H ⟨b,o+k,none⟩ s=some ((vs.drop k).take s):=by
 obtain⟨B,c,h1,h2,h3⟩:=hc
 have hcut:=cut_at h3 hk
 have hall:((vs.drop k).take s).all nJ=true:=by
  rw[List.all_eq_true] at hn ⊢
  intro x hx
  exact hn x (List.mem_of_mem_drop (List.mem_of_mem_take hx))
 unfold loadN
 simp only[h1]
 cases B with
 | cells c' e ro vec=>cases h2; simp only[hcut]
 | rows c'=>cases h2; simp only[hcut,hall]
 | _=>cases h2
def I64(x:Int):Prop:=-9223372036854775808≤x∧x<9223372036854775808
end Go.Ev
end
section
namespace Go.Ev
open Go
variable {P:Program}
theorem cells?_get{w:World}{base:Nat}{a:Addr}{n:Nat}{l:List Value}(h:w.cells? base a n=some l):l.length=n∧∀ i,i<n→w.cell? (a.add i)=l[i]?:=by
 unfold World.cells? at h
 split at h
 ·have key : ∀ (m k : Nat) (l : List Value), (List.range' k m).mapM (fun i => w.cell? (a.add i)) = some l → l.length = m ∧ ∀ i, i < m → w.cell? (a.add (k + i)) = l[i]? := by
   intro m
   induction m with
   | zero=>intro k l e; simp at e; subst e; exact⟨rfl,fun i hi=>by omega⟩
   | succ m ih=>
    intro k l e
    rw[List.range'_succ,List.mapM_cons] at e
    cases h1:w.cell? (a.add k) with
    | none=>rw[h1] at e; cases e
    | some v=>
     rw[h1] at e
     cases h2:(List.range' (k+1) m).mapM (fun i=>w.cell? (a.add i)) with
     | none=>rw[h2] at e; cases e
     | some r=>
      rw[h2] at e
      cases e
      obtain⟨i1,i2⟩:=ih (k+1) r h2
      refine⟨by simp [i1],fun i hi=>?_⟩
      cases i with
      | zero=>simpa using h1
      | succ i=>
       have:=i2 i (by omega)
       rw[show k+(i+1)=k+1+i by omega]
       simpa using this
  rw[List.range_eq_range'] at h
  obtain⟨h1,h2⟩:=key n 0 l h
  exact⟨h1,fun i hi=>by simpa using h2 i hi⟩
 ·cases h
theorem qkw{α β:Type}{f:α→Option β}:∀ {l:List α} {r:List β},l.mapM f=some r→r.length=l.length
 | [],r,h=>by simp at h; subst h; rfl
 | x::l,r,h=>by
  rw[List.mapM_cons] at h
  cases h1:f x with
  | none=>rw[h1] at h; cases h
  | some y=>
   rw[h1] at h
   cases h2:l.mapM f with
   | none=>rw[h2] at h; cases h
   | some q=>
    rw[h2] at h
    cases h
    simp [qkw h2]
theorem choose_list{α:Type}{R:Nat→α→Prop}:∀ m:Nat,(∀ k,k<m→∃ x,R k x)→∃ xs:List α,xs.length=m∧∀ k x,xs[k]?=some x→R k x
 | 0,_=>⟨[],rfl,fun k x h=>by simp at h⟩
 | m+1,h=>by
  obtain⟨xs,h1,h2⟩:=choose_list m (fun k hk=>h k (by omega))
  obtain⟨x,hx⟩:=h m (by omega)
  refine⟨xs++[x],by simp [h1],fun k y e=>?_⟩
  rcases Nat.lt_trichotomy k m with q | q | q
  ·rw[List.getElem?_append_left (by omega)] at e; exact h2 k y e
  ·subst q
   rw[List.getElem?_append_right (by omega),h1] at e
   simp at e; subst e; exact hx
  ·rw[List.getElem?_eq_none (by simp; omega)] at e; cases e
theorem NW{w:World}{a:Addr}{v:Value}(h:w.cell? a=some v):∃ arr e fr,w.heap[a.block]?=some (.cells arr e fr)∧arr[a.off]?=some v:=by
 unfold World.cell? at h
 split at h
 ·rename_i arr e fr hb
  split at h
  ·cases h
  ·exact⟨arr,e,fr,hb,h⟩
 ·cases h
end Go.Ev
end
section
namespace Go.Ev
open Go
variable {P:Program}
theorem frozen_same(w w':World)(h:∀ b:Nat,frOb w'.heap[b]?=frOb w.heap[b]?)(a:Addr):w'.frozen? a=w.frozen? a:=by
 have key:∀ u:World,u.frozen? a=(decide ((frOb u.heap[a.block]?).1≤a.off) && decide (a.off<(frOb u.heap[a.block]?).2)):=by
  intro u
  unfold World.frozen?
  cases u.heap[a.block]? with
  | none=>simp [frOb]
  | some o=>
   cases o with
   | cells c t fr=>
    rw[Bool.eq_iff_iff]
    simp only[frOb,Bool.and_eq_true]
    exact⟨fun⟨a,b⟩=>⟨decide_eq_true (of_decide_eq_true a),decide_eq_true (of_decide_eq_true b)⟩,fun⟨a,b⟩=>⟨decide_eq_true (of_decide_eq_true a),decide_eq_true (of_decide_eq_true b)⟩⟩
   | _=>simp [frOb]
 rw[key,key,h]
theorem grown_of{w w':World}(h1:w'.os=w.os)(h2:w'.output=w.output)(h3:w.heap.size≤w'.heap.size)(h4:∀ b,b<w.heap.size→w'.heap[b]?=w.heap[b]?)
  (h5:∀ b:Nat,frOb w'.heap[b]?=frOb w.heap[b]?):RowKit.Grown w w':=by
 refine⟨⟨h1,h2,fun i hi=>?_⟩,frozen_same w w' h5,h3⟩
 rw[h4 i hi]
 cases w.heap[i]? with
 | none=>rfl
 | some o=>cases o with
  | cells c t fr=>exact⟨rfl,rfl,rfl,fun _ _=>rfl⟩
  | map es clock=>exact .inr ⟨rfl,rfl⟩
  | _=>rfl
theorem carryAll{H:Type}{enc:TypeId × Value→H}{w w':World}{base:Nat}{sp:Nat→Bool}{held:Bool}(h4:∀ b,b<w.heap.size→w'.heap[b]?=w.heap[b]?) :
  ∀ {ts:List TypeId} {vs:List Value} {ds:List (DataW H)} {ps:List MemPlace},DataW.TrodAll enc P w base sp held ts vs ds ps→DataW.TrodAll enc P w' base sp held ts vs ds ps
 | [],[],[],_,h=>h
 | t::ts,v::vs,d::ds,ps,h=>by
  have hlt:=DataW.TrodAll.lt h
  obtain⟨p,q,⟨n,hn⟩,h2,rfl⟩:=h
  refine⟨p,q,⟨n,DataW.trod_carry n t _ _ hn ?_⟩,carryAll h4 h2,rfl⟩
  intro x hx
  have:=h4 x.block (hlt x (by simp [hx]))
  cases x with
  | cell b off=>simp only[MemPlace.block] at this; simp [World.sameAt,World.cell?,this]
  | map b=>simp only[MemPlace.block] at this; simp [World.sameAt,this]
end Go.Ev
end
