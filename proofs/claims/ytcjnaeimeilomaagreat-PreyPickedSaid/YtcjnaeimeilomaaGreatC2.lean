import Derived.WideKeyRuns
import Derived.Test.YtcjnaeimeilomaaGreatC1
set_option linter.unusedVariables false
section
namespace Go.Ev
open Go
variable {P:Program} {w₀:World} {W:Sets} {φ:Phi} {st st':St} {w:World} {a:Act} {H:Hp} {n:Nat}
theorem I.congr{H':Hp}(h:I w₀ W φ H n w)(e:∀ i,H'.get i=H.get i):I w₀ W φ H' n w:=
 ⟨h.dom, fun i b x => h.rel i b (by rw [← e]; exact x), fun i j b c p q x y => h.inj i j b c p q (by rw [← e]; exact x) (by rw [← e]; exact y), h.keep, h.size,
  fun i b p x=>h.wr i b p (by rw[← e]; exact x),fun i b p x=>h.src i b p (by rw[← e]; exact x),h.os,h.tape,h.output,h.fz⟩
theorem I.rename(h:I w₀ W φ H n w){i:Nat}{b:Blk}{p:Nat × Nat}(hi:H.get i=some b)(hp:φ i=some p)(hfam:b.isFam=false:=by rfl) :
  I w₀ W (ext φ n p) ((H.set i none).set n (some b)) (n+1) w:=by
 have hle:=Ek (p:=p) h.free
 have old:∀ j c,j≠n→((H.set i none).set n (some b)).get j=some c→j≠i∧H.get j=some c:=by
  intro j c hj e
  rw[Tr.get_set,if_neg hj,Tr.get_set] at e
  split at e
  ·cases e
  ·rename_i x; exact⟨x,e⟩
 have oldφ:∀ j q,j≠n→ext φ n p j=some q→φ j=some q:=by
  intro j q hj e; unfold ext at e; rwa [if_neg hj] at e
 refine⟨?_,?_,?_,h.keep,h.size,?_,?_,h.os,h.tape,h.output,h.fz⟩
 ·intro j q e
  by_cases hj:j=n
  ·subst hj; rw [cW] at e; cases e
   omega
  ·have:=h.dom j q (oldφ j q hj e); omega
 ·intro j c e
  by_cases hj:j=n
  ·subst hj; rw [Tr.get_set, if_pos rfl] at e; cases e
   obtain⟨q,o,f,g,k⟩:=h.rel i b hi
   rw[hp] at f; cases f
   exact⟨p,o,cW _ _ _,g,k.mono hle⟩
  ·obtain ⟨_, e'⟩ := old j c hj e
   obtain⟨q,o,f,g,k⟩:=h.rel j c e'
   exact⟨q,o,hle _ _ f,g,k.mono hle⟩
 ·intro j k c d q r e f g g' x
  by_cases hj:j=n <;> by_cases hk:k=n
  ·exact .inl (by rw[hj,hk])
  ·exfalso
   subst hj; rw[cW] at g; cases g
   obtain⟨h1,h2⟩:=old k d hk f
   exact h1 (h.inj' hi h2 hp (oldφ k r hk g') x hfam).symm
  ·exfalso
   subst hk; rw[cW] at g'; cases g'
   obtain⟨h1,h2⟩:=old j c hj e
   exact h1 (h.inj' hi h2 hp (oldφ j q hj g) x.symm hfam).symm
  ·exact h.inj j k c d q r (old j c hj e).2 (old k d hk f).2 (oldφ j q hj g) (oldφ k r hk g') x
 ·intro j c q e r g
  by_cases hj:j=n
  ·subst hj; rw [cW] at g; cases g
   rw[Tr.get_set,if_pos rfl] at e; cases e
   exact h.wr i b p hi r hp
  ·exact h.wr j c q (old j c hj e).2 r (oldφ j q hj g)
 ·intro j c q e g
  by_cases hj:j=n
  ·subst hj; rw [cW] at g; cases g
   rw[Tr.get_set,if_pos rfl] at e; cases e
   exact h.src i b p hi hp
  ·exact h.src j c q (old j c hj e).2 (oldφ j q hj g)
theorem nextslicecap_le{need cap:Nat}(h:cap<need):Builtin.nextslicecap need cap≤4 * need+4096:=by
 unfold Builtin.nextslicecap
 split
 ·omega
 ·split
  ·omega
  ·simp only [Builtin.growBy]
   repeat' split
   all_goals omega
theorem nextslicecap_le2{need cap:Nat}(h:cap<need):4 * Builtin.nextslicecap need cap≤5 * need+4096:=by
 unfold Builtin.nextslicecap
 split
 ·omega
 ·split
  ·omega
  ·simp only [Builtin.growBy]
   repeat' split
   all_goals omega
theorem bigOk_inv{a b c:Nat}(h:Dx a b c=true):(a<1048576∨(1≤c∧a * c≤140737488355328))∧b<1048576∧c<1048576:=by
 simp [Dx] at h; exact⟨h.1.1,h.1.2,h.2⟩
theorem VR.slice_none{n c:Nat}{v':Value}(k:VR φ (.slice none n c) v'):v'=.slice none n c:=by simpa only [VR] using k
theorem Uv{a:Addr}{m:Nat}{l:List Value}(e:loadN H a m=some l):l.length=m:=by
 unfold loadN at e
 split at e
 ·cases e
 ·split at e
  ·exact(JK e).2
  ·exact(JK e).2
  ·split at e
   ·rename_i hl
    split at e
    ·cases e; exact(JK hl).2
    ·cases e
   ·cases e
  ·cases e
theorem src_ok(h:I w₀ W φ H n w){s m:Nat}{y y':Value}{l:List Value}(hy:VR φ y y')(e:iy H s y=some (l,m)) :
  ∃ l',VRL φ l l'∧(∃ b c,y'=.slice b m c)∧l'.length=m * s∧(Builtin.firstCells s m y').run P w=.ok ⟨l'⟩ w:=by
 unfold iy at e
 split at e
 ·rename_i k c
  split at e
  ·rename_i hk
   subst hk
   simp only[Option.some.injEq,Prod.mk.injEq] at e
   obtain⟨rfl,rfl⟩:=e
   have:=hy.slice_none; subst this
   exact⟨[],VRL.nil,⟨_,_,rfl⟩,by simp,by simp [Builtin.firstCells]⟩
  ·cases e
 ·rename_i ad k c
  split at e
  ·rename_i l0 hl0
   simp only[Option.some.injEq,Prod.mk.injEq] at e
   obtain⟨rfl,rfl⟩:=e
   obtain⟨ad',c',rfl,hq⟩:=VR.slice_inv hy
   have hlen:l0.length=k * s:=Uv hl0
   rcases hq with⟨har,_⟩ | ⟨rfl,_⟩
   ·obtain ⟨l', h1, h2⟩ := Ow (P := P) h har hl0
    exact⟨l',h1,⟨_,_,rfl⟩,by rw[h1.length,hlen],by simpa [Builtin.firstCells] using h2⟩
   ·have : l0 = [] := List.length_eq_zero_iff.1 (by rw [hlen, Nat.zero_mul])
    subst this
    exact⟨[],VRL.nil,⟨_,_,rfl⟩,by simp,by simp [Builtin.firstCells,loadCells,loadCellsFrom]⟩
  ·split at e
   ·rename_i hz
    have hz:=Nat.eq_of_beq_eq_true hz
    subst hz
    simp only[Option.some.injEq,Prod.mk.injEq] at e
    obtain⟨rfl,rfl⟩:=e
    obtain⟨ad',c',rfl,_⟩:=VR.slice_inv hy
    exact⟨[],VRL.nil,⟨_,_,rfl⟩,by simp,by simp [Builtin.firstCells,loadCells,loadCellsFrom]⟩
   ·cases e
 ·cases e
theorem Gx{t t2 e e2 ty:TypeId}{base:Option Addr}{len m c' s b:Nat}{y' z:Value}{by':Option Addr}{cy:Nat}{old' new':List Value}
  (hel:P.underlying t=some (.slice e)) (h2:P.underlying t2=some (.slice e2)) (hs:szT P e=some s) (hb:sK P e=some b) (hz:jx P e=some z)
  (hzl:(aQ z).length=s) (big:Dx (len+m) s b=true) (hgt:c'<len+m) (hy:y'=.slice by' m cy)
  (hold:(Builtin.firstCells s len (.slice base len c')).run P { w with drawn:=w.drawn+1 }=.ok ⟨old'⟩ { w with drawn:=w.drawn+1 })
  (hnew:(Builtin.firstCells s m y').run P { w with drawn:=w.drawn+1 }=.ok ⟨new'⟩ { w with drawn:=w.drawn+1 }) :
  ∃ newCap rest,len+m≤newCap∧rest.length=(newCap-(len+m)) * s ∧
   (Builtin.append_ #[t,t2] ty #[.slice base len c',y']).run P w=.ok (.slice (some ⟨w.heap.size,0,none⟩) (len+m) newCap)
    { w with heap:=w.heap.push (.cells ⟨old'++new'++rest⟩ e),drawn:=w.drawn+1 }:=by
 obtain⟨b1,b2,b3⟩:=bigOk_inv big
 obtain⟨i,hir,rfl⟩:=By hb w
 obtain⟨i2,hir2,hi2⟩:=By hb { w with drawn:=w.drawn+1 }
 have hnc:=nextslicecap_le hgt
 have hroom:¬ Builtin.nextslicecap (len+m) c' * i.bytes > 2 ^ 48:=by
  rcases b1 with b1 | ⟨_,b1⟩
  ·have : Builtin.nextslicecap (len + m) c' * i.bytes ≤ 4198400 * 1048576 := Nat.mul_le_mul (by omega) (by omega)
   omega
  ·have h4 := Nat.mul_le_mul_right i.bytes (nextslicecap_le2 hgt)
   rw[Nat.add_mul,Nat.mul_assoc,Nat.mul_assoc] at h4
   generalize Builtin.nextslicecap (len+m) c' * i.bytes=X at h4 ⊢
   generalize (len+m) * i.bytes=Y at h4 b1
   omega
 have hmax:¬ (((len+m:Nat):Int) > IntKind.i64.max):=by
  have:IntKind.i64.max=9223372036854775807:=by decide
  rw[this]
  rcases b1 with b1 | ⟨b0,b1⟩
  ·omega
  ·have : (len + m) * 1 ≤ (len + m) * i.bytes := Nat.mul_le_mul_left _ b0
   omega
 have hne:¬ len+m≤c':=by omega
 subst hy
 refine⟨(Question.appendCap (len+m) c' e).cut (w.tape w.drawn (.appendCap (len+m) c' e)),repl ((Question.appendCap (len+m) c' e).cut (w.tape w.drawn (.appendCap (len+m) c' e))-(len+m)) (aQ z),?_,?_,?_⟩
 ·simp [Question.cut]
 ·rw[repl_length,hzl]
 ·have hzc : ∀ k, Builtin.zeroCells z.cells k = ⟨repl k (aQ z)⟩ := by
   intro k; rw[fq]; exact ry z.cells k
  have hzr:=(jK hz { w with drawn:=w.drawn+1 }).1
  simp only[Builtin.append_,List.getElem?_toArray,List.getElem?_cons_zero,List.getElem?_cons_succ,Sem.run_bind,cx hel,cx h2,Result.andThen_ok,fY hs,Sem.run_pure,
   Builtin.lenOf,Bool.false_eq_true,if_false,Sem.run_ite,if_neg hne]
  have hnot:¬ (((len+m:Nat):Int) > IntKind.i64.max∧(False∨i.bytes=0)):=fun x=>hmax x.1
  have hf:(Question.appendCap (len+m) c' e).forced=false:=rfl
  simp only[hir,Result.andThen_ok,if_neg hnot,if_neg hroom,run_choose,hf,Bool.false_eq_true,if_false,hir2,run_askRoom,hold,Bool.not_false,if_true,hnew,hzr,hzc,newRow,Sem.run_bind,run_newObj,Sem.run_pure]
  simp
theorem Uw(h:I w₀ W φ st.H st.n w){t t2 ty:TypeId}{x y x' y' v:Value}(hx:VR φ x x')(hy:VR φ y y')(e:cZ P st t t2 x y=some (v,st')) :
  Done P (ik (Builtin.append_ #[t,t2] ty #[x',y'])) w₀ W φ w st v st':=by
 unfold cZ at e
 split at e
 case h_2=>cases e
 rename_i el el2 hel hel2
 split at e
 case h_2=>cases e
 rename_i s b z hs hb hz
 split at e
 case h_2=>cases e
 rename_i new m hsrc hzl
 have hzl:=Nat.eq_of_beq_eq_true hzl
 have hund:=iw hel
 have hund2:=iw hel2
 obtain⟨new',hn1,⟨by',cy,hyv⟩,hnl,hn2⟩:=src_ok (P:=P) h hy hsrc
 obtain⟨new2,hm1,_,hml,hm2⟩:=src_ok (P:=P) (h.drew (w.drawn+1)) hy hsrc
 have hlenN:new.length=m * s:=by rw[← hn1.length,hnl]
 split at e
 ·
  have:=hx.slice_none; subst this
  cases m with
  | zero=>
   simp only[Option.some.injEq,Prod.mk.injEq] at e
   obtain⟨rfl,rfl⟩:=e
   refine Done.val h (v':=.slice none 0 0) ?_ (by simp only[VR])
   subst hyv
   simp [Builtin.append_,cx hund,cx hund2,fY hs,Builtin.lenOf,hn2]
  | succ k=>
   simp only at e
   split at e
   case h_2=>cases e
   rename_i big
   simp only[rx,Option.some.injEq,Prod.mk.injEq] at e
   obtain⟨rfl,rfl⟩:=e
   obtain⟨nc,rest,hnc,hrl,hrun⟩:=Gx (w:=w) (ty:=ty) (base:=none) (len:=0) (m:=k+1) (c':=0) (old':=[]) hund hund2 hs hb hz hzl (by simpa using big) (by omega) hyv
    (by simp [Builtin.firstCells]) hm2
   have e0:(0:Nat)+(k+1)=k+1:=by omega
   rw[e0] at hrun hnc hrl
   refine Done.row (w1:={ w with drawn:=w.drawn+1 }) (c':=[]++new2++rest) (cp:=nc) (h.drew _) ?_ ?_ hrun ?_
   ·unfold Pre
    rw[hlenN]
    have:([]++new2++rest).take ((k+1) * s)=new2:=by rw[List.nil_append,← hml]; simp
    rw[this]; exact hm1
   ·intro s' hs'
    cases hs'
    simp only[List.nil_append,List.length_append,hml,hrl]
    rw[← Nat.add_mul]; congr 1; omega
   ·simp only [VR]
    exact⟨_,_,rfl,.inl ⟨⟨⟨nc,cW _ _ _⟩,rfl,rfl⟩,.inr (.inl ⟨rfl,rfl,rfl,hnc,_,cW _ _ _⟩)⟩⟩
 ·rename_i ad len cap
  split at e
  case h_2=>cases e
  rename_i old hold hsp big
  obtain⟨ad',c',rfl,har,hcr⟩:=VR.slice_inv2 hx (fun z=>by
   subst z
   have q1:Nat.blt capE capV=false:=by decide +kernel
   have q2:Nat.beq capE capV=false:=by decide +kernel
   unfold oZ at e
   rw[q1,q2] at e
   cases e)
  obtain⟨old',ho1,ho2⟩:=Ow (P:=P) h har hold
  obtain⟨old2,hp1,hp2⟩:=Ow (P:=P) (h.drew (w.drawn+1)) har hold
  have hol:old.length=len * s:=Uv hold
  have grow:∀ {H':Hp},I w₀ W φ H' st.n w→c'<len+m→some (rx st H' (len+m) s (old++new) el)=some (v,st') →
    Done P (ik (Builtin.append_ #[t,t2] ty #[.slice (some ad') len c',y'])) w₀ W φ w st v st':=by
   intro H' hI hlt e
   simp only[rx,Option.some.injEq,Prod.mk.injEq] at e
   obtain⟨rfl,rfl⟩:=e
   obtain⟨nc,rest,hnc,hrl,hrun⟩:=Gx (w:=w) (ty:=ty) (base:=some ad') (len:=len) (m:=m) (c':=c') (old':=old2) hund hund2 hs hb hz hzl big hlt hyv
    (by simpa [Builtin.firstCells] using hp2) hm2
   have hcat:=hp1.append hm1
   have:=Done.row (st:={ st with H:=H' }) (w1:={ w with drawn:=w.drawn+1 }) (P:=P) (w:=w) (c:=old++new) (c':=old2++new2++rest) (cp:=nc) (vec:=some s) (e:=el) (hI.drew _) ?_ ?_ hrun
    (v:=.slice (some ⟨st.n,0,none⟩) (len+m) capV) ?_
   ·exact this
   ·unfold Pre
    have:(old2++new2++rest).take (old++new).length=old2++new2:=List.take_left' hcat.length
    rw[this]; exact hcat
   ·intro s' hs'
    cases hs'
    have l1:old2.length=len * s:=by rw[hp1.length,hol]
    simp only[List.length_append,l1,hml,hrl]
    rw[← Nat.add_mul,← Nat.add_mul]; congr 1; omega
   ·simp only [VR]
    exact⟨_,_,rfl,.inl ⟨⟨⟨nc,cW _ _ _⟩,rfl,rfl⟩,.inr (.inl ⟨rfl,rfl,rfl,hnc,_,cW _ _ _⟩)⟩⟩
  have place:len+m≤c'→∀ {w':World},(storeCells (ad'.add (len * s)) new').run P w=.ok () w' →
    (Builtin.append_ #[t,t2] ty #[.slice (some ad') len c',y']).run P w=.ok (.slice (some ad') (len+m) c') w':=by
   intro hle w' hst
   subst hyv
   simp [Builtin.append_,cx hund,cx hund2,fY hs,Builtin.lenOf,hle,hn2,hst]
  unfold oZ at e
  split at e
  ·rename_i hcap
   have hcap:cap<capV:=by simpa using hcap
   have hc':c'=cap:=by
    rcases hcr with⟨_,q⟩ | ⟨q,_⟩ | ⟨q,_⟩
    ·exact q
    ·omega
    ·unfold capV capR at *; omega
   subst hc'
   split at e
   ·rename_i hle
    have hle:len+m≤c':=Nat.le_of_ble_eq_true hle
    split at e
    ·rename_i H' hH'
     simp only[Option.some.injEq,Prod.mk.injEq] at e
     obtain⟨rfl,rfl⟩:=e
     obtain⟨w',s1,s2⟩:=Qk (P:=P) h (har.add hsp (len * s)) hn1 hH'
     refine⟨φ,_,w',.inl (gq (place hle s1)),Ext.refl _ _,s2,?_,rfl,rfl⟩
     simp only[VR]
     exact⟨_,_,rfl,.inl ⟨har,.inl ⟨hcap,rfl⟩⟩⟩
    ·cases e
   ·rename_i hle
    have hle:¬ len+m≤c':=fun x=>by rw[Nat.ble_eq_true_of_le x] at hle; cases hle
    exact grow h (by omega) e
  ·split at e
   case h_2=>cases e
   rename_i cells e' s' hbeq hbl
   have hcv:=Nat.eq_of_beq_eq_true hbeq
   split at e
   case h_2=>cases e
   rename_i hconds
   simp only[Bool.and_eq_true] at hconds
   obtain⟨⟨he',hs'⟩,hleaf⟩:=hconds
   have he':=Nat.eq_of_beq_eq_true he'
   have hs':=Nat.eq_of_beq_eq_true hs'
   subst he' hs'
   by_cases hle:len+m≤c'
   ·
    obtain⟨q1,q2,q3,q4,bb,q5⟩:cap=capV∧ad.off=0∧ad.spot=none∧len≤c'∧∃ b,φ ad.block=some (b,c'):=by
     rcases hcr with⟨q,_⟩ | q | ⟨q,_⟩
     ·omega
     ·exact q
     ·unfold capV capR at *; omega
    simp only[rx,Option.some.injEq,Prod.mk.injEq] at e
    obtain⟨rfl,rfl⟩:=e
    obtain⟨p,arr,fr,f,g,fr0,k,sz⟩:=row_of h hbl
    rw[q5] at f; cases f
    obtain⟨⟨cc,r1⟩,r2,r3⟩:=har
    rw[q5] at r1
    have hbb:bb=ad'.block:=by injection r1 with r1; injection r1
    subst hbb
    have hszA:=sz s' rfl
    simp only at hszA g
    have fr00:=fr0 rfl
    subst fr00
    have had':ad'=⟨ad'.block,0,none⟩:=by rw[iz (r3.trans hsp)]; simp [r2,q2]
    have hroom:len * s'+new'.length≤arr.size:=by
     rw[hnl,hszA,← Nat.add_mul]; exact Nat.mul_le_mul_right _ hle
    have hrun:=run_storeCells_at (P:=P) ad'.block (len * s') e' new' 0 arr w g (by omega) (hn1.leaf hleaf)
    have hadd:ad'.add (len * s')=⟨ad'.block,len * s',none⟩:=by rw[had',wZ]; simp
    rw[← hadd] at hrun
    refine⟨ext φ st.n (ad'.block,c'),_,_,.inl (gq (place hle hrun)),h.ext_push _,?_,?_,rfl,rfl⟩
    ·rw [Qz w _ _ _ _ _ g]
     have hput:=h.put hbl q5 rfl (b':=.cells (old++new) e' false (some s')) (o':=.cells ⟨List.take (len * s'+0) arr.toList++new'++List.drop (len * s'+0+new'.length) arr.toList⟩ e' (0,0)) ⟨_,_,rfl,fun _=>rfl,?_,?_⟩
     ·have hren := hput.rename (i := ad.block) (b := .cells (old ++ new) e' false (some s')) (by rw [Tr.get_set, if_pos rfl]) q5
      refine hren.congr ?_
      intro i
      simp only[mz,Tr.get_set]
      by_cases h1:i=st.n
      ·simp only[if_pos h1]
      ·by_cases h2 : i = ad.block
       ·simp only[if_neg h1,if_pos h2]
       ·simp only[if_neg h1,if_neg h2]
     ·have e0 : old = (cells.drop 0).take (len * s') := by
       unfold loadN at hold
       split at hold
       ·cases hold
       ·rw [hbl] at hold
        simp only at hold
        have:=(JK hold).1
        rw[q2] at this; exact this
      have hpre:=k.take (len * s')
      have e1:VRL φ old (arr.toList.take (len * s')):=by
       rw[e0]; simp only[List.drop_zero]
       have:(List.take cells.length arr.toList).take (len * s')=arr.toList.take (len * s'):=by
        rw[List.take_take]
        congr 1
        have:old.length≤cells.length:=by rw[e0]; simp; omega
        omega
       rw[← this]; exact hpre
      have hcat:=e1.append hn1
      unfold Pre
      have:(List.take (len * s'+0) arr.toList++new'++List.drop (len * s'+0+new'.length) arr.toList).take (old++new).length=arr.toList.take (len * s')++new':=
       List.take_left' hcat.length
      rw[this]; exact hcat
     ·intro s2 hs2
      cases hs2
      simp only[List.size_toArray,List.length_append,List.length_take,List.length_drop,Array.length_toList]
      rw[← hszA]; omega
    ·simp only [VR]
     refine⟨_,_,rfl,.inl ⟨⟨⟨c',cW _ _ _⟩,r2.trans q2,r3.trans q3⟩,.inr (.inl ⟨rfl,rfl,rfl,hle,_,cW _ _ _⟩)⟩⟩
   ·exact grow (h.kill _) (by omega) e
 ·cases e
theorem Gy{d:Nat}:∀ {l:List Nat},yX d l=true↔d ∈ l
 | []=>by simp [yX]
 | x::l=>by
  unfold yX
  rw[List.mem_cons]
  split
  ·rename_i h
   have:=Nat.eq_of_beq_eq_true h; subst this
   simp
  ·rename_i h
   have:d≠x:=by rintro rfl; rw[Nat.beq_refl] at h; cases h
   rw[Gy]; simp [this]
theorem famKill_get:∀ {D:List Nat} {H H1:Hp},Bv D H=some H1→∀ j,H1.get j=if j ∈ D then none else H.get j
 | [],H,H1,e,j=>by simp only[Bv,Option.some.injEq] at e; subst e; simp
 | d::D,H,H1,e,j=>by
  simp only[Bv] at e
  split at e
  ·rw [famKill_get e j, Tr.get_set]
   by_cases h1:j ∈ D
   ·simp [h1]
   ·by_cases h2 : j = d
    ·simp [h2]
    ·simp [h1,h2]
  ·cases e
theorem famUpd_get{m:Nat}{D:List Nat}:∀ {L:List Nat} {H H1:Hp},JY m D L H=some H1→∀ j,
  (j ∉ L→H1.get j=H.get j)∧(j ∈ L→∃ c e s A D' D'',H.get j=some (.fam c e s A D')∧H1.get j=some (.fam c e s A D'')∧(∀ x ∈ D',x ∉ D→x ∈ D'')∧m ∈ D'')
 | [],H,H1,e,j=>by simp only[JY,Option.some.injEq] at e; subst e; simp
 | a::L,H,H1,e,j=>by
  simp only[JY] at e
  split at e
  ·rename_i c el s A D' hg
   obtain⟨i1,i2⟩:=famUpd_get e j
   have keepD:∀ x ∈ D',x ∉ D→x ∈ (m::D'.filter fun x=>!yX x D):=by
    intro x hx hn
    rw[List.mem_cons,List.mem_filter]
    right
    refine⟨hx,?_⟩
    cases hl:yX x D with
    | true=>exact absurd (Gy.1 hl) hn
    | false=>rfl
   refine⟨fun h=>?_,fun h=>?_⟩
   ·rw [List.mem_cons, not_or] at h
    rw[i1 h.2,Tr.get_set,if_neg h.1]
   ·by_cases hL : j ∈ L
    ·obtain ⟨c1, e1, s1, A1, D1, D2, g1, g2, g3, g4⟩ := i2 hL
     rw[Tr.get_set] at g1
     by_cases hj:j=a
     ·rw [if_pos hj] at g1
      cases g1
      exact⟨c,el,s,A,D',D2,by rw[hj]; exact hg,g2,fun x hx hn=>g3 x (keepD x hx hn) hn,g4⟩
     ·rw [if_neg hj] at g1
      exact⟨c1,e1,s1,A1,D1,D2,g1,g2,g3,g4⟩
    ·have hj : j = a := (List.mem_cons.1 h).resolve_right hL
     subst hj
     exact⟨c,el,s,A,D',_,hg,by rw[i1 hL,Tr.get_set,if_pos rfl],keepD,List.mem_cons_self⟩
  ·cases e
theorem I.relabel{H':Hp}(h:I w₀ W φ H n w)(hr:∀ j b',H'.get j=some b'→∃ b,H.get j=some b∧(∀ o p,φ j=some p→BR φ b o p.2→BR φ b' o p.2)∧(b'.ro=false→b.ro=false))
  (hk:∀ i j b c b' c',H.get i=some b→H.get j=some c→H'.get i=some b'→H'.get j=some c'→Kin i b j c→Kin i b' j c'):I w₀ W φ H' n w:=by
 refine⟨h.dom,fun i b' hb=>?_,fun i j b' c' p q hb hc hp hq e=>?_,h.keep,h.size,fun i b' p hb ro hp=>?_,fun i b' p hb hp=>?_,h.os,h.tape,h.output,h.fz⟩
 ·obtain ⟨b, h1, h2, _⟩ := hr i b' hb
  obtain⟨p,o,f,g,k⟩:=h.rel i b h1
  exact⟨p,o,f,g,h2 o p f k⟩
 ·obtain ⟨b, h1, _⟩ := hr i b' hb
  obtain⟨c,g1,_⟩:=hr j c' hc
  exact(h.inj i j b c p q h1 g1 hp hq e).imp id (hk i j b c b' c' h1 g1 hb hc)
 ·obtain ⟨b, h1, _, h3⟩ := hr i b' hb
  exact h.wr i b p h1 (h3 ro) hp
 ·obtain ⟨b, h1, _⟩ := hr i b' hb
  exact h.src i b p h1 hp
theorem I.alias(h:I w₀ W φ H n w){i e s:Nat}{c c':List Value}{A:List Nat}{p:Nat × Nat}{arr:Array Value}{arr':List Value}(hi:H.get i=some (.fam c e s A [n]))(hp:φ i=some p)
  (hg:w.heap[p.1]?=some (.cells arr e (0,0))) (hpre:Pre φ c' arr') (hsz:arr'.length=p.2 * s) (hle:c.length≤c'.length) (hsame:arr'.take c.length=arr.toList.take c.length)
  (hal:∀ k b q,H.get k=some b→φ k=some q→q.1=p.1→k=i∨(k ∈ A∧∃ l e' s' A' D',b=.fam l e' s' A' D'∧n ∈ D'∧l.length≤c.length)) :
  I w₀ W (ext φ n p) (H.set n (some (.fam c' e s (i::A) []))) (n+1) { w with heap:=w.heap.setIfInBounds p.1 (.cells ⟨arr'⟩ e (0,0)) }:=by
 have hle2:=Ek (p:=p) h.free
 have hlt:=h.lt hi hp
 have oldφ:∀ j q,j≠n→ext φ n p j=some q→φ j=some q:=by
  intro j q hj e; unfold ext at e; rwa [if_neg hj] at e
 have oldH:∀ j b,j≠n→(H.set n (some (.fam c' e s (i::A) []))).get j=some b→H.get j=some b:=by
  intro j b hj e; rw[Tr.get_set,if_neg hj] at e; exact e
 refine⟨fun j q he=>?_,fun j b he=>?_,fun j k b d q r he f g g' x=>?_,fun b hb nb=>?_,by simpa using h.size,fun j b q he r g=>?_,fun j b q he g=>?_,h.os,h.tape,h.output,ZQ h hg rfl rfl⟩
 ·by_cases hj : j = n
  ·omega
  ·have:=h.dom j q (oldφ j q hj he); omega
 ·by_cases hj : j = n
  ·subst hj
   rw[Tr.get_set,if_pos rfl] at he; cases he
   exact⟨p,.cells ⟨arr'⟩ e (0,0),cW _ _ _,by simp [hlt],⟨arr'⟩,rfl,hpre.mono hle2,by simpa using hsz,by
    obtain⟨p0,arr0,f0,_,_,_,k0⟩:=ZV h hi
    rw[hp] at f0; cases f0; exact k0⟩
  ·have e' := oldH j b hj he
   obtain⟨q,o,f,g,k⟩:=h.rel j b e'
   by_cases hq:q.1=p.1
   ·have shape : ∃ l e' s' A' D', b = .fam l e' s' A' D' ∧ l.length ≤ c.length := by
     rcases hal j b q e' f hq with rfl | ⟨_,l,e1,s1,A1,D1,h1,_,h2⟩
     ·rw[hi] at e'; cases e'; exact⟨_,_,_,_,_,rfl,Nat.le_refl _⟩
     ·exact⟨l,e1,s1,A1,D1,h1,h2⟩
    obtain⟨l,e1,s1,A1,D1,rfl,hl⟩:=shape
    obtain⟨arr1,rfl,k1,k2,k5⟩:=k
    rw[hq,hg] at g
    cases g
    refine⟨q,.cells ⟨arr'⟩ e (0,0),hle2 _ _ f,by rw[hq]; simp [hlt],⟨arr'⟩,rfl,?_,?_,k5⟩
    ·unfold Pre at k1 ⊢
     have:arr'.take l.length=arr.toList.take l.length:=by
      have:=congrArg (List.take l.length) hsame
      rw[List.take_take,List.take_take,Nat.min_eq_left hl] at this
      exact this
     rw[this]; exact k1.mono hle2
    ·obtain ⟨p0, o0, f0, g0, k0⟩ := h.rel i _ hi
     rw[hp] at f0; cases f0
     obtain⟨arr2,rfl,k3,k4,_⟩:=k0
     rw[hg] at g0; cases g0
     simp only[List.size_toArray,hsz]
     rw[← k4,k2]
   ·refine ⟨q, o, hle2 _ _ f, ?_, k.mono hle2⟩
    show(w.heap.setIfInBounds p.1 _)[q.1]?=_
    rw[Array.getElem?_setIfInBounds_ne (fun z=>hq z.symm)]; exact g
 ·have one : ∀ k d r, k ≠ n → H.get k = some d → φ k = some r → r.1 = p.1 → Kin n (.fam c' e s (i :: A) []) k d := by
   intro k1 d1 r1 hk1 f1 g1 x1
   rcases hal k1 d1 r1 f1 g1 x1 with rfl | ⟨hA,l,e1,s1,A1,D1,rfl,hn,h2⟩
   ·rw [hi] at f1; cases f1
    exact⟨_,_,_,_,_,_,_,_,_,_,rfl,rfl,.inr ⟨List.mem_cons_self,by simp,hle⟩⟩
   ·exact⟨_,_,_,_,_,_,_,_,_,_,rfl,rfl,.inr ⟨List.mem_cons_of_mem _ hA,hn,by omega⟩⟩
  by_cases hj:j=n <;> by_cases hk:k=n
  ·exact .inl (by rw[hj,hk])
  ·subst hj; rw [cW] at g; cases g
   rw[Tr.get_set,if_pos rfl] at he; cases he
   exact .inr (one k d r hk (oldH k d hk f) (oldφ k r hk g') x.symm)
  ·subst hk; rw [cW] at g'; cases g'
   rw[Tr.get_set,if_pos rfl] at f; cases f
   exact .inr (one j b q hj (oldH j b hj he) (oldφ j q hj g) x).symm
  ·exact h.inj j k b d q r (oldH j b hj he) (oldH k d hk f) (oldφ j q hj g) (oldφ k r hk g') x
 ·have ne : p.1 ≠ b := by
   intro y; subst y
   rcases h.wr i _ p hi rfl hp with a | a
   ·exact nb a
   ·omega
  show(w.heap.setIfInBounds p.1 _)[b]?=_
  rw[Array.getElem?_setIfInBounds_ne ne]; exact h.keep b hb nb
 ·by_cases hj : j = n
  ·subst hj; rw [cW] at g; cases g
   exact h.wr i _ p hi rfl hp
  ·exact h.wr j b q (oldH j b hj he) r (oldφ j q hj g)
 ·by_cases hj : j = n
  ·subst hj; rw [cW] at g; cases g
   exact h.src i _ p hi hp
  ·exact h.src j b q (oldH j b hj he) (oldφ j q hj g)
theorem famOf_ok{i e s:Nat}{c:List Value}{A D:List Nat}(h:famOf H i e s=some (c,A,D)) :
  (H.get i=some (.cells c e false (some s))∧A=[]∧D=[])∨H.get i=some (.fam c e s A D):=by
 unfold famOf at h
 split at h
 ·rename_i c1 e1 s1 hg
  split at h
  ·rename_i hq
   rw[Bool.and_eq_true] at hq
   have h1:=Nat.eq_of_beq_eq_true hq.1
   have h2:=Nat.eq_of_beq_eq_true hq.2
   cases h
   subst h1 h2
   exact .inl ⟨hg,rfl,rfl⟩
  ·cases h
 ·rename_i c1 e1 s1 A1 D1 hg
  split at h
  ·rename_i hq
   rw[Bool.and_eq_true] at hq
   have h1:=Nat.eq_of_beq_eq_true hq.1
   have h2:=Nat.eq_of_beq_eq_true hq.2
   cases h
   subst h1 h2
   exact .inr hg
  ·cases h
 ·cases h
theorem fam_step(h:I w₀ W φ H n w){i e s:Nat}{c:List Value}{A D:List Nat}{H1 H2:Hp}(hf:famOf H i e s=some (c,A,D))(hcp:∀ p,φ i=some p→0<p.2)(hiD:i ∉ D)(h1:Bv D H=some H1)(h2:JY n D A H1=some H2) :
  I w₀ W φ (H2.set i (some (.fam c e s A [n]))) n w∧(∀ p,φ i=some p→∀ k b q,(H2.set i (some (.fam c e s A [n]))).get k=some b→φ k=some q→q.1=p.1 →
   k=i∨(k ∈ A∧∃ l e' s' A' D',b=.fam l e' s' A' D'∧n ∈ D'∧l.length≤c.length)):=by
 have hf:=famOf_ok hf
 have k1:=famKill_get h1
 have k2:=famUpd_get h2
 have alive:∀ j b',(H2.set i (some (.fam c e s A [n]))).get j=some b'→∃ b,H.get j=some b∧j ∉ D∧((j=i∧b'=.fam c e s A [n])∨(j≠i∧j ∉ A∧b'=b)∨(j≠i∧j ∈ A∧∃ l e' s' A' D' D'',b=.fam l e' s' A' D'∧b'=.fam l e' s' A' D''∧(∀ x ∈ D',x ∉ D→x ∈ D'')∧n ∈ D'')):=by
  intro j b' hb
  rw[Tr.get_set] at hb
  by_cases hj:j=i
  ·rw [if_pos hj] at hb; cases hb
   subst hj
   rcases hf with⟨g,rfl,rfl⟩ | g
   ·exact⟨_,g,hiD,.inl ⟨rfl,rfl⟩⟩
   ·exact⟨_,g,hiD,.inl ⟨rfl,rfl⟩⟩
  ·rw [if_neg hj] at hb
   by_cases hA:j ∈ A
   ·obtain ⟨l, e1, s1, A1, D1, D2, g1, g2, g3, g4⟩ := (k2 j).2 hA
    rw[hb] at g2; cases g2
    rw[k1 j] at g1
    split at g1
    ·cases g1
    ·rename_i hD
     exact⟨_,g1,hD,.inr (.inr ⟨hj,hA,l,e1,s1,A1,D1,D2,rfl,rfl,g3,g4⟩)⟩
   ·rw [(k2 j).1 hA, k1 j] at hb
    split at hb
    ·cases hb
    ·rename_i hD
     exact⟨b',hb,hD,.inr (.inl ⟨hj,hA,rfl⟩)⟩
 have says:∀ j b b',H.get j=some b→(H2.set i (some (.fam c e s A [n]))).get j=some b'→∀ l e1 s1 A1 D1,b=.fam l e1 s1 A1 D1→∃ D2,b'=.fam l e1 s1 A1 D2∧∀ x ∈ D1,x ∉ D→x ∈ D2:=by
  rintro j b b' hb hb' l e1 s1 A1 D1 rfl
  obtain⟨b0,g1,g2,g3⟩:=alive j b' hb'
  rw[hb] at g1; cases g1
  rcases g3 with⟨rfl,rfl⟩ | ⟨_,_,rfl⟩ | ⟨_,_,l',e',s',A',D',D'',q1,q2,q3,_⟩
  ·rcases hf with ⟨g, _⟩ | g
   ·rw[hb] at g; cases g
   ·rw [hb] at g; cases g
    exact⟨[n],rfl,fun x hx hn=>absurd hx hn⟩
  ·exact⟨D1,rfl,fun x hx _=>hx⟩
  ·cases q1
   exact⟨D'',q2,q3⟩
 refine⟨h.relabel (fun j b' hb=>?_) (fun j k b d b' d' hb hd hb' hd' hk=>?_),fun p hp k b q hb hq hqp=>?_⟩
 ·obtain ⟨b, g1, g2, g3⟩ := alive j b' hb
  refine⟨b,g1,?_,?_⟩
  ·intro o cp hcq ho
   rcases g3 with⟨rfl,rfl⟩ | ⟨_,_,rfl⟩ | ⟨_,_,l',e',s',A',D',D'',rfl,rfl,_⟩
   ·rcases hf with ⟨g, _⟩ | g
    ·rw [g1] at g; cases g
     obtain⟨arr,fr,q1,q2,q3,q4⟩:=ho
     have:=q2 rfl
     subst this
     exact⟨arr,q1,q3,q4 s rfl,hcp _ hcq⟩
    ·rw [g1] at g; cases g
     exact ho
   ·exact ho
   ·exact ho
  ·intro hro
   rcases g3 with⟨rfl,rfl⟩ | ⟨_,_,rfl⟩ | ⟨_,_,l',e',s',A',D',D'',rfl,rfl,_⟩
   ·rcases hf with⟨g,_⟩ | g <;> (rw[g1] at g; cases g; rfl)
   ·exact hro
   ·rfl
 ·obtain ⟨l, e1, s1, A1, D1, l', e1', s1', A1', D1', q1, q2, q3⟩ := hk
  obtain⟨E1,r1,r2⟩:=says j b b' hb hb' _ _ _ _ _ q1
  obtain⟨E2,t1,t2⟩:=says k d d' hd hd' _ _ _ _ _ q2
  obtain⟨_,_,jD,_⟩:=alive j b' hb'
  obtain⟨_,_,kD,_⟩:=alive k d' hd'
  exact⟨l,e1,s1,A1,E1,l',e1',s1',A1',E2,r1,t1,q3.imp (fun⟨a,b,c⟩=>⟨a,r2 _ b kD,c⟩) fun⟨a,b,c⟩=>⟨a,t2 _ b jD,c⟩⟩
 ·obtain ⟨b0, g1, g2, g3⟩ := alive k b hb
  have hi:∃ bi,H.get i=some bi∧∀ l e1 s1 A1 D1,bi=.fam l e1 s1 A1 D1→l=c∧A1=A∧D1=D:=by
   rcases hf with⟨g,_⟩ | g
   ·exact⟨_,g,fun _ _ _ _ _ z=>by cases z⟩
   ·exact⟨_,g,fun _ _ _ _ _ z=>by cases z; exact⟨rfl,rfl,rfl⟩⟩
  obtain⟨bi,hi,hbi⟩:=hi
  rcases h.inj i k bi b0 p q hi g1 hp hq hqp.symm with rfl | ⟨l,e1,s1,A1,D1,l',e1',s1',A1',D1',q1,q2,q3⟩
  ·exact .inl rfl
  ·obtain ⟨rfl, rfl, rfl⟩ := hbi _ _ _ _ _ q1
   rcases q3 with⟨_,z,_⟩ | ⟨z,_,hl⟩
   ·exact absurd z g2
   ·by_cases hki : k = i
    ·exact .inl hki
    ·right
     refine⟨z,?_⟩
     rcases g3 with⟨q,_⟩ | ⟨_,q,_⟩ | ⟨_,_,l2,e2,s2,A2,D2,D3,w1,w2,_,w4⟩
     ·exact absurd q hki
     ·exact absurd z q
     ·rw [q2] at w1; cases w1
      exact⟨_,_,_,_,_,w2,w4,hl⟩
theorem keepTo_none{r:Value × St}{e:TypeId}{s i len m:Nat}{new:List Value}(h:Qv st e s i len new m=some r):∃ c A D H1 H2,famOf st.H i e s=some (c,A,D)∧0<len∧c.length=len * s∧new.all oQ=true∧i ∉ D∧Bv D st.H=some H1∧JY st.n D A H1=some H2 ∧
  r=(.slice (some ⟨st.n,0,none⟩) (len+m) capV,{ st with H:=(H2.set i (some (.fam c e s A [st.n]))).set st.n (some (.fam (c++new) e s (i::A) [])),n:=st.n+1 }):=by
 unfold Qv at h
 split at h
 case h_2=>cases h
 rename_i c A D hf
 split at h
 case h_2=>cases h
 rename_i hc
 simp only[Bool.and_eq_true] at hc
 split at h
 case h_2=>cases h
 rename_i H1 h1
 split at h
 case h_2=>cases h
 rename_i H2 h2
 cases h
 refine⟨c,A,D,H1,H2,hf,by simpa using hc.1.1.1,Nat.eq_of_beq_eq_true hc.1.1.2,hc.1.2,fun z=>?_,h1,h2,rfl⟩
 have:=Gy.2 z
 rw[this] at hc; simp at hc
theorem keep_ok(h:I w₀ W φ st.H st.n w){t t2 ty:TypeId}{x y x' y' v:Value}(hx:VR φ x x')(hy:VR φ y y')(e:keepV P st t t2 x y=some (v,st')) :
  Done P (ik (Builtin.append_ #[t,t2] ty #[x',y'])) w₀ W φ w st v st':=by
 unfold keepV at e
 split at e
 case h_2=>exact Uw h hx hy e
 rename_i ad len cap
 split at e
 case h_2=>exact Uw h hx hy e
 rename_i hcap
 have hcap:=Nat.eq_of_beq_eq_true hcap
 split at e
 case h_2=>cases e
 rename_i el el2 hel hel2
 split at e
 case h_2=>cases e
 rename_i s b z hs hb hz
 split at e
 case h_2=>cases e
 rename_i new m hsrc hzl
 have hzl:=Nat.eq_of_beq_eq_true hzl
 split at e
 case h_2=>cases e
 rename_i hsp big
 have hund:=iw hel
 have hund2:=iw hel2
 obtain⟨new',hn1,⟨by',cy,hyv⟩,hnl,hn2⟩:=src_ok (P:=P) h hy hsrc
 obtain⟨new2,hm1,_,hml,hm2⟩:=src_ok (P:=P) (h.drew (w.drawn+1)) hy hsrc
 have hlenN:new.length=m * s:=by rw[← hn1.length,hnl]
 obtain⟨c,A,D,H1,H2,f1,f0,f2,f3,f4,f5,f6,f7⟩:=keepTo_none e
 cases f7
 obtain⟨ad',c',rfl,har,hcr⟩:=VR.slice_inv2 hx (fun q=>by rw[q] at hcap; revert hcap; decide +kernel)
 obtain⟨q1,q2,q3,q4,bb,q5⟩:cap=capV∧ad.off=0∧ad.spot=none∧len≤c'∧∃ b,φ ad.block=some (b,c'):=by
  rcases hcr with⟨q,_⟩ | q | ⟨q,_⟩
  ·omega
  ·exact q
  ·unfold capV capR at *; omega
 obtain⟨⟨cc,r1⟩,r2,r3⟩:=har
 rw[q5] at r1
 have hbb:bb=ad'.block:=by injection r1 with r1; injection r1
 subst hbb
 have had':ad'=⟨ad'.block,0,none⟩:=by rw[iz (r3.trans hsp)]; simp [r2,q2]
 obtain⟨g0,hal⟩:=fam_step h f1 (fun p hp=>by rw[q5] at hp; cases hp; show 0<c'; omega) f4 f5 f6
 have gi:(H2.set ad.block (some (.fam c el s A [st.n]))).get ad.block=some (.fam c el s A [st.n]):=by rw[Tr.get_set,if_pos rfl]
 obtain⟨p,arr,g1,g2,g3,g4,g5⟩:=ZV g0 gi
 rw[q5] at g1; cases g1
 simp only at g2 g4
 by_cases hle:len+m≤c'
 ·have hroom : len * s + new'.length ≤ arr.size := by
   rw[hnl,g4,← Nat.add_mul]; exact Nat.mul_le_mul_right _ hle
  have hrun:=run_storeCells_at (P:=P) ad'.block (len * s) el new' 0 arr w g2 (by omega) (hn1.leaf f3)
  have hadd:ad'.add (len * s)=⟨ad'.block,len * s,none⟩:=by rw[had',wZ]; simp
  rw[← hadd] at hrun
  have place:(Builtin.append_ #[t,t2] ty #[.slice (some ad') len c',y']).run P w=.ok (.slice (some ad') (len+m) c') (w.setRow ad'.block ⟨List.take (len * s+0) arr.toList++new'++List.drop (len * s+0+new'.length) arr.toList⟩):=by
   subst hyv
   simp [Builtin.append_,cx hund,cx hund2,fY hs,Builtin.lenOf,hle,hn2,hrun]
  have e1:VRL φ c (arr.toList.take (len * s)):=by unfold Pre at g3; rw[f2] at g3; exact g3
  refine⟨ext φ st.n (ad'.block,c'),_,_,.inl (gq place),h.ext_push _,?_,?_,rfl,rfl⟩
  ·rw [Qz w _ _ _ _ _ g2]
   refine g0.alias (arr:=arr) (arr':=List.take (len * s+0) arr.toList++new'++List.drop (len * s+0+new'.length) arr.toList) gi q5 g2 ?_ ?_ (by simp) ?_ (hal _ q5)
   ·have hcat := e1.append hn1
    unfold Pre
    have:(List.take (len * s+0) arr.toList++new'++List.drop (len * s+0+new'.length) arr.toList).take (c++new).length=arr.toList.take (len * s)++new':=
     List.take_left' hcat.length
    rw[this]; exact hcat
   ·simp only [List.length_append, List.length_take, List.length_drop, Array.length_toList]
    rw[← g4]; omega
   ·rw[f2,Nat.add_zero,List.append_assoc,List.take_append_of_le_length (by rw[List.length_take,Array.length_toList]; omega),List.take_take,Nat.min_self]
  ·simp only [VR]
   refine⟨_,_,rfl,.inl ⟨⟨⟨c',cW _ _ _⟩,r2.trans q2,r3.trans q3⟩,.inr (.inl ⟨rfl,rfl,rfl,hle,_,cW _ _ _⟩)⟩⟩
 ·have hc : cut c 0 (len * s) = some c := by
   unfold cut
   simp only[List.drop_zero]
   rw[List.take_of_length_le (by omega),if_pos f2]
  obtain⟨old2,hp1,hp2⟩:=Oq (P:=P) (w:={ w with drawn:=w.drawn+1 }) (b:=ad'.block) g3 g2 hc
  obtain⟨nc,rest,hnc,hrl,hrun⟩:=Gx (w:=w) (ty:=ty) (base:=some ad') (len:=len) (m:=m) (c':=c') (old':=old2) hund hund2 hs hb hz hzl big (by omega) hyv
   (by rw[had']; simpa [Builtin.firstCells] using hp2) hm2
  have hcat:=hp1.append hm1
  have l1:old2.length=len * s:=by rw[hp1.length,f2]
  refine⟨ext φ st.n (w.heap.size,nc),_,_,.inl (gq hrun),h.ext_push _,?_,?_,rfl,rfl⟩
  ·refine (g0.drew (w.drawn + 1)).push (b := .fam (c ++ new) el s (ad.block :: A) []) (cp := nc) ⟨_, rfl, ?_, ?_, by omega⟩
   ·unfold Pre
    have:(old2++new2++rest).take (c++new).length=old2++new2:=List.take_left' hcat.length
    rw[this]; exact hcat
   ·simp only [List.size_toArray, List.length_append, l1, hml, hrl]
    rw[← Nat.add_mul,← Nat.add_mul]; congr 1; omega
  ·simp only [VR]
   exact⟨_,_,rfl,.inl ⟨⟨⟨nc,cW _ _ _⟩,rfl,rfl⟩,.inr (.inl ⟨rfl,rfl,rfl,hnc,_,cW _ _ _⟩)⟩⟩
theorem appendW_ok(h:I w₀ W φ st.H st.n w){keep:Bool}{t t2 ty:TypeId}{x y x' y' v:Value}(hx:VR φ x x')(hy:VR φ y y')(e:NZ P st keep t t2 x y=some (v,st')) :
  Done P (ik (Builtin.append_ #[t,t2] ty #[x',y'])) w₀ W φ w st v st':=by
 cases keep with
 | true=>exact keep_ok h hx hy e
 | false=>exact Uw h hx hy e
end Go.Ev
end
section
namespace Go.Ev
open Go
variable {P:Program} {w₀:World} {W:Sets} {φ:Phi} {st st':St} {w:World} {a:Act} {H:Hp} {n:Nat}
section
variable (h:I w₀ W φ st.H st.n w) (ht:TR φ st.T a.tmps)
include h ht
theorem len_ok{c:Call}{type:TypeId}{v:Value}(e:oLen P c st=some (v,st')) :
  Done P (ik (Builtin.len_ c.argTypes type (c.args.map a.eval))) w₀ W φ w st v st':=by
 unfold oLen at e
 split at e
 ·rename_i x t r ha ht'
  split at e
  ·rename_i u hu
   refine Done.keep h e fun v hv=>?_
   have hur:=cJ ht hu
   have e1:(c.args.map a.eval)[0]?=some (a.eval x):=by
    have:c.args=⟨[x]⟩:=by rw[← ha]
    rw[this]; simp
   have e2:c.argTypes[0]?=some t:=by
    have:c.argTypes=⟨t::r⟩:=by rw[← ht']
    rw[this]; simp
   unfold lenV at hv
   split at hv
   ·rename_i k el hund
    cases hv
    refine⟨goInt k,?_,by simp only[goInt,VR]⟩
    simp only[Builtin.len_,e1,e2,Sem.run_bind,cx hund,Result.andThen_ok]
    cases hx:a.eval x <;> rfl
   ·rename_i el ad k cp hund
    cases hv
    cases ad with
    | none=>
     have:=hur.slice_none
     refine⟨goInt k,?_,by simp only[goInt,VR]⟩
     simp only[Builtin.len_,e1,e2,Sem.run_bind,cx hund,Result.andThen_ok,this]
     rfl
    | some ad=>
     obtain⟨ad',c',e3,_⟩:=VR.slice_inv hur
     refine⟨goInt k,?_,by simp only[goInt,VR]⟩
     simp only[Builtin.len_,e1,e2,Sem.run_bind,cx hund,Result.andThen_ok,e3]
     rfl
   ·rename_i s hund
    cases hv
    simp only[VR] at hur
    refine⟨goInt s.size,?_,by simp only[goInt,VR]⟩
    simp only[Builtin.len_,e1,e2,Sem.run_bind,cx hund,Result.andThen_ok,hur]
    rfl
   ·cases hv
  ·cases e
 ·cases e
theorem append_op_ok{c:Call}{type:TypeId}{v:Value}(e:Yx P c st=some (v,st')) :
  Done P (ik (Builtin.append_ c.argTypes type (c.args.map a.eval))) w₀ W φ w st v st':=by
 unfold Yx at e
 split at e
 ·rename_i x y t t2 ha ht'
  split at e
  ·rename_i u u2 hu hu2
   have e1:c.args.map a.eval=#[a.eval x,a.eval y]:=by
    have:c.args=⟨[x,y]⟩:=by rw[← ha]
    rw[this]; simp
   have e2:c.argTypes=#[t,t2]:=by
    have:c.argTypes=⟨[t,t2]⟩:=by rw[← ht']
    rw[this]
   rw[e1,e2]
   exact appendW_ok h (cJ ht hu) (cJ ht hu2) e
  ·cases e
 ·cases e
theorem copy_ok{c:Call}{type:TypeId}{v:Value}(e:oCopy P c st=some (v,st')) :
  Done P (ik (Builtin.copy_ c.argTypes type (c.args.map a.eval))) w₀ W φ w st v st':=by
 unfold oCopy at e
 split at e
 ·rename_i x y t r ha ht'
  split at e
  ·rename_i u u2 hu hu2
   have e1:c.args.map a.eval=#[a.eval x,a.eval y]:=by
    have:c.args=⟨[x,y]⟩:=by rw[← ha]
    rw[this]; simp
   have e2:c.argTypes[0]?=some t:=by
    have:c.argTypes=⟨t::r⟩:=by rw[← ht']
    rw[this]; simp
   rw[e1]
   have hx:=cJ ht hu
   have hy:=cJ ht hu2
   generalize a.eval x=x' at *
   generalize a.eval y=y' at *
   unfold Jv at e
   split at e
   ·rename_i el hel
    have hund:=iw hel
    split at e
    ·rename_i s hs
     split at e
     ·rename_i ad dl dc bd sl sc
      split at e
      ·cases e
      ·rename_i hdc
       split at e
       ·rename_i l hl
        split at e
        ·rename_i H' hH
         simp only[Option.some.injEq,Prod.mk.injEq] at e
         obtain⟨rfl,rfl⟩:=e
         obtain⟨ad',c1,rfl,har,_⟩:=VR.slice_inv2 hx (fun z=>by subst z; simp at hdc)
         obtain⟨bd',c2,rfl,hq⟩:=VR.slice_inv hy
         have hld:∃ l',VRL φ l l'∧(loadCells bd' (Nat.min sl dl * s)).run P w=.ok ⟨l'⟩ w:=by
          rcases hq with⟨hbr,_⟩ | ⟨rfl,_⟩
          ·obtain ⟨l', l1, l2⟩ := Ow (P := P) h hbr hl
           exact⟨l',l1,l2⟩
          ·have : l = [] := by
            simp only[Nat.zero_min,Nat.zero_mul] at hl
            exact List.length_eq_zero_iff.1 (Uv hl)
           subst this
           exact⟨[],VRL.nil,by simp [loadCells,loadCellsFrom]⟩
         obtain⟨l',l1,l2⟩:=hld
         obtain⟨w',s1,s2⟩:=Qk (P:=P) h har l1 hH
         refine⟨φ,goInt (Nat.min sl dl),w',.inl (gq ?_),Ext.refl _ _,s2,by simp only[goInt,VR],rfl,rfl⟩
         simp only[Builtin.copy_,e2,List.getElem?_toArray,List.getElem?_cons_zero,List.getElem?_cons_succ,Sem.run_bind,cx hund,Result.andThen_ok,fY hs,Builtin.lenOf,Sem.run_pure,Builtin.firstCells,l2]
         simp only[s1,Result.andThen_ok]
        ·cases e
       ·cases e
     ·cases e
    ·cases e
   ·cases e
  ·cases e
 ·cases e
theorem minmax_ok{b:Builtin}{c:Call}{type:TypeId}{v:Value}(e:HZ P b c type st=some (v,st')) :
  Done P (builtin b c.argTypes type (c.args.map fun | .const _=>true | _=>false) (c.args.map a.eval)) w₀ W φ w st v st':=by
 unfold HZ at e
 split at e
 ·rename_i vs hvs
  split at e
  ·rename_i hp
   split at e
   ·rename_i u hu
    split at e
    ·rename_i hpu
     simp only[Option.some.injEq,Prod.mk.injEq] at e
     obtain⟨rfl,rfl⟩:=e
     have hl:=ek.eq hp (HK ht hvs)
     have e1:c.args.map a.eval=⟨vs⟩:=by
      apply Array.ext'; simpa using hl
     rw[e1]
     exact Done.same h (qZ hu w) (bz.refl hpu)
    ·cases e
   ·cases e
  ·cases e
 ·cases e
omit h ht in
theorem Ix{t key elem:TypeId}(e:Dy P t=some (key,elem)):P.underlying t=some (.map key elem):=by
 unfold Dy at e
 split at e
 ·rename_i k el hu; cases e; exact hu
 ·cases e
omit h ht in
theorem pureO_ok{m:Sem Value}{v:Value}(e:pureO P m=some v)(w:World):m.run P w=.ok v w∧bz v=true:=by
 unfold pureO at e
 split at e
 ·rename_i u hu
  split at e
  ·rename_i hp; cases e; exact⟨qZ hu w,hp⟩
  ·cases e
 ·cases e
omit h ht in
theorem CW{r:Nat}{es:Array MapEntry}{c:Nat}(hb:w.heap[r]?=some (.map es c)):(getObj r).run P w=.ok (.map es c) w:=by
 simp [getObj,Sem.run,hb]
omit h ht in
theorem yj{r:Nat}{es:Array MapEntry}{c:Nat}(o:Obj)(hb:w.heap[r]?=some (.map es c)) :
  (setObj r o).run P w=.ok () { w with heap:=w.heap.setIfInBounds r o }:=by
 simp [setObj,Sem.run,hb]
omit h ht in
theorem uv{α β:Type}{r:Result α}{f g:α→World→Result β}(e:∀ a w,f a w=g a w):r.andThen f=r.andThen g:=by
 have:f=g:=by funext a w; exact e a w
 rw[this]
omit h ht in
theorem lookS_run{key elem:TypeId}{es:List MapEntry}{x:Value}{ok:Bool}{t:TypeId}{m:Value}(hu:P.underlying t=some (.map key elem))
  (hm:m=.map none∧es=[]∨∃ r c,m=.map (some r)∧w.heap[r]?=some (.map ⟨es⟩ c)) :
  (Instr.lookup t m x ok).run P w=(lookS key elem es x ok).run P w:=by
 rcases hm with⟨rfl,rfl⟩ | ⟨r,c,rfl,hb⟩
 ·simp only [Instr.lookup, lookS, Sem.run_bind, cx hu, Result.andThen_ok, Sem.run_pure]
  refine uv fun _ w1=>uv fun o w2=>?_
  cases o with
  | none=>simp only[Sem.run_bind,Sem.run_pure,Result.andThen_ok]
  | some q=>simp only[Sem.run_bind,Sem.run_pure,Result.andThen_ok]
 ·simp only [Instr.lookup, lookS, Sem.run_bind, cx hu, Result.andThen_ok, Sem.run_pure, CW hb]
  refine uv fun _ w1=>uv fun o w2=>?_
  cases o with
  | none=>simp only[Sem.run_bind,Sem.run_pure,Result.andThen_ok]
  | some q=>simp only[Sem.run_bind,Sem.run_pure,Result.andThen_ok]
omit ht in
theorem mapOf_ok{m m':Value}{es:List MapEntry}(hm:VR φ m m')(e:zZ st.H m=some es) :
  m'=.map none∧es=[]∨∃ r c,m'=.map (some r)∧w.heap[r]?=some (.map ⟨es⟩ c):=by
 unfold zZ at e
 split at e
 ·cases e; simp only[VR] at hm; exact .inl ⟨hm,rfl⟩
 ·rename_i r
  simp only[VR] at hm
  obtain⟨r',c',rfl,hp⟩:=hm
  split at e
  ·rename_i es' c hg
   cases e
   obtain⟨p,o,a,b,d⟩:=h.rel _ _ hg
   rw[hp] at a; cases a
   simp only[BR] at d
   subst d
   exact .inr ⟨r',c,rfl,b⟩
  ·cases e
 ·cases e
omit h ht in
theorem flatFs_check{xs:List Value}(em:Bool)(d:Nat):∀ {fs:List Field} {i:Nat},tj P fs i=true→i+fs.length≤xs.length →
  (forIn (m:=Sem) fs PUnit.unit fun f _=>do
   if f.name ≠ "_" then do
    Instr.checkKey em (d+1) f.type (← part f.type ⟨xs⟩ f.offset)
    pure (ForInStep.yield PUnit.unit)
   else pure (ForInStep.yield PUnit.unit)).run P w=.ok PUnit.unit w
 | [],i,_,_=>by simp
 | f::fs,i,hf,hl=>by
  simp only[tj] at hf
  split at hf
  ·rename_i k hn hu ha
   simp only[Bool.and_eq_true,bne_iff_ne,ne_eq,Nat.beq_eq] at hn
   obtain⟨hn,rfl⟩:=hn
   simp only[List.length_cons] at hl
   have hlt:f.offset<xs.length:=by omega
   have px:(part f.type ⟨xs⟩ f.offset).run P w=.ok xs[f.offset] w:=by simp [part,jy ha,hlt]
   have hc:(Instr.checkKey em (d+1) f.type xs[f.offset]).run P w=.ok () w:=by
    unfold Instr.checkKey
    simp only[Sem.run_bind,cx hu,Result.andThen_ok]
    rfl
   have ih:=flatFs_check (xs:=xs) em d hf (by omega)
   simp only[List.forIn_cons,Sem.run_bind,hn,ne_eq,not_false_eq_true,if_true,px,hc,Result.andThen_ok,Sem.run_pure]
   exact ih
  ·cases hf
omit h ht in
theorem quickFind_eq{k:TypeId}{fs:Array Field}{x:List Value}(hu:P.underlying k=some (.struct fs))(hp:P.stoodInHeld k=false)(hf:tj P fs.toList 0=true)(hl:fs.toList.length=x.length) :
  ∀ {es:List MapEntry} {i:Nat} {r:Option (Nat × Value)},iW x es i=some r→(Instr.findAsking k (.agg ⟨x⟩) es i).run P w=.ok r w
 | [],i,r,e=>by simp [iW] at e; simp [Instr.findAsking,← e]
 | e0::es,i,r,e=>by
  have hfo:P.fieldsOf k=fs:=by simp [Program.fieldsOf,hu]
  simp only[iW] at e
  split at e
  ·rename_i l hk
   have run:∀ {b:Bool},kz x l=some b→(Op.equal k (.agg ⟨x⟩) e0.key).run P w=.ok b w:=by
    intro b hb
    rw[hk,Op.equal,show Op.maxDepth=9998+1+1 from rfl,run_equalIn_struct w (9998+1) k _ _ (by rw[hfo]; exact hu) hp,hfo]
    exact QJ 9998 hf rfl rfl hl hb
   split at e
   ·rename_i hb
    cases e
    simp [Instr.findAsking,run hb]
   ·rename_i hb
    simp [Instr.findAsking,run hb,quickFind_eq hu hp hf hl e]
   ·cases e
  ·cases e
omit h ht in
theorem quickLook_eq{k:TypeId}{es:List MapEntry}{x:Value}{r:Option (Nat × Value)}(e:HX P k es x=some r)(em:Bool) :
  (Instr.checkKey em 10000 k x).run P w=.ok () w∧(Instr.findKey k x es).run P w=.ok r w:=by
 unfold HX at e
 split at e
 ·rename_i l
  split at e
  ·rename_i n hn
   obtain⟨fs,hu,hp,hf,hl⟩:=Oz hn
   split at e
   ·rename_i hb
    have hb:=Nat.eq_of_beq_eq_true hb
    constructor
    ·rw [show (10000 : Nat) = 9998 + 1 + 1 from rfl, Instr.checkKey]
     simp only[Sem.run_bind,cx hu,Result.andThen_ok]
     rw[← Array.forIn_toList]
     have:=flatFs_check (w:=w) (xs:=l) em 9998 hf (by omega)
     rw[this]
     rfl
    ·rw [run_findKey_eq w (by rw [hu])]
     exact quickFind_eq hu hp hf (by omega) e
   ·cases e
  ·cases e
 ·cases e
omit h ht in
theorem lookupQ_ok{key elem:TypeId}{es:List MapEntry}{x v:Value}{ok:Bool}(e:HY P key elem es x ok=some v):(lookS key elem es x ok).run P w=.ok v w∧bz v=true:=by
 unfold HY at e
 split at e
 ·rename_i r hr
  obtain⟨h1,h2⟩:=quickLook_eq (w:=w) hr (Array.isEmpty ⟨es⟩)
  simp only[lookS,Sem.run_bind,h1,h2,Result.andThen_ok]
  unfold NK at e
  split at e
  ·rename_i v'
   split at e
   ·rename_i hp
    cases e
    simp only[Sem.run_pure,true_and]
    cases ok
    ·exact hp
    ·simp [bz,lj,ek,hp]
   ·cases e
  ·split at e
   ·rename_i z hz
    obtain⟨hz1,hz2⟩:=jK hz w
    cases e
    simp only[Sem.run_bind,hz1,Result.andThen_ok,Sem.run_pure,true_and]
    cases ok
    ·exact hz2
    ·simp [bz,lj,ek,hz2]
   ·cases e
 ·exact pureO_ok e w
omit ht in
theorem lookupV_run{t:TypeId}{m x m' x' v:Value}{ok:Bool}(hm:VR φ m m')(hk:VR φ x x')(hv:fZ P st.H t m x ok=some v) :
  (Instr.lookup t m' x' ok).run P w=.ok v w∧VR φ v v:=by
 unfold fZ at hv
 split at hv
 ·rename_i key elem hty
  split at hv
  ·rename_i es hes hpk
   obtain⟨h1,h2⟩:=lookupQ_ok (w:=w) hv
   rw[bz.eq hpk hk,lookS_run (Ix hty) (mapOf_ok h hm hes)]
   exact⟨h1,bz.refl h2⟩
  ·cases hv
 ·cases hv
theorem lookup_ok{t:TypeId}{x y:Operand}{ok:Bool}{v:Value}(e:Yq P t x y ok st=some (v,st')) :
  Done P (ik (Instr.lookup t (a.eval x) (a.eval y) ok)) w₀ W φ w st v st':=by
 unfold Yq at e
 split at e
 ·rename_i m k hx hy
  have hm:=cJ ht hx
  have hk:=cJ ht hy
  refine Done.keep h e fun v hv=>?_
  unfold fZ at hv
  split at hv
  ·rename_i key elem hty
   split at hv
   ·rename_i es hes hpk
    obtain⟨h1,h2⟩:=lookupQ_ok (w:=w) hv
    rw[bz.eq hpk hk,lookS_run (Ix hty) (mapOf_ok h hm hes)]
    exact⟨v,h1,bz.refl h2⟩
   ·cases hv
  ·cases hv
 ·cases e
omit ht in
theorem makeMap_ok{t:TypeId}{v:Value}(e:Ey st=some (v,st')):Done P (ik (Instr.makeMap t none)) w₀ W φ w st v st':=by
 unfold Ey at e
 simp only[Option.some.injEq,Prod.mk.injEq] at e
 obtain⟨rfl,rfl⟩:=e
 refine⟨_,.map (some w.heap.size),{ w with heap:=w.heap.push (.map #[] 0) },.inl (gq ?_),h.ext_push (w.heap.size,0),h.push (b:=.map [] 0) rfl,?_,rfl,rfl⟩
 ·simp only[Instr.makeMap,newObj,Sem.run_bind,Sem.run,Result.andThen_ok,Sem.run_pure]
 ·simp only[VR]; exact⟨_,0,rfl,cW _ _ _⟩
omit h ht in
theorem updS_run{key elem:TypeId}{es es':List MapEntry}{c c':Nat}{x v:Value}{t:TypeId}{r:Nat}(hu:P.underlying t=some (.map key elem))
  (hb:w.heap[r]?=some (.map ⟨es⟩ c)) (e:cz P (updS key es c x v)=some (es',c')) :
  (Instr.mapUpdate t (.map (some r)) x v).run P w=.ok () { w with heap:=w.heap.setIfInBounds r (.map ⟨es'⟩ c') }:=by
 have h1:=qZ e w
 simp only[updS,Sem.run_bind] at h1
 simp only[Instr.mapUpdate,Sem.run_bind,cx hu,Result.andThen_ok,CW hb]
 generalize (Instr.checkKey false 10000 key x).run P w=q1 at h1 ⊢
 cases q1 with
 | ok _ w1=>
  simp only[Result.andThen_ok] at h1 ⊢
  generalize (Instr.findKey key x es).run P w1=q2 at h1 ⊢
  cases q2 with
  | ok o w2=>
   simp only[Result.andThen_ok] at h1 ⊢
   cases o with
   | none=>
    simp only[Sem.run_pure,Result.ok.injEq,Prod.mk.injEq] at h1
    obtain⟨⟨rfl,rfl⟩,rfl⟩:=h1
    simpa using yj (P:=P) (.map ⟨es++[{ key:=x,val:=v,born:=c }]⟩ (c+1)) hb
   | some iv=>
    obtain⟨i,u⟩:=iv
    simp only[Sem.run_bind] at h1 ⊢
    simp only[List.getElem?_toArray] at h1 ⊢
    generalize (Instr.keyThatStays ((Option.map (fun x=>x.key) es[i]?).getD x) x).run P w2=q3 at h1 ⊢
    cases q3 with
    | ok k w3=>
     simp only[Result.andThen_ok,Sem.run_pure,Result.ok.injEq,Prod.mk.injEq] at h1 ⊢
     obtain⟨⟨rfl,rfl⟩,rfl⟩:=h1
     simpa [modE] using yj (P:=P) (.map ⟨modE es i k v⟩ c) hb
    | _=>cases h1
  | _=>cases h1
 | _=>cases h1
omit h ht in
theorem entS_run{key elem:TypeId}{es es':List MapEntry}{c c':Nat}{x v:Value}{t:TypeId}{r:Nat}(hu:P.underlying t=some (.map key elem))
  (hb:w.heap[r]?=some (.map ⟨es⟩ c)) (e:cz P (entS key elem es c x)=some (v,es',c')) :
  (Instr.mapEntry t (.map (some r)) x).run P w=.ok v { w with heap:=w.heap.setIfInBounds r (.map ⟨es'⟩ c') }:=by
 have h1:=qZ e w
 simp only[entS,Sem.run_bind] at h1
 simp only[Instr.mapEntry,Sem.run_bind,cx hu,Result.andThen_ok,CW hb]
 generalize (Instr.checkKey false 10000 key x).run P w=q1 at h1 ⊢
 cases q1 with
 | ok _ w1=>
  simp only[Result.andThen_ok] at h1 ⊢
  generalize (Instr.findKey key x es).run P w1=q2 at h1 ⊢
  cases q2 with
  | ok o w2=>
   simp only[Result.andThen_ok] at h1 ⊢
   cases o with
   | none=>
    simp only[Sem.run_bind] at h1 ⊢
    generalize (zeroValue elem).run P w2=q3 at h1 ⊢
    cases q3 with
    | ok z w3=>
     simp only[Result.andThen_ok,Sem.run_pure,Result.ok.injEq,Prod.mk.injEq] at h1 ⊢
     obtain⟨⟨rfl,rfl,rfl⟩,rfl⟩:=h1
     have:=yj (P:=P) (.map ⟨es++[{ key:=x,val:=z,born:=c }]⟩ (c+1)) hb
     simp only[List.push_toArray,this,Result.andThen_ok]
    | _=>cases h1
   | some iv=>
    obtain⟨i,u⟩:=iv
    simp only[Sem.run_bind] at h1 ⊢
    simp only[List.getElem?_toArray] at h1 ⊢
    generalize (Instr.keyThatStays ((Option.map (fun x=>x.key) es[i]?).getD x) x).run P w2=q3 at h1 ⊢
    cases q3 with
    | ok k w3=>
     simp only[Result.andThen_ok,Sem.run_pure,Result.ok.injEq,Prod.mk.injEq] at h1 ⊢
     obtain⟨⟨rfl,rfl,rfl⟩,rfl⟩:=h1
     have:=yj (P:=P) (.map ⟨es.modify i fun e=>{ key:=k,val:=e.val,born:=e.born }⟩ c) hb
     simp only[List.modify_toArray,this,Result.andThen_ok]
    | _=>cases h1
  | _=>cases h1
 | _=>cases h1
omit ht in
theorem map_at{m':Value}{r:Nat}{es:List MapEntry}{c:Nat}(hm:VR φ (.map (some r)) m')(hg:st.H.get r=some (.map es c)) :
  ∃ r' cp,m'=.map (some r')∧φ r=some (r',cp)∧w.heap[r']?=some (.map ⟨es⟩ c):=by
 simp only[VR] at hm
 obtain⟨r',c',rfl,hp⟩:=hm
 obtain⟨p,o,a,b,d⟩:=h.rel _ _ hg
 rw[hp] at a; cases a
 simp only[BR] at d
 subst d
 exact⟨r',c',rfl,hp,b⟩
omit h ht in
theorem withH_inv{o:Option Hp}{v:Value}(e:withH o st=some (v,st')):∃ H,o=some H∧v=undef∧st'={ st with H }:=by
 cases o with
 | none=>cases e
 | some H=>simp only[withH,Option.some.injEq,Prod.mk.injEq] at e; exact⟨H,rfl,e.1.symm,e.2.symm⟩
theorem mapUpd_ok{t:TypeId}{x y z:Operand}{v:Value}(e:Yv P t x y z st=some (v,st')) :
  Done P (ZX (Instr.mapUpdate t (a.eval x) (a.eval y) (a.eval z))) w₀ W φ w st v st':=by
 unfold Yv at e
 split at e
 ·rename_i m k u hx hy hz
  have hm:=cJ ht hx
  have hk:=cJ ht hy
  have hu:=cJ ht hz
  obtain⟨H,hH,rfl,rfl⟩:=withH_inv e
  unfold vz at hH
  split at hH
  ·rename_i key elem r hty
   split at hH
   ·rename_i es c hg
    split at hH
    ·rename_i hp
     rw[Bool.and_eq_true] at hp
     split at hH
     ·rename_i es' c' hs
      cases hH
      obtain⟨r',cp,h1,h2,h3⟩:=map_at h hm hg
      rw[h1,bz.eq hp.1 hk,bz.eq hp.2 hu]
      exact⟨φ,undef,_,.inr ⟨Kj (updS_run (Ix hty) h3 hs),rfl⟩,Ext.refl _ _,h.put (p:=(r',cp)) hg h2 rfl rfl,bz.refl rfl,rfl,rfl⟩
     ·cases hH
    ·cases hH
   ·cases hH
  ·cases hH
 ·cases e
theorem mapEnt_ok{t:TypeId}{x y:Operand}{v:Value}(e:Yw P t x y st=some (v,st')) :
  Done P (ik (Instr.mapEntry t (a.eval x) (a.eval y))) w₀ W φ w st v st':=by
 unfold Yw at e
 split at e
 ·rename_i m k hx hy
  have hm:=cJ ht hx
  have hk:=cJ ht hy
  split at e
  ·rename_i u H hH
   simp only[Option.some.injEq,Prod.mk.injEq] at e
   obtain⟨rfl,rfl⟩:=e
   unfold mapEntV at hH
   split at hH
   ·rename_i key elem r hty
    split at hH
    ·rename_i es c hg
     split at hH
     ·rename_i hp
      split at hH
      ·rename_i v' es' c' hs
       split at hH
       ·rename_i hpv
        simp only[Option.some.injEq,Prod.mk.injEq] at hH
        obtain⟨rfl,rfl⟩:=hH
        obtain⟨r',cp,h1,h2,h3⟩:=map_at h hm hg
        rw[h1,bz.eq hp hk]
        exact⟨φ,v',_,.inl (gq (entS_run (Ix hty) h3 hs)),Ext.refl _ _,h.put (p:=(r',cp)) hg h2 rfl rfl,bz.refl hpv,rfl,rfl⟩
       ·cases hH
      ·cases hH
     ·cases hH
    ·cases hH
   ·cases hH
  ·cases e
 ·cases e
theorem entSt_ok{t:TypeId}{x y z:Operand}{v:Value}(e:oEntSt x y z st=some (v,st')) :
  Done P (ZX (Instr.entryStore t (a.eval x) (a.eval y) (a.eval z))) w₀ W φ w st v st':=by
 unfold oEntSt at e
 split at e
 ·rename_i m k u hx hy hz
  have hm:=cJ ht hx
  have hk:=cJ ht hy
  have hu:=cJ ht hz
  obtain⟨H,hH,rfl,rfl⟩:=withH_inv e
  unfold entStV at hH
  split at hH
  ·rename_i r kd b
   split at hH
   ·rename_i es c hg
    split at hH
    ·rename_i hp
     split at hH
     ·rename_i i hi
      cases hH
      obtain⟨r',cp,h1,h2,h3⟩:=map_at h hm hg
      simp only[VR] at hk
      rw[h1,hk,bz.eq hp hu]
      refine⟨φ,undef,_,.inr ⟨Kj ?_,rfl⟩,Ext.refl _ _,h.put (p:=(r',cp)) hg h2 rfl rfl,bz.refl rfl,rfl,rfl⟩
      have:=yj (P:=P) (.map ⟨es.modify i fun e=>{ key:=e.key,val:=u,born:=e.born }⟩ c) h3
      simp only[Instr.entryStore,Sem.run_bind,CW h3,Result.andThen_ok,asInt,asIntOf,Sem.run_pure,List.findIdx?_toArray,hi,List.modify_toArray,this]
     ·cases hH
    ·cases hH
   ·cases hH
  ·cases hH
 ·cases e
theorem aOp_ok(o:Oper){v:Value}(e:aOp P o.op o.type st=some (v,st')):Done P (execOp a.eval o) w₀ W φ w st v st':=by
 obtain⟨dst,op,type,pos,after,guard⟩:=o
 simp only at e
 cases op with
 | move x=>obtain⟨h1,rfl⟩:=Aj e; exact Done.same h rfl (cJ ht h1)
 | assign x=>obtain⟨h1,rfl⟩:=Aj e; exact Done.same h rfl (cJ ht h1)
 | pick c x y=>exact pick_ok h ht e
 | alloc t=>exact alloc_ok h e
 | box t x=>exact box_ok h ht e
 | build t ps=>exact build_ok h ht e
 | buildSlice t n ps=>exact buildSlice_ok h ht e
 | load t x=>exact load_ok h ht e
 | store t x y=>exact store_ok h ht e
 | nilCheck x=>exact nilCheck_ok h ht _ rfl e
 | binOp op t x y t2=>exact bin_ok h ht e
 | unOp op t x=>exact un_ok h ht e
 | convert s d x=>exact convert_ok h ht e
 | makeFunc f x y=>exact makeFunc_ok h ht e
 | makeSlice t x y=>exact makeSlice_ok h ht e
 | slice t x lo hi mx=>cases mx with
  | none=>exact slice_ok h ht e
  | some m=>simp [aOp] at e
 | fieldAddr t x f=>exact fieldAddr_ok h ht e
 | field t x f=>exact field_ok h ht e
 | indexAddr t x i=>exact indexAddr_ok h ht e
 | index t x i=>exact index_ok h ht e
 | extract x i=>exact extract_ok h ht e
 | call c=>
  simp only[aOp,Vk] at e
  obtain⟨cal,args,tys⟩:=c
  cases cal with
  | value f=>cases e
  | invoke r m=>cases e
  | builtin b=>
   cases b with
   | len=>exact len_ok h ht e
   | append=>exact append_op_ok h ht e
   | copy=>exact copy_ok h ht e
   | min=>exact minmax_ok h ht (b:=.min) e
   | max=>exact minmax_ok h ht (b:=.max) e
   | _=>simp [oK] at e
 | makeMap t r=>cases r with
  | none=>exact makeMap_ok h e
  | some m=>simp [aOp] at e
 | lookup t x y ok=>exact lookup_ok h ht e
 | mapUpdate t x y z=>exact mapUpd_ok h ht e
 | mapEntry t x y=>exact mapEnt_ok h ht e
 | entryStore t x y z=>exact entSt_ok h ht e
 | _=>simp [aOp] at e
end
end Go.Ev
end
section
namespace Go.Ev
open Go
variable {P:Program}
def fr(f:FuncId)(t:Array Value)(k:List Item)(ds:List Deferred)(kd:CallKind)(ro:Option Nat):Frame:=
 { fn:=f,tmps:=t,todo:=k,defers:=ds,mode:=.run,kind:=kd,roundOf:=ro }
theorem fr_eval(f:FuncId)(t:Array Value)(k:List Item)(ds:List Deferred)(kd:CallKind)(ro:Option Nat)(x:Operand) :
  (fr f t k ds kd ro).eval x=(⟨t,[]⟩:Act).eval x:=by cases x <;> rfl
section
variable {f:FuncId} {t:Array Value} {k:List Item} {ds:List Deferred} {kd:CallKind} {ro:Option Nat} {cs:List Frame} {w:World}
theorem st_skip:step P (lone (fr f t (.code .skip::k) ds kd ro) cs w)=.next (lone (fr f t k ds kd ro) cs w):=step_lone_go (by simp [stepG,stepG.exec,fr])
theorem st_label{l:Nat}:step P (lone (fr f t (.code (.label l)::k) ds kd ro) cs w)=.next (lone (fr f t k ds kd ro) cs w):=step_lone_go (by simp [stepG,stepG.exec,fr])
theorem st_inBlock{l:Nat}:step P (lone (fr f t (.inBlock l::k) ds kd ro) cs w)=.next (lone (fr f t k ds kd ro) cs w):=step_lone_go (by simp [stepG,stepG.exec,fr])
theorem st_inScope{c:Code}:step P (lone (fr f t (.inScope c::k) ds kd ro) cs w)=.next (lone (fr f t k ds kd ro) cs w):=step_lone_go (by simp [stepG,stepG.exec,fr])
theorem st_seq{x y:Code}:step P (lone (fr f t (.code (.seq x y)::k) ds kd ro) cs w)=.next (lone (fr f t (.code x::.code y::k) ds kd ro) cs w):=step_lone_go (by simp [stepG,stepG.exec,fr])
theorem OY{id:Nat}{c:Code}:step P (lone (fr f t (.code (.block id c)::k) ds kd ro) cs w)=.next (lone (fr f t (.code c::.inBlock id::k) ds kd ro) cs w):=step_lone_go (by simp [stepG,stepG.exec,fr])
theorem st_scope{c:Code}:step P (lone (fr f t (.code (.scope c)::k) ds kd ro) cs w)=.next (lone (fr f t (.code c::.inScope c::k) ds kd ro) cs w):=step_lone_go (by simp [stepG,stepG.exec,fr])
theorem Iy{c:Code}:step P (lone (fr f t (.code (.loop c)::k) ds kd ro) cs w)=.next (lone (fr f t (.code c::.inLoop c::k) ds kd ro) cs w):=step_lone_go (by simp [stepG,stepG.exec,fr])
theorem st_inLoop{c:Code}:step P (lone (fr f t (.inLoop c::k) ds kd ro) cs w)=.next (lone (fr f t (.code c::.inLoop c::k) ds kd ro) cs w):=step_lone_go (by simp [stepG,stepG.exec,fr])
theorem st_cond{c:Operand}{x y:Code}{b:Bool}(h:(⟨t,[]⟩:Act).eval c=.bool b) :
  step P (lone (fr f t (.code (.cond c x y)::k) ds kd ro) cs w)=.next (lone (fr f t (.code (if b then x else y)::k) ds kd ro) cs w):=
 step_lone_go (by
  have:=fr_eval f t (.code (.cond c x y)::k) ds kd ro c
  simp only[fr] at this
  simp [stepG,stepG.exec,fr,this,h])
theorem st_exit{id:Nat}{k':List Item}(h:exitTo id k=some k') :
  step P (lone (fr f t (.code (.exit id)::k) ds kd ro) cs w)=.next (lone (fr f t k' ds kd ro) cs w):=step_lone_go (by simp [stepG,stepG.exec,fr,h])
theorem st_region{id:Nat}{ops:Array Oper} :
  step P (lone (fr f t (.code (.region id ops false)::k) ds kd ro) cs w)=.next (lone (fr f t (.inRegion ops (List.range ops.size)::k) ds kd ro) cs w):=step_lone_go (by simp [stepG,stepG.exec,fr])
theorem st_region_draw{id:Nat}{ops:Array Oper} :
  step P (lone (fr f t (.code (.region id ops true)::k) ds kd ro) cs w) =
   .next (lone (fr f t (.inRegion ops (Region.schedule (P.follows .mixedOrders) ops (w.tape w.drawn (.order f id)))::k) ds kd ro) cs { w with drawn:=w.drawn+1 }):=
 step_lone_go (by simp [stepG,stepG.exec,fr,choose,Sem.run,Question.forced,Question.cut])
theorem zk{ops:Array Oper}:step P (lone (fr f t (.inRegion ops []::k) ds kd ro) cs w)=.next (lone (fr f t k ds kd ro) cs w):=step_lone_go (by simp [stepG,stepG.exec,fr])
theorem wy{ops:Array Oper}{i:Nat}{rest:List Nat}{o:Oper}(ho:ops[i]?=some o)(v:Value) :
  (fr f t (.inRegion ops (i::rest)::k) ds kd ro).finish v=fr f ((⟨t,[]⟩:Act).put o.dst v).tmps (.inRegion ops rest::k) ds kd ro:=by
 simp only[Frame.finish,fr,ho,Option.bind_some,Act.put]
 cases o.dst <;> rfl
theorem Ux{ops:Array Oper}{i:Nat}{rest:List Nat}{o:Oper}(ho:ops[i]?=some o)(hw:Region.wanted o (yielded ops t)=true)(hd:∀ c,o.op≠.defer c) :
  stepG P true { frame:=fr f t (.inRegion ops (i::rest)::k) ds kd ro,callers:=cs,status:=.running,dying:=none } w =
   stepG.apply P true (fr f t (.inRegion ops (i::rest)::k) ds kd ro) cs none (execOp (⟨t,[]⟩:Act).eval o) w:=by
 have he:(fr f t (.inRegion ops (i::rest)::k) ds kd ro).eval=(⟨t,[]⟩:Act).eval:=funext (fr_eval f t _ ds kd ro)
 simp only[fr] at *
 simp only[stepG,stepG.exec,ho,Option.map_some,hw,Option.getD_some,if_true,stepG.oper,Frame.oper?,he]
 split
 ·rename_i h1 h2; exact absurd h2 (hd _)
 ·rfl
theorem rv{ops:Array Oper}{i:Nat}{rest:List Nat}{o:Oper}{v:Value}{w':World}(ho:ops[i]?=some o)(hw:Region.wanted o (yielded ops t)=true)(hd:∀ c,o.op≠.defer c)
  (hr:(execOp (⟨t,[]⟩:Act).eval o).run P w=.ok (.value v) w'∨((execOp (⟨t,[]⟩:Act).eval o).run P w=.ok .skip w'∧v=undef)) :
  step P (lone (fr f t (.inRegion ops (i::rest)::k) ds kd ro) cs w)=.next (lone (fr f ((⟨t,[]⟩:Act).put o.dst v).tmps (.inRegion ops rest::k) ds kd ro) cs w'):=by
 refine step_lone_go ?_
 rw[Ux ho hw hd,← wy ho]
 rcases hr with hr | ⟨hr,rfl⟩ <;> simp [stepG.apply,hr]
theorem st_op_enter{ops:Array Oper}{i:Nat}{rest:List Nat}{o:Oper}{g:FuncId}{args:Array Value}{w':World}(ho:ops[i]?=some o)(hw:Region.wanted o (yielded ops t)=true)(hd:∀ c,o.op≠.defer c)
  (hr:(execOp (⟨t,[]⟩:Act).eval o).run P w=.ok (.enter g args) w') :
  step P (lone (fr f t (.inRegion ops (i::rest)::k) ds kd ro) cs w)=.next (lone (Frame.enter P g args .normal) (fr f t (.inRegion ops (i::rest)::k) ds kd ro::cs) w'):=by
 refine step_lone_go ?_
 rw[Ux ho hw hd]
 simp [stepG.apply,hr,fr]
theorem st_op_round{ops:Array Oper}{i:Nat}{rest:List Nat}{o:Oper}{l g:Nat}{tm:Array Value}{aS bd:Code}{w':World}(ho:ops[i]?=some o)(hw:Region.wanted o (yielded ops t)=true)(hd:∀ c,o.op≠.defer c)
  (hr:(execOp (⟨t,[]⟩:Act).eval o).run P w=.ok (.round l g tm aS bd) w') :
  step P (lone (fr f t (.inRegion ops (i::rest)::k) ds kd ro) cs w)=.next (lone (Frame.round l g tm aS bd .normal) (fr f t (.inRegion ops (i::rest)::k) ds kd ro::cs) w'):=by
 refine step_lone_go ?_
 rw[Ux ho hw hd]
 simp [stepG.apply,hr]
theorem MV{ops:Array Oper}{i:Nat}{rest:List Nat}{o:Oper}(ho:ops[i]?=some o)(hw:Region.wanted o (yielded ops t)=false) :
  step P (lone (fr f t (.inRegion ops (i::rest)::k) ds kd ro) cs w)=.next (lone (fr f ((⟨t,[]⟩:Act).put o.dst undef).tmps (.inRegion ops rest::k) ds kd ro) cs w):=by
 refine step_lone_go ?_
 rw[← wy ho]
 simp [stepG,stepG.exec,fr,ho,hw]
theorem st_leave{kd:CallKind}:step P (lone (fr f t [] ds kd none) cs w)=.next (lone { fr f t [] ds kd none with mode:=.returning } cs w):=
 step_lone_go (by simp [stepG,stepG.exec,fr])
theorem st_leave_ret{kd:CallKind}:step P (lone (fr f t (.code .ret::k) ds kd none) cs w)=.next (lone { fr f t (.code .ret::k) ds kd none with mode:=.returning } cs w):=
 step_lone_go (by simp [stepG,stepG.exec,fr])
theorem st_unwind{r:Nat}{w':World}(h:(Instr.takeDeferred r).run P w=.ok [] w') :
  step P (lone { fr f t k ({ target:=.collected r,args:=#[] }::ds) kd ro with mode:=.returning } cs w)=.next (lone { fr f t k ds kd ro with mode:=.returning } cs w'):=
 step_lone_go (by simp [stepG,unwind,fr,h])
theorem st_return{fn:Func}{v:Value}{c:Frame}(hf:P.funcs[f]?=some fn)(h:(results fn t).run P w=.ok v w) :
  step P (lone { fr f t k [] .normal ro with mode:=.returning } (c::cs) w)=.next (lone (c.finish v) cs w):=
 step_lone_go (by simp [stepG,unwind,fr,hf,h,doReturn])
theorem st_begin{l:Nat}{w':World}(h:(Instr.beginRound l).run P w=.ok () w') :
  step P (lone (fr f t (.beginRound::k) ds kd (some l)) cs w)=.next (lone (fr f t k ds kd (some l)) cs w'):=
 step_lone_go (by simp [stepG,stepG.exec,stepG.apply,fr,h,Frame.finish])
theorem st_round_end{l:Nat}{v:Value}{w':World}{c:Frame}(h:(Instr.endRound l none).run P w=.ok v w') :
  step P (lone (fr f t [] ds .normal (some l)) (c::cs) w)=.next (lone (c.finish v) cs w'):=
 step_lone_go (by simp [stepG,stepG.exec,fr,h,doReturn])
theorem st_round_exit{l id:Nat}{v:Value}{w':World}{c:Frame}(hx:exitTo id k=none)(h:(Instr.endRound l (some (.exit id))).run P w=.ok v w') :
  step P (lone (fr f t (.code (.exit id)::k) ds .normal (some l)) (c::cs) w)=.next (lone (c.finish v) cs w'):=
 step_lone_go (by simp [stepG,stepG.exec,fr,hx,h,doReturn])
theorem st_round_ret{l:Nat}{v:Value}{w':World}{c:Frame}(h:(Instr.endRound l (some .ret)).run P w=.ok v w') :
  step P (lone (fr f t (.code .ret::k) ds .normal (some l)) (c::cs) w)=.next (lone (c.finish v) cs w'):=
 step_lone_go (by simp [stepG,stepG.exec,fr,h,doReturn])
theorem st_range{x:Operand}{ps:Array Tmp}{aS bd:Code}{l g:Nat}{mark:List Deferred}{first cap:Array Value}{w':World}{fn:Func}{c:Code}
  (h:(Instr.enterLoop f t ps aS bd ro).run P w=.ok (l,mark) w') (hx:(⟨t,[]⟩:Act).eval x=.func (.func g) first cap)
  (hf : P.funcs[g]? = some fn) (hb : fn.body = some c) (hn : (fn.name == "runtime.NumGoroutine") = false) :
  step P (lone (fr f t (.code (.rangeFunc x ps aS bd)::k) ds kd ro) cs w) =
   .next (lone (Frame.enter P g (first++#[.func (.yield l) #[] #[]]++cap) .normal) (fr f t (.inRangeFunc l::k) (mark++ds) kd ro::cs) w'):=by
 refine step_lone_go ?_
 have he:=fr_eval f t (.inRangeFunc l::k) (mark++ds) kd ro x
 simp only[fr] at he
 have hn' : ¬ fn.name = "runtime.NumGoroutine" := by simpa using hn
 have e2:Frame.eval { fn:=f,tmps:=t,todo:=.inRangeFunc l::k,defers:=mark++ds,mode:=.run,kind:=kd,roundOf:=ro } (.const (.func (.yield l) #[] #[]))=.func (.yield l) #[] #[]:=rfl
 simp [stepG,stepG.exec,fr,h,stepG.apply,resolve,he,hx,Deferred.ofValue,invoke,callFunc,hf,hn',hb,e2]
theorem st_range_end{l:Nat}{jump:Option Code}{w':World}(h:(Instr.endLoop l).run P w=.ok jump w') :
  step P (lone (fr f t (.endRangeFunc l::k) ds kd ro) cs w)=.next (lone (fr f t ((jump.map Item.code).toList++k) ds kd ro) cs w'):=
 step_lone_go (by simp [stepG,stepG.exec,fr,h])
end
end Go.Ev
end
section
namespace Go.Ev
open Go
variable {P:Program} {w₀:World} {W:Sets} {φ:Phi} {st st':St} {w:World} {H:Hp} {n:Nat}
def DR(φ:Phi):List Nat→List Deferred→Prop
 | [],ds=>ds=[]
 | i::D,ds=>∃ p ds',ds={ target:=.collected p.1,args:=#[] }::ds'∧φ i=some p∧DR φ D ds'
theorem DR.mono{φ ψ:Phi}(h:φ.le ψ):∀ {D:List Nat} {ds:List Deferred},DR φ D ds→DR ψ D ds
 | [],_,k=>k
 | _::_,_,k=>let ⟨p,ds',e,f,g⟩:=k; ⟨p,ds',e,h _ _ f,DR.mono h g⟩
def RO(φ:Phi):Option Nat→Option Nat→Prop
 | none,r=>r=none
 | some l,r=>∃ l' c,r=some l'∧φ l=some (l',c)
theorem RO.mono{φ ψ:Phi}(h:φ.le ψ){r r':Option Nat}(k:RO φ r r'):RO ψ r r':=by
 cases r with
 | none=>exact k
 | some l=>obtain⟨l',c,e,f⟩:=k; exact⟨l',c,e,h _ _ f⟩
def Goes(P:Program)(m:Machine)(f:FuncId)(t:Array Value)(k:List Item)(ds:List Deferred)(kd:CallKind)(ro:Option Nat)(cs:List Frame)(w:World):Ex→Prop
 | .norm=>Steps P m (lone (fr f t k ds kd ro) cs w)
 | .exit id=>∃ kk,exitTo id kk=exitTo id k∧Steps P m (lone (fr f t (.code (.exit id)::kk) ds kd ro) cs w)
 | .ret=>∃ kk,Steps P m (lone (fr f t (.code .ret::kk) ds kd ro) cs w)
theorem Goes.of_steps{m m₁:Machine}{f:FuncId}{t:Array Value}{k:List Item}{ds:List Deferred}{kd:CallKind}{ro:Option Nat}{cs:List Frame}{ex:Ex}
  (h:Steps P m m₁) (g:Goes P m₁ f t k ds kd ro cs w ex):Goes P m f t k ds kd ro cs w ex:=by
 cases ex with
 | norm=>exact h.trans g
 | exit id=>obtain⟨kk,e,s⟩:=g; exact⟨kk,e,h.trans s⟩
 | ret=>obtain⟨kk,s⟩:=g; exact⟨kk,h.trans s⟩
structure S (w₀:World) (W:Sets) (φ:Phi) (st:St) (N:Nat) (t:Array Value) (ds:List Deferred) (w:World):Prop where
 i:I w₀ W φ st.H st.n w
 tr:TR φ st.T t
 sz:t.size=N
 d:DR φ st.D ds
def tY(P:Program)(ro:Option Nat)(f:FuncId)(c:Code)(st:St)(ex:Ex)(st':St):Prop:=
 ∀(w₀:World) (W:Sets) (φ:Phi) (w:World) (t:Array Value) (ds:List Deferred) (kd:CallKind) (k:List Item) (cs:List Frame) (ro':Option Nat),
  S w₀ W φ st (ntm P f) t ds w→RO φ ro ro' →
  ∃ φ' w' t' ds',Ext φ st.n φ' st'.n∧S w₀ W φ' st' (ntm P f) t' ds' w'∧Goes P (lone (fr f t (.code c::k) ds kd ro') cs w) f t' k ds' kd ro' cs w' ex
def Snd(P:Program)(rec:Rec):Prop:=∀ ro f c st ex st',rec ro f c st=some (ex,st')→tY P ro f c st ex st'
def CallOk(P:Program)(fr0:World→List Value→Frame)(args:List Value)(st:St)(v:Value)(st':St):Prop:=
 ∀(w₀:World) (W:Sets) (φ:Phi) (w:World) (args':List Value) (c:Frame) (cs:List Frame),
  I w₀ W φ st.H st.n w→VRL φ args args' →
  ∃ φ' w' v',Ext φ st.n φ' st'.n∧I w₀ W φ' st'.H st'.n w'∧VR φ' v v'∧Steps P (lone (fr0 w args') (c::cs) w) (lone (c.finish v') cs w')
theorem TR.nil{t:Array Value}:TR φ .nil t:=fun i v e=>by rw[Tr.get_nil] at e; cases e
theorem TR.put{T:Tm}{t:Array Value}{d:Nat}{v v':Value}(h:TR φ T t)(hd:d<t.size)(hv:VR φ v v'):TR φ (T.set d (some v)) (t.setIfInBounds d v'):=by
 intro i u e
 rw[Tr.get_set] at e
 split at e
 ·rename_i x; subst x; cases e; exact⟨v',by simp [hd],hv⟩
 ·rename_i x
  obtain⟨u',a,b⟩:=h i u e
  exact⟨u',by rw[Array.getElem?_setIfInBounds_ne (fun y=>x y.symm)]; exact a,b⟩
theorem args_ok:∀ {args args':List Value} {T:Tm} {i:Nat} {pre:List Value} (tail:List Value),VRL φ args args'→pre.length=i→TR φ T ⟨pre++args'++tail⟩→TR φ (pj T i args) ⟨pre++args'++tail⟩
 | [],args',T,i,pre,tail,h,_,ht=>by simpa [pj] using ht
 | v::l,args',T,i,pre,tail,h,hi,ht=>by
  simp only[VRL] at h
  obtain⟨v',r',rfl,hv,hr⟩:=h
  simp only[pj]
  have e:pre++v'::r'++tail=(pre++[v'])++r'++tail:=by simp
  rw[e]
  refine args_ok tail hr (by simp [hi]) ?_
  rw[← e]
  intro j u hu
  rw[Tr.get_set] at hu
  split at hu
  ·rename_i x; subst x; cases hu
   refine⟨v',?_,hv⟩
   simp [← hi]
  ·exact ht j u hu
def resOne(t:Array Value):ResultVar→Sem Value
 | .tmp x=>pure (t.getD x undef)
 | .cell a ty=>do loadVar ty (← asAddr (t.getD a undef))
theorem resV_ok(h:I w₀ W φ H n w){T:Tm}{t:Array Value}(ht:TR φ T t):∀ {l:List ResultVar} {vs:List Value},resV P T H l=some vs →
  ∃ vs',VRL φ vs vs'∧(l.mapM (m:=Sem) (resOne t)).run P w=.ok vs' w
 | [],vs,e=>by simp [resV] at e; subst e; exact⟨[],VRL.nil,by simp⟩
 | r::l,vs,e=>by
  simp only[resV] at e
  split at e
  ·cases e
  ·rename_i v hv
   split at e
   ·cases e
   ·rename_i us hus
    cases e
    obtain⟨us',h1,h2⟩:=resV_ok h ht hus
    have one:∃ v',VR φ v v'∧(resOne t r).run P w=.ok v' w:=by
     cases r with
     | tmp x=>
      simp only at hv
      obtain⟨v',a,b⟩:=ht x v hv
      exact⟨v',b,by simp [resOne,Array.getD_eq_getD_getElem?,a]⟩
     | cell x ty=>
      simp only at hv
      split at hv
      ·rename_i ad hx
       obtain⟨v0,a,b⟩:=ht x _ hx
       simp only[VR] at b
       obtain⟨ad',rfl,har⟩:=b
       obtain⟨v',c,d⟩:=ZW (P:=P) h har hv
       exact⟨v',c,by simp [resOne,Array.getD_eq_getD_getElem?,a,asAddr,d]⟩
      ·cases hv
    obtain⟨v',c,d⟩:=one
    exact⟨v'::us',VRL.cons c h1,by simp only[List.mapM_cons,Sem.run_bind,d,Result.andThen_ok,h2,Sem.run_pure]⟩
theorem results_ok{fn:Func}(h:I w₀ W φ H n w){T:Tm}{t:Array Value}(ht:TR φ T t){vs:List Value}(e:resV P T H fn.results.toList=some vs) :
  ∃ v',VR φ (oneV vs) v'∧(results fn t).run P w=.ok v' w:=by
 obtain⟨vs',h1,h2⟩:=resV_ok (P:=P) h ht e
 refine⟨oneV vs',?_,?_⟩
 ·match vs, vs', h1 with
  | [],vs',h1=>simp only[VRL] at h1; subst h1; simp only[oneV,VR]; exact⟨_,rfl,VRL.nil (φ:=φ)⟩
  | [v],vs',h1=>
   simp only[VRL] at h1; obtain⟨v',r',rfl,hv,rfl⟩:=h1; exact hv
  | v::u::l,vs',h1=>
   have h1':=h1
   simp only[VRL] at h1; obtain⟨v',r',rfl,hv,u',r2,rfl,hu,hr⟩:=h1
   simp only[oneV,VR]; exact⟨_,rfl,by simpa only [VRA] using h1'⟩
 ·have e1 : results fn t = (do let vs ← fn.results.mapM (resOne t); pure (if h : vs.size = 1 then vs[0] else .tuple vs)) := by
   unfold results
   congr 1
  rw[e1,Array.mapM_eq_mapM_toList]
  simp only[Sem.run_bind,Sem.run_map,h2,Result.andThen_ok,Sem.run_pure]
  congr 1
  match vs' with
  | []=>rfl
  | [v]=>rfl
  | v::u::l=>simp [oneV]
end Go.Ev
end
section
namespace Go.Ev
open Go
variable {P:Program} {w₀:World} {W:Sets} {φ:Phi} {st st':St} {w:World} {H:Hp} {n:Nat} {rec:Rec}
theorem I.void(h:I w₀ W φ H n w){i:Nat}{b:Blk}{o':Obj}{p:Nat × Nat}(hi:H.get i=some b)(hp:φ i=some p)(hr:b.ro=false)(hf:frOb (some o')=(0,0):=by rfl)(hfam:b.isFam=false:=by rfl) :
  I w₀ W φ (H.set i none) n { w with heap:=w.heap.setIfInBounds p.1 o' }:=by
 have hk:=h.kill i
 have hold:∃ o,w.heap[p.1]?=some o∧frOb (some o)=(0,0):=by
  obtain⟨q,o,f,g,k⟩:=h.rel i b hi
  rw[hp] at f; cases f
  exact⟨o,g,k.fr hr⟩
 obtain⟨o0,hold1,hold2⟩:=hold
 refine⟨fun j q e=>h.dom j q e,?_,hk.inj,?_,by simpa using h.size,hk.wr,hk.src,h.os,h.tape,h.output,ZQ h hold1 hold2 hf⟩
 ·intro j c e
  obtain⟨q,o,f,g,k⟩:=hk.rel j c e
  have hj:j≠i:=by
   intro x; subst x; rw[Tr.get_set,if_pos rfl] at e; cases e
  have e':H.get j=some c:=by rw[Tr.get_set,if_neg hj] at e; exact e
  refine⟨q,o,f,?_,k⟩
  have ne:p.1≠q.1:=fun y=>hj (h.inj' hi e' hp f y hfam).symm
  show(w.heap.setIfInBounds p.1 o')[q.1]?=_
  rw[Array.getElem?_setIfInBounds_ne ne]; exact g
 ·intro c hc nc
  have ne:p.1≠c:=by
   intro y; subst y
   rcases h.wr i b p hi hr hp with a | a
   ·exact nc a
   ·omega
  show(w.heap.setIfInBounds p.1 o')[c]?=_
  rw[Array.getElem?_setIfInBounds_ne ne]; exact h.keep c hc nc
theorem run_getObj{r:Nat}{o:Obj}(h:w.heap[r]?=some o)(hc:∀ a b c,o≠.cells a b c):(getObj r).run P w=.ok o w:=by
 simp only[getObj,Sem.run,h]
theorem CX{r:Nat}{o o':Obj}(h:w.heap[r]?=some o)(hc:∀ a b c,o≠.cells a b c):(setObj r o').run P w=.ok () { w with heap:=w.heap.setIfInBounds r o' }:=by
 simp only[setObj,Sem.run,h]
theorem Uy{f:FuncId}{t:Array Value}{k:List Item}{kd:CallKind}{ro:Option Nat}{cs:List Frame}:∀ {D:List Nat} {ds:List Deferred} {H H':Hp} {w:World},
  I w₀ W φ H n w→DR φ D ds→Dz H D=some H' →
  ∃ w',I w₀ W φ H' n w'∧Steps P (lone { fr f t k ds kd ro with mode:=.returning } cs w) (lone { fr f t k [] kd ro with mode:=.returning } cs w')
 | [],ds,H,H',w,h,hd,e=>by
  simp only[DR] at hd; subst hd
  simp [Dz] at e; subst e
  exact⟨w,h,.refl _ _⟩
 | i::D,ds,H,H',w,h,hd,e=>by
  simp only[DR] at hd
  obtain⟨p,ds',rfl,hp,hd⟩:=hd
  simp only[Dz] at e
  split at e
  ·rename_i hi
   obtain⟨q,o,f1,g,k1⟩:=h.rel i _ hi
   rw[hp] at f1; cases f1
   simp only[BR] at k1; subst k1
   have h2:=h.void (o':=.deferred none) hi hp rfl
   obtain⟨w',h3,s⟩:=Uy (f:=f) (t:=t) (k:=k) (kd:=kd) (ro:=ro) (cs:=cs) h2 hd e
   refine⟨w',h3,.head (st_unwind ?_) s⟩
   have nc:∀ a b c,Obj.deferred (some [])≠.cells a b c:=fun a b c x=>by cases x
   simp only[Instr.takeDeferred,Sem.run_bind,run_getObj g nc,Result.andThen_ok,CX g nc,Sem.run_pure]
  ·cases e
theorem qgk{f:FuncId}{fn:Func}{c:Code}{args:Array Value}(hf:P.funcs[f]?=some fn)(hb:fn.body=some c) :
  Frame.enter P f args .normal=fr f (args++Array.replicate (fn.ntmps-args.size) undef) [.code c] [] .normal none:=by
 simp [Frame.enter,fr,hf,hb]
theorem ntm_eq{f:FuncId}{fn:Func}(hf:P.funcs[f]?=some fn):ntm P f=fn.ntmps:=by simp [ntm,hf]
theorem callB_ok(hs : Snd P rec){f : FuncId}{args : List Value}{v : Value}(e : Jw P rec f args st = some (v, st')) :
  CallOk P (fun _ args' => Frame.enter P f ⟨args'⟩ .normal) args st v st' ∧ (∃ fn c, P.funcs[f]? = some fn ∧ fn.body = some c ∧ (fn.name == "runtime.NumGoroutine") = false) ∧ st'.T = st.T ∧ st'.D = st.D := by
 unfold Jw at e
 split at e
 ·cases e
 ·rename_i fn hf
  split at e
  ·cases e
  ·rename_i c hb
   split at e
   ·cases e
   ·rename_i hcond
    simp only[Bool.or_eq_true,not_or,Bool.not_eq_true] at hcond
    obtain⟨hname,hlt⟩:=hcond
    have hlt:args.length≤fn.ntmps:=by simpa using hlt
    split at e
    ·cases e
    ·rename_i ex s hne hrec
     split at e
     ·cases e
     ·rename_i H' hH
      split at e
      ·cases e
      ·rename_i vs hvs
       simp only[Option.some.injEq,Prod.mk.injEq] at e
       obtain⟨rfl,rfl⟩:=e
       refine⟨?_,⟨fn,c,hf,hb,hname⟩,rfl,rfl⟩
       intro w₀ W φ w args' cfr cs hI hargs
       have hal:=hargs.length
       have h0:S w₀ W φ { T:=pj .nil 0 args,H:=st.H,n:=st.n,D:=[] } (ntm P f) (⟨args'⟩++Array.replicate (fn.ntmps-(⟨args'⟩:Array Value).size) undef) [] w:=by
        refine⟨hI,?_,?_,rfl⟩
        ·have := args_ok (φ := φ) (T := .nil) (i := 0) (pre := []) (List.replicate (fn.ntmps - args'.length) undef) hargs rfl TR.nil
         have e1:((⟨args'⟩:Array Value)++Array.replicate (fn.ntmps-(⟨args'⟩:Array Value).size) undef)=⟨[]++args'++List.replicate (fn.ntmps-args'.length) undef⟩:=by
          apply Array.ext'; simp
         rw[e1]; exact this
        ·rw[ntm_eq hf]; simp; omega
       obtain⟨φ1,w1,t1,ds1,hle,hS,hg⟩:=hs _ _ _ _ _ _ hrec w₀ W φ w _ [] .normal [] (cfr::cs) none h0 rfl
       have fin:∀ kk,∃ w2 v',I w₀ W φ1 H' s.n w2∧VR φ1 (oneV vs) v'∧Steps P (lone { fr f t1 kk ds1 .normal none with mode:=.returning } (cfr::cs) w1) (lone (cfr.finish v') cs w2):=by
        intro kk
        obtain⟨w2,hI2,hun⟩:=Uy (P:=P) (f:=f) (t:=t1) (k:=kk) (kd:=.normal) (ro:=none) (cs:=cfr::cs) hS.i hS.d hH
        obtain⟨v',hv',hres⟩:=results_ok (fn:=fn) hI2 hS.tr hvs
        exact⟨w2,v',hI2,hv',hun.trans (.one (st_return hf hres))⟩
       cases ex with
       | exit id=>exact absurd rfl (hne id)
       | norm=>
        obtain⟨w2,v',a1,a2,a3⟩:=fin []
        refine⟨φ1,w2,v',hle,a1,a2,?_⟩
        simp only
        rw[qgk hf hb]
        exact Steps.trans hg (.head st_leave a3)
       | ret=>
        obtain⟨kk,hg⟩:=hg
        obtain⟨w2,v',a1,a2,a3⟩:=fin (.code .ret::kk)
        refine⟨φ1,w2,v',hle,a1,a2,?_⟩
        simp only
        rw[qgk hf hb]
        exact Steps.trans hg (.head st_leave_ret a3)
    ·cases e
theorem I.later{w1:World}(h:I w₀ W φ H n w)(hk:∀ b,b<w.heap.size→w1.heap[b]?=w.heap[b]?)(hsz:w.heap.size≤w1.heap.size)(ho:w1.os=w.os)(htp:w1.tape=w.tape)(hout:w1.output=w.output)(hfz:∀ b:Nat,frOb w1.heap[b]?=frOb w.heap[b]?) :
  I w₀ W φ H n w1:=by
 refine⟨fun i p e=>h.dom i p e,?_,h.inj,?_,Nat.le_trans h.size hsz,h.wr,h.src,ho.trans h.os,htp.trans h.tape,hout.trans h.output,fun b=>(hfz b).trans (h.fz b)⟩
 ·intro i b e
  obtain⟨p,o,f,g,k⟩:=h.rel i b e
  exact⟨p,o,f,(hk p.1 (h.lt e f)).trans g,k⟩
 ·intro b hb nb
  exact(hk b (by have:=h.size; omega)).trans (h.keep b hb nb)
theorem I.empty(w:World):I w ⟨fun _=>False,fun _=>False⟩ (fun _=>none) (.nil:Hp) 0 w:=by
 have hn:∀ i b,(Tr.nil:Hp).get i≠some b:=by intro i b z; rw[Tr.get_nil] at z; cases z
 exact⟨(fun i p z=>by cases z),(fun i b z=>absurd z (hn i b)),(fun i j b c p q z=>absurd z (hn i b)),(fun _ _ _=>rfl),Nat.le_refl _,(fun i b p z=>absurd z (hn i b)),(fun i b p z=>absurd z (hn i b)),rfl,rfl,rfl,fun _=>rfl⟩
theorem qgv(hs:Snd P rec){f:FuncId}{args:List Value}{v:Value}(e:callF P rec f args st=some (v,st')) :
  CallOk P (fun _ args' => Frame.enter P f ⟨args'⟩ .normal) args st v st' ∧ (∃ fn c, P.funcs[f]? = some fn ∧ fn.body = some c ∧ (fn.name == "runtime.NumGoroutine") = false) ∧ st'.T = st.T ∧ st'.D = st.D := by
 unfold callF at e
 split at e
 ·exact callB_ok hs e
 ·rename_i hc
  simp only[Bool.and_eq_true] at hc
  split at e
  ·rename_i v0 s hb
   split at e
   ·rename_i hp
    simp only[Option.some.injEq,Prod.mk.injEq] at e
    obtain⟨rfl,rfl⟩:=e
    obtain⟨hok,hx,_⟩:=callB_ok hs hb
    refine⟨?_,hx,rfl,rfl⟩
    intro w₀ W φ w args' cfr cs hI ha
    have:=ek.eq hc.2 ha; subst this
    obtain⟨φ1,w1,v',hext,hI1,hv,hst⟩:=hok w _ _ w args' cfr cs (I.empty w) (ek.refl hc.2)
    have hv':=bz.eq hp hv; subst hv'
    exact⟨φ,w1,v',Ext.refl _ _,hI.later (fun b hb=>hI1.keep b hb (fun z=>z)) hI1.size hI1.os hI1.tape hI1.output hI1.fz,bz.refl hp,hst⟩
   ·cases e
  ·cases e
theorem paramsT_ok:∀ {ts:List Tmp} {vs vs':List Value} {T T':Tm} {t:Array Value} {N:Nat},TR φ T t→t.size=N→VRL φ vs vs'→vk T N ts vs=some T' →
  TR φ T' ((ts.zip vs').foldl (fun(t:Array Value) (x:Tmp × Value)=>t.setIfInBounds x.1 x.2) t)∧((ts.zip vs').foldl (fun(t:Array Value) (x:Tmp × Value)=>t.setIfInBounds x.1 x.2) t).size=N∧ts.length=vs'.length
 | [],[],vs',T,T',t,N,ht,hn,hv,e=>by
  simp only[vk,Option.some.injEq] at e; subst e
  simp only[VRL] at hv; subst hv
  exact⟨ht,hn,rfl⟩
 | [],v::vs,vs',T,T',t,N,ht,hn,hv,e=>by simp [vk] at e
 | d::ts,[],vs',T,T',t,N,ht,hn,hv,e=>by simp [vk] at e
 | d::ts,v::vs,vs',T,T',t,N,ht,hn,hv,e=>by
  simp only[vk] at e
  by_cases hd:d<N
  ·rw [if_pos hd] at e
   simp only[VRL] at hv
   obtain⟨v',r',rfl,hv1,hv2⟩:=hv
   have hd':(d:Nat)<t.size:=by rw[hn]; exact hd
   have:=paramsT_ok (t:=t.setIfInBounds d v') (ht.put hd' hv1) (by simpa using hn) hv2 e
   simpa using this
  ·rw[if_neg hd] at e; cases e
theorem OZ(h:I w₀ W φ H n w){l:Nat}{s:LoopState}{pe:Option Code}{fn:FuncId}{T:Tm}{N:Nat}{ps:Array Tmp}{aS bd:Code}{d:Nat}
  (hl:H.get l=some (.loop s pe fn T N ps aS bd d)):∃ p r,φ l=some p∧w.heap[p.1]?=some (.loop r)∧r.state=s∧r.pending=pe∧r.fn=fn∧r.tmps.size=N∧TR φ T r.tmps∧r.params=ps∧r.assign=aS∧r.body=bd∧∃ c,φ d=some (r.defers,c):=by
 obtain⟨p,o,f,g,k⟩:=h.rel l _ hl
 obtain⟨r,rfl,x⟩:=k
 exact⟨p,r,f,g,x⟩
theorem uz{l:Nat}{r:Loop}(h:w.heap[l]?=some (.loop r)):(Instr.getLoop l).run P w=.ok r w:=by
 simp only[Instr.getLoop,Sem.run_bind,run_getObj h (fun a b c x=>by cases x),Result.andThen_ok,Sem.run_pure]
theorem I.loop(h:I w₀ W φ H n w){l:Nat}{s:LoopState}{pe:Option Code}{fn:FuncId}{T:Tm}{N:Nat}{ps:Array Tmp}{aS bd:Code}{d:Nat}
  (hl:H.get l=some (.loop s pe fn T N ps aS bd d)) {p:Nat × Nat} {r:Loop} (hp:φ l=some p) (hr:w.heap[p.1]?=some (.loop r)) (s':LoopState) (pe':Option Code) :
  I w₀ W φ (H.set l (some (.loop s' pe' fn T N ps aS bd d))) n { w with heap:=w.heap.setIfInBounds p.1 (.loop { r with state:=s',pending:=pe' }) }:=by
 obtain⟨q,r',f,g,x⟩:=OZ h hl
 rw[hp] at f; cases f
 rw[hr] at g; cases g
 obtain⟨x1,x2,x3,x4,x5,x6,x7,x8,x9⟩:=x
 exact h.put hl hp rfl ⟨_,rfl,rfl,rfl,x3,x4,x5,x6,x7,x8,x9⟩
theorem setLoop_ok(h:I w₀ W φ H n w){l:Nat}{s:LoopState}{pe:Option Code}{H':Hp}(e:yZ H l s pe=some H') :
  ∃ p r,φ l=some p∧w.heap[p.1]?=some (.loop r)∧I w₀ W φ H' n { w with heap:=w.heap.setIfInBounds p.1 (.loop { r with state:=s,pending:=pe }) }∧r.pending=vZ H l∧(Oj H l=true→r.state=.ready):=by
 unfold yZ at e
 split at e
 ·rename_i x1 x2 fn T N ps aS bd d hl
  cases e
  obtain⟨p,r,a,b,c1,c2,c3⟩:=OZ h hl
  refine⟨p,r,a,b,h.loop hl a b s pe,by simp [vZ,hl,c2],fun hr=>?_⟩
  simp only[Oj,hl] at hr
  split at hr
  ·rename_i q; cases q; exact c1
  ·cases hr
 ·cases e
theorem yieldF_ok(hs:Snd P rec){l:Nat}{args:List Value}{v:Value}(e:Bw rec P l args st=some (v,st'))(h:I w₀ W φ st.H st.n w){args':List Value}(ha:VRL φ args args'){l' cp:Nat}(hl':φ l=some (l',cp)) :
  ∃ f tm aS bd,(Instr.yield l' ⟨args'⟩).run P w=.ok (.round l' f tm aS bd) w∧st'.T=st.T∧st'.D=st.D ∧
   ∀(c:Frame) (cs:List Frame),∃ φ' w' v',Ext φ st.n φ' st'.n∧I w₀ W φ' st'.H st'.n w'∧VR φ' v v'∧Steps P (lone (Frame.round l' f tm aS bd .normal) (c::cs) w) (lone (c.finish v') cs w'):=by
 unfold Bw at e
 split at e
 case h_2=>cases e
 rename_i x1 x2 fn T N params assign body d hl
 split at e
 case h_2=>cases e
 rename_i T' hN hT
 have hN:=Nat.eq_of_beq_eq_true hN
 split at e
 case h_2=>cases e
 rename_i s hrec1
 split at e
 case h_2=>cases e
 rename_i H1 hready hset1
 split at e
 case h_2=>cases e
 rename_i ex s2 hrec2
 split at e
 case h_1=>cases e
 rename_i j hj
 split at e
 case h_2=>cases e
 rename_i H2 hset2
 simp only[Option.some.injEq,Prod.mk.injEq] at e
 obtain⟨rfl,rfl⟩:=e
 obtain⟨p,r,hp,hr,r1,r2,r3,r4,r5,r6,r7,r8,r9⟩:=OZ h hl
 rw[hl'] at hp; cases hp
 simp only at hr
 obtain⟨g1,g2,g3⟩:=paramsT_ok r5 r4 ha hT
 have hf1:((r.params.zip (⟨args'⟩:Array Value)).foldl (fun tmps (x:Tmp × Value)=>tmps.setIfInBounds x.1 x.2) r.tmps)=((params.toList.zip args').foldl (fun(t:Array Value) (x:Tmp × Value)=>t.setIfInBounds x.1 x.2) r.tmps):=by
  rw[r6,← Array.foldl_toList]; simp
 refine⟨fn,(params.toList.zip args').foldl (fun(t:Array Value) (x:Tmp × Value)=>t.setIfInBounds x.1 x.2) r.tmps,assign,body,?_,rfl,rfl,?_⟩
 ·have hsz : args'.length = r.params.size := by rw [r6]; simp at g3 ⊢; omega
  have hne:¬ (args'.length≠r.params.size):=fun x=>x hsz
  simp only[Instr.yield,Sem.run_bind,uz hr,Result.andThen_ok,List.size_toArray,ne_eq,if_neg hne,Sem.run_pure,r3,r7,r8]
  exact congrArg (fun x=>Result.ok (Next.round l' fn x assign body) w) hf1
 ·intro c cs
  have h0:S w₀ W φ { T:=T',H:=st.H,n:=st.n,D:=[] } (ntm P fn) ((params.toList.zip args').foldl (fun(t:Array Value) (x:Tmp × Value)=>t.setIfInBounds x.1 x.2) r.tmps) [] w:=
   ⟨h,g1,by rw[g2,hN],rfl⟩
  obtain⟨φ1,w1,t1,ds1,hle1,hS1,hg1⟩:=hs _ _ _ _ _ _ hrec1 w₀ W φ w _ [] .normal [.beginRound,.code body] (c::cs) (some l') h0 ⟨l',cp,rfl,hl'⟩
  obtain⟨p2,q2,k1,k2,k3,k4,k5⟩:=setLoop_ok hS1.i hset1
  rw[hle1.le _ _ hl'] at k1; cases k1
  simp only at k2 k3
  have hb:(Instr.beginRound l').run P w1=.ok () { w1 with heap:=w1.heap.setIfInBounds l' (.loop { q2 with state:=.busy }) }:=by
   simp only[Instr.beginRound,Sem.run_bind,uz k2,Result.andThen_ok,CX k2 (fun a b c x=>by cases x),k5 hready,Sem.run_pure]
  have k4':({ q2 with state:=.busy,pending:=vZ s.H l }:Loop)={ q2 with state:=.busy }:=by rw[← k4]
  rw[k4'] at k3
  have h1:S w₀ W φ1 { s with H:=H1 } (ntm P fn) t1 ds1 { w1 with heap:=w1.heap.setIfInBounds l' (.loop { q2 with state:=.busy }) }:=⟨k3,hS1.tr,hS1.sz,hS1.d⟩
  obtain⟨φ2,w2,t2,ds2,hle2,hS2,hg2⟩:=hs _ _ _ _ _ _ hrec2 w₀ W φ1 _ t1 ds1 .normal [] (c::cs) (some l') h1 ⟨l',cp,rfl,hle1.le _ _ hl'⟩
  obtain⟨p3,q3,m1,m2,m3,m4,m5⟩:=setLoop_ok hS2.i hset2
  rw[hle2.le _ _ (hle1.le _ _ hl')] at m1; cases m1
  simp only at m2 m3
  have he:(Instr.endRound l' j).run P w2=.ok (.bool j.isNone) { w2 with heap:=w2.heap.setIfInBounds l' (.loop { q3 with state:=if j.isNone then .ready else .done,pending:=j }) }:=by
   simp only[Instr.endRound,Sem.run_bind,uz m2,Result.andThen_ok,CX m2 (fun a b c x=>by cases x),Sem.run_pure]
  refine⟨φ2,_,.bool j.isNone,hle1.trans hle2,m3,by simp only[VR],?_⟩
  have fin:Steps P (lone (fr fn ((params.toList.zip args').foldl (fun(t:Array Value) (x:Tmp × Value)=>t.setIfInBounds x.1 x.2) r.tmps) [.code assign,.beginRound,.code body] [] .normal (some l')) (c::cs) w)
    (lone (c.finish (.bool j.isNone)) cs { w2 with heap:=w2.heap.setIfInBounds l' (.loop { q3 with state:=if j.isNone then .ready else .done,pending:=j }) }):=by
   refine Steps.trans hg1 (.head (st_begin hb) ?_)
   cases ex with
   | norm=>
    simp only[Qw,Option.some.injEq] at hj; subst hj
    exact Steps.trans hg2 (.one (st_round_end he))
   | exit id=>
    simp only[Qw,Option.some.injEq] at hj; subst hj
    obtain⟨kk,hk,hg2⟩:=hg2
    exact Steps.trans hg2 (.one (st_round_exit (by rw[hk]; rfl) he))
   | ret=>
    simp only[Qw,Option.some.injEq] at hj; subst hj
    obtain⟨kk,hg2⟩:=hg2
    exact Steps.trans hg2 (.one (st_round_ret he))
  exact fin
end Go.Ev
end
section
namespace Go.Ev
open Go
variable {P:Program} {w₀:World} {W:Sets} {φ:Phi} {st st':St} {w:World} {H:Hp} {n:Nat} {rec:Rec}
 {f:FuncId} {t:Array Value} {k:List Item} {ds:List Deferred} {kd:CallKind} {ro:Option Nat} {cs:List Frame} {N:Nat}
theorem Uz{ops:Array Oper}{o:Oper}{T:Tm}{b:Bool}(ht:TR φ T t)(e:pQ ops.toList o.guard T=some b):Region.wanted o (yielded ops t)=b:=by
 unfold pQ at e
 unfold Region.wanted
 split at e
 ·rename_i hg; cases e; simp [hg]
 ·rename_i j want hg
  simp only[hg]
  split at e
  ·rename_i oj hj
   split at e
   ·rename_i d hd
    split at e
    ·rename_i c hc
     cases e
     obtain⟨v',a,b⟩:=ht d _ hc
     simp only[VR] at b; subst b
     have hj':ops[j]?=some oj:=by simpa using hj
     simp [yielded,hj',hd,a]
    ·rename_i hc
     cases e
     obtain⟨v',a,b⟩:=ht d _ hc
     simp only[VR,VRA,VRL] at b
     obtain⟨c',rfl,b⟩:=b
     have hj':ops[j]?=some oj:=by simpa using hj
     simp [yielded,hj',hd,a]
    ·cases e
   ·cases e
  ·cases e
theorem put_ok{T:Tm}{dst:Option Tmp}{v v':Value}(ht:TR φ T t)(hN:inN t.size dst=true)(hv:VR φ v v') :
  TR φ (putT T dst v) ((⟨t,[]⟩:Act).put dst v').tmps∧((⟨t,[]⟩:Act).put dst v').tmps.size=t.size:=by
 cases dst with
 | none=>exact⟨ht,rfl⟩
 | some d=>
  simp only[inN,Nat.blt_eq] at hN
  exact⟨ht.put hN hv,by simp [Act.put]⟩
theorem evOp_ok(hs:Snd P rec){ops:Array Oper}{i:Nat}{rest:List Nat}{o:Oper}(hS:S w₀ W φ st N t ds w)(ho:ops[i]?=some o)(e:evOp P rec N ops.toList o st=some st') :
  ∃ φ' w' t',Ext φ st.n φ' st'.n∧S w₀ W φ' st' N t' ds w'∧Steps P (lone (fr f t (.inRegion ops (i::rest)::k) ds kd ro) cs w) (lone (fr f t' (.inRegion ops rest::k) ds kd ro) cs w'):=by
 unfold evOp at e
 split at e
 ·cases e
 rename_i hN
 rw[← hS.sz] at hN
 split at e
 ·cases e
 ·rename_i hwa
  cases e
  obtain⟨p1,p2⟩:=put_ok (v:=undef) (v':=undef) hS.tr hN (bz.refl rfl)
  exact⟨φ,w,_,Ext.refl _ _,⟨hS.i,p1,p2.trans hS.sz,hS.d⟩,.one (MV ho (Uz hS.tr hwa))⟩
 ·rename_i hwa
  have hw:=Uz hS.tr hwa
  unfold evOp1 at e
  split at e
  ·cases e
  rename_i v s hc
  cases e
  have fin:∀ {φ':Phi} {w':World} {v':Value},Ext φ st.n φ' s.n→I w₀ W φ' s.H s.n w'→VR φ' v v'→s.T=st.T→s.D=st.D →
    Steps P (lone (fr f t (.inRegion ops (i::rest)::k) ds kd ro) cs w) (lone (fr f ((⟨t,[]⟩:Act).put o.dst v').tmps (.inRegion ops rest::k) ds kd ro) cs w') →
    ∃ φ' w' t',Ext φ st.n φ' s.n∧S w₀ W φ' { s with T:=putT s.T o.dst v } N t' ds w'∧Steps P (lone (fr f t (.inRegion ops (i::rest)::k) ds kd ro) cs w) (lone (fr f t' (.inRegion ops rest::k) ds kd ro) cs w'):=by
   intro φ' w' v' hle hI hv hT hD hst
   obtain⟨p1,p2⟩:=put_ok (dst:=o.dst) (v:=v) (v':=v') (hS.tr.mono hle.le) hN hv
   exact⟨φ',w',_,hle,⟨hI,by rw[hT]; exact p1,p2.trans hS.sz,by rw[hD]; exact hS.d.mono hle.le⟩,hst⟩
  have plain:aOp P o.op o.type st=some (v,s)→(∀ c,o.op≠.defer c) →
    ∃ φ' w' t',Ext φ st.n φ' s.n∧S w₀ W φ' { s with T:=putT s.T o.dst v } N t' ds w'∧Steps P (lone (fr f t (.inRegion ops (i::rest)::k) ds kd ro) cs w) (lone (fr f t' (.inRegion ops rest::k) ds kd ro) cs w'):=by
   intro h hd
   obtain⟨φ',v',w',hr,hle,hI,hv,hT,hD⟩:=aOp_ok (a:=⟨t,[]⟩) hS.i hS.tr o h
   exact fin hle hI hv hT hD (.one (rv ho hw hd hr))
  unfold cOp at hc
  split at hc
  ·rename_i c hop
   have hd:∀ c,o.op≠.defer c:=by intro c x; rw[hop] at x; cases x
   unfold cCall at hc
   split at hc
   ·rename_i fo hcal
    split at hc
    ·rename_i vf args hvf hargs
     have hf':=cJ (a:=⟨t,[]⟩) hS.tr hvf
     have ha':=HK (a:=⟨t,[]⟩) hS.tr hargs
     unfold callV at hc
     split at hc
     ·rename_i g first cap
      simp only[VR] at hf'
      obtain⟨f',a',b',e1,e2,e3,e4⟩:=hf'
      simp only[FR] at e2; subst e2
      have l1:VRL φ first.toList a'.toList:=by cases first; simpa only [VRA] using e3
      have l2:VRL φ cap.toList b'.toList:=by cases cap; simpa only [VRA] using e4
      obtain⟨hok,⟨fn,cb,q1,q2,q3⟩,hT,hD⟩:=qgv hs hc
      obtain⟨φ',w',v',hle,hI,hv,hst⟩:=hok w₀ W φ w _ (fr f t (.inRegion ops (i::rest)::k) ds kd ro) cs hS.i ((l1.append ha').append l2)
      refine fin hle hI hv hT hD (.head (st_op_enter ho hw hd (args:=⟨a'.toList++List.map (⟨t,[]⟩:Act).eval c.args.toList++b'.toList⟩) (g:=g) (w':=w) ?_) ?_)
      ·have hn : ¬ fn.name = "runtime.NumGoroutine" := by simpa using q3
       have e5:a'++Array.map (⟨t,[]⟩:Act).eval c.args++b'=⟨a'.toList++List.map (⟨t,[]⟩:Act).eval c.args.toList++b'.toList⟩:=by apply Array.ext'; simp
       simp [execOp,hop,resolve,hcal,e1,Deferred.ofValue,invoke,callFunc,q1,q2,hn]
      ·rw[← wy ho]; exact hst
     ·rename_i l
      simp only[VR] at hf'
      obtain⟨f',a',b',e1,⟨l',cp,e2,e5⟩,e3,e4⟩:=hf'
      subst e2
      have n1:a'=#[]:=by simp only[VRA,VRL] at e3; apply Array.ext'; simpa using e3
      have n2:b'=#[]:=by simp only[VRA,VRL] at e4; apply Array.ext'; simpa using e4
      subst n1 n2
      obtain⟨g,tm,aS,bd,hr,hT,hD,hok⟩:=yieldF_ok hs hc hS.i ha' e5
      obtain⟨φ',w',v',hle,hI,hv,hst⟩:=hok (fr f t (.inRegion ops (i::rest)::k) ds kd ro) cs
      refine fin hle hI hv hT hD (.head (st_op_round ho hw hd (l:=l') (g:=g) (tm:=tm) (aS:=aS) (bd:=bd) (w':=w) ?_) ?_)
      ·have e6 : Array.map (⟨t, []⟩ : Act).eval c.args = ⟨List.map (⟨t, []⟩ : Act).eval c.args.toList⟩ := by apply Array.ext'; simp
       simp only[execOp,hop,resolve,hcal,e1,Deferred.ofValue,pure_bind,invoke,e6,Array.empty_append]
       exact hr
      ·rw[← wy ho]; exact hst
     ·cases hc
    ·cases hc
   ·refine plain ?_ hd
    rw[hop]; simp only[aOp]; exact hc
  ·rename_i x hop
   refine plain hc ?_
   intro c x
   rw[x] at hc; simp [aOp] at hc
theorem evOps_ok(hs:Snd P rec){ops:Array Oper}:∀ {l:List Oper} {pre:List Oper} {st:St} {φ:Phi} {w:World} {t:Array Value},ops.toList=pre++l→S w₀ W φ st N t ds w →
  VJ P rec N ops.toList l st=some st' →
  ∃ φ' w' t',Ext φ st.n φ' st'.n∧S w₀ W φ' st' N t' ds w'∧Steps P (lone (fr f t (.inRegion ops (List.range' pre.length l.length)::k) ds kd ro) cs w) (lone (fr f t' k ds kd ro) cs w')
 | [],pre,st,φ,w,t,hl,hS,e=>by
  simp only[VJ,Option.some.injEq] at e; subst e
  exact⟨φ,w,t,Ext.refl _ _,hS,.one zk⟩
 | o::l,pre,st,φ,w,t,hl,hS,e=>by
  simp only[VJ] at e
  split at e
  ·cases e
  ·rename_i s h1
   have ho:ops[pre.length]?=some o:=by rw[← Array.getElem?_toList,hl]; simp
   obtain⟨φ1,w1,t1,hle,hS1,hst⟩:=evOp_ok (f:=f) (k:=k) (kd:=kd) (ro:=ro) (cs:=cs) (rest:=List.range' (pre.length+1) l.length) hs hS ho h1
   obtain⟨φ2,w2,t2,hle2,hS2,hst2⟩:=evOps_ok hs (l:=l) (pre:=pre++[o]) (by simp [hl]) hS1 e
   refine⟨φ2,w2,t2,hle.trans hle2,hS2,?_⟩
   simp only[List.length_append,List.length_cons,List.length_nil,Nat.zero_add] at hst2
   exact Steps.trans hst hst2
end Go.Ev
end
section
namespace Go.Ev
open Go
variable {P:Program} {w₀:World} {W:Sets} {φ:Phi} {st st':St} {w:World} {H:Hp} {n:Nat} {rec:Rec}
 {f:FuncId} {t:Array Value} {k:List Item} {ds:List Deferred} {kd:CallKind} {cs:List Frame} {N:Nat}
theorem rangeIn_ok{ro ro':Option Nat}{d:Nat}{s:St}(hS:S w₀ W φ st N t ds w)(hro:RO φ ro ro')(e:vJ ro st=some (d,s))(params:Array Tmp)(assign body:Code) :
  ∃ φ' l mark w',Ext φ st.n φ' (s.n+1)∧S w₀ W φ' { s with H:=s.H.set s.n (some (.loop .ready none f s.T N params assign body d)),n:=s.n+1 } N t (mark++ds) w' ∧
   φ' s.n=some (l,0)∧(Instr.enterLoop f t params assign body ro').run P w=.ok (l,mark) w':=by
 have rec1:∀ {φ1:Phi} {w1:World} {ds1:List Deferred} {dr c:Nat},S w₀ W φ1 s N t ds1 w1→φ1 d=some (dr,c) →
   S w₀ W (ext φ1 s.n (w1.heap.size,0)) { s with H:=s.H.set s.n (some (.loop .ready none f s.T N params assign body d)),n:=s.n+1 } N t ds1
    { w1 with heap:=w1.heap.push (.loop { state:=.ready,pending:=none,fn:=f,tmps:=t,params,assign,body,defers:=dr }) }:=by
  intro φ1 w1 ds1 dr c h hd
  have hle:=Ek (p:=(w1.heap.size,0)) h.i.free
  refine⟨h.i.push ⟨_,rfl,rfl,rfl,rfl,h.sz,h.tr,rfl,rfl,rfl,c,hd⟩,h.tr.mono hle,h.sz,h.d.mono hle⟩
 cases ro with
 | none=>
  simp only[vJ,Option.some.injEq,Prod.mk.injEq] at e
  obtain⟨rfl,rfl⟩:=e
  simp only[RO] at hro; subst hro
  have hle:=Ek (p:=(w.heap.size,0)) hS.i.free
  have h1:S w₀ W (ext φ st.n (w.heap.size,0)) { st with H:=st.H.set st.n (some .deferred),n:=st.n+1,D:=st.n::st.D } N t ({ target:=.collected w.heap.size,args:=#[] }::ds) { w with heap:=w.heap.push (.deferred (some [])) }:=
   ⟨hS.i.push rfl,hS.tr.mono hle,hS.sz,⟨(w.heap.size,0),ds,rfl,cW _ _ _,hS.d.mono hle⟩⟩
  refine⟨_,_,[{ target:=.collected w.heap.size,args:=#[] }],_,(hS.i.ext_push _).trans (h1.i.ext_push _),rec1 h1 (cW _ _ _),cW _ _ _,?_⟩
  simp [Instr.enterLoop]; rfl
 | some l0=>
  simp only[vJ] at e
  split at e
  ·rename_i x1 x2 x3 x4 x5 x6 x7 x8 d' hl0
   simp only[Option.some.injEq,Prod.mk.injEq] at e
   obtain⟨rfl,rfl⟩:=e
   obtain⟨l',c,rfl,hl'⟩:=hro
   obtain⟨p,r,hp,hr,_,_,_,_,_,_,_,_,c2,hd⟩:=OZ hS.i hl0
   rw[hl'] at hp; cases hp
   simp only at hr
   refine⟨_,_,[],_,hS.i.ext_push _,rec1 hS hd,cW _ _ _,?_⟩
   simp [Instr.enterLoop,uz hr]
  ·cases e
theorem rangeE_ok(hs:Snd P rec){ro:Option Nat}{x:Operand}{params:Array Tmp}{assign body:Code}{ex:Ex}(e:ZJ P rec ro f x params assign body st=some (ex,st')) :
  tY P ro f (.rangeFunc x params assign body) st ex st':=by
 intro w₀ W φ w t ds kd k cs ro' hS hro
 unfold ZJ at e
 split at e
 case h_2=>cases e
 rename_i g first cap hx
 split at e
 ·cases e
 rename_i d s hin
 split at e
 ·cases e
 rename_i v s2 hcall
 obtain⟨φ1,l,mark,w1,hle1,hS1,hl,hrun⟩:=rangeIn_ok (P:=P) (f:=f) hS hro hin params assign body
 have hx':=cJ (a:=⟨t,[]⟩) hS.tr hx
 simp only[VR] at hx'
 obtain⟨f',a',b',e1,e2,e3,e4⟩:=hx'
 simp only[FR] at e2; subst e2
 have l1:VRL φ first.toList a'.toList:=by cases first; simpa only [VRA] using e3
 have l2:VRL φ cap.toList b'.toList:=by cases cap; simpa only [VRA] using e4
 have ly:VR φ1 (.func (.yield s.n) #[] #[]) (.func (.yield l) #[] #[]):=by
  simp only[VR]
  exact⟨_,_,_,rfl,⟨l,0,rfl,hl⟩,VRL.nil (φ:=φ1),VRL.nil (φ:=φ1)⟩
 obtain⟨hok,⟨fn,cb,q1,q2,q3⟩,hT,hD⟩:=qgv hs hcall
 obtain⟨φ2,w2,v',hle2,hI2,hv,hst⟩:=hok w₀ W φ1 w1 _ (fr f t (.inRangeFunc l::k) (mark++ds) kd ro') cs hS1.i ((l1.mono hle1.le).append (VRL.cons ly (l2.mono hle1.le)))
 have hstep:=st_range (f:=f) (k:=k) (ds:=ds) (kd:=kd) (cs:=cs) hrun e1 q1 q2 q3
 have e6:a'++#[Value.func (.yield l) #[] #[]]++b'=⟨a'.toList++Value.func (.yield l) #[] #[]::b'.toList⟩:=by apply Array.ext'; simp
 rw[e6] at hstep
 have hfin:(fr f t (.inRangeFunc l::k) (mark++ds) kd ro').finish v'=fr f t (.endRangeFunc l::k) (mark++ds) kd ro':=rfl
 rw[hfin] at hst
 have hS2:S w₀ W φ2 s2 (ntm P f) t (mark++ds) w2:=⟨hI2,by rw[hT]; exact hS1.tr.mono hle2.le,hS1.sz,by rw[hD]; exact hS1.d.mono hle2.le⟩
 have hl2:=hle2.le _ _ hl
 unfold zK at e
 split at e
 ·cases e
 ·rename_i stt pe fn' T' N' ps aS bd d' hnb hlp
  obtain⟨p,r,hp,hr,r1,r2,_⟩:=OZ hI2 hlp
  rw[hl2] at hp; cases hp
  simp only at hr
  have hend:(Instr.endLoop l).run P w2=.ok pe { w2 with heap:=w2.heap.setIfInBounds l (.loop { r with state:=.exhausted }) }:=by
   have hb:(r.state == LoopState.busy)=false:=by
    rw[r1]
    cases stt <;> first | rfl | exact(hnb rfl).elim
   simp only[Instr.endLoop,Sem.run_bind,uz hr,Result.andThen_ok,hb,Bool.false_eq_true,if_false,CX hr (fun a b c x=>by cases x),Sem.run_pure,r2]
  have hI3:=hI2.loop hlp hl2 hr .exhausted pe
  have r2':({ r with state:=.exhausted,pending:=pe }:Loop)={ r with state:=.exhausted }:=by rw[← r2]
  rw[r2'] at hI3
  have hS3:S w₀ W φ2 { s2 with H:=s2.H.set s.n (some (.loop .exhausted pe fn' T' N' ps aS bd d')) } (ntm P f) t (mark++ds) { w2 with heap:=w2.heap.setIfInBounds l (.loop { r with state:=.exhausted }) }:=
   ⟨hI3,hS2.tr,hS2.sz,hS2.d⟩
  have hall:Steps P (lone (fr f t (.code (.rangeFunc x params assign body)::k) ds kd ro') cs w) (lone (fr f t ((pe.map Item.code).toList++k) (mark++ds) kd ro') cs { w2 with heap:=w2.heap.setIfInBounds l (.loop { r with state:=.exhausted }) }):=
   .head hstep (Steps.trans hst (.one (st_range_end hend)))
  simp only at e
  split at e
  ·simp only [Option.some.injEq, Prod.mk.injEq] at e
   obtain⟨rfl,rfl⟩:=e
   exact⟨φ2,_,t,_,hle1.trans hle2,hS3,hall⟩
  ·simp only [Option.some.injEq, Prod.mk.injEq] at e
   obtain⟨rfl,rfl⟩:=e
   exact⟨φ2,_,t,_,hle1.trans hle2,hS3,k,rfl,hall⟩
  ·simp only [Option.some.injEq, Prod.mk.injEq] at e
   obtain⟨rfl,rfl⟩:=e
   exact⟨φ2,_,t,_,hle1.trans hle2,hS3,k,hall⟩
  ·cases e
 ·cases e
def DrawOk(P:Program)(draw:Draw):Prop:=∀(f:FuncId) (ops:Array Oper) (st st':St),draw f (ntm P f) ops.toList st=some st' →
 ∀(w₀:World) (W:Sets) (φ:Phi) (w:World) (t:Array Value) (ds:List Deferred) (kd:CallKind) (k:List Item) (cs:List Frame) (ro':Option Nat) (tp:Nat),
  S w₀ W φ st (ntm P f) t ds w →
  ∃ φ' w' t',Ext φ st.n φ' st'.n∧S w₀ W φ' st' (ntm P f) t' ds w' ∧
   Steps P (lone (fr f t (.inRegion ops (Region.schedule (P.follows .mixedOrders) ops tp)::k) ds kd ro') cs w) (lone (fr f t' k ds kd ro') cs w')
theorem tY.then{ro:Option Nat}{a b:Code}{s s':St}{ex:Ex}(ha:tY P ro f a st .norm s)(hb:tY P ro f b s ex s'):tY P ro f (.seq a b) st ex s':=by
 intro w₀ W φ w t ds kd k cs ro' hS hro
 obtain⟨φ1,w1,t1,ds1,hle1,hS1,g1⟩:=ha w₀ W φ w t ds kd (.code b::k) cs ro' hS hro
 obtain⟨φ2,w2,t2,ds2,hle2,hS2,g2⟩:=hb w₀ W φ1 w1 t1 ds1 kd k cs ro' hS1 (hro.mono hle1.le)
 exact⟨φ2,w2,t2,ds2,hle1.trans hle2,hS2,.of_steps (.head st_seq g1) g2⟩
theorem Uk{id:Nat}{x:Item}{k:List Item}(h:∀ j,x≠.inBlock j):exitTo id (x::k)=exitTo id k:=by
 cases x <;> first | rfl | exact absurd rfl (h _)
theorem tY.out{ro:Option Nat}{a b:Code}{s:St}{ex:Ex}(hne:ex≠.norm)(ha:tY P ro f a st ex s):tY P ro f (.seq a b) st ex s:=by
 intro w₀ W φ w t ds kd k cs ro' hS hro
 obtain⟨φ1,w1,t1,ds1,hle1,hS1,g1⟩:=ha w₀ W φ w t ds kd (.code b::k) cs ro' hS hro
 refine⟨φ1,w1,t1,ds1,hle1,hS1,.of_steps (.one st_seq) ?_⟩
 cases ex with
 | norm=>exact absurd rfl hne
 | exit id=>obtain⟨kk,e,s⟩:=g1; exact⟨kk,e.trans (Uk (fun j x=>by cases x)),s⟩
 | ret=>exact g1
theorem MW{m m' X:Machine}(h:Steps P m m')(hne:m'≠m)(hx:step P m=.next X):Steps P X m':=by
 obtain⟨n,hn⟩:=h
 cases n with
 | zero=>simp only[runN,Stepped.next.injEq] at hn; exact absurd hn.symm hne
 | succ n=>simp only[runN,hx] at hn; exact⟨n,hn⟩
theorem fr_todo{t':Array Value}{ds':List Deferred}{k':List Item}{w':World}{ro:Option Nat}(h:lone (fr f t' k' ds' kd ro) cs w'=lone (fr f t k ds kd ro) cs w):k'=k:=by
 simp only[lone,Machine.mk.injEq,Array.mk.injEq,List.cons.injEq,Goroutine.mk.injEq,fr,Frame.mk.injEq] at h
 exact h.2.1.1.1.2.2.1
theorem Goes.again{c:Code}{ro:Option Nat}{t':Array Value}{ds':List Deferred}{w':World}{ex:Ex}(g:Goes P (lone (fr f t (.code (.loop c)::k) ds kd ro) cs w) f t' k ds' kd ro cs w' ex) :
  Goes P (lone (fr f t (.inLoop c::k) ds kd ro) cs w) f t' k ds' kd ro cs w' ex:=by
 refine .of_steps (.one st_inLoop) ?_
 cases ex with
 | norm=>
  refine MW g (fun h=>?_) Iy
  have:=fr_todo h
  have:=congrArg List.length this
  simp at this
 | exit id=>
  obtain⟨kk,hk,g⟩:=g
  refine⟨kk,hk,MW g (fun h=>?_) Iy⟩
  have:=fr_todo h
  simp at this
 | ret=>
  obtain⟨kk,g⟩:=g
  refine⟨kk,MW g (fun h=>?_) Iy⟩
  have:=fr_todo h
  simp at this
end Go.Ev
end
section
namespace Go.Ev
noncomputable section
open Go
def Gz(e:Edge):Bool:=Region.binds .any e
def ancsGo:List Oper→List Nat→List Nat
 | [],acc=>acc
 | o::l,acc=>ancsGo l (acc++[o.after.toList.foldl (fun s e=>match Gz e with | true=>s ||| 2 ^ e.on ||| acc.getD e.on 0 | false=>s) 0])
def ancs(ops:List Oper):List Nat:=ancsGo ops []
def bit(A:List Nat)(x y:Nat):Bool:=(A.getD x 0).testBit y
def ancOk(ops:List Oper)(A:List Nat):Bool:=
 (List.range ops.length).all fun x=>match ops[x]? with
  | none=>false
  | some o=>o.after.toList.all (fun e=>!Gz e || Nat.blt e.on x) &&
   (List.range x).all (fun y=>!bit A x y || o.after.toList.any fun e=>Gz e && (Nat.beq e.on y || bit A e.on y)) && Nat.blt (A.getD x 0) (2 ^ x)
inductive Kind where
 | p | l | a | e | m
def dj:Op→Kind
 | .move _ | .assign _ | .pick .. | .build .. | .nilCheck _ | .binOp .. | .unOp .. | .convert .. | .makeFunc .. | .slice .. | .fieldAddr .. | .field .. | .indexAddr .. | .index .. | .extract ..=>.p
 | .load ..=>.l
 | .alloc _ | .box .. | .buildSlice .. | .makeSlice .. | .makeMap _ none=>.a
 | .lookup ..=>.m
 | .call { callee:=.builtin b,.. }=>match b with | .len | .min | .max=>.p | _=>.e
 | _=>.e
def isE(o:Oper):Bool:=match dj o.op with | .e=>true | _=>false
def orderGo(ops:List Oper)(A:List Nat):Nat→List Nat→Nat→List Nat
 | 0,_,_=>[]
 | k+1,todo,done=>
  let ready:=todo.filter fun x=>Nat.beq ((A.getD x 0) ||| done) done
  match ready.find? (fun x=>match ops[x]? with | some o=>!isE o | none=>false) with
  | some x=>x::orderGo ops A k (todo.filter fun y=>!Nat.beq y x) (done ||| 2 ^ x)
  | none=>match ready with
   | x::_=>x::orderGo ops A k (todo.filter fun y=>!Nat.beq y x) (done ||| 2 ^ x)
   | []=>[]
def order(ops:List Oper)(A:List Nat):List Nat:=orderGo ops A ops.length (List.range ops.length) 0
def cj(ops:List Oper)(o:Oper):List Nat:=
 (o.op.operands.toList.filterMap fun | .tmp t=>some t | _=>none) ++
 (match o.guard with
  | some (j,_)=>match ops[j]? with | some oj=>oj.dst.toList | none=>[]
  | none=>[])
def eZ(T:Tm):List Nat→Tm
 | []=>.nil
 | d::l=>match T.get d with
  | some v=>(eZ T l).set d (some v)
  | none=>eZ T l
theorem ix(T:Tm):∀(l:List Nat) (d:Nat),(eZ T l).get d=if d ∈ l then T.get d else none
 | [],d=>by simp [eZ,Tr.get_nil]
 | x::l,d=>by
  simp only[eZ]
  by_cases h:d=x
  ·subst h
   cases hx:T.get d with
   | none=>simp only[ix T l d,hx]; simp
   | some v=>simp [Tr.get_set]
  ·cases hx : T.get x with
   | none=>simp only[ix T l d]; simp [h]
   | some v=>simp only[Tr.get_set,if_neg h,ix T l d]; simp [h]
inductive Extra where
 | p
 | l (t:TypeId) (a:Addr)
 | a (id:Nat) (c:Option (List Value)) (e:TypeId)
 | e
 | m (t:TypeId) (mv k:Value) (ok:Bool) (v:Value)
def blkN:Option (List Value)→TypeId→Blk
 | some c,e=>.cells c e false none
 | none,_=>.map [] 0
def newB(st:St)(c:Option (List Value))(e:TypeId):St:={ st with H:=st.H.set st.n (some (blkN c e)),n:=st.n+1 }
structure Ent where
 x:Nat
 dst:Option Tmp
 slots:List Nat
 v:Value
 k:Extra
structure Reg where
 log:List Ent
 T:Tm
 H:Hp
 n:Nat
def maskL(A:List Nat)(x:Nat)(H:Hp):List Ent→Option Hp
 | []=>some H
 | e::l=>match maskL A x H l with
  | none=>none
  | some H1=>match bit A x e.x,e.k with
   | false,.l _ a=>match H1.get a.block with
    | some (.cells c t _ vec)=>some (H1.set a.block (some (.cells c t true vec)))
    | some (.rows _)=>some H1
    | _=>none
   | _,_=>some H1
def Jz(A:List Nat)(x:Nat)(H:Hp):List Ent→Hp
 | []=>H
 | e::l=>match bit A x e.x,e.k with
  | false,.a id _ _=>(Jz A x H l).set id none
  | _,_=>Jz A x H l
def backL(A:List Nat)(x:Nat)(H0 H:Hp):List Ent→Option Hp
 | []=>some H
 | e::l=>match backL A x H0 H l with
  | none=>none
  | some H1=>match bit A x e.x,e.k with
   | false,.l _ a=>match H.get a.block with
    | some B=>match B.ro with
     | true=>some (H1.set a.block (H0.get a.block))
     | false=>none
    | none=>none
   | _,_=>some H1
def Jk(A:List Nat)(x:Nat)(H0 H:Hp):List Ent→Hp
 | []=>H
 | e::l=>match bit A x e.x,e.k with
  | false,.a id _ _=>(Jk A x H0 H l).set id (H0.get id)
  | _,_=>Jk A x H0 H l
def XY:List Value→List Value→Bool
 | [],[]=>true
 | .int k n::l,.int k' n'::l'=>(match decEq k k' with | .isTrue _=>true | .isFalse _=>false) && (match Int.decEq n n' with | .isTrue _=>true | .isFalse _=>false) && XY l l'
 | .bool b::l,.bool b'::l'=>(b == b') && XY l l'
 | _,_=>false
def sameV:Value→Value→Bool
 | .agg ⟨l⟩,.agg ⟨l'⟩=>XY l l'
 | .tuple ⟨l⟩,.tuple ⟨l'⟩=>XY l l'
 | v,v'=>XY [v] [v']
def chkE(P:Program)(H:Hp):Extra→Bool
 | .m t mv k ok v=>match fZ P H t mv k ok with
  | some u=>sameV u v
  | none=>false
 | _=>true
def chkM(P:Program)(A:List Nat)(x:Nat)(H:Hp):List Ent→Bool
 | []=>true
 | e::l=>match bit A x e.x with
  | true=>chkM P A x H l
  | false=>chkE P H e.k && chkM P A x H l
def addE(g:Reg)(x:Nat)(dst:Option Tmp)(slots:List Nat)(v:Value)(k:Extra)(H:Hp)(n:Nat):Reg:=
 { log:={ x,dst,slots,v,k }::g.log,T:=putT g.T dst v,H,n }
def zJ(A:List Nat)(log:List Ent)(x:Nat)(dst:Option Tmp)(slots:List Nat):Bool:=
 log.all fun e=>(match e.dst with
  | none=>true
  | some d=>!slots.contains d || bit A x e.x) &&
  (match dst with
  | none=>true
  | some d=>(!e.slots.contains d || bit A x e.x) && (match e.dst with | none=>true | some d'=>!Nat.beq d d'))
def MX(P:Program)(rec:Rec)(A:List Nat)(o:Oper)(x:Nat)(slots:List Nat)(r:Tm)(rest:List Nat)(g:Reg):Option Reg:=
 match dj o.op with
 | .p=>match aOp P o.op o.type { T:=r,H:=g.H,n:=g.n,D:=[] } with
  | some (v,_)=>some (addE g x o.dst slots v .p g.H g.n)
  | none=>none
 | .l=>match o.op with
  | .load t a=>match opd a r with
   | some (.pointer (some ad))=>match az P g.H t ad with
    | some v=>some (addE g x o.dst slots v (.l t ad) g.H g.n)
    | none=>none
   | _=>none
  | _=>none
 | .a=>match aOp P o.op o.type { T:=r,H:=g.H,n:=g.n,D:=[] } with
  | some (v,s)=>match s.H.get g.n with
   | some (.cells c e false none)=>some (addE g x o.dst slots v (.a g.n (some c) e) s.H s.n)
   | some (.map [] 0)=>some (addE g x o.dst slots v (.a g.n none 0) s.H s.n)
   | _=>none
  | none=>none
 | .e => match rest.all (fun y => bit A y x), maskL A x g.H g.log with
  | true,some H1=>match cOp P rec o.op o.type { T:=r,H:=Jz A x H1 g.log,n:=g.n,D:=[] } with
   | some (v,s)=>match backL A x g.H s.H g.log with
    | some H2=>match chkM P A x (Jk A x g.H H2 g.log) g.log with
     | true=>some (addE g x o.dst slots v .e (Jk A x g.H H2 g.log) s.n)
     | false=>none
    | none=>none
   | none=>none
  | _,_=>none
 | .m=>match o.op with
  | .lookup t a b ok=>match opd a r,opd b r with
   | some mv,some k=>match fZ P g.H t mv k ok with
    | some v=>some (addE g x o.dst slots v (.m t mv k ok v) g.H g.n)
    | none=>none
   | _,_=>none
  | _=>none
def nK(log:List Ent)(x:Nat):Bool:=log.any fun e=>Nat.beq e.x x
def pw(P:Program)(rec:Rec)(N:Nat)(ops:List Oper)(A:List Nat)(x:Nat)(rest:List Nat)(g:Reg):Option Reg:=
 match ops[x]? with
 | none=>none
 | some o=>
  let slots:=cj ops o
  match inN N o.dst && zJ A g.log x o.dst slots && !nK g.log x with
  | false=>none
  | true=>
   let r:=eZ g.T slots
   match pQ ops o.guard r with
   | none=>none
   | some false=>match isE o with
    | true=>match rest.all (fun y=>bit A y x) with
     | true=>some (addE g x o.dst slots undef .e g.H g.n)
     | false=>none
    | false=>some (addE g x o.dst slots undef .p g.H g.n)
   | some true=>MX P rec A o x slots r rest g
def sy(P:Program)(rec:Rec)(N:Nat)(ops:List Oper)(A:List Nat):List Nat→Reg→Option Reg
 | [],g=>some g
 | x::rest,g=>match pw P rec N ops A x rest g with
  | none=>none
  | some g=>sy P rec N ops A rest g
def covers(n:Nat)(l:List Nat):Bool:=(List.range n).all fun x=>l.contains x
def JJ(P:Program)(rec:Rec):Draw:=fun _ N ops st=>
 let A:=ancs ops
 let π:=order ops A
 match ancOk ops A && covers ops.length π && P.follows .mixedOrders with
 | true=>match sy P rec N ops A π { log:=[],T:=st.T,H:=st.H,n:=st.n } with
  | some g=>some { st with T:=g.T,H:=g.H,n:=g.n }
  | none=>none
 | false=>none
end
end Go.Ev
end
