import Derived.Test.YtnnkcjolgbpklaaGreatC3
set_option linter.unusedVariables false
section
namespace Go.Ev
open Go
variable {P:Program} {t:TypeId} {x y:Operand} {a b:Int} {ρ:Type}
theorem semPure_guard{op:BinOp}{u v w:Value}(h1:eqGuard op t x y u v=pure ())(h2:binOp op t u v=pure w):cQ P (gV op t x y u v)=some w:=by
 unfold gV
 rw[h1,h2]
 rfl
theorem eqGuard_ints{op:BinOp}{k k':IntKind}:eqGuard op t x y (.int k a) (.int k' b)=pure ():=by
 unfold eqGuard
 split <;> rfl
theorem qlq{op:BinOp}{w:Value}(h:binOp op t (.int .i64 a) (.int .i64 b)=pure w)(hp:bQ w=true):IJ P op t x y (.int .i64 a) (.int .i64 b)=some w:=by
 unfold IJ
 have h0:(bQ (.int .i64 a) && bQ (.int .i64 b))=true:=rfl
 have h1:Fv P op t (.int .i64 a) (.int .i64 b)=none:=by unfold Fv; cases op <;> rfl
 rw[h0]
 simp only[h1,semPure_guard eqGuard_ints h,hp]
theorem wV{op:BinOp}{w:Value}(h:binOp op t (.int .i64 a) (.int .i64 b)=pure w)(hp:bQ w=true)
  (hq:∀ m n:Nat,a=m→b=n→Kk op m n=some w∨Kk op m n=none):binV P op t x y (.int .i64 a) (.int .i64 b)=some w:=by
 unfold binV
 cases a with
 | ofNat m=>
  cases b with
  | ofNat n=>
   show(match Kk op m n with | some v=>some v | none=>_)=_
   rcases hq m n rfl rfl with q | q
   ·rw[q]
   ·rw[q]; exact qlq h hp
  | negSucc n=>exact qlq h hp
 | negSucc m=>cases b <;> exact qlq h hp
theorem bin_lss:binV P .lss t x y (.int .i64 a) (.int .i64 b)=some (.bool (decide (a<b))):=by
 refine wV (by simp [binOp,Op.intCmp]) rfl ?_
 rintro m n rfl rfl
 refine .inl ?_
 rw[show decide ((m:Int)<(n:Int))=Nat.blt m n from(by rw[Bool.eq_iff_iff]; simp)]
 rfl
theorem bin_leq:binV P .leq t x y (.int .i64 a) (.int .i64 b)=some (.bool (decide (a≤b))):=by
 refine wV (by simp [binOp,Op.intCmp]) rfl ?_
 rintro m n rfl rfl
 refine .inl ?_
 rw[show decide ((m:Int)≤(n:Int))=Nat.ble m n from(by rw[Bool.eq_iff_iff]; simp)]
 rfl
theorem bin_gtr:binV P .gtr t x y (.int .i64 a) (.int .i64 b)=some (.bool (decide (b<a))):=by
 refine wV (by simp [binOp,Op.intCmp]) rfl ?_
 rintro m n rfl rfl
 refine .inl ?_
 rw[show decide ((n:Int)<(m:Int))=Nat.blt n m from(by rw[Bool.eq_iff_iff]; simp)]
 rfl
theorem bin_geq:binV P .geq t x y (.int .i64 a) (.int .i64 b)=some (.bool (decide (b≤a))):=by
 refine wV (by simp [binOp,Op.intCmp]) rfl ?_
 rintro m n rfl rfl
 refine .inl ?_
 rw[show decide ((n:Int)≤(m:Int))=Nat.ble n m from(by rw[Bool.eq_iff_iff]; simp)]
 rfl
theorem bin_eql:binV P .eql t x y (.int .i64 a) (.int .i64 b)=some (.bool (decide (a=b))):=by
 refine wV (by simp [binOp,Op.intCmp]; rfl) rfl ?_
 rintro m n rfl rfl
 refine .inl ?_
 rw[show decide ((m:Int)=(n:Int))=Nat.beq m n from(by rw[Bool.eq_iff_iff]; simp; omega)]
 rfl
theorem bin_neq:binV P .neq t x y (.int .i64 a) (.int .i64 b)=some (.bool (!decide (a=b))):=by
 refine wV (by simp [binOp,Op.intCmp]; rfl) rfl ?_
 rintro m n rfl rfl
 refine .inl ?_
 rw[show decide ((m:Int)=(n:Int))=Nat.beq m n from(by rw[Bool.eq_iff_iff]; simp; omega)]
 rfl
theorem qlz{z:Int}(h:I64 z):IntKind.i64.wrap z=z:=by
 unfold I64 at h
 simp [IntKind.wrap,IntKind.bits,IntKind.signed]
 omega
theorem mk64_or(n:Nat){w:Value}(h:w=.int .i64 (n:Int)):mk64 n=some w∨mk64 n=none:=by
 unfold mk64
 split
 ·subst h; exact .inl rfl
 ·exact .inr rfl
theorem bin_add(h:I64 (a+b)):binV P .add t x y (.int .i64 a) (.int .i64 b)=some (.int .i64 (a+b)):=by
 refine wV (by simp [binOp,Op.intArith,qlz h]) rfl ?_
 rintro m n rfl rfl
 exact mk64_or _ (by simp)
theorem bin_sub(h:I64 (a-b)):binV P .sub t x y (.int .i64 a) (.int .i64 b)=some (.int .i64 (a-b)):=by
 refine wV (by simp [binOp,Op.intArith,qlz h]) rfl ?_
 rintro m n rfl rfl
 unfold Kk
 simp only
 split
 ·rename_i hle
  have:=Nat.le_of_ble_eq_true hle
  exact mk64_or _ (by congr 1; omega)
 ·exact .inr rfl
theorem aj{α:Type}{v:α}{k:α→Option ρ}:bindO (some v) k=k v:=rfl
theorem binK_some{op:BinOp}{u v w:Value}{k:Value→Option ρ}(h:binV P op t x y u v=some w):binK P op t x y u v k=k w:=by
 unfold binK; rw[h]; rfl
theorem boxK_eq{e:TypeId}{v:Value}{H:Hp}{n:Nat}{k:Value→Hp→Nat→Option ρ}:boxK e v H n k=k (ptr n) (H.set n (some (.cells (aV v) e false none))) (n+1):=rfl
theorem allocK_eq{e:TypeId}{z:Value}{H:Hp}{n:Nat}{k:Value→Hp→Nat→Option ρ}(h:kV P e=some z):jK P e H n k=k (ptr n) (H.set n (some (.cells (aV z) e false none))) (n+1):=by
 unfold jK; rw[h]; rfl
theorem qlx{b o:Nat}:aY (.pointer (some ⟨b,o,none⟩))=some ⟨b,o,none⟩:=rfl
theorem Ew{b o f off s:Nat}{ft:TypeId}(hf:Cy P t f=some (off,ft))(hs:szT P ft=some (s+1)) :
  ax P t (.pointer (some ⟨b,o,none⟩)) f=some (.pointer (some ⟨b,o+off,none⟩)):=by
 unfold ax
 simp [hf,hs,addA]
end Go.Ev
end
section
namespace Go.Ev
open Go
variable {P:Program} {ρ:Type}
def ldOf(ex:List Extra)(b:Nat):Prop:=∃ t a,Extra.l t a ∈ ex∧a.block=b
def nwOf(ex:List Extra)(b:Nat):Prop:=∃ id c e,Extra.a id c e ∈ ex∧id=b
theorem maskX_some{H:Hp}:∀ {ex:List Extra},(∀ y ∈ ex,(∃ t a,y=.l t a∧((∃ c e ro vec,H.get a.block=some (.cells c e ro vec))∨∃ c,H.get a.block=some (.rows c)))∨∃ id c e,y=.a id c e) →
  ∃ H1,lx ex H=some H1∧∀ b,H1.get b=H.get b∨((∃ c e ro vec,H.get b=some (.cells c e ro vec)∧H1.get b=some (.cells c e true vec))∧ldOf ex b)
 | [],_=>⟨H,rfl,fun _=>.inl rfl⟩
 | y::l,h=>by
  obtain⟨H1,e1,e2⟩:=maskX_some (ex:=l) (fun z hz=>h z (List.mem_cons_of_mem _ hz))
  have old:∀ b,H1.get b=H.get b∨((∃ c e ro vec,H.get b=some (.cells c e ro vec)∧H1.get b=some (.cells c e true vec))∧ldOf (y::l) b):=fun b=>by
   rcases e2 b with q | ⟨q,t',a',q1,q2⟩
   ·exact .inl q
   ·exact .inr ⟨q,t',a',List.mem_cons_of_mem _ q1,q2⟩
  rcases h y List.mem_cons_self with⟨t,a,rfl,ha⟩ | ⟨id,c,e,rfl⟩
  ·rcases ha with ⟨c, e, ro, vec, hc⟩ | ⟨c, hc⟩
   ·have hro : ∃ ro', H1.get a.block = some (.cells c e ro' vec) := by
     rcases e2 a.block with q | ⟨⟨c',e',ro',vec',q1,q2⟩,_⟩
     ·exact⟨ro,q.trans hc⟩
     ·rw[hc] at q1; cases q1; exact⟨true,q2⟩
    obtain⟨ro',h1⟩:=hro
    refine⟨H1.set a.block (some (.cells c e true vec)),by simp only[lx,e1,h1],fun b=>?_⟩
    rw[Tr.get_set]
    by_cases hb:b=a.block
    ·subst hb
     rw[if_pos rfl]
     exact .inr ⟨⟨c,e,ro,vec,hc,rfl⟩,t,a,List.mem_cons_self,rfl⟩
    ·rw[if_neg hb]; exact old b
   ·have h1 : H1.get a.block = some (.rows c) := by
     rcases e2 a.block with q | ⟨⟨c',e',ro',vec',q1,_⟩,_⟩
     ·exact q.trans hc
     ·rw[hc] at q1; cases q1
    exact⟨H1,by simp only[lx,e1,h1],old⟩
  ·exact⟨H1,by simp only[lx,e1],old⟩
theorem NX{H:Hp}:∀ {ex:List Extra} (b:Nat),(nwOf ex b→(lY ex H).get b=none)∧(¬ nwOf ex b→(lY ex H).get b=H.get b)
 | [],b=>⟨fun⟨_,_,_,h,_⟩=>(by cases h),fun _=>rfl⟩
 | y::l,b=>by
  obtain⟨i1,i2⟩:=NX (H:=H) (ex:=l) b
  cases y with
  | a id c e=>
   simp only[lY,Tr.get_set]
   constructor
   ·rintro ⟨id', c', e', h1, h2⟩
    by_cases q:b=id
    ·rw[if_pos q]
    ·rw [if_neg q]
     rcases List.mem_cons.1 h1 with z | z
     ·cases z; exact absurd h2.symm q
     ·exact i1 ⟨id',c',e',z,h2⟩
   ·intro h
    rw[if_neg (fun q=>h ⟨id,c,e,List.mem_cons_self,q.symm⟩)]
    exact i2 fun⟨id',c',e',h1,h2⟩=>h ⟨id',c',e',List.mem_cons_of_mem _ h1,h2⟩
  | _=>
   simp only[lY]
   refine⟨fun⟨id',c',e',h1,h2⟩=>i1 ?_,fun h=>i2 fun⟨id',c',e',h1,h2⟩=>h ⟨id',c',e',List.mem_cons_of_mem _ h1,h2⟩⟩
   rcases List.mem_cons.1 h1 with z | z
   ·cases z
   ·exact⟨id',c',e',z,h2⟩
theorem NY{H0 H:Hp}:∀ {ex:List Extra} (b:Nat),(nwOf ex b→(kj ex H0 H).get b=H0.get b)∧(¬ nwOf ex b→(kj ex H0 H).get b=H.get b)
 | [],b=>⟨fun⟨_,_,_,h,_⟩=>(by cases h),fun _=>rfl⟩
 | y::l,b=>by
  obtain⟨i1,i2⟩:=NY (H0:=H0) (H:=H) (ex:=l) b
  cases y with
  | a id c e=>
   simp only[kj,Tr.get_set]
   constructor
   ·rintro ⟨id', c', e', h1, h2⟩
    by_cases q:b=id
    ·rw[if_pos q,q]
    ·rw [if_neg q]
     rcases List.mem_cons.1 h1 with z | z
     ·cases z; exact absurd h2.symm q
     ·exact i1 ⟨id',c',e',z,h2⟩
   ·intro h
    rw[if_neg (fun q=>h ⟨id,c,e,List.mem_cons_self,q.symm⟩)]
    exact i2 fun⟨id',c',e',h1,h2⟩=>h ⟨id',c',e',List.mem_cons_of_mem _ h1,h2⟩
  | _=>
   simp only[kj]
   refine⟨fun⟨id',c',e',h1,h2⟩=>i1 ?_,fun h=>i2 fun⟨id',c',e',h1,h2⟩=>h ⟨id',c',e',List.mem_cons_of_mem _ h1,h2⟩⟩
   rcases List.mem_cons.1 h1 with z | z
   ·cases z
   ·exact⟨id',c',e',z,h2⟩
theorem backX_some{H0 H:Hp}:∀ {ex:List Extra},(∀ y ∈ ex,(∃ t a,y=.l t a∧(H.get a.block).isSome)∨∃ id c e,y=.a id c e)→∃ H1,lZ ex H0 H=some H1∧(∀ b,ldOf ex b→H1.get b=H0.get b)∧∀ b,¬ ldOf ex b→H1.get b=H.get b
 | [],_=>⟨H,rfl,fun b ⟨t,a,h,_⟩=>(by cases h),fun _ _=>rfl⟩
 | y::l,h=>by
  obtain⟨H1,e1,e2,e3⟩:=backX_some (H0:=H0) (ex:=l) (fun z hz=>h z (List.mem_cons_of_mem _ hz))
  rcases h y List.mem_cons_self with⟨t,a,rfl,ha⟩ | ⟨id,c,e,rfl⟩
  ·obtain ⟨B, h1⟩ := Option.isSome_iff_exists.1 ha
   refine⟨H1.set a.block (H0.get a.block),by simp only[lZ,e1,h1],fun b hb=>?_,fun b hb=>?_⟩
   ·rw [Tr.get_set]
    by_cases hab:b=a.block
    ·rw[if_pos hab,hab]
    ·rw [if_neg hab]
     obtain⟨t',a',q1,q2⟩:=hb
     rcases List.mem_cons.1 q1 with q | q
     ·cases q; exact absurd q2.symm hab
     ·exact e2 b ⟨t',a',q,q2⟩
   ·rw [Tr.get_set, if_neg (fun q => hb ⟨t, a, List.mem_cons_self, q.symm⟩)]
    exact e3 b (fun⟨t',a',q1,q2⟩=>hb ⟨t',a',List.mem_cons_of_mem _ q1,q2⟩)
  ·refine ⟨H1, by simp only [lZ, e1], fun b hb => ?_, fun b hb => e3 b fun ⟨t', a', q1, q2⟩ => hb ⟨t', a', List.mem_cons_of_mem _ q1, q2⟩⟩
   obtain⟨t',a',q1,q2⟩:=hb
   rcases List.mem_cons.1 q1 with q | q
   ·cases q
   ·exact e2 b ⟨t',a',q,q2⟩
end Go.Ev
end
section
namespace Go.Ev
open Go
inductive D where
 | v (x:Value)
 | agg (l:List D)
 | sl (els:List D)
 | ref (cells:List D)
 | fn (f:FuncId) (a b:List D)
 | tup (l:List D)
 | opq
 | yld (l:Nat)
 | map (es:List MapEntry) (c:Nat)
noncomputable def vq:Value→Bool
 | .bool _ | .int _ _ | .string _ | .nilFunc=>true
 | .pointer a=>a.isNone
 | .slice a n c=>a.isNone && Nat.beq n 0 && Nat.beq c 0
 | .map r=>r.isNone
 | _=>false
noncomputable def bz:D→Bool
 | .agg _ | .tup _=>false
 | _=>true
noncomputable def datD:D→Bool
 | .tup _=>false
 | _=>true
noncomputable def nW:D→List D
 | .agg l=>l
 | d=>[d]
mutual
noncomputable def DRel(F:Nat→Prop)(H:Hp):D→Value→Prop
 | .v x,v=>v=x∧vq x=true
 | .agg l,v=>l.all bz=true∧∃ vs,v=.agg ⟨vs⟩∧bj F H l vs
 | .sl els,v=>(v=.slice none 0 0∧els=[])∨(∃ b o cap s,v=.slice (some ⟨b,o,none⟩) els.length cap∧els.length≤cap∧cap≤capR∧(els=[]∨(F b∧DAt F H els b o s)))∨(els=[]∧∃ a cap,v=.slice (some a) 0 cap∧cap≤capE)
 | .ref cells,v=>cells.all bz=true∧∃ b o,v=.pointer (some ⟨b,o,none⟩)∧F b∧DAt F H cells b o 1
 | .fn f a b,v=>∃ va vb,v=.func (.func f) ⟨va⟩ ⟨vb⟩∧bj F H a va∧bj F H b vb
 | .tup l,v=>∃ vs,v=.tuple ⟨vs⟩∧bj F H l vs
 | .opq,v=>tV v=true∧nJ v=true∧wv v=true∧aV v=[v]∧aY v=none
 | .yld l,v=>v=.func (.yield l) ⟨[]⟩ ⟨[]⟩
 | .map es c,v=>∃ b,v=.map (some b)∧F b∧H.get b=some (.map es c)
noncomputable def bj(F:Nat→Prop)(H:Hp):List D→List Value→Prop
 | [],vs=>vs=[]
 | d::l,vs=>∃ v vs',vs=v::vs'∧DRel F H d v∧bj F H l vs'
noncomputable def DAt(F:Nat→Prop)(H:Hp):List D→Nat→Nat→Nat→Prop
 | [],_,_,_=>True
 | d::l,b,o,s=>(datD d=true∧∃ v,DRel F H d v∧(aV v).length=s∧fk H b o (aV v))∧DAt F H l b (o+s) s
end
noncomputable def Fz(F:Nat→Prop)(H H':Hp):Prop:=∀ b,F b→(∀ o vs,fk H b o vs→fk H' b o vs)∧∀ es c,H.get b=some (.map es c)→H'.get b=some (.map es c)
theorem Fz.refl{F:Nat→Prop}{H:Hp}:Fz F H H:=fun _ _=>⟨fun _ _ h=>h,fun _ _ h=>h⟩
theorem Fz.trans{F F':Nat→Prop}{H1 H2 H3:Hp}(h:Fz F H1 H2)(hF:∀ b,F b→F' b)(g:Fz F' H2 H3):Fz F H1 H3:=fun b hb=>⟨fun _ _ c=>(g b (hF b hb)).1 _ _ ((h b hb).1 _ _ c),fun _ _ c=>(g b (hF b hb)).2 _ _ ((h b hb).2 _ _ c)⟩
theorem Fz.of_eq{F:Nat→Prop}{H H':Hp}(h:∀ b,F b→H'.get b=H.get b):Fz F H H':=fun b hb=>⟨fun _ _ ⟨B,c,h1,h2,h3⟩=>⟨B,c,(h b hb).trans h1,h2,h3⟩,fun _ _ e=>(h b hb).trans e⟩
variable {F F':Nat→Prop} {H H':Hp}
mutual
theorem DRel.mono(hF:∀ b,F b→F' b)(hH:Fz F H H'):∀(d:D) (v:Value),DRel F H d v→DRel F' H' d v
 | .v x,v,h=>by unfold DRel at h ⊢; exact h
 | .agg l,v,h=>by
  unfold DRel at h ⊢
  obtain⟨h0,vs,rfl,h1⟩:=h
  exact⟨h0,vs,rfl,bj.mono hF hH l vs h1⟩
 | .sl els,v,h=>by
  unfold DRel at h ⊢
  rcases h with h | ⟨b,o,cap,s,rfl,h1,h2,h3⟩ | h
  ·exact .inl h
  ·exact .inr (.inl ⟨b,o,cap,s,rfl,h1,h2,h3.imp id fun⟨a,c⟩=>⟨hF b a,DAt.mono hF hH els b o s (hH b a).1 c⟩⟩)
  ·exact .inr (.inr h)
 | .ref cells,v,h=>by
  unfold DRel at h ⊢
  obtain⟨h0,b,o,rfl,h1,h2⟩:=h
  exact⟨h0,b,o,rfl,hF b h1,DAt.mono hF hH cells b o 1 (hH b h1).1 h2⟩
 | .fn f a b,v,h=>by
  unfold DRel at h ⊢
  obtain⟨va,vb,rfl,h1,h2⟩:=h
  exact⟨va,vb,rfl,bj.mono hF hH a va h1,bj.mono hF hH b vb h2⟩
 | .tup l,v,h=>by
  unfold DRel at h ⊢
  obtain⟨vs,rfl,h1⟩:=h
  exact⟨vs,rfl,bj.mono hF hH l vs h1⟩
 | .opq,v,h=>by unfold DRel at h ⊢; exact h
 | .yld l,v,h=>by unfold DRel at h ⊢; exact h
 | .map es c,v,h=>by
  unfold DRel at h ⊢
  obtain⟨b,rfl,h1,h2⟩:=h
  exact⟨b,rfl,hF b h1,(hH b h1).2 _ _ h2⟩
theorem bj.mono(hF:∀ b,F b→F' b)(hH:Fz F H H'):∀(l:List D) (vs:List Value),bj F H l vs→bj F' H' l vs
 | [],vs,h=>by unfold bj at h ⊢; exact h
 | d::l,vs,h=>by
  unfold bj at h ⊢
  obtain⟨v,vs',rfl,h1,h2⟩:=h
  exact⟨v,vs',rfl,DRel.mono hF hH d v h1,bj.mono hF hH l vs' h2⟩
theorem DAt.mono(hF:∀ b,F b→F' b)(hH:Fz F H H'):∀(l:List D) (b o s:Nat),(∀ o vs,fk H b o vs→fk H' b o vs)→DAt F H l b o s→DAt F' H' l b o s
 | [],_,_,_,_,_=>by unfold DAt; trivial
 | d::l,b,o,s,hb,h=>by
  unfold DAt at h ⊢
  obtain⟨⟨h0,v,h1,h2,h3⟩,h4⟩:=h
  exact⟨⟨h0,v,DRel.mono hF hH d v h1,h2,hb o _ h3⟩,DAt.mono hF hH l b (o+s) s hb h4⟩
end
noncomputable def noF:Nat→Prop:=fun _=>False
mutual
theorem DRel.pure:∀(d:D) (v:Value),DRel F H d v→bQ v=true→DRel noF .nil d v
 | .v x,v,h,_=>by unfold DRel at h ⊢; exact h
 | .agg l,v,h,hp=>by
  unfold DRel at h ⊢
  obtain⟨h0,vs,rfl,h1⟩:=h
  simp only[bQ,lQ] at hp
  exact⟨h0,vs,rfl,bj.pure l vs h1 hp⟩
 | .sl els,v,h,hp=>by
  unfold DRel at h ⊢
  rcases h with h | ⟨b,o,cap,s,rfl,h1,h2,h3⟩ | ⟨_,a,cap,rfl,_⟩
  ·exact .inl h
  ·simp [bQ] at hp
  ·simp [bQ] at hp
 | .ref cells,v,h,hp=>by
  unfold DRel at h
  obtain⟨h0,b,o,rfl,h1,h2⟩:=h
  simp [bQ] at hp
 | .fn f a b,v,h,hp=>by
  unfold DRel at h ⊢
  obtain⟨va,vb,rfl,h1,h2⟩:=h
  simp only[bQ,lQ,Bool.and_eq_true,Bool.true_and] at hp
  exact⟨va,vb,rfl,bj.pure a va h1 hp.1,bj.pure b vb h2 hp.2⟩
 | .tup l,v,h,hp=>by
  unfold DRel at h ⊢
  obtain⟨vs,rfl,h1⟩:=h
  simp only[bQ,lQ] at hp
  exact⟨vs,rfl,bj.pure l vs h1 hp⟩
 | .opq,v,h,_=>by unfold DRel at h ⊢; exact h
 | .yld l,v,h,_=>by unfold DRel at h ⊢; exact h
 | .map es c,v,h,hp=>by
  unfold DRel at h
  obtain⟨b,rfl,h1,h2⟩:=h
  simp [bQ] at hp
theorem bj.pure:∀(l:List D) (vs:List Value),bj F H l vs→eQ vs=true→bj noF .nil l vs
 | [],vs,h,_=>by unfold bj at h ⊢; exact h
 | d::l,vs,h,hp=>by
  unfold bj at h ⊢
  obtain⟨v,vs',rfl,h1,h2⟩:=h
  simp only[eQ,Bool.and_eq_true] at hp
  exact⟨v,vs',rfl,DRel.pure d v h1 hp.1,bj.pure l vs' h2 hp.2⟩
end
theorem uk{x:Value}(h:vq x=true):tV x=true∧nJ x=true∧wv x=true∧bQ x=true∧aV x=[x]:=by
 cases x <;> simp [vq] at h <;> simp_all [tV,nJ,wv,bQ,aV]
theorem DRel.leaf{d:D}{v:Value}(h:DRel F H d v)(hd:bz d=true):tV v=true∧nJ v=true∧wv v=true∧aV v=[v]:=by
 cases d with
 | v x=>unfold DRel at h; obtain⟨rfl,h⟩:=h; exact⟨(uk h).1,(uk h).2.1,(uk h).2.2.1,(uk h).2.2.2.2⟩
 | agg l=>cases hd
 | sl els=>
  unfold DRel at h
  rcases h with⟨rfl,_⟩ | ⟨b,o,cap,s,rfl,_⟩ | ⟨_,a,cap,rfl,_⟩ <;> exact⟨rfl,rfl,rfl,rfl⟩
 | ref cells=>unfold DRel at h; obtain⟨_,b,o,rfl,_⟩:=h; exact⟨rfl,rfl,rfl,rfl⟩
 | fn f a b=>unfold DRel at h; obtain⟨va,vb,rfl,_⟩:=h; exact⟨rfl,rfl,rfl,rfl⟩
 | tup l=>cases hd
 | opq=>unfold DRel at h; exact⟨h.1,h.2.1,h.2.2.1,h.2.2.2.1⟩
 | yld l=>unfold DRel at h; subst h; exact⟨rfl,rfl,rfl,rfl⟩
 | map es c=>unfold DRel at h; obtain⟨b,rfl,_⟩:=h; exact⟨rfl,rfl,rfl,rfl⟩
theorem bj.length:∀ {l:List D} {vs:List Value},bj F H l vs→vs.length=l.length
 | [],vs,h=>by unfold bj at h; subst h; rfl
 | d::l,vs,h=>by
  unfold bj at h
  obtain⟨v,vs',rfl,_,h2⟩:=h
  simp [bj.length h2]
theorem bj.get:∀ {l:List D} {vs:List Value} {i:Nat} {d:D},bj F H l vs→l[i]?=some d→∃ v,vs[i]?=some v∧DRel F H d v
 | [],_,_,_,_,e=>by cases e
 | d::l,vs,i,x,h,e=>by
  unfold bj at h
  obtain⟨v,vs',rfl,h1,h2⟩:=h
  cases i with
  | zero=>cases e; exact⟨v,rfl,h1⟩
  | succ i=>exact bj.get (l:=l) (i:=i) h2 (by simpa using e)
theorem bj.leafs:∀ {l:List D} {vs:List Value},bj F H l vs→l.all bz=true→vs.all tV=true∧vs.all nJ=true
 | [],vs,h,_=>by unfold bj at h; subst h; exact⟨rfl,rfl⟩
 | d::l,vs,h,hl=>by
  unfold bj at h
  obtain⟨v,vs',rfl,h1,h2⟩:=h
  simp only[List.all_cons,Bool.and_eq_true] at hl ⊢
  have a:=h1.leaf hl.1
  have b:=bj.leafs h2 hl.2
  exact⟨⟨a.1,b.1⟩,a.2.1,b.2⟩
theorem DRel.cells{d:D}{v:Value}(h:DRel F H d v)(hd:datD d=true):bj F H (nW d) (aV v)∧(nW d).all bz=true:=by
 by_cases hl:bz d=true
 ·have hq := h.leaf hl
  have e:nW d=[d]:=by cases d <;> first | rfl | cases hl
  rw[hq.2.2.2,e]
  refine⟨?_,by simp [hl]⟩
  simp only[bj]
  exact⟨v,[],rfl,h,rfl⟩
 ·cases d with
  | agg l=>
   unfold DRel at h
   obtain⟨h0,vs,rfl,h1⟩:=h
   exact⟨h1,h0⟩
  | tup l=>cases hd
  | _=>exact absurd rfl hl
theorem fk.sub{b o k:Nat}{vs us:List Value}(h:fk H b o vs)(hk:∀(j:Nat) u,us[j]?=some u→vs[k+j]?=some u):fk H b (o+k) us:=by
 obtain⟨B,c,h1,h2,h3⟩:=h
 exact⟨B,c,h1,h2,fun j u hj=>by have:=h3 (k+j) u (hk j u hj); rw[← this]; congr 1; omega⟩
theorem DAt.get:∀ {l:List D} {b o s i:Nat} {d:D},DAt F H l b o s→l[i]?=some d→datD d=true∧∃ v,DRel F H d v∧(aV v).length=s∧fk H b (o+i * s) (aV v)
 | [],_,_,_,_,_,_,e=>by cases e
 | d::l,b,o,s,i,x,h,e=>by
  unfold DAt at h
  cases i with
  | zero=>cases e; simpa using h.1
  | succ i=>
   obtain⟨h0,v,h1,h2,h3⟩:=DAt.get (l:=l) (i:=i) h.2 (by simpa using e)
   exact⟨h0,v,h1,h2,by
    have:o+s+i * s=o+(i+1) * s:=by rw[Nat.succ_mul]; omega
    rw[← this]; exact h3⟩
theorem DAt.of_get:∀ {l:List D} {b o s:Nat},(∀(i:Nat) d,l[i]?=some d→datD d=true∧∃ v,DRel F H d v∧(aV v).length=s∧fk H b (o+i * s) (aV v))→DAt F H l b o s
 | [],_,_,_,_=>by unfold DAt; trivial
 | d::l,b,o,s,h=>by
  unfold DAt
  refine⟨by simpa using h 0 d rfl,DAt.of_get fun i x e=>?_⟩
  obtain⟨h0,v,h1,h2,h3⟩:=h (i+1) x e
  exact⟨h0,v,h1,h2,by
   have:o+s+i * s=o+(i+1) * s:=by rw[Nat.succ_mul]; omega
   rw[this]; exact h3⟩
theorem VV{d:D}(h:bz d=true):datD d=true:=by cases d <;> first | rfl | cases h
theorem DAt.of_cells{l:List D}{vs:List Value}{b o:Nat}(h:bj F H l vs)(hc:fk H b o vs)(hl:l.all bz=true):DAt F H l b o 1:=by
 refine DAt.of_get fun i d e=>?_
 obtain⟨v,hv,h1⟩:=h.get e
 have hd:bz d=true:=by rw[List.all_eq_true] at hl; exact hl d (List.mem_of_getElem? e)
 have hq:=h1.leaf hd
 refine⟨VV hd,v,h1,by rw[hq.2.2.2]; rfl,?_⟩
 rw[hq.2.2.2,Nat.mul_one]
 refine hc.sub fun j u hj=>?_
 cases j with
 | zero=>cases hj; exact hv
 | succ j=>cases hj
theorem DAt.drop{l:List D}{b o s:Nat}(k:Nat)(h:DAt F H l b o s):DAt F H (l.drop k) b (o+k * s) s:=by
 refine DAt.of_get fun i d e=>?_
 rw[List.getElem?_drop] at e
 obtain⟨h0,v,h1,h2,h3⟩:=h.get e
 exact⟨h0,v,h1,h2,by
  have:o+k * s+i * s=o+(k+i) * s:=by rw[Nat.add_mul]; omega
  rw[this]; exact h3⟩
theorem DAt.flat:∀ {l:List D} {b o:Nat},DAt F H l b o 1→l.all bz=true→l≠[]→∃ vs,bj F H l vs∧fk H b o vs
 | [],_,_,_,_,hn=>absurd rfl hn
 | d::l,b,o,h,hl,_=>by
  simp only[List.all_cons,Bool.and_eq_true] at hl
  unfold DAt at h
  obtain⟨⟨_,v,h1,_,h3⟩,h4⟩:=h
  rw[(h1.leaf hl.1).2.2.2] at h3
  obtain⟨B,c,hB,hc,hcell⟩:=h3
  by_cases hn:l=[]
  ·subst hn
   refine⟨[v],?_,B,c,hB,hc,hcell⟩
   simp only[bj]; exact⟨v,[],rfl,h1,rfl⟩
  ·obtain ⟨vs, g1, B', c', hB', hc', g2⟩ := DAt.flat h4 hl.2 hn
   rw[hB] at hB'; cases hB'
   rw[hc] at hc'; cases hc'
   refine⟨v::vs,?_,B,c,hB,hc,fun k u hu=>?_⟩
   ·unfold bj; exact⟨v,vs,rfl,h1,g1⟩
   ·cases k with
    | zero=>exact hcell 0 u hu
    | succ k=>have:=g2 k u hu; rw[← this]; congr 1; omega
noncomputable def cutD(l:List D)(o s:Nat):Option (List D):=if o+s≤l.length∧1≤s then some ((l.drop o).take s) else none
variable {P:Program} {t:TypeId}
theorem DAt.load1{l:List D}{b o k:Nat}{d:D}(h:DAt F H l b o 1)(hl:l.all bz=true)(e:l[k]?=some d)(ht:pz P t=some false):∃ v,aJ P H t ⟨b,o+k,none⟩=some v∧DRel F H d v:=by
 obtain⟨_,v,h1,_,h3⟩:=h.get e
 have hd:bz d=true:=by rw[List.all_eq_true] at hl; exact hl d (List.mem_of_getElem? e)
 have hq:=h1.leaf hd
 rw[hq.2.2.2,Nat.mul_one] at h3
 exact⟨v,loadV_scalar (k:=0) h3 ht rfl hq.2.1 hq.2.2.1,h1⟩
theorem bj.take:∀ {l:List D} {vs:List Value} (k:Nat),bj F H l vs→bj F H (l.take k) (vs.take k)
 | _,_,0,_=>by simp [bj]
 | [],vs,k+1,h=>by unfold bj at h; subst h; simp [bj]
 | d::l,vs,k+1,h=>by
  unfold bj at h
  obtain⟨v,vs',rfl,h1,h2⟩:=h
  simp only[List.take_succ_cons,bj]
  exact⟨v,_,rfl,h1,bj.take k h2⟩
theorem bj.drop:∀ {l:List D} {vs:List Value} (k:Nat),bj F H l vs→bj F H (l.drop k) (vs.drop k)
 | _,_,0,h=>h
 | [],vs,k+1,h=>by unfold bj at h; subst h; simp [bj]
 | d::l,vs,k+1,h=>by
  unfold bj at h
  obtain⟨v,vs',rfl,h1,h2⟩:=h
  exact bj.drop k h2
theorem bj.append:∀ {l l':List D} {vs vs':List Value},bj F H l vs→bj F H l' vs'→bj F H (l++l') (vs++vs')
 | [],_,vs,_,h,g=>by unfold bj at h; subst h; exact g
 | d::l,_,vs,_,h,g=>by
  unfold bj at h
  obtain⟨v,vs'',rfl,h1,h2⟩:=h
  simp only[List.cons_append,bj]
  exact⟨v,_,rfl,h1,bj.append h2 g⟩
theorem all_drop_take{l:List D}{o s:Nat}(h:l.all bz=true):((l.drop o).take s).all bz=true:=by
 rw[List.all_eq_true] at h ⊢
 exact fun x hx=>h x (List.mem_of_mem_drop (List.mem_of_mem_take hx))
theorem DAt.loadN{l l':List D}{b o k s:Nat}(h:DAt F H l b o 1)(hl:l.all bz=true)(e:cutD l k s=some l')(ht:pz P t=some true)(hs:szT P t=some s) :
  ∃ vs,aJ P H t ⟨b,o+k,none⟩=some (.agg ⟨vs⟩)∧bj F H l' vs∧l'.all bz=true:=by
 unfold cutD at e
 split at e
 ·rename_i hc
  cases e
  have hne:l≠[]:=by rintro rfl; simp at hc; omega
  obtain⟨vs,g1,g2⟩:=h.flat hl hne
  have hlen:=g1.length
  refine⟨(vs.drop k).take s,?_,(g1.drop k).take s,all_drop_take hl⟩
  exact loadV_agg g2 ht hs (by omega) (g1.leafs hl).2
 ·cases e
end Go.Ev
end
section
namespace Go.Ev
open Go
inductive AV where
 | d (x:D)
 | loc (s o:Nat)
 | osl (s:Nat)
 | elo (s i o:Nat)
 | mp (s:Nat)
 | asl (s o n c:Nat)
 | agg (l:List AV)
 | fn (f:FuncId) (a b:List AV)
 | bad
 | b (c:Bool)
 | und
inductive Bx where
 | dat (cells:List D) (fz:Bool)
 | box (cells:List AV)
 | vec (els:List D) (e:TypeId) (sz:Nat) (fz:Bool)
 | map (es:List MapEntry) (c:Nat) (fz:Bool)
 | env (l:List (Nat × AV))
structure Si where
 b:Nat
 len:Nat
 cap:Nat
 sz:Nat
 nil:Bool
 tm:Tm
noncomputable def oW:AV→Bool
 | .agg _ | .und=>false
 | .d x=>bz x
 | _=>true
mutual
noncomputable def okA(Q:Nat→Bool):AV→Bool
 | .d _ | .bad | .b _ | .und=>true
 | .loc s _ | .osl s | .elo s _ _ | .mp s | .asl s _ _ _=>Q s
 | .agg l=>okAL Q l
 | .fn _ a b=>okAL Q a && okAL Q b
noncomputable def okAL(Q:Nat→Bool):List AV→Bool
 | []=>true
 | a::l=>okA Q a && okAL Q l
end
noncomputable def okB(Q:Nat→Bool):Bx→Bool
 | .box l=>okAL Q l
 | .env l=>l.all fun x=>okA Q x.2
 | _=>true
mutual
noncomputable def VRel(σ:Nat→Option Si)(F:Nat→Prop)(H:Hp):AV→Value→Prop
 | .d x,v=>DRel F H x v
 | .loc s o,v=>∃ i,σ s=some i∧i.nil=false∧v=.pointer (some ⟨i.b,o,none⟩)
 | .osl s,v=>∃ i,σ s=some i∧((i.nil=true∧v=.slice none 0 0)∨(i.nil=false∧v=.slice (some ⟨i.b,0,none⟩) i.len i.cap))
 | .elo s k o,v=>∃ i,σ s=some i∧i.nil=false∧v=.pointer (some ⟨i.b,k * i.sz+o,none⟩)
 | .mp s,v=>∃ i,σ s=some i∧i.nil=false∧v=.map (some i.b)
 | .asl s o n c,v=>∃ i,σ s=some i∧i.nil=false∧n≤c∧c<capV∧v=.slice (some ⟨i.b,o,none⟩) n c
 | .agg l,v=>l.all oW=true∧∃ vs,v=.agg ⟨vs⟩∧bW σ F H l vs
 | .fn f a b,v=>∃ va vb,v=.func (.func f) ⟨va⟩ ⟨vb⟩∧bW σ F H a va∧bW σ F H b vb
 | .bad,v=>tV v=true
 | .b c,v=>v=.bool c
 | .und,v=>v=undef
noncomputable def bW(σ:Nat→Option Si)(F:Nat→Prop)(H:Hp):List AV→List Value→Prop
 | [],vs=>vs=[]
 | a::l,vs=>∃ v vs',vs=v::vs'∧VRel σ F H a v∧bW σ F H l vs'
end
structure KI (ρ:Type) where
 C:Nat→Prop
 O:Nat→Prop
 oc:∀ b,O b→C b
 ok:Hp→Prop
 st:∀ H H',(∀ b,C b→H'.get b=H.get b)→ok H→ok H'
 Fs:Nat→Prop
 tm:Nat→Tm
 ds:List Nat
 R:Nat→(Nat→Prop)→Option ρ→D→Prop
variable {σ σ':Nat→Option Si} {F F' F0:Nat→Prop} {H H':Hp} {ρ:Type} {H0:KI ρ} {n n' n0:Nat} {Q:Nat→Bool}
mutual
theorem VRel.only(hσ:∀ s i,Q s=true→σ s=some i→σ' s=some i)(hF:∀ b,F b→F' b)(hH:Fz F H H'):∀(a:AV) (v:Value),okA Q a=true→VRel σ F H a v→VRel σ' F' H' a v
 | .d x,v,_,h=>by unfold VRel at h ⊢; exact h.mono hF hH
 | .loc s o,v,hq,h=>by
  unfold okA at hq; unfold VRel at h ⊢
  obtain⟨i,h1,h2⟩:=h; exact⟨i,hσ s i hq h1,h2⟩
 | .osl s,v,hq,h=>by
  unfold okA at hq; unfold VRel at h ⊢
  obtain⟨i,h1,h2⟩:=h; exact⟨i,hσ s i hq h1,h2⟩
 | .elo s k o,v,hq,h=>by
  unfold okA at hq; unfold VRel at h ⊢
  obtain⟨i,h1,h2⟩:=h; exact⟨i,hσ s i hq h1,h2⟩
 | .mp s,v,hq,h=>by
  unfold okA at hq; unfold VRel at h ⊢
  obtain⟨i,h1,h2⟩:=h; exact⟨i,hσ s i hq h1,h2⟩
 | .asl s o n c,v,hq,h=>by
  unfold okA at hq; unfold VRel at h ⊢
  obtain⟨i,h1,h2⟩:=h; exact⟨i,hσ s i hq h1,h2⟩
 | .agg l,v,hq,h=>by
  unfold okA at hq; unfold VRel at h ⊢
  obtain⟨h0,vs,rfl,h1⟩:=h; exact⟨h0,vs,rfl,bW.only hσ hF hH l vs hq h1⟩
 | .fn f a b,v,hq,h=>by
  unfold okA at hq; unfold VRel at h ⊢
  rw[Bool.and_eq_true] at hq
  obtain⟨va,vb,rfl,h1,h2⟩:=h; exact⟨va,vb,rfl,bW.only hσ hF hH a va hq.1 h1,bW.only hσ hF hH b vb hq.2 h2⟩
 | .bad,v,_,h=>by unfold VRel at h ⊢; exact h
 | .b c,v,_,h=>by unfold VRel at h ⊢; exact h
 | .und,v,_,h=>by unfold VRel at h ⊢; exact h
theorem bW.only(hσ:∀ s i,Q s=true→σ s=some i→σ' s=some i)(hF:∀ b,F b→F' b)(hH:Fz F H H'):∀(l:List AV) (vs:List Value),okAL Q l=true→bW σ F H l vs→bW σ' F' H' l vs
 | [],vs,_,h=>by unfold bW at h ⊢; exact h
 | a::l,vs,hq,h=>by
  unfold okAL at hq; unfold bW at h ⊢
  rw[Bool.and_eq_true] at hq
  obtain⟨v,vs',rfl,h1,h2⟩:=h; exact⟨v,vs',rfl,VRel.only hσ hF hH a v hq.1 h1,bW.only hσ hF hH l vs' hq.2 h2⟩
end
mutual
theorem qlj:∀ a:AV,okA (fun _=>true) a=true
 | .d _ | .bad | .b _ | .und | .loc _ _ | .osl _ | .elo _ _ _ | .mp _ | .asl _ _ _ _=>by simp [okA]
 | .agg l=>by unfold okA; exact xJ l
 | .fn _ a b=>by unfold okA; rw[xJ a,xJ b]; rfl
theorem xJ:∀ l:List AV,okAL (fun _=>true) l=true
 | []=>by simp [okAL]
 | a::l=>by unfold okAL; rw[qlj a,xJ l]; rfl
end
theorem VRel.mono(hσ:∀ s i,σ s=some i→σ' s=some i)(hF:∀ b,F b→F' b)(hH:Fz F H H'){a:AV}{v:Value}(h:VRel σ F H a v):VRel σ' F' H' a v:=
 VRel.only (Q:=fun _=>true) (fun s i _=>hσ s i) hF hH a v (qlj a) h
theorem bW.mono(hσ:∀ s i,σ s=some i→σ' s=some i)(hF:∀ b,F b→F' b)(hH:Fz F H H'){l:List AV}{vs:List Value}(h:bW σ F H l vs):bW σ' F' H' l vs:=
 bW.only (Q:=fun _=>true) (fun s i _=>hσ s i) hF hH l vs (xJ l) h
theorem VRel.leaf{a:AV}{v:Value}(h:VRel σ F H a v)(ha:oW a=true):tV v=true∧aV v=[v]:=by
 cases a with
 | d x=>unfold VRel at h; exact⟨(h.leaf ha).1,(h.leaf ha).2.2.2⟩
 | loc s o=>unfold VRel at h; obtain⟨i,_,_,rfl⟩:=h; exact⟨rfl,rfl⟩
 | osl s=>unfold VRel at h; obtain⟨i,_,⟨_,rfl⟩ | ⟨_,rfl⟩⟩:=h <;> exact⟨rfl,rfl⟩
 | elo s k o=>unfold VRel at h; obtain⟨i,_,_,rfl⟩:=h; exact⟨rfl,rfl⟩
 | mp s=>unfold VRel at h; obtain⟨i,_,_,rfl⟩:=h; exact⟨rfl,rfl⟩
 | asl s o n c=>unfold VRel at h; obtain⟨i,_,_,_,_,rfl⟩:=h; exact⟨rfl,rfl⟩
 | agg l=>cases ha
 | fn f a b=>unfold VRel at h; obtain⟨va,vb,rfl,_⟩:=h; exact⟨rfl,rfl⟩
 | bad=>unfold VRel at h; exact⟨h,by cases v <;> first | rfl | cases h⟩
 | b c=>unfold VRel at h; subst h; exact⟨rfl,rfl⟩
 | und=>cases ha
theorem bW.length:∀ {l:List AV} {vs:List Value},bW σ F H l vs→vs.length=l.length
 | [],vs,h=>by unfold bW at h; subst h; rfl
 | a::l,vs,h=>by
  unfold bW at h
  obtain⟨v,vs',rfl,_,h2⟩:=h
  simp [bW.length h2]
theorem bW.get:∀ {l:List AV} {vs:List Value} {i:Nat} {a:AV},bW σ F H l vs→l[i]?=some a→∃ v,vs[i]?=some v∧VRel σ F H a v
 | [],_,_,_,_,e=>by cases e
 | a::l,vs,i,x,h,e=>by
  unfold bW at h
  obtain⟨v,vs',rfl,h1,h2⟩:=h
  cases i with
  | zero=>cases e; exact⟨v,rfl,h1⟩
  | succ i=>exact bW.get (l:=l) (i:=i) h2 (by simpa using e)
theorem bW.leafs:∀ {l:List AV} {vs:List Value},bW σ F H l vs→l.all oW=true→vs.all tV=true
 | [],vs,h,_=>by unfold bW at h; subst h; rfl
 | d::l,vs,h,hl=>by
  unfold bW at h
  obtain⟨v,vs',rfl,h1,h2⟩:=h
  simp only[List.all_cons,Bool.and_eq_true] at hl ⊢
  exact⟨(h1.leaf hl.1).1,bW.leafs h2 hl.2⟩
theorem bW.take:∀ {l:List AV} {vs:List Value} (k:Nat),bW σ F H l vs→bW σ F H (l.take k) (vs.take k)
 | _,_,0,_=>by simp [bW]
 | [],vs,k+1,h=>by unfold bW at h; subst h; simp [bW]
 | d::l,vs,k+1,h=>by
  unfold bW at h
  obtain⟨v,vs',rfl,h1,h2⟩:=h
  simp only[List.take_succ_cons,bW]
  exact⟨v,_,rfl,h1,bW.take k h2⟩
theorem bW.drop:∀ {l:List AV} {vs:List Value} (k:Nat),bW σ F H l vs→bW σ F H (l.drop k) (vs.drop k)
 | _,_,0,h=>h
 | [],vs,k+1,h=>by unfold bW at h; subst h; simp [bW]
 | d::l,vs,k+1,h=>by
  unfold bW at h
  obtain⟨v,vs',rfl,h1,h2⟩:=h
  exact bW.drop k h2
theorem bW.append:∀ {l l':List AV} {vs vs':List Value},bW σ F H l vs→bW σ F H l' vs'→bW σ F H (l++l') (vs++vs')
 | [],_,vs,_,h,g=>by unfold bW at h; subst h; exact g
 | d::l,_,vs,_,h,g=>by
  unfold bW at h
  obtain⟨v,vs'',rfl,h1,h2⟩:=h
  simp only[List.cons_append,bW]
  exact⟨v,_,rfl,h1,bW.append h2 g⟩
theorem bW.of_D:∀ {l:List D} {vs:List Value},bj F H l vs→bW σ F H (l.map .d) vs
 | [],vs,h=>by unfold bj at h; simp only[List.map_nil,bW]; exact h
 | d::l,vs,h=>by
  unfold bj at h
  obtain⟨v,vs',rfl,h1,h2⟩:=h
  simp only[List.map_cons,bW]
  exact⟨v,vs',rfl,by unfold VRel; exact h1,bW.of_D h2⟩
noncomputable def allD:List AV→Option (List D)
 | []=>some []
 | .d x::l=>match allD l with
  | some ds=>some (x::ds)
  | none=>none
 | _::_=>none
theorem bW.to_D:∀ {l:List AV} {vs:List Value} {ds:List D},bW σ F H l vs→allD l=some ds→bj F H ds vs∧(l.all oW=true→ds.all bz=true)
 | [],vs,ds,h,e=>by cases e; unfold bW at h; unfold bj; exact⟨h,fun _=>rfl⟩
 | a::l,vs,ds,h,e=>by
  unfold bW at h
  obtain⟨v,vs',rfl,h1,h2⟩:=h
  cases a with
  | d x=>
   simp only[allD] at e
   split at e
   ·rename_i ds' e'
    cases e
    have ih:=bW.to_D h2 e'
    unfold VRel at h1
    refine⟨by unfold bj; exact⟨v,vs',rfl,h1,ih.1⟩,fun hl=>?_⟩
    simp only[List.all_cons,Bool.and_eq_true] at hl ⊢
    exact⟨hl.1,ih.2 hl.2⟩
   ·cases e
  | _=>simp [allD] at e
noncomputable def mkAgg(l:List AV):AV:=match allD l with
 | some ds=>.d (.agg ds)
 | none=>.agg l
theorem VRel.mkAgg{l:List AV}{vs:List Value}(h:bW σ F H l vs)(hl:l.all oW=true):VRel σ F H (mkAgg l) (.agg ⟨vs⟩):=by
 unfold Ev.mkAgg
 split
 ·rename_i ds e
  unfold VRel DRel
  exact⟨(h.to_D e).2 hl,vs,rfl,(h.to_D e).1⟩
 ·unfold VRel
  exact⟨hl,vs,rfl,h⟩
noncomputable def BRel(σ:Nat→Option Si)(F:Nat→Prop)(H:Hp)(i:Si):Bx→Prop
 | .dat cells fz=>i.nil=false∧(F i.b↔fz=true)∧cells.all bz=true∧∃ c e vec,H.get i.b=some (.cells c e false vec)∧bj F H cells c
 | .box cells=>i.nil=false∧¬ F i.b∧cells.all oW=true∧∃ c e vec,H.get i.b=some (.cells c e false vec)∧bW σ F H cells c
 | .vec els e sz fz=>i.len=els.length∧i.sz=sz∧1≤sz∧((i.nil=true∧els=[])∨(i.nil=false∧(F i.b↔fz=true)∧els.length≤i.cap∧DAt F H els i.b 0 sz ∧
   ∃ c vec,H.get i.b=some (.cells c e false vec)∧((i.cap=capV∧vec=some sz∧c.length=els.length * sz)∨(i.cap<capV∧c.length=i.cap * sz))))
 | .map es c fz=>i.nil=false∧(F i.b↔fz=true)∧H.get i.b=some (.map es c)
 | .env l=>i.nil=true∧∀ x ∈ l,∃ v,i.tm.get x.1=some v∧VRel σ F H x.2 v
theorem mw{b:Nat}(h:H'.get b=H.get b){o:Nat}{vs:List Value}(c:fk H b o vs):fk H' b o vs:=by
 obtain⟨B,c,h1,h2,h3⟩:=c; exact⟨B,c,h.trans h1,h2,h3⟩
theorem vw:∀ B:Bx,okB (fun _=>true) B=true
 | .box _=>xJ _
 | .env _=>List.all_eq_true.2 fun x _=>qlj x.2
 | .dat .. | .vec .. | .map ..=>rfl
theorem BRel.only{i:Si}{B:Bx}(hσ:∀ s i,Q s=true→σ s=some i→σ' s=some i)(hF:∀ b,F b→F' b)(hFb:i.nil=false→F' i.b→F i.b)(hH:Fz F H H')(hg:i.nil=false→H'.get i.b=H.get i.b)(hq:okB Q B=true)
  (h:BRel σ F H i B):BRel σ' F' H' i B:=by
 cases B with
 | dat cells fz=>
  obtain⟨h1,h2,h3,c,e,vec,h4,h5⟩:=h
  exact⟨h1,⟨fun z=>h2.1 (hFb h1 z),fun z=>hF _ (h2.2 z)⟩,h3,c,e,vec,(hg h1).trans h4,h5.mono hF hH⟩
 | box cells=>
  obtain⟨h1,h2,h3,c,e,vec,h4,h5⟩:=h
  exact⟨h1,fun z=>h2 (hFb h1 z),h3,c,e,vec,(hg h1).trans h4,bW.only hσ hF hH _ _ hq h5⟩
 | map es c fz=>exact⟨h.1,⟨fun z=>h.2.1.1 (hFb h.1 z),fun z=>hF _ (h.2.1.2 z)⟩,(hg h.1).trans h.2.2⟩
 | env l=>
  refine⟨h.1,fun x hx=>?_⟩
  obtain⟨v,h1,h2⟩:=h.2 x hx
  exact⟨v,h1,VRel.only hσ hF hH _ _ (List.all_eq_true.1 hq x hx) h2⟩
 | vec els e sz fz=>
  obtain⟨h1,h2,h3,h4⟩:=h
  refine⟨h1,h2,h3,h4.imp id ?_⟩
  rintro⟨g1,g2,g3,g4,c,vec,g5,g6⟩
  exact⟨g1,⟨fun z=>g2.1 (hFb g1 z),fun z=>hF _ (g2.2 z)⟩,g3,DAt.mono hF hH _ _ _ _ (fun o vs=>mw (hg g1)) g4,c,vec,(hg g1).trans g5,g6⟩
structure Rs (n0:Nat) (H0:KI ρ) (F0:Nat→Prop) (σ:Nat→Option Si) (F:Nat→Prop) (H:Hp) (n:Nat) (G:Tr Bx):Prop where
 le:n0≤n
 keep:H0.ok H∧∀ b,H0.C b→b<n
 sub:∀ b,F0 b→F b
 fin:∀ b,F b→F0 b∨(n0≤b∧b<n)
 low:∀ b,F0 b→b<n0
 site:∀ s B,G.get s=some B→∃ i,σ s=some i∧BRel σ F H i B
 back:∀ s i,σ s=some i→∃ B,G.get s=some B
 own:∀ s i,σ s=some i→i.nil=false→n0≤i.b∧i.b<n
 inj:∀ s s' i j,σ s=some i→σ s'=some j→i.nil=false→j.nil=false→i.b=j.b→s=s'
 ownC:∀ s i,σ s=some i→i.nil=false→¬ H0.C i.b∨F i.b
 finC:∀ b,F b→F0 b∨¬ H0.O b
 fs:∀ b,H0.Fs b→F b
 tms:∀ s l,G.get s=some (.env l)→∀ i,σ s=some i→i.tm=H0.tm s
variable {G:Tr Bx}
theorem Rs.lt(h:Rs n0 H0 F0 σ F H n G){b:Nat}(hb:F b):b<n:=by
 rcases h.fin b hb with q | q
 ·have:=h.low b q; have:=h.le; omega
 ·exact q.2
noncomputable def upd(σ:Nat→Option Si)(s:Nat)(i:Si):Nat→Option Si:=fun s'=>if s'=s then some i else σ s'
theorem gX{s:Nat}{i:Si}:upd σ s i s=some i:=by simp [upd]
theorem lz{s s':Nat}{i:Si}(h:s'≠s):upd σ s i s'=σ s':=by simp [upd,h]
theorem Rs.put(h:Rs n0 H0 F0 σ F H n G){s:Nat}{i':Si}{B':Bx}(hn:n≤n')
  (hH:∀ b,b<n→(∀ i,σ s=some i→i.nil=false→b≠i.b)→H'.get b=H.get b)
  (hlive:∀ i,σ s=some i→i.nil=false→¬ F i.b∨H'.get i.b=H.get i.b)
  (hi:i'.nil=false→(n≤i'.b∧i'.b<n')∨∃ i,σ s=some i∧i.nil=false∧i'.b=i.b)
  (hmen:σ s=none∨σ s=some i'∨∀ s' B,s'≠s→G.get s'=some B→okB (fun x=>!Nat.beq x s) B=true)
  (hB:Fz F H H'→BRel (upd σ s i') F H' i' B') (henv:∀ l,B'=.env l→i'.tm=H0.tm s:=by intro l e; cases e) :
  Fz F H H'∧Rs n0 H0 F0 (upd σ s i') F H' n' (G.set s (some B')):=by
 have hfz:Fz F H H':=by
  refine Fz.of_eq fun b hb=>?_
  by_cases hx:∃ i,σ s=some i∧i.nil=false∧b=i.b
  ·obtain ⟨i, h1, h2, rfl⟩ := hx
   exact(hlive i h1 h2).resolve_left (fun z=>z hb)
  ·exact hH b (h.lt hb) fun i h1 h2 h3=>hx ⟨i,h1,h2,h3⟩
 refine⟨hfz,?_⟩
 have oth:∀ s' i,s'≠s→σ s'=some i→i.nil=false→H'.get i.b=H.get i.b:=by
  intro s' i hs h1 h2
  exact hH _ (h.own s' i h1 h2).2 fun j g1 g2 g3=>hs (h.inj s' s i j h1 g1 h2 g2 g3)
 refine⟨by have:=h.le; omega,⟨H0.st _ _ (fun b hb=>by
  by_cases hx:∃ i,σ s=some i∧i.nil=false∧b=i.b
  ·obtain ⟨i, h1, h2, rfl⟩ := hx
   rcases h.ownC s i h1 h2 with q | q
   ·exact absurd hb q
   ·exact(hlive i h1 h2).resolve_left fun z=>z q
  ·exact hH b (h.keep.2 b hb) fun i h1 h2 h3=>hx ⟨i,h1,h2,h3⟩) h.keep.1,fun b hb=>by have:=h.keep.2 b hb; omega⟩,h.sub,fun b hb=>?_,h.low,?_,?_,?_,?_,?_,h.finC,h.fs,?_⟩
 ·rcases h.fin b hb with q | q
  ·exact .inl q
  ·exact .inr ⟨q.1,by omega⟩
 ·intro s' B e
  rw[Tr.get_set] at e
  by_cases hs:s'=s
  ·rw [if_pos hs] at e; cases e; subst hs
   exact⟨i',gX,hB hfz⟩
  ·rw [if_neg hs] at e
   obtain⟨i,h1,h2⟩:=h.site s' B e
   refine⟨i,by rw[lz hs]; exact h1,?_⟩
   rcases hmen with q | q | q
   ·exact h2.only (Q:=fun _=>true) (fun x j _ hx=>by rw[lz (fun z=>by subst z; rw[q] at hx; cases hx)]; exact hx) (fun _ z=>z) (fun _ z=>z) hfz (oth s' i hs h1)
     (vw _)
   ·exact h2.only (Q:=fun _=>true) (fun x j _ hx=>by
     by_cases hxs:x=s
     ·subst hxs; rw[gX,← q]; exact hx
     ·rw[lz hxs]; exact hx) (fun _ z=>z) (fun _ z=>z) hfz (oth s' i hs h1) (vw _)
   ·exact h2.only (Q:=fun x=>!Nat.beq x s) (fun x j hx1 hx=>by
     rw[lz (fun z=>by subst z; simp at hx1)]; exact hx) (fun _ z=>z) (fun _ z=>z) hfz (oth s' i hs h1) (q s' B hs e)
 ·intro s' i e
  rw[Tr.get_set]
  by_cases hs:s'=s
  ·rw[if_pos hs]; exact⟨_,rfl⟩
  ·rw[if_neg hs]; rw[lz hs] at e; exact h.back s' i e
 ·intro s' i e hnil
  by_cases hs:s'=s
  ·subst hs; rw [gX] at e; cases e
   rcases hi hnil with q | ⟨j,q1,q2,q3⟩
   ·have:=h.le; omega
   ·have:=h.own _ j q1 q2; omega
  ·rw [lz hs] at e
   have:=h.own s' i e hnil; omega
 ·have key : ∀ s' j, s' ≠ s → σ s' = some j → i'.nil = false → j.nil = false → i'.b = j.b → False := by
   intro s' j hs h1 h2 h3 h4
   rcases hi h2 with q | ⟨i,q1,q2,q3⟩
   ·have:=h.own s' j h1 h3; omega
   ·exact hs (h.inj s' s j i h1 q1 h3 q2 (by omega))
  intro s1 s2 i j e1 e2 n1 n2 hb
  by_cases h1:s1=s <;> by_cases h2:s2=s
  ·rw[h1,h2]
  ·subst h1; rw [gX] at e1; cases e1; rw [lz h2] at e2
   exact(key s2 j h2 e2 n1 n2 hb).elim
  ·subst h2; rw [gX] at e2; cases e2; rw [lz h1] at e1
   exact(key s1 i h1 e1 n2 n1 hb.symm).elim
  ·rw [lz h1] at e1; rw [lz h2] at e2
   exact h.inj s1 s2 i j e1 e2 n1 n2 hb
 ·intro s' i e hnil
  by_cases hs:s'=s
  ·subst hs; rw [gX] at e; cases e
   rcases hi hnil with q | ⟨j,q1,q2,q3⟩
   ·left; intro z; have:=h.keep.2 _ z; omega
   ·rw[q3]; exact h.ownC _ j q1 q2
  ·rw [lz hs] at e
   exact h.ownC s' i e hnil
 ·intro s' l e i hi
  rw[Tr.get_set] at e
  by_cases hs:s'=s
  ·subst hs
   rw[if_pos rfl] at e; rw[gX] at hi
   cases hi; cases e
   exact henv l rfl
  ·rw [if_neg hs] at e; rw [lz hs] at hi
   exact h.tms s' l e i hi
theorem VRel.put{s:Nat}{i':Si}{a:AV}{v:Value}(hfz:Fz F H H')(hmen:σ s=none∨σ s=some i'∨okA (fun x=>!Nat.beq x s) a=true)(h:VRel σ F H a v):VRel (upd σ s i') F H' a v:=by
 rcases hmen with q | q | q
 ·exact h.mono (fun x j hx=>by rw[lz (fun z=>by subst z; rw[q] at hx; cases hx)]; exact hx) (fun _ z=>z) hfz
 ·exact h.mono (fun x j hx=>by
   by_cases hxs:x=s
   ·subst hxs; rw[gX,← q]; exact hx
   ·rw[lz hxs]; exact hx) (fun _ z=>z) hfz
 ·exact VRel.only (Q:=fun x=>!Nat.beq x s) (fun x j hx1 hx=>by rw[lz (fun z=>by subst z; simp at hx1)]; exact hx) (fun _ z=>z) hfz a v q h
end Go.Ev
end
section
namespace Go.Ev
open Go
variable {σ σ':Nat→Option Si} {F F' F0:Nat→Prop} {H H':Hp} {ρ:Type} {H0:KI ρ} {n n' n0:Nat} {Q:Nat→Bool} {G G':Tr Bx}
noncomputable def fzL(f:AV→Tr Bx→Option (D × Tr Bx)):List AV→Tr Bx→Option (List D × Tr Bx)
 | [],G=>some ([],G)
 | a::l,G=>match f a G with
  | some (d,G1)=>match fzL f l G1 with
   | some (ds,G2)=>some (d::ds,G2)
   | none=>none
  | none=>none
noncomputable def fzS(s o:Nat)(G:Tr Bx)(f:List AV→Tr Bx→Option (List D × Tr Bx)):Option (D × Tr Bx):=match G.get s with
 | some (.dat c _)=>some (.ref (c.drop o),G.set s (some (.dat c true)))
 | some (.box l)=>match f l G with
  | some (ds,G1)=>match G1.get s with
   | some (.box _)=>some (.ref (ds.drop o),G1.set s (some (.dat ds true)))
   | _=>none
  | none=>none
 | _=>none
noncomputable def fzO(s:Nat)(G:Tr Bx):Option (D × Tr Bx):=match G.get s with
 | some (.vec els e sz _)=>some (.sl els,G.set s (some (.vec els e sz true)))
 | _=>none
noncomputable def fzM(s:Nat)(G:Tr Bx):Option (D × Tr Bx):=match G.get s with
 | some (.map es c _)=>some (.map es c,G.set s (some (.map es c true)))
 | _=>none
noncomputable def fzR(s o n:Nat)(G:Tr Bx):Option (D × Tr Bx):=match G.get s with
 | some (.dat c _)=>match Nat.ble (o+n) c.length with
  | true=>some (.sl ((c.drop o).take n),G.set s (some (.dat c true)))
  | false=>none
 | _=>none
noncomputable def fzG(g:List AV→Tr Bx→Option (List D × Tr Bx))(l:List AV)(G:Tr Bx):Option (D × Tr Bx):=match g l G with
 | some (ds,G1)=>some (.agg ds,G1)
 | none=>none
noncomputable def fzF(g:List AV→Tr Bx→Option (List D × Tr Bx))(f:FuncId)(a b:List AV)(G:Tr Bx):Option (D × Tr Bx):=match g a G with
 | some (da,G1)=>match g b G1 with
  | some (db,G2)=>some (.fn f da db,G2)
  | none=>none
 | none=>none
noncomputable def fzV:Nat→AV→Tr Bx→Option (D × Tr Bx)
 | _,.d x,G=>some (x,G)
 | _,.b c,G=>some (.v (.bool c),G)
 | _,.osl s,G=>fzO s G
 | _,.mp s,G=>fzM s G
 | _,.asl s o n _,G=>fzR s o n G
 | k+1,.loc s o,G=>fzS s o G (fzL (fzV k))
 | k+1,.agg l,G=>fzG (fzL (fzV k)) l G
 | k+1,.fn f a b,G=>fzF (fzL (fzV k)) f a b G
 | _,_,_=>none
theorem Rs.frz(h:Rs n0 H0 F0 σ F H n G){s:Nat}{i:Si}{B':Bx}(hs:σ s=some i)(hB:(∀ b,F b→(F b∨(i.nil=false∧b=i.b)))→BRel σ (fun b=>F b∨(i.nil=false∧b=i.b)) H i B')(hne:∀ l,B'≠.env l:=by intro l e; cases e) :
  Rs n0 H0 F0 σ (fun b=>F b∨(i.nil=false∧b=i.b)) H n (G.set s (some B')):=by
 refine⟨h.le,h.keep,fun b hb=>.inl (h.sub b hb),fun b hb=>?_,h.low,?_,?_,h.own,h.inj,fun s' j h1 h2=>(h.ownC s' j h1 h2).imp id .inl,fun b hb=>?_,fun b hb=>.inl (h.fs b hb),fun s' l e j hj=>?_⟩
 ·rcases hb with hb | ⟨hn, rfl⟩
  ·exact h.fin b hb
  ·exact .inr (h.own s i hs hn)
 ·intro s' B2 e
  rw[Tr.get_set] at e
  by_cases q:s'=s
  ·rw [if_pos q] at e; cases e; subst q
   exact⟨i,hs,hB fun b z=>.inl z⟩
  ·rw [if_neg q] at e
   obtain⟨j,h1,h2⟩:=h.site s' B2 e
   refine⟨j,h1,h2.only (Q:=fun _=>true) (fun _ _ _ z=>z) (fun b z=>.inl z) (fun hn z=>?_) Fz.refl (fun _=>rfl) (vw _)⟩
   rcases z with z | ⟨z1,z2⟩
   ·exact z
   ·exact absurd (h.inj s' s j i h1 hs hn z1 z2) q
 ·intro s' j e
  rw[Tr.get_set]
  by_cases q:s'=s
  ·rw[if_pos q]; exact⟨_,rfl⟩
  ·rw[if_neg q]; exact h.back s' j e
 ·rcases hb with hb | ⟨hn, rfl⟩
  ·exact h.finC b hb
  ·rcases h.ownC s i hs hn with q | q
   ·exact .inr fun z=>q (H0.oc _ z)
   ·exact h.finC _ q
 ·rw [Tr.get_set] at e
  by_cases q:s'=s
  ·rw[if_pos q] at e; cases e; exact absurd rfl (hne _)
  ·rw[if_neg q] at e; exact h.tms s' l e j hj
noncomputable def FzOk(n0:Nat)(H0:KI ρ)(F0:Nat→Prop)(σ:Nat→Option Si)(F:Nat→Prop)(H:Hp)(n:Nat)(G G':Tr Bx)(X:(Nat→Prop)→Prop):Prop:=
 (∃ F',Rs n0 H0 F0 σ F' H n G'∧(∀ b,F b→F' b)∧X F')∧∀ s c,G'.get s=some (.box c)→G.get s=some (.box c)
theorem fzO_ok{s:Nat}{d:D}{v:Value}(h:Rs n0 H0 F0 σ F H n G)(hv:VRel σ F H (.osl s) v)(e:fzO s G=some (d,G')) :
  FzOk n0 H0 F0 σ F H n G G' (fun F'=>DRel F' H d v)∧bz d=true:=by
 unfold fzO at e
 split at e
 ·rename_i els el sz fz hg
  cases e
  obtain⟨i,hi,hB⟩:=h.site _ _ hg
  unfold VRel at hv
  obtain⟨j,hj,hv⟩:=hv
  rw[hi] at hj; cases hj
  obtain⟨b1,b2,b3,b4⟩:=hB
  refine⟨⟨⟨_,h.frz (B':=.vec els el sz true) hi (fun hF=>⟨b1,b2,b3,b4.imp id ?_⟩),fun b hb=>.inl hb,?_⟩,?_⟩,rfl⟩
  ·rintro ⟨g1, g2, g3, g4, g5⟩
   exact⟨g1,⟨fun _=>rfl,fun _=>.inr ⟨g1,rfl⟩⟩,g3,DAt.mono hF Fz.refl _ _ _ _ (fun _ _ z=>z) g4,g5⟩
  ·unfold DRel
   rcases b4 with⟨q1,q2⟩ | ⟨q1,q2,q3,q4,c,vec,q5,q6⟩
   ·rcases hv with ⟨_, rfl⟩ | ⟨z, _⟩
    ·exact .inl ⟨rfl,q2⟩
    ·rw[q1] at z; cases z
   ·rcases hv with ⟨z, _⟩ | ⟨_, rfl⟩
    ·rw[q1] at z; cases z
    ·refine .inr (.inl ⟨i.b, 0, i.cap, sz, by rw [b1], q3, ?_, .inr ⟨.inr ⟨q1, rfl⟩, DAt.mono (fun b hb => .inl hb) Fz.refl _ _ _ _ (fun _ _ z => z) q4⟩⟩)
     rcases q6 with⟨z,_⟩ | ⟨z,_⟩ <;> unfold capR <;> unfold capV at z <;> omega
  ·intro s' c e
   rw[Tr.get_set] at e
   split at e
   ·cases e
   ·exact e
 ·cases e
theorem fzM_ok{s:Nat}{d:D}{v:Value}(h:Rs n0 H0 F0 σ F H n G)(hv:VRel σ F H (.mp s) v)(e:fzM s G=some (d,G')) :
  FzOk n0 H0 F0 σ F H n G G' (fun F'=>DRel F' H d v)∧bz d=true:=by
 unfold fzM at e
 split at e
 ·rename_i es c fz hg
  cases e
  obtain⟨i,hi,hB⟩:=h.site _ _ hg
  unfold VRel at hv
  obtain⟨j,hj,hnil,rfl⟩:=hv
  rw[hi] at hj; cases hj
  obtain⟨b1,b2,b3⟩:=hB
  refine⟨⟨⟨_,h.frz (B':=.map es c true) hi (fun hF=>⟨b1,⟨fun _=>rfl,fun _=>.inr ⟨b1,rfl⟩⟩,b3⟩),fun b hb=>.inl hb,?_⟩,?_⟩,rfl⟩
  ·unfold DRel
   exact⟨_,rfl,.inr ⟨b1,rfl⟩,b3⟩
  ·intro s' c e
   rw[Tr.get_set] at e
   split at e
   ·cases e
   ·exact e
 ·cases e
theorem Jx{b:Nat}{c:List Value}{e:TypeId}{ro:Bool}{vec:Option Nat}(h:H.get b=some (.cells c e ro vec)):fk H b 0 c:=⟨_,c,h,rfl,fun k v hv=>by simpa using hv⟩
theorem fzR_ok{s o m c:Nat}{d:D}{v:Value}(h:Rs n0 H0 F0 σ F H n G)(hv:VRel σ F H (.asl s o m c) v)(e:fzR s o m G=some (d,G')) :
  FzOk n0 H0 F0 σ F H n G G' (fun F'=>DRel F' H d v)∧bz d=true:=by
 unfold fzR at e
 split at e
 ·rename_i l fz hg
  split at e
  ·rename_i hle
   have hle:=Nat.le_of_ble_eq_true hle
   simp only[Option.some.injEq,Prod.mk.injEq] at e
   obtain⟨rfl,rfl⟩:=e
   unfold VRel at hv
   obtain⟨i,hi,hnil,hmc,hcap,rfl⟩:=hv
   obtain⟨j,hj,hB⟩:=h.site _ _ hg
   rw[hi] at hj; cases hj
   obtain⟨b1,b2,b3,cs,el,vec,b4,b5⟩:=hB
   have hF:∀ b,F b→(F b∨(i.nil=false∧b=i.b)):=fun b z=>.inl z
   refine⟨⟨⟨_,h.frz (B':=.dat l true) hi (fun hF=>⟨b1,⟨fun _=>rfl,fun _=>.inr ⟨hnil,rfl⟩⟩,b3,cs,el,vec,b4,b5.mono hF Fz.refl⟩),hF,?_⟩,?_⟩,rfl⟩
   ·unfold DRel
    have hd:=(DAt.of_cells (b5.mono hF Fz.refl) (Jx b4) b3).drop o
    have hlen:((l.drop o).take m).length=m:=by simp; omega
    refine .inr (.inl ⟨i.b,o,c,1,by rw[hlen],by omega,by unfold capR; unfold capV at hcap; omega,.inr ⟨.inr ⟨hnil,rfl⟩,?_⟩⟩)
    refine DAt.of_get fun k d hd'=>?_
    have hk':k<m:=by
     have:=(List.getElem?_eq_some_iff.1 hd').1
     rw[hlen] at this; exact this
    rw[List.getElem?_take,if_pos hk'] at hd'
    have:=hd.get hd'
    simpa using this
   ·intro s' c' e
    rw[Tr.get_set] at e
    split at e
    ·cases e
    ·exact e
  ·cases e
 ·cases e
theorem Ey{f:AV→Tr Bx→Option (D × Tr Bx)}
  (hf:∀ a F G d G' v,Rs n0 H0 F0 σ F H n G→VRel σ F H a v→f a G=some (d,G')→FzOk n0 H0 F0 σ F H n G G' (fun F'=>DRel F' H d v)∧(oW a=true→bz d=true)) :
  ∀(l:List AV) (F:Nat→Prop) (G:Tr Bx) (ds:List D) (G':Tr Bx) (vs:List Value),Rs n0 H0 F0 σ F H n G→bW σ F H l vs→fzL f l G=some (ds,G') →
   FzOk n0 H0 F0 σ F H n G G' (fun F'=>bj F' H ds vs)∧(l.all oW=true→ds.all bz=true)
 | [],F,G,ds,G',vs,h,hv,e=>by
  simp only[fzL,Option.some.injEq,Prod.mk.injEq] at e
  obtain⟨rfl,rfl⟩:=e
  unfold bW at hv
  exact⟨⟨⟨F,h,fun _ z=>z,by unfold bj; exact hv⟩,fun _ _ z=>z⟩,fun _=>rfl⟩
 | a::l,F,G,ds,G',vs,h,hv,e=>by
  simp only[fzL] at e
  split at e
  ·rename_i d G1 e1
   split at e
   ·rename_i ds' G2 e2
    simp only[Option.some.injEq,Prod.mk.injEq] at e
    obtain⟨rfl,rfl⟩:=e
    unfold bW at hv
    obtain⟨v,vs',rfl,hv1,hv2⟩:=hv
    obtain⟨⟨⟨F1,r1,r2,r3⟩,r4⟩,r5⟩:=hf a F G d G1 v h hv1 e1
    obtain⟨⟨⟨F2,t1,t2,t3⟩,t4⟩,t5⟩:=Ey hf l F1 G1 ds' G2 vs' r1 (hv2.mono (fun _ _ z=>z) r2 Fz.refl) e2
    refine⟨⟨⟨F2,t1,fun b hb=>t2 b (r2 b hb),?_⟩,fun s c z=>r4 s c (t4 s c z)⟩,fun hl=>?_⟩
    ·unfold bj; exact⟨v,vs',rfl,r3.mono t2 Fz.refl,t3⟩
    ·simp only [List.all_cons, Bool.and_eq_true] at hl ⊢
     exact⟨r5 hl.1,t5 hl.2⟩
   ·cases e
  ·cases e
theorem AJ:∀(k:Nat) (a:AV) (F:Nat→Prop) (G:Tr Bx) (d:D) (G':Tr Bx) (v:Value),Rs n0 H0 F0 σ F H n G→VRel σ F H a v→fzV k a G=some (d,G') →
  FzOk n0 H0 F0 σ F H n G G' (fun F'=>DRel F' H d v)∧(oW a=true→bz d=true):=by
 intro k
 induction k with
 | zero=>
  intro a F G d G' v h hv e
  cases a with
  | d x=>
   simp only[fzV,Option.some.injEq,Prod.mk.injEq] at e
   obtain⟨rfl,rfl⟩:=e
   unfold VRel at hv
   exact⟨⟨⟨F,h,fun _ z=>z,hv⟩,fun _ _ z=>z⟩,fun z=>z⟩
  | osl s=>simp only[fzV] at e; have:=fzO_ok h hv e; exact⟨this.1,fun _=>this.2⟩
  | mp s=>simp only[fzV] at e; have:=fzM_ok h hv e; exact⟨this.1,fun _=>this.2⟩
  | asl s o m c=>simp only[fzV] at e; have:=fzR_ok h hv e; exact⟨this.1,fun _=>this.2⟩
  | b c=>
   simp only[fzV,Option.some.injEq,Prod.mk.injEq] at e
   obtain⟨rfl,rfl⟩:=e
   unfold VRel at hv
   exact⟨⟨⟨F,h,fun _ z=>z,by unfold DRel; exact⟨hv,rfl⟩⟩,fun _ _ z=>z⟩,fun _=>rfl⟩
  | _=>simp [fzV] at e
 | succ k ih=>
  intro a F G d G' v h hv e
  cases a with
  | d x=>
   simp only[fzV,Option.some.injEq,Prod.mk.injEq] at e
   obtain⟨rfl,rfl⟩:=e
   unfold VRel at hv
   exact⟨⟨⟨F,h,fun _ z=>z,hv⟩,fun _ _ z=>z⟩,fun z=>z⟩
  | osl s=>simp only[fzV] at e; have:=fzO_ok h hv e; exact⟨this.1,fun _=>this.2⟩
  | elo s i o=>simp [fzV] at e
  | mp s=>simp only[fzV] at e; have:=fzM_ok h hv e; exact⟨this.1,fun _=>this.2⟩
  | asl s o m c=>simp only[fzV] at e; have:=fzR_ok h hv e; exact⟨this.1,fun _=>this.2⟩
  | bad=>simp [fzV] at e
  | b c=>
   simp only[fzV,Option.some.injEq,Prod.mk.injEq] at e
   obtain⟨rfl,rfl⟩:=e
   unfold VRel at hv
   exact⟨⟨⟨F,h,fun _ z=>z,by unfold DRel; exact⟨hv,rfl⟩⟩,fun _ _ z=>z⟩,fun _=>rfl⟩
  | und=>simp [fzV] at e
  | agg l=>
   simp only[fzV,fzG] at e
   split at e
   ·rename_i ds G1 e1
    simp only[Option.some.injEq,Prod.mk.injEq] at e
    obtain⟨rfl,rfl⟩:=e
    unfold VRel at hv
    obtain⟨hl,vs,rfl,hv⟩:=hv
    obtain⟨⟨⟨F1,r1,r2,r3⟩,r4⟩,r5⟩:=Ey ih l F G ds G1 vs h hv e1
    exact⟨⟨⟨F1,r1,r2,by unfold DRel; exact⟨r5 hl,vs,rfl,r3⟩⟩,r4⟩,fun z=>by cases z⟩
   ·cases e
  | fn f a b=>
   simp only[fzV,fzF] at e
   split at e
   ·rename_i da G1 e1
    split at e
    ·rename_i db G2 e2
     simp only[Option.some.injEq,Prod.mk.injEq] at e
     obtain⟨rfl,rfl⟩:=e
     unfold VRel at hv
     obtain⟨va,vb,rfl,hva,hvb⟩:=hv
     obtain⟨⟨⟨F1,r1,r2,r3⟩,r4⟩,_⟩:=Ey ih a F G da G1 va h hva e1
     obtain⟨⟨⟨F2,t1,t2,t3⟩,t4⟩,_⟩:=Ey ih b F1 G1 db G2 vb r1 (hvb.mono (fun _ _ z=>z) r2 Fz.refl) e2
     exact⟨⟨⟨F2,t1,fun b hb=>t2 b (r2 b hb),by unfold DRel; exact⟨va,vb,rfl,r3.mono t2 Fz.refl,t3⟩⟩,fun s c z=>r4 s c (t4 s c z)⟩,fun _=>rfl⟩
    ·cases e
   ·cases e
  | loc s o=>
   simp only[fzV,fzS] at e
   unfold VRel at hv
   obtain⟨i,hi,hnil,rfl⟩:=hv
   split at e
   ·rename_i c fz hg
    simp only[Option.some.injEq,Prod.mk.injEq] at e
    obtain⟨rfl,rfl⟩:=e
    obtain⟨j,hj,hB⟩:=h.site _ _ hg
    rw[hi] at hj; cases hj
    obtain⟨b1,b2,b3,cs,el,vec,b4,b5⟩:=hB
    have hF:∀ b,F b→(F b∨(i.nil=false∧b=i.b)):=fun b z=>.inl z
    refine⟨⟨⟨_,h.frz (B':=.dat c true) hi (fun hF=>⟨b1,⟨fun _=>rfl,fun _=>.inr ⟨hnil,rfl⟩⟩,b3,cs,el,vec,b4,b5.mono hF Fz.refl⟩),hF,?_⟩,?_⟩,fun _=>rfl⟩
    ·unfold DRel
     have hd:=(DAt.of_cells (b5.mono hF Fz.refl) (Jx b4) b3).drop o
     refine⟨by rw[List.all_eq_true] at b3 ⊢; exact fun x hx=>b3 x (List.mem_of_mem_drop hx),i.b,o,rfl,.inr ⟨hnil,rfl⟩,?_⟩
     simpa using hd
    ·intro s' c' e
     rw[Tr.get_set] at e
     split at e
     ·cases e
     ·exact e
   ·rename_i l hg
    split at e
    ·rename_i ds G1 e1
     split at e
     ·rename_i l2 hg2
      simp only[Option.some.injEq,Prod.mk.injEq] at e
      obtain⟨rfl,rfl⟩:=e
      obtain⟨j,hj,hB⟩:=h.site _ _ hg
      rw[hi] at hj; cases hj
      obtain⟨b1,b2,b3,cs,el,vec,b4,b5⟩:=hB
      obtain⟨⟨⟨F1,r1,r2,r3⟩,r4⟩,r5⟩:=Ey ih l F G ds G1 cs h b5 e1
      have hF:∀ b,F1 b→(F1 b∨(i.nil=false∧b=i.b)):=fun b z=>.inl z
      refine⟨⟨⟨_,r1.frz (B':=.dat ds true) hi (fun hF=>⟨b1,⟨fun _=>rfl,fun _=>.inr ⟨hnil,rfl⟩⟩,r5 b3,cs,el,vec,b4,r3.mono hF Fz.refl⟩),fun b z=>.inl (r2 b z),?_⟩,?_⟩,fun _=>rfl⟩
      ·unfold DRel
       have hd:=(DAt.of_cells (r3.mono hF Fz.refl) (Jx b4) (r5 b3)).drop o
       refine⟨by have:=r5 b3; rw[List.all_eq_true] at this ⊢; exact fun x hx=>this x (List.mem_of_mem_drop hx),i.b,o,rfl,.inr ⟨hnil,rfl⟩,?_⟩
       simpa using hd
      ·intro s' c' e
       rw[Tr.get_set] at e
       split at e
       ·cases e
       ·exact r4 s' c' e
     ·cases e
    ·cases e
   ·cases e
structure Cu where
 frz:List Nat
 own:List (Nat × Nat × TypeId × Nat)
 cel:List (Nat × Nat × Nat × TypeId × Nat)
 fzs:List Nat
 tmps:List Nat
 sites:List Nat
noncomputable def memN(M:List Nat)(s:Nat):Bool:=match M with
 | []=>false
 | x::l=>match Nat.beq x s with
  | true=>true
  | false=>memN l s
noncomputable def ownV(s:Nat)(e:TypeId)(sz:Nat)(a:AV)(G:Tr Bx):Option (Tr Bx):=match a with
 | .osl s'=>match Nat.beq s' s with
  | true=>some G
  | false=>none
 | .d (.v (.slice none 0 0))=>match G.get s,Nat.ble 1 sz with
  | none,true=>some (G.set s (some (.vec [] e sz false)))
  | _,_=>none
 | _=>none
noncomputable def cuFrz:List Nat→Tr AV→Tr Bx→Option (Tr AV × Tr Bx)
 | [],A,G=>some (A,G)
 | t::l,A,G=>match A.get t with
  | some a=>match fzV 9 a G with
   | some (d,G1)=>cuFrz l (A.set t (some (.d d))) G1
   | none=>none
  | none=>none
noncomputable def cuOwn:List (Nat × Nat × TypeId × Nat)→Tr AV→Tr Bx→Option (Tr AV × Tr Bx)
 | [],A,G=>some (A,G)
 | (t,s,e,sz)::l,A,G=>match A.get t with
  | some a=>match ownV s e sz a G with
   | some G1=>cuOwn l (A.set t (some (.osl s))) G1
   | none=>none
  | none=>none
noncomputable def celsA:Bx→Option (List AV)
 | .box l=>some l
 | .dat l false=>some (l.map .d)
 | _=>none
noncomputable def cuCel:List (Nat × Nat × Nat × TypeId × Nat)→Tr Bx→Option (Tr Bx)
 | [],G=>some G
 | (b,j,s,e,sz)::l,G=>match G.get b with
  | some B=>match celsA B with
   | some cs=>match cs[j]? with
    | some a=>match ownV s e sz a G with
     | some G1=>match Nat.beq s b with
      | true=>none
      | false=>cuCel l (G1.set b (some (.box (cs.set j (.osl s)))))
     | none=>none
    | none=>none
   | none=>none
  | none=>none
noncomputable def cuA(Q:Nat→Bool)(A:Tr AV):List Nat→Option (Tr AV)
 | []=>some .nil
 | t::l=>match cuA Q A l with
  | some A'=>match A.get t with
   | some a=>match okA Q a with
    | true=>some (A'.set t (some a))
    | false=>none
   | none=>some A'
  | none=>none
noncomputable def cuG(Q:Nat→Bool)(G:Tr Bx):List Nat→Option (Tr Bx)
 | []=>some .nil
 | s::l=>match cuG Q G l with
  | some G'=>match G.get s with
   | some B=>match okB Q B with
    | true=>some (G'.set s (some B))
    | false=>none
   | none=>some G'
  | none=>none
noncomputable def cuFzs:List Nat→Tr Bx→Option (Tr Bx)
 | [],G=>some G
 | s::l,G=>match G.get s with
  | some (.vec _ _ _ _)=>match fzO s G with
   | some (_,G1)=>cuFzs l G1
   | none=>none
  | some (.map _ _ _)=>match fzM s G with
   | some (_,G1)=>cuFzs l G1
   | none=>none
  | some _=>match fzV 9 (.loc s 0) G with
   | some (_,G1)=>cuFzs l G1
   | none=>none
  | none=>none
noncomputable def cutA(c:Cu)(A:Tr AV)(G:Tr Bx):Option (Tr AV × Tr Bx):=match cuFrz c.frz A G with
 | some (A1, G1) => match cuOwn c.own A1 G1 with
  | some (A2,G2)=>match cuCel c.cel G2 with
   | some G3=>match cuFzs c.fzs G3 with
    | some G5=>match cuA (memN c.sites) A2 c.tmps,cuG (memN c.sites) G5 c.sites with
     | some A4,some G4=>some (A4,G4)
     | _,_=>none
    | none=>none
   | none=>none
  | none=>none
 | none=>none
noncomputable def TRl(σ:Nat→Option Si)(F:Nat→Prop)(H:Hp)(T:Tm)(A:Tr AV):Prop:=∀ t a,A.get t=some a→∃ v,T.get t=some v∧VRel σ F H a v
variable {T:Tm} {A A':Tr AV}
theorem TRl.mono(h:TRl σ F H T A)(hσ:∀ s i,σ s=some i→σ' s=some i)(hF:∀ b,F b→F' b)(hH:Fz F H H'):TRl σ' F' H' T A:=fun t a e=>by
 obtain⟨v,h1,h2⟩:=h t a e
 exact⟨v,h1,h2.mono hσ hF hH⟩
theorem TRl.set(h:TRl σ F H T A){t:Nat}{a:AV}{v:Value}(hv:T.get t=some v)(ha:VRel σ F H a v):TRl σ F H T (A.set t (some a)):=fun s b e=>by
 rw[Tr.get_set] at e
 by_cases q:s=t
 ·rw[if_pos q] at e; cases e; subst q; exact⟨v,hv,ha⟩
 ·rw[if_neg q] at e; exact h s b e
theorem cuFrz_ok:∀(l:List Nat) (F:Nat→Prop) (A:Tr AV) (G:Tr Bx) (A':Tr AV) (G':Tr Bx),Rs n0 H0 F0 σ F H n G→TRl σ F H T A→cuFrz l A G=some (A',G') →
  ∃ F',Rs n0 H0 F0 σ F' H n G'∧TRl σ F' H T A'
 | [],F,A,G,A',G',h,ht,e=>by
  simp only[cuFrz,Option.some.injEq,Prod.mk.injEq] at e
  obtain⟨rfl,rfl⟩:=e
  exact⟨F,h,ht⟩
 | t::l,F,A,G,A',G',h,ht,e=>by
  simp only[cuFrz] at e
  split at e
  ·rename_i a ha
   split at e
   ·rename_i d G1 e1
    obtain⟨v,hv1,hv2⟩:=ht t a ha
    obtain⟨⟨⟨F1,r1,r2,r3⟩,_⟩,_⟩:=AJ 9 a F G d G1 v h hv2 e1
    exact cuFrz_ok l F1 _ G1 A' G' r1 ((ht.mono (fun _ _ z=>z) r2 Fz.refl).set hv1 (by unfold VRel; exact r3)) e
   ·cases e
  ·cases e
theorem ownV_ok{s:Nat}{e:TypeId}{sz:Nat}{a:AV}{v:Value}(h:Rs n0 H0 F0 σ F H n G)(hv:VRel σ F H a v)(he:ownV s e sz a G=some G') :
  ∃ σ',Rs n0 H0 F0 σ' F H n G'∧(∀ x i,σ x=some i→σ' x=some i)∧VRel σ' F H (.osl s) v∧∀ x,x≠s→G'.get x=G.get x:=by
 unfold ownV at he
 split at he
 ·rename_i s'
  split at he
  ·rename_i q
   cases he
   have:=Nat.eq_of_beq_eq_true q; subst this
   exact⟨σ,h,fun _ _ z=>z,hv,fun _ _=>rfl⟩
  ·cases he
 ·split at he
  ·rename_i hg hsz
   cases he
   have hnone:σ s=none:=by
    cases q:σ s with
    | none=>rfl
    | some i=>obtain⟨B,hB⟩:=h.back s i q; rw[hg] at hB; cases hB
   unfold VRel DRel at hv
   obtain⟨rfl,_⟩:=hv
   have:=h.put (H':=H) (n':=n) (s:=s) (i':=⟨0,0,0,sz,true,.nil⟩) (B':=.vec [] e sz false) (Nat.le_refl _) (fun _ _ _=>rfl) (fun _ _ _=>.inr rfl) (fun z=>by cases z) (.inl hnone)
    (fun _=>⟨rfl,rfl,Nat.le_of_ble_eq_true hsz,.inl ⟨rfl,rfl⟩⟩)
   refine⟨_,this.2,fun x i hx=>by rw[lz (fun z=>by subst z; rw[hnone] at hx; cases hx)]; exact hx,?_,fun x hx=>by rw[Tr.get_set,if_neg hx]⟩
   unfold VRel
   exact⟨_,gX,.inl ⟨rfl,rfl⟩⟩
  ·cases he
 ·cases he
theorem cuOwn_ok:∀(l:List (Nat × Nat × TypeId × Nat)) (σ:Nat→Option Si) (A:Tr AV) (G:Tr Bx) (A':Tr AV) (G':Tr Bx),Rs n0 H0 F0 σ F H n G→TRl σ F H T A→cuOwn l A G=some (A',G') →
  ∃ σ',Rs n0 H0 F0 σ' F H n G'∧TRl σ' F H T A'
 | [],σ,A,G,A',G',h,ht,e=>by
  simp only[cuOwn,Option.some.injEq,Prod.mk.injEq] at e
  obtain⟨rfl,rfl⟩:=e
  exact⟨σ,h,ht⟩
 | (t,s,el,sz)::l,σ,A,G,A',G',h,ht,e=>by
  simp only[cuOwn] at e
  split at e
  ·rename_i a ha
   split at e
   ·rename_i G1 e1
    obtain⟨v,hv1,hv2⟩:=ht t a ha
    obtain⟨σ1,r1,r2,r3,_⟩:=ownV_ok h hv2 e1
    exact cuOwn_ok l σ1 _ G1 A' G' r1 ((ht.mono r2 (fun _ z=>z) Fz.refl).set hv1 r3) e
   ·cases e
  ·cases e
theorem all_set{p:AV→Bool}:∀ {l:List AV} {j:Nat} {a:AV},l.all p=true→p a=true→(l.set j a).all p=true
 | [],_,_,h,_=>h
 | x::l,0,a,h,g=>by simp only[List.set_cons_zero,List.all_cons,Bool.and_eq_true] at h ⊢; exact⟨g,h.2⟩
 | x::l,j+1,a,h,g=>by simp only[List.set_cons_succ,List.all_cons,Bool.and_eq_true] at h ⊢; exact⟨h.1,all_set h.2 g⟩
theorem bW.set_same:∀ {l:List AV} {vs:List Value} {j:Nat} {a:AV} {v:Value},bW σ F H l vs→vs[j]?=some v→VRel σ F H a v→bW σ F H (l.set j a) vs
 | [],vs,j,a,v,h,e,g=>by unfold bW at h; subst h; cases e
 | x::l,vs,j,a,v,h,e,g=>by
  unfold bW at h
  obtain⟨u,vs',rfl,h1,h2⟩:=h
  cases j with
  | zero=>cases e; simp only[List.set_cons_zero,bW]; exact⟨_,_,rfl,g,h2⟩
  | succ j=>simp only[List.set_cons_succ,bW]; exact⟨_,_,rfl,h1,bW.set_same h2 e g⟩
theorem celsA_ok{i:Si}{B:Bx}{cs:List AV}(h:BRel σ F H i B)(e:celsA B=some cs) :
  i.nil=false∧¬ F i.b∧cs.all oW=true∧∃ c e vec,H.get i.b=some (.cells c e false vec)∧bW σ F H cs c:=by
 cases B with
 | dat l fz=>
  cases fz with
  | true=>cases e
  | false=>
   cases e
   obtain⟨h1,h2,h3,c,e,vec,h4,h5⟩:=h
   refine⟨h1,fun z=>(by have:=h2.1 z; cases this),?_,c,e,vec,h4,bW.of_D h5⟩
   rw[List.all_map]; exact h3
 | box l=>cases e; exact h
 | vec _ _ _ _=>cases e
 | map _ _ _=>cases e
 | env _=>cases e
theorem cuCel_ok:∀(l:List (Nat × Nat × Nat × TypeId × Nat)) (σ:Nat→Option Si) (G G':Tr Bx),Rs n0 H0 F0 σ F H n G→TRl σ F H T A→cuCel l G=some G' →
  ∃ σ',Rs n0 H0 F0 σ' F H n G'∧TRl σ' F H T A
 | [],σ,G,G',h,ht,e=>by
  simp only[cuCel,Option.some.injEq] at e
  subst e
  exact⟨σ,h,ht⟩
 | (b,j,s,el,sz)::l,σ,G,G',h,ht,e=>by
  simp only[cuCel] at e
  split at e
  ·rename_i B hB
   split at e
   ·rename_i cs hcs
    split at e
    ·rename_i a ha
     split at e
     ·rename_i G1 e1
      split at e
      ·cases e
      ·rename_i hne
       have hsb:b≠s:=by rintro rfl; simp at hne
       obtain⟨i,hi,hBR⟩:=h.site b B hB
       obtain⟨c1,c2,c3,c,e',vec,c4,c5⟩:=celsA_ok hBR hcs
       obtain⟨v,hv1,hv2⟩:=c5.get ha
       obtain⟨σ1,r1,r2,r3,_⟩:=ownV_ok h hv2 e1
       have hi1:=r2 _ _ hi
       have:=r1.put (H':=H) (n':=n) (s:=b) (i':=i) (B':=.box (cs.set j (.osl s))) (Nat.le_refl _) (fun _ _ _=>rfl) (fun _ _ _=>.inr rfl) (fun z=>.inr ⟨i,hi1,z,rfl⟩) (.inr (.inl hi1)) (by
        intro hfz
        have hup:upd σ1 b i=σ1:=by
         funext x; unfold upd; split
         ·rename_i q; rw[q,hi1]
         ·rfl
        rw[hup]
        refine⟨c1,c2,all_set c3 rfl,c,e',vec,c4,?_⟩
        exact(c5.mono r2 (fun _ z=>z) Fz.refl).set_same hv1 r3)
       have hup:upd σ1 b i=σ1:=by
        funext x; unfold upd; split
        ·rename_i q; rw[q,hi1]
        ·rfl
       rw[hup] at this
       exact cuCel_ok l σ1 _ G' this.2 (ht.mono r2 (fun _ z=>z) Fz.refl) e
     ·cases e
    ·cases e
   ·cases e
  ·cases e
theorem PZ:∀(l:List Nat) (F:Nat→Prop) (G G':Tr Bx),Rs n0 H0 F0 σ F H n G→TRl σ F H T A→cuFzs l G=some G'→∃ F',Rs n0 H0 F0 σ F' H n G'∧TRl σ F' H T A
 | [],F,G,G',h,ht,e=>by
  simp only[cuFzs,Option.some.injEq] at e
  subst e
  exact⟨F,h,ht⟩
 | s::l,F,G,G',h,ht,e=>by
  simp only[cuFzs] at e
  split at e
  ·rename_i els el sz fz hg
   split at e
   ·rename_i d G1 e1
    obtain⟨i,hi,hB⟩:=h.site _ _ hg
    have hv:∃ v,VRel σ F H (.osl s) v:=by
     cases hn:i.nil with
     | true=>exact⟨_,by unfold VRel; exact⟨i,hi,.inl ⟨hn,rfl⟩⟩⟩
     | false=>exact⟨_,by unfold VRel; exact⟨i,hi,.inr ⟨hn,rfl⟩⟩⟩
    obtain⟨v,hv⟩:=hv
    obtain⟨⟨⟨F1,r1,r2,r3⟩,_⟩,_⟩:=fzO_ok h hv e1
    exact PZ l F1 G1 G' r1 (ht.mono (fun _ _ z=>z) r2 Fz.refl) e
   ·cases e
  ·rename_i es c fz hg
   split at e
   ·rename_i d G1 e1
    obtain⟨i,hi,hB⟩:=h.site _ _ hg
    have hv:VRel σ F H (.mp s) (.map (some i.b)):=by unfold VRel; exact⟨i,hi,hB.1,rfl⟩
    obtain⟨⟨⟨F1,r1,r2,r3⟩,_⟩,_⟩:=fzM_ok h hv e1
    exact PZ l F1 G1 G' r1 (ht.mono (fun _ _ z=>z) r2 Fz.refl) e
   ·cases e
  ·rename_i B hne hnm hg
   split at e
   ·rename_i d G1 e1
    obtain⟨i,hi,hB⟩:=h.site _ _ hg
    have hnil:i.nil=false:=by
     cases B with
     | dat c fz=>exact hB.1
     | box c=>exact hB.1
     | vec a b c d=>exact(hne a b c d rfl).elim
     | map a b c=>exact(hnm a b c rfl).elim
     | env l=>simp [fzV,fzS,hg] at e1
    have hv:VRel σ F H (.loc s 0) (.pointer (some ⟨i.b,0,none⟩)):=by unfold VRel; exact⟨i,hi,hnil,rfl⟩
    obtain⟨⟨⟨F1,r1,r2,r3⟩,_⟩,_⟩:=AJ 9 (.loc s 0) F G d G1 _ h hv e1
    exact PZ l F1 G1 G' r1 (ht.mono (fun _ _ z=>z) r2 Fz.refl) e
   ·cases e
  ·cases e
theorem cuA_ok:∀ {l:List Nat} {A':Tr AV},cuA Q A l=some A'→∀ t a,A'.get t=some a→A.get t=some a∧okA Q a=true
 | [],A',e,t,a,h=>by cases e; rw[Tr.get_nil] at h; cases h
 | x::l,A',e,t,a,h=>by
  simp only[cuA] at e
  split at e
  ·rename_i A1 e1
   split at e
   ·rename_i b hb
    split at e
    ·rename_i hok
     cases e
     rw[Tr.get_set] at h
     by_cases q:t=x
     ·rw[if_pos q] at h; cases h; subst q; exact⟨hb,hok⟩
     ·rw[if_neg q] at h; exact cuA_ok e1 t a h
    ·cases e
   ·cases e; exact cuA_ok e1 t a h
  ·cases e
theorem cuG_ok:∀ {l:List Nat} {G':Tr Bx},cuG Q G l=some G'→(∀ s B,G'.get s=some B→G.get s=some B∧okB Q B=true)∧∀ s B,memN l s=true→G.get s=some B→G'.get s=some B
 | [],G',e=>by
  cases e
  exact⟨fun s B h=>(by rw[Tr.get_nil] at h; cases h),fun s B h=>(by cases h)⟩
 | x::l,G',e=>by
  simp only[cuG] at e
  split at e
  ·rename_i G1 e1
   have ih:=cuG_ok e1
   split at e
   ·rename_i b hb
    split at e
    ·rename_i hok
     cases e
     refine⟨fun s B h=>?_,fun s B hm h=>?_⟩
     ·rw [Tr.get_set] at h
      by_cases q:s=x
      ·rw[if_pos q] at h; cases h; subst q; exact⟨hb,hok⟩
      ·rw[if_neg q] at h; exact ih.1 s B h
     ·rw [Tr.get_set]
      by_cases q:s=x
      ·rw[if_pos q]; subst q; rw[hb] at h; exact h
      ·rw [if_neg q]
       refine ih.2 s B ?_ h
       simp only[memN] at hm
       split at hm
       ·rename_i z; exact absurd (Nat.eq_of_beq_eq_true z).symm q
       ·exact hm
    ·cases e
   ·rename_i hb
    cases e
    refine⟨ih.1,fun s B hm h=>?_⟩
    refine ih.2 s B ?_ h
    simp only[memN] at hm
    split at hm
    ·rename_i z; have:=Nat.eq_of_beq_eq_true z; subst this; rw[hb] at h; cases h
    ·exact hm
  ·cases e
theorem cutA_ok{c:Cu}(h:Rs n0 H0 F0 σ F H n G)(ht:TRl σ F H T A)(e:cutA c A G=some (A',G')):∃ σ' F',Rs n0 H0 F0 σ' F' H n G'∧TRl σ' F' H T A':=by
 unfold cutA at e
 split at e
 ·rename_i A1 G1 e1
  obtain⟨F1,r1,r2⟩:=cuFrz_ok _ F A G A1 G1 h ht e1
  split at e
  ·rename_i A2 G2 e2
   obtain⟨σ2,r3,r4⟩:=cuOwn_ok _ σ A1 G1 A2 G2 r1 r2 e2
   split at e
   ·rename_i G3 e3
    obtain⟨σ3,r5,r6⟩:=cuCel_ok _ σ2 G2 G3 r3 r4 e3
    split at e
    ·rename_i G5 e6
     obtain⟨F1,r5,r6⟩:=PZ _ F1 G3 G5 r5 r6 e6
     split at e
     case h_2=>cases e
     rename_i A4 G4 e4 e5
     simp only[Option.some.injEq,Prod.mk.injEq] at e
     obtain⟨rfl,rfl⟩:=e
     have hA:=cuA_ok e4
     have hG:=cuG_ok e5
     let σ4:Nat→Option Si:=fun s=>match G4.get s with
      | some _=>σ3 s
      | none=>none
     have up:∀ s i,σ4 s=some i→σ3 s=some i∧∃ B,G4.get s=some B:=by
      intro s i q
      simp only[σ4] at q
      split at q
      ·rename_i B hB; exact⟨q,B,hB⟩
      ·cases q
     have dn:∀ s i,memN c.sites s=true→σ3 s=some i→σ4 s=some i:=by
      intro s i hm q
      obtain⟨B,hB⟩:=r5.back s i q
      simp only[σ4,hG.2 s B hm hB]
      exact q
     refine⟨σ4,F1,⟨r5.le,r5.keep,r5.sub,r5.fin,r5.low,?_,fun s i q=>(up s i q).2,fun s i q=>r5.own s i (up s i q).1,fun s s' i j q q'=>r5.inj s s' i j (up s i q).1 (up s' j q').1,fun s i q=>r5.ownC s i (up s i q).1,r5.finC,r5.fs,fun s l e i q=>r5.tms s l (hG.1 s _ e).1 i (up s i q).1⟩,?_⟩
     ·intro s B hB
      obtain⟨hB3,hok⟩:=hG.1 s B hB
      obtain⟨i,hi,hBR⟩:=r5.site s B hB3
      refine⟨i,by simp only[σ4,hB]; exact hi,hBR.only (Q:=memN c.sites) dn (fun _ z=>z) (fun _ z=>z) Fz.refl (fun _=>rfl) hok⟩
     ·intro t a hta
      obtain⟨q1,q2⟩:=hA t a hta
      obtain⟨v,q3,q4⟩:=r6 t a q1
      exact⟨v,q3,VRel.only (Q:=memN c.sites) dn (fun _ z=>z) Fz.refl a v q2 q4⟩
    ·cases e
   ·cases e
  ·cases e
 ·cases e
end Go.Ev
end
section
namespace Go.Ev
open Go
variable {σ σ':Nat→Option Si} {F F' F0:Nat→Prop} {H H':Hp} {ρ:Type} {H0:KI ρ} {n n' n0:Nat} {G G':Tr Bx} {T:Tm} {A A':Tr AV} {P:Program}
abbrev OutP(Q:D→Prop)(d:Option D):Prop:=∀ x,d=some x→Q x
abbrev Out(n0:Nat)(H0:KI ρ)(F0:Nat→Prop)(r:Option ρ)(d:Option D):Prop:=
 OutP (fun x=>H0.R n0 F0 r x) d
variable {Qx:D→Prop}
theorem Out.no:OutP Qx none:=fun _ e=>by cases e
theorem Out.bindO{α:Type}{o:Option α}{k:α→Option D}(h:∀ a,o=some a→OutP Qx (k a)):OutP Qx (bindO o k):=by
 cases o with
 | none=>exact Out.no
 | some a=>exact h a rfl
theorem Out.getK{α:Type}{o:Option α}{k:α→Option D}(h:∀ a,o=some a→OutP Qx (k a)):OutP Qx (getK o k):=by
 cases o with
 | none=>exact Out.no
 | some a=>exact h a rfl
theorem Out.chk{c:Bool}{k:Option D}(h:c=true→OutP Qx k):OutP Qx (chkK c k):=by
 cases c with
 | false=>exact Out.no
 | true=>exact h rfl
noncomputable def jV:D→Option (List D)
 | .ref c=>some c
 | _=>none
noncomputable def elsD:D→Option (List D)
 | .sl l=>some l
 | .v (.slice none _ _)=>some []
 | _=>none
noncomputable def aggD:D→Option (List D)
 | .agg l=>some l
 | _=>none
noncomputable def idxD(x:D)(len:Nat):Option Nat:=match x with
 | .v v=>JW v len
 | _=>none
noncomputable def szOk(s:Nat)(d:D):Bool:=Nat.beq (nW d).length s
noncomputable def tupD(x:D)(i:Nat):Option D:=match x with
 | .tup l=>l[i]?
 | _=>none
noncomputable def pickD(c a b:D):Option D:=match c with
 | .v (.bool true)=>some a
 | .v (.bool false)=>some b
 | _=>none
noncomputable def Qj:Option Value→Option D
 | some v=>match vq v with
  | true=>some (.v v)
  | false=>none
 | none=>none
noncomputable def Qq:List D→Option (List Value)
 | []=>some []
 | .v x::l=>match Qq l with
  | some vs=>some (x::vs)
  | none=>none
 | _::_=>none
noncomputable def valD:D→Option Value
 | .v x=>some x
 | .agg l=>match Qq l with
  | some vs=>some (.agg ⟨vs⟩)
  | none=>none
 | _=>none
noncomputable def binD(P:Program)(op:BinOp)(t:TypeId)(x y:Operand)(a b:D):Option D:=match valD a with
 | some u=>match valD b with
  | some v=>Qj (binV P op t x y u v)
  | none=>none
 | none=>none
noncomputable def semD(P:Program)(a:D)(m:Value→Sem Value):Option D:=match a with
 | .v x=>Qj (dX P x (m x))
 | _=>none
noncomputable def lenD(l:List D):D:=.v (goInt l.length)
noncomputable def splD(c:List D)(o:Nat)(ds:List D)(s:Nat):Option (List D):=if ds.length=s∧o+s≤c.length then some (c.take o++ds++c.drop (o+s)) else none
noncomputable def appD(l l':List D):Option (List D):=if l.length+l'.length<1048576 then some (l++l') else none
noncomputable def dcells:List Value→Option (List D)
 | []=>some []
 | v::l=>match vq v with
  | true=>match dcells l with
   | some ds=>some (.v v::ds)
   | none=>none
  | false=>none
noncomputable def zeroD(P:Program)(t:TypeId):Option D:=match kV P t with
 | some (.agg ⟨l⟩)=>match dcells l with
  | some ds=>some (.agg ds)
  | none=>none
 | some v=>match vq v with
  | true=>some (.v v)
  | false=>none
 | none=>none
theorem qlv:∀ {l:List D} {vs us:List Value},bj F H l vs→Qq l=some us→vs=us
 | [],vs,us,h,e=>by cases e; unfold bj at h; exact h
 | d::l,vs,us,h,e=>by
  unfold bj at h
  obtain⟨v,vs',rfl,h1,h2⟩:=h
  cases d with
  | v x=>
   simp only[Qq] at e
   split at e
   ·rename_i us' e'
    cases e
    unfold DRel at h1
    rw[h1.1,qlv h2 e']
   ·cases e
  | _=>simp [Qq] at e
theorem Qv{d:D}{v u:Value}(h:DRel F H d v)(e:valD d=some u):v=u:=by
 cases d with
 | v x=>cases e; unfold DRel at h; exact h.1
 | agg l=>
  simp only[valD] at e
  split at e
  ·rename_i vs e'
   cases e
   unfold DRel at h
   obtain⟨_,vs',rfl,h1⟩:=h
   rw[qlv h1 e']
  ·cases e
 | _=>cases e
theorem qlw{o:Option Value}{d:D}(e:Qj o=some d):∃ v,o=some v∧d=.v v∧vq v=true:=by
 unfold Qj at e
 split at e
 ·split at e
  ·cases e; exact⟨_,rfl,rfl,by assumption⟩
  ·cases e
 ·cases e
theorem DRel.scal{v:Value}(h:vq v=true):DRel F H (.v v) v:=by unfold DRel; exact⟨rfl,h⟩
theorem VRel.dat{d:D}{v:Value}(h:DRel F H d v):VRel σ F H (.d d) v:=by unfold VRel; exact h
theorem VRel.un{d:D}{v:Value}(h:VRel σ F H (.d d) v):DRel F H d v:=by unfold VRel at h; exact h
theorem dcells_ok:∀ {l:List Value} {ds:List D},dcells l=some ds→bj F H ds l∧ds.all bz=true
 | [],ds,e=>by cases e; unfold bj; exact⟨rfl,rfl⟩
 | v::l,ds,e=>by
  simp only[dcells] at e
  split at e
  ·rename_i hs
   split at e
   ·rename_i ds' e'
    cases e
    have ih:=dcells_ok e'
    refine⟨by unfold bj; exact⟨v,l,rfl,.scal hs,ih.1⟩,?_⟩
    simp only[List.all_cons,Bool.and_eq_true]; exact⟨rfl,ih.2⟩
   ·cases e
  ·cases e
theorem HX{t:TypeId}{d:D}(e:zeroD P t=some d):∃ z,kV P t=some z∧DRel F H d z∧datD d=true:=by
 unfold zeroD at e
 split at e
 ·rename_i l hz
  split at e
  ·rename_i ds hd
   cases e
   have:=dcells_ok (F:=F) (H:=H) hd
   exact⟨_,hz,by unfold DRel; exact⟨this.2,l,rfl,this.1⟩,rfl⟩
  ·cases e
 ·rename_i v hz
  split at e
  ·rename_i hs
   cases e
   exact⟨_,hz,.scal hs,rfl⟩
  ·cases e
 ·cases e
noncomputable def opdA(x:Operand)(A:Tr AV):Option AV:=match x with
 | .tmp t=>A.get t
 | .const v=>match v with
  | .bool c=>some (.b c)
  | v=>match vq v with
   | true=>some (.d (.v v))
   | false=>none
 | .func f=>some (.d (.fn f [] []))
 | .global _=>none
noncomputable def Kq(A:Tr AV):List Operand→Option (List AV)
 | []=>some []
 | x::l=>match opdA x A with
  | some a=>match Kq A l with
   | some aS=>some (a::aS)
   | none=>none
  | none=>none
noncomputable def partsA(A:Tr AV):List (Nat × Operand)→Option (List (Nat × AV))
 | []=>some []
 | (i,x)::l=>match opdA x A with
  | some a=>match partsA A l with
   | some aS=>some ((i,a)::aS)
   | none=>none
  | none=>none
theorem pj{x:Operand}{a:AV}(ht:TRl σ F H T A)(e:opdA x A=some a):∃ v,opd x T=some v∧VRel σ F H a v:=by
 cases x with
 | tmp t=>exact ht t a e
 | const v=>
  simp only[opdA] at e
  split at e
  ·cases e
   exact⟨_,rfl,by unfold VRel; rfl⟩
  ·split at e
   ·rename_i hs
    cases e
    exact⟨v,by simp only[opd,(uk hs).2.2.2.1],.dat (.scal hs)⟩
   ·cases e
 | func f=>
  cases e
  exact⟨_,rfl,.dat (by unfold DRel; exact⟨[],[],rfl,by unfold bj; rfl,by unfold bj; rfl⟩)⟩
 | global g=>cases e
theorem tk(ht:TRl σ F H T A):∀ {l:List Operand} {aS:List AV},Kq A l=some aS→∃ vs,opds T l=some vs∧bW σ F H aS vs
 | [],aS,e=>by cases e; exact⟨[],rfl,by unfold bW; rfl⟩
 | x::l,aS,e=>by
  simp only[Kq] at e
  split at e
  ·rename_i a ha
   split at e
   ·rename_i as' has
    cases e
    obtain⟨v,h1,h2⟩:=pj ht ha
    obtain⟨vs,h3,h4⟩:=tk ht has
    exact⟨v::vs,by simp only[opds,h1,h3],by unfold bW; exact⟨v,vs,rfl,h2,h4⟩⟩
   ·cases e
  ·cases e
noncomputable def PRel(σ:Nat→Option Si)(F:Nat→Prop)(H:Hp):List (Nat × AV)→List (Nat × Value)→Prop
 | [],vs=>vs=[]
 | (i,a)::l,vs=>∃ v vs',vs=(i,v)::vs'∧VRel σ F H a v∧PRel σ F H l vs'
theorem Jy(ht:TRl σ F H T A):∀ {l:List (Nat × Operand)} {aS:List (Nat × AV)},partsA A l=some aS→∃ vs,vz T l=some vs∧PRel σ F H aS vs
 | [],aS,e=>by cases e; exact⟨[],rfl,rfl⟩
 | (i,x)::l,aS,e=>by
  simp only[partsA] at e
  split at e
  ·rename_i a ha
   split at e
   ·rename_i as' has
    cases e
    obtain⟨v,h1,h2⟩:=pj ht ha
    obtain⟨vs,h3,h4⟩:=Jy ht has
    exact⟨(i,v)::vs,by simp only[vz,h1,h3],v,vs,rfl,h2,h4⟩
   ·cases e
  ·cases e
noncomputable def PK(n0:Nat)(H0:KI ρ)(F0:Nat→Prop)(σ:Nat→Option Si)(F:Nat→Prop)(H:Hp)(kc:Value→Option ρ)(ka:AV→Option D):Prop:=∀ v a,VRel σ F H a v→Out n0 H0 F0 (kc v) (ka a)
variable {kc:Value→Option ρ} {ka:AV→Option D}
noncomputable def NZ(P:Program)(e:TypeId)(d:D)(k:List D→Option D):Option D:=match pz P e with
 | some true=>bindO (aggD d) k
 | some false=>chkK (bz d) (k [d])
 | none=>none
theorem BZ{e:TypeId}{d:D}{f:List D→Option D}(h:datD d=true→OutP Qx (f (nW d))):OutP Qx (NZ P e d f):=by
 unfold NZ
 split
 ·refine Out.bindO fun c hc => ?_
  cases d with
  | agg l=>cases hc; exact h rfl
  | _=>cases hc
 ·refine Out.chk fun hl => ?_
  have:nW d=[d]:=by cases d <;> first | rfl | cases hl
  rw[← this]; exact h (VV hl)
 ·exact Out.no
noncomputable def loadC(P:Program)(t:TypeId)(c:List D)(o:Nat)(k:AV→Option D):Option D:=match pz P t with
 | some false=>bindO (c[o]?) fun d=>k (.d d)
 | some true=>match szT P t with
  | some s=>bindO (cutD c o s) fun l=>k (.d (.agg l))
  | none=>none
 | none=>none
noncomputable def cutB(c:List AV)(o s:Nat):Option (List AV):=match Nat.ble (o+s) c.length with
 | true=>match Nat.ble 1 s with
  | true=>some ((c.drop o).take s)
  | false=>none
 | false=>none
noncomputable def loadB(P:Program)(t:TypeId)(c:List AV)(o:Nat)(k:AV→Option D):Option D:=match pz P t with
 | some false=>getK (c[o]?) k
 | some true=>match szT P t with
  | some s=>getK (cutB c o s) fun l=>k (mkAgg l)
  | none=>none
 | none=>none
noncomputable def loadA(P:Program)(t:TypeId)(a:AV)(G:Tr Bx)(k:AV→Option D):Option D:=match a with
 | .d x=>bindO (jV x) fun c=>loadC P t c 0 k
 | .loc s o=>match G.get s with
  | some (.dat c _)=>loadC P t c o k
  | some (.box c)=>loadB P t c o k
  | _=>none
 | .elo s i o=>match G.get s with
  | some (.vec els e _ _)=>bindO (els[i]?) fun x=>NZ P e x fun c=>loadC P t c o k
  | _=>none
 | _=>none
def LK(P:Program)(t:TypeId)(n0:Nat)(H0:KI ρ)(F0:Nat→Prop)(σ:Nat→Option Si)(F:Nat→Prop)(H:Hp)(ad:Addr)(kc:Value→Option ρ)(ka:AV→Option D):Prop:=
 ∀ v a,aJ P H t ad=some v→VRel σ F H a v→Out n0 H0 F0 (kc v) (ka a)
theorem qmj{t:TypeId}{c:List D}{b o k:Nat}(hk:LK P t n0 H0 F0 σ F H ⟨b,o+k,none⟩ kc ka)(h:DAt F H c b o 1)(hl:c.all bz=true):Out n0 H0 F0 (bindO (aJ P H t ⟨b,o+k,none⟩) kc) (loadC P t c k ka):=by
 unfold loadC
 split
 ·rename_i ht
  refine Out.bindO fun d e=>?_
  obtain⟨v,h1,h2⟩:=h.load1 hl e ht
  rw[h1]
  exact hk _ _ h1 (.dat h2)
 ·rename_i ht
  split
  ·rename_i s hs
   refine Out.bindO fun l e=>?_
   obtain⟨vs,h1,h2,h3⟩:=h.loadN hl e ht hs
   rw[h1]
   exact hk _ _ h1 (.dat (by unfold DRel; exact⟨h3,vs,rfl,h2⟩))
  ·exact Out.no
 ·exact Out.no
theorem HY{c:List Value}{o s:Nat}(h:o+s≤c.length):cut c o s=some ((c.drop o).take s):=by
 unfold cut
 rw[if_pos]
 simp; omega
theorem loadB_ok{t:TypeId}{c:List AV}{cs:List Value}{b o:Nat}{e:TypeId}{vec:Option Nat}(hk:LK P t n0 H0 F0 σ F H ⟨b,o,none⟩ kc ka)(hg:H.get b=some (.cells cs e false vec))(h:bW σ F H c cs)(hl:c.all oW=true) :
  Out n0 H0 F0 (bindO (aJ P H t ⟨b,o,none⟩) kc) (loadB P t c o ka):=by
 unfold loadB
 split
 ·rename_i ht
  refine Out.getK fun a ea=>?_
  obtain⟨v,h1,h2⟩:=h.get ea
  have:aJ P H t ⟨b,o,none⟩=some v:=by unfold aJ; simp only[hg,nj,ht]; exact h1
  rw[this]
  exact hk _ _ this h2
 ·rename_i ht
  split
  ·rename_i s hs
   refine Out.getK fun l el=>?_
   unfold cutB at el
   split at el
   ·rename_i h1
    split at el
    ·cases el
     have hlen:=h.length
     have h1:=Nat.le_of_ble_eq_true h1
     have:aJ P H t ⟨b,o,none⟩=some (.agg ⟨(cs.drop o).take s⟩):=by unfold aJ; simp only[hg,nj,ht,hs,HY (c:=cs) (o:=o) (s:=s) (by omega)]
     rw[this]
     refine hk _ _ this (.mkAgg ((h.drop o).take s) ?_)
     rw[List.all_eq_true] at hl ⊢
     exact fun x hx=>hl x (List.mem_of_mem_drop (List.mem_of_mem_take hx))
    ·cases el
   ·cases el
  ·exact Out.no
 ·exact Out.no
theorem vec_at{s:Nat}{els:List D}{e:TypeId}{sz:Nat}{fz:Bool}{i:Nat}{x:D}(h:Rs n0 H0 F0 σ F H n G)(hg:G.get s=some (.vec els e sz fz))(hx:els[i]?=some x) :
  ∃ j,σ s=some j∧j.nil=false∧j.sz=sz∧j.len=els.length∧datD x=true∧(nW x).length=sz∧(nW x).all bz=true∧DAt F H (nW x) j.b (i * sz) 1:=by
 obtain⟨j,hj,b1,b2,b3,b4⟩:=h.site _ _ hg
 rcases b4 with⟨_,rfl⟩ | ⟨q1,q2,q3,q4,_⟩
 ·cases hx
 ·obtain ⟨g0, v, g1, g2, g3⟩ := q4.get hx
  have hc:=g1.cells g0
  refine⟨j,hj,q1,b2,b1,g0,by rw[← hc.1.length]; exact g2,hc.2,?_⟩
  have:=DAt.of_cells hc.1 g3 hc.2
  simpa using this
theorem loadA_ok'{t:TypeId}{a:AV}{v:Value}{kc:Addr→Value→Option ρ}(h:Rs n0 H0 F0 σ F H n G)(hv:VRel σ F H a v)(hk:∀ ad,aY v=some ad→ad.block<n→LK P t n0 H0 F0 σ F H ad (kc ad) ka):Out n0 H0 F0 (bindO (aY v) fun ad=>bindO (aJ P H t ad) (kc ad)) (loadA P t a G ka):=by
 cases a with
 | d x=>
  refine Out.bindO fun c ec=>?_
  have hv:=hv.un
  cases x with
  | ref c'=>
   cases ec
   unfold DRel at hv
   obtain⟨h0,b,o,rfl,h1,h2⟩:=hv
   rw[qlx,aj]
   exact qmj (k:=0) (hk ⟨b,o+0,none⟩ rfl (h.lt h1)) h2 h0
  | _=>cases ec
 | loc s o=>
  unfold VRel at hv
  obtain⟨i,hi,hnil,rfl⟩:=hv
  simp only[loadA]
  rw[qlx,aj]
  split
  ·rename_i c fz hg
   obtain⟨j,hj,b1,b2,b3,cs,el,vec,b4,b5⟩:=h.site _ _ hg
   rw[hi] at hj; cases hj
   have:=qmj (P:=P) (t:=t) (b:=i.b) (o:=0) (k:=o) (kc:=kc ⟨i.b,o,none⟩) (ka:=ka) (by rw[Nat.zero_add]; exact hk ⟨i.b,o,none⟩ rfl (h.own s i hi hnil).2) (DAt.of_cells b5 (Jx b4) b3) b3
   rwa [Nat.zero_add] at this
  ·rename_i c hg
   obtain⟨j,hj,b1,b2,b3,cs,el,vec,b4,b5⟩:=h.site _ _ hg
   rw[hi] at hj; cases hj
   exact loadB_ok (hk ⟨i.b,o,none⟩ rfl (h.own s i hi hnil).2) b4 b5 b3
  ·exact Out.no
 | elo s k o=>
  unfold VRel at hv
  obtain⟨i,hi,hnil,rfl⟩:=hv
  simp only[loadA]
  rw[qlx,aj]
  split
  ·rename_i els e sz fz hg
   refine Out.bindO fun x hx=>BZ fun _=>?_
   obtain⟨j,hj,q1,q2,q3,q4,q5,q6,q7⟩:=vec_at h hg hx
   rw[hi] at hj; cases hj
   rw[q2]
   exact qmj (hk ⟨i.b,k * sz+o,none⟩ (by rw[q2]; rfl) (h.own s i hi hnil).2) q7 q6
  ·exact Out.no
 | _=>exact Out.no
theorem loadA_ok{t:TypeId}{a:AV}{v:Value}(h:Rs n0 H0 F0 σ F H n G)(hv:VRel σ F H a v)(hk:PK n0 H0 F0 σ F H kc ka):Out n0 H0 F0 (bindO (aY v) fun ad=>bindO (aJ P H t ad) kc) (loadA P t a G ka):=
 loadA_ok' (kc:=fun _=>kc) h hv fun _ _ _ v a _ hv=>hk v a hv
noncomputable def NK(P:Program)(t:TypeId)(a:AV)(f:Nat)(k:AV→Option D):Option D:=match Cy P t f with
 | some (off,ft)=>match szT P ft with
  | some (_+1)=>match a with
   | .d x=>bindO (jV x) fun c=>k (.d (.ref (c.drop off)))
   | .loc s o=>k (.loc s (o+off))
   | .elo s i o=>k (.elo s i (o+off))
   | _=>none
  | _=>none
 | none=>none
noncomputable def rowT(P:Program)(t:TypeId):Option (Option Nat × TypeId × Nat):=match P.underlying t with
 | some (.slice e)=>match szT P e with
  | some s=>some (none,e,s)
  | none=>none
 | some (.array len e)=>match szT P e with
  | some s=>some (some len,e,s)
  | none=>none
 | _=>none
noncomputable def Oj(P:Program)(t:TypeId)(a:AV)(i:D)(G:Tr Bx)(k:AV→Option D):Option D:=match rowT P t with
 | some (none,e,s)=>match a with
  | .d x=>bindO (elsD x) fun l=>bindO (idxD i l.length) fun j=>bindO (l[j]?) fun y=>NZ P e y fun c=>chkK (Nat.beq c.length s) (k (.d (.ref c)))
  | .osl w=>match G.get w with
   | some (.vec els _ sz _)=>match Nat.beq sz s with
    | true=>bindO (idxD i els.length) fun j=>k (.elo w j 0)
    | false=>none
   | _=>none
  | _=>none
 | some (some len,_,s)=>match a with
  | .d x=>bindO (jV x) fun c=>bindO (idxD i len) fun j=>k (.d (.ref (c.drop (j * s))))
  | .loc w o=>bindO (idxD i len) fun j=>k (.loc w (o+j * s))
  | .elo w q o=>bindO (idxD i len) fun j=>k (.elo w q (o+j * s))
  | _=>none
 | none=>none
noncomputable def partA(P:Program)(t:TypeId)(a:AV)(o:Nat)(k:AV→Option D):Option D:=match a with
 | .d x=>bindO (aggD x) fun c=>loadC P t c o k
 | .agg l=>loadB P t l o k
 | _=>none
noncomputable def fieldA(P:Program)(t:TypeId)(a:AV)(f:Nat)(k:AV→Option D):Option D:=match Cy P t f with
 | some (off,ft)=>partA P ft a off k
 | none=>none
noncomputable def indexA(P:Program)(t:TypeId)(a:AV)(i:D)(k:AV→Option D):Option D:=match rowT P t with
 | some (some len,e,s)=>bindO (idxD i len) fun j=>partA P e a (j * s) k
 | _=>none
noncomputable def lenA(P:Program)(t:TypeId)(a:AV)(G:Tr Bx)(k:AV→Option D):Option D:=match P.underlying t with
 | some (.slice _)=>match a with
  | .d x=>bindO (elsD x) fun l=>k (.d (lenD l))
  | .osl w=>match G.get w with
   | some (.vec els _ _ _)=>k (.d (lenD els))
   | _=>none
  | _=>none
 | _=>none
noncomputable def pickA(c:D)(a b:AV)(k:AV→Option D):Option D:=match a with
 | .d x=>match b with
  | .d y=>bindO (pickD c x y) fun d=>k (.d d)
  | _=>none
 | _=>none
theorem drop_leaf{c:List D}{k:Nat}(h:c.all bz=true):(c.drop k).all bz=true:=by
 rw[List.all_eq_true] at h ⊢; exact fun x hx=>h x (List.mem_of_mem_drop hx)
theorem qmk{c:List D}{b o k:Nat}(h0:c.all bz=true)(h1:F b)(h2:DAt F H c b o 1):DRel F H (.ref (c.drop k)) (.pointer (some ⟨b,o+k,none⟩)):=by
 unfold DRel
 exact⟨drop_leaf h0,b,o+k,rfl,h1,by simpa using h2.drop k⟩
theorem fieldAddrA_ok{t:TypeId}{a:AV}{v:Value}{f:Nat}(hv:VRel σ F H a v)(hk:PK n0 H0 F0 σ F H kc ka):Out n0 H0 F0 (bindO (ax P t v f) kc) (NK P t a f ka):=by
 unfold NK
 split
 ·rename_i off ft hf
  split
  ·rename_i s hs
   cases a with
   | d x=>
    refine Out.bindO fun c ec=>?_
    have hv:=hv.un
    cases x with
    | ref c'=>
     cases ec
     unfold DRel at hv
     obtain⟨h0,b,o,rfl,h1,h2⟩:=hv
     rw[Ew hf hs,aj]
     exact hk _ _ (.dat (qmk h0 h1 h2))
    | _=>cases ec
   | loc w o=>
    unfold VRel at hv
    obtain⟨i,hi,hnil,rfl⟩:=hv
    rw[Ew hf hs,aj]
    exact hk _ _ (by unfold VRel; exact⟨i,hi,hnil,rfl⟩)
   | elo w k o=>
    unfold VRel at hv
    obtain⟨i,hi,hnil,rfl⟩:=hv
    rw[Ew hf hs,aj]
    exact hk _ _ (by unfold VRel; exact⟨i,hi,hnil,by rw[Nat.add_assoc]⟩)
   | _=>exact Out.no
  ·exact Out.no
 ·exact Out.no
theorem Jz{i:D}{iv:Value}{len j:Nat}(h:DRel F H i iv)(e:idxD i len=some j):JW iv len=some j∧j<len:=by
 cases i with
 | v x=>
  unfold DRel at h
  rw[h.1]
  refine⟨e,?_⟩
  simp only[idxD,JW] at e
  split at e
  ·split at e
   ·cases e; assumption
   ·cases e
  ·cases e
 | _=>cases e
theorem Jk{x:D}{v:Value}{l:List D}(h:DRel F H x v)(e:elsD x=some l):(v=.slice none 0 0∧l=[])∨(∃ b o cap s,v=.slice (some ⟨b,o,none⟩) l.length cap∧l.length≤cap∧cap≤capR∧(l=[]∨(F b∧DAt F H l b o s)))∨(l=[]∧∃ a cap,v=.slice (some a) 0 cap∧cap≤capE):=by
 unfold elsD at e
 split at e
 ·cases e; unfold DRel at h; exact h
 ·rename_i a c
  cases e
  unfold DRel at h
  obtain⟨rfl,hs⟩:=h
  simp only[vq,Bool.and_eq_true] at hs
  have h1:=Nat.eq_of_beq_eq_true hs.1.2
  have h2:=Nat.eq_of_beq_eq_true hs.2
  subst h1; subst h2
  exact .inl ⟨rfl,rfl⟩
 ·cases e
theorem VW{t:TypeId}{e:TypeId}{s:Nat}(h:rowT P t=some (none,e,s)):P.underlying t=some (.slice e)∧szT P e=some s:=by
 unfold rowT at h
 split at h
 ·rename_i e' hu
  split at h
  ·rename_i s' hs; cases h; exact⟨hu,hs⟩
  ·cases h
 ·split at h <;> cases h
 ·cases h
theorem VX{t:TypeId}{len:Nat}{e:TypeId}{s:Nat}(h:rowT P t=some (some len,e,s)):P.underlying t=some (.array len e)∧szT P e=some s:=by
 unfold rowT at h
 split at h
 ·split at h <;> cases h
 ·rename_i len' e' hu
  split at h
  ·rename_i s' hs; cases h; exact⟨hu,hs⟩
  ·cases h
 ·cases h
theorem indexAddrA_ok{t:TypeId}{a:AV}{i:D}{v iv:Value}(h:Rs n0 H0 F0 σ F H n G)(hv:VRel σ F H a v)(hi:DRel F H i iv)(hk:PK n0 H0 F0 σ F H kc ka) :
  Out n0 H0 F0 (bindO (aQ P t v iv) kc) (Oj P t a i G ka):=by
 unfold Oj
 split
 ·rename_i e s ht
  obtain⟨hu,hs⟩:=VW ht
  cases a with
  | d x=>
   refine Out.bindO fun l el=>Out.bindO fun j ej=>Out.bindO fun y ey=>BZ fun _=>Out.chk fun hsz=>?_
   obtain⟨h1,h2⟩:=Jz hi ej
   rcases Jk hv.un el with⟨_,rfl⟩ | ⟨b,o,cap,s',rfl,g1,g2,g3⟩ | ⟨rfl,_⟩
   rotate_left 2
   ·cases ey
   ·cases ey
   ·rcases g3 with rfl | ⟨g3, g4⟩
    ·cases ey
    ·obtain ⟨q0, u, q1, q2, q3⟩ := g4.get ey
     have hc:=q1.cells q0
     have hss:s'=s:=by
      have:=Nat.eq_of_beq_eq_true hsz
      rw[← q2,hc.1.length]; exact this
     subst hss
     have:aQ P t (.slice (some ⟨b,o,none⟩) l.length cap) iv=some (.pointer (some ⟨b,o+j * s',none⟩)):=by
      unfold aQ; simp only[hu,h1,hs,addA]
     rw[this,aj]
     refine hk _ _ (.dat ?_)
     have:=qmk (k:=0) hc.2 g3 (DAt.of_cells hc.1 q3 hc.2)
     simpa using this
  | osl w=>
   simp only
   split
   ·rename_i els el sz fz hg
    split
    ·rename_i hsz
     have:=Nat.eq_of_beq_eq_true hsz; subst this
     refine Out.bindO fun j ej=>?_
     obtain⟨h1,h2⟩:=Jz hi ej
     obtain⟨m,hm,q1,q2,q3,_⟩:=vec_at h hg (List.getElem?_eq_getElem h2)
     unfold VRel at hv
     obtain⟨m',hm',hv⟩:=hv
     rw[hm] at hm'; cases hm'
     rcases hv with⟨z,_⟩ | ⟨_,rfl⟩
     ·rw[q1] at z; cases z
     ·have : aQ P t (.slice (some ⟨m.b, 0, none⟩) m.len m.cap) iv = some (.pointer (some ⟨m.b, 0 + j * sz, none⟩)) := by
       unfold aQ; rw[q3]; simp only[hu,h1,hs,addA]
      rw[this,aj]
      exact hk _ _ (by unfold VRel; exact⟨m,hm,q1,by rw[q2]; simp⟩)
    ·exact Out.no
   ·exact Out.no
  | _=>exact Out.no
 ·rename_i len e s ht
  obtain⟨hu,hs⟩:=VX ht
  have go:∀ {b o j:Nat},JW iv len=some j→aQ P t (.pointer (some ⟨b,o,none⟩)) iv=some (.pointer (some ⟨b,o+j * s,none⟩)):=by
   intro b o j q
   unfold aQ; simp only[hu,q,hs,addA]
  cases a with
  | d x=>
   refine Out.bindO fun c ec=>Out.bindO fun j ej=>?_
   obtain⟨h1,h2⟩:=Jz hi ej
   have hv:=hv.un
   cases x with
   | ref c'=>
    cases ec
    unfold DRel at hv
    obtain⟨h0,b,o,rfl,g1,g2⟩:=hv
    rw[go h1,aj]
    exact hk _ _ (.dat (qmk h0 g1 g2))
   | _=>cases ec
  | loc w o=>
   refine Out.bindO fun j ej=>?_
   obtain⟨h1,h2⟩:=Jz hi ej
   unfold VRel at hv
   obtain⟨m,hm,hnil,rfl⟩:=hv
   rw[go h1,aj]
   exact hk _ _ (by unfold VRel; exact⟨m,hm,hnil,rfl⟩)
  | elo w q o=>
   refine Out.bindO fun j ej=>?_
   obtain⟨h1,h2⟩:=Jz hi ej
   unfold VRel at hv
   obtain⟨m,hm,hnil,rfl⟩:=hv
   rw[go h1,aj]
   exact hk _ _ (by unfold VRel; exact⟨m,hm,hnil,by rw[Nat.add_assoc]⟩)
  | _=>exact Out.no
 ·exact Out.no
theorem partA_ok{t:TypeId}{a:AV}{cs:Array Value}{o:Nat}(hv:VRel σ F H a (.agg cs))(hk:PK n0 H0 F0 σ F H kc ka):Out n0 H0 F0 (bindO (nj P t cs.toList o) kc) (partA P t a o ka):=by
 cases a with
 | d x=>
  refine Out.bindO fun c ec=>?_
  have hv:=hv.un
  cases x with
  | agg l=>
   cases ec
   unfold DRel at hv
   obtain⟨hl,vs,e,h1⟩:=hv
   cases e
   unfold loadC
   split
   ·rename_i ht
    refine Out.bindO fun d e=>?_
    obtain⟨v,h2,h3⟩:=h1.get e
    have:nj P t vs o=some v:=by unfold nj; simp only[ht,h2]
    rw[this]
    exact hk _ _ (.dat h3)
   ·rename_i ht
    split
    ·rename_i s hs
     refine Out.bindO fun l' e=>?_
     unfold cutD at e
     split at e
     ·rename_i hc
      cases e
      have hlen:=h1.length
      have:nj P t vs o=some (.agg ⟨(vs.drop o).take s⟩):=by unfold nj; simp only[ht,hs,HY (c:=vs) (o:=o) (s:=s) (by omega)]
      rw[this]
      exact hk _ _ (.dat (by unfold DRel; exact⟨all_drop_take hl,_,rfl,(h1.drop o).take s⟩))
     ·cases e
    ·exact Out.no
   ·exact Out.no
  | _=>cases ec
 | agg l=>
  unfold VRel at hv
  obtain⟨hl,vs,e,h1⟩:=hv
  cases e
  simp only[partA]
  unfold loadB
  split
  ·rename_i ht
   refine Out.getK fun d e=>?_
   obtain⟨v,h2,h3⟩:=h1.get e
   have:nj P t vs o=some v:=by unfold nj; simp only[ht,h2]
   rw[this]
   exact hk _ _ h3
  ·rename_i ht
   split
   ·rename_i s hs
    refine Out.getK fun l' e=>?_
    unfold cutB at e
    split at e
    ·rename_i hc
     split at e
     ·cases e
      have hlen:=h1.length
      have hc:=Nat.le_of_ble_eq_true hc
      have:nj P t vs o=some (.agg ⟨(vs.drop o).take s⟩):=by unfold nj; simp only[ht,hs,HY (c:=vs) (o:=o) (s:=s) (by omega)]
      rw[this]
      refine hk _ _ (.mkAgg ((h1.drop o).take s) ?_)
      rw[List.all_eq_true] at hl ⊢
      exact fun x hx=>hl x (List.mem_of_mem_drop (List.mem_of_mem_take hx))
     ·cases e
    ·cases e
   ·exact Out.no
  ·exact Out.no
 | _=>exact Out.no
theorem agg_of{a:AV}{v:Value}{t:TypeId}{o:Nat}{x:D}(hv:VRel σ F H a v)(e:partA P t a o ka=some x):∃ cs,v=.agg cs:=by
 cases a with
 | d y=>
  have hv:=hv.un
  cases y with
  | agg l=>unfold DRel at hv; obtain⟨_,vs,rfl,_⟩:=hv; exact⟨_,rfl⟩
  | _=>simp [partA,aggD,Ev.bindO,noneO] at e
 | agg l=>unfold VRel at hv; obtain⟨_,vs,rfl,_⟩:=hv; exact⟨_,rfl⟩
 | _=>cases e
theorem fieldA_ok{t:TypeId}{a:AV}{v:Value}{f:Nat}(hv:VRel σ F H a v)(hk:PK n0 H0 F0 σ F H kc ka):Out n0 H0 F0 (bindO (QZ P t v f) kc) (fieldA P t a f ka):=by
 unfold fieldA
 split
 ·rename_i off ft hf
  intro x e
  obtain⟨cs,rfl⟩:=agg_of hv e
  have:QZ P t (.agg cs) f=nj P ft cs.toList off:=by unfold QZ; simp only[hf]
  rw[this]
  exact partA_ok hv hk x e
 ·exact Out.no
theorem indexA_ok{t:TypeId}{a:AV}{i:D}{v iv:Value}(hv:VRel σ F H a v)(hi:DRel F H i iv)(hk:PK n0 H0 F0 σ F H kc ka):Out n0 H0 F0 (bindO (vk P t v iv) kc) (indexA P t a i ka):=by
 unfold indexA
 split
 ·rename_i len e s ht
  obtain⟨hu,hs⟩:=VX ht
  refine Out.bindO fun j ej=>?_
  obtain⟨h1,h2⟩:=Jz hi ej
  intro x ex
  obtain⟨cs,rfl⟩:=agg_of hv ex
  have:vk P t (.agg cs) iv=nj P e cs.toList (j * s):=by unfold vk; simp only[hu,h1,hs]
  rw[this]
  exact partA_ok hv hk x ex
 ·exact Out.no
theorem ZX{l:List D}:DRel F H (lenD l) (goInt l.length):=by unfold lenD; exact .scal rfl
theorem lenA_ok{t:TypeId}{a:AV}{v:Value}(h:Rs n0 H0 F0 σ F H n G)(hv:VRel σ F H a v)(hk:PK n0 H0 F0 σ F H kc ka):Out n0 H0 F0 (bindO (lenV P t v) kc) (lenA P t a G ka):=by
 unfold lenA
 split
 ·rename_i e hu
  cases a with
  | d x=>
   refine Out.bindO fun l el=>?_
   rcases Jk hv.un el with⟨rfl,rfl⟩ | ⟨b,o,cap,s',rfl,_⟩ | ⟨rfl,a,cap,rfl,_⟩
   rotate_left 2
   ·have : lenV P t (.slice (some a) 0 cap) = some (goInt ([] : List D).length) := by unfold lenV; simp only [hu]; rfl
    rw[this]
    exact hk _ _ (.dat ZX)
   ·have : lenV P t (.slice none 0 0) = some (goInt ([] : List D).length) := by unfold lenV; simp only [hu]; rfl
    rw[this]
    exact hk _ _ (.dat ZX)
   ·have : lenV P t (.slice (some ⟨b, o, none⟩) l.length cap) = some (goInt l.length) := by unfold lenV; simp only [hu]
    rw[this]
    exact hk _ _ (.dat ZX)
  | osl w=>
   simp only
   split
   ·rename_i els el sz fz hg
    obtain⟨j,hj,b1,b2,b3,b4⟩:=h.site _ _ hg
    unfold VRel at hv
    obtain⟨m',hm',hv⟩:=hv
    rw[hj] at hm'; cases hm'
    have:lenV P t v=some (goInt els.length):=by
     rcases hv with⟨z,rfl⟩ | ⟨z,rfl⟩
     ·rcases b4 with ⟨_, rfl⟩ | ⟨q, _⟩
      ·unfold lenV; simp only[hu]; rfl
      ·rw[q] at z; cases z
     ·unfold lenV; simp only[hu]; rw[b1]
    rw[this]
    exact hk _ _ (.dat ZX)
   ·exact Out.no
  | _=>exact Out.no
 ·exact Out.no
theorem pickA_ok{c:D}{a b:AV}{cv av bv:Value}(hc:DRel F H c cv)(ha:VRel σ F H a av)(hb:VRel σ F H b bv)(hk:PK n0 H0 F0 σ F H kc ka):Out n0 H0 F0 (bindO (fX cv av bv) kc) (pickA c a b ka):=by
 cases a with
 | d x=>
  cases b with
  | d y=>
   refine Out.bindO fun d e=>?_
   unfold pickD at e
   split at e
   ·cases e; unfold DRel at hc; rw[hc.1]; exact hk _ _ ha
   ·cases e; unfold DRel at hc; rw[hc.1]; exact hk _ _ hb
   ·cases e
  | _=>exact Out.no
 | _=>exact Out.no
end Go.Ev
end
section
namespace Go.Ev
open Go
variable {σ σ':Nat→Option Si} {F F' F0:Nat→Prop} {H H':Hp} {ρ:Type} {H0:KI ρ} {n n' n0:Nat} {G G':Tr Bx} {T:Tm} {A A':Tr AV} {P:Program}
noncomputable def selT{α:Type}(p:α→Bool):Option α→Option α
 | some a=>match p a with
  | true=>some a
  | false=>none
 | none=>none
noncomputable def filtT{α:Type}(p:α→Bool):Tr α→Tr α
 | .nil=>.nil
 | .node v l r=>.node (selT p v) (filtT p l) (filtT p r)
noncomputable def mapT{α β:Type}(f:α→β):Tr α→Tr β
 | .nil=>.nil
 | .node v l r=>.node (match v with
  | some a=>some (f a)
  | none=>none) (mapT f l) (mapT f r)
theorem filtP{α:Type}{p:α→Bool}{a:α}:∀(q:List Bool) (t:Tr α),getP q (filtT p t)=some a→getP q t=some a∧p a=true
 | [],.nil,e=>by cases e
 | b::q,.nil,e=>by cases b <;> cases e
 | [],.node v l r,e=>by
  have e:selT p v=some a:=e
  unfold selT at e
  split at e
  ·split at e
   ·rename_i h; cases e; exact⟨rfl,h⟩
   ·cases e
  ·cases e
 | true::q,.node v l r,e=>filtP q l e
 | false::q,.node v l r,e=>filtP q r e
theorem filtT_get{α:Type}{p:α→Bool}{t:Tr α}{k:Nat}{a:α}(h:(filtT p t).get k=some a):t.get k=some a∧p a=true:=filtP _ _ h
theorem mapP{α β:Type}{f:α→β}:∀(q:List Bool) (t:Tr α),getP q (mapT f t)=(getP q t).map f
 | [],.nil=>rfl
 | b::q,.nil=>by cases b <;> rfl
 | [],.node v l r=>by cases v <;> rfl
 | true::q,.node v l r=>mapP q l
 | false::q,.node v l r=>mapP q r
theorem mapT_get{α β:Type}{f:α→β}{t:Tr α}{k:Nat}:(mapT f t).get k=(t.get k).map f:=mapP _ _
abbrev KO:=AV→Option Nat→Tr Bx→Option D
noncomputable def notS(w:Nat):Nat→Bool:=fun x=>!Nat.beq x w
noncomputable def Aj(q:Option Nat)(A:Tr AV):Tr AV:=match q with
 | none=>A
 | some w=>filtT (okA (notS w)) A
def pres(H:Hp)(b:Nat):Prop:=∃ B c,H.get b=some B∧cellsIn B=some c
structure Nx (σ:Nat→Option Si) (F:Nat→Prop) (H:Hp) (n:Nat) (σ':Nat→Option Si) (F':Nat→Prop) (H':Hp) (n':Nat) (q:Option Nat):Prop where
 le:n≤n'
 fr:∀ b,F b→F' b
 tr:∀ T A,TRl σ F H T A→TRl σ' F' H' T (Aj q A)
 keep:q=none→(∀ b,b<n→pres H b→pres H' b)∧∀ s i,σ s=some i→∃ i',σ' s=some i'∧i'.nil=i.nil∧i'.b=i.b
theorem Nx.refl:Nx σ F H n σ F H n none:=⟨Nat.le_refl _,fun _ z=>z,fun _ _ h=>h,fun _=>⟨fun _ _ h=>h,fun _ i h=>⟨i,h,rfl,rfl⟩⟩⟩
theorem pres.of_eq{b:Nat}(e:H'.get b=H.get b)(h:pres H b):pres H' b:=by
 obtain⟨B,c,h1,h2⟩:=h; exact⟨B,c,e.trans h1,h2⟩
def KOk(n0:Nat)(H0:KI ρ)(F0:Nat→Prop)(σ:Nat→Option Si)(F:Nat→Prop)(H:Hp)(n:Nat)(kc:Value→Hp→Nat→Option ρ)(k:KO):Prop:=
 ∀ σ' F' H' n' G' v a q,Rs n0 H0 F0 σ' F' H' n' G'→VRel σ' F' H' a v→Nx σ F H n σ' F' H' n' q→Out n0 H0 F0 (kc v H' n') (k a q G')
def KOkN(dst:Option Tmp)(n0:Nat)(H0:KI ρ)(F0:Nat→Prop)(σ:Nat→Option Si)(F:Nat→Prop)(H:Hp)(n:Nat)(kc:Value→Hp→Nat→Option ρ)(k:KO):Prop:=
 ∀ σ' F' H' n' G' v a q,Rs n0 H0 F0 σ' F' H' n' G'→VRel σ' F' H' a v→Nx σ F H n σ' F' H' n' q→(∃ s i,dst=some s∧σ' s=some i∧i.nil=false∧i.b=n∧n<n')→Out n0 H0 F0 (kc v H' n') (k a q G')
variable {kc:Value→Hp→Nat→Option ρ} {k:KO}
theorem KOk.toN{dst:Option Tmp}(h:KOk n0 H0 F0 σ F H n kc k):KOkN dst n0 H0 F0 σ F H n kc k:=fun _ _ _ _ _ _ _ _ a b c _=>h _ _ _ _ _ _ _ _ a b c
theorem KOk.pk(hk:KOk n0 H0 F0 σ F H n kc k)(h:Rs n0 H0 F0 σ F H n G):PK n0 H0 F0 σ F H (fun v=>kc v H n) (fun a=>k a none G):=
 fun v a hv=>hk σ F H n G v a none h hv Nx.refl
theorem tup0:VRel σ F H (.d (.tup [])) undef:=.dat (by unfold DRel; exact⟨[],rfl,by unfold bj; rfl⟩)
theorem Rs.none_of(h:Rs n0 H0 F0 σ F H n G){s:Nat}(hg:G.get s=none):σ s=none:=by
 cases q:σ s with
 | none=>rfl
 | some i=>obtain⟨B,hB⟩:=h.back s i q; rw[hg] at hB; cases hB
theorem Rs.new(h:Rs n0 H0 F0 σ F H n G){s:Nat}(hg:G.get s=none){i':Si}{B':Bx}{x:Option Blk}(hi:i'.nil=false→i'.b=n)
  (hB:Fz F H (H.set n x)→BRel (upd σ s i') F (H.set n x) i' B') (hne:∀ l,B'≠.env l:=by intro l e; cases e) :
  Rs n0 H0 F0 (upd σ s i') F (H.set n x) (n+1) (G.set s (some B'))∧Nx σ F H n (upd σ s i') F (H.set n x) (n+1) none:=by
 have hnone:=h.none_of hg
 have hp:=h.put (H':=H.set n x) (n':=n+1) (s:=s) (i':=i') (B':=B') (Nat.le_succ _) (fun b hb _=>by rw[Tr.get_set,if_neg (by omega)]) (fun i hi _=>by rw[hnone] at hi; cases hi)
  (fun z=>.inl (by rw[hi z]; omega)) (.inl hnone) hB (fun l e=>absurd e (hne l))
 have hσ:∀ t i,σ t=some i→upd σ s i' t=some i:=fun t i hx=>by rw[lz (fun z=>by subst z; rw[hnone] at hx; cases hx)]; exact hx
 exact⟨hp.2,Nat.le_succ _,fun _ z=>z,fun T A ht=>ht.mono hσ (fun _ z=>z) hp.1,fun _=>⟨fun b hb=>pres.of_eq (by rw[Tr.get_set,if_neg (by omega)]),fun t i hx=>⟨i,hσ t i hx,rfl,rfl⟩⟩⟩
noncomputable def Kv(dst:Option Tmp)(G:Tr Bx)(k:Nat→Option D):Option D:=match dst with
 | some s=>match G.get s with
  | none=>k s
  | some _=>none
 | none=>none
theorem BK{Qx:D→Prop}{dst:Option Tmp}{f:Nat→Option D}(h:∀ s,dst=some s→G.get s=none→OutP Qx (f s)):OutP Qx (Kv dst G f):=by
 cases dst with
 | none=>exact Out.no
 | some s=>
  simp only[Kv]
  cases hg:G.get s with
  | none=>exact h s rfl hg
  | some _=>exact Out.no
theorem loc_ok{s:Nat}{i:Si}(hi:i.nil=false):VRel (upd σ s i) F H (.loc s 0) (ptr i.b):=by
 unfold VRel; exact⟨i,gX,hi,rfl⟩
theorem newD_ok{s:Nat}{d:D}{v:Value}{e:TypeId}(h:Rs n0 H0 F0 σ F H n G)(hg:G.get s=none)(hd:DRel F H d v)(hdat:datD d=true) :
  ∃ σ',Rs n0 H0 F0 σ' F (H.set n (some (.cells (aV v) e false none))) (n+1) (G.set s (some (.dat (nW d) false)))∧VRel σ' F (H.set n (some (.cells (aV v) e false none))) (.loc s 0) (ptr n) ∧
   Nx σ F H n σ' F (H.set n (some (.cells (aV v) e false none))) (n+1) none∧σ' s=some ⟨n,0,0,0,false,.nil⟩:=by
 have:=h.new hg (i':=⟨n,0,0,0,false,.nil⟩) (B':=.dat (nW d) false) (x:=some (.cells (aV v) e false none)) (fun _=>rfl) (fun hfz=>by
  have hc:=hd.cells hdat
  exact⟨rfl,⟨fun z=>absurd (h.lt z) (by simp),fun z=>by cases z⟩,hc.2,aV v,e,none,by rw[Tr.get_set,if_pos rfl],hc.1.mono (fun _ z=>z) hfz⟩)
 exact⟨_,this.1,loc_ok rfl,this.2,gX⟩
theorem newB_ok{s:Nat}{l:List AV}{vs:List Value}{e:TypeId}(h:Rs n0 H0 F0 σ F H n G)(hg:G.get s=none)(hl:l.all oW=true)(hv:bW σ F H l vs) :
  ∃ σ',Rs n0 H0 F0 σ' F (H.set n (some (.cells vs e false none))) (n+1) (G.set s (some (.box l)))∧VRel σ' F (H.set n (some (.cells vs e false none))) (.loc s 0) (ptr n) ∧
   Nx σ F H n σ' F (H.set n (some (.cells vs e false none))) (n+1) none∧σ' s=some ⟨n,0,0,0,false,.nil⟩:=by
 have hnone:=h.none_of hg
 have:=h.new hg (i':=⟨n,0,0,0,false,.nil⟩) (B':=.box l) (x:=some (.cells vs e false none)) (fun _=>rfl) (fun hfz=>
  ⟨rfl,fun z=>absurd (h.lt z) (by simp),hl,vs,e,none,by rw[Tr.get_set,if_pos rfl],hv.mono (fun t i hx=>by rw[lz (fun z=>by subst z; rw[hnone] at hx; cases hx)]; exact hx) (fun _ z=>z) hfz⟩)
 exact⟨_,this.1,loc_ok rfl,this.2,gX⟩
noncomputable def allocA(P:Program)(e:TypeId)(dst:Option Tmp)(G:Tr Bx)(k:KO):Option D:=
 getK (zeroD P e) fun z=>Kv dst G fun s=>k (.loc s 0) none (G.set s (some (.dat (nW z) false)))
noncomputable def boxA(P:Program)(e:TypeId)(a:AV)(dst:Option Tmp)(G:Tr Bx)(k:KO):Option D:=Kv dst G fun s=>match a with
 | .d x=>NZ P e x fun c=>k (.loc s 0) none (G.set s (some (.dat c false)))
 | .agg l=>k (.loc s 0) none (G.set s (some (.box l)))
 | .bad | .und=>none
 | a=>k (.loc s 0) none (G.set s (some (.box [a])))
theorem allocA_ok{e:TypeId}{dst:Option Tmp}(h:Rs n0 H0 F0 σ F H n G)(hk:KOkN dst n0 H0 F0 σ F H n kc k):Out n0 H0 F0 (jK P e H n kc) (allocA P e dst G k):=by
 unfold allocA
 refine Out.getK fun z hz=>BK fun s hd hs=>?_
 obtain⟨zv,h1,h2,h3⟩:=HX (F:=F) (H:=H) hz
 rw[allocK_eq h1]
 obtain⟨σ',r1,r2,r3,r4⟩:=newD_ok (e:=e) h hs h2 h3
 exact hk _ _ _ _ _ _ _ none r1 r2 r3 ⟨s,_,hd,r4,rfl,rfl,Nat.lt_succ_self _⟩
theorem leaf_one{a:AV}{v:Value}(hv:VRel σ F H a v)(ha:oW a=true):bW σ F H [a] (aV v):=by
 rw[(hv.leaf ha).2]; unfold bW; exact⟨v,[],rfl,hv,by unfold bW; rfl⟩
theorem boxA_ok{e:TypeId}{dst:Option Tmp}{a:AV}{v:Value}(h:Rs n0 H0 F0 σ F H n G)(hv:VRel σ F H a v)(hk:KOkN dst n0 H0 F0 σ F H n kc k):Out n0 H0 F0 (boxK e v H n kc) (boxA P e a dst G k):=by
 unfold boxA
 refine BK fun s hd0 hs=>?_
 rw[boxK_eq]
 have one:∀ {a:AV},VRel σ F H a v→oW a=true→Out n0 H0 F0 (kc (ptr n) (H.set n (some (.cells (aV v) e false none))) (n+1)) (k (.loc s 0) none (G.set s (some (.box [a])))):=by
  intro a hv ha
  obtain⟨σ',r1,r2,r3,r4⟩:=newB_ok (e:=e) h hs (l:=[a]) (by simp [ha]) (leaf_one hv ha)
  exact hk _ _ _ _ _ _ _ none r1 r2 r3 ⟨s,_,hd0,r4,rfl,rfl,Nat.lt_succ_self _⟩
 cases a with
 | d x=>
  refine BZ fun hd=>?_
  obtain⟨σ',r1,r2,r3,r4⟩:=newD_ok (e:=e) h hs hv.un hd
  exact hk _ _ _ _ _ _ _ none r1 r2 r3 ⟨s,_,hd0,r4,rfl,rfl,Nat.lt_succ_self _⟩
 | agg l=>
  unfold VRel at hv
  obtain⟨hl,vs,rfl,h1⟩:=hv
  obtain⟨σ',r1,r2,r3,r4⟩:=newB_ok (e:=e) h hs hl h1
  exact hk _ _ _ _ _ _ _ none r1 r2 r3 ⟨s,_,hd0,r4,rfl,rfl,Nat.lt_succ_self _⟩
 | bad=>exact Out.no
 | und=>exact Out.no
 | b c=>exact one hv rfl
 | loc w o=>exact one hv rfl
 | osl w=>exact one hv rfl
 | mp w=>exact one hv rfl
 | asl w o n c=>exact one hv rfl
 | elo w i o=>exact one hv rfl
 | fn f a b=>exact one hv rfl
theorem splice_cut:∀ {c vs:List Value} {o:Nat},o+vs.length≤c.length→nk c o vs=some (c.take o++vs++c.drop (o+vs.length)):=by
 have over:∀ {c vs:List Value},vs.length≤c.length→nk.over c vs=some (vs++c.drop vs.length):=by
  intro c vs
  induction vs generalizing c with
  | nil=>intro _; cases c <;> simp [nk.over]
  | cons v vs ih=>
   intro h
   cases c with
   | nil=>simp at h
   | cons x c=>simp only[nk.over,ih (c:=c) (by simpa using h)]; simp
 intro c vs o
 induction o generalizing c with
 | zero=>intro h; unfold nk; rw[over (by omega)]; simp
 | succ o ih=>
  intro h
  cases c with
  | nil=>simp at h
  | cons x c=>
   unfold nk
   show(match nk c o vs with | none=>none | some r=>some (x::r))=_
   rw[ih (c:=c) (by simp at h; omega)]
   simp [show o+1+vs.length=o+vs.length+1 by omega]
theorem Cj{b o:Nat}{c vs:List Value}{e:TypeId}{vec:Option Nat}(hg:H.get b=some (.cells c e false vec))(hl:vs.all tV=true)(ho:o+vs.length≤c.length) :
  xW H ⟨b,o,none⟩ vs=some (H.set b (some (.cells (c.take o++vs++c.drop (o+vs.length)) e false vec))):=by
 unfold xW
 simp only[hg,hl,if_true,splice_cut ho]
theorem Rs.write(h:Rs n0 H0 F0 σ F H n G){s:Nat}{i:Si}{B':Bx}{x:Option Blk}(hs:σ s=some i)(hnil:i.nil=false)(hF:¬ F i.b)(hx:∃ c e ro vec,x=some (.cells c e ro vec))
  (hH:∀ b,H'.get b=if b=i.b then x else H.get b) (hB:Fz F H H'→BRel σ F H' i B') (hne:∀ l,B'≠.env l:=by intro l e; cases e) :
  Rs n0 H0 F0 σ F H' n (G.set s (some B'))∧Nx σ F H n σ F H' n none:=by
 have hup:upd σ s i=σ:=by
  funext y; unfold upd; split
  ·rename_i q; rw[q,hs]
  ·rfl
 have hp:=h.put (H':=H') (n':=n) (s:=s) (i':=i) (B':=B') (Nat.le_refl _) (fun b hb hne=>by rw[hH,if_neg (hne i hs hnil)]) (fun j hj _=>.inl (by rw[hs] at hj; cases hj; exact hF))
  (fun z=>.inr ⟨i,hs,z,rfl⟩) (.inr (.inl hs)) (by rw[hup]; exact hB) (fun l e=>absurd e (hne l))
 rw[hup] at hp
 refine⟨hp.2,Nat.le_refl _,fun _ z=>z,fun T A ht=>ht.mono (fun _ _ z=>z) (fun _ z=>z) hp.1,fun _=>⟨fun b _ hb=>?_,fun _ j z=>⟨j,z,rfl,rfl⟩⟩⟩
 obtain⟨c,e,ro,vec,rfl⟩:=hx
 by_cases q:b=i.b
 ·exact⟨_,c,by rw[hH,if_pos q],rfl⟩
 ·exact hb.of_eq (by rw[hH,if_neg q])
theorem Rs.writeM(h:Rs n0 H0 F0 σ F H n G){s:Nat}{i:Si}{es es':List MapEntry}{c c':Nat}(hs:σ s=some i)(hnil:i.nil=false)(hF:¬ F i.b)(hm:H.get i.b=some (.map es c))
  (hH:∀ b,H'.get b=if b=i.b then some (.map es' c') else H.get b) :
  Rs n0 H0 F0 σ F H' n (G.set s (some (.map es' c' false)))∧Nx σ F H n σ F H' n none:=by
 have hup:upd σ s i=σ:=by
  funext y; unfold upd; split
  ·rename_i q; rw[q,hs]
  ·rfl
 have hp:=h.put (H':=H') (n':=n) (s:=s) (i':=i) (B':=.map es' c' false) (Nat.le_refl _) (fun b hb hne=>by rw[hH,if_neg (hne i hs hnil)]) (fun j hj _=>.inl (by rw[hs] at hj; cases hj; exact hF))
  (fun z=>.inr ⟨i,hs,z,rfl⟩) (.inr (.inl hs)) (by rw[hup]; exact fun _=>⟨hnil,⟨fun z=>absurd z hF,fun z=>by cases z⟩,by rw[hH,if_pos rfl]⟩)
 rw[hup] at hp
 refine⟨hp.2,Nat.le_refl _,fun _ z=>z,fun T A ht=>ht.mono (fun _ _ z=>z) (fun _ z=>z) hp.1,fun _=>⟨fun b _ hb=>?_,fun _ j z=>⟨j,z,rfl,rfl⟩⟩⟩
 by_cases q:b=i.b
 ·obtain ⟨B, c, h1, h2⟩ := hb
  rw[q,hm] at h1; cases h1; cases h2
 ·exact hb.of_eq (by rw[hH,if_neg q])
def StRes(P:Program)(t:TypeId)(av v:Value)(n0:Nat)(H0:KI ρ)(F0:Nat→Prop)(σ:Nat→Option Si)(F:Nat→Prop)(H:Hp)(n:Nat)(k:KO)(w:Nat)(y:D):Prop:=
 ∃ i x G',σ w=some i∧i.nil=false∧¬ F i.b∧(∀ Hm,Hm.get i.b=H.get i.b→dQ P t av v Hm=some (Hm.set i.b x)) ∧
  (∀ H',(∀ b,H'.get b=if b=i.b then x else H.get b)→Rs n0 H0 F0 σ F H' n G'∧Nx σ F H n σ F H' n none)∧k (.d (.tup [])) none G'=some y
noncomputable def splA(c:List AV)(o:Nat)(l:List AV)(sz:Nat):Option (List AV):=match Nat.beq l.length sz with
 | true=>match Nat.ble (o+sz) c.length with
  | true=>some (c.take o++l++c.drop (o+sz))
  | false=>none
 | false=>none
noncomputable def cellsK(sz:Nat)(a:AV)(k:List AV→Option D):Option D:=match a with
 | .d x=>match Nat.beq sz 1 with
  | true=>chkK (bz x) (k [.d x])
  | false=>getK (aggD x) fun l=>k (l.map .d)
 | .agg l=>k l
 | .bad | .und=>none
 | a=>k [a]
theorem cellsK_ok{Qx:D→Prop}{sz:Nat}{a:AV}{v:Value}{f:List AV→Option D}(hv:VRel σ F H a v)(hk:∀ l,bW σ F H l (aV v)→l.all oW=true→OutP Qx (f l)) :
  OutP Qx (cellsK sz a f):=by
 have one:∀ {a:AV},VRel σ F H a v→oW a=true→OutP Qx (f [a]):=fun hv ha=>hk _ (leaf_one hv ha) (by simp [ha])
 cases a with
 | d x=>
  simp only[cellsK]
  split
  ·exact Out.chk fun hl=>one hv hl
  ·refine Out.getK fun l hl => ?_
   cases x with
   | agg l'=>
    cases hl
    have hv:=hv.un
    unfold DRel at hv
    obtain⟨h0,vs,rfl,h1⟩:=hv
    exact hk _ (bW.of_D h1) (by rw[List.all_map]; exact h0)
   | _=>cases hl
 | agg l=>
  unfold VRel at hv
  obtain⟨hl,vs,rfl,h1⟩:=hv
  exact hk _ h1 hl
 | bad=>exact Out.no
 | und=>exact Out.no
 | b c=>exact one hv rfl
 | loc w o=>exact one hv rfl
 | osl w=>exact one hv rfl
 | mp w=>exact one hv rfl
 | asl w o n c=>exact one hv rfl
 | elo w i o=>exact one hv rfl
 | fn f a b=>exact one hv rfl
noncomputable def storeB(s o:Nat)(c:List AV)(sz:Nat)(x:AV)(G:Tr Bx)(k:KO):Option D:=
 cellsK sz x fun l=>getK (splA c o l sz) fun c'=>k (.d (.tup [])) none (G.set s (some (.box c')))
noncomputable def putD(P:Program)(t:TypeId)(c:List D)(o:Nat)(y:D)(sz:Nat)(k:List D→Option D):Option D:=match pz P t with
 | none=>none
 | some false=>match Nat.beq sz 1 with
  | true=>chkK (bz y) (chkK (Nat.blt o c.length) (k (c.set o y)))
  | false=>none
 | some true=>bindO (aggD y) fun ds=>bindO (splD c o ds sz) k
noncomputable def reT(P:Program)(e:TypeId)(c:List D)(k:D→Option D):Option D:=match pz P e with
 | some true=>k (.agg c)
 | some false=>match c with
  | [x]=>k x
  | _=>none
 | none=>none
noncomputable def storeA(P:Program)(t:TypeId)(a x:AV)(G:Tr Bx)(k:KO):Option D:=match szT P t with
 | some sz=>match a with
  | .loc s o=>match G.get s with
   | some (.dat c false)=>match x with
    | .d y=>putD P t c o y sz fun c'=>k (.d (.tup [])) none (G.set s (some (.dat c' false)))
    | x=>storeB s o (c.map .d) sz x G k
   | some (.box c)=>storeB s o c sz x G k
   | _=>none
  | .elo s i o=>match G.get s with
   | some (.vec els e z false)=>match x with
    | .d y=>bindO (els[i]?) fun el=>NZ P e el fun c=>putD P t c o y sz fun c'=>reT P e c' fun w=>k (.d (.tup [])) none (G.set s (some (.vec (els.set i w) e z false)))
    | _=>none
   | _=>none
  | _=>none
 | none=>none
theorem splD_leaf{c ds c':List D}{o s:Nat}(e:splD c o ds s=some c')(hc:c.all bz=true)(hd:ds.all bz=true):c'.all bz=true:=by
 unfold splD at e
 split at e
 ·cases e
  rw[List.all_eq_true] at hc hd ⊢
  intro x hx
  simp only[List.mem_append] at hx
  rcases hx with(hx | hx) | hx
  ·exact hc x (List.mem_of_mem_take hx)
  ·exact hd x hx
  ·exact hc x (List.mem_of_mem_drop hx)
 ·cases e
theorem splD_rel{c ds c':List D}{cv dv:List Value}{o s:Nat}(e:splD c o ds s=some c')(hc:bj F H c cv)(hd:bj F H ds dv) :
  dv.length=s∧o+s≤cv.length∧bj F H c' (cv.take o++dv++cv.drop (o+s)):=by
 unfold splD at e
 split at e
 ·rename_i q
  cases e
  have h1:=hc.length
  have h2:=hd.length
  exact⟨by omega,by omega,((hc.take o).append hd).append (hc.drop (o+s))⟩
 ·cases e
theorem VY{t:TypeId}{sz:Nat}{a:Addr}{v:Value}(hs:szT P t=some sz)(hl:(aV v).length=sz):dQ P t (.pointer (some a)) v H=xW H a (aV v):=by
 unfold dQ; simp only[hs,hl,if_true]
theorem storeB_run{s o:Nat}{c:List AV}{cv:List Value}{sz:Nat}{x:AV}{v:Value}{i:Si}{t:TypeId}{e:TypeId}{vec:Option Nat}(h:Rs n0 H0 F0 σ F H n G)(hi:σ s=some i)(hnil:i.nil=false)(hF:¬ F i.b)
  (hg:H.get i.b=some (.cells cv e false vec)) (hc:bW σ F H c cv) (hcl:c.all oW=true) (hs:szT P t=some sz) (hv:VRel σ F H x v) :
  OutP (StRes P t (.pointer (some ⟨i.b,o,none⟩)) v n0 H0 F0 σ F H n k s) (storeB s o c sz x G k):=by
 unfold storeB
 refine cellsK_ok hv fun l hl hll=>Out.getK fun c' hc'=>?_
 unfold splA at hc'
 split at hc'
 ·rename_i q1
  split at hc'
  ·rename_i q2
   cases hc'
   have q1:=Nat.eq_of_beq_eq_true q1
   have q2:=Nat.le_of_ble_eq_true q2
   have hlen:=hl.length
   have hlc:=hc.length
   intro y ey
   refine⟨i,some (.cells (cv.take o++aV v++cv.drop (o+sz)) e false vec),_,hi,hnil,hF,fun Hm hm=>?_,fun H' hH'=>?_,ey⟩
   ·rw[VY hs (by omega),Cj (hm.trans hg) (hl.leafs hll) (by omega),show o+(aV v).length=o+sz by omega]
   ·exact h.write (B':=.box (c.take o++l++c.drop (o+sz))) hi hnil hF ⟨_,_,_,_,rfl⟩ hH' (fun hfz=>by
     refine⟨hnil,hF,?_,_,e,vec,by rw[hH',if_pos rfl],?_⟩
     ·rw [List.all_eq_true] at hcl hll ⊢
      intro y hy
      simp only[List.mem_append] at hy
      rcases hy with(hy | hy) | hy
      ·exact hcl y (List.mem_of_mem_take hy)
      ·exact hll y hy
      ·exact hcl y (List.mem_of_mem_drop hy)
     ·exact(((hc.take o).append hl).append (hc.drop (o+sz))).mono (fun _ _ z=>z) (fun _ z=>z) hfz)
  ·cases hc'
 ·cases hc'
theorem set_cut:∀ {c:List D} {o:Nat} {y:D},o<c.length→c.set o y=c.take o++[y]++c.drop (o+1)
 | [],_,_,h=>by simp at h
 | x::c,0,y,_=>by simp
 | x::c,o+1,y,h=>by simp only[List.set_cons_succ,List.take_succ_cons,List.drop_succ_cons,List.cons_append]; rw[set_cut (by simpa using h)]
theorem putD_ok{Qx:D→Prop}{t:TypeId}{c:List D}{cv:List Value}{o sz:Nat}{y:D}{v:Value}{f:List D→Option D}(hc:bj F H c cv)(hcl:c.all bz=true)(hv:DRel F H y v)
  (hk:∀ c',(aV v).length=sz→(aV v).all tV=true→o+sz≤cv.length→bj F H c' (cv.take o++aV v++cv.drop (o+sz))→c'.all bz=true→OutP Qx (f c')):OutP Qx (putD P t c o y sz f):=by
 have hlen:=hc.length
 unfold putD
 split
 ·exact Out.no
 ·split
  case h_2=>exact Out.no
  rename_i q
  have:=Nat.eq_of_beq_eq_true q; subst this
  refine Out.chk fun hl=>Out.chk fun ho=>?_
  have ho:o<c.length:=by simpa using ho
  have hq:=hv.leaf hl
  have h1:bj F H [y] (aV v):=by rw[hq.2.2.2]; unfold bj; exact⟨v,[],rfl,hv,by unfold bj; rfl⟩
  rw[set_cut ho]
  refine hk _ (by rw[hq.2.2.2]; rfl) (by rw[hq.2.2.2]; simp [hq.1]) (by omega) (((hc.take o).append h1).append (hc.drop (o+1))) ?_
  rw[List.all_eq_true] at hcl ⊢
  intro z hz
  simp only[List.mem_append,List.mem_cons,List.not_mem_nil,or_false] at hz
  rcases hz with(hz | hz) | hz
  ·exact hcl z (List.mem_of_mem_take hz)
  ·rw[hz]; exact hl
  ·exact hcl z (List.mem_of_mem_drop hz)
 ·refine Out.bindO fun ds hds => Out.bindO fun c' hc' => ?_
  cases y with
  | agg l=>
   cases hds
   have hcy:=hv.cells rfl
   obtain⟨r1,r2,r3⟩:=splD_rel hc' hc hcy.1
   exact hk c' r1 (hcy.1.leafs hcy.2).1 r2 r3 (splD_leaf hc' hcl hcy.2)
  | _=>cases hds
def DNew(F:Nat→Prop)(H:Hp)(l:List D)(c:List Value)(s:Nat):Prop:=
 ∀(i:Nat) d,l[i]?=some d→datD d=true∧∃ v,DRel F H d v∧(aV v).length=s∧∀(j:Nat) u,(aV v)[j]?=some u→c[i * s+j]?=some u
variable {l l':List D} {c c':List Value} {s b:Nat} {e:TypeId} {ro:Bool} {vec:Option Nat}
theorem DAt.new(h:DAt F H l b 0 s)(hg:H.get b=some (.cells c e ro vec)):DNew F H l c s:=fun i d hd=>by
 obtain⟨h0,v,h1,h2,B,c2,h3,h4,h5⟩:=h.get hd
 rw[hg] at h3; cases h3; cases h4
 exact⟨h0,v,h1,h2,fun j u hj=>by have:=h5 j u hj; rwa [Nat.zero_add] at this⟩
theorem DNew.at(h:DNew F H l c s)(hF:∀ b,F b→F' b)(hfz:Fz F H H')(hg:H'.get b=some (.cells c e ro vec)):DAt F' H' l b 0 s:=DAt.of_get fun i d hd=>by
 obtain⟨h0,v,h1,h2,h3⟩:=h i d hd
 exact⟨h0,v,h1.mono hF hfz,h2,_,c,hg,rfl,fun j u hj=>by rw[Nat.zero_add]; exact h3 j u hj⟩
theorem nz{α:Type}{l:List α}{i:Nat}{x:α}(h:l[i]?=some x):i<l.length:=(List.getElem?_eq_some_iff.1 h).1
theorem DNew.app(h:DNew F H l c s)(hc:c.length=l.length * s)(h':DNew F H l' c' s):DNew F H (l++l') (c++c') s:=fun i d hd=>by
 by_cases q:i<l.length
 ·rw [List.getElem?_append_left q] at hd
  obtain⟨h0,v,h1,h2,h3⟩:=h i d hd
  refine⟨h0,v,h1,h2,fun j u hj=>?_⟩
  have:=h3 j u hj
  rw[List.getElem?_append_left (nz this)]; exact this
 ·rw [List.getElem?_append_right (by omega)] at hd
  obtain⟨h0,v,h1,h2,h3⟩:=h' _ d hd
  refine⟨h0,v,h1,h2,fun j u hj=>?_⟩
  have hm:i * s=(i-l.length) * s+l.length * s:=by rw[← Nat.add_mul]; congr 1; omega
  rw[List.getElem?_append_right (by omega),← h3 j u hj]
  congr 1; omega
theorem DNew.ext(h:DNew F H l c s)(x:List Value):DNew F H l (c++x) s:=fun i d hd=>by
 obtain⟨h0,v,h1,h2,h3⟩:=h i d hd
 exact⟨h0,v,h1,h2,fun j u hj=>by rw[List.getElem?_append_left (nz (h3 j u hj))]; exact h3 j u hj⟩
theorem DNew.pre(h:DNew F H l c s):DNew F H l (c.take (l.length * s)) s:=fun i d hd=>by
 obtain⟨h0,v,h1,h2,h3⟩:=h i d hd
 refine⟨h0,v,h1,h2,fun j u hj=>?_⟩
 have hi:=nz hd
 have hj':=nz hj
 have hm:(i+1) * s≤l.length * s:=Nat.mul_le_mul_right s (by omega)
 rw[Nat.succ_mul] at hm
 rw[List.getElem?_take,if_pos (by omega)]; exact h3 j u hj
theorem DNew.leaf(h:DNew F H l c s)(hs:1≤s)(hc:c.length=l.length * s):c.all tV=true:=by
 rw[List.all_eq_true]
 intro x hx
 obtain⟨k,hk,rfl⟩:=List.getElem_of_mem hx
 have hi:k / s<l.length:=(Nat.div_lt_iff_lt_mul (by omega)).2 (by omega)
 obtain⟨h0,v,h1,h2,h3⟩:=h (k / s) _ (List.getElem?_eq_getElem hi)
 have hj:k % s<(aV v).length:=by rw[h2]; exact Nat.mod_lt _ (by omega)
 have h4:=h3 (k % s) _ (List.getElem?_eq_getElem hj)
 have hm:k / s * s+k % s=k:=by rw[Nat.mul_comm]; exact Nat.div_add_mod k s
 rw[hm,List.getElem?_eq_getElem hk] at h4
 have hcl:=h1.cells h0
 have:=(hcl.1.leafs hcl.2).1
 rw[List.all_eq_true] at this
 rw[Option.some.inj h4]
 exact this _ (List.getElem_mem hj)
theorem DNew.nil:DNew F H [] c s:=fun i d hd=>by cases hd
theorem DAt.flatS:∀ {l:List D} {b o s:Nat},DAt F H l b o s→l≠[]→∃ c,c.length=l.length * s∧fk H b o c∧DNew F H l c s∧c.all nJ=true
 | [],_,_,_,_,hn=>absurd rfl hn
 | d::l,b,o,s,h,_=>by
  unfold DAt at h
  obtain⟨⟨h0,v,h1,h2,B,cc,h3,h4,h5⟩,h6⟩:=h
  have hcl:=h1.cells h0
  have hno:=(hcl.1.leafs hcl.2).2
  have one:DNew F H [d] (aV v) s:=fun i x hx=>by
   cases i with
   | zero=>cases hx; exact⟨h0,v,h1,h2,fun j u hj=>by simpa using hj⟩
   | succ i=>cases hx
  by_cases hn:l=[]
  ·subst hn
   exact⟨aV v,by simp [h2],⟨B,cc,h3,h4,h5⟩,one,hno⟩
  ·obtain ⟨c, g1, ⟨B', cc', g2, g3, g4⟩, g5, g6⟩ := DAt.flatS h6 hn
   rw[h3] at g2; cases g2
   rw[h4] at g3; cases g3
   refine⟨aV v++c,by simp [h2,g1,Nat.succ_mul]; omega,⟨B,cc,h3,h4,fun k u hk=>?_⟩,one.app (by simp [h2]) g5,by rw[List.all_append,hno,g6]; rfl⟩
   by_cases q:k<(aV v).length
   ·rw[List.getElem?_append_left q] at hk; exact h5 k u hk
   ·rw [List.getElem?_append_right (by omega)] at hk
    have:=g4 _ u hk
    rw[← this]; congr 1; omega
end Go.Ev
end
