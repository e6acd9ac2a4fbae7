/- If the pads are numbered in another order, the bounds move with them, and the best layout has as many nests: whatever the grove, the layout and by how many the pads are turned. -/
import Derived.Test.YtmpnblcfpdnlmaaB2
section
namespace Go.Proofs.Ytmpnblcfpdnlmaa.spec
open Go Go.Ev Go.Proofs.Ytmpnblcfpdnlmaa.nestFits Go.Proofs.Ytmpnblcfpdnlmaa.G
set_option maxRecDepth 100000
variable {ρ:Type}
theorem flat110:flatF P 110=false:=by kernel_rfl
theorem call110 (l:Nat) (a b:Value) (H:Hp) (n:Nat):(cal (l+1)).call 110 [a,b] H n=C110_0 (cal l) KK a b H n:=by kernel_rfl
theorem call117 (l:Nat) (a b c:Value) (H:Hp) (n:Nat):(cal (l+1)).call 117 [a,b,c] H n=C117_0 (cal l) KK a b c H n:=by kernel_rfl
theorem layouts_call (l:Nat) (g:Nat) (i:Int) (H:Hp) (n:Nat) (k:Value→Hp→Nat→Option ρ):callFK P (cal (l+1)) 110 [.pointer (some ⟨g,0,none⟩),.int .i64 i] H n k =
    k (.func (.func 117) ⟨[]⟩ ⟨[.pointer (some ⟨n,0,none⟩),.pointer (some ⟨n+1,0,none⟩)]⟩) ((H.set n (some (.cells [.pointer (some ⟨g,0,none⟩)] 104 false none))).set (n+1) (some (.cells [.int .i64 i] 3 false none))) (n+2):=by
  unfold callFK
  rw[flat110,call110]
  rfl
theorem layouts_range (l:Nat) (a b c:Value) (H:Hp) (n:Nat) (k:Value→Hp→Nat→Option ρ) (hb:pureV b=false):callFK P (cal (l+1)) 117 [a,b,c] H n k=bindO (C117_0 (cal l) KK a b c H n) fun r=>k r.1 r.2.1 r.2.2:=by
  unfold callFK
  have:(flatF P 117 && pureL [a,b,c])=false:=by simp [pureL,hb]
  rw[this,call117]
theorem range81 (c:Cal) (a b:Value) (K:KC (Value × Hp × Nat)) (X:XC (Value × Hp × Nat)) (Kr:KC (Value × Hp × Nat)) (T:Tm) (H:Hp) (n:Nat) (D:List Nat) :
    rangeK P c none 81 (.func (.func 117) ⟨[]⟩ ⟨[a,b]⟩) #[23,24] asg81 bod81 K X Kr T H n D =
      callFK P c 117 [.func (.yield (n+1)) #[] #[],a,b] ((H.set n (some .deferred)).set (n+1) (some (.loop .ready none 81 T (ntm P 81) #[23,24] asg81 bod81 n))) (n+2) fun _ H n'=>fin K X Kr (rangeOut (n+1) { T:=T,H,n:=n',D:=n::D }):=rfl
theorem takeD_ok:∀(D:List Nat) (H:Hp),D.Nodup→(∀ d,d ∈ D→H.get d=some .deferred)→∃ H',takeD H D=some H'∧∀ b,b ∉ D→H'.get b=H.get b
  | [],H,_,_=>⟨H,rfl,fun _ _=>rfl⟩
  | d::D,H,hD,h=>by
    obtain⟨h1,h2⟩:=List.nodup_cons.1 hD
    obtain⟨H',q1,q2⟩:=takeD_ok D (H.set d none) h2 fun e he=>by
      have:e≠d:=fun c=>h1 (c ▸ he)
      rw[Tr.get_set,if_neg this]
      exact h e (List.mem_cons_of_mem _ he)
    refine⟨H',?_,fun b hb=>?_⟩
    · unfold takeD
      simp only[h d (List.mem_cons_self ..),q1]
    · have hb1:b≠d:=fun c=>hb (c ▸ List.mem_cons_self ..)
      rw[q2 b fun c=>hb (List.mem_cons_of_mem _ c),Tr.get_set,if_neg hb1]
theorem res81 (b2:Nat) (v:Value) (M:List Int) (H:Hp) (hM:M.length=8) (h:H.get b2=some (.cells (ints M) 120 false none)):resV P (((Tr.nil:Tm).set 3 (some v)).set 2 (some (.pointer (some ⟨b2,0,none⟩)))) H results81=some [.agg ⟨ints M⟩,v]:=by
  rw[results81_eq]
  have t2:(((Tr.nil:Tm).set 3 (some v)).set 2 (some (.pointer (some ⟨b2,0,none⟩)))).get 2=some (.pointer (some ⟨b2,0,none⟩)):=by rw[Tr.get_set,if_pos rfl]
  have t3:(((Tr.nil:Tm).set 3 (some v)).set 2 (some (.pointer (some ⟨b2,0,none⟩)))).get 3=some v:=by rw[Tr.get_set,if_neg (by omega),Tr.get_set,if_pos rfl]
  simp only[resV,t2,t3,load_all h agg121 sz121 (by rw[ints_length,hM])]
theorem ld_one {t:TypeId} {a:Addr} (b:Nat):ldOf [.l t a] b↔b=a.block:=by
  constructor
  · rintro⟨t',a',h1,h2⟩
    simp only[List.mem_cons,List.not_mem_nil,or_false,Extra.l.injEq] at h1
    obtain⟨_,rfl⟩:=h1
    exact h2.symm
  · rintro rfl
    exact⟨t,a,by simp,rfl⟩
theorem end81 (c:Cal) (k:Nat) {T:Tm} {b1 b2 b4 b5:Nat} {v16 v17:Value} (hT:IsT81 T b1 b2 b4 b5 v16 v17) {H:Hp} {n:Nat} {D:List Nat} {M:List Int} {r:Bool} (hM:M.length=8) (h2:∃ w,H.get b2=some (.cells w 120 false none)∧w.length=8) (h4:H.get b4=some (.cells (ints M) 120 false none)) (h5:H.get b5=some (.cells [.bool r] 4 false none)) (e2:b2≠b5) (hD:D.Nodup) (hd:∀ d,d ∈ D→H.get d=some .deferred) :
    ∃ H',KE c k T H n D=some (.tuple ⟨[.agg ⟨ints M⟩,.bool r]⟩,H',n)∧∀ b,b ∉ D→b≠b2→H'.get b=H.get b:=by
  obtain⟨w,w1,w2⟩:=h2
  have lM:(ints M).length=8:=by rw[ints_length,hM]
  have l4:=load_all h4 agg121 sz121 lM
  have l5:loadV P H 4 ⟨b5,0,none⟩=some (.bool r):=loadV_scalar (o:=0) (k:=0) (cells_at h5) agg4' rfl rfl rfl
  have hb5D:b5 ∉ D:=fun h=>by have:=hd b5 h; rw[h5] at this; cases this
  have hb2D:b2 ∉ D:=fun h=>by have:=hd b2 h; rw[w1] at this; cases this
  obtain⟨H1,H2,n2,q1,⟨rfl,q2,q3⟩,q4,q5⟩:=effK_gen (P:=P) (ρ:=Value × Hp × Nat) (ex:=[.l 4 ⟨b5,0,none⟩]) (H:=H) (n:=n) (v:=undef)
    (op:=fun H n k=>bindO (storeP P 120 (.pointer (some ⟨b2,0,none⟩)) (.agg ⟨ints M⟩) H) fun H=>k undef H n)
    (R:=fun H' n'=>n'=n∧H'.get b2=some (.cells (ints M) 120 false none)∧∀ b,b≠b2→b≠b5→H'.get b=H.get b)
    (fun q hq=>by
      simp only[List.mem_cons,List.not_mem_nil,or_false] at hq
      subst hq
      exact⟨_,_,rfl,.inl ⟨_,_,_,_,h5⟩⟩)
    (fun Hm hm=>by
      have g2:Hm.get b2=some (.cells w 120 false none):=by rw[hm b2 (fun h=>e2 ((ld_one b2).1 h))]; exact w1
      have hst:=storeN_all (vs:=ints M) g2 (by rw[lM,w2]) (ints_leaf _)
      refine⟨Hm.set b2 (some (.cells (ints M) 120 false none)),n,fun k=>by rw[storeP_agg sz121 lM,hst,bindO_some],fun b hb=>?_,rfl,by rw[Tr.get_set,if_pos rfl],fun b hb hb'=>?_⟩
      · have:=(ld_one b).1 hb
        rw[Tr.get_set,if_neg (by intro h; exact e2 (h.symm.trans this))]
      · rw[Tr.get_set,if_neg hb,hm b (fun h=>hb' ((ld_one b).1 h))])
  have g5:H1.get b5=H.get b5:=q4 b5 ((ld_one b5).2 rfl)
  have g2:H1.get b2=some (.cells (ints M) 120 false none):=by rw[q5 b2 (fun h=>e2 ((ld_one b2).1 h))]; exact q2
  have go:∀ b,b≠b2→H1.get b=H.get b:=fun b hb=>by
    by_cases c:b=b5
    · rw[c,g5]
    · rw[q5 b (fun h=>c ((ld_one b).1 h)),q3 b hb c]
  obtain⟨H3,t1,t2⟩:=takeD_ok D H1 hD fun d h=>by rw[go d (fun c=>hb2D (c ▸ h))]; exact hd d h
  refine⟨H3,?_,fun b hb hb2=>by rw[t2 b hb,go b hb2]⟩
  have key:(bindO (addrV (.pointer (some ⟨b4,0,none⟩))) fun a=>bindO (loadV P H 120 a) fun v30=>bindO (addrV (.pointer (some ⟨b5,0,none⟩))) fun a5=>bindO (loadV P H 4 a5) fun v31=>effK P [.l 4 a5] H n2 (fun H n k=>bindO (storeP P 120 (.pointer (some ⟨b2,0,none⟩)) v30 H) fun H=>k undef H n) fun _ H n=>
      getK (takeD H D) fun H=>bindO (resV P (((Tr.nil:Tm).set 3 (some v31)).set 2 (some (.pointer (some ⟨b2,0,none⟩)))) H results81) fun vs=>some (oneV vs,H,n))=some (.tuple ⟨[.agg ⟨ints M⟩,.bool r]⟩,H3,n2):=by
    rw[addrV_eq,bindO_some,l4,bindO_some,addrV_eq,bindO_some,l5,bindO_some,q1,t1]
    show(bindO (resV P (((Tr.nil:Tm).set 3 (some (.bool r))).set 2 (some (.pointer (some ⟨b2,0,none⟩)))) H3 results81) fun vs=>some (oneV vs,H3,n2))=_
    rw[res81 b2 _ M H3 hM ((t2 b2 hb2D).trans g2)]
    rfl
  rcases hT with⟨o,rfl⟩ | ⟨o,rfl⟩
  · rw[post81_B]; exact key
  · rw[post81_C]; exact key
def IsL81 (T:Tm) (b1 b2 b4 b5:Nat) (v16:Value) (i:Nat):Prop:=(i=0∧∃ o,T=TA o (.pointer (some ⟨b1,0,none⟩)) (.pointer (some ⟨b2,0,none⟩)) (.pointer (some ⟨b4,0,none⟩)) (.pointer (some ⟨b5,0,none⟩)) v16 (.int .i64 i))∨∃ o,T=TC o (.pointer (some ⟨b1,0,none⟩)) (.pointer (some ⟨b2,0,none⟩)) (.pointer (some ⟨b4,0,none⟩)) (.pointer (some ⟨b5,0,none⟩)) v16 (.int .i64 i)
theorem head81 (c:Cal) (k m:Nat) {T:Tm} {b1 b2 b4 b5 g N i:Nat} (hT:IsL81 T b1 b2 b4 b5 (.int .i64 N) i) (hi:i<N):∃ TT:Value→Tm,(∀ v,IsT81 (TT v) b1 b2 b4 b5 (.int .i64 N) (.int .i64 i))∧∀(H:Hp) (n:Nat) (D:List Nat),loadV P H 104 ⟨b1,0,none⟩=some (.pointer (some ⟨g,0,none⟩)) →
    LP c k (m+1) T H n D=callFK P c 110 [.pointer (some ⟨g,0,none⟩),.int .i64 i] H n fun v22 H n=>rangeK P c none 81 v22 #[23,24] asg81 bod81 (KN c k m) (upX 2 (KN c k m) (upX 1 (KN c k m) (upX 0 (KE c k) X0))) (doneK P results81) (TT v22) H n D:=by
  rcases hT with⟨_,o,rfl⟩ | ⟨o,rfl⟩
  · refine⟨fun v22=>TB (upd (upd (upd (upd (upd (upd o 18 (.bool (decide ((i:Int)<(N:Int))))) 19 (.int .i64 i)) 6 (.int .i64 i)) 20 (.pointer (some ⟨g,0,none⟩))) 21 (.int .i64 i)) 22 v22) (.pointer (some ⟨b1,0,none⟩)) (.pointer (some ⟨b2,0,none⟩)) (.pointer (some ⟨b4,0,none⟩)) (.pointer (some ⟨b5,0,none⟩)) (.int .i64 N) (.int .i64 i),fun v=>.inl ⟨_,rfl⟩,fun H n D hl=>?_⟩
    rw[loop81_A,binK_some bin_lss,ifK_d,if_pos (by omega),addrV_eq,bindO_some,hl,bindO_some]
  · refine⟨fun v22=>TC (upd (upd (upd (upd (upd (upd o 18 (.bool (decide ((i:Int)<(N:Int))))) 19 (.int .i64 i)) 6 (.int .i64 i)) 20 (.pointer (some ⟨g,0,none⟩))) 21 (.int .i64 i)) 22 v22) (.pointer (some ⟨b1,0,none⟩)) (.pointer (some ⟨b2,0,none⟩)) (.pointer (some ⟨b4,0,none⟩)) (.pointer (some ⟨b5,0,none⟩)) (.int .i64 N) (.int .i64 i),fun v=>.inr ⟨_,rfl⟩,fun H n D hl=>?_⟩
    rw[loop81_C,binK_some bin_lss,ifK_d,if_pos (by omega),addrV_eq,bindO_some,hl,bindO_some]
theorem last81 (c:Cal) (k m:Nat) {T:Tm} {b1 b2 b4 b5 N:Nat} (hT:IsL81 T b1 b2 b4 b5 (.int .i64 N) N) (hN:N≠0):∃ T',IsT81 T' b1 b2 b4 b5 (.int .i64 N) (.int .i64 N)∧∀(H:Hp) (n:Nat) (D:List Nat),LP c k (m+1) T H n D=KE c k T' H n D:=by
  rcases hT with⟨h,_⟩ | ⟨o,rfl⟩
  · exact absurd h hN
  · refine⟨(TC o (.pointer (some ⟨b1,0,none⟩)) (.pointer (some ⟨b2,0,none⟩)) (.pointer (some ⟨b4,0,none⟩)) (.pointer (some ⟨b5,0,none⟩)) (.int .i64 N) (.int .i64 N)).set 18 (some (.bool (decide ((N:Int)<(N:Int))))),.inr ⟨_,set18_C ..⟩,fun H n D=>?_⟩
    rw[loop81_C,binK_some bin_lss,ifK_d,if_neg (by omega)]
theorem next81 (c:Cal) (k m:Nat) {T:Tm} {b1 b2 b4 b5 i:Nat} {v16:Value} (hT:IsT81 T b1 b2 b4 b5 v16 (.int .i64 i)) (hi:i≤1000):∃ T',IsL81 T' b1 b2 b4 b5 v16 (i+1)∧∀(H:Hp) (n:Nat) (D:List Nat),KN c k m T H n D=LP c k m T' H n D:=by
  have hI1:I64 ((i:Int)+1):=by unfold I64; omega
  have hcast:((i:Int)+1)=((i+1:Nat):Int):=by omega
  rcases hT with⟨o,rfl⟩ | ⟨o,rfl⟩
  · refine⟨TC (upd o 29 (.int .i64 ((i+1:Nat):Int))) (.pointer (some ⟨b1,0,none⟩)) (.pointer (some ⟨b2,0,none⟩)) (.pointer (some ⟨b4,0,none⟩)) (.pointer (some ⟨b5,0,none⟩)) v16 (.int .i64 ((i+1:Nat):Int)),.inr ⟨_,rfl⟩,fun H n D=>?_⟩
    rw[next81_B,binK_some (bin_add hI1),hcast]
  · refine⟨TC (upd o 29 (.int .i64 ((i+1:Nat):Int))) (.pointer (some ⟨b1,0,none⟩)) (.pointer (some ⟨b2,0,none⟩)) (.pointer (some ⟨b4,0,none⟩)) (.pointer (some ⟨b5,0,none⟩)) v16 (.int .i64 ((i+1:Nat):Int)),.inr ⟨_,rfl⟩,fun H n D=>?_⟩
    rw[next81_C,binK_some (bin_add hI1),hcast]
end Go.Proofs.Ytmpnblcfpdnlmaa.spec
end
section
namespace Go.Proofs.Ytmpnblcfpdnlmaa.spec
open Go Go.Ev Go.Proofs.Ytmpnblcfpdnlmaa.nestFits Go.Proofs.Ytmpnblcfpdnlmaa.G
set_option maxRecDepth 100000
variable {ρ:Type}
structure Stand (H:Hp) (n m0 b1 b4 b5 g np nj nk:Nat) (f:Nat→Value) (x y z:Value) (ps js ks:List Int):Prop where
  at1:H.get b1=some (.cells [.pointer (some ⟨g,0,none⟩)] 104 false none)
  at4:∃ w,H.get b4=some (.cells w 120 false none)∧w.length=8
  at5:∃ w,H.get b5=some (.cells [w] 4 false none)
  cells:CellsF H g 859 116 f
  site:SiteF f x y z js nj
  kinds:lenV P 33 z=some (.int .i64 nk)
  nests:∀ p kd,p<np→kd<nk→NestAt f js ks nj np p kd
  ok:KindsOk ks nk
  pads:SliceR H m0 2 x np ps
  np8:np≤8
  nk3:nk≤3
  low:m0≤n∧b1<n∧b4<n∧b5<n∧g<n
  apart:b4≠b5
theorem Stand.keep {H H':Hp} {n n' m0 b1 b4 b5 g np nj nk:Nat} {f:Nat→Value} {x y z:Value} {ps js ks:List Int} (h:Stand H n m0 b1 b4 b5 g np nj nk f x y z ps js ks) (hk:Keep n H H') (hn:n≤n'):Stand H' n' m0 b1 b4 b5 g np nj nk f x y z ps js ks:=by
  obtain⟨l1,l2,l3,l4,l5⟩:=h.low
  refine⟨(hk _ l2).trans h.at1,?_,?_,h.cells.keep hk l5,h.site,h.kinds,h.nests,h.ok,h.pads.keep (hk.le l1) (Nat.le_refl _),h.np8,h.nk3,⟨by omega,by omega,by omega,by omega,by omega⟩,h.apart⟩
  · obtain⟨w,q1,q2⟩:=h.at4
    exact⟨w,(hk _ l3).trans q1,q2⟩
  · obtain⟨w,q1⟩:=h.at5
    exact⟨w,(hk _ l4).trans q1⟩
noncomputable def withN (ps js ks:List Int) (nj np nk:Nat) (i:Nat):Option (List Int):=findL (rightD js ks ps nj np) (holdsD js ks ps nj np) (fitD js ks nj np) np nk np noL i
theorem round81 (l:Nat) {H:Hp} {n m0 b1 b2 b4 b5 g np nj nk i:Nat} {f:Nat→Value} {x y z v16 v17:Value} {ps js ks:List Int} (st:Stand H n m0 b1 b4 b5 g np nj nk f x y z ps js ks) (hi:i≤np) {TT:Value→Tm} (hTT:∀ v,IsT81 (TT v) b1 b2 b4 b5 v16 v17) (K E:KC (Value × Hp × Nat)) (Kr:KC (Value × Hp × Nat)) (D:List Nat) :
    ∃ T H' n',IsT81 T b1 b2 b4 b5 v16 v17∧n+4≤n'∧H'.get (n+2)=some .deferred∧(∀ b,b<n→b≠b4→b≠b5→H'.get b=H.get b) ∧
      (callFK P (cal (l+5+np+2)) 110 [.pointer (some ⟨g,0,none⟩),.int .i64 i] H n fun v22 H n=>rangeK P (cal (l+5+np+2)) none 81 v22 #[23,24] asg81 bod81 K (upX 2 K (upX 1 K (upX 0 E X0))) Kr (TT v22) H n D) =
        (match withN ps js ks nj np nk i with
        | some _=>E T H' n' ((n+2)::D)
        | none=>K T H' n' ((n+2)::D)) ∧
      match withN ps js ks nj np nk i with
      | some M=>H'.get b4=some (.cells (ints M) 120 false none)∧H'.get b5=some (.cells [.bool true] 4 false none)
      | none=>H'.get b4=H.get b4∧H'.get b5=H.get b5:=by
  obtain⟨o1,o2,o3,o4,o5⟩:=st.low
  have hnp:=st.np8
  have hap:=st.apart
  rw[layouts_call (l+5+np+1)]
  have a1:((H.set n (some (.cells [.pointer (some ⟨g,0,none⟩)] 104 false none))).set (n+1) (some (.cells [.int .i64 i] 3 false none))).get n=some (.cells [.pointer (some ⟨g,0,none⟩)] 104 false none):=by rw[Tr.get_set,if_neg (by omega),Tr.get_set,if_pos rfl]
  have a2:((H.set n (some (.cells [.pointer (some ⟨g,0,none⟩)] 104 false none))).set (n+1) (some (.cells [.int .i64 i] 3 false none))).get (n+1)=some (.cells [.int .i64 i] 3 false none):=by rw[Tr.get_set,if_pos rfl]
  have a3:Keep n H ((H.set n (some (.cells [.pointer (some ⟨g,0,none⟩)] 104 false none))).set (n+1) (some (.cells [.int .i64 i] 3 false none))):=((Keep.refl n H).set (Nat.le_refl _) _).set (by omega) _
  generalize (H.set n (some (.cells [.pointer (some ⟨g,0,none⟩)] 104 false none))).set (n+1) (some (.cells [.int .i64 i] 3 false none))=H5 at a1 a2 a3 ⊢
  rw[range81,layouts_range (l+5+np+1) _ _ _ _ _ _ rfl]
  have hT:=hTT (.func (.func 117) ⟨[]⟩ ⟨[.pointer (some ⟨n,0,none⟩),.pointer (some ⟨n+1,0,none⟩)]⟩)
  generalize TT (.func (.func 117) ⟨[]⟩ ⟨[.pointer (some ⟨n,0,none⟩),.pointer (some ⟨n+1,0,none⟩)]⟩)=T at hT ⊢
  have r1:∀ b,b<n+2→((H5.set (n+2) (some .deferred)).set (n+2+1) (some (.loop .ready none 81 T (ntm P 81) #[23,24] asg81 bod81 (n+2)))).get b=H5.get b:=fun b hb=>by rw[Tr.get_set,if_neg (by omega),Tr.get_set,if_neg (by omega)]
  have r2:((H5.set (n+2) (some .deferred)).set (n+2+1) (some (.loop .ready none 81 T (ntm P 81) #[23,24] asg81 bod81 (n+2)))).get (n+2)=some .deferred:=by rw[Tr.get_set,if_neg (by omega),Tr.get_set,if_pos rfl]
  have r3:((H5.set (n+2) (some .deferred)).set (n+2+1) (some (.loop .ready none 81 T (ntm P 81) #[23,24] asg81 bod81 (n+2)))).get (n+2+1)=some (.loop .ready none 81 T (ntm P 81) #[23,24] asg81 bod81 (n+2)):=by rw[Tr.get_set,if_pos rfl]
  generalize (H5.set (n+2) (some .deferred)).set (n+2+1) (some (.loop .ready none 81 T (ntm P 81) #[23,24] asg81 bod81 (n+2)))=H6 at r1 r2 r3 ⊢
  have low:∀ b,b<n→H6.get b=H.get b:=fun b hb=>by rw[r1 b (by omega),a3 b hb]
  have st6:Stand H6 n m0 b1 b4 b5 g np nj nk f x y z ps js ks:=st.keep low (Nat.le_refl _)
  obtain⟨H7,n7,s1,s2,s3⟩:=layouts_spec l (H:=H6) (n:=n+2+2) (lb:=n+2+1) (sb:=n) (nb:=n+1) (nests:=i) (m0:=m0) hT r3 st6.at1 st6.at4 st6.at5 ((r1 n (by omega)).trans a1) ((r1 (n+1) (by omega)).trans a2) st6.cells st6.site st6.kinds st6.nests st6.ok st6.pads st6.np8 st6.nk3 (by omega) (by omega) (by omega) (by omega) (by omega) (by omega) (by omega) (by omega) (by omega) (by omega) (by omega) (by omega) (by omega) st.apart
  rw[s2,bindO_some]
  dsimp only
  have hw:withN ps js ks nj np nk i=findL (rightD js ks ps nj np) (holdsD js ks ps nj np) (fitD js ks nj np) np nk np noL i:=rfl
  rw[← hw] at s3
  cases hc:withN ps js ks nj np nk i with
  | none=>
    rw[hc] at s3
    have s3:∀ b,b<n+2+2→H7.get b=H6.get b:=s3
    have hout:rangeOut (n+2+1) { T:=T,H:=H7,n:=n7,D:=(n+2)::D }=some (.norm,{ T:=T,H:=H7.set (n+2+1) (some (.loop .exhausted none 81 T (ntm P 81) #[23,24] asg81 bod81 (n+2))),n:=n7,D:=(n+2)::D }):=by
      unfold rangeOut
      simp only[s3 (n+2+1) (by omega),r3]
    rw[hout]
    have ot:∀ b,b<n+2+1→(H7.set (n+2+1) (some (.loop .exhausted none 81 T (ntm P 81) #[23,24] asg81 bod81 (n+2)))).get b=H6.get b:=fun b hb=>by rw[Tr.get_set,if_neg (by omega),s3 b (by omega)]
    exact⟨T,_,n7,hT,by omega,(ot _ (by omega)).trans r2,fun b hb _ _=>by rw[ot b (by omega),low b hb],rfl,by rw[ot b4 (by omega),low b4 o3],by rw[ot b5 (by omega),low b5 o4]⟩
  | some M=>
    rw[hc] at s3
    obtain⟨t1,t2,t3,t4⟩:=s3
    have hout:rangeOut (n+2+1) { T:=T,H:=H7,n:=n7,D:=(n+2)::D }=some (.exit 0,{ T:=T,H:=H7.set (n+2+1) (some (.loop .exhausted (some (.exit 0)) 81 T (ntm P 81) #[23,24] asg81 bod81 (n+2))),n:=n7,D:=(n+2)::D }):=by
      unfold rangeOut
      simp only[t4]
    rw[hout]
    have ot:∀ b,b<n+2+1→(H7.set (n+2+1) (some (.loop .exhausted (some (.exit 0)) 81 T (ntm P 81) #[23,24] asg81 bod81 (n+2)))).get b=H7.get b:=fun b hb=>by rw[Tr.get_set,if_neg (by omega)]
    exact⟨T,_,n7,hT,by omega,by rw[ot _ (by omega),t1 _ (by omega) (by omega) (by omega) (by omega)]; exact r2,fun b hb i1 i2=>by rw[ot b (by omega),t1 b (by omega) (by omega) i1 i2,low b hb],rfl,by rw[ot b4 (by omega)]; exact t2,by rw[ot b5 (by omega)]; exact t3⟩
noncomputable def bestL (ps js ks:List Int) (nj np nk:Nat):Option (List Int):=firstN (withN ps js ks nj np nk) (np+1) (np+1)
def bestV (o:Option (List Int)):Value:=match o with
  | some M=>.tuple ⟨[.agg ⟨ints M⟩,.bool true]⟩
  | none=>.tuple ⟨[.agg ⟨ints noL⟩,.bool false]⟩
theorem withN_len {ps js ks M:List Int} {nj np nk i:Nat} (hnp:np≤8) (hks:KindsOk ks nk) (h:withN ps js ks nj np nk i=some M):M.length=8:=
  ((findL_spec hnp (prune_ok hnp hks) np noL i 0 (by omega) noL_open).1 M h).1.len
theorem loop81_spec (l k:Nat) {H0:Hp} {base n0 m0 b1 b2 b4 b5 g np nj nk:Nat} {f:Nat→Value} {x y z:Value} {ps js ks:List Int} (st:Stand H0 base m0 b1 b4 b5 g np nj nk f x y z ps js ks) (h2:∃ w,H0.get b2=some (.cells w 120 false none)∧w.length=8) (h4:H0.get b4=some (.cells (ints noL) 120 false none)) (h5:H0.get b5=some (.cells [.bool false] 4 false none))
    (hb2:b2<base) (e24:b2≠b4) (e25:b2≠b5) (n2:n0≤b2) (n4:n0≤b4) (n5:n0≤b5) :
    ∀(j i:Nat) (T:Tm) (H:Hp) (n:Nat) (D:List Nat),IsL81 T b1 b2 b4 b5 (.int .i64 ((np+1:Nat):Int)) i→i≤np+1→np+1-i≤j→base≤n→(∀ b,b<base→H.get b=H0.get b)→D.Nodup→(∀ d,d ∈ D→H.get d=some .deferred∧base≤d∧d<n) →
    ∃ H' n',LP (cal (l+5+np+2)) k (j+1) T H n D=some (bestV (firstN (withN ps js ks nj np nk) (np+1) (np+1-i)),H',n')∧n≤n'∧∀ b,b<n0→H'.get b=H0.get b:=by
  obtain⟨o1,o2,o3,o4,o5⟩:=st.low
  have hnp:=st.np8
  intro j
  induction j with
  | zero=>
    intro i T H n D hT hi hij hb hk hD hd
    have:i=np+1:=by omega
    subst this
    obtain⟨T',q1,q2⟩:=last81 (cal (l+5+np+2)) k 0 hT (by omega)
    obtain⟨H',e1,e2⟩:=end81 (cal (l+5+np+2)) k q1 (H:=H) (n:=n) (D:=D) (M:=noL) (r:=false) rfl (by obtain⟨w,w1,w2⟩:=h2; exact⟨w,(hk b2 hb2).trans w1,w2⟩) ((hk b4 o3).trans h4) ((hk b5 o4).trans h5) e25 hD fun d h=>(hd d h).1
    refine⟨H',n,?_,Nat.le_refl _,fun b hbn=>?_⟩
    · rw[q2,e1,Nat.sub_self]
      rfl
    · rw[e2 b (fun h=>by have:=(hd b h).2; omega) (by omega),hk b (by omega)]
  | succ j ih=>
    intro i T H n D hT hi hij hb hk hD hd
    by_cases hlt:i<np+1
    · have stH:Stand H n m0 b1 b4 b5 g np nj nk f x y z ps js ks:=st.keep hk hb
      have l1:loadV P H 104 ⟨b1,0,none⟩=some (.pointer (some ⟨g,0,none⟩)):=load_func stH.at1 agg105 rfl rfl
      obtain⟨TT,q1,q2⟩:=head81 (g:=g) (cal (l+5+np+2)) k (j+1) hT hlt
      obtain⟨T',H1,n1,r1,r2,r3,r4,r5,r6⟩:=round81 l stH (show i≤np by omega) q1 (KN (cal (l+5+np+2)) k (j+1)) (KE (cal (l+5+np+2)) k) (doneK P results81) D
      have hD1:((n+2)::D).Nodup:=List.nodup_cons.2 ⟨fun h=>by have:=(hd _ h).2; omega,hD⟩
      have hd1:∀ d,d ∈ (n+2)::D→H1.get d=some .deferred∧base≤d∧d<n1:=by
        intro d h
        rcases List.mem_cons.1 h with rfl | h
        · exact⟨r3,by omega,by omega⟩
        · obtain⟨d1,d2,d3⟩:=hd d h
          exact⟨by rw[r4 d d3 (by omega) (by omega)]; exact d1,d2,by omega⟩
      rw[q2 H n D l1,r5,firstN_step hlt]
      cases hc:withN ps js ks nj np nk i with
      | none=>
        rw[hc] at r6
        obtain⟨r6,r7⟩:=r6
        dsimp only
        obtain⟨T'',t1,t2⟩:=next81 (cal (l+5+np+2)) k (j+1) r1 (by omega)
        rw[t2]
        obtain⟨H',n',u1,u2,u3⟩:=ih (i+1) T'' H1 n1 ((n+2)::D) t1 (by omega) (by omega) (by omega) (fun b hbb=>by
          by_cases c4:b=b4
          · rw[c4,r6,hk b4 o3]
          · by_cases c5:b=b5
            · rw[c5,r7,hk b5 o4]
            · rw[r4 b (by omega) c4 c5,hk b hbb]) hD1 hd1
        exact⟨H',n',u1,by omega,u3⟩
      | some M=>
        rw[hc] at r6
        obtain⟨r6,r7⟩:=r6
        dsimp only
        have hM:=withN_len hnp st.ok hc
        obtain⟨H',e1,e2⟩:=end81 (cal (l+5+np+2)) k r1 (H:=H1) (n:=n1) (D:=(n+2)::D) (M:=M) (r:=true) hM (by obtain⟨w,w1,w2⟩:=h2; exact⟨w,by rw[r4 b2 (by omega) e24 e25,hk b2 hb2]; exact w1,w2⟩) r6 r7 e25 hD1 fun d h=>(hd1 d h).1
        refine⟨H',n1,e1,by omega,fun b hbn=>?_⟩
        rw[e2 b (fun h=>by have:=(hd1 b h).2; omega) (by omega),r4 b (by omega) (by omega) (by omega),hk b (by omega)]
    · have:i=np+1:=by omega
      subst this
      obtain⟨T',q1,q2⟩:=last81 (cal (l+5+np+2)) k (j+1) hT (by omega)
      obtain⟨H',e1,e2⟩:=end81 (cal (l+5+np+2)) k q1 (H:=H) (n:=n) (D:=D) (M:=noL) (r:=false) rfl (by obtain⟨w,w1,w2⟩:=h2; exact⟨w,(hk b2 hb2).trans w1,w2⟩) ((hk b4 o3).trans h4) ((hk b5 o4).trans h5) e25 hD fun d h=>(hd d h).1
      refine⟨H',n,?_,Nat.le_refl _,fun b hbn=>?_⟩
      · rw[q2,e1,Nat.sub_self]
        rfl
      · rw[e2 b (fun h=>by have:=(hd b h).2; omega) (by omega),hk b (by omega)]
end Go.Proofs.Ytmpnblcfpdnlmaa.spec
end
section
namespace Go.Proofs.Ytmpnblcfpdnlmaa.spec
open Go Go.Ev Go.Proofs.Ytmpnblcfpdnlmaa.nestFits Go.Proofs.Ytmpnblcfpdnlmaa.G
set_option maxRecDepth 100000
variable {ρ:Type}
theorem best_spec (l:Nat) {H:Hp} {n g np nj nk:Nat} {f:Nat→Value} {x y z:Value} {ps js ks:List Int} (hf:CellsF H g 859 116 f) (hs:SiteF f x y z js nj) (hz:lenV P 33 z=some (.int .i64 nk)) (hn:∀ p kd,p<np→kd<nk→NestAt f js ks nj np p kd) (hks:KindsOk ks nk) (hx:SliceR H n 2 x np ps) (hnp:np≤8) (hnk:nk≤3) (hg:g<n) :
    Ret ((cal (l+5+np+3)).call 81 [.pointer (some ⟨g,0,none⟩)] H n) n H (bestV (bestL ps js ks nj np nk)):=by
  have lN:(ints noL).length=8:=rfl
  rw[call81 (l+5+np+2),pre81,boxK_eq,allocK_eq zero121,bare_call (l+5+np+1),allocK_eq zero121,allocK_eq zero4']
  simp only[ptr]
  have c1:cellsV (.pointer (some ⟨g,0,none⟩))=[.pointer (some ⟨g,0,none⟩)]:=rfl
  have c2:cellsV (.agg ⟨ints (List.replicate 8 0)⟩)=ints (List.replicate 8 0):=rfl
  have c3:cellsV (.bool false)=[.bool false]:=rfl
  rw[c1,c2,c3]
  have a1:((((H.set n (some (.cells [.pointer (some ⟨g,0,none⟩)] 104 false none))).set (n+1) (some (.cells (ints (List.replicate 8 0)) 120 false none))).set (n+1+1) (some (.cells (ints (List.replicate 8 0)) 120 false none))).set (n+1+1+1) (some (.cells [.bool false] 4 false none))).get n=some (.cells [.pointer (some ⟨g,0,none⟩)] 104 false none):=by rw[Tr.get_set,if_neg (by omega),Tr.get_set,if_neg (by omega),Tr.get_set,if_neg (by omega),Tr.get_set,if_pos rfl]
  have a2:((((H.set n (some (.cells [.pointer (some ⟨g,0,none⟩)] 104 false none))).set (n+1) (some (.cells (ints (List.replicate 8 0)) 120 false none))).set (n+1+1) (some (.cells (ints (List.replicate 8 0)) 120 false none))).set (n+1+1+1) (some (.cells [.bool false] 4 false none))).get (n+1)=some (.cells (ints (List.replicate 8 0)) 120 false none):=by rw[Tr.get_set,if_neg (by omega),Tr.get_set,if_neg (by omega),Tr.get_set,if_pos rfl]
  have a3:((((H.set n (some (.cells [.pointer (some ⟨g,0,none⟩)] 104 false none))).set (n+1) (some (.cells (ints (List.replicate 8 0)) 120 false none))).set (n+1+1) (some (.cells (ints (List.replicate 8 0)) 120 false none))).set (n+1+1+1) (some (.cells [.bool false] 4 false none))).get (n+1+1)=some (.cells (ints (List.replicate 8 0)) 120 false none):=by rw[Tr.get_set,if_neg (by omega),Tr.get_set,if_pos rfl]
  have a4:((((H.set n (some (.cells [.pointer (some ⟨g,0,none⟩)] 104 false none))).set (n+1) (some (.cells (ints (List.replicate 8 0)) 120 false none))).set (n+1+1) (some (.cells (ints (List.replicate 8 0)) 120 false none))).set (n+1+1+1) (some (.cells [.bool false] 4 false none))).get (n+1+1+1)=some (.cells [.bool false] 4 false none):=by rw[Tr.get_set,if_pos rfl]
  have a5:Keep n H ((((H.set n (some (.cells [.pointer (some ⟨g,0,none⟩)] 104 false none))).set (n+1) (some (.cells (ints (List.replicate 8 0)) 120 false none))).set (n+1+1) (some (.cells (ints (List.replicate 8 0)) 120 false none))).set (n+1+1+1) (some (.cells [.bool false] 4 false none))):=((((Keep.refl n H).set (Nat.le_refl _) _).set (by omega) _).set (by omega) _).set (by omega) _
  generalize (((H.set n (some (.cells [.pointer (some ⟨g,0,none⟩)] 104 false none))).set (n+1) (some (.cells (ints (List.replicate 8 0)) 120 false none))).set (n+1+1) (some (.cells (ints (List.replicate 8 0)) 120 false none))).set (n+1+1+1) (some (.cells [.bool false] 4 false none))=H1 at a1 a2 a3 a4 a5 ⊢
  have eN:(List.replicate 8 (-1):List Int)=noL:=rfl
  rw[eN]
  have s1:=storeN_all (vs:=ints noL) a3 rfl (ints_leaf _)
  rw[storeP_agg sz121 lN,s1,bindO_some]
  have b1:(H1.set (n+1+1) (some (.cells (ints noL) 120 false none))).get (n+1+1+1)=some (.cells [.bool false] 4 false none):=by rw[Tr.get_set,if_neg (by omega)]; exact a4
  have s2:=storeN_all (vs:=[.bool false]) b1 rfl rfl
  rw[storeP_leaf sz4' rfl,s2,bindO_some]
  have o1:∀ b,b<n+2→((H1.set (n+1+1) (some (.cells (ints noL) 120 false none))).set (n+1+1+1) (some (.cells [.bool false] 4 false none))).get b=H1.get b:=fun b hb=>by rw[Tr.get_set,if_neg (by omega),Tr.get_set,if_neg (by omega)]
  have o2:((H1.set (n+1+1) (some (.cells (ints noL) 120 false none))).set (n+1+1+1) (some (.cells [.bool false] 4 false none))).get (n+1+1)=some (.cells (ints noL) 120 false none):=by rw[Tr.get_set,if_neg (by omega),Tr.get_set,if_pos rfl]
  have o3:((H1.set (n+1+1) (some (.cells (ints noL) 120 false none))).set (n+1+1+1) (some (.cells [.bool false] 4 false none))).get (n+1+1+1)=some (.cells [.bool false] 4 false none):=by rw[Tr.get_set,if_pos rfl]
  generalize (H1.set (n+1+1) (some (.cells (ints noL) 120 false none))).set (n+1+1+1) (some (.cells [.bool false] 4 false none))=H2 at o1 o2 o3 ⊢
  have kk:Keep n H H2:=fun b hb=>by rw[o1 b (by omega),a5 b hb]
  have g1:H2.get n=some (.cells [.pointer (some ⟨g,0,none⟩)] 104 false none):=(o1 n (by omega)).trans a1
  have f2:=hf.keep kk hg
  have lx:loadV P H2 31 ⟨g,0+0+0,none⟩=some x:=by
    have:=f2.load (P:=P) (k:=0) agg31 (by omega)
    rw[hs.x] at this; exact this
  have hI:I64 ((np:Int)+1):=by unfold I64; omega
  have hlx:lenV P 31 x=some (.int .i64 np):=hx.len_eq und31
  have hcast:((np:Int)+1)=((np+1:Nat):Int):=by omega
  rw[addrV_eq,bindO_some,load_func g1 agg105 rfl rfl,bindO_some,nil_ptr,bindO_some,fa117_0,bindO_some,fa35_0,bindO_some,addrV_eq,bindO_some,lx,bindO_some,hlx,bindO_some,binK_some (bin_add hI),hcast]
  have st:Stand H2 (n+4) n n (n+1+1) (n+1+1+1) g np nj nk f x y z ps js ks:=⟨g1,⟨_,o2,rfl⟩,⟨_,o3⟩,f2,hs,hz,hn,hks,hx.keep kk (Nat.le_refl _),hnp,hnk,⟨by omega,by omega,by omega,by omega,by omega⟩,by omega⟩
  obtain⟨H',n',e1,e2,e3⟩:=loop81_spec l KK (n0:=n) (b2:=n+1) st ⟨_,(o1 (n+1) (by omega)).trans a2,rfl⟩ o2 o3 (by omega) (by omega) (by omega) (by omega) (by omega) (by omega) KK 0 _ H2 (n+4) [] (.inl ⟨rfl,_,rfl⟩) (by omega) (by unfold KK; omega) (Nat.le_refl _) (fun _ _=>rfl) List.nodup_nil (fun d h=>by cases h)
  exact⟨H',n',e1,by omega,fun b hb=>by rw[e3 b hb,kk b hb]⟩
theorem best_call (l:Nat) {H:Hp} {n g np nj nk:Nat} {f:Nat→Value} {x y z:Value} {ps js ks:List Int} (hf:CellsF H g 859 116 f) (hs:SiteF f x y z js nj) (hz:lenV P 33 z=some (.int .i64 nk)) (hn:∀ p kd,p<np→kd<nk→NestAt f js ks nj np p kd) (hks:KindsOk ks nk) (hx:SliceR H n 2 x np ps) (hnp:np≤8) (hnk:nk≤3) (hg:g<n) :
    ∃ H' n',(∀ k:Value→Hp→Nat→Option ρ,callFK P (cal (l+16)) 81 [.pointer (some ⟨g,0,none⟩)] H n k=k (bestV (bestL ps js ks nj np nk)) H' n')∧n≤n'∧Keep n H H':=by
  obtain⟨H',n',e1,e2,e3⟩:=best_spec (l+(8-np)) hf hs hz hn hks hx hnp hnk hg
  rw[show l+(8-np)+5+np+3=l+16 by omega] at e1
  refine⟨H',n',fun k=>?_,e2,e3⟩
  unfold callFK
  have:(flatF P 81 && pureL [.pointer (some ⟨g,0,none⟩)])=false:=by simp [pureL,pureV]
  rw[this,e1]
  rfl
end Go.Proofs.Ytmpnblcfpdnlmaa.spec
end
section
namespace Go.Proofs.Ytmpnblcfpdnlmaa.spec
open Go Go.Ev Go.Proofs.Ytmpnblcfpdnlmaa.nestFits Go.Proofs.Ytmpnblcfpdnlmaa.G
set_option maxRecDepth 100000
variable {ρ:Type}
noncomputable def code82:Code:=codeOf 82
noncomputable def results82:List ResultVar:=resOf 82
noncomputable def asg82:Code:=asgOf (cL (cR (cL (cR (cR code82)))))
noncomputable def bod82:Code:=bodOf (cL (cR (cL (cR (cR code82)))))
noncomputable def K82 (c:Cal) (k:Nat):KC (Value × Hp × Nat):=codeE P c (codeF P c k) none 82 (cR (cR (cR code82))) .leaf (doneK P results82) X0 (doneK P results82)
noncomputable def T82 (v0 v1 v3 v5 v7 v8:Value):Tm:=((((((((Tr.nil:Tm).set 0 (some v0)).set 1 (some v1)).set 3 (some v3)).set 4 (some (.int .i64 0))).set 5 (some v5)).set 6 (some v0)).set 7 (some v7)).set 8 (some v8)
theorem pre82 (c:Cal) (k:Nat) (v0 v1:Value) (H:Hp) (n:Nat):bodyE P c A (k+1) 82 [v0,v1] H n =
    (boxK 120 v1 H n fun v3 H n=>allocK P 3 H n fun v5 H n=>bindO (storeP P 3 v5 (.int .i64 0) H) fun H=>bindO (addrV v3) fun a=>bindO (loadV P H 120 a) fun v7=>callFK P c 74 [v0,v7] H n fun v8 H n=>
      rangeK P c none 82 v8 #[9,10] asg82 bod82 (K82 c k) (upX 0 (K82 c k) X0) (doneK P results82) (T82 v0 v1 v3 v5 v7 v8) H n []):=by
  rw[body_eq (fn:=Go.Proofs.Try.f82) (c:=code82) (rs:=results82) (by kernel_rfl) (by kernel_rfl) (by kernel_rfl) (by kernel_rfl)]
  kernel_rfl
theorem post82 (c:Cal) (k:Nat) (v0 v1 v3 v5 v7 v8:Value) (H:Hp) (n:Nat) (D:List Nat):K82 c k (T82 v0 v1 v3 v5 v7 v8) H n D =
    (bindO (addrV v5) fun a=>bindO (loadV P H 3 a) fun v13=>getK (takeD H D) fun H=>bindO (resV P ((Tr.nil:Tm).set 4 (some v13)) H results82) fun vs=>some (oneV vs,H,n)):=by
  kernel_rfl
theorem call82 (l:Nat) (a b:Value) (H:Hp) (n:Nat):(cal (l+1)).call 82 [a,b] H n=bodyE P (cal l) A (KK+1) 82 [a,b] H n:=by kernel_rfl
theorem asg82_eq (l lp:Nat) (v0 v1 v3 v5 v7 v8 p q:Value) (H:Hp) (n:Nat) :
    (cal (l+1)).body lp 82 asg82 { T:=((T82 v0 v1 v3 v5 v7 v8).set 9 (some p)).set 10 (some q),H,n,D:=[] }=some (.norm,{ T:=((T82 v0 v1 v3 v5 v7 v8).set 9 (some p)).set 10 (some q),H,n,D:=[] }):=by kernel_rfl
theorem bod82_eq (l lp:Nat) (v0 v1 v3 v5 v7 v8 p q:Value) (H:Hp) (n:Nat) :
    (cal (l+1)).body lp 82 bod82 { T:=((T82 v0 v1 v3 v5 v7 v8).set 9 (some p)).set 10 (some q),H,n,D:=[] } =
      (bindO (addrV v5) fun a=>bindO (loadV P H 3 a) fun v11=>binK P .add 3 (.tmp 11) (.const (.int .i64 1)) v11 (.int .i64 1) fun v12=>bindO (storeP P 3 v5 v12 H) fun H=>
        some (.norm,{ T:=((((T82 v0 v1 v3 v5 v7 v8).set 9 (some p)).set 10 (some q)).set 11 (some v11)).set 12 (some v12),H,n,D:=[] })):=by kernel_rfl
theorem res82 (v:Value) (H:Hp):resV P ((Tr.nil:Tm).set 4 (some v)) H results82=some [v]:=by kernel_rfl
theorem ntm82:ntm P 82=14:=by kernel_rfl
theorem range82 (c:Cal) (a b:Value) (K:KC (Value × Hp × Nat)) (X:XC (Value × Hp × Nat)) (Kr:KC (Value × Hp × Nat)) (T:Tm) (H:Hp) (n:Nat) :
    rangeK P c none 82 (.func (.func 104) ⟨[]⟩ ⟨[a,b]⟩) #[9,10] asg82 bod82 K X Kr T H n [] =
      callFK P c 104 [.func (.yield (n+1)) #[] #[],a,b] ((H.set n (some .deferred)).set (n+1) (some (.loop .ready none 82 T (ntm P 82) #[9,10] asg82 bod82 n))) (n+2) fun _ H n'=>fin K X Kr (rangeOut (n+1) { T:=T,H,n:=n',D:=[n] }):=rfl
theorem yield82 (L:Nat) {H:Hp} {n lb b5 d:Nat} {v0 v1 v3 v7 v8 q0 q1:Value} {c:Int} (hl:H.get lb=some (.loop .ready none 82 (T82 v0 v1 v3 (.pointer (some ⟨b5,0,none⟩)) v7 v8) (ntm P 82) #[9,10] asg82 bod82 d))
    (h5:H.get b5=some (.cells [.int .i64 c] 3 false none)) (hc:I64 (c+1)) (n5:b5≠lb) :
    ∃ H',(∀ k:Value→Hp→Nat→Option ρ,callVK P (cal (L+1)) (.func (.yield lb) #[] #[]) [q0,q1] H n k=k (.bool true) H' n)∧H'.get lb=H.get lb ∧
      H'.get b5=some (.cells [.int .i64 (c+1)] 3 false none)∧∀ b,b≠lb→b≠b5→H'.get b=H.get b:=by
  have hpar:paramsT (T82 v0 v1 v3 (.pointer (some ⟨b5,0,none⟩)) v7 v8) (ntm P 82) (#[9,10]:Array Tmp).toList [q0,q1]=some (((T82 v0 v1 v3 (.pointer (some ⟨b5,0,none⟩)) v7 v8).set 9 (some q0)).set 10 (some q1)):=by
    rw[ntm82]; rfl
  have hasg:=asg82_eq L lb v0 v1 v3 (.pointer (some ⟨b5,0,none⟩)) v7 v8 q0 q1 H n
  have hrdy:isReady H lb=true:=by unfold isReady; rw[hl]
  have hpen:pendingOf H lb=none:=by unfold pendingOf; rw[hl]
  have hbd:=fun H=>bod82_eq L lb v0 v1 v3 (.pointer (some ⟨b5,0,none⟩)) v7 v8 q0 q1 H n
  generalize T82 v0 v1 v3 (.pointer (some ⟨b5,0,none⟩)) v7 v8=T at hl hpar hasg hbd
  have hbusy:setLoop H lb .busy none=some (H.set lb (some (.loop .busy none 82 T (ntm P 82) #[9,10] asg82 bod82 d))):=by unfold setLoop; rw[hl]
  have g5:(H.set lb (some (.loop .busy none 82 T (ntm P 82) #[9,10] asg82 bod82 d))).get b5=some (.cells [.int .i64 c] 3 false none):=by rw[Tr.get_set,if_neg n5]; exact h5
  have gl:(H.set lb (some (.loop .busy none 82 T (ntm P 82) #[9,10] asg82 bod82 d))).get lb=some (.loop .busy none 82 T (ntm P 82) #[9,10] asg82 bod82 d):=by rw[Tr.get_set,if_pos rfl]
  have ho:∀ b,b≠lb→(H.set lb (some (.loop .busy none 82 T (ntm P 82) #[9,10] asg82 bod82 d))).get b=H.get b:=fun b hb=>by rw[Tr.get_set,if_neg hb]
  generalize H.set lb (some (.loop .busy none 82 T (ntm P 82) #[9,10] asg82 bod82 d))=H2 at hbusy g5 gl ho
  have hst:=storeN_all (vs:=[.int .i64 (c+1)]) g5 rfl rfl
  have l5:loadV P H2 3 ⟨b5,0,none⟩=some (.int .i64 c):=loadV_int (o:=0) (k:=0) (cells_at g5) agg3 rfl
  have hbody:=hbd H2
  rw[addrV_eq,bindO_some,l5,bindO_some,binK_some (bin_add hc),storeP_leaf sz3 rfl,hst,bindO_some] at hbody
  have q5:(H2.set b5 (some (.cells [.int .i64 (c+1)] 3 false none))).get b5=some (.cells [.int .i64 (c+1)] 3 false none):=by rw[Tr.get_set,if_pos rfl]
  have ql:(H2.set b5 (some (.cells [.int .i64 (c+1)] 3 false none))).get lb=some (.loop .busy none 82 T (ntm P 82) #[9,10] asg82 bod82 d):=by rw[Tr.get_set,if_neg (Ne.symm n5)]; exact gl
  have qo:∀ b,b≠lb→b≠b5→(H2.set b5 (some (.cells [.int .i64 (c+1)] 3 false none))).get b=H.get b:=fun b hb hb5=>by rw[Tr.get_set,if_neg hb5]; exact ho b hb
  generalize H2.set b5 (some (.cells [.int .i64 (c+1)] 3 false none))=H3 at q5 ql qo hbody
  have hend:setLoop H3 lb .ready none=some (H3.set lb (some (.loop .ready none 82 T (ntm P 82) #[9,10] asg82 bod82 d))):=by unfold setLoop; rw[ql]
  refine⟨H3.set lb (some (.loop .ready none 82 T (ntm P 82) #[9,10] asg82 bod82 d)),fun k=>?_,by rw[Tr.get_set,if_pos rfl,hl],by rw[Tr.get_set,if_neg n5]; exact q5,fun b hb hb5=>by rw[Tr.get_set,if_neg hb,qo b hb hb5]⟩
  show stK (yieldF (fun | some l=>(cal (L+1)).body l | none=>fun _ _ _=>none) P lb [q0,q1] (bare H n)) k=_
  have hy:yieldF (fun | some l=>(cal (L+1)).body l | none=>fun _ _ _=>none) P lb [q0,q1] (bare H n)=some (.bool true,{ bare H n with H:=H3.set lb (some (.loop .ready none 82 T (ntm P 82) #[9,10] asg82 bod82 d)),n:=n }):=by
    unfold yieldF
    have hb:Nat.beq (ntm P 82) (ntm P 82)=true:=Nat.beq_refl _
    have hx:exCode .norm=some none:=rfl
    simp only[bare,hl,hb,hpar,hasg,hrdy,hpen,hbusy,hbody,hx,Option.isNone_none,if_true,hend]
  rw[hy]
  rfl
noncomputable def cntI (L:List Int) (i:Nat):Int:=sumTo (fun p=>if L.getD p 0=-1 then 0 else 1) i
theorem cntI_range (L:List Int):∀ i,0≤cntI L i∧cntI L i≤i
  | 0=>⟨Int.le_refl _,Int.le_refl _⟩
  | i+1=>by
    obtain⟨h1,h2⟩:=cntI_range L i
    unfold cntI at h1 h2 ⊢
    simp only[sumTo]
    split <;> omega
theorem count_call (l:Nat) {H:Hp} {n g np nj nk:Nat} {f:Nat→Value} {js ks L:List Int} (hf:CellsF H g 859 116 f) (hn:∀ p kd,p<np→kd<nk→NestAt f js ks nj np p kd) (hL:L.length=8) (hK:KindsIn L np nk) (hnp:np≤8) (hnk:nk≤3) (hg:g<n) :
    ∃ H' n',(∀ k:Value→Hp→Nat→Option ρ,callFK P (cal (l+3)) 82 [.pointer (some ⟨g,0,none⟩),.agg ⟨ints L⟩] H n k=k (.int .i64 (cntI L 8)) H' n')∧n≤n'∧Keep n H H':=by
  have lens:(ints L).length=8:=by rw[ints_length,hL]
  have key:Ret ((cal (l+3)).call 82 [.pointer (some ⟨g,0,none⟩),.agg ⟨ints L⟩] H n) n H (.int .i64 (cntI L 8)):=by
    rw[call82 (l+2),pre82,boxK_eq,allocK_eq zero3]
    have c1:cellsV (.agg ⟨ints L⟩)=ints L:=rfl
    have c2:cellsV (.int .i64 0)=[.int .i64 0]:=rfl
    simp only[ptr]
    rw[c1,c2]
    have a1:((H.set n (some (.cells (ints L) 120 false none))).set (n+1) (some (.cells [.int .i64 0] 3 false none))).get (n+1)=some (.cells [.int .i64 0] 3 false none):=by rw[Tr.get_set,if_pos rfl]
    have a0:((H.set n (some (.cells (ints L) 120 false none))).set (n+1) (some (.cells [.int .i64 0] 3 false none))).get n=some (.cells (ints L) 120 false none):=by rw[Tr.get_set,if_neg (by omega),Tr.get_set,if_pos rfl]
    have a2:Keep n H ((H.set n (some (.cells (ints L) 120 false none))).set (n+1) (some (.cells [.int .i64 0] 3 false none))):=((Keep.refl n H).set (Nat.le_refl _) _).set (by omega) _
    generalize (H.set n (some (.cells (ints L) 120 false none))).set (n+1) (some (.cells [.int .i64 0] 3 false none))=H1 at a0 a1 a2 ⊢
    have s1:=storeN_all (vs:=[.int .i64 0]) a1 rfl rfl
    rw[storeP_leaf sz3 rfl,s1,bindO_some]
    have b1:(H1.set (n+1) (some (.cells [.int .i64 0] 3 false none))).get (n+1)=some (.cells [.int .i64 0] 3 false none):=by rw[Tr.get_set,if_pos rfl]
    have b0:(H1.set (n+1) (some (.cells [.int .i64 0] 3 false none))).get n=some (.cells (ints L) 120 false none):=by rw[Tr.get_set,if_neg (by omega)]; exact a0
    have b2:Keep n H (H1.set (n+1) (some (.cells [.int .i64 0] 3 false none))):=a2.set (by omega) _
    generalize H1.set (n+1) (some (.cells [.int .i64 0] 3 false none))=H2 at b0 b1 b2 ⊢
    rw[addrV_eq,bindO_some,load_all b0 agg121 sz121 lens,bindO_some,placed_call (l+1),range82]
    generalize hH5:(H2.set (n+1+1) (some (.cells [.pointer (some ⟨g,0,none⟩)] 104 false none))).set (n+1+1+1) (some (.cells (ints L) 120 false none))=H5
    have q1:∀ b,b<n+2→H5.get b=H2.get b:=fun b hb=>by rw[← hH5,Tr.get_set,if_neg (by omega),Tr.get_set,if_neg (by omega)]
    have q3:H5.get (n+2)=some (.cells [.pointer (some ⟨g,0,none⟩)] 104 false none):=by rw[← hH5,Tr.get_set,if_neg (by omega),Tr.get_set,if_pos rfl]
    have q4:H5.get (n+3)=some (.cells (ints L) 120 false none):=by rw[← hH5,Tr.get_set,if_pos rfl]
    clear hH5
    have hc104:∀(a b c:Value) (H:Hp) (n:Nat) (k:Value→Hp→Nat→Res),pureV b=false→callFK P (cal (l+2)) 104 [a,b,c] H n k=bindO (C104_0 (cal (l+1)) KK a b c H n) fun r=>k r.1 r.2.1 r.2.2:=by
      intro a b c H n k hb
      unfold callFK
      have:(flatF P 104 && pureL [a,b,c])=false:=by simp [pureL,hb]
      rw[this,call104]
    rw[hc104 _ _ _ _ _ _ rfl]
    have e4:n+1+1+2=n+4:=by omega
    have e5:n+1+1+2+1=n+5:=by omega
    have e6:n+1+1+2+2=n+6:=by omega
    have e3:n+1+1+1=n+3:=by omega
    have e2:n+1+1=n+2:=by omega
    simp only[e4,e5,e6,e3,e2]
    generalize hT:T82 _ _ _ _ _ _=T
    generalize hH6:(H5.set (n+4) (some .deferred)).set (n+5) (some (.loop .ready none 82 T (ntm P 82) #[9,10] asg82 bod82 (n+4)))=H6
    have r1:∀ b,b<n+4→H6.get b=H5.get b:=fun b hb=>by rw[← hH6,Tr.get_set,if_neg (by omega),Tr.get_set,if_neg (by omega)]
    have r2:H6.get (n+4)=some .deferred:=by rw[← hH6,Tr.get_set,if_neg (by omega),Tr.get_set,if_pos rfl]
    have r3:H6.get (n+5)=some (.loop .ready none 82 T (ntm P 82) #[9,10] asg82 bod82 (n+4)):=by rw[← hH6,Tr.get_set,if_pos rfl]
    clear hH6
    have low:∀ b,b<n→H6.get b=H.get b:=fun b hb=>by rw[r1 b (by omega),q1 b (by omega),b2 b hb]
    have l104:loadV P H6 120 ⟨n+3,0,none⟩=some (.agg ⟨ints L⟩):=load_all (by rw[r1 _ (by omega)]; exact q4) agg121 sz121 lens
    obtain⟨H7,n7,i0,i1,i2,i3,i4⟩:=iter104_loop (cal (l+1)) KK (.func (.yield (n+5)) #[] #[]) (n+2) g np nj nk js ks L hL hK hnp hnk
      (fun i Hc nc=>n+6≤nc∧Hc.get (n+5)=some (.loop .ready none 82 T (ntm P 82) #[9,10] asg82 bod82 (n+4))∧Hc.get (n+1)=some (.cells [.int .i64 (cntI L i)] 3 false none)∧∀ b,b<n+6→b≠n+5→b≠n+1→Hc.get b=H6.get b)
      (fun i Hc nc ⟨_,_,_,h⟩=>by
        refine⟨load_func (by rw[h _ (by omega) (by omega) (by omega),r1 _ (by omega)]; exact q3) agg105 rfl rfl,fun p kd hp hkd=>?_⟩
        have cg:CellsF Hc g 859 116 f:=by
          obtain⟨c,a1,a2,a3⟩:=hf
          exact⟨c,by rw[h _ (by omega) (by omega) (by omega),low g hg]; exact a1,a2,a3⟩
        exact nest_load cg (hn p kd hp hkd) (by omega) (by omega))
      (fun i Hc nc kd B ⟨h1,h2,h3,h4⟩ hip hkd hLi _=>by
        have hr:=cntI_range L i
        rw[← hT] at h2
        obtain⟨H',z1,z2,z3,z4⟩:=yield82 (ρ:=Value × Hp × Nat) l (n:=nc) (q0:=.int .i64 i) (q1:=.agg ⟨ints (nestL (ks.getD (kd * 5) 0) (shP js ks nj np i kd) B)⟩) h2 h3 (by unfold I64; omega) (by omega)
        refine⟨H',nc,z1,h1,by rw[z2,h2,hT],?_,fun b hb hb1 hb2=>(z4 b hb1 hb2).trans (h4 b hb hb1 hb2)⟩
        rw[z3]
        unfold cntI
        simp only[sumTo]
        rw[if_neg (by omega)])
      (fun i Hc nc ⟨h1,h2,h3,h4⟩ hLi=>⟨h1,h2,by
        rw[h3]
        unfold cntI
        simp only[sumTo]
        rw[if_pos hLi,Int.add_zero],h4⟩)
      KK 0 H6 (n+6) ⟨Nat.le_refl _,r3,by rw[r1 _ (by omega),q1 _ (by omega)]; exact b1,fun _ _ _ _=>rfl⟩ (by omega) (by unfold KK; omega)
    have e3':C104_0 (cal (l+1)) KK (.func (.yield (n+5)) #[] #[]) (.pointer (some ⟨n+3,0,none⟩)) (.pointer (some ⟨n+2,0,none⟩)) H6 (n+6)=some (.tuple ⟨[]⟩,H7,n7):=by
      unfold C104_0 B104_0
      rw[addrV_eq,bindO_some,l104,bindO_some]
      exact i0
    rw[e3',bindO_some]
    have hout:rangeOut (n+5) { T:=T,H:=H7,n:=n7,D:=[n+4] }=some (.norm,{ T:=T,H:=H7.set (n+5) (some (.loop .exhausted none 82 T (ntm P 82) #[9,10] asg82 bod82 (n+4))),n:=n7,D:=[n+4] }):=by
      unfold rangeOut
      simp only[i2]
    rw[hout]
    show Ret (K82 (cal (l+2)) KK T (H7.set (n+5) (some (.loop .exhausted none 82 T (ntm P 82) #[9,10] asg82 bod82 (n+4)))) n7 [n+4]) n H (.int .i64 (cntI L 8))
    generalize hH8:H7.set (n+5) (some (.loop .exhausted none 82 T (ntm P 82) #[9,10] asg82 bod82 (n+4)))=H8
    have o1:∀ b,b<n+5→H8.get b=H7.get b:=fun b hb=>by rw[← hH8,Tr.get_set,if_neg (by omega)]
    clear hH8 hout
    have l5:loadV P H8 3 ⟨n+1,0,none⟩=some (.int .i64 (cntI L 8)):=loadV_int (o:=0) (k:=0) (cells_at (by rw[o1 _ (by omega)]; exact i3)) agg3 rfl
    have ht:takeD H8 [n+4]=some (H8.set (n+4) none):=by
      have:H8.get (n+4)=some .deferred:=by rw[o1 _ (by omega),i4 _ (by omega) (by omega) (by omega)]; exact r2
      unfold takeD
      simp only[this]
      rfl
    rw[← hT,post82,addrV_eq,bindO_some,l5,bindO_some,ht]
    show Ret (bindO (resV P ((Tr.nil:Tm).set 4 (some (.int .i64 (cntI L 8)))) (H8.set (n+4) none) results82) fun vs=>some (oneV vs,H8.set (n+4) none,n7)) n H _
    rw[res82]
    refine⟨_,_,rfl,by omega,fun b hb=>?_⟩
    rw[Tr.get_set,if_neg (by omega),o1 _ (by omega),i4 _ (by omega) (by omega) (by omega),low b hb]
  obtain⟨H',n',e1,e2,e3⟩:=key
  refine⟨H',n',fun k=>?_,e2,e3⟩
  unfold callFK
  have:(flatF P 82 && pureL [.pointer (some ⟨g,0,none⟩),.agg ⟨ints L⟩])=false:=by simp [pureL,pureV]
  rw[this,e1]
  rfl
end Go.Proofs.Ytmpnblcfpdnlmaa.spec
end
section
namespace Go.Proofs.Ytmpnblcfpdnlmaa.spec
open Go Go.Ev Go.Proofs.Ytmpnblcfpdnlmaa.nestFits Go.Proofs.Ytmpnblcfpdnlmaa.G
set_option maxRecDepth 100000
variable {ρ:Type}
def Same (H Hm:Hp):Prop:=∀ b o vs,CellsAt H b o vs→CellsAt Hm b o vs
theorem same_list {H Hm:Hp} {n len:Nat} {v:Value} {xs:List Int} (hr:Same H Hm) (h:ListR H n v len xs):ListR Hm n v len xs:=by
  obtain⟨h1,h2,h3⟩:=h
  refine⟨h1,h2,?_⟩
  rcases h3 with h3 | ⟨b,o,cap,e,a,c⟩
  · exact .inl h3
  · exact .inr ⟨b,o,cap,e,a,hr _ _ _ c⟩
end Go.Proofs.Ytmpnblcfpdnlmaa.spec
end
section
namespace Go.Proofs.Ytmpnblcfpdnlmaa.spec
open Go Go.Ev Go.Proofs.Ytmpnblcfpdnlmaa.nestFits Go.Proofs.Ytmpnblcfpdnlmaa.G
set_option maxRecDepth 100000
variable {ρ:Type}
theorem effK_readR {ex:List Extra} {H:Hp} {n:Nat} {v:Value} {op:Hp→Nat→(Value→Hp→Nat→Option ρ)→Option ρ} {R:Hp→Nat→Prop}
    (hex:∀ y ∈ ex,∃ t a,y=.l t a∧a.block<n∧((∃ c e ro vec,H.get a.block=some (.cells c e ro vec))∨∃ c,H.get a.block=some (.rows c)))
    (hop:∀ Hm,Same H Hm→∃ H2 n2,(∀ k,op Hm n k=k v H2 n2)∧n≤n2∧Keep n Hm H2∧R H2 n2) :
    ∃ H' H2 n2,(∀ k,effK P ex H n op k=k v H' n2)∧n≤n2∧Keep n H H'∧R H2 n2∧∀ b,n≤b→H'.get b=H2.get b:=by
  cases ex with
  | nil=>
    obtain⟨H2,n2,h1,h2,h3,h4⟩:=hop H (fun _ _ _ h=>h)
    exact⟨H2,H2,n2,fun k=>by unfold effK; exact h1 k,h2,h3,h4,fun _ _=>rfl⟩
  | cons y l=>
    have hl:∀ z ∈ y::l,∃ t a,z=.l t a:=fun z hz=>by obtain⟨t,a,e,_⟩:=hex z hz; exact⟨t,a,e⟩
    obtain⟨H1,e1,e2⟩:=maskX_some (ex:=y::l) (H:=H) fun z hz=>by obtain⟨t,a,e,_,h⟩:=hex z hz; exact .inl ⟨t,a,e,h⟩
    have hnw:∀ b,¬ nwOf (y::l) b:=fun b ⟨id,c,e,h1,_⟩=>by obtain⟨t,a,q⟩:=hl _ h1; cases q
    obtain⟨H2,n2,h1,h2,h3,h4⟩:=hop (maskXA (y::l) H1) fun b o vs hc=>by
      obtain⟨B,c,g1,g2,g3⟩:=hc
      have em:=(maskXA_get (ex:=y::l) (H:=H1) b).2 (hnw _)
      rcases e2 b with q | ⟨⟨c',e,ro,vec,q1,q2⟩,_⟩
      · exact⟨B,c,by rw[em,q]; exact g1,g2,g3⟩
      · rw[q1] at g1
        cases g1
        exact⟨.cells c' e true vec,c,by rw[em]; exact q2,g2,g3⟩
    have hsome:∀ z ∈ y::l,(∃ t a,z=.l t a∧(H2.get a.block).isSome)∨∃ id c e,z=.a id c e:=by
      intro z hz
      obtain⟨t,a,rfl,hb,hc⟩:=hex z hz
      refine .inl ⟨t,a,rfl,?_⟩
      rw[h3 _ hb,(maskXA_get (H:=H1) a.block).2 (hnw _)]
      have hs:(H.get a.block).isSome:=by rcases hc with⟨c,e,ro,vec,hc⟩ | ⟨c,hc⟩ <;> rw[hc] <;> rfl
      rcases e2 a.block with q | ⟨⟨c,e,ro,vec,_,q⟩,_⟩
      · rw[q]; exact hs
      · rw[q]; rfl
    obtain⟨H3,f1,f2,f3⟩:=backX_some (H0:=H) hsome
    have hck:chkX P (backXA (y::l) H H3) (y::l)=true:=chk_true fun z hz=>.inl (hl z hz)
    refine⟨backXA (y::l) H H3,H2,n2,fun k=>?_,h2,fun b hb=>?_,h4,fun b hb=>?_⟩
    · unfold effK
      simp only[e1,bindO_some,h1,f1,hck]
      rfl
    · rw[(backXA_get b).2 (hnw b)]
      by_cases q:ldOf (y::l) b
      · exact f2 b q
      · rw[f3 b q,h3 b hb,(maskXA_get (H:=H1) b).2 (hnw b)]
        rcases e2 b with z | ⟨_,z⟩
        · exact z
        · exact absurd z q
    · rw[(backXA_get b).2 (hnw b),f3 b]
      rintro⟨t,a,q1,q2⟩
      obtain⟨t',a',e,hlt,_⟩:=hex _ q1
      cases e
      omega
theorem slice121h (b:Nat) {np:Nat} (h:np≤8):sliceV P 120 (.pointer (some ⟨b,0,none⟩)) none (some (.int .i64 np))=some (.slice (some ⟨b,0,none⟩) np 8):=by
  show sliceV P 120 (.pointer (some ⟨b,0,none⟩)) none (some (.int .i64 (.ofNat np)))=_
  unfold sliceV
  simp [und121,sz3,boundsV,hiV,loV,bndIn,h,capV,addA]
theorem flat42:flatF P 42=false:=by kernel_rfl
theorem call42 (l:Nat) (a:Value) (H:Hp) (n:Nat):(cal (l+1)).call 42 [a] H n=C42_0 (cal l) KK a H n:=by kernel_rfl
theorem Best_call (l:Nat) (a:Value) (H:Hp) (n:Nat) (k:Value→Hp→Nat→Option ρ):callFK P (cal (l+1)) 42 [a] H n k=bindO (C42_0 (cal l) KK a H n) fun r=>k r.1 r.2.1 r.2.2:=by
  unfold callFK
  rw[flat42,call42]
  rfl
theorem bestL_some {ps js ks M:List Int} {nj np nk:Nat} (hnp:np≤8) (hks:KindsOk ks nk) (h:bestL ps js ks nj np nk=some M):∃ i,i≤np∧GoesOn (fitD js ks nj np) nk noL 0 np i M∧RightL js ks ps M nj np ∧
    (∀ N,GoesOn (fitD js ks nj np) nk noL 0 np i N→RightL js ks ps N nj np→M=N∨lexLt M N 0 np)∧∀ j N,j<i→GoesOn (fitD js ks nj np) nk noL 0 np j N→¬ RightL js ks ps N nj np:=by
  obtain⟨i,h1,h2,h3,h4⟩:=firstN_some (Nat.le_refl _) h
  have sp:=fun i=>findL_spec hnp (prune_ok (js:=js) (ps:=ps) (nj:=nj) hnp hks) np noL i 0 (show 0+np=np by omega) noL_open
  obtain⟨g1,g2,g3⟩:=(sp i).1 M h3
  refine⟨i,by omega,g1,rightD_iff.1 g2,fun N hN hR=>g3 N hN (rightD_iff.2 hR),fun j N hj hN hR=>?_⟩
  exact(sp j).2 (h4 j (by omega) hj) N hN (rightD_iff.2 hR)
theorem bestL_none {ps js ks:List Int} {nj np nk:Nat} (hnp:np≤8) (hks:KindsOk ks nk) (h:bestL ps js ks nj np nk=none):∀ j N,j≤np→GoesOn (fitD js ks nj np) nk noL 0 np j N→¬ RightL js ks ps N nj np:=fun j N hj hN hR=>
  (findL_spec hnp (prune_ok hnp hks) np noL j 0 (show 0+np=np by omega) noL_open).2 (firstN_none (Nat.le_refl _) h j (by omega) (by omega)) N hN (rightD_iff.2 hR)
theorem GoesOn.kindsIn {tk:Nat→Nat→Bool} {nk np i:Nat} {M:List Int} (h:GoesOn tk nk noL 0 np i M):KindsIn M np nk:=by
  intro q hq
  by_cases c:q<np
  · rcases h.kinds q (Nat.zero_le _) (by omega) with z | ⟨kd,h1,_,h3⟩
    · exact .inl z
    · exact .inr ⟨c,kd,h1,h3⟩
  · exact .inl (h.after q (by omega) hq)
theorem kinds_I64 {M:List Int} {np nk:Nat} (hM:M.length=8) (hK:KindsIn M np nk) (hnk:nk≤3):∀ x ∈ M,I64 x:=by
  intro x hx
  obtain⟨k,hk,e⟩:=List.mem_iff_getElem.1 hx
  have:M.getD k 0=x:=by rw[List.getD_eq_getElem?_getD,List.getElem?_eq_getElem hk,e]; rfl
  rw[hM] at hk
  rcases hK k hk with z | ⟨_,kd,h1,h2⟩
  · rw[← this,z]; unfold I64; omega
  · rw[← this,h2]; unfold I64; omega
theorem Best_spec (l:Nat) {np nj nk:Nat} {ps js ks:List Int} {H:Hp} {n:Nat} {v:Value} (hg:GroveP H n v np nj nk ps js ks) (hnp:np≤1000) (hnj:nj≤1000) (hnk:nk≤1000) :
    (faultN np nj nk ps js ks≠0→Ret (C42_0 (cal (l+16)) KK v H n) n H (.tuple ⟨[.slice none 0 0,.int .i64 0,.int .i64 (faultN np nj nk ps js ks)]⟩)) ∧
    (faultN np nj nk ps js ks=0→bestL ps js ks nj np nk=none→Ret (C42_0 (cal (l+16)) KK v H n) n H (.tuple ⟨[.slice none 0 0,.int .i64 0,.int .i64 10]⟩)) ∧
    (faultN np nj nk ps js ks=0→∀ M,bestL ps js ks nj np nk=some M→∃ w H' n',C42_0 (cal (l+16)) KK v H n=some (.tuple ⟨[w,.int .i64 (cntI M 8),.int .i64 0]⟩,H',n')∧n≤n'∧Keep n H H'∧RowAt H' n n' w (M.take np)):=by
  have hg0:=hg
  obtain⟨x,y,z,rfl,h1,h2,h3⟩:=hg
  unfold C42_0 B42_0
  rw[boxK_eq]
  simp only[cellsV,ptr]
  have hk:Keep n H (H.set n (some (.cells [x,y,z] 35 false none))):=(Keep.refl n H).set (Nat.le_refl _) _
  have hb:CellsAt (H.set n (some (.cells [x,y,z] 35 false none))) n 0 [x,y,z]:=CellsAt.new
  generalize H.set n (some (.cells [x,y,z] 35 false none))=H1 at hk hb ⊢
  have lg:loadV P H1 35 ⟨n,0,none⟩=some (.agg ⟨[x,y,z]⟩):=loadV_agg (o:=0) (k:=0) hb agg35 sz35 (by simp) (by simp [h1.hole.1,h2.hole.1,h3.hole.1])
  obtain⟨o1,o2⟩:=open_spec (l+10) (hg0.keep hk (show n≤n+1 by omega)) hnp hnj hnk
  rw[addrV_eq,bindO_some,lg,bindO_some,open_call (l+10)]
  by_cases he:faultN np nj nk ps js ks=0
  · refine⟨fun h=>absurd he h,?_⟩
    obtain⟨g,x',y',z',f,H2,n2,e1,e2,e3,e4,e5,e6,e7,e8,e9⟩:=o2 he
    simp only[Value.agg.injEq,Array.mk.injEq,List.cons.injEq,and_true] at e6
    obtain⟨rfl,rfl,rfl⟩:=e6
    have good:=good_of he
    have np8:=good.np8
    have nk3:=good.nk3
    have kk:Keep n H H2:=hk.trans e3 (by omega)
    have t0:tupV (.tuple ⟨[.pointer (some ⟨g,0,none⟩),.int .i64 0]⟩) 0=some (.pointer (some ⟨g,0,none⟩)):=rfl
    have t1:tupV (.tuple ⟨[.pointer (some ⟨g,0,none⟩),.int .i64 0]⟩) 1=some (.int .i64 0):=rfl
    have d0:decide ((0:Int)=0)=true:=rfl
    rw[e1,bindO_some,t0,bindO_some,t1,bindO_some,binK_some bin_neq,d0,Bool.not_true,ifK_f]
    dsimp only
    obtain⟨H3,n3,b1,b2,b3⟩:=best_call (ρ:=Value × Hp × Nat) l e7 e8 (h3.len_eq und33) e9 good.kinds ((h1.keep kk (Nat.le_refl _)).up (show n≤n2 by omega)) np8 nk3 e5
    rw[b1]
    have l8:(ints (List.replicate 8 (0:Int))).length=8:=rfl
    have k3:Keep n H H3:=fun b hb=>by rw[b3 b (by omega),kk b hb]
    cases hc:bestL ps js ks nj np nk with
    | none=>
      refine⟨fun _ _=>?_,fun _ M h=>by cases h⟩
      have u0:tupV (bestV none) 0=some (.agg ⟨ints noL⟩):=rfl
      have u1:tupV (bestV none) 1=some (.bool false):=rfl
      obtain⟨H4,k4,_,k6⟩:=spill (P:=P) (ρ:=Value × Hp × Nat) (H:=H3) (n:=n3) (L:=ints noL) zero121 rfl sz121 rfl (ints_leaf _)
      rw[u0,bindO_some,u1,bindO_some,k6,not_f,bindO_some,ifK_t]
      exact⟨H4,n3+1,rfl,by omega,k3.trans k4 (by omega)⟩
    | some M=>
      refine⟨fun _ h=>(by cases h),fun _ M' h=>?_⟩
      cases h
      obtain⟨i,i1,i2,i3,_⟩:=bestL_some np8 good.kinds hc
      have hM:=i2.len
      have hK:=i2.kindsIn
      have lM:(ints M).length=8:=by rw[ints_length,hM]
      have u0:tupV (bestV (some M)) 0=some (.agg ⟨ints M⟩):=rfl
      have u1:tupV (bestV (some M)) 1=some (.bool true):=rfl
      obtain⟨H4,k4,k5,k6⟩:=spill (P:=P) (ρ:=Value × Hp × Nat) (H:=H3) (n:=n3) (L:=ints M) zero121 rfl sz121 lM (ints_leaf _)
      have kg:Keep n2 H2 H4:=fun b hb=>by rw[k4 b (by omega),b3 b hb]
      have f4:=e7.keep kg e5
      have lx:loadV P H4 31 ⟨g,0+0+0,none⟩=some x:=by
        have:=f4.load (P:=P) (k:=0) agg31 (by omega)
        rw[e8.x] at this; exact this
      have hlx:lenV P 31 x=some (.int .i64 np):=h1.len_eq und31
      rw[u0,bindO_some,u1,bindO_some,k6,not_t,bindO_some,ifK_f,nil_ptr,bindO_some,fa117_0,bindO_some,fa35_0,bindO_some,addrV_eq,bindO_some,lx,bindO_some,hlx,bindO_some,slice121h n3 np8,bindO_some,addrV_eq,bindO_some,load_all k5 agg121 sz121 lM,bindO_some]
      have hI:=kinds_I64 hM hK nk3
      obtain⟨H5,H6,n6,q1,q2,q3,⟨q4,q5⟩,q6⟩:=effK_readR (ρ:=Value × Hp × Nat) (ex:=[.l 120 ⟨n3,0,none⟩]) (H:=H4) (n:=n3+1) (v:=.slice (some ⟨n3+1+1,0,none⟩) np capV)
        (op:=fun H n k=>callFK P (cal (l+16)) 76 [.slice (some ⟨n3,0,none⟩) np 8] H n fun v H n=>k v H n)
        (R:=fun H' n'=>n3+1+1<n'∧H'.get (n3+1+1)=some (.cells (ints (M.take np)) 3 false (some 1)))
        (fun q hq=>by
          simp only[List.mem_cons,List.not_mem_nil,or_false] at hq
          subst hq
          exact⟨_,_,rfl,Nat.lt_succ_self _,.inl ⟨_,_,_,_,k5⟩⟩)
        (fun Hm hm=>by
          have hw:ListR Hm (n3+1) (.slice (some ⟨n3,0,none⟩) np 8) np (M.take np):=same_list hm (ints_take_list k5 (Nat.lt_succ_self _) (by omega) hI)
          obtain⟨H2,n2,z1,z2,z3,z4⟩:=clone76_at (ρ:=Value × Hp × Nat) (l+15) hw good.np1 hnp
          exact⟨H2,n2,fun k=>z1 _,by omega,z3,z2,z4⟩)
      have kg5:Keep n2 H2 H5:=fun b hb=>by rw[q3 b (by omega),kg b hb]
      obtain⟨H7,n7,w1,w2,w3⟩:=count_call (ρ:=Value × Hp × Nat) (l+13) (n:=n6) (e7.keep kg5 e5) e9 hM hK np8 nk3 (by omega)
      rw[q1,w1]
      have lt:(M.take np).length=np:=by simp [hM]; omega
      refine⟨_,H7,n7,rfl,by omega,fun b hb=>by rw[w3 b (by omega),kg5 b (by omega),kk b hb],.inr ⟨n3+1+1,capV,by rw[lt],by omega,by omega,?_⟩⟩
      rw[w3 _ (by omega),q6 _ (by omega),q5]
  · refine⟨fun _=>?_,fun h=>absurd h he,fun h=>absurd h he⟩
    obtain⟨H2,n2,e1,e2,e3⟩:=o1 he
    have t0:tupV (.tuple ⟨[.pointer none,.int .i64 (faultN np nj nk ps js ks)]⟩) 0=some (.pointer none):=rfl
    have t1:tupV (.tuple ⟨[.pointer none,.int .i64 (faultN np nj nk ps js ks)]⟩) 1=some (.int .i64 (faultN np nj nk ps js ks)):=rfl
    rw[e1,bindO_some,t0,bindO_some,t1,bindO_some,binK_some bin_neq,decide_eq_false he,Bool.not_false,ifK_t]
    exact⟨H2,n2,rfl,by omega,hk.trans e3 (by omega)⟩
end Go.Proofs.Ytmpnblcfpdnlmaa.spec
end
section
namespace Go.Proofs.Ytmpnblcfpdnlmaa.spec
open Go Go.Ev Go.Proofs.Ytmpnblcfpdnlmaa.nestFits Go.Proofs.Ytmpnblcfpdnlmaa.G
set_option maxRecDepth 100000
variable {ρ:Type}
end Go.Proofs.Ytmpnblcfpdnlmaa.spec
end
section
namespace Go.Proofs.Ytmpnblcfpdnlmaa.spec
open Go Go.Ev Go.Proofs.Ytmpnblcfpdnlmaa.nestFits Go.Proofs.Ytmpnblcfpdnlmaa.G
set_option maxRecDepth 100000
variable {ρ:Type}
noncomputable def nestsR (L:List Int) (i:Nat):Int:=sumTo (fun p=>if 0≤L.getD p 0 then 1 else 0) i
def LessP (a b:List Int) (np:Nat):Prop:=nestsR a np<nestsR b np∨(nestsR a np=nestsR b np∧lexLt a b 0 np)
end Go.Proofs.Ytmpnblcfpdnlmaa.spec
end
section
namespace Go.Proofs.Ytmpnblcfpdnlmaa.spec
open Go Go.Ev Go.Proofs.Ytmpnblcfpdnlmaa.nestFits Go.Proofs.Ytmpnblcfpdnlmaa.G
set_option maxRecDepth 100000
variable {ρ:Type}
theorem list_extN {L M:List Int} (h:L.length=M.length) (he:∀ q,q<L.length→L.getD q 0=M.getD q 0):L=M:=by
  apply List.ext_getElem?
  intro k
  by_cases hk:k<L.length
  · rw[getD_some hk,getD_some (by omega),he k hk]
  · rw[List.getElem?_eq_none (by omega),List.getElem?_eq_none (by omega)]
end Go.Proofs.Ytmpnblcfpdnlmaa.spec
end
section
namespace Go.Proofs.Ytmpnblcfpdnlmaa.spec
open Go Go.Ev Go.Proofs.Ytmpnblcfpdnlmaa.nestFits Go.Proofs.Ytmpnblcfpdnlmaa.G
set_option maxRecDepth 100000
variable {ρ:Type}
end Go.Proofs.Ytmpnblcfpdnlmaa.spec
end
section
namespace Go.Proofs.Ytmpnblcfpdnlmaa.spec
open Go Go.Ev Go.Proofs.Ytmpnblcfpdnlmaa.nestFits Go.Proofs.Ytmpnblcfpdnlmaa.G
set_option maxRecDepth 100000
variable {ρ:Type}
end Go.Proofs.Ytmpnblcfpdnlmaa.spec
end
section
namespace Go.Proofs.Ytmpnblcfpdnlmaa.spec
open Go Go.Ev Go.Proofs.Ytmpnblcfpdnlmaa.nestFits Go.Proofs.Ytmpnblcfpdnlmaa.G
set_option maxRecDepth 100000
variable {ρ:Type}
end Go.Proofs.Ytmpnblcfpdnlmaa.spec
end
section
namespace Go.Proofs.Ytmpnblcfpdnlmaa.spec
open Go Go.Ev Go.Proofs.Ytmpnblcfpdnlmaa.nestFits Go.Proofs.Ytmpnblcfpdnlmaa.G
set_option maxRecDepth 100000
theorem cntL_more {L:List Int}:∀ {p d:Nat},cntL L p (d+1)=cntL L p d+(if L.getD (p+d) 0=-1 then 0 else 1)
  | p,0=>by simp [cntL]
  | p,d+1=>by
    have ih:=cntL_more (L:=L) (p:=p+1) (d:=d)
    have e:cntL L p (d+1+1)=(if L.getD p 0=-1 then 0 else 1)+cntL L (p+1) (d+1):=rfl
    have e2:cntL L p (d+1)=(if L.getD p 0=-1 then 0 else 1)+cntL L (p+1) d:=rfl
    rw[e,ih,e2,show p+1+d=p+(d+1) by omega]
    omega
theorem cntL_cntI {L:List Int}:∀ {d:Nat},(cntL L 0 d:Int)=cntI L d
  | 0=>rfl
  | d+1=>by
    have ih:=cntL_cntI (L:=L) (d:=d)
    rw[cntL_more,Nat.zero_add]
    unfold cntI at ih ⊢
    simp only[sumTo]
    rw[← ih]
    split <;> omega
theorem cntI_end {L:List Int} {np:Nat}:∀ {j:Nat},(∀ q,np≤q→q<np+j→L.getD q 0=-1)→cntI L (np+j)=cntI L np
  | 0,_=>rfl
  | j+1,h=>by
    have ih:=cntI_end (j:=j) fun q h1 h2=>h q h1 (by omega)
    unfold cntI at ih ⊢
    rw[show np+(j+1)=(np+j)+1 by omega]
    simp only[sumTo]
    rw[ih,if_pos (h (np+j) (by omega) (by omega))]
    omega
theorem nests_laid {B:List Int} {np:Nat} (hB:B.length=np) (h:∀ p,p<np→-1≤B.getD p 0):nestsR B np=cntI (laidL B np) np:=by
  unfold nestsR cntI
  refine sumTo_same fun k hk=>?_
  rw[laidL_in hB hk]
  have:=h k hk
  by_cases c:B.getD k 0=-1
  · rw[if_pos c,if_neg (by omega)]
  · rw[if_neg c,if_pos (by omega)]
theorem laid_range {js ks B:List Int} {nj np nk:Nat} (h:laidOk js ks B nj np nk):∀ p,p<np→-1≤B.getD p 0∧B.getD p 0<nk:=by
  intro p hp
  rcases h p hp with z | ⟨z1,z2,_⟩ <;> omega
theorem goes_of {js ks B:List Int} {nj np nk:Nat} (hB:B.length=np) (hnp:np≤8) (h:laidOk js ks B nj np nk):GoesOn (fitD js ks nj np) nk noL 0 np (cntL (laidL B np) 0 np) (laidL B np):=by
  refine⟨laidL_len hB hnp,fun q hq=>absurd hq (by omega),fun q _ h2=>?_,fun q h1 h2=>laidL_out hB (by omega) h2,rfl⟩
  rw[laidL_in hB (by omega)]
  rcases h q (by omega) with z | ⟨z1,z2,z3⟩
  · exact .inl z
  · exact .inr ⟨(B.getD q 0).toNat,by omega,z3,by omega⟩
theorem take_get {M:List Int} {np q:Nat} (hq:q<np):(M.take np).getD q 0=M.getD q 0:=by
  rw[List.getD_eq_getElem?_getD,List.getElem?_take,if_pos hq,← List.getD_eq_getElem?_getD]
theorem take_laid {tk:Nat→Nat→Bool} {nk np i:Nat} {M:List Int} (h:GoesOn tk nk noL 0 np i M) (hnp:np≤8):(M.take np).length=np∧laidL (M.take np) np=M:=by
  have l:(M.take np).length=np:=by
    have:=h.len
    simp [this]; omega
  refine⟨l,list_ext8 (laidL_len l hnp) h.len fun q hq=>?_⟩
  by_cases c:q<np
  · rw[laidL_in l c,take_get c]
  · rw[laidL_out l (by omega) hq,h.after q (by omega) hq]
theorem take_ok {js ks M:List Int} {nj np nk i:Nat} (h:GoesOn (fitD js ks nj np) nk noL 0 np i M):laidOk js ks (M.take np) nj np nk:=by
  intro p hp
  rw[take_get hp]
  rcases h.kinds p (Nat.zero_le _) (by omega) with z | ⟨kd,h1,h2,h3⟩
  · exact .inl z
  · refine .inr ⟨by omega,by omega,?_⟩
    rw[h3,Int.toNat_natCast]
    exact h2
theorem lexLt_same {A B C D:List Int} {np:Nat} (h1:∀ q,q<np→A.getD q 0=C.getD q 0) (h2:∀ q,q<np→B.getD q 0=D.getD q 0) (h:lexLt A B 0 np):lexLt C D 0 np:=by
  obtain⟨q,q1,q2,q3,q4⟩:=h
  exact⟨q,q1,q2,by rw[← h1 q q2,← h2 q q2]; exact q3,fun k k1 k2=>by rw[← h1 k (by omega),← h2 k (by omega)]; exact q4 k k1 k2⟩
theorem nests_cnt {js ks B:List Int} {nj np nk:Nat} (hB:B.length=np) (h:laidOk js ks B nj np nk):nestsR B np=(cntL (laidL B np) 0 np:Nat):=by
  rw[nests_laid hB fun p hp=>(laid_range h p hp).1,cntL_cntI]
theorem bestL_right {ps js ks M:List Int} {nj np nk:Nat} (hnp:np≤8) (hks:KindsOk ks nk) (h:bestL ps js ks nj np nk=some M) :
    M.length=8∧(M.take np).length=np∧laidL (M.take np) np=M∧laidOk js ks (M.take np) nj np nk∧RightL js ks ps M nj np∧cntI M 8=nestsR (M.take np) np ∧
    ∀ B,B.length=np→laidOk js ks B nj np nk→RightL js ks ps (laidL B np) nj np→M.take np=B∨LessP (M.take np) B np:=by
  obtain⟨i,i1,i2,i3,i4,i5⟩:=bestL_some hnp hks h
  obtain⟨t1,t2⟩:=take_laid i2 hnp
  have ok:=take_ok i2
  have ec:cntI M 8=cntI M np:=by
    have:=cntI_end (L:=M) (np:=np) (j:=8-np) fun q h1 h2=>i2.after q (by omega) (by omega)
    rw[show np+(8-np)=8 by omega] at this
    exact this
  have hc:nestsR (M.take np) np=(i:Nat):=by rw[nests_cnt t1 ok,t2,i2.cnt]
  refine⟨i2.len,t1,t2,ok,i3,?_,fun B hB hok hR=>?_⟩
  · rw[ec,hc,← cntL_cntI,i2.cnt]
  · have hg:=goes_of hB hnp hok
    have hcB:=nests_cnt hB hok
    rcases Nat.lt_trichotomy (cntL (laidL B np) 0 np) i with c | c | c
    · exact absurd hR (i5 _ _ c hg)
    · rw[c] at hg
      rcases i4 _ hg hR with e | e
      · refine .inl (list_extN (by rw[t1,hB]) fun q hq=>?_)
        rw[t1] at hq
        rw[take_get hq,e,laidL_in hB hq]
      · refine .inr (.inr ⟨by rw[hc,hcB,c],lexLt_same (fun q hq=>(take_get hq).symm) (fun q hq=>laidL_in hB hq) e⟩)
    · exact .inr (.inl (by rw[hc,hcB]; omega))
theorem bestL_not {ps js ks:List Int} {nj np nk:Nat} (hnp:np≤8) (hks:KindsOk ks nk) (h:bestL ps js ks nj np nk=none):∀ B,B.length=np→laidOk js ks B nj np nk→¬ RightL js ks ps (laidL B np) nj np:=
  fun B hB hok=>bestL_none hnp hks h _ _ (by have:=cntL_le (L:=laidL B np) (p:=0) (d:=np); exact this) (goes_of hB hnp hok)
end Go.Proofs.Ytmpnblcfpdnlmaa.spec
end
section
namespace Go.Proofs.Ytmpnblcfpdnlmaa.spec
open Go Go.Ev Go.Proofs.Ytmpnblcfpdnlmaa.nestFits Go.Proofs.Ytmpnblcfpdnlmaa.G
set_option maxRecDepth 100000
end Go.Proofs.Ytmpnblcfpdnlmaa.spec
end
section
namespace Go.Proofs.Ytmpnblcfpdnlmaa.spec
open Go Go.Ev Go.Proofs.Ytmpnblcfpdnlmaa.nestFits Go.Proofs.Ytmpnblcfpdnlmaa.G
set_option maxRecDepth 100000
structure Turn (np nj:Nat) (js js':List Int) (s t:Nat→Nat):Prop where
  s_lt:∀ p,p<np→s p<np
  t_lt:∀ p,p<np→t p<np
  ts:∀ p,p<np→t (s p)=p
  st:∀ p,p<np→s (t p)=p
  near:∀ a b,a<np→b<np→(nearB js' nj (s a) (s b)=nearB js nj a b)
  sum:∀ f:Nat→Int,sumTo (fun p=>f (s p)) np=sumTo f np
theorem Turn.symm {np nj:Nat} {js js':List Int} {s t:Nat→Nat} (h:Turn np nj js js' s t):Turn np nj js' js t s:=by
  refine⟨h.t_lt,h.s_lt,h.st,h.ts,fun a b ha hb=>?_,fun f=>?_⟩
  · have:=h.near (t a) (t b) (h.t_lt a ha) (h.t_lt b hb)
    rw[h.st a ha,h.st b hb] at this
    exact this.symm
  · have:=h.sum fun p=>f (t p)
    rw[← this]
    exact sumTo_same fun p hp=>by rw[h.ts p hp]
variable {np nj nk kd:Nat} {js js' ks ps ps':List Int} {s t:Nat→Nat}
theorem Turn.eq (h:Turn np nj js js' s t) {p q:Nat} (hp:p<np) (hq:q<np):s p=s q↔p=q:=
  ⟨fun e=>by rw[← h.ts p hp,e,h.ts q hq],fun e=>by rw[e]⟩
theorem turn_shP (h:Turn np nj js js' s t) (np8:np≤8) {p q:Nat} (hp:p<np) (hq:q<np):(shP js' ks nj np (s p) kd).getD (s q * 2) 0=(shP js ks nj np p kd).getD (q * 2) 0∧(shP js' ks nj np (s p) kd).getD (s q * 2+1) 0=(shP js ks nj np p kd).getD (q * 2+1) 0:=by
  unfold shP
  have hs:=h.s_lt p hp
  have hs':=h.s_lt q hq
  obtain⟨a1,a2⟩:=sharesL_get (a1:=ks.getD (kd * 5+1) 0) (a2:=ks.getD (kd * 5+2) 0) (a3:=ks.getD (kd * 5+3) 0) (a4:=ks.getD (kd * 5+4) 0) (near:=nearB js' nj (s p)) np8 (show s p<8 by omega) (s q)
  obtain⟨b1,b2⟩:=sharesL_get (a1:=ks.getD (kd * 5+1) 0) (a2:=ks.getD (kd * 5+2) 0) (a3:=ks.getD (kd * 5+3) 0) (a4:=ks.getD (kd * 5+4) 0) (near:=nearB js nj p) np8 (show p<8 by omega) q
  have hn:=h.near p q hp hq
  have he:=h.eq hq hp
  have c:(s q<np∧nearB js' nj (s p) (s q)=true)↔(q<np∧nearB js nj p q=true):=by rw[hn]; exact⟨fun z=>⟨hq,z.2⟩,fun z=>⟨hs',z.2⟩⟩
  rw[a1,a2,b1,b2]
  simp only[he,c]
  exact⟨trivial,trivial⟩
theorem shP_out {p q:Nat} (np8:np≤8) (hp:p<np) (hq:np≤q):(shP js ks nj np p kd).getD (q * 2) 0=0∧(shP js ks nj np p kd).getD (q * 2+1) 0=0:=by
  unfold shP
  obtain⟨a1,a2⟩:=sharesL_get (a1:=ks.getD (kd * 5+1) 0) (a2:=ks.getD (kd * 5+2) 0) (a3:=ks.getD (kd * 5+3) 0) (a4:=ks.getD (kd * 5+4) 0) (near:=nearB js nj p) np8 (show p<8 by omega) q
  rw[a1,a2,if_neg (show ¬ q=p by omega),if_neg (fun z=>by omega),if_neg (show ¬ q=p by omega),if_neg (fun z=>by omega)]
  exact⟨rfl,rfl⟩
theorem turn_share (h:Turn np nj js js' s t) (np8:np≤8) {p q e:Nat} (hp:p<np) (hq:q<np) (he:e<2):(shP js' ks nj np (s p) kd).getD (s q * 2+e) 0=(shP js ks nj np p kd).getD (q * 2+e) 0:=by
  obtain⟨a,b⟩:=turn_shP (ks:=ks) (kd:=kd) h np8 hp hq
  rcases(show e=0∨e=1 by omega) with rfl | rfl
  · exact a
  · exact b
theorem total_np {p e:Nat} (np8:np≤8) (hp:p<np) (he:e<2):total (shP js ks nj np p kd) e=sumTo (fun q=>(shP js ks nj np p kd).getD (q * 2+e) 0) np:=by
  unfold total
  refine sumTo_zero np8 fun q hq _=>?_
  obtain⟨a,b⟩:=shP_out (js:=js) (ks:=ks) (nj:=nj) (kd:=kd) np8 hp hq
  rcases(show e=0∨e=1 by omega) with rfl | rfl
  · exact a
  · exact b
theorem turn_total (h:Turn np nj js js' s t) (np8:np≤8) {p e:Nat} (hp:p<np) (he:e<2):total (shP js' ks nj np (s p) kd) e=total (shP js ks nj np p kd) e:=by
  rw[total_np np8 (h.s_lt p hp) he,total_np np8 hp he,← h.sum]
  exact sumTo_same fun q hq=>turn_share h np8 hp hq he
theorem turn_ext (h:Turn np nj js js' s t) (np8:np≤8) {p q e:Nat} {y:Int} (hp:p<np) (hq:q<np) (he:e<2):ext y (shP js' ks nj np (s p) kd) e (s q)=ext y (shP js ks nj np p kd) e q:=by
  unfold ext
  rw[turn_share h np8 hp hq he,turn_share h np8 hp hq (show 1-e<2 by omega),turn_total h np8 hp (show 1-e<2 by omega)]
theorem turn_fit (h:Turn np nj js js' s t) (np8:np≤8) {p:Nat} (hp:p<np):fitD js' ks nj np (s p) kd=fitD js ks nj np p kd:=by
  unfold fitD
  rw[turn_total h np8 hp (by omega),turn_total h np8 hp (by omega)]
theorem turn_laid (h:Turn np nj js js' s t) (np8:np≤8) {B B':List Int} (hB:∀ p,p<np→B'.getD (s p) 0=B.getD p 0) (ok:laidOk js ks B nj np nk):laidOk js' ks B' nj np nk:=fun q hq=>by
  have e:=hB (t q) (h.t_lt q hq)
  rw[h.st q hq] at e
  rw[e]
  rcases ok (t q) (h.t_lt q hq) with z | ⟨z1,z2,z3⟩
  · exact .inl z
  · refine .inr ⟨z1,z2,?_⟩
    have:=turn_fit (ks:=ks) (kd:=(B.getD (t q) 0).toNat) h np8 (h.t_lt q hq)
    rw[h.st q hq] at this
    rw[this]; exact z3
theorem bsum_np {B:List Int} {e q:Nat} (np8:np≤8) (hB:B.length=np):bsum js ks (laidL B np) nj np 8 e q=sumTo (fun p=>if B.getD p 0=-1 then 0 else ext (ks.getD ((B.getD p 0).toNat * 5) 0) (shP js ks nj np p (B.getD p 0).toNat) e q) np:=by
  unfold bsum
  rw[sumTo_zero np8 fun p h1 h2=>by rw[laidL_out hB h1 h2,if_pos rfl]]
  exact sumTo_same fun p hp=>by rw[laidL_in hB hp]
theorem turn_bsum (h:Turn np nj js js' s t) (np8:np≤8) {B B':List Int} (lB:B.length=np) (lB':B'.length=np) (hB:∀ p,p<np→B'.getD (s p) 0=B.getD p 0) {e q:Nat} (he:e<2) (hq:q<np) :
    bsum js' ks (laidL B' np) nj np 8 e (s q)=bsum js ks (laidL B np) nj np 8 e q:=by
  rw[bsum_np np8 lB',bsum_np np8 lB,← h.sum]
  refine sumTo_same fun p hp=>?_
  rw[hB p hp]
  by_cases z:B.getD p 0=-1
  · rw[if_pos z,if_pos z]
  · rw[if_neg z,if_neg z,turn_ext h np8 hp hq he]
theorem turn_right (h:Turn np nj js js' s t) (np8:np≤8) {B B':List Int} (lB:B.length=np) (lB':B'.length=np) (hB:∀ p,p<np→B'.getD (s p) 0=B.getD p 0)
    (hps:∀ p,p<np→ps'.getD (s p * 2) 0=ps.getD (p * 2) 0∧ps'.getD (s p * 2+1) 0=ps.getD (p * 2+1) 0) (hr:RightL js ks ps (laidL B np) nj np):RightL js' ks ps' (laidL B' np) nj np:=fun q hq=>by
  have ht:=h.t_lt q hq
  obtain⟨a,b⟩:=hr (t q) ht
  have e0:=turn_bsum (ks:=ks) h np8 lB lB' hB (e:=0) (by omega) ht
  have e1:=turn_bsum (ks:=ks) h np8 lB lB' hB (e:=1) (by omega) ht
  obtain⟨p0,p1⟩:=hps (t q) ht
  rw[h.st q hq] at e0 e1 p0 p1
  rw[e0,e1,p0,p1]
  exact⟨a,b⟩
theorem turn_nests (h:Turn np nj js js' s t) {B B':List Int} (hB:∀ p,p<np→B'.getD (s p) 0=B.getD p 0):nestsR B' np=nestsR B np:=by
  unfold nestsR
  rw[← h.sum]
  exact sumTo_same fun p hp=>by rw[hB p hp]
def moved (B:List Int) (t:Nat→Nat) (np:Nat):List Int:=(List.range np).map fun q=>B.getD (t q) 0
theorem moved_get {B:List Int} {q:Nat} (hq:q<np):(moved B t np).getD q 0=B.getD (t q) 0:=by
  unfold moved
  rw[List.getD_eq_getElem?_getD,List.getElem?_map,List.getElem?_range hq]
  rfl
theorem turn_best (h:Turn np nj js js' s t) (np8:np≤8) (hks:KindsOk ks nk) (hps:∀ p,p<np→ps'.getD (s p * 2) 0=ps.getD (p * 2) 0∧ps'.getD (s p * 2+1) 0=ps.getD (p * 2+1) 0) {M:List Int} (hb:bestL ps js ks nj np nk=some M) :
    ∃ M',bestL ps' js' ks nj np nk=some M'∧cntI M' 8≤cntI M 8:=by
  obtain⟨b1,b2,b3,b4,b5,b6,b7⟩:=bestL_right np8 hks hb
  generalize hB:M.take np=B at *
  have l':(moved B t np).length=np:=by unfold moved; simp
  have hm:∀ p,p<np→(moved B t np).getD (s p) 0=B.getD p 0:=fun p hp=>by rw[moved_get (h.s_lt p hp),h.ts p hp]
  have r1:=turn_laid (nk:=nk) h np8 hm b4
  have r2:=turn_right h np8 b2 l' hm hps (by rw[b3]; exact b5)
  have r3:=turn_nests h hm
  cases hc:bestL ps' js' ks nj np nk with
  | none=>exact absurd r2 (bestL_not np8 hks hc _ l' r1)
  | some M'=>
    obtain⟨c1,c2,c3,c4,c5,c6,c7⟩:=bestL_right np8 hks hc
    refine⟨M',rfl,?_⟩
    rw[c6,b6,← r3]
    rcases c7 _ l' r1 r2 with e | e | ⟨e,_⟩
    · rw[e]; exact Int.le_refl _
    · omega
    · omega
theorem turn_best_eq (h:Turn np nj js js' s t) (np8:np≤8) (hks:KindsOk ks nk) (hps:∀ p,p<np→ps'.getD (s p * 2) 0=ps.getD (p * 2) 0∧ps'.getD (s p * 2+1) 0=ps.getD (p * 2+1) 0) :
    (bestL ps' js' ks nj np nk).map (fun M=>cntI M 8)=(bestL ps js ks nj np nk).map (fun M=>cntI M 8):=by
  have back:∀ p,p<np→ps.getD (t p * 2) 0=ps'.getD (p * 2) 0∧ps.getD (t p * 2+1) 0=ps'.getD (p * 2+1) 0:=fun p hp=>by
    have:=hps (t p) (h.t_lt p hp)
    rw[h.st p hp] at this
    exact⟨this.1.symm,this.2.symm⟩
  cases hc:bestL ps js ks nj np nk with
  | some M=>
    obtain⟨M',e1,e2⟩:=turn_best h np8 hks hps hc
    obtain⟨M2,f1,f2⟩:=turn_best h.symm np8 hks back e1
    rw[hc] at f1
    cases f1
    rw[e1]
    show some (cntI M' 8)=some (cntI M 8)
    exact congrArg some (by omega)
  | none=>
    cases hc':bestL ps' js' ks nj np nk with
    | none=>rfl
    | some M'=>
      obtain⟨M2,f1,f2⟩:=turn_best h.symm np8 hks back hc'
      rw[hc] at f1
      cases f1
end Go.Proofs.Ytmpnblcfpdnlmaa.spec
end
section
namespace Go.Proofs.Ytmpnblcfpdnlmaa.spec
open Go Go.Ev Go.Proofs.Ytmpnblcfpdnlmaa.nestFits Go.Proofs.Ytmpnblcfpdnlmaa.G
set_option maxRecDepth 100000
def rotS (np k p:Nat):Nat:=(p+np-k) % np
def rotT (np k q:Nat):Nat:=(q+k) % np
theorem rotS_eq {np k p:Nat} (hk:k<np) (hp:p<np):rotS np k p=if k≤p then p-k else p+np-k:=by
  unfold rotS
  split
  · rw[Nat.mod_eq_sub_mod (by omega),Nat.mod_eq_of_lt (by omega)]
    omega
  · exact Nat.mod_eq_of_lt (by omega)
theorem rotT_eq {np k q:Nat} (hk:k<np) (hq:q<np):rotT np k q=if q+k<np then q+k else q+k-np:=by
  unfold rotT
  split
  · exact Nat.mod_eq_of_lt (by omega)
  · rw[Nat.mod_eq_sub_mod (by omega),Nat.mod_eq_of_lt (by omega)]
theorem sumTo_add (f:Nat→Int) (a:Nat):∀ b:Nat,sumTo f (a+b)=sumTo f a+sumTo (fun i=>f (a+i)) b
  | 0=>by simp [sumTo]
  | b+1=>by
    rw[show a+(b+1)=(a+b)+1 by omega]
    simp only[sumTo]
    rw[sumTo_add f a b]
    omega
theorem rot_sum {np k:Nat} (hk:k<np) (f:Nat→Int):sumTo (fun p=>f (rotS np k p)) np=sumTo f np:=by
  have e1:sumTo (fun p=>f (rotS np k p)) np=sumTo (fun p=>f (rotS np k p)) (k+(np-k)):=by rw[show k+(np-k)=np by omega]
  have e2:sumTo f np=sumTo f ((np-k)+k):=by rw[show(np-k)+k=np by omega]
  rw[e1,e2,sumTo_add,sumTo_add]
  have a1:sumTo (fun p=>f (rotS np k p)) k=sumTo (fun i=>f (np-k+i)) k:=sumTo_same fun p hp=>by
    show f (rotS np k p)=f (np-k+p)
    rw[rotS_eq hk (by omega),if_neg (by omega)]
    congr 1
    omega
  have a2:sumTo (fun i=>f (rotS np k (k+i))) (np-k)=sumTo f (np-k):=sumTo_same fun p hp=>by
    show f (rotS np k (k+p))=f p
    rw[rotS_eq hk (by omega),if_pos (by omega)]
    congr 1
    omega
  rw[a1,a2]
  omega
def rotJ (np k:Nat) (js:List Int):List Int:=js.map fun x=>((rotS np k x.toNat:Nat):Int)
theorem rotJ_get {np k i A:Nat} {js:List Int} (h:js[i]?=some (A:Int)):(rotJ np k js)[i]?=some ((rotS np k A:Nat):Int):=by
  unfold rotJ
  rw[List.getElem?_map,h]
  rfl
theorem rot_inj {np k a b:Nat} (hk:k<np) (ha:a<np) (hb:b<np):rotS np k a=rotS np k b↔a=b:=by
  rw[rotS_eq hk ha,rotS_eq hk hb]
  split <;> split <;> omega
theorem rot_J {np nj nk k a b i:Nat} {ps js ks:List Int} (good:Good np nj nk ps js ks) (hl:js.length=nj * 2) (hk:k<np) (ha:a<np) (hb:b<np) (hi:i<nj):J (rotJ np k js) ((rotS np k a:Nat):Int) ((rotS np k b:Nat):Int) i↔J js a b i:=by
  obtain⟨A,B,hA,hB,h1,h2⟩:=good.joins hl i hi
  unfold J
  rw[rotJ_get hA,rotJ_get hB,hA,hB]
  have i1:=rot_inj hk h1 ha
  have i2:=rot_inj hk h2 hb
  have i3:=rot_inj hk h1 hb
  have i4:=rot_inj hk h2 ha
  simp only[Option.some.injEq,Int.ofNat_inj,i1,i2,i3,i4]
theorem rot_turn {np nj nk k:Nat} {ps js ks:List Int} (good:Good np nj nk ps js ks) (hl:js.length=nj * 2) (hk:k<np):Turn np nj js (rotJ np k js) (rotS np k) (rotT np k):=by
  refine⟨fun p hp=>?_,fun p hp=>?_,fun p hp=>?_,fun p hp=>?_,fun a b ha hb=>?_,fun f=>rot_sum hk f⟩
  · rw[rotS_eq hk hp]; split <;> omega
  · rw[rotT_eq hk hp]; split <;> omega
  · rw[rotS_eq hk hp]
    split
    · rw[rotT_eq hk (by omega)]; split <;> omega
    · rw[rotT_eq hk (by omega)]; split <;> omega
  · rw[rotT_eq hk hp]
    split
    · rw[rotS_eq hk (by omega)]; split <;> omega
    · rw[rotS_eq hk (by omega)]; split <;> omega
  · unfold nearB
    rw[decide_eq_decide]
    constructor
    · rintro⟨q,h1,h2⟩; exact⟨q,h1,(rot_J good hl hk ha hb h1).1 h2⟩
    · rintro⟨q,h1,h2⟩; exact⟨q,h1,(rot_J good hl hk ha hb h1).2 h2⟩
def rotL (w k:Nat) (xs:List Int):List Int:=xs.drop (k * w)++xs.take (k * w)
theorem rotL_len (w k:Nat) (xs:List Int):(rotL w k xs).length=xs.length:=by
  unfold rotL
  rw[List.length_append,List.length_drop,List.length_take]
  omega
theorem getD_app {xs ys:List Int} {i:Nat}:(xs++ys).getD i 0=if i<xs.length then xs.getD i 0 else ys.getD (i-xs.length) 0:=by
  rw[List.getD_eq_getElem?_getD,List.getD_eq_getElem?_getD,List.getD_eq_getElem?_getD]
  split
  · rw[List.getElem?_append_left (by omega)]
  · rw[List.getElem?_append_right (by omega)]
theorem getD_drop {xs:List Int} {i n:Nat}:(xs.drop n).getD i 0=xs.getD (n+i) 0:=by
  rw[List.getD_eq_getElem?_getD,List.getD_eq_getElem?_getD,List.getElem?_drop]
theorem getD_take {xs:List Int} {i n:Nat} (h:i<n):(xs.take n).getD i 0=xs.getD i 0:=by
  rw[List.getD_eq_getElem?_getD,List.getD_eq_getElem?_getD,List.getElem?_take,if_pos h]
theorem rotL_get1 {np k p:Nat} {xs:List Int} (hl:xs.length=np) (hk:k<np) (hp:p<np):(rotL 1 k xs).getD (rotS np k p) 0=xs.getD p 0:=by
  unfold rotL
  rw[getD_app,List.length_drop,rotS_eq hk hp]
  split
  · rw[if_pos (by omega),getD_drop]; congr 1; omega
  · rw[if_neg (by omega),getD_take (by omega)]; congr 1; omega
theorem rotL_get2 {np k p e:Nat} {xs:List Int} (hl:xs.length=np * 2) (hk:k<np) (hp:p<np) (he:e<2):(rotL 2 k xs).getD (rotS np k p * 2+e) 0=xs.getD (p * 2+e) 0:=by
  unfold rotL
  rw[getD_app,List.length_drop,rotS_eq hk hp]
  split
  · rw[if_pos (by omega),getD_drop]; congr 1; omega
  · rw[if_neg (by omega),getD_take (by omega)]; congr 1; omega
theorem rot_pads {np k:Nat} {ps:List Int} (hl:ps.length=np * 2) (hk:k<np):∀ p,p<np→(rotL 2 k ps).getD (rotS np k p * 2) 0=ps.getD (p * 2) 0∧(rotL 2 k ps).getD (rotS np k p * 2+1) 0=ps.getD (p * 2+1) 0:=fun _ hp=>
  ⟨rotL_get2 (e:=0) hl hk hp (by omega),rotL_get2 (e:=1) hl hk hp (by omega)⟩
theorem rot_fault {np nj nk k:Nat} {ps js ks:List Int} (he:faultN np nj nk ps js ks=0) (hlp:ps.length=np * 2) (hl:js.length=nj * 2) (hk:k<np):faultN np nj nk (rotL 2 k ps) (rotJ np k js) ks=0:=by
  have g:=good_of he
  have tn:=rot_turn g hl hk
  unfold faultN
  have h1:=g.np8
  have h2:=g.nj16
  have h3:=g.nk3
  have h4:=g.np1
  have h5:=g.nk1
  rw[if_neg (by omega),if_neg (by omega),if_neg]
  rintro(⟨q,hq,h⟩ | h | ⟨i,hi,a,b,ha,hb,h⟩)
  · refine g.ok (.inl ⟨rotT np k q,tn.t_lt q hq,?_⟩)
    obtain⟨e0,e1⟩:=rot_pads hlp hk (rotT np k q) (tn.t_lt q hq)
    rw[tn.st q hq] at e0 e1
    unfold PBad at h ⊢
    rw[← e0,← e1]
    exact h
  · exact g.ok (.inr (.inl h))
  · obtain⟨A,B,hA,hB,l1,l2⟩:=g.joins hl i hi
    rw[rotJ_get hA] at ha
    rw[rotJ_get hB] at hb
    cases ha
    cases hb
    refine g.ok (.inr (.inr ⟨i,hi,A,B,hA,hB,?_⟩))
    have s1:=tn.s_lt A l1
    have s2:=tn.s_lt B l2
    rcases h with h | h | h | ⟨q,q0,q1,q2⟩
    · omega
    · omega
    · exact .inr (.inr (.inl (by rw[(rot_inj hk l1 l2).1 (by omega)])))
    · exact .inr (.inr (.inr ⟨q,q0,q1,(rot_J g hl hk l1 l2 (by omega)).1 q2⟩))
end Go.Proofs.Ytmpnblcfpdnlmaa.spec
end
section
namespace Go.Proofs.Ytmpnblcfpdnlmaa.spec
open Go Go.Ev Go.Proofs.Ytmpnblcfpdnlmaa.nestFits Go.Proofs.Ytmpnblcfpdnlmaa.G
set_option maxRecDepth 100000
variable {ρ:Type}
theorem placed_zero {np nj nk nl:Nat} {ps js ks ls:List Int} (h:placedN np nj nk nl ps js ks ls=0):Good np nj nk ps js ks∧nl=np∧laidOk js ks ls nj np nk:=by
  unfold placedN at h
  by_cases c1:faultN np nj nk ps js ks≠0
  · rw[if_pos c1] at h; exact absurd h c1
  · rw[if_neg c1] at h
    by_cases c2:nl=np∧laidOk js ks ls nj np nk
    · exact⟨good_of (Decidable.not_not.1 c1),c2.1,c2.2⟩
    · rw[if_neg c2] at h; omega
theorem tup2_0 (x y:Value):tupV (.tuple ⟨[x,y]⟩) 0=some x:=rfl
theorem tup2_1 (x y:Value):tupV (.tuple ⟨[x,y]⟩) 1=some y:=rfl
theorem len45_s (b l c:Nat):lenV P 45 (.slice (some ⟨b,0,none⟩) l c)=some (.int .i64 l):=by
  unfold lenV
  simp only[und45]
  rfl
def BoundsCall (c:Cal) (np nj nk:Nat) (ps js ks xs:List Int):Prop:=∀(H:Hp) (n:Nat) (v u:Value),GroveP H n v np nj nk ps js ks→ListR H n u np xs→∃(b cp:Nat) (X:List Int) (H':Hp) (n':Nat),(∀ k:Value→Hp→Nat→Res,callFK P c 22 [v,u] H n k=k (.tuple ⟨[.slice (some ⟨b,0,none⟩) np cp,.int .i64 0]⟩) H' n')∧n≤n'∧Keep n H H'∧b<n' ∧
  RowIs X js ks (laidL xs np) nj np 8∧CellsAt H' b 0 (ints (X.take (np * 2)))
end Go.Proofs.Ytmpnblcfpdnlmaa.spec
end
section
namespace Go.Proofs.Ytmpnblcfpdnlmaa.spec
open Go Go.Ev Go.Proofs.Ytmpnblcfpdnlmaa.nestFits Go.Proofs.Ytmpnblcfpdnlmaa.G
set_option maxRecDepth 100000
variable {ρ:Type}
theorem flatK53:flatK P 53=some 2:=by kernel_rfl
theorem eqG53:P.eqGuardType P.depth 53=false:=by kernel_rfl
theorem neq53 (p q:Operand) (a b:Int):binV P .neq 53 p q (.agg ⟨[.int .i64 a,.int .i64 b]⟩) (.agg ⟨[.int .i64 a,.int .i64 b]⟩)=some (.bool false):=by
  have h0:quickBin .neq (.agg ⟨[.int .i64 a,.int .i64 b]⟩) (.agg ⟨[.int .i64 a,.int .i64 b]⟩)=none:=rfl
  have h1:(pureV (.agg ⟨[.int .i64 a,.int .i64 b]⟩) && pureV (.agg ⟨[.int .i64 a,.int .i64 b]⟩))=true:=rfl
  have h2:eqCells [.int .i64 a,.int .i64 b] [.int .i64 a,.int .i64 b]=some true:=by
    simp only[eqCells,decide_true]
    first | done | rfl
  unfold binV
  rw[h0]
  unfold slowBin
  simp only[h1,aggBin,aggEq,flatK53,eqG53,List.length_cons,List.length_nil,h2]
  rfl
structure LB (H0 H:Hp) (base n:Nat) (u11 u12:Value) (q11 q12:List Int):Prop where
  keep:Keep base H0 H
  bn:base≤n
  v11:VecAt H base n 1 3 u11 q11.length q11
  v12:VecAt H base n 1 3 u12 q12.length q12
  off:∀ k,blockIs u11 k→¬ blockIs u12 k
end Go.Proofs.Ytmpnblcfpdnlmaa.spec
end
section
namespace Go.Ev
open Go
variable {P:Program} {t:TypeId} {x y:Operand} {a:Int} {ρ:Type}
end Go.Ev
end
section
namespace Go.Ev
open Go
variable {P:Program} {t:TypeId} {x y:Operand} {a:Int} {ρ:Type}
end Go.Ev
end
section
namespace Go.Ev
open Go
variable {P:Program} {t t2 e e2:TypeId} {ρ:Type}
def SrcR (H:Hp) (n:Nat) (s:Nat) (v:Value) (len:Nat) (xs:List Int):Prop:=
  xs.length=len * s∧((v=.slice none 0 0∧len=0)∨∃ b o cap,v=.slice (some ⟨b,o,none⟩) len cap∧b<n∧CellsAt H b o (ints xs))
theorem loadN_none (H:Hp) (b o s:Nat) {L:List Int} (h:CellsAt H b o (ints L)) (hl:L.length=s):loadN H ⟨b,o,none⟩ s=some (ints L):=by
  have:=loadN_at (s:=s) (k:=0) h (by rw[ints_length]; omega) (ints_noHole _)
  rw[Nat.add_zero] at this
  rw[this,take_all _ _ (by rw[ints_length]; omega)]
theorem SrcR.src {H:Hp} {n s len:Nat} {v:Value} {xs:List Int} (h:SrcR H n s v len xs):srcCells H s v=some (ints xs,len):=by
  obtain⟨h1,h2⟩:=h
  rcases h2 with⟨rfl,rfl⟩ | ⟨b,o,cap,rfl,_,a2⟩
  · have:xs=[]:=List.length_eq_zero_iff.1 (by omega)
    subst this
    rfl
  · unfold srcCells
    simp only[loadN_none H b o (len * s) a2 h1]
def copyVal (b0 n len:Nat):Value:=if len=0 then .slice (some ⟨b0,0,none⟩) 0 0 else .slice (some ⟨n,0,none⟩) len capV
def copyN (n len:Nat):Nat:=if len=0 then n else n+1
def CopyAt (H:Hp) (b0 n len s:Nat) (e:TypeId) (ys:List Int):Prop:=ys.length=len * s∧(len=0→H.get b0=some (.cells [] e false none))∧(len≠0→H.get n=some (.cells (ints ys) e false (some s)))
theorem append_copy {H:Hp} {n s len bt b0:Nat} {y z:Value} {ys:List Int} (hb0:H.get b0=some (.cells [] e false none)) (h1:sliceElem P t=some e) (h2:sliceElem P t2=some e2)
    (hs:szT P e=some s) (hb:bytesT P e=some bt) (hz:zeroT P e=some z) (hzl:(cellsV z).length=s) (hy:SrcR H n s y len ys) (big:bigOk len s bt=true) :
    ∃ H',appendV P (bare H n) t t2 (.slice (some ⟨b0,0,none⟩) 0 0) y=some (copyVal b0 n len,bare H' (copyN n len))∧Keep n H H'∧CopyAt H' b0 n len s e ys:=by
  have hsrc:=hy.src
  have hbeq:Nat.beq (cellsV z).length s=true:=by rw[hzl]; exact Nat.beq_refl s
  have hold:loadN H ⟨b0,0,none⟩ (0 * s)=some []:=by
    rw[Nat.zero_mul]
    unfold loadN
    simp only[hb0]
    rfl
  have c1:Nat.blt 0 capV=true:=by decide +kernel
  have big':bigOk (0+len) s bt=true:=by rw[Nat.zero_add]; exact big
  rcases Nat.eq_zero_or_pos len with rfl | hpos
  · have hy0:ys=[]:=List.length_eq_zero_iff.1 (by rw[hy.1]; omega)
    subst hy0
    refine⟨H.set b0 (some (.cells [] e false none)),?_,fun b hb=>?_,hy.1,fun _=>by rw[Tr.get_set,if_pos rfl],fun h=>absurd rfl h⟩
    · have hst:storeN H (addA ⟨b0,0,none⟩ (0 * s)) (ints [])=some (H.set b0 (some (.cells [] e false none))):=by
        rw[Nat.zero_mul]
        unfold storeN addA
        simp only[hb0]
        rfl
      unfold appendV
      simp only[h1,h2,hs,hb,hz,bare,hsrc,hbeq,hold,big']
      unfold appendTo
      simp only[c1,hst]
      rfl
    · rw[Tr.get_set]
      by_cases q:b=b0
      · rw[if_pos q,q,hb0]
      · rw[if_neg q]
  · have hne:len≠0:=by omega
    refine⟨H.set n (some (.cells (ints ys) e false (some s))),?_,fun b hb=>by rw[Tr.get_set,if_neg (by omega)],hy.1,fun h=>absurd h hne,fun _=>by rw[Tr.get_set,if_pos rfl]⟩
    unfold appendV
    simp only[h1,h2,hs,hb,hz,bare,hsrc,hbeq,hold,big']
    unfold appendTo
    have c2:Nat.ble (0+len) 0=false:=by
      cases h:Nat.ble (0+len) 0 with
      | false=>rfl
      | true=>have:=Nat.le_of_ble_eq_true h; omega
    simp only[c1,c2]
    unfold growV copyVal copyN
    rw[if_neg hne,if_neg hne,Nat.zero_add]
    rfl
theorem effK_l {H:Hp} {n:Nat} {te:TypeId} {a:Addr} {cs:List Value} {e':TypeId} {vec:Option Nat} (hl:H.get a.block=some (.cells cs e' false vec)) (op:Hp→Nat→(Value→Hp→Nat→Option ρ)→Option ρ) (k:Value→Hp→Nat→Option ρ) :
    effK P [.l te a] H n op k=op (H.set a.block (some (.cells cs e' true vec))) n (fun v H2 n2=>bindO (match H2.get a.block with | some _=>some (H2.set a.block (H.get a.block)) | none=>none) fun H3=>k v H3 n2):=by
  unfold effK
  simp only[maskXL,hl,bindO_some,maskXA,backXL,backXA,chkX,chkE,Bool.and_self]
  rfl
end Go.Ev
end
section
namespace Go.Ev
open Go
variable {P:Program} {t t2 e e2:TypeId} {ρ:Type}
def InR (H:Hp) (n:Nat) (s:Nat) (v:Value) (len:Nat) (xs:List Int):Prop:=
  xs.length=len * s∧(∀ x ∈ xs,I64 x)∧((v=.slice none 0 0∧len=0)∨∃ b o cap,v=.slice (some ⟨b,o,none⟩) len cap∧len≤cap∧cap<capV∧b<n∧CellsAt H b o (ints xs))
theorem InR.src {H:Hp} {n s len:Nat} {v:Value} {xs:List Int} (h:InR H n s v len xs):SrcR H n s v len xs:=by
  obtain⟨h1,_,h2⟩:=h
  refine⟨h1,?_⟩
  rcases h2 with h2 | ⟨b,o,cap,e,_,_,a1,a2⟩
  · exact .inl h2
  · exact .inr ⟨b,o,cap,e,a1,a2⟩
theorem InR.keep {H H':Hp} {n m s len:Nat} {v:Value} {xs:List Int} (h:InR H n s v len xs) (hk:Keep n H H') (hm:n≤m):InR H' m s v len xs:=by
  obtain⟨h1,h0,h2⟩:=h
  refine⟨h1,h0,?_⟩
  rcases h2 with h2 | ⟨b,o,cap,e,c1,c2,a1,a2⟩
  · exact .inl h2
  · exact .inr ⟨b,o,cap,e,c1,c2,by omega,a2.keep hk a1⟩
theorem CellsAt.drop {H:Hp} {b o k:Nat} {vs:List Value} (h:CellsAt H b o vs):CellsAt H b (o+k) (vs.drop k):=by
  obtain⟨B,c,h1,h2,h3⟩:=h
  refine⟨B,c,h1,h2,fun i v hv=>?_⟩
  rw[List.getElem?_drop] at hv
  rw[Nat.add_assoc]
  exact h3 _ v hv
theorem CellsAt.take {H:Hp} {b o k:Nat} {vs:List Value} (h:CellsAt H b o vs):CellsAt H b o (vs.take k):=by
  obtain⟨B,c,h1,h2,h3⟩:=h
  refine⟨B,c,h1,h2,fun i v hv=>?_⟩
  rw[List.getElem?_take] at hv
  split at hv
  · exact h3 _ v hv
  · cases hv
theorem bnd_in {k y:Nat} (h:k≤y):bndIn (.int .i64 (k:Int)) y=some k:=by
  show bndIn (.int .i64 (.ofNat k)) y=some k
  simp [bndIn,h]
theorem InR.from_ {H:Hp} {n s len k:Nat} {v:Value} {xs:List Int} (h:InR H n s v len xs) (ht:P.underlying t=some (.slice e)) (hs:szT P e=some s) (hk:k<len) :
    ∃ w,sliceV P t v (some (.int .i64 (k:Int))) none=some w∧InR H n s w (len-k) (xs.drop (k * s)):=by
  obtain⟨h1,h0,h2⟩:=h
  rcases h2 with⟨_,h2⟩ | ⟨b,o,cap,rfl,c1,c2,a1,a2⟩
  · omega
  · refine⟨.slice (some ⟨b,o+k * s,none⟩) (len-k) (cap-k),?_,?_,fun x hx=>h0 x (List.mem_of_mem_drop hx),.inr ⟨b,o+k * s,cap-k,rfl,by omega,by omega,a1,?_⟩⟩
    · unfold sliceV
      simp only[ht,hs]
      rw[if_pos c2,if_pos c1]
      unfold boundsV hiV loV
      simp only[bnd_in (Nat.le_of_lt hk)]
      rw[if_neg (by omega)]
      rfl
    · rw[List.length_drop,h1,Nat.sub_mul]
    · have:=a2.drop (k:=k * s)
      unfold ints at this ⊢
      rw[List.map_drop]
      exact this
theorem InR.to_ {H:Hp} {n s len k:Nat} {v:Value} {xs:List Int} (h:InR H n s v len xs) (ht:P.underlying t=some (.slice e)) (hs:szT P e=some s) (hk:k<len) :
    ∃ w,sliceV P t v none (some (.int .i64 (k:Int)))=some w∧InR H n s w k (xs.take (k * s)):=by
  obtain⟨h1,h0,h2⟩:=h
  rcases h2 with⟨_,h2⟩ | ⟨b,o,cap,rfl,c1,c2,a1,a2⟩
  · omega
  · refine⟨.slice (some ⟨b,o+0 * s,none⟩) k cap,?_,?_,fun x hx=>h0 x (List.mem_of_mem_take hx),.inr ⟨b,o+0 * s,cap,rfl,by omega,by omega,a1,?_⟩⟩
    · unfold sliceV
      simp only[ht,hs]
      rw[if_pos c2,if_pos c1]
      unfold boundsV hiV loV
      simp only[bnd_in (show k≤cap by omega)]
      rw[if_neg (by omega)]
      rfl
    · rw[List.length_take,h1,Nat.min_eq_left (Nat.mul_le_mul_right _ (by omega))]
    · have:=a2.take (k:=k * s)
      unfold ints at this ⊢
      rw[List.map_take,Nat.zero_mul]
      exact this
theorem append_many {H:Hp} {n m s len cnt bt:Nat} {y z:Value} {xs ys:List Int} (hx:xs.length=len * s) (a4:H.get m=some (.cells (ints xs) e false (some s))) (h1:sliceElem P t=some e) (h2:sliceElem P t2=some e2)
    (hs:szT P e=some s) (hb:bytesT P e=some bt) (hz:zeroT P e=some z) (hzl:(cellsV z).length=s) (hsrc:srcCells H s y=some (ints ys,cnt)) (big:bigOk (len+cnt) s bt=true) :
    ∃ H',appendV P (bare H n) t t2 (.slice (some ⟨m,0,none⟩) len capV) y=some (.slice (some ⟨n,0,none⟩) (len+cnt) capV,bare H' (n+1)) ∧
      H'.get n=some (.cells (ints (xs++ys)) e false (some s))∧∀ b,b<n→b≠m→H'.get b=H.get b:=by
  have hbeq:Nat.beq (cellsV z).length s=true:=by rw[hzl]; exact Nat.beq_refl s
  have hold:=loadN_none H m 0 (len * s) (L:=xs) ⟨_,_,a4,rfl,fun k v h=>by simpa using h⟩ hx
  have c1:Nat.blt capV capV=false:=by decide +kernel
  have c2:Nat.beq capV capV=true:=Nat.beq_refl _
  have c3:Nat.beq e e=true:=Nat.beq_refl _
  have c4:Nat.beq s s=true:=Nat.beq_refl _
  refine⟨(H.set m none).set n (some (.cells (ints xs++ints ys) e false (some s))),?_,by rw[Tr.get_set,if_pos rfl,ints_append],fun b' hb' hne=>?_⟩
  · unfold appendV
    simp only[h1,h2,hs,hb,hz,bare,hsrc,hbeq,hold,big]
    unfold appendTo
    simp only[c1,c2,a4,c3,c4,ints_leaf,Bool.and_self]
    rfl
  · rw[Tr.get_set,if_neg (by omega),Tr.get_set,if_neg hne]
end Go.Ev
end
section
namespace Go.Proofs.Ytmpnblcfpdnlmaa.spec
open Go Go.Ev Go.Proofs.Ytmpnblcfpdnlmaa.nestFits Go.Proofs.Ytmpnblcfpdnlmaa.G
set_option maxRecDepth 100000
variable {ρ:Type}
theorem or_rem {np kk i:Nat} (hk:kk<np) (hi:i<np) (t:TypeId) (x y:Operand):binV P .rem t x y (.int .i64 ((i:Int)+(np:Int)-(kk:Int))) (.int .i64 (np:Int))=some (.int .i64 ((rotS np kk i:Nat):Int)):=by
  rw[bin_rem (by omega),show(i:Int)+(np:Int)-(kk:Int)=((i+np-kk:Nat):Int) by omega,rem_small (by omega)]
  rfl
theorem or_pair {X:List Int} {np i b:Nat} {H:Hp} (hX:X.length=16) (np8:np≤8) (hi:i<np) (hc:CellsAt H b 0 (ints (X.take (np * 2)))):loadV P H 53 ⟨b,0+i * 2,none⟩=some (.agg ⟨[.int .i64 (X.getD (i * 2) 0),.int .i64 (X.getD (i * 2+1) 0)]⟩):=by
  have tk:∀ j,j<np * 2→(X.take (np * 2)).getD j 0=X.getD j 0:=fun j hj=>getD_take hj
  have hl:(X.take (np * 2)).length=np * 2:=by rw[List.length_take]; omega
  rw[loadV_agg hc agg53 sz53 (by rw[ints_length]; omega) (ints_noHole _),two_at (by omega),tk _ (by omega),tk _ (by omega)]
theorem order_loop (c:Cal) (k:Nat) (Hawake:∀(H:Hp) (n:Nat) (k:Value→Hp→Nat→Res),callFK P c 16 [] H n k=k (.bool true) H n)
    {np kk ba bb ca cb n:Nat} {X Y:List Int} {H:Hp} (np8:np≤8) (hk:kk<np) (hX:X.length=16) (hY:Y.length=16) (hXY:∀ q,q<np→Y.getD (rotS np kk q * 2) 0=X.getD (q * 2) 0∧Y.getD (rotS np kk q * 2+1) 0=X.getD (q * 2+1) 0)
    (ha:CellsAt H ba 0 (ints (X.take (np * 2)))) (hb:CellsAt H bb 0 (ints (Y.take (np * 2)))) :
    ∀(m i:Nat),i≤np→np-i≤m→∃ H' n',S14_2 c k m (.int .i64 np) (.int .i64 kk) (.slice (some ⟨ba,0,none⟩) np ca) (.slice (some ⟨bb,0,none⟩) np cb) (.int .i64 i) H n=some (.bool true,H',n'):=by
  have body:∀(b2:Value→Value→Value→Value→Value→Hp→Nat→Res) (m i:Nat),i≤np →
      (i<np→∃ H' n',b2 (.int .i64 np) (.int .i64 kk) (.slice (some ⟨ba,0,none⟩) np ca) (.slice (some ⟨bb,0,none⟩) np cb) (.int .i64 ((i+1:Nat):Int)) H n=some (.bool true,H',n')) →
      ∃ H' n',C14_2 c k m b2 (.int .i64 np) (.int .i64 kk) (.slice (some ⟨ba,0,none⟩) np ca) (.slice (some ⟨bb,0,none⟩) np cb) (.int .i64 i) H n=some (.bool true,H',n'):=by
    intro b2 m i hi ih
    unfold C14_2 B14_2
    rw[binK_some bin_lss,ifK_d]
    by_cases hlt:i<np
    · have hI:I64 ((i:Int)+1):=by unfold I64; omega
      have hI1:I64 ((i:Int)+(np:Int)):=by unfold I64; omega
      have hI2:I64 ((i:Int)+(np:Int)-(kk:Int)):=by unfold I64; omega
      have hcast:((i:Int)+1)=((i+1:Nat):Int):=by omega
      have hs:rotS np kk i<np:=Nat.mod_lt _ (by omega)
      obtain⟨e0,e1⟩:=hXY i hlt
      rw[if_pos (by omega),binK_some (bin_add hI1),binK_some (bin_sub hI2),binK_some (or_rem hk hlt _ _ _),at45 _ _ _ hs,bindO_some,addrV_eq,bindO_some,or_pair hY np8 hs hb,bindO_some,at45 _ _ _ hlt,bindO_some,addrV_eq,bindO_some,or_pair hX np8 hlt ha,bindO_some,e0,e1,
        binK_some (neq53 _ _ _ _),ifK_f,binK_some (bin_add hI),hcast]
      exact ih hlt
    · rw[if_neg (by omega),Hawake]
      exact⟨_,_,rfl⟩
  intro m
  induction m with
  | zero=>
    intro i h1 h2
    exact body _ 0 i h1 (fun h=>by omega)
  | succ m ih=>
    intro i h1 h2
    exact body _ (m+1) i h1 (fun h=>ih (i+1) (by omega) (by omega))
end Go.Proofs.Ytmpnblcfpdnlmaa.spec
end
section
namespace Go.Proofs.Ytmpnblcfpdnlmaa.spec
open Go Go.Ev Go.Proofs.Ytmpnblcfpdnlmaa.nestFits Go.Proofs.Ytmpnblcfpdnlmaa.G
set_option maxRecDepth 100000
variable {ρ:Type}
theorem ez_zero26:zeroT P 26=some (.agg ⟨[.slice none 0 0,.slice none 0 0,.slice none 0 0]⟩):=by kernel_rfl
theorem ez_row22:rowOf P 22 0 []=some ([],95):=by kernel_rfl
theorem ez_sl22:sliceElem P 22=some 95:=by kernel_rfl
theorem ez_by95:bytesT P 95=some 16:=by kernel_rfl
theorem ez_zero95:zeroT P 95=some (.agg ⟨[.int .i64 0,.int .i64 0]⟩):=by kernel_rfl
theorem ez_sz22:szT P 22=some 1:=by kernel_rfl
theorem ez_store26 (H:Hp) (b o:Nat) (u v w:Value):storeP P 26 (.pointer (some ⟨b,o,none⟩)) (.agg ⟨[u,v,w]⟩) H=storeN H ⟨b,o,none⟩ [u,v,w]:=by kernel_rfl
theorem ez_three {H:Hp} {b:Nat} {e:TypeId} {vec:Option Nat} {p q r u v w:Value} (h:H.get b=some (.cells [p,q,r] e false vec)) (hu:leafV u=true) (hv:leafV v=true) (hw:leafV w=true) :
    storeN H ⟨b,0,none⟩ [u,v,w]=some (H.set b (some (.cells [u,v,w] e false vec))):=by
  unfold storeN
  simp only[h,List.all_cons,List.all_nil,hu,hv,hw,Bool.and_self]
  rfl
theorem ez_first {H:Hp} {b:Nat} {e:TypeId} {vec:Option Nat} {p q r u:Value} (h:H.get b=some (.cells [p,q,r] e false vec)) (hu:leafV u=true) :
    storeN H ⟨b,0+0,none⟩ [u]=some (H.set b (some (.cells [u,q,r] e false vec))):=by
  unfold storeN
  simp only[h,List.all_cons,List.all_nil,hu,Bool.and_self]
  rfl
theorem ez_leaf {H:Hp} {n s len:Nat} {v:Value} {xs:List Int} (h:SliceI H n s v len xs):leafV v=true:=by
  rcases h.2.2 with⟨rfl,_⟩ | ⟨b,o,cap,rfl,_⟩ <;> rfl
theorem vec_slice {H:Hp} {n s m len:Nat} {e:TypeId} {vec:Option Nat} {xs:List Int} (hl:xs.length=len * s) (hx:∀ x ∈ xs,I64 x) (hm:m<n) (hlc:len≤capV) (h:H.get m=some (.cells (ints xs) e false vec)):SliceI H n s (.slice (some ⟨m,0,none⟩) len capV) len xs:=
  ⟨hl,hx,.inr ⟨m,0,capV,rfl,hlc,Nat.le_refl _,hm,.inr (cells_at h)⟩⟩
noncomputable def ezN (np nj nk:Nat) (ps js ks:List Int):Int:=match bestL ps js ks nj np nk with
  | some M=>cntI M 8
  | none=>0
noncomputable def ezE (np nj nk:Nat) (ps js ks:List Int):Int:=match bestL ps js ks nj np nk with
  | some _=>0
  | none=>10
theorem ezE_or (np nj nk:Nat) (ps js ks:List Int):ezE np nj nk ps js ks=0∨ezE np nj nk ps js ks=10:=by
  unfold ezE
  cases bestL ps js ks nj np nk <;> simp
end Go.Proofs.Ytmpnblcfpdnlmaa.spec
end
section
namespace Go.Proofs.Ytmpnblcfpdnlmaa.spec
open Go Go.Ev Go.Proofs.Ytmpnblcfpdnlmaa.nestFits Go.Proofs.Ytmpnblcfpdnlmaa.G
set_option maxRecDepth 100000
set_option linter.unusedVariables false
variable {ρ:Type}
noncomputable def E14o (c:Cal) (j2:Value→Value→Value→Value→Value→Hp→Nat→Res) (u7 u8 v_3v v_3w v_49 v_4a v_4n v_4o v_52 v_53:Value) (H_4y:Hp) (n_4z:Nat):Res:=
binK P BinOp.neq 29 (Operand.tmp 122) (Operand.const (Value.int IntKind.i64 0)) v_3w (Value.int IntKind.i64 0) fun v_58=>
guardK v_58 false (fun k_5a=>
k_5a v_4a H_4y n_4z) H_4y n_4z fun v_5b H_5c n_5d=>
guardK v_58 false (fun k_5f=>
binK P BinOp.neq 29 (Operand.tmp 125) (Operand.const (Value.int IntKind.i64 0)) v_5b (Value.int IntKind.i64 0) fun v_5j=>
k_5f v_5j H_5c n_5d) H_5c n_5d fun v_5g H_5h n_5i=>
bindO (pickV v_58 (Value.bool true) v_5g) fun v_5k=>
guardK v_5k false (fun k_5m=>
k_5m v_3v H_5h n_5i) H_5h n_5i fun v_5n H_5o n_5p=>
guardK v_5k false (fun k_5r=>
bindO (lenV P 45 v_5n) fun v_5v=>
k_5r v_5v H_5o n_5p) H_5o n_5p fun v_5s H_5t n_5u=>
guardK v_5k false (fun k_5w=>
k_5w u7 H_5t n_5u) H_5t n_5u fun v_5x H_5y n_5z=>
guardK v_5k false (fun k_61=>
binK P BinOp.neq 3 (Operand.tmp 130) (Operand.tmp 131) v_5s v_5x fun v_65=>
k_61 v_65 H_5y n_5z) H_5y n_5z fun v_62 H_63 n_64=>
bindO (pickV v_5k (Value.bool true) v_62) fun v_66=>
guardK v_66 false (fun k_68=>
k_68 v_49 H_63 n_64) H_63 n_64 fun v_69 H_6a n_6b=>
guardK v_66 false (fun k_6d=>
bindO (lenV P 45 v_69) fun v_6h=>
k_6d v_6h H_6a n_6b) H_6a n_6b fun v_6e H_6f n_6g=>
guardK v_66 false (fun k_6i=>
k_6i u7 H_6f n_6g) H_6f n_6g fun v_6j H_6k n_6l=>
guardK v_66 false (fun k_6n=>
binK P BinOp.neq 3 (Operand.tmp 136) (Operand.tmp 137) v_6e v_6j fun v_6r=>
k_6n v_6r H_6k n_6l) H_6k n_6l fun v_6o H_6p n_6q=>
bindO (pickV v_66 (Value.bool true) v_6o) fun v_6s=>
guardK v_6s false (fun k_6u=>
k_6u v_4o H_6p n_6q) H_6p n_6q fun v_6v H_6w n_6x=>
guardK v_6s false (fun k_6z=>
k_6z v_53 H_6w n_6x) H_6w n_6x fun v_70 H_71 n_72=>
guardK v_6s false (fun k_74=>
binK P BinOp.neq 29 (Operand.tmp 141) (Operand.tmp 142) v_6v v_70 fun v_78=>
k_74 v_78 H_71 n_72) H_71 n_72 fun v_75 H_76 n_77=>
bindO (pickV v_6s (Value.bool true) v_75) fun v_79=>
guardK v_79 false (fun k_7b=>
k_7b v_4n H_76 n_77) H_76 n_77 fun v_7c H_7d n_7e=>
guardK v_79 false (fun k_7g=>
k_7g v_52 H_7d n_7e) H_7d n_7e fun v_7h H_7i n_7j=>
guardK v_79 false (fun k_7l=>
binK P BinOp.neq 3 (Operand.tmp 146) (Operand.tmp 147) v_7c v_7h fun v_7p=>
k_7l v_7p H_7i n_7j) H_7i n_7j fun v_7m H_7n n_7o=>
bindO (pickV v_79 (Value.bool true) v_7m) fun v_7q=>
guardK v_7q false (fun k_7s=>
k_7s v_4o H_7n n_7o) H_7n n_7o fun v_7t H_7u n_7v=>
guardK v_7q false (fun k_7x=>
binK P BinOp.neq 29 (Operand.tmp 151) (Operand.const (Value.int IntKind.i64 0)) v_7t (Value.int IntKind.i64 0) fun v_81=>
k_7x v_81 H_7u n_7v) H_7u n_7v fun v_7y H_7z n_80=>
guardK v_7q false (fun k_82=>
k_82 v_7y H_7z n_80) H_7z n_80 fun v_83 H_84 n_85=>
guardK v_83 true (fun k_87=>
k_87 v_4o H_84 n_85) H_84 n_85 fun v_88 H_89 n_8a=>
guardK v_83 true (fun k_8c=>
binK P BinOp.neq 29 (Operand.tmp 154) (Operand.const (Value.int IntKind.i64 10)) v_88 (Value.int IntKind.i64 10) fun v_8g=>
k_8c v_8g H_89 n_8a) H_89 n_8a fun v_8d H_8e n_8f=>
guardK v_7q false (fun k_8h=>
bindO (pickV v_83 v_8d (Value.bool false)) fun v_8l=>
k_8h v_8l H_8e n_8f) H_8e n_8f fun v_8i H_8j n_8k=>
bindO (pickV v_7q (Value.bool true) v_8i) fun v_8m=>
ifK v_8m (
some ((Value.bool false),H_8j,n_8k)) (
j2 u7 u8 v_3v v_49 (Value.int IntKind.i64 0) H_8j n_8k)
noncomputable def O14 (c:Cal) (j2:Value→Value→Value→Value→Value→Hp→Nat→Res) (u1 u3 u7 u8 u9:Value) (H:Hp) (n:Nat):Res:=
bindO (sliceV P 44 u1 (some u8) none) fun v_37=>
bindO (sliceV P 44 u1 none (some u8)) fun v_3a=>
callFK P c 23 [v_37] H n fun v_3b H_3c n_3d=>
stK (appendV P (bare H_3c n_3d) 44 44 v_3b v_3a) fun v_3e H_3f n_3g=>
bindO (addrV u3) fun a_3j=>bindO (loadV P H_3f 26 a_3j) fun v_3i=>
callFK P c 18 [v_3i] H_3f n_3g fun v_3k H_3l n_3m=>
callFK P c 23 [u1] H_3l n_3m fun v_3o H_3p n_3q=>
callFK P c 22 [v_3k,v_3o] H_3p n_3q fun v_3r H_3s n_3t=>
bindO (tupV v_3r 0) fun v_3v=>
bindO (tupV v_3r 1) fun v_3w=>
bindO (addrV u9) fun a_40=>bindO (loadV P H_3s 26 a_40) fun v_3z=>
callFK P c 18 [v_3z] H_3s n_3t fun v_41 H_42 n_43=>
callFK P c 22 [v_41,v_3e] H_42 n_43 fun v_45 H_46 n_47=>
bindO (tupV v_45 0) fun v_49=>
bindO (tupV v_45 1) fun v_4a=>
bindO (addrV u3) fun a_4e=>bindO (loadV P H_46 26 a_4e) fun v_4d=>
callFK P c 18 [v_4d] H_46 n_47 fun v_4f H_4g n_4h=>
callFK P c 42 [v_4f] H_4g n_4h fun v_4i H_4j n_4k=>
bindO (tupV v_4i 0) fun v_4m=>
bindO (tupV v_4i 1) fun v_4n=>
bindO (tupV v_4i 2) fun v_4o=>
bindO (addrV u9) fun a_4t=>bindO (loadV P H_4j 26 a_4t) fun v_4s=>
callFK P c 18 [v_4s] H_4j n_4k fun v_4u H_4v n_4w=>
callFK P c 42 [v_4u] H_4v n_4w fun v_4x H_4y n_4z=>
bindO (tupV v_4x 0) fun v_51=>
bindO (tupV v_4x 1) fun v_52=>
bindO (tupV v_4x 2) fun v_53=>
E14o c j2 u7 u8 v_3v v_3w v_49 v_4a v_4n v_4o v_52 v_53 H_4y n_4z
theorem or_build (a b:Int):buildP P 101 [(0,.int .i64 a),(1,.int .i64 b)]=some (.agg ⟨[.int .i64 a,.int .i64 b]⟩):=by kernel_rfl
theorem or_row23 (a b:Int):rowOf P 23 1 [(0,.agg ⟨[.int .i64 a,.int .i64 b]⟩)]=some (ints [a,b],101):=by kernel_rfl
theorem or_sl23:sliceElem P 23=some 101:=by kernel_rfl
theorem or_by104:bytesT P 101=some 16:=by kernel_rfl
theorem or_zero104:zeroT P 101=some (.agg ⟨[.int .i64 0,.int .i64 0]⟩):=by kernel_rfl
theorem or_sz23:szT P 23=some 1:=by kernel_rfl
theorem or_sz104:szT P 101=some 2:=by kernel_rfl
theorem or_fa0 (b o:Nat):fieldAddrV P 101 (.pointer (some ⟨b,o,none⟩)) 0=some (.pointer (some ⟨b,o+0,none⟩)):=by kernel_rfl
theorem or_fa1 (b o:Nat):fieldAddrV P 101 (.pointer (some ⟨b,o,none⟩)) 1=some (.pointer (some ⟨b,o+1,none⟩)):=by kernel_rfl
theorem ez_second {H:Hp} {b:Nat} {e:TypeId} {vec:Option Nat} {p q r u:Value} (h:H.get b=some (.cells [p,q,r] e false vec)) (hu:leafV u=true) :
    storeN H ⟨b,0+1,none⟩ [u]=some (H.set b (some (.cells [p,u,r] e false vec))):=by
  unfold storeN
  simp only[h,List.all_cons,List.all_nil,hu,Bool.and_self]
  rfl
theorem take_two {l:List Int} {i:Nat} {a b:Int} (h0:l[i]?=some a) (h1:l[i+1]?=some b):l.take (i+2)=l.take i++[a,b]:=by
  rw[show i+2=(i+1)+1 by omega,List.take_add_one,List.take_add_one,h0,h1]
  simp
structure JL (H0:Hp) (N0 xb:Nat) (H:Hp) (n:Nat) (pv z:Value) (rj:List Int) (i:Nat):Prop where
  le:N0≤n
  keep:∀ b,b<N0→b≠xb→H.get b=H0.get b
  jv:∃ v,H.get xb=some (.cells [pv,v,z] 26 false none)∧VecAt H N0 n 2 101 v i (rj.take (i * 2))
theorem order_joins (c:Cal) (k:Nat) {np nj nk kk gb xb N0:Nat} {ps js ks:List Int} {H0:Hp} {x y z pv u1:Value} (good:Good np nj nk ps js ks) (hk:kk<np) (hy:SliceI H0 gb 2 y nj js)
    (hgx:gb<xb) (hxN:xb<N0) (hg:H0.get gb=some (.cells [x,y,z] 26 false none)) :
    ∀(m i:Nat) (H:Hp) (n:Nat),JL H0 N0 xb H n pv z (rotJ np kk js) i→i≤nj→nj-i≤m →
    ∃ H' n',S14_1 c k m u1 (ptr gb) (.int .i64 np) (.int .i64 kk) (ptr xb) (.int .i64 i) H n=O14 c (S14_2 c k k) u1 (ptr gb) (.int .i64 np) (.int .i64 kk) (ptr xb) H' n'∧JL H0 N0 xb H' n' pv z (rotJ np kk js) nj:=by
  have np8:=good.np8
  have nj16:=good.nj16
  have body:∀(b1:Value→Value→Value→Value→Value→Value→Hp→Nat→Res) (m i:Nat) (H:Hp) (n:Nat),JL H0 N0 xb H n pv z (rotJ np kk js) i→i≤nj →
      (∀(H:Hp) (n:Nat),JL H0 N0 xb H n pv z (rotJ np kk js) (i+1)→i<nj→∃ H' n',b1 u1 (ptr gb) (.int .i64 np) (.int .i64 kk) (ptr xb) (.int .i64 ((i+1:Nat):Int)) H n=O14 c (S14_2 c k k) u1 (ptr gb) (.int .i64 np) (.int .i64 kk) (ptr xb) H' n'∧JL H0 N0 xb H' n' pv z (rotJ np kk js) nj) →
      ∃ H' n',C14_1 c k m b1 u1 (ptr gb) (.int .i64 np) (.int .i64 kk) (ptr xb) (.int .i64 i) H n=O14 c (S14_2 c k k) u1 (ptr gb) (.int .i64 np) (.int .i64 kk) (ptr xb) H' n'∧JL H0 N0 xb H' n' pv z (rotJ np kk js) nj:=by
    intro b1 m i H n st hi ih
    obtain⟨le,kp,v,hv,vec⟩:=st
    unfold C14_1
    generalize hJ:S14_2 c k k=J2 at ih ⊢
    unfold B14_1
    have kg:Keep gb H0 H:=fun b hb=>kp b (by omega) (by omega)
    have hy1:SliceI H gb 2 y nj js:=hy.keep kg (Nat.le_refl _)
    have gg:=(kp gb (by omega) (by omega)).trans hg
    have ly:loadV P H 23 ⟨gb,0+1,none⟩=some y:=loadV_scalar (cells_at gg) agg23 rfl hy.hole.1 hy.hole.2
    have hln:lenV P 23 y=some (.int .i64 nj):=hy.len_eq und23
    simp only[ptr]
    rw[fa26_1,bindO_some,addrV_eq,bindO_some,ly,bindO_some,hln,bindO_some,binK_some bin_lss,ifK_d]
    by_cases hlt:i<nj
    · obtain⟨A,B,hA,hB,h1,h2⟩:=good.joins hy.1 i hlt
      obtain⟨bb,o,hix,hbn,hc⟩:=hy1.at_ und23 or_sz104 hlt
      have lv:loadV P H 23 ⟨xb,0+1,none⟩=some v:=loadV_scalar (cells_at hv) agg23 rfl vec.leaf.2.1 vec.leaf.2.2
      have lA:loadV P H 3 ⟨bb,o+i * 2+0,none⟩=some (.int .i64 (A:Int)):=loadV_int (o:=o) (k:=i * 2) hc agg3 (ints_get hA)
      have lB:loadV P H 3 ⟨bb,o+i * 2+1,none⟩=some (.int .i64 (B:Int)):=by
        have:=loadV_int (P:=P) (o:=o) (k:=i * 2+1) hc agg3 (ints_get hB)
        rw[show o+(i * 2+1)=o+i * 2+1 by omega] at this
        exact this
      have hI:I64 ((i:Int)+1):=by unfold I64; omega
      have iA:I64 ((A:Int)+(np:Int)):=by unfold I64; omega
      have iA2:I64 ((A:Int)+(np:Int)-(kk:Int)):=by unfold I64; omega
      have iB:I64 ((B:Int)+(np:Int)):=by unfold I64; omega
      have iB2:I64 ((B:Int)+(np:Int)-(kk:Int)):=by unfold I64; omega
      have hcast:((i:Int)+1)=((i+1:Nat):Int):=by omega
      rw[if_pos (by omega),fa26_1,bindO_some,addrV_eq,bindO_some,lv,bindO_some,bindO_some,addrV_eq,bindO_some,ly,bindO_some,hix,bindO_some,or_fa0,bindO_some,addrV_eq,bindO_some,lA,bindO_some,binK_some (bin_add iA),binK_some (bin_sub iA2),binK_some (or_rem hk h1 _ _ _)]
      simp only[fa26_1,bindO_some,addrV_eq,ly,hix,or_fa1,lB,binK_some (bin_add iB),binK_some (bin_sub iB2),binK_some (or_rem hk h2 _ _ _),or_build,or_row23,newK]
      have r1:∀ b,b<n→(H.set n (some (.cells (ints [((rotS np kk A:Nat):Int),((rotS np kk B:Nat):Int)]) 101 false none))).get b=H.get b:=fun b hb=>by rw[Tr.get_set,if_neg (by omega)]
      have r2:CellsAt (H.set n (some (.cells (ints [((rotS np kk A:Nat):Int),((rotS np kk B:Nat):Int)]) 101 false none))) n 0 (ints [((rotS np kk A:Nat):Int),((rotS np kk B:Nat):Int)]):=CellsAt.new
      generalize H.set n (some (.cells (ints [((rotS np kk A:Nat):Int),((rotS np kk B:Nat):Int)]) 101 false none))=H1 at r1 r2 ⊢
      have vec1:VecAt H1 N0 (n+1) 2 101 v i ((rotJ np kk js).take (i * 2)):=vec.same (by omega) fun b hb _=>r1 b hb
      obtain⟨H2,e2,v2,k2⟩:=append_vec (P:=P) (t:=23) (t2:=23) (cap2:=1) vec1 or_sl23 or_sl23 or_sz104 or_by104 or_zero104 rfl r2 rfl (by omega) (by omega) (by omega) (by omega)
      rw[e2]
      simp only[stK,bindO_some,bare]
      have nb:∀ b,b<N0→¬ blockIs v b:=fun b hb q=>by
        obtain⟨o',l',cp',sp',q⟩:=q
        rcases vec.2 with⟨e,_⟩ | ⟨b',e,a1,_⟩
        · rw[e] at q; cases q
        · rw[e] at q; cases q; omega
      have hv2:H2.get xb=some (.cells [pv,v,z] 26 false none):=((k2 xb (by omega) (nb xb hxN)).trans (r1 xb (by omega))).trans hv
      rw[storeP_leaf or_sz23 rfl,ez_second hv2 rfl,bindO_some,binK_some (bin_add hI),hcast]
      refine ih _ _ ⟨by omega,fun b h1 h2=>?_,_,by rw[Tr.get_set,if_pos rfl],?_⟩ hlt
      · rw[Tr.get_set,if_neg h2,k2 b (by omega) (nb b h1),r1 b (by omega),kp b h1 h2]
      · have:=v2.same (H':=H2.set xb (some (.cells [pv,.slice (some ⟨n+1,0,none⟩) (i+1) capV,z] 26 false none))) (Nat.le_refl _) fun b hb q=>by
          obtain⟨o',l',cp',sp',q⟩:=q
          cases q
          rw[Tr.get_set,if_neg (by omega)]
        rw[show(i+1) * 2=i * 2+2 by omega,take_two (rotJ_get hA) (rotJ_get hB)]
        exact this
    · have:i=nj:=by omega
      subst this
      rw[if_neg (by omega)]
      exact⟨H,n,rfl,le,kp,v,hv,vec⟩
  intro m
  induction m with
  | zero=>
    intro i H n h1 h2 h3
    exact body _ 0 i H n h1 h2 (fun _ _ _ h=>by omega)
  | succ m ih=>
    intro i H n h1 h2 h3
    exact body _ (m+1) i H n h1 h2 (fun H n h4 h5=>ih (i+1) H n h4 (by omega) (by omega))
end Go.Proofs.Ytmpnblcfpdnlmaa.spec
end
section
namespace Go.Proofs.Ytmpnblcfpdnlmaa.spec
open Go Go.Ev Go.Proofs.Ytmpnblcfpdnlmaa.nestFits Go.Proofs.Ytmpnblcfpdnlmaa.G
set_option maxRecDepth 100000
variable {ρ:Type}
theorem inr_list {H:Hp} {n len:Nat} {v:Value} {xs:List Int} (h:InR H n 1 v len xs):ListR H n v len xs:=by
  obtain⟨h1,h0,h2⟩:=h
  refine⟨by omega,h0,?_⟩
  rcases h2 with h2 | ⟨b,o,cap,e,_,_,a1,a2⟩
  · exact .inl h2
  · exact .inr ⟨b,o,cap,e,a1,a2⟩
structure Begun (H0:Hp) (n0:Nat) (H:Hp) (n xb:Nat) (x y z:Value) (np kk:Nat) (ps:List Int):Prop where
  lx:n0<xb
  xn:xb<n
  keep:Keep n0 H0 H
  gx:H.get n0=some (.cells [x,y,z] 26 false none)
  xs:∃ q,xb<q∧q<n∧H.get xb=some (.cells [.slice (some ⟨q,0,none⟩) np capV,.slice none 0 0,z] 26 false none)∧H.get q=some (.cells (ints (rotL 2 kk ps)) 95 false (some 2))
theorem order_start (c:Cal) (j1:Value→Value→Value→Value→Value→Value→Hp→Nat→Res) {np nj nk nl a:Nat} {ps js ks ls:List Int} {H:Hp} {n:Nat} {x y z v1:Value}
    (Hawake:∀(H:Hp) (n:Nat) (k:Value→Hp→Nat→Res),callFK P c 16 [] H n k=k (.bool true) H n)
    (Hready:∀(H:Hp) (n:Nat) (v:Value),GroveI H n v np nj nk ps js ks→ListR H n v1 nl ls→∃(r:Bool) (H':Hp) (n':Nat),(r=true↔thin np nj nk nl∧placedN np nj nk nl ps js ks ls=0)∧(∀ k:Value→Hp→Nat→Res,callFK P c 55 [v,v1] H n k=k (.bool r) H' n')∧n≤n'∧Keep n H H')
    (hg:GroveI H n (.agg ⟨[x,y,z]⟩) np nj nk ps js ks) (ix:InR H n 2 x np ps) (il:InR H n 1 v1 nl ls) (ha:a<256) :
    (∃ H' n',B14_0 c KK j1 (.agg ⟨[x,y,z]⟩) v1 (.int .u8 (a:Int)) H n=some (.bool true,H',n')) ∨
    (placedN np nj nk nl ps js ks ls=0∧∃ xb H' n',B14_0 c KK j1 (.agg ⟨[x,y,z]⟩) v1 (.int .u8 (a:Int)) H n=j1 v1 (ptr n) (.int .i64 np) (.int .i64 ((a % np:Nat):Int)) (ptr xb) (.int .i64 0) H' n'∧Begun H n H' n' xb x y z np (a % np) ps):=by
  obtain⟨x',y',z',hxyz,h1,h2,h3⟩:=hg.eq
  cases hxyz
  unfold B14_0
  rw[boxK_eq]
  simp only[cellsV,ptr]
  have hk:Keep n H (H.set n (some (.cells [x,y,z] 26 false none))):=(Keep.refl n H).set (Nat.le_refl _) _
  have g1:(H.set n (some (.cells [x,y,z] 26 false none))).get n=some (.cells [x,y,z] 26 false none):=by rw[Tr.get_set,if_pos rfl]
  generalize H.set n (some (.cells [x,y,z] 26 false none))=H1 at hk g1 ⊢
  have ld26:∀ H2:Hp,H2.get n=some (.cells [x,y,z] 26 false none)→loadV P H2 26 ⟨n,0,none⟩=some (.agg ⟨[x,y,z]⟩):=fun H2 h=>load26 (cells_at h) h1.hole.1 h2.hole.1 h3.hole.1
  have ld22:∀ H2:Hp,H2.get n=some (.cells [x,y,z] 26 false none)→loadV P H2 22 ⟨n,0+0,none⟩=some x:=fun H2 h=>loadV_scalar (cells_at h) agg22 rfl h1.hole.1 h1.hole.2
  have lx:leafV x=true:=ez_leaf h1
  have ly:leafV y=true:=ez_leaf h2
  have lz:leafV z=true:=ez_leaf h3
  obtain⟨t,H2,n2,t1,t2,t3,t4⟩:=Hready H1 (n+1) _ (hg.keep hk (by omega)) ((inr_list il).keep hk (by omega))
  rw[addrV_eq,bindO_some,ld26 H1 g1,bindO_some,t2]
  cases t with
  | false=>
    refine .inl ?_
    simp only[not_f,bindO_some,ifK_t,Hawake]
    exact⟨_,_,rfl⟩
  | true=>
    refine .inr ?_
    obtain⟨ht,hp⟩:=t1.1 rfl
    obtain⟨good,hnl,hok⟩:=placed_zero hp
    subst hnl
    refine⟨hp,n2,?_⟩
    have np8:=good.np8
    have np0:=good.np1
    have hkk:a % nl<nl:=Nat.mod_lt _ (by omega)
    have n2k:Keep n H H2:=hk.trans t4 (by omega)
    have g2:=(t4 n (by omega)).trans g1
    have ca:I64 (a:Int):=by unfold I64; omega
    have hrem:binV P .rem 3 (.tmp 31) (.tmp 32) (.int .i64 (a:Int)) (.int .i64 (nl:Int))=some (.int .i64 ((a % nl:Nat):Int)):=by
      rw[bin_rem (by omega),rem_small np0]
    rw[not_t,bindO_some,ifK_f,(inr_list il).len_eq,bindO_some,conv53 ca,bindO_some,binK_some hrem,bindO_some,ld26 H2 g2,bindO_some,allocK_eq ez_zero26]
    simp only[cellsV,ptr]
    generalize a % nl=kk at hkk ⊢
    have l3:∀ b,b<n2→(H2.set n2 (some (.cells [.slice none 0 0,.slice none 0 0,.slice none 0 0] 26 false none))).get b=H2.get b:=fun b hb=>by rw[Tr.get_set,if_neg (by omega)]
    have x3:(H2.set n2 (some (.cells [.slice none 0 0,.slice none 0 0,.slice none 0 0] 26 false none))).get n2=some (.cells [.slice none 0 0,.slice none 0 0,.slice none 0 0] 26 false none):=by rw[Tr.get_set,if_pos rfl]
    generalize H2.set n2 (some (.cells [.slice none 0 0,.slice none 0 0,.slice none 0 0] 26 false none))=H3 at l3 x3 ⊢
    rw[ez_store26,ez_three x3 lx ly lz,bindO_some]
    have l4:∀ b,b<n2→(H3.set n2 (some (.cells [x,y,z] 26 false none))).get b=H2.get b:=fun b hb=>by rw[Tr.get_set,if_neg (by omega),l3 b hb]
    have x4:(H3.set n2 (some (.cells [x,y,z] 26 false none))).get n2=some (.cells [x,y,z] 26 false none):=by rw[Tr.get_set,if_pos rfl]
    generalize H3.set n2 (some (.cells [x,y,z] 26 false none))=H4 at l4 x4 ⊢
    rw[ez_row22,bindO_some]
    simp only[newK]
    have l5:∀ b,b<n2+1→(H4.set (n2+1) (some (.cells [] 95 false none))).get b=H4.get b:=fun b hb=>by rw[Tr.get_set,if_neg (by omega)]
    have b5:(H4.set (n2+1) (some (.cells [] 95 false none))).get (n2+1)=some (.cells [] 95 false none):=by rw[Tr.get_set,if_pos rfl]
    generalize H4.set (n2+1) (some (.cells [] 95 false none))=H5 at l5 b5 ⊢
    have g5:=((l5 n (by omega)).trans (l4 n (by omega))).trans g2
    have x5:=(l5 n2 (by omega)).trans x4
    have n5:Keep n H H5:=fun b hb=>((l5 b (by omega)).trans (l4 b (by omega))).trans (n2k b hb)
    obtain⟨w1,e1,i1⟩:=(ix.keep n5 (Nat.le_refl _)).from_ und22 sz95 hkk
    obtain⟨w2,e2,i2⟩:=(ix.keep n5 (Nat.le_refl _)).to_ und22 sz95 hkk
    rw[fa26_0,bindO_some,addrV_eq,bindO_some,ld22 H5 g5,bindO_some,e1,bindO_some,bindO_some,addrV_eq,bindO_some,ld22 H5 g5,bindO_some,e2,bindO_some,effK_l (a:=⟨n,0+0,none⟩) g5]
    have hm:∀ b,b≠n→(H5.set n (some (.cells [x,y,z] 26 true none))).get b=H5.get b:=fun b hb=>by rw[Tr.get_set,if_neg hb]
    have hmg:(H5.set n (some (.cells [x,y,z] 26 true none))).get n=some (.cells [x,y,z] 26 true none):=by rw[Tr.get_set,if_pos rfl]
    generalize H5.set n (some (.cells [x,y,z] 26 true none))=Hm at hm hmg ⊢
    have km:Keep n H5 Hm:=fun b hb=>hm b (by omega)
    obtain⟨H6,e6,k6,c6⟩:=append_copy (P:=P) (t:=22) (t2:=22) (n:=n2+2) ((hm (n2+1) (by omega)).trans b5) ez_sl22 ez_sl22 sz95 ez_by95 ez_zero95 rfl ((i1.keep km (by omega)).src) (by
      unfold bigOk
      have:decide (nl-kk<1048576)=true:=decide_eq_true (by omega)
      simp [this])
    have hne:nl-kk≠0:=by omega
    have ev:copyVal (n2+1) (n2+2) (nl-kk)=.slice (some ⟨n2+2,0,none⟩) (nl-kk) capV:=if_neg hne
    have en:copyN (n2+2) (nl-kk)=n2+3:=if_neg hne
    rw[ev,en] at e6
    rw[e6]
    simp only[stK,bindO_some,bare]
    have g6:=(k6 n (by omega)).trans hmg
    simp only[g6,bindO_some,g5]
    have l7:∀ b,b<n2+2→(H6.set n (some (.cells [x,y,z] 26 false none))).get b=H5.get b:=fun b hb=>by
      by_cases q:b=n
      · rw[q,Tr.get_set,if_pos rfl,g5]
      · rw[Tr.get_set,if_neg q,k6 b hb,hm b q]
    have c7:(H6.set n (some (.cells [x,y,z] 26 false none))).get (n2+2)=some (.cells (ints (ps.drop (kk * 2))) 95 false (some 2)):=by rw[Tr.get_set,if_neg (by omega)]; exact c6.2.2 hne
    generalize H6.set n (some (.cells [x,y,z] 26 false none))=H7 at l7 c7 ⊢
    have k7:Keep n H5 H7:=fun b hb=>l7 b (by omega)
    obtain⟨H8,e8,q8,k8⟩:=append_many (P:=P) (t:=22) (t2:=22) (n:=n2+3) (len:=nl-kk) (cnt:=kk) c6.1 c7 ez_sl22 ez_sl22 sz95 ez_by95 ez_zero95 rfl ((i2.keep k7 (Nat.le_refl _)).src.src) (by
      unfold bigOk
      have:decide (nl-kk+kk<1048576)=true:=decide_eq_true (by omega)
      simp [this])
    rw[show nl-kk+kk=nl by omega] at e8
    simp only[bare] at e8
    rw[e8]
    simp only[bindO_some]
    have l8:∀ b,b<n2+2→H8.get b=H5.get b:=fun b hb=>(k8 b (by omega) (by omega)).trans (l7 b hb)
    have x8:=(l8 n2 (by omega)).trans x5
    rw[fa26_0,bindO_some,storeP_leaf ez_sz22 rfl,ez_first x8 rfl,bindO_some]
    have l9:∀ b,b≠n2→(H8.set n2 (some (.cells [.slice (some ⟨n2+3,0,none⟩) nl capV,y,z] 26 false none))).get b=H8.get b:=fun b hb=>by rw[Tr.get_set,if_neg hb]
    have x9:(H8.set n2 (some (.cells [.slice (some ⟨n2+3,0,none⟩) nl capV,y,z] 26 false none))).get n2=some (.cells [.slice (some ⟨n2+3,0,none⟩) nl capV,y,z] 26 false none):=by rw[Tr.get_set,if_pos rfl]
    generalize H8.set n2 (some (.cells [.slice (some ⟨n2+3,0,none⟩) nl capV,y,z] 26 false none))=H9 at l9 x9 ⊢
    rw[fa26_1,bindO_some,storeP_leaf or_sz23 rfl,ez_second x9 rfl,bindO_some]
    refine⟨_,_,rfl,by omega,by omega,fun b hb=>?_,?_,n2+3,by omega,by omega,by rw[Tr.get_set,if_pos rfl],?_⟩
    · rw[Tr.get_set,if_neg (by omega),l9 b (by omega),l8 b (by omega)]; exact n5 b hb
    · rw[Tr.get_set,if_neg (by omega),l9 n (by omega),l8 n (by omega)]; exact g5
    · rw[Tr.get_set,if_neg (by omega),l9 _ (by omega)]; exact q8
end Go.Proofs.Ytmpnblcfpdnlmaa.spec
end
section
namespace Go.Proofs.Ytmpnblcfpdnlmaa.spec
open Go Go.Ev Go.Proofs.Ytmpnblcfpdnlmaa.nestFits Go.Proofs.Ytmpnblcfpdnlmaa.G
set_option maxRecDepth 100000
variable {ρ:Type}
theorem or_sl44:sliceElem P 44=some 3:=by kernel_rfl
theorem or_by3:bytesT P 3=some 8:=by kernel_rfl
theorem or_zero3:zeroT P 3=some (.int .i64 0):=by kernel_rfl
theorem or_sz3:szT P 3=some 1:=by kernel_rfl
theorem order_end (c:Cal) (j2:Value→Value→Value→Value→Value→Hp→Nat→Res) {np ba ca bb cb:Nat} {kk:Value} {u h:Int} (hh:h=0∨h=10) (H:Hp) (n:Nat) :
    E14o c j2 (.int .i64 np) kk (.slice (some ⟨ba,0,none⟩) np ca) (.int .i64 0) (.slice (some ⟨bb,0,none⟩) np cb) (.int .i64 0) (.int .i64 u) (.int .i64 h) (.int .i64 u) (.int .i64 h) H n=j2 (.int .i64 np) kk (.slice (some ⟨ba,0,none⟩) np ca) (.slice (some ⟨bb,0,none⟩) np cb) (.int .i64 0) H n:=by
  unfold E14o
  rcases hh with rfl | rfl <;>
    simp only[binK_some bin_neq,eq_self,decide_true,decide_false,Int.reduceEq,Bool.not_true,Bool.not_false,ifK_f,guardK_tt,guardK_ff,guardK_ft,bindO_some,pickV_t,pickV_f,len45_s]
theorem order_tail (c:Cal) (J2:Value→Value→Value→Value→Value→Hp→Nat→Res)
    (Hgrove:∀ {np nj nk:Nat} {ps js ks:List Int} (H:Hp) (n:Nat) (v:Value),GroveI H n v np nj nk ps js ks→np≤100→nj≤100→nk≤100→∃ u H' n',(∀ k:Value→Hp→Nat→Res,callFK P c 18 [v] H n k=k u H' n')∧n≤n'∧Keep n H H'∧GroveP H' n' u np nj nk ps js ks)
    (Hown:∀ {len:Nat} {xs:List Int} (H:Hp) (n:Nat) (w:Value),ListR H n w len xs→len≠0→len≤1000→∃ b H' n',(∀ k:Value→Hp→Nat→Res,callFK P c 23 [w] H n k=k (.slice (some ⟨b,0,none⟩) len capV) H' n')∧n≤b∧b<n'∧Keep n H H'∧H'.get b=some (.cells (ints xs) 3 false (some 1)))
    (HB:∀ {np nj nk:Nat} {ps js ks ls:List Int},placedN np nj nk np ps js ks ls=0→np≤8→nj≤16→nk≤3→BoundsCall c np nj nk ps js ks ls)
    (Hbest:∀ {np nj nk:Nat} {ps js ks:List Int} (H:Hp) (n:Nat) (v:Value),GroveI H n v np nj nk ps js ks→faultN np nj nk ps js ks=0→∃ gv H1 n1 w H' n',(∀ k:Value→Hp→Nat→Res,callFK P c 18 [v] H n k=k gv H1 n1) ∧
      (∀ k:Value→Hp→Nat→Res,callFK P c 42 [gv] H1 n1 k=k (.tuple ⟨[w,.int .i64 (ezN np nj nk ps js ks),.int .i64 (ezE np nj nk ps js ks)]⟩) H' n')∧n≤n'∧Keep n H H')
    (Hloop:∀ {np kk ba bb ca cb n:Nat} {X Y:List Int} {H:Hp},np≤8→kk<np→X.length=16→Y.length=16→(∀ q,q<np→Y.getD (rotS np kk q * 2) 0=X.getD (q * 2) 0∧Y.getD (rotS np kk q * 2+1) 0=X.getD (q * 2+1) 0) →
      CellsAt H ba 0 (ints (X.take (np * 2)))→CellsAt H bb 0 (ints (Y.take (np * 2)))→∃ H' n',J2 (.int .i64 np) (.int .i64 kk) (.slice (some ⟨ba,0,none⟩) np ca) (.slice (some ⟨bb,0,none⟩) np cb) (.int .i64 0) H n=some (.bool true,H',n'))
    {np nj nk kk gb xb n:Nat} {ps js ks ls:List Int} {H:Hp} {x y z x2 y2 v1:Value} (hp:placedN np nj nk np ps js ks ls=0) (hk:kk<np) (hg:GroveI H n (.agg ⟨[x,y,z]⟩) np nj nk ps js ks) (hx:GroveI H n (.agg ⟨[x2,y2,z]⟩) np nj nk (rotL 2 kk ps) (rotJ np kk js) ks)
    (il:InR H n 1 v1 np ls) (cg:H.get gb=some (.cells [x,y,z] 26 false none)) (cx:H.get xb=some (.cells [x2,y2,z] 26 false none)) (gn:gb<n) (xn:xb<n) :
    ∃ H' n',O14 c J2 v1 (ptr gb) (.int .i64 np) (.int .i64 kk) (ptr xb) H n=some (.bool true,H',n'):=by
  obtain⟨good,_,hok⟩:=placed_zero hp
  have np8:=good.np8
  have nj16:=good.nj16
  have nk3:=good.nk3
  have np0:=good.np1
  have he:faultN np nj nk ps js ks=0:=by
    refine Classical.byContradiction fun h=>?_
    unfold placedN at hp
    rw[if_pos h] at hp
    exact h hp
  obtain⟨x',y',z',hxyz,h1,h2,h3⟩:=hg.eq
  cases hxyz
  obtain⟨x',y',z',hxyz,g1,g2,g3⟩:=hx.eq
  cases hxyz
  have tn:=rot_turn good h2.1 hk
  have he2:faultN np nj nk (rotL 2 kk ps) (rotJ np kk js) ks=0:=rot_fault he h1.1 h2.1 hk
  have lls:ls.length=np:=by have:=il.1; omega
  have lr:(rotL 1 kk ls).length=np:=by rw[rotL_len]; exact lls
  have hm:∀ p,p<np→(rotL 1 kk ls).getD (rotS np kk p) 0=ls.getD p 0:=fun p hp=>rotL_get1 lls hk hp
  have ok2:laidOk (rotJ np kk js) ks (rotL 1 kk ls) nj np nk:=turn_laid tn np8 hm hok
  have hp2:placedN np nj nk np (rotL 2 kk ps) (rotJ np kk js) ks (rotL 1 kk ls)=0:=by
    unfold placedN
    rw[if_neg (by omega),if_pos ⟨rfl,ok2⟩]
  have ldg:∀ H2:Hp,H2.get gb=some (.cells [x,y,z] 26 false none)→loadV P H2 26 ⟨gb,0,none⟩=some (.agg ⟨[x,y,z]⟩):=fun H2 h=>load26 (cells_at h) h1.hole.1 h2.hole.1 h3.hole.1
  have ldx:∀ H2:Hp,H2.get xb=some (.cells [x2,y2,z] 26 false none)→loadV P H2 26 ⟨xb,0,none⟩=some (.agg ⟨[x2,y2,z]⟩):=fun H2 h=>load26 (cells_at h) g1.hole.1 g2.hole.1 g3.hole.1
  obtain⟨w1,e1,i1⟩:=il.from_ und44 or_sz3 hk
  obtain⟨w2,e2,i2⟩:=il.to_ und44 or_sz3 hk
  obtain⟨b1,H1,n1,a1,a2,a3,a4,a5⟩:=Hown H n w1 (inr_list i1) (by omega) (by omega)
  obtain⟨H2,e3,q2,k2⟩:=append_many (P:=P) (t:=44) (t2:=44) (n:=n1) (len:=np-kk) (cnt:=kk) i1.1 a5 or_sl44 or_sl44 or_sz3 or_by3 or_zero3 rfl ((i2.keep a4 (Nat.le_refl _)).src.src) (by
    unfold bigOk
    have:decide (np-kk+kk<1048576)=true:=decide_eq_true (by omega)
    simp [this])
  rw[show np-kk+kk=np by omega] at e3
  have K2:Keep n H H2:=fun b hb=>(k2 b (by omega) (by omega)).trans (a4 b hb)
  have hmv:ListR H2 (n1+1) (.slice (some ⟨n1,0,none⟩) np capV) np (rotL 1 kk ls):=by
    refine⟨lr,fun v hv=>?_,.inr ⟨n1,0,capV,rfl,by omega,cells_at q2⟩⟩
    unfold rotL at hv
    rcases List.mem_append.1 hv with h | h
    · exact il.2.1 v (List.mem_of_mem_drop h)
    · exact il.2.1 v (List.mem_of_mem_take h)
  obtain⟨gv,H3,n3,c1,c2,c3,c4⟩:=Hgrove H2 (n1+1) _ (hg.keep K2 (by omega)) (by omega) (by omega) (by omega)
  have K3:Keep n H H3:=K2.trans c3 (by omega)
  obtain⟨b4,H4,n4,d1,d2,d3,d4,d5⟩:=Hown H3 n3 v1 ((inr_list il).keep K3 (by omega)) (by omega) (by omega)
  have K4:Keep n H H4:=K3.trans d4 (by omega)
  have hlv:ListR H4 n4 (.slice (some ⟨b4,0,none⟩) np capV) np ls:=⟨lls,il.2.1,.inr ⟨b4,0,capV,rfl,d3,cells_at d5⟩⟩
  obtain⟨ba,ca,X,H5,n5,f1,f2,f3,f4,f5,f6⟩:=HB hp np8 nj16 nk3 H4 n4 gv _ (c4.keep d4 (by omega)) hlv
  have K5:Keep n H H5:=K4.trans f3 (by omega)
  have m5:Keep (n1+1) H2 H5:=(c3.trans d4 (by omega)).trans f3 (by omega)
  obtain⟨xv,H6,n6,r1,r2,r3,r4⟩:=Hgrove H5 n5 _ (hx.keep K5 (by omega)) (by omega) (by omega) (by omega)
  have m6:Keep (n1+1) H2 H6:=m5.trans r3 (by omega)
  obtain⟨bb,cb,Y,H7,n7,s1,s2,s3,s4,s5,s6⟩:=HB hp2 np8 nj16 nk3 H6 n6 xv _ r4 (hmv.keep m6 (by omega))
  have K7:Keep n H H7:=(K5.trans r3 (by omega)).trans s3 (by omega)
  have p7:Keep n5 H5 H7:=r3.trans s3 (by omega)
  obtain⟨t1,H8,n8,t2,H9,n9,o1,o2,o3,o4⟩:=Hbest H7 n7 _ (hg.keep K7 (by omega)) he
  have K9:Keep n H H9:=K7.trans o4 (by omega)
  obtain⟨t3,H10,n10,t4,H11,n11,z1,z2,z3,z4⟩:=Hbest H9 n9 _ (hx.keep K9 (by omega)) he2
  have l9:Keep n7 H7 H11:=o4.trans z4 o3
  have hXY:∀ q,q<np→Y.getD (rotS np kk q * 2) 0=X.getD (q * 2) 0∧Y.getD (rotS np kk q * 2+1) 0=X.getD (q * 2+1) 0:=fun q hq=>by
    have hs:=tn.s_lt q hq
    obtain⟨y0,y1⟩:=s5.2 (rotS np kk q) (by omega)
    obtain⟨x0,x1⟩:=f5.2 q (by omega)
    rw[y0,y1,x0,x1]
    exact⟨turn_bsum tn np8 lls lr hm (by omega) hq,turn_bsum tn np8 lls lr hm (by omega) hq⟩
  have hb:=turn_best_eq (ks:=ks) (nk:=nk) (ps:=ps) (ps':=rotL 2 kk ps) tn np8 good.kinds (rot_pads h1.1 hk)
  have eN:ezN np nj nk (rotL 2 kk ps) (rotJ np kk js) ks=ezN np nj nk ps js ks∧ezE np nj nk (rotL 2 kk ps) (rotJ np kk js) ks=ezE np nj nk ps js ks:=by
    unfold ezN ezE
    cases q1:bestL ps js ks nj np nk <;> cases q2:bestL (rotL 2 kk ps) (rotJ np kk js) ks nj np nk <;> rw[q1,q2] at hb <;> simp at hb
    · exact⟨rfl,rfl⟩
    · exact⟨hb,rfl⟩
  rw[eN.1,eN.2] at z2
  have v0:∀ w e f,tupV (.tuple ⟨[w,e,f]⟩) 0=some w:=fun _ _ _=>rfl
  have v1':∀ w e f,tupV (.tuple ⟨[w,e,f]⟩) 1=some e:=fun _ _ _=>rfl
  have v2:∀ w e f,tupV (.tuple ⟨[w,e,f]⟩) 2=some f:=fun _ _ _=>rfl
  unfold O14
  simp only[bare] at e3
  simp only[ptr,e1,e2,bindO_some,a1,e3,stK,bare,addrV_eq,ldg H2 ((K2 gb gn).trans cg),c1,d1,f1,tup2_0,tup2_1,ldx H5 ((K5 xb xn).trans cx),r1,s1,ldg H7 ((K7 gb gn).trans cg),o1,o2,v0,v1',v2,ldx H9 ((K9 xb xn).trans cx),z1,z2]
  rw[order_end c J2 (ezE_or _ _ _ _ _ _)]
  exact Hloop np8 hk f5.1 s5.1 hXY (f6.keep (p7.trans l9 (by omega)) f4) (s6.keep l9 s4)
end Go.Proofs.Ytmpnblcfpdnlmaa.spec
end
section
namespace Go.Proofs.Ytmpnblcfpdnlmaa.nestBounds
open Go.ChangeShapes Go.WideShapes Go.ChangeAt Go.RowKit Go.Ev Go.Proofs.Ytmpnblcfpdnlmaa.nestFits
theorem flat3:flatT Try.prog 5 3=some 1:=by kernel_rfl
theorem bytes3:1≤Try.prog.bytesOf 3:=by decide +kernel
def Says (f:Nat):Prop:=∀(H:Hp) (n:Nat) (v w:Value) np nj nk ps js ks nl ls,GroveI H n v np nj nk ps js ks→spec.ListR H n w nl ls →
  ∃ l H' n',(calE G.P G.A (G.KK+1) G.tab.get l).call f [v,w] H n=some (.bool true,H',n')
set_option maxRecDepth 100000
theorem cells_one {W:World} {base:Nat} {w:Value} (hok:Cell.okWide Try.prog W .any base 44 w):w.cells.toList=[w]:=by
  cases w with
  | slice a l c=>rfl
  | _=>simp only[Cell.okWide,Try.underlying44,Cell.ok] at hok
end Go.Proofs.Ytmpnblcfpdnlmaa.nestBounds
end
section
namespace Go.Proofs.Ytmpnblcfpdnlmaa.nestOrder
open Go.ChangeShapes Go.WideShapes Go.ChangeAt Go.RowKit Go.Ev Go.Proofs.Ytmpnblcfpdnlmaa.nestFits
open Go.Proofs.Ytmpnblcfpdnlmaa.nestBounds (flat3 bytes3 cells_one)
def Says (f:Nat):Prop:=∀(H:Hp) (n:Nat) (x y z w:Value) np nj nk ps js ks nl ls (a:Nat),GroveI H n (.agg ⟨[x,y,z]⟩) np nj nk ps js ks→InR H n 2 x np ps→InR H n 1 w nl ls→a<256 →
  ∃ l H' n',(calE G.P G.A (G.KK+1) G.tab.get l).call f [.agg ⟨[x,y,z]⟩,w,.int .u8 (a:Int)] H n=some (.bool true,H',n')
set_option maxRecDepth 100000
theorem there {W:World} {base:Nat} {b o len cap:Nat} {t e:TypeId} {H:Hp} (hu:Try.prog.underlying t=some (.slice e)) (hH:∀ i,H.get i=rowsOf W i) (hok:Cell.okWide Try.prog W .any base t (.slice (some ⟨b,o,none⟩) len cap)):∃ c,H.get b=some (.rows c):=by
  simp only[Cell.okWide,hu,Cell.ok] at hok
  obtain⟨_,_,_,hsp,row,cells,hshape,_⟩:=hok
  rw[hH]
  unfold rowsOf
  unfold World.shape? at hshape
  dsimp only at hshape
  cases hb:W.heap[b]? with
  | none=>rw[hb] at hshape; simp at hshape
  | some B=>
    rw[hb] at hshape
    cases B with
    | cells arr x y=>exact⟨_,rfl⟩
    | _=>simp at hshape
theorem src_in {W:World} {base n len s:Nat} {t e:TypeId} {w:Value} {xs:List Int} {H:Hp} (hu:Try.prog.underlying t=some (.slice e)) (hH:∀ i,H.get i=rowsOf W i) (hok:Cell.okWide Try.prog W .any base t w) (h:SliceI H n s w len xs):SrcR H n s w len xs:=by
  obtain⟨h1,h2,h3⟩:=h
  refine⟨h1,?_⟩
  rcases h3 with h3 | ⟨b,o,cap,e,a1,a2,a3,a4⟩
  · exact .inl h3
  · refine .inr ⟨b,o,cap,e,a3,?_⟩
    rcases a4 with rfl | a4
    · subst e
      obtain⟨c,hc⟩:=there hu hH hok
      have:xs=[]:=List.length_eq_zero_iff.1 (by omega)
      subst this
      exact⟨_,c,hc,rfl,fun k v h=>by simp [ints] at h⟩
    · exact a4
theorem byte_in {K:Type} {enc:TypeId × Value→K} {W:World} {base:Nat} {w:Value} {d:DataW K} {p:List MemPlace}
    (hok:Value.okWide Try.prog W .any base 5 w) (ht:DataW.Trod enc Try.prog W 0 (fun _=>true) true 5 w d p):∃ a:Nat,w=.int .u8 (a:Int)∧a<256∧VR (idPhi W) w w:=by
  obtain⟨a,rfl⟩:=okWide_int Try.underlying5 hok
  obtain⟨fuel,ht⟩:=ht
  obtain⟨m,e1,e2,e3⟩:=DataW.trod_int Try.underlying5 ht
  have e:m=a:=by
    have:([.int .u8 a]:List Value)=[.int .u8 m]:=e1
    simpa using this.symm
  subst e
  have h0:IntKind.u8.min=0:=by decide
  have h1:IntKind.u8.max=255:=by decide
  unfold Lit.wf at e3
  rw[Bool.and_eq_true,decide_eq_true_iff,decide_eq_true_iff,h0,h1] at e3
  obtain⟨k,hk⟩:∃ k:Nat,m=(k:Int):=⟨m.toNat,by omega⟩
  subst hk
  exact⟨k,rfl,by omega,by simp only[VR]⟩
theorem slice_cap {P:Program} {H:Type} {enc:TypeId × Value→H} {w:World} {d s fuel:Nat} {t e:TypeId} {b o len cap:Nat} {dd:DataW H} {ps:List MemPlace}
    (hu:P.underlying t=some (.slice e)) (hf:flatT P d e=some s) (hb:1≤P.bytesOf e)
    (ht:DataW.trod enc P w 0 (fun _=>true) true fuel t [.slice (some ⟨b,o,none⟩) len cap]=some (dd,ps)) (hw:∀ n ∈ dd.weights P t,n≤reachBytes):cap<capV:=by
  cases fuel with
  | zero=>simp [DataW.trod] at ht
  | succ fuel=>
    unfold DataW.trod at ht
    simp only[hu] at ht
    split at ht
    case isFalse=>cases ht
    rename_i hcond
    obtain⟨_,hlc,_⟩:=hcond
    have hcell:=flatT_cells hf
    rw[hcell] at ht
    simp only[if_true,Option.bind_eq_some_iff,Option.map_eq_some_iff] at ht
    obtain⟨elems,hel,rest,hrest,hdd⟩:=ht
    have l1:=mapM_len hel
    have l2:=mapM_len hrest
    simp only[List.length_range] at l1 l2
    simp only[Prod.mk.injEq] at hdd
    obtain⟨rfl,rfl⟩:=hdd
    have:=hw ((elems.length+rest.length) * P.bytesOf e) (by simp [DataW.weights,hu])
    have h1:elems.length+rest.length=cap:=by omega
    rw[h1] at this
    have h2:cap≤cap * P.bytesOf e:=Nat.le_mul_of_pos_right _ hb
    have h3:reachBytes<capV:=by decide
    omega
theorem in_of {K:Type} {enc:TypeId × Value→K} {W:World} {base s fuel d n:Nat} {t e:TypeId} {v:Value} {dd:DataW K} {p:List MemPlace} {len:Nat} {xs:List Int} {H:Hp} (hu:Try.prog.underlying t=some (.slice e)) (hf:flatT Try.prog d e=some s) (hb:1≤Try.prog.bytesOf e)
    (hH:∀ i,H.get i=rowsOf W i) (ht:DataW.trod enc Try.prog W 0 (fun _=>true) true fuel t [v]=some (dd,p)) (hw:∀ n ∈ dd.weights Try.prog t,n≤reachBytes) (hok:Cell.okWide Try.prog W .any base t v) (h:SliceI H n s v len xs):InR H n s v len xs:=by
  obtain⟨_,h4⟩:=src_in hu hH hok h
  obtain⟨h1,h2,h3⟩:=h
  refine⟨h1,h2,?_⟩
  rcases h3 with h3 | ⟨b,o,cap,rfl,a1,a2,a3,a4⟩
  · exact .inl h3
  · rcases h4 with⟨h4,_⟩ | ⟨b',o',cap',h4,c1,c2⟩
    · cases h4
    · cases h4
      exact .inr ⟨b,o,cap,rfl,a1,slice_cap hu hf hb ht hw,a3,c2⟩
theorem grove_in3 {K:Type} {enc:TypeId × Value→K} {W:World} {base:Nat} {v:Value} {d:DataW K} {p:List MemPlace} {H:Hp} (hH:∀ i,H.get i=rowsOf W i)
    (hok:Value.okWide Try.prog W .any base 26 v) (ht:DataW.Trod enc Try.prog W 0 (fun _=>true) true 26 v d p) (hw:∀ n ∈ d.weights Try.prog 26,n≤reachBytes) :
    ∃ np nj nk ps js ks x y z,v=.agg ⟨[x,y,z]⟩∧GroveI H W.heap.size v np nj nk ps js ks∧InR H W.heap.size 2 x np ps∧VR (idPhi W) v v:=by
  unfold Value.okWide at hok
  rw[Try.underlying26] at hok
  obtain⟨cs,rfl,hsz,ts,hts,_,hcell⟩:=hok
  rw[types26] at hts
  cases hts
  rw[cells26] at hsz
  obtain⟨a,b,c,rfl⟩:=three hsz
  have ha:Cell.okWide Try.prog W .any base 22 a:=by obtain⟨u,e1,e2⟩:=hcell 0 a (by simp); simp at e1; subst e1; exact e2
  have hb:Cell.okWide Try.prog W .any base 23 b:=by obtain⟨u,e1,e2⟩:=hcell 1 b (by simp); simp at e1; subst e1; exact e2
  have hc:Cell.okWide Try.prog W .any base 24 c:=by obtain⟨u,e1,e2⟩:=hcell 2 c (by simp); simp at e1; subst e1; exact e2
  obtain⟨fuel,ht⟩:=ht
  obtain⟨xs,n,_,hx,hl,hlen,hf⟩:=DataW.trod_struct Try.underlying26 ht
  match xs,hlen with
  | [y0,y1,y2],_=>
    cases hx
    have h0:=hf 0 _ rfl
    have h1:=hf 1 _ rfl
    have h2:=hf 2 _ rfl
    simp only[Value.cells] at h0 h1 h2
    have w0:∀ n ∈ y0.1.weights Try.prog 22,n≤reachBytes:=fun n hn=>hw n (by simp [DataW.weights,Try.underlying26,DataW.weightsEach,hn])
    have w1:∀ n ∈ y1.1.weights Try.prog 23,n≤reachBytes:=fun n hn=>hw n (by simp [DataW.weights,Try.underlying26,DataW.weightsEach,hn])
    have w2:∀ n ∈ y2.1.weights Try.prog 24,n≤reachBytes:=fun n hn=>hw n (by simp [DataW.weights,Try.underlying26,DataW.weightsEach,hn])
    obtain⟨np,ps,s0,r0⟩:=slice_in hH Try.underlying22 flat95 (by omega) bytes95 h0 w0 ha
    obtain⟨nj,js,s1,r1⟩:=slice_in hH Try.underlying23 flat104 (by omega) bytes104 h1 w1 hb
    obtain⟨nk,ks,s2,r2⟩:=slice_in hH Try.underlying24 flat94 (by omega) bytes94 h2 w2 hc
    refine⟨np,nj,nk,ps,js,ks,a,b,c,rfl,⟨a,b,c,rfl,s0,s1,s2⟩,in_of Try.underlying22 flat95 bytes95 hH h0 w0 ha s0,?_⟩
    simp only[VR]
    exact⟨_,rfl,by simp only[VRA]; exact VRL.cons r0 (VRL.cons r1 (VRL.cons r2 VRL.nil))⟩
theorem walk (hs:Says 14) {K:Type} {enc:TypeId × Value→K} {W:World} {base:Nat} {v w x:Value} {d d' d2:DataW K} {p p' p2:List MemPlace}
    (hok:Value.okWide Try.prog W .any base 26 v) (ht:DataW.Trod enc Try.prog W 0 (fun _=>true) true 26 v d p) (hw:∀ n ∈ d.weights Try.prog 26,n≤reachBytes)
    (hok':Value.okWide Try.prog W .any base 44 w) (ht':DataW.Trod enc Try.prog W 0 (fun _=>true) true 44 w d' p') (hw':∀ n ∈ d'.weights Try.prog 44,n≤reachBytes)
    (hok2:Value.okWide Try.prog W .any base 5 x) (ht2:DataW.Trod enc Try.prog W 0 (fun _=>true) true 5 x d2 p2) :
    Calls Try.prog 14 #[v,w,x] W fun e w'=>e=.returned (.bool true)∧Grown W w'∧∀ b,b<W.heap.size→w'.heap[b]?=W.heap[b]?:=by
  obtain⟨H,hH,hI⟩:=I.start W
  obtain⟨np,nj,nk,ps,js,ks,vx,vy,vz,rfl,hg,sx,hv⟩:=grove_in3 hH hok ht hw
  have hc:Cell.okWide Try.prog W .any base 44 w:=by
    unfold Value.okWide at hok'
    rw[Try.underlying44] at hok'
    exact hok'
  obtain⟨fuel,ht'⟩:=ht'
  rw[cells_one hc] at ht'
  obtain⟨nl,ls,hsl,hv'⟩:=slice_in hH Try.underlying44 flat3 (by omega) bytes3 ht' hw' hc
  obtain⟨a,rfl,a1,va⟩:=byte_in hok2 ht2
  obtain⟨l,H',n',e⟩:=hs H W.heap.size vx vy vz w np nj nk ps js ks nl ls a hg sx (in_of Try.underlying44 flat3 bytes3 hH ht' hw' hc hsl) a1
  refine(calls_of_tower_open G.tab_ok hI (VRL.cons hv (VRL.cons hv' (VRL.cons va VRL.nil))) e rfl).mono ?_
  rintro en w' ⟨h1,h2,h3,h4,h5,h6,h7⟩
  exact⟨h1,grown_of h2 h4 h5 h6 h7,h6⟩
theorem trodAll_three {H:Type} {enc:TypeId × Value→H} {P:Program} {w:World} {base:Nat} {spare:Nat→Bool} {held:Bool} {t t' t2:TypeId} {args:Array Value} {ds:List (DataW H)} {ps:List MemPlace} (h:DataW.TrodAll enc P w base spare held [t,t',t2] args.toList ds ps) :
    ∃ v v' v2 d d' d2 p p' p2,args=#[v,v',v2]∧ds=[d,d',d2]∧ps=p++p'++p2∧DataW.Trod enc P w base spare held t v d p∧DataW.Trod enc P w base spare held t' v' d' p'∧DataW.Trod enc P w base spare held t2 v2 d2 p2:=by
  obtain⟨v,vs,d,ds',p,q,hargs,rfl,rfl,hd,hrest⟩:=trodAll_cons h
  obtain⟨v',vs',d',ds'',p',q',rfl,rfl,rfl,hd',hrest'⟩:=trodAll_cons hrest
  obtain⟨v2,vs2,d2,ds2,p2,q2,rfl,rfl,rfl,hd2,hrest2⟩:=trodAll_cons hrest'
  obtain⟨rfl,rfl,rfl⟩:=trodAll_nil hrest2
  exact⟨v,v',v2,d,d',d2,p,p',p2,by cases args; simp_all,rfl,by simp,hd,hd',hd2⟩
set_option maxRecDepth 100000 in
theorem lifted (hs:Says 14) (os:Os) (started:os.Started) (H:Type) (enc:TypeId × Value→H) :
    ReturnsInHanded {} Try.checked os 14 .any (Rows.nestOrderSpec.pre6 enc Try.prog Try.f14 Rows.nestOrderRow.domain false) (Rows.nestOrderSpec.post enc Try.prog Try.f14 false true false false):=by
  refine returnsInHanded_of_change_sized (C:=Try.checked) own started (by kernel_rfl) Try.func14
    (ChangeSpec.witness6 (enc:=enc) (C:=Try.checked) false ⟨#[],#[.agg #[.slice none 0 0,.slice none 0 0,.slice none 0 0],.slice none 0 0,.int .u8 0],[]⟩ 8 (by kernel_rfl) (by kernel_rfl) (by kernel_rfl) (by kernel_rfl)) ?_
  intro W base args ds gs before hval0 hW hcnd hsz _
  have hval:∀(j:Nat) t v,Try.f14.params[j]?=some t→args[j]?=some v→Value.okWide Try.prog W .any base t v:=hval0
  have hW':=hW
  obtain⟨p,q,hA0,hV,rfl,hfz,hnd⟩:=hW
  have hA:DataW.TrodAll enc Try.prog W 0 (fun _=>true) true Try.f14.params.toList args.toList ds p:=hA0
  have hAk:=hA
  rw[Try.params14] at hA hval
  obtain⟨v,w,x,d,d',d2,p0,p1,p2,rfl,rfl,rfl,h0,h1,h2⟩:=trodAll_three hA
  obtain⟨rfl,rfl⟩:=trodVars_none hV
  simp only[List.append_nil] at hW' hAk
  have hall:∀ n ∈ d.weights Try.prog 26++(d'.weights Try.prog 44++(d2.weights Try.prog 5++[])),n≤reachBytes:=by
    intro n hn
    have hm:n ∈ DataW.weightsEach Try.checked.prog (Try.f14.params.toList++DataSpec.varTypes Try.checked.prog Rows.nestOrderSpec.plain) ([d,d',d2]++[]):=by
      rw[Try.params14]
      exact hn
    have:=List.all_eq_true.1 hsz n hm
    simpa using this
  refine(walk hs (hval 0 26 v rfl rfl) h0 (fun n hn=>hall n (List.mem_append_left _ hn)) (hval 1 44 w rfl rfl) h1 (fun n hn=>hall n (List.mem_append_right _ (List.mem_append_left _ hn))) (hval 2 5 x rfl rfl) h2).mono fun e W' ⟨he,hg,hk⟩=>?_
  subst he
  exact⟨_,rfl,post_of_same (pv:=[]) hW' (fun _ _ _=>(trodAll_cons_mk (shut_bool Try.underlying4 _) trodAll_mk0))
    (fun sp hsp=>DataW.TrodAll.respare kids full (by rw[Try.params14]; decide +kernel) (carryAll hk hAk) hsp) (fun _ _=>rfl) (by simp)
    (hg.frame _) hg.2.1 (ok_one (by kernel_rfl) rfl (okWide_bool_mk Try.underlying4 _))⟩
theorem over (hs:Says 14):Rows.nestOrderRow.holds Try.pinned (OpenSpec.ofChange Rows.nestOrderSpec):=
  OpenClaim.holds_of_wide 14 Try.f14 rfl rfl rfl rfl rfl rfl rfl ⟨rfl,rfl,rfl,rfl,rfl⟩ rfl rfl rfl rfl rfl (by kernel_rfl) Try.func14 (by kernel_rfl)
    (of_decide_eq_true (by kernel_rfl)) (by unfold Func.isWrapper; first | (rw[if_pos (by decide +kernel)]; kernel_rfl) | (rw[if_neg (by decide +kernel)]; exact⟨rfl,rfl⟩))
    (fun os started H enc _=>lifted hs os started H enc)
theorem said (hs:Says 14):Rows.NestOrderSaid:=over hs
end Go.Proofs.Ytmpnblcfpdnlmaa.nestOrder
end
section
namespace Go.Proofs.Ytmpnblcfpdnlmaa.spec
open Go.Ev Go.Proofs.Ytmpnblcfpdnlmaa.nestFits Go.Proofs.Ytmpnblcfpdnlmaa.G
set_option maxRecDepth 1000000
noncomputable def isB (c:Bool) (r:Res):Bool:=match r with
  | some (.bool b,_,_)=>b == c
  | _=>false
theorem isB_eq {c:Bool} {r:Res} (h:isB c r=true):∃ H n,r=some (.bool c,H,n):=by
  unfold isB at h
  split at h
  · rename_i b H n
    have h:=eq_of_beq h
    subst h
    exact⟨H,n,rfl⟩
  · cases h
theorem run_awake:isB true ((cal 60).call 16 [] .nil 0)=true:=by kernel_rfl
theorem flat16:flatF P 16=true:=by kernel_rfl
theorem awake_call {ρ:Type} (H:Hp) (n:Nat) (k:Value→Hp→Nat→Option ρ):callFK P (cal 60) 16 [] H n k=k (.bool true) H n:=by
  obtain⟨H',n',e⟩:=isB_eq run_awake
  exact callFK_pure flat16 rfl e rfl
end Go.Proofs.Ytmpnblcfpdnlmaa.spec
end
section
namespace Go.Proofs.Ytmpnblcfpdnlmaa.spec
open Go Go.Ev Go.Proofs.Ytmpnblcfpdnlmaa.nestFits Go.Proofs.Ytmpnblcfpdnlmaa.G
set_option maxRecDepth 100000
theorem or_best (l:Nat) {np nj nk:Nat} {ps js ks:List Int} (H:Hp) (n:Nat) (v:Value) (hg:GroveI H n v np nj nk ps js ks) (he:faultN np nj nk ps js ks=0) :
    ∃ gv H1 n1 w H' n',(∀ k:Value→Hp→Nat→Res,callFK P (cal (l+17)) 18 [v] H n k=k gv H1 n1) ∧
      (∀ k:Value→Hp→Nat→Res,callFK P (cal (l+17)) 42 [gv] H1 n1 k=k (.tuple ⟨[w,.int .i64 (ezN np nj nk ps js ks),.int .i64 (ezE np nj nk ps js ks)]⟩) H' n')∧n≤n'∧Keep n H H':=by
  have good:=good_of he
  have np8:=good.np8
  have nj16:=good.nj16
  have nk3:=good.nk3
  obtain⟨gv,H1,n1,a1,a2,a3,a4⟩:=grove_call (ρ:=Value × Hp × Nat) (l+15) hg (by omega) (by omega) (by omega)
  obtain⟨s1,s2,s3⟩:=Best_spec l a4 (by omega) (by omega) (by omega)
  unfold ezN ezE
  cases hc:bestL ps js ks nj np nk with
  | none=>
    obtain⟨H',n',q1,q2,q3⟩:=s2 he hc
    exact⟨gv,H1,n1,_,H',n',a1,fun k=>by rw[Best_call (l+16),q1]; rfl,by omega,a3.trans q3 a2⟩
  | some M=>
    obtain⟨u,H',n',q1,q2,q3,q4⟩:=s3 he M hc
    exact⟨gv,H1,n1,u,H',n',a1,fun k=>by rw[Best_call (l+16),q1]; rfl,by omega,a3.trans q3 a2⟩
theorem or_bounds {np nj nk:Nat} {ps js ks ls:List Int} (he:placedN np nj nk np ps js ks ls=0) (h1:np≤8) (h2:nj≤16) (h3:nk≤3):BoundsCall (cal (52+8)) np nj nk ps js ks ls:=by
  intro H n v u hg hw
  obtain⟨b,cp,X,H',n',e,h1,h2,h3,h4,h5⟩:=(Bounds_spec 52 hg hw (by omega) (by omega) (by omega)).2 he
  exact⟨b,cp,X,H',n',fun k=>by rw[Bounds_call,e]; rfl,h1,h2,h3,h4,h5⟩
theorem or_own (l:Nat) {H:Hp} {n len:Nat} {v:Value} {xs:List Int} (h:ListR H n v len xs) (h0:len≠0) (hlen:len≤1000) :
    ∃ b H' n',(∀ k:Value→Hp→Nat→Res,callFK P (cal (l+1)) 23 [v] H n k=k (.slice (some ⟨b,0,none⟩) len capV) H' n')∧n≤b∧b<n'∧Keep n H H'∧H'.get b=some (.cells (ints xs) 3 false (some 1)):=by
  obtain⟨H',n',q1,q2,q3,q4⟩:=list_at (cal l) KK h h0 hlen
  refine⟨n+1,H',n',fun k=>?_,by omega,q2,q3,q4⟩
  unfold callFK
  have:(flatF P 23 && pureL [v])=false:=by
    rcases h.2.2 with⟨_,e⟩ | ⟨b,o,cap,rfl,_⟩
    · exact absurd e h0
    · rw[Bool.and_eq_false_iff]; exact .inr rfl
  rw[this,call23,q1]
  rfl
theorem call14 (x y z w:Value) (a:Int) (H:Hp) (n:Nat):(cal (60+1)).call 14 [.agg ⟨[x,y,z]⟩,w,.int .u8 a] H n=C14_0 (cal 60) KK (.agg ⟨[x,y,z]⟩) w (.int .u8 a) H n:=by kernel_rfl
theorem order_law {np nj nk nl a:Nat} {ps js ks ls:List Int} {H:Hp} {n:Nat} {x y z v1:Value} (hg:GroveI H n (.agg ⟨[x,y,z]⟩) np nj nk ps js ks) (ix:InR H n 2 x np ps) (il:InR H n 1 v1 nl ls) (ha:a<256) :
    ∃ H' n',C14_0 (cal 60) KK (.agg ⟨[x,y,z]⟩) v1 (.int .u8 (a:Int)) H n=some (.bool true,H',n'):=by
  obtain⟨x',y',z',hxyz,h1,h2,h3⟩:=hg.eq
  cases hxyz
  unfold C14_0
  rcases order_start (cal 60) (S14_1 (cal 60) KK KK) (fun H n k=>awake_call H n k) (fun H n v h1 h2=>ready_call 53 h1 h2) hg ix il ha with h | ⟨hp,xb,H1,n1,e1,st⟩
  · exact h
  · obtain⟨good,hnl,hok⟩:=placed_zero hp
    subst hnl
    have hk:a % nl<nl:=Nat.mod_lt _ (by have:=good.np1; omega)
    have np8:=good.np8
    have nj16:=good.nj16
    obtain⟨q,q1,q2,q3,q4⟩:=st.xs
    have lx:=st.lx
    have xn:=st.xn
    obtain⟨H2,n2,e2,s2⟩:=order_joins (cal 60) KK (u1:=v1) (pv:=.slice (some ⟨q,0,none⟩) nl capV) (N0:=n1) good hk (h2.keep st.keep (Nat.le_refl _)) st.lx st.xn st.gx KK 0 H1 n1
      ⟨Nat.le_refl _,fun _ _ _=>rfl,.slice none 0 0,q3,by simp,.inl ⟨rfl,rfl⟩⟩ (by omega) (by unfold KK; omega)
    obtain⟨le,kp,v,hv,vec⟩:=s2
    have K2:Keep n H H2:=fun b hb=>(kp b (by omega) (by omega)).trans (st.keep b hb)
    have hpl:ps.length=nl * 2:=h1.1
    have hjl:(rotJ nl (a % nl) js).length=nj * 2:=by unfold rotJ; rw[List.length_map]; exact h2.1
    have tkj:(rotJ nl (a % nl) js).take (nj * 2)=rotJ nl (a % nl) js:=List.take_of_length_le (by omega)
    rw[tkj] at vec
    have c8:nl≤capV:=Nat.le_trans np8 (by decide +kernel)
    have c16:nj≤capV:=Nat.le_trans nj16 (by decide +kernel)
    have gx:GroveI H2 n2 (.agg ⟨[.slice (some ⟨q,0,none⟩) nl capV,v,z]⟩) nl nj nk (rotL 2 (a % nl) ps) (rotJ nl (a % nl) js) ks:=by
      refine⟨_,_,_,rfl,vec_slice (by rw[rotL_len]; exact hpl) (fun w hw=>?_) (by omega) c8 ((kp q q2 (by omega)).trans q4),?_,(h3.keep K2 (Nat.le_refl _)).up (by omega)⟩
      · unfold rotL at hw
        rcases List.mem_append.1 hw with h | h
        · exact h1.2.1 w (List.mem_of_mem_drop h)
        · exact h1.2.1 w (List.mem_of_mem_take h)
      · have hi:∀ w ∈ rotJ nl (a % nl) js,I64 w:=fun w hw=>by
          unfold rotJ at hw
          obtain⟨u,_,rfl⟩:=List.mem_map.1 hw
          have:rotS nl (a % nl) u.toNat<nl:=Nat.mod_lt _ (by omega)
          unfold I64
          omega
        obtain⟨v1',v2'⟩:=vec
        refine⟨v1',hi,?_⟩
        rcases v2' with h | ⟨b,e,c1,c2,c3,c4⟩
        · exact .inl h
        · exact .inr ⟨b,0,capV,e,c16,Nat.le_refl _,c2,.inr (cells_at c4)⟩
    have cg2:=(kp n (by omega) (by omega)).trans st.gx
    obtain⟨H3,n3,e3⟩:=order_tail (cal 60) (S14_2 (cal 60) KK KK) (fun H n v h a1 a2 a3=>grove_call 58 h a1 a2 a3) (fun H n w h a1 a2=>or_own 59 h a1 a2) (fun he a1 a2 a3=>or_bounds he a1 a2 a3) (fun H n v h he=>or_best 43 H n v h he)
      (fun a1 a2 a3 a4 a5 a6 a7=>order_loop (cal 60) KK (fun H n k=>awake_call H n k) a1 a2 a3 a4 a5 a6 a7 KK 0 (by omega) (by unfold KK; omega)) hp hk (hg.keep K2 (by omega)) gx (il.keep K2 (by omega)) cg2 hv (by omega) (by omega)
    exact⟨H3,n3,(e1.trans e2).trans e3⟩
theorem order_says:nestOrder.Says 14:=by
  intro H n x y z w np nj nk ps js ks nl ls a hg sx sw ha
  obtain⟨H',n',e⟩:=order_law hg sx sw ha
  exact⟨60+1,H',n',(call14 x y z w _ H n).trans e⟩
theorem proved:Rows.NestOrderSaid:=nestOrder.said order_says
#print axioms proved
end Go.Proofs.Ytmpnblcfpdnlmaa.spec
end
