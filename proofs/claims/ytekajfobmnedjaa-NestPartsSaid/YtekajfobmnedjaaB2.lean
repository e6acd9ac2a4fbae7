/- The proof of any grove is as the document says, or the error is; and whether any pads are apart: whatever the grove and the list. -/
import Derived.Test.YtekajfobmnedjaaB1
section
namespace Go.Proofs.Ytekajfobmnedjaa.spec
open Go Go.Ev Go.Proofs.Ytekajfobmnedjaa.nestFits Go.Proofs.Ytekajfobmnedjaa.G
set_option maxRecDepth 100000
variable {ρ:Type}
theorem zero111:iX P 111=some (.agg ⟨ints (List.replicate 16 0)⟩):=by kernel_rfl
theorem flat113:iY P 113=false:=by kernel_rfl
theorem call113 (l:Nat) (a b:Value) (H:Hp) (n:Nat):(cal (l+1)).call 113 [a,b] H n=C113_0 (cal l) KK a b H n:=by kernel_rfl
theorem call119 (l:Nat) (a b c:Value) (H:Hp) (n:Nat):(cal (l+1)).call 119 [a,b,c] H n=zX (cal l) KK a b c H n:=by kernel_rfl
theorem reached_call (l:Nat) (g pad:Nat) (H:Hp) (n:Nat) (k:Value→Hp→Nat→Option ρ):aY P (cal (l+1)) 113 [.pointer (some ⟨g,0,none⟩),.int .i64 pad] H n k =
  k (.func (.func 119) ⟨[]⟩ ⟨[.pointer (some ⟨n+1,0,none⟩),.pointer (some ⟨n,0,none⟩)]⟩) ((H.set n (some (.cells [.pointer (some ⟨g,0,none⟩)] 105 false none))).set (n+1) (some (.cells [.int .i64 pad] 3 false none))) (n+2):=by
 unfold aY
 rw[flat113,call113]
 rfl
theorem range97 (c:Cal) (a b:Value) (K:KC (Value×Hp×Nat)) (X:XC (Value×Hp×Nat)) (Kr:KC (Value×Hp×Nat)) (T:Tm) (H:Hp) (n:Nat) :
  xw P c none 97 (.func (.func 119) ⟨[]⟩ ⟨[a,b]⟩) #[12] nX nY K X Kr T H n [] =
   aY P c 119 [.func (.yield (n+1)) #[] #[],a,b] ((H.set n (some .deferred)).set (n+1) (some (.loop .ready none 97 T (ntm P 97) #[12] nX nY n))) (n+2) fun _ H n'=>fin K X Kr (nV (n+1) { T:=T,H,n:=n',D:=[n] }):=rfl
def iZ (a1 a2 a3 a4:Int) (near:Nat→Bool) (np pad:Nat):List Int:=((HQ a3 a4 (pad::(List.range np).filter near)).set (pad * 2) a1).set (pad * 2+1) a2
theorem vy (a1 a2 a3 a4:Int) (near:Nat→Bool) (np pad:Nat):(iZ a1 a2 a3 a4 near np pad).length=16:=by
 unfold iZ; rw[Ez,FK]
theorem sharesL_get {a1 a2 a3 a4:Int} {near:Nat→Bool} {np pad:Nat} (hnp:np≤8) (hpad:pad<8) (q:Nat) :
  (iZ a1 a2 a3 a4 near np pad).getD (q * 2) 0=(if q=pad then a1 else if q<np∧near q=true then a3 else 0)∧(iZ a1 a2 a3 a4 near np pad).getD (q * 2+1) 0=(if q=pad then a2 else if q<np∧near q=true then a4 else 0):=by
 unfold iZ
 obtain⟨h1,h2⟩:=set_two_get (q:=q) (FK a3 a4 (pad::(List.range np).filter near)) hpad a1 a2
 obtain⟨g1,g2⟩:=fillS_get a3 a4 q (pad::(List.range np).filter near) (by
  intro p hp
  rcases List.mem_cons.1 hp with z | z
  ·omega
  ·have:=List.mem_range.1 (List.mem_filter.1 z).1; omega)
 rw[h1,h2,g1,g2]
 have hm:q≠pad→(q ∈ pad::(List.range np).filter near↔q<np∧near q=true):=fun e=>by simp [e]
 by_cases e:q=pad
 ·simp [e]
 ·rw[if_neg e,if_neg e,if_neg e,if_neg e]
  by_cases e2:q<np∧near q=true
  ·rw[if_pos ((hm e).2 e2),if_pos ((hm e).2 e2),if_pos e2,if_pos e2]; exact⟨rfl,rfl⟩
  ·rw[if_neg (fun h=>e2 ((hm e).1 h)),if_neg (fun h=>e2 ((hm e).1 h)),if_neg e2,if_neg e2]; exact⟨rfl,rfl⟩
theorem sharesL_bounded {a1 a2 a3 a4:Int} {near:Nat→Bool} {np pad:Nat} (hnp:np≤8) (hpad:pad<8) (h1:okR a1 a2) (h2:okR a3 a4):uK (iZ a1 a2 a3 a4 near np pad):=by
 intro k
 unfold okR at h1 h2
 by_cases hk:k<16
 ·obtain⟨g1,g2⟩:=sharesL_get (a1:=a1) (a2:=a2) (a3:=a3) (a4:=a4) (near:=near) hnp hpad (k / 2)
  rcases Nat.mod_two_eq_zero_or_one k with z | z
  ·rw[show k / 2 * 2=k by omega] at g1
   rw[g1]
   split
   ·omega
   ·split <;> omega
  ·rw[show k / 2 * 2+1=k by omega] at g2
   rw[g2]
   split
   ·omega
   ·split <;> omega
 ·rw[List.getD_eq_getElem?_getD,List.getElem?_eq_none (by rw[vy]; omega)]
  simp
theorem nestOn_spec (l:Nat) {H:Hp} {n g np pad:Nat} {f:Nat→Value} {x:Value} {near:Nat→Bool} {y a1 a2 a3 a4:Int} (hg:g<n) (hs:cJ H g 859 117 f) (hx:f 0=x) (hlen:lenV P 31 x=some (.int .i64 np)) (hnp:np≤8) (hpad:pad<8)
  (hnear:∀ b,b<8→f (3+pad * 8+b)=.bool (near b)) (hy:0≤y∧y≤1000) (h1:okR a1 a2) (h2:okR a3 a4) :
  ∃ B,lj y (iZ a1 a2 a3 a4 near np pad) B 8∧Ret ((cal (l+5)).call 97 [.pointer (some ⟨g,0,none⟩),.int .i64 pad,.agg ⟨[.int .i64 y,.int .i64 a1,.int .i64 a2,.int .i64 a3,.int .i64 a4]⟩] H n) n H
   (.agg ⟨ints (cX y (iZ a1 a2 a3 a4 near np pad) B)⟩):=by
 obtain⟨B,hB,hnest⟩:=newNest_call (ρ:=Value×Hp×Nat) l (vy a1 a2 a3 a4 near np pad) (sharesL_bounded hnp hpad h1 h2) hy
 refine⟨B,hB,?_⟩
 rw[call97,pre97]
 simp only[fy,iV ZZ,iV zero111,bj,ptr,reached_call (l+3)]
 rw[range97]
 generalize hH1:((((H.set n (some (.cells [.int .i64 y,.int .i64 a1,.int .i64 a2,.int .i64 a3,.int .i64 a4] 86 false none))).set (n+1) (some (.cells (ints (cX 0 lY lY)) 113 false none))).set (n+1+1) (some (.cells (ints (List.replicate 16 0)) 111 false none))).set (n+1+1+1) (some (.cells [.pointer (some ⟨g,0,none⟩)] 105 false none))).set (n+1+1+1+1) (some (.cells [.int .i64 pad] 3 false none))=H1
 have k1:Keep n H H1:=fun b hb=>by rw[← hH1,Tr.get_set,if_neg (by omega),Tr.get_set,if_neg (by omega),Tr.get_set,if_neg (by omega),Tr.get_set,if_neg (by omega),Tr.get_set,if_neg (by omega)]
 have q0:H1.get n=some (.cells [.int .i64 y,.int .i64 a1,.int .i64 a2,.int .i64 a3,.int .i64 a4] 86 false none):=by rw[← hH1,Tr.get_set,if_neg (by omega),Tr.get_set,if_neg (by omega),Tr.get_set,if_neg (by omega),Tr.get_set,if_neg (by omega),Tr.get_set,if_pos rfl]
 have q1:H1.get (n+1)=some (.cells (ints (cX 0 lY lY)) 113 false none):=by rw[← hH1,Tr.get_set,if_neg (by omega),Tr.get_set,if_neg (by omega),Tr.get_set,if_neg (by omega),Tr.get_set,if_pos rfl]
 have q2:H1.get (n+1+1)=some (.cells (ints (List.replicate 16 0)) 111 false none):=by rw[← hH1,Tr.get_set,if_neg (by omega),Tr.get_set,if_neg (by omega),Tr.get_set,if_pos rfl]
 have q3:H1.get (n+1+1+1)=some (.cells [.pointer (some ⟨g,0,none⟩)] 105 false none):=by rw[← hH1,Tr.get_set,if_neg (by omega),Tr.get_set,if_pos rfl]
 have q4:H1.get (n+1+1+1+1)=some (.cells [.int .i64 pad] 3 false none):=by rw[← hH1,Tr.get_set,if_pos rfl]
 clear hH1
 generalize hT:T97 (.pointer (some ⟨g,0,none⟩)) (.int .i64 pad) (.agg ⟨[.int .i64 y,.int .i64 a1,.int .i64 a2,.int .i64 a3,.int .i64 a4]⟩) (.pointer (some ⟨n,0,none⟩)) (.pointer (some ⟨n+1,0,none⟩)) (.pointer (some ⟨n+1+1,0,none⟩))
  (.func (.func 119) ⟨[]⟩ ⟨[.pointer (some ⟨n+1+1+1+1,0,none⟩),.pointer (some ⟨n+1+1+1,0,none⟩)]⟩)=T
 have hc119:∀(a b c:Value) (H:Hp) (n:Nat) (k:Value→Hp→Nat→Res),bq b=false→aY P (cal (l+4)) 119 [a,b,c] H n k=aq (zX (cal (l+3)) KK a b c H n) fun r=>k r.1 r.2.1 r.2.2:=by
  intro a b c H n k hb
  unfold aY
  have:(iY P 119 && bZ [a,b,c])=false:=by simp [bZ,hb]
  rw[this,call119]
 rw[hc119 _ _ _ _ _ _ rfl]
 generalize hH2:(H1.set (n+1+1+1+2) (some .deferred)).set (n+1+1+1+2+1) (some (.loop .ready none 97 T (ntm P 97) #[12] nX nY (n+1+1+1+2)))=H2
 have r1:∀ b,b<n+1+1+1+2→H2.get b=H1.get b:=fun b hb=>by rw[← hH2,Tr.get_set,if_neg (by omega),Tr.get_set,if_neg (by omega)]
 have r2:H2.get (n+1+1+1+2)=some .deferred:=by rw[← hH2,Tr.get_set,if_neg (by omega),Tr.get_set,if_pos rfl]
 have r3:H2.get (n+1+1+1+2+1)=some (.loop .ready none 97 T (ntm P 97) #[12] nX nY (n+1+1+1+2)):=by rw[← hH2,Tr.get_set,if_pos rfl]
 clear hH2
 have hs2:∀ H3:Hp,(∀ b,b≠n+1+1+1+2+1→b≠n+1+1→H3.get b=H2.get b)→Reads H3 (n+1+1+1+1) (n+1+1+1) g x pad near:=by
  intro H3 h3
  have c3:H3.get (n+1+1+1)=some (.cells [.pointer (some ⟨g,0,none⟩)] 105 false none):=by rw[h3 _ (by omega) (by omega),r1 _ (by omega)]; exact q3
  have c4:H3.get (n+1+1+1+1)=some (.cells [.int .i64 pad] 3 false none):=by rw[h3 _ (by omega) (by omega),r1 _ (by omega)]; exact q4
  have cg:cJ H3 g 859 117 f:=by
   obtain⟨c,e1,e2,e3⟩:=hs
   exact⟨c,by rw[h3 _ (by omega) (by omega),r1 _ (by omega),k1 _ hg]; exact e1,e2,e3⟩
  refine⟨bx (o:=0) (k:=0) (jz c4) agg3 rfl,bw (o:=0) (k:=0) (jz c3) agg105 rfl rfl rfl,?_,fun b hb=>?_⟩
  ·have:=cg.load (P:=P) (k:=0) Hk (by omega)
   rw[hx] at this; exact this
  ·have:=cg.load (P:=P) (k:=3+pad * 8+b) agg4 (by omega)
   rw[hnear b hb] at this
   rw[show 0+3+pad * 8+b * 1=3+pad * 8+b by omega]
   exact this
 obtain⟨H3,n3,e3,i1,i2,i3,i4⟩:=iter_spec (cal (l+3)) (.func (.yield (n+1+1+1+2+1)) #[] #[]) (n+1+1+1+1) (n+1+1+1) g pad np x near hpad hnp hlen
  (fun ps Hc nc=>nc=n+1+1+1+2+2∧Hc.get (n+1+1+1+2+1)=some (.loop .ready none 97 T (ntm P 97) #[12] nX nY (n+1+1+1+2))∧Hc.get (n+1+1)=some (.cells (ints (HQ a3 a4 ps)) 111 false none)∧∀ b,b≠n+1+1+1+2+1→b≠n+1+1→Hc.get b=H2.get b)
  (fun ps Hc nc ⟨_,_,_,h⟩=>hs2 Hc h)
  (fun ps p Hc nc ⟨h1,h2,h3,h4⟩ hp=>by
   have h5:Hc.get n=some (.cells [.int .i64 y,.int .i64 a1,.int .i64 a2,.int .i64 a3,.int .i64 a4] 86 false none):=by rw[h4 _ (by omega) (by omega),r1 _ (by omega)]; exact q0
   rw[← hT] at h2
   obtain⟨H',y1,y2,y3,y4⟩:=yield97 (ρ:=Value×Hp×Nat) (l+2) (n:=nc) h2 h5 h3 (FK _ _ _) (by omega) (by omega) hp
   refine⟨H',nc,y1,h1,?_,?_,fun b hb hb'=>(y4 b hb hb').trans (h4 b hb hb')⟩
   ·rw[y2,h2,hT]
   ·rw[y3,fillS_snoc])
  (H:=H2) (n:=n+1+1+1+2+2) ⟨rfl,r3,by rw[r1 _ (by omega)]; exact q2,fun _ _ _=>rfl⟩
 rw[show n+1+1+1+2=n+1+1+1+2 from rfl,e3,aj]
 have hout:nV (n+1+1+1+2+1) { T:=T,H:=H3,n:=n3,D:=[n+1+1+1+2] }=some (.norm,{ T:=T,H:=H3.set (n+1+1+1+2+1) (some (.loop .exhausted none 97 T (ntm P 97) #[12] nX nY (n+1+1+1+2))),n:=n3,D:=[n+1+1+1+2] }):=by
  unfold nV
  simp only[i2]
 rw[hout]
 show Ret (K97 (cal (l+4)) KK T (H3.set (n+1+1+1+2+1) (some (.loop .exhausted none 97 T (ntm P 97) #[12] nX nY (n+1+1+1+2)))) n3 [n+1+1+1+2]) n H _
 generalize hH4:H3.set (n+1+1+1+2+1) (some (.loop .exhausted none 97 T (ntm P 97) #[12] nX nY (n+1+1+1+2)))=H4
 have o1:∀ b,b≠n+1+1+1+2+1→b≠n+1+1→H4.get b=H2.get b:=fun b hb hb'=>by rw[← hH4,Tr.get_set,if_neg hb]; exact i4 b hb hb'
 have o2:H4.get (n+1+1)=some (.cells (ints (HQ a3 a4 (pad::(List.range np).filter near))) 111 false none):=by rw[← hH4,Tr.get_set,if_neg (by omega)]; exact i3
 clear hH4 hout
 have o0:H4.get n=some (.cells [.int .i64 y,.int .i64 a1,.int .i64 a2,.int .i64 a3,.int .i64 a4] 86 false none):=by rw[o1 _ (by omega) (by omega),r1 _ (by omega)]; exact q0
 have o3:H4.get (n+1)=some (.cells (ints (cX 0 lY lY)) 113 false none):=by rw[o1 _ (by omega) (by omega),r1 _ (by omega)]; exact q1
 have o4:H4.get (n+1+1+1+2)=some .deferred:=by rw[o1 _ (by omega) (by omega)]; exact r2
 rw[← hT,post97,fa86_1,aj,aQ,aj,(loadK53 o0).1,aj,at111 _ 0 hpad,aj,Px,Nat.zero_add,Mk o2 (by rw[FK]; omega),aj]
 have hsh:((HQ a3 a4 (pad::(List.range np).filter near)).set (pad * 2) a1).set (pad * 2+1) a2=iZ a1 a2 a3 a4 near np pad:=rfl
 rw[hsh]
 generalize hH5:H4.set (n+1+1) (some (.cells (ints (iZ a1 a2 a3 a4 near np pad)) 111 false none))=H5
 have p1:∀ b,b≠n+1+1→H5.get b=H4.get b:=fun b hb=>by rw[← hH5,Tr.get_set,if_neg hb]
 have p2:H5.get (n+1+1)=some (.cells (ints (iZ a1 a2 a3 a4 near np pad)) 111 false none):=by rw[← hH5,Tr.get_set,if_pos rfl]
 clear hH5
 have hl6:=kK p2 agg111 sz111 (by rw[bW,vy])
 rw[fa86_0,aj,aQ,aj,(loadK53 ((p1 n (by omega)).trans o0)).2.2,aj,aQ,aj,hl6,aj,hnest]
 have lens:(ints (cX y (iZ a1 a2 a3 a4 near np pad) B)).length=33:=by rw[bW,lJ (vy ..) hB.1]
 rw[Cv Kz lens,qk ((p1 (n+1) (by omega)).trans o3) (by rw[lens,bW,lJ tX tX]) (wQ _),aj]
 generalize hH6:H5.set (n+1) (some (.cells (ints (cX y (iZ a1 a2 a3 a4 near np pad) B)) 113 false none))=H6
 have u1:H6.get (n+1)=some (.cells (ints (cX y (iZ a1 a2 a3 a4 near np pad) B)) 113 false none):=by rw[← hH6,Tr.get_set,if_pos rfl]
 have u2:∀ b,b≠n+1→H6.get b=H5.get b:=fun b hb=>by rw[← hH6,Tr.get_set,if_neg hb]
 clear hH6
 have ht:nQ H6 [n+1+1+1+2]=some (H6.set (n+1+1+1+2) none):=by
  have:H6.get (n+1+1+1+2)=some .deferred:=by rw[u2 _ (by omega),p1 _ (by omega)]; exact o4
  unfold nQ
  simp only[this]
  rfl
 rw[ht]
 show Ret (aq (resV P ((Tr.nil:Tm).set 6 (some (.pointer (some ⟨n+1,0,none⟩)))) (H6.set (n+1+1+1+2) none) tY) fun vs=>some (oneV vs,H6.set (n+1+1+1+2) none,n3)) n H _
 rw[res97,kK (t:=113) (s:=33) (L:=ints (cX y (iZ a1 a2 a3 a4 near np pad) B)) (e:=113) (vec:=none) (by rw[Tr.get_set,if_neg (by omega)]; exact u1) ZY Kz lens]
 refine⟨_,_,rfl,by omega,fun b hb=>?_⟩
 rw[Tr.get_set,if_neg (by omega),u2 _ (by omega),p1 _ (by omega),o1 _ (by omega) (by omega),r1 _ (by omega),k1 _ hb]
end Go.Proofs.Ytekajfobmnedjaa.spec
end
section
namespace Go.Ev
open Go
variable {P:Program} {ρ:Type}
theorem effK_gen {ex:List Extra} {H:Hp} {n:Nat} {v:Value} {op:Hp→Nat→(Value→Hp→Nat→Option ρ)→Option ρ} {R:Hp→Nat→Prop}
  (hex:∀ y ∈ ex,∃ t a,y=.l t a∧((∃ c e ro vec,H.get a.block=some (.cells c e ro vec))∨∃ c,H.get a.block=some (.rows c)))
  (hop:∀ Hm,(∀ b,¬ ldOf ex b→Hm.get b=H.get b)→∃ H2 n2,(∀ k,op Hm n k=k v H2 n2)∧(∀ b,ldOf ex b→H2.get b=Hm.get b)∧R H2 n2) :
  ∃ H' H2 n2,(∀ k,effK P ex H n op k=k v H' n2)∧R H2 n2∧(∀ b,ldOf ex b→H'.get b=H.get b)∧∀ b,¬ ldOf ex b→H'.get b=H2.get b:=by
 cases ex with
 | nil=>
  obtain⟨H2,n2,h1,_,h3⟩:=hop H (fun _ _=>rfl)
  exact⟨H2,H2,n2,fun k=>by unfold effK; exact h1 k,h3,fun b ⟨_,_,h,_⟩=>(by cases h),fun _ _=>rfl⟩
 | cons y l=>
  have hl:∀ z ∈ y::l,∃ t a,z=.l t a:=fun z hz=>by obtain⟨t,a,e,_⟩:=hex z hz; exact⟨t,a,e⟩
  obtain⟨H1,e1,e2⟩:=Cw (ex:=y::l) (H:=H) fun z hz=>by obtain⟨t,a,e,h⟩:=hex z hz; exact .inl ⟨t,a,e,h⟩
  have hnw:∀ b,¬ nwOf (y::l) b:=fun b ⟨id,c,e,h1,_⟩=>by obtain⟨t,a,q⟩:=hl _ h1; cases q
  obtain⟨H2,n2,h1,h2,h3⟩:=hop (pj (y::l) H1) fun b hb=>by
   rw[(qJ (H:=H1) b).2 (hnw _)]
   rcases e2 b with q | ⟨_,q⟩
   ·exact q
   ·exact absurd q hb
  have hsome:∀ z ∈ y::l,(∃ t a,z=.l t a∧(H2.get a.block).isSome)∨∃ id c e,z=.a id c e:=by
   intro z hz
   obtain⟨t,a,rfl,hc⟩:=hex z hz
   refine .inl ⟨t,a,rfl,?_⟩
   rw[h2 _ ⟨t,a,hz,rfl⟩,(qJ (H:=H1) a.block).2 (hnw _)]
   have hs:(H.get a.block).isSome:=by rcases hc with⟨c,e,ro,vec,hc⟩ | ⟨c,hc⟩ <;> rw[hc] <;> rfl
   rcases e2 a.block with q | ⟨⟨c,e,ro,vec,_,q⟩,_⟩
   ·rw[q]; exact hs
   ·rw[q]; rfl
  obtain⟨H3,f1,f2,f3⟩:=Cx (H0:=H) hsome
  have hck:chkX P (mj (y::l) H H3) (y::l)=true:=Ky fun z hz=>.inl (hl z hz)
  refine⟨mj (y::l) H H3,H2,n2,fun k=>?_,h3,fun b hb=>?_,fun b hb=>?_⟩
  ·unfold effK
   simp only[e1,aj,h1,f1,hck]
   rfl
  ·rw[(tW b).2 (hnw b)]; exact f2 b hb
  ·rw[(tW b).2 (hnw b)]; exact f3 b hb
theorem sJ (f:Nat→Value) (o:Nat) (v:Value) (k:Nat):putF f o [v] k=if k=o then v else f k:=by
 unfold putF
 by_cases h:k=o
 ·subst h; simp
 ·rw[if_neg h]
  by_cases h2:o≤k
  ·rw[if_pos h2]
   have:k-o≠0:=by omega
   cases hk:k-o with
   | zero=>exact absurd hk this
   | succ m=>simp
  ·rw[if_neg h2]
theorem putF_in (f:Nat→Value) (o:Nat) (vs:List Value) {j:Nat} {v:Value} (h:vs[j]?=some v):putF f o vs (o+j)=v:=by
 unfold putF
 rw[if_pos (by omega),show o+j-o=j by omega,h]
theorem Ek (f:Nat→Value) (o:Nat) (vs:List Value) {k:Nat} (h:k<o∨o+vs.length≤k):putF f o vs k=f k:=by
 unfold putF
 by_cases h2:o≤k
 ·rw[if_pos h2,List.getElem?_eq_none (by omega)]
 ·rw[if_neg h2]
end Go.Ev
end
section
namespace Go.Proofs.Ytekajfobmnedjaa.spec
open Go Go.Ev Go.Proofs.Ytekajfobmnedjaa.nestFits Go.Proofs.Ytekajfobmnedjaa.G
set_option maxRecDepth 100000
variable {ρ:Type}
theorem und115:P.underlying 115=some (.array 8 114):=by kernel_rfl
theorem und114:P.underlying 114=some (.array 3 113):=by kernel_rfl
theorem sz114:szT P 114=some 99:=by kernel_rfl
theorem at115 (b o:Nat) {i:Nat} (hi:i<8):aW P 115 (.pointer (some ⟨b,o,none⟩)) (.int .i64 i)=some (.pointer (some ⟨b,o+i * 99,none⟩)):=by
 unfold aW
 simp only[und115,Sy hi,sz114]
 rfl
theorem at114 (b o:Nat) {i:Nat} (hi:i<3):aW P 114 (.pointer (some ⟨b,o,none⟩)) (.int .i64 i)=some (.pointer (some ⟨b,o+i * 33,none⟩)):=by
 unfold aW
 simp only[und114,Sy hi,Kz]
 rfl
open Classical in
noncomputable def jZ (js:List Int) (i:Nat) (a b:Nat):Bool:=decide (∃ q,q<i∧J js a b q)
noncomputable def shP (js ks:List Int) (nj np p kd:Nat):List Int:=iZ (ks.getD (kd * 5+1) 0) (ks.getD (kd * 5+2) 0) (ks.getD (kd * 5+3) 0) (ks.getD (kd * 5+4) 0) (jZ js nj p) np p
def NestAt (f:Nat→Value) (js ks:List Int) (nj np p kd:Nat):Prop:=∃ B,lj (ks.getD (kd * 5) 0) (shP js ks nj np p kd) B 8∧∀ j,j<33→f (67+p * 99+kd * 33+j)=.int .i64 ((cX (ks.getD (kd * 5) 0) (shP js ks nj np p kd) B).getD j 0)
structure SiteF (f:Nat→Value) (x y z:Value) (js:List Int) (i:Nat):Prop where
 x:f 0=x
 y:f 1=y
 z:f 2=z
 near:∀ a b,a<8→b<8→f (3+a * 8+b)=.bool (jZ js i a b)
open Classical in
theorem nearB_next {js:List Int} {i A B:Nat} (hA:js[i * 2]?=some (A:Int)) (hB:js[i * 2+1]?=some (B:Int)) (a b:Nat) :
  jZ js (i+1) a b=if(a=A∧b=B)∨(a=B∧b=A) then true else jZ js i a b:=by
 have hJ:J js a b i↔(a=A∧b=B)∨(a=B∧b=A):=by
  unfold J; rw[hA,hB]; simp only[Option.some.injEq]; omega
 unfold jZ
 by_cases h:(a=A∧b=B)∨(a=B∧b=A)
 ·rw[if_pos h]
  exact decide_eq_true ⟨i,by omega,hJ.2 h⟩
 ·rw[if_neg h]
  congr 1
  exact propext ⟨fun⟨q,h1,h2⟩=>by
   rcases Nat.lt_or_ge q i with z | z
   ·exact⟨q,z,h2⟩
   ·rw[show q=i by omega] at h2
    exact absurd (hJ.1 h2) h,fun⟨q,h1,h2⟩=>⟨q,by omega,h2⟩⟩
theorem near_loop61 (c:Cal) (k:Nat) (g np nj:Nat) (js:List Int) (x y z:Value) (hnp:np≤8) (hnj:nj≤1000) (hjs:∀ i,i<nj→∃ A B:Nat,js[i * 2]?=some (A:Int)∧js[i * 2+1]?=some (B:Int)∧A<np∧B<np)
  (Q:Res→Prop) (H0:Hp) (n0:Nat) (hg:n0≤g) (hy0:dv H0 n0 2 y nj js) (hx:∀(H:Hp) (n:Nat) (f:Nat→Value),n0≤n→g<n→Keep n0 H0 H→cJ H g 859 117 f→SiteF f x y z js nj →
   (∀ p kd j,p<8→kd<3→j<33→f (67+p * 99+kd * 33+j)=.int .i64 0→True)→Q (SZ c k k (.pointer (some ⟨g,0,none⟩)) (.int .i64 np) (.int .i64 0) H n)) (hlx:lenV P 31 x=some (.int .i64 np)) :
  ∀(m i:Nat) (H:Hp) (n:Nat) (f:Nat→Value),n0≤n→g<n→Keep n0 H0 H→cJ H g 859 117 f→SiteF f x y z js i→i≤nj→nj-i≤m →
  Q (WQ c k m (.pointer (some ⟨g,0,none⟩)) y (.int .i64 nj) (.int .i64 i) H n):=by
 have body:∀(b1:Value→Value→Value→Value→Hp→Nat→Res) (m i:Nat) (H:Hp) (n:Nat) (f:Nat→Value),n0≤n→g<n→Keep n0 H0 H→cJ H g 859 117 f→SiteF f x y z js i→i≤nj →
   (∀(H:Hp) (n:Nat) (f:Nat→Value),n0≤n→g<n→Keep n0 H0 H→cJ H g 859 117 f→SiteF f x y z js (i+1)→i<nj→Q (b1 (.pointer (some ⟨g,0,none⟩)) y (.int .i64 nj) (.int .i64 ((i+1:Nat):Int)) H n)) →
   Q (WJ c k m b1 (.pointer (some ⟨g,0,none⟩)) y (.int .i64 nj) (.int .i64 i) H n):=by
  intro b1 m i H n f hn hgn hk hf hs hi ih
  unfold WJ B61_1
  generalize hS:SZ c k k=S
  rw[aJ cV,iJ]
  by_cases hlt:i<nj
  ·rw[if_pos (by omega)]
   obtain⟨A,B,hA,hB,hA8,hB8⟩:=hjs i hlt
   have hy:=(hy0.keep hk (Nat.le_refl _)).up hn
   obtain⟨bb,o,hix,hbn,hc⟩:=hy.at_ Sw sz88 hlt
   have hl2:i * 2+2≤js.length:=by rw[hy.1]; omega
   obtain⟨u,w,hu,hw,huw⟩:=JK hl2
   rw[hA] at hu; rw[hB] at hw
   cases hu; cases hw
   have hld:ak P H 88 ⟨bb,o+i * 2,none⟩=some (.agg ⟨[.int .i64 A,.int .i64 B]⟩):=by
    rw[cx hc UZ sz88 (by rw[bW]; exact hl2) (dY _),huw]
   obtain⟨H1,k1,k2,k3⟩:=HJ (P:=P) (ρ:=Value×Hp×Nat) (H:=H) (n:=n) (L:=[.int .i64 A,.int .i64 B]) ZQ rfl sz88 rfl rfl
   rw[hix,aj,aQ,aj,hld,aj,k3]
   have la:ak P H1 3 ⟨n,0+0,none⟩=some (.int .i64 A):=bx (jz k2) agg3 rfl
   have lb:ak P H1 3 ⟨n,0+1,none⟩=some (.int .i64 B):=bx (jz k2) agg3 rfl
   rw[fa88_0,aj,aQ,aj,la,aj,fa88_1,aj,aQ,aj,lb,aj,aj,aQ,aj,lb,aj,aj,aQ,aj,la,aj,qj,aj,Pz,aj,
    at109 _ _ (by omega),aj,at108 _ _ (by omega),aj,aj,Pz,aj,at109 _ _ (by omega),aj]
   have hf1:=hf.keep k1 hgn
   obtain⟨H2,H2',n2,e2,⟨r1,r2,r3⟩,r4,r5⟩:=effK_gen (P:=P) (ρ:=Value×Hp×Nat) (ex:=[.l 3 ⟨n,0+0,none⟩,.l 3 ⟨n,0+1,none⟩]) (H:=H1) (n:=n+1) (v:=undef)
    (op:=fun H n k=>aq (bz P 4 (.pointer (some ⟨g,0+3+A * 8+B * 1,none⟩)) (.bool true) H) fun H=>k undef H n)
    (R:=fun H' n'=>n'=n+1∧cJ H' g 859 117 (putF f (0+3+A * 8+B * 1) [.bool true])∧∀ b,b≠n→b≠g→H'.get b=H1.get b)
    (fun q hq=>by
     simp only[List.mem_cons,List.not_mem_nil,or_false] at hq
     rcases hq with rfl | rfl <;> exact⟨_,_,rfl,.inl ⟨_,_,_,_,k2⟩⟩)
    (fun Hm hm=>by
     have hld:∀ b,ldOf [.l 3 ⟨n,0+0,none⟩,.l 3 ⟨n,0+1,none⟩] b↔b=n:=fun b=>by
      constructor
      ·rintro⟨t,a,h1,h2⟩
       simp only[List.mem_cons,List.not_mem_nil,or_false,Extra.l.injEq] at h1
       rcases h1 with⟨_,rfl⟩ | ⟨_,rfl⟩ <;> exact h2.symm
      ·rintro rfl
       exact⟨3,⟨_,0+0,none⟩,by simp,rfl⟩
     have hmg:cJ Hm g 859 117 f:=by
      obtain⟨c,e1,e2,e3⟩:=hf1
      exact⟨c,by rw[hm g (fun h=>by have:=(hld g).1 h; omega)]; exact e1,e2,e3⟩
     obtain⟨H',s1,s2,s3⟩:=hmg.storeN (o:=0+3+A * 8+B * 1) (vs:=[.bool true]) (by simp; omega) rfl
     refine⟨H',n+1,fun k=>by rw[nW sz4 rfl,s1,aj],fun b hb=>s3 b (by have:=(hld b).1 hb; omega),rfl,s2,fun b hb hb'=>?_⟩
     rw[s3 b hb',hm b (fun h=>hb ((hld b).1 h))])
   rw[e2,at108 _ _ (by omega),aj]
   subst r1
   have hld:∀ b,ldOf [.l 3 ⟨n,0+0,none⟩,.l 3 ⟨n,0+1,none⟩] b↔b=n:=fun b=>by
    constructor
    ·rintro⟨t,a,h1,h2⟩
     simp only[List.mem_cons,List.not_mem_nil,or_false,Extra.l.injEq] at h1
     rcases h1 with⟨_,rfl⟩ | ⟨_,rfl⟩ <;> exact h2.symm
    ·rintro rfl
     exact⟨3,⟨_,0+0,none⟩,by simp,rfl⟩
   have hf2:cJ H2 g 859 117 (putF f (0+3+A * 8+B * 1) [.bool true]):=by
    obtain⟨c,e1,e2,e3⟩:=r2
    exact⟨c,by rw[r5 g (fun h=>by have:=(hld g).1 h; omega)]; exact e1,e2,e3⟩
   obtain⟨H3,s1,s2,s3⟩:=hf2.storeN (o:=0+3+B * 8+A * 1) (vs:=[.bool true]) (by simp; omega) rfl
   have hI:I64 ((i:Int)+1):=by unfold I64; omega
   have hcast:((i:Int)+1)=((i+1:Nat):Int):=by omega
   rw[nW sz4 rfl,s1,aj,aJ (cz hI),hcast]
   refine ih H3 (n+1) _ (by omega) (by omega) (fun b hb=>?_) s2 ⟨?_,?_,?_,fun a b ha hb=>?_⟩ hlt
   ·rw[s3 b (by omega),r5 b (fun h=>by have:=(hld b).1 h; omega),r3 b (by omega) (by omega),k1 b (by omega),hk b hb]
   ·rw[sJ,if_neg (by omega),sJ,if_neg (by omega)]; exact hs.x
   ·rw[sJ,if_neg (by omega),sJ,if_neg (by omega)]; exact hs.y
   ·rw[sJ,if_neg (by omega),sJ,if_neg (by omega)]; exact hs.z
   ·rw[sJ,sJ,nearB_next hA hB,hs.near a b ha hb]
    by_cases c1:3+a * 8+b=0+3+B * 8+A * 1
    ·rw[if_pos c1,if_pos (.inr ⟨by omega,by omega⟩)]
    ·rw[if_neg c1]
     by_cases c2:3+a * 8+b=0+3+A * 8+B * 1
     ·rw[if_pos c2,if_pos (.inl ⟨by omega,by omega⟩)]
     ·rw[if_neg c2,if_neg]
      rintro(⟨h1,h2⟩ | ⟨h1,h2⟩)
      ·exact c2 (by subst h1; subst h2; omega)
      ·exact c1 (by subst h1; subst h2; omega)
  ·rw[if_neg (by omega)]
   have hi':i=nj:=by omega
   subst hi'
   have lx:ak P H 31 ⟨g,0+0+0,none⟩=some x:=by
    have:=hf.load (P:=P) (k:=0) Hk (by omega)
    rw[hs.x] at this; exact this
   rw[qj,aj,yQ,aj,zv,aj,aQ,aj,lx,aj,hlx,aj,← hS]
   exact hx H n f hn hgn hk hf hs (fun _ _ _ _ _ _ _=>trivial)
 intro m
 induction m with
 | zero=>
  intro i H n f h1 h2 h3 h4 h5 h6 h7
  exact body _ 0 i H n f h1 h2 h3 h4 h5 h6 (fun _ _ _ _ _ _ _ _ h=>by omega)
 | succ m ih=>
  intro i H n f h1 h2 h3 h4 h5 h6 h7
  exact body _ (m+1) i H n f h1 h2 h3 h4 h5 h6 (fun H n f q1 q2 q3 q4 q5 q6=>ih (i+1) H n f q1 q2 q3 q4 q5 (by omega) (by omega))
end Go.Proofs.Ytekajfobmnedjaa.spec
end
section
namespace Go.Proofs.Ytekajfobmnedjaa.spec
open Go Go.Ev Go.Proofs.Ytekajfobmnedjaa.nestFits Go.Proofs.Ytekajfobmnedjaa.G
set_option maxRecDepth 100000
variable {ρ:Type}
theorem getD_some {X:List Int} {j:Nat} (h:j<X.length):X[j]?=some (X.getD j 0):=by
 rw[List.getD_eq_getElem?_getD,List.getElem?_eq_getElem h]; rfl
theorem nestOn_call (l:Nat) {H:Hp} {n g np pad:Nat} {f:Nat→Value} {x:Value} {near:Nat→Bool} {y a1 a2 a3 a4:Int} (hg:g<n) (hs:cJ H g 859 117 f) (hx:f 0=x) (hlen:lenV P 31 x=some (.int .i64 np)) (hnp:np≤8) (hpad:pad<8)
  (hnear:∀ b,b<8→f (3+pad * 8+b)=.bool (near b)) (hy:0≤y∧y≤1000) (h1:okR a1 a2) (h2:okR a3 a4) :
  ∃ B H' n',lj y (iZ a1 a2 a3 a4 near np pad) B 8∧(∀ k:Value→Hp→Nat→Option ρ,aY P (cal (l+5)) 97 [.pointer (some ⟨g,0,none⟩),.int .i64 pad,.agg ⟨[.int .i64 y,.int .i64 a1,.int .i64 a2,.int .i64 a3,.int .i64 a4]⟩] H n k =
   k (.agg ⟨ints (cX y (iZ a1 a2 a3 a4 near np pad) B)⟩) H' n')∧n≤n'∧Keep n H H':=by
 obtain⟨B,hB,H',n',e,h3,h4⟩:=nestOn_spec l hg hs hx hlen hnp hpad hnear hy h1 h2
 refine⟨B,H',n',hB,fun k=>?_,h3,h4⟩
 unfold aY
 have:(iY P 97 && bZ [.pointer (some ⟨g,0,none⟩),.int .i64 pad,.agg ⟨[.int .i64 y,.int .i64 a1,.int .i64 a2,.int .i64 a3,.int .i64 a4]⟩])=false:=by rw[Bool.and_eq_false_iff]; exact .inr rfl
 rw[this,e]
 rfl
def Cy (f:Nat→Value) (js ks:List Int) (nj np nk pd i:Nat):Prop:=∀ p kd,p<np→kd<nk→(p<pd∨(p=pd∧kd<i))→NestAt f js ks nj np p kd
def KindsOk (ks:List Int) (nk:Nat):Prop:=∀ kd,kd<nk→(0≤ks.getD (kd * 5) 0∧ks.getD (kd * 5) 0≤1000)∧okR (ks.getD (kd * 5+1) 0) (ks.getD (kd * 5+2) 0)∧okR (ks.getD (kd * 5+3) 0) (ks.getD (kd * 5+4) 0)
theorem nests_loop3 (l k m1:Nat) (g np nj nk:Nat) (js ks:List Int) (x y z:Value) (hnp:np≤8) (hnk:nk≤3) (hks:KindsOk ks nk)
  (Q:Res→Prop) (H0:Hp) (n0:Nat) (hg:n0≤g) (hz0:dv H0 n0 5 z nk ks) (hlx:lenV P 31 x=some (.int .i64 np)) (pd:Nat) (hpd:pd<np) (b2:Value→Value→Value→Hp→Nat→Res)
  (hb2:∀(H:Hp) (n:Nat) (f:Nat→Value),n0≤n→g<n→Keep n0 H0 H→cJ H g 859 117 f→SiteF f x y z js nj→Cy f js ks nj np nk (pd+1) 0→Q (b2 (.pointer (some ⟨g,0,none⟩)) (.int .i64 np) (.int .i64 ((pd+1:Nat):Int)) H n)) :
  ∀(m i:Nat) (H:Hp) (n:Nat) (f:Nat→Value),n0≤n→g<n→Keep n0 H0 H→cJ H g 859 117 f→SiteF f x y z js nj→Cy f js ks nj np nk pd i→i≤nk→nk-i≤m →
  Q (Wz (cal (l+5)) k m1 b2 m (.pointer (some ⟨g,0,none⟩)) (.int .i64 pd) (.int .i64 np) (.int .i64 pd) z (.int .i64 nk) (.int .i64 i) H n):=by
 have body:∀(b3:Value→Value→Value→Value→Value→Value→Value→Hp→Nat→Res) (m i:Nat) (H:Hp) (n:Nat) (f:Nat→Value),n0≤n→g<n→Keep n0 H0 H→cJ H g 859 117 f→SiteF f x y z js nj→Cy f js ks nj np nk pd i→i≤nk →
   (∀(H:Hp) (n:Nat) (f:Nat→Value),n0≤n→g<n→Keep n0 H0 H→cJ H g 859 117 f→SiteF f x y z js nj→Cy f js ks nj np nk pd (i+1)→i<nk →
    Q (b3 (.pointer (some ⟨g,0,none⟩)) (.int .i64 pd) (.int .i64 np) (.int .i64 pd) z (.int .i64 nk) (.int .i64 ((i+1:Nat):Int)) H n)) →
   Q (Wy (cal (l+5)) k m1 m b2 b3 (.pointer (some ⟨g,0,none⟩)) (.int .i64 pd) (.int .i64 np) (.int .i64 pd) z (.int .i64 nk) (.int .i64 i) H n):=by
  intro b3 m i H n f hn hgn hk hf hs hnt hi ih
  unfold Wy B61_3
  rw[aJ cV,iJ]
  by_cases hlt:i<nk
  ·rw[if_pos (by omega)]
   have hz:=(hz0.keep hk (Nat.le_refl _)).up hn
   obtain⟨bb,o,hix,hbn,hc⟩:=hz.at_ UY sz86 hlt
   have hl2:i * 5+5≤ks.length:=by rw[hz.1]; omega
   have hld:ak P H 86 ⟨bb,o+i * 5,none⟩=some (.agg ⟨[.int .i64 (ks.getD (i * 5) 0),.int .i64 (ks.getD (i * 5+1) 0),.int .i64 (ks.getD (i * 5+2) 0),.int .i64 (ks.getD (i * 5+3) 0),.int .i64 (ks.getD (i * 5+4) 0)]⟩):=by
    rw[cx hc agg86 sz86 (by rw[bW]; exact hl2) (dY _),Pv hl2]
   obtain⟨H1,k1,k2,k3⟩:=HJ (P:=P) (ρ:=Value×Hp×Nat) (H:=H) (n:=n) (L:=[.int .i64 (ks.getD (i * 5) 0),.int .i64 (ks.getD (i * 5+1) 0),.int .i64 (ks.getD (i * 5+2) 0),.int .i64 (ks.getD (i * 5+3) 0),.int .i64 (ks.getD (i * 5+4) 0)]) zero86 rfl sz86 rfl rfl
   rw[hix,aj,aQ,aj,hld,aj,k3]
   have hback:=kK k2 agg86 sz86 rfl
   rw[aQ,aj,hback,aj,qj,aj,fa117_2,aj,at115 _ _ (by omega),aj]
   have hf1:=hf.keep k1 hgn
   obtain⟨y1,y2,y3⟩:=hks i hlt
   obtain⟨B,H2,n2,hB,e2,e3,e4⟩:=nestOn_call (ρ:=Value×Hp×Nat) l (n:=n+1) (by omega) hf1 hs.x hlx hnp (show pd<8 by omega) (near:=jZ js nj pd) (fun b hb=>hs.near pd b (by omega) hb) y1 y2 y3
   rw[e2,at114 _ _ (by omega),aj]
   have hf2:=hf1.keep e4 (by omega)
   have lens:(ints (cX (ks.getD (i * 5) 0) (iZ (ks.getD (i * 5+1) 0) (ks.getD (i * 5+2) 0) (ks.getD (i * 5+3) 0) (ks.getD (i * 5+4) 0) (jZ js nj pd) np pd) B)).length=33:=by rw[bW,lJ (vy ..) hB.1]
   obtain⟨H3,s1,s2,s3⟩:=hf2.storeN (o:=0+67+pd * 99+i * 33) (vs:=ints (cX (ks.getD (i * 5) 0) (iZ (ks.getD (i * 5+1) 0) (ks.getD (i * 5+2) 0) (ks.getD (i * 5+3) 0) (ks.getD (i * 5+4) 0) (jZ js nj pd) np pd) B)) (by rw[lens]; omega) (wQ _)
   have hI:I64 ((i:Int)+1):=by unfold I64; omega
   have hcast:((i:Int)+1)=((i+1:Nat):Int):=by omega
   rw[Cv Kz lens,s1,aj,aJ (cz hI),hcast]
   refine ih H3 n2 _ (by omega) (by omega) (fun b hb=>?_) s2 ⟨?_,?_,?_,fun a b ha hb=>?_⟩ (fun p kd hp hkd hpk=>?_) hlt
   ·rw[s3 b (by omega),e4 b (by omega),k1 b (by omega),hk b hb]
   ·rw[Ek _ _ _ (.inl (by omega))]; exact hs.x
   ·rw[Ek _ _ _ (.inl (by omega))]; exact hs.y
   ·rw[Ek _ _ _ (.inl (by omega))]; exact hs.z
   ·rw[Ek _ _ _ (.inl (by omega))]; exact hs.near a b ha hb
   ·by_cases hnew:p=pd∧kd=i
    ·obtain⟨rfl,rfl⟩:=hnew
     refine⟨B,hB,fun j hj=>?_⟩
     rw[show 67+p * 99+kd * 33+j=0+67+p * 99+kd * 33+j by omega]
     refine putF_in _ _ _ (Ay ?_)
     have:j<(cX (ks.getD (kd * 5) 0) (iZ (ks.getD (kd * 5+1) 0) (ks.getD (kd * 5+2) 0) (ks.getD (kd * 5+3) 0) (ks.getD (kd * 5+4) 0) (jZ js nj p) np p) B).length:=by rw[← bW,lens]; exact hj
     exact getD_some this
    ·obtain⟨B',hB',hf'⟩:=hnt p kd hp hkd (by omega)
     refine⟨B',hB',fun j hj=>?_⟩
     rw[Ek _ _ _ (by rw[lens]; omega)]
     exact hf' j hj
  ·rw[if_neg (by omega)]
   have hi':i=nk:=by omega
   subst hi'
   have hI:I64 ((pd:Int)+1):=by unfold I64; omega
   have hcast:((pd:Int)+1)=((pd+1:Nat):Int):=by omega
   rw[aJ (cz hI),hcast]
   exact hb2 H n f hn hgn hk hf hs (fun p kd hp hkd h=>hnt p kd hp hkd (by omega))
 intro m
 induction m with
 | zero=>
  intro i H n f h1 h2 h3 h4 h5 h6 h7 h8
  exact body _ 0 i H n f h1 h2 h3 h4 h5 h6 h7 (fun _ _ _ _ _ _ _ _ _ h=>by omega)
 | succ m ih=>
  intro i H n f h1 h2 h3 h4 h5 h6 h7 h8
  exact body _ (m+1) i H n f h1 h2 h3 h4 h5 h6 h7 (fun H n f q1 q2 q3 q4 q5 q6 q7=>ih (i+1) H n f q1 q2 q3 q4 q5 q6 (by omega) (by omega))
theorem nests_loop2 (l k:Nat) (g np nj nk:Nat) (js ks:List Int) (x y z:Value) (hnp:np≤8) (hnk:nk≤3) (hks:KindsOk ks nk)
  (Q:Res→Prop) (H0:Hp) (n0:Nat) (hg:n0≤g) (hz0:dv H0 n0 5 z nk ks) (hlx:lenV P 31 x=some (.int .i64 np))
  (hq:∀(H:Hp) (n:Nat) (f:Nat→Value),n0≤n→g<n→Keep n0 H0 H→cJ H g 859 117 f→SiteF f x y z js nj→(∀ p kd,p<np→kd<nk→NestAt f js ks nj np p kd)→Q (some (.tuple ⟨[.pointer (some ⟨g,0,none⟩),.int .i64 0]⟩,H,n))) :
  ∀(m i:Nat) (H:Hp) (n:Nat) (f:Nat→Value),n0≤n→g<n→Keep n0 H0 H→cJ H g 859 117 f→SiteF f x y z js nj→Cy f js ks nj np nk i 0→i≤np→np-i+3≤m →
  Q (SZ (cal (l+5)) k m (.pointer (some ⟨g,0,none⟩)) (.int .i64 np) (.int .i64 i) H n):=by
 have body:∀(b2:Value→Value→Value→Hp→Nat→Res) (m i:Nat) (H:Hp) (n:Nat) (f:Nat→Value),n0≤n→g<n→Keep n0 H0 H→cJ H g 859 117 f→SiteF f x y z js nj→Cy f js ks nj np nk i 0→i≤np→3≤m →
   (∀(H:Hp) (n:Nat) (f:Nat→Value),n0≤n→g<n→Keep n0 H0 H→cJ H g 859 117 f→SiteF f x y z js nj→Cy f js ks nj np nk (i+1) 0→i<np→Q (b2 (.pointer (some ⟨g,0,none⟩)) (.int .i64 np) (.int .i64 ((i+1:Nat):Int)) H n)) →
   Q (Wk (cal (l+5)) k m b2 (.pointer (some ⟨g,0,none⟩)) (.int .i64 np) (.int .i64 i) H n):=by
  intro b2 m i H n f hn hgn hk hf hs hnt hi hm ih
  unfold Wk B61_2
  generalize hS:Wz (cal (l+5)) k m b2 m=S
  rw[aJ cV,iJ]
  by_cases hlt:i<np
  ·rw[if_pos (by omega)]
   have lz:ak P H 33 ⟨g,0+0+2,none⟩=some z:=by
    have:=hf.load (P:=P) (k:=2) agg33 (by omega)
    rw[hs.z] at this; exact this
   have e3:lenV P 33 z=some (.int .i64 nk):=hz0.len_eq UY
   rw[qj,aj,yQ,aj,Sv,aj,aQ,aj,lz,aj,e3,aj,← hS]
   exact nests_loop3 l k m g np nj nk js ks x y z hnp hnk hks Q H0 n0 hg hz0 hlx i hlt b2 (fun H n f q1 q2 q3 q4 q5 q6=>ih H n f q1 q2 q3 q4 q5 q6 hlt) m 0 H n f hn hgn hk hf hs hnt (by omega) (by omega)
  ·rw[if_neg (by omega)]
   exact hq H n f hn hgn hk hf hs (fun p kd hp hkd=>hnt p kd hp hkd (.inl (by omega)))
 intro m
 induction m with
 | zero=>
  intro i H n f h1 h2 h3 h4 h5 h6 h7 h8
  omega
 | succ m ih=>
  intro i H n f h1 h2 h3 h4 h5 h6 h7 h8
  exact body _ (m+1) i H n f h1 h2 h3 h4 h5 h6 h7 (by omega) (fun H n f q1 q2 q3 q4 q5 q6 q7=>ih (i+1) H n f q1 q2 q3 q4 q5 q6 (by omega) (by omega))
end Go.Proofs.Ytekajfobmnedjaa.spec
end
section
namespace Go.Proofs.Ytekajfobmnedjaa.spec
open Go Go.Ev Go.Proofs.Ytekajfobmnedjaa.nestFits Go.Proofs.Ytekajfobmnedjaa.G
set_option maxRecDepth 100000
variable {ρ:Type}
open Classical in
theorem nearB_zero (js:List Int) (a b:Nat):jZ js 0 a b=false:=by
 unfold jZ
 exact decide_eq_false (fun⟨q,h,_⟩=>by omega)
theorem build117 (x y z:Value):iQ P 117 [(0,.agg ⟨[x,y,z]⟩)]=some (.agg ⟨x::y::z::(List.replicate 64 (.bool false)++List.replicate 792 (.int .i64 0))⟩):=by kernel_rfl
def site0 (x y z:Value) (k:Nat):Value:=if k=0 then x else if k=1 then y else if k=2 then z else if k<67 then .bool false else .int .i64 0
theorem site0_at (x y z:Value) (k:Nat) (hk:k<859):(x::y::z::(List.replicate 64 (Value.bool false)++List.replicate 792 (Value.int .i64 0)))[k]?=some (site0 x y z k):=by
 match k,hk with
 | 0,_=>rfl
 | 1,_=>rfl
 | 2,_=>rfl
 | k+3,hk=>
  rw[List.getElem?_cons_succ,List.getElem?_cons_succ,List.getElem?_cons_succ]
  unfold site0
  rw[if_neg (by omega),if_neg (by omega),if_neg (by omega)]
  by_cases h:k<64
  ·rw[List.getElem?_append_left (by simp; omega),List.getElem?_replicate,if_pos h,if_pos (by omega)]
  ·rw[List.getElem?_append_right (by simp; omega),List.getElem?_replicate,List.length_replicate,if_pos (by omega),if_neg (by omega)]
structure Good (np nj nk:Nat) (ps js ks:List Int):Prop where
 np8:np≤8
 nj16:nj≤16
 nk3:nk≤3
 np1:np≠0
 nk1:nk≠0
 ok:¬ GBad np nj nk ps js ks
theorem Kk {np nj nk:Nat} {ps js ks:List Int} (h:dz np nj nk ps js ks=0):Good np nj nk ps js ks:=by
 unfold dz at h
 by_cases c1:8<np∨16<nj∨3<nk
 ·rw[if_pos c1] at h; omega
 ·rw[if_neg c1] at h
  by_cases c2:np=0∨nk=0
  ·rw[if_pos c2] at h; omega
  ·rw[if_neg c2] at h
   by_cases c3:GBad np nj nk ps js ks
   ·rw[if_pos c3] at h; omega
   ·exact⟨by omega,by omega,by omega,by omega,by omega,c3⟩
theorem Good.kinds {np nj nk:Nat} {ps js ks:List Int} (h:Good np nj nk ps js ks):KindsOk ks nk:=by
 intro kd hkd
 have hb:¬ KBad ks kd:=fun c=>h.ok (.inr (.inl ⟨kd,hkd,c⟩))
 unfold KBad at hb
 unfold okR
 omega
theorem Good.joins {np nj nk:Nat} {ps js ks:List Int} (h:Good np nj nk ps js ks) (hl:js.length=nj * 2) (i:Nat) (hi:i<nj):∃ A B:Nat,js[i * 2]?=some (A:Int)∧js[i * 2+1]?=some (B:Int)∧A<np∧B<np:=by
 have hb:∀ i,i<nj→okJ js np nj (js.getD (i * 2) 0) (js.getD (i * 2+1) 0):=(joins_all hl).2 fun c=>h.ok (.inr (.inr c))
 obtain⟨o1,o2,_,_⟩:=hb i hi
 refine⟨(js.getD (i * 2) 0).toNat,(js.getD (i * 2+1) 0).toNat,?_,?_,by omega,by omega⟩
 ·rw[getD_some (show i * 2<js.length by omega)]; congr 1; omega
 ·rw[getD_some (show i * 2+1<js.length by omega)]; congr 1; omega
def Opened (r:Res) (n:Nat) (H:Hp) (v:Value) (np nj nk:Nat) (js ks:List Int):Prop:=∃(g:Nat) (x y z:Value) (f:Nat→Value) (H':Hp) (n':Nat),r=some (.tuple ⟨[.pointer (some ⟨g,0,none⟩),.int .i64 0]⟩,H',n')∧n≤n'∧Keep n H H'∧n≤g∧g<n' ∧
 v=.agg ⟨[x,y,z]⟩∧cJ H' g 859 117 f∧SiteF f x y z js nj∧∀ p kd,p<np→kd<nk→NestAt f js ks nj np p kd
theorem open_spec (l:Nat) {np nj nk:Nat} {ps js ks:List Int} {H:Hp} {n:Nat} {v:Value} (hg:fW H n v np nj nk ps js ks) (hnp:np≤1000) (hnj:nj≤1000) (hnk:nk≤1000) :
  (dz np nj nk ps js ks≠0→Ret (OQ (cal (l+5)) KK v H n) n H (.tuple ⟨[.pointer none,.int .i64 (dz np nj nk ps js ks)]⟩)) ∧
  (dz np nj nk ps js ks=0→Opened (OQ (cal (l+5)) KK v H n) n H v np nj nk js ks):=by
 have hg0:=hg
 obtain⟨x,y,z,rfl,h1,h2,h3⟩:=hg
 unfold OQ B61_0
 generalize hS:WQ (cal (l+5)) KK KK=S
 rw[fy]
 simp only[bj,ptr]
 have hk:Keep n H (H.set n (some (.cells [x,y,z] 35 false none))):=(Keep.refl n H).set (Nat.le_refl _) _
 have hb:aZ (H.set n (some (.cells [x,y,z] 35 false none))) n 0 [x,y,z]:=aZ.new
 generalize H.set n (some (.cells [x,y,z] 35 false none))=H1 at hk hb ⊢
 have lg:∀ H2,aZ H2 n 0 [x,y,z]→ak P H2 35 ⟨n,0,none⟩=some (.agg ⟨[x,y,z]⟩):=fun H2 h=>cx (o:=0) (k:=0) h Kv sz35 (by simp) (by simp [h1.hole.1,h2.hole.1,h3.hole.1])
 obtain⟨H2,n2,e1,e2,e3⟩:=check_call (ρ:=Value×Hp×Nat) (l+1) (hg0.keep hk (show n≤n+1 by omega)) hnp hnj hnk
 rw[aQ,aj,lg H1 hb,aj,e1,aJ uZ]
 constructor
 ·intro hne
  rw[decide_eq_false hne,Bool.not_false,fK]
  exact⟨H2,n2,rfl,by omega,hk.trans e3 (by omega)⟩
 ·intro he
  have good:=Kk he
  have hb2:=hb.keep e3 (by omega)
  rw[decide_eq_true he,Bool.not_true,fk,aj,lg H2 hb2,aj,build117,aj,fy]
  simp only[bj,ptr]
  have kk:Keep n H H2:=hk.trans e3 (by omega)
  have hf:cJ (H2.set n2 (some (.cells (x::y::z::(List.replicate 64 (.bool false)++List.replicate 792 (.int .i64 0))) 117 false none))) n2 859 117 (site0 x y z):=cJ.new (by simp) _ (site0_at x y z)
  have kk2:Keep n H (H2.set n2 (some (.cells (x::y::z::(List.replicate 64 (.bool false)++List.replicate 792 (.int .i64 0))) 117 false none))):=kk.set (by omega) _
  generalize H2.set n2 (some (.cells (x::y::z::(List.replicate 64 (.bool false)++List.replicate 792 (.int .i64 0))) 117 false none))=H3 at hf kk2 ⊢
  have ly:ak P H3 32 ⟨n2,0+0+1,none⟩=some y:=hf.load (P:=P) (k:=1) agg32 (by omega)
  have ey:lenV P 32 y=some (.int .i64 nj):=h2.len_eq Sw
  rw[qj,aj,yQ,aj,Sq,aj,aQ,aj,ly,aj,ey,aj,← hS]
  have hlx:lenV P 31 x=some (.int .i64 np):=h1.len_eq Kw
  refine near_loop61 (cal (l+5)) KK n2 np nj js x y z good.np8 hnj (good.joins h2.1) (fun r=>Opened r n H (.agg ⟨[x,y,z]⟩) np nj nk js ks) H n (by omega) h2
   (fun H4 n4 f4 q1 q2 q3 q4 q5 _=>nests_loop2 l KK n2 np nj nk js ks x y z good.np8 good.nk3 good.kinds (fun r=>Opened r n H (.agg ⟨[x,y,z]⟩) np nj nk js ks) H n (by omega) h3 hlx
    (fun H5 n5 f5 p1 p2 p3 p4 p5 p6=>⟨n2,x,y,z,f5,H5,n5,rfl,by omega,p3,by omega,p2,rfl,p4,p5,p6⟩) KK 0 H4 n4 f4 q1 q2 q3 q4 q5 (fun p kd _ _ h=>by omega) (by omega) (by have:=good.np8; unfold KK; omega)) hlx
   KK 0 H3 (n2+1) (site0 x y z) (by omega) (by omega) kk2 hf ⟨rfl,rfl,rfl,fun a b ha hb=>?_⟩ (by omega) (by unfold KK; omega)
  unfold site0
  rw[if_neg (by omega),if_neg (by omega),if_neg (by omega),if_pos (by omega),nearB_zero]
theorem flat61:iY P 61=false:=by kernel_rfl
theorem call61 (l:Nat) (a:Value) (H:Hp) (n:Nat):(cal (l+1)).call 61 [a] H n=OQ (cal l) KK a H n:=by kernel_rfl
theorem open_call (l:Nat) (v:Value) (H:Hp) (n:Nat) (k:Value→Hp→Nat→Option ρ):aY P (cal (l+6)) 61 [v] H n k=aq (OQ (cal (l+5)) KK v H n) fun r=>k r.1 r.2.1 r.2.2:=by
 unfold aY
 rw[flat61,call61]
 rfl
end Go.Proofs.Ytekajfobmnedjaa.spec
end
section
namespace Go.Ev
open Go
variable {P:Program} {t t2 e e2:TypeId} {ρ:Type}
theorem MJ {H:Hp} {b o:Nat} {L:List Value} (h:aZ H b o L) (hn:L.all jJ=true) {m:Nat} (hm:L.length=m):tw H ⟨b,o,none⟩ m=some L:=by
 have:=RQ (s:=m) (k:=0) h (by omega) hn
 rw[Nat.add_zero] at this
 rw[this,Sj _ _ hm]
end Go.Ev
end
section
namespace Go.Proofs.Ytekajfobmnedjaa.spec
open Go Go.Ev Go.Proofs.Ytekajfobmnedjaa.nestFits Go.Proofs.Ytekajfobmnedjaa.G
set_option maxRecDepth 100000
variable {ρ:Type}
theorem zero4:iX P 4=some (.bool false):=by kernel_rfl
end Go.Proofs.Ytekajfobmnedjaa.spec
end
section
namespace Go.Proofs.Ytekajfobmnedjaa.spec
open Go Go.Ev Go.Proofs.Ytekajfobmnedjaa.nestFits Go.Proofs.Ytekajfobmnedjaa.G
set_option maxRecDepth 100000
variable {ρ:Type}
end Go.Proofs.Ytekajfobmnedjaa.spec
end
section
namespace Go.Proofs.Ytekajfobmnedjaa.spec
open Go Go.Ev Go.Proofs.Ytekajfobmnedjaa.nestFits Go.Proofs.Ytekajfobmnedjaa.G
set_option maxRecDepth 100000
variable {ρ:Type}
def ListR (H:Hp) (n:Nat) (v:Value) (len:Nat) (xs:List Int):Prop:=xs.length=len∧(∀ x ∈ xs,I64 x) ∧
 ((v=.slice none 0 0∧len=0)∨∃ b o cap,v=.slice (some ⟨b,o,none⟩) len cap∧b<n∧aZ H b o (ints xs))
theorem ListR.keep {H H':Hp} {n m len:Nat} {v:Value} {xs:List Int} (h:ListR H n v len xs) (hk:Keep n H H') (hm:n≤m):ListR H' m v len xs:=by
 obtain⟨h1,h2,h3⟩:=h
 refine⟨h1,h2,?_⟩
 rcases h3 with h3 | ⟨b,o,cap,e,a,c⟩
 ·exact .inl h3
 ·exact .inr ⟨b,o,cap,e,by omega,c.keep hk a⟩
theorem ListR.nil {H:Hp} {n len:Nat} {v:Value} {xs:List Int} (h:ListR H n v len xs) (hp:bq v=true):ListR .nil 0 v len xs:=by
 obtain⟨h1,h2,h3⟩:=h
 refine⟨h1,h2,?_⟩
 rcases h3 with h3 | ⟨b,o,cap,e,a,c⟩
 ·exact .inl h3
 ·subst e; simp [bq] at hp
theorem UK:P.underlying 44=some (.slice 3):=by kernel_rfl
theorem sl44:iw P 44=some 3:=by kernel_rfl
theorem sz3:szT P 3=some 1:=by kernel_rfl
theorem by3:vk P 3=some 8:=by kernel_rfl
theorem zero3:iX P 3=some (.int .i64 0):=by kernel_rfl
theorem ListR.len_eq {H:Hp} {n len:Nat} {v:Value} {xs:List Int} (h:ListR H n v len xs):lenV P 44 v=some (.int .i64 len):=by
 rcases h.2.2 with⟨rfl,rfl⟩ | ⟨b,o,cap,rfl,_⟩
 ·unfold lenV; simp only[UK]; rfl
 ·unfold lenV; simp only[UK]; rfl
theorem ListR.at_ {H:Hp} {n len:Nat} {v:Value} {xs:List Int} (h:ListR H n v len xs) {i:Nat} (hi:i<len) :
  ∃ b o,aW P 44 v (.int .i64 i)=some (.pointer (some ⟨b,o,none⟩))∧b<n∧ak P H 3 ⟨b,o,none⟩=some (.int .i64 (xs.getD i 0)):=by
 rcases h.2.2 with⟨rfl,rfl⟩ | ⟨b,o,cap,rfl,a,c⟩
 ·omega
 ·refine⟨b,o+i,?_,a,?_⟩
  ·unfold aW
   simp only[UK,Sy hi,sz3]
   simp [addA]
  ·exact bx c agg3 (Ay (getD_some (by rw[h.1]; exact hi)))
theorem ListR.src {H:Hp} {n len:Nat} {v:Value} {xs:List Int} (h:ListR H n v len xs):pJ H 1 v=some (ints xs,len):=by
 obtain⟨h1,_,h3⟩:=h
 rcases h3 with⟨rfl,rfl⟩ | ⟨b,o,cap,rfl,a,c⟩
 ·have:xs=[]:=List.length_eq_zero_iff.1 h1
  subst this; rfl
 ·unfold pJ
  simp only[MJ c (dY _) (show(ints xs).length=len * 1 by rw[bW,h1,Nat.mul_one])]
theorem VecAt.list {H:Hp} {n0 n len:Nat} {e:TypeId} {v:Value} {xs:List Int} (h:VecAt H n0 n 1 e v len xs) (hx:∀ x ∈ xs,I64 x):ListR H n v len xs:=by
 obtain⟨h1,h2⟩:=h
 refine⟨by omega,hx,?_⟩
 rcases h2 with h2 | ⟨b,e,a1,a2,a3,a4⟩
 ·exact .inl h2
 ·exact .inr ⟨b,0,capV,e,a2,jz a4⟩
theorem row44_0:Ax P 44 0 []=some ([],3):=by kernel_rfl
theorem list_spec (c:Cal) (k:Nat) {H:Hp} {n len:Nat} {v:Value} {xs:List Int} (h:ListR H n v len xs) (hlen:len≤1000) :
  ∃ u H' n',KQ c k v H n=some (u,H',n')∧n≤n'∧Keep n H H'∧ListR H' n' u len xs:=by
 unfold KQ B23_0 rowK
 rw[row44_0,aj]
 unfold newK
 dsimp only
 have hk:Keep n H (H.set n (some (.cells [] 3 false none))):=(Keep.refl n H).set (Nat.le_refl _) _
 have hg:(H.set n (some (.cells [] 3 false none))).get n=some (.cells [] 3 false none):=by rw[Tr.get_set,if_pos rfl]
 have h1:=h.keep hk (show n≤n+1 by omega)
 generalize H.set n (some (.cells [] 3 false none))=H1 at hk hg h1 ⊢
 have hold:tw H1 ⟨n,0,none⟩ (0 * 1)=some []:=MJ (L:=[]) (jz hg) rfl rfl
 have hbig:vV (0+len) 1 8=true:=by unfold vV; simp; omega
 have hb1:Nat.beq (bj (.int .i64 0)).length 1=true:=rfl
 have c0:Nat.blt 0 capV=true:=by decide +kernel
 by_cases h0:len=0
 ·subst h0
  have hx:xs=[]:=List.length_eq_zero_iff.1 h.1
  subst hx
  have ha:dW P (bare H1 (n+1)) 44 44 (.slice (some ⟨n,0,none⟩) 0 0) v=some (.slice (some ⟨n,0,none⟩) 0 0,bare (H1.set n (some (.cells [] 3 false none))) (n+1)):=by
   unfold dW
   have hs:pJ (bare H1 (n+1)).H 1 v=some ([],0):=h1.src
   have hold':tw (bare H1 (n+1)).H ⟨n,0,none⟩ (0 * 1)=some []:=hold
   simp only[sl44,sz3,by3,zero3,hs,hb1,hold',hbig]
   unfold rY
   have hst:storeN (bare H1 (n+1)).H (addA ⟨n,0,none⟩ (0 * 1)) []=some (H1.set n (some (.cells [] 3 false none))):=by
    unfold storeN
    simp only[addA,bare,hg]
    rfl
   have c1:Nat.ble (0+0) 0=true:=rfl
   simp only[c0,c1,hst]
   rfl
  unfold stK
  dsimp only
  rw[ha,aj]
  dsimp only [bare]
  exact⟨_,_,_,rfl,by omega,hk.set (Nat.le_refl _) _,rfl,h.2.1,.inr ⟨n,0,0,rfl,Nat.lt_succ_self _,_,[],by rw[Tr.get_set,if_pos rfl],rfl,fun k v h=>by simp [ints] at h⟩⟩
 ·have ha:dW P (bare H1 (n+1)) 44 44 (.slice (some ⟨n,0,none⟩) 0 0) v=some (.slice (some ⟨n+1,0,none⟩) len capV,bare (H1.set (n+1) (some (.cells (ints xs) 3 false (some 1)))) (n+1+1)):=by
   unfold dW
   have hs:pJ (bare H1 (n+1)).H 1 v=some (ints xs,len):=h1.src
   have hold':tw (bare H1 (n+1)).H ⟨n,0,none⟩ (0 * 1)=some []:=hold
   simp only[sl44,sz3,by3,zero3,hs,hb1,hold',hbig]
   unfold rY
   have c1:Nat.ble len 0=false:=by
    cases len with
    | zero=>exact absurd rfl h0
    | succ m=>rfl
   simp only[c0,c1,Jv,bare,oZ,List.nil_append,Nat.zero_add]
  unfold stK
  dsimp only
  rw[ha,aj]
  dsimp only [bare]
  exact⟨_,_,_,rfl,by omega,hk.set (by omega) _,h.1,h.2.1,.inr ⟨n+1,0,capV,rfl,Nat.lt_succ_self _,_,ints xs,by rw[Tr.get_set,if_pos rfl],rfl,fun k v h=>by simpa using h⟩⟩
theorem call23 (l:Nat) (a:Value) (H:Hp) (n:Nat):(cal (l+1)).call 23 [a] H n=KQ (cal l) KK a H n:=by kernel_rfl
theorem flat23:iY P 23=false:=by kernel_rfl
theorem list_call (l:Nat) {H:Hp} {n len:Nat} {v:Value} {xs:List Int} (h:ListR H n v len xs) (hlen:len≤1000) :
  ∃ u H' n',(∀ k:Value→Hp→Nat→Option ρ,aY P (cal (l+1)) 23 [v] H n k=k u H' n')∧n≤n'∧Keep n H H'∧ListR H' n' u len xs:=by
 obtain⟨u,H',n',e,h1,h2,h3⟩:=list_spec (cal l) KK h hlen
 refine⟨u,H',n',fun k=>?_,h1,h2,h3⟩
 unfold aY
 rw[flat23,call23,e]
 rfl
theorem ints_loop (c:Cal) (k:Nat) {H:Hp} {n len:Nat} {u v:Value} {xs ys:List Int} (hu:ListR H n u len xs) (hv:ListR H n v len ys) (hlen:len≤1000):∀(m i:Nat),i≤len→len-i≤m →
  ∃ r,VJ c k m u v (.int .i64 i) H n=some (.bool r,H,n)∧(r=true↔∀ q,i≤q→q<len→xs.getD q 0=ys.getD q 0):=by
 have body:∀(b1:Value→Value→Value→Hp→Nat→Res) (m i:Nat),i≤len→(i<len→∃ r,b1 u v (.int .i64 ((i+1:Nat):Int)) H n=some (.bool r,H,n)∧(r=true↔∀ q,i+1≤q→q<len→xs.getD q 0=ys.getD q 0)) →
   ∃ r,Vk c k m b1 u v (.int .i64 i) H n=some (.bool r,H,n)∧(r=true↔∀ q,i≤q→q<len→xs.getD q 0=ys.getD q 0):=by
  intro b1 m i hi ih
  unfold Vk B30_1
  rw[hu.len_eq,aj,aJ cV,iJ]
  by_cases hlt:i<len
  ·rw[if_pos (by omega)]
   obtain⟨b1',o1,x1,_,x3⟩:=hu.at_ hlt
   obtain⟨b2',o2,y1,_,y3⟩:=hv.at_ hlt
   rw[x1,aj,aQ,aj,x3,aj,y1,aj,aQ,aj,y3,aj,aJ uZ]
   cases hd:decide (xs.getD i 0=ys.getD i 0) with
   | false=>
    rw[Bool.not_false,fK]
    exact⟨false,rfl,⟨fun h=>(by cases h),fun h=>absurd (h i (Nat.le_refl _) hlt) (of_decide_eq_false hd)⟩⟩
   | true=>
    have hI:I64 ((i:Int)+1):=by unfold I64; omega
    have hcast:((i:Int)+1)=((i+1:Nat):Int):=by omega
    rw[Bool.not_true,fk,aJ (cz hI),hcast]
    obtain⟨r,e,h⟩:=ih hlt
    refine⟨r,e,h.trans ⟨fun g q q1 q2=>?_,fun g q q1 q2=>g q (by omega) q2⟩⟩
    rcases Nat.eq_or_lt_of_le q1 with z | z
    ·subst z; exact of_decide_eq_true hd
    ·exact g q z q2
  ·rw[if_neg (by omega)]
   exact⟨true,rfl,⟨fun _ q q1 q2=>by omega,fun _=>rfl⟩⟩
 intro m
 induction m with
 | zero=>intro i h1 h2; exact body _ 0 i h1 (fun h=>by omega)
 | succ m ih=>intro i h1 h2; exact body _ (m+1) i h1 (fun h=>ih (i+1) (by omega) (by omega))
theorem ints_spec (c:Cal) {H:Hp} {n l1 l2:Nat} {u v:Value} {xs ys:List Int} (hu:ListR H n u l1 xs) (hv:ListR H n v l2 ys) (h1:l1≤1000) :
  ∃ r,VQ c KK u v H n=some (.bool r,H,n)∧(r=true↔xs=ys):=by
 unfold VQ B30_0
 generalize hS:VJ c KK KK=S
 rw[hu.len_eq,aj,hv.len_eq,aj,aJ uZ]
 have lx:=hu.1
 have ly:=hv.1
 cases hd:decide ((l1:Int)=(l2:Int)) with
 | false=>
  rw[Bool.not_false,fK]
  refine⟨false,rfl,⟨fun h=>(by cases h),fun h=>?_⟩⟩
  subst h
  exact absurd (by omega) (of_decide_eq_false hd)
 | true=>
  have e:l1=l2:=by have:=of_decide_eq_true hd; omega
  subst e
  rw[Bool.not_true,fk,← hS]
  obtain⟨r,e,h⟩:=ints_loop c KK hu hv h1 KK 0 (by omega) (by unfold KK; omega)
  refine⟨r,e,h.trans ⟨fun g=>?_,fun g q _ _=>by rw[g]⟩⟩
  apply List.ext_getElem?
  intro q
  by_cases hq:q<l1
  ·rw[getD_some (by omega),getD_some (by omega),g q (Nat.zero_le _) hq]
  ·rw[List.getElem?_eq_none (by omega),List.getElem?_eq_none (by omega)]
theorem call30 (l:Nat) (a b:Value) (H:Hp) (n:Nat):(cal (l+1)).call 30 [a,b] H n=VQ (cal l) KK a b H n:=by kernel_rfl
theorem ints_call (l:Nat) {H:Hp} {n l1 l2:Nat} {u v:Value} {xs ys:List Int} (hu:ListR H n u l1 xs) (hv:ListR H n v l2 ys) (h1:l1≤1000) :
  ∃(r:Bool) (H':Hp) (n':Nat),(r=true↔xs=ys)∧(∀ k:Value→Hp→Nat→Option ρ,aY P (cal (l+1)) 30 [u,v] H n k=k (.bool r) H' n')∧n≤n'∧Keep n H H':=by
 obtain⟨r,H',n',⟨b,rfl,hb⟩,e1,e2,e3⟩:=eJ (ρ:=ρ) (P:=P) (cal:=cal (l+1)) (f:=30) (args:=[u,v]) (H:=H) (n:=n)
  (Pre:=fun H n=>ListR H n u l1 xs∧ListR H n v l2 ys) (Q:=fun r=>∃ b:Bool,r=.bool b∧(b=true↔xs=ys))
  (fun H n h=>by
   obtain⟨r,e,h2⟩:=ints_spec (cal l) h.1 h.2 h1
   exact⟨.bool r,⟨H,n,by rw[call30]; exact e,Nat.le_refl _,Keep.refl _ _⟩,r,rfl,h2⟩) (fun r ⟨b,e,_⟩ _=>by subst e; rfl) ⟨hu,hv⟩ (fun hp=>by
    simp only[bZ,Bool.and_eq_true] at hp
    exact⟨hu.nil hp.1,hv.nil hp.2.1⟩)
 exact⟨b,H',n',hb,e1,e2,e3⟩
end Go.Proofs.Ytekajfobmnedjaa.spec
end
section
namespace Go.Proofs.Ytekajfobmnedjaa.spec
open Go Go.Ev Go.Proofs.Ytekajfobmnedjaa.nestFits Go.Proofs.Ytekajfobmnedjaa.G
set_option maxRecDepth 100000
variable {ρ:Type}
end Go.Proofs.Ytekajfobmnedjaa.spec
end
section
namespace Go.Proofs.Ytekajfobmnedjaa.spec
open Go Go.Ev Go.Proofs.Ytekajfobmnedjaa.nestFits Go.Proofs.Ytekajfobmnedjaa.G
set_option maxRecDepth 100000
variable {ρ:Type}
end Go.Proofs.Ytekajfobmnedjaa.spec
end
section
namespace Go.Ev
open Go
variable {P:Program} {ρ:Type}
end Go.Ev
end
section
namespace Go.Proofs.Ytekajfobmnedjaa.spec
open Go Go.Ev Go.Proofs.Ytekajfobmnedjaa.nestFits Go.Proofs.Ytekajfobmnedjaa.G
set_option maxRecDepth 100000
variable {ρ:Type}
end Go.Proofs.Ytekajfobmnedjaa.spec
end
section
namespace Go.Proofs.Ytekajfobmnedjaa.spec
open Go Go.Ev Go.Proofs.Ytekajfobmnedjaa.nestFits Go.Proofs.Ytekajfobmnedjaa.G
set_option maxRecDepth 100000
variable {ρ:Type}
end Go.Proofs.Ytekajfobmnedjaa.spec
end
section
namespace Go.Proofs.Ytekajfobmnedjaa.spec
open Go Go.Ev Go.Proofs.Ytekajfobmnedjaa.nestFits Go.Proofs.Ytekajfobmnedjaa.G
set_option maxRecDepth 100000
variable {ρ:Type}
end Go.Proofs.Ytekajfobmnedjaa.spec
end
section
namespace Go.Proofs.Ytekajfobmnedjaa.spec
open Go Go.Ev Go.Proofs.Ytekajfobmnedjaa.nestFits Go.Proofs.Ytekajfobmnedjaa.G
set_option maxRecDepth 100000
variable {ρ:Type}
end Go.Proofs.Ytekajfobmnedjaa.spec
end
section
namespace Go.Proofs.Ytekajfobmnedjaa.spec
open Go Go.Ev Go.Proofs.Ytekajfobmnedjaa.nestFits Go.Proofs.Ytekajfobmnedjaa.G
set_option maxRecDepth 100000
variable {ρ:Type}
end Go.Proofs.Ytekajfobmnedjaa.spec
end
section
namespace Go.Proofs.Ytekajfobmnedjaa.spec
open Go Go.Ev Go.Proofs.Ytekajfobmnedjaa.nestFits Go.Proofs.Ytekajfobmnedjaa.G
set_option maxRecDepth 100000
variable {ρ:Type}
end Go.Proofs.Ytekajfobmnedjaa.spec
end
section
namespace Go.Proofs.Ytekajfobmnedjaa.spec
open Go Go.Ev Go.Proofs.Ytekajfobmnedjaa.nestFits Go.Proofs.Ytekajfobmnedjaa.G
set_option maxRecDepth 100000
variable {ρ:Type}
end Go.Proofs.Ytekajfobmnedjaa.spec
end
section
namespace Go.Proofs.Ytekajfobmnedjaa.spec
open Go Go.Ev Go.Proofs.Ytekajfobmnedjaa.nestFits Go.Proofs.Ytekajfobmnedjaa.G
set_option maxRecDepth 100000
variable {ρ:Type}
theorem AJ {op:KD ρ→Option ρ} {ex:Extra} {H:Hp} {n:Nat} {k:KD ρ}:bJ (.bool false) false op ex H n k=op k:=rfl
theorem Gj {op:KD ρ→Option ρ} {ex:Extra} {H:Hp} {n:Nat} {k:KD ρ}:bJ (.bool true) false op ex H n k=k undef ex H n:=rfl
theorem AQ {w:Bool} {op:KD ρ→Option ρ} {ex:Extra} {H:Hp} {n:Nat} {k:KD ρ}:bJ undef w op ex H n k=k undef ex H n:=rfl
end Go.Proofs.Ytekajfobmnedjaa.spec
end
section
namespace Go.Ev
open Go
variable {P:Program} {t:TypeId} {x y:Operand} {a b:Int} {ρ:Type}
theorem bin_rem (hb:b≠0):binV P .rem t x y (.int .i64 a) (.int .i64 b)=some (.int .i64 (a.tmod b)):=by
 refine vY (by simp [binOp,Op.intDiv,hb]) rfl ?_
 rintro m n rfl rfl
 exact .inr rfl
theorem rem_small {a n:Nat} (h:n≠0):((a:Int).tmod (n:Int))=((a % n:Nat):Int):=by
 rw[Int.tmod_eq_emod_of_nonneg (by omega)]
 rfl
end Go.Ev
end
section
namespace Go.Proofs.Ytekajfobmnedjaa.spec
open Go Go.Ev Go.Proofs.Ytekajfobmnedjaa.nestFits Go.Proofs.Ytekajfobmnedjaa.G
set_option maxRecDepth 100000
variable {ρ:Type}
theorem list_at (c:Cal) (k:Nat) {H:Hp} {n len:Nat} {v:Value} {xs:List Int} (h:ListR H n v len xs) (h0:len≠0) (hlen:len≤1000) :
  ∃ H' n',KQ c k v H n=some (.slice (some ⟨n+1,0,none⟩) len capV,H',n')∧n+1<n'∧Keep n H H'∧H'.get (n+1)=some (.cells (ints xs) 3 false (some 1)):=by
 unfold KQ B23_0 rowK
 rw[row44_0,aj]
 unfold newK
 dsimp only
 have hk:Keep n H (H.set n (some (.cells [] 3 false none))):=(Keep.refl n H).set (Nat.le_refl _) _
 have hg:(H.set n (some (.cells [] 3 false none))).get n=some (.cells [] 3 false none):=by rw[Tr.get_set,if_pos rfl]
 have h1:=h.keep hk (show n≤n+1 by omega)
 generalize H.set n (some (.cells [] 3 false none))=H1 at hk hg h1 ⊢
 have hold:tw H1 ⟨n,0,none⟩ (0 * 1)=some []:=MJ (L:=[]) (jz hg) rfl rfl
 have hbig:vV (0+len) 1 8=true:=by unfold vV; simp; omega
 have hb1:Nat.beq (bj (.int .i64 0)).length 1=true:=rfl
 have c0:Nat.blt 0 capV=true:=by decide +kernel
 have ha:dW P (bare H1 (n+1)) 44 44 (.slice (some ⟨n,0,none⟩) 0 0) v=some (.slice (some ⟨n+1,0,none⟩) len capV,bare (H1.set (n+1) (some (.cells (ints xs) 3 false (some 1)))) (n+1+1)):=by
  unfold dW
  have hs:pJ (bare H1 (n+1)).H 1 v=some (ints xs,len):=h1.src
  have hold':tw (bare H1 (n+1)).H ⟨n,0,none⟩ (0 * 1)=some []:=hold
  simp only[sl44,sz3,by3,zero3,hs,hb1,hold',hbig]
  unfold rY
  have c1:Nat.ble len 0=false:=by
   cases len with
   | zero=>exact absurd rfl h0
   | succ m=>rfl
  simp only[c0,c1,Jv,bare,oZ,List.nil_append,Nat.zero_add]
 unfold stK
 dsimp only
 rw[ha,aj]
 dsimp only [bare]
 exact⟨_,_,rfl,by omega,hk.set (by omega) _,by rw[Tr.get_set,if_pos rfl]⟩
end Go.Proofs.Ytekajfobmnedjaa.spec
end
section
namespace Go.Proofs.Ytekajfobmnedjaa.spec
open Go Go.Ev Go.Proofs.Ytekajfobmnedjaa.nestFits Go.Proofs.Ytekajfobmnedjaa.G
set_option maxRecDepth 100000
variable {ρ:Type}
theorem agg44:ew P 44=some false:=by kernel_rfl
theorem sz44:szT P 44=some 1:=by kernel_rfl
end Go.Proofs.Ytekajfobmnedjaa.spec
end
section
namespace Go.Proofs.Ytekajfobmnedjaa.spec
open Go Go.Ev Go.Proofs.Ytekajfobmnedjaa.nestFits Go.Proofs.Ytekajfobmnedjaa.G
set_option maxRecDepth 100000
variable {ρ:Type}
end Go.Proofs.Ytekajfobmnedjaa.spec
end
section
namespace Go.Proofs.Ytekajfobmnedjaa.spec
open Go Go.Ev Go.Proofs.Ytekajfobmnedjaa.nestFits Go.Proofs.Ytekajfobmnedjaa.G
set_option maxRecDepth 100000
end Go.Proofs.Ytekajfobmnedjaa.spec
end
section
namespace Go.Proofs.Ytekajfobmnedjaa.spec
open Go Go.Ev Go.Proofs.Ytekajfobmnedjaa.nestFits Go.Proofs.Ytekajfobmnedjaa.G
def lZ (ap:List Nat→Bool) (np:Nat):Nat→List Nat→List (List Nat)
 | 0,_=>[]
 | d+1,pads=>(if ap (pads++[np-(d+1)])=true then(pads++[np-(d+1)])::lZ ap np d (pads++[np-(d+1)]) else[])++lZ ap np d pads
def tJ (best l:List Nat):List Nat:=if best.length<l.length then l else best
def fQ (a:Nat):List Nat→Prop
 | []=>True
 | x::t=>a≤x∧fQ (x+1) t
theorem fQ.le {a b:Nat}:∀ {t:List Nat},fQ a t→b≤a→fQ b t
 | [],_,_=>trivial
 | _::_,⟨h1,h2⟩,hb=>⟨by omega,h2⟩
theorem fQ.mem {a x:Nat}:∀ {t:List Nat},fQ a t→x ∈ t→a≤x
 | y::t,⟨h1,h2⟩,h=>by
  rcases List.mem_cons.1 h with e | h
  ·omega
  ·have:=h2.mem h; omega
def lexN (a b:List Nat):Prop:=∃ p x y s t,a=p++x::s∧b=p++y::t∧x<y
theorem lexN.asymm:∀ {a b:List Nat},lexN a b→¬ lexN b a:=by
 rintro a b ⟨p,x,y,s,t,rfl,rfl,h⟩ ⟨q,x',y',s',t',h1,h2,h'⟩
 induction p generalizing q with
 | nil=>
  cases q with
  | nil=>simp at h1 h2; omega
  | cons z q=>simp at h1 h2; omega
 | cons z p ih=>
  cases q with
  | nil=>simp at h1 h2; omega
  | cons z' q=>simp at h1 h2; exact ih q h1.2 h2.2
theorem rQ {ap:List Nat→Bool} {np:Nat}:∀(d:Nat) (pads M:List Nat),d≤np→M ∈ lZ ap np d pads→∃ t,t≠[]∧M=pads++t∧fQ (np-d) t∧(∀ x ∈ t,x<np)∧ap M=true
 | 0,pads,M,_,h=>by cases h
 | d+1,pads,M,hd,h=>by
  unfold lZ at h
  rcases List.mem_append.1 h with h | h
  ·by_cases c:ap (pads++[np-(d+1)])=true
   ·rw[if_pos c] at h
    rcases List.mem_cons.1 h with e | h
    ·exact⟨[np-(d+1)],by simp,e,⟨Nat.le_refl _,trivial⟩,fun x hx=>by simp at hx; omega,by rw[e]; exact c⟩
    ·obtain⟨t,t1,t2,t3,t4,t5⟩:=rQ d _ M (by omega) h
     exact⟨(np-(d+1))::t,by simp,by rw[t2]; simp,⟨Nat.le_refl _,t3.le (by omega)⟩,fun x hx=>(List.mem_cons.1 hx).elim (fun e=>by omega) (t4 x),t5⟩
   ·rw[if_neg c] at h; cases h
  ·obtain⟨t,t1,t2,t3,t4,t5⟩:=rQ d _ M (by omega) h
   exact⟨t,t1,t2,t3.le (by omega),t4,t5⟩
theorem xJ {ap:List Nat→Bool} {np:Nat} (hp:∀ a b,ap (a++b)=true→ap a=true):∀(d:Nat) (pads t:List Nat),d≤np→t≠[]→fQ (np-d) t→(∀ x ∈ t,x<np)→ap (pads++t)=true→pads++t ∈ lZ ap np d pads
 | 0,pads,t,_,h,h1,h2,_=>by
  cases t with
  | nil=>exact absurd rfl h
  | cons x t=>have:=h1.1; have:=h2 x List.mem_cons_self; omega
 | d+1,pads,t,hd,h,h1,h2,h3=>by
  cases t with
  | nil=>exact absurd rfl h
  | cons x t=>
   unfold lZ
   rw[List.mem_append]
   by_cases e:x=np-(d+1)
   ·left
    have h3':ap ((pads++[np-(d+1)])++t)=true:=by rw[← e]; simpa using h3
    rw[if_pos (hp _ _ h3')]
    cases t with
    | nil=>rw[e]; exact List.mem_cons_self
    | cons y t=>
     refine List.mem_cons_of_mem _ ?_
     have:=xJ hp d (pads++[np-(d+1)]) (y::t) (by omega) (by simp) (h1.2.le (by omega)) (fun z hz=>h2 z (List.mem_cons_of_mem _ hz)) h3'
     rw[e]
     simpa using this
   ·right
    have:=h1.1
    exact xJ hp d pads (x::t) (by omega) (by simp) ⟨by omega,h1.2⟩ h2 h3
theorem EJ {ap:List Nat→Bool} {np:Nat}:∀(d:Nat) (pads:List Nat),d≤np→(lZ ap np d pads).Pairwise fun a b=>a.length=b.length→lexN a b
 | 0,pads,_=>.nil
 | d+1,pads,hd=>by
  unfold lZ
  refine List.pairwise_append.2 ⟨?_,EJ d pads (by omega),?_⟩
  ·by_cases c:ap (pads++[np-(d+1)])=true
   ·rw[if_pos c]
    refine List.pairwise_cons.2 ⟨fun b hb e=>?_,EJ d _ (by omega)⟩
    obtain⟨t,t1,t2,_⟩:=rQ d _ b (by omega) hb
    subst t2
    have:t.length=0:=by simp at e; exact List.length_eq_zero_iff.2 e
    exact absurd (List.length_eq_zero_iff.1 this) t1
   ·rw[if_neg c]; exact .nil
  ·intro a ha b hb e
   by_cases c:ap (pads++[np-(d+1)])=true
   ·rw[if_pos c] at ha
    have hA:∃ t,a=pads++(np-(d+1))::t:=by
     rcases List.mem_cons.1 ha with e | ha
     ·exact⟨[],e⟩
     ·obtain⟨t,t1,t2,_⟩:=rQ d _ a (by omega) ha
      exact⟨t,by rw[t2]; simp⟩
    obtain⟨t,rfl⟩:=hA
    obtain⟨s,s1,rfl,s3,s4,_⟩:=rQ d _ b (by omega) hb
    cases s with
    | nil=>exact absurd rfl s1
    | cons y s=>
     have:=s3.1
     have:=s4 y List.mem_cons_self
     exact⟨pads,np-(d+1),y,t,s,rfl,rfl,by omega⟩
   ·rw[if_neg c] at ha; cases ha
theorem MQ:∀(L:List (List Nat)) (b:List Nat),(L.foldl tJ b=b∧∀ x ∈ L,x.length≤b.length) ∨
  ∃ L1 L2,L=L1++L.foldl tJ b::L2∧b.length<(L.foldl tJ b).length∧(∀ x ∈ L1,x.length<(L.foldl tJ b).length)∧∀ x ∈ L2,x.length≤(L.foldl tJ b).length
 | [],b=>.inl ⟨rfl,fun _ h=>(by cases h)⟩
 | y::L,b=>by
  rw[List.foldl_cons]
  by_cases c:b.length<y.length
  ·have e:tJ b y=y:=if_pos c
   rw[e]
   rcases MQ L y with⟨h1,h2⟩ | ⟨L1,L2,h1,h2,h3,h4⟩
   ·rw[h1]
    exact .inr ⟨[],L,rfl,c,fun _ h=>(by cases h),h2⟩
   ·refine .inr ⟨y::L1,L2,by rw[List.cons_append,← h1],by omega,fun x hx=>?_,h4⟩
    rcases List.mem_cons.1 hx with rfl | hx
    ·exact h2
    ·exact h3 x hx
  ·have e:tJ b y=b:=if_neg c
   rw[e]
   rcases MQ L b with⟨h1,h2⟩ | ⟨L1,L2,h1,h2,h3,h4⟩
   ·rw[h1]
    refine .inl ⟨rfl,fun x hx=>?_⟩
    rcases List.mem_cons.1 hx with rfl | hx
    ·omega
    ·exact h2 x hx
   ·refine .inr ⟨y::L1,L2,by rw[List.cons_append,← h1],h2,fun x hx=>?_,h4⟩
    rcases List.mem_cons.1 hx with rfl | hx
    ·omega
    ·exact h3 x hx
def pq (ap:List Nat→Bool) (np:Nat):List Nat:=([]::lZ ap np np []).foldl tJ []
def qq (ap:List Nat→Bool) (np:Nat) (t:List Nat):Prop:=fQ 0 t∧(∀ x ∈ t,x<np)∧ap t=true
theorem proofL_spec {ap:List Nat→Bool} {np:Nat} (hp:∀ a b,ap (a++b)=true→ap a=true) (h0:ap []=true):qq ap np (pq ap np)∧(∀ t,qq ap np t→t.length≤(pq ap np).length) ∧
  ∀ t,qq ap np t→t.length=(pq ap np).length→t=pq ap np∨lexN (pq ap np) t:=by
 have e:pq ap np=(lZ ap np np []).foldl tJ []:=rfl
 have comp:∀ t,qq ap np t→t≠[]→t ∈ lZ ap np np []:=fun t ⟨h1,h2,h3⟩ hne=>xJ hp np [] t (Nat.le_refl _) hne (by rw[Nat.sub_self]; exact h1) h2 h3
 rw[e]
 rcases MQ (lZ ap np np []) [] with⟨h1,h2⟩ | ⟨L1,L2,h1,h2,h3,h4⟩
 ·rw[h1]
  refine⟨⟨trivial,fun _ h=>(by cases h),h0⟩,fun t ht=>?_,fun t ht hl=>.inl (List.length_eq_zero_iff.1 hl)⟩
  cases t with
  | nil=>exact Nat.le_refl _
  | cons x t=>exact h2 _ (comp _ ht (by simp))
 ·have hm:(lZ ap np np []).foldl tJ [] ∈ lZ ap np np []:=by
   have:∀ r,lZ ap np np []=L1++r::L2→r ∈ lZ ap np np []:=fun r h=>by rw[h]; exact List.mem_append_right _ List.mem_cons_self
   exact this _ h1
  have ho:=EJ (ap:=ap) np [] (Nat.le_refl np)
  generalize (lZ ap np np []).foldl tJ []=r at h1 h2 h3 h4 hm
  obtain⟨t,t1,t2,t3,t4,t5⟩:=rQ np [] r (Nat.le_refl _) hm
  rw[List.nil_append] at t2
  subst t2
  rw[Nat.sub_self] at t3
  refine⟨⟨t3,t4,t5⟩,fun s hs=>?_,fun s hs hl=>?_⟩
  ·cases s with
   | nil=>exact Nat.zero_le _
   | cons x s=>
    have hc:=comp _ hs (by simp)
    rw[h1] at hc
    rcases List.mem_append.1 hc with hc | hc
    ·exact Nat.le_of_lt (h3 _ hc)
    ·rcases List.mem_cons.1 hc with e | hc
     ·rw[e]; exact Nat.le_refl _
     ·exact h4 _ hc
  ·cases s with
   | nil=>
    have:r.length=0:=hl.symm
    rw[this] at h2
    cases h2
   | cons x s=>
    have hc:=comp _ hs (by simp)
    rw[h1] at hc ho
    rcases List.mem_append.1 hc with hc | hc
    ·have:=h3 _ hc; omega
    ·rcases List.mem_cons.1 hc with e | hc
     ·exact .inl e
     ·obtain⟨_,o2,_⟩:=List.pairwise_append.1 ho
      exact .inr ((List.pairwise_cons.1 o2).1 _ hc hl.symm)
end Go.Proofs.Ytekajfobmnedjaa.spec
end
section
namespace Go.Proofs.Ytekajfobmnedjaa.spec
open Go Go.Ev Go.Proofs.Ytekajfobmnedjaa.nestFits Go.Proofs.Ytekajfobmnedjaa.G
set_option maxRecDepth 100000
variable {ρ:Type}
end Go.Proofs.Ytekajfobmnedjaa.spec
end
section
namespace Go.Proofs.Ytekajfobmnedjaa.spec
open Go Go.Ev Go.Proofs.Ytekajfobmnedjaa.nestFits Go.Proofs.Ytekajfobmnedjaa.G
set_option maxRecDepth 100000
variable {ρ:Type}
end Go.Proofs.Ytekajfobmnedjaa.spec
end
section
namespace Go.Proofs.Ytekajfobmnedjaa.spec
open Go Go.Ev Go.Proofs.Ytekajfobmnedjaa.nestFits Go.Proofs.Ytekajfobmnedjaa.G
set_option maxRecDepth 100000
variable {ρ:Type}
end Go.Proofs.Ytekajfobmnedjaa.spec
end
section
namespace Go.Proofs.Ytekajfobmnedjaa.spec
open Go Go.Ev Go.Proofs.Ytekajfobmnedjaa.nestFits Go.Proofs.Ytekajfobmnedjaa.G
set_option maxRecDepth 100000
variable {ρ:Type}
theorem wV {H:Hp} {b:Nat} {v:Value} {e t:TypeId} (h:H.get b=some (.cells [v] e false none)) (ht:ew P t=some false) (h1:jJ v=true) (h2:rX v=true):ak P H t ⟨b,0,none⟩=some v:=
 bw (o:=0) (k:=0) (jz h) ht rfl h1 h2
end Go.Proofs.Ytekajfobmnedjaa.spec
end
section
namespace Go.Proofs.Ytekajfobmnedjaa.spec
open Go Go.Ev Go.Proofs.Ytekajfobmnedjaa.nestFits Go.Proofs.Ytekajfobmnedjaa.G
set_option maxRecDepth 100000
variable {ρ:Type}
end Go.Proofs.Ytekajfobmnedjaa.spec
end
section
namespace Go.Proofs.Ytekajfobmnedjaa.spec
open Go Go.Ev Go.Proofs.Ytekajfobmnedjaa.nestFits Go.Proofs.Ytekajfobmnedjaa.G
set_option maxRecDepth 100000
variable {ρ:Type}
def upd (o:Nat→Value) (i:Nat) (v:Value):Nat→Value:=fun j=>match Nat.beq j i with
 | true=>v
 | false=>o j
end Go.Proofs.Ytekajfobmnedjaa.spec
end
section
namespace Go.Proofs.Ytekajfobmnedjaa.spec
open Go Go.Ev Go.Proofs.Ytekajfobmnedjaa.nestFits Go.Proofs.Ytekajfobmnedjaa.G
set_option maxRecDepth 100000
variable {ρ:Type}
end Go.Proofs.Ytekajfobmnedjaa.spec
end
section
namespace Go.Proofs.Ytekajfobmnedjaa.spec
open Go Go.Ev Go.Proofs.Ytekajfobmnedjaa.nestFits Go.Proofs.Ytekajfobmnedjaa.G
set_option maxRecDepth 100000
variable {ρ:Type}
end Go.Proofs.Ytekajfobmnedjaa.spec
end
section
namespace Go.Proofs.Ytekajfobmnedjaa.spec
open Go Go.Ev Go.Proofs.Ytekajfobmnedjaa.nestFits Go.Proofs.Ytekajfobmnedjaa.G
set_option maxRecDepth 100000
variable {ρ:Type}
end Go.Proofs.Ytekajfobmnedjaa.spec
end
section
namespace Go.Proofs.Ytekajfobmnedjaa.spec
open Go Go.Ev Go.Proofs.Ytekajfobmnedjaa.nestFits Go.Proofs.Ytekajfobmnedjaa.G
set_option maxRecDepth 100000
variable {ρ:Type}
end Go.Proofs.Ytekajfobmnedjaa.spec
end
section
namespace Go.Proofs.Ytekajfobmnedjaa.spec
open Go Go.Ev Go.Proofs.Ytekajfobmnedjaa.nestFits Go.Proofs.Ytekajfobmnedjaa.G
set_option maxRecDepth 100000
variable {ρ:Type}
theorem flat76:iY P 76=false:=by kernel_rfl
theorem call76 (l:Nat) (a:Value) (H:Hp) (n:Nat):(cal (l+1)).call 76 [a] H n=OV (cal l) KK a H n:=by kernel_rfl
end Go.Proofs.Ytekajfobmnedjaa.spec
end
section
namespace Go.Proofs.Ytekajfobmnedjaa.spec
open Go Go.Ev Go.Proofs.Ytekajfobmnedjaa.nestFits Go.Proofs.Ytekajfobmnedjaa.G
set_option maxRecDepth 100000
variable {ρ:Type}
theorem zero44:iX P 44=some (.slice none 0 0):=by kernel_rfl
end Go.Proofs.Ytekajfobmnedjaa.spec
end
section
namespace Go.Proofs.Ytekajfobmnedjaa.spec
open Go Go.Ev Go.Proofs.Ytekajfobmnedjaa.nestFits Go.Proofs.Ytekajfobmnedjaa.G
set_option maxRecDepth 100000
variable {ρ:Type}
end Go.Proofs.Ytekajfobmnedjaa.spec
end
section
namespace Go.Proofs.Ytekajfobmnedjaa.spec
open Go Go.Ev Go.Proofs.Ytekajfobmnedjaa.nestFits Go.Proofs.Ytekajfobmnedjaa.G
set_option maxRecDepth 100000
variable {ρ:Type}
theorem takeD_ok:∀(D:List Nat) (H:Hp),D.Nodup→(∀ d,d ∈ D→H.get d=some .deferred)→∃ H',nQ H D=some H'∧∀ b,b ∉ D→H'.get b=H.get b
 | [],H,_,_=>⟨H,rfl,fun _ _=>rfl⟩
 | d::D,H,hD,h=>by
  obtain⟨h1,h2⟩:=List.nodup_cons.1 hD
  obtain⟨H',q1,q2⟩:=takeD_ok D (H.set d none) h2 fun e he=>by
   have:e≠d:=fun c=>h1 (c ▸ he)
   rw[Tr.get_set,if_neg this]
   exact h e (List.mem_cons_of_mem _ he)
  refine⟨H',?_,fun b hb=>?_⟩
  ·unfold nQ
   simp only[h d (List.mem_cons_self ..),q1]
  ·have hb1:b≠d:=fun c=>hb (c ▸ List.mem_cons_self ..)
   rw[q2 b fun c=>hb (List.mem_cons_of_mem _ c),Tr.get_set,if_neg hb1]
end Go.Proofs.Ytekajfobmnedjaa.spec
end
section
namespace Go.Proofs.Ytekajfobmnedjaa.spec
open Go Go.Ev Go.Proofs.Ytekajfobmnedjaa.nestFits Go.Proofs.Ytekajfobmnedjaa.G
set_option maxRecDepth 100000
variable {ρ:Type}
end Go.Proofs.Ytekajfobmnedjaa.spec
end
section
namespace Go.Proofs.Ytekajfobmnedjaa.spec
open Go Go.Ev Go.Proofs.Ytekajfobmnedjaa.nestFits Go.Proofs.Ytekajfobmnedjaa.G
set_option maxRecDepth 100000
variable {ρ:Type}
end Go.Proofs.Ytekajfobmnedjaa.spec
end
section
namespace Go.Proofs.Ytekajfobmnedjaa.spec
open Go Go.Ev Go.Proofs.Ytekajfobmnedjaa.nestFits Go.Proofs.Ytekajfobmnedjaa.G
set_option maxRecDepth 100000
variable {ρ:Type}
end Go.Proofs.Ytekajfobmnedjaa.spec
end
section
namespace Go.Proofs.Ytekajfobmnedjaa.spec
open Go Go.Ev Go.Proofs.Ytekajfobmnedjaa.nestFits Go.Proofs.Ytekajfobmnedjaa.G
set_option maxRecDepth 100000
variable {ρ:Type}
end Go.Proofs.Ytekajfobmnedjaa.spec
end
section
namespace Go.Proofs.Ytekajfobmnedjaa.spec
open Go Go.Ev Go.Proofs.Ytekajfobmnedjaa.nestFits Go.Proofs.Ytekajfobmnedjaa.G
set_option maxRecDepth 100000
variable {ρ:Type}
end Go.Proofs.Ytekajfobmnedjaa.spec
end
section
namespace Go.Proofs.Ytekajfobmnedjaa.spec
open Go Go.Ev Go.Proofs.Ytekajfobmnedjaa.nestFits Go.Proofs.Ytekajfobmnedjaa.G
set_option maxRecDepth 100000
variable {ρ:Type}
end Go.Proofs.Ytekajfobmnedjaa.spec
end
section
namespace Go.Proofs.Ytekajfobmnedjaa.spec
open Go Go.Ev Go.Proofs.Ytekajfobmnedjaa.nestFits Go.Proofs.Ytekajfobmnedjaa.G
set_option maxRecDepth 100000
variable {ρ:Type}
end Go.Proofs.Ytekajfobmnedjaa.spec
end
section
namespace Go.Proofs.Ytekajfobmnedjaa.spec
open Go Go.Ev Go.Proofs.Ytekajfobmnedjaa.nestFits Go.Proofs.Ytekajfobmnedjaa.G
set_option maxRecDepth 100000
variable {ρ:Type}
end Go.Proofs.Ytekajfobmnedjaa.spec
end
section
namespace Go.Proofs.Ytekajfobmnedjaa.spec
open Go Go.Ev Go.Proofs.Ytekajfobmnedjaa.nestFits Go.Proofs.Ytekajfobmnedjaa.G
set_option maxRecDepth 100000
variable {ρ:Type}
end Go.Proofs.Ytekajfobmnedjaa.spec
end
section
namespace Go.Proofs.Ytekajfobmnedjaa.spec
open Go Go.Ev Go.Proofs.Ytekajfobmnedjaa.nestFits Go.Proofs.Ytekajfobmnedjaa.G
set_option maxRecDepth 100000
variable {ρ:Type}
end Go.Proofs.Ytekajfobmnedjaa.spec
end
section
namespace Go.Proofs.Ytekajfobmnedjaa.spec
open Go Go.Ev Go.Proofs.Ytekajfobmnedjaa.nestFits Go.Proofs.Ytekajfobmnedjaa.G
set_option maxRecDepth 100000
variable {ρ:Type}
end Go.Proofs.Ytekajfobmnedjaa.spec
end
section
namespace Go.Proofs.Ytekajfobmnedjaa.spec
open Go Go.Ev Go.Proofs.Ytekajfobmnedjaa.nestFits Go.Proofs.Ytekajfobmnedjaa.G
set_option maxRecDepth 100000
variable {ρ:Type}
end Go.Proofs.Ytekajfobmnedjaa.spec
end
section
namespace Go.Proofs.Ytekajfobmnedjaa.spec
open Go Go.Ev Go.Proofs.Ytekajfobmnedjaa.nestFits Go.Proofs.Ytekajfobmnedjaa.G
set_option maxRecDepth 100000
variable {ρ:Type}
end Go.Proofs.Ytekajfobmnedjaa.spec
end
section
namespace Go.Proofs.Ytekajfobmnedjaa.spec
open Go Go.Ev Go.Proofs.Ytekajfobmnedjaa.nestFits Go.Proofs.Ytekajfobmnedjaa.G
set_option maxRecDepth 100000
variable {ρ:Type}
end Go.Proofs.Ytekajfobmnedjaa.spec
end
section
namespace Go.Proofs.Ytekajfobmnedjaa.spec
open Go Go.Ev Go.Proofs.Ytekajfobmnedjaa.nestFits Go.Proofs.Ytekajfobmnedjaa.G
set_option maxRecDepth 100000
variable {ρ:Type}
end Go.Proofs.Ytekajfobmnedjaa.spec
end
section
namespace Go.Proofs.Ytekajfobmnedjaa.spec
open Go Go.Ev Go.Proofs.Ytekajfobmnedjaa.nestFits Go.Proofs.Ytekajfobmnedjaa.G
set_option maxRecDepth 100000
variable {ρ:Type}
end Go.Proofs.Ytekajfobmnedjaa.spec
end
section
namespace Go.Proofs.Ytekajfobmnedjaa.spec
open Go Go.Ev Go.Proofs.Ytekajfobmnedjaa.nestFits Go.Proofs.Ytekajfobmnedjaa.G
set_option maxRecDepth 100000
variable {ρ:Type}
end Go.Proofs.Ytekajfobmnedjaa.spec
end
section
namespace Go.Proofs.Ytekajfobmnedjaa.spec
open Go Go.Ev Go.Proofs.Ytekajfobmnedjaa.nestFits Go.Proofs.Ytekajfobmnedjaa.G
set_option maxRecDepth 100000
variable {ρ:Type}
end Go.Proofs.Ytekajfobmnedjaa.spec
end
section
namespace Go.Proofs.Ytekajfobmnedjaa.spec
open Go Go.Ev Go.Proofs.Ytekajfobmnedjaa.nestFits Go.Proofs.Ytekajfobmnedjaa.G
set_option maxRecDepth 100000
variable {ρ:Type}
end Go.Proofs.Ytekajfobmnedjaa.spec
end
section
namespace Go.Proofs.Ytekajfobmnedjaa.spec
open Go Go.Ev Go.Proofs.Ytekajfobmnedjaa.nestFits Go.Proofs.Ytekajfobmnedjaa.G
set_option maxRecDepth 100000
variable {ρ:Type}
end Go.Proofs.Ytekajfobmnedjaa.spec
end
section
namespace Go.Proofs.Ytekajfobmnedjaa.spec
open Go Go.Ev Go.Proofs.Ytekajfobmnedjaa.nestFits Go.Proofs.Ytekajfobmnedjaa.G
set_option maxRecDepth 100000
end Go.Proofs.Ytekajfobmnedjaa.spec
end
section
namespace Go.Proofs.Ytekajfobmnedjaa.spec
open Go Go.Ev Go.Proofs.Ytekajfobmnedjaa.nestFits Go.Proofs.Ytekajfobmnedjaa.G
set_option maxRecDepth 100000
def nbr (js:List Int) (nj p q:Nat):Prop:=q=p∨jZ js nj p q=true
theorem nearB_symm {js:List Int} {nj p q:Nat}:jZ js nj p q=jZ js nj q p:=by
 unfold jZ
 congr 1
 refine propext ⟨fun⟨k,h1,h2⟩=>⟨k,h1,?_⟩,fun⟨k,h1,h2⟩=>⟨k,h1,?_⟩⟩ <;> exact h2.symm
open Classical in
noncomputable def apB (js ps:List Int) (nj np:Nat) (l:List Nat):Bool:=decide ((∀ p ∈ l,ps.getD (p * 2) 0≠0)∧l.Pairwise fun a b=>∀ q,q<np→¬ (nbr js nj a q∧nbr js nj b q))
open Classical in
theorem Gq {js ps:List Int} {nj np:Nat} {l:List Nat}:apB js ps nj np l=true↔(∀ p ∈ l,ps.getD (p * 2) 0≠0)∧l.Pairwise fun a b=>∀ q,q<np→¬ (nbr js nj a q∧nbr js nj b q):=by
 unfold apB
 exact decide_eq_true_iff
theorem apB_pre {js ps:List Int} {nj np:Nat} (a b:List Nat) (h:apB js ps nj np (a++b)=true):apB js ps nj np a=true:=by
 rw[Gq] at h ⊢
 exact⟨fun p hp=>h.1 p (List.mem_append_left _ hp),(List.pairwise_append.1 h.2).1⟩
theorem Pk {js ps:List Int} {nj np:Nat}:apB js ps nj np []=true:=Gq.2 ⟨fun _ h=>(by cases h),.nil⟩
end Go.Proofs.Ytekajfobmnedjaa.spec
end
section
namespace Go.Proofs.Ytekajfobmnedjaa.spec
open Go Go.Ev Go.Proofs.Ytekajfobmnedjaa.nestFits Go.Proofs.Ytekajfobmnedjaa.G
set_option maxRecDepth 100000
variable {ρ:Type}
noncomputable def code88:Code:=cw 88
noncomputable def cW:List ResultVar:=dj 88
noncomputable def loop88:Code:=cL (cR (cL (cR (cR code88))))
noncomputable def tail88:Code:=cR (cR (cR code88))
noncomputable def body88:Code:=cL loop88
noncomputable def rang88:Code:=cR (cR (cR (cL (cL (cR (cR body88))))))
noncomputable def jk:Code:=asgOf (cL rang88)
noncomputable def jW:Code:=bodOf (cL rang88)
noncomputable def KE88 (c:Cal) (k:Nat):KC (Value×Hp×Nat):=az P c (ax P c k) none 88 tail88 .leaf (aw P cW) X0 (aw P cW)
noncomputable def LP88 (c:Cal) (k m:Nat):KC (Value×Hp×Nat):=ax P c m .leaf none 88 loop88 (KE88 c k) (upX 0 (KE88 c k) X0) (aw P cW)
noncomputable def KN88 (c:Cal) (k m:Nat):KC (Value×Hp×Nat):=az P c (ax P c m) none 88 (cR (cR (cR body88))) .leaf (fun T H n D=>LP88 c k m T H n D) (upX 0 (KE88 c k) X0) (aw P cW)
noncomputable def TA88 (o:Nat→Value) (v0 v1 v4 v5 v10 v11:Value):Tm:=((((((((Tr.nil:Tm).set 0 (some v0)).set 1 (some v1)).set 4 (some v4)).set 5 (some v5)).set 9 (some (o 9))).set 10 (some v10)).set 11 (some v11))
noncomputable def TB88 (o:Nat→Value) (v0 v1 v4 v5 v10 v11:Value):Tm:=(((((((((((((((((((((((((Tr.nil:Tm).set 0 (some v0)).set 1 (some v1)).set 4 (some v4)).set 5 (some v5)).set 9 (some (o 9))).set 10 (some v10)).set 11 (some v11)).set 12 (some (o 12))).set 13 (some (o 13))).set 14 (some (o 14))).set 7 (some (o 7))).set 15 (some (o 15))).set 16 (some (o 16))).set 17 (some (o 17))).set 18 (some (o 18))).set 19 (some (o 19))).set 20 (some (o 20))).set 21 (some (o 21))).set 22 (some (o 22))).set 23 (some (o 23))).set 24 (some (o 24))).set 25 (some (o 25))).set 26 (some (o 26))).set 27 (some (o 27)))
noncomputable def TC88 (o:Nat→Value) (v0 v1 v4 v5 v10 v11:Value):Tm:=((((((((((((((((((((((((((Tr.nil:Tm).set 0 (some v0)).set 1 (some v1)).set 4 (some v4)).set 5 (some v5)).set 9 (some (o 9))).set 10 (some v10)).set 11 (some v11)).set 12 (some (o 12))).set 13 (some (o 13))).set 14 (some (o 14))).set 7 (some (o 7))).set 15 (some (o 15))).set 16 (some (o 16))).set 17 (some (o 17))).set 18 (some (o 18))).set 19 (some (o 19))).set 20 (some (o 20))).set 21 (some (o 21))).set 22 (some (o 22))).set 23 (some (o 23))).set 24 (some (o 24))).set 25 (some (o 25))).set 26 (some (o 26))).set 27 (some (o 27))).set 34 (some (o 34)))
theorem pre88 (c:Cal) (k:Nat) (v0 v1:Value) (H:Hp) (n:Nat):aK P c A (k+1) 88 [v0,v1] H n =
  (dZ P 4 H n fun v4 H n=>dZ P 108 H n fun v5 H n=>aq (lenV P 44 v1) fun v10=>LP88 c k (k+1) (TA88 (fun _=>v1) v0 v1 v4 v5 v10 (.int .i64 0)) H n []):=by
 rw[bk (fn:=Go.Proofs.Try.f88) (c:=code88) (rs:=cW) (by kernel_rfl) (by kernel_rfl) (by kernel_rfl) (by kernel_rfl)]
 kernel_rfl
theorem loop88_A (c:Cal) (k m:Nat) (o:Nat→Value) (v0 v1 v4 v5 v10 v11:Value) (H:Hp) (n:Nat) (D:List Nat):LP88 c k (m+1) (TA88 o v0 v1 v4 v5 v10 v11) H n D =
  (binK P .lss 3 (.tmp 11) (.tmp 10) v11 v10 fun v12=>ifK v12
   (aq (aW P 44 (o 9) v11) fun v13=>aq (aX v13) fun a=>aq (ak P H 3 a) fun v14=>aq (nilV v0) fun v16=>aq (ay P 117 v16 0) fun v17=>aq (ay P 35 v17 0) fun v18=>aq (aX v18) fun a=>aq (ak P H 31 a) fun v19=>
    aq (aW P 31 v19 v14) fun v21=>aq (ay P 90 v21 0) fun v22=>aq (aX v22) fun a=>aq (ak P H 3 a) fun v23=>binK P .eql 3 (.tmp 23) (.const (.int .i64 0)) v23 (.int .i64 0) fun v24=>ifK v24
    (aq (bz P 4 v4 (.bool false) H) fun H=>getK (nQ H D) fun H=>aq (resV P ((Tr.nil:Tm).set 4 (some v4)) H cW) fun vs=>some (oneV vs,H,n))
    (aY P c 113 [v0,v14] H n fun v27 H n=>
     xw P c none 88 v27 #[28] jk jW (KN88 c k m) (upX 2 (KN88 c k m) (upX 1 (KN88 c k m) (upX 0 (KE88 c k) X0))) (aw P cW) (TB88 (upd (upd (upd (upd (upd (upd (upd (upd (upd (upd (upd (upd (upd (upd (upd (upd (upd o 12 v12) 13 v13) 14 v14) 7 v14) 15 v0) 16 v16) 17 v17) 18 v18) 19 v19) 20 v14) 21 v21) 22 v22) 23 v23) 24 v24) 25 v0) 26 v14) 27 v27) v0 v1 v4 v5 v10 v11) H n D))
   (KE88 c k ((TA88 o v0 v1 v4 v5 v10 v11).set 12 (some v12)) H n D)):=by
 kernel_rfl
theorem loop88_C (c:Cal) (k m:Nat) (o:Nat→Value) (v0 v1 v4 v5 v10 v11:Value) (H:Hp) (n:Nat) (D:List Nat):LP88 c k (m+1) (TC88 o v0 v1 v4 v5 v10 v11) H n D =
  (binK P .lss 3 (.tmp 11) (.tmp 10) v11 v10 fun v12=>ifK v12
   (aq (aW P 44 (o 9) v11) fun v13=>aq (aX v13) fun a=>aq (ak P H 3 a) fun v14=>aq (nilV v0) fun v16=>aq (ay P 117 v16 0) fun v17=>aq (ay P 35 v17 0) fun v18=>aq (aX v18) fun a=>aq (ak P H 31 a) fun v19=>
    aq (aW P 31 v19 v14) fun v21=>aq (ay P 90 v21 0) fun v22=>aq (aX v22) fun a=>aq (ak P H 3 a) fun v23=>binK P .eql 3 (.tmp 23) (.const (.int .i64 0)) v23 (.int .i64 0) fun v24=>ifK v24
    (aq (bz P 4 v4 (.bool false) H) fun H=>getK (nQ H D) fun H=>aq (resV P ((Tr.nil:Tm).set 4 (some v4)) H cW) fun vs=>some (oneV vs,H,n))
    (aY P c 113 [v0,v14] H n fun v27 H n=>
     xw P c none 88 v27 #[28] jk jW (KN88 c k m) (upX 2 (KN88 c k m) (upX 1 (KN88 c k m) (upX 0 (KE88 c k) X0))) (aw P cW) (TC88 (upd (upd (upd (upd (upd (upd (upd (upd (upd (upd (upd (upd (upd (upd (upd (upd (upd o 12 v12) 13 v13) 14 v14) 7 v14) 15 v0) 16 v16) 17 v17) 18 v18) 19 v19) 20 v14) 21 v21) 22 v22) 23 v23) 24 v24) 25 v0) 26 v14) 27 v27) v0 v1 v4 v5 v10 v11) H n D))
   (KE88 c k ((TC88 o v0 v1 v4 v5 v10 v11).set 12 (some v12)) H n D)):=by
 kernel_rfl
theorem next88_B (c:Cal) (k m:Nat) (o:Nat→Value) (v0 v1 v4 v5 v10 v11:Value) (H:Hp) (n:Nat) (D:List Nat):KN88 c k m (TB88 o v0 v1 v4 v5 v10 v11) H n D =
  (binK P .add 3 (.tmp 11) (.const (.int .i64 1)) v11 (.int .i64 1) fun v34=>LP88 c k m (TC88 (upd o 34 v34) v0 v1 v4 v5 v10 v34) H n D):=by
 kernel_rfl
theorem done88_B (o:Nat→Value) (v0 v1 v4 v5 v10 v11:Value) (H:Hp) (n:Nat) (D:List Nat):aw P cW (TB88 o v0 v1 v4 v5 v10 v11) H n D =
  (getK (nQ H D) fun H=>aq (resV P ((Tr.nil:Tm).set 4 (some v4)) H cW) fun vs=>some (oneV vs,H,n)):=by
 kernel_rfl
theorem asg88_B (l lp:Nat) (o:Nat→Value) (v0 v1 v4 v5 v10 v11 p:Value) (H:Hp) (n:Nat) :
  (cal (l+1)).body lp 88 jk { T:=(TB88 o v0 v1 v4 v5 v10 v11).set 28 (some p),H,n,D:=[] }=some (.norm,{ T:=((TB88 o v0 v1 v4 v5 v10 v11).set 28 (some p)).set 8 (some p),H,n,D:=[] }):=by kernel_rfl
theorem bod88_B (l lp:Nat) (o:Nat→Value) (v0 v1 v4 v5 v10 v11 p:Value) (H:Hp) (n:Nat):∃ U V:Value→Value→Value→Tm,
  (cal (l+1)).body lp 88 jW { T:=((TB88 o v0 v1 v4 v5 v10 v11).set 28 (some p)).set 8 (some p),H,n,D:=[] } =
   (aq (aW P 108 v5 p) fun v30=>aq (aX v30) fun a=>aq (ak P H 4 a) fun v31=>ifK v31
    (aq (bz P 4 v4 (.bool false) H) fun H=>some (.ret,{ T:=U v30 v31 v31,H,n,D:=[] }))
    (aq (aW P 108 v5 p) fun v33=>aq (bz P 4 v33 (.bool true) H) fun H=>some (.norm,{ T:=V v30 v31 v33,H,n,D:=[] }))):=
 ⟨fun v30 v31 _=>((((((TB88 o v0 v1 v4 v5 v10 v11).set 28 (some p)).set 8 (some p)).set 29 (some p)).set 30 (some v30)).set 31 (some v31)),
  fun v30 v31 v33=>((((((((TB88 o v0 v1 v4 v5 v10 v11).set 28 (some p)).set 8 (some p)).set 29 (some p)).set 30 (some v30)).set 31 (some v31)).set 32 (some p)).set 33 (some v33)),by kernel_rfl⟩
theorem next88_C (c:Cal) (k m:Nat) (o:Nat→Value) (v0 v1 v4 v5 v10 v11:Value) (H:Hp) (n:Nat) (D:List Nat):KN88 c k m (TC88 o v0 v1 v4 v5 v10 v11) H n D =
  (binK P .add 3 (.tmp 11) (.const (.int .i64 1)) v11 (.int .i64 1) fun v34=>LP88 c k m (TC88 (upd o 34 v34) v0 v1 v4 v5 v10 v34) H n D):=by
 kernel_rfl
theorem done88_C (o:Nat→Value) (v0 v1 v4 v5 v10 v11:Value) (H:Hp) (n:Nat) (D:List Nat):aw P cW (TC88 o v0 v1 v4 v5 v10 v11) H n D =
  (getK (nQ H D) fun H=>aq (resV P ((Tr.nil:Tm).set 4 (some v4)) H cW) fun vs=>some (oneV vs,H,n)):=by
 kernel_rfl
theorem asg88_C (l lp:Nat) (o:Nat→Value) (v0 v1 v4 v5 v10 v11 p:Value) (H:Hp) (n:Nat) :
  (cal (l+1)).body lp 88 jk { T:=(TC88 o v0 v1 v4 v5 v10 v11).set 28 (some p),H,n,D:=[] }=some (.norm,{ T:=((TC88 o v0 v1 v4 v5 v10 v11).set 28 (some p)).set 8 (some p),H,n,D:=[] }):=by kernel_rfl
theorem bod88_C (l lp:Nat) (o:Nat→Value) (v0 v1 v4 v5 v10 v11 p:Value) (H:Hp) (n:Nat):∃ U V:Value→Value→Value→Tm,
  (cal (l+1)).body lp 88 jW { T:=((TC88 o v0 v1 v4 v5 v10 v11).set 28 (some p)).set 8 (some p),H,n,D:=[] } =
   (aq (aW P 108 v5 p) fun v30=>aq (aX v30) fun a=>aq (ak P H 4 a) fun v31=>ifK v31
    (aq (bz P 4 v4 (.bool false) H) fun H=>some (.ret,{ T:=U v30 v31 v31,H,n,D:=[] }))
    (aq (aW P 108 v5 p) fun v33=>aq (bz P 4 v33 (.bool true) H) fun H=>some (.norm,{ T:=V v30 v31 v33,H,n,D:=[] }))):=
 ⟨fun v30 v31 _=>((((((TC88 o v0 v1 v4 v5 v10 v11).set 28 (some p)).set 8 (some p)).set 29 (some p)).set 30 (some v30)).set 31 (some v31)),
  fun v30 v31 v33=>((((((((TC88 o v0 v1 v4 v5 v10 v11).set 28 (some p)).set 8 (some p)).set 29 (some p)).set 30 (some v30)).set 31 (some v31)).set 32 (some p)).set 33 (some v33)),by kernel_rfl⟩
theorem post88_A (c:Cal) (k:Nat) (o:Nat→Value) (v0 v1 v4 v5 v10 v11 v12:Value) (H:Hp) (n:Nat) (D:List Nat):KE88 c k ((TA88 o v0 v1 v4 v5 v10 v11).set 12 (some v12)) H n D =
  (aq (bz P 4 v4 (.bool true) H) fun H=>getK (nQ H D) fun H=>aq (resV P ((Tr.nil:Tm).set 4 (some v4)) H cW) fun vs=>some (oneV vs,H,n)):=by
 kernel_rfl
theorem post88_C (c:Cal) (k:Nat) (o:Nat→Value) (v0 v1 v4 v5 v10 v11 v12:Value) (H:Hp) (n:Nat) (D:List Nat):KE88 c k ((TC88 o v0 v1 v4 v5 v10 v11).set 12 (some v12)) H n D =
  (aq (bz P 4 v4 (.bool true) H) fun H=>getK (nQ H D) fun H=>aq (resV P ((Tr.nil:Tm).set 4 (some v4)) H cW) fun vs=>some (oneV vs,H,n)):=by
 kernel_rfl
theorem call88 (l:Nat) (a b:Value) (H:Hp) (n:Nat):(cal (l+1)).call 88 [a,b] H n=aK P (cal l) A (KK+1) 88 [a,b] H n:=by kernel_rfl
theorem ntm88:ntm P 88=35:=by kernel_rfl
theorem results88_eq:cW=[.cell 4 4]:=by kernel_rfl
end Go.Proofs.Ytekajfobmnedjaa.spec
end
section
namespace Go.Proofs.Ytekajfobmnedjaa.spec
open Go Go.Ev Go.Proofs.Ytekajfobmnedjaa.nestFits Go.Proofs.Ytekajfobmnedjaa.G
set_option maxRecDepth 100000
variable {ρ:Type}
def Ow (T:Tm) (v0 v1:Value) (b4 b5:Nat) (v10 v11:Value):Prop:=∃ o:Nat→Value,o 9=v1∧(T=TB88 o v0 v1 (.pointer (some ⟨b4,0,none⟩)) (.pointer (some ⟨b5,0,none⟩)) v10 v11∨T=TC88 o v0 v1 (.pointer (some ⟨b4,0,none⟩)) (.pointer (some ⟨b5,0,none⟩)) v10 v11)
theorem asg88_of (l lp:Nat) {T:Tm} {v0 v1 v10 v11:Value} {b4 b5:Nat} (hT:Ow T v0 v1 b4 b5 v10 v11) (p:Value) (H:Hp) (n:Nat) :
  (cal (l+1)).body lp 88 jk { T:=T.set 28 (some p),H,n,D:=[] }=some (.norm,{ T:=(T.set 28 (some p)).set 8 (some p),H,n,D:=[] }):=by
 obtain⟨o,_,rfl | rfl⟩:=hT
 ·exact asg88_B ..
 ·exact asg88_C ..
theorem bod88_of (l lp:Nat) {T:Tm} {v0 v1 v10 v11:Value} {b4 b5:Nat} (hT:Ow T v0 v1 b4 b5 v10 v11) (p:Value) (H:Hp) (n:Nat):∃ U V:Value→Value→Value→Tm,
  (cal (l+1)).body lp 88 jW { T:=(T.set 28 (some p)).set 8 (some p),H,n,D:=[] } =
   (aq (aW P 108 (.pointer (some ⟨b5,0,none⟩)) p) fun v30=>aq (aX v30) fun a=>aq (ak P H 4 a) fun v31=>ifK v31
    (aq (bz P 4 (.pointer (some ⟨b4,0,none⟩)) (.bool false) H) fun H=>some (.ret,{ T:=U v30 v31 v31,H,n,D:=[] }))
    (aq (aW P 108 (.pointer (some ⟨b5,0,none⟩)) p) fun v33=>aq (bz P 4 v33 (.bool true) H) fun H=>some (.norm,{ T:=V v30 v31 v33,H,n,D:=[] }))):=by
 obtain⟨o,_,rfl | rfl⟩:=hT
 ·exact bod88_B ..
 ·exact bod88_C ..
theorem yield88 (l:Nat) {T:Tm} {H:Hp} {n lb b4 b5 d p:Nat} {tk:Nat→Bool} {v0 v1 v10 v11:Value} (hT:Ow T v0 v1 b4 b5 v10 v11)
  (hl:H.get lb=some (.loop .ready none 88 T (ntm P 88) #[28] jk jW d)) (h4:∃ w,H.get b4=some (.cells [w] 4 false none)) (h5:cJ H b5 8 108 fun k=>.bool (tk k)) (e4:b4≠lb) (e5:b5≠lb) (e45:b4≠b5) (hp:p<8) :
  (tk p=true∧∃ H',(∀ k:Value→Hp→Nat→Option ρ,eK P (cal (l+1)) (.func (.yield lb) #[] #[]) [.int .i64 p] H n k=k (.bool false) H' n)∧H'.get b4=some (.cells [.bool false] 4 false none) ∧
   H'.get lb=some (.loop .done (some .ret) 88 T (ntm P 88) #[28] jk jW d)∧∀ b,b≠lb→b≠b4→H'.get b=H.get b) ∨
  (tk p=false∧∃ H',(∀ k:Value→Hp→Nat→Option ρ,eK P (cal (l+1)) (.func (.yield lb) #[] #[]) [.int .i64 p] H n k=k (.bool true) H' n)∧H'.get lb=H.get lb ∧
   cJ H' b5 8 108 (fun k=>.bool (if k=p then true else tk k))∧∀ b,b≠lb→b≠b5→H'.get b=H.get b):=by
 have hpar:vX T (ntm P 88) (#[28]:Array Tmp).toList [.int .i64 p]=some (T.set 28 (some (.int .i64 p))):=by
  rw[ntm88]; rfl
 have hasg:(cal (l+1)).body lb 88 jk { T:=T.set 28 (some (.int .i64 p)),H,n,D:=[] }=some (.norm,{ T:=(T.set 28 (some (.int .i64 p))).set 8 (some (.int .i64 p)),H,n,D:=[] }):=asg88_of l lb hT _ H n
 have hrdy:BQ H lb=true:=by unfold BQ; rw[hl]
 have hpen:rk H lb=none:=by unfold rk; rw[hl]
 have hbusy:nq H lb .busy none=some (H.set lb (some (.loop .busy none 88 T (ntm P 88) #[28] jk jW d))):=by unfold nq; rw[hl]
 have ho:∀ b,b≠lb→(H.set lb (some (.loop .busy none 88 T (ntm P 88) #[28] jk jW d))).get b=H.get b:=fun b hb=>by rw[Tr.get_set,if_neg hb]
 have gl:(H.set lb (some (.loop .busy none 88 T (ntm P 88) #[28] jk jW d))).get lb=some (.loop .busy none 88 T (ntm P 88) #[28] jk jW d):=by rw[Tr.get_set,if_pos rfl]
 generalize H.set lb (some (.loop .busy none 88 T (ntm P 88) #[28] jk jW d))=H1 at hbusy ho gl
 have g5:cJ H1 b5 8 108 fun k=>.bool (tk k):=by
  obtain⟨c,a1,a2,a3⟩:=h5
  exact⟨c,(ho b5 e5).trans a1,a2,a3⟩
 have ld:=g5.load (P:=P) (t:=4) (k:=p) agg4 hp
 obtain⟨U,V,hbd⟩:=bod88_of l lb hT (.int .i64 p) H1 n
 rw[at108 b5 0 hp,aj,aQ,aj,show 0+p * 1=p by omega,ld,aj] at hbd
 have out:∀(j:Bool) (H':Hp) (n':Nat),(∀ k:Value→Hp→Nat→Option ρ,rK (fun | some l'=>(cal (l+1)).body l' | none=>fun _ _ _=>none) P lb [.int .i64 p] (bare H n)=some (.bool j,{ bare H n with H:=H',n:=n' })→eK P (cal (l+1)) (.func (.yield lb) #[] #[]) [.int .i64 p] H n k=k (.bool j) H' n'):=by
  intro j H' n' k hy
  show stK (rK (fun | some l'=>(cal (l+1)).body l' | none=>fun _ _ _=>none) P lb [.int .i64 p] (bare H n)) k=_
  rw[hy]
  rfl
 have hb:Nat.beq (ntm P 88) (ntm P 88)=true:=Nat.beq_refl _
 cases c:tk p with
 | true=>
  refine .inl ⟨rfl,?_⟩
  obtain⟨w,w1⟩:=h4
  have g4:=(ho b4 e4).trans w1
  have hst:=qk (vs:=[.bool false]) g4 rfl rfl
  rw[c,fK,nW sz4 rfl,hst,aj] at hbd
  have q1:(H1.set b4 (some (.cells [.bool false] 4 false none))).get b4=some (.cells [.bool false] 4 false none):=by rw[Tr.get_set,if_pos rfl]
  have q2:∀ b,b≠b4→(H1.set b4 (some (.cells [.bool false] 4 false none))).get b=H1.get b:=fun b h=>by rw[Tr.get_set,if_neg h]
  generalize H1.set b4 (some (.cells [.bool false] 4 false none))=H5 at hbd q1 q2
  have hend:nq H5 lb .done (some .ret)=some (H5.set lb (some (.loop .done (some .ret) 88 T (ntm P 88) #[28] jk jW d))):=by unfold nq; rw[q2 lb (Ne.symm e4),gl]
  refine⟨H5.set lb (some (.loop .done (some .ret) 88 T (ntm P 88) #[28] jk jW d)),fun k=>out false _ _ k ?_,by rw[Tr.get_set,if_neg e4]; exact q1,by rw[Tr.get_set,if_pos rfl],fun b h1 h2=>by rw[Tr.get_set,if_neg h1,q2 b h2]; exact ho b h1⟩
  unfold rK
  have hx:Iq .ret=some (some .ret):=rfl
  have hn:(some Code.ret).isNone=false:=rfl
  have hff:¬ (false=true):=by simp
  simp only[bare,hl,hb,hpar,hasg,hrdy,hpen,hbusy,hbd,hx,hn,if_neg hff,hend]
 | false=>
  refine .inr ⟨rfl,?_⟩
  obtain⟨H5,s1,s2,s3⟩:=g5.storeN (o:=p) (vs:=[.bool true]) (by simp; omega) rfl
  rw[c,fk,aj,nW sz4 rfl,s1,aj] at hbd
  have hend:nq H5 lb .ready none=some (H5.set lb (some (.loop .ready none 88 T (ntm P 88) #[28] jk jW d))):=by unfold nq; rw[s3 lb (Ne.symm e5),gl]
  refine⟨H5.set lb (some (.loop .ready none 88 T (ntm P 88) #[28] jk jW d)),fun k=>out true _ _ k ?_,by rw[Tr.get_set,if_pos rfl,hl],?_,fun b h1 h2=>by rw[Tr.get_set,if_neg h1,s3 b h2]; exact ho b h1⟩
  ·unfold rK
   have hx:Iq .norm=some none:=rfl
   simp only[bare,hl,hb,hpar,hasg,hrdy,hpen,hbusy,hbd,hx,Option.isNone_none,if_true,hend]
  ·obtain⟨c5,a1,a2,a3⟩:=s2
   refine⟨c5,by rw[Tr.get_set,if_neg e5]; exact a1,a2,fun k hk=>?_⟩
   rw[a3 k hk,sJ]
   show some (if k=p then Value.bool true else Value.bool (tk k))=some (Value.bool (if k=p then true else tk k))
   by_cases e:k=p
   ·rw[if_pos e,if_pos e]
   ·rw[if_neg e,if_neg e]
theorem range_cut {i np:Nat} (h:i<np):∃ t,List.range np=List.range i++i::t:=by
 refine⟨List.range' (i+1) (np-(i+1)),?_⟩
 rw[List.range_eq_range',List.range_eq_range',show np=i+((np-(i+1))+1) by omega,← List.range'_append_1,List.range'_succ,show i+(np-(i+1)+1)-(i+1)=np-(i+1) by omega]
 simp
theorem iter2_loop (c:Cal) (k:Nat) (yv:Value) (pb sb g pad np:Nat) (x:Value) (near:Nat→Bool) (hpad:pad<8) (hnp:np≤8) (Inv:List Nat→Hp→Nat→Prop) (Fin:List Nat→Nat→Hp→Nat→Prop) (hR:∀ ps H n,Inv ps H n→Reads H pb sb g x pad near)
  (hY:∀(ps:List Nat) (p:Nat) (H:Hp) (n:Nat),Inv ps H n→p<8→∃ H' n',((∀ k:Value→Hp→Nat→Res,eK P c yv [.int .i64 p] H n k=k (.bool true) H' n')∧Inv (ps++[p]) H' n')∨((∀ k:Value→Hp→Nat→Res,eK P c yv [.int .i64 p] H n k=k (.bool false) H' n')∧Fin ps p H' n')) (ps0:List Nat):∀(m i:Nat) (H:Hp) (n:Nat),
  Inv (ps0++(List.range i).filter near) H n→i≤np→np-i≤m →
  ∃ H' n',Fj c k m yv (.pointer (some ⟨pb,0,none⟩)) (.pointer (some ⟨sb,0,none⟩)) (.int .i64 np) (.int .i64 i) H n=some (.tuple ⟨[]⟩,H',n')∧(Inv (ps0++(List.range np).filter near) H' n'∨∃ ps p t,ps0++(List.range np).filter near=ps++p::t∧Fin ps p H' n'):=by
 have body:∀(b1:Value→Value→Value→Value→Value→Hp→Nat→Res) (m i:Nat) (H:Hp) (n:Nat),Inv (ps0++(List.range i).filter near) H n→i≤np →
   (∀ H' n',Inv (ps0++(List.range (i+1)).filter near) H' n'→i<np→∃ H2 n2,b1 yv (.pointer (some ⟨pb,0,none⟩)) (.pointer (some ⟨sb,0,none⟩)) (.int .i64 np) (.int .i64 ((i+1:Nat):Int)) H' n'=some (.tuple ⟨[]⟩,H2,n2)∧(Inv (ps0++(List.range np).filter near) H2 n2∨∃ ps p t,ps0++(List.range np).filter near=ps++p::t∧Fin ps p H2 n2)) →
   ∃ H' n',EK c k m b1 yv (.pointer (some ⟨pb,0,none⟩)) (.pointer (some ⟨sb,0,none⟩)) (.int .i64 np) (.int .i64 i) H n=some (.tuple ⟨[]⟩,H',n')∧(Inv (ps0++(List.range np).filter near) H' n'∨∃ ps p t,ps0++(List.range np).filter near=ps++p::t∧Fin ps p H' n'):=by
  intro b1 m i H n hI hi ih
  unfold EK B119_1
  rw[aJ cV,iJ]
  by_cases hlt:i<np
  ·obtain⟨r1,r2,r3,r4⟩:=hR _ _ _ hI
   have hi8:i<8:=by omega
   have hb:=r4 i hi8
   have hI1:I64 ((i:Int)+1):=by unfold I64; omega
   have hcast:((i:Int)+1)=((i+1:Nat):Int):=by omega
   rw[if_pos (by omega),aQ,aj,r2,aj,aQ,aj,r1,aj,qj,aj,Pz,aj,at109 _ _ hpad,aj,at108 _ _ hi8,aj,aQ,aj,hb,aj]
   cases hn:near i with
   | true=>
    obtain⟨H1,n1,⟨e1,e2⟩ | ⟨e1,e2⟩⟩:=hY _ i _ _ hI hi8
    ·simp only[Ak,e1,pW,aj,cZ,fk,aJ (cz hI1),hcast]
     refine ih H1 n1 ?_ hlt
     rw[List.range_succ,List.filter_append,← List.append_assoc]
     simp only[List.filter_cons,hn,if_true,List.filter_nil]
     exact e2
    ·simp only[Ak,e1,sw,aj,cZ,fK]
     obtain⟨t,ht⟩:=range_cut hlt
     refine⟨H1,n1,rfl,.inr ⟨ps0++(List.range i).filter near,i,t.filter near,?_,e2⟩⟩
     rw[ht,List.filter_append,List.filter_cons,hn,if_pos rfl,List.append_assoc]
   | false=>
    simp only[FZ,cK,aj,fk,aJ (cz hI1),hcast]
    refine ih H n ?_ hlt
    rw[List.range_succ,List.filter_append]
    simp only[List.filter_cons,hn,List.filter_nil,Bool.false_eq_true,if_false,List.append_nil]
    exact hI
  ·rw[if_neg (by omega)]
   have hi':i=np:=by omega
   subst hi'
   exact⟨H,n,rfl,.inl hI⟩
 intro m
 induction m with
 | zero=>
  intro i H n h1 h2 h3
  exact body _ 0 i H n h1 h2 (fun _ _ _ h=>by omega)
 | succ m ih=>
  intro i H n h1 h2 h3
  exact body _ (m+1) i H n h1 h2 (fun H' n' q1 q2=>ih (i+1) H' n' q1 (by omega) (by omega))
theorem iter2_spec (c:Cal) (yv:Value) (pb sb g pad np:Nat) (x:Value) (near:Nat→Bool) (hpad:pad<8) (hnp:np≤8) (hx:lenV P 31 x=some (.int .i64 np)) (Inv:List Nat→Hp→Nat→Prop) (Fin:List Nat→Nat→Hp→Nat→Prop) (hR:∀ ps H n,Inv ps H n→Reads H pb sb g x pad near)
  (hY:∀(ps:List Nat) (p:Nat) (H:Hp) (n:Nat),Inv ps H n→p<8→∃ H' n',((∀ k:Value→Hp→Nat→Res,eK P c yv [.int .i64 p] H n k=k (.bool true) H' n')∧Inv (ps++[p]) H' n')∨((∀ k:Value→Hp→Nat→Res,eK P c yv [.int .i64 p] H n k=k (.bool false) H' n')∧Fin ps p H' n')) {H:Hp} {n:Nat} (h0:Inv [] H n) :
  ∃ H' n',zX c KK yv (.pointer (some ⟨pb,0,none⟩)) (.pointer (some ⟨sb,0,none⟩)) H n=some (.tuple ⟨[]⟩,H',n')∧(Inv (pad::(List.range np).filter near) H' n'∨∃ ps p t,pad::(List.range np).filter near=ps++p::t∧Fin ps p H' n'):=by
 unfold zX B119_0
 generalize hS:Fj c KK KK=S
 obtain⟨r1,_,_,_⟩:=hR _ _ _ h0
 obtain⟨H1,n1,⟨e1,e2⟩ | ⟨e1,e2⟩⟩:=hY _ pad _ _ h0 hpad
 ·obtain⟨_,r2,r3,_⟩:=hR _ _ _ e2
  rw[aQ,aj,r1,aj,e1,pW,aj,fk,aQ,aj,r2,aj,qj,aj,yQ,aj,zv,aj,aQ,aj,r3,aj,hx,aj,← hS]
  exact iter2_loop c KK yv pb sb g pad np x near hpad hnp Inv Fin hR hY [pad] KK 0 H1 n1 e2 (by omega) (by unfold KK; omega)
 ·rw[aQ,aj,r1,aj,e1,sw,aj,fK]
  exact⟨H1,n1,rfl,.inr ⟨[],pad,_,rfl,e2⟩⟩
end Go.Proofs.Ytekajfobmnedjaa.spec
end
section
namespace Go.Proofs.Ytekajfobmnedjaa.spec
open Go Go.Ev Go.Proofs.Ytekajfobmnedjaa.nestFits Go.Proofs.Ytekajfobmnedjaa.G
set_option maxRecDepth 100000
variable {ρ:Type}
theorem zero108:iX P 108=some (.agg ⟨List.replicate 8 (.bool false)⟩):=by kernel_rfl
noncomputable def zw (js:List Int) (nj np p:Nat):List Nat:=p::(List.range np).filter (jZ js nj p)
theorem IQ {js:List Int} {nj np p q:Nat} (hp:p<np):q ∈ zw js nj np p↔q<np∧nbr js nj p q:=by
 unfold zw nbr
 rw[List.mem_cons,List.mem_filter,List.mem_range]
 constructor
 ·rintro(rfl | ⟨h1,h2⟩)
  ·exact⟨hp,.inl rfl⟩
  ·exact⟨h1,.inr h2⟩
 ·rintro⟨h1,rfl | h2⟩
  ·exact .inl rfl
  ·exact .inr ⟨h1,h2⟩
theorem reachN_nodup {js:List Int} {nj np p:Nat} (hs:jZ js nj p p=false):(zw js nj np p).Nodup:=by
 unfold zw
 refine List.nodup_cons.2 ⟨fun h=>?_,List.Pairwise.filter _ List.nodup_range⟩
 rw[(List.mem_filter.1 h).2] at hs
 cases hs
theorem Sz {js ps:List Int} {nj np x:Nat} {l:List Nat}:apB js ps nj np (l++[x])=true↔apB js ps nj np l=true∧ps.getD (x * 2) 0≠0∧∀ a ∈ l,∀ q,q<np→¬ (nbr js nj a q∧nbr js nj x q):=by
 rw[Gq,Gq,List.pairwise_append]
 constructor
 ·rintro⟨h1,h2,_,h3⟩
  exact⟨⟨fun p hp=>h1 p (List.mem_append_left _ hp),h2⟩,h1 x (by simp),fun a ha=>h3 a ha x (by simp)⟩
 ·rintro⟨⟨h1,h2⟩,h3,h4⟩
  refine⟨fun p hp=>?_,h2,List.pairwise_singleton _ _,fun a ha b hb=>?_⟩
  ·rcases List.mem_append.1 hp with h | h
   ·exact h1 p h
   ·rw[List.mem_singleton.1 h]; exact h3
  ·rw[List.mem_singleton.1 hb]; exact h4 a ha
def jK (l:List Nat):List Int:=l.map fun(p:Nat)=>(p:Int)
theorem Gv (l:List Nat):(jK l).length=l.length:=by simp [jK]
theorem jv {l:List Nat} {i:Nat} (h:i<l.length):(jK l).getD i 0=(l[i]:Nat):=by
 simp [jK,List.getD,h]
theorem range88 (c:Cal) (a b:Value) (K:KC (Value×Hp×Nat)) (X:XC (Value×Hp×Nat)) (Kr:KC (Value×Hp×Nat)) (T:Tm) (H:Hp) (n:Nat) (D:List Nat) :
  xw P c none 88 (.func (.func 119) ⟨[]⟩ ⟨[a,b]⟩) #[28] jk jW K X Kr T H n D =
   aY P c 119 [.func (.yield (n+1)) #[] #[],a,b] ((H.set n (some .deferred)).set (n+1) (some (.loop .ready none 88 T (ntm P 88) #[28] jk jW n))) (n+2) fun _ H n'=>fin K X Kr (nV (n+1) { T:=T,H,n:=n',D:=n::D }):=rfl
theorem call119' (l:Nat) (a b c:Value) (H:Hp) (n:Nat) (k:Value→Hp→Nat→Option ρ) (hb:bq b=false):aY P (cal (l+1)) 119 [a,b,c] H n k=aq (zX (cal l) KK a b c H n) fun r=>k r.1 r.2.1 r.2.2:=by
 unfold aY
 have:(iY P 119 && bZ [a,b,c])=false:=by simp [bZ,hb]
 rw[this,call119]
theorem round88 (l:Nat) {H:Hp} {n b4 b5 g np nj pad m0:Nat} {tk:Nat→Bool} {f:Nat→Value} {x y z v1 v10 v11:Value} {ps js:List Int} (hf:cJ H g 859 117 f) (hs:SiteF f x y z js nj) (hx:dv H m0 2 x np ps) (hnp:np≤8) (hpad:pad<np) (hself:jZ js nj pad pad=false)
  (h4:∃ w,H.get b4=some (.cells [w] 4 false none)) (h5:cJ H b5 8 108 fun k=>.bool (tk k)) (hm0:m0≤n) (l4:b4<n) (l5:b5<n) (lg:g<n) (e45:b4≠b5) (eg4:g≠b4) (eg5:g≠b5)
  {TT:Value→Tm} (hTT:∀ v,Ow (TT v) (.pointer (some ⟨g,0,none⟩)) v1 b4 b5 v10 v11) (K:KC (Value×Hp×Nat)) (X:XC (Value×Hp×Nat)) (D:List Nat) :
  ∃ T H' n',Ow T (.pointer (some ⟨g,0,none⟩)) v1 b4 b5 v10 v11∧n+4≤n'∧H'.get (n+2)=some .deferred∧(∀ b,b<n→b≠b4→b≠b5→H'.get b=H.get b) ∧
   (((∃ q,q ∈ zw js nj np pad∧tk q=true)∧H'.get b4=some (.cells [.bool false] 4 false none) ∧
    (aY P (cal (l+2)) 113 [.pointer (some ⟨g,0,none⟩),.int .i64 pad] H n fun v27 H n=>xw P (cal (l+2)) none 88 v27 #[28] jk jW K X (aw P cW) (TT v27) H n D)=aw P cW T H' n' ((n+2)::D)) ∨
    ((∀ q,q ∈ zw js nj np pad→tk q=false)∧H'.get b4=H.get b4∧cJ H' b5 8 108 (fun k=>.bool (decide (k ∈ zw js nj np pad) || tk k)) ∧
    (aY P (cal (l+2)) 113 [.pointer (some ⟨g,0,none⟩),.int .i64 pad] H n fun v27 H n=>xw P (cal (l+2)) none 88 v27 #[28] jk jW K X (aw P cW) (TT v27) H n D)=K T H' n' ((n+2)::D))):=by
 rw[reached_call (l+1)]
 have a1:((H.set n (some (.cells [.pointer (some ⟨g,0,none⟩)] 105 false none))).set (n+1) (some (.cells [.int .i64 pad] 3 false none))).get n=some (.cells [.pointer (some ⟨g,0,none⟩)] 105 false none):=by rw[Tr.get_set,if_neg (by omega),Tr.get_set,if_pos rfl]
 have a2:((H.set n (some (.cells [.pointer (some ⟨g,0,none⟩)] 105 false none))).set (n+1) (some (.cells [.int .i64 pad] 3 false none))).get (n+1)=some (.cells [.int .i64 pad] 3 false none):=by rw[Tr.get_set,if_pos rfl]
 have a3:Keep n H ((H.set n (some (.cells [.pointer (some ⟨g,0,none⟩)] 105 false none))).set (n+1) (some (.cells [.int .i64 pad] 3 false none))):=((Keep.refl n H).set (Nat.le_refl _) _).set (by omega) _
 generalize (H.set n (some (.cells [.pointer (some ⟨g,0,none⟩)] 105 false none))).set (n+1) (some (.cells [.int .i64 pad] 3 false none))=H5 at a1 a2 a3 ⊢
 rw[range88,call119' (l+1) _ _ _ _ _ _ rfl]
 have hT:=hTT (.func (.func 119) ⟨[]⟩ ⟨[.pointer (some ⟨n+1,0,none⟩),.pointer (some ⟨n,0,none⟩)]⟩)
 generalize TT (.func (.func 119) ⟨[]⟩ ⟨[.pointer (some ⟨n+1,0,none⟩),.pointer (some ⟨n,0,none⟩)]⟩)=T at hT ⊢
 have r1:∀ b,b<n+2→((H5.set (n+2) (some .deferred)).set (n+2+1) (some (.loop .ready none 88 T (ntm P 88) #[28] jk jW (n+2)))).get b=H5.get b:=fun b hb=>by rw[Tr.get_set,if_neg (by omega),Tr.get_set,if_neg (by omega)]
 have r2:((H5.set (n+2) (some .deferred)).set (n+2+1) (some (.loop .ready none 88 T (ntm P 88) #[28] jk jW (n+2)))).get (n+2)=some .deferred:=by rw[Tr.get_set,if_neg (by omega),Tr.get_set,if_pos rfl]
 have r3:((H5.set (n+2) (some .deferred)).set (n+2+1) (some (.loop .ready none 88 T (ntm P 88) #[28] jk jW (n+2)))).get (n+2+1)=some (.loop .ready none 88 T (ntm P 88) #[28] jk jW (n+2)):=by rw[Tr.get_set,if_pos rfl]
 generalize (H5.set (n+2) (some .deferred)).set (n+2+1) (some (.loop .ready none 88 T (ntm P 88) #[28] jk jW (n+2)))=H6 at r1 r2 r3 ⊢
 have low:∀ b,b<n→H6.get b=H.get b:=fun b hb=>by rw[r1 b (by omega),a3 b hb]
 have hlx:lenV P 31 x=some (.int .i64 np):=hx.len_eq Kw
 have rd:∀ Hc:Hp,(∀ b,b≠n+2+1→b≠b5→Hc.get b=H6.get b)→Reads Hc (n+1) n g x pad (jZ js nj pad):=by
  intro Hc hc
  have c3:Hc.get n=some (.cells [.pointer (some ⟨g,0,none⟩)] 105 false none):=by rw[hc _ (by omega) (by omega),r1 _ (by omega)]; exact a1
  have c4:Hc.get (n+1)=some (.cells [.int .i64 pad] 3 false none):=by rw[hc _ (by omega) (by omega),r1 _ (by omega)]; exact a2
  have cg:cJ Hc g 859 117 f:=by
   obtain⟨c,e1,e2,e3⟩:=hf
   exact⟨c,by rw[hc _ (by omega) eg5,low _ lg]; exact e1,e2,e3⟩
  refine⟨bx (o:=0) (k:=0) (jz c4) agg3 rfl,bw (o:=0) (k:=0) (jz c3) agg105 rfl rfl rfl,?_,fun b hb=>?_⟩
  ·have:=cg.load (P:=P) (k:=0) Hk (by omega)
   rw[hs.x] at this; exact this
  ·have:=cg.load (P:=P) (k:=3+pad * 8+b) agg4 (by omega)
   rw[hs.near pad b (by omega) hb] at this
   rw[show 0+3+pad * 8+b * 1=3+pad * 8+b by omega]
   exact this
 obtain⟨H7,n7,s1,s2⟩:=iter2_spec (cal (l+1)) (.func (.yield (n+2+1)) #[] #[]) (n+1) n g pad np x (jZ js nj pad) (by omega) hnp hlx
  (fun qs Hc nc=>nc=n+2+2∧Hc.get (n+2+1)=some (.loop .ready none 88 T (ntm P 88) #[28] jk jW (n+2))∧cJ Hc b5 8 108 (fun k=>.bool (decide (k ∈ qs) || tk k))∧(∀ q ∈ qs,tk q=false)∧∀ b,b≠n+2+1→b≠b5→Hc.get b=H6.get b)
  (fun qs p Hc nc=>nc=n+2+2∧(p ∈ qs∨tk p=true)∧Hc.get b4=some (.cells [.bool false] 4 false none)∧Hc.get (n+2+1)=some (.loop .done (some .ret) 88 T (ntm P 88) #[28] jk jW (n+2))∧∀ b,b≠n+2+1→b≠b5→b≠b4→Hc.get b=H6.get b)
  (fun qs Hc nc ⟨_,_,_,_,h⟩=>rd Hc h)
  (fun qs p Hc nc ⟨h1,h2,h3,h4',h5'⟩ hp=>by
   rcases yield88 (ρ:=Value×Hp×Nat) l (n:=nc) (d:=n+2) (p:=p) hT h2 (by obtain⟨w,w1⟩:=h4; exact⟨w,by rw[h5' _ (by omega) e45,low _ l4]; exact w1⟩) h3 (by omega) (by omega) e45 hp with⟨y1,H',y2,y3,y4,y5⟩ | ⟨y1,H',y2,y3,y4,y5⟩
   ·refine⟨H',nc,.inr ⟨y2,h1,?_,y3,y4,fun b i1 i2 i3=>(y5 b i1 i3).trans (h5' b i1 i2)⟩⟩
    rw[Bool.or_eq_true,decide_eq_true_iff] at y1
    exact y1
   ·rw[Bool.or_eq_false_iff,decide_eq_false_iff_not] at y1
    refine⟨H',nc,.inl ⟨y2,h1,y3.trans h2,?_,fun q hq=>?_,fun b i1 i2=>(y5 b i1 i2).trans (h5' b i1 i2)⟩⟩
    ·obtain⟨c,c1,c2,c3⟩:=y4
     refine⟨c,c1,c2,fun k hk=>(c3 k hk).trans ?_⟩
     show some (Value.bool (if k=p then true else(decide (k ∈ qs) || tk k)))=some (Value.bool (decide (k ∈ qs++[p]) || tk k))
     by_cases e:k=p
     ·rw[if_pos e,e]; simp
     ·rw[if_neg e]; simp [e]
    ·rcases List.mem_append.1 hq with h | h
     ·exact h4' q h
     ·rw[List.mem_singleton.1 h]; exact y1.2)
  (H:=H6) (n:=n+2+2) ⟨rfl,r3,by
   obtain⟨c,c1,c2,c3⟩:=h5
   exact⟨c,(low b5 l5).trans c1,c2,fun k hk=>by rw[c3 k hk]; simp⟩,fun _ h=>(by cases h),fun _ _ _=>rfl⟩
 rw[s1,aj]
 dsimp only
 rcases s2 with⟨i1,i2,i3,i4,i5⟩ | ⟨qs,p,t,i0,i1,i2,i3,i4,i5⟩
 ·have hout:nV (n+2+1) { T:=T,H:=H7,n:=n7,D:=(n+2)::D }=some (.norm,{ T:=T,H:=H7.set (n+2+1) (some (.loop .exhausted none 88 T (ntm P 88) #[28] jk jW (n+2))),n:=n7,D:=(n+2)::D }):=by
   unfold nV
   simp only[i2]
  rw[hout]
  have ot:∀ b,b≠n+2+1→(H7.set (n+2+1) (some (.loop .exhausted none 88 T (ntm P 88) #[28] jk jW (n+2)))).get b=H7.get b:=fun b hb=>by rw[Tr.get_set,if_neg hb]
  refine⟨T,_,n7,hT,by omega,by rw[ot _ (by omega),i5 _ (by omega) (by omega)]; exact r2,fun b hb _ j5=>by rw[ot b (by omega),i5 b (by omega) j5,low b hb],.inr ⟨i4,by rw[ot b4 (by omega),i5 b4 (by omega) e45,low b4 l4],?_,rfl⟩⟩
  obtain⟨c,c1,c2,c3⟩:=i3
  exact⟨c,by rw[ot b5 (by omega)]; exact c1,c2,c3⟩
 ·have hout:nV (n+2+1) { T:=T,H:=H7,n:=n7,D:=(n+2)::D }=some (.ret,{ T:=T,H:=H7.set (n+2+1) (some (.loop .exhausted (some .ret) 88 T (ntm P 88) #[28] jk jW (n+2))),n:=n7,D:=(n+2)::D }):=by
   unfold nV
   simp only[i4]
  rw[hout]
  have ot:∀ b,b≠n+2+1→(H7.set (n+2+1) (some (.loop .exhausted (some .ret) 88 T (ntm P 88) #[28] jk jW (n+2)))).get b=H7.get b:=fun b hb=>by rw[Tr.get_set,if_neg hb]
  have hm:p ∈ zw js nj np pad:=by
   unfold zw
   rw[i0]
   simp
  have hnot:p ∉ qs:=by
   have hnd:=reachN_nodup (np:=np) hself
   unfold zw at hnd
   rw[i0] at hnd
   intro h
   exact(List.pairwise_append.1 hnd).2.2 p h p (by simp) rfl
  exact⟨T,_,n7,hT,by omega,by rw[ot _ (by omega),i5 _ (by omega) (by omega) (by omega)]; exact r2,fun b hb j4 j5=>by rw[ot b (by omega),i5 b (by omega) j5 j4,low b hb],.inl ⟨⟨p,hm,i2.resolve_left hnot⟩,by rw[ot b4 (by omega)]; exact i3,rfl⟩⟩
theorem end88 {b4:Nat} {r:Bool} {H:Hp} {n:Nat} {D:List Nat} (h4:H.get b4=some (.cells [.bool r] 4 false none)) (hD:D.Nodup) (hd:∀ d,d ∈ D→H.get d=some .deferred) :
  ∃ H',(getK (nQ H D) fun H=>aq (resV P ((Tr.nil:Tm).set 4 (some (.pointer (some ⟨b4,0,none⟩)))) H cW) fun vs=>some (oneV vs,H,n))=some (.bool r,H',n)∧∀ b,b ∉ D→H'.get b=H.get b:=by
 obtain⟨H3,t1,t2⟩:=takeD_ok D H hD hd
 have hb4:b4 ∉ D:=fun h=>by have:=hd b4 h; rw[h4] at this; cases this
 refine⟨H3,?_,t2⟩
 have ld:ak P H3 4 ⟨b4,0,none⟩=some (.bool r):=bw (o:=0) (k:=0) (jz ((t2 b4 hb4).trans h4)) agg4 rfl rfl rfl
 rw[t1]
 show(aq (resV P ((Tr.nil:Tm).set 4 (some (.pointer (some ⟨b4,0,none⟩)))) H3 cW) fun vs=>some (oneV vs,H3,n))=_
 have:resV P ((Tr.nil:Tm).set 4 (some (.pointer (some ⟨b4,0,none⟩)))) H3 cW=some [.bool r]:=by
  rw[results88_eq]
  have g:((Tr.nil:Tm).set 4 (some (.pointer (some ⟨b4,0,none⟩)))).get 4=some (.pointer (some ⟨b4,0,none⟩)):=by rw[Tr.get_set,if_pos rfl]
  simp only[resV,g,ld]
 rw[this]
 rfl
def IsL88 (T:Tm) (v0 v1:Value) (b4 b5:Nat) (v10:Value) (i:Nat):Prop:=∃ o:Nat→Value,o 9=v1∧((i=0∧T=TA88 o v0 v1 (.pointer (some ⟨b4,0,none⟩)) (.pointer (some ⟨b5,0,none⟩)) v10 (.int .i64 i))∨T=TC88 o v0 v1 (.pointer (some ⟨b4,0,none⟩)) (.pointer (some ⟨b5,0,none⟩)) v10 (.int .i64 i))
theorem next88 (c:Cal) (k m:Nat) {T:Tm} {v0 v1 v10:Value} {b4 b5 i:Nat} (hT:Ow T v0 v1 b4 b5 v10 (.int .i64 i)) (hi:i≤100000):∃ T',IsL88 T' v0 v1 b4 b5 v10 (i+1)∧∀(H:Hp) (n:Nat) (D:List Nat),KN88 c k m T H n D=LP88 c k m T' H n D:=by
 have hI1:I64 ((i:Int)+1):=by unfold I64; omega
 have hcast:((i:Int)+1)=((i+1:Nat):Int):=by omega
 obtain⟨o,ho,rfl | rfl⟩:=hT
 ·refine⟨_,⟨upd o 34 (.int .i64 ((i+1:Nat):Int)),ho,.inr rfl⟩,fun H n D=>?_⟩
  rw[next88_B,aJ (cz hI1),hcast]
 ·refine⟨_,⟨upd o 34 (.int .i64 ((i+1:Nat):Int)),ho,.inr rfl⟩,fun H n D=>?_⟩
  rw[next88_C,aJ (cz hI1),hcast]
theorem done88 {T:Tm} {v0 v1 v10 v11:Value} {b4 b5:Nat} (hT:Ow T v0 v1 b4 b5 v10 v11) (H:Hp) (n:Nat) (D:List Nat):aw P cW T H n D =
  (getK (nQ H D) fun H=>aq (resV P ((Tr.nil:Tm).set 4 (some (.pointer (some ⟨b4,0,none⟩)))) H cW) fun vs=>some (oneV vs,H,n)):=by
 obtain⟨o,_,rfl | rfl⟩:=hT
 ·exact done88_B ..
 ·exact done88_C ..
theorem head88 (c:Cal) (k m:Nat) {T:Tm} {v1:Value} {b4 b5 g len i:Nat} (hT:IsL88 T (.pointer (some ⟨g,0,none⟩)) v1 b4 b5 (.int .i64 len) i) :
  (i<len→∃ TT:Value→Value→Value→Value→Value→Value→Value→Value→Value→Value→Value→Tm,(∀ v13 v14 v16 v17 v18 v19 v21 v22 v23 v24 v27,Ow (TT v13 v14 v16 v17 v18 v19 v21 v22 v23 v24 v27) (.pointer (some ⟨g,0,none⟩)) v1 b4 b5 (.int .i64 len) (.int .i64 i))∧∀(H:Hp) (n:Nat) (D:List Nat),LP88 c k (m+1) T H n D =
   (aq (aW P 44 v1 (.int .i64 i)) fun v13=>aq (aX v13) fun a=>aq (ak P H 3 a) fun v14=>aq (nilV (.pointer (some ⟨g,0,none⟩))) fun v16=>aq (ay P 117 v16 0) fun v17=>aq (ay P 35 v17 0) fun v18=>aq (aX v18) fun a=>aq (ak P H 31 a) fun v19=>
    aq (aW P 31 v19 v14) fun v21=>aq (ay P 90 v21 0) fun v22=>aq (aX v22) fun a=>aq (ak P H 3 a) fun v23=>binK P .eql 3 (.tmp 23) (.const (.int .i64 0)) v23 (.int .i64 0) fun v24=>ifK v24
    (aq (bz P 4 (.pointer (some ⟨b4,0,none⟩)) (.bool false) H) fun H=>getK (nQ H D) fun H=>aq (resV P ((Tr.nil:Tm).set 4 (some (.pointer (some ⟨b4,0,none⟩)))) H cW) fun vs=>some (oneV vs,H,n))
    (aY P c 113 [.pointer (some ⟨g,0,none⟩),v14] H n fun v27 H n=>
     xw P c none 88 v27 #[28] jk jW (KN88 c k m) (upX 2 (KN88 c k m) (upX 1 (KN88 c k m) (upX 0 (KE88 c k) X0))) (aw P cW) (TT v13 v14 v16 v17 v18 v19 v21 v22 v23 v24 v27) H n D))) ∧
  (i=len→∀(H:Hp) (n:Nat) (D:List Nat),LP88 c k (m+1) T H n D =
   (aq (bz P 4 (.pointer (some ⟨b4,0,none⟩)) (.bool true) H) fun H=>getK (nQ H D) fun H=>aq (resV P ((Tr.nil:Tm).set 4 (some (.pointer (some ⟨b4,0,none⟩)))) H cW) fun vs=>some (oneV vs,H,n))):=by
 obtain⟨o,ho,⟨_,rfl⟩ | rfl⟩:=hT
 ·refine⟨fun hlt=>⟨fun v13 v14 v16 v17 v18 v19 v21 v22 v23 v24 v27=>TB88 (upd (upd (upd (upd (upd (upd (upd (upd (upd (upd (upd (upd (upd (upd (upd (upd (upd o 12 (.bool (decide ((i:Int)<(len:Int))))) 13 v13) 14 v14) 7 v14) 15 (.pointer (some ⟨g,0,none⟩))) 16 v16) 17 v17) 18 v18) 19 v19) 20 v14) 21 v21) 22 v22) 23 v23) 24 v24) 25 (.pointer (some ⟨g,0,none⟩))) 26 v14) 27 v27) (.pointer (some ⟨g,0,none⟩)) v1 (.pointer (some ⟨b4,0,none⟩)) (.pointer (some ⟨b5,0,none⟩)) (.int .i64 len) (.int .i64 i),fun v13 v14 v16 v17 v18 v19 v21 v22 v23 v24 v27=>by refine⟨_,?_,.inl rfl⟩; exact ho,fun H n D=>?_⟩,fun he H n D=>?_⟩
  ·rw[loop88_A,aJ cV,iJ,if_pos (by omega),ho]
  ·rw[loop88_A,aJ cV,iJ,if_neg (by omega),post88_A]
 ·refine⟨fun hlt=>⟨fun v13 v14 v16 v17 v18 v19 v21 v22 v23 v24 v27=>TC88 (upd (upd (upd (upd (upd (upd (upd (upd (upd (upd (upd (upd (upd (upd (upd (upd (upd o 12 (.bool (decide ((i:Int)<(len:Int))))) 13 v13) 14 v14) 7 v14) 15 (.pointer (some ⟨g,0,none⟩))) 16 v16) 17 v17) 18 v18) 19 v19) 20 v14) 21 v21) 22 v22) 23 v23) 24 v24) 25 (.pointer (some ⟨g,0,none⟩))) 26 v14) 27 v27) (.pointer (some ⟨g,0,none⟩)) v1 (.pointer (some ⟨b4,0,none⟩)) (.pointer (some ⟨b5,0,none⟩)) (.int .i64 len) (.int .i64 i),fun v13 v14 v16 v17 v18 v19 v21 v22 v23 v24 v27=>by refine⟨_,?_,.inr rfl⟩; exact ho,fun H n D=>?_⟩,fun he H n D=>?_⟩
  ·rw[loop88_C,aJ cV,iJ,if_pos (by omega),ho]
  ·rw[loop88_C,aJ cV,iJ,if_neg (by omega),post88_C]
theorem loop88_spec (l k:Nat) {H0:Hp} {n0 base b4 b5 g np nj:Nat} {f:Nat→Value} {x y z v1:Value} {ps js:List Int} {L:List Nat} (hf:cJ H0 g 859 117 f) (hs:SiteF f x y z js nj) (hx:dv H0 n0 2 x np ps) (hv:ListR H0 n0 v1 L.length (jK L)) (hnp:np≤8)
  (hL:∀ p ∈ L,p<np) (hself:∀ p,p<np→jZ js nj p p=false) (hlen:L.length≤100000) (lg:g<n0) (h4:n0≤b4) (h5:n0≤b5) (l4:b4<base) (l5:b5<base) (e45:b4≠b5) :
  ∀(j i:Nat) (T:Tm) (H:Hp) (n:Nat) (D:List Nat) (tk:Nat→Bool),IsL88 T (.pointer (some ⟨g,0,none⟩)) v1 b4 b5 (.int .i64 L.length) i→i≤L.length→L.length-i≤j→base≤n→Keep n0 H0 H→(∃ w,H.get b4=some (.cells [w] 4 false none))→cJ H b5 8 108 (fun q=>.bool (tk q)) →
   (∀ q,q<np→(tk q=true↔∃ p ∈ L.take i,nbr js nj p q))→apB js ps nj np (L.take i)=true→D.Nodup→(∀ d,d ∈ D→H.get d=some .deferred∧base≤d∧d<n) →
  ∃ H' n',LP88 (cal (l+2)) k (j+1) T H n D=some (.bool (apB js ps nj np L),H',n')∧n≤n'∧Keep n0 H0 H':=by
 have fin:∀(T:Tm) (H:Hp) (n:Nat) (D:List Nat),base≤n→Keep n0 H0 H→(∃ w,H.get b4=some (.cells [w] 4 false none))→D.Nodup→(∀ d,d ∈ D→H.get d=some .deferred∧base≤d∧d<n)→∀ r:Bool,
   ∃ H' n',(aq (bz P 4 (.pointer (some ⟨b4,0,none⟩)) (.bool r) H) fun H=>getK (nQ H D) fun H=>aq (resV P ((Tr.nil:Tm).set 4 (some (.pointer (some ⟨b4,0,none⟩)))) H cW) fun vs=>some (oneV vs,H,n))=some (.bool r,H',n')∧n≤n'∧Keep n0 H0 H':=by
  intro T H n D hb hk ⟨w,w1⟩ hD hd r
  have hst:=qk (vs:=[.bool r]) w1 rfl rfl
  have hb4:b4 ∉ D:=fun h=>by have:=(hd b4 h).1; rw[w1] at this; cases this
  obtain⟨H',q1,q2⟩:=end88 (b4:=b4) (r:=r) (H:=H.set b4 (some (.cells [.bool r] 4 false none))) (n:=n) (D:=D) (by rw[Tr.get_set,if_pos rfl]) hD fun d h=>by
   rw[Tr.get_set,if_neg (fun e=>hb4 (by rw[← e]; exact h))]; exact(hd d h).1
  refine⟨H',n,?_,Nat.le_refl _,fun b hbn=>?_⟩
  ·rw[nW sz4 rfl,hst,aj,q1]
  ·rw[q2 b (fun h=>by have:=(hd b h).2; omega),Tr.get_set,if_neg (by omega),hk b hbn]
 intro j
 induction j with
 | zero=>
  intro i T H n D tk hT hi hij hb hk hw h5' htk hap hD hd
  have:i=L.length:=by omega
  subst this
  obtain⟨H',n',q1,q2,q3⟩:=fin T H n D hb hk hw hD hd true
  rw[List.take_length] at hap
  exact⟨H',n',by rw[(head88 (cal (l+2)) k 0 hT).2 rfl,q1,hap],q2,q3⟩
 | succ j ih=>
  intro i T H n D tk hT hi hij hb hk hw h5' htk hap hD hd
  by_cases hlt:i<L.length
  ·obtain⟨TT,t1,t2⟩:=(head88 (cal (l+2)) k (j+1) hT).1 hlt
   have hpad:L[i]<np:=hL _ (List.getElem_mem _)
   obtain⟨pb,po,x1,_,x2⟩:=hv.at_ hlt
   have x2':ak P H 3 ⟨pb,po,none⟩=some (.int .i64 (L[i]:Nat)):=by
    obtain⟨pb',po',y1,_,y2⟩:=(hv.keep hk (Nat.le_refl _)).at_ hlt
    rw[x1] at y1
    cases y1
    rw[y2,jv hlt]
   have hfH:cJ H g 859 117 f:=hf.keep hk lg
   have hxH:dv H n0 2 x np ps:=hx.keep hk (Nat.le_refl _)
   have l31:ak P H 31 ⟨g,0+0+0,none⟩=some x:=by
    have:=hfH.load (P:=P) (k:=0) Hk (by omega)
    rw[hs.x] at this; exact this
   obtain⟨rb,ro,z1,_,z2⟩:=hxH.at_ Kw sz90 hpad
   have z3:ak P H 3 ⟨rb,ro+L[i] * 2+0,none⟩=some (.int .i64 (ps.getD (L[i] * 2) 0)):=by
    rw[show ro+L[i] * 2+0=ro+(L[i] * 2) by omega]
    exact bx z2 agg3 (Ay (getD_some (by rw[hxH.1]; omega)))
   have htake:L.take (i+1)=L.take i++[L[i]]:=by rw[List.take_succ_eq_append_getElem hlt]
   have hpre:apB js ps nj np L=true→apB js ps nj np (L.take (i+1))=true:=fun h=>by
    rw[← List.take_append_drop (i+1) L] at h
    exact apB_pre _ _ h
   rw[t2,x1,aj,aQ,aj,x2',aj,qj,aj,yQ,aj,zv,aj,aQ,aj,l31,aj,z1,aj,fa90_0,aj,aQ,aj,z3,aj,aJ jQ,iJ]
   by_cases hz:ps.getD (L[i] * 2) 0=0
   ·rw[if_pos hz]
    have hno:apB js ps nj np L=false:=by
     cases c:apB js ps nj np L with
     | false=>rfl
     | true=>
      have:=hpre c
      rw[htake,Sz] at this
      exact absurd hz this.2.1
    obtain⟨H',n',q1,q2,q3⟩:=fin T H n D hb hk hw hD hd false
    exact⟨H',n',by rw[q1,hno],q2,q3⟩
   ·rw[if_neg hz]
    obtain⟨T',H1,n1,r1,r2,r3,r4,r5⟩:=round88 l hfH hs hxH hnp hpad (hself _ hpad) hw h5' (show n0≤n by omega) (show b4<n by omega) (show b5<n by omega) (show g<n by omega) e45 (by omega) (by omega) (TT:=TT _ _ _ _ _ _ _ _ _ _) (fun v=>t1 _ _ _ _ _ _ _ _ _ _ v)
     (KN88 (cal (l+2)) k (j+1)) (upX 2 (KN88 (cal (l+2)) k (j+1)) (upX 1 (KN88 (cal (l+2)) k (j+1)) (upX 0 (KE88 (cal (l+2)) k) X0))) D
    have hk1:Keep n0 H0 H1:=fun b hbn=>by rw[r4 b (by omega) (by omega) (by omega),hk b hbn]
    have hD1:((n+2)::D).Nodup:=List.nodup_cons.2 ⟨fun h=>by have:=(hd _ h).2; omega,hD⟩
    have hd1:∀ d,d ∈ (n+2)::D→H1.get d=some .deferred∧base≤d∧d<n1:=by
     intro d h
     rcases List.mem_cons.1 h with rfl | h
     ·exact⟨r3,by omega,by omega⟩
     ·obtain⟨d1,d2,d3⟩:=hd d h
      exact⟨by rw[r4 d d3 (by omega) (by omega)]; exact d1,d2,by omega⟩
    rcases r5 with⟨⟨q,q1,q2⟩,q3,q4⟩ | ⟨q1,q2,q3,q4⟩
    ·have hno:apB js ps nj np L=false:=by
      cases c:apB js ps nj np L with
      | false=>rfl
      | true=>
       have:=hpre c
       rw[htake,Sz] at this
       obtain⟨w1,w2⟩:=(IQ hpad).1 q1
       obtain⟨a,a1,a2⟩:=(htk q w1).1 q2
       exact absurd ⟨a2,w2⟩ (this.2.2 a a1 q w1)
     rw[q4,done88 r1,hno]
     obtain⟨H',u1,u2⟩:=end88 (n:=n1) q3 hD1 fun d h=>(hd1 d h).1
     exact⟨H',n1,u1,by omega,fun b hbn=>by rw[u2 b (fun h=>by have:=(hd1 b h).2; omega),hk1 b hbn]⟩
    ·obtain⟨T'',t1',t2'⟩:=next88 (cal (l+2)) k (j+1) r1 (by omega)
     rw[q4,t2']
     obtain⟨H',n',u1,u2,u3⟩:=ih (i+1) T'' H1 n1 ((n+2)::D) _ t1' (by omega) (by omega) (by omega) hk1 (by obtain⟨w,w1⟩:=hw; exact⟨w,q2.trans w1⟩) q3 (fun q hq=>by
       rw[Bool.or_eq_true,decide_eq_true_iff,IQ hpad,htk q hq,htake]
       constructor
       ·rintro(⟨_,h⟩ | ⟨p,p1,p2⟩)
        ·exact⟨L[i],List.mem_append_right _ (List.mem_singleton.2 rfl),h⟩
        ·exact⟨p,List.mem_append_left _ p1,p2⟩
       ·rintro⟨p,p1,p2⟩
        rcases List.mem_append.1 p1 with h | h
        ·exact .inr ⟨p,h,p2⟩
        ·rw[List.mem_singleton.1 h] at p2; exact .inl ⟨hq,p2⟩) (by
       rw[htake,Sz]
       refine⟨hap,hz,fun a ha q hq ⟨h1,h2⟩=>?_⟩
       have:=q1 q ((IQ hpad).2 ⟨hq,h2⟩)
       rw[(htk q hq).2 ⟨a,ha,h1⟩] at this
       cases this) hD1 hd1
     exact⟨H',n',u1,by omega,u3⟩
  ·have:i=L.length:=by omega
   subst this
   obtain⟨H',n',q1,q2,q3⟩:=fin T H n D hb hk hw hD hd true
   rw[List.take_length] at hap
   exact⟨H',n',by rw[(head88 (cal (l+2)) k (j+1) hT).2 rfl,q1,hap],q2,q3⟩
theorem apart_spec (l:Nat) {H:Hp} {n g np nj:Nat} {f:Nat→Value} {x y z v1:Value} {ps js:List Int} {L:List Nat} (hf:cJ H g 859 117 f) (hs:SiteF f x y z js nj) (hx:dv H n 2 x np ps) (hv:ListR H n v1 L.length (jK L)) (hnp:np≤8)
  (hL:∀ p ∈ L,p<np) (hself:∀ p,p<np→jZ js nj p p=false) (hlen:L.length≤1000) (lg:g<n):Ret ((cal (l+3)).call 88 [.pointer (some ⟨g,0,none⟩),v1] H n) n H (.bool (apB js ps nj np L)):=by
 rw[call88,pre88,iV (show iX P 4=some (.bool false) from zero4),iV zero108,hv.len_eq,aj]
 simp only[bj,ptr]
 have k1:Keep n H ((H.set n (some (.cells [.bool false] 4 false none))).set (n+1) (some (.cells (List.replicate 8 (.bool false)) 108 false none))):=((Keep.refl n H).set (Nat.le_refl _) _).set (by omega) _
 obtain⟨H',n',q1,q2,q3⟩:=loop88_spec l KK (base:=n+2) (b4:=n) (b5:=n+1) (T:=TA88 (fun _=>v1) (.pointer (some ⟨g,0,none⟩)) v1 (.pointer (some ⟨n,0,none⟩)) (.pointer (some ⟨n+1,0,none⟩)) (.int .i64 L.length) (.int .i64 0)) hf hs hx hv hnp hL hself (by omega) lg (Nat.le_refl _) (by omega) (by omega) (by omega) (by omega) KK 0 _ (n+2) [] (fun _=>false)
  ⟨fun _=>v1,rfl,.inl ⟨rfl,rfl⟩⟩ (Nat.zero_le _) (by unfold KK; omega) (Nat.le_refl _) k1 ⟨.bool false,by rw[Tr.get_set,if_neg (by omega),Tr.get_set,if_pos rfl]⟩
  (cJ.new (e:=108) (vs:=List.replicate 8 (.bool false)) (by simp) _ fun k hk=>by rw[List.getElem?_replicate,if_pos hk])
  (fun q _=>by simp) Pk List.nodup_nil (fun d h=>by cases h)
 exact⟨H',n',q1,by omega,q3⟩
end Go.Proofs.Ytekajfobmnedjaa.spec
end
section
namespace Go.Proofs.Ytekajfobmnedjaa.spec
open Go Go.Ev Go.Proofs.Ytekajfobmnedjaa.nestFits Go.Proofs.Ytekajfobmnedjaa.G
set_option maxRecDepth 100000
variable {ρ:Type}
theorem apart_call (l:Nat) {H:Hp} {n g np nj:Nat} {f:Nat→Value} {x y z v1:Value} {ps js:List Int} {L:List Nat} (hf:cJ H g 859 117 f) (hs:SiteF f x y z js nj) (hx:dv H n 2 x np ps) (hv:ListR H n v1 L.length (jK L)) (hnp:np≤8)
  (hL:∀ p ∈ L,p<np) (hself:∀ p,p<np→jZ js nj p p=false) (hlen:L.length≤1000) (lg:g<n) :
  ∃ H' n',(∀ k:Value→Hp→Nat→Option ρ,aY P (cal (l+3)) 88 [.pointer (some ⟨g,0,none⟩),v1] H n k=k (.bool (apB js ps nj np L)) H' n')∧n≤n'∧Keep n H H':=by
 obtain⟨H',n',e,h1,h2⟩:=apart_spec l hf hs hx hv hnp hL hself hlen lg
 refine⟨H',n',fun k=>?_,h1,h2⟩
 unfold aY
 have:(iY P 88 && bZ [.pointer (some ⟨g,0,none⟩),v1])=false:=by rw[Bool.and_eq_false_iff]; exact .inr rfl
 rw[this,e]
 rfl
theorem nil44 (x y:Operand):binV P .eql 44 x y (.slice none 0 0) (.slice none 0 0)=some (.bool true):=by kernel_rfl
theorem some44 (x:Tmp) (b o len cap:Nat):binV P .eql 44 (.tmp x) (.const (.slice none 0 0)) (.slice (some ⟨b,o,none⟩) len cap) (.slice none 0 0)=some (.bool false):=by kernel_rfl
theorem clone76 (c:Cal) (k:Nat) (b o len cap:Nat) (H:Hp) (n:Nat):OV c k (.slice (some ⟨b,o,none⟩) len cap) H n=KQ c k (.slice (some ⟨b,o,none⟩) len cap) H n:=by
 unfold OV B76_0
 rw[aJ (some44 _ _ _ _ _),fk]
 rfl
def cY (H:Hp) (n0 n:Nat) (v:Value) (L:List Nat):Prop:=VecAt H n0 n 1 3 v L.length (jK L)
theorem castL_I64 {L:List Nat} (h:∀ p ∈ L,p<100):∀ x ∈ jK L,I64 x:=by
 intro x hx
 obtain⟨p,h1,rfl⟩:=List.mem_map.1 hx
 have:=h p h1
 unfold I64
 omega
theorem cY.list {H:Hp} {n0 n:Nat} {v:Value} {L:List Nat} (h:cY H n0 n v L) (hL:∀ p ∈ L,p<100):ListR H n v L.length (jK L):=VecAt.list h (castL_I64 hL)
theorem cY.nil (H:Hp) (n0 n:Nat):cY H n0 n (.slice none 0 0) []:=⟨rfl,.inl ⟨rfl,rfl⟩⟩
theorem cY.len_eq {H:Hp} {n0 n:Nat} {v:Value} {L:List Nat} (h:cY H n0 n v L):lenV P 44 v=some (.int .i64 L.length):=by
 rcases h.2 with⟨rfl,e⟩ | ⟨b,rfl,_⟩
 ·rw[e]; unfold lenV; simp only[UK]; rfl
 ·unfold lenV; simp only[UK]; rfl
theorem cY.low {H:Hp} {n0 n k:Nat} {v:Value} {L:List Nat} (h:cY H n0 n v L) (hb:gW v k):n0≤k∧k<n:=by
 obtain⟨o,l,cp,sp,hb⟩:=hb
 rcases h.2 with⟨rfl,_⟩ | ⟨b,rfl,h1,h2,_⟩
 ·cases hb
 ·cases hb; exact⟨h1,h2⟩
theorem cY.keep {H H':Hp} {n0 n n' lgb:Nat} {v:Value} {L:List Nat} (h:cY H n0 n v L) {w:Value} (hl:H.get lgb=some (.cells [w] 44 false none)) (hk:∀ b,b<n→b≠lgb→H'.get b=H.get b) (hn:n≤n'):cY H' n0 n' v L:=by
 obtain⟨h1,h2⟩:=h
 refine⟨h1,?_⟩
 rcases h2 with h2 | ⟨b,e,a1,a2,a3,a4⟩
 ·exact .inl h2
 ·refine .inr ⟨b,e,a1,by omega,a3,?_⟩
  rw[hk b a2 (fun c=>by rw[c,hl] at a4; simp at a4)]
  exact a4
theorem cY.up {H:Hp} {n0 n:Nat} {v:Value} {L:List Nat} (h:cY H n0 n v L) {n1:Nat} (hn:n1≤n0):cY H n1 n v L:=by
 obtain⟨h1,h2⟩:=h
 refine⟨h1,?_⟩
 rcases h2 with h2 | ⟨b,e,a1,a2,a3,a4⟩
 ·exact .inl h2
 ·exact .inr ⟨b,e,by omega,a2,a3,a4⟩
theorem clone_pads (l:Nat) {H:Hp} {n0 n:Nat} {v:Value} {L:List Nat} (h:cY H n0 n v L) (hL:∀ p ∈ L,p<100) (hlen:L.length≤1000) :
  ∃ u H' n',(∀ k:Value→Hp→Nat→Option ρ,aY P (cal (l+1)) 76 [v] H n k=k u H' n')∧n≤n'∧Keep n H H'∧cY H' n n' u L:=by
 have hl:=h.list hL
 have hu:∀ k:Value→Hp→Nat→Option ρ,aY P (cal (l+1)) 76 [v] H n k=aq (OV (cal l) KK v H n) fun r=>k r.1 r.2.1 r.2.2:=by
  intro k
  unfold aY
  rw[flat76,call76]
  rfl
 rcases h.2 with⟨rfl,e⟩ | ⟨b,rfl,_,_,a3,_⟩
 ·refine⟨.slice none 0 0,H,n,fun k=>?_,Nat.le_refl _,Keep.refl _ _,h.1,.inl ⟨rfl,e⟩⟩
  rw[hu]
  unfold OV B76_0
  rw[aJ (nil44 _ _),fK]
  rfl
 ·obtain⟨H',n',q1,q2,q3,q4⟩:=list_at (cal l) KK hl (by omega) hlen
  refine⟨_,H',n',fun k=>?_,by omega,q3,h.1,.inr ⟨n+1,rfl,by omega,q2,a3,q4⟩⟩
  rw[hu,clone76,q1]
  rfl
theorem castL_snoc (L:List Nat) (i:Nat):jK (L++[i])=jK L++[(i:Int)]:=by simp [jK]
theorem more_pads (l:Nat) {H:Hp} {n0 n i:Nat} {v:Value} {L:List Nat} (h:cY H n0 n v L) (hL:∀ p ∈ L,p<100) (hi:i<100) (hlen:L.length≤100) :
  ∃ u H' n',(∀ k:Value→Hp→Nat→Option ρ,(aY P (cal (l+1)) 76 [v] H n fun v_h H_i n_j=>rowK P 44 1 [(0,.int .i64 i)] H_i n_j fun v_l H_m n_n=>stK (dW P (bare H_m n_n) 44 44 v_h v_l) k)=k u H' n')∧n≤n'∧Keep n H H'∧cY H' n n' u (L++[i]):=by
 obtain⟨u,H1,n1,q1,q2,q3,q4⟩:=clone_pads (ρ:=ρ) l h hL (by omega)
 have hc:aZ (H1.set n1 (some (.cells [.int .i64 i] 3 false none))) n1 0 (ints [(i:Int)]):=aZ.new
 have hk2:∀ b,b<n1→(H1.set n1 (some (.cells [.int .i64 i] 3 false none))).get b=H1.get b:=fun b hb=>by rw[Tr.get_set,if_neg (by omega)]
 have hrow:∀ k:Value→Hp→Nat→Option ρ,(rowK P 44 1 [(0,.int .i64 i)] H1 n1 fun v_l H_m n_n=>stK (dW P (bare H_m n_n) 44 44 u v_l) k)=stK (dW P (bare (H1.set n1 (some (.cells [.int .i64 i] 3 false none))) (n1+1)) 44 44 u (.slice (some ⟨n1,0,none⟩) 1 1)) k:=by
  intro k
  unfold rowK
  rw[row44,aj]
  rfl
 generalize H1.set n1 (some (.cells [.int .i64 i] 3 false none))=H2 at hc hk2 hrow
 have v2:VecAt H2 n (n1+1) 1 3 u L.length (jK L):=VecAt.same q4 (by omega) fun b hb _=>hk2 b hb
 obtain⟨H3,ea,ev,eo⟩:=xk (P:=P) (t:=44) (t2:=44) (cap2:=1) v2 sl44 sl44 sz3 by3 zero3 rfl hc rfl (by omega) (by omega) (by omega) (by omega)
 refine⟨.slice (some ⟨n1+1,0,none⟩) (L.length+1) capV,H3,n1+1+1,fun k=>?_,by omega,fun b hb=>?_,?_⟩
 ·rw[q1,hrow,ea]
  rfl
 ·rw[eo b (by omega) (fun hbk=>by have:=(cY.low q4 hbk).1; omega),hk2 b (by omega),q3 b hb]
 ·unfold cY
  rw[castL_snoc,List.length_append]
  exact ev
end Go.Proofs.Ytekajfobmnedjaa.spec
end
section
namespace Go.Proofs.Ytekajfobmnedjaa.spec
open Go Go.Ev Go.Proofs.Ytekajfobmnedjaa.nestFits Go.Proofs.Ytekajfobmnedjaa.G
set_option maxRecDepth 100000
variable {ρ:Type}
theorem agg170:ew P 170=some false:=by kernel_rfl
theorem sz170:szT P 170=some 1:=by kernel_rfl
def extV (lgb sb eb:Nat):Value:=.func (.func 112) ⟨[]⟩ ⟨[.pointer (some ⟨lgb,0,none⟩),.pointer (some ⟨sb,0,none⟩),.pointer (some ⟨eb,0,none⟩)]⟩
theorem call112 (l:Nat) (a b c d e:Value) (H:Hp) (n:Nat):(cal (l+1)).call 112 [a,b,c,d,e] H n=Dv (cal l) KK a b c d e H n:=by kernel_rfl
theorem ext_value (l:Nat) (a b:Value) (lgb sb eb:Nat) (H:Hp) (n:Nat) (k:Value→Hp→Nat→Option ρ):eK P (cal (l+1)) (extV lgb sb eb) [a,b] H n k=aq (Dv (cal l) KK a b (.pointer (some ⟨lgb,0,none⟩)) (.pointer (some ⟨sb,0,none⟩)) (.pointer (some ⟨eb,0,none⟩)) H n) fun r=>k r.1 r.2.1 r.2.2:=by
 unfold extV
 rw[callVK_f]
 show aY P (cal (l+1)) 112 [a,b,.pointer (some ⟨lgb,0,none⟩),.pointer (some ⟨sb,0,none⟩),.pointer (some ⟨eb,0,none⟩)] H n k=_
 unfold aY
 have:(iY P 112 && bZ [a,b,.pointer (some ⟨lgb,0,none⟩),.pointer (some ⟨sb,0,none⟩),.pointer (some ⟨eb,0,none⟩)])=false:=by simp [bZ,bq]
 rw[this,call112]
structure StE (H:Hp) (m0 lgb sb eb g np:Nat) (f:Nat→Value) (x:Value) (ps:List Int):Prop where
 site:H.get sb=some (.cells [.pointer (some ⟨g,0,none⟩)] 105 false none)
 self:H.get eb=some (.cells [extV lgb sb eb] 170 false none)
 cells:cJ H g 859 117 f
 pads:dv H m0 2 x np ps
theorem StE.keep {H H':Hp} {m0 lgb sb eb g np n:Nat} {f:Nat→Value} {x:Value} {ps:List Int} (h:StE H m0 lgb sb eb g np f x ps) (h0:m0≤lgb) (l1:lgb<n) (l2:sb<n) (l3:eb<n) (l4:g<n) (e2:sb≠lgb) (e3:eb≠lgb) (e4:g≠lgb) (hk:∀ b,b<n→b≠lgb→H'.get b=H.get b):StE H' m0 lgb sb eb g np f x ps:=by
 refine⟨(hk _ l2 e2).trans h.site,(hk _ l3 e3).trans h.self,?_,h.pads.keep (m:=m0) (fun b hb=>hk b (by omega) (by omega)) (Nat.le_refl _)⟩
 obtain⟨c,a1,a2,a3⟩:=h.cells
 exact⟨c,(hk _ l4 e4).trans a1,a2,a3⟩
theorem loopL_step {ap:List Nat→Bool} {np i:Nat} {pads:List Nat} (h:i<np):lZ ap np (np-i) pads=(if ap (pads++[i])=true then(pads++[i])::lZ ap np (np-(i+1)) (pads++[i]) else[])++lZ ap np (np-(i+1)) pads:=by
 have e:np-i=(np-(i+1))+1:=by omega
 have e2:np-((np-(i+1))+1)=i:=by omega
 rw[e,lZ,e2]
def Sk (r:Res) (n:Nat) (H:Hp) (lgb:Nat) (best:List Nat):Prop:=∃ w' H' n',r=some (.tuple ⟨[]⟩,H',n')∧n≤n'∧H'.get lgb=some (.cells [w'] 44 false none)∧cY H' 0 n' w' best∧∀ b,b<n→b≠lgb→H'.get b=H.get b
theorem ext_loop (lv:Nat) {m0 base lgb sb eb g np nj d:Nat} {f:Nat→Value} {x y z v:Value} {ps js:List Int} {pads:List Nat} (hs:SiteF f x y z js nj) (hnp:np≤8) (hself:∀ p,p<np→jZ js nj p p=false)
  (h0:m0≤lgb) (l1:lgb<base) (l2:sb<base) (l3:eb<base) (l4:g<base) (e2:sb≠lgb) (e3:eb≠lgb) (e4:g≠lgb) (hd:d≤lv) (hpads:∀ q ∈ pads,q<np) (hpl:pads.length≤8)
  (hrec:∀(i:Nat) (best:List Nat) (u w:Value) (H:Hp) (n:Nat),np-d≤i→i<np→base≤n→StE H m0 lgb sb eb g np f x ps→cY H 0 n u (pads++[i])→H.get lgb=some (.cells [w] 44 false none)→cY H 0 n w best →
   Sk (Dv (cal (lv+3)) KK u (.int .i64 ((i+1:Nat):Int)) (.pointer (some ⟨lgb,0,none⟩)) (.pointer (some ⟨sb,0,none⟩)) (.pointer (some ⟨eb,0,none⟩)) H n) n H lgb (((pads++[i])::lZ (apB js ps nj np) np (np-(i+1)) (pads++[i])).foldl tJ best)) :
  ∀(m i:Nat) (best:List Nat) (w:Value) (H:Hp) (n:Nat),np-d≤i→i≤np→np-i≤m→base≤n→StE H m0 lgb sb eb g np f x ps→cY H 0 n v pads→H.get lgb=some (.cells [w] 44 false none)→cY H 0 n w best →
   Sk (Ny (cal (lv+4)) KK m v (.pointer (some ⟨sb,0,none⟩)) (.pointer (some ⟨eb,0,none⟩)) (.int .i64 i) H n) n H lgb ((lZ (apB js ps nj np) np (np-i) pads).foldl tJ best):=by
 have body:∀(b2:Value→Value→Value→Value→Hp→Nat→Res) (m i:Nat) (best:List Nat) (w:Value) (H:Hp) (n:Nat),np-d≤i→i≤np→base≤n→StE H m0 lgb sb eb g np f x ps→cY H 0 n v pads→H.get lgb=some (.cells [w] 44 false none)→cY H 0 n w best →
   (∀(best:List Nat) (w:Value) (H:Hp) (n:Nat),i<np→base≤n→StE H m0 lgb sb eb g np f x ps→cY H 0 n v pads→H.get lgb=some (.cells [w] 44 false none)→cY H 0 n w best →
    Sk (b2 v (.pointer (some ⟨sb,0,none⟩)) (.pointer (some ⟨eb,0,none⟩)) (.int .i64 ((i+1:Nat):Int)) H n) n H lgb ((lZ (apB js ps nj np) np (np-(i+1)) pads).foldl tJ best)) →
   Sk (Nx (cal (lv+4)) KK m b2 v (.pointer (some ⟨sb,0,none⟩)) (.pointer (some ⟨eb,0,none⟩)) (.int .i64 i) H n) n H lgb ((lZ (apB js ps nj np) np (np-i) pads).foldl tJ best):=by
  intro b2 m i best w H n hdi hi hb st hv hw hbest ih
  have l31:∀ H:Hp,StE H m0 lgb sb eb g np f x ps→ak P H 31 ⟨g,0+0+0,none⟩=some x:=fun H st=>by
   have:=st.cells.load (P:=P) (k:=0) Hk (by omega)
   rw[hs.x] at this; exact this
  unfold Nx B112_2
  rw[aQ,aj,wV st.site agg105 rfl rfl,aj,qj,aj,yQ,aj,zv,aj,aQ,aj,l31 H st,aj,show lenV P 31 x=some (.int .i64 np) from st.pads.len_eq Kw,aj,aJ cV,iJ]
  by_cases hlt:i<np
  ·rw[if_pos (by omega)]
   have hI1:I64 ((i:Int)+1):=by unfold I64; omega
   have hcast:((i:Int)+1)=((i+1:Nat):Int):=by omega
   obtain⟨u,H1,n1,q1,q2,q3,q4⟩:=more_pads (ρ:=Value×Hp×Nat) (lv+3) hv (fun q hq=>by have:=hpads q hq; omega) (show i<100 by omega) (by omega)
   rw[q1]
   have st1:StE H1 m0 lgb sb eb g np f x ps:=st.keep (n:=n) h0 (by omega) (by omega) (by omega) (by omega) e2 e3 e4 fun b hb' _=>q3 b hb'
   have hmore:∀ q ∈ pads++[i],q<np:=fun q hq=>by
    rcases List.mem_append.1 hq with h | h
    ·exact hpads q h
    ·rw[List.mem_singleton.1 h]; exact hlt
   obtain⟨H2,n2,s1,s2,s3⟩:=apart_call (ρ:=Value×Hp×Nat) (lv+1) st1.cells hs ((st1.pads).up (show m0≤n1 by omega)) (cY.list q4 fun q hq=>by have:=hmore q hq; omega) hnp hmore hself (by simp; omega) (show g<n1 by omega)
   have st2:StE H2 m0 lgb sb eb g np f x ps:=st1.keep (n:=n1) h0 (by omega) (by omega) (by omega) (by omega) e2 e3 e4 fun b hb' _=>s3 b hb'
   have hw1:H1.get lgb=some (.cells [w] 44 false none):=(q3 _ (by omega)).trans hw
   have hw2:H2.get lgb=some (.cells [w] 44 false none):=(s3 _ (by omega)).trans hw1
   have hk2:∀ b,b<n→b≠lgb→H2.get b=H.get b:=fun b hb' _=>(s3 b (by omega)).trans (q3 b hb')
   have hv2:cY H2 0 n2 v pads:=hv.keep hw hk2 (by omega)
   have hb2:cY H2 0 n2 w best:=hbest.keep hw hk2 (by omega)
   have hu2:cY H2 0 n2 u (pads++[i]):=(q4.up (Nat.zero_le _)).keep hw1 (fun b hb' _=>s3 b hb') s2
   rw[aQ,aj,wV st1.site agg105 rfl rfl,aj,s1,loopL_step hlt]
   cases ha:apB js ps nj np (pads++[i]) with
   | true=>
    rw[fK,aj,wV st2.self agg170 rfl rfl,aj,aJ (cz hI1),hcast,ext_value (lv+3),if_pos rfl,List.foldl_append]
    obtain⟨w3,H3,n3,t1,t2,t3,t4,t5⟩:=hrec i best u w H2 n2 hdi hlt (by omega) st2 hu2 hw2 hb2
    rw[t1,aj]
    unfold Nw B112_3
    rw[aJ (cz hI1),hcast]
    have st3:StE H3 m0 lgb sb eb g np f x ps:=st2.keep (n:=n2) h0 (by omega) (by omega) (by omega) (by omega) e2 e3 e4 t5
    obtain⟨w4,H4,n4,u1,u2,u3,u4,u5⟩:=ih _ w3 H3 n3 hlt (by omega) st3 (hv2.keep hw2 t5 t2) t3 t4
    exact⟨w4,H4,n4,u1,by omega,u3,u4,fun b hb' hne=>by rw[u5 b (by omega) hne,t5 b (by omega) hne,hk2 b hb' hne]⟩
   | false=>
    rw[fk,if_neg (by simp),List.nil_append]
    unfold Nw B112_3
    rw[aJ (cz hI1),hcast]
    obtain⟨w4,H4,n4,u1,u2,u3,u4,u5⟩:=ih best w H2 n2 hlt (by omega) st2 hv2 hw2 hb2
    exact⟨w4,H4,n4,u1,by omega,u3,u4,fun b hb' hne=>by rw[u5 b (by omega) hne,hk2 b hb' hne]⟩
  ·rw[if_neg (by omega)]
   have:i=np:=by omega
   subst this
   rw[Nat.sub_self]
   exact⟨w,H,n,rfl,Nat.le_refl _,hw,hbest,fun _ _ _=>rfl⟩
 intro m
 induction m with
 | zero=>
  intro i best w H n h1 h2 h3 h4 h5 h6 h7 h8
  exact body _ 0 i best w H n h1 h2 h4 h5 h6 h7 h8 (fun _ _ _ _ h=>by omega)
 | succ m ih=>
  intro i best w H n h1 h2 h3 h4 h5 h6 h7 h8
  exact body _ (m+1) i best w H n h1 h2 h4 h5 h6 h7 h8 (fun best w H n q1 q2 q3 q4 q5 q6=>ih (i+1) best w H n (by omega) (by omega) (by omega) q2 q3 q4 q5 q6)
theorem ext_spec {m0 base lgb sb eb g np nj:Nat} {f:Nat→Value} {x y z:Value} {ps js:List Int} (hs:SiteF f x y z js nj) (hnp:np≤8) (hself:∀ p,p<np→jZ js nj p p=false)
  (h0:m0≤lgb) (l1:lgb<base) (l2:sb<base) (l3:eb<base) (l4:g<base) (e2:sb≠lgb) (e3:eb≠lgb) (e4:g≠lgb):∀(d lv:Nat),d≤lv→d≤np→∀(pads best:List Nat) (v w:Value) (H:Hp) (n:Nat),
  base≤n→StE H m0 lgb sb eb g np f x ps→cY H 0 n v pads→H.get lgb=some (.cells [w] 44 false none)→cY H 0 n w best→(∀ q ∈ pads,q<np)→pads.length≤np-d →
  Sk (Dv (cal (lv+4)) KK v (.int .i64 ((np-d:Nat):Int)) (.pointer (some ⟨lgb,0,none⟩)) (.pointer (some ⟨sb,0,none⟩)) (.pointer (some ⟨eb,0,none⟩)) H n) n H lgb ((pads::lZ (apB js ps nj np) np d pads).foldl tJ best):=by
 intro d
 induction d using Nat.strongRecOn with
 | _ d IH=>
  intro lv hlv hd pads best v w H n hb st hv hw hbest hpads hpl
  have lp:=fun(best:List Nat) (w:Value) (H:Hp) (n:Nat)=>ext_loop lv (v:=v) (d:=d) (ps:=ps) hs hnp hself h0 l1 l2 l3 l4 e2 e3 e4 hlv hpads (show pads.length≤8 by omega)
   (fun i best u w H n hdi hi hb st hu hw hbest=>by
    have:=IH (np-(i+1)) (by omega) (lv-1) (by omega) (by omega) (pads++[i]) best u w H n hb st hu hw hbest (fun q hq=>by
     rcases List.mem_append.1 hq with h | h
     ·exact hpads q h
     ·rw[List.mem_singleton.1 h]; exact hi) (by simp; omega)
    rw[show lv-1+4=lv+3 by omega,show np-(np-(i+1))=i+1 by omega] at this
    exact this) KK (np-d) best w H n (Nat.le_refl _) (by omega) (by unfold KK; omega)
  rw[show np-(np-d)=d by omega] at lp
  unfold Dv B112_0
  generalize hC:TZ (cal (lv+4)) KK=J
  have hJ:∀(H:Hp) (n:Nat),J v (.int .i64 ((np-d:Nat):Int)) (.pointer (some ⟨sb,0,none⟩)) (.pointer (some ⟨eb,0,none⟩)) H n=Ny (cal (lv+4)) KK KK v (.pointer (some ⟨sb,0,none⟩)) (.pointer (some ⟨eb,0,none⟩)) (.int .i64 ((np-d:Nat):Int)) H n:=fun H n=>by rw[← hC]; rfl
  rw[hv.len_eq,aj,aQ,aj,wV hw agg44 (VecAt.leaf hbest).2.1 (VecAt.leaf hbest).2.2,aj,hbest.len_eq,aj,aJ vK,iJ,List.foldl_cons]
  by_cases c:best.length<pads.length
  ·rw[if_pos (by omega)]
   have hst:=qk (vs:=[v]) hw rfl (by simp [(VecAt.leaf hv).1])
   rw[nW sz44 (VecAt.leaf hv).1,hst,aj,hJ]
   have k1:∀ b,b<n→b≠lgb→(H.set lgb (some (.cells [v] 44 false none))).get b=H.get b:=fun b _ hne=>by rw[Tr.get_set,if_neg hne]
   have g1:(H.set lgb (some (.cells [v] 44 false none))).get lgb=some (.cells [v] 44 false none):=by rw[Tr.get_set,if_pos rfl]
   generalize H.set lgb (some (.cells [v] 44 false none))=H1 at k1 g1
   have st1:StE H1 m0 lgb sb eb g np f x ps:=st.keep (n:=n) h0 (by omega) (by omega) (by omega) (by omega) e2 e3 e4 k1
   have hv1:cY H1 0 n v pads:=hv.keep hw k1 (Nat.le_refl _)
   obtain⟨w',H',n',u1,u2,u3,u4,u5⟩:=lp pads v H1 n hb st1 hv1 g1 hv1
   rw[show tJ best pads=pads from if_pos c]
   exact⟨w',H',n',u1,u2,u3,u4,fun b hb' hne=>by rw[u5 b hb' hne,k1 b hb' hne]⟩
  ·rw[if_neg (by omega),hJ,show tJ best pads=best from if_neg c]
   exact lp best w H n hb st hv hw hbest
end Go.Proofs.Ytekajfobmnedjaa.spec
end
section
namespace Go.Proofs.Ytekajfobmnedjaa.spec
open Go Go.Ev Go.Proofs.Ytekajfobmnedjaa.nestFits Go.Proofs.Ytekajfobmnedjaa.G
set_option maxRecDepth 100000
variable {ρ:Type}
open Classical in
theorem Good.self {np nj nk p:Nat} {ps js ks:List Int} (good:Good np nj nk ps js ks):jZ js nj p p=false:=by
 cases c:jZ js nj p p with
 | false=>rfl
 | true=>
 unfold jZ at c
 obtain⟨q,h1,h2⟩:=of_decide_eq_true c
 have hj:js[q * 2]?=some (p:Int)∧js[q * 2+1]?=some (p:Int):=by
  rcases h2 with h | h <;> exact h
 exact absurd (.inr (.inr ⟨q,h1,p,p,hj.1,hj.2,.inr (.inr (.inl rfl))⟩)) good.ok
theorem zero170:iX P 170=some .nilFunc:=by kernel_rfl
theorem proof_spec (l:Nat) {H:Hp} {n g np nj:Nat} {f:Nat→Value} {x y z:Value} {ps js:List Int} (hf:cJ H g 859 117 f) (hs:SiteF f x y z js nj) (hx:dv H n 2 x np ps) (hnp:np≤8) (hself:∀ p,p<np→jZ js nj p p=false) (hg:g<n) :
  ∃ w H' n',Xw (cal (l+13)) KK (.pointer (some ⟨g,0,none⟩)) H n=some (w,H',n')∧n≤n'∧Keep n H H'∧cY H' 0 n' w (pq (apB js ps nj np) np):=by
 unfold Xw B85_0
 rw[fy,iV zero44,iV zero170]
 simp only[bj,ptr]
 have a1:(((H.set n (some (.cells [.pointer (some ⟨g,0,none⟩)] 105 false none))).set (n+1) (some (.cells [.slice none 0 0] 44 false none))).set (n+1+1) (some (.cells [.nilFunc] 170 false none))).get n=some (.cells [.pointer (some ⟨g,0,none⟩)] 105 false none):=by rw[Tr.get_set,if_neg (by omega),Tr.get_set,if_neg (by omega),Tr.get_set,if_pos rfl]
 have a2:(((H.set n (some (.cells [.pointer (some ⟨g,0,none⟩)] 105 false none))).set (n+1) (some (.cells [.slice none 0 0] 44 false none))).set (n+1+1) (some (.cells [.nilFunc] 170 false none))).get (n+1)=some (.cells [.slice none 0 0] 44 false none):=by rw[Tr.get_set,if_neg (by omega),Tr.get_set,if_pos rfl]
 have a3:(((H.set n (some (.cells [.pointer (some ⟨g,0,none⟩)] 105 false none))).set (n+1) (some (.cells [.slice none 0 0] 44 false none))).set (n+1+1) (some (.cells [.nilFunc] 170 false none))).get (n+1+1)=some (.cells [.nilFunc] 170 false none):=by rw[Tr.get_set,if_pos rfl]
 have a4:Keep n H (((H.set n (some (.cells [.pointer (some ⟨g,0,none⟩)] 105 false none))).set (n+1) (some (.cells [.slice none 0 0] 44 false none))).set (n+1+1) (some (.cells [.nilFunc] 170 false none))):=(((Keep.refl n H).set (Nat.le_refl _) _).set (by omega) _).set (by omega) _
 generalize ((H.set n (some (.cells [.pointer (some ⟨g,0,none⟩)] 105 false none))).set (n+1) (some (.cells [.slice none 0 0] 44 false none))).set (n+1+1) (some (.cells [.nilFunc] 170 false none))=H1 at a1 a2 a3 a4 ⊢
 have s1:=qk (vs:=[extV (n+1) n (n+1+1)]) a3 rfl rfl
 have s2:bz P 170 (.pointer (some ⟨n+1+1,0,none⟩)) (.func (.func 112) ⟨[]⟩ ⟨[.pointer (some ⟨n+1,0,none⟩),.pointer (some ⟨n,0,none⟩),.pointer (some ⟨n+1+1,0,none⟩)]⟩) H1=_:=(nW sz170 rfl).trans s1
 rw[s2,aj]
 have b1:(H1.set (n+1+1) (some (.cells [extV (n+1) n (n+1+1)] 170 false none))).get (n+1+1)=some (.cells [extV (n+1) n (n+1+1)] 170 false none):=by rw[Tr.get_set,if_pos rfl]
 have b2:∀ b,b<n+2→(H1.set (n+1+1) (some (.cells [extV (n+1) n (n+1+1)] 170 false none))).get b=H1.get b:=fun b hb=>by rw[Tr.get_set,if_neg (by omega)]
 generalize H1.set (n+1+1) (some (.cells [extV (n+1) n (n+1+1)] 170 false none))=H2 at b1 b2 ⊢
 have kk:Keep n H H2:=fun b hb=>by rw[b2 b (by omega),a4 b hb]
 have st:StE H2 n (n+1) n (n+1+1) g np f x ps:=⟨(b2 n (by omega)).trans a1,b1,hf.keep kk hg,hx.keep kk (Nat.le_refl _)⟩
 have hw:H2.get (n+1)=some (.cells [.slice none 0 0] 44 false none):=(b2 (n+1) (by omega)).trans a2
 obtain⟨w',H',n',u1,u2,u3,u4,u5⟩:=ext_spec (base:=n+3) hs hnp hself (show n≤n+1 by omega) (by omega) (by omega) (by omega) (by omega) (by omega) (by omega) (by omega) np (l+8) (by omega) (Nat.le_refl _) [] [] (.slice none 0 0) (.slice none 0 0) H2 (n+1+1+1) (by omega) st (cY.nil _ _ _) hw (cY.nil _ _ _) (fun q h=>by cases h) (Nat.zero_le _)
 rw[Nat.sub_self] at u1
 rw[aQ,aj,wV b1 agg170 rfl rfl,aj,ext_value (l+12)]
 have u1':Dv (cal (l+12)) KK (.slice none 0 0) (.int .i64 0) (.pointer (some ⟨n+1,0,none⟩)) (.pointer (some ⟨n,0,none⟩)) (.pointer (some ⟨n+1+1,0,none⟩)) H2 (n+1+1+1)=_:=u1
 rw[u1',aj,aQ,aj,wV u3 agg44 (VecAt.leaf u4).2.1 (VecAt.leaf u4).2.2,aj]
 exact⟨w',H',n',rfl,by omega,fun b hb=>by rw[u5 b (by omega) (by omega),kk b hb],u4⟩
theorem call85 (l:Nat) (a:Value) (H:Hp) (n:Nat):(cal (l+1)).call 85 [a] H n=Xw (cal l) KK a H n:=by kernel_rfl
theorem proof_call (l:Nat) {H:Hp} {n g np nj:Nat} {f:Nat→Value} {x y z:Value} {ps js:List Int} (hf:cJ H g 859 117 f) (hs:SiteF f x y z js nj) (hx:dv H n 2 x np ps) (hnp:np≤8) (hself:∀ p,p<np→jZ js nj p p=false) (hg:g<n) :
  ∃ w H' n',(∀ k:Value→Hp→Nat→Option ρ,aY P (cal (l+14)) 85 [.pointer (some ⟨g,0,none⟩)] H n k=k w H' n')∧n≤n'∧Keep n H H'∧cY H' 0 n' w (pq (apB js ps nj np) np):=by
 obtain⟨w,H',n',e1,e2,e3,e4⟩:=proof_spec l hf hs hx hnp hself hg
 refine⟨w,H',n',fun k=>?_,e2,e3,e4⟩
 unfold aY
 have:(iY P 85 && bZ [.pointer (some ⟨g,0,none⟩)])=false:=by simp [bZ,bq]
 rw[this,call85,e1]
 rfl
theorem flat48:iY P 48=false:=by kernel_rfl
theorem call48 (l:Nat) (a:Value) (H:Hp) (n:Nat):(cal (l+1)).call 48 [a] H n=Ox (cal l) KK a H n:=by kernel_rfl
theorem Apart_call (l:Nat) (a:Value) (H:Hp) (n:Nat) (k:Value→Hp→Nat→Option ρ):aY P (cal (l+1)) 48 [a] H n k=aq (Ox (cal l) KK a H n) fun r=>k r.1 r.2.1 r.2.2:=by
 unfold aY
 rw[flat48,call48]
 rfl
theorem Apart_spec (l:Nat) {np nj nk:Nat} {ps js ks:List Int} {H:Hp} {n:Nat} {v:Value} (hg:fW H n v np nj nk ps js ks) (hnp:np≤1000) (hnj:nj≤1000) (hnk:nk≤1000) :
  (dz np nj nk ps js ks≠0→Ret (Ox (cal (l+16)) KK v H n) n H (.tuple ⟨[.slice none 0 0,.int .i64 (dz np nj nk ps js ks)]⟩)) ∧
  (dz np nj nk ps js ks=0→∃ w H' n',Ox (cal (l+16)) KK v H n=some (.tuple ⟨[w,.int .i64 0]⟩,H',n')∧n≤n'∧Keep n H H'∧cY H' 0 n' w (pq (apB js ps nj np) np)):=by
 have hg0:=hg
 obtain⟨x,y,z,rfl,h1,h2,h3⟩:=hg
 unfold Ox B48_0
 rw[fy]
 simp only[bj,ptr]
 have hk:Keep n H (H.set n (some (.cells [x,y,z] 35 false none))):=(Keep.refl n H).set (Nat.le_refl _) _
 have hb:aZ (H.set n (some (.cells [x,y,z] 35 false none))) n 0 [x,y,z]:=aZ.new
 generalize H.set n (some (.cells [x,y,z] 35 false none))=H1 at hk hb ⊢
 have lg:ak P H1 35 ⟨n,0,none⟩=some (.agg ⟨[x,y,z]⟩):=cx (o:=0) (k:=0) hb Kv sz35 (by simp) (by simp [h1.hole.1,h2.hole.1,h3.hole.1])
 obtain⟨o1,o2⟩:=open_spec (l+10) (hg0.keep hk (show n≤n+1 by omega)) hnp hnj hnk
 rw[aQ,aj,lg,aj,open_call (l+10)]
 by_cases he:dz np nj nk ps js ks=0
 ·refine⟨fun h=>absurd he h,fun _=>?_⟩
  obtain⟨g,x',y',z',f,H2,n2,e1,e2,e3,e4,e5,e6,e7,e8,e9⟩:=o2 he
  simp only[Value.agg.injEq,Array.mk.injEq,List.cons.injEq,and_true] at e6
  obtain⟨rfl,rfl,rfl⟩:=e6
  have good:=Kk he
  have kk:Keep n H H2:=hk.trans e3 (by omega)
  have t0:tupV (.tuple ⟨[.pointer (some ⟨g,0,none⟩),.int .i64 0]⟩) 0=some (.pointer (some ⟨g,0,none⟩)):=rfl
  have t1:tupV (.tuple ⟨[.pointer (some ⟨g,0,none⟩),.int .i64 0]⟩) 1=some (.int .i64 0):=rfl
  have d0:decide ((0:Int)=0)=true:=rfl
  rw[e1,aj,t0,aj,t1,aj,aJ uZ,d0,Bool.not_true,fk]
  dsimp only
  obtain⟨w,H3,n3,b1,b2,b3,b4⟩:=proof_call (ρ:=Value×Hp×Nat) (l+2) e7 e8 ((h1.keep kk (Nat.le_refl _)).up (show n≤n2 by omega)) good.np8 (fun p _=>good.self) e5
  rw[b1]
  exact⟨w,H3,n3,rfl,by omega,fun b hb=>by rw[b3 b (by omega),kk b hb],b4⟩
 ·refine⟨fun _=>?_,fun h=>absurd h he⟩
  obtain⟨H2,n2,e1,e2,e3⟩:=o1 he
  have t0:tupV (.tuple ⟨[.pointer none,.int .i64 (dz np nj nk ps js ks)]⟩) 0=some (.pointer none):=rfl
  have t1:tupV (.tuple ⟨[.pointer none,.int .i64 (dz np nj nk ps js ks)]⟩) 1=some (.int .i64 (dz np nj nk ps js ks)):=rfl
  rw[e1,aj,t0,aj,t1,aj,aJ uZ,decide_eq_false he,Bool.not_false,fK]
  exact⟨H2,n2,rfl,by omega,hk.trans e3 (by omega)⟩
end Go.Proofs.Ytekajfobmnedjaa.spec
end
section
namespace Go.Proofs.Ytekajfobmnedjaa.spec
open Go Go.Ev Go.Proofs.Ytekajfobmnedjaa.nestFits Go.Proofs.Ytekajfobmnedjaa.G
set_option maxRecDepth 100000
variable {ρ:Type}
def HoldsI (c:Cal) (fv:Value) (xs:List Int) (len:Nat) (p:Nat→Prop) (H0:Hp) (n0:Nat):Prop:=
 ∀ i,i<len→∀(H:Hp) (n:Nat),n0≤n→Keep n0 H0 H→∃(b:Bool) (H':Hp) (n':Nat),(b=true↔p i) ∧
  (∀ k:Value→Hp→Nat→Res,eK P c fv [.int .i64 (xs.getD i 0)] H n k=k (.bool b) H' n')∧n≤n'∧Keep n H H'
theorem each86_loop (c:Cal) (k:Nat) (fv v:Value) (xs:List Int) (len:Nat) (p:Nat→Prop) (H0:Hp) (n0:Nat) (hx:ListR H0 n0 v len xs) (hlen:len≤1000) (hf:HoldsI c fv xs len p H0 n0) :
  ∀(m i:Nat) (H:Hp) (n:Nat),n0≤n→Keep n0 H0 H→i≤len→len-i≤m →
  ∃ r,Ret (S86_1 c k m fv v (.int .i64 len) (.int .i64 i) H n) n H (.bool r)∧(r=true↔∀ q,i≤q→q<len→p q):=by
 have body:∀(b1:Value→Value→Value→Value→Hp→Nat→Res) (m i:Nat) (H:Hp) (n:Nat),n0≤n→Keep n0 H0 H→i≤len →
   (∀ H' n',n≤n'→Keep n H H'→i<len→∃ r,Ret (b1 fv v (.int .i64 len) (.int .i64 ((i+1:Nat):Int)) H' n') n' H' (.bool r)∧(r=true↔∀ q,i+1≤q→q<len→p q)) →
   ∃ r,Ret (Xx c k m b1 fv v (.int .i64 len) (.int .i64 i) H n) n H (.bool r)∧(r=true↔∀ q,i≤q→q<len→p q):=by
  intro b1 m i H n hn hk hi ih
  unfold Xx B86_1
  rw[aJ cV,iJ]
  by_cases hlt:i<len
  ·rw[if_pos (by omega)]
   obtain⟨bb,o,hix,hbn,hld⟩:=(hx.keep hk hn).at_ hlt
   obtain⟨b,H2,n2,e1,e2,e3,e4⟩:=hf i hlt H n hn hk
   rw[hix,aj,aQ,aj,hld,aj,e2]
   cases b with
   | false=>
    rw[sw,aj,fK]
    refine⟨false,⟨H2,n2,rfl,by omega,e4⟩,⟨fun h=>(by cases h),fun h=>?_⟩⟩
    exact absurd (e1.2 (h i (Nat.le_refl _) hlt)) (by simp)
   | true=>
    have hI:I64 ((i:Int)+1):=by unfold I64; omega
    have hcast:((i:Int)+1)=((i+1:Nat):Int):=by omega
    rw[pW,aj,fk,aJ (cz hI),hcast]
    obtain⟨r,⟨H',n',q1,q2,q3⟩,q4⟩:=ih H2 n2 (by omega) e4 hlt
    refine⟨r,⟨H',n',q1,by omega,e4.trans q3 (by omega)⟩,q4.trans ⟨fun h q h1 h2=>?_,fun h q h1 h2=>h q (by omega) h2⟩⟩
    rcases Nat.eq_or_lt_of_le h1 with z | z
    ·subst z; exact e1.1 rfl
    ·exact h q z h2
  ·rw[if_neg (by omega)]
   exact⟨true,⟨H,n,rfl,Nat.le_refl _,Keep.refl _ _⟩,⟨fun _ q h1 h2=>by omega,fun _=>rfl⟩⟩
 intro m
 induction m with
 | zero=>
  intro i H n h1 h2 h3 h4
  exact body _ 0 i H n h1 h2 h3 (fun _ _ _ _ h=>by omega)
 | succ m ih=>
  intro i H n h1 h2 h3 h4
  exact body _ (m+1) i H n h1 h2 h3 (fun H' n' q1 q2 q3=>ih (i+1) H' n' (by omega) (h2.trans q2 h1) (by omega) (by omega))
theorem call86 (l:Nat) (a b:Value) (H:Hp) (n:Nat):(cal (l+1)).call 86 [a,b] H n=C86_0 (cal l) KK a b H n:=by kernel_rfl
theorem each86_call (l:Nat) (fv v:Value) (xs:List Int) (len:Nat) (p:Nat→Prop) {H:Hp} {n:Nat} (hx:ListR H n v len xs) (hlen:len≤1000) (hf:HoldsI (cal l) fv xs len p H n) (hf0:bq fv=true→HoldsI (cal l) fv xs len p .nil 0) :
  ∃(b:Bool) (H':Hp) (n':Nat),(b=true↔∀ q,q<len→p q)∧(∀ k:Value→Hp→Nat→Option ρ,aY P (cal (l+1)) 86 [v,fv] H n k=k (.bool b) H' n')∧n≤n'∧Keep n H H':=by
 obtain⟨r,H',n',⟨b',rfl,hb⟩,e1,e2,e3⟩:=eJ (ρ:=ρ) (P:=P) (cal:=cal (l+1)) (f:=86) (args:=[v,fv]) (H:=H) (n:=n)
  (Pre:=fun H n=>ListR H n v len xs∧HoldsI (cal l) fv xs len p H n) (Q:=fun r=>∃ b':Bool,r=.bool b'∧(b'=true↔∀ q,q<len→p q))
  (fun H n h=>by
   obtain⟨r,h1,h2⟩:=each86_loop (cal l) KK fv v xs len p H n h.1 hlen h.2 KK 0 H n (Nat.le_refl _) (Keep.refl _ _) (Nat.zero_le _) (by unfold KK; omega)
   refine⟨.bool r,?_,r,rfl,h2.trans ⟨fun h q=>h q (by omega),fun h q _=>h q⟩⟩
   rw[call86]
   unfold C86_0 B86_0
   rw[h.1.len_eq,aj]
   exact h1) (fun r ⟨b,e,_⟩ _=>by subst e; rfl) ⟨hx,hf⟩ (fun hp=>by
    simp only[bZ,Bool.and_eq_true] at hp
    exact⟨hx.nil hp.1,hf0 hp.2.1⟩)
 exact⟨b',H',n',hb,e1,e2,e3⟩
theorem rises87_loop (c:Cal) (k:Nat) {H:Hp} {n len:Nat} {v:Value} {xs:List Int} (hx:ListR H n v len xs) (hlen:len≤1000):∀(m i:Nat),1≤i→len-i≤m →
  ∃ r:Bool,S87_1 c k m v (.int .i64 i) H n=some (.bool r,H,n)∧(r=true↔∀ q,i≤q→q<len→xs.getD (q-1) 0<xs.getD q 0):=by
 have body:∀(b1:Value→Value→Hp→Nat→Res) (m i:Nat),1≤i →
   (i<len→∃ r:Bool,b1 v (.int .i64 ((i+1:Nat):Int)) H n=some (.bool r,H,n)∧(r=true↔∀ q,i+1≤q→q<len→xs.getD (q-1) 0<xs.getD q 0)) →
   ∃ r:Bool,Xy c k m b1 v (.int .i64 i) H n=some (.bool r,H,n)∧(r=true↔∀ q,i≤q→q<len→xs.getD (q-1) 0<xs.getD q 0):=by
  intro b1 m i h1 ih
  unfold Xy B87_1
  rw[hx.len_eq,aj,aJ cV,iJ]
  by_cases hlt:i<len
  ·rw[if_pos (by omega)]
   obtain⟨bb,o,hix,_,hld⟩:=hx.at_ hlt
   obtain⟨bb',o',hix',_,hld'⟩:=hx.at_ (show i-1<len by omega)
   have hI:I64 ((i:Int)-1):=by unfold I64; omega
   have hc:((i:Int)-1)=((i-1:Nat):Int):=by omega
   have hI1:I64 ((i:Int)+1):=by unfold I64; omega
   have hc1:((i:Int)+1)=((i+1:Nat):Int):=by omega
   rw[hix,aj,aQ,aj,hld,aj,aJ (Cj hI),hc,hix',aj,aQ,aj,hld',aj,aJ vZ,iJ]
   by_cases hle:xs.getD i 0≤xs.getD (i-1) 0
   ·rw[if_pos hle]
    refine⟨false,rfl,⟨fun h=>(by cases h),fun h=>?_⟩⟩
    have:=h i (Nat.le_refl _) hlt
    omega
   ·rw[if_neg hle,aJ (cz hI1),hc1]
    obtain⟨r,q1,q2⟩:=ih hlt
    refine⟨r,q1,q2.trans ⟨fun h q a b=>?_,fun h q a b=>h q (by omega) b⟩⟩
    rcases Nat.eq_or_lt_of_le a with z | z
    ·subst z; omega
    ·exact h q z b
  ·rw[if_neg (by omega)]
   exact⟨true,rfl,⟨fun _ q a b=>by omega,fun _=>rfl⟩⟩
 intro m
 induction m with
 | zero=>intro i h1 h2; exact body _ 0 i h1 (fun h=>by omega)
 | succ m ih=>intro i h1 h2; exact body _ (m+1) i h1 (fun h=>ih (i+1) (by omega) (by omega))
theorem call87 (l:Nat) (a:Value) (H:Hp) (n:Nat):(cal (l+1)).call 87 [a] H n=C87_0 (cal l) KK a H n:=by kernel_rfl
theorem rises87_call (l:Nat) {H:Hp} {n len:Nat} {v:Value} {xs:List Int} (hx:ListR H n v len xs) (hlen:len≤1000) :
  ∃(b:Bool) (H':Hp) (n':Nat),(b=true↔∀ q,1≤q→q<len→xs.getD (q-1) 0<xs.getD q 0)∧(∀ k:Value→Hp→Nat→Option ρ,aY P (cal (l+1)) 87 [v] H n k=k (.bool b) H' n')∧n≤n'∧Keep n H H':=by
 obtain⟨r,H',n',⟨b',rfl,hb⟩,e1,e2,e3⟩:=eJ (ρ:=ρ) (P:=P) (cal:=cal (l+1)) (f:=87) (args:=[v]) (H:=H) (n:=n)
  (Pre:=fun H n=>ListR H n v len xs) (Q:=fun r=>∃ b':Bool,r=.bool b'∧(b'=true↔∀ q,1≤q→q<len→xs.getD (q-1) 0<xs.getD q 0))
  (fun H n h=>by
   obtain⟨r,h1,h2⟩:=rises87_loop (cal l) KK h hlen KK 1 (Nat.le_refl _) (by unfold KK; omega)
   refine⟨.bool r,⟨H,n,?_,Nat.le_refl _,Keep.refl _ _⟩,r,rfl,h2⟩
   rw[call87]
   exact h1) (fun r ⟨b,e,_⟩ _=>by subst e; rfl) hx (fun hp=>by
    simp only[bZ,Bool.and_eq_true] at hp
    exact hx.nil hp.1)
 exact⟨b',H',n',hb,e1,e2,e3⟩
theorem rises_of:∀ {t:List Nat} {a:Nat},(∀ x,t[0]?=some x→a≤x)→(∀ i x y,t[i]?=some x→t[i+1]?=some y→x<y)→fQ a t
 | [],_,_,_=>trivial
 | x::t,a,h0,h=>⟨h0 x rfl,rises_of (fun y hy=>h 0 x y rfl hy) fun i y z hy hz=>h (i+1) y z hy hz⟩
theorem rises_to:∀ {t:List Nat} {a:Nat},fQ a t→∀ i x y,t[i]?=some x→t[i+1]?=some y→x<y
 | [],_,_,_,_,_,h,_=>by cases h
 | x::t,a,hr,0,u,w,hu,hw=>by
  cases hu
  cases t with
  | nil=>cases hw
  | cons y t=>cases hw; exact hr.2.1
 | x::t,a,hr,i+1,u,w,hu,hw=>rises_to hr.2 i u w hu hw
def Cz (js ps:List Int) (nj np:Nat) (xs:List Int):Prop:=∃ t:List Nat,xs=jK t∧qq (apB js ps nj np) np t
theorem cast_back {xs:List Int} {np:Nat} (h:∀ q,q<xs.length→0≤xs.getD q 0∧xs.getD q 0<np):∃ t:List Nat,xs=jK t∧∀ p ∈ t,p<np:=by
 refine⟨xs.map Int.toNat,?_,fun p hp=>?_⟩
 ·apply List.ext_getElem?
  intro i
  unfold jK
  rw[List.map_map,List.getElem?_map]
  cases c:xs[i]? with
  | none=>rfl
  | some x=>
   have hi:i<xs.length:=by
    rcases Nat.lt_or_ge i xs.length with q | q
    ·exact q
    ·rw[List.getElem?_eq_none q] at c; cases c
   have:=h i hi
   rw[List.getD_eq_getElem?_getD,c] at this
   simp only[Option.getD_some] at this
   simp only[Option.map_some,Function.comp,Int.toNat_of_nonneg this.1]
 ·obtain⟨x,hx,rfl⟩:=List.mem_map.1 hp
  obtain⟨i,hi,e⟩:=List.mem_iff_getElem.1 hx
  have:=h i hi
  rw[List.getD_eq_getElem?_getD,List.getElem?_eq_getElem hi,e] at this
  simp only[Option.getD_some] at this
  omega
theorem IV {t:List Nat}:(∀ q,1≤q→q<t.length→(jK t).getD (q-1) 0<(jK t).getD q 0)↔fQ 0 t:=by
 constructor
 ·intro h
  refine rises_of (fun _ _=>Nat.zero_le _) fun i x y hx hy=>?_
  have hi:i+1<t.length:=by
   rcases Nat.lt_or_ge (i+1) t.length with q | q
   ·exact q
   ·rw[List.getElem?_eq_none q] at hy; cases hy
  have:=h (i+1) (by omega) hi
  rw[jv hi,Nat.add_sub_cancel,jv (by omega)] at this
  rw[List.getElem?_eq_getElem (by omega)] at hx
  rw[List.getElem?_eq_getElem hi] at hy
  cases hx
  cases hy
  omega
 ·intro h q h1 h2
  have:=rises_to h (q-1) t[q-1] t[q] (List.getElem?_eq_getElem _) (by rw[show q-1+1=q by omega]; exact List.getElem?_eq_getElem _)
  rw[jv h2,jv (by omega)]
  omega
theorem call49 (l:Nat) (a b:Value) (H:Hp) (n:Nat):(cal (l+1)).call 49 [a,b] H n=VW (cal l) KK a b H n:=by kernel_rfl
theorem MV {s t:List Nat} (h:jK s=jK t):s=t:=by
 unfold jK at h
 exact List.map_inj_right (fun a b e=>by omega) |>.1 h
theorem ProveApart_spec (l:Nat) {np nj nk nl:Nat} {ps js ks xs:List Int} {H:Hp} {n:Nat} {v w:Value} (hg:fW H n v np nj nk ps js ks) (hw:ListR H n w nl xs) (hnp:np≤1000) (hnj:nj≤1000) (hnk:nk≤1000) (hnl:nl≤1000) :
  ∃ r:Bool,Ret (VW (cal (l+6)) KK v w H n) n H (.bool r)∧(r=true↔dz np nj nk ps js ks=0∧Cz js ps nj np xs):=by
 have hg0:=hg
 obtain⟨x,y,z,rfl,h1,h2,h3⟩:=hg
 unfold VW B49_0
 rw[fy]
 simp only[bj,ptr]
 have hk:Keep n H (H.set n (some (.cells [x,y,z] 35 false none))):=(Keep.refl n H).set (Nat.le_refl _) _
 have hb:aZ (H.set n (some (.cells [x,y,z] 35 false none))) n 0 [x,y,z]:=aZ.new
 generalize H.set n (some (.cells [x,y,z] 35 false none))=H1 at hk hb ⊢
 have lg:ak P H1 35 ⟨n,0,none⟩=some (.agg ⟨[x,y,z]⟩):=cx (o:=0) (k:=0) hb Kv sz35 (by simp) (by simp [h1.hole.1,h2.hole.1,h3.hole.1])
 obtain⟨o1,o2⟩:=open_spec l (hg0.keep hk (show n≤n+1 by omega)) hnp hnj hnk
 rw[aQ,aj,lg,aj,open_call l]
 by_cases he:dz np nj nk ps js ks=0
 ·obtain⟨g,x',y',z',f,H2,n2,e1,e2,e3,e4,e5,e6,e7,e8,e9⟩:=o2 he
  simp only[Value.agg.injEq,Array.mk.injEq,List.cons.injEq,and_true] at e6
  obtain⟨rfl,rfl,rfl⟩:=e6
  have good:=Kk he
  have kk:Keep n H H2:=hk.trans e3 (by omega)
  have t0:tupV (.tuple ⟨[.pointer (some ⟨g,0,none⟩),.int .i64 0]⟩) 0=some (.pointer (some ⟨g,0,none⟩)):=rfl
  have t1:tupV (.tuple ⟨[.pointer (some ⟨g,0,none⟩),.int .i64 0]⟩) 1=some (.int .i64 0):=rfl
  have d0:decide ((0:Int)=0)=true:=rfl
  have lgr:ak P H2 35 ⟨g,0+0,none⟩=some (.agg ⟨[x,y,z]⟩):=by
   rw[Nat.add_zero,e7.load_agg (k:=0) Kv sz35 (by omega)]
   have:(List.range 3).map (fun j=>f (0+j))=[x,y,z]:=by
    show[f (0+0),f (0+1),f (0+2)]=_
    rw[e8.x,e8.y,e8.z]
   rw[this]
  have hg2:fW H2 n2 (.agg ⟨[x,y,z]⟩) np nj nk ps js ks:=hg0.keep kk (by omega)
  have hw2:=hw.keep kk (show n≤n2 by omega)
  obtain⟨b1,H3,n3,a1,a2,a3,a4⟩:=each86_call (ρ:=Value×Hp×Nat) (l+5) (.func (.func 71) ⟨[.agg ⟨[x,y,z]⟩]⟩ ⟨[]⟩) w xs nl (fun q=>0≤xs.getD q 0∧xs.getD q 0<np) hw2 hnl
   (fun i _ H4 n4 hn4 hk4=>by
    obtain⟨r,H5,n5,q1,q2,q3,q4⟩:=Kx (ρ:=Value×Hp×Nat) (l+4) (hg2.keep hk4 hn4) (xs.getD i 0)
    exact⟨r,H5,n5,q1,fun k=>q2 k,q3,q4⟩)
   (fun hp i _ H4 n4 hn4 hk4=>by
    have hg3:fW .nil 0 (.agg ⟨[x,y,z]⟩) np nj nk ps js ks:=hg2.nil (by
     simp only[bq,Bool.and_eq_true] at hp
     have h:=hp.1.2
     simp only[kw,bZ,Bool.and_true] at h
     exact h)
    obtain⟨r,H5,n5,q1,q2,q3,q4⟩:=Kx (ρ:=Value×Hp×Nat) (l+4) (hg3.keep hk4 hn4) (xs.getD i 0)
    exact⟨r,H5,n5,q1,fun k=>q2 k,q3,q4⟩)
  rw[e1,aj,t0,aj,t1,aj,aJ jQ,d0]
  dsimp only
  simp only[fj,qj,aj,yQ,aQ,lgr,a2,cZ]
  have kA:Keep n H H3:=fun b hb=>by rw[a4 b (by omega),kk b hb]
  cases b1 with
  | false=>
   simp only[gj,fx,cK,aj]
   refine⟨false,⟨H3,n3,rfl,by omega,kA⟩,⟨fun h=>(by cases h),?_⟩⟩
   rintro⟨_,t,rfl,_,t2,_⟩
   refine absurd (a1.2 fun q hq=>?_) (by simp)
   have hq':q<t.length:=by have:=hw.1; rw[Gv] at this; omega
   rw[jv hq']
   have:=t2 _ (List.getElem_mem hq')
   omega
  | true=>
   obtain⟨t,rfl,ht⟩:=cast_back (np:=np) (fun q hq=>a1.1 rfl q (by have:=hw.1; omega))
   have hlt:t.length=nl:=by have:=hw.1; rw[Gv] at this; exact this
   have hw3:=hw2.keep a4 a3
   obtain⟨b2,H4,n4,c1,c2,c3,c4⟩:=rises87_call (ρ:=Value×Hp×Nat) (l+5) hw3 hnl
   simp only[fj,c2,cZ,aj]
   have kB:Keep n H H4:=fun b hb=>by rw[c4 b (by omega),kA b hb]
   rw[← hlt,IV] at c1
   cases b2 with
   | false=>
    simp only[gj,fx,cK,aj]
    refine⟨false,⟨H4,n4,rfl,by omega,kB⟩,⟨fun h=>(by cases h),?_⟩⟩
    rintro⟨_,s,hs,s1,_⟩
    rw[MV hs] at c1
    exact absurd (c1.2 s1) (by simp)
   | true=>
    subst hlt
    have kC:Keep n2 H2 H4:=fun b hb=>by rw[c4 b (by omega),a4 b hb]
    obtain⟨H5,n5,s1,s2,s3⟩:=apart_call (ρ:=Value×Hp×Nat) (l+3) (e7.keep kC e5) e8 ((h1.keep kB (Nat.le_refl _)).up (show n≤n4 by omega)) (hw3.keep c4 c3) good.np8 ht (fun p _=>good.self) hnl (show g<n4 by omega)
    simp only[fj,s1,cZ,aj]
    refine⟨_,⟨H5,n5,rfl,by omega,fun b hb=>by rw[s3 b (by omega),kB b hb]⟩,⟨fun h=>⟨he,t,rfl,c1.1 rfl,ht,h⟩,?_⟩⟩
    rintro⟨_,s,hs,_,_,s3⟩
    rw[MV hs]
    exact s3
 ·obtain⟨H2,n2,e1,e2,e3⟩:=o1 he
  have t0:tupV (.tuple ⟨[.pointer none,.int .i64 (dz np nj nk ps js ks)]⟩) 0=some (.pointer none):=rfl
  have t1:tupV (.tuple ⟨[.pointer none,.int .i64 (dz np nj nk ps js ks)]⟩) 1=some (.int .i64 (dz np nj nk ps js ks)):=rfl
  rw[e1,aj,t0,aj,t1,aj,aJ jQ,decide_eq_false he]
  simp only[gj,fx,cK,aj]
  exact⟨false,⟨H2,n2,rfl,by omega,hk.trans e3 (by omega)⟩,⟨fun h=>(by cases h),fun h=>absurd h.1 he⟩⟩
theorem ProveApart_call (l:Nat) {np nj nk nl:Nat} {ps js ks xs:List Int} {H:Hp} {n:Nat} {v w:Value} (hg:fW H n v np nj nk ps js ks) (hw:ListR H n w nl xs) (hnp:np≤1000) (hnj:nj≤1000) (hnk:nk≤1000) (hnl:nl≤1000) :
  ∃(r:Bool) (H':Hp) (n':Nat),(r=true↔dz np nj nk ps js ks=0∧Cz js ps nj np xs)∧(∀ k:Value→Hp→Nat→Option ρ,aY P (cal (l+7)) 49 [v,w] H n k=k (.bool r) H' n')∧n≤n'∧Keep n H H':=by
 obtain⟨r,H',n',⟨b,rfl,hb⟩,e1,e2,e3⟩:=eJ (ρ:=ρ) (P:=P) (cal:=cal (l+7)) (f:=49) (args:=[v,w]) (H:=H) (n:=n)
  (Pre:=fun H n=>fW H n v np nj nk ps js ks∧ListR H n w nl xs) (Q:=fun r=>∃ b:Bool,r=.bool b∧(b=true↔dz np nj nk ps js ks=0∧Cz js ps nj np xs))
  (fun H n h=>by
   obtain⟨r,h1,h2⟩:=ProveApart_spec l h.1 h.2 hnp hnj hnk hnl
   exact⟨.bool r,by rw[call49]; exact h1,r,rfl,h2⟩) (fun r ⟨b,e,_⟩ _=>by subst e; rfl) ⟨hg,hw⟩ (fun hp=>by
    simp only[bZ,Bool.and_eq_true] at hp
    exact⟨hg.nil hp.1,hw.nil hp.2.1⟩)
 exact⟨b,H',n',hb,e1,e2,e3⟩
end Go.Proofs.Ytekajfobmnedjaa.spec
end
section
namespace Go.Ev
open Go
variable {P:Program} {t:TypeId} {x y:Operand} {a:Int} {ρ:Type}
theorem bin_shr {kd:IntKind} {b:Nat} (hb:b<64):binV P .shr t x y (.int .i64 a) (.int kd (b:Int))=some (.int .i64 (a.fdiv (2 ^ b))):=by
 have hq:rZ .shr (.int .i64 a) (.int kd (b:Int))=none:=by
  unfold rZ
  cases a <;> cases kd <;> rfl
 have h0:(bq (.int .i64 a) && bq (.int kd (b:Int)))=true:=rfl
 have h1:wX P .shr t (.int .i64 a) (.int kd (b:Int))=none:=by unfold wX; rfl
 have h2:binOp .shr t (.int .i64 a) (.int kd (b:Int))=pure (.int .i64 (a.fdiv (2 ^ b))):=by
  have hn:¬ ((b:Int)<0):=by omega
  have hm:min b 64=b:=by omega
  show Op.shift .shr .i64 a kd (b:Int)=_
  unfold Op.shift
  rw[if_neg hn]
  show(pure (.int .i64 (a.fdiv (2 ^ min (b:Int).toNat IntKind.i64.bits))):Sem Value)=_
  rw[Int.toNat_natCast,show IntKind.i64.bits=64 from rfl,hm]
 unfold binV
 rw[hq]
 unfold yk
 rw[h0]
 simp only[h1,zq BK h2]
 rfl
theorem fdiv_pow (m b:Nat):((m:Int).fdiv (2 ^ b))=((m >>> b:Nat):Int):=by
 rw[Int.fdiv_eq_ediv_of_nonneg _ (by exact Int.pow_nonneg (by omega)),Nat.shiftRight_eq_div_pow]
 simp
end Go.Ev
end
section
namespace Go.Proofs.Ytekajfobmnedjaa.spec
open Go Go.Ev Go.Proofs.Ytekajfobmnedjaa.nestFits Go.Proofs.Ytekajfobmnedjaa.G
set_option maxRecDepth 100000
variable {ρ:Type}
theorem push_pads {H:Hp} {n0 n i:Nat} {v:Value} {L:List Nat} (h:cY H n0 n v L) (hn:n0≤n) (hlen:L.length≤1000) :
  ∃ u H' n',(∀ k:Value→Hp→Nat→Option ρ,(rowK P 44 1 [(0,.int .i64 i)] H n fun v_l H_m n_n=>stK (dW P (bare H_m n_n) 44 44 v v_l) k)=k u H' n')∧n≤n'∧cY H' n0 n' u (L++[i])∧∀ b,b<n→¬ gW v b→H'.get b=H.get b:=by
 have hc:aZ (H.set n (some (.cells [.int .i64 i] 3 false none))) n 0 (ints [(i:Int)]):=aZ.new
 have hk2:∀ b,b<n→(H.set n (some (.cells [.int .i64 i] 3 false none))).get b=H.get b:=fun b hb=>by rw[Tr.get_set,if_neg (by omega)]
 have hrow:∀ k:Value→Hp→Nat→Option ρ,(rowK P 44 1 [(0,.int .i64 i)] H n fun v_l H_m n_n=>stK (dW P (bare H_m n_n) 44 44 v v_l) k)=stK (dW P (bare (H.set n (some (.cells [.int .i64 i] 3 false none))) (n+1)) 44 44 v (.slice (some ⟨n,0,none⟩) 1 1)) k:=by
  intro k
  unfold rowK
  rw[row44,aj]
  rfl
 generalize H.set n (some (.cells [.int .i64 i] 3 false none))=H2 at hc hk2 hrow
 have v2:VecAt H2 n0 (n+1) 1 3 v L.length (jK L):=VecAt.same h (by omega) fun b hb _=>hk2 b hb
 obtain⟨H3,ea,ev,eo⟩:=xk (P:=P) (t:=44) (t2:=44) (cap2:=1) v2 sl44 sl44 sz3 by3 zero3 rfl hc rfl (by omega) (by omega) (by omega) (by omega)
 refine⟨.slice (some ⟨n+1,0,none⟩) (L.length+1) capV,H3,n+1+1,fun k=>?_,by omega,?_,fun b hb hne=>?_⟩
 ·rw[hrow,ea]
  rfl
 ·unfold cY
  rw[castL_snoc,List.length_append]
  exact ev
 ·rw[eo b (by omega) hne,hk2 b (by omega)]
def bitB (b p:Nat):Bool:=decide ((b >>> p) % 2=1)
def gY (b:Nat):List Nat:=(List.range 8).filter (bitB b)
theorem conv138 {a:Nat} (ha:a<1000):dJ P (.int .i64 (a:Int)) (convert 3 138 (.int .i64 (a:Int)))=some (.int .u64 (a:Int)):=by
 have h:jj P (convert 3 138 (.int .i64 (a:Int)))=some (.int .u64 (IntKind.u64.wrap (a:Int))):=by kernel_rfl
 have hw:IntKind.u64.wrap (a:Int)=a:=by
  simp [IntKind.wrap,IntKind.bits,IntKind.signed]
  omega
 unfold dJ
 rw[h,hw]
 rfl
theorem bits_end {b p:Nat} (hp:p≤8) (h:b >>> p=0):(List.range p).filter (bitB b)=gY b:=by
 unfold gY
 have key:∀ d,(List.range (p+d)).filter (bitB b)=(List.range p).filter (bitB b):=by
  intro d
  induction d with
  | zero=>rfl
  | succ d ih=>
   have hb:bitB b (p+d)=false:=by
    unfold bitB
    rw[Nat.shiftRight_add,h,Nat.zero_shiftRight]
    rfl
   rw[show p+(d+1)=(p+d)+1 by omega,List.range_succ,List.filter_append,ih]
   simp [List.filter_cons,hb]
 have:=key (8-p)
 rw[show p+(8-p)=8 by omega] at this
 exact this.symm
theorem bits_loop (c:Cal) (k:Nat) {b:Nat} (hb:b<256) {H0:Hp} {n0:Nat}:∀(m p:Nat) (u:Value) (H:Hp) (n:Nat),n0≤n→Keep n0 H0 H→p≤8→8-p≤m→cY H n0 n u ((List.range p).filter (bitB b)) →
  ∃ u' H' n',SY c k m (.int .i64 b) u (.int .i64 p) H n=some (u',H',n')∧n≤n'∧Keep n0 H0 H'∧cY H' n0 n' u' (gY b):=by
 have body:∀(b1:Value→Value→Value→Hp→Nat→Res) (m p:Nat) (u:Value) (H:Hp) (n:Nat),n0≤n→Keep n0 H0 H→p≤8→cY H n0 n u ((List.range p).filter (bitB b)) →
   (∀(u:Value) (H':Hp) (n':Nat),p<8→n≤n'→Keep n0 H0 H'→cY H' n0 n' u ((List.range (p+1)).filter (bitB b))→∃ u' H2 n2,b1 (.int .i64 b) u (.int .i64 ((p+1:Nat):Int)) H' n'=some (u',H2,n2)∧n'≤n2∧Keep n0 H0 H2∧cY H2 n0 n2 u' (gY b)) →
   ∃ u' H' n',Wq c k m b1 (.int .i64 b) u (.int .i64 p) H n=some (u',H',n')∧n≤n'∧Keep n0 H0 H'∧cY H' n0 n' u' (gY b):=by
  intro b1 m p u H n hn hk hp hu ih
  unfold Wq B57_1
  rw[conv138 (by omega),aj,aJ (bin_shr (by omega)),fdiv_pow,aJ vK,iJ]
  by_cases hpos:0<b >>> p
  ·have hp8:p<8:=by
    refine Classical.byContradiction fun h=>?_
    have:p=8:=by omega
    subst this
    rw[Nat.shiftRight_eq_div_pow] at hpos
    omega
   have hI1:I64 ((p:Int)+1):=by unfold I64; omega
   have hc1:((p:Int)+1)=((p+1:Nat):Int):=by omega
   rw[if_pos (by omega),aj,aJ (bin_shr (by omega)),fdiv_pow,aJ (bin_rem (by omega))]
   have hrem:((b >>> p:Nat):Int).tmod 2=((b >>> p % 2:Nat):Int):=rem_small (n:=2) (by omega)
   rw[hrem,aJ jQ,iJ]
   by_cases hbit:b >>> p % 2=1
   ·rw[if_pos (by omega)]
    obtain⟨u2,H2,n2,q1,q2,q3,q4⟩:=push_pads (ρ:=Value×Hp×Nat) (i:=p) hu hn (by have:=List.length_filter_le (bitB b) (List.range p); rw[List.length_range] at this; omega)
    rw[q1]
    unfold Wj B57_2
    rw[aJ (cz hI1),hc1]
    obtain⟨u',H',n',r1,r2,r3,r4⟩:=ih u2 H2 n2 hp8 q2 (fun x hx=>by rw[q4 x (by omega) (fun hbk=>by have:=(hu.low hbk).1; omega),hk x hx]) (by
     rw[List.range_succ,List.filter_append]
     have:bitB b p=true:=decide_eq_true hbit
     simp only[List.filter_cons,this,if_true,List.filter_nil]
     exact q3)
    exact⟨u',H',n',r1,by omega,r3,r4⟩
   ·rw[if_neg (by omega)]
    unfold Wj B57_2
    rw[aJ (cz hI1),hc1]
    obtain⟨u',H',n',r1,r2,r3,r4⟩:=ih u H n hp8 (Nat.le_refl _) hk (by
     rw[List.range_succ,List.filter_append]
     have:bitB b p=false:=decide_eq_false hbit
     simp only[List.filter_cons,this,List.filter_nil,Bool.false_eq_true,if_false,List.append_nil]
     exact hu)
    exact⟨u',H',n',r1,by omega,r3,r4⟩
  ·rw[if_neg (by omega)]
   have hz:b >>> p=0:=Nat.le_zero.1 (Nat.not_lt.1 hpos)
   refine⟨u,H,n,rfl,Nat.le_refl _,hk,?_⟩
   rw[← bits_end hp hz]
   exact hu
 intro m
 induction m with
 | zero=>intro p u H n h1 h2 h3 h4 h5; exact body _ 0 p u H n h1 h2 h3 h5 (fun _ _ _ h=>by omega)
 | succ m ih=>intro p u H n h1 h2 h3 h4 h5; exact body _ (m+1) p u H n h1 h2 h3 h5 (fun u H' n' q1 q2 q3 q4=>ih (p+1) u H' n' (by omega) q3 (by omega) (by omega) q4)
theorem flat57:iY P 57=false:=by kernel_rfl
theorem call57 (l:Nat) (a:Value) (H:Hp) (n:Nat):(cal (l+1)).call 57 [a] H n=C57_0 (cal l) KK a H n:=by kernel_rfl
theorem Bits_call (l:Nat) {b:Nat} (hb:b<256) (H:Hp) (n:Nat) :
  ∃ u H' n',(∀ k:Value→Hp→Nat→Option ρ,aY P (cal (l+1)) 57 [.int .i64 b] H n k=k u H' n')∧n≤n'∧Keep n H H'∧cY H' n n' u (gY b):=by
 obtain⟨u,H',n',e1,e2,e3,e4⟩:=bits_loop (cal l) KK hb (H0:=H) (n0:=n) KK 0 (.slice none 0 0) H n (Nat.le_refl _) (Keep.refl _ _) (Nat.zero_le _) (by unfold KK; omega) (cY.nil _ _ _)
 refine⟨u,H',n',fun k=>?_,e2,e3,e4⟩
 unfold aY
 rw[flat57,call57]
 show aq (SY (cal l) KK KK (.int .i64 b) (.slice none 0 0) (.int .i64 0) H n) _=_
 have e1':SY (cal l) KK KK (.int .i64 b) (.slice none 0 0) (.int .i64 0) H n=some (u,H',n'):=e1
 rw[e1']
 rfl
end Go.Proofs.Ytekajfobmnedjaa.spec
end
section
namespace Go.Proofs.Ytekajfobmnedjaa.spec
open Go Go.Ev Go.Proofs.Ytekajfobmnedjaa.nestFits Go.Proofs.Ytekajfobmnedjaa.G
set_option maxRecDepth 100000
variable {ρ:Type}
noncomputable def T50 (c:Cal) (b3:Value→Value→Value→Value→Value→Hp→Nat→Res) (u1 u2 u5 u6 u7 v_6r:Value) (H_6m:Hp) (n_6n:Nat):Res:=
bJ v_6r true (fun k_6t=>
k_6t u7 .p H_6m n_6n) .p H_6m n_6n fun v_6u x_6v H_6w n_6x=>
bJ v_6r true (fun k_6z=>
k_6z u1 .p H_6w n_6x) .p H_6w n_6x fun v_70 x_71 H_72 n_73=>
bJ v_6r true (fun k_75=>
k_75 u6 .p H_72 n_73) .p H_72 n_73 fun v_76 x_77 H_78 n_79=>
bJ v_6r true (fun k_7b=>
aq (aW P 44 v_70 v_76) fun v_7g=>
k_7b v_7g .p H_78 n_79) .p H_78 n_79 fun v_7c x_7d H_7e n_7f=>
bJ v_6r true (fun k_7h=>
aq (aX v_7c) fun a_7m=>aq (ak P H_7e 3 a_7m) fun v_7n=>
k_7h v_7n (.l 3 a_7m) H_7e n_7f) .p H_7e n_7f fun v_7i x_7j H_7k n_7l=>
bJ v_6r true (fun k_7o=>
binK P BinOp.eql 3 (Operand.tmp 80) (Operand.tmp 84) v_6u v_7i fun v_7t=>
k_7o v_7t .p H_7k n_7l) .p H_7k n_7l fun v_7p x_7q H_7r n_7s=>
bJ v_6r true (fun k_7u=>
k_7u v_7p .p H_7r n_7s) .p H_7r n_7s fun v_7v x_7w H_7x n_7y=>
bJ v_7v false (fun k_80=>
aq (aX u2) fun a_85=>aq (ak P H_7x 26 a_85) fun v_86=>
k_80 v_86 (.l 26 a_85) H_7x n_7y) .p H_7x n_7y fun v_81 x_82 H_83 n_84=>
bJ v_7v false (fun k_87=>
k_87 u7 .p H_83 n_84) .p H_83 n_84 fun v_88 x_89 H_8a n_8b=>
bJ v_7v false (fun k_8d=>
k_8d u1 .p H_8a n_8b) .p H_8a n_8b fun v_8e x_8f H_8g n_8h=>
bJ v_7v false (fun k_8j=>
k_8j u6 .p H_8g n_8h) .p H_8g n_8h fun v_8k x_8l H_8m n_8n=>
bJ v_7v false (fun k_8p=>
aq (aW P 44 v_8e v_8k) fun v_8u=>
k_8p v_8u .p H_8m n_8n) .p H_8m n_8n fun v_8q x_8r H_8s n_8t=>
bJ v_7v false (fun k_8v=>
aq (aX v_8q) fun a_90=>aq (ak P H_8s 3 a_90) fun v_91=>
k_8v v_91 (.l 3 a_90) H_8s n_8t) .p H_8s n_8t fun v_8w x_8x H_8y n_8z=>
bJ v_7v false (fun k_92=>
aY P c 89 [v_81,v_88,v_8w] H_8y n_8z fun v_97 H_98 n_99=>
k_92 v_97 .e H_98 n_99) .e H_8y n_8z fun v_93 x_94 H_95 n_96=>
bJ v_6r true (fun k_9a=>
aq (dq v_7v (Value.bool true) v_93) fun v_9f=>
k_9a v_9f .p H_95 n_96) .p H_95 n_96 fun v_9b x_9c H_9d n_9e=>
aq (dq v_6r v_9b (Value.bool false)) fun v_9g=>
ifK v_9g (
some ((Value.bool false),H_9d,n_9e)) (
binK P BinOp.add 3 (Operand.tmp 62) (Operand.const (Value.int IntKind.i64 1)) u7 (Value.int IntKind.i64 1) fun v_9j=>
b3 u1 u2 u5 u6 v_9j H_9d n_9e)
theorem near_call2 (l:Nat) {np nj nk:Nat} {ps js ks:List Int} {H:Hp} {n:Nat} {v:Value} (hg:GroveI H n v np nj nk ps js ks) (hk:nj≤KK) (a b:Int) :
  ∃(r:Bool) (H':Hp) (n':Nat),(r=true↔∃ j,j<nj∧J js a b j)∧(∀ k:Value→Hp→Nat→Option ρ,aY P (cal (l+1)) 89 [v,.int .i64 a,.int .i64 b] H n k=k (.bool r) H' n')∧n≤n'∧Keep n H H':=by
 obtain⟨r,H',n',⟨b',rfl,hb⟩,e1,e2,e3⟩:=eJ (ρ:=ρ) (P:=P) (cal:=cal (l+1)) (f:=89) (args:=[v,.int .i64 a,.int .i64 b]) (H:=H) (n:=n)
  (Pre:=fun H n=>GroveI H n v np nj nk ps js ks) (Q:=fun r=>∃ b':Bool,r=.bool b'∧(b'=true↔∃ j,j<nj∧J js a b j))
  (fun H n h=>by
   obtain⟨r,h1,h2⟩:=near_spec (cal l) KK h hk a b
   exact⟨.bool r,by rw[call89]; exact h1,r,rfl,h2⟩) (fun r ⟨b,e,_⟩ _=>by subst e; rfl) hg (fun hp=>hg.nil (by simp only[bZ,Bool.and_eq_true] at hp; exact hp.1))
 exact⟨b',H',n',hb,e1,e2,e3⟩
def iK (js:List Int) (nj:Nat) (q:Nat) (a:Int):Prop:=(q:Int)=a∨∃ j,j<nj∧J js q a j
structure StA (H0:Hp) (n0 gb:Nat) (w x y z:Value) (np nj nk nl:Nat) (ps js ks xs:List Int):Prop where
 grove:GroveI H0 n0 (.agg ⟨[x,y,z]⟩) np nj nk ps js ks
 cell:aZ H0 gb 0 [x,y,z]
 low:gb<n0
 list:ListR H0 n0 w nl xs
 nj:nj≤KK
 np:np≤100
 nl:nl≤100
theorem StA.keep {H0 H:Hp} {n0 n gb:Nat} {w x y z:Value} {np nj nk nl:Nat} {ps js ks xs:List Int} (h:StA H0 n0 gb w x y z np nj nk nl ps js ks xs) (hk:Keep n0 H0 H) (hn:n0≤n):StA H n gb w x y z np nj nk nl ps js ks xs:=
 ⟨h.grove.keep hk hn,h.cell.keep hk h.low,by have:=h.low; omega,h.list.keep hk hn,h.nj,h.np,h.nl⟩
theorem StA.load {H0:Hp} {n0 gb:Nat} {w x y z:Value} {np nj nk nl:Nat} {ps js ks xs:List Int} (h:StA H0 n0 gb w x y z np nj nk nl ps js ks xs):ak P H0 26 ⟨gb,0,none⟩=some (.agg ⟨[x,y,z]⟩)∧ak P H0 22 ⟨gb,0+0,none⟩=some x∧SliceI H0 n0 2 x np ps:=by
 obtain⟨x',y',z',e,h1,h2,h3⟩:=h.grove.eq
 cases e
 exact⟨Zz h.cell h1.hole.1 h2.hole.1 h3.hole.1,bw h.cell RY rfl h1.hole.1 h1.hole.2,h1⟩
theorem second50 (l:Nat) {H:Hp} {n gb:Nat} {w x y z:Value} {np nj nk nl i k p:Nat} {ps js ks xs:List Int} (st:StA H n gb w x y z np nj nk nl ps js ks xs) (hk:k<nl) (hp:p<np) (b3:Value→Value→Value→Value→Value→Hp→Nat→Res) (t1:Bool) :
  (t1=true∧iK js nj p (xs.getD k 0)∧Ret (T50 (cal (l+1)) b3 w (.pointer (some ⟨gb,0,none⟩)) (.int .i64 i) (.int .i64 k) (.int .i64 p) (.bool t1) H n) n H (.bool false)) ∨
  (¬ (t1=true∧iK js nj p (xs.getD k 0))∧∃ H' n',T50 (cal (l+1)) b3 w (.pointer (some ⟨gb,0,none⟩)) (.int .i64 i) (.int .i64 k) (.int .i64 p) (.bool t1) H n=b3 w (.pointer (some ⟨gb,0,none⟩)) (.int .i64 i) (.int .i64 k) (.int .i64 ((p+1:Nat):Int)) H' n'∧n≤n'∧Keep n H H'):=by
 have hnp:=st.np
 have hI1:I64 ((p:Int)+1):=by unfold I64; omega
 have hc1:((p:Int)+1)=((p+1:Nat):Int):=by omega
 obtain⟨pb,po,z1,_,z2⟩:=st.list.at_ hk
 obtain⟨l26,_,_⟩:=st.load
 unfold T50
 cases t1 with
 | false=>
  refine .inr ⟨fun h=>(by cases h.1),H,n,?_,Nat.le_refl _,Keep.refl _ _⟩
  simp only[FZ,AQ,cK,aj,fk,aJ (cz hI1),hc1]
 | true=>
  simp only[Ak,aj,z1,aQ,z2,aJ jQ]
  by_cases e:(p:Int)=xs.getD k 0
  ·refine .inl ⟨trivial,.inl e,?_⟩
   simp only[decide_eq_true e,Gj,AQ,cZ,aj,fK]
   exact⟨H,n,rfl,Nat.le_refl _,Keep.refl _ _⟩
  ·obtain⟨r,H',n',r0,r1,r2,r3⟩:=near_call2 (ρ:=Value×Hp×Nat) l st.grove st.nj p (xs.getD k 0)
   simp only[decide_eq_false e,AJ,aj,l26,aQ,z1,z2,r1,cK,cZ]
   cases r with
   | true=>
    exact .inl ⟨trivial,.inr (r0.1 rfl),H',n',rfl,r2,r3⟩
   | false=>
    refine .inr ⟨?_,H',n',?_,r2,r3⟩
    ·rintro⟨_,h | h⟩
     ·exact e h
     ·exact absurd (r0.2 h) (by simp)
    ·simp only[fk,aJ (cz hI1),hc1]
theorem pads50_loop (l k0 m1 m2:Nat) {H0:Hp} {n0 gb:Nat} {w x y z:Value} {np nj nk nl i k:Nat} {ps js ks xs:List Int} (st:StA H0 n0 gb w x y z np nj nk nl ps js ks xs) (hi:i<nl) (hk:k<nl) (b1:Value→Value→Value→Hp→Nat→Res) (b2:Value→Value→Value→Value→Hp→Nat→Res) :
  ∀(m p:Nat) (H:Hp) (n:Nat),n0≤n→Keep n0 H0 H→p≤np→np-p≤m →
  ((∃ q,q<np∧iK js nj q (xs.getD i 0)∧iK js nj q (xs.getD k 0))∧Ret (VX (cal (l+1)) k0 m1 m2 b1 b2 m w (.pointer (some ⟨gb,0,none⟩)) (.int .i64 i) (.int .i64 k) (.int .i64 p) H n) n H (.bool false)) ∨
  ((∀ q,p≤q→q<np→¬ (iK js nj q (xs.getD i 0)∧iK js nj q (xs.getD k 0)))∧∃ H' n',VX (cal (l+1)) k0 m1 m2 b1 b2 m w (.pointer (some ⟨gb,0,none⟩)) (.int .i64 i) (.int .i64 k) (.int .i64 p) H n=b2 w (.pointer (some ⟨gb,0,none⟩)) (.int .i64 i) (.int .i64 ((k+1:Nat):Int)) H' n'∧n≤n'∧Keep n H H'):=by
 have body:∀(b3:Value→Value→Value→Value→Value→Hp→Nat→Res) (m p:Nat) (H:Hp) (n:Nat),n0≤n→Keep n0 H0 H→p≤np →
   (∀ H' n',p<np→n≤n'→Keep n H H' →
    ((∃ q,q<np∧iK js nj q (xs.getD i 0)∧iK js nj q (xs.getD k 0))∧Ret (b3 w (.pointer (some ⟨gb,0,none⟩)) (.int .i64 i) (.int .i64 k) (.int .i64 ((p+1:Nat):Int)) H' n') n' H' (.bool false)) ∨
    ((∀ q,p+1≤q→q<np→¬ (iK js nj q (xs.getD i 0)∧iK js nj q (xs.getD k 0)))∧∃ H2 n2,b3 w (.pointer (some ⟨gb,0,none⟩)) (.int .i64 i) (.int .i64 k) (.int .i64 ((p+1:Nat):Int)) H' n'=b2 w (.pointer (some ⟨gb,0,none⟩)) (.int .i64 i) (.int .i64 ((k+1:Nat):Int)) H2 n2∧n'≤n2∧Keep n' H' H2)) →
   ((∃ q,q<np∧iK js nj q (xs.getD i 0)∧iK js nj q (xs.getD k 0))∧Ret (SJ (cal (l+1)) k0 m1 m2 m b1 b2 b3 w (.pointer (some ⟨gb,0,none⟩)) (.int .i64 i) (.int .i64 k) (.int .i64 p) H n) n H (.bool false)) ∨
   ((∀ q,p≤q→q<np→¬ (iK js nj q (xs.getD i 0)∧iK js nj q (xs.getD k 0)))∧∃ H' n',SJ (cal (l+1)) k0 m1 m2 m b1 b2 b3 w (.pointer (some ⟨gb,0,none⟩)) (.int .i64 i) (.int .i64 k) (.int .i64 p) H n=b2 w (.pointer (some ⟨gb,0,none⟩)) (.int .i64 i) (.int .i64 ((k+1:Nat):Int)) H' n'∧n≤n'∧Keep n H H'):=by
  intro b3 m p H n hn hkp hp ih
  have stH:=st.keep hkp hn
  obtain⟨l26,l22,hx⟩:=stH.load
  have hnl:=st.nl
  have hlx:lenV P 22 x=some (.int .i64 np):=hx.len_eq Hz
  unfold SJ B50_3
  rw[xz,aj,aQ,aj,l22,aj,hlx,aj,aJ cV,iJ]
  by_cases hlt:p<np
  ·rw[if_pos (by omega)]
   obtain⟨ib,io,z1,_,z2⟩:=stH.list.at_ hi
   rw[z1,aj,aQ,aj,z2,aj,aJ jQ]
   have go:∀(t1:Bool) (H1:Hp) (n1:Nat),n≤n1→Keep n H H1→(t1=true↔iK js nj p (xs.getD i 0)) →
     ((∃ q,q<np∧iK js nj q (xs.getD i 0)∧iK js nj q (xs.getD k 0))∧Ret (T50 (cal (l+1)) b3 w (.pointer (some ⟨gb,0,none⟩)) (.int .i64 i) (.int .i64 k) (.int .i64 p) (.bool t1) H1 n1) n H (.bool false)) ∨
     ((∀ q,p≤q→q<np→¬ (iK js nj q (xs.getD i 0)∧iK js nj q (xs.getD k 0)))∧∃ H' n',T50 (cal (l+1)) b3 w (.pointer (some ⟨gb,0,none⟩)) (.int .i64 i) (.int .i64 k) (.int .i64 p) (.bool t1) H1 n1=b2 w (.pointer (some ⟨gb,0,none⟩)) (.int .i64 i) (.int .i64 ((k+1:Nat):Int)) H' n'∧n≤n'∧Keep n H H'):=by
    intro t1 H1 n1 hn1 hk1 ht1
    rcases second50 l (i:=i) (stH.keep hk1 hn1) hk hlt b3 t1 with⟨q1,q2,H2,n2,q3,q4,q5⟩ | ⟨q1,H2,n2,q3,q4,q5⟩
    ·exact .inl ⟨⟨p,hlt,ht1.1 q1,q2⟩,H2,n2,q3,by omega,hk1.trans q5 hn1⟩
    ·have k2:Keep n H H2:=hk1.trans q5 hn1
     rcases ih H2 n2 hlt (by omega) k2 with⟨r1,H3,n3,r2,r3,r4⟩ | ⟨r1,H3,n3,r2,r3,r4⟩
     ·exact .inl ⟨r1,H3,n3,q3.trans r2,by omega,k2.trans r4 (by omega)⟩
     ·refine .inr ⟨fun q a b=>?_,H3,n3,q3.trans r2,by omega,k2.trans r4 (by omega)⟩
      rcases Nat.eq_or_lt_of_le a with e | e
      ·subst e
       exact fun h=>q1 ⟨ht1.2 h.1,h.2⟩
      ·exact r1 q e b
   by_cases e:(p:Int)=xs.getD i 0
   ·have:=go true H n (Nat.le_refl _) (Keep.refl _ _) ⟨fun _=>.inl e,fun _=>rfl⟩
    simp only[decide_eq_true e,Gj,AQ,cZ,aj]
    exact this
   ·obtain⟨r,H',n',r0,r1,r2,r3⟩:=near_call2 (ρ:=Value×Hp×Nat) l stH.grove stH.nj p (xs.getD i 0)
    have:=go r H' n' r2 r3 (r0.trans ⟨fun h=>.inr h,fun h=>h.resolve_left e⟩)
    unfold T50 at this
    simp only[decide_eq_false e,AJ,aj,l26,aQ,z1,z2,r1,cK]
    simp only[aQ,aj] at this
    exact this
  ·rw[if_neg (by omega)]
   have hI1:I64 ((k:Int)+1):=by unfold I64; omega
   have hc1:((k:Int)+1)=((k+1:Nat):Int):=by omega
   rw[aJ (cz hI1),hc1]
   exact .inr ⟨fun q a b=>by omega,H,n,rfl,Nat.le_refl _,Keep.refl _ _⟩
 intro m
 induction m with
 | zero=>intro p H n h1 h2 h3 h4; exact body _ 0 p H n h1 h2 h3 (fun _ _ h=>by omega)
 | succ m ih=>intro p H n h1 h2 h3 h4; exact body _ (m+1) p H n h1 h2 h3 (fun H' n' q1 q2 q3=>ih (p+1) H' n' (by omega) (h2.trans q3 h1) (by omega) (by omega))
end Go.Proofs.Ytekajfobmnedjaa.spec
end
section
namespace Go.Proofs.Ytekajfobmnedjaa.spec
open Go Go.Ev Go.Proofs.Ytekajfobmnedjaa.nestFits Go.Proofs.Ytekajfobmnedjaa.G
set_option maxRecDepth 100000
variable {ρ:Type}
theorem nums50_loop (l k0 m1:Nat) {H0:Hp} {n0 gb:Nat} {w x y z:Value} {np nj nk nl i:Nat} {ps js ks xs:List Int} (st:StA H0 n0 gb w x y z np nj nk nl ps js ks xs) (hi:i<nl) (b1:Value→Value→Value→Hp→Nat→Res) :
  ∀(m k:Nat) (H:Hp) (n:Nat),n0≤n→Keep n0 H0 H→k≤i→np+(i-k)≤m →
  ((∃ kk,kk<i∧∃ q,q<np∧iK js nj q (xs.getD i 0)∧iK js nj q (xs.getD kk 0))∧Ret (SV (cal (l+1)) k0 m1 b1 m w (.pointer (some ⟨gb,0,none⟩)) (.int .i64 i) (.int .i64 k) H n) n H (.bool false)) ∨
  ((∀ kk,k≤kk→kk<i→∀ q,q<np→¬ (iK js nj q (xs.getD i 0)∧iK js nj q (xs.getD kk 0)))∧∃ H' n',SV (cal (l+1)) k0 m1 b1 m w (.pointer (some ⟨gb,0,none⟩)) (.int .i64 i) (.int .i64 k) H n=b1 w (.pointer (some ⟨gb,0,none⟩)) (.int .i64 ((i+1:Nat):Int)) H' n'∧n≤n'∧Keep n H H'):=by
 have body:∀(b2:Value→Value→Value→Value→Hp→Nat→Res) (m k:Nat) (H:Hp) (n:Nat),n0≤n→Keep n0 H0 H→k≤i→np≤m →
   (∀ H' n',k<i→n≤n'→Keep n H H' →
    ((∃ kk,kk<i∧∃ q,q<np∧iK js nj q (xs.getD i 0)∧iK js nj q (xs.getD kk 0))∧Ret (b2 w (.pointer (some ⟨gb,0,none⟩)) (.int .i64 i) (.int .i64 ((k+1:Nat):Int)) H' n') n' H' (.bool false)) ∨
    ((∀ kk,k+1≤kk→kk<i→∀ q,q<np→¬ (iK js nj q (xs.getD i 0)∧iK js nj q (xs.getD kk 0)))∧∃ H2 n2,b2 w (.pointer (some ⟨gb,0,none⟩)) (.int .i64 i) (.int .i64 ((k+1:Nat):Int)) H' n'=b1 w (.pointer (some ⟨gb,0,none⟩)) (.int .i64 ((i+1:Nat):Int)) H2 n2∧n'≤n2∧Keep n' H' H2)) →
   ((∃ kk,kk<i∧∃ q,q<np∧iK js nj q (xs.getD i 0)∧iK js nj q (xs.getD kk 0))∧Ret (SQ (cal (l+1)) k0 m1 m b1 b2 w (.pointer (some ⟨gb,0,none⟩)) (.int .i64 i) (.int .i64 k) H n) n H (.bool false)) ∨
   ((∀ kk,k≤kk→kk<i→∀ q,q<np→¬ (iK js nj q (xs.getD i 0)∧iK js nj q (xs.getD kk 0)))∧∃ H' n',SQ (cal (l+1)) k0 m1 m b1 b2 w (.pointer (some ⟨gb,0,none⟩)) (.int .i64 i) (.int .i64 k) H n=b1 w (.pointer (some ⟨gb,0,none⟩)) (.int .i64 ((i+1:Nat):Int)) H' n'∧n≤n'∧Keep n H H'):=by
  intro b2 m k H n hn hkp hk hm ih
  have hnl:=st.nl
  unfold SQ B50_2
  rw[aJ cV,iJ]
  by_cases hlt:k<i
  ·rw[if_pos (by omega)]
   rcases pads50_loop l k0 m1 m st hi (show k<nl by omega) b1 b2 m 0 H n hn hkp (Nat.zero_le _) (by omega) with⟨⟨q,q1,q2⟩,H',n',r1,r2,r3⟩ | ⟨q1,H',n',r1,r2,r3⟩
   ·exact .inl ⟨⟨k,hlt,q,q1,q2⟩,H',n',r1,r2,r3⟩
   ·rcases ih H' n' hlt r2 r3 with⟨s1,H2,n2,s2,s3,s4⟩ | ⟨s1,H2,n2,s2,s3,s4⟩
    ·exact .inl ⟨s1,H2,n2,r1.trans s2,by omega,r3.trans s4 r2⟩
    ·refine .inr ⟨fun kk a b q hq=>?_,H2,n2,r1.trans s2,by omega,r3.trans s4 r2⟩
     rcases Nat.eq_or_lt_of_le a with e | e
     ·subst e; exact q1 q (Nat.zero_le _) hq
     ·exact s1 kk e b q hq
  ·rw[if_neg (by omega)]
   have hI1:I64 ((i:Int)+1):=by unfold I64; omega
   have hc1:((i:Int)+1)=((i+1:Nat):Int):=by omega
   rw[aJ (cz hI1),hc1]
   exact .inr ⟨fun kk a b=>by omega,H,n,rfl,Nat.le_refl _,Keep.refl _ _⟩
 intro m
 induction m with
 | zero=>intro k H n h1 h2 h3 h4; exact body _ 0 k H n h1 h2 h3 (by omega) (fun _ _ h=>by omega)
 | succ m ih=>intro k H n h1 h2 h3 h4; exact body _ (m+1) k H n h1 h2 h3 (by omega) (fun H' n' q1 q2 q3=>ih (k+1) H' n' (by omega) (h2.trans q3 h1) (by omega) (by omega))
def AtOk (js ps:List Int) (nj np:Nat) (xs:List Int) (i:Nat):Prop:=(0≤xs.getD i 0∧xs.getD i 0≤(np:Int)-1)∧(0<i→xs.getD (i-1) 0<xs.getD i 0)∧ps.getD ((xs.getD i 0).toNat * 2) 0≠0 ∧
 ∀ kk,kk<i→∀ q,q<np→¬ (iK js nj q (xs.getD i 0)∧iK js nj q (xs.getD kk 0))
theorem list50_loop (l k0:Nat) {H0:Hp} {n0 gb:Nat} {w x y z:Value} {np nj nk nl:Nat} {ps js ks xs:List Int} (st:StA H0 n0 gb w x y z np nj nk nl ps js ks xs) :
  ∀(m i:Nat) (H:Hp) (n:Nat),n0≤n→Keep n0 H0 H→i≤nl→np+nl+(nl-i)≤m →
  ∃ r:Bool,Ret (S50_1 (cal (l+1)) k0 m w (.pointer (some ⟨gb,0,none⟩)) (.int .i64 i) H n) n H (.bool r)∧(r=true↔∀ q,i≤q→q<nl→AtOk js ps nj np xs q):=by
 have body:∀(b1:Value→Value→Value→Hp→Nat→Res) (m i:Nat) (H:Hp) (n:Nat),n0≤n→Keep n0 H0 H→i≤nl→np+nl≤m →
   (∀ H' n',i<nl→n≤n'→Keep n H H'→∃ r:Bool,Ret (b1 w (.pointer (some ⟨gb,0,none⟩)) (.int .i64 ((i+1:Nat):Int)) H' n') n' H' (.bool r)∧(r=true↔∀ q,i+1≤q→q<nl→AtOk js ps nj np xs q)) →
   ∃ r:Bool,Ret (VY (cal (l+1)) k0 m b1 w (.pointer (some ⟨gb,0,none⟩)) (.int .i64 i) H n) n H (.bool r)∧(r=true↔∀ q,i≤q→q<nl→AtOk js ps nj np xs q):=by
  intro b1 m i H n hn hkp hi hm ih
  have stH:=st.keep hkp hn
  obtain⟨l26,l22,hx⟩:=stH.load
  have hnl:=st.nl
  have hnp:=st.np
  have hlx:lenV P 22 x=some (.int .i64 np):=hx.len_eq Hz
  unfold VY B50_1
  rw[stH.list.len_eq,aj,aJ cV,iJ]
  by_cases hlt:i<nl
  ·rw[if_pos (by omega)]
   obtain⟨ib,io,z1,_,z2⟩:=stH.list.at_ hlt
   have hIs:I64 ((np:Int)-1):=by unfold I64; omega
   have hIi:I64 ((i:Int)-1):=by unfold I64; omega
   have no:¬ AtOk js ps nj np xs i→∀ {t:Res},t=some (.bool false,H,n)→∃ r:Bool,Ret t n H (.bool r)∧(r=true↔∀ q,i≤q→q<nl→AtOk js ps nj np xs q):=fun h t ht=>
    ⟨false,⟨H,n,ht,Nat.le_refl _,Keep.refl _ _⟩,⟨fun h=>(by cases h),fun h'=>absurd (h' i (Nat.le_refl _) hlt) h⟩⟩
   simp only[z1,aj,aQ,z2,xz,l22,hlx,aJ (Cj hIs),Kj l]
   by_cases c1:0≤xs.getD i 0∧xs.getD i 0≤(np:Int)-1
   ·simp only[decide_eq_true c1,pW,AJ,aj,aJ vK]
    have hx0:(xs.getD i 0).toNat<np:=by omega
    obtain⟨ab,ao,y1,_,y2⟩:=hx.at_ Hz sz95 hx0
    rw[Int.toNat_of_nonneg c1.1] at y1
    have y3:ak P H 3 ⟨ab,ao+(xs.getD i 0).toNat * 2+0,none⟩=some (.int .i64 (ps.getD ((xs.getD i 0).toNat * 2) 0)):=by
     rw[Nat.add_zero]
     exact bx y2 agg3 (Ay (getD_some (by rw[hx.1]; omega)))
    have go:(0<i→xs.getD (i-1) 0<xs.getD i 0)→∃ r:Bool,Ret (ifK (.bool (decide (ps.getD ((xs.getD i 0).toNat * 2) 0=0))) (some (.bool false,H,n)) (SV (cal (l+1)) k0 m b1 m w (.pointer (some ⟨gb,0,none⟩)) (.int .i64 i) (.int .i64 0) H n)) n H (.bool r)∧(r=true↔∀ q,i≤q→q<nl→AtOk js ps nj np xs q):=by
     intro ho
     rw[iJ]
     by_cases c3:ps.getD ((xs.getD i 0).toNat * 2) 0=0
     ·rw[if_pos c3]
      exact no (fun h=>h.2.2.1 c3) rfl
     ·rw[if_neg c3]
      rcases nums50_loop l k0 m st hlt b1 m 0 H n hn hkp (Nat.zero_le _) (by omega) with⟨⟨kk,q1,q,q2,q3⟩,H',n',r1,r2,r3⟩ | ⟨q1,H',n',r1,r2,r3⟩
      ·exact⟨false,⟨H',n',r1,r2,r3⟩,⟨fun h=>(by cases h),fun h=>absurd q3 ((h i (Nat.le_refl _) hlt).2.2.2 kk q1 q q2)⟩⟩
      ·obtain⟨r,⟨H2,n2,s1,s2,s3⟩,s4⟩:=ih H' n' hlt r2 r3
       refine⟨r,⟨H2,n2,r1.trans s1,by omega,r3.trans s3 r2⟩,s4.trans ⟨fun h q a b=>?_,fun h q a b=>h q (by omega) b⟩⟩
       rcases Nat.eq_or_lt_of_le a with e | e
       ·subst e
        exact⟨c1,ho,c3,fun kk hkk q hq=>q1 kk (Nat.zero_le _) hkk q hq⟩
       ·exact h q e b
    by_cases c2:(0:Int)<(i:Int)
    ·have hi1:i-1<nl:=by omega
     obtain⟨jb,jo,w1,_,w2⟩:=stH.list.at_ hi1
     have hc:((i:Int)-1)=((i-1:Nat):Int):=by omega
     simp only[decide_eq_true c2,Ak,aj,z1,aQ,z2,aJ (Cj hIi),hc,w1,w2,aJ vZ,cZ,cK]
     by_cases c4:xs.getD i 0≤xs.getD (i-1) 0
     ·simp only[decide_eq_true c4,Gj,AQ,cZ,aj,fK]
      exact no (fun h=>by have:=h.2.1 (by omega); omega) rfl
     ·simp only[decide_eq_false c4,AJ,aj,xz,aQ,l22,z1,z2,y1,ZJ,y3,aJ jQ,cK]
      exact go (fun _=>by omega)
    ·simp only[decide_eq_false c2,FZ,AQ,AJ,aj,cK,xz,aQ,l22,z1,z2,y1,ZJ,y3,aJ jQ]
     exact go (fun h=>by omega)
   ·simp only[decide_eq_false c1,sw,Gj,AQ,aj,cZ,fK]
    exact no (fun h=>c1 h.1) rfl
  ·rw[if_neg (by omega)]
   exact⟨true,⟨H,n,rfl,Nat.le_refl _,Keep.refl _ _⟩,⟨fun _ q a b=>by omega,fun _=>rfl⟩⟩
 intro m
 induction m with
 | zero=>intro i H n h1 h2 h3 h4; exact body _ 0 i H n h1 h2 h3 (by omega) (fun _ _ h=>by omega)
 | succ m ih=>intro i H n h1 h2 h3 h4; exact body _ (m+1) i H n h1 h2 h3 (by omega) (fun H' n' q1 q2 q3=>ih (i+1) H' n' (by omega) (h2.trans q3 h1) (by omega) (by omega))
theorem Gw {js:List Int} {nj q a:Nat}:iK js nj q (a:Int)↔nbr js nj a q:=by
 unfold iK nbr
 rw[nearB_symm]
 unfold jZ
 constructor
 ·rintro(h | h)
  ·exact .inl (by omega)
  ·exact .inr (by classical exact decide_eq_true h)
 ·rintro(h | h)
  ·exact .inl (by omega)
  ·exact .inr (by classical exact of_decide_eq_true h)
theorem all_apart {js ps xs:List Int} {nj np:Nat}:(∀ q,q<xs.length→AtOk js ps nj np xs q)↔Cz js ps nj np xs:=by
 constructor
 ·intro h
  obtain⟨t,rfl,ht⟩:=cast_back (np:=np) fun q hq=>by have:=(h q hq).1; omega
  rw[Gv] at h
  refine⟨t,rfl,IV.1 fun q h1 h2=>(h q h2).2.1 (by omega),ht,Gq.2 ⟨fun p hp=>?_,?_⟩⟩
  ·obtain⟨i,hi,e⟩:=List.mem_iff_getElem.1 hp
   have:=(h i hi).2.2.1
   rw[jv hi,Int.toNat_natCast,e] at this
   exact this
  ·rw[List.pairwise_iff_getElem]
   intro i j hi hj hij q hq ⟨h1,h2⟩
   have:=(h j hj).2.2.2 i hij q hq
   rw[jv hi,jv hj,Gw,Gw] at this
   exact this ⟨h2,h1⟩
 ·rintro⟨t,rfl,t1,t2,t3⟩ q hq
  rw[Gv] at hq
  obtain⟨a1,a2⟩:=Gq.1 t3
  have hm:=t2 _ (List.getElem_mem hq)
  refine⟨by rw[jv hq]; omega,fun h=>IV.2 t1 q (by omega) hq,?_,fun kk hkk p hp=>?_⟩
  ·rw[jv hq,Int.toNat_natCast]
   exact a1 _ (List.getElem_mem hq)
  ·rw[jv hq,jv (by omega),Gw,Gw]
   rintro⟨h1,h2⟩
   exact(List.pairwise_iff_getElem.1 a2) kk q (by omega) hq hkk p hp ⟨h2,h1⟩
theorem call50 (l:Nat) (a b:Value) (H:Hp) (n:Nat):(cal (l+1)).call 50 [a,b] H n=C50_0 (cal l) KK a b H n:=by kernel_rfl
theorem areApart_call (l:Nat) {np nj nk nl:Nat} {ps js ks xs:List Int} {H:Hp} {n:Nat} {v w:Value} (hg:GroveI H n v np nj nk ps js ks) (hw:ListR H n w nl xs) (hnp:np≤100) (hnj:nj≤KK) (hnl:nl≤100) :
  ∃(r:Bool) (H':Hp) (n':Nat),(r=true↔Cz js ps nj np xs)∧(∀ k:Value→Hp→Nat→Option ρ,aY P (cal (l+2)) 50 [v,w] H n k=k (.bool r) H' n')∧n≤n'∧Keep n H H':=by
 obtain⟨r,H',n',⟨b,rfl,hb⟩,e1,e2,e3⟩:=eJ (ρ:=ρ) (P:=P) (cal:=cal (l+2)) (f:=50) (args:=[v,w]) (H:=H) (n:=n)
  (Pre:=fun H n=>GroveI H n v np nj nk ps js ks∧ListR H n w nl xs) (Q:=fun r=>∃ b:Bool,r=.bool b∧(b=true↔Cz js ps nj np xs))
  (fun H n ⟨hg,hw⟩=>by
   have hg0:=hg
   obtain⟨x,y,z,rfl,h1,h2,h3⟩:=hg.eq
   have hk:Keep n H (H.set n (some (.cells [x,y,z] 26 false none))):=(Keep.refl n H).set (Nat.le_refl _) _
   have hb:aZ (H.set n (some (.cells [x,y,z] 26 false none))) n 0 [x,y,z]:=aZ.new
   have st:StA (H.set n (some (.cells [x,y,z] 26 false none))) (n+1) n w x y z np nj nk nl ps js ks xs:=⟨hg0.keep hk (by omega),hb,by omega,hw.keep hk (by omega),hnj,hnp,hnl⟩
   obtain⟨r,⟨H',n',r1,r2,r3⟩,r4⟩:=list50_loop l KK st KK 0 _ (n+1) (Nat.le_refl _) (Keep.refl _ _) (Nat.zero_le _) (by unfold KK; omega)
   refine⟨.bool r,⟨H',n',?_,by omega,hk.trans r3 (by omega)⟩,r,rfl,?_⟩
   ·rw[call50]
    unfold C50_0 B50_0
    rw[fy]
    exact r1
   ·rw[r4,← all_apart]
    have:=hw.1
    rw[this]
    exact⟨fun h q hq=>h q (Nat.zero_le _) hq,fun h q _ hq=>h q hq⟩) (fun r ⟨b,e,_⟩ _=>by subst e; rfl) ⟨hg,hw⟩ (fun hp=>by
    simp only[bZ,Bool.and_eq_true] at hp
    exact⟨hg.nil hp.1,hw.nil hp.2.1⟩)
 exact⟨b,H',n',hb,e1,e2,e3⟩
end Go.Proofs.Ytekajfobmnedjaa.spec
end
section
namespace Go.Proofs.Ytekajfobmnedjaa.spec
open Go Go.Ev Go.Proofs.Ytekajfobmnedjaa.nestFits Go.Proofs.Ytekajfobmnedjaa.G
set_option maxRecDepth 100000
variable {ρ:Type}
end Go.Proofs.Ytekajfobmnedjaa.spec
end
section
namespace Go.Proofs.Ytekajfobmnedjaa.spec
open Go Go.Ev Go.Proofs.Ytekajfobmnedjaa.nestFits Go.Proofs.Ytekajfobmnedjaa.G
set_option maxRecDepth 100000
variable {ρ:Type}
end Go.Proofs.Ytekajfobmnedjaa.spec
end
section
namespace Go.Proofs.Ytekajfobmnedjaa.spec
open Go Go.Ev Go.Proofs.Ytekajfobmnedjaa.nestFits Go.Proofs.Ytekajfobmnedjaa.G
set_option maxRecDepth 100000
variable {ρ:Type}
def numF (f:Nat→Nat) (b:Nat):Nat→Nat
 | 0=>0
 | i+1=>numF f b i * b+f i
theorem numF_lt {f:Nat→Nat} {b:Nat}:∀ {n:Nat},(∀ i,i<n→f i<b)→numF f b n<b ^ n
 | 0,_=>by simp [numF]
 | n+1,h=>by
  have ih:=numF_lt (n:=n) fun i hi=>h i (by omega)
  have:=h n (by omega)
  simp only[numF,Nat.pow_succ]
  calc numF f b n * b+f n<numF f b n * b+b:=by omega
   _=(numF f b n+1) * b:=by rw[Nat.add_mul,Nat.one_mul]
   _≤b ^ n * b:=Nat.mul_le_mul_right _ ih
theorem numF_digit {f:Nat→Nat} {b:Nat}:∀ {n:Nat},(∀ i,i<n→f i<b)→∀ p,p<n→numF f b n / b ^ (n-1-p) % b=f p
 | 0,_,p,hp=>by omega
 | n+1,h,p,hp=>by
  have hn:=h n (by omega)
  simp only[numF]
  by_cases e:p=n
  ·subst e
   rw[show p+1-1-p=0 by omega,Nat.pow_zero,Nat.div_one,Nat.mul_comm,Nat.mul_add_mod,Nat.mod_eq_of_lt hn]
  ·have ih:=numF_digit (n:=n) (fun i hi=>h i (by omega)) p (by omega)
   rw[show n+1-1-p=(n-1-p)+1 by omega,Nat.pow_succ,Nat.mul_comm (b ^ (n-1-p)) b,← Nat.div_div_eq_div_mul]
   have:(numF f b n * b+f n) / b=numF f b n:=by
    rw[Nat.mul_comm,Nat.mul_add_div (by omega),Nat.div_eq_of_lt hn,Nat.add_zero]
   rw[this]
   exact ih
end Go.Proofs.Ytekajfobmnedjaa.spec
end
section
namespace Go.Proofs.Ytekajfobmnedjaa.spec
open Go Go.Ev Go.Proofs.Ytekajfobmnedjaa.nestFits Go.Proofs.Ytekajfobmnedjaa.G
set_option maxRecDepth 100000
theorem lexN.trans {c:List Nat}:∀ {a b:List Nat},lexN a b→lexN b c→lexN a c:=by
 rintro a b ⟨p,x,y,s,t,rfl,rfl,h⟩ ⟨q,x',y',s',t',h1,rfl,h'⟩
 induction p generalizing q with
 | nil=>
  cases q with
  | nil=>
   simp only[List.nil_append,List.cons.injEq] at h1
   exact⟨[],x,y',s,t',rfl,rfl,by omega⟩
  | cons z q=>
   simp only[List.nil_append,List.cons_append,List.cons.injEq] at h1
   exact⟨[],x,z,s,q++y'::t',rfl,rfl,by omega⟩
 | cons z p ih=>
  cases q with
  | nil=>
   simp only[List.nil_append,List.cons_append,List.cons.injEq] at h1
   exact⟨[],z,y',p++x::s,t',rfl,rfl,by omega⟩
  | cons z' q=>
   simp only[List.cons_append,List.cons.injEq] at h1
   obtain⟨u,x1,y1,s1,t1,e1,e2,e3⟩:=ih q h1.2
   exact⟨z::u,x1,y1,s1,t1,by rw[List.cons_append,e1]; rfl,by rw[List.cons_append,e2,h1.1]; rfl,e3⟩
def ky (ap:List Nat→Bool) (np B:Nat) (best:List Nat):Prop:=qq ap np best∧∀ b,b<B→qq ap np (gY b)→(gY b).length≤best.length∧((gY b).length=best.length→gY b=best∨lexN best (gY b))
theorem ky.start {ap:List Nat→Bool} {np:Nat} (h0:ap []=true):ky ap np 0 []:=⟨⟨trivial,fun _ h=>(by cases h),h0⟩,fun b h=>by omega⟩
theorem ky.short {ap:List Nat→Bool} {np B:Nat} {best:List Nat} (h:ky ap np B best) (hl:(gY B).length<best.length):ky ap np (B+1) best:=by
 refine⟨h.1,fun b hb hr=>?_⟩
 by_cases e:b=B
 ·subst e; exact⟨by omega,fun h=>by omega⟩
 ·exact h.2 b (by omega) hr
theorem ky.bad {ap:List Nat→Bool} {np B:Nat} {best:List Nat} (h:ky ap np B best) (hl:¬ qq ap np (gY B)):ky ap np (B+1) best:=by
 refine⟨h.1,fun b hb hr=>?_⟩
 by_cases e:b=B
 ·subst e; exact absurd hr hl
 ·exact h.2 b (by omega) hr
theorem ky.longer {ap:List Nat→Bool} {np B:Nat} {best:List Nat} (h:ky ap np B best) (hr:qq ap np (gY B)) (hl:best.length<(gY B).length):ky ap np (B+1) (gY B):=by
 refine⟨hr,fun b hb hr'=>?_⟩
 by_cases e:b=B
 ·subst e; exact⟨Nat.le_refl _,fun _=>.inl rfl⟩
 ·have:=(h.2 b (by omega) hr').1
  exact⟨by omega,fun h=>by omega⟩
theorem ky.before {ap:List Nat→Bool} {np B:Nat} {best:List Nat} (h:ky ap np B best) (hr:qq ap np (gY B)) (hl:(gY B).length=best.length) (hx:lexN (gY B) best):ky ap np (B+1) (gY B):=by
 refine⟨hr,fun b hb hr'=>?_⟩
 by_cases e:b=B
 ·subst e; exact⟨Nat.le_refl _,fun _=>.inl rfl⟩
 ·obtain⟨h1,h2⟩:=h.2 b (by omega) hr'
  refine⟨by omega,fun h3=>?_⟩
  rcases h2 (by omega) with q | q
  ·rw[q]; exact .inr hx
  ·exact .inr (hx.trans q)
theorem ky.same {ap:List Nat→Bool} {np B:Nat} {best:List Nat} (h:ky ap np B best) (hl:(gY B).length≤best.length) (hx:gY B=best∨lexN best (gY B)):ky ap np (B+1) best:=by
 refine⟨h.1,fun b hb hr=>?_⟩
 by_cases e:b=B
 ·subst e; exact⟨hl,fun _=>hx⟩
 ·exact h.2 b (by omega) hr
theorem rises_uniq:∀ {s t:List Nat} {a b:Nat},fQ a s→fQ b t→(∀ x,x ∈ s↔x ∈ t)→s=t
 | [],[],_,_,_,_,_=>rfl
 | [],y::t,_,_,_,_,h=>by have:=(h y).2 List.mem_cons_self; cases this
 | x::s,[],_,_,_,_,h=>by have:=(h x).1 List.mem_cons_self; cases this
 | x::s,y::t,a,b,hs,ht,h=>by
  have hx:x=y:=by
   rcases List.mem_cons.1 ((h x).1 List.mem_cons_self) with e | e
   ·exact e
   ·rcases List.mem_cons.1 ((h y).2 List.mem_cons_self) with e' | e'
    ·exact e'.symm
    ·have:=ht.2.mem e
     have:=hs.2.mem e'
     omega
  subst hx
  congr 1
  refine rises_uniq hs.2 ht.2 fun z=>?_
  constructor
  ·intro hz
   rcases List.mem_cons.1 ((h z).1 (List.mem_cons_of_mem _ hz)) with e | e
   ·have:=hs.2.mem hz; omega
   ·exact e
  ·intro hz
   rcases List.mem_cons.1 ((h z).2 (List.mem_cons_of_mem _ hz)) with e | e
   ·have:=ht.2.mem hz; omega
   ·exact e
theorem rises_filter (f:Nat→Bool):∀(m a:Nat),fQ a ((List.range' a m).filter f)
 | 0,_=>trivial
 | m+1,a=>by
  rw[List.range'_succ,List.filter_cons]
  have ih:=rises_filter f m (a+1)
  split
  ·exact⟨Nat.le_refl _,ih⟩
  ·exact ih.le (by omega)
theorem bitsL_rises (b:Nat):fQ 0 (gY b):=by
 unfold gY
 rw[List.range_eq_range']
 exact rises_filter _ 8 0
theorem bitsL_all {t:List Nat} {np:Nat} (hnp:np≤8) (h:fQ 0 t) (ht:∀ x ∈ t,x<np):∃ b,b<2 ^ np∧t=gY b:=by
 have hf:∀ i,i<np→(if(np-1-i) ∈ t then 1 else 0)<2:=fun i _=>by split <;> omega
 refine⟨numF (fun i=>if(np-1-i) ∈ t then 1 else 0) 2 np,numF_lt hf,rises_uniq h (bitsL_rises _) fun x=>?_⟩
 unfold gY
 rw[List.mem_filter,List.mem_range]
 have key:∀ x,x<np→(numF (fun i=>if(np-1-i) ∈ t then 1 else 0) 2 np / 2 ^ x % 2=if x ∈ t then 1 else 0):=fun x hx=>by
  have:=numF_digit hf (np-1-x) (by omega)
  rw[show np-1-(np-1-x)=x by omega] at this
  exact this
 unfold bitB
 rw[decide_eq_true_iff,Nat.shiftRight_eq_div_pow]
 constructor
 ·intro hx
  have:=ht x hx
  refine⟨by omega,?_⟩
  rw[key x this,if_pos hx]
 ·rintro⟨h1,h2⟩
  by_cases hx:x<np
  ·rw[key x hx] at h2
   by_cases c:x ∈ t
   ·exact c
   ·rw[if_neg c] at h2; omega
  ·have hlt:=numF_lt (n:=np) hf
   have:(2:Nat) ^ np≤2 ^ x:=Nat.pow_le_pow_right (by omega) (by omega)
   rw[Nat.div_eq_of_lt (by omega)] at h2
   omega
theorem best51_proof {ap:List Nat→Bool} {np:Nat} {best:List Nat} (hnp:np≤8) (hp:∀ a b,ap (a++b)=true→ap a=true) (h0:ap []=true) (h:ky ap np (2 ^ np) best):best=pq ap np:=by
 obtain⟨p1,p2,p3⟩:=proofL_spec (np:=np) hp h0
 obtain⟨b,b1,b2⟩:=bitsL_all hnp p1.1 p1.2.1
 obtain⟨h1,h2⟩:=h.2 b b1 (by rw[← b2]; exact p1)
 rw[← b2] at h1 h2
 have h3:=p2 best h.1
 rcases p3 best h.1 (by omega) with e | e
 ·exact e
 ·rcases h2 (by omega) with e' | e'
  ·exact e'.symm
  ·exact absurd e' e.asymm
theorem lex_at {a b:List Nat} {i:Nat} (hi:i<a.length) (hj:i<b.length) (hs:∀ k,k<i→a[k]?=b[k]?) (h:a[i]<b[i]):lexN a b:=by
 refine⟨a.take i,a[i],b[i],a.drop (i+1),b.drop (i+1),?_,?_,h⟩
 ·rw[← List.drop_eq_getElem_cons hi,List.take_append_drop]
 ·have:a.take i=b.take i:=by
   apply List.ext_getElem?
   intro k
   rw[List.getElem?_take,List.getElem?_take]
   split
   ·rename_i hk; exact hs k hk
   ·rfl
  rw[this,← List.drop_eq_getElem_cons hj,List.take_append_drop]
end Go.Proofs.Ytekajfobmnedjaa.spec
end
section
namespace Go.Ev
open Go
variable {P:Program} {t:TypeId} {x y:Operand} {a:Int} {ρ:Type}
theorem bin_shl {kd:IntKind} {b:Nat} (hb:b<64) (h:I64 (a * 2 ^ b)):binV P .shl t x y (.int .i64 a) (.int kd (b:Int))=some (.int .i64 (a * 2 ^ b)):=by
 have hq:rZ .shl (.int .i64 a) (.int kd (b:Int))=none:=by
  unfold rZ
  cases a <;> cases kd <;> rfl
 have h0:(bq (.int .i64 a) && bq (.int kd (b:Int)))=true:=rfl
 have h1:wX P .shl t (.int .i64 a) (.int kd (b:Int))=none:=by unfold wX; rfl
 have h2:binOp .shl t (.int .i64 a) (.int kd (b:Int))=pure (.int .i64 (a * 2 ^ b)):=by
  have hn:¬ ((b:Int)<0):=by omega
  have hm:min b 64=b:=by omega
  have hw:=RX h
  show Op.shift .shl .i64 a kd (b:Int)=_
  unfold Op.shift
  rw[if_neg hn]
  show(pure (.int .i64 (IntKind.i64.wrap (a * 2 ^ min (b:Int).toNat IntKind.i64.bits))):Sem Value)=_
  rw[Int.toNat_natCast,show IntKind.i64.bits=64 from rfl,hm,hw]
 unfold binV
 rw[hq]
 unfold yk
 rw[h0]
 simp only[h1,zq BK h2]
 rfl
end Go.Ev
end
section
namespace Go.Proofs.Ytekajfobmnedjaa.spec
open Go Go.Ev Go.Proofs.Ytekajfobmnedjaa.nestFits Go.Proofs.Ytekajfobmnedjaa.G
set_option maxRecDepth 100000
variable {ρ:Type}
theorem cY.keep0 {H H':Hp} {n0 n n':Nat} {v:Value} {L:List Nat} (h:cY H n0 n v L) (hk:Keep n H H') (hn:n≤n'):cY H' n0 n' v L:=VecAt.same h hn fun b hb _=>hk b hb
theorem castL_getD {t:List Nat} {i:Nat} (hi:i<t.length):(jK t).getD i 0=(t[i]:Nat):=jv hi
theorem cmp51_loop (c:Cal) (k m1:Nat) {H:Hp} {n:Nat} {w u gv:Value} {best t:List Nat} {bi:Int} (hw:ListR H n w best.length (jK best)) (hu:ListR H n u t.length (jK t)) (hl:t.length=best.length) (hlen:t.length≤1000) (b1:Value→Value→Value→Hp→Nat→Res) :
  ∀(m i:Nat),i≤t.length→t.length-i≤m→(∀ q,q<i→t[q]?=best[q]?) →
  ∃ r:Bool,SW c k m1 b1 m gv w (.int .i64 bi) u (.bool false) (.int .i64 i) H n=Dx c k m1 b1 gv w (.int .i64 bi) u (.bool r) H n∧(r=true→lexN t best)∧(r=false→t=best∨lexN best t):=by
 have body:∀(b4:Value→Value→Value→Value→Value→Value→Hp→Nat→Res) (m i:Nat),i≤t.length→(∀ q,q<i→t[q]?=best[q]?) →
   (i<t.length→(∀ q,q<i+1→t[q]?=best[q]?)→∃ r:Bool,b4 gv w (.int .i64 bi) u (.bool false) (.int .i64 ((i+1:Nat):Int)) H n=Dx c k m1 b1 gv w (.int .i64 bi) u (.bool r) H n∧(r=true→lexN t best)∧(r=false→t=best∨lexN best t)) →
   ∃ r:Bool,Oy c k m1 m b1 b4 gv w (.int .i64 bi) u (.bool false) (.int .i64 i) H n=Dx c k m1 b1 gv w (.int .i64 bi) u (.bool r) H n∧(r=true→lexN t best)∧(r=false→t=best∨lexN best t):=by
  intro b4 m i hi hs ih
  unfold Oy B51_4
  rw[hu.len_eq,aj,aJ cV]
  by_cases hlt:i<t.length
  ·have hd:decide ((i:Int)<(t.length:Int))=true:=decide_eq_true (by omega)
   have hlb:i<best.length:=by omega
   obtain⟨b,o,x1,_,x2⟩:=hu.at_ hlt
   obtain⟨b',o',y1,_,y2⟩:=hw.at_ hlb
   rw[castL_getD hlt] at x2
   rw[castL_getD hlb] at y2
   have hI:I64 ((i:Int)+1):=by unfold I64; omega
   have hc:((i:Int)+1)=((i+1:Nat):Int):=by omega
   simp only[hd,fj,sw,aj,cZ,fK,x1,aQ,x2,y1,y2,aJ uZ]
   by_cases e:((t[i]:Nat):Int)=((best[i]:Nat):Int)
   ·simp only[decide_eq_true e,Bool.not_true,fk,aJ (cz hI),hc]
    refine ih hlt fun q hq=>?_
    by_cases eq:q=i
    ·subst eq
     rw[List.getElem?_eq_getElem hlt,List.getElem?_eq_getElem hlb]
     congr 1
     omega
    ·exact hs q (by omega)
   ·simp only[decide_eq_false e,Bool.not_false,fK,aJ cV]
    refine⟨_,rfl,fun h=>?_,fun h=>.inr ?_⟩
    ·exact lex_at hlt hlb hs (by have:=of_decide_eq_true h; omega)
    ·exact lex_at hlb hlt (fun q hq=>(hs q hq).symm) (by have:=of_decide_eq_false h; omega)
  ·have hd:decide ((i:Int)<(t.length:Int))=false:=decide_eq_false (by omega)
   simp only[hd,gj,fx,cK,aj,fk]
   refine⟨false,rfl,fun h=>(by cases h),fun _=>.inl ?_⟩
   apply List.ext_getElem?
   intro q
   by_cases hq:q<i
   ·exact hs q hq
   ·rw[List.getElem?_eq_none (by omega),List.getElem?_eq_none (by omega)]
 intro m
 induction m with
 | zero=>intro i h1 h2 h3; exact body _ 0 i h1 h3 (fun h=>by omega)
 | succ m ih=>intro i h1 h2 h3; exact body _ (m+1) i h1 h3 (fun q1 q2=>ih (i+1) (by omega) (by omega) q2)
theorem long51 (c:Cal) (k m1 m:Nat) {H:Hp} {n:Nat} {w u gv:Value} {t:List Nat} {bi:Int} (hu:ListR H n u t.length (jK t)) (h0:0<t.length) (b1:Value→Value→Value→Hp→Nat→Res) :
  SW c k m1 b1 m gv w (.int .i64 bi) u (.bool true) (.int .i64 0) H n=Dx c k m1 b1 gv w (.int .i64 bi) u (.bool true) H n:=by
 have body:∀(b4:Value→Value→Value→Value→Value→Value→Hp→Nat→Res) (m:Nat),Oy c k m1 m b1 b4 gv w (.int .i64 bi) u (.bool true) (.int .i64 0) H n=Dx c k m1 b1 gv w (.int .i64 bi) u (.bool true) H n:=by
  intro b4 m
  have hd:decide ((0:Int)<(t.length:Int))=true:=decide_eq_true (by omega)
  unfold Oy B51_4
  rw[hu.len_eq,aj,aJ cV]
  simp only[hd,fj,pW,aj,cZ,fk]
 cases m with
 | zero=>exact body _ 0
 | succ m=>exact body _ (m+1)
theorem loop51 (l k0:Nat) {H0:Hp} {n0 gb:Nat} {x y z:Value} {np nj nk:Nat} {ps js ks:List Int} (hg:GroveI H0 n0 (.agg ⟨[x,y,z]⟩) np nj nk ps js ks) (hb:aZ H0 gb 0 [x,y,z]) (hgb:gb<n0) (hnp:np≤8) (hnj:nj≤KK) :
  ∀(m B:Nat) (w:Value) (best:List Nat) (H:Hp) (n:Nat),n0≤n→Keep n0 H0 H→B≤2 ^ np→2 ^ np-B+20≤m→cY H n0 n w best→ky (apB js ps nj np) np B best →
  ∃ w' H' n',SX (cal (l+2)) k0 m (.pointer (some ⟨gb,0,none⟩)) w (.int .i64 B) H n=some (w',H',n')∧n≤n'∧Keep n0 H0 H'∧cY H' n0 n' w' (pq (apB js ps nj np) np):=by
 obtain⟨x',y',z',e',h1,h2,h3⟩:=hg.eq
 cases e'
 have p8:2 ^ np≤256:=Nat.le_trans (Nat.pow_le_pow_right (by omega) hnp) (by omega)
 have e2:(1:Int) * 2 ^ np=((2 ^ np:Nat):Int):=by simp
 have body:∀(b1:Value→Value→Value→Hp→Nat→Res) (m B:Nat) (w:Value) (best:List Nat) (H:Hp) (n:Nat),n0≤n→Keep n0 H0 H→B≤2 ^ np→20≤m→cY H n0 n w best→ky (apB js ps nj np) np B best →
   (∀(w:Value) (best:List Nat) (H':Hp) (n':Nat),B<2 ^ np→n≤n'→Keep n0 H0 H'→cY H' n0 n' w best→ky (apB js ps nj np) np (B+1) best →
    ∃ w' H2 n2,b1 (.pointer (some ⟨gb,0,none⟩)) w (.int .i64 ((B+1:Nat):Int)) H' n'=some (w',H2,n2)∧n'≤n2∧Keep n0 H0 H2∧cY H2 n0 n2 w' (pq (apB js ps nj np) np)) →
   ∃ w' H' n',VK (cal (l+2)) k0 m b1 (.pointer (some ⟨gb,0,none⟩)) w (.int .i64 B) H n=some (w',H',n')∧n≤n'∧Keep n0 H0 H'∧cY H' n0 n' w' (pq (apB js ps nj np) np):=by
  intro b1 m B w best H n hn hk hB hm hw hbest ih
  have hbH:=hb.keep hk hgb
  have hgH:=hg.keep hk hn
  have l22:ak P H 22 ⟨gb,0+0,none⟩=some x:=bw hbH RY rfl h1.hole.1 h1.hole.2
  have hlx:lenV P 22 x=some (.int .i64 np):=h1.len_eq Hz
  have hI2:I64 ((1:Int) * 2 ^ np):=by rw[e2]; unfold I64; omega
  have hI1:I64 ((B:Int)+1):=by unfold I64; omega
  have hc1:((B:Int)+1)=((B+1:Nat):Int):=by omega
  have hbel:∀ p ∈ best,p<100:=fun p hp=>by have:=hbest.1.2.1 p hp; omega
  unfold VK B51_1
  rw[xz,aj,aQ,aj,l22,aj,hlx,aj,conv138 (by omega),aj,aJ (bin_shl (by omega) hI2),e2,aJ cV,iJ]
  by_cases hlt:B<2 ^ np
  ·rw[if_pos (by omega)]
   obtain⟨u,H1,n1,q1,q2,q3,q4⟩:=Bits_call (ρ:=Value×Hp×Nat) (l+1) (show B<256 by omega) H n
   have k1:Keep n0 H0 H1:=hk.trans q3 hn
   have hb1:=hb.keep k1 hgb
   have hw1:=hw.keep0 q3 q2
   have l26:ak P H1 26 ⟨gb,0,none⟩=some (.agg ⟨[x,y,z]⟩):=Zz hb1 h1.hole.1 h2.hole.1 h3.hole.1
   have hul:∀ p ∈ gY B,p<100:=fun p hp=>by have:=List.mem_range.1 (List.mem_filter.1 hp).1; omega
   have hlen:(gY B).length≤8:=by
    have:=List.length_filter_le (bitB B) (List.range 8)
    rw[List.length_range] at this
    exact this
   rw[q1,q4.len_eq,aj,hw1.len_eq,aj,aJ cV]
   by_cases c1:(gY B).length<best.length
   ·have hd:decide (((gY B).length:Int)<(best.length:Int))=true:=decide_eq_true (by omega)
    simp only[hd,kW,fx,cZ,aj,fK]
    unfold HW VZ
    rw[aJ (cz hI1),hc1]
    obtain⟨w',H',n',r1,r2,r3,r4⟩:=ih w best H1 n1 hlt q2 k1 hw1 (hbest.short c1)
    exact⟨w',H',n',r1,by omega,r3,r4⟩
   ·have hd:decide (((gY B).length:Int)<(best.length:Int))=false:=decide_eq_false (by omega)
    obtain⟨r,H2,n2,s0,s1,s2,s3⟩:=areApart_call (ρ:=Value×Hp×Nat) l (hgH.keep q3 q2) (q4.list hul) (by omega) hnj (by omega)
    have hr:r=true↔qq (apB js ps nj np) np (gY B):=s0.trans ⟨fun⟨t,e,h⟩=>by rw[MV e]; exact h,fun h=>⟨_,rfl,h⟩⟩
    have k2:Keep n0 H0 H2:=k1.trans s3 (by omega)
    have hw2:=hw1.keep0 s3 s2
    have hu2:cY H2 n0 n2 u (gY B):=(q4.keep0 s3 s2).up (by omega)
    simp only[hd,kV,aQ,aj,l26,s1,cK]
    cases r with
    | false=>
     have hno:¬ qq (apB js ps nj np) np (gY B):=fun h=>by have:=hr.2 h; cases this
     simp only[sw,aj,fK]
     unfold HW VZ
     rw[aJ (cz hI1),hc1]
     obtain⟨w',H',n',r1,r2,r3,r4⟩:=ih w best H2 n2 hlt (by omega) k2 hw2 (hbest.bad hno)
     exact⟨w',H',n',r1,by omega,r3,r4⟩
    | true=>
     have hris:=hr.1 rfl
     simp only[pW,aj,fk,hu2.len_eq,hw2.len_eq,aJ vK]
     by_cases c2:best.length<(gY B).length
     ·have hd2:decide ((best.length:Int)<((gY B).length:Int))=true:=decide_eq_true (by omega)
      rw[hd2,long51 (cal (l+2)) k0 m m (hu2.list hul) (by omega) b1]
      unfold Dx B51_3 HW VZ
      rw[fK,aJ (cz hI1),hc1]
      obtain⟨w',H',n',r1,r2,r3,r4⟩:=ih u (gY B) H2 n2 hlt (by omega) k2 hu2 (hbest.longer hris c2)
      exact⟨w',H',n',r1,by omega,r3,r4⟩
     ·have hd2:decide ((best.length:Int)<((gY B).length:Int))=false:=decide_eq_false (by omega)
      obtain⟨rb,t1,t2,t3⟩:=cmp51_loop (cal (l+2)) k0 m (gv:=.pointer (some ⟨gb,0,none⟩)) (bi:=(B:Int)) (hw2.list hbel) (hu2.list hul) (by omega) (by omega) b1 m 0 (Nat.zero_le _) (by omega) (fun q h=>by omega)
      have t1':SW (cal (l+2)) k0 m b1 m (.pointer (some ⟨gb,0,none⟩)) w (.int .i64 B) u (.bool false) (.int .i64 0) H2 n2=Dx (cal (l+2)) k0 m b1 (.pointer (some ⟨gb,0,none⟩)) w (.int .i64 B) u (.bool rb) H2 n2:=t1
      rw[hd2,t1']
      unfold Dx B51_3 HW VZ
      cases rb with
      | true=>
       rw[fK,aJ (cz hI1),hc1]
       obtain⟨w',H',n',r1,r2,r3,r4⟩:=ih u (gY B) H2 n2 hlt (by omega) k2 hu2 (hbest.before hris (by omega) (t2 rfl))
       exact⟨w',H',n',r1,by omega,r3,r4⟩
      | false=>
       rw[fk,aJ (cz hI1),hc1]
       obtain⟨w',H',n',r1,r2,r3,r4⟩:=ih w best H2 n2 hlt (by omega) k2 hw2 (hbest.same (by omega) (t3 rfl))
       exact⟨w',H',n',r1,by omega,r3,r4⟩
  ·rw[if_neg (by omega)]
   have:B=2 ^ np:=by omega
   subst this
   refine⟨w,H,n,rfl,Nat.le_refl _,hk,?_⟩
   rw[← best51_proof hnp apB_pre Pk hbest]
   exact hw
 intro m
 induction m with
 | zero=>intro B w best H n h1 h2 h3 h4; omega
 | succ m ih=>
  intro B w best H n h1 h2 h3 h4 h5 h6
  exact body _ (m+1) B w best H n h1 h2 h3 (by omega) h5 h6 (fun w best H' n' q1 q2 q3 q4 q5=>ih (B+1) w best H' n' (by omega) q3 (by omega) (by omega) q4 q5)
theorem flat51:iY P 51=false:=by kernel_rfl
theorem call51 (l:Nat) (a:Value) (H:Hp) (n:Nat):(cal (l+1)).call 51 [a] H n=C51_0 (cal l) KK a H n:=by kernel_rfl
theorem apartR_call (l:Nat) {np nj nk:Nat} {ps js ks:List Int} {H:Hp} {n:Nat} {v:Value} (hg:GroveI H n v np nj nk ps js ks) (hnp:np≤8) (hnj:nj≤KK) :
  ∃ w H' n',(∀ k:Value→Hp→Nat→Option ρ,aY P (cal (l+3)) 51 [v] H n k=k w H' n')∧n≤n'∧Keep n H H'∧cY H' 0 n' w (pq (apB js ps nj np) np):=by
 have hg0:=hg
 obtain⟨x,y,z,rfl,h1,h2,h3⟩:=hg.eq
 have hk:Keep n H (H.set n (some (.cells [x,y,z] 26 false none))):=(Keep.refl n H).set (Nat.le_refl _) _
 have hb:aZ (H.set n (some (.cells [x,y,z] 26 false none))) n 0 [x,y,z]:=aZ.new
 have p8:2 ^ np≤256:=Nat.le_trans (Nat.pow_le_pow_right (by omega) hnp) (by omega)
 obtain⟨w,H',n',r1,r2,r3,r4⟩:=loop51 l KK (hg0.keep hk (show n≤n+1 by omega)) hb (by omega) hnp hnj KK 0 (.slice none 0 0) [] _ (n+1) (Nat.le_refl _) (Keep.refl _ _) (Nat.zero_le _) (by unfold KK; omega) (cY.nil _ _ _) (ky.start Pk)
 refine⟨w,H',n',fun k=>?_,by omega,hk.trans r3 (by omega),r4.up (Nat.zero_le _)⟩
 unfold aY
 rw[flat51,call51]
 unfold C51_0 B51_0
 rw[fy]
 have r1':SX (cal (l+2)) KK KK (ptr n) (.slice none 0 0) (.int .i64 0) (H.set n (some (.cells (bj (.agg ⟨[x,y,z]⟩)) 26 false none))) (n+1)=some (w,H',n'):=r1
 show aq (SX (cal (l+2)) KK KK (ptr n) (.slice none 0 0) (.int .i64 0) (H.set n (some (.cells (bj (.agg ⟨[x,y,z]⟩)) 26 false none))) (n+1)) _=_
 rw[r1']
 rfl
end Go.Proofs.Ytekajfobmnedjaa.spec
end
section
namespace Go.Proofs.Ytekajfobmnedjaa.spec
open Go Go.Ev Go.Proofs.Ytekajfobmnedjaa.nestFits Go.Proofs.Ytekajfobmnedjaa.G
set_option maxRecDepth 100000
end Go.Proofs.Ytekajfobmnedjaa.spec
end
section
namespace Go.Proofs.Ytekajfobmnedjaa.spec
open Go Go.Ev Go.Proofs.Ytekajfobmnedjaa.nestFits Go.Proofs.Ytekajfobmnedjaa.G
set_option maxRecDepth 100000
variable {ρ:Type}
end Go.Proofs.Ytekajfobmnedjaa.spec
end
section
namespace Go.Proofs.Ytekajfobmnedjaa.nestBounds
open Go.ChangeShapes Go.WideShapes Go.ChangeAt Go.RowKit Go.Ev Go.Proofs.Ytekajfobmnedjaa.nestFits
theorem flat3:Hy Try.prog 5 3=some 1:=by kernel_rfl
theorem bytes3:1≤Try.prog.bytesOf 3:=by decide +kernel
def Says (f:Nat):Prop:=∀(H:Hp) (n:Nat) (v w:Value) np nj nk ps js ks nl ls,GroveI H n v np nj nk ps js ks→spec.ListR H n w nl ls →
 ∃ l H' n',(calE G.P G.A (G.KK+1) G.tab.get l).call f [v,w] H n=some (.bool true,H',n')
set_option maxRecDepth 100000
theorem there {W:World} {base:Nat} {b o len cap:Nat} {H:Hp} (hH:∀ i,H.get i=xx W i) (hok:Cell.okWide Try.prog W .any base 44 (.slice (some ⟨b,o,none⟩) len cap)):∃ c,H.get b=some (.rows c):=by
 simp only[Cell.okWide,Try.underlying44,Cell.ok] at hok
 obtain⟨_,_,_,hsp,row,cells,hshape,_⟩:=hok
 rw[hH]
 unfold xx
 unfold World.shape? at hshape
 dsimp only at hshape
 cases hb:W.heap[b]? with
 | none=>rw[hb] at hshape; simp at hshape
 | some B=>
  rw[hb] at hshape
  cases B with
  | cells arr x y=>exact⟨_,rfl⟩
  | _=>simp at hshape
theorem list_in {W:World} {base n len:Nat} {w:Value} {xs:List Int} {H:Hp} (hH:∀ i,H.get i=xx W i) (hok:Cell.okWide Try.prog W .any base 44 w) (h:SliceI H n 1 w len xs):spec.ListR H n w len xs:=by
 obtain⟨h1,h2,h3⟩:=h
 refine⟨by omega,h2,?_⟩
 rcases h3 with h3 | ⟨b,o,cap,e,a1,a2,a3,a4⟩
 ·exact .inl h3
 ·refine .inr ⟨b,o,cap,e,a3,?_⟩
  rcases a4 with rfl | a4
  ·subst e
   obtain⟨c,hc⟩:=there hH hok
   have:xs=[]:=List.length_eq_zero_iff.1 (by omega)
   subst this
   exact⟨_,c,hc,rfl,fun k v h=>by simp [ints] at h⟩
  ·exact a4
theorem cells_one {W:World} {base:Nat} {w:Value} (hok:Cell.okWide Try.prog W .any base 44 w):w.cells.toList=[w]:=by
 cases w with
 | slice a l c=>rfl
 | _=>simp only[Cell.okWide,Try.underlying44,Cell.ok] at hok
end Go.Proofs.Ytekajfobmnedjaa.nestBounds
end
section
namespace Go.Proofs.Ytekajfobmnedjaa.nestParts
open Go.ChangeShapes Go.WideShapes Go.ChangeAt Go.RowKit Go.Ev Go.Proofs.Ytekajfobmnedjaa.nestFits Go.Proofs.Ytekajfobmnedjaa.nestBounds
def Says (f:Nat):Prop:=∀(H:Hp) (n:Nat) (v w:Value) np nj nk ps js ks nl ls,GroveI H n v np nj nk ps js ks→spec.ListR H n w nl ls →
 ∃ l H' n',(calE G.P G.A (G.KK+1) G.tab.get l).call f [v,w] H n=some (.bool true,H',n')
set_option maxRecDepth 100000 in
theorem walk (hs:Says 9) {K:Type} {enc:TypeId × Value→K} {W:World} {base:Nat} {v w:Value} {d d':DataW K} {p p':List MemPlace}
  (hok:Value.okWide Try.prog W .any base 26 v) (ht:DataW.Trod enc Try.prog W 0 (fun _=>true) true 26 v d p) (hw:∀ n ∈ d.weights Try.prog 26,n≤reachBytes)
  (hok':Value.okWide Try.prog W .any base 44 w) (ht':DataW.Trod enc Try.prog W 0 (fun _=>true) true 44 w d' p') (hw':∀ n ∈ d'.weights Try.prog 44,n≤reachBytes) :
  Calls Try.prog 9 #[v,w] W fun e w'=>e=.returned (.bool true)∧Grown W w'∧∀ b,b<W.heap.size→w'.heap[b]?=W.heap[b]?:=by
 obtain⟨H,hH,hI⟩:=I.start W
 obtain⟨np,nj,nk,ps,js,ks,hg,hv⟩:=grove_in hH hok ht hw
 have hc:Cell.okWide Try.prog W .any base 44 w:=by
  unfold Value.okWide at hok'
  rw[Try.underlying44] at hok'
  exact hok'
 obtain⟨fuel,ht'⟩:=ht'
 rw[cells_one hc] at ht'
 obtain⟨nl,ls,hsl,hv'⟩:=JW hH Try.underlying44 flat3 (by omega) bytes3 ht' hw' hc
 obtain⟨l,H',n',e⟩:=hs H W.heap.size v w np nj nk ps js ks nl ls hg (list_in hH hc hsl)
 refine(calls_of_tower_open G.tab_ok hI (VRL.cons hv (VRL.cons hv' VRL.nil)) e rfl).mono ?_
 rintro en w' ⟨h1,h2,h3,h4,h5,h6,h7⟩
 exact⟨h1,grown_of h2 h4 h5 h6 h7,h6⟩
set_option maxRecDepth 100000 in
theorem lifted (hs:Says 9) (os:Os) (started:os.Started) (H:Type) (enc:TypeId × Value→H) :
  ReturnsInHanded {} Try.checked os 9 .any (Rows.nestPartsSpec.pre6 enc Try.prog Try.f9 Rows.nestPartsRow.domain false) (Rows.nestPartsSpec.post enc Try.prog Try.f9 false true false false):=by
 refine returnsInHanded_of_change_sized (C:=Try.checked) own started (by kernel_rfl) Try.func9
  (ChangeSpec.witness6 (enc:=enc) (C:=Try.checked) false ⟨#[],#[.agg #[.slice none 0 0,.slice none 0 0,.slice none 0 0],.slice none 0 0],[]⟩ 8 (by kernel_rfl) (by kernel_rfl) (by kernel_rfl) (by kernel_rfl)) ?_
 intro W base args ds gs before hval0 hW hcnd hsz _
 have hval:∀(j:Nat) t v,Try.f9.params[j]?=some t→args[j]?=some v→Value.okWide Try.prog W .any base t v:=hval0
 have hW':=hW
 obtain⟨p,q,hA0,hV,rfl,hfz,hnd⟩:=hW
 have hA:DataW.TrodAll enc Try.prog W 0 (fun _=>true) true Try.f9.params.toList args.toList ds p:=hA0
 have hAk:=hA
 rw[Try.params9] at hA hval
 obtain⟨v,w,d,d',p0,p1,rfl,rfl,rfl,h0,h1⟩:=trodAll_two hA
 obtain⟨rfl,rfl⟩:=trodVars_none hV
 simp only[List.append_nil] at hW' hAk
 have hall:∀ n ∈ d.weights Try.prog 26++(d'.weights Try.prog 44++[]),n≤reachBytes:=by
  intro n hn
  have hm:n ∈ DataW.weightsEach Try.checked.prog (Try.f9.params.toList++DataSpec.varTypes Try.checked.prog Rows.nestPartsSpec.plain) ([d,d']++[]):=by
   rw[Try.params9]
   exact hn
  have:=List.all_eq_true.1 hsz n hm
  simpa using this
 refine(walk hs (hval 0 26 v rfl rfl) h0 (fun n hn=>hall n (List.mem_append_left _ hn)) (hval 1 44 w rfl rfl) h1 (fun n hn=>hall n (List.mem_append_right _ (List.mem_append_left _ hn)))).mono fun e W' ⟨he,hg,hk⟩=>?_
 subst he
 exact⟨_,rfl,post_of_same (pv:=[]) hW' (fun _ _ _=>(trodAll_cons_mk (shut_bool Try.underlying4 _) trodAll_mk0))
  (fun sp hsp=>DataW.TrodAll.respare kids full (by rw[Try.params9]; decide +kernel) (carryAll hk hAk) hsp) (fun _ _=>rfl) (by simp)
  (hg.frame _) hg.2.1 (ok_one (by kernel_rfl) rfl (okWide_bool_mk Try.underlying4 _))⟩
theorem over (hs:Says 9):Rows.nestPartsRow.holds Try.pinned (OpenSpec.ofChange Rows.nestPartsSpec):=
 OpenClaim.holds_of_wide 9 Try.f9 rfl rfl rfl rfl rfl rfl rfl ⟨rfl,rfl,rfl,rfl,rfl⟩ rfl rfl rfl rfl rfl (by kernel_rfl) Try.func9 (by kernel_rfl)
  (of_decide_eq_true (by kernel_rfl)) (by unfold Func.isWrapper; first | (rw[if_pos (by decide +kernel)]; kernel_rfl) | (rw[if_neg (by decide +kernel)]; exact⟨rfl,rfl⟩))
  (fun os started H enc _=>lifted hs os started H enc)
theorem said (hs:Says 9):Rows.NestPartsSaid:=over hs
end Go.Proofs.Ytekajfobmnedjaa.nestParts
end
section
namespace Go.Proofs.Ytekajfobmnedjaa.spec
open Go.Ev Go.Proofs.Ytekajfobmnedjaa.nestFits Go.Proofs.Ytekajfobmnedjaa.G
set_option maxRecDepth 1000000
noncomputable def isB (c:Bool) (r:Res):Bool:=match r with
 | some (.bool b,_,_)=>b == c
 | _=>false
theorem isB_eq {c:Bool} {r:Res} (h:isB c r=true):∃ H n,r=some (.bool c,H,n):=by
 unfold isB at h
 split at h
 ·rename_i b H n
  have h:=eq_of_beq h
  subst h
  exact⟨H,n,rfl⟩
 ·cases h
theorem run_awake:isB true ((cal 60).call 16 [] .nil 0)=true:=by kernel_rfl
theorem flat16:iY P 16=true:=by kernel_rfl
theorem awake_call {ρ:Type} (H:Hp) (n:Nat) (k:Value→Hp→Nat→Option ρ):aY P (cal 60) 16 [] H n k=k (.bool true) H n:=by
 obtain⟨H',n',e⟩:=isB_eq run_awake
 exact iy flat16 rfl e rfl
end Go.Proofs.Ytekajfobmnedjaa.spec
end
section
namespace Go.Proofs.Ytekajfobmnedjaa.spec
open Go Go.Ev Go.Proofs.Ytekajfobmnedjaa.nestFits Go.Proofs.Ytekajfobmnedjaa.G
set_option maxRecDepth 100000
theorem rises_len9 {np:Nat}:∀ {t:List Nat} {a:Nat},fQ a t→(∀ x ∈ t,x<np)→t=[]∨a+t.length≤np
 | [],_,_,_=>.inl rfl
 | x::t,a,h,hx=>by
  refine .inr ?_
  have h0:=hx x List.mem_cons_self
  have h1:=h.1
  rcases rises_len9 h.2 fun y hy=>hx y (List.mem_cons_of_mem _ hy) with e | e
  ·subst e; simp; omega
  ·simp only[List.length_cons]; omega
theorem neqB9 (p q:Operand) (a b:Bool):binV P .neq 4 p q (.bool a) (.bool b)=some (.bool (!decide (a=b))):=by
 cases a <;> cases b <;> kernel_rfl
theorem parts_core (c:Cal) {np nj nk nl:Nat} {ps js ks ls:List Int} {w:Value} {F:Int} {A:List Nat} {Q:Prop}
  (Hawake:∀(H:Hp) (n:Nat) (k:Value→Hp→Nat→Res),aY P c 16 [] H n k=k (.bool true) H n)
  (Hthin:∀(H:Hp) (n:Nat) (v:Value),GroveI H n v np nj nk ps js ks→ListR H n w nl ls→∃(r:Bool) (H':Hp) (n':Nat),(r=true↔thin np nj nk nl)∧(∀ k:Value→Hp→Nat→Res,aY P c 15 [v,w] H n k=k (.bool r) H' n')∧n≤n'∧Keep n H H')
  (Hfault:∀(H:Hp) (n:Nat) (v:Value),GroveI H n v np nj nk ps js ks→∃ H' n',(∀ k:Value→Hp→Nat→Res,aY P c 20 [v] H n k=k (.int .i64 F) H' n')∧n≤n'∧Keep n H H')
  (Hgrove:thin np nj nk nl→∀(H:Hp) (n:Nat) (v:Value),GroveI H n v np nj nk ps js ks→∃ u H' n',(∀ k:Value→Hp→Nat→Res,aY P c 18 [v] H n k=k u H' n')∧n≤n'∧Keep n H H'∧fW H' n' u np nj nk ps js ks)
  (Hlist:thin np nj nk nl→∀(H:Hp) (n:Nat),ListR H n w nl ls→∃ u' H' n',(∀ k:Value→Hp→Nat→Res,aY P c 23 [w] H n k=k u' H' n')∧n≤n'∧Keep n H H'∧ListR H' n' u' nl ls)
  (HA:thin np nj nk nl→∀(H:Hp) (n:Nat) (v:Value),fW H n v np nj nk ps js ks→∃(u:Value) (H':Hp) (n':Nat),(∀ k:Value→Hp→Nat→Res,aY P c 48 [v] H n k=k (.tuple ⟨[u,.int .i64 F]⟩) H' n')∧n≤n'∧Keep n H H'∧(F=0→ListR H' n' u A.length (jK A))∧(F≠0→u=.slice none 0 0))
  (HPA:thin np nj nk nl→∀(H:Hp) (n:Nat) (v u:Value),fW H n v np nj nk ps js ks→ListR H n u nl ls→∃(r:Bool) (H':Hp) (n':Nat),(r=true↔F=0∧Q)∧(∀ k:Value→Hp→Nat→Res,aY P c 49 [v,u] H n k=k (.bool r) H' n')∧n≤n'∧Keep n H H')
  (HAR:F=0→thin np nj nk nl→∀(H:Hp) (n:Nat) (v:Value),GroveI H n v np nj nk ps js ks→ListR H n w nl ls→∃(r:Bool) (H':Hp) (n':Nat),(r=true↔Q)∧(∀ k:Value→Hp→Nat→Res,aY P c 50 [v,w] H n k=k (.bool r) H' n')∧n≤n'∧Keep n H H')
  (HR:F=0→∀(H:Hp) (n:Nat) (v:Value),GroveI H n v np nj nk ps js ks→∃(u:Value) (H':Hp) (n':Nat),(∀ k:Value→Hp→Nat→Res,aY P c 51 [v] H n k=k u H' n')∧n≤n'∧Keep n H H'∧ListR H' n' u A.length (jK A))
  (Hi:F=0→∀(H:Hp) (n:Nat) (u v:Value),ListR H n u A.length (jK A)→ListR H n v A.length (jK A)→∃(H':Hp) (n':Nat),(∀ k:Value→Hp→Nat→Res,aY P c 30 [u,v] H n k=k (.bool true) H' n')∧n≤n'∧Keep n H H')
  {H:Hp} {n:Nat} {v:Value} (hg:GroveI H n v np nj nk ps js ks) (hw:ListR H n w nl ls):∃ H' n',B9_0 c KK v w H n=some (.bool true,H',n'):=by
 have hg0:=hg
 obtain⟨x,y,z,rfl,h1,h2,h3⟩:=hg.eq
 unfold B9_0
 rw[fy]
 simp only[bj,ptr]
 have hk:Keep n H (H.set n (some (.cells [x,y,z] 26 false none))):=(Keep.refl n H).set (Nat.le_refl _) _
 have hb:aZ (H.set n (some (.cells [x,y,z] 26 false none))) n 0 [x,y,z]:=aZ.new
 generalize H.set n (some (.cells [x,y,z] 26 false none))=H1 at hk hb ⊢
 have ld:∀ H2,aZ H2 n 0 [x,y,z]→ak P H2 26 ⟨n,0,none⟩=some (.agg ⟨[x,y,z]⟩):=fun H2 h=>Zz h h1.hole.1 h2.hole.1 h3.hole.1
 have hg1:GroveI H1 (n+1) (.agg ⟨[x,y,z]⟩) np nj nk ps js ks:=hg0.keep hk (by omega)
 have hw1:ListR H1 (n+1) w nl ls:=hw.keep hk (by omega)
 obtain⟨t,H2,n2,t1,t2,t3,t4⟩:=Hthin H1 (n+1) _ hg1 hw1
 rw[aQ,aj,ld H1 hb,aj,t2]
 cases t with
 | false=>
  simp only[sw,aj,fK,Hawake]
  exact⟨_,_,rfl⟩
 | true=>
  have ht:=t1.1 rfl
  have hb2:=hb.keep t4 (by omega)
  have hg2:=hg1.keep t4 t3
  have hw2:=hw1.keep t4 t3
  obtain⟨ga,H3,n3,a1,a2,a3,a4⟩:=Hgrove ht H2 n2 _ hg2
  obtain⟨av,H4,n4,b1,b2,b3,b4,b5⟩:=HA ht H3 n3 ga a4
  have k4:Keep n2 H2 H4:=a3.trans b3 a2
  have hb4:=hb2.keep k4 (show n<n2 by omega)
  obtain⟨gb,H5,n5,c1,c2,c3,c4⟩:=Hgrove ht H4 n4 _ (hg2.keep k4 (by omega))
  have k5:Keep n2 H2 H5:=k4.trans c3 (by omega)
  obtain⟨lv,H6,n6,d1,d2,d3,d4⟩:=Hlist ht H5 n5 (hw2.keep k5 (by omega))
  obtain⟨is,H7,n7,e0,e1,e2,e3⟩:=HPA ht H6 n6 gb lv (c4.keep d3 d2) d4
  have k7:Keep n2 H2 H7:=(k5.trans d3 (by omega)).trans e3 (by omega)
  have l7:Keep n4 H4 H7:=(c3.trans d3 c2).trans e3 (by omega)
  have hb7:=hb2.keep k7 (show n<n2 by omega)
  obtain⟨H8,n8,f1,f2,f3⟩:=Hfault H7 n7 _ (hg2.keep k7 (by omega))
  have k8:Keep n2 H2 H8:=k7.trans f3 (by omega)
  have l8:Keep n4 H4 H8:=l7.trans f3 (by omega)
  have hb8:=hb2.keep k8 (show n<n2 by omega)
  have u0:tupV (.tuple ⟨[av,.int .i64 F]⟩) 0=some av:=rfl
  have u1:tupV (.tuple ⟨[av,.int .i64 F]⟩) 1=some (.int .i64 F):=rfl
  simp only[pW,fk,aQ,aj,ld H2 hb2,a1,b1,u0,u1,ld H4 hb4,c1,d1,e1,ld H7 hb7,f1,aJ jQ]
  by_cases he:F=0
  ·have hF:decide (F=0)=true:=decide_eq_true he
   obtain⟨r,H9,n9,g0,g1,g2,g3⟩:=HAR he ht H8 n8 _ (hg2.keep k8 (by omega)) (hw2.keep k8 (by omega))
   have hir:is=r:=by
    have:is=true↔r=true:=e0.trans ⟨fun h=>g0.2 h.2,fun h=>⟨he,g0.1 h⟩⟩
    cases is <;> cases r <;> simp_all
   subst hir
   have k9:Keep n2 H2 H9:=k8.trans g3 (by omega)
   have l9:Keep n4 H4 H9:=l8.trans g3 (by omega)
   have hb9:=hb2.keep k9 (show n<n2 by omega)
   obtain⟨rv,H10,n10,i1,i2,i3,i4⟩:=HR he H9 n9 _ (hg2.keep k9 (by omega))
   obtain⟨H11,n11,j1,j2,j3⟩:=Hi he H10 n10 av rv ((b4 he).keep (l9.trans i3 (by omega)) (by omega)) i4
   simp only[hF,fj,aj,ld H8 hb8,g1,cZ,aJ (neqB9 _ _ _ _),decide_true,Bool.not_true,fk,aJ uZ,ld H9 hb9,i1,j1,Hawake]
   exact⟨_,_,rfl⟩
  ·have hF:decide (F=0)=false:=decide_eq_false he
   have hf:is=false:=by
    cases is with
    | false=>rfl
    | true=>exact absurd (e0.1 rfl).1 he
   subst hf
   have hav:=b5 he
   subst hav
   have hl0:lenV P 44 (.slice none 0 0)=some (.int .i64 0):=by unfold lenV; simp only[UK]; rfl
   simp only[hF,gj,fx,aj,cK,aJ (neqB9 _ _ _ _),decide_true,Bool.not_true,Bool.not_false,fk,fK,aJ uZ,aJ jQ,fj,hl0,cZ,Hawake]
   exact⟨_,_,rfl⟩
theorem parts_law {np nj nk nl:Nat} {ps js ks ls:List Int} {H:Hp} {n:Nat} {v w:Value} (hg:GroveI H n v np nj nk ps js ks) (hw:ListR H n w nl ls):∃ H' n',C9_0 (cal 60) KK v w H n=some (.bool true,H',n'):=by
 unfold C9_0
 have ap:=proofL_spec (ap:=apB js ps nj np) (np:=np) apB_pre Pk
 have hlen:dz np nj nk ps js ks=0→(pq (apB js ps nj np) np).length≤100:=fun he=>by
  have np8:=(Kk he).np8
  rcases rises_len9 ap.1.1 ap.1.2.1 with e | e
  ·rw[e]; simp
  ·omega
 refine parts_core (cal 60) (F:=dz np nj nk ps js ks) (A:=pq (apB js ps nj np) np) (Q:=Cz js ps nj np ls)
  (fun H n k=>awake_call H n k) (fun H n v h1 h2=>thin_call 59 h1 h2.len_eq) (fun H n v h=>lawfault_call 56 h)
  (fun ht H n v h=>grove_call 58 h (by have:=ht.1; omega) (by have:=ht.2.1; omega) (by have:=ht.2.2.1; omega))
  (fun ht H n h=>list_call 59 h (by have:=ht.2.2.2; omega)) ?_ ?_ ?_ ?_ ?_ hg hw
 ·intro ht H n v h
  obtain⟨l1,l2,l3,_⟩:=ht
  obtain⟨s1,s2⟩:=Apart_spec 43 h (by omega) (by omega) (by omega)
  by_cases he:dz np nj nk ps js ks=0
  ·obtain⟨w',H',n',q1,q2,q3,q4⟩:=s2 he
   rw[he]
   exact⟨w',H',n',fun k=>by rw[Apart_call 59,q1]; rfl,q2,q3,fun _=>q4.list fun p hp=>by have:=ap.1.2.1 p hp; omega,fun h=>absurd rfl h⟩
  ·obtain⟨H',n',q1,q2,q3⟩:=s1 he
   exact⟨_,H',n',fun k=>by rw[Apart_call 59,q1]; rfl,q2,q3,fun h=>absurd h he,fun _=>rfl⟩
 ·intro ht H n v u h1 h2
  obtain⟨l1,l2,l3,l4⟩:=ht
  exact ProveApart_call 53 h1 h2 (by omega) (by omega) (by omega) (by omega)
 ·intro he ht H n v h1 h2
  obtain⟨l1,l2,l3,l4⟩:=ht
  exact areApart_call 58 h1 h2 (by omega) (by unfold KK; omega) (by omega)
 ·intro he H n v h
  have good:=Kk he
  obtain⟨u,H',n',q1,q2,q3,q4⟩:=apartR_call (ρ:=Value×Hp×Nat) 57 h good.np8 (by have:=good.nj16; unfold KK; omega)
  exact⟨u,H',n',q1,q2,q3,q4.list fun p hp=>by have:=ap.1.2.1 p hp; have:=good.np8; omega⟩
 ·intro he H n u v h1 h2
  obtain⟨r,H',n',q0,q1,q2,q3⟩:=ints_call (ρ:=Value×Hp×Nat) 59 h1 h2 (by have:=hlen he; omega)
  have:r=true:=q0.2 rfl
  subst this
  exact⟨H',n',q1,q2,q3⟩
theorem call9 (v w:Value) (H:Hp) (n:Nat):(cal (60+1)).call 9 [v,w] H n=C9_0 (cal 60) KK v w H n:=by kernel_rfl
theorem parts_says:nestParts.Says 9:=by
 intro H n v w np nj nk ps js ks nl ls hg hw
 obtain⟨H',n',e⟩:=parts_law hg hw
 exact⟨60+1,H',n',(call9 v w H n).trans e⟩
theorem proved:Rows.NestPartsSaid:=nestParts.said parts_says
#print axioms proved
end Go.Proofs.Ytekajfobmnedjaa.spec
end
