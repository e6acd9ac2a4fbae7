/- Texts S43 to S178. -/
import Derived.Test.YtndkmmelelchcaaB2
section
namespace Go.Proofs.Ytndkmmelelchcaa.spec
open Go Go.Ev Go.Proofs.Ytndkmmelelchcaa.nestFits Go.Proofs.Ytndkmmelelchcaa.G
set_option maxRecDepth 100000
variable {ρ:Type}
def Same(H Hm:Hp):Prop:=∀ b o vs,aZ H b o vs→aZ Hm b o vs
theorem same_list{H Hm:Hp}{n len:Nat}{v:Value}{xs:List Int}(hr:Same H Hm)(h:ListR H n v len xs):ListR Hm n v len xs:=by
 obtain⟨h1,h2,h3⟩:=h
 refine⟨h1,h2,?_⟩
 rcases h3 with h3 | ⟨b,o,cap,e,a,c⟩
 ·exact .inl h3
 ·exact .inr ⟨b,o,cap,e,a,hr _ _ _ c⟩
theorem UJ{H:Hp}{b o:Nat}{vs:List Value}(h:aZ H b o vs):(∃ c e ro vec,H.get b=some (.cells c e ro vec))∨∃ c,H.get b=some (.rows c):=by
 obtain⟨B,c,h1,h2,_⟩:=h
 cases B with
 | cells c e ro vec=>exact .inl ⟨_,_,_,_,h1⟩
 | rows c=>exact .inr ⟨_,h1⟩
 | _=>cases h2
theorem effK_read{ex:List Extra}{H:Hp}{n:Nat}{v:Value}{op:Hp→Nat→(Value→Hp→Nat→Option ρ)→Option ρ}
  (hex:∀ y ∈ ex,∃ t a,y=.l t a∧a.block<n∧((∃ c e ro vec,H.get a.block=some (.cells c e ro vec))∨∃ c,H.get a.block=some (.rows c)))
  (hop:∀ Hm,Same H Hm→∃ H2 n2,(∀ k,op Hm n k=k v H2 n2)∧n≤n2∧Keep n Hm H2) :
  ∃ H' n2,(∀ k,effK P ex H n op k=k v H' n2)∧n≤n2∧Keep n H H':=by
 cases ex with
 | nil=>
  obtain⟨H2,n2,h1,h2,h3⟩:=hop H (fun _ _ _ h=>h)
  exact⟨H2,n2,fun k=>by unfold effK; exact h1 k,h2,h3⟩
 | cons y l=>
  have hl:∀ z ∈ y::l,∃ t a,z=.l t a:=fun z hz=>by obtain⟨t,a,e,_⟩:=hex z hz; exact⟨t,a,e⟩
  obtain⟨H1,e1,e2⟩:=Dy (ex:=y::l) (H:=H) fun z hz=>by obtain⟨t,a,e,_,h⟩:=hex z hz; exact .inl ⟨t,a,e,h⟩
  have hnw:∀ b,¬ nwOf (y::l) b:=fun b ⟨id,c,e,h1,_⟩=>by obtain⟨t,a,q⟩:=hl _ h1; cases q
  obtain⟨H2,n2,h1,h2,h3⟩:=hop (rz (y::l) H1) fun b o vs hc=>by
   obtain⟨B,c,g1,g2,g3⟩:=hc
   have em:=(pK (ex:=y::l) (H:=H1) b).2 (hnw _)
   rcases e2 b with q | ⟨⟨c',e,ro,vec,q1,q2⟩,_⟩
   ·exact⟨B,c,by rw[em,q]; exact g1,g2,g3⟩
   ·rw[q1] at g1
    cases g1
    exact⟨.cells c' e true vec,c,by rw[em]; exact q2,g2,g3⟩
  have hsome:∀ z ∈ y::l,(∃ t a,z=.l t a∧(H2.get a.block).isSome)∨∃ id c e,z=.a id c e:=by
   intro z hz
   obtain⟨t,a,rfl,hb,hc⟩:=hex z hz
   refine .inl ⟨t,a,rfl,?_⟩
   rw[h3 _ hb,(pK (H:=H1) a.block).2 (hnw _)]
   have hs:(H.get a.block).isSome:=by rcases hc with⟨c,e,ro,vec,hc⟩ | ⟨c,hc⟩ <;> rw[hc] <;> rfl
   rcases e2 a.block with q | ⟨⟨c,e,ro,vec,_,q⟩,_⟩
   ·rw[q]; exact hs
   ·rw[q]; rfl
  obtain⟨H3,f1,f2,f3⟩:=Dz (H0:=H) hsome
  have hck:chkX P (nZ (y::l) H H3) (y::l)=true:=Mx fun z hz=>.inl (hl z hz)
  refine⟨nZ (y::l) H H3,n2,fun k=>?_,h2,fun b hb=>?_⟩
  ·unfold effK
   simp only[e1,aj,h1,f1,hck]
   rfl
  ·rw[(vV b).2 (hnw b)]
   by_cases q:ldOf (y::l) b
   ·exact f2 b q
   ·rw[f3 b q,h3 b hb,(pK (H:=H1) b).2 (hnw b)]
    rcases e2 b with z | ⟨_,z⟩
    ·exact z
    ·exact absurd z q
theorem slice121h(b:Nat){np:Nat}(h:np≤8):IZ P 119 (.pointer (some ⟨b,0,none⟩)) none (some (.int .i64 np))=some (.slice (some ⟨b,0,none⟩) np 8):=by
 show IZ P 119 (.pointer (some ⟨b,0,none⟩)) none (some (.int .i64 (.ofNat np)))=_
 unfold IZ
 simp [und121,sz3,NY,hiV,loV,bndIn,h,capV,addA]
end Go.Proofs.Ytndkmmelelchcaa.spec
end
section
namespace Go.Proofs.Ytndkmmelelchcaa.spec
open Go Go.Ev Go.Proofs.Ytndkmmelelchcaa.nestFits Go.Proofs.Ytndkmmelelchcaa.G
set_option maxRecDepth 100000
end Go.Proofs.Ytndkmmelelchcaa.spec
end
section
namespace Go.Proofs.Ytndkmmelelchcaa.spec
open Go Go.Ev Go.Proofs.Ytndkmmelelchcaa.nestFits Go.Proofs.Ytndkmmelelchcaa.G
set_option maxRecDepth 100000
variable {np nj nk kd:Nat} {js js' ks ps ps':List Int} {s t:Nat→Nat}
end Go.Proofs.Ytndkmmelelchcaa.spec
end
section
namespace Go.Proofs.Ytndkmmelelchcaa.spec
open Go Go.Ev Go.Proofs.Ytndkmmelelchcaa.nestFits Go.Proofs.Ytndkmmelelchcaa.G
set_option maxRecDepth 100000
theorem sumTo_add(f:Nat→Int)(a:Nat):∀ b:Nat,ak f (a+b)=ak f a+ak (fun i=>f (a+i)) b
 | 0=>by simp [ak]
 | b+1=>by
  rw[show a+(b+1)=(a+b)+1 by omega]
  simp only[ak]
  rw[sumTo_add f a b]
  omega
def tnet(w:Nat→Nat→Int)(spare cap:Nat→Int):Net:=fun u v=>
 if u=16∧v<8 then spare v else if u<8∧8≤v∧v<16 then w u (v-8) else if 8≤u∧u<16∧v=17 then cap (u-8) else 0
theorem ZV(f:Nat→Int):ak f 18=ak f 8+ak (fun i=>f (8+i)) 8+f 16+f 17:=by
 have e:ak f (8+8)=ak f 8+ak (fun i=>f (8+i)) 8:=sumTo_add f 8 8
 show ak f (8+8)+f 16+f 17=_
 rw[e]
theorem dX{f:Nat→Int}{n:Nat}(h:∀ i,i<n→f i=0):ak f n=0:=(bz h).trans (jW n)
theorem Filled.into{N s t:Nat}{n m:Net}{x:Int}(h:Filled N s t n x m)(hs:s<N)(ht:t<N)(hst:s≠t):x=ak (fun u=>n u t-m u t) N:=by
 rw[← h.worth,h.flow.worth (R:=fun u=>!(u == t)) hs (by simp [hst]) (by simp)]
 unfold over
 refine bz fun u hu=>?_
 rw[wW (s:=t) ht fun v _ hv=>if_neg (fun q=>hv (by simpa using q.2))]
 by_cases c:u=t
 ·subst c
  have:=h.flow.anti u u hu hu
  rw[if_neg (fun q=>by simpa using q.1)]
  omega
 ·rw[if_pos ⟨by simp [c],by simp⟩]
theorem Cq{f:Nat→Int}{n i:Nat}(h:∀ k,k<n→0≤f k)(hi:i<n):f i≤ak f n:=by
 have e:ak (fun k=>if k=i then f i else 0) n=f i:=by
  rw[wW (s:=i) hi fun k _ hk=>if_neg hk,if_pos rfl]
 rw[← e]
 refine iJ fun k hk=>?_
 split
 ·rename_i q; rw[q]; exact Int.le_refl _
 ·exact h k hk
theorem pw(f g:Nat→Int)(n:Nat):ak (fun i=>f i-g i) n=ak f n-ak g n:=by
 have e:ak (fun i=>f i-g i) n+ak g n=ak f n:=by
  rw[← cQ]
  exact bz fun i _=>by omega
 omega
theorem cap_sum(w:Nat→Nat→Int)(spare cap:Nat→Int):ak (fun u=>tnet w spare cap u 17) 18=ak cap 8:=by
 rw[ZV]
 have e1:ak (fun u=>tnet w spare cap u 17) 8=0:=dX fun v hv=>by
  unfold tnet
  rw[if_neg (by omega),if_neg (by omega),if_neg (by omega)]
 have e2:ak (fun i=>tnet w spare cap (8+i) 17) 8=ak cap 8:=bz fun i hi=>by
  show tnet w spare cap (8+i) 17=cap i
  unfold tnet
  rw[if_neg (by omega),if_neg (by omega),if_pos ⟨by omega,by omega,rfl⟩,show 8+i-8=i by omega]
 have e3:tnet w spare cap 16 17=0:=by
  unfold tnet
  rw[if_neg (by omega),if_neg (by omega),if_neg (by omega)]
 have e4:tnet w spare cap 17 17=0:=by
  unfold tnet
  rw[if_neg (by omega),if_neg (by omega),if_neg (by omega)]
 rw[e1,e2,e3,e4]
 omega
def anew(m:Net)(cap:Nat→Int):Net:=fun u v=>if 8≤u∧u<16∧v=17 then cap (u-8) else m u v
theorem Xw(w:Nat→Nat→Int)(spare cap:Nat→Int):ak (fun v=>tnet w spare cap 16 v) 18=ak spare 8:=by
 rw[ZV]
 have e1:ak (fun v=>tnet w spare cap 16 v) 8=ak spare 8:=bz fun v hv=>by
  unfold tnet
  rw[if_pos ⟨rfl,hv⟩]
 have e2:ak (fun i=>tnet w spare cap 16 (8+i)) 8=0:=dX fun i hi=>by
  show tnet w spare cap 16 (8+i)=0
  unfold tnet
  rw[if_neg (by omega),if_neg (by omega),if_neg (by omega)]
 have e3:tnet w spare cap 16 16=0:=by
  unfold tnet
  rw[if_neg (by omega),if_neg (by omega),if_neg (by omega)]
 have e4:tnet w spare cap 16 17=0:=by
  unfold tnet
  rw[if_neg (by omega),if_neg (by omega),if_neg (by omega)]
 rw[e1,e2,e3,e4]
 omega
theorem all_zero{f:Nat→Int}{n:Nat}(h0:∀ k,0≤f k)(h:ak f n=0):∀ k,k<n→f k=0:=fun k hk=>by
 have:=Cq (fun i _=>h0 i) hk
 have:=h0 k
 omega
theorem Sk{w:Nat→Nat→Int}{spare need:Nat→Int}{m:Net}(F:Filled 18 16 17 (tnet w spare need) (ak need 8) m):∀ u,u<18→m u 17=0:=by
 have up:=F.into (by omega) (by omega) (by omega)
 rw[pw,cap_sum] at up
 exact all_zero (f:=fun u=>m u 17) (fun k=>F.ge k 17) (by omega)
theorem second_full{w:Nat→Nat→Int}{spare need more:Nat→Int}{m m2:Net}(F:Filled 18 16 17 (tnet w spare need) (ak need 8) m)(F2:Filled 18 16 17 (anew m more) (ak spare 8-ak need 8) m2):∀ v,v<18→m2 16 v=0:=by
 have w1:=F.worth
 have w2:=F2.worth
 rw[pw] at w1 w2
 have w1:ak (tnet w spare need 16) 18-ak (m 16) 18=ak need 8:=w1
 have w2:ak (anew m more 16) 18-ak (m2 16) 18=ak spare 8-ak need 8:=w2
 have s1:ak (tnet w spare need 16) 18=ak spare 8:=Xw w spare need
 have same:ak (anew m more 16) 18=ak (m 16) 18:=bz fun v _=>by
  unfold anew
  rw[if_neg (by omega)]
 exact all_zero (f:=m2 16) (fun k=>F2.ge 16 k) (by omega)
theorem filled_back{w:Nat→Nat→Int}{spare need more:Nat→Int}{m m2:Net}(F:Filled 18 16 17 (tnet w spare need) (ak need 8) m)(F2:Filled 18 16 17 (anew m more) (ak spare 8-ak need 8) m2) :
  (∀ p q,p<8→q<8→0≤m2 (8+q) p∧m2 (8+q) p≤w p q)∧(∀ p,p<8→ak (fun q=>m2 (8+q) p) 8=spare p)∧∀ q,q<8→need q≤ak (fun p=>m2 (8+q) p) 8∧ak (fun p=>m2 (8+q) p) 8≤need q+more q:=by
 have z1:=Sk F
 have z2:=second_full F F2
 have fl:=F.flow.add F2.flow
 generalize hφ:(fun u v=>(tnet w spare need u v-m u v)+(anew m more u v-m2 u v))=φ at fl
 have φe:∀ u v,¬ (8≤u∧u<16∧v=17)→φ u v=tnet w spare need u v-m2 u v:=fun u v c=>by
  rw[← hφ]
  show(tnet w spare need u v-m u v)+(anew m more u v-m2 u v)=_
  have:anew m more u v=m u v:=if_neg c
  omega
 have none:∀ u v,u<18→v<18→¬ (8≤u∧u<16∧v=17)→¬ (8≤v∧v<16∧u=17)→tnet w spare need u v=0→tnet w spare need v u=0→φ u v=0:=fun u v hu hv c1 c2 t1 t2=>by
  have a:=fl.anti u v hu hv
  rw[φe u v c1,φe v u c2,t1,t2] at a
  rw[φe u v c1,t1]
  have:=F2.ge u v
  have:=F2.ge v u
  omega
 have pq:∀ p q,p<8→q<8→φ p (8+q)=m2 (8+q) p∧m2 (8+q) p=w p q-m2 p (8+q):=fun p q hp hq=>by
  have a:=fl.anti p (8+q) (by omega) (by omega)
  have t1:tnet w spare need p (8+q)=w p q:=by
   unfold tnet
   rw[if_neg (by omega),if_pos ⟨hp,by omega,by omega⟩,show 8+q-8=q by omega]
  have t2:tnet w spare need (8+q) p=0:=by
   unfold tnet
   rw[if_neg (by omega),if_neg (by omega),if_neg (by omega)]
  rw[φe _ _ (by omega),φe _ _ (by omega),t1,t2] at a
  rw[φe _ _ (by omega),t1]
  omega
 refine⟨fun p q hp hq=>?_,fun p hp=>?_,fun q hq=>?_⟩
 ·obtain⟨_,e⟩:=pq p q hp hq
  have:=F2.ge (8+q) p
  have:=F2.ge p (8+q)
  omega
 ·have k:=fl.keep p (by omega) (by omega) (by omega)
  rw[ZV] at k
  have e1:ak (φ p) 8=0:=dX fun v hv=>none p v (by omega) (by omega) (by omega) (by omega) (by unfold tnet; rw[if_neg (by omega),if_neg (by omega),if_neg (by omega)]) (by unfold tnet; rw[if_neg (by omega),if_neg (by omega),if_neg (by omega)])
  have e2:ak (fun i=>φ p (8+i)) 8=ak (fun q=>m2 (8+q) p) 8:=bz fun i hi=>(pq p i hp hi).1
  have e3:φ p 16=- spare p:=by
   have a:=fl.anti p 16 (by omega) (by omega)
   have t:tnet w spare need 16 p=spare p:=if_pos ⟨rfl,hp⟩
   rw[φe 16 p (by omega),t,z2 p (by omega)] at a
   omega
  have e4:φ p 17=0:=none p 17 (by omega) (by omega) (by omega) (by omega) (by unfold tnet; rw[if_neg (by omega),if_neg (by omega),if_neg (by omega)]) (by unfold tnet; rw[if_neg (by omega),if_neg (by omega),if_neg (by omega)])
  rw[e1,e2,e3,e4] at k
  omega
 ·have k:=fl.keep (8+q) (by omega) (by omega) (by omega)
  rw[ZV] at k
  have e1:ak (φ (8+q)) 8=- ak (fun p=>m2 (8+q) p) 8:=by
   rw[← Pv]
   refine bz fun p hp=>?_
   have:=fl.anti (8+q) p (by omega) (by omega)
   rw[this,(pq p q hp hq).1]
  have e2:ak (fun i=>φ (8+q) (8+i)) 8=0:=dX fun i hi=>none (8+q) (8+i) (by omega) (by omega) (by omega) (by omega) (by unfold tnet; rw[if_neg (by omega),if_neg (by omega),if_neg (by omega)]) (by unfold tnet; rw[if_neg (by omega),if_neg (by omega),if_neg (by omega)])
  have e3:φ (8+q) 16=0:=none (8+q) 16 (by omega) (by omega) (by omega) (by omega) (by unfold tnet; rw[if_neg (by omega),if_neg (by omega),if_neg (by omega)]) (by unfold tnet; rw[if_neg (by omega),if_neg (by omega),if_neg (by omega)])
  have t:tnet w spare need (8+q) 17=need q:=by
   unfold tnet
   rw[if_neg (by omega),if_neg (by omega),if_pos ⟨by omega,by omega,rfl⟩,show 8+q-8=q by omega]
  have t':anew m more (8+q) 17=more q:=by
   unfold anew
   rw[if_pos ⟨by omega,by omega,rfl⟩,show 8+q-8=q by omega]
  have e4:φ (8+q) 17=need q+(more q-m2 (8+q) 17):=by
   rw[← hφ]
   show(tnet w spare need (8+q) 17-m (8+q) 17)+(anew m more (8+q) 17-m2 (8+q) 17)=_
   rw[t,t',z1 _ (by omega)]
   omega
  have a2:=F2.flow.anti (8+q) 17 (by omega) (by omega)
  have u:=F2.up (8+q)
  have a2:anew m more (8+q) 17-m2 (8+q) 17=-(anew m more 17 (8+q)-m2 17 (8+q)):=a2
  rw[t'] at a2
  have g:=F2.ge (8+q) 17
  rw[e1,e2,e3,e4] at k
  omega
end Go.Proofs.Ytndkmmelelchcaa.spec
end
section
namespace Go.Proofs.Ytndkmmelelchcaa.spec
open Go Go.Ev Go.Proofs.Ytndkmmelelchcaa.nestFits Go.Proofs.Ytndkmmelelchcaa.G
set_option maxRecDepth 100000
variable {ρ:Type}
theorem search_text{base sb nb fb rb:Nat}(pl:PlS base sb nb fb rb):∀(d l:Nat),RecOk (l+d+1) base sb nb fb rb d
 | 0,_=>fun _ _ _ _ _ _ _ _ _ _ h=>by omega
 | d+1,l=>by
  intro v y seen m H n hv hs hy hy8 hu hm hb st
  have hrec:=search_text pl d l
  have lp:=go_loop (l+d) (node:=v) (y:=y) pl hv ⟨hy,hy8⟩ hrec
  rw[show l+(d+1)+1=l+d+2 by omega]
  unfold NX B123_0
  generalize hC:Zv (cal (l+d+2)) KK KK=J
  rw[aJ lY]
  unfold dQ
  by_cases e:v=17
  ·subst e
   rw[if_pos rfl,show decide (((17:Nat):Int)=17)=true from rfl,fQ]
   exact⟨H,n,rfl,Nat.le_refl _,st,fun _ _ _ _=>rfl⟩
  ·rw[if_neg e,decide_eq_false (show ¬ ((v:Nat):Int)=17 by omega),eV,at179 sb hv,aj,oZ sz4 rfl]
   obtain⟨H1,e1,e2,e3⟩:=st.seen.storeN (o:=v) (vs:=[.bool true]) (by simp; omega) rfl
   rw[e1,aj,← hC]
   obtain⟨o1,o2,o3,o4,o5⟩:=pl.off
   have st1:StS H1 sb nb fb rb (seeN seen v) m:=⟨by
    obtain⟨c,a1,a2,a3⟩:=e2
    refine⟨c,a1,a2,fun k hk=>?_⟩
    rw[a3 k hk,uZ]
    show some (if k=v then Value.bool true else .bool (seen k))=some (.bool (seeN seen v k))
    unfold seeN
    by_cases q:k=v
    ·rw[if_pos q,if_pos q]
    ·rw[if_neg q,if_neg q],(e3 fb (by omega)).trans st.self,(e3 nb (by omega)).trans st.cell,st.net.keep (e3 rb (by omega))⟩
   have us:=MX hv (hs e)
   obtain⟨H',n',f1,f2,f3,f4⟩:=lp KK 0 (seeN seen v) m H1 n (Nat.zero_le _) (by unfold KK; omega) (by unfold seeN; simp) (by omega) hm hb st1
   exact⟨H',n',f1,f2,f3,fun b h1 h2 h3=>by rw[f4 b h1 h2 h3,e3 b h2]⟩
theorem call116(l:Nat)(a:Value)(H:Hp)(n:Nat):(cal (l+1)).call 116 [a] H n=YV (cal l) KK a H n:=by kernel_rfl
theorem call107(l:Nat)(a:Value)(H:Hp)(n:Nat):(cal (l+1)).call 107 [a] H n=Yw (cal l) KK a H n:=by kernel_rfl
theorem MZ(f:FuncId)(rb:Nat):(fX P f && bK [.map (some rb)])=false:=by rw[Bool.and_eq_false_iff]; exact .inr rfl
theorem MK{rec_:Nat→Int→(Nat→Bool)→Net→Went}{N node:Nat}{young:Int}:∀(k:Nat) (seen:Nat→Bool) (n:Net),0≤(xx rec_ N node young k seen n).sent
 | 0,_,_=>Int.le_refl _
 | k+1,seen,n=>by
  unfold xx
  split
  ·exact MK k _ _
  ·split
   ·rename_i h; exact Int.le_of_lt h
   ·exact MK k _ _
theorem search_nonneg{N t:Nat}:∀(d node:Nat) (young:Int) (seen:Nat→Bool) (n:Net),0≤young→0≤(dQ N t d node young seen n).sent
 | 0,_,_,_,_,_=>Int.le_refl _
 | d+1,node,young,seen,n,h=>by
  unfold dQ
  split
  ·exact h
  ·exact MK _ _ _
theorem send_spec(l:Nat){rb:Nat}{m:Net}{H:Hp}{n:Nat}(hm:rk m)(hn:gk H rb m)(hr:rb<n) :
  ∃ H' n',YV (cal (l+21)) KK (.map (some rb)) H n=some (.int .i64 (dQ 18 17 19 16 8000 (fun _=>false) m).sent,H',n')∧n≤n'∧gk H' rb (dQ 18 17 19 16 8000 (fun _=>false) m).net∧∀ b,b<n→b≠rb→H'.get b=H.get b:=by
 unfold YV B116_0
 rw[dv]
 simp only[bv,ptr]
 rw[fK zero179b,fK zero180]
 simp only[bv,ptr]
 have a1:(((H.set n (some (.cells [.map (some rb)] 160 false none))).set (n+1) (some (.cells (List.replicate 18 (.bool false)) 179 false none))).set (n+1+1) (some (.cells [.nilFunc] 180 false none))).get n=some (.cells [.map (some rb)] 160 false none):=by rw[Tr.get_set,if_neg (by omega),Tr.get_set,if_neg (by omega),Tr.get_set,if_pos rfl]
 have a2:(((H.set n (some (.cells [.map (some rb)] 160 false none))).set (n+1) (some (.cells (List.replicate 18 (.bool false)) 179 false none))).set (n+1+1) (some (.cells [.nilFunc] 180 false none))).get (n+1)=some (.cells (List.replicate 18 (.bool false)) 179 false none):=by rw[Tr.get_set,if_neg (by omega),Tr.get_set,if_pos rfl]
 have a3:(((H.set n (some (.cells [.map (some rb)] 160 false none))).set (n+1) (some (.cells (List.replicate 18 (.bool false)) 179 false none))).set (n+1+1) (some (.cells [.nilFunc] 180 false none))).get (n+1+1)=some (.cells [.nilFunc] 180 false none):=by rw[Tr.get_set,if_pos rfl]
 have a4:∀ b,b<n→(((H.set n (some (.cells [.map (some rb)] 160 false none))).set (n+1) (some (.cells (List.replicate 18 (.bool false)) 179 false none))).set (n+1+1) (some (.cells [.nilFunc] 180 false none))).get b=H.get b:=fun b hb=>by rw[Tr.get_set,if_neg (by omega),Tr.get_set,if_neg (by omega),Tr.get_set,if_neg (by omega)]
 generalize ((H.set n (some (.cells [.map (some rb)] 160 false none))).set (n+1) (some (.cells (List.replicate 18 (.bool false)) 179 false none))).set (n+1+1) (some (.cells [.nilFunc] 180 false none))=H1 at a1 a2 a3 a4 ⊢
 have hst:=mw (vs:=[Rv (n+1) n (n+1+1)]) a3 rfl rfl
 rw[oZ sz180 rfl]
 show ∃ H' n',aq (storeN H1 ⟨n+1+1,0,none⟩ [Rv (n+1) n (n+1+1)]) _=_∧_
 rw[hst,aj]
 have b1:(H1.set (n+1+1) (some (.cells [Rv (n+1) n (n+1+1)] 180 false none))).get (n+1+1)=some (.cells [Rv (n+1) n (n+1+1)] 180 false none):=by rw[Tr.get_set,if_pos rfl]
 have b2:∀ b,b≠n+1+1→(H1.set (n+1+1) (some (.cells [Rv (n+1) n (n+1+1)] 180 false none))).get b=H1.get b:=fun b hb=>by rw[Tr.get_set,if_neg hb]
 generalize H1.set (n+1+1) (some (.cells [Rv (n+1) n (n+1+1)] 180 false none))=H2 at b1 b2 ⊢
 have pl:PlS (n+1+1+1) (n+1) n (n+1+1) rb:=⟨⟨by omega,by omega,by omega,by omega⟩,by omega,by omega,by omega,by omega,by omega⟩
 have st:StS H2 (n+1) n (n+1+1) rb (fun _=>false) m:=⟨⟨_,(b2 _ (by omega)).trans a2,rfl,fun k hk=>by rw[List.getElem?_replicate,if_pos hk]⟩,b1,(b2 _ (by omega)).trans a1,hn.keep ((b2 _ (by omega)).trans (a4 _ hr))⟩
 rw[aQ,aj,iy b1 agg180 rfl rfl,aj,show l+21=(l+20)+1 by omega,srch_value (l+20)]
 obtain⟨H',n',c1,c2,c3,c4⟩:=search_text pl 19 l 16 8000 (fun _=>false) m H2 (n+1+1+1) (by omega) (fun _=>rfl) (by omega) (by omega) (DQ 18 _) hm (Nat.le_refl _) st
 rw[show l+19+1=l+20 by omega] at c1
 show ∃ H' n',aq (NX (cal (l+20)) KK (.int .i64 ((16:Nat):Int)) (.int .i64 8000) _ _ _ H2 (n+1+1+1)) _=_∧_
 rw[c1,aj]
 exact⟨H',n',rfl,by omega,c3.net,fun b hb hr=>by rw[c4 b (by omega) (by omega) hr,b2 b (by omega),a4 b hb]⟩
theorem Xx(l:Nat){rb:Nat}:∀(q:Nat) (m:Net) (total:Int) (H:Hp) (n:Nat),rk m→gk H rb m→rb<n→0≤total→ak (fun v=>m 16 v) 18<q→total+ak (fun v=>m 16 v) 18≤18000000 →
  ∃ H' n',SX (cal (l+22)) KK q (.map (some rb)) (.int .i64 total) H n=some (.int .i64 (total+(Bz 18 17 16 8000 q m).1),H',n')∧n≤n'∧gk H' rb (Bz 18 17 16 8000 q m).2∧∀ b,b<n→b≠rb→H'.get b=H.get b
 | 0,m,total,H,n,hm,hn,hr,ht,hq,hb=>by
  exfalso
  have:ak (fun _=>0) 18≤ak (fun v=>m 16 v) 18:=iJ fun v _=>(hm 16 v).1
  rw[jW] at this
  omega
 | q+1,m,total,H,n,hm,hn,hr,ht,hq,hb=>by
  have ih:=Xx l (rb:=rb) q
  show ∃ H' n',Yv (cal (l+22)) KK (q+1) (SX (cal (l+22)) KK q) (.map (some rb)) (.int .i64 total) H n=_∧_
  generalize SX (cal (l+22)) KK q=J at ih ⊢
  unfold Yv B107_1
  obtain⟨H1,n1,e1,e2,e3,e4⟩:=send_spec l hm hn hr
  have call:∀ k:Value→Hp→Nat→Res,aY P (cal (l+22)) 116 [.map (some rb)] H n k=k (.int .i64 (dQ 18 17 19 16 8000 (fun _=>false) m).sent) H1 n1:=fun k=>by
   unfold aY
   rw[MZ,show l+22=(l+21)+1 by omega,call116,e1]
   rfl
  have shut:(dQ 18 17 19 16 8000 (fun _=>false) m).sent≤0→_:=fun h=>By (N:=18) (t:=17) (DQ 18 _) (by omega) (fun _=>rfl) (by omega) (fun u v=>(hm u v).1) h
  have sends:0<(dQ 18 17 19 16 8000 (fun _=>false) m).sent→_:=fun h=>Cj (N:=18) (t:=17) (DQ 18 _) (by omega) (fun _=>rfl) (by omega) (fun u v=>(hm u v).1) h
  rw[call,aJ lY]
  unfold Bz
  rw[show(18:Nat)+1=19 from rfl]
  have nn:0≤(dQ 18 17 19 16 8000 (fun _=>false) m).sent:=search_nonneg 19 16 8000 _ m (by omega)
  generalize dQ 18 17 19 16 8000 (fun _=>false) m=w at e3 shut sends nn ⊢
  by_cases hs:w.sent≤0
  ·have Z:=shut hs
   rw[if_pos hs,show w.sent=0 by omega,show decide ((0:Int)=0)=true from rfl,fQ]
   rw[Z.net] at e3
   refine⟨H1,n1,?_,e2,e3,e4⟩
   rw[Int.add_zero]
  ·have S:=sends (by omega)
   have e16:=S.keep 16 (by omega)
   rw[if_pos rfl,if_neg (by omega),pw] at e16
   have z16:ak (fun _=>0) 18≤ak (fun v=>m 16 v) 18:=iJ fun v _=>(hm 16 v).1
   rw[jW] at z16
   have hI:I64 (total+w.sent):=by
    have:=S.le
    have:=S.pos
    unfold I64
    omega
   have sm:rk w.net:=fun u v=>⟨S.ge u v,fun hu hv=>by have:=S.anti u v; have:=(hm u v).2 hu hv; omega⟩
   rw[if_neg hs,decide_eq_false (by omega),eV,aJ (bW hI)]
   have e16':ak (fun v=>m 16 v) 18-ak (fun v=>w.net 16 v) 18=w.sent-0:=e16
   obtain⟨H2,n2,f1,f2,f3,f4⟩:=ih w.net (total+w.sent) H1 n1 sm e3 (by omega) (by have:=S.pos; omega) (by have:=S.pos; omega) (by omega)
   refine⟨H2,n2,?_,by omega,f3,fun b h1 h2=>by rw[f4 b (by omega) h2,e4 b h1 h2]⟩
   rw[f1]
   congr 3
   show total+w.sent+(Bz 18 17 16 8000 q w.net).1=total+(w.sent+(Bz 18 17 16 8000 q w.net).1)
   omega
theorem fill_call(l:Nat){rb:Nat}{m:Net}{H:Hp}{n:Nat}(hm:rk m)(hn:gk H rb m)(hr:rb<n)(hs:ak (fun v=>m 16 v) 18≤8000) :
  ∃(x:Int) (m':Net) (H':Hp) (n':Nat),(∀ k:Value→Hp→Nat→Option ρ,aY P (cal (l+23)) 107 [.map (some rb)] H n k=k (.int .i64 x) H' n')∧Filled 18 16 17 m x m'∧rk m'∧n≤n'∧gk H' rb m'∧∀ b,b<n→b≠rb→H'.get b=H.get b:=by
 obtain⟨H',n',e1,e2,e3,e4⟩:=Xx l KK m 0 H n hm hn hr (Int.le_refl _) (by unfold KK; omega) (by omega)
 have F:=Xq (N:=18) (s:=16) (t:=17) (y:=8000) (by omega) (by omega) (by omega) (k:=KK) (fun u v=>(hm u v).1) (show ak (fun v=>m 16 v) 18<((KK:Nat):Int) by unfold KK; omega)
 refine⟨_,_,H',n',fun k=>?_,F,fun u v=>?_,e2,e3,e4⟩
 ·unfold aY
  rw[MZ,call107]
  unfold Yw B107_0
  rw[e1]
  show aq (some _) _=_
  rw[aj,Int.zero_add]
 ·refine⟨F.ge u v,fun hu hv=>?_⟩
  have a:=F.flow.anti u v hu hv
  have a:m u v-(Bz 18 17 16 8000 KK m).2 u v=-(m v u-(Bz 18 17 16 8000 KK m).2 v u):=a
  have:=(hm u v).2 hu hv
  omega
end Go.Proofs.Ytndkmmelelchcaa.spec
end
section
namespace Go.Proofs.Ytndkmmelelchcaa.spec
open Go Go.Ev Go.Proofs.Ytndkmmelelchcaa.nestFits Go.Proofs.Ytndkmmelelchcaa.G
set_option maxRecDepth 100000
end Go.Proofs.Ytndkmmelelchcaa.spec
end
section
namespace Go.Proofs.Ytndkmmelelchcaa.spec
open Go Go.Ev Go.Proofs.Ytndkmmelelchcaa.nestFits Go.Proofs.Ytndkmmelelchcaa.G
set_option maxRecDepth 100000
variable {ρ:Type}
theorem share_two{y:Int}{S B:List Int}(hS:S.length=16)(hB:B.length=16){i:Nat}(hi:i<8):((ints (bJ y S B)).drop (1+i * 2)).take 2=[.int .i64 (S.getD (i * 2) 0),.int .i64 (S.getD (i * 2+1) 0)]:=by
 have g:∀ k,k<16→(bJ y S B).getD (1+k) 0=S.getD k 0:=fun k hk=>by
  unfold bJ
  rw[List.getD_eq_getElem?_getD,List.getD_eq_getElem?_getD,Nat.add_comm 1 k,List.getElem?_cons_succ,List.getElem?_append_left (by omega)]
 rw[Mq (by rw[eK hS hB]; omega),g _ (by omega),Nat.add_assoc 1,g _ (by omega)]
def byP(y:Int)(S xs:List Int)(m np:Nat):Prop:=m=np∧(∀ o,o<np→S.getD (o * 2) 0≤xs.getD o 0∧xs.getD o 0≤S.getD (o * 2+1) 0)∧ak (fun o=>xs.getD o 0) np=y
theorem spreadBy_loop(l k:Nat){y:Int}{S B xs:List Int}{np b:Nat}{w:Value}{H:Hp}{n:Nat}(hS:S.length=16)(hB:B.length=16)(hb:fZ S)(hy:0≤y∧y≤1000)(hnp:np≤8)(hw:ListR H n w np xs)(hg:H.get b=some (.cells (ints (bJ y S B)) 111 false none)):∀(m i:Nat),i≤np→np-i≤m →
  (∀ o,o<i→S.getD (o * 2) 0≤xs.getD o 0∧xs.getD o 0≤S.getD (o * 2+1) 0) →
  ∃ r:Bool,S109_1 (cal (l+1)) k m (.pointer (some ⟨b,0,none⟩)) (.int .i64 (y-ak (fun o=>xs.getD o 0) i)) w (.int .i64 np) (.int .i64 i) H n=some (.bool r,H,n)∧(r=true↔byP y S xs np np):=by
 have lens:(ints (bJ y S B)).length=33:=by rw[bj,eK hS hB]
 have body:∀(b1:Value→Value→Value→Value→Value→Hp→Nat→Res) (m i:Nat),i≤np→(∀ o,o<i→S.getD (o * 2) 0≤xs.getD o 0∧xs.getD o 0≤S.getD (o * 2+1) 0) →
   (i<np→(∀ o,o<i+1→S.getD (o * 2) 0≤xs.getD o 0∧xs.getD o 0≤S.getD (o * 2+1) 0)→∃ r:Bool,b1 (.pointer (some ⟨b,0,none⟩)) (.int .i64 (y-ak (fun o=>xs.getD o 0) (i+1))) w (.int .i64 np) (.int .i64 ((i+1:Nat):Int)) H n=some (.bool r,H,n)∧(r=true↔byP y S xs np np)) →
   ∃ r:Bool,Yy (cal (l+1)) k m b1 (.pointer (some ⟨b,0,none⟩)) (.int .i64 (y-ak (fun o=>xs.getD o 0) i)) w (.int .i64 np) (.int .i64 i) H n=some (.bool r,H,n)∧(r=true↔byP y S xs np np):=by
  intro b1 m i hi hin ih
  unfold Yy B109_1
  rw[aJ dq,jx]
  by_cases hlt:i<np
  ·obtain⟨c,o,a1,_,a3⟩:=hw.at_ hlt
   have hI1:I64 ((i:Int)+1):=by unfold I64; omega
   have hcast:((i:Int)+1)=((i+1:Nat):Int):=by omega
   have hld:az P H 53 ⟨b,0+1+i * 2,none⟩=some (.agg ⟨[.int .i64 (S.getD (i * 2) 0),.int .i64 (S.getD (i * 2+1) 0)]⟩):=by
    have:=bY (P:=P) (k:=1+i * 2) (cY hg) TK sz53 (by rw[lens]; omega) (dk _)
    rw[share_two hS hB (by omega),← Nat.add_assoc] at this
    exact this
   rw[if_pos (by omega),a1,aj,aQ,aj,a3,aj,Uq,aj,Rj b (0+1) (show i<8 by omega),aj,aQ,aj,hld,aj,in_range_call l]
   by_cases hr:S.getD (i * 2) 0≤xs.getD i 0∧xs.getD i 0≤S.getD (i * 2+1) 0
   ·have hall:∀ o,o<i+1→S.getD (o * 2) 0≤xs.getD o 0∧xs.getD o 0≤S.getD (o * 2+1) 0:=fun o ho=>by
     by_cases e:o=i
     ·rw[e]; exact hr
     ·exact hin o (by omega)
    have b1':=hb (i * 2)
    have b2':=hb (i * 2+1)
    have hsum:∀ j,j≤i→0≤ak (fun o=>xs.getD o 0) j∧ak (fun o=>xs.getD o 0) j≤j * 1000:=by
     intro j
     induction j with
     | zero=>intro _; simp [ak]
     | succ j ihj=>
      intro hj
      have:=ihj (by omega)
      have h1:=hin j (by omega)
      have h2:=hb (j * 2)
      have h3:=hb (j * 2+1)
      simp only[ak]
      omega
    have hs:=hsum i (Nat.le_refl _)
    have hI2:I64 (y-ak (fun o=>xs.getD o 0) i-xs.getD i 0):=by unfold I64; omega
    have e:y-ak (fun o=>xs.getD o 0) i-xs.getD i 0=y-ak (fun o=>xs.getD o 0) (i+1):=by simp only[ak]; omega
    rw[decide_eq_true hr,rX,aj,eV,aJ (vy hI2),aJ (bW hI1),hcast,e]
    exact ih hlt hall
   ·rw[decide_eq_false hr,uY,aj,fQ]
    exact⟨false,rfl,⟨fun h=>(by cases h),fun h=>absurd (h.2.1 i hlt) hr⟩⟩
  ·have:i=np:=by omega
   subst this
   rw[if_neg (by omega),aJ lY]
   refine⟨_,rfl,?_⟩
   rw[decide_eq_true_iff]
   exact⟨fun h=>⟨rfl,hin,by omega⟩,fun h=>by have:=h.2.2; omega⟩
 intro m
 induction m with
 | zero=>intro i h1 h2 h3; exact body _ 0 i h1 h3 (fun h=>by omega)
 | succ m ih=>intro i h1 h2 h3; exact body _ (m+1) i h1 h3 (fun h h'=>ih (i+1) (by omega) (by omega) h')
theorem spreadBy_spec(l:Nat){y:Int}{S B xs:List Int}{np m:Nat}{w:Value}{H:Hp}{n:Nat}(hS:S.length=16)(hB:B.length=16)(hb:fZ S)(hy:0≤y∧y≤1000)(hnp:np≤8)(hw:ListR H n w m xs) :
  ∃ r:Bool,Ret (Yz (cal (l+1)) KK (.agg ⟨ints (bJ y S B)⟩) w (.int .i64 np) H n) n H (.bool r)∧(r=true↔byP y S xs m np):=by
 have lens:(ints (bJ y S B)).length=33:=by rw[bj,eK hS hB]
 unfold Yz B109_0
 rw[dv]
 simp only[bv,ptr]
 have hk:Keep n H (H.set n (some (.cells (ints (bJ y S B)) 111 false none))):=(Keep.refl n H).set (Nat.le_refl _) _
 have hg:(H.set n (some (.cells (ints (bJ y S B)) 111 false none))).get n=some (.cells (ints (bJ y S B)) 111 false none):=by rw[Tr.get_set,if_pos rfl]
 generalize H.set n (some (.cells (ints (bJ y S B)) 111 false none))=H1 at hk hg ⊢
 rw[hw.len_eq,aj,aJ ix]
 by_cases hm:m=np
 ·subst hm
  have ly:az P H1 3 ⟨n,0+0,none⟩=some (.int .i64 y):=bq (o:=0) (k:=0) (cY hg) agg3 rfl
  have hw1:=hw.keep hk (show n≤n+1 by omega)
  obtain⟨r,r1,r2⟩:=spreadBy_loop l KK hS hB hb hy hnp hw1 hg KK 0 (Nat.zero_le _) (by unfold KK; omega) (fun o h=>by omega)
  have e0:y-ak (fun o=>xs.getD o 0) 0=y:=by simp [ak]
  rw[e0] at r1
  have dm:decide ((m:Int)=(m:Int))=true:=decide_eq_true rfl
  rw[dm,Bool.not_true,eV,qcj,aj,aQ,aj,ly,aj,aj]
  exact⟨r,⟨H1,n+1,r1,by omega,hk⟩,r2⟩
 ·rw[decide_eq_false (by omega),Bool.not_false,fQ]
  exact⟨false,⟨H1,n+1,rfl,by omega,hk⟩,⟨fun h=>(by cases h),fun h=>absurd h.1 hm⟩⟩
theorem call109(l:Nat)(a b c:Value)(H:Hp)(n:Nat):(cal (l+1)).call 109 [a,b,c] H n=Yz (cal l) KK a b c H n:=by kernel_rfl
theorem spreadBy_call(l:Nat){y:Int}{S B xs:List Int}{np m:Nat}{w:Value}{H:Hp}{n:Nat}(hS:S.length=16)(hB:B.length=16)(hb:fZ S)(hy:0≤y∧y≤1000)(hnp:np≤8)(hw:ListR H n w m xs) :
  ∃(r:Bool) (H':Hp) (n':Nat),(r=true↔byP y S xs m np)∧(∀ k:Value→Hp→Nat→Option ρ,aY P (cal (l+2)) 109 [.agg ⟨ints (bJ y S B)⟩,w,.int .i64 np] H n k=k (.bool r) H' n')∧n≤n'∧Keep n H H':=by
 obtain⟨r,H',n',⟨b,rfl,hb'⟩,e1,e2,e3⟩:=fx (ρ:=ρ) (P:=P) (cal:=cal (l+2)) (f:=109) (args:=[.agg ⟨ints (bJ y S B)⟩,w,.int .i64 np]) (H:=H) (n:=n)
  (Pre:=fun H n=>ListR H n w m xs) (Q:=fun r=>∃ b:Bool,r=.bool b∧(b=true↔byP y S xs m np))
  (fun H n hw=>by
   obtain⟨r,e,h⟩:=spreadBy_spec l hS hB hb hy hnp hw
   exact⟨.bool r,by rw[call109]; exact e,r,rfl,h⟩) (fun r ⟨b,e,_⟩ _=>by subst e; rfl) hw (fun hp=>by
    simp only[bK,Bool.and_eq_true] at hp
    exact hw.nil hp.2.1)
 exact⟨b,H',n',hb',e1,e2,e3⟩
theorem und120:P.underlying 118=some (.array 8 3):=by kernel_rfl
theorem zero120:iV P 118=some (.agg ⟨ints (List.replicate 8 0)⟩):=by kernel_rfl
theorem at120(b:Nat){i:Nat}(hi:i<8):aV P 118 (.pointer (some ⟨b,0,none⟩)) (.int .i64 i)=some (.pointer (some ⟨b,0+i * 1,none⟩)):=by
 unfold aV
 have:qw (.int .i64 (i:Int)) 8=some i:=by
  show qw (.int .i64 (.ofNat i)) 8=some i
  simp [qw,hi]
 simp only[und120,this,sz3]
 rfl
def eQ(H:Hp)(n:Nat)(v:Value)(len:Nat)(rw_:Nat→Value)(R:Nat→List Int):Prop:=((v=.slice none 0 0∧len=0)∨∃ b o cap,v=.slice (some ⟨b,o,none⟩) len cap∧b<n∧aZ H b o ((List.range len).map rw_))∧∀ p,p<len→ListR H n (rw_ p) (R p).length (R p)
theorem eQ.keep{H H':Hp}{n m len:Nat}{v:Value}{rw_:Nat→Value}{R:Nat→List Int}(h:eQ H n v len rw_ R)(hk:Keep n H H')(hm:n≤m):eQ H' m v len rw_ R:=by
 obtain⟨h1,h2⟩:=h
 refine⟨?_,fun p hp=>(h2 p hp).keep hk hm⟩
 rcases h1 with h | ⟨b,o,cap,e,a,c⟩
 ·exact .inl h
 ·exact .inr ⟨b,o,cap,e,by omega,c.keep hk a⟩
theorem eQ.len_eq{H:Hp}{n len:Nat}{v:Value}{rw_:Nat→Value}{R:Nat→List Int}(h:eQ H n v len rw_ R):lenV P 59 v=some (.int .i64 len):=by
 rcases h.1 with⟨rfl,rfl⟩ | ⟨b,o,cap,rfl,_⟩
 ·unfold lenV; simp only[und59]; rfl
 ·unfold lenV; simp only[und59]; rfl
theorem ListR.holes{H:Hp}{n len:Nat}{v:Value}{xs:List Int}(h:ListR H n v len xs):lQ v=true∧vq v=true:=by
 rcases h.2.2 with⟨rfl,_⟩ | ⟨b,o,cap,rfl,_⟩ <;> exact⟨rfl,rfl⟩
theorem eQ.at_{H:Hp}{n len:Nat}{v:Value}{rw_:Nat→Value}{R:Nat→List Int}(h:eQ H n v len rw_ R){p:Nat}(hp:p<len) :
  ∃ b o,aV P 59 v (.int .i64 p)=some (.pointer (some ⟨b,o,none⟩))∧b<n∧az P H 44 ⟨b,o,none⟩=some (rw_ p):=by
 have hl:=h.2 p hp
 rcases h.1 with⟨rfl,rfl⟩ | ⟨b,o,cap,rfl,a,c⟩
 ·omega
 ·refine⟨b,o+p,?_,a,?_⟩
  ·unfold aV
   simp only[und59,Jk hp,sz44]
   simp [addA]
  ·exact bw c agg44 (by rw[List.getElem?_map,List.getElem?_range hp]; rfl) hl.holes.1 hl.holes.2
theorem eQ.of_cells{H:Hp}{n bs len cap:Nat}{rw_:Nat→Value}{R:Nat→List Int}(hb:bs<n)(hc:cj H bs len 44 rw_)(hr:∀ p,p<len→ListR H n (rw_ p) (R p).length (R p)):eQ H n (.slice (some ⟨bs,0,none⟩) len cap) len rw_ R:=
 ⟨.inr ⟨bs,0,cap,rfl,hb,hc.at_⟩,hr⟩
theorem eQ.nil{H:Hp}{n len:Nat}{v:Value}{rw_:Nat→Value}{R:Nat→List Int}(h:eQ H n v len rw_ R)(hp:bx v=true):len=0:=by
 rcases h.1 with⟨_,rfl⟩ | ⟨b,o,cap,rfl,_⟩
 ·rfl
 ·simp [bx] at hp
theorem young_loop(c:Cal)(k:Nat){np pad:Nat}{H:Hp}{n:Nat}{v:Value}{rw_:Nat→Value}{R:Nat→List Int}(hv:eQ H n v np rw_ R)(hnp:np≤1000)(hR:∀ p,p<np→(R p).length=0∨(pad<(R p).length∧0≤(R p).getD pad 0∧(R p).getD pad 0≤1000000)):∀(m i:Nat),i≤np→np-i≤m →
  S34_1 c k m v (.int .i64 pad) (.int .i64 (ak (fun p=>(R p).getD pad 0) i)) (.int .i64 i) H n=some (.int .i64 (ak (fun p=>(R p).getD pad 0) np),H,n):=by
 have small:∀ i,i≤np→0≤ak (fun p=>(R p).getD pad 0) i∧ak (fun p=>(R p).getD pad 0) i≤1000000 * i:=fun i hi=>EZ (c:=1000000) fun p hp=>by
  rcases hR p (by omega) with h | h
  ·have:R p=[]:=List.length_eq_zero_iff.1 h
   rw[this]
   simp
  ·exact h.2
 have body:∀(b1:Value→Value→Value→Value→Hp→Nat→Res) (m i:Nat),i≤np→(i<np→b1 v (.int .i64 pad) (.int .i64 (ak (fun p=>(R p).getD pad 0) (i+1))) (.int .i64 ((i+1:Nat):Int)) H n=some (.int .i64 (ak (fun p=>(R p).getD pad 0) np),H,n)) →
   C34_1 c k m b1 v (.int .i64 pad) (.int .i64 (ak (fun p=>(R p).getD pad 0) i)) (.int .i64 i) H n=some (.int .i64 (ak (fun p=>(R p).getD pad 0) np),H,n):=by
  intro b1 m i hi ih
  unfold C34_1 B34_1
  rw[hv.len_eq,aj,aJ dq,jx]
  by_cases hlt:i<np
  ·have hI:I64 ((i:Int)+1):=by unfold I64; omega
   have hcast:((i:Int)+1)=((i+1:Nat):Int):=by omega
   obtain⟨sb,so,s1,_,s3⟩:=hv.at_ hlt
   have hrow:=hv.2 i hlt
   have hs:=small i hi
   have hs1:=small (i+1) (by omega)
   have hn:ak (fun p=>(R p).getD pad 0) (i+1)=ak (fun p=>(R p).getD pad 0) i+(R i).getD pad 0:=rfl
   rw[if_pos (by omega),s1,aj,aQ,aj,s3,aj,hrow.len_eq,aj,aJ vx,jx]
   rcases hR i hlt with h | ⟨h,h2,h3⟩
   ·have hnil:R i=[]:=List.length_eq_zero_iff.1 h
    rw[if_neg (by omega)]
    unfold C34_2 B34_2
    rw[aJ (bW hI),hcast]
    have:=ih hlt
    rw[hn,show(R i).getD pad 0=0 by rw[hnil]; simp,Int.add_zero] at this
    exact this
   ·obtain⟨tb,to_,t1,_,t3⟩:=hrow.at_ h
    rw[if_pos (by omega),aj,aQ,aj,s3,aj,t1,aj,aQ,aj,t3,aj,aJ (bW (by unfold I64; omega))]
    unfold C34_2 B34_2
    rw[aJ (bW hI),hcast]
    have:=ih hlt
    rw[hn] at this
    exact this
  ·have:i=np:=by omega
   subst this
   rw[if_neg (by omega)]
 intro m
 induction m with
 | zero=>intro i h1 h2; exact body _ 0 i h1 (fun h=>by omega)
 | succ m ih=>intro i h1 h2; exact body _ (m+1) i h1 (fun h=>ih (i+1) (by omega) (by omega))
theorem call34(l:Nat)(a b:Value)(H:Hp)(n:Nat):(cal (l+1)).call 34 [a,b] H n=C34_0 (cal l) KK a b H n:=by kernel_rfl
theorem young_call(l:Nat){np pad:Nat}{H:Hp}{n:Nat}{v:Value}{rw_:Nat→Value}{R:Nat→List Int}(hv:eQ H n v np rw_ R)(hnp:np≤1000)(hR:∀ p,p<np→(R p).length=0∨(pad<(R p).length∧0≤(R p).getD pad 0∧(R p).getD pad 0≤1000000)) :
  ∃ H' n',(∀ k:Value→Hp→Nat→Option ρ,aY P (cal (l+1)) 34 [v,.int .i64 pad] H n k=k (.int .i64 (ak (fun p=>(R p).getD pad 0) np)) H' n')∧n≤n'∧Keep n H H':=by
 obtain⟨r,H',n',rfl,e1,e2,e3⟩:=fx (ρ:=ρ) (P:=P) (cal:=cal (l+1)) (f:=34) (args:=[v,.int .i64 pad]) (H:=H) (n:=n)
  (Pre:=fun H n=>eQ H n v np rw_ R) (Q:=fun r=>r=.int .i64 (ak (fun p=>(R p).getD pad 0) np))
  (fun H n hv=>⟨_,⟨H,n,by
   rw[call34]
   unfold C34_0 B34_0
   exact young_loop (cal l) KK hv hnp hR KK 0 (by omega) (by unfold KK; omega),Nat.le_refl _,Keep.refl _ _⟩,rfl⟩) (fun r e _=>by subst e; rfl) hv (fun hp=>by
    simp only[bK,Bool.and_eq_true] at hp
    have h0:=hv.nil hp.1
    subst h0
    refine⟨?_,fun p h=>absurd h (by omega)⟩
    rcases hv.1 with⟨e,_⟩ | ⟨b,o,cap,e,_⟩
    ·exact .inl ⟨e,rfl⟩
    ·rw[e] at hp; simp [bx] at hp)
 exact⟨H',n',e1,e2,e3⟩
def yJ(js ks L:List Int)(nj np:Nat)(R:Nat→List Int)(p:Nat):Prop:=if L.getD p 0=-1 then(R p).length=0 else byP (ks.getD ((L.getD p 0).toNat * 5) 0) (shP js ks nj np p (L.getD p 0).toNat) (R p) (R p).length np
theorem spreads_loop(l k:Nat){g b np nj nk:Nat}{f:Nat→Value}{x y z v:Value}{ps js ks L:List Int}{rw_:Nat→Value}{R:Nat→List Int}(hs:SiteF f x y z js nj)(hn:∀ p kd,p<np→kd<nk→sW f js ks nj np p kd)(hks:pj ks nk)(hnp:np≤8)(hnk:nk≤3)(hL:L.length=8)(hK:rZ L np nk) :
  ∀(m i:Nat) (H:Hp) (n:Nat),g<n→b<n→cj H g 859 115 f→dV H n 2 x np ps→H.get b=some (.cells (ints L) 119 false none)→eQ H n v np rw_ R→i≤np→np-i≤m →
  ∃ r:Bool,Ret (S79_1 (cal (l+2)) k m (.pointer (some ⟨g,0,none⟩)) v (.slice (some ⟨b,0,none⟩) np 8) (.int .i64 np) (.int .i64 i) H n) n H (.bool r)∧(r=true↔∀ p,i≤p→p<np→yJ js ks L nj np R p):=by
 have body:∀(b1:Value→Value→Value→Value→Value→Hp→Nat→Res) (m i:Nat) (H:Hp) (n:Nat),g<n→b<n→cj H g 859 115 f→dV H n 2 x np ps→H.get b=some (.cells (ints L) 119 false none)→eQ H n v np rw_ R→i≤np →
   (∀ H' n',n≤n'→Keep n H H'→i<np→∃ r:Bool,Ret (b1 (.pointer (some ⟨g,0,none⟩)) v (.slice (some ⟨b,0,none⟩) np 8) (.int .i64 np) (.int .i64 ((i+1:Nat):Int)) H' n') n' H' (.bool r)∧(r=true↔∀ p,i+1≤p→p<np→yJ js ks L nj np R p)) →
   ∃ r:Bool,Ret (C79_1 (cal (l+2)) k m b1 (.pointer (some ⟨g,0,none⟩)) v (.slice (some ⟨b,0,none⟩) np 8) (.int .i64 np) (.int .i64 i) H n) n H (.bool r)∧(r=true↔∀ p,i≤p→p<np→yJ js ks L nj np R p):=by
  intro b1 m i H n hgn hbn hf hx hb hv hi ih
  unfold C79_1 B79_1
  rw[aJ dq,jx]
  by_cases hlt:i<np
  ·have hI:I64 ((i:Int)+1):=by unfold I64; omega
   have hcast:((i:Int)+1)=((i+1:Nat):Int):=by omega
   have hLi:az P H 3 ⟨b,0+i * 1,none⟩=some (.int .i64 (L.getD i 0)):=by
    have:=bq (o:=0) (k:=i) (P:=P) (cY hb) agg3 (gX (getD_some (by omega)))
    rw[show 0+i * 1=0+i by omega]
    exact this
   obtain⟨c,o,a1,_,a3⟩:=hv.at_ hlt
   have hrow:=hv.2 i hlt
   have split:∀(r:Bool),(r=true↔∀ p,i+1≤p→p<np→yJ js ks L nj np R p)→yJ js ks L nj np R i→(r=true↔∀ p,i≤p→p<np→yJ js ks L nj np R p):=fun r h h0=>h.trans ⟨fun q p q1 q2=>by
    rcases Nat.eq_or_lt_of_le q1 with e | e
    ·subst e; exact h0
    ·exact q p e q2,fun q p q1 q2=>q p (by omega) q2⟩
   rw[if_pos (by omega),at44L b np 8 hlt,aj,aQ,aj,hLi,aj,aJ lY]
   rcases hK i (by omega) with h | ⟨hip,kd,hkd,h⟩
   ·have d1:decide ((-1:Int)=-1)=true:=rfl
    rw[h,d1]
    have el:lenV P 44 (rw_ i)=some (.int .i64 ((R i).length:Nat)):=hrow.len_eq
    simp only[eW,a1,aj,aQ,a3,el,aJ vx,dY]
    cases hz:decide ((0:Int)<((R i).length:Nat)) with
    | true=>
     have:=of_decide_eq_true hz
     rw[fQ]
     refine⟨false,⟨H,n,rfl,Nat.le_refl _,Keep.refl _ _⟩,⟨fun h=>(by cases h),fun q=>?_⟩⟩
     have:=q i (Nat.le_refl _) hlt
     unfold yJ at this
     rw[if_pos h] at this
     omega
    | false=>
     have:=of_decide_eq_false hz
     rw[eV,aJ ix,d1]
     simp only[Bool.not_true,WZ,ew,aj,eV,aJ (bW hI),hcast]
     obtain⟨r,r1,r2⟩:=ih H n (Nat.le_refl _) (Keep.refl _ _) hlt
     exact⟨r,r1,split r r2 (by unfold yJ; rw[if_pos h]; omega)⟩
   ·have hne:¬ L.getD i 0=-1:=by omega
    have d1:decide (L.getD i 0=-1)=false:=decide_eq_false hne
    obtain⟨B,hB,hld⟩:=OK hf (hn i kd hip hkd) (by omega) (by omega)
    have lx:az P H 31 ⟨g,0+0+0,none⟩=some x:=by
     have:=hf.load (P:=P) (k:=0) Bq (by omega)
     rw[hs.x] at this; exact this
    have hlx:lenV P 31 x=some (.int .i64 np):=hx.len_eq Bv
    obtain⟨y1,_,_⟩:=hks kd hkd
    have hsb:=sX (js:=js) (nj:=nj) hks hkd hnp hip
    obtain⟨r,H1,n1,r0,r1,r2,r3⟩:=spreadBy_call (ρ:=Value × Hp × Nat) l (JV ..) hB.1 hsb y1 hnp hrow
    rw[d1]
    simp only[fV,aj,ew,eV]
    rw[aJ ix,d1,Bool.not_false,h]
    simp only[WY,lk,aj,qck,at115 _ _ (show i<8 by omega),at114 _ _ (show kd<3 by omega),aQ,hld,a1,a3,oK,qJ,lx,hlx,r1]
    have hpad:r=true↔yJ js ks L nj np R i:=by
     unfold yJ
     rw[if_neg hne,h,Int.toNat_natCast]
     exact r0
    cases r with
    | false=>
     simp only[uY,aj,dY,fQ]
     exact⟨false,⟨H1,n1,rfl,r2,r3⟩,⟨fun h=>(by cases h),fun q=>absurd (hpad.2 (q i (Nat.le_refl _) hlt)) (by simp)⟩⟩
    | true=>
     simp only[rX,aj,dY,eV,aJ (bW hI),hcast]
     obtain⟨s,⟨H2,n2,s1,s2,s3⟩,s4⟩:=ih H1 n1 r2 r3 hlt
     exact⟨s,⟨H2,n2,s1,by omega,r3.trans s3 r2⟩,split s s4 (hpad.1 rfl)⟩
  ·rw[if_neg (by omega)]
   exact⟨true,⟨H,n,rfl,Nat.le_refl _,Keep.refl _ _⟩,⟨fun _ p h1 h2=>by omega,fun _=>rfl⟩⟩
 intro m
 induction m with
 | zero=>intro i H n h1 h2 h3 h4 h5 h6 h7 h8; exact body _ 0 i H n h1 h2 h3 h4 h5 h6 h7 (fun _ _ _ _ h=>by omega)
 | succ m ih=>intro i H n h1 h2 h3 h4 h5 h6 h7 h8; exact body _ (m+1) i H n h1 h2 h3 h4 h5 h6 h7 (fun H' n' q1 q2 _=>ih (i+1) H' n' (by omega) (by omega) (h3.keep q2 h1) ((h4.keep q2 (Nat.le_refl _)).up q1) ((q2 b h2).trans h5) (h6.keep q2 q1) (by omega) (by omega))
theorem spreads_spec(l:Nat){g np nj nk nv:Nat}{f:Nat→Value}{x y z v:Value}{ps js ks L:List Int}{rw_:Nat→Value}{R:Nat→List Int}{H:Hp}{n:Nat}(hg:g<n)(hf:cj H g 859 115 f)(hs:SiteF f x y z js nj)(hn:∀ p kd,p<np→kd<nk→sW f js ks nj np p kd)(hks:pj ks nk)(hx:dV H n 2 x np ps)(hnp:np≤8)(hnk:nk≤3)(hL:L.length=8)(hK:rZ L np nk)(hv:eQ H n v nv rw_ R) :
  ∃ r:Bool,Ret (C79_0 (cal (l+2)) KK (.pointer (some ⟨g,0,none⟩)) (.agg ⟨ints L⟩) v H n) n H (.bool r)∧(r=true↔nv=np∧∀ p,p<np→yJ js ks L nj np R p):=by
 have lens:(ints L).length=8:=by rw[bj,hL]
 unfold C79_0 B79_0
 generalize hS:S79_1 (cal (l+2)) KK KK=S
 rw[dv]
 simp only[bv,ptr]
 have hk:Keep n H (H.set n (some (.cells (ints L) 119 false none))):=(Keep.refl n H).set (Nat.le_refl _) _
 have hb:(H.set n (some (.cells (ints L) 119 false none))).get n=some (.cells (ints L) 119 false none):=by rw[Tr.get_set,if_pos rfl]
 generalize H.set n (some (.cells (ints L) 119 false none))=H1 at hk hb ⊢
 have f1:=hf.keep hk hg
 have lx:az P H1 31 ⟨g,0+0+0,none⟩=some x:=by
  have:=f1.load (P:=P) (k:=0) Bq (by omega)
  rw[hs.x] at this; exact this
 have hlx:lenV P 31 x=some (.int .i64 np):=hx.len_eq Bv
 have hls:lenV P 44 (.slice (some ⟨n,0,none⟩) np 8)=some (.int .i64 np):=by unfold lenV; simp only[und44]; rfl
 rw[hv.len_eq,aj,lk,aj,oK,aj,qJ,aj,aQ,aj,lx,aj,hlx,aj,aJ ix]
 by_cases hne:nv=np
 ·subst hne
  have dm:decide ((nv:Int)=(nv:Int))=true:=decide_eq_true rfl
  rw[dm,Bool.not_true,eV,aj,oK,aj,qJ,aj,aQ,aj,lx,aj,hlx,aj,slice121h n hnp,aj,hls,aj,← hS]
  obtain⟨r,⟨H',n',r1,r2,r3⟩,r4⟩:=spreads_loop l KK hs hn hks hnp hnk hL hK KK 0 H1 (n+1) (by omega) (Nat.lt_succ_self n) f1 ((hx.keep hk (Nat.le_refl _)).up (by omega)) hb (hv.keep hk (by omega)) (Nat.zero_le _) (by unfold KK; omega)
  exact⟨r,⟨H',n',r1,by omega,hk.trans r3 (by omega)⟩,r4.trans ⟨fun h=>⟨rfl,fun p hp=>h p (Nat.zero_le _) hp⟩,fun h p _ hp=>h.2 p hp⟩⟩
 ·rw[decide_eq_false (by omega),Bool.not_false,fQ]
  exact⟨false,⟨H1,n+1,rfl,by omega,hk⟩,⟨fun h=>(by cases h),fun h=>absurd h.1 hne⟩⟩
theorem call79(l:Nat)(a b c:Value)(H:Hp)(n:Nat):(cal (l+1)).call 79 [a,b,c] H n=C79_0 (cal l) KK a b c H n:=by kernel_rfl
theorem spreads_call(l:Nat){g np nj nk nv:Nat}{f:Nat→Value}{x y z v:Value}{ps js ks L:List Int}{rw_:Nat→Value}{R:Nat→List Int}{H:Hp}{n:Nat}(hg:g<n)(hf:cj H g 859 115 f)(hs:SiteF f x y z js nj)(hn:∀ p kd,p<np→kd<nk→sW f js ks nj np p kd)(hks:pj ks nk)(hx:dV H n 2 x np ps)(hnp:np≤8)(hnk:nk≤3)(hL:L.length=8)(hK:rZ L np nk)(hv:eQ H n v nv rw_ R) :
  ∃(r:Bool) (H':Hp) (n':Nat),(r=true↔nv=np∧∀ p,p<np→yJ js ks L nj np R p)∧(∀ k:Value→Hp→Nat→Option ρ,aY P (cal (l+3)) 79 [.pointer (some ⟨g,0,none⟩),.agg ⟨ints L⟩,v] H n k=k (.bool r) H' n')∧n≤n'∧Keep n H H':=by
 obtain⟨r,⟨H',n',e1,e2,e3⟩,e4⟩:=spreads_spec l hg hf hs hn hks hx hnp hnk hL hK hv
 refine⟨r,H',n',e4,fun k=>?_,e2,e3⟩
 unfold aY
 have:(fX P 79 && bK [.pointer (some ⟨g,0,none⟩),.agg ⟨ints L⟩,v])=false:=by rw[Bool.and_eq_false_iff]; exact .inr rfl
 rw[this,call79,e1]
 rfl
theorem good_row(c:Cal)(k m1:Nat)(b1:Value→Value→Value→Value→Value→Hp→Nat→Res){b n0 len i:Nat}{u0 u12 u13 row:Value}{xs:List Int}{Y:Nat→Int}{n:Nat}{Goal:Res→Prop}(hlen:len≤8)(hY:∀ q,0≤Y q∧Y q≤10000)(hxs:∀ q,q<len→0≤xs.getD q 0∧xs.getD q 0≤1000)(hi:i≤1000)(hb0:n0≤b){H0:Hp}(hrow:ListR H0 n0 row len xs)
  (cont:∀(Z:List Int) (H:Hp),H.get b=some (.cells (ints Z) 118 false none)→Z.length=8→(∀ q,q<8→Z.getD q 0=Y q+(if q<len then xs.getD q 0 else 0))→(∀ q,q≠b→H.get q=H0.get q)→Goal (b1 u0 (.pointer (some ⟨b,0,none⟩)) u12 u13 (.int .i64 ((i+1:Nat):Int)) H n)) :
  ∀(m o:Nat) (Z:List Int) (H:Hp),H.get b=some (.cells (ints Z) 118 false none)→Z.length=8→(∀ q,q<8→Z.getD q 0=Y q+(if q<o then xs.getD q 0 else 0))→(∀ q,q≠b→H.get q=H0.get q)→o≤len→len-o≤m →
  Goal (S80_2 c k m1 b1 m u0 (.pointer (some ⟨b,0,none⟩)) u12 u13 (.int .i64 i) row (.int .i64 len) (.int .i64 o) H n):=by
 have body:∀(b2:Value→Value→Value→Value→Value→Value→Value→Value→Hp→Nat→Res) (m o:Nat) (Z:List Int) (H:Hp),H.get b=some (.cells (ints Z) 118 false none)→Z.length=8→(∀ q,q<8→Z.getD q 0=Y q+(if q<o then xs.getD q 0 else 0))→(∀ q,q≠b→H.get q=H0.get q)→o≤len →
   (∀(Z:List Int) (H:Hp),H.get b=some (.cells (ints Z) 118 false none)→Z.length=8→(∀ q,q<8→Z.getD q 0=Y q+(if q<o+1 then xs.getD q 0 else 0))→(∀ q,q≠b→H.get q=H0.get q)→o<len→Goal (b2 u0 (.pointer (some ⟨b,0,none⟩)) u12 u13 (.int .i64 i) row (.int .i64 len) (.int .i64 ((o+1:Nat):Int)) H n)) →
   Goal (C80_2 c k m1 m b1 b2 u0 (.pointer (some ⟨b,0,none⟩)) u12 u13 (.int .i64 i) row (.int .i64 len) (.int .i64 o) H n):=by
  intro b2 m o Z H hg hZ hq hk ho ih
  have hI:I64 ((i:Int)+1):=by unfold I64; omega
  have hcast:((i:Int)+1)=((i+1:Nat):Int):=by omega
  unfold C80_2 B80_2
  rw[aJ dq,jx]
  by_cases hlt:o<len
  ·have hI2:I64 ((o:Int)+1):=by unfold I64; omega
   have hc2:((o:Int)+1)=((o+1:Nat):Int):=by omega
   obtain⟨rb,ro,a1,_,a3⟩:=(hrow.keep (H':=H) (fun q hq'=>hk q (by omega)) (Nat.le_refl _)).at_ hlt
   have lz:az P H 3 ⟨b,0+o * 1,none⟩=some (.int .i64 (Z.getD o 0)):=by
    have:=bq (o:=0) (k:=o) (P:=P) (cY hg) agg3 (gX (getD_some (by omega)))
    rw[show 0+o * 1=0+o by omega]
    exact this
   have hZo:Z.getD o 0=Y o:=by rw[hq o (by omega),if_neg (by omega),Int.add_zero]
   have y1:=hY o
   have x1:=hxs o hlt
   have hI3:I64 (Z.getD o 0+xs.getD o 0):=by rw[hZo]; unfold I64; omega
   have hst:bV P 3 (.pointer (some ⟨b,0+o * 1,none⟩)) (.int .i64 (Z.getD o 0+xs.getD o 0)) H=some (H.set b (some (.cells (ints (Z.set o (Z.getD o 0+xs.getD o 0))) 118 false none))):=by
    rw[store3,show 0+o * 1=o by omega]
    exact Pj hg (by omega)
   rw[if_pos (by omega),a1,aj,aQ,aj,a3,aj,at120 b (show o<8 by omega),aj,aQ,aj,lz,aj,aJ (bW hI3),aj,hst,aj,aJ (bW hI2),hc2]
   refine ih (Z.set o (Z.getD o 0+xs.getD o 0)) _ (by rw[Tr.get_set,if_pos rfl]) (by simp [hZ]) (fun q hq8=>?_) (fun q hqb=>by rw[Tr.get_set,if_neg hqb]; exact hk q hqb) hlt
   by_cases e:q=o
   ·subst e
    rw[getD_set_same (by omega),hZo,if_pos (by omega)]
   ·rw[getD_set_ne e,hq q hq8]
    by_cases d:q<o
    ·rw[if_pos d,if_pos (by omega)]
    ·rw[if_neg d,if_neg (by omega)]
  ·have:o=len:=by omega
   subst this
   rw[if_neg (by omega),aJ (bW hI),hcast]
   exact cont Z H hg hZ hq hk
 intro m
 induction m with
 | zero=>intro o Z H h1 h2 h3 h4 h5 h6; exact body _ 0 o Z H h1 h2 h3 h4 h5 (fun _ _ _ _ _ _ h=>by omega)
 | succ m ih=>intro o Z H h1 h2 h3 h4 h5 h6; exact body _ (m+1) o Z H h1 h2 h3 h4 h5 (fun Z H q1 q2 q3 q4 _=>ih (o+1) Z H q1 q2 q3 q4 (by omega) (by omega))
theorem good_pads(c:Cal)(k:Nat){b np:Nat}{x:Value}{ps:List Int}{Z:List Int}(hZ:Z.length=8)(hnp:np≤8):∀(m i:Nat) (H:Hp) (n:Nat),b<n→H.get b=some (.cells (ints Z) 118 false none)→dV H n 2 x np ps→i≤np→np-i≤m →
  ∃ r:Bool,Ret (S80_3 c k m (.pointer (some ⟨b,0,none⟩)) x (.int .i64 np) (.int .i64 i) H n) n H (.bool r)∧(r=true↔∀ p,i≤p→p<np→ps.getD (p * 2) 0≤Z.getD p 0∧Z.getD p 0≤ps.getD (p * 2+1) 0):=by
 have body:∀(b3:Value→Value→Value→Value→Hp→Nat→Res) (m i:Nat) (H:Hp) (n:Nat),b<n→H.get b=some (.cells (ints Z) 118 false none)→dV H n 2 x np ps→i≤np →
   (∀ H' n',n≤n'→Keep n H H'→i<np→∃ r:Bool,Ret (b3 (.pointer (some ⟨b,0,none⟩)) x (.int .i64 np) (.int .i64 ((i+1:Nat):Int)) H' n') n' H' (.bool r)∧(r=true↔∀ p,i+1≤p→p<np→ps.getD (p * 2) 0≤Z.getD p 0∧Z.getD p 0≤ps.getD (p * 2+1) 0)) →
   ∃ r:Bool,Ret (C80_3 c k m b3 (.pointer (some ⟨b,0,none⟩)) x (.int .i64 np) (.int .i64 i) H n) n H (.bool r)∧(r=true↔∀ p,i≤p→p<np→ps.getD (p * 2) 0≤Z.getD p 0∧Z.getD p 0≤ps.getD (p * 2+1) 0):=by
  intro b3 m i H n hbn hg hx hi ih
  unfold C80_3 B80_3
  rw[aJ dq,jx]
  by_cases hlt:i<np
  ·have hI:I64 ((i:Int)+1):=by unfold I64; omega
   have hcast:((i:Int)+1)=((i+1:Nat):Int):=by omega
   obtain⟨xb,xo,a1,a2,a3⟩:=hx.at_ Bv sz90 hlt
   have hl2:i * 2+2≤ps.length:=by rw[hx.1]; omega
   have hld:az P H 90 ⟨xb,xo+i * 2,none⟩=some (.agg ⟨[.int .i64 (ps.getD (i * 2) 0),.int .i64 (ps.getD (i * 2+1) 0)]⟩):=by
    rw[bY a3 agg90 sz90 (by rw[bj]; exact hl2) (dk _),Mq hl2]
   obtain⟨H1,k1,k2,k3⟩:=qx (P:=P) (ρ:=Value × Hp × Nat) (H:=H) (n:=n) (L:=[.int .i64 (ps.getD (i * 2) 0),.int .i64 (ps.getD (i * 2+1) 0)]) zero90 rfl sz90 rfl rfl
   have l0:az P H1 3 ⟨n,0+0,none⟩=some (.int .i64 (ps.getD (i * 2) 0)):=bq (cY k2) agg3 rfl
   have l1:az P H1 3 ⟨n,0+1,none⟩=some (.int .i64 (ps.getD (i * 2+1) 0)):=bq (cY k2) agg3 rfl
   have lz:az P H1 3 ⟨b,0+i * 1,none⟩=some (.int .i64 (Z.getD i 0)):=by
    have:=bq (o:=0) (k:=i) (P:=P) (cY ((k1 b hbn).trans hg)) agg3 (gX (getD_some (by omega)))
    rw[show 0+i * 1=0+i by omega]
    exact this
   have split:∀(r:Bool),(r=true↔∀ p,i+1≤p→p<np→ps.getD (p * 2) 0≤Z.getD p 0∧Z.getD p 0≤ps.getD (p * 2+1) 0)→(ps.getD (i * 2) 0≤Z.getD i 0∧Z.getD i 0≤ps.getD (i * 2+1) 0)→(r=true↔∀ p,i≤p→p<np→ps.getD (p * 2) 0≤Z.getD p 0∧Z.getD p 0≤ps.getD (p * 2+1) 0):=fun r h h0=>h.trans ⟨fun q p q1 q2=>by
    rcases Nat.eq_or_lt_of_le q1 with e | e
    ·subst e; exact h0
    ·exact q p e q2,fun q p q1 q2=>q p (by omega) q2⟩
   rw[if_pos (by omega),a1,aj,aQ,aj,hld,aj,k3,at120 b (show i<8 by omega),aj,aQ,aj,lz,aj,fa90_0,aj,aQ,aj,l0,aj,aJ dq]
   cases h1:decide (Z.getD i 0<ps.getD (i * 2) 0) with
   | true=>
    have:=of_decide_eq_true h1
    simp only[guardD_tf,dY,aj,fQ]
    exact⟨false,⟨H1,n+1,rfl,by omega,k1⟩,⟨fun h=>(by cases h),fun q=>absurd (q i (Nat.le_refl _) hlt).1 (by omega)⟩⟩
   | false=>
    have g1:=of_decide_eq_false h1
    simp only[guardD_ff,at120 b (show i<8 by omega),aj,aQ,lz,fa90_1,l1,aJ vx,ew]
    cases h2:decide (ps.getD (i * 2+1) 0<Z.getD i 0) with
    | true=>
     have:=of_decide_eq_true h2
     rw[fQ]
     exact⟨false,⟨H1,n+1,rfl,by omega,k1⟩,⟨fun h=>(by cases h),fun q=>absurd (q i (Nat.le_refl _) hlt).2 (by omega)⟩⟩
    | false=>
     have g2:=of_decide_eq_false h2
     rw[eV,aJ (bW hI),hcast]
     obtain⟨r,⟨H2,n2,r1,r2,r3⟩,r4⟩:=ih H1 (n+1) (by omega) k1 hlt
     exact⟨r,⟨H2,n2,r1,by omega,k1.trans r3 (by omega)⟩,split r r4 ⟨by omega,by omega⟩⟩
  ·rw[if_neg (by omega)]
   exact⟨true,⟨H,n,rfl,Nat.le_refl _,Keep.refl _ _⟩,⟨fun _ p h1 h2=>by omega,fun _=>rfl⟩⟩
 intro m
 induction m with
 | zero=>intro i H n h1 h2 h3 h4 h5; exact body _ 0 i H n h1 h2 h3 h4 (fun _ _ _ _ h=>by omega)
 | succ m ih=>intro i H n h1 h2 h3 h4 h5; exact body _ (m+1) i H n h1 h2 h3 h4 (fun H' n' q1 q2 _=>ih (i+1) H' n' (by omega) ((q2 b h1).trans h2) ((h3.keep q2 (Nat.le_refl _)).up q1) (by omega) (by omega))
noncomputable def oq(R:Nat→List Int)(i q:Nat):Int:=ak (fun p=>(R p).getD q 0) i
def RowsOk(R:Nat→List Int)(np:Nat):Prop:=∀ p,p<np→(R p).length≤8∧∀ q,0≤(R p).getD q 0∧(R p).getD q 0≤1000
theorem youngR_range{R:Nat→List Int}{np:Nat}(h:RowsOk R np)(q:Nat):∀ {i:Nat},i≤np→0≤oq R i q∧oq R i q≤i * 1000
 | 0,_=>by simp [oq,ak]
 | i+1,hi=>by
  have ih:=youngR_range h q (i:=i) (by omega)
  have:=(h i (by omega)).2 q
  unfold oq at ih ⊢
  simp only[ak]
  omega
def Rw(ps:List Int)(R:Nat→List Int)(np:Nat):Prop:=∀ p,p<np→ps.getD (p * 2) 0≤oq R np p∧oq R np p≤ps.getD (p * 2+1) 0
theorem good_rows(c:Cal)(k:Nat){g b np nj:Nat}{f:Nat→Value}{x y z v:Value}{ps js:List Int}{rw_:Nat→Value}{R:Nat→List Int}{H0:Hp}(hs:SiteF f x y z js nj)(hf:cj H0 g 859 115 f)(hx:dV H0 b 2 x np ps)(hv:eQ H0 b v np rw_ R)(hR:RowsOk R np)(hnp:np≤8)(hg:g<b)(hkk:20≤k) :
  ∀(m i:Nat) (Z:List Int) (H:Hp) (n:Nat),b<n→H.get b=some (.cells (ints Z) 118 false none)→Z.length=8→(∀ q,q<8→Z.getD q 0=oq R i q)→Keep b H0 H→i≤np→np-i+20≤m →
  ∃ r:Bool,Ret (S80_1 c k m (.pointer (some ⟨g,0,none⟩)) (.pointer (some ⟨b,0,none⟩)) v (.int .i64 np) (.int .i64 i) H n) b H0 (.bool r)∧(r=true↔Rw ps R np):=by
 have body:∀(b1:Value→Value→Value→Value→Value→Hp→Nat→Res) (m i:Nat) (Z:List Int) (H:Hp) (n:Nat),b<n→H.get b=some (.cells (ints Z) 118 false none)→Z.length=8→(∀ q,q<8→Z.getD q 0=oq R i q)→Keep b H0 H→i≤np→20≤m →
   (∀(Z:List Int) (H':Hp),H'.get b=some (.cells (ints Z) 118 false none)→Z.length=8→(∀ q,q<8→Z.getD q 0=oq R (i+1) q)→Keep b H0 H'→i<np→∃ r:Bool,Ret (b1 (.pointer (some ⟨g,0,none⟩)) (.pointer (some ⟨b,0,none⟩)) v (.int .i64 np) (.int .i64 ((i+1:Nat):Int)) H' n) b H0 (.bool r)∧(r=true↔Rw ps R np)) →
   ∃ r:Bool,Ret (C80_1 c k m b1 (.pointer (some ⟨g,0,none⟩)) (.pointer (some ⟨b,0,none⟩)) v (.int .i64 np) (.int .i64 i) H n) b H0 (.bool r)∧(r=true↔Rw ps R np):=by
  intro b1 m i Z H n hbn hgb hZ hq hk hi hm ih
  unfold C80_1
  generalize hS2:S80_2 c k m b1 m=S2
  generalize hS3:S80_3 c k k=S3
  unfold B80_1
  rw[aJ dq,jx]
  have hvH:=hv.keep hk (Nat.le_refl _)
  by_cases hlt:i<np
  ·obtain⟨c1,o,a1,_,a3⟩:=hvH.at_ hlt
   have hrow:=hvH.2 i hlt
   obtain⟨r1,r2⟩:=hR i hlt
   have el:lenV P 44 (rw_ i)=some (.int .i64 ((R i).length:Nat)):=hrow.len_eq
   rw[if_pos (by omega),a1,aj,aQ,aj,a3,aj,el,aj,← hS2]
   refine good_row c k m b1 (n0:=b) (xs:=R i) (Y:=oq R i) (Goal:=fun r=>∃ r':Bool,Ret r b H0 (.bool r')∧(r'=true↔Rw ps R np)) r1 (fun q=>?_) (fun q _=>r2 q) (by omega) (Nat.le_refl _) (H0:=H) hrow ?_ m 0 Z H hgb hZ (fun q hq8=>by rw[hq q hq8,if_neg (by omega),Int.add_zero]) (fun _ _=>rfl) (Nat.zero_le _) (by omega)
   ·have:=youngR_range hR q (i:=i) (by omega)
    omega
   ·intro Z' H' g1 g2 g3 g4
    refine ih Z' H' g1 g2 (fun q hq8=>?_) (fun q hqb=>by rw[g4 q (by omega),hk q hqb]) hlt
    rw[g3 q hq8]
    unfold oq
    simp only[ak]
    by_cases d:q<(R i).length
    ·rw[if_pos d]
    ·rw[if_neg d,List.getD_eq_getElem?_getD (l:=R i),List.getElem?_eq_none (by omega)]
     rfl
  ·have:i=np:=by omega
   subst this
   have f1:=hf.keep hk hg
   have lx:az P H 31 ⟨g,0+0+0,none⟩=some x:=by
    have:=f1.load (P:=P) (k:=0) Bq (by omega)
    rw[hs.x] at this; exact this
   have hlx:lenV P 31 x=some (.int .i64 i):=hx.len_eq Bv
   rw[if_neg (by omega),lk,aj,oK,aj,qJ,aj,aQ,aj,lx,aj,hlx,aj,← hS3]
   obtain⟨r,⟨H',n',r1,r2,r3⟩,r4⟩:=good_pads c k (b:=b) hZ hnp k 0 H n hbn hgb ((hx.keep hk (Nat.le_refl _)).up (by omega)) (Nat.zero_le _) (by omega)
   refine⟨r,⟨H',n',r1,by omega,hk.trans r3 (by omega)⟩,r4.trans ⟨fun h p hp=>?_,fun h p _ hp=>?_⟩⟩
   ·have:=h p (Nat.zero_le _) hp
    rw[hq p (by omega)] at this
    exact this
   ·rw[hq p (by omega)]
    exact h p hp
 intro m
 induction m with
 | zero=>intro i Z H n h1 h2 h3 h4 h5 h6 h7; omega
 | succ m ih=>
  intro i Z H n h1 h2 h3 h4 h5 h6 h7
  refine body _ (m+1) i Z H n h1 h2 h3 h4 h5 h6 (by omega) (fun Z H' q1 q2 q3 q4 q5=>ih (i+1) Z H' n h1 q1 q2 q3 q4 (by omega) (by omega))
theorem good_spec(c:Cal){g np nj:Nat}{f:Nat→Value}{x y z v:Value}{ps js:List Int}{rw_:Nat→Value}{R:Nat→List Int}{H:Hp}{n:Nat}(hs:SiteF f x y z js nj)(hf:cj H g 859 115 f)(hx:dV H n 2 x np ps)(hv:eQ H n v np rw_ R)(hR:RowsOk R np)(hnp:np≤8)(hg:g<n) :
  ∃ r:Bool,Ret (C80_0 c KK (.pointer (some ⟨g,0,none⟩)) v H n) n H (.bool r)∧(r=true↔Rw ps R np):=by
 unfold C80_0 B80_0
 generalize hS:S80_1 c KK KK=S
 rw[fK zero120]
 have c2:bv (.agg ⟨ints (List.replicate 8 0)⟩)=ints (List.replicate 8 0):=rfl
 simp only[ptr]
 rw[c2,hv.len_eq,aj,← hS]
 have hk:Keep n H (H.set n (some (.cells (ints (List.replicate 8 0)) 118 false none))):=(Keep.refl n H).set (Nat.le_refl _) _
 exact good_rows c KK hs hf hx hv hR hnp hg (by unfold KK; omega) KK 0 (List.replicate 8 0) _ (n+1) (Nat.lt_succ_self n) (by rw[Tr.get_set,if_pos rfl]) rfl (fun q hq=>by
  rw[List.getD_eq_getElem?_getD,List.getElem?_replicate,if_pos hq]
  rfl) hk (Nat.zero_le _) (by unfold KK; omega)
theorem call80(l:Nat)(a b:Value)(H:Hp)(n:Nat):(cal (l+1)).call 80 [a,b] H n=C80_0 (cal l) KK a b H n:=by kernel_rfl
theorem good_call(l:Nat){g np nj:Nat}{f:Nat→Value}{x y z v:Value}{ps js:List Int}{rw_:Nat→Value}{R:Nat→List Int}{H:Hp}{n:Nat}(hs:SiteF f x y z js nj)(hf:cj H g 859 115 f)(hx:dV H n 2 x np ps)(hv:eQ H n v np rw_ R)(hR:RowsOk R np)(hnp:np≤8)(hg:g<n) :
  ∃(r:Bool) (H':Hp) (n':Nat),(r=true↔Rw ps R np)∧(∀ k:Value→Hp→Nat→Option ρ,aY P (cal (l+1)) 80 [.pointer (some ⟨g,0,none⟩),v] H n k=k (.bool r) H' n')∧n≤n'∧Keep n H H':=by
 obtain⟨r,⟨H',n',e1,e2,e3⟩,e4⟩:=good_spec (cal l) hs hf hx hv hR hnp hg
 refine⟨r,H',n',e4,fun k=>?_,e2,e3⟩
 unfold aY
 have:(fX P 80 && bK [.pointer (some ⟨g,0,none⟩),v])=false:=by rw[Bool.and_eq_false_iff]; exact .inr rfl
 rw[this,call80,e1]
 rfl
theorem call38(l:Nat)(a b c:Value)(H:Hp)(n:Nat):(cal (l+1)).call 38 [a,b,c] H n=C38_0 (cal l) KK a b c H n:=by kernel_rfl
theorem padBy_rows{js ks L:List Int}{nj np nk:Nat}{R:Nat→List Int}(hks:pj ks nk)(hnp:np≤8)(hK:rZ L np nk)(h:∀ p,p<np→yJ js ks L nj np R p):RowsOk R np:=by
 intro p hp
 have:=h p hp
 unfold yJ at this
 rcases hK p (by omega) with e | ⟨_,kd,hkd,e⟩
 ·rw[if_pos e] at this
  have:R p=[]:=List.length_eq_zero_iff.1 this
  rw[this]
  exact⟨by simp,fun q=>by simp⟩
 ·rw[if_neg (by omega),e,Int.toNat_natCast] at this
  obtain⟨b1,b2,_⟩:=this
  refine⟨by omega,fun q=>?_⟩
  have hsb:=sX (js:=js) (nj:=nj) hks hkd hnp hp
  by_cases c:q<np
  ·have:=b2 q c
   have h1:=hsb (q * 2)
   have h2:=hsb (q * 2+1)
   omega
  ·rw[List.getD_eq_getElem?_getD,List.getElem?_eq_none (by omega)]
   simp
theorem ProveSpread_spec(l:Nat){np nj nk nl nv:Nat}{ps js ks ls:List Int}{H:Hp}{n:Nat}{v w u:Value}{rw_:Nat→Value}{R:Nat→List Int}(hg:iZ H n v np nj nk ps js ks)(hw:ListR H n w nl ls)(hv:eQ H n u nv rw_ R)(hnp:np≤1000)(hnj:nj≤1000)(hnk:nk≤1000) :
  ∃ r:Bool,Ret (C38_0 (cal (l+7)) KK v w u H n) n H (.bool r)∧(r=true↔eY np nj nk nl ps js ks ls=0∧nv=np∧(∀ p,p<np→yJ js ks (ez ls np) nj np R p)∧Rw ps R np):=by
 have hg0:=hg
 obtain⟨x,y,z,rfl,h1,h2,h3⟩:=hg
 unfold C38_0 B38_0
 rw[dv]
 simp only[bv,ptr]
 have hk:Keep n H (H.set n (some (.cells [x,y,z] 35 false none))):=(Keep.refl n H).set (Nat.le_refl _) _
 have hb:aZ (H.set n (some (.cells [x,y,z] 35 false none))) n 0 [x,y,z]:=aZ.new
 generalize H.set n (some (.cells [x,y,z] 35 false none))=H1 at hk hb ⊢
 have lg:az P H1 35 ⟨n,0,none⟩=some (.agg ⟨[x,y,z]⟩):=bY (o:=0) (k:=0) hb QK sz35 (by simp) (by simp [h1.hole.1,h2.hole.1,h3.hole.1])
 obtain⟨o1,o2⟩:=Gq l (hg0.keep hk (show n≤n+1 by omega)) (hw.keep hk (show n≤n+1 by omega)) hnp hnj hnk
 rw[aQ,aj,lg,aj,Gv]
 by_cases he:eY np nj nk nl ps js ks ls=0
 ·obtain⟨⟨g,x',y',z',f,H2,n2,e1,e2,e3,e4,e5,e6,e7,e8,e9⟩,hnl,hok,hft⟩:=o2 he
  simp only[Value.agg.injEq,Array.mk.injEq,List.cons.injEq,and_true] at e6
  obtain⟨rfl,rfl,rfl⟩:=e6
  have good:=JQ hft
  subst hnl
  have np8:=good.np8
  have nk3:=good.nk3
  have l8:=CX hw.1 good.np8
  have hK:rZ (ez ls nl) nl nk:=Sz hw.1 hok
  generalize hLL:ez ls nl=L at *
  have lens:(ints L).length=8:=by rw[bj,l8]
  have t0:tupV (.tuple ⟨[.pointer (some ⟨g,0,none⟩),.agg ⟨ints L⟩,.int .i64 0]⟩) 0=some (.pointer (some ⟨g,0,none⟩)):=rfl
  have t1:tupV (.tuple ⟨[.pointer (some ⟨g,0,none⟩),.agg ⟨ints L⟩,.int .i64 0]⟩) 1=some (.agg ⟨ints L⟩):=rfl
  have t2:tupV (.tuple ⟨[.pointer (some ⟨g,0,none⟩),.agg ⟨ints L⟩,.int .i64 0]⟩) 2=some (.int .i64 0):=rfl
  have d0:decide ((0:Int)=0)=true:=rfl
  obtain⟨H3,k1,k2,k3⟩:=qx (P:=P) (ρ:=Value × Hp × Nat) (H:=H2) (n:=n2) (L:=ints L) Fv rfl rY lens (fj _)
  have kk:Keep (n+1) H1 H3:=e3.trans k1 e2
  have f3:=e7.keep k1 e5
  have kn:Keep n H H3:=fun b hb=>by rw[kk b (by omega),hk b hb]
  have hx3:dV H3 (n2+1) 2 x nl ps:=(h1.keep kn (Nat.le_refl _)).up (by omega)
  have hv3:eQ H3 (n2+1) u nv rw_ R:=hv.keep kn (by omega)
  obtain⟨r,H4,n4,b0,b1,b2,b3⟩:=spreads_call (ρ:=Value × Hp × Nat) (l+4) (show g<n2+1 by omega) f3 e8 e9 good.kinds hx3 np8 nk3 l8 hK hv3
  rw[e1,aj,t0,aj,t1,aj,t2,aj]
  dsimp only
  rw[k3,aJ lY,d0]
  have lL:az P H3 119 ⟨n2,0,none⟩=some (.agg ⟨ints L⟩):=cK k2 xq rY lens
  simp only[eW,aQ,aj,lL,b1,dY]
  have k4:Keep n H H4:=fun b hb=>by rw[b3 b (by omega),kn b hb]
  cases r with
  | false=>
   simp only[fV,aj,ew]
   exact⟨false,⟨H4,n4,rfl,by omega,k4⟩,⟨fun h=>(by cases h),fun h=>absurd (b0.2 ⟨h.2.1,h.2.2.1⟩) (by simp)⟩⟩
  | true=>
   obtain⟨hnv,hpad⟩:=b0.1 rfl
   subst hnv
   obtain⟨s,H5,n5,c0,c1,c2,c3⟩:=good_call (ρ:=Value × Hp × Nat) (l+6) e8 (f3.keep b3 (by omega)) ((hx3.keep b3 (Nat.le_refl _)).up b2) (hv3.keep b3 b2) (padBy_rows good.kinds np8 hK hpad) np8 (show g<n4 by omega)
   simp only[eW,aj,c1,dY]
   exact⟨s,⟨H5,n5,rfl,by omega,fun b hb=>by rw[c3 b (by omega),k4 b hb]⟩,c0.trans ⟨fun h=>⟨he,by trivial,hpad,h⟩,fun h=>h.2.2.2⟩⟩
 ·obtain⟨H2,n2,e1,e2,e3⟩:=o1 he
  have t0:tupV (.tuple ⟨[.pointer none,.agg ⟨ints (List.replicate 8 0)⟩,.int .i64 (eY np nj nk nl ps js ks ls)]⟩) 0=some (.pointer none):=rfl
  have t1:tupV (.tuple ⟨[.pointer none,.agg ⟨ints (List.replicate 8 0)⟩,.int .i64 (eY np nj nk nl ps js ks ls)]⟩) 1=some (.agg ⟨ints (List.replicate 8 0)⟩):=rfl
  have t2:tupV (.tuple ⟨[.pointer none,.agg ⟨ints (List.replicate 8 0)⟩,.int .i64 (eY np nj nk nl ps js ks ls)]⟩) 2=some (.int .i64 (eY np nj nk nl ps js ks ls)):=rfl
  obtain⟨H3,k1,_,k3⟩:=qx (P:=P) (ρ:=Value × Hp × Nat) (H:=H2) (n:=n2) (L:=ints (List.replicate 8 0)) Fv rfl rY rfl (fj _)
  rw[e1,aj,t0,aj,t1,aj,t2,aj]
  dsimp only
  rw[k3,aJ lY,decide_eq_false he]
  simp only[fV,aj,ew]
  exact⟨false,⟨H3,n2+1,rfl,by omega,(hk.trans e3 (by omega)).trans k1 (by omega)⟩,⟨fun h=>(by cases h),fun h=>absurd h.1 he⟩⟩
theorem ProveSpread_call(l:Nat){np nj nk nl nv:Nat}{ps js ks ls:List Int}{H:Hp}{n:Nat}{v w u:Value}{rw_:Nat→Value}{R:Nat→List Int}(hg:iZ H n v np nj nk ps js ks)(hw:ListR H n w nl ls)(hv:eQ H n u nv rw_ R)(hnp:np≤1000)(hnj:nj≤1000)(hnk:nk≤1000)(hne:bx u=false) :
  ∃(r:Bool) (H':Hp) (n':Nat),(r=true↔eY np nj nk nl ps js ks ls=0∧nv=np∧(∀ p,p<np→yJ js ks (ez ls np) nj np R p)∧Rw ps R np)∧(∀ k:Value→Hp→Nat→Option ρ,aY P (cal (l+8)) 38 [v,w,u] H n k=k (.bool r) H' n')∧n≤n'∧Keep n H H':=by
 obtain⟨r,⟨H',n',e1,e2,e3⟩,e4⟩:=ProveSpread_spec l hg hw hv hnp hnj hnk
 refine⟨r,H',n',e4,fun k=>?_,e2,e3⟩
 unfold aY
 have:(fX P 38 && bK [v,w,u])=false:=by simp [bK,hne]
 rw[this,call38,e1]
 rfl
theorem zero44:iV P 44=some (.slice none 0 0):=by kernel_rfl
theorem zero59:iV P 59=some (.slice none 0 0):=by kernel_rfl
theorem sl59:jV P 59=some 44:=by kernel_rfl
theorem by44:yV P 44=some 24:=by kernel_rfl
theorem make59(H:Hp)(n:Nat){np:Nat}(h:np≤1000):qk P 59 (.int .i64 np) (.int .i64 np) (bare H n)=some (.slice (some ⟨n,0,none⟩) np np,bare (H.set n (some (.cells (List.replicate np (.slice none 0 0)) 44 false none))) (n+1)):=by
 show qk P 59 (.int .i64 (.ofNat np)) (.int .i64 (.ofNat np)) (bare H n)=_
 unfold qk
 have hb:IK np 1 24=true:=by unfold IK; simp; omega
 simp only[sl59,sz44,by44,zero44]
 rw[if_pos ⟨Nat.le_refl _,hb,rfl⟩]
 have:repl np (bv (.slice none 0 0))=List.replicate np (.slice none 0 0):=repl_one _ _
 rw[this]
 rfl
theorem qlx{t:TypeId}{z v:Value}(hz:iV P t=some z)(hcz:bv z=[z])(hs:szT P t=some 1)(hv:uj v=true)(H:Hp)(n:Nat):∃ H',Keep n H H'∧H'.get n=some (.cells [v] t false none) ∧
  ∀ k:Value→Hp→Nat→Option ρ,(dj P t H n fun u H n=>aq (bV P t u v H) fun H=>k u H n)=k (.pointer (some ⟨n,0,none⟩)) H' (n+1):=by
 have e1:(H.set n (some (.cells [z] t false none))).get n=some (.cells [z] t false none):=by rw[Tr.get_set,if_pos rfl]
 have e2:Keep n H (H.set n (some (.cells [z] t false none))):=(Keep.refl n H).set (Nat.le_refl _) _
 have s1:=mw (vs:=[v]) e1 rfl (by simp [hv])
 refine⟨_,e2.set (Nat.le_refl _) (some (.cells [v] t false none)),by rw[Tr.get_set,if_pos rfl],fun k=>?_⟩
 rw[fK hz,hcz]
 simp only[ptr]
 rw[oZ hs hv,s1,aj]
end Go.Proofs.Ytndkmmelelchcaa.spec
end
section
namespace Go.Proofs.Ytndkmmelelchcaa.spec
open Go Go.Ev Go.Proofs.Ytndkmmelelchcaa.nestFits Go.Proofs.Ytndkmmelelchcaa.G
set_option maxRecDepth 100000
theorem row_ext{y:Int}{S:List Int}{x:Nat→Int}(h:∀ q,S.getD (q * 2) 0≤x q∧x q≤S.getD (q * 2+1) 0)(hs:ak x 8=y){q:Nat}(hq:q<8):ext y S 0 q≤x q∧x q≤ext y S 1 q:=by
 have d0:=Cq (f:=fun k=>S.getD (k * 2+1) 0-x k) (n:=8) (i:=q) (fun k _=>by have:=h k; omega) hq
 have d1:=Cq (f:=fun k=>x k-S.getD (k * 2) 0) (n:=8) (i:=q) (fun k _=>by have:=h k; omega) hq
 rw[pw] at d0 d1
 have t0:total S 0=ak (fun k=>S.getD (k * 2) 0) 8:=rfl
 have t1:total S 1=ak (fun k=>S.getD (k * 2+1) 0) 8:=rfl
 have e0:ext y S 0 q=max (S.getD (q * 2) 0) (y-(total S 1-S.getD (q * 2+1) 0)):=rfl
 have e1:ext y S 1 q=min (S.getD (q * 2+1) 0) (y-(total S 0-S.getD (q * 2) 0)):=rfl
 have d0:S.getD (q * 2+1) 0-x q≤ak (fun k=>S.getD (k * 2+1) 0) 8-ak x 8:=d0
 have d1:x q-S.getD (q * 2) 0≤ak x 8-ak (fun k=>S.getD (k * 2) 0) 8:=d1
 have:=h q
 rw[e0,e1,t0,t1]
 omega
noncomputable def yL(ks L:List Int)(p:Nat):Int:=ks.getD ((L.getD p 0).toNat * 5) 0
noncomputable def sL(js ks L:List Int)(nj np p:Nat):List Int:=shP js ks nj np p (L.getD p 0).toNat
def isN(L:List Int)(p:Nat):Prop:=p<8∧L.getD p 0≠-1
instance (L:List Int) (p:Nat):Decidable (isN L p):=by unfold isN; exact inferInstance
noncomputable def wL(js ks L:List Int)(nj np p q:Nat):Int:=if isN L p then(sL js ks L nj np p).getD (q * 2+1) 0-(sL js ks L nj np p).getD (q * 2) 0 else 0
noncomputable def cx(js ks L:List Int)(nj np p:Nat):Int:=if isN L p then yL ks L p-total (sL js ks L nj np p) 0 else 0
noncomputable def lowL(js ks L:List Int)(nj np q i:Nat):Int:=ak (fun p=>if isN L p then(sL js ks L nj np p).getD (q * 2) 0 else 0) i
noncomputable def eJ(js ks ps L:List Int)(nj np q:Nat):Int:=if q<np then max (ps.getD (q * 2) 0-lowL js ks L nj np q 8) 0 else 0
noncomputable def rK(js ks ps L:List Int)(nj np q:Nat):Int:=if q<np then ps.getD (q * 2+1) 0-max (ps.getD (q * 2) 0) (lowL js ks L nj np q 8) else 0
structure LaidNests (js ks L:List Int) (nj np:Nat):Prop where
 le:∀ p,isN L p→∀ q,(sL js ks L nj np p).getD (q * 2) 0≤(sL js ks L nj np p).getD (q * 2+1) 0
 far:∀ p,isN L p→∀ q,np≤q→(sL js ks L nj np p).getD (q * 2) 0=0∧(sL js ks L nj np p).getD (q * 2+1) 0=0
 fits:∀ p,isN L p→total (sL js ks L nj np p) 0≤yL ks L p∧yL ks L p≤total (sL js ks L nj np p) 1
 np8:np≤8
theorem UQ{np nj nk:Nat}{ps js ks ls:List Int}(good:Good np nj nk ps js ks)(hjs:js.length=nj * 2)(hls:ls.length=np)(hok:zq js ks ls nj np nk):LaidNests js ks (ez ls np) nj np:=by
 have np8:=good.np8
 have hin:=good.inner hjs
 have key:∀ p,isN (ez ls np) p→p<np∧∃ kd:Nat,(ez ls np).getD p 0=kd∧kd<nk∧fitD js ks nj np p kd=true:=fun p hp=>by
  have hpn:p<np:=Classical.byContradiction fun c=>hp.2 (HJ hls (by omega) hp.1)
  refine⟨hpn,?_⟩
  have e:=MJ hls hpn
  have hne:=hp.2
  rw[e] at hne ⊢
  rcases hok p hpn with h | h
  ·exact absurd h hne
  ·obtain⟨t1,t2,t3⟩:=h
   exact⟨(ls.getD p 0).toNat,by omega,by omega,t3⟩
 refine⟨fun p hp q=>?_,fun p hp q hq=>?_,fun p hp=>?_,np8⟩
 ·obtain⟨h1,kd,h2,h3,h4⟩:=key p hp
  unfold sL
  rw[h2,Int.toNat_natCast]
  obtain⟨g1,g2⟩:=Fq (ks:=ks) (kd:=kd) hin np8 h1 q
  rw[g1,g2]
  have:=Mw (js:=js) (nj:=nj) good.small h3 p q
  exact this.2.1
 ·obtain⟨h1,kd,h2,h3,h4⟩:=key p hp
  unfold sL
  rw[h2,Int.toNat_natCast]
  obtain⟨g1,g2⟩:=Fq (ks:=ks) (kd:=kd) hin np8 h1 q
  rw[g1,g2,Hy hin h1 hq]
  exact⟨rfl,rfl⟩
 ·obtain⟨h1,kd,h2,h3,h4⟩:=key p hp
  unfold sL yL
  rw[h2,Int.toNat_natCast]
  exact of_decide_eq_true h4
structure Sending (js ks ps L:List Int) (nj np:Nat) (T:Nat→Nat→Int):Prop where
 ge:∀ p q,0≤T p q
 le:∀ p q,T p q≤wL js ks L nj np p q
 row:∀ p,p<8→ak (T p) 8=cx js ks L nj np p
 col:∀ q,q<np→ps.getD (q * 2) 0≤lowL js ks L nj np q 8+ak (fun p=>T p q) 8∧lowL js ks L nj np q 8+ak (fun p=>T p q) 8≤ps.getD (q * 2+1) 0
theorem sending_far{js ks L:List Int}{nj np:Nat}{T:Nat→Nat→Int}(ok:LaidNests js ks L nj np)(h0:∀ p q,0≤T p q)(hw:∀ p q,T p q≤wL js ks L nj np p q){p q:Nat}(hq:np≤q):T p q=0:=by
 have a:=h0 p q
 have b:=hw p q
 unfold wL at b
 by_cases c:isN L p
 ·rw[if_pos c] at b
  obtain⟨z1,z2⟩:=ok.far p c q hq
  omega
 ·rw[if_neg c] at b
  omega
theorem sending_of{js ks ps L:List Int}{nj np:Nat}{T:Nat→Nat→Int}(ok:LaidNests js ks L nj np)(hlow:∀ q,q<np→lowL js ks L nj np q 8≤ps.getD (q * 2+1) 0)(hps:∀ q,q<np→ps.getD (q * 2) 0≤ps.getD (q * 2+1) 0)
  (h0:∀ p q,0≤T p q) (hw:∀ p q,T p q≤wL js ks L nj np p q) (hr:∀ p,p<8→ak (T p) 8=cx js ks L nj np p)
  (hc:∀ q,q<8→eJ js ks ps L nj np q≤ak (fun p=>T p q) 8∧ak (fun p=>T p q) 8≤eJ js ks ps L nj np q+rK js ks ps L nj np q):Sending js ks ps L nj np T:=by
 have np8:=ok.np8
 refine⟨h0,hw,hr,fun q hq=>?_⟩
 have:=hc q (by omega)
 unfold eJ rK at this
 rw[if_pos hq,if_pos hq] at this
 have:=hlow q hq
 have:=hps q hq
 omega
theorem right_sends{js ks ps L:List Int}{nj np:Nat}(ok:LaidNests js ks L nj np)(hL:L.length=8)(hr:RightL js ks ps L nj np):∃ T,Sending js ks ps L nj np T:=by
 have np8:=ok.np8
 have x:∀ p,∃ x:Nat→Int,isN L p→(∀ q,(sL js ks L nj np p).getD (q * 2) 0≤x q∧x q≤(sL js ks L nj np p).getD (q * 2+1) 0)∧ak x 8=yL ks L p:=fun p=>by
  by_cases c:isN L p
  ·have hlen:(sL js ks L nj np p).length=16:=JV ..
   obtain⟨f0,f1⟩:=ok.fits p c
   have hle:=ok.le p c
   have e:ext (yL ks L p) (sL js ks L nj np p) 0 0≤ext (yL ks L p) (sL js ks L nj np p) 1 0:=by
    have e0:ext (yL ks L p) (sL js ks L nj np p) 0 0=max ((sL js ks L nj np p).getD (0 * 2) 0) (yL ks L p-(total (sL js ks L nj np p) 1-(sL js ks L nj np p).getD (0 * 2+1) 0)):=rfl
    have e1:ext (yL ks L p) (sL js ks L nj np p) 1 0=min ((sL js ks L nj np p).getD (0 * 2+1) 0) (yL ks L p-(total (sL js ks L nj np p) 0-(sL js ks L nj np p).getD (0 * 2) 0)):=rfl
    have h0:=hle 0
    have d0:=Cq (f:=fun k=>(sL js ks L nj np p).getD (k * 2+1) 0-(sL js ks L nj np p).getD (k * 2) 0) (n:=8) (i:=0) (fun k _=>by have:=hle k; omega) (by omega)
    rw[pw] at d0
    have t0:total (sL js ks L nj np p) 0=ak (fun k=>(sL js ks L nj np p).getD (k * 2) 0) 8:=rfl
    have t1:total (sL js ks L nj np p) 1=ak (fun k=>(sL js ks L nj np p).getD (k * 2+1) 0) 8:=rfl
    rw[← t0,← t1] at d0
    have d0:(sL js ks L nj np p).getD (0 * 2+1) 0-(sL js ks L nj np p).getD (0 * 2) 0≤total (sL js ks L nj np p) 1-total (sL js ks L nj np p) 0:=d0
    rw[e0,e1]
    omega
   obtain⟨a1,_,a3,_⟩:=spreadN_ok (y:=yL ks L p) (p:=0) hlen (by omega) hle (Int.le_refl _) e
   exact⟨_,fun _=>⟨a1,a3⟩⟩
  ·exact⟨fun _=>0,fun h=>absurd h c⟩
 obtain⟨x,hx⟩:=Classical.axiomOfChoice x
 have colS:∀ q,lowL js ks L nj np q 8+ak (fun p=>if isN L p then x p q-(sL js ks L nj np p).getD (q * 2) 0 else 0) 8=ak (fun p=>if isN L p then x p q else 0) 8:=fun q=>by
  unfold lowL
  rw[← cQ]
  refine bz fun p _=>?_
  by_cases c:isN L p
  ·rw[if_pos c,if_pos c,if_pos c]; omega
  ·rw[if_neg c,if_neg c,if_neg c]; rfl
 refine⟨fun p q=>if isN L p then x p q-(sL js ks L nj np p).getD (q * 2) 0 else 0,fun p q=>?_,fun p q=>?_,fun p hp=>?_,fun q hq=>?_⟩
 ·show 0≤(if isN L p then x p q-(sL js ks L nj np p).getD (q * 2) 0 else 0)
  by_cases c:isN L p
  ·rw[if_pos c]
   have:=(hx p c).1 q
   omega
  ·rw[if_neg c]; exact Int.le_refl _
 ·show(if isN L p then x p q-(sL js ks L nj np p).getD (q * 2) 0 else 0)≤wL js ks L nj np p q
  unfold wL
  by_cases c:isN L p
  ·rw[if_pos c,if_pos c]
   have:=(hx p c).1 q
   omega
  ·rw[if_neg c,if_neg c]; exact Int.le_refl _
 ·show ak (fun q=>if isN L p then x p q-(sL js ks L nj np p).getD (q * 2) 0 else 0) 8=cx js ks L nj np p
  unfold cx
  by_cases c:isN L p
  ·rw[if_pos c]
   have e:ak (fun q=>if isN L p then x p q-(sL js ks L nj np p).getD (q * 2) 0 else 0) 8=ak (fun q=>x p q-(sL js ks L nj np p).getD (q * 2) 0) 8:=bz fun q _=>if_pos c
   rw[e,pw,show ak (fun q=>x p q) 8=ak (x p) 8 from rfl,(hx p c).2]
   rfl
  ·rw[if_neg c]
   exact dX fun q _=>if_neg c
 ·rw[colS]
  have hq8:q<8:=by omega
  have b0:bsum js ks L nj np 8 0 q≤ak (fun p=>if isN L p then x p q else 0) 8:=by
   unfold bsum
   refine iJ fun p hp=>?_
   by_cases c:L.getD p 0=-1
   ·rw[if_pos c,if_neg (fun h=>h.2 c)]; exact Int.le_refl _
   ·have ci:isN L p:=⟨hp,c⟩
    rw[if_neg c,if_pos ci]
    exact(row_ext (hx p ci).1 (hx p ci).2 hq8).1
  have b1:ak (fun p=>if isN L p then x p q else 0) 8≤bsum js ks L nj np 8 1 q:=by
   unfold bsum
   refine iJ fun p hp=>?_
   by_cases c:L.getD p 0=-1
   ·rw[if_pos c,if_neg (fun h=>h.2 c)]; exact Int.le_refl _
   ·have ci:isN L p:=⟨hp,c⟩
    rw[if_neg c,if_pos ci]
    exact(row_ext (hx p ci).1 (hx p ci).2 hq8).2
  have:=hr q hq
  omega
noncomputable def cutN(w:Nat→Nat→Int)(spare cap:Nat→Int)(R:Nat→Bool):Int:=
 ak (fun p=>if R p=true then 0 else spare p) 8+ak (fun p=>ak (fun q=>if R p=true∧R (8+q)=false then w p q else 0) 8) 8+ak (fun q=>if R (8+q)=true then cap q else 0) 8
theorem over_net{w:Nat→Nat→Int}{spare cap:Nat→Int}{R:Nat→Bool}(Rs:R 16=true)(Rt:R 17=false):over 18 R (tnet w spare cap)=cutN w spare cap R:=by
 have nil:∀ u v,¬ (u=16∧v<8)→¬ (u<8∧8≤v∧v<16)→¬ (8≤u∧u<16∧v=17)→(if R u=true∧R v=false then tnet w spare cap u v else 0)=0:=fun u v h1 h2 h3=>by
  unfold tnet
  rw[if_neg h1,if_neg h2,if_neg h3]
  split <;> rfl
 have rowP:∀ u,u<8→ak (fun v=>if R u=true∧R v=false then tnet w spare cap u v else 0) 18=ak (fun q=>if R u=true∧R (8+q)=false then w u q else 0) 8:=fun u hu=>by
  rw[ZV]
  have e1:ak (fun v=>if R u=true∧R v=false then tnet w spare cap u v else 0) 8=0:=dX fun v hv=>nil u v (by omega) (by omega) (by omega)
  have e2:ak (fun i=>if R u=true∧R (8+i)=false then tnet w spare cap u (8+i) else 0) 8=ak (fun q=>if R u=true∧R (8+q)=false then w u q else 0) 8:=bz fun i hi=>by
   have:tnet w spare cap u (8+i)=w u i:=by
    unfold tnet
    rw[if_neg (by omega),if_pos ⟨hu,by omega,by omega⟩,show 8+i-8=i by omega]
   rw[this]
  rw[e1,e2,nil u 16 (by omega) (by omega) (by omega),nil u 17 (by omega) (by omega) (by omega)]
  omega
 have rowQ:∀ i,i<8→ak (fun v=>if R (8+i)=true∧R v=false then tnet w spare cap (8+i) v else 0) 18=if R (8+i)=true then cap i else 0:=fun i hi=>by
  rw[ZV]
  have e1:ak (fun v=>if R (8+i)=true∧R v=false then tnet w spare cap (8+i) v else 0) 8=0:=dX fun v hv=>nil (8+i) v (by omega) (by omega) (by omega)
  have e2:ak (fun j=>if R (8+i)=true∧R (8+j)=false then tnet w spare cap (8+i) (8+j) else 0) 8=0:=dX fun j hj=>nil (8+i) (8+j) (by omega) (by omega) (by omega)
  have e3:tnet w spare cap (8+i) 17=cap i:=by
   unfold tnet
   rw[if_neg (by omega),if_neg (by omega),if_pos ⟨by omega,by omega,rfl⟩,show 8+i-8=i by omega]
  rw[e1,e2,nil (8+i) 16 (by omega) (by omega) (by omega),e3,Rt]
  cases R (8+i) <;> simp
 have rowS:ak (fun v=>if R 16=true∧R v=false then tnet w spare cap 16 v else 0) 18=ak (fun p=>if R p=true then 0 else spare p) 8:=by
  rw[ZV]
  have e1:ak (fun v=>if R 16=true∧R v=false then tnet w spare cap 16 v else 0) 8=ak (fun p=>if R p=true then 0 else spare p) 8:=bz fun v hv=>by
   have:tnet w spare cap 16 v=spare v:=if_pos ⟨rfl,hv⟩
   rw[this,Rs]
   cases R v <;> simp
  have e2:ak (fun j=>if R 16=true∧R (8+j)=false then tnet w spare cap 16 (8+j) else 0) 8=0:=dX fun j hj=>nil 16 (8+j) (by omega) (by omega) (by omega)
  rw[e1,e2,nil 16 16 (by omega) (by omega) (by omega),nil 16 17 (by omega) (by omega) (by omega)]
  omega
 have rowT:ak (fun v=>if R 17=true∧R v=false then tnet w spare cap 17 v else 0) 18=0:=dX fun v hv=>by rw[Rt,if_neg (fun h=>by cases h.1)]
 unfold over cutN
 rw[ZV,bz rowP,bz rowQ,rowS,rowT]
 omega
theorem fill_cut{w:Nat→Nat→Int}{spare need:Nat→Int}{x:Int}{m:Net}(F:Filled 18 16 17 (tnet w spare need) x m):∃ R:Nat→Bool,x=cutN w spare need R:=by
 obtain⟨R,Rs,Rt,cut⟩:=F.cut
 refine⟨R,?_⟩
 rw[← F.worth,F.flow.worth (R:=R) (by omega) Rs Rt,← over_net Rs Rt]
 unfold over
 refine bz fun u hu=>bz fun v hv=>?_
 by_cases c:R u=true∧R v=false
 ·rw[if_pos c,if_pos c]
  have:=cut u v hu hv c.1 c.2
  show tnet w spare need u v-m u v=tnet w spare need u v
  omega
 ·rw[if_neg c,if_neg c]
theorem fills_cut{w:Nat→Nat→Int}{spare need more:Nat→Int}{x2:Int}{m m2:Net}(F:Filled 18 16 17 (tnet w spare need) (ak need 8) m)(F2:Filled 18 16 17 (anew m more) x2 m2):∃ R:Nat→Bool,ak need 8+x2=cutN w spare (fun q=>need q+more q) R:=by
 have z:=Sk F
 obtain⟨R,Rs,Rt,cut⟩:=F2.cut
 refine⟨R,?_⟩
 have w0:=(F.flow.add F2.flow).worth (R:=R) (by omega) Rs Rt
 rw[cQ] at w0
 have e1:=F.worth
 have e2:=F2.worth
 rw[← over_net Rs Rt]
 have:over 18 R (fun u v=>(tnet w spare need u v-m u v)+(anew m more u v-m2 u v))=over 18 R (tnet w spare (fun q=>need q+more q)):=by
  unfold over
  refine bz fun u hu=>bz fun v hv=>?_
  by_cases c:R u=true∧R v=false
  ·rw[if_pos c,if_pos c]
   have cz:=cut u v hu hv c.1 c.2
   show tnet w spare need u v-m u v+(anew m more u v-m2 u v)=tnet w spare (fun q=>need q+more q) u v
   rw[cz]
   unfold anew tnet
   by_cases d:8≤u∧u<16∧v=17
   ·have zz:=z u hu
    rw[d.2.2] at *
    rw[if_neg (by omega),if_neg (by omega),if_pos ⟨d.1,d.2.1,rfl⟩,if_pos ⟨d.1,d.2.1,rfl⟩,if_neg (by omega),if_neg (by omega),if_pos ⟨d.1,d.2.1,rfl⟩,zz]
    show need (u-8)-0+(more (u-8)-0)=need (u-8)+more (u-8)
    omega
   ·rw[if_neg d,if_neg d]
    by_cases d1:u=16∧v<8
    ·rw[if_pos d1,if_pos d1]; omega
    ·rw[if_neg d1,if_neg d1]
     by_cases d2:u<8∧8≤v∧v<16
     ·rw[if_pos d2,if_pos d2]; omega
     ·rw[if_neg d2,if_neg d2,if_neg d]; omega
  ·rw[if_neg c,if_neg c]
 rw[this] at w0
 have e1:ak (fun v=>tnet w spare need 16 v-m 16 v) 18=ak need 8:=e1
 have e2:ak (fun v=>anew m more 16 v-m2 16 v) 18=x2:=e2
 omega
section
variable (js ks ps L:List Int) (nj np:Nat) (A B:Nat→Bool) (b e:Bool)
noncomputable def yQ:Int:=
 ak (fun p=>if isN L p then(if b=true∧A p=false then yL ks L p else 0)+ak (fun o=>if A p=true∧B o=false then(sL js ks L nj np p).getD (o * 2) 0 else 0) 8 else 0) 8
  + ak (fun o=>if o<np∧B o=true∧e=false then ps.getD (o * 2) 0 else 0) 8
noncomputable def canC:Int:=
 ak (fun p=>if isN L p then(if b=false∧A p=true then yL ks L p else 0)+ak (fun o=>if A p=false∧B o=true then(sL js ks L nj np p).getD (o * 2+1) 0 else 0) 8 else 0) 8
  + ak (fun o=>if o<np∧B o=false∧e=true then ps.getD (o * 2+1) 0 else 0) 8
end
theorem Nj{c:Prop}[Decidable c]{f:Nat→Int}{n:Nat}:ak (fun i=>if c then f i else 0) n=if c then ak f n else 0:=by
 by_cases h:c
 ·rw[if_pos h]
  exact bz fun i _=>if_pos h
 ·rw[if_neg h]
  exact dX fun i _=>if_neg h
theorem cuts_of_sending{js ks ps L:List Int}{nj np:Nat}{T:Nat→Nat→Int}(ok:LaidNests js ks L nj np)(lo0:∀ p,isN L p→∀ q,0≤(sL js ks L nj np p).getD (q * 2) 0)(h:Sending js ks ps L nj np T)(A B:Nat→Bool)(b e:Bool)(hbe:b=true→e=true) :
  yQ js ks ps L nj np A B b e≤canC js ks ps L nj np A B b e:=by
 have np8:=ok.np8
 obtain⟨X,hX⟩:∃ X:Nat→Nat→Int,∀ p o,X p o=if isN L p then(sL js ks L nj np p).getD (o * 2) 0+T p o else 0:=⟨_,fun _ _=>rfl⟩
 have Xn:∀ p,isN L p→∀ o,X p o=(sL js ks L nj np p).getD (o * 2) 0+T p o:=fun p hp o=>by rw[hX,if_pos hp]
 have Xz:∀ p,¬ isN L p→∀ o,X p o=0:=fun p hp o=>by rw[hX,if_neg hp]
 have X0:∀ p o,0≤X p o:=fun p o=>by
  by_cases c:isN L p
  ·rw[Xn p c]
   have:=lo0 p c o
   have:=h.ge p o
   omega
  ·rw[Xz p c]; exact Int.le_refl _
 have Xfar:∀ p o,np≤o→X p o=0:=fun p o ho=>by
  by_cases c:isN L p
  ·rw[Xn p c,(ok.far p c o ho).1,sending_far ok h.ge h.le ho]; rfl
  ·exact Xz p c o
 have Xrow:∀ p,isN L p→ak (X p) 8=yL ks L p:=fun p hp=>by
  have r:=h.row p hp.1
  unfold cx at r
  rw[if_pos hp] at r
  have:ak (X p) 8=ak (fun o=>(sL js ks L nj np p).getD (o * 2) 0) 8+ak (T p) 8:=by
   rw[← cQ]
   exact bz fun o _=>Xn p hp o
  have t:total (sL js ks L nj np p) 0=ak (fun o=>(sL js ks L nj np p).getD (o * 2) 0) 8:=rfl
  omega
 have Xcol:∀ o,ak (fun p=>X p o) 8=lowL js ks L nj np o 8+ak (fun p=>T p o) 8:=fun o=>by
  unfold lowL
  rw[← cQ]
  refine bz fun p hp=>?_
  by_cases c:isN L p
  ·rw[if_pos c,Xn p c]
  ·rw[if_neg c,Xz p c]
   have a:=h.ge p o
   have d:=h.le p o
   unfold wL at d
   rw[if_neg c] at d
   omega
 have hi:∀ p,isN L p→∀ o,(sL js ks L nj np p).getD (o * 2) 0≤X p o∧X p o≤(sL js ks L nj np p).getD (o * 2+1) 0:=fun p hp o=>by
  rw[Xn p hp]
  have a:=h.ge p o
  have d:=h.le p o
  unfold wL at d
  rw[if_pos hp] at d
  omega
 have up:yQ js ks ps L nj np A B b e≤ak (fun p=>ak (fun o=>(if b=true∧A p=false then X p o else 0)+(if A p=true∧B o=false then X p o else 0)) 8) 8+ak (fun p=>ak (fun o=>if o<np∧B o=true∧e=false then X p o else 0) 8) 8:=by
  unfold yQ
  have l1:∀ p,p<8→(if isN L p then(if b=true∧A p=false then yL ks L p else 0)+ak (fun o=>if A p=true∧B o=false then(sL js ks L nj np p).getD (o * 2) 0 else 0) 8 else 0)≤ak (fun o=>(if b=true∧A p=false then X p o else 0)+(if A p=true∧B o=false then X p o else 0)) 8:=fun p hp=>by
   rw[cQ,Nj]
   by_cases c:isN L p
   ·rw[if_pos c,show ak (fun i=>X p i) 8=ak (X p) 8 from rfl,Xrow p c]
    have:=iJ (f:=fun o=>if A p=true∧B o=false then(sL js ks L nj np p).getD (o * 2) 0 else 0) (g:=fun o=>if A p=true∧B o=false then X p o else 0) (i:=8) fun o _=>by
     by_cases d:A p=true∧B o=false
     ·show(if A p=true∧B o=false then _ else 0)≤(if A p=true∧B o=false then _ else 0)
      rw[if_pos d,if_pos d]; exact(hi p c o).1
     ·show(if A p=true∧B o=false then _ else 0)≤(if A p=true∧B o=false then _ else 0)
      rw[if_neg d,if_neg d]; exact Int.le_refl _
    omega
   ·rw[if_neg c]
    have z1:ak (fun i=>X p i) 8=0:=dX fun o _=>Xz p c o
    have z2:ak (fun o=>if A p=true∧B o=false then X p o else 0) 8=0:=dX fun o _=>by rw[Xz p c]; split <;> rfl
    rw[z1,z2]
    split <;> omega
  have l2:ak (fun o=>if o<np∧B o=true∧e=false then ps.getD (o * 2) 0 else 0) 8≤ak (fun p=>ak (fun o=>if o<np∧B o=true∧e=false then X p o else 0) 8) 8:=by
   rw[DJ]
   refine iJ fun o _=>?_
   rw[Nj]
   by_cases c:o<np∧B o=true∧e=false
   ·rw[if_pos c,if_pos c,Xcol]; exact(h.col o c.1).1
   ·rw[if_neg c,if_neg c]; exact Int.le_refl _
  have:=iJ (i:=8) l1
  omega
 have low:ak (fun p=>ak (fun o=>(if b=false∧A p=true then X p o else 0)+(if A p=false∧B o=true then X p o else 0)) 8) 8+ak (fun p=>ak (fun o=>if o<np∧B o=false∧e=true then X p o else 0) 8) 8≤canC js ks ps L nj np A B b e:=by
  unfold canC
  have l1:∀ p,p<8→ak (fun o=>(if b=false∧A p=true then X p o else 0)+(if A p=false∧B o=true then X p o else 0)) 8≤(if isN L p then(if b=false∧A p=true then yL ks L p else 0)+ak (fun o=>if A p=false∧B o=true then(sL js ks L nj np p).getD (o * 2+1) 0 else 0) 8 else 0):=fun p hp=>by
   rw[cQ,Nj]
   by_cases c:isN L p
   ·rw[if_pos c,show ak (fun i=>X p i) 8=ak (X p) 8 from rfl,Xrow p c]
    have:=iJ (f:=fun o=>if A p=false∧B o=true then X p o else 0) (g:=fun o=>if A p=false∧B o=true then(sL js ks L nj np p).getD (o * 2+1) 0 else 0) (i:=8) fun o _=>by
     by_cases d:A p=false∧B o=true
     ·show(if A p=false∧B o=true then _ else 0)≤(if A p=false∧B o=true then _ else 0)
      rw[if_pos d,if_pos d]; exact(hi p c o).2
     ·show(if A p=false∧B o=true then _ else 0)≤(if A p=false∧B o=true then _ else 0)
      rw[if_neg d,if_neg d]; exact Int.le_refl _
    omega
   ·rw[if_neg c]
    have z1:ak (fun i=>X p i) 8=0:=dX fun o _=>Xz p c o
    have z2:ak (fun o=>if A p=false∧B o=true then X p o else 0) 8=0:=dX fun o _=>by rw[Xz p c]; split <;> rfl
    rw[z1,z2]
    split <;> omega
  have l2:ak (fun p=>ak (fun o=>if o<np∧B o=false∧e=true then X p o else 0) 8) 8≤ak (fun o=>if o<np∧B o=false∧e=true then ps.getD (o * 2+1) 0 else 0) 8:=by
   rw[DJ]
   refine iJ fun o _=>?_
   rw[Nj]
   by_cases c:o<np∧B o=false∧e=true
   ·rw[if_pos c,if_pos c,Xcol]; exact(h.col o c.1).2
   ·rw[if_neg c,if_neg c]; exact Int.le_refl _
  have:=iJ (i:=8) l1
  omega
 refine Int.le_trans up (Int.le_trans ?_ low)
 rw[← cQ,← cQ]
 refine iJ fun p _=>?_
 rw[← cQ,← cQ]
 refine iJ fun o _=>?_
 by_cases ho:o<np
 ·have:=X0 p o
  cases b <;> cases e <;> cases A p <;> cases B o <;> simp [ho] <;> first | omega | (have:=hbe rfl; cases this)
 ·have z:=Xfar p o (by omega)
  simp only[z]
  cases b <;> cases e <;> cases A p <;> cases B o <;> simp
end Go.Proofs.Ytndkmmelelchcaa.spec
end
section
namespace Go.Proofs.Ytndkmmelelchcaa.spec
open Go Go.Ev Go.Proofs.Ytndkmmelelchcaa.nestFits Go.Proofs.Ytndkmmelelchcaa.G
set_option maxRecDepth 100000
noncomputable def loL(js ks L:List Int)(nj np p q:Nat):Int:=if isN L p then(sL js ks L nj np p).getD (q * 2) 0 else 0
theorem Px(f:Nat→Int)(B:Nat→Bool)(n:Nat):ak f n=ak (fun o=>if B o=true then f o else 0) n+ak (fun o=>if B o=false then f o else 0) n:=by
 rw[← cQ]
 refine bz fun o _=>?_
 cases B o <;> simp
theorem low_sum(js ks L:List Int)(nj np:Nat)(B:Nat→Bool)(v:Bool):ak (fun p=>ak (fun o=>if B o=v then loL js ks L nj np p o else 0) 8) 8=ak (fun o=>if B o=v then lowL js ks L nj np o 8 else 0) 8:=by
 rw[DJ]
 refine bz fun o _=>?_
 rw[Nj]
 rfl
theorem cut_room{js ks ps L:List Int}{nj np q:Nat}(np8:np≤8)(hq:q<np)(h:ps.getD (q * 2+1) 0<lowL js ks L nj np q 8) :
  ∃ A B:Nat→Bool,canC js ks ps L nj np A B true true<yQ js ks ps L nj np A B true true:=by
 refine⟨fun _=>true,fun o=>!(o == q),?_⟩
 have e1:canC js ks ps L nj np (fun _=>true) (fun o=>!(o == q)) true true=ps.getD (q * 2+1) 0:=by
  unfold canC
  have z:ak (fun p=>if isN L p then(if true=false∧true=true then yL ks L p else 0)+ak (fun o=>if true=false∧(!(o == q))=true then(sL js ks L nj np p).getD (o * 2+1) 0 else 0) 8 else 0) 8=0:=dX fun p _=>by
   have:ak (fun o=>if true=false∧(!(o == q))=true then(sL js ks L nj np p).getD (o * 2+1) 0 else 0) 8=0:=dX fun o _=>if_neg (fun h=>by cases h.1)
   rw[this]
   split <;> simp
  rw[z,wW (s:=q) (by omega) fun o _ ho=>if_neg (fun h=>by have:=h.2.1; simp [ho] at this)]
  simp [hq]
 have e2:yQ js ks ps L nj np (fun _=>true) (fun o=>!(o == q)) true true=lowL js ks L nj np q 8:=by
  unfold yQ
  have z:ak (fun o=>if o<np∧(!(o == q))=true∧true=false then ps.getD (o * 2) 0 else 0) 8=0:=dX fun o _=>if_neg (fun h=>by cases h.2.2)
  rw[z]
  unfold lowL
  have:ak (fun p=>if isN L p then(if true=true∧true=false then yL ks L p else 0)+ak (fun o=>if true=true∧(!(o == q))=false then(sL js ks L nj np p).getD (o * 2) 0 else 0) 8 else 0) 8=ak (fun p=>if isN L p then(sL js ks L nj np p).getD (q * 2) 0 else 0) 8:=bz fun p _=>by
   by_cases c:isN L p
   ·rw[if_pos c,if_pos c,wW (s:=q) (by omega) fun o _ ho=>if_neg (fun h=>by have:=h.2; simp [ho] at this)]
    simp
   ·rw[if_neg c,if_neg c]
  rw[this]
  omega
 rw[e1,e2]
 exact h
theorem cut_first{js ks ps L:List Int}{nj np:Nat}{R:Nat→Bool}(ok:LaidNests js ks L nj np)(h:cutN (wL js ks L nj np) (cx js ks L nj np) (eJ js ks ps L nj np) R<ak (eJ js ks ps L nj np) 8) :
  ∃ A B:Nat→Bool,canC js ks ps L nj np A B false false<yQ js ks ps L nj np A B false false:=by
 obtain⟨A,hA⟩:∃ A:Nat→Bool,∀ p,A p=!R p:=⟨_,fun _=>rfl⟩
 obtain⟨B,hB⟩:∃ B:Nat→Bool,∀ o,B o=decide (o<np∧R (8+o)=false∧lowL js ks L nj np o 8<ps.getD (o * 2) 0):=⟨_,fun _=>rfl⟩
 refine⟨A,B,?_⟩
 have hBt:∀ o,B o=true→o<np∧R (8+o)=false∧lowL js ks L nj np o 8<ps.getD (o * 2) 0:=fun o h=>by rw[hB] at h; exact of_decide_eq_true h
 have hBf:∀ o,B o=false→¬ (o<np∧R (8+o)=false∧lowL js ks L nj np o 8<ps.getD (o * 2) 0):=fun o h=>by rw[hB] at h; exact of_decide_eq_false h
 have each:∀ p,p<8→(if isN L p then(if false=false∧A p=true then yL ks L p else 0)+ak (fun o=>if A p=false∧B o=true then(sL js ks L nj np p).getD (o * 2+1) 0 else 0) 8 else 0) =
   (if isN L p then(if false=true∧A p=false then yL ks L p else 0)+ak (fun o=>if A p=true∧B o=false then(sL js ks L nj np p).getD (o * 2) 0 else 0) 8 else 0) +
   ((if R p=true then 0 else cx js ks L nj np p)+ak (fun o=>if R p=true∧B o=true then wL js ks L nj np p o else 0) 8+ak (fun o=>if B o=true then loL js ks L nj np p o else 0) 8):=fun p hp=>by
  by_cases c:isN L p
  ·rw[if_pos c,if_pos c]
   have sp:cx js ks L nj np p=yL ks L p-ak (fun o=>(sL js ks L nj np p).getD (o * 2) 0) 8:=if_pos c
   have s2:=Px (fun o=>(sL js ks L nj np p).getD (o * 2) 0) B 8
   have l1:ak (fun o=>if B o=true then loL js ks L nj np p o else 0) 8=ak (fun o=>if B o=true then(sL js ks L nj np p).getD (o * 2) 0 else 0) 8:=bz fun o _=>by unfold loL; rw[if_pos c]
   rw[l1,sp]
   have a:=hA p
   cases r:R p with
   | true=>
    have a:A p=false:=by rw[a,r]; rfl
    simp only[a,true_and,Bool.false_eq_true,false_and,and_false,if_false,if_true,and_true,reduceCtorEq]
    have z:ak (fun _=>(0:Int)) 8=0:=jW 8
    rw[z]
    have:ak (fun o=>if B o=true then(sL js ks L nj np p).getD (o * 2+1) 0 else 0) 8=ak (fun o=>if B o=true then wL js ks L nj np p o else 0) 8+ak (fun o=>if B o=true then(sL js ks L nj np p).getD (o * 2) 0 else 0) 8:=by
     rw[← cQ]
     refine bz fun o _=>?_
     unfold wL
     rw[if_pos c]
     cases B o <;> simp
    omega
   | false=>
    have a:A p=true:=by rw[a,r]; rfl
    simp only[a,true_and,Bool.false_eq_true,false_and,and_false,if_false,if_true,and_true,reduceCtorEq]
    have z:ak (fun _=>(0:Int)) 8=0:=jW 8
    rw[z]
    omega
  ·rw[if_neg c,if_neg c]
   have z1:ak (fun o=>if R p=true∧B o=true then wL js ks L nj np p o else 0) 8=0:=dX fun o _=>by unfold wL; rw[if_neg c]; split <;> rfl
   have z2:ak (fun o=>if B o=true then loL js ks L nj np p o else 0) 8=0:=dX fun o _=>by unfold loL; rw[if_neg c]; split <;> rfl
   have z3:cx js ks L nj np p=0:=if_neg c
   rw[z1,z2,z3]
   split <;> rfl
 have can0:canC js ks ps L nj np A B false false=ak (fun p=>(if isN L p then(if false=false∧A p=true then yL ks L p else 0)+ak (fun o=>if A p=false∧B o=true then(sL js ks L nj np p).getD (o * 2+1) 0 else 0) 8 else 0)) 8:=by
  unfold canC
  have z:ak (fun o=>if o<np∧B o=false∧false=true then ps.getD (o * 2+1) 0 else 0) 8=0:=dX fun o _=>if_neg (fun h=>by cases h.2.2)
  rw[z]
  omega
 rw[can0,bz each,cQ,cQ,cQ,low_sum]
 unfold yQ cutN at *
 have need:ak (eJ js ks ps L nj np) 8=ak (fun q=>if R (8+q)=true then eJ js ks ps L nj np q else 0) 8+ak (fun q=>if R (8+q)=false then eJ js ks ps L nj np q else 0) 8:=Px _ (fun q=>R (8+q)) 8
 have lw:ak (fun p=>ak (fun o=>if R p=true∧B o=true then wL js ks L nj np p o else 0) 8) 8≤ak (fun p=>ak (fun q=>if R p=true∧R (8+q)=false then wL js ks L nj np p q else 0) 8) 8:=by
  refine iJ fun p _=>iJ fun o _=>?_
  by_cases d:R p=true∧B o=true
  ·rw[if_pos d,if_pos ⟨d.1,(hBt o d.2).2.1⟩]; exact Int.le_refl _
  ·rw[if_neg d]
   split
   ·unfold wL
    by_cases c:isN L p
    ·rw[if_pos c]
     have:=ok.le p c o
     omega
    ·rw[if_neg c]; exact Int.le_refl _
   ·exact Int.le_refl _
 have nd:ak (fun q=>if R (8+q)=false then eJ js ks ps L nj np q else 0) 8+ak (fun o=>if B o=true then lowL js ks L nj np o 8 else 0) 8=ak (fun o=>if o<np∧B o=true∧false=false then ps.getD (o * 2) 0 else 0) 8:=by
  rw[← cQ]
  refine bz fun o _=>?_
  unfold eJ
  cases d:B o with
  | true=>
   obtain⟨h1,h2,h3⟩:=hBt o d
   rw[if_pos h2,if_pos h1]
   simp only[if_true,and_self,and_true,h1]
   omega
  | false=>
   have:=hBf o d
   simp only[Bool.false_eq_true,if_false,false_and,and_false]
   by_cases h1:o<np
   ·rw[if_pos h1]
    by_cases h2:R (8+o)=false
    ·rw[if_pos h2]
     have:¬ lowL js ks L nj np o 8<ps.getD (o * 2) 0:=fun h=>this ⟨h1,h2,h⟩
     omega
    ·rw[if_neg h2]; omega
   ·rw[if_neg h1]; split <;> omega
 omega
theorem cut_second{js ks ps L:List Int}{nj np:Nat}{R:Nat→Bool}(ok:LaidNests js ks L nj np)(h:cutN (wL js ks L nj np) (cx js ks L nj np) (fun q=>eJ js ks ps L nj np q+rK js ks ps L nj np q) R<ak (cx js ks L nj np) 8) :
  ∃ A B:Nat→Bool,canC js ks ps L nj np A B true true<yQ js ks ps L nj np A B true true:=by
 obtain⟨A,hA⟩:∃ A:Nat→Bool,∀ p,A p=!R p:=⟨_,fun _=>rfl⟩
 obtain⟨B,hB⟩:∃ B:Nat→Bool,∀ o,B o=!R (8+o):=⟨_,fun _=>rfl⟩
 refine⟨A,B,?_⟩
 have each:∀ p,p<8→(if isN L p then(if true=false∧A p=true then yL ks L p else 0)+ak (fun o=>if A p=false∧B o=true then(sL js ks L nj np p).getD (o * 2+1) 0 else 0) 8 else 0)+((if R p=true then cx js ks L nj np p else 0)+ak (fun o=>if B o=false then loL js ks L nj np p o else 0) 8) =
   (if isN L p then(if true=true∧A p=false then yL ks L p else 0)+ak (fun o=>if A p=true∧B o=false then(sL js ks L nj np p).getD (o * 2) 0 else 0) 8 else 0)+ak (fun o=>if R p=true∧R (8+o)=false then wL js ks L nj np p o else 0) 8:=fun p hp=>by
  by_cases c:isN L p
  ·rw[if_pos c,if_pos c]
   have sp:cx js ks L nj np p=yL ks L p-ak (fun o=>(sL js ks L nj np p).getD (o * 2) 0) 8:=if_pos c
   have s2:=Px (fun o=>(sL js ks L nj np p).getD (o * 2) 0) B 8
   have l1:ak (fun o=>if B o=false then loL js ks L nj np p o else 0) 8=ak (fun o=>if B o=false then(sL js ks L nj np p).getD (o * 2) 0 else 0) 8:=bz fun o _=>by unfold loL; rw[if_pos c]
   rw[l1,sp]
   have a:=hA p
   have z:ak (fun _=>(0:Int)) 8=0:=jW 8
   cases r:R p with
   | true=>
    have a:A p=false:=by rw[a,r]; rfl
    simp only[a,true_and,Bool.false_eq_true,false_and,and_false,if_false,if_true,and_true,reduceCtorEq]
    rw[z]
    have:ak (fun o=>if B o=true then(sL js ks L nj np p).getD (o * 2+1) 0 else 0) 8=ak (fun o=>if R (8+o)=false then wL js ks L nj np p o else 0) 8+ak (fun o=>if B o=true then(sL js ks L nj np p).getD (o * 2) 0 else 0) 8:=by
     rw[← cQ]
     refine bz fun o _=>?_
     unfold wL
     rw[if_pos c]
     have hb:=hB o
     cases q:R (8+o) with
     | true=>
      have hb:B o=false:=by rw[hb,q]; rfl
      rw[hb]
      simp
     | false=>
      have hb:B o=true:=by rw[hb,q]; rfl
      rw[hb]
      simp
    omega
   | false=>
    have a:A p=true:=by rw[a,r]; rfl
    simp only[a,true_and,Bool.false_eq_true,false_and,and_false,if_false,if_true,and_true,reduceCtorEq]
    rw[z]
    omega
  ·rw[if_neg c,if_neg c]
   have z1:ak (fun o=>if R p=true∧R (8+o)=false then wL js ks L nj np p o else 0) 8=0:=dX fun o _=>by unfold wL; rw[if_neg c]; split <;> rfl
   have z2:ak (fun o=>if B o=false then loL js ks L nj np p o else 0) 8=0:=dX fun o _=>by unfold loL; rw[if_neg c]; split <;> rfl
   have z3:cx js ks L nj np p=0:=if_neg c
   rw[z1,z2,z3]
   split <;> rfl
 have all:=bz each
 rw[cQ,cQ,cQ,low_sum] at all
 have must0:yQ js ks ps L nj np A B true true=ak (fun p=>(if isN L p then(if true=true∧A p=false then yL ks L p else 0)+ak (fun o=>if A p=true∧B o=false then(sL js ks L nj np p).getD (o * 2) 0 else 0) 8 else 0)) 8:=by
  unfold yQ
  have z:ak (fun o=>if o<np∧B o=true∧true=false then ps.getD (o * 2) 0 else 0) 8=0:=dX fun o _=>if_neg (fun h=>by cases h.2.2)
  rw[z]
  omega
 rw[must0]
 unfold canC cutN at *
 have sp:ak (cx js ks L nj np) 8=ak (fun p=>if R p=true then cx js ks L nj np p else 0) 8+ak (fun p=>if R p=false then cx js ks L nj np p else 0) 8:=Px _ R 8
 have sp2:ak (fun p=>if R p=true then 0 else cx js ks L nj np p) 8=ak (fun p=>if R p=false then cx js ks L nj np p else 0) 8:=bz fun p _=>by cases R p <;> rfl
 have rm:ak (fun o=>if o<np∧B o=false∧true=true then ps.getD (o * 2+1) 0 else 0) 8=ak (fun o=>if B o=false then lowL js ks L nj np o 8 else 0) 8+ak (fun q=>if R (8+q)=true then eJ js ks ps L nj np q+rK js ks ps L nj np q else 0) 8:=by
  rw[← cQ]
  refine bz fun o _=>?_
  unfold eJ rK
  have hb:=hB o
  by_cases h1:o<np
  ·rw[if_pos h1,if_pos h1]
   cases q:R (8+o) with
   | true=>
    have hb:B o=false:=by rw[hb,q]; rfl
    rw[hb,if_pos ⟨h1,rfl,rfl⟩,if_pos rfl,if_pos rfl]
    omega
   | false=>
    have hb:B o=true:=by rw[hb,q]; rfl
    rw[hb,if_neg (fun h=>by cases h.2.1),if_neg (fun h=>by cases h),if_neg (fun h=>by cases h)]
    rfl
  ·rw[if_neg h1,if_neg h1]
   have z:lowL js ks L nj np o 8=0:=dX fun p _=>by
    by_cases c:isN L p
    ·rw[if_pos c]; exact(ok.far p c o (by omega)).1
    ·rw[if_neg c]
   rw[z]
   simp [h1]
 have h:ak (fun p=>if R p=true then 0 else cx js ks L nj np p) 8+ak (fun p=>ak (fun q=>if R p=true∧R (8+q)=false then wL js ks L nj np p q else 0) 8) 8+ak (fun q=>if R (8+q)=true then eJ js ks ps L nj np q+rK js ks ps L nj np q else 0) 8<ak (cx js ks L nj np) 8:=h
 omega
end Go.Proofs.Ytndkmmelelchcaa.spec
end
section
namespace Go.Proofs.Ytndkmmelelchcaa.spec
open Go Go.Ev Go.Proofs.Ytndkmmelelchcaa.nestFits Go.Proofs.Ytndkmmelelchcaa.G
set_option maxRecDepth 100000
variable {ρ:Type}
noncomputable def netQ(js ks L:List Int)(nj np i p:Nat):Net:=fun u v=>
 if u=16∧v≤i∧v<8 then cx js ks L nj np v else if(u<i∨(u=i∧v<8+p))∧u<8∧8≤v∧v<16 then wL js ks L nj np u (v-8) else 0
noncomputable def netP(js ks L:List Int)(nj np i:Nat):Net:=fun u v=>
 if u=16∧v<i∧v<8 then cx js ks L nj np v else if u<i∧u<8∧8≤v∧v<16 then wL js ks L nj np u (v-8) else 0
theorem netP_first{js ks L:List Int}{nj np i:Nat}(hi:i<8):setN (netP js ks L nj np i) 16 i (cx js ks L nj np i)=netQ js ks L nj np i 0:=by
 funext u v
 unfold setN netP netQ
 by_cases c1:u=16∧v=i
 ·rw[if_pos c1,if_pos ⟨c1.1,by omega,by omega⟩,c1.2]
 ·rw[if_neg c1]
  by_cases c2:u=16∧v<i∧v<8
  ·rw[if_pos c2,if_pos ⟨c2.1,by omega,c2.2.2⟩]
  ·rw[if_neg c2,if_neg (show ¬ (u=16∧v≤i∧v<8) by omega)]
   by_cases c3:u<i∧u<8∧8≤v∧v<16
   ·rw[if_pos c3,if_pos ⟨.inl c3.1,c3.2⟩]
   ·rw[if_neg c3,if_neg (show ¬ ((u<i∨(u=i∧v<8+0))∧u<8∧8≤v∧v<16) by omega)]
theorem netQ_step{js ks L:List Int}{nj np i p:Nat}(hi:i<8)(hp:p<8):setN (netQ js ks L nj np i p) i (8+p) (wL js ks L nj np i p)=netQ js ks L nj np i (p+1):=by
 funext u v
 unfold setN netQ
 by_cases c1:u=i∧v=8+p
 ·rw[if_pos c1,if_neg (by omega),if_pos ⟨.inr ⟨c1.1,by omega⟩,by omega,by omega,by omega⟩,c1.1,c1.2,show 8+p-8=p by omega]
 ·rw[if_neg c1]
  by_cases c2:u=16∧v≤i∧v<8
  ·rw[if_pos c2,if_pos c2]
  ·rw[if_neg c2,if_neg c2]
   by_cases c3:(u<i∨(u=i∧v<8+p))∧u<8∧8≤v∧v<16
   ·rw[if_pos c3,if_pos (show(u<i∨(u=i∧v<8+(p+1)))∧u<8∧8≤v∧v<16 by omega)]
   ·rw[if_neg c3,if_neg (show ¬ ((u<i∨(u=i∧v<8+(p+1)))∧u<8∧8≤v∧v<16) by omega)]
theorem netQ_last{js ks L:List Int}{nj np i:Nat}(_hi:i<8):netQ js ks L nj np i 8=netP js ks L nj np (i+1):=by
 funext u v
 unfold netP netQ
 by_cases c2:u=16∧v≤i∧v<8
 ·rw[if_pos c2,if_pos ⟨c2.1,by omega,c2.2.2⟩]
 ·rw[if_neg c2,if_neg (show ¬ (u=16∧v<i+1∧v<8) by omega)]
  by_cases c3:(u<i∨(u=i∧v<8+8))∧u<8∧8≤v∧v<16
  ·rw[if_pos c3,if_pos (show u<i+1∧u<8∧8≤v∧v<16 by omega)]
  ·rw[if_neg c3,if_neg (show ¬ (u<i+1∧u<8∧8≤v∧v<16) by omega)]
theorem netP_skip{js ks L:List Int}{nj np i:Nat}(h:L.getD i 0=-1):netP js ks L nj np (i+1)=netP js ks L nj np i:=by
 have hn:¬ isN L i:=fun h'=>h'.2 h
 funext u v
 unfold netP
 by_cases c1:u=16∧v=i∧v<8
 ·rw[if_pos (show u=16∧v<i+1∧v<8 by omega),if_neg (show ¬ (u=16∧v<i∧v<8) by omega),if_neg (show ¬ (u<i∧u<8∧8≤v∧v<16) by omega),c1.2.1]
  exact if_neg hn
 ·by_cases c2:u=16∧v<i∧v<8
  ·rw[if_pos (show u=16∧v<i+1∧v<8 by omega),if_pos c2]
  ·rw[if_neg (show ¬ (u=16∧v<i+1∧v<8) by omega),if_neg c2]
   by_cases c3:u=i∧u<8∧8≤v∧v<16
   ·rw[if_pos (show u<i+1∧u<8∧8≤v∧v<16 by omega),if_neg (show ¬ (u<i∧u<8∧8≤v∧v<16) by omega),c3.1]
    exact if_neg hn
   ·by_cases c4:u<i∧u<8∧8≤v∧v<16
    ·rw[if_pos (show u<i+1∧u<8∧8≤v∧v<16 by omega),if_pos c4]
    ·rw[if_neg (show ¬ (u<i+1∧u<8∧8≤v∧v<16) by omega),if_neg c4]
theorem two_get{S:List Int}(hS:S.length=16){p:Nat}(hp:p<8):((ints S).drop (p * 2)).take 2=[.int .i64 (S.getD (p * 2) 0),.int .i64 (S.getD (p * 2+1) 0)]:=by
 apply List.ext_getElem?
 intro j
 match j with
 | 0=>rw[List.getElem?_take,if_pos (by omega),List.getElem?_drop,gX (getD_some (by omega))]; rfl
 | 1=>rw[List.getElem?_take,if_pos (by omega),List.getElem?_drop,gX (getD_some (by omega))]; rfl
 | j+2=>rw[List.getElem?_take,if_neg (by omega)]; rfl
def ov(H:Hp)(b:Nat)(js ks L:List Int)(nj np i p:Nat):Prop:=∃ X:List Int,X.length=8∧H.get b=some (.cells (ints X) 118 false none)∧∀ q,q<8→X.getD q 0=lowL js ks L nj np q (if q<p then i+1 else i)
theorem Xy{js ks L:List Int}{nj np:Nat}(hb:∀ p,isN L p→fZ (sL js ks L nj np p))(q:Nat):∀ i,0≤lowL js ks L nj np q i∧lowL js ks L nj np q i≤i * 1000
 | 0=>by unfold lowL; simp only[ak]; omega
 | i+1=>by
  have:=Xy hb q i
  unfold lowL at this ⊢
  simp only[ak]
  by_cases c:isN L i
  ·rw[if_pos c]
   have:=hb i c (q * 2)
   omega
  ·rw[if_neg c]; omega
theorem arcs_loop(c:Cal)(k lp:Nat){js ks L S:List Int}{nj np i u6 u7 rb base:Nat}(hN:isN L i)(hS:S=sL js ks L nj np i)(hlen:S.length=16)(hb:∀ p,isN L p→fZ (sL js ks L nj np p))(hi:i<8)
  (l6:u6<base) (l7:u7<base) (lr:rb<base) (n6:u6≠rb) (n67:u6≠u7) (n7:u7≠rb) (D:List Nat) :
  ∀(m p:Nat) (H:Hp) (n:Nat),p≤8→8-p≤m→base≤n→H.get u6=some (.cells [.map (some rb)] 160 false none)→gk H rb (netQ js ks L nj np i p)→ov H u7 js ks L nj np i p →
  ∃ T' H' n',PX c k lp m (.pointer (some ⟨u6,0,none⟩)) (.pointer (some ⟨u7,0,none⟩)) (.int .i64 i) (.agg ⟨ints S⟩) (.int .i64 p) H n D=some (.norm,{ T:=T',H:=H',n:=n',D:=D })∧n≤n'∧gk H' rb (netQ js ks L nj np i 8)∧ov H' u7 js ks L nj np i 8∧∀ b,b<n→b≠rb→b≠u7→H'.get b=H.get b:=by
 have body:∀(b1:W5 (Ex × St)) (m p:Nat) (H:Hp) (n:Nat),p≤8→base≤n→H.get u6=some (.cells [.map (some rb)] 160 false none)→gk H rb (netQ js ks L nj np i p)→ov H u7 js ks L nj np i p →
   (∀(H':Hp) (n':Nat),p<8→n≤n'→H'.get u6=some (.cells [.map (some rb)] 160 false none)→gk H' rb (netQ js ks L nj np i (p+1))→ov H' u7 js ks L nj np i (p+1) →
    ∃ T2 H2 n2,b1 (.pointer (some ⟨u6,0,none⟩)) (.pointer (some ⟨u7,0,none⟩)) (.int .i64 i) (.agg ⟨ints S⟩) (.int .i64 ((p+1:Nat):Int)) H' n' D=some (.norm,{ T:=T2,H:=H2,n:=n2,D:=D })∧n'≤n2∧gk H2 rb (netQ js ks L nj np i 8)∧ov H2 u7 js ks L nj np i 8∧∀ b,b<n'→b≠rb→b≠u7→H2.get b=H'.get b) →
   ∃ T' H' n',PW c k lp m b1 (.pointer (some ⟨u6,0,none⟩)) (.pointer (some ⟨u7,0,none⟩)) (.int .i64 i) (.agg ⟨ints S⟩) (.int .i64 p) H n D=some (.norm,{ T:=T',H:=H',n:=n',D:=D })∧n≤n'∧gk H' rb (netQ js ks L nj np i 8)∧ov H' u7 js ks L nj np i 8∧∀ b,b<n→b≠rb→b≠u7→H'.get b=H.get b:=by
  intro b1 m p H n hp hbn h6 hnet hlow ih
  unfold PW B78b0_1
  rw[aJ dq,jx]
  by_cases hlt:p<8
  ·have hI1:I64 ((p:Int)+1):=by unfold I64; omega
   have hc1:((p:Int)+1)=((p+1:Nat):Int):=by omega
   have hI0:I64 (0+(i:Int)):=by unfold I64; omega
   have hI8:I64 (8+(p:Int)):=by unfold I64; omega
   have hb0:=hb i hN (p * 2)
   have hb1:=hb i hN (p * 2+1)
   rw[← hS] at hb0 hb1
   have hI2:I64 (S.getD (p * 2+1) 0-S.getD (p * 2) 0):=by unfold I64; omega
   obtain⟨X,x1,x2,x3⟩:=hlow
   have xp:=x3 p hlt
   rw[if_neg (by omega)] at xp
   have sm:=Xy (nj:=nj) (np:=np) (js:=js) (ks:=ks) hb p i
   have hI3:I64 (X.getD p 0+S.getD (p * 2) 0):=by rw[xp]; unfold I64; omega
   obtain⟨H1,k1,k2,k3⟩:=qx (P:=P) (ρ:=Ex × St) (H:=H) (n:=n) (L:=[.int .i64 (S.getD (p * 2) 0),.int .i64 (S.getD (p * 2+1) 0)]) zero53 rfl sz53 rfl rfl
   have c1:aZ H1 n 0 [.int .i64 (S.getD (p * 2) 0),.int .i64 (S.getD (p * 2+1) 0)]:=cY k2
   obtain⟨H2,e1,e2,e3⟩:=qcw (hnet.keep (k1 rb (by omega))) i (8+p) (S.getD (p * 2+1) 0-S.getD (p * 2) 0)
   have c2:aZ H2 n 0 [.int .i64 (S.getD (p * 2) 0),.int .i64 (S.getD (p * 2+1) 0)]:=cY ((e3 n (by omega)).trans k2)
   have x2':H2.get u7=some (.cells (ints X) 118 false none):=(e3 u7 n7).trans ((k1 u7 (by omega)).trans x2)
   have lX:az P H2 3 ⟨u7,0+p * 1,none⟩=some (.int .i64 (X.getD p 0)):=bq (k:=p * 1) (cY x2') agg3 (by rw[Nat.mul_one]; exact gX (getD_some (by omega)))
   have a8:(8+(p:Int))=((8+p:Nat):Int):=by omega
   have hst:=Pj (a:=X.getD p 0+S.getD (p * 2) 0) x2' (o:=p) (by omega)
   rw[if_pos (by omega),WV hlen hlt,aj,two_get hlen hlt,k3,aQ,aj,iy ((k1 u6 (by omega)).trans h6) xy rfl rfl,aj,aJ (bW hI0),Int.zero_add,aJ (bW hI8),a8,CY,aj,WQ,aj,aQ,aj,
    bq (k:=1) c1 agg3 rfl,aj,Sw,aj,aQ,aj,bq (k:=0) c1 agg3 rfl,aj,aJ (vy hI2),e1,aj,at120 u7 hlt,aj,aQ,aj,lX,aj,aj,aQ,aj,bq (k:=0) c2 agg3 rfl,aj,aJ (bW hI3),aj,
    oZ sz3 rfl,show(0+p * 1)=p by omega,hst,aj,aJ (bW hI1),hc1]
   have q1:(H2.set u7 (some (.cells (ints (X.set p (X.getD p 0+S.getD (p * 2) 0))) 118 false none))).get u7=some (.cells (ints (X.set p (X.getD p 0+S.getD (p * 2) 0))) 118 false none):=by rw[Tr.get_set,if_pos rfl]
   have q2:∀ b,b≠u7→(H2.set u7 (some (.cells (ints (X.set p (X.getD p 0+S.getD (p * 2) 0))) 118 false none))).get b=H2.get b:=fun b hb=>by rw[Tr.get_set,if_neg hb]
   generalize H2.set u7 (some (.cells (ints (X.set p (X.getD p 0+S.getD (p * 2) 0))) 118 false none))=H3 at q1 q2 ⊢
   have w:wL js ks L nj np i p=S.getD (p * 2+1) 0-S.getD (p * 2) 0:=by unfold wL; rw[if_pos hN,← hS]
   have n3:gk H3 rb (netQ js ks L nj np i (p+1)):=by
    rw[← netQ_step hi hlt,w]
    exact e2.keep (q2 rb (by omega))
   have l3:ov H3 u7 js ks L nj np i (p+1):=by
    refine⟨_,by rw[List.length_set]; exact x1,q1,fun q hq=>?_⟩
    by_cases e:q=p
    ·subst e
     rw[getD_set_same (by omega),if_pos (by omega),xp]
     unfold lowL
     simp only[ak]
     rw[if_pos hN,← hS]
    ·rw[getD_set_ne e,x3 q hq]
     by_cases c:q<p
     ·rw[if_pos c,if_pos (by omega)]
     ·rw[if_neg c,if_neg (by omega)]
   obtain⟨T',H',n',f1,f2,f3,f4,f5⟩:=ih H3 (n+1) hlt (by omega) (by rw[q2 u6 n67,e3 u6 n6,k1 u6 (by omega)]; exact h6) n3 l3
   exact⟨T',H',n',f1,by omega,f3,f4,fun b hb h1 h2=>by rw[f5 b (by omega) h1 h2,q2 b h2,e3 b h1,k1 b hb]⟩
  ·rw[if_neg (by omega)]
   have:p=8:=by omega
   subst this
   exact⟨_,H,n,rfl,Nat.le_refl _,hnet,hlow,fun _ _ _ _=>rfl⟩
 intro m
 induction m with
 | zero=>
  intro p H n h1 h2 h3 h4 h5 h6
  exact body _ 0 p H n h1 h3 h4 h5 h6 (fun _ _ h=>by omega)
 | succ m ih=>
  intro p H n h1 h2 h3 h4 h5 h6
  exact body _ (m+1) p H n h1 h3 h4 h5 h6 (fun H' n' q1 q2 q3 q4 q5=>ih (p+1) H' n' (by omega) (by omega) (by omega) q3 q4 q5)
theorem JX(l lp:Nat)(f:FuncId)(c:Code)(T:Tm)(H:Hp)(n:Nat)(D:List Nat):(cal (l+1)).body lp f c { T,H,n,D }=aw P (cal l) (KK+1) (lvOf A f c (some lp)) (some lp) f c KNb XNb KRb T H n D:=by kernel_rfl
theorem lv78a(lp:Nat):lvOf A 78 sv (some lp)=Lv.leaf:=by kernel_rfl
theorem lv78b(lp:Nat):lvOf A 78 jq (some lp)=A 131150:=by kernel_rfl
noncomputable def T78(u0 u3 u6 u7 u8 u23:Value):Tm:=Tr.set (Tr.set (Tr.set (Tr.set (Tr.set (Tr.set Tr.nil 23 (some u23)) 8 (some u8)) 7 (some u7)) 6 (some u6)) 3 (some u3)) 0 (some u0)
theorem par78(u0 u3 u6 u7 u8 u23 a b:Value):vw (T78 u0 u3 u6 u7 u8 u23) (ntm P 78) (#[24,25]:Array Tmp).toList [a,b]=some (Tr.set (Tr.set (Tr.set (Tr.set (Tr.set (Tr.set (Tr.set (Tr.set Tr.nil 25 (some b)) 24 (some a)) 23 (some u23)) 8 (some u8)) 7 (some u7)) 6 (some u6)) 3 (some u3)) 0 (some u0)):=by kernel_rfl
theorem ov.next{H:Hp}{b:Nat}{js ks L:List Int}{nj np i:Nat}(h:ov H b js ks L nj np i 8):ov H b js ks L nj np (i+1) 0:=by
 obtain⟨X,h1,h2,h3⟩:=h
 refine⟨X,h1,h2,fun q hq=>?_⟩
 rw[h3 q hq,if_pos hq,if_neg (by omega)]
theorem ov.keep{H H':Hp}{b:Nat}{js ks L:List Int}{nj np i p:Nat}(h:ov H b js ks L nj np i p)(hk:H'.get b=H.get b):ov H' b js ks L nj np i p:=by
 obtain⟨X,h1,h2,h3⟩:=h
 exact⟨X,h1,hk.trans h2,h3⟩
theorem ov.skip{H:Hp}{b:Nat}{js ks L:List Int}{nj np i:Nat}(h:ov H b js ks L nj np i 0)(hs:L.getD i 0=-1):ov H b js ks L nj np (i+1) 0:=by
 obtain⟨X,h1,h2,h3⟩:=h
 refine⟨X,h1,h2,fun q hq=>?_⟩
 rw[h3 q hq,if_neg (by omega),if_neg (by omega)]
 unfold lowL
 simp only[ak]
 rw[if_neg (fun h':isN L i=>h'.2 hs)]
 omega
theorem spare_small{js ks L:List Int}{nj np:Nat}(ok:LaidNests js ks L nj np)(hb:∀ p,isN L p→fZ (sL js ks L nj np p))(hy:∀ p,isN L p→0≤yL ks L p∧yL ks L p≤1000)(p:Nat):0≤cx js ks L nj np p∧cx js ks L nj np p≤1000:=by
 unfold cx
 by_cases c:isN L p
 ·rw[if_pos c]
  have:=(ok.fits p c).1
  have:=hy p c
  have t0:=(My (hb p c) 0).1
  omega
 ·rw[if_neg c]; omega
theorem BQ{js ks L:List Int}{nj np:Nat}(h:∀ p,0≤cx js ks L nj np p∧cx js ks L nj np p≤1000):∀ i,0≤ak (cx js ks L nj np) i∧ak (cx js ks L nj np) i≤i * 1000
 | 0=>by simp only[ak]; omega
 | i+1=>by
  have:=BQ h i
  have:=h i
  simp only[ak]
  omega
theorem round78(l:Nat){js ks L S B:List Int}{nj np i lb d u6 u7 u8 rb:Nat}{y:Int}{v0 v3 v23:Value}{H:Hp}{n:Nat}(ok:LaidNests js ks L nj np)(hb:∀ p,isN L p→fZ (sL js ks L nj np p))(hy:∀ p,isN L p→0≤yL ks L p∧yL ks L p≤1000)
  (hN:isN L i) (hS:S=sL js ks L nj np i) (hyl:y=yL ks L i) (hlen:S.length=16) (hB:B.length=16)
  (hl:H.get lb=some (.loop .ready none 78 (T78 v0 v3 (.pointer (some ⟨u6,0,none⟩)) (.pointer (some ⟨u7,0,none⟩)) (.pointer (some ⟨u8,0,none⟩)) v23) (ntm P 78) #[24,25] sv jq d))
  (l6:u6<n) (l7:u7<n) (l8:u8<n) (lr:rb<n) (ll:lb<n) (n6:u6≠rb∧u6≠u7∧u6≠u8∧u6≠lb) (n7:u7≠rb∧u7≠u8∧u7≠lb) (n8:u8≠rb∧u8≠lb) (nr:rb≠lb)
  (h6:H.get u6=some (.cells [.map (some rb)] 160 false none)) (hnet:gk H rb (netP js ks L nj np i)) (hlow:ov H u7 js ks L nj np i 0) (h8:H.get u8=some (.cells [.int .i64 (ak (cx js ks L nj np) i)] 3 false none)) :
  ∃ H' n',(∀ k:Value→Hp→Nat→Option ρ,jy P (cal (l+4)) (.func (.yield lb) #[] #[]) [.int .i64 i,.agg ⟨ints (bJ y S B)⟩] H n k=k (.bool true) H' n')∧n≤n'∧H'.get lb=H.get lb∧gk H' rb (netP js ks L nj np (i+1))∧ov H' u7 js ks L nj np (i+1) 0 ∧
   H'.get u8=some (.cells [.int .i64 (ak (cx js ks L nj np) (i+1))] 3 false none)∧∀ b,b<n→b≠lb→b≠rb→b≠u7→b≠u8→H'.get b=H.get b:=by
 have hi:i<8:=hN.1
 have lens:(ints (bJ y S B)).length=33:=by rw[bj,eK hlen hB]
 obtain⟨H1,k1,k2,k3⟩:=qx (P:=P) (ρ:=Ex × St) (H:=H) (n:=n) (L:=ints (bJ y S B)) OY (by show(ints (bJ 0 mZ mZ)).length=33; rw[bj,eK nz nz]) Dk lens (fj _)
 have hasg:(cal (l+4)).body lb 78 sv { T:=Tr.set (Tr.set (Tr.set (Tr.set (Tr.set (Tr.set (Tr.set (Tr.set Tr.nil 25 (some (.agg ⟨ints (bJ y S B)⟩))) 24 (some (.int .i64 i))) 23 (some v23)) 8 (some (.pointer (some ⟨u8,0,none⟩)))) 7 (some (.pointer (some ⟨u7,0,none⟩)))) 6 (some (.pointer (some ⟨u6,0,none⟩)))) 3 (some v3)) 0 (some v0),H,n,D:=[] }=some (.norm,{ T:=Tr.set (Tr.set (Tr.set (Tr.set (Tr.set (Tr.set (Tr.set (Tr.set (Tr.set (Tr.set Tr.nil 25 (some (.agg ⟨ints (bJ y S B)⟩))) 24 (some (.int .i64 i))) 23 (some v23)) 10 (some (.pointer (some ⟨n,0,none⟩)))) 9 (some (.int .i64 i))) 8 (some (.pointer (some ⟨u8,0,none⟩)))) 7 (some (.pointer (some ⟨u7,0,none⟩)))) 6 (some (.pointer (some ⟨u6,0,none⟩)))) 3 (some v3)) 0 (some v0),H:=H1,n:=n+1,D:=[] }):=by
  rw[show l+4=(l+3)+1 by omega,JX,lv78a,h78a0_0]
  unfold C78a0_0 B78a0_0
  rw[k3]
 have lb1:H1.get lb=H.get lb:=k1 lb ll
 have e6:∀(x:Option Blk),(H1.set lb x).get u6=some (.cells [.map (some rb)] 160 false none):=fun x=>by rw[Tr.get_set,if_neg n6.2.2.2,k1 u6 l6]; exact h6
 obtain⟨Hb,hHb⟩:∃ Hb,Hb=H1.set lb (some (.loop .busy none 78 (T78 v0 v3 (.pointer (some ⟨u6,0,none⟩)) (.pointer (some ⟨u7,0,none⟩)) (.pointer (some ⟨u8,0,none⟩)) v23) (ntm P 78) #[24,25] sv jq d)):=⟨_,rfl⟩
 have bget:∀ b,b≠lb→Hb.get b=H1.get b:=fun b hb=>by rw[hHb,Tr.get_set,if_neg hb]
 have blb:Hb.get lb=some (.loop .busy none 78 (T78 v0 v3 (.pointer (some ⟨u6,0,none⟩)) (.pointer (some ⟨u7,0,none⟩)) (.pointer (some ⟨u8,0,none⟩)) v23) (ntm P 78) #[24,25] sv jq d):=by rw[hHb,Tr.get_set,if_pos rfl]
 have gn:Hb.get n=some (.cells (ints (bJ y S B)) 111 false none):=(bget n (by omega)).trans k2
 have cn:∀ Hc:Hp,Hc.get n=Hb.get n→aZ Hc n 0 (ints (bJ y S B)):=fun Hc h=>cY (h.trans gn)
 have hbod:∃ T3 H3 n3,(cal (l+4)).body lb 78 jq { T:=Tr.set (Tr.set (Tr.set (Tr.set (Tr.set (Tr.set (Tr.set (Tr.set (Tr.set (Tr.set Tr.nil 25 (some (.agg ⟨ints (bJ y S B)⟩))) 24 (some (.int .i64 i))) 23 (some v23)) 10 (some (.pointer (some ⟨n,0,none⟩)))) 9 (some (.int .i64 i))) 8 (some (.pointer (some ⟨u8,0,none⟩)))) 7 (some (.pointer (some ⟨u7,0,none⟩)))) 6 (some (.pointer (some ⟨u6,0,none⟩)))) 3 (some v3)) 0 (some v0),H:=Hb,n:=n+1,D:=[] }=some (.norm,{ T:=T3,H:=H3,n:=n3,D:=[] }) ∧
   n+1≤n3∧gk H3 rb (netP js ks L nj np (i+1))∧ov H3 u7 js ks L nj np (i+1) 0∧H3.get u8=some (.cells [.int .i64 (ak (cx js ks L nj np) (i+1))] 3 false none)∧∀ b,b<n+1→b≠rb→b≠u7→b≠u8→H3.get b=Hb.get b:=by
  rw[show l+4=(l+3)+1 by omega,JX,lv78b,h78b0_0]
  unfold C78b0_0
  generalize hJ:PX (cal (l+3)) KK lb KK=J
  unfold B78b0_0
  have ly:az P Hb 3 ⟨n,0+0,none⟩=some (.int .i64 y):=bq (k:=0) (cn Hb rfl) agg3 (by simp [ints,bJ])
  have sp:cx js ks L nj np i=y-total S 0:=by unfold cx; rw[if_pos hN,hyl,hS]
  have ss:=spare_small ok hb hy
  have s1:=ss i
  have s2:=BQ ss i
  have hI1:I64 (y-total S 0):=by rw[← sp]; unfold I64; omega
  have hI2:I64 (ak (cx js ks L nj np) i+(y-total S 0)):=by rw[← sp]; unfold I64; omega
  have hI0:I64 (0+(i:Int)):=by unfold I64; omega
  have hSb:fZ S:=by rw[hS]; exact hb i hN
  obtain⟨H2,g2,e2⟩:=yZ (P:=P) (ρ:=Ex × St) (ex:=[.l 3 ⟨n,0+0,none⟩]) (H:=Hb) (n:=n+1) (v:=.int .i64 (total S 0))
   (op:=fun H n k=>aY P (cal (l+3)) 98 [.agg ⟨ints (bJ y S B)⟩,.func (.func 72) #[] #[]] H n fun v H n=>k v H n)
   ⟨fun q hq=>by
    rw[List.mem_singleton] at hq
    exact .inl ⟨_,_,hq,.inl ⟨_,_,_,_,gn⟩⟩,fun t a id c e h1 h2=>by simp at h2⟩ (fun H k=>Uv (l+1) (e:=0) (by omega) hlen hB hSb H _ _)
  have g8:H2.get u8=some (.cells [.int .i64 (ak (cx js ks L nj np) i)] 3 false none):=by rw[g2,bget u8 n8.2,k1 u8 l8]; exact h8
  have st8:=mw (vs:=[.int .i64 (ak (cx js ks L nj np) i+(y-total S 0))]) g8 rfl rfl
  rw[qcj,aj,aQ,aj,ly,aj,aQ,aj,cK gn Sx Dk lens,aj,e2,aJ (vy hI1),aQ,aj,bq (k:=0) (o:=0) (cY g8) agg3 rfl,aj,aJ (bW hI2),oZ sz3 rfl,st8,aj]
  have q8:(H2.set u8 (some (.cells [.int .i64 (ak (cx js ks L nj np) i+(y-total S 0))] 3 false none))).get u8=some (.cells [.int .i64 (ak (cx js ks L nj np) i+(y-total S 0))] 3 false none):=by rw[Tr.get_set,if_pos rfl]
  have q9:∀ b,b≠u8→(H2.set u8 (some (.cells [.int .i64 (ak (cx js ks L nj np) i+(y-total S 0))] 3 false none))).get b=Hb.get b:=fun b hb=>by rw[Tr.get_set,if_neg hb,g2]
  generalize H2.set u8 (some (.cells [.int .i64 (ak (cx js ks L nj np) i+(y-total S 0))] 3 false none))=H3 at q8 q9 ⊢
  have r6:H3.get u6=some (.cells [.map (some rb)] 160 false none):=by rw[q9 u6 n6.2.2.1,hHb]; exact e6 _
  have rn:gk H3 rb (netP js ks L nj np i):=hnet.keep (by rw[q9 rb (Ne.symm n8.1),bget rb nr,k1 rb lr])
  obtain⟨H4,m1,m2,m3⟩:=qcw rn 16 i (y-total S 0)
  have lS:az P H4 109 ⟨n,0+1,none⟩=some (.agg ⟨ints S⟩):=by
   have:=bY (P:=P) (k:=1) (cn H4 (by rw[m3 n (by omega),q9 n (by omega)])) yK Bw (by rw[lens]; omega) (dk _)
   rw[nest_shares hlen] at this
   exact this
  rw[aj,iy r6 xy rfl rfl,aj,aJ (bW hI0),Int.zero_add,show fw P 162 [(0,.int .i64 16),(1,.int .i64 (i:Int))]=some (keyV [((16:Nat):Int),(i:Int)]) from CY 16 i,aj,m1,aj,Uq,aj,aQ,aj,lS,aj,← hJ]
  rw[← sp,netP_first hi] at m2
  have low4:ov H4 u7 js ks L nj np i 0:=hlow.keep (by rw[m3 u7 n7.1,q9 u7 n7.2.1,bget u7 n7.2.2,k1 u7 l7])
  obtain⟨T3,H5,n5,f1,f2,f3,f4,f5⟩:=arcs_loop (cal (l+3)) KK lb (base:=n) hN hS hlen hb hi l6 l7 lr n6.1 n6.2.1 n7.1 [] KK 0 H4 (n+1) (by omega) (by unfold KK; omega) (by omega) ((m3 u6 n6.1).trans r6) m2 low4
  refine⟨T3,H5,n5,f1,f2,by rw[← netQ_last hi]; exact f3,f4.next,?_,fun b hb h1 h2 h3=>by rw[f5 b hb h1 h2,m3 b h1,q9 b h3]⟩
  rw[f5 u8 (by omega) n8.1 (Ne.symm n7.2.1),m3 u8 n8.1,q8,← sp]
  rfl
 obtain⟨T3,H3,n3,b1,b2,b3,b4,b5,b6⟩:=hbod
 have hl3:H3.get lb=some (.loop .busy none 78 (T78 v0 v3 (.pointer (some ⟨u6,0,none⟩)) (.pointer (some ⟨u7,0,none⟩)) (.pointer (some ⟨u8,0,none⟩)) v23) (ntm P 78) #[24,25] sv jq d):=(b6 lb (by omega) (Ne.symm nr) (Ne.symm n7.2.2) (Ne.symm n8.2)).trans blb
 rw[hHb] at b1
 refine⟨_,n3,fun k=>yield_any hl (par78 ..) hasg lb1 b1 hl3 (j:=none) rfl k,by omega,?_,b3.keep ?_,b4.keep ?_,?_,fun b h1 h2 h3 h4 h5=>?_⟩
 ·rw[Tr.get_set,if_pos rfl,hl]; rfl
 ·rw[Tr.get_set,if_neg nr]
 ·rw[Tr.get_set,if_neg n7.2.2]
 ·rw[Tr.get_set,if_neg n8.2]; exact b5
 ·rw[Tr.get_set,if_neg h2,b6 b (by omega) h3 h4 h5,bget b h2,k1 b h1]
theorem agg162:eZ P 162=some true:=by kernel_rfl
theorem sz162:szT P 162=some 2:=by kernel_rfl
theorem zero162:iV P 162=some (.agg ⟨[.int .i64 0,.int .i64 0]⟩):=by kernel_rfl
theorem arc_two(a b:Nat):fw P 162 [(0,.int .i64 a),(1,.int .i64 b)]=some (.agg ⟨[.int .i64 (a:Int),.int .i64 (b:Int)]⟩):=by kernel_rfl
theorem lv108a(lp:Nat):lvOf A 108 pW (some lp)=Lv.leaf:=by kernel_rfl
theorem lv108b(lp:Nat):lvOf A 108 iQ (some lp)=A 131180:=by kernel_rfl
noncomputable def T108(u3 u5 u7 u21:Value):Tm:=Tr.set (Tr.set (Tr.set (Tr.set Tr.nil 21 (some u21)) 7 (some u7)) 5 (some u5)) 3 (some u3)
theorem par108(u3 u5 u7 u21 a b:Value):vw (T108 u3 u5 u7 u21) (ntm P 108) (#[22,23]:Array Tmp).toList [a,b]=some (Tr.set (Tr.set (Tr.set (Tr.set (Tr.set (Tr.set Tr.nil 23 (some b)) 22 (some a)) 21 (some u21)) 7 (some u7)) 5 (some u5)) 3 (some u3)):=by kernel_rfl
structure SentAt (H:Hp) (base n sb np:Nat) (rw_:Nat→Value) (R:Nat→List Int):Prop where
 cells:cj H sb np 44 rw_
 row:∀ q,q<np→VecAt H base n 1 3 (rw_ q) (R q).length (R q)
 off:∀ q r,q<np→r<np→q≠r→∀ b,dJ (rw_ q) b→¬ dJ (rw_ r) b
theorem SentAt.keep{H H':Hp}{base n m sb np:Nat}{rw_:Nat→Value}{R:Nat→List Int}(h:SentAt H base n sb np rw_ R)(hs:sb<n)(hm:n≤m)(hk:∀ b,b<n→b=sb∨base≤b→H'.get b=H.get b):SentAt H' base m sb np rw_ R:=by
 obtain⟨⟨c,a1,a2,a3⟩,h2,h3⟩:=h
 refine⟨⟨c,(hk sb hs (.inl rfl)).trans a1,a2,a3⟩,fun q hq=>(h2 q hq).same hm fun b hb hblk=>hk b hb (.inr ((h2 q hq).low hblk).1),h3⟩
theorem push_behind{H:Hp}{base n ub len:Nat}{u w:Value}{xs:List Int}(h:VecAt H base n 1 3 u len xs)(hb:base≤n)(hub:ub<base)(hu:H.get ub=some (.cells [w] 59 false none))(hlen:len≤1000)(i:Int) :
  ∃ u' H',(∀ k:Value→Hp→Nat→Option ρ,(aq (yz P 44 1 [(0,.int .i64 i)]) fun q=>newK q.1 q.2 H n fun H1 n1=>effK P [(.l 59 ⟨ub,0,none⟩)] H1 n1 (fun H2 n2 k2=>stK (kv P (bare H2 n2) 44 44 u (.slice (some ⟨n,0,none⟩) 1 1)) fun v H n=>k2 v H n) k)=k u' H' (n+1+1)) ∧
   VecAt H' base (n+1+1) 1 3 u' (len+1) (xs++[i])∧(∀ b,b<n→¬ dJ u b→H'.get b=H.get b)∧∀ b,dJ u' b→n≤b:=by
 have k1:∀ b,b<n→(H.set n (some (.cells [.int .i64 i] 3 false none))).get b=H.get b:=fun b hb=>by rw[Tr.get_set,if_neg (by omega)]
 have r1:(H.set n (some (.cells [.int .i64 i] 3 false none))).get n=some (.cells [.int .i64 i] 3 false none):=by rw[Tr.get_set,if_pos rfl]
 have hu1:(H.set n (some (.cells [.int .i64 i] 3 false none))).get ub=some (.cells [w] 59 false none):=(k1 ub (by omega)).trans hu
 have onlyub:∀ b,ldOf [Extra.l 59 ⟨ub,0,none⟩] b→b=ub:=fun b=>by
  rintro⟨t,a,q1,q2⟩
  rw[List.mem_singleton] at q1
  cases q1
  exact q2.symm
 have isub:ldOf [Extra.l 59 ⟨ub,0,none⟩] ub:=⟨_,_,List.mem_singleton.2 rfl,rfl⟩
 have hlow:∀ b,dJ u b→base≤b:=fun b hb=>(h.low hb).1
 generalize hH1:H.set n (some (.cells [.int .i64 i] 3 false none))=H1 at k1 r1 hu1
 obtain⟨H',H2,n2,e1,⟨e2,e3,rfl⟩,e4,e5⟩:=Mz (P:=P) (ρ:=ρ) (ex:=[.l 59 ⟨ub,0,none⟩]) (H:=H1) (n:=n+1) (v:=.slice (some ⟨n+1,0,none⟩) (len+1) capV)
  (op:=fun H2 n2 k2=>stK (kv P (bare H2 n2) 44 44 u (.slice (some ⟨n,0,none⟩) 1 1)) fun v H n=>k2 v H n)
  (R:=fun H2 n2=>VecAt H2 base (n+1+1) 1 3 (.slice (some ⟨n+1,0,none⟩) (len+1) capV) (len+1) (xs++[i])∧(∀ b,b<n+1→b≠ub→¬ dJ u b→H2.get b=H1.get b)∧n2=n+1+1)
  (fun y hy=>by
   rw[List.mem_singleton] at hy
   exact⟨_,_,hy,.inl ⟨_,_,_,_,hu1⟩⟩)
  (fun Hm hm=>by
   have hm':∀ b,b≠ub→Hm.get b=H1.get b:=fun b hb=>hm b fun q=>hb (onlyub b q)
   have hv:VecAt Hm base (n+1) 1 3 u len xs:=h.same (by omega) fun b hbn hblk=>by
    rw[hm' b (by have:=hlow b hblk; omega),k1 b hbn]
   have hc:aZ Hm n 0 (ints [i]):=cY ((hm' n (by omega)).trans r1)
   obtain⟨Hx,ea,ev,eo⟩:=Dx (P:=P) (t:=44) (t2:=44) (cap2:=1) hv sl44 sl44 sz3 by3 zero3 rfl hc rfl (by omega) (by omega) (by omega) (by omega)
   refine⟨Hx,n+1+1,fun k=>?_,fun b hb=>?_,ev,fun b hbn hne hblk=>?_,rfl⟩
   ·rw[ea]; rfl
   ·rw[onlyub b hb]
    exact eo ub (by omega) fun q=>by have:=hlow ub q; omega
   ·rw[eo b hbn hblk,hm' b hne])
 have same:∀ b,b<n→¬ dJ u b→H'.get b=H.get b:=fun b hbn hblk=>by
  by_cases c:b=ub
  ·rw[c,e4 ub isub,k1 ub (by omega)]
  ·rw[e5 b (fun q=>c (onlyub b q)),e3 b (by omega) c hblk,k1 b hbn]
 refine⟨_,H',fun k=>?_,e2.same (Nat.le_refl _) fun b hbn hblk=>?_,same,fun b hblk=>by rw[CW hblk]; omega⟩
 ·rw[row44,aj]
  unfold newK
  dsimp only
  rw[hH1]
  exact e1 k
 ·rw[CW hblk]
  exact e5 (n+1) fun q=>by have:=onlyub _ q; omega
noncomputable def nQ(js ks L:List Int)(nj np:Nat)(m:Net)(i:Nat):List Int:=if isN L i then(List.range np).map fun p=>(sL js ks L nj np i).getD (p * 2) 0+m (8+p) i else[]
noncomputable def nq(js ks L:List Int)(nj np:Nat)(m:Net)(i p q:Nat):List Int:=if q<i then nQ js ks L nj np m q else if q=i then(List.range p).map fun p=>(sL js ks L nj np i).getD (p * 2) 0+m (8+p) i else[]
theorem sent_loop(c:Cal)(k lp:Nat){js ks L S B:List Int}{y:Int}{nj np i u5 u7 u9 rb sb base N0:Nat}{m:Net}(hS:S=sL js ks L nj np i)(hlen:S.length=16)(hSb:fZ S)(hi:i<np)(hnp:np≤8)(hm:rk m)
  (l5:u5<base) (l7:u7<base) (lr:rb<base) (ls:sb<base) (l9:u9<N0) (n5:u5≠sb) (n7:u7≠sb) (nr:rb≠sb) (n9:u9≠sb) (D:List Nat) :
  ∀(q p:Nat) (rw_:Nat→Value) (H:Hp) (n:Nat),p≤np→np-p≤q→base≤n→N0≤n→H.get u5=some (.cells [.map (some rb)] 160 false none)→H.get u7=some (.cells [.slice (some ⟨sb,0,none⟩) np np] 59 false none)→H.get u9=some (.cells (ints (bJ y S B)) 111 false none)→gk H rb m →
   SentAt H base n sb np rw_ (nq js ks L nj np m i p)→(∀ q,q<np→¬ dJ (rw_ q) u9) →
  ∃ T' H' n' rw',IW c k lp q (.pointer (some ⟨u5,0,none⟩)) (.pointer (some ⟨u7,0,none⟩)) (.int .i64 i) (.pointer (some ⟨u9,0,none⟩)) (.int .i64 np) (.int .i64 p) H n D=some (.norm,{ T:=T',H:=H',n:=n',D:=D })∧n≤n'∧SentAt H' base n' sb np rw' (nq js ks L nj np m i np)∧∀ b,b<base→b≠sb→H'.get b=H.get b:=by
 have body:∀(b1:W6 (Ex × St)) (q p:Nat) (rw_:Nat→Value) (H:Hp) (n:Nat),p≤np→base≤n→N0≤n→H.get u5=some (.cells [.map (some rb)] 160 false none)→H.get u7=some (.cells [.slice (some ⟨sb,0,none⟩) np np] 59 false none)→H.get u9=some (.cells (ints (bJ y S B)) 111 false none)→gk H rb m →
   SentAt H base n sb np rw_ (nq js ks L nj np m i p)→(∀ q,q<np→¬ dJ (rw_ q) u9) →
   (∀(rw_:Nat→Value) (H':Hp) (n':Nat),p<np→n≤n'→H'.get u5=some (.cells [.map (some rb)] 160 false none)→H'.get u7=some (.cells [.slice (some ⟨sb,0,none⟩) np np] 59 false none)→H'.get u9=some (.cells (ints (bJ y S B)) 111 false none)→gk H' rb m →
    SentAt H' base n' sb np rw_ (nq js ks L nj np m i (p+1))→(∀ q,q<np→¬ dJ (rw_ q) u9) →
    ∃ T2 H2 n2 rw',b1 (.pointer (some ⟨u5,0,none⟩)) (.pointer (some ⟨u7,0,none⟩)) (.int .i64 i) (.pointer (some ⟨u9,0,none⟩)) (.int .i64 np) (.int .i64 ((p+1:Nat):Int)) H' n' D=some (.norm,{ T:=T2,H:=H2,n:=n2,D:=D })∧n'≤n2∧SentAt H2 base n2 sb np rw' (nq js ks L nj np m i np)∧∀ b,b<base→b≠sb→H2.get b=H'.get b) →
   ∃ T' H' n' rw',IV c k lp q b1 (.pointer (some ⟨u5,0,none⟩)) (.pointer (some ⟨u7,0,none⟩)) (.int .i64 i) (.pointer (some ⟨u9,0,none⟩)) (.int .i64 np) (.int .i64 p) H n D=some (.norm,{ T:=T',H:=H',n:=n',D:=D })∧n≤n'∧SentAt H' base n' sb np rw' (nq js ks L nj np m i np)∧∀ b,b<base→b≠sb→H'.get b=H.get b:=by
  intro b1 q p rw_ H n hp hbn hn0 h5 h7 h9 hnet hsent hoff ih
  unfold IV qpq
  rw[aJ dq,jx]
  by_cases hlt:p<np
  ·have hp8:p<8:=by omega
   have hI1:I64 ((p:Int)+1):=by unfold I64; omega
   have hc1:((p:Int)+1)=((p+1:Nat):Int):=by omega
   have hI0:I64 (0+(i:Int)):=by unfold I64; omega
   have hI8:I64 (8+(p:Int)):=by unfold I64; omega
   have a8:(8+(p:Int))=((8+p:Nat):Int):=by omega
   have hb0:=hSb (p * 2)
   have hmm:=(hm (8+p) i).2 (by omega) (by omega)
   have hm1:=(hm (8+p) i).1
   have hm2:=(hm i (8+p)).1
   have hI2:I64 (S.getD (p * 2) 0+m (8+p) i):=by unfold I64; omega
   obtain⟨H1,k1,k2,k3⟩:=qx (P:=P) (ρ:=Ex × St) (H:=H) (n:=n) (L:=[.int .i64 ((8+p:Nat):Int),.int .i64 (i:Int)]) zero162 rfl sz162 rfl rfl
   have h51:=(k1 u5 (by omega)).trans h5
   have h71:=(k1 u7 (by omega)).trans h7
   have h91:=(k1 u9 (by omega)).trans h9
   have net1:gk H1 rb m:=hnet.keep (k1 rb (by omega))
   have sent1:SentAt H1 base (n+1) sb np rw_ (nq js ks L nj np m i p):=hsent.keep (by omega) (by omega) fun b hb _=>k1 b hb
   have lrow:az P H1 44 ⟨sb,0+i * 1,none⟩=some (rw_ i):=by
    rw[show 0+i * 1=i by omega]
    exact sent1.cells.load agg44 hi
   have lS:az P H1 3 ⟨u9,0+1+p * 2+0,none⟩=some (.int .i64 (S.getD (p * 2) 0)):=by
    have:=bq (P:=P) (k:=1+p * 2) (x:=S.getD (p * 2) 0) (kd:=.i64) (cY h91) agg3 (by
     refine gX ?_
     unfold bJ
     rw[Nat.add_comm,List.getElem?_cons_succ,List.getElem?_append_left (by omega)]
     exact getD_some (by omega))
    rw[show 0+(1+p * 2)=0+1+p * 2+0 by omega] at this
    exact this
   have l162:az P H1 162 ⟨n,0,none⟩=some (keyV [((8+p:Nat):Int),(i:Int)]):=cK k2 agg162 sz162 rfl
   have hpl:(nq js ks L nj np m i p i).length≤1000:=by
    unfold nq
    rw[if_neg (by omega),if_pos rfl]
    simp; omega
   obtain⟨u',H2,e1,e2,e3,e4⟩:=push_behind (ρ:=Ex × St) (sent1.row i hi) (by omega) l7 h71 hpl (S.getD (p * 2) 0+m (8+p) i)
   rw[if_pos (by omega),aJ (bW hI8),a8,aJ (bW hI0),Int.zero_add,arc_two,aj,k3,aQ,aj,iy h71 agg59 rfl rfl,aj,aj,iy h71 agg59 rfl rfl,aj,at59 sb np np hi,aj,aQ,aj,lrow,aj,Uq,aj,Rj u9 (0+1) hp8,aj,Sw,aj,aQ,aj,lS,aj,
    aQ,aj,iy h51 xy rfl rfl,aj,aQ,aj,l162,aj,Uz net1,aj,aJ (bW hI2),e1,aj]
   have hst:VecAt H2 base (n+1+1+1) 1 3 u' _ _:=e2
   have cells2:cj H2 sb np 44 rw_:=by
    obtain⟨cc,a1,a2,a3⟩:=sent1.cells
    exact⟨cc,(e3 sb (by omega) fun z=>by have:=((sent1.row i hi).low z).1; omega).trans a1,a2,a3⟩
   obtain⟨H3,f1,f2,f3⟩:=cells2.storeN (o:=i) (vs:=[u']) (by simp; omega) (by simp [(VecAt.leaf hst).1])
   rw[oZ sz44 (VecAt.leaf hst).1,show 0+i * 1=i by omega,f1,aj,aJ (bW hI1),hc1]
   have low:∀ b,b<base→b≠sb→H3.get b=H.get b:=fun b hb hne=>by
    rw[f3 b hne,e3 b (by omega) (fun z=>by have:=((sent1.row i hi).low z).1; omega),k1 b (by omega)]
   have g9:H3.get u9=some (.cells (ints (bJ y S B)) 111 false none):=by
    rw[f3 u9 n9,e3 u9 (by omega) (hoff i hi)]
    exact h91
   have sent3:SentAt H3 base (n+1+1+1) sb np (fun q=>if q=i then u' else rw_ q) (nq js ks L nj np m i (p+1)):=by
    refine⟨?_,fun q hq=>?_,fun q r hq hr hne b h1 h2=>?_⟩
    ·obtain⟨cc,a1,a2,a3⟩:=f2
     refine⟨cc,a1,a2,fun k hk=>?_⟩
     rw[a3 k hk,uZ]
    ·by_cases e:q=i
     ·subst e
      have hp1:nq js ks L nj np m q (p+1) q=nq js ks L nj np m q p q++[S.getD (p * 2) 0+m (8+p) q]:=by
       unfold nq
       rw[if_neg (by omega),if_pos rfl,if_neg (by omega),if_pos rfl,List.range_succ,List.map_append,hS]
       rfl
      show VecAt H3 base _ 1 3 (if q=q then u' else rw_ q) _ _
      rw[if_pos rfl,hp1,List.length_append]
      exact hst.same (Nat.le_refl _) fun b hb hblk=>f3 b (by have:=(hst.low hblk).1; omega)
     ·have hp1:nq js ks L nj np m i (p+1) q=nq js ks L nj np m i p q:=by
       unfold nq
       by_cases c1:q<i
       ·rw[if_pos c1,if_pos c1]
       ·rw[if_neg c1,if_neg e,if_neg c1,if_neg e]
      show VecAt H3 base _ 1 3 (if q=i then u' else rw_ q) _ _
      rw[if_neg e,hp1]
      exact(sent1.row q hq).same (by omega) fun b hb hblk=>by
       have:=((sent1.row q hq).low hblk).1
       rw[f3 b (by omega),e3 b hb (sent1.off q i hq hi e b hblk)]
    ·have new:∀ b,dJ u' b→∀ q,q<np→¬ dJ (rw_ q) b:=fun b hb q hq hbl=>by
      have:=e4 b hb
      have:=((sent1.row q hq).low hbl).2
      omega
     by_cases c1:q=i
     ·rw[if_pos c1] at h1
      rw[if_neg (by omega)] at h2
      exact new b h1 r hr h2
     ·rw[if_neg c1] at h1
      by_cases c2:r=i
      ·rw[if_pos c2] at h2
       exact new b h2 q hq h1
      ·rw[if_neg c2] at h2
       exact sent1.off q r hq hr hne b h1 h2
   obtain⟨T',H',n',rw',p1,p2,p3,p4⟩:=ih _ H3 (n+1+1+1) hlt (by omega) ((low u5 l5 n5).trans h5) ((low u7 l7 n7).trans h7) g9 (hnet.keep (low rb lr nr)) sent3 (fun q hq hbl=>by
    by_cases c1:q=i
    ·rw[if_pos c1] at hbl
     have:=e4 _ hbl
     omega
    ·rw[if_neg c1] at hbl
     exact hoff q hq hbl)
   exact⟨T',H',n',rw',p1,by omega,p3,fun b hb hne=>(p4 b hb hne).trans (low b hb hne)⟩
  ·rw[if_neg (by omega)]
   have:p=np:=by omega
   subst this
   exact⟨_,H,n,rw_,rfl,Nat.le_refl _,hsent,fun _ _ _=>rfl⟩
 intro q
 induction q with
 | zero=>
  intro p rw_ H n h1 h2 h3 h4 h5 h6 h7 h8 h9 h10
  exact body _ 0 p rw_ H n h1 h3 h4 h5 h6 h7 h8 h9 h10 (fun _ _ _ h=>by omega)
 | succ q ih=>
  intro p rw_ H n h1 h2 h3 h4 h5 h6 h7 h8 h9 h10
  exact body _ (q+1) p rw_ H n h1 h3 h4 h5 h6 h7 h8 h9 h10 (fun rw_ H' n' q1 q2 q3 q4 q5 q6 q7 q8=>ih (p+1) rw_ H' n' (by omega) (by omega) (by omega) (by omega) q3 q4 q5 q6 q7 q8)
theorem partR_next{js ks L:List Int}{nj np:Nat}{m:Net}{i:Nat}(hN:isN L i):nq js ks L nj np m i np=nq js ks L nj np m (i+1) 0:=by
 funext q
 unfold nq
 by_cases c1:q<i
 ·rw[if_pos c1,if_pos (show q<i+1 by omega)]
 ·rw[if_neg c1]
  by_cases c2:q=i
  ·rw[if_pos c2,if_pos (show q<i+1 by omega),c2]
   unfold nQ
   rw[if_pos hN]
  ·rw[if_neg c2,if_neg (show ¬ q<i+1 by omega)]
   split <;> rfl
theorem partR_skip{js ks L:List Int}{nj np:Nat}{m:Net}{i:Nat}(h:L.getD i 0=-1):nq js ks L nj np m (i+1) 0=nq js ks L nj np m i 0:=by
 funext q
 unfold nq
 by_cases c1:q<i
 ·rw[if_pos c1,if_pos (show q<i+1 by omega)]
 ·rw[if_neg c1]
  by_cases c2:q=i
  ·rw[if_pos (show q<i+1 by omega),if_pos c2,c2]
   unfold nQ
   rw[if_neg (fun h':isN L i=>h'.2 h)]
   rfl
  ·rw[if_neg (show ¬ q<i+1 by omega),if_neg c2]
   split <;> rfl
theorem placed_range(l:Nat){js ks L:List Int}{nj np nk g pb qb fn:Nat}{f:Nat→Value}{H:Hp}{n:Nat}{D:List Nat}(T:Tm)(params:Array Tmp)(asg bod:Code)(K:KC (Value × Hp × Nat))(X:XC (Value × Hp × Nat))(Kr:KC (Value × Hp × Nat))
  (hL:L.length=8) (hK:rZ L np nk) (hnp:np≤8) (hnk:nk≤3) (hpb:H.get pb=some (.cells [.pointer (some ⟨g,0,none⟩)] 103 false none)) (hqb:H.get qb=some (.cells (ints L) 119 false none)) (lq:qb<n) (hf:cj H g 859 115 f) (hn:∀ p kd,p<np→kd<nk→sW f js ks nj np p kd)
  (Inv:Nat→Hp→Nat→Prop) (hread:∀ i Hc nc,Inv i Hc nc→Hc.get pb=H.get pb∧Hc.get g=H.get g∧Hc.get (n+1)=some (.loop .ready none fn T (ntm P fn) params asg bod n))
  (h0:∀ H2:Hp,(∀ b,b<n→H2.get b=H.get b)→H2.get n=some .deferred→H2.get (n+1)=some (.loop .ready none fn T (ntm P fn) params asg bod n)→Inv 0 H2 (n+2))
  (hY:∀(i:Nat) (Hc:Hp) (nc kd:Nat) (B:List Int),Inv i Hc nc→i<np→kd<nk→L.getD i 0=kd→kK (ks.getD (kd * 5) 0) (shP js ks nj np i kd) B 8 →
   ∃ H' n',(∀ k:Value→Hp→Nat→Res,jy P (cal (l+4)) (.func (.yield (n+1)) #[] #[]) [.int .i64 i,.agg ⟨ints (bJ (ks.getD (kd * 5) 0) (shP js ks nj np i kd) B)⟩] Hc nc k=k (.bool true) H' n')∧Inv (i+1) H' n')
  (hSkip:∀(i:Nat) (H:Hp) (n:Nat),Inv i H n→L.getD i 0=-1→Inv (i+1) H n) :
  ∃ H3 n3,Inv 8 H3 n3∧yY P (cal (l+5)) none fn (.func (.func 104) ⟨[]⟩ ⟨[.pointer (some ⟨qb,0,none⟩),.pointer (some ⟨pb,0,none⟩)]⟩) params asg bod K X Kr T H n D=K T (H3.set (n+1) (some (.loop .exhausted none fn T (ntm P fn) params asg bod n))) n3 (n::D):=by
 have lens:(ints L).length=8:=by rw[bj,hL]
 rw[range_in]
 generalize hH2:(H.set n (some .deferred)).set (n+1) (some (.loop .ready none fn T (ntm P fn) params asg bod n))=H2
 have r1:∀ b,b<n→H2.get b=H.get b:=fun b hb=>by rw[← hH2,Tr.get_set,if_neg (by omega),Tr.get_set,if_neg (by omega)]
 have r2:H2.get n=some .deferred:=by rw[← hH2,Tr.get_set,if_neg (by omega),Tr.get_set,if_pos rfl]
 have r3:H2.get (n+1)=some (.loop .ready none fn T (ntm P fn) params asg bod n):=by rw[← hH2,Tr.get_set,if_pos rfl]
 clear hH2
 have l104:az P H2 119 ⟨qb,0,none⟩=some (.agg ⟨ints L⟩):=cK (by rw[r1 _ lq]; exact hqb) xq rY lens
 obtain⟨H3,n3,e3,i0⟩:=iter104_loop (cal (l+4)) KK (.func (.yield (n+1)) #[] #[]) pb g np nj nk js ks L hL hK hnp hnk Inv
  (fun i Hc nc hi=>by
   obtain⟨a1,a2,_⟩:=hread i Hc nc hi
   refine⟨bw (o:=0) (k:=0) (cY (a1.trans hpb)) WX rfl rfl rfl,fun p kd hp hkd=>?_⟩
   have cg:cj Hc g 859 115 f:=by
    obtain⟨c,e1,e2,e3⟩:=hf
    exact⟨c,a2.trans e1,e2,e3⟩
   exact OK cg (hn p kd hp hkd) (by omega) (by omega))
  hY hSkip KK 0 H2 (n+2) (h0 H2 r1 r2 r3) (by omega) (by unfold KK; omega)
 have e3':KQ (cal (l+4)) KK (.func (.yield (n+1)) #[] #[]) (.pointer (some ⟨qb,0,none⟩)) (.pointer (some ⟨pb,0,none⟩)) H2 (n+2)=some (.tuple ⟨[]⟩,H3,n3):=by
  unfold KQ B104_0
  rw[aQ,aj,l104,aj]
  exact e3
 refine⟨H3,n3,i0,?_⟩
 unfold aY
 have:(fX P 104 && bK ([]++[.func (.yield (n+1)) #[] #[],.pointer (some ⟨qb,0,none⟩),.pointer (some ⟨pb,0,none⟩)]))=false:=by rw[Bool.and_eq_false_iff]; exact .inr rfl
 rw[this,show l+5=(l+4)+1 by omega]
 show aq ((cal (l+4+1)).call 104 [.func (.yield (n+1)) #[] #[],.pointer (some ⟨qb,0,none⟩),.pointer (some ⟨pb,0,none⟩)] H2 (n+2)) _=_
 rw[call104,e3',aj]
 exact range_out (hread 8 H3 n3 i0).2.2
theorem round108(l:Nat){js ks L S B:List Int}{y:Int}{nj np i lb d u3 u5 u7 rb sb g base:Nat}{m:Net}{f:Nat→Value}{x yv z v21:Value}{rw_:Nat→Value}{H:Hp}{n:Nat}(hN:isN L i)(hS:S=sL js ks L nj np i)(hlen:S.length=16)(hB:B.length=16)(hSb:fZ S)(hi:i<np)(hnp:np≤8)(hm:rk m)
  (hl:H.get lb=some (.loop .ready none 108 (T108 (.pointer (some ⟨u3,0,none⟩)) (.pointer (some ⟨u5,0,none⟩)) (.pointer (some ⟨u7,0,none⟩)) v21) (ntm P 108) #[22,23] pW iQ d))
  (l3:u3<base) (l5:u5<base) (l7:u7<base) (lr:rb<base) (ls:sb<base) (ll:lb<base) (lg:g<base) (hbn:base≤n) (n3:u3≠sb∧u3≠lb) (n5:u5≠sb∧u5≠lb) (n7:u7≠sb∧u7≠lb) (nr:rb≠sb∧rb≠lb) (ng:g≠lb) (nl:lb≠sb)
  (h3:H.get u3=some (.cells [.pointer (some ⟨g,0,none⟩)] 103 false none)) (h5:H.get u5=some (.cells [.map (some rb)] 160 false none)) (h7:H.get u7=some (.cells [.slice (some ⟨sb,0,none⟩) np np] 59 false none)) (hnet:gk H rb m)
  (hf:cj H g 859 115 f) (hs:SiteF f x yv z js nj) (hx:lenV P 31 x=some (.int .i64 np)) (hsent:SentAt H base n sb np rw_ (nq js ks L nj np m i 0)) :
  ∃ H' n' rw',(∀ k:Value→Hp→Nat→Option ρ,jy P (cal (l+4)) (.func (.yield lb) #[] #[]) [.int .i64 i,.agg ⟨ints (bJ y S B)⟩] H n k=k (.bool true) H' n')∧n≤n'∧H'.get lb=H.get lb∧SentAt H' base n' sb np rw' (nq js ks L nj np m (i+1) 0) ∧
   ∀ b,b<base→b≠lb→b≠sb→H'.get b=H.get b:=by
 have lens:(ints (bJ y S B)).length=33:=by rw[bj,eK hlen hB]
 obtain⟨H1,k1,k2,k3⟩:=qx (P:=P) (ρ:=Ex × St) (H:=H) (n:=n) (L:=ints (bJ y S B)) OY (by show(ints (bJ 0 mZ mZ)).length=33; rw[bj,eK nz nz]) Dk lens (fj _)
 have hasg:(cal (l+4)).body lb 108 pW { T:=Tr.set (Tr.set (Tr.set (Tr.set (Tr.set (Tr.set Tr.nil 23 (some (.agg ⟨ints (bJ y S B)⟩))) 22 (some (.int .i64 i))) 21 (some v21)) 7 (some (.pointer (some ⟨u7,0,none⟩)))) 5 (some (.pointer (some ⟨u5,0,none⟩)))) 3 (some (.pointer (some ⟨u3,0,none⟩))),H,n,D:=[] } =
   some (.norm,{ T:=Tr.set (Tr.set (Tr.set (Tr.set (Tr.set (Tr.set (Tr.set (Tr.set Tr.nil 23 (some (.agg ⟨ints (bJ y S B)⟩))) 22 (some (.int .i64 i))) 21 (some v21)) 9 (some (.pointer (some ⟨n,0,none⟩)))) 8 (some (.int .i64 i))) 7 (some (.pointer (some ⟨u7,0,none⟩)))) 5 (some (.pointer (some ⟨u5,0,none⟩)))) 3 (some (.pointer (some ⟨u3,0,none⟩))),H:=H1,n:=n+1,D:=[] }):=by
  rw[show l+4=(l+3)+1 by omega,JX,lv108a,h108a0_0]
  unfold qow qov
  rw[k3]
 have lb1:H1.get lb=H.get lb:=k1 lb (by omega)
 obtain⟨Hb,hHb⟩:∃ Hb,Hb=H1.set lb (some (.loop .busy none 108 (T108 (.pointer (some ⟨u3,0,none⟩)) (.pointer (some ⟨u5,0,none⟩)) (.pointer (some ⟨u7,0,none⟩)) v21) (ntm P 108) #[22,23] pW iQ d)):=⟨_,rfl⟩
 have bget:∀ b,b≠lb→Hb.get b=H1.get b:=fun b hb=>by rw[hHb,Tr.get_set,if_neg hb]
 have blb:Hb.get lb=some (.loop .busy none 108 (T108 (.pointer (some ⟨u3,0,none⟩)) (.pointer (some ⟨u5,0,none⟩)) (.pointer (some ⟨u7,0,none⟩)) v21) (ntm P 108) #[22,23] pW iQ d):=by rw[hHb,Tr.get_set,if_pos rfl]
 have old:∀ b,b<n→b≠lb→Hb.get b=H.get b:=fun b hb hne=>by rw[bget b hne,k1 b hb]
 have gn:Hb.get n=some (.cells (ints (bJ y S B)) 111 false none):=(bget n (by omega)).trans k2
 have sb1:SentAt Hb base (n+1) sb np rw_ (nq js ks L nj np m i 0):=hsent.keep (by omega) (by omega) fun b hb h=>old b hb (by omega)
 obtain⟨T3,H3,n3',rw',b1,b2,b3,b4⟩:∃ T3 H3 n3 rw',(cal (l+4)).body lb 108 iQ { T:=Tr.set (Tr.set (Tr.set (Tr.set (Tr.set (Tr.set (Tr.set (Tr.set Tr.nil 23 (some (.agg ⟨ints (bJ y S B)⟩))) 22 (some (.int .i64 i))) 21 (some v21)) 9 (some (.pointer (some ⟨n,0,none⟩)))) 8 (some (.int .i64 i))) 7 (some (.pointer (some ⟨u7,0,none⟩)))) 5 (some (.pointer (some ⟨u5,0,none⟩)))) 3 (some (.pointer (some ⟨u3,0,none⟩))),H:=Hb,n:=n+1,D:=[] }=some (.norm,{ T:=T3,H:=H3,n:=n3,D:=[] }) ∧
   n+1≤n3∧SentAt H3 base n3 sb np rw' (nq js ks L nj np m i np)∧∀ b,b<base→b≠sb→H3.get b=Hb.get b:=by
  rw[show l+4=(l+3)+1 by omega,JX,lv108b,h108b0_0]
  unfold qpx
  generalize hJ:IW (cal (l+3)) KK lb KK=J
  unfold qpz
  have cg:cj Hb g 859 115 f:=by
   obtain⟨c,a1,a2,a3⟩:=hf
   exact⟨c,(old g (by omega) ng).trans a1,a2,a3⟩
  have lx:az P Hb 31 ⟨g,0+0+0,none⟩=some x:=by
   have:=cg.load (P:=P) (k:=0) Bq (by omega)
   rw[hs.x] at this; exact this
  rw[aQ,aj,iy ((old u3 (by omega) n3.2).trans h3) WX rfl rfl,aj,lk,aj,oK,aj,qJ,aj,aQ,aj,lx,aj,hx,aj,← hJ]
  exact sent_loop (cal (l+3)) KK lb (base:=base) (N0:=n+1) hS hlen hSb hi hnp hm l5 l7 lr ls (by omega) n5.1 n7.1 nr.1 (by omega) [] KK 0 rw_ Hb (n+1) (by omega) (by unfold KK; omega) (by omega) (Nat.le_refl _)
   ((old u5 (by omega) n5.2).trans h5) ((old u7 (by omega) n7.2).trans h7) gn (hnet.keep (old rb (by omega) nr.2)) sb1 (fun q hq hbl=>by have:=((hsent.row q hq).low hbl).2; omega)
 have hl3:H3.get lb=some (.loop .busy none 108 (T108 (.pointer (some ⟨u3,0,none⟩)) (.pointer (some ⟨u5,0,none⟩)) (.pointer (some ⟨u7,0,none⟩)) v21) (ntm P 108) #[22,23] pW iQ d):=(b4 lb ll nl).trans blb
 rw[hHb] at b1
 refine⟨_,n3',rw',fun k=>yield_any hl (par108 ..) hasg lb1 b1 hl3 (j:=none) rfl k,by omega,?_,?_,fun b h1 h2 h3=>?_⟩
 ·rw[Tr.get_set,if_pos rfl,hl]; rfl
 ·rw[← partR_next hN]
  exact b3.keep (by omega) (Nat.le_refl _) fun b hb h=>by rw[Tr.get_set,if_neg (by omega)]
 ·rw[Tr.get_set,if_neg h2,b4 b h1 h3,old b (by omega) h2]
theorem call108(l:Nat)(a b c:Value)(H:Hp)(n:Nat):(cal (l+1)).call 108 [a,b,c] H n=Yx (cal l) KK a b c H n []:=by kernel_rfl
theorem sent_call(l:Nat){js ks ps L:List Int}{nj np nk g rb:Nat}{m:Net}{f:Nat→Value}{x yv z:Value}{H:Hp}{n:Nat}(hgn:g<n)(hrn:rb<n)(hf:cj H g 859 115 f)(hs:SiteF f x yv z js nj)(hx:dV H n 2 x np ps)(hn:∀ p kd,p<np→kd<nk→sW f js ks nj np p kd)(hks:pj ks nk)(hnp:np≤8)(hnp0:0<np)(hnk:nk≤3)
  (hL:L.length=8) (hK:rZ L np nk) (hSb:∀ p,isN L p→fZ (sL js ks L nj np p)) (hm:rk m) (hnet:gk H rb m) :
  ∃(u:Value) (rw_:Nat→Value) (H':Hp) (n':Nat),(∀ k:Value→Hp→Nat→Option ρ,aY P (cal (l+6)) 108 [.pointer (some ⟨g,0,none⟩),.agg ⟨ints L⟩,.map (some rb)] H n k=k u H' n')∧n≤n'∧Keep n H H'∧bx u=false∧∀ H2:Hp,(∀ b,n≤b→H2.get b=H'.get b)→eQ H2 n' u np rw_ (nQ js ks L nj np m):=by
 have lens:(ints L).length=8:=by rw[bj,hL]
 suffices h:∃(u:Value) (rw_:Nat→Value) (H':Hp) (n':Nat),Yx (cal (l+5)) KK (.pointer (some ⟨g,0,none⟩)) (.agg ⟨ints L⟩) (.map (some rb)) H n []=some (u,H',n')∧n≤n'∧Keep n H H'∧bx u=false∧∀ H2:Hp,(∀ b,n≤b→H2.get b=H'.get b)→eQ H2 n' u np rw_ (nQ js ks L nj np m) by
  obtain⟨u,rw_,H',n',e,h1,h2,h3,h4⟩:=h
  refine⟨u,rw_,H',n',fun k=>?_,h1,h2,h3,h4⟩
  unfold aY
  have:(fX P 108 && bK [.pointer (some ⟨g,0,none⟩),.agg ⟨ints L⟩,.map (some rb)])=false:=by rw[Bool.and_eq_false_iff]; exact .inr rfl
  rw[this,show l+6=(l+5)+1 by omega,call108,e]
  rfl
 unfold Yx B108_0
 rw[dv,dv,dv]
 simp only[bv,ptr]
 generalize hH1:((H.set n (some (.cells [.pointer (some ⟨g,0,none⟩)] 103 false none))).set (n+1) (some (.cells (ints L) 119 false none))).set (n+1+1) (some (.cells [.map (some rb)] 160 false none))=H1
 have k1:Keep n H H1:=fun b hb=>by rw[← hH1,Tr.get_set,if_neg (by omega),Tr.get_set,if_neg (by omega),Tr.get_set,if_neg (by omega)]
 have a3:H1.get n=some (.cells [.pointer (some ⟨g,0,none⟩)] 103 false none):=by rw[← hH1,Tr.get_set,if_neg (by omega),Tr.get_set,if_neg (by omega),Tr.get_set,if_pos rfl]
 have a4:H1.get (n+1)=some (.cells (ints L) 119 false none):=by rw[← hH1,Tr.get_set,if_neg (by omega),Tr.get_set,if_pos rfl]
 have a5:H1.get (n+1+1)=some (.cells [.map (some rb)] 160 false none):=by rw[← hH1,Tr.get_set,if_pos rfl]
 clear hH1
 have f1:cj H1 g 859 115 f:=hf.keep k1 hgn
 have lx1:az P H1 31 ⟨g,0+0+0,none⟩=some x:=by
  have:=f1.load (P:=P) (k:=0) Bq (by omega)
  rw[hs.x] at this; exact this
 have hlx:lenV P 31 x=some (.int .i64 np):=hx.len_eq Bv
 rw[aQ,aj,iy a3 WX rfl rfl,aj,lk,aj,oK,aj,qJ,aj,aQ,aj,lx1,aj,hlx,aj,make59 H1 (n+1+1+1) (by omega)]
 unfold stK
 rw[aj]
 dsimp only [bare]
 generalize hH2:H1.set (n+1+1+1) (some (.cells (List.replicate np (.slice none 0 0)) 44 false none))=H2
 have k2:∀ b,b<n+1+1+1→H2.get b=H1.get b:=fun b hb=>by rw[← hH2,Tr.get_set,if_neg (by omega)]
 have a6:H2.get (n+1+1+1)=some (.cells (List.replicate np (.slice none 0 0)) 44 false none):=by rw[← hH2,Tr.get_set,if_pos rfl]
 clear hH2
 obtain⟨H3,k3,a7,e3⟩:=qlx (ρ:=Value × Hp × Nat) zero59 rfl sz59 (v:=.slice (some ⟨n+1+1+1,0,none⟩) np np) rfl H2 (n+1+1+1+1)
 rw[e3,aQ,aj,iy ((k3 n (by omega)).trans ((k2 n (by omega)).trans a3)) WX rfl rfl,aj,aj,cK ((k3 (n+1) (by omega)).trans ((k2 (n+1) (by omega)).trans a4)) xq rY lens,aj,MQ (l+4)]
 generalize hH4:(H3.set (n+1+1+1+1+1) (some (.cells [.pointer (some ⟨g,0,none⟩)] 103 false none))).set (n+1+1+1+1+1+1) (some (.cells (ints L) 119 false none))=H4
 have k4:∀ b,b<n+1+1+1+1+1→H4.get b=H3.get b:=fun b hb=>by rw[← hH4,Tr.get_set,if_neg (by omega),Tr.get_set,if_neg (by omega)]
 have q3:H4.get (n+1+1+1+1+1)=some (.cells [.pointer (some ⟨g,0,none⟩)] 103 false none):=by rw[← hH4,Tr.get_set,if_neg (by omega),Tr.get_set,if_pos rfl]
 have q4:H4.get (n+1+1+1+1+1+1)=some (.cells (ints L) 119 false none):=by rw[← hH4,Tr.get_set,if_pos rfl]
 clear hH4
 have all4:∀ b,b<n+1+1+1→H4.get b=H1.get b:=fun b hb=>by rw[k4 b (by omega),k3 b (by omega),k2 b hb]
 have kn:Keep n H H4:=fun b hb=>by rw[all4 b (by omega),k1 b hb]
 have p3:H4.get n=some (.cells [.pointer (some ⟨g,0,none⟩)] 103 false none):=(all4 n (by omega)).trans a3
 have p5:H4.get (n+1+1)=some (.cells [.map (some rb)] 160 false none):=(all4 _ (by omega)).trans a5
 have p6:H4.get (n+1+1+1)=some (.cells (List.replicate np (.slice none 0 0)) 44 false none):=by rw[k4 _ (by omega),k3 _ (by omega)]; exact a6
 have p7:H4.get (n+1+1+1+1)=some (.cells [.slice (some ⟨n+1+1+1,0,none⟩) np np] 59 false none):=(k4 _ (by omega)).trans a7
 have f4:cj H4 g 859 115 f:=hf.keep kn hgn
 have net4:gk H4 rb m:=hnet.keep (kn rb hrn)
 unfold C108_1 B108_1
 generalize hN:n+1+1+1+1+1+2=N at *
 obtain⟨H5,n5,i5,e5⟩:=placed_range l (D:=[]) (T108 (.pointer (some ⟨n,0,none⟩)) (.pointer (some ⟨n+1+1,0,none⟩)) (.pointer (some ⟨n+1+1+1+1,0,none⟩)) (.func (.func 104) ⟨[]⟩ ⟨[.pointer (some ⟨n+1+1+1+1+1+1,0,none⟩),.pointer (some ⟨n+1+1+1+1+1,0,none⟩)]⟩)) #[22,23] pW iQ (Bk (cal (l+5)) KK) (NQ (cal (l+5)) KK) (av P kQ)
  hL hK hnp hnk q3 q4 (show n+1+1+1+1+1+1<N by omega) f4 hn
  (fun i Hc nc=>N+2≤nc∧Hc.get (N+1)=some (.loop .ready none 108 (T108 (.pointer (some ⟨n,0,none⟩)) (.pointer (some ⟨n+1+1,0,none⟩)) (.pointer (some ⟨n+1+1+1+1,0,none⟩)) (.func (.func 104) ⟨[]⟩ ⟨[.pointer (some ⟨n+1+1+1+1+1+1,0,none⟩),.pointer (some ⟨n+1+1+1+1+1,0,none⟩)]⟩)) (ntm P 108) #[22,23] pW iQ N)∧Hc.get N=some .deferred ∧
   (∃ rw_,SentAt Hc (N+2) nc (n+1+1+1) np rw_ (nq js ks L nj np m i 0))∧∀ b,b<N→b≠n+1+1+1→Hc.get b=H4.get b)
  (fun i Hc nc ⟨c1,c2,c3,c4,c5⟩=>⟨c5 _ (by omega) (by omega),c5 _ (by omega) (by omega),c2⟩)
  (fun Ha h1 h2 h3=>⟨Nat.le_refl _,h3,h2,⟨fun _=>.slice none 0 0,⟨⟨_,(h1 _ (by omega)).trans p6,by simp,fun k hk=>by rw[List.getElem?_replicate,if_pos hk]⟩,fun q hq=>by
    have:nq js ks L nj np m 0 0 q=[]:=by
     unfold nq
     rw[if_neg (by omega)]
     split <;> rfl
    rw[this]
    exact⟨rfl,.inl ⟨rfl,rfl⟩⟩,fun _ _ _ _ _ b h=>absurd h (Uj (v:=x))⟩⟩,fun b hb _=>h1 b hb⟩)
  (fun i Hc nc kd B ⟨c1,c2,c3,⟨rw_,c4⟩,c5⟩ hip hkd hLi hB=>by
   have hNi:isN L i:=⟨by omega,by omega⟩
   have hSe:shP js ks nj np i kd=sL js ks L nj np i:=by unfold sL; rw[hLi,Int.toNat_natCast]
   obtain⟨H',n',rw',y1,y2,y3,y4,y5⟩:=round108 (ρ:=Value × Hp × Nat) l (y:=ks.getD (kd * 5) 0) hNi hSe (JV ..) hB.1 (sX hks hkd hnp hip) hip hnp hm c2 (show n<N+2 by omega) (by omega) (by omega) (by omega) (by omega) (by omega) (show g<N+2 by omega) c1 ⟨by omega,by omega⟩ ⟨by omega,by omega⟩ ⟨by omega,by omega⟩ ⟨by omega,by omega⟩ (by omega) (by omega)
    ((c5 _ (by omega) (by omega)).trans p3) ((c5 _ (by omega) (by omega)).trans p5) ((c5 _ (by omega) (by omega)).trans p7) (net4.keep (c5 _ (by omega) (by omega))) (by
     obtain⟨cc,b1,b2,b3⟩:=f4
     exact⟨cc,(c5 _ (by omega) (by omega)).trans b1,b2,b3⟩) hs hlx c4
   exact⟨H',n',y1,by omega,y3.trans c2,(y5 N (by omega) (by omega) (by omega)).trans c3,⟨rw',y4⟩,fun b hb hne=>(y5 b (by omega) (by omega) hne).trans (c5 b hb hne)⟩)
  (fun i Hc nc ⟨c1,c2,c3,⟨rw_,c4⟩,c5⟩ hLi=>⟨c1,c2,c3,⟨rw_,by rw[partR_skip hLi]; exact c4⟩,c5⟩)
 obtain⟨c1,c2,c3,⟨rw_,c4⟩,c5⟩:=i5
 show ∃ u rw_ H' n',yY P (cal (l+5)) none 108 _ #[22,23] pW iQ (Bk (cal (l+5)) KK) (NQ (cal (l+5)) KK) (av P kQ) (T108 _ _ _ _) H4 N []=_∧_
 rw[e5]
 have post:=h108_2 (cal (l+5)) KK (.pointer (some ⟨n,0,none⟩)) (.pointer (some ⟨n+1+1,0,none⟩)) (.pointer (some ⟨n+1+1+1+1,0,none⟩)) (.func (.func 104) ⟨[]⟩ ⟨[.pointer (some ⟨n+1+1+1+1+1+1,0,none⟩),.pointer (some ⟨n+1+1+1+1+1,0,none⟩)]⟩)
 have post:∀(H:Hp) (n':Nat) (D:List Nat),Bk (cal (l+5)) KK (T108 (.pointer (some ⟨n,0,none⟩)) (.pointer (some ⟨n+1+1,0,none⟩)) (.pointer (some ⟨n+1+1+1+1,0,none⟩)) (.func (.func 104) ⟨[]⟩ ⟨[.pointer (some ⟨n+1+1+1+1+1+1,0,none⟩),.pointer (some ⟨n+1+1+1+1+1,0,none⟩)]⟩)) H n' D=_:=post
 rw[post]
 unfold C108_2 B108_2
 generalize hHx:H5.set (N+1) (some (.loop .exhausted none 108 (T108 (.pointer (some ⟨n,0,none⟩)) (.pointer (some ⟨n+1+1,0,none⟩)) (.pointer (some ⟨n+1+1+1+1,0,none⟩)) (.func (.func 104) ⟨[]⟩ ⟨[.pointer (some ⟨n+1+1+1+1+1+1,0,none⟩),.pointer (some ⟨n+1+1+1+1+1,0,none⟩)]⟩)) (ntm P 108) #[22,23] pW iQ N))=Hx
 have x1:∀ b,b≠N+1→Hx.get b=H5.get b:=fun b hb=>by rw[← hHx,Tr.get_set,if_neg hb]
 clear hHx
 have x7:Hx.get (n+1+1+1+1)=some (.cells [.slice (some ⟨n+1+1+1,0,none⟩) np np] 59 false none):=by rw[x1 _ (by omega),c5 _ (by omega) (by omega)]; exact p7
 have xd:Hx.get N=some .deferred:=(x1 N (by omega)).trans c3
 have htake:rV Hx [N]=some (Hx.set N none):=by
  simp only[rV,xd]
 have x2:∀ b,b≠N→(Hx.set N none).get b=Hx.get b:=fun b hb=>by rw[Tr.get_set,if_neg hb]
 rw[aQ,aj,iy x7 agg59 rfl rfl,aj,htake]
 refine⟨_,rw_,Hx.set N none,n5,rfl,by omega,fun b hb=>by rw[x2 b (by omega),x1 b (by omega),c5 b (by omega) (by omega)]; exact kn b hb,rfl,fun Hz hz=>?_⟩
 have s5:SentAt Hz (N+2) n5 (n+1+1+1) np rw_ (nq js ks L nj np m 8 0):=c4.keep (by omega) (Nat.le_refl _) fun b hb h=>by
  rw[hz b (by omega),x2 b (by omega),x1 b (by omega)]
 refine eQ.of_cells (by omega) s5.cells fun q hq=>?_
 have e:nq js ks L nj np m 8 0 q=nQ js ks L nj np m q:=by
  unfold nq
  rw[if_pos (by omega)]
 have row:=s5.row q hq
 rw[e] at row
 refine VecAt.list row fun v hv=>?_
 unfold nQ at hv
 by_cases c:isN L q
 ·rw[if_pos c] at hv
  obtain⟨p,hp,rfl⟩:=List.mem_map.1 hv
  have hp:=List.mem_range.1 hp
  have h1:=hm (8+p) q
  have h2:=(hm q (8+p)).1
  have h3:=h1.2 (by omega) (by omega)
  have h4:=hSb q c (p * 2)
  unfold I64
  omega
 ·rw[if_neg c] at hv
  cases hv
theorem two_any{xs:List Int}{p:Nat}(h:p * 2+2≤xs.length):((ints xs).drop (p * 2)).take 2=[.int .i64 (xs.getD (p * 2) 0),.int .i64 (xs.getD (p * 2+1) 0)]:=by
 apply List.ext_getElem?
 intro j
 match j with
 | 0=>rw[List.getElem?_take,if_pos (by omega),List.getElem?_drop,gX (getD_some (by omega))]; rfl
 | 1=>rw[List.getElem?_take,if_pos (by omega),List.getElem?_drop,gX (getD_some (by omega))]; rfl
 | j+2=>rw[List.getElem?_take,if_neg (by omega)]; rfl
theorem effK_read1{ex:List Extra}{H:Hp}{n b:Nat}{v:Value}{blk:Blk}{op:Hp→Nat→(Value→Hp→Nat→Option ρ)→Option ρ}(hex:∀ y ∈ ex,∃ t a,y=.l t a∧((∃ c e ro vec,H.get a.block=some (.cells c e ro vec))∨∃ c,H.get a.block=some (.rows c)))
  (hb:¬ ldOf ex b) (hrow:H.get b=some blk) (hop:∀ Hm,Hm.get b=some blk→∀ k,op Hm n k=k v Hm n):∃ H',(∀ b',H'.get b'=H.get b')∧∀ k,effK P ex H n op k=k v H' n:=by
 obtain⟨H',H2,n2,h1,⟨h2,rfl⟩,h3,h4⟩:=Mz (P:=P) (ρ:=ρ) (ex:=ex) (H:=H) (n:=n) (v:=v) (op:=op) (R:=fun H2 n2=>(∀ b',¬ ldOf ex b'→H2.get b'=H.get b')∧n2=n) hex
  (fun Hm hm=>⟨Hm,n,hop Hm ((hm b hb).trans hrow),fun _ _=>rfl,hm,rfl⟩)
 refine⟨H',fun b'=>?_,h1⟩
 by_cases c:ldOf ex b'
 ·exact h3 b' c
 ·rw[h4 b' c]; exact h2 b' c
theorem most_call(l:Nat)(a x:Int){H:Hp}{n b:Nat}(hx:H.get b=some (.cells [.int .i64 x] 3 false none))(k:Value→Hp→Nat→Option ρ):aY P (cal (l+1)) 106 [.int .i64 a,.slice (some ⟨b,0,none⟩) 1 1] H n k=k (.int .i64 (max a x)) H n:=by
 unfold aY
 have:(fX P 106 && bK [.int .i64 a,.slice (some ⟨b,0,none⟩) 1 1])=false:=by rw[Bool.and_eq_false_iff]; exact .inr rfl
 rw[this,call106,most_spec (cal l) a x (cY hx)]
 rfl
def netU(m:Net)(more:Nat→Int)(i:Nat):Net:=fun u v=>if 8≤u∧u<8+i∧v=17 then more (u-8) else m u v
theorem netU_zero(m:Net)(more:Nat→Int):netU m more 0=m:=by
 funext u v
 exact if_neg (by omega)
theorem netU_step(m:Net)(more:Nat→Int)(i:Nat):setN (netU m more i) (8+i) 17 (more i)=netU m more (i+1):=by
 funext u v
 unfold setN netU
 by_cases c:u=8+i∧v=17
 ·rw[if_pos c,if_pos (by omega),c.1,show 8+i-8=i by omega]
 ·rw[if_neg c]
  by_cases d:8≤u∧u<8+i∧v=17
  ·rw[if_pos d,if_pos (by omega)]
  ·rw[if_neg d,if_neg (by omega)]
structure Fixed (H0:Hp) (n0:Nat) (js ks ps L:List Int) (nj np u6 u7 rb:Nat) (x:Value):Prop where
 l6:u6<n0
 l7:u7<n0
 lr:rb<n0
 n6:u6≠rb
 n7:u7≠rb
 cell:H0.get u6=some (.cells [.map (some rb)] 160 false none)
 low:ov H0 u7 js ks L nj np 8 0
 pads:∃ nx,nx≤n0∧nx≤rb∧dV H0 nx 2 x np ps
 np8:np≤8
 small:∀ q,0≤lowL js ks L nj np q 8∧lowL js ks L nj np q 8≤8000
 mild:∀ q,q<np→(0≤ps.getD (q * 2) 0∧ps.getD (q * 2) 0≤100000)∧(0≤ps.getD (q * 2+1) 0∧ps.getD (q * 2+1) 0≤100000)
 len:ps.length=np * 2
theorem pad_load2{H0 H:Hp}{n0:Nat}{js ks ps L:List Int}{nj np u6 u7 rb i:Nat}{x:Value}(F:Fixed H0 n0 js ks ps L nj np u6 u7 rb x)(hk:∀ b,b<n0→b≠rb→H.get b=H0.get b)(hi:i<np) :
  ∃ a1 a2:Nat,aV P 31 x (.int .i64 i)=some (.pointer (some ⟨a1,a2,none⟩))∧az P H 90 ⟨a1,a2,none⟩=some (.agg ⟨[.int .i64 (ps.getD (i * 2) 0),.int .i64 (ps.getD (i * 2+1) 0)]⟩):=by
 obtain⟨nx,h1,h2,h3⟩:=F.pads
 obtain⟨b,o,hix,hb,hc⟩:=h3.at_ Bv sz90 hi
 have hc':aZ H b o (ints ps):=aZ.of_get hc (hk b (by omega) (by omega))
 refine⟨b,o+i * 2,hix,?_⟩
 rw[bY (k:=i * 2) hc' agg90 sz90 (by rw[bj,F.len]; omega) (dk _),two_any (by rw[F.len]; omega)]
theorem more_loop(l k:Nat){H0:Hp}{n0:Nat}{js ks ps L:List Int}{nj np u6 u7 rb:Nat}{x v0 v3 v8 v14:Value}{m0:Net}{D:List Nat}(F:Fixed H0 n0 js ks ps L nj np u6 u7 rb x){Q:Option (Value × Hp × Nat)→Prop}
  (hend:∀(H:Hp) (n m:Nat) (b4:W9 (Value × Hp × Nat)),n0≤n→(∀ b,b<n0→b≠rb→H.get b=H0.get b)→gk H rb (netU m0 (rK js ks ps L nj np) np) →
   Q (C78_4 (cal (l+1)) k m b4 v0 v3 (.pointer (some ⟨u6,0,none⟩)) (.pointer (some ⟨u7,0,none⟩)) v8 v14 x (.int .i64 np) (.int .i64 np) H n D)) :
  ∀(m i:Nat) (H:Hp) (n:Nat),i≤np→np-i≤m→n0≤n→(∀ b,b<n0→b≠rb→H.get b=H0.get b)→gk H rb (netU m0 (rK js ks ps L nj np) i) →
   Q (S78_4 (cal (l+1)) k m v0 v3 (.pointer (some ⟨u6,0,none⟩)) (.pointer (some ⟨u7,0,none⟩)) v8 v14 x (.int .i64 np) (.int .i64 i) H n D):=by
 have np8:=F.np8
 have l6:=F.l6
 have l7:=F.l7
 have lr:=F.lr
 have n6:=F.n6
 have n7:=F.n7
 have body:∀(b4:W9 (Value × Hp × Nat)) (m i:Nat) (H:Hp) (n:Nat),i≤np→n0≤n→(∀ b,b<n0→b≠rb→H.get b=H0.get b)→gk H rb (netU m0 (rK js ks ps L nj np) i) →
   (∀(H:Hp) (n:Nat),i<np→n0≤n→(∀ b,b<n0→b≠rb→H.get b=H0.get b)→gk H rb (netU m0 (rK js ks ps L nj np) (i+1)) →
    Q (b4 v0 v3 (.pointer (some ⟨u6,0,none⟩)) (.pointer (some ⟨u7,0,none⟩)) v8 v14 x (.int .i64 np) (.int .i64 ((i+1:Nat):Int)) H n D)) →
   Q (C78_4 (cal (l+1)) k m b4 v0 v3 (.pointer (some ⟨u6,0,none⟩)) (.pointer (some ⟨u7,0,none⟩)) v8 v14 x (.int .i64 np) (.int .i64 i) H n D):=by
  intro b4 m i H n hi hn hk hnet ih
  by_cases hlt:i<np
  ·unfold C78_4 B78_4
   have hI1:I64 ((i:Int)+1):=by unfold I64; omega
   have hc1:((i:Int)+1)=((i+1:Nat):Int):=by omega
   have hI8:I64 (8+(i:Int)):=by unfold I64; omega
   have a8:(8+(i:Int))=((8+i:Nat):Int):=by omega
   obtain⟨pa1,pa2,p1,p2⟩:=pad_load2 F hk hlt
   obtain⟨H1,k1,k2,k3⟩:=qx (P:=P) (ρ:=Value × Hp × Nat) (H:=H) (n:=n) (L:=[.int .i64 (ps.getD (i * 2) 0),.int .i64 (ps.getD (i * 2+1) 0)]) zero90 rfl sz90 rfl rfl
   have c1:aZ H1 n 0 [.int .i64 (ps.getD (i * 2) 0),.int .i64 (ps.getD (i * 2+1) 0)]:=cY k2
   have g6:H1.get u6=some (.cells [.map (some rb)] 160 false none):=by rw[k1 u6 (by omega),hk u6 l6 n6]; exact F.cell
   obtain⟨X,x1,x2,x3⟩:=F.low
   have g7:H1.get u7=some (.cells (ints X) 118 false none):=by rw[k1 u7 (by omega),hk u7 l7 n7]; exact x2
   have xi:X.getD i 0=lowL js ks L nj np i 8:=by rw[x3 i (by omega),if_neg (by omega)]
   have lX:az P H1 3 ⟨u7,0+i * 1,none⟩=some (.int .i64 (lowL js ks L nj np i 8)):=bq (k:=i * 1) (cY g7) agg3 (by rw[Nat.mul_one,← xi]; exact gX (getD_some (by omega)))
   have lR:az P H1 3 ⟨n,0+1,none⟩=some (.int .i64 (ps.getD (i * 2+1) 0)):=bq (k:=1) c1 agg3 rfl
   have lN:az P H1 3 ⟨n,0+0,none⟩=some (.int .i64 (ps.getD (i * 2) 0)):=bq (k:=0) c1 agg3 rfl
   have hr:(H1.set (n+1) (some (.cells [.int .i64 (lowL js ks L nj np i 8)] 3 false none))).get (n+1)=some (.cells [.int .i64 (lowL js ks L nj np i 8)] 3 false none):=by rw[Tr.get_set,if_pos rfl]
   have hr2:∀ b,b<n+1→(H1.set (n+1) (some (.cells [.int .i64 (lowL js ks L nj np i 8)] 3 false none))).get b=H1.get b:=fun b hb=>by rw[Tr.get_set,if_neg (by omega)]
   rw[aJ dq,jx,if_pos (by omega),p1,aj,aQ,aj,p2,aj,k3,aQ,aj,iy g6 xy rfl rfl,aj,aJ (bW hI8),a8,show fw P 162 [(0,.int .i64 ((8+i:Nat):Int)),(1,.int .i64 17)]=some (keyV [((8+i:Nat):Int),((17:Nat):Int)]) from CY (8+i) 17,aj,
    fa90_1,aj,aQ,aj,lR,aj,fa90_0,aj,aQ,aj,lN,aj,at120 u7 (show i<8 by omega),aj,aQ,aj,lX,aj,row44,aj]
   unfold newK
   dsimp only
   generalize H1.set (n+1) (some (.cells [.int .i64 (lowL js ks L nj np i 8)] 3 false none))=H2 at hr hr2 ⊢
   have isld:∀ b,ldOf [Extra.l 3 ⟨n,0+1,none⟩,Extra.l 160 ⟨u6,0,none⟩] b→b=n∨b=u6:=fun b=>by
    rintro⟨t,a,q1,q2⟩
    simp only[List.mem_cons,Extra.l.injEq,List.not_mem_nil,or_false] at q1
    rcases q1 with⟨_,rfl⟩ | ⟨_,rfl⟩
    ·exact .inl q2.symm
    ·exact .inr q2.symm
   obtain⟨H3,s1,s2⟩:=effK_read1 (ρ:=Value × Hp × Nat) (ex:=[.l 3 ⟨n,0+1,none⟩,.l 160 ⟨u6,0,none⟩]) (H:=H2) (n:=n+1+1) (v:=.int .i64 (max (ps.getD (i * 2) 0) (lowL js ks L nj np i 8)))
    (op:=fun H n' k=>aY P (cal (l+1)) 106 [.int .i64 (ps.getD (i * 2) 0),.slice (some ⟨n+1,0,none⟩) 1 1] H n' fun v H n=>k v H n)
    (fun y hy=>by
     simp only[List.mem_cons,List.not_mem_nil,or_false] at hy
     rcases hy with rfl | rfl
     ·exact⟨_,_,rfl,.inl ⟨_,_,_,_,(hr2 n (by omega)).trans k2⟩⟩
     ·exact⟨_,_,rfl,.inl ⟨_,_,_,_,(hr2 u6 (by omega)).trans g6⟩⟩)
    (fun h=>by have:=isld _ h; omega) hr (fun Hm hm k=>most_call l _ _ hm k)
   have hmi:=F.mild i hlt
   have hsm:=F.small i
   have hI2:I64 (ps.getD (i * 2+1) 0-max (ps.getD (i * 2) 0) (lowL js ks L nj np i 8)):=by unfold I64; omega
   have net3:gk H3 rb (netU m0 (rK js ks ps L nj np) i):=hnet.keep (by rw[s1,hr2 rb (by omega),k1 rb (by omega)])
   obtain⟨H4,e1,e2,e3⟩:=qcw net3 (8+i) 17 (ps.getD (i * 2+1) 0-max (ps.getD (i * 2) 0) (lowL js ks L nj np i 8))
   have me:rK js ks ps L nj np i=ps.getD (i * 2+1) 0-max (ps.getD (i * 2) 0) (lowL js ks L nj np i 8):=if_pos hlt
   rw[s2,aJ (vy hI2),e1,aj,aJ (bW hI1),hc1]
   refine ih H4 (n+1+1) hlt (by omega) (fun b hb hne=>?_) ?_
   ·rw[e3 b hne,s1,hr2 b (by omega),k1 b (by omega)]; exact hk b hb hne
   ·rw[← netU_step,me]; exact e2
  ·have:i=np:=by omega
   subst this
   exact hend H n m b4 hn hk hnet
 intro m
 induction m with
 | zero=>
  intro i H n h1 h2 h3 h4 h5
  exact body _ 0 i H n h1 h3 h4 h5 (fun _ _ h=>by omega)
 | succ m ih=>
  intro i H n h1 h2 h3 h4 h5
  exact body _ (m+1) i H n h1 h3 h4 h5 (fun H n q1 q2 q3 q4=>ih (i+1) H n (by omega) (by omega) q2 q3 q4)
theorem need_loop(l k:Nat){H0:Hp}{n0:Nat}{js ks ps L:List Int}{nj np u6 u7 rb:Nat}{x v0 v3 v8:Value}{m0:Net}{D:List Nat}(F:Fixed H0 n0 js ks ps L nj np u6 u7 rb x){Q:Option (Value × Hp × Nat)→Prop}
  (hbad:∀(i:Nat) (H:Hp) (n:Nat),i<np→ps.getD (i * 2+1) 0<lowL js ks L nj np i 8→n0≤n→(∀ b,b<n0→b≠rb→H.get b=H0.get b)→Q (getK (rV H D) fun H'=>some (.tuple ⟨[.slice none 0 0,.bool false]⟩,H',n)))
  (hend:∀(H:Hp) (n m:Nat) (b3:W9 (Value × Hp × Nat)),(∀ q,q<np→lowL js ks L nj np q 8≤ps.getD (q * 2+1) 0)→n0≤n→(∀ b,b<n0→b≠rb→H.get b=H0.get b)→gk H rb (netU m0 (eJ js ks ps L nj np) np) →
   Q (C78_3 (cal (l+1)) k m b3 v0 v3 (.pointer (some ⟨u6,0,none⟩)) (.pointer (some ⟨u7,0,none⟩)) v8 (.int .i64 (ak (eJ js ks ps L nj np) np)) x (.int .i64 np) (.int .i64 np) H n D)) :
  ∀(m i:Nat) (H:Hp) (n:Nat),i≤np→np-i≤m→(∀ q,q<i→lowL js ks L nj np q 8≤ps.getD (q * 2+1) 0)→n0≤n→(∀ b,b<n0→b≠rb→H.get b=H0.get b)→gk H rb (netU m0 (eJ js ks ps L nj np) i) →
   Q (S78_3 (cal (l+1)) k m v0 v3 (.pointer (some ⟨u6,0,none⟩)) (.pointer (some ⟨u7,0,none⟩)) v8 (.int .i64 (ak (eJ js ks ps L nj np) i)) x (.int .i64 np) (.int .i64 i) H n D):=by
 have np8:=F.np8
 have l6:=F.l6
 have l7:=F.l7
 have lr:=F.lr
 have n6:=F.n6
 have n7:=F.n7
 have ns:∀ i,i≤np→0≤ak (eJ js ks ps L nj np) i∧ak (eJ js ks ps L nj np) i≤i * 100000:=fun i=>by
  induction i with
  | zero=>intro _; simp only[ak]; omega
  | succ i ih=>
   intro hi
   have:=ih (by omega)
   have h1:=F.mild i (by omega)
   have h2:=F.small i
   simp only[ak]
   unfold eJ at this ⊢
   rw[if_pos (show i<np by omega)]
   omega
 have body:∀(b3:W9 (Value × Hp × Nat)) (m i:Nat) (H:Hp) (n:Nat),i≤np→(∀ q,q<i→lowL js ks L nj np q 8≤ps.getD (q * 2+1) 0)→n0≤n→(∀ b,b<n0→b≠rb→H.get b=H0.get b)→gk H rb (netU m0 (eJ js ks ps L nj np) i) →
   (∀(H:Hp) (n:Nat),i<np→lowL js ks L nj np i 8≤ps.getD (i * 2+1) 0→n0≤n→(∀ b,b<n0→b≠rb→H.get b=H0.get b)→gk H rb (netU m0 (eJ js ks ps L nj np) (i+1)) →
    Q (b3 v0 v3 (.pointer (some ⟨u6,0,none⟩)) (.pointer (some ⟨u7,0,none⟩)) v8 (.int .i64 (ak (eJ js ks ps L nj np) (i+1))) x (.int .i64 np) (.int .i64 ((i+1:Nat):Int)) H n D)) →
   Q (C78_3 (cal (l+1)) k m b3 v0 v3 (.pointer (some ⟨u6,0,none⟩)) (.pointer (some ⟨u7,0,none⟩)) v8 (.int .i64 (ak (eJ js ks ps L nj np) i)) x (.int .i64 np) (.int .i64 i) H n D):=by
  intro b3 m i H n hi hok hn hk hnet ih
  by_cases hlt:i<np
  ·unfold C78_3
   generalize S78_4 (cal (l+1)) k k=J
   unfold B78_3
   have hI1:I64 ((i:Int)+1):=by unfold I64; omega
   have hc1:((i:Int)+1)=((i+1:Nat):Int):=by omega
   have hI8:I64 (8+(i:Int)):=by unfold I64; omega
   have a8:(8+(i:Int))=((8+i:Nat):Int):=by omega
   obtain⟨pa1,pa2,p1,p2⟩:=pad_load2 F hk hlt
   obtain⟨H1,k1,k2,k3⟩:=qx (P:=P) (ρ:=Value × Hp × Nat) (H:=H) (n:=n) (L:=[.int .i64 (ps.getD (i * 2) 0),.int .i64 (ps.getD (i * 2+1) 0)]) zero90 rfl sz90 rfl rfl
   have c1:aZ H1 n 0 [.int .i64 (ps.getD (i * 2) 0),.int .i64 (ps.getD (i * 2+1) 0)]:=cY k2
   have g6:H1.get u6=some (.cells [.map (some rb)] 160 false none):=by rw[k1 u6 (by omega),hk u6 l6 n6]; exact F.cell
   obtain⟨X,x1,x2,x3⟩:=F.low
   have g7:H1.get u7=some (.cells (ints X) 118 false none):=by rw[k1 u7 (by omega),hk u7 l7 n7]; exact x2
   have xi:X.getD i 0=lowL js ks L nj np i 8:=by rw[x3 i (by omega),if_neg (by omega)]
   have lX:az P H1 3 ⟨u7,0+i * 1,none⟩=some (.int .i64 (lowL js ks L nj np i 8)):=bq (k:=i * 1) (cY g7) agg3 (by rw[Nat.mul_one,← xi]; exact gX (getD_some (by omega)))
   have lR:az P H1 3 ⟨n,0+1,none⟩=some (.int .i64 (ps.getD (i * 2+1) 0)):=bq (k:=1) c1 agg3 rfl
   have lN:az P H1 3 ⟨n,0+0,none⟩=some (.int .i64 (ps.getD (i * 2) 0)):=bq (k:=0) c1 agg3 rfl
   have keep1:∀ b,b<n0→b≠rb→H1.get b=H0.get b:=fun b hb hne=>by rw[k1 b (by omega)]; exact hk b hb hne
   rw[aJ dq,jx,if_pos (by omega),p1,aj,aQ,aj,p2,aj,k3,at120 u7 (show i<8 by omega),aj,aQ,aj,lX,aj,fa90_1,aj,aQ,aj,lR,aj,aJ vx,jx]
   by_cases hroom:ps.getD (i * 2+1) 0<lowL js ks L nj np i 8
   ·rw[if_pos hroom]
    exact hbad i H1 (n+1) hlt hroom (by omega) keep1
   ·have hmi:=F.mild i hlt
    have hsm:=F.small i
    have hI2:I64 (ps.getD (i * 2) 0-lowL js ks L nj np i 8):=by unfold I64; omega
    have hr:(H1.set (n+1) (some (.cells [.int .i64 0] 3 false none))).get (n+1)=some (.cells [.int .i64 0] 3 false none):=by rw[Tr.get_set,if_pos rfl]
    have hr2:∀ b,b<n+1→(H1.set (n+1) (some (.cells [.int .i64 0] 3 false none))).get b=H1.get b:=fun b hb=>by rw[Tr.get_set,if_neg (by omega)]
    rw[if_neg hroom,fa90_0,aj,aQ,aj,lN,aj,aj,aQ,aj,lX,aj,aJ (vy hI2),row44,aj]
    unfold newK
    dsimp only
    generalize H1.set (n+1) (some (.cells [.int .i64 0] 3 false none))=H2 at hr hr2 ⊢
    have nd:eJ js ks ps L nj np i=max (ps.getD (i * 2) 0-lowL js ks L nj np i 8) 0:=if_pos hlt
    have hs:=ns i (by omega)
    have hI3:I64 (ak (eJ js ks ps L nj np) i+max (ps.getD (i * 2) 0-lowL js ks L nj np i 8) 0):=by unfold I64; omega
    have net2:gk H2 rb (netU m0 (eJ js ks ps L nj np) i):=hnet.keep (by rw[hr2 rb (by omega),k1 rb (by omega)])
    obtain⟨H4,e1,e2,e3⟩:=qcw net2 (8+i) 17 (max (ps.getD (i * 2) 0-lowL js ks L nj np i 8) 0)
    rw[most_call l _ _ hr,aJ (bW hI3),aQ,aj,iy ((hr2 u6 (by omega)).trans g6) xy rfl rfl,aj,aJ (bW hI8),a8,show fw P 162 [(0,.int .i64 ((8+i:Nat):Int)),(1,.int .i64 17)]=some (keyV [((8+i:Nat):Int),((17:Nat):Int)]) from CY (8+i) 17,aj,e1,aj,aJ (bW hI1),hc1]
    have:=ih H4 (n+1+1) hlt (by omega) (by omega) (fun b hb hne=>by rw[e3 b hne,hr2 b (by omega)]; exact keep1 b hb hne) (by rw[← netU_step,nd]; exact e2)
    have es:ak (eJ js ks ps L nj np) (i+1)=ak (eJ js ks ps L nj np) i+max (ps.getD (i * 2) 0-lowL js ks L nj np i 8) 0:=by
     rw[← nd]; rfl
    rw[es] at this
    exact this
  ·have:i=np:=by omega
   subst this
   exact hend H n m b3 hok hn hk hnet
 intro m
 induction m with
 | zero=>
  intro i H n h1 h2 h0 h3 h4 h5
  exact body _ 0 i H n h1 h0 h3 h4 h5 (fun _ _ h=>by omega)
 | succ m ih=>
  intro i H n h1 h2 h0 h3 h4 h5
  exact body _ (m+1) i H n h1 h0 h3 h4 h5 (fun H n q1 q2 q3 q4 q5=>ih (i+1) H n (by omega) (by omega) (fun q hq=>by
   by_cases e:q=i
   ·rw[e]; exact q2
   ·exact h0 q (by omega)) q3 q4 q5)
theorem net_first{js ks ps L:List Int}{nj np:Nat}(np8:np≤8):netU (netP js ks L nj np 8) (eJ js ks ps L nj np) np=tnet (wL js ks L nj np) (cx js ks L nj np) (eJ js ks ps L nj np):=by
 funext u v
 unfold netU netP tnet
 by_cases c1:8≤u∧u<8+np∧v=17
 ·rw[if_pos c1,if_neg (show ¬ (u=16∧v<8) by omega),if_neg (show ¬ (u<8∧8≤v∧v<16) by omega),if_pos (show 8≤u∧u<16∧v=17 by omega)]
 ·rw[if_neg c1]
  by_cases c2:u=16∧v<8
  ·rw[if_pos (show u=16∧v<8∧v<8 by omega),if_pos c2]
  ·rw[if_neg (show ¬ (u=16∧v<8∧v<8) by omega),if_neg c2]
   by_cases c3:u<8∧8≤v∧v<16
   ·rw[if_pos (show u<8∧u<8∧8≤v∧v<16 by omega),if_pos c3]
   ·rw[if_neg (show ¬ (u<8∧u<8∧8≤v∧v<16) by omega),if_neg c3]
    by_cases c4:8≤u∧u<16∧v=17
    ·rw[if_pos c4]
     exact(if_neg (show ¬ u-8<np by omega)).symm
    ·rw[if_neg c4]
theorem net_second{js ks ps L:List Int}{nj np:Nat}{m:Net}(np8:np≤8)(hz:∀ u,u<18→m u 17=0):netU m (rK js ks ps L nj np) np=anew m (rK js ks ps L nj np):=by
 funext u v
 unfold netU anew
 by_cases c1:8≤u∧u<8+np∧v=17
 ·rw[if_pos c1,if_pos (show 8≤u∧u<16∧v=17 by omega)]
 ·rw[if_neg c1]
  by_cases c2:8≤u∧u<16∧v=17
  ·rw[if_pos c2,c2.2.2,hz u (by omega)]
   exact(if_neg (show ¬ u-8<np by omega)).symm
  ·rw[if_neg c2]
theorem fills_say{js ks ps L:List Int}{nj np:Nat}{x x2:Int}{m m2:Net}(ok:LaidNests js ks L nj np)(hlow:∀ q,q<np→lowL js ks L nj np q 8≤ps.getD (q * 2+1) 0)(hps:∀ q,q<np→ps.getD (q * 2) 0≤ps.getD (q * 2+1) 0)
  (F:Filled 18 16 17 (tnet (wL js ks L nj np) (cx js ks L nj np) (eJ js ks ps L nj np)) x m) :
  (x≠ak (eJ js ks ps L nj np) 8→∃ A B:Nat→Bool,canC js ks ps L nj np A B false false<yQ js ks ps L nj np A B false false) ∧
  (x=ak (eJ js ks ps L nj np) 8→Filled 18 16 17 (anew m (rK js ks ps L nj np)) x2 m2 →
   (x2≠ak (cx js ks L nj np) 8-ak (eJ js ks ps L nj np) 8→∃ A B:Nat→Bool,canC js ks ps L nj np A B true true<yQ js ks ps L nj np A B true true) ∧
   (x2=ak (cx js ks L nj np) 8-ak (eJ js ks ps L nj np) 8→Sending js ks ps L nj np fun p q=>if p<8∧q<8 then m2 (8+q) p else 0)):=by
 refine⟨fun hne=>?_,fun he F2=>⟨fun hne=>?_,fun he2=>?_⟩⟩
 ·obtain⟨R,hR⟩:=fill_cut F
  have up:=F.into (by omega) (by omega) (by omega)
  rw[pw,cap_sum] at up
  have z:ak (fun _=>0) 18≤ak (fun u=>m u 17) 18:=iJ fun u _=>F.ge u 17
  rw[jW] at z
  exact cut_first ok (R:=R) (by rw[← hR]; omega)
 ·subst he
  obtain⟨R,hR⟩:=fills_cut F F2
  have w1:=F.worth
  have w2:=F2.worth
  rw[pw] at w1 w2
  have s1:ak (tnet (wL js ks L nj np) (cx js ks L nj np) (eJ js ks ps L nj np) 16) 18=ak (cx js ks L nj np) 8:=Xw _ _ _
  have same:ak (anew m (rK js ks ps L nj np) 16) 18=ak (m 16) 18:=bz fun v _=>if_neg (by omega)
  have z:ak (fun _=>0) 18≤ak (m2 16) 18:=iJ fun v _=>F2.ge 16 v
  rw[jW] at z
  have w1:ak (tnet (wL js ks L nj np) (cx js ks L nj np) (eJ js ks ps L nj np) 16) 18-ak (m 16) 18=ak (eJ js ks ps L nj np) 8:=w1
  have w2:ak (anew m (rK js ks ps L nj np) 16) 18-ak (m2 16) 18=x2:=w2
  exact cut_second ok (R:=R) (by rw[← hR]; omega)
 ·subst he
  subst he2
  obtain⟨b1,b2,b3⟩:=filled_back F F2
  refine sending_of ok hlow hps (fun p q=>?_) (fun p q=>?_) (fun p hp=>?_) (fun q hq=>?_)
  ·show 0≤(if p<8∧q<8 then m2 (8+q) p else 0)
   split
   ·rename_i h; exact(b1 p q h.1 h.2).1
   ·exact Int.le_refl _
  ·show(if p<8∧q<8 then m2 (8+q) p else 0)≤_
   split
   ·rename_i h; exact(b1 p q h.1 h.2).2
   ·unfold wL
    by_cases c:isN L p
    ·rw[if_pos c]
     have:=ok.le p c q
     omega
    ·rw[if_neg c]; exact Int.le_refl _
  ·rw[← b2 p hp]
   exact bz fun q hq=>if_pos ⟨hp,hq⟩
  ·have e:ak (fun p=>if p<8∧q<8 then m2 (8+q) p else 0) 8=ak (fun p=>m2 (8+q) p) 8:=bz fun p hp=>if_pos ⟨hp,hq⟩
   rw[e]
   exact b3 q hq
theorem zero160n:iV P 160=some (.map none):=by kernel_rfl
theorem sz160n:szT P 160=some 1:=by kernel_rfl
theorem zero3n:iV P 3=some (.int .i64 0):=by kernel_rfl
theorem fill_behind(l:Nat){rb u8:Nat}{m:Net}{cs:List Value}{H:Hp}{n:Nat}(hm:rk m)(hn:gk H rb m)(hr:rb<n)(hs:ak (fun v=>m 16 v) 18≤8000)(h8:H.get u8=some (.cells cs 3 false none))(n8:u8≠rb)(l8:u8<n) :
  ∃(x:Int) (m':Net) (H':Hp) (n':Nat),(∀ k:Value→Hp→Nat→Option ρ,effK P [(.l 3 ⟨u8,0,none⟩)] H n (fun H n k=>aY P (cal (l+23)) 107 [.map (some rb)] H n fun v H n=>k v H n) k=k (.int .i64 x) H' n')∧Filled 18 16 17 m x m'∧rk m'∧n≤n'∧gk H' rb m'∧∀ b,b<n→b≠rb→H'.get b=H.get b:=by
 have F:=Xq (N:=18) (s:=16) (t:=17) (y:=8000) (by omega) (by omega) (by omega) (k:=KK) (fun u v=>(hm u v).1) (show ak (fun v=>m 16 v) 18<((KK:Nat):Int) by unfold KK; omega)
 have only:∀ b,ldOf [Extra.l 3 ⟨u8,0,none⟩] b→b=u8:=fun b=>by
  rintro⟨t,a,q1,q2⟩
  rw[List.mem_singleton] at q1
  cases q1
  exact q2.symm
 have is8:ldOf [Extra.l 3 ⟨u8,0,none⟩] u8:=⟨_,_,List.mem_singleton.2 rfl,rfl⟩
 obtain⟨H',H2,n2,e1,⟨e2,e3,e4⟩,e5,e6⟩:=Mz (P:=P) (ρ:=ρ) (ex:=[.l 3 ⟨u8,0,none⟩]) (H:=H) (n:=n) (v:=.int .i64 (Bz 18 17 16 8000 KK m).1)
  (op:=fun H n k=>aY P (cal (l+23)) 107 [.map (some rb)] H n fun v H n=>k v H n)
  (R:=fun H2 n2=>n≤n2∧gk H2 rb (Bz 18 17 16 8000 KK m).2∧∀ b,b<n→b≠rb→b≠u8→H2.get b=H.get b)
  (fun y hy=>by
   rw[List.mem_singleton] at hy
   exact⟨_,_,hy,.inl ⟨_,_,_,_,h8⟩⟩)
  (fun Hm hmm=>by
   have hm':∀ b,b≠u8→Hm.get b=H.get b:=fun b hb=>hmm b fun q=>hb (only b q)
   obtain⟨H2,n2,f1,f2,f3,f4⟩:=Xx l KK m 0 Hm n hm (hn.keep (hm' rb (Ne.symm n8))) hr (Int.le_refl _) (by unfold KK; omega) (by omega)
   refine⟨H2,n2,fun k=>?_,fun b hb=>?_,f2,f3,fun b h1 h2 h3=>by rw[f4 b h1 h2,hm' b h3]⟩
   ·unfold aY
    rw[MZ,call107]
    unfold Yw B107_0
    rw[f1]
    show aq (some _) _=_
    rw[aj,Int.zero_add]
   ·rw[only b hb]; exact f4 u8 l8 n8)
 have same:∀ b,b<n→b≠rb→H'.get b=H.get b:=fun b h1 h2=>by
  by_cases c:b=u8
  ·rw[c]; exact e5 u8 is8
  ·rw[e6 b (fun q=>c (only b q))]; exact e4 b h1 h2 c
 refine⟨_,_,H',n2,e1,F,fun u v=>⟨F.ge u v,fun hu hv=>?_⟩,e2,e3.keep (e6 rb fun q=>n8 (only rb q).symm),same⟩
 have a:=F.flow.anti u v hu hv
 have a:m u v-(Bz 18 17 16 8000 KK m).2 u v=-(m v u-(Bz 18 17 16 8000 KK m).2 v u):=a
 have:=(hm u v).2 hu hv
 omega
def Py(js ks ps L:List Int)(nj np:Nat)(r:Value)(H':Hp)(n':Nat):Prop:=
 (∃ u rw_ m2,r=.tuple ⟨[u,.bool true]⟩∧bx u=false∧eQ H' n' u np rw_ (nQ js ks L nj np m2)∧Sending js ks ps L nj np (fun p q=>if p<8∧q<8 then m2 (8+q) p else 0)) ∨
 (r=.tuple ⟨[.slice none 0 0,.bool false]⟩∧∃(A B:Nat→Bool) (b e:Bool),(b=true→e=true)∧canC js ks ps L nj np A B b e<yQ js ks ps L nj np A B b e)
theorem take_one{H:Hp}{d:Nat}(h:H.get d=some .deferred):rV H [d]=some (H.set d none):=by
 simp only[rV,h]
theorem call78(l:Nat)(a b:Value)(H:Hp)(n:Nat):(cal (l+1)).call 78 [a,b] H n=C78_0 (cal l) KK a b H n []:=by kernel_rfl
theorem mild_small{m:Net}(h:∀ u v,0≤m u v∧m u v≤100000):rk m:=fun u v=>⟨(h u v).1,fun _ _=>by have:=h u v; have:=h v u; omega⟩
theorem pads_text(l:Nat){H0:Hp}{n0 N n:Nat}{js ks ps L:List Int}{nj np nk g u3 u6 u7 u8 rb:Nat}{x yv z:Value}{f:Nat→Value}{H:Hp}(F:Fixed H0 n0 js ks ps L nj np u6 u7 rb x)(ok:LaidNests js ks L nj np)(hSb:∀ p,isN L p→fZ (sL js ks L nj np p))(hy:∀ p,isN L p→0≤yL ks L p∧yL ks L p≤1000)(hps:∀ q,q<np→ps.getD (q * 2) 0≤ps.getD (q * 2+1) 0)
  (hn0:n≤n0) (hkeep:Keep n H H0) (hrn:n≤rb) (hgn:g<n) (hf:cj H g 859 115 f) (hs:SiteF f x yv z js nj) (hx:dV H n 2 x np ps) (hn:∀ p kd,p<np→kd<nk→sW f js ks nj np p kd) (hks:pj ks nk) (hnp0:0<np) (hnk:nk≤3) (hL:L.length=8) (hK:rZ L np nk)
  (hN:H0.get N=some .deferred) (lN:N<n0) (nN:N≠rb) (hNn:n≤N) (h3:H0.get u3=some (.cells (ints L) 119 false none)) (l3:u3<n0) (n3:u3≠rb) (h8:H0.get u8=some (.cells [.int .i64 (ak (cx js ks L nj np) 8)] 3 false none)) (l8:u8<n0) (n8:u8≠rb)
  (hnet:gk H0 rb (netP js ks L nj np 8)) :
  ∃ r H' n',S78_3 (cal (l+24)) KK KK (.pointer (some ⟨g,0,none⟩)) (.pointer (some ⟨u3,0,none⟩)) (.pointer (some ⟨u6,0,none⟩)) (.pointer (some ⟨u7,0,none⟩)) (.pointer (some ⟨u8,0,none⟩)) (.int .i64 0) x (.int .i64 np) (.int .i64 0) H0 n0 [N]=some (r,H',n')∧n≤n'∧Keep n H H'∧Py js ks ps L nj np r H' n':=by
 have np8:=F.np8
 have lens:(ints L).length=8:=by rw[bj,hL]
 have ss:=spare_small ok hSb hy
 have sum8:=BQ ss 8
 have stop:∀(Hc:Hp) (nc:Nat),n0≤nc→(∀ b,b<n0→b≠rb→Hc.get b=H0.get b)→(∃(A B:Nat→Bool) (b e:Bool),(b=true→e=true)∧canC js ks ps L nj np A B b e<yQ js ks ps L nj np A B b e) →
   ∃ r H' n',(getK (rV Hc [N]) fun H'=>some (.tuple ⟨[.slice none 0 0,.bool false]⟩,H',nc))=some (r,H',n')∧n≤n'∧Keep n H H'∧Py js ks ps L nj np r H' n':=fun Hc nc h1 h2 h3=>by
  rw[take_one ((h2 N lN nN).trans hN)]
  exact⟨_,_,_,rfl,by omega,fun b hb=>by rw[Tr.get_set,if_neg (by omega),h2 b (by omega) (by omega)]; exact hkeep b hb,.inr ⟨rfl,h3⟩⟩
 refine need_loop (l+23) KK F (Q:=fun o=>∃ r H' n',o=some (r,H',n')∧n≤n'∧Keep n H H'∧Py js ks ps L nj np r H' n') (fun i Hc nc hi hbad h1 h2=>?_) (fun Hc nc m b3 hlow h1 h2 h4=>?_) KK 0 H0 n0 (Nat.zero_le _) (by unfold KK; omega) (fun q hq=>absurd hq (by omega)) (Nat.le_refl _) (fun _ _ _=>rfl) (by rw[netU_zero]; exact hnet)
 ·obtain⟨A,B,h⟩:=cut_room np8 hi hbad
  exact stop Hc nc h1 h2 ⟨A,B,true,true,fun _=>rfl,h⟩
 ·unfold C78_3
  generalize hJ:S78_4 (cal (l+23+1)) KK KK=J
  unfold B78_3
  have l6:=F.l6
  have n6:=F.n6
  have lr:=F.lr
  rw[net_first np8] at h4
  have small1:rk (tnet (wL js ks L nj np) (cx js ks L nj np) (eJ js ks ps L nj np)):=mild_small fun u v=>by
   unfold tnet
   by_cases c1:u=16∧v<8
   ·rw[if_pos c1]; have:=ss v; omega
   ·rw[if_neg c1]
    by_cases c2:u<8∧8≤v∧v<16
    ·rw[if_pos c2]
     unfold wL
     by_cases c:isN L u
     ·rw[if_pos c]
      have:=hSb u c ((v-8) * 2)
      have:=hSb u c ((v-8) * 2+1)
      have:=ok.le u c (v-8)
      omega
     ·rw[if_neg c]; omega
    ·rw[if_neg c2]
     by_cases c3:8≤u∧u<16∧v=17
     ·rw[if_pos c3]
      unfold eJ
      by_cases c:u-8<np
      ·rw[if_pos c]
       have:=F.mild (u-8) c
       have:=F.small (u-8)
       omega
      ·rw[if_neg c]; omega
     ·rw[if_neg c3]; omega
  have src1:ak (fun v=>tnet (wL js ks L nj np) (cx js ks L nj np) (eJ js ks ps L nj np) 16 v) 18=ak (cx js ks L nj np) 8:=Xw _ _ _
  obtain⟨x1,m1,H1,nn1,e1,F1,sm1,q1,q2,q3⟩:=fill_call (ρ:=Value × Hp × Nat) (l+1) small1 h4 (show rb<nc by omega) (by rw[src1]; omega)
  have g6:Hc.get u6=some (.cells [.map (some rb)] 160 false none):=(h2 u6 l6 n6).trans F.cell
  have keep1:∀ b,b<n0→b≠rb→H1.get b=H0.get b:=fun b hb hne=>by rw[q3 b (by omega) hne]; exact h2 b hb hne
  have sneed:ak (eJ js ks ps L nj np) np=ak (eJ js ks ps L nj np) 8:=(nJ np8 fun q hq _=>if_neg (by omega)).symm
  obtain⟨say1,say2⟩:=fills_say (x2:=0) (m2:=m1) ok hlow hps F1
  rw[aJ dq,jx,if_neg (by omega),aQ,aj,iy g6 xy rfl rfl,aj,show l+23+1=l+1+23 by omega,e1,aJ ix]
  by_cases c1:x1=ak (eJ js ks ps L nj np) np
  ·have hz1:=Sk (by rw[sneed] at c1; rw[← c1]; exact F1)
   have net1:gk H1 rb (netU m1 (rK js ks ps L nj np) 0):=by rw[netU_zero]; exact q2
   have cg:∀(Hd:Hp),(∀ b,b<n0→b≠rb→Hd.get b=H0.get b)→cj Hd g 859 115 f:=fun Hd hd=>by
    obtain⟨c,a1,a2,a3⟩:=hf
    exact⟨c,by rw[hd g (by omega) (by omega),hkeep g hgn]; exact a1,a2,a3⟩
   have lx:az P H1 31 ⟨g,0+0+0,none⟩=some x:=by
    have:=(cg H1 keep1).load (P:=P) (k:=0) Bq (by omega)
    rw[hs.x] at this; exact this
   rw[decide_eq_true c1,Bool.not_true,eV,lk,aj,oK,aj,qJ,aj,aQ,aj,lx,aj,hx.len_eq Bv,aj,← hJ]
   refine more_loop (l+23) KK F (Q:=fun o=>∃ r H' n',o=some (r,H',n')∧n≤n'∧Keep n H H'∧Py js ks ps L nj np r H' n') (fun Hd nd m b4 d1 d2 d3=>?_) KK 0 H1 nn1 (Nat.zero_le _) (by unfold KK; omega) (by omega) keep1 net1
   rw[net_second np8 hz1] at d3
   have more0:∀ q,0≤rK js ks ps L nj np q∧rK js ks ps L nj np q≤100000:=fun q=>by
    unfold rK
    by_cases c:q<np
    ·rw[if_pos c]
     have:=F.mild q c
     have:=hlow q c
     have:=hps q c
     have:=F.small q
     omega
    ·rw[if_neg c]; omega
   have small2:rk (anew m1 (rK js ks ps L nj np)):=fun u v=>by
    refine⟨?_,fun hu hv=>?_⟩
    ·unfold anew
     split
     ·exact(more0 _).1
     ·exact F1.ge u v
    ·have back:∀ u,u<18→8≤u→u<16→m1 17 u≤100000:=fun u hu h1 h2=>by
      have a:=F1.flow.anti u 17 hu (by omega)
      have a:tnet (wL js ks L nj np) (cx js ks L nj np) (eJ js ks ps L nj np) u 17-m1 u 17=-(tnet (wL js ks L nj np) (cx js ks L nj np) (eJ js ks ps L nj np) 17 u-m1 17 u):=a
      have t1:tnet (wL js ks L nj np) (cx js ks L nj np) (eJ js ks ps L nj np) 17 u=0:=by
       unfold tnet
       rw[if_neg (by omega),if_neg (by omega),if_neg (by omega)]
      have t2:tnet (wL js ks L nj np) (cx js ks L nj np) (eJ js ks ps L nj np) u 17=eJ js ks ps L nj np (u-8):=by
       unfold tnet
       rw[if_neg (by omega),if_neg (by omega),if_pos ⟨h1,h2,rfl⟩]
      have:=F1.ge u 17
      have t3:eJ js ks ps L nj np (u-8)≤100000:=by
       unfold eJ
       by_cases c:u-8<np
       ·rw[if_pos c]
        have:=F.mild (u-8) c
        have:=F.small (u-8)
        omega
       ·rw[if_neg c]; omega
      omega
     unfold anew
     by_cases c2:8≤u∧u<16∧v=17
     ·rw[if_pos c2,if_neg (by omega),c2.2.2]
      have:=back u hu c2.1 c2.2.1
      have:=more0 (u-8)
      omega
     ·rw[if_neg c2]
      by_cases c3:8≤v∧v<16∧u=17
      ·rw[if_pos c3,c3.2.2]
       have:=back v hv c3.1 c3.2.1
       have:=more0 (v-8)
       omega
      ·rw[if_neg c3]
       exact(sm1 u v).2 hu hv
   have src2:ak (fun v=>anew m1 (rK js ks ps L nj np) 16 v) 18≤8000:=by
    have same:ak (fun v=>anew m1 (rK js ks ps L nj np) 16 v) 18=ak (m1 16) 18:=bz fun v _=>if_neg (by omega)
    have w:=F1.worth
    rw[pw,src1] at w
    have w:ak (cx js ks L nj np) 8-ak (m1 16) 18=x1:=w
    have ge0:0≤ak (eJ js ks ps L nj np) np:=by
     have z:ak (fun _=>0) np≤ak (eJ js ks ps L nj np) np:=iJ fun q hq=>by unfold eJ; rw[if_pos hq]; omega
     rw[jW] at z
     exact z
    rw[same]
    omega
   have d8:Hd.get u8=some (.cells [.int .i64 (ak (cx js ks L nj np) 8)] 3 false none):=(d2 u8 l8 n8).trans h8
   have d6:Hd.get u6=some (.cells [.map (some rb)] 160 false none):=(d2 u6 l6 n6).trans F.cell
   obtain⟨x2,m2,H2,nn2,f1,F2,sm2,p1,p2,p3⟩:=fill_behind (ρ:=Value × Hp × Nat) (l+1) small2 d3 (show rb<nd by omega) src2 d8 n8 (show u8<nd by omega)
   have keep2:∀ b,b<n0→b≠rb→H2.get b=H0.get b:=fun b hb hne=>by rw[p3 b (by omega) hne]; exact d2 b hb hne
   have hI:I64 (ak (cx js ks L nj np) 8-ak (eJ js ks ps L nj np) np):=by
    have z:ak (eJ js ks ps L nj np) np≤ak (fun _=>100000) np:=iJ fun q hq=>by
     unfold eJ; rw[if_pos hq]; have:=F.mild q hq; have:=F.small q; omega
    have c:∀ i:Nat,ak (fun _=>(100000:Int)) i=i * 100000:=fun i=>by
     induction i with
     | zero=>rfl
     | succ i ih=>simp only[ak]; rw[ih]; omega
    rw[c] at z
    have ge0:0≤ak (eJ js ks ps L nj np) np:=by
     have z:ak (fun _=>0) np≤ak (eJ js ks ps L nj np) np:=iJ fun q hq=>by unfold eJ; rw[if_pos hq]; omega
     rw[jW] at z
     exact z
    unfold I64
    omega
   unfold C78_4 B78_4
   rw[aJ dq,jx,if_neg (by omega),aQ,aj,iy d6 xy rfl rfl,aj,aQ,aj,bq (k:=0) (o:=0) (cY d8) agg3 rfl,aj,aJ (vy hI),show l+23+1=l+1+23 by omega,f1,aJ ix]
   obtain⟨say3,say4⟩:=(fills_say (x2:=x2) (m2:=m2) ok hlow hps F1).2 (by rw[← sneed]; exact c1) F2
   rw[sneed]
   by_cases c2:x2=ak (cx js ks L nj np) 8-ak (eJ js ks ps L nj np) 8
   ·rw[decide_eq_true c2,Bool.not_true,eV,aQ,aj,cK ((keep2 u3 l3 n3).trans h3) xq rY lens,aj,aj,iy ((keep2 u6 l6 n6).trans F.cell) xy rfl rfl,aj]
    obtain⟨u,rw_,H3,nn3,s1,s2,s3,s4,s5⟩:=sent_call (ρ:=Value × Hp × Nat) (l+18) (show g<nn2 by omega) (show rb<nn2 by omega) (cg H2 keep2) hs ((hx.keep (H':=H2) (m:=n) (fun b hb=>by rw[keep2 b (by omega) (by omega)]; exact hkeep b hb) (Nat.le_refl _)).up (show n≤nn2 by omega)) hn hks np8 hnp0 hnk hL hK hSb sm2 p2
    rw[show l+1+23=l+18+6 by omega,s1,take_one ((s3 N (by omega)).trans ((keep2 N lN nN).trans hN))]
    refine⟨_,_,_,rfl,by omega,fun b hb=>?_,.inl ⟨u,rw_,m2,rfl,s4,?_,say4 c2⟩⟩
    ·rw[Tr.get_set,if_neg (by omega),s3 b (by omega),keep2 b (by omega) (by omega)]
     exact hkeep b hb
    ·exact s5 _ fun b hb=>by rw[Tr.get_set,if_neg (by omega)]
   ·rw[decide_eq_false c2,Bool.not_false,fQ]
    obtain⟨A,B,h⟩:=say3 c2
    exact stop H2 nn2 (by omega) keep2 ⟨A,B,true,true,fun _=>rfl,h⟩
  ·rw[decide_eq_false c1,Bool.not_false,fQ]
   obtain⟨A,B,h⟩:=say1 (by rw[← sneed]; exact c1)
   exact stop H1 nn1 (by omega) keep1 ⟨A,B,false,false,(fun h=>by cases h),h⟩
theorem netM_nil(js ks L:List Int)(nj np:Nat):netM []=netP js ks L nj np 0:=by
 funext u v
 unfold netM netP getF
 rw[if_neg (by omega),if_neg (by omega)]
theorem goodSpread_call(l:Nat){js ks ps L:List Int}{nj np nk g:Nat}{f:Nat→Value}{x yv z:Value}{H:Hp}{n:Nat}(ok:LaidNests js ks L nj np)(hSb:∀ p,isN L p→fZ (sL js ks L nj np p))(hy:∀ p,isN L p→0≤yL ks L p∧yL ks L p≤1000)(hps:∀ q,q<np→ps.getD (q * 2) 0≤ps.getD (q * 2+1) 0)
  (hmild:∀ q,q<np→(0≤ps.getD (q * 2) 0∧ps.getD (q * 2) 0≤100000)∧(0≤ps.getD (q * 2+1) 0∧ps.getD (q * 2+1) 0≤100000))
  (hgn:g<n) (hf:cj H g 859 115 f) (hs:SiteF f x yv z js nj) (hx:dV H n 2 x np ps) (hn:∀ p kd,p<np→kd<nk→sW f js ks nj np p kd) (hks:pj ks nk) (hnp0:0<np) (hnk:nk≤3) (hL:L.length=8) (hK:rZ L np nk) :
  ∃(r:Value) (H':Hp) (n':Nat),(∀ k:Value→Hp→Nat→Option ρ,aY P (cal (l+25)) 78 [.pointer (some ⟨g,0,none⟩),.agg ⟨ints L⟩] H n k=k r H' n')∧n≤n'∧Keep n H H'∧Py js ks ps L nj np r H' n':=by
 have lens:(ints L).length=8:=by rw[bj,hL]
 have np8:=ok.np8
 suffices h:∃(r:Value) (H':Hp) (n':Nat),C78_0 (cal (l+24)) KK (.pointer (some ⟨g,0,none⟩)) (.agg ⟨ints L⟩) H n []=some (r,H',n')∧n≤n'∧Keep n H H'∧Py js ks ps L nj np r H' n' by
  obtain⟨r,H',n',e,h1,h2,h3⟩:=h
  refine⟨r,H',n',fun k=>?_,h1,h2,h3⟩
  unfold aY
  have:(fX P 78 && bK [.pointer (some ⟨g,0,none⟩),.agg ⟨ints L⟩])=false:=by rw[Bool.and_eq_false_iff]; exact .inr rfl
  rw[this,show l+25=(l+24)+1 by omega,call78,e]
  rfl
 unfold C78_0 B78_0
 rw[dv]
 simp only[bv,ptr]
 unfold newMapK
 dsimp only
 generalize hH1:(H.set n (some (.cells (ints L) 119 false none))).set (n+1) (some (.map [] 0))=H1
 have k1:Keep n H H1:=fun b hb=>by rw[← hH1,Tr.get_set,if_neg (by omega),Tr.get_set,if_neg (by omega)]
 have a0:H1.get n=some (.cells (ints L) 119 false none):=by rw[← hH1,Tr.get_set,if_neg (by omega),Tr.get_set,if_pos rfl]
 have a1:H1.get (n+1)=some (.map [] 0):=by rw[← hH1,Tr.get_set,if_pos rfl]
 clear hH1
 obtain⟨H2,k2,a2,e2⟩:=qlx (ρ:=Value × Hp × Nat) zero160n rfl sz160n (v:=.map (some (n+1))) rfl H1 (n+1+1)
 rw[e2,fK zero120]
 simp only[bv,ptr]
 generalize hH3:H2.set (n+1+1+1) (some (.cells (ints (List.replicate 8 0)) 118 false none))=H3
 have k3:∀ b,b<n+1+1+1→H3.get b=H2.get b:=fun b hb=>by rw[← hH3,Tr.get_set,if_neg (by omega)]
 have a3:H3.get (n+1+1+1)=some (.cells (ints (List.replicate 8 0)) 118 false none):=by rw[← hH3,Tr.get_set,if_pos rfl]
 clear hH3
 obtain⟨H4,k4,a4,e4⟩:=qlx (ρ:=Value × Hp × Nat) zero3n rfl sz3 (v:=.int .i64 0) rfl H3 (n+1+1+1+1)
 have all4:∀ b,b<n+1+1→H4.get b=H1.get b:=fun b hb=>by rw[k4 b (by omega),k3 b (by omega),k2 b hb]
 rw[e4,aQ,aj,cK ((all4 n (by omega)).trans a0) xq rY lens,aj,show l+24=(l+23)+1 by omega,MQ (l+23)]
 generalize hH5:(H4.set (n+1+1+1+1+1) (some (.cells [.pointer (some ⟨g,0,none⟩)] 103 false none))).set (n+1+1+1+1+1+1) (some (.cells (ints L) 119 false none))=H5
 have k5:∀ b,b<n+1+1+1+1+1→H5.get b=H4.get b:=fun b hb=>by rw[← hH5,Tr.get_set,if_neg (by omega),Tr.get_set,if_neg (by omega)]
 have q3:H5.get (n+1+1+1+1+1)=some (.cells [.pointer (some ⟨g,0,none⟩)] 103 false none):=by rw[← hH5,Tr.get_set,if_neg (by omega),Tr.get_set,if_pos rfl]
 have q4:H5.get (n+1+1+1+1+1+1)=some (.cells (ints L) 119 false none):=by rw[← hH5,Tr.get_set,if_pos rfl]
 clear hH5
 have p0:H5.get n=some (.cells (ints L) 119 false none):=by rw[k5 n (by omega),all4 n (by omega)]; exact a0
 have p1:H5.get (n+1)=some (.map [] 0):=by rw[k5 _ (by omega),all4 _ (by omega)]; exact a1
 have p2:H5.get (n+1+1)=some (.cells [.map (some (n+1))] 160 false none):=by rw[k5 _ (by omega),k4 _ (by omega),k3 _ (by omega)]; exact a2
 have p3:H5.get (n+1+1+1)=some (.cells (ints (List.replicate 8 0)) 118 false none):=by rw[k5 _ (by omega),k4 _ (by omega)]; exact a3
 have p4:H5.get (n+1+1+1+1)=some (.cells [.int .i64 0] 3 false none):=(k5 _ (by omega)).trans a4
 have kn:Keep n H H5:=fun b hb=>by rw[k5 b (by omega),all4 b (by omega),k1 b hb]
 have f5:cj H5 g 859 115 f:=hf.keep kn hgn
 unfold C78_1 B78_1
 generalize hN:n+1+1+1+1+1+2=N at *
 obtain⟨H6,n6,i6,e6⟩:=placed_range (l+19) (D:=[]) (T78 (.pointer (some ⟨g,0,none⟩)) (.pointer (some ⟨n,0,none⟩)) (.pointer (some ⟨n+1+1,0,none⟩)) (.pointer (some ⟨n+1+1+1,0,none⟩)) (.pointer (some ⟨n+1+1+1+1,0,none⟩)) (.func (.func 104) ⟨[]⟩ ⟨[.pointer (some ⟨n+1+1+1+1+1+1,0,none⟩),.pointer (some ⟨n+1+1+1+1+1,0,none⟩)]⟩)) #[24,25] sv jq (wX (cal (l+24)) KK) (Kx (cal (l+24)) KK) (av P bQ)
  hL hK np8 hnk q3 q4 (show n+1+1+1+1+1+1<N by omega) f5 hn
  (fun i Hc nc=>N+2≤nc∧Hc.get (N+1)=some (.loop .ready none 78 (T78 (.pointer (some ⟨g,0,none⟩)) (.pointer (some ⟨n,0,none⟩)) (.pointer (some ⟨n+1+1,0,none⟩)) (.pointer (some ⟨n+1+1+1,0,none⟩)) (.pointer (some ⟨n+1+1+1+1,0,none⟩)) (.func (.func 104) ⟨[]⟩ ⟨[.pointer (some ⟨n+1+1+1+1+1+1,0,none⟩),.pointer (some ⟨n+1+1+1+1+1,0,none⟩)]⟩)) (ntm P 78) #[24,25] sv jq N)∧Hc.get N=some .deferred ∧
   gk Hc (n+1) (netP js ks L nj np i)∧ov Hc (n+1+1+1) js ks L nj np i 0∧Hc.get (n+1+1+1+1)=some (.cells [.int .i64 (ak (cx js ks L nj np) i)] 3 false none)∧∀ b,b<N→b≠n+1→b≠n+1+1+1→b≠n+1+1+1+1→Hc.get b=H5.get b)
  (fun i Hc nc ⟨c1,c2,c3,c4,c5,c6,c7⟩=>⟨c7 _ (by omega) (by omega) (by omega) (by omega),c7 _ (by omega) (by omega) (by omega) (by omega),c2⟩)
  (fun Ha h1 h2 h3=>⟨Nat.le_refl _,h3,h2,⟨[],⟨(h1 _ (by omega)).trans p1,fun _ h=>by cases h⟩,netM_nil ..⟩,⟨_,by simp,(h1 _ (by omega)).trans p3,fun q hq=>by
    rw[if_neg (by omega),List.getD_eq_getElem?_getD,List.getElem?_replicate,if_pos hq]
    rfl⟩,(h1 _ (by omega)).trans p4,fun b hb _ _ _=>h1 b hb⟩)
  (fun i Hc nc kd B ⟨c1,c2,c3,c4,c5,c6,c7⟩ hip hkd hLi hB=>by
   have hNi:isN L i:=⟨by omega,by omega⟩
   have hSe:shP js ks nj np i kd=sL js ks L nj np i:=by unfold sL; rw[hLi,Int.toNat_natCast]
   have hye:ks.getD (kd * 5) 0=yL ks L i:=by unfold yL; rw[hLi,Int.toNat_natCast]
   obtain⟨H',n',y1,y2,y3,y4,y5,y6,y7⟩:=round78 (ρ:=Value × Hp × Nat) (l+19) ok hSb hy hNi hSe hye (JV ..) hB.1 c2 (show n+1+1<nc by omega) (show n+1+1+1<nc by omega) (show n+1+1+1+1<nc by omega) (show n+1<nc by omega) (by omega) ⟨by omega,by omega,by omega,by omega⟩ ⟨by omega,by omega,by omega⟩ ⟨by omega,by omega⟩ (by omega)
    ((c7 _ (by omega) (by omega) (by omega) (by omega)).trans p2) c4 c5 c6
   exact⟨H',n',y1,by omega,y3.trans c2,(y7 N (by omega) (by omega) (by omega) (by omega) (by omega)).trans c3,y4,y5,y6,fun b hb h1 h2 h3=>(y7 b (by omega) (by omega) h1 h2 h3).trans (c7 b hb h1 h2 h3)⟩)
  (fun i Hc nc ⟨c1,c2,c3,c4,c5,c6,c7⟩ hLi=>⟨c1,c2,c3,by rw[netP_skip hLi]; exact c4,c5.skip hLi,by
   have:ak (cx js ks L nj np) (i+1)=ak (cx js ks L nj np) i:=by
    simp only[ak]
    unfold cx
    rw[if_neg (fun h':isN L i=>h'.2 hLi)]
    omega
   rw[this]; exact c6,c7⟩)
 obtain⟨c1,c2,c3,c4,c5,c6,c7⟩:=i6
 show ∃ r H' n',yY P (cal (l+19+5)) none 78 _ #[24,25] sv jq (wX (cal (l+24)) KK) (Kx (cal (l+24)) KK) (av P bQ) (T78 _ _ _ _ _ _) H5 N []=_∧_
 rw[e6]
 have post:∀(H:Hp) (n':Nat) (D:List Nat),wX (cal (l+24)) KK (T78 (.pointer (some ⟨g,0,none⟩)) (.pointer (some ⟨n,0,none⟩)) (.pointer (some ⟨n+1+1,0,none⟩)) (.pointer (some ⟨n+1+1+1,0,none⟩)) (.pointer (some ⟨n+1+1+1+1,0,none⟩)) (.func (.func 104) ⟨[]⟩ ⟨[.pointer (some ⟨n+1+1+1+1+1+1,0,none⟩),.pointer (some ⟨n+1+1+1+1+1,0,none⟩)]⟩)) H n' D =
   C78_2 (cal (l+24)) KK (.pointer (some ⟨g,0,none⟩)) (.pointer (some ⟨n,0,none⟩)) (.pointer (some ⟨n+1+1,0,none⟩)) (.pointer (some ⟨n+1+1+1,0,none⟩)) (.pointer (some ⟨n+1+1+1+1,0,none⟩)) (.func (.func 104) ⟨[]⟩ ⟨[.pointer (some ⟨n+1+1+1+1+1+1,0,none⟩),.pointer (some ⟨n+1+1+1+1+1,0,none⟩)]⟩) H n' D:=h78_2 (cal (l+24)) KK (.pointer (some ⟨g,0,none⟩)) (.pointer (some ⟨n,0,none⟩)) (.pointer (some ⟨n+1+1,0,none⟩)) (.pointer (some ⟨n+1+1+1,0,none⟩)) (.pointer (some ⟨n+1+1+1+1,0,none⟩)) (.func (.func 104) ⟨[]⟩ ⟨[.pointer (some ⟨n+1+1+1+1+1+1,0,none⟩),.pointer (some ⟨n+1+1+1+1+1,0,none⟩)]⟩)
 rw[post]
 unfold C78_2
 generalize hJ:S78_3 (cal (l+24)) KK KK=J
 unfold B78_2
 generalize hHx:H6.set (N+1) (some (.loop .exhausted none 78 (T78 (.pointer (some ⟨g,0,none⟩)) (.pointer (some ⟨n,0,none⟩)) (.pointer (some ⟨n+1+1,0,none⟩)) (.pointer (some ⟨n+1+1+1,0,none⟩)) (.pointer (some ⟨n+1+1+1+1,0,none⟩)) (.func (.func 104) ⟨[]⟩ ⟨[.pointer (some ⟨n+1+1+1+1+1+1,0,none⟩),.pointer (some ⟨n+1+1+1+1+1,0,none⟩)]⟩)) (ntm P 78) #[24,25] sv jq N))=Hx
 have x1:∀ b,b≠N+1→Hx.get b=H6.get b:=fun b hb=>by rw[← hHx,Tr.get_set,if_neg hb]
 clear hHx
 have keepx:Keep n H Hx:=fun b hb=>by rw[x1 b (by omega),c7 b (by omega) (by omega) (by omega) (by omega)]; exact kn b hb
 have lx:az P Hx 31 ⟨g,0+0+0,none⟩=some x:=by
  have:=(hf.keep keepx hgn).load (P:=P) (k:=0) Bq (by omega)
  rw[hs.x] at this; exact this
 rw[lk,aj,oK,aj,qJ,aj,aQ,aj,lx,aj,hx.len_eq Bv,aj,← hJ]
 have low8:∀ q,0≤lowL js ks L nj np q 8∧lowL js ks L nj np q 8≤8000:=fun q=>by
  have:=Xy (nj:=nj) (np:=np) hSb q 8
  omega
 have F:Fixed Hx n6 js ks ps L nj np (n+1+1) (n+1+1+1) (n+1) x:={
  l6:=by omega
  l7:=by omega
  lr:=by omega
  n6:=by omega
  n7:=by omega
  cell:=by rw[x1 _ (by omega),c7 _ (by omega) (by omega) (by omega) (by omega)]; exact p2
  low:=c5.keep (x1 _ (by omega))
  pads:=⟨n,by omega,by omega,hx.keep keepx (Nat.le_refl _)⟩
  np8:=np8
  small:=low8
  mild:=hmild
  len:=hx.1 }
 exact pads_text l F ok hSb hy hps (by omega) keepx (by omega) hgn hf hs hx hn hks hnp0 hnk hL hK ((x1 N (by omega)).trans c3) (show N<n6 by omega) (by omega) (by omega)
  (by rw[x1 _ (by omega),c7 _ (by omega) (by omega) (by omega) (by omega)]; exact p0) (show n<n6 by omega) (by omega) ((x1 _ (by omega)).trans c6) (show n+1+1+1+1<n6 by omega) (by omega) (c4.keep (x1 _ (by omega)))
theorem same_spread{H Hm:Hp}{n len:Nat}{v:Value}{rw_:Nat→Value}{R:Nat→List Int}(hr:Same H Hm)(h:eQ H n v len rw_ R):eQ Hm n v len rw_ R:=by
 obtain⟨h1,h2⟩:=h
 refine⟨?_,fun p hp=>same_list hr (h2 p hp)⟩
 rcases h1 with h1 | ⟨b,o,cap,e,a,c⟩
 ·exact .inl h1
 ·exact .inr ⟨b,o,cap,e,a,hr _ _ _ c⟩
def RowsIn(R:Nat→List Int)(np:Nat):Prop:=∀ p,p<np→((R p).length=0∨(R p).length=np)∧∀ q,0≤(R p).getD q 0∧(R p).getD q 0≤1000000
theorem isGood_loop(l k:Nat){np nj nk b0:Nat}{ps js ks:List Int}{x y z u:Value}{rw_:Nat→Value}{R:Nat→List Int}{H0:Hp}{n0:Nat}(hg:GroveI H0 n0 (.agg ⟨[x,y,z]⟩) np nj nk ps js ks)(hv:eQ H0 n0 u np rw_ R)(hR:RowsIn R np)(hnp:np≤1000)(hb:aZ H0 b0 0 [x,y,z])(hb0:b0<n0) :
  ∀(m i:Nat) (H:Hp) (n:Nat),n0≤n→Keep n0 H0 H→i≤np→np-i≤m →
  ∃(r:Bool) (H':Hp) (n':Nat),S40_1 (cal (l+1)) k m u (.pointer (some ⟨b0,0,none⟩)) (.int .i64 i) H n=some (.bool r,H',n')∧n≤n'∧Keep n H H'∧(r=true↔∀ q,i≤q→q<np→ps.getD (q * 2) 0≤oq R np q∧oq R np q≤ps.getD (q * 2+1) 0):=by
 have body:∀(b1:Value→Value→Value→Hp→Nat→Res) (m i:Nat) (H:Hp) (n:Nat),n0≤n→Keep n0 H0 H→i≤np →
   (∀(H:Hp) (n:Nat),i<np→n0≤n→Keep n0 H0 H→∃(r:Bool) (H':Hp) (n':Nat),b1 u (.pointer (some ⟨b0,0,none⟩)) (.int .i64 ((i+1:Nat):Int)) H n=some (.bool r,H',n')∧n≤n'∧Keep n H H'∧(r=true↔∀ q,i+1≤q→q<np→ps.getD (q * 2) 0≤oq R np q∧oq R np q≤ps.getD (q * 2+1) 0)) →
   ∃(r:Bool) (H':Hp) (n':Nat),C40_1 (cal (l+1)) k m b1 u (.pointer (some ⟨b0,0,none⟩)) (.int .i64 i) H n=some (.bool r,H',n')∧n≤n'∧Keep n H H'∧(r=true↔∀ q,i≤q→q<np→ps.getD (q * 2) 0≤oq R np q∧oq R np q≤ps.getD (q * 2+1) 0):=by
  intro b1 m i H n hn hk hi ih
  obtain⟨x',y',z',hxyz,h1,h2,h3⟩:=hg.eq
  cases hxyz
  have hx:SliceI H n 2 x np ps:=(h1.keep hk (Nat.le_refl _)).up hn
  have hbH:aZ H b0 0 [x,y,z]:=hb.keep hk hb0
  have lx:az P H 22 ⟨b0,0+0,none⟩=some x:=bw (k:=0) hbH ZQ rfl h1.hole.1 h1.hole.2
  unfold C40_1 B40_1
  have hlen:lenV P 22 x=some (.int .i64 np):=hx.len_eq QZ
  rw[Jy,aj,aQ,aj,lx,aj,hlen,aj,aJ dq,jx]
  by_cases hlt:i<np
  ·have hI1:I64 ((i:Int)+1):=by unfold I64; omega
   have hc1:((i:Int)+1)=((i+1:Nat):Int):=by omega
   obtain⟨pb,po,hix,hpb,hc⟩:=hx.at_ QZ sz95 hlt
   have gA:ps[i * 2]?=some (ps.getD (i * 2) 0):=getD_some (by rw[h1.1]; omega)
   have gB:ps[i * 2+1]?=some (ps.getD (i * 2+1) 0):=getD_some (by rw[h1.1]; omega)
   have lA:az P H 3 ⟨pb,po+i * 2+0,none⟩=some (.int .i64 (ps.getD (i * 2) 0)):=bq (k:=i * 2) hc agg3 (gX gA)
   have lB:az P H 3 ⟨pb,po+i * 2+1,none⟩=some (.int .i64 (ps.getD (i * 2+1) 0)):=by
    have:=bq (P:=P) (k:=i * 2+1) hc agg3 (gX gB)
    rw[show po+(i * 2+1)=po+i * 2+1 by omega] at this
    exact this
   have hvH:eQ H n u np rw_ R:=hv.keep hk hn
   have hR':∀ p,p<np→(R p).length=0∨(i<(R p).length∧0≤(R p).getD i 0∧(R p).getD i 0≤1000000):=fun p hp=>by
    obtain⟨a,b⟩:=hR p hp
    rcases a with a | a
    ·exact .inl a
    ·exact .inr ⟨by omega,(b i).1,(b i).2⟩
   obtain⟨H1,n1,e1,e2,e3⟩:=effK_read (ρ:=Value × Hp × Nat) (ex:=[.l 3 ⟨pb,po+i * 2+1,none⟩,.l 22 ⟨b0,0+0,none⟩,.l 3 ⟨pb,po+i * 2+0,none⟩,.l 22 ⟨b0,0+0,none⟩]) (H:=H) (n:=n) (v:=.int .i64 (oq R np i))
    (op:=fun H n k=>aY P (cal (l+1)) 34 [u,.int .i64 i] H n fun v H n=>k v H n)
    (fun y hy=>by
     simp only[List.mem_cons,List.not_mem_nil,or_false] at hy
     rcases hy with rfl | rfl | rfl | rfl
     ·exact⟨_,_,rfl,hpb,UJ hc⟩
     ·exact⟨_,_,rfl,by show b0<n; omega,UJ hbH⟩
     ·exact⟨_,_,rfl,hpb,UJ hc⟩
     ·exact⟨_,_,rfl,by show b0<n; omega,UJ hbH⟩)
    (fun Hm hs=>by
     obtain⟨H2,n2,y1,y2,y3⟩:=young_call (ρ:=Value × Hp × Nat) l (pad:=i) (same_spread hs hvH) hnp hR'
     exact⟨H2,n2,fun k=>y1 k,y2,y3⟩)
   rw[if_pos (by omega),aj,aQ,aj,lx,aj,hix,aj,fa95_0,aj,aQ,aj,lA,aj,aj,aQ,aj,lx,aj,hix,aj,fa95_1,aj,aQ,aj,lB,aj,e1,EY]
   cases hd:decide (ps.getD (i * 2) 0≤oq R np i∧oq R np i≤ps.getD (i * 2+1) 0) with
   | true=>
    have hd:=of_decide_eq_true hd
    obtain⟨r,H2,n2,f1,f2,f3,f4⟩:=ih H1 n1 hlt (by omega) (hk.trans e3 hn)
    rw[rX,aj,eV,aJ (bW hI1),hc1]
    refine⟨r,H2,n2,f1,by omega,e3.trans f3 e2,f4.trans ⟨fun h q q1 q2=>?_,fun h q q1 q2=>h q (by omega) q2⟩⟩
    by_cases c:q=i
    ·rw[c]; exact hd
    ·exact h q (by omega) q2
   | false=>
    have hd:=of_decide_eq_false hd
    rw[uY,aj,fQ]
    exact⟨false,H1,n1,rfl,e2,e3,⟨fun h=>(by cases h),fun h=>absurd (h i (Nat.le_refl _) hlt) hd⟩⟩
  ·rw[if_neg (by omega)]
   exact⟨true,H,n,rfl,Nat.le_refl _,Keep.refl _ _,⟨fun _ q h1 h2=>absurd h1 (by omega),fun _=>rfl⟩⟩
 intro m
 induction m with
 | zero=>
  intro i H n h1 h2 h3 h4
  exact body _ 0 i H n h1 h2 h3 (fun _ _ h=>by omega)
 | succ m ih=>
  intro i H n h1 h2 h3 h4
  exact body _ (m+1) i H n h1 h2 h3 (fun H n q1 q2 q3=>ih (i+1) H n q2 q3 (by omega) (by omega))
theorem call40(l:Nat)(a b:Value)(H:Hp)(n:Nat):(cal (l+1)).call 40 [a,b] H n=C40_0 (cal l) KK a b H n:=by kernel_rfl
theorem isGood_call(l:Nat){np nj nk:Nat}{ps js ks:List Int}{v u:Value}{rw_:Nat→Value}{R:Nat→List Int}{H:Hp}{n:Nat}(hg:GroveI H n v np nj nk ps js ks)(hv:eQ H n u np rw_ R)(hR:RowsIn R np)(hnp:np≤1000)(hne:bx u=false) :
  ∃(r:Bool) (H':Hp) (n':Nat),(r=true↔Rw ps R np)∧(∀ k:Value→Hp→Nat→Option ρ,aY P (cal (l+2)) 40 [v,u] H n k=k (.bool r) H' n')∧n≤n'∧Keep n H H':=by
 obtain⟨x,y,z,rfl,h1,h2,h3⟩:=hg.eq
 have hk:Keep n H (H.set n (some (.cells [x,y,z] 26 false none))):=(Keep.refl n H).set (Nat.le_refl _) _
 have hb:aZ (H.set n (some (.cells [x,y,z] 26 false none))) n 0 [x,y,z]:=aZ.new
 obtain⟨r,H',n',e1,e2,e3,e4⟩:=isGood_loop l KK (hg.keep hk (show n≤n+1 by omega)) (hv.keep hk (show n≤n+1 by omega)) hR hnp hb (by omega) KK 0 _ (n+1) (Nat.le_refl _) (Keep.refl _ _) (Nat.zero_le _) (by unfold KK; omega)
 refine⟨r,H',n',e4.trans ⟨fun h p hp=>h p (Nat.zero_le _) hp,fun h p _ hp=>h p hp⟩,fun k=>?_,by omega,hk.trans (e3.le (by omega)) (Nat.le_refl _)⟩
 unfold aY
 have:(fX P 40 && bK [.agg ⟨[x,y,z]⟩,u])=false:=by rw[Bool.and_eq_false_iff]; exact .inr (by simp [bK,hne])
 rw[this,show l+2=(l+1)+1 by omega,call40]
 unfold C40_0 B40_0
 rw[dv]
 simp only[bv,ptr]
 exact congrArg (fun o=>aq o fun r=>k r.1 r.2.1 r.2.2) e1
theorem Cv{np nj nk:Nat}{ps js ks ls:List Int}(good:Good np nj nk ps js ks)(hls:ls.length=np)(hok:zq js ks ls nj np nk) :
  (∀ p,isN (ez ls np) p→fZ (sL js ks (ez ls np) nj np p))∧∀ p,isN (ez ls np) p→0≤yL ks (ez ls np) p∧yL ks (ez ls np) p≤1000:=by
 have key:∀ p,isN (ez ls np) p→p<np∧∃ kd:Nat,(ez ls np).getD p 0=kd∧kd<nk:=fun p hp=>by
  have hpn:p<np:=Classical.byContradiction fun c=>hp.2 (HJ hls (by omega) hp.1)
  refine⟨hpn,?_⟩
  have e:=MJ hls hpn
  have hne:=hp.2
  rw[e] at hne ⊢
  rcases hok p hpn with h | h
  ·exact absurd h hne
  ·obtain⟨t1,t2,_⟩:=h
   exact⟨(ls.getD p 0).toNat,by omega,by omega⟩
 refine⟨fun p hp=>?_,fun p hp=>?_⟩
 ·obtain⟨h1,kd,h2,h3⟩:=key p hp
  unfold sL
  rw[h2,Int.toNat_natCast]
  exact sX good.kinds h3 good.np8 h1
 ·obtain⟨h1,kd,h2,h3⟩:=key p hp
  unfold yL
  rw[h2,Int.toNat_natCast]
  exact(good.kinds kd h3).1
theorem pads_range{np nj nk:Nat}{ps js ks:List Int}(good:Good np nj nk ps js ks):∀ q,q<np→(0≤ps.getD (q * 2) 0∧ps.getD (q * 2) 0≤ps.getD (q * 2+1) 0∧ps.getD (q * 2+1) 0≤100000):=by
 intro q hq
 have:¬ PBad ps q:=fun h=>good.ok (.inl ⟨q,hq,h⟩)
 unfold PBad at this
 omega
def ShowOut(js ks ps L:List Int)(nj np:Nat)(r:Value)(H':Hp)(n':Nat):Prop:=
 (∃ u rw_ m2,r=.tuple ⟨[u,.int .i64 0]⟩∧bx u=false∧eQ H' n' u np rw_ (nQ js ks L nj np m2)∧Sending js ks ps L nj np (fun p q=>if p<8∧q<8 then m2 (8+q) p else 0)) ∨
 (r=.tuple ⟨[.slice none 0 0,.int .i64 9]⟩∧∃(A B:Nat→Bool) (b e:Bool),(b=true→e=true)∧canC js ks ps L nj np A B b e<yQ js ks ps L nj np A B b e)
theorem Show_spec(l:Nat){np nj nk nl:Nat}{ps js ks ls:List Int}{H:Hp}{n:Nat}{v w:Value}(hg:iZ H n v np nj nk ps js ks)(hw:ListR H n w nl ls)(hnp:np≤1000)(hnj:nj≤1000)(hnk:nk≤1000)(hjs:js.length=nj * 2) :
  (eY np nj nk nl ps js ks ls≠0→Ret (ZY (cal (l+25)) KK v w H n) n H (.tuple ⟨[.slice none 0 0,.int .i64 (eY np nj nk nl ps js ks ls)]⟩)) ∧
  (eY np nj nk nl ps js ks ls=0→∃ r H' n',ZY (cal (l+25)) KK v w H n=some (r,H',n')∧n≤n'∧Keep n H H'∧ShowOut js ks ps (ez ls np) nj np r H' n'):=by
 have hg0:=hg
 obtain⟨x,y,z,rfl,h1,h2,h3⟩:=hg
 unfold ZY B37_0
 rw[dv]
 simp only[bv,ptr]
 have hk:Keep n H (H.set n (some (.cells [x,y,z] 35 false none))):=(Keep.refl n H).set (Nat.le_refl _) _
 have hb:aZ (H.set n (some (.cells [x,y,z] 35 false none))) n 0 [x,y,z]:=aZ.new
 generalize H.set n (some (.cells [x,y,z] 35 false none))=H1 at hk hb ⊢
 have lg:az P H1 35 ⟨n,0,none⟩=some (.agg ⟨[x,y,z]⟩):=bY (o:=0) (k:=0) hb QK sz35 (by simp) (by simp [h1.hole.1,h2.hole.1,h3.hole.1])
 obtain⟨o1,o2⟩:=Gq (l+18) (hg0.keep hk (show n≤n+1 by omega)) (hw.keep hk (show n≤n+1 by omega)) hnp hnj hnk
 rw[aQ,aj,lg,aj,show l+25=l+18+7 by omega,Gv]
 constructor
 ·intro hne
  obtain⟨H2,n2,e1,e2,e3⟩:=o1 hne
  have t0:tupV (.tuple ⟨[.pointer none,.agg ⟨ints (List.replicate 8 0)⟩,.int .i64 (eY np nj nk nl ps js ks ls)]⟩) 0=some (.pointer none):=rfl
  have t1:tupV (.tuple ⟨[.pointer none,.agg ⟨ints (List.replicate 8 0)⟩,.int .i64 (eY np nj nk nl ps js ks ls)]⟩) 1=some (.agg ⟨ints (List.replicate 8 0)⟩):=rfl
  have t2:tupV (.tuple ⟨[.pointer none,.agg ⟨ints (List.replicate 8 0)⟩,.int .i64 (eY np nj nk nl ps js ks ls)]⟩) 2=some (.int .i64 (eY np nj nk nl ps js ks ls)):=rfl
  obtain⟨H3,k1,k2,k3⟩:=qx (P:=P) (ρ:=Value × Hp × Nat) (H:=H2) (n:=n2) (L:=ints (List.replicate 8 0)) Fv rfl rY rfl (fj _)
  rw[e1,aj,t0,aj,t1,aj,t2,aj,k3,aJ ix,decide_eq_false hne,Bool.not_false,fQ]
  exact⟨H3,n2+1,rfl,by omega,(hk.trans e3 (by omega)).trans k1 (by omega)⟩
 ·intro he
  obtain⟨⟨g,x',y',z',f,H2,n2,e1,e2,e3,e4,e5,e6,e7,e8,e9⟩,hnl,hok,hft⟩:=o2 he
  simp only[Value.agg.injEq,Array.mk.injEq,List.cons.injEq,and_true] at e6
  obtain⟨rfl,rfl,rfl⟩:=e6
  have good:=JQ hft
  subst hnl
  have l8:=CX hw.1 good.np8
  have lens:(ints (ez ls nl)).length=8:=by rw[bj,l8]
  have t0:tupV (.tuple ⟨[.pointer (some ⟨g,0,none⟩),.agg ⟨ints (ez ls nl)⟩,.int .i64 0]⟩) 0=some (.pointer (some ⟨g,0,none⟩)):=rfl
  have t1:tupV (.tuple ⟨[.pointer (some ⟨g,0,none⟩),.agg ⟨ints (ez ls nl)⟩,.int .i64 0]⟩) 1=some (.agg ⟨ints (ez ls nl)⟩):=rfl
  have t2:tupV (.tuple ⟨[.pointer (some ⟨g,0,none⟩),.agg ⟨ints (ez ls nl)⟩,.int .i64 0]⟩) 2=some (.int .i64 0):=rfl
  have d0:decide ((0:Int)=0)=true:=rfl
  obtain⟨H3,k1,k2,k3⟩:=qx (P:=P) (ρ:=Value × Hp × Nat) (H:=H2) (n:=n2) (L:=ints (ez ls nl)) Fv rfl rY lens (fj _)
  have kk:Keep n H H3:=fun b hb=>by rw[k1 b (by omega),e3 b (by omega),hk b hb]
  obtain⟨hSb,hy⟩:=Cv good hw.1 hok
  have gp:=pads_range good
  obtain⟨r,H4,n4,s1,s2,s3,s4⟩:=goodSpread_call (ρ:=Value × Hp × Nat) l (UQ good hjs hw.1 hok) hSb hy (fun q hq=>(gp q hq).2.1) (fun q hq=>by have:=gp q hq; omega) (show g<n2+1 by omega) (e7.keep k1 e5) e8 ((h1.keep kk (Nat.le_refl _)).up (show n≤n2+1 by omega)) e9 good.kinds (by have:=good.np1; omega) good.nk3 l8 (Sz hw.1 hok)
  rw[e1,aj,t0,aj,t1,aj,t2,aj,k3,aJ ix,d0,Bool.not_true,eV,aQ,aj,cK k2 xq rY lens,aj,show l+18+7=l+25 by omega,s1]
  rcases s4 with⟨u,rw_,m2,rfl,q2,q3,q4⟩ | ⟨rfl,q2⟩
  ·have u0:tupV (.tuple ⟨[u,.bool true]⟩) 0=some u:=rfl
   have u1:tupV (.tuple ⟨[u,.bool true]⟩) 1=some (.bool true):=rfl
   rw[u0,aj,u1,aj,rX,aj,eV]
   exact⟨_,H4,n4,rfl,by omega,fun b hb=>by rw[s3 b (by omega),kk b hb],.inl ⟨u,rw_,m2,rfl,q2,q3,q4⟩⟩
  ·have u0:tupV (.tuple ⟨[.slice none 0 0,.bool false]⟩) 0=some (.slice none 0 0):=rfl
   have u1:tupV (.tuple ⟨[.slice none 0 0,.bool false]⟩) 1=some (.bool false):=rfl
   rw[u0,aj,u1,aj,uY,aj,fQ]
   exact⟨_,H4,n4,rfl,by omega,fun b hb=>by rw[s3 b (by omega),kk b hb],.inr ⟨rfl,q2⟩⟩
end Go.Proofs.Ytndkmmelelchcaa.spec
end
section
namespace Go.Proofs.Ytndkmmelelchcaa.spec
open Go Go.Ev Go.Proofs.Ytndkmmelelchcaa.nestFits Go.Proofs.Ytndkmmelelchcaa.G
set_option maxRecDepth 100000
theorem sent_at{js ks L:List Int}{nj np p o:Nat}{m:Net}(hN:isN L p)(ho:o<np):(nQ js ks L nj np m p).getD o 0=(sL js ks L nj np p).getD (o * 2) 0+m (8+o) p:=by
 unfold nQ
 rw[if_pos hN,List.getD_eq_getElem?_getD,List.getElem?_map,List.getElem?_range ho]
 rfl
theorem sent_good{js ks ps L:List Int}{nj np:Nat}{m:Net}(ok:LaidNests js ks L nj np)(hSb:∀ p,isN L p→fZ (sL js ks L nj np p))(hout:∀ p,isN L p→p<np)(h:Sending js ks ps L nj np (fun p q=>if p<8∧q<8 then m (8+q) p else 0)) :
  (∀ p,p<np→yJ js ks L nj np (nQ js ks L nj np m) p)∧Rw ps (nQ js ks L nj np m) np∧RowsIn (nQ js ks L nj np m) np:=by
 have np8:=ok.np8
 obtain⟨T,hT⟩:∃ T:Nat→Nat→Int,T=fun p q=>if p<8∧q<8 then m (8+q) p else 0:=⟨_,rfl⟩
 rw[← hT] at h
 have Tm:∀ p q,p<8→q<8→T p q=m (8+q) p:=fun p q hp hq=>by rw[hT]; exact if_pos ⟨hp,hq⟩
 have within:∀ p,isN L p→∀ o,o<np→(sL js ks L nj np p).getD (o * 2) 0≤(nQ js ks L nj np m p).getD o 0∧(nQ js ks L nj np m p).getD o 0≤(sL js ks L nj np p).getD (o * 2+1) 0:=fun p hp o ho=>by
  rw[sent_at hp ho,← Tm p o hp.1 (by omega)]
  have a:=h.ge p o
  have b:=h.le p o
  unfold wL at b
  rw[if_pos hp] at b
  omega
 refine⟨fun p hp=>?_,fun q hq=>?_,fun p hp=>?_⟩
 ·unfold yJ
  by_cases c:L.getD p 0=-1
  ·rw[if_pos c]
   unfold nQ
   rw[if_neg (fun h':isN L p=>h'.2 c)]
   rfl
  ·have hN:isN L p:=⟨by omega,c⟩
   rw[if_neg c]
   refine⟨?_,fun o ho=>within p hN o ho,?_⟩
   ·unfold nQ
    rw[if_pos hN]
    simp
   ·have e:ak (fun o=>(nQ js ks L nj np m p).getD o 0) np=ak (fun o=>(sL js ks L nj np p).getD (o * 2) 0) np+ak (T p) np:=by
     rw[← cQ]
     exact bz fun o ho=>by rw[sent_at hN ho,Tm p o hN.1 (by omega)]
    have e1:ak (fun o=>(sL js ks L nj np p).getD (o * 2) 0) 8=ak (fun o=>(sL js ks L nj np p).getD (o * 2) 0) np:=nJ np8 fun o ho _=>(ok.far p hN o ho).1
    have e2:ak (T p) 8=ak (T p) np:=nJ np8 fun o ho _=>sending_far ok h.ge h.le ho
    have r:=h.row p hN.1
    unfold cx at r
    rw[if_pos hN] at r
    have t:total (sL js ks L nj np p) 0=ak (fun o=>(sL js ks L nj np p).getD (o * 2) 0) 8:=rfl
    rw[e,← e1,← e2]
    show _=yL ks L p
    omega
 ·have e:oq (nQ js ks L nj np m) np q=lowL js ks L nj np q 8+ak (fun p=>T p q) 8:=by
   unfold oq lowL
   have e0:ak (fun p=>(nQ js ks L nj np m p).getD q 0) 8=ak (fun p=>(nQ js ks L nj np m p).getD q 0) np:=nJ np8 fun p hp _=>by
    unfold nQ
    rw[if_neg (fun h'=>by have:=hout p h'; omega)]
    rfl
   rw[← e0,← cQ]
   refine bz fun p hp=>?_
   by_cases c:isN L p
   ·rw[if_pos c,sent_at c hq,Tm p q hp (by omega)]
   ·rw[if_neg c]
    have a:=h.ge p q
    have b:=h.le p q
    unfold wL at b
    rw[if_neg c] at b
    unfold nQ
    rw[if_neg c]
    show(0:Int)=0+T p q
    omega
  rw[e]
  exact h.col q hq
 ·by_cases c:isN L p
  ·refine⟨.inr ?_,fun q=>?_⟩
   ·unfold nQ
    rw[if_pos c]
    simp
   ·by_cases hq:q<np
    ·have w:=within p c q hq
     have b1:=hSb p c (q * 2)
     have b2:=hSb p c (q * 2+1)
     omega
    ·have:(nQ js ks L nj np m p).getD q 0=0:=by
      rw[List.getD_eq_getElem?_getD,List.getElem?_eq_none]
      ·rfl
      ·unfold nQ
       rw[if_pos c]
       simp; omega
     rw[this]
     omega
  ·have e:nQ js ks L nj np m p=[]:=if_neg c
   rw[e]
   exact⟨.inl rfl,fun q=>by simp⟩
theorem laid_nest{ls:List Int}{np p:Nat}(h:ls.length=np)(hp:isN (ez ls np) p):p<np:=Classical.byContradiction fun c=>hp.2 (HJ h (by omega) hp.1)
theorem right_no_cut{js ks ps L:List Int}{nj np:Nat}(ok:LaidNests js ks L nj np)(hSb:∀ p,isN L p→fZ (sL js ks L nj np p))(hL:L.length=8)(hr:RightL js ks ps L nj np):¬ ∃(A B:Nat→Bool) (b e:Bool),(b=true→e=true)∧canC js ks ps L nj np A B b e<yQ js ks ps L nj np A B b e:=by
 rintro⟨A,B,b,e,hbe,hlt⟩
 obtain⟨T,hT⟩:=right_sends ok hL hr
 have:=cuts_of_sending ok (fun p hp q=>(hSb p hp (q * 2)).1) hT A B b e hbe
 omega
theorem fault_some{js ks ps L X:List Int}{nj np:Nat}(hX:RowIs X js ks L nj np 8)(hnp:np≤8)(hr:¬ RightL js ks ps L nj np):0<(lV (DV X ps) np).length+(lV (DW X ps) np).length:=by
 refine Classical.byContradiction fun hc=>hr fun q hq=>?_
 have h1:lV (DV X ps) np=[]:=List.length_eq_zero_iff.1 (by omega)
 have h2:lV (DW X ps) np=[]:=List.length_eq_zero_iff.1 (by omega)
 obtain⟨x1,x2⟩:=hX.2 q (by omega)
 have none:∀ f:Nat→Bool,lV f np=[]→f q=false:=fun f h=>by
  cases c:f q with
  | false=>rfl
  | true=>
   have:(q:Int) ∈ lV f np:=by
    unfold lV
    exact List.mem_map.2 ⟨q,List.mem_filter.2 ⟨List.mem_range.2 hq,c⟩,rfl⟩
   rw[h] at this
   cases this
 have m:=none _ h1
 have o:=none _ h2
 unfold DV at m
 unfold DW at o
 have m:=of_decide_eq_false m
 have o:=of_decide_eq_false o
 rw[x1] at m
 rw[x2] at o
 exact⟨m,o⟩
end Go.Proofs.Ytndkmmelelchcaa.spec
end
section
namespace Go.Proofs.Ytndkmmelelchcaa.nestBounds
open Go.ChangeShapes Go.WideShapes Go.ChangeAt Go.RowKit Go.Ev Go.Proofs.Ytndkmmelelchcaa.nestFits
theorem flat3:QX Try.prog 5 3=some 1:=by kernel_rfl
theorem bytes3:1≤Try.prog.bytesOf 3:=by decide +kernel
def Says(f:Nat):Prop:=∀(H:Hp) (n:Nat) (v w:Value) np nj nk ps js ks nl ls,GroveI H n v np nj nk ps js ks→spec.ListR H n w nl ls →
 ∃ l H' n',(calE G.P G.A (G.KK+1) G.tab.get l).call f [v,w] H n=some (.bool true,H',n')
set_option maxRecDepth 100000
theorem there{W:World}{base:Nat}{b o len cap:Nat}{H:Hp}(hH:∀ i,H.get i=Dw W i)(hok:Cell.okWide Try.prog W .any base 44 (.slice (some ⟨b,o,none⟩) len cap)):∃ c,H.get b=some (.rows c):=by
 simp only[Cell.okWide,Try.underlying44,Cell.ok] at hok
 obtain⟨_,_,_,hsp,row,cells,hshape,_⟩:=hok
 rw[hH]
 unfold Dw
 unfold World.shape? at hshape
 dsimp only at hshape
 cases hb:W.heap[b]? with
 | none=>rw[hb] at hshape; simp at hshape
 | some B=>
  rw[hb] at hshape
  cases B with
  | cells arr x y=>exact⟨_,rfl⟩
  | _=>simp at hshape
theorem list_in{W:World}{base n len:Nat}{w:Value}{xs:List Int}{H:Hp}(hH:∀ i,H.get i=Dw W i)(hok:Cell.okWide Try.prog W .any base 44 w)(h:SliceI H n 1 w len xs):spec.ListR H n w len xs:=by
 obtain⟨h1,h2,h3⟩:=h
 refine⟨by omega,h2,?_⟩
 rcases h3 with h3 | ⟨b,o,cap,e,a1,a2,a3,a4⟩
 ·exact .inl h3
 ·refine .inr ⟨b,o,cap,e,a3,?_⟩
  rcases a4 with rfl | a4
  ·subst e
   obtain⟨c,hc⟩:=there hH hok
   have:xs=[]:=List.length_eq_zero_iff.1 (by omega)
   subst this
   exact⟨_,c,hc,rfl,fun k v h=>by simp [ints] at h⟩
  ·exact a4
theorem cells_one{W:World}{base:Nat}{w:Value}(hok:Cell.okWide Try.prog W .any base 44 w):w.cells.toList=[w]:=by
 cases w with
 | slice a l c=>rfl
 | _=>simp only[Cell.okWide,Try.underlying44,Cell.ok] at hok
set_option maxRecDepth 100000 in
theorem walk(hs:Says 4){K:Type}{enc:TypeId × Value→K}{W:World}{base:Nat}{v w:Value}{d d':DataW K}{p p':List MemPlace}
  (hok:Value.okWide Try.prog W .any base 26 v) (ht:DataW.Trod enc Try.prog W 0 (fun _=>true) true 26 v d p) (hw:∀ n ∈ d.weights Try.prog 26,n≤reachBytes)
  (hok':Value.okWide Try.prog W .any base 44 w) (ht':DataW.Trod enc Try.prog W 0 (fun _=>true) true 44 w d' p') (hw':∀ n ∈ d'.weights Try.prog 44,n≤reachBytes) :
  Calls Try.prog 4 #[v,w] W fun e w'=>e=.returned (.bool true)∧Grown W w'∧∀ b,b<W.heap.size→w'.heap[b]?=W.heap[b]?:=by
 obtain⟨H,hH,hI⟩:=I.start W
 obtain⟨np,nj,nk,ps,js,ks,hg,hv⟩:=qiz hH hok ht hw
 have hc:Cell.okWide Try.prog W .any base 44 w:=by
  unfold Value.okWide at hok'
  rw[Try.underlying44] at hok'
  exact hok'
 obtain⟨fuel,ht'⟩:=ht'
 rw[cells_one hc] at ht'
 obtain⟨nl,ls,hsl,hv'⟩:=LK hH Try.underlying44 flat3 (by omega) bytes3 ht' hw' hc
 obtain⟨l,H',n',e⟩:=hs H W.heap.size v w np nj nk ps js ks nl ls hg (list_in hH hc hsl)
 refine(uy G.tab_ok hI (VRL.cons hv (VRL.cons hv' VRL.nil)) e rfl).mono ?_
 rintro en w' ⟨h1,h2,h3,h4,h5,h6,h7⟩
 exact⟨h1,qiq h2 h4 h5 h6 h7,h6⟩
set_option maxRecDepth 100000 in
theorem lifted(hs:Says 4)(os:Os)(started:os.Started)(H:Type)(enc:TypeId × Value→H) :
  ReturnsInHanded {} Try.checked os 4 .any (Rows.nestBoundsSpec.pre6 enc Try.prog Try.f4 Rows.nestBoundsRow.domain false) (Rows.nestBoundsSpec.post enc Try.prog Try.f4 false true false false):=by
 refine returnsInHanded_of_change_sized (C:=Try.checked) own started (by kernel_rfl) Try.func4
  (ChangeSpec.witness6 (enc:=enc) (C:=Try.checked) false ⟨#[],#[.agg #[.slice none 0 0,.slice none 0 0,.slice none 0 0],.slice none 0 0],[]⟩ 8 (by kernel_rfl) (by kernel_rfl) (by kernel_rfl) (by kernel_rfl)) ?_
 intro W base args ds gs before hval0 hW hcnd hsz _
 have hval:∀(j:Nat) t v,Try.f4.params[j]?=some t→args[j]?=some v→Value.okWide Try.prog W .any base t v:=hval0
 have hW':=hW
 obtain⟨p,q,hA0,hV,rfl,hfz,hnd⟩:=hW
 have hA:DataW.TrodAll enc Try.prog W 0 (fun _=>true) true Try.f4.params.toList args.toList ds p:=hA0
 have hAk:=hA
 rw[Try.params4] at hA hval
 obtain⟨v,w,d,d',p0,p1,rfl,rfl,rfl,h0,h1⟩:=trodAll_two hA
 obtain⟨rfl,rfl⟩:=trodVars_none hV
 simp only[List.append_nil] at hW' hAk
 have hall:∀ n ∈ d.weights Try.prog 26++(d'.weights Try.prog 44++[]),n≤reachBytes:=by
  intro n hn
  have hm:n ∈ DataW.weightsEach Try.checked.prog (Try.f4.params.toList++DataSpec.varTypes Try.checked.prog Rows.nestBoundsSpec.plain) ([d,d']++[]):=by
   rw[Try.params4]
   exact hn
  have:=List.all_eq_true.1 hsz n hm
  simpa using this
 refine(walk hs (hval 0 26 v rfl rfl) h0 (fun n hn=>hall n (List.mem_append_left _ hn)) (hval 1 44 w rfl rfl) h1 (fun n hn=>hall n (List.mem_append_right _ (List.mem_append_left _ hn)))).mono fun e W' ⟨he,hg,hk⟩=>?_
 subst he
 exact⟨_,rfl,post_of_same (pv:=[]) hW' (fun _ _ _=>(trodAll_cons_mk (shut_bool Try.underlying4 _) trodAll_mk0))
  (fun sp hsp=>DataW.TrodAll.respare kids full (by rw[Try.params4]; decide +kernel) (TV hk hAk) hsp) (fun _ _=>rfl) (by simp)
  (hg.frame _) hg.2.1 (ok_one (by kernel_rfl) rfl (okWide_bool_mk Try.underlying4 _))⟩
theorem over(hs:Says 4):Rows.nestBoundsRow.holds Try.pinned (OpenSpec.ofChange Rows.nestBoundsSpec):=
 OpenClaim.holds_of_wide 4 Try.f4 rfl rfl rfl rfl rfl rfl rfl ⟨rfl,rfl,rfl,rfl,rfl⟩ rfl rfl rfl rfl rfl (by kernel_rfl) Try.func4 (by kernel_rfl)
  (of_decide_eq_true (by kernel_rfl)) (by unfold Func.isWrapper; first | (rw[if_pos (by decide +kernel)]; kernel_rfl) | (rw[if_neg (by decide +kernel)]; exact⟨rfl,rfl⟩))
  (fun os started H enc _=>lifted hs os started H enc)
theorem said(hs:Says 4):Rows.NestBoundsSaid:=over hs
end Go.Proofs.Ytndkmmelelchcaa.nestBounds
end
section
namespace Go.Proofs.Ytndkmmelelchcaa.nestGood
open Go.ChangeShapes Go.WideShapes Go.ChangeAt Go.RowKit Go.Ev Go.Proofs.Ytndkmmelelchcaa.nestFits Go.Proofs.Ytndkmmelelchcaa.nestBounds
def Says(f:Nat):Prop:=∀(H:Hp) (n:Nat) (v w:Value) np nj nk ps js ks nl ls,GroveI H n v np nj nk ps js ks→spec.ListR H n w nl ls →
 ∃ l H' n',(calE G.P G.A (G.KK+1) G.tab.get l).call f [v,w] H n=some (.bool true,H',n')
set_option maxRecDepth 100000 in
theorem walk(hs:Says 14){K:Type}{enc:TypeId × Value→K}{W:World}{base:Nat}{v w:Value}{d d':DataW K}{p p':List MemPlace}
  (hok:Value.okWide Try.prog W .any base 26 v) (ht:DataW.Trod enc Try.prog W 0 (fun _=>true) true 26 v d p) (hw:∀ n ∈ d.weights Try.prog 26,n≤reachBytes)
  (hok':Value.okWide Try.prog W .any base 44 w) (ht':DataW.Trod enc Try.prog W 0 (fun _=>true) true 44 w d' p') (hw':∀ n ∈ d'.weights Try.prog 44,n≤reachBytes) :
  Calls Try.prog 14 #[v,w] W fun e w'=>e=.returned (.bool true)∧Grown W w'∧∀ b,b<W.heap.size→w'.heap[b]?=W.heap[b]?:=by
 obtain⟨H,hH,hI⟩:=I.start W
 obtain⟨np,nj,nk,ps,js,ks,hg,hv⟩:=qiz hH hok ht hw
 have hc:Cell.okWide Try.prog W .any base 44 w:=by
  unfold Value.okWide at hok'
  rw[Try.underlying44] at hok'
  exact hok'
 obtain⟨fuel,ht'⟩:=ht'
 rw[cells_one hc] at ht'
 obtain⟨nl,ls,hsl,hv'⟩:=LK hH Try.underlying44 flat3 (by omega) bytes3 ht' hw' hc
 obtain⟨l,H',n',e⟩:=hs H W.heap.size v w np nj nk ps js ks nl ls hg (list_in hH hc hsl)
 refine(uy G.tab_ok hI (VRL.cons hv (VRL.cons hv' VRL.nil)) e rfl).mono ?_
 rintro en w' ⟨h1,h2,h3,h4,h5,h6,h7⟩
 exact⟨h1,qiq h2 h4 h5 h6 h7,h6⟩
set_option maxRecDepth 100000 in
theorem lifted(hs:Says 14)(os:Os)(started:os.Started)(H:Type)(enc:TypeId × Value→H) :
  ReturnsInHanded {} Try.checked os 14 .any (Rows.nestGoodSpec.pre6 enc Try.prog Try.f14 Rows.nestGoodRow.domain false) (Rows.nestGoodSpec.post enc Try.prog Try.f14 false true false false):=by
 refine returnsInHanded_of_change_sized (C:=Try.checked) own started (by kernel_rfl) Try.func14
  (ChangeSpec.witness6 (enc:=enc) (C:=Try.checked) false ⟨#[],#[.agg #[.slice none 0 0,.slice none 0 0,.slice none 0 0],.slice none 0 0],[]⟩ 14 (by kernel_rfl) (by kernel_rfl) (by kernel_rfl) (by kernel_rfl)) ?_
 intro W base args ds gs before hval0 hW hcnd hsz _
 have hval:∀(j:Nat) t v,Try.f14.params[j]?=some t→args[j]?=some v→Value.okWide Try.prog W .any base t v:=hval0
 have hW':=hW
 obtain⟨p,q,hA0,hV,rfl,hfz,hnd⟩:=hW
 have hA:DataW.TrodAll enc Try.prog W 0 (fun _=>true) true Try.f14.params.toList args.toList ds p:=hA0
 have hAk:=hA
 rw[Try.params14] at hA hval
 obtain⟨v,w,d,d',p0,p1,rfl,rfl,rfl,h0,h1⟩:=trodAll_two hA
 obtain⟨rfl,rfl⟩:=trodVars_none hV
 simp only[List.append_nil] at hW' hAk
 have hall:∀ n ∈ d.weights Try.prog 26++(d'.weights Try.prog 44++[]),n≤reachBytes:=by
  intro n hn
  have hm:n ∈ DataW.weightsEach Try.checked.prog (Try.f14.params.toList++DataSpec.varTypes Try.checked.prog Rows.nestGoodSpec.plain) ([d,d']++[]):=by
   rw[Try.params14]
   exact hn
  have:=List.all_eq_true.1 hsz n hm
  simpa using this
 refine(walk hs (hval 0 26 v rfl rfl) h0 (fun n hn=>hall n (List.mem_append_left _ hn)) (hval 1 44 w rfl rfl) h1 (fun n hn=>hall n (List.mem_append_right _ (List.mem_append_left _ hn)))).mono fun e W' ⟨he,hg,hk⟩=>?_
 subst he
 exact⟨_,rfl,post_of_same (pv:=[]) hW' (fun _ _ _=>(trodAll_cons_mk (shut_bool Try.underlying4 _) trodAll_mk0))
  (fun sp hsp=>DataW.TrodAll.respare kids full (by rw[Try.params14]; decide +kernel) (TV hk hAk) hsp) (fun _ _=>rfl) (by simp)
  (hg.frame _) hg.2.1 (ok_one (by kernel_rfl) rfl (okWide_bool_mk Try.underlying4 _))⟩
theorem over(hs:Says 14):Rows.nestGoodRow.holds Try.pinned (OpenSpec.ofChange Rows.nestGoodSpec):=
 OpenClaim.holds_of_wide 14 Try.f14 rfl rfl rfl rfl rfl rfl rfl ⟨rfl,rfl,rfl,rfl,rfl⟩ rfl rfl rfl rfl rfl (by kernel_rfl) Try.func14 (by kernel_rfl)
  (of_decide_eq_true (by kernel_rfl)) (by unfold Func.isWrapper; first | (rw[if_pos (by decide +kernel)]; kernel_rfl) | (rw[if_neg (by decide +kernel)]; exact⟨rfl,rfl⟩))
  (fun os started H enc _=>lifted hs os started H enc)
theorem said(hs:Says 14):Rows.NestGoodSaid:=over hs
end Go.Proofs.Ytndkmmelelchcaa.nestGood
end
section
namespace Go.Proofs.Ytndkmmelelchcaa.spec
open Go.Ev Go.Proofs.Ytndkmmelelchcaa.nestFits Go.Proofs.Ytndkmmelelchcaa.G
set_option maxRecDepth 1000000
noncomputable def isB(c:Bool)(r:Res):Bool:=match r with
 | some (.bool b,_,_)=>b == c
 | _=>false
theorem isB_eq{c:Bool}{r:Res}(h:isB c r=true):∃ H n,r=some (.bool c,H,n):=by
 unfold isB at h
 split at h
 ·rename_i b H n
  have h:=eq_of_beq h
  subst h
  exact⟨H,n,rfl⟩
 ·cases h
theorem run_awake:isB true ((cal 60).call 16 [] .nil 0)=true:=by kernel_rfl
theorem flat16:fX P 16=true:=by kernel_rfl
theorem awake_call{ρ:Type}(H:Hp)(n:Nat)(k:Value→Hp→Nat→Option ρ):aY P (cal 60) 16 [] H n k=k (.bool true) H n:=by
 obtain⟨H',n',e⟩:=isB_eq run_awake
 exact gz flat16 rfl e rfl
end Go.Proofs.Ytndkmmelelchcaa.spec
end
section
namespace Go.Proofs.Ytndkmmelelchcaa.spec
open Go Go.Ev Go.Proofs.Ytndkmmelelchcaa.nestFits Go.Proofs.Ytndkmmelelchcaa.G
set_option maxRecDepth 100000
variable {ρ:Type}
theorem flat37:fX P 37=false:=by kernel_rfl
theorem call37(l:Nat)(a b:Value)(H:Hp)(n:Nat):(cal (l+1)).call 37 [a,b] H n=ZY (cal l) KK a b H n:=by kernel_rfl
theorem Show_call(l:Nat)(v w:Value)(H:Hp)(n:Nat)(k:Value→Hp→Nat→Option ρ):aY P (cal (l+1)) 37 [v,w] H n k=aq (ZY (cal l) KK v w H n) fun r=>k r.1 r.2.1 r.2.2:=by
 unfold aY
 rw[flat37,call37]
 rfl
theorem DX{np nj nk nl:Nat}{ps js ks ls:List Int}(h:eY np nj nk nl ps js ks ls=0):Good np nj nk ps js ks∧nl=np∧zq js ks ls nj np nk:=by
 unfold eY at h
 by_cases c1:ij np nj nk ps js ks≠0
 ·rw[if_pos c1] at h; exact absurd h c1
 ·rw[if_neg c1] at h
  by_cases c2:nl=np∧zq js ks ls nj np nk
  ·exact⟨JQ (Decidable.not_not.1 c1),c2.1,c2.2⟩
  ·rw[if_neg c2] at h; omega
theorem good_core(c:Cal){np nj nk nl:Nat}{ps js ks ls:List Int}{w:Value}{Rd:Prop}
  (Hawake:∀(H:Hp) (n:Nat) (k:Value→Hp→Nat→Res),aY P c 16 [] H n k=k (.bool true) H n)
  (Hready:∀(H:Hp) (n:Nat) (v:Value),GroveI H n v np nj nk ps js ks→ListR H n w nl ls→∃(r:Bool) (H':Hp) (n':Nat),(r=true↔Rd)∧(∀ k:Value→Hp→Nat→Res,aY P c 55 [v,w] H n k=k (.bool r) H' n')∧n≤n'∧Keep n H H')
  (Hgrove:Rd→∀(H:Hp) (n:Nat) (v:Value),GroveI H n v np nj nk ps js ks→∃ u H' n',(∀ k:Value→Hp→Nat→Res,aY P c 18 [v] H n k=k u H' n')∧n≤n'∧Keep n H H'∧iZ H' n' u np nj nk ps js ks)
  (Hlist:Rd→∀(H:Hp) (n:Nat),ListR H n w nl ls→∃ u H' n',(∀ k:Value→Hp→Nat→Res,aY P c 23 [w] H n k=k u H' n')∧n≤n'∧Keep n H H'∧ListR H' n' u nl ls)
  (Hshow:Rd→∀(H:Hp) (n:Nat) (v u:Value),iZ H n v np nj nk ps js ks→ListR H n u nl ls→∃ r H' n',(∀ k:Value→Hp→Nat→Res,aY P c 37 [v,u] H n k=k r H' n')∧n≤n'∧Keep n H H'∧ShowOut js ks ps (ez ls np) nj np r H' n')
  (Hfaults:Rd→∀(H:Hp) (n:Nat) (v u:Value),iZ H n v np nj nk ps js ks→ListR H n u nl ls→∃(u4 u5:Value) (a b:Nat) (xs ys:List Int) (H':Hp) (n':Nat),(∀ k:Value→Hp→Nat→Res,aY P c 24 [v,u] H n k=k (.tuple ⟨[u4,u5,.int .i64 0]⟩) H' n')∧n≤n'∧Keep n H H'∧ListR H' n' u4 a xs∧ListR H' n' u5 b ys∧a≤8∧b≤8 ∧
   ((∃(A B:Nat→Bool) (p e:Bool),(p=true→e=true)∧canC js ks ps (ez ls np) nj np A B p e<yQ js ks ps (ez ls np) nj np A B p e)→0<a+b))
  (Hprove:Rd→∀(H:Hp) (n:Nat) (v u t:Value) (rw_:Nat→Value) (m2:Net),iZ H n v np nj nk ps js ks→ListR H n u nl ls→eQ H n t np rw_ (nQ js ks (ez ls np) nj np m2)→bx t=false→Sending js ks ps (ez ls np) nj np (fun p q=>if p<8∧q<8 then m2 (8+q) p else 0) →
   ∃(H':Hp) (n':Nat),(∀ k:Value→Hp→Nat→Res,aY P c 38 [v,u,t] H n k=k (.bool true) H' n')∧n≤n'∧Keep n H H')
  (Hgood:Rd→∀(H:Hp) (n:Nat) (v t:Value) (rw_:Nat→Value) (m2:Net),GroveI H n v np nj nk ps js ks→eQ H n t np rw_ (nQ js ks (ez ls np) nj np m2)→bx t=false→Sending js ks ps (ez ls np) nj np (fun p q=>if p<8∧q<8 then m2 (8+q) p else 0) →
   ∃(H':Hp) (n':Nat),(∀ k:Value→Hp→Nat→Res,aY P c 40 [v,t] H n k=k (.bool true) H' n')∧n≤n'∧Keep n H H')
  {H:Hp} {n:Nat} {v:Value} (hg:GroveI H n v np nj nk ps js ks) (hw:ListR H n w nl ls):∃ H' n',B14_0 c KK v w H n=some (.bool true,H',n'):=by
 have hg0:=hg
 obtain⟨x,y,z,rfl,h1,h2,h3⟩:=hg.eq
 unfold B14_0
 rw[dv]
 simp only[bv,ptr]
 have hk:Keep n H (H.set n (some (.cells [x,y,z] 26 false none))):=(Keep.refl n H).set (Nat.le_refl _) _
 have hb:aZ (H.set n (some (.cells [x,y,z] 26 false none))) n 0 [x,y,z]:=aZ.new
 generalize H.set n (some (.cells [x,y,z] 26 false none))=H1 at hk hb ⊢
 have ld:∀ H2,aZ H2 n 0 [x,y,z]→az P H2 26 ⟨n,0,none⟩=some (.agg ⟨[x,y,z]⟩):=fun H2 h=>Sv h h1.hole.1 h2.hole.1 h3.hole.1
 have hg1:GroveI H1 (n+1) (.agg ⟨[x,y,z]⟩) np nj nk ps js ks:=hg0.keep hk (by omega)
 have hw1:ListR H1 (n+1) w nl ls:=hw.keep hk (by omega)
 obtain⟨t,H2,n2,t1,t2,t3,t4⟩:=Hready H1 (n+1) _ hg1 hw1
 rw[aQ,aj,ld H1 hb,aj,t2]
 cases t with
 | false=>
  rw[uY,aj,fQ,Hawake]
  exact⟨_,_,rfl⟩
 | true=>
  have rd:=t1.1 rfl
  have hb2:=hb.keep t4 (by omega)
  have hg2:=hg1.keep t4 t3
  have hw2:=hw1.keep t4 t3
  obtain⟨gv,H3,n3,a1,a2,a3,a4⟩:=Hgrove rd H2 n2 _ hg2
  obtain⟨lv,H4,n4,b1,b2,b3,b4⟩:=Hlist rd H3 n3 (hw2.keep a3 a2)
  obtain⟨r,H5,n5,c1,c2,c3,c4⟩:=Hshow rd H4 n4 gv lv (a4.keep b3 b2) b4
  have k5:Keep n2 H2 H5:=(a3.trans b3 a2).trans c3 (by omega)
  obtain⟨gv2,H6,n6,d1,d2,d3,d4⟩:=Hgrove rd H5 n5 _ (hg2.keep k5 (by omega))
  obtain⟨lv2,H7,n7,e1,e2,e3,e4⟩:=Hlist rd H6 n6 ((hw2.keep k5 (show n2≤n5 by omega)).keep d3 d2)
  obtain⟨u4,u5,qa,qb,xs,ys,H8,n8,f1,f2,f3,f4,f5,f6,f7,f8⟩:=Hfaults rd H7 n7 gv2 lv2 (d4.keep e3 e2) e4
  have k8':Keep n5 H5 H8:=(d3.trans e3 d2).trans f3 (by omega)
  have k8:Keep n2 H2 H8:=k5.trans k8' (by omega)
  have tup:∀ a b:Value,tupV (.tuple ⟨[a,b]⟩) 0=some a∧tupV (.tuple ⟨[a,b]⟩) 1=some b:=fun _ _=>⟨rfl,rfl⟩
  have tup3:∀ a b c:Value,tupV (.tuple ⟨[a,b,c]⟩) 0=some a∧tupV (.tuple ⟨[a,b,c]⟩) 1=some b∧tupV (.tuple ⟨[a,b,c]⟩) 2=some c:=fun _ _ _=>⟨rfl,rfl,rfl⟩
  have d00:decide ((0:Int)=0)=true:=rfl
  have d90:decide ((9:Int)=0)=false:=rfl
  have d99:decide ((9:Int)=9)=true:=rfl
  have hb5:=hb2.keep k5 (by omega)
  have hb8:=hb2.keep k8 (by omega)
  rw[rX,aj,eV,aj,ld H2 hb2,aj,a1,b1,c1]
  rcases c4 with⟨u,rw_,m2,rfl,q1,q2,q3⟩ | ⟨rfl,cut⟩
  ·rw[(tup _ _).1,aj,(tup _ _).2,aj,aj,ld H5 hb5,aj,d1,e1,f1,(tup3 _ _ _).1,aj,(tup3 _ _ _).2.1,aj,(tup3 _ _ _).2.2,aj,aJ ix,d00,Bool.not_true,eV,aJ ix,d00,Bool.not_true,eV,aj,ld H8 hb8,aj]
   obtain⟨gv3,H9,n9,g1,g2,g3,g4⟩:=Hgrove rd H8 n8 _ (hg2.keep k8 (by omega))
   obtain⟨lv3,H10,n10,i1,i2,i3,i4⟩:=Hlist rd H9 n9 ((hw2.keep k8 (show n2≤n8 by omega)).keep g3 g2)
   have k10:Keep n8 H8 H10:=g3.trans i3 g2
   have sp10:eQ H10 n10 u np rw_ (nQ js ks (ez ls np) nj np m2):=(q2.keep k8' (show n5≤n8 by omega)).keep k10 (by omega)
   obtain⟨H11,n11,j1,j2,j3⟩:=Hprove rd H10 n10 gv3 lv3 u rw_ m2 (g4.keep i3 i2) i4 sp10 q1 q3
   have k11:Keep n2 H2 H11:=(k8.trans k10 (by omega)).trans j3 (by omega)
   obtain⟨H12,n12,l1,l2,l3⟩:=Hgood rd H11 n11 _ u rw_ m2 (hg2.keep k11 (by omega)) (sp10.keep j3 j2) q1 q3
   rw[g1,i1,j1]
   simp only[eW,aj,ld H11 (hb2.keep k11 (by omega)),l1,dY,Hawake]
   exact⟨_,_,rfl⟩
  ·have pos:=f8 cut
   have hI:I64 ((qa:Int)+qb):=by unfold I64; omega
   have len0:lenV P 59 (.slice none 0 0)=some (.int .i64 0):=by kernel_rfl
   have dpos:decide (0<(qa:Int)+(qb:Int))=true:=decide_eq_true (by omega)
   rw[(tup _ _).1,aj,(tup _ _).2,aj,aj,ld H5 hb5,aj,d1,e1,f1,(tup3 _ _ _).1,aj,(tup3 _ _ _).2.1,aj,(tup3 _ _ _).2.2,aj,aJ ix,d00,Bool.not_true,eV,aJ ix,d90,Bool.not_false,fQ,aJ lY,d99]
   simp only[eW,f4.len_eq,f5.len_eq,aj,aJ (bW hI),aJ vx,dpos,dY,len0,aJ lY,Hawake]
   exact⟨_,_,rfl⟩
end Go.Proofs.Ytndkmmelelchcaa.spec
end
